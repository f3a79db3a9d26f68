import Derived.Test.YtehobnpoeodhkaaTv
namespace Go.Abs
open Go
section
variable {γ : Type} {P : Program} {E : Env γ} {T : List Value} {H : AHeap} {g : γ} {R : List Value → AHeap → γ → Prop} {ops : Array Oper} {dst : Option Tmp} {ty : TypeId} {ps : String} {af : Array Edge} {rest : List Oper}
/-- a copy: append([]T{}, l...), of something or of nothing -/
theorem st_appendCopyW {α : Type} {enc : α → List Value} {w : Nat} {l : List α} {Hx : AHeap} {s x : Operand} {t e : TypeId} {n : Nat} {z : Value} {b : Nat} {d' : TypeDesc} {z' : Value} {b' : Nat} {v : Value} {i0 cp : Nat} [ht : TyC P t (.slice e) n z b] [he : TyC P e d' w z' b']
    (hr : RdS Hx v w (l.map enc)) (hext : Ext Hx H) (hz' : (cellsL z').length = w) (hok : ∀ a, (enc a).all cellOk = true) (hs_ : evalT T s = .slice (some ⟨i0, 0, none⟩) 0 cp) (hi0 : H[i0]? = some (.row [] w true)) (hx : evalT T x = v) (hn : l.length ≤ 1000000) (hb : b' ≤ 1000)
    (k : ∀ j c H2, i0 ≤ j → H2[j]? = some (.row (l.map enc).flatten w true) → (∀ H0, Ext H0 H → H0.length ≤ i0 → Ext H0 H2) → (∀ i o, i ≠ i0 → H[i]? = some o → H2[i]? = some o) → H.length ≤ H2.length → OpsJ P E ops R rest (putT T dst (.slice (some ⟨j, 0, none⟩) l.length c)) H2 g) : OpsJ P E ops R (⟨dst, .call { callee := .builtin .append, args := #[s, x], argTypes := #[t, t] }, ty, ps, af, none⟩ :: rest) T H g := by
  have hi0l := (List.getElem?_eq_some_iff.1 hi0).1
  obtain ⟨hlen, h⟩ := hr
  have hm : maxLen = 9223372036854775807 := by decide
  cases l with
  | nil =>
    have hv : ∃ a c, v = .slice a 0 c := by
      rcases h with ⟨i, o, c, row, es', own, a, _⟩ | ⟨_, a | a⟩
      · exact ⟨_, _, a⟩
      · exact ⟨_, _, a⟩
      · exact ⟨_, _, a⟩
    obtain ⟨a, c, rfl⟩ := hv
    exact st_appendZero hs_ hx (k i0 cp H (Nat.le_refl _) hi0 (fun _ h _ => h) (fun _ _ _ h => h) (Nat.le_refl _))
  | cons y l =>
    rcases h with ⟨i, o, c, row, es', own, a, b1, b2, b3⟩ | ⟨h, _⟩
    · rw [List.length_map] at a b2 b3
      have hlb : (0 + (y :: l).length) * b' ≤ 140737488355328 := by
        have := Nat.mul_le_mul hn hb
        rw [Nat.zero_add]
        omega
      refine st_appendOwn hz' hs_ (hx.trans a) hi0 (by simp) (hext.get b1) b2 b3 ?_ ⟨by rw [hm]; omega, hlb⟩ ?_
      · rw [List.all_eq_true]
        intro u hu
        obtain ⟨q, hq, huq⟩ := List.mem_flatten.1 hu
        obtain ⟨p, _, rfl⟩ := List.mem_map.1 hq
        exact List.all_eq_true.1 (hok p) u huq
      · have hl2 : (H.set i0 .dead ++ [AObj.row ((y :: l).map enc).flatten w true]).length = H.length + 1 := by simp
        have k2 := k H.length (y :: l).length (H.set i0 .dead ++ [AObj.row ((y :: l).map enc).flatten w true]) (by omega) (by rw [List.getElem?_append_right (by simp)]; simp)
          (fun H0 he h0 => by
            obtain ⟨L, rfl⟩ := he
            rw [List.set_append_right _ _ h0]
            exact ⟨_, by rw [List.append_assoc]⟩)
          (fun i o hne hio => by
            have hil := (List.getElem?_eq_some_iff.1 hio).1
            rw [List.getElem?_append_left (by simpa using hil), List.getElem?_set_ne (Ne.symm hne)]
            exact hio) (by omega)
        simpa using k2
    · simp at h
end
end Go.Abs
namespace Go.Proofs.Ytehobnpoeodhkaa
open Go Go.Abs Go.Proofs
set_option maxHeartbeats 800000
attribute [local irreducible] CallJ OpsJ WPJ CallV MonoJ SpecJ

theorem rowY {α : Type} {enc : α → List Value} {w : Nat} (hw : ∀ a, (enc a).length = w) {H : AHeap} {i c : Nat} {own : Bool} {l : List α} (h : H[i]? = some (.row (l.map enc).flatten w own)) : RdS H (.slice (some ⟨i, 0, none⟩) l.length c) w (l.map enc) := by
  have h1 := flatten_lenG hw l
  refine ⟨fun x hx => by obtain ⟨a, _, rfl⟩ := List.mem_map.1 hx; exact hw a, .inl ⟨i, 0, c, _, w, own, by simp, h, by simp only [List.length_map]; omega, ?_⟩⟩
  rw [List.drop_zero]
  exact List.take_of_length_le (by simp only [List.length_map]; omega)
theorem fminY : ∀ (l : List Int) (a c : Int), c ≤ l.foldl min a ↔ c ≤ a ∧ ∀ x ∈ l, c ≤ x
  | [], a, c => by simp
  | x :: l, a, c => by
    rw [List.foldl_cons, fminY l (min a x) c]
    simp only [List.mem_cons, forall_eq_or_imp]
    rw [show c ≤ min a x ↔ c ≤ a ∧ c ≤ x by omega, and_assoc]
theorem fmaxY : ∀ (l : List Int) (a c : Int), l.foldl max a ≤ c ↔ a ≤ c ∧ ∀ x ∈ l, x ≤ c
  | [], a, c => by simp
  | x :: l, a, c => by
    rw [List.foldl_cons, fmaxY l (max a x) c]
    simp only [List.mem_cons, forall_eq_or_imp]
    rw [show max a x ≤ c ↔ a ≤ c ∧ x ≤ c by omega, and_assoc]
theorem lo_le {l : List (List Int)} {q q' : List Int → Int} (h : ∀ x ∈ l, q' x ≤ q x) : loS l q' ≤ loS l q := by
  unfold loS
  have k := (fminY (l.map q') 9223372036854775807 _).1 (Int.le_refl _)
  refine (fminY _ _ _).2 ⟨k.1, fun y hy => ?_⟩
  obtain ⟨x, hx, rfl⟩ := List.mem_map.1 hy
  exact Int.le_trans (k.2 _ (List.mem_map.2 ⟨x, hx, rfl⟩)) (h x hx)
theorem hi_le {l : List (List Int)} {q q' : List Int → Int} (h : ∀ x ∈ l, q' x ≤ q x) : hiS l q' ≤ hiS l q := by
  unfold hiS
  have k := (fmaxY (l.map q) (-9223372036854775808) _).1 (Int.le_refl _)
  refine (fmaxY _ _ _).2 ⟨k.1, fun y hy => ?_⟩
  obtain ⟨x, hx, rfl⟩ := List.mem_map.1 hy
  exact Int.le_trans (h x hx) (k.2 _ (List.mem_map.2 ⟨x, hx, rfl⟩))
theorem checkY {m : HouseM} (h : Good m) : checkS m = 0 := by
  have h1 : isLongS m = false := by
    have := h.n1; have := h.n2; have := h.n3
    simp [isLongS]; omega
  have h2 : isValidS m = true := by
    simp only [isValidS, Bool.and_eq_true, decide_eq_true_eq, List.all_eq_true, isClockS, isTicketS, isClipS]
    refine ⟨⟨h.hour, h.grace⟩, ⟨fun r hr => by have := h.clock r hr; omega, fun r hr => h.ticket r hr⟩, fun c hc => ?_⟩
    have h3 := h.clip c hc
    exact ⟨⟨⟨h3.1, h3.2.1⟩, h3.2.2.1⟩, h3.2.2.2⟩
  have h4 := h.few
  unfold checkS
  rw [h1, h2, if_neg (by decide), if_pos rfl, if_neg (by omega)]
/-- the first so many done, the others as they were -/
def setF {α : Type} (f : α → α) (l : List α) (k : Nat) : List α := (l.take k).map f ++ l.drop k
theorem setF_len {α : Type} (f : α → α) (l : List α) (k : Nat) : (setF f l k).length = l.length := by
  simp [setF]; omega
theorem setF_zero {α : Type} (f : α → α) (l : List α) : setF f l 0 = l := by simp [setF]
theorem setF_all {α : Type} (f : α → α) (l : List α) : setF f l l.length = l.map f := by simp [setF]
theorem setF_at {α : Type} (f : α → α) (l : List α) {k : Nat} (h : k < l.length) : (setF f l k)[k]? = some l[k] := by
  unfold setF
  rw [List.getElem?_append_right (by simp; omega)]
  simp [h, Nat.min_eq_left (Nat.le_of_lt h)]
theorem setF_step {α : Type} (f : α → α) : ∀ (l : List α) {k : Nat} (h : k < l.length), setF f l (k + 1) = (setF f l k).set k (f l[k])
  | x :: l, 0, _ => by simp [setF]
  | x :: l, k + 1, h => by
    have ih := setF_step f l (k := k) (by simpa using h)
    simp only [setF, List.take_succ_cons, List.map_cons, List.cons_append, List.drop_succ_cons, List.set_cons_succ, List.getElem_cons_succ] at ih ⊢
    rw [ih]
theorem flat_get2 : ∀ (l : List (Int × Int)) {k : Nat} {a b : Int}, l[k]? = some (a, b) → (l.map encR).flatten[k * 2 + 1]? = some (.int .i64 b)
  | x :: l, 0, a, b, h => by
    simp at h; subst h; simp [encR]
  | x :: l, k + 1, a, b, h => by
    have ih := flat_get2 l (k := k) (a := a) (b := b) (by simpa using h)
    rw [show (k + 1) * 2 + 1 = (k * 2 + 1) + 2 by omega]
    simpa [encR] using ih
theorem flat_set2 : ∀ (l : List (Int × Int)) {k : Nat} {a b c : Int}, l[k]? = some (a, b) → (l.map encR).flatten.set (k * 2 + 1) (.int .i64 c) = ((l.set k (a, c)).map encR).flatten
  | x :: l, 0, a, b, c, h => by
    simp at h; subst h; simp [encR]
  | x :: l, k + 1, a, b, c, h => by
    have ih := flat_set2 l (k := k) (a := a) (b := b) (c := c) (by simpa using h)
    rw [show (k + 1) * 2 + 1 = (k * 2 + 1) + 2 by omega]
    simp only [List.map_cons, List.flatten_cons, List.set_cons_succ, encR, List.cons_append, List.nil_append] at ih ⊢
    rw [ih]
end Go.Proofs.Ytehobnpoeodhkaa
