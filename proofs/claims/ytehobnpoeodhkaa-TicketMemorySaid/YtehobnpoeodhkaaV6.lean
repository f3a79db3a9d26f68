import Derived.Test.YtehobnpoeodhkaaV5
import Derived.Test.YtehobnpoeodhkaaV3
import Derived.Test.YtehobnpoeodhkaaV4
import Derived.KernelRfl
import Derived.Test.YtehobnpoeodhkaaV2
import Derived.ProofKit
import Derived.Deep.Slices
namespace Go.Proofs.Ytehobnpoeodhkaa
open Go Go.Abs Go.Proofs
set_option maxHeartbeats 400000
attribute [local irreducible] CallJ OpsJ WPJ CallV MonoJ

section
variable {γ : Type} (E : Env γ) (g : γ) (H : AHeap)
theorem Clone_nil : CallJ Try.prog E 139 [.slice none 0 0] (fun v H' g' => v = .slice none 0 0 ∧ H' = H ∧ g' = g) H g := by
  refine CallJ.tidy ?_
  refine CallJ.enter Try.func139 rfl (by simp only [Try.ntmps139, List.length_cons, List.length_nil, Nat.zero_add, Nat.reduceSub, List.replicate_succ, List.replicate_zero, List.cons_append, List.nil_append]; rfl) ?_
  repeat' (first
    | refine W1 ?_ | refine Wc ?_ | refine W2c ?_ ?_ | refine Wg ?_ | refine W2 ?_ ?_ | exact Wdead | refine Wlive (fun hb => ?_) | intro _ _ _ _ _ _ _ _ | refine We ?_ | refine Wx ?_ | refine Wt ?_ | refine Wm ?_ | refine W2m ?_ ?_ | refine Wl ?_
    | fail)
  refine st_eqNilS rfl rfl ?_
  refine OpsJ.normA ?_
  repeat' (first
    | refine W1 ?_ | refine Wc ?_ | refine W2c ?_ ?_ | refine Wg ?_ | refine W2 ?_ ?_ | exact Wdead | refine Wlive (fun hb => ?_) | intro _ _ _ _ _ _ _ _ | refine We ?_ | refine Wx ?_ | refine Wt ?_ | refine Wm ?_ | refine W2m ?_ ?_ | refine Wl ?_
    | fail)
  exact ⟨rfl, rfl, rfl⟩
theorem Clone_spec (i n cap : Nat) (cells : List Value) (l : List Int) (hi : H[i]? = some (.row cells 1 true)) (hc : cells.take n = encE l) (hn : n = l.length) (hm : n ≤ 1000000) : CallJ Try.prog E 139 [.slice (some ⟨i, 0, none⟩) n cap] (fun v H' g' => v = .slice (some ⟨H.length, 0, none⟩) n n ∧ H' = H ++ [.row (encE l) 1 true] ∧ g' = g) H g := by
  have hcl : n ≤ cells.length := by
    have := congrArg List.length hc
    simp [encE] at this; omega
  have hE := encE_ok l
  refine CallJ.tidy ?_
  refine CallJ.enter Try.func139 rfl (by simp only [Try.ntmps139, List.length_cons, List.length_nil, Nat.zero_add, Nat.reduceSub, List.replicate_succ, List.replicate_zero, List.cons_append, List.nil_append]; rfl) ?_
  repeat' (first
    | refine W1 ?_ | refine Wc ?_ | refine W2c ?_ ?_ | refine Wg ?_ | refine W2 ?_ ?_ | exact Wdead | refine Wlive (fun hb => ?_) | intro _ _ _ _ _ _ _ _ | refine We ?_ | refine Wx ?_ | refine Wt ?_ | refine Wm ?_ | refine W2m ?_ ?_ | refine Wl ?_
    | fail)
  refine st_eqSomeS rfl rfl ?_
  refine OpsJ.normA ?_
  repeat' (first
    | refine W1 ?_ | refine Wc ?_ | refine W2c ?_ ?_ | refine Wg ?_ | refine W2 ?_ ?_ | exact Wdead | refine Wlive (fun hb => ?_) | intro _ _ _ _ _ _ _ _ | refine We ?_ | refine Wx ?_ | refine Wt ?_ | refine Wm ?_ | refine W2m ?_ ?_ | refine Wl ?_
    | fail)
  refine st_appendOwn (by rfl) rfl rfl (cells0 := []) (news := encE l) getA (by simp) getA (by simp; omega) (by simpa using hc) hE ⟨by simp [maxLen]; omega, by omega⟩ ?_
  refine OpsJ.normA ?_
  repeat' (first
    | refine W1 ?_ | refine Wc ?_ | refine W2c ?_ ?_ | refine Wg ?_ | refine W2 ?_ ?_ | exact Wdead | refine Wlive (fun hb => ?_) | intro _ _ _ _ _ _ _ _ | refine We ?_ | refine Wx ?_ | refine Wt ?_ | refine Wm ?_ | refine W2m ?_ ?_ | refine Wl ?_
    | fail)
  refine Tidy.one (i := H.length + 1) (cells := encE l) (es := 1) extA (by simp) (by omega) (encE_flat l) (.slice (j := 0) rfl) ⟨rfl, rfl, rfl⟩
end

theorem _root_.Go.Abs.ExtOwn.app {H H' : AHeap} (h : ExtOwn H H') {L : AHeap} (hL : ∀ o ∈ L, o.dead? = true ∨ ownedO o = true) : ExtOwn H (H' ++ L) := by
  obtain ⟨M, rfl, hM⟩ := h
  exact ⟨M ++ L, by simp, fun o ho => (List.mem_append.1 ho).elim (hM o) (hL o)⟩
theorem _root_.Go.Abs.ExtOwn.set {H H' : AHeap} (h : ExtOwn H H') {i : Nat} (hi : H.length ≤ i) {o : AObj} (ho : o.dead? = true ∨ ownedO o = true) : ExtOwn H (H'.set i o) := by
  obtain ⟨M, rfl, hM⟩ := h
  refine ⟨M.set (i - H.length) o, by rw [List.set_append_right _ _ hi], fun x hx => ?_⟩
  rcases List.mem_or_eq_of_mem_set hx with h | rfl
  · exact hM x h
  · exact ho
theorem _root_.Go.Abs.ExtOwn.ext {H H' : AHeap} (h : ExtOwn H H') : Ext H H' := by obtain ⟨M, rfl, _⟩ := h; exact ⟨M, rfl⟩

/-! ### All increasing lists -/
def subs : Nat → Nat → Nat → List (List Int)
  | 0, _, _ => [[]]
  | q + 1, f, lim => (List.range' f (lim - f)).flatMap fun n => (subs q (n + 1) lim).map ((n : Int) :: ·)
theorem subs_len : ∀ (q f lim : Nat) (s : List Int), s ∈ subs q f lim → s.length = q
  | 0, f, lim, s, h => by simp [subs] at h; simp [h]
  | q + 1, f, lim, s, h => by
    simp only [subs, List.mem_flatMap, List.mem_map] at h
    obtain ⟨n, _, t, ht, rfl⟩ := h
    simp [subs_len q _ _ t ht]
/-- how many come before the number `f + j` -/
def subsN (q f lim j : Nat) : Nat := ((List.range' f j).flatMap fun n => (subs q (n + 1) lim).map ((n : Int) :: ·)).length
theorem subsN_zero (q f lim : Nat) : subsN q f lim 0 = 0 := rfl
theorem subsN_step (q f lim j : Nat) : subsN q f lim (j + 1) = subsN q f lim j + (subs q (f + j + 1) lim).length := by
  unfold subsN
  rw [List.range'_concat, List.flatMap_append, List.length_append]
  simp
theorem subsN_all (q f lim : Nat) : subsN q f lim (lim - f) = (subs (q + 1) f lim).length := rfl
theorem subs_at {q f lim j i : Nat} {s : List Int} (hj : j < lim - f) (h : (subs q (f + j + 1) lim)[i]? = some s) : (subs (q + 1) f lim)[subsN q f lim j + i]? = some (((f + j : Nat) : Int) :: s) := by
  have e : List.range' f (lim - f) = List.range' f j ++ (f + j) :: List.range' (f + j + 1) (lim - f - j - 1) := by
    have e2 : List.range' (f + j) (lim - f - j) = (f + j) :: List.range' (f + j + 1) (lim - f - j - 1) := by
      obtain ⟨d, hd⟩ : ∃ d, lim - f - j = d + 1 := ⟨lim - f - j - 1, by omega⟩
      rw [hd, List.range'_succ, Nat.add_sub_cancel]
    rw [← e2, List.range'_append_1]
    congr 1; omega
  unfold subs subsN
  rw [e, List.flatMap_append, List.getElem?_append_right (by omega), Nat.add_sub_cancel_left, List.flatMap_cons]
  have hi := (List.getElem?_eq_some_iff.1 h).1
  rw [List.getElem?_append_left (by simpa using hi), List.getElem?_map, h]
  rfl

section
variable {γ : Type} (E : Env γ) (Hi : AHeap) (aM aL : Nat) (yv : Value) (many lim : Nat)
abbrev lval : Value := .func (.func 138) ⟨[]⟩ ⟨[.pointer (some ⟨Hi.length + 1, 0, none⟩), .pointer (some ⟨aM, 0, none⟩), .pointer (some ⟨Hi.length, 0, none⟩), .pointer (some ⟨aL, 0, none⟩), .pointer (some ⟨Hi.length + 2, 0, none⟩)]⟩
structure StL (H1 : AHeap) (cv : Value) : Prop where
  ext : ExtOwn Hi H1
  b0 : H1[Hi.length]? = some (.row [yv] 1 true)
  b1 : H1[Hi.length + 1]? = some (.row [cv] 1 true)
  b2 : H1[Hi.length + 2]? = some (.row [lval Hi aM aL] 1 true)
structure CurS (H1 : AHeap) (cv : Value) (l : List Int) (i cap : Nat) (cells : List Value) : Prop where
  v : cv = .slice (some ⟨i, 0, none⟩) l.length cap
  row : H1[i]? = some (.row cells 1 true)
  take : cells.take l.length = encE l
  flat : cells.all flat1 = true
  new : Hi.length + 3 ≤ i
def Cur (H1 : AHeap) (cv : Value) (l : List Int) : Prop := (cv = .slice none 0 0 ∧ l = []) ∨ ∃ i cap cells, CurS Hi H1 cv l i cap cells

theorem lists_spec (hM : Hi[aM]? = some (.row [.int .i64 many] 1 false)) (hL : Hi[aL]? = some (.row [.int .i64 lim] 1 false)) (hm : many ≤ 1000) (hl : lim ≤ 1000) (J : Nat → γ → Prop) (Jx : γ → Prop) :
    ∀ (q f : Nat) (l : List Int) (k : Nat) (g : γ) (H1 : AHeap) (cv : Value), l.length + q = many → f ≤ 1000 → StL Hi aM aL yv H1 cv → Cur Hi H1 cv l → (many = 0 → cv = .slice none 0 0) →
    (∀ j s, (subs q f lim)[j]? = some s → ∀ H1 g1 i cap cs, ExtOwn Hi H1 → H1[i]? = some (.row cs 1 true) → cs.all flat1 = true → cs.take (l ++ s).length = encE (l ++ s) → J (k + j) g1 → CallV Try.prog E yv [.slice (some ⟨i, 0, none⟩) (l ++ s).length cap] (fun v H2 g2 => H2 = H1.set i .dead ∧ (v = .bool true ∧ J (k + j + 1) g2 ∨ v = .bool false ∧ Jx g2)) H1 g1) →
    (many = 0 → ∀ H1 g1, ExtOwn Hi H1 → J k g1 → CallV Try.prog E yv [.slice none 0 0] (fun v H2 g2 => H2 = H1 ∧ (v = .bool true ∧ J (k + 1) g2 ∨ v = .bool false ∧ Jx g2)) H1 g1) → J k g →
    CallJ Try.prog E 138 [.int .i64 f, .pointer (some ⟨Hi.length + 1, 0, none⟩), .pointer (some ⟨aM, 0, none⟩), .pointer (some ⟨Hi.length, 0, none⟩), .pointer (some ⟨aL, 0, none⟩), .pointer (some ⟨Hi.length + 2, 0, none⟩)]
      (fun v H' g' => ∃ cv', StL Hi aM aL yv H' cv' ∧ (v = .bool true ∧ Cur Hi H' cv' l ∧ J (k + (subs q f lim).length) g' ∨ v = .bool false ∧ Jx g')) H1 g
  | 0, f, l, k, g, H1, cv, hq, hf, ⟨hx, b0, b1, b2⟩, hcur, hcv, hy, hyn, hJ => by
    have hM1 := hx.ext.get hM
    have hL1 := hx.ext.get hL
    rcases hcur with ⟨rfl, rfl⟩ | ⟨i, cap, cells, rfl, hi, ht, hfl, hnew⟩
    · have h0 : many = 0 := by simpa using hq.symm
      have hy0 := hyn h0
      subst h0
      refine CallJ.enter Try.func138 rfl (by simp only [Try.ntmps138, List.length_cons, List.length_nil, Nat.zero_add, Nat.reduceAdd, Nat.reduceSub, List.replicate_succ, List.replicate_zero, List.cons_append, List.nil_append]; rfl) ?_
      repeat' (first
        | refine W1 ?_ | refine Wc ?_ | refine W2c ?_ ?_ | refine Wg ?_ | refine W2 ?_ ?_ | exact Wdead | refine Wlive (fun hb => ?_) | intro _ _ _ _ _ _ _ _ | refine We ?_ | refine Wx ?_ | refine Wt ?_ | refine Wm ?_ | refine W2m ?_ ?_ | refine Wl ?_
        | fail)
      refine WPJ.draw 3 mixed (by kernel_rfl) (by kernel_rfl) (by kernel_rfl) (by decide) ?_
      refine MonoJ.normA ?_
      repeat' (first
        | refine W1 ?_ | refine Wc ?_ | refine W2c ?_ ?_ | refine Wg ?_ | refine W2 ?_ ?_ | exact Wdead | refine Wlive (fun hb => ?_) | intro _ _ _ _ _ _ _ _ | refine We ?_ | refine Wx ?_ | refine Wt ?_ | refine Wm ?_ | refine W2m ?_ ?_ | refine Wl ?_
        | fail)
      refine mj_callP (h := Clone_nil _ _ _) (k := ?_)
      repeat' (first
        | refine W1 ?_ | refine Wc ?_ | refine W2c ?_ ?_ | refine Wg ?_ | refine W2 ?_ ?_ | exact Wdead | refine Wlive (fun hb => ?_) | intro _ _ _ _ _ _ _ _ | refine We ?_ | refine Wx ?_ | refine Wt ?_ | refine Wm ?_ | refine W2m ?_ ?_ | refine Wl ?_
        | fail)
      refine st_callV rfl rfl (hy0 H1 g hx hJ) ?_
      rintro v H' g' ⟨rfl, h⟩
      refine OpsJ.normA ?_
      repeat' (first
        | refine W1 ?_ | refine Wc ?_ | refine W2c ?_ ?_ | refine Wg ?_ | refine W2 ?_ ?_ | exact Wdead | refine Wlive (fun hb => ?_) | intro _ _ _ _ _ _ _ _ | refine We ?_ | refine Wx ?_ | refine Wt ?_ | refine Wm ?_ | refine W2m ?_ ?_ | refine Wl ?_
        | fail)
      refine ⟨_, ⟨hx, b0, b1, b2⟩, ?_⟩
      exact h.imp (fun h => ⟨h.1, .inl ⟨rfl, rfl⟩, h.2⟩) id
    · skip
      have hE := encE_flat l
      have h0 := hy 0 [] rfl
      rw [List.append_nil] at h0
      refine CallJ.enter Try.func138 rfl (by simp only [Try.ntmps138, List.length_cons, List.length_nil, Nat.zero_add, Nat.reduceAdd, Nat.reduceSub, List.replicate_succ, List.replicate_zero, List.cons_append, List.nil_append]; rfl) ?_
      repeat' (first
        | refine W1 ?_ | refine Wc ?_ | refine W2c ?_ ?_ | refine Wg ?_ | refine W2 ?_ ?_ | exact Wdead | refine Wlive (fun hb => ?_) | intro _ _ _ _ _ _ _ _ | refine We ?_ | refine Wx ?_ | refine Wt ?_ | refine Wm ?_ | refine W2m ?_ ?_ | refine Wl ?_
        | fail)
      refine WPJ.draw 3 mixed (by kernel_rfl) (by kernel_rfl) (by kernel_rfl) (by decide) ?_
      refine MonoJ.normA ?_
      repeat' (first
        | refine W1 ?_ | refine Wc ?_ | refine W2c ?_ ?_ | refine Wg ?_ | refine W2 ?_ ?_ | exact Wdead | refine Wlive (fun hb => ?_) | intro _ _ _ _ _ _ _ _ | refine We ?_ | refine Wx ?_ | refine Wt ?_ | refine Wm ?_ | refine W2m ?_ ?_ | refine Wl ?_
        | fail)
      refine mj_call (.slice (some ⟨H1.length, 0, none⟩) l.length l.length) [.row (encE l) 1 true] rfl (Clone_spec _ _ _ i l.length cap cells l getA ht rfl (by omega)) (fun _ _ _ h => ⟨h.1, h.2.1⟩) (by rfl) ?_
      repeat' (first
        | refine W1 ?_ | refine Wc ?_ | refine W2c ?_ ?_ | refine Wg ?_ | refine W2 ?_ ?_ | exact Wdead | refine Wlive (fun hb => ?_) | intro _ _ _ _ _ _ _ _ | refine We ?_ | refine Wx ?_ | refine Wt ?_ | refine Wm ?_ | refine W2m ?_ ?_ | refine Wl ?_
        | fail)
      refine st_callV rfl rfl (h0 (H1 ++ [AObj.row (encE l) 1 true] : AHeap) g H1.length l.length (encE l) (by ((repeat' (first | assumption | exact ExtOwn.refl _ | refine ExtOwn.set ?_ (by first | omega | (simp; omega)) (by first | exact .inl rfl | exact .inr rfl) | refine ExtOwn.app ?_ (by intro o ho; simp at ho; first | (subst ho; first | exact .inl rfl | exact .inr rfl) | (rcases ho with rfl | rfl <;> first | exact .inl rfl | exact .inr rfl) | (rcases ho with rfl | rfl | rfl <;> first | exact .inl rfl | exact .inr rfl)))); done)) getA hE (List.take_of_length_le (by simp [encE])) hJ) ?_
      rintro v H' g' ⟨rfl, h⟩
      refine OpsJ.normA ?_
      repeat' (first
        | refine W1 ?_ | refine Wc ?_ | refine W2c ?_ ?_ | refine Wg ?_ | refine W2 ?_ ?_ | exact Wdead | refine Wlive (fun hb => ?_) | intro _ _ _ _ _ _ _ _ | refine We ?_ | refine Wx ?_ | refine Wt ?_ | refine Wm ?_ | refine W2m ?_ ?_ | refine Wl ?_
        | fail)
      have hi2 : (H1 ++ [AObj.dead] : AHeap)[i]? = some (.row cells 1 true) := get_old hi
      refine ⟨_, ⟨(by ((repeat' (first | assumption | exact ExtOwn.refl _ | refine ExtOwn.set ?_ (by first | omega | (simp; omega)) (by first | exact .inl rfl | exact .inr rfl) | refine ExtOwn.app ?_ (by intro o ho; simp at ho; first | (subst ho; first | exact .inl rfl | exact .inr rfl) | (rcases ho with rfl | rfl <;> first | exact .inl rfl | exact .inr rfl) | (rcases ho with rfl | rfl | rfl <;> first | exact .inl rfl | exact .inr rfl)))); done)), getA, getA, getA⟩, ?_⟩
      exact h.imp (fun h => ⟨h.1, .inr ⟨i, cap, cells, rfl, hi2, ht, hfl, hnew⟩, h.2⟩) id
  | q + 1, f, l, k, g, H1, cv, hq, hf, ⟨hx, b0, b1, b2⟩, hcur, hcv, hy, hyn, hJ => by
    have hM1 := hx.ext.get hM
    have hL1 := hx.ext.get hL
    have hcl : ∃ a c, cv = .slice a l.length c := by
      rcases hcur with ⟨rfl, rfl⟩ | ⟨i, cap, cells, h⟩
      · exact ⟨_, _, rfl⟩
      · exact ⟨_, _, h.v⟩
    obtain ⟨a0, c0, rfl⟩ := hcl
    have hne : ¬ (l.length : Int) = many := by omega
    refine CallJ.enter Try.func138 rfl (by simp only [Try.ntmps138, List.length_cons, List.length_nil, Nat.zero_add, Nat.reduceAdd, Nat.reduceSub, List.replicate_succ, List.replicate_zero, List.cons_append, List.nil_append]; rfl) ?_
    repeat' (first
      | refine W1 ?_ | refine Wc ?_ | refine W2c ?_ ?_ | refine Wg ?_ | refine W2 ?_ ?_ | exact Wdead | refine Wlive (fun hb => ?_) | intro _ _ _ _ _ _ _ _ | refine We ?_ | refine Wx ?_ | refine Wt ?_ | refine Wm ?_ | refine W2m ?_ ?_ | refine Wl ?_
      | fail)
    refine WPJ.loopT (lim - f) [9, 10, 11, 12, 13, 14, 15, 16, 17, 18, 19, 20, 21, 22, 23, 24, 25, 26, 27, 28, 29, 30, 31, 32, 33, 34, 35, 36] (fun j (_ : Unit) => [(8, .int .i64 (f + j))])
      (fun j _ H2 g1 => ∃ cv2, StL Hi aM aL yv H2 cv2 ∧ Cur Hi H2 cv2 l ∧ J (k + subsN q f lim j) g1) 0 () (Nat.zero_le _) (by intro p hp; simp at hp; subst hp; simp) ⟨_, ⟨hx, b0, b1, b2⟩, hcur, hJ⟩ ?_
    rintro j _ H2 g1 hj ⟨cv2, ⟨hx2, b02, b12, b22⟩, hcur2, hJ1⟩ hl0
    have hlen2 : Hi.length + 2 < H2.length := (List.getElem?_eq_some_iff.1 b22).1
    have hM2 := hx2.ext.get hM
    have hL2 := hx2.ext.get hL
    simp only [updT, maskT, List.set_cons_zero, List.set_cons_succ]
    rcases Nat.lt_or_ge j (lim - f) with hlt | hge
    · have hrec := fun H3 cv3 => lists_spec hM hL hm hl J Jx q (f + j + 1) (l ++ [(f : Int) + j]) (k + subsN q f lim j) g1 H3 cv3 (by simp; omega) (by omega)
      have e : ((f + j + 1 : Nat) : Int) = (f : Int) + j + 1 := by omega
      simp only [e] at hrec
      have hyr : ∀ j' s, (subs q (f + j + 1) lim)[j']? = some s → ∀ H1 g1 i cap cs, ExtOwn Hi H1 → H1[i]? = some (.row cs 1 true) → cs.all flat1 = true → cs.take (l ++ [(f : Int) + j] ++ s).length = encE (l ++ [(f : Int) + j] ++ s) → J (k + subsN q f lim j + j') g1 → CallV Try.prog E yv [.slice (some ⟨i, 0, none⟩) (l ++ [(f : Int) + j] ++ s).length cap] (fun v H2 g2 => H2 = H1.set i .dead ∧ (v = .bool true ∧ J (k + subsN q f lim j + j' + 1) g2 ∨ v = .bool false ∧ Jx g2)) H1 g1 := by
        intro j' s hs H1 g1 i cap cs a1 a2 a3 a4 a5
        have e1 : l ++ [(f : Int) + j] ++ s = l ++ (((f + j : Nat) : Int) :: s) := by simp
        rw [e1] at a4 ⊢
        rw [Nat.add_assoc k] at a5 ⊢
        exact hy _ _ (subs_at hlt hs) H1 g1 i cap cs a1 a2 a3 a4 a5
      clear hy
      rcases hcur2 with ⟨rfl, rfl⟩ | ⟨i, cap, cells, rfl, hi, ht, hfl, hnew⟩
      · skip
        repeat' (first
          | refine W1 ?_ | refine Wc ?_ | refine W2c ?_ ?_ | refine Wg ?_ | refine W2 ?_ ?_ | exact Wdead | refine Wlive (fun hb => ?_) | intro _ _ _ _ _ _ _ _ | refine We ?_ | refine Wx ?_ | refine Wt ?_ | refine Wm ?_ | refine W2m ?_ ?_ | refine Wl ?_
          | fail)
        refine st_appendNil (by rfl) rfl rfl getA (by simp) (by rfl) ⟨by decide, by decide, by decide⟩ ?_
        refine OpsJ.normA ?_
        repeat' (first
          | refine W1 ?_ | refine Wc ?_ | refine W2c ?_ ?_ | refine Wg ?_ | refine W2 ?_ ?_ | exact Wdead | refine Wlive (fun hb => ?_) | intro _ _ _ _ _ _ _ _ | refine We ?_ | refine Wx ?_ | refine Wt ?_ | refine Wm ?_ | refine W2m ?_ ?_ | refine Wl ?_
          | fail)
        refine st_callV rfl rfl (CallV.of_func EntC.ent (hrec _ _ ⟨(by ((repeat' (first | assumption | exact ExtOwn.refl _ | refine ExtOwn.set ?_ (by first | omega | (simp; omega)) (by first | exact .inl rfl | exact .inr rfl) | refine ExtOwn.app ?_ (by intro o ho; simp at ho; first | (subst ho; first | exact .inl rfl | exact .inr rfl) | (rcases ho with rfl | rfl <;> first | exact .inl rfl | exact .inr rfl) | (rcases ho with rfl | rfl | rfl <;> first | exact .inl rfl | exact .inr rfl)))); done)), getA, getA, getA⟩ (.inr ⟨H2.length + 1, 1, [.int .i64 (f + j)], ⟨rfl, getA, rfl, rfl, by omega⟩⟩) (fun h => by omega) hyr (fun h => by omega) hJ1)) ?_
        rintro v H' g' ⟨cv', ⟨hx3, c0, c1, c2⟩, ⟨rfl, hcur', h⟩ | ⟨rfl, h⟩⟩
        · rcases hcur' with ⟨_, h0⟩ | ⟨i', cap', cells', rfl, hi', ht', hfl', hnew'⟩
          · simp at h0
          · skip
            refine OpsJ.normA ?_
            repeat' (first
              | refine W1 ?_ | refine Wc ?_ | refine W2c ?_ ?_ | refine Wg ?_ | refine W2 ?_ ?_ | exact Wdead | refine Wlive (fun hb => ?_) | intro _ _ _ _ _ _ _ _ | refine We ?_ | refine Wx ?_ | refine Wt ?_ | refine Wm ?_ | refine W2m ?_ ?_ | refine Wl ?_
              | fail)
            have ht2 : cells'.take ([] : List Int).length = encE ([] : List Int) := by
              have := congrArg (List.take ([] : List Int).length) ht'
              rw [List.take_take, Nat.min_eq_left (by simp)] at this
              rw [this]; simp [encE]
            refine ⟨(), hlt, (by repeat' (first | exact Weak.nil | refine Weak.wild ?_ | refine Weak.same ?_ | refine Weak.intEq (by first | omega | (simp; done) | (push_cast; omega)) ?_)), _, ⟨(by ((repeat' (first | assumption | exact ExtOwn.refl _ | refine ExtOwn.set ?_ (by first | omega | (simp; omega)) (by first | exact .inl rfl | exact .inr rfl) | refine ExtOwn.app ?_ (by intro o ho; simp at ho; first | (subst ho; first | exact .inl rfl | exact .inr rfl) | (rcases ho with rfl | rfl <;> first | exact .inl rfl | exact .inr rfl) | (rcases ho with rfl | rfl | rfl <;> first | exact .inl rfl | exact .inr rfl)))); done)), getA, getA, getA⟩, .inr ⟨i', ([] : List Int).length, cells', ⟨by simp, getA, ht2, hfl', hnew'⟩⟩, ?_⟩
            rw [subsN_step, ← Nat.add_assoc]
            exact h
        · skip
          refine OpsJ.normA ?_
          repeat' (first
            | refine W1 ?_ | refine Wc ?_ | refine W2c ?_ ?_ | refine Wg ?_ | refine W2 ?_ ?_ | exact Wdead | refine Wlive (fun hb => ?_) | intro _ _ _ _ _ _ _ _ | refine We ?_ | refine Wx ?_ | refine Wt ?_ | refine Wm ?_ | refine W2m ?_ ?_ | refine Wl ?_
            | fail)
          exact ⟨_, ⟨hx3, c0, c1, c2⟩, .inr ⟨rfl, h⟩⟩
      · have hcl : l.length ≤ cells.length := by
          have := congrArg List.length ht
          simp [encE] at this; omega
        have hee : encE l ++ [.int .i64 ((f : Int) + j)] = encE (l ++ [(f : Int) + j]) := by simp [encE]
        repeat' (first
          | refine W1 ?_ | refine Wc ?_ | refine W2c ?_ ?_ | refine Wg ?_ | refine W2 ?_ ?_ | exact Wdead | refine Wlive (fun hb => ?_) | intro _ _ _ _ _ _ _ _ | refine We ?_ | refine Wx ?_ | refine Wt ?_ | refine Wm ?_ | refine W2m ?_ ?_ | refine Wl ?_
          | fail)
        refine st_appendOwn (by rfl) rfl rfl (cells0 := cells) getA (by simpa using hcl) getA (by simp) (by rfl) (by simp [cellOk]) ⟨by simp [maxLen]; omega, by omega⟩ ?_
        refine OpsJ.normA ?_
        repeat' (first
          | refine W1 ?_ | refine Wc ?_ | refine W2c ?_ ?_ | refine Wg ?_ | refine W2 ?_ ?_ | exact Wdead | refine Wlive (fun hb => ?_) | intro _ _ _ _ _ _ _ _ | refine We ?_ | refine Wx ?_ | refine Wt ?_ | refine Wm ?_ | refine W2m ?_ ?_ | refine Wl ?_
          | fail)
        refine st_callV rfl rfl (CallV.of_func EntC.ent (hrec _ _ ⟨(by ((repeat' (first | assumption | exact ExtOwn.refl _ | refine ExtOwn.set ?_ (by first | omega | (simp; omega)) (by first | exact .inl rfl | exact .inr rfl) | refine ExtOwn.app ?_ (by intro o ho; simp at ho; first | (subst ho; first | exact .inl rfl | exact .inr rfl) | (rcases ho with rfl | rfl <;> first | exact .inl rfl | exact .inr rfl) | (rcases ho with rfl | rfl | rfl <;> first | exact .inl rfl | exact .inr rfl)))); done)), getA, getA, getA⟩ (.inr ⟨H2.length + 1, l.length + 1, cells.take (l.length * 1) ++ [.int .i64 (f + j)], ⟨by simp, by rw [List.getElem?_set_ne (by omega), List.getElem?_append_right (by simp)]; simp, by rw [Nat.mul_one, ht, hee]; exact List.take_of_length_le (by simp [encE]), by rw [Nat.mul_one, ht, hee]; exact encE_flat _, by omega⟩⟩) (fun h => by omega) hyr (fun h => by omega) hJ1)) ?_
        rintro v H' g' ⟨cv', ⟨hx3, c0, c1, c2⟩, ⟨rfl, hcur', h⟩ | ⟨rfl, h⟩⟩
        · rcases hcur' with ⟨_, h0⟩ | ⟨i', cap', cells', rfl, hi', ht', hfl', hnew'⟩
          · simp at h0
          · skip
            refine OpsJ.normA ?_
            repeat' (first
              | refine W1 ?_ | refine Wc ?_ | refine W2c ?_ ?_ | refine Wg ?_ | refine W2 ?_ ?_ | exact Wdead | refine Wlive (fun hb => ?_) | intro _ _ _ _ _ _ _ _ | refine We ?_ | refine Wx ?_ | refine Wt ?_ | refine Wm ?_ | refine W2m ?_ ?_ | refine Wl ?_
              | fail)
            have ht2 : cells'.take l.length = encE l := by
              have := congrArg (List.take l.length) ht'
              rw [List.take_take, Nat.min_eq_left (by simp)] at this
              rw [this]; simp [encE]
            refine ⟨(), hlt, (by repeat' (first | exact Weak.nil | refine Weak.wild ?_ | refine Weak.same ?_ | refine Weak.intEq (by first | omega | (simp; done) | (push_cast; omega)) ?_)), _, ⟨(by ((repeat' (first | assumption | exact ExtOwn.refl _ | refine ExtOwn.set ?_ (by first | omega | (simp; omega)) (by first | exact .inl rfl | exact .inr rfl) | refine ExtOwn.app ?_ (by intro o ho; simp at ho; first | (subst ho; first | exact .inl rfl | exact .inr rfl) | (rcases ho with rfl | rfl <;> first | exact .inl rfl | exact .inr rfl) | (rcases ho with rfl | rfl | rfl <;> first | exact .inl rfl | exact .inr rfl)))); done)), getA, getA, getA⟩, .inr ⟨i', l.length, cells', ⟨by simp, getA, ht2, hfl', hnew'⟩⟩, ?_⟩
            rw [subsN_step, ← Nat.add_assoc]
            exact h
        · skip
          refine OpsJ.normA ?_
          repeat' (first
            | refine W1 ?_ | refine Wc ?_ | refine W2c ?_ ?_ | refine Wg ?_ | refine W2 ?_ ?_ | exact Wdead | refine Wlive (fun hb => ?_) | intro _ _ _ _ _ _ _ _ | refine We ?_ | refine Wx ?_ | refine Wt ?_ | refine Wm ?_ | refine W2m ?_ ?_ | refine Wl ?_
            | fail)
          exact ⟨_, ⟨hx3, c0, c1, c2⟩, .inr ⟨rfl, h⟩⟩
    · have hj' : j = lim - f := by omega
      rw [hj', subsN_all] at hJ1
      repeat' (first
        | refine W1 ?_ | refine Wc ?_ | refine W2c ?_ ?_ | refine Wg ?_ | refine W2 ?_ ?_ | exact Wdead | refine Wlive (fun hb => ?_) | intro _ _ _ _ _ _ _ _ | refine We ?_ | refine Wx ?_ | refine Wt ?_ | refine Wm ?_ | refine W2m ?_ ?_ | refine Wl ?_
        | fail)
      exact ⟨cv2, ⟨hx2, b02, b12, b22⟩, .inl ⟨rfl, hcur2, hJ1⟩⟩
end
end Go.Proofs.Ytehobnpoeodhkaa

namespace Go.Proofs.Ytehobnpoeodhkaa
open Go Go.Abs Go.Proofs
set_option maxHeartbeats 400000
attribute [local irreducible] CallJ OpsJ WPJ CallV MonoJ

structure OkL (aM aL many lim : Nat) (Hi : AHeap) : Prop where
  m : Hi[aM]? = some (.row [.int .i64 many] 1 false)
  l : Hi[aL]? = some (.row [.int .i64 lim] 1 false)
theorem lists_hits (aM aL many lim : Nat) (hm : many ≤ 1000) (hl : lim ≤ 1000) : HitsS Try.prog 137 [] [.pointer (some ⟨aM, 0, none⟩), .pointer (some ⟨aL, 0, none⟩)] (OkL aM aL many lim) ((subs many 0 lim).map encE) := by
  intro γ' E' J Jx yn Hi g0 ⟨hM, hL⟩ hy1 hy2 hJ0
  have hlen : ((subs many 0 lim).map encE).length = (subs many 0 lim).length := by simp
  have hsp := fun H1 cv => lists_spec E' Hi aM aL (.func (.yield yn) #[] #[]) many lim hM hL hm hl J Jx many 0 [] 0 g0 H1 cv (by simp) (by omega)
  have hA : ∀ j s, (subs many 0 lim)[j]? = some s → ∀ H1 g1 i cap cs, ExtOwn Hi H1 → H1[i]? = some (.row cs 1 true) → cs.all flat1 = true → cs.take ([] ++ s).length = encE ([] ++ s) → J (0 + j) g1 → CallV Try.prog E' (.func (.yield yn) #[] #[]) [.slice (some ⟨i, 0, none⟩) ([] ++ s).length cap] (fun v H2 g2 => H2 = H1.set i .dead ∧ (v = .bool true ∧ J (0 + j + 1) g2 ∨ v = .bool false ∧ Jx g2)) H1 g1 := by
    intro j s hs H1 g1 i cap cs a1 a2 a3 a4 a5
    rw [Nat.zero_add] at a5 ⊢
    rw [List.nil_append] at a4 ⊢
    have e : (encE s).length = s.length := by simp [encE]
    have := hy1 j (encE s) (by simp [hs]) H1 g1 i cap cs a1 a2 a3 (by rw [e]; exact a4) a5
    rw [e] at this
    exact this
  have hB : many = 0 → ∀ H1 g1, ExtOwn Hi H1 → J 0 g1 → CallV Try.prog E' (.func (.yield yn) #[] #[]) [.slice none 0 0] (fun v H2 g2 => H2 = H1 ∧ (v = .bool true ∧ J (0 + 1) g2 ∨ v = .bool false ∧ Jx g2)) H1 g1 := by
    intro h0 H1 g1 a1 a2
    exact hy2 0 (by rw [h0]; rfl) H1 g1 a1 a2
  refine CallJ.tidy ?_
  refine CallJ.enter Try.func137 rfl (by simp only [Try.ntmps137, List.length_cons, List.length_nil, Nat.zero_add, Nat.reduceAdd, Nat.reduceSub, List.replicate_succ, List.replicate_zero, List.cons_append, List.nil_append]; rfl) ?_
  repeat' (first
    | refine W1 ?_ | refine Wc ?_ | refine W2c ?_ ?_ | refine Wg ?_ | refine W2 ?_ ?_ | exact Wdead | refine Wlive (fun hb => ?_) | intro _ _ _ _ _ _ _ _ | refine We ?_ | refine Wx ?_ | refine Wt ?_ | refine Wm ?_ | refine W2m ?_ ?_ | refine Wl ?_
    | fail)
  refine st_callV rfl rfl (CallV.of_func EntC.ent (hsp _ _ ⟨(by ((repeat' (first | assumption | exact ExtOwn.refl _ | refine ExtOwn.set ?_ (by first | omega | (simp; omega)) (by first | exact .inl rfl | exact .inr rfl) | refine ExtOwn.app ?_ (by intro o ho; simp at ho; first | (subst ho; first | exact .inl rfl | exact .inr rfl) | (rcases ho with rfl | rfl <;> first | exact .inl rfl | exact .inr rfl) | (rcases ho with rfl | rfl | rfl <;> first | exact .inl rfl | exact .inr rfl)))); done)), getA, getA, getA⟩ (.inl ⟨rfl, rfl⟩) (fun _ => rfl) hA hB hJ0)) ?_
  rintro v H' g' ⟨cv', ⟨hx3, c0, c1, c2⟩, h⟩
  rw [Nat.zero_add, ← hlen] at h
  have he := hx3.ext
  refine OpsJ.normA ?_
  repeat' (first
    | refine W1 ?_ | refine Wc ?_ | refine W2c ?_ ?_ | refine Wg ?_ | refine W2 ?_ ?_ | exact Wdead | refine Wlive (fun hb => ?_) | intro _ _ _ _ _ _ _ _ | refine We ?_ | refine Wx ?_ | refine Wt ?_ | refine Wm ?_ | refine W2m ?_ ?_ | refine Wl ?_
    | fail)
  refine ⟨rfl, ?_⟩
  exact h.imp (fun h => h.2.2) (fun h => h.2)

section
variable {γ : Type} (E : Env γ) (g : γ) (H : AHeap)
theorem listsOf_spec (a b : Int) : CallJ Try.prog E 132 [.int .i64 a, .int .i64 b] (fun v H' g' => v = .func (.func 137) ⟨[]⟩ ⟨[.pointer (some ⟨H.length, 0, none⟩), .pointer (some ⟨H.length + 1, 0, none⟩)]⟩ ∧ H' = H ++ [.row [.int .i64 a] 1 true, .row [.int .i64 b] 1 true] ∧ g' = g) H g := by
  refine CallJ.enter Try.func132 rfl (by simp only [Try.ntmps132, List.length_cons, List.length_nil, Nat.zero_add, Nat.reduceAdd, Nat.reduceSub, List.replicate_succ, List.replicate_zero, List.cons_append, List.nil_append]; rfl) ?_
  repeat' (first
    | refine W1 ?_ | refine Wc ?_ | refine W2c ?_ ?_ | refine Wg ?_ | refine W2 ?_ ?_ | exact Wdead | refine Wlive (fun hb => ?_) | intro _ _ _ _ _ _ _ _ | refine We ?_ | refine Wx ?_ | refine Wt ?_ | refine Wm ?_ | refine W2m ?_ ?_ | refine Wl ?_
    | fail)
  exact ⟨rfl, rfl, rfl⟩
end
end Go.Proofs.Ytehobnpoeodhkaa

namespace Go.Proofs.Ytehobnpoeodhkaa
open Go Go.Abs Go.Proofs
set_option maxHeartbeats 400000
attribute [local irreducible] CallJ OpsJ WPJ CallV MonoJ

theorem keptN_sub (cs : List ClipM) (l : List Int) : ∀ j, j ≤ cs.length → (keptN cs l j).Sublist (cs.take j)
  | 0, _ => by simp [keptN]
  | j + 1, h => by
    rw [keptN_step (by omega), List.take_succ_eq_append_getElem (by omega)]
    split
    · exact (keptN_sub cs l j (by omega)).trans (List.sublist_append_left _ _)
    · exact (keptN_sub cs l j (by omega)).append_right _
theorem keptN_all (m : HouseM) (l : List Int) : (keptN m.clips l m.clips.length).Sublist m.clips := by
  have := keptN_sub m.clips l m.clips.length (Nat.le_refl _)
  rwa [List.take_length] at this
theorem without_good {m : HouseM} (hG : Good m) (l : List Int) : Good (without m l) := by
  have hs := keptN_all m l
  refine ⟨hG.hour, hG.grace, hG.n1, hG.n2, Nat.le_trans hs.length_le hG.n3, hG.clock, hG.ticket, fun c hc => ?_, hG.few⟩
  have h := hG.clip c (hs.subset hc)
  refine ⟨h.1, h.2.1, h.2.2.1, ?_⟩
  refine Int.le_trans ?_ h.2.2.2
  simp only [clipsOfS, without, List.take_length, Int.ofNat_le]
  exact hs.countP_le

def WithoutF (H : AHeap) (m : HouseM) (s1 s2 : Value) (ks : List ClipM) (v : Value) (H' : AHeap) : Prop :=
  (ks = [] ∧ v = .agg ⟨hcells m s1 s2 (.slice none 0 0)⟩ ∧ H' = H) ∨ (ks ≠ [] ∧ v = .agg ⟨hcells m s1 s2 (.slice (some ⟨H.length, 0, none⟩) ks.length ks.length)⟩ ∧ H' = H ++ [.row (ks.map encC).flatten 3 false])
theorem without_is {H : AHeap} {m : HouseM} {s1 s2 s3 : Value} (hm : HouseIs H m s1 s2 s3) {l : List Int} {ks : List ClipM} (hks : keptN m.clips l m.clips.length = ks) :
    (ks = [] → HouseIs H (without m l) s1 s2 (.slice none 0 0)) ∧ HouseIs (H ++ [.row (ks.map encC).flatten 3 false]) (without m l) s1 s2 (.slice (some ⟨H.length, 0, none⟩) ks.length ks.length) := by
  have hok := hm.ok
  have hn : (without m l).clips.length ≤ 1000000 := Nat.le_trans (keptN_all m l).length_le hm.n3
  have hc : (without m l).clips = ks := hks
  have he : Ext H (H ++ [.row (ks.map encC).flatten 3 false]) := ⟨_, rfl⟩
  refine ⟨fun h0 => ⟨hm.clocks, hm.tickets, ?_, ?_, hm.n1, hm.n2, hn, hm.p1, hm.p2, fun i hi => by cases hi⟩, ⟨hm.clocks.ext he, hm.tickets.ext he, ?_, ?_, hm.n1, hm.n2, hn, hm.p1.ext he, hm.p2.ext he, ?_⟩⟩
  · rw [hc, h0]
    exact ⟨fun x hx => (List.not_mem_nil hx).elim, Or.inr ⟨rfl, Or.inl rfl⟩⟩
  · simp at hok ⊢; exact ⟨hok.1, hok.2.1, rfl⟩
  · rw [hc]
    refine ⟨fun x hx => by obtain ⟨c, _, rfl⟩ := List.mem_map.1 hx; rfl, .inl ⟨H.length, 0, ks.length, (ks.map encC).flatten, 3, false, by simp, by simp, ?_, ?_⟩⟩
    · rw [flatten_len3]; simp
    · rw [List.drop_zero]; exact List.take_of_length_le (by rw [flatten_len3]; simp)
  · simp at hok ⊢; exact ⟨hok.1, hok.2.1, rfl⟩
  · intro i hi
    simp [idOf] at hi
    subst hi
    exact ⟨(ks.map encC).flatten, 3, by simp, fun x hx => .flat (List.all_eq_true.1 (clips_flat ks) x hx)⟩

section
variable {γ : Type} (E : Env γ) (g : γ) (H : AHeap)
theorem withoutF_spec (m : HouseM) (s1 s2 s3 sv : Value) (l : List Int) (hm : HouseIs H m s1 s2 s3) (hr : RdS H sv 1 (encI l)) (hn : l.length ≤ 1000000) :
    CallJ Try.prog E 133 [hv m s1 s2 s3, sv] (fun v H' g' => WithoutF H m s1 s2 (keptN m.clips l m.clips.length) v H' ∧ g' = g) H g := by
  refine (without_spec E g H m s1 s2 s3 sv l hm hr hn).freeze fun v H' g' hk => ?_
  rcases hk with ⟨⟨h0, rfl, rfl⟩ | ⟨h0, rfl, rfl⟩, rfl⟩
  · exact .inl ⟨.inl ⟨h0, rfl, rfl⟩, rfl⟩
  · refine .inr ⟨_, 3, rfl, clips_flat _, .agg fun v hv => ?_, .inr ⟨h0, rfl, rfl⟩, rfl⟩
    simp at hv
    rcases hv with rfl | rfl | rfl | rfl | rfl
    · exact .low (.flat rfl)
    · exact .low (.flat rfl)
    · exact .low (RdS.low hm.clocks)
    · exact .low (RdS.low hm.tickets)
    · exact .slice

/-! ### The smallest set -/
def okWithout (m : HouseM) (s : List Int) : Bool := hasS (without m s)
def upToN (m : HouseM) (j : Nat) : List (List Int) := (List.range j).flatMap fun q => subs q 0 m.clips.length
def smallS (m : HouseM) : Option (List Int) := (upToN m (m.clips.length + 1)).find? (okWithout m)
theorem upToN_step (m : HouseM) (j : Nat) : upToN m (j + 1) = upToN m j ++ subs j 0 m.clips.length := by
  unfold upToN; rw [List.range_succ, List.flatMap_append]; simp
theorem upToN_pre (m : HouseM) {j : Nat} : ∀ d, ∃ R, upToN m (j + 1 + d) = upToN m j ++ (subs j 0 m.clips.length ++ R)
  | 0 => ⟨[], by rw [Nat.add_zero, upToN_step, List.append_nil]⟩
  | d + 1 => by
    obtain ⟨R, h⟩ := upToN_pre m (j := j) d
    exact ⟨R ++ subs (j + 1 + d) 0 m.clips.length, by rw [← Nat.add_assoc, upToN_step, h]; simp⟩
theorem small_find {m : HouseM} {j k : Nat} {s : List Int} (hj : j < m.clips.length + 1) (hs : (subs j 0 m.clips.length)[k]? = some s) (hall : ∀ x ∈ upToN m j, okWithout m x = false) (hnot : ∀ x ∈ (subs j 0 m.clips.length).take k, okWithout m x = false) (h : okWithout m s = true) : smallS m = some s := by
  obtain ⟨R, hR⟩ := upToN_pre m (j := j) (m.clips.length - j)
  obtain ⟨hlt, hel⟩ := List.getElem?_eq_some_iff.1 hs
  unfold smallS
  rw [show m.clips.length + 1 = j + 1 + (m.clips.length - j) by omega, hR, List.find?_append, List.find?_eq_none.2 (fun x hx => by simp [hall x hx]), Option.none_or, List.find?_append]
  have e : subs j 0 m.clips.length = (subs j 0 m.clips.length).take k ++ s :: (subs j 0 m.clips.length).drop (k + 1) := by
    rw [← hel, ← List.drop_eq_getElem_cons hlt, List.take_append_drop]
  have e2 : (subs j 0 m.clips.length).find? (okWithout m) = some s := by
    rw [e, List.find?_append, List.find?_eq_none.2 (fun x hx => by simp [hnot x hx]), Option.none_or, List.find?_cons, h]
  rw [e2]; rfl
theorem Tidy.row {γ : Type} {H H' : AHeap} {K : Value → AHeap → γ → Prop} {v v0 : Value} {g' : γ} {i : Nat} {cells : List Value} {es : Nat} {own : Bool} (he : Ext H H') (hi : H'[i]? = some (.row cells es own)) (hl : H.length ≤ i) (hc : cells.all flat1 = true) (hv : Mv H.length [i] v v0) (hk : K v0 (H ++ [.row cells es own]) g') : Tidy H K v H' g' := by
  obtain ⟨L, rfl⟩ := he
  exact ⟨[i], H, L, v0, [.row cells es own], rfl, rfl, fun _ _ h => .inl h, by simp, fun k h => by simp at h; omega, by simp [hi], by simp [flatRow]; simpa using hc, hv, hk⟩
/-- a list as it was handed over -/
def ListAt (H : AHeap) (n : Nat) (s : List Int) (a : Option Nat) (v : Value) : Prop :=
  (s = [] ∧ v = .slice none 0 0 ∧ a = none) ∨ ∃ i cs cap, a = some i ∧ v = .slice (some ⟨i, 0, none⟩) s.length cap ∧ H[i]? = some (.row cs 1 false) ∧ cs.take s.length = encE s ∧ cs.all flat1 = true ∧ n ≤ i
def KeptX (sh : List Nat) (a : Option Nat) (H0 H2 : AHeap) : Prop := (∀ i ∈ sh, ∀ c es own, H0[i]? = some (.row c es own) → H2[i]? = some (.row c es own)) ∧ (∀ (i : Nat) (o : AObj), H2[i]? = some o → o.dead? = false → ownedO o = false → (∃ o' : AObj, H0[i]? = some o' ∧ o'.dead? = false) ∨ a = some i)
theorem KeptX.app {sh : List Nat} {a : Option Nat} {H0 H2 L : AHeap} (h : KeptX sh a H0 H2) (hL : ∀ o ∈ L, o.dead? = true ∨ ownedO o = true) : KeptX sh a H0 (H2 ++ L) := by
  refine ⟨fun i hi c es own hc => get_old (h.1 i hi c es own hc), fun i o ho hd hn => ?_⟩
  by_cases hlt : i < H2.length
  · rw [List.getElem?_append_left hlt] at ho; exact h.2 i o ho hd hn
  · rw [List.getElem?_append_right (by omega)] at ho
    rcases hL o (List.mem_of_getElem? ho) with h1 | h1
    · rw [h1] at hd; cases hd
    · rw [h1] at hn; cases hn
theorem KeptX.handed {sh : List Nat} {H0 H2 L : AHeap} {o1 : AObj} (h : KeptX sh none H0 H2) (hL : ∀ o ∈ L, o.dead? = true ∨ ownedO o = true) : KeptX sh (some H2.length) H0 (H2 ++ o1 :: L) := by
  refine ⟨fun i hi c es own hc => get_old (h.1 i hi c es own hc), fun i o ho hd hn => ?_⟩
  by_cases hlt : i < H2.length
  · rw [List.getElem?_append_left hlt] at ho
    exact (h.2 i o ho hd hn).imp id (fun h => by cases h)
  · by_cases he : i = H2.length
    · exact .inr (by rw [he])
    · rw [List.getElem?_append_right (by omega)] at ho
      obtain ⟨d, hd2⟩ : ∃ d, i - H2.length = d + 1 := ⟨i - H2.length - 1, by omega⟩
      rw [hd2, List.getElem?_cons_succ] at ho
      rcases hL o (List.mem_of_getElem? ho) with h1 | h1
      · rw [h1] at hd; cases hd
      · rw [h1] at hn; cases hn
theorem KeptX.set {sh : List Nat} {a : Option Nat} {H0 H2 : AHeap} {j : Nat} {o : AObj} (h : KeptX sh a H0 H2) (hj : j ∉ sh) (ho : ownedO o = true) : KeptX sh a H0 (H2.set j o) := by
  refine ⟨fun i hi c es own hc => ?_, fun i x hx hd hn => ?_⟩
  · rw [List.getElem?_set_ne (fun (e : j = i) => hj (by rw [e]; exact hi))]; exact h.1 i hi c es own hc
  · rw [List.getElem?_set] at hx
    split at hx
    · split at hx
      · cases hx; rw [ho] at hn; cases hn
      · cases hx
    · exact h.2 i x hx hd hn
theorem rd_encE {H : AHeap} {i cap : Nat} {cs : List Value} {own : Bool} {s : List Int} (hi : H[i]? = some (.row cs 1 own)) (ht : cs.take s.length = encE s) : RdS H (.slice (some ⟨i, 0, none⟩) s.length cap) 1 (encI s) := by
  have hl : s.length ≤ cs.length := by
    have := congrArg List.length ht
    simp [encE] at this; omega
  refine ⟨by simp, .inl ⟨i, 0, cap, cs, 1, own, by simp, hi, by simpa using hl, ?_⟩⟩
  have e : ∀ s : List Int, (encI s).flatten = encE s := fun s => by
    induction s with
    | nil => rfl
    | cons x s ih => simp_all [encE]
  rw [e, ← ht]; simp
theorem smallestSet_spec (m : HouseM) (s1 s2 s3 : Value) (hm : HouseIs H m s1 s2 s3) (hG : Good m) :
    CallJ Try.prog E 114 [hv m s1 s2 s3] (fun v H' g' => (match smallS m with | none => v = .slice none 0 0 ∧ H' = H | some s => (s = [] ∧ v = .slice none 0 0 ∧ H' = H) ∨ ∃ cs cap, v = .slice (some ⟨H.length, 0, none⟩) s.length cap ∧ H' = H ++ [.row cs 1 false] ∧ cs.take s.length = encE s ∧ cs.all flat1 = true) ∧ g' = g) H g := by
  have hok := hm.cells
  have hrc := hm.clips
  have hn3 := hG.n3
  refine CallJ.tidy ?_
  unfold hv
  refine CallJ.enter Try.func114 rfl (by simp only [Try.ntmps114, List.length_cons, List.length_nil, Nat.zero_add, Nat.reduceSub, List.replicate_succ, List.replicate_zero, List.cons_append, List.nil_append]; rfl) ?_
  repeat' (first
    | refine W1 ?_ | refine Wc ?_ | refine W2c ?_ ?_ | refine Wg ?_ | refine W2 ?_ ?_ | exact Wdead | refine Wlive (fun hb => ?_) | intro _ _ _ _ _ _ _ _ | refine We ?_ | refine Wx ?_ | refine Wt ?_ | refine Wm ?_ | refine W2m ?_ ?_ | refine Wl ?_
    | fail)
  refine WPJ.scope (fun l T H g h => h.elim) ?_
  repeat' (first
    | refine W1 ?_ | refine Wc ?_ | refine W2c ?_ ?_ | refine Wg ?_ | refine W2 ?_ ?_ | exact Wdead | refine Wlive (fun hb => ?_) | intro _ _ _ _ _ _ _ _ | refine We ?_ | refine Wx ?_ | refine Wt ?_ | refine Wm ?_ | refine W2m ?_ ?_ | refine Wl ?_
    | fail)
  refine WPJ.loopT (m.clips.length + 1) [11, 12, 4, 13, 14, 15, 16, 17, 5, 18, 19, 20, 21, 22, 23, 24] (fun j (_ : Unit) => [(10, .int .i64 j)])
    (fun j _ H1 g1 => g1 = g ∧ Ext H H1 ∧ H1[H.length]? = some (.row (hcells m s1 s2 s3) 1 true) ∧ H1[H.length + 1]? = some (.row [.slice none 0 0] 1 true) ∧ (∀ s ∈ upToN m j, okWithout m s = false) ∧ H.length + 1 < H1.length) 0 () (Nat.zero_le _)
    (by intro p hp; simp at hp; rcases hp with rfl; rfl) ⟨rfl, extA, getA, getA, by simp [upToN], by simp⟩ ?_
  rintro j _ H1 g1 hj ⟨rfl, he, hb0, hb1, hall, hlen⟩ hl0
  simp only [updT, maskT, List.set_cons_zero, List.set_cons_succ]
  rcases Nat.lt_or_ge j (m.clips.length + 1) with hlt | hge
  · skip
    repeat' (first
      | refine W1 ?_ | refine Wc ?_ | refine W2c ?_ ?_ | refine Wg ?_ | refine W2 ?_ ?_ | exact Wdead | refine Wlive (fun hb => ?_) | intro _ _ _ _ _ _ _ _ | refine We ?_ | refine Wx ?_ | refine Wt ?_ | refine Wm ?_ | refine W2m ?_ ?_ | refine Wl ?_
      | fail)
    refine st_call rfl (listsOf_spec E _ _ _ _) ?_
    rintro _ _ g1 ⟨rfl, rfl, rfl⟩
    refine OpsJ.normA ?_
    repeat' (first
      | refine W1 ?_ | refine Wc ?_ | refine W2c ?_ ?_ | refine Wg ?_ | refine W2 ?_ ?_ | exact Wdead | refine Wlive (fun hb => ?_) | intro _ _ _ _ _ _ _ _ | refine We ?_ | refine Wx ?_ | refine Wt ?_ | refine Wm ?_ | refine W2m ?_ ?_ | refine Wl ?_
      | fail)
    refine WPJ.rangeFuncS (xs := (subs j 0 m.clips.length).map encE) rfl EntC.ent [H1.length, H1.length + 1] (lists_hits H1.length (H1.length + 1) j m.clips.length (by omega) (by omega)) ?_ ?_ (fun v hv => by cases hv) ?_ ?_ rfl
      (fun k H2 g2 => g2 = g1 ∧ KeptX [H1.length, H1.length + 1] none (H1 ++ [.row [.int .i64 j] 1 true, .row [.int .i64 m.clips.length] 1 true]) H2 ∧ Ext H H2 ∧ H2[H.length]? = some (.row (hcells m s1 s2 s3) 1 true) ∧ H2[H.length + 1]? = some (.row [.slice none 0 0] 1 true) ∧ (∀ s ∈ (subs j 0 m.clips.length).take k, okWithout m s = false) ∧ H1.length + 1 < H2.length)
      (fun a c H2 g2 => c = .exit 0 ∧ g2 = g1 ∧ KeptX [H1.length, H1.length + 1] a (H1 ++ [.row [.int .i64 j] 1 true, .row [.int .i64 m.clips.length] 1 true]) H2 ∧ Ext H H2 ∧ ∃ s v, smallS m = some s ∧ H2[H.length + 1]? = some (.row [v] 1 true) ∧ ListAt H2 H.length s a v)
      ?_ ?_ ?_ ?_ ?_ ?_
    · intro Hi hv
      exact ⟨hv _ (by simp) _ _ _ (get_new0 rfl), hv _ (by simp) _ _ _ (get_new rfl)⟩
    · intro ρ w hs v' hv i hi
      cases hv with
      | func h1 h2 h3 h4 =>
        have h := h4 0 (by simp) (by rw [← h3]; simp)
        have h' := h4 1 (by simp) (by rw [← h3]; simp)
        simp only [List.getElem_toArray, List.getElem_cons_zero, List.getElem_cons_succ] at h h'
        simp only [List.mem_cons, List.not_mem_nil, or_false] at hi
        rcases hi with rfl | rfl
        · obtain ⟨x, hx, _⟩ := rel_ptr h; exact ⟨x, hx⟩
        · obtain ⟨x, hx, _⟩ := rel_ptr h'; exact ⟨x, hx⟩
    · intro v hv
      simp at hv
      rcases hv with rfl | rfl
      · exact .ptr (by simp)
      · exact .ptr (by simp)
    · intro i hi c es own hc v hv
      simp only [List.mem_cons, List.not_mem_nil, or_false] at hi
      rcases hi with rfl | rfl
      · rw [get_new0 rfl] at hc; cases hc; simp at hv; subst hv; exact .flat rfl
      · rw [get_new rfl] at hc; cases hc; simp at hv; subst hv; exact .flat rfl
    · exact ⟨rfl, ⟨fun _ _ _ _ _ h => h, fun i o h hd _ => .inl ⟨o, h, hd⟩⟩, extA, getA, getA, by simp, by simp⟩
    · rintro k H2 g2 ⟨_, hk, _⟩
      exact ⟨hk.1, fun i o h hd hn => (hk.2 i o h hd hn).elim id fun h => by cases h⟩
    · rintro a c H2 g2 ⟨_, _, hk, _⟩
      exact hk
    · rintro k x Hc gc a v Hc1 hx ⟨rfl, hk, hee, hc0, hc1, hnot, hlenc⟩ hh
      rw [List.getElem?_map] at hx
      obtain ⟨s, hs, rfl⟩ := Option.map_eq_some_iff.1 hx
      clear hx
      have hsl : s.length ≤ 1000000 := by
        have := subs_len _ _ _ s (List.mem_of_getElem? hs)
        omega
      have hel : (encE s).length = s.length := by simp [encE]
      have hfind : okWithout m s = true → smallS m = some s := small_find hlt hs hall hnot
      have hnext : okWithout m s = false → ∀ x ∈ (subs j 0 m.clips.length).take (k + 1), okWithout m x = false := fun h x hx => by
        obtain ⟨hlt2, hel2⟩ := List.getElem?_eq_some_iff.1 hs
        rw [List.take_succ_eq_append_getElem hlt2, hel2] at hx
        rcases List.mem_append.1 hx with h1 | h1
        · exact hnot x h1
        · simp at h1; rw [h1]; exact h
      generalize hks : keptN m.clips s m.clips.length = ks at *
      have hV := (without_good hG s).valid
      cases hh with
      | @row cs cap ht hcf =>
        rw [hel] at ht
        have hrd : RdS (Hc ++ [.row cs 1 false]) (.slice (some ⟨Hc.length, 0, none⟩) s.length cap) 1 (encI s) := rd_encE (own := false) (by simp) ht
        rw [hel]
        simp only [putPs, List.set_cons_zero, List.set_cons_succ]
        repeat' (first
          | refine W1 ?_ | refine Wc ?_ | refine W2c ?_ ?_ | refine Wg ?_ | refine W2 ?_ ?_ | exact Wdead | refine Wlive (fun hb => ?_) | intro _ _ _ _ _ _ _ _ | refine We ?_ | refine Wx ?_ | refine Wt ?_ | refine Wm ?_ | refine W2m ?_ ?_ | refine Wl ?_
          | fail)
        refine st_call rfl (withoutF_spec E _ _ m s1 s2 s3 _ s (hm.ext extA) hrd hsl) ?_
        rintro _ _ gc ⟨⟨h0, rfl, rfl⟩ | ⟨h0, rfl, rfl⟩, rfl⟩
        · skip
          refine OpsJ.normA ?_
          repeat' (first
            | refine W1 ?_ | refine Wc ?_ | refine W2c ?_ ?_ | refine Wg ?_ | refine W2 ?_ ?_ | exact Wdead | refine Wlive (fun hb => ?_) | intro _ _ _ _ _ _ _ _ | refine We ?_ | refine Wx ?_ | refine Wt ?_ | refine Wm ?_ | refine W2m ?_ ?_ | refine Wl ?_
            | fail)
          refine st_callP (h := hasTruth_spec _ _ _ (without m s) s1 s2 _ ((without_is (hm.ext extA) rfl).1 h0) hV) (k := ?_)
          refine We ?_
          cases hb : hasS (without m s) with
          | true =>
            repeat' (first
              | refine W1 ?_ | refine Wc ?_ | refine W2c ?_ ?_ | refine Wg ?_ | refine W2 ?_ ?_ | exact Wdead | refine Wlive (fun hb => ?_) | intro _ _ _ _ _ _ _ _ | refine We ?_ | refine Wx ?_ | refine Wt ?_ | refine Wm ?_ | refine W2m ?_ ?_ | refine Wl ?_
              | fail)
            exact ⟨rfl, rfl, (hk.handed (by simp [AObj.dead?])).set (by simp; omega) rfl, extA, s, _, hfind hb, getA, .inr ⟨Hc.length, cs, cap, rfl, rfl, getA, ht, hcf, by omega⟩⟩
          | false =>
            refine WPJ.kill (Hc.length) ?_
            rw [show (Hc ++ [AObj.row cs 1 false] : AHeap).set Hc.length .dead = (Hc ++ [AObj.dead] : AHeap) by simp]
            repeat' (first
              | refine W1 ?_ | refine Wc ?_ | refine W2c ?_ ?_ | refine Wg ?_ | refine W2 ?_ ?_ | exact Wdead | refine Wlive (fun hb => ?_) | intro _ _ _ _ _ _ _ _ | refine We ?_ | refine Wx ?_ | refine Wt ?_ | refine Wm ?_ | refine W2m ?_ ?_ | refine Wl ?_
              | fail)
            refine ⟨rfl, hk.app (by simp [AObj.dead?]), extA, getA, getA, hnext hb, by first | omega | (simp; omega)⟩
        · skip
          refine OpsJ.normA ?_
          repeat' (first
            | refine W1 ?_ | refine Wc ?_ | refine W2c ?_ ?_ | refine Wg ?_ | refine W2 ?_ ?_ | exact Wdead | refine Wlive (fun hb => ?_) | intro _ _ _ _ _ _ _ _ | refine We ?_ | refine Wx ?_ | refine Wt ?_ | refine Wm ?_ | refine W2m ?_ ?_ | refine Wl ?_
            | fail)
          have hw := (without_is (H := Hc ++ [.row cs 1 false]) (hm.ext extA) (l := s) rfl).2
          simp only [List.append_assoc, List.cons_append, List.nil_append, List.length_append, List.length_cons, List.length_nil, Nat.zero_add] at hw
          refine st_callP (h := hasTruth_spec _ _ _ (without m s) s1 s2 _ hw hV) (k := ?_)
          refine We ?_
          cases hb : hasS (without m s) with
          | true =>
            refine WPJ.kill (Hc.length + 1) ?_
            rw [show (Hc ++ [AObj.row cs 1 false, AObj.row ((keptN m.clips s m.clips.length).map encC).flatten 3 false] : AHeap).set (Hc.length + 1) .dead = (Hc ++ [AObj.row cs 1 false, AObj.dead] : AHeap) by simp]
            repeat' (first
              | refine W1 ?_ | refine Wc ?_ | refine W2c ?_ ?_ | refine Wg ?_ | refine W2 ?_ ?_ | exact Wdead | refine Wlive (fun hb => ?_) | intro _ _ _ _ _ _ _ _ | refine We ?_ | refine Wx ?_ | refine Wt ?_ | refine Wm ?_ | refine W2m ?_ ?_ | refine Wl ?_
              | fail)
            exact ⟨rfl, rfl, (hk.handed (by simp [AObj.dead?])).set (by simp; omega) rfl, extA, s, _, hfind hb, getA, .inr ⟨Hc.length, cs, cap, rfl, rfl, getA, ht, hcf, by omega⟩⟩
          | false =>
            refine WPJ.kill (Hc.length + 1) ?_
            refine WPJ.kill (Hc.length) ?_
            rw [show ((Hc ++ [AObj.row cs 1 false, AObj.row ((keptN m.clips s m.clips.length).map encC).flatten 3 false] : AHeap).set (Hc.length + 1) .dead).set Hc.length .dead = (Hc ++ [AObj.dead, AObj.dead] : AHeap) by simp]
            repeat' (first
              | refine W1 ?_ | refine Wc ?_ | refine W2c ?_ ?_ | refine Wg ?_ | refine W2 ?_ ?_ | exact Wdead | refine Wlive (fun hb => ?_) | intro _ _ _ _ _ _ _ _ | refine We ?_ | refine Wx ?_ | refine Wt ?_ | refine Wm ?_ | refine W2m ?_ ?_ | refine Wl ?_
              | fail)
            refine ⟨rfl, hk.app (by simp [AObj.dead?]), extA, getA, getA, hnext hb, by first | omega | (simp; omega)⟩
      | nil h =>
        have hs0 : s = [] := by simpa [encE] using h
        have hrd : RdS Hc (.slice none 0 0) 1 (encI s) := by rw [hs0]; exact ⟨fun x hx => (List.not_mem_nil hx).elim, Or.inr ⟨rfl, Or.inl rfl⟩⟩
        simp only [putPs, List.set_cons_zero, List.set_cons_succ]
        repeat' (first
          | refine W1 ?_ | refine Wc ?_ | refine W2c ?_ ?_ | refine Wg ?_ | refine W2 ?_ ?_ | exact Wdead | refine Wlive (fun hb => ?_) | intro _ _ _ _ _ _ _ _ | refine We ?_ | refine Wx ?_ | refine Wt ?_ | refine Wm ?_ | refine W2m ?_ ?_ | refine Wl ?_
          | fail)
        refine st_call rfl (withoutF_spec E _ _ m s1 s2 s3 _ s (hm.ext extA) hrd hsl) ?_
        rintro _ _ gc ⟨⟨h0, rfl, rfl⟩ | ⟨h0, rfl, rfl⟩, rfl⟩
        · skip
          refine OpsJ.normA ?_
          repeat' (first
            | refine W1 ?_ | refine Wc ?_ | refine W2c ?_ ?_ | refine Wg ?_ | refine W2 ?_ ?_ | exact Wdead | refine Wlive (fun hb => ?_) | intro _ _ _ _ _ _ _ _ | refine We ?_ | refine Wx ?_ | refine Wt ?_ | refine Wm ?_ | refine W2m ?_ ?_ | refine Wl ?_
            | fail)
          refine st_callP (h := hasTruth_spec _ _ _ (without m s) s1 s2 _ ((without_is (hm.ext extA) rfl).1 h0) hV) (k := ?_)
          refine We ?_
          cases hb : hasS (without m s) with
          | true =>
            repeat' (first
              | refine W1 ?_ | refine Wc ?_ | refine W2c ?_ ?_ | refine Wg ?_ | refine W2 ?_ ?_ | exact Wdead | refine Wlive (fun hb => ?_) | intro _ _ _ _ _ _ _ _ | refine We ?_ | refine Wx ?_ | refine Wt ?_ | refine Wm ?_ | refine W2m ?_ ?_ | refine Wl ?_
              | fail)
            exact ⟨rfl, rfl, hk.set (by simp; omega) rfl, extA, s, _, hfind hb, getA, .inl ⟨hs0, rfl, rfl⟩⟩
          | false =>
            repeat' (first
              | refine W1 ?_ | refine Wc ?_ | refine W2c ?_ ?_ | refine Wg ?_ | refine W2 ?_ ?_ | exact Wdead | refine Wlive (fun hb => ?_) | intro _ _ _ _ _ _ _ _ | refine We ?_ | refine Wx ?_ | refine Wt ?_ | refine Wm ?_ | refine W2m ?_ ?_ | refine Wl ?_
              | fail)
            refine ⟨rfl, hk, extA, getA, getA, hnext hb, by first | omega | (simp; omega)⟩
        · skip
          refine OpsJ.normA ?_
          repeat' (first
            | refine W1 ?_ | refine Wc ?_ | refine W2c ?_ ?_ | refine Wg ?_ | refine W2 ?_ ?_ | exact Wdead | refine Wlive (fun hb => ?_) | intro _ _ _ _ _ _ _ _ | refine We ?_ | refine Wx ?_ | refine Wt ?_ | refine Wm ?_ | refine W2m ?_ ?_ | refine Wl ?_
            | fail)
          refine st_callP (h := hasTruth_spec _ _ _ (without m s) s1 s2 _ (without_is (hm.ext extA) (l := s) rfl).2 hV) (k := ?_)
          refine We ?_
          cases hb : hasS (without m s) with
          | true =>
            refine WPJ.kill (Hc.length) ?_
            rw [show (Hc ++ [AObj.row ((keptN m.clips s m.clips.length).map encC).flatten 3 false] : AHeap).set Hc.length .dead = (Hc ++ [AObj.dead] : AHeap) by simp]
            repeat' (first
              | refine W1 ?_ | refine Wc ?_ | refine W2c ?_ ?_ | refine Wg ?_ | refine W2 ?_ ?_ | exact Wdead | refine Wlive (fun hb => ?_) | intro _ _ _ _ _ _ _ _ | refine We ?_ | refine Wx ?_ | refine Wt ?_ | refine Wm ?_ | refine W2m ?_ ?_ | refine Wl ?_
              | fail)
            exact ⟨rfl, rfl, (hk.app (by simp [AObj.dead?])).set (by simp; omega) rfl, extA, s, _, hfind hb, getA, .inl ⟨hs0, rfl, rfl⟩⟩
          | false =>
            refine WPJ.kill (Hc.length) ?_
            rw [show (Hc ++ [AObj.row ((keptN m.clips s m.clips.length).map encC).flatten 3 false] : AHeap).set Hc.length .dead = (Hc ++ [AObj.dead] : AHeap) by simp]
            repeat' (first
              | refine W1 ?_ | refine Wc ?_ | refine W2c ?_ ?_ | refine Wg ?_ | refine W2 ?_ ?_ | exact Wdead | refine Wlive (fun hb => ?_) | intro _ _ _ _ _ _ _ _ | refine We ?_ | refine Wx ?_ | refine Wt ?_ | refine Wm ?_ | refine W2m ?_ ?_ | refine Wl ?_
              | fail)
            refine ⟨rfl, hk.app (by simp [AObj.dead?]), extA, getA, getA, hnext hb, by first | omega | (simp; omega)⟩
    · rintro Hc gc ⟨rfl, hk, hee, hc0, hc1, hnot, hlenc⟩
      rw [List.length_map, List.take_length] at hnot
      repeat' (first
        | refine W1 ?_ | refine Wc ?_ | refine W2c ?_ ?_ | refine Wg ?_ | refine W2 ?_ ?_ | exact Wdead | refine Wlive (fun hb => ?_) | intro _ _ _ _ _ _ _ _ | refine We ?_ | refine Wx ?_ | refine Wt ?_ | refine Wm ?_ | refine W2m ?_ ?_ | refine Wl ?_
        | fail)
      refine ⟨(), hlt, (by repeat' (first | exact Weak.nil | refine Weak.wild ?_ | refine Weak.same ?_ | refine Weak.intEq (by first | omega | (simp; done) | (push_cast; omega)) ?_)), rfl, hee, hc0, hc1, fun s hs => ?_, by omega⟩
      rw [upToN_step] at hs
      exact (List.mem_append.1 hs).elim (hall s) (hnot s)
    · rintro a c Hc gc ⟨rfl, rfl, hk, hee, s, v, hsm, hc1, hat⟩
      rw [hsm]
      repeat' (first
        | refine W1 ?_ | refine Wc ?_ | refine W2c ?_ ?_ | refine Wg ?_ | refine W2 ?_ ?_ | exact Wdead | refine Wlive (fun hb => ?_) | intro _ _ _ _ _ _ _ _ | refine We ?_ | refine Wx ?_ | refine Wt ?_ | refine Wm ?_ | refine W2m ?_ ?_ | refine Wl ?_
        | fail)
      rcases hat with ⟨h0, rfl, rfl⟩ | ⟨i, cs, cap, rfl, rfl, hi, ht, hcf, hn⟩
      · exact Tidy.ext hee (.flat rfl) ⟨.inl ⟨h0, rfl, rfl⟩, rfl⟩
      · refine Tidy.row hee hi hn hcf (.slice (j := 0) rfl) ⟨.inr ⟨cs, cap, rfl, rfl, ht, hcf⟩, rfl⟩
  · have hj' : j = m.clips.length + 1 := by omega
    have e : smallS m = none := by
      unfold smallS
      rw [List.find?_eq_none]
      intro s hs
      rw [hj'] at hall
      simp [hall s hs]
    rw [e]
    repeat' (first
      | refine W1 ?_ | refine Wc ?_ | refine W2c ?_ ?_ | refine Wg ?_ | refine W2 ?_ ?_ | exact Wdead | refine Wlive (fun hb => ?_) | intro _ _ _ _ _ _ _ _ | refine We ?_ | refine Wx ?_ | refine Wt ?_ | refine Wm ?_ | refine W2m ?_ ?_ | refine Wl ?_
      | fail)
    exact ⟨⟨rfl, rfl⟩, rfl⟩
end
end Go.Proofs.Ytehobnpoeodhkaa

namespace Go.Proofs.Ytehobnpoeodhkaa
open Go Go.Abs Go.Proofs
set_option maxHeartbeats 400000
attribute [local irreducible] CallJ OpsJ WPJ CallV MonoJ

section
variable {γ : Type} (E : Env γ) (g : γ) (H : AHeap)
def leaveS (m : HouseM) : List Int := (smallS m).getD []
def LeaveA (H : AHeap) (m : HouseM) (v : Value) (H' : AHeap) : Prop :=
  if checkS m = 0 then (leaveS m = [] ∧ v = .tuple #[.slice none 0 0, .int .i64 0] ∧ H' = H) ∨ ∃ cs cap, v = .tuple #[.slice (some ⟨H.length, 0, none⟩) (leaveS m).length cap, .int .i64 0] ∧ H' = H ++ [.row cs 1 false] ∧ cs.take (leaveS m).length = encE (leaveS m) ∧ cs.all flat1 = true
  else v = .tuple #[.slice none 0 0, .int .i64 (checkS m)] ∧ H' = H
theorem smallestSet_any (m : HouseM) (s1 s2 s3 : Value) (hm : HouseIs H m s1 s2 s3) (hG : Good m) :
    CallJ Try.prog E 114 [hv m s1 s2 s3] (fun v H' g' => ((leaveS m = [] ∧ v = .slice none 0 0 ∧ H' = H) ∨ ∃ cs cap, v = .slice (some ⟨H.length, 0, none⟩) (leaveS m).length cap ∧ H' = H ++ [.row cs 1 false] ∧ cs.take (leaveS m).length = encE (leaveS m) ∧ cs.all flat1 = true) ∧ g' = g) H g := by
  refine (smallestSet_spec E g H m s1 s2 s3 hm hG).mono fun v H' g' h => ?_
  refine ⟨?_, h.2⟩
  have h1 := h.1
  unfold leaveS
  cases e : smallS m with
  | none => rw [e] at h1; exact .inl ⟨rfl, h1.1, h1.2⟩
  | some s => rw [e] at h1; exact h1
theorem Leave_spec (m : HouseM) (s1 s2 s3 : Value) (hm : HouseIs H m s1 s2 s3) : CallJ Try.prog E 53 [hv m s1 s2 s3] (fun v H' g' => LeaveA H m v H' ∧ g' = g) H g := by
  have hok := hm.cells
  refine CallJ.tidy ?_
  unfold hv
  refine CallJ.enter Try.func53 rfl (by simp only [Try.ntmps53, List.length_cons, List.length_nil, Nat.zero_add, Nat.reduceSub, List.replicate_succ, List.replicate_zero, List.cons_append, List.nil_append]; rfl) ?_
  repeat' (first
    | (refine is_ucall ?_; first
      | refine st_callP (h := CheckHouse_spec _ _ _ m s1 s2 s3 (hm.ext extA)) (k := ?_)
      | fail)
    | (refine is_umcall ?_; first
      | refine mj_callP (h := CheckHouse_spec _ _ _ m s1 s2 s3 (hm.ext extA)) (k := ?_)
      | fail)
    | refine W1 ?_ | refine Wc ?_ | refine W2c ?_ ?_ | refine Wg ?_ | refine W2 ?_ ?_ | exact Wdead | refine Wlive (fun hb => ?_) | intro _ _ _ _ _ _ _ _ | refine We ?_ | refine Wx ?_ | refine Wt ?_ | refine Wm ?_ | refine W2m ?_ ?_ | refine Wl ?_
    | fail)
  · exact ⟨by unfold LeaveA; rw [if_neg (by assumption)]; exact ⟨rfl, rfl⟩, rfl⟩
  · have hz : checkS m = 0 := by assumption
    refine st_call rfl (smallestSet_any E g _ m s1 s2 s3 (hm.ext extA) (good_of hz)) ?_
    rintro _ _ g ⟨⟨h0, rfl, rfl⟩ | ⟨cs, cap, rfl, rfl, ht, hf⟩, rfl⟩
    · skip
      refine OpsJ.normA ?_
      repeat' (first
        | (refine is_ucall ?_; first
          | refine st_callP (h := CheckHouse_spec _ _ _ m s1 s2 s3 (hm.ext extA)) (k := ?_)
          | fail)
        | (refine is_umcall ?_; first
          | refine mj_callP (h := CheckHouse_spec _ _ _ m s1 s2 s3 (hm.ext extA)) (k := ?_)
          | fail)
        | refine W1 ?_ | refine Wc ?_ | refine W2c ?_ ?_ | refine Wg ?_ | refine W2 ?_ ?_ | exact Wdead | refine Wlive (fun hb => ?_) | intro _ _ _ _ _ _ _ _ | refine We ?_ | refine Wx ?_ | refine Wt ?_ | refine Wm ?_ | refine W2m ?_ ?_ | refine Wl ?_
        | fail)
      exact ⟨by unfold LeaveA; rw [if_pos hz]; exact .inl ⟨h0, rfl, rfl⟩, rfl⟩
    · skip
      refine OpsJ.normA ?_
      repeat' (first
        | (refine is_ucall ?_; first
          | refine st_callP (h := CheckHouse_spec _ _ _ m s1 s2 s3 (hm.ext extA)) (k := ?_)
          | fail)
        | (refine is_umcall ?_; first
          | refine mj_callP (h := CheckHouse_spec _ _ _ m s1 s2 s3 (hm.ext extA)) (k := ?_)
          | fail)
        | refine W1 ?_ | refine Wc ?_ | refine W2c ?_ ?_ | refine Wg ?_ | refine W2 ?_ ?_ | exact Wdead | refine Wlive (fun hb => ?_) | intro _ _ _ _ _ _ _ _ | refine We ?_ | refine Wx ?_ | refine Wt ?_ | refine Wm ?_ | refine W2m ?_ ?_ | refine Wl ?_
        | fail)
      refine Tidy.row (i := H.length + 1) (cells := cs) (es := 1) (own := false) extA getA (by omega) hf (.tuple2 (.slice (j := 0) rfl) (.flat rfl)) ⟨?_, rfl⟩
      unfold LeaveA
      rw [if_pos hz]
      exact .inr ⟨cs, cap, rfl, rfl, ht, hf⟩
end
end Go.Proofs.Ytehobnpoeodhkaa

namespace Go.Proofs.Ytehobnpoeodhkaa
open Go Go.Abs Go.Proofs

/-! ### Counting in a map -/
/-- A map that counts keys. -/
structure Cnt (ks : List (List Int)) (l : List (List Int × Value)) : Prop where
  nd : (l.map (·.1)).Nodup
  val : ∀ x ∈ l, x.2 = .int .i64 (ks.count x.1 : Nat) ∧ x.1 ∈ ks
  all : ∀ k ∈ ks, k ∈ l.map (·.1)
theorem Cnt.nil : Cnt [] [] := ⟨by simp, fun x h => by simp at h, fun k h => by simp at h⟩

theorem findK_none {l : List (List Int × Value)} {k : List Int} (h : findK l k = none) : k ∉ l.map (·.1) := by
  unfold findK at h
  rw [List.findIdx?_eq_none_iff] at h
  intro hm
  obtain ⟨x, hx, rfl⟩ := List.mem_map.1 hm
  have := h x hx
  simp at this
theorem Cnt.at {ks : List (List Int)} {l : List (List Int × Value)} (h : Cnt ks l) (k : List Int) : atK l k (.int .i64 0) = .int .i64 (ks.count k : Nat) := by
  unfold atK
  cases hf : findK l k with
  | none =>
    have := findK_none hf
    have h0 : ks.count k = 0 := List.count_eq_zero.2 fun hk => this (h.all k hk)
    simp [h0]
  | some i =>
    obtain ⟨hi, hk⟩ := findK_lt hf
    have := (h.val l[i] (List.getElem_mem hi)).1
    simp only [List.getElem?_eq_getElem hi, Option.map_some, Option.getD_some]
    rw [this, hk]
theorem numK_lt {l : List (List Int × Value)} {k : List Int} {z : Value} : numK l k < (addK l k z).length := by
  unfold numK addK
  cases hf : findK l k with
  | none => simp
  | some i => obtain ⟨hi, _⟩ := findK_lt hf; simpa using hi
theorem numK_key {l : List (List Int × Value)} {k : List Int} {z : Value} : ∃ v, (addK l k z)[numK l k]? = some (k, v) := by
  unfold numK addK
  cases hf : findK l k with
  | none => exact ⟨z, by simp⟩
  | some i => obtain ⟨hi, hk⟩ := findK_lt hf; exact ⟨l[i].2, by simp only [Option.getD_some, List.getElem?_eq_getElem hi, ← hk]⟩
theorem addK_keys {l : List (List Int × Value)} {k : List Int} {z : Value} : (addK l k z).map (·.1) = if k ∈ l.map (·.1) then l.map (·.1) else l.map (·.1) ++ [k] := by
  unfold addK
  cases hf : findK l k with
  | none => rw [if_neg (findK_none hf)]; simp
  | some i =>
    obtain ⟨hi, hk⟩ := findK_lt hf
    rw [if_pos (List.mem_map.2 ⟨l[i], List.getElem_mem hi, hk⟩)]
theorem set_sameA {α : Type} {l : List α} {n : Nat} {v : α} (h : l[n]? = some v) : l.set n v = l := by
  apply List.ext_getElem?
  intro i
  rw [List.getElem?_set]
  split
  · rename_i e; subst e
    rw [if_pos (List.getElem?_eq_some_iff.1 h).1, h]
  · rfl
theorem setK_keys {l : List (List Int × Value)} {i : Nat} {v : Value} : (setK l i v).map (·.1) = l.map (·.1) := by
  unfold setK
  split
  · rename_i x hx
    rw [List.map_set]
    exact set_sameA (by rw [List.getElem?_map, hx]; rfl)
  · rfl
theorem Cnt.step {ks : List (List Int)} {l : List (List Int × Value)} (h : Cnt ks l) (k : List Int) {z : Value} : Cnt (ks ++ [k]) (setK (addK l k z) (numK l k) (.int .i64 (((ks.count k : Nat) : Int) + 1))) := by
  have hkeys : (setK (addK l k z) (numK l k) (.int .i64 (((ks.count k : Nat) : Int) + 1))).map (·.1) = if k ∈ l.map (·.1) then l.map (·.1) else l.map (·.1) ++ [k] := by rw [setK_keys, addK_keys]
  obtain ⟨v0, hv0⟩ := numK_key (l := l) (k := k) (z := z)
  refine ⟨?_, fun x hx => ?_, fun k' hk' => ?_⟩
  · rw [hkeys]
    split
    · exact h.nd
    · rename_i hn
      exact List.nodup_append.2 ⟨h.nd, by simp, fun a ha b hb => by simp at hb; subst hb; intro e; exact hn (e ▸ ha)⟩
  · rw [setK_some hv0] at hx
    rcases List.mem_or_eq_of_mem_set hx with h1 | rfl
    · -- another one, or the old value
      unfold addK at h1 hv0 hx
      cases hf : findK l k with
      | none =>
        rw [hf] at h1 hx hv0
        simp only at h1 hx hv0
        have hn : numK l k = l.length := by unfold numK; rw [hf]; rfl
        rw [hn, List.set_append_right _ _ (Nat.le_refl _)] at hx
        simp at hx
        rcases hx with hx | rfl
        · obtain ⟨a1, a2⟩ := h.val x hx
          have hne : x.1 ≠ k := fun e => findK_none hf (List.mem_map.2 ⟨x, hx, e⟩)
          refine ⟨by rw [a1, List.count_append]; simp [Ne.symm hne], by simp [a2]⟩
        · refine ⟨by simp [List.count_append], by simp⟩
      | some i =>
        rw [hf] at h1 hx hv0
        simp only at h1 hx hv0
        obtain ⟨hi, hk⟩ := findK_lt hf
        have hn : numK l k = i := by unfold numK; rw [hf]; rfl
        rw [hn] at hx
        obtain ⟨j, hj, hjx⟩ := List.getElem_of_mem hx
        simp only [List.length_set] at hj
        by_cases e : i = j
        · subst e
          simp at hjx
          subst hjx
          exact ⟨by simp [List.count_append], by simp⟩
        · rw [List.getElem_set_ne e] at hjx
          subst hjx
          obtain ⟨a1, a2⟩ := h.val l[j] (List.getElem_mem hj)
          have hne : l[j].1 ≠ k := fun e2 => by
            have hnd := List.pairwise_iff_getElem.1 h.nd
            have hij : (l.map (·.1))[i]'(by simpa using hi) = (l.map (·.1))[j]'(by simpa using hj) := by simp [hk, e2]
            rcases Nat.lt_or_gt_of_ne e with q | q
            · exact hnd i j (by simpa using hi) (by simpa using hj) q hij
            · exact hnd j i (by simpa using hj) (by simpa using hi) q hij.symm
          exact ⟨by rw [a1, List.count_append]; simp [Ne.symm hne], by simp [a2]⟩
    · exact ⟨by simp [List.count_append], by simp⟩
  · rw [hkeys]
    rcases List.mem_append.1 hk' with h1 | h1
    · split
      · exact h.all k' h1
      · exact List.mem_append_left _ (h.all k' h1)
    · simp at h1; subst h1
      split
      · assumption
      · simp
theorem nodup_le : ∀ (n : Nat) (s : List Nat), s.Nodup → (∀ x ∈ s, x < n) → s.length ≤ n
  | 0, s, _, h => by
    cases s with
    | nil => simp
    | cons x s => exact absurd (h x (by simp)) (by omega)
  | n + 1, s, hn, h => by
    have ih := nodup_le n (s.filter (fun x => decide (x ≠ n))) (hn.filter _) (fun x hx => by
      obtain ⟨h1, h2⟩ := List.mem_filter.1 hx
      have := h x h1
      simp at h2; omega)
    have h2 : s.length = (s.filter (fun x => decide (x ≠ n))).length + s.count n := by
      clear ih hn h
      induction s with
      | nil => rfl
      | cons a s ih =>
        by_cases e : a = n
        · subst e; simp [ih]; omega
        · simp [e, ih]; omega
    have h3 : s.count n ≤ 1 := List.nodup_iff_count.1 hn n
    omega
theorem foldl_max_ge : ∀ (l : List Int) (a : Int), a ≤ l.foldl max a ∧ ∀ x ∈ l, x ≤ l.foldl max a
  | [], a => by simp
  | y :: l, a => by
    obtain ⟨h1, h2⟩ := foldl_max_ge l (max a y)
    simp only [List.foldl_cons]
    refine ⟨by omega, fun x hx => ?_⟩
    rcases List.mem_cons.1 hx with rfl | h
    · omega
    · exact h2 x h
theorem foldl_max_mem : ∀ (l : List Int) (a : Int), l.foldl max a = a ∨ l.foldl max a ∈ l
  | [], a => by simp
  | y :: l, a => by
    simp only [List.foldl_cons]
    rcases foldl_max_mem l (max a y) with h | h
    · rw [h]
      by_cases e : a ≤ y
      · rw [Int.max_eq_right e]; simp
      · rw [Int.max_eq_left (by omega)]; simp
    · exact .inr (by simp [h])
theorem foldl_max_eq {l : List Int} {v : Int} (h0 : 0 ≤ v) (h1 : ∀ x ∈ l, x ≤ v) (h2 : v = 0 ∨ v ∈ l) : l.foldl max 0 = v := by
  obtain ⟨a1, a2⟩ := foldl_max_ge l 0
  have b1 : l.foldl max 0 ≤ v := by
    rcases foldl_max_mem l 0 with h | h
    · omega
    · exact h1 _ h
  have b2 : v ≤ l.foldl max 0 := by
    rcases h2 with rfl | h
    · exact a1
    · exact a2 v h
  omega
end Go.Proofs.Ytehobnpoeodhkaa

namespace Go.Proofs.Ytehobnpoeodhkaa
open Go Go.Abs Go.Proofs
set_option maxHeartbeats 400000
attribute [local irreducible] CallJ OpsJ WPJ CallV MonoJ SpecJ

/-! ### What a comparison leaves -/
def keysOf (n : Nat) (es : List Int) : List (List Int) := (List.range n).map fun (c : Nat) => [(c : Int), es.getD c 0]
def keysK (n : Nat) (l : List (List Int)) : List (List Int) := l.flatMap (keysOf n)
theorem count_keys (es : List Int) (e : Int) : ∀ (n c : Nat), (keysOf n es).count [(c : Int), e] = if c < n ∧ es.getD c 0 = e then 1 else 0
  | 0, c => by simp [keysOf]
  | n + 1, c => by
    have ih := count_keys es e n c
    unfold keysOf at ih ⊢
    rw [List.range_succ, List.map_append, List.count_append, ih]
    simp only [List.map_cons, List.map_nil, List.count_singleton, beq_iff_eq, List.cons.injEq, and_true]
    by_cases h : c = n
    · subst h
      generalize es.getD c 0 = v
      by_cases h2 : v = e <;> simp [h2]
    · have h3 : ¬ ((n : Int) = (c : Int)) := by omega
      have h4 : (c < n + 1) ↔ (c < n) := by omega
      simp only [h3, false_and, if_false, h4, Nat.add_zero]
theorem count_keysK (n c : Nat) (hc : c < n) (e : Int) : ∀ l : List (List Int), (keysK n l).count [(c : Int), e] = l.countP (fun x => x.getD c 0 == e)
  | [] => rfl
  | x :: l => by
    have ih := count_keysK n c hc e l
    unfold keysK at ih ⊢
    rw [List.flatMap_cons, List.count_append, ih, count_keys, List.countP_cons]
    have e1 : (if c < n ∧ x.getD c 0 = e then 1 else 0) = (if (x.getD c 0 == e) = true then 1 else 0) := by
      generalize x.getD c 0 = v
      simp [hc]
    rw [e1, Nat.add_comm]
theorem keysK_len (n : Nat) (l : List (List Int)) : (keysK n l).length = l.length * n := flatMap_len _ n l fun a _ => by simp [keysOf]
theorem mem_keysK {n : Nat} {l : List (List Int)} {k : List Int} (h : k ∈ keysK n l) : ∃ c es, c < n ∧ es ∈ l ∧ k = [(c : Int), es.getD c 0] := by
  unfold keysK keysOf at h
  obtain ⟨es, h1, h2⟩ := List.mem_flatMap.1 h
  obtain ⟨c, h3, rfl⟩ := List.mem_map.1 h2
  exact ⟨c, es, List.mem_range.1 h3, h1, rfl⟩
theorem keysK_mem {n c : Nat} {l : List (List Int)} {es : List Int} (hc : c < n) (h : es ∈ l) : [(c : Int), es.getD c 0] ∈ keysK n l :=
  List.mem_flatMap.2 ⟨es, h, List.mem_map.2 ⟨c, List.mem_range.2 hc, rfl⟩⟩
theorem keysOf_step (n : Nat) (es : List Int) : keysOf (n + 1) es = keysOf n es ++ [[(n : Int), es.getD n 0]] := by
  unfold keysOf; rw [List.range_succ, List.map_append]; rfl
theorem keysK_step {n : Nat} {l : List (List Int)} {k : Nat} {x : List Int} (h : l[k]? = some x) : keysK n (l.take (k + 1)) = keysK n (l.take k) ++ keysOf n x := by
  obtain ⟨hlt, rfl⟩ := List.getElem?_eq_some_iff.1 h
  unfold keysK
  rw [List.take_succ_eq_append_getElem hlt, List.flatMap_append]; simp

theorem mapI_flat {l : List (List Int × Value)} (h : ∀ x ∈ l, flat1 x.2 = true) : flatRow (mapI l) = true := by
  simp only [mapI, flatRow, List.all_eq_true, Bool.and_eq_true]
  intro e he
  obtain ⟨y, hy, rfl⟩ := List.mem_map.1 he
  have hy1 : y.1 ∈ l := by
    obtain ⟨a, b⟩ := y
    have := List.mem_zipIdx hy
    have h3 := this.2.2
    simp only at h3 ⊢
    rw [h3]
    exact List.getElem_mem _
  refine ⟨?_, ?_⟩
  · show (y.1.1.map cellI).all flat1 = true
    simp [flat1]
  · have := h _ hy1
    generalize y.1.2 = v at *
    cases v <;> first | exact this | (simp [flat1] at this)
theorem addK_flat {l : List (List Int × Value)} {k : List Int} {z : Value} (h : ∀ x ∈ l, flat1 x.2 = true) (hz : flat1 z = true) : flatRow (mapI (addK l k z)) = true := mapI_flat fun x hx => by
  unfold addK at hx
  split at hx
  · exact h x hx
  · rcases List.mem_append.1 hx with h1 | h1
    · exact h x h1
    · simp at h1; subst h1; exact hz
theorem Cnt.flat {ks : List (List Int)} {l : List (List Int × Value)} (h : Cnt ks l) : ∀ x ∈ l, flat1 x.2 = true := fun x hx => by rw [(h.val x hx).1]; rfl

/-- what is left of the truths at most, if the error of the clock is known -/
def leftS (m : HouseM) (t : Nat) : Int := ((truthsL m).map fun es => (((truthsL m).countP fun x => x.getD t 0 == es.getD t 0 : Nat) : Int)).foldl max 0
def leavesS (m : HouseM) : List Int := (List.range m.clocks.length).map (leftS m)

/-- the greatest count of a clock among the entries that were handed out -/
def MaxAt (ks : List (List Int)) (l : List (List Int × Value)) (seen : List Nat) (c : Nat) (v : Int) : Prop :=
  0 ≤ v ∧ (∀ j ∈ seen, ∀ k e, (l[j]?).map (·.1) = some [k, e] → k = (c : Int) → ((ks.count [k, e] : Nat) : Int) ≤ v) ∧ (v = 0 ∨ ∃ j ∈ seen, ∃ e, (l[j]?).map (·.1) = some [(c : Int), e] ∧ v = ((ks.count [(c : Int), e] : Nat) : Int))

theorem MaxAt.zero {ks : List (List Int)} {l : List (List Int × Value)} {c : Nat} : MaxAt ks l [] c 0 := ⟨Int.le_refl _, fun j h => by simp at h, .inl rfl⟩
theorem MaxAt.step {ks : List (List Int)} {l : List (List Int × Value)} {seen : List Nat} {c : Nat} {v : Int} (h : MaxAt ks l seen c v) {x k : Nat} {e : Int} (hx : (l[x]?).map (·.1) = some [(k : Int), e]) :
    MaxAt ks l (seen ++ [x]) c (if k = c then max v ((ks.count [(k : Int), e] : Nat) : Int) else v) := by
  obtain ⟨h0, h1, h2⟩ := h
  by_cases hk : k = c
  · subst hk
    rw [if_pos rfl]
    refine ⟨by omega, fun j hj k' e' hl' hk' => ?_, ?_⟩
    · rcases List.mem_append.1 hj with hj | hj
      · have := h1 j hj k' e' hl' hk'; omega
      · simp at hj; subst hj
        rw [hx] at hl'
        simp only [Option.some.injEq, List.cons.injEq, and_true] at hl'
        obtain ⟨rfl, rfl⟩ := hl'
        omega
    · by_cases hm : v ≤ ((ks.count [(k : Int), e] : Nat) : Int)
      · exact .inr ⟨x, by simp, e, hx, by omega⟩
      · rcases h2 with h2 | ⟨j, hj, e', h3, h4⟩
        · omega
        · exact .inr ⟨j, by simp [hj], e', h3, by omega⟩
  · rw [if_neg hk]
    refine ⟨h0, fun j hj k' e' hl' hk' => ?_, ?_⟩
    · rcases List.mem_append.1 hj with hj | hj
      · exact h1 j hj k' e' hl' hk'
      · simp at hj; subst hj
        rw [hx] at hl'
        simp only [Option.some.injEq, List.cons.injEq, and_true] at hl'
        omega
    · rcases h2 with h2 | ⟨j, hj, e', h3, h4⟩
      · exact .inl h2
      · exact .inr ⟨j, by simp [hj], e', h3, h4⟩
theorem errs_len {m : HouseM} (hG : Good m) : (errs m).length ≤ 2000 := by
  have h : ∀ l : List (Int × Int), (∀ r ∈ l, r.1 ≤ r.2) → ((gen l).length : Int) = prodS l := by
    intro l
    induction l with
    | nil => intro _; rfl
    | cons r l ih =>
      intro hl
      have h1 := hl r (by simp)
      have h2 := ih fun x hx => hl x (by simp [hx])
      rw [gen_len_cons, prodS, Int.natCast_mul, h2]
      congr 1
      omega
  have h1 := h m.clocks fun r hr => (hG.clock r hr).2.1
  have h2 := hG.few
  unfold errs
  rw [List.length_map]
  omega
theorem truths_le {m : HouseM} (hG : Good m) : (truthsL m).length ≤ 2000 := Nat.le_trans (List.length_filter_le _ _) (errs_len hG)

theorem max_final {m : HouseM} {l : List (List Int × Value)} (hC : Cnt (keysK m.clocks.length (truthsL m)) l) {seen : List Nat} (hall : ∀ j, j < l.length → j ∈ seen) {c : Nat} (hc : c < m.clocks.length) {v : Int} (h : MaxAt (keysK m.clocks.length (truthsL m)) l seen c v) : v = leftS m c := by
  obtain ⟨h0, h1, h2⟩ := h
  symm
  unfold leftS
  refine foldl_max_eq h0 (fun x hx => ?_) ?_
  · obtain ⟨es, hes, rfl⟩ := List.mem_map.1 hx
    have hk := hC.all _ (keysK_mem (n := m.clocks.length) hc hes)
    obtain ⟨y, hy, hy2⟩ := List.mem_map.1 hk
    obtain ⟨j, hj, rfl⟩ := List.getElem_of_mem hy
    have := h1 j (hall j hj) c (es.getD c 0) (by rw [List.getElem?_eq_getElem hj, Option.map_some, hy2]) rfl
    rwa [count_keysK _ _ hc] at this
  · rcases h2 with h2 | ⟨j, _, e, h3, h4⟩
    · exact .inl h2
    · refine .inr ?_
      obtain ⟨x, hx, hx2⟩ := Option.map_eq_some_iff.1 h3
      have hm := (hC.val x (List.mem_of_getElem? hx)).2
      rw [hx2] at hm
      obtain ⟨c', es, h5, h6, h7⟩ := mem_keysK hm
      simp only [List.cons.injEq, and_true] at h7
      have hcc : c = c' := by omega
      subst hcc
      rw [h4, count_keysK _ _ hc, h7.2]
      exact List.mem_map.2 ⟨es, h6, rfl⟩

section
variable {γ : Type} (E : Env γ) (g : γ) (H : AHeap)
theorem leaves_spec (m : HouseM) (s1 s2 s3 : Value) (hm : HouseIs H m s1 s2 s3) (hG : Good m) :
    CallJ Try.prog E 110 [hv m s1 s2 s3] (fun v H' g' => v = .slice (some ⟨H.length, 0, none⟩) m.clocks.length m.clocks.length ∧ H' = H ++ [.row (encE (leavesS m)) 1 true] ∧ g' = g) H g := by
  have hok := hm.cells
  have hV := hG.valid
  have hrc := hm.clocks
  have hn1 := hG.n1
  refine CallJ.tidy ?_
  unfold hv
  refine CallJ.enter Try.func110 rfl (by simp only [Try.ntmps110, List.length_cons, List.length_nil, Nat.zero_add, Nat.reduceSub, List.replicate_succ, List.replicate_zero, List.cons_append, List.nil_append]; rfl) ?_
  repeat' (first
    | refine W1 ?_ | refine Wc ?_ | refine W2c ?_ ?_ | refine Wg ?_ | refine W2 ?_ ?_ | exact Wdead | refine Wlive (fun hb => ?_) | intro _ _ _ _ _ _ _ _ | refine We ?_ | refine Wx ?_ | refine Wt ?_ | refine Wm ?_ | refine W2m ?_ ?_ | refine Wl ?_
    | fail)
  refine st_makeMap ?_
  refine OpsJ.normA ?_
  repeat' (first
    | refine W1 ?_ | refine Wc ?_ | refine W2c ?_ ?_ | refine Wg ?_ | refine W2 ?_ ?_ | exact Wdead | refine Wlive (fun hb => ?_) | intro _ _ _ _ _ _ _ _ | refine We ?_ | refine Wx ?_ | refine Wt ?_ | refine Wm ?_ | refine W2m ?_ ?_ | refine Wl ?_
    | fail)
  refine st_call rfl (truths_spec E g _ m s1 s2 s3 hok) ?_
  rintro _ _ g ⟨rfl, rfl, rfl⟩
  refine OpsJ.normA ?_
  repeat' (first
    | refine W1 ?_ | refine Wc ?_ | refine W2c ?_ ?_ | refine Wg ?_ | refine W2 ?_ ?_ | exact Wdead | refine Wlive (fun hb => ?_) | intro _ _ _ _ _ _ _ _ | refine We ?_ | refine Wx ?_ | refine Wt ?_ | refine Wm ?_ | refine W2m ?_ ?_ | refine Wl ?_
    | fail)
  refine WPJ.truths (b := H.length + 3) rfl hV (hm.ext extA) getA
    (fun k H2 g2 => g2 = g ∧ Kept (shH (H.length + 3) s1 s2 s3) (H ++ [.row (hcells m s1 s2 s3) 1 true, mapI [], .row [.map (some (H.length + 1))] 1 true, .row (hcells m s1 s2 s3) 1 true]) H2 ∧ Ext H H2 ∧ H2[H.length]? = some (.row (hcells m s1 s2 s3) 1 true) ∧ (∃ l, H2[H.length + 1]? = some (mapI l) ∧ Cnt (keysK m.clocks.length ((truthsL m).take k)) l) ∧ H2[H.length + 2]? = some (.row [.map (some (H.length + 1))] 1 true) ∧ H.length + 3 < H2.length)
    (fun c H2 g2 => False) ⟨rfl, Kept.refl _ _, extA, getA, ⟨[], getA, Cnt.nil⟩, getA, by simp⟩ (fun k H2 g2 h => h.2.1) (fun c H2 g2 h => h.elim) ?_ ?_ (fun _ _ _ h => h.elim)
  · rintro k es Hc gc hes ⟨rfl, hk, he, hb0, ⟨l, hbl, hC⟩, hb2, hlen⟩
    have hesT := List.mem_of_getElem? hes
    have hS := hV.sound es (List.mem_filter.1 hesT).1
    have hwl := wv_len m s1 s2 s3 es (staysS es m.clips) hS.1 (staysS_len _ _)
    have hwo := wv_ok m s1 s2 s3 es (staysS es m.clips) hok
    have hT := truths_le hG
    have hstepK := keysK_step (n := m.clocks.length) hes
    have hkl : (keysK m.clocks.length ((truthsL m).take k)).length ≤ 8000 := by
      have h1 := keysK_len m.clocks.length ((truthsL m).take k)
      have h2 : ((truthsL m).take k).length ≤ 2000 := by simp; omega
      have := Nat.mul_le_mul h2 hn1
      omega
    generalize hks : keysK m.clocks.length ((truthsL m).take k) = ks at *
    simp only [List.set_cons_zero, List.set_cons_succ]
    repeat' (first
      | refine W1 ?_ | refine Wc ?_ | refine W2c ?_ ?_ | refine Wg ?_ | refine W2 ?_ ?_ | exact Wdead | refine Wlive (fun hb => ?_) | intro _ _ _ _ _ _ _ _ | refine We ?_ | refine Wx ?_ | refine Wt ?_ | refine Wm ?_ | refine W2m ?_ ?_ | refine Wl ?_
      | fail)
    refine WPJ.loopT m.clocks.length [17, 18, 5, 19, 20, 21, 22, 23, 24, 25, 26, 27, 28, 29, 30] (fun j (_ : Unit) => [(16, .int .i64 j)])
      (fun j _ H1 g1 => g1 = gc ∧ Kept (shH (H.length + 3) s1 s2 s3) (H ++ [.row (hcells m s1 s2 s3) 1 true, mapI [], .row [.map (some (H.length + 1))] 1 true, .row (hcells m s1 s2 s3) 1 true]) H1 ∧ Ext H H1 ∧ H1[H.length]? = some (.row (hcells m s1 s2 s3) 1 true) ∧ (∃ l, H1[H.length + 1]? = some (mapI l) ∧ Cnt (ks ++ keysOf j es) l) ∧ H1[H.length + 2]? = some (.row [.map (some (H.length + 1))] 1 true) ∧ H.length + 3 < H1.length ∧ Hc.length < H1.length ∧ H1[Hc.length]? = some (.row (wv m s1 s2 s3 es (staysS es m.clips)) 1 true)) 0 () (Nat.zero_le _)
      (by intro p hp; simp at hp; rcases hp with rfl; rfl) ⟨rfl, (by ((repeat' (first | assumption | exact Kept.refl _ _ | refine Kept.set ?_ (shH_not (by assumption) (by first | omega | (simp; omega)) (by first | omega | (simp; omega))) rfl | refine Kept.app ?_ (by intro o ho; simp at ho; first | (subst ho; exact .inr rfl) | (rcases ho with rfl | rfl <;> exact .inr rfl)))); done)), extA, getA, ⟨l, getA, by simpa [keysOf] using hC⟩, getA, by simp; omega, by simp, getA⟩ ?_
    rintro j _ H1 g1 hj ⟨rfl, hk1, he1, hc0, ⟨l1, hbl1, hC1⟩, hc2, hlen1, hlen2, hcw⟩ hl0
    simp only [updT, maskT, List.set_cons_zero, List.set_cons_succ]
    rcases Nat.lt_or_ge j m.clocks.length with hlt | hge
    · have hjl : j < es.length := by have := hS.1; omega
      have hwe : (wv m s1 s2 s3 es (staysS es m.clips))[0 + 5 + (j : Int).toNat * 1]? = some (.int .i64 (es.getD j 0)) := by
        have := (work_is hm hS.1).err j es[j] (by simp [hjl])
        simpa [List.getD_eq_getElem?_getD, hjl] using this
      have hlk : ∀ x ∈ l1, x.1.length = 2 := fun x hx => by
        obtain ⟨_, hx2⟩ := hC1.val x hx
        rcases List.mem_append.1 hx2 with h9 | h9
        · rw [← hks] at h9
          obtain ⟨_, _, _, _, h8⟩ := mem_keysK h9
          rw [h8]; rfl
        · unfold keysOf at h9
          obtain ⟨_, _, h8⟩ := List.mem_map.1 h9
          rw [← h8]; rfl
      have hfl := addK_flat (k := [(j : Int), es.getD j 0]) (z := .int .i64 0) hC1.flat rfl
      have hat := hC1.at [(j : Int), es.getD j 0]
      have hstep1 := hC1.step [(j : Int), es.getD j 0] (z := .int .i64 0)
      have hnum := numK_lt (l := l1) (k := [(j : Int), es.getD j 0]) (z := .int .i64 0)
      have hcb : (ks ++ keysOf j es).count [(j : Int), es.getD j 0] ≤ 9000 := by
        refine Nat.le_trans (List.count_le_length) ?_
        simp [keysOf]; omega
      have hkj : keysOf (j + 1) es = keysOf j es ++ [[(j : Int), es.getD j 0]] := keysOf_step j es
      generalize es.getD j 0 = ej at *
      generalize (ks ++ keysOf j es).count [(j : Int), ej] = cn at *
      repeat' (first
        | refine W1 ?_ | refine Wc ?_ | refine W2c ?_ ?_ | refine Wg ?_ | refine W2 ?_ ?_ | exact Wdead | refine Wlive (fun hb => ?_) | intro _ _ _ _ _ _ _ _ | refine We ?_ | refine Wx ?_ | refine Wt ?_ | refine Wm ?_ | refine W2m ?_ ?_ | refine Wl ?_
        | fail)
      refine WPJ.drawS 11 9 (H.length + 1) (mapI l1) (mapI (addK l1 [(j : Int), ej] (.int .i64 0))) mixed (by kernel_rfl) (by kernel_rfl) (by kernel_rfl) (by decide) (by decide) rfl (by first | rfl | (simp [flatRow]; done) | assumption) (by first | exact .inl rfl | exact .inr (by first | omega | (simp; omega))) ?_
      refine SpecJ.normA ?_
      refine SpecJ.seg 7 (by kernel_rfl) (by decide) ?_
      repeat' (first
        | refine W1 ?_ | refine Wc ?_ | refine W2c ?_ ?_ | refine Wg ?_ | refine W2 ?_ ?_ | exact Wdead | refine Wlive (fun hb => ?_) | intro _ _ _ _ _ _ _ _ | refine We ?_ | refine Wx ?_ | refine Wt ?_ | refine Wm ?_ | refine W2m ?_ ?_ | refine Wl ?_
        | fail)
      refine sj_lookupE (ky := [(j : Int), ej]) rfl (by decide) rfl rfl rfl hlk getA rfl ?_
      have hat' : atK l1 [(j : Int), ej] (constT (.int .i64 (Int.ofNat 0))) = .int .i64 (cn : Int) := hat
      rw [hat']
      refine SpecJ.normA ?_
      refine sj_add rfl rfl rfl (by omega) ?_
      refine SpecJ.normA ?_
      refine SpecJ.spec (n := 1) (.tuple #[.int .i64 (cn : Int), .int .i64 ((numK l1 [(j : Int), ej] : Nat) : Int)]) [] getA rfl rfl ?_ ?_
      · simp only [List.append_nil]
        rw [← hat']
        exact runs_mapEntry (k := [(j : Int), ej]) TyC.ty inferInstance TyC.ty rfl rfl rfl hlk getA
      refine SpecJ.normA ?_
      refine SpecJ.seg 1 (by kernel_rfl) (by decide) ?_
      repeat' (first
        | refine W1 ?_ | refine Wc ?_ | refine W2c ?_ ?_ | refine Wg ?_ | refine W2 ?_ ?_ | exact Wdead | refine Wlive (fun hb => ?_) | intro _ _ _ _ _ _ _ _ | refine We ?_ | refine Wx ?_ | refine Wt ?_ | refine Wm ?_ | refine W2m ?_ ?_ | refine Wl ?_
        | fail)
      refine SpecJ.done ?_
      refine st_entryStore rfl rfl rfl hnum getA ?_
      refine OpsJ.normA ?_
      repeat' (first
        | refine W1 ?_ | refine Wc ?_ | refine W2c ?_ ?_ | refine Wg ?_ | refine W2 ?_ ?_ | exact Wdead | refine Wlive (fun hb => ?_) | intro _ _ _ _ _ _ _ _ | refine We ?_ | refine Wx ?_ | refine Wt ?_ | refine Wm ?_ | refine W2m ?_ ?_ | refine Wl ?_
        | fail)
      refine ⟨(), hlt, (by repeat' (first | exact Weak.nil | refine Weak.wild ?_ | refine Weak.same ?_ | refine Weak.intEq (by first | omega | (simp; done) | (push_cast; omega)) ?_)), rfl, (by ((repeat' (first | assumption | exact Kept.refl _ _ | refine Kept.set ?_ (shH_not (by assumption) (by first | omega | (simp; omega)) (by first | omega | (simp; omega))) rfl | refine Kept.app ?_ (by intro o ho; simp at ho; first | (subst ho; exact .inr rfl) | (rcases ho with rfl | rfl <;> exact .inr rfl)))); done)), extA, getA, ⟨_, getA, by rw [hkj, ← List.append_assoc]; exact hstep1⟩, getA, by simp; omega, by simp; omega, getA⟩
    · skip
      repeat' (first
        | refine W1 ?_ | refine Wc ?_ | refine W2c ?_ ?_ | refine Wg ?_ | refine W2 ?_ ?_ | exact Wdead | refine Wlive (fun hb => ?_) | intro _ _ _ _ _ _ _ _ | refine We ?_ | refine Wx ?_ | refine Wt ?_ | refine Wm ?_ | refine W2m ?_ ?_ | refine Wl ?_
        | fail)
      obtain rfl : j = m.clocks.length := by omega
      exact ⟨rfl, (by ((repeat' (first | assumption | exact Kept.refl _ _ | refine Kept.set ?_ (shH_not (by assumption) (by first | omega | (simp; omega)) (by first | omega | (simp; omega))) rfl | refine Kept.app ?_ (by intro o ho; simp at ho; first | (subst ho; exact .inr rfl) | (rcases ho with rfl | rfl <;> exact .inr rfl)))); done)), extA, getA, ⟨_, hbl1, by rw [hstepK]; exact hC1⟩, getA, by omega⟩
  · rintro Hc gc ⟨rfl, hk, he, hb0, ⟨l, hbl, hC⟩, hb2, hlen⟩
    rw [List.take_length] at hC
    repeat' (first
      | refine W1 ?_ | refine Wc ?_ | refine W2c ?_ ?_ | refine Wg ?_ | refine W2 ?_ ?_ | exact Wdead | refine Wlive (fun hb => ?_) | intro _ _ _ _ _ _ _ _ | refine We ?_ | refine Wx ?_ | refine Wt ?_ | refine Wm ?_ | refine W2m ?_ ?_ | refine Wl ?_
      | fail)
    refine st_range rfl getA ?_
    refine OpsJ.normA ?_
    repeat' (first
      | refine W1 ?_ | refine Wc ?_ | refine W2c ?_ ?_ | refine Wg ?_ | refine W2 ?_ ?_ | exact Wdead | refine Wlive (fun hb => ?_) | intro _ _ _ _ _ _ _ _ | refine We ?_ | refine Wx ?_ | refine Wt ?_ | refine Wm ?_ | refine W2m ?_ ?_ | refine Wl ?_
      | fail)
    refine WPJ.loopT l.length [37, 38, 39, 40, 41, 7, 8, 42, 43, 44, 45, 46, 47, 48, 49, 50, 51, 52] (fun j (_ : List Nat) => [])
      (fun j seen H1 g1 => g1 = gc ∧ seen.length = j ∧ seen.Nodup ∧ (∀ x ∈ seen, x < l.length) ∧ Ext H H1 ∧ H1[H.length + 1]? = some (mapI l) ∧ H1[Hc.length + 1]? = some (.iter (H.length + 1) l.length seen) ∧ Hc.length + 1 < H1.length ∧ ∃ xs : List Int, xs.length = m.clocks.length ∧ H1[Hc.length]? = some (.row (encE xs) 1 true) ∧ ∀ c, c < m.clocks.length → MaxAt (keysK m.clocks.length (truthsL m)) l seen c (xs.getD c 0)) 0 [] (Nat.zero_le _)
      (by intro p hp; simp at hp) ⟨rfl, rfl, by simp, by simp, extA, getA, getA, by simp, List.replicate m.clocks.length 0, by simp, ?_, fun c hc => by simp [List.getD_eq_getElem?_getD, hc]; exact MaxAt.zero⟩ ?_
    · have e0 : List.replicate m.clocks.length (Value.int .i64 (Int.ofNat 0)) = encE (List.replicate m.clocks.length 0) := by simp [encE]
      rw [← e0]
      exact getA
    rintro j seen H1 g1 hj ⟨rfl, hsl, hnd, hsb, he1, hb1, hbi, hlen1, xs, hxl, hbx, hmax⟩ hl0
    simp only [updT, maskT, List.set_cons_zero, List.set_cons_succ]
    repeat' (first
      | refine W1 ?_ | refine Wc ?_ | refine W2c ?_ ?_ | refine Wg ?_ | refine W2 ?_ ?_ | exact Wdead | refine Wlive (fun hb => ?_) | intro _ _ _ _ _ _ _ _ | refine We ?_ | refine Wx ?_ | refine Wt ?_ | refine Wm ?_ | refine W2m ?_ ?_ | refine Wl ?_
      | fail)
    refine st_next rfl getA getA (fun hall => ?_) (fun x hx hns => ?_)
    · skip
      refine OpsJ.normA ?_
      repeat' (first
        | refine W1 ?_ | refine Wc ?_ | refine W2c ?_ ?_ | refine Wg ?_ | refine W2 ?_ ?_ | exact Wdead | refine Wlive (fun hb => ?_) | intro _ _ _ _ _ _ _ _ | refine We ?_ | refine Wx ?_ | refine Wt ?_ | refine Wm ?_ | refine W2m ?_ ?_ | refine Wl ?_
        | fail)
      have hxs : xs = leavesS m := by
        refine List.ext_getElem (by simp [leavesS, hxl]) fun c h1 h2 => ?_
        have := max_final hC hall (by omega : c < m.clocks.length) (hmax c (by omega))
        simp only [List.getD_eq_getElem?_getD, List.getElem?_eq_getElem h1, Option.getD_some] at this
        simp [leavesS, this]
      rw [hxs] at hbx
      refine Tidy.row (i := Hc.length) extA hbx (by have := he.len; omega) (by simp [encE, flat1]) (.slice (j := 0) rfl) ⟨rfl, rfl, rfl⟩
    · have hlt : j < l.length := by
        have := nodup_le l.length (seen ++ [x]) (List.nodup_append.2 ⟨hnd, by simp, fun a ha b hb => by simp at hb; subst hb; intro e; exact hns (e ▸ ha)⟩) (fun y hy => by
          rcases List.mem_append.1 hy with hy | hy
          · exact hsb y hy
          · simp at hy; omega)
        simp at this; omega
      obtain ⟨hv1, hv2⟩ := hC.val l[x] (List.getElem_mem hx)
      obtain ⟨c, es, hc, hes, hkey⟩ := mem_keysK hv2
      have hmapx : (l[x]?).map (·.1) = some [(c : Int), es.getD c 0] := by rw [List.getElem?_eq_getElem hx, Option.map_some, hkey]
      have hbnd : (keysK m.clocks.length (truthsL m)).count [(c : Int), es.getD c 0] ≤ 100000 := by
        refine Nat.le_trans List.count_le_length ?_
        rw [keysK_len]
        have := Nat.mul_le_mul (truths_le hG) hn1
        omega
      rw [hkey] at hv1
      have hmx := fun c' hc' => (hmax c' hc').step hmapx
      have hxc : (encE xs)[0 + (c : Int).toNat * 1]? = some (.int .i64 (xs.getD c 0)) := by
        have : c < xs.length := by omega
        simp [encE, List.getD_eq_getElem?_getD, this]
      generalize (keysK m.clocks.length (truthsL m)).count [(c : Int), es.getD c 0] = cn at *
      obtain ⟨H2, hH2⟩ : ∃ H2, H2 = H1.set (Hc.length + 1) (.iter (H.length + 1) l.length (seen ++ [x])) := ⟨_, rfl⟩
      have he2 : Ext H H2 := by rw [hH2]; have := he.len; exact extA
      have hb2' : H2[H.length + 1]? = some (mapI l) := by rw [hH2]; have := he.len; exact getA
      have hbi2 : H2[Hc.length + 1]? = some (.iter (H.length + 1) l.length (seen ++ [x])) := by rw [hH2]; exact getA
      have hbx2 : H2[Hc.length]? = some (.row (encE xs) 1 true) := by rw [hH2]; exact getA
      have hl2 : Hc.length + 1 < H2.length := by rw [hH2]; simp; omega
      rw [← hH2]
      clear hH2
      refine OpsJ.normA ?_
      repeat' (first
        | refine W1 ?_ | refine Wc ?_ | refine W2c ?_ ?_ | refine Wg ?_ | refine W2 ?_ ?_ | exact Wdead | refine Wlive (fun hb => ?_) | intro _ _ _ _ _ _ _ _ | refine We ?_ | refine Wx ?_ | refine Wt ?_ | refine Wm ?_ | refine W2m ?_ ?_ | refine Wl ?_
        | fail)
      refine st_entry rfl getA getA hx ?_
      rw [hkey, hv1]
      refine OpsJ.normA ?_
      repeat' (first
        | refine W1 ?_ | refine Wc ?_ | refine W2c ?_ ?_ | refine Wg ?_ | refine W2 ?_ ?_ | exact Wdead | refine Wlive (fun hb => ?_) | intro _ _ _ _ _ _ _ _ | refine We ?_ | refine Wx ?_ | refine Wt ?_ | refine Wm ?_ | refine W2m ?_ ?_ | refine Wl ?_
        | fail)
      refine WPJ.draw 10 mixed (by kernel_rfl) (by kernel_rfl) (by kernel_rfl) (by decide) ?_
      refine MonoJ.normA ?_
      repeat' (first
        | refine W1 ?_ | refine Wc ?_ | refine W2c ?_ ?_ | refine Wg ?_ | refine W2 ?_ ?_ | exact Wdead | refine Wlive (fun hb => ?_) | intro _ _ _ _ _ _ _ _ | refine We ?_ | refine Wx ?_ | refine Wt ?_ | refine Wm ?_ | refine W2m ?_ ?_ | refine Wl ?_
        | fail)
      refine ⟨seen ++ [x], hlt, (by repeat' (first | exact Weak.nil | refine Weak.wild ?_ | refine Weak.same ?_ | refine Weak.intEq (by first | omega | (simp; done) | (push_cast; omega)) ?_)), rfl, by simp [hsl], ?_, ?_, extA, getA, getA, by simp; omega, xs.set c (max (xs.getD c 0) cn), by simp [hxl], ?_, ?_⟩
      · exact List.nodup_append.2 ⟨hnd, by simp, fun a ha b hb => by simp at hb; subst hb; intro e; exact hns (e ▸ ha)⟩
      · intro y hy
        rcases List.mem_append.1 hy with hy | hy
        · exact hsb y hy
        · simp at hy; omega
      · rw [max_if, row_encE1]
        exact getA
      · intro c' hc'
        have h9 := hmx c' hc'
        by_cases e : c = c'
        · subst e
          rw [if_pos rfl] at h9
          have : c < xs.length := by omega
          simpa [List.getD_eq_getElem?_getD, this] using h9
        · rw [if_neg e] at h9
          rw [List.getD_eq_getElem?_getD, List.getElem?_set_ne e, ← List.getD_eq_getElem?_getD]
          exact h9
end
end Go.Proofs.Ytehobnpoeodhkaa

namespace Go.Proofs.Ytehobnpoeodhkaa
open Go Go.Abs Go.Proofs
set_option maxHeartbeats 400000
attribute [local irreducible] CallJ OpsJ WPJ CallV MonoJ

section
variable {γ : Type} (E : Env γ) (g : γ) (H : AHeap)
def lookE (m : HouseM) : Int := if checkT m = 0 then (if m.clocks.length = 0 then 7 else 0) else checkT m
def lookV (m : HouseM) : Int := (leavesS m).tail.foldl min ((leavesS m).headD 0)
theorem Look_spec (m : HouseM) (s1 s2 s3 : Value) (hm : HouseIs H m s1 s2 s3) : CallJ Try.prog E 50 [hv m s1 s2 s3] (fun v H' g' => v = (if lookE m = 0 then .tuple #[.int .i64 (indexS (leavesS m) (lookV m)), .int .i64 (lookV m), .int .i64 0] else .tuple #[.int .i64 0, .int .i64 0, .int .i64 (lookE m)]) ∧ H' = H ∧ g' = g) H g := by
  have hok := hm.cells
  have hrc := hm.clocks
  refine CallJ.tidy ?_
  unfold hv
  refine CallJ.enter Try.func50 rfl (by simp only [Try.ntmps50, List.length_cons, List.length_nil, Nat.zero_add, Nat.reduceSub, List.replicate_succ, List.replicate_zero, List.cons_append, List.nil_append]; rfl) ?_
  repeat' (first
    | (refine is_ucall ?_; first
      | refine st_callP (h := checkTruth_spec _ _ _ m s1 s2 s3 (hm.ext extA) (fun h => (good_of h).valid)) (k := ?_)
      | fail)
    | (refine is_umcall ?_; first
      | refine mj_callP (h := checkTruth_spec _ _ _ m s1 s2 s3 (hm.ext extA) (fun h => (good_of h).valid)) (k := ?_)
      | fail)
    | refine W1 ?_ | refine Wc ?_ | refine W2c ?_ ?_ | refine Wg ?_ | refine W2 ?_ ?_ | exact Wdead | refine Wlive (fun hb => ?_) | intro _ _ _ _ _ _ _ _ | refine We ?_ | refine Wx ?_ | refine Wt ?_ | refine Wm ?_ | refine W2m ?_ ?_ | refine Wl ?_
    | fail)
  case refine_1 =>
    have e : lookE m = checkT m := by unfold lookE; rw [if_neg (by assumption)]
    exact ⟨by rw [e, if_neg (by assumption)], rfl, rfl⟩
  case refine_2.refine_1 =>
    have hz : checkT m = 0 := by assumption
    have e : lookE m = 7 := by unfold lookE; rw [if_pos hz, if_pos (by omega)]
    exact ⟨by rw [e]; rfl, rfl, rfl⟩
  case refine_2.refine_2 =>
    have hz : checkT m = 0 := by assumption
    have hG := good_of (checkT_zero hz)
    have hn1 := hG.n1
    have hnz : m.clocks.length ≠ 0 := by omega
    have e : lookE m = 0 := by unfold lookE; rw [if_pos hz, if_neg hnz]
    rw [e, if_pos rfl]
    have hll : (leavesS m).length = m.clocks.length := by simp [leavesS]
    have hel : (encE (leavesS m)).length = m.clocks.length := by simp [encE, hll]
    refine st_call rfl (leaves_spec E g _ m s1 s2 s3 (hm.ext extA) hG) ?_
    rintro _ _ g ⟨rfl, rfl, rfl⟩
    refine OpsJ.normA ?_
    unfold lookV
    cases hlv : leavesS m with
    | nil => rw [hlv] at hll; simp at hll; omega
    | cons a xs =>
      rw [hlv] at hel hll
      have hcons : encE (a :: xs) = .int .i64 a :: encE xs := rfl
      repeat' (first
        | (refine is_ucall ?_; first
          | refine st_callP (h := checkTruth_spec _ _ _ m s1 s2 s3 (hm.ext extA) (fun h => (good_of h).valid)) (k := ?_)
          | fail)
        | (refine is_umcall ?_; first
          | refine mj_callP (h := checkTruth_spec _ _ _ m s1 s2 s3 (hm.ext extA) (fun h => (good_of h).valid)) (k := ?_)
          | fail)
        | refine W1 ?_ | refine Wc ?_ | refine W2c ?_ ?_ | refine Wg ?_ | refine W2 ?_ ?_ | exact Wdead | refine Wlive (fun hb => ?_) | intro _ _ _ _ _ _ _ _ | refine We ?_ | refine Wx ?_ | refine Wt ?_ | refine Wm ?_ | refine W2m ?_ ?_ | refine Wl ?_
        | fail)
      refine WPJ.draw 6 mixed (by kernel_rfl) (by kernel_rfl) (by kernel_rfl) (by decide) ?_
      refine MonoJ.normA ?_
      repeat' (first
        | (refine is_ucall ?_; first
          | refine st_callP (h := checkTruth_spec _ _ _ m s1 s2 s3 (hm.ext extA) (fun h => (good_of h).valid)) (k := ?_)
          | fail)
        | (refine is_umcall ?_; first
          | refine mj_callP (h := checkTruth_spec _ _ _ m s1 s2 s3 (hm.ext extA) (fun h => (good_of h).valid)) (k := ?_)
          | fail)
        | refine W1 ?_ | refine Wc ?_ | refine W2c ?_ ?_ | refine Wg ?_ | refine W2 ?_ ?_ | exact Wdead | refine Wlive (fun hb => ?_) | intro _ _ _ _ _ _ _ _ | refine We ?_ | refine Wx ?_ | refine Wt ?_ | refine Wm ?_ | refine W2m ?_ ?_ | refine Wl ?_
        | fail)
      refine mj_sliceFrom (m1 := decide ((1 : Int) < m.clocks.length)) (j := 1) rfl rfl ⟨by omega, by omega⟩ getA rfl rfl ?_
      generalize hsv : (bif decide ((1 : Int) < m.clocks.length) then Value.slice (some ⟨H.length + 1, 0 + (1 : Int).toNat * 1, none⟩) (m.clocks.length - (1 : Int).toNat) (m.clocks.length - (1 : Int).toNat) else .slice none 0 1) = sv
      have hrd : RdS (H ++ [.row (hcells m s1 s2 s3) 1 true, .row (encE (a :: xs)) 1 true]) sv 1 (xs.map fun x => [.int .i64 x]) := by
        rw [← hsv]
        by_cases h1 : (1 : Int) < m.clocks.length
        · rw [decide_eq_true h1]
          have hx : xs.length = m.clocks.length - 1 := by simp at hll; omega
          have e3 : ∀ l : List Int, (l.map fun x => [Value.int .i64 x]).flatten = encE l := fun l => by
            induction l with
            | nil => rfl
            | cons y l ih => simp_all [encE]
          refine ⟨by simp, .inl ⟨H.length + 1, 1, m.clocks.length - 1, encE (a :: xs), 1, true, by simp [hx], by simp, by simp [encE]; omega, ?_⟩⟩
          rw [e3]
          simp [encE]
          exact List.take_of_length_le (by simp)
        · rw [decide_eq_false h1]
          have hx : xs = [] := by
            have : xs.length = 0 := by simp at hll; omega
            exact List.length_eq_zero_iff.1 this
          rw [hx]
          exact ⟨by simp, .inr ⟨rfl, .inr rfl⟩⟩
      refine mj_callP (h := minimum_spec _ _ _ a sv xs hrd (by simp at hll; omega)) (k := ?_)
      repeat' (first
        | (refine is_ucall ?_; first
          | refine st_callP (h := checkTruth_spec _ _ _ m s1 s2 s3 (hm.ext extA) (fun h => (good_of h).valid)) (k := ?_)
          | fail)
        | (refine is_umcall ?_; first
          | refine mj_callP (h := checkTruth_spec _ _ _ m s1 s2 s3 (hm.ext extA) (fun h => (good_of h).valid)) (k := ?_)
          | fail)
        | refine W1 ?_ | refine Wc ?_ | refine W2c ?_ ?_ | refine Wg ?_ | refine W2 ?_ ?_ | exact Wdead | refine Wlive (fun hb => ?_) | intro _ _ _ _ _ _ _ _ | refine We ?_ | refine Wx ?_ | refine Wt ?_ | refine Wm ?_ | refine W2m ?_ ?_ | refine Wl ?_
        | fail)
      have hrd2 : RdS (H ++ [.row (hcells m s1 s2 s3) 1 true, .row (encE (a :: xs)) 1 true]) (.slice (some ⟨H.length + 1, 0, none⟩) m.clocks.length m.clocks.length) 1 (encI (a :: xs)) := by
        have := rd_encE (H := H ++ [.row (hcells m s1 s2 s3) 1 true, .row (encE (a :: xs)) 1 true]) (i := H.length + 1) (cap := m.clocks.length) (cs := encE (a :: xs)) (own := true) (s := a :: xs) (by simp) (List.take_of_length_le (by simp [encE]))
        rw [hll] at this
        exact this
      refine st_callP (h := Index_spec _ _ _ _ (a :: xs) _ hrd2 (by omega)) (k := ?_)
      repeat' (first
        | (refine is_ucall ?_; first
          | refine st_callP (h := checkTruth_spec _ _ _ m s1 s2 s3 (hm.ext extA) (fun h => (good_of h).valid)) (k := ?_)
          | fail)
        | (refine is_umcall ?_; first
          | refine mj_callP (h := checkTruth_spec _ _ _ m s1 s2 s3 (hm.ext extA) (fun h => (good_of h).valid)) (k := ?_)
          | fail)
        | refine W1 ?_ | refine Wc ?_ | refine W2c ?_ ?_ | refine Wg ?_ | refine W2 ?_ ?_ | exact Wdead | refine Wlive (fun hb => ?_) | intro _ _ _ _ _ _ _ _ | refine We ?_ | refine Wx ?_ | refine Wt ?_ | refine Wm ?_ | refine W2m ?_ ?_ | refine Wl ?_
        | fail)
      exact ⟨rfl, rfl, rfl⟩
end
end Go.Proofs.Ytehobnpoeodhkaa

namespace Go.Abs
open Go

def frz : AObj → AObj
  | .row c es _ => .row c es false
  | o => o

theorem VRel.froz {n : Nat} {ρa ρb : Ren} (h1 : ∀ i, i < n → ρb i = ρa i) (h2 : ∀ i m, n ≤ i → ρa i = some m → ρb i = some { m with own := false }) {v v' : Value} (h : VRel ρa v v') : VRel ρb v v' := by
  have key : ∀ {i m}, ρa i = some m → ∃ m2, ρb i = some m2 ∧ m2.blk = m.blk ∧ m2.es = m.es ∧ m2.cs = m.cs ∧ (m2.own = true → m.own = true) := fun {i m} hm => by
    by_cases hi : i < n
    · exact ⟨m, (h1 i hi).trans hm, rfl, rfl, rfl, id⟩
    · exact ⟨_, h2 i m (by omega) hm, rfl, rfl, rfl, fun e => Bool.noConfusion e⟩
  induction h with
  | wild v => exact .wild v
  | bool b => exact .bool b
  | int k n => exact .int k n
  | string s => exact .string s
  | nilPtr => exact .nilPtr
  | ptr h => obtain ⟨m2, e1, e2, _⟩ := key h; rw [← e2]; exact .ptr e1
  | nilSlice => exact .nilSlice
  | empty a c => exact .empty a c
  | slice h hl ho => obtain ⟨m2, e1, e2, e3, e4, e5⟩ := key h; rw [← e2]; exact .slice e1 hl (fun e => by rw [e3, e4]; exact ho (e5 e))
  | nilMap => exact .nilMap
  | map h => obtain ⟨m2, e1, e2, _⟩ := key h; rw [← e2]; exact .map e1
  | func hx _ hc _ ih1 ih2 => exact .func hx ih1 hc ih2
  | yield h => obtain ⟨m2, e1, e2, _⟩ := key h; rw [← e2]; exact .yield e1
  | nilFunc => exact .nilFunc
  | nilIface => exact .nilIface
  | iface _ ih => exact .iface ih
  | agg hs _ ih => exact .agg hs ih
  | tuple hs _ ih => exact .tuple hs ih

/-- rows that are flat -/
def FlatRows (L : AHeap) : Prop := ∀ o ∈ L, ∃ c es, o = .row c es true ∧ c.all flat1 = true

theorem CallJ.freezeN {γ : Type} {P : Program} {E : Env γ} {f : FuncId} {args : List Value} {K K' : Value → AHeap → γ → Prop} {H : AHeap} {g : γ} (h : CallJ P E f args K H g)
    (hK : ∀ v H' g', K v H' g' → ∃ L, H' = H ++ L ∧ FlatRows L ∧ K' v (H ++ L.map frz) g') : CallJ P E f args K' H g := by
  intro ρ w S args' hi ha
  refine (h ρ w S args' hi ha).mono ?_
  rintro e w' ⟨ρ', v, v', H', g', S', rfl, hv, hi2, tr, hk⟩
  obtain ⟨L, rfl, hL, hk'⟩ := hK _ _ _ hk
  have hlen : (H ++ L.map frz).length = (H ++ L).length := by simp
  let ρ2 : Ren := fun i => if i < H.length then ρ' i else (ρ' i).map fun m => { m with own := false }
  have low : ∀ i, i < H.length → ρ2 i = ρ' i := fun i h => if_pos h
  have high : ∀ i m, H.length ≤ i → ρ' i = some m → ρ2 i = some { m with own := false } := fun i m h hm => by
    show (if i < H.length then ρ' i else (ρ' i).map fun m => { m with own := false }) = _
    rw [if_neg (by omega), hm]; rfl
  have lowe : ∀ i, i < H.length → ρ2 i = ρ i := fun i h => (low i h).trans (tr.ext i h)
  have le1 : ρ.le ρ' := fun i m hm => (tr.ext i (hi.srel.dom i m hm).1).trans hm
  have le2 : ρ.le ρ2 := fun i m hm => (lowe i (hi.srel.dom i m hm).1).trans hm
  have inv : ∀ i m, ρ2 i = some m → (i < H.length ∧ ρ' i = some m ∧ ρ i = some m) ∨ (H.length ≤ i ∧ m.own = false ∧ ∃ m0, ρ' i = some m0 ∧ m = { m0 with own := false }) := by
    intro i m hm
    by_cases hn : i < H.length
    · exact .inl ⟨hn, by rw [← low i hn]; exact hm, by rw [← lowe i hn]; exact hm⟩
    · have hm2 : (ρ' i).map (fun m : Img => { m with own := false }) = some m := by
        have : ρ2 i = (ρ' i).map (fun m : Img => { m with own := false }) := if_neg hn
        rw [← this]; exact hm
      obtain ⟨m0, h0, rfl⟩ := Option.map_eq_some_iff.1 hm2
      exact .inr ⟨by omega, rfl, m0, h0, rfl⟩
  have getL : ∀ i, i < H.length → (H ++ L.map frz)[i]? = (H ++ L)[i]? := fun i h => by rw [List.getElem?_append_left h, List.getElem?_append_left h]
  have getR : ∀ i o, H.length ≤ i → (H ++ L.map frz)[i]? = some o → ∃ c es, (H ++ L)[i]? = some (.row c es true) ∧ o = .row c es false ∧ c.all flat1 = true := fun i o h ho => by
    rw [List.getElem?_append_right h, List.getElem?_map] at ho
    obtain ⟨o0, h0, rfl⟩ := Option.map_eq_some_iff.1 ho
    obtain ⟨c, es, rfl, hc⟩ := hL o0 (List.mem_of_getElem? h0)
    exact ⟨c, es, by rw [List.getElem?_append_right h]; exact h0, rfl, hc⟩
  have own2 : ∀ b, LiveOwn ρ2 (H ++ L.map frz) b → LiveOwn ρ' (H ++ L) b := by
    rintro b ⟨i, m, o, e1, e2, e3, e4, rfl⟩
    rcases inv i m e1 with ⟨hn, q1, _⟩ | ⟨_, q1, _⟩
    · exact ⟨i, m, o, q1, by rw [← getL i hn]; exact e2, e3, e4, rfl⟩
    · rw [q1] at e4; cases e4
  have hs3 : SRel ρ2 (H ++ L.map frz) w' := by
    refine ⟨fun i m hm => ?_, fun i m o hm ho => ?_, fun i j m m' o o' hm hm' ho ho' hd hd' hown hb => ?_⟩
    · rw [hlen]
      rcases inv i m hm with ⟨hn, q1, _⟩ | ⟨_, _, m0, q1, rfl⟩
      · exact hi2.srel.dom i m q1
      · exact hi2.srel.dom i m0 q1
    · rcases inv i m hm with ⟨hn, q1, q2⟩ | ⟨hn, _, m0, q1, rfl⟩
      · rw [getL i hn] at ho
        have ho' := ho
        rw [List.getElem?_append_left hn] at ho'
        exact (ORel.restrict le1 (hi.srel.obj i m o q2 ho') (hi2.srel.obj i m o q1 ho)).mono le2
      · obtain ⟨c, es, h1, rfl, hc⟩ := getR i o hn ho
        obtain ⟨b1, b2, c', e, fr, b3, b4, b5, b6, b7⟩ := hi2.srel.obj _ m0 _ q1 h1
        exact ⟨b1, rfl, c', e, fr, b3, b4, (fun e => Bool.noConfusion e), b6, fun j k1 k2 => flat1_rel (List.all_eq_true.1 hc _ (List.getElem_mem k1)) (b7 j k1 k2)⟩
    · rcases inv i m hm with ⟨hn, q1, _⟩ | ⟨_, q1, _⟩
      · rw [getL i hn] at ho
        rcases inv j m' hm' with ⟨hn', q1', _⟩ | ⟨hn', _, m0, q1', rfl⟩
        · rw [getL j hn'] at ho'
          exact hi2.srel.inj i j m m' o o' q1 q1' ho ho' hd hd' hown hb
        · obtain ⟨c, es, h1, rfl, hc⟩ := getR j o' hn' ho'
          exact hi2.srel.inj i j m m0 o _ q1 q1' ho h1 hd rfl hown hb
      · rw [q1] at hown; cases hown
  have hv2 : VRel ρ2 v v' := hv.froz low (fun i m h hm => high i m h hm)
  exact ⟨ρ2, v, v', H ++ L.map frz, g', S', rfl, hv2, ⟨hs3, hi2.j, hi2.bnd, fun b hb hl => hi2.disj b hb (own2 b hl)⟩, ⟨by simp, lowe, tr.os, tr.tape, tr.out, tr.size, tr.keep, fun b hb => tr.fresh b (own2 b hb), tr.grow⟩, hk'⟩
end Go.Abs

namespace Go.Abs
open Go

/-- a slice of ours, or nil -/
def AppG {α : Type} (enc : α → List Value) (w : Nat) (H : AHeap) (n : Nat) (v : Value) (l : List α) : Prop :=
  (v = .slice none 0 0 ∧ l = []) ∨ ∃ i, v = .slice (some ⟨i, 0, none⟩) l.length l.length ∧ H[i]? = some (.row (l.map enc).flatten w true) ∧ n ≤ i ∧ l ≠ []
theorem AppG.nil {α : Type} {enc : α → List Value} {w n : Nat} {H : AHeap} : AppG enc w H n (.slice none 0 0) [] := .inl ⟨rfl, rfl⟩
theorem AppG.keep {α : Type} {enc : α → List Value} {w n : Nat} {H H' : AHeap} {v : Value} {l : List α} (h : AppG enc w H n v l) (hk : ∀ i o, n ≤ i → H[i]? = some o → H'[i]? = some o) : AppG enc w H' n v l := by
  rcases h with h | ⟨i, h1, h2, h3, h4⟩
  · exact .inl h
  · exact .inr ⟨i, h1, hk i _ h3 h2, h3, h4⟩
theorem AppG.app {α : Type} {enc : α → List Value} {w n : Nat} {H : AHeap} {v : Value} {l : List α} (h : AppG enc w H n v l) (L : AHeap) : AppG enc w (H ++ L) n v l := h.keep fun _ _ _ h => get_old h
theorem AppG.set {α : Type} {enc : α → List Value} {w n : Nat} {H : AHeap} {v : Value} {l : List α} (h : AppG enc w H n v l) {i : Nat} {o : AObj} (hi : i < n) : AppG enc w (H.set i o) n v l := h.keep fun _ _ hn h => get_setne (by omega) h
theorem AppG.cell {α : Type} {enc : α → List Value} {w n : Nat} {H : AHeap} {v : Value} {l : List α} (h : AppG enc w H n v l) : cellOk v = true := by
  rcases h with ⟨rfl, _⟩ | ⟨i, rfl, _⟩ <;> rfl
theorem AppG.slice {α : Type} {enc : α → List Value} {w n : Nat} {H : AHeap} {v : Value} {l : List α} {a : α} (h : AppG enc w H n v (l ++ [a])) : ∃ i k, v = .slice (some ⟨i, 0, none⟩) k k := by
  rcases h with ⟨_, h⟩ | ⟨i, h, _⟩
  · simp at h
  · exact ⟨i, _, h⟩
theorem flatten_lenG {α : Type} {enc : α → List Value} {w : Nat} (hw : ∀ a, (enc a).length = w) : ∀ l : List α, (l.map enc).flatten.length = l.length * w
  | [] => by simp
  | a :: l => by
    have := flatten_lenG hw l
    rw [List.map_cons, List.flatten_cons, List.length_append, this, hw, List.length_cons, Nat.add_mul]; omega
/-- what it shows -/
theorem AppG.rd {α : Type} {enc : α → List Value} {w n : Nat} {H : AHeap} {v : Value} {l : List α} (h : AppG enc w H n v l) (hw : ∀ a, (enc a).length = w) : RdS H v w (l.map enc) := by
  refine ⟨fun x hx => by obtain ⟨a, _, rfl⟩ := List.mem_map.1 hx; exact hw a, ?_⟩
  rcases h with ⟨rfl, rfl⟩ | ⟨i, rfl, hi, _, _⟩
  · exact .inr ⟨rfl, .inl rfl⟩
  · refine .inl ⟨i, 0, l.length, _, w, true, by simp, hi, ?_, ?_⟩
    · rw [flatten_lenG hw]; simp
    · rw [List.drop_zero]; exact List.take_of_length_le (by rw [flatten_lenG hw]; simp)

section
variable {γ : Type} {P : Program} {E : Env γ} {T : List Value} {H : AHeap} {g : γ} {R : List Value → AHeap → γ → Prop} {ops : Array Oper} {dst : Option Tmp} {ty : TypeId} {ps : String} {af : Array Edge} {rest : List Oper}
/-- one element more -/
theorem st_appG {α : Type} {enc : α → List Value} {w n : Nat} {v : Value} {l : List α} {s x : Operand} {t e : TypeId} {nn : Nat} {z : Value} {b : Nat} {d' : TypeDesc} {z' : Value} {b' : Nat} {i o cap : Nat} {cells : List Value} {es : Nat} {own : Bool} {a : α}
    [ht : TyC P t (.slice e) nn z b] [he : TyC P e d' w z' b'] (hA : AppG enc w H n v l) (hz' : (cellsL z').length = w) (hw : ∀ a, (enc a).length = w) (hs : evalT T s = v) (hx : evalT T x = .slice (some ⟨i, o, none⟩) 1 cap) (hi : H[i]? = some (.row cells es own))
    (hfit : o + w ≤ cells.length) (hc : (cells.drop o).take w = enc a) (hok : (enc a).all cellOk = true) (hnH : n ≤ H.length) (hn : l.length ≤ 1000000) (hb : b' ≤ 1000)
    (k : ∀ v2 H2, AppG enc w H2 n v2 (l ++ [a]) → (∀ H0, Ext H0 H → H0.length ≤ n → Ext H0 H2) → (∀ j o, j < n → H[j]? = some o → H2[j]? = some o) → H.length ≤ H2.length → OpsJ P E ops R rest (putT T dst v2) H2 g) :
    OpsJ P E ops R (⟨dst, .call { callee := .builtin .append, args := #[s, x], argTypes := #[t, t] }, ty, ps, af, none⟩ :: rest) T H g := by
  have hm : maxLen = 9223372036854775807 := by decide
  have hlb : (l.length + 1) * b' ≤ 140737488355328 := by
    have := Nat.mul_le_mul (show l.length + 1 ≤ 1000001 by omega) hb
    omega
  rcases hA with ⟨rfl, rfl⟩ | ⟨j, rfl, hj, hnj, hne⟩
  · refine st_appendNil hz' hs hx hi (news := enc a) (by omega) (by rw [Nat.one_mul]; exact hc) ⟨by decide, by rw [hm]; decide, by simpa using hlb⟩ (k _ _ ?_ ?_ ?_ (by simp))
    · exact .inr ⟨H.length, by simp, by simp, hnH, by simp⟩
    · exact fun H0 h0 _ => Ext.app h0 _
    · exact fun j o _ h => get_old h
  · have hlen := flatten_lenG hw l
    refine st_appendOwn hz' hs hx hj (by omega) hi (by omega) (by rw [Nat.one_mul]; exact hc) hok ⟨by rw [hm]; omega, hlb⟩ (k _ _ ?_ ?_ ?_ (by simp))
    · refine .inr ⟨H.length, by simp, ?_, hnH, by simp⟩
      rw [List.take_of_length_le (by omega)]
      have : (H.set j AObj.dead).length = H.length := by simp
      rw [List.getElem?_append_right (by omega)]
      simp
    · exact fun H0 h0 hl0 => Ext.app (Ext.set h0 (by omega) _) _
    · exact fun j2 o hj2 h => get_old (get_setne (by omega) h)
end

/-- the end of a call that hands over such a slice -/
def slV (n : Nat) {α : Type} (l : List α) : Value := if l.isEmpty then .slice none 0 0 else .slice (some ⟨n, 0, none⟩) l.length l.length
def slH {α : Type} (enc : α → List Value) (w : Nat) (l : List α) : AHeap := if l.isEmpty then [] else [.row (l.map enc).flatten w true]
theorem sl_rd {α : Type} {enc : α → List Value} {w : Nat} (hw : ∀ a, (enc a).length = w) (H : AHeap) (l : List α) : RdS (H ++ slH enc w l) (slV H.length l) w (l.map enc) := by
  refine ⟨fun x hx => by obtain ⟨a, _, rfl⟩ := List.mem_map.1 hx; exact hw a, ?_⟩
  cases l with
  | nil => exact .inr ⟨rfl, .inl rfl⟩
  | cons a l => exact .inl ⟨H.length, 0, (a :: l).length, _, w, true, by simp [slV], by simp [slH]; rfl, by have := flatten_lenG hw (a :: l); simp only [List.map_cons, List.flatten_cons] at this ⊢; simp only [List.length_cons, List.length_map] at this ⊢; omega, by rw [List.drop_zero]; exact List.take_of_length_le (by have := flatten_lenG hw (a :: l); simp only [List.map_cons, List.flatten_cons] at this ⊢; simp only [List.length_cons, List.length_map] at this ⊢; omega)⟩
theorem slV_cell {n : Nat} {α : Type} {l : List α} : cellOk (slV n l) = true := by unfold slV; split <;> rfl
theorem AppG.tidy {γ : Type} {α : Type} {enc : α → List Value} {w n : Nat} {H H1 : AHeap} {v : Value} {l : List α} {K : Value → AHeap → γ → Prop} {g : γ} (hA : AppG enc w H1 n v l) (hn : H.length ≤ n) (he : Ext H H1) (hf : ∀ a, (enc a).all flat1 = true) (hk : K (slV H.length l) (H ++ slH enc w l) g) : Tidy H K v H1 g := by
  rcases hA with ⟨rfl, rfl⟩ | ⟨i, rfl, hi, hni, hne⟩
  · exact Tidy.ext he (.flat rfl) (by simpa [slV, slH] using hk)
  · obtain ⟨L, rfl⟩ := he
    have hne' : l.isEmpty = false := by cases l <;> simp_all
    have hfl : (l.map enc).flatten.all flat1 = true := by
      refine List.all_eq_true.2 fun x hx => ?_
      obtain ⟨y, hy, hx⟩ := List.mem_flatten.1 hx
      obtain ⟨a, _, rfl⟩ := List.mem_map.1 hy
      exact List.all_eq_true.1 (hf a) x hx
    simp only [slV, slH, hne', Bool.false_eq_true, if_false] at hk
    exact ⟨[i], H, L, _, [.row (l.map enc).flatten w true], rfl, rfl, fun _ _ h => .inl h, by simp, fun k h => by simp at h; omega, by simp [hi], by simp [flatRow]; simpa using hfl, .slice (j := 0) rfl, hk⟩

theorem slH_own {α : Type} {enc : α → List Value} {w : Nat} {l : List α} : (slH enc w l).all ownRow = true := by unfold slH; split <;> rfl
section
variable {γ : Type} {P : Program} {E : Env γ} {g : γ}
theorem st_callL {T : List Value} {H : AHeap} {R : List Value → AHeap → γ → Prop} {ops : Array Oper} {dst : Option Tmp} {ty : TypeId} {ps : String} {af : Array Edge} {rest : List Oper} {f : FuncId} {xs : Array Operand} {at_ : Array TypeId} {args : List Value} {X : Value} {L : AHeap} [he : EntC P f] (ha : evalL T xs.toList = args := by first | rfl | (simp only [evalL, evalT, getT, constT]; rfl))
    (h : CallJ P E f args (fun v H' g' => v = X ∧ H' = H ++ L ∧ g' = g) H g) (k : OpsJ P E ops R rest (putT T dst X) (H ++ L) g) : OpsJ P E ops R (⟨dst, .call { callee := .value (.func f), args := xs, argTypes := at_ }, ty, ps, af, none⟩ :: rest) T H g :=
  st_call ha h (by rintro _ _ _ ⟨rfl, rfl, rfl⟩; exact k)
theorem mj_callL {T : List Value} {H : AHeap} {R : List Value → AHeap → Prop} {mm : Nat} {ops : Array Oper} {dst : Option Tmp} {ty : TypeId} {ps : String} {af : Array Edge} {rest : List Oper} {f : FuncId} {xs : Array Operand} {at_ : Array TypeId} {args : List Value} {X : Value} {L : AHeap} [he : EntC P f] (ha : evalL T xs.toList = args := by first | rfl | (simp only [evalL, evalT, getT, constT]; rfl))
    (h : CallJ P trivE f args (fun v H' g' => v = X ∧ H' = H ++ L ∧ g' = ()) H ()) (k : MonoJ P ops R mm rest (putT T dst X) (H ++ L)) (hL : L.all ownRow = true := by first | rfl | exact slH_own) : MonoJ P ops R (mm + 1) (⟨dst, .call { callee := .value (.func f), args := xs, argTypes := at_ }, ty, ps, af, none⟩ :: rest) T H :=
  mj_call X L ha h (fun _ _ _ h => ⟨h.1, h.2.1⟩) hL k
theorem st_appendNone {T : List Value} {H : AHeap} {R : List Value → AHeap → γ → Prop} {ops : Array Oper} {dst : Option Tmp} {ty : TypeId} {ps : String} {af : Array Edge} {rest : List Oper} {s x : Operand} {t e : TypeId} {n : Nat} {z : Value} {b : Nat} {d' : TypeDesc} {n' : Nat} {z' : Value} {b' : Nat} {a : Option Addr} {c : Nat} [ht : TyC P t (.slice e) n z b] [he : TyC P e d' n' z' b']
    (hs_ : evalT T s = .slice none 0 0) (hx : evalT T x = .slice a 0 c) (k : OpsJ P E ops R rest (putT T dst (.slice none 0 0)) H g) : OpsJ P E ops R (⟨dst, .call { callee := .builtin .append, args := #[s, x], argTypes := #[t, t] }, ty, ps, af, none⟩ :: rest) T H g :=
  OpsJ.step (runs_appendNone ht.ty he.ty hs_ hx) rfl k
/-- a copy: append(nil, l...) -/
theorem st_appendCopy {α : Type} {enc : α → List Value} {w : Nat} {l : List α} {T : List Value} {H Hx : AHeap} {R : List Value → AHeap → γ → Prop} {ops : Array Oper} {dst : Option Tmp} {ty : TypeId} {ps : String} {af : Array Edge} {rest : List Oper} {s x : Operand} {t e : TypeId} {n : Nat} {z : Value} {b : Nat} {d' : TypeDesc} {z' : Value} {b' : Nat} {v : Value} [ht : TyC P t (.slice e) n z b] [he : TyC P e d' w z' b']
    (hr : RdS Hx v w (l.map enc)) (hext : Ext Hx H) (hz' : (cellsL z').length = w) (hs_ : evalT T s = .slice none 0 0) (hx : evalT T x = v) (hn : l.length ≤ 1000000) (hb : b' ≤ 1000)
    (k : OpsJ P E ops R rest (putT T dst (slV H.length l)) (H ++ slH enc w l) g) : OpsJ P E ops R (⟨dst, .call { callee := .builtin .append, args := #[s, x], argTypes := #[t, t] }, ty, ps, af, none⟩ :: rest) T H g := by
  obtain ⟨_, h⟩ := hr
  have hm : maxLen = 9223372036854775807 := by decide
  cases l with
  | nil =>
    have hv : ∃ a c, v = .slice a 0 c := by
      rcases h with ⟨i, o, c, row, es', own, a, _⟩ | ⟨_, a | a⟩
      · exact ⟨_, _, a⟩
      · exact ⟨_, _, a⟩
      · exact ⟨_, _, a⟩
    obtain ⟨a, c, rfl⟩ := hv
    refine st_appendNone hs_ hx ?_
    simpa [slV, slH] using k
  | cons y l =>
    rcases h with ⟨i, o, c, row, es', own, a, b1, b2, b3⟩ | ⟨h, _⟩
    · have hlen : ((y :: l).map enc).length = (y :: l).length := by simp
      rw [hlen] at a b2 b3
      have hlb : (y :: l).length * b' ≤ 140737488355328 := by
        have := Nat.mul_le_mul hn hb
        omega
      refine st_appendNil hz' hs_ (hx.trans a) (hext.get b1) b2 b3 ⟨by simp, by rw [hm]; omega, hlb⟩ ?_
      simpa [slV, slH] using k
    · simp at h
end

section
variable {γ : Type} {P : Program} {E : Env γ} {g : γ}
theorem slV_len {α : Type} (n : Nat) (l : List α) : ∃ a c, slV n l = .slice a l.length c := by
  unfold slV
  cases l <;> exact ⟨_, _, rfl⟩
theorem st_lenSl {α : Type} {l : List α} {n0 : Nat} {T : List Value} {H : AHeap} {R : List Value → AHeap → γ → Prop} {ops : Array Oper} {dst : Option Tmp} {ty : TypeId} {ps : String} {af : Array Edge} {rest : List Oper} {x : Operand} {t e : TypeId} {n : Nat} {z : Value} {b : Nat} [ht : TyC P t (.slice e) n z b] (hx : evalT T x = slV n0 l) (k : OpsJ P E ops R rest (putT T dst (.int .i64 l.length)) H g) :
    OpsJ P E ops R (⟨dst, .call { callee := .builtin .len, args := #[x], argTypes := #[t] }, ty, ps, af, none⟩ :: rest) T H g := by
  obtain ⟨a, c, h⟩ := slV_len n0 l
  exact st_len (hx.trans h) k
theorem mj_lenSl {α : Type} {l : List α} {n0 : Nat} {T : List Value} {H : AHeap} {R : List Value → AHeap → Prop} {mm : Nat} {ops : Array Oper} {dst : Option Tmp} {ty : TypeId} {ps : String} {af : Array Edge} {rest : List Oper} {x : Operand} {t e : TypeId} {n : Nat} {z : Value} {b : Nat} [ht : TyC P t (.slice e) n z b] (hx : evalT T x = slV n0 l) (k : MonoJ P ops R mm rest (putT T dst (.int .i64 l.length)) H) :
    MonoJ P ops R (mm + 1) (⟨dst, .call { callee := .builtin .len, args := #[x], argTypes := #[t] }, ty, ps, af, none⟩ :: rest) T H := by
  obtain ⟨a, c, h⟩ := slV_len n0 l
  exact mj_len (hx.trans h) k
end

/-! ### Several such slices in one value -/
def AppB {α : Type} (enc : α → List Value) (w : Nat) (H : AHeap) (lo hi : Nat) (v : Value) (l : List α) : Prop :=
  (v = .slice none 0 0 ∧ l = []) ∨ ∃ i, v = .slice (some ⟨i, 0, none⟩) l.length l.length ∧ H[i]? = some (.row (l.map enc).flatten w true) ∧ lo ≤ i ∧ i < hi ∧ l ≠ []
theorem AppG.bnd {α : Type} {enc : α → List Value} {w n : Nat} {H : AHeap} {v : Value} {l : List α} (h : AppG enc w H n v l) : AppB enc w H n H.length v l := by
  rcases h with h | ⟨i, h1, h2, h3, h4⟩
  · exact .inl h
  · exact .inr ⟨i, h1, h2, h3, (List.getElem?_eq_some_iff.1 h2).1, h4⟩
theorem AppB.keep {α : Type} {enc : α → List Value} {w lo hi : Nat} {H H' : AHeap} {v : Value} {l : List α} (h : AppB enc w H lo hi v l) (hk : ∀ i o, lo ≤ i → i < hi → H[i]? = some o → H'[i]? = some o) : AppB enc w H' lo hi v l := by
  rcases h with h | ⟨i, h1, h2, h3, h4, h5⟩
  · exact .inl h
  · exact .inr ⟨i, h1, hk i _ h3 h4 h2, h3, h4, h5⟩
theorem AppB.cell {α : Type} {enc : α → List Value} {w lo hi : Nat} {H : AHeap} {v : Value} {l : List α} (h : AppB enc w H lo hi v l) : cellOk v = true := by
  rcases h with ⟨rfl, _⟩ | ⟨i, rfl, _⟩ <;> rfl
theorem AppB.parts {α : Type} {enc : α → List Value} {w lo hi : Nat} {H : AHeap} {v : Value} {l : List α} (h : AppB enc w H lo hi v l) :
    ∃ k : List Nat, k.Nodup ∧ k.map (fun i => H[i]?) = (slH enc w l).map some ∧ (∀ i ∈ k, lo ≤ i ∧ i < hi) ∧ k.length = (slH enc w l).length ∧ ∀ (n : Nat) (pre post : List Nat), Mv n (pre ++ (k ++ post)) v (slV (n + pre.length) l) := by
  rcases h with ⟨rfl, rfl⟩ | ⟨i, rfl, h2, h3, h4, h5⟩
  · exact ⟨[], by simp, by simp [slH], fun _ h => by simp at h, by simp [slH], fun _ _ _ => .flat rfl⟩
  · have hne' : l.isEmpty = false := by cases l <;> simp_all
    refine ⟨[i], by simp, by simp [slH, hne', h2], fun j hj => by simp at hj; subst hj; exact ⟨h3, h4⟩, by simp [slH, hne'], fun n pre post => ?_⟩
    simp only [slV, hne', Bool.false_eq_true, if_false]
    exact .slice (by simp)
theorem slH_flat {α : Type} {enc : α → List Value} {w : Nat} {l : List α} (hf : ∀ a, (enc a).all flat1 = true) : FlatRows (slH enc w l) := by
  intro o ho
  unfold slH at ho
  split at ho
  · simp at ho
  · simp at ho
    subst ho
    refine ⟨_, _, rfl, List.all_eq_true.2 fun x hx => ?_⟩
    obtain ⟨y, hy, hx⟩ := List.mem_flatten.1 hx
    obtain ⟨a, _, rfl⟩ := List.mem_map.1 hy
    exact List.all_eq_true.1 (hf a) x hx
theorem FlatRows.append {a b : AHeap} (h : FlatRows a) (k : FlatRows b) : FlatRows (a ++ b) := fun o ho => (List.mem_append.1 ho).elim (h o) (k o)
theorem FlatRows.ok {a : AHeap} (h : FlatRows a) : a.all flatRow = true := List.all_eq_true.2 fun o ho => by
  obtain ⟨c, es, rfl, hc⟩ := h o ho
  exact hc

theorem tidy3 {γ : Type} {α β δ : Type} {e1 : α → List Value} {e2 : β → List Value} {e3 : δ → List Value} {w1 w2 w3 a1 a2 a3 a4 : Nat} {H H1 : AHeap} {x y v1 v2 v3 : Value} {l1 : List α} {l2 : List β} {l3 : List δ} {K : Value → AHeap → γ → Prop} {g : γ}
    (h1 : AppB e1 w1 H1 a1 a2 v1 l1) (h2 : AppB e2 w2 H1 a2 a3 v2 l2) (h3 : AppB e3 w3 H1 a3 a4 v3 l3) (ha : H.length ≤ a1 ∧ a1 ≤ a2 ∧ a2 ≤ a3) (he : Ext H H1) (hx : flat1 x = true) (hy : flat1 y = true)
    (f1 : ∀ a, (e1 a).all flat1 = true) (f2 : ∀ a, (e2 a).all flat1 = true) (f3 : ∀ a, (e3 a).all flat1 = true)
    (hk : K (.agg ⟨[x, y, slV H.length l1, slV (H.length + (slH e1 w1 l1).length) l2, slV (H.length + (slH e1 w1 l1 ++ slH e2 w2 l2).length) l3]⟩) (H ++ (slH e1 w1 l1 ++ (slH e2 w2 l2 ++ slH e3 w3 l3))) g) : Tidy H K (.agg ⟨[x, y, v1, v2, v3]⟩) H1 g := by
  obtain ⟨k1, n1, m1, b1, z1, p1⟩ := h1.parts
  obtain ⟨k2, n2, m2, b2, z2, p2⟩ := h2.parts
  obtain ⟨k3, n3, m3, b3, z3, p3⟩ := h3.parts
  obtain ⟨L, rfl⟩ := he
  refine ⟨k1 ++ (k2 ++ k3), H, L, _, slH e1 w1 l1 ++ (slH e2 w2 l2 ++ slH e3 w3 l3), rfl, rfl, fun _ _ h => .inl h, ?_, ?_, ?_, ?_, ?_, hk⟩
  · refine List.nodup_append.2 ⟨n1, List.nodup_append.2 ⟨n2, n3, fun a ha b hb => ?_⟩, fun a ha b hb => ?_⟩
    · have := b2 a ha; have := b3 b hb; omega
    · have := b1 a ha
      rcases List.mem_append.1 hb with hb | hb
      · have := b2 b hb; omega
      · have := b3 b hb; omega
  · intro k hk'
    rcases List.mem_append.1 hk' with hk' | hk'
    · have := b1 k hk'; omega
    · rcases List.mem_append.1 hk' with hk' | hk'
      · have := b2 k hk'; omega
      · have := b3 k hk'; omega
  · simp only [List.map_append, m1, m2, m3]
  · exact ((slH_flat f1).append ((slH_flat f2).append (slH_flat f3))).ok
  · refine .aggs rfl fun j q1 q2 => ?_
    have e1' := p1 H.length [] (k2 ++ k3)
    have e2' := p2 H.length k1 k3
    have e3' := p3 H.length (k1 ++ k2) []
    simp only [List.nil_append, List.append_nil, List.append_assoc, List.length_nil, Nat.add_zero, List.length_append] at e1' e2' e3'
    match j, q1 with
    | 0, _ => exact .flat hx
    | 1, _ => exact .flat hy
    | 2, _ => exact e1'
    | 3, _ => rw [z1] at e2'; exact e2'
    | 4, _ => rw [z1, z2] at e3'; simpa [List.length_append] using e3'

theorem runs_appendZero {P : Program} {T : List Value} {H : AHeap} {dst : Option Tmp} {ty : TypeId} {ps : String} {af : Array Edge} {gd : Option (Nat × Bool)} {s x : Operand} {t e : TypeId} {n : Nat} {z : Value} {b : Nat} {d' : TypeDesc} {n' : Nat} {z' : Value} {b' : Nat} {a : Option Addr} {c i o len cp : Nat}
    (ht : Ty P t (.slice e) n z b) (he : Ty P e d' n' z' b') (hs_ : evalT T s = .slice (some ⟨i, o, none⟩) len cp) (hx : evalT T x = .slice a 0 c) :
    Runs P ⟨dst, .call { callee := .builtin .append, args := #[s, x], argTypes := #[t, t] }, ty, ps, af, gd⟩ (.slice (some ⟨i, o, none⟩) len cp) H T H :=
  Runs.pure fun ρ w ac _ hT => by
    have hrel := hs_ ▸ hT.eval s
    obtain ⟨m, cap', h1, h2, h3, hsv⟩ := rel_slice hrel
    obtain ⟨a', c', hxv⟩ := rel_len (hx ▸ hT.eval x)
    obtain ⟨hu, ti, hti, hsz, hzero, hby⟩ := he
    refine ⟨ac.eval s, ?_, hrel⟩
    have hf : (Builtin.firstCells n' 0 (.slice a' 0 c')).run P w = .ok #[] w := by cases a' <;> simp [Builtin.firstCells, loadCells, loadCellsFrom]
    simp [execOp, resolve, invoke, builtin, hsv, hxv, Builtin.append_, run_underlying ht.1, sizeOf, typeInfo, hti, hsz, Builtin.lenOf, hf, h2, storeCells]
theorem st_appendZero {γ : Type} {P : Program} {E : Env γ} {g : γ} {T : List Value} {H : AHeap} {R : List Value → AHeap → γ → Prop} {ops : Array Oper} {dst : Option Tmp} {ty : TypeId} {ps : String} {af : Array Edge} {rest : List Oper} {s x : Operand} {t e : TypeId} {n : Nat} {z : Value} {b : Nat} {d' : TypeDesc} {n' : Nat} {z' : Value} {b' : Nat} {a : Option Addr} {c i o len cp : Nat} [ht : TyC P t (.slice e) n z b] [he : TyC P e d' n' z' b']
    (hs_ : evalT T s = .slice (some ⟨i, o, none⟩) len cp) (hx : evalT T x = .slice a 0 c) (k : OpsJ P E ops R rest (putT T dst (.slice (some ⟨i, o, none⟩) len cp)) H g) : OpsJ P E ops R (⟨dst, .call { callee := .builtin .append, args := #[s, x], argTypes := #[t, t] }, ty, ps, af, none⟩ :: rest) T H g :=
  OpsJ.step (runs_appendZero ht.ty he.ty hs_ hx) rfl k
end Go.Abs

namespace Go.Proofs.Ytehobnpoeodhkaa
open Go Go.Abs Go.Proofs
set_option maxHeartbeats 400000
attribute [local irreducible] CallJ OpsJ WPJ CallV MonoJ SpecJ

section
variable {γ : Type} (E : Env γ) (g : γ) (H : AHeap)

theorem between_spec (lo hi : Int) : CallJ Try.prog E 59 [.int .i64 lo, .int .i64 hi] (fun v H' g' => v = .agg ⟨[.int .i64 lo, .int .i64 hi]⟩ ∧ H' = H ∧ g' = g) H g := by
  refine CallJ.tidy ?_
  refine CallJ.enter Try.func59 rfl (by simp only [Try.ntmps59, List.length_cons, List.length_nil, Nat.zero_add, Nat.reduceAdd, Nat.reduceSub, List.replicate_succ, List.replicate_zero, List.cons_append, List.nil_append]; rfl) ?_
  repeat' (first
    | refine W1 ?_ | refine Wc ?_ | refine W2c ?_ ?_ | refine Wg ?_ | refine W2 ?_ ?_ | exact Wdead | refine Wlive (fun hb => ?_) | intro _ _ _ _ _ _ _ _ | refine We ?_ | refine Wx ?_ | refine Wt ?_ | refine Wm ?_ | refine W2m ?_ ?_ | refine Wl ?_
    | fail)
  exact ⟨rfl, rfl, rfl⟩
theorem late_spec : CallJ Try.prog E 60 [] (fun v H' g' => v = .agg ⟨encC ⟨2, 0, 360⟩⟩ ∧ H' = H ∧ g' = g) H g := by
  refine CallJ.tidy ?_
  refine CallJ.enter Try.func60 rfl (by simp only [Try.ntmps60, List.length_nil, Nat.reduceSub, List.replicate_succ, List.replicate_zero, List.nil_append]; rfl) ?_
  repeat' (first
    | refine W1 ?_ | refine Wc ?_ | refine W2c ?_ ?_ | refine Wg ?_ | refine W2 ?_ ?_ | exact Wdead | refine Wlive (fun hb => ?_) | intro _ _ _ _ _ _ _ _ | refine We ?_ | refine Wx ?_ | refine Wt ?_ | refine Wm ?_ | refine W2m ?_ ?_ | refine Wl ?_
    | fail)
  exact ⟨rfl, rfl, rfl⟩
theorem In_spec (n lo hi : Int) : CallJ Try.prog E 45 [.int .i64 n, .int .i64 lo, .int .i64 hi] (fun v H' g' => v = .bool (decide (lo ≤ n) && decide (n ≤ hi)) ∧ H' = H ∧ g' = g) H g := by
  refine CallJ.tidy ?_
  refine CallJ.enter Try.func45 rfl (by simp only [Try.ntmps45, List.length_cons, List.length_nil, Nat.zero_add, Nat.reduceAdd, Nat.reduceSub, List.replicate_succ, List.replicate_zero, List.cons_append, List.nil_append]; rfl) ?_
  repeat' (first
    | refine W1 ?_ | refine Wc ?_ | refine W2c ?_ ?_ | refine Wg ?_ | refine W2 ?_ ?_ | exact Wdead | refine Wlive (fun hb => ?_) | intro _ _ _ _ _ _ _ _ | refine We ?_ | refine Wx ?_ | refine Wt ?_ | refine Wm ?_ | refine W2m ?_ ?_ | refine Wl ?_
    | fail)
  all_goals (refine ⟨?_, rfl, rfl⟩; show Value.bool _ = _; congr 1; all_goals first | rfl | (rw [Bool.eq_iff_iff]; simp only [Bool.and_eq_true, Bool.or_eq_true, decide_eq_true_eq, Bool.not_eq_true', beq_iff_eq, Bool.true_eq_false, Bool.false_eq_true, iff_true, true_iff, iff_false, false_iff, decide_eq_false_iff_not]; omega))
theorem to_spec (r : Int × Int) : CallJ Try.prog E 37 [.agg ⟨encR r⟩] (fun v H' g' => v = .agg ⟨encR r⟩ ∧ H' = H ∧ g' = g) H g := by
  refine CallJ.tidy ?_
  unfold encR
  refine CallJ.enter Try.func37 rfl (by simp only [Try.ntmps37, List.length_cons, List.length_nil, Nat.zero_add, Nat.reduceSub, List.replicate_succ, List.replicate_zero, List.cons_append, List.nil_append]; rfl) ?_
  repeat' (first
    | refine W1 ?_ | refine Wc ?_ | refine W2c ?_ ?_ | refine Wg ?_ | refine W2 ?_ ?_ | exact Wdead | refine Wlive (fun hb => ?_) | intro _ _ _ _ _ _ _ _ | refine We ?_ | refine Wx ?_ | refine Wt ?_ | refine Wm ?_ | refine W2m ?_ ?_ | refine Wl ?_
    | fail)
  exact ⟨rfl, rfl, rfl⟩
def thinS (m : HouseM) : Bool := decide (m.clocks.length ≤ 30) && decide (m.tickets.length ≤ 30) && decide (m.clips.length ≤ 30)
theorem Thin_spec (m : HouseM) (s1 s2 s3 : Value) (hm : HouseIs H m s1 s2 s3) : CallJ Try.prog E 23 [hv m s1 s2 s3] (fun v H' g' => v = .bool (thinS m) ∧ H' = H ∧ g' = g) H g := by
  have hok := hm.cells
  have hr1 := hm.clocks
  have hr2 := hm.tickets
  have hr3 := hm.clips
  refine CallJ.tidy ?_
  unfold hv thinS
  refine CallJ.enter Try.func23 rfl (by simp only [Try.ntmps23, List.length_cons, List.length_nil, Nat.zero_add, Nat.reduceSub, List.replicate_succ, List.replicate_zero, List.cons_append, List.nil_append]; rfl) ?_
  repeat' (first
    | refine W1 ?_ | refine Wc ?_ | refine W2c ?_ ?_ | refine Wg ?_ | refine W2 ?_ ?_ | exact Wdead | refine Wlive (fun hb => ?_) | intro _ _ _ _ _ _ _ _ | refine We ?_ | refine Wx ?_ | refine Wt ?_ | refine Wm ?_ | refine W2m ?_ ?_ | refine Wl ?_
    | fail)
  all_goals (refine ⟨?_, rfl, rfl⟩; show Value.bool _ = _; congr 1; all_goals first | rfl | (rw [Bool.eq_iff_iff]; simp only [Bool.and_eq_true, decide_eq_true_eq, Bool.false_eq_true, true_iff, false_iff]; omega))
theorem Size_spec (r : Int × Int) (h1 : -1000000 ≤ r.1 ∧ r.1 ≤ 1000000) (h2 : -1000000 ≤ r.2 ∧ r.2 ≤ 1000000) : CallJ Try.prog E 134 [.agg ⟨encR r⟩] (fun v H' g' => v = .int .i64 (r.2 - r.1 + 1) ∧ H' = H ∧ g' = g) H g := by
  refine CallJ.tidy ?_
  unfold encR
  refine CallJ.enter Try.func134 rfl (by simp only [Try.ntmps134, List.length_cons, List.length_nil, Nat.zero_add, Nat.reduceSub, List.replicate_succ, List.replicate_zero, List.cons_append, List.nil_append]; rfl) ?_
  repeat' (first
    | refine W1 ?_ | refine Wc ?_ | refine W2c ?_ ?_ | refine Wg ?_ | refine W2 ?_ ?_ | exact Wdead | refine Wlive (fun hb => ?_) | intro _ _ _ _ _ _ _ _ | refine We ?_ | refine Wx ?_ | refine Wt ?_ | refine Wm ?_ | refine W2m ?_ ?_ | refine Wl ?_
    | fail)
  exact ⟨rfl, rfl, rfl⟩
/-- two lists -/
theorem ints_spec (sv tv : Value) (a b : List Int) (ha : RdS H sv 1 (encI a)) (hb : RdS H tv 1 (encI b)) (hn : a.length ≤ 1000000) (hn2 : b.length ≤ 1000000) :
    CallJ Try.prog E 54 [sv, tv] (fun v H' g' => v = .bool (decide (a = b)) ∧ H' = H ∧ g' = g) H g := by
  refine CallJ.tidy ?_
  refine CallJ.enter Try.func54 rfl (by simp only [Try.ntmps54, List.length_cons, List.length_nil, Nat.zero_add, Nat.reduceAdd, Nat.reduceSub, List.replicate_succ, List.replicate_zero, List.cons_append, List.nil_append]; rfl) ?_
  repeat' (first
    | refine W1 ?_ | refine Wc ?_ | refine W2c ?_ ?_ | refine Wg ?_ | refine W2 ?_ ?_ | exact Wdead | refine Wlive (fun hb => ?_) | intro _ _ _ _ _ _ _ _ | refine We ?_ | refine Wx ?_ | refine Wt ?_ | refine Wm ?_ | refine W2m ?_ ?_ | refine Wl ?_
    | fail)
  · refine ⟨?_, rfl, rfl⟩
    rw [decide_eq_false]
    intro e
    subst e
    simp at *
  · refine WPJ.loopT a.length [11, 12, 13, 14, 17, 18, 19, 20, 21, 22, 23, 24, 25, 15, 16] (fun j (_ : Unit) => [(5, .int .i64 j)])
      (fun j _ H1 g1 => g1 = g ∧ H1 = H ∧ a.take j = b.take j) 0 () (Nat.zero_le _) (by intro p hp; simp at hp; rcases hp with rfl; rfl) ⟨rfl, rfl, by simp⟩ ?_
    rintro j _ H1 g1 hj ⟨rfl, rfl, hx⟩ hl0
    have hlen : b.length = a.length := by simp at *; omega
    simp only [updT, maskT, List.set_cons_zero, List.set_cons_succ]
    rcases Nat.lt_or_ge j a.length with hlt | hge
    · have hltb : j < b.length := by omega
      have hea : (encI a)[(j : Int).toNat]? = some [.int .i64 a[j]] := by simp [hlt]
      have heb : (encI b)[(j : Int).toNat]? = some [.int .i64 b[j]] := by simp [hltb]
      have hta := List.take_succ_eq_append_getElem hlt
      have htb := List.take_succ_eq_append_getElem hltb
      generalize hpa : a[j] = p at *
      generalize hpb : b[j] = q at *
      repeat' (first
        | refine W1 ?_ | refine Wc ?_ | refine W2c ?_ ?_ | refine Wg ?_ | refine W2 ?_ ?_ | exact Wdead | refine Wlive (fun hb => ?_) | intro _ _ _ _ _ _ _ _ | refine We ?_ | refine Wx ?_ | refine Wt ?_ | refine Wm ?_ | refine W2m ?_ ?_ | refine Wl ?_
        | fail)
      refine WPJ.draw 8 mixed (by kernel_rfl) (by kernel_rfl) (by kernel_rfl) (by decide) ?_
      refine MonoJ.normA ?_
      repeat' (first
        | refine W1 ?_ | refine Wc ?_ | refine W2c ?_ ?_ | refine Wg ?_ | refine W2 ?_ ?_ | exact Wdead | refine Wlive (fun hb => ?_) | intro _ _ _ _ _ _ _ _ | refine We ?_ | refine Wx ?_ | refine Wt ?_ | refine Wm ?_ | refine W2m ?_ ?_ | refine Wl ?_
        | fail)
      · refine ⟨?_, rfl, rfl⟩
        rw [decide_eq_false]
        intro e
        subst e
        have : p = q := by rw [← hpa, ← hpb]
        contradiction
      · refine ⟨(), hlt, (by repeat' (first | exact Weak.nil | refine Weak.wild ?_ | refine Weak.same ?_ | refine Weak.intEq (by first | omega | (simp; done) | (push_cast; omega)) ?_)), rfl, rfl, ?_⟩
        rw [hta, htb, hx]
        congr 2
    · skip
      repeat' (first
        | refine W1 ?_ | refine Wc ?_ | refine W2c ?_ ?_ | refine Wg ?_ | refine W2 ?_ ?_ | exact Wdead | refine Wlive (fun hb => ?_) | intro _ _ _ _ _ _ _ _ | refine We ?_ | refine Wx ?_ | refine Wt ?_ | refine Wm ?_ | refine W2m ?_ ?_ | refine Wl ?_
        | fail)
      refine ⟨?_, rfl, rfl⟩
      rw [List.take_of_length_le (by omega), List.take_of_length_le (by omega)] at hx
      rw [decide_eq_true hx]
end
end Go.Proofs.Ytehobnpoeodhkaa

namespace Go.Proofs.Ytehobnpoeodhkaa
open Go Go.Abs Go.Proofs
set_option maxHeartbeats 400000
attribute [local irreducible] CallJ OpsJ WPJ CallV MonoJ SpecJ

abbrev enc1 (x : Int) : List Value := [.int .i64 x]
theorem encI_eq (l : List Int) : encI l = l.map enc1 := rfl
theorem enc1_flat (l : List Int) : (l.map enc1).flatten = encE l := by
  induction l with
  | nil => rfl
  | cons x l ih => simp_all [encE]
section
variable {γ : Type} (E : Env γ) (g : γ) (H : AHeap)
theorem list_spec (sv : Value) (l : List Int) (hr : RdS H sv 1 (l.map enc1)) (hn : l.length ≤ 1000000) : CallJ Try.prog E 27 [sv] (fun v H' g' => v = slV H.length l ∧ H' = H ++ slH enc1 1 l ∧ g' = g) H g := by
  refine CallJ.enter Try.func27 rfl (by simp only [Try.ntmps27, List.length_cons, List.length_nil, Nat.zero_add, Nat.reduceSub, List.replicate_succ, List.replicate_zero, List.cons_append, List.nil_append]; rfl) ?_
  repeat' (first
    | refine W1 ?_ | refine Wc ?_ | refine W2c ?_ ?_ | refine Wg ?_ | refine W2 ?_ ?_ | exact Wdead | refine Wlive (fun hb => ?_) | intro _ _ _ _ _ _ _ _ | refine We ?_ | refine Wx ?_ | refine Wt ?_ | refine Wm ?_ | refine W2m ?_ ?_ | refine Wl ?_
    | fail)
  refine st_appendCopy hr (Ext.refl _) rfl rfl rfl hn (by decide) ?_
  refine OpsJ.normA ?_
  repeat' (first
    | refine W1 ?_ | refine Wc ?_ | refine W2c ?_ ?_ | refine Wg ?_ | refine W2 ?_ ?_ | exact Wdead | refine Wlive (fun hb => ?_) | intro _ _ _ _ _ _ _ _ | refine We ?_ | refine Wx ?_ | refine Wt ?_ | refine Wm ?_ | refine W2m ?_ ?_ | refine Wl ?_
    | fail)
  exact ⟨rfl, rfl, rfl⟩

/-- the clips of a ticket, by their numbers -/
def ofN (m : HouseM) (t : Int) (j : Nat) : List Int := ((List.range j).filter fun k => (m.clips[k]?.map (·.ticket)) == some t).map fun (k : Nat) => (k : Int)
def ofS (m : HouseM) (t : Int) : List Int := ofN m t m.clips.length
theorem ofN_step {m : HouseM} {t : Int} {j : Nat} (h : j < m.clips.length) : ofN m t (j + 1) = if m.clips[j].ticket = t then ofN m t j ++ [(j : Int)] else ofN m t j := by
  unfold ofN
  rw [List.range_succ, List.filter_append, List.map_append]
  simp only [List.filter_cons, List.filter_nil, List.getElem?_eq_getElem h, Option.map_some]
  by_cases e : m.clips[j].ticket = t <;> simp [e]
theorem ofN_len (m : HouseM) (t : Int) (j : Nat) : (ofN m t j).length ≤ j := by
  unfold ofN
  rw [List.length_map]
  exact Nat.le_trans (List.length_filter_le _ _) (by simp)
theorem ofN_count (m : HouseM) (t : Int) : ∀ j, j ≤ m.clips.length → ((ofN m t j).length : Int) = clipsOfS m t j
  | 0, _ => by simp [ofN, clipsOfS]
  | j + 1, h => by
    have ih := ofN_count m t j (by omega)
    rw [ofN_step (by omega), clipsOfS_succ m t (by omega)]
    split <;> simp <;> omega
theorem ofS_count (m : HouseM) (t : Int) : ((ofS m t).length : Int) = clipsOfS m t m.clips.length := ofN_count m t _ (Nat.le_refl _)

theorem Of_spec (m : HouseM) (s1 s2 s3 : Value) (t : Int) (hm : HouseIs H m s1 s2 s3) : CallJ Try.prog E 108 [hv m s1 s2 s3, .int .i64 t] (fun v H' g' => v = slV H.length (ofS m t) ∧ H' = H ++ slH enc1 1 (ofS m t) ∧ g' = g) H g := by
  have hok := hm.cells
  have hr := hm.clips
  have hn := hm.n3
  refine CallJ.tidy ?_
  unfold hv
  refine CallJ.enter Try.func108 rfl (by simp only [Try.ntmps108, List.length_cons, List.length_nil, Nat.zero_add, Nat.reduceAdd, Nat.reduceSub, List.replicate_succ, List.replicate_zero, List.cons_append, List.nil_append]; rfl) ?_
  repeat' (first
    | refine W1 ?_ | refine Wc ?_ | refine W2c ?_ ?_ | refine Wg ?_ | refine W2 ?_ ?_ | exact Wdead | refine Wlive (fun hb => ?_) | intro _ _ _ _ _ _ _ _ | refine We ?_ | refine Wx ?_ | refine Wt ?_ | refine Wm ?_ | refine W2m ?_ ?_ | refine Wl ?_
    | fail)
  refine WPJ.loopT m.clips.length [7, 8, 9, 10, 11, 14, 15, 16, 17, 18, 19, 20, 21, 22, 23, 24, 25, 12, 13] (fun j (v : Value) => [(6, .int .i64 j), (5, v)])
    (fun j v H1 g1 => g1 = g ∧ Ext H H1 ∧ H1[H.length]? = some (.row (hcells m s1 s2 s3) 1 true) ∧ AppG enc1 1 H1 (H.length + 1) v (ofN m t j) ∧ H.length + 1 ≤ H1.length) 0 (.slice none 0 0) (Nat.zero_le _)
    (by intro p hp; simp at hp; rcases hp with rfl | rfl <;> rfl) ⟨rfl, extA, getA, AppG.nil, by simp⟩ ?_
  rintro j v H1 g1 hj ⟨rfl, he, hb0, hA, hlen⟩ hl0
  simp only [updT, maskT, List.set_cons_zero, List.set_cons_succ]
  rcases Nat.lt_or_ge j m.clips.length with hlt | hge
  · have hel : (m.clips.map encC)[(j : Int).toNat]? = some (encC m.clips[j]) := by simp [hlt]
    have hstep := ofN_step (t := t) hlt
    have hol := ofN_len m t j
    generalize m.clips[j] = c at *
    repeat' (first
      | refine W1 ?_ | refine Wc ?_ | refine W2c ?_ ?_ | refine Wg ?_ | refine W2 ?_ ?_ | exact Wdead | refine Wlive (fun hb => ?_) | intro _ _ _ _ _ _ _ _ | refine We ?_ | refine Wx ?_ | refine Wt ?_ | refine Wm ?_ | refine W2m ?_ ?_ | refine Wl ?_
      | fail)
    · refine st_appG (enc := enc1) (a := (j : Int)) (hA.app _) rfl (fun _ => rfl) rfl rfl getA (by simp) rfl rfl (by simp; omega) (by omega) (by decide) ?_
      intro v2 H2 hA2 hE hK hL
      refine OpsJ.normA ?_
      repeat' (first
        | refine W1 ?_ | refine Wc ?_ | refine W2c ?_ ?_ | refine Wg ?_ | refine W2 ?_ ?_ | exact Wdead | refine Wlive (fun hb => ?_) | intro _ _ _ _ _ _ _ _ | refine We ?_ | refine Wx ?_ | refine Wt ?_ | refine Wm ?_ | refine W2m ?_ ?_ | refine Wl ?_
        | fail)
      rw [if_pos (by assumption)] at hstep
      refine ⟨v2, hlt, (by repeat' (first | exact Weak.nil | refine Weak.wild ?_ | refine Weak.same ?_ | refine Weak.intEq (by first | omega | (simp; done) | (push_cast; omega)) ?_)), rfl, hE H extA (by omega), hK _ _ (by omega) getA, by rw [hstep]; exact hA2, by simp at hL; omega⟩
    · rw [if_neg (by assumption)] at hstep
      exact ⟨v, hlt, (by repeat' (first | exact Weak.nil | refine Weak.wild ?_ | refine Weak.same ?_ | refine Weak.intEq (by first | omega | (simp; done) | (push_cast; omega)) ?_)), rfl, extA, getA, by rw [hstep]; exact hA, hlen⟩
  · skip
    repeat' (first
      | refine W1 ?_ | refine Wc ?_ | refine W2c ?_ ?_ | refine Wg ?_ | refine W2 ?_ ?_ | exact Wdead | refine Wlive (fun hb => ?_) | intro _ _ _ _ _ _ _ _ | refine We ?_ | refine Wx ?_ | refine Wt ?_ | refine Wm ?_ | refine W2m ?_ ?_ | refine Wl ?_
      | fail)
    obtain rfl : j = m.clips.length := by omega
    exact hA.tidy (by omega) he (fun _ => rfl) ⟨rfl, rfl, rfl⟩
end
end Go.Proofs.Ytehobnpoeodhkaa

namespace Go.Proofs.Ytehobnpoeodhkaa
open Go Go.Abs Go.Proofs
set_option maxHeartbeats 400000
attribute [local irreducible] CallJ OpsJ WPJ CallV MonoJ SpecJ

theorem min_step {p s : Int} (_hp : 1 ≤ p) (hs : 1 ≤ s) : min 3000 (min 3000 p * s) = min 3000 (p * s) := by
  by_cases h : p ≤ 3000
  · rw [Int.min_eq_right h]
  · have e : min 3000 p = 3000 := Int.min_eq_left (by omega)
    rw [e]
    have h1 : (3000 : Int) * 1 ≤ 3000 * s := Int.mul_le_mul_of_nonneg_left hs (by omega)
    have h2 : (3000 : Int) * 1 ≤ p * s := Int.mul_le_mul (by omega) hs (by omega) (by omega)
    omega
theorem Thin_n {m : HouseM} (h : thinS m = true) : m.clocks.length ≤ 30 ∧ m.tickets.length ≤ 30 ∧ m.clips.length ≤ 30 := by
  simp only [thinS, Bool.and_eq_true, decide_eq_true_eq] at h
  omega
section
variable {γ : Type} (E : Env γ) (g : γ) (H : AHeap)
theorem Many_spec (m : HouseM) (s1 s2 s3 : Value) (hm : HouseIs H m s1 s2 s3) (hc : ∀ r ∈ m.clocks, isClockS r = true) : CallJ Try.prog E 116 [hv m s1 s2 s3] (fun v H' g' => v = .int .i64 (min 3000 (prodS m.clocks)) ∧ H' = H ∧ g' = g) H g := by
  have hok := hm.cells
  have hr := hm.clocks
  have hn := hm.n1
  refine CallJ.tidy ?_
  unfold hv
  refine CallJ.enter Try.func116 rfl (by simp only [Try.ntmps116, List.length_cons, List.length_nil, Nat.zero_add, Nat.reduceSub, List.replicate_succ, List.replicate_zero, List.cons_append, List.nil_append]; rfl) ?_
  repeat' (first
    | (refine is_ucall ?_; first
      | refine st_callP (h := Size_spec _ _ _ r hs1 hs2) (k := ?_)
      | fail)
    | (refine is_umcall ?_; first
      | refine mj_callP (h := Size_spec _ _ _ r hs1 hs2) (k := ?_)
      | fail)
    | refine W1 ?_ | refine Wc ?_ | refine W2c ?_ ?_ | refine Wg ?_ | refine W2 ?_ ?_ | exact Wdead | refine Wlive (fun hb => ?_) | intro _ _ _ _ _ _ _ _ | refine We ?_ | refine Wx ?_ | refine Wt ?_ | refine Wm ?_ | refine W2m ?_ ?_ | refine Wl ?_
    | fail)
  refine WPJ.loopT m.clocks.length [5, 6, 7, 8, 9, 12, 13, 14, 15, 16, 17, 18, 19, 20, 10, 11] (fun j (x : Int) => [(4, .int .i64 j), (3, .int .i64 x)])
    (fun j x H1 g1 => g1 = g ∧ Ext H H1 ∧ H1[H.length]? = some (.row (hcells m s1 s2 s3) 1 true) ∧ x = min 3000 (prodS (m.clocks.take j))) 0 1 (Nat.zero_le _)
    (by intro p hp; simp at hp; rcases hp with rfl | rfl <;> rfl) ⟨rfl, extA, getA, by rw [List.take_zero]; rfl⟩ ?_
  rintro j x H1 g1 hj ⟨rfl, he, hb0, hx⟩ hl0
  simp only [updT, maskT, List.set_cons_zero, List.set_cons_succ]
  rcases Nat.lt_or_ge j m.clocks.length with hlt | hge
  · have hel : (m.clocks.map encR)[(j : Int).toNat]? = some (encR m.clocks[j]) := by simp [hlt]
    have hcr := hc _ (List.getElem_mem hlt)
    have hsucc : prodS (m.clocks.take (j + 1)) = prodS (m.clocks.take j) * (m.clocks[j].2 - m.clocks[j].1 + 1) := by rw [List.take_succ_eq_append_getElem hlt, prodS_snoc]
    have hp1 := (prodS_bd (m.clocks.take j) fun r hr => hc r (List.mem_of_mem_take hr)).1
    generalize m.clocks[j] = r at *
    simp only [isClockS, Bool.and_eq_true, decide_eq_true_eq] at hcr
    have hs1 : -1000000 ≤ r.1 ∧ r.1 ≤ 1000000 := by omega
    have hs2 : -1000000 ≤ r.2 ∧ r.2 ≤ 1000000 := by omega
    have hxb : 1 ≤ x ∧ x ≤ 3000 := by omega
    have hmul : 0 ≤ x * (r.2 - r.1 + 1) ∧ x * (r.2 - r.1 + 1) ≤ 183000 := by
      have h1 : 0 ≤ r.2 - r.1 + 1 := by omega
      have h2 : r.2 - r.1 + 1 ≤ 61 := by omega
      exact ⟨Int.mul_nonneg (by omega) h1, Int.le_trans (Int.mul_le_mul hxb.2 h2 h1 (by omega)) (by decide)⟩
    have hms := min_step hp1 (show 1 ≤ r.2 - r.1 + 1 by omega)
    repeat' (first
      | (refine is_ucall ?_; first
        | refine st_callP (h := Size_spec _ _ _ r hs1 hs2) (k := ?_)
        | fail)
      | (refine is_umcall ?_; first
        | refine mj_callP (h := Size_spec _ _ _ r hs1 hs2) (k := ?_)
        | fail)
      | refine W1 ?_ | refine Wc ?_ | refine W2c ?_ ?_ | refine Wg ?_ | refine W2 ?_ ?_ | exact Wdead | refine Wlive (fun hb => ?_) | intro _ _ _ _ _ _ _ _ | refine We ?_ | refine Wx ?_ | refine Wt ?_ | refine Wm ?_ | refine W2m ?_ ?_ | refine Wl ?_
      | fail)
    refine ⟨_, hlt, (by repeat' (first | exact Weak.nil | refine Weak.wild ?_ | refine Weak.same ?_ | refine Weak.intEq (by first | omega | (simp; done) | (push_cast; omega)) ?_)), rfl, extA, getA, ?_⟩
    rw [hsucc, ← hms, ← hx, min_if]
  · skip
    repeat' (first
      | (refine is_ucall ?_; first
        | refine st_callP (h := Size_spec _ _ _ r hs1 hs2) (k := ?_)
        | fail)
      | (refine is_umcall ?_; first
        | refine mj_callP (h := Size_spec _ _ _ r hs1 hs2) (k := ?_)
        | fail)
      | refine W1 ?_ | refine Wc ?_ | refine W2c ?_ ?_ | refine Wg ?_ | refine W2 ?_ ?_ | exact Wdead | refine Wlive (fun hb => ?_) | intro _ _ _ _ _ _ _ _ | refine We ?_ | refine Wx ?_ | refine Wt ?_ | refine Wm ?_ | refine W2m ?_ ?_ | refine Wl ?_
      | fail)
    obtain rfl : j = m.clocks.length := by omega
    rw [List.take_length] at hx
    exact ⟨by rw [hx], rfl, rfl⟩

def clipF (m : HouseM) (c : ClipM) : Bool := decide (0 ≤ c.ticket) && decide (c.ticket ≤ (m.tickets.length : Int) - 1) && (decide (0 ≤ c.clock) && decide (c.clock ≤ (m.clocks.length : Int) - 1)) && (decide (0 ≤ c.minute) && decide (c.minute ≤ 1439))
def tickF (m : HouseM) (j : Nat) : Bool := match m.tickets[j]? with | some t => decide (0 ≤ t.1) && decide (t.1 ≤ 8) && (decide (0 ≤ t.2) && decide (t.2 ≤ 9)) && decide (clipsOfS m j m.clips.length ≤ 2) | none => true
/-- the same error, said in another order -/
theorem check_eq (m : HouseM) (_hL : isLongS m = false) : isValidS m = (decide (1 ≤ m.hour) && decide (m.hour ≤ 120) && (decide (0 ≤ m.grace) && decide (m.grace ≤ 60)) && (m.clocks.all isClockS && m.clips.all (clipF m) && (List.range m.tickets.length).all (tickF m))) := by
  rw [Bool.eq_iff_iff]
  simp only [isValidS, Bool.and_eq_true, List.all_eq_true, decide_eq_true_eq, clipF, tickF, isClipS, isTicketS, List.mem_range]
  constructor
  · rintro ⟨h1, ⟨h2, h3⟩, h4⟩
    refine ⟨h1, ⟨h2, fun c hc => ?_⟩, fun j hj => ?_⟩
    · have := h4 c hc; omega
    · rw [List.getElem?_eq_getElem hj]
      have h5 := h3 _ (List.getElem_mem hj)
      simp only [Bool.and_eq_true, decide_eq_true_eq]
      refine ⟨h5, ?_⟩
      -- a ticket with clips has at most two
      by_cases h6 : clipsOfS m j m.clips.length ≤ 0
      · omega
      · have h7 : 0 < ((m.clips.take m.clips.length).countP fun c => c.ticket == (j : Int)) := by unfold clipsOfS at h6; omega
        obtain ⟨c, hc, hct⟩ := List.countP_pos_iff.1 h7
        rw [List.take_length] at hc
        have h8 := (h4 c hc).2
        simp only [beq_iff_eq] at hct
        rw [hct] at h8; exact h8
  · rintro ⟨h1, ⟨h2, h3⟩, h4⟩
    refine ⟨h1, ⟨h2, fun t ht => ?_⟩, fun c hc => ?_⟩
    · obtain ⟨j, hj, rfl⟩ := List.getElem_of_mem ht
      have := h4 j hj
      rw [List.getElem?_eq_getElem hj] at this
      simp only [Bool.and_eq_true, decide_eq_true_eq] at this
      exact this.1
    · have h5 := h3 c hc
      refine ⟨⟨⟨by omega, by omega⟩, by omega⟩, ?_⟩
      have h6 := h4 c.ticket.toNat (by omega)
      rw [List.getElem?_eq_getElem (by omega)] at h6
      simp only [Bool.and_eq_true, decide_eq_true_eq] at h6
      have h7 : ((c.ticket.toNat : Nat) : Int) = c.ticket := by omega
      rw [h7] at h6
      exact h6.2
end
end Go.Proofs.Ytehobnpoeodhkaa

namespace Go.Proofs.Ytehobnpoeodhkaa
open Go Go.Abs Go.Proofs
set_option maxHeartbeats 800000
attribute [local irreducible] CallJ OpsJ WPJ CallV MonoJ SpecJ

theorem check3 {m : HouseM} (h : isLongS m = true) : checkS m = 3 := by simp [checkS, h]
theorem check1 {m : HouseM} (hL : isLongS m = false) (h : isValidS m = false) : checkS m = 1 := by simp [checkS, hL, h]
theorem bad_hour {m : HouseM} (h : ¬ (1 ≤ m.hour ∧ m.hour ≤ 120) ∨ ¬ (0 ≤ m.grace ∧ m.grace ≤ 60)) : isValidS m = false := by
  cases hv : isValidS m with
  | false => rfl
  | true =>
    simp only [isValidS, Bool.and_eq_true, decide_eq_true_eq] at hv
    omega
theorem bad_clock {m : HouseM} (hL : isLongS m = false) {j : Nat} (hj : j < m.clocks.length) (h : isClockS m.clocks[j] = false) : isValidS m = false := by
  rw [check_eq m hL, List.all_eq_false.2 ⟨m.clocks[j], List.getElem_mem hj, by simp [h]⟩]; simp
theorem bad_clip {m : HouseM} (hL : isLongS m = false) {j : Nat} (hj : j < m.clips.length) (h : clipF m m.clips[j] = false) : isValidS m = false := by
  rw [check_eq m hL, (List.all_eq_false.2 ⟨m.clips[j], List.getElem_mem hj, by simp [h]⟩ : m.clips.all (clipF m) = false)]; simp
theorem bad_tick {m : HouseM} (hL : isLongS m = false) {j : Nat} (hj : j < m.tickets.length) (h : tickF m j = false) : isValidS m = false := by
  rw [check_eq m hL, (List.all_eq_false.2 ⟨j, List.mem_range.2 hj, by simp [h]⟩ : (List.range m.tickets.length).all (tickF m) = false)]; simp
section
variable {γ : Type} (E : Env γ) (g : γ) (H : AHeap)
theorem Fault_spec (m : HouseM) (s1 s2 s3 : Value) (hm : HouseIs H m s1 s2 s3) : CallJ Try.prog E 83 [hv m s1 s2 s3] (fun v H' g' => v = .int .i64 (checkS m) ∧ H' = H ∧ g' = g) H g := by
  have hok := hm.cells
  have hr1 := hm.clocks
  have hr2 := hm.tickets
  have hr3 := hm.clips
  refine CallJ.tidy ?_
  unfold hv
  cases hL : isLongS m with
  | true =>
    have hL' := hL
    simp only [isLongS, Bool.or_eq_true, decide_eq_true_eq] at hL'
    rw [check3 hL]
    refine CallJ.enter Try.func83 rfl (by simp only [Try.ntmps83, List.length_cons, List.length_nil, Nat.zero_add, Nat.reduceSub, List.replicate_succ, List.replicate_zero, List.cons_append, List.nil_append]; rfl) ?_
    repeat' (first
      | (refine is_ucall ?_; first
        | refine st_callP (h := In_spec _ _ _ _ _ _) (k := ?_)
        | refine st_callP (h := Many_spec _ _ _ m s1 s2 s3 (hm.ext extA) hall) (k := ?_)
        | refine st_callL (h := Of_spec _ _ _ m s1 s2 s3 _ (hm.ext extA)) (k := ?_)
        | fail)
      | (refine is_umcall ?_; first
        | refine mj_callL (h := Of_spec _ _ _ m s1 s2 s3 _ (hm.ext extA)) (k := ?_)
        | refine mj_callP (h := In_spec _ _ _ _ _ _) (k := ?_)
        | refine mj_callP (h := Many_spec _ _ _ m s1 s2 s3 (hm.ext extA) hall) (k := ?_)
        | fail)
      | refine W1 ?_ | refine Wc ?_ | refine W2c ?_ ?_ | refine Wg ?_ | refine W2 ?_ ?_ | exact Wdead | refine Wlive (fun hb => ?_) | intro _ _ _ _ _ _ _ _ | refine We ?_ | refine Wx ?_ | refine Wt ?_ | refine Wm ?_ | refine W2m ?_ ?_ | refine Wl ?_
      | fail)
    all_goals first | exact ⟨rfl, rfl, rfl⟩ | (exfalso; omega)
  | false =>
    have hL' := hL
    simp only [isLongS, Bool.or_eq_false_iff, decide_eq_false_iff_not] at hL'
    refine CallJ.enter Try.func83 rfl (by simp only [Try.ntmps83, List.length_cons, List.length_nil, Nat.zero_add, Nat.reduceSub, List.replicate_succ, List.replicate_zero, List.cons_append, List.nil_append]; rfl) ?_
    repeat' (first
      | (refine is_ucall ?_; first
        | refine st_callP (h := In_spec _ _ _ _ _ _) (k := ?_)
        | refine st_callP (h := Many_spec _ _ _ m s1 s2 s3 (hm.ext extA) hall) (k := ?_)
        | refine st_callL (h := Of_spec _ _ _ m s1 s2 s3 _ (hm.ext extA)) (k := ?_)
        | fail)
      | (refine is_umcall ?_; first
        | refine mj_callL (h := Of_spec _ _ _ m s1 s2 s3 _ (hm.ext extA)) (k := ?_)
        | refine mj_callP (h := In_spec _ _ _ _ _ _) (k := ?_)
        | refine mj_callP (h := Many_spec _ _ _ m s1 s2 s3 (hm.ext extA) hall) (k := ?_)
        | fail)
      | refine W1 ?_ | refine Wc ?_ | refine W2c ?_ ?_ | refine Wg ?_ | refine W2 ?_ ?_ | exact Wdead | refine Wlive (fun hb => ?_) | intro _ _ _ _ _ _ _ _ | refine We ?_ | refine Wx ?_ | refine Wt ?_ | refine Wm ?_ | refine W2m ?_ ?_ | refine Wl ?_
      | fail)
    · exact ⟨by rw [check1 hL (bad_hour (by omega))], rfl, rfl⟩
    rotate_left
    · exact ⟨by rw [check1 hL (bad_hour (by omega))], rfl, rfl⟩
    have hhour : 1 ≤ m.hour ∧ m.hour ≤ 120 := by assumption
    have hgrace : 0 ≤ m.grace ∧ m.grace ≤ 60 := by assumption
    refine WPJ.loopT m.clocks.length [34, 35, 36, 37, 38, 41, 42, 43, 44, 45, 4, 46, 47, 48, 49, 50, 51, 52, 53, 54, 55, 56, 57, 58, 59, 60, 39, 40] (fun j (_ : Unit) => [(3, .int .i64 j)])
      (fun j _ H1 g1 => g1 = g ∧ Ext H H1 ∧ H1[H.length]? = some (.row (hcells m s1 s2 s3) 1 true) ∧ (m.clocks.take j).all isClockS = true ∧ H.length < H1.length) 0 () (Nat.zero_le _)
      (by intro p hp; simp at hp; rcases hp with rfl; rfl) ⟨rfl, extA, getA, by simp, by simp⟩ ?_
    rintro j _ H1 g1 hj ⟨rfl, he, hb0, hx, hlen⟩ hl0
    simp only [updT, maskT, List.set_cons_zero, List.set_cons_succ]
    rcases Nat.lt_or_ge j m.clocks.length with hlt | hge
    · have hel : (m.clocks.map encR)[(j : Int).toNat]? = some (encR m.clocks[j]) := by simp [hlt]
      have hbad := bad_clock hL hlt
      have hstep : (m.clocks.take (j + 1)).all isClockS = ((m.clocks.take j).all isClockS && isClockS m.clocks[j]) := by rw [List.take_succ_eq_append_getElem hlt, List.all_append]; simp
      generalize m.clocks[j] = r at *
      repeat' (first
        | (refine is_ucall ?_; first
          | refine st_callP (h := In_spec _ _ _ _ _ _) (k := ?_)
          | refine st_callP (h := Many_spec _ _ _ m s1 s2 s3 (hm.ext extA) hall) (k := ?_)
          | refine st_callL (h := Of_spec _ _ _ m s1 s2 s3 _ (hm.ext extA)) (k := ?_)
          | fail)
        | (refine is_umcall ?_; first
          | refine mj_callL (h := Of_spec _ _ _ m s1 s2 s3 _ (hm.ext extA)) (k := ?_)
          | refine mj_callP (h := In_spec _ _ _ _ _ _) (k := ?_)
          | refine mj_callP (h := Many_spec _ _ _ m s1 s2 s3 (hm.ext extA) hall) (k := ?_)
          | fail)
        | refine W1 ?_ | refine Wc ?_ | refine W2c ?_ ?_ | refine Wg ?_ | refine W2 ?_ ?_ | exact Wdead | refine Wlive (fun hb => ?_) | intro _ _ _ _ _ _ _ _ | refine We ?_ | refine Wx ?_ | refine Wt ?_ | refine Wm ?_ | refine W2m ?_ ?_ | refine Wl ?_
        | fail)
      all_goals first
        | (have hv := hbad (by simp only [isClockS, Bool.and_eq_false_iff, decide_eq_false_iff_not]; omega); exact ⟨by rw [check1 hL hv], rfl, rfl⟩)
        | (refine ⟨(), hlt, (by repeat' (first | exact Weak.nil | refine Weak.wild ?_ | refine Weak.same ?_ | refine Weak.intEq (by first | omega | (simp; done) | (push_cast; omega)) ?_)), rfl, extA, getA, ?_, by simp; omega⟩; rw [hstep, hx, Bool.true_and]; simp only [isClockS, Bool.and_eq_true, decide_eq_true_eq]; omega)
    have hclk : m.clocks.all isClockS = true := by rwa [List.take_of_length_le hge] at hx
    obtain rfl : j = m.clocks.length := by omega
    clear hx
    repeat' (first
      | (refine is_ucall ?_; first
        | refine st_callP (h := In_spec _ _ _ _ _ _) (k := ?_)
        | refine st_callP (h := Many_spec _ _ _ m s1 s2 s3 (hm.ext extA) hall) (k := ?_)
        | refine st_callL (h := Of_spec _ _ _ m s1 s2 s3 _ (hm.ext extA)) (k := ?_)
        | fail)
      | (refine is_umcall ?_; first
        | refine mj_callL (h := Of_spec _ _ _ m s1 s2 s3 _ (hm.ext extA)) (k := ?_)
        | refine mj_callP (h := In_spec _ _ _ _ _ _) (k := ?_)
        | refine mj_callP (h := Many_spec _ _ _ m s1 s2 s3 (hm.ext extA) hall) (k := ?_)
        | fail)
      | refine W1 ?_ | refine Wc ?_ | refine W2c ?_ ?_ | refine Wg ?_ | refine W2 ?_ ?_ | exact Wdead | refine Wlive (fun hb => ?_) | intro _ _ _ _ _ _ _ _ | refine We ?_ | refine Wx ?_ | refine Wt ?_ | refine Wm ?_ | refine W2m ?_ ?_ | refine Wl ?_
      | fail)
    refine WPJ.loopT m.clips.length [61, 62, 63, 64, 65, 68, 69, 70, 71, 72, 6, 73, 74, 75, 76, 77, 78, 79, 80, 81, 82, 83, 84, 85, 86, 87, 88, 89, 90, 91, 92, 93, 94, 95, 96, 66, 67] (fun j (_ : Unit) => [(5, .int .i64 j)])
      (fun j _ H1 g2 => g2 = g1 ∧ Ext H H1 ∧ H1[H.length]? = some (.row (hcells m s1 s2 s3) 1 true) ∧ (m.clips.take j).all (clipF m) = true ∧ H.length < H1.length) 0 () (Nat.zero_le _)
      (by intro p hp; simp at hp; rcases hp with rfl; rfl) ⟨rfl, extA, getA, by simp, by first | omega | (simp; omega)⟩ ?_
    rintro j _ H2 g2 hj2 ⟨rfl, he2, hb2, hx2, hlen2⟩ hl2
    simp only [updT, maskT, List.set_cons_zero, List.set_cons_succ]
    rcases Nat.lt_or_ge j m.clips.length with hlt | hge2
    · have hel : (m.clips.map encC)[(j : Int).toNat]? = some (encC m.clips[j]) := by simp [hlt]
      have hbad := bad_clip hL hlt
      have hstep : (m.clips.take (j + 1)).all (clipF m) = ((m.clips.take j).all (clipF m) && clipF m m.clips[j]) := by rw [List.take_succ_eq_append_getElem hlt, List.all_append]; simp
      generalize m.clips[j] = c at *
      repeat' (first
        | (refine is_ucall ?_; first
          | refine st_callP (h := In_spec _ _ _ _ _ _) (k := ?_)
          | refine st_callP (h := Many_spec _ _ _ m s1 s2 s3 (hm.ext extA) hall) (k := ?_)
          | refine st_callL (h := Of_spec _ _ _ m s1 s2 s3 _ (hm.ext extA)) (k := ?_)
          | fail)
        | (refine is_umcall ?_; first
          | refine mj_callL (h := Of_spec _ _ _ m s1 s2 s3 _ (hm.ext extA)) (k := ?_)
          | refine mj_callP (h := In_spec _ _ _ _ _ _) (k := ?_)
          | refine mj_callP (h := Many_spec _ _ _ m s1 s2 s3 (hm.ext extA) hall) (k := ?_)
          | fail)
        | refine W1 ?_ | refine Wc ?_ | refine W2c ?_ ?_ | refine Wg ?_ | refine W2 ?_ ?_ | exact Wdead | refine Wlive (fun hb => ?_) | intro _ _ _ _ _ _ _ _ | refine We ?_ | refine Wx ?_ | refine Wt ?_ | refine Wm ?_ | refine W2m ?_ ?_ | refine Wl ?_
        | fail)
      all_goals first
        | (have hv := hbad (by simp only [clipF, Bool.and_eq_false_iff, decide_eq_false_iff_not]; omega); exact ⟨by rw [check1 hL hv], rfl, rfl⟩)
        | (refine ⟨(), hlt, (by repeat' (first | exact Weak.nil | refine Weak.wild ?_ | refine Weak.same ?_ | refine Weak.intEq (by first | omega | (simp; done) | (push_cast; omega)) ?_)), rfl, extA, getA, ?_, by simp; omega⟩; rw [hstep, hx2, Bool.true_and]; simp only [clipF, Bool.and_eq_true, decide_eq_true_eq]; omega)
    have hclp : m.clips.all (clipF m) = true := by rwa [List.take_of_length_le hge2] at hx2
    obtain rfl : j = m.clips.length := by omega
    clear hx2
    repeat' (first
      | (refine is_ucall ?_; first
        | refine st_callP (h := In_spec _ _ _ _ _ _) (k := ?_)
        | refine st_callP (h := Many_spec _ _ _ m s1 s2 s3 (hm.ext extA) hall) (k := ?_)
        | refine st_callL (h := Of_spec _ _ _ m s1 s2 s3 _ (hm.ext extA)) (k := ?_)
        | fail)
      | (refine is_umcall ?_; first
        | refine mj_callL (h := Of_spec _ _ _ m s1 s2 s3 _ (hm.ext extA)) (k := ?_)
        | refine mj_callP (h := In_spec _ _ _ _ _ _) (k := ?_)
        | refine mj_callP (h := Many_spec _ _ _ m s1 s2 s3 (hm.ext extA) hall) (k := ?_)
        | fail)
      | refine W1 ?_ | refine Wc ?_ | refine W2c ?_ ?_ | refine Wg ?_ | refine W2 ?_ ?_ | exact Wdead | refine Wlive (fun hb => ?_) | intro _ _ _ _ _ _ _ _ | refine We ?_ | refine Wx ?_ | refine Wt ?_ | refine Wm ?_ | refine W2m ?_ ?_ | refine Wl ?_
      | fail)
    refine WPJ.loopT m.tickets.length [97, 98, 99, 100, 101, 104, 105, 106, 107, 108, 109, 110, 111, 112, 113, 114, 115, 116, 117, 118, 119, 120, 121, 122, 123, 124, 125, 126, 127, 128, 102, 103] (fun j (_ : Unit) => [(7, .int .i64 j)])
      (fun j _ H1 g3 => g3 = g2 ∧ Ext H H1 ∧ H1[H.length]? = some (.row (hcells m s1 s2 s3) 1 true) ∧ (List.range j).all (tickF m) = true ∧ H.length < H1.length) 0 () (Nat.zero_le _)
      (by intro p hp; simp at hp; rcases hp with rfl; rfl) ⟨rfl, extA, getA, by simp, by first | omega | (simp; omega)⟩ ?_
    rintro j _ H3 g3 hj3 ⟨rfl, he3, hb3, hx3, hlen3⟩ hl3
    simp only [updT, maskT, List.set_cons_zero, List.set_cons_succ]
    rcases Nat.lt_or_ge j m.tickets.length with hlt | hge3
    · have hel : (m.tickets.map encR)[(j : Int).toNat]? = some (encR m.tickets[j]) := by simp [hlt]
      have hbad := bad_tick hL hlt
      have hstep : (List.range (j + 1)).all (tickF m) = ((List.range j).all (tickF m) && tickF m j) := by rw [List.range_succ, List.all_append]; simp
      have htk : tickF m j = (decide (0 ≤ m.tickets[j].1) && decide (m.tickets[j].1 ≤ 8) && (decide (0 ≤ m.tickets[j].2) && decide (m.tickets[j].2 ≤ 9)) && decide (clipsOfS m j m.clips.length ≤ 2)) := by unfold tickF; rw [List.getElem?_eq_getElem hlt]
      have hcount := ofS_count m (j : Int)
      rw [htk] at hbad hstep
      generalize m.tickets[j] = r at *
      repeat' (first
        | (refine is_ucall ?_; first
          | refine st_callP (h := In_spec _ _ _ _ _ _) (k := ?_)
          | refine st_callP (h := Many_spec _ _ _ m s1 s2 s3 (hm.ext extA) hall) (k := ?_)
          | refine st_callL (h := Of_spec _ _ _ m s1 s2 s3 _ (hm.ext extA)) (k := ?_)
          | fail)
        | (refine is_umcall ?_; first
          | refine mj_callL (h := Of_spec _ _ _ m s1 s2 s3 _ (hm.ext extA)) (k := ?_)
          | refine mj_callP (h := In_spec _ _ _ _ _ _) (k := ?_)
          | refine mj_callP (h := Many_spec _ _ _ m s1 s2 s3 (hm.ext extA) hall) (k := ?_)
          | fail)
        | refine W1 ?_ | refine Wc ?_ | refine W2c ?_ ?_ | refine Wg ?_ | refine W2 ?_ ?_ | exact Wdead | refine Wlive (fun hb => ?_) | intro _ _ _ _ _ _ _ _ | refine We ?_ | refine Wx ?_ | refine Wt ?_ | refine Wm ?_ | refine W2m ?_ ?_ | refine Wl ?_
        | fail)
      all_goals first
        | (have hv := hbad (by simp only [Bool.and_eq_false_iff, decide_eq_false_iff_not]; omega); exact ⟨by rw [check1 hL hv], rfl, rfl⟩)
        | skip
      refine st_lenSl rfl ?_
      refine OpsJ.normA ?_
      repeat' (first
        | (refine is_ucall ?_; first
          | refine st_callP (h := In_spec _ _ _ _ _ _) (k := ?_)
          | refine st_callP (h := Many_spec _ _ _ m s1 s2 s3 (hm.ext extA) hall) (k := ?_)
          | refine st_callL (h := Of_spec _ _ _ m s1 s2 s3 _ (hm.ext extA)) (k := ?_)
          | fail)
        | (refine is_umcall ?_; first
          | refine mj_callL (h := Of_spec _ _ _ m s1 s2 s3 _ (hm.ext extA)) (k := ?_)
          | refine mj_callP (h := In_spec _ _ _ _ _ _) (k := ?_)
          | refine mj_callP (h := Many_spec _ _ _ m s1 s2 s3 (hm.ext extA) hall) (k := ?_)
          | fail)
        | refine W1 ?_ | refine Wc ?_ | refine W2c ?_ ?_ | refine Wg ?_ | refine W2 ?_ ?_ | exact Wdead | refine Wlive (fun hb => ?_) | intro _ _ _ _ _ _ _ _ | refine We ?_ | refine Wx ?_ | refine Wt ?_ | refine Wm ?_ | refine W2m ?_ ?_ | refine Wl ?_
        | fail)
      all_goals first
        | (have hv := hbad (by simp only [Bool.and_eq_false_iff, decide_eq_false_iff_not]; omega); exact ⟨by rw [check1 hL hv], rfl, rfl⟩)
        | (refine ⟨(), hlt, (by repeat' (first | exact Weak.nil | refine Weak.wild ?_ | refine Weak.same ?_ | refine Weak.intEq (by first | omega | (simp; done) | (push_cast; omega)) ?_)), rfl, extA, getA, ?_, by simp; omega⟩; rw [hstep, hx3, Bool.true_and]; simp only [Bool.and_eq_true, decide_eq_true_eq]; omega)
    have hval : isValidS m = true := by
      have h4 : j = m.tickets.length := by omega
      rw [check_eq m hL, hclk, hclp, ← h4, hx3]
      simp [hhour, hgrace]
    obtain rfl : j = m.tickets.length := by omega
    clear hx3
    have hall : ∀ r ∈ m.clocks, isClockS r = true := List.all_eq_true.1 hclk
    repeat' (first
      | (refine is_ucall ?_; first
        | refine st_callP (h := In_spec _ _ _ _ _ _) (k := ?_)
        | refine st_callP (h := Many_spec _ _ _ m s1 s2 s3 (hm.ext extA) hall) (k := ?_)
        | refine st_callL (h := Of_spec _ _ _ m s1 s2 s3 _ (hm.ext extA)) (k := ?_)
        | fail)
      | (refine is_umcall ?_; first
        | refine mj_callL (h := Of_spec _ _ _ m s1 s2 s3 _ (hm.ext extA)) (k := ?_)
        | refine mj_callP (h := In_spec _ _ _ _ _ _) (k := ?_)
        | refine mj_callP (h := Many_spec _ _ _ m s1 s2 s3 (hm.ext extA) hall) (k := ?_)
        | fail)
      | refine W1 ?_ | refine Wc ?_ | refine W2c ?_ ?_ | refine Wg ?_ | refine W2 ?_ ?_ | exact Wdead | refine Wlive (fun hb => ?_) | intro _ _ _ _ _ _ _ _ | refine We ?_ | refine Wx ?_ | refine Wt ?_ | refine Wm ?_ | refine W2m ?_ ?_ | refine Wl ?_
      | fail)
    all_goals refine ⟨?_, rfl, rfl⟩
    all_goals (simp only [checkS, hL, hval, Bool.false_eq_true, if_false, if_true])
    · rw [if_pos (by omega)]
    · rw [if_neg (by omega)]
theorem fault_spec (m : HouseM) (s1 s2 s3 : Value) (hm : HouseIs H m s1 s2 s3) : CallJ Try.prog E 29 [hv m s1 s2 s3] (fun v H' g' => v = .int .i64 (checkS m) ∧ H' = H ∧ g' = g) H g := by
  have hok := hm.cells
  refine CallJ.tidy ?_
  unfold hv
  refine CallJ.enter Try.func29 rfl (by simp only [Try.ntmps29, List.length_cons, List.length_nil, Nat.zero_add, Nat.reduceSub, List.replicate_succ, List.replicate_zero, List.cons_append, List.nil_append]; rfl) ?_
  repeat' (first
    | (refine is_ucall ?_; first
      | refine st_callP (h := Fault_spec _ _ _ m s1 s2 s3 (hm.ext extA)) (k := ?_)
      | refine st_callP (h := Thin_spec _ _ _ m s1 s2 s3 (hm.ext extA)) (k := ?_)
      | fail)
    | (refine is_umcall ?_; first
      | refine mj_callP (h := Fault_spec _ _ _ m s1 s2 s3 (hm.ext extA)) (k := ?_)
      | refine mj_callP (h := Thin_spec _ _ _ m s1 s2 s3 (hm.ext extA)) (k := ?_)
      | fail)
    | refine W1 ?_ | refine Wc ?_ | refine W2c ?_ ?_ | refine Wg ?_ | refine W2 ?_ ?_ | exact Wdead | refine Wlive (fun hb => ?_) | intro _ _ _ _ _ _ _ _ | refine We ?_ | refine Wx ?_ | refine Wt ?_ | refine Wm ?_ | refine W2m ?_ ?_ | refine Wl ?_
    | fail)
  exact ⟨rfl, rfl, rfl⟩
theorem ready_spec (m : HouseM) (s1 s2 s3 : Value) (hm : HouseIs H m s1 s2 s3) : CallJ Try.prog E 61 [hv m s1 s2 s3] (fun v H' g' => v = .bool (thinS m && decide (checkS m = 0)) ∧ H' = H ∧ g' = g) H g := by
  have hok := hm.cells
  refine CallJ.tidy ?_
  unfold hv
  refine CallJ.enter Try.func61 rfl (by simp only [Try.ntmps61, List.length_cons, List.length_nil, Nat.zero_add, Nat.reduceSub, List.replicate_succ, List.replicate_zero, List.cons_append, List.nil_append]; rfl) ?_
  repeat' (first
    | (refine is_ucall ?_; first
      | refine st_callP (h := Fault_spec _ _ _ m s1 s2 s3 (hm.ext extA)) (k := ?_)
      | refine st_callP (h := Thin_spec _ _ _ m s1 s2 s3 (hm.ext extA)) (k := ?_)
      | fail)
    | (refine is_umcall ?_; first
      | refine mj_callP (h := Fault_spec _ _ _ m s1 s2 s3 (hm.ext extA)) (k := ?_)
      | refine mj_callP (h := Thin_spec _ _ _ m s1 s2 s3 (hm.ext extA)) (k := ?_)
      | fail)
    | refine W1 ?_ | refine Wc ?_ | refine W2c ?_ ?_ | refine Wg ?_ | refine W2 ?_ ?_ | exact Wdead | refine Wlive (fun hb => ?_) | intro _ _ _ _ _ _ _ _ | refine We ?_ | refine Wx ?_ | refine Wt ?_ | refine Wm ?_ | refine W2m ?_ ?_ | refine Wl ?_
    | fail)
  all_goals (refine ⟨?_, rfl, rfl⟩; first | rfl | (simp [*]; done) | (simp only [*]; simp; done))
end
end Go.Proofs.Ytehobnpoeodhkaa

namespace Go.Proofs.Ytehobnpoeodhkaa
open Go Go.Abs Go.Proofs
set_option maxHeartbeats 800000
attribute [local irreducible] CallJ OpsJ WPJ CallV MonoJ SpecJ

/-! ### A house that is made -/
abbrev hS1 (n : Nat) (m : HouseM) : Value := slV n m.clocks
abbrev hS2 (n : Nat) (m : HouseM) : Value := slV (n + (slH encR 2 m.clocks).length) m.tickets
abbrev hS3 (n : Nat) (m : HouseM) : Value := slV (n + (slH encR 2 m.clocks ++ slH encR 2 m.tickets).length) m.clips
def houseV (n : Nat) (m : HouseM) : Value := hv m (hS1 n m) (hS2 n m) (hS3 n m)
def houseL (m : HouseM) : AHeap := slH encR 2 m.clocks ++ (slH encR 2 m.tickets ++ slH encC 3 m.clips)
theorem encR_len (r : Int × Int) : (encR r).length = 2 := rfl
theorem encC_len (r : ClipM) : (encC r).length = 3 := rfl
theorem houseL_flat (m : HouseM) : FlatRows (houseL m) := (slH_flat fun _ => rfl).append ((slH_flat fun _ => rfl).append (slH_flat fun _ => rfl))

theorem rd_at' {α : Type} {enc : α → List Value} {w : Nat} (hw : ∀ a, (enc a).length = w) {H' : AHeap} {n : Nat} {own : Bool} {l : List α} (hn : l ≠ [] → H'[n]? = some (.row (l.map enc).flatten w own)) : RdS H' (slV n l) w (l.map enc) := by
  refine ⟨fun x hx => by obtain ⟨a, _, rfl⟩ := List.mem_map.1 hx; exact hw a, ?_⟩
  cases l with
  | nil => exact .inr ⟨rfl, .inl rfl⟩
  | cons a l =>
    have hl := flatten_lenG hw (a :: l)
    refine .inl ⟨n, 0, (a :: l).length, _, w, own, by simp [slV], hn (by simp), ?_, ?_⟩
    · rw [hl]; simp
    · rw [List.drop_zero]; exact List.take_of_length_le (by rw [hl]; simp)
theorem plain_at' {α : Type} {enc : α → List Value} {w : Nat} (hf : ∀ a, (enc a).all flat1 = true) {H' : AHeap} {n : Nat} {l : List α} (hn : l ≠ [] → H'[n]? = some (.row (l.map enc).flatten w false)) : PlainS H' (slV n l) := by
  cases l with
  | nil => intro i hi; cases hi
  | cons a l =>
    intro i hi
    simp [slV, idOf] at hi
    subst hi
    refine ⟨_, _, hn (by simp), fun x hx => .flat ?_⟩
    obtain ⟨y, hy, hx⟩ := List.mem_flatten.1 hx
    obtain ⟨b, _, rfl⟩ := List.mem_map.1 hy
    exact List.all_eq_true.1 (hf b) x hx
theorem slH_frz {α : Type} {enc : α → List Value} {w : Nat} {l : List α} (h : l ≠ []) : (slH enc w l).map frz = [.row (l.map enc).flatten w false] := by
  have hne' : l.isEmpty = false := by cases l <;> simp_all
  simp [slH, hne', frz]
theorem house_made (H : AHeap) (m : HouseM) (h1 : m.clocks.length ≤ 1000000) (h2 : m.tickets.length ≤ 1000000) (h3 : m.clips.length ≤ 1000000) : HouseIs (H ++ (houseL m).map frz) m (hS1 H.length m) (hS2 H.length m) (hS3 H.length m) := by
  have g1 : m.clocks ≠ [] → (H ++ (houseL m).map frz)[H.length]? = some (.row (m.clocks.map encR).flatten 2 false) := fun h => by
    unfold houseL
    rw [List.map_append, slH_frz h]
    simp
  have g2 : m.tickets ≠ [] → (H ++ (houseL m).map frz)[H.length + (slH encR 2 m.clocks).length]? = some (.row (m.tickets.map encR).flatten 2 false) := fun h => by
    unfold houseL
    rw [List.map_append, List.map_append, slH_frz h, List.getElem?_append_right (by omega), List.getElem?_append_right (by simp)]
    simp
  have g3 : m.clips ≠ [] → (H ++ (houseL m).map frz)[H.length + (slH encR 2 m.clocks ++ slH encR 2 m.tickets).length]? = some (.row (m.clips.map encC).flatten 3 false) := fun h => by
    have e : (houseL m).map frz = (slH encR 2 m.clocks ++ slH encR 2 m.tickets).map frz ++ [.row (m.clips.map encC).flatten 3 false] := by
      unfold houseL
      rw [← List.append_assoc, List.map_append, slH_frz h]
    rw [e, List.getElem?_append_right (by omega), List.getElem?_append_right (by rw [List.length_map]; omega), List.length_map]
    have : H.length + (slH encR 2 m.clocks ++ slH encR 2 m.tickets).length - H.length - (slH encR 2 m.clocks ++ slH encR 2 m.tickets).length = 0 := by omega
    rw [this]; rfl
  exact ⟨rd_at' encR_len g1, rd_at' encR_len g2, rd_at' encC_len g3, by simp [slV_cell], h1, h2, h3, plain_at' (fun _ => rfl) g1, plain_at' (fun _ => rfl) g2, plain_at' (fun _ => rfl) g3⟩

section
variable {γ : Type} (E : Env γ) (g : γ) (H : AHeap)
theorem House_spec (m : HouseM) (s1 s2 s3 : Value) (hm : HouseIs H m s1 s2 s3) (hb1 : m.clocks.length ≤ 1000) (hb2 : m.tickets.length ≤ 1000) (hb3 : m.clips.length ≤ 1000) : CallJ Try.prog E 26 [hv m s1 s2 s3] (fun v H' g' => v = houseV H.length m ∧ H' = H ++ (houseL m).map frz ∧ g' = g) H g := by
  refine CallJ.freezeN (K := fun v H' g' => v = houseV H.length m ∧ H' = H ++ houseL m ∧ g' = g) ?_ (by rintro v H' g' ⟨rfl, rfl, rfl⟩; exact ⟨_, rfl, houseL_flat m, rfl, rfl, rfl⟩)
  have hok := hm.cells
  have hr1 := hm.clocks
  have hr2 := hm.tickets
  have hr3 := hm.clips
  refine CallJ.tidy ?_
  unfold hv
  refine CallJ.enter Try.func26 rfl (by simp only [Try.ntmps26, List.length_cons, List.length_nil, Nat.zero_add, Nat.reduceSub, List.replicate_succ, List.replicate_zero, List.cons_append, List.nil_append]; rfl) ?_
  repeat' (first
    | (refine is_ucall ?_; first
      | refine st_callP (h := to_spec _ _ _ r) (k := ?_)
      | fail)
    | (refine is_umcall ?_; first
      | refine mj_callP (h := to_spec _ _ _ r) (k := ?_)
      | fail)
    | refine W1 ?_ | refine Wc ?_ | refine W2c ?_ ?_ | refine Wg ?_ | refine W2 ?_ ?_ | exact Wdead | refine Wlive (fun hb => ?_) | intro _ _ _ _ _ _ _ _ | refine We ?_ | refine Wx ?_ | refine Wt ?_ | refine Wm ?_ | refine W2m ?_ ?_ | refine Wl ?_
    | fail)
  refine WPJ.loopT m.clocks.length [13, 14, 15, 16, 17, 20, 21, 22, 23, 24, 25, 26, 27, 28, 29, 30, 18, 19] (fun j (v : Value) => [(4, .int .i64 j)])
    (fun j v H1 g1 => g1 = g ∧ Ext H H1 ∧ H1[H.length]? = some (.row (hcells m s1 s2 s3) 1 true) ∧ H1[H.length + 2]? = some (.row [.int .i64 m.hour, .int .i64 m.grace, v, .slice none 0 0, .slice none 0 0] 1 true) ∧ H1[H.length + 1]? = some (.row [.int .i64 0, .int .i64 0, .slice none 0 0, .slice none 0 0, .slice none 0 0] 1 true) ∧ AppG encR 2 H1 (H.length + 3) v (m.clocks.take j) ∧ H.length + 3 ≤ H1.length) 0 (.slice none 0 0) (Nat.zero_le _)
    (by intro p hp; simp at hp; rcases hp with rfl; rfl) ⟨rfl, extA, getA, getA, getA, by rw [List.take_zero]; exact AppG.nil, by simp⟩ ?_
  rintro j v1 H1 g1 hj ⟨rfl, he, hb0, hb2', hb1', hA, hlen⟩ hl0
  simp only [updT, maskT, List.set_cons_zero, List.set_cons_succ]
  rcases Nat.lt_or_ge j m.clocks.length with hlt | hge
  · have hel : (m.clocks.map encR)[(j : Int).toNat]? = some (encR m.clocks[j]) := by simp [hlt]
    have htk := List.take_succ_eq_append_getElem hlt
    have htl : (m.clocks.take j).length ≤ 1000000 := by simp; omega
    generalize m.clocks[j] = r at *
    repeat' (first
      | (refine is_ucall ?_; first
        | refine st_callP (h := to_spec _ _ _ r) (k := ?_)
        | fail)
      | (refine is_umcall ?_; first
        | refine mj_callP (h := to_spec _ _ _ r) (k := ?_)
        | fail)
      | refine W1 ?_ | refine Wc ?_ | refine W2c ?_ ?_ | refine Wg ?_ | refine W2 ?_ ?_ | exact Wdead | refine Wlive (fun hb => ?_) | intro _ _ _ _ _ _ _ _ | refine We ?_ | refine Wx ?_ | refine Wt ?_ | refine Wm ?_ | refine W2m ?_ ?_ | refine Wl ?_
      | fail)
    refine WPJ.draw 9 mixed (by kernel_rfl) (by kernel_rfl) (by kernel_rfl) (by decide) ?_
    refine MonoJ.normA ?_
    repeat' (first
      | (refine is_ucall ?_; first
        | refine st_callP (h := to_spec _ _ _ r) (k := ?_)
        | fail)
      | (refine is_umcall ?_; first
        | refine mj_callP (h := to_spec _ _ _ r) (k := ?_)
        | fail)
      | refine W1 ?_ | refine Wc ?_ | refine W2c ?_ ?_ | refine Wg ?_ | refine W2 ?_ ?_ | exact Wdead | refine Wlive (fun hb => ?_) | intro _ _ _ _ _ _ _ _ | refine We ?_ | refine Wx ?_ | refine Wt ?_ | refine Wm ?_ | refine W2m ?_ ?_ | refine Wl ?_
      | fail)
    refine st_appG (a := r) (hA.app _) rfl encR_len rfl rfl getA (by simp) rfl rfl (by simp; omega) htl (by decide) ?_
    intro v2 H2 hA2 hE hK hL
    obtain ⟨i2, k2, rfl⟩ := hA2.slice
    have e0 := hK (H.length) _ (by omega) (get_old hb0)
    have e1 := hK (H.length + 1) _ (by omega) (get_old hb1')
    have e2 := hK (H.length + 2) _ (by omega) (get_old hb2')
    simp only [List.length_append, List.length_cons, List.length_nil] at hL
    refine OpsJ.normA ?_
    repeat' (first
      | (refine is_ucall ?_; first
        | refine st_callP (h := to_spec _ _ _ r) (k := ?_)
        | fail)
      | (refine is_umcall ?_; first
        | refine mj_callP (h := to_spec _ _ _ r) (k := ?_)
        | fail)
      | refine W1 ?_ | refine Wc ?_ | refine W2c ?_ ?_ | refine Wg ?_ | refine W2 ?_ ?_ | exact Wdead | refine Wlive (fun hb => ?_) | intro _ _ _ _ _ _ _ _ | refine We ?_ | refine Wx ?_ | refine Wt ?_ | refine Wm ?_ | refine W2m ?_ ?_ | refine Wl ?_
      | fail)
    exact ⟨_, hlt, (by repeat' (first | exact Weak.nil | refine Weak.wild ?_ | refine Weak.same ?_ | refine Weak.intEq (by first | omega | (simp; done) | (push_cast; omega)) ?_)), rfl, Ext.set (hE H extA (by omega)) (by omega) _, getA, getA, getA, by rw [htk]; refine hA2.set ?_; omega, by rw [List.length_set]; omega⟩
  obtain rfl : j = m.clocks.length := by omega
  rw [List.take_length] at hA
  have hB1 := hA.bnd
  obtain ⟨a2, ha2⟩ : ∃ a2, a2 = H1.length := ⟨_, rfl⟩
  rw [← ha2] at hB1
  have hcv1 := hA.cell
  clear hA
  repeat' (first
    | (refine is_ucall ?_; first
      | refine st_callP (h := to_spec _ _ _ r) (k := ?_)
      | fail)
    | (refine is_umcall ?_; first
      | refine mj_callP (h := to_spec _ _ _ r) (k := ?_)
      | fail)
    | refine W1 ?_ | refine Wc ?_ | refine W2c ?_ ?_ | refine Wg ?_ | refine W2 ?_ ?_ | exact Wdead | refine Wlive (fun hb => ?_) | intro _ _ _ _ _ _ _ _ | refine We ?_ | refine Wx ?_ | refine Wt ?_ | refine Wm ?_ | refine W2m ?_ ?_ | refine Wl ?_
    | fail)
  refine WPJ.loopT m.tickets.length [31, 32, 33, 34, 35, 38, 39, 40, 41, 42, 43, 44, 45, 46, 47, 48, 49, 50, 51, 52, 53, 54, 55, 36, 37] (fun j (v : Value) => [(5, .int .i64 j)])
    (fun j v H2 g2 => g2 = g1 ∧ Ext H H2 ∧ H2[H.length]? = some (.row (hcells m s1 s2 s3) 1 true) ∧ H2[H.length + 2]? = some (.row [.int .i64 m.hour, .int .i64 m.grace, v1, v, .slice none 0 0] 1 true) ∧ H2[H.length + 1]? = some (.row [.int .i64 0, .int .i64 0, .slice none 0 0, .slice none 0 0, .slice none 0 0] 1 true) ∧ AppB encR 2 H2 (H.length + 3) a2 v1 m.clocks ∧ AppG encR 2 H2 a2 v (m.tickets.take j) ∧ a2 ≤ H2.length) 0 (.slice none 0 0) (Nat.zero_le _)
    (by intro p hp; simp at hp; rcases hp with rfl; rfl) ⟨rfl, extA, getA, getA, getA, hB1.keep (fun i o _ _ h => by first | exact h | exact get_old h), by rw [List.take_zero]; exact AppG.nil, by first | omega | (simp; omega)⟩ ?_
  clear hl0 hB1 hb0 hb2' hb1' he
  rintro j v2 H2 g2 hj2 ⟨rfl, he, hb0, hb2', hb1', hB1, hA, hlen2⟩ hl0
  simp only [updT, maskT, List.set_cons_zero, List.set_cons_succ]
  rcases Nat.lt_or_ge j m.tickets.length with hlt | hge2
  · have hel : (m.tickets.map encR)[(j : Int).toNat]? = some (encR m.tickets[j]) := by simp [hlt]
    have htk := List.take_succ_eq_append_getElem hlt
    have htl : (m.tickets.take j).length ≤ 1000000 := by simp; omega
    generalize m.tickets[j] = r at *
    repeat' (first
      | (refine is_ucall ?_; first
        | refine st_callP (h := to_spec _ _ _ r) (k := ?_)
        | fail)
      | (refine is_umcall ?_; first
        | refine mj_callP (h := to_spec _ _ _ r) (k := ?_)
        | fail)
      | refine W1 ?_ | refine Wc ?_ | refine W2c ?_ ?_ | refine Wg ?_ | refine W2 ?_ ?_ | exact Wdead | refine Wlive (fun hb => ?_) | intro _ _ _ _ _ _ _ _ | refine We ?_ | refine Wx ?_ | refine Wt ?_ | refine Wm ?_ | refine W2m ?_ ?_ | refine Wl ?_
      | fail)
    refine WPJ.draw 16 mixed (by kernel_rfl) (by kernel_rfl) (by kernel_rfl) (by decide) ?_
    refine MonoJ.normA ?_
    repeat' (first
      | (refine is_ucall ?_; first
        | refine st_callP (h := to_spec _ _ _ r) (k := ?_)
        | fail)
      | (refine is_umcall ?_; first
        | refine mj_callP (h := to_spec _ _ _ r) (k := ?_)
        | fail)
      | refine W1 ?_ | refine Wc ?_ | refine W2c ?_ ?_ | refine Wg ?_ | refine W2 ?_ ?_ | exact Wdead | refine Wlive (fun hb => ?_) | intro _ _ _ _ _ _ _ _ | refine We ?_ | refine Wx ?_ | refine Wt ?_ | refine Wm ?_ | refine W2m ?_ ?_ | refine Wl ?_
      | fail)
    refine st_appG (a := r) (hA.app _) rfl encR_len rfl rfl getA (by simp) rfl rfl (by simp; omega) htl (by decide) ?_
    intro v3 H3 hA3 hE hK hL
    obtain ⟨i3, k3, rfl⟩ := hA3.slice
    have e0 := hK (H.length) _ (by omega) (get_old hb0)
    have e1 := hK (H.length + 1) _ (by omega) (get_old hb1')
    have e2 := hK (H.length + 2) _ (by omega) (get_old hb2')
    simp only [List.length_append, List.length_cons, List.length_nil] at hL
    refine OpsJ.normA ?_
    repeat' (first
      | (refine is_ucall ?_; first
        | refine st_callP (h := to_spec _ _ _ r) (k := ?_)
        | fail)
      | (refine is_umcall ?_; first
        | refine mj_callP (h := to_spec _ _ _ r) (k := ?_)
        | fail)
      | refine W1 ?_ | refine Wc ?_ | refine W2c ?_ ?_ | refine Wg ?_ | refine W2 ?_ ?_ | exact Wdead | refine Wlive (fun hb => ?_) | intro _ _ _ _ _ _ _ _ | refine We ?_ | refine Wx ?_ | refine Wt ?_ | refine Wm ?_ | refine W2m ?_ ?_ | refine Wl ?_
      | fail)
    exact ⟨_, hlt, (by repeat' (first | exact Weak.nil | refine Weak.wild ?_ | refine Weak.same ?_ | refine Weak.intEq (by first | omega | (simp; done) | (push_cast; omega)) ?_)), rfl, Ext.set (hE H extA (by omega)) (by omega) _, getA, getA, getA, hB1.keep (fun i o h1 h2 h => get_setne (by omega) (hK i o h2 (get_old h))), by rw [htk]; refine hA3.set ?_; omega, by rw [List.length_set]; omega⟩
  obtain rfl : j = m.tickets.length := by omega
  rw [List.take_length] at hA
  have hB2 := hA.bnd
  obtain ⟨a3, ha3⟩ : ∃ a3, a3 = H2.length := ⟨_, rfl⟩
  rw [← ha3] at hB2
  have hcv2 := hA.cell
  clear hA
  repeat' (first
    | (refine is_ucall ?_; first
      | refine st_callP (h := to_spec _ _ _ r) (k := ?_)
      | fail)
    | (refine is_umcall ?_; first
      | refine mj_callP (h := to_spec _ _ _ r) (k := ?_)
      | fail)
    | refine W1 ?_ | refine Wc ?_ | refine W2c ?_ ?_ | refine Wg ?_ | refine W2 ?_ ?_ | exact Wdead | refine Wlive (fun hb => ?_) | intro _ _ _ _ _ _ _ _ | refine We ?_ | refine Wx ?_ | refine Wt ?_ | refine Wm ?_ | refine W2m ?_ ?_ | refine Wl ?_
    | fail)
  refine WPJ.loopT m.clips.length [56, 57, 58, 59, 60, 63, 64, 65, 66, 67, 7, 68, 69, 70, 71, 72, 73, 74, 75, 76, 77, 78, 79, 61, 62] (fun j (v : Value) => [(6, .int .i64 j)])
    (fun j v H3 g3 => g3 = g2 ∧ Ext H H3 ∧ H3[H.length]? = some (.row (hcells m s1 s2 s3) 1 true) ∧ H3[H.length + 2]? = some (.row [.int .i64 m.hour, .int .i64 m.grace, v1, v2, v] 1 true) ∧ H3[H.length + 1]? = some (.row [.int .i64 0, .int .i64 0, .slice none 0 0, .slice none 0 0, .slice none 0 0] 1 true) ∧ AppB encR 2 H3 (H.length + 3) a2 v1 m.clocks ∧ AppB encR 2 H3 a2 a3 v2 m.tickets ∧ AppG encC 3 H3 a3 v (m.clips.take j) ∧ a3 ≤ H3.length) 0 (.slice none 0 0) (Nat.zero_le _)
    (by intro p hp; simp at hp; rcases hp with rfl; rfl) ⟨rfl, extA, getA, getA, getA, hB1.keep (fun i o _ _ h => by first | exact h | exact get_old h), hB2.keep (fun i o _ _ h => by first | exact h | exact get_old h), by rw [List.take_zero]; exact AppG.nil, by first | omega | (simp; omega)⟩ ?_
  clear hl0 hB1 hB2 hb0 hb2' hb1' he
  rintro j v3 H3 g3 hj3 ⟨rfl, he, hb0, hb2', hb1', hB1, hB2, hA, hlen3⟩ hl0
  simp only [updT, maskT, List.set_cons_zero, List.set_cons_succ]
  rcases Nat.lt_or_ge j m.clips.length with hlt | hge3
  · have hel : (m.clips.map encC)[(j : Int).toNat]? = some (encC m.clips[j]) := by simp [hlt]
    have htk := List.take_succ_eq_append_getElem hlt
    have htl : (m.clips.take j).length ≤ 1000000 := by simp; omega
    generalize m.clips[j] = r at *
    repeat' (first
      | (refine is_ucall ?_; first
        | refine st_callP (h := to_spec _ _ _ r) (k := ?_)
        | fail)
      | (refine is_umcall ?_; first
        | refine mj_callP (h := to_spec _ _ _ r) (k := ?_)
        | fail)
      | refine W1 ?_ | refine Wc ?_ | refine W2c ?_ ?_ | refine Wg ?_ | refine W2 ?_ ?_ | exact Wdead | refine Wlive (fun hb => ?_) | intro _ _ _ _ _ _ _ _ | refine We ?_ | refine Wx ?_ | refine Wt ?_ | refine Wm ?_ | refine W2m ?_ ?_ | refine Wl ?_
      | fail)
    refine st_appG (a := r) ((hA.app _)) rfl encC_len rfl rfl getA (by simp) rfl rfl (by simp; omega) htl (by decide) ?_
    intro v4 H4 hA4 hE hK hL
    obtain ⟨i4, k4, rfl⟩ := hA4.slice
    have e0 := hK (H.length) _ (by omega) (get_old hb0)
    have e1 := hK (H.length + 1) _ (by omega) (get_old hb1')
    have e2 := hK (H.length + 2) _ (by omega) (get_old hb2')
    simp only [List.length_append, List.length_cons, List.length_nil] at hL
    refine OpsJ.normA ?_
    repeat' (first
      | (refine is_ucall ?_; first
        | refine st_callP (h := to_spec _ _ _ r) (k := ?_)
        | fail)
      | (refine is_umcall ?_; first
        | refine mj_callP (h := to_spec _ _ _ r) (k := ?_)
        | fail)
      | refine W1 ?_ | refine Wc ?_ | refine W2c ?_ ?_ | refine Wg ?_ | refine W2 ?_ ?_ | exact Wdead | refine Wlive (fun hb => ?_) | intro _ _ _ _ _ _ _ _ | refine We ?_ | refine Wx ?_ | refine Wt ?_ | refine Wm ?_ | refine W2m ?_ ?_ | refine Wl ?_
      | fail)
    exact ⟨_, hlt, (by repeat' (first | exact Weak.nil | refine Weak.wild ?_ | refine Weak.same ?_ | refine Weak.intEq (by first | omega | (simp; done) | (push_cast; omega)) ?_)), rfl, Ext.set (hE H extA (by omega)) (by omega) _, getA, getA, getA, hB1.keep (fun i o h1 h2 h => get_setne (by omega) (hK i o (by omega) (get_old h))), hB2.keep (fun i o h1 h2 h => get_setne (by omega) (hK i o h2 (get_old h))), by rw [htk]; refine hA4.set ?_; omega, by rw [List.length_set]; omega⟩
  obtain rfl : j = m.clips.length := by omega
  rw [List.take_length] at hA
  have hB3 := hA.bnd
  have hcv3 := hA.cell
  have hok3 : [Value.int .i64 m.hour, Value.int .i64 m.grace, v1, v2, v3].all cellOk = true := by simp only [List.all_cons, List.all_nil, hcv1, hcv2, hcv3]; rfl
  repeat' (first
    | (refine is_ucall ?_; first
      | refine st_callP (h := to_spec _ _ _ r) (k := ?_)
      | fail)
    | (refine is_umcall ?_; first
      | refine mj_callP (h := to_spec _ _ _ r) (k := ?_)
      | fail)
    | refine W1 ?_ | refine Wc ?_ | refine W2c ?_ ?_ | refine Wg ?_ | refine W2 ?_ ?_ | exact Wdead | refine Wlive (fun hb => ?_) | intro _ _ _ _ _ _ _ _ | refine We ?_ | refine Wx ?_ | refine Wt ?_ | refine Wm ?_ | refine W2m ?_ ?_ | refine Wl ?_
    | fail)
  refine tidy3 (hB1.keep fun i o h1 h2 h => get_setne (by omega) h) (hB2.keep fun i o h1 h2 h => get_setne (by omega) h) (hB3.keep fun i o h1 h2 h => get_setne (by omega) h) ⟨by omega, by omega, by omega⟩ extA rfl rfl (fun _ => rfl) (fun _ => rfl) (fun _ => rfl) ⟨rfl, rfl, rfl⟩
end
end Go.Proofs.Ytehobnpoeodhkaa

namespace Go.Proofs.Ytehobnpoeodhkaa
open Go Go.Abs Go.Proofs
set_option maxHeartbeats 800000
attribute [local irreducible] CallJ OpsJ WPJ CallV MonoJ SpecJ

def twoM (grace : Int) (more : List ClipM) : HouseM := ⟨60, grace, [(0, 0), (-5, 5)], [(0, 1), (0, 2), (1, 0)], [⟨0, 0, 300⟩, ⟨0, 1, 366⟩, ⟨1, 0, 365⟩, ⟨1, 1, 488⟩] ++ more⟩
theorem houseL_eq (m : HouseM) (h1 : m.clocks ≠ []) (h2 : m.tickets ≠ []) (h3 : m.clips ≠ []) : houseL m = [.row (m.clocks.map encR).flatten 2 true, .row (m.tickets.map encR).flatten 2 true, .row (m.clips.map encC).flatten 3 true] := by
  have e1 : m.clocks.isEmpty = false := by cases h : m.clocks <;> simp_all
  have e2 : m.tickets.isEmpty = false := by cases h : m.tickets <;> simp_all
  have e3 : m.clips.isEmpty = false := by cases h : m.clips <;> simp_all
  simp [houseL, slH, e1, e2, e3]
theorem houseV_eq (n : Nat) (m : HouseM) (h1 : m.clocks ≠ []) (h2 : m.tickets ≠ []) (h3 : m.clips ≠ []) : houseV n m = hv m (.slice (some ⟨n, 0, none⟩) m.clocks.length m.clocks.length) (.slice (some ⟨n + 1, 0, none⟩) m.tickets.length m.tickets.length) (.slice (some ⟨n + 2, 0, none⟩) m.clips.length m.clips.length) := by
  have e1 : m.clocks.isEmpty = false := by cases h : m.clocks <;> simp_all
  have e2 : m.tickets.isEmpty = false := by cases h : m.tickets <;> simp_all
  have e3 : m.clips.isEmpty = false := by cases h : m.clips <;> simp_all
  simp [houseV, hS1, hS2, hS3, slV, slH, e1, e2, e3]
/-- the end of a call that makes a house whose lists lie in three rows -/
theorem tidyHouse {γ : Type} {H H1 : AHeap} {m : HouseM} {K : Value → AHeap → γ → Prop} {g : γ} {i1 i2 i3 : Nat} (he : Ext H H1) (hl : H.length ≤ i1 ∧ H.length ≤ i2 ∧ H.length ≤ i3) (hne : i1 ≠ i2 ∧ i1 ≠ i3 ∧ i2 ≠ i3)
    (h1 : H1[i1]? = some (.row (m.clocks.map encR).flatten 2 true)) (h2 : H1[i2]? = some (.row (m.tickets.map encR).flatten 2 true)) (h3 : H1[i3]? = some (.row (m.clips.map encC).flatten 3 true)) (n1 : m.clocks ≠ []) (n2 : m.tickets ≠ []) (n3 : m.clips ≠ [])
    (hk : K (houseV H.length m) (H ++ houseL m) g) : Tidy H K (.agg ⟨[.int .i64 m.hour, .int .i64 m.grace, .slice (some ⟨i1, 0, none⟩) m.clocks.length m.clocks.length, .slice (some ⟨i2, 0, none⟩) m.tickets.length m.tickets.length, .slice (some ⟨i3, 0, none⟩) m.clips.length m.clips.length]⟩) H1 g := by
  obtain ⟨L, rfl⟩ := he
  refine ⟨[i1, i2, i3], H, L, _, houseL m, rfl, rfl, fun _ _ h => .inl h, ?_, ?_, ?_, (houseL_flat m).ok, ?_, hk⟩
  · simp; omega
  · intro k hk; simp at hk; rcases hk with rfl | rfl | rfl <;> omega
  · rw [houseL_eq m n1 n2 n3]; simp [h1, h2, h3]
  · rw [houseV_eq _ _ n1 n2 n3]
    refine .aggs rfl fun j q1 q2 => ?_
    match j, q1 with
    | 0, _ => exact .flat rfl
    | 1, _ => exact .flat rfl
    | 2, _ => exact .slice (j := 0) rfl
    | 3, _ => exact .slice (j := 1) rfl
    | 4, _ => exact .slice (j := 2) rfl

section
variable {γ : Type} (E : Env γ) (g : γ) (H : AHeap)
theorem twoO_spec (grace : Int) : CallJ Try.prog E 57 [.int .i64 grace, .slice none 0 0] (fun v H' g' => v = houseV H.length (twoM grace []) ∧ H' = H ++ houseL (twoM grace []) ∧ g' = g) H g := by
  refine CallJ.tidy ?_
  refine CallJ.enter Try.func57 rfl (by simp only [Try.ntmps57, List.length_cons, List.length_nil, Nat.zero_add, Nat.reduceAdd, Nat.reduceSub, List.replicate_succ, List.replicate_zero, List.cons_append, List.nil_append]; rfl) ?_
  repeat' (first
    | (refine is_ucall ?_; first
      | refine st_callP (h := between_spec _ _ _ _ _) (k := ?_)
      | fail)
    | (refine is_umcall ?_; first
      | refine mj_callP (h := between_spec _ _ _ _ _) (k := ?_)
      | fail)
    | refine W1 ?_ | refine Wc ?_ | refine W2c ?_ ?_ | refine Wg ?_ | refine W2 ?_ ?_ | exact Wdead | refine Wlive (fun hb => ?_) | intro _ _ _ _ _ _ _ _ | refine We ?_ | refine Wx ?_ | refine Wt ?_ | refine Wm ?_ | refine W2m ?_ ?_ | refine Wl ?_
    | fail)
  refine st_appendZero rfl rfl ?_
  refine OpsJ.normA ?_
  repeat' (first
    | (refine is_ucall ?_; first
      | refine st_callP (h := between_spec _ _ _ _ _) (k := ?_)
      | fail)
    | (refine is_umcall ?_; first
      | refine mj_callP (h := between_spec _ _ _ _ _) (k := ?_)
      | fail)
    | refine W1 ?_ | refine Wc ?_ | refine W2c ?_ ?_ | refine Wg ?_ | refine W2 ?_ ?_ | exact Wdead | refine Wlive (fun hb => ?_) | intro _ _ _ _ _ _ _ _ | refine We ?_ | refine Wx ?_ | refine Wt ?_ | refine Wm ?_ | refine W2m ?_ ?_ | refine Wl ?_
    | fail)
  exact tidyHouse (m := twoM grace []) extA ⟨by omega, by omega, by omega⟩ ⟨by omega, by omega, by omega⟩ getA getA getA (by simp [twoM]) (by simp [twoM]) (by simp [twoM]) ⟨rfl, rfl, rfl⟩
theorem two_spec (grace : Int) : CallJ Try.prog E 57 [.int .i64 grace, .slice none 0 0] (fun v H' g' => v = houseV H.length (twoM grace []) ∧ H' = H ++ (houseL (twoM grace [])).map frz ∧ g' = g) H g :=
  CallJ.freezeN (twoO_spec E g H grace) (by rintro v H' g' ⟨rfl, rfl, rfl⟩; exact ⟨_, rfl, houseL_flat _, rfl, rfl, rfl⟩)
theorem two1O_spec (grace : Int) (sv : Value) (c : ClipM) (hr : RdS H sv 3 [encC c]) : CallJ Try.prog E 57 [.int .i64 grace, sv] (fun v H' g' => v = houseV H.length (twoM grace [c]) ∧ H' = H ++ houseL (twoM grace [c]) ∧ g' = g) H g := by
  obtain ⟨_, ⟨i, o, cap, row, es, own, rfl, hi, hfit, hc⟩ | ⟨h, _⟩⟩ := hr
  · refine CallJ.tidy ?_
    refine CallJ.enter Try.func57 rfl (by simp only [Try.ntmps57, List.length_cons, List.length_nil, Nat.zero_add, Nat.reduceAdd, Nat.reduceSub, List.replicate_succ, List.replicate_zero, List.cons_append, List.nil_append]; rfl) ?_
    repeat' (first
      | (refine is_ucall ?_; first
        | refine st_callP (h := between_spec _ _ _ _ _) (k := ?_)
        | fail)
      | (refine is_umcall ?_; first
        | refine mj_callP (h := between_spec _ _ _ _ _) (k := ?_)
        | fail)
      | refine W1 ?_ | refine Wc ?_ | refine W2c ?_ ?_ | refine Wg ?_ | refine W2 ?_ ?_ | exact Wdead | refine Wlive (fun hb => ?_) | intro _ _ _ _ _ _ _ _ | refine We ?_ | refine Wx ?_ | refine Wt ?_ | refine Wm ?_ | refine W2m ?_ ?_ | refine Wl ?_
      | fail)
    refine st_appendOwn (by rfl) rfl rfl getA (by decide) (get_old hi) hfit hc (by simp [cellOk]) ⟨by decide, by decide⟩ ?_
    refine OpsJ.normA ?_
    repeat' (first
      | (refine is_ucall ?_; first
        | refine st_callP (h := between_spec _ _ _ _ _) (k := ?_)
        | fail)
      | (refine is_umcall ?_; first
        | refine mj_callP (h := between_spec _ _ _ _ _) (k := ?_)
        | fail)
      | refine W1 ?_ | refine Wc ?_ | refine W2c ?_ ?_ | refine Wg ?_ | refine W2 ?_ ?_ | exact Wdead | refine Wlive (fun hb => ?_) | intro _ _ _ _ _ _ _ _ | refine We ?_ | refine Wx ?_ | refine Wt ?_ | refine Wm ?_ | refine W2m ?_ ?_ | refine Wl ?_
      | fail)
    exact tidyHouse (m := twoM grace [c]) extA ⟨by omega, by omega, by first | omega | (simp; omega) | simp⟩ ⟨by omega, by omega, by omega⟩ getA getA getA (by simp [twoM]) (by simp [twoM]) (by simp [twoM]) ⟨rfl, rfl, rfl⟩
  · simp at h
theorem two1_spec (grace : Int) (sv : Value) (c : ClipM) (hr : RdS H sv 3 [encC c]) : CallJ Try.prog E 57 [.int .i64 grace, sv] (fun v H' g' => v = houseV H.length (twoM grace [c]) ∧ H' = H ++ (houseL (twoM grace [c])).map frz ∧ g' = g) H g :=
  CallJ.freezeN (two1O_spec E g H grace sv c hr) (by rintro v H' g' ⟨rfl, rfl, rfl⟩; exact ⟨_, rfl, houseL_flat _, rfl, rfl, rfl⟩)
def turnedM : HouseM := ⟨60, 5, [(0, 0), (-5, 5)], [(0, 1), (0, 2), (1, 0)], [⟨0, 0, 300⟩, ⟨1, 0, 365⟩, ⟨0, 1, 366⟩, ⟨1, 1, 488⟩]⟩
theorem turnedO_spec : CallJ Try.prog E 58 [] (fun v H' g' => v = houseV H.length turnedM ∧ H' = H ++ houseL turnedM ∧ g' = g) H g := by
  refine CallJ.tidy ?_
  refine CallJ.enter Try.func58 rfl (by simp only [Try.ntmps58, List.length_nil, Nat.reduceSub, List.replicate_succ, List.replicate_zero, List.nil_append]; rfl) ?_
  repeat' (first
    | (refine is_ucall ?_; first
      | refine st_callP (h := between_spec _ _ _ _ _) (k := ?_)
      | fail)
    | (refine is_umcall ?_; first
      | refine mj_callP (h := between_spec _ _ _ _ _) (k := ?_)
      | fail)
    | refine W1 ?_ | refine Wc ?_ | refine W2c ?_ ?_ | refine Wg ?_ | refine W2 ?_ ?_ | exact Wdead | refine Wlive (fun hb => ?_) | intro _ _ _ _ _ _ _ _ | refine We ?_ | refine Wx ?_ | refine Wt ?_ | refine Wm ?_ | refine W2m ?_ ?_ | refine Wl ?_
    | fail)
  refine st_call rfl (twoO_spec E g _ 5) ?_
  rintro _ _ g ⟨rfl, rfl, rfl⟩
  rw [houseV_eq _ (twoM 5 []) (by simp [twoM]) (by simp [twoM]) (by simp [twoM]), houseL_eq (twoM 5 []) (by simp [twoM]) (by simp [twoM]) (by simp [twoM])]
  simp only [twoM, hv, encR, encC, Nat.add_assoc, List.append_nil, List.map_cons, List.map_nil, List.flatten_cons, List.flatten_nil, List.length_cons, List.length_nil, List.cons_append, List.nil_append, List.length_append, Nat.zero_add, Nat.reduceAdd]
  refine OpsJ.normA ?_
  repeat' (first
    | (refine is_ucall ?_; first
      | refine st_callP (h := between_spec _ _ _ _ _) (k := ?_)
      | fail)
    | (refine is_umcall ?_; first
      | refine mj_callP (h := between_spec _ _ _ _ _) (k := ?_)
      | fail)
    | refine W1 ?_ | refine Wc ?_ | refine W2c ?_ ?_ | refine Wg ?_ | refine W2 ?_ ?_ | exact Wdead | refine Wlive (fun hb => ?_) | intro _ _ _ _ _ _ _ _ | refine We ?_ | refine Wx ?_ | refine Wt ?_ | refine Wm ?_ | refine W2m ?_ ?_ | refine Wl ?_
    | fail)
  refine WPJ.drawS 14 13 (H.length + 3) (.row [.int .i64 0, .int .i64 0, .int .i64 300, .int .i64 0, .int .i64 1, .int .i64 366, .int .i64 1, .int .i64 0, .int .i64 365, .int .i64 1, .int .i64 1, .int .i64 488] 3 true) (.row [.int .i64 0, .int .i64 0, .int .i64 300, .int .i64 1, .int .i64 0, .int .i64 365, .int .i64 1, .int .i64 0, .int .i64 365, .int .i64 1, .int .i64 1, .int .i64 488] 3 true) mixed (by kernel_rfl) (by kernel_rfl) (by kernel_rfl) (by decide) (by decide) rfl (by first | rfl | (simp [flatRow, flat1]; done) | assumption) (by first | exact .inl rfl | exact .inr (by first | omega | (simp; omega))) ?_
  refine SpecJ.normA ?_
  refine SpecJ.seg 2 (by kernel_rfl) (by decide) ?_
  repeat' (first
    | (refine is_ucall ?_; first
      | refine st_callP (h := between_spec _ _ _ _ _) (k := ?_)
      | fail)
    | (refine is_umcall ?_; first
      | refine mj_callP (h := between_spec _ _ _ _ _) (k := ?_)
      | fail)
    | refine W1 ?_ | refine Wc ?_ | refine W2c ?_ ?_ | refine Wg ?_ | refine W2 ?_ ?_ | exact Wdead | refine Wlive (fun hb => ?_) | intro _ _ _ _ _ _ _ _ | refine We ?_ | refine Wx ?_ | refine Wt ?_ | refine Wm ?_ | refine W2m ?_ ?_ | refine Wl ?_
    | fail)
  refine sj_fieldAddr rfl rfl ?_
  refine SpecJ.normA ?_
  refine sj_load1 rfl rfl rfl getA (by omega) rfl ?_
  refine SpecJ.normA ?_
  refine SpecJ.seg 9 (by kernel_rfl) (by decide) ?_
  repeat' (first
    | (refine is_ucall ?_; first
      | refine st_callP (h := between_spec _ _ _ _ _) (k := ?_)
      | fail)
    | (refine is_umcall ?_; first
      | refine mj_callP (h := between_spec _ _ _ _ _) (k := ?_)
      | fail)
    | refine W1 ?_ | refine Wc ?_ | refine W2c ?_ ?_ | refine Wg ?_ | refine W2 ?_ ?_ | exact Wdead | refine Wlive (fun hb => ?_) | intro _ _ _ _ _ _ _ _ | refine We ?_ | refine Wx ?_ | refine Wt ?_ | refine Wm ?_ | refine W2m ?_ ?_ | refine Wl ?_
    | fail)
  refine SpecJ.spec (n := 0) undef [] getA rfl rfl ?_ ?_
  · simp only [List.append_nil]
    exact runs_store TyC.ty rfl rfl rfl rfl rfl getA (by decide) rfl
  refine SpecJ.normA ?_
  refine SpecJ.done ?_
  repeat' (first
    | (refine is_ucall ?_; first
      | refine st_callP (h := between_spec _ _ _ _ _) (k := ?_)
      | fail)
    | (refine is_umcall ?_; first
      | refine mj_callP (h := between_spec _ _ _ _ _) (k := ?_)
      | fail)
    | refine W1 ?_ | refine Wc ?_ | refine W2c ?_ ?_ | refine Wg ?_ | refine W2 ?_ ?_ | exact Wdead | refine Wlive (fun hb => ?_) | intro _ _ _ _ _ _ _ _ | refine We ?_ | refine Wx ?_ | refine Wt ?_ | refine Wm ?_ | refine W2m ?_ ?_ | refine Wl ?_
    | fail)
  exact tidyHouse (m := turnedM) extA ⟨by omega, by omega, by omega⟩ ⟨by omega, by omega, by omega⟩ getA getA getA (by simp [turnedM]) (by simp [turnedM]) (by simp [turnedM]) ⟨rfl, rfl, rfl⟩
theorem turned_spec : CallJ Try.prog E 58 [] (fun v H' g' => v = houseV H.length turnedM ∧ H' = H ++ (houseL turnedM).map frz ∧ g' = g) H g :=
  CallJ.freezeN (turnedO_spec E g H) (by rintro v H' g' ⟨rfl, rfl, rfl⟩; exact ⟨_, rfl, houseL_flat _, rfl, rfl, rfl⟩)
end
end Go.Proofs.Ytehobnpoeodhkaa

namespace Go.Proofs.Ytehobnpoeodhkaa
open Go Go.Abs Go.Proofs
set_option maxHeartbeats 800000
attribute [local irreducible] CallJ OpsJ WPJ CallV MonoJ SpecJ

theorem aw1 : playE (twoM 5 []) [0, 3] = 0 ∧ playS (twoM 5 []) [0, 3] = [300, 363, 365, 485] := ⟨by kernel_rfl, by kernel_rfl⟩
theorem aw2 : checkT (twoM 5 []) = 0 ∧ clocksS (twoM 5 []) = [(0, 0), (1, 5)] := ⟨by kernel_rfl, by kernel_rfl⟩
theorem aw3 : checkT (twoM 3 []) = 0 ∧ hrsS (twoM 3 []) = [(1, 2), (2, 2), (0, 0)] := ⟨by kernel_rfl, by kernel_rfl⟩
theorem aw4 : checkT (twoM 0 []) = 0 ∧ longS (twoM 0 []) = [1, 3, 2] := ⟨by kernel_rfl, by kernel_rfl⟩
theorem aw5 : clashE turnedM 0 1 = 0 ∧ verdictS (truthsL turnedM) (clashQ turnedM 0 1) = 3 := ⟨by kernel_rfl, by kernel_rfl⟩
theorem aw6 : verdictS (truthsL (twoM 3 [])) (fun es => paidS (wm (twoM 3 []) es) (twoM 3 []).tickets.length) = 3 := by kernel_rfl
theorem aw7 : freeE (twoM 5 []) 0 = 0 ∧ loS (truthsL (twoM 5 [])) (freeQ (twoM 5 []) 0) = 483 ∧ hiS (truthsL (twoM 5 [])) (freeQ (twoM 5 []) 0) = 487 := ⟨by kernel_rfl, by kernel_rfl, by kernel_rfl⟩
theorem aw8 : lookE (twoM 5 []) = 0 ∧ lookV (twoM 5 []) = 1 ∧ indexS (leavesS (twoM 5 [])) (lookV (twoM 5 [])) = 1 := ⟨by kernel_rfl, by kernel_rfl, by kernel_rfl⟩
theorem aw9 : firstE (twoM 5 [⟨2, 0, 360⟩]) = 0 ∧ firstV (twoM 5 [⟨2, 0, 360⟩]) = 4 := ⟨by kernel_rfl, by kernel_rfl⟩
theorem aw10 : checkS (twoM 5 [⟨2, 0, 360⟩]) = 0 ∧ leaveS (twoM 5 [⟨2, 0, 360⟩]) = [4] := ⟨by kernel_rfl, by kernel_rfl⟩

section
variable {γ : Type} (E : Env γ) (g : γ) (H : AHeap)
theorem house_w {H : AHeap} {m : HouseM} (h1 : m.clocks.length ≤ 1000000) (h2 : m.tickets.length ≤ 1000000) (h3 : m.clips.length ≤ 1000000) : ∃ s1 s2 s3, houseV H.length m = hv m s1 s2 s3 ∧ HouseIs (H ++ (houseL m).map frz) m s1 s2 s3 ∧ Ext H (H ++ (houseL m).map frz) :=
  ⟨_, _, _, rfl, house_made H m h1 h2 h3, ⟨_, rfl⟩⟩
theorem two_w (grace : Int) : CallJ Try.prog E 57 [.int .i64 grace, .slice none 0 0] (fun v H' g' => (∃ s1 s2 s3, v = hv (twoM grace []) s1 s2 s3 ∧ HouseIs H' (twoM grace []) s1 s2 s3 ∧ Ext H H') ∧ g' = g) H g :=
  (two_spec E g H grace).mono (by rintro v H' g' ⟨rfl, rfl, rfl⟩; exact ⟨house_w (by simp [twoM]) (by simp [twoM]) (by simp [twoM]), rfl⟩)
theorem two1_w (grace : Int) (sv : Value) (c : ClipM) (hr : RdS H sv 3 [encC c]) : CallJ Try.prog E 57 [.int .i64 grace, sv] (fun v H' g' => (∃ s1 s2 s3, v = hv (twoM grace [c]) s1 s2 s3 ∧ HouseIs H' (twoM grace [c]) s1 s2 s3 ∧ Ext H H') ∧ g' = g) H g :=
  (two1_spec E g H grace sv c hr).mono (by rintro v H' g' ⟨rfl, rfl, rfl⟩; exact ⟨house_w (by simp [twoM]) (by simp [twoM]) (by simp [twoM]), rfl⟩)
theorem turned_w : CallJ Try.prog E 58 [] (fun v H' g' => (∃ s1 s2 s3, v = hv turnedM s1 s2 s3 ∧ HouseIs H' turnedM s1 s2 s3 ∧ Ext H H') ∧ g' = g) H g :=
  (turned_spec E g H).mono (by rintro v H' g' ⟨rfl, rfl, rfl⟩; exact ⟨house_w (by simp [turnedM]) (by simp [turnedM]) (by simp [turnedM]), rfl⟩)
/-- an answer: a list in a row, and no error -/
def RowW (H : AHeap) (n w : Nat) (cells : List Value) (v : Value) (H' : AHeap) : Prop := ∃ i c own, v = .tuple #[.slice (some ⟨i, 0, none⟩) n c, .int .i64 0] ∧ H'[i]? = some (.row cells w own) ∧ Ext H H'
theorem Play_w (s1 s2 s3 lv : Value) (hm : HouseIs H (twoM 5 []) s1 s2 s3) (hr : RdS H lv 1 (encI [0, 3])) :
    CallJ Try.prog E 25 [hv (twoM 5 []) s1 s2 s3, lv] (fun v H' g' => RowW H 4 1 (encE [300, 363, 365, 485]) v H' ∧ g' = g) H g :=
  (Play_spec E g H (twoM 5 []) s1 s2 s3 lv [0, 3] hm hr (by simp)).mono (by
    rintro v H' g' ⟨h, rfl⟩
    rw [if_pos aw1.1, aw1.2] at h
    obtain ⟨rfl, rfl⟩ := h
    exact ⟨⟨_, _, _, rfl, List.getElem?_concat_length, ⟨_, rfl⟩⟩, rfl⟩)
theorem ranges_w {m : HouseM} {l : List (Int × Int)} {v : Value} {H' : AHeap} (hz : checkT m = 0) (h : RangesA H (checkT m) l v H') : RowW H l.length 2 (l.map encR).flatten v H' := by
  unfold RangesA at h
  rw [if_pos hz] at h
  obtain ⟨rfl, rfl⟩ := h
  exact ⟨_, _, _, rfl, List.getElem?_concat_length, ⟨_, rfl⟩⟩
theorem Clocks_w (s1 s2 s3 : Value) (hm : HouseIs H (twoM 5 []) s1 s2 s3) : CallJ Try.prog E 34 [hv (twoM 5 []) s1 s2 s3] (fun v H' g' => RowW H 2 2 [.int .i64 0, .int .i64 0, .int .i64 1, .int .i64 5] v H' ∧ g' = g) H g :=
  (Clocks_spec E g H _ s1 s2 s3 hm).mono (by rintro v H' g' ⟨h, rfl⟩; have := ranges_w H aw2.1 h; rw [aw2.2] at this; exact ⟨this, rfl⟩)
theorem Hours_w (s1 s2 s3 : Value) (hm : HouseIs H (twoM 3 []) s1 s2 s3) : CallJ Try.prog E 35 [hv (twoM 3 []) s1 s2 s3] (fun v H' g' => RowW H 3 2 [.int .i64 1, .int .i64 2, .int .i64 2, .int .i64 2, .int .i64 0, .int .i64 0] v H' ∧ g' = g) H g :=
  (Hours_spec E g H _ s1 s2 s3 hm).mono (by rintro v H' g' ⟨h, rfl⟩; have := ranges_w H aw3.1 h; rw [aw3.2] at this; exact ⟨this, rfl⟩)
theorem Long_w (s1 s2 s3 : Value) (hm : HouseIs H (twoM 0 []) s1 s2 s3) : CallJ Try.prog E 40 [hv (twoM 0 []) s1 s2 s3] (fun v H' g' => RowW H 3 1 (encE [1, 3, 2]) v H' ∧ g' = g) H g :=
  (Long_spec E g H _ s1 s2 s3 hm).mono (by
    rintro v H' g' ⟨h, rfl⟩
    unfold IntsA at h
    rw [if_pos aw4.1, aw4.2] at h
    obtain ⟨rfl, rfl⟩ := h
    exact ⟨⟨_, _, _, rfl, List.getElem?_concat_length, ⟨_, rfl⟩⟩, rfl⟩)
theorem Clash_w (s1 s2 s3 : Value) (hm : HouseIs H turnedM s1 s2 s3) : CallJ Try.prog E 44 [hv turnedM s1 s2 s3, .int .i64 0, .int .i64 1] (fun v H' g' => v = .tuple #[.int .i64 3, .int .i64 0] ∧ H' = H ∧ g' = g) H g :=
  (Clash_spec E g H _ s1 s2 s3 0 1 hm).mono (by rintro v H' g' ⟨rfl, rfl, rfl⟩; rw [if_pos aw5.1, aw5.2, aw5.1]; exact ⟨rfl, rfl, rfl⟩)
theorem Paid_w (s1 s2 s3 : Value) (hm : HouseIs H (twoM 3 []) s1 s2 s3) : CallJ Try.prog E 41 [hv (twoM 3 []) s1 s2 s3] (fun v H' g' => v = .tuple #[.int .i64 3, .int .i64 0] ∧ H' = H ∧ g' = g) H g :=
  (Paid_spec E g H _ s1 s2 s3 hm).mono (by rintro v H' g' ⟨rfl, rfl, rfl⟩; rw [if_pos aw3.1, aw6, aw3.1]; exact ⟨rfl, rfl, rfl⟩)
theorem Free_w (s1 s2 s3 : Value) (hm : HouseIs H (twoM 5 []) s1 s2 s3) : CallJ Try.prog E 47 [hv (twoM 5 []) s1 s2 s3, .int .i64 0] (fun v H' g' => v = .tuple #[.agg ⟨[.int .i64 483, .int .i64 487]⟩, .int .i64 0] ∧ H' = H ∧ g' = g) H g :=
  (Free_spec E g H _ s1 s2 s3 0 hm).mono (by rintro v H' g' ⟨rfl, rfl, rfl⟩; rw [if_pos aw7.1, aw7.2.1, aw7.2.2, aw7.1]; exact ⟨rfl, rfl, rfl⟩)
theorem Look_w (s1 s2 s3 : Value) (hm : HouseIs H (twoM 5 []) s1 s2 s3) : CallJ Try.prog E 50 [hv (twoM 5 []) s1 s2 s3] (fun v H' g' => v = .tuple #[.int .i64 1, .int .i64 1, .int .i64 0] ∧ H' = H ∧ g' = g) H g :=
  (Look_spec E g H _ s1 s2 s3 hm).mono (by rintro v H' g' ⟨rfl, rfl, rfl⟩; rw [if_pos aw8.1, aw8.2.2, aw8.2.1]; exact ⟨rfl, rfl, rfl⟩)
theorem First_w (s1 s2 s3 : Value) (hm : HouseIs H (twoM 5 [⟨2, 0, 360⟩]) s1 s2 s3) : CallJ Try.prog E 52 [hv (twoM 5 [⟨2, 0, 360⟩]) s1 s2 s3] (fun v H' g' => v = .tuple #[.int .i64 4, .int .i64 0] ∧ H' = H ∧ g' = g) H g :=
  (First_spec E g H _ s1 s2 s3 hm).mono (by rintro v H' g' ⟨rfl, rfl, rfl⟩; rw [aw9.1, aw9.2]; exact ⟨rfl, rfl, rfl⟩)
theorem Leave_w (s1 s2 s3 : Value) (hm : HouseIs H (twoM 5 [⟨2, 0, 360⟩]) s1 s2 s3) : CallJ Try.prog E 53 [hv (twoM 5 [⟨2, 0, 360⟩]) s1 s2 s3] (fun v H' g' => (∃ i c cs own, v = .tuple #[.slice (some ⟨i, 0, none⟩) 1 c, .int .i64 0] ∧ H'[i]? = some (.row cs 1 own) ∧ cs.take 1 = encE [4] ∧ Ext H H') ∧ g' = g) H g :=
  (Leave_spec E g H _ s1 s2 s3 hm).mono (by
    rintro v H' g' ⟨h, rfl⟩
    unfold LeaveA at h
    rw [if_pos aw10.1, aw10.2] at h
    rcases h with ⟨h, _⟩ | ⟨cs, cap, rfl, rfl, h, _⟩
    · simp at h
    · exact ⟨⟨_, _, _, _, rfl, List.getElem?_concat_length, h, ⟨_, rfl⟩⟩, rfl⟩)
end
end Go.Proofs.Ytehobnpoeodhkaa

namespace Go.Abs
open Go Go.Deep Go.RowKit Go.ChangeShapes

section
variable {H : Type} {enc : TypeId × Value → H} {P : Program}

theorem trodAll_stays (hl : laidOutB P = true) {W W' : World} {sp' : Nat → Bool} : ∀ {ts : List TypeId} {vs : List Value} {ds : List (DataW H)} {ps : List MemPlace}, (∀ t ∈ ts, P.readableRec t = true ∧ t < P.types.size) →
    DataW.TrodAll enc P W 0 (fun _ => true) true ts vs ds ps → (∀ p ∈ ps, W.sameAt W' p) → (∀ p ∈ ps, sp' p.block = true) → DataW.TrodAll enc P W' 0 sp' true ts vs ds ps
  | [], [], [], ps, _, h, _, _ => h
  | t :: ts, v :: vs, d :: ds, ps, hr, h, h1, h2 => by
    obtain ⟨p, q, h3, h4, rfl⟩ := h
    exact ⟨p, q, WideElems.Trod_stays hl (hr t (by simp)).1 (hr t (by simp)).2 h3 (fun x hx => h1 x (by simp [hx])) (fun x hx => h2 x (by simp [hx])),
      trodAll_stays hl (fun t ht => hr t (by simp [ht])) h4 (fun x hx => h1 x (by simp [hx])) (fun x hx => h2 x (by simp [hx])), rfl⟩
  | [], [], _ :: _, _, _, h, _, _ => h.elim
  | [], _ :: _, _, _, _, h, _, _ => by cases h
  | _ :: _, [], _, _, _, h, _, _ => by cases h
  | _ :: _, _ :: _, [], _, _, h, _, _ => by cases h

/-- the end of a law: nothing that was there has turned -/
theorem law_post {fn : Func} {s : ChangeSpec} {apart fresh handsOn again : Bool} {W W' : World} {args : Array Value} {ds : List (DataW H)} {before : List MemPlace} {t : TypeId} (hl : laidOutB P = true) (hrd : ∀ t ∈ fn.params.toList, P.readableRec t = true ∧ t < P.types.size)
    (hW : DataW.Whole enc P fn.params.toList s.vars apart W args.toList ds [] before) (hv : s.vars = []) (hfn : s.fn H (ds ++ []) = { results := [.lit (.bool true)], args := ds }) (hres : fn.resultTypes = #[t]) (ht : P.underlying t = some .bool) (hB : Below W.heap.size W W') :
    s.post enc P fn apart fresh handsOn again W args (.bool true) W' := by
  have hlt : ∀ p ∈ before, p.block < W.heap.size := fun p hp => by simpa using hW.lt p hp
  have hsame : ∀ p ∈ before, W.sameAt W' p := fun p hp => hB.same (hlt p hp)
  have hrl : ((Value.bool true).resultList fn.resultTypes.size) = [.bool true] := by rw [hres]; rfl
  have hR : ∀ (b : Nat) (sp : Nat → Bool) (hd : Bool), DataW.TrodAll enc P W' b sp hd fn.resultTypes.toList ((Value.bool true).resultList fn.resultTypes.size) (s.fn H (ds ++ [])).results [] := fun b sp hd => by
    rw [hrl, hres, hfn]
    exact trodAll_mk1 (shut_bool ht true)
  have hA : ∀ sp : Nat → Bool, (∀ p ∈ before, sp p.block = true) → DataW.TrodAll enc P W' 0 sp true fn.params.toList args.toList (s.fn H (ds ++ [])).args before := fun sp hsp => by
    rw [hfn]
    obtain ⟨p, q, h1, h2, rfl, _⟩ := hW
    rw [hv] at h2
    obtain ⟨_, rfl⟩ := trodVars_none h2
    rw [List.append_nil] at hsame hsp ⊢
    exact trodAll_stays hl hrd h1 hsame hsp
  have hV : ∀ sp : Nat → Bool, DataW.TrodVars enc P W' sp s.vars (s.fn H (ds ++ [])).vars [] := fun sp => by rw [hv, hfn]; rfl
  have hk : W.keptBut W' (· ∈ before) := hB.frame _
  refine ⟨ds, [], before, [], before, [], hW, hR _ _ _, hA _ (fun p hp => by simpa using hlt p hp), hV _, World.keptBut_mono (fun p hp => ⟨hp, ?_⟩) hk, fun _ => ?_⟩
  · simpa using hp
  · obtain ⟨_, _, _, _, _, hz, hn⟩ := hW
    refine ⟨?_, _, _, ([] ++ before) ++ [], ⟨[] ++ before, [], trodAll_append (hA _ (fun _ _ => rfl)) (hR _ _ _), hV _, rfl, ?_, ?_⟩, ?_⟩
    · intro j t' r h1 h2
      rw [hrl] at h2
      rw [hres] at h1
      match j, h1, h2 with
      | 0, h1, h2 =>
        simp at h1 h2
        subst h1; subst h2
        exact okWide_bool_mk ht true
    · intro b off hp
      have hp' : MemPlace.cell b off ∈ before := by simpa using hp
      rw [hB.frozen (p := ⟨b, off, none⟩) (hlt _ hp')]
      exact hz b off hp'
    · intro ha
      simpa using hn ha
    · intro p hp _
      simpa using hp
end
end Go.Abs
