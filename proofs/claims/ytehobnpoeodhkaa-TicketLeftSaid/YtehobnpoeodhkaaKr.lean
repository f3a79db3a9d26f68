import Derived.Test.YtehobnpoeodhkaaKq
import Derived.Test.YtehobnpoeodhkaaKp
namespace Go.Abs
open Go
section
variable {γ : Type} {P : Program} {E : Env γ} {T : List Value} {H : AHeap} {g : γ} {R : List Value → AHeap → γ → Prop} {ops : Array Oper} {dst : Option Tmp} {ty : TypeId} {ps : String} {af : Array Edge} {rest : List Oper}
/-- an append that leaves every other row as it was -/
theorem st_appK {α : Type} {enc : α → List Value} {w n : Nat} {v : Value} {l : List α} {s x : Operand} {t e : TypeId} {nn : Nat} {z : Value} {b : Nat} {d' : TypeDesc} {z' : Value} {b' : Nat} {i o cap : Nat} {cells : List Value} {es : Nat} {own : Bool} {a : α}
    [ht : TyC P t (.slice e) nn z b] [he : TyC P e d' w z' b'] (hA : AppG enc w H n v l) (hz' : (cellsL z').length = w) (hw : ∀ a, (enc a).length = w) (hs : evalT T s = v) (hx : evalT T x = .slice (some ⟨i, o, none⟩) 1 cap) (hi : H[i]? = some (.row cells es own))
    (hfit : o + w ≤ cells.length) (hc : (cells.drop o).take w = enc a) (hok : (enc a).all cellOk = true) (hnH : n ≤ H.length) (hn : l.length ≤ 1000000) (hb : b' ≤ 1000)
    (k : ∀ H2, AppG enc w H2 n (.slice (some ⟨H.length, 0, none⟩) (l.length + 1) (l.length + 1)) (l ++ [a]) → (∀ H0, Ext H0 H → H0.length ≤ n → Ext H0 H2) → (∀ j o, (∀ a b, v ≠ .slice (some ⟨j, 0, none⟩) a b) → H[j]? = some o → H2[j]? = some o) → H.length < H2.length →
      OpsJ P E ops R rest (putT T dst (.slice (some ⟨H.length, 0, none⟩) (l.length + 1) (l.length + 1))) H2 g) :
    OpsJ P E ops R (⟨dst, .call { callee := .builtin .append, args := #[s, x], argTypes := #[t, t] }, ty, ps, af, none⟩ :: rest) T H g := by
  have hm : maxLen = 9223372036854775807 := by decide
  have hlb : (l.length + 1) * b' ≤ 140737488355328 := by
    have := Nat.mul_le_mul (show l.length + 1 ≤ 1000001 by omega) hb
    omega
  rcases hA with ⟨rfl, rfl⟩ | ⟨j, rfl, hj, hnj, hne⟩
  · refine st_appendNil hz' hs hx hi (news := enc a) (by omega) (by rw [Nat.one_mul]; exact hc) ⟨by decide, by rw [hm]; decide, by simpa using hlb⟩ (k _ ?_ ?_ ?_ (by simp))
    · exact .inr ⟨H.length, by simp, by simp, hnH, by simp⟩
    · exact fun H0 h0 _ => Ext.app h0 _
    · exact fun j o _ h => get_old h
  · have hlen := flatten_lenG hw l
    refine st_appendOwn hz' hs hx hj (by omega) hi (by omega) (by rw [Nat.one_mul]; exact hc) hok ⟨by rw [hm]; omega, hlb⟩ (k _ ?_ ?_ ?_ (by simp))
    · refine .inr ⟨H.length, by simp, ?_, hnH, by simp⟩
      rw [List.take_of_length_le (by omega)]
      have : (H.set j AObj.dead).length = H.length := by simp
      rw [List.getElem?_append_right (by omega)]
      simp
    · exact fun H0 h0 hl0 => Ext.app (Ext.set h0 (by omega) _) _
    · exact fun j2 o hj2 h => get_old (get_setne (fun e => hj2 _ _ (by rw [e])) h)
end
end Go.Abs
namespace Go.Proofs.Ytehobnpoeodhkaa
open Go Go.Abs Go.Proofs
set_option maxHeartbeats 1600000
attribute [local irreducible] CallJ OpsJ WPJ CallV MonoJ SpecJ

/-- lists of numbers, in a slice -/
def LL (H : AHeap) (v : Value) (ls : List (List Int)) : Prop := ∃ vs : List Value, RdS H v 1 (vs.map fun x => [x]) ∧ vs.length = ls.length ∧ ∀ (k : Nat) (x : Value) (l : List Int), vs[k]? = some x → ls[k]? = some l → RdS H x 1 (encI l)
theorem LL.ext {H H' : AHeap} {v : Value} {ls : List (List Int)} (h : LL H v ls) (he : Ext H H') : LL H' v ls := by
  obtain ⟨vs, h1, h2, h3⟩ := h
  exact ⟨vs, h1.ext he, h2, fun k x l a b => (h3 k x l a b).ext he⟩
/-- one of them, not the row at `v` -/
def Inn (H : AHeap) (v x : Value) (l : List Int) : Prop := (x = .slice none 0 0 ∧ l = []) ∨ ∃ i, x = .slice (some ⟨i, 0, none⟩) l.length l.length ∧ H[i]? = some (.row (encE l) 1 true) ∧ ∀ a b, v ≠ .slice (some ⟨i, 0, none⟩) a b
theorem Inn.keep {H H' : AHeap} {v v' x : Value} {l : List Int} (h : Inn H v x l) (hk : ∀ j o, (∀ a b, v ≠ .slice (some ⟨j, 0, none⟩) a b) → H[j]? = some o → H'[j]? = some o) (hv : ∀ j, j < H.length → ∀ a b, v' ≠ .slice (some ⟨j, 0, none⟩) a b) : Inn H' v' x l := by
  rcases h with h | ⟨i, h1, h2, h3⟩
  · exact .inl h
  · exact .inr ⟨i, h1, hk i _ h3 h2, hv i (List.getElem?_eq_some_iff.1 h2).1⟩
theorem Inn.ext {H H' : AHeap} {v x : Value} {l : List Int} (h : Inn H v x l) (he : Ext H H') : Inn H' v x l := by
  rcases h with h | ⟨i, h1, h2, h3⟩
  · exact .inl h
  · exact .inr ⟨i, h1, he.get h2, h3⟩
theorem Inn.rd {H : AHeap} {v x : Value} {l : List Int} (h : Inn H v x l) : RdS H x 1 (encI l) := by
  rcases h with ⟨rfl, rfl⟩ | ⟨i, rfl, h2, _⟩
  · exact ⟨by simp, .inr ⟨rfl, .inl rfl⟩⟩
  · refine ⟨fun y hy => by obtain ⟨a, _, rfl⟩ := List.mem_map.1 hy; rfl, .inl ⟨i, 0, l.length, _, 1, true, by simp, h2, by simp, ?_⟩⟩
    rw [List.drop_zero, ← enc1_flat, encI_eq]
    exact List.take_of_length_le (Nat.le_of_eq (by rw [flatten_lenG (enc := enc1) (fun _ => rfl)]; simp))
theorem Inn.cell {H : AHeap} {v x : Value} {l : List Int} (h : Inn H v x l) : cellOk x = true := by
  rcases h with ⟨rfl, _⟩ | ⟨i, rfl, _⟩ <;> rfl
theorem AppG_ne {α : Type} {enc : α → List Value} {w n : Nat} {H : AHeap} {v : Value} {l : List α} (h : AppG enc w H n v l) {j : Nat} (hj : j < n ∨ H.length ≤ j) (a b : Nat) : v ≠ .slice (some ⟨j, 0, none⟩) a b := by
  rcases h with ⟨rfl, _⟩ | ⟨i, rfl, hi, hn, _⟩
  · intro e; cases e
  · intro e
    cases e
    have := (List.getElem?_eq_some_iff.1 hi).1
    omega
abbrev encV (x : Value) : List Value := [x]

def nthR (m : HouseM) (n : Nat) : List Int := nthL m.clocks n
def refN (m : HouseM) (j : Nat) : List (List Int) := ((List.range j).map (nthR m)).filter (riseS m)
/-- the truths that the reference finds -/
def refL (m : HouseM) : List (List Int) := refN m (min 3000 (prodS m.clocks)).toNat
theorem refN_step (m : HouseM) (j : Nat) : refN m (j + 1) = if riseS m (nthR m j) then refN m j ++ [nthR m j] else refN m j := by
  unfold refN
  rw [List.range_succ, List.map_append, List.filter_append]
  simp only [List.map_cons, List.map_nil, List.filter_cons, List.filter_nil]
  split <;> simp
theorem refN_len (m : HouseM) (j : Nat) : (refN m j).length ≤ j := by
  unfold refN
  exact Nat.le_trans (List.length_filter_le _ _) (by simp)
theorem nth_in : ∀ (cs : List (Int × Int)) (n : Int), (∀ r ∈ cs, r.1 ≤ r.2) → 0 ≤ n → ((cs.zip (nthL cs n)).all fun x => inR x.1 x.2) = true
  | [], _, _, _ => rfl
  | r :: cs, n, h, h0 => by
    have hr := h r (by simp)
    have h1 : 0 ≤ n / (r.2 - r.1 + 1) := Int.ediv_nonneg h0 (by omega)
    have ih := nth_in cs (n / (r.2 - r.1 + 1)) (fun x hx => h x (by simp [hx])) h1
    have h2 : 0 ≤ n % (r.2 - r.1 + 1) := Int.emod_nonneg _ (by omega)
    have h3 : n % (r.2 - r.1 + 1) < r.2 - r.1 + 1 := Int.emod_lt_of_pos _ (by omega)
    simp only [nthL, List.zip_cons_cons, List.all_cons, ih, Bool.and_true]
    unfold inR
    rw [Bool.and_eq_true, decide_eq_true_eq, decide_eq_true_eq]
    exact ⟨show r.1 ≤ r.1 + n % (r.2 - r.1 + 1) by omega, show r.1 + n % (r.2 - r.1 + 1) ≤ r.2 by omega⟩
theorem nth_isE {m : HouseM} (hG : Good m) (n : Nat) : isE m (nthR m n) = true := by
  unfold isE nthR
  rw [nth_in m.clocks n (fun r hr => (hG.clock r hr).2.1) (by omega), nthL_len]
  simp
section
variable {γ : Type} (E : Env γ) (g : γ) (H : AHeap)
theorem Nth_w (m : HouseM) (s1 s2 s3 : Value) (n : Nat) (hn1 : n ≤ 1000000) (hm : HouseIs H m s1 s2 s3) (hcl : ∀ r ∈ m.clocks, isClockS r = true) : CallJ Try.prog E 117 [hv m s1 s2 s3, .int .i64 n] (fun v H' g' => (Inn H' (.slice none 0 0) v (nthR m n) ∧ (∀ i a b, i < H.length → v ≠ .slice (some ⟨i, 0, none⟩) a b) ∧ Ext H H') ∧ g' = g) H g :=
  (Nth_spec E g H m s1 s2 s3 n (by omega) (by omega) hm hcl).mono (by
    rintro v H' g' ⟨rfl, rfl, rfl⟩
    refine ⟨⟨?_, ?_, ⟨_, rfl⟩⟩, rfl⟩
    · unfold nthR
      cases h : nthL m.clocks n with
      | nil => exact .inl ⟨rfl, rfl⟩
      | cons a l =>
        refine .inr ⟨H.length, rfl, ?_, fun a b e => by cases e⟩
        unfold slH
        rw [enc1_flat]
        exact List.getElem?_concat_length
    · intro i a b hi e
      unfold slV at e
      split at e
      · cases e
      · cases e; omega)
theorem Truths_spec (m : HouseM) (s1 s2 s3 : Value) (hm : HouseIs H m s1 s2 s3) (hG : Good m) : CallJ Try.prog E 70 [hv m s1 s2 s3] (fun v H' g' => (LL H' v (refL m) ∧ Ext H H') ∧ g' = g) H g := by
  have hok := hm.cells
  have hnl := hG.n1
  have hb3 : m.clips.length ≤ 30 := by have := hG.n3; omega
  have hcl : ∀ r ∈ m.clocks, isClockS r = true := fun r hr => by have := hG.clock r hr; simp [isClockS]; omega
  have hp1 := (prodS_bd m.clocks hcl).1
  obtain ⟨N, hN⟩ : ∃ N : Nat, (N : Int) = min 3000 (prodS m.clocks) := ⟨(min 3000 (prodS m.clocks)).toNat, by omega⟩
  have hN2 : N ≤ 3000 := by omega
  have hNL : refL m = refN m N := by unfold refL; rw [← hN]; simp
  rw [hNL]
  unfold hv
  refine CallJ.enter Try.func70 rfl (by simp only [Try.ntmps70, List.length_cons, List.length_nil, Nat.zero_add, Nat.reduceSub, List.replicate_succ, List.replicate_zero, List.cons_append, List.nil_append]; rfl) ?_
  repeat' (first
    | (refine is_ucall ?_; first
      | refine st_callP (h := Full_spec _ _ _ m s1 s2 s3 (hm.ext extA) hb3) (k := ?_)
      | refine st_callP (h := Rising_spec _ _ _ m s1 s2 s3 x _ (hm.ext extA) (hrx.ext extA) hxn hb3 hbd.1 hbd.2) (k := ?_)
      | refine st_callP (h := Many_spec _ _ _ m s1 s2 s3 (hm.ext extA) hcl) (k := ?_)
      | fail)
    | (refine is_umcall ?_; first
      | refine mj_callP (h := Full_spec _ _ _ m s1 s2 s3 (hm.ext extA) hb3) (k := ?_)
      | refine mj_callP (h := Rising_spec _ _ _ m s1 s2 s3 x _ (hm.ext extA) (hrx.ext extA) hxn hb3 hbd.1 hbd.2) (k := ?_)
      | refine mj_callP (h := Many_spec _ _ _ m s1 s2 s3 (hm.ext extA) hcl) (k := ?_)
      | fail)
    | refine W1 ?_ | refine Wc ?_ | refine W2c ?_ ?_ | refine Wg ?_ | refine W2 ?_ ?_ | exact Wdead | refine Wlive (fun hb => ?_) | intro _ _ _ _ _ _ _ _ | refine We ?_ | refine Wx ?_ | refine Wt ?_ | refine Wm ?_ | refine W2m ?_ ?_ | refine Wl ?_
    | fail)
  refine WPJ.loopT N [5, 6, 7, 8, 9, 10, 11, 12, 13, 14, 15, 16, 17, 18, 19, 20, 21, 22, 23] (fun j (v : Value × List Value) => [(4, .int .i64 j), (3, v.1)])
    (fun j v H1 g1 => g1 = g ∧ Ext H H1 ∧ H1[H.length]? = some (.row (hcells m s1 s2 s3) 1 true) ∧ AppG encV 1 H1 (H.length + 1) v.1 v.2 ∧ v.2.length = (refN m j).length ∧ (∀ (k : Nat) (x : Value) (l : List Int), v.2[k]? = some x → (refN m j)[k]? = some l → Inn H1 v.1 x l) ∧ H.length + 1 ≤ H1.length) 0 (.slice none 0 0, []) (Nat.zero_le _)
    (by intro p hp; simp at hp; rcases hp with rfl | rfl <;> rfl) ⟨rfl, extA, getA, AppG.nil, rfl, fun k x l h => by simp at h, by simp⟩ ?_
  rintro j ⟨v, vs⟩ H1 g1 hj ⟨rfl, he, hb0, hA, hvl, hI, hlen⟩ hl0
  simp only at hA hvl hI
  simp only [updT, maskT, List.set_cons_zero, List.set_cons_succ]
  have hvn : vs.length ≤ 1000000 := by have := refN_len m j; omega
  repeat' (first
    | (refine is_ucall ?_; first
      | refine st_callP (h := Full_spec _ _ _ m s1 s2 s3 (hm.ext extA) hb3) (k := ?_)
      | refine st_callP (h := Rising_spec _ _ _ m s1 s2 s3 x _ (hm.ext extA) (hrx.ext extA) hxn hb3 hbd.1 hbd.2) (k := ?_)
      | refine st_callP (h := Many_spec _ _ _ m s1 s2 s3 (hm.ext extA) hcl) (k := ?_)
      | fail)
    | (refine is_umcall ?_; first
      | refine mj_callP (h := Full_spec _ _ _ m s1 s2 s3 (hm.ext extA) hb3) (k := ?_)
      | refine mj_callP (h := Rising_spec _ _ _ m s1 s2 s3 x _ (hm.ext extA) (hrx.ext extA) hxn hb3 hbd.1 hbd.2) (k := ?_)
      | refine mj_callP (h := Many_spec _ _ _ m s1 s2 s3 (hm.ext extA) hcl) (k := ?_)
      | fail)
    | refine W1 ?_ | refine Wc ?_ | refine W2c ?_ ?_ | refine Wg ?_ | refine W2 ?_ ?_ | exact Wdead | refine Wlive (fun hb => ?_) | intro _ _ _ _ _ _ _ _ | refine We ?_ | refine Wx ?_ | refine Wt ?_ | refine Wm ?_ | refine W2m ?_ ?_ | refine Wl ?_
    | fail)
  · have hlt : j < N := by omega
    refine st_call rfl (Nth_w E _ _ m s1 s2 s3 j (by omega) (hm.ext he) hcl) ?_
    rintro x H2 g2 ⟨⟨hx, hxl, e2⟩, rfl⟩
    have hb2 := e2.get hb0
    have he2 := he.trans e2
    have hl2 := e2.len
    have hrx := hx.rd
    have hxn : (nthR m j).length ≤ 1000000 := by unfold nthR; rw [nthL_len]; omega
    have hbd := isE_bd hG (nth_isE hG j)
    have hA2 : AppG encV 1 H2 (H.length + 1) v vs := hA.keep fun i o _ h => e2.get h
    have hstep := refN_step m j
    have hvx : Inn H2 v x (nthR m j) := by
      rcases hx with h | ⟨i, h1, h2, _⟩
      · exact .inl h
      · refine .inr ⟨i, h1, h2, AppG_ne hA (.inr ?_)⟩
        exact Nat.le_of_not_lt fun hi => hxl i _ _ hi h1
    have hck := hvx.cell
    refine OpsJ.normA ?_
    repeat' (first
      | (refine is_ucall ?_; first
        | refine st_callP (h := Full_spec _ _ _ m s1 s2 s3 (hm.ext extA) hb3) (k := ?_)
        | refine st_callP (h := Rising_spec _ _ _ m s1 s2 s3 x _ (hm.ext extA) (hrx.ext extA) hxn hb3 hbd.1 hbd.2) (k := ?_)
        | refine st_callP (h := Many_spec _ _ _ m s1 s2 s3 (hm.ext extA) hcl) (k := ?_)
        | fail)
      | (refine is_umcall ?_; first
        | refine mj_callP (h := Full_spec _ _ _ m s1 s2 s3 (hm.ext extA) hb3) (k := ?_)
        | refine mj_callP (h := Rising_spec _ _ _ m s1 s2 s3 x _ (hm.ext extA) (hrx.ext extA) hxn hb3 hbd.1 hbd.2) (k := ?_)
        | refine mj_callP (h := Many_spec _ _ _ m s1 s2 s3 (hm.ext extA) hcl) (k := ?_)
        | fail)
      | refine W1 ?_ | refine Wc ?_ | refine W2c ?_ ?_ | refine Wg ?_ | refine W2 ?_ ?_ | exact Wdead | refine Wlive (fun hb => ?_) | intro _ _ _ _ _ _ _ _ | refine We ?_ | refine Wx ?_ | refine Wt ?_ | refine Wm ?_ | refine W2m ?_ ?_ | refine Wl ?_
      | fail)
    refine WPJ.draw 5 mixed (by kernel_rfl) (by kernel_rfl) (by kernel_rfl) (by decide) ?_
    refine MonoJ.normA ?_
    repeat' (first
      | (refine is_ucall ?_; first
        | refine st_callP (h := Full_spec _ _ _ m s1 s2 s3 (hm.ext extA) hb3) (k := ?_)
        | refine st_callP (h := Rising_spec _ _ _ m s1 s2 s3 x _ (hm.ext extA) (hrx.ext extA) hxn hb3 hbd.1 hbd.2) (k := ?_)
        | refine st_callP (h := Many_spec _ _ _ m s1 s2 s3 (hm.ext extA) hcl) (k := ?_)
        | fail)
      | (refine is_umcall ?_; first
        | refine mj_callP (h := Full_spec _ _ _ m s1 s2 s3 (hm.ext extA) hb3) (k := ?_)
        | refine mj_callP (h := Rising_spec _ _ _ m s1 s2 s3 x _ (hm.ext extA) (hrx.ext extA) hxn hb3 hbd.1 hbd.2) (k := ?_)
        | refine mj_callP (h := Many_spec _ _ _ m s1 s2 s3 (hm.ext extA) hcl) (k := ?_)
        | fail)
      | refine W1 ?_ | refine Wc ?_ | refine W2c ?_ ?_ | refine Wg ?_ | refine W2 ?_ ?_ | exact Wdead | refine Wlive (fun hb => ?_) | intro _ _ _ _ _ _ _ _ | refine We ?_ | refine Wx ?_ | refine Wt ?_ | refine Wm ?_ | refine W2m ?_ ?_ | refine Wl ?_
      | fail)
    · rw [if_pos (by assumption)] at hstep
      have hcl1 : cellsL x = [x] := by rcases hx with ⟨rfl, _⟩ | ⟨i, rfl, _⟩ <;> rfl
      repeat' (first
        | (refine is_ucall ?_; first
          | refine st_callP (h := Full_spec _ _ _ m s1 s2 s3 (hm.ext extA) hb3) (k := ?_)
          | refine st_callP (h := Rising_spec _ _ _ m s1 s2 s3 x _ (hm.ext extA) (hrx.ext extA) hxn hb3 hbd.1 hbd.2) (k := ?_)
          | refine st_callP (h := Many_spec _ _ _ m s1 s2 s3 (hm.ext extA) hcl) (k := ?_)
          | fail)
        | (refine is_umcall ?_; first
          | refine mj_callP (h := Full_spec _ _ _ m s1 s2 s3 (hm.ext extA) hb3) (k := ?_)
          | refine mj_callP (h := Rising_spec _ _ _ m s1 s2 s3 x _ (hm.ext extA) (hrx.ext extA) hxn hb3 hbd.1 hbd.2) (k := ?_)
          | refine mj_callP (h := Many_spec _ _ _ m s1 s2 s3 (hm.ext extA) hcl) (k := ?_)
          | fail)
        | refine W1 ?_ | refine Wc ?_ | refine W2c ?_ ?_ | refine Wg ?_ | refine W2 ?_ ?_ | exact Wdead | refine Wlive (fun hb => ?_) | intro _ _ _ _ _ _ _ _ | refine We ?_ | refine Wx ?_ | refine Wt ?_ | refine Wm ?_ | refine W2m ?_ ?_ | refine Wl ?_
        | fail)
      refine st_buildSlice (cs := [x]) (n' := 1) (by decide) ?_ ?_
      · exact fillA_cons rfl (by show (cellsL x).all cellOk = true; rw [hcl1]; simp [hck]) (by show (cellsL x).length = 1; rw [hcl1]; rfl) (by decide) (by show fillA _ (splice _ _ (cellsL x)) _ = _; rw [hcl1]; rfl)
      refine OpsJ.normA ?_
      refine st_appK (enc := encV) (a := x) (hA2.app _) rfl (fun _ => rfl) rfl rfl getA (by simp) rfl (by simp [hck]) (by simp; omega) hvn (by decide) ?_
      intro H3 hA3 hE hK hL
      have hb3' := hK H.length _ (AppG_ne hA (.inl (by omega))) (get_old hb2)
      simp only [List.length_append, List.length_cons, List.length_nil] at hL hA3
      refine OpsJ.normA ?_
      repeat' (first
        | (refine is_ucall ?_; first
          | refine st_callP (h := Full_spec _ _ _ m s1 s2 s3 (hm.ext extA) hb3) (k := ?_)
          | refine st_callP (h := Rising_spec _ _ _ m s1 s2 s3 x _ (hm.ext extA) (hrx.ext extA) hxn hb3 hbd.1 hbd.2) (k := ?_)
          | refine st_callP (h := Many_spec _ _ _ m s1 s2 s3 (hm.ext extA) hcl) (k := ?_)
          | fail)
        | (refine is_umcall ?_; first
          | refine mj_callP (h := Full_spec _ _ _ m s1 s2 s3 (hm.ext extA) hb3) (k := ?_)
          | refine mj_callP (h := Rising_spec _ _ _ m s1 s2 s3 x _ (hm.ext extA) (hrx.ext extA) hxn hb3 hbd.1 hbd.2) (k := ?_)
          | refine mj_callP (h := Many_spec _ _ _ m s1 s2 s3 (hm.ext extA) hcl) (k := ?_)
          | fail)
        | refine W1 ?_ | refine Wc ?_ | refine W2c ?_ ?_ | refine Wg ?_ | refine W2 ?_ ?_ | exact Wdead | refine Wlive (fun hb => ?_) | intro _ _ _ _ _ _ _ _ | refine We ?_ | refine Wx ?_ | refine Wt ?_ | refine Wm ?_ | refine W2m ?_ ?_ | refine Wl ?_
        | fail)
      refine ⟨(.slice (some ⟨H2.length + 1, 0, none⟩) (vs.length + 1) (vs.length + 1), vs ++ [x]), hlt, (by repeat' (first | exact Weak.nil | refine Weak.wild ?_ | refine Weak.same ?_ | refine Weak.intEq (by first | omega | (simp; done) | (push_cast; omega)) ?_)), rfl, hE H (he2.app _) (by omega), hb3', hA3, by rw [hstep]; simp [hvl], ?_, by omega⟩
      intro k y l h1 h2
      rw [hstep] at h2
      have hv2 : ∀ j, j < (H2 ++ [AObj.row [x] 1 true]).length → ∀ a b, Value.slice (some ⟨H2.length + 1, 0, none⟩) (vs.length + 1) (vs.length + 1) ≠ .slice (some ⟨j, 0, none⟩) a b := by
        intro j hj a b e
        cases e
        simp at hj
      rcases Nat.lt_trichotomy k vs.length with hk | hk | hk
      · have h1' : vs[k]? = some y := by rw [List.getElem?_append_left hk] at h1; exact h1
        have h2' : (refN m j)[k]? = some l := by rw [List.getElem?_append_left (by omega)] at h2; exact h2
        have h3 : Inn (H2 ++ [AObj.row [x] 1 true]) v y l := (hI k y l h1' h2').ext (e2.app _)
        exact h3.keep hK hv2
      · subst hk
        have h1' : x = y := by simpa using h1
        have h2' : nthR m j = l := by rw [hvl] at h2; simpa using h2
        subst h1' h2'
        have h3 : Inn (H2 ++ [AObj.row [x] 1 true]) v x (nthR m j) := hvx.ext (Ext.app (Ext.refl _) _)
        exact h3.keep hK hv2
      · rw [List.getElem?_eq_none (by simp; omega)] at h1
        cases h1
    · rw [if_neg (by simp [*])] at hstep
      exact ⟨(v, vs), hlt, (by repeat' (first | exact Weak.nil | refine Weak.wild ?_ | refine Weak.same ?_ | refine Weak.intEq (by first | omega | (simp; done) | (push_cast; omega)) ?_)), rfl, he2, hb2, hA2, by rw [hstep]; exact hvl, by rw [hstep]; exact fun k x l h1 h2 => (hI k x l h1 h2).ext e2, by omega⟩
  · obtain rfl : j = N := by omega
    exact ⟨⟨⟨vs, hA.rd (fun _ => rfl), hvl, fun k x l h1 h2 => (hI k x l h1 h2).rd⟩, he⟩, rfl⟩
end
end Go.Proofs.Ytehobnpoeodhkaa
