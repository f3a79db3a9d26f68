import Derived.Test.YtjbiidlmpaibkaaIdp
namespace Go.Proofs.Ytjbiidlmpaibkaa
open Go Go.Abs Go.Proofs
set_option maxHeartbeats 1600000
attribute [local irreducible] CallJ OpsJ WPJ CallV MonoJ SpecJ
theorem st_appX {γ : Type} {P : Program} {E : Env γ} {T : List Value} {H : AHeap} {g : γ} {R : List Value → AHeap → γ → Prop} {ops : Array Oper} {dst : Option Tmp} {ty : TypeId} {ps : String} {af : Array Edge} {rest : List Oper} {α : Type} {enc : α → List Value} {w n : Nat} {v : Value} {l : List α} {s x : Operand} {t e : TypeId} {nn : Nat} {z : Value} {b : Nat} {d' : TypeDesc} {z' : Value} {b' : Nat} {i o cap : Nat} {cells : List Value} {es : Nat} {own : Bool} {a : α}
    [ht : TyC P t (.slice e) nn z b] [he : TyC P e d' w z' b'] (hA : AppG enc w H n v l) (hz' : (cellsL z').length = w) (hw : ∀ a, (enc a).length = w) (hs : evalT T s = v) (hx : evalT T x = .slice (some ⟨i, o, none⟩) 1 cap) (hi : H[i]? = some (.row cells es own))
    (hfit : o + w ≤ cells.length) (hc : (cells.drop o).take w = enc a) (hok : (enc a).all cellOk = true) (hnH : n ≤ H.length) (hn : l.length ≤ 1000000) (hb : b' ≤ 1000)
    (k : ∀ H2, AppG enc w H2 n (.slice (some ⟨H.length, 0, none⟩) (l.length + 1) (l.length + 1)) (l ++ [a]) → (∀ H0, Ext H0 H → H0.length ≤ n → Ext H0 H2) → (∀ j o, (∀ i l c, v = .slice (some ⟨i, 0, none⟩) l c → j ≠ i) → H[j]? = some o → H2[j]? = some o) → H.length < H2.length →
      OpsJ P E ops R rest (putT T dst (.slice (some ⟨H.length, 0, none⟩) (l.length + 1) (l.length + 1))) H2 g) :
    OpsJ P E ops R (⟨dst, .call { callee := .builtin .append, args := #[s, x], argTypes := #[t, t] }, ty, ps, af, none⟩ :: rest) T H g := by
  have hm : maxLen = 9223372036854775807 := by decide
  have hlb : (l.length + 1) * b' ≤ 140737488355328 := by
    have := Nat.mul_le_mul (show l.length + 1 ≤ 1000001 by omega) hb
    omega
  rcases hA with ⟨rfl, rfl⟩ | ⟨j, rfl, hj, hnj, hne⟩
  · refine st_appendNil hz' hs hx hi (news := enc a) (by omega) (by rw [Nat.one_mul]; exact hc) ⟨by decide, by rw [hm]; decide, by simpa using hlb⟩ (k _ ?_ ?_ ?_ (by simp))
    · exact .inr ⟨H.length, by simp, by simp, hnH, by simp⟩
    · exact fun H0 h0 _ => Ext.app h0 _
    · exact fun j o _ h => get_old h
  · have hlen := flatten_lenG hw l
    refine st_appendOwn hz' hs hx hj (by omega) hi (by omega) (by rw [Nat.one_mul]; exact hc) hok ⟨by rw [hm]; omega, hlb⟩ (k _ ?_ ?_ ?_ (by simp))
    · refine .inr ⟨H.length, by simp, ?_, hnH, by simp⟩
      rw [List.take_of_length_le (by omega)]
      have : (H.set j AObj.dead).length = H.length := by simp
      rw [List.getElem?_append_right (by omega)]
      simp
    · exact fun H0 h0 hl0 => Ext.app (Ext.set h0 (by omega) _) _
    · exact fun j2 o hj2 h => get_old (get_setne (Ne.symm (hj2 _ _ _ rfl)) h)
def szN (r : Int × Int) : Nat := (r.2 - r.1 + 1).toNat
def digits : List (Int × Int) → Nat → List Int
  | [], _ => []
  | r :: rs, n => (r.1 + (n % szN r : Nat)) :: digits rs (n / szN r)
def restN : List (Int × Int) → Nat → Nat
  | [], n => n
  | r :: rs, n => restN rs (n / szN r)
theorem digits_snoc : ∀ (rs : List (Int × Int)) (r : Int × Int) (n : Nat), digits (rs ++ [r]) n = digits rs n ++ [r.1 + (restN rs n % szN r : Nat)]
  | [], r, n => rfl
  | q :: rs, r, n => by simp [digits, restN, digits_snoc rs r]
theorem rest_snoc : ∀ (rs : List (Int × Int)) (r : Int × Int) (n : Nat), restN (rs ++ [r]) n = restN rs n / szN r
  | [], r, n => rfl
  | q :: rs, r, n => by simp [restN, rest_snoc rs r]
theorem rest_le : ∀ (rs : List (Int × Int)) (n : Nat), restN rs n ≤ n
  | [], _n => Nat.le_refl _
  | _r :: rs, _n => Nat.le_trans (rest_le rs _) (Nat.div_le_self _ _)
theorem digits_len : ∀ (rs : List (Int × Int)) (n : Nat), (digits rs n).length = rs.length
  | [], n => rfl
  | r :: rs, n => by simp [digits, digits_len rs]
def nthH (m : CopM) (n : Nat) : Int := m.hlo + (n % szN (m.hlo, m.hhi) : Nat)
def nthL (m : CopM) (n : Nat) : List Int := digits m.loss (n / szN (m.hlo, m.hhi))
theorem szN_pos {r : Int × Int} (h : upTo r 99 = true) : 1 ≤ szN r ∧ szN r ≤ 100 ∧ ((szN r : Nat) : Int) = r.2 - r.1 + 1 := by
  simp only [upTo, Bool.and_eq_true, decide_eq_true_eq] at h
  unfold szN; omega
section
variable {γ : Type} (E : Env γ) (g : γ) (H : AHeap)
theorem Nth_spec (m : CopM) (s1 s2 s3 s4 : Value) (n : Nat) (hm : CopY H m s1 s2 s3 s4) (hG : Good m) (hn : n ≤ 1000000) :
    CallJ Try.prog E 62 [cv m s1 s2 s3 s4, .int .i64 n] (fun v H' g' => v = .agg ⟨[.int .i64 (nthH m n), .slice (some ⟨H.length, 0, none⟩) (nthL m n).length (nthL m n).length]⟩ ∧ H' = H ++ [.row (encE (nthL m n)) 1 true] ∧ g' = g) H g := by
  have hok := hm.cells
  have hr3 := hm.loss
  have hll := hG.ll
  obtain ⟨hn5, hnl⟩ := hrs_le hG.w
  have hl0 := hG.w.l0
  obtain ⟨z1, z2, z3⟩ := szN_pos hG.hh
  have hh := hG.hh
  simp only [upTo, Bool.and_eq_true, decide_eq_true_eq] at hh
  have hne : m.hhi - m.hlo + 1 ≠ 0 := by omega
  have hmod : (n : Int).tmod (m.hhi - m.hlo + 1) = ((n % szN (m.hlo, m.hhi) : Nat) : Int) := by
    rw [← z3, Int.tmod_eq_emod_of_nonneg (by omega)]; rfl
  have hdiv : (n : Int) / (m.hhi - m.hlo + 1) = ((n / szN (m.hlo, m.hhi) : Nat) : Int) := by rw [← z3]; rfl
  have hml : n % szN (m.hlo, m.hhi) < szN (m.hlo, m.hhi) := Nat.mod_lt _ (by omega)
  have hq0 : n / szN (m.hlo, m.hhi) ≤ 1000000 := Nat.le_trans (Nat.div_le_self _ _) hn
  have hHd : nthH m n = m.hlo + ((n % szN (m.hlo, m.hhi) : Nat) : Int) := rfl
  have hLd : nthL m n = digits m.loss (n / szN (m.hlo, m.hhi)) := rfl
  have hlen := digits_len m.loss (n / szN (m.hlo, m.hhi))
  rw [hHd, hLd]
  clear hHd hLd
  generalize n % szN (m.hlo, m.hhi) = d0 at *
  generalize n / szN (m.hlo, m.hhi) = q0 at *
  refine CallJ.tidy ?_
  unfold cv
  refine CallJ.enter Try.func62 rfl (by simp only [Try.ntmps62, List.length_cons, List.length_nil, Nat.zero_add, Nat.reduceAdd, Nat.reduceSub, List.replicate_succ, List.replicate_zero, List.cons_append, List.nil_append]; rfl) ?_
  repeat' (first
    | ((fail_if_success (first | refine is_ucall ?_ | refine is_umcall ?_)); first | refine W1 ?_ | refine Wc ?_ | refine W2c ?_ ?_ | refine Wg ?_ | refine W2 ?_ ?_ | exact Wdead | refine Wlive (fun hb => ?_) | intro _ _ _ _ _ _ _ _ | refine We ?_ | refine Wx ?_ | refine Wt ?_ | refine Wm ?_ | refine W2m ?_ ?_ | refine Wl ?_)
    | fail)
  refine WPJ.draw 11 mixed (by kernel_rfl) (by kernel_rfl) (by kernel_rfl) (by decide) ?_
  refine MonoJ.normA ?_
  repeat' (first
    | ((fail_if_success (first | refine is_ucall ?_ | refine is_umcall ?_)); first | refine W1 ?_ | refine Wc ?_ | refine W2c ?_ ?_ | refine Wg ?_ | refine W2 ?_ ?_ | exact Wdead | refine Wlive (fun hb => ?_) | intro _ _ _ _ _ _ _ _ | refine We ?_ | refine Wx ?_ | refine Wt ?_ | refine Wm ?_ | refine W2m ?_ ?_ | refine Wl ?_)
    | fail)
  refine mj_callP (h := Size_spec _ _ _ (m.hlo, m.hhi) ⟨by show -1000000 ≤ m.hlo; omega, by show m.hlo ≤ 1000000; omega⟩ ⟨by show -1000000 ≤ m.hhi; omega, by show m.hhi ≤ 1000000; omega⟩) (k := ?_)
  refine MonoJ.normA ?_
  repeat' (first
    | ((fail_if_success (first | refine is_ucall ?_ | refine is_umcall ?_)); first | refine W1 ?_ | refine Wc ?_ | refine W2c ?_ ?_ | refine Wg ?_ | refine W2 ?_ ?_ | exact Wdead | refine Wlive (fun hb => ?_) | intro _ _ _ _ _ _ _ _ | refine We ?_ | refine Wx ?_ | refine Wt ?_ | refine Wm ?_ | refine W2m ?_ ?_ | refine Wl ?_)
    | fail)
  rw [hmod]
  refine st_callP (h := Size_spec _ _ _ (m.hlo, m.hhi) ⟨by show -1000000 ≤ m.hlo; omega, by show m.hlo ≤ 1000000; omega⟩ ⟨by show -1000000 ≤ m.hhi; omega, by show m.hhi ≤ 1000000; omega⟩) (k := ?_)
  refine OpsJ.normA ?_
  repeat' (first
    | ((fail_if_success (first | refine is_ucall ?_ | refine is_umcall ?_)); first | refine W1 ?_ | refine Wc ?_ | refine W2c ?_ ?_ | refine Wg ?_ | refine W2 ?_ ?_ | exact Wdead | refine Wlive (fun hb => ?_) | intro _ _ _ _ _ _ _ _ | refine We ?_ | refine Wx ?_ | refine Wt ?_ | refine Wm ?_ | refine W2m ?_ ?_ | refine Wl ?_)
    | fail)
  rw [hdiv]
  clear hmod hdiv
  refine WPJ.loopT m.loss.length [23, 24, 25, 26, 27, 30, 31, 32, 33, 34, 7, 35, 36, 37, 38, 39, 40, 41, 42, 43, 44, 45, 46, 47, 48, 49, 50, 28, 29] (fun j (v : Value) => [(6, .int .i64 j), (1, .int .i64 (restN (m.loss.take j) q0 : Nat))])
    (fun j v H1 g1 => g1 = g ∧ Ext H H1 ∧ H1[H.length]? = some (.row (ccells m s1 s2 s3 s4) 1 true) ∧ (∃ cs, cs.length = 2 ∧ H1[H.length + 1]? = some (.row cs 1 true)) ∧ H1[H.length + 2]? = some (.row [.int .i64 (m.hlo + (d0 : Nat)), v] 1 true) ∧ AppG enc1 1 H1 (H.length + 3) v (digits (m.loss.take j) q0) ∧ H.length + 3 ≤ H1.length) 0 (.slice none 0 0) (Nat.zero_le _)
    (by intro p hp; simp at hp; rcases hp with rfl | rfl <;> rfl) ⟨rfl, extA, getA, ⟨_, rfl, getA⟩, getA, by rw [List.take_zero]; exact AppG.nil, by simp⟩ ?_
  rintro j v1 H1 g1 hj ⟨rfl, he, hb0, ⟨cs, hcs, hb1⟩, hb2, hA, hlen3⟩ hl0'
  simp only [updT, maskT, List.set_cons_zero, List.set_cons_succ]
  rcases Nat.lt_or_ge j m.loss.length with hlt | hge
  · have hel : (m.loss.map encR)[(j : Int).toNat]? = some (encR m.loss[j]) := by simp [hlt]
    have hu := hG.lb _ (List.getElem_mem hlt)
    obtain ⟨y1, y2, y3⟩ := szN_pos hu
    have hdt : digits (m.loss.take (j + 1)) q0 = digits (m.loss.take j) q0 ++ [m.loss[j].1 + (restN (m.loss.take j) q0 % szN m.loss[j] : Nat)] := by rw [List.take_succ_eq_append_getElem hlt, digits_snoc]
    have hrt : restN (m.loss.take (j + 1)) q0 = restN (m.loss.take j) q0 / szN m.loss[j] := by rw [List.take_succ_eq_append_getElem hlt, rest_snoc]
    have hq : restN (m.loss.take j) q0 ≤ 1000000 := Nat.le_trans (rest_le _ _) hq0
    have hmodL : ((restN (m.loss.take j) q0 : Nat) : Int).tmod (m.loss[j].2 - m.loss[j].1 + 1) = ((restN (m.loss.take j) q0 % szN m.loss[j] : Nat) : Int) := by
      rw [← y3, Int.tmod_eq_emod_of_nonneg (by omega)]; rfl
    have hdivL : ((restN (m.loss.take j) q0 : Nat) : Int) / (m.loss[j].2 - m.loss[j].1 + 1) = ((restN (m.loss.take j) q0 / szN m.loss[j] : Nat) : Int) := by rw [← y3]; rfl
    have hmlL : restN (m.loss.take j) q0 % szN m.loss[j] < szN m.loss[j] := Nat.mod_lt _ (by omega)
    have hqL : restN (m.loss.take j) q0 / szN m.loss[j] ≤ 1000000 := Nat.le_trans (Nat.div_le_self _ _) hq
    rw [hdt, hrt]
    simp only [upTo, Bool.and_eq_true, decide_eq_true_eq] at hu
    generalize restN (m.loss.take j) q0 % szN m.loss[j] = dj at *
    generalize restN (m.loss.take j) q0 / szN m.loss[j] = qj at *
    generalize restN (m.loss.take j) q0 = rj at *
    repeat' (first
      | ((fail_if_success (first | refine is_ucall ?_ | refine is_umcall ?_)); first | refine W1 ?_ | refine Wc ?_ | refine W2c ?_ ?_ | refine Wg ?_ | refine W2 ?_ ?_ | exact Wdead | refine Wlive (fun hb => ?_) | intro _ _ _ _ _ _ _ _ | refine We ?_ | refine Wx ?_ | refine Wt ?_ | refine Wm ?_ | refine W2m ?_ ?_ | refine Wl ?_)
      | fail)
    refine WPJ.draw 10 mixed (by kernel_rfl) (by kernel_rfl) (by kernel_rfl) (by decide) ?_
    refine MonoJ.normA ?_
    repeat' (first
      | ((fail_if_success (first | refine is_ucall ?_ | refine is_umcall ?_)); first | refine W1 ?_ | refine Wc ?_ | refine W2c ?_ ?_ | refine Wg ?_ | refine W2 ?_ ?_ | exact Wdead | refine Wlive (fun hb => ?_) | intro _ _ _ _ _ _ _ _ | refine We ?_ | refine Wx ?_ | refine Wt ?_ | refine Wm ?_ | refine W2m ?_ ?_ | refine Wl ?_)
      | fail)
    refine mj_callP (h := Size_spec _ _ _ m.loss[j] ⟨by omega, by omega⟩ ⟨by omega, by omega⟩) (k := ?_)
    refine MonoJ.normA ?_
    repeat' (first
      | ((fail_if_success (first | refine is_ucall ?_ | refine is_umcall ?_)); first | refine W1 ?_ | refine Wc ?_ | refine W2c ?_ ?_ | refine Wg ?_ | refine W2 ?_ ?_ | exact Wdead | refine Wlive (fun hb => ?_) | intro _ _ _ _ _ _ _ _ | refine We ?_ | refine Wx ?_ | refine Wt ?_ | refine Wm ?_ | refine W2m ?_ ?_ | refine Wl ?_)
      | fail)
    rw [hmodL]
    have hbnd : ∀ i l c, v1 = .slice (some ⟨i, 0, none⟩) l c → H.length + 3 ≤ i ∧ i < H1.length := by
      rintro i l c rfl
      rcases hA with ⟨h, _⟩ | ⟨i', h, hi', hn', _⟩
      · cases h
      · cases h
        exact ⟨hn', (List.getElem?_eq_some_iff.1 hi').1⟩
    refine st_appX (enc := enc1) (a := m.loss[j].1 + (dj : Int)) (hA.app _) rfl (fun _ => rfl) rfl rfl getA (by simp) rfl rfl (by simp; omega) (by rw [digits_len]; simp; omega) (by decide) ?_
    intro v2 hA2 hE hK hL
    have e0 := hK (H.length) _ (fun i l c h => by have := hbnd i l c h; omega) (get_old hb0)
    have e1 := hK (H.length + 1) _ (fun i l c h => by have := hbnd i l c h; omega) (get_old hb1)
    have e2 := hK (H.length + 2) _ (fun i l c h => by have := hbnd i l c h; omega) (get_old hb2)
    have e3 := hK (H1.length) (.row (encR m.loss[j]) 1 true) (fun i l c h => by have := hbnd i l c h; omega) (by simp)
    simp only [List.length_append, List.length_cons, List.length_nil] at hL
    simp only [List.length_append, List.length_cons, List.length_nil, Nat.zero_add, Nat.reduceAdd] at hA2
    refine OpsJ.normA ?_
    repeat' (first
      | ((fail_if_success (first | refine is_ucall ?_ | refine is_umcall ?_)); first | refine W1 ?_ | refine Wc ?_ | refine W2c ?_ ?_ | refine Wg ?_ | refine W2 ?_ ?_ | exact Wdead | refine Wlive (fun hb => ?_) | intro _ _ _ _ _ _ _ _ | refine We ?_ | refine Wx ?_ | refine Wt ?_ | refine Wm ?_ | refine W2m ?_ ?_ | refine Wl ?_)
      | fail)
    refine st_callP (h := Size_spec _ _ _ m.loss[j] ⟨by omega, by omega⟩ ⟨by omega, by omega⟩) (k := ?_)
    refine OpsJ.normA ?_
    repeat' (first
      | ((fail_if_success (first | refine is_ucall ?_ | refine is_umcall ?_)); first | refine W1 ?_ | refine Wc ?_ | refine W2c ?_ ?_ | refine Wg ?_ | refine W2 ?_ ?_ | exact Wdead | refine Wlive (fun hb => ?_) | intro _ _ _ _ _ _ _ _ | refine We ?_ | refine Wx ?_ | refine Wt ?_ | refine Wm ?_ | refine W2m ?_ ?_ | refine Wl ?_)
      | fail)
    rw [hdivL]
    exact ⟨_, hlt, (by repeat' (first | exact Weak.nil | refine Weak.wild ?_ | refine Weak.same ?_ | refine Weak.intEq (by first | omega | (simp; done) | (push_cast; omega)) ?_)), rfl, Ext.set (hE H extA (by omega)) (by omega) _, getA, ⟨_, hcs, getA⟩, getA, by refine hA2.set ?_; omega, by rw [List.length_set]; omega⟩
  obtain rfl : j = m.loss.length := by omega
  rw [List.take_length] at hA
  rcases hA with ⟨_, h⟩ | ⟨i, rfl, hi, hni, _⟩
  · have := congrArg List.length h
    simp only [List.length_nil] at this
    omega
  repeat' (first
    | ((fail_if_success (first | refine is_ucall ?_ | refine is_umcall ?_)); first | refine W1 ?_ | refine Wc ?_ | refine W2c ?_ ?_ | refine Wg ?_ | refine W2 ?_ ?_ | exact Wdead | refine Wlive (fun hb => ?_) | intro _ _ _ _ _ _ _ _ | refine We ?_ | refine Wx ?_ | refine Wt ?_ | refine Wm ?_ | refine W2m ?_ ?_ | refine Wl ?_)
    | fail)
  refine Tidy.two (i := i) (cells := encE (digits m.loss q0)) (es := 1) (v0 := .agg ⟨[.int .i64 (m.hlo + (d0 : Nat)), .slice (some ⟨H.length, 0, none⟩) (digits m.loss q0).length (digits m.loss q0).length]⟩) extA ?_ (by omega) (encE_flat _) (.aggs rfl fun j h1 h2 => ?_) ⟨rfl, rfl, rfl⟩
  · rw [← enc1_flat]
    exact getA
  · match j, h1 with
    | 0, _ => exact .flat rfl
    | 1, _ => exact .slice (j := 0) rfl
end
end Go.Proofs.Ytjbiidlmpaibkaa
