import Derived.Test.YtjbiidlmpaibkaaJcp
import Derived.Test.YtjbiidlmpaibkaaIjp
namespace Go.Proofs.Ytjbiidlmpaibkaa
open Go Go.Abs Go.Proofs
set_option maxHeartbeats 4000000
set_option maxRecDepth 20000
attribute [local irreducible] CallJ OpsJ WPJ CallV MonoJ SpecJ
theorem digits_at : ∀ (rs : List (Int × Int)) (n j : Nat), (∀ r ∈ rs, upTo r 99 = true) → j < rs.length → (rs.getD j (0, 0)).1 ≤ (digits rs n).getD j 0 ∧ (digits rs n).getD j 0 ≤ (rs.getD j (0, 0)).2
  | [], _, _, _, hj => by simp at hj
  | r :: rs, n, 0, h, _ => by
    obtain ⟨z1, z2, z3⟩ := szN_pos (h r (by simp))
    have := Nat.mod_lt n (show 0 < szN r by omega)
    show r.1 ≤ r.1 + (n % szN r : Nat) ∧ r.1 + (n % szN r : Nat) ≤ r.2
    generalize n % szN r = d at *
    omega
  | r :: rs, n, j + 1, h, hj => digits_at rs (n / szN r) j (fun x hx => h x (by simp [hx])) (by simpa using hj)
theorem truthOk_of {m : CopM} (hG : Good m) {h : Int} {ls : List Int} (h1 : m.hlo ≤ h ∧ h ≤ m.hhi) (h2 : ls.length = hrs m) (h3 : ∀ j < hrs m, (m.loss.getD j (0, 0)).1 ≤ ls.getD j 0 ∧ ls.getD j 0 ≤ (m.loss.getD j (0, 0)).2) : truthOkS m h ls = true := by
  obtain ⟨hn5, hnl⟩ := hrs_le hG.w
  simp only [truthOkS, lossOk, inR, Bool.and_eq_true, decide_eq_true_eq, List.all_eq_true, List.mem_range]
  exact ⟨⟨h1, by omega⟩, fun j hj => h3 j (by omega)⟩
theorem nthL_len {m : CopM} (hG : Good m) (n : Nat) : (nthL m n).length = hrs m := by
  obtain ⟨hn5, hnl⟩ := hrs_le hG.w
  have := hG.ll
  unfold nthL
  rw [digits_len]; omega
theorem nthL_at {m : CopM} (hG : Good m) (n : Nat) {j : Nat} (hj : j < hrs m) : (m.loss.getD j (0, 0)).1 ≤ (nthL m n).getD j 0 ∧ (nthL m n).getD j 0 ≤ (m.loss.getD j (0, 0)).2 := by
  obtain ⟨hn5, hnl⟩ := hrs_le hG.w
  have := hG.ll
  exact digits_at _ _ _ hG.lb (by omega)
theorem nthH_at {m : CopM} (hG : Good m) (n : Nat) : m.hlo ≤ nthH m n ∧ nthH m n ≤ m.hhi := by
  obtain ⟨z1, z2, z3⟩ := szN_pos hG.hh
  have := Nat.mod_lt n (show 0 < szN (m.hlo, m.hhi) by omega)
  unfold nthH
  have z4 : ((szN (m.hlo, m.hhi) : Nat) : Int) = m.hhi - m.hlo + 1 := z3
  generalize n % szN (m.hlo, m.hhi) = d at *
  omega
theorem play_ok {m : CopM} (hz : checkS m = 0) {h : Int} {ls : List Int} (ht : truthOkS m h ls = true) : playE m h ls = 0 := by
  unfold playE; rw [if_pos hz, if_pos ht]
theorem hotL_len (m : CopM) (h : Int) (ls : List Int) : (hotL m h ls).length = hrs m := by simp [hotL]
section
variable {P : Program} {T : List Value} {H : AHeap} {R : List Value → AHeap → Prop} {ops : Array Oper} {dst : Option Tmp} {ty : TypeId} {ps : String} {af : Array Edge} {rest : List Oper} {mm : Nat} {xs : Array Operand} {at_ : Array TypeId}
theorem mj_copperM {m : CopM} {s1 s2 s3 s4 : Value} (ha : evalL T xs.toList = [cv m s1 s2 s3 s4]) (hm : CopY H m s1 s2 s3 s4) (hb3 : m.loss.length ≤ 1000) (hb4 : m.reads.length ≤ 1000)
    (k : ∀ H' t1 t2 t3 t4, CopIs H' m t1 t2 t3 t4 → Ext H H' → MonoJ Try.prog ops R mm rest (putT T dst (cv m t1 t2 t3 t4)) H') : MonoJ Try.prog ops R (mm + 1) (⟨dst, .call { callee := .value (.func 22), args := xs, argTypes := at_ }, ty, ps, af, none⟩ :: rest) T H :=
  mj_callL (ha := ha) (h := CopperO_spec trivE () H m s1 s2 s3 s4 hm hb3 hb4) (hL := copL_own m) (k := k _ _ _ _ _ (cop_madeO H m hm.n1 hm.n2 hm.n3 hm.n4) ⟨_, rfl⟩)
theorem mj_truthN {tl : Value} {h : Int} {ls : List Int} (ha : evalL T xs.toList = [.agg ⟨[.int .i64 h, tl]⟩]) (hr : RdS H tl 1 (encI ls)) (hn : ls.length ≤ 1000000)
    (k : ∀ H' tl', RdS H' tl' 1 (encI ls) → Ext H H' → MonoJ Try.prog ops R mm rest (putT T dst (.agg ⟨[.int .i64 h, tl']⟩)) H') : MonoJ Try.prog ops R (mm + 1) (⟨dst, .call { callee := .value (.func 23), args := xs, argTypes := at_ }, ty, ps, af, none⟩ :: rest) T H :=
  mj_callL (ha := ha) (h := TruthO_spec trivE () H tl h ls hr hn) (k := k _ _ (rd_encE (own := true) List.getElem?_concat_length (List.take_of_length_le (by simp [encE]))) ⟨_, rfl⟩)
end
end Go.Proofs.Ytjbiidlmpaibkaa
