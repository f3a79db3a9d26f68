import Derived.Test.YtjbiidlmpaibkaaJcp
import Derived.Test.YtjbiidlmpaibkaaGxp
namespace Go.Proofs.Ytjbiidlmpaibkaa
open Go Go.Abs Go.Proofs
set_option maxHeartbeats 4000000
set_option maxRecDepth 20000
attribute [local irreducible] CallJ OpsJ WPJ CallV MonoJ SpecJ VarJ VK VP VQ AllV
theorem coals_bd {s k : Nat} (hs : s ≤ 3) (hk : k ≤ 5) : 1 ≤ (s + 1) ^ k ∧ (s + 1) ^ k ≤ 1024 := by
  have : ∀ s < 4, ∀ k < 6, 1 ≤ (s + 1) ^ k ∧ (s + 1) ^ k ≤ 1024 := by decide
  exact this s (by omega) k (by omega)
section
variable {γ : Type} (E : Env γ) (g : γ) (H : AHeap)
theorem Coals_spec (m : CopM) (s1 s2 s3 s4 : Value) (hok : (ccells m s1 s2 s3 s4).all cellOk = true) (hW : WOk m) (h0 : 0 ≤ m.shovels) (hs : m.shovels ≤ 3) :
    CallJ Try.prog E 67 [cv m s1 s2 s3 s4] (fun v H' g' => v = .int .i64 (((m.shovels.toNat + 1) ^ hrs m : Nat) : Int) ∧ H' = H ∧ g' = g) H g := by
  have hl0 := hW.l0
  have hl4 := hW.l4
  obtain ⟨hn5, hnl⟩ := hrs_le hW
  refine CallJ.tidy ?_
  unfold cv
  refine CallJ.enter Try.func67 rfl (by simp only [Try.ntmps67, List.length_cons, List.length_nil, Nat.zero_add, Nat.reduceSub, List.replicate_succ, List.replicate_zero, List.cons_append, List.nil_append]; rfl) ?_
  repeat' (first
    | ((fail_if_success (first | refine is_ucall ?_ | refine is_umcall ?_)); first | refine W1 ?_ | refine Wc ?_ | refine W2c ?_ ?_ | refine Wg ?_ | refine W2 ?_ ?_ | exact Wdead | refine Wlive (fun hb => ?_) | intro _ _ _ _ _ _ _ _ | refine We ?_ | refine Wx ?_ | refine Wt ?_ | refine Wm ?_ | refine W2m ?_ ?_ | refine Wl ?_)
    | fail)
  refine WPJ.loopT (hrs m) [5, 6, 7, 8, 11, 12, 13, 14, 15, 9, 10] (fun j (_ : Unit) => [(4, .int .i64 j), (3, .int .i64 (((m.shovels.toNat + 1) ^ j : Nat) : Int))])
    (fun j _ H1 g1 => g1 = g ∧ H1 = H ++ [.row (ccells m s1 s2 s3 s4) 1 true]) 0 () (Nat.zero_le _) (by intro p hp; simp at hp; rcases hp with rfl | rfl <;> rfl) ⟨rfl, rfl⟩ ?_
  rintro j _ H1 g1 hj ⟨rfl, rfl⟩ hl1
  simp only [updT, maskT, List.set_cons_zero, List.set_cons_succ]
  rcases Nat.lt_or_ge j (hrs m) with hlt | hge
  · obtain ⟨hb1, hb2⟩ := coals_bd (s := m.shovels.toNat) (k := j) (by omega) (by omega)
    have hst : (((m.shovels.toNat + 1) ^ (j + 1) : Nat) : Int) = (((m.shovels.toNat + 1) ^ j : Nat) : Int) * (m.shovels + 1) := by
      rw [Nat.pow_succ, Int.natCast_mul]; congr 1; omega
    rw [hst]
    generalize (m.shovels.toNat + 1) ^ j = p at *
    have hmm : 0 ≤ (p : Int) * (m.shovels + 1) ∧ (p : Int) * (m.shovels + 1) ≤ 1024 * 4 := ⟨Int.mul_nonneg (by omega) (by omega), Int.mul_le_mul (by omega) (by omega) (by omega) (by omega)⟩
    repeat' (first
      | ((fail_if_success (first | refine is_ucall ?_ | refine is_umcall ?_)); first | refine W1 ?_ | refine Wc ?_ | refine W2c ?_ ?_ | refine Wg ?_ | refine W2 ?_ ?_ | exact Wdead | refine Wlive (fun hb => ?_) | intro _ _ _ _ _ _ _ _ | refine We ?_ | refine Wx ?_ | refine Wt ?_ | refine Wm ?_ | refine W2m ?_ ?_ | refine Wl ?_)
      | fail)
    exact ⟨(), hlt, (by repeat' (first | exact Weak.nil | refine Weak.wild ?_ | refine Weak.same ?_ | refine Weak.intEq (by first | omega | (simp; done) | (push_cast; omega)) ?_)), rfl, rfl⟩
  · obtain rfl : j = hrs m := by omega
    repeat' (first
      | ((fail_if_success (first | refine is_ucall ?_ | refine is_umcall ?_)); first | refine W1 ?_ | refine Wc ?_ | refine W2c ?_ ?_ | refine Wg ?_ | refine W2 ?_ ?_ | exact Wdead | refine Wlive (fun hb => ?_) | intro _ _ _ _ _ _ _ _ | refine We ?_ | refine Wx ?_ | refine Wt ?_ | refine Wm ?_ | refine W2m ?_ ?_ | refine Wl ?_)
      | fail)
    exact ⟨rfl, rfl, rfl⟩
theorem Coal_spec (m : CopM) (s1 s2 s3 s4 : Value) (n : Nat) (hok : (ccells m s1 s2 s3 s4).all cellOk = true) (hW : WOk m) (h0 : 0 ≤ m.shovels) (hs : m.shovels ≤ 3) (hn : n ≤ 1000000) :
    CallJ Try.prog E 66 [cv m s1 s2 s3 s4, .int .i64 n] (fun v H' g' => v = .slice (some ⟨H.length, 0, none⟩) (hrs m) (hrs m) ∧ H' = H ++ [.row (encE (coalN m n)) 1 true] ∧ g' = g) H g := by
  have hl0 := hW.l0
  have hl4 := hW.l4
  obtain ⟨hn5, hnl⟩ := hrs_le hW
  obtain ⟨s, hsn⟩ : ∃ s, s = m.shovels.toNat := ⟨_, rfl⟩
  have hsz : m.shovels = (s : Int) := by omega
  have hall : coalN m n = coalJ s (hrs m) n (hrs m) := by rw [coalJ_all, hsn]; rfl
  rw [hall]
  have hz : List.replicate (m.last + 1).toNat (Value.int .i64 (Int.ofNat 0)) = encE (coalJ s (hrs m) n 0) := by
    rw [coalJ_zero]; unfold encE; rw [List.map_replicate]; rfl
  refine CallJ.tidy ?_
  unfold cv
  refine CallJ.enter Try.func66 rfl (by simp only [Try.ntmps66, List.length_cons, List.length_nil, Nat.zero_add, Nat.reduceAdd, Nat.reduceSub, List.replicate_succ, List.replicate_zero, List.cons_append, List.nil_append]; rfl) ?_
  repeat' (first
    | ((fail_if_success (first | refine is_ucall ?_ | refine is_umcall ?_)); first | refine W1 ?_ | refine Wc ?_ | refine W2c ?_ ?_ | refine Wg ?_ | refine W2 ?_ ?_ | exact Wdead | refine Wlive (fun hb => ?_) | intro _ _ _ _ _ _ _ _ | refine We ?_ | refine Wx ?_ | refine Wt ?_ | refine Wm ?_ | refine W2m ?_ ?_ | refine Wl ?_)
    | fail)
  rw [hz]
  refine WPJ.loopT (hrs m) [13, 14, 17, 18, 19, 20, 21, 22, 23, 24, 25, 26, 27, 28, 29, 15, 16] (fun j (_ : Unit) => [(6, .int .i64 (m.last - j)), (1, .int .i64 ((n / (s + 1) ^ j : Nat) : Int))])
    (fun j _ H1 g1 => g1 = g ∧ H1 = H ++ [.row (ccells m s1 s2 s3 s4) 1 true, .row (encE (coalJ s (hrs m) n j)) 1 true]) 0 () (Nat.zero_le _) (by intro p hp; simp at hp; rcases hp with rfl | rfl <;> simp) ⟨rfl, rfl⟩ ?_
  rintro j _ H1 g1 hj ⟨rfl, rfl⟩ hl1
  simp only [updT, maskT, List.set_cons_zero, List.set_cons_succ]
  rcases Nat.lt_or_ge j (hrs m) with hlt | hge
  · have hst := coalJ_step s (hrs m) n hlt
    have hq : n / (s + 1) ^ j ≤ 1000000 := Nat.le_trans (Nat.div_le_self _ _) hn
    have hmod : ((n / (s + 1) ^ j : Nat) : Int).tmod (m.shovels + 1) = ((n / (s + 1) ^ j % (s + 1) : Nat) : Int) := by
      rw [hsz]; rfl
    have hdiv : ((n / (s + 1) ^ j : Nat) : Int).tdiv (m.shovels + 1) = ((n / (s + 1) ^ (j + 1) : Nat) : Int) := by
      rw [hsz, Nat.pow_succ, ← Nat.div_div_eq_div_mul]; rfl
    have hml : n / (s + 1) ^ j % (s + 1) < s + 1 := Nat.mod_lt _ (by omega)
    have hq2 : n / (s + 1) ^ (j + 1) ≤ 1000000 := Nat.le_trans (Nat.div_le_self _ _) hn
    have hcl := coalJ_len s (hrs m) n j
    have hix : m.last - (j : Int) = ((hrs m - 1 - j : Nat) : Int) := by omega
    have hk : hrs m - 1 - j < hrs m := by omega
    have hix2 : ((hrs m - 1 - j : Nat) : Int) - 1 = m.last - ((j + 1 : Nat) : Int) := by omega
    generalize n / (s + 1) ^ j % (s + 1) = d at *
    generalize n / (s + 1) ^ (j + 1) = q2 at *
    generalize n / (s + 1) ^ j = q at *
    generalize coalJ s (hrs m) n j = xs at *
    rw [← hst]
    rw [hix]
    generalize hrs m - 1 - j = k at *
    have hel : (encE xs).length = hrs m := by simp [encE, hcl]
    have hcs : splice (encE xs) (k * 1) [.int .i64 (d : Int)] = encE (xs.set k (d : Int)) := by
      rw [Nat.mul_one]
      have hk2 : k < (encE xs).length := by omega
      have e1 : splice (encE xs) k [Value.int .i64 (d : Int)] = (encE xs).set k (.int .i64 (d : Int)) := by
        rw [List.set_eq_take_append_cons_drop, if_pos hk2]; simp [splice]
      rw [e1]; unfold encE; rw [List.map_set]
    repeat' (first
      | ((fail_if_success (first | refine is_ucall ?_ | refine is_umcall ?_)); first | refine W1 ?_ | refine Wc ?_ | refine W2c ?_ ?_ | refine Wg ?_ | refine W2 ?_ ?_ | exact Wdead | refine Wlive (fun hb => ?_) | intro _ _ _ _ _ _ _ _ | refine We ?_ | refine Wx ?_ | refine Wt ?_ | refine Wm ?_ | refine W2m ?_ ?_ | refine Wl ?_)
      | fail)
    refine WPJ.drawV 15 [13] [⟨13, H.length + 1, .row (encE xs) 1 true, .row (encE (xs.set k (d : Int))) 1 true⟩] [Ph.read [0], Ph.read [0], Ph.read [0], Ph.read [0], Ph.read [0], Ph.read [0], Ph.read [0], Ph.read [0, 1], Ph.read [0, 1], Ph.read [0, 1], Ph.read [0, 1], Ph.read [0, 1], Ph.read [0], Ph.turn 0, Ph.read [1]] mixed (by kernel_rfl) (by kernel_rfl) (by kernel_rfl) (by decide) (by kernel_rfl) (by kernel_rfl) (by kernel_rfl) rfl (by repeat' (first | exact trivial | rfl | exact encE_flat _ | assumption | refine And.intro ?_ ?_)) ?_
    refine VarJ.normA ?_
    repeat' (first
      | (with_reducible refine is_vj ?_; first | refine vj_go0 ?_ | refine vj_go1 ?_ | refine vj_go2 ?_ | (refine vj_end1 ?_; refine OpsJ.normA ?_) | (refine vj_end2 ?_; refine OpsJ.normA ?_) | (refine vj_end3 ?_; refine OpsJ.normA ?_))
      | (with_reducible refine is_vk ?_; refine vk0 rfl ?_ ?_)
      | (with_reducible refine is_av ?_; first | exact allv_nil | refine allv_cons ?_ ?_)
      | (with_reducible refine is_vq ?_; first | refine vq1 rfl rfl ?_ | refine vq2 rfl rfl ?_)
      | (with_reducible refine is_vp ?_; exact vp_end)
      | ((fail_if_success (first | refine is_ucall ?_ | refine is_umcall ?_)); first | refine W1 ?_ | refine Wc ?_ | refine W2c ?_ ?_ | refine Wg ?_ | refine W2 ?_ ?_ | exact Wdead | refine Wlive (fun hb => ?_) | intro _ _ _ _ _ _ _ _ | refine We ?_ | refine Wx ?_ | refine Wt ?_ | refine Wm ?_ | refine W2m ?_ ?_ | refine Wl ?_)
      | fail)
    have hwq : IntKind.i64.wrap (q2 : Int) = (q2 : Int) := wrap64_eq ⟨by omega, by omega⟩
    rw [hmod, hdiv, hwq]
    refine VarJ.normA ?_
    refine vj_store (vs := [.int .i64 (d : Int)]) rfl rfl rfl rfl rfl rfl getA (by simp; omega) hcs ?_
    refine VarJ.normA ?_
    repeat' (first
      | (with_reducible refine is_vj ?_; first | refine vj_go0 ?_ | refine vj_go1 ?_ | refine vj_go2 ?_ | (refine vj_end1 ?_; refine OpsJ.normA ?_) | (refine vj_end2 ?_; refine OpsJ.normA ?_) | (refine vj_end3 ?_; refine OpsJ.normA ?_))
      | (with_reducible refine is_vk ?_; refine vk0 rfl ?_ ?_)
      | (with_reducible refine is_av ?_; first | exact allv_nil | refine allv_cons ?_ ?_)
      | (with_reducible refine is_vq ?_; first | refine vq1 rfl rfl ?_ | refine vq2 rfl rfl ?_)
      | (with_reducible refine is_vp ?_; exact vp_end)
      | ((fail_if_success (first | refine is_ucall ?_ | refine is_umcall ?_)); first | refine W1 ?_ | refine Wc ?_ | refine W2c ?_ ?_ | refine Wg ?_ | refine W2 ?_ ?_ | exact Wdead | refine Wlive (fun hb => ?_) | intro _ _ _ _ _ _ _ _ | refine We ?_ | refine Wx ?_ | refine Wt ?_ | refine Wm ?_ | refine W2m ?_ ?_ | refine Wl ?_)
      | fail)
    rw [hix2]
    exact ⟨(), hlt, (by repeat' (first | exact Weak.nil | refine Weak.wild ?_ | refine Weak.same ?_ | refine Weak.intEq (by first | omega | (simp; done) | (push_cast; omega)) ?_)), rfl, rfl⟩
  · obtain rfl : j = hrs m := by omega
    have hkk : (m.last + 1).toNat = hrs m := rfl
    rw [hkk]
    repeat' (first
      | ((fail_if_success (first | refine is_ucall ?_ | refine is_umcall ?_)); first | refine W1 ?_ | refine Wc ?_ | refine W2c ?_ ?_ | refine Wg ?_ | refine W2 ?_ ?_ | exact Wdead | refine Wlive (fun hb => ?_) | intro _ _ _ _ _ _ _ _ | refine We ?_ | refine Wx ?_ | refine Wt ?_ | refine Wm ?_ | refine W2m ?_ ?_ | refine Wl ?_)
      | fail)
    exact Tidy.two (i := H.length + 1) (cells := encE (coalJ s (hrs m) n (hrs m))) (es := 1) (v0 := .slice (some ⟨H.length, 0, none⟩) (hrs m) (hrs m)) extA getA (by omega) (encE_flat _) (.slice (j := 0) rfl) ⟨rfl, rfl, rfl⟩
end
end Go.Proofs.Ytjbiidlmpaibkaa
