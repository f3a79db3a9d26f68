import Derived.Test.YtehobnpoeodhkaaUy
import Derived.Test.YtehobnpoeodhkaaTy
namespace Go.Proofs.Ytehobnpoeodhkaa
open Go Go.Abs Go.Proofs
set_option maxHeartbeats 1600000
attribute [local irreducible] CallJ OpsJ WPJ CallV MonoJ SpecJ

/-! ### The document's examples -/
def two5 : HouseM := twoM 5 []
def two0 : HouseM := twoM 0 []
def badM : HouseM := twoM 5 [⟨2, 0, 360⟩]
theorem a_T5 : checkT two5 = 0 := by kernel_rfl
theorem a_T0 : checkT two0 = 0 := by kernel_rfl
theorem a_Tt : checkT turnedM = 0 := by kernel_rfl
theorem a_Tb : checkT badM = 11 := by kernel_rfl
theorem a_S5 : checkS two5 = 0 := by kernel_rfl
theorem a_c : clocksS two5 = [(0, 0), (1, 5)] := by kernel_rfl
theorem a_r : hrsS two5 = [(1, 1), (2, 2), (0, 0)] := by kernel_rfl
theorem a_v : longS two5 = [2, 2, 2] := by kernel_rfl
theorem a_u : clashE two5 1 0 = 0 := by kernel_rfl
theorem a_u2 : verdictS (truthsL two5) (clashQ two5 1 0) = 2 := by kernel_rfl
theorem a_p : paidV two5 = 1 := by kernel_rfl
theorem a_f : freeE two5 1 = 0 := by kernel_rfl
theorem a_f1 : loS (truthsL two5) (freeQ two5 1) = 0 := by kernel_rfl
theorem a_f2 : hiS (truthsL two5) (freeQ two5 1) = 0 := by kernel_rfl
theorem a_s : hrsS two0 = [(2, 2), (2, 3), (0, 0)] := by kernel_rfl
theorem a_q : paidV two0 = 2 := by kernel_rfl
theorem a_o : paidV turnedM = 3 := by kernel_rfl
theorem a_l : leaveS two5 = [] := by kernel_rfl
theorem a_b1 : clashE badM 0 3 = 2 := by kernel_rfl
theorem a_b2 : clashE badM 1 1 = 6 := by kernel_rfl
theorem a_b3 : clashE badM 0 1 = 11 := by kernel_rfl
theorem a_b4 : freeE badM 9 = 2 := by kernel_rfl
theorem a_b5 : freeE badM 1 = 8 := by kernel_rfl
theorem a_b6 : freeE badM 0 = 11 := by kernel_rfl
theorem a_b7 : lookE badM = 11 := by kernel_rfl
theorem a_b8 : lookE ⟨60, 0, [], [], []⟩ = 7 := by kernel_rfl
theorem a_b9 : firstE two5 = 7 := by kernel_rfl
theorem a_b10 : firstV two5 = 0 := by kernel_rfl
theorem a_g1 : playE two5 [0, 6] = 2 := by kernel_rfl
theorem a_p1 : proveS two5 [0, 1] = true := by kernel_rfl
theorem a_p2 : proveS two5 [0, 0] = false := by kernel_rfl
theorem a_p3 : proveS two5 [0] = false := by kernel_rfl
theorem a_p4 : proveS badM [0, 1] = false := by kernel_rfl
section
variable {γ : Type} (E : Env γ) (g : γ) (H : AHeap)
theorem ClashP (m : HouseM) (s1 s2 s3 : Value) (t u e p : Int) (he : clashE m t u = e) (hp : (if e = 0 then verdictS (truthsL m) (clashQ m t u) else 0) = p) (hm : HouseIs H m s1 s2 s3) : CallJ Try.prog E 44 [hv m s1 s2 s3, .int .i64 t, .int .i64 u] (fun v H' g' => v = .tuple #[.int .i64 p, .int .i64 e] ∧ H' = H ∧ g' = g) H g := by
  subst he; rw [← hp]; exact Clash_spec E g H m s1 s2 s3 t u hm
theorem FreeP (m : HouseM) (s1 s2 s3 : Value) (t e a b : Int) (he : freeE m t = e) (ha : (if e = 0 then loS (truthsL m) (freeQ m t) else 0) = a) (hb : (if e = 0 then hiS (truthsL m) (freeQ m t) else 0) = b) (hm : HouseIs H m s1 s2 s3) : CallJ Try.prog E 47 [hv m s1 s2 s3, .int .i64 t] (fun v H' g' => v = .tuple #[.agg ⟨[.int .i64 a, .int .i64 b]⟩, .int .i64 e] ∧ H' = H ∧ g' = g) H g :=
  (Free_spec E g H m s1 s2 s3 t hm).mono (by
    rintro v H' g' ⟨rfl, rfl, rfl⟩
    refine ⟨?_, rfl, rfl⟩
    subst he
    by_cases h : freeE m t = 0
    · rw [if_pos h] at ha hb ⊢; rw [ha, hb]
    · rw [if_neg h] at ha hb ⊢; rw [← ha, ← hb])
theorem FirstP (m : HouseM) (s1 s2 s3 : Value) (a e : Int) (ha : firstV m = a) (he : firstE m = e) (hm : HouseIs H m s1 s2 s3) : CallJ Try.prog E 52 [hv m s1 s2 s3] (fun v H' g' => v = .tuple #[.int .i64 a, .int .i64 e] ∧ H' = H ∧ g' = g) H g := by
  rw [← ha, ← he]; exact First_spec E g H m s1 s2 s3 hm
theorem PlayN (m : HouseM) (s1 s2 s3 lv : Value) (l : List Int) (e : Int) (he : playE m l = e) (h0 : e ≠ 0) (hm : HouseIs H m s1 s2 s3) (hr : RdS H lv 1 (encI l)) (hn : l.length ≤ 1000000) : CallJ Try.prog E 25 [hv m s1 s2 s3, lv] (fun v H' g' => v = .tuple #[.slice none 0 0, .int .i64 e] ∧ H' = H ∧ g' = g) H g :=
  (Play_spec E g H m s1 s2 s3 lv l hm hr hn).mono (by rintro v H' g' ⟨h, rfl⟩; rw [he, if_neg h0] at h; exact ⟨h.1, h.2, rfl⟩)
theorem ProveP (m : HouseM) (s1 s2 s3 lv : Value) (l : List Int) (b : Bool) (hb : proveS m l = b) (hm : HouseIs H m s1 s2 s3) (hr : RdS H lv 1 (encI l)) (hn : l.length ≤ 1000000) : CallJ Try.prog E 28 [hv m s1 s2 s3, lv] (fun v H' g' => v = .bool b ∧ H' = H ∧ g' = g) H g := by
  rw [← hb]; exact ProveTruth_spec E g H m s1 s2 s3 lv l hm hr hn
end
end Go.Proofs.Ytehobnpoeodhkaa
