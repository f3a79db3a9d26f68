import Derived.Test.YtehobnpoeodhkaaR4
namespace Go.Proofs.Ytehobnpoeodhkaa
open Go Go.Abs Go.Proofs
set_option maxHeartbeats 1600000
attribute [local irreducible] CallJ OpsJ WPJ CallV MonoJ SpecJ

section
variable {γ : Type} (E : Env γ) (g : γ) (H : AHeap)
/-- the truths, or the error -/
theorem sureX (m : HouseM) (s1 s2 s3 : Value) (e : Int) (he : checkT m = e) (hm : HouseIs H m s1 s2 s3) : CallJ Try.prog E 36 [hv m s1 s2 s3] (fun v H' g' => (∃ lv, v = .tuple #[lv, .int .i64 e] ∧ (e = 0 → LL H' lv (refL m)) ∧ (e ≠ 0 → lv = .slice none 0 0) ∧ Ext H H') ∧ g' = g) H g := by
  by_cases h : e = 0
  · subst h
    exact (sureT E g H m s1 s2 s3 he hm).mono (by rintro v H' g' ⟨⟨lv, h1, h2, h3⟩, rfl⟩; exact ⟨⟨lv, h1, fun _ => h2, fun h => absurd rfl h, h3⟩, rfl⟩)
  · exact (sureN E g H m s1 s2 s3 e he h hm).mono (by rintro v H' g' ⟨⟨h1, h2⟩, rfl⟩; exact ⟨⟨_, h1, fun h' => absurd h' h, fun _ => rfl, h2⟩, rfl⟩)
theorem InX (n lo hi : Int) (b : Bool) (hb : (decide (lo ≤ n) && decide (n ≤ hi)) = b) : CallJ Try.prog E 45 [.int .i64 n, .int .i64 lo, .int .i64 hi] (fun v H' g' => v = .bool b ∧ H' = H ∧ g' = g) H g := by
  rw [← hb]; exact In_spec E g H n lo hi
end
end Go.Proofs.Ytehobnpoeodhkaa
