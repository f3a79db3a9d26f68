import Derived.Test.YtehobnpoeodhkaaTx
namespace Go.Proofs.Ytehobnpoeodhkaa
open Go Go.Abs Go.Proofs
set_option maxHeartbeats 1600000
attribute [local irreducible] CallJ OpsJ WPJ CallV MonoJ SpecJ

theorem rangesTY {H H' : AHeap} {e : Int} {l : List (Int × Int)} {v : Value} (h : RangesW H e l v H') (he : e = 0) : ∃ sv, v = .tuple #[sv, .int .i64 0] ∧ RdS H' sv 2 (l.map encR) := by
  obtain ⟨_, ⟨_, i, c, own, rfl, h2⟩ | ⟨h1, _⟩⟩ := h
  · exact ⟨_, rfl, rowY (enc := encR) (w := 2) (fun _ => rfl) h2⟩
  · exact absurd he h1
theorem rangesNY {H H' : AHeap} {e : Int} {l : List (Int × Int)} {v : Value} (h : RangesW H e l v H') (he : e ≠ 0) : v = .tuple #[.slice none 0 0, .int .i64 e] := by
  obtain ⟨_, ⟨h1, _⟩ | ⟨_, h1⟩⟩ := h
  · exact absurd h1 he
  · exact h1
theorem intsTY {H H' : AHeap} {e : Int} {l : List Int} {v : Value} (h : IntsW H e l v H') (he : e = 0) : ∃ sv, v = .tuple #[sv, .int .i64 0] ∧ RdS H' sv 1 (encI l) := by
  obtain ⟨_, ⟨_, i, c, own, rfl, h2⟩ | ⟨h1, _⟩⟩ := h
  · rw [← enc1_flat] at h2
    exact ⟨_, rfl, rowY (enc := enc1) (w := 1) (fun _ => rfl) h2⟩
  · exact absurd he h1
theorem intsNY {H H' : AHeap} {e : Int} {l : List Int} {v : Value} (h : IntsW H e l v H') (he : e ≠ 0) : v = .tuple #[.slice none 0 0, .int .i64 e] := by
  obtain ⟨_, ⟨h1, _⟩ | ⟨_, h1⟩⟩ := h
  · exact absurd h1 he
  · exact h1
theorem rd_encY {H : AHeap} {i cap : Nat} {cs : List Value} {own : Bool} {l : List Int} (hi : H[i]? = some (.row cs 1 own)) (ht : cs.take l.length = encE l) : RdS H (.slice (some ⟨i, 0, none⟩) l.length cap) 1 (encI l) := by
  have h1 : (encE l).length = l.length := by simp [encE]
  have h2 : l.length ≤ cs.length := by have := congrArg List.length ht; rw [List.length_take, h1] at this; omega
  refine ⟨fun x hx => by obtain ⟨a, _, rfl⟩ := List.mem_map.1 hx; rfl, .inl ⟨i, 0, cap, cs, 1, own, by simp, hi, by simp; omega, ?_⟩⟩
  rw [List.drop_zero, encI_eq, enc1_flat]
  simpa using ht
section
variable {γ : Type} (E : Env γ) (g : γ) (H : AHeap)
theorem ClocksRY (m : HouseM) (s1 s2 s3 : Value) (hT : checkT m = 0) (hm : HouseIs H m s1 s2 s3) : CallJ Try.prog E 34 [hv m s1 s2 s3] (fun v H' g' => (∃ sv, v = .tuple #[sv, .int .i64 0] ∧ RdS H' sv 2 ((clocksS m).map encR) ∧ Ext H H') ∧ g' = g) H g :=
  (ClocksW_spec E g H m s1 s2 s3 hm).mono (by rintro v H' g' ⟨h, rfl⟩; obtain ⟨sv, h1, h2⟩ := rangesTY h hT; exact ⟨⟨sv, h1, h2, h.1⟩, rfl⟩)
theorem ClocksEY (m : HouseM) (s1 s2 s3 : Value) (e : Int) (he : checkT m = e) (h0 : e ≠ 0) (hm : HouseIs H m s1 s2 s3) : CallJ Try.prog E 34 [hv m s1 s2 s3] (fun v H' g' => (v = .tuple #[.slice none 0 0, .int .i64 e] ∧ Ext H H') ∧ g' = g) H g :=
  (ClocksW_spec E g H m s1 s2 s3 hm).mono (by rintro v H' g' ⟨h, rfl⟩; rw [he] at h; exact ⟨⟨rangesNY h h0, h.1⟩, rfl⟩)
theorem HoursRY (m : HouseM) (s1 s2 s3 : Value) (hT : checkT m = 0) (hm : HouseIs H m s1 s2 s3) : CallJ Try.prog E 35 [hv m s1 s2 s3] (fun v H' g' => (∃ sv, v = .tuple #[sv, .int .i64 0] ∧ RdS H' sv 2 ((hrsS m).map encR) ∧ Ext H H') ∧ g' = g) H g :=
  (HoursW_spec E g H m s1 s2 s3 hm).mono (by rintro v H' g' ⟨h, rfl⟩; obtain ⟨sv, h1, h2⟩ := rangesTY h hT; exact ⟨⟨sv, h1, h2, h.1⟩, rfl⟩)
theorem HoursEY (m : HouseM) (s1 s2 s3 : Value) (e : Int) (he : checkT m = e) (h0 : e ≠ 0) (hm : HouseIs H m s1 s2 s3) : CallJ Try.prog E 35 [hv m s1 s2 s3] (fun v H' g' => (v = .tuple #[.slice none 0 0, .int .i64 e] ∧ Ext H H') ∧ g' = g) H g :=
  (HoursW_spec E g H m s1 s2 s3 hm).mono (by rintro v H' g' ⟨h, rfl⟩; rw [he] at h; exact ⟨⟨rangesNY h h0, h.1⟩, rfl⟩)
theorem LongRY (m : HouseM) (s1 s2 s3 : Value) (hT : checkT m = 0) (hm : HouseIs H m s1 s2 s3) : CallJ Try.prog E 40 [hv m s1 s2 s3] (fun v H' g' => (∃ sv, v = .tuple #[sv, .int .i64 0] ∧ RdS H' sv 1 (encI (longS m)) ∧ Ext H H') ∧ g' = g) H g :=
  (LongW_spec E g H m s1 s2 s3 hm).mono (by rintro v H' g' ⟨h, rfl⟩; obtain ⟨sv, h1, h2⟩ := intsTY h hT; exact ⟨⟨sv, h1, h2, h.1⟩, rfl⟩)
theorem LongEY (m : HouseM) (s1 s2 s3 : Value) (e : Int) (he : checkT m = e) (h0 : e ≠ 0) (hm : HouseIs H m s1 s2 s3) : CallJ Try.prog E 40 [hv m s1 s2 s3] (fun v H' g' => (v = .tuple #[.slice none 0 0, .int .i64 e] ∧ Ext H H') ∧ g' = g) H g :=
  (LongW_spec E g H m s1 s2 s3 hm).mono (by rintro v H' g' ⟨h, rfl⟩; rw [he] at h; exact ⟨⟨intsNY h h0, h.1⟩, rfl⟩)
theorem PaidPY (m : HouseM) (s1 s2 s3 : Value) (p : Int) (hT : checkT m = 0) (hp : paidV m = p) (hm : HouseIs H m s1 s2 s3) : CallJ Try.prog E 41 [hv m s1 s2 s3] (fun v H' g' => v = .tuple #[.int .i64 p, .int .i64 0] ∧ H' = H ∧ g' = g) H g := by
  rw [← hp]; exact PaidT_spec E g H m s1 s2 s3 hT hm
theorem PaidEY (m : HouseM) (s1 s2 s3 : Value) (e : Int) (he : checkT m = e) (h0 : e ≠ 0) (hm : HouseIs H m s1 s2 s3) : CallJ Try.prog E 41 [hv m s1 s2 s3] (fun v H' g' => v = .tuple #[.int .i64 0, .int .i64 e] ∧ H' = H ∧ g' = g) H g :=
  (Paid_spec E g H m s1 s2 s3 hm).mono (by rintro v H' g' ⟨rfl, rfl, rfl⟩; rw [if_neg (by omega), he]; exact ⟨rfl, rfl, rfl⟩)
theorem LeaveY (m : HouseM) (s1 s2 s3 : Value) (hS : checkS m = 0) (hm : HouseIs H m s1 s2 s3) : CallJ Try.prog E 53 [hv m s1 s2 s3] (fun v H' g' => (∃ sv, v = .tuple #[sv, .int .i64 0] ∧ RdS H' sv 1 (encI (leaveS m)) ∧ Ext H H') ∧ g' = g) H g :=
  (Leave_spec E g H m s1 s2 s3 hm).mono (by
    rintro v H' g' ⟨h, rfl⟩
    unfold LeaveA at h
    rw [if_pos hS] at h
    rcases h with ⟨h0, rfl, rfl⟩ | ⟨cs, cap, rfl, rfl, ht, _⟩
    · exact ⟨⟨_, rfl, by rw [h0]; exact ⟨by simp, .inr ⟨rfl, .inl rfl⟩⟩, Ext.refl _⟩, rfl⟩
    · exact ⟨⟨_, rfl, rd_encY List.getElem?_concat_length ht, ⟨_, rfl⟩⟩, rfl⟩)
theorem LookY (m : HouseM) (s1 s2 s3 : Value) (z k n : Int) (hz : lookE m = z) (hk : (if z = 0 then (indexS (leavesS m) (lookV m), lookV m) else (0, 0)) = (k, n)) (hm : HouseIs H m s1 s2 s3) : CallJ Try.prog E 50 [hv m s1 s2 s3] (fun v H' g' => v = .tuple #[.int .i64 k, .int .i64 n, .int .i64 z] ∧ H' = H ∧ g' = g) H g :=
  (Look_spec E g H m s1 s2 s3 hm).mono (by
    rintro v H' g' ⟨rfl, rfl, rfl⟩
    refine ⟨?_, rfl, rfl⟩
    rw [hz]
    by_cases h : z = 0
    · rw [if_pos h] at hk ⊢
      cases hk
      rw [h]
    · rw [if_neg h] at hk ⊢
      cases hk
      rfl)
end
end Go.Proofs.Ytehobnpoeodhkaa
