import Derived.Test.YtjbiidlmpaibkaaIvp
import Derived.Test.YtjbiidlmpaibkaaIop
namespace Go.Proofs.Ytjbiidlmpaibkaa
open Go Go.Abs Go.Proofs
set_option maxHeartbeats 8000000
set_option maxRecDepth 20000
attribute [local irreducible] CallJ OpsJ WPJ CallV MonoJ SpecJ
theorem hotQ_bd {m : CopM} (hG : Good m) {t : TM} (ht : t ∈ truthsL m) (j : Nat) : 0 ≤ hotQ m t j ∧ hotQ m t j ≤ 999 := hot_bd hG.w (hG.valid.tok t (List.mem_filter.1 ht).1) j
theorem leftQ_bd {m : CopM} (hG : Good m) {t : TM} (ht : t ∈ truthsL m) (j : Nat) : 0 ≤ leftQ m t j ∧ leftQ m t j ≤ 999 := by
  have h1 := lefts_bd hG.w (hG.valid.tok t (List.mem_filter.1 ht).1) (j + 1)
  have h2 := hG.w.most
  show 0 ≤ leftsS m t.1 t.2 (j + 1) ∧ leftsS m t.1 t.2 (j + 1) ≤ 999
  omega
theorem some_truth {m : CopM} (hs : hasS m = true) : ∃ t, t ∈ truthsL m := by
  unfold hasS at hs
  cases hl : truthsL m with
  | nil => rw [hl] at hs; cases hs
  | cons t l => exact ⟨t, by simp⟩
theorem rd_pairs {H : AHeap} {i n : Nat} {own : Bool} {l : List (Int × Int)} (hi : H[i]? = some (.row (l.map encR).flatten 2 own)) (hl : l.length = n) : RdS H (.slice (some ⟨i, 0, none⟩) n n) 2 (l.map encR) := by
  subst hl
  have hf : (l.map encR).flatten.length = l.length * 2 := by
    rw [flatten_len2 (fun x hx => by obtain ⟨a, _, rfl⟩ := List.mem_map.1 hx; rfl), List.length_map]
  refine ⟨fun x hx => by obtain ⟨a, _, rfl⟩ := List.mem_map.1 hx; rfl, .inl ⟨i, 0, l.length, _, 2, own, by rw [List.length_map], hi, ?_, ?_⟩⟩
  · rw [hf, List.length_map]; omega
  · rw [List.length_map, List.drop_zero]; exact List.take_of_length_le (by omega)
theorem hotB_len (m : CopM) : (hotB m).length = hrs m := by simp [hotB]
theorem leftB_len (m : CopM) : (leftB m).length = hrs m := by simp [leftB]
theorem hotB_at {m : CopM} {k : Nat} (hk : k < hrs m) : ((hotB m).map encR)[(k : Int).toNat]? = some (encR (bdS m (hotQ m) k)) := by simp [hotB, hk]
theorem leftB_at {m : CopM} {k : Nat} (hk : k < hrs m) : ((leftB m).map encR)[(k : Int).toNat]? = some (encR (bdS m (leftQ m) k)) := by simp [leftB, hk]
section
variable {γ : Type} (E : Env γ) (g : γ) (H : AHeap)
theorem BoundsQ_spec (m : CopM) (s1 s2 s3 s4 : Value) (hS : checkT m = 0) (hm : CopIs H m s1 s2 s3 s4) : CallJ Try.prog E 31 [cv m s1 s2 s3 s4] (fun v H' g' => (∃ av bv, v = .tuple #[av, bv, .int .i64 0] ∧ RdS H' av 2 ((hotB m).map encR) ∧ RdS H' bv 2 ((leftB m).map encR) ∧ Ext H H') ∧ g' = g) H g :=
  (Bounds_spec E g H m s1 s2 s3 s4 hm).mono (by
    rintro v H' g' ⟨h, rfl⟩
    rw [if_pos hS] at h
    obtain ⟨rfl, rfl⟩ := h
    refine ⟨⟨_, _, rfl, rd_pairs (own := true) ?_ (hotB_len m), rd_pairs (own := true) ?_ (leftB_len m), ⟨_, rfl⟩⟩, rfl⟩
    · simp
    · simp)
theorem BoundsN_spec (m : CopM) (s1 s2 s3 s4 : Value) (hS : ¬ checkT m = 0) (hm : CopIs H m s1 s2 s3 s4) : CallJ Try.prog E 31 [cv m s1 s2 s3 s4] (fun v H' g' => v = .tuple #[.slice none 0 0, .slice none 0 0, .int .i64 (checkT m)] ∧ H' = H ∧ g' = g) H g :=
  (Bounds_spec E g H m s1 s2 s3 s4 hm).mono (by
    rintro v H' g' ⟨h, rfl⟩
    rw [if_neg hS] at h
    exact ⟨h.1, h.2, rfl⟩)
end
end Go.Proofs.Ytjbiidlmpaibkaa
