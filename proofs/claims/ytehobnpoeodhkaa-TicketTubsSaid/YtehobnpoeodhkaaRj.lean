import Derived.Test.YtehobnpoeodhkaaRb
import Derived.Test.YtehobnpoeodhkaaRf
import Derived.Test.YtehobnpoeodhkaaRg
namespace Go.Proofs.Ytehobnpoeodhkaa
open Go Go.Abs Go.Proofs
set_option maxHeartbeats 800000
attribute [local irreducible] CallJ OpsJ WPJ CallV MonoJ SpecJ

theorem clash_two {m : HouseM} {a b : Nat} (h : truthsL m ≠ []) (htt : (m.tickets[a]?.getD (0, 0)).1 ≠ (m.tickets[b]?.getD (0, 0)).1) : verdictS (truthsL m) (clashQ m a b) = 2 := by
  refine (verdict_two h).2 fun es _ => ?_
  unfold clashQ clashP
  rw [Int.toNat_natCast, Int.toNat_natCast, if_pos (.inr (.inr htt))]
theorem clash_sym (m : HouseM) (a b : Int) : verdictS (truthsL m) (clashQ m a b) = verdictS (truthsL m) (clashQ m b a) := by
  have : clashQ m a b = clashQ m b a := by
    funext es
    unfold clashQ
    exact clashP_comm _ _ _ _
  rw [this]
def tubStep (m : HouseM) (l : List Int) (tub n : Int) (c : ClipM) : Int := if (m.tickets[c.ticket.toNat]?.getD (0, 0)).1 = tub then max n (trueM l c) else n
def tubF (m : HouseM) (l : List Int) (tub : Int) (k : Nat) : Int := (m.clips.take k).foldl (tubStep m l tub) 0
theorem tubF_step {m : HouseM} {l : List Int} {tub : Int} {k : Nat} (h : k < m.clips.length) : tubF m l tub (k + 1) = tubStep m l tub (tubF m l tub k) m.clips[k] := by
  unfold tubF
  rw [List.take_succ_eq_append_getElem h, List.foldl_append]
  rfl
theorem tub_le {m : HouseM} {l : List Int} {tub B : Int} : ∀ (cs : List ClipM) (n : Int), n ≤ B → (∀ c ∈ cs, (m.tickets[c.ticket.toNat]?.getD (0, 0)).1 = tub → trueM l c ≤ B) → cs.foldl (tubStep m l tub) n ≤ B
  | [], _, hn, _ => hn
  | c :: cs, n, hn, h => by
    rw [List.foldl_cons]
    refine tub_le cs _ ?_ fun x hx => h x (by simp [hx])
    unfold tubStep
    split
    · have := h c (by simp) (by assumption); omega
    · exact hn
theorem tub_ge {m : HouseM} {l : List Int} {tub : Int} : ∀ (cs : List ClipM) (n : Int), n ≤ cs.foldl (tubStep m l tub) n ∧ ∀ c ∈ cs, (m.tickets[c.ticket.toNat]?.getD (0, 0)).1 = tub → trueM l c ≤ cs.foldl (tubStep m l tub) n
  | [], n => ⟨Int.le_refl _, by simp⟩
  | c :: cs, n => by
    obtain ⟨h1, h2⟩ := tub_ge (m := m) (l := l) (tub := tub) cs (tubStep m l tub n c)
    have h3 : n ≤ tubStep m l tub n c := by unfold tubStep; split <;> omega
    rw [List.foldl_cons]
    refine ⟨by omega, fun x hx e => ?_⟩
    rcases List.mem_cons.1 hx with rfl | hx
    · have h4 : trueM l x ≤ tubStep m l tub n x := by unfold tubStep; rw [if_pos e]; omega
      omega
    · exact h2 x hx e
theorem from_ge {m : HouseM} {l : List Int} {tub : Int} {a : Nat} {x y : ClipM} (htt : (m.tickets[a]?.getD (0, 0)).1 = tub) (hc : clipsT m a = [x, y]) : ∀ k, a < k → trueM l y ≤ fromR m l tub k
  | 0, h => absurd h (Nat.not_lt_zero _)
  | k + 1, h => by
    rw [fromR_step]
    by_cases e : a = k
    · subst e
      unfold fromStep
      rw [if_pos htt, hc]
      show _ ≤ max _ _
      omega
    · have ih := from_ge (l := l) htt hc k (by omega)
      unfold fromStep
      split
      · split <;> omega
      · exact ih
theorem from_le {m : HouseM} {l : List Int} {tub B : Int} (hB : 0 ≤ B) : ∀ (k : Nat), (∀ (a : Nat) (x y : ClipM), a < k → (m.tickets[a]?.getD (0, 0)).1 = tub → (∃ zs, clipsT m a = x :: y :: zs) → trueM l y ≤ B) → fromR m l tub k ≤ B
  | 0, _ => hB
  | k + 1, h => by
    have ih := from_le (m := m) (l := l) hB k fun a x y ha => h a x y (by omega)
    rw [fromR_step]
    unfold fromStep
    split
    · rename_i e
      split
      · rename_i x y zs e2
        have := h k x y (by omega) e ⟨zs, e2⟩
        omega
      · exact ih
    · exact ih
theorem tub_from {m : HouseM} {l : List Int} (hG : Good m) (hR : riseS m l = true) {tub : Int} (hu : isInUseS m tub m.tickets.length = false) : tubF m l tub m.clips.length = fromR m l tub m.tickets.length := by
  have hr := (rise_iff m l).1 hR
  have hf0 : 0 ≤ fromR m l tub m.tickets.length := by
    have : ∀ k, 0 ≤ fromR m l tub k := fun k => by
      induction k with
      | zero => simp [fromR]
      | succ k ih =>
        rw [fromR_step]
        unfold fromStep
        split
        · split <;> omega
        · exact ih
    exact this _
  have hg := tub_ge (m := m) (l := l) (tub := tub) m.clips 0
  have h1 : tubF m l tub m.clips.length = m.clips.foldl (tubStep m l tub) 0 := by unfold tubF; rw [List.take_length]
  rw [h1]
  refine Int.le_antisymm (tub_le _ _ hf0 fun c hc htt => ?_) (from_le hg.1 _ fun a x y ha htt hzs => ?_)
  · have h2 := hG.clip c hc
    have hnn : c.ticket.toNat < m.tickets.length := by omega
    have hcc : ((c.ticket.toNat : Nat) : Int) = c.ticket := by omega
    have hmem : c ∈ clipsT m (c.ticket.toNat : Nat) := by rw [hcc]; exact List.mem_filter.2 ⟨hc, by simp⟩
    have hsub : (clipsT m (c.ticket.toNat : Nat)).Pairwise (fun a b => trueM l a ≤ trueM l b) := hr.sublist (List.filter_sublist)
    rcases of_cases hG ((c.ticket.toNat : Nat) : Int) with ⟨_, e⟩ | ⟨_, a, e0, e, _⟩ | ⟨_, _, a, b, _, e, _, _⟩
    · rw [e] at hmem; cases hmem
    · exfalso
      have hcnt := ofS_count m ((c.ticket.toNat : Nat) : Int)
      rw [e0] at hcnt
      have := inUse_true (tub := tub) hnn (by
        rw [Bool.and_eq_true, decide_eq_true_eq, decide_eq_true_eq]
        refine ⟨?_, hcnt.symm⟩
        rw [List.getD_eq_getElem?_getD]
        exact htt)
      rw [hu] at this
      cases this
    · have h3 := from_ge (l := l) htt e m.tickets.length hnn
      rw [e] at hmem hsub
      have h4 : trueM l a ≤ trueM l b := by simpa using hsub
      simp at hmem
      rcases hmem with rfl | rfl
      · omega
      · exact h3
  · obtain ⟨zs, e⟩ := hzs
    have hy : y ∈ clipsT m a := by rw [e]; simp
    obtain ⟨h2, h3⟩ := List.mem_filter.1 hy
    simp only [beq_iff_eq] at h3
    exact hg.2 y h2 (by rw [h3, Int.toNat_natCast]; exact htt)
section
variable {γ : Type} (E : Env γ) (g : γ) (H : AHeap)
theorem ClashX (m : HouseM) (s1 s2 s3 : Value) (t u z p : Int) (hz : clashE m t u = z) (hp : (if z = 0 then verdictS (truthsL m) (clashQ m t u) else 0) = p) (hm : HouseIs H m s1 s2 s3) : CallJ Try.prog E 44 [hv m s1 s2 s3, .int .i64 t, .int .i64 u] (fun v H' g' => v = .tuple #[.int .i64 p, .int .i64 z] ∧ H' = H ∧ g' = g) H g :=
  (Clash_spec E g H m s1 s2 s3 t u hm).mono (by rintro v H' g' ⟨rfl, rfl, rfl⟩; rw [hz, hp]; exact ⟨rfl, rfl, rfl⟩)
theorem FreeX (m : HouseM) (s1 s2 s3 : Value) (t z : Int) (r : Int × Int) (hz : freeE m t = z) (hr : (if z = 0 then (loS (truthsL m) (freeQ m t), hiS (truthsL m) (freeQ m t)) else (0, 0)) = r) (hm : HouseIs H m s1 s2 s3) : CallJ Try.prog E 47 [hv m s1 s2 s3, .int .i64 t] (fun v H' g' => v = .tuple #[.agg ⟨encR r⟩, .int .i64 z] ∧ H' = H ∧ g' = g) H g :=
  (Free_spec E g H m s1 s2 s3 t hm).mono (by rintro v H' g' ⟨rfl, rfl, rfl⟩; rw [hz, ← hr]; refine ⟨?_, rfl, rfl⟩; split <;> rfl)
theorem IsOpenX (m : HouseM) (s1 s2 s3 : Value) (tub : Int) (b : Bool) (hb : isInUseS m tub m.tickets.length = b) (hm : HouseIs H m s1 s2 s3) (hG : Good m) : CallJ Try.prog E 48 [hv m s1 s2 s3, .int .i64 tub] (fun v H' g' => v = .bool b ∧ H' = H ∧ g' = g) H g := by
  rw [← hb]; exact IsOpen_spec E g H m s1 s2 s3 tub hm hG
theorem PlayR (m : HouseM) (s1 s2 s3 lv : Value) (l : List Int) (hS : checkS m = 0) (hE : isE m l = true) (hm : HouseIs H m s1 s2 s3) (hr : RdS H lv 1 (encI l)) (hn : l.length ≤ 1000000) : CallJ Try.prog E 25 [hv m s1 s2 s3, lv] (fun v H' g' => (∃ sv, v = .tuple #[sv, .int .i64 0] ∧ RdS H' sv 1 (encI (m.clips.map (trueM l))) ∧ Ext H H') ∧ g' = g) H g :=
  (Play_spec E g H m s1 s2 s3 lv l hm hr hn).mono (by
    rintro v H' g' ⟨h, rfl⟩
    have h0 : playE m l = 0 := by unfold playE; rw [if_pos hS, if_pos hE]
    rw [if_pos h0] at h
    obtain ⟨rfl, rfl⟩ := h
    have hG := good_of hS
    have e : playS m l = m.clips.map (trueM l) := by
      unfold playS
      exact List.map_congr_left fun c hc => trueM_errs hG hE hc
    rw [e]
    refine ⟨⟨_, rfl, ?_, ⟨_, rfl⟩⟩, rfl⟩
    have := rd_enc (cap := m.clips.length) (H := H ++ [.row (encE (m.clips.map (trueM l))) 1 true]) (own := true) (l := m.clips.map (trueM l)) List.getElem?_concat_length (List.take_of_length_le (by simp [encE]))
    simpa using this)
end
end Go.Proofs.Ytehobnpoeodhkaa
