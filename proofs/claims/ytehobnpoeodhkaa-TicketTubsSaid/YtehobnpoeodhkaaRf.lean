import Derived.Test.YtehobnpoeodhkaaRs
import Derived.Test.YtehobnpoeodhkaaR8
namespace Go.Proofs.Ytehobnpoeodhkaa
open Go Go.Abs Go.Proofs
set_option maxHeartbeats 1600000
attribute [local irreducible] CallJ OpsJ WPJ CallV MonoJ SpecJ

/-! ### What holds in a truth -/
theorem in_bounds {L : List Int} {x : Int} (h : x ∈ L) : (boundsR L).1 ≤ x ∧ x ≤ (boundsR L).2 := ⟨(fmin_le L _).2 x h, (fmax_le L _).2 x h⟩
theorem verdict_at {ls : List (List Int)} {p : List Int → Bool} {l : List Int} (hl : l ∈ ls) {v : Int} (hv : verdictR (yesR ls p) ls.length = v) : (v = 1 ∧ p l = true) ∨ (v = 2 ∧ p l = false) ∨ v = 3 := by
  subst hv
  unfold verdictR yesR
  split
  · rename_i h
    have : ls.countP p = ls.length := by omega
    exact .inl ⟨rfl, List.countP_eq_length.1 this l hl⟩
  · split
    · rename_i h
      have : ls.countP p = 0 := by omega
      exact .inr (.inl ⟨rfl, by simpa using List.countP_eq_zero.1 this l hl⟩)
    · exact .inr (.inr rfl)
theorem has_iff {m : HouseM} (hG : Good m) : hasS m = true ↔ ∃ l, isE m l = true ∧ riseS m l = true := by
  constructor
  · intro h
    cases h2 : refL m with
    | nil => rw [(ref_ne hG).1 h2] at h; cases h
    | cons a l => exact ⟨a, (mem_ref hG a).1 (by rw [h2]; simp)⟩
  · rintro ⟨l, h⟩
    have h1 := (mem_ref hG l).2 h
    cases h2 : hasS m with
    | true => rfl
    | false => rw [(ref_ne hG).2 h2] at h1; cases h1
theorem has_sub {m m2 : HouseM} (hG : Good m) (hG2 : Good m2) (hc : m2.clocks = m.clocks) (hs : m2.clips.Sublist m.clips) (h : hasS m = true) : hasS m2 = true := by
  obtain ⟨l, h1, h2⟩ := (has_iff hG).1 h
  refine (has_iff hG2).2 ⟨l, ?_, ?_⟩
  · unfold isE at h1 ⊢
    rw [hc]; exact h1
  · rw [rise_iff] at h2 ⊢
    exact h2.sublist hs
theorem first_all {m : HouseM} (hG : Good m) (h : hasS m = true) : firstA m = none := by
  unfold firstA
  refine firstS_none fun k _ => ?_
  rw [has_sub hG (upto_good hG (k + 1)) (m2 := upto m (k + 1)) rfl (List.take_sublist _ _) h]
  rfl
theorem without_nil (m : HouseM) : without m [] = m := by
  have h : ∀ j, j ≤ m.clips.length → keptN m.clips [] j = m.clips.take j := by
    intro j
    induction j with
    | zero => intro _; simp [keptN]
    | succ j ih =>
      intro hj
      rw [keptN_step (by omega), ih (by omega), if_neg (by simp), List.take_succ_eq_append_getElem (by omega)]
  unfold without
  rw [h _ (Nat.le_refl _), List.take_length]
theorem leave_nil {m : HouseM} (h : hasS m = true) : leaveS m = [] := by
  have h1 : smallS m = some [] := by
    unfold smallS upToN
    rw [Nat.add_comm, List.range_add]
    simp only [List.flatMap_append, List.find?_append]
    have : ((List.range 1).flatMap fun q => subs q 0 m.clips.length).find? (okWithout m) = some [] := by
      simp only [List.range_succ, List.range_zero, List.nil_append, List.flatMap_cons, List.flatMap_nil, List.append_nil, subs]
      rw [List.find?_cons_of_pos]
      unfold okWithout
      rw [without_nil]; exact h
    rw [this]
    rfl
  unfold leaveS
  rw [h1]; rfl
theorem subs_all : ∀ (q f : Nat), ((List.range' f q).map fun (k : Nat) => (k : Int)) ∈ subs q f (f + q)
  | 0, f => by simp [subs]
  | q + 1, f => by
    have ih := subs_all q (f + 1)
    unfold subs
    refine List.mem_flatMap.2 ⟨f, ?_, ?_⟩
    · rw [List.mem_range']
      exact ⟨0, by omega, by omega⟩
    · rw [List.range'_succ, List.map_cons]
      refine List.mem_map.2 ⟨_, ?_, rfl⟩
      rw [show f + (q + 1) = f + 1 + q by omega]
      exact ih
theorem kept_all (cs : List ClipM) : keptN cs ((List.range' 0 cs.length).map fun (k : Nat) => (k : Int)) cs.length = [] := by
  unfold keptN
  rw [List.filterMap_eq_nil_iff]
  intro k hk
  rw [if_pos]
  rw [List.contains_iff_mem]
  exact List.mem_map.2 ⟨k, by rw [← List.range_eq_range']; exact hk, rfl⟩
theorem leave_ne {m : HouseM} (hG : Good m) (h : hasS m = false) : leaveS m ≠ [] := by
  intro e
  unfold leaveS at e
  have h2 : smallS m ≠ none := by
    intro e2
    unfold smallS at e2
    rw [List.find?_eq_none] at e2
    have h3 := e2 ((List.range' 0 m.clips.length).map fun (k : Nat) => (k : Int)) (by
      unfold upToN
      exact List.mem_flatMap.2 ⟨m.clips.length, List.mem_range.2 (by omega), by have := subs_all m.clips.length 0; rwa [Nat.zero_add] at this⟩)
    apply h3
    unfold okWithout
    exact hasS_nil (without_good hG _) (kept_all m.clips)
  cases h3 : smallS m with
  | none => exact h2 h3
  | some s =>
    rw [h3] at e
    simp only [Option.getD_some] at e
    subst e
    unfold smallS at h3
    have := List.find?_some h3
    unfold okWithout at this
    rw [without_nil, h] at this
    cases this
section
variable {γ : Type} (E : Env γ) (g : γ) (H : AHeap)
theorem steady_true (v : Int) (b : Bool) (h : (v = 1 ∧ b = true) ∨ (v = 2 ∧ b = false) ∨ v = 3) : CallJ Try.prog E 63 [.int .i64 v, .bool b] (fun v H' g' => v = .bool true ∧ H' = H ∧ g' = g) H g := by
  refine CallJ.tidy ?_
  have hin : (decide (1 ≤ v) && decide (v ≤ 3)) = true := by simp; omega
  rcases h with ⟨rfl, rfl⟩ | ⟨rfl, rfl⟩ | rfl
  · skip
    refine CallJ.enter Try.func63 rfl (by simp only [Try.ntmps63, List.length_cons, List.length_nil, Nat.zero_add, Nat.reduceAdd, Nat.reduceSub, List.replicate_succ, List.replicate_zero, List.cons_append, List.nil_append]; rfl) ?_
    repeat' (first
      | (refine is_ucall ?_; first
        | refine st_callP (h := InX _ _ _ _ _ _ _ hin) (k := ?_)
        | fail)
      | (refine is_umcall ?_; first
        | refine mj_callP (h := InX _ _ _ _ _ _ _ hin) (k := ?_)
        | fail)
      | refine W1 ?_ | refine Wc ?_ | refine W2c ?_ ?_ | refine Wg ?_ | refine W2 ?_ ?_ | exact Wdead | refine Wlive (fun hb => ?_) | intro _ _ _ _ _ _ _ _ | refine We ?_ | refine Wx ?_ | refine Wt ?_ | refine Wm ?_ | refine W2m ?_ ?_ | refine Wl ?_
      | fail)
    exact ⟨rfl, rfl, rfl⟩
  · skip
    refine CallJ.enter Try.func63 rfl (by simp only [Try.ntmps63, List.length_cons, List.length_nil, Nat.zero_add, Nat.reduceAdd, Nat.reduceSub, List.replicate_succ, List.replicate_zero, List.cons_append, List.nil_append]; rfl) ?_
    repeat' (first
      | (refine is_ucall ?_; first
        | refine st_callP (h := InX _ _ _ _ _ _ _ hin) (k := ?_)
        | fail)
      | (refine is_umcall ?_; first
        | refine mj_callP (h := InX _ _ _ _ _ _ _ hin) (k := ?_)
        | fail)
      | refine W1 ?_ | refine Wc ?_ | refine W2c ?_ ?_ | refine Wg ?_ | refine W2 ?_ ?_ | exact Wdead | refine Wlive (fun hb => ?_) | intro _ _ _ _ _ _ _ _ | refine We ?_ | refine Wx ?_ | refine Wt ?_ | refine Wm ?_ | refine W2m ?_ ?_ | refine Wl ?_
      | fail)
    exact ⟨rfl, rfl, rfl⟩
  · cases b
    all_goals
      refine CallJ.enter Try.func63 rfl (by simp only [Try.ntmps63, List.length_cons, List.length_nil, Nat.zero_add, Nat.reduceAdd, Nat.reduceSub, List.replicate_succ, List.replicate_zero, List.cons_append, List.nil_append]; rfl) ?_
      repeat' (first
        | (refine is_ucall ?_; first
          | refine st_callP (h := InX _ _ _ _ _ _ _ hin) (k := ?_)
          | fail)
        | (refine is_umcall ?_; first
          | refine mj_callP (h := InX _ _ _ _ _ _ _ hin) (k := ?_)
          | fail)
        | refine W1 ?_ | refine Wc ?_ | refine W2c ?_ ?_ | refine Wg ?_ | refine W2 ?_ ?_ | exact Wdead | refine Wlive (fun hb => ?_) | intro _ _ _ _ _ _ _ _ | refine We ?_ | refine Wx ?_ | refine Wt ?_ | refine Wm ?_ | refine W2m ?_ ?_ | refine Wl ?_
        | fail)
      exact ⟨rfl, rfl, rfl⟩
theorem in_true (n : Int) (r : Int × Int) (h : r.1 ≤ n ∧ n ≤ r.2) : CallJ Try.prog E 65 [.int .i64 n, .agg ⟨encR r⟩] (fun v H' g' => v = .bool true ∧ H' = H ∧ g' = g) H g := by
  refine CallJ.tidy ?_
  unfold encR
  refine CallJ.enter Try.func65 rfl (by simp only [Try.ntmps65, List.length_cons, List.length_nil, Nat.zero_add, Nat.reduceAdd, Nat.reduceSub, List.replicate_succ, List.replicate_zero, List.cons_append, List.nil_append]; rfl) ?_
  repeat' (first
    | (refine is_ucall ?_; first
      | refine st_callP (h := InX _ _ _ _ _ _ _ hin) (k := ?_)
      | fail)
    | (refine is_umcall ?_; first
      | refine mj_callP (h := InX _ _ _ _ _ _ _ hin) (k := ?_)
      | fail)
    | refine W1 ?_ | refine Wc ?_ | refine W2c ?_ ?_ | refine Wg ?_ | refine W2 ?_ ?_ | exact Wdead | refine Wlive (fun hb => ?_) | intro _ _ _ _ _ _ _ _ | refine We ?_ | refine Wx ?_ | refine Wt ?_ | refine Wm ?_ | refine W2m ?_ ?_ | refine Wl ?_
    | fail)
  all_goals first | exact ⟨rfl, rfl, rfl⟩ | (exfalso; omega) | (refine ⟨?_, rfl, rfl⟩; show Value.bool (decide _) = _; rw [decide_eq_true h.2])
end
end Go.Proofs.Ytehobnpoeodhkaa
