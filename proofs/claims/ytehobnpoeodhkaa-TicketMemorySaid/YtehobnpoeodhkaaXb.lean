import Derived.Test.YtehobnpoeodhkaaXa
import Derived.Test.YtehobnpoeodhkaaV6
namespace Go.Proofs.Ytehobnpoeodhkaa
open Go Go.Abs Go.Proofs
set_option maxHeartbeats 400000
attribute [local irreducible] CallJ OpsJ WPJ CallV MonoJ

/-- a list as it was handed over, for good -/
def ListO (H : AHeap) (n : Nat) (s : List Int) (v : Value) : Prop :=
  (s = [] ∧ v = .slice none 0 0) ∨ ∃ i cs cap, v = .slice (some ⟨i, 0, none⟩) s.length cap ∧ H[i]? = some (.row cs 1 true) ∧ cs.take s.length = encE s ∧ cs.all flat1 = true ∧ n ≤ i
section
variable {γ : Type} (E : Env γ) (g : γ) (H : AHeap)
theorem smallestSet_own (m : HouseM) (s1 s2 s3 : Value) (hm : HouseIs H m s1 s2 s3) (hG : Good m) :
    CallJ Try.prog E 114 [hv m s1 s2 s3] (fun v H' g' => (match smallS m with | none => v = .slice none 0 0 ∧ H' = H | some s => (s = [] ∧ v = .slice none 0 0 ∧ H' = H) ∨ ∃ cs cap, v = .slice (some ⟨H.length, 0, none⟩) s.length cap ∧ H' = H ++ [.row cs 1 true] ∧ cs.take s.length = encE s ∧ cs.all flat1 = true) ∧ g' = g) H g := by
  have hok := hm.cells
  have hrc := hm.clips
  have hn3 := hG.n3
  refine CallJ.tidy ?_
  unfold hv
  refine CallJ.enter Try.func114 rfl (by simp only [Try.ntmps114, List.length_cons, List.length_nil, Nat.zero_add, Nat.reduceAdd, Nat.reduceSub, List.replicate_succ, List.replicate_zero, List.cons_append, List.nil_append]; rfl) ?_
  repeat' (first
    | ((fail_if_success (first | refine is_ucall ?_ | refine is_umcall ?_)); first | refine W1 ?_ | refine Wc ?_ | refine W2c ?_ ?_ | refine Wg ?_ | refine W2 ?_ ?_ | exact Wdead | refine Wlive (fun hb => ?_) | intro _ _ _ _ _ _ _ _ | refine We ?_ | refine Wx ?_ | refine Wt ?_ | refine Wm ?_ | refine W2m ?_ ?_ | refine Wl ?_)
    | fail)
  refine WPJ.scope (fun l T H g h => h.elim) ?_
  repeat' (first
    | ((fail_if_success (first | refine is_ucall ?_ | refine is_umcall ?_)); first | refine W1 ?_ | refine Wc ?_ | refine W2c ?_ ?_ | refine Wg ?_ | refine W2 ?_ ?_ | exact Wdead | refine Wlive (fun hb => ?_) | intro _ _ _ _ _ _ _ _ | refine We ?_ | refine Wx ?_ | refine Wt ?_ | refine Wm ?_ | refine W2m ?_ ?_ | refine Wl ?_)
    | fail)
  refine WPJ.loopT (m.clips.length + 1) [11, 12, 4, 13, 14, 15, 16, 17, 5, 18, 19, 20, 21, 22, 23, 24] (fun j (_ : Unit) => [(10, .int .i64 j)])
    (fun j _ H1 g1 => g1 = g ∧ Ext H H1 ∧ H1[H.length]? = some (.row (hcells m s1 s2 s3) 1 true) ∧ H1[H.length + 1]? = some (.row [.slice none 0 0] 1 true) ∧ (∀ s ∈ upToN m j, okWithout m s = false) ∧ H.length + 1 < H1.length) 0 () (Nat.zero_le _)
    (by intro p hp; simp at hp; rcases hp with rfl; rfl) ⟨rfl, extA, getA, getA, by simp [upToN], by simp⟩ ?_
  rintro j _ H1 g1 hj ⟨rfl, he, hb0, hb1, hall, hlen⟩ hl0
  simp only [updT, maskT, List.set_cons_zero, List.set_cons_succ]
  rcases Nat.lt_or_ge j (m.clips.length + 1) with hlt | hge
  · skip
    repeat' (first
      | ((fail_if_success (first | refine is_ucall ?_ | refine is_umcall ?_)); first | refine W1 ?_ | refine Wc ?_ | refine W2c ?_ ?_ | refine Wg ?_ | refine W2 ?_ ?_ | exact Wdead | refine Wlive (fun hb => ?_) | intro _ _ _ _ _ _ _ _ | refine We ?_ | refine Wx ?_ | refine Wt ?_ | refine Wm ?_ | refine W2m ?_ ?_ | refine Wl ?_)
      | fail)
    refine st_call rfl (listsOf_spec E _ _ _ _) ?_
    rintro _ _ g1 ⟨rfl, rfl, rfl⟩
    refine OpsJ.normA ?_
    repeat' (first
      | ((fail_if_success (first | refine is_ucall ?_ | refine is_umcall ?_)); first | refine W1 ?_ | refine Wc ?_ | refine W2c ?_ ?_ | refine Wg ?_ | refine W2 ?_ ?_ | exact Wdead | refine Wlive (fun hb => ?_) | intro _ _ _ _ _ _ _ _ | refine We ?_ | refine Wx ?_ | refine Wt ?_ | refine Wm ?_ | refine W2m ?_ ?_ | refine Wl ?_)
      | fail)
    refine WPJ.rangeFuncO (xs := (subs j 0 m.clips.length).map encE) rfl EntC.ent [H1.length, H1.length + 1] (lists_hits H1.length (H1.length + 1) j m.clips.length (by omega) (by omega)) ?_ ?_ (fun v hv => by cases hv) ?_ ?_ rfl
      (fun k H2 g2 => g2 = g1 ∧ KeptX [H1.length, H1.length + 1] none (H1 ++ [.row [.int .i64 j] 1 true, .row [.int .i64 m.clips.length] 1 true]) H2 ∧ Ext H H2 ∧ H2[H.length]? = some (.row (hcells m s1 s2 s3) 1 true) ∧ H2[H.length + 1]? = some (.row [.slice none 0 0] 1 true) ∧ (∀ s ∈ (subs j 0 m.clips.length).take k, okWithout m s = false) ∧ H1.length + 1 < H2.length)
      (fun c H2 g2 => c = .exit 0 ∧ g2 = g1 ∧ KeptX [H1.length, H1.length + 1] none (H1 ++ [.row [.int .i64 j] 1 true, .row [.int .i64 m.clips.length] 1 true]) H2 ∧ Ext H H2 ∧ ∃ s v, smallS m = some s ∧ H2[H.length + 1]? = some (.row [v] 1 true) ∧ ListO H2 H.length s v)
      ?_ ?_ ?_ ?_ ?_
    · intro Hi hv
      exact ⟨hv _ (by simp) _ _ _ (get_new0 rfl), hv _ (by simp) _ _ _ (get_new rfl)⟩
    · intro ρ w hs v' hv i hi
      cases hv with
      | func h1 h2 h3 h4 =>
        have h := h4 0 (by simp) (by rw [← h3]; simp)
        have h' := h4 1 (by simp) (by rw [← h3]; simp)
        simp only [List.getElem_toArray, List.getElem_cons_zero, List.getElem_cons_succ] at h h'
        simp only [List.mem_cons, List.not_mem_nil, or_false] at hi
        rcases hi with rfl | rfl
        · obtain ⟨x, hx, _⟩ := rel_ptr h; exact ⟨x, hx⟩
        · obtain ⟨x, hx, _⟩ := rel_ptr h'; exact ⟨x, hx⟩
    · intro v hv
      simp at hv
      rcases hv with rfl | rfl
      · exact .ptr (by simp)
      · exact .ptr (by simp)
    · intro i hi c es own hc v hv
      simp only [List.mem_cons, List.not_mem_nil, or_false] at hi
      rcases hi with rfl | rfl
      · rw [get_new0 rfl] at hc; cases hc; simp at hv; subst hv; exact .flat rfl
      · rw [get_new rfl] at hc; cases hc; simp at hv; subst hv; exact .flat rfl
    · exact ⟨rfl, ⟨fun _ _ _ _ _ h => h, fun i o h hd _ => .inl ⟨o, h, hd⟩⟩, extA, getA, getA, by simp, by simp⟩
    · intro H2 g2 h
      have hk : KeptX [H1.length, H1.length + 1] none (H1 ++ [.row [.int .i64 j] 1 true, .row [.int .i64 m.clips.length] 1 true]) H2 := by
        rcases h with ⟨_, _, hk, _⟩ | ⟨_, _, _, hk, _⟩ <;> exact hk
      exact ⟨hk.1, fun i o h hd hn => (hk.2 i o h hd hn).elim id fun h => by cases h⟩
    · rintro k x Hc gc v Hc1 hx ⟨rfl, hk, hee, hc0, hc1, hnot, hlenc⟩ hh
      rw [List.getElem?_map] at hx
      obtain ⟨s, hs, rfl⟩ := Option.map_eq_some_iff.1 hx
      clear hx
      have hsl : s.length ≤ 1000000 := by
        have := subs_len _ _ _ s (List.mem_of_getElem? hs)
        omega
      have hel : (encE s).length = s.length := by simp [encE]
      have hfind : okWithout m s = true → smallS m = some s := small_find hlt hs hall hnot
      have hnext : okWithout m s = false → ∀ x ∈ (subs j 0 m.clips.length).take (k + 1), okWithout m x = false := fun h x hx => by
        obtain ⟨hlt2, hel2⟩ := List.getElem?_eq_some_iff.1 hs
        rw [List.take_succ_eq_append_getElem hlt2, hel2] at hx
        rcases List.mem_append.1 hx with h1 | h1
        · exact hnot x h1
        · simp at h1; rw [h1]; exact h
      generalize hks : keptN m.clips s m.clips.length = ks at *
      have hV := (without_good hG s).valid
      cases hh with
      | @row cs cap ht hcf =>
        rw [hel] at ht
        have hrd : RdS (Hc ++ [.row cs 1 true]) (.slice (some ⟨Hc.length, 0, none⟩) s.length cap) 1 (encI s) := rd_encE (own := true) (by simp) ht
        rw [hel]
        simp only [putPs, List.set_cons_zero, List.set_cons_succ, List.toList_toArray]
        repeat' (first
          | ((fail_if_success (first | refine is_ucall ?_ | refine is_umcall ?_)); first | refine W1 ?_ | refine Wc ?_ | refine W2c ?_ ?_ | refine Wg ?_ | refine W2 ?_ ?_ | exact Wdead | refine Wlive (fun hb => ?_) | intro _ _ _ _ _ _ _ _ | refine We ?_ | refine Wx ?_ | refine Wt ?_ | refine Wm ?_ | refine W2m ?_ ?_ | refine Wl ?_)
          | fail)
        refine st_call rfl (withoutF_spec E _ _ m s1 s2 s3 _ s (hm.ext extA) hrd hsl) ?_
        rintro _ _ gc ⟨⟨h0, rfl, rfl⟩ | ⟨h0, rfl, rfl⟩, rfl⟩
        · skip
          refine OpsJ.normA ?_
          repeat' (first
            | ((fail_if_success (first | refine is_ucall ?_ | refine is_umcall ?_)); first | refine W1 ?_ | refine Wc ?_ | refine W2c ?_ ?_ | refine Wg ?_ | refine W2 ?_ ?_ | exact Wdead | refine Wlive (fun hb => ?_) | intro _ _ _ _ _ _ _ _ | refine We ?_ | refine Wx ?_ | refine Wt ?_ | refine Wm ?_ | refine W2m ?_ ?_ | refine Wl ?_)
            | fail)
          refine st_callP (h := hasTruth_spec _ _ _ (without m s) s1 s2 _ ((without_is (hm.ext extA) rfl).1 h0) hV) (k := ?_)
          refine We ?_
          cases hb : hasS (without m s) with
          | true =>
            repeat' (first
              | ((fail_if_success (first | refine is_ucall ?_ | refine is_umcall ?_)); first | refine W1 ?_ | refine Wc ?_ | refine W2c ?_ ?_ | refine Wg ?_ | refine W2 ?_ ?_ | exact Wdead | refine Wlive (fun hb => ?_) | intro _ _ _ _ _ _ _ _ | refine We ?_ | refine Wx ?_ | refine Wt ?_ | refine Wm ?_ | refine W2m ?_ ?_ | refine Wl ?_)
              | fail)
            exact ⟨rfl, rfl, (hk.app (by simp [AObj.dead?, ownedO])).set (by simp; omega) rfl, extA, s, _, hfind hb, getA, .inr ⟨Hc.length, cs, cap, rfl, getA, ht, hcf, by omega⟩⟩
          | false =>
            repeat' (first
              | ((fail_if_success (first | refine is_ucall ?_ | refine is_umcall ?_)); first | refine W1 ?_ | refine Wc ?_ | refine W2c ?_ ?_ | refine Wg ?_ | refine W2 ?_ ?_ | exact Wdead | refine Wlive (fun hb => ?_) | intro _ _ _ _ _ _ _ _ | refine We ?_ | refine Wx ?_ | refine Wt ?_ | refine Wm ?_ | refine W2m ?_ ?_ | refine Wl ?_)
              | fail)
            refine ⟨rfl, hk.app (by simp [AObj.dead?, ownedO]), extA, getA, getA, hnext hb, by first | omega | (simp; omega)⟩
        · skip
          refine OpsJ.normA ?_
          repeat' (first
            | ((fail_if_success (first | refine is_ucall ?_ | refine is_umcall ?_)); first | refine W1 ?_ | refine Wc ?_ | refine W2c ?_ ?_ | refine Wg ?_ | refine W2 ?_ ?_ | exact Wdead | refine Wlive (fun hb => ?_) | intro _ _ _ _ _ _ _ _ | refine We ?_ | refine Wx ?_ | refine Wt ?_ | refine Wm ?_ | refine W2m ?_ ?_ | refine Wl ?_)
            | fail)
          have hw := (without_is (H := Hc ++ [.row cs 1 true]) (hm.ext extA) (l := s) rfl).2
          simp only [List.append_assoc, List.cons_append, List.nil_append, List.length_append, List.length_cons, List.length_nil, Nat.zero_add] at hw
          refine st_callP (h := hasTruth_spec _ _ _ (without m s) s1 s2 _ hw hV) (k := ?_)
          refine We ?_
          cases hb : hasS (without m s) with
          | true =>
            refine WPJ.kill (Hc.length + 1) ?_
            rw [show (Hc ++ [AObj.row cs 1 true, AObj.row ((keptN m.clips s m.clips.length).map encC).flatten 3 false] : AHeap).set (Hc.length + 1) .dead = (Hc ++ [AObj.row cs 1 true, AObj.dead] : AHeap) by simp]
            repeat' (first
              | ((fail_if_success (first | refine is_ucall ?_ | refine is_umcall ?_)); first | refine W1 ?_ | refine Wc ?_ | refine W2c ?_ ?_ | refine Wg ?_ | refine W2 ?_ ?_ | exact Wdead | refine Wlive (fun hb => ?_) | intro _ _ _ _ _ _ _ _ | refine We ?_ | refine Wx ?_ | refine Wt ?_ | refine Wm ?_ | refine W2m ?_ ?_ | refine Wl ?_)
              | fail)
            exact ⟨rfl, rfl, (hk.app (by simp [AObj.dead?, ownedO])).set (by simp; omega) rfl, extA, s, _, hfind hb, getA, .inr ⟨Hc.length, cs, cap, rfl, getA, ht, hcf, by omega⟩⟩
          | false =>
            refine WPJ.kill (Hc.length + 1) ?_
            rw [show (Hc ++ [AObj.row cs 1 true, AObj.row ((keptN m.clips s m.clips.length).map encC).flatten 3 false] : AHeap).set (Hc.length + 1) .dead = (Hc ++ [AObj.row cs 1 true, AObj.dead] : AHeap) by simp]
            repeat' (first
              | ((fail_if_success (first | refine is_ucall ?_ | refine is_umcall ?_)); first | refine W1 ?_ | refine Wc ?_ | refine W2c ?_ ?_ | refine Wg ?_ | refine W2 ?_ ?_ | exact Wdead | refine Wlive (fun hb => ?_) | intro _ _ _ _ _ _ _ _ | refine We ?_ | refine Wx ?_ | refine Wt ?_ | refine Wm ?_ | refine W2m ?_ ?_ | refine Wl ?_)
              | fail)
            refine ⟨rfl, hk.app (by simp [AObj.dead?, ownedO]), extA, getA, getA, hnext hb, by first | omega | (simp; omega)⟩
      | nil h =>
        have hs0 : s = [] := by simpa [encE] using h
        have hrd : RdS Hc (.slice none 0 0) 1 (encI s) := by rw [hs0]; exact ⟨fun x hx => (List.not_mem_nil hx).elim, Or.inr ⟨rfl, Or.inl rfl⟩⟩
        simp only [putPs, List.set_cons_zero, List.set_cons_succ, List.toList_toArray]
        repeat' (first
          | ((fail_if_success (first | refine is_ucall ?_ | refine is_umcall ?_)); first | refine W1 ?_ | refine Wc ?_ | refine W2c ?_ ?_ | refine Wg ?_ | refine W2 ?_ ?_ | exact Wdead | refine Wlive (fun hb => ?_) | intro _ _ _ _ _ _ _ _ | refine We ?_ | refine Wx ?_ | refine Wt ?_ | refine Wm ?_ | refine W2m ?_ ?_ | refine Wl ?_)
          | fail)
        refine st_call rfl (withoutF_spec E _ _ m s1 s2 s3 _ s (hm.ext extA) hrd hsl) ?_
        rintro _ _ gc ⟨⟨h0, rfl, rfl⟩ | ⟨h0, rfl, rfl⟩, rfl⟩
        · skip
          refine OpsJ.normA ?_
          repeat' (first
            | ((fail_if_success (first | refine is_ucall ?_ | refine is_umcall ?_)); first | refine W1 ?_ | refine Wc ?_ | refine W2c ?_ ?_ | refine Wg ?_ | refine W2 ?_ ?_ | exact Wdead | refine Wlive (fun hb => ?_) | intro _ _ _ _ _ _ _ _ | refine We ?_ | refine Wx ?_ | refine Wt ?_ | refine Wm ?_ | refine W2m ?_ ?_ | refine Wl ?_)
            | fail)
          refine st_callP (h := hasTruth_spec _ _ _ (without m s) s1 s2 _ ((without_is (hm.ext extA) rfl).1 h0) hV) (k := ?_)
          refine We ?_
          cases hb : hasS (without m s) with
          | true =>
            repeat' (first
              | ((fail_if_success (first | refine is_ucall ?_ | refine is_umcall ?_)); first | refine W1 ?_ | refine Wc ?_ | refine W2c ?_ ?_ | refine Wg ?_ | refine W2 ?_ ?_ | exact Wdead | refine Wlive (fun hb => ?_) | intro _ _ _ _ _ _ _ _ | refine We ?_ | refine Wx ?_ | refine Wt ?_ | refine Wm ?_ | refine W2m ?_ ?_ | refine Wl ?_)
              | fail)
            exact ⟨rfl, rfl, hk.set (by simp; omega) rfl, extA, s, _, hfind hb, getA, .inl ⟨hs0, rfl⟩⟩
          | false =>
            repeat' (first
              | ((fail_if_success (first | refine is_ucall ?_ | refine is_umcall ?_)); first | refine W1 ?_ | refine Wc ?_ | refine W2c ?_ ?_ | refine Wg ?_ | refine W2 ?_ ?_ | exact Wdead | refine Wlive (fun hb => ?_) | intro _ _ _ _ _ _ _ _ | refine We ?_ | refine Wx ?_ | refine Wt ?_ | refine Wm ?_ | refine W2m ?_ ?_ | refine Wl ?_)
              | fail)
            refine ⟨rfl, hk, extA, getA, getA, hnext hb, by first | omega | (simp; omega)⟩
        · skip
          refine OpsJ.normA ?_
          repeat' (first
            | ((fail_if_success (first | refine is_ucall ?_ | refine is_umcall ?_)); first | refine W1 ?_ | refine Wc ?_ | refine W2c ?_ ?_ | refine Wg ?_ | refine W2 ?_ ?_ | exact Wdead | refine Wlive (fun hb => ?_) | intro _ _ _ _ _ _ _ _ | refine We ?_ | refine Wx ?_ | refine Wt ?_ | refine Wm ?_ | refine W2m ?_ ?_ | refine Wl ?_)
            | fail)
          refine st_callP (h := hasTruth_spec _ _ _ (without m s) s1 s2 _ (without_is (hm.ext extA) (l := s) rfl).2 hV) (k := ?_)
          refine We ?_
          cases hb : hasS (without m s) with
          | true =>
            refine WPJ.kill (Hc.length) ?_
            rw [show (Hc ++ [AObj.row ((keptN m.clips s m.clips.length).map encC).flatten 3 false] : AHeap).set Hc.length .dead = (Hc ++ [AObj.dead] : AHeap) by simp]
            repeat' (first
              | ((fail_if_success (first | refine is_ucall ?_ | refine is_umcall ?_)); first | refine W1 ?_ | refine Wc ?_ | refine W2c ?_ ?_ | refine Wg ?_ | refine W2 ?_ ?_ | exact Wdead | refine Wlive (fun hb => ?_) | intro _ _ _ _ _ _ _ _ | refine We ?_ | refine Wx ?_ | refine Wt ?_ | refine Wm ?_ | refine W2m ?_ ?_ | refine Wl ?_)
              | fail)
            exact ⟨rfl, rfl, (hk.app (by simp [AObj.dead?])).set (by simp; omega) rfl, extA, s, _, hfind hb, getA, .inl ⟨hs0, rfl⟩⟩
          | false =>
            refine WPJ.kill (Hc.length) ?_
            rw [show (Hc ++ [AObj.row ((keptN m.clips s m.clips.length).map encC).flatten 3 false] : AHeap).set Hc.length .dead = (Hc ++ [AObj.dead] : AHeap) by simp]
            repeat' (first
              | ((fail_if_success (first | refine is_ucall ?_ | refine is_umcall ?_)); first | refine W1 ?_ | refine Wc ?_ | refine W2c ?_ ?_ | refine Wg ?_ | refine W2 ?_ ?_ | exact Wdead | refine Wlive (fun hb => ?_) | intro _ _ _ _ _ _ _ _ | refine We ?_ | refine Wx ?_ | refine Wt ?_ | refine Wm ?_ | refine W2m ?_ ?_ | refine Wl ?_)
              | fail)
            refine ⟨rfl, hk.app (by simp [AObj.dead?]), extA, getA, getA, hnext hb, by first | omega | (simp; omega)⟩
    · rintro Hc gc ⟨rfl, hk, hee, hc0, hc1, hnot, hlenc⟩
      rw [List.length_map, List.take_length] at hnot
      repeat' (first
        | ((fail_if_success (first | refine is_ucall ?_ | refine is_umcall ?_)); first | refine W1 ?_ | refine Wc ?_ | refine W2c ?_ ?_ | refine Wg ?_ | refine W2 ?_ ?_ | exact Wdead | refine Wlive (fun hb => ?_) | intro _ _ _ _ _ _ _ _ | refine We ?_ | refine Wx ?_ | refine Wt ?_ | refine Wm ?_ | refine W2m ?_ ?_ | refine Wl ?_)
        | fail)
      refine ⟨(), hlt, (by repeat' (first | exact Weak.nil | refine Weak.wild ?_ | refine Weak.same ?_ | refine Weak.intEq (by first | omega | (simp; done) | (push_cast; omega)) ?_)), rfl, hee, hc0, hc1, fun s hs => ?_, by omega⟩
      rw [upToN_step] at hs
      exact (List.mem_append.1 hs).elim (hall s) (hnot s)
    · rintro c Hc gc ⟨rfl, rfl, hk, hee, s, v, hsm, hc1, hat⟩
      rw [hsm]
      repeat' (first
        | ((fail_if_success (first | refine is_ucall ?_ | refine is_umcall ?_)); first | refine W1 ?_ | refine Wc ?_ | refine W2c ?_ ?_ | refine Wg ?_ | refine W2 ?_ ?_ | exact Wdead | refine Wlive (fun hb => ?_) | intro _ _ _ _ _ _ _ _ | refine We ?_ | refine Wx ?_ | refine Wt ?_ | refine Wm ?_ | refine W2m ?_ ?_ | refine Wl ?_)
        | fail)
      rcases hat with ⟨h0, rfl⟩ | ⟨i, cs, cap, rfl, hi, ht, hcf, hn⟩
      · exact Tidy.ext hee (.flat rfl) ⟨.inl ⟨h0, rfl, rfl⟩, rfl⟩
      · refine Tidy.row hee hi hn hcf (.slice (j := 0) rfl) ⟨.inr ⟨cs, cap, rfl, rfl, ht, hcf⟩, rfl⟩
  · have hj' : j = m.clips.length + 1 := by omega
    have e : smallS m = none := by
      unfold smallS
      rw [List.find?_eq_none]
      intro s hs
      rw [hj'] at hall
      simp [hall s hs]
    rw [e]
    repeat' (first
      | ((fail_if_success (first | refine is_ucall ?_ | refine is_umcall ?_)); first | refine W1 ?_ | refine Wc ?_ | refine W2c ?_ ?_ | refine Wg ?_ | refine W2 ?_ ?_ | exact Wdead | refine Wlive (fun hb => ?_) | intro _ _ _ _ _ _ _ _ | refine We ?_ | refine Wx ?_ | refine Wt ?_ | refine Wm ?_ | refine W2m ?_ ?_ | refine Wl ?_)
      | fail)
    exact ⟨⟨rfl, rfl⟩, rfl⟩
def LeaveO (H : AHeap) (m : HouseM) (v : Value) (H' : AHeap) : Prop :=
  if checkS m = 0 then (leaveS m = [] ∧ v = .tuple #[.slice none 0 0, .int .i64 0] ∧ H' = H) ∨ ∃ cs cap, v = .tuple #[.slice (some ⟨H.length, 0, none⟩) (leaveS m).length cap, .int .i64 0] ∧ H' = H ++ [.row cs 1 true] ∧ cs.take (leaveS m).length = encE (leaveS m) ∧ cs.all flat1 = true
  else v = .tuple #[.slice none 0 0, .int .i64 (checkS m)] ∧ H' = H
theorem smallestSet_anyO (m : HouseM) (s1 s2 s3 : Value) (hm : HouseIs H m s1 s2 s3) (hG : Good m) :
    CallJ Try.prog E 114 [hv m s1 s2 s3] (fun v H' g' => ((leaveS m = [] ∧ v = .slice none 0 0 ∧ H' = H) ∨ ∃ cs cap, v = .slice (some ⟨H.length, 0, none⟩) (leaveS m).length cap ∧ H' = H ++ [.row cs 1 true] ∧ cs.take (leaveS m).length = encE (leaveS m) ∧ cs.all flat1 = true) ∧ g' = g) H g := by
  refine (smallestSet_own E g H m s1 s2 s3 hm hG).mono fun v H' g' h => ?_
  refine ⟨?_, h.2⟩
  have h1 := h.1
  unfold leaveS
  cases e : smallS m with
  | none => rw [e] at h1; exact .inl ⟨rfl, h1.1, h1.2⟩
  | some s => rw [e] at h1; exact h1
theorem Leave_own (m : HouseM) (s1 s2 s3 : Value) (hm : HouseIs H m s1 s2 s3) : CallJ Try.prog E 53 [hv m s1 s2 s3] (fun v H' g' => LeaveO H m v H' ∧ g' = g) H g := by
  have hok := hm.cells
  refine CallJ.tidy ?_
  unfold hv
  refine CallJ.enter Try.func53 rfl (by simp only [Try.ntmps53, List.length_cons, List.length_nil, Nat.zero_add, Nat.reduceAdd, Nat.reduceSub, List.replicate_succ, List.replicate_zero, List.cons_append, List.nil_append]; rfl) ?_
  repeat' (first
    | (refine is_ucall ?_; first
      | refine st_callP (h := CheckHouse_spec _ _ _ m s1 s2 s3 (hm.ext extA)) (k := ?_)
      | fail)
    | (refine is_umcall ?_; first
      | refine mj_callP (h := CheckHouse_spec _ _ _ m s1 s2 s3 (hm.ext extA)) (k := ?_)
      | fail)
    | ((fail_if_success (first | refine is_ucall ?_ | refine is_umcall ?_)); first | refine W1 ?_ | refine Wc ?_ | refine W2c ?_ ?_ | refine Wg ?_ | refine W2 ?_ ?_ | exact Wdead | refine Wlive (fun hb => ?_) | intro _ _ _ _ _ _ _ _ | refine We ?_ | refine Wx ?_ | refine Wt ?_ | refine Wm ?_ | refine W2m ?_ ?_ | refine Wl ?_)
    | fail)
  · exact ⟨by unfold LeaveO; rw [if_neg (by assumption)]; exact ⟨rfl, rfl⟩, rfl⟩
  · have hz : checkS m = 0 := by assumption
    refine st_call rfl (smallestSet_anyO E g _ m s1 s2 s3 (hm.ext extA) (good_of hz)) ?_
    rintro _ _ g ⟨⟨h0, rfl, rfl⟩ | ⟨cs, cap, rfl, rfl, ht, hf⟩, rfl⟩
    · skip
      refine OpsJ.normA ?_
      repeat' (first
        | (refine is_ucall ?_; first
          | refine st_callP (h := CheckHouse_spec _ _ _ m s1 s2 s3 (hm.ext extA)) (k := ?_)
          | fail)
        | (refine is_umcall ?_; first
          | refine mj_callP (h := CheckHouse_spec _ _ _ m s1 s2 s3 (hm.ext extA)) (k := ?_)
          | fail)
        | ((fail_if_success (first | refine is_ucall ?_ | refine is_umcall ?_)); first | refine W1 ?_ | refine Wc ?_ | refine W2c ?_ ?_ | refine Wg ?_ | refine W2 ?_ ?_ | exact Wdead | refine Wlive (fun hb => ?_) | intro _ _ _ _ _ _ _ _ | refine We ?_ | refine Wx ?_ | refine Wt ?_ | refine Wm ?_ | refine W2m ?_ ?_ | refine Wl ?_)
        | fail)
      exact ⟨by unfold LeaveO; rw [if_pos hz]; exact .inl ⟨h0, rfl, rfl⟩, rfl⟩
    · skip
      refine OpsJ.normA ?_
      repeat' (first
        | (refine is_ucall ?_; first
          | refine st_callP (h := CheckHouse_spec _ _ _ m s1 s2 s3 (hm.ext extA)) (k := ?_)
          | fail)
        | (refine is_umcall ?_; first
          | refine mj_callP (h := CheckHouse_spec _ _ _ m s1 s2 s3 (hm.ext extA)) (k := ?_)
          | fail)
        | ((fail_if_success (first | refine is_ucall ?_ | refine is_umcall ?_)); first | refine W1 ?_ | refine Wc ?_ | refine W2c ?_ ?_ | refine Wg ?_ | refine W2 ?_ ?_ | exact Wdead | refine Wlive (fun hb => ?_) | intro _ _ _ _ _ _ _ _ | refine We ?_ | refine Wx ?_ | refine Wt ?_ | refine Wm ?_ | refine W2m ?_ ?_ | refine Wl ?_)
        | fail)
      refine Tidy.row (i := H.length + 1) (cells := cs) (es := 1) (own := true) extA getA (by omega) hf (.tuple2 (.slice (j := 0) rfl) (.flat rfl)) ⟨?_, rfl⟩
      unfold LeaveO
      rw [if_pos hz]
      exact .inr ⟨cs, cap, rfl, rfl, ht, hf⟩
end
end Go.Proofs.Ytehobnpoeodhkaa
