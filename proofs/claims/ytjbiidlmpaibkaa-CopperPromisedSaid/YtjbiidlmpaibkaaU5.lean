
import Derived.Test.YtjbiidlmpaibkaaU4
import Derived.KernelRfl
namespace Go.Proofs.Ytjbiidlmpaibkaa
open Go Go.Abs Go.Proofs
set_option maxHeartbeats 800000
attribute [local irreducible] CallJ OpsJ WPJ CallV MonoJ
theorem keptN_sub (cs : List ReadM) (l : List Int) : ∀ j, j ≤ cs.length → (keptN cs l j).Sublist (cs.take j)
  | 0, _ => by simp [keptN]
  | j + 1, h => by
    rw [keptN_step (by omega), List.take_succ_eq_append_getElem (by omega)]
    split
    · exact (keptN_sub cs l j (by omega)).trans (List.sublist_append_left _ _)
    · exact (keptN_sub cs l j (by omega)).append_right _
theorem keptN_all (m : CopM) (l : List Int) : (keptN m.reads l m.reads.length).Sublist m.reads := by
  have := keptN_sub m.reads l m.reads.length (Nat.le_refl _)
  rwa [List.take_length] at this
theorem without_good {m : CopM} (hG : Good m) (l : List Int) : Good (without m l) := hG.reads (keptN_all m l)
def WithoutF (H : AHeap) (m : CopM) (s1 s2 s3 : Value) (ks : List ReadM) (v : Value) (H' : AHeap) : Prop :=
  (ks = [] ∧ v = .agg ⟨ccells m s1 s2 s3 (.slice none 0 0)⟩ ∧ H' = H) ∨ (ks ≠ [] ∧ v = .agg ⟨ccells m s1 s2 s3 (.slice (some ⟨H.length, 0, none⟩) ks.length ks.length)⟩ ∧ H' = H ++ [.row (ks.map encD).flatten 3 false])
theorem without_is {H : AHeap} {m : CopM} {s1 s2 s3 s4 : Value} (hm : CopIs H m s1 s2 s3 s4) {l : List Int} {ks : List ReadM} (hks : keptN m.reads l m.reads.length = ks) :
    (ks = [] → CopIs H (without m l) s1 s2 s3 (.slice none 0 0)) ∧ CopIs (H ++ [.row (ks.map encD).flatten 3 false]) (without m l) s1 s2 s3 (.slice (some ⟨H.length, 0, none⟩) ks.length ks.length) := by
  have hok := hm.ok
  have hn : (without m l).reads.length ≤ 1000000 := Nat.le_trans (keptN_all m l).length_le hm.n4
  have hc : (without m l).reads = ks := hks
  have he : Ext H (H ++ [.row (ks.map encD).flatten 3 false]) := ⟨_, rfl⟩
  refine ⟨fun h0 => ⟨hm.coal, hm.want, hm.loss, ?_, ?_, hm.n1, hm.n2, hm.n3, hn, hm.p1, hm.p2, hm.p3, fun i hi => by cases hi⟩, ⟨hm.coal.ext he, hm.want.ext he, hm.loss.ext he, ?_, ?_, hm.n1, hm.n2, hm.n3, hn, hm.p1.ext he, hm.p2.ext he, hm.p3.ext he, ?_⟩⟩
  · rw [hc, h0]
    exact ⟨fun x hx => (List.not_mem_nil hx).elim, Or.inr ⟨rfl, Or.inl rfl⟩⟩
  · simp [cellOk] at hok ⊢; exact ⟨hok.1, hok.2.1, hok.2.2.1⟩
  · rw [hc]
    refine ⟨fun x hx => by obtain ⟨c, _, rfl⟩ := List.mem_map.1 hx; rfl, .inl ⟨H.length, 0, ks.length, (ks.map encD).flatten, 3, false, by simp, by simp, ?_, ?_⟩⟩
    · rw [flatten_len3]; simp
    · rw [List.drop_zero]; exact List.take_of_length_le (by rw [flatten_len3]; simp)
  · simp [cellOk] at hok ⊢; exact ⟨hok.1, hok.2.1, hok.2.2.1⟩
  · intro i hi
    simp [idOf] at hi
    subst hi
    exact ⟨(ks.map encD).flatten, 3, false, by simp, fun x hx => .flat (List.all_eq_true.1 (clips_flat ks) x hx)⟩
section
variable {γ : Type} (E : Env γ) (g : γ) (H : AHeap)
theorem withoutF_spec (m : CopM) (s1 s2 s3 s4 sv : Value) (l : List Int) (hm : CopIs H m s1 s2 s3 s4) (hr : RdS H sv 1 (encI l)) (hn : l.length ≤ 1000000) :
    CallJ Try.prog E 129 [cv m s1 s2 s3 s4, sv] (fun v H' g' => WithoutF H m s1 s2 s3 (keptN m.reads l m.reads.length) v H' ∧ g' = g) H g := by
  refine (without_spec E g H m s1 s2 s3 s4 sv l hm hr hn).freeze fun v H' g' hk => ?_
  rcases hk with ⟨⟨h0, rfl, rfl⟩ | ⟨h0, rfl, rfl⟩, rfl⟩
  · exact .inl ⟨.inl ⟨h0, rfl, rfl⟩, rfl⟩
  · refine .inr ⟨_, 3, rfl, clips_flat _, .agg fun v hv => ?_, .inr ⟨h0, rfl, rfl⟩, rfl⟩
    simp only [List.mem_cons, List.not_mem_nil, or_false] at hv
    rcases hv with rfl | rfl | rfl | rfl | rfl | rfl | rfl | rfl | rfl | rfl | rfl
    · exact .low (.flat rfl)
    · exact .low (.flat rfl)
    · exact .low (.flat rfl)
    · exact .low (.flat rfl)
    · exact .low (.flat rfl)
    · exact .low (RdS.low hm.coal)
    · exact .low (RdS.low hm.want)
    · exact .low (.flat rfl)
    · exact .low (.flat rfl)
    · exact .low (RdS.low hm.loss)
    · exact .slice
def okWithout (m : CopM) (s : List Int) : Bool := hasS (without m s)
def upToN (m : CopM) (j : Nat) : List (List Int) := (List.range j).flatMap fun q => subs q 0 m.reads.length
def smallS (m : CopM) : Option (List Int) := (upToN m (m.reads.length + 1)).find? (okWithout m)
theorem upToN_step (m : CopM) (j : Nat) : upToN m (j + 1) = upToN m j ++ subs j 0 m.reads.length := by
  unfold upToN; rw [List.range_succ, List.flatMap_append]; simp
theorem upToN_pre (m : CopM) {j : Nat} : ∀ d, ∃ R, upToN m (j + 1 + d) = upToN m j ++ (subs j 0 m.reads.length ++ R)
  | 0 => ⟨[], by rw [Nat.add_zero, upToN_step, List.append_nil]⟩
  | d + 1 => by
    obtain ⟨R, h⟩ := upToN_pre m (j := j) d
    exact ⟨R ++ subs (j + 1 + d) 0 m.reads.length, by rw [← Nat.add_assoc, upToN_step, h]; simp⟩
theorem small_find {m : CopM} {j k : Nat} {s : List Int} (hj : j < m.reads.length + 1) (hs : (subs j 0 m.reads.length)[k]? = some s) (hall : ∀ x ∈ upToN m j, okWithout m x = false) (hnot : ∀ x ∈ (subs j 0 m.reads.length).take k, okWithout m x = false) (h : okWithout m s = true) : smallS m = some s := by
  obtain ⟨R, hR⟩ := upToN_pre m (j := j) (m.reads.length - j)
  obtain ⟨hlt, hel⟩ := List.getElem?_eq_some_iff.1 hs
  unfold smallS
  rw [show m.reads.length + 1 = j + 1 + (m.reads.length - j) by omega, hR, List.find?_append, List.find?_eq_none.2 (fun x hx => by simp [hall x hx]), Option.none_or, List.find?_append]
  have e : subs j 0 m.reads.length = (subs j 0 m.reads.length).take k ++ s :: (subs j 0 m.reads.length).drop (k + 1) := by
    rw [← hel, ← List.drop_eq_getElem_cons hlt, List.take_append_drop]
  have e2 : (subs j 0 m.reads.length).find? (okWithout m) = some s := by
    rw [e, List.find?_append, List.find?_eq_none.2 (fun x hx => by simp [hnot x hx]), Option.none_or, List.find?_cons, h]
  rw [e2]; rfl
def KeptX (sh : List Nat) (a : Option Nat) (H0 H2 : AHeap) : Prop := (∀ i ∈ sh, ∀ c es own, H0[i]? = some (.row c es own) → H2[i]? = some (.row c es own)) ∧ (∀ (i : Nat) (o : AObj), H2[i]? = some o → o.dead? = false → ownedO o = false → (∃ o' : AObj, H0[i]? = some o' ∧ o'.dead? = false) ∨ a = some i)
theorem KeptX.app {sh : List Nat} {a : Option Nat} {H0 H2 L : AHeap} (h : KeptX sh a H0 H2) (hL : ∀ o ∈ L, o.dead? = true ∨ ownedO o = true) : KeptX sh a H0 (H2 ++ L) := by
  refine ⟨fun i hi c es own hc => get_old (h.1 i hi c es own hc), fun i o ho hd hn => ?_⟩
  by_cases hlt : i < H2.length
  · rw [List.getElem?_append_left hlt] at ho; exact h.2 i o ho hd hn
  · rw [List.getElem?_append_right (by omega)] at ho
    rcases hL o (List.mem_of_getElem? ho) with h1 | h1
    · rw [h1] at hd; cases hd
    · rw [h1] at hn; cases hn
theorem KeptX.set {sh : List Nat} {a : Option Nat} {H0 H2 : AHeap} {j : Nat} {o : AObj} (h : KeptX sh a H0 H2) (hj : j ∉ sh) (ho : ownedO o = true) : KeptX sh a H0 (H2.set j o) := by
  refine ⟨fun i hi c es own hc => ?_, fun i x hx hd hn => ?_⟩
  · rw [List.getElem?_set_ne (fun (e : j = i) => hj (by rw [e]; exact hi))]; exact h.1 i hi c es own hc
  · rw [List.getElem?_set] at hx
    split at hx
    · split at hx
      · cases hx; rw [ho] at hn; cases hn
      · cases hx
    · exact h.2 i x hx hd hn
def ListO (H : AHeap) (n : Nat) (s : List Int) (v : Value) : Prop :=
  (s = [] ∧ v = .slice none 0 0) ∨ ∃ i cs cap, v = .slice (some ⟨i, 0, none⟩) s.length cap ∧ H[i]? = some (.row cs 1 true) ∧ cs.take s.length = encE s ∧ cs.all flat1 = true ∧ n ≤ i
theorem smallestSet_own (m : CopM) (s1 s2 s3 s4 : Value) (hm : CopIs H m s1 s2 s3 s4) (hG : Good m) :
    CallJ Try.prog E 108 [cv m s1 s2 s3 s4] (fun v H' g' => (match smallS m with | none => v = .slice none 0 0 ∧ H' = H | some s => (s = [] ∧ v = .slice none 0 0 ∧ H' = H) ∨ ∃ cs cap, v = .slice (some ⟨H.length, 0, none⟩) s.length cap ∧ H' = H ++ [.row cs 1 true] ∧ cs.take s.length = encE s ∧ cs.all flat1 = true) ∧ g' = g) H g := by
  have hok := hm.cells
  have hrc := hm.reads
  have hn3 := hG.nr
  refine CallJ.tidy ?_
  unfold cv
  refine CallJ.enter Try.func108 rfl (by simp only [Try.ntmps108, List.length_cons, List.length_nil, Nat.zero_add, Nat.reduceSub, List.replicate_succ, List.replicate_zero, List.cons_append, List.nil_append]; rfl) ?_
  repeat' (first
    | ((fail_if_success (first | refine is_ucall ?_ | refine is_umcall ?_)); first | refine W1 ?_ | refine Wc ?_ | refine W2c ?_ ?_ | refine Wg ?_ | refine W2 ?_ ?_ | exact Wdead | refine Wlive (fun hb => ?_) | intro _ _ _ _ _ _ _ _ | refine We ?_ | refine Wx ?_ | refine Wt ?_ | refine Wm ?_ | refine W2m ?_ ?_ | refine Wl ?_)
    | fail)
  refine WPJ.loopT (m.reads.length + 1) [10, 11, 3, 12, 13, 14, 15, 16, 17, 4, 18, 19, 20, 21, 22, 23] (fun j (_ : Unit) => [(9, .int .i64 j)])
    (fun j _ H1 g1 => g1 = g ∧ Ext H H1 ∧ H1[H.length]? = some (.row (ccells m s1 s2 s3 s4) 1 true) ∧ H1[H.length + 1]? = some (.row [.slice none 0 0] 1 true) ∧ (∀ s ∈ upToN m j, okWithout m s = false) ∧ H.length + 1 < H1.length) 0 () (Nat.zero_le _)
    (by intro p hp; simp at hp; rcases hp with rfl; rfl) ⟨rfl, extA, getA, getA, by simp [upToN], by simp⟩ ?_
  rintro j _ H1 g1 hj ⟨rfl, he, hb0, hb1, hall, hlen⟩ hl0
  simp only [updT, maskT, List.set_cons_zero, List.set_cons_succ]
  rcases Nat.lt_or_ge j (m.reads.length + 1) with hlt | hge
  · skip
    repeat' (first
      | ((fail_if_success (first | refine is_ucall ?_ | refine is_umcall ?_)); first | refine W1 ?_ | refine Wc ?_ | refine W2c ?_ ?_ | refine Wg ?_ | refine W2 ?_ ?_ | exact Wdead | refine Wlive (fun hb => ?_) | intro _ _ _ _ _ _ _ _ | refine We ?_ | refine Wx ?_ | refine Wt ?_ | refine Wm ?_ | refine W2m ?_ ?_ | refine Wl ?_)
      | fail)
    refine st_call rfl (listsOf_spec E _ _ _ _) ?_
    rintro _ _ g1 ⟨rfl, rfl, rfl⟩
    refine OpsJ.normA ?_
    repeat' (first
      | ((fail_if_success (first | refine is_ucall ?_ | refine is_umcall ?_)); first | refine W1 ?_ | refine Wc ?_ | refine W2c ?_ ?_ | refine Wg ?_ | refine W2 ?_ ?_ | exact Wdead | refine Wlive (fun hb => ?_) | intro _ _ _ _ _ _ _ _ | refine We ?_ | refine Wx ?_ | refine Wt ?_ | refine Wm ?_ | refine W2m ?_ ?_ | refine Wl ?_)
      | fail)
    refine WPJ.rangeFuncO (xs := (subs j 0 m.reads.length).map encE) rfl EntC.ent [H1.length, H1.length + 1] (lists_hits H1.length (H1.length + 1) j m.reads.length (by omega) (by omega)) ?_ ?_ (fun v hv => by cases hv) ?_ ?_ rfl
      (fun k H2 g2 => g2 = g1 ∧ KeptX [H1.length, H1.length + 1] none (H1 ++ [.row [.int .i64 j] 1 true, .row [.int .i64 m.reads.length] 1 true]) H2 ∧ Ext H H2 ∧ H2[H.length]? = some (.row (ccells m s1 s2 s3 s4) 1 true) ∧ H2[H.length + 1]? = some (.row [.slice none 0 0] 1 true) ∧ (∀ s ∈ (subs j 0 m.reads.length).take k, okWithout m s = false) ∧ H1.length + 1 < H2.length)
      (fun c H2 g2 => c = .ret ∧ g2 = g1 ∧ KeptX [H1.length, H1.length + 1] none (H1 ++ [.row [.int .i64 j] 1 true, .row [.int .i64 m.reads.length] 1 true]) H2 ∧ Ext H H2 ∧ ∃ s v, smallS m = some s ∧ H2[H.length + 1]? = some (.row [v] 1 true) ∧ ListO H2 H.length s v)
      ?_ ?_ ?_ ?_ ?_
    · intro Hi hv
      exact ⟨hv _ (by simp) _ _ _ (get_new0 rfl), hv _ (by simp) _ _ _ (get_new rfl)⟩
    · intro ρ w hs v' hv i hi
      cases hv with
      | func h1 h2 h3 h4 =>
        have h := h4 0 (by simp) (by rw [← h3]; simp)
        have h' := h4 1 (by simp) (by rw [← h3]; simp)
        simp only [List.getElem_toArray, List.getElem_cons_zero, List.getElem_cons_succ] at h h'
        simp only [List.mem_cons, List.not_mem_nil, or_false] at hi
        rcases hi with rfl | rfl
        · obtain ⟨x, hx, _⟩ := rel_ptr h; exact ⟨x, hx⟩
        · obtain ⟨x, hx, _⟩ := rel_ptr h'; exact ⟨x, hx⟩
    · intro v hv
      simp at hv
      rcases hv with rfl | rfl
      · exact .ptr (by simp)
      · exact .ptr (by simp)
    · intro i hi c es own hc v hv
      simp only [List.mem_cons, List.not_mem_nil, or_false] at hi
      rcases hi with rfl | rfl
      · rw [get_new0 rfl] at hc; cases hc; simp at hv; subst hv; exact .flat rfl
      · rw [get_new rfl] at hc; cases hc; simp at hv; subst hv; exact .flat rfl
    · exact ⟨rfl, ⟨fun _ _ _ _ _ h => h, fun i o h hd _ => .inl ⟨o, h, hd⟩⟩, extA, getA, getA, by simp, by simp⟩
    · intro H2 g2 h
      have hk : KeptX [H1.length, H1.length + 1] none (H1 ++ [.row [.int .i64 j] 1 true, .row [.int .i64 m.reads.length] 1 true]) H2 := by
        rcases h with ⟨_, _, hk, _⟩ | ⟨_, _, _, hk, _⟩ <;> exact hk
      exact ⟨hk.1, fun i o h hd hn => (hk.2 i o h hd hn).elim id fun h => by cases h⟩
    · rintro k x Hc gc v Hc1 hx ⟨rfl, hk, hee, hc0, hc1, hnot, hlenc⟩ hh
      rw [List.getElem?_map] at hx
      obtain ⟨s, hs, rfl⟩ := Option.map_eq_some_iff.1 hx
      clear hx
      have hsl : s.length ≤ 1000000 := by
        have := subs_len _ _ _ s (List.mem_of_getElem? hs)
        omega
      have hel : (encE s).length = s.length := by simp [encE]
      have hfind : okWithout m s = true → smallS m = some s := small_find hlt hs hall hnot
      have hnext : okWithout m s = false → ∀ x ∈ (subs j 0 m.reads.length).take (k + 1), okWithout m x = false := fun h x hx => by
        obtain ⟨hlt2, hel2⟩ := List.getElem?_eq_some_iff.1 hs
        rw [List.take_succ_eq_append_getElem hlt2, hel2] at hx
        rcases List.mem_append.1 hx with h1 | h1
        · exact hnot x h1
        · simp at h1; rw [h1]; exact h
      generalize hks : keptN m.reads s m.reads.length = ks at *
      have hV := (without_good hG s).valid
      cases hh with
      | @row cs cap ht hcf =>
        rw [hel] at ht
        have hrd : RdS (Hc ++ [.row cs 1 true]) (.slice (some ⟨Hc.length, 0, none⟩) s.length cap) 1 (encI s) := rd_encE (own := true) (by simp) ht
        rw [hel]
        simp only [putPs, List.set_cons_zero, List.set_cons_succ]
        repeat' (first
          | ((fail_if_success (first | refine is_ucall ?_ | refine is_umcall ?_)); first | refine W1 ?_ | refine Wc ?_ | refine W2c ?_ ?_ | refine Wg ?_ | refine W2 ?_ ?_ | exact Wdead | refine Wlive (fun hb => ?_) | intro _ _ _ _ _ _ _ _ | refine We ?_ | refine Wx ?_ | refine Wt ?_ | refine Wm ?_ | refine W2m ?_ ?_ | refine Wl ?_)
          | fail)
        refine st_call rfl (withoutF_spec E _ _ m s1 s2 s3 s4 _ s (hm.ext extA) hrd hsl) ?_
        rintro _ _ gc ⟨⟨h0, rfl, rfl⟩ | ⟨h0, rfl, rfl⟩, rfl⟩
        · skip
          refine OpsJ.normA ?_
          repeat' (first
            | ((fail_if_success (first | refine is_ucall ?_ | refine is_umcall ?_)); first | refine W1 ?_ | refine Wc ?_ | refine W2c ?_ ?_ | refine Wg ?_ | refine W2 ?_ ?_ | exact Wdead | refine Wlive (fun hb => ?_) | intro _ _ _ _ _ _ _ _ | refine We ?_ | refine Wx ?_ | refine Wt ?_ | refine Wm ?_ | refine W2m ?_ ?_ | refine Wl ?_)
            | fail)
          refine st_callP (h := hasTruth_spec _ _ _ (without m s) s1 s2 s3 _ ((without_is (hm.ext extA) rfl).1 h0) hV) (k := ?_)
          refine We ?_
          cases hb : hasS (without m s) with
          | true =>
            repeat' (first
              | ((fail_if_success (first | refine is_ucall ?_ | refine is_umcall ?_)); first | refine W1 ?_ | refine Wc ?_ | refine W2c ?_ ?_ | refine Wg ?_ | refine W2 ?_ ?_ | exact Wdead | refine Wlive (fun hb => ?_) | intro _ _ _ _ _ _ _ _ | refine We ?_ | refine Wx ?_ | refine Wt ?_ | refine Wm ?_ | refine W2m ?_ ?_ | refine Wl ?_)
              | fail)
            exact ⟨rfl, rfl, (hk.app (by simp [AObj.dead?, ownedO])).set (by simp; omega) rfl, extA, s, _, hfind hb, getA, .inr ⟨Hc.length, cs, cap, rfl, getA, ht, hcf, by omega⟩⟩
          | false =>
            repeat' (first
              | ((fail_if_success (first | refine is_ucall ?_ | refine is_umcall ?_)); first | refine W1 ?_ | refine Wc ?_ | refine W2c ?_ ?_ | refine Wg ?_ | refine W2 ?_ ?_ | exact Wdead | refine Wlive (fun hb => ?_) | intro _ _ _ _ _ _ _ _ | refine We ?_ | refine Wx ?_ | refine Wt ?_ | refine Wm ?_ | refine W2m ?_ ?_ | refine Wl ?_)
              | fail)
            refine ⟨rfl, hk.app (by simp [AObj.dead?, ownedO]), extA, getA, getA, hnext hb, by first | omega | (simp; omega)⟩
        · skip
          refine OpsJ.normA ?_
          repeat' (first
            | ((fail_if_success (first | refine is_ucall ?_ | refine is_umcall ?_)); first | refine W1 ?_ | refine Wc ?_ | refine W2c ?_ ?_ | refine Wg ?_ | refine W2 ?_ ?_ | exact Wdead | refine Wlive (fun hb => ?_) | intro _ _ _ _ _ _ _ _ | refine We ?_ | refine Wx ?_ | refine Wt ?_ | refine Wm ?_ | refine W2m ?_ ?_ | refine Wl ?_)
            | fail)
          have hw := (without_is (H := Hc ++ [.row cs 1 true]) (hm.ext extA) (l := s) rfl).2
          simp only [List.append_assoc, List.cons_append, List.nil_append, List.length_append, List.length_cons, List.length_nil, Nat.zero_add] at hw
          refine st_callP (h := hasTruth_spec _ _ _ (without m s) s1 s2 s3 _ hw hV) (k := ?_)
          refine We ?_
          cases hb : hasS (without m s) with
          | true =>
            refine WPJ.kill (Hc.length + 1) ?_
            rw [show (Hc ++ [AObj.row cs 1 true, AObj.row ((keptN m.reads s m.reads.length).map encD).flatten 3 false] : AHeap).set (Hc.length + 1) .dead = (Hc ++ [AObj.row cs 1 true, AObj.dead] : AHeap) by simp]
            repeat' (first
              | ((fail_if_success (first | refine is_ucall ?_ | refine is_umcall ?_)); first | refine W1 ?_ | refine Wc ?_ | refine W2c ?_ ?_ | refine Wg ?_ | refine W2 ?_ ?_ | exact Wdead | refine Wlive (fun hb => ?_) | intro _ _ _ _ _ _ _ _ | refine We ?_ | refine Wx ?_ | refine Wt ?_ | refine Wm ?_ | refine W2m ?_ ?_ | refine Wl ?_)
              | fail)
            exact ⟨rfl, rfl, (hk.app (by simp [AObj.dead?, ownedO])).set (by simp; omega) rfl, extA, s, _, hfind hb, getA, .inr ⟨Hc.length, cs, cap, rfl, getA, ht, hcf, by omega⟩⟩
          | false =>
            refine WPJ.kill (Hc.length + 1) ?_
            rw [show (Hc ++ [AObj.row cs 1 true, AObj.row ((keptN m.reads s m.reads.length).map encD).flatten 3 false] : AHeap).set (Hc.length + 1) .dead = (Hc ++ [AObj.row cs 1 true, AObj.dead] : AHeap) by simp]
            repeat' (first
              | ((fail_if_success (first | refine is_ucall ?_ | refine is_umcall ?_)); first | refine W1 ?_ | refine Wc ?_ | refine W2c ?_ ?_ | refine Wg ?_ | refine W2 ?_ ?_ | exact Wdead | refine Wlive (fun hb => ?_) | intro _ _ _ _ _ _ _ _ | refine We ?_ | refine Wx ?_ | refine Wt ?_ | refine Wm ?_ | refine W2m ?_ ?_ | refine Wl ?_)
              | fail)
            refine ⟨rfl, hk.app (by simp [AObj.dead?, ownedO]), extA, getA, getA, hnext hb, by first | omega | (simp; omega)⟩
      | nil h =>
        have hs0 : s = [] := by simpa [encE] using h
        have hrd : RdS Hc (.slice none 0 0) 1 (encI s) := by rw [hs0]; exact ⟨fun x hx => (List.not_mem_nil hx).elim, Or.inr ⟨rfl, Or.inl rfl⟩⟩
        simp only [putPs, List.set_cons_zero, List.set_cons_succ]
        repeat' (first
          | ((fail_if_success (first | refine is_ucall ?_ | refine is_umcall ?_)); first | refine W1 ?_ | refine Wc ?_ | refine W2c ?_ ?_ | refine Wg ?_ | refine W2 ?_ ?_ | exact Wdead | refine Wlive (fun hb => ?_) | intro _ _ _ _ _ _ _ _ | refine We ?_ | refine Wx ?_ | refine Wt ?_ | refine Wm ?_ | refine W2m ?_ ?_ | refine Wl ?_)
          | fail)
        refine st_call rfl (withoutF_spec E _ _ m s1 s2 s3 s4 _ s (hm.ext extA) hrd hsl) ?_
        rintro _ _ gc ⟨⟨h0, rfl, rfl⟩ | ⟨h0, rfl, rfl⟩, rfl⟩
        · skip
          refine OpsJ.normA ?_
          repeat' (first
            | ((fail_if_success (first | refine is_ucall ?_ | refine is_umcall ?_)); first | refine W1 ?_ | refine Wc ?_ | refine W2c ?_ ?_ | refine Wg ?_ | refine W2 ?_ ?_ | exact Wdead | refine Wlive (fun hb => ?_) | intro _ _ _ _ _ _ _ _ | refine We ?_ | refine Wx ?_ | refine Wt ?_ | refine Wm ?_ | refine W2m ?_ ?_ | refine Wl ?_)
            | fail)
          refine st_callP (h := hasTruth_spec _ _ _ (without m s) s1 s2 s3 _ ((without_is (hm.ext extA) rfl).1 h0) hV) (k := ?_)
          refine We ?_
          cases hb : hasS (without m s) with
          | true =>
            repeat' (first
              | ((fail_if_success (first | refine is_ucall ?_ | refine is_umcall ?_)); first | refine W1 ?_ | refine Wc ?_ | refine W2c ?_ ?_ | refine Wg ?_ | refine W2 ?_ ?_ | exact Wdead | refine Wlive (fun hb => ?_) | intro _ _ _ _ _ _ _ _ | refine We ?_ | refine Wx ?_ | refine Wt ?_ | refine Wm ?_ | refine W2m ?_ ?_ | refine Wl ?_)
              | fail)
            exact ⟨rfl, rfl, hk.set (by simp; omega) rfl, extA, s, _, hfind hb, getA, .inl ⟨hs0, rfl⟩⟩
          | false =>
            repeat' (first
              | ((fail_if_success (first | refine is_ucall ?_ | refine is_umcall ?_)); first | refine W1 ?_ | refine Wc ?_ | refine W2c ?_ ?_ | refine Wg ?_ | refine W2 ?_ ?_ | exact Wdead | refine Wlive (fun hb => ?_) | intro _ _ _ _ _ _ _ _ | refine We ?_ | refine Wx ?_ | refine Wt ?_ | refine Wm ?_ | refine W2m ?_ ?_ | refine Wl ?_)
              | fail)
            refine ⟨rfl, hk, extA, getA, getA, hnext hb, by first | omega | (simp; omega)⟩
        · skip
          refine OpsJ.normA ?_
          repeat' (first
            | ((fail_if_success (first | refine is_ucall ?_ | refine is_umcall ?_)); first | refine W1 ?_ | refine Wc ?_ | refine W2c ?_ ?_ | refine Wg ?_ | refine W2 ?_ ?_ | exact Wdead | refine Wlive (fun hb => ?_) | intro _ _ _ _ _ _ _ _ | refine We ?_ | refine Wx ?_ | refine Wt ?_ | refine Wm ?_ | refine W2m ?_ ?_ | refine Wl ?_)
            | fail)
          refine st_callP (h := hasTruth_spec _ _ _ (without m s) s1 s2 s3 _ (without_is (hm.ext extA) (l := s) rfl).2 hV) (k := ?_)
          refine We ?_
          cases hb : hasS (without m s) with
          | true =>
            refine WPJ.kill (Hc.length) ?_
            rw [show (Hc ++ [AObj.row ((keptN m.reads s m.reads.length).map encD).flatten 3 false] : AHeap).set Hc.length .dead = (Hc ++ [AObj.dead] : AHeap) by simp]
            repeat' (first
              | ((fail_if_success (first | refine is_ucall ?_ | refine is_umcall ?_)); first | refine W1 ?_ | refine Wc ?_ | refine W2c ?_ ?_ | refine Wg ?_ | refine W2 ?_ ?_ | exact Wdead | refine Wlive (fun hb => ?_) | intro _ _ _ _ _ _ _ _ | refine We ?_ | refine Wx ?_ | refine Wt ?_ | refine Wm ?_ | refine W2m ?_ ?_ | refine Wl ?_)
              | fail)
            exact ⟨rfl, rfl, (hk.app (by simp [AObj.dead?])).set (by simp; omega) rfl, extA, s, _, hfind hb, getA, .inl ⟨hs0, rfl⟩⟩
          | false =>
            refine WPJ.kill (Hc.length) ?_
            rw [show (Hc ++ [AObj.row ((keptN m.reads s m.reads.length).map encD).flatten 3 false] : AHeap).set Hc.length .dead = (Hc ++ [AObj.dead] : AHeap) by simp]
            repeat' (first
              | ((fail_if_success (first | refine is_ucall ?_ | refine is_umcall ?_)); first | refine W1 ?_ | refine Wc ?_ | refine W2c ?_ ?_ | refine Wg ?_ | refine W2 ?_ ?_ | exact Wdead | refine Wlive (fun hb => ?_) | intro _ _ _ _ _ _ _ _ | refine We ?_ | refine Wx ?_ | refine Wt ?_ | refine Wm ?_ | refine W2m ?_ ?_ | refine Wl ?_)
              | fail)
            refine ⟨rfl, hk.app (by simp [AObj.dead?]), extA, getA, getA, hnext hb, by first | omega | (simp; omega)⟩
    · rintro Hc gc ⟨rfl, hk, hee, hc0, hc1, hnot, hlenc⟩
      rw [List.length_map, List.take_length] at hnot
      repeat' (first
        | ((fail_if_success (first | refine is_ucall ?_ | refine is_umcall ?_)); first | refine W1 ?_ | refine Wc ?_ | refine W2c ?_ ?_ | refine Wg ?_ | refine W2 ?_ ?_ | exact Wdead | refine Wlive (fun hb => ?_) | intro _ _ _ _ _ _ _ _ | refine We ?_ | refine Wx ?_ | refine Wt ?_ | refine Wm ?_ | refine W2m ?_ ?_ | refine Wl ?_)
        | fail)
      refine ⟨(), hlt, (by repeat' (first | exact Weak.nil | refine Weak.wild ?_ | refine Weak.same ?_ | refine Weak.intEq (by first | omega | (simp; done) | (push_cast; omega)) ?_)), rfl, hee, hc0, hc1, fun s hs => ?_, by omega⟩
      rw [upToN_step] at hs
      exact (List.mem_append.1 hs).elim (hall s) (hnot s)
    · rintro c Hc gc ⟨rfl, rfl, hk, hee, s, v, hsm, hc1, hat⟩
      rw [hsm]
      repeat' (first
        | ((fail_if_success (first | refine is_ucall ?_ | refine is_umcall ?_)); first | refine W1 ?_ | refine Wc ?_ | refine W2c ?_ ?_ | refine Wg ?_ | refine W2 ?_ ?_ | exact Wdead | refine Wlive (fun hb => ?_) | intro _ _ _ _ _ _ _ _ | refine We ?_ | refine Wx ?_ | refine Wt ?_ | refine Wm ?_ | refine W2m ?_ ?_ | refine Wl ?_)
        | fail)
      rcases hat with ⟨h0, rfl⟩ | ⟨i, cs, cap, rfl, hi, ht, hcf, hn⟩
      · exact Tidy.ext hee (.flat rfl) ⟨.inl ⟨h0, rfl, rfl⟩, rfl⟩
      · refine Tidy.row hee hi hn hcf (.slice (j := 0) rfl) ⟨.inr ⟨cs, cap, rfl, rfl, ht, hcf⟩, rfl⟩
  · have hj' : j = m.reads.length + 1 := by omega
    have e : smallS m = none := by
      unfold smallS
      rw [List.find?_eq_none]
      intro s hs
      rw [hj'] at hall
      simp [hall s hs]
    rw [e]
    repeat' (first
      | ((fail_if_success (first | refine is_ucall ?_ | refine is_umcall ?_)); first | refine W1 ?_ | refine Wc ?_ | refine W2c ?_ ?_ | refine Wg ?_ | refine W2 ?_ ?_ | exact Wdead | refine Wlive (fun hb => ?_) | intro _ _ _ _ _ _ _ _ | refine We ?_ | refine Wx ?_ | refine Wt ?_ | refine Wm ?_ | refine W2m ?_ ?_ | refine Wl ?_)
      | fail)
    exact ⟨⟨rfl, rfl⟩, rfl⟩
def leaveS (m : CopM) : List Int := (smallS m).getD []
def LeaveO (H : AHeap) (m : CopM) (v : Value) (H' : AHeap) : Prop :=
  if checkS m = 0 then (leaveS m = [] ∧ v = .tuple #[.slice none 0 0, .int .i64 0] ∧ H' = H) ∨ ∃ cs cap, v = .tuple #[.slice (some ⟨H.length, 0, none⟩) (leaveS m).length cap, .int .i64 0] ∧ H' = H ++ [.row cs 1 true] ∧ cs.take (leaveS m).length = encE (leaveS m) ∧ cs.all flat1 = true
  else v = .tuple #[.slice none 0 0, .int .i64 (checkS m)] ∧ H' = H
theorem smallestSet_anyO (m : CopM) (s1 s2 s3 s4 : Value) (hm : CopIs H m s1 s2 s3 s4) (hG : Good m) :
    CallJ Try.prog E 108 [cv m s1 s2 s3 s4] (fun v H' g' => ((leaveS m = [] ∧ v = .slice none 0 0 ∧ H' = H) ∨ ∃ cs cap, v = .slice (some ⟨H.length, 0, none⟩) (leaveS m).length cap ∧ H' = H ++ [.row cs 1 true] ∧ cs.take (leaveS m).length = encE (leaveS m) ∧ cs.all flat1 = true) ∧ g' = g) H g := by
  refine (smallestSet_own E g H m s1 s2 s3 s4 hm hG).mono fun v H' g' h => ?_
  refine ⟨?_, h.2⟩
  have h1 := h.1
  unfold leaveS
  cases e : smallS m with
  | none => rw [e] at h1; exact .inl ⟨rfl, h1.1, h1.2⟩
  | some s => rw [e] at h1; exact h1
theorem Leave_own (m : CopM) (s1 s2 s3 s4 : Value) (hm : CopIs H m s1 s2 s3 s4) : CallJ Try.prog E 48 [cv m s1 s2 s3 s4] (fun v H' g' => LeaveO H m v H' ∧ g' = g) H g := by
  have hok := hm.cells
  refine CallJ.tidy ?_
  unfold cv
  refine CallJ.enter Try.func48 rfl (by simp only [Try.ntmps48, List.length_cons, List.length_nil, Nat.zero_add, Nat.reduceSub, List.replicate_succ, List.replicate_zero, List.cons_append, List.nil_append]; rfl) ?_
  repeat' (first
    | (refine is_ucall ?_; first
      | refine st_callP (h := CheckCopper_spec _ _ _ m s1 s2 s3 s4 (hm.ext extA)) (k := ?_)
      | fail)
    | (refine is_umcall ?_; first
      | refine mj_callP (h := CheckCopper_spec _ _ _ m s1 s2 s3 s4 (hm.ext extA)) (k := ?_)
      | fail)
    | ((fail_if_success (first | refine is_ucall ?_ | refine is_umcall ?_)); first | refine W1 ?_ | refine Wc ?_ | refine W2c ?_ ?_ | refine Wg ?_ | refine W2 ?_ ?_ | exact Wdead | refine Wlive (fun hb => ?_) | intro _ _ _ _ _ _ _ _ | refine We ?_ | refine Wx ?_ | refine Wt ?_ | refine Wm ?_ | refine W2m ?_ ?_ | refine Wl ?_)
    | fail)
  · exact ⟨by unfold LeaveO; rw [if_neg (by assumption)]; exact ⟨rfl, rfl⟩, rfl⟩
  · have hz : checkS m = 0 := by assumption
    refine st_call rfl (smallestSet_anyO E g _ m s1 s2 s3 s4 (hm.ext extA) (good_of hz)) ?_
    rintro _ _ g ⟨⟨h0, rfl, rfl⟩ | ⟨cs, cap, rfl, rfl, ht, hf⟩, rfl⟩
    · skip
      refine OpsJ.normA ?_
      repeat' (first
        | (refine is_ucall ?_; first
          | refine st_callP (h := CheckCopper_spec _ _ _ m s1 s2 s3 s4 (hm.ext extA)) (k := ?_)
          | fail)
        | (refine is_umcall ?_; first
          | refine mj_callP (h := CheckCopper_spec _ _ _ m s1 s2 s3 s4 (hm.ext extA)) (k := ?_)
          | fail)
        | ((fail_if_success (first | refine is_ucall ?_ | refine is_umcall ?_)); first | refine W1 ?_ | refine Wc ?_ | refine W2c ?_ ?_ | refine Wg ?_ | refine W2 ?_ ?_ | exact Wdead | refine Wlive (fun hb => ?_) | intro _ _ _ _ _ _ _ _ | refine We ?_ | refine Wx ?_ | refine Wt ?_ | refine Wm ?_ | refine W2m ?_ ?_ | refine Wl ?_)
        | fail)
      exact ⟨by unfold LeaveO; rw [if_pos hz]; exact .inl ⟨h0, rfl, rfl⟩, rfl⟩
    · skip
      refine OpsJ.normA ?_
      repeat' (first
        | (refine is_ucall ?_; first
          | refine st_callP (h := CheckCopper_spec _ _ _ m s1 s2 s3 s4 (hm.ext extA)) (k := ?_)
          | fail)
        | (refine is_umcall ?_; first
          | refine mj_callP (h := CheckCopper_spec _ _ _ m s1 s2 s3 s4 (hm.ext extA)) (k := ?_)
          | fail)
        | ((fail_if_success (first | refine is_ucall ?_ | refine is_umcall ?_)); first | refine W1 ?_ | refine Wc ?_ | refine W2c ?_ ?_ | refine Wg ?_ | refine W2 ?_ ?_ | exact Wdead | refine Wlive (fun hb => ?_) | intro _ _ _ _ _ _ _ _ | refine We ?_ | refine Wx ?_ | refine Wt ?_ | refine Wm ?_ | refine W2m ?_ ?_ | refine Wl ?_)
        | fail)
      refine Tidy.row (i := H.length + 1) (cells := cs) (es := 1) (own := true) extA getA (by omega) hf (.tuple2 (.slice (j := 0) rfl) (.flat rfl)) ⟨?_, rfl⟩
      unfold LeaveO
      rw [if_pos hz]
      exact .inr ⟨cs, cap, rfl, rfl, ht, hf⟩
end
end Go.Proofs.Ytjbiidlmpaibkaa
namespace Go.Proofs.Ytjbiidlmpaibkaa
open Go Go.Abs Go.Proofs
set_option maxHeartbeats 800000
attribute [local irreducible] CallJ OpsJ WPJ CallV MonoJ
theorem flatten_take2 {α : Type} {xs : List (List α)} (h : ∀ x ∈ xs, x.length = 2) : ∀ j, xs.flatten.take (j * 2) = (xs.take j).flatten := by
  induction xs with
  | nil => simp
  | cons x xs ih =>
    intro j
    cases j with
    | zero => simp
    | succ j =>
      have hx := h x (by simp)
      rw [List.flatten_cons, List.take_append, List.take_succ_cons, List.flatten_cons, List.take_of_length_le (by omega), ← ih (fun y hy => h y (by simp [hy]))]
      congr 2; omega
theorem flatten_drop2 {α : Type} {xs : List (List α)} (h : ∀ x ∈ xs, x.length = 2) : ∀ j, xs.flatten.drop (j * 2) = (xs.drop j).flatten := by
  induction xs with
  | nil => simp
  | cons x xs ih =>
    intro j
    cases j with
    | zero => simp
    | succ j =>
      have hx := h x (by simp)
      rw [List.flatten_cons, List.drop_append, List.drop_succ_cons, ← ih (fun y hy => h y (by simp [hy])), List.drop_of_length_le (by omega), List.nil_append]
      congr 1; omega
theorem flatten_len2 {α : Type} {xs : List (List α)} (h : ∀ x ∈ xs, x.length = 2) : xs.flatten.length = xs.length * 2 := by
  rw [List.length_flatten]
  induction xs with
  | nil => rfl
  | cons x xs ih => have := h x (by simp); have := ih (fun y hy => h y (by simp [hy])); simp_all; omega
theorem minimum_spec {γ : Type} (E : Env γ) (g : γ) (H : AHeap) (a : Int) (sv : Value) (xs : List Int) (hr : RdS H sv 1 (xs.map fun x => [.int .i64 x])) (hn : xs.length ≤ 1000000) :
    CallJ Try.prog E 126 [.int .i64 a, sv] (fun v H' g' => v = .int .i64 (xs.foldl min a) ∧ H' = H ∧ g' = g) H g := by
  refine CallJ.tidy ?_
  refine CallJ.enter Try.func126 rfl (by simp only [Try.ntmps126, List.length_cons, List.length_nil, Nat.zero_add, Nat.reduceAdd, Nat.reduceSub, List.replicate_succ, List.replicate_zero, List.cons_append, List.nil_append]; rfl) ?_
  repeat' (first
    | ((fail_if_success (first | refine is_ucall ?_ | refine is_umcall ?_)); first | refine W1 ?_ | refine Wc ?_ | refine W2c ?_ ?_ | refine Wg ?_ | refine W2 ?_ ?_ | exact Wdead | refine Wlive (fun hb => ?_) | intro _ _ _ _ _ _ _ _ | refine We ?_ | refine Wx ?_ | refine Wt ?_ | refine Wm ?_ | refine W2m ?_ ?_ | refine Wl ?_)
    | fail)
  refine WPJ.loopT xs.length [10, 11, 12, 6, 13, 14, 15, 16] (fun j (x : Int) => [(9, .int .i64 j), (0, .int .i64 x)]) (fun j x H1 g1 => H1 = H ∧ g1 = g ∧ x = (xs.take j).foldl min a) 0 a (Nat.zero_le _)
    (by intro p hp; simp at hp; rcases hp with rfl | rfl <;> rfl) ⟨rfl, rfl, rfl⟩ ?_
  rintro j x H1 g1 hj ⟨rfl, rfl, hx⟩ hl
  simp only [updT, maskT, List.set_cons_zero, List.set_cons_succ]
  rcases Nat.lt_or_ge j xs.length with hlt | hge
  · have hel : (xs.map fun x => [Value.int .i64 x])[j]? = some [.int .i64 xs[j]] := by simp [hlt]
    repeat' (first
      | ((fail_if_success (first | refine is_ucall ?_ | refine is_umcall ?_)); first | refine W1 ?_ | refine Wc ?_ | refine W2c ?_ ?_ | refine Wg ?_ | refine W2 ?_ ?_ | exact Wdead | refine Wlive (fun hb => ?_) | intro _ _ _ _ _ _ _ _ | refine We ?_ | refine Wx ?_ | refine Wt ?_ | refine Wm ?_ | refine W2m ?_ ?_ | refine Wl ?_)
      | fail)
    refine ⟨_, hlt, (by repeat' (first | exact Weak.nil | refine Weak.wild ?_ | refine Weak.same ?_ | refine Weak.intEq (by first | omega | (simp; done) | (push_cast; omega)) ?_)), rfl, rfl, ?_⟩
    rw [List.take_succ_eq_append_getElem hlt, List.foldl_append, ← hx, min_if]; rfl
  · skip
    repeat' (first
      | ((fail_if_success (first | refine is_ucall ?_ | refine is_umcall ?_)); first | refine W1 ?_ | refine Wc ?_ | refine W2c ?_ ?_ | refine Wg ?_ | refine W2 ?_ ?_ | exact Wdead | refine Wlive (fun hb => ?_) | intro _ _ _ _ _ _ _ _ | refine We ?_ | refine Wx ?_ | refine Wt ?_ | refine Wm ?_ | refine W2m ?_ ?_ | refine Wl ?_)
      | fail)
    obtain rfl : j = xs.length := by omega
    rw [List.take_length] at hx
    exact ⟨by rw [hx], rfl, rfl⟩
abbrev TM := Int × List Int
def loS (l : List TM) (q : TM → Int) : Int := (l.map q).foldl min 9223372036854775807
def hiS (l : List TM) (q : TM → Int) : Int := (l.map q).foldl max (-9223372036854775808)
theorem lo_step {l : List TM} (q : TM → Int) {k : Nat} {x : TM} (h : l[k]? = some x) : loS (l.take (k + 1)) q = min (loS (l.take k) q) (q x) := by
  obtain ⟨hlt, rfl⟩ := List.getElem?_eq_some_iff.1 h
  unfold loS
  rw [List.take_succ_eq_append_getElem hlt, List.map_append, List.foldl_append]; rfl
theorem hi_step {l : List TM} (q : TM → Int) {k : Nat} {x : TM} (h : l[k]? = some x) : hiS (l.take (k + 1)) q = max (hiS (l.take k) q) (q x) := by
  obtain ⟨hlt, rfl⟩ := List.getElem?_eq_some_iff.1 h
  unfold hiS
  rw [List.take_succ_eq_append_getElem hlt, List.map_append, List.foldl_append]; rfl
theorem rd_at {H : AHeap} {i : Nat} {n : Int} {own : Bool} (hi : H[i]? = some (.row [.int .i64 n] 1 own)) : RdS H (.slice (some ⟨i, 0, none⟩) 1 1) 1 ([n].map fun x => [.int .i64 x]) :=
  ⟨by simp, .inl ⟨i, 0, 1, [.int .i64 n], 1, own, rfl, hi, by simp, by simp⟩⟩
def mixR (f g : Nat → Int × Int) (n j : Nat) : List (List Value) := (List.range n).map fun k => if k < j then encR (f k) else encR (g k)
theorem mixR_two (f g : Nat → Int × Int) (n j : Nat) : ∀ x ∈ mixR f g n j, x.length = 2 := fun x hx => by
  simp only [mixR, List.mem_map] at hx
  obtain ⟨k, _, rfl⟩ := hx
  split <;> rfl
theorem mixR_len (f g : Nat → Int × Int) (n j : Nat) : (mixR f g n j).length = n := by simp [mixR]
theorem mixR_flen (f g : Nat → Int × Int) (n j : Nat) : (mixR f g n j).flatten.length = n * 2 := by rw [flatten_len2 (mixR_two _ _ _ _), mixR_len]
theorem mixR_zero (f : Nat → Int × Int) (c : Int × Int) (n : Nat) : mixR f (fun _ => c) n 0 = List.replicate n (encR c) := by
  unfold mixR
  rw [List.eq_replicate_iff]
  exact ⟨by simp, fun b hb => by simp at hb; exact hb.2.symm⟩
theorem mixR_all (f g : Nat → Int × Int) (n : Nat) : mixR f g n n = (List.range n).map fun k => encR (f k) := by
  unfold mixR
  exact List.map_congr_left fun k hk => by rw [if_pos (List.mem_range.1 hk)]
theorem mixR_none (f g : Nat → Int × Int) (n : Nat) : mixR f g n 0 = (List.range n).map fun k => encR (g k) := by
  unfold mixR
  exact List.map_congr_left fun k _ => by rw [if_neg (by omega)]
theorem mixR_get (f g : Nat → Int × Int) {n j k : Nat} (hk : j ≤ k) (hn : k < n) : ((mixR f g n j).flatten.drop (k * 2)).take 2 = encR (g k) := by
  rw [flatten_drop2 (mixR_two f g n j)]
  have hl : k < (mixR f g n j).length := by rw [mixR_len]; exact hn
  rw [List.drop_eq_getElem_cons hl, List.flatten_cons]
  have e : (mixR f g n j)[k] = encR (g k) := by simp [mixR, show ¬ k < j by omega]
  rw [e]; rfl
theorem mixR_step (f g : Nat → Int × Int) {n j : Nat} (h : j < n) : splice (mixR f g n j).flatten (j * 2) (encR (f j)) = (mixR f g n (j + 1)).flatten := by
  unfold splice
  rw [flatten_take2 (mixR_two f g n j), show j * 2 + (encR (f j)).length = (j + 1) * 2 by simp; omega, flatten_drop2 (mixR_two f g n j)]
  have e : mixR f g n (j + 1) = (mixR f g n j).take j ++ [encR (f j)] ++ (mixR f g n j).drop (j + 1) := by
    refine List.ext_getElem (by simp [mixR]; omega) fun k h1 h2 => ?_
    simp only [mixR, List.length_map, List.length_range] at h1
    rcases Nat.lt_trichotomy k j with hk | hk | hk
    · rw [List.getElem_append_left (by simp [mixR]; omega), List.getElem_append_left (by simp [mixR]; omega)]
      simp [mixR, hk, show k < j + 1 by omega]
    · subst hk
      rw [List.getElem_append_left (by simp [mixR]; omega), List.getElem_append_right (by simp [mixR]; omega)]
      simp [mixR]
    · rw [List.getElem_append_right (by simp [mixR]; omega)]
      simp [mixR, show ¬ k < j + 1 by omega]
      have e9 : j + 1 + (k - (min j n + 1)) = k := by omega
      rw [e9]
      split
      · omega
      · rfl
  rw [e]; simp
theorem mixR_flat (f g : Nat → Int × Int) (n j : Nat) : (mixR f g n j).flatten.all flat1 = true := List.all_eq_true.2 fun x hx => by
  obtain ⟨y, hy, hx⟩ := List.mem_flatten.1 hx
  simp only [mixR, List.mem_map] at hy
  obtain ⟨k, _, rfl⟩ := hy
  split at hx <;> (simp at hx; rcases hx with rfl | rfl <;> rfl)
def bdK (m : CopM) (q : TM → Nat → Int) (k : Nat) (j : Nat) : Int × Int := (loS ((truthsL m).take k) fun t => q t j, hiS ((truthsL m).take k) fun t => q t j)
def bdS (m : CopM) (q : TM → Nat → Int) (j : Nat) : Int × Int := (loS (truthsL m) fun t => q t j, hiS (truthsL m) fun t => q t j)
section
variable {γ : Type} (E : Env γ) (g : γ) (H : AHeap)
theorem bounds_spec (m : CopM) (s1 s2 s3 s4 : Value) (hm : CopIs H m s1 s2 s3 s4) (hG : Good m) (ff : FuncId) (q : TM → Nat → Int)
    (hf : ∀ (γ' : Type) (E' : Env γ') (g' : γ') (t : TM), t ∈ truthsL m → ∀ j, j < hrs m → ∀ H', Ext H H' → CallV Try.prog E' (.func (.func ff) ⟨[]⟩ ⟨[]⟩) [.agg ⟨wcells m s1 s2 s3 s4 (arr5 (hrs m) (hotS m t.1 t.2)) (arr5 (hrs m) (leftS m t.1 t.2))⟩, .int .i64 j] (fun v H2 g2 => v = .int .i64 (q t j) ∧ H2 = H' ∧ g2 = g') H' g') :
    CallJ Try.prog E 89 [.agg ⟨[.func (.func ff) ⟨[]⟩ ⟨[]⟩]⟩, cv m s1 s2 s3 s4] (fun v H' g' => v = .slice (some ⟨H.length, 0, none⟩) (hrs m) (hrs m) ∧ H' = H ++ [.row (((List.range (hrs m)).map (bdS m q)).map encR).flatten 2 true] ∧ g' = g) H g := by
  have hok := hm.cells
  have hl0 := hG.w.l0
  have hl4 := hG.w.l4
  obtain ⟨hn5, hnl⟩ := hrs_le hG.w
  refine CallJ.tidy ?_
  unfold cv
  refine CallJ.enter Try.func89 rfl (by simp only [Try.ntmps89, List.length_cons, List.length_nil, Nat.zero_add, Nat.reduceAdd, Nat.reduceSub, List.replicate_succ, List.replicate_zero, List.cons_append, List.nil_append]; rfl) ?_
  repeat' (first
    | (refine is_ucall ?_; first
      | refine st_callP (h := hours_spec _ _ _ m s1 s2 s3 s4 hok (by omega)) (k := ?_)
      | fail)
    | (refine is_umcall ?_; first
      | refine mj_callP (h := hours_spec _ _ _ m s1 s2 s3 s4 hok (by omega)) (k := ?_)
      | fail)
    | ((fail_if_success (first | refine is_ucall ?_ | refine is_umcall ?_)); first | refine W1 ?_ | refine Wc ?_ | refine W2c ?_ ?_ | refine Wg ?_ | refine W2 ?_ ?_ | exact Wdead | refine Wlive (fun hb => ?_) | intro _ _ _ _ _ _ _ _ | refine We ?_ | refine Wx ?_ | refine Wt ?_ | refine Wm ?_ | refine W2m ?_ ?_ | refine Wl ?_)
    | fail)
  refine WPJ.loopT (hrs m) [18, 19, 6, 20, 21, 22, 23, 24] (fun j (_ : Unit) => [(17, .int .i64 j)])
    (fun j _ H1 g1 => g1 = g ∧ Ext H H1 ∧ H1[H.length]? = some (.row [.func (.func ff) ⟨[]⟩ ⟨[]⟩] 1 true) ∧ H1[H.length + 1]? = some (.row (ccells m s1 s2 s3 s4) 1 true) ∧ H1[H.length + 2]? = some (.row (mixR (bdK m q 0) (fun _ => (0, 0)) (hrs m) j).flatten 2 true) ∧ H1[H.length + 3]? = some (.row [.slice (some ⟨H.length + 2, 0, none⟩) (m.last + 1).toNat (m.last + 1).toNat] 1 true) ∧ H.length + 3 < H1.length) 0 () (Nat.zero_le _)
    (by intro p hp; simp at hp; rcases hp with rfl; rfl) ⟨rfl, extA, getA, getA, by rw [mixR_zero]; exact getA, getA, by simp⟩ ?_
  rintro j _ H1 g1 hj ⟨rfl, he, hb0, hb1, hb2, hb3, hlen⟩ hl0'
  simp only [updT, maskT, List.set_cons_zero, List.set_cons_succ]
  rcases Nat.lt_or_ge j (hrs m) with hlt | hge
  · have hstep := mixR_step (bdK m q 0) (fun _ => (0, 0)) hlt
    have hfl := mixR_flen (bdK m q 0) (fun _ => (0, 0)) (hrs m) j
    generalize (mixR (bdK m q 0) (fun _ => (0, 0)) (hrs m) j).flatten = row at *
    repeat' (first
      | (refine is_ucall ?_; first
        | refine st_callP (h := hours_spec _ _ _ m s1 s2 s3 s4 hok (by omega)) (k := ?_)
        | fail)
      | (refine is_umcall ?_; first
        | refine mj_callP (h := hours_spec _ _ _ m s1 s2 s3 s4 hok (by omega)) (k := ?_)
        | fail)
      | ((fail_if_success (first | refine is_ucall ?_ | refine is_umcall ?_)); first | refine W1 ?_ | refine Wc ?_ | refine W2c ?_ ?_ | refine Wg ?_ | refine W2 ?_ ?_ | exact Wdead | refine Wlive (fun hb => ?_) | intro _ _ _ _ _ _ _ _ | refine We ?_ | refine Wx ?_ | refine Wt ?_ | refine Wm ?_ | refine W2m ?_ ?_ | refine Wl ?_)
      | fail)
    refine ⟨(), hlt, (by repeat' (first | exact Weak.nil | refine Weak.wild ?_ | refine Weak.same ?_ | refine Weak.intEq (by first | omega | (simp; done) | (push_cast; omega)) ?_)), rfl, extA, getA, getA, ?_, getA, by simp; omega⟩
    rw [← hstep]
    simp only [splice, encR, List.length_cons, List.length_nil, List.append_assoc, List.cons_append, List.nil_append, Nat.zero_add, Nat.reduceAdd]
    exact getA
  · obtain rfl : j = hrs m := by omega
    have hnn : (m.last + 1).toNat = hrs m := rfl
    rw [mixR_all] at hb2
    repeat' (first
      | (refine is_ucall ?_; first
        | refine st_callP (h := hours_spec _ _ _ m s1 s2 s3 s4 hok (by omega)) (k := ?_)
        | fail)
      | (refine is_umcall ?_; first
        | refine mj_callP (h := hours_spec _ _ _ m s1 s2 s3 s4 hok (by omega)) (k := ?_)
        | fail)
      | ((fail_if_success (first | refine is_ucall ?_ | refine is_umcall ?_)); first | refine W1 ?_ | refine Wc ?_ | refine W2c ?_ ?_ | refine Wg ?_ | refine W2 ?_ ?_ | exact Wdead | refine Wlive (fun hb => ?_) | intro _ _ _ _ _ _ _ _ | refine We ?_ | refine Wx ?_ | refine Wt ?_ | refine Wm ?_ | refine W2m ?_ ?_ | refine Wl ?_)
      | fail)
    refine st_call rfl (truths_spec E g1 _ m s1 s2 s3 s4 hok) ?_
    rintro _ _ g ⟨rfl, rfl, rfl⟩
    refine OpsJ.normA ?_
    repeat' (first
      | (refine is_ucall ?_; first
        | refine st_callP (h := hours_spec _ _ _ m s1 s2 s3 s4 hok (by omega)) (k := ?_)
        | fail)
      | (refine is_umcall ?_; first
        | refine mj_callP (h := hours_spec _ _ _ m s1 s2 s3 s4 hok (by omega)) (k := ?_)
        | fail)
      | ((fail_if_success (first | refine is_ucall ?_ | refine is_umcall ?_)); first | refine W1 ?_ | refine Wc ?_ | refine W2c ?_ ?_ | refine Wg ?_ | refine W2 ?_ ?_ | exact Wdead | refine Wlive (fun hb => ?_) | intro _ _ _ _ _ _ _ _ | refine We ?_ | refine Wx ?_ | refine Wt ?_ | refine Wm ?_ | refine W2m ?_ ?_ | refine Wl ?_)
      | fail)
    have hmx : CopIs (H1 ++ [.row (ccells m s1 s2 s3 s4) 1 true]) m s1 s2 s3 s4 := hm.ext (he.app _)
    refine WPJ.iter rfl (iter_truths (b := H1.length) (own := true) hmx hG.valid getA) (Ext.refl _)
      (fun k H2 g2 => g2 = g ∧ Kept (shH H1.length s1 s2 s3 s4) (H1 ++ [.row (ccells m s1 s2 s3 s4) 1 true]) H2 ∧ Ext H H2 ∧ H2[H.length]? = some (.row [.func (.func ff) ⟨[]⟩ ⟨[]⟩] 1 true) ∧ H2[H.length + 1]? = some (.row (ccells m s1 s2 s3 s4) 1 true) ∧ H2[H.length + 2]? = some (.row ((List.range (hrs m)).map fun j => encR (bdK m q k j)).flatten 2 true) ∧ H2[H.length + 3]? = some (.row [.slice (some ⟨H.length + 2, 0, none⟩) (m.last + 1).toNat (m.last + 1).toNat] 1 true) ∧ H1.length < H2.length)
      (fun c H2 g2 => False) ⟨rfl, Kept.refl _ _, extA, getA, getA, getA, getA, by simp⟩ (fun k H2 g2 h => h.2.1) (fun c H2 g2 h => h.elim) ?_ ?_ (fun _ _ _ h => h.elim)
    · rintro k t Hc gc ht ⟨rfl, hk, hec, hc0, hc1, hc2, hc3, hlc⟩
      have hmem := List.mem_of_getElem? ht
      have hTt := truths_tok hG.valid t hmem
      have htl : (tcells t.1 t.2).length = 6 := by simp [tcells, encE, hTt.n]
      have htk : (tcells t.1 t.2).take 6 = tcells t.1 t.2 := List.take_of_length_le (by omega)
      have hto := tcells_ok t.1 t.2
      have hwl := wcells_len m s1 s2 s3 s4 (arr5_len (hrs m) (hotS m t.1 t.2)) (arr5_len (hrs m) (leftS m t.1 t.2))
      have hwo := wcells_ok (arr5 (hrs m) (hotS m t.1 t.2)) (arr5 (hrs m) (leftS m t.1 t.2)) hok
      have hwt : (wcells m s1 s2 s3 s4 (arr5 (hrs m) (hotS m t.1 t.2)) (arr5 (hrs m) (leftS m t.1 t.2))).take 21 = wcells m s1 s2 s3 s4 (arr5 (hrs m) (hotS m t.1 t.2)) (arr5 (hrs m) (leftS m t.1 t.2)) := List.take_of_length_le (by omega)
      have hwork : ∀ (H' : AHeap) (g' : γ), Ext H H' → CallJ Try.prog E 77 [cv m s1 s2 s3 s4, .agg ⟨tcells t.1 t.2⟩] (fun v H2 g2 => v = .agg ⟨wcells m s1 s2 s3 s4 (arr5 (hrs m) (hotS m t.1 t.2)) (arr5 (hrs m) (leftS m t.1 t.2))⟩ ∧ H2 = H' ∧ g2 = g') H' g' := fun H' g' he => work_spec E g' H' m s1 s2 s3 s4 t.1 t.2 (hm.ext he).y hG.w hTt
      have hft := fun (γ' : Type) (E' : Env γ') (g' : γ') => hf γ' E' g' t hmem
      have hlo := fun j => lo_step (fun t => q t j) ht
      have hhi := fun j => hi_step (fun t => q t j) ht
      unfold tval
      generalize tcells t.1 t.2 = tc at *
      generalize wcells m s1 s2 s3 s4 (arr5 (hrs m) (hotS m t.1 t.2)) (arr5 (hrs m) (leftS m t.1 t.2)) = ws at *
      repeat' (first
        | (refine is_ucall ?_; first
          | refine st_callP (h := hours_spec _ _ _ m s1 s2 s3 s4 hok (by omega)) (k := ?_)
          | fail)
        | (refine is_umcall ?_; first
          | refine mj_callP (h := hours_spec _ _ _ m s1 s2 s3 s4 hok (by omega)) (k := ?_)
          | fail)
        | ((fail_if_success (first | refine is_ucall ?_ | refine is_umcall ?_)); first | refine W1 ?_ | refine Wc ?_ | refine W2c ?_ ?_ | refine Wg ?_ | refine W2 ?_ ?_ | exact Wdead | refine Wlive (fun hb => ?_) | intro _ _ _ _ _ _ _ _ | refine We ?_ | refine Wx ?_ | refine Wt ?_ | refine Wm ?_ | refine W2m ?_ ?_ | refine Wl ?_)
        | fail)
      refine st_callP (h := hwork _ _ extA) (k := ?_)
      refine OpsJ.normA ?_
      repeat' (first
        | (refine is_ucall ?_; first
          | refine st_callP (h := hours_spec _ _ _ m s1 s2 s3 s4 hok (by omega)) (k := ?_)
          | fail)
        | (refine is_umcall ?_; first
          | refine mj_callP (h := hours_spec _ _ _ m s1 s2 s3 s4 hok (by omega)) (k := ?_)
          | fail)
        | ((fail_if_success (first | refine is_ucall ?_ | refine is_umcall ?_)); first | refine W1 ?_ | refine Wc ?_ | refine W2c ?_ ?_ | refine Wg ?_ | refine W2 ?_ ?_ | exact Wdead | refine Wlive (fun hb => ?_) | intro _ _ _ _ _ _ _ _ | refine We ?_ | refine Wx ?_ | refine Wt ?_ | refine Wm ?_ | refine W2m ?_ ?_ | refine Wl ?_)
        | fail)
      refine WPJ.loopT (hrs m) [34, 35, 36, 37, 10, 9, 38, 39, 40, 41, 42, 11, 43, 44, 45, 46, 47, 48, 49, 50, 51, 52, 53, 54, 55, 56] (fun j (_ : Unit) => [(33, .int .i64 j)])
        (fun j _ H2 g2 => g2 = gc ∧ Kept (shH H1.length s1 s2 s3 s4) (H1 ++ [.row (ccells m s1 s2 s3 s4) 1 true]) H2 ∧ Ext H H2 ∧ H2[H.length]? = some (.row [.func (.func ff) ⟨[]⟩ ⟨[]⟩] 1 true) ∧ H2[H.length + 1]? = some (.row (ccells m s1 s2 s3 s4) 1 true) ∧ H2[H.length + 2]? = some (.row (mixR (bdK m q (k + 1)) (bdK m q k) (hrs m) j).flatten 2 true) ∧ H2[H.length + 3]? = some (.row [.slice (some ⟨H.length + 2, 0, none⟩) (m.last + 1).toNat (m.last + 1).toNat] 1 true) ∧ H2[Hc.length + 1]? = some (.row ws 1 true) ∧ Hc.length + 1 < H2.length) 0 () (Nat.zero_le _)
        (by intro p hp; simp at hp; rcases hp with rfl; rfl) ⟨rfl, Kept.app hk (.cons (.inr rfl) (.cons (.inr rfl) .nil)), extA, getA, getA, by rw [mixR_none]; exact getA, getA, getA, by simp⟩ ?_
      rintro j _ H2 g2 hj2 ⟨rfl, hk2, he2, hd0, hd1, hd2, hd3, hd4, hld⟩ hl1
      simp only [updT, maskT, List.set_cons_zero, List.set_cons_succ]
      rcases Nat.lt_or_ge j (hrs m) with hlt | hge
      · have hstep := mixR_step (bdK m q (k + 1)) (bdK m q k) hlt
        have hfl := mixR_flen (bdK m q (k + 1)) (bdK m q k) (hrs m) j
        have hgt := mixR_get (bdK m q (k + 1)) (bdK m q k) (n := hrs m) (j := j) (k := j) (Nat.le_refl _) hlt
        have hbk : bdK m q (k + 1) j = (min (bdK m q k j).1 (q t j), max (bdK m q k j).2 (q t j)) := by
          unfold bdK; rw [hlo j, hhi j]
        have hsh : H.length + 2 ∉ shH H1.length s1 s2 s3 s4 := shH_not hm (by omega) (by omega)
        rw [hbk] at hstep
        generalize (mixR (bdK m q (k + 1)) (bdK m q k) (hrs m) j).flatten = row at *
        generalize bdK m q k j = bb at *
        obtain ⟨lo, hi⟩ := bb
        simp only [encR] at hgt
        repeat' (first
          | (refine is_ucall ?_; first
            | refine st_callP (h := hours_spec _ _ _ m s1 s2 s3 s4 hok (by omega)) (k := ?_)
            | fail)
          | (refine is_umcall ?_; first
            | refine mj_callP (h := hours_spec _ _ _ m s1 s2 s3 s4 hok (by omega)) (k := ?_)
            | fail)
          | ((fail_if_success (first | refine is_ucall ?_ | refine is_umcall ?_)); first | refine W1 ?_ | refine Wc ?_ | refine W2c ?_ ?_ | refine Wg ?_ | refine W2 ?_ ?_ | exact Wdead | refine Wlive (fun hb => ?_) | intro _ _ _ _ _ _ _ _ | refine We ?_ | refine Wx ?_ | refine Wt ?_ | refine Wm ?_ | refine W2m ?_ ?_ | refine Wl ?_)
          | fail)
        refine st_callVP (h := hft γ E _ j hlt _ extA) (k := ?_)
        generalize q t j = x at *
        refine OpsJ.normA ?_
        repeat' (first
          | (refine is_ucall ?_; first
            | refine st_callP (h := hours_spec _ _ _ m s1 s2 s3 s4 hok (by omega)) (k := ?_)
            | fail)
          | (refine is_umcall ?_; first
            | refine mj_callP (h := hours_spec _ _ _ m s1 s2 s3 s4 hok (by omega)) (k := ?_)
            | fail)
          | ((fail_if_success (first | refine is_ucall ?_ | refine is_umcall ?_)); first | refine W1 ?_ | refine Wc ?_ | refine W2c ?_ ?_ | refine Wg ?_ | refine W2 ?_ ?_ | exact Wdead | refine Wlive (fun hb => ?_) | intro _ _ _ _ _ _ _ _ | refine We ?_ | refine Wx ?_ | refine Wt ?_ | refine Wm ?_ | refine W2m ?_ ?_ | refine Wl ?_)
          | fail)
        refine WPJ.draw 13 mixed (by kernel_rfl) (by kernel_rfl) (by kernel_rfl) (by decide) ?_
        refine MonoJ.normA ?_
        repeat' (first
          | (refine is_ucall ?_; first
            | refine st_callP (h := hours_spec _ _ _ m s1 s2 s3 s4 hok (by omega)) (k := ?_)
            | fail)
          | (refine is_umcall ?_; first
            | refine mj_callP (h := hours_spec _ _ _ m s1 s2 s3 s4 hok (by omega)) (k := ?_)
            | fail)
          | ((fail_if_success (first | refine is_ucall ?_ | refine is_umcall ?_)); first | refine W1 ?_ | refine Wc ?_ | refine W2c ?_ ?_ | refine Wg ?_ | refine W2 ?_ ?_ | exact Wdead | refine Wlive (fun hb => ?_) | intro _ _ _ _ _ _ _ _ | refine We ?_ | refine Wx ?_ | refine Wt ?_ | refine Wm ?_ | refine W2m ?_ ?_ | refine Wl ?_)
          | fail)
        refine mj_callP (h := minimum_spec _ _ _ _ _ [x] (rd_at getA) (by simp)) (k := ?_)
        refine MonoJ.normA ?_
        repeat' (first
          | (refine is_ucall ?_; first
            | refine st_callP (h := hours_spec _ _ _ m s1 s2 s3 s4 hok (by omega)) (k := ?_)
            | fail)
          | (refine is_umcall ?_; first
            | refine mj_callP (h := hours_spec _ _ _ m s1 s2 s3 s4 hok (by omega)) (k := ?_)
            | fail)
          | ((fail_if_success (first | refine is_ucall ?_ | refine is_umcall ?_)); first | refine W1 ?_ | refine Wc ?_ | refine W2c ?_ ?_ | refine Wg ?_ | refine W2 ?_ ?_ | exact Wdead | refine Wlive (fun hb => ?_) | intro _ _ _ _ _ _ _ _ | refine We ?_ | refine Wx ?_ | refine Wt ?_ | refine Wm ?_ | refine W2m ?_ ?_ | refine Wl ?_)
          | fail)
        refine ⟨(), hlt, (by repeat' (first | exact Weak.nil | refine Weak.wild ?_ | refine Weak.same ?_ | refine Weak.intEq (by first | omega | (simp; done) | (push_cast; omega)) ?_)), rfl, Kept.set (Kept.app hk2 (.cons (.inr rfl) (.cons (.inr rfl) .nil))) hsh rfl, extA, getA, getA, ?_, getA, getA, by simp; omega⟩
        rw [← hstep, ← max_if]
        simp only [splice, encR, List.length_cons, List.length_nil, List.append_assoc, List.cons_append, List.nil_append, Nat.zero_add, Nat.reduceAdd]
        exact getA
      · obtain rfl : j = hrs m := by omega
        rw [mixR_all] at hd2
        repeat' (first
          | (refine is_ucall ?_; first
            | refine st_callP (h := hours_spec _ _ _ m s1 s2 s3 s4 hok (by omega)) (k := ?_)
            | fail)
          | (refine is_umcall ?_; first
            | refine mj_callP (h := hours_spec _ _ _ m s1 s2 s3 s4 hok (by omega)) (k := ?_)
            | fail)
          | ((fail_if_success (first | refine is_ucall ?_ | refine is_umcall ?_)); first | refine W1 ?_ | refine Wc ?_ | refine W2c ?_ ?_ | refine Wg ?_ | refine W2 ?_ ?_ | exact Wdead | refine Wlive (fun hb => ?_) | intro _ _ _ _ _ _ _ _ | refine We ?_ | refine Wx ?_ | refine Wt ?_ | refine Wm ?_ | refine W2m ?_ ?_ | refine Wl ?_)
          | fail)
        exact ⟨rfl, hk2, extA, hd0, hd1, hd2, hd3, by omega⟩
    · rintro Hc gc ⟨rfl, hk, hec, hc0, hc1, hc2, hc3, hlc⟩
      have e : (((List.range (hrs m)).map (bdS m q)).map encR).flatten = ((List.range (hrs m)).map fun j => encR (bdK m q (truthsL m).length j)).flatten := by
        rw [List.map_map]
        congr 1
        refine List.map_congr_left fun j _ => ?_
        simp [bdS, bdK]
      rw [e]
      repeat' (first
        | (refine is_ucall ?_; first
          | refine st_callP (h := hours_spec _ _ _ m s1 s2 s3 s4 hok (by omega)) (k := ?_)
          | fail)
        | (refine is_umcall ?_; first
          | refine mj_callP (h := hours_spec _ _ _ m s1 s2 s3 s4 hok (by omega)) (k := ?_)
          | fail)
        | ((fail_if_success (first | refine is_ucall ?_ | refine is_umcall ?_)); first | refine W1 ?_ | refine Wc ?_ | refine W2c ?_ ?_ | refine Wg ?_ | refine W2 ?_ ?_ | exact Wdead | refine Wlive (fun hb => ?_) | intro _ _ _ _ _ _ _ _ | refine We ?_ | refine Wx ?_ | refine Wt ?_ | refine Wm ?_ | refine W2m ?_ ?_ | refine Wl ?_)
        | fail)
      refine Tidy.one (i := H.length + 2) extA hc2 (by omega) (by rw [← mixR_all (bdK m q (truthsL m).length) (fun _ => (0, 0))]; exact mixR_flat _ _ _ _) (.slice (j := 0) rfl) ⟨rfl, rfl, rfl⟩
end
end Go.Proofs.Ytjbiidlmpaibkaa
namespace Go.Proofs.Ytjbiidlmpaibkaa
open Go Go.Abs Go.Proofs
set_option maxHeartbeats 800000
attribute [local irreducible] CallJ OpsJ WPJ CallV MonoJ
def hotQ (m : CopM) (t : TM) (j : Nat) : Int := hotS m t.1 t.2 j
def leftQ (m : CopM) (t : TM) (j : Nat) : Int := leftS m t.1 t.2 j
def hotB (m : CopM) : List (Int × Int) := (List.range (hrs m)).map (bdS m (hotQ m))
def leftB (m : CopM) : List (Int × Int) := (List.range (hrs m)).map (bdS m (leftQ m))
theorem rows_flat (l : List (Int × Int)) : (l.map encR).flatten.all flat1 = true := List.all_eq_true.2 fun x hx => by
  obtain ⟨y, hy, hx⟩ := List.mem_flatten.1 hx
  obtain ⟨k, _, rfl⟩ := List.mem_map.1 hy
  simp at hx; rcases hx with rfl | rfl <;> rfl
section
variable {γ : Type} (E : Env γ) (g : γ) (H : AHeap)
theorem hot_V (m : CopM) (s1 s2 s3 s4 : Value) (hok : (ccells m s1 s2 s3 s4).all cellOk = true) (hW : WOk m) (t : TM) (j : Nat) (hj : j < hrs m) :
    CallV Try.prog E (.func (.func 88) ⟨[]⟩ ⟨[]⟩) [.agg ⟨wcells m s1 s2 s3 s4 (arr5 (hrs m) (hotS m t.1 t.2)) (arr5 (hrs m) (leftS m t.1 t.2))⟩, .int .i64 j] (fun v H2 g2 => v = .int .i64 (hotQ m t j) ∧ H2 = H ∧ g2 = g) H g :=
  have hn5 := (hrs_le hW).1
  CallV.of_func EntC.ent (hotIn_spec E g H m s1 s2 s3 s4 _ _ j _ hok (arr5_len _ _) (arr5_len _ _) (by omega) (arr5_get (by omega) (by omega)))
theorem left_V (m : CopM) (s1 s2 s3 s4 : Value) (hok : (ccells m s1 s2 s3 s4).all cellOk = true) (hW : WOk m) (t : TM) (j : Nat) (hj : j < hrs m) :
    CallV Try.prog E (.func (.func 90) ⟨[]⟩ ⟨[]⟩) [.agg ⟨wcells m s1 s2 s3 s4 (arr5 (hrs m) (hotS m t.1 t.2)) (arr5 (hrs m) (leftS m t.1 t.2))⟩, .int .i64 j] (fun v H2 g2 => v = .int .i64 (leftQ m t j) ∧ H2 = H ∧ g2 = g) H g :=
  have hn5 := (hrs_le hW).1
  CallV.of_func EntC.ent (leftAfter_spec E g H m s1 s2 s3 s4 _ _ j _ hok (arr5_len _ _) (arr5_len _ _) (by omega) (arr5_get (by omega) (by omega)))
theorem Bounds_spec (m : CopM) (s1 s2 s3 s4 : Value) (hm : CopIs H m s1 s2 s3 s4) : CallJ Try.prog E 31 [cv m s1 s2 s3 s4] (fun v H' g' => (if checkT m = 0 then v = .tuple #[.slice (some ⟨H.length, 0, none⟩) (hrs m) (hrs m), .slice (some ⟨H.length + 1, 0, none⟩) (hrs m) (hrs m), .int .i64 0] ∧ H' = H ++ [.row ((hotB m).map encR).flatten 2 true, .row ((leftB m).map encR).flatten 2 true] else v = .tuple #[.slice none 0 0, .slice none 0 0, .int .i64 (checkT m)] ∧ H' = H) ∧ g' = g) H g := by
  have hok := hm.cells
  refine CallJ.tidy ?_
  unfold cv
  refine CallJ.enter Try.func31 rfl (by simp only [Try.ntmps31, List.length_cons, List.length_nil, Nat.zero_add, Nat.reduceSub, List.replicate_succ, List.replicate_zero, List.cons_append, List.nil_append]; rfl) ?_
  repeat' (first
    | (refine is_ucall ?_; first
      | refine st_callP (h := checkTruth_spec _ _ _ m s1 s2 s3 s4 (hm.ext extA)) (k := ?_)
      | fail)
    | (refine is_umcall ?_; first
      | refine mj_callP (h := checkTruth_spec _ _ _ m s1 s2 s3 s4 (hm.ext extA)) (k := ?_)
      | fail)
    | ((fail_if_success (first | refine is_ucall ?_ | refine is_umcall ?_)); first | refine W1 ?_ | refine Wc ?_ | refine W2c ?_ ?_ | refine Wg ?_ | refine W2 ?_ ?_ | exact Wdead | refine Wlive (fun hb => ?_) | intro _ _ _ _ _ _ _ _ | refine We ?_ | refine Wx ?_ | refine Wt ?_ | refine Wm ?_ | refine W2m ?_ ?_ | refine Wl ?_)
    | fail)
  · rw [if_neg (by assumption)]; exact ⟨⟨rfl, rfl⟩, rfl⟩
  · have hz : checkT m = 0 := by assumption
    have hG := good_of (checkT_zero hz)
    refine WPJ.draw 6 mixed (by kernel_rfl) (by kernel_rfl) (by kernel_rfl) (by decide) ?_
    refine MonoJ.normA ?_
    repeat' (first
      | (refine is_ucall ?_; first
        | refine st_callP (h := checkTruth_spec _ _ _ m s1 s2 s3 s4 (hm.ext extA)) (k := ?_)
        | fail)
      | (refine is_umcall ?_; first
        | refine mj_callP (h := checkTruth_spec _ _ _ m s1 s2 s3 s4 (hm.ext extA)) (k := ?_)
        | fail)
      | ((fail_if_success (first | refine is_ucall ?_ | refine is_umcall ?_)); first | refine W1 ?_ | refine Wc ?_ | refine W2c ?_ ?_ | refine Wg ?_ | refine W2 ?_ ?_ | exact Wdead | refine Wlive (fun hb => ?_) | intro _ _ _ _ _ _ _ _ | refine We ?_ | refine Wx ?_ | refine Wt ?_ | refine Wm ?_ | refine W2m ?_ ?_ | refine Wl ?_)
      | fail)
    refine mj_callL (h := bounds_spec _ _ _ m s1 s2 s3 s4 (hm.ext extA) hG _ (hotQ m) (fun γ' E' g' t _ j hj H' _ => hot_V E' g' H' m s1 s2 s3 s4 hok hG.w t j hj)) (k := ?_)
    refine MonoJ.normA ?_
    repeat' (first
      | (refine is_ucall ?_; first
        | refine st_callP (h := checkTruth_spec _ _ _ m s1 s2 s3 s4 (hm.ext extA)) (k := ?_)
        | fail)
      | (refine is_umcall ?_; first
        | refine mj_callP (h := checkTruth_spec _ _ _ m s1 s2 s3 s4 (hm.ext extA)) (k := ?_)
        | fail)
      | ((fail_if_success (first | refine is_ucall ?_ | refine is_umcall ?_)); first | refine W1 ?_ | refine Wc ?_ | refine W2c ?_ ?_ | refine Wg ?_ | refine W2 ?_ ?_ | exact Wdead | refine Wlive (fun hb => ?_) | intro _ _ _ _ _ _ _ _ | refine We ?_ | refine Wx ?_ | refine Wt ?_ | refine Wm ?_ | refine W2m ?_ ?_ | refine Wl ?_)
      | fail)
    refine mj_callL (h := bounds_spec _ _ _ m s1 s2 s3 s4 (hm.ext extA) hG _ (leftQ m) (fun γ' E' g' t _ j hj H' _ => left_V E' g' H' m s1 s2 s3 s4 hok hG.w t j hj)) (k := ?_)
    refine MonoJ.normA ?_
    repeat' (first
      | (refine is_ucall ?_; first
        | refine st_callP (h := checkTruth_spec _ _ _ m s1 s2 s3 s4 (hm.ext extA)) (k := ?_)
        | fail)
      | (refine is_umcall ?_; first
        | refine mj_callP (h := checkTruth_spec _ _ _ m s1 s2 s3 s4 (hm.ext extA)) (k := ?_)
        | fail)
      | ((fail_if_success (first | refine is_ucall ?_ | refine is_umcall ?_)); first | refine W1 ?_ | refine Wc ?_ | refine W2c ?_ ?_ | refine Wg ?_ | refine W2 ?_ ?_ | exact Wdead | refine Wlive (fun hb => ?_) | intro _ _ _ _ _ _ _ _ | refine We ?_ | refine Wx ?_ | refine Wt ?_ | refine Wm ?_ | refine W2m ?_ ?_ | refine Wl ?_)
      | fail)
    refine Tidy.rows2 (i := H.length + 1) (k := H.length + 2) (c1 := ((hotB m).map encR).flatten) (c2 := ((leftB m).map encR).flatten) (e1 := 2) (e2 := 2) extA getA getA (by omega) (by omega) (by omega) (rows_flat _) (rows_flat _) (.tuple3 (.slice (j := 0) rfl) (.slice (j := 1) rfl) (.flat rfl)) ?_
    rw [if_pos hz]; exact ⟨⟨rfl, rfl⟩, rfl⟩
end
end Go.Proofs.Ytjbiidlmpaibkaa
namespace Go.Proofs.Ytjbiidlmpaibkaa
open Go Go.Abs Go.Proofs
set_option maxHeartbeats 800000
attribute [local irreducible] CallJ OpsJ WPJ CallV MonoJ
theorem PlainA.of {α : Type} {enc : α → List Value} {w n : Nat} {H : AHeap} {v : Value} {l : List α} (h : AppG enc w H n v l) (hf : ∀ a, (enc a).all flat1 = true) : PlainA H v := by
  rcases h with ⟨rfl, _⟩ | ⟨i, rfl, hi, _, _⟩
  · intro i hi; simp [idOf] at hi
  · intro k hk
    simp [idOf] at hk; subst hk
    refine ⟨_, _, _, hi, fun x hx => ?_⟩
    obtain ⟨y, hy, hx⟩ := List.mem_flatten.1 hx
    obtain ⟨a, _, rfl⟩ := List.mem_map.1 hy
    exact Plain.flat (List.all_eq_true.1 (hf a) x hx)
theorem Kept.kill {sh : List Nat} {H0 H2 : AHeap} {j : Nat} (h : Kept sh H0 H2) (hj : j ∉ sh) : Kept sh H0 (H2.set j .dead) := by
  refine ⟨fun i hi c es own hc => ?_, fun i x hx hd hn => ?_⟩
  · rw [List.getElem?_set_ne (fun (e : j = i) => hj (by rw [e]; exact hi))]; exact h.1 i hi c es own hc
  · rw [List.getElem?_set] at hx
    split at hx
    · split at hx
      · cases hx; cases hd
      · cases hx
    · exact h.2 i x hx hd hn
theorem st_appKept {γ : Type} {P : Program} {E : Env γ} {T : List Value} {H : AHeap} {g : γ} {R : List Value → AHeap → γ → Prop} {ops : Array Oper} {dst : Option Tmp} {ty : TypeId} {ps : String} {af : Array Edge} {rest : List Oper} {α : Type} {enc : α → List Value} {w n : Nat} {v : Value} {l : List α} {s x : Operand} {t e : TypeId} {nn : Nat} {z : Value} {b : Nat} {d' : TypeDesc} {z' : Value} {b' : Nat} {i o cap : Nat} {cells : List Value} {es : Nat} {own : Bool} {a : α}
    [ht : TyC P t (.slice e) nn z b] [he : TyC P e d' w z' b'] (hA : AppG enc w H n v l) (hz' : (cellsL z').length = w) (hw : ∀ a, (enc a).length = w) (hs : evalT T s = v) (hx : evalT T x = .slice (some ⟨i, o, none⟩) 1 cap) (hi : H[i]? = some (.row cells es own))
    (hfit : o + w ≤ cells.length) (hc : (cells.drop o).take w = enc a) (hok : (enc a).all cellOk = true) (hnH : n ≤ H.length) (hn : l.length ≤ 1000000) (hb : b' ≤ 1000)
    (k : ∀ H2, AppG enc w H2 n (.slice (some ⟨H.length, 0, none⟩) (l.length + 1) (l.length + 1)) (l ++ [a]) → (∀ H0, Ext H0 H → H0.length ≤ n → Ext H0 H2) → (∀ j o, j < n → H[j]? = some o → H2[j]? = some o) → H.length < H2.length → (∀ sh H0, Kept sh H0 H → (∀ i ∈ sh, i < n) → Kept sh H0 H2) →
      OpsJ P E ops R rest (putT T dst (.slice (some ⟨H.length, 0, none⟩) (l.length + 1) (l.length + 1))) H2 g) :
    OpsJ P E ops R (⟨dst, .call { callee := .builtin .append, args := #[s, x], argTypes := #[t, t] }, ty, ps, af, none⟩ :: rest) T H g := by
  have hm : maxLen = 9223372036854775807 := by decide
  have hlb : (l.length + 1) * b' ≤ 140737488355328 := by
    have := Nat.mul_le_mul (show l.length + 1 ≤ 1000001 by omega) hb
    omega
  rcases hA with ⟨rfl, rfl⟩ | ⟨j, rfl, hj, hnj, hne⟩
  · refine st_appendNil hz' hs hx hi (news := enc a) (by omega) (by rw [Nat.one_mul]; exact hc) ⟨by decide, by rw [hm]; decide, by simpa using hlb⟩ (k _ ?_ ?_ ?_ (by simp) ?_)
    · exact .inr ⟨H.length, by simp, by simp, hnH, by simp⟩
    · exact fun H0 h0 _ => Ext.app h0 _
    · exact fun j o _ h => get_old h
    · exact fun sh H0 hk _ => Kept.app hk (.cons (.inr rfl) .nil)
  · have hlen := flatten_lenG hw l
    refine st_appendOwn hz' hs hx hj (by omega) hi (by omega) (by rw [Nat.one_mul]; exact hc) hok ⟨by rw [hm]; omega, hlb⟩ (k _ ?_ ?_ ?_ (by simp) ?_)
    · refine .inr ⟨H.length, by simp, ?_, hnH, by simp⟩
      rw [List.take_of_length_le (by omega)]
      have : (H.set j AObj.dead).length = H.length := by simp
      rw [List.getElem?_append_right (by omega)]
      simp
    · exact fun H0 h0 hl0 => Ext.app (Ext.set h0 (by omega) _) _
    · exact fun j2 o hj2 h => get_old (get_setne (by omega) h)
    · exact fun sh H0 hk hsh => Kept.app (Kept.kill hk fun h => by have := hsh _ h; omega) (.cons (.inr rfl) .nil)
theorem shA_within {H : AHeap} {rs : List (Int × Int)} {rv : Value} {b : Nat} {own : Bool} (hr : RdS H rv 2 (rs.map encR)) (hp : PlainA H rv) (hb : H[b]? = some (.row [rv] 1 own)) :
    ∀ i ∈ shC b rv, ∀ c es own, H[i]? = some (.row c es own) → ∀ v ∈ c, Within (shC b rv) v := by
  intro i hi c es own' hc v hv
  simp only [shC, List.mem_cons] at hi
  rcases hi with rfl | hi
  · rw [hb] at hc; cases hc
    simp at hv; subst hv
    exact Within.idOf hr fun i hi => by simp [shC, hi]
  · obtain ⟨row, es2, own2, h1, h2⟩ := hp i hi
    rw [hc] at h1; cases h1
    exact h2 v hv _
theorem WPJ.choicesA {γ : Type} {E : Env γ} {gop : Operand} {p : Tmp} {assign body : Code} {Q : Exit → List Value → AHeap → γ → Prop} {T : List Value} {H : AHeap} {g : γ} {rs : List (Int × Int)} {rv : Value} {b : Nat} {own : Bool} (hg : evalT T gop = .func (.func 140) ⟨[]⟩ ⟨[.pointer (some ⟨b, 0, none⟩)]⟩)
    (hf : Few rs) (hr : RdS H rv 2 (rs.map encR)) (hp : PlainA H rv) (hb : H[b]? = some (.row [rv] 1 own))
    (I : Nat → AHeap → γ → Prop) (Ix : Code → AHeap → γ → Prop) (h0 : I 0 H g) (hI : ∀ k H2 g2, I k H2 g2 → Kept (shC b rv) H H2) (hIx : ∀ c H2 g2, Ix c H2 g2 → Kept (shC b rv) H H2)
    (round : ∀ k es Hc gc, (genA rs)[k]? = some es → I k Hc gc → WPJ Try.prog E assign (thenQ (WPJ Try.prog E body (roundQ (I (k + 1)) Ix)) (fun _ _ _ _ => False)) (T.set p (.agg ⟨encE es⟩)) Hc gc)
    (done : ∀ Hc gc, I (genA rs).length Hc gc → Q .normal T Hc gc) (stop : ∀ c Hc gc, Ix c Hc gc → WPJ Try.prog E c Q T Hc gc) : WPJ Try.prog E (.rangeFunc gop #[p] assign body) Q T H g := by
  refine WPJ.rangeHits (shC b rv) ((genA rs).map fun es => [.agg ⟨encE es⟩]) hg EntC.ent (choices_hits rs rv b hf) (shC_ok hr hb) (shC_cap hr hb) (fun v hv => by cases hv)
    (fun v hv => by simp at hv; subst hv; exact .ptr (by simp [shC])) (shA_within hr hp hb) (fun x hx => by simp at hx; obtain ⟨_, _, rfl⟩ := hx; rfl)
    (fun ρ w hs hk x hx v hv l => by simp at hx; obtain ⟨es, _, rfl⟩ := hx; simp at hv; subst hv; exact .agg fun v hv => by simp [encE] at hv; obtain ⟨_, _, rfl⟩ := hv; exact .flat rfl) I Ix h0 ?_ ?_ ?_ stop
  · rintro H2 g2 (⟨k, h⟩ | ⟨c, h⟩)
    · exact hI k H2 g2 h
    · exact hIx c H2 g2 h
  · intro k x Hc gc hx hIk
    rw [List.getElem?_map] at hx
    obtain ⟨es, hes, rfl⟩ := Option.map_eq_some_iff.1 hx
    exact round k es Hc gc hes hIk
  · intro Hc gc h
    rw [List.length_map] at h
    exact done Hc gc h
def sumL (l : List Int) : Int := l.foldl (· + ·) 0
theorem sumL_snoc (l : List Int) (x : Int) : sumL (l ++ [x]) = sumL l + x := by simp [sumL]
theorem sumL_bd : ∀ (n : Nat) (l : List Int), l.length = n → (∀ x ∈ l, -1000000 ≤ x ∧ x ≤ 1000000) → -1000000 * (n : Int) ≤ sumL l ∧ sumL l ≤ 1000000 * (n : Int)
  | 0, l, hn, _ => by rw [List.length_eq_zero_iff.1 hn]; simp [sumL]
  | n + 1, l, hn, h => by
    obtain ⟨l', x, rfl⟩ : ∃ l' x, l = l' ++ [x] := ⟨l.dropLast, l.getLast (by intro e; rw [e] at hn; cases hn), (List.dropLast_concat_getLast _).symm⟩
    have h1 := sumL_bd n l' (by simpa using hn) fun y hy => h y (by simp [hy])
    have h2 := h x (by simp)
    rw [sumL_snoc]
    omega
def coalM (m : CopM) (l : List Int) : CopM := { m with coal := l }
def shov (m : CopM) : List (Int × Int) := List.replicate (hrs m) (0, m.shovels)
section
variable {γ : Type} (E : Env γ) (g : γ) (H : AHeap)
theorem sum_spec (sv : Value) (l : List Int) (hr : RdS H sv 1 (encI l)) (hn : l.length ≤ 1000000) (hb : ∀ x ∈ l, -1000000 ≤ x ∧ x ≤ 1000000) :
    CallJ Try.prog E 111 [sv] (fun v H' g' => v = .int .i64 (sumL l) ∧ H' = H ∧ g' = g) H g := by
  refine CallJ.tidy ?_
  refine CallJ.enter Try.func111 rfl (by simp only [Try.ntmps111, List.length_cons, List.length_nil, Nat.zero_add, Nat.reduceSub, List.replicate_succ, List.replicate_zero, List.cons_append, List.nil_append]; rfl) ?_
  repeat' (first
    | ((fail_if_success (first | refine is_ucall ?_ | refine is_umcall ?_)); first | refine W1 ?_ | refine Wc ?_ | refine W2c ?_ ?_ | refine Wg ?_ | refine W2 ?_ ?_ | exact Wdead | refine Wlive (fun hb => ?_) | intro _ _ _ _ _ _ _ _ | refine We ?_ | refine Wx ?_ | refine Wt ?_ | refine Wm ?_ | refine W2m ?_ ?_ | refine Wl ?_)
    | fail)
  refine WPJ.loopT l.length [9, 10, 11, 5, 12, 13, 14, 15] (fun j (_ : Unit) => [(8, .int .i64 j), (3, .int .i64 (sumL (l.take j)))])
    (fun j _ H1 g1 => g1 = g ∧ H1 = H) 0 () (Nat.zero_le _) (by intro p hp; simp at hp; rcases hp with rfl | rfl <;> rfl) ⟨rfl, rfl⟩ ?_
  rintro j _ H1 g1 hj ⟨rfl, rfl⟩ hl0
  simp only [updT, maskT, List.set_cons_zero, List.set_cons_succ]
  rcases Nat.lt_or_ge j l.length with hlt | hge
  · have hel : (encI l)[j]? = some [.int .i64 l[j]] := by simp [hlt]
    have hx := hb _ (List.getElem_mem hlt)
    have hs := sumL_bd j (l.take j) (by simp; omega) fun x hx => hb x (List.mem_of_mem_take hx)
    have hst : sumL (l.take (j + 1)) = sumL (l.take j) + l[j] := by rw [List.take_succ_eq_append_getElem hlt, sumL_snoc]
    generalize sumL (l.take j) = s at *
    generalize l[j] = x at *
    repeat' (first
      | ((fail_if_success (first | refine is_ucall ?_ | refine is_umcall ?_)); first | refine W1 ?_ | refine Wc ?_ | refine W2c ?_ ?_ | refine Wg ?_ | refine W2 ?_ ?_ | exact Wdead | refine Wlive (fun hb => ?_) | intro _ _ _ _ _ _ _ _ | refine We ?_ | refine Wx ?_ | refine Wt ?_ | refine Wm ?_ | refine W2m ?_ ?_ | refine Wl ?_)
      | fail)
    refine ⟨(), hlt, ?_, rfl, rfl⟩
    rw [hst]
    exact (by repeat' (first | exact Weak.nil | refine Weak.wild ?_ | refine Weak.same ?_ | refine Weak.intEq (by first | omega | (simp; done) | (push_cast; omega)) ?_))
  · obtain rfl : j = l.length := by omega
    rw [List.take_length]
    repeat' (first
      | ((fail_if_success (first | refine is_ucall ?_ | refine is_umcall ?_)); first | refine W1 ?_ | refine Wc ?_ | refine W2c ?_ ?_ | refine Wg ?_ | refine W2 ?_ ?_ | exact Wdead | refine Wlive (fun hb => ?_) | intro _ _ _ _ _ _ _ _ | refine We ?_ | refine Wx ?_ | refine Wt ?_ | refine Wm ?_ | refine W2m ?_ ?_ | refine Wl ?_)
      | fail)
    exact ⟨rfl, rfl, rfl⟩
theorem withCoal_spec (m : CopM) (s1 s2 s3 s4 : Value) (a : Option Addr) (n c : Nat) (hok : (ccells m s1 s2 s3 s4).all cellOk = true) (hlow : ∀ v ∈ ccells m (.slice a n c) s2 s3 s4, Low H.length v) : CallJ Try.prog E 112 [cv m s1 s2 s3 s4, .slice a n c] (fun v H' g' => v = .agg ⟨ccells m (.slice a n c) s2 s3 s4⟩ ∧ H' = H ∧ g' = g) H g := by
  have hok2 : (ccells m (.slice a n c) s2 s3 s4).all cellOk = true := by
    simp [cellOk] at hok ⊢; exact ⟨hok.2.1, hok.2.2.1, hok.2.2.2⟩
  refine CallJ.tidy ?_
  unfold cv
  refine CallJ.enter Try.func112 rfl (by simp only [Try.ntmps112, List.length_cons, List.length_nil, Nat.zero_add, Nat.reduceAdd, Nat.reduceSub, List.replicate_succ, List.replicate_zero, List.cons_append, List.nil_append]; rfl) ?_
  repeat' (first
    | ((fail_if_success (first | refine is_ucall ?_ | refine is_umcall ?_)); first | refine W1 ?_ | refine Wc ?_ | refine W2c ?_ ?_ | refine Wg ?_ | refine W2 ?_ ?_ | exact Wdead | refine Wlive (fun hb => ?_) | intro _ _ _ _ _ _ _ _ | refine We ?_ | refine Wx ?_ | refine Wt ?_ | refine Wm ?_ | refine W2m ?_ ?_ | refine Wl ?_)
    | fail)
  exact Tidy.ext extA (.low (.agg hlow)) ⟨rfl, rfl, rfl⟩
def CoalA (m : CopM) (H : AHeap) (v : Value) (H' : AHeap) : Prop := Ext H H' ∧ ∃ b rv own, v = .func (.func 140) ⟨[]⟩ ⟨[.pointer (some ⟨b, 0, none⟩)]⟩ ∧ RdS H' rv 2 ((shov m).map encR) ∧ PlainA H' rv ∧ H'[b]? = some (.row [rv] 1 own) ∧ H.length ≤ b ∧ (∀ i ∈ idOf rv, H.length ≤ i)
theorem allCoal_spec (m : CopM) (s1 s2 s3 s4 : Value) (hm : CopY H m s1 s2 s3 s4) (hW : WOk m) (_hsh : 0 ≤ m.shovels ∧ m.shovels ≤ 3) :
    CallJ Try.prog E 131 [cv m s1 s2 s3 s4] (fun v H' g' => CoalA m H v H' ∧ g' = g) H g := by
  have hok := hm.cells
  have hl0 := hW.l0
  have hl4 := hW.l4
  obtain ⟨hn5, hnl⟩ := hrs_le hW
  have hnl' : ((hrs m : Nat) : Int) = m.last + 1 := by omega
  unfold cv
  refine CallJ.enter Try.func131 rfl (by simp only [Try.ntmps131, List.length_cons, List.length_nil, Nat.zero_add, Nat.reduceSub, List.replicate_succ, List.replicate_zero, List.cons_append, List.nil_append]; rfl) ?_
  repeat' (first
    | (refine is_ucall ?_; first
      | refine st_callP (h := hours_spec _ _ _ m s1 s2 s3 s4 hok (by omega)) (k := ?_)
      | fail)
    | (refine is_umcall ?_; first
      | refine mj_callP (h := hours_spec _ _ _ m s1 s2 s3 s4 hok (by omega)) (k := ?_)
      | fail)
    | ((fail_if_success (first | refine is_ucall ?_ | refine is_umcall ?_)); first | refine W1 ?_ | refine Wc ?_ | refine W2c ?_ ?_ | refine Wg ?_ | refine W2 ?_ ?_ | exact Wdead | refine Wlive (fun hb => ?_) | intro _ _ _ _ _ _ _ _ | refine We ?_ | refine Wx ?_ | refine Wt ?_ | refine Wm ?_ | refine W2m ?_ ?_ | refine Wl ?_)
    | fail)
  refine WPJ.loopT (hrs m) [7, 8, 9, 10, 11, 12, 13, 14] (fun j (v : Value) => [(6, .int .i64 j), (3, v)])
    (fun j v H1 g1 => g1 = g ∧ Ext H H1 ∧ H1[H.length]? = some (.row (ccells m s1 s2 s3 s4) 1 true) ∧ AppG encR 2 H1 (H.length + 1) v (List.replicate j (0, m.shovels)) ∧ H.length < H1.length) 0 (.slice none 0 0) (Nat.zero_le _)
    (by intro p hp; simp at hp; rcases hp with rfl | rfl <;> rfl) ⟨rfl, extA, getA, AppG.nil, by simp⟩ ?_
  rintro j v1 H1 g1 hj ⟨rfl, he, hb0, hA, hlen⟩ hl0'
  have hcv := hA.cell
  simp only [updT, maskT, List.set_cons_zero, List.set_cons_succ]
  rcases Nat.lt_or_ge j (hrs m) with hlt | hge
  · skip
    repeat' (first
      | (refine is_ucall ?_; first
        | refine st_callP (h := hours_spec _ _ _ m s1 s2 s3 s4 hok (by omega)) (k := ?_)
        | fail)
      | (refine is_umcall ?_; first
        | refine mj_callP (h := hours_spec _ _ _ m s1 s2 s3 s4 hok (by omega)) (k := ?_)
        | fail)
      | ((fail_if_success (first | refine is_ucall ?_ | refine is_umcall ?_)); first | refine W1 ?_ | refine Wc ?_ | refine W2c ?_ ?_ | refine Wg ?_ | refine W2 ?_ ?_ | exact Wdead | refine Wlive (fun hb => ?_) | intro _ _ _ _ _ _ _ _ | refine We ?_ | refine Wx ?_ | refine Wt ?_ | refine Wm ?_ | refine W2m ?_ ?_ | refine Wl ?_)
      | fail)
    refine st_appKept (a := ((0 : Int), m.shovels)) (hA.app _) rfl (fun _ => rfl) rfl rfl getA (by simp) rfl rfl (by simp; omega) (by simp; omega) (by decide) ?_
    intro H2 hA2 hE hK hL hKe
    have e0 := hK H.length _ (by omega) (get_old hb0)
    simp only [List.length_append, List.length_cons, List.length_nil, List.length_replicate] at hL hA2
    refine OpsJ.normA ?_
    repeat' (first
      | (refine is_ucall ?_; first
        | refine st_callP (h := hours_spec _ _ _ m s1 s2 s3 s4 hok (by omega)) (k := ?_)
        | fail)
      | (refine is_umcall ?_; first
        | refine mj_callP (h := hours_spec _ _ _ m s1 s2 s3 s4 hok (by omega)) (k := ?_)
        | fail)
      | ((fail_if_success (first | refine is_ucall ?_ | refine is_umcall ?_)); first | refine W1 ?_ | refine Wc ?_ | refine W2c ?_ ?_ | refine Wg ?_ | refine W2 ?_ ?_ | exact Wdead | refine Wlive (fun hb => ?_) | intro _ _ _ _ _ _ _ _ | refine We ?_ | refine Wx ?_ | refine Wt ?_ | refine Wm ?_ | refine W2m ?_ ?_ | refine Wl ?_)
      | fail)
    exact ⟨.slice (some ⟨H1.length + 1, 0, none⟩) (j + 1) (j + 1), hlt, by rw [List.length_replicate]; exact (by repeat' (first | exact Weak.nil | refine Weak.wild ?_ | refine Weak.same ?_ | refine Weak.intEq (by first | omega | (simp; done) | (push_cast; omega)) ?_)), rfl, hE H extA (by omega), e0, by rw [List.replicate_succ']; exact hA2, by omega⟩
  · obtain rfl : j = hrs m := by omega
    have hr := hA.rd (fun _ => rfl)
    have hp := PlainA.of hA (fun _ => rfl)
    have hio : ∀ i ∈ idOf v1, H.length ≤ i := by
      rcases hA with ⟨rfl, _⟩ | ⟨i, rfl, _, hi, _⟩
      · intro i hi; simp [idOf] at hi
      · intro k hk; simp [idOf] at hk; omega
    have hsv := RdS.shape hr
    repeat' (first
      | (refine is_ucall ?_; first
        | refine st_callP (h := hours_spec _ _ _ m s1 s2 s3 s4 hok (by omega)) (k := ?_)
        | fail)
      | (refine is_umcall ?_; first
        | refine mj_callP (h := hours_spec _ _ _ m s1 s2 s3 s4 hok (by omega)) (k := ?_)
        | fail)
      | ((fail_if_success (first | refine is_ucall ?_ | refine is_umcall ?_)); first | refine W1 ?_ | refine Wc ?_ | refine W2c ?_ ?_ | refine Wg ?_ | refine W2 ?_ ?_ | exact Wdead | refine Wlive (fun hb => ?_) | intro _ _ _ _ _ _ _ _ | refine We ?_ | refine Wx ?_ | refine Wt ?_ | refine Wm ?_ | refine W2m ?_ ?_ | refine Wl ?_)
      | fail)
    refine st_call rfl (choices_spec E _ _ v1 hsv) ?_
    rintro _ _ g2 ⟨rfl, rfl, rfl⟩
    refine OpsJ.normA ?_
    repeat' (first
      | (refine is_ucall ?_; first
        | refine st_callP (h := hours_spec _ _ _ m s1 s2 s3 s4 hok (by omega)) (k := ?_)
        | fail)
      | (refine is_umcall ?_; first
        | refine mj_callP (h := hours_spec _ _ _ m s1 s2 s3 s4 hok (by omega)) (k := ?_)
        | fail)
      | ((fail_if_success (first | refine is_ucall ?_ | refine is_umcall ?_)); first | refine W1 ?_ | refine Wc ?_ | refine W2c ?_ ?_ | refine Wg ?_ | refine W2 ?_ ?_ | exact Wdead | refine Wlive (fun hb => ?_) | intro _ _ _ _ _ _ _ _ | refine We ?_ | refine Wx ?_ | refine Wt ?_ | refine Wm ?_ | refine W2m ?_ ?_ | refine Wl ?_)
      | fail)
    exact ⟨⟨extA, H1.length, v1, true, rfl, hr.ext extA, hp.ext extA, getA, by omega, hio⟩, rfl⟩
end
end Go.Proofs.Ytjbiidlmpaibkaa
namespace Go.Proofs.Ytjbiidlmpaibkaa
open Go Go.Abs Go.Proofs
set_option maxHeartbeats 800000
attribute [local irreducible] CallJ OpsJ WPJ CallV MonoJ
def encT (t : Int × List Int) : List Value := tcells t.1 (t.2.take 5 ++ List.replicate (5 - t.2.length) 0)
theorem encT_len (t : Int × List Int) : (encT t).length = 6 := by simp [encT, tcells, encE]; omega
theorem encT_eq {t : Int × List Int} (h : TOk t.1 t.2) : encT t = tcells t.1 t.2 := by
  have := h.n
  unfold encT; rw [List.take_of_length_le (by omega)]; simp [this]
theorem encT_flat (t : Int × List Int) : (encT t).all flat1 = true := tcells_flat _ _
section
variable {γ : Type} (E : Env γ) (g : γ) (H : AHeap)
theorem AppendSeq_spec (fv : Value) (sh : List Nat) (xs : List (Int × List Int)) (hi : IterIs H sh fv xs) (hT : ∀ t ∈ xs, TOk t.1 t.2) (hn : xs.length ≤ 1000000) :
    CallJ Try.prog E 143 [.slice none 0 0, fv] (fun v H' g' => v = slV H.length xs ∧ H' = H ++ slH encT 6 xs ∧ g' = g) H g := by
  have hfo : ∃ a b c, fv = .func a b c := by
    obtain ⟨gf, fx, cx, ok, rfl, _⟩ := hi; exact ⟨_, _, _, rfl⟩
  obtain ⟨fa, fb, fc, rfl⟩ := hfo
  have hlt := hi.lt
  refine CallJ.tidy ?_
  refine CallJ.enter Try.func143 rfl (by simp only [Try.ntmps143, List.length_cons, List.length_nil, Nat.zero_add, Nat.reduceAdd, Nat.reduceSub, List.replicate_succ, List.replicate_zero, List.cons_append, List.nil_append]; rfl) ?_
  repeat' (first
    | ((fail_if_success (first | refine is_ucall ?_ | refine is_umcall ?_)); first | refine W1 ?_ | refine Wc ?_ | refine W2c ?_ ?_ | refine Wg ?_ | refine W2 ?_ ?_ | exact Wdead | refine Wlive (fun hb => ?_) | intro _ _ _ _ _ _ _ _ | refine We ?_ | refine Wx ?_ | refine Wt ?_ | refine Wm ?_ | refine W2m ?_ ?_ | refine Wl ?_)
    | fail)
  refine WPJ.iter rfl hi extA (fun k H2 g2 => g2 = g ∧ Kept sh (H ++ [.row [.slice none 0 0] 1 true]) H2 ∧ Ext H H2 ∧ (∃ v, H2[H.length]? = some (.row [v] 1 true) ∧ AppG encT 6 H2 (H.length + 1) v (xs.take k)) ∧ H.length < H2.length)
    (fun c H2 g2 => False) ⟨rfl, Kept.refl _ _, extA, ⟨_, getA, by rw [List.take_zero]; exact AppG.nil⟩, by simp⟩ (fun k H2 g2 h => h.2.1) (fun c H2 g2 h => h.elim) ?_ ?_ (fun _ _ _ h => h.elim)
  · rintro k t Hc gc ht ⟨rfl, hk, he, ⟨v, hb0, hA⟩, hlen⟩
    have hTt := hT t (List.mem_of_getElem? ht)
    have hkl := (List.getElem?_eq_some_iff.1 ht).1
    have htk1 : xs.take (k + 1) = xs.take k ++ [t] := by rw [List.take_succ_eq_append_getElem hkl]; simp [(List.getElem?_eq_some_iff.1 ht).2]
    have het := encT_eq hTt
    have htl := encT_len t
    have hto := tcells_ok t.1 t.2
    have hcv := hA.cell
    unfold tval
    rw [← het] at hto ⊢
    generalize hte : encT t = tc at *
    have htk : tc.take 6 = tc := List.take_of_length_le (by omega)
    have hsp : splice (List.replicate 6 wild) 0 tc = tc := by simp [splice, htl]
    have hfl : (xs.take k).length = k := by simp; omega
    repeat' (first
      | ((fail_if_success (first | refine is_ucall ?_ | refine is_umcall ?_)); first | refine W1 ?_ | refine Wc ?_ | refine W2c ?_ ?_ | refine Wg ?_ | refine W2 ?_ ?_ | exact Wdead | refine Wlive (fun hb => ?_) | intro _ _ _ _ _ _ _ _ | refine We ?_ | refine Wx ?_ | refine Wt ?_ | refine Wm ?_ | refine W2m ?_ ?_ | refine Wl ?_)
      | fail)
    refine st_buildSlice (cs := tc) (n' := 6) (by decide) ?_ ?_
    · exact fillA_cons rfl hto htl (by decide) (by show some (splice (List.replicate 6 wild) 0 tc) = some tc; rw [hsp])
    refine OpsJ.normA ?_
    refine st_appKept (enc := encT) (w := 6) (n := H.length + 1) (a := t) (l := xs.take k) (v := v) (hA.app _) rfl encT_len rfl rfl getA (by omega) (by rw [hte, List.drop_zero]; exact htk) (by rw [hte]; exact hto) (by simp; omega) (by omega) (by decide) ?_
    intro H2 hA2 hE hK hL hKe
    have e0 := hK H.length _ (by omega) (get_old hb0)
    simp only [List.length_append, List.length_cons, List.length_nil, hfl] at hL hA2
    refine OpsJ.normA ?_
    repeat' (first
      | ((fail_if_success (first | refine is_ucall ?_ | refine is_umcall ?_)); first | refine W1 ?_ | refine Wc ?_ | refine W2c ?_ ?_ | refine Wg ?_ | refine W2 ?_ ?_ | exact Wdead | refine Wlive (fun hb => ?_) | intro _ _ _ _ _ _ _ _ | refine We ?_ | refine Wx ?_ | refine Wt ?_ | refine Wm ?_ | refine W2m ?_ ?_ | refine Wl ?_)
      | fail)
    refine ⟨rfl, Kept.set (hKe _ _ (Kept.app hk (.cons (.inr rfl) (.cons (.inr rfl) .nil))) fun i hi => by have := hlt i hi; omega) (fun h => by have := hlt _ h; omega) rfl, Ext.set (hE H extA (by omega)) (by omega) _, ⟨.slice (some ⟨Hc.length + 2, 0, none⟩) (k + 1) (k + 1), by rw [hfl]; exact getA, by rw [htk1]; refine AppG.set hA2 (show H.length < H.length + 1 by omega)⟩, by rw [List.length_set]; omega⟩
  · rintro Hc gc ⟨rfl, hk, he, ⟨v, hb0, hA⟩, hlen⟩
    rw [List.take_length] at hA
    have hcv := hA.cell
    repeat' (first
      | ((fail_if_success (first | refine is_ucall ?_ | refine is_umcall ?_)); first | refine W1 ?_ | refine Wc ?_ | refine W2c ?_ ?_ | refine Wg ?_ | refine W2 ?_ ?_ | exact Wdead | refine Wlive (fun hb => ?_) | intro _ _ _ _ _ _ _ _ | refine We ?_ | refine Wx ?_ | refine Wt ?_ | refine Wm ?_ | refine W2m ?_ ?_ | refine Wl ?_)
      | fail)
    exact hA.tidy (by omega) extA encT_flat ⟨rfl, rfl, rfl⟩
theorem Collect_spec (fv : Value) (sh : List Nat) (xs : List (Int × List Int)) (hi : IterIs H sh fv xs) (hT : ∀ t ∈ xs, TOk t.1 t.2) (hn : xs.length ≤ 1000000) :
    CallJ Try.prog E 137 [fv] (fun v H' g' => v = slV H.length xs ∧ H' = H ++ slH encT 6 xs ∧ g' = g) H g := by
  have hfo : ∃ a b c, fv = .func a b c := by
    obtain ⟨gf, fx, cx, ok, rfl, _⟩ := hi; exact ⟨_, _, _, rfl⟩
  obtain ⟨fa, fb, fc, rfl⟩ := hfo
  refine CallJ.enter Try.func137 rfl (by simp only [Try.ntmps137, List.length_cons, List.length_nil, Nat.zero_add, Nat.reduceSub, List.replicate_succ, List.replicate_zero, List.cons_append, List.nil_append]; rfl) ?_
  repeat' (first
    | ((fail_if_success (first | refine is_ucall ?_ | refine is_umcall ?_)); first | refine W1 ?_ | refine Wc ?_ | refine W2c ?_ ?_ | refine Wg ?_ | refine W2 ?_ ?_ | exact Wdead | refine Wlive (fun hb => ?_) | intro _ _ _ _ _ _ _ _ | refine We ?_ | refine Wx ?_ | refine Wt ?_ | refine Wm ?_ | refine W2m ?_ ?_ | refine Wl ?_)
    | fail)
  refine st_callL (h := AppendSeq_spec E g H _ sh xs hi hT hn) (k := ?_)
  refine OpsJ.normA ?_
  repeat' (first
    | ((fail_if_success (first | refine is_ucall ?_ | refine is_umcall ?_)); first | refine W1 ?_ | refine Wc ?_ | refine W2c ?_ ?_ | refine Wg ?_ | refine W2 ?_ ?_ | exact Wdead | refine Wlive (fun hb => ?_) | intro _ _ _ _ _ _ _ _ | refine We ?_ | refine Wx ?_ | refine Wt ?_ | refine Wm ?_ | refine W2m ?_ ?_ | refine Wl ?_)
    | fail)
  exact ⟨rfl, rfl, rfl⟩
theorem Values_spec (sv : Value) (hs : ∃ a n c, sv = .slice a n c) : CallJ Try.prog E 139 [sv] (fun v H' g' => v = .func (.func 144) ⟨[]⟩ ⟨[.pointer (some ⟨H.length, 0, none⟩)]⟩ ∧ H' = H ++ [.row [sv] 1 true] ∧ g' = g) H g := by
  obtain ⟨a, n, c, rfl⟩ := hs
  refine CallJ.enter Try.func139 rfl (by simp only [Try.ntmps139, List.length_cons, List.length_nil, Nat.zero_add, Nat.reduceSub, List.replicate_succ, List.replicate_zero, List.cons_append, List.nil_append]; rfl) ?_
  repeat' (first
    | ((fail_if_success (first | refine is_ucall ?_ | refine is_umcall ?_)); first | refine W1 ?_ | refine Wc ?_ | refine W2c ?_ ?_ | refine Wg ?_ | refine W2 ?_ ?_ | exact Wdead | refine Wlive (fun hb => ?_) | intro _ _ _ _ _ _ _ _ | refine We ?_ | refine Wx ?_ | refine Wt ?_ | refine Wm ?_ | refine W2m ?_ ?_ | refine Wl ?_)
    | fail)
  exact ⟨rfl, rfl, rfl⟩
end
structure OkV (xs : List (Int × List Int)) (sv : Value) (b : Nat) (Hi : AHeap) : Prop where
  rd : RdS Hi sv 6 (xs.map encT)
  box : Hi[b]? = some (.row [sv] 1 false)
theorem values_hits (xs : List (Int × List Int)) (sv : Value) (b : Nat) (hT : ∀ t ∈ xs, TOk t.1 t.2) (hn : xs.length ≤ 1000000) : Hits Try.prog 144 [] [.pointer (some ⟨b, 0, none⟩)] (OkV xs sv b) (xs.map fun t => [tval t]) := by
  intro γ' E' J Jx yn Hi g0 hok hy hJ0
  have hbox := hok.box
  have hrd := hok.rd
  have hlx : (xs.map fun t => [tval t]).length = xs.length := by simp
  refine CallJ.tidy ?_
  refine CallJ.enter Try.func144 rfl (by simp only [Try.ntmps144, List.length_cons, List.length_nil, Nat.zero_add, Nat.reduceAdd, Nat.reduceSub, List.replicate_succ, List.replicate_zero, List.cons_append, List.nil_append]; rfl) ?_
  repeat' (first
    | ((fail_if_success (first | refine is_ucall ?_ | refine is_umcall ?_)); first | refine W1 ?_ | refine Wc ?_ | refine W2c ?_ ?_ | refine Wg ?_ | refine W2 ?_ ?_ | exact Wdead | refine Wlive (fun hb => ?_) | intro _ _ _ _ _ _ _ _ | refine We ?_ | refine Wx ?_ | refine Wt ?_ | refine Wm ?_ | refine W2m ?_ ?_ | refine Wl ?_)
    | fail)
  rw [hlx]
  refine WPJ.loopT xs.length [4, 8, 9, 10, 11, 12, 13, 14, 15] (fun j (_ : Unit) => [(7, .int .i64 j)])
    (fun j _ H1 g1 => (∃ L, H1 = Hi ++ L ∧ OwnL L) ∧ J j g1) 0 () (Nat.zero_le _) (by intro p hp; simp at hp; rcases hp with rfl; rfl) ⟨⟨[], by simp, .nil⟩, hJ0⟩ ?_
  rintro j _ H1 g1 hj ⟨⟨L, hH1, hL⟩, hJ⟩ hl
  have hxt : Ext Hi H1 := ⟨L, hH1⟩
  simp only [updT, maskT, List.set_cons_zero, List.set_cons_succ]
  rcases Nat.lt_or_ge j xs.length with hlt | hge
  · have hTt := hT _ (List.getElem_mem hlt)
    have hxj : xs[j]? = some xs[j] := List.getElem?_eq_getElem hlt
    have hel : (xs.map encT)[(j : Int).toNat]? = some (encT xs[j]) := by simp [hlt]
    generalize xs[j] = t at *
    have hyj := fun H2 hH2 => hy j [tval t] (by rw [List.getElem?_map, hxj]; rfl) H2 g1 hH2 hJ
    have het := encT_eq hTt
    have htl := encT_len t
    have hto := tcells_ok t.1 t.2
    unfold tval at hyj
    rw [← het] at hto hyj
    generalize hte : encT t = tc at *
    have htk : tc.take 6 = tc := List.take_of_length_le (by omega)
    have hxo : ∀ row : List Value, ExtOwn Hi (H1 ++ [.row row 1 true]) := fun row => ⟨L ++ [.row row 1 true], by rw [hH1]; simp, OwnL.append hL (.cons (.inr rfl) .nil)⟩
    repeat' (first
      | ((fail_if_success (first | refine is_ucall ?_ | refine is_umcall ?_)); first | refine W1 ?_ | refine Wc ?_ | refine W2c ?_ ?_ | refine Wg ?_ | refine W2 ?_ ?_ | exact Wdead | refine Wlive (fun hb => ?_) | intro _ _ _ _ _ _ _ _ | refine We ?_ | refine Wx ?_ | refine Wt ?_ | refine Wm ?_ | refine W2m ?_ ?_ | refine Wl ?_)
      | fail)
    refine st_callV rfl rfl (hyj _ (hxo _)) ?_
    rintro v H' g' ⟨rfl, ⟨rfl, h1⟩ | ⟨rfl, h1⟩⟩
    · skip
      refine OpsJ.normA ?_
      repeat' (first
        | ((fail_if_success (first | refine is_ucall ?_ | refine is_umcall ?_)); first | refine W1 ?_ | refine Wc ?_ | refine W2c ?_ ?_ | refine Wg ?_ | refine W2 ?_ ?_ | exact Wdead | refine Wlive (fun hb => ?_) | intro _ _ _ _ _ _ _ _ | refine We ?_ | refine Wx ?_ | refine Wt ?_ | refine Wm ?_ | refine W2m ?_ ?_ | refine Wl ?_)
        | fail)
      exact ⟨(), hlt, (by repeat' (first | exact Weak.nil | refine Weak.wild ?_ | refine Weak.same ?_ | refine Weak.intEq (by first | omega | (simp; done) | (push_cast; omega)) ?_)), ⟨L ++ [.row tc 1 true], by rw [hH1]; simp, OwnL.append hL (.cons (.inr rfl) .nil)⟩, h1⟩
    · skip
      refine OpsJ.normA ?_
      repeat' (first
        | ((fail_if_success (first | refine is_ucall ?_ | refine is_umcall ?_)); first | refine W1 ?_ | refine Wc ?_ | refine W2c ?_ ?_ | refine Wg ?_ | refine W2 ?_ ?_ | exact Wdead | refine Wlive (fun hb => ?_) | intro _ _ _ _ _ _ _ _ | refine We ?_ | refine Wx ?_ | refine Wt ?_ | refine Wm ?_ | refine W2m ?_ ?_ | refine Wl ?_)
        | fail)
      exact ⟨rfl, .inr h1⟩
  · obtain rfl : j = xs.length := by omega
    repeat' (first
      | ((fail_if_success (first | refine is_ucall ?_ | refine is_umcall ?_)); first | refine W1 ?_ | refine Wc ?_ | refine W2c ?_ ?_ | refine Wg ?_ | refine W2 ?_ ?_ | exact Wdead | refine Wlive (fun hb => ?_) | intro _ _ _ _ _ _ _ _ | refine We ?_ | refine Wx ?_ | refine Wt ?_ | refine Wm ?_ | refine W2m ?_ ?_ | refine Wl ?_)
      | fail)
    exact ⟨rfl, .inl hJ⟩
def shV (b : Nat) (sv : Value) : List Nat := b :: idOf sv
theorem shV_cap {H : AHeap} {xs : List (Int × List Int)} {sv : Value} {b : Nat} {own : Bool} {gf : FuncId} (hr : RdS H sv 6 (xs.map encT)) (hb : H[b]? = some (.row [sv] 1 own)) :
    ∀ (ρ : Ren) (w : World), SRel ρ H w → (∀ v', VRel ρ (.func (.func gf) ⟨[]⟩ ⟨[.pointer (some ⟨b, 0, none⟩)]⟩) v' → ∀ i ∈ shV b sv, ∃ m, ρ i = some m) := by
  intro ρ w hs v' hv
  cases hv with
  | func h1 h2 h3 h4 =>
    have h := h4 0 (by simp) (by rw [← h3]; simp)
    simp only [List.getElem_toArray, List.getElem_cons_zero] at h
    obtain ⟨x, hx, _⟩ := rel_ptr h
    have hor := hs.obj b x _ hx hb
    obtain ⟨_, _, c, e, fr, _, _, _, h5, h6⟩ := hor
    have h5' : 1 ≤ c.size := h5
    intro i hi
    simp only [shV, List.mem_cons] at hi
    rcases hi with rfl | hi
    · exact ⟨x, hx⟩
    · exact rel_id hr (h6 0 (by simp) (by omega)) i hi
theorem shV_within {H : AHeap} {xs : List (Int × List Int)} {sv : Value} {b : Nat} {own : Bool} (hr : RdS H sv 6 (xs.map encT)) (hp : PlainA H sv) (hb : H[b]? = some (.row [sv] 1 own)) :
    ∀ i ∈ shV b sv, ∀ c es own, H[i]? = some (.row c es own) → ∀ v ∈ c, Within (shV b sv) v := by
  intro i hi c es own' hc v hv
  simp only [shV, List.mem_cons] at hi
  rcases hi with rfl | hi
  · rw [hb] at hc; cases hc
    simp at hv; subst hv
    exact Within.idOf hr fun i hi => by simp [shV, hi]
  · obtain ⟨row, es2, own2, h1, h2⟩ := hp i hi
    rw [hc] at h1; cases h1
    exact h2 v hv _
theorem iter_values {H : AHeap} {xs : List (Int × List Int)} {sv : Value} {b : Nat} {own : Bool} (hr : RdS H sv 6 (xs.map encT)) (hp : PlainA H sv) (hb : H[b]? = some (.row [sv] 1 own)) (hT : ∀ t ∈ xs, TOk t.1 t.2) (hn : xs.length ≤ 1000000) :
    IterIs H (shV b sv) (.func (.func 144) ⟨[]⟩ ⟨[.pointer (some ⟨b, 0, none⟩)]⟩) xs :=
  ⟨_, [], _, OkV xs sv b, rfl, EntC.ent, values_hits xs sv b hT hn, (fun i hi => by
      simp only [shV, List.mem_cons] at hi
      rcases hi with rfl | hi
      · exact (List.getElem?_eq_some_iff.1 hb).1
      · exact (idOf_rd hr hi).1),
    (fun v hv => by cases hv), (fun v hv => by simp at hv; subst hv; exact .ptr (by simp [shV])), fun H' he =>
      ⟨fun Hi hv => ⟨(hr.ext he).viewed (fun i hi => by simp [shV, hi]) hv, hv b (by simp [shV]) _ _ _ (he.get hb)⟩, shV_cap (hr.ext he) (he.get hb), shV_within (hr.ext he) (hp.ext he) (he.get hb)⟩⟩
end Go.Proofs.Ytjbiidlmpaibkaa
namespace Go.Proofs.Ytjbiidlmpaibkaa
open Go Go.Abs Go.Proofs
set_option maxHeartbeats 800000
attribute [local irreducible] CallJ OpsJ WPJ CallV MonoJ
def setM (ks : List (List Int)) : List (List Int × Value) := ks.map fun k => (k, .bool true)
theorem findK_set (ks : List (List Int)) (k : List Int) : findK (setM ks) k = ks.findIdx? fun x => decide (x = k) := by
  unfold findK setM
  rw [List.findIdx?_map]; rfl
theorem setM_get (ks : List (List Int)) (i : Nat) : (setM ks)[i]? = (ks[i]?).map fun k => (k, .bool true) := by simp [setM]
theorem atK_set (ks : List (List Int)) (k : List Int) : atK (setM ks) k (.bool false) = .bool (ks.contains k) := by
  unfold atK
  rw [findK_set]
  cases h : ks.findIdx? fun x => decide (x = k) with
  | none =>
    rw [List.findIdx?_eq_none_iff] at h
    have : ks.contains k = false := by
      rw [List.contains_eq_any_beq, List.any_eq_false]
      intro x hx
      have := h x hx
      simp at this ⊢
      exact fun e => this e.symm
    rw [this]
  | some i =>
    obtain ⟨hi, hp, _⟩ := List.findIdx?_eq_some_iff_getElem.1 h
    have : ks.contains k = true := by
      rw [List.contains_iff_mem]
      have e : ks[i] = k := by simpa using hp
      rw [← e]; exact List.getElem_mem hi
    rw [this]
    simp [setM_get, hi]
def addS (ks : List (List Int)) (k : List Int) : List (List Int) := if ks.contains k then ks else ks ++ [k]
theorem putK_set (ks : List (List Int)) (k : List Int) : putK (setM ks) k (.bool true) = setM (addS ks k) := by
  unfold putK addS
  rw [findK_set]
  cases h : ks.findIdx? fun x => decide (x = k) with
  | none =>
    rw [List.findIdx?_eq_none_iff] at h
    have : ks.contains k = false := by
      rw [List.contains_eq_any_beq, List.any_eq_false]
      intro x hx
      have := h x hx
      simp at this ⊢
      exact fun e => this e.symm
    rw [this]
    simp [setM]
  | some i =>
    obtain ⟨hi, hp, _⟩ := List.findIdx?_eq_some_iff_getElem.1 h
    have e : ks[i] = k := by simpa using hp
    have : ks.contains k = true := by
      rw [List.contains_iff_mem, ← e]; exact List.getElem_mem hi
    rw [this, if_pos rfl]
    show setK (setM ks) i (.bool true) = setM ks
    unfold setK
    rw [setM_get, List.getElem?_eq_getElem hi]
    show (setM ks).set i (ks[i], .bool true) = setM ks
    apply List.ext_getElem?
    intro j
    rw [List.getElem?_set]
    split
    · rename_i e2; subst e2
      rw [if_pos (by simpa [setM] using hi), setM_get, List.getElem?_eq_getElem hi]; rfl
    · rfl
def lessB (ks : List (List Int)) (es : List Int) (j : Nat) : Bool := (List.range j).any fun h => ks.contains (es.set h (es.getD h 0 - 1))
theorem lessB_succ (ks : List (List Int)) (es : List Int) (j : Nat) : lessB ks es (j + 1) = (lessB ks es j || ks.contains (es.set j (es.getD j 0 - 1))) := by
  unfold lessB
  rw [List.range_succ, List.any_append]; simp
theorem lessB_true {ks : List (List Int)} {es : List Int} {j k : Nat} (hj : j < k) (h : ks.contains (es.set j (es.getD j 0 - 1)) = true) : lessB ks es k = true := List.any_eq_true.2 ⟨j, List.mem_range.2 hj, h⟩
section
variable {γ : Type} (E : Env γ) (g : γ) (H : AHeap)
theorem hasLess_spec (ks : List (List Int)) (es : List Int) (mi : Nat) (hes : es.length = 5) (hb : ∀ x ∈ es, -1000 ≤ x ∧ x ≤ 1000) (hk : ∀ k ∈ ks, k.length = 5) (hm : H[mi]? = some (mapI (setM ks))) :
    CallJ Try.prog E 138 [.map (some mi), .agg ⟨encE es⟩] (fun v H' g' => v = .bool (lessB ks es 5) ∧ H' = H ∧ g' = g) H g := by
  have hkl : ∀ x ∈ setM ks, x.1.length = 5 := fun x hx => by
    obtain ⟨k, h1, rfl⟩ := List.mem_map.1 hx
    exact hk k h1
  have hel5 : (encE es).length = 5 := by simp [encE, hes]
  have htk : (encE es).take 5 = encE es := List.take_of_length_le (by omega)
  have hok := encE_ok es
  refine CallJ.tidy ?_
  refine CallJ.enter Try.func138 rfl (by simp only [Try.ntmps138, List.length_cons, List.length_nil, Nat.zero_add, Nat.reduceAdd, Nat.reduceSub, List.replicate_succ, List.replicate_zero, List.cons_append, List.nil_append]; rfl) ?_
  repeat' (first
    | ((fail_if_success (first | refine is_ucall ?_ | refine is_umcall ?_)); first | refine W1 ?_ | refine Wc ?_ | refine W2c ?_ ?_ | refine Wg ?_ | refine W2 ?_ ?_ | exact Wdead | refine Wlive (fun hb => ?_) | intro _ _ _ _ _ _ _ _ | refine We ?_ | refine Wx ?_ | refine Wt ?_ | refine Wm ?_ | refine W2m ?_ ?_ | refine Wl ?_)
    | fail)
  refine WPJ.loopT 5 [8, 9, 5, 6, 10, 11, 12, 13, 14, 15, 16, 17, 18, 19] (fun j (_ : Unit) => [(7, .int .i64 j)])
    (fun j _ H1 g1 => g1 = g ∧ Ext H H1 ∧ H1[H.length]? = some (.row (encE es) 1 true) ∧ H.length < H1.length ∧ lessB ks es j = false) 0 () (Nat.zero_le _) (by intro p hp; simp at hp; rcases hp with rfl; rfl) ⟨rfl, extA, getA, by simp, rfl⟩ ?_
  rintro j _ H1 g1 hj ⟨rfl, he, hb0, hlen, hx⟩ hl0
  simp only [updT, maskT, List.set_cons_zero, List.set_cons_succ]
  rcases Nat.lt_or_ge j 5 with hlt | hge
  · have hjl : j < es.length := by omega
    have hst := lessB_succ ks es j
    have htr := fun h => lessB_true (ks := ks) (es := es) (j := j) (k := 5) hlt h
    have hgd : es.getD j 0 = es[j] := by simp [List.getD, hjl]
    have hbj := hb _ (List.getElem_mem hjl)
    have hej : (encE es)[0 + (j : Int).toNat * 1]? = some (.int .i64 es[j]) := by simp [encE, hjl]
    have hset : (encE es).set (j * 1) (.int .i64 (es[j] - 1)) = encE (es.set j (es[j] - 1)) := by simp [encE, List.map_set]
    have hsl : (es.set j (es[j] - 1)).length = 5 := by simp [hes]
    have htk2 : (encE (es.set j (es[j] - 1))).take 5 = encE (es.set j (es[j] - 1)) := List.take_of_length_le (by simp [encE, hes])
    rw [hgd, hx, Bool.false_or] at hst
    rw [hgd] at htr
    generalize es[j] = x at *
    generalize hcs : encE es = cs at *
    repeat' (first
      | ((fail_if_success (first | refine is_ucall ?_ | refine is_umcall ?_)); first | refine W1 ?_ | refine Wc ?_ | refine W2c ?_ ?_ | refine Wg ?_ | refine W2 ?_ ?_ | exact Wdead | refine Wlive (fun hb => ?_) | intro _ _ _ _ _ _ _ _ | refine We ?_ | refine Wx ?_ | refine Wt ?_ | refine Wm ?_ | refine W2m ?_ ?_ | refine Wl ?_)
      | fail)
    rw [hset, htk2]
    have hat := atK_set ks (es.set j (x - 1))
    refine st_lookup (ky := es.set j (x - 1)) (l := setM ks) rfl rfl hsl hkl (get_old (he.get hm)) ?_
    rw [show atK (setM ks) (es.set j (x - 1)) (constT (.bool false)) = .bool (ks.contains (es.set j (x - 1))) from hat]
    cases hc : ks.contains (es.set j (x - 1)) with
    | true =>
      have ht := htr hc
      refine OpsJ.normA ?_
      repeat' (first
        | ((fail_if_success (first | refine is_ucall ?_ | refine is_umcall ?_)); first | refine W1 ?_ | refine Wc ?_ | refine W2c ?_ ?_ | refine Wg ?_ | refine W2 ?_ ?_ | exact Wdead | refine Wlive (fun hb => ?_) | intro _ _ _ _ _ _ _ _ | refine We ?_ | refine Wx ?_ | refine Wt ?_ | refine Wm ?_ | refine W2m ?_ ?_ | refine Wl ?_)
        | fail)
      exact ⟨by rw [ht], rfl, rfl⟩
    | false =>
      refine OpsJ.normA ?_
      repeat' (first
        | ((fail_if_success (first | refine is_ucall ?_ | refine is_umcall ?_)); first | refine W1 ?_ | refine Wc ?_ | refine W2c ?_ ?_ | refine Wg ?_ | refine W2 ?_ ?_ | exact Wdead | refine Wlive (fun hb => ?_) | intro _ _ _ _ _ _ _ _ | refine We ?_ | refine Wx ?_ | refine Wt ?_ | refine Wm ?_ | refine W2m ?_ ?_ | refine Wl ?_)
        | fail)
      exact ⟨(), hlt, (by repeat' (first | exact Weak.nil | refine Weak.wild ?_ | refine Weak.same ?_ | refine Weak.intEq (by first | omega | (simp; done) | (push_cast; omega)) ?_)), rfl, extA, getA, by simp; omega, by rw [hst, hc]⟩
  · obtain rfl : j = 5 := by omega
    repeat' (first
      | ((fail_if_success (first | refine is_ucall ?_ | refine is_umcall ?_)); first | refine W1 ?_ | refine Wc ?_ | refine W2c ?_ ?_ | refine Wg ?_ | refine W2 ?_ ?_ | exact Wdead | refine Wlive (fun hb => ?_) | intro _ _ _ _ _ _ _ _ | refine We ?_ | refine Wx ?_ | refine Wt ?_ | refine Wm ?_ | refine W2m ?_ ?_ | refine Wl ?_)
      | fail)
    rw [hx]
    exact ⟨rfl, rfl, rfl⟩
end
end Go.Proofs.Ytjbiidlmpaibkaa
namespace Go.Proofs.Ytjbiidlmpaibkaa
open Go Go.Abs Go.Proofs
set_option maxHeartbeats 800000
attribute [local irreducible] CallJ OpsJ WPJ CallV MonoJ
theorem gen_prod : ∀ (rs : List (Int × Int)), (∀ r ∈ rs, upTo r 99 = true) → ((gen rs).length : Int) = prodS rs
  | [], _ => by simp [gen, prodS]
  | r :: rs, h => by
    have ih := gen_prod rs fun x hx => h x (by simp [hx])
    have h1 := h r (by simp)
    simp only [upTo, Bool.and_eq_true, decide_eq_true_eq] at h1
    rw [gen_len_cons, prodS, ← ih, Int.natCast_mul, Int.toNat_of_nonneg (by omega)]
theorem truths_few {m : CopM} (hG : Good m) : (truthsL m).length ≤ 2000 := by
  have h1 : (truthsL m).length ≤ (allT m).length := List.length_filter_le _ _
  have h2 := gen_prod m.loss hG.lb
  have h3 := hG.sz
  have h4 := hG.hh
  simp only [upTo, Bool.and_eq_true, decide_eq_true_eq] at h4
  rw [allT_len, genA_len] at h1
  unfold sizesS at h3
  rw [← h2, show m.hhi - m.hlo + 1 = (((m.hhi - m.hlo + 1).toNat : Nat) : Int) by omega, ← Int.natCast_mul] at h3
  omega
theorem shov_mem {m : CopM} {es : List Int} (hsh : 0 ≤ m.shovels ∧ m.shovels ≤ 3) (h5 : hrs m ≤ 5) (h : es ∈ genA (shov m)) : es.length = 5 ∧ ∀ x ∈ es, 0 ≤ x ∧ x ≤ m.shovels := by
  obtain ⟨s, hs, rfl⟩ := List.mem_map.1 h
  have h1 := gen_elem_len _ _ hs
  have hl : (shov m).length = hrs m := by simp [shov]
  refine ⟨by simp; omega, fun x hx => ?_⟩
  rcases List.mem_append.1 hx with hx | hx
  · have key : ∀ (rs : List (Int × Int)) (s : List Int), s ∈ gen rs → (∀ r ∈ rs, r = (0, m.shovels)) → ∀ x ∈ s, 0 ≤ x ∧ x ≤ m.shovels := by
      intro rs
      induction rs with
      | nil => intro s hs _ x hx; simp [gen] at hs; subst hs; cases hx
      | cons r rs ih =>
        intro s hs hr x hx
        simp only [gen, List.mem_flatMap, List.mem_map] at hs
        obtain ⟨n, hn, t, ht, rfl⟩ := hs
        rcases List.mem_cons.1 hx with rfl | hx
        · have h2 := rng_mem hn
          rw [hr r (by simp)] at h2
          exact h2
        · exact ih t ht (fun y hy => hr y (by simp [hy])) x hx
    exact key _ s hs (fun r hr => List.eq_of_mem_replicate hr) x hx
  · have := List.mem_of_mem_drop hx
    simp at this; omega
theorem shov_few {m : CopM} (hsh : 0 ≤ m.shovels ∧ m.shovels ≤ 3) (h5 : hrs m ≤ 5) : Few (shov m) := ⟨by simp [shov]; exact h5, fun r hr => by rw [List.eq_of_mem_replicate hr]; simp; omega⟩
def onM (m : CopM) (es : List Int) : CopM := coalM m (es.take (hrs m))
theorem WOk.on {m : CopM} (hW : WOk m) {es : List Int} (hes : es.length = 5) (hb : ∀ x ∈ es, 0 ≤ x ∧ x ≤ 3) : WOk (onM m es) := by
  obtain ⟨hn5, _⟩ := hrs_le hW
  exact ⟨hW.l0, hW.l4, hW.most, hW.start, hW.per, by simp [onM, coalM, hrs] at hn5 ⊢; omega, hW.wl, fun x hx => hb x (List.mem_of_mem_take hx), hW.w40⟩
def isSureB (m : CopM) (es : List Int) : Bool := (truthsL m).all (keptT (onM m es))
def sureK (m : CopM) (k : Nat) : List (List Int) := ((genA (shov m)).take k).foldl (fun ks es => if lessB ks es 5 || isSureB m es then addS ks es else ks) []
def sureL (m : CopM) : List (List Int) := (genA (shov m)).foldl (fun ks es => if lessB ks es 5 || isSureB m es then addS ks es else ks) []
theorem sureK_all (m : CopM) : sureK m (genA (shov m)).length = sureL m := by unfold sureK sureL; rw [List.take_length]
theorem sureK_succ {m : CopM} {k : Nat} {es : List Int} (h : (genA (shov m))[k]? = some es) : sureK m (k + 1) = if lessB (sureK m k) es 5 || isSureB m es then addS (sureK m k) es else sureK m k := by
  obtain ⟨hlt, rfl⟩ := List.getElem?_eq_some_iff.1 h
  unfold sureK
  rw [List.take_succ_eq_append_getElem hlt, List.foldl_append]; rfl
theorem sureK_mem {m : CopM} {k : Nat} : ∀ es ∈ sureK m k, es ∈ genA (shov m) := by
  induction k with
  | zero => intro es h; simp [sureK] at h
  | succ k ih =>
    intro es h
    rcases Nat.lt_or_ge k (genA (shov m)).length with hlt | hge
    · rw [sureK_succ (List.getElem?_eq_getElem hlt)] at h
      split at h
      · unfold addS at h
        split at h
        · exact ih es h
        · rcases List.mem_append.1 h with h | h
          · exact ih es h
          · simp at h; subst h; exact List.getElem_mem hlt
      · exact ih es h
    · have : sureK m (k + 1) = sureK m k := by unfold sureK; rw [List.take_of_length_le (by omega), List.take_of_length_le hge]
      rw [this] at h; exact ih es h
theorem sl_plain {α : Type} {enc : α → List Value} {w : Nat} (hf : ∀ a, (enc a).all flat1 = true) (H : AHeap) (l : List α) : PlainA (H ++ slH enc w l) (slV H.length l) := by
  cases l with
  | nil => intro i hi; simp [slV, idOf] at hi
  | cons a l =>
    intro i hi
    simp [slV, idOf] at hi
    subst hi
    refine ⟨((a :: l).map enc).flatten, w, true, by simp [slH], fun x hx => ?_⟩
    obtain ⟨y, hy, hx⟩ := List.mem_flatten.1 hx
    obtain ⟨a, _, rfl⟩ := List.mem_map.1 hy
    exact Plain.flat (List.all_eq_true.1 (hf a) x hx)
theorem low_on {H : AHeap} {m : CopM} {s1 s2 s3 s4 s : Value} (hm : CopIs H m s1 s2 s3 s4) (hs : Low H.length s) : ∀ v ∈ ccells m s s2 s3 s4, Low H.length v := fun v hv => by
  simp only [ccells, List.mem_cons, List.not_mem_nil, or_false] at hv
  rcases hv with rfl | rfl | rfl | rfl | rfl | rfl | rfl | rfl | rfl | rfl | rfl
  · exact .flat rfl
  · exact .flat rfl
  · exact .flat rfl
  · exact .flat rfl
  · exact .flat rfl
  · exact hs
  · exact RdS.low hm.want
  · exact .flat rfl
  · exact .flat rfl
  · exact RdS.low hm.loss
  · exact RdS.low hm.reads
theorem cop_on {H : AHeap} {m : CopM} {s1 s2 s3 s4 : Value} {a : Option Addr} {n c : Nat} {es : List Int} (hm : CopIs H m s1 s2 s3 s4) (hr : RdS H (.slice a n c) 1 (encI (es.take (hrs m)))) (h5 : es.length = 5) (hn5 : hrs m ≤ 5) : CopY H (onM m es) (.slice a n c) s2 s3 s4 := by
  refine ⟨hr, hm.want, hm.loss, hm.reads, ?_, ?_, hm.n2, hm.n3, hm.n4⟩
  · have h := hm.ok
    simp [cellOk] at h ⊢; exact h.2
  · simp only [onM, coalM, List.length_take]; omega
theorem rd_on {H : AHeap} {i : Nat} {m : CopM} {es : List Int} {own : Bool} (hi : H[i]? = some (.row (encE (es.take (hrs m))) 1 own)) (h5 : es.length = 5) (hn5 : hrs m ≤ 5) : RdS H (.slice (some ⟨i, 0, none⟩) (hrs m) (hrs m)) 1 (encI (es.take (hrs m))) := by
  have h := rd_encE (s := es.take (hrs m)) (cap := hrs m) hi (List.take_of_length_le (by simp [encE]))
  have e : (es.take (hrs m)).length = hrs m := by simp; omega
  rw [e] at h; exact h
section
variable {γ : Type} (E : Env γ) (g : γ) (H : AHeap)
def SureA (m : CopM) (H : AHeap) (v : Value) (H' : AHeap) : Prop := Ext H H' ∧ ∃ mi, v = .map (some mi) ∧ H'[mi]? = some (mapI (setM (sureL m))) ∧ H.length ≤ mi
theorem sureCoal_spec (m : CopM) (s1 s2 s3 s4 : Value) (hm : CopIs H m s1 s2 s3 s4) (hG : Good m) :
    CallJ Try.prog E 130 [cv m s1 s2 s3 s4] (fun v H' g' => SureA m H v H' ∧ g' = g) H g := by
  have hok := hm.cells
  have hV := hG.valid
  have hsh := hG.sh
  have hW := hG.w
  obtain ⟨hn5, hnl⟩ := hrs_le hW
  have htl := truths_few hG
  have hT := truths_tok hV
  unfold cv
  refine CallJ.enter Try.func130 rfl (by simp only [Try.ntmps130, List.length_cons, List.length_nil, Nat.zero_add, Nat.reduceSub, List.replicate_succ, List.replicate_zero, List.cons_append, List.nil_append]; rfl) ?_
  repeat' (first
    | ((fail_if_success (first | refine is_ucall ?_ | refine is_umcall ?_)); first | refine W1 ?_ | refine Wc ?_ | refine W2c ?_ ?_ | refine Wg ?_ | refine W2 ?_ ?_ | exact Wdead | refine Wlive (fun hb => ?_) | intro _ _ _ _ _ _ _ _ | refine We ?_ | refine Wx ?_ | refine Wt ?_ | refine Wm ?_ | refine W2m ?_ ?_ | refine Wl ?_)
    | fail)
  refine st_callL (h := truths_spec E _ _ m s1 s2 s3 s4 hok) (k := ?_)
  refine OpsJ.normA ?_
  repeat' (first
    | ((fail_if_success (first | refine is_ucall ?_ | refine is_umcall ?_)); first | refine W1 ?_ | refine Wc ?_ | refine W2c ?_ ?_ | refine Wg ?_ | refine W2 ?_ ?_ | exact Wdead | refine Wlive (fun hb => ?_) | intro _ _ _ _ _ _ _ _ | refine We ?_ | refine Wx ?_ | refine Wt ?_ | refine Wm ?_ | refine W2m ?_ ?_ | refine Wl ?_)
    | fail)
  refine st_call rfl (Collect_spec E g _ _ (shH (H.length + 1) s1 s2 s3 s4) (truthsL m) (iter_truths (b := H.length + 1) (own := true) (hm.ext extA) hV getA) hT (by omega)) ?_
  rintro v H1 g1 ⟨hv, hH1, rfl⟩
  have he1 : Ext H H1 := by rw [hH1, List.append_assoc]; exact ⟨_, rfl⟩
  have hb0 : H1[H.length]? = some (.row (ccells m s1 s2 s3 s4) 1 true) := by rw [hH1]; exact get_old (get_new0 rfl)
  have hr : RdS H1 v 6 ((truthsL m).map encT) := by rw [hH1, hv]; exact sl_rd encT_len _ _
  have hp : PlainA H1 v := by rw [hH1, hv]; exact sl_plain encT_flat _ _
  have hcv : cellOk v = true := by rw [hv]; exact slV_cell
  obtain ⟨va, vn, vc, rfl⟩ := RdS.shape hr
  have hl1 : H.length < H1.length := (List.getElem?_eq_some_iff.1 hb0).1
  clear hv hH1
  refine OpsJ.normA ?_
  repeat' (first
    | ((fail_if_success (first | refine is_ucall ?_ | refine is_umcall ?_)); first | refine W1 ?_ | refine Wc ?_ | refine W2c ?_ ?_ | refine Wg ?_ | refine W2 ?_ ?_ | exact Wdead | refine Wlive (fun hb => ?_) | intro _ _ _ _ _ _ _ _ | refine We ?_ | refine Wx ?_ | refine Wt ?_ | refine Wm ?_ | refine W2m ?_ ?_ | refine Wl ?_)
    | fail)
  refine st_makeMap ?_
  refine OpsJ.normA ?_
  repeat' (first
    | ((fail_if_success (first | refine is_ucall ?_ | refine is_umcall ?_)); first | refine W1 ?_ | refine Wc ?_ | refine W2c ?_ ?_ | refine Wg ?_ | refine W2 ?_ ?_ | exact Wdead | refine Wlive (fun hb => ?_) | intro _ _ _ _ _ _ _ _ | refine We ?_ | refine Wx ?_ | refine Wt ?_ | refine Wm ?_ | refine W2m ?_ ?_ | refine Wl ?_)
    | fail)
  refine st_call rfl (allCoal_spec E g1 _ m s1 s2 s3 s4 (hm.ext extA).y hW hsh) ?_
  rintro v2 H2 g2 ⟨⟨he2, b, rv, own, rfl, hrv, hpv, hbv, hbl, hil⟩, rfl⟩
  have e0 : H2[H.length]? = some (.row (ccells m s1 s2 s3 s4) 1 true) := he2.get (get_old hb0)
  have e1 : H2[H1.length]? = some (.row [.slice va vn vc] 1 true) := he2.get getA
  have e2 : H2[H1.length + 1]? = some (mapI []) := he2.get getA
  have e3 : H2[H1.length + 2]? = some (.row [.map (some (H1.length + 1))] 1 true) := he2.get getA
  have hel2 := he2.len
  have hrr := hr.ext (Ext.trans ⟨_, rfl⟩ he2)
  have hpp := hp.ext (Ext.trans ⟨_, rfl⟩ he2)
  have hxx : Ext H H2 := Ext.trans he1 (Ext.trans ⟨_, rfl⟩ he2)
  simp only [List.length_append, List.length_cons, List.length_nil] at hel2 hbl hil
  have hmx : CopIs H1 m s1 s2 s3 s4 := hm.ext he1
  clear hxx hrr hpp e0
  refine OpsJ.normA ?_
  repeat' (first
    | ((fail_if_success (first | refine is_ucall ?_ | refine is_umcall ?_)); first | refine W1 ?_ | refine Wc ?_ | refine W2c ?_ ?_ | refine Wg ?_ | refine W2 ?_ ?_ | exact Wdead | refine Wlive (fun hb => ?_) | intro _ _ _ _ _ _ _ _ | refine We ?_ | refine Wx ?_ | refine Wt ?_ | refine Wm ?_ | refine W2m ?_ ?_ | refine Wl ?_)
    | fail)
  refine WPJ.choicesA (b := b) rfl (shov_few hsh hn5) hrv hpv hbv
    (fun k Hc gc => gc = g2 ∧ Kept (shC b rv) H2 Hc ∧ Ext H1 Hc ∧ Hc[H1.length]? = some (.row [.slice va vn vc] 1 true) ∧ Hc[H1.length + 1]? = some (mapI (setM (sureK m k))) ∧ Hc[H1.length + 2]? = some (.row [.map (some (H1.length + 1))] 1 true) ∧ H1.length + 2 < Hc.length)
    (fun c Hc gc => False) ⟨rfl, Kept.refl _ _, Ext.trans ⟨_, rfl⟩ he2, e1, e2, e3, by omega⟩ (fun k Hc gc h => h.2.1) (fun c Hc gc h => h.elim) ?_ ?_ (fun _ _ _ h => h.elim)
  · rintro k es Hc gc hes ⟨rfl, hk, hx1, c1, c2, c3, hlen⟩
    clear e1 e2 e3 he2 hrv hpv hbv
    have hst := sureK_succ hes
    have hem := shov_mem hsh hn5 (List.mem_of_getElem? hes)
    have hkm : ∀ x ∈ sureK m k, x.length = 5 := fun x hx => (shov_mem hsh hn5 (sureK_mem x hx)).1
    obtain ⟨hes5, heb⟩ := hem
    generalize sureK m k = ks at *
    have hc0 := hx1.get hb0
    have hkl : ∀ x ∈ setM ks, x.1.length = 5 := fun x hx => by
      obtain ⟨k, h1, rfl⟩ := List.mem_map.1 hx
      exact hkm k h1
    have hbm : H1.length + 1 ∉ shC b rv := fun h => by
      simp only [shC, List.mem_cons] at h
      rcases h with h | h
      · omega
      · have := hil _ h; omega
    have hless : ∀ (H' : AHeap) (g' : Unit), H'[H1.length + 1]? = some (mapI (setM ks)) → CallJ Try.prog trivE 138 [.map (some (H1.length + 1)), .agg ⟨encE es⟩] (fun v H2 g2 => v = .bool (lessB ks es 5) ∧ H2 = H' ∧ g2 = g') H' g' := fun H' g' he => hasLess_spec trivE g' H' ks es (H1.length + 1) hes5 (fun x hx => by have := heb x hx; omega) hkm he
    have htk : (encE es).take 5 = encE es := List.take_of_length_le (by simp [encE]; omega)
    have hokE := encE_ok es
    have hlE : (encE es).length = 5 := by simp [encE, hes5]
    repeat' (first
      | ((fail_if_success (first | refine is_ucall ?_ | refine is_umcall ?_)); first | refine W1 ?_ | refine Wc ?_ | refine W2c ?_ ?_ | refine Wg ?_ | refine W2 ?_ ?_ | exact Wdead | refine Wlive (fun hb => ?_) | intro _ _ _ _ _ _ _ _ | refine We ?_ | refine Wx ?_ | refine Wt ?_ | refine Wm ?_ | refine W2m ?_ ?_ | refine Wl ?_)
      | fail)
    refine WPJ.draw 13 mixed (by kernel_rfl) (by kernel_rfl) (by kernel_rfl) (by decide) ?_
    refine MonoJ.normA ?_
    repeat' (first
      | ((fail_if_success (first | refine is_ucall ?_ | refine is_umcall ?_)); first | refine W1 ?_ | refine Wc ?_ | refine W2c ?_ ?_ | refine Wg ?_ | refine W2 ?_ ?_ | exact Wdead | refine Wlive (fun hb => ?_) | intro _ _ _ _ _ _ _ _ | refine We ?_ | refine Wx ?_ | refine Wt ?_ | refine Wm ?_ | refine W2m ?_ ?_ | refine Wl ?_)
      | fail)
    refine mj_callP (h := hless _ _ getA) (k := ?_)
    cases hlb : lessB ks es 5 with
    | true =>
      refine MonoJ.normA ?_
      repeat' (first
        | ((fail_if_success (first | refine is_ucall ?_ | refine is_umcall ?_)); first | refine W1 ?_ | refine Wc ?_ | refine W2c ?_ ?_ | refine Wg ?_ | refine W2 ?_ ?_ | exact Wdead | refine Wlive (fun hb => ?_) | intro _ _ _ _ _ _ _ _ | refine We ?_ | refine Wx ?_ | refine Wt ?_ | refine Wm ?_ | refine W2m ?_ ?_ | refine Wl ?_)
        | fail)
      refine st_mapUpdate (ky := es) (l := setM ks) (v := .bool true) rfl rfl rfl hes5 hkl getA ?_
      rw [putK_set]
      refine OpsJ.normA ?_
      repeat' (first
        | ((fail_if_success (first | refine is_ucall ?_ | refine is_umcall ?_)); first | refine W1 ?_ | refine Wc ?_ | refine W2c ?_ ?_ | refine Wg ?_ | refine W2 ?_ ?_ | exact Wdead | refine Wlive (fun hb => ?_) | intro _ _ _ _ _ _ _ _ | refine We ?_ | refine Wx ?_ | refine Wt ?_ | refine Wm ?_ | refine W2m ?_ ?_ | refine Wl ?_)
        | fail)
      refine ⟨rfl, ?_, ?_, getA, ?_, getA, by simp; omega⟩
      · exact Kept.set (Kept.app hk (.cons (.inr rfl) .nil)) hbm (by rfl)
      · exact extA
      · rw [hst, hlb, Bool.true_or, if_pos rfl]; exact getA
    | false =>
      refine MonoJ.normA ?_
      repeat' (first
        | ((fail_if_success (first | refine is_ucall ?_ | refine is_umcall ?_)); first | refine W1 ?_ | refine Wc ?_ | refine W2c ?_ ?_ | refine Wg ?_ | refine W2 ?_ ?_ | exact Wdead | refine Wlive (fun hb => ?_) | intro _ _ _ _ _ _ _ _ | refine We ?_ | refine Wx ?_ | refine Wt ?_ | refine Wm ?_ | refine W2m ?_ ?_ | refine Wl ?_)
        | fail)
      refine mj_callL (h := listOf_spec _ _ _ m s1 s2 s3 s4 es hok hW.l0 hW.l4 hes5) (k := ?_)
      refine MonoJ.normA ?_
      repeat' (first
        | ((fail_if_success (first | refine is_ucall ?_ | refine is_umcall ?_)); first | refine W1 ?_ | refine Wc ?_ | refine W2c ?_ ?_ | refine Wg ?_ | refine W2 ?_ ?_ | exact Wdead | refine Wlive (fun hb => ?_) | intro _ _ _ _ _ _ _ _ | refine We ?_ | refine Wx ?_ | refine Wt ?_ | refine Wm ?_ | refine W2m ?_ ?_ | refine Wl ?_)
        | fail)
      refine mj_callP (h := withCoal_spec _ _ _ m s1 s2 s3 s4 _ _ _ hok ?_) (k := ?_)
      · exact low_on ((hmx.ext hx1).ext extA) (.slice (by simp))
      refine MonoJ.normA ?_
      repeat' (first
        | ((fail_if_success (first | refine is_ucall ?_ | refine is_umcall ?_)); first | refine W1 ?_ | refine Wc ?_ | refine W2c ?_ ?_ | refine Wg ?_ | refine W2 ?_ ?_ | exact Wdead | refine Wlive (fun hb => ?_) | intro _ _ _ _ _ _ _ _ | refine We ?_ | refine Wx ?_ | refine Wt ?_ | refine Wm ?_ | refine W2m ?_ ?_ | refine Wl ?_)
        | fail)
      refine mj_callL (h := Values_spec _ _ _ (.slice va vn vc) ⟨_, _, _, rfl⟩) (k := ?_)
      refine MonoJ.normA ?_
      repeat' (first
        | ((fail_if_success (first | refine is_ucall ?_ | refine is_umcall ?_)); first | refine W1 ?_ | refine Wc ?_ | refine W2c ?_ ?_ | refine Wg ?_ | refine W2 ?_ ?_ | exact Wdead | refine Wlive (fun hb => ?_) | intro _ _ _ _ _ _ _ _ | refine We ?_ | refine Wx ?_ | refine Wt ?_ | refine Wm ?_ | refine W2m ?_ ?_ | refine Wl ?_)
        | fail)
      refine mj_callP (h := areAlways_spec _ _ _ (onM m es) (.slice (some ⟨Hc.length + 1, 0, none⟩) (hrs m) (hrs m)) s2 s3 s4 _ (shV (Hc.length + 2) (.slice va vn vc)) (truthsL m) (cop_on ((hmx.ext hx1).ext extA) ?_ hes5 hn5) (hW.on hes5 fun x hx => by have := heb x hx; omega)
        (iter_values (own := true) (hr.ext (hx1.trans extA)) (hp.ext (hx1.trans extA)) getA hT (by omega)) hT) (k := ?_)
      · exact rd_on (own := true) getA hes5 hn5
      rw [show (truthsL m).all (keptT (onM m es)) = isSureB m es from rfl]
      cases hsu : isSureB m es with
      | true =>
        refine MonoJ.normA ?_
        repeat' (first
          | ((fail_if_success (first | refine is_ucall ?_ | refine is_umcall ?_)); first | refine W1 ?_ | refine Wc ?_ | refine W2c ?_ ?_ | refine Wg ?_ | refine W2 ?_ ?_ | exact Wdead | refine Wlive (fun hb => ?_) | intro _ _ _ _ _ _ _ _ | refine We ?_ | refine Wx ?_ | refine Wt ?_ | refine Wm ?_ | refine W2m ?_ ?_ | refine Wl ?_)
          | fail)
        refine st_mapUpdate (ky := es) (l := setM ks) (v := .bool true) rfl rfl rfl hes5 hkl getA ?_
        rw [putK_set]
        refine OpsJ.normA ?_
        repeat' (first
          | ((fail_if_success (first | refine is_ucall ?_ | refine is_umcall ?_)); first | refine W1 ?_ | refine Wc ?_ | refine W2c ?_ ?_ | refine Wg ?_ | refine W2 ?_ ?_ | exact Wdead | refine Wlive (fun hb => ?_) | intro _ _ _ _ _ _ _ _ | refine We ?_ | refine Wx ?_ | refine Wt ?_ | refine Wm ?_ | refine W2m ?_ ?_ | refine Wl ?_)
          | fail)
        refine ⟨rfl, ?_, ?_, getA, ?_, getA, by simp; omega⟩
        · exact Kept.set (Kept.app hk (.cons (.inr rfl) (.cons (.inr rfl) (.cons (.inr rfl) .nil)))) hbm (by rfl)
        · exact extA
        · rw [hst, hlb, hsu, Bool.false_or, if_pos rfl]; exact getA
      | false =>
        refine MonoJ.normA ?_
        repeat' (first
          | ((fail_if_success (first | refine is_ucall ?_ | refine is_umcall ?_)); first | refine W1 ?_ | refine Wc ?_ | refine W2c ?_ ?_ | refine Wg ?_ | refine W2 ?_ ?_ | exact Wdead | refine Wlive (fun hb => ?_) | intro _ _ _ _ _ _ _ _ | refine We ?_ | refine Wx ?_ | refine Wt ?_ | refine Wm ?_ | refine W2m ?_ ?_ | refine Wl ?_)
          | fail)
        refine ⟨rfl, Kept.app hk (.cons (.inr rfl) (.cons (.inr rfl) (.cons (.inr rfl) .nil))), hx1.trans extA, getA, ?_, getA, by simp; omega⟩
        rw [hst, hlb, hsu, Bool.false_or, if_neg (by simp)]; exact getA
  · rintro Hc gc ⟨rfl, hk, hx1, c1, c2, c3, hlen⟩
    rw [sureK_all] at c2
    repeat' (first
      | ((fail_if_success (first | refine is_ucall ?_ | refine is_umcall ?_)); first | refine W1 ?_ | refine Wc ?_ | refine W2c ?_ ?_ | refine Wg ?_ | refine W2 ?_ ?_ | exact Wdead | refine Wlive (fun hb => ?_) | intro _ _ _ _ _ _ _ _ | refine We ?_ | refine Wx ?_ | refine Wt ?_ | refine Wm ?_ | refine W2m ?_ ?_ | refine Wl ?_)
      | fail)
    exact ⟨⟨he1.trans hx1, H1.length + 1, rfl, c2, by omega⟩, rfl⟩
end
end Go.Proofs.Ytjbiidlmpaibkaa
namespace Go.Proofs.Ytjbiidlmpaibkaa
open Go Go.Abs Go.Proofs
set_option maxHeartbeats 800000
attribute [local irreducible] CallJ OpsJ WPJ CallV MonoJ
theorem WPJ.choicesK {γ : Type} {E : Env γ} {gop : Operand} {p : Tmp} {assign body : Code} {Q : Exit → List Value → AHeap → γ → Prop} {T : List Value} {H : AHeap} {g : γ} {rs : List (Int × Int)} {rv : Value} {b : Nat} {own : Bool} (hg : evalT T gop = .func (.func 140) ⟨[]⟩ ⟨[.pointer (some ⟨b, 0, none⟩)]⟩)
    (hf : Few rs) (hr : RdS H rv 2 (rs.map encR)) (hp : PlainA H rv) (hb : H[b]? = some (.row [rv] 1 own))
    (I : Nat → AHeap → γ → Prop) (Ix : Code → AHeap → γ → Prop) (h0 : I 0 H g) (hI : ∀ k H2 g2, I k H2 g2 → Kept (shC b rv) H H2) (hIx : ∀ c H2 g2, Ix c H2 g2 → Kept (shC b rv) H H2)
    (round : ∀ k es Hc gc, (genA rs)[k]? = some es → I k Hc gc → WPJ Try.prog E assign (thenQ (WPJ Try.prog E body (roundQ (fun H g => I (k + 1) (H.set (Hc.length + 1) .dead) g) (fun c H g => Ix c (H.set (Hc.length + 1) .dead) g))) (fun _ _ _ _ => False)) (T.set p (.agg ⟨encE es⟩)) Hc gc)
    (done : ∀ Hc gc, I (genA rs).length Hc gc → Q .normal T Hc gc) (stop : ∀ c Hc gc, Ix c Hc gc → WPJ Try.prog E c Q T Hc gc) : WPJ Try.prog E (.rangeFunc gop #[p] assign body) Q T H g := by
  refine WPJ.choicesA hg hf hr hp hb I Ix h0 hI hIx (fun k es Hc gc hk hi => WPJ.mono (round k es Hc gc hk hi) ?_) done stop
  intro e T2 H2 g2 h
  cases e with
  | normal => exact WPJ.killPost (Hc.length + 1) (WPJ.mono h fun e _ _ _ h => by cases e <;> exact h)
  | _ => exact h
theorem find_at {α : Type} {p : α → Bool} {l : List α} {k : Nat} {x : α} (h : l[k]? = some x) (hn : (l.take k).find? p = none) (hp : p x = true) : l.find? p = some x := by
  obtain ⟨hlt, hx⟩ := List.getElem?_eq_some_iff.1 h
  have e : l = l.take k ++ x :: l.drop (k + 1) := by rw [← hx, ← List.drop_eq_getElem_cons hlt, List.take_append_drop]
  rw [e, List.find?_append, hn]
  simp [hp]
theorem find_snoc {α : Type} {p : α → Bool} {l : List α} {k : Nat} {x : α} (h : l[k]? = some x) (hn : (l.take k).find? p = none) (hp : p x = false) : (l.take (k + 1)).find? p = none := by
  obtain ⟨hlt, rfl⟩ := List.getElem?_eq_some_iff.1 h
  rw [List.take_succ_eq_append_getElem hlt, List.find?_append, hn]
  simp [hp]
def isLeast (m : CopM) (many : Int) (es : List Int) : Bool := (sureL m).contains es && decide (sumL es = many)
def leastAt (m : CopM) (many : Int) : Option (List Int) := (genA (shov m)).find? (isLeast m many)
def leastU (m : CopM) (n : Nat) : Option (List Int) := (List.range n).findSome? fun (j : Nat) => leastAt m j
theorem leastU_succ (m : CopM) (n : Nat) : leastU m (n + 1) = (leastU m n).or (leastAt m n) := by
  unfold leastU
  rw [List.range_succ, List.findSome?_append]
  simp
theorem leastU_le (m : CopM) {es : List Int} {n : Nat} : ∀ {k : Nat}, n ≤ k → leastU m n = some es → leastU m k = some es := by
  intro k hk h
  induction k with
  | zero => obtain rfl : n = 0 := by omega
            exact h
  | succ k ih =>
    rcases Nat.eq_or_lt_of_le hk with rfl | hlt
    · exact h
    · rw [leastU_succ, ih (by omega)]; rfl
def manyN (m : CopM) : Nat := m.shovels.toNat * hrs m + 1
def leastO (m : CopM) : Option (List Int) := leastU m (manyN m)
def leastP (o : Option (List Int)) : List Int := o.getD [0, 0, 0, 0, 0]
theorem leastO_mem {m : CopM} {es : List Int} (h : leastO m = some es) : es ∈ genA (shov m) := by
  obtain ⟨_, _, h⟩ := List.exists_of_findSome?_eq_some h
  exact List.mem_of_find?_eq_some h
theorem kill_set {H L : AHeap} {o1 o2 o3 : AObj} : (H ++ (o1 :: o2 :: L)).set (H.length + 1) o3 = H ++ (o1 :: o3 :: L) := by rw [set_new]; rfl
section
variable {γ : Type} (E : Env γ) (g : γ) (H : AHeap)
theorem leastCoal_spec (m : CopM) (s1 s2 s3 s4 : Value) (hm : CopIs H m s1 s2 s3 s4) (hG : Good m) :
    CallJ Try.prog E 110 [cv m s1 s2 s3 s4] (fun v H' g' => v = .tuple #[.agg ⟨encE (leastP (leastO m))⟩, .bool (leastO m).isSome] ∧ H' = H ∧ g' = g) H g := by
  have hok := hm.cells
  have hsh := hG.sh
  have hW := hG.w
  have hl0 := hW.l0
  have hl4 := hW.l4
  obtain ⟨hn5, hnl⟩ := hrs_le hW
  have hnl' : ((hrs m : Nat) : Int) = m.last + 1 := by omega
  have hmn : ((manyN m : Nat) : Int) = m.shovels * (m.last + 1) + 1 := by unfold manyN; rw [Int.natCast_add, Int.natCast_mul, Int.toNat_of_nonneg hsh.1, hnl']; rfl
  have hmb : 0 ≤ m.shovels * (m.last + 1) ∧ m.shovels * (m.last + 1) ≤ 15 := by
    have h1 := Int.mul_nonneg hsh.1 (show 0 ≤ m.last + 1 by omega)
    have h2 := Int.mul_le_mul hsh.2 (show m.last + 1 ≤ 5 by omega) (by omega) (by omega)
    omega
  refine CallJ.tidy ?_
  unfold cv
  refine CallJ.enter Try.func110 rfl (by simp only [Try.ntmps110, List.length_cons, List.length_nil, Nat.zero_add, Nat.reduceSub, List.replicate_succ, List.replicate_zero, List.cons_append, List.nil_append]; rfl) ?_
  repeat' (first
    | (refine is_ucall ?_; first
      | refine st_callP (h := hours_spec _ _ _ m s1 s2 s3 s4 hok (by omega)) (k := ?_)
      | fail)
    | (refine is_umcall ?_; first
      | refine mj_callP (h := hours_spec _ _ _ m s1 s2 s3 s4 hok (by omega)) (k := ?_)
      | fail)
    | ((fail_if_success (first | refine is_ucall ?_ | refine is_umcall ?_)); first | refine W1 ?_ | refine Wc ?_ | refine W2c ?_ ?_ | refine Wg ?_ | refine W2 ?_ ?_ | exact Wdead | refine Wlive (fun hb => ?_) | intro _ _ _ _ _ _ _ _ | refine We ?_ | refine Wx ?_ | refine Wt ?_ | refine Wm ?_ | refine W2m ?_ ?_ | refine Wl ?_)
    | fail)
  refine WPJ.scope (fun l T H g h => h.elim) ?_
  repeat' (first
    | (refine is_ucall ?_; first
      | refine st_callP (h := hours_spec _ _ _ m s1 s2 s3 s4 hok (by omega)) (k := ?_)
      | fail)
    | (refine is_umcall ?_; first
      | refine mj_callP (h := hours_spec _ _ _ m s1 s2 s3 s4 hok (by omega)) (k := ?_)
      | fail)
    | ((fail_if_success (first | refine is_ucall ?_ | refine is_umcall ?_)); first | refine W1 ?_ | refine Wc ?_ | refine W2c ?_ ?_ | refine Wg ?_ | refine W2 ?_ ?_ | exact Wdead | refine Wlive (fun hb => ?_) | intro _ _ _ _ _ _ _ _ | refine We ?_ | refine Wx ?_ | refine Wt ?_ | refine Wm ?_ | refine W2m ?_ ?_ | refine Wl ?_)
    | fail)
  refine st_call rfl (sureCoal_spec E _ _ m s1 s2 s3 s4 ?_ hG) ?_
  · exact hm.ext extA
  rintro v H1 g1 ⟨⟨he1, mi, rfl, hmi, hml⟩, rfl⟩
  have c0 : H1[H.length]? = some (.row (ccells m s1 s2 s3 s4) 1 true) := he1.get getA
  have c1 : H1[H.length + 1]? = some (.row (encE [0, 0, 0, 0, 0]) 1 true) := he1.get getA
  have c2 : H1[H.length + 2]? = some (.row [.bool false] 1 true) := he1.get getA
  have hx1 : Ext H H1 := Ext.trans ⟨_, rfl⟩ he1
  have hle1 := he1.len
  simp only [List.length_append, List.length_cons, List.length_nil] at hml hle1
  clear he1
  refine OpsJ.normA ?_
  repeat' (first
    | (refine is_ucall ?_; first
      | refine st_callP (h := hours_spec _ _ _ m s1 s2 s3 s4 hok (by omega)) (k := ?_)
      | fail)
    | (refine is_umcall ?_; first
      | refine mj_callP (h := hours_spec _ _ _ m s1 s2 s3 s4 hok (by omega)) (k := ?_)
      | fail)
    | ((fail_if_success (first | refine is_ucall ?_ | refine is_umcall ?_)); first | refine W1 ?_ | refine Wc ?_ | refine W2c ?_ ?_ | refine Wg ?_ | refine W2 ?_ ?_ | exact Wdead | refine Wlive (fun hb => ?_) | intro _ _ _ _ _ _ _ _ | refine We ?_ | refine Wx ?_ | refine Wt ?_ | refine Wm ?_ | refine W2m ?_ ?_ | refine Wl ?_)
    | fail)
  refine WPJ.draw 7 mixed (by kernel_rfl) (by kernel_rfl) (by kernel_rfl) (by decide) ?_
  refine MonoJ.normA ?_
  repeat' (first
    | (refine is_ucall ?_; first
      | refine st_callP (h := hours_spec _ _ _ m s1 s2 s3 s4 hok (by omega)) (k := ?_)
      | fail)
    | (refine is_umcall ?_; first
      | refine mj_callP (h := hours_spec _ _ _ m s1 s2 s3 s4 hok (by omega)) (k := ?_)
      | fail)
    | ((fail_if_success (first | refine is_ucall ?_ | refine is_umcall ?_)); first | refine W1 ?_ | refine Wc ?_ | refine W2c ?_ ?_ | refine Wg ?_ | refine W2 ?_ ?_ | exact Wdead | refine Wlive (fun hb => ?_) | intro _ _ _ _ _ _ _ _ | refine We ?_ | refine Wx ?_ | refine Wt ?_ | refine Wm ?_ | refine W2m ?_ ?_ | refine Wl ?_)
    | fail)
  have hkl : ∀ x ∈ setM (sureL m), x.1.length = 5 := fun x hx => by
    obtain ⟨k, h1, rfl⟩ := List.mem_map.1 hx
    rw [← sureK_all] at h1
    exact (shov_mem hsh hn5 (sureK_mem k h1)).1
  refine WPJ.loopT (manyN m) [16, 17, 5, 18, 19, 6, 20, 21, 22, 23, 24, 25, 26, 27, 28, 29, 30, 31] (fun j (_ : Unit) => [(15, .int .i64 j)])
    (fun j _ Hc gc => gc = g1 ∧ Ext H Hc ∧ Hc[H.length]? = some (.row (ccells m s1 s2 s3 s4) 1 true) ∧ Hc[H.length + 1]? = some (.row (encE [0, 0, 0, 0, 0]) 1 true) ∧ Hc[H.length + 2]? = some (.row [.bool false] 1 true) ∧ Hc[mi]? = some (mapI (setM (sureL m))) ∧ Hc[H1.length]? = some (.row [.map (some mi)] 1 true) ∧ H1.length < Hc.length ∧ leastU m j = none)
    0 () (Nat.zero_le _) (by intro p hp; simp at hp; rcases hp with rfl; rfl) ⟨rfl, extA, get_old c0, get_old c1, get_old c2, get_old hmi, getA, by simp, rfl⟩ ?_
  clear c0 c1 c2 hmi
  rintro j _ Hc gc hj ⟨rfl, hx, d0, d1, d2, d3, d4, hlen, hu⟩ hl0'
  simp only [updT, maskT, List.set_cons_zero, List.set_cons_succ]
  rcases Nat.lt_or_ge j (manyN m) with hlt | hge
  · skip
    repeat' (first
      | (refine is_ucall ?_; first
        | refine st_callP (h := hours_spec _ _ _ m s1 s2 s3 s4 hok (by omega)) (k := ?_)
        | fail)
      | (refine is_umcall ?_; first
        | refine mj_callP (h := hours_spec _ _ _ m s1 s2 s3 s4 hok (by omega)) (k := ?_)
        | fail)
      | ((fail_if_success (first | refine is_ucall ?_ | refine is_umcall ?_)); first | refine W1 ?_ | refine Wc ?_ | refine W2c ?_ ?_ | refine Wg ?_ | refine W2 ?_ ?_ | exact Wdead | refine Wlive (fun hb => ?_) | intro _ _ _ _ _ _ _ _ | refine We ?_ | refine Wx ?_ | refine Wt ?_ | refine Wm ?_ | refine W2m ?_ ?_ | refine Wl ?_)
      | fail)
    refine st_call rfl (allCoal_spec E _ _ m s1 s2 s3 s4 ?_ hW hsh) ?_
    · exact ((hm.ext hx).ext extA).y
    rintro v2 H2 g2 ⟨⟨he2, b, rv, own, rfl, hrv, hpv, hbv, hbl, hil⟩, rfl⟩
    have e0 := he2.get (get_old d0)
    have e1 := he2.get (get_old d1)
    have e2 := he2.get (get_old d2)
    have e3 := he2.get (get_old d3)
    have e4 := he2.get (get_old d4)
    have e5 : H2[Hc.length]? = some (.row [.int .i64 j] 1 true) := he2.get getA
    have hx2 : Ext H H2 := Ext.trans hx (Ext.trans ⟨_, rfl⟩ he2)
    have hle2 := he2.len
    simp only [List.length_append, List.length_cons, List.length_nil] at hle2 hbl hil
    clear he2 d0 d1 d2 d3 d4 hx
    refine OpsJ.normA ?_
    repeat' (first
      | (refine is_ucall ?_; first
        | refine st_callP (h := hours_spec _ _ _ m s1 s2 s3 s4 hok (by omega)) (k := ?_)
        | fail)
      | (refine is_umcall ?_; first
        | refine mj_callP (h := hours_spec _ _ _ m s1 s2 s3 s4 hok (by omega)) (k := ?_)
        | fail)
      | ((fail_if_success (first | refine is_ucall ?_ | refine is_umcall ?_)); first | refine W1 ?_ | refine Wc ?_ | refine W2c ?_ ?_ | refine Wg ?_ | refine W2 ?_ ?_ | exact Wdead | refine Wlive (fun hb => ?_) | intro _ _ _ _ _ _ _ _ | refine We ?_ | refine Wx ?_ | refine Wt ?_ | refine Wm ?_ | refine W2m ?_ ?_ | refine Wl ?_)
      | fail)
    refine WPJ.choicesK (b := b) rfl (shov_few hsh hn5) hrv hpv hbv
      (fun k Hd gd => gd = g2 ∧ Kept (shC b rv) H2 Hd ∧ Ext H Hd ∧ Hd[H.length]? = some (.row (ccells m s1 s2 s3 s4) 1 true) ∧ Hd[H.length + 1]? = some (.row (encE [0, 0, 0, 0, 0]) 1 true) ∧ Hd[H.length + 2]? = some (.row [.bool false] 1 true) ∧ Hd[mi]? = some (mapI (setM (sureL m))) ∧ Hd[H1.length]? = some (.row [.map (some mi)] 1 true) ∧ Hd[Hc.length]? = some (.row [.int .i64 j] 1 true) ∧ Hc.length < Hd.length ∧ ((genA (shov m)).take k).find? (isLeast m j) = none)
      (fun c Hd gd => c = .exit 0 ∧ gd = g2 ∧ Kept (shC b rv) H2 Hd ∧ Ext H Hd ∧ ∃ es, es.length = 5 ∧ leastAt m j = some es ∧ Hd[H.length + 1]? = some (.row (encE es) 1 true) ∧ Hd[H.length + 2]? = some (.row [.bool true] 1 true) ∧ H.length + 2 < Hd.length)
      ⟨rfl, Kept.refl _ _, hx2, e0, e1, e2, e3, e4, e5, by omega, by simp⟩ (fun k Hc gc h => h.2.1) (fun c Hc gc h => h.2.2.1) ?_ ?_ ?_
    · rintro k es Hd gd hes ⟨rfl, hk, hx3, f0, f1, f2, f3, f4, f5, hlen3, hfi⟩
      clear e0 e1 e2 e3 e4 e5 hrv hpv hbv hx2
      obtain ⟨hes5, heb⟩ := shov_mem hsh hn5 (List.mem_of_getElem? hes)
      have htk : (encE es).take 5 = encE es := List.take_of_length_le (by simp [encE]; omega)
      have hokE := encE_ok es
      have hlE : (encE es).length = 5 := by simp [encE, hes5]
      repeat' (first
        | (refine is_ucall ?_; first
          | refine st_callP (h := hours_spec _ _ _ m s1 s2 s3 s4 hok (by omega)) (k := ?_)
          | fail)
        | (refine is_umcall ?_; first
          | refine mj_callP (h := hours_spec _ _ _ m s1 s2 s3 s4 hok (by omega)) (k := ?_)
          | fail)
        | ((fail_if_success (first | refine is_ucall ?_ | refine is_umcall ?_)); first | refine W1 ?_ | refine Wc ?_ | refine W2c ?_ ?_ | refine Wg ?_ | refine W2 ?_ ?_ | exact Wdead | refine Wlive (fun hb => ?_) | intro _ _ _ _ _ _ _ _ | refine We ?_ | refine Wx ?_ | refine Wt ?_ | refine Wm ?_ | refine W2m ?_ ?_ | refine Wl ?_)
        | fail)
      refine WPJ.realias (p := 6) (i := Hd.length) (cells := encE es) (es := 1) (own := true) rfl getA ?_
      refine WPJ.draw 9 mixed (by kernel_rfl) (by kernel_rfl) (by kernel_rfl) (by decide) ?_
      refine MonoJ.normA ?_
      repeat' (first
        | (refine is_ucall ?_; first
          | refine st_callP (h := hours_spec _ _ _ m s1 s2 s3 s4 hok (by omega)) (k := ?_)
          | fail)
        | (refine is_umcall ?_; first
          | refine mj_callP (h := hours_spec _ _ _ m s1 s2 s3 s4 hok (by omega)) (k := ?_)
          | fail)
        | ((fail_if_success (first | refine is_ucall ?_ | refine is_umcall ?_)); first | refine W1 ?_ | refine Wc ?_ | refine W2c ?_ ?_ | refine Wg ?_ | refine W2 ?_ ?_ | exact Wdead | refine Wlive (fun hb => ?_) | intro _ _ _ _ _ _ _ _ | refine We ?_ | refine Wx ?_ | refine Wt ?_ | refine Wm ?_ | refine W2m ?_ ?_ | refine Wl ?_)
        | fail)
      have hns : ∀ i, i ≤ Hc.length → i ∉ shC b rv := fun i hi h => by
        simp only [shC, List.mem_cons] at h
        rcases h with h | h
        · omega
        · have := hil _ h; omega
      refine mj_lookup (ky := es) (l := setM (sureL m)) rfl rfl hes5 hkl ?_ ?_
      · exact get_old f3
      rw [show atK (setM (sureL m)) es (constT (.bool false)) = .bool ((sureL m).contains es) from atK_set _ es]
      have hal : (Hd ++ [AObj.dead, AObj.row (encE es) 1 false])[Hd.length + 1]? = some (.row (encE es) 1 false) := getA
      cases hc : (sureL m).contains es with
      | false =>
        have hno : isLeast m j es = false := by unfold isLeast; rw [hc]; rfl
        refine MonoJ.normA ?_
        repeat' (first
          | (refine is_ucall ?_; first
            | refine st_callP (h := hours_spec _ _ _ m s1 s2 s3 s4 hok (by omega)) (k := ?_)
            | fail)
          | (refine is_umcall ?_; first
            | refine mj_callP (h := hours_spec _ _ _ m s1 s2 s3 s4 hok (by omega)) (k := ?_)
            | fail)
          | ((fail_if_success (first | refine is_ucall ?_ | refine is_umcall ?_)); first | refine W1 ?_ | refine Wc ?_ | refine W2c ?_ ?_ | refine Wg ?_ | refine W2 ?_ ?_ | exact Wdead | refine Wlive (fun hb => ?_) | intro _ _ _ _ _ _ _ _ | refine We ?_ | refine Wx ?_ | refine Wt ?_ | refine Wm ?_ | refine W2m ?_ ?_ | refine Wl ?_)
          | fail)
        rw [kill_set]
        refine ⟨rfl, Kept.app hk (.cons (.inl rfl) (.cons (.inl rfl) .nil)), extA, getA, getA, getA, getA, getA, getA, by simp; omega, find_snoc hes hfi hno⟩
      | true =>
        refine MonoJ.normA ?_
        repeat' (first
          | (refine is_ucall ?_; first
            | refine st_callP (h := hours_spec _ _ _ m s1 s2 s3 s4 hok (by omega)) (k := ?_)
            | fail)
          | (refine is_umcall ?_; first
            | refine mj_callP (h := hours_spec _ _ _ m s1 s2 s3 s4 hok (by omega)) (k := ?_)
            | fail)
          | ((fail_if_success (first | refine is_ucall ?_ | refine is_umcall ?_)); first | refine W1 ?_ | refine Wc ?_ | refine W2c ?_ ?_ | refine Wg ?_ | refine W2 ?_ ?_ | exact Wdead | refine Wlive (fun hb => ?_) | intro _ _ _ _ _ _ _ _ | refine We ?_ | refine Wx ?_ | refine Wt ?_ | refine Wm ?_ | refine W2m ?_ ?_ | refine Wl ?_)
          | fail)
        refine mj_sliceAll rfl hal ?_
        have hrd : RdS (Hd ++ [AObj.dead, AObj.row (encE es) 1 false]) (.slice (some ⟨Hd.length + 1, 0, none⟩) 5 5) 1 (encI es) := by
          have h := rd_encE (s := es) (cap := 5) hal (List.take_of_length_le (by simp [encE]))
          rw [hes5] at h; exact h
        refine MonoJ.normA ?_
        repeat' (first
          | (refine is_ucall ?_; first
            | refine st_callP (h := hours_spec _ _ _ m s1 s2 s3 s4 hok (by omega)) (k := ?_)
            | fail)
          | (refine is_umcall ?_; first
            | refine mj_callP (h := hours_spec _ _ _ m s1 s2 s3 s4 hok (by omega)) (k := ?_)
            | fail)
          | ((fail_if_success (first | refine is_ucall ?_ | refine is_umcall ?_)); first | refine W1 ?_ | refine Wc ?_ | refine W2c ?_ ?_ | refine Wg ?_ | refine W2 ?_ ?_ | exact Wdead | refine Wlive (fun hb => ?_) | intro _ _ _ _ _ _ _ _ | refine We ?_ | refine Wx ?_ | refine Wt ?_ | refine Wm ?_ | refine W2m ?_ ?_ | refine Wl ?_)
          | fail)
        have hsb := sumL_bd 5 es hes5 fun x hx => by have := heb x hx; omega
        refine mj_callP (h := sum_spec _ _ _ _ es hrd (by omega) (fun x hx => by have := heb x hx; omega)) (k := ?_)
        generalize hsu : sumL es = su at *
        refine MonoJ.normA ?_
        repeat' (first
          | (refine is_ucall ?_; first
            | refine st_callP (h := hours_spec _ _ _ m s1 s2 s3 s4 hok (by omega)) (k := ?_)
            | fail)
          | (refine is_umcall ?_; first
            | refine mj_callP (h := hours_spec _ _ _ m s1 s2 s3 s4 hok (by omega)) (k := ?_)
            | fail)
          | ((fail_if_success (first | refine is_ucall ?_ | refine is_umcall ?_)); first | refine W1 ?_ | refine Wc ?_ | refine W2c ?_ ?_ | refine Wg ?_ | refine W2 ?_ ?_ | exact Wdead | refine Wlive (fun hb => ?_) | intro _ _ _ _ _ _ _ _ | refine We ?_ | refine Wx ?_ | refine Wt ?_ | refine Wm ?_ | refine W2m ?_ ?_ | refine Wl ?_)
          | fail)
        · rename_i hb
          have hle : isLeast m j es = true := by unfold isLeast; rw [hc, hsu]; simpa using hb
          have hat : leastAt m j = some es := find_at hes hfi hle
          rw [List.set_comm (i := H.length + 2) (j := Hd.length + 1) _ _ (by omega), List.set_comm (i := H.length + 1) (j := Hd.length + 1) _ _ (by omega), kill_set]
          refine ⟨rfl, rfl, Kept.set (Kept.set (Kept.app hk (.cons (.inl rfl) (.cons (.inl rfl) .nil))) (hns _ (by omega)) rfl) (hns _ (by omega)) rfl, extA, es, hes5, hat, getA, getA, by simp; omega⟩
        · have hno : isLeast m j es = false := by unfold isLeast; rw [hc, hsu]; simpa using hb
          rw [kill_set]
          refine ⟨rfl, Kept.app hk (.cons (.inl rfl) (.cons (.inl rfl) .nil)), extA, getA, getA, getA, getA, getA, getA, by simp; omega, find_snoc hes hfi hno⟩
    · rintro Hd gd ⟨rfl, hk, hx3, f0, f1, f2, f3, f4, f5, hlen3, hfi⟩
      rw [List.take_length] at hfi
      have hat : leastAt m j = none := hfi
      have hst := leastU_succ m j
      rw [hu, hat] at hst
      repeat' (first
        | (refine is_ucall ?_; first
          | refine st_callP (h := hours_spec _ _ _ m s1 s2 s3 s4 hok (by omega)) (k := ?_)
          | fail)
        | (refine is_umcall ?_; first
          | refine mj_callP (h := hours_spec _ _ _ m s1 s2 s3 s4 hok (by omega)) (k := ?_)
          | fail)
        | ((fail_if_success (first | refine is_ucall ?_ | refine is_umcall ?_)); first | refine W1 ?_ | refine Wc ?_ | refine W2c ?_ ?_ | refine Wg ?_ | refine W2 ?_ ?_ | exact Wdead | refine Wlive (fun hb => ?_) | intro _ _ _ _ _ _ _ _ | refine We ?_ | refine Wx ?_ | refine Wt ?_ | refine Wm ?_ | refine W2m ?_ ?_ | refine Wl ?_)
        | fail)
      refine ⟨(), hlt, (by repeat' (first | exact Weak.nil | refine Weak.wild ?_ | refine Weak.same ?_ | refine Weak.intEq (by first | omega | (simp; done) | (push_cast; omega)) ?_)), rfl, hx3, f0, f1, f2, f3, f4, by omega, hst⟩
    · rintro c Hd gd ⟨rfl, rfl, hk, hx3, es, hes5, hat, f1, f2, hlen3⟩
      have hst := leastU_succ m j
      rw [hu, hat] at hst
      have hlo : leastO m = some es := leastU_le m (n := j + 1) (by omega) hst
      have htk : (encE es).take 5 = encE es := List.take_of_length_le (by simp [encE]; omega)
      have hokE := encE_ok es
      have hlE : (encE es).length = 5 := by simp [encE, hes5]
      rw [hlo]
      repeat' (first
        | (refine is_ucall ?_; first
          | refine st_callP (h := hours_spec _ _ _ m s1 s2 s3 s4 hok (by omega)) (k := ?_)
          | fail)
        | (refine is_umcall ?_; first
          | refine mj_callP (h := hours_spec _ _ _ m s1 s2 s3 s4 hok (by omega)) (k := ?_)
          | fail)
        | ((fail_if_success (first | refine is_ucall ?_ | refine is_umcall ?_)); first | refine W1 ?_ | refine Wc ?_ | refine W2c ?_ ?_ | refine Wg ?_ | refine W2 ?_ ?_ | exact Wdead | refine Wlive (fun hb => ?_) | intro _ _ _ _ _ _ _ _ | refine We ?_ | refine Wx ?_ | refine Wt ?_ | refine Wm ?_ | refine W2m ?_ ?_ | refine Wl ?_)
        | fail)
      refine WPJ.draw 4 mixed (by kernel_rfl) (by kernel_rfl) (by kernel_rfl) (by decide) ?_
      refine MonoJ.normA ?_
      repeat' (first
        | (refine is_ucall ?_; first
          | refine st_callP (h := hours_spec _ _ _ m s1 s2 s3 s4 hok (by omega)) (k := ?_)
          | fail)
        | (refine is_umcall ?_; first
          | refine mj_callP (h := hours_spec _ _ _ m s1 s2 s3 s4 hok (by omega)) (k := ?_)
          | fail)
        | ((fail_if_success (first | refine is_ucall ?_ | refine is_umcall ?_)); first | refine W1 ?_ | refine Wc ?_ | refine W2c ?_ ?_ | refine Wg ?_ | refine W2 ?_ ?_ | exact Wdead | refine Wlive (fun hb => ?_) | intro _ _ _ _ _ _ _ _ | refine We ?_ | refine Wx ?_ | refine Wt ?_ | refine Wm ?_ | refine W2m ?_ ?_ | refine Wl ?_)
        | fail)
      refine mj_storeSame (cells := encE es) rfl rfl hokE hlE f1 (by show 0 + 5 ≤ (encE es).length; omega) ?_ ?_
      · show splice (encE es) 0 (encE es) = encE es
        simp [splice, hlE]
      refine mj_storeSame (cells := [.bool true]) rfl rfl rfl rfl f2 (Nat.le_refl _) rfl ?_
      refine MonoJ.normA ?_
      repeat' (first
        | (refine is_ucall ?_; first
          | refine st_callP (h := hours_spec _ _ _ m s1 s2 s3 s4 hok (by omega)) (k := ?_)
          | fail)
        | (refine is_umcall ?_; first
          | refine mj_callP (h := hours_spec _ _ _ m s1 s2 s3 s4 hok (by omega)) (k := ?_)
          | fail)
        | ((fail_if_success (first | refine is_ucall ?_ | refine is_umcall ?_)); first | refine W1 ?_ | refine Wc ?_ | refine W2c ?_ ?_ | refine Wg ?_ | refine W2 ?_ ?_ | exact Wdead | refine Wlive (fun hb => ?_) | intro _ _ _ _ _ _ _ _ | refine We ?_ | refine Wx ?_ | refine Wt ?_ | refine Wm ?_ | refine W2m ?_ ?_ | refine Wl ?_)
        | fail)
      refine exitQ_ret (Res.two rfl (RV.cellN (cells := encE es) rfl rfl f1 (by show 0 + 5 ≤ (encE es).length; omega) htk) (RV.cell1 (cells := [.bool true]) rfl rfl f2 rfl)) ?_
      exact Tidy.ext hx3 (.tuple2 (.agg (encE_flat _)) (.flat rfl)) ⟨rfl, rfl, rfl⟩
  · obtain rfl : j = manyN m := by omega
    have hlo : leastO m = none := hu
    rw [hlo]
    repeat' (first
      | (refine is_ucall ?_; first
        | refine st_callP (h := hours_spec _ _ _ m s1 s2 s3 s4 hok (by omega)) (k := ?_)
        | fail)
      | (refine is_umcall ?_; first
        | refine mj_callP (h := hours_spec _ _ _ m s1 s2 s3 s4 hok (by omega)) (k := ?_)
        | fail)
      | ((fail_if_success (first | refine is_ucall ?_ | refine is_umcall ?_)); first | refine W1 ?_ | refine Wc ?_ | refine W2c ?_ ?_ | refine Wg ?_ | refine W2 ?_ ?_ | exact Wdead | refine Wlive (fun hb => ?_) | intro _ _ _ _ _ _ _ _ | refine We ?_ | refine Wx ?_ | refine Wt ?_ | refine Wm ?_ | refine W2m ?_ ?_ | refine Wl ?_)
      | fail)
    refine WPJ.draw 4 mixed (by kernel_rfl) (by kernel_rfl) (by kernel_rfl) (by decide) ?_
    refine MonoJ.normA ?_
    repeat' (first
      | (refine is_ucall ?_; first
        | refine st_callP (h := hours_spec _ _ _ m s1 s2 s3 s4 hok (by omega)) (k := ?_)
        | fail)
      | (refine is_umcall ?_; first
        | refine mj_callP (h := hours_spec _ _ _ m s1 s2 s3 s4 hok (by omega)) (k := ?_)
        | fail)
      | ((fail_if_success (first | refine is_ucall ?_ | refine is_umcall ?_)); first | refine W1 ?_ | refine Wc ?_ | refine W2c ?_ ?_ | refine Wg ?_ | refine W2 ?_ ?_ | exact Wdead | refine Wlive (fun hb => ?_) | intro _ _ _ _ _ _ _ _ | refine We ?_ | refine Wx ?_ | refine Wt ?_ | refine Wm ?_ | refine W2m ?_ ?_ | refine Wl ?_)
      | fail)
    refine mj_storeSame (cells := encE [0, 0, 0, 0, 0]) rfl rfl rfl rfl d1 (Nat.le_refl _) rfl ?_
    refine mj_storeSame (cells := [.bool false]) rfl rfl rfl rfl d2 (Nat.le_refl _) rfl ?_
    refine MonoJ.normA ?_
    repeat' (first
      | (refine is_ucall ?_; first
        | refine st_callP (h := hours_spec _ _ _ m s1 s2 s3 s4 hok (by omega)) (k := ?_)
        | fail)
      | (refine is_umcall ?_; first
        | refine mj_callP (h := hours_spec _ _ _ m s1 s2 s3 s4 hok (by omega)) (k := ?_)
        | fail)
      | ((fail_if_success (first | refine is_ucall ?_ | refine is_umcall ?_)); first | refine W1 ?_ | refine Wc ?_ | refine W2c ?_ ?_ | refine Wg ?_ | refine W2 ?_ ?_ | exact Wdead | refine Wlive (fun hb => ?_) | intro _ _ _ _ _ _ _ _ | refine We ?_ | refine Wx ?_ | refine Wt ?_ | refine Wm ?_ | refine W2m ?_ ?_ | refine Wl ?_)
      | fail)
    refine exitQ_ret (Res.two rfl (RV.cellN (cells := encE [0, 0, 0, 0, 0]) rfl rfl d1 (Nat.le_refl _) rfl) (RV.cell1 (cells := [.bool false]) rfl rfl d2 rfl)) ?_
    exact Tidy.ext hx (.tuple2 (.agg rfl) (.flat rfl)) ⟨rfl, rfl, rfl⟩
end
end Go.Proofs.Ytjbiidlmpaibkaa
namespace Go.Proofs.Ytjbiidlmpaibkaa
open Go Go.Abs Go.Proofs
set_option maxHeartbeats 800000
attribute [local irreducible] CallJ OpsJ WPJ CallV MonoJ
instance eqc110 : EqC Try.prog 110 6 := EqC.intArr ty110.ty ty108.ty (by kernel_rfl)
theorem leastP_len {m : CopM} (hsh : 0 ≤ m.shovels ∧ m.shovels ≤ 3) (h5 : hrs m ≤ 5) : (leastP (leastO m)).length = 5 := by
  cases h : leastO m with
  | none => rfl
  | some es => exact (shov_mem hsh h5 (leastO_mem h)).1
def leastE (m : CopM) : Int := if checkT m = 0 then (if (leastO m).isSome then 0 else 10) else checkT m
def leastL (m : CopM) : List Int := (leastP (leastO m)).take (hrs m)
section
variable {γ : Type} (E : Env γ) (g : γ) (H : AHeap)
theorem Least_spec (m : CopM) (s1 s2 s3 s4 : Value) (hm : CopIs H m s1 s2 s3 s4) : CallJ Try.prog E 55 [cv m s1 s2 s3 s4] (fun v H' g' => IntsA H (leastE m) (leastL m) v H' ∧ g' = g) H g := by
  have hok := hm.cells
  refine CallJ.tidy ?_
  unfold cv
  by_cases hz : checkT m = 0
  · have hG := good_of (checkT_zero hz)
    obtain ⟨hn5, hnl⟩ := hrs_le hG.w
    have hl5 := leastP_len hG.sh hn5
    have hll : (leastL m).length = hrs m := by unfold leastL; simp; omega
    refine CallJ.enter Try.func55 rfl (by simp only [Try.ntmps55, List.length_cons, List.length_nil, Nat.zero_add, Nat.reduceSub, List.replicate_succ, List.replicate_zero, List.cons_append, List.nil_append]; rfl) ?_
    repeat' (first
      | (refine is_ucall ?_; first
        | refine st_callP (h := checkTruth_spec _ _ _ m s1 s2 s3 s4 (hm.ext extA)) (k := ?_)
        | fail)
      | (refine is_umcall ?_; first
        | refine mj_callP (h := checkTruth_spec _ _ _ m s1 s2 s3 s4 (hm.ext extA)) (k := ?_)
        | fail)
      | ((fail_if_success (first | refine is_ucall ?_ | refine is_umcall ?_)); first | refine W1 ?_ | refine Wc ?_ | refine W2c ?_ ?_ | refine Wg ?_ | refine W2 ?_ ?_ | exact Wdead | refine Wlive (fun hb => ?_) | intro _ _ _ _ _ _ _ _ | refine We ?_ | refine Wx ?_ | refine Wt ?_ | refine Wm ?_ | refine W2m ?_ ?_ | refine Wl ?_)
      | fail)
    refine st_callP (h := leastCoal_spec _ _ _ m s1 s2 s3 s4 ?_ hG) (k := ?_)
    · exact hm.ext extA
    have hE : leastE m = if (leastO m).isSome then 0 else 10 := by unfold leastE; rw [if_pos hz]
    have hL : leastL m = (leastP (leastO m)).take (hrs m) := rfl
    generalize leastP (leastO m) = es at *
    have htk : (encE es).take 5 = encE es := List.take_of_length_le (by simp [encE]; omega)
    have hokE := encE_ok es
    have hlE : (encE es).length = 5 := by simp [encE, hl5]
    cases hs : (leastO m).isSome with
    | false =>
      rw [hs] at hE
      refine OpsJ.normA ?_
      repeat' (first
        | (refine is_ucall ?_; first
          | refine st_callP (h := checkTruth_spec _ _ _ m s1 s2 s3 s4 (hm.ext extA)) (k := ?_)
          | fail)
        | (refine is_umcall ?_; first
          | refine mj_callP (h := checkTruth_spec _ _ _ m s1 s2 s3 s4 (hm.ext extA)) (k := ?_)
          | fail)
        | ((fail_if_success (first | refine is_ucall ?_ | refine is_umcall ?_)); first | refine W1 ?_ | refine Wc ?_ | refine W2c ?_ ?_ | refine Wg ?_ | refine W2 ?_ ?_ | exact Wdead | refine Wlive (fun hb => ?_) | intro _ _ _ _ _ _ _ _ | refine We ?_ | refine Wx ?_ | refine Wt ?_ | refine Wm ?_ | refine W2m ?_ ?_ | refine Wl ?_)
        | fail)
      refine ⟨?_, rfl⟩
      unfold IntsA
      rw [hE, if_neg (by decide), if_neg (by decide)]; exact ⟨rfl, rfl⟩
    | true =>
      rw [hs] at hE
      refine OpsJ.normA ?_
      repeat' (first
        | (refine is_ucall ?_; first
          | refine st_callP (h := checkTruth_spec _ _ _ m s1 s2 s3 s4 (hm.ext extA)) (k := ?_)
          | fail)
        | (refine is_umcall ?_; first
          | refine mj_callP (h := checkTruth_spec _ _ _ m s1 s2 s3 s4 (hm.ext extA)) (k := ?_)
          | fail)
        | ((fail_if_success (first | refine is_ucall ?_ | refine is_umcall ?_)); first | refine W1 ?_ | refine Wc ?_ | refine W2c ?_ ?_ | refine Wg ?_ | refine W2 ?_ ?_ | exact Wdead | refine Wlive (fun hb => ?_) | intro _ _ _ _ _ _ _ _ | refine We ?_ | refine Wx ?_ | refine Wt ?_ | refine Wm ?_ | refine W2m ?_ ?_ | refine Wl ?_)
        | fail)
      refine st_call rfl (listOf_spec E _ _ m s1 s2 s3 s4 es hok hG.w.l0 hG.w.l4 hl5) ?_
      rintro _ _ g2 ⟨rfl, rfl, rfl⟩
      refine OpsJ.normA ?_
      repeat' (first
        | (refine is_ucall ?_; first
          | refine st_callP (h := checkTruth_spec _ _ _ m s1 s2 s3 s4 (hm.ext extA)) (k := ?_)
          | fail)
        | (refine is_umcall ?_; first
          | refine mj_callP (h := checkTruth_spec _ _ _ m s1 s2 s3 s4 (hm.ext extA)) (k := ?_)
          | fail)
        | ((fail_if_success (first | refine is_ucall ?_ | refine is_umcall ?_)); first | refine W1 ?_ | refine Wc ?_ | refine W2c ?_ ?_ | refine Wg ?_ | refine W2 ?_ ?_ | exact Wdead | refine Wlive (fun hb => ?_) | intro _ _ _ _ _ _ _ _ | refine We ?_ | refine Wx ?_ | refine Wt ?_ | refine Wm ?_ | refine W2m ?_ ?_ | refine Wl ?_)
        | fail)
      refine Tidy.two extA (i := H.length + 2) getA (by omega) (encE_flat _) (.tuple2 (.slice (j := 0) rfl) (.flat rfl)) ⟨?_, rfl⟩
      unfold IntsA
      rw [hE, if_pos rfl, if_pos rfl, hll, hL]
      exact ⟨rfl, rfl⟩
  · skip
    refine CallJ.enter Try.func55 rfl (by simp only [Try.ntmps55, List.length_cons, List.length_nil, Nat.zero_add, Nat.reduceSub, List.replicate_succ, List.replicate_zero, List.cons_append, List.nil_append]; rfl) ?_
    repeat' (first
      | (refine is_ucall ?_; first
        | refine st_callP (h := checkTruth_spec _ _ _ m s1 s2 s3 s4 (hm.ext extA)) (k := ?_)
        | fail)
      | (refine is_umcall ?_; first
        | refine mj_callP (h := checkTruth_spec _ _ _ m s1 s2 s3 s4 (hm.ext extA)) (k := ?_)
        | fail)
      | ((fail_if_success (first | refine is_ucall ?_ | refine is_umcall ?_)); first | refine W1 ?_ | refine Wc ?_ | refine W2c ?_ ?_ | refine Wg ?_ | refine W2 ?_ ?_ | exact Wdead | refine Wlive (fun hb => ?_) | intro _ _ _ _ _ _ _ _ | refine We ?_ | refine Wx ?_ | refine Wt ?_ | refine Wm ?_ | refine W2m ?_ ?_ | refine Wl ?_)
      | fail)
    have hE : leastE m = checkT m := by unfold leastE; rw [if_neg hz]
    refine ⟨?_, rfl⟩
    unfold IntsA
    rw [hE, if_neg hz]; exact ⟨rfl, rfl⟩
def proveT (m : CopM) (h : Int) (ls : List Int) : Bool := decide (checkS m = 0) && truthOkS m h ls && (truthsL m).contains (h, pad5 ls)
theorem ProveTruth_spec (m : CopM) (s1 s2 s3 s4 tl : Value) (h : Int) (ls : List Int) (hm : CopIs H m s1 s2 s3 s4) (hr : RdS H tl 1 (encI ls)) (hn : ls.length ≤ 1000000) :
    CallJ Try.prog E 24 [cv m s1 s2 s3 s4, .agg ⟨[.int .i64 h, tl]⟩] (fun v H' g' => v = .bool (proveT m h ls) ∧ H' = H ∧ g' = g) H g := by
  have hok := hm.cells
  have hokt : [Value.int .i64 h, tl].all cellOk = true := by
    obtain ⟨_, ⟨i, o, c, row, es', own, rfl, _⟩ | ⟨_, rfl | rfl⟩⟩ := hr <;> rfl
  refine CallJ.tidy ?_
  unfold cv
  by_cases hz : checkS m = 0
  · have hG := good_of hz
    have hV := hG.valid
    have hW := hG.w
    have hP : proveT m h ls = (truthOkS m h ls && (truthsL m).contains (h, pad5 ls)) := by unfold proveT; rw [decide_eq_true hz, Bool.true_and]
    refine CallJ.enter Try.func24 rfl (by simp only [Try.ntmps24, List.length_cons, List.length_nil, Nat.zero_add, Nat.reduceAdd, Nat.reduceSub, List.replicate_succ, List.replicate_zero, List.cons_append, List.nil_append]; rfl) ?_
    repeat' (first
      | (refine is_ucall ?_; first
        | refine st_callP (h := CheckCopper_spec _ _ _ m s1 s2 s3 s4 (hm.ext extA)) (k := ?_)
        | fail)
      | (refine is_umcall ?_; first
        | refine mj_callP (h := CheckCopper_spec _ _ _ m s1 s2 s3 s4 (hm.ext extA)) (k := ?_)
        | fail)
      | ((fail_if_success (first | refine is_ucall ?_ | refine is_umcall ?_)); first | refine W1 ?_ | refine Wc ?_ | refine W2c ?_ ?_ | refine Wg ?_ | refine W2 ?_ ?_ | exact Wdead | refine Wlive (fun hb => ?_) | intro _ _ _ _ _ _ _ _ | refine We ?_ | refine Wx ?_ | refine Wt ?_ | refine Wm ?_ | refine W2m ?_ ?_ | refine Wl ?_)
      | fail)
    refine st_callP (h := truthOf_spec _ _ _ m s1 s2 s3 s4 tl h ls ?_ ?_ hn hW.l0 hW.l4 hG.ll) (k := ?_)
    · exact hm.ext extA
    · exact hr.ext extA
    cases hto : truthOkS m h ls with
    | false =>
      rw [hto] at hP
      refine OpsJ.normA ?_
      repeat' (first
        | (refine is_ucall ?_; first
          | refine st_callP (h := CheckCopper_spec _ _ _ m s1 s2 s3 s4 (hm.ext extA)) (k := ?_)
          | fail)
        | (refine is_umcall ?_; first
          | refine mj_callP (h := CheckCopper_spec _ _ _ m s1 s2 s3 s4 (hm.ext extA)) (k := ?_)
          | fail)
        | ((fail_if_success (first | refine is_ucall ?_ | refine is_umcall ?_)); first | refine W1 ?_ | refine Wc ?_ | refine W2c ?_ ?_ | refine Wg ?_ | refine W2 ?_ ?_ | exact Wdead | refine Wlive (fun hb => ?_) | intro _ _ _ _ _ _ _ _ | refine We ?_ | refine Wx ?_ | refine Wt ?_ | refine Wm ?_ | refine W2m ?_ ?_ | refine Wl ?_)
        | fail)
      rw [hP]; exact ⟨rfl, rfl, rfl⟩
    | true =>
      rw [hto, Bool.true_and] at hP
      have htl : (tcells h (pad5 ls)).length = 6 := by simp [tcells, encE, pad5, arr5_len]
      have htk : (tcells h (pad5 ls)).take 6 = tcells h (pad5 ls) := List.take_of_length_le (by omega)
      have htok := tcells_ok h (pad5 ls)
      have hpl : (pad5 ls).length = 5 := arr5_len _ _
      have htce : tcells h (pad5 ls) = (h :: pad5 ls).map cellI := rfl
      rw [if_pos rfl]
      generalize hps : pad5 ls = ps at *
      generalize htc : tcells h ps = tc at *
      refine OpsJ.normA ?_
      repeat' (first
        | (refine is_ucall ?_; first
          | refine st_callP (h := CheckCopper_spec _ _ _ m s1 s2 s3 s4 (hm.ext extA)) (k := ?_)
          | fail)
        | (refine is_umcall ?_; first
          | refine mj_callP (h := CheckCopper_spec _ _ _ m s1 s2 s3 s4 (hm.ext extA)) (k := ?_)
          | fail)
        | ((fail_if_success (first | refine is_ucall ?_ | refine is_umcall ?_)); first | refine W1 ?_ | refine Wc ?_ | refine W2c ?_ ?_ | refine Wg ?_ | refine W2 ?_ ?_ | exact Wdead | refine Wlive (fun hb => ?_) | intro _ _ _ _ _ _ _ _ | refine We ?_ | refine Wx ?_ | refine Wt ?_ | refine Wm ?_ | refine W2m ?_ ?_ | refine Wl ?_)
        | fail)
      refine st_callL (h := truths_spec E _ _ m s1 s2 s3 s4 hok) (k := ?_)
      refine OpsJ.normA ?_
      repeat' (first
        | (refine is_ucall ?_; first
          | refine st_callP (h := CheckCopper_spec _ _ _ m s1 s2 s3 s4 (hm.ext extA)) (k := ?_)
          | fail)
        | (refine is_umcall ?_; first
          | refine mj_callP (h := CheckCopper_spec _ _ _ m s1 s2 s3 s4 (hm.ext extA)) (k := ?_)
          | fail)
        | ((fail_if_success (first | refine is_ucall ?_ | refine is_umcall ?_)); first | refine W1 ?_ | refine Wc ?_ | refine W2c ?_ ?_ | refine Wg ?_ | refine W2 ?_ ?_ | exact Wdead | refine Wlive (fun hb => ?_) | intro _ _ _ _ _ _ _ _ | refine We ?_ | refine Wx ?_ | refine Wt ?_ | refine Wm ?_ | refine W2m ?_ ?_ | refine Wl ?_)
        | fail)
      have hmx : CopIs (H ++ [.row (ccells m s1 s2 s3 s4) 1 true, .row [.int .i64 h, tl] 1 true, .row [.bool false] 1 true, .row tc 1 true, .row (ccells m s1 s2 s3 s4) 1 true]) m s1 s2 s3 s4 := hm.ext ⟨_, rfl⟩
      refine WPJ.iter rfl (iter_truths (b := H.length + 4) hmx hV getA) (Ext.refl _)
        (fun k H2 g2 => g2 = g ∧ Kept (shH (H.length + 4) s1 s2 s3 s4) (H ++ [.row (ccells m s1 s2 s3 s4) 1 true, .row [.int .i64 h, tl] 1 true, .row [.bool false] 1 true, .row tc 1 true, .row (ccells m s1 s2 s3 s4) 1 true]) H2 ∧ Ext H H2 ∧ H2[H.length + 2]? = some (.row [.bool false] 1 true) ∧ H2[H.length + 3]? = some (.row tc 1 true) ∧ H.length + 4 < H2.length ∧ ((truthsL m).take k).contains (h, ps) = false)
        (fun c H2 g2 => c = .ret ∧ g2 = g ∧ Kept (shH (H.length + 4) s1 s2 s3 s4) (H ++ [.row (ccells m s1 s2 s3 s4) 1 true, .row [.int .i64 h, tl] 1 true, .row [.bool false] 1 true, .row tc 1 true, .row (ccells m s1 s2 s3 s4) 1 true]) H2 ∧ Ext H H2 ∧ H2[H.length + 2]? = some (.row [.bool true] 1 true) ∧ (truthsL m).contains (h, ps) = true)
        ⟨rfl, Kept.refl _ _, extA, getA, getA, by simp, by simp⟩ (fun _ _ _ h => h.2.1) (fun _ _ _ h => h.2.2.1) ?_ ?_ ?_
      · rintro k t Hc gc ht ⟨rfl, hk, hx, b1, b2, hlen, hco⟩
        have hTt := truths_tok hV t (List.mem_of_getElem? ht)
        have hmem := List.mem_of_getElem? ht
        obtain ⟨hlt, hte⟩ := List.getElem?_eq_some_iff.1 ht
        have hst : ((truthsL m).take (k + 1)).contains (h, ps) = (((truthsL m).take k).contains (h, ps) || decide (t = (h, ps))) := by
          rw [List.take_succ_eq_append_getElem hlt, hte]
          simp [eq_comm]
        obtain ⟨a, l⟩ := t
        have hl5 : l.length = 5 := hTt.n
        have ttl : (tcells a l).length = 6 := by simp [tcells, encE, hl5]
        have ttk : (tcells a l).take 6 = tcells a l := List.take_of_length_le (by omega)
        have tto := tcells_ok a l
        have tte : tcells a l = (a :: l).map cellI := rfl
        unfold tval
        generalize tcells a l = ta at *
        repeat' (first
          | (refine is_ucall ?_; first
            | refine st_callP (h := CheckCopper_spec _ _ _ m s1 s2 s3 s4 (hm.ext extA)) (k := ?_)
            | fail)
          | (refine is_umcall ?_; first
            | refine mj_callP (h := CheckCopper_spec _ _ _ m s1 s2 s3 s4 (hm.ext extA)) (k := ?_)
            | fail)
          | ((fail_if_success (first | refine is_ucall ?_ | refine is_umcall ?_)); first | refine W1 ?_ | refine Wc ?_ | refine W2c ?_ ?_ | refine Wg ?_ | refine W2 ?_ ?_ | exact Wdead | refine Wlive (fun hb => ?_) | intro _ _ _ _ _ _ _ _ | refine We ?_ | refine Wx ?_ | refine Wt ?_ | refine Wm ?_ | refine W2m ?_ ?_ | refine Wl ?_)
          | fail)
        refine st_eqC (xs := a :: l) (ys := h :: ps) ?_ ?_ (by simp [hl5]) (by simp [hpl]) ?_
        · simp only [evalT]; rw [← tte]; rfl
        · simp only [evalT]; rw [← htce]; rfl
        have hdd : decide (a :: l = h :: ps) = decide ((a, l) = (h, ps)) := by simp
        rw [hdd]
        cases hd : decide ((a, l) = (h, ps)) with
        | true =>
          have hc : (truthsL m).contains (h, ps) = true := by
            rw [List.contains_iff_mem, ← of_decide_eq_true hd]; exact hmem
          refine OpsJ.normA ?_
          repeat' (first
            | (refine is_ucall ?_; first
              | refine st_callP (h := CheckCopper_spec _ _ _ m s1 s2 s3 s4 (hm.ext extA)) (k := ?_)
              | fail)
            | (refine is_umcall ?_; first
              | refine mj_callP (h := CheckCopper_spec _ _ _ m s1 s2 s3 s4 (hm.ext extA)) (k := ?_)
              | fail)
            | ((fail_if_success (first | refine is_ucall ?_ | refine is_umcall ?_)); first | refine W1 ?_ | refine Wc ?_ | refine W2c ?_ ?_ | refine Wg ?_ | refine W2 ?_ ?_ | exact Wdead | refine Wlive (fun hb => ?_) | intro _ _ _ _ _ _ _ _ | refine We ?_ | refine Wx ?_ | refine Wt ?_ | refine Wm ?_ | refine W2m ?_ ?_ | refine Wl ?_)
            | fail)
          refine ⟨rfl, rfl, Kept.set (Kept.app hk (.cons (.inr rfl) .nil)) (shH_not hm (by omega) (by omega)) rfl, extA, getA, hc⟩
        | false =>
          refine OpsJ.normA ?_
          repeat' (first
            | (refine is_ucall ?_; first
              | refine st_callP (h := CheckCopper_spec _ _ _ m s1 s2 s3 s4 (hm.ext extA)) (k := ?_)
              | fail)
            | (refine is_umcall ?_; first
              | refine mj_callP (h := CheckCopper_spec _ _ _ m s1 s2 s3 s4 (hm.ext extA)) (k := ?_)
              | fail)
            | ((fail_if_success (first | refine is_ucall ?_ | refine is_umcall ?_)); first | refine W1 ?_ | refine Wc ?_ | refine W2c ?_ ?_ | refine Wg ?_ | refine W2 ?_ ?_ | exact Wdead | refine Wlive (fun hb => ?_) | intro _ _ _ _ _ _ _ _ | refine We ?_ | refine Wx ?_ | refine Wt ?_ | refine Wm ?_ | refine W2m ?_ ?_ | refine Wl ?_)
            | fail)
          refine ⟨rfl, Kept.app hk (.cons (.inr rfl) .nil), extA, getA, getA, by simp; omega, by rw [hst, hco, hd]; rfl⟩
      · rintro Hc gc ⟨rfl, hk, hx, b1, b2, hlen, hco⟩
        rw [List.take_length] at hco
        repeat' (first
          | (refine is_ucall ?_; first
            | refine st_callP (h := CheckCopper_spec _ _ _ m s1 s2 s3 s4 (hm.ext extA)) (k := ?_)
            | fail)
          | (refine is_umcall ?_; first
            | refine mj_callP (h := CheckCopper_spec _ _ _ m s1 s2 s3 s4 (hm.ext extA)) (k := ?_)
            | fail)
          | ((fail_if_success (first | refine is_ucall ?_ | refine is_umcall ?_)); first | refine W1 ?_ | refine Wc ?_ | refine W2c ?_ ?_ | refine Wg ?_ | refine W2 ?_ ?_ | exact Wdead | refine Wlive (fun hb => ?_) | intro _ _ _ _ _ _ _ _ | refine We ?_ | refine Wx ?_ | refine Wt ?_ | refine Wm ?_ | refine W2m ?_ ?_ | refine Wl ?_)
          | fail)
        rw [hP, hco]; exact ⟨rfl, rfl, rfl⟩
      · rintro c Hc gc ⟨rfl, rfl, hk, hx, b1, hco⟩
        repeat' (first
          | (refine is_ucall ?_; first
            | refine st_callP (h := CheckCopper_spec _ _ _ m s1 s2 s3 s4 (hm.ext extA)) (k := ?_)
            | fail)
          | (refine is_umcall ?_; first
            | refine mj_callP (h := CheckCopper_spec _ _ _ m s1 s2 s3 s4 (hm.ext extA)) (k := ?_)
            | fail)
          | ((fail_if_success (first | refine is_ucall ?_ | refine is_umcall ?_)); first | refine W1 ?_ | refine Wc ?_ | refine W2c ?_ ?_ | refine Wg ?_ | refine W2 ?_ ?_ | exact Wdead | refine Wlive (fun hb => ?_) | intro _ _ _ _ _ _ _ _ | refine We ?_ | refine Wx ?_ | refine Wt ?_ | refine Wm ?_ | refine W2m ?_ ?_ | refine Wl ?_)
          | fail)
        rw [hP, hco]; exact ⟨rfl, rfl, rfl⟩
  · skip
    refine CallJ.enter Try.func24 rfl (by simp only [Try.ntmps24, List.length_cons, List.length_nil, Nat.zero_add, Nat.reduceAdd, Nat.reduceSub, List.replicate_succ, List.replicate_zero, List.cons_append, List.nil_append]; rfl) ?_
    repeat' (first
      | (refine is_ucall ?_; first
        | refine st_callP (h := CheckCopper_spec _ _ _ m s1 s2 s3 s4 (hm.ext extA)) (k := ?_)
        | fail)
      | (refine is_umcall ?_; first
        | refine mj_callP (h := CheckCopper_spec _ _ _ m s1 s2 s3 s4 (hm.ext extA)) (k := ?_)
        | fail)
      | ((fail_if_success (first | refine is_ucall ?_ | refine is_umcall ?_)); first | refine W1 ?_ | refine Wc ?_ | refine W2c ?_ ?_ | refine Wg ?_ | refine W2 ?_ ?_ | exact Wdead | refine Wlive (fun hb => ?_) | intro _ _ _ _ _ _ _ _ | refine We ?_ | refine Wx ?_ | refine Wt ?_ | refine Wm ?_ | refine W2m ?_ ?_ | refine Wl ?_)
      | fail)
    have hP : proveT m h ls = false := by unfold proveT; rw [decide_eq_false hz]; rfl
    rw [hP]
    exact ⟨rfl, rfl, rfl⟩
def coalB (m : CopM) (l : List Int) (many : Int) : Bool := decide (checkT m = 0) && forHours m l m.shovels && (decide (sumL l ≤ many) && (truthsL m).all (keptT (coalM m l)))
theorem coal_wok {m : CopM} (hW : WOk m) {l : List Int} (hl : (l.length : Int) = m.last + 1) (hb : ∀ x ∈ l, 0 ≤ x ∧ x ≤ 3) : WOk (coalM m l) :=
  ⟨hW.l0, hW.l4, hW.most, hW.start, hW.per, by have := hW.l0; show l.length = (m.last + 1).toNat; omega, hW.wl, hb, hW.w40⟩
theorem coal_cop {H : AHeap} {m : CopM} {s1 s2 s3 s4 : Value} {a : Option Addr} {n c : Nat} {l : List Int} (hm : CopIs H m s1 s2 s3 s4) (hr : RdS H (.slice a n c) 1 (encI l)) (hn : l.length ≤ 1000000) : CopY H (coalM m l) (.slice a n c) s2 s3 s4 := by
  refine ⟨hr, hm.want, hm.loss, hm.reads, ?_, hn, hm.n2, hm.n3, hm.n4⟩
  have h := hm.ok
  simp [cellOk] at h ⊢; exact h.2
theorem ProveCoal_spec (m : CopM) (s1 s2 s3 s4 sv : Value) (l : List Int) (many : Int) (hm : CopIs H m s1 s2 s3 s4) (hr : RdS H sv 1 (encI l)) (hn : l.length ≤ 1000000) :
    CallJ Try.prog E 57 [cv m s1 s2 s3 s4, sv, .int .i64 many] (fun v H' g' => v = .bool (coalB m l many) ∧ H' = H ∧ g' = g) H g := by
  have hok := hm.cells
  obtain ⟨va, vn, vc, rfl⟩ := RdS.shape hr
  refine CallJ.tidy ?_
  unfold cv
  by_cases hz : checkT m = 0
  · have hG := good_of (checkT_zero hz)
    have hV := hG.valid
    have hW := hG.w
    have hl0 := hW.l0
    have hl4 := hW.l4
    have hfh : ∀ (H' : AHeap) (g' : γ), Ext H H' → CallJ Try.prog E 99 [cv m s1 s2 s3 s4, .slice va vn vc, .int .i64 m.shovels] (fun v H2 g2 => v = .bool (forHours m l m.shovels) ∧ H2 = H' ∧ g2 = g') H' g' := fun H' g' he => isForHours_spec E g' H' m s1 s2 s3 s4 (.slice va vn vc) l m.shovels hok (by omega) (hr.ext he) hn
    have hB : coalB m l many = (forHours m l m.shovels && (decide (sumL l ≤ many) && (truthsL m).all (keptT (coalM m l)))) := by unfold coalB; rw [decide_eq_true hz, Bool.true_and]
    refine CallJ.enter Try.func57 rfl (by simp only [Try.ntmps57, List.length_cons, List.length_nil, Nat.zero_add, Nat.reduceAdd, Nat.reduceSub, List.replicate_succ, List.replicate_zero, List.cons_append, List.nil_append]; rfl) ?_
    repeat' (first
      | (refine is_ucall ?_; first
        | refine st_callP (h := checkTruth_spec _ _ _ m s1 s2 s3 s4 (hm.ext extA)) (k := ?_)
        | fail)
      | (refine is_umcall ?_; first
        | refine mj_callP (h := checkTruth_spec _ _ _ m s1 s2 s3 s4 (hm.ext extA)) (k := ?_)
        | fail)
      | ((fail_if_success (first | refine is_ucall ?_ | refine is_umcall ?_)); first | refine W1 ?_ | refine Wc ?_ | refine W2c ?_ ?_ | refine Wg ?_ | refine W2 ?_ ?_ | exact Wdead | refine Wlive (fun hb => ?_) | intro _ _ _ _ _ _ _ _ | refine We ?_ | refine Wx ?_ | refine Wt ?_ | refine Wm ?_ | refine W2m ?_ ?_ | refine Wl ?_)
      | fail)
    refine st_callP (h := hfh _ _ extA) (k := ?_)
    cases hf : forHours m l m.shovels with
    | false =>
      rw [hf] at hB
      refine OpsJ.normA ?_
      repeat' (first
        | (refine is_ucall ?_; first
          | refine st_callP (h := checkTruth_spec _ _ _ m s1 s2 s3 s4 (hm.ext extA)) (k := ?_)
          | fail)
        | (refine is_umcall ?_; first
          | refine mj_callP (h := checkTruth_spec _ _ _ m s1 s2 s3 s4 (hm.ext extA)) (k := ?_)
          | fail)
        | ((fail_if_success (first | refine is_ucall ?_ | refine is_umcall ?_)); first | refine W1 ?_ | refine Wc ?_ | refine W2c ?_ ?_ | refine Wg ?_ | refine W2 ?_ ?_ | exact Wdead | refine Wlive (fun hb => ?_) | intro _ _ _ _ _ _ _ _ | refine We ?_ | refine Wx ?_ | refine Wt ?_ | refine Wm ?_ | refine W2m ?_ ?_ | refine Wl ?_)
        | fail)
      rw [hB]; exact ⟨rfl, rfl, rfl⟩
    | true =>
      rw [hf, Bool.true_and] at hB
      obtain ⟨hll, hlb⟩ := forHours_of hf
      have hsh := hG.sh
      have hW2 : WOk (coalM m l) := coal_wok hW hll fun x hx => by have := hlb x hx; omega
      have hCY : CopY H (coalM m l) (.slice va vn vc) s2 s3 s4 := coal_cop hm hr hn
      have hT := truths_tok hV
      refine OpsJ.normA ?_
      repeat' (first
        | (refine is_ucall ?_; first
          | refine st_callP (h := checkTruth_spec _ _ _ m s1 s2 s3 s4 (hm.ext extA)) (k := ?_)
          | fail)
        | (refine is_umcall ?_; first
          | refine mj_callP (h := checkTruth_spec _ _ _ m s1 s2 s3 s4 (hm.ext extA)) (k := ?_)
          | fail)
        | ((fail_if_success (first | refine is_ucall ?_ | refine is_umcall ?_)); first | refine W1 ?_ | refine Wc ?_ | refine W2c ?_ ?_ | refine Wg ?_ | refine W2 ?_ ?_ | exact Wdead | refine Wlive (fun hb => ?_) | intro _ _ _ _ _ _ _ _ | refine We ?_ | refine Wx ?_ | refine Wt ?_ | refine Wm ?_ | refine W2m ?_ ?_ | refine Wl ?_)
        | fail)
      refine WPJ.draw 13 mixed (by kernel_rfl) (by kernel_rfl) (by kernel_rfl) (by decide) ?_
      refine MonoJ.normA ?_
      repeat' (first
        | (refine is_ucall ?_; first
          | refine st_callP (h := checkTruth_spec _ _ _ m s1 s2 s3 s4 (hm.ext extA)) (k := ?_)
          | fail)
        | (refine is_umcall ?_; first
          | refine mj_callP (h := checkTruth_spec _ _ _ m s1 s2 s3 s4 (hm.ext extA)) (k := ?_)
          | fail)
        | ((fail_if_success (first | refine is_ucall ?_ | refine is_umcall ?_)); first | refine W1 ?_ | refine Wc ?_ | refine W2c ?_ ?_ | refine Wg ?_ | refine W2 ?_ ?_ | exact Wdead | refine Wlive (fun hb => ?_) | intro _ _ _ _ _ _ _ _ | refine We ?_ | refine Wx ?_ | refine Wt ?_ | refine Wm ?_ | refine W2m ?_ ?_ | refine Wl ?_)
        | fail)
      refine mj_callP (h := sum_spec _ _ _ (.slice va vn vc) l ?_ hn fun x hx => by have := hlb x hx; omega) (k := ?_)
      · exact hr.ext extA
      have hsb := sumL_bd l.length l rfl fun x hx => by have := hlb x hx; omega
      generalize sumL l = su at *
      cases hd : decide (su ≤ many) with
      | false =>
        rw [hd] at hB
        refine MonoJ.normA ?_
        repeat' (first
          | (refine is_ucall ?_; first
            | refine st_callP (h := checkTruth_spec _ _ _ m s1 s2 s3 s4 (hm.ext extA)) (k := ?_)
            | fail)
          | (refine is_umcall ?_; first
            | refine mj_callP (h := checkTruth_spec _ _ _ m s1 s2 s3 s4 (hm.ext extA)) (k := ?_)
            | fail)
          | ((fail_if_success (first | refine is_ucall ?_ | refine is_umcall ?_)); first | refine W1 ?_ | refine Wc ?_ | refine W2c ?_ ?_ | refine Wg ?_ | refine W2 ?_ ?_ | exact Wdead | refine Wlive (fun hb => ?_) | intro _ _ _ _ _ _ _ _ | refine We ?_ | refine Wx ?_ | refine Wt ?_ | refine Wm ?_ | refine W2m ?_ ?_ | refine Wl ?_)
          | fail)
        rw [hB]; exact ⟨rfl, rfl, rfl⟩
      | true =>
        rw [hd, Bool.true_and] at hB
        refine MonoJ.normA ?_
        repeat' (first
          | (refine is_ucall ?_; first
            | refine st_callP (h := checkTruth_spec _ _ _ m s1 s2 s3 s4 (hm.ext extA)) (k := ?_)
            | fail)
          | (refine is_umcall ?_; first
            | refine mj_callP (h := checkTruth_spec _ _ _ m s1 s2 s3 s4 (hm.ext extA)) (k := ?_)
            | fail)
          | ((fail_if_success (first | refine is_ucall ?_ | refine is_umcall ?_)); first | refine W1 ?_ | refine Wc ?_ | refine W2c ?_ ?_ | refine Wg ?_ | refine W2 ?_ ?_ | exact Wdead | refine Wlive (fun hb => ?_) | intro _ _ _ _ _ _ _ _ | refine We ?_ | refine Wx ?_ | refine Wt ?_ | refine Wm ?_ | refine W2m ?_ ?_ | refine Wl ?_)
          | fail)
        refine mj_callP (h := withCoal_spec _ _ _ m s1 s2 s3 s4 va vn vc hok ?_) (k := ?_)
        · exact low_on (hm.ext extA) (RdS.low (hr.ext extA))
        refine MonoJ.normA ?_
        repeat' (first
          | (refine is_ucall ?_; first
            | refine st_callP (h := checkTruth_spec _ _ _ m s1 s2 s3 s4 (hm.ext extA)) (k := ?_)
            | fail)
          | (refine is_umcall ?_; first
            | refine mj_callP (h := checkTruth_spec _ _ _ m s1 s2 s3 s4 (hm.ext extA)) (k := ?_)
            | fail)
          | ((fail_if_success (first | refine is_ucall ?_ | refine is_umcall ?_)); first | refine W1 ?_ | refine Wc ?_ | refine W2c ?_ ?_ | refine Wg ?_ | refine W2 ?_ ?_ | exact Wdead | refine Wlive (fun hb => ?_) | intro _ _ _ _ _ _ _ _ | refine We ?_ | refine Wx ?_ | refine Wt ?_ | refine Wm ?_ | refine W2m ?_ ?_ | refine Wl ?_)
          | fail)
        refine mj_callL (h := truths_spec _ _ _ m s1 s2 s3 s4 hok) (k := ?_)
        refine MonoJ.normA ?_
        repeat' (first
          | (refine is_ucall ?_; first
            | refine st_callP (h := checkTruth_spec _ _ _ m s1 s2 s3 s4 (hm.ext extA)) (k := ?_)
            | fail)
          | (refine is_umcall ?_; first
            | refine mj_callP (h := checkTruth_spec _ _ _ m s1 s2 s3 s4 (hm.ext extA)) (k := ?_)
            | fail)
          | ((fail_if_success (first | refine is_ucall ?_ | refine is_umcall ?_)); first | refine W1 ?_ | refine Wc ?_ | refine W2c ?_ ?_ | refine Wg ?_ | refine W2 ?_ ?_ | exact Wdead | refine Wlive (fun hb => ?_) | intro _ _ _ _ _ _ _ _ | refine We ?_ | refine Wx ?_ | refine Wt ?_ | refine Wm ?_ | refine W2m ?_ ?_ | refine Wl ?_)
          | fail)
        refine mj_callP (h := areAlways_spec _ _ _ (coalM m l) (.slice va vn vc) s2 s3 s4 _ (shH (H.length + 1) s1 s2 s3 s4) (truthsL m) ?_ hW2 (iter_truths (b := H.length + 1) (own := true) (hm.ext extA) hV getA) hT) (k := ?_)
        · exact hCY.ext extA
        refine MonoJ.normA ?_
        repeat' (first
          | (refine is_ucall ?_; first
            | refine st_callP (h := checkTruth_spec _ _ _ m s1 s2 s3 s4 (hm.ext extA)) (k := ?_)
            | fail)
          | (refine is_umcall ?_; first
            | refine mj_callP (h := checkTruth_spec _ _ _ m s1 s2 s3 s4 (hm.ext extA)) (k := ?_)
            | fail)
          | ((fail_if_success (first | refine is_ucall ?_ | refine is_umcall ?_)); first | refine W1 ?_ | refine Wc ?_ | refine W2c ?_ ?_ | refine Wg ?_ | refine W2 ?_ ?_ | exact Wdead | refine Wlive (fun hb => ?_) | intro _ _ _ _ _ _ _ _ | refine We ?_ | refine Wx ?_ | refine Wt ?_ | refine Wm ?_ | refine W2m ?_ ?_ | refine Wl ?_)
          | fail)
        rw [hB]; exact ⟨rfl, rfl, rfl⟩
  · have hB : coalB m l many = false := by unfold coalB; rw [decide_eq_false hz]; rfl
    refine CallJ.enter Try.func57 rfl (by simp only [Try.ntmps57, List.length_cons, List.length_nil, Nat.zero_add, Nat.reduceAdd, Nat.reduceSub, List.replicate_succ, List.replicate_zero, List.cons_append, List.nil_append]; rfl) ?_
    repeat' (first
      | (refine is_ucall ?_; first
        | refine st_callP (h := checkTruth_spec _ _ _ m s1 s2 s3 s4 (hm.ext extA)) (k := ?_)
        | fail)
      | (refine is_umcall ?_; first
        | refine mj_callP (h := checkTruth_spec _ _ _ m s1 s2 s3 s4 (hm.ext extA)) (k := ?_)
        | fail)
      | ((fail_if_success (first | refine is_ucall ?_ | refine is_umcall ?_)); first | refine W1 ?_ | refine Wc ?_ | refine W2c ?_ ?_ | refine Wg ?_ | refine W2 ?_ ?_ | exact Wdead | refine Wlive (fun hb => ?_) | intro _ _ _ _ _ _ _ _ | refine We ?_ | refine Wx ?_ | refine Wt ?_ | refine Wm ?_ | refine W2m ?_ ?_ | refine Wl ?_)
      | fail)
    rw [hB]; exact ⟨rfl, rfl, rfl⟩
end
end Go.Proofs.Ytjbiidlmpaibkaa
namespace Go.Proofs.Ytjbiidlmpaibkaa
open Go Go.Abs Go.Proofs
set_option maxHeartbeats 800000
attribute [local irreducible] CallJ OpsJ WPJ CallV MonoJ SpecJ
abbrev enc1 (x : Int) : List Value := [.int .i64 x]
theorem encI_eq (l : List Int) : encI l = l.map enc1 := rfl
theorem enc1_flat (l : List Int) : (l.map enc1).flatten = encE l := by
  induction l with
  | nil => rfl
  | cons x l ih => simp_all [encE]
section
variable {γ : Type} (E : Env γ) (g : γ) (H : AHeap)
theorem between_spec (lo hi : Int) : CallJ Try.prog E 56 [.int .i64 lo, .int .i64 hi] (fun v H' g' => v = .agg ⟨[.int .i64 lo, .int .i64 hi]⟩ ∧ H' = H ∧ g' = g) H g := by
  refine CallJ.tidy ?_
  refine CallJ.enter Try.func56 rfl (by simp only [Try.ntmps56, List.length_cons, List.length_nil, Nat.zero_add, Nat.reduceAdd, Nat.reduceSub, List.replicate_succ, List.replicate_zero, List.cons_append, List.nil_append]; rfl) ?_
  repeat' (first
    | ((fail_if_success (first | refine is_ucall ?_ | refine is_umcall ?_)); first | refine W1 ?_ | refine Wc ?_ | refine W2c ?_ ?_ | refine Wg ?_ | refine W2 ?_ ?_ | exact Wdead | refine Wlive (fun hb => ?_) | intro _ _ _ _ _ _ _ _ | refine We ?_ | refine Wx ?_ | refine Wt ?_ | refine Wm ?_ | refine W2m ?_ ?_ | refine Wl ?_)
    | fail)
  exact ⟨rfl, rfl, rfl⟩
theorem In_spec (n lo hi : Int) : CallJ Try.prog E 43 [.int .i64 n, .int .i64 lo, .int .i64 hi] (fun v H' g' => v = .bool (inR lo hi n) ∧ H' = H ∧ g' = g) H g := by
  refine CallJ.tidy ?_
  unfold inR
  refine CallJ.enter Try.func43 rfl (by simp only [Try.ntmps43, List.length_cons, List.length_nil, Nat.zero_add, Nat.reduceAdd, Nat.reduceSub, List.replicate_succ, List.replicate_zero, List.cons_append, List.nil_append]; rfl) ?_
  repeat' (first
    | ((fail_if_success (first | refine is_ucall ?_ | refine is_umcall ?_)); first | refine W1 ?_ | refine Wc ?_ | refine W2c ?_ ?_ | refine Wg ?_ | refine W2 ?_ ?_ | exact Wdead | refine Wlive (fun hb => ?_) | intro _ _ _ _ _ _ _ _ | refine We ?_ | refine Wx ?_ | refine Wt ?_ | refine Wm ?_ | refine W2m ?_ ?_ | refine Wl ?_)
    | fail)
  all_goals (refine ⟨?_, rfl, rfl⟩; show Value.bool _ = _; congr 1; all_goals first | rfl | (rw [Bool.eq_iff_iff]; simp only [Bool.and_eq_true, Bool.or_eq_true, decide_eq_true_eq, Bool.not_eq_true', beq_iff_eq, Bool.true_eq_false, Bool.false_eq_true, iff_true, true_iff, iff_false, false_iff, decide_eq_false_iff_not]; omega))
theorem to_spec (r : Int × Int) : CallJ Try.prog E 34 [.agg ⟨encR r⟩] (fun v H' g' => v = .agg ⟨encR r⟩ ∧ H' = H ∧ g' = g) H g := by
  refine CallJ.tidy ?_
  unfold encR
  refine CallJ.enter Try.func34 rfl (by simp only [Try.ntmps34, List.length_cons, List.length_nil, Nat.zero_add, Nat.reduceSub, List.replicate_succ, List.replicate_zero, List.cons_append, List.nil_append]; rfl) ?_
  repeat' (first
    | ((fail_if_success (first | refine is_ucall ?_ | refine is_umcall ?_)); first | refine W1 ?_ | refine Wc ?_ | refine W2c ?_ ?_ | refine Wg ?_ | refine W2 ?_ ?_ | exact Wdead | refine Wlive (fun hb => ?_) | intro _ _ _ _ _ _ _ _ | refine We ?_ | refine Wx ?_ | refine Wt ?_ | refine Wm ?_ | refine W2m ?_ ?_ | refine Wl ?_)
    | fail)
  exact ⟨rfl, rfl, rfl⟩
theorem list_spec (sv : Value) (l : List Int) (hr : RdS H sv 1 (encI l)) (hn : l.length ≤ 1000000) : CallJ Try.prog E 40 [sv] (fun v H' g' => v = .slice (some ⟨H.length, 0, none⟩) l.length l.length ∧ H' = H ++ [.row (encE l) 1 true] ∧ g' = g) H g := by
  refine CallJ.tidy ?_
  refine CallJ.enter Try.func40 rfl (by simp only [Try.ntmps40, List.length_cons, List.length_nil, Nat.zero_add, Nat.reduceSub, List.replicate_succ, List.replicate_zero, List.cons_append, List.nil_append]; rfl) ?_
  repeat' (first
    | ((fail_if_success (first | refine is_ucall ?_ | refine is_umcall ?_)); first | refine W1 ?_ | refine Wc ?_ | refine W2c ?_ ?_ | refine Wg ?_ | refine W2 ?_ ?_ | exact Wdead | refine Wlive (fun hb => ?_) | intro _ _ _ _ _ _ _ _ | refine We ?_ | refine Wx ?_ | refine Wt ?_ | refine Wm ?_ | refine W2m ?_ ?_ | refine Wl ?_)
    | fail)
  cases l with
  | nil =>
    have hv : ∃ a c, sv = .slice a 0 c := by
      obtain ⟨_, ⟨i, o, c, row, es', own, a, _⟩ | ⟨_, a | a⟩⟩ := hr
      · exact ⟨_, _, a⟩
      · exact ⟨_, _, a⟩
      · exact ⟨_, _, a⟩
    obtain ⟨a, c, rfl⟩ := hv
    refine st_appendZero rfl rfl ?_
    refine OpsJ.normA ?_
    repeat' (first
      | ((fail_if_success (first | refine is_ucall ?_ | refine is_umcall ?_)); first | refine W1 ?_ | refine Wc ?_ | refine W2c ?_ ?_ | refine Wg ?_ | refine W2 ?_ ?_ | exact Wdead | refine Wlive (fun hb => ?_) | intro _ _ _ _ _ _ _ _ | refine We ?_ | refine Wx ?_ | refine Wt ?_ | refine Wm ?_ | refine W2m ?_ ?_ | refine Wl ?_)
      | fail)
    exact Tidy.one extA (i := H.length) (cells := []) getA (by omega) rfl (.slice (j := 0) rfl) ⟨rfl, rfl, rfl⟩
  | cons x l =>
    refine st_appendCopyE (l := x :: l) (enc := enc1) hr (by simp) (Ext.app (Ext.refl _) _) rfl (fun _ => rfl) rfl getA rfl hn (by decide) ?_
    refine OpsJ.normA ?_
    repeat' (first
      | ((fail_if_success (first | refine is_ucall ?_ | refine is_umcall ?_)); first | refine W1 ?_ | refine Wc ?_ | refine W2c ?_ ?_ | refine Wg ?_ | refine W2 ?_ ?_ | exact Wdead | refine Wlive (fun hb => ?_) | intro _ _ _ _ _ _ _ _ | refine We ?_ | refine Wx ?_ | refine Wt ?_ | refine Wm ?_ | refine W2m ?_ ?_ | refine Wl ?_)
      | fail)
    rw [show (enc1 x :: List.map enc1 l).flatten = encE (x :: l) from enc1_flat (x :: l)]
    exact Tidy.one extA (i := H.length + 1) (cells := encE (x :: l)) getA (by omega) (encE_flat _) (.slice (j := 0) rfl) ⟨rfl, rfl, rfl⟩
def thinS (m : CopM) : Bool := decide (m.coal.length ≤ 30) && decide (m.want.length ≤ 30) && (decide (m.loss.length ≤ 30) && decide (m.reads.length ≤ 30))
theorem Thin_spec (m : CopM) (s1 s2 s3 s4 : Value) (hm : CopY H m s1 s2 s3 s4) : CallJ Try.prog E 19 [cv m s1 s2 s3 s4] (fun v H' g' => v = .bool (thinS m) ∧ H' = H ∧ g' = g) H g := by
  have hok := hm.cells
  have hr1 := hm.coal
  have hr2 := hm.want
  have hr3 := hm.loss
  have hr4 := hm.reads
  have hn1 := hm.n1
  have hn2 := hm.n2
  have hn3 := hm.n3
  have hn4 := hm.n4
  refine CallJ.tidy ?_
  unfold cv thinS
  refine CallJ.enter Try.func19 rfl (by simp only [Try.ntmps19, List.length_cons, List.length_nil, Nat.zero_add, Nat.reduceSub, List.replicate_succ, List.replicate_zero, List.cons_append, List.nil_append]; rfl) ?_
  repeat' (first
    | ((fail_if_success (first | refine is_ucall ?_ | refine is_umcall ?_)); first | refine W1 ?_ | refine Wc ?_ | refine W2c ?_ ?_ | refine Wg ?_ | refine W2 ?_ ?_ | exact Wdead | refine Wlive (fun hb => ?_) | intro _ _ _ _ _ _ _ _ | refine We ?_ | refine Wx ?_ | refine Wt ?_ | refine Wm ?_ | refine W2m ?_ ?_ | refine Wl ?_)
    | fail)
  all_goals (refine ⟨?_, rfl, rfl⟩; show Value.bool _ = _; congr 1; all_goals first | rfl | (rw [Bool.eq_iff_iff]; simp only [Bool.and_eq_true, decide_eq_true_eq, Bool.false_eq_true, true_iff, false_iff]; omega))
theorem same_spec (sv tv : Value) (a b : List Int) (ha : RdS H sv 1 (encI a)) (hb : RdS H tv 1 (encI b)) (hn : a.length ≤ 1000000) (hn2 : b.length ≤ 1000000) :
    CallJ Try.prog E 50 [sv, tv] (fun v H' g' => v = .bool (decide (a = b)) ∧ H' = H ∧ g' = g) H g := by
  refine CallJ.tidy ?_
  refine CallJ.enter Try.func50 rfl (by simp only [Try.ntmps50, List.length_cons, List.length_nil, Nat.zero_add, Nat.reduceAdd, Nat.reduceSub, List.replicate_succ, List.replicate_zero, List.cons_append, List.nil_append]; rfl) ?_
  repeat' (first
    | ((fail_if_success (first | refine is_ucall ?_ | refine is_umcall ?_)); first | refine W1 ?_ | refine Wc ?_ | refine W2c ?_ ?_ | refine Wg ?_ | refine W2 ?_ ?_ | exact Wdead | refine Wlive (fun hb => ?_) | intro _ _ _ _ _ _ _ _ | refine We ?_ | refine Wx ?_ | refine Wt ?_ | refine Wm ?_ | refine W2m ?_ ?_ | refine Wl ?_)
    | fail)
  · refine ⟨?_, rfl, rfl⟩
    rw [decide_eq_false]
    intro e
    subst e
    simp at *
  · refine WPJ.loopT a.length [11, 12, 13, 14, 17, 18, 19, 20, 21, 22, 23, 24, 25, 15, 16] (fun j (_ : Unit) => [(5, .int .i64 j)])
      (fun j _ H1 g1 => g1 = g ∧ H1 = H ∧ a.take j = b.take j) 0 () (Nat.zero_le _) (by intro p hp; simp at hp; rcases hp with rfl; rfl) ⟨rfl, rfl, by simp⟩ ?_
    rintro j _ H1 g1 hj ⟨rfl, rfl, hx⟩ hl0
    have hlen : b.length = a.length := by simp at *; omega
    simp only [updT, maskT, List.set_cons_zero, List.set_cons_succ]
    rcases Nat.lt_or_ge j a.length with hlt | hge
    · have hltb : j < b.length := by omega
      have hea : (encI a)[(j : Int).toNat]? = some [.int .i64 a[j]] := by simp [hlt]
      have heb : (encI b)[(j : Int).toNat]? = some [.int .i64 b[j]] := by simp [hltb]
      have hta := List.take_succ_eq_append_getElem hlt
      have htb := List.take_succ_eq_append_getElem hltb
      generalize hpa : a[j] = p at *
      generalize hpb : b[j] = q at *
      repeat' (first
        | ((fail_if_success (first | refine is_ucall ?_ | refine is_umcall ?_)); first | refine W1 ?_ | refine Wc ?_ | refine W2c ?_ ?_ | refine Wg ?_ | refine W2 ?_ ?_ | exact Wdead | refine Wlive (fun hb => ?_) | intro _ _ _ _ _ _ _ _ | refine We ?_ | refine Wx ?_ | refine Wt ?_ | refine Wm ?_ | refine W2m ?_ ?_ | refine Wl ?_)
        | fail)
      refine WPJ.draw 8 mixed (by kernel_rfl) (by kernel_rfl) (by kernel_rfl) (by decide) ?_
      refine MonoJ.normA ?_
      repeat' (first
        | ((fail_if_success (first | refine is_ucall ?_ | refine is_umcall ?_)); first | refine W1 ?_ | refine Wc ?_ | refine W2c ?_ ?_ | refine Wg ?_ | refine W2 ?_ ?_ | exact Wdead | refine Wlive (fun hb => ?_) | intro _ _ _ _ _ _ _ _ | refine We ?_ | refine Wx ?_ | refine Wt ?_ | refine Wm ?_ | refine W2m ?_ ?_ | refine Wl ?_)
        | fail)
      · refine ⟨?_, rfl, rfl⟩
        rw [decide_eq_false]
        intro e
        subst e
        have : p = q := by rw [← hpa, ← hpb]
        contradiction
      · refine ⟨(), hlt, (by repeat' (first | exact Weak.nil | refine Weak.wild ?_ | refine Weak.same ?_ | refine Weak.intEq (by first | omega | (simp; done) | (push_cast; omega)) ?_)), rfl, rfl, ?_⟩
        rw [hta, htb, hx]
        congr 2
    · skip
      repeat' (first
        | ((fail_if_success (first | refine is_ucall ?_ | refine is_umcall ?_)); first | refine W1 ?_ | refine Wc ?_ | refine W2c ?_ ?_ | refine Wg ?_ | refine W2 ?_ ?_ | exact Wdead | refine Wlive (fun hb => ?_) | intro _ _ _ _ _ _ _ _ | refine We ?_ | refine Wx ?_ | refine Wt ?_ | refine Wm ?_ | refine W2m ?_ ?_ | refine Wl ?_)
        | fail)
      refine ⟨?_, rfl, rfl⟩
      rw [List.take_of_length_le (by omega), List.take_of_length_le (by omega)] at hx
      rw [decide_eq_true hx]
end
end Go.Proofs.Ytjbiidlmpaibkaa
namespace Go.Proofs.Ytjbiidlmpaibkaa
open Go Go.Abs Go.Proofs
set_option maxHeartbeats 800000
attribute [local irreducible] CallJ OpsJ WPJ CallV MonoJ SpecJ
def threeR : List ReadM := [⟨0, 6, 6⟩, ⟨2, 3, 3⟩, ⟨0, 7, 7⟩]
def threeM (n : Nat) (w : Int) : CopM := ⟨2, 7, 60, 4, 3, [2, 1, 0], [3, 2, w], 10, 12, [(2, 3), (4, 4), (0, 2)], threeR.take n⟩
def threeL (w : Int) : AHeap := [.row (encE [2, 1, 0]) 1 true, .row (encE [3, 2, w]) 1 true, .row ([(2, 3), (4, 4), (0, 2)].map encR).flatten 2 true, .row (threeR.map encD).flatten 3 true]
def threeV (k n : Nat) (w : Int) : Value := cv (threeM n w) (.slice (some ⟨k, 0, none⟩) 3 3) (.slice (some ⟨k + 1, 0, none⟩) 3 3) (.slice (some ⟨k + 2, 0, none⟩) 3 3) (.slice (some ⟨k + 3, 0, none⟩) n n)
theorem threeL_flat (w : Int) : FlatRows (threeL w) := by
  intro o ho
  simp only [threeL, List.mem_cons, List.not_mem_nil, or_false] at ho
  rcases ho with rfl | rfl | rfl | rfl <;> exact ⟨_, _, rfl, rfl⟩
theorem tidy4 {γ : Type} {H H1 : AHeap} {K : Value → AHeap → γ → Prop} {v v0 : Value} {g : γ} {i1 i2 i3 i4 w1 w2 w3 w4 : Nat} {c1 c2 c3 c4 : List Value} (he : Ext H H1) (hl : H.length ≤ i1 ∧ H.length ≤ i2 ∧ H.length ≤ i3 ∧ H.length ≤ i4) (hne : i1 ≠ i2 ∧ i1 ≠ i3 ∧ i1 ≠ i4 ∧ i2 ≠ i3 ∧ i2 ≠ i4 ∧ i3 ≠ i4)
    (h1 : H1[i1]? = some (.row c1 w1 true)) (h2 : H1[i2]? = some (.row c2 w2 true)) (h3 : H1[i3]? = some (.row c3 w3 true)) (h4 : H1[i4]? = some (.row c4 w4 true)) (f1 : c1.all flat1 = true) (f2 : c2.all flat1 = true) (f3 : c3.all flat1 = true) (f4 : c4.all flat1 = true)
    (hv : Mv H.length [i1, i2, i3, i4] v v0) (hk : K v0 (H ++ [.row c1 w1 true, .row c2 w2 true, .row c3 w3 true, .row c4 w4 true]) g) : Tidy H K v H1 g := by
  obtain ⟨L, rfl⟩ := he
  refine ⟨[i1, i2, i3, i4], H, L, v0, _, rfl, rfl, fun _ _ h => .inl h, ?_, ?_, ?_, ?_, hv, hk⟩
  · simp; omega
  · intro k hk; simp at hk; rcases hk with rfl | rfl | rfl | rfl <;> omega
  · simp [h1, h2, h3, h4]
  · simp only [List.all_cons, List.all_nil, flatRow, f1, f2, f3, f4, Bool.and_true]
theorem three_mv {k n i1 i2 i3 i4 : Nat} {w : Int} : Mv k [i1, i2, i3, i4] (cv (threeM n w) (.slice (some ⟨i1, 0, none⟩) 3 3) (.slice (some ⟨i2, 0, none⟩) 3 3) (.slice (some ⟨i3, 0, none⟩) 3 3) (.slice (some ⟨i4, 0, none⟩) n n)) (threeV k n w) := by
  refine .aggs rfl fun j q1 q2 => ?_
  match j, q1 with
  | 0, _ => exact .flat rfl
  | 1, _ => exact .flat rfl
  | 2, _ => exact .flat rfl
  | 3, _ => exact .flat rfl
  | 4, _ => exact .flat rfl
  | 5, _ => exact .slice (j := 0) rfl
  | 6, _ => exact .slice (j := 1) rfl
  | 7, _ => exact .flat rfl
  | 8, _ => exact .flat rfl
  | 9, _ => exact .slice (j := 2) rfl
  | 10, _ => exact .slice (j := 3) rfl
section
variable {γ : Type} (E : Env γ) (g : γ) (H : AHeap)
theorem threeO_spec (n : Nat) (hn : n ≤ 3) : CallJ Try.prog E 53 [.int .i64 n] (fun v H' g' => v = threeV H.length n 2 ∧ H' = H ++ threeL 2 ∧ g' = g) H g := by
  refine CallJ.tidy ?_
  refine CallJ.enter Try.func53 rfl (by simp only [Try.ntmps53, List.length_cons, List.length_nil, Nat.zero_add, Nat.reduceSub, List.replicate_succ, List.replicate_zero, List.cons_append, List.nil_append]; rfl) ?_
  repeat' (first
    | (refine is_ucall ?_; first
      | refine st_callP (h := between_spec _ _ _ _ _) (k := ?_)
      | fail)
    | (refine is_umcall ?_; first
      | refine mj_callP (h := between_spec _ _ _ _ _) (k := ?_)
      | fail)
    | ((fail_if_success (first | refine is_ucall ?_ | refine is_umcall ?_)); first | refine W1 ?_ | refine Wc ?_ | refine W2c ?_ ?_ | refine Wg ?_ | refine W2 ?_ ?_ | exact Wdead | refine Wlive (fun hb => ?_) | intro _ _ _ _ _ _ _ _ | refine We ?_ | refine Wx ?_ | refine Wt ?_ | refine Wm ?_ | refine W2m ?_ ?_ | refine Wl ?_)
    | fail)
  refine WPJ.draw 11 mixed (by kernel_rfl) (by kernel_rfl) (by kernel_rfl) (by decide) ?_
  refine MonoJ.normA ?_
  iterate 10 (first
    | (refine is_ucall ?_; first
      | refine st_callP (h := between_spec _ _ _ _ _) (k := ?_)
      | fail)
    | (refine is_umcall ?_; first
      | refine mj_callP (h := between_spec _ _ _ _ _) (k := ?_)
      | fail)
    | ((fail_if_success (first | refine is_ucall ?_ | refine is_umcall ?_)); first | refine W1 ?_ | refine Wc ?_ | refine W2c ?_ ?_ | refine Wg ?_ | refine W2 ?_ ?_ | exact Wdead | refine Wlive (fun hb => ?_) | intro _ _ _ _ _ _ _ _ | refine We ?_ | refine Wx ?_ | refine Wt ?_ | refine Wm ?_ | refine W2m ?_ ?_ | refine Wl ?_)
    | fail)
  refine mj_buildS (cs := [.int .i64 2, .int .i64 7, .int .i64 60, .int .i64 4, .int .i64 3, .slice (some ⟨H.length + 2, 0, none⟩) 3 3, .slice (some ⟨H.length + 3, 0, none⟩) 3 3, .int .i64 10, .int .i64 12, .slice (some ⟨H.length + 4, 0, none⟩) 3 3, .slice (some ⟨H.length + 1, 0, none⟩) n n]) ?_ ?_
  · simp [fillA, partsT, cellsL, cellOk, splice, evalT, getT, putT, constT]
  refine MonoJ.normA ?_
  repeat' (first
    | (refine is_ucall ?_; first
      | refine st_callP (h := between_spec _ _ _ _ _) (k := ?_)
      | fail)
    | (refine is_umcall ?_; first
      | refine mj_callP (h := between_spec _ _ _ _ _) (k := ?_)
      | fail)
    | ((fail_if_success (first | refine is_ucall ?_ | refine is_umcall ?_)); first | refine W1 ?_ | refine Wc ?_ | refine W2c ?_ ?_ | refine Wg ?_ | refine W2 ?_ ?_ | exact Wdead | refine Wlive (fun hb => ?_) | intro _ _ _ _ _ _ _ _ | refine We ?_ | refine Wx ?_ | refine Wt ?_ | refine Wm ?_ | refine W2m ?_ ?_ | refine Wl ?_)
    | fail)
  refine tidy4 (i1 := H.length + 2) (i2 := H.length + 3) (i3 := H.length + 4) (i4 := H.length + 1) (c1 := encE [2, 1, 0]) (c2 := encE [3, 2, 2]) (c3 := ([(2, 3), (4, 4), (0, 2)].map encR).flatten) (c4 := (threeR.map encD).flatten) (w1 := 1) (w2 := 1) (w3 := 2) (w4 := 3)
    extA ⟨by omega, by omega, by omega, by omega⟩ ⟨by omega, by omega, by omega, by omega, by omega, by omega⟩ getA getA getA getA rfl rfl rfl rfl three_mv ⟨rfl, rfl, rfl⟩
theorem plain_row {H : AHeap} {i k c : Nat} {row : List Value} {es : Nat} {own : Bool} (h : H[i]? = some (.row row es own)) (hf : row.all flat1 = true) : PlainA H (.slice (some ⟨i, 0, none⟩) k c) := fun j hj => by
  simp [idOf] at hj
  subst hj
  exact ⟨row, es, own, h, fun x hx => .flat (List.all_eq_true.1 hf x hx)⟩
theorem three_made {H : AHeap} {n : Nat} {w : Int} (hn : n ≤ 3) : CopIs (H ++ (threeL w).map frz) (threeM n w) (.slice (some ⟨H.length, 0, none⟩) 3 3) (.slice (some ⟨H.length + 1, 0, none⟩) 3 3) (.slice (some ⟨H.length + 2, 0, none⟩) 3 3) (.slice (some ⟨H.length + 3, 0, none⟩) n n) := by
  have p1 : (H ++ (threeL w).map frz)[H.length]? = some (.row (encE [2, 1, 0]) 1 false) := by simp [threeL, frz]
  have p2 : (H ++ (threeL w).map frz)[H.length + 1]? = some (.row (encE [3, 2, w]) 1 false) := by simp [threeL, frz]
  have p3 : (H ++ (threeL w).map frz)[H.length + 2]? = some (.row ([(2, 3), (4, 4), (0, 2)].map encR).flatten 2 false) := by simp [threeL, frz]
  have p4 : (H ++ (threeL w).map frz)[H.length + 3]? = some (.row (threeR.map encD).flatten 3 false) := by simp [threeL, frz]
  refine ⟨rd_encE (s := [2, 1, 0]) p1 rfl, rd_encE (s := [3, 2, w]) p2 rfl, ?_, ?_, rfl, (by show 3 ≤ 1000000; decide), (by show 3 ≤ 1000000; decide), (by show 3 ≤ 1000000; decide), ?_, plain_row p1 rfl, plain_row p2 rfl, plain_row p3 rfl, plain_row p4 rfl⟩
  · refine ⟨fun x hx => by obtain ⟨a, _, rfl⟩ := List.mem_map.1 hx; rfl, .inl ⟨H.length + 2, 0, 3, _, 2, false, rfl, p3, Nat.le_refl _, rfl⟩⟩
  · rcases (show n = 0 ∨ n = 1 ∨ n = 2 ∨ n = 3 by omega) with rfl | rfl | rfl | rfl <;>
      exact ⟨fun x hx => by obtain ⟨a, _, rfl⟩ := List.mem_map.1 hx; rfl, .inl ⟨H.length + 3, 0, _, _, 3, false, rfl, p4, (by simp [threeM, threeR, encD]), rfl⟩⟩
  · simp only [threeM, threeR, List.length_take]; omega
def CopW (m : CopM) (H : AHeap) (v : Value) (H' : AHeap) : Prop := ∃ s1 s2 s3 s4, v = cv m s1 s2 s3 s4 ∧ CopIs H' m s1 s2 s3 s4 ∧ Ext H H'
theorem three_w (n : Nat) (hn : n ≤ 3) : CallJ Try.prog E 53 [.int .i64 n] (fun v H' g' => CopW (threeM n 2) H v H' ∧ g' = g) H g :=
  CallJ.freezeN (threeO_spec E g H n hn) (by rintro v H' g' ⟨rfl, rfl, rfl⟩; exact ⟨_, rfl, threeL_flat _, ⟨_, _, _, _, rfl, three_made hn, ⟨_, rfl⟩⟩, rfl⟩)
theorem wantingO_spec (w : Int) : CallJ Try.prog E 54 [.int .i64 w] (fun v H' g' => v = threeV H.length 0 w ∧ H' = H ++ threeL w ∧ g' = g) H g := by
  refine CallJ.tidy ?_
  refine CallJ.enter Try.func54 rfl (by simp only [Try.ntmps54, List.length_cons, List.length_nil, Nat.zero_add, Nat.reduceSub, List.replicate_succ, List.replicate_zero, List.cons_append, List.nil_append]; rfl) ?_
  repeat' (first
    | (refine is_ucall ?_; first
      | refine st_callP (h := between_spec _ _ _ _ _) (k := ?_)
      | fail)
    | (refine is_umcall ?_; first
      | refine mj_callP (h := between_spec _ _ _ _ _) (k := ?_)
      | fail)
    | ((fail_if_success (first | refine is_ucall ?_ | refine is_umcall ?_)); first | refine W1 ?_ | refine Wc ?_ | refine W2c ?_ ?_ | refine Wg ?_ | refine W2 ?_ ?_ | exact Wdead | refine Wlive (fun hb => ?_) | intro _ _ _ _ _ _ _ _ | refine We ?_ | refine Wx ?_ | refine Wt ?_ | refine Wm ?_ | refine W2m ?_ ?_ | refine Wl ?_)
    | fail)
  refine st_call rfl (threeO_spec E g _ 0 (by omega)) ?_
  rintro _ _ g ⟨rfl, rfl, rfl⟩
  unfold threeV threeL cv threeM
  simp only [Nat.add_assoc, List.length_cons, List.length_nil, List.length_append, Nat.zero_add, Nat.reduceAdd]
  refine OpsJ.normA ?_
  repeat' (first
    | (refine is_ucall ?_; first
      | refine st_callP (h := between_spec _ _ _ _ _) (k := ?_)
      | fail)
    | (refine is_umcall ?_; first
      | refine mj_callP (h := between_spec _ _ _ _ _) (k := ?_)
      | fail)
    | ((fail_if_success (first | refine is_ucall ?_ | refine is_umcall ?_)); first | refine W1 ?_ | refine Wc ?_ | refine W2c ?_ ?_ | refine Wg ?_ | refine W2 ?_ ?_ | exact Wdead | refine Wlive (fun hb => ?_) | intro _ _ _ _ _ _ _ _ | refine We ?_ | refine Wx ?_ | refine Wt ?_ | refine Wm ?_ | refine W2m ?_ ?_ | refine Wl ?_)
    | fail)
  refine tidy4 (i1 := H.length + 1) (i2 := H.length + 2) (i3 := H.length + 3) (i4 := H.length + 4) (c1 := encE [2, 1, 0]) (c2 := encE [3, 2, w]) (c3 := ([(2, 3), (4, 4), (0, 2)].map encR).flatten) (c4 := (threeR.map encD).flatten) (w1 := 1) (w2 := 1) (w3 := 2) (w4 := 3)
    extA ⟨by omega, by omega, by omega, by omega⟩ ⟨by omega, by omega, by omega, by omega, by omega, by omega⟩ getA getA getA getA rfl rfl rfl rfl three_mv ⟨rfl, rfl, rfl⟩
theorem wanting_w (w : Int) : CallJ Try.prog E 54 [.int .i64 w] (fun v H' g' => CopW (threeM 0 w) H v H' ∧ g' = g) H g :=
  CallJ.freezeN (wantingO_spec E g H w) (by rintro v H' g' ⟨rfl, rfl, rfl⟩; exact ⟨_, rfl, threeL_flat _, ⟨_, _, _, _, rfl, three_made (by omega), ⟨_, rfl⟩⟩, rfl⟩)
end
end Go.Proofs.Ytjbiidlmpaibkaa
namespace Go.Proofs.Ytjbiidlmpaibkaa
open Go Go.Abs Go.Proofs
set_option maxHeartbeats 4000000
set_option maxRecDepth 20000
attribute [local irreducible] CallJ OpsJ WPJ CallV MonoJ SpecJ
theorem aw1 : playE (threeM 0 2) 10 [3, 4, 2] = 0 ∧ hotL (threeM 0 2) 10 [3, 4, 2] = [6, 4, 2] ∧ leftL (threeM 0 2) 10 [3, 4, 2] = [12, 10, 0] := ⟨by kernel_rfl, by kernel_rfl, by kernel_rfl⟩
theorem aw2 : checkT (threeM 1 2) = 0 ∧ hotB (threeM 1 2) = [(6, 6), (4, 5), (2, 3)] ∧ leftB (threeM 1 2) = [(12, 15), (10, 14), (0, 6)] := ⟨by kernel_rfl, by kernel_rfl, by kernel_rfl⟩
theorem aw3 : checkT (threeM 0 3) = 0 ∧ keepsL (threeM 0 3) = [1, 1, 3] := ⟨by kernel_rfl, by kernel_rfl⟩
theorem aw4 : moreE (threeM 0 2) [2, 1, 0] = 0 ∧ moreV (threeM 0 2) [2, 1, 0] = 2 := ⟨by kernel_rfl, by kernel_rfl⟩
theorem aw5 : spareE (threeM 2 2) 2 = 0 ∧ spareS (threeM 2 2) 2 20 = 1 := ⟨by kernel_rfl, by kernel_rfl⟩
theorem aw6 : leastE (threeM 0 2) = 0 ∧ leastL (threeM 0 2) = [1, 1, 1] := ⟨by kernel_rfl, by kernel_rfl⟩
theorem aw7 : firstE (threeM 3 2) = 0 ∧ firstV (threeM 3 2) = 2 := ⟨by kernel_rfl, by kernel_rfl⟩
theorem aw8 : checkS (threeM 3 2) = 0 ∧ leaveS (threeM 3 2) = [0] := ⟨by kernel_rfl, by kernel_rfl⟩
section
variable {γ : Type} (E : Env γ) (g : γ) (H : AHeap)
def RowI (H : AHeap) (l : List Int) (v : Value) (H' : AHeap) : Prop := ∃ i c cs own, v = .tuple #[.slice (some ⟨i, 0, none⟩) l.length c, .int .i64 0] ∧ H'[i]? = some (.row cs 1 own) ∧ cs.take l.length = encE l ∧ Ext H H'
theorem ints_w {H : AHeap} {e : Int} {l : List Int} {v : Value} {H' : AHeap} (he : e = 0) (h : IntsA H e l v H') : RowI H l v H' := by
  unfold IntsA at h
  rw [if_pos he] at h
  obtain ⟨rfl, rfl⟩ := h
  exact ⟨_, _, _, _, rfl, List.getElem?_concat_length, List.take_of_length_le (by simp [encE]), ⟨_, rfl⟩⟩
theorem Play_w (s1 s2 s3 s4 tl : Value) (hm : CopIs H (threeM 0 2) s1 s2 s3 s4) (hr : RdS H tl 1 (encI [3, 4, 2])) :
    CallJ Try.prog E 21 [cv (threeM 0 2) s1 s2 s3 s4, .agg ⟨[.int .i64 10, tl]⟩] (fun v H' g' => (∃ i j c d o p, v = .tuple #[.slice (some ⟨i, 0, none⟩) 3 c, .slice (some ⟨j, 0, none⟩) 3 d, .int .i64 0] ∧ H'[i]? = some (.row (encE [6, 4, 2]) 1 o) ∧ H'[j]? = some (.row (encE [12, 10, 0]) 1 p) ∧ Ext H H') ∧ g' = g) H g :=
  (Play_spec E g H (threeM 0 2) s1 s2 s3 s4 tl 10 [3, 4, 2] hm hr (by simp)).mono (by
    rintro v H' g' ⟨h, rfl⟩
    rw [if_pos aw1.1, aw1.2.1, aw1.2.2] at h
    obtain ⟨rfl, rfl⟩ := h
    exact ⟨⟨H.length, H.length + 1, 3, 3, true, true, rfl, by simp, by simp, ⟨_, rfl⟩⟩, rfl⟩)
theorem Bounds_w (s1 s2 s3 s4 : Value) (hm : CopIs H (threeM 1 2) s1 s2 s3 s4) :
    CallJ Try.prog E 31 [cv (threeM 1 2) s1 s2 s3 s4] (fun v H' g' => (∃ i j c d o p, v = .tuple #[.slice (some ⟨i, 0, none⟩) 3 c, .slice (some ⟨j, 0, none⟩) 3 d, .int .i64 0] ∧ H'[i]? = some (.row [.int .i64 6, .int .i64 6, .int .i64 4, .int .i64 5, .int .i64 2, .int .i64 3] 2 o) ∧ H'[j]? = some (.row [.int .i64 12, .int .i64 15, .int .i64 10, .int .i64 14, .int .i64 0, .int .i64 6] 2 p) ∧ Ext H H') ∧ g' = g) H g :=
  (Bounds_spec E g H (threeM 1 2) s1 s2 s3 s4 hm).mono (by
    rintro v H' g' ⟨h, rfl⟩
    rw [if_pos aw2.1, aw2.2.1, aw2.2.2] at h
    obtain ⟨rfl, rfl⟩ := h
    exact ⟨⟨H.length, H.length + 1, 3, 3, true, true, rfl, by simp [encR], by simp [encR], ⟨_, rfl⟩⟩, rfl⟩)
theorem Keeps_w (s1 s2 s3 s4 : Value) (hm : CopIs H (threeM 0 3) s1 s2 s3 s4) : CallJ Try.prog E 35 [cv (threeM 0 3) s1 s2 s3 s4] (fun v H' g' => RowI H [1, 1, 3] v H' ∧ g' = g) H g :=
  (Keeps_spec E g H _ s1 s2 s3 s4 hm).mono (by rintro v H' g' ⟨h, rfl⟩; have := ints_w aw3.1 h; rw [aw3.2] at this; exact ⟨this, rfl⟩)
theorem More_w (s1 s2 s3 s4 mv : Value) (hm : CopIs H (threeM 0 2) s1 s2 s3 s4) (hr : RdS H mv 1 (encI [2, 1, 0])) : CallJ Try.prog E 39 [cv (threeM 0 2) s1 s2 s3 s4, mv] (fun v H' g' => v = .tuple #[.int .i64 2, .int .i64 0] ∧ H' = H ∧ g' = g) H g :=
  (More_spec E g H _ s1 s2 s3 s4 mv [2, 1, 0] hm hr (by simp)).mono (by rintro v H' g' ⟨rfl, rfl, rfl⟩; rw [if_pos aw4.1, aw4.1, aw4.2]; exact ⟨rfl, rfl, rfl⟩)
theorem Spare_w (s1 s2 s3 s4 : Value) (hm : CopIs H (threeM 2 2) s1 s2 s3 s4) : CallJ Try.prog E 41 [cv (threeM 2 2) s1 s2 s3 s4, .int .i64 2] (fun v H' g' => v = .tuple #[.int .i64 1, .int .i64 0] ∧ H' = H ∧ g' = g) H g :=
  (Spare_spec E g H _ s1 s2 s3 s4 2 hm).mono (by rintro v H' g' ⟨rfl, rfl, rfl⟩; rw [if_pos aw5.1, aw5.1]; exact ⟨by rw [show Int.toNat 2 = 2 from rfl, aw5.2], rfl, rfl⟩)
theorem Least_w (s1 s2 s3 s4 : Value) (hm : CopIs H (threeM 0 2) s1 s2 s3 s4) : CallJ Try.prog E 55 [cv (threeM 0 2) s1 s2 s3 s4] (fun v H' g' => RowI H [1, 1, 1] v H' ∧ g' = g) H g :=
  (Least_spec E g H _ s1 s2 s3 s4 hm).mono (by rintro v H' g' ⟨h, rfl⟩; have := ints_w aw6.1 h; rw [aw6.2] at this; exact ⟨this, rfl⟩)
theorem First_w (s1 s2 s3 s4 : Value) (hm : CopIs H (threeM 3 2) s1 s2 s3 s4) : CallJ Try.prog E 47 [cv (threeM 3 2) s1 s2 s3 s4] (fun v H' g' => v = .tuple #[.int .i64 2, .int .i64 0] ∧ H' = H ∧ g' = g) H g :=
  (First_spec E g H _ s1 s2 s3 s4 hm).mono (by rintro v H' g' ⟨rfl, rfl, rfl⟩; rw [aw7.1, aw7.2]; exact ⟨rfl, rfl, rfl⟩)
theorem Leave_w (s1 s2 s3 s4 : Value) (hm : CopIs H (threeM 3 2) s1 s2 s3 s4) : CallJ Try.prog E 48 [cv (threeM 3 2) s1 s2 s3 s4] (fun v H' g' => RowI H [0] v H' ∧ g' = g) H g :=
  (Leave_own E g H _ s1 s2 s3 s4 hm).mono (by
    rintro v H' g' ⟨h, rfl⟩
    unfold LeaveO at h
    rw [if_pos aw8.1, aw8.2] at h
    rcases h with ⟨h, _⟩ | ⟨cs, cap, rfl, rfl, h1, h2⟩
    · cases h
    · exact ⟨⟨_, _, _, _, rfl, List.getElem?_concat_length, h1, ⟨_, rfl⟩⟩, rfl⟩)
theorem awake_spec : CallJ Try.prog E 20 [] (fun v H' g' => v = .bool true ∧ H' = H ∧ g' = g) H g := by
  refine CallJ.tidy ?_
  refine CallJ.enter Try.func20 rfl (by simp only [Try.ntmps20, List.length_nil, Nat.reduceSub, List.replicate_succ, List.replicate_zero, List.nil_append]; rfl) ?_
  repeat' (first
    | (refine is_ucall ?_; first
      | refine st_callP (h := between_spec _ _ _ _ _) (k := ?_)
      | fail)
    | (refine is_umcall ?_; first
      | refine mj_callP (h := between_spec _ _ _ _ _) (k := ?_)
      | fail)
    | ((fail_if_success (first | refine is_ucall ?_ | refine is_umcall ?_)); first | refine W1 ?_ | refine Wc ?_ | refine W2c ?_ ?_ | refine Wg ?_ | refine W2 ?_ ?_ | exact Wdead | refine Wlive (fun hb => ?_) | intro _ _ _ _ _ _ _ _ | refine We ?_ | refine Wx ?_ | refine Wt ?_ | refine Wm ?_ | refine W2m ?_ ?_ | refine Wl ?_)
    | fail)
  refine st_call rfl (three_w E _ _ 0 (by decide)) ?_
  rintro _ H2 g2 ⟨⟨s1, s2, s3, s4, rfl, hm, e1⟩, rfl⟩
  have x2 : Ext H H2 := Ext.trans extA e1
  clear e1
  refine OpsJ.normA ?_
  repeat' (first
    | (refine is_ucall ?_; first
      | refine st_callP (h := between_spec _ _ _ _ _) (k := ?_)
      | fail)
    | (refine is_umcall ?_; first
      | refine mj_callP (h := between_spec _ _ _ _ _) (k := ?_)
      | fail)
    | ((fail_if_success (first | refine is_ucall ?_ | refine is_umcall ?_)); first | refine W1 ?_ | refine Wc ?_ | refine W2c ?_ ?_ | refine Wg ?_ | refine W2 ?_ ?_ | exact Wdead | refine Wlive (fun hb => ?_) | intro _ _ _ _ _ _ _ _ | refine We ?_ | refine Wx ?_ | refine Wt ?_ | refine Wm ?_ | refine W2m ?_ ?_ | refine Wl ?_)
    | fail)
  refine st_call rfl (Play_w E _ _ s1 s2 s3 s4 _ ?_ ?_) ?_
  · exact hm.ext extA
  · exact rd_encE (s := [3, 4, 2]) getA rfl
  rintro _ H3 g3 ⟨⟨i1, i2, c1, c2, o1, o2, rfl, q1, q2, e1⟩, rfl⟩
  have x3 : Ext H2 H3 := Ext.trans extA e1
  replace x3 := x2.trans x3
  clear hm e1 x2
  refine OpsJ.normA ?_
  repeat' (first
    | (refine is_ucall ?_; first
      | refine st_callP (h := between_spec _ _ _ _ _) (k := ?_)
      | fail)
    | (refine is_umcall ?_; first
      | refine mj_callP (h := between_spec _ _ _ _ _) (k := ?_)
      | fail)
    | ((fail_if_success (first | refine is_ucall ?_ | refine is_umcall ?_)); first | refine W1 ?_ | refine Wc ?_ | refine W2c ?_ ?_ | refine Wg ?_ | refine W2 ?_ ?_ | exact Wdead | refine Wlive (fun hb => ?_) | intro _ _ _ _ _ _ _ _ | refine We ?_ | refine Wx ?_ | refine Wt ?_ | refine Wm ?_ | refine W2m ?_ ?_ | refine Wl ?_)
    | fail)
  refine st_call rfl (three_w E _ _ 1 (by decide)) ?_
  rintro _ H4 g4 ⟨⟨s1, s2, s3, s4, rfl, hm, e1⟩, rfl⟩
  have x4 : Ext H3 H4 := Ext.trans extA e1
  replace q1 := x4.get q1
  replace q2 := x4.get q2
  replace x4 := x3.trans x4
  clear e1 x3
  refine OpsJ.normA ?_
  repeat' (first
    | (refine is_ucall ?_; first
      | refine st_callP (h := between_spec _ _ _ _ _) (k := ?_)
      | fail)
    | (refine is_umcall ?_; first
      | refine mj_callP (h := between_spec _ _ _ _ _) (k := ?_)
      | fail)
    | ((fail_if_success (first | refine is_ucall ?_ | refine is_umcall ?_)); first | refine W1 ?_ | refine Wc ?_ | refine W2c ?_ ?_ | refine Wg ?_ | refine W2 ?_ ?_ | exact Wdead | refine Wlive (fun hb => ?_) | intro _ _ _ _ _ _ _ _ | refine We ?_ | refine Wx ?_ | refine Wt ?_ | refine Wm ?_ | refine W2m ?_ ?_ | refine Wl ?_)
    | fail)
  refine st_call rfl (Bounds_w E _ _ s1 s2 s3 s4 ?_) ?_
  · exact hm.ext extA
  rintro _ H5 g5 ⟨⟨i3, i4, c3, c4, o3, o4, rfl, q3, q4, e1⟩, rfl⟩
  have x5 : Ext H4 H5 := Ext.trans extA e1
  replace q1 := x5.get q1
  replace q2 := x5.get q2
  replace x5 := x4.trans x5
  clear hm e1 x4
  refine OpsJ.normA ?_
  repeat' (first
    | (refine is_ucall ?_; first
      | refine st_callP (h := between_spec _ _ _ _ _) (k := ?_)
      | fail)
    | (refine is_umcall ?_; first
      | refine mj_callP (h := between_spec _ _ _ _ _) (k := ?_)
      | fail)
    | ((fail_if_success (first | refine is_ucall ?_ | refine is_umcall ?_)); first | refine W1 ?_ | refine Wc ?_ | refine W2c ?_ ?_ | refine Wg ?_ | refine W2 ?_ ?_ | exact Wdead | refine Wlive (fun hb => ?_) | intro _ _ _ _ _ _ _ _ | refine We ?_ | refine Wx ?_ | refine Wt ?_ | refine Wm ?_ | refine W2m ?_ ?_ | refine Wl ?_)
    | fail)
  refine st_call rfl (wanting_w E _ _ 3) ?_
  rintro _ H6 g6 ⟨⟨s1, s2, s3, s4, rfl, hm, e1⟩, rfl⟩
  have x6 : Ext H5 H6 := Ext.trans extA e1
  replace q1 := x6.get q1
  replace q2 := x6.get q2
  replace q3 := x6.get q3
  replace q4 := x6.get q4
  replace x6 := x5.trans x6
  clear e1 x5
  refine OpsJ.normA ?_
  repeat' (first
    | (refine is_ucall ?_; first
      | refine st_callP (h := between_spec _ _ _ _ _) (k := ?_)
      | fail)
    | (refine is_umcall ?_; first
      | refine mj_callP (h := between_spec _ _ _ _ _) (k := ?_)
      | fail)
    | ((fail_if_success (first | refine is_ucall ?_ | refine is_umcall ?_)); first | refine W1 ?_ | refine Wc ?_ | refine W2c ?_ ?_ | refine Wg ?_ | refine W2 ?_ ?_ | exact Wdead | refine Wlive (fun hb => ?_) | intro _ _ _ _ _ _ _ _ | refine We ?_ | refine Wx ?_ | refine Wt ?_ | refine Wm ?_ | refine W2m ?_ ?_ | refine Wl ?_)
    | fail)
  refine st_call rfl (Keeps_w E _ _ s1 s2 s3 s4 ?_) ?_
  · exact hm.ext extA
  rintro _ H7 g7 ⟨⟨i5, c5, k5, o5, rfl, q5, t5, e1⟩, rfl⟩
  have x7 : Ext H6 H7 := Ext.trans extA e1
  replace q1 := x7.get q1
  replace q2 := x7.get q2
  replace q3 := x7.get q3
  replace q4 := x7.get q4
  replace x7 := x6.trans x7
  clear hm e1 x6
  refine OpsJ.normA ?_
  repeat' (first
    | (refine is_ucall ?_; first
      | refine st_callP (h := between_spec _ _ _ _ _) (k := ?_)
      | fail)
    | (refine is_umcall ?_; first
      | refine mj_callP (h := between_spec _ _ _ _ _) (k := ?_)
      | fail)
    | ((fail_if_success (first | refine is_ucall ?_ | refine is_umcall ?_)); first | refine W1 ?_ | refine Wc ?_ | refine W2c ?_ ?_ | refine Wg ?_ | refine W2 ?_ ?_ | exact Wdead | refine Wlive (fun hb => ?_) | intro _ _ _ _ _ _ _ _ | refine We ?_ | refine Wx ?_ | refine Wt ?_ | refine Wm ?_ | refine W2m ?_ ?_ | refine Wl ?_)
    | fail)
  refine st_call rfl (three_w E _ _ 0 (by decide)) ?_
  rintro _ H8 g8 ⟨⟨s1, s2, s3, s4, rfl, hm, e1⟩, rfl⟩
  have x8 : Ext H7 H8 := Ext.trans extA e1
  replace q1 := x8.get q1
  replace q2 := x8.get q2
  replace q3 := x8.get q3
  replace q4 := x8.get q4
  replace q5 := x8.get q5
  replace x8 := x7.trans x8
  clear e1 x7
  refine OpsJ.normA ?_
  repeat' (first
    | (refine is_ucall ?_; first
      | refine st_callP (h := between_spec _ _ _ _ _) (k := ?_)
      | fail)
    | (refine is_umcall ?_; first
      | refine mj_callP (h := between_spec _ _ _ _ _) (k := ?_)
      | fail)
    | ((fail_if_success (first | refine is_ucall ?_ | refine is_umcall ?_)); first | refine W1 ?_ | refine Wc ?_ | refine W2c ?_ ?_ | refine Wg ?_ | refine W2 ?_ ?_ | exact Wdead | refine Wlive (fun hb => ?_) | intro _ _ _ _ _ _ _ _ | refine We ?_ | refine Wx ?_ | refine Wt ?_ | refine Wm ?_ | refine W2m ?_ ?_ | refine Wl ?_)
    | fail)
  refine st_call rfl (More_w E _ _ s1 s2 s3 s4 _ ?_ ?_) ?_
  · exact hm.ext extA
  · exact rd_encE (s := [2, 1, 0]) getA rfl
  rintro _ H8 g59 ⟨rfl, rfl, rfl⟩
  clear hm
  refine OpsJ.normA ?_
  repeat' (first
    | (refine is_ucall ?_; first
      | refine st_callP (h := between_spec _ _ _ _ _) (k := ?_)
      | fail)
    | (refine is_umcall ?_; first
      | refine mj_callP (h := between_spec _ _ _ _ _) (k := ?_)
      | fail)
    | ((fail_if_success (first | refine is_ucall ?_ | refine is_umcall ?_)); first | refine W1 ?_ | refine Wc ?_ | refine W2c ?_ ?_ | refine Wg ?_ | refine W2 ?_ ?_ | exact Wdead | refine Wlive (fun hb => ?_) | intro _ _ _ _ _ _ _ _ | refine We ?_ | refine Wx ?_ | refine Wt ?_ | refine Wm ?_ | refine W2m ?_ ?_ | refine Wl ?_)
    | fail)
  refine st_call rfl (three_w E _ _ 2 (by decide)) ?_
  rintro _ H10 g10 ⟨⟨s1, s2, s3, s4, rfl, hm, e1⟩, rfl⟩
  have x10 : Ext H8 H10 := Ext.trans extA e1
  replace q1 := x10.get q1
  replace q2 := x10.get q2
  replace q3 := x10.get q3
  replace q4 := x10.get q4
  replace q5 := x10.get q5
  replace x10 := x8.trans x10
  clear e1 x8
  refine OpsJ.normA ?_
  repeat' (first
    | (refine is_ucall ?_; first
      | refine st_callP (h := between_spec _ _ _ _ _) (k := ?_)
      | fail)
    | (refine is_umcall ?_; first
      | refine mj_callP (h := between_spec _ _ _ _ _) (k := ?_)
      | fail)
    | ((fail_if_success (first | refine is_ucall ?_ | refine is_umcall ?_)); first | refine W1 ?_ | refine Wc ?_ | refine W2c ?_ ?_ | refine Wg ?_ | refine W2 ?_ ?_ | exact Wdead | refine Wlive (fun hb => ?_) | intro _ _ _ _ _ _ _ _ | refine We ?_ | refine Wx ?_ | refine Wt ?_ | refine Wm ?_ | refine W2m ?_ ?_ | refine Wl ?_)
    | fail)
  refine st_call rfl (Spare_w E _ _ s1 s2 s3 s4 ?_) ?_
  · exact hm.ext extA
  rintro _ H10 g61 ⟨rfl, rfl, rfl⟩
  clear hm
  refine OpsJ.normA ?_
  repeat' (first
    | (refine is_ucall ?_; first
      | refine st_callP (h := between_spec _ _ _ _ _) (k := ?_)
      | fail)
    | (refine is_umcall ?_; first
      | refine mj_callP (h := between_spec _ _ _ _ _) (k := ?_)
      | fail)
    | ((fail_if_success (first | refine is_ucall ?_ | refine is_umcall ?_)); first | refine W1 ?_ | refine Wc ?_ | refine W2c ?_ ?_ | refine Wg ?_ | refine W2 ?_ ?_ | exact Wdead | refine Wlive (fun hb => ?_) | intro _ _ _ _ _ _ _ _ | refine We ?_ | refine Wx ?_ | refine Wt ?_ | refine Wm ?_ | refine W2m ?_ ?_ | refine Wl ?_)
    | fail)
  refine st_call rfl (three_w E _ _ 0 (by decide)) ?_
  rintro _ H12 g12 ⟨⟨s1, s2, s3, s4, rfl, hm, e1⟩, rfl⟩
  have x12 : Ext H10 H12 := Ext.trans extA e1
  replace q1 := x12.get q1
  replace q2 := x12.get q2
  replace q3 := x12.get q3
  replace q4 := x12.get q4
  replace q5 := x12.get q5
  replace x12 := x10.trans x12
  clear e1 x10
  refine OpsJ.normA ?_
  repeat' (first
    | (refine is_ucall ?_; first
      | refine st_callP (h := between_spec _ _ _ _ _) (k := ?_)
      | fail)
    | (refine is_umcall ?_; first
      | refine mj_callP (h := between_spec _ _ _ _ _) (k := ?_)
      | fail)
    | ((fail_if_success (first | refine is_ucall ?_ | refine is_umcall ?_)); first | refine W1 ?_ | refine Wc ?_ | refine W2c ?_ ?_ | refine Wg ?_ | refine W2 ?_ ?_ | exact Wdead | refine Wlive (fun hb => ?_) | intro _ _ _ _ _ _ _ _ | refine We ?_ | refine Wx ?_ | refine Wt ?_ | refine Wm ?_ | refine W2m ?_ ?_ | refine Wl ?_)
    | fail)
  refine st_call rfl (Least_w E _ _ s1 s2 s3 s4 ?_) ?_
  · exact hm.ext extA
  rintro _ H13 g13 ⟨⟨i6, c6, k6, o6, rfl, q6, t6, e1⟩, rfl⟩
  have x13 : Ext H12 H13 := Ext.trans extA e1
  replace q1 := x13.get q1
  replace q2 := x13.get q2
  replace q3 := x13.get q3
  replace q4 := x13.get q4
  replace q5 := x13.get q5
  replace x13 := x12.trans x13
  clear hm e1 x12
  refine OpsJ.normA ?_
  repeat' (first
    | (refine is_ucall ?_; first
      | refine st_callP (h := between_spec _ _ _ _ _) (k := ?_)
      | fail)
    | (refine is_umcall ?_; first
      | refine mj_callP (h := between_spec _ _ _ _ _) (k := ?_)
      | fail)
    | ((fail_if_success (first | refine is_ucall ?_ | refine is_umcall ?_)); first | refine W1 ?_ | refine Wc ?_ | refine W2c ?_ ?_ | refine Wg ?_ | refine W2 ?_ ?_ | exact Wdead | refine Wlive (fun hb => ?_) | intro _ _ _ _ _ _ _ _ | refine We ?_ | refine Wx ?_ | refine Wt ?_ | refine Wm ?_ | refine W2m ?_ ?_ | refine Wl ?_)
    | fail)
  refine st_call rfl (three_w E _ _ 3 (by decide)) ?_
  rintro _ H14 g14 ⟨⟨s1, s2, s3, s4, rfl, hm, e1⟩, rfl⟩
  have x14 : Ext H13 H14 := Ext.trans extA e1
  replace q1 := x14.get q1
  replace q2 := x14.get q2
  replace q3 := x14.get q3
  replace q4 := x14.get q4
  replace q5 := x14.get q5
  replace q6 := x14.get q6
  replace x14 := x13.trans x14
  clear e1 x13
  refine OpsJ.normA ?_
  repeat' (first
    | (refine is_ucall ?_; first
      | refine st_callP (h := between_spec _ _ _ _ _) (k := ?_)
      | fail)
    | (refine is_umcall ?_; first
      | refine mj_callP (h := between_spec _ _ _ _ _) (k := ?_)
      | fail)
    | ((fail_if_success (first | refine is_ucall ?_ | refine is_umcall ?_)); first | refine W1 ?_ | refine Wc ?_ | refine W2c ?_ ?_ | refine Wg ?_ | refine W2 ?_ ?_ | exact Wdead | refine Wlive (fun hb => ?_) | intro _ _ _ _ _ _ _ _ | refine We ?_ | refine Wx ?_ | refine Wt ?_ | refine Wm ?_ | refine W2m ?_ ?_ | refine Wl ?_)
    | fail)
  refine st_call rfl (First_w E _ _ s1 s2 s3 s4 ?_) ?_
  · exact hm.ext extA
  rintro _ H14 g65 ⟨rfl, rfl, rfl⟩
  clear hm
  refine OpsJ.normA ?_
  repeat' (first
    | (refine is_ucall ?_; first
      | refine st_callP (h := between_spec _ _ _ _ _) (k := ?_)
      | fail)
    | (refine is_umcall ?_; first
      | refine mj_callP (h := between_spec _ _ _ _ _) (k := ?_)
      | fail)
    | ((fail_if_success (first | refine is_ucall ?_ | refine is_umcall ?_)); first | refine W1 ?_ | refine Wc ?_ | refine W2c ?_ ?_ | refine Wg ?_ | refine W2 ?_ ?_ | exact Wdead | refine Wlive (fun hb => ?_) | intro _ _ _ _ _ _ _ _ | refine We ?_ | refine Wx ?_ | refine Wt ?_ | refine Wm ?_ | refine W2m ?_ ?_ | refine Wl ?_)
    | fail)
  refine st_call rfl (three_w E _ _ 3 (by decide)) ?_
  rintro _ H16 g16 ⟨⟨s1, s2, s3, s4, rfl, hm, e1⟩, rfl⟩
  have x16 : Ext H14 H16 := Ext.trans extA e1
  replace q1 := x16.get q1
  replace q2 := x16.get q2
  replace q3 := x16.get q3
  replace q4 := x16.get q4
  replace q5 := x16.get q5
  replace q6 := x16.get q6
  replace x16 := x14.trans x16
  clear e1 x14
  refine OpsJ.normA ?_
  repeat' (first
    | (refine is_ucall ?_; first
      | refine st_callP (h := between_spec _ _ _ _ _) (k := ?_)
      | fail)
    | (refine is_umcall ?_; first
      | refine mj_callP (h := between_spec _ _ _ _ _) (k := ?_)
      | fail)
    | ((fail_if_success (first | refine is_ucall ?_ | refine is_umcall ?_)); first | refine W1 ?_ | refine Wc ?_ | refine W2c ?_ ?_ | refine Wg ?_ | refine W2 ?_ ?_ | exact Wdead | refine Wlive (fun hb => ?_) | intro _ _ _ _ _ _ _ _ | refine We ?_ | refine Wx ?_ | refine Wt ?_ | refine Wm ?_ | refine W2m ?_ ?_ | refine Wl ?_)
    | fail)
  refine st_call rfl (Leave_w E _ _ s1 s2 s3 s4 ?_) ?_
  · exact hm.ext extA
  rintro _ H17 g17 ⟨⟨i7, c7, k7, o7, rfl, q7, t7, e1⟩, rfl⟩
  have x17 : Ext H16 H17 := Ext.trans extA e1
  replace q1 := x17.get q1
  replace q2 := x17.get q2
  replace q3 := x17.get q3
  replace q4 := x17.get q4
  replace q5 := x17.get q5
  replace q6 := x17.get q6
  replace x17 := x16.trans x17
  clear hm e1 x16
  refine OpsJ.normA ?_
  repeat' (first
    | (refine is_ucall ?_; first
      | refine st_callP (h := between_spec _ _ _ _ _) (k := ?_)
      | fail)
    | (refine is_umcall ?_; first
      | refine mj_callP (h := between_spec _ _ _ _ _) (k := ?_)
      | fail)
    | ((fail_if_success (first | refine is_ucall ?_ | refine is_umcall ?_)); first | refine W1 ?_ | refine Wc ?_ | refine W2c ?_ ?_ | refine Wg ?_ | refine W2 ?_ ?_ | exact Wdead | refine Wlive (fun hb => ?_) | intro _ _ _ _ _ _ _ _ | refine We ?_ | refine Wx ?_ | refine Wt ?_ | refine Wm ?_ | refine W2m ?_ ?_ | refine Wl ?_)
    | fail)
  have r1 : RdS H17 (.slice (some ⟨i1, 0, none⟩) 3 c1) 1 (encI [6, 4, 2]) := rd_encE (s := [6, 4, 2]) q1 rfl
  have r2 : RdS H17 (.slice (some ⟨i2, 0, none⟩) 3 c2) 1 (encI [12, 10, 0]) := rd_encE (s := [12, 10, 0]) q2 rfl
  have r5 : RdS H17 (.slice (some ⟨i5, 0, none⟩) 3 c5) 1 (encI [1, 1, 3]) := rd_encE (s := [1, 1, 3]) q5 t5
  have r6 : RdS H17 (.slice (some ⟨i6, 0, none⟩) 3 c6) 1 (encI [1, 1, 1]) := rd_encE (s := [1, 1, 1]) q6 t6
  have r7 : RdS H17 (.slice (some ⟨i7, 0, none⟩) 1 c7) 1 (encI [0]) := rd_encE (s := [0]) q7 t7
  refine WPJ.draw 92 mixed (by kernel_rfl) (by kernel_rfl) (by kernel_rfl) (by decide) ?_
  refine MonoJ.normA ?_
  repeat' (first
    | (refine is_ucall ?_; first
      | refine st_callP (h := between_spec _ _ _ _ _) (k := ?_)
      | fail)
    | (refine is_umcall ?_; first
      | refine mj_callP (h := between_spec _ _ _ _ _) (k := ?_)
      | fail)
    | ((fail_if_success (first | refine is_ucall ?_ | refine is_umcall ?_)); first | refine W1 ?_ | refine Wc ?_ | refine W2c ?_ ?_ | refine Wg ?_ | refine W2 ?_ ?_ | exact Wdead | refine Wlive (fun hb => ?_) | intro _ _ _ _ _ _ _ _ | refine We ?_ | refine Wx ?_ | refine Wt ?_ | refine Wm ?_ | refine W2m ?_ ?_ | refine Wl ?_)
    | fail)
  refine mj_callP (h := same_spec _ _ _ _ _ [6, 4, 2] [6, 4, 2] ?_ ?_ (by decide) (by decide)) (k := ?_)
  · exact r1.ext extA
  · exact rd_encE (s := [6, 4, 2]) getA rfl
  rw [decide_eq_true rfl]
  refine MonoJ.normA ?_
  repeat' (first
    | (refine is_ucall ?_; first
      | refine st_callP (h := between_spec _ _ _ _ _) (k := ?_)
      | fail)
    | (refine is_umcall ?_; first
      | refine mj_callP (h := between_spec _ _ _ _ _) (k := ?_)
      | fail)
    | ((fail_if_success (first | refine is_ucall ?_ | refine is_umcall ?_)); first | refine W1 ?_ | refine Wc ?_ | refine W2c ?_ ?_ | refine Wg ?_ | refine W2 ?_ ?_ | exact Wdead | refine Wlive (fun hb => ?_) | intro _ _ _ _ _ _ _ _ | refine We ?_ | refine Wx ?_ | refine Wt ?_ | refine Wm ?_ | refine W2m ?_ ?_ | refine Wl ?_)
    | fail)
  refine mj_callP (h := same_spec _ _ _ _ _ [12, 10, 0] [12, 10, 0] ?_ ?_ (by decide) (by decide)) (k := ?_)
  · exact r2.ext extA
  · exact rd_encE (s := [12, 10, 0]) getA rfl
  rw [decide_eq_true rfl]
  refine MonoJ.normA ?_
  repeat' (first
    | (refine is_ucall ?_; first
      | refine st_callP (h := between_spec _ _ _ _ _) (k := ?_)
      | fail)
    | (refine is_umcall ?_; first
      | refine mj_callP (h := between_spec _ _ _ _ _) (k := ?_)
      | fail)
    | ((fail_if_success (first | refine is_ucall ?_ | refine is_umcall ?_)); first | refine W1 ?_ | refine Wc ?_ | refine W2c ?_ ?_ | refine Wg ?_ | refine W2 ?_ ?_ | exact Wdead | refine Wlive (fun hb => ?_) | intro _ _ _ _ _ _ _ _ | refine We ?_ | refine Wx ?_ | refine Wt ?_ | refine Wm ?_ | refine W2m ?_ ?_ | refine Wl ?_)
    | fail)
  refine mj_eqI (n := 2) (xs := [4, 5]) (ys := [4, 5]) rfl rfl rfl rfl ?_
  rw [decide_eq_true rfl]
  refine MonoJ.normA ?_
  repeat' (first
    | (refine is_ucall ?_; first
      | refine st_callP (h := between_spec _ _ _ _ _) (k := ?_)
      | fail)
    | (refine is_umcall ?_; first
      | refine mj_callP (h := between_spec _ _ _ _ _) (k := ?_)
      | fail)
    | ((fail_if_success (first | refine is_ucall ?_ | refine is_umcall ?_)); first | refine W1 ?_ | refine Wc ?_ | refine W2c ?_ ?_ | refine Wg ?_ | refine W2 ?_ ?_ | exact Wdead | refine Wlive (fun hb => ?_) | intro _ _ _ _ _ _ _ _ | refine We ?_ | refine Wx ?_ | refine Wt ?_ | refine Wm ?_ | refine W2m ?_ ?_ | refine Wl ?_)
    | fail)
  refine mj_eqI (n := 2) (xs := [0, 6]) (ys := [0, 6]) rfl rfl rfl rfl ?_
  rw [decide_eq_true rfl]
  refine MonoJ.normA ?_
  repeat' (first
    | (refine is_ucall ?_; first
      | refine st_callP (h := between_spec _ _ _ _ _) (k := ?_)
      | fail)
    | (refine is_umcall ?_; first
      | refine mj_callP (h := between_spec _ _ _ _ _) (k := ?_)
      | fail)
    | ((fail_if_success (first | refine is_ucall ?_ | refine is_umcall ?_)); first | refine W1 ?_ | refine Wc ?_ | refine W2c ?_ ?_ | refine Wg ?_ | refine W2 ?_ ?_ | exact Wdead | refine Wlive (fun hb => ?_) | intro _ _ _ _ _ _ _ _ | refine We ?_ | refine Wx ?_ | refine Wt ?_ | refine Wm ?_ | refine W2m ?_ ?_ | refine Wl ?_)
    | fail)
  refine mj_callP (h := same_spec _ _ _ _ _ [1, 1, 3] [1, 1, 3] ?_ ?_ (by decide) (by decide)) (k := ?_)
  · exact r5.ext extA
  · exact rd_encE (s := [1, 1, 3]) getA rfl
  rw [decide_eq_true rfl]
  refine MonoJ.normA ?_
  repeat' (first
    | (refine is_ucall ?_; first
      | refine st_callP (h := between_spec _ _ _ _ _) (k := ?_)
      | fail)
    | (refine is_umcall ?_; first
      | refine mj_callP (h := between_spec _ _ _ _ _) (k := ?_)
      | fail)
    | ((fail_if_success (first | refine is_ucall ?_ | refine is_umcall ?_)); first | refine W1 ?_ | refine Wc ?_ | refine W2c ?_ ?_ | refine Wg ?_ | refine W2 ?_ ?_ | exact Wdead | refine Wlive (fun hb => ?_) | intro _ _ _ _ _ _ _ _ | refine We ?_ | refine Wx ?_ | refine Wt ?_ | refine Wm ?_ | refine W2m ?_ ?_ | refine Wl ?_)
    | fail)
  refine mj_callP (h := same_spec _ _ _ _ _ [1, 1, 1] [1, 1, 1] ?_ ?_ (by decide) (by decide)) (k := ?_)
  · exact r6.ext extA
  · exact rd_encE (s := [1, 1, 1]) getA rfl
  rw [decide_eq_true rfl]
  refine MonoJ.normA ?_
  repeat' (first
    | (refine is_ucall ?_; first
      | refine st_callP (h := between_spec _ _ _ _ _) (k := ?_)
      | fail)
    | (refine is_umcall ?_; first
      | refine mj_callP (h := between_spec _ _ _ _ _) (k := ?_)
      | fail)
    | ((fail_if_success (first | refine is_ucall ?_ | refine is_umcall ?_)); first | refine W1 ?_ | refine Wc ?_ | refine W2c ?_ ?_ | refine Wg ?_ | refine W2 ?_ ?_ | exact Wdead | refine Wlive (fun hb => ?_) | intro _ _ _ _ _ _ _ _ | refine We ?_ | refine Wx ?_ | refine Wt ?_ | refine Wm ?_ | refine W2m ?_ ?_ | refine Wl ?_)
    | fail)
  refine mj_callP (h := same_spec _ _ _ _ _ [0] [0] ?_ ?_ (by decide) (by decide)) (k := ?_)
  · exact r7.ext extA
  · exact rd_encE (s := [0]) getA rfl
  rw [decide_eq_true rfl]
  refine MonoJ.normA ?_
  repeat' (first
    | (refine is_ucall ?_; first
      | refine st_callP (h := between_spec _ _ _ _ _) (k := ?_)
      | fail)
    | (refine is_umcall ?_; first
      | refine mj_callP (h := between_spec _ _ _ _ _) (k := ?_)
      | fail)
    | ((fail_if_success (first | refine is_ucall ?_ | refine is_umcall ?_)); first | refine W1 ?_ | refine Wc ?_ | refine W2c ?_ ?_ | refine Wg ?_ | refine W2 ?_ ?_ | exact Wdead | refine Wlive (fun hb => ?_) | intro _ _ _ _ _ _ _ _ | refine We ?_ | refine Wx ?_ | refine Wt ?_ | refine Wm ?_ | refine W2m ?_ ?_ | refine Wl ?_)
    | fail)
  refine OpsJ.list (by simp only [List.append_eq, List.cons_append, List.nil_append, List.drop_succ_cons, List.drop_zero]; rfl) ?_
  repeat' (first
    | (refine is_ucall ?_; first
      | refine st_callP (h := between_spec _ _ _ _ _) (k := ?_)
      | fail)
    | (refine is_umcall ?_; first
      | refine mj_callP (h := between_spec _ _ _ _ _) (k := ?_)
      | fail)
    | ((fail_if_success (first | refine is_ucall ?_ | refine is_umcall ?_)); first | refine W1 ?_ | refine Wc ?_ | refine W2c ?_ ?_ | refine Wg ?_ | refine W2 ?_ ?_ | exact Wdead | refine Wlive (fun hb => ?_) | intro _ _ _ _ _ _ _ _ | refine We ?_ | refine Wx ?_ | refine Wt ?_ | refine Wm ?_ | refine W2m ?_ ?_ | refine Wl ?_)
    | fail)
  exact ⟨rfl, rfl, rfl⟩
end
end Go.Proofs.Ytjbiidlmpaibkaa
namespace Go.Proofs.Ytjbiidlmpaibkaa
open Go Go.Abs Go.Proofs
set_option maxHeartbeats 800000
attribute [local irreducible] CallJ OpsJ WPJ CallV MonoJ SpecJ
theorem encR_len (r : Int × Int) : (encR r).length = 2 := rfl
theorem encD_len (r : ReadM) : (encD r).length = 3 := rfl
def copL (m : CopM) : AHeap := .row (encE m.coal) 1 true :: .row (encE m.want) 1 true :: (slH encR 2 m.loss ++ slH encD 3 m.reads)
abbrev cS1 (n : Nat) (m : CopM) : Value := .slice (some ⟨n, 0, none⟩) m.coal.length m.coal.length
abbrev cS2 (n : Nat) (m : CopM) : Value := .slice (some ⟨n + 1, 0, none⟩) m.want.length m.want.length
abbrev cS3 (n : Nat) (m : CopM) : Value := slV (n + 2) m.loss
abbrev cS4 (n : Nat) (m : CopM) : Value := slV (n + 2 + (slH encR 2 m.loss).length) m.reads
def copV (n : Nat) (m : CopM) : Value := cv m (cS1 n m) (cS2 n m) (cS3 n m) (cS4 n m)
theorem copL_flat (m : CopM) : FlatRows (copL m) := by
  intro o ho
  simp only [copL, List.mem_cons] at ho
  rcases ho with rfl | rfl | ho
  · exact ⟨_, _, rfl, encE_flat _⟩
  · exact ⟨_, _, rfl, encE_flat _⟩
  · exact ((slH_flat fun _ => rfl).append (slH_flat fun _ => rfl)) o ho
theorem rd_at' {α : Type} {enc : α → List Value} {w : Nat} (hw : ∀ a, (enc a).length = w) {H' : AHeap} {n : Nat} {own : Bool} {l : List α} (hn : l ≠ [] → H'[n]? = some (.row (l.map enc).flatten w own)) : RdS H' (slV n l) w (l.map enc) := by
  refine ⟨fun x hx => by obtain ⟨a, _, rfl⟩ := List.mem_map.1 hx; exact hw a, ?_⟩
  cases l with
  | nil => exact .inr ⟨rfl, .inl rfl⟩
  | cons a l =>
    have hl := flatten_lenG hw (a :: l)
    refine .inl ⟨n, 0, (a :: l).length, _, w, own, by simp [slV], hn (by simp), ?_, ?_⟩
    · rw [hl]; simp
    · rw [List.drop_zero]; exact List.take_of_length_le (by rw [hl]; simp)
theorem plain_at' {α : Type} {enc : α → List Value} {w : Nat} (hf : ∀ a, (enc a).all flat1 = true) {H' : AHeap} {n : Nat} {l : List α} {own : Bool} (hn : l ≠ [] → H'[n]? = some (.row (l.map enc).flatten w own)) : PlainA H' (slV n l) := by
  cases l with
  | nil => intro i hi; cases hi
  | cons a l =>
    intro i hi
    simp [slV, idOf] at hi
    subst hi
    refine ⟨_, _, _, hn (by simp), fun x hx => .flat ?_⟩
    obtain ⟨y, hy, hx⟩ := List.mem_flatten.1 hx
    obtain ⟨b, _, rfl⟩ := List.mem_map.1 hy
    exact List.all_eq_true.1 (hf b) x hx
theorem cop_at {H : AHeap} {n : Nat} {m : CopM} {o1 o2 o3 o4 : Bool} (g1 : H[n]? = some (.row (encE m.coal) 1 o1)) (g2 : H[n + 1]? = some (.row (encE m.want) 1 o2)) (g3 : m.loss ≠ [] → H[n + 2]? = some (.row (m.loss.map encR).flatten 2 o3))
    (g4 : m.reads ≠ [] → H[n + 2 + (slH encR 2 m.loss).length]? = some (.row (m.reads.map encD).flatten 3 o4)) (h1 : m.coal.length ≤ 1000000) (h2 : m.want.length ≤ 1000000) (h3 : m.loss.length ≤ 1000000) (h4 : m.reads.length ≤ 1000000) : CopIs H m (cS1 n m) (cS2 n m) (cS3 n m) (cS4 n m) :=
  ⟨rd_encE g1 (List.take_of_length_le (by simp [encE])), rd_encE g2 (List.take_of_length_le (by simp [encE])), rd_at' encR_len g3, rd_at' encD_len g4, by simp only [List.all_cons, List.all_nil, slV_cell, Bool.and_true]; rfl, h1, h2, h3, h4, plain_row g1 (encE_flat _), plain_row g2 (encE_flat _), plain_at' (fun _ => rfl) g3, plain_at' (fun _ => rfl) g4⟩
theorem copL_get (H : AHeap) (m : CopM) : (H ++ copL m)[H.length]? = some (.row (encE m.coal) 1 true) ∧ (H ++ copL m)[H.length + 1]? = some (.row (encE m.want) 1 true) ∧ (m.loss ≠ [] → (H ++ copL m)[H.length + 2]? = some (.row (m.loss.map encR).flatten 2 true)) ∧ (m.reads ≠ [] → (H ++ copL m)[H.length + 2 + (slH encR 2 m.loss).length]? = some (.row (m.reads.map encD).flatten 3 true)) := by
  refine ⟨by simp [copL], by simp [copL], fun h => ?_, fun h => ?_⟩
  · have hne' : m.loss.isEmpty = false := by cases hl : m.loss <;> simp_all
    simp [copL, slH, hne']
  · have hne' : m.reads.isEmpty = false := by cases hl : m.reads <;> simp_all
    have e : copL m = (.row (encE m.coal) 1 true :: .row (encE m.want) 1 true :: slH encR 2 m.loss) ++ [.row (m.reads.map encD).flatten 3 true] := by
      unfold copL
      rw [show slH encD 3 m.reads = [.row (m.reads.map encD).flatten 3 true] by simp [slH, hne']]
      rfl
    rw [e, List.getElem?_append_right (by omega), List.getElem?_append_right (by simp; omega)]
    have : H.length + 2 + (slH encR 2 m.loss).length - H.length - (AObj.row (encE m.coal) 1 true :: AObj.row (encE m.want) 1 true :: slH encR 2 m.loss).length = 0 := by simp; omega
    rw [this]; rfl
theorem frz_get {H L : AHeap} {i : Nat} {c : List Value} {es : Nat} (hi : H.length ≤ i) (h : (H ++ L)[i]? = some (.row c es true)) : (H ++ L.map frz)[i]? = some (.row c es false) := by
  rw [List.getElem?_append_right hi] at h ⊢
  rw [List.getElem?_map, h]; rfl
theorem cop_madeO (H : AHeap) (m : CopM) (h1 : m.coal.length ≤ 1000000) (h2 : m.want.length ≤ 1000000) (h3 : m.loss.length ≤ 1000000) (h4 : m.reads.length ≤ 1000000) : CopIs (H ++ copL m) m (cS1 H.length m) (cS2 H.length m) (cS3 H.length m) (cS4 H.length m) := by
  obtain ⟨g1, g2, g3, g4⟩ := copL_get H m
  exact cop_at g1 g2 g3 g4 h1 h2 h3 h4
theorem cop_made (H : AHeap) (m : CopM) (h1 : m.coal.length ≤ 1000000) (h2 : m.want.length ≤ 1000000) (h3 : m.loss.length ≤ 1000000) (h4 : m.reads.length ≤ 1000000) : CopIs (H ++ (copL m).map frz) m (cS1 H.length m) (cS2 H.length m) (cS3 H.length m) (cS4 H.length m) := by
  obtain ⟨g1, g2, g3, g4⟩ := copL_get H m
  exact cop_at (frz_get (by omega) g1) (frz_get (by omega) g2) (fun h => frz_get (by omega) (g3 h)) (fun h => frz_get (by omega) (g4 h)) h1 h2 h3 h4
theorem copL_own (m : CopM) : (copL m).all ownRow = true := List.all_eq_true.2 fun o ho => by
  obtain ⟨c, es, rfl, _⟩ := copL_flat m o ho
  rfl
theorem tidyCop {γ : Type} {H H1 : AHeap} {m : CopM} {K : Value → AHeap → γ → Prop} {g : γ} {i1 i2 a1 a2 a3 : Nat} {v3 v4 : Value} (he : Ext H H1) (hl : H.length ≤ i1 ∧ i1 < i2 ∧ i2 < a1 ∧ a1 ≤ a2)
    (h1 : H1[i1]? = some (.row (encE m.coal) 1 true)) (h2 : H1[i2]? = some (.row (encE m.want) 1 true)) (h3 : AppB encR 2 H1 a1 a2 v3 m.loss) (h4 : AppB encD 3 H1 a2 a3 v4 m.reads) (hk : K (copV H.length m) (H ++ copL m) g) :
    Tidy H K (cv m (.slice (some ⟨i1, 0, none⟩) m.coal.length m.coal.length) (.slice (some ⟨i2, 0, none⟩) m.want.length m.want.length) v3 v4) H1 g := by
  obtain ⟨k1, n1, m1, b1, z1, p1⟩ := h3.parts
  obtain ⟨k2, n2, m2, b2, z2, p2⟩ := h4.parts
  obtain ⟨L, rfl⟩ := he
  refine ⟨i1 :: i2 :: (k1 ++ k2), H, L, _, copL m, rfl, rfl, fun _ _ h => .inl h, ?_, ?_, ?_, (copL_flat m).ok, ?_, hk⟩
  · refine List.nodup_cons.2 ⟨fun h => ?_, List.nodup_cons.2 ⟨fun h => ?_, List.nodup_append.2 ⟨n1, n2, fun a ha b hb => ?_⟩⟩⟩
    · rcases List.mem_cons.1 h with h | h
      · omega
      · rcases List.mem_append.1 h with h | h
        · have := b1 _ h; omega
        · have := b2 _ h; omega
    · rcases List.mem_append.1 h with h | h
      · have := b1 _ h; omega
      · have := b2 _ h; omega
    · have := b1 a ha; have := b2 b hb; omega
  · intro k hk'
    rcases List.mem_cons.1 hk' with rfl | hk'
    · omega
    · rcases List.mem_cons.1 hk' with rfl | hk'
      · omega
      · rcases List.mem_append.1 hk' with h | h
        · have := b1 k h; omega
        · have := b2 k h; omega
  · simp only [copL, List.map_append, List.map_cons, m1, m2, h1, h2]
  · unfold copV cv
    refine .aggs rfl fun j q1 q2 => ?_
    have e1' := p1 H.length [i1, i2] k2
    have e2' := p2 H.length (i1 :: i2 :: k1) []
    simp only [List.cons_append, List.nil_append, List.append_nil, List.length_cons, List.length_nil, Nat.zero_add, Nat.reduceAdd] at e1' e2'
    match j, q1 with
    | 0, _ => exact .flat rfl
    | 1, _ => exact .flat rfl
    | 2, _ => exact .flat rfl
    | 3, _ => exact .flat rfl
    | 4, _ => exact .flat rfl
    | 5, _ => exact .slice (j := 0) rfl
    | 6, _ => exact .slice (j := 1) rfl
    | 7, _ => exact .flat rfl
    | 8, _ => exact .flat rfl
    | 9, _ => exact e1'
    | 10, _ =>
      rw [z1] at e2'
      show Mv H.length _ v4 (slV (H.length + 2 + (slH encR 2 m.loss).length) m.reads)
      rw [show H.length + 2 + (slH encR 2 m.loss).length = H.length + ((slH encR 2 m.loss).length + 1 + 1) by omega]
      exact e2'
section
variable {γ : Type} (E : Env γ) (g : γ) (H : AHeap)
theorem CopperO_spec (m : CopM) (s1 s2 s3 s4 : Value) (hm : CopY H m s1 s2 s3 s4) (hb3 : m.loss.length ≤ 1000) (hb4 : m.reads.length ≤ 1000) : CallJ Try.prog E 22 [cv m s1 s2 s3 s4] (fun v H' g' => v = copV H.length m ∧ H' = H ++ copL m ∧ g' = g) H g := by
  have hok := hm.cells
  have hr1 := hm.coal
  have hr2 := hm.want
  have hr3 := hm.loss
  have hr4 := hm.reads
  have hn1 := hm.n1
  have hn2 := hm.n2
  refine CallJ.tidy ?_
  unfold cv
  refine CallJ.enter Try.func22 rfl (by simp only [Try.ntmps22, List.length_cons, List.length_nil, Nat.zero_add, Nat.reduceSub, List.replicate_succ, List.replicate_zero, List.cons_append, List.nil_append]; rfl) ?_
  repeat' (first
    | (refine is_ucall ?_; first
      | refine st_callP (h := to_spec _ _ _ (m.hlo, m.hhi)) (k := ?_)
      | fail)
    | (refine is_umcall ?_; first
      | refine mj_callP (h := to_spec _ _ _ (m.hlo, m.hhi)) (k := ?_)
      | fail)
    | ((fail_if_success (first | refine is_ucall ?_ | refine is_umcall ?_)); first | refine W1 ?_ | refine Wc ?_ | refine W2c ?_ ?_ | refine Wg ?_ | refine W2 ?_ ?_ | exact Wdead | refine Wlive (fun hb => ?_) | intro _ _ _ _ _ _ _ _ | refine We ?_ | refine Wx ?_ | refine Wt ?_ | refine Wm ?_ | refine W2m ?_ ?_ | refine Wl ?_)
    | fail)
  refine WPJ.draw 21 mixed (by kernel_rfl) (by kernel_rfl) (by kernel_rfl) (by decide) ?_
  refine MonoJ.normA ?_
  repeat' (first
    | (refine is_ucall ?_; first
      | refine st_callP (h := to_spec _ _ _ (m.hlo, m.hhi)) (k := ?_)
      | fail)
    | (refine is_umcall ?_; first
      | refine mj_callP (h := to_spec _ _ _ (m.hlo, m.hhi)) (k := ?_)
      | fail)
    | ((fail_if_success (first | refine is_ucall ?_ | refine is_umcall ?_)); first | refine W1 ?_ | refine Wc ?_ | refine W2c ?_ ?_ | refine Wg ?_ | refine W2 ?_ ?_ | exact Wdead | refine Wlive (fun hb => ?_) | intro _ _ _ _ _ _ _ _ | refine We ?_ | refine Wx ?_ | refine Wt ?_ | refine Wm ?_ | refine W2m ?_ ?_ | refine Wl ?_)
    | fail)
  refine mj_callL (h := list_spec _ _ _ s1 m.coal ?_ hn1) (k := ?_)
  · exact hr1.ext extA
  refine MonoJ.normA ?_
  repeat' (first
    | (refine is_ucall ?_; first
      | refine st_callP (h := to_spec _ _ _ (m.hlo, m.hhi)) (k := ?_)
      | fail)
    | (refine is_umcall ?_; first
      | refine mj_callP (h := to_spec _ _ _ (m.hlo, m.hhi)) (k := ?_)
      | fail)
    | ((fail_if_success (first | refine is_ucall ?_ | refine is_umcall ?_)); first | refine W1 ?_ | refine Wc ?_ | refine W2c ?_ ?_ | refine Wg ?_ | refine W2 ?_ ?_ | exact Wdead | refine Wlive (fun hb => ?_) | intro _ _ _ _ _ _ _ _ | refine We ?_ | refine Wx ?_ | refine Wt ?_ | refine Wm ?_ | refine W2m ?_ ?_ | refine Wl ?_)
    | fail)
  refine mj_callL (h := list_spec _ _ _ s2 m.want ?_ hn2) (k := ?_)
  · exact hr2.ext extA
  refine MonoJ.normA ?_
  iterate 3 (first
    | (refine is_ucall ?_; first
      | refine st_callP (h := to_spec _ _ _ (m.hlo, m.hhi)) (k := ?_)
      | fail)
    | (refine is_umcall ?_; first
      | refine mj_callP (h := to_spec _ _ _ (m.hlo, m.hhi)) (k := ?_)
      | fail)
    | ((fail_if_success (first | refine is_ucall ?_ | refine is_umcall ?_)); first | refine W1 ?_ | refine Wc ?_ | refine W2c ?_ ?_ | refine Wg ?_ | refine W2 ?_ ?_ | exact Wdead | refine Wlive (fun hb => ?_) | intro _ _ _ _ _ _ _ _ | refine We ?_ | refine Wx ?_ | refine Wt ?_ | refine Wm ?_ | refine W2m ?_ ?_ | refine Wl ?_)
    | fail)
  refine mj_buildS (cs := [.int .i64 m.last, .int .i64 m.start, .int .i64 m.most, .int .i64 m.per, .int .i64 m.shovels, .slice (some ⟨H.length + 2, 0, none⟩) m.coal.length m.coal.length, .slice (some ⟨H.length + 3, 0, none⟩) m.want.length m.want.length, .int .i64 m.hlo, .int .i64 m.hhi, .slice none 0 0, .slice none 0 0]) ?_ ?_
  · simp [fillA, partsT, cellsL, cellOk, splice, evalT, getT, putT, constT, encR]
  refine MonoJ.normA ?_
  repeat' (first
    | (refine is_ucall ?_; first
      | refine st_callP (h := to_spec _ _ _ (m.hlo, m.hhi)) (k := ?_)
      | fail)
    | (refine is_umcall ?_; first
      | refine mj_callP (h := to_spec _ _ _ (m.hlo, m.hhi)) (k := ?_)
      | fail)
    | ((fail_if_success (first | refine is_ucall ?_ | refine is_umcall ?_)); first | refine W1 ?_ | refine Wc ?_ | refine W2c ?_ ?_ | refine Wg ?_ | refine W2 ?_ ?_ | exact Wdead | refine Wlive (fun hb => ?_) | intro _ _ _ _ _ _ _ _ | refine We ?_ | refine Wx ?_ | refine Wt ?_ | refine Wm ?_ | refine W2m ?_ ?_ | refine Wl ?_)
    | fail)
  refine WPJ.loopT m.loss.length [26, 27, 28, 29, 30, 33, 34, 35, 36, 37, 38, 39, 40, 41, 42, 43, 31, 32] (fun j (v : Value) => [(4, .int .i64 j)])
    (fun j v H1 g1 => g1 = g ∧ Ext H H1 ∧ H1[H.length]? = some (.row (ccells m s1 s2 s3 s4) 1 true) ∧ H1[H.length + 1]? = some (.row [.int .i64 0, .int .i64 0, .int .i64 0, .int .i64 0, .int .i64 0, .slice none 0 0, .slice none 0 0, .int .i64 0, .int .i64 0, .slice none 0 0, .slice none 0 0] 1 true) ∧ H1[H.length + 2]? = some (.row (encE m.coal) 1 true) ∧ H1[H.length + 3]? = some (.row (encE m.want) 1 true) ∧ H1[H.length + 4]? = some (.row [.int .i64 m.last, .int .i64 m.start, .int .i64 m.most, .int .i64 m.per, .int .i64 m.shovels, .slice (some ⟨H.length + 2, 0, none⟩) m.coal.length m.coal.length, .slice (some ⟨H.length + 3, 0, none⟩) m.want.length m.want.length, .int .i64 m.hlo, .int .i64 m.hhi, v, .slice none 0 0] 1 true) ∧ AppG encR 2 H1 (H.length + 5) v (m.loss.take j) ∧ H.length + 5 ≤ H1.length) 0 (.slice none 0 0) (Nat.zero_le _)
    (by intro p hp; simp at hp; rcases hp with rfl; rfl) ⟨rfl, extA, getA, getA, getA, getA, getA, by rw [List.take_zero]; exact AppG.nil, by simp⟩ ?_
  rintro j v1 H1 g1 hj ⟨rfl, he, b0, b1, b2, b3, b4, hA, hlen⟩ hl0
  simp only [updT, maskT, List.set_cons_zero, List.set_cons_succ]
  rcases Nat.lt_or_ge j m.loss.length with hlt | hge
  · have hel : (m.loss.map encR)[(j : Int).toNat]? = some (encR m.loss[j]) := by simp [hlt]
    have htk := List.take_succ_eq_append_getElem hlt
    have htl : (m.loss.take j).length ≤ 1000000 := by simp; omega
    generalize m.loss[j] = r at *
    repeat' (first
      | (refine is_ucall ?_; first
        | refine st_callP (h := to_spec _ _ _ r) (k := ?_)
        | fail)
      | (refine is_umcall ?_; first
        | refine mj_callP (h := to_spec _ _ _ r) (k := ?_)
        | fail)
      | ((fail_if_success (first | refine is_ucall ?_ | refine is_umcall ?_)); first | refine W1 ?_ | refine Wc ?_ | refine W2c ?_ ?_ | refine Wg ?_ | refine W2 ?_ ?_ | exact Wdead | refine Wlive (fun hb => ?_) | intro _ _ _ _ _ _ _ _ | refine We ?_ | refine Wx ?_ | refine Wt ?_ | refine Wm ?_ | refine W2m ?_ ?_ | refine Wl ?_)
      | fail)
    refine WPJ.draw 9 mixed (by kernel_rfl) (by kernel_rfl) (by kernel_rfl) (by decide) ?_
    refine MonoJ.normA ?_
    repeat' (first
      | (refine is_ucall ?_; first
        | refine st_callP (h := to_spec _ _ _ r) (k := ?_)
        | fail)
      | (refine is_umcall ?_; first
        | refine mj_callP (h := to_spec _ _ _ r) (k := ?_)
        | fail)
      | ((fail_if_success (first | refine is_ucall ?_ | refine is_umcall ?_)); first | refine W1 ?_ | refine Wc ?_ | refine W2c ?_ ?_ | refine Wg ?_ | refine W2 ?_ ?_ | exact Wdead | refine Wlive (fun hb => ?_) | intro _ _ _ _ _ _ _ _ | refine We ?_ | refine Wx ?_ | refine Wt ?_ | refine Wm ?_ | refine W2m ?_ ?_ | refine Wl ?_)
      | fail)
    refine st_appG (a := r) (hA.app _) rfl encR_len rfl rfl getA (by simp) rfl rfl (by simp; omega) htl (by decide) ?_
    intro v2 H2 hA2 hE hK hL
    obtain ⟨i2, k2, rfl⟩ := hA2.slice
    have e0 := hK (H.length) _ (by omega) (get_old b0)
    have e1 := hK (H.length + 1) _ (by omega) (get_old b1)
    have e2 := hK (H.length + 2) _ (by omega) (get_old b2)
    have e3 := hK (H.length + 3) _ (by omega) (get_old b3)
    have e4 := hK (H.length + 4) _ (by omega) (get_old b4)
    simp only [List.length_append, List.length_cons, List.length_nil] at hL
    refine OpsJ.normA ?_
    repeat' (first
      | (refine is_ucall ?_; first
        | refine st_callP (h := to_spec _ _ _ r) (k := ?_)
        | fail)
      | (refine is_umcall ?_; first
        | refine mj_callP (h := to_spec _ _ _ r) (k := ?_)
        | fail)
      | ((fail_if_success (first | refine is_ucall ?_ | refine is_umcall ?_)); first | refine W1 ?_ | refine Wc ?_ | refine W2c ?_ ?_ | refine Wg ?_ | refine W2 ?_ ?_ | exact Wdead | refine Wlive (fun hb => ?_) | intro _ _ _ _ _ _ _ _ | refine We ?_ | refine Wx ?_ | refine Wt ?_ | refine Wm ?_ | refine W2m ?_ ?_ | refine Wl ?_)
      | fail)
    exact ⟨_, hlt, (by repeat' (first | exact Weak.nil | refine Weak.wild ?_ | refine Weak.same ?_ | refine Weak.intEq (by first | omega | (simp; done) | (push_cast; omega)) ?_)), rfl, Ext.set (hE H extA (by omega)) (by omega) _, getA, getA, getA, getA, getA, by rw [htk]; refine hA2.set ?_; omega, by rw [List.length_set]; omega⟩
  obtain rfl : j = m.loss.length := by omega
  rw [List.take_length] at hA
  have hB1 := hA.bnd
  obtain ⟨a2, ha2⟩ : ∃ a2, a2 = H1.length := ⟨_, rfl⟩
  rw [← ha2] at hB1
  have hcv1 := hA.cell
  clear hA
  repeat' (first
    | (refine is_ucall ?_; first
      | refine st_callP (h := to_spec _ _ _ r) (k := ?_)
      | fail)
    | (refine is_umcall ?_; first
      | refine mj_callP (h := to_spec _ _ _ r) (k := ?_)
      | fail)
    | ((fail_if_success (first | refine is_ucall ?_ | refine is_umcall ?_)); first | refine W1 ?_ | refine Wc ?_ | refine W2c ?_ ?_ | refine Wg ?_ | refine W2 ?_ ?_ | exact Wdead | refine Wlive (fun hb => ?_) | intro _ _ _ _ _ _ _ _ | refine We ?_ | refine Wx ?_ | refine Wt ?_ | refine Wm ?_ | refine W2m ?_ ?_ | refine Wl ?_)
    | fail)
  refine WPJ.loopT m.reads.length [44, 45, 46, 47, 48, 51, 52, 53, 54, 55, 56, 57, 58, 59, 60, 61, 62, 63, 64, 65, 66, 67, 68, 69, 49, 50] (fun j (v : Value) => [(5, .int .i64 j)])
    (fun j v H2 g2 => g2 = g1 ∧ Ext H H2 ∧ H2[H.length]? = some (.row (ccells m s1 s2 s3 s4) 1 true) ∧ H2[H.length + 1]? = some (.row [.int .i64 0, .int .i64 0, .int .i64 0, .int .i64 0, .int .i64 0, .slice none 0 0, .slice none 0 0, .int .i64 0, .int .i64 0, .slice none 0 0, .slice none 0 0] 1 true) ∧ H2[H.length + 2]? = some (.row (encE m.coal) 1 true) ∧ H2[H.length + 3]? = some (.row (encE m.want) 1 true) ∧ H2[H.length + 4]? = some (.row [.int .i64 m.last, .int .i64 m.start, .int .i64 m.most, .int .i64 m.per, .int .i64 m.shovels, .slice (some ⟨H.length + 2, 0, none⟩) m.coal.length m.coal.length, .slice (some ⟨H.length + 3, 0, none⟩) m.want.length m.want.length, .int .i64 m.hlo, .int .i64 m.hhi, v1, v] 1 true) ∧ AppB encR 2 H2 (H.length + 5) a2 v1 m.loss ∧ AppG encD 3 H2 a2 v (m.reads.take j) ∧ a2 ≤ H2.length) 0 (.slice none 0 0) (Nat.zero_le _)
    (by intro p hp; simp at hp; rcases hp with rfl; rfl) ⟨rfl, extA, getA, getA, getA, getA, getA, hB1.keep (fun i o _ _ h => by first | exact h | exact get_old h), by rw [List.take_zero]; exact AppG.nil, by first | omega | (simp; omega)⟩ ?_
  clear hl0 hB1 b0 b1 b2 b3 b4 he
  rintro j v2 H2 g2 hj2 ⟨rfl, he, b0, b1, b2, b3, b4, hB1, hA, hlen2⟩ hl0
  simp only [updT, maskT, List.set_cons_zero, List.set_cons_succ]
  rcases Nat.lt_or_ge j m.reads.length with hlt | hge2
  · have hel : (m.reads.map encD)[(j : Int).toNat]? = some (encD m.reads[j]) := by simp [hlt]
    have htk := List.take_succ_eq_append_getElem hlt
    have htl : (m.reads.take j).length ≤ 1000000 := by simp; omega
    generalize m.reads[j] = r at *
    repeat' (first
      | (refine is_ucall ?_; first
        | refine st_callP (h := to_spec _ _ _ (r.lo, r.hi)) (k := ?_)
        | fail)
      | (refine is_umcall ?_; first
        | refine mj_callP (h := to_spec _ _ _ (r.lo, r.hi)) (k := ?_)
        | fail)
      | ((fail_if_success (first | refine is_ucall ?_ | refine is_umcall ?_)); first | refine W1 ?_ | refine Wc ?_ | refine W2c ?_ ?_ | refine Wg ?_ | refine W2 ?_ ?_ | exact Wdead | refine Wlive (fun hb => ?_) | intro _ _ _ _ _ _ _ _ | refine We ?_ | refine Wx ?_ | refine Wt ?_ | refine Wm ?_ | refine W2m ?_ ?_ | refine Wl ?_)
      | fail)
    refine WPJ.draw 17 mixed (by kernel_rfl) (by kernel_rfl) (by kernel_rfl) (by decide) ?_
    refine MonoJ.normA ?_
    repeat' (first
      | (refine is_ucall ?_; first
        | refine st_callP (h := to_spec _ _ _ (r.lo, r.hi)) (k := ?_)
        | fail)
      | (refine is_umcall ?_; first
        | refine mj_callP (h := to_spec _ _ _ (r.lo, r.hi)) (k := ?_)
        | fail)
      | ((fail_if_success (first | refine is_ucall ?_ | refine is_umcall ?_)); first | refine W1 ?_ | refine Wc ?_ | refine W2c ?_ ?_ | refine Wg ?_ | refine W2 ?_ ?_ | exact Wdead | refine Wlive (fun hb => ?_) | intro _ _ _ _ _ _ _ _ | refine We ?_ | refine Wx ?_ | refine Wt ?_ | refine Wm ?_ | refine W2m ?_ ?_ | refine Wl ?_)
      | fail)
    rename_i i2 p2 row2 es2 own2 q1 q2 q3
    have hbk : (row2.drop (p2 + 1)).take 2 = [.int .i64 r.lo, .int .i64 r.hi] := by
      have e : (row2.drop (p2 + 1)).take 2 = ((row2.drop p2).take 3).drop 1 := by rw [List.drop_take, List.drop_drop]
      rw [e, q3]; rfl
    rw [hbk]
    refine MonoJ.normA ?_
    repeat' (first
      | (refine is_ucall ?_; first
        | refine st_callP (h := to_spec _ _ _ (r.lo, r.hi)) (k := ?_)
        | fail)
      | (refine is_umcall ?_; first
        | refine mj_callP (h := to_spec _ _ _ (r.lo, r.hi)) (k := ?_)
        | fail)
      | ((fail_if_success (first | refine is_ucall ?_ | refine is_umcall ?_)); first | refine W1 ?_ | refine Wc ?_ | refine W2c ?_ ?_ | refine Wg ?_ | refine W2 ?_ ?_ | exact Wdead | refine Wlive (fun hb => ?_) | intro _ _ _ _ _ _ _ _ | refine We ?_ | refine Wx ?_ | refine Wt ?_ | refine Wm ?_ | refine W2m ?_ ?_ | refine Wl ?_)
      | fail)
    refine st_appG (a := r) (hA.app _) rfl encD_len rfl rfl getA (by simp) rfl rfl (by simp; omega) htl (by decide) ?_
    intro v3 H3 hA3 hE hK hL
    obtain ⟨i3, k3, rfl⟩ := hA3.slice
    have e0 := hK (H.length) _ (by omega) (get_old b0)
    have e1 := hK (H.length + 1) _ (by omega) (get_old b1)
    have e2 := hK (H.length + 2) _ (by omega) (get_old b2)
    have e3 := hK (H.length + 3) _ (by omega) (get_old b3)
    have e4 := hK (H.length + 4) _ (by omega) (get_old b4)
    simp only [List.length_append, List.length_cons, List.length_nil] at hL
    refine OpsJ.normA ?_
    repeat' (first
      | (refine is_ucall ?_; first
        | refine st_callP (h := to_spec _ _ _ (r.lo, r.hi)) (k := ?_)
        | fail)
      | (refine is_umcall ?_; first
        | refine mj_callP (h := to_spec _ _ _ (r.lo, r.hi)) (k := ?_)
        | fail)
      | ((fail_if_success (first | refine is_ucall ?_ | refine is_umcall ?_)); first | refine W1 ?_ | refine Wc ?_ | refine W2c ?_ ?_ | refine Wg ?_ | refine W2 ?_ ?_ | exact Wdead | refine Wlive (fun hb => ?_) | intro _ _ _ _ _ _ _ _ | refine We ?_ | refine Wx ?_ | refine Wt ?_ | refine Wm ?_ | refine W2m ?_ ?_ | refine Wl ?_)
      | fail)
    exact ⟨_, hlt, (by repeat' (first | exact Weak.nil | refine Weak.wild ?_ | refine Weak.same ?_ | refine Weak.intEq (by first | omega | (simp; done) | (push_cast; omega)) ?_)), rfl, Ext.set (hE H extA (by omega)) (by omega) _, getA, getA, getA, getA, getA, hB1.keep (fun i o h1 h2 h => get_setne (by omega) (hK i o h2 (get_old h))), by rw [htk]; refine hA3.set ?_; omega, by rw [List.length_set]; omega⟩
  obtain rfl : j = m.reads.length := by omega
  rw [List.take_length] at hA
  have hB2 := hA.bnd
  have hcv2 := hA.cell
  have hok2 : (ccells m (.slice (some ⟨H.length + 2, 0, none⟩) m.coal.length m.coal.length) (.slice (some ⟨H.length + 3, 0, none⟩) m.want.length m.want.length) v1 v2).all cellOk = true := by simp only [ccells, List.all_cons, List.all_nil, hcv1, hcv2]; rfl
  unfold ccells at hok2
  repeat' (first
    | (refine is_ucall ?_; first
      | refine st_callP (h := to_spec _ _ _ (r.lo, r.hi)) (k := ?_)
      | fail)
    | (refine is_umcall ?_; first
      | refine mj_callP (h := to_spec _ _ _ (r.lo, r.hi)) (k := ?_)
      | fail)
    | ((fail_if_success (first | refine is_ucall ?_ | refine is_umcall ?_)); first | refine W1 ?_ | refine Wc ?_ | refine W2c ?_ ?_ | refine Wg ?_ | refine W2 ?_ ?_ | exact Wdead | refine Wlive (fun hb => ?_) | intro _ _ _ _ _ _ _ _ | refine We ?_ | refine Wx ?_ | refine Wt ?_ | refine Wm ?_ | refine W2m ?_ ?_ | refine Wl ?_)
    | fail)
  refine tidyCop (i1 := H.length + 2) (i2 := H.length + 3) extA ⟨by omega, by omega, by omega, by omega⟩ getA getA (hB1.keep fun i o h1 h2 h => get_setne (by omega) h) (hB2.keep fun i o h1 h2 h => get_setne (by omega) h) ⟨rfl, rfl, rfl⟩
theorem Copper_w (m : CopM) (s1 s2 s3 s4 : Value) (hm : CopY H m s1 s2 s3 s4) (hb3 : m.loss.length ≤ 1000) (hb4 : m.reads.length ≤ 1000) : CallJ Try.prog E 22 [cv m s1 s2 s3 s4] (fun v H' g' => CopW m H v H' ∧ g' = g) H g :=
  CallJ.freezeN (CopperO_spec E g H m s1 s2 s3 s4 hm hb3 hb4) (by rintro v H' g' ⟨rfl, rfl, rfl⟩; exact ⟨_, rfl, copL_flat m, ⟨_, _, _, _, rfl, cop_made H m hm.n1 hm.n2 hm.n3 hm.n4, ⟨_, rfl⟩⟩, rfl⟩)
end
end Go.Proofs.Ytjbiidlmpaibkaa
namespace Go.Proofs.Ytjbiidlmpaibkaa
open Go Go.Abs Go.Proofs
set_option maxHeartbeats 800000
attribute [local irreducible] CallJ OpsJ WPJ CallV MonoJ SpecJ
section
variable {γ : Type} (E : Env γ) (g : γ) (H : AHeap)
theorem Inside_spec (r : Int × Int) (n : Int) : CallJ Try.prog E 119 [.agg ⟨encR r⟩, .int .i64 n] (fun v H' g' => v = .bool (upTo r n) ∧ H' = H ∧ g' = g) H g := by
  refine CallJ.tidy ?_
  unfold encR upTo
  refine CallJ.enter Try.func119 rfl (by simp only [Try.ntmps119, List.length_cons, List.length_nil, Nat.zero_add, Nat.reduceAdd, Nat.reduceSub, List.replicate_succ, List.replicate_zero, List.cons_append, List.nil_append]; rfl) ?_
  repeat' (first
    | ((fail_if_success (first | refine is_ucall ?_ | refine is_umcall ?_)); first | refine W1 ?_ | refine Wc ?_ | refine W2c ?_ ?_ | refine Wg ?_ | refine W2 ?_ ?_ | exact Wdead | refine Wlive (fun hb => ?_) | intro _ _ _ _ _ _ _ _ | refine We ?_ | refine Wx ?_ | refine Wt ?_ | refine Wm ?_ | refine W2m ?_ ?_ | refine Wl ?_)
    | fail)
  all_goals (refine ⟨?_, rfl, rfl⟩; show Value.bool _ = _; congr 1; all_goals first | rfl | (rw [Bool.eq_iff_iff]; simp only [Bool.and_eq_true, Bool.or_eq_true, decide_eq_true_eq, Bool.not_eq_true', beq_iff_eq, Bool.true_eq_false, Bool.false_eq_true, iff_true, true_iff, iff_false, false_iff, decide_eq_false_iff_not]; omega))
theorem Size_spec (r : Int × Int) (h1 : -1000000 ≤ r.1 ∧ r.1 ≤ 1000000) (h2 : -1000000 ≤ r.2 ∧ r.2 ≤ 1000000) : CallJ Try.prog E 113 [.agg ⟨encR r⟩] (fun v H' g' => v = .int .i64 (r.2 - r.1 + 1) ∧ H' = H ∧ g' = g) H g := by
  refine CallJ.tidy ?_
  unfold encR
  refine CallJ.enter Try.func113 rfl (by simp only [Try.ntmps113, List.length_cons, List.length_nil, Nat.zero_add, Nat.reduceSub, List.replicate_succ, List.replicate_zero, List.cons_append, List.nil_append]; rfl) ?_
  repeat' (first
    | ((fail_if_success (first | refine is_ucall ?_ | refine is_umcall ?_)); first | refine W1 ?_ | refine Wc ?_ | refine W2c ?_ ?_ | refine Wg ?_ | refine W2 ?_ ?_ | exact Wdead | refine Wlive (fun hb => ?_) | intro _ _ _ _ _ _ _ _ | refine We ?_ | refine Wx ?_ | refine Wt ?_ | refine Wm ?_ | refine W2m ?_ ?_ | refine Wl ?_)
    | fail)
  exact ⟨rfl, rfl, rfl⟩
theorem Each_spec (m : CopM) (s1 s2 s3 s4 sv : Value) (l : List Int) (n : Int) (hok : (ccells m s1 s2 s3 s4).all cellOk = true) (hl : m.last ≤ 1000000 ∧ -1000000 ≤ m.last) (hr : RdS H sv 1 (encI l)) (hn : l.length ≤ 1000000) :
    CallJ Try.prog E 42 [cv m s1 s2 s3 s4, sv, .int .i64 n] (fun v H' g' => v = .bool (forHours m l n) ∧ H' = H ∧ g' = g) H g := by
  refine CallJ.tidy ?_
  unfold cv
  by_cases hll : (l.length : Int) = m.last + 1
  case neg =>
    have hF : forHours m l n = false := by unfold forHours; rw [decide_eq_false hll]; rfl
    rw [hF]
    refine CallJ.enter Try.func42 rfl (by simp only [Try.ntmps42, List.length_cons, List.length_nil, Nat.zero_add, Nat.reduceAdd, Nat.reduceSub, List.replicate_succ, List.replicate_zero, List.cons_append, List.nil_append]; rfl) ?_
    repeat' (first
      | ((fail_if_success (first | refine is_ucall ?_ | refine is_umcall ?_)); first | refine W1 ?_ | refine Wc ?_ | refine W2c ?_ ?_ | refine Wg ?_ | refine W2 ?_ ?_ | exact Wdead | refine Wlive (fun hb => ?_) | intro _ _ _ _ _ _ _ _ | refine We ?_ | refine Wx ?_ | refine Wt ?_ | refine Wm ?_ | refine W2m ?_ ?_ | refine Wl ?_)
      | fail)
    exact ⟨rfl, rfl, rfl⟩
  case pos =>
    have hF : forHours m l n = l.all (inR 0 n) := by unfold forHours; rw [decide_eq_true hll]; rfl
    rw [hF]
    refine CallJ.enter Try.func42 rfl (by simp only [Try.ntmps42, List.length_cons, List.length_nil, Nat.zero_add, Nat.reduceAdd, Nat.reduceSub, List.replicate_succ, List.replicate_zero, List.cons_append, List.nil_append]; rfl) ?_
    repeat' (first
      | ((fail_if_success (first | refine is_ucall ?_ | refine is_umcall ?_)); first | refine W1 ?_ | refine Wc ?_ | refine W2c ?_ ?_ | refine Wg ?_ | refine W2 ?_ ?_ | exact Wdead | refine Wlive (fun hb => ?_) | intro _ _ _ _ _ _ _ _ | refine We ?_ | refine Wx ?_ | refine Wt ?_ | refine Wm ?_ | refine W2m ?_ ?_ | refine Wl ?_)
      | fail)
    refine WPJ.loopT l.length [14, 15, 16, 17, 20, 21, 22, 23, 24, 25, 26, 18, 19] (fun j (_ : Unit) => [(7, .int .i64 j)])
      (fun j _ H1 g1 => g1 = g ∧ Ext H H1 ∧ (l.take j).all (inR 0 n) = true) 0 () (Nat.zero_le _) (by intro p hp; simp at hp; rcases hp with rfl; rfl) ⟨rfl, extA, by simp⟩ ?_
    rintro j _ H1 g1 hj ⟨rfl, he, hx⟩ hl0
    simp only [updT, maskT, List.set_cons_zero, List.set_cons_succ]
    rcases Nat.lt_or_ge j l.length with hlt | hge
    · have hel : (encI l)[(j : Int).toNat]? = some [.int .i64 l[j]] := by simp [hlt]
      have hst := all_step (inR 0 n) (List.getElem?_eq_getElem hlt)
      have hfl := all_false (p := inR 0 n) (List.getElem?_eq_getElem hlt)
      generalize l[j] = x at *
      repeat' (first
        | ((fail_if_success (first | refine is_ucall ?_ | refine is_umcall ?_)); first | refine W1 ?_ | refine Wc ?_ | refine W2c ?_ ?_ | refine Wg ?_ | refine W2 ?_ ?_ | exact Wdead | refine Wlive (fun hb => ?_) | intro _ _ _ _ _ _ _ _ | refine We ?_ | refine Wx ?_ | refine Wt ?_ | refine Wm ?_ | refine W2m ?_ ?_ | refine Wl ?_)
        | fail)
      refine st_callP (h := In_spec _ _ _ x 0 n) (k := ?_)
      cases hb : inR 0 n x with
      | false =>
        refine OpsJ.normA ?_
        repeat' (first
          | ((fail_if_success (first | refine is_ucall ?_ | refine is_umcall ?_)); first | refine W1 ?_ | refine Wc ?_ | refine W2c ?_ ?_ | refine Wg ?_ | refine W2 ?_ ?_ | exact Wdead | refine Wlive (fun hb => ?_) | intro _ _ _ _ _ _ _ _ | refine We ?_ | refine Wx ?_ | refine Wt ?_ | refine Wm ?_ | refine W2m ?_ ?_ | refine Wl ?_)
          | fail)
        rw [hfl hb]; exact ⟨rfl, rfl, rfl⟩
      | true =>
        refine OpsJ.normA ?_
        repeat' (first
          | ((fail_if_success (first | refine is_ucall ?_ | refine is_umcall ?_)); first | refine W1 ?_ | refine Wc ?_ | refine W2c ?_ ?_ | refine Wg ?_ | refine W2 ?_ ?_ | exact Wdead | refine Wlive (fun hb => ?_) | intro _ _ _ _ _ _ _ _ | refine We ?_ | refine Wx ?_ | refine Wt ?_ | refine Wm ?_ | refine W2m ?_ ?_ | refine Wl ?_)
          | fail)
        exact ⟨(), hlt, (by repeat' (first | exact Weak.nil | refine Weak.wild ?_ | refine Weak.same ?_ | refine Weak.intEq (by first | omega | (simp; done) | (push_cast; omega)) ?_)), rfl, he, by rw [hst, hx, hb]; rfl⟩
    · obtain rfl : j = l.length := by omega
      rw [List.take_length] at hx
      repeat' (first
        | ((fail_if_success (first | refine is_ucall ?_ | refine is_umcall ?_)); first | refine W1 ?_ | refine Wc ?_ | refine W2c ?_ ?_ | refine Wg ?_ | refine W2 ?_ ?_ | exact Wdead | refine Wlive (fun hb => ?_) | intro _ _ _ _ _ _ _ _ | refine We ?_ | refine Wx ?_ | refine Wt ?_ | refine Wm ?_ | refine W2m ?_ ?_ | refine Wl ?_)
        | fail)
      rw [hx]; exact ⟨rfl, rfl, rfl⟩
def manyJ (m : CopM) (j : Nat) : Int := min 3000 ((m.hhi - m.hlo + 1) * prodS (m.loss.take j))
def manyS (m : CopM) : Int := manyJ m m.loss.length
theorem prodS_pos : ∀ (l : List (Int × Int)), (∀ r ∈ l, upTo r 99 = true) → 1 ≤ prodS l
  | [], _ => by simp [prodS]
  | r :: l, h => by
    have ih := prodS_pos l fun x hx => h x (by simp [hx])
    have h1 := h r (by simp)
    simp only [upTo, Bool.and_eq_true, decide_eq_true_eq] at h1
    have := Int.mul_le_mul (show (1 : Int) ≤ r.2 - r.1 + 1 by omega) ih (by omega) (by omega)
    unfold prodS; omega
theorem manyS_eq (m : CopM) : manyS m = min 3000 (sizesS m) := by unfold manyS manyJ sizesS; rw [List.take_length]
theorem min_mul {a b : Int} (_ha : 0 ≤ a) (hb : 1 ≤ b) : min 3000 (min 3000 a * b) = min 3000 (a * b) := by
  rcases Int.le_total a 3000 with h | h
  · rw [Int.min_eq_right h]
  · rw [Int.min_eq_left h]
    have h1 : (3000 : Int) * 1 ≤ 3000 * b := Int.mul_le_mul_of_nonneg_left hb (by omega)
    have h2 : 3000 * b ≤ a * b := Int.mul_le_mul_of_nonneg_right h (by omega)
    omega
theorem Many_spec (m : CopM) (s1 s2 s3 s4 : Value) (hm : CopY H m s1 s2 s3 s4) (hh : upTo (m.hlo, m.hhi) 99 = true) (hc : ∀ r ∈ m.loss, upTo r 99 = true) :
    CallJ Try.prog E 63 [cv m s1 s2 s3 s4] (fun v H' g' => v = .int .i64 (manyS m) ∧ H' = H ∧ g' = g) H g := by
  have hok := hm.cells
  have hr := hm.loss
  have hn3 := hm.n3
  simp only [upTo, Bool.and_eq_true, decide_eq_true_eq] at hh
  refine CallJ.tidy ?_
  unfold cv
  refine CallJ.enter Try.func63 rfl (by simp only [Try.ntmps63, List.length_cons, List.length_nil, Nat.zero_add, Nat.reduceSub, List.replicate_succ, List.replicate_zero, List.cons_append, List.nil_append]; rfl) ?_
  repeat' (first
    | ((fail_if_success (first | refine is_ucall ?_ | refine is_umcall ?_)); first | refine W1 ?_ | refine Wc ?_ | refine W2c ?_ ?_ | refine Wg ?_ | refine W2 ?_ ?_ | exact Wdead | refine Wlive (fun hb => ?_) | intro _ _ _ _ _ _ _ _ | refine We ?_ | refine Wx ?_ | refine Wt ?_ | refine Wm ?_ | refine W2m ?_ ?_ | refine Wl ?_)
    | fail)
  refine st_callP (h := Size_spec _ _ _ (m.hlo, m.hhi) ⟨by omega, by show m.hlo ≤ 1000000; omega⟩ ⟨by show -1000000 ≤ m.hhi; omega, by show m.hhi ≤ 1000000; omega⟩) (k := ?_)
  refine OpsJ.normA ?_
  repeat' (first
    | ((fail_if_success (first | refine is_ucall ?_ | refine is_umcall ?_)); first | refine W1 ?_ | refine Wc ?_ | refine W2c ?_ ?_ | refine Wg ?_ | refine W2 ?_ ?_ | exact Wdead | refine Wlive (fun hb => ?_) | intro _ _ _ _ _ _ _ _ | refine We ?_ | refine Wx ?_ | refine Wt ?_ | refine Wm ?_ | refine W2m ?_ ?_ | refine Wl ?_)
    | fail)
  have hm0 : manyJ m 0 = m.hhi - m.hlo + 1 := by unfold manyJ; rw [List.take_zero]; simp only [prodS, Int.mul_one]; exact Int.min_eq_right (by omega)
  refine WPJ.loopT m.loss.length [8, 9, 10, 11, 12, 15, 16, 17, 18, 19, 20, 21, 22, 23, 13, 14] (fun j (_ : Unit) => [(4, .int .i64 j), (3, .int .i64 (manyJ m j))])
    (fun j _ H1 g1 => g1 = g ∧ Ext H H1 ∧ H1[H.length]? = some (.row (ccells m s1 s2 s3 s4) 1 true)) 0 () (Nat.zero_le _) (by intro p hp; simp at hp; rcases hp with rfl | rfl <;> first | rfl | (rw [hm0]; rfl)) ⟨rfl, extA, getA⟩ ?_
  rintro j _ H1 g1 hj ⟨rfl, he, hb0⟩ hl0
  simp only [updT, maskT, List.set_cons_zero, List.set_cons_succ]
  rcases Nat.lt_or_ge j m.loss.length with hlt | hge
  · have hel : (m.loss.map encR)[(j : Int).toNat]? = some (encR m.loss[j]) := by simp [hlt]
    have hp := prodS_pos (m.loss.take j) fun r hr => hc r (List.mem_of_mem_take hr)
    have hb2 := hc m.loss[j] (List.getElem_mem hlt)
    simp only [upTo, Bool.and_eq_true, decide_eq_true_eq] at hb2
    have hpos : 0 ≤ (m.hhi - m.hlo + 1) * prodS (m.loss.take j) := Int.mul_nonneg (by omega) (by omega)
    have hmb : 0 ≤ manyJ m j ∧ manyJ m j ≤ 3000 := by unfold manyJ; omega
    have hst : manyJ m (j + 1) = min 3000 (manyJ m j * (m.loss[j].2 - m.loss[j].1 + 1)) := by
      unfold manyJ
      rw [List.take_succ_eq_append_getElem hlt, prodS_snoc, min_mul hpos (by omega), Int.mul_assoc]
    generalize m.loss[j] = r at *
    generalize manyJ m j = s at *
    have hmm : 0 ≤ s * (r.2 - r.1 + 1) ∧ s * (r.2 - r.1 + 1) ≤ 3000 * 100 := ⟨Int.mul_nonneg (by omega) (by omega), Int.mul_le_mul (by omega) (by omega) (by omega) (by omega)⟩
    repeat' (first
      | ((fail_if_success (first | refine is_ucall ?_ | refine is_umcall ?_)); first | refine W1 ?_ | refine Wc ?_ | refine W2c ?_ ?_ | refine Wg ?_ | refine W2 ?_ ?_ | exact Wdead | refine Wlive (fun hb => ?_) | intro _ _ _ _ _ _ _ _ | refine We ?_ | refine Wx ?_ | refine Wt ?_ | refine Wm ?_ | refine W2m ?_ ?_ | refine Wl ?_)
      | fail)
    refine st_callP (h := Size_spec _ _ _ r ⟨by omega, by omega⟩ ⟨by omega, by omega⟩) (k := ?_)
    refine OpsJ.normA ?_
    repeat' (first
      | ((fail_if_success (first | refine is_ucall ?_ | refine is_umcall ?_)); first | refine W1 ?_ | refine Wc ?_ | refine W2c ?_ ?_ | refine Wg ?_ | refine W2 ?_ ?_ | exact Wdead | refine Wlive (fun hb => ?_) | intro _ _ _ _ _ _ _ _ | refine We ?_ | refine Wx ?_ | refine Wt ?_ | refine Wm ?_ | refine W2m ?_ ?_ | refine Wl ?_)
      | fail)
    refine ⟨(), hlt, ?_, rfl, he, hb0⟩
    have e : (if s * (r.2 - r.1 + 1) < 3000 then s * (r.2 - r.1 + 1) else 3000) = manyJ m (j + 1) := by rw [hst]; split <;> omega
    rw [← e]
    exact (by repeat' (first | exact Weak.nil | refine Weak.wild ?_ | refine Weak.same ?_ | refine Weak.intEq (by first | omega | (simp; done) | (push_cast; omega)) ?_))
  · obtain rfl : j = m.loss.length := by omega
    repeat' (first
      | ((fail_if_success (first | refine is_ucall ?_ | refine is_umcall ?_)); first | refine W1 ?_ | refine Wc ?_ | refine W2c ?_ ?_ | refine Wg ?_ | refine W2 ?_ ?_ | exact Wdead | refine Wlive (fun hb => ?_) | intro _ _ _ _ _ _ _ _ | refine We ?_ | refine Wx ?_ | refine Wt ?_ | refine Wm ?_ | refine W2m ?_ ?_ | refine Wl ?_)
      | fail)
    exact ⟨rfl, rfl, rfl⟩
theorem Fault_spec (m : CopM) (s1 s2 s3 s4 : Value) (hm : CopY H m s1 s2 s3 s4) : CallJ Try.prog E 80 [cv m s1 s2 s3 s4] (fun v H' g' => v = .int .i64 (checkS m) ∧ H' = H ∧ g' = g) H g := by
  have hok := hm.cells
  have hr1 := hm.coal
  have hr2 := hm.want
  have hr3 := hm.loss
  have hr4 := hm.reads
  have hn1 := hm.n1
  have hn2 := hm.n2
  have hn3 := hm.n3
  have hn4 := hm.n4
  refine CallJ.tidy ?_
  unfold cv
  refine CallJ.enter Try.func80 rfl (by simp only [Try.ntmps80, List.length_cons, List.length_nil, Nat.zero_add, Nat.reduceSub, List.replicate_succ, List.replicate_zero, List.cons_append, List.nil_append]; rfl) ?_
  repeat' (first
    | (refine is_ucall ?_; first
      | refine st_callP (h := In_spec _ _ _ _ _ _) (k := ?_)
      | refine st_callP (h := Inside_spec _ _ _ (m.hlo, m.hhi) _) (k := ?_)
      | refine st_callP (h := Each_spec _ _ _ m s1 s2 s3 s4 s1 m.coal _ hok (by omega) (hm.coal.ext extA) hm.n1) (k := ?_)
      | refine st_callP (h := Each_spec _ _ _ m s1 s2 s3 s4 s2 m.want _ hok (by omega) (hm.want.ext extA) hm.n2) (k := ?_)
      | fail)
    | (refine is_umcall ?_; first
      | refine mj_callP (h := In_spec _ _ _ _ _ _) (k := ?_)
      | refine mj_callP (h := Inside_spec _ _ _ (m.hlo, m.hhi) _) (k := ?_)
      | refine mj_callP (h := Each_spec _ _ _ m s1 s2 s3 s4 s1 m.coal _ hok (by omega) (hm.coal.ext extA) hm.n1) (k := ?_)
      | refine mj_callP (h := Each_spec _ _ _ m s1 s2 s3 s4 s2 m.want _ hok (by omega) (hm.want.ext extA) hm.n2) (k := ?_)
      | fail)
    | ((fail_if_success (first | refine is_ucall ?_ | refine is_umcall ?_)); first | refine W1 ?_ | refine Wc ?_ | refine W2c ?_ ?_ | refine Wg ?_ | refine W2 ?_ ?_ | exact Wdead | refine Wlive (fun hb => ?_) | intro _ _ _ _ _ _ _ _ | refine We ?_ | refine Wx ?_ | refine Wt ?_ | refine Wm ?_ | refine W2m ?_ ?_ | refine Wl ?_)
    | fail)
  all_goals first | (refine ⟨?_, rfl, rfl⟩; show Value.int _ _ = _; congr 1; simp [checkS, isLongS, isValidS, numsS, *]; done) | skip
  all_goals first
    | (refine ⟨?_, rfl, rfl⟩
       show Value.int _ _ = _
       congr 1
       have hlg : isLongS m = true := by (unfold isLongS; simp; omega)
       unfold checkS
       rw [hlg]
       rfl)
    | (refine ⟨?_, rfl, rfl⟩
       show Value.int _ _ = _
       congr 1
       have hlg : isLongS m = false := by (unfold isLongS; simp; omega)
       have hvf : isValidS m = false := by first | (simp [isValidS, numsS, *]; done) | (unfold isValidS; rw [show decide ((m.loss.length : Int) = m.last + 1) = false from decide_eq_false (by assumption)]; simp; done) | (unfold isValidS; rw [show decide (0 ≤ m.last) = false from decide_eq_false (by omega)]; simp; done)
       unfold checkS
       rw [hlg, hvf]
       rfl)
    | skip
  rename_i q1 q2 q3 q4 q5 q6 q7 q8 q9 q10
  have hlong : isLongS m = false := by unfold isLongS; simp; omega
  have bad : isValidS m = false → checkS m = 1 := fun h => by unfold checkS; rw [hlong, h]; rfl
  have hval : isValidS m = (m.loss.all (fun r => upTo r 99) && m.reads.all (isReadS m)) := by simp [isValidS, numsS, *]
  clear q4 q5 q6 q7 q8 q9
  refine WPJ.loopT m.loss.length [74, 75, 76, 77, 78, 81, 82, 83, 84, 85, 86, 87, 79, 80] (fun j (_ : Unit) => [(3, .int .i64 j)])
    (fun j _ H1 g1 => g1 = g ∧ Ext H H1 ∧ H1[H.length]? = some (.row (ccells m s1 s2 s3 s4) 1 true) ∧ (m.loss.take j).all (fun r => upTo r 99) = true) 0 () (Nat.zero_le _) (by intro p hp; simp at hp; rcases hp with rfl; rfl) ⟨rfl, extA, getA, by simp⟩ ?_
  rintro j _ H1 g1 hj ⟨rfl, he, hb0, hx⟩ hl0
  simp only [updT, maskT, List.set_cons_zero, List.set_cons_succ]
  rcases Nat.lt_or_ge j m.loss.length with hlt | hge
  · have hel : (m.loss.map encR)[(j : Int).toNat]? = some (encR m.loss[j]) := by simp [hlt]
    have hst := all_step (fun r => upTo r 99) (List.getElem?_eq_getElem hlt)
    have hfl := all_false (p := fun r => upTo r 99) (List.getElem?_eq_getElem hlt)
    generalize m.loss[j] = r at *
    repeat' (first
      | ((fail_if_success (first | refine is_ucall ?_ | refine is_umcall ?_)); first | refine W1 ?_ | refine Wc ?_ | refine W2c ?_ ?_ | refine Wg ?_ | refine W2 ?_ ?_ | exact Wdead | refine Wlive (fun hb => ?_) | intro _ _ _ _ _ _ _ _ | refine We ?_ | refine Wx ?_ | refine Wt ?_ | refine Wm ?_ | refine W2m ?_ ?_ | refine Wl ?_)
      | fail)
    refine st_callP (h := Inside_spec _ _ _ r 99) (k := ?_)
    cases hu : upTo r 99 with
    | false =>
      refine OpsJ.normA ?_
      repeat' (first
        | ((fail_if_success (first | refine is_ucall ?_ | refine is_umcall ?_)); first | refine W1 ?_ | refine Wc ?_ | refine W2c ?_ ?_ | refine Wg ?_ | refine W2 ?_ ?_ | exact Wdead | refine Wlive (fun hb => ?_) | intro _ _ _ _ _ _ _ _ | refine We ?_ | refine Wx ?_ | refine Wt ?_ | refine Wm ?_ | refine W2m ?_ ?_ | refine Wl ?_)
        | fail)
      rw [bad (by rw [hval, hfl hu]; rfl)]; exact ⟨rfl, rfl, rfl⟩
    | true =>
      refine OpsJ.normA ?_
      repeat' (first
        | ((fail_if_success (first | refine is_ucall ?_ | refine is_umcall ?_)); first | refine W1 ?_ | refine Wc ?_ | refine W2c ?_ ?_ | refine Wg ?_ | refine W2 ?_ ?_ | exact Wdead | refine Wlive (fun hb => ?_) | intro _ _ _ _ _ _ _ _ | refine We ?_ | refine Wx ?_ | refine Wt ?_ | refine Wm ?_ | refine W2m ?_ ?_ | refine Wl ?_)
        | fail)
      exact ⟨(), hlt, (by repeat' (first | exact Weak.nil | refine Weak.wild ?_ | refine Weak.same ?_ | refine Weak.intEq (by first | omega | (simp; done) | (push_cast; omega)) ?_)), rfl, he, hb0, by rw [hst, hx, hu]; rfl⟩
  obtain rfl : j = m.loss.length := by omega
  rw [List.take_length] at hx
  have hloss := hx
  rw [hx, Bool.true_and] at hval
  repeat' (first
    | ((fail_if_success (first | refine is_ucall ?_ | refine is_umcall ?_)); first | refine W1 ?_ | refine Wc ?_ | refine W2c ?_ ?_ | refine Wg ?_ | refine W2 ?_ ?_ | exact Wdead | refine Wlive (fun hb => ?_) | intro _ _ _ _ _ _ _ _ | refine We ?_ | refine Wx ?_ | refine Wt ?_ | refine Wm ?_ | refine W2m ?_ ?_ | refine Wl ?_)
    | fail)
  refine WPJ.loopT m.reads.length [88, 89, 90, 91, 92, 95, 96, 97, 98, 99, 100, 101, 102, 103, 104, 105, 106, 107, 108, 109, 110, 111, 112, 113, 114, 93, 94] (fun j (_ : Unit) => [(4, .int .i64 j)])
    (fun j _ H2 g2 => g2 = g1 ∧ Ext H H2 ∧ H2[H.length]? = some (.row (ccells m s1 s2 s3 s4) 1 true) ∧ (m.reads.take j).all (isReadS m) = true) 0 () (Nat.zero_le _) (by intro p hp; simp at hp; rcases hp with rfl; rfl) ⟨rfl, he, hb0, by simp⟩ ?_
  clear hx he hb0 hl0
  rintro j _ H2 g2 hj ⟨rfl, he, hb0, hx⟩ hl0
  simp only [updT, maskT, List.set_cons_zero, List.set_cons_succ]
  rcases Nat.lt_or_ge j m.reads.length with hlt | hge
  · have hel : (m.reads.map encD)[(j : Int).toNat]? = some (encD m.reads[j]) := by simp [hlt]
    have hst := all_step (isReadS m) (List.getElem?_eq_getElem hlt)
    have hfl := all_false (p := isReadS m) (List.getElem?_eq_getElem hlt)
    generalize m.reads[j] = r at *
    repeat' (first
      | ((fail_if_success (first | refine is_ucall ?_ | refine is_umcall ?_)); first | refine W1 ?_ | refine Wc ?_ | refine W2c ?_ ?_ | refine Wg ?_ | refine W2 ?_ ?_ | exact Wdead | refine Wlive (fun hb => ?_) | intro _ _ _ _ _ _ _ _ | refine We ?_ | refine Wx ?_ | refine Wt ?_ | refine Wm ?_ | refine W2m ?_ ?_ | refine Wl ?_)
      | fail)
    refine WPJ.draw 20 mixed (by kernel_rfl) (by kernel_rfl) (by kernel_rfl) (by decide) ?_
    refine MonoJ.normA ?_
    repeat' (first
      | ((fail_if_success (first | refine is_ucall ?_ | refine is_umcall ?_)); first | refine W1 ?_ | refine Wc ?_ | refine W2c ?_ ?_ | refine Wg ?_ | refine W2 ?_ ?_ | exact Wdead | refine Wlive (fun hb => ?_) | intro _ _ _ _ _ _ _ _ | refine We ?_ | refine Wx ?_ | refine Wt ?_ | refine Wm ?_ | refine W2m ?_ ?_ | refine Wl ?_)
      | fail)
    refine mj_callP (h := In_spec _ _ _ r.hour 0 m.last) (k := ?_)
    cases hi : inR 0 m.last r.hour with
    | false =>
      have hf : isReadS m r = false := by unfold isReadS; rw [hi]; rfl
      refine MonoJ.normA ?_
      repeat' (first
        | ((fail_if_success (first | refine is_ucall ?_ | refine is_umcall ?_)); first | refine W1 ?_ | refine Wc ?_ | refine W2c ?_ ?_ | refine Wg ?_ | refine W2 ?_ ?_ | exact Wdead | refine Wlive (fun hb => ?_) | intro _ _ _ _ _ _ _ _ | refine We ?_ | refine Wx ?_ | refine Wt ?_ | refine Wm ?_ | refine W2m ?_ ?_ | refine Wl ?_)
        | fail)
      rw [bad (by rw [hval, hfl hf])]; exact ⟨rfl, rfl, rfl⟩
    | true =>
      refine MonoJ.normA ?_
      repeat' (first
        | ((fail_if_success (first | refine is_ucall ?_ | refine is_umcall ?_)); first | refine W1 ?_ | refine Wc ?_ | refine W2c ?_ ?_ | refine Wg ?_ | refine W2 ?_ ?_ | exact Wdead | refine Wlive (fun hb => ?_) | intro _ _ _ _ _ _ _ _ | refine We ?_ | refine Wx ?_ | refine Wt ?_ | refine Wm ?_ | refine W2m ?_ ?_ | refine Wl ?_)
        | fail)
      rename_i i2 p2 row2 es2 own2 q1 q2 q3
      have hbk : (row2.drop (p2 + 1)).take 2 = encR (r.lo, r.hi) := by
        have e : (row2.drop (p2 + 1)).take 2 = ((row2.drop p2).take 3).drop 1 := by rw [List.drop_take, List.drop_drop]
        rw [e, q3]; rfl
      rw [hbk]
      refine mj_callP (h := Inside_spec _ _ _ (r.lo, r.hi) 999) (k := ?_)
      cases hu : upTo (r.lo, r.hi) 999 with
      | false =>
        have hf : isReadS m r = false := by unfold isReadS; rw [hi, hu]; rfl
        refine MonoJ.normA ?_
        repeat' (first
          | ((fail_if_success (first | refine is_ucall ?_ | refine is_umcall ?_)); first | refine W1 ?_ | refine Wc ?_ | refine W2c ?_ ?_ | refine Wg ?_ | refine W2 ?_ ?_ | exact Wdead | refine Wlive (fun hb => ?_) | intro _ _ _ _ _ _ _ _ | refine We ?_ | refine Wx ?_ | refine Wt ?_ | refine Wm ?_ | refine W2m ?_ ?_ | refine Wl ?_)
          | fail)
        rw [bad (by rw [hval, hfl hf])]; exact ⟨rfl, rfl, rfl⟩
      | true =>
        have hf : isReadS m r = true := by unfold isReadS; rw [hi, hu]; rfl
        refine MonoJ.normA ?_
        repeat' (first
          | ((fail_if_success (first | refine is_ucall ?_ | refine is_umcall ?_)); first | refine W1 ?_ | refine Wc ?_ | refine W2c ?_ ?_ | refine Wg ?_ | refine W2 ?_ ?_ | exact Wdead | refine Wlive (fun hb => ?_) | intro _ _ _ _ _ _ _ _ | refine We ?_ | refine Wx ?_ | refine Wt ?_ | refine Wm ?_ | refine W2m ?_ ?_ | refine Wl ?_)
          | fail)
        exact ⟨(), hlt, (by repeat' (first | exact Weak.nil | refine Weak.wild ?_ | refine Weak.same ?_ | refine Weak.intEq (by first | omega | (simp; done) | (push_cast; omega)) ?_)), rfl, he, hb0, by rw [hst, hx, hf]; rfl⟩
  obtain rfl : j = m.reads.length := by omega
  rw [List.take_length] at hx
  rw [hx] at hval
  repeat' (first
    | ((fail_if_success (first | refine is_ucall ?_ | refine is_umcall ?_)); first | refine W1 ?_ | refine Wc ?_ | refine W2c ?_ ?_ | refine Wg ?_ | refine W2 ?_ ?_ | exact Wdead | refine Wlive (fun hb => ?_) | intro _ _ _ _ _ _ _ _ | refine We ?_ | refine Wx ?_ | refine Wt ?_ | refine Wm ?_ | refine W2m ?_ ?_ | refine Wl ?_)
    | fail)
  refine st_callP (h := Many_spec _ _ _ m s1 s2 s3 s4 ?_ q10 (fun r hr => List.all_eq_true.1 hloss r hr)) (k := ?_)
  · exact hm.ext extA
  have hck : checkS m = if 2000 < sizesS m then 3 else 0 := by unfold checkS; rw [hlong, hval]; rfl
  have hms := manyS_eq m
  generalize manyS m = ms at *
  refine OpsJ.normA ?_
  repeat' (first
    | ((fail_if_success (first | refine is_ucall ?_ | refine is_umcall ?_)); first | refine W1 ?_ | refine Wc ?_ | refine W2c ?_ ?_ | refine Wg ?_ | refine W2 ?_ ?_ | exact Wdead | refine Wlive (fun hb => ?_) | intro _ _ _ _ _ _ _ _ | refine We ?_ | refine Wx ?_ | refine Wt ?_ | refine Wm ?_ | refine W2m ?_ ?_ | refine Wl ?_)
    | fail)
  · rw [hck, if_pos (by omega)]; exact ⟨rfl, rfl, rfl⟩
  · rw [hck, if_neg (by omega)]; exact ⟨rfl, rfl, rfl⟩
theorem fault_spec (m : CopM) (s1 s2 s3 s4 : Value) (hm : CopY H m s1 s2 s3 s4) : CallJ Try.prog E 25 [cv m s1 s2 s3 s4] (fun v H' g' => v = .int .i64 (checkS m) ∧ H' = H ∧ g' = g) H g := by
  have hok := hm.cells
  refine CallJ.tidy ?_
  unfold cv
  refine CallJ.enter Try.func25 rfl (by simp only [Try.ntmps25, List.length_cons, List.length_nil, Nat.zero_add, Nat.reduceSub, List.replicate_succ, List.replicate_zero, List.cons_append, List.nil_append]; rfl) ?_
  repeat' (first
    | ((fail_if_success (first | refine is_ucall ?_ | refine is_umcall ?_)); first | refine W1 ?_ | refine Wc ?_ | refine W2c ?_ ?_ | refine Wg ?_ | refine W2 ?_ ?_ | exact Wdead | refine Wlive (fun hb => ?_) | intro _ _ _ _ _ _ _ _ | refine We ?_ | refine Wx ?_ | refine Wt ?_ | refine Wm ?_ | refine W2m ?_ ?_ | refine Wl ?_)
    | fail)
  refine st_callP (h := Fault_spec _ _ _ m s1 s2 s3 s4 ?_) (k := ?_)
  · exact hm.ext extA
  refine OpsJ.normA ?_
  repeat' (first
    | ((fail_if_success (first | refine is_ucall ?_ | refine is_umcall ?_)); first | refine W1 ?_ | refine Wc ?_ | refine W2c ?_ ?_ | refine Wg ?_ | refine W2 ?_ ?_ | exact Wdead | refine Wlive (fun hb => ?_) | intro _ _ _ _ _ _ _ _ | refine We ?_ | refine Wx ?_ | refine Wt ?_ | refine Wm ?_ | refine W2m ?_ ?_ | refine Wl ?_)
    | fail)
  exact ⟨rfl, rfl, rfl⟩
theorem ready_spec (m : CopM) (s1 s2 s3 s4 : Value) (hm : CopY H m s1 s2 s3 s4) : CallJ Try.prog E 58 [cv m s1 s2 s3 s4] (fun v H' g' => v = .bool (thinS m && decide (checkS m = 0)) ∧ H' = H ∧ g' = g) H g := by
  have hok := hm.cells
  refine CallJ.tidy ?_
  unfold cv
  refine CallJ.enter Try.func58 rfl (by simp only [Try.ntmps58, List.length_cons, List.length_nil, Nat.zero_add, Nat.reduceSub, List.replicate_succ, List.replicate_zero, List.cons_append, List.nil_append]; rfl) ?_
  repeat' (first
    | (refine is_ucall ?_; first
      | refine st_callP (h := Thin_spec _ _ _ m s1 s2 s3 s4 (hm.ext extA)) (k := ?_)
      | refine st_callP (h := fault_spec _ _ _ m s1 s2 s3 s4 (hm.ext extA)) (k := ?_)
      | fail)
    | (refine is_umcall ?_; first
      | refine mj_callP (h := Thin_spec _ _ _ m s1 s2 s3 s4 (hm.ext extA)) (k := ?_)
      | refine mj_callP (h := fault_spec _ _ _ m s1 s2 s3 s4 (hm.ext extA)) (k := ?_)
      | fail)
    | ((fail_if_success (first | refine is_ucall ?_ | refine is_umcall ?_)); first | refine W1 ?_ | refine Wc ?_ | refine W2c ?_ ?_ | refine Wg ?_ | refine W2 ?_ ?_ | exact Wdead | refine Wlive (fun hb => ?_) | intro _ _ _ _ _ _ _ _ | refine We ?_ | refine Wx ?_ | refine Wt ?_ | refine Wm ?_ | refine W2m ?_ ?_ | refine Wl ?_)
    | fail)
  all_goals (refine ⟨?_, rfl, rfl⟩; show Value.bool _ = _; congr 1; all_goals first | rfl | (rw [Bool.eq_iff_iff]; simp only [Bool.and_eq_true, Bool.or_eq_true, decide_eq_true_eq, Bool.not_eq_true', beq_iff_eq, Bool.true_eq_false, Bool.false_eq_true, iff_true, true_iff, iff_false, false_iff, decide_eq_false_iff_not]; omega))
end
end Go.Proofs.Ytjbiidlmpaibkaa
