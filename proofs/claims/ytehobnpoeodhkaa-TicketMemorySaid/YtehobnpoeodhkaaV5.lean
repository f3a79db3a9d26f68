import Derived.Test.YtehobnpoeodhkaaV4
import Derived.Test.YtehobnpoeodhkaaV3
namespace Go.Abs
open Go
theorem SpecJ.normA {P : Program} {ops : Array Oper} {b i : Nat} {o0 o1 : AObj} {R : List Value → AHeap → Prop} {n k : Nat} {T T' : List Value} {H H' : AHeap} {l : List Oper} (h : SpecJ P ops b i o0 o1 R n k l T' H') (hT : T = T' := by first | exact NSr | rfl) (hH : H = H' := by first | exact NSr | rfl) : SpecJ P ops b i o0 o1 R n k l T H := SpecJ.norm hT hH h
end Go.Abs

namespace Go.Proofs.Ytehobnpoeodhkaa
open Go Go.Abs Go.Proofs
set_option maxHeartbeats 400000
attribute [local irreducible] CallJ OpsJ WPJ CallV MonoJ

theorem filter_get {α : Type} (p : α → Bool) : ∀ (l : List α) (k : Nat) (x : α), l[k]? = some x → p x = true → (l.filter p)[((l.take k).filter p).length]? = some x
  | [], k, x, h, _ => by simp at h
  | a :: l, 0, x, h, hp => by
    simp at h; subst h
    simp [hp]
  | a :: l, k + 1, x, h, hp => by
    have := filter_get p l k x (by simpa using h) hp
    rw [List.take_succ_cons, List.filter_cons, List.filter_cons]
    split
    · simpa using this
    · exact this
theorem filter_step {α : Type} (p : α → Bool) {l : List α} {k : Nat} {x : α} (h : l[k]? = some x) : ((l.take (k + 1)).filter p).length = ((l.take k).filter p).length + (if p x then 1 else 0) := by
  obtain ⟨hlt, rfl⟩ := List.getElem?_eq_some_iff.1 h
  rw [List.take_succ_eq_append_getElem hlt, List.filter_append, List.length_append]
  simp only [List.filter_cons, List.filter_nil]
  split <;> simp

/-- A house that the package can use. -/
structure Valid (m : HouseM) : Prop where
  few : Few m
  sound : ∀ es ∈ errs m, Sound es m.clips
  tick : ∀ c ∈ m.clips, 0 ≤ c.ticket ∧ c.ticket < 6
  ncl : m.clips.length ≤ 1000

def minI : Int := -9223372036854775808
def isT (m : HouseM) (es : List Int) : Bool := isTruthS es (-9223372036854775808) m.clips
/-- The truths, as errors. -/
def truthsL (m : HouseM) : List (List Int) := (errs m).filter (isT m)
abbrev wval (m : HouseM) (s1 s2 s3 : Value) (es : List Int) : Value := .agg ⟨wv m s1 s2 s3 es (staysS es m.clips)⟩

theorem house_ext {H Hc : AHeap} {m : HouseM} {s1 s2 s3 : Value} (h : HouseIs H m s1 s2 s3) {L : AHeap} (e : Hc = H ++ L) : HouseIs Hc m s1 s2 s3 := h.ext ⟨L, e⟩

theorem truths_hits (m : HouseM) (s1 s2 s3 : Value) (b : Nat) (hV : Valid m) : Hits Try.prog 121 [] [.pointer (some ⟨b, 0, none⟩)] (OkH m s1 s2 s3 b) ((truthsL m).map fun es => [wval m s1 s2 s3 es]) := by
  intro γ' E' J Jx yn Hi g0 hok hy hJ0
  have hbox := hok.box
  have hcl := hok.house.cells
  refine CallJ.tidy ?_
  refine CallJ.enter Try.func121 rfl (by simp only [Try.ntmps121, List.length_cons, List.length_nil, Nat.zero_add, Nat.reduceAdd, Nat.reduceSub, List.replicate_succ, List.replicate_zero, List.cons_append, List.nil_append]; rfl) ?_
  repeat' (first
    | (refine is_ucall ?_; first
      | refine st_callP (h := isTruth_spec _ _ _ m s1 s2 s3 es (hmc.ext extA) (hV.sound es hes)) (k := ?_)
      | refine st_callP (h := work_spec _ _ _ m s1 s2 s3 es (hmc.ext extA) (hV.sound es hes) hV.tick hV.ncl) (k := ?_)
      | fail)
    | (refine is_umcall ?_; first
      | refine mj_callP (h := isTruth_spec _ _ _ m s1 s2 s3 es (hmc.ext extA) (hV.sound es hes)) (k := ?_)
      | refine mj_callP (h := work_spec _ _ _ m s1 s2 s3 es (hmc.ext extA) (hV.sound es hes) hV.tick hV.ncl) (k := ?_)
      | fail)
    | refine W1 ?_ | refine Wc ?_ | refine W2c ?_ ?_ | refine Wg ?_ | refine W2 ?_ ?_ | exact Wdead | refine Wlive (fun hb => ?_) | intro _ _ _ _ _ _ _ _ | refine We ?_ | refine Wx ?_ | refine Wt ?_ | refine Wm ?_ | refine W2m ?_ ?_ | refine Wl ?_
    | fail)
  refine st_call rfl (allErrors_spec E' g0 _ m s1 s2 s3 hcl) ?_
  rintro _ _ g1 ⟨rfl, rfl, rfl⟩
  refine OpsJ.normA ?_
  repeat' (first
    | (refine is_ucall ?_; first
      | refine st_callP (h := isTruth_spec _ _ _ m s1 s2 s3 es (hmc.ext extA) (hV.sound es hes)) (k := ?_)
      | refine st_callP (h := work_spec _ _ _ m s1 s2 s3 es (hmc.ext extA) (hV.sound es hes) hV.tick hV.ncl) (k := ?_)
      | fail)
    | (refine is_umcall ?_; first
      | refine mj_callP (h := isTruth_spec _ _ _ m s1 s2 s3 es (hmc.ext extA) (hV.sound es hes)) (k := ?_)
      | refine mj_callP (h := work_spec _ _ _ m s1 s2 s3 es (hmc.ext extA) (hV.sound es hes) hV.tick hV.ncl) (k := ?_)
      | fail)
    | refine W1 ?_ | refine Wc ?_ | refine W2c ?_ ?_ | refine Wg ?_ | refine W2 ?_ ?_ | exact Wdead | refine Wlive (fun hb => ?_) | intro _ _ _ _ _ _ _ _ | refine We ?_ | refine Wx ?_ | refine Wt ?_ | refine Wm ?_ | refine W2m ?_ ?_ | refine Wl ?_
    | fail)
  have hmb : HouseIs (Hi ++ [.row [.func (.yield yn) #[] #[]] 1 true, .row (hcells m s1 s2 s3) 1 true]) m s1 s2 s3 := hok.house.ext ⟨_, rfl⟩
  have hbb : (Hi ++ [.row [.func (.yield yn) #[] #[]] 1 true, .row (hcells m s1 s2 s3) 1 true])[Hi.length + 1]? = some (.row (hcells m s1 s2 s3) 1 true) := get_new rfl
  have hlx : ((truthsL m).map fun es => [wval m s1 s2 s3 es]).length = ((errs m).filter (isT m)).length := by simp [truthsL]
  rw [hlx]
  refine WPJ.rangeHits (shH (Hi.length + 1) s1 s2 s3) ((errs m).map fun es => [.agg ⟨encE es⟩]) rfl EntC.ent (allErrors_hits m s1 s2 s3 _ hV.few) (shH_ok hmb hbb) (shH_cap hmb hbb) (fun v hv => by cases hv)
    (fun v hv => by simp at hv; subst hv; exact .ptr (by simp [shH])) (shH_within hmb hbb) (fun x hx => by simp at hx; obtain ⟨_, _, rfl⟩ := hx; rfl)
    (fun ρ w hs hk x hx v hv l => by simp at hx; obtain ⟨es, _, rfl⟩ := hx; simp at hv; subst hv; exact .agg fun v hv => by simp [encE] at hv; obtain ⟨_, _, rfl⟩ := hv; exact .flat rfl)
    (fun k H2 g2 => (∃ L, H2 = (Hi ++ [.row [.func (.yield yn) #[] #[]] 1 true, .row (hcells m s1 s2 s3) 1 true]) ++ L ∧ OwnL L) ∧ J (((errs m).take k).filter (isT m)).length g2)
    (fun c H2 g2 => c = .ret ∧ (∃ L, H2 = (Hi ++ [.row [.func (.yield yn) #[] #[]] 1 true, .row (hcells m s1 s2 s3) 1 true]) ++ L ∧ OwnL L) ∧ Jx g2)
    ⟨⟨[], by simp, .nil⟩, hJ0⟩ ?_ ?_ ?_ ?_
  · have hlt := shH_lt hmb (b := Hi.length + 1) (by simp)
    rintro H2 g2 h
    have hex : ∃ L, H2 = (Hi ++ [.row [.func (.yield yn) #[] #[]] 1 true, .row (hcells m s1 s2 s3) 1 true]) ++ L ∧ OwnL L := by
      rcases h with ⟨k, h, _⟩ | ⟨c, _, h, _⟩ <;> exact h
    obtain ⟨L, rfl, hL⟩ := hex
    have := kept_of (L0 := []) hlt hL
    simpa using this
  · rintro k x Hc gc hx ⟨⟨L, hHc, hL⟩, hJ⟩
    rw [List.getElem?_map] at hx
    obtain ⟨es, hes0, rfl⟩ := Option.map_eq_some_iff.1 hx
    have hes : es ∈ errs m := List.mem_of_getElem? hes0
    have hstep := filter_step (isT m) hes0
    have hlen : Hi.length + 2 ≤ Hc.length := by rw [hHc]; simp
    have hmc : HouseIs Hc m s1 s2 s3 := house_ext hmb hHc
    have hb0 : Hc[Hi.length]? = some (.row [.func (.yield yn) #[] #[]] 1 true) := by rw [hHc]; exact get_old (get_new0 rfl)
    have hb1 : Hc[b]? = some (.row (hcells m s1 s2 s3) 1 false) := by rw [hHc]; exact get_old (get_old hbox)
    have hE := encE_ok es
    have hS := hV.sound es hes
    have hl4 : (encE es).length = 4 := by simp [encE, hS.1]
    have hall : List.take 4 (encE es) = encE es := List.take_of_length_le (by omega)
    simp only [putPs, List.set_cons_zero, List.set_cons_succ]
    repeat' (first
      | (refine is_ucall ?_; first
        | refine st_callP (h := isTruth_spec _ _ _ m s1 s2 s3 es (hmc.ext extA) (hV.sound es hes)) (k := ?_)
        | refine st_callP (h := work_spec _ _ _ m s1 s2 s3 es (hmc.ext extA) (hV.sound es hes) hV.tick hV.ncl) (k := ?_)
        | fail)
      | (refine is_umcall ?_; first
        | refine mj_callP (h := isTruth_spec _ _ _ m s1 s2 s3 es (hmc.ext extA) (hV.sound es hes)) (k := ?_)
        | refine mj_callP (h := work_spec _ _ _ m s1 s2 s3 es (hmc.ext extA) (hV.sound es hes) hV.tick hV.ncl) (k := ?_)
        | fail)
      | refine W1 ?_ | refine Wc ?_ | refine W2c ?_ ?_ | refine Wg ?_ | refine W2 ?_ ?_ | exact Wdead | refine Wlive (fun hb => ?_) | intro _ _ _ _ _ _ _ _ | refine We ?_ | refine Wx ?_ | refine Wt ?_ | refine Wm ?_ | refine W2m ?_ ?_ | refine Wl ?_
      | fail)
    refine WPJ.draw 8 mixed (by kernel_rfl) (by kernel_rfl) (by kernel_rfl) (by decide) ?_
    refine MonoJ.normA ?_
    repeat' (first
      | (refine is_ucall ?_; first
        | refine st_callP (h := isTruth_spec _ _ _ m s1 s2 s3 es (hmc.ext extA) (hV.sound es hes)) (k := ?_)
        | refine st_callP (h := work_spec _ _ _ m s1 s2 s3 es (hmc.ext extA) (hV.sound es hes) hV.tick hV.ncl) (k := ?_)
        | fail)
      | (refine is_umcall ?_; first
        | refine mj_callP (h := isTruth_spec _ _ _ m s1 s2 s3 es (hmc.ext extA) (hV.sound es hes)) (k := ?_)
        | refine mj_callP (h := work_spec _ _ _ m s1 s2 s3 es (hmc.ext extA) (hV.sound es hes) hV.tick hV.ncl) (k := ?_)
        | fail)
      | refine W1 ?_ | refine Wc ?_ | refine W2c ?_ ?_ | refine Wg ?_ | refine W2 ?_ ?_ | exact Wdead | refine Wlive (fun hb => ?_) | intro _ _ _ _ _ _ _ _ | refine We ?_ | refine Wx ?_ | refine Wt ?_ | refine Wm ?_ | refine W2m ?_ ?_ | refine Wl ?_
      | fail)
    have hex : ∀ row : List Value, ∃ L', Hc ++ [.row row 1 true] = (Hi ++ [.row [.func (.yield yn) #[] #[]] 1 true, .row (hcells m s1 s2 s3) 1 true]) ++ L' ∧ OwnL L' := fun row => ⟨L ++ [.row row 1 true], by rw [hHc]; simp, hL.append (.cons (.inr rfl) .nil)⟩
    have hxo : ExtOwn Hi (Hc ++ [.row (encE es) 1 true]) := by
      obtain ⟨L', h1, h2⟩ := hex (encE es)
      refine ⟨[.row [.func (.yield yn) #[] #[]] 1 true, .row (hcells m s1 s2 s3) 1 true] ++ L', by rw [h1, List.append_assoc], ?_⟩
      exact OwnL.append (.cons (.inr rfl) (.cons (.inr rfl) .nil)) h2
    · skip
      have hp : isT m es = true := hb
      rw [if_pos hp] at hstep
      have hget := filter_get (isT m) (errs m) k es hes0 hp
      have h0 := hy _ [wval m s1 s2 s3 es] (by rw [List.getElem?_map, truthsL, hget]; rfl) _ gc hxo hJ
      refine st_callV rfl rfl h0 ?_
      rintro v H' g' ⟨rfl, ⟨rfl, h1⟩ | ⟨rfl, h1⟩⟩
      · skip
        repeat' (first
          | (refine is_ucall ?_; first
            | refine st_callP (h := isTruth_spec _ _ _ m s1 s2 s3 es (hmc.ext extA) (hV.sound es hes)) (k := ?_)
            | refine st_callP (h := work_spec _ _ _ m s1 s2 s3 es (hmc.ext extA) (hV.sound es hes) hV.tick hV.ncl) (k := ?_)
            | fail)
          | (refine is_umcall ?_; first
            | refine mj_callP (h := isTruth_spec _ _ _ m s1 s2 s3 es (hmc.ext extA) (hV.sound es hes)) (k := ?_)
            | refine mj_callP (h := work_spec _ _ _ m s1 s2 s3 es (hmc.ext extA) (hV.sound es hes) hV.tick hV.ncl) (k := ?_)
            | fail)
          | refine W1 ?_ | refine Wc ?_ | refine W2c ?_ ?_ | refine Wg ?_ | refine W2 ?_ ?_ | exact Wdead | refine Wlive (fun hb => ?_) | intro _ _ _ _ _ _ _ _ | refine We ?_ | refine Wx ?_ | refine Wt ?_ | refine Wm ?_ | refine W2m ?_ ?_ | refine Wl ?_
          | fail)
        exact ⟨hex _, by rw [hstep]; exact h1⟩
      · skip
        repeat' (first
          | (refine is_ucall ?_; first
            | refine st_callP (h := isTruth_spec _ _ _ m s1 s2 s3 es (hmc.ext extA) (hV.sound es hes)) (k := ?_)
            | refine st_callP (h := work_spec _ _ _ m s1 s2 s3 es (hmc.ext extA) (hV.sound es hes) hV.tick hV.ncl) (k := ?_)
            | fail)
          | (refine is_umcall ?_; first
            | refine mj_callP (h := isTruth_spec _ _ _ m s1 s2 s3 es (hmc.ext extA) (hV.sound es hes)) (k := ?_)
            | refine mj_callP (h := work_spec _ _ _ m s1 s2 s3 es (hmc.ext extA) (hV.sound es hes) hV.tick hV.ncl) (k := ?_)
            | fail)
          | refine W1 ?_ | refine Wc ?_ | refine W2c ?_ ?_ | refine Wg ?_ | refine W2 ?_ ?_ | exact Wdead | refine Wlive (fun hb => ?_) | intro _ _ _ _ _ _ _ _ | refine We ?_ | refine Wx ?_ | refine Wt ?_ | refine Wm ?_ | refine W2m ?_ ?_ | refine Wl ?_
          | fail)
        exact ⟨rfl, hex _, h1⟩
    · skip
      have hp : isT m es = false := hb
      rw [if_neg (by simp [hp])] at hstep
      exact ⟨⟨L ++ [.row (encE es) 1 true], by rw [hHc]; simp, hL.append (.cons (.inr rfl) .nil)⟩, by rw [hstep]; exact hJ⟩
  · rintro Hc gc ⟨⟨L, rfl, hL⟩, hJ⟩
    repeat' (first
      | (refine is_ucall ?_; first
        | refine st_callP (h := isTruth_spec _ _ _ m s1 s2 s3 es (hmc.ext extA) (hV.sound es hes)) (k := ?_)
        | refine st_callP (h := work_spec _ _ _ m s1 s2 s3 es (hmc.ext extA) (hV.sound es hes) hV.tick hV.ncl) (k := ?_)
        | fail)
      | (refine is_umcall ?_; first
        | refine mj_callP (h := isTruth_spec _ _ _ m s1 s2 s3 es (hmc.ext extA) (hV.sound es hes)) (k := ?_)
        | refine mj_callP (h := work_spec _ _ _ m s1 s2 s3 es (hmc.ext extA) (hV.sound es hes) hV.tick hV.ncl) (k := ?_)
        | fail)
      | refine W1 ?_ | refine Wc ?_ | refine W2c ?_ ?_ | refine Wg ?_ | refine W2 ?_ ?_ | exact Wdead | refine Wlive (fun hb => ?_) | intro _ _ _ _ _ _ _ _ | refine We ?_ | refine Wx ?_ | refine Wt ?_ | refine Wm ?_ | refine W2m ?_ ?_ | refine Wl ?_
      | fail)
    rw [show (List.map (fun es => [Value.agg { toList := encE es }]) (errs m)).length = (errs m).length by simp, List.take_length] at hJ
    exact ⟨rfl, .inl hJ⟩
  · rintro c Hc gc ⟨rfl, ⟨L, rfl, hL⟩, hJ⟩
    repeat' (first
      | (refine is_ucall ?_; first
        | refine st_callP (h := isTruth_spec _ _ _ m s1 s2 s3 es (hmc.ext extA) (hV.sound es hes)) (k := ?_)
        | refine st_callP (h := work_spec _ _ _ m s1 s2 s3 es (hmc.ext extA) (hV.sound es hes) hV.tick hV.ncl) (k := ?_)
        | fail)
      | (refine is_umcall ?_; first
        | refine mj_callP (h := isTruth_spec _ _ _ m s1 s2 s3 es (hmc.ext extA) (hV.sound es hes)) (k := ?_)
        | refine mj_callP (h := work_spec _ _ _ m s1 s2 s3 es (hmc.ext extA) (hV.sound es hes) hV.tick hV.ncl) (k := ?_)
        | fail)
      | refine W1 ?_ | refine Wc ?_ | refine W2c ?_ ?_ | refine Wg ?_ | refine W2 ?_ ?_ | exact Wdead | refine Wlive (fun hb => ?_) | intro _ _ _ _ _ _ _ _ | refine We ?_ | refine Wx ?_ | refine Wt ?_ | refine Wm ?_ | refine W2m ?_ ?_ | refine Wl ?_
      | fail)
    exact ⟨rfl, .inr hJ⟩
end Go.Proofs.Ytehobnpoeodhkaa

namespace Go.Proofs.Ytehobnpoeodhkaa
open Go Go.Abs Go.Proofs
set_option maxHeartbeats 400000
attribute [local irreducible] CallJ OpsJ WPJ CallV MonoJ

/-- What an iterator's caller may do to its heap. -/
def Kept (sh : List Nat) (H0 H2 : AHeap) : Prop := (∀ i ∈ sh, ∀ c es own, H0[i]? = some (.row c es own) → H2[i]? = some (.row c es own)) ∧ (∀ (i : Nat) (o : AObj), H2[i]? = some o → o.dead? = false → ownedO o = false → ∃ o' : AObj, H0[i]? = some o' ∧ o'.dead? = false)
theorem Kept.refl (sh : List Nat) (H : AHeap) : Kept sh H H := ⟨fun _ _ _ _ _ h => h, fun _ o h hd _ => ⟨o, h, hd⟩⟩
theorem Kept.set {sh : List Nat} {H0 H2 : AHeap} {j : Nat} {o : AObj} (h : Kept sh H0 H2) (hj : j ∉ sh) (ho : ownedO o = true) : Kept sh H0 (H2.set j o) := by
  refine ⟨fun i hi c es own hc => ?_, fun i x hx hd hn => ?_⟩
  · rw [List.getElem?_set_ne (fun (e : j = i) => hj (by rw [e]; exact hi))]; exact h.1 i hi c es own hc
  · rw [List.getElem?_set] at hx
    split at hx
    · split at hx
      · cases hx; rw [ho] at hn; cases hn
      · cases hx
    · exact h.2 i x hx hd hn
theorem Kept.app {sh : List Nat} {H0 H2 L : AHeap} (h : Kept sh H0 H2) (hL : OwnL L) : Kept sh H0 (H2 ++ L) := by
  refine ⟨fun i hi c es own hc => get_old (h.1 i hi c es own hc), fun i x hx hd hn => ?_⟩
  by_cases hlt : i < H2.length
  · rw [List.getElem?_append_left hlt] at hx; exact h.2 i x hx hd hn
  · rw [List.getElem?_append_right (by omega)] at hx
    rcases hL x (List.mem_of_getElem? hx) with h1 | h1
    · rw [h1] at hd; cases hd
    · rw [h1] at hn; cases hn
theorem shH_not {H : AHeap} {m : HouseM} {s1 s2 s3 : Value} {b j : Nat} (hm : HouseIs H m s1 s2 s3) (hj : H.length ≤ j) (hne : j ≠ b) : j ∉ shH b s1 s2 s3 := by
  intro hi
  simp only [shH, List.mem_cons, List.mem_append] at hi
  rcases hi with hi | hi | hi | hi
  · exact hne hi
  · have := (idOf_rd hm.clocks hi).1; omega
  · have := (idOf_rd hm.tickets hi).1; omega
  · have := (idOf_rd hm.clips hi).1; omega
theorem truths_across {H : AHeap} {m : HouseM} {s1 s2 s3 : Value} {b : Nat} (hm : HouseIs H m s1 s2 s3) : ∀ (ρ : Ren) (w : World), SRel ρ H w → (∀ i ∈ shH b s1 s2 s3, ∃ m, ρ i = some m) → ∀ x ∈ (truthsL m).map (fun es => [wval m s1 s2 s3 es]), ∀ v ∈ x, ∀ l, Across (shH b s1 s2 s3) ρ H.length l v := by
  intro ρ w hs hk x hx v hv l
  simp at hx
  obtain ⟨es, _, rfl⟩ := hx
  simp at hv; subst hv
  refine .agg fun v hv => ?_
  rcases wv_rest hv with h | h
  · exact shH_across hm hs hk h
  · exact .flat h
theorem truths_len {m : HouseM} {s1 s2 s3 : Value} : ∀ x ∈ (truthsL m).map (fun es => [wval m s1 s2 s3 es]), x.length = 1 := fun x hx => by
  simp at hx; obtain ⟨_, _, rfl⟩ := hx; rfl

/-- **A range over the truths.** -/
theorem WPJ.truths {γ : Type} {E : Env γ} {gop : Operand} {p : Tmp} {assign body : Code} {Q : Exit → List Value → AHeap → γ → Prop} {T : List Value} {H : AHeap} {g : γ} {m : HouseM} {s1 s2 s3 : Value} {b : Nat} {own : Bool} (hg : evalT T gop = .func (.func 121) ⟨[]⟩ ⟨[.pointer (some ⟨b, 0, none⟩)]⟩)
    (hV : Valid m) (hm : HouseIs H m s1 s2 s3) (hb : H[b]? = some (.row (hcells m s1 s2 s3) 1 own))
    (I : Nat → AHeap → γ → Prop) (Ix : Code → AHeap → γ → Prop) (h0 : I 0 H g) (hI : ∀ k H2 g2, I k H2 g2 → Kept (shH b s1 s2 s3) H H2) (hIx : ∀ c H2 g2, Ix c H2 g2 → Kept (shH b s1 s2 s3) H H2)
    (round : ∀ k es Hc gc, (truthsL m)[k]? = some es → I k Hc gc → WPJ Try.prog E assign (thenQ (WPJ Try.prog E body (roundQ (I (k + 1)) Ix)) (fun _ _ _ _ => False)) (T.set p (wval m s1 s2 s3 es)) Hc gc)
    (done : ∀ Hc gc, I (truthsL m).length Hc gc → Q .normal T Hc gc) (stop : ∀ c Hc gc, Ix c Hc gc → WPJ Try.prog E c Q T Hc gc) : WPJ Try.prog E (.rangeFunc gop #[p] assign body) Q T H g := by
  refine WPJ.rangeHits (shH b s1 s2 s3) ((truthsL m).map fun es => [wval m s1 s2 s3 es]) hg EntC.ent (truths_hits m s1 s2 s3 b hV) (shH_ok hm hb) (shH_cap hm hb) (fun v hv => by cases hv)
    (fun v hv => by simp at hv; subst hv; exact .ptr (by simp [shH])) (shH_within hm hb) truths_len (truths_across hm) I Ix h0 ?_ ?_ ?_ stop
  · rintro H2 g2 (⟨k, h⟩ | ⟨c, h⟩)
    · exact hI k H2 g2 h
    · exact hIx c H2 g2 h
  · intro k x Hc gc hx hIk
    rw [List.getElem?_map] at hx
    obtain ⟨es, hes, rfl⟩ := Option.map_eq_some_iff.1 hx
    exact round k es Hc gc hes hIk
  · intro Hc gc h
    rw [List.length_map] at h
    exact done Hc gc h

def hasS (m : HouseM) : Bool := !(truthsL m).isEmpty
theorem hasTruth_spec {γ : Type} (E : Env γ) (g : γ) (H : AHeap) (m : HouseM) (s1 s2 s3 : Value) (hm : HouseIs H m s1 s2 s3) (hV : Valid m) : CallJ Try.prog E 101 [hv m s1 s2 s3] (fun v H' g' => v = .bool (hasS m) ∧ H' = H ∧ g' = g) H g := by
  have hok := hm.cells
  refine CallJ.tidy ?_
  unfold hv
  refine CallJ.enter Try.func101 rfl (by simp only [Try.ntmps101, List.length_cons, List.length_nil, Nat.zero_add, Nat.reduceSub, List.replicate_succ, List.replicate_zero, List.cons_append, List.nil_append]; rfl) ?_
  repeat' (first
    | refine W1 ?_ | refine Wc ?_ | refine W2c ?_ ?_ | refine Wg ?_ | refine W2 ?_ ?_ | exact Wdead | refine Wlive (fun hb => ?_) | intro _ _ _ _ _ _ _ _ | refine We ?_ | refine Wx ?_ | refine Wt ?_ | refine Wm ?_ | refine W2m ?_ ?_ | refine Wl ?_
    | fail)
  refine st_call rfl (truths_spec E g _ m s1 s2 s3 hok) ?_
  rintro _ _ g ⟨rfl, rfl, rfl⟩
  refine OpsJ.normA ?_
  repeat' (first
    | refine W1 ?_ | refine Wc ?_ | refine W2c ?_ ?_ | refine Wg ?_ | refine W2 ?_ ?_ | exact Wdead | refine Wlive (fun hb => ?_) | intro _ _ _ _ _ _ _ _ | refine We ?_ | refine Wx ?_ | refine Wt ?_ | refine Wm ?_ | refine W2m ?_ ?_ | refine Wl ?_
    | fail)
  refine WPJ.truths (b := H.length + 2) rfl hV (hm.ext extA) getA (fun k H2 g2 => k = 0 ∧ H2 = H ++ [.row (hcells m s1 s2 s3) 1 true, .row [.bool false] 1 true, .row (hcells m s1 s2 s3) 1 true] ∧ g2 = g)
    (fun c H2 g2 => c = .ret ∧ (truthsL m).isEmpty = false ∧ H2 = H ++ [.row (hcells m s1 s2 s3) 1 true, .row [.bool true] 1 true, .row (hcells m s1 s2 s3) 1 true] ∧ g2 = g) ⟨rfl, rfl, rfl⟩ ?_ ?_ ?_ ?_ ?_
  · rintro k H2 g2 ⟨rfl, rfl, rfl⟩
    exact Kept.refl _ _
  · rintro c H2 g2 ⟨rfl, _, rfl, rfl⟩
    have := Kept.set (o := .row [.bool true] 1 true) (Kept.refl (shH (H.length + 2) s1 s2 s3) (H ++ [.row (hcells m s1 s2 s3) 1 true, .row [.bool false] 1 true, .row (hcells m s1 s2 s3) 1 true])) (shH_not hm (j := H.length + 1) (by omega) (by omega)) rfl
    simpa [set_new] using this
  · rintro k es Hc gc hes ⟨rfl, rfl, rfl⟩
    repeat' (first
      | refine W1 ?_ | refine Wc ?_ | refine W2c ?_ ?_ | refine Wg ?_ | refine W2 ?_ ?_ | exact Wdead | refine Wlive (fun hb => ?_) | intro _ _ _ _ _ _ _ _ | refine We ?_ | refine Wx ?_ | refine Wt ?_ | refine Wm ?_ | refine W2m ?_ ?_ | refine Wl ?_
      | fail)
    refine ⟨rfl, ?_, rfl, rfl⟩
    cases h : truthsL m with
    | nil => rw [h] at hes; simp at hes
    | cons => rfl
  · rintro Hc gc ⟨h, rfl, rfl⟩
    repeat' (first
      | refine W1 ?_ | refine Wc ?_ | refine W2c ?_ ?_ | refine Wg ?_ | refine W2 ?_ ?_ | exact Wdead | refine Wlive (fun hb => ?_) | intro _ _ _ _ _ _ _ _ | refine We ?_ | refine Wx ?_ | refine Wt ?_ | refine Wm ?_ | refine W2m ?_ ?_ | refine Wl ?_
      | fail)
    exact ⟨by simp [hasS, List.length_eq_zero_iff.1 h], rfl, rfl⟩
  · rintro c Hc gc ⟨rfl, h, rfl, rfl⟩
    repeat' (first
      | refine W1 ?_ | refine Wc ?_ | refine W2c ?_ ?_ | refine Wg ?_ | refine W2 ?_ ?_ | exact Wdead | refine Wlive (fun hb => ?_) | intro _ _ _ _ _ _ _ _ | refine We ?_ | refine Wx ?_ | refine Wt ?_ | refine Wm ?_ | refine W2m ?_ ?_ | refine Wl ?_
      | fail)
    exact ⟨by simp [hasS, h], rfl, rfl⟩
end Go.Proofs.Ytehobnpoeodhkaa

namespace Go.Proofs.Ytehobnpoeodhkaa
open Go Go.Abs Go.Proofs
set_option maxHeartbeats 400000
attribute [local irreducible] CallJ OpsJ WPJ CallV MonoJ

def verdictS (l : List (List Int)) (p : List Int → Bool) : Int := if l.all p then 1 else if l.any p then 3 else 2
theorem all_step {α : Type} (p : α → Bool) {l : List α} {k : Nat} {x : α} (h : l[k]? = some x) : (l.take (k + 1)).all p = ((l.take k).all p && p x) := by
  obtain ⟨hlt, rfl⟩ := List.getElem?_eq_some_iff.1 h
  rw [List.take_succ_eq_append_getElem hlt, List.all_append]; simp
theorem any_step {α : Type} (p : α → Bool) {l : List α} {k : Nat} {x : α} (h : l[k]? = some x) : (l.take (k + 1)).any p = ((l.take k).any p || p x) := by
  obtain ⟨hlt, rfl⟩ := List.getElem?_eq_some_iff.1 h
  rw [List.take_succ_eq_append_getElem hlt, List.any_append]; simp

theorem verdict_spec {γ : Type} (E : Env γ) (g : γ) (H : AHeap) (m : HouseM) (s1 s2 s3 : Value) (hm : HouseIs H m s1 s2 s3) (hV : Valid m) (ff : Fn) (fx fc : List Value) (p : List Int → Bool)
    (hf : ∀ es, es ∈ truthsL m → ∀ H', Ext H H' → CallV Try.prog E (.func ff ⟨fx⟩ ⟨fc⟩) [wval m s1 s2 s3 es] (fun v H2 g' => v = .bool (p es) ∧ H2 = H' ∧ g' = g) H' g) :
    CallJ Try.prog E 95 [hv m s1 s2 s3, .func ff ⟨fx⟩ ⟨fc⟩] (fun v H' g' => v = .int .i64 (verdictS (truthsL m) p) ∧ H' = H ∧ g' = g) H g := by
  have hok := hm.cells
  refine CallJ.tidy ?_
  unfold hv
  refine CallJ.enter Try.func95 rfl (by simp only [Try.ntmps95, List.length_cons, List.length_nil, Nat.zero_add, Nat.reduceAdd, Nat.reduceSub, List.replicate_succ, List.replicate_zero, List.cons_append, List.nil_append]; rfl) ?_
  repeat' (first
    | (refine is_ucall ?_; first
      | refine st_callVP (h := hf es (List.mem_of_getElem? hes) _ extA) (k := ?_)
      | fail)
    | refine W1 ?_ | refine Wc ?_ | refine W2c ?_ ?_ | refine Wg ?_ | refine W2 ?_ ?_ | exact Wdead | refine Wlive (fun hb => ?_) | intro _ _ _ _ _ _ _ _ | refine We ?_ | refine Wx ?_ | refine Wt ?_ | refine Wm ?_ | refine W2m ?_ ?_ | refine Wl ?_
    | fail)
  refine st_call rfl (truths_spec E g _ m s1 s2 s3 hok) ?_
  rintro _ _ g ⟨rfl, rfl, rfl⟩
  refine OpsJ.normA ?_
  repeat' (first
    | (refine is_ucall ?_; first
      | refine st_callVP (h := hf es (List.mem_of_getElem? hes) _ extA) (k := ?_)
      | fail)
    | refine W1 ?_ | refine Wc ?_ | refine W2c ?_ ?_ | refine Wg ?_ | refine W2 ?_ ?_ | exact Wdead | refine Wlive (fun hb => ?_) | intro _ _ _ _ _ _ _ _ | refine We ?_ | refine Wx ?_ | refine Wt ?_ | refine Wm ?_ | refine W2m ?_ ?_ | refine Wl ?_
    | fail)
  refine WPJ.truths (b := H.length + 4) rfl hV (hm.ext extA) getA (fun k H2 g2 => g2 = g ∧ Kept (shH (H.length + 4) s1 s2 s3) (H ++ [.row (hcells m s1 s2 s3) 1 true, .row [.func ff ⟨fx⟩ ⟨fc⟩] 1 true, .row [.bool true] 1 true, .row [.bool false] 1 true, .row (hcells m s1 s2 s3) 1 true]) H2 ∧ Ext H H2 ∧ H2[H.length + 1]? = some (.row [.func ff ⟨fx⟩ ⟨fc⟩] 1 true) ∧ H2[H.length + 2]? = some (.row [.bool (((truthsL m).take k).all p)] 1 true) ∧ H2[H.length + 3]? = some (.row [.bool (((truthsL m).take k).any p)] 1 true) ∧ H.length + 4 < H2.length)
    (fun c H2 g2 => False) ⟨rfl, Kept.refl _ _, extA, getA, getA, getA, by simp⟩ (fun k H2 g2 h => h.2.1) (fun c H2 g2 h => h.elim) ?_ ?_ (fun _ _ _ h => h.elim)
  · rintro k es Hc gc hes ⟨rfl, hk, he, hb1, hb2, hb3, hlen⟩
    have h1 := all_step p hes
    have h2 := any_step p hes
    have hwl := wv_len m s1 s2 s3 es (staysS es m.clips) (hV.sound es ((List.mem_filter.1 (List.mem_of_getElem? hes)).1)).1 (staysS_len _ _)
    have hwt := wv_take m s1 s2 s3 es (staysS es m.clips) (hV.sound es ((List.mem_filter.1 (List.mem_of_getElem? hes)).1)).1 (staysS_len _ _)
    have hwo := wv_ok m s1 s2 s3 es (staysS es m.clips) hok
    generalize (List.take k (truthsL m)).all p = a at *
    generalize (List.take k (truthsL m)).any p = c at *
    simp only [List.set_cons_zero, List.set_cons_succ]
    repeat' (first
      | (refine is_ucall ?_; first
        | refine st_callVP (h := hf es (List.mem_of_getElem? hes) _ extA) (k := ?_)
        | fail)
      | refine W1 ?_ | refine Wc ?_ | refine W2c ?_ ?_ | refine Wg ?_ | refine W2 ?_ ?_ | exact Wdead | refine Wlive (fun hb => ?_) | intro _ _ _ _ _ _ _ _ | refine We ?_ | refine Wx ?_ | refine Wt ?_ | refine Wm ?_ | refine W2m ?_ ?_ | refine Wl ?_
      | fail)
    all_goals refine ⟨rfl, (by ((repeat' (first | assumption | exact Kept.refl _ _ | refine Kept.set ?_ (shH_not (by assumption) (by first | omega | (simp; omega)) (by first | omega | (simp; omega))) rfl | refine Kept.app ?_ (by intro o ho; simp at ho; first | (subst ho; exact .inr rfl) | (rcases ho with rfl | rfl <;> exact .inr rfl)))); done)), extA, getA, ?_, ?_, by simp; omega⟩
    all_goals first
      | (rw [h1, show a = true by assumption, Bool.true_and]; exact getA)
      | (rw [h1, show a = false by assumption, Bool.false_and]; exact getA)
      | (rw [h2, show c = true by assumption, Bool.true_or]; exact getA)
      | (rw [h2, show c = false by assumption, Bool.false_or]; exact getA)
  · rintro Hc gc ⟨rfl, hk, he, hb1, hb2, hb3, hlen⟩
    rw [List.take_length] at hb2 hb3
    repeat' (first
      | (refine is_ucall ?_; first
        | refine st_callVP (h := hf es (List.mem_of_getElem? hes) _ extA) (k := ?_)
        | fail)
      | refine W1 ?_ | refine Wc ?_ | refine W2c ?_ ?_ | refine Wg ?_ | refine W2 ?_ ?_ | exact Wdead | refine Wlive (fun hb => ?_) | intro _ _ _ _ _ _ _ _ | refine We ?_ | refine Wx ?_ | refine Wt ?_ | refine Wm ?_ | refine W2m ?_ ?_ | refine Wl ?_
      | fail)
    all_goals refine ⟨?_, rfl, rfl⟩
    all_goals (simp only [verdictS]; simp [*])
end Go.Proofs.Ytehobnpoeodhkaa

namespace Go.Proofs.Ytehobnpoeodhkaa
open Go Go.Abs Go.Proofs
set_option maxHeartbeats 400000
attribute [local irreducible] CallJ OpsJ WPJ CallV MonoJ

theorem min_if (a b : Int) : (if b < a then b else a) = min a b := by omega
theorem max_if (a b : Int) : (if b > a then b else a) = max a b := by omega
theorem minimum_spec {γ : Type} (E : Env γ) (g : γ) (H : AHeap) (a : Int) (sv : Value) (xs : List Int) (hr : RdS H sv 1 (xs.map fun x => [.int .i64 x])) (hn : xs.length ≤ 1000000) :
    CallJ Try.prog E 111 [.int .i64 a, sv] (fun v H' g' => v = .int .i64 (xs.foldl min a) ∧ H' = H ∧ g' = g) H g := by
  refine CallJ.tidy ?_
  refine CallJ.enter Try.func111 rfl (by simp only [Try.ntmps111, List.length_cons, List.length_nil, Nat.zero_add, Nat.reduceAdd, Nat.reduceSub, List.replicate_succ, List.replicate_zero, List.cons_append, List.nil_append]; rfl) ?_
  repeat' (first
    | refine W1 ?_ | refine Wc ?_ | refine W2c ?_ ?_ | refine Wg ?_ | refine W2 ?_ ?_ | exact Wdead | refine Wlive (fun hb => ?_) | intro _ _ _ _ _ _ _ _ | refine We ?_ | refine Wx ?_ | refine Wt ?_ | refine Wm ?_ | refine W2m ?_ ?_ | refine Wl ?_
    | fail)
  refine WPJ.loopT xs.length [10, 11, 12, 6, 13, 14, 15, 16] (fun j (x : Int) => [(9, .int .i64 j), (0, .int .i64 x)]) (fun j x H1 g1 => H1 = H ∧ g1 = g ∧ x = (xs.take j).foldl min a) 0 a (Nat.zero_le _)
    (by intro p hp; simp at hp; rcases hp with rfl | rfl <;> rfl) ⟨rfl, rfl, rfl⟩ ?_
  rintro j x H1 g1 hj ⟨rfl, rfl, hx⟩ hl
  simp only [updT, maskT, List.set_cons_zero, List.set_cons_succ]
  rcases Nat.lt_or_ge j xs.length with hlt | hge
  · have hel : (xs.map fun x => [Value.int .i64 x])[j]? = some [.int .i64 xs[j]] := by simp [hlt]
    repeat' (first
      | refine W1 ?_ | refine Wc ?_ | refine W2c ?_ ?_ | refine Wg ?_ | refine W2 ?_ ?_ | exact Wdead | refine Wlive (fun hb => ?_) | intro _ _ _ _ _ _ _ _ | refine We ?_ | refine Wx ?_ | refine Wt ?_ | refine Wm ?_ | refine W2m ?_ ?_ | refine Wl ?_
      | fail)
    refine ⟨_, hlt, (by repeat' (first | exact Weak.nil | refine Weak.wild ?_ | refine Weak.same ?_ | refine Weak.intEq (by first | omega | (simp; done) | (push_cast; omega)) ?_)), rfl, rfl, ?_⟩
    rw [List.take_succ_eq_append_getElem hlt, List.foldl_append, ← hx, min_if]; rfl
  · skip
    repeat' (first
      | refine W1 ?_ | refine Wc ?_ | refine W2c ?_ ?_ | refine Wg ?_ | refine W2 ?_ ?_ | exact Wdead | refine Wlive (fun hb => ?_) | intro _ _ _ _ _ _ _ _ | refine We ?_ | refine Wx ?_ | refine Wt ?_ | refine Wm ?_ | refine W2m ?_ ?_ | refine Wl ?_
      | fail)
    obtain rfl : j = xs.length := by omega
    rw [List.take_length] at hx
    exact ⟨by rw [hx], rfl, rfl⟩

def loS (l : List (List Int)) (q : List Int → Int) : Int := (l.map q).foldl min 9223372036854775807
def hiS (l : List (List Int)) (q : List Int → Int) : Int := (l.map q).foldl max (-9223372036854775808)
theorem lo_step {l : List (List Int)} (q : List Int → Int) {k : Nat} {x : List Int} (h : l[k]? = some x) : loS (l.take (k + 1)) q = min (loS (l.take k) q) (q x) := by
  obtain ⟨hlt, rfl⟩ := List.getElem?_eq_some_iff.1 h
  unfold loS
  rw [List.take_succ_eq_append_getElem hlt, List.map_append, List.foldl_append]; rfl
theorem hi_step {l : List (List Int)} (q : List Int → Int) {k : Nat} {x : List Int} (h : l[k]? = some x) : hiS (l.take (k + 1)) q = max (hiS (l.take k) q) (q x) := by
  obtain ⟨hlt, rfl⟩ := List.getElem?_eq_some_iff.1 h
  unfold hiS
  rw [List.take_succ_eq_append_getElem hlt, List.map_append, List.foldl_append]; rfl
theorem rd_at {H : AHeap} {i : Nat} {n : Int} {own : Bool} (hi : H[i]? = some (.row [.int .i64 n] 1 own)) : RdS H (.slice (some ⟨i, 0, none⟩) 1 1) 1 ([n].map fun x => [.int .i64 x]) :=
  ⟨by simp, .inl ⟨i, 0, 1, [.int .i64 n], 1, own, rfl, hi, by simp, by simp⟩⟩

theorem bounds_spec {γ : Type} (E : Env γ) (g : γ) (H : AHeap) (m : HouseM) (s1 s2 s3 : Value) (hm : HouseIs H m s1 s2 s3) (hV : Valid m) (ff : Fn) (fx fc : List Value) (t : Int) (q : List Int → Int)
    (hf : ∀ es, es ∈ truthsL m → ∀ H', Ext H H' → CallV Try.prog E (.func ff ⟨fx⟩ ⟨fc⟩) [wval m s1 s2 s3 es, .int .i64 t] (fun v H2 g' => v = .int .i64 (q es) ∧ H2 = H' ∧ g' = g) H' g) :
    CallJ Try.prog E 107 [.agg ⟨[.func ff ⟨fx⟩ ⟨fc⟩]⟩, hv m s1 s2 s3, .int .i64 t] (fun v H' g' => v = .agg ⟨[.int .i64 (loS (truthsL m) q), .int .i64 (hiS (truthsL m) q)]⟩ ∧ H' = H ∧ g' = g) H g := by
  have hok := hm.cells
  refine CallJ.tidy ?_
  unfold hv
  refine CallJ.enter Try.func107 rfl (by simp only [Try.ntmps107, List.length_cons, List.length_nil, Nat.zero_add, Nat.reduceAdd, Nat.reduceSub, List.replicate_succ, List.replicate_zero, List.cons_append, List.nil_append]; rfl) ?_
  repeat' (first
    | (refine is_ucall ?_; first
      | refine st_callP (h := minimum_spec _ _ _ _ _ [q es] (rd_at getA) (by simp)) (k := ?_)
      | refine st_callVP (h := hf es (List.mem_of_getElem? hes) _ extA) (k := ?_)
      | fail)
    | (refine is_umcall ?_; first
      | refine mj_callP (h := minimum_spec _ _ _ _ _ [q es] (rd_at getA) (by simp)) (k := ?_)
      | fail)
    | refine W1 ?_ | refine Wc ?_ | refine W2c ?_ ?_ | refine Wg ?_ | refine W2 ?_ ?_ | exact Wdead | refine Wlive (fun hb => ?_) | intro _ _ _ _ _ _ _ _ | refine We ?_ | refine Wx ?_ | refine Wt ?_ | refine Wm ?_ | refine W2m ?_ ?_ | refine Wl ?_
    | fail)
  refine st_call rfl (truths_spec E g _ m s1 s2 s3 hok) ?_
  rintro _ _ g ⟨rfl, rfl, rfl⟩
  refine OpsJ.normA ?_
  repeat' (first
    | (refine is_ucall ?_; first
      | refine st_callP (h := minimum_spec _ _ _ _ _ [q es] (rd_at getA) (by simp)) (k := ?_)
      | refine st_callVP (h := hf es (List.mem_of_getElem? hes) _ extA) (k := ?_)
      | fail)
    | (refine is_umcall ?_; first
      | refine mj_callP (h := minimum_spec _ _ _ _ _ [q es] (rd_at getA) (by simp)) (k := ?_)
      | fail)
    | refine W1 ?_ | refine Wc ?_ | refine W2c ?_ ?_ | refine Wg ?_ | refine W2 ?_ ?_ | exact Wdead | refine Wlive (fun hb => ?_) | intro _ _ _ _ _ _ _ _ | refine We ?_ | refine Wx ?_ | refine Wt ?_ | refine Wm ?_ | refine W2m ?_ ?_ | refine Wl ?_
    | fail)
  refine WPJ.truths (b := H.length + 5) rfl hV (hm.ext extA) getA (fun k H2 g2 => g2 = g ∧ Kept (shH (H.length + 5) s1 s2 s3) (H ++ [.row [.func ff ⟨fx⟩ ⟨fc⟩] 1 true, .row (hcells m s1 s2 s3) 1 true, .row [.int .i64 t] 1 true, .row [.int .i64 0, .int .i64 0] 1 true, .row [.int .i64 9223372036854775807, .int .i64 (-9223372036854775808)] 1 true, .row (hcells m s1 s2 s3) 1 true]) H2 ∧ Ext H H2 ∧ H2[H.length]? = some (.row [.func ff ⟨fx⟩ ⟨fc⟩] 1 true) ∧ H2[H.length + 2]? = some (.row [.int .i64 t] 1 true) ∧ H2[H.length + 3]? = some (.row [.int .i64 0, .int .i64 0] 1 true) ∧
      H2[H.length + 4]? = some (.row [.int .i64 (loS ((truthsL m).take k) q), .int .i64 (hiS ((truthsL m).take k) q)] 1 true) ∧ H.length + 5 < H2.length)
    (fun c H2 g2 => False) ⟨rfl, Kept.refl _ _, extA, getA, getA, getA, getA, by simp⟩ (fun k H2 g2 h => h.2.1) (fun c H2 g2 h => h.elim) ?_ ?_ (fun _ _ _ h => h.elim)
  · rintro k es Hc gc hes ⟨rfl, hk, he, hb0, hb2, hb3, hb4, hlen⟩
    have h1 := lo_step q hes
    have h2 := hi_step q hes
    have hwl := wv_len m s1 s2 s3 es (staysS es m.clips) (hV.sound es (List.mem_filter.1 (List.mem_of_getElem? hes)).1).1 (staysS_len _ _)
    have hwt := wv_take m s1 s2 s3 es (staysS es m.clips) (hV.sound es (List.mem_filter.1 (List.mem_of_getElem? hes)).1).1 (staysS_len _ _)
    have hwo := wv_ok m s1 s2 s3 es (staysS es m.clips) hok
    generalize loS (List.take k (truthsL m)) q = a at *
    generalize hiS (List.take k (truthsL m)) q = c at *
    simp only [List.set_cons_zero, List.set_cons_succ]
    repeat' (first
      | (refine is_ucall ?_; first
        | refine st_callP (h := minimum_spec _ _ _ _ _ [q es] (rd_at getA) (by simp)) (k := ?_)
        | refine st_callVP (h := hf es (List.mem_of_getElem? hes) _ extA) (k := ?_)
        | fail)
      | (refine is_umcall ?_; first
        | refine mj_callP (h := minimum_spec _ _ _ _ _ [q es] (rd_at getA) (by simp)) (k := ?_)
        | fail)
      | refine W1 ?_ | refine Wc ?_ | refine W2c ?_ ?_ | refine Wg ?_ | refine W2 ?_ ?_ | exact Wdead | refine Wlive (fun hb => ?_) | intro _ _ _ _ _ _ _ _ | refine We ?_ | refine Wx ?_ | refine Wt ?_ | refine Wm ?_ | refine W2m ?_ ?_ | refine Wl ?_
      | fail)
    refine WPJ.draw 10 mixed (by kernel_rfl) (by kernel_rfl) (by kernel_rfl) (by decide) ?_
    refine MonoJ.normA ?_
    repeat' (first
      | (refine is_ucall ?_; first
        | refine st_callP (h := minimum_spec _ _ _ _ _ [q es] (rd_at getA) (by simp)) (k := ?_)
        | refine st_callVP (h := hf es (List.mem_of_getElem? hes) _ extA) (k := ?_)
        | fail)
      | (refine is_umcall ?_; first
        | refine mj_callP (h := minimum_spec _ _ _ _ _ [q es] (rd_at getA) (by simp)) (k := ?_)
        | fail)
      | refine W1 ?_ | refine Wc ?_ | refine W2c ?_ ?_ | refine Wg ?_ | refine W2 ?_ ?_ | exact Wdead | refine Wlive (fun hb => ?_) | intro _ _ _ _ _ _ _ _ | refine We ?_ | refine Wx ?_ | refine Wt ?_ | refine Wm ?_ | refine W2m ?_ ?_ | refine Wl ?_
      | fail)
    refine ⟨rfl, (by ((repeat' (first | assumption | exact Kept.refl _ _ | refine Kept.set ?_ (shH_not (by assumption) (by first | omega | (simp; omega)) (by first | omega | (simp; omega))) rfl | refine Kept.app ?_ (by intro o ho; simp at ho; first | (subst ho; exact .inr rfl) | (rcases ho with rfl | rfl <;> exact .inr rfl)))); done)), extA, getA, getA, getA, ?_, by simp; omega⟩
    rw [h1, h2, ← max_if]
    exact getA
  · rintro Hc gc ⟨rfl, hk, he, hb0, hb2, hb3, hb4, hlen⟩
    rw [List.take_length] at hb4
    repeat' (first
      | (refine is_ucall ?_; first
        | refine st_callP (h := minimum_spec _ _ _ _ _ [q es] (rd_at getA) (by simp)) (k := ?_)
        | refine st_callVP (h := hf es (List.mem_of_getElem? hes) _ extA) (k := ?_)
        | fail)
      | (refine is_umcall ?_; first
        | refine mj_callP (h := minimum_spec _ _ _ _ _ [q es] (rd_at getA) (by simp)) (k := ?_)
        | fail)
      | refine W1 ?_ | refine Wc ?_ | refine W2c ?_ ?_ | refine Wg ?_ | refine W2 ?_ ?_ | exact Wdead | refine Wlive (fun hb => ?_) | intro _ _ _ _ _ _ _ _ | refine We ?_ | refine Wx ?_ | refine Wt ?_ | refine Wm ?_ | refine W2m ?_ ?_ | refine Wl ?_
      | fail)
    exact ⟨rfl, rfl, rfl⟩
end Go.Proofs.Ytehobnpoeodhkaa

namespace Go.Proofs.Ytehobnpoeodhkaa
open Go Go.Abs Go.Proofs
set_option maxHeartbeats 400000
attribute [local irreducible] CallJ OpsJ WPJ CallV MonoJ

theorem wv_drop (m : HouseM) (s1 s2 s3 : Value) (es : List Int) (ss : List StayM) (h1 : es.length = 4) (k : Nat) : (wv m s1 s2 s3 es ss).drop (9 + k) = (flatS ss).drop k := by
  unfold wv
  rw [List.drop_append, List.drop_append]
  have e1 : List.drop (9 + k) (hcells m s1 s2 s3) = [] := List.drop_eq_nil_iff.2 (by simp; omega)
  have e2 : List.drop (9 + k - (hcells m s1 s2 s3).length) (encE es) = [] := List.drop_eq_nil_iff.2 (by simp [encE, h1]; omega)
  rw [e1, e2, List.nil_append, List.nil_append]
  congr 1
  simp [encE, h1]; omega
theorem flatS_piece : ∀ (ss : List StayM) (t : Nat) (s : StayM), ss[t]? = some s → ((flatS ss).drop (t * 3)).take 3 = encS s
  | [], t, s, h => by simp at h
  | x :: ss, 0, s, h => by simp at h; subst h; simp [flatS, encS]
  | x :: ss, t + 1, s, h => by
    have := flatS_piece ss t s (by simpa using h)
    have e : (t + 1) * 3 = t * 3 + 3 := by omega
    rw [e]
    simpa [flatS, encS] using this
theorem WorkIs.ext {H H' : AHeap} {w : WorkM} {ws : List Value} {s1 s2 s3 : Value} (h : WorkIs H w ws s1 s2 s3) (he : Ext H H') : WorkIs H' w ws s1 s2 s3 := ⟨h.house.ext he, h.len, h.ok, h.head, h.ne, h.ns, h.err, h.stay⟩
theorem work_is {H : AHeap} {m : HouseM} {s1 s2 s3 : Value} (hm : HouseIs H m s1 s2 s3) {es : List Int} (h4 : es.length = 4) : WorkIs H ⟨m, es, staysS es m.clips⟩ (wv m s1 s2 s3 es (staysS es m.clips)) s1 s2 s3 := by
  have hl := staysS_len es m.clips
  refine ⟨hm, wv_len _ _ _ _ _ _ h4 hl, wv_ok _ _ _ _ _ _ hm.cells, ?_, h4, hl, ?_, ?_⟩
  · unfold wv; rfl
  · intro c e he
    unfold wv
    rw [List.getElem?_append_right (by simp), List.getElem?_append_left (by simp [encE]; have := (List.getElem?_eq_some_iff.1 he).1; omega)]
    have : 5 + c - (hcells m s1 s2 s3).length = c := by simp
    rw [this]
    simp [encE, he]
  · intro t s hs
    rw [wv_drop _ _ _ _ _ _ h4]
    exact flatS_piece _ t s hs

section
variable {γ : Type} (E : Env γ) (g : γ) (H : AHeap)
def checkT (m : HouseM) : Int := if checkS m = 0 then (if hasS m then 0 else 11) else checkS m
theorem checkTruth_spec (m : HouseM) (s1 s2 s3 : Value) (hm : HouseIs H m s1 s2 s3) (hV : checkS m = 0 → Valid m) : CallJ Try.prog E 89 [hv m s1 s2 s3] (fun v H' g' => v = .int .i64 (checkT m) ∧ H' = H ∧ g' = g) H g := by
  have hok := hm.cells
  refine CallJ.tidy ?_
  unfold hv
  refine CallJ.enter Try.func89 rfl (by simp only [Try.ntmps89, List.length_cons, List.length_nil, Nat.zero_add, Nat.reduceSub, List.replicate_succ, List.replicate_zero, List.cons_append, List.nil_append]; rfl) ?_
  repeat' (first
    | (refine is_ucall ?_; first
      | refine st_callP (h := CheckHouse_spec _ _ _ m s1 s2 s3 (hm.ext extA)) (k := ?_)
      | refine st_callP (h := hasTruth_spec _ _ _ m s1 s2 s3 (hm.ext extA) (hV (by assumption))) (k := ?_)
      | fail)
    | (refine is_umcall ?_; first
      | refine mj_callP (h := CheckHouse_spec _ _ _ m s1 s2 s3 (hm.ext extA)) (k := ?_)
      | refine mj_callP (h := hasTruth_spec _ _ _ m s1 s2 s3 (hm.ext extA) (hV (by assumption))) (k := ?_)
      | fail)
    | refine W1 ?_ | refine Wc ?_ | refine W2c ?_ ?_ | refine Wg ?_ | refine W2 ?_ ?_ | exact Wdead | refine Wlive (fun hb => ?_) | intro _ _ _ _ _ _ _ _ | refine We ?_ | refine Wx ?_ | refine Wt ?_ | refine Wm ?_ | refine W2m ?_ ?_ | refine Wl ?_
    | fail)
  all_goals refine ⟨?_, rfl, rfl⟩
  all_goals (simp only [checkT]; simp [*])

theorem ticket_get {H' : AHeap} {m : HouseM} {s1 s2 s3 : Value} (_hm : HouseIs H' m s1 s2 s3) {t : Int} {r : Int × Int} (h : m.tickets[t.toNat]? = some r) : (m.tickets.map encR)[t.toNat]? = some (encR r) := by simp [h]
def clashP (ta tb : Int × Int) (a b : StayM) : Bool := if a.clips = 0 ∨ b.clips = 0 ∨ ta.1 ≠ tb.1 then false else decide (a.came < b.went) && decide (b.came < a.went)
theorem clash_spec (w : WorkM) (ws : List Value) (s1 s2 s3 : Value) (t u : Int) (a b : StayM) (ta tb : Int × Int) (hw : WorkIs H w ws s1 s2 s3) (ht0 : 0 ≤ t) (ht1 : t < 6) (hu0 : 0 ≤ u) (hu1 : u < 6) (hst : w.stays[t.toNat]? = some a) (hsu : w.stays[u.toNat]? = some b)
   (hta : w.house.tickets[t.toNat]? = some ta) (htb : w.house.tickets[u.toNat]? = some tb) :
   CallJ Try.prog E 103 [.agg ⟨ws⟩, .int .i64 t, .int .i64 u] (fun v H' g' => v = .bool (clashP ta tb a b) ∧ H' = H ∧ g' = g) H g := by
  have hok := hw.ok
  have hl := hw.len
  obtain ⟨_, _, _, h3, _⟩ := hw.at
  have h3' : ws[0 + 3]? = some s2 := h3
  have hela := ticket_get hw.house hta
  have helb := ticket_get hw.house htb
  have hr := hw.house.tickets
  have hsa : (ws.drop (0 + 9 + t.toNat * 3)).take 3 = encS a := by have := hw.stay _ _ hst; simpa using this
  have hsb : (ws.drop (0 + 9 + u.toNat * 3)).take 3 = encS b := by have := hw.stay _ _ hsu; simpa using this
  obtain ⟨ac, ai, ao⟩ := a
  obtain ⟨bc, bi, bo⟩ := b
  simp only [encS] at hsa hsb
  refine CallJ.tidy ?_
  refine CallJ.enter Try.func103 rfl (by simp only [Try.ntmps103, List.length_cons, List.length_nil, Nat.zero_add, Nat.reduceAdd, Nat.reduceSub, List.replicate_succ, List.replicate_zero, List.cons_append, List.nil_append]; rfl) ?_
  repeat' (first
    | (refine is_ucall ?_; first
      | refine st_callP (h := CheckHouse_spec _ _ _ m s1 s2 s3 (hm.ext extA)) (k := ?_)
      | refine st_callP (h := hasTruth_spec _ _ _ m s1 s2 s3 (hm.ext extA) (hV (by assumption))) (k := ?_)
      | fail)
    | (refine is_umcall ?_; first
      | refine mj_callP (h := CheckHouse_spec _ _ _ m s1 s2 s3 (hm.ext extA)) (k := ?_)
      | refine mj_callP (h := hasTruth_spec _ _ _ m s1 s2 s3 (hm.ext extA) (hV (by assumption))) (k := ?_)
      | fail)
    | refine W1 ?_ | refine Wc ?_ | refine W2c ?_ ?_ | refine Wg ?_ | refine W2 ?_ ?_ | exact Wdead | refine Wlive (fun hb => ?_) | intro _ _ _ _ _ _ _ _ | refine We ?_ | refine Wx ?_ | refine Wt ?_ | refine Wm ?_ | refine W2m ?_ ?_ | refine Wl ?_
    | fail)
  refine WPJ.drawS 11 10 (H.length + 1) (.row [.int .i64 0, .int .i64 0, .int .i64 0] 1 true) (.row [.int .i64 ac, .int .i64 ai, .int .i64 ao] 1 true) mixed (by kernel_rfl) (by kernel_rfl) (by kernel_rfl) (by decide) (by decide) rfl (by first | rfl | (simp [flatRow, flat1]; done) | assumption) (by first | exact .inl rfl | exact .inr (by first | omega | (simp; omega))) ?_
  refine SpecJ.normA ?_
  refine SpecJ.seg 4 (by kernel_rfl) (by decide) ?_
  repeat' (first
    | (refine is_ucall ?_; first
      | refine st_callP (h := CheckHouse_spec _ _ _ m s1 s2 s3 (hm.ext extA)) (k := ?_)
      | refine st_callP (h := hasTruth_spec _ _ _ m s1 s2 s3 (hm.ext extA) (hV (by assumption))) (k := ?_)
      | fail)
    | (refine is_umcall ?_; first
      | refine mj_callP (h := CheckHouse_spec _ _ _ m s1 s2 s3 (hm.ext extA)) (k := ?_)
      | refine mj_callP (h := hasTruth_spec _ _ _ m s1 s2 s3 (hm.ext extA) (hV (by assumption))) (k := ?_)
      | fail)
    | refine W1 ?_ | refine Wc ?_ | refine W2c ?_ ?_ | refine Wg ?_ | refine W2 ?_ ?_ | exact Wdead | refine Wlive (fun hb => ?_) | intro _ _ _ _ _ _ _ _ | refine We ?_ | refine Wx ?_ | refine Wt ?_ | refine Wm ?_ | refine W2m ?_ ?_ | refine Wl ?_
    | fail)
  refine sj_move rfl ?_
  refine SpecJ.normA ?_
  refine sj_fieldAddr rfl rfl ?_
  refine SpecJ.normA ?_
  refine sj_indexA rfl rfl rfl ⟨by omega, by omega⟩ ?_
  refine SpecJ.normA ?_
  refine sj_loadN rfl rfl rfl getA (by omega) (by omega) hsb ?_
  refine SpecJ.normA ?_
  refine SpecJ.seg 2 (by kernel_rfl) (by decide) ?_
  repeat' (first
    | (refine is_ucall ?_; first
      | refine st_callP (h := CheckHouse_spec _ _ _ m s1 s2 s3 (hm.ext extA)) (k := ?_)
      | refine st_callP (h := hasTruth_spec _ _ _ m s1 s2 s3 (hm.ext extA) (hV (by assumption))) (k := ?_)
      | fail)
    | (refine is_umcall ?_; first
      | refine mj_callP (h := CheckHouse_spec _ _ _ m s1 s2 s3 (hm.ext extA)) (k := ?_)
      | refine mj_callP (h := hasTruth_spec _ _ _ m s1 s2 s3 (hm.ext extA) (hV (by assumption))) (k := ?_)
      | fail)
    | refine W1 ?_ | refine Wc ?_ | refine W2c ?_ ?_ | refine Wg ?_ | refine W2 ?_ ?_ | exact Wdead | refine Wlive (fun hb => ?_) | intro _ _ _ _ _ _ _ _ | refine We ?_ | refine Wx ?_ | refine Wt ?_ | refine Wm ?_ | refine W2m ?_ ?_ | refine Wl ?_
    | fail)
  refine SpecJ.spec (n := 0) undef [] getA rfl rfl ?_ ?_
  · simp only [List.append_nil]
    exact runs_store TyC.ty rfl rfl rfl rfl rfl getA (by decide) rfl
  refine SpecJ.normA ?_
  refine SpecJ.done ?_
  repeat' (first
    | (refine is_ucall ?_; first
      | refine st_callP (h := CheckHouse_spec _ _ _ m s1 s2 s3 (hm.ext extA)) (k := ?_)
      | refine st_callP (h := hasTruth_spec _ _ _ m s1 s2 s3 (hm.ext extA) (hV (by assumption))) (k := ?_)
      | fail)
    | (refine is_umcall ?_; first
      | refine mj_callP (h := CheckHouse_spec _ _ _ m s1 s2 s3 (hm.ext extA)) (k := ?_)
      | refine mj_callP (h := hasTruth_spec _ _ _ m s1 s2 s3 (hm.ext extA) (hV (by assumption))) (k := ?_)
      | fail)
    | refine W1 ?_ | refine Wc ?_ | refine W2c ?_ ?_ | refine Wg ?_ | refine W2 ?_ ?_ | exact Wdead | refine Wlive (fun hb => ?_) | intro _ _ _ _ _ _ _ _ | refine We ?_ | refine Wx ?_ | refine Wt ?_ | refine Wm ?_ | refine W2m ?_ ?_ | refine Wl ?_
    | fail)
  have q0 : ws[0 + 0 + 3]? = some s2 := h3
  refine WPJ.draw 23 mixed (by kernel_rfl) (by kernel_rfl) (by kernel_rfl) (by decide) ?_
  refine MonoJ.normA ?_
  repeat' (first
    | (refine is_ucall ?_; first
      | refine st_callP (h := CheckHouse_spec _ _ _ m s1 s2 s3 (hm.ext extA)) (k := ?_)
      | refine st_callP (h := hasTruth_spec _ _ _ m s1 s2 s3 (hm.ext extA) (hV (by assumption))) (k := ?_)
      | fail)
    | (refine is_umcall ?_; first
      | refine mj_callP (h := CheckHouse_spec _ _ _ m s1 s2 s3 (hm.ext extA)) (k := ?_)
      | refine mj_callP (h := hasTruth_spec _ _ _ m s1 s2 s3 (hm.ext extA) (hV (by assumption))) (k := ?_)
      | fail)
    | refine W1 ?_ | refine Wc ?_ | refine W2c ?_ ?_ | refine Wg ?_ | refine W2 ?_ ?_ | exact Wdead | refine Wlive (fun hb => ?_) | intro _ _ _ _ _ _ _ _ | refine We ?_ | refine Wx ?_ | refine Wt ?_ | refine Wm ?_ | refine W2m ?_ ?_ | refine Wl ?_
    | fail)
  all_goals refine ⟨?_, rfl, rfl⟩
  all_goals show Value.bool _ = Value.bool _
  all_goals congr 1
  all_goals unfold clashP
  all_goals first | (simp [*]; done) | (simp only [*]; simp; done) | (simp [*]; omega)
end

section
variable {γ : Type} (E : Env γ) (g : γ) (H : AHeap)
/-- where a tub is free from -/
def freeS (ts : List (Int × Int)) (ss : List StayM) (tub : Int) (k : Nat) : Int := ((ts.zip ss).take k).foldl (fun n x => if x.1.1 = tub ∧ x.2.clips = 2 then max n x.2.went else n) 0
theorem freeS_step {ts : List (Int × Int)} {ss : List StayM} {tub : Int} {k : Nat} {t : Int × Int} {s : StayM} (h1 : ts[k]? = some t) (h2 : ss[k]? = some s) : freeS ts ss tub (k + 1) = if t.1 = tub ∧ s.clips = 2 then max (freeS ts ss tub k) s.went else freeS ts ss tub k := by
  have hz : (ts.zip ss)[k]? = some (t, s) := by simp [List.getElem?_zip_eq_some, h1, h2]
  obtain ⟨hlt, he⟩ := List.getElem?_eq_some_iff.1 hz
  unfold freeS
  rw [List.take_succ_eq_append_getElem hlt, List.foldl_append, he]; rfl
theorem freeFrom_spec (w : WorkM) (ws : List Value) (s1 s2 s3 : Value) (tub : Int) (hw : WorkIs H w ws s1 s2 s3) (hn : w.house.tickets.length ≤ 6) :
   CallJ Try.prog E 106 [.agg ⟨ws⟩, .int .i64 tub] (fun v H' g' => v = .int .i64 (freeS w.house.tickets w.stays tub w.house.tickets.length) ∧ H' = H ∧ g' = g) H g := by
  have hok := hw.ok
  have hl := hw.len
  obtain ⟨_, _, _, h3, _⟩ := hw.at
  have h3' : ws[0 + 0 + 3]? = some s2 := h3
  have hr := hw.house.tickets
  have hwt : List.take 27 ws = ws := List.take_of_length_le (by omega)
  refine CallJ.tidy ?_
  refine CallJ.enter Try.func106 rfl (by simp only [Try.ntmps106, List.length_cons, List.length_nil, Nat.zero_add, Nat.reduceAdd, Nat.reduceSub, List.replicate_succ, List.replicate_zero, List.cons_append, List.nil_append]; rfl) ?_
  repeat' (first
    | (refine is_ucall ?_; first
      | refine st_callP (h := CheckHouse_spec _ _ _ m s1 s2 s3 (hm.ext extA)) (k := ?_)
      | refine st_callP (h := hasTruth_spec _ _ _ m s1 s2 s3 (hm.ext extA) (hV (by assumption))) (k := ?_)
      | fail)
    | (refine is_umcall ?_; first
      | refine mj_callP (h := CheckHouse_spec _ _ _ m s1 s2 s3 (hm.ext extA)) (k := ?_)
      | refine mj_callP (h := hasTruth_spec _ _ _ m s1 s2 s3 (hm.ext extA) (hV (by assumption))) (k := ?_)
      | fail)
    | refine W1 ?_ | refine Wc ?_ | refine W2c ?_ ?_ | refine Wg ?_ | refine W2 ?_ ?_ | exact Wdead | refine Wlive (fun hb => ?_) | intro _ _ _ _ _ _ _ _ | refine We ?_ | refine Wx ?_ | refine Wt ?_ | refine Wm ?_ | refine W2m ?_ ?_ | refine Wl ?_
    | fail)
  refine WPJ.loopT w.house.tickets.length [13, 14, 15, 16, 7, 6, 17, 18, 19, 20, 21, 22, 23, 24, 25, 26, 27, 28, 29, 30, 31, 32, 33, 34, 35, 36] (fun j (x : Int) => [(12, .int .i64 j), (5, .int .i64 x)])
    (fun j x H1 g1 => g1 = g ∧ Ext H H1 ∧ H1[H.length]? = some (.row ws 1 true) ∧ H.length < H1.length ∧ x = freeS w.house.tickets w.stays tub j) 0 0 (Nat.zero_le _)
    (by intro p hp; simp at hp; rcases hp with rfl | rfl <;> rfl) ⟨rfl, extA, getA, by simp, by simp [freeS]⟩ ?_
  rintro j x H1 g1 hj ⟨rfl, he, hb0, hlen, hx⟩ hl0
  simp only [updT, maskT, List.set_cons_zero, List.set_cons_succ]
  rcases Nat.lt_or_ge j w.house.tickets.length with hlt | hge
  · have hel : (w.house.tickets.map encR)[j]? = some (encR w.house.tickets[j]) := by simp [hlt]
    have hjs : j < w.stays.length := by rw [hw.ns]; omega
    have hst : w.stays[j]? = some w.stays[j] := by simp [hjs]
    have hstep := freeS_step (tub := tub) (by simp [hlt] : w.house.tickets[j]? = some w.house.tickets[j]) hst
    have hp := hw.stay _ _ hst
    have hp' : List.take 3 (List.drop (0 + 9 + (j : Int).toNat * 3) ws) = encS w.stays[j] := by simpa using hp
    generalize w.stays[j] = s at *
    generalize w.house.tickets[j] = t at *
    have p0 : ws[0 + 9 + (j : Int).toNat * 3 + 0]? = some (.int .i64 s.clips) := get_piece hp' rfl
    have p2 : ws[0 + 9 + (j : Int).toNat * 3 + 2]? = some (.int .i64 s.went) := get_piece hp' rfl
    repeat' (first
      | (refine is_ucall ?_; first
        | refine st_callP (h := CheckHouse_spec _ _ _ m s1 s2 s3 (hm.ext extA)) (k := ?_)
        | refine st_callP (h := hasTruth_spec _ _ _ m s1 s2 s3 (hm.ext extA) (hV (by assumption))) (k := ?_)
        | fail)
      | (refine is_umcall ?_; first
        | refine mj_callP (h := CheckHouse_spec _ _ _ m s1 s2 s3 (hm.ext extA)) (k := ?_)
        | refine mj_callP (h := hasTruth_spec _ _ _ m s1 s2 s3 (hm.ext extA) (hV (by assumption))) (k := ?_)
        | fail)
      | refine W1 ?_ | refine Wc ?_ | refine W2c ?_ ?_ | refine Wg ?_ | refine W2 ?_ ?_ | exact Wdead | refine Wlive (fun hb => ?_) | intro _ _ _ _ _ _ _ _ | refine We ?_ | refine Wx ?_ | refine Wt ?_ | refine Wm ?_ | refine W2m ?_ ?_ | refine Wl ?_
      | fail)
    all_goals refine ⟨_, hlt, (by repeat' (first | exact Weak.nil | refine Weak.wild ?_ | refine Weak.same ?_ | refine Weak.intEq (by first | omega | (simp; done) | (push_cast; omega)) ?_)), rfl, extA, getA, by simp; omega, ?_⟩
    all_goals rw [hstep, ← hx]
    all_goals first
      | (rw [if_pos (show t.1 = tub ∧ s.clips = 2 from ⟨by assumption, by assumption⟩), max_if]; done)
      | (rw [if_neg (show ¬ (t.1 = tub ∧ s.clips = 2) from fun h => by first | exact absurd h.1 (by assumption) | exact absurd h.2 (by assumption))]; done)
  · skip
    repeat' (first
      | (refine is_ucall ?_; first
        | refine st_callP (h := CheckHouse_spec _ _ _ m s1 s2 s3 (hm.ext extA)) (k := ?_)
        | refine st_callP (h := hasTruth_spec _ _ _ m s1 s2 s3 (hm.ext extA) (hV (by assumption))) (k := ?_)
        | fail)
      | (refine is_umcall ?_; first
        | refine mj_callP (h := CheckHouse_spec _ _ _ m s1 s2 s3 (hm.ext extA)) (k := ?_)
        | refine mj_callP (h := hasTruth_spec _ _ _ m s1 s2 s3 (hm.ext extA) (hV (by assumption))) (k := ?_)
        | fail)
      | refine W1 ?_ | refine Wc ?_ | refine W2c ?_ ?_ | refine Wg ?_ | refine W2 ?_ ?_ | exact Wdead | refine Wlive (fun hb => ?_) | intro _ _ _ _ _ _ _ _ | refine We ?_ | refine Wx ?_ | refine Wt ?_ | refine Wm ?_ | refine W2m ?_ ?_ | refine Wl ?_
      | fail)
    obtain rfl : j = w.house.tickets.length := by omega
    exact ⟨by rw [hx], rfl, rfl⟩

def paidRow (w : WorkM) (n : Nat) (k : Nat) : Bool := (List.range k).all fun e => !(match w.house.tickets[e]?, w.house.tickets[n]?, w.stays[e]?, w.stays[n]? with | some ta, some tb, some a, some b => clashP ta tb a b | _, _, _, _ => false)
def longP (w : WorkM) (n : Nat) : Bool := match w.house.tickets[n]?, w.stays[n]? with | some t, some s => decide (t.2 < hoursS w.house.hour w.house.grace s) | _, _ => false
def paidS (w : WorkM) (k : Nat) : Bool := (List.range k).all fun n => !longP w n && paidRow w n n
theorem range_all_succ (f : Nat → Bool) (k : Nat) : (List.range (k + 1)).all f = ((List.range k).all f && f k) := by
  rw [List.range_succ, List.all_append]; simp
theorem paidS_false {w : WorkM} {n j : Nat} (hj : j < n) (h : (!longP w j && paidRow w j j) = false) : paidS w n = false := List.all_eq_false.2 ⟨j, List.mem_range.2 hj, by simp [h]⟩
theorem paidRow_le {w : WorkM} {n i k : Nat} (hik : i ≤ k) (h : paidRow w n i = false) : paidRow w n k = false := by
  obtain ⟨x, hx, hf⟩ := List.all_eq_false.1 h
  exact List.all_eq_false.2 ⟨x, List.mem_range.2 (by have := List.mem_range.1 hx; omega), hf⟩

theorem isPaidOnce_spec (w : WorkM) (ws : List Value) (s1 s2 s3 : Value) (hw : WorkIs H w ws s1 s2 s3) (hn : w.house.tickets.length ≤ 6) (hh : 0 < w.house.hour ∧ w.house.hour ≤ 1000000)
   (hb2 : 0 ≤ w.house.grace ∧ w.house.grace ≤ 1000000) (hB : ∀ (n : Nat) (s : StayM), w.stays[n]? = some s → 2 ≤ s.clips → (-1000000 ≤ s.came ∧ s.came ≤ 1000000) ∧ (-1000000 ≤ s.went ∧ s.went ≤ 1000000)) :
   CallJ Try.prog E 98 [.agg ⟨ws⟩] (fun v H' g' => v = .bool (paidS w w.house.tickets.length) ∧ H' = H ∧ g' = g) H g := by
  have hok := hw.ok
  have hl := hw.len
  obtain ⟨_, _, _, h3, _⟩ := hw.at
  have h3' : ws[0 + 0 + 3]? = some s2 := h3
  have hr := hw.house.tickets
  have hwt : List.take 27 ws = ws := List.take_of_length_le (by omega)
  refine CallJ.tidy ?_
  refine CallJ.enter Try.func98 rfl (by simp only [Try.ntmps98, List.length_cons, List.length_nil, Nat.zero_add, Nat.reduceSub, List.replicate_succ, List.replicate_zero, List.cons_append, List.nil_append]; rfl) ?_
  repeat' (first
    | (refine is_ucall ?_; first
      | refine st_callP (h := stayedTooLong_spec _ _ _ w ws s1 s2 s3 _ st tk (hw.ext extA) (by omega) (by omega) hst htk hh hb2 (hB _ _ hst)) (k := ?_)
      | refine st_callP (h := clash_spec _ _ _ w ws s1 s2 s3 _ _ sa st ta tk (hw.ext extA) (by omega) (by omega) (by omega) (by omega) hsa hst hta htk) (k := ?_)
      | fail)
    | (refine is_umcall ?_; first
      | refine mj_callP (h := stayedTooLong_spec _ _ _ w ws s1 s2 s3 _ st tk (hw.ext extA) (by omega) (by omega) hst htk hh hb2 (hB _ _ hst)) (k := ?_)
      | refine mj_callP (h := clash_spec _ _ _ w ws s1 s2 s3 _ _ sa st ta tk (hw.ext extA) (by omega) (by omega) (by omega) (by omega) hsa hst hta htk) (k := ?_)
      | fail)
    | refine W1 ?_ | refine Wc ?_ | refine W2c ?_ ?_ | refine Wg ?_ | refine W2 ?_ ?_ | exact Wdead | refine Wlive (fun hb => ?_) | intro _ _ _ _ _ _ _ _ | refine We ?_ | refine Wx ?_ | refine Wt ?_ | refine Wm ?_ | refine W2m ?_ ?_ | refine Wl ?_
    | fail)
  refine WPJ.loopT w.house.tickets.length [10, 11, 3, 12, 13, 14, 15, 16, 17, 18, 4, 19, 20, 21, 22, 23, 24] (fun j (_ : Unit) => [(9, .int .i64 j)])
    (fun j _ H1 g1 => g1 = g ∧ H1 = H ++ [.row ws 1 true] ∧ paidS w j = true) 0 () (Nat.zero_le _)
    (by intro p hp; simp at hp; rcases hp with rfl; rfl) ⟨rfl, rfl, by simp [paidS]⟩ ?_
  rintro j _ H1 g1 hj ⟨rfl, rfl, hx⟩ hl0
  simp only [updT, maskT, List.set_cons_zero, List.set_cons_succ]
  rcases Nat.lt_or_ge j w.house.tickets.length with hlt | hge
  · have hjs : j < w.stays.length := by rw [hw.ns]; omega
    have hst : w.stays[(j : Int).toNat]? = some w.stays[j] := by simp [hjs]
    have htk : w.house.tickets[(j : Int).toNat]? = some w.house.tickets[j] := by simp [hlt]
    have hst' : w.stays[j]? = some w.stays[j] := by simp [hjs]
    have htk' : w.house.tickets[j]? = some w.house.tickets[j] := by simp [hlt]
    have hlong : longP w j = decide (w.house.tickets[j].2 < hoursS w.house.hour w.house.grace w.stays[j]) := by unfold longP; rw [hst', htk']
    have hstep : paidS w (j + 1) = (paidS w j && (!longP w j && paidRow w j j)) := range_all_succ _ _
    generalize w.stays[j] = st at *
    generalize w.house.tickets[j] = tk at *
    repeat' (first
      | (refine is_ucall ?_; first
        | refine st_callP (h := stayedTooLong_spec _ _ _ w ws s1 s2 s3 _ st tk (hw.ext extA) (by omega) (by omega) hst htk hh hb2 (hB _ _ hst)) (k := ?_)
        | refine st_callP (h := clash_spec _ _ _ w ws s1 s2 s3 _ _ sa st ta tk (hw.ext extA) (by omega) (by omega) (by omega) (by omega) hsa hst hta htk) (k := ?_)
        | fail)
      | (refine is_umcall ?_; first
        | refine mj_callP (h := stayedTooLong_spec _ _ _ w ws s1 s2 s3 _ st tk (hw.ext extA) (by omega) (by omega) hst htk hh hb2 (hB _ _ hst)) (k := ?_)
        | refine mj_callP (h := clash_spec _ _ _ w ws s1 s2 s3 _ _ sa st ta tk (hw.ext extA) (by omega) (by omega) (by omega) (by omega) hsa hst hta htk) (k := ?_)
        | fail)
      | refine W1 ?_ | refine Wc ?_ | refine W2c ?_ ?_ | refine Wg ?_ | refine W2 ?_ ?_ | exact Wdead | refine Wlive (fun hb => ?_) | intro _ _ _ _ _ _ _ _ | refine We ?_ | refine Wx ?_ | refine Wt ?_ | refine Wm ?_ | refine W2m ?_ ?_ | refine Wl ?_
      | fail)
    · refine ⟨?_, rfl, rfl⟩
      have h1 : longP w j = true := by rw [hlong]; exact decide_eq_true (by assumption)
      rw [paidS_false hlt (by rw [h1]; rfl)]
    · refine WPJ.loopT j [17, 18, 4, 19, 20, 21, 22, 23] (fun i (_ : Unit) => [(16, .int .i64 i)])
        (fun i _ H1 g2 => g2 = g1 ∧ H1 = H ++ [.row ws 1 true] ∧ paidRow w j i = true) 0 () (Nat.zero_le _)
        (by intro p hp; simp at hp; rcases hp with rfl; rfl) ⟨rfl, rfl, by simp [paidRow]⟩ ?_
      rintro i _ H1 g2 hi ⟨rfl, rfl, hy⟩ hl1
      simp only [updT, maskT, List.set_cons_zero, List.set_cons_succ]
      have h1 : longP w j = false := by rw [hlong]; exact decide_eq_false (by omega)
      rcases Nat.lt_or_ge i j with hlti | hgei
      · have his : i < w.stays.length := by omega
        have hit : i < w.house.tickets.length := by omega
        have hsa : w.stays[(i : Int).toNat]? = some w.stays[i] := by simp [his]
        have hta : w.house.tickets[(i : Int).toNat]? = some w.house.tickets[i] := by simp [hit]
        have hrow : paidRow w j (i + 1) = (paidRow w j i && !clashP w.house.tickets[i] tk w.stays[i] st) := by
          unfold paidRow
          rw [range_all_succ]
          simp only [hst', htk', List.getElem?_eq_getElem his, List.getElem?_eq_getElem hit]
        generalize w.stays[i] = sa at *
        generalize w.house.tickets[i] = ta at *
        repeat' (first
          | (refine is_ucall ?_; first
            | refine st_callP (h := stayedTooLong_spec _ _ _ w ws s1 s2 s3 _ st tk (hw.ext extA) (by omega) (by omega) hst htk hh hb2 (hB _ _ hst)) (k := ?_)
            | refine st_callP (h := clash_spec _ _ _ w ws s1 s2 s3 _ _ sa st ta tk (hw.ext extA) (by omega) (by omega) (by omega) (by omega) hsa hst hta htk) (k := ?_)
            | fail)
          | (refine is_umcall ?_; first
            | refine mj_callP (h := stayedTooLong_spec _ _ _ w ws s1 s2 s3 _ st tk (hw.ext extA) (by omega) (by omega) hst htk hh hb2 (hB _ _ hst)) (k := ?_)
            | refine mj_callP (h := clash_spec _ _ _ w ws s1 s2 s3 _ _ sa st ta tk (hw.ext extA) (by omega) (by omega) (by omega) (by omega) hsa hst hta htk) (k := ?_)
            | fail)
          | refine W1 ?_ | refine Wc ?_ | refine W2c ?_ ?_ | refine Wg ?_ | refine W2 ?_ ?_ | exact Wdead | refine Wlive (fun hb => ?_) | intro _ _ _ _ _ _ _ _ | refine We ?_ | refine Wx ?_ | refine Wt ?_ | refine Wm ?_ | refine W2m ?_ ?_ | refine Wl ?_
          | fail)
        · refine ⟨?_, rfl, rfl⟩
          have h2 : paidRow w j j = false := by
            have h3 : paidRow w j (i + 1) = false := by rw [hrow]; simp [*]
            exact paidRow_le (by omega) h3
          rw [paidS_false hlt (by rw [h2, Bool.and_false])]
        · exact ⟨(), hlti, (by repeat' (first | exact Weak.nil | refine Weak.wild ?_ | refine Weak.same ?_ | refine Weak.intEq (by first | omega | (simp; done) | (push_cast; omega)) ?_)), rfl, rfl, by rw [hrow]; simp [*]⟩
      · obtain rfl : i = j := by omega
        repeat' (first
          | (refine is_ucall ?_; first
            | refine st_callP (h := stayedTooLong_spec _ _ _ w ws s1 s2 s3 _ st tk (hw.ext extA) (by omega) (by omega) hst htk hh hb2 (hB _ _ hst)) (k := ?_)
            | refine st_callP (h := clash_spec _ _ _ w ws s1 s2 s3 _ _ sa st ta tk (hw.ext extA) (by omega) (by omega) (by omega) (by omega) hsa hst hta htk) (k := ?_)
            | fail)
          | (refine is_umcall ?_; first
            | refine mj_callP (h := stayedTooLong_spec _ _ _ w ws s1 s2 s3 _ st tk (hw.ext extA) (by omega) (by omega) hst htk hh hb2 (hB _ _ hst)) (k := ?_)
            | refine mj_callP (h := clash_spec _ _ _ w ws s1 s2 s3 _ _ sa st ta tk (hw.ext extA) (by omega) (by omega) (by omega) (by omega) hsa hst hta htk) (k := ?_)
            | fail)
          | refine W1 ?_ | refine Wc ?_ | refine W2c ?_ ?_ | refine Wg ?_ | refine W2 ?_ ?_ | exact Wdead | refine Wlive (fun hb => ?_) | intro _ _ _ _ _ _ _ _ | refine We ?_ | refine Wx ?_ | refine Wt ?_ | refine Wm ?_ | refine W2m ?_ ?_ | refine Wl ?_
          | fail)
        exact ⟨(), hlt, (by repeat' (first | exact Weak.nil | refine Weak.wild ?_ | refine Weak.same ?_ | refine Weak.intEq (by first | omega | (simp; done) | (push_cast; omega)) ?_)), rfl, rfl, by rw [hstep, hx, h1, hy]; rfl⟩
  · skip
    repeat' (first
      | (refine is_ucall ?_; first
        | refine st_callP (h := stayedTooLong_spec _ _ _ w ws s1 s2 s3 _ st tk (hw.ext extA) (by omega) (by omega) hst htk hh hb2 (hB _ _ hst)) (k := ?_)
        | refine st_callP (h := clash_spec _ _ _ w ws s1 s2 s3 _ _ sa st ta tk (hw.ext extA) (by omega) (by omega) (by omega) (by omega) hsa hst hta htk) (k := ?_)
        | fail)
      | (refine is_umcall ?_; first
        | refine mj_callP (h := stayedTooLong_spec _ _ _ w ws s1 s2 s3 _ st tk (hw.ext extA) (by omega) (by omega) hst htk hh hb2 (hB _ _ hst)) (k := ?_)
        | refine mj_callP (h := clash_spec _ _ _ w ws s1 s2 s3 _ _ sa st ta tk (hw.ext extA) (by omega) (by omega) (by omega) (by omega) hsa hst hta htk) (k := ?_)
        | fail)
      | refine W1 ?_ | refine Wc ?_ | refine W2c ?_ ?_ | refine Wg ?_ | refine W2 ?_ ?_ | exact Wdead | refine Wlive (fun hb => ?_) | intro _ _ _ _ _ _ _ _ | refine We ?_ | refine Wx ?_ | refine Wt ?_ | refine Wm ?_ | refine W2m ?_ ?_ | refine Wl ?_
      | fail)
    obtain rfl : j = w.house.tickets.length := by omega
    exact ⟨by rw [hx], rfl, rfl⟩
end
end Go.Proofs.Ytehobnpoeodhkaa

namespace Go.Proofs.Ytehobnpoeodhkaa
open Go Go.Abs Go.Proofs
set_option maxHeartbeats 400000
attribute [local irreducible] CallJ OpsJ WPJ CallV MonoJ

theorem rng_mem {r : Int × Int} {n : Int} (h : n ∈ rng r) : r.1 ≤ n ∧ n ≤ r.2 := by
  simp only [rng, List.mem_map, List.mem_range] at h
  obtain ⟨k, hk, rfl⟩ := h
  omega
theorem gen_mem : ∀ (rs : List (Int × Int)) (s : List Int), s ∈ gen rs → ∀ (i : Nat) (r : Int × Int), rs[i]? = some r → ∃ n, s[i]? = some n ∧ r.1 ≤ n ∧ n ≤ r.2
  | [], s, h, i, r, hr => by simp at hr
  | x :: rs, s, h, i, r, hr => by
    simp only [gen, List.mem_flatMap, List.mem_map] at h
    obtain ⟨n, hn, t, ht, rfl⟩ := h
    cases i with
    | zero =>
      simp at hr; subst hr
      exact ⟨n, by simp, rng_mem hn⟩
    | succ i =>
      obtain ⟨k, hk, hb⟩ := gen_mem rs t ht i r (by simpa using hr)
      exact ⟨k, by simpa using hk, hb⟩
/-- what a house is that has no error -/
structure Good (m : HouseM) : Prop where
  hour : 1 ≤ m.hour ∧ m.hour ≤ 120
  grace : 0 ≤ m.grace ∧ m.grace ≤ 60
  n1 : m.clocks.length ≤ 4
  n2 : m.tickets.length ≤ 6
  n3 : m.clips.length ≤ 10
  clock : ∀ r ∈ m.clocks, -30 ≤ r.1 ∧ r.1 ≤ r.2 ∧ r.2 ≤ 30
  ticket : ∀ r ∈ m.tickets, (0 ≤ r.1 ∧ r.1 ≤ 8) ∧ (0 ≤ r.2 ∧ r.2 ≤ 9)
  clip : ∀ c ∈ m.clips, (0 ≤ c.ticket ∧ c.ticket < m.tickets.length) ∧ (0 ≤ c.clock ∧ c.clock < m.clocks.length) ∧ (0 ≤ c.minute ∧ c.minute ≤ 1439) ∧ clipsOfS m c.ticket m.clips.length ≤ 2
  few : prodS m.clocks ≤ 2000
theorem good_of {m : HouseM} (h : checkS m = 0) : Good m := by
  unfold checkS at h
  split at h
  · omega
  · rename_i h1
    split at h
    · rename_i h2
      split at h
      · omega
      · rename_i h3
        simp only [isLongS, Bool.or_eq_true, decide_eq_true_eq, not_or] at h1
        simp only [isValidS, Bool.and_eq_true, decide_eq_true_eq, List.all_eq_true, isClockS, isTicketS, isClipS] at h2
        obtain ⟨⟨⟨a1, a2⟩, a3, a4⟩, ⟨a5, a6⟩, a7⟩ := h2
        exact ⟨⟨a1, a2⟩, ⟨a3, a4⟩, by omega, by omega, by omega, fun r hr => by have := a5 r hr; omega, fun r hr => a6 r hr, fun c hc => by have := a7 c hc; obtain ⟨⟨⟨⟨b1, b2⟩, b3, b4⟩, b5, b6⟩, b7⟩ := this; exact ⟨⟨b1, b2⟩, ⟨b3, b4⟩, ⟨b5, b6⟩, b7⟩, by omega⟩
    · omega
theorem Good.valid {m : HouseM} (h : Good m) : Valid m := by
  refine ⟨⟨h.n1, fun r hr => by have := h.clock r hr; omega⟩, fun es hes => ?_, fun c hc => by have := (h.clip c hc).1; have := h.n2; omega, by have := h.n3; omega⟩
  simp only [errs, List.mem_map] at hes
  obtain ⟨s, hs, rfl⟩ := hes
  have hl := gen_elem_len _ _ hs
  have hn := h.n1
  refine ⟨by simp [hl] <;> omega, fun e he => ?_, fun c hc => ?_⟩
  · rcases List.mem_append.1 he with h1 | h1
    · obtain ⟨i, hi, rfl⟩ := List.getElem_of_mem h1
      obtain ⟨n, h2, h3⟩ := gen_mem _ _ hs i m.clocks[i] (by simp)
      rw [List.getElem?_eq_getElem hi] at h2
      cases h2
      have := h.clock _ (List.getElem_mem (by omega : i < m.clocks.length))
      omega
    · have h2 := List.mem_of_mem_drop h1
      simp at h2
      omega
  · have := h.clip c hc
    omega
theorem stays_bd {es : List Int} {cs : List ClipM} (hS : Sound es cs) : ∀ s ∈ staysS es cs, (1 ≤ s.clips → -1000000 ≤ s.came ∧ s.came ≤ 1000000) ∧ (2 ≤ s.clips → -1000000 ≤ s.went ∧ s.went ≤ 1000000) ∧ 0 ≤ s.clips := by
  have key : ∀ (l : List ClipM) (ss : List StayM), (∀ c ∈ l, c ∈ cs) → (∀ s ∈ ss, (1 ≤ s.clips → -1000000 ≤ s.came ∧ s.came ≤ 1000000) ∧ (2 ≤ s.clips → -1000000 ≤ s.went ∧ s.went ≤ 1000000) ∧ 0 ≤ s.clips) →
      ∀ s ∈ l.foldl (staysStep es) ss, (1 ≤ s.clips → -1000000 ≤ s.came ∧ s.came ≤ 1000000) ∧ (2 ≤ s.clips → -1000000 ≤ s.went ∧ s.went ≤ 1000000) ∧ 0 ≤ s.clips := by
    intro l
    induction l with
    | nil => intro ss _ h; exact h
    | cons c l ih =>
      intro ss hl h
      refine ih _ (fun x hx => hl x (by simp [hx])) ?_
      intro s hs
      unfold staysStep at hs
      have hat := (hS.at (hl c (by simp))).2
      rcases List.mem_or_eq_of_mem_set hs with h1 | rfl
      · exact h s h1
      · have hg : (1 ≤ (ss.getD c.ticket.toNat stay0).clips → -1000000 ≤ (ss.getD c.ticket.toNat stay0).came ∧ (ss.getD c.ticket.toNat stay0).came ≤ 1000000) ∧ 0 ≤ (ss.getD c.ticket.toNat stay0).clips := by
          rw [List.getD_eq_getElem?_getD]
          cases he : ss[c.ticket.toNat]? with
          | none => simp [stay0]
          | some x => have := h x (List.mem_of_getElem? he); exact ⟨this.1, this.2.2⟩
        generalize ss.getD c.ticket.toNat stay0 = u at hg ⊢
        unfold stay1
        have e : trueM es c = c.minute - es.getD c.clock.toNat 0 := rfl
        split
        · simp only; rw [e]; exact ⟨fun _ => hat, fun h => by omega, by omega⟩
        · simp only; rw [e]; exact ⟨fun _ => hg.1 (by omega), fun _ => hat, by omega⟩
  exact key cs (List.replicate 6 stay0) (fun _ h => h) (by intro s hs; simp at hs; subst hs; simp [stay0])
theorem truths_mem {m : HouseM} {es : List Int} (h : es ∈ truthsL m) : es ∈ errs m := (List.mem_filter.1 h).1

/-! ### What is asked of a truth -/
section
variable {γ : Type} (E : Env γ) (g : γ) (H : AHeap)
abbrev wm (m : HouseM) (es : List Int) : WorkM := ⟨m, es, staysS es m.clips⟩
theorem paid_V (m : HouseM) (s1 s2 s3 : Value) (hm : HouseIs H m s1 s2 s3) (hG : Good m) (es : List Int) (hes : es ∈ truthsL m) :
    CallV Try.prog E (.func (.func 98) ⟨[]⟩ ⟨[]⟩) [wval m s1 s2 s3 es] (fun v H2 g' => v = .bool (paidS (wm m es) m.tickets.length) ∧ H2 = H ∧ g' = g) H g :=
  CallV.of_func EntC.ent (isPaidOnce_spec E g H (wm m es) _ s1 s2 s3 (work_is hm (hG.valid.sound es (truths_mem hes)).1) hG.n2 (by have := hG.hour; show 0 < m.hour ∧ m.hour ≤ 1000000; omega) (by have := hG.grace; show 0 ≤ m.grace ∧ m.grace ≤ 1000000; omega)
    fun n s hs h2 => by have := stays_bd (hG.valid.sound es (truths_mem hes)) s (List.mem_of_getElem? hs); exact ⟨this.1 (by omega), this.2.1 h2⟩)
theorem free_V (m : HouseM) (s1 s2 s3 : Value) (hm : HouseIs H m s1 s2 s3) (hG : Good m) (tub : Int) (es : List Int) (hes : es ∈ truthsL m) :
    CallV Try.prog E (.func (.func 106) ⟨[]⟩ ⟨[]⟩) [wval m s1 s2 s3 es, .int .i64 tub] (fun v H2 g' => v = .int .i64 (freeS m.tickets (staysS es m.clips) tub m.tickets.length) ∧ H2 = H ∧ g' = g) H g :=
  CallV.of_func EntC.ent (freeFrom_spec E g H (wm m es) _ s1 s2 s3 tub (work_is hm (hG.valid.sound es (truths_mem hes)).1) hG.n2)

/-! ### The calls -/
theorem checkT_zero {m : HouseM} (h : checkT m = 0) : checkS m = 0 := by
  unfold checkT at h
  split at h
  · assumption
  · rename_i h1; exact absurd h h1
theorem Paid_spec (m : HouseM) (s1 s2 s3 : Value) (hm : HouseIs H m s1 s2 s3) : CallJ Try.prog E 41 [hv m s1 s2 s3] (fun v H' g' => v = .tuple #[.int .i64 (if checkT m = 0 then verdictS (truthsL m) (fun es => paidS (wm m es) m.tickets.length) else 0), .int .i64 (checkT m)] ∧ H' = H ∧ g' = g) H g := by
  have hok := hm.cells
  have hG : checkT m = 0 → checkS m = 0 := checkT_zero
  refine CallJ.tidy ?_
  unfold hv
  refine CallJ.enter Try.func41 rfl (by simp only [Try.ntmps41, List.length_cons, List.length_nil, Nat.zero_add, Nat.reduceSub, List.replicate_succ, List.replicate_zero, List.cons_append, List.nil_append]; rfl) ?_
  repeat' (first
    | (refine is_ucall ?_; first
      | refine st_callP (h := checkTruth_spec _ _ _ m s1 s2 s3 (hm.ext extA) (fun h => (good_of h).valid)) (k := ?_)
      | refine st_callP (h := verdict_spec _ _ _ m s1 s2 s3 (hm.ext extA) (good_of (hG (by assumption))).valid _ _ _ _ (fun es hes H' he => paid_V _ _ _ m s1 s2 s3 (hm.ext (Ext.trans extA he)) (good_of (hG (by assumption))) es hes)) (k := ?_)
      | fail)
    | (refine is_umcall ?_; first
      | refine mj_callP (h := checkTruth_spec _ _ _ m s1 s2 s3 (hm.ext extA) (fun h => (good_of h).valid)) (k := ?_)
      | refine mj_callP (h := verdict_spec _ _ _ m s1 s2 s3 (hm.ext extA) (good_of (hG (by assumption))).valid _ _ _ _ (fun es hes H' he => paid_V _ _ _ m s1 s2 s3 (hm.ext (Ext.trans extA he)) (good_of (hG (by assumption))) es hes)) (k := ?_)
      | fail)
    | refine W1 ?_ | refine Wc ?_ | refine W2c ?_ ?_ | refine Wg ?_ | refine W2 ?_ ?_ | exact Wdead | refine Wlive (fun hb => ?_) | intro _ _ _ _ _ _ _ _ | refine We ?_ | refine Wx ?_ | refine Wt ?_ | refine Wm ?_ | refine W2m ?_ ?_ | refine Wl ?_
    | fail)
  all_goals exact ⟨by simp [*], rfl, rfl⟩

theorem clash_fn (m : HouseM) (s1 s2 s3 : Value) (hG : Good m) (t u : Int) (ht : 0 ≤ t ∧ t < m.tickets.length) (hu : 0 ≤ u ∧ u < m.tickets.length) (i j : Nat) (H : AHeap) (hm : HouseIs H m s1 s2 s3) (hi : H[i]? = some (.row [.int .i64 t] 1 true)) (hj : H[j]? = some (.row [.int .i64 u] 1 true)) (es : List Int) (hes : es ∈ truthsL m) :
    CallV Try.prog E (.func (.func 102) ⟨[]⟩ ⟨[.pointer (some ⟨i, 0, none⟩), .pointer (some ⟨j, 0, none⟩)]⟩) [wval m s1 s2 s3 es]
      (fun v H2 g' => v = .bool (clashP (m.tickets[t.toNat]?.getD (0, 0)) (m.tickets[u.toNat]?.getD (0, 0)) ((staysS es m.clips)[t.toNat]?.getD stay0) ((staysS es m.clips)[u.toNat]?.getD stay0)) ∧ H2 = H ∧ g' = g) H g := by
  refine CallV.of_func EntC.ent ?_
  have h4 := (hG.valid.sound es (truths_mem hes)).1
  have hwl := wv_len m s1 s2 s3 es (staysS es m.clips) h4 (staysS_len _ _)
  have hwt := wv_take m s1 s2 s3 es (staysS es m.clips) h4 (staysS_len _ _)
  have hwo := wv_ok m s1 s2 s3 es (staysS es m.clips) hm.cells
  have hn := hG.n2
  have hsl := staysS_len es m.clips
  have e1 : m.tickets[t.toNat]? = some (m.tickets[t.toNat]'(by omega)) := by simp
  have e2 : m.tickets[u.toNat]? = some (m.tickets[u.toNat]'(by omega)) := by simp
  have e3 : (staysS es m.clips)[t.toNat]? = some ((staysS es m.clips)[t.toNat]'(by omega)) := by simp
  have e4 : (staysS es m.clips)[u.toNat]? = some ((staysS es m.clips)[u.toNat]'(by omega)) := by simp
  have hc := fun H' (he : Ext H H') => clash_spec E g H' (wm m es) _ s1 s2 s3 t u _ _ _ _ (work_is (hm.ext he) h4) ht.1 (by omega) hu.1 (by omega) e3 e4 e1 e2
  rw [e1, e2, e3, e4]
  refine CallJ.tidy ?_
  refine CallJ.enter Try.func102 rfl (by simp only [Try.ntmps102, List.length_cons, List.length_nil, Nat.zero_add, Nat.reduceAdd, Nat.reduceSub, List.replicate_succ, List.replicate_zero, List.cons_append, List.nil_append]; rfl) ?_
  repeat' (first
    | (refine is_ucall ?_; first
      | refine st_callP (h := checkTruth_spec _ _ _ m s1 s2 s3 (hm.ext extA) (fun h => (good_of h).valid)) (k := ?_)
      | refine st_callP (h := verdict_spec _ _ _ m s1 s2 s3 (hm.ext extA) (good_of (hG (by assumption))).valid _ _ _ _ (fun es hes H' he => paid_V _ _ _ m s1 s2 s3 (hm.ext (Ext.trans extA he)) (good_of (hG (by assumption))) es hes)) (k := ?_)
      | fail)
    | (refine is_umcall ?_; first
      | refine mj_callP (h := checkTruth_spec _ _ _ m s1 s2 s3 (hm.ext extA) (fun h => (good_of h).valid)) (k := ?_)
      | refine mj_callP (h := verdict_spec _ _ _ m s1 s2 s3 (hm.ext extA) (good_of (hG (by assumption))).valid _ _ _ _ (fun es hes H' he => paid_V _ _ _ m s1 s2 s3 (hm.ext (Ext.trans extA he)) (good_of (hG (by assumption))) es hes)) (k := ?_)
      | fail)
    | refine W1 ?_ | refine Wc ?_ | refine W2c ?_ ?_ | refine Wg ?_ | refine W2 ?_ ?_ | exact Wdead | refine Wlive (fun hb => ?_) | intro _ _ _ _ _ _ _ _ | refine We ?_ | refine Wx ?_ | refine Wt ?_ | refine Wm ?_ | refine W2m ?_ ?_ | refine Wl ?_
    | fail)
  refine st_callP (h := hc _ extA) (k := ?_)
  repeat' (first
    | (refine is_ucall ?_; first
      | refine st_callP (h := checkTruth_spec _ _ _ m s1 s2 s3 (hm.ext extA) (fun h => (good_of h).valid)) (k := ?_)
      | refine st_callP (h := verdict_spec _ _ _ m s1 s2 s3 (hm.ext extA) (good_of (hG (by assumption))).valid _ _ _ _ (fun es hes H' he => paid_V _ _ _ m s1 s2 s3 (hm.ext (Ext.trans extA he)) (good_of (hG (by assumption))) es hes)) (k := ?_)
      | fail)
    | (refine is_umcall ?_; first
      | refine mj_callP (h := checkTruth_spec _ _ _ m s1 s2 s3 (hm.ext extA) (fun h => (good_of h).valid)) (k := ?_)
      | refine mj_callP (h := verdict_spec _ _ _ m s1 s2 s3 (hm.ext extA) (good_of (hG (by assumption))).valid _ _ _ _ (fun es hes H' he => paid_V _ _ _ m s1 s2 s3 (hm.ext (Ext.trans extA he)) (good_of (hG (by assumption))) es hes)) (k := ?_)
      | fail)
    | refine W1 ?_ | refine Wc ?_ | refine W2c ?_ ?_ | refine Wg ?_ | refine W2 ?_ ?_ | exact Wdead | refine Wlive (fun hb => ?_) | intro _ _ _ _ _ _ _ _ | refine We ?_ | refine Wx ?_ | refine Wt ?_ | refine Wm ?_ | refine W2m ?_ ?_ | refine Wl ?_
    | fail)
  exact ⟨rfl, rfl, rfl⟩

def clashQ (m : HouseM) (t u : Int) (es : List Int) : Bool := clashP (m.tickets[t.toNat]?.getD (0, 0)) (m.tickets[u.toNat]?.getD (0, 0)) ((staysS es m.clips)[t.toNat]?.getD stay0) ((staysS es m.clips)[u.toNat]?.getD stay0)
def hasT (m : HouseM) (t : Int) : Bool := decide (0 ≤ t) && decide (t < m.tickets.length)
def clashE (m : HouseM) (t u : Int) : Int := if checkS m = 0 then (if (hasT m t && hasT m u) = true then (if t = u then 6 else if hasS m then 0 else 11) else 2) else checkS m
theorem Clash_spec (m : HouseM) (s1 s2 s3 : Value) (t u : Int) (hm : HouseIs H m s1 s2 s3) : CallJ Try.prog E 44 [hv m s1 s2 s3, .int .i64 t, .int .i64 u] (fun v H' g' => v = .tuple #[.int .i64 (if clashE m t u = 0 then verdictS (truthsL m) (clashQ m t u) else 0), .int .i64 (clashE m t u)] ∧ H' = H ∧ g' = g) H g := by
  have hok := hm.cells
  refine CallJ.tidy ?_
  unfold hv
  refine CallJ.enter Try.func44 rfl (by simp only [Try.ntmps44, List.length_cons, List.length_nil, Nat.zero_add, Nat.reduceAdd, Nat.reduceSub, List.replicate_succ, List.replicate_zero, List.cons_append, List.nil_append]; rfl) ?_
  repeat' (first
    | (refine is_ucall ?_; first
      | refine st_callP (h := CheckHouse_spec _ _ _ m s1 s2 s3 (hm.ext extA)) (k := ?_)
      | refine st_callP (h := hasTicket_spec _ _ _ m s1 s2 s3 _ (hm.ext extA)) (k := ?_)
      | refine st_callP (h := hasTruth_spec _ _ _ m s1 s2 s3 (hm.ext extA) (good_of (by assumption)).valid) (k := ?_)
      | fail)
    | (refine is_umcall ?_; first
      | refine mj_callP (h := CheckHouse_spec _ _ _ m s1 s2 s3 (hm.ext extA)) (k := ?_)
      | refine mj_callP (h := hasTicket_spec _ _ _ m s1 s2 s3 _ (hm.ext extA)) (k := ?_)
      | refine mj_callP (h := hasTruth_spec _ _ _ m s1 s2 s3 (hm.ext extA) (good_of (by assumption)).valid) (k := ?_)
      | fail)
    | refine W1 ?_ | refine Wc ?_ | refine W2c ?_ ?_ | refine Wg ?_ | refine W2 ?_ ?_ | exact Wdead | refine Wlive (fun hb => ?_) | intro _ _ _ _ _ _ _ _ | refine We ?_ | refine Wx ?_ | refine Wt ?_ | refine Wm ?_ | refine W2m ?_ ?_ | refine Wl ?_
    | fail)
  case refine_2.refine_1.refine_2.refine_2.refine_2 =>
    have hG := good_of (by assumption : checkS m = 0)
    refine st_callP (h := verdict_spec E g _ m s1 s2 s3 (hm.ext extA) hG.valid _ _ _ (clashQ m t u) (fun es hes H' he => clash_fn E g m s1 s2 s3 hG t u (by assumption) (by assumption) (H.length + 1) (H.length + 2) H' (hm.ext (Ext.trans extA he)) (he.get getA) (he.get getA) es hes)) (k := ?_)
    repeat' (first
      | (refine is_ucall ?_; first
        | refine st_callP (h := CheckHouse_spec _ _ _ m s1 s2 s3 (hm.ext extA)) (k := ?_)
        | refine st_callP (h := hasTicket_spec _ _ _ m s1 s2 s3 _ (hm.ext extA)) (k := ?_)
        | refine st_callP (h := hasTruth_spec _ _ _ m s1 s2 s3 (hm.ext extA) (good_of (by assumption)).valid) (k := ?_)
        | fail)
      | (refine is_umcall ?_; first
        | refine mj_callP (h := CheckHouse_spec _ _ _ m s1 s2 s3 (hm.ext extA)) (k := ?_)
        | refine mj_callP (h := hasTicket_spec _ _ _ m s1 s2 s3 _ (hm.ext extA)) (k := ?_)
        | refine mj_callP (h := hasTruth_spec _ _ _ m s1 s2 s3 (hm.ext extA) (good_of (by assumption)).valid) (k := ?_)
        | fail)
      | refine W1 ?_ | refine Wc ?_ | refine W2c ?_ ?_ | refine Wg ?_ | refine W2 ?_ ?_ | exact Wdead | refine Wlive (fun hb => ?_) | intro _ _ _ _ _ _ _ _ | refine We ?_ | refine Wx ?_ | refine Wt ?_ | refine Wm ?_ | refine W2m ?_ ?_ | refine Wl ?_
      | fail)
    have e : clashE m t u = 0 := by unfold clashE hasT; grind
    exact ⟨by rw [e, if_pos rfl], rfl, rfl⟩
  all_goals refine ⟨?_, rfl, rfl⟩
  · have e : clashE m t u = checkS m := by unfold clashE hasT; grind
    rw [e, if_neg (by assumption)]
  · have e : clashE m t u = 2 := by unfold clashE hasT; grind
    rw [e]; rfl
  · have e : clashE m t u = 6 := by unfold clashE hasT; grind
    rw [e]; rfl
  · have e : clashE m t u = 11 := by unfold clashE hasT; grind
    rw [e]; rfl
  · have e : clashE m t u = 2 := by unfold clashE hasT; grind
    rw [e]; rfl

def freeE (m : HouseM) (tub : Int) : Int := if checkS m = 0 then (if (decide (0 ≤ tub) && decide (tub ≤ 8)) = true then (if isInUseS m tub m.tickets.length = true then 8 else if hasS m then 0 else 11) else 2) else checkS m
def freeQ (m : HouseM) (tub : Int) (es : List Int) : Int := freeS m.tickets (staysS es m.clips) tub m.tickets.length
theorem Free_spec (m : HouseM) (s1 s2 s3 : Value) (tub : Int) (hm : HouseIs H m s1 s2 s3) : CallJ Try.prog E 47 [hv m s1 s2 s3, .int .i64 tub] (fun v H' g' => v = .tuple #[.agg (if freeE m tub = 0 then ⟨[.int .i64 (loS (truthsL m) (freeQ m tub)), .int .i64 (hiS (truthsL m) (freeQ m tub))]⟩ else ⟨[.int .i64 0, .int .i64 0]⟩), .int .i64 (freeE m tub)] ∧ H' = H ∧ g' = g) H g := by
  have hok := hm.cells
  refine CallJ.tidy ?_
  unfold hv
  refine CallJ.enter Try.func47 rfl (by simp only [Try.ntmps47, List.length_cons, List.length_nil, Nat.zero_add, Nat.reduceAdd, Nat.reduceSub, List.replicate_succ, List.replicate_zero, List.cons_append, List.nil_append]; rfl) ?_
  repeat' (first
    | (refine is_ucall ?_; first
      | refine st_callP (h := CheckHouse_spec _ _ _ m s1 s2 s3 (hm.ext extA)) (k := ?_)
      | refine st_callP (h := isTub_spec _ _ _ _) (k := ?_)
      | refine st_callP (h := isInUse_spec _ _ _ m s1 s2 s3 _ (hm.ext extA)) (k := ?_)
      | refine st_callP (h := hasTruth_spec _ _ _ m s1 s2 s3 (hm.ext extA) (good_of (by assumption)).valid) (k := ?_)
      | refine st_callP (h := bounds_spec _ _ _ m s1 s2 s3 (hm.ext extA) (good_of (by assumption)).valid _ _ _ _ (freeQ m tub) (fun es hes H' he => free_V _ _ _ m s1 s2 s3 (hm.ext (Ext.trans extA he)) (good_of (by assumption)) tub es hes)) (k := ?_)
      | fail)
    | (refine is_umcall ?_; first
      | refine mj_callP (h := CheckHouse_spec _ _ _ m s1 s2 s3 (hm.ext extA)) (k := ?_)
      | refine mj_callP (h := isTub_spec _ _ _ _) (k := ?_)
      | refine mj_callP (h := isInUse_spec _ _ _ m s1 s2 s3 _ (hm.ext extA)) (k := ?_)
      | refine mj_callP (h := hasTruth_spec _ _ _ m s1 s2 s3 (hm.ext extA) (good_of (by assumption)).valid) (k := ?_)
      | refine mj_callP (h := bounds_spec _ _ _ m s1 s2 s3 (hm.ext extA) (good_of (by assumption)).valid _ _ _ _ (freeQ m tub) (fun es hes H' he => free_V _ _ _ m s1 s2 s3 (hm.ext (Ext.trans extA he)) (good_of (by assumption)) tub es hes)) (k := ?_)
      | fail)
    | refine W1 ?_ | refine Wc ?_ | refine W2c ?_ ?_ | refine Wg ?_ | refine W2 ?_ ?_ | exact Wdead | refine Wlive (fun hb => ?_) | intro _ _ _ _ _ _ _ _ | refine We ?_ | refine Wx ?_ | refine Wt ?_ | refine Wm ?_ | refine W2m ?_ ?_ | refine Wl ?_
    | fail)
  all_goals refine ⟨?_, rfl, rfl⟩
  · have e : freeE m tub = checkS m := by unfold freeE; grind
    rw [e, if_neg (by assumption)]; rfl
  · have e : freeE m tub = 2 := by unfold freeE; grind
    rw [e]; rfl
  · have e : freeE m tub = 8 := by unfold freeE; grind
    rw [e]; rfl
  · have e : freeE m tub = 11 := by unfold freeE; grind
    rw [e]; rfl
  · have e : freeE m tub = 0 := by unfold freeE; grind
    rw [e, if_pos rfl]
end
end Go.Proofs.Ytehobnpoeodhkaa

namespace Go.Proofs.Ytehobnpoeodhkaa
open Go Go.Abs Go.Proofs
set_option maxHeartbeats 400000
attribute [local irreducible] CallJ OpsJ WPJ CallV MonoJ

abbrev encI (l : List Int) : List (List Value) := l.map fun x => [.int .i64 x]
def inR (r : Int × Int) (n : Int) : Bool := decide (r.1 ≤ n) && decide (n ≤ r.2)
def isE (m : HouseM) (l : List Int) : Bool := decide (l.length = m.clocks.length) && (m.clocks.zip l).all fun x => inR x.1 x.2
def errsOf (m : HouseM) (l : List Int) : List Int := if isE m l then l ++ List.drop m.clocks.length [0, 0, 0, 0] else [0, 0, 0, 0]
theorem encE_flat (es : List Int) : (encE es).all flat1 = true := List.all_eq_true.2 fun x hx => by obtain ⟨n, _, rfl⟩ := List.mem_map.1 hx; rfl
theorem set_mid {l : List Int} {j : Nat} {z : List Int} (h : j < l.length) (hz : j < z.length) : (l.take j ++ z.drop j).set j l[j] = l.take (j + 1) ++ z.drop (j + 1) := by
  rw [List.set_append_right _ _ (by simp; omega)]
  have e : j - (l.take j).length = 0 := by simp; omega
  rw [e, List.drop_eq_getElem_cons hz, List.set_cons_zero, List.take_succ_eq_append_getElem h, List.append_assoc]
  rfl
theorem zip_all_step {α β : Type} (f : α × β → Bool) {a : List α} {b : List β} {j : Nat} (ha : j < a.length) (hb : j < b.length) : ((a.zip b).take (j + 1)).all f = (((a.zip b).take j).all f && f (a[j], b[j])) := by
  rw [List.take_succ_eq_append_getElem (by simp; omega), List.all_append]; simp

section
variable {γ : Type} (E : Env γ) (g : γ) (H : AHeap)
theorem errorsOf_spec (m : HouseM) (s1 s2 s3 lv : Value) (l : List Int) (hm : HouseIs H m s1 s2 s3) (hN : m.clocks.length ≤ 4) (hr : RdS H lv 1 (encI l)) (_hn : l.length ≤ 1000000) :
    CallJ Try.prog E 80 [hv m s1 s2 s3, lv] (fun v H' g' => v = .tuple #[.agg ⟨encE (errsOf m l)⟩, .bool (isE m l)] ∧ H' = H ∧ g' = g) H g := by
  have hok := hm.cells
  have hrc := hm.clocks
  refine CallJ.tidy ?_
  unfold hv
  by_cases hlen : l.length = m.clocks.length
  · skip
    refine CallJ.enter Try.func80 rfl (by simp only [Try.ntmps80, List.length_cons, List.length_nil, Nat.zero_add, Nat.reduceAdd, Nat.reduceSub, List.replicate_succ, List.replicate_zero, List.cons_append, List.nil_append]; rfl) ?_
    repeat' (first
      | (refine is_ucall ?_; first
        | refine st_callP (h := has_spec _ _ _ _ _ _) (k := ?_)
        | fail)
      | (refine is_umcall ?_; first
        | refine mj_callP (h := has_spec _ _ _ _ _ _) (k := ?_)
        | fail)
      | refine W1 ?_ | refine Wc ?_ | refine W2c ?_ ?_ | refine Wg ?_ | refine W2 ?_ ?_ | exact Wdead | refine Wlive (fun hb => ?_) | intro _ _ _ _ _ _ _ _ | refine We ?_ | refine Wx ?_ | refine Wt ?_ | refine Wm ?_ | refine W2m ?_ ?_ | refine Wl ?_
      | fail)
    refine WPJ.loopT l.length [19, 20, 21, 22, 7, 8, 23, 24, 25, 26, 27, 28, 29, 30, 31, 32, 33, 34, 35] (fun j (_ : Unit) => [(18, .int .i64 j)])
      (fun j _ H1 g1 => g1 = g ∧ H1 = H ++ [.row (hcells m s1 s2 s3) 1 true, .row [.int .i64 0, .int .i64 0, .int .i64 0, .int .i64 0] 1 true, .row (encE (l.take j ++ List.drop j [0, 0, 0, 0])) 1 true] ∧ ((m.clocks.zip l).take j).all (fun x => inR x.1 x.2) = true) 0 () (Nat.zero_le _)
      (by intro p hp; simp at hp; rcases hp with rfl; rfl) ⟨rfl, rfl, by simp⟩ ?_
    rintro j _ H1 g1 hj ⟨rfl, rfl, hx⟩ hl0
    simp only [updT, maskT, List.set_cons_zero, List.set_cons_succ]
    rcases Nat.lt_or_ge j l.length with hlt | hge
    · have hlt' : j < m.clocks.length := by omega
      have hel : (encI l)[j]? = some [.int .i64 l[j]] := by simp [hlt]
      have helc : (m.clocks.map encR)[j]? = some (encR m.clocks[j]) := by simp [hlt']
      have hstep := zip_all_step (fun x : (Int × Int) × Int => inR x.1 x.2) hlt' hlt
      have hmid := set_mid (z := [0, 0, 0, 0]) hlt (by simp; omega)
      have hel4 : (encE (l.take j ++ List.drop j [0, 0, 0, 0])).length = 4 := by simp [encE]; omega
      have hfail : inR m.clocks[j] l[j] = false → isE m l = false := fun h => by
        unfold isE
        rw [Bool.and_eq_false_iff]
        exact .inr (List.all_eq_false.2 ⟨(m.clocks[j], l[j]), List.mem_iff_getElem.2 ⟨j, by simp; omega, by simp⟩, by simp [h]⟩)
      generalize l[j] = x at *
      generalize m.clocks[j] = r at *
      generalize hes : l.take j ++ List.drop j [0, 0, 0, 0] = es at *
      repeat' (first
        | (refine is_ucall ?_; first
          | refine st_callP (h := has_spec _ _ _ _ _ _) (k := ?_)
          | fail)
        | (refine is_umcall ?_; first
          | refine mj_callP (h := has_spec _ _ _ _ _ _) (k := ?_)
          | fail)
        | refine W1 ?_ | refine Wc ?_ | refine W2c ?_ ?_ | refine Wg ?_ | refine W2 ?_ ?_ | exact Wdead | refine Wlive (fun hb => ?_) | intro _ _ _ _ _ _ _ _ | refine We ?_ | refine Wx ?_ | refine Wt ?_ | refine Wm ?_ | refine W2m ?_ ?_ | refine Wl ?_
        | fail)
      · have e : isE m l = false := hfail (by unfold inR; simp; omega)
        exact ⟨by unfold errsOf; rw [e]; rfl, rfl, rfl⟩
      · refine ⟨(), hlt, (by repeat' (first | exact Weak.nil | refine Weak.wild ?_ | refine Weak.same ?_ | refine Weak.intEq (by first | omega | (simp; done) | (push_cast; omega)) ?_)), rfl, by rw [row_encE1, hmid], ?_⟩
        rw [hstep, hx]
        unfold inR; simp; omega
    · have hj' : j = l.length := by omega
      have hel4 : (encE (l.take j ++ List.drop j [0, 0, 0, 0])).length = 4 := by simp [encE]; omega
      have hE := encE_ok (l.take j ++ List.drop j [0, 0, 0, 0])
      have hall4 : List.take 4 (encE (l.take j ++ List.drop j [0, 0, 0, 0])) = encE (l.take j ++ List.drop j [0, 0, 0, 0]) := List.take_of_length_le (by omega)
      have hfl := encE_flat (l.take j ++ List.drop j [0, 0, 0, 0])
      have hres : errsOf m l = l.take j ++ List.drop j [0, 0, 0, 0] ∧ isE m l = true := by
        have e : isE m l = true := by
          unfold isE
          rw [List.take_of_length_le (by simp; omega)] at hx
          rw [hx]; simp [hlen]
        refine ⟨?_, e⟩
        unfold errsOf
        rw [e, if_pos rfl, hj', List.take_length, hlen]
      rw [hres.1, hres.2]
      generalize hes : l.take j ++ List.drop j [0, 0, 0, 0] = es at *
      repeat' (first
        | (refine is_ucall ?_; first
          | refine st_callP (h := has_spec _ _ _ _ _ _) (k := ?_)
          | fail)
        | (refine is_umcall ?_; first
          | refine mj_callP (h := has_spec _ _ _ _ _ _) (k := ?_)
          | fail)
        | refine W1 ?_ | refine Wc ?_ | refine W2c ?_ ?_ | refine Wg ?_ | refine W2 ?_ ?_ | exact Wdead | refine Wlive (fun hb => ?_) | intro _ _ _ _ _ _ _ _ | refine We ?_ | refine Wx ?_ | refine Wt ?_ | refine Wm ?_ | refine W2m ?_ ?_ | refine Wl ?_
        | fail)
      exact ⟨rfl, rfl, rfl⟩
  · skip
    have e : isE m l = false := by unfold isE; rw [Bool.and_eq_false_iff]; exact .inl (decide_eq_false hlen)
    have hlen' : ¬ (l.length : Int) = m.clocks.length := by omega
    unfold errsOf
    rw [e]
    refine CallJ.enter Try.func80 rfl (by simp only [Try.ntmps80, List.length_cons, List.length_nil, Nat.zero_add, Nat.reduceAdd, Nat.reduceSub, List.replicate_succ, List.replicate_zero, List.cons_append, List.nil_append]; rfl) ?_
    repeat' (first
      | (refine is_ucall ?_; first
        | refine st_callP (h := has_spec _ _ _ _ _ _) (k := ?_)
        | fail)
      | (refine is_umcall ?_; first
        | refine mj_callP (h := has_spec _ _ _ _ _ _) (k := ?_)
        | fail)
      | refine W1 ?_ | refine Wc ?_ | refine W2c ?_ ?_ | refine Wg ?_ | refine W2 ?_ ?_ | exact Wdead | refine Wlive (fun hb => ?_) | intro _ _ _ _ _ _ _ _ | refine We ?_ | refine Wx ?_ | refine Wt ?_ | refine Wm ?_ | refine W2m ?_ ?_ | refine Wl ?_
      | fail)
    exact ⟨rfl, rfl, rfl⟩
end
end Go.Proofs.Ytehobnpoeodhkaa

namespace Go.Proofs.Ytehobnpoeodhkaa
open Go Go.Abs Go.Proofs
set_option maxHeartbeats 400000
attribute [local irreducible] CallJ OpsJ WPJ CallV MonoJ

theorem Tidy.two {γ : Type} {H H' : AHeap} {K : Value → AHeap → γ → Prop} {v v0 : Value} {g' : γ} {i : Nat} {cells : List Value} {es : Nat} (he : Ext H H') (hi : H'[i]? = some (.row cells es true)) (hl : H.length ≤ i) (hc : cells.all flat1 = true) (hv : Mv H.length [i] v v0) (hk : K v0 (H ++ [.row cells es true]) g') : Tidy H K v H' g' := by
  obtain ⟨L, rfl⟩ := he
  exact ⟨[i], H, L, v0, [.row cells es true], rfl, rfl, fun _ _ h => .inl h, by simp, fun k h => by simp at h; omega, by simp [hi], by simp [flatRow]; simpa using hc, hv, hk⟩

section
variable {γ : Type} (E : Env γ) (g : γ) (H : AHeap)
def playE (m : HouseM) (l : List Int) : Int := if checkS m = 0 then (if isE m l then 0 else 2) else checkS m
def playS (m : HouseM) (l : List Int) : List Int := m.clips.map (trueM (errsOf m l))
theorem errsOf_len (m : HouseM) (l : List Int) (h4 : m.clocks.length ≤ 4) : (errsOf m l).length = 4 := by
  unfold errsOf
  split
  · rename_i h
    simp only [isE, Bool.and_eq_true, decide_eq_true_eq] at h
    simp [h.1]; omega
  · rfl
theorem errsOf_sound {m : HouseM} (hG : Good m) {l : List Int} (h : isE m l = true) : Sound (errsOf m l) m.clips := by
  refine ⟨errsOf_len m l hG.n1, fun e he => ?_, fun c hc => by have := hG.clip c hc; have := hG.n1; omega⟩
  have h' := h
  simp only [isE, Bool.and_eq_true, decide_eq_true_eq, List.all_eq_true] at h'
  unfold errsOf at he
  rw [h, if_pos rfl] at he
  rcases List.mem_append.1 he with h1 | h1
  · obtain ⟨i, hi, rfl⟩ := List.getElem_of_mem h1
    have h2 := h'.2 (m.clocks[i]'(by omega), l[i]) (List.mem_iff_getElem.2 ⟨i, by simp; omega, by simp⟩)
    have h3 := hG.clock (m.clocks[i]'(by omega)) (List.getElem_mem _)
    simp only [inR, Bool.and_eq_true, decide_eq_true_eq] at h2
    omega
  · have h2 := List.mem_of_mem_drop h1
    simp at h2; omega

theorem Play_spec (m : HouseM) (s1 s2 s3 lv : Value) (l : List Int) (hm : HouseIs H m s1 s2 s3) (hr : RdS H lv 1 (encI l)) (hn : l.length ≤ 1000000) :
    CallJ Try.prog E 25 [hv m s1 s2 s3, lv] (fun v H' g' => (if playE m l = 0 then v = .tuple #[.slice (some ⟨H.length, 0, none⟩) m.clips.length m.clips.length, .int .i64 0] ∧ H' = H ++ [.row (encE (playS m l)) 1 true] else v = .tuple #[.slice none 0 0, .int .i64 (playE m l)] ∧ H' = H) ∧ g' = g) H g := by
  have hok := hm.cells
  refine CallJ.tidy ?_
  by_cases hz : checkS m = 0
  · have hG := good_of hz
    have hl4 : (encE (errsOf m l)).length = 4 := by simp [encE, errsOf_len m l hG.n1]
    have hall4 : List.take 4 (encE (errsOf m l)) = encE (errsOf m l) := List.take_of_length_le (by omega)
    have hE := encE_ok (errsOf m l)
    have hrc := hm.clips
    have hn3 := hG.n3
    unfold hv
    refine CallJ.enter Try.func25 rfl (by simp only [Try.ntmps25, List.length_cons, List.length_nil, Nat.zero_add, Nat.reduceAdd, Nat.reduceSub, List.replicate_succ, List.replicate_zero, List.cons_append, List.nil_append]; rfl) ?_
    repeat' (first
      | (refine is_ucall ?_; first
        | refine st_callP (h := CheckHouse_spec _ _ _ m s1 s2 s3 (hm.ext extA)) (k := ?_)
        | refine st_callP (h := errorsOf_spec _ _ _ m s1 s2 s3 _ l (hm.ext extA) hG.n1 (hr.ext extA) hn) (k := ?_)
        | refine st_callP (h := trueMinute_spec _ _ _ (encE (errsOf m l)) c _ hl4 (encE_ok _) hc1 hc2 hat.1 hat.2) (k := ?_)
        | fail)
      | (refine is_umcall ?_; first
        | refine mj_callP (h := CheckHouse_spec _ _ _ m s1 s2 s3 (hm.ext extA)) (k := ?_)
        | refine mj_callP (h := errorsOf_spec _ _ _ m s1 s2 s3 _ l (hm.ext extA) hG.n1 (hr.ext extA) hn) (k := ?_)
        | refine mj_callP (h := trueMinute_spec _ _ _ (encE (errsOf m l)) c _ hl4 (encE_ok _) hc1 hc2 hat.1 hat.2) (k := ?_)
        | fail)
      | refine W1 ?_ | refine Wc ?_ | refine W2c ?_ ?_ | refine Wg ?_ | refine W2 ?_ ?_ | exact Wdead | refine Wlive (fun hb => ?_) | intro _ _ _ _ _ _ _ _ | refine We ?_ | refine Wx ?_ | refine Wt ?_ | refine Wm ?_ | refine W2m ?_ ?_ | refine Wl ?_
      | fail)
    · have e : playE m l = 2 := by unfold playE; rw [if_pos hz, hb]; rfl
      refine ⟨?_, rfl⟩
      rw [e, if_neg (by omega)]
      exact ⟨rfl, rfl⟩
    · have hie : isE m l = true := hb
      have hS := errsOf_sound hG hie
      have e : playE m l = 0 := by unfold playE; rw [if_pos hz, hie]; rfl
      have hpl : (playS m l).length = m.clips.length := by simp [playS]
      have e0 : List.replicate m.clips.length (Value.int .i64 (Int.ofNat 0)) = encE ((playS m l).take 0 ++ List.drop 0 (List.replicate m.clips.length 0)) := by simp [encE]
      refine WPJ.loopT m.clips.length [33, 34, 35, 36, 11, 10, 37, 38, 39, 40, 41, 42, 43] (fun j (_ : Unit) => [(32, .int .i64 j)])
        (fun j _ H1 g1 => g1 = g ∧ Ext H H1 ∧ H1[H.length + 1]? = some (.row (encE (errsOf m l)) 1 true) ∧ H1[H.length + 2]? = some (.row (encE ((playS m l).take j ++ List.drop j (List.replicate m.clips.length 0))) 1 true) ∧ H.length + 2 < H1.length) 0 () (Nat.zero_le _)
        (by intro p hp; simp at hp; rcases hp with rfl; rfl) ⟨rfl, extA, getA, by rw [← e0]; exact getA, by simp⟩ ?_
      rintro j _ H1 g1 hj ⟨rfl, he, hb1, hb2, hlen⟩ hl0
      simp only [updT, maskT, List.set_cons_zero, List.set_cons_succ]
      rcases Nat.lt_or_ge j m.clips.length with hlt | hge
      · have hel : (m.clips.map encC)[j]? = some (encC m.clips[j]) := by simp [hlt]
        have hmem : m.clips[j] ∈ m.clips := List.getElem_mem hlt
        have hat := hS.at hmem
        obtain ⟨hc1, hc2, _, _⟩ := hS.2.2 _ hmem
        have hmid := set_mid (l := playS m l) (j := j) (z := List.replicate m.clips.length 0) (by omega) (by simp; omega)
        have hpj : (playS m l)[j]'(by omega) = trueM (errsOf m l) m.clips[j] := by simp [playS]
        rw [hpj] at hmid
        have hel4 : (encE ((playS m l).take j ++ List.drop j (List.replicate m.clips.length 0))).length = m.clips.length := by simp [encE]; omega
        generalize (playS m l).take j ++ List.drop j (List.replicate m.clips.length 0) = xs at *
        generalize m.clips[j] = c at *
        repeat' (first
          | (refine is_ucall ?_; first
            | refine st_callP (h := CheckHouse_spec _ _ _ m s1 s2 s3 (hm.ext extA)) (k := ?_)
            | refine st_callP (h := errorsOf_spec _ _ _ m s1 s2 s3 _ l (hm.ext extA) hG.n1 (hr.ext extA) hn) (k := ?_)
            | refine st_callP (h := trueMinute_spec _ _ _ (encE (errsOf m l)) c _ hl4 (encE_ok _) hc1 hc2 hat.1 hat.2) (k := ?_)
            | fail)
          | (refine is_umcall ?_; first
            | refine mj_callP (h := CheckHouse_spec _ _ _ m s1 s2 s3 (hm.ext extA)) (k := ?_)
            | refine mj_callP (h := errorsOf_spec _ _ _ m s1 s2 s3 _ l (hm.ext extA) hG.n1 (hr.ext extA) hn) (k := ?_)
            | refine mj_callP (h := trueMinute_spec _ _ _ (encE (errsOf m l)) c _ hl4 (encE_ok _) hc1 hc2 hat.1 hat.2) (k := ?_)
            | fail)
          | refine W1 ?_ | refine Wc ?_ | refine W2c ?_ ?_ | refine Wg ?_ | refine W2 ?_ ?_ | exact Wdead | refine Wlive (fun hb => ?_) | intro _ _ _ _ _ _ _ _ | refine We ?_ | refine Wx ?_ | refine Wt ?_ | refine Wm ?_ | refine W2m ?_ ?_ | refine Wl ?_
          | fail)
        refine ⟨(), hlt, (by repeat' (first | exact Weak.nil | refine Weak.wild ?_ | refine Weak.same ?_ | refine Weak.intEq (by first | omega | (simp; done) | (push_cast; omega)) ?_)), rfl, extA, getA, ?_, by simp; omega⟩
        rw [← hmid, ← row_encE]
        exact getA
      · have hj' : j = m.clips.length := by omega
        rw [hj', List.take_of_length_le (by omega), List.drop_of_length_le (by simp), List.append_nil] at hb2
        repeat' (first
          | (refine is_ucall ?_; first
            | refine st_callP (h := CheckHouse_spec _ _ _ m s1 s2 s3 (hm.ext extA)) (k := ?_)
            | refine st_callP (h := errorsOf_spec _ _ _ m s1 s2 s3 _ l (hm.ext extA) hG.n1 (hr.ext extA) hn) (k := ?_)
            | refine st_callP (h := trueMinute_spec _ _ _ (encE (errsOf m l)) c _ hl4 (encE_ok _) hc1 hc2 hat.1 hat.2) (k := ?_)
            | fail)
          | (refine is_umcall ?_; first
            | refine mj_callP (h := CheckHouse_spec _ _ _ m s1 s2 s3 (hm.ext extA)) (k := ?_)
            | refine mj_callP (h := errorsOf_spec _ _ _ m s1 s2 s3 _ l (hm.ext extA) hG.n1 (hr.ext extA) hn) (k := ?_)
            | refine mj_callP (h := trueMinute_spec _ _ _ (encE (errsOf m l)) c _ hl4 (encE_ok _) hc1 hc2 hat.1 hat.2) (k := ?_)
            | fail)
          | refine W1 ?_ | refine Wc ?_ | refine W2c ?_ ?_ | refine Wg ?_ | refine W2 ?_ ?_ | exact Wdead | refine Wlive (fun hb => ?_) | intro _ _ _ _ _ _ _ _ | refine We ?_ | refine Wx ?_ | refine Wt ?_ | refine Wm ?_ | refine W2m ?_ ?_ | refine Wl ?_
          | fail)
        refine Tidy.two extA hb2 (by omega) (encE_flat _) (.tuple2 (.slice (j := 0) rfl) (.flat rfl)) ⟨?_, rfl⟩
        rw [e, if_pos rfl]
        exact ⟨rfl, rfl⟩
  · have e : playE m l = checkS m := by unfold playE; rw [if_neg hz]
    unfold hv
    refine CallJ.enter Try.func25 rfl (by simp only [Try.ntmps25, List.length_cons, List.length_nil, Nat.zero_add, Nat.reduceAdd, Nat.reduceSub, List.replicate_succ, List.replicate_zero, List.cons_append, List.nil_append]; rfl) ?_
    repeat' (first
      | (refine is_ucall ?_; first
        | refine st_callP (h := CheckHouse_spec _ _ _ m s1 s2 s3 (hm.ext extA)) (k := ?_)
        | refine st_callP (h := errorsOf_spec _ _ _ m s1 s2 s3 _ l (hm.ext extA) hG.n1 (hr.ext extA) hn) (k := ?_)
        | refine st_callP (h := trueMinute_spec _ _ _ (encE (errsOf m l)) c _ hl4 (encE_ok _) hc1 hc2 hat.1 hat.2) (k := ?_)
        | fail)
      | (refine is_umcall ?_; first
        | refine mj_callP (h := CheckHouse_spec _ _ _ m s1 s2 s3 (hm.ext extA)) (k := ?_)
        | refine mj_callP (h := errorsOf_spec _ _ _ m s1 s2 s3 _ l (hm.ext extA) hG.n1 (hr.ext extA) hn) (k := ?_)
        | refine mj_callP (h := trueMinute_spec _ _ _ (encE (errsOf m l)) c _ hl4 (encE_ok _) hc1 hc2 hat.1 hat.2) (k := ?_)
        | fail)
      | refine W1 ?_ | refine Wc ?_ | refine W2c ?_ ?_ | refine Wg ?_ | refine W2 ?_ ?_ | exact Wdead | refine Wlive (fun hb => ?_) | intro _ _ _ _ _ _ _ _ | refine We ?_ | refine Wx ?_ | refine Wt ?_ | refine Wm ?_ | refine W2m ?_ ?_ | refine Wl ?_
      | fail)
    refine ⟨?_, rfl⟩
    rw [e, if_neg hz]
    exact ⟨rfl, rfl⟩
end
end Go.Proofs.Ytehobnpoeodhkaa

namespace Go.Proofs.Ytehobnpoeodhkaa
open Go Go.Abs Go.Proofs
set_option maxHeartbeats 400000
attribute [local irreducible] CallJ OpsJ WPJ CallV MonoJ

theorem Tidy.one {γ : Type} {H H' : AHeap} {K : Value → AHeap → γ → Prop} {v v0 : Value} {g' : γ} {i : Nat} {cells : List Value} {es : Nat} (he : Ext H H') (hi : H'[i]? = some (.row cells es true)) (hl : H.length ≤ i) (hc : cells.all flat1 = true) (hv : Mv H.length [i] v v0) (hk : K v0 (H ++ [.row cells es true]) g') : Tidy H K v H' g' := Tidy.two he hi hl hc hv hk

theorem flatten_take2 {α : Type} {xs : List (List α)} (h : ∀ x ∈ xs, x.length = 2) : ∀ j, xs.flatten.take (j * 2) = (xs.take j).flatten := by
  induction xs with
  | nil => simp
  | cons x xs ih =>
    intro j
    cases j with
    | zero => simp
    | succ j =>
      have hx := h x (by simp)
      rw [List.flatten_cons, List.take_append, List.take_succ_cons, List.flatten_cons, List.take_of_length_le (by omega), ← ih (fun y hy => h y (by simp [hy]))]
      congr 2; omega
theorem flatten_drop2 {α : Type} {xs : List (List α)} (h : ∀ x ∈ xs, x.length = 2) : ∀ j, xs.flatten.drop (j * 2) = (xs.drop j).flatten := by
  induction xs with
  | nil => simp
  | cons x xs ih =>
    intro j
    cases j with
    | zero => simp
    | succ j =>
      have hx := h x (by simp)
      rw [List.flatten_cons, List.drop_append, List.drop_succ_cons, ← ih (fun y hy => h y (by simp [hy])), List.drop_of_length_le (by omega), List.nil_append]
      congr 1; omega
theorem flatten_len2 {α : Type} {xs : List (List α)} (h : ∀ x ∈ xs, x.length = 2) : xs.flatten.length = xs.length * 2 := by
  rw [List.length_flatten]
  induction xs with
  | nil => rfl
  | cons x xs ih => have := h x (by simp); have := ih (fun y hy => h y (by simp [hy])); simp_all; omega
/-- the first `j` of `n` are done -/
def doneR (f : Nat → Int × Int) (n j : Nat) : List (List Value) := (List.range n).map fun k => if k < j then encR (f k) else encR (0, 0)
theorem doneR_two (f : Nat → Int × Int) (n j : Nat) : ∀ x ∈ doneR f n j, x.length = 2 := fun x hx => by
  simp only [doneR, List.mem_map] at hx
  obtain ⟨k, _, rfl⟩ := hx
  split <;> rfl
theorem doneR_len (f : Nat → Int × Int) (n j : Nat) : (doneR f n j).length = n := by simp [doneR]
theorem doneR_zero (f : Nat → Int × Int) (n : Nat) : doneR f n 0 = List.replicate n (encR (0, 0)) := by
  unfold doneR
  rw [List.eq_replicate_iff]
  exact ⟨by simp, fun b hb => by simp at hb; exact hb.2.symm⟩
theorem doneR_all (f : Nat → Int × Int) (n : Nat) : doneR f n n = (List.range n).map fun k => encR (f k) := by
  unfold doneR
  exact List.map_congr_left fun k hk => by rw [if_pos (List.mem_range.1 hk)]
theorem doneR_step (f : Nat → Int × Int) {n j : Nat} (h : j < n) : splice (doneR f n j).flatten (j * 2) (encR (f j)) = (doneR f n (j + 1)).flatten := by
  unfold splice
  rw [flatten_take2 (doneR_two f n j), show j * 2 + (encR (f j)).length = (j + 1) * 2 by simp; omega, flatten_drop2 (doneR_two f n j)]
  have e : doneR f n (j + 1) = (doneR f n j).take j ++ [encR (f j)] ++ (doneR f n j).drop (j + 1) := by
    refine List.ext_getElem (by simp [doneR]; omega) fun k h1 h2 => ?_
    simp only [doneR, List.length_map, List.length_range] at h1
    rcases Nat.lt_trichotomy k j with hk | hk | hk
    · rw [List.getElem_append_left (by simp [doneR]; omega), List.getElem_append_left (by simp [doneR]; omega)]
      simp [doneR, hk, show k < j + 1 by omega]
    · subst hk
      rw [List.getElem_append_left (by simp [doneR]; omega), List.getElem_append_right (by simp [doneR]; omega)]
      simp [doneR]
    · rw [List.getElem_append_right (by simp [doneR]; omega)]
      simp [doneR, show ¬ k < j + 1 by omega]
      intro h3; omega
  rw [e]; simp
theorem doneR_flat (f : Nat → Int × Int) (n j : Nat) : (doneR f n j).flatten.all flat1 = true := List.all_eq_true.2 fun x hx => by
  obtain ⟨y, hy, hx⟩ := List.mem_flatten.1 hx
  simp only [doneR, List.mem_map] at hy
  obtain ⟨k, _, rfl⟩ := hy
  split at hx <;> (simp at hx; rcases hx with rfl | rfl <;> rfl)

section
variable {γ : Type} (E : Env γ) (g : γ) (H : AHeap)
abbrev bdS (m : HouseM) (q : Nat → List Int → Int) (t : Nat) : Int × Int := (loS (truthsL m) (q t), hiS (truthsL m) (q t))
theorem boundsOfEach_spec (m : HouseM) (s1 s2 s3 : Value) (hm : HouseIs H m s1 s2 s3) (hV : Valid m) (ff : Fn) (fx fc : List Value) (n : Nat) (hn : n ≤ 1000000) (q : Nat → List Int → Int)
    (hf : ∀ t < n, ∀ es, es ∈ truthsL m → ∀ H', Ext H H' → CallV Try.prog E (.func ff ⟨fx⟩ ⟨fc⟩) [wval m s1 s2 s3 es, .int .i64 t] (fun v H2 g' => v = .int .i64 (q t es) ∧ H2 = H' ∧ g' = g) H' g) :
    CallJ Try.prog E 91 [.agg ⟨[.func ff ⟨fx⟩ ⟨fc⟩]⟩, hv m s1 s2 s3, .int .i64 n] (fun v H' g' => v = .slice (some ⟨H.length, 0, none⟩) n n ∧ H' = H ++ [.row ((List.range n).map fun t => encR (bdS m q t)).flatten 2 true] ∧ g' = g) H g := by
  have hok := hm.cells
  refine CallJ.tidy ?_
  unfold hv
  refine CallJ.enter Try.func91 rfl (by simp only [Try.ntmps91, List.length_cons, List.length_nil, Nat.zero_add, Nat.reduceAdd, Nat.reduceSub, List.replicate_succ, List.replicate_zero, List.cons_append, List.nil_append]; rfl) ?_
  repeat' (first
    | (refine is_ucall ?_; first
      | refine st_callP (h := bounds_spec _ _ _ m s1 s2 s3 (hm.ext extA) hV _ _ _ _ (q j) (fun es hes H' he => hf j hlt es hes H' (Ext.trans extA he))) (k := ?_)
      | fail)
    | (refine is_umcall ?_; first
      | refine mj_callP (h := bounds_spec _ _ _ m s1 s2 s3 (hm.ext extA) hV _ _ _ _ (q j) (fun es hes H' he => hf j hlt es hes H' (Ext.trans extA he))) (k := ?_)
      | fail)
    | refine W1 ?_ | refine Wc ?_ | refine W2c ?_ ?_ | refine Wg ?_ | refine W2 ?_ ?_ | exact Wdead | refine Wlive (fun hb => ?_) | intro _ _ _ _ _ _ _ _ | refine We ?_ | refine Wx ?_ | refine Wt ?_ | refine Wm ?_ | refine W2m ?_ ?_ | refine Wl ?_
    | fail)
  refine WPJ.loopT n [13, 14, 8, 15, 16, 17, 18, 19, 20, 21, 22] (fun j (_ : Unit) => [(12, .int .i64 j)])
    (fun j _ H1 g1 => g1 = g ∧ Ext H H1 ∧ H1[H.length]? = some (.row [.func ff ⟨fx⟩ ⟨fc⟩] 1 true) ∧ H1[H.length + 1]? = some (.row (hcells m s1 s2 s3) 1 true) ∧ H1[H.length + 2]? = some (.row (doneR (bdS m q) n j).flatten 2 true) ∧ H.length + 2 < H1.length) 0 () (Nat.zero_le _)
    (by intro p hp; simp at hp; rcases hp with rfl; rfl) ⟨rfl, extA, getA, getA, by rw [doneR_zero]; exact getA, by simp⟩ ?_
  rintro j _ H1 g1 hj ⟨rfl, he, hb0, hb1, hb2, hlen⟩ hl0
  simp only [updT, maskT, List.set_cons_zero, List.set_cons_succ]
  rcases Nat.lt_or_ge j n with hlt | hge
  · have hstep := doneR_step (bdS m q) hlt
    have hfl : (doneR (bdS m q) n j).flatten.length = n * 2 := by rw [flatten_len2 (doneR_two _ _ _), doneR_len]
    generalize (doneR (bdS m q) n j).flatten = row at *
    repeat' (first
      | (refine is_ucall ?_; first
        | refine st_callP (h := bounds_spec _ _ _ m s1 s2 s3 (hm.ext extA) hV _ _ _ _ (q j) (fun es hes H' he => hf j hlt es hes H' (Ext.trans extA he))) (k := ?_)
        | fail)
      | (refine is_umcall ?_; first
        | refine mj_callP (h := bounds_spec _ _ _ m s1 s2 s3 (hm.ext extA) hV _ _ _ _ (q j) (fun es hes H' he => hf j hlt es hes H' (Ext.trans extA he))) (k := ?_)
        | fail)
      | refine W1 ?_ | refine Wc ?_ | refine W2c ?_ ?_ | refine Wg ?_ | refine W2 ?_ ?_ | exact Wdead | refine Wlive (fun hb => ?_) | intro _ _ _ _ _ _ _ _ | refine We ?_ | refine Wx ?_ | refine Wt ?_ | refine Wm ?_ | refine W2m ?_ ?_ | refine Wl ?_
      | fail)
    refine ⟨(), hlt, (by repeat' (first | exact Weak.nil | refine Weak.wild ?_ | refine Weak.same ?_ | refine Weak.intEq (by first | omega | (simp; done) | (push_cast; omega)) ?_)), rfl, extA, getA, getA, ?_, by simp; omega⟩
    rw [← hstep]
    simp only [splice, encR, List.length_cons, List.length_nil, List.append_assoc, List.cons_append, List.nil_append, Nat.zero_add, Nat.reduceAdd]
    exact getA
  · have hj' : j = n := by omega
    rw [hj', doneR_all] at hb2
    repeat' (first
      | (refine is_ucall ?_; first
        | refine st_callP (h := bounds_spec _ _ _ m s1 s2 s3 (hm.ext extA) hV _ _ _ _ (q j) (fun es hes H' he => hf j hlt es hes H' (Ext.trans extA he))) (k := ?_)
        | fail)
      | (refine is_umcall ?_; first
        | refine mj_callP (h := bounds_spec _ _ _ m s1 s2 s3 (hm.ext extA) hV _ _ _ _ (q j) (fun es hes H' he => hf j hlt es hes H' (Ext.trans extA he))) (k := ?_)
        | fail)
      | refine W1 ?_ | refine Wc ?_ | refine W2c ?_ ?_ | refine Wg ?_ | refine W2 ?_ ?_ | exact Wdead | refine Wlive (fun hb => ?_) | intro _ _ _ _ _ _ _ _ | refine We ?_ | refine Wx ?_ | refine Wt ?_ | refine Wm ?_ | refine W2m ?_ ?_ | refine Wl ?_
      | fail)
    refine Tidy.one extA hb2 (by omega) (by rw [← doneR_all]; exact doneR_flat _ _ _) (.slice (j := 0) rfl) ⟨rfl, rfl, rfl⟩

/-! ### Clocks, Hours -/
theorem error_V (m : HouseM) (s1 s2 s3 : Value) (hm : HouseIs H m s1 s2 s3) (hG : Good m) (t : Nat) (ht : t < m.clocks.length) (es : List Int) (hes : es ∈ truthsL m) :
    CallV Try.prog E (.func (.func 90) ⟨[]⟩ ⟨[]⟩) [wval m s1 s2 s3 es, .int .i64 t] (fun v H2 g' => v = .int .i64 (es.getD t 0) ∧ H2 = H ∧ g' = g) H g := by
  have h4 := (hG.valid.sound es (truths_mem hes)).1
  have hn := hG.n1
  have e : (wm m es).errors[(t : Int).toNat]? = some (es.getD t 0) := by
    show es[(t : Int).toNat]? = _
    rw [Int.toNat_natCast, List.getD_eq_getElem?_getD, List.getElem?_eq_getElem (by omega)]; rfl
  exact CallV.of_func EntC.ent (errorOf_spec E g H (wm m es) _ s1 s2 s3 t _ (work_is hm h4) (by omega) (by omega) e)
def hoursQ (m : HouseM) (t : Nat) (es : List Int) : Int := hoursS m.hour m.grace ((staysS es m.clips)[t]?.getD stay0)
theorem hours_V (m : HouseM) (s1 s2 s3 : Value) (hm : HouseIs H m s1 s2 s3) (hG : Good m) (t : Nat) (ht : t < m.tickets.length) (es : List Int) (hes : es ∈ truthsL m) :
    CallV Try.prog E (.func (.func 92) ⟨[]⟩ ⟨[]⟩) [wval m s1 s2 s3 es, .int .i64 t] (fun v H2 g' => v = .int .i64 (hoursQ m t es) ∧ H2 = H ∧ g' = g) H g := by
  have h4 := (hG.valid.sound es (truths_mem hes)).1
  have hn := hG.n2
  have hsl := staysS_len es m.clips
  have hh := hG.hour
  have hgr := hG.grace
  have e : (wm m es).stays[(t : Int).toNat]? = some ((staysS es m.clips)[t]?.getD stay0) := by
    show (staysS es m.clips)[(t : Int).toNat]? = _
    rw [Int.toNat_natCast, List.getElem?_eq_getElem (by omega)]; rfl
  refine CallV.of_func EntC.ent (hoursOf_spec E g H (wm m es) _ s1 s2 s3 t _ (work_is hm h4) (by omega) (by omega) e ⟨by show 0 < m.hour; omega, by show m.hour ≤ 1000000; omega⟩ ⟨by show 0 ≤ m.grace; omega, by show m.grace ≤ 1000000; omega⟩ fun h2 => ?_)
  have := stays_bd (hG.valid.sound es (truths_mem hes)) _ (List.mem_of_getElem? e)
  exact ⟨this.1 (by omega), this.2.1 h2⟩

def clocksS (m : HouseM) : List (Int × Int) := (List.range m.clocks.length).map (bdS m fun t es => es.getD t 0)
def hrsS (m : HouseM) : List (Int × Int) := (List.range m.tickets.length).map (bdS m (hoursQ m))
/-- the answer of a call that hands over ranges -/
def RangesA (H : AHeap) (e : Int) (l : List (Int × Int)) (v : Value) (H' : AHeap) : Prop := if e = 0 then v = .tuple #[.slice (some ⟨H.length, 0, none⟩) l.length l.length, .int .i64 0] ∧ H' = H ++ [.row (l.map encR).flatten 2 true] else v = .tuple #[.slice none 0 0, .int .i64 e] ∧ H' = H
theorem rng_flat (l : List (Int × Int)) : (l.map encR).flatten.all flat1 = true := List.all_eq_true.2 fun x hx => by
  obtain ⟨y, hy, hx⟩ := List.mem_flatten.1 hx
  obtain ⟨k, _, rfl⟩ := List.mem_map.1 hy
  simp at hx; rcases hx with rfl | rfl <;> rfl
theorem Clocks_spec (m : HouseM) (s1 s2 s3 : Value) (hm : HouseIs H m s1 s2 s3) : CallJ Try.prog E 34 [hv m s1 s2 s3] (fun v H' g' => RangesA H (checkT m) (clocksS m) v H' ∧ g' = g) H g := by
  have hok := hm.cells
  have hrc := hm.clocks
  refine CallJ.tidy ?_
  unfold hv
  refine CallJ.enter Try.func34 rfl (by simp only [Try.ntmps34, List.length_cons, List.length_nil, Nat.zero_add, Nat.reduceSub, List.replicate_succ, List.replicate_zero, List.cons_append, List.nil_append]; rfl) ?_
  repeat' (first
    | (refine is_ucall ?_; first
      | refine st_callP (h := checkTruth_spec _ _ _ m s1 s2 s3 (hm.ext extA) (fun h => (good_of h).valid)) (k := ?_)
      | fail)
    | (refine is_umcall ?_; first
      | refine mj_callP (h := checkTruth_spec _ _ _ m s1 s2 s3 (hm.ext extA) (fun h => (good_of h).valid)) (k := ?_)
      | fail)
    | refine W1 ?_ | refine Wc ?_ | refine W2c ?_ ?_ | refine Wg ?_ | refine W2 ?_ ?_ | exact Wdead | refine Wlive (fun hb => ?_) | intro _ _ _ _ _ _ _ _ | refine We ?_ | refine Wx ?_ | refine Wt ?_ | refine Wm ?_ | refine W2m ?_ ?_ | refine Wl ?_
    | fail)
  · exact ⟨by unfold RangesA; rw [if_neg (by assumption)]; exact ⟨rfl, rfl⟩, rfl⟩
  · have hz : checkT m = 0 := by assumption
    have hG := good_of (checkT_zero hz)
    have hn1 := hG.n1
    refine st_call rfl (boundsOfEach_spec E g _ m s1 s2 s3 (hm.ext extA) hG.valid _ _ _ _ (by simp; omega) (fun t es => es.getD t 0) (fun t ht es hes H' he => error_V E g H' m s1 s2 s3 (hm.ext (Ext.trans extA he)) hG t (by simpa using ht) es hes)) ?_
    rintro _ _ g ⟨rfl, rfl, rfl⟩
    refine OpsJ.normA ?_
    repeat' (first
      | (refine is_ucall ?_; first
        | refine st_callP (h := checkTruth_spec _ _ _ m s1 s2 s3 (hm.ext extA) (fun h => (good_of h).valid)) (k := ?_)
        | fail)
      | (refine is_umcall ?_; first
        | refine mj_callP (h := checkTruth_spec _ _ _ m s1 s2 s3 (hm.ext extA) (fun h => (good_of h).valid)) (k := ?_)
        | fail)
      | refine W1 ?_ | refine Wc ?_ | refine W2c ?_ ?_ | refine Wg ?_ | refine W2 ?_ ?_ | exact Wdead | refine Wlive (fun hb => ?_) | intro _ _ _ _ _ _ _ _ | refine We ?_ | refine Wx ?_ | refine Wt ?_ | refine Wm ?_ | refine W2m ?_ ?_ | refine Wl ?_
      | fail)
    refine Tidy.two (i := H.length + 1) (cells := ((clocksS m).map encR).flatten) (es := 2) extA (by rw [clocksS, List.map_map]; exact getA) (by omega) (rng_flat _) (.tuple2 (.slice (j := 0) rfl) (.flat rfl)) ⟨?_, rfl⟩
    unfold RangesA
    rw [if_pos hz]
    exact ⟨by simp [clocksS], rfl⟩
theorem Hours_spec (m : HouseM) (s1 s2 s3 : Value) (hm : HouseIs H m s1 s2 s3) : CallJ Try.prog E 35 [hv m s1 s2 s3] (fun v H' g' => RangesA H (checkT m) (hrsS m) v H' ∧ g' = g) H g := by
  have hok := hm.cells
  have hrc := hm.tickets
  refine CallJ.tidy ?_
  unfold hv
  refine CallJ.enter Try.func35 rfl (by simp only [Try.ntmps35, List.length_cons, List.length_nil, Nat.zero_add, Nat.reduceSub, List.replicate_succ, List.replicate_zero, List.cons_append, List.nil_append]; rfl) ?_
  repeat' (first
    | (refine is_ucall ?_; first
      | refine st_callP (h := checkTruth_spec _ _ _ m s1 s2 s3 (hm.ext extA) (fun h => (good_of h).valid)) (k := ?_)
      | fail)
    | (refine is_umcall ?_; first
      | refine mj_callP (h := checkTruth_spec _ _ _ m s1 s2 s3 (hm.ext extA) (fun h => (good_of h).valid)) (k := ?_)
      | fail)
    | refine W1 ?_ | refine Wc ?_ | refine W2c ?_ ?_ | refine Wg ?_ | refine W2 ?_ ?_ | exact Wdead | refine Wlive (fun hb => ?_) | intro _ _ _ _ _ _ _ _ | refine We ?_ | refine Wx ?_ | refine Wt ?_ | refine Wm ?_ | refine W2m ?_ ?_ | refine Wl ?_
    | fail)
  · exact ⟨by unfold RangesA; rw [if_neg (by assumption)]; exact ⟨rfl, rfl⟩, rfl⟩
  · have hz : checkT m = 0 := by assumption
    have hG := good_of (checkT_zero hz)
    have hn2 := hG.n2
    refine st_call rfl (boundsOfEach_spec E g _ m s1 s2 s3 (hm.ext extA) hG.valid _ _ _ _ (by simp; omega) (hoursQ m) (fun t ht es hes H' he => hours_V E g H' m s1 s2 s3 (hm.ext (Ext.trans extA he)) hG t (by simpa using ht) es hes)) ?_
    rintro _ _ g ⟨rfl, rfl, rfl⟩
    refine OpsJ.normA ?_
    repeat' (first
      | (refine is_ucall ?_; first
        | refine st_callP (h := checkTruth_spec _ _ _ m s1 s2 s3 (hm.ext extA) (fun h => (good_of h).valid)) (k := ?_)
        | fail)
      | (refine is_umcall ?_; first
        | refine mj_callP (h := checkTruth_spec _ _ _ m s1 s2 s3 (hm.ext extA) (fun h => (good_of h).valid)) (k := ?_)
        | fail)
      | refine W1 ?_ | refine Wc ?_ | refine W2c ?_ ?_ | refine Wg ?_ | refine W2 ?_ ?_ | exact Wdead | refine Wlive (fun hb => ?_) | intro _ _ _ _ _ _ _ _ | refine We ?_ | refine Wx ?_ | refine Wt ?_ | refine Wm ?_ | refine W2m ?_ ?_ | refine Wl ?_
      | fail)
    refine Tidy.two (i := H.length + 1) (cells := ((hrsS m).map encR).flatten) (es := 2) extA (by rw [hrsS, List.map_map]; exact getA) (by omega) (rng_flat _) (.tuple2 (.slice (j := 0) rfl) (.flat rfl)) ⟨?_, rfl⟩
    unfold RangesA
    rw [if_pos hz]
    exact ⟨by simp [hrsS], rfl⟩
end
end Go.Proofs.Ytehobnpoeodhkaa

namespace Go.Proofs.Ytehobnpoeodhkaa
open Go Go.Abs Go.Proofs
set_option maxHeartbeats 400000
attribute [local irreducible] CallJ OpsJ WPJ CallV MonoJ

section
variable {γ : Type} (E : Env γ) (g : γ) (H : AHeap)
def longQ (m : HouseM) (t : Nat) (es : List Int) : Bool := decide (hoursQ m t es > (m.tickets[t]?.getD (0, 0)).2)
theorem long_V (m : HouseM) (s1 s2 s3 : Value) (hm : HouseIs H m s1 s2 s3) (hG : Good m) (t i : Nat) (ht : t < m.tickets.length) (hi : H[i]? = some (.row [.int .i64 t] 1 true)) (es : List Int) (hes : es ∈ truthsL m) :
    CallV Try.prog E (.func (.func 96) ⟨[]⟩ ⟨[.pointer (some ⟨i, 0, none⟩)]⟩) [wval m s1 s2 s3 es] (fun v H2 g' => v = .bool (longQ m t es) ∧ H2 = H ∧ g' = g) H g := by
  refine CallV.of_func EntC.ent ?_
  have h4 := (hG.valid.sound es (truths_mem hes)).1
  have hwl := wv_len m s1 s2 s3 es (staysS es m.clips) h4 (staysS_len _ _)
  have hwt := wv_take m s1 s2 s3 es (staysS es m.clips) h4 (staysS_len _ _)
  have hwo := wv_ok m s1 s2 s3 es (staysS es m.clips) hm.cells
  have hn := hG.n2
  have hsl := staysS_len es m.clips
  have hh := hG.hour
  have hgr := hG.grace
  have e : (wm m es).stays[(t : Int).toNat]? = some ((staysS es m.clips)[t]?.getD stay0) := by
    show (staysS es m.clips)[(t : Int).toNat]? = _
    rw [Int.toNat_natCast, List.getElem?_eq_getElem (by omega)]; rfl
  have e2 : m.tickets[(t : Int).toNat]? = some (m.tickets[t]?.getD (0, 0)) := by
    rw [Int.toNat_natCast, List.getElem?_eq_getElem ht]; rfl
  have hb := stays_bd (hG.valid.sound es (truths_mem hes)) _ (List.mem_of_getElem? e)
  have hc := fun H' (he : Ext H H') => stayedTooLong_spec E g H' (wm m es) _ s1 s2 s3 t _ _ (work_is (hm.ext he) h4) (by omega) (by omega) e e2 ⟨by show 0 < m.hour; omega, by show m.hour ≤ 1000000; omega⟩ ⟨by show 0 ≤ m.grace; omega, by show m.grace ≤ 1000000; omega⟩ (fun h2 => ⟨hb.1 (by omega), hb.2.1 h2⟩)
  refine CallJ.tidy ?_
  refine CallJ.enter Try.func96 rfl (by simp only [Try.ntmps96, List.length_cons, List.length_nil, Nat.zero_add, Nat.reduceAdd, Nat.reduceSub, List.replicate_succ, List.replicate_zero, List.cons_append, List.nil_append]; rfl) ?_
  repeat' (first
    | refine W1 ?_ | refine Wc ?_ | refine W2c ?_ ?_ | refine Wg ?_ | refine W2 ?_ ?_ | exact Wdead | refine Wlive (fun hb => ?_) | intro _ _ _ _ _ _ _ _ | refine We ?_ | refine Wx ?_ | refine Wt ?_ | refine Wm ?_ | refine W2m ?_ ?_ | refine Wl ?_
    | fail)
  refine st_callP (h := hc _ extA) (k := ?_)
  repeat' (first
    | refine W1 ?_ | refine Wc ?_ | refine W2c ?_ ?_ | refine Wg ?_ | refine W2 ?_ ?_ | exact Wdead | refine Wlive (fun hb => ?_) | intro _ _ _ _ _ _ _ _ | refine We ?_ | refine Wx ?_ | refine Wt ?_ | refine Wm ?_ | refine W2m ?_ ?_ | refine Wl ?_
    | fail)
  exact ⟨rfl, rfl, rfl⟩

def longS (m : HouseM) : List Int := (List.range m.tickets.length).map fun t => verdictS (truthsL m) (longQ m t)
/-- the answer of a call that hands over numbers -/
def IntsA (H : AHeap) (e : Int) (l : List Int) (v : Value) (H' : AHeap) : Prop := if e = 0 then v = .tuple #[.slice (some ⟨H.length, 0, none⟩) l.length l.length, .int .i64 0] ∧ H' = H ++ [.row (encE l) 1 true] else v = .tuple #[.slice none 0 0, .int .i64 e] ∧ H' = H
theorem Long_spec (m : HouseM) (s1 s2 s3 : Value) (hm : HouseIs H m s1 s2 s3) : CallJ Try.prog E 40 [hv m s1 s2 s3] (fun v H' g' => IntsA H (checkT m) (longS m) v H' ∧ g' = g) H g := by
  have hok := hm.cells
  have hrc := hm.tickets
  have hn2' := hm.n2
  refine CallJ.tidy ?_
  unfold hv
  refine CallJ.enter Try.func40 rfl (by simp only [Try.ntmps40, List.length_cons, List.length_nil, Nat.zero_add, Nat.reduceSub, List.replicate_succ, List.replicate_zero, List.cons_append, List.nil_append]; rfl) ?_
  repeat' (first
    | (refine is_ucall ?_; first
      | refine st_callP (h := checkTruth_spec _ _ _ m s1 s2 s3 (hm.ext extA) (fun h => (good_of h).valid)) (k := ?_)
      | fail)
    | (refine is_umcall ?_; first
      | refine mj_callP (h := checkTruth_spec _ _ _ m s1 s2 s3 (hm.ext extA) (fun h => (good_of h).valid)) (k := ?_)
      | fail)
    | refine W1 ?_ | refine Wc ?_ | refine W2c ?_ ?_ | refine Wg ?_ | refine W2 ?_ ?_ | exact Wdead | refine Wlive (fun hb => ?_) | intro _ _ _ _ _ _ _ _ | refine We ?_ | refine Wx ?_ | refine Wt ?_ | refine Wm ?_ | refine W2m ?_ ?_ | refine Wl ?_
    | fail)
  · exact ⟨by unfold IntsA; rw [if_neg (by assumption)]; exact ⟨rfl, rfl⟩, rfl⟩
  · have hz : checkT m = 0 := by assumption
    have hG := good_of (checkT_zero hz)
    have hn2 := hG.n2
    have hpl : (longS m).length = m.tickets.length := by simp [longS]
    have e0 : List.replicate m.tickets.length (Value.int .i64 (Int.ofNat 0)) = encE ((longS m).take 0 ++ List.drop 0 (List.replicate m.tickets.length 0)) := by simp [encE]
    refine WPJ.loopT m.tickets.length [19, 20, 6, 21, 22, 23, 24, 25, 26, 27] (fun j (_ : Unit) => [(18, .int .i64 j)])
      (fun j _ H1 g1 => g1 = g ∧ Ext H H1 ∧ H1[H.length]? = some (.row (hcells m s1 s2 s3) 1 true) ∧ H1[H.length + 1]? = some (.row (encE ((longS m).take j ++ List.drop j (List.replicate m.tickets.length 0))) 1 true) ∧ H.length + 1 < H1.length) 0 () (Nat.zero_le _)
      (by intro p hp; simp at hp; rcases hp with rfl; rfl) ⟨rfl, extA, getA, by rw [← e0]; exact getA, by simp⟩ ?_
    rintro j _ H1 g1 hj ⟨rfl, he, hb1, hb2, hlen⟩ hl0
    simp only [updT, maskT, List.set_cons_zero, List.set_cons_succ]
    rcases Nat.lt_or_ge j m.tickets.length with hlt | hge
    · have hmid := set_mid (l := longS m) (j := j) (z := List.replicate m.tickets.length 0) (by omega) (by simp; omega)
      have hpj : (longS m)[j]'(by omega) = verdictS (truthsL m) (longQ m j) := by simp [longS]
      rw [hpj] at hmid
      have hel4 : (encE ((longS m).take j ++ List.drop j (List.replicate m.tickets.length 0))).length = m.tickets.length := by simp [encE]; omega
      generalize (longS m).take j ++ List.drop j (List.replicate m.tickets.length 0) = xs at *
      repeat' (first
        | (refine is_ucall ?_; first
          | refine st_callP (h := checkTruth_spec _ _ _ m s1 s2 s3 (hm.ext extA) (fun h => (good_of h).valid)) (k := ?_)
          | fail)
        | (refine is_umcall ?_; first
          | refine mj_callP (h := checkTruth_spec _ _ _ m s1 s2 s3 (hm.ext extA) (fun h => (good_of h).valid)) (k := ?_)
          | fail)
        | refine W1 ?_ | refine Wc ?_ | refine W2c ?_ ?_ | refine Wg ?_ | refine W2 ?_ ?_ | exact Wdead | refine Wlive (fun hb => ?_) | intro _ _ _ _ _ _ _ _ | refine We ?_ | refine Wx ?_ | refine Wt ?_ | refine Wm ?_ | refine W2m ?_ ?_ | refine Wl ?_
        | fail)
      refine WPJ.draw 6 mixed (by kernel_rfl) (by kernel_rfl) (by kernel_rfl) (by decide) ?_
      refine MonoJ.normA ?_
      repeat' (first
        | (refine is_ucall ?_; first
          | refine st_callP (h := checkTruth_spec _ _ _ m s1 s2 s3 (hm.ext extA) (fun h => (good_of h).valid)) (k := ?_)
          | fail)
        | (refine is_umcall ?_; first
          | refine mj_callP (h := checkTruth_spec _ _ _ m s1 s2 s3 (hm.ext extA) (fun h => (good_of h).valid)) (k := ?_)
          | fail)
        | refine W1 ?_ | refine Wc ?_ | refine W2c ?_ ?_ | refine Wg ?_ | refine W2 ?_ ?_ | exact Wdead | refine Wlive (fun hb => ?_) | intro _ _ _ _ _ _ _ _ | refine We ?_ | refine Wx ?_ | refine Wt ?_ | refine Wm ?_ | refine W2m ?_ ?_ | refine Wl ?_
        | fail)
      refine mj_callP (h := verdict_spec _ _ _ m s1 s2 s3 (hm.ext extA) hG.valid _ _ _ (longQ m j) (fun es hes H' he => long_V _ _ _ m s1 s2 s3 (hm.ext (Ext.trans extA he)) hG j H1.length hlt (he.get getA) es hes)) (k := ?_)
      repeat' (first
        | (refine is_ucall ?_; first
          | refine st_callP (h := checkTruth_spec _ _ _ m s1 s2 s3 (hm.ext extA) (fun h => (good_of h).valid)) (k := ?_)
          | fail)
        | (refine is_umcall ?_; first
          | refine mj_callP (h := checkTruth_spec _ _ _ m s1 s2 s3 (hm.ext extA) (fun h => (good_of h).valid)) (k := ?_)
          | fail)
        | refine W1 ?_ | refine Wc ?_ | refine W2c ?_ ?_ | refine Wg ?_ | refine W2 ?_ ?_ | exact Wdead | refine Wlive (fun hb => ?_) | intro _ _ _ _ _ _ _ _ | refine We ?_ | refine Wx ?_ | refine Wt ?_ | refine Wm ?_ | refine W2m ?_ ?_ | refine Wl ?_
        | fail)
      refine ⟨(), hlt, (by repeat' (first | exact Weak.nil | refine Weak.wild ?_ | refine Weak.same ?_ | refine Weak.intEq (by first | omega | (simp; done) | (push_cast; omega)) ?_)), rfl, extA, getA, ?_, by simp; omega⟩
      rw [← hmid, ← row_encE]
      exact getA
    · have hj' : j = m.tickets.length := by omega
      rw [hj', List.take_of_length_le (by omega), List.drop_of_length_le (by simp), List.append_nil] at hb2
      repeat' (first
        | (refine is_ucall ?_; first
          | refine st_callP (h := checkTruth_spec _ _ _ m s1 s2 s3 (hm.ext extA) (fun h => (good_of h).valid)) (k := ?_)
          | fail)
        | (refine is_umcall ?_; first
          | refine mj_callP (h := checkTruth_spec _ _ _ m s1 s2 s3 (hm.ext extA) (fun h => (good_of h).valid)) (k := ?_)
          | fail)
        | refine W1 ?_ | refine Wc ?_ | refine W2c ?_ ?_ | refine Wg ?_ | refine W2 ?_ ?_ | exact Wdead | refine Wlive (fun hb => ?_) | intro _ _ _ _ _ _ _ _ | refine We ?_ | refine Wx ?_ | refine Wt ?_ | refine Wm ?_ | refine W2m ?_ ?_ | refine Wl ?_
        | fail)
      refine Tidy.two extA hb2 (by omega) (encE_flat _) (.tuple2 (.slice (j := 0) rfl) (.flat rfl)) ⟨?_, rfl⟩
      unfold IntsA
      rw [if_pos hz]
      exact ⟨by rw [hpl]; rfl, rfl⟩
end
end Go.Proofs.Ytehobnpoeodhkaa

namespace Go.Proofs.Ytehobnpoeodhkaa
open Go Go.Abs Go.Proofs
set_option maxHeartbeats 400000
attribute [local irreducible] CallJ OpsJ WPJ CallV MonoJ

theorem wv_errs (m : HouseM) (s1 s2 s3 : Value) (es : List Int) (ss : List StayM) (h1 : es.length = 4) : List.take 4 (List.drop 5 (wv m s1 s2 s3 es ss)) = encE es := by
  unfold wv
  rw [show List.drop 5 (hcells m s1 s2 s3 ++ (encE es ++ flatS ss)) = encE es ++ flatS ss by rfl, List.take_append_of_le_length (by simp [encE, h1]), List.take_of_length_le (by simp [encE, h1])]
section
variable {γ : Type} (E : Env γ) (g : γ) (H : AHeap)
def proveS (m : HouseM) (l : List Int) : Bool := decide (checkS m = 0) && (isE m l && (truthsL m).contains (errsOf m l))
theorem ProveTruth_spec (m : HouseM) (s1 s2 s3 lv : Value) (l : List Int) (hm : HouseIs H m s1 s2 s3) (hr : RdS H lv 1 (encI l)) (hn : l.length ≤ 1000000) :
    CallJ Try.prog E 28 [hv m s1 s2 s3, lv] (fun v H' g' => v = .bool (proveS m l) ∧ H' = H ∧ g' = g) H g := by
  have hok := hm.cells
  refine CallJ.tidy ?_
  unfold hv
  by_cases hz : checkS m = 0
  · have hG := good_of hz
    have hn1 := hG.n1
    have hV := hG.valid
    have hl4 : (encE (errsOf m l)).length = 4 := by simp [encE, errsOf_len m l hG.n1]
    have hE := encE_ok (errsOf m l)
    have hall4 : List.take 4 (encE (errsOf m l)) = encE (errsOf m l) := List.take_of_length_le (by omega)
    refine CallJ.enter Try.func28 rfl (by simp only [Try.ntmps28, List.length_cons, List.length_nil, Nat.zero_add, Nat.reduceAdd, Nat.reduceSub, List.replicate_succ, List.replicate_zero, List.cons_append, List.nil_append]; rfl) ?_
    repeat' (first
      | (refine is_ucall ?_; first
        | refine st_callP (h := CheckHouse_spec _ _ _ m s1 s2 s3 (hm.ext extA)) (k := ?_)
        | refine st_callP (h := errorsOf_spec _ _ _ m s1 s2 s3 _ l (hm.ext extA) hn1 (hr.ext extA) hn) (k := ?_)
        | fail)
      | (refine is_umcall ?_; first
        | refine mj_callP (h := CheckHouse_spec _ _ _ m s1 s2 s3 (hm.ext extA)) (k := ?_)
        | refine mj_callP (h := errorsOf_spec _ _ _ m s1 s2 s3 _ l (hm.ext extA) hn1 (hr.ext extA) hn) (k := ?_)
        | fail)
      | refine W1 ?_ | refine Wc ?_ | refine W2c ?_ ?_ | refine Wg ?_ | refine W2 ?_ ?_ | exact Wdead | refine Wlive (fun hb => ?_) | intro _ _ _ _ _ _ _ _ | refine We ?_ | refine Wx ?_ | refine Wt ?_ | refine Wm ?_ | refine W2m ?_ ?_ | refine Wl ?_
      | fail)
    · refine ⟨?_, rfl, rfl⟩
      unfold proveS
      rw [hz, hb]; rfl
    · refine st_call rfl (truths_spec E g _ m s1 s2 s3 hok) ?_
      rintro _ _ g ⟨rfl, rfl, rfl⟩
      refine OpsJ.normA ?_
      repeat' (first
        | (refine is_ucall ?_; first
          | refine st_callP (h := CheckHouse_spec _ _ _ m s1 s2 s3 (hm.ext extA)) (k := ?_)
          | refine st_callP (h := errorsOf_spec _ _ _ m s1 s2 s3 _ l (hm.ext extA) hn1 (hr.ext extA) hn) (k := ?_)
          | fail)
        | (refine is_umcall ?_; first
          | refine mj_callP (h := CheckHouse_spec _ _ _ m s1 s2 s3 (hm.ext extA)) (k := ?_)
          | refine mj_callP (h := errorsOf_spec _ _ _ m s1 s2 s3 _ l (hm.ext extA) hn1 (hr.ext extA) hn) (k := ?_)
          | fail)
        | refine W1 ?_ | refine Wc ?_ | refine W2c ?_ ?_ | refine Wg ?_ | refine W2 ?_ ?_ | exact Wdead | refine Wlive (fun hb => ?_) | intro _ _ _ _ _ _ _ _ | refine We ?_ | refine Wx ?_ | refine Wt ?_ | refine Wm ?_ | refine W2m ?_ ?_ | refine Wl ?_
        | fail)
      have hie : isE m l = true := hb
      have hpr : proveS m l = (truthsL m).contains (errsOf m l) := by unfold proveS; rw [hie, hz]; rfl
      refine WPJ.truths (b := H.length + 3) rfl hV (hm.ext extA) getA
        (fun k H2 g2 => g2 = g ∧ Kept (shH (H.length + 3) s1 s2 s3) (H ++ [.row (hcells m s1 s2 s3) 1 true, .row [.bool false] 1 true, .row (encE (errsOf m l)) 1 true, .row (hcells m s1 s2 s3) 1 true]) H2 ∧ Ext H H2 ∧ H2[H.length + 1]? = some (.row [.bool false] 1 true) ∧ H2[H.length + 2]? = some (.row (encE (errsOf m l)) 1 true) ∧ ((truthsL m).take k).contains (errsOf m l) = false ∧ H.length + 3 < H2.length)
        (fun c H2 g2 => c = .ret ∧ g2 = g ∧ Kept (shH (H.length + 3) s1 s2 s3) (H ++ [.row (hcells m s1 s2 s3) 1 true, .row [.bool false] 1 true, .row (encE (errsOf m l)) 1 true, .row (hcells m s1 s2 s3) 1 true]) H2 ∧ Ext H H2 ∧ H2[H.length + 1]? = some (.row [.bool true] 1 true) ∧ (truthsL m).contains (errsOf m l) = true ∧ H.length + 3 < H2.length)
        ⟨rfl, Kept.refl _ _, extA, getA, getA, rfl, by simp⟩ (fun k H2 g2 h => h.2.1) (fun c H2 g2 h => h.2.2.1) ?_ ?_ ?_
      · rintro k es Hc gc hes ⟨rfl, hk, he, hb1, hb2, hnot, hlen⟩
        have h4 := (hV.sound es (truths_mem (List.mem_of_getElem? hes))).1
        have hwl := wv_len m s1 s2 s3 es (staysS es m.clips) h4 (staysS_len _ _)
        have hwt := wv_take m s1 s2 s3 es (staysS es m.clips) h4 (staysS_len _ _)
        have hwo := wv_ok m s1 s2 s3 es (staysS es m.clips) hok
        have hw5 := wv_errs m s1 s2 s3 es (staysS es m.clips) h4
        simp only [List.set_cons_zero, List.set_cons_succ]
        repeat' (first
          | (refine is_ucall ?_; first
            | refine st_callP (h := CheckHouse_spec _ _ _ m s1 s2 s3 (hm.ext extA)) (k := ?_)
            | refine st_callP (h := errorsOf_spec _ _ _ m s1 s2 s3 _ l (hm.ext extA) hn1 (hr.ext extA) hn) (k := ?_)
            | fail)
          | (refine is_umcall ?_; first
            | refine mj_callP (h := CheckHouse_spec _ _ _ m s1 s2 s3 (hm.ext extA)) (k := ?_)
            | refine mj_callP (h := errorsOf_spec _ _ _ m s1 s2 s3 _ l (hm.ext extA) hn1 (hr.ext extA) hn) (k := ?_)
            | fail)
          | refine W1 ?_ | refine Wc ?_ | refine W2c ?_ ?_ | refine Wg ?_ | refine W2 ?_ ?_ | exact Wdead | refine Wlive (fun hb => ?_) | intro _ _ _ _ _ _ _ _ | refine We ?_ | refine Wx ?_ | refine Wt ?_ | refine Wm ?_ | refine W2m ?_ ?_ | refine Wl ?_
          | fail)
        refine st_eqInts (xs := es) (ys := errsOf m l) (by kernel_rfl) rfl rfl h4 (errsOf_len m l hG.n1) ?_
        refine OpsJ.normA ?_
        repeat' (first
          | (refine is_ucall ?_; first
            | refine st_callP (h := CheckHouse_spec _ _ _ m s1 s2 s3 (hm.ext extA)) (k := ?_)
            | refine st_callP (h := errorsOf_spec _ _ _ m s1 s2 s3 _ l (hm.ext extA) hn1 (hr.ext extA) hn) (k := ?_)
            | fail)
          | (refine is_umcall ?_; first
            | refine mj_callP (h := CheckHouse_spec _ _ _ m s1 s2 s3 (hm.ext extA)) (k := ?_)
            | refine mj_callP (h := errorsOf_spec _ _ _ m s1 s2 s3 _ l (hm.ext extA) hn1 (hr.ext extA) hn) (k := ?_)
            | fail)
          | refine W1 ?_ | refine Wc ?_ | refine W2c ?_ ?_ | refine Wg ?_ | refine W2 ?_ ?_ | exact Wdead | refine Wlive (fun hb => ?_) | intro _ _ _ _ _ _ _ _ | refine We ?_ | refine Wx ?_ | refine Wt ?_ | refine Wm ?_ | refine W2m ?_ ?_ | refine Wl ?_
          | fail)
        · refine ⟨rfl, rfl, (by ((repeat' (first | assumption | exact Kept.refl _ _ | refine Kept.set ?_ (shH_not (by assumption) (by first | omega | (simp; omega)) (by first | omega | (simp; omega))) rfl | refine Kept.app ?_ (by intro o ho; simp at ho; first | (subst ho; exact .inr rfl) | (rcases ho with rfl | rfl <;> exact .inr rfl)))); done)), extA, getA, ?_, by simp; omega⟩
          rw [List.contains_iff_mem]
          have := List.mem_of_getElem? hes
          grind
        · refine ⟨rfl, (by ((repeat' (first | assumption | exact Kept.refl _ _ | refine Kept.set ?_ (shH_not (by assumption) (by first | omega | (simp; omega)) (by first | omega | (simp; omega))) rfl | refine Kept.app ?_ (by intro o ho; simp at ho; first | (subst ho; exact .inr rfl) | (rcases ho with rfl | rfl <;> exact .inr rfl)))); done)), extA, getA, getA, ?_, by simp; omega⟩
          obtain ⟨hlt, hel⟩ := List.getElem?_eq_some_iff.1 hes
          rw [List.take_succ_eq_append_getElem hlt, hel]
          have h5 : ¬ es = errsOf m l := by assumption
          have h6 : errsOf m l ∉ List.take k (truthsL m) := by simpa using hnot
          rw [Bool.eq_false_iff, ne_eq, List.contains_iff_mem]
          simp only [List.mem_append, List.mem_singleton, not_or]
          exact ⟨h6, fun h => h5 h.symm⟩
      · rintro Hc gc ⟨rfl, hk, he, hb1, hb2, hnot, hlen⟩
        rw [List.take_length] at hnot
        repeat' (first
          | (refine is_ucall ?_; first
            | refine st_callP (h := CheckHouse_spec _ _ _ m s1 s2 s3 (hm.ext extA)) (k := ?_)
            | refine st_callP (h := errorsOf_spec _ _ _ m s1 s2 s3 _ l (hm.ext extA) hn1 (hr.ext extA) hn) (k := ?_)
            | fail)
          | (refine is_umcall ?_; first
            | refine mj_callP (h := CheckHouse_spec _ _ _ m s1 s2 s3 (hm.ext extA)) (k := ?_)
            | refine mj_callP (h := errorsOf_spec _ _ _ m s1 s2 s3 _ l (hm.ext extA) hn1 (hr.ext extA) hn) (k := ?_)
            | fail)
          | refine W1 ?_ | refine Wc ?_ | refine W2c ?_ ?_ | refine Wg ?_ | refine W2 ?_ ?_ | exact Wdead | refine Wlive (fun hb => ?_) | intro _ _ _ _ _ _ _ _ | refine We ?_ | refine Wx ?_ | refine Wt ?_ | refine Wm ?_ | refine W2m ?_ ?_ | refine Wl ?_
          | fail)
        exact ⟨by rw [hpr, hnot], rfl, rfl⟩
      · rintro c Hc gc ⟨rfl, rfl, hk, he, hb1, hyes, hlen⟩
        repeat' (first
          | (refine is_ucall ?_; first
            | refine st_callP (h := CheckHouse_spec _ _ _ m s1 s2 s3 (hm.ext extA)) (k := ?_)
            | refine st_callP (h := errorsOf_spec _ _ _ m s1 s2 s3 _ l (hm.ext extA) hn1 (hr.ext extA) hn) (k := ?_)
            | fail)
          | (refine is_umcall ?_; first
            | refine mj_callP (h := CheckHouse_spec _ _ _ m s1 s2 s3 (hm.ext extA)) (k := ?_)
            | refine mj_callP (h := errorsOf_spec _ _ _ m s1 s2 s3 _ l (hm.ext extA) hn1 (hr.ext extA) hn) (k := ?_)
            | fail)
          | refine W1 ?_ | refine Wc ?_ | refine W2c ?_ ?_ | refine Wg ?_ | refine W2 ?_ ?_ | exact Wdead | refine Wlive (fun hb => ?_) | intro _ _ _ _ _ _ _ _ | refine We ?_ | refine Wx ?_ | refine Wt ?_ | refine Wm ?_ | refine W2m ?_ ?_ | refine Wl ?_
          | fail)
        exact ⟨by rw [hpr, hyes], rfl, rfl⟩
  · have e : proveS m l = false := by unfold proveS; rw [decide_eq_false hz]; rfl
    rw [e]
    refine CallJ.enter Try.func28 rfl (by simp only [Try.ntmps28, List.length_cons, List.length_nil, Nat.zero_add, Nat.reduceAdd, Nat.reduceSub, List.replicate_succ, List.replicate_zero, List.cons_append, List.nil_append]; rfl) ?_
    repeat' (first
      | (refine is_ucall ?_; first
        | refine st_callP (h := CheckHouse_spec _ _ _ m s1 s2 s3 (hm.ext extA)) (k := ?_)
        | refine st_callP (h := errorsOf_spec _ _ _ m s1 s2 s3 _ l (hm.ext extA) hn1 (hr.ext extA) hn) (k := ?_)
        | fail)
      | (refine is_umcall ?_; first
        | refine mj_callP (h := CheckHouse_spec _ _ _ m s1 s2 s3 (hm.ext extA)) (k := ?_)
        | refine mj_callP (h := errorsOf_spec _ _ _ m s1 s2 s3 _ l (hm.ext extA) hn1 (hr.ext extA) hn) (k := ?_)
        | fail)
      | refine W1 ?_ | refine Wc ?_ | refine W2c ?_ ?_ | refine Wg ?_ | refine W2 ?_ ?_ | exact Wdead | refine Wlive (fun hb => ?_) | intro _ _ _ _ _ _ _ _ | refine We ?_ | refine Wx ?_ | refine Wt ?_ | refine Wm ?_ | refine W2m ?_ ?_ | refine Wl ?_
      | fail)
    exact ⟨rfl, rfl, rfl⟩
end
end Go.Proofs.Ytehobnpoeodhkaa

namespace Go.Proofs.Ytehobnpoeodhkaa
open Go Go.Abs Go.Proofs
set_option maxHeartbeats 400000
attribute [local irreducible] CallJ OpsJ WPJ CallV MonoJ

section
variable {γ : Type} (E : Env γ) (g : γ) (H : AHeap)
theorem with_spec (m : HouseM) (s1 s2 s3 : Value) (a : Option Addr) (n c : Nat) (hok : (hcells m s1 s2 s3).all cellOk = true) (hlow : ∀ v ∈ hcells m s1 s2 (.slice a n c), Low H.length v) : CallJ Try.prog E 113 [hv m s1 s2 s3, .slice a n c] (fun v H' g' => v = .agg ⟨hcells m s1 s2 (.slice a n c)⟩ ∧ H' = H ∧ g' = g) H g := by
  have hok2 : [Value.int .i64 m.hour, .int .i64 m.grace, s1, s2, .slice a n c].all cellOk = true := by
    simp at hok ⊢; exact ⟨hok.1, hok.2.1, hok.2.2.1, hok.2.2.2.1, rfl⟩
  refine CallJ.tidy ?_
  unfold hv
  refine CallJ.enter Try.func113 rfl (by simp only [Try.ntmps113, List.length_cons, List.length_nil, Nat.zero_add, Nat.reduceAdd, Nat.reduceSub, List.replicate_succ, List.replicate_zero, List.cons_append, List.nil_append]; rfl) ?_
  repeat' (first
    | refine W1 ?_ | refine Wc ?_ | refine W2c ?_ ?_ | refine Wg ?_ | refine W2 ?_ ?_ | exact Wdead | refine Wlive (fun hb => ?_) | intro _ _ _ _ _ _ _ _ | refine We ?_ | refine Wx ?_ | refine Wt ?_ | refine Wm ?_ | refine W2m ?_ ?_ | refine Wl ?_
    | fail)
  exact Tidy.ext extA (.low (.agg hlow)) ⟨rfl, rfl, rfl⟩

/-- the house with its first clips alone -/
def upto (m : HouseM) (n : Nat) : HouseM := { m with clips := m.clips.take n }
/-- the number of the first of some, below a bound -/
def firstS (p : Nat → Bool) (n : Nat) : Option Nat := (List.range n).find? p
def firstA (m : HouseM) : Option Nat := firstS (fun j => !hasS (upto m (j + 1))) m.clips.length
def firstE (m : HouseM) : Int := if checkS m = 0 then (if (firstA m).isSome then 0 else 7) else checkS m
def firstV (m : HouseM) : Int := if checkS m = 0 then ((firstA m).getD 0 : Nat) else 0
theorem firstS_none {p : Nat → Bool} {n : Nat} (h : ∀ k < n, p k = false) : firstS p n = none := by
  unfold firstS
  rw [List.find?_eq_none]
  intro x hx
  rw [h x (List.mem_range.1 hx)]; simp
theorem firstS_some {p : Nat → Bool} {n j : Nat} (hj : j < n) (hp : p j = true) (h : ∀ k < j, p k = false) : firstS p n = some j := by
  unfold firstS
  rw [List.find?_eq_some_iff_getElem]
  refine ⟨hp, j, by simpa using hj, by simp, fun k hk => ?_⟩
  simp [h k hk]
theorem RdS.take {H : AHeap} {i o n c es : Nat} {row : List Value} {es' : Nat} {own : Bool} {xs : List (List Value)} (h1 : ∀ x ∈ xs, x.length = es) (hi : H[i]? = some (.row row es' own)) (hl : o + xs.length * es ≤ row.length) (he : (row.drop o).take (xs.length * es) = xs.flatten) (hn : n ≤ xs.length) :
    RdS H (.slice (some ⟨i, o, none⟩) n c) es (xs.take n) := by
  have hmul : n * es ≤ xs.length * es := Nat.mul_le_mul_right _ hn
  have hln : (xs.take n).length = n := by simp; omega
  refine ⟨fun x hx => h1 x (List.mem_of_mem_take hx), .inl ⟨i, o, c, row, es', own, by rw [hln], hi, by rw [hln]; omega, ?_⟩⟩
  rw [hln]
  have e : (xs.take n).flatten = xs.flatten.take (n * es) := by
    have e2 : ((xs.take n).flatten).length = n * es := by
      have key : ∀ l : List (List Value), (∀ x ∈ l, x.length = es) → l.flatten.length = l.length * es := by
        intro l
        induction l with
        | nil => simp
        | cons x l ih => intro h; have := h x (by simp); have := ih (fun y hy => h y (by simp [hy])); simp_all [Nat.add_mul]; omega
      rw [key _ fun x hx => h1 x (List.mem_of_mem_take hx), hln]
    conv => rhs; rw [← List.take_append_drop n xs, List.flatten_append]
    rw [← e2, List.take_left']
    rfl
  rw [e, ← he, List.take_take, Nat.min_eq_left hmul]
theorem upto_is {H : AHeap} {m : HouseM} {s1 s2 : Value} {i o n c k j : Nat} (hm : HouseIs H m s1 s2 (.slice (some ⟨i, o, none⟩) m.clips.length c)) {row : List Value} {es' : Nat} {own : Bool}
    (hi : H[i]? = some (.row row es' own)) (hl : o + m.clips.length * 3 ≤ row.length) (he : (row.drop o).take (m.clips.length * 3) = (m.clips.map encC).flatten) (hk : k = j + 1) (hj : j < m.clips.length) : HouseIs H (upto m (j + 1)) s1 s2 (.slice (some ⟨i, o, none⟩) k n) := by
  refine ⟨hm.clocks, hm.tickets, ?_, ?_, hm.n1, hm.n2, ?_, hm.p1, hm.p2, ?_⟩
  · have := RdS.take (n := k) (c := n) (es := 3) (xs := m.clips.map encC) hm.clips.1 hi (by simpa using hl) (by simpa using he) (by simp; omega)
    simpa [upto, List.map_take, hk] using this
  · have := hm.ok; simp at this ⊢; exact ⟨this.1, this.2.1, rfl⟩
  · have := hm.n3; simp [upto]; omega
  · exact fun x hx => hm.p3 x hx
theorem upto_good {m : HouseM} (hG : Good m) (n : Nat) : Good (upto m n) := by
  refine ⟨hG.hour, hG.grace, hG.n1, hG.n2, by have := hG.n3; simp [upto]; omega, hG.clock, hG.ticket, fun c hc => ?_, hG.few⟩
  have h := hG.clip c (List.mem_of_mem_take hc)
  refine ⟨h.1, h.2.1, h.2.2.1, ?_⟩
  refine Int.le_trans ?_ h.2.2.2
  simp only [clipsOfS, upto, List.take_length, Int.ofNat_le]
  exact (List.take_sublist _ _).countP_le
theorem First_spec (m : HouseM) (s1 s2 s3 : Value) (hm : HouseIs H m s1 s2 s3) : CallJ Try.prog E 52 [hv m s1 s2 s3] (fun v H' g' => v = .tuple #[.int .i64 (firstV m), .int .i64 (firstE m)] ∧ H' = H ∧ g' = g) H g := by
  have hok := hm.cells
  have hrc := hm.clips
  by_cases hz : checkS m = 0
  · have hG := good_of hz
    have hn3 := hG.n3
    rcases hm.clips with ⟨h1, ⟨i, o, c, row, es', own, rfl, hi, hl, he⟩ | ⟨h0, h2⟩⟩
    · simp only [List.length_map] at hok hrc hm hl he ⊢
      refine CallJ.tidy ?_
      unfold hv
      refine CallJ.enter Try.func52 rfl (by simp only [Try.ntmps52, List.length_cons, List.length_nil, Nat.zero_add, Nat.reduceSub, List.replicate_succ, List.replicate_zero, List.cons_append, List.nil_append]; rfl) ?_
      repeat' (first
        | (refine is_ucall ?_; first
          | refine st_callP (h := CheckHouse_spec _ _ _ m s1 s2 _ (hm.ext extA)) (k := ?_)
          | fail)
        | (refine is_umcall ?_; first
          | refine mj_callP (h := CheckHouse_spec _ _ _ m s1 s2 _ (hm.ext extA)) (k := ?_)
          | fail)
        | refine W1 ?_ | refine Wc ?_ | refine W2c ?_ ?_ | refine Wg ?_ | refine W2 ?_ ?_ | exact Wdead | refine Wlive (fun hb => ?_) | intro _ _ _ _ _ _ _ _ | refine We ?_ | refine Wx ?_ | refine Wt ?_ | refine Wm ?_ | refine W2m ?_ ?_ | refine Wl ?_
        | fail)
      refine WPJ.loopT m.clips.length [15, 16, 5, 17, 18, 19, 20, 21, 22, 23, 24, 25, 26, 27] (fun j (_ : Unit) => [(14, .int .i64 j)])
        (fun j _ H1 g1 => g1 = g ∧ Ext H H1 ∧ H1[H.length]? = some (.row (hcells m s1 s2 (.slice (some ⟨i, o, none⟩) m.clips.length c)) 1 true) ∧ (∀ k < j, hasS (upto m (k + 1)) = true) ∧ H.length < H1.length) 0 () (Nat.zero_le _)
        (by intro p hp; simp at hp; rcases hp with rfl; rfl) ⟨rfl, extA, getA, by intro k hk; omega, by simp⟩ ?_
      rintro j _ H1 g1 hj ⟨rfl, hee, hb1, hall, hlen⟩ hl0
      simp only [updT, maskT, List.set_cons_zero, List.set_cons_succ]
      rcases Nat.lt_or_ge j m.clips.length with hlt | hge
      · skip
        repeat' (first
          | (refine is_ucall ?_; first
            | refine st_callP (h := CheckHouse_spec _ _ _ m s1 s2 _ (hm.ext extA)) (k := ?_)
            | fail)
          | (refine is_umcall ?_; first
            | refine mj_callP (h := CheckHouse_spec _ _ _ m s1 s2 _ (hm.ext extA)) (k := ?_)
            | fail)
          | refine W1 ?_ | refine Wc ?_ | refine W2c ?_ ?_ | refine Wg ?_ | refine W2 ?_ ?_ | exact Wdead | refine Wlive (fun hb => ?_) | intro _ _ _ _ _ _ _ _ | refine We ?_ | refine Wx ?_ | refine Wt ?_ | refine Wm ?_ | refine W2m ?_ ?_ | refine Wl ?_
          | fail)
        refine WPJ.draw 9 mixed (by kernel_rfl) (by kernel_rfl) (by kernel_rfl) (by decide) ?_
        refine MonoJ.normA ?_
        repeat' (first
          | (refine is_ucall ?_; first
            | refine st_callP (h := CheckHouse_spec _ _ _ m s1 s2 _ (hm.ext extA)) (k := ?_)
            | fail)
          | (refine is_umcall ?_; first
            | refine mj_callP (h := CheckHouse_spec _ _ _ m s1 s2 _ (hm.ext extA)) (k := ?_)
            | fail)
          | refine W1 ?_ | refine Wc ?_ | refine W2c ?_ ?_ | refine Wg ?_ | refine W2 ?_ ?_ | exact Wdead | refine Wlive (fun hb => ?_) | intro _ _ _ _ _ _ _ _ | refine We ?_ | refine Wx ?_ | refine Wt ?_ | refine Wm ?_ | refine W2m ?_ ?_ | refine Wl ?_
          | fail)
        have hu : HouseIs H1 (upto m (j + 1)) s1 s2 (.slice (some ⟨i, o, none⟩) ((j : Int) + 1).toNat ((j : Int) + 1).toNat) := upto_is (hm.ext hee) (hee.get hi) hl he (by omega) hlt
        refine mj_callP (h := with_spec _ _ _ m s1 s2 _ _ _ _ hok hu.low) (k := ?_)
        refine mj_callP (h := hasTruth_spec _ _ _ (upto m (j + 1)) s1 s2 _ hu (upto_good hG _).valid) (k := ?_)
        repeat' (first
          | (refine is_ucall ?_; first
            | refine st_callP (h := CheckHouse_spec _ _ _ m s1 s2 _ (hm.ext extA)) (k := ?_)
            | fail)
          | (refine is_umcall ?_; first
            | refine mj_callP (h := CheckHouse_spec _ _ _ m s1 s2 _ (hm.ext extA)) (k := ?_)
            | fail)
          | refine W1 ?_ | refine Wc ?_ | refine W2c ?_ ?_ | refine Wg ?_ | refine W2 ?_ ?_ | exact Wdead | refine Wlive (fun hb => ?_) | intro _ _ _ _ _ _ _ _ | refine We ?_ | refine Wx ?_ | refine Wt ?_ | refine Wm ?_ | refine W2m ?_ ?_ | refine Wl ?_
          | fail)
        · have e : firstA m = some j := firstS_some hlt (by simp [*]) fun k hk => by simp [hall k hk]
          refine ⟨?_, rfl, rfl⟩
          simp [firstV, firstE, hz, e]
        · refine ⟨(), hlt, (by repeat' (first | exact Weak.nil | refine Weak.wild ?_ | refine Weak.same ?_ | refine Weak.intEq (by first | omega | (simp; done) | (push_cast; omega)) ?_)), rfl, extA, hb1, fun k hk => ?_, hlen⟩
          rcases Nat.lt_or_ge k j with h | h
          · exact hall k h
          · obtain rfl : k = j := by omega
            assumption
      · have hj' : j = m.clips.length := by omega
        repeat' (first
          | (refine is_ucall ?_; first
            | refine st_callP (h := CheckHouse_spec _ _ _ m s1 s2 _ (hm.ext extA)) (k := ?_)
            | fail)
          | (refine is_umcall ?_; first
            | refine mj_callP (h := CheckHouse_spec _ _ _ m s1 s2 _ (hm.ext extA)) (k := ?_)
            | fail)
          | refine W1 ?_ | refine Wc ?_ | refine W2c ?_ ?_ | refine Wg ?_ | refine W2 ?_ ?_ | exact Wdead | refine Wlive (fun hb => ?_) | intro _ _ _ _ _ _ _ _ | refine We ?_ | refine Wx ?_ | refine Wt ?_ | refine Wm ?_ | refine W2m ?_ ?_ | refine Wl ?_
          | fail)
        have e : firstA m = none := firstS_none fun k hk => by simp [hall k (by omega)]
        refine ⟨?_, rfl, rfl⟩
        simp [firstV, firstE, hz, e]
    · have hc0 : m.clips.length = 0 := by simpa using congrArg List.length h0
      have e : firstA m = none := firstS_none fun k hk => by omega
      have e1 : firstV m = 0 := by simp [firstV, hz, e]
      have e2 : firstE m = 7 := by simp [firstE, hz, e]
      rw [e1, e2]
      refine CallJ.tidy ?_
      unfold hv
      refine CallJ.enter Try.func52 rfl (by simp only [Try.ntmps52, List.length_cons, List.length_nil, Nat.zero_add, Nat.reduceSub, List.replicate_succ, List.replicate_zero, List.cons_append, List.nil_append]; rfl) ?_
      repeat' (first
        | (refine is_ucall ?_; first
          | refine st_callP (h := CheckHouse_spec _ _ _ m s1 s2 _ (hm.ext extA)) (k := ?_)
          | fail)
        | (refine is_umcall ?_; first
          | refine mj_callP (h := CheckHouse_spec _ _ _ m s1 s2 _ (hm.ext extA)) (k := ?_)
          | fail)
        | refine W1 ?_ | refine Wc ?_ | refine W2c ?_ ?_ | refine Wg ?_ | refine W2 ?_ ?_ | exact Wdead | refine Wlive (fun hb => ?_) | intro _ _ _ _ _ _ _ _ | refine We ?_ | refine Wx ?_ | refine Wt ?_ | refine Wm ?_ | refine W2m ?_ ?_ | refine Wl ?_
        | fail)
      refine WPJ.loopT 0 [15] (fun j (_ : Unit) => [(14, .int .i64 j)]) (fun j _ H1 g1 => g1 = g ∧ Ext H H1) 0 () (Nat.zero_le _)
        (by intro p hp; simp at hp; rcases hp with rfl; rfl) ⟨rfl, extA⟩ ?_
      rintro j _ H1 g1 hj ⟨rfl, hee⟩ hl0
      simp only [updT, maskT, List.set_cons_zero, List.set_cons_succ]
      repeat' (first
        | (refine is_ucall ?_; first
          | refine st_callP (h := CheckHouse_spec _ _ _ m s1 s2 _ (hm.ext extA)) (k := ?_)
          | fail)
        | (refine is_umcall ?_; first
          | refine mj_callP (h := CheckHouse_spec _ _ _ m s1 s2 _ (hm.ext extA)) (k := ?_)
          | fail)
        | refine W1 ?_ | refine Wc ?_ | refine W2c ?_ ?_ | refine Wg ?_ | refine W2 ?_ ?_ | exact Wdead | refine Wlive (fun hb => ?_) | intro _ _ _ _ _ _ _ _ | refine We ?_ | refine Wx ?_ | refine Wt ?_ | refine Wm ?_ | refine W2m ?_ ?_ | refine Wl ?_
        | fail)
      all_goals first | omega | exact ⟨rfl, rfl, rfl⟩
  · have e1 : firstV m = 0 := by unfold firstV; rw [if_neg hz]
    have e2 : firstE m = checkS m := by unfold firstE; rw [if_neg hz]
    refine CallJ.tidy ?_
    unfold hv
    rw [e1, e2]
    refine CallJ.enter Try.func52 rfl (by simp only [Try.ntmps52, List.length_cons, List.length_nil, Nat.zero_add, Nat.reduceSub, List.replicate_succ, List.replicate_zero, List.cons_append, List.nil_append]; rfl) ?_
    repeat' (first
      | (refine is_ucall ?_; first
        | refine st_callP (h := CheckHouse_spec _ _ _ m s1 s2 _ (hm.ext extA)) (k := ?_)
        | fail)
      | (refine is_umcall ?_; first
        | refine mj_callP (h := CheckHouse_spec _ _ _ m s1 s2 _ (hm.ext extA)) (k := ?_)
        | fail)
      | refine W1 ?_ | refine Wc ?_ | refine W2c ?_ ?_ | refine Wg ?_ | refine W2 ?_ ?_ | exact Wdead | refine Wlive (fun hb => ?_) | intro _ _ _ _ _ _ _ _ | refine We ?_ | refine Wx ?_ | refine Wt ?_ | refine Wm ?_ | refine W2m ?_ ?_ | refine Wl ?_
      | fail)
    exact ⟨rfl, rfl, rfl⟩
end
end Go.Proofs.Ytehobnpoeodhkaa

namespace Go.Proofs.Ytehobnpoeodhkaa
open Go Go.Abs Go.Proofs
set_option maxHeartbeats 400000
attribute [local irreducible] CallJ OpsJ WPJ CallV MonoJ

section
variable {γ : Type} (E : Env γ) (g : γ) (H : AHeap)
def indexS (l : List Int) (x : Int) : Int := match (List.range l.length).find? (fun j => x == l.getD j 0) with | some j => j | none => -1
theorem Index_spec (sv : Value) (l : List Int) (x : Int) (hr : RdS H sv 1 (encI l)) (hn : l.length ≤ 1000000) : CallJ Try.prog E 112 [sv, .int .i64 x] (fun v H' g' => v = .int .i64 (indexS l x) ∧ H' = H ∧ g' = g) H g := by
  refine CallJ.tidy ?_
  refine CallJ.enter Try.func112 rfl (by simp only [Try.ntmps112, List.length_cons, List.length_nil, Nat.zero_add, Nat.reduceAdd, Nat.reduceSub, List.replicate_succ, List.replicate_zero, List.cons_append, List.nil_append]; rfl) ?_
  repeat' (first
    | refine W1 ?_ | refine Wc ?_ | refine W2c ?_ ?_ | refine Wg ?_ | refine W2 ?_ ?_ | exact Wdead | refine Wlive (fun hb => ?_) | intro _ _ _ _ _ _ _ _ | refine We ?_ | refine Wx ?_ | refine Wt ?_ | refine Wm ?_ | refine W2m ?_ ?_ | refine Wl ?_
    | fail)
  refine WPJ.loopT l.length [9, 10, 5, 11, 12, 13, 14, 15, 16, 17, 18] (fun j (_ : Unit) => [(8, .int .i64 j)]) (fun j _ H1 g1 => H1 = H ∧ g1 = g ∧ ∀ k < j, (x == l.getD k 0) = false) 0 () (Nat.zero_le _)
    (by intro p hp; simp at hp; rcases hp with rfl; rfl) ⟨rfl, rfl, by intro k hk; omega⟩ ?_
  rintro j _ H1 g1 hj ⟨rfl, rfl, hx⟩ hl
  simp only [updT, maskT, List.set_cons_zero, List.set_cons_succ]
  rcases Nat.lt_or_ge j l.length with hlt | hge
  · have hel : (encI l)[j]? = some [.int .i64 l[j]] := by simp [hlt]
    have hgd : l.getD j 0 = l[j] := by simp [hlt]
    generalize l[j] = y at *
    repeat' (first
      | refine W1 ?_ | refine Wc ?_ | refine W2c ?_ ?_ | refine Wg ?_ | refine W2 ?_ ?_ | exact Wdead | refine Wlive (fun hb => ?_) | intro _ _ _ _ _ _ _ _ | refine We ?_ | refine Wx ?_ | refine Wt ?_ | refine Wm ?_ | refine W2m ?_ ?_ | refine Wl ?_
      | fail)
    · have e := firstS_some hlt (p := fun j => x == l.getD j 0) (by rw [hgd]; simp [*]) hx
      refine ⟨?_, rfl, rfl⟩
      unfold firstS at e
      unfold indexS
      rw [e]
    · refine ⟨(), hlt, (by repeat' (first | exact Weak.nil | refine Weak.wild ?_ | refine Weak.same ?_ | refine Weak.intEq (by first | omega | (simp; done) | (push_cast; omega)) ?_)), rfl, rfl, fun k hk => ?_⟩
      rcases Nat.lt_or_ge k j with h | h
      · exact hx k h
      · obtain rfl : k = j := by omega
        rw [hgd]; simp [*]
  · skip
    repeat' (first
      | refine W1 ?_ | refine Wc ?_ | refine W2c ?_ ?_ | refine Wg ?_ | refine W2 ?_ ?_ | exact Wdead | refine Wlive (fun hb => ?_) | intro _ _ _ _ _ _ _ _ | refine We ?_ | refine Wx ?_ | refine Wt ?_ | refine Wm ?_ | refine W2m ?_ ?_ | refine Wl ?_
      | fail)
    have e := firstS_none (p := fun j => x == l.getD j 0) (n := l.length) (fun k hk => hx k (by omega))
    refine ⟨?_, rfl, rfl⟩
    unfold firstS at e
    unfold indexS
    rw [e]
theorem indexS_ge (l : List Int) (x : Int) : decide (indexS l x ≥ 0) = l.contains x := by
  unfold indexS
  rw [Bool.eq_iff_iff, decide_eq_true_eq, List.contains_iff_mem]
  split
  · rename_i j h
    have h1 := List.mem_of_find?_eq_some h
    have h2 := List.find?_some h
    simp only [List.mem_range, beq_iff_eq] at h1 h2
    refine ⟨fun _ => ?_, fun _ => by omega⟩
    rw [h2]; simp [h1]
  · rename_i h
    rw [List.find?_eq_none] at h
    refine ⟨fun h => by omega, fun hm => ?_⟩
    obtain ⟨j, hj, rfl⟩ := List.getElem_of_mem hm
    have := h j (by simpa using hj)
    simp [hj] at this
theorem Contains_spec (sv : Value) (l : List Int) (x : Int) (hr : RdS H sv 1 (encI l)) (hn : l.length ≤ 1000000) : CallJ Try.prog E 140 [sv, .int .i64 x] (fun v H' g' => v = .bool (l.contains x) ∧ H' = H ∧ g' = g) H g := by
  rw [← indexS_ge]
  refine CallJ.tidy ?_
  refine CallJ.enter Try.func140 rfl (by simp only [Try.ntmps140, List.length_cons, List.length_nil, Nat.zero_add, Nat.reduceAdd, Nat.reduceSub, List.replicate_succ, List.replicate_zero, List.cons_append, List.nil_append]; rfl) ?_
  repeat' (first
    | (refine is_ucall ?_; first
      | refine st_callP (h := Index_spec _ _ _ sv l x (hr.ext extA) hn) (k := ?_)
      | fail)
    | (refine is_umcall ?_; first
      | refine mj_callP (h := Index_spec _ _ _ sv l x (hr.ext extA) hn) (k := ?_)
      | fail)
    | refine W1 ?_ | refine Wc ?_ | refine W2c ?_ ?_ | refine Wg ?_ | refine W2 ?_ ?_ | exact Wdead | refine Wlive (fun hb => ?_) | intro _ _ _ _ _ _ _ _ | refine We ?_ | refine Wx ?_ | refine Wt ?_ | refine Wm ?_ | refine W2m ?_ ?_ | refine Wl ?_
    | fail)
  exact ⟨rfl, rfl, rfl⟩

/-! ### A house without some clips -/
def keptN (cs : List ClipM) (l : List Int) (j : Nat) : List ClipM := (List.range j).filterMap fun (k : Nat) => if l.contains (k : Int) then none else cs[k]?
theorem keptN_step {cs : List ClipM} {l : List Int} {j : Nat} (h : j < cs.length) : keptN cs l (j + 1) = if l.contains (j : Int) then keptN cs l j else keptN cs l j ++ [cs[j]] := by
  unfold keptN
  rw [List.range_succ, List.filterMap_append]
  split <;> rename_i hc <;> simp only [List.filterMap_cons, List.filterMap_nil, hc, Bool.false_eq_true, if_true, if_false, List.append_nil]
  simp [h]
theorem keptN_len (cs : List ClipM) (l : List Int) (j : Nat) : (keptN cs l j).length ≤ j := by
  unfold keptN
  exact Nat.le_trans (List.length_filterMap_le _ _) (by simp)
/-- a slice of ours, or nil -/
def KeptS (H : AHeap) (n : Nat) (v : Value) (ks : List ClipM) : Prop := (v = .slice none 0 0 ∧ ks = []) ∨ ∃ i, v = .slice (some ⟨i, 0, none⟩) ks.length ks.length ∧ H[i]? = some (.row (ks.map encC).flatten 3 true) ∧ n ≤ i ∧ ks ≠ []
theorem flatten_len3 (cs : List ClipM) : (cs.map encC).flatten.length = cs.length * 3 := by
  rw [List.length_flatten]
  induction cs with
  | nil => rfl
  | cons c cs ih => simp_all; omega
theorem clips_flat (cs : List ClipM) : (cs.map encC).flatten.all flat1 = true := List.all_eq_true.2 fun x hx => by
  obtain ⟨y, hy, hx⟩ := List.mem_flatten.1 hx
  obtain ⟨k, _, rfl⟩ := List.mem_map.1 hy
  simp at hx; rcases hx with rfl | rfl | rfl <;> rfl
theorem KeptS.keep {H H' : AHeap} {n : Nat} {v : Value} {ks : List ClipM} (h : KeptS H n v ks) (hk : ∀ i o, n ≤ i → H[i]? = some o → H'[i]? = some o) : KeptS H' n v ks := by
  rcases h with h | ⟨i, h1, h2, h3, h4⟩
  · exact .inl h
  · exact .inr ⟨i, h1, hk i _ h3 h2, h3, h4⟩
def without (m : HouseM) (l : List Int) : HouseM := { m with clips := keptN m.clips l m.clips.length }
def WithoutA (H : AHeap) (m : HouseM) (s1 s2 : Value) (ks : List ClipM) (v : Value) (H' : AHeap) : Prop :=
  (ks = [] ∧ v = .agg ⟨hcells m s1 s2 (.slice none 0 0)⟩ ∧ H' = H) ∨ (ks ≠ [] ∧ v = .agg ⟨hcells m s1 s2 (.slice (some ⟨H.length, 0, none⟩) ks.length ks.length)⟩ ∧ H' = H ++ [.row (ks.map encC).flatten 3 true])
theorem low_of {H : AHeap} {m : HouseM} {s1 s2 s3 s : Value} (hm : HouseIs H m s1 s2 s3) (hs : Low H.length s) : ∀ v ∈ hcells m s1 s2 s, Low H.length v := fun v hv => by
  simp at hv
  rcases hv with rfl | rfl | rfl | rfl | rfl
  · exact .flat rfl
  · exact .flat rfl
  · exact RdS.low hm.clocks
  · exact RdS.low hm.tickets
  · exact hs
theorem ok_of {H : AHeap} {m : HouseM} {s1 s2 s3 : Value} (hm : HouseIs H m s1 s2 s3) (a : Option Addr) (n c : Nat) : (hcells m s1 s2 (.slice a n c)).all cellOk = true := by
  have h := hm.cells
  simp at h ⊢; exact ⟨h.1, h.2.1, h.2.2.1, h.2.2.2.1, rfl⟩
theorem without_spec (m : HouseM) (s1 s2 s3 sv : Value) (l : List Int) (hm : HouseIs H m s1 s2 s3) (hr : RdS H sv 1 (encI l)) (hn : l.length ≤ 1000000) :
    CallJ Try.prog E 133 [hv m s1 s2 s3, sv] (fun v H' g' => WithoutA H m s1 s2 (keptN m.clips l m.clips.length) v H' ∧ g' = g) H g := by
  have hok := hm.cells
  have hrc := hm.clips
  have hn3 := hm.n3
  refine CallJ.tidy ?_
  unfold hv
  refine CallJ.enter Try.func133 rfl (by simp only [Try.ntmps133, List.length_cons, List.length_nil, Nat.zero_add, Nat.reduceAdd, Nat.reduceSub, List.replicate_succ, List.replicate_zero, List.cons_append, List.nil_append]; rfl) ?_
  repeat' (first
    | (refine is_ucall ?_; first
      | refine st_callP (h := Contains_spec _ _ _ sv l _ (hr.ext extA) hn) (k := ?_)
      | fail)
    | (refine is_umcall ?_; first
      | refine mj_callP (h := Contains_spec _ _ _ sv l _ (hr.ext extA) hn) (k := ?_)
      | fail)
    | refine W1 ?_ | refine Wc ?_ | refine W2c ?_ ?_ | refine Wg ?_ | refine W2 ?_ ?_ | exact Wdead | refine Wlive (fun hb => ?_) | intro _ _ _ _ _ _ _ _ | refine We ?_ | refine Wx ?_ | refine Wt ?_ | refine Wm ?_ | refine W2m ?_ ?_ | refine Wl ?_
    | fail)
  refine WPJ.loopT m.clips.length [12, 13, 14, 15, 7, 6, 16, 17, 18, 19, 20, 21, 22, 23, 24] (fun j (kv : Value) => [(11, .int .i64 j), (5, kv)])
    (fun j kv H1 g1 => g1 = g ∧ Ext H H1 ∧ H1[H.length]? = some (.row (hcells m s1 s2 s3) 1 true) ∧ (∃ cs, cs.length = 5 ∧ H1[H.length + 1]? = some (.row cs 1 true)) ∧ KeptS H1 (H.length + 2) kv (keptN m.clips l j) ∧ H.length + 1 < H1.length) 0 (.slice none 0 0) (Nat.zero_le _)
    (by intro p hp; simp at hp; rcases hp with rfl | rfl <;> rfl) ⟨rfl, extA, getA, ⟨_, ?_, getA⟩, .inl ⟨rfl, rfl⟩, by simp⟩ ?_
  · rfl
  rintro j kv H1 g1 hj ⟨rfl, he, hb0, ⟨cs, hcs, hb1⟩, hk, hlen⟩ hl0
  simp only [updT, maskT, List.set_cons_zero, List.set_cons_succ]
  rcases Nat.lt_or_ge j m.clips.length with hlt | hge
  · have hel : (m.clips.map encC)[j]? = some (encC m.clips[j]) := by simp [hlt]
    have hstep := keptN_step (l := l) hlt
    have hkl := keptN_len m.clips l j
    generalize m.clips[j] = c at *
    rcases hk with ⟨rfl, hk0⟩ | ⟨i, rfl, hi, hin, hne⟩
    · skip
      repeat' (first
        | (refine is_ucall ?_; first
          | refine st_callP (h := Contains_spec _ _ _ sv l _ (hr.ext extA) hn) (k := ?_)
          | fail)
        | (refine is_umcall ?_; first
          | refine mj_callP (h := Contains_spec _ _ _ sv l _ (hr.ext extA) hn) (k := ?_)
          | fail)
        | refine W1 ?_ | refine Wc ?_ | refine W2c ?_ ?_ | refine Wg ?_ | refine W2 ?_ ?_ | exact Wdead | refine Wlive (fun hb => ?_) | intro _ _ _ _ _ _ _ _ | refine We ?_ | refine Wx ?_ | refine Wt ?_ | refine Wm ?_ | refine W2m ?_ ?_ | refine Wl ?_
        | fail)
      · refine st_appendNil (by rfl) rfl rfl getA (by simp) (by rfl) ⟨by decide, by decide, by decide⟩ ?_
        refine OpsJ.normA ?_
        repeat' (first
          | (refine is_ucall ?_; first
            | refine st_callP (h := Contains_spec _ _ _ sv l _ (hr.ext extA) hn) (k := ?_)
            | fail)
          | (refine is_umcall ?_; first
            | refine mj_callP (h := Contains_spec _ _ _ sv l _ (hr.ext extA) hn) (k := ?_)
            | fail)
          | refine W1 ?_ | refine Wc ?_ | refine W2c ?_ ?_ | refine Wg ?_ | refine W2 ?_ ?_ | exact Wdead | refine Wlive (fun hb => ?_) | intro _ _ _ _ _ _ _ _ | refine We ?_ | refine Wx ?_ | refine Wt ?_ | refine Wm ?_ | refine W2m ?_ ?_ | refine Wl ?_
          | fail)
        have e : keptN m.clips l (j + 1) = [c] := by rw [hstep, if_neg (ne_true_of_eq_false (by assumption)), hk0]; rfl
        exact ⟨.slice (some ⟨H1.length + 2, 0, none⟩) 1 1, hlt, (by repeat' (first | exact Weak.nil | refine Weak.wild ?_ | refine Weak.same ?_ | refine Weak.intEq (by first | omega | (simp; done) | (push_cast; omega)) ?_)), rfl, extA, getA, ⟨cs, hcs, getA⟩, .inr ⟨H1.length + 2, by rw [e]; rfl, by rw [e]; exact getA, by omega, by rw [e]; simp⟩, by simp; omega⟩
      · refine ⟨.slice none 0 0, hlt, (by repeat' (first | exact Weak.nil | refine Weak.wild ?_ | refine Weak.same ?_ | refine Weak.intEq (by first | omega | (simp; done) | (push_cast; omega)) ?_)), rfl, extA, getA, ⟨cs, hcs, getA⟩, .inl ⟨rfl, ?_⟩, by simp; omega⟩
        rw [hstep, if_pos (by assumption), hk0]
    · skip
      repeat' (first
        | (refine is_ucall ?_; first
          | refine st_callP (h := Contains_spec _ _ _ sv l _ (hr.ext extA) hn) (k := ?_)
          | fail)
        | (refine is_umcall ?_; first
          | refine mj_callP (h := Contains_spec _ _ _ sv l _ (hr.ext extA) hn) (k := ?_)
          | fail)
        | refine W1 ?_ | refine Wc ?_ | refine W2c ?_ ?_ | refine Wg ?_ | refine W2 ?_ ?_ | exact Wdead | refine Wlive (fun hb => ?_) | intro _ _ _ _ _ _ _ _ | refine We ?_ | refine Wx ?_ | refine Wt ?_ | refine Wm ?_ | refine W2m ?_ ?_ | refine Wl ?_
        | fail)
      · refine st_appendOwn (by rfl) rfl rfl (cells0 := ((keptN m.clips l j).map encC).flatten) getA (by rw [flatten_len3]; omega) getA (by simp) (by rfl) (by simp [cellOk]) ⟨by simp [maxLen]; omega, by omega⟩ ?_
        refine OpsJ.normA ?_
        repeat' (first
          | (refine is_ucall ?_; first
            | refine st_callP (h := Contains_spec _ _ _ sv l _ (hr.ext extA) hn) (k := ?_)
            | fail)
          | (refine is_umcall ?_; first
            | refine mj_callP (h := Contains_spec _ _ _ sv l _ (hr.ext extA) hn) (k := ?_)
            | fail)
          | refine W1 ?_ | refine Wc ?_ | refine W2c ?_ ?_ | refine Wg ?_ | refine W2 ?_ ?_ | exact Wdead | refine Wlive (fun hb => ?_) | intro _ _ _ _ _ _ _ _ | refine We ?_ | refine Wx ?_ | refine Wt ?_ | refine Wm ?_ | refine W2m ?_ ?_ | refine Wl ?_
          | fail)
        have e : keptN m.clips l (j + 1) = keptN m.clips l j ++ [c] := by rw [hstep, if_neg (ne_true_of_eq_false (by assumption))]
        refine ⟨.slice (some ⟨H1.length + 2, 0, none⟩) ((keptN m.clips l j).length + 1) ((keptN m.clips l j).length + 1), hlt, (by repeat' (first | exact Weak.nil | refine Weak.wild ?_ | refine Weak.same ?_ | refine Weak.intEq (by first | omega | (simp; done) | (push_cast; omega)) ?_)), rfl, extA, getA, ⟨cs, hcs, getA⟩, .inr ⟨H1.length + 2, by rw [e]; simp, ?_, by omega, by rw [e]; simp⟩, by simp; omega⟩
        rw [List.getElem?_append_right (by simp), e, List.take_of_length_le (by rw [flatten_len3]; omega)]
        simp
      · refine ⟨.slice (some ⟨i, 0, none⟩) (keptN m.clips l j).length (keptN m.clips l j).length, hlt, (by repeat' (first | exact Weak.nil | refine Weak.wild ?_ | refine Weak.same ?_ | refine Weak.intEq (by first | omega | (simp; done) | (push_cast; omega)) ?_)), rfl, extA, getA, ⟨cs, hcs, getA⟩, .inr ⟨i, ?_, ?_, hin, ?_⟩, by simp; omega⟩
        all_goals rw [hstep, if_pos (by assumption)]
        · exact getA
        · exact hne
  · have hj' : j = m.clips.length := by omega
    subst hj'
    rcases hk with ⟨rfl, hk0⟩ | ⟨i, rfl, hi, hin, hne⟩
    · skip
      repeat' (first
        | (refine is_ucall ?_; first
          | refine st_callP (h := Contains_spec _ _ _ sv l _ (hr.ext extA) hn) (k := ?_)
          | fail)
        | (refine is_umcall ?_; first
          | refine mj_callP (h := Contains_spec _ _ _ sv l _ (hr.ext extA) hn) (k := ?_)
          | fail)
        | refine W1 ?_ | refine Wc ?_ | refine W2c ?_ ?_ | refine Wg ?_ | refine W2 ?_ ?_ | exact Wdead | refine Wlive (fun hb => ?_) | intro _ _ _ _ _ _ _ _ | refine We ?_ | refine Wx ?_ | refine Wt ?_ | refine Wm ?_ | refine W2m ?_ ?_ | refine Wl ?_
        | fail)
      have hlow := low_of hm (.flat rfl : Low H.length (.slice none 0 0))
      have hlow1 : ∀ v ∈ hcells m s1 s2 (.slice none 0 0), Low H1.length v := fun v hv ρ ρ2 v' h => hlow v hv ρ ρ2 v' (fun i hi => h i (by omega))
      have hok2 := ok_of hm none 0 0
      refine st_callP (h := with_spec _ _ _ m s1 s2 _ _ _ _ hok hlow1) (k := ?_)
      repeat' (first
        | (refine is_ucall ?_; first
          | refine st_callP (h := Contains_spec _ _ _ sv l _ (hr.ext extA) hn) (k := ?_)
          | fail)
        | (refine is_umcall ?_; first
          | refine mj_callP (h := Contains_spec _ _ _ sv l _ (hr.ext extA) hn) (k := ?_)
          | fail)
        | refine W1 ?_ | refine Wc ?_ | refine W2c ?_ ?_ | refine Wg ?_ | refine W2 ?_ ?_ | exact Wdead | refine Wlive (fun hb => ?_) | intro _ _ _ _ _ _ _ _ | refine We ?_ | refine Wx ?_ | refine Wt ?_ | refine Wm ?_ | refine W2m ?_ ?_ | refine Wl ?_
        | fail)
      exact Tidy.ext extA (.low (.agg hlow)) ⟨.inl ⟨hk0, rfl, rfl⟩, rfl⟩
    · skip
      repeat' (first
        | (refine is_ucall ?_; first
          | refine st_callP (h := Contains_spec _ _ _ sv l _ (hr.ext extA) hn) (k := ?_)
          | fail)
        | (refine is_umcall ?_; first
          | refine mj_callP (h := Contains_spec _ _ _ sv l _ (hr.ext extA) hn) (k := ?_)
          | fail)
        | refine W1 ?_ | refine Wc ?_ | refine W2c ?_ ?_ | refine Wg ?_ | refine W2 ?_ ?_ | exact Wdead | refine Wlive (fun hb => ?_) | intro _ _ _ _ _ _ _ _ | refine We ?_ | refine Wx ?_ | refine Wt ?_ | refine Wm ?_ | refine W2m ?_ ?_ | refine Wl ?_
        | fail)
      have hil : i < H1.length := (List.getElem?_eq_some_iff.1 hi).1
      have hlow1 : ∀ v ∈ hcells m s1 s2 (.slice (some ⟨i, 0, none⟩) (keptN m.clips l m.clips.length).length (keptN m.clips l m.clips.length).length), Low H1.length v := low_of (hm.ext he) (.slice hil)
      have hok2 := ok_of hm (some ⟨i, 0, none⟩) (keptN m.clips l m.clips.length).length (keptN m.clips l m.clips.length).length
      refine st_callP (h := with_spec _ _ _ m s1 s2 _ _ _ _ hok hlow1) (k := ?_)
      repeat' (first
        | (refine is_ucall ?_; first
          | refine st_callP (h := Contains_spec _ _ _ sv l _ (hr.ext extA) hn) (k := ?_)
          | fail)
        | (refine is_umcall ?_; first
          | refine mj_callP (h := Contains_spec _ _ _ sv l _ (hr.ext extA) hn) (k := ?_)
          | fail)
        | refine W1 ?_ | refine Wc ?_ | refine W2c ?_ ?_ | refine Wg ?_ | refine W2 ?_ ?_ | exact Wdead | refine Wlive (fun hb => ?_) | intro _ _ _ _ _ _ _ _ | refine We ?_ | refine Wx ?_ | refine Wt ?_ | refine Wm ?_ | refine W2m ?_ ?_ | refine Wl ?_
        | fail)
      refine Tidy.two (i := i) (cells := ((keptN m.clips l m.clips.length).map encC).flatten) (es := 3) extA getA (by omega) (clips_flat _) (.aggs (b := hcells m s1 s2 (.slice (some ⟨H.length, 0, none⟩) (keptN m.clips l m.clips.length).length (keptN m.clips l m.clips.length).length)) rfl fun j h1 h2 => ?_) ⟨.inr ⟨hne, rfl, rfl⟩, rfl⟩
      have hlow := low_of hm (.flat rfl : Low H.length (.slice none 0 0))
      match j, h1 with
      | 0, _ => exact .flat rfl
      | 1, _ => exact .flat rfl
      | 2, _ => exact .low (RdS.low hm.clocks)
      | 3, _ => exact .low (RdS.low hm.tickets)
      | 4, _ => exact .slice (j := 0) rfl
end
end Go.Proofs.Ytehobnpoeodhkaa
