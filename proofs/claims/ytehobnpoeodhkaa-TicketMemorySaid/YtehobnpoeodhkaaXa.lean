/- A range over a function that hands over lists: whoever ranges owns what was handed over. -/
import Derived.Test.YtehobnpoeodhkaaV3
namespace Go.Abs
open Go

/-- One name more for a block that nobody knows any more: it is ours. -/
theorem SRel.giveOf {ρ : Ren} {H : AHeap} {w : World} (h : SRel ρ H w) (m : Img) (o : AObj) (hlt : m.blk < w.heap.size) (hor : ORel ρ o m w.heap[m.blk]?) (hno : ¬ LiveBlk ρ H m.blk) : SRel (ρ.add H.length m) (H ++ [o]) w := by
  have hle : ρ.le (ρ.add H.length m) := fun i m' hi => by
    have := (h.dom i m' hi).1
    unfold Ren.add
    rw [if_neg (by omega)]; exact hi
  have hold : ∀ {i m'}, (ρ.add H.length m) i = some m' → i = H.length ∧ m' = m ∨ i < H.length ∧ ρ i = some m' := fun {i m'} hi => by
    unfold Ren.add at hi
    split at hi
    · rename_i e; exact .inl ⟨e, by simpa using hi.symm⟩
    · exact .inr ⟨(h.dom i m' hi).1, hi⟩
  have hnew : (H ++ [o])[H.length]? = some o := by simp
  refine ⟨fun i m' hi => ?_, fun i m' o' hi ho => ?_, fun i j m1 m2 o1 o2 hi hj ho1 ho2 hd1 hd2 hown hbb => ?_⟩
  · rcases hold hi with ⟨rfl, rfl⟩ | ⟨h1, h2⟩
    · exact ⟨by simp, hlt⟩
    · exact ⟨by simp; omega, (h.dom i m' h2).2⟩
  · rcases hold hi with ⟨rfl, rfl⟩ | ⟨h1, h2⟩
    · rw [hnew] at ho; cases ho; exact hor.mono hle
    · rw [List.getElem?_append_left h1] at ho
      exact (h.obj i m' o' h2 ho).mono hle
  · rcases hold hi with ⟨rfl, rfl⟩ | ⟨h1, h2⟩
    · rcases hold hj with ⟨rfl, rfl⟩ | ⟨h3, h4⟩
      · rfl
      · rw [List.getElem?_append_left h3] at ho2
        exact absurd ⟨j, m2, o2, h4, ho2, hd2, hbb.symm⟩ hno
    · rw [List.getElem?_append_left h1] at ho1
      rcases hold hj with ⟨rfl, rfl⟩ | ⟨h3, h4⟩
      · exact absurd ⟨i, m1, o1, h2, ho1, hd1, hbb⟩ hno
      · rw [List.getElem?_append_left h3] at ho2
        exact h.inj i j m1 m2 o1 o2 h2 h4 ho1 ho2 hd1 hd2 hown hbb

theorem give_own {ρ : Ren} {H : AHeap} {w : World} (h : SRel ρ H w) (m : Img) (o : AObj) {b : Nat} (hb : LiveOwn (ρ.add H.length m) (H ++ [o]) b) : LiveOwn ρ H b ∨ b = m.blk := by
  obtain ⟨i, m', o', h1, h2, h3, h4, rfl⟩ := hb
  unfold Ren.add at h1
  split at h1
  · simp only [Option.some.injEq] at h1; exact .inr (by rw [h1])
  · have := (h.dom i m' h1).1
    rw [List.getElem?_append_left this] at h2
    exact .inl ⟨i, m', o', h1, h2, h3, h4, rfl⟩

/-- One name more, in the caller's view. -/
theorem LoopJ.give {γ : Type} {E : Env γ} {ρ : Ren} {H : AHeap} {S : Nat → Prop} {w1 : World} {rec : Option Code → Loop} {l : Nat} {Dm : Option Nat} {Hc : AHeap} {gc : γ} {st : Option Code} {S' : Nat → Prop} {w : World} {ρc : Ren} {Sc : Nat → Prop}
    (h : LoopJ E ρ H S w1 rec l Dm (Hc, gc, st) S' w ρc Sc) (m : Img) (o : AObj) (hlt : m.blk < w.heap.size) (hor : ORel ρc o m w.heap[m.blk]?) (hno : ¬ LiveBlk ρc Hc m.blk) (hns : ¬ Sc m.blk) (hge : w1.heap.size ≤ m.blk) :
    LoopJ E ρ H S w1 rec l Dm (Hc ++ [o], gc, st) (fun b => Sc b ∨ LiveBlk (ρc.add Hc.length m) (Hc ++ [o]) b ∨ LiveBlk ρ H b ∨ b = l ∨ Dm = some b) w (ρc.add Hc.length m) Sc where
  inv := ⟨h.inv.srel.giveOf m o hlt hor hno, h.inv.j, h.inv.bnd, fun b hb hL => by
    rcases give_own h.inv.srel m o hL with h1 | rfl
    · exact h.inv.disj b hb h1
    · exact hns hb⟩
  next := by have := h.next; simp at this ⊢; omega
  ext := fun i hi => by
    have := h.next
    have h2 := h.ext i hi
    unfold Ren.add
    rw [if_neg (by simp at this; omega)]; exact h2
  os := h.os
  tape := h.tape
  out := h.out
  size := h.size
  fresh := fun b hb => by
    rcases give_own h.inv.srel m o hb with h1 | rfl
    · exact h.fresh b h1
    · exact .inl hge
  grow := h.grow
  keep := h.keep
  rec_ := h.rec_
  mark := h.mark
  nol := h.nol
  leans := fun b => Iff.rfl

/-- The caller, while the iterator runs: the iterator touches nothing that was there before. -/
def loopE2 {γ : Type} (E : Env γ) (ρ : Ren) (H : AHeap) (S : Nat → Prop) (w1 : World) (rec : Option Code → Loop) (l : Nat) (Dm : Option Nat) (n0 : Nat) (hn : n0 ≤ w1.heap.size) : Env (AHeap × γ × Option Code) where
  J := fun x S2 w => ∃ ρc Sc S', LoopJ E ρ H S w1 rec l Dm x S' w ρc Sc ∧ (∀ b, S2 b ↔ S' b ∨ b < w1.heap.size) ∧ ∀ b, b < n0 → ¬ S b → ¬ LiveOwn ρ H b → w.heap[b]? = w1.heap[b]?
  stable := by
    rintro x S2 w w' ⟨ρc, Sc, S', h, hS, hk0⟩ hk hz hos htp hout
    obtain ⟨ρc', Sc', h'⟩ := (loopE E ρ H S w1 rec l Dm).stable x S' w w' ⟨ρc, Sc, h⟩ (fun b hb => hk b ((hS b).2 (.inl hb))) hz hos htp hout
    exact ⟨ρc', Sc', S', h', hS, fun b hb h1 h2 => (hk b ((hS b).2 (.inr (Nat.lt_of_lt_of_le hb hn)))).trans (hk0 b hb h1 h2)⟩

/-- What was there before stays, but for what the caller owns. -/
theorem LoopJ.keepAll {γ : Type} {E : Env γ} {ρ : Ren} {H : AHeap} {S : Nat → Prop} {w1 : World} {rec : Option Code → Loop} {l : Nat} {Dm : Option Nat} {x : AHeap × γ × Option Code} {S' : Nat → Prop} {w : World} {ρc : Ren} {Sc : Nat → Prop}
    (h : LoopJ E ρ H S w1 rec l Dm x S' w ρc Sc) {n0 : Nat} (hn : n0 ≤ w1.heap.size) (h0l : n0 ≤ l) (hk0 : ∀ b, b < n0 → ¬ S b → ¬ LiveOwn ρ H b → w.heap[b]? = w1.heap[b]?) {w2 : World}
    (tk : ∀ b, b < w.heap.size → ¬ (Sc b ∨ b = l) → ¬ LiveOwn ρc x.1 b → b < w1.heap.size → w2.heap[b]? = w.heap[b]?) : ∀ b, b < n0 → ¬ S b → ¬ LiveOwn ρ H b → w2.heap[b]? = w1.heap[b]? := fun b hb h1 h2 => by
  have hlt : b < w1.heap.size := Nat.lt_of_lt_of_le hb hn
  refine (tk b (Nat.lt_of_lt_of_le hlt h.size) (fun h3 => ?_) (fun h3 => ?_) hlt).trans (hk0 b hb h1 h2)
  · rcases h3 with h3 | rfl
    · rcases h.grow b h3 with h4 | h4 | h4
      · exact h1 h4
      · omega
      · exact h2 h4
    · omega
  · rcases h.fresh b h3 with h4 | h4
    · omega
    · exact h2 h4

section
variable {γ : Type} {P : Program} {E : Env γ} {ρ : Ren} {H : AHeap} {S : Nat → Prop} {w0 w1 : World} {sh : List Nat} {fn : FuncId} {T : List Value} {tmps0 : Array Value} {ps : Array Tmp} {assign body : Code} {D0 l : Nat} {Dm : Option Nat}

theorem CallV.yieldO (hs0 : SRel ρ H w0) (h0l : w0.heap.size ≤ l) (h01 : w0.heap.size ≤ w1.heap.size) (hT : TRel ρ T tmps0) {Hc H1 : AHeap} {gc : γ} {i0 len cap : Nat} {cs : List Value} {I' : AHeap → γ → Prop} {Ix : Code → AHeap → γ → Prop}
    (htok : H1[H.length]? = some (.tok (pinsOf sh ρ H.length l))) (hview : ViewOk sh ρ H l H1) (hw : ∀ i ∈ sh, ∀ c es own, H[i]? = some (.row c es own) → ∀ v ∈ c, Within sh v)
    (hsh : ∀ i ∈ sh, ∃ m, ρ i = some m) (hlen : 1 = ps.size) (hrow : H1[i0]? = some (.row cs 1 true)) (hflat : cs.all flat1 = true)
    (hI : ∀ H2 g2, (I' H2 g2 ∨ ∃ c, Ix c H2 g2) → ∀ i ∈ sh, ∀ c es own, H[i]? = some (.row c es own) → H2[i]? = some (.row c es own))
    (hold : ∀ H2 g2, (I' H2 g2 ∨ ∃ c, Ix c H2 g2) → ∀ (i : Nat) (o : AObj), H2[i]? = some o → o.dead? = false → ownedO o = false → ∃ o' : AObj, H[i]? = some o' ∧ o'.dead? = false)
    (hround : WPJ P E assign (thenQ (WPJ P E body (roundQ I' Ix)) (fun _ _ _ _ => False)) (putPs T ps.toList [.slice (some ⟨Hc.length, 0, none⟩) len cap]) (Hc ++ [.row cs 1 true]) gc) :
    CallV P (loopE2 E ρ H S w1 (recOf fn tmps0 ps assign body D0) l Dm w0.heap.size h01) (.func (.yield H.length) #[] #[]) [.slice (some ⟨i0, 0, none⟩) len cap]
      (fun v H2 x2 => H2 = H1.set i0 .dead ∧ (v = .bool true ∧ x2.2.2 = none ∧ I' x2.1 x2.2.1 ∨ v = .bool false ∧ ∃ c, x2.2.2 = some c ∧ Ix c x2.1 x2.2.1)) H1 (Hc, gc, none) := by
  intro ρ2 w S2' fv' args' hi hf ha
  obtain ⟨ρc, Sc, S2, hJ, hS, hk0⟩ := hi.j
  have hS1 : ∀ b, S2 b → S2' b := fun b hb => (hS b).2 (.inl hb)
  cases hf with
  | yield h =>
    rename_i m
    have hor := hi.srel.obj _ m _ h htok
    have hpins : ∀ p ∈ pinsOf sh ρ H.length l, ρ2 p.1 = some p.2 := hor.2
    have hm : m = ⟨l, 0, 0, false⟩ := by
      have := hpins (H.length, ⟨l, 0, 0, false⟩) (by simp [pinsOf])
      rw [h] at this; cases this; rfl
    subst hm
    have hsz : args'.size = ps.size := by have := ha.1; simp at this; omega
    have ha0 : VRel ρ2 (.slice (some ⟨i0, 0, none⟩) len cap) (args'[0]'(by omega)) := by simpa using ha.2 0 (by simp) (by omega)
    -- the list's block
    obtain ⟨mi, cap', hmi, hargs, hle0, hcap⟩ : ∃ mi cap', ρ2 i0 = some mi ∧ args'[0]'(by omega) = .slice (some ⟨mi.blk, 0, none⟩) len cap' ∧ len ≤ cap' ∧ (mi.own = true → 0 + cap' * mi.es = mi.cs) := by
      generalize args'[0]'(by omega) = u at ha0
      cases ha0 with
      | slice h1 h2 h3 => exact ⟨_, _, h1, rfl, h2, h3⟩
    have hori := hi.srel.obj i0 mi _ hmi hrow
    have hmlt := (hi.srel.dom i0 mi hmi).2
    have hmown : mi.own = true := hori.2.1
    have hLi : LiveOwn ρ2 H1 mi.blk := ⟨i0, mi, _, hmi, hrow, rfl, hmown, rfl⟩
    have hnS' : ¬ S2' mi.blk := fun hS => hi.disj _ hS hLi
    have hnS : ¬ S2 mi.blk := fun h => hnS' (hS1 _ h)
    have hge : w1.heap.size ≤ mi.blk := Nat.le_of_not_lt fun h => hnS' ((hS _).2 (.inr h))
    have hnsc : ¬ Sc mi.blk := fun hb => hnS ((hJ.leans _).2 (.inl hb))
    have hnc : ¬ LiveBlk ρc Hc mi.blk := fun hb => hnS ((hJ.leans _).2 (.inr (.inl hb)))
    have horc : ORel ρc (.row cs 1 true) mi w.heap[mi.blk]? := by
      obtain ⟨b1, b2, c, e, fr, b3, b4, b5, b6, b7⟩ := hori
      exact ⟨b1, b2, c, e, fr, b3, b4, b5, b6, fun j k1 k2 => flat1_rel (List.all_eq_true.1 hflat _ (List.getElem_mem k1)) (b7 j k1 k2)⟩
    have hJ1 := hJ.give mi (.row cs 1 true) hmlt horc hnc hnsc hge
    have hxc : ARel (ρc.add Hc.length mi) ⟨[.slice (some ⟨Hc.length, 0, none⟩) len cap]⟩ args' := by
      refine ⟨by simp; omega, fun j a b => ?_⟩
      have : j = 0 := by simp at a; omega
      subst this
      rw [hargs]
      exact .slice (m := mi) (Ren.add_same _ _ _) hle0 hcap
    have hy := run_yield (P := P) (args := args') hJ.rec_ hsz
    refine ⟨{ target := .fn (.yield l) #[], args := #[] ++ args' }, by simp [Deferred.ofValue], .inr ⟨l, fn, _, assign, body, by have h9 := hy; simp only [recOf] at h9; simpa [invoke] using h9, round_caller hs0 h0l h01 hT hJ1 hxc hround ?_⟩⟩
    intro v w2 ρb H2 g2 Sb st hv hst tr hJ2
    have hII : I' H2 g2 ∨ ∃ c, Ix c H2 g2 := by
      rcases hst with ⟨_, h1⟩ | ⟨c, _, h1⟩
      · exact .inl h1
      · exact .inr ⟨c, h1⟩
    have hnc1 : ∀ b, LiveOwn (ρc.add Hc.length mi) (Hc ++ [.row cs 1 true]) b → S2 b ∨ b = mi.blk := fun b hb => (give_own hJ.inv.srel _ _ hb).imp (fun h => (hJ.leans b).2 (.inr (.inl h.blk))) id
    have hscl : ∀ b, (Sc b ∨ b = l) → S2 b := fun b h1 => by
      rcases h1 with h1 | rfl
      · exact (hJ.leans b).2 (.inl h1)
      · exact (hJ.leans b).2 (by simp)
    -- what is the iterator's own has not turned
    have own : ∀ b, LiveOwn ρ2 H1 b → b ≠ mi.blk → ¬ S2 b ∧ b < w.heap.size ∧ w2.heap[b]? = w.heap[b]? := by
      intro b hb hne
      have hS : ¬ S2 b := fun h1 => hi.disj b (hS1 b h1) hb
      have hlt : b < w.heap.size := by
        obtain ⟨i, m, o, e1, _, _, _, rfl⟩ := hb
        exact (hi.srel.dom i m e1).2
      exact ⟨hS, hlt, tr.keep b hlt (fun h1 => hS (hscl b h1)) (fun h1 => (hnc1 b h1).elim hS hne)⟩
    have hle2 : (shareR sh ρb).le ρ2 := fun i m1 h1 => by
      obtain ⟨hi', m0, h2, rfl⟩ := shareR_some h1
      obtain ⟨m00, h3⟩ := hsh i hi'
      have h4 : ρb i = ρ i := hJ2.ext i (hs0.dom i m00 h3).1
      rw [h4] at h2
      exact hpins (i, { m0 with own := false }) (by simp only [pinsOf, List.mem_cons, List.mem_filterMap]; exact .inr ⟨i, hi', by rw [h2]; rfl⟩)
    have getset : ∀ i o, (H1.set i0 .dead)[i]? = some o → o.dead? = false → i ≠ i0 ∧ H1[i]? = some o := fun i o ho hd => by
      rw [List.getElem?_set] at ho
      split at ho
      · split at ho
        · cases ho; cases hd
        · cases ho
      · rename_i e; exact ⟨fun e2 => e e2.symm, ho⟩
    have hsr : SRel ρ2 (H1.set i0 .dead) w2 := by
      refine ⟨fun i m1 h1 => ⟨by simpa using (hi.srel.dom i m1 h1).1, Nat.lt_of_lt_of_le (hi.srel.dom i m1 h1).2 tr.size⟩, fun i m1 o h1 ho => ?_, fun i j m1 m2 o1 o2 q1 q2 q3 q4 q5 q6 => hi.srel.inj i j m1 m2 o1 o2 q1 q2 (getset i o1 q3 q5).2 (getset j o2 q4 q6).2 q5 q6⟩
      cases hd : o.dead? with
      | true => cases o <;> first | trivial | cases hd
      | false =>
        obtain ⟨hii, ho⟩ := getset i o ho hd
        have hor1 := hi.srel.obj i m1 o h1 ho
        have hown : ownedO o = true → ORel ρ2 o m1 w2.heap[m1.blk]? := fun ho2 => by
          have hmo : m1.own = true := by
            cases o with
            | row c es own' => cases own' with
              | true => exact hor1.2.1
              | false => cases ho2
            | map es ck => exact hor1.1
            | iter _ _ _ => exact hor1.1
            | tok _ => cases ho2
            | dead => cases ho2
          rw [(own m1.blk ⟨i, m1, o, h1, ho, hd, hmo, rfl⟩ (fun e => hii (hi.srel.inj i i0 m1 mi o _ h1 hmi ho hrow hd rfl hmo e))).2.2]
          exact hor1
        rcases hview i o ho hd with ⟨_, rfl⟩ | ⟨hi', hil, c, es, own', hH, rfl⟩ | ho2 | ⟨es, ck, rfl⟩
        · exact hor1
        · obtain ⟨m0, h3⟩ := hsh i hi'
          have h4 : ρb i = some m0 := (hJ2.ext i hil).trans h3
          have h5 : ρ2 i = some { m0 with own := false } := hle2 i _ (by simp only [shareR, if_pos hi', h4, Option.map_some])
          rw [h1] at h5
          cases h5
          obtain ⟨b1, b2, c', e, fr, b3, b4, b5, b6, b7⟩ := hJ2.inv.srel.obj i m0 _ h4 (hI _ _ hII i hi' c es own' hH)
          exact ⟨b1, rfl, c', e, fr, b3, b4, (fun e => Bool.noConfusion e), b6, fun j k1 k2 => (hw i hi' c es own' hH _ (List.getElem_mem k1) ρb _ (b7 j k1 k2)).mono hle2⟩
        · exact hown (by cases o <;> simp_all [ownRow, ownedO])
        · exact hown rfl
    have s2 : ∀ b, (Sb b ∨ LiveBlk ρb H2 b ∨ LiveBlk ρ H b ∨ b = l ∨ Dm = some b) → S2 b ∨ w.heap.size ≤ b ∨ b = mi.blk := by
      intro b hb
      have viaOwn : LiveOwn ρb H2 b → S2 b ∨ w.heap.size ≤ b ∨ b = mi.blk := fun h1 => by
        rcases tr.fresh b h1 with h2 | h2
        · exact .inr (.inl h2)
        · exact (hnc1 b h2).elim .inl fun h => .inr (.inr h)
      rcases hb with h1 | ⟨i, m1, o, h1, ho, hd, rfl⟩ | h1 | rfl | h1
      · rcases tr.grow b (.inl h1) with h2 | h2 | h2
        · exact .inl (hscl b h2)
        · exact .inr (.inl h2)
        · exact (hnc1 b h2).elim .inl fun h => .inr (.inr h)
      · cases hoo : ownedO o with
        | true =>
          refine viaOwn ⟨i, m1, o, h1, ho, hd, ?_, rfl⟩
          have hor1 := hJ2.inv.srel.obj i m1 o h1 ho
          cases o with
          | row c es own' => cases own' with
            | true => exact hor1.2.1
            | false => cases hoo
          | map es ck => exact hor1.1
          | iter _ _ _ => exact hor1.1
          | tok _ => cases hoo
          | dead => cases hoo
        | false =>
          obtain ⟨o', ho', hd'⟩ := hold _ _ hII i o ho hd hoo
          have hil : i < H.length := (List.getElem?_eq_some_iff.1 ho').1
          exact .inl ((hJ.leans m1.blk).2 (.inr (.inr (.inl ⟨i, m1, o', (hJ2.ext i hil) ▸ h1, ho', hd', rfl⟩))))
      · exact .inl ((hJ.leans b).2 (.inr (.inr (.inl h1))))
      · exact .inl ((hJ.leans b).2 (by simp))
      · exact .inl ((hJ.leans b).2 (by simp [h1]))
    have liveset : ∀ b, LiveOwn ρ2 (H1.set i0 .dead) b → LiveOwn ρ2 H1 b ∧ b ≠ mi.blk := by
      rintro b ⟨i, m1, o, e1, e2, e3, e4, rfl⟩
      obtain ⟨q1, q2⟩ := getset i o e2 e3
      exact ⟨⟨i, m1, o, e1, q2, e3, e4, rfl⟩, fun e => q1 (hi.srel.inj i i0 m1 mi o _ e1 hmi q2 hrow e3 rfl e4 e)⟩
    have hka := hJ.keepAll (w2 := w2) h01 h0l hk0 (fun b hb h3 h4 hb1 => tr.keep b hb h3 fun h5 => (give_own hJ.inv.srel _ _ h5).elim h4 fun e => by omega)
    refine ⟨ρ2, v, v, H1.set i0 .dead, (H2, g2, st), fun b => (Sb b ∨ LiveBlk ρb H2 b ∨ LiveBlk ρ H b ∨ b = l ∨ Dm = some b) ∨ b < w1.heap.size, rfl, ?_, ⟨hsr, ⟨ρb, Sb, _, hJ2, fun b => Iff.rfl, hka⟩, fun b hb => ?_, fun b hb hl => ?_⟩, ⟨by simp, fun _ _ => rfl, tr.os, tr.tape, tr.out, tr.size, fun b hb h1 h2 => ?_, fun b hb => .inr (liveset b hb).1, fun b hb => ?_⟩, rfl, ?_⟩
    · rw [hv]; exact .bool _
    · rcases hb with (h1 | ⟨i, m1, o, h1, _, _, rfl⟩ | ⟨i, m1, o, h1, _, _, rfl⟩ | rfl | h1) | h1
      · exact hJ2.inv.bnd b h1
      · exact (hJ2.inv.srel.dom i m1 h1).2
      · have := (hs0.dom i m1 h1).2; have := hJ2.size; omega
      · exact (Array.getElem?_eq_some_iff.1 hJ2.rec_).1
      · exact (Array.getElem?_eq_some_iff.1 (hJ2.mark b h1).1).1
      · exact Nat.lt_of_lt_of_le h1 hJ2.size
    · obtain ⟨hl1, hl2⟩ := liveset b hl
      obtain ⟨o1, o2, _⟩ := own b hl1 hl2
      rcases hb with hb | hb
      · rcases s2 b hb with h1 | h1 | h1
        · exact o1 h1
        · omega
        · exact hl2 h1
      · exact hi.disj b ((hS b).2 (.inr hb)) hl1
    · exact tr.keep b hb (fun h3 => h1 (hS1 _ (hscl b h3))) (fun h3 => (hnc1 b h3).elim (fun h => h1 (hS1 _ h)) (fun e => h2 (by rw [e]; exact hLi)))
    · rcases hb with hb | hb
      · rcases s2 b hb with h1 | h1 | rfl
        · exact .inl (hS1 _ h1)
        · exact .inr (.inl h1)
        · exact .inr (.inr hLi)
      · exact .inl ((hS b).2 (.inr hb))
    · rcases hst with ⟨rfl, h1⟩ | ⟨c, rfl, h1⟩
      · exact .inl ⟨by rw [hv]; rfl, rfl, h1⟩
      · exact .inr ⟨by rw [hv]; rfl, c, rfl, h1⟩

theorem CallV.yieldN (hs0 : SRel ρ H w0) (h0l : w0.heap.size ≤ l) (h01 : w0.heap.size ≤ w1.heap.size) (hT : TRel ρ T tmps0) {Hc H1 : AHeap} {gc : γ} {x : List Value} {I' : AHeap → γ → Prop} {Ix : Code → AHeap → γ → Prop}
    (htok : H1[H.length]? = some (.tok (pinsOf sh ρ H.length l))) (hview : ViewOk sh ρ H l H1) (hw : ∀ i ∈ sh, ∀ c es own, H[i]? = some (.row c es own) → ∀ v ∈ c, Within sh v)
    (hsh : ∀ i ∈ sh, ∃ m, ρ i = some m) (hlen : x.length = ps.size) (hx : ∀ v ∈ x, Across sh ρ H.length l v)
    (hI : ∀ H2 g2, (I' H2 g2 ∨ ∃ c, Ix c H2 g2) → ∀ i ∈ sh, ∀ c es own, H[i]? = some (.row c es own) → H2[i]? = some (.row c es own))
    (hold : ∀ H2 g2, (I' H2 g2 ∨ ∃ c, Ix c H2 g2) → ∀ (i : Nat) (o : AObj), H2[i]? = some o → o.dead? = false → ownedO o = false → ∃ o' : AObj, H[i]? = some o' ∧ o'.dead? = false)
    (hround : WPJ P E assign (thenQ (WPJ P E body (roundQ I' Ix)) (fun _ _ _ _ => False)) (putPs T ps.toList x) Hc gc) :
    CallV P (loopE2 E ρ H S w1 (recOf fn tmps0 ps assign body D0) l Dm w0.heap.size h01) (.func (.yield H.length) #[] #[]) x
      (fun v H2 x2 => H2 = H1 ∧ (v = .bool true ∧ x2.2.2 = none ∧ I' x2.1 x2.2.1 ∨ v = .bool false ∧ ∃ c, x2.2.2 = some c ∧ Ix c x2.1 x2.2.1)) H1 (Hc, gc, none) := by
  intro ρ2 w S2' fv' args' hi hf ha
  obtain ⟨ρc, Sc, S2, hJ, hS0, hk0⟩ := hi.j
  have hS1 : ∀ b, S2 b → S2' b := fun b hb => (hS0 b).2 (.inl hb)
  cases hf with
  | yield h =>
    rename_i m
    have hor := hi.srel.obj _ m _ h htok
    have hpins : ∀ p ∈ pinsOf sh ρ H.length l, ρ2 p.1 = some p.2 := hor.2
    have hm : m = ⟨l, 0, 0, false⟩ := by
      have := hpins (H.length, ⟨l, 0, 0, false⟩) (by simp [pinsOf])
      rw [h] at this; cases this; rfl
    subst hm
    have hxc : ARel ρc ⟨x⟩ args' := ⟨ha.1, fun j a b => hx _ (List.getElem_mem (by simpa using a)) ρ2 ρc _ hpins hJ.ext (ha.2 j a b)⟩
    have hsz : args'.size = ps.size := by have := ha.1; simp at this; omega
    have hy := run_yield (P := P) (args := args') hJ.rec_ hsz
    refine ⟨{ target := .fn (.yield l) #[], args := #[] ++ args' }, by simp [Deferred.ofValue], .inr ⟨l, fn, _, assign, body, by have h9 := hy; simp only [recOf] at h9; simpa [invoke] using h9, round_caller hs0 h0l h01 hT hJ hxc hround ?_⟩⟩
    intro v w2 ρb H2 g2 Sb st hv hst tr hJ2
    have hII : I' H2 g2 ∨ ∃ c, Ix c H2 g2 := by
      rcases hst with ⟨_, h1⟩ | ⟨c, _, h1⟩
      · exact .inl h1
      · exact .inr ⟨c, h1⟩
    -- what is the iterator's own has not turned
    have own : ∀ b, LiveOwn ρ2 H1 b → ¬ S2 b ∧ b < w.heap.size ∧ w2.heap[b]? = w.heap[b]? := by
      intro b hb
      have hS : ¬ S2 b := fun h1 => hi.disj b (hS1 b h1) hb
      have hlt : b < w.heap.size := by
        obtain ⟨i, m, o, e1, _, _, _, rfl⟩ := hb
        exact (hi.srel.dom i m e1).2
      refine ⟨hS, hlt, tr.keep b hlt (fun h1 => ?_) (fun h1 => hS ((hJ.leans b).2 (.inr (.inl h1.blk))))⟩
      rcases h1 with h1 | rfl
      · exact hS ((hJ.leans b).2 (.inl h1))
      · exact hS ((hJ.leans b).2 (by simp))
    have hle2 : (shareR sh ρb).le ρ2 := fun i m1 h1 => by
      obtain ⟨hi', m0, h2, rfl⟩ := shareR_some h1
      obtain ⟨m00, h3⟩ := hsh i hi'
      have h4 : ρb i = ρ i := hJ2.ext i (hs0.dom i m00 h3).1
      rw [h4] at h2
      exact hpins (i, { m0 with own := false }) (by simp only [pinsOf, List.mem_cons, List.mem_filterMap]; exact .inr ⟨i, hi', by rw [h2]; rfl⟩)
    have hsr : SRel ρ2 H1 w2 := by
      refine ⟨fun i m1 h1 => ⟨(hi.srel.dom i m1 h1).1, Nat.lt_of_lt_of_le (hi.srel.dom i m1 h1).2 tr.size⟩, fun i m1 o h1 ho => ?_, hi.srel.inj⟩
      have hor1 := hi.srel.obj i m1 o h1 ho
      cases hd : o.dead? with
      | true => cases o <;> first | trivial | cases hd
      | false =>
        have hown : ownedO o = true → ORel ρ2 o m1 w2.heap[m1.blk]? := fun ho2 => by
          have hmo : m1.own = true := by
            cases o with
            | row c es own' => cases own' with
              | true => exact hor1.2.1
              | false => cases ho2
            | map es ck => exact hor1.1
            | iter _ _ _ => exact hor1.1
            | tok _ => cases ho2
            | dead => cases ho2
          rw [(own m1.blk ⟨i, m1, o, h1, ho, hd, hmo, rfl⟩).2.2]
          exact hor1
        rcases hview i o ho hd with ⟨_, rfl⟩ | ⟨hi', hil, c, es, own', hH, rfl⟩ | ho2 | ⟨es, ck, rfl⟩
        · exact hor1
        · obtain ⟨m0, h3⟩ := hsh i hi'
          have h4 : ρb i = some m0 := (hJ2.ext i hil).trans h3
          have h5 : ρ2 i = some { m0 with own := false } := hle2 i _ (by simp only [shareR, if_pos hi', h4, Option.map_some])
          rw [h1] at h5
          cases h5
          obtain ⟨b1, b2, c', e, fr, b3, b4, b5, b6, b7⟩ := hJ2.inv.srel.obj i m0 _ h4 (hI _ _ hII i hi' c es own' hH)
          exact ⟨b1, rfl, c', e, fr, b3, b4, (fun e => Bool.noConfusion e), b6, fun j k1 k2 => (hw i hi' c es own' hH _ (List.getElem_mem k1) ρb _ (b7 j k1 k2)).mono hle2⟩
        · exact hown (by cases o <;> simp_all [ownRow, ownedO])
        · exact hown rfl
    have s2 : ∀ b, (Sb b ∨ LiveBlk ρb H2 b ∨ LiveBlk ρ H b ∨ b = l ∨ Dm = some b) → S2 b ∨ w.heap.size ≤ b := by
      intro b hb
      have viaOwn : LiveOwn ρb H2 b → S2 b ∨ w.heap.size ≤ b := fun h1 => by
        rcases tr.fresh b h1 with h2 | h2
        · exact .inr h2
        · exact .inl ((hJ.leans b).2 (.inr (.inl h2.blk)))
      rcases hb with h1 | ⟨i, m1, o, h1, ho, hd, rfl⟩ | h1 | rfl | h1
      · rcases tr.grow b (.inl h1) with (h2 | rfl) | h2 | h2
        · exact .inl ((hJ.leans b).2 (.inl h2))
        · exact .inl ((hJ.leans b).2 (by simp))
        · exact .inr h2
        · exact .inl ((hJ.leans b).2 (.inr (.inl h2.blk)))
      · cases hoo : ownedO o with
        | true =>
          refine viaOwn ⟨i, m1, o, h1, ho, hd, ?_, rfl⟩
          have hor1 := hJ2.inv.srel.obj i m1 o h1 ho
          cases o with
          | row c es own' => cases own' with
            | true => exact hor1.2.1
            | false => cases hoo
          | map es ck => exact hor1.1
          | iter _ _ _ => exact hor1.1
          | tok _ => cases hoo
          | dead => cases hoo
        | false =>
          obtain ⟨o', ho', hd'⟩ := hold _ _ hII i o ho hd hoo
          have hil : i < H.length := (List.getElem?_eq_some_iff.1 ho').1
          exact .inl ((hJ.leans m1.blk).2 (.inr (.inr (.inl ⟨i, m1, o', (hJ2.ext i hil) ▸ h1, ho', hd', rfl⟩))))
      · exact .inl ((hJ.leans b).2 (.inr (.inr (.inl h1))))
      · exact .inl ((hJ.leans b).2 (by simp))
      · exact .inl ((hJ.leans b).2 (by simp [h1]))
    have hka := hJ.keepAll (w2 := w2) h01 h0l hk0 (fun b hb h3 h4 _ => tr.keep b hb h3 h4)
    refine ⟨ρ2, v, v, H1, (H2, g2, st), fun b => (Sb b ∨ LiveBlk ρb H2 b ∨ LiveBlk ρ H b ∨ b = l ∨ Dm = some b) ∨ b < w1.heap.size, rfl, ?_, ⟨hsr, ⟨ρb, Sb, _, hJ2, fun b => Iff.rfl, hka⟩, fun b hb => ?_, fun b hb hl => ?_⟩, ⟨Nat.le_refl _, fun _ _ => rfl, tr.os, tr.tape, tr.out, tr.size, fun b hb h1 h2 => ?_, fun b hb => .inr hb, fun b hb => ?_⟩, rfl, ?_⟩
    · rw [hv]; exact .bool _
    · rcases hb with (h1 | ⟨i, m1, o, h1, _, _, rfl⟩ | ⟨i, m1, o, h1, _, _, rfl⟩ | rfl | h1) | h1
      · exact hJ2.inv.bnd b h1
      · exact (hJ2.inv.srel.dom i m1 h1).2
      · have := (hs0.dom i m1 h1).2; have := hJ2.size; omega
      · exact (Array.getElem?_eq_some_iff.1 hJ2.rec_).1
      · exact (Array.getElem?_eq_some_iff.1 (hJ2.mark b h1).1).1
      · exact Nat.lt_of_lt_of_le h1 hJ2.size
    · obtain ⟨o1, o2, _⟩ := own b hl
      rcases hb with hb | hb
      · rcases s2 b hb with h1 | h1
        · exact o1 h1
        · omega
      · exact hi.disj b ((hS0 b).2 (.inr hb)) hl
    · refine tr.keep b hb (fun h3 => ?_) (fun h3 => h1 (hS1 _ ((hJ.leans b).2 (.inr (.inl h3.blk)))))
      rcases h3 with h3 | rfl
      · exact h1 (hS1 _ ((hJ.leans b).2 (.inl h3)))
      · exact h1 (hS1 _ ((hJ.leans b).2 (by simp)))
    · rcases hb with hb | hb
      · rcases s2 b hb with h1 | h1
        · exact .inl (hS1 _ h1)
        · exact .inr (.inl h1)
      · exact .inl ((hS0 b).2 (.inr hb))
    · rcases hst with ⟨rfl, h1⟩ | ⟨c, rfl, h1⟩
      · exact .inl ⟨by rw [hv]; rfl, rfl, h1⟩
      · exact .inr ⟨by rw [hv]; rfl, c, rfl, h1⟩
end

/-- How a list is handed over, for good. -/
inductive HandedO (x : List Value) (Hc : AHeap) : Value → AHeap → Prop
  | row {cs : List Value} {cap : Nat} (h : cs.take x.length = x) (hf : cs.all flat1 = true) : HandedO x Hc (.slice (some ⟨Hc.length, 0, none⟩) x.length cap) (Hc ++ [.row cs 1 true])
  | nil (h : x = [] := by rfl) : HandedO x Hc (.slice none 0 0) Hc

section
variable {γ : Type} {P : Program} {E : Env γ}

/-- **A range over a function that hands over lists, for good.** -/
theorem WPJ.rangeFuncO {gop : Operand} {ps : Array Tmp} {assign body : Code} {Q : Exit → List Value → AHeap → γ → Prop} {T : List Value} {H : AHeap} {g : γ} {gf : FuncId} {fx cx : List Value} (hg : evalT T gop = .func (.func gf) ⟨fx⟩ ⟨cx⟩) (he : Enters P gf)
    (sh : List Nat) (xs : List (List Value)) {ok : AHeap → Prop} (hit : HitsS P gf fx cx ok xs) (hok : ∀ Hi, Viewed sh H Hi → ok Hi) (hsh : ∀ (ρ : Ren) (w : World), SRel ρ H w → (∀ v', VRel ρ (.func (.func gf) ⟨fx⟩ ⟨cx⟩) v' → ∀ i ∈ sh, ∃ m, ρ i = some m))
    (hfx : ∀ v ∈ fx, Within sh v) (hcx : ∀ v ∈ cx, Within sh v) (hw : ∀ i ∈ sh, ∀ c es own, H[i]? = some (.row c es own) → ∀ v ∈ c, Within sh v)
    (hps : ps.size = 1)
    (I : Nat → AHeap → γ → Prop) (Ix : Code → AHeap → γ → Prop) (h0 : I 0 H g)
    (hI : ∀ H2 g2, ((∃ k, I k H2 g2) ∨ ∃ c, Ix c H2 g2) → (∀ i ∈ sh, ∀ c es own, H[i]? = some (.row c es own) → H2[i]? = some (.row c es own)) ∧ (∀ (i : Nat) (o : AObj), H2[i]? = some o → o.dead? = false → ownedO o = false → ∃ o' : AObj, H[i]? = some o' ∧ o'.dead? = false))
    (round : ∀ k x Hc gc v Hc1, xs[k]? = some x → I k Hc gc → HandedO x Hc v Hc1 → WPJ P E assign (thenQ (WPJ P E body (roundQ (I (k + 1)) Ix)) (fun _ _ _ _ => False)) (putPs T ps.toList [v]) Hc1 gc)
    (done : ∀ Hc gc, I xs.length Hc gc → Q .normal T Hc gc) (stop : ∀ c Hc gc, Ix c Hc gc → WPJ P E c Q T Hc gc) : WPJ P E (.rangeFunc gop ps assign body) Q T H g := by
  intro ρ w S ro Ds ac hi ht hr hm
  refine wpIn_rangeFunc fun fn _ => ?_
  obtain ⟨l, Dm, w1, D0, e1, e2, e3, e4, e5, e6, e7, e8, e9⟩ := enter_loop (P := P) (w := w) (ro := ro) (fun k hk => (hr k hk).2) fn ac.tmps ps assign body
  have hgv := hg ▸ ht.eval gop
  obtain ⟨x', c', hev, hx1, hx2, hc1, hc2⟩ : ∃ x' c', ac.eval gop = .func (.func gf) x' c' ∧ fx.length = x'.size ∧ (∀ (j : Nat) (h : j < fx.length) (h' : j < x'.size), VRel ρ fx[j] x'[j]) ∧ cx.length = c'.size ∧ (∀ (j : Nat) (h : j < cx.length) (h' : j < c'.size), VRel ρ cx[j] c'[j]) := by
    generalize ac.eval gop = fv at hgv
    cases hgv with
    | func a b c d => exact ⟨_, _, rfl, by simpa using a, fun j h h' => b j (by simpa using h) h', by simpa using c, fun j h h' => d j (by simpa using h) h'⟩
  have hshd : ∀ i ∈ sh, ∃ m, ρ i = some m := hsh ρ w hi.srel _ hgv
  have hs1 : SRel ρ H w1 := hi.srel.still (fun b hb => e5 b (by obtain ⟨i, m, o, q1, _, _, rfl⟩ := hb; exact (hi.srel.dom i m q1).2)) e4
  have hll : l < w1.heap.size := (Array.getElem?_eq_some_iff.1 e2).1
  -- the caller, as the iterator leans on it
  have hJ : LoopJ E ρ H S w1 (recOf fn ac.tmps ps assign body D0) l Dm (H, g, none) (fun b => S b ∨ LiveBlk ρ H b ∨ LiveBlk ρ H b ∨ b = l ∨ Dm = some b) w1 ρ S := {
    inv := ⟨hs1, E.stable _ _ _ _ hi.j (fun b hb => e5 b (hi.bnd b hb)) e4 e6 e7 e8, fun b hb => Nat.lt_of_lt_of_le (hi.bnd b hb) e4, hi.disj⟩
    next := Nat.le_refl _
    ext := fun _ _ => rfl
    os := rfl
    tape := rfl
    out := rfl
    size := Nat.le_refl _
    fresh := fun _ h => .inr h
    grow := fun _ h => .inl h
    keep := fun _ _ _ _ => rfl
    rec_ := e2
    mark := fun D hD => ⟨(e9 D hD).2.2, fun h => by have := hi.bnd D h; have := (e9 D hD).1; omega⟩
    nol := fun h => by have := hi.bnd l h; omega
    leans := fun _ => Iff.rfl }
  have hsv := share_srel hs1 hw hll
  have hle : (shareR sh ρ).le (shareV sh ρ H.length l) := fun i m h => by
    obtain ⟨_, m0, h2, _⟩ := shareR_some h
    have := (hi.srel.dom i m0 h2).1
    unfold shareV Ren.add
    rw [if_neg (by omega)]; exact h
  have hcall := hit _ (loopE2 E ρ H S w1 (recOf fn ac.tmps ps assign body D0) l Dm w.heap.size e4) (fun k x => x.2.2 = none ∧ I k x.1 x.2.1) (fun x => ∃ c, x.2.2 = some c ∧ Ix c x.1 x.2.1) H.length
    (shareH sh H ++ [.tok (pinsOf sh ρ H.length l)]) (H, g, none)
    (hok _ fun i hi' c es own hH => by rw [List.getElem?_append_left (by rw [shareH_len]; exact (List.getElem?_eq_some_iff.1 hH).1)]; exact shareH_row hi' hH)
    (by
      rintro k x hx H1 ⟨Hc, gc, st⟩ i0 cap cs hext hrow hfl htk ⟨hst, hIk⟩
      simp only at hst hIk
      subst hst
      obtain ⟨htok, hview⟩ := view_of_ext hext
      exact CallV.yieldO (len := x.length) (cap := cap) (I' := I (k + 1)) (Ix := Ix) hi.srel e3 e4 ht htok hview hw hshd hps.symm hrow hfl (fun H2 g2 h => (hI H2 g2 (h.imp (fun h => ⟨k + 1, h⟩) id)).1) (fun H2 g2 h => (hI H2 g2 (h.imp (fun h => ⟨k + 1, h⟩) id)).2) (round k x Hc gc _ _ hx hIk (.row htk hfl)))
    (by
      rintro k hx H1 ⟨Hc, gc, st⟩ hext ⟨hst, hIk⟩
      simp only at hst hIk
      subst hst
      obtain ⟨htok, hview⟩ := view_of_ext hext
      exact CallV.yieldN (I' := I (k + 1)) (Ix := Ix) hi.srel e3 e4 ht htok hview hw hshd (by rw [hps]; rfl) (fun v hv => by simp at hv; subst hv; exact .flat rfl) (fun H2 g2 h => (hI H2 g2 (h.imp (fun h => ⟨k + 1, h⟩) id)).1) (fun H2 g2 h => (hI H2 g2 (h.imp (fun h => ⟨k + 1, h⟩) id)).2) (round k [] Hc gc _ _ hx hIk .nil))
    ⟨rfl, h0⟩
  have hinv : Inv (loopE2 E ρ H S w1 (recOf fn ac.tmps ps assign body D0) l Dm w.heap.size e4) (shareV sh ρ H.length l) (shareH sh H ++ [.tok (pinsOf sh ρ H.length l)]) (H, g, none) (fun b => (S b ∨ LiveBlk ρ H b ∨ LiveBlk ρ H b ∨ b = l ∨ Dm = some b) ∨ b < w1.heap.size) w1 := by
    refine ⟨hsv, ⟨ρ, S, _, hJ, fun _ => Iff.rfl, fun _ _ _ _ => rfl⟩, fun b hb => ?_, fun b _ => share_noOwn⟩
    rcases hb with (h1 | ⟨i, m1, o, h1, _, _, rfl⟩ | ⟨i, m1, o, h1, _, _, rfl⟩ | rfl | h1) | h1
    · have := hi.bnd b h1; omega
    · exact (hs1.dom i m1 h1).2
    · exact (hs1.dom i m1 h1).2
    · exact hll
    · exact (Array.getElem?_eq_some_iff.1 (e9 b h1).2.2).1
    · exact h1
  have hargs : ARel (shareV sh ρ H.length l) ⟨fx ++ ([.func (.yield H.length) #[] #[]] ++ cx)⟩ (x' ++ #[.func (.yield l) #[] #[]] ++ c') := by
    have a1 : ARel (shareV sh ρ H.length l) ⟨fx⟩ x' := ⟨by simpa using hx1, fun j a b => (hfx _ (List.getElem_mem (by simpa using a)) ρ _ (hx2 j (by simpa using a) b)).mono hle⟩
    have a2 : ARel (shareV sh ρ H.length l) ⟨cx⟩ c' := ⟨by simpa using hc1, fun j a b => (hcx _ (List.getElem_mem (by simpa using a)) ρ _ (hc2 j (by simpa using a) b)).mono hle⟩
    have a3 : ARel (shareV sh ρ H.length l) ⟨[.func (.yield H.length) #[] #[]]⟩ #[.func (.yield l) #[] #[]] := ⟨rfl, fun j a b => by
      have : j = 0 := by simp at a; omega
      subst this
      exact .yield (m := ⟨l, 0, 0, false⟩) (Ren.add_same _ _ _)⟩
    have := (a1.append a3).append a2
    simpa [List.append_assoc] using this
  have hcr := hcall _ w1 _ _ hinv hargs
  refine ⟨l, _, w1, { target := .fn (.func gf) c', args := x' ++ #[.func (.yield l) #[] #[]] }, w1, gf, x' ++ #[.func (.yield l) #[] #[]] ++ c', w1, e1, ?_, fun _ _ => trivial, by simp [invoke, he _ _], fun h => by simp [Wr, Fence.wide] at h, ?_⟩
  · simp only [resolve, hev]
    simp [go_sem]
  · refine callsIn_Wr.2 (hcr.mono ?_)
    rintro e w3 ⟨ρ', v, v', H', ⟨Hc, gc, st⟩, S', rfl, _, hi3, _, rfl, hend⟩
    obtain ⟨ρc, Sc, _, hJ3, _, hk3⟩ := hi3.j
    have hend' := run_endLoop (P := P) hJ3.rec_ (by cases st <;> simp [recOf])
    refine ⟨_, _, hend', ?_⟩
    have hno : ∀ b, b < w.heap.size → b ≠ l := fun b hb e => by omega
    have hput : ∀ o b, b ≠ l → (w3.putObj l o).heap[b]? = w3.heap[b]? := fun o b hb => World.putObj_heap_other hb
    have hic := hJ3.inv.putObj (o' := .loop { recOf fn ac.tmps ps assign body D0 st with state := .exhausted }) hJ3.nol hJ3.rec_ (fun _ _ _ e => by cases e) (fun _ _ e => by cases e)
    have trc : Trans ρ H S w ρc Hc Sc (w3.putObj l (.loop { recOf fn ac.tmps ps assign body D0 st with state := .exhausted })) := {
      next := hJ3.next
      ext := hJ3.ext
      os := hJ3.os.trans e6
      tape := hJ3.tape.trans e7
      out := hJ3.out.trans e8
      size := by have := hJ3.size; simp; omega
      keep := fun b hb h1 h2 => by
        rw [hput _ b (hno b hb)]
        exact (hk3 b hb h1 h2).trans (e5 b hb)
      fresh := fun b hb => by
        rcases hJ3.fresh b hb with h1 | h1
        · exact .inl (by omega)
        · exact .inr h1
      grow := fun b hb => by
        rcases hJ3.grow b hb with h1 | h1 | h1
        · exact .inl h1
        · exact .inr (.inl (by omega))
        · exact .inr (.inr h1) }
    have hmk := hm.trans hi.srel trc
    have hDs : ∀ D ∈ Ds, D < w.heap.size := fun D hD => (Array.getElem?_eq_some_iff.1 (hm.at_ D hD).2).1
    have hmk2 : Marks (Dm.toList.map (fun D => ({ target := .collected D, args := #[] } : Deferred)) ++ ac.defers) (Dm.toList ++ Ds) Sc (w3.putObj l (.loop { recOf fn ac.tmps ps assign body D0 st with state := .exhausted })) := by
      refine ⟨by rw [List.map_append, hm.eq], ?_, fun D hD => ?_⟩
      · cases Dm with
        | none => exact hm.nodup
        | some D => exact List.nodup_cons.2 ⟨fun h => by have := hDs D h; have := (e9 D rfl).1; omega, hm.nodup⟩
      · rcases List.mem_append.1 hD with h1 | h1
        · have hDm : Dm = some D := by simpa using h1
          exact ⟨(hJ3.mark D hDm).2, (hput _ D (e9 D hDm).2.1).trans (hJ3.mark D hDm).1⟩
        · exact hmk.at_ D h1
    have hnew : ∀ D ∈ Dm.toList ++ Ds, D ∈ Ds ∨ w.heap.size ≤ D := fun D hD => by
      rcases List.mem_append.1 hD with h1 | h1
      · exact .inr (e9 D (by simpa using h1)).1
      · exact .inl h1
    have htc : TRel ρc T ac.tmps := ht.mono (trc.le hi.srel)
    rcases hend with ⟨hst, hIn⟩ | ⟨c, hst, hIx⟩
    · simp only at hst hIn
      subst hst
      exact ⟨ρc, T, Hc, gc, Sc, _, hic, htc, trc, ⟨hmk2, hnew⟩, done Hc gc hIn⟩
    · simp only at hst hIx
      subst hst
      exact wpIn_mono (stop c Hc gc hIx ρc _ Sc ro _ { ac with defers := Dm.toList.map (fun D => ({ target := .collected D, args := #[] } : Deferred)) ++ ac.defers } hic htc (hr.trans hi.srel trc) hmk2) fun e a w' hp => hp.from trc hnew
end
end Go.Abs
