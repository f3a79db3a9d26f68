import Derived.Test.YtehobnpoeodhkaaR1
namespace Go.Proofs.Ytehobnpoeodhkaa
open Go Go.Abs Go.Proofs
set_option maxHeartbeats 1600000
attribute [local irreducible] CallJ OpsJ WPJ CallV MonoJ SpecJ

/-! ### The clips of a ticket -/
def clipsT (m : HouseM) (t : Int) : List ClipM := m.clips.filter fun c => c.ticket == t
def ofL (m : HouseM) (t : Int) (j : Nat) : List Nat := (List.range j).filter fun k => (m.clips[k]?.map (·.ticket)) == some t
theorem ofN_eq (m : HouseM) (t : Int) (j : Nat) : ofN m t j = (ofL m t j).map fun (k : Nat) => (k : Int) := rfl
theorem ofL_clips (m : HouseM) (t : Int) : ∀ j, j ≤ m.clips.length → (ofL m t j).map (fun k => m.clips[k]?) = ((m.clips.take j).filter fun c => c.ticket == t).map some
  | 0, _ => by simp [ofL]
  | j + 1, h => by
    have ih := ofL_clips m t j (by omega)
    have hj : j < m.clips.length := by omega
    unfold ofL at ih ⊢
    rw [List.range_succ, List.filter_append, List.map_append, ih, List.take_succ_eq_append_getElem hj, List.filter_append, List.map_append]
    congr 1
    simp only [List.filter_cons, List.filter_nil, List.getElem?_eq_getElem hj, Option.map_some]
    by_cases e : m.clips[j].ticket = t <;> simp [e]
theorem ofS_len2 {m : HouseM} (hG : Good m) (t : Int) : (clipsT m t).length ≤ 2 := by
  cases h : clipsT m t with
  | nil => simp
  | cons a l =>
    have ha : a ∈ clipsT m t := by rw [h]; simp
    obtain ⟨h1, h2⟩ := List.mem_filter.1 ha
    have h3 := hG.clip a h1
    simp only [beq_iff_eq] at h2
    have h4 := h3.2.2.2
    rw [h2] at h4
    unfold clipsOfS at h4
    rw [List.take_length, List.countP_eq_length_filter] at h4
    unfold clipsT at h
    rw [h] at h4
    omega
theorem of_cases {m : HouseM} (hG : Good m) (t : Int) : (ofS m t = [] ∧ clipsT m t = []) ∨ (∃ (k : Nat) (a : ClipM), ofS m t = [(k : Int)] ∧ clipsT m t = [a] ∧ m.clips[k]? = some a) ∨ ∃ (k0 k1 : Nat) (a b : ClipM), ofS m t = [(k0 : Int), (k1 : Int)] ∧ clipsT m t = [a, b] ∧ m.clips[k0]? = some a ∧ m.clips[k1]? = some b := by
  have h1 := ofL_clips m t m.clips.length (Nat.le_refl _)
  rw [List.take_length] at h1
  have h2 := ofS_len2 hG t
  have h3 : ofS m t = (ofL m t m.clips.length).map fun (k : Nat) => (k : Int) := rfl
  unfold clipsT at h2 ⊢
  rw [h3]
  generalize ofL m t m.clips.length = L at *
  generalize (m.clips.filter fun c => c.ticket == t) = C at *
  match L, C, h1, h2 with
  | [], [], _, _ => exact .inl ⟨rfl, rfl⟩
  | [k], [a], h1, _ => exact .inr (.inl ⟨k, a, rfl, rfl, by simpa using h1⟩)
  | [k0, k1], [a, b], h1, _ => exact .inr (.inr ⟨k0, k1, a, b, rfl, rfl, by simpa using (List.cons.inj h1).1, by simpa using (List.cons.inj (List.cons.inj h1).2).1⟩)
  | [], _ :: _, h1, _ => simp at h1
  | _ :: _, [], h1, _ => simp at h1
  | [_], _ :: _ :: _, h1, _ => simp at h1
  | _ :: _ :: _, [_], h1, _ => simp at h1
  | _ :: _ :: _ :: _, [_, _], h1, _ => simp at h1
  | [_, _], _ :: _ :: _ :: _, h1, _ => simp at h1
  | _ :: _ :: _ :: _, _ :: _ :: _ :: _, _, h2 => simp at h2

/-! ### What a ticket's stay is -/
theorem stay_fold (es : List Int) (t : Nat) (ht : t < 6) : ∀ (cs : List ClipM) (ss : List StayM), (∀ c ∈ cs, 0 ≤ c.ticket ∧ c.ticket < 6) → ss.length = 6 → (cs.foldl (staysStep es) ss)[t]? = some ((cs.filter fun c => c.ticket == (t : Int)).foldl (stay1 es) (ss.getD t stay0))
  | [], ss, _, hl => by simp [List.getD, hl, ht]
  | c :: cs, ss, h, hl => by
    have hc := h c (by simp)
    rw [List.foldl_cons, stay_fold es t ht cs (staysStep es ss c) (fun x hx => h x (by simp [hx])) (by rw [staysStep_len, hl])]
    congr 1
    unfold staysStep
    by_cases e : c.ticket = (t : Int)
    · have e2 : c.ticket.toNat = t := by omega
      rw [List.filter_cons, if_pos (by simp [e]), List.foldl_cons, e2]
      congr 1
      simp [List.getD, hl, ht]
    · have e2 : c.ticket.toNat ≠ t := by omega
      rw [List.filter_cons, if_neg (by simp [e])]
      congr 1
      simp [List.getD, List.getElem?_set_ne e2]
theorem stay_eq {m : HouseM} (hG : Good m) (es : List Int) {t : Nat} (ht : t < m.tickets.length) : (staysS es m.clips)[t]?.getD stay0 = (clipsT m t).foldl (stay1 es) stay0 := by
  have h2 := hG.n2
  unfold staysS
  rw [stay_fold es t (by omega) m.clips _ (fun c hc => by have := hG.clip c hc; omega) (by simp)]
  have h3 : (List.replicate 6 stay0).getD t stay0 = stay0 := by
    rw [List.getD_eq_getElem?_getD, List.getElem?_replicate]
    split <;> rfl
  rw [Option.getD_some, h3]
  rfl
def ceilH (stay hour : Int) : Int := (max stay 0 + hour - 1) / hour
/-- the hours of a ticket, as the reference counts them -/
def hoursR (m : HouseM) (l : List Int) (t : Int) : Int := match clipsT m t with
  | a :: b :: _ => ceilH (trueM l b - trueM l a - m.grace) m.hour
  | _ => 0
theorem true_pad {m : HouseM} {l : List Int} (hG : Good m) (h : isE m l = true) {c : ClipM} (hc : c ∈ m.clips) : trueM (padL m l) c = trueM l c := by
  rw [← pad_errs h]; exact trueM_errs hG h hc
theorem hours_pad {m : HouseM} {l : List Int} (hG : Good m) (h : isE m l = true) {t : Nat} (ht : t < m.tickets.length) : hoursQ m t (padL m l) = hoursR m l t := by
  unfold hoursQ hoursR
  rw [stay_eq hG _ ht]
  rcases of_cases hG (t : Int) with ⟨_, e⟩ | ⟨k, a, _, e, _⟩ | ⟨k0, k1, a, b, _, e, ha, hb⟩
  · rw [e]; rfl
  · rw [e]; simp [stay1, stay0, hoursS]
  · have h1 := true_pad hG h (List.mem_of_getElem? ha)
    have h2 := true_pad hG h (List.mem_of_getElem? hb)
    rw [e]
    simp [stay1, stay0, hoursS, ceilH, h1, h2]
theorem ceil_lt {stay hour j : Int} (hh : 1 ≤ hour) (hj : 0 ≤ j) : j * hour < stay ↔ j < ceilH stay hour := by
  unfold ceilH
  have h1 : 0 ≤ j * hour := Int.mul_nonneg hj (by omega)
  have h2 : j + 1 ≤ (max stay 0 + hour - 1) / hour ↔ (j + 1) * hour ≤ max stay 0 + hour - 1 := Int.le_ediv_iff_mul_le (by omega)
  rw [Int.add_mul, Int.one_mul] at h2
  omega
theorem ceil_bd {stay hour : Int} (hh : 1 ≤ hour) : 0 ≤ ceilH stay hour ∧ ceilH stay hour ≤ max stay 0 := by
  unfold ceilH
  refine ⟨Int.ediv_nonneg (by omega) (by omega), ?_⟩
  have h1 : (max stay 0 + hour - 1) / hour < max stay 0 + 1 ↔ max stay 0 + hour - 1 < (max stay 0 + 1) * hour := Int.ediv_lt_iff_lt_mul (by omega)
  have h2 : max stay 0 * 1 ≤ max stay 0 * hour := Int.mul_le_mul_of_nonneg_left hh (by omega)
  rw [Int.add_mul, Int.one_mul] at h1
  omega
theorem true_at {m : HouseM} {l : List Int} (hG : Good m) (hE : isE m l = true) {k : Nat} {c : ClipM} (hc : m.clips[k]? = some c) : ∃ x, 0 ≤ c.clock ∧ l[c.clock.toNat]? = some x ∧ trueM l c = c.minute - x ∧ (-1000000 ≤ c.minute ∧ c.minute ≤ 1000000 ∧ -1000000 ≤ x ∧ x ≤ 1000000) := by
  have h1 := (isE_bd hG hE).1 c (List.mem_of_getElem? hc)
  have h2 := (isE_bd hG hE).2 _ (List.getElem_mem h1.2.1)
  refine ⟨l[c.clock.toNat]'h1.2.1, h1.1, by simp [h1.2.1], ?_, by omega⟩
  unfold trueM
  simp [List.getD, h1.2.1]
section
variable {γ : Type} (E : Env γ) (g : γ) (H : AHeap)
theorem Of_w (m : HouseM) (s1 s2 s3 : Value) (t : Int) (hm : HouseIs H m s1 s2 s3) : CallJ Try.prog E 108 [hv m s1 s2 s3, .int .i64 t] (fun v H' g' => (RdS H' v 1 (encI (ofS m t)) ∧ Ext H H') ∧ g' = g) H g :=
  (Of_spec E g H m s1 s2 s3 t hm).mono (by rintro v H' g' ⟨rfl, rfl, rfl⟩; exact ⟨⟨sl_rd (enc := enc1) (w := 1) (fun _ => rfl) H (ofS m t), ⟨_, rfl⟩⟩, rfl⟩)
theorem HoursR_spec (m : HouseM) (s1 s2 s3 lv : Value) (l : List Int) (t : Int) (hm : HouseIs H m s1 s2 s3) (hr : RdS H lv 1 (encI l)) (hG : Good m) (hE : isE m l = true) :
    CallJ Try.prog E 66 [hv m s1 s2 s3, lv, .int .i64 t] (fun v H' g' => v = .int .i64 (hoursR m l t) ∧ H' = H ∧ g' = g) H g := by
  have hok := hm.cells
  have hgr := hG.grace
  have hho := hG.hour
  refine CallJ.tidy ?_
  unfold hv
  refine CallJ.enter Try.func66 rfl (by simp only [Try.ntmps66, List.length_cons, List.length_nil, Nat.zero_add, Nat.reduceAdd, Nat.reduceSub, List.replicate_succ, List.replicate_zero, List.cons_append, List.nil_append]; rfl) ?_
  repeat' (first
    | (refine is_ucall ?_; first
      | refine st_callP (h := True_spec _ _ _ m s1 s2 s3 lv l _ _ _ (hm.ext extA) (hr.ext extA) hci hci0 hcix hcib) (k := ?_)
      | refine st_callP (h := True_spec _ _ _ m s1 s2 s3 lv l _ _ _ (hm.ext extA) (hr.ext extA) hck hck0 hckx hckb) (k := ?_)
      | fail)
    | (refine is_umcall ?_; first
      | refine mj_callP (h := True_spec _ _ _ m s1 s2 s3 lv l _ _ _ (hm.ext extA) (hr.ext extA) hci hci0 hcix hcib) (k := ?_)
      | refine mj_callP (h := True_spec _ _ _ m s1 s2 s3 lv l _ _ _ (hm.ext extA) (hr.ext extA) hck hck0 hckx hckb) (k := ?_)
      | fail)
    | refine W1 ?_ | refine Wc ?_ | refine W2c ?_ ?_ | refine Wg ?_ | refine W2 ?_ ?_ | exact Wdead | refine Wlive (fun hb => ?_) | intro _ _ _ _ _ _ _ _ | refine We ?_ | refine Wx ?_ | refine Wt ?_ | refine Wm ?_ | refine W2m ?_ ?_ | refine Wl ?_
    | fail)
  refine st_call rfl (Of_w E _ _ m s1 s2 s3 t (hm.ext extA)) ?_
  rintro ov H1 g1 ⟨⟨hro, e1⟩, rfl⟩
  have x1 : Ext H H1 := Ext.trans extA e1
  have hb1 : H1[H.length]? = some (.row [.int .i64 m.hour, .int .i64 m.grace, s1, s2, s3] 1 true) := e1.get getA
  refine OpsJ.normA ?_
  rcases of_cases hG t with ⟨e, e2⟩ | ⟨k, a, e, e2, _⟩ | ⟨k0, k1, a, b, e, e2, hci, hck⟩
  · have hq : hoursR m l t = 0 := by unfold hoursR; rw [e2]
    rw [e] at hro
    rw [hq]
    repeat' (first
      | (refine is_ucall ?_; first
        | refine st_callP (h := True_spec _ _ _ m s1 s2 s3 lv l _ _ _ (hm.ext extA) (hr.ext extA) hci hci0 hcix hcib) (k := ?_)
        | refine st_callP (h := True_spec _ _ _ m s1 s2 s3 lv l _ _ _ (hm.ext extA) (hr.ext extA) hck hck0 hckx hckb) (k := ?_)
        | fail)
      | (refine is_umcall ?_; first
        | refine mj_callP (h := True_spec _ _ _ m s1 s2 s3 lv l _ _ _ (hm.ext extA) (hr.ext extA) hci hci0 hcix hcib) (k := ?_)
        | refine mj_callP (h := True_spec _ _ _ m s1 s2 s3 lv l _ _ _ (hm.ext extA) (hr.ext extA) hck hck0 hckx hckb) (k := ?_)
        | fail)
      | refine W1 ?_ | refine Wc ?_ | refine W2c ?_ ?_ | refine Wg ?_ | refine W2 ?_ ?_ | exact Wdead | refine Wlive (fun hb => ?_) | intro _ _ _ _ _ _ _ _ | refine We ?_ | refine Wx ?_ | refine Wt ?_ | refine Wm ?_ | refine W2m ?_ ?_ | refine Wl ?_
      | fail)
    exact ⟨rfl, rfl, rfl⟩
  · have hq : hoursR m l t = 0 := by unfold hoursR; rw [e2]
    rw [e] at hro
    rw [hq]
    repeat' (first
      | (refine is_ucall ?_; first
        | refine st_callP (h := True_spec _ _ _ m s1 s2 s3 lv l _ _ _ (hm.ext extA) (hr.ext extA) hci hci0 hcix hcib) (k := ?_)
        | refine st_callP (h := True_spec _ _ _ m s1 s2 s3 lv l _ _ _ (hm.ext extA) (hr.ext extA) hck hck0 hckx hckb) (k := ?_)
        | fail)
      | (refine is_umcall ?_; first
        | refine mj_callP (h := True_spec _ _ _ m s1 s2 s3 lv l _ _ _ (hm.ext extA) (hr.ext extA) hci hci0 hcix hcib) (k := ?_)
        | refine mj_callP (h := True_spec _ _ _ m s1 s2 s3 lv l _ _ _ (hm.ext extA) (hr.ext extA) hck hck0 hckx hckb) (k := ?_)
        | fail)
      | refine W1 ?_ | refine Wc ?_ | refine W2c ?_ ?_ | refine Wg ?_ | refine W2 ?_ ?_ | exact Wdead | refine Wlive (fun hb => ?_) | intro _ _ _ _ _ _ _ _ | refine We ?_ | refine Wx ?_ | refine Wt ?_ | refine Wm ?_ | refine W2m ?_ ?_ | refine Wl ?_
      | fail)
    exact ⟨rfl, rfl, rfl⟩
  · have hq : hoursR m l t = ceilH (trueM l b - trueM l a - m.grace) m.hour := by unfold hoursR; rw [e2]
    obtain ⟨x0, hci0, hcix, hcit, hcib⟩ := true_at hG hE hci
    obtain ⟨y0, hck0, hckx, hckt, hckb⟩ := true_at hG hE hck
    rw [hcit, hckt] at hq
    rw [e] at hro
    rw [hq]
    have el0 : (encI [(k0 : Int), (k1 : Int)])[(0 : Int).toNat]? = some [.int .i64 (k0 : Int)] := rfl
    have el1 : (encI [(k0 : Int), (k1 : Int)])[(1 : Int).toNat]? = some [.int .i64 (k1 : Int)] := rfl
    repeat' (first
      | (refine is_ucall ?_; first
        | refine st_callP (h := True_spec _ _ _ m s1 s2 s3 lv l _ _ _ (hm.ext extA) (hr.ext extA) hci hci0 hcix hcib) (k := ?_)
        | refine st_callP (h := True_spec _ _ _ m s1 s2 s3 lv l _ _ _ (hm.ext extA) (hr.ext extA) hck hck0 hckx hckb) (k := ?_)
        | fail)
      | (refine is_umcall ?_; first
        | refine mj_callP (h := True_spec _ _ _ m s1 s2 s3 lv l _ _ _ (hm.ext extA) (hr.ext extA) hci hci0 hcix hcib) (k := ?_)
        | refine mj_callP (h := True_spec _ _ _ m s1 s2 s3 lv l _ _ _ (hm.ext extA) (hr.ext extA) hck hck0 hckx hckb) (k := ?_)
        | fail)
      | refine W1 ?_ | refine Wc ?_ | refine W2c ?_ ?_ | refine Wg ?_ | refine W2 ?_ ?_ | exact Wdead | refine Wlive (fun hb => ?_) | intro _ _ _ _ _ _ _ _ | refine We ?_ | refine Wx ?_ | refine Wt ?_ | refine Wm ?_ | refine W2m ?_ ?_ | refine Wl ?_
      | fail)
    refine WPJ.draw 16 mixed (by kernel_rfl) (by kernel_rfl) (by kernel_rfl) (by decide) ?_
    refine MonoJ.normA ?_
    repeat' (first
      | (refine is_ucall ?_; first
        | refine st_callP (h := True_spec _ _ _ m s1 s2 s3 lv l _ _ _ (hm.ext extA) (hr.ext extA) hci hci0 hcix hcib) (k := ?_)
        | refine st_callP (h := True_spec _ _ _ m s1 s2 s3 lv l _ _ _ (hm.ext extA) (hr.ext extA) hck hck0 hckx hckb) (k := ?_)
        | fail)
      | (refine is_umcall ?_; first
        | refine mj_callP (h := True_spec _ _ _ m s1 s2 s3 lv l _ _ _ (hm.ext extA) (hr.ext extA) hci hci0 hcix hcib) (k := ?_)
        | refine mj_callP (h := True_spec _ _ _ m s1 s2 s3 lv l _ _ _ (hm.ext extA) (hr.ext extA) hck hck0 hckx hckb) (k := ?_)
        | fail)
      | refine W1 ?_ | refine Wc ?_ | refine W2c ?_ ?_ | refine Wg ?_ | refine W2 ?_ ?_ | exact Wdead | refine Wlive (fun hb => ?_) | intro _ _ _ _ _ _ _ _ | refine We ?_ | refine Wx ?_ | refine Wt ?_ | refine Wm ?_ | refine W2m ?_ ?_ | refine Wl ?_
      | fail)
    have hst : -5000000 ≤ b.minute - y0 - (a.minute - x0) - m.grace ∧ b.minute - y0 - (a.minute - x0) - m.grace ≤ 5000000 := by omega
    generalize b.minute - y0 - (a.minute - x0) - m.grace = stay at *
    have hcb := ceil_bd (stay := stay) hho.1
    obtain ⟨N, hN⟩ : ∃ N : Nat, (N : Int) = ceilH stay m.hour := ⟨(ceilH stay m.hour).toNat, by omega⟩
    refine WPJ.loopT N [32, 33, 34, 35, 36, 37, 38, 39] (fun j (_ : Unit) => [(9, .int .i64 j)]) (fun _ _ Hx gx => gx = g1 ∧ Hx = H1) 0 () (Nat.zero_le _) (by intro p hp; simp at hp; rcases hp with rfl; rfl) ⟨rfl, rfl⟩ ?_
    rintro j _ Hx gx hj ⟨rfl, rfl⟩ hl0
    simp only [updT, maskT, List.set_cons_zero, List.set_cons_succ]
    have hlt := ceil_lt (stay := stay) (j := (j : Int)) hho.1 (by omega)
    have hmul : 0 ≤ (j : Int) * m.hour ∧ (j : Int) * m.hour ≤ 600000000 := by
      refine ⟨Int.mul_nonneg (by omega) (by omega), ?_⟩
      exact Int.le_trans (Int.mul_le_mul (show (j : Int) ≤ 5000000 by omega) hho.2 (by omega) (by omega)) (by decide)
    repeat' (first
      | (refine is_ucall ?_; first
        | refine st_callP (h := True_spec _ _ _ m s1 s2 s3 lv l _ _ _ (hm.ext extA) (hr.ext extA) hci hci0 hcix hcib) (k := ?_)
        | refine st_callP (h := True_spec _ _ _ m s1 s2 s3 lv l _ _ _ (hm.ext extA) (hr.ext extA) hck hck0 hckx hckb) (k := ?_)
        | fail)
      | (refine is_umcall ?_; first
        | refine mj_callP (h := True_spec _ _ _ m s1 s2 s3 lv l _ _ _ (hm.ext extA) (hr.ext extA) hci hci0 hcix hcib) (k := ?_)
        | refine mj_callP (h := True_spec _ _ _ m s1 s2 s3 lv l _ _ _ (hm.ext extA) (hr.ext extA) hck hck0 hckx hckb) (k := ?_)
        | fail)
      | refine W1 ?_ | refine Wc ?_ | refine W2c ?_ ?_ | refine Wg ?_ | refine W2 ?_ ?_ | exact Wdead | refine Wlive (fun hb => ?_) | intro _ _ _ _ _ _ _ _ | refine We ?_ | refine Wx ?_ | refine Wt ?_ | refine Wm ?_ | refine W2m ?_ ?_ | refine Wl ?_
      | fail)
    · exact ⟨(), by omega, (by repeat' (first | exact Weak.nil | refine Weak.wild ?_ | refine Weak.same ?_ | refine Weak.intEq (by first | omega | (simp; done) | (push_cast; omega)) ?_)), rfl, rfl⟩
    · obtain rfl : j = N := by omega
      rw [← hN]
      exact ⟨rfl, rfl, rfl⟩
end
end Go.Proofs.Ytehobnpoeodhkaa
