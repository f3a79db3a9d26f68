import Derived.Test.YtehobnpoeodhkaaR8
namespace Go.Proofs.Ytehobnpoeodhkaa
open Go Go.Abs Go.Proofs
set_option maxHeartbeats 1600000
attribute [local irreducible] CallJ OpsJ WPJ CallV MonoJ SpecJ

def fromStep (m : HouseM) (l : List Int) (tub : Int) (n : Int) (a : Nat) : Int := if (m.tickets[a]?.getD (0, 0)).1 = tub then (match clipsT m a with
  | _ :: y :: _ => max n (trueM l y)
  | _ => n) else n
def fromR (m : HouseM) (l : List Int) (tub : Int) (k : Nat) : Int := (List.range k).foldl (fromStep m l tub) 0
theorem fromR_step (m : HouseM) (l : List Int) (tub : Int) (k : Nat) : fromR m l tub (k + 1) = fromStep m l tub (fromR m l tub k) k := by
  unfold fromR
  rw [List.range_succ, List.foldl_append]
  rfl
theorem true_bd {m : HouseM} {l : List Int} (hG : Good m) (hE : isE m l = true) {c : ClipM} (hc : c ∈ m.clips) : -30 ≤ trueM l c ∧ trueM l c ≤ 1469 := by
  obtain ⟨i, hi, rfl⟩ := List.getElem_of_mem hc
  obtain ⟨x, h2, h3, h4, _⟩ := true_at hG hE (List.getElem?_eq_getElem hi)
  have h5 := hG.clip _ hc
  have h6 := (isE_bd hG hE).1 _ hc
  have h7 : m.clips[i].clock.toNat < m.clocks.length := by have := hE; simp only [isE, Bool.and_eq_true, decide_eq_true_eq] at this; omega
  have h8 : (m.clocks[m.clips[i].clock.toNat], x) ∈ m.clocks.zip l := List.mem_of_getElem? (i := m.clips[i].clock.toNat) (by simp [List.getElem?_zip_eq_some, h3, h7])
  have h9 := hE
  simp only [isE, Bool.and_eq_true, List.all_eq_true] at h9
  have h10 := h9.2 _ h8
  have h11 := hG.clock _ (List.getElem_mem h7)
  simp only [inR, Bool.and_eq_true, decide_eq_true_eq] at h10
  rw [h4]
  omega
theorem fromR_bd {m : HouseM} {l : List Int} (hG : Good m) (hE : isE m l = true) (tub : Int) : ∀ k, 0 ≤ fromR m l tub k ∧ fromR m l tub k ≤ 1469
  | 0 => by simp [fromR]
  | k + 1 => by
    have ih := fromR_bd hG hE tub k
    rw [fromR_step]
    unfold fromStep
    split
    · rcases of_cases hG (k : Int) with ⟨_, e⟩ | ⟨_, a, _, e, _⟩ | ⟨_, _, a, b, _, e, _, hb⟩
      · rw [e]; exact ih
      · rw [e]; exact ih
      · have := true_bd hG hE (List.mem_of_getElem? hb)
        rw [e]
        show 0 ≤ max _ _ ∧ max _ _ ≤ 1469
        omega
    · exact ih
theorem from_pad {m : HouseM} {l : List Int} (hG : Good m) (h : isE m l = true) (tub : Int) : ∀ k, k ≤ m.tickets.length → freeS m.tickets (staysS (padL m l) m.clips) tub k = fromR m l tub k
  | 0, _ => by simp [freeS, fromR]
  | k + 1, hk => by
    have ih := from_pad hG h tub k (by omega)
    have hn2 := hG.n2
    have hkl : k < m.tickets.length := by omega
    have hks : k < (staysS (padL m l) m.clips).length := by rw [staysS_len]; omega
    have hse := stay_eq hG (padL m l) hkl
    rw [List.getElem?_eq_getElem hks, Option.getD_some] at hse
    rw [freeS_step (List.getElem?_eq_getElem hkl) (List.getElem?_eq_getElem hks), fromR_step, ih, hse]
    unfold fromStep
    rw [List.getElem?_eq_getElem hkl, Option.getD_some]
    rcases of_cases hG (k : Int) with ⟨_, e⟩ | ⟨_, a, _, e, _⟩ | ⟨_, _, a, b, _, e, _, hb⟩
    · rw [e]; simp [stay0]
    · rw [e]; simp [stay1, stay0]
    · rw [e]
      simp [stay1, stay0, true_pad hG h (List.mem_of_getElem? hb)]
theorem inUse_step (m : HouseM) (tub : Int) (j : Nat) : isInUseS m tub (j + 1) = (isInUseS m tub j || (decide ((m.tickets.getD j (0, 0)).1 = tub) && decide (clipsOfS m j m.clips.length = 1))) := by
  unfold isInUseS
  rw [List.range_succ, List.any_append]
  simp
theorem inUse_true {m : HouseM} {tub : Int} {j : Nat} (hj : j < m.tickets.length) (h : (decide ((m.tickets.getD j (0, 0)).1 = tub) && decide (clipsOfS m j m.clips.length = 1)) = true) : isInUseS m tub m.tickets.length = true :=
  List.any_eq_true.2 ⟨j, List.mem_range.2 hj, h⟩
section
variable {γ : Type} (E : Env γ) (g : γ) (H : AHeap)
theorem IsOpen_spec (m : HouseM) (s1 s2 s3 : Value) (tub : Int) (hm : HouseIs H m s1 s2 s3) (hG : Good m) : CallJ Try.prog E 48 [hv m s1 s2 s3, .int .i64 tub] (fun v H' g' => v = .bool (isInUseS m tub m.tickets.length) ∧ H' = H ∧ g' = g) H g := by
  have hok := hm.cells
  have hst := hm.tickets
  have hn2 := hG.n2
  refine CallJ.tidy ?_
  unfold hv
  refine CallJ.enter Try.func48 rfl (by simp only [Try.ntmps48, List.length_cons, List.length_nil, Nat.zero_add, Nat.reduceAdd, Nat.reduceSub, List.replicate_succ, List.replicate_zero, List.cons_append, List.nil_append]; rfl) ?_
  repeat' (first
    | (refine is_ucall ?_; first
      | refine st_callP (h := Of0 _ _ _ m s1 s2 s3 _ ea (hm.ext extA)) (k := ?_)
      | refine st_callL (h := Of1 _ _ _ m s1 s2 s3 _ _ ea (hm.ext extA)) (k := ?_)
      | refine st_callL (h := Of2 _ _ _ m s1 s2 s3 _ _ _ ea (hm.ext extA)) (k := ?_)
      | fail)
    | (refine is_umcall ?_; first
      | refine mj_callL (h := Of1 _ _ _ m s1 s2 s3 _ _ ea (hm.ext extA)) (k := ?_)
      | refine mj_callL (h := Of2 _ _ _ m s1 s2 s3 _ _ _ ea (hm.ext extA)) (k := ?_)
      | refine mj_callP (h := Of0 _ _ _ m s1 s2 s3 _ ea (hm.ext extA)) (k := ?_)
      | fail)
    | refine W1 ?_ | refine Wc ?_ | refine W2c ?_ ?_ | refine Wg ?_ | refine W2 ?_ ?_ | exact Wdead | refine Wlive (fun hb => ?_) | intro _ _ _ _ _ _ _ _ | refine We ?_ | refine Wx ?_ | refine Wt ?_ | refine Wm ?_ | refine W2m ?_ ?_ | refine Wl ?_
    | fail)
  refine WPJ.loopT m.tickets.length [6, 7, 8, 9, 10, 11, 12, 13, 14, 15, 16, 17, 18, 19, 20, 21, 22, 23, 24, 25, 26, 27] (fun j (_ : Unit) => [(5, .int .i64 j)])
    (fun j _ H1 g1 => g1 = g ∧ Ext H H1 ∧ H1[H.length]? = some (.row [.int .i64 m.hour, .int .i64 m.grace, s1, s2, s3] 1 true) ∧ isInUseS m tub j = false) 0 () (Nat.zero_le _) (by intro p hp; simp at hp; rcases hp with rfl; rfl) ⟨rfl, extA, getA, rfl⟩ ?_
  rintro j _ H1 g1 hj ⟨rfl, he, hb0, hx⟩ hl0
  simp only [updT, maskT, List.set_cons_zero, List.set_cons_succ]
  rcases Nat.lt_or_ge j m.tickets.length with hlt | hge
  · have hel : (m.tickets.map encR)[(j : Int).toNat]? = some (encR m.tickets[j]) := by simp [hlt]
    have hstep := inUse_step m tub j
    have htrue := inUse_true (tub := tub) hlt
    have hte : m.tickets.getD j (0, 0) = m.tickets[j] := by simp [List.getD, hlt]
    have hcnt := ofS_count m (j : Int)
    rw [hte] at hstep htrue
    rw [← hcnt] at hstep htrue
    generalize m.tickets[j] = r at *
    by_cases hrt : r.1 = tub
    · rw [decide_eq_true hrt, Bool.true_and] at hstep htrue
      rcases of_cases hG (j : Int) with ⟨ea, _⟩ | ⟨_, _, ea, _⟩ | ⟨_, _, _, _, ea, _⟩
      all_goals rw [ea] at hstep htrue
      · skip
        repeat' (first
          | (refine is_ucall ?_; first
            | refine st_callP (h := Of0 _ _ _ m s1 s2 s3 _ ea (hm.ext extA)) (k := ?_)
            | refine st_callL (h := Of1 _ _ _ m s1 s2 s3 _ _ ea (hm.ext extA)) (k := ?_)
            | refine st_callL (h := Of2 _ _ _ m s1 s2 s3 _ _ _ ea (hm.ext extA)) (k := ?_)
            | fail)
          | (refine is_umcall ?_; first
            | refine mj_callL (h := Of1 _ _ _ m s1 s2 s3 _ _ ea (hm.ext extA)) (k := ?_)
            | refine mj_callL (h := Of2 _ _ _ m s1 s2 s3 _ _ _ ea (hm.ext extA)) (k := ?_)
            | refine mj_callP (h := Of0 _ _ _ m s1 s2 s3 _ ea (hm.ext extA)) (k := ?_)
            | fail)
          | refine W1 ?_ | refine Wc ?_ | refine W2c ?_ ?_ | refine Wg ?_ | refine W2 ?_ ?_ | exact Wdead | refine Wlive (fun hb => ?_) | intro _ _ _ _ _ _ _ _ | refine We ?_ | refine Wx ?_ | refine Wt ?_ | refine Wm ?_ | refine W2m ?_ ?_ | refine Wl ?_
          | fail)
        exact ⟨(), hlt, (by repeat' (first | exact Weak.nil | refine Weak.wild ?_ | refine Weak.same ?_ | refine Weak.intEq (by first | omega | (simp; done) | (push_cast; omega)) ?_)), rfl, extA, getA, by rw [hstep, hx]; rfl⟩
      · skip
        repeat' (first
          | (refine is_ucall ?_; first
            | refine st_callP (h := Of0 _ _ _ m s1 s2 s3 _ ea (hm.ext extA)) (k := ?_)
            | refine st_callL (h := Of1 _ _ _ m s1 s2 s3 _ _ ea (hm.ext extA)) (k := ?_)
            | refine st_callL (h := Of2 _ _ _ m s1 s2 s3 _ _ _ ea (hm.ext extA)) (k := ?_)
            | fail)
          | (refine is_umcall ?_; first
            | refine mj_callL (h := Of1 _ _ _ m s1 s2 s3 _ _ ea (hm.ext extA)) (k := ?_)
            | refine mj_callL (h := Of2 _ _ _ m s1 s2 s3 _ _ _ ea (hm.ext extA)) (k := ?_)
            | refine mj_callP (h := Of0 _ _ _ m s1 s2 s3 _ ea (hm.ext extA)) (k := ?_)
            | fail)
          | refine W1 ?_ | refine Wc ?_ | refine W2c ?_ ?_ | refine Wg ?_ | refine W2 ?_ ?_ | exact Wdead | refine Wlive (fun hb => ?_) | intro _ _ _ _ _ _ _ _ | refine We ?_ | refine Wx ?_ | refine Wt ?_ | refine Wm ?_ | refine W2m ?_ ?_ | refine Wl ?_
          | fail)
        rw [htrue rfl]
        exact ⟨rfl, rfl, rfl⟩
      · skip
        repeat' (first
          | (refine is_ucall ?_; first
            | refine st_callP (h := Of0 _ _ _ m s1 s2 s3 _ ea (hm.ext extA)) (k := ?_)
            | refine st_callL (h := Of1 _ _ _ m s1 s2 s3 _ _ ea (hm.ext extA)) (k := ?_)
            | refine st_callL (h := Of2 _ _ _ m s1 s2 s3 _ _ _ ea (hm.ext extA)) (k := ?_)
            | fail)
          | (refine is_umcall ?_; first
            | refine mj_callL (h := Of1 _ _ _ m s1 s2 s3 _ _ ea (hm.ext extA)) (k := ?_)
            | refine mj_callL (h := Of2 _ _ _ m s1 s2 s3 _ _ _ ea (hm.ext extA)) (k := ?_)
            | refine mj_callP (h := Of0 _ _ _ m s1 s2 s3 _ ea (hm.ext extA)) (k := ?_)
            | fail)
          | refine W1 ?_ | refine Wc ?_ | refine W2c ?_ ?_ | refine Wg ?_ | refine W2 ?_ ?_ | exact Wdead | refine Wlive (fun hb => ?_) | intro _ _ _ _ _ _ _ _ | refine We ?_ | refine Wx ?_ | refine Wt ?_ | refine Wm ?_ | refine W2m ?_ ?_ | refine Wl ?_
          | fail)
        exact ⟨(), hlt, (by repeat' (first | exact Weak.nil | refine Weak.wild ?_ | refine Weak.same ?_ | refine Weak.intEq (by first | omega | (simp; done) | (push_cast; omega)) ?_)), rfl, extA, getA, by rw [hstep, hx]; rfl⟩
    · rw [decide_eq_false hrt] at hstep
      repeat' (first
        | (refine is_ucall ?_; first
          | refine st_callP (h := Of0 _ _ _ m s1 s2 s3 _ ea (hm.ext extA)) (k := ?_)
          | refine st_callL (h := Of1 _ _ _ m s1 s2 s3 _ _ ea (hm.ext extA)) (k := ?_)
          | refine st_callL (h := Of2 _ _ _ m s1 s2 s3 _ _ _ ea (hm.ext extA)) (k := ?_)
          | fail)
        | (refine is_umcall ?_; first
          | refine mj_callL (h := Of1 _ _ _ m s1 s2 s3 _ _ ea (hm.ext extA)) (k := ?_)
          | refine mj_callL (h := Of2 _ _ _ m s1 s2 s3 _ _ _ ea (hm.ext extA)) (k := ?_)
          | refine mj_callP (h := Of0 _ _ _ m s1 s2 s3 _ ea (hm.ext extA)) (k := ?_)
          | fail)
        | refine W1 ?_ | refine Wc ?_ | refine W2c ?_ ?_ | refine Wg ?_ | refine W2 ?_ ?_ | exact Wdead | refine Wlive (fun hb => ?_) | intro _ _ _ _ _ _ _ _ | refine We ?_ | refine Wx ?_ | refine Wt ?_ | refine Wm ?_ | refine W2m ?_ ?_ | refine Wl ?_
        | fail)
      exact ⟨(), hlt, (by repeat' (first | exact Weak.nil | refine Weak.wild ?_ | refine Weak.same ?_ | refine Weak.intEq (by first | omega | (simp; done) | (push_cast; omega)) ?_)), rfl, extA, getA, by rw [hstep, hx]; rfl⟩
  · obtain rfl : j = m.tickets.length := by omega
    repeat' (first
      | (refine is_ucall ?_; first
        | refine st_callP (h := Of0 _ _ _ m s1 s2 s3 _ ea (hm.ext extA)) (k := ?_)
        | refine st_callL (h := Of1 _ _ _ m s1 s2 s3 _ _ ea (hm.ext extA)) (k := ?_)
        | refine st_callL (h := Of2 _ _ _ m s1 s2 s3 _ _ _ ea (hm.ext extA)) (k := ?_)
        | fail)
      | (refine is_umcall ?_; first
        | refine mj_callL (h := Of1 _ _ _ m s1 s2 s3 _ _ ea (hm.ext extA)) (k := ?_)
        | refine mj_callL (h := Of2 _ _ _ m s1 s2 s3 _ _ _ ea (hm.ext extA)) (k := ?_)
        | refine mj_callP (h := Of0 _ _ _ m s1 s2 s3 _ ea (hm.ext extA)) (k := ?_)
        | fail)
      | refine W1 ?_ | refine Wc ?_ | refine W2c ?_ ?_ | refine Wg ?_ | refine W2 ?_ ?_ | exact Wdead | refine Wlive (fun hb => ?_) | intro _ _ _ _ _ _ _ _ | refine We ?_ | refine Wx ?_ | refine Wt ?_ | refine Wm ?_ | refine W2m ?_ ?_ | refine Wl ?_
      | fail)
    rw [hx]
    exact ⟨rfl, rfl, rfl⟩
theorem FromR_spec (m : HouseM) (s1 s2 s3 lv : Value) (l : List Int) (tub : Int) (hm : HouseIs H m s1 s2 s3) (hr : RdS H lv 1 (encI l)) (hG : Good m) (hE : isE m l = true) :
    CallJ Try.prog E 109 [hv m s1 s2 s3, lv, .int .i64 tub] (fun v H' g' => v = .int .i64 (fromR m l tub m.tickets.length) ∧ H' = H ∧ g' = g) H g := by
  have hok := hm.cells
  have hst := hm.tickets
  have hn2 := hG.n2
  refine CallJ.tidy ?_
  unfold hv
  refine CallJ.enter Try.func109 rfl (by simp only [Try.ntmps109, List.length_cons, List.length_nil, Nat.zero_add, Nat.reduceAdd, Nat.reduceSub, List.replicate_succ, List.replicate_zero, List.cons_append, List.nil_append]; rfl) ?_
  repeat' (first
    | (refine is_ucall ?_; first
      | refine st_callP (h := Of0 _ _ _ m s1 s2 s3 _ ea (hm.ext extA)) (k := ?_)
      | refine st_callP (h := True_spec _ _ _ m s1 s2 s3 lv l _ _ _ (hm.ext extA) (hr.ext extA) hck hck0 hckx hckb) (k := ?_)
      | refine st_callL (h := Of1 _ _ _ m s1 s2 s3 _ _ ea (hm.ext extA)) (k := ?_)
      | refine st_callL (h := Of2 _ _ _ m s1 s2 s3 _ _ _ ea (hm.ext extA)) (k := ?_)
      | fail)
    | (refine is_umcall ?_; first
      | refine mj_callL (h := Of1 _ _ _ m s1 s2 s3 _ _ ea (hm.ext extA)) (k := ?_)
      | refine mj_callL (h := Of2 _ _ _ m s1 s2 s3 _ _ _ ea (hm.ext extA)) (k := ?_)
      | refine mj_callP (h := Of0 _ _ _ m s1 s2 s3 _ ea (hm.ext extA)) (k := ?_)
      | refine mj_callP (h := True_spec _ _ _ m s1 s2 s3 lv l _ _ _ (hm.ext extA) (hr.ext extA) hck hck0 hckx hckb) (k := ?_)
      | fail)
    | refine W1 ?_ | refine Wc ?_ | refine W2c ?_ ?_ | refine Wg ?_ | refine W2 ?_ ?_ | exact Wdead | refine Wlive (fun hb => ?_) | intro _ _ _ _ _ _ _ _ | refine We ?_ | refine Wx ?_ | refine Wt ?_ | refine Wm ?_ | refine W2m ?_ ?_ | refine Wl ?_
    | fail)
  refine WPJ.loopT m.tickets.length [9, 10, 11, 12, 13, 14, 15, 16, 17, 18, 19, 20, 21, 22, 23, 24, 25, 26, 27, 28, 29, 30, 31, 32, 33, 34, 35, 36, 37, 38, 39, 40] (fun j (x : Int) => [(8, .int .i64 j), (7, .int .i64 x)])
    (fun j x H1 g1 => g1 = g ∧ Ext H H1 ∧ H1[H.length]? = some (.row [.int .i64 m.hour, .int .i64 m.grace, s1, s2, s3] 1 true) ∧ x = fromR m l tub j) 0 0 (Nat.zero_le _) (by intro p hp; simp at hp; rcases hp with rfl | rfl <;> rfl) ⟨rfl, extA, getA, rfl⟩ ?_
  rintro j x H1 g1 hj ⟨rfl, he, hb0, hx⟩ hl0
  simp only [updT, maskT, List.set_cons_zero, List.set_cons_succ]
  rcases Nat.lt_or_ge j m.tickets.length with hlt | hge
  · have hel : (m.tickets.map encR)[(j : Int).toNat]? = some (encR m.tickets[j]) := by simp [hlt]
    have hstep := fromR_step m l tub j
    have hte : m.tickets[j]?.getD (0, 0) = m.tickets[j] := by simp [hlt]
    rw [← hx] at hstep
    unfold fromStep at hstep
    rw [hte] at hstep
    generalize m.tickets[j] = r at *
    rcases of_true hG hE (j : Int) with ⟨ea, e2⟩ | ⟨_, _, _, ea, e2, _⟩ | ⟨_, kb, _, yb, _, y0, ea, e2, _, hck, hck0, hckx, hckt, hckb⟩
    all_goals rw [e2] at hstep
    · skip
      repeat' (first
        | (refine is_ucall ?_; first
          | refine st_callP (h := Of0 _ _ _ m s1 s2 s3 _ ea (hm.ext extA)) (k := ?_)
          | refine st_callP (h := True_spec _ _ _ m s1 s2 s3 lv l _ _ _ (hm.ext extA) (hr.ext extA) hck hck0 hckx hckb) (k := ?_)
          | refine st_callL (h := Of1 _ _ _ m s1 s2 s3 _ _ ea (hm.ext extA)) (k := ?_)
          | refine st_callL (h := Of2 _ _ _ m s1 s2 s3 _ _ _ ea (hm.ext extA)) (k := ?_)
          | fail)
        | (refine is_umcall ?_; first
          | refine mj_callL (h := Of1 _ _ _ m s1 s2 s3 _ _ ea (hm.ext extA)) (k := ?_)
          | refine mj_callL (h := Of2 _ _ _ m s1 s2 s3 _ _ _ ea (hm.ext extA)) (k := ?_)
          | refine mj_callP (h := Of0 _ _ _ m s1 s2 s3 _ ea (hm.ext extA)) (k := ?_)
          | refine mj_callP (h := True_spec _ _ _ m s1 s2 s3 lv l _ _ _ (hm.ext extA) (hr.ext extA) hck hck0 hckx hckb) (k := ?_)
          | fail)
        | refine W1 ?_ | refine Wc ?_ | refine W2c ?_ ?_ | refine Wg ?_ | refine W2 ?_ ?_ | exact Wdead | refine Wlive (fun hb => ?_) | intro _ _ _ _ _ _ _ _ | refine We ?_ | refine Wx ?_ | refine Wt ?_ | refine Wm ?_ | refine W2m ?_ ?_ | refine Wl ?_
        | fail)
      all_goals exact ⟨_, hlt, (by repeat' (first | exact Weak.nil | refine Weak.wild ?_ | refine Weak.same ?_ | refine Weak.intEq (by first | omega | (simp; done) | (push_cast; omega)) ?_)), rfl, extA, getA, by rw [hstep]; split <;> rfl⟩
    · skip
      repeat' (first
        | (refine is_ucall ?_; first
          | refine st_callP (h := Of0 _ _ _ m s1 s2 s3 _ ea (hm.ext extA)) (k := ?_)
          | refine st_callP (h := True_spec _ _ _ m s1 s2 s3 lv l _ _ _ (hm.ext extA) (hr.ext extA) hck hck0 hckx hckb) (k := ?_)
          | refine st_callL (h := Of1 _ _ _ m s1 s2 s3 _ _ ea (hm.ext extA)) (k := ?_)
          | refine st_callL (h := Of2 _ _ _ m s1 s2 s3 _ _ _ ea (hm.ext extA)) (k := ?_)
          | fail)
        | (refine is_umcall ?_; first
          | refine mj_callL (h := Of1 _ _ _ m s1 s2 s3 _ _ ea (hm.ext extA)) (k := ?_)
          | refine mj_callL (h := Of2 _ _ _ m s1 s2 s3 _ _ _ ea (hm.ext extA)) (k := ?_)
          | refine mj_callP (h := Of0 _ _ _ m s1 s2 s3 _ ea (hm.ext extA)) (k := ?_)
          | refine mj_callP (h := True_spec _ _ _ m s1 s2 s3 lv l _ _ _ (hm.ext extA) (hr.ext extA) hck hck0 hckx hckb) (k := ?_)
          | fail)
        | refine W1 ?_ | refine Wc ?_ | refine W2c ?_ ?_ | refine Wg ?_ | refine W2 ?_ ?_ | exact Wdead | refine Wlive (fun hb => ?_) | intro _ _ _ _ _ _ _ _ | refine We ?_ | refine Wx ?_ | refine Wt ?_ | refine Wm ?_ | refine W2m ?_ ?_ | refine Wl ?_
        | fail)
      all_goals exact ⟨_, hlt, (by repeat' (first | exact Weak.nil | refine Weak.wild ?_ | refine Weak.same ?_ | refine Weak.intEq (by first | omega | (simp; done) | (push_cast; omega)) ?_)), rfl, extA, getA, by rw [hstep]; split <;> rfl⟩
    · have hstep2 : fromR m l tub (j + 1) = if r.1 = tub then max x (yb.minute - y0) else x := by rw [hstep, ← hckt]
      by_cases hrt : r.1 = tub
      · rw [if_pos hrt] at hstep2
        repeat' (first
          | (refine is_ucall ?_; first
            | refine st_callP (h := Of0 _ _ _ m s1 s2 s3 _ ea (hm.ext extA)) (k := ?_)
            | refine st_callP (h := True_spec _ _ _ m s1 s2 s3 lv l _ _ _ (hm.ext extA) (hr.ext extA) hck hck0 hckx hckb) (k := ?_)
            | refine st_callL (h := Of1 _ _ _ m s1 s2 s3 _ _ ea (hm.ext extA)) (k := ?_)
            | refine st_callL (h := Of2 _ _ _ m s1 s2 s3 _ _ _ ea (hm.ext extA)) (k := ?_)
            | fail)
          | (refine is_umcall ?_; first
            | refine mj_callL (h := Of1 _ _ _ m s1 s2 s3 _ _ ea (hm.ext extA)) (k := ?_)
            | refine mj_callL (h := Of2 _ _ _ m s1 s2 s3 _ _ _ ea (hm.ext extA)) (k := ?_)
            | refine mj_callP (h := Of0 _ _ _ m s1 s2 s3 _ ea (hm.ext extA)) (k := ?_)
            | refine mj_callP (h := True_spec _ _ _ m s1 s2 s3 lv l _ _ _ (hm.ext extA) (hr.ext extA) hck hck0 hckx hckb) (k := ?_)
            | fail)
          | refine W1 ?_ | refine Wc ?_ | refine W2c ?_ ?_ | refine Wg ?_ | refine W2 ?_ ?_ | exact Wdead | refine Wlive (fun hb => ?_) | intro _ _ _ _ _ _ _ _ | refine We ?_ | refine Wx ?_ | refine Wt ?_ | refine Wm ?_ | refine W2m ?_ ?_ | refine Wl ?_
          | fail)
        refine WPJ.draw 9 mixed (by kernel_rfl) (by kernel_rfl) (by kernel_rfl) (by decide) ?_
        refine MonoJ.normA ?_
        repeat' (first
          | (refine is_ucall ?_; first
            | refine st_callP (h := Of0 _ _ _ m s1 s2 s3 _ ea (hm.ext extA)) (k := ?_)
            | refine st_callP (h := True_spec _ _ _ m s1 s2 s3 lv l _ _ _ (hm.ext extA) (hr.ext extA) hck hck0 hckx hckb) (k := ?_)
            | refine st_callL (h := Of1 _ _ _ m s1 s2 s3 _ _ ea (hm.ext extA)) (k := ?_)
            | refine st_callL (h := Of2 _ _ _ m s1 s2 s3 _ _ _ ea (hm.ext extA)) (k := ?_)
            | fail)
          | (refine is_umcall ?_; first
            | refine mj_callL (h := Of1 _ _ _ m s1 s2 s3 _ _ ea (hm.ext extA)) (k := ?_)
            | refine mj_callL (h := Of2 _ _ _ m s1 s2 s3 _ _ _ ea (hm.ext extA)) (k := ?_)
            | refine mj_callP (h := Of0 _ _ _ m s1 s2 s3 _ ea (hm.ext extA)) (k := ?_)
            | refine mj_callP (h := True_spec _ _ _ m s1 s2 s3 lv l _ _ _ (hm.ext extA) (hr.ext extA) hck hck0 hckx hckb) (k := ?_)
            | fail)
          | refine W1 ?_ | refine Wc ?_ | refine W2c ?_ ?_ | refine Wg ?_ | refine W2 ?_ ?_ | exact Wdead | refine Wlive (fun hb => ?_) | intro _ _ _ _ _ _ _ _ | refine We ?_ | refine Wx ?_ | refine Wt ?_ | refine Wm ?_ | refine W2m ?_ ?_ | refine Wl ?_
          | fail)
        all_goals exact ⟨_, hlt, (by repeat' (first | exact Weak.nil | refine Weak.wild ?_ | refine Weak.same ?_ | refine Weak.intEq (by first | omega | (simp; done) | (push_cast; omega)) ?_)), rfl, extA, getA, by rw [hstep2]; omega⟩
      · rw [if_neg hrt] at hstep2
        repeat' (first
          | (refine is_ucall ?_; first
            | refine st_callP (h := Of0 _ _ _ m s1 s2 s3 _ ea (hm.ext extA)) (k := ?_)
            | refine st_callP (h := True_spec _ _ _ m s1 s2 s3 lv l _ _ _ (hm.ext extA) (hr.ext extA) hck hck0 hckx hckb) (k := ?_)
            | refine st_callL (h := Of1 _ _ _ m s1 s2 s3 _ _ ea (hm.ext extA)) (k := ?_)
            | refine st_callL (h := Of2 _ _ _ m s1 s2 s3 _ _ _ ea (hm.ext extA)) (k := ?_)
            | fail)
          | (refine is_umcall ?_; first
            | refine mj_callL (h := Of1 _ _ _ m s1 s2 s3 _ _ ea (hm.ext extA)) (k := ?_)
            | refine mj_callL (h := Of2 _ _ _ m s1 s2 s3 _ _ _ ea (hm.ext extA)) (k := ?_)
            | refine mj_callP (h := Of0 _ _ _ m s1 s2 s3 _ ea (hm.ext extA)) (k := ?_)
            | refine mj_callP (h := True_spec _ _ _ m s1 s2 s3 lv l _ _ _ (hm.ext extA) (hr.ext extA) hck hck0 hckx hckb) (k := ?_)
            | fail)
          | refine W1 ?_ | refine Wc ?_ | refine W2c ?_ ?_ | refine Wg ?_ | refine W2 ?_ ?_ | exact Wdead | refine Wlive (fun hb => ?_) | intro _ _ _ _ _ _ _ _ | refine We ?_ | refine Wx ?_ | refine Wt ?_ | refine Wm ?_ | refine W2m ?_ ?_ | refine Wl ?_
          | fail)
        exact ⟨_, hlt, (by repeat' (first | exact Weak.nil | refine Weak.wild ?_ | refine Weak.same ?_ | refine Weak.intEq (by first | omega | (simp; done) | (push_cast; omega)) ?_)), rfl, extA, getA, hstep2.symm⟩
  · obtain rfl : j = m.tickets.length := by omega
    repeat' (first
      | (refine is_ucall ?_; first
        | refine st_callP (h := Of0 _ _ _ m s1 s2 s3 _ ea (hm.ext extA)) (k := ?_)
        | refine st_callP (h := True_spec _ _ _ m s1 s2 s3 lv l _ _ _ (hm.ext extA) (hr.ext extA) hck hck0 hckx hckb) (k := ?_)
        | refine st_callL (h := Of1 _ _ _ m s1 s2 s3 _ _ ea (hm.ext extA)) (k := ?_)
        | refine st_callL (h := Of2 _ _ _ m s1 s2 s3 _ _ _ ea (hm.ext extA)) (k := ?_)
        | fail)
      | (refine is_umcall ?_; first
        | refine mj_callL (h := Of1 _ _ _ m s1 s2 s3 _ _ ea (hm.ext extA)) (k := ?_)
        | refine mj_callL (h := Of2 _ _ _ m s1 s2 s3 _ _ _ ea (hm.ext extA)) (k := ?_)
        | refine mj_callP (h := Of0 _ _ _ m s1 s2 s3 _ ea (hm.ext extA)) (k := ?_)
        | refine mj_callP (h := True_spec _ _ _ m s1 s2 s3 lv l _ _ _ (hm.ext extA) (hr.ext extA) hck hck0 hckx hckb) (k := ?_)
        | fail)
      | refine W1 ?_ | refine Wc ?_ | refine W2c ?_ ?_ | refine Wg ?_ | refine W2 ?_ ?_ | exact Wdead | refine Wlive (fun hb => ?_) | intro _ _ _ _ _ _ _ _ | refine We ?_ | refine Wx ?_ | refine Wt ?_ | refine Wm ?_ | refine W2m ?_ ?_ | refine Wl ?_
      | fail)
    rw [hx]
    exact ⟨rfl, rfl, rfl⟩
theorem FreeR_spec (m : HouseM) (s1 s2 s3 lv : Value) (ls : List (List Int)) (t : Int) (hm : HouseIs H m s1 s2 s3) (hL : LL H lv ls) (hG : Good m) (hn : ls.length ≤ 1000000) (hE : ∀ l ∈ ls, isE m l = true) : CallJ Try.prog E 49 [hv m s1 s2 s3, lv, .int .i64 t] (fun v H' g' => v = .agg ⟨encR (boundsR (ls.map fun l => fromR m l t m.tickets.length))⟩ ∧ H' = H ∧ g' = g) H g := by
  obtain ⟨vs, hvs, hvl, hin⟩ := hL
  have hok := hm.cells
  refine CallJ.tidy ?_
  unfold hv
  refine CallJ.enter Try.func49 rfl (by simp only [Try.ntmps49, List.length_cons, List.length_nil, Nat.zero_add, Nat.reduceAdd, Nat.reduceSub, List.replicate_succ, List.replicate_zero, List.cons_append, List.nil_append]; rfl) ?_
  repeat' (first
    | (refine is_ucall ?_; first
      | refine st_callP (h := Empty_spec _ _ _) (k := ?_)
      | refine st_callP (h := Wider_spec _ _ _ r _) (k := ?_)
      | refine st_callP (h := FromR_spec _ _ _ m s1 s2 s3 x _ _ (hm.ext extA) (hrx.ext extA) hG hEl) (k := ?_)
      | fail)
    | (refine is_umcall ?_; first
      | refine mj_callP (h := Empty_spec _ _ _) (k := ?_)
      | refine mj_callP (h := Wider_spec _ _ _ r _) (k := ?_)
      | refine mj_callP (h := FromR_spec _ _ _ m s1 s2 s3 x _ _ (hm.ext extA) (hrx.ext extA) hG hEl) (k := ?_)
      | fail)
    | refine W1 ?_ | refine Wc ?_ | refine W2c ?_ ?_ | refine Wg ?_ | refine W2 ?_ ?_ | exact Wdead | refine Wlive (fun hb => ?_) | intro _ _ _ _ _ _ _ _ | refine We ?_ | refine Wx ?_ | refine Wt ?_ | refine Wm ?_ | refine W2m ?_ ?_ | refine Wl ?_
    | fail)
  refine WPJ.loopT ls.length [10, 11, 12, 13, 14, 15, 16, 17, 18, 19, 20, 21, 22, 23, 24] (fun j (_ : Unit) => [(8, .int .i64 j)])
    (fun j _ H1 g1 => g1 = g ∧ Ext H H1 ∧ H1[H.length]? = some (.row [.int .i64 m.hour, .int .i64 m.grace, s1, s2, s3] 1 true) ∧ H1[H.length + 1]? = some (.row [.int .i64 0, .int .i64 0] 1 true) ∧ H1[H.length + 2]? = some (.row (encR (boundsF (ls.map fun l => fromR m l t m.tickets.length) j)) 1 true)) 0 () (Nat.zero_le _)
    (by intro p hp; simp at hp; rcases hp with rfl; rfl) ⟨rfl, extA, getA, getA, getA⟩ ?_
  rintro j _ H1 g1 hj ⟨rfl, he, hbm, hb0, hb1⟩ hl0
  have hvs1 := hvs.ext he
  have hlv : (vs.map fun x => [x]).length = ls.length := by simp [hvl]
  simp only [updT, maskT, List.set_cons_zero, List.set_cons_succ]
  rcases Nat.lt_or_ge j ls.length with hlt | hge
  · obtain ⟨x, hel, hrx⟩ := LL.at_ hvl hin hlt
    have hrx1 := hrx.ext he
    have hEl := hE _ (List.getElem_mem hlt)
    have hstep := boundsF_step (l := ls.map fun l => fromR m l t m.tickets.length) (j := j) (by simpa using hlt)
    have hje : (ls.map fun l => fromR m l t m.tickets.length)[j]'(by simpa using hlt) = fromR m ls[j] t m.tickets.length := by simp
    rw [hje] at hstep
    generalize boundsF (ls.map fun l => fromR m l t m.tickets.length) j = r at *
    repeat' (first
      | (refine is_ucall ?_; first
        | refine st_callP (h := Empty_spec _ _ _) (k := ?_)
        | refine st_callP (h := Wider_spec _ _ _ r _) (k := ?_)
        | refine st_callP (h := FromR_spec _ _ _ m s1 s2 s3 x _ _ (hm.ext extA) (hrx.ext extA) hG hEl) (k := ?_)
        | fail)
      | (refine is_umcall ?_; first
        | refine mj_callP (h := Empty_spec _ _ _) (k := ?_)
        | refine mj_callP (h := Wider_spec _ _ _ r _) (k := ?_)
        | refine mj_callP (h := FromR_spec _ _ _ m s1 s2 s3 x _ _ (hm.ext extA) (hrx.ext extA) hG hEl) (k := ?_)
        | fail)
      | refine W1 ?_ | refine Wc ?_ | refine W2c ?_ ?_ | refine Wg ?_ | refine W2 ?_ ?_ | exact Wdead | refine Wlive (fun hb => ?_) | intro _ _ _ _ _ _ _ _ | refine We ?_ | refine Wx ?_ | refine Wt ?_ | refine Wm ?_ | refine W2m ?_ ?_ | refine Wl ?_
      | fail)
    refine WPJ.draw 9 mixed (by kernel_rfl) (by kernel_rfl) (by kernel_rfl) (by decide) ?_
    refine MonoJ.normA ?_
    repeat' (first
      | (refine is_ucall ?_; first
        | refine st_callP (h := Empty_spec _ _ _) (k := ?_)
        | refine st_callP (h := Wider_spec _ _ _ r _) (k := ?_)
        | refine st_callP (h := FromR_spec _ _ _ m s1 s2 s3 x _ _ (hm.ext extA) (hrx.ext extA) hG hEl) (k := ?_)
        | fail)
      | (refine is_umcall ?_; first
        | refine mj_callP (h := Empty_spec _ _ _) (k := ?_)
        | refine mj_callP (h := Wider_spec _ _ _ r _) (k := ?_)
        | refine mj_callP (h := FromR_spec _ _ _ m s1 s2 s3 x _ _ (hm.ext extA) (hrx.ext extA) hG hEl) (k := ?_)
        | fail)
      | refine W1 ?_ | refine Wc ?_ | refine W2c ?_ ?_ | refine Wg ?_ | refine W2 ?_ ?_ | exact Wdead | refine Wlive (fun hb => ?_) | intro _ _ _ _ _ _ _ _ | refine We ?_ | refine Wx ?_ | refine Wt ?_ | refine Wm ?_ | refine W2m ?_ ?_ | refine Wl ?_
      | fail)
    exact ⟨(), hlt, (by repeat' (first | exact Weak.nil | refine Weak.wild ?_ | refine Weak.same ?_ | refine Weak.intEq (by first | omega | (simp; done) | (push_cast; omega)) ?_)), rfl, extA, getA, getA, by rw [hstep]; exact get_set hb1⟩
  · obtain rfl : j = ls.length := by omega
    have hall := boundsF_all (ls.map fun l => fromR m l t m.tickets.length)
    rw [List.length_map] at hall
    rw [hall] at hb1
    repeat' (first
      | (refine is_ucall ?_; first
        | refine st_callP (h := Empty_spec _ _ _) (k := ?_)
        | refine st_callP (h := Wider_spec _ _ _ r _) (k := ?_)
        | refine st_callP (h := FromR_spec _ _ _ m s1 s2 s3 x _ _ (hm.ext extA) (hrx.ext extA) hG hEl) (k := ?_)
        | fail)
      | (refine is_umcall ?_; first
        | refine mj_callP (h := Empty_spec _ _ _) (k := ?_)
        | refine mj_callP (h := Wider_spec _ _ _ r _) (k := ?_)
        | refine mj_callP (h := FromR_spec _ _ _ m s1 s2 s3 x _ _ (hm.ext extA) (hrx.ext extA) hG hEl) (k := ?_)
        | fail)
      | refine W1 ?_ | refine Wc ?_ | refine W2c ?_ ?_ | refine Wg ?_ | refine W2 ?_ ?_ | exact Wdead | refine Wlive (fun hb => ?_) | intro _ _ _ _ _ _ _ _ | refine We ?_ | refine Wx ?_ | refine Wt ?_ | refine Wm ?_ | refine W2m ?_ ?_ | refine Wl ?_
      | fail)
    exact ⟨rfl, rfl, rfl⟩
end
theorem free_eq {m : HouseM} (hT : checkT m = 0) (t : Int) : (loS (truthsL m) (freeQ m t), hiS (truthsL m) (freeQ m t)) = boundsR ((refL m).map fun l => fromR m l t m.tickets.length) := by
  obtain ⟨hS, hT2⟩ := sure_zero hT
  have hG := good_of hS
  exact bounds_eq hG hT2 (fun l hl => from_pad hG (ref_isE hG l hl) t _ (Nat.le_refl _)) (fun l hl => by have := fromR_bd hG (ref_isE hG l hl) t m.tickets.length; omega)
end Go.Proofs.Ytehobnpoeodhkaa
