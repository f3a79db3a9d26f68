import Derived.Test.YtehobnpoeodhkaaRj
import Derived.Test.YtehobnpoeodhkaaV9
namespace Go.Proofs.Ytehobnpoeodhkaa
open Go Go.Abs Go.Proofs
set_option maxHeartbeats 8000000
set_option maxRecDepth 20000
attribute [local irreducible] CallJ OpsJ WPJ CallV MonoJ SpecJ

section
variable {γ : Type} (E : Env γ) (g : γ) (H : AHeap)
theorem tubs_law (m : HouseM) (s1 s2 s3 : Value) (a b w : Int) (hm : HouseW H m s1 s2 s3) (ha : 0 ≤ a ∧ a ≤ 255) (hb8 : 0 ≤ b ∧ b ≤ 255) (hw : 0 ≤ w ∧ w ≤ 65535) : CallJ Try.prog E 19 [hv m s1 s2 s3, .int .u8 a, .int .u8 b, .int .u16 w] (fun v H' g' => v = .bool true ∧ H' = H ∧ g' = g) H g := by
  have hok : [Value.int .i64 m.hour, Value.int .i64 m.grace, s1, s2, s3].all cellOk = true := by have := hm.ok; simp [cellOk] at this ⊢; exact this
  have hwa : IntKind.i64.wrap a = a := wrap64_eq ⟨by omega, by omega⟩
  have hwb : IntKind.i64.wrap b = b := wrap64_eq ⟨by omega, by omega⟩
  refine CallJ.tidy ?_
  unfold hv
  refine CallJ.enter Try.func19 rfl (by simp only [Try.ntmps19, List.length_cons, List.length_nil, Nat.zero_add, Nat.reduceAdd, Nat.reduceSub, List.replicate_succ, List.replicate_zero, List.cons_append, List.nil_append]; rfl) ?_
  repeat' (first
    | (refine is_ucall ?_; first
      | refine st_callP (h := readyW_spec _ _ _ m s1 s2 s3 (hm.ext extA)) (k := ?_)
      | refine st_callP (h := awake_spec _ _ _) (k := ?_)
      | fail)
    | (refine is_umcall ?_; first
      | refine mj_callP (h := readyW_spec _ _ _ m s1 s2 s3 (hm.ext extA)) (k := ?_)
      | refine mj_callP (h := awake_spec _ _ _) (k := ?_)
      | fail)
    | refine W1 ?_ | refine Wc ?_ | refine W2c ?_ ?_ | refine Wg ?_ | refine W2 ?_ ?_ | exact Wdead | refine Wlive (fun hb => ?_) | intro _ _ _ _ _ _ _ _ | refine We ?_ | refine Wx ?_ | refine Wt ?_ | refine Wm ?_ | refine W2m ?_ ?_ | refine Wl ?_
    | fail)
  · have hr : thinS m = true ∧ checkS m = 0 := by assumption
    have hI := hm.is hr.1
    have hst := hI.tickets
    have hsp3 := hI.clips
    have hG := good_of hr.2
    have hn2 := hG.n2
    have hn3 := hG.n3
    have x0 : Ext H (H ++ [.row [.int .i64 m.hour, .int .i64 m.grace, s1, s2, s3] 1 true]) := extA
    have hb0 : (H ++ [AObj.row [.int .i64 m.hour, .int .i64 m.grace, s1, s2, s3] 1 true])[H.length]? = some (.row [.int .i64 m.hour, .int .i64 m.grace, s1, s2, s3] 1 true) := getA
    repeat' (first
      | (refine is_ucall ?_; first
        | refine st_callP (h := readyW_spec _ _ _ m s1 s2 s3 (hm.ext extA)) (k := ?_)
        | refine st_callP (h := awake_spec _ _ _) (k := ?_)
        | fail)
      | (refine is_umcall ?_; first
        | refine mj_callP (h := readyW_spec _ _ _ m s1 s2 s3 (hm.ext extA)) (k := ?_)
        | refine mj_callP (h := awake_spec _ _ _) (k := ?_)
        | fail)
      | refine W1 ?_ | refine Wc ?_ | refine W2c ?_ ?_ | refine Wg ?_ | refine W2 ?_ ?_ | exact Wdead | refine Wlive (fun hb => ?_) | intro _ _ _ _ _ _ _ _ | refine We ?_ | refine Wx ?_ | refine Wt ?_ | refine Wm ?_ | refine W2m ?_ ?_ | refine Wl ?_
      | fail)
    · exact ⟨rfl, rfl, rfl⟩
    · obtain ⟨k, hk, hkl⟩ : ∃ k : Nat, (IntKind.i64.wrap a).tmod m.tickets.length = k ∧ k < m.tickets.length := by
        have h0 : 0 ≤ a % (m.tickets.length : Int) := Int.emod_nonneg _ (by omega)
        have h1 : a % (m.tickets.length : Int) < m.tickets.length := Int.emod_lt_of_pos _ (by omega)
        exact ⟨(a % (m.tickets.length : Int)).toNat, by rw [hwa, Int.tmod_eq_emod_of_nonneg ha.1]; omega, by omega⟩
      obtain ⟨n, hn, hnl⟩ : ∃ n : Nat, (IntKind.i64.wrap b).tmod m.tickets.length = n ∧ n < m.tickets.length := by
        have h0 : 0 ≤ b % (m.tickets.length : Int) := Int.emod_nonneg _ (by omega)
        have h1 : b % (m.tickets.length : Int) < m.tickets.length := Int.emod_lt_of_pos _ (by omega)
        exact ⟨(b % (m.tickets.length : Int)).toNat, by rw [hwb, Int.tmod_eq_emod_of_nonneg hb8.1]; omega, by omega⟩
      refine WPJ.draw 14 mixed (by kernel_rfl) (by kernel_rfl) (by kernel_rfl) (by decide) ?_
      refine MonoJ.normA ?_
      repeat' (first
        | (refine is_ucall ?_; first
          | refine st_callP (h := readyW_spec _ _ _ m s1 s2 s3 (hm.ext extA)) (k := ?_)
          | refine st_callP (h := awake_spec _ _ _) (k := ?_)
          | fail)
        | (refine is_umcall ?_; first
          | refine mj_callP (h := readyW_spec _ _ _ m s1 s2 s3 (hm.ext extA)) (k := ?_)
          | refine mj_callP (h := awake_spec _ _ _) (k := ?_)
          | fail)
        | refine W1 ?_ | refine Wc ?_ | refine W2c ?_ ?_ | refine Wg ?_ | refine W2 ?_ ?_ | exact Wdead | refine Wlive (fun hb => ?_) | intro _ _ _ _ _ _ _ _ | refine We ?_ | refine Wx ?_ | refine Wt ?_ | refine Wm ?_ | refine W2m ?_ ?_ | refine Wl ?_
        | fail)
      · exact ⟨rfl, rfl, rfl⟩
      · have hkn : k ≠ n := fun e => by subst e; omega
        rw [hk, hn]
        refine OpsJ.normA ?_
        have hcE : ∀ x y : Nat, x < m.tickets.length → y < m.tickets.length → x ≠ y → clashE m x y = if hasS m then 0 else 11 := fun x y hx hy hxy => by
          have h1 : (hasT m x && hasT m y) = true := by simp [hasT, hx, hy]
          unfold clashE
          rw [if_pos hr.2, if_pos h1, if_neg (by omega)]
        have hE1 := hcE k n hkl hnl hkn
        have hE2 := hcE n k hnl hkl (Ne.symm hkn)
        obtain ⟨p, hp⟩ : ∃ p, verdictS (truthsL m) (clashQ m k n) = p := ⟨_, rfl⟩
        have hp2 : verdictS (truthsL m) (clashQ m n k) = p := by rw [clash_sym]; exact hp
        cases hT : hasS m with
        | true =>
          have hT0 : checkT m = 0 := by unfold checkT; rw [if_pos hr.2, if_pos hT]
          rw [hT, if_pos rfl] at hE1 hE2
          repeat' (first
            | refine W1 ?_ | refine Wc ?_ | refine W2c ?_ ?_ | refine Wg ?_ | refine W2 ?_ ?_ | exact Wdead | refine Wlive (fun hb => ?_) | intro _ _ _ _ _ _ _ _ | refine We ?_ | refine Wx ?_ | refine Wt ?_ | refine Wm ?_ | refine W2m ?_ ?_ | refine Wl ?_
            | fail)
          refine st_call rfl (House_w E _ _ m s1 s2 s3 (hI.ext x0) hr.1) ?_
          rintro _ H1 g1 ⟨⟨t1, t2, t3, rfl, hmh, e1⟩, rfl⟩
          have x1 : Ext H H1 := x0.trans e1
          have hb1 := e1.get hb0
          refine OpsJ.normA ?_
          repeat' (first
            | refine W1 ?_ | refine Wc ?_ | refine W2c ?_ ?_ | refine Wg ?_ | refine W2 ?_ ?_ | exact Wdead | refine Wlive (fun hb => ?_) | intro _ _ _ _ _ _ _ _ | refine We ?_ | refine Wx ?_ | refine Wt ?_ | refine Wm ?_ | refine W2m ?_ ?_ | refine Wl ?_
            | fail)
          refine st_callP (h := ClashX E _ _ m t1 t2 t3 k n 0 p hE1 (by rw [if_pos rfl]; exact hp) (hmh.ext extA)) (k := ?_)
          refine OpsJ.normA ?_
          repeat' (first
            | refine W1 ?_ | refine Wc ?_ | refine W2c ?_ ?_ | refine Wg ?_ | refine W2 ?_ ?_ | exact Wdead | refine Wlive (fun hb => ?_) | intro _ _ _ _ _ _ _ _ | refine We ?_ | refine Wx ?_ | refine Wt ?_ | refine Wm ?_ | refine W2m ?_ ?_ | refine Wl ?_
            | fail)
          refine st_call rfl (House_w E _ _ m s1 s2 s3 (hI.ext x1) hr.1) ?_
          rintro _ H2 g2 ⟨⟨t1, t2, t3, rfl, hmh, e2⟩, rfl⟩
          have x2 : Ext H H2 := x1.trans e2
          have hb2 := e2.get hb1
          refine OpsJ.normA ?_
          repeat' (first
            | refine W1 ?_ | refine Wc ?_ | refine W2c ?_ ?_ | refine Wg ?_ | refine W2 ?_ ?_ | exact Wdead | refine Wlive (fun hb => ?_) | intro _ _ _ _ _ _ _ _ | refine We ?_ | refine Wx ?_ | refine Wt ?_ | refine Wm ?_ | refine W2m ?_ ?_ | refine Wl ?_
            | fail)
          refine st_callP (h := ClashX E _ _ m t1 t2 t3 n k 0 p hE2 (by rw [if_pos rfl]; exact hp2) (hmh.ext extA)) (k := ?_)
          refine OpsJ.normA ?_
          repeat' (first
            | refine W1 ?_ | refine Wc ?_ | refine W2c ?_ ?_ | refine Wg ?_ | refine W2 ?_ ?_ | exact Wdead | refine Wlive (fun hb => ?_) | intro _ _ _ _ _ _ _ _ | refine We ?_ | refine Wx ?_ | refine Wt ?_ | refine Wm ?_ | refine W2m ?_ ?_ | refine Wl ?_
            | fail)
          refine st_call rfl (pickT E _ _ m s1 s2 s3 w hw hr.2 hT (hI.ext x2)) ?_
          rintro _ H3 g3 ⟨⟨tv, l, rfl, hl, hr1, e3⟩, rfl⟩
          have x3 : Ext H H3 := x2.trans e3
          have hb3 := e3.get hb2
          have hE := ref_isE hG l hl
          have hR := ((mem_ref hG l).1 hl).2
          have hln : l.length = m.clocks.length := by have := hE; simp only [isE, Bool.and_eq_true, decide_eq_true_eq] at this; omega
          have hel : (m.tickets.map encR)[(k : Int).toNat]? = some (encR m.tickets[k]) := by simp [hkl]
          have hen : (m.tickets.map encR)[(n : Int).toNat]? = some (encR m.tickets[n]) := by simp [hnl]
          have htk : m.tickets[k]?.getD (0, 0) = m.tickets[k] := by simp [hkl]
          have htn : m.tickets[n]?.getD (0, 0) = m.tickets[n] := by simp [hnl]
          have htub := hG.ticket _ (List.getElem_mem hkl)
          have hne : truthsL m ≠ [] := by intro e; unfold hasS at hT; rw [e] at hT; cases hT
          have hdif : m.tickets[n].1 = m.tickets[k].1 ∨ p = 2 := by
            by_cases h : m.tickets[n].1 = m.tickets[k].1
            · exact .inl h
            · exact .inr (by rw [← hp]; exact clash_two hne (by rw [htk, htn]; exact Ne.symm h))
          have hsp := verdict_at hl ((clash_eq hT0 hkl hnl).symm.trans hp)
          generalize hgk : m.tickets[k] = rk at *
          generalize hgn : m.tickets[n] = rn at *
          obtain ⟨bo, hbo⟩ : ∃ b, isInUseS m rk.1 m.tickets.length = b := ⟨_, rfl⟩
          have hz : freeE m rk.1 = if bo = true then 8 else 0 := by unfold freeE; rw [if_pos hr.2, hbo, if_pos (by simp; omega), hT]; rfl
          refine OpsJ.normA ?_
          repeat' (first
            | refine W1 ?_ | refine Wc ?_ | refine W2c ?_ ?_ | refine Wg ?_ | refine W2 ?_ ?_ | exact Wdead | refine Wlive (fun hb => ?_) | intro _ _ _ _ _ _ _ _ | refine We ?_ | refine Wx ?_ | refine Wt ?_ | refine Wm ?_ | refine W2m ?_ ?_ | refine Wl ?_
            | fail)
          refine st_call rfl (House_w E _ _ m s1 s2 s3 (hI.ext x3) hr.1) ?_
          rintro _ H4 g4 ⟨⟨t1, t2, t3, rfl, hmh, e4⟩, rfl⟩
          have x4 : Ext H H4 := x3.trans e4
          have hb4 := e4.get hb3
          replace hr1 := hr1.ext e4
          refine OpsJ.normA ?_
          repeat' (first
            | refine W1 ?_ | refine Wc ?_ | refine W2c ?_ ?_ | refine Wg ?_ | refine W2 ?_ ?_ | exact Wdead | refine Wlive (fun hb => ?_) | intro _ _ _ _ _ _ _ _ | refine We ?_ | refine Wx ?_ | refine Wt ?_ | refine Wm ?_ | refine W2m ?_ ?_ | refine Wl ?_
            | fail)
          obtain ⟨z, hz2⟩ : ∃ z, freeE m rk.1 = z := ⟨_, rfl⟩
          obtain ⟨r, hrr⟩ : ∃ r, (if z = 0 then (loS (truthsL m) (freeQ m rk.1), hiS (truthsL m) (freeQ m rk.1)) else (0, 0)) = r := ⟨_, rfl⟩
          rw [hz2] at hz
          refine st_callP (h := FreeX E _ _ m t1 t2 t3 rk.1 z r hz2 hrr (hmh.ext extA)) (k := ?_)
          refine OpsJ.normA ?_
          repeat' (first
            | refine W1 ?_ | refine Wc ?_ | refine W2c ?_ ?_ | refine Wg ?_ | refine W2 ?_ ?_ | exact Wdead | refine Wlive (fun hb => ?_) | intro _ _ _ _ _ _ _ _ | refine We ?_ | refine Wx ?_ | refine Wt ?_ | refine Wm ?_ | refine W2m ?_ ?_ | refine Wl ?_
            | fail)
          refine st_call rfl (House_w E _ _ m s1 s2 s3 (hI.ext (x4.app _)) hr.1) ?_
          rintro _ H5 g5 ⟨⟨t1, t2, t3, rfl, hmh, e5⟩, rfl⟩
          have x5 : Ext H H5 := (x4.app _).trans e5
          have hb5 := e5.get (get_old hb4)
          have hr5 := e5.get (get_new0 rfl)
          replace hr1 := hr1.ext ((Ext.app (Ext.refl _) _).trans e5)
          refine OpsJ.normA ?_
          repeat' (first
            | refine W1 ?_ | refine Wc ?_ | refine W2c ?_ ?_ | refine Wg ?_ | refine W2 ?_ ?_ | exact Wdead | refine Wlive (fun hb => ?_) | intro _ _ _ _ _ _ _ _ | refine We ?_ | refine Wx ?_ | refine Wt ?_ | refine Wm ?_ | refine W2m ?_ ?_ | refine Wl ?_
            | fail)
          refine st_call rfl (list_wr E _ _ tv l (hr1.ext extA) (by have := hG.n1; omega)) ?_
          rintro tw H6 g6 ⟨⟨htw, e6⟩, rfl⟩
          have x6 : Ext H H6 := x5.trans e6
          have hb6 := e6.get hb5
          have hr6 := e6.get hr5
          replace hr1 := hr1.ext e6
          refine OpsJ.normA ?_
          repeat' (first
            | refine W1 ?_ | refine Wc ?_ | refine W2c ?_ ?_ | refine Wg ?_ | refine W2 ?_ ?_ | exact Wdead | refine Wlive (fun hb => ?_) | intro _ _ _ _ _ _ _ _ | refine We ?_ | refine Wx ?_ | refine Wt ?_ | refine Wm ?_ | refine W2m ?_ ?_ | refine Wl ?_
            | fail)
          refine st_call rfl (PlayR E _ _ m t1 t2 t3 tw l hr.2 hE (hmh.ext extA) (htw.ext extA) (by have := hG.n1; omega)) ?_
          rintro _ H7 g7 ⟨⟨mv, rfl, hmv, e7⟩, rfl⟩
          have x7 : Ext H H7 := x6.trans e7
          have hb7 := e7.get hb6
          have hr7 := e7.get hr6
          replace hr1 := hr1.ext e7
          clear e1 e2 e3 e4 e5 e6 e7 hb1 hb2 hb3 hb4 hb5 hb6 hr5 hr6 x1 x2 x3 x4 x5 x6 hmh htw
          have hml : (m.clips.map (trueM l)).length = m.clips.length := by simp
          refine OpsJ.normA ?_
          cases bo with
          | true =>
            obtain rfl : z = 8 := hz
            rcases hdif with hdif | rfl
            all_goals
              repeat' (first
                | (refine is_ucall ?_; first
                  | refine st_callP (h := awake_spec _ _ _) (k := ?_)
                  | refine st_callP (h := DoClash_spec _ _ _ m s1 s2 s3 tv l _ _ (hI.ext extA) (hr1.ext extA) hG hE hkl hnl) (k := ?_)
                  | refine st_callP (h := steady_true _ _ _ _ _ hsp) (k := ?_)
                  | refine st_callP (h := IsOpenX _ _ _ m s1 s2 s3 _ _ hbo (hI.ext extA) hG) (k := ?_)
                  | refine st_callP (h := in_true _ _ _ _ _ hin) (k := ?_)
                  | fail)
                | (refine is_umcall ?_; first
                  | refine mj_callP (h := awake_spec _ _ _) (k := ?_)
                  | refine mj_callP (h := DoClash_spec _ _ _ m s1 s2 s3 tv l _ _ (hI.ext extA) (hr1.ext extA) hG hE hkl hnl) (k := ?_)
                  | refine mj_callP (h := steady_true _ _ _ _ _ hsp) (k := ?_)
                  | refine mj_callP (h := IsOpenX _ _ _ m s1 s2 s3 _ _ hbo (hI.ext extA) hG) (k := ?_)
                  | refine mj_callP (h := in_true _ _ _ _ _ hin) (k := ?_)
                  | fail)
                | refine W1 ?_ | refine Wc ?_ | refine W2c ?_ ?_ | refine Wg ?_ | refine W2 ?_ ?_ | exact Wdead | refine Wlive (fun hb => ?_) | intro _ _ _ _ _ _ _ _ | refine We ?_ | refine Wx ?_ | refine Wt ?_ | refine Wm ?_ | refine W2m ?_ ?_ | refine Wl ?_
                | fail)
              all_goals try (refine absurd trivial ?_; assumption)
              all_goals exact ⟨rfl, rfl, rfl⟩
          | false =>
            obtain rfl : z = 0 := hz
            rw [if_pos rfl, free_eq hT0] at hrr
            have hin0 := in_bounds (L := (refL m).map fun l => fromR m l rk.1 m.tickets.length) (List.mem_map.2 ⟨l, hl, rfl⟩)
            have htf := tub_from hG hR hbo
            rw [hrr, ← htf] at hin0
            rcases hdif with hdif | rfl
            all_goals
              repeat' (first
                | (refine is_ucall ?_; first
                  | refine st_callP (h := awake_spec _ _ _) (k := ?_)
                  | refine st_callP (h := DoClash_spec _ _ _ m s1 s2 s3 tv l _ _ (hI.ext extA) (hr1.ext extA) hG hE hkl hnl) (k := ?_)
                  | refine st_callP (h := steady_true _ _ _ _ _ hsp) (k := ?_)
                  | refine st_callP (h := IsOpenX _ _ _ m s1 s2 s3 _ _ hbo (hI.ext extA) hG) (k := ?_)
                  | refine st_callP (h := in_true _ _ _ _ _ hin) (k := ?_)
                  | fail)
                | (refine is_umcall ?_; first
                  | refine mj_callP (h := awake_spec _ _ _) (k := ?_)
                  | refine mj_callP (h := DoClash_spec _ _ _ m s1 s2 s3 tv l _ _ (hI.ext extA) (hr1.ext extA) hG hE hkl hnl) (k := ?_)
                  | refine mj_callP (h := steady_true _ _ _ _ _ hsp) (k := ?_)
                  | refine mj_callP (h := IsOpenX _ _ _ m s1 s2 s3 _ _ hbo (hI.ext extA) hG) (k := ?_)
                  | refine mj_callP (h := in_true _ _ _ _ _ hin) (k := ?_)
                  | fail)
                | refine W1 ?_ | refine Wc ?_ | refine W2c ?_ ?_ | refine Wg ?_ | refine W2 ?_ ?_ | exact Wdead | refine Wlive (fun hb => ?_) | intro _ _ _ _ _ _ _ _ | refine We ?_ | refine Wx ?_ | refine Wt ?_ | refine Wm ?_ | refine W2m ?_ ?_ | refine Wl ?_
                | fail)
              all_goals try (refine absurd trivial ?_; assumption)
              all_goals
                refine WPJ.loopT m.clips.length [164, 165, 166, 167, 168, 169, 170, 171, 172, 173, 174, 175, 176, 177, 178, 179, 180, 181, 182, 183, 184, 185, 186, 187, 188] (fun j (x : Int) => [(23, .int .i64 j), (22, .int .i64 x)]) (fun j x Hx gx => gx = g7 ∧ Hx = H7 ∧ x = tubF m l rk.1 j) 0 0 (Nat.zero_le _) (by intro p hp; simp at hp; rcases hp with rfl | rfl <;> rfl) ⟨rfl, rfl, rfl⟩ ?_
                rintro j x Hx gx hj ⟨rfl, rfl, hx⟩ hl0
                simp only [updT, maskT, List.set_cons_zero, List.set_cons_succ]
                rcases Nat.lt_or_ge j m.clips.length with hlt | hge
                · have hec : (m.clips.map encC)[(j : Int).toNat]? = some (encC m.clips[j]) := by simp [hlt]
                  have hem : (encI (m.clips.map (trueM l)))[(j : Int).toNat]? = some [.int .i64 (trueM l m.clips[j])] := by simp [hlt]
                  have hcg := hG.clip _ (List.getElem_mem hlt)
                  have hstep := tubF_step (l := l) (tub := rk.1) hlt
                  rw [← hx] at hstep
                  unfold tubStep at hstep
                  generalize m.clips[j] = c at *
                  have hcn : c.ticket.toNat < m.tickets.length := by omega
                  have hct : (m.tickets.map encR)[c.ticket.toNat]? = some (encR m.tickets[c.ticket.toNat]) := by simp [hcn]
                  have hce : m.tickets[c.ticket.toNat]?.getD (0, 0) = m.tickets[c.ticket.toNat] := by simp [hcn]
                  rw [hce] at hstep
                  generalize m.tickets[c.ticket.toNat] = tc at *
                  by_cases htt : tc.1 = rk.1
                  · rw [if_pos htt] at hstep
                    repeat' (first
                      | (refine is_ucall ?_; first
                        | refine st_callP (h := awake_spec _ _ _) (k := ?_)
                        | refine st_callP (h := in_true _ _ _ _ _ hin) (k := ?_)
                        | fail)
                      | (refine is_umcall ?_; first
                        | refine mj_callP (h := awake_spec _ _ _) (k := ?_)
                        | refine mj_callP (h := in_true _ _ _ _ _ hin) (k := ?_)
                        | fail)
                      | refine W1 ?_ | refine Wc ?_ | refine W2c ?_ ?_ | refine Wg ?_ | refine W2 ?_ ?_ | exact Wdead | refine Wlive (fun hb => ?_) | intro _ _ _ _ _ _ _ _ | refine We ?_ | refine Wx ?_ | refine Wt ?_ | refine Wm ?_ | refine W2m ?_ ?_ | refine Wl ?_
                      | fail)
                    refine WPJ.draw 13 mixed (by kernel_rfl) (by kernel_rfl) (by kernel_rfl) (by decide) ?_
                    refine MonoJ.normA ?_
                    repeat' (first
                      | (refine is_ucall ?_; first
                        | refine st_callP (h := awake_spec _ _ _) (k := ?_)
                        | refine st_callP (h := in_true _ _ _ _ _ hin) (k := ?_)
                        | fail)
                      | (refine is_umcall ?_; first
                        | refine mj_callP (h := awake_spec _ _ _) (k := ?_)
                        | refine mj_callP (h := in_true _ _ _ _ _ hin) (k := ?_)
                        | fail)
                      | refine W1 ?_ | refine Wc ?_ | refine W2c ?_ ?_ | refine Wg ?_ | refine W2 ?_ ?_ | exact Wdead | refine Wlive (fun hb => ?_) | intro _ _ _ _ _ _ _ _ | refine We ?_ | refine Wx ?_ | refine Wt ?_ | refine Wm ?_ | refine W2m ?_ ?_ | refine Wl ?_
                      | fail)
                    all_goals exact ⟨_, hlt, (by repeat' (first | exact Weak.nil | refine Weak.wild ?_ | refine Weak.same ?_ | refine Weak.intEq (by first | omega | (simp; done) | (push_cast; omega)) ?_)), rfl, rfl, by rw [hstep]; first | exact max_if _ _ | omega⟩
                  · rw [if_neg htt] at hstep
                    repeat' (first
                      | (refine is_ucall ?_; first
                        | refine st_callP (h := awake_spec _ _ _) (k := ?_)
                        | refine st_callP (h := in_true _ _ _ _ _ hin) (k := ?_)
                        | fail)
                      | (refine is_umcall ?_; first
                        | refine mj_callP (h := awake_spec _ _ _) (k := ?_)
                        | refine mj_callP (h := in_true _ _ _ _ _ hin) (k := ?_)
                        | fail)
                      | refine W1 ?_ | refine Wc ?_ | refine W2c ?_ ?_ | refine Wg ?_ | refine W2 ?_ ?_ | exact Wdead | refine Wlive (fun hb => ?_) | intro _ _ _ _ _ _ _ _ | refine We ?_ | refine Wx ?_ | refine Wt ?_ | refine Wm ?_ | refine W2m ?_ ?_ | refine Wl ?_
                      | fail)
                    refine WPJ.draw 13 mixed (by kernel_rfl) (by kernel_rfl) (by kernel_rfl) (by decide) ?_
                    refine MonoJ.normA ?_
                    repeat' (first
                      | (refine is_ucall ?_; first
                        | refine st_callP (h := awake_spec _ _ _) (k := ?_)
                        | refine st_callP (h := in_true _ _ _ _ _ hin) (k := ?_)
                        | fail)
                      | (refine is_umcall ?_; first
                        | refine mj_callP (h := awake_spec _ _ _) (k := ?_)
                        | refine mj_callP (h := in_true _ _ _ _ _ hin) (k := ?_)
                        | fail)
                      | refine W1 ?_ | refine Wc ?_ | refine W2c ?_ ?_ | refine Wg ?_ | refine W2 ?_ ?_ | exact Wdead | refine Wlive (fun hb => ?_) | intro _ _ _ _ _ _ _ _ | refine We ?_ | refine Wx ?_ | refine Wt ?_ | refine Wm ?_ | refine W2m ?_ ?_ | refine Wl ?_
                      | fail)
                    all_goals exact ⟨_, hlt, (by repeat' (first | exact Weak.nil | refine Weak.wild ?_ | refine Weak.same ?_ | refine Weak.intEq (by first | omega | (simp; done) | (push_cast; omega)) ?_)), rfl, rfl, hstep.symm⟩
                · obtain rfl : j = m.clips.length := by omega
                  have hin : r.1 ≤ x ∧ x ≤ r.2 := by rw [hx]; exact hin0
                  repeat' (first
                    | (refine is_ucall ?_; first
                      | refine st_callP (h := awake_spec _ _ _) (k := ?_)
                      | refine st_callP (h := in_true _ _ _ _ _ hin) (k := ?_)
                      | fail)
                    | (refine is_umcall ?_; first
                      | refine mj_callP (h := awake_spec _ _ _) (k := ?_)
                      | refine mj_callP (h := in_true _ _ _ _ _ hin) (k := ?_)
                      | fail)
                    | refine W1 ?_ | refine Wc ?_ | refine W2c ?_ ?_ | refine Wg ?_ | refine W2 ?_ ?_ | exact Wdead | refine Wlive (fun hb => ?_) | intro _ _ _ _ _ _ _ _ | refine We ?_ | refine Wx ?_ | refine Wt ?_ | refine Wm ?_ | refine W2m ?_ ?_ | refine Wl ?_
                    | fail)
                  all_goals exact ⟨rfl, rfl, rfl⟩
        | false =>
          rw [hT] at hE1 hE2
          repeat' (first
            | (refine is_ucall ?_; first
              | refine st_callP (h := awake_spec _ _ _) (k := ?_)
              | fail)
            | (refine is_umcall ?_; first
              | refine mj_callP (h := awake_spec _ _ _) (k := ?_)
              | fail)
            | refine W1 ?_ | refine Wc ?_ | refine W2c ?_ ?_ | refine Wg ?_ | refine W2 ?_ ?_ | exact Wdead | refine Wlive (fun hb => ?_) | intro _ _ _ _ _ _ _ _ | refine We ?_ | refine Wx ?_ | refine Wt ?_ | refine Wm ?_ | refine W2m ?_ ?_ | refine Wl ?_
            | fail)
          refine st_call rfl (House_w E _ _ m s1 s2 s3 (hI.ext x0) hr.1) ?_
          rintro _ H1 g1 ⟨⟨t1, t2, t3, rfl, hmh, e1⟩, rfl⟩
          have x1 : Ext H H1 := x0.trans e1
          have hb1 := e1.get hb0
          refine OpsJ.normA ?_
          repeat' (first
            | (refine is_ucall ?_; first
              | refine st_callP (h := awake_spec _ _ _) (k := ?_)
              | fail)
            | (refine is_umcall ?_; first
              | refine mj_callP (h := awake_spec _ _ _) (k := ?_)
              | fail)
            | refine W1 ?_ | refine Wc ?_ | refine W2c ?_ ?_ | refine Wg ?_ | refine W2 ?_ ?_ | exact Wdead | refine Wlive (fun hb => ?_) | intro _ _ _ _ _ _ _ _ | refine We ?_ | refine Wx ?_ | refine Wt ?_ | refine Wm ?_ | refine W2m ?_ ?_ | refine Wl ?_
            | fail)
          refine st_callP (h := ClashX E _ _ m t1 t2 t3 k n 11 0 hE1 rfl (hmh.ext extA)) (k := ?_)
          refine OpsJ.normA ?_
          repeat' (first
            | (refine is_ucall ?_; first
              | refine st_callP (h := awake_spec _ _ _) (k := ?_)
              | fail)
            | (refine is_umcall ?_; first
              | refine mj_callP (h := awake_spec _ _ _) (k := ?_)
              | fail)
            | refine W1 ?_ | refine Wc ?_ | refine W2c ?_ ?_ | refine Wg ?_ | refine W2 ?_ ?_ | exact Wdead | refine Wlive (fun hb => ?_) | intro _ _ _ _ _ _ _ _ | refine We ?_ | refine Wx ?_ | refine Wt ?_ | refine Wm ?_ | refine W2m ?_ ?_ | refine Wl ?_
            | fail)
          refine st_call rfl (House_w E _ _ m s1 s2 s3 (hI.ext x1) hr.1) ?_
          rintro _ H2 g2 ⟨⟨t1, t2, t3, rfl, hmh, e2⟩, rfl⟩
          have x2 : Ext H H2 := x1.trans e2
          have hb2 := e2.get hb1
          refine OpsJ.normA ?_
          repeat' (first
            | (refine is_ucall ?_; first
              | refine st_callP (h := awake_spec _ _ _) (k := ?_)
              | fail)
            | (refine is_umcall ?_; first
              | refine mj_callP (h := awake_spec _ _ _) (k := ?_)
              | fail)
            | refine W1 ?_ | refine Wc ?_ | refine W2c ?_ ?_ | refine Wg ?_ | refine W2 ?_ ?_ | exact Wdead | refine Wlive (fun hb => ?_) | intro _ _ _ _ _ _ _ _ | refine We ?_ | refine Wx ?_ | refine Wt ?_ | refine Wm ?_ | refine W2m ?_ ?_ | refine Wl ?_
            | fail)
          refine st_callP (h := ClashX E _ _ m t1 t2 t3 n k 11 0 hE2 rfl (hmh.ext extA)) (k := ?_)
          refine OpsJ.normA ?_
          repeat' (first
            | (refine is_ucall ?_; first
              | refine st_callP (h := awake_spec _ _ _) (k := ?_)
              | fail)
            | (refine is_umcall ?_; first
              | refine mj_callP (h := awake_spec _ _ _) (k := ?_)
              | fail)
            | refine W1 ?_ | refine Wc ?_ | refine W2c ?_ ?_ | refine Wg ?_ | refine W2 ?_ ?_ | exact Wdead | refine Wlive (fun hb => ?_) | intro _ _ _ _ _ _ _ _ | refine We ?_ | refine Wx ?_ | refine Wt ?_ | refine Wm ?_ | refine W2m ?_ ?_ | refine Wl ?_
            | fail)
          refine st_call rfl (pickN E _ _ m s1 s2 s3 w hr.2 hT (hI.ext x2)) ?_
          rintro _ H3 g3 ⟨⟨rfl, e3⟩, rfl⟩
          have x3 : Ext H H3 := x2.trans e3
          have hb3 := e3.get hb2
          refine OpsJ.normA ?_
          repeat' (first
            | (refine is_ucall ?_; first
              | refine st_callP (h := awake_spec _ _ _) (k := ?_)
              | fail)
            | (refine is_umcall ?_; first
              | refine mj_callP (h := awake_spec _ _ _) (k := ?_)
              | fail)
            | refine W1 ?_ | refine Wc ?_ | refine W2c ?_ ?_ | refine Wg ?_ | refine W2 ?_ ?_ | exact Wdead | refine Wlive (fun hb => ?_) | intro _ _ _ _ _ _ _ _ | refine We ?_ | refine Wx ?_ | refine Wt ?_ | refine Wm ?_ | refine W2m ?_ ?_ | refine Wl ?_
            | fail)
          exact ⟨rfl, rfl, rfl⟩
  · exact ⟨rfl, rfl, rfl⟩
end
end Go.Proofs.Ytehobnpoeodhkaa
