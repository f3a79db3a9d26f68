import Derived.Test.YtehobnpoeodhkaaRl
import Derived.Test.YtehobnpoeodhkaaV9
namespace Go.Proofs.Ytehobnpoeodhkaa
open Go Go.Abs Go.Proofs
set_option maxHeartbeats 8000000
set_option maxRecDepth 20000
attribute [local irreducible] CallJ OpsJ WPJ CallV MonoJ SpecJ

section
variable {γ : Type} (E : Env γ) (g : γ) (H : AHeap)
theorem LookX (m : HouseM) (s1 s2 s3 : Value) (z k n : Int) (hz : lookE m = z) (hk : (if z = 0 then (indexS (leavesS m) (lookV m), lookV m) else (0, 0)) = (k, n)) (hm : HouseIs H m s1 s2 s3) : CallJ Try.prog E 50 [hv m s1 s2 s3] (fun v H' g' => v = .tuple #[.int .i64 k, .int .i64 n, .int .i64 z] ∧ H' = H ∧ g' = g) H g :=
  (Look_spec E g H m s1 s2 s3 hm).mono (by
    rintro v H' g' ⟨rfl, rfl, rfl⟩
    refine ⟨?_, rfl, rfl⟩
    rw [hz]
    by_cases h : z = 0
    · rw [if_pos h] at hk ⊢
      cases hk
      rw [h]
    · rw [if_neg h] at hk ⊢
      cases hk
      rfl)
theorem compared_law (m : HouseM) (s1 s2 s3 : Value) (a : Int) (hm : HouseW H m s1 s2 s3) (ha : 0 ≤ a ∧ a ≤ 255) : CallJ Try.prog E 18 [hv m s1 s2 s3, .int .u8 a] (fun v H' g' => v = .bool true ∧ H' = H ∧ g' = g) H g := by
  have hok : [Value.int .i64 m.hour, Value.int .i64 m.grace, s1, s2, s3].all cellOk = true := by have := hm.ok; simp [cellOk] at this ⊢; exact this
  have hwa : IntKind.i64.wrap a = a := wrap64_eq ⟨by omega, by omega⟩
  refine CallJ.tidy ?_
  unfold hv
  refine CallJ.enter Try.func18 rfl (by simp only [Try.ntmps18, List.length_cons, List.length_nil, Nat.zero_add, Nat.reduceAdd, Nat.reduceSub, List.replicate_succ, List.replicate_zero, List.cons_append, List.nil_append]; rfl) ?_
  repeat' (first
    | (refine is_ucall ?_; first
      | refine st_callP (h := readyW_spec _ _ _ m s1 s2 s3 (hm.ext extA)) (k := ?_)
      | refine st_callP (h := awake_spec _ _ _) (k := ?_)
      | fail)
    | (refine is_umcall ?_; first
      | refine mj_callP (h := readyW_spec _ _ _ m s1 s2 s3 (hm.ext extA)) (k := ?_)
      | refine mj_callP (h := awake_spec _ _ _) (k := ?_)
      | fail)
    | refine W1 ?_ | refine Wc ?_ | refine W2c ?_ ?_ | refine Wg ?_ | refine W2 ?_ ?_ | exact Wdead | refine Wlive (fun hb => ?_) | intro _ _ _ _ _ _ _ _ | refine We ?_ | refine Wx ?_ | refine Wt ?_ | refine Wm ?_ | refine W2m ?_ ?_ | refine Wl ?_
    | fail)
  · have hr : thinS m = true ∧ checkS m = 0 := by assumption
    have hI := hm.is hr.1
    have hsc := hI.clocks
    have hG := good_of hr.2
    have hn1 := hG.n1
    have x0 : Ext H (H ++ [.row [.int .i64 m.hour, .int .i64 m.grace, s1, s2, s3] 1 true]) := extA
    have hb0 : (H ++ [AObj.row [.int .i64 m.hour, .int .i64 m.grace, s1, s2, s3] 1 true])[H.length]? = some (.row [.int .i64 m.hour, .int .i64 m.grace, s1, s2, s3] 1 true) := getA
    repeat' (first
      | (refine is_ucall ?_; first
        | refine st_callP (h := readyW_spec _ _ _ m s1 s2 s3 (hm.ext extA)) (k := ?_)
        | refine st_callP (h := awake_spec _ _ _) (k := ?_)
        | fail)
      | (refine is_umcall ?_; first
        | refine mj_callP (h := readyW_spec _ _ _ m s1 s2 s3 (hm.ext extA)) (k := ?_)
        | refine mj_callP (h := awake_spec _ _ _) (k := ?_)
        | fail)
      | refine W1 ?_ | refine Wc ?_ | refine W2c ?_ ?_ | refine Wg ?_ | refine W2 ?_ ?_ | exact Wdead | refine Wlive (fun hb => ?_) | intro _ _ _ _ _ _ _ _ | refine We ?_ | refine Wx ?_ | refine Wt ?_ | refine Wm ?_ | refine W2m ?_ ?_ | refine Wl ?_
      | fail)
    · exact ⟨rfl, rfl, rfl⟩
    · have hl0 : 0 < m.clocks.length := by omega
      cases hT : hasS m with
      | true =>
        have hT0 : checkT m = 0 := by unfold checkT; rw [if_pos hr.2, if_pos hT]
        have hz : lookE m = 0 := by unfold lookE; rw [if_pos hT0, if_neg (by omega)]
        have hlk := look_eq hG hl0
        obtain ⟨k, hk1, hk2, hk3, hk4, _⟩ := lookF_is (leftR (refL m)) (m.clocks.length - 1)
        have hkk : (if (0 : Int) = 0 then (indexS (leavesS m) (lookV m), lookV m) else (0, 0)) = ((k : Int), leftR (refL m) k) := by rw [if_pos rfl, hlk, ← hk2, ← hk3]
        have hkl : k < m.clocks.length := by omega
        obtain ⟨left, hleft⟩ : ∃ q, leftR (refL m) k = q := ⟨_, rfl⟩
        rw [hleft] at hkk hk4
        repeat' (first
          | refine W1 ?_ | refine Wc ?_ | refine W2c ?_ ?_ | refine Wg ?_ | refine W2 ?_ ?_ | exact Wdead | refine Wlive (fun hb => ?_) | intro _ _ _ _ _ _ _ _ | refine We ?_ | refine Wx ?_ | refine Wt ?_ | refine Wm ?_ | refine W2m ?_ ?_ | refine Wl ?_
          | fail)
        refine st_call rfl (House_w E _ _ m s1 s2 s3 (hI.ext x0) hr.1) ?_
        rintro _ H1 g1 ⟨⟨t1, t2, t3, rfl, hmh, e1⟩, rfl⟩
        have x1 : Ext H H1 := x0.trans e1
        have hb1 := e1.get hb0
        refine OpsJ.normA ?_
        repeat' (first
          | refine W1 ?_ | refine Wc ?_ | refine W2c ?_ ?_ | refine Wg ?_ | refine W2 ?_ ?_ | exact Wdead | refine Wlive (fun hb => ?_) | intro _ _ _ _ _ _ _ _ | refine We ?_ | refine Wx ?_ | refine Wt ?_ | refine Wm ?_ | refine W2m ?_ ?_ | refine Wl ?_
          | fail)
        refine st_callP (h := LookX E _ _ m t1 t2 t3 0 k left hz hkk (hmh.ext extA)) (k := ?_)
        refine OpsJ.normA ?_
        repeat' (first
          | refine W1 ?_ | refine Wc ?_ | refine W2c ?_ ?_ | refine Wg ?_ | refine W2 ?_ ?_ | exact Wdead | refine Wlive (fun hb => ?_) | intro _ _ _ _ _ _ _ _ | refine We ?_ | refine Wx ?_ | refine Wt ?_ | refine Wm ?_ | refine W2m ?_ ?_ | refine Wl ?_
          | fail)
        refine st_call rfl (sureT E _ _ m s1 s2 s3 hT0 (hI.ext x1)) ?_
        rintro _ H2 g2 ⟨⟨lv, rfl, hL, e2⟩, rfl⟩
        have x2 : Ext H H2 := x1.trans e2
        have hb2 := e2.get hb1
        clear e1 e2 hb1 x1 hmh
        have hbk : (decide (0 ≤ (k : Int)) && decide ((k : Int) ≤ (m.clocks.length : Int) - 1)) = true := by simp; omega
        have hLE : ∀ l ∈ refL m, isE m l = true := fun l hl => ((mem_ref hG l).1 hl).1
        have hLn : (refL m).length ≤ 1000000 := by have := refL_len m; omega
        have hel : (m.clocks.map encR)[(k : Int).toNat]? = some (encR m.clocks[k]) := by simp [hkl]
        have hcr := hG.clock _ (List.getElem_mem hkl)
        obtain ⟨N, hN⟩ : ∃ N : Nat, (N : Int) = m.clocks[k].2 - m.clocks[k].1 + 1 := ⟨(m.clocks[k].2 - m.clocks[k].1 + 1).toNat, by omega⟩
        have hmost := most_eq hG hkl hN
        have hlen2 : ∀ j : Nat, j < N → ((refL (cmpM m k (m.clocks[k].1 + j))).length : Int) = cntR (refL m) k (m.clocks[k].1 + j) := fun j hj => cmp_len hG hkl (by simp only [inR, Bool.and_eq_true, decide_eq_true_eq]; omega)
        generalize hrk : m.clocks[k] = r at *
        refine OpsJ.normA ?_
        repeat' (first
          | (refine is_ucall ?_; first
            | refine st_callP (h := InX _ _ _ _ _ _ _ hbk) (k := ?_)
            | fail)
          | (refine is_umcall ?_; first
            | refine mj_callP (h := InX _ _ _ _ _ _ _ hbk) (k := ?_)
            | fail)
          | refine W1 ?_ | refine Wc ?_ | refine W2c ?_ ?_ | refine Wg ?_ | refine W2 ?_ ?_ | exact Wdead | refine Wlive (fun hb => ?_) | intro _ _ _ _ _ _ _ _ | refine We ?_ | refine Wx ?_ | refine Wt ?_ | refine Wm ?_ | refine W2m ?_ ?_ | refine Wl ?_
          | fail)
        refine WPJ.loopT N [13, 62, 63, 64, 65, 66, 67, 68, 69, 70, 71, 72, 73, 74, 75, 76, 77, 78, 79, 80, 81, 82, 83, 84, 85] (fun _ (v : Int × Int) => [(12, .int .i64 v.2), (10, .int .i64 v.1)])
          (fun j v Hx gx => gx = g2 ∧ Ext (H2 ++ [.row (encR r) 1 true]) Hx ∧ v.1 = mostF m k r.1 j ∧ v.2 = r.1 + j) 0 (0, r.1) (Nat.zero_le _) (by intro p hp; simp at hp; rcases hp with rfl | rfl <;> rfl) ⟨rfl, extA, rfl, by simp⟩ ?_
        rintro j ⟨x, n⟩ Hx gx hj ⟨rfl, he, hx, hnj⟩ hlx
        simp only at hx hnj
        have heH : Ext H2 Hx := (Ext.app (Ext.refl _) _).trans he
        have x3 : Ext H Hx := x2.trans heH
        have hb3 := heH.get hb2
        have hr3 := he.get (get_new0 rfl)
        have hsc3 := hsc.ext x3
        have hfl := flatten_lenG (enc := encR) (w := 2) (fun _ => rfl) m.clocks
        have hne : m.clocks ≠ [] := fun e => by rw [e] at hkl; simp at hkl
        simp only [updT, maskT, List.set_cons_zero, List.set_cons_succ]
        rcases Nat.lt_or_ge j N with hlt | hge
        · skip
          repeat' (first
            | (refine is_ucall ?_; first
              | refine st_callP (h := InX _ _ _ _ _ _ _ hbk) (k := ?_)
              | fail)
            | (refine is_umcall ?_; first
              | refine mj_callP (h := InX _ _ _ _ _ _ _ hbk) (k := ?_)
              | fail)
            | refine W1 ?_ | refine Wc ?_ | refine W2c ?_ ?_ | refine Wg ?_ | refine W2 ?_ ?_ | exact Wdead | refine Wlive (fun hb => ?_) | intro _ _ _ _ _ _ _ _ | refine We ?_ | refine Wx ?_ | refine Wt ?_ | refine Wm ?_ | refine W2m ?_ ?_ | refine Wl ?_
            | fail)
          refine st_appendCopyE (l := m.clocks) (enc := encR) (w := 2) (cells0 := []) hsc3 hne (Ext.app (Ext.refl _) _) rfl (fun _ => rfl) rfl ?_ rfl (by omega) (by decide) ?_
          · exact get_new rfl
          refine OpsJ.normA ?_
          repeat' (first
            | (refine is_ucall ?_; first
              | refine st_callP (h := InX _ _ _ _ _ _ _ hbk) (k := ?_)
              | fail)
            | (refine is_umcall ?_; first
              | refine mj_callP (h := InX _ _ _ _ _ _ _ hbk) (k := ?_)
              | fail)
            | refine W1 ?_ | refine Wc ?_ | refine W2c ?_ ?_ | refine Wg ?_ | refine W2 ?_ ?_ | exact Wdead | refine Wlive (fun hb => ?_) | intro _ _ _ _ _ _ _ _ | refine We ?_ | refine Wx ?_ | refine Wt ?_ | refine Wm ?_ | refine W2m ?_ ?_ | refine Wl ?_
            | fail)
          have hcl2 : (cmpM m k n).clocks.length = m.clocks.length := by simp [cmpM]
          have hsp : List.take (k * 2) (m.clocks.map encR).flatten ++ .int .i64 n :: .int .i64 n :: List.drop (k * 2 + 2) (m.clocks.map encR).flatten = ((cmpM m k n).clocks.map encR).flatten := by
            have := flat_set (enc := encR) (w := 2) (fun _ => rfl) m.clocks k (n, n) hkl
            rw [show (cmpM m k n).clocks = m.clocks.set k (n, n) from rfl, ← this]
            simp [splice, encR]
          rw [hsp]
          have hHV : HouseV (Hx ++ [.row [.int .i64 m.hour, .int .i64 m.grace, .slice (some ⟨Hx.length + 2, 0, none⟩) m.clocks.length m.clocks.length, s2, s3] 1 true, .dead, .row ((cmpM m k n).clocks.map encR).flatten 2 true]) (cmpM m k n) (.slice (some ⟨Hx.length + 2, 0, none⟩) m.clocks.length m.clocks.length) s2 s3 := by
            have hI2 := (hI.ext x3).ext (Ext.app (Ext.refl Hx) [.row [.int .i64 m.hour, .int .i64 m.grace, .slice (some ⟨Hx.length + 2, 0, none⟩) m.clocks.length m.clocks.length, s2, s3] 1 true, .dead, .row ((cmpM m k n).clocks.map encR).flatten 2 true])
            have hrd := rd_row (enc := encR) (w := 2) (fun _ => rfl) (c := m.clocks.length) (own := true) (i := Hx.length + 2) (l := (cmpM m k n).clocks) (H := Hx ++ [.row [.int .i64 m.hour, .int .i64 m.grace, .slice (some ⟨Hx.length + 2, 0, none⟩) m.clocks.length m.clocks.length, s2, s3] 1 true, .dead, .row ((cmpM m k n).clocks.map encR).flatten 2 true]) (get_new rfl)
            rw [hcl2] at hrd
            refine ⟨hrd, hI2.tickets, hI2.clips, ?_, by rw [hcl2]; exact hI2.n1, hI2.n2, hI2.n3⟩
            have := hI2.ok
            simp [cellOk] at this ⊢
            exact this.2
          have hGc : Good (cmpM m k n) := cmp_good hG (by omega)
          refine st_call rfl (Truths_v E _ _ (cmpM m k n) _ s2 s3 hHV hGc) ?_
          rintro xv H4 g4 ⟨⟨hLx, e4⟩, rfl⟩
          have he4 : Ext (H2 ++ [.row (encR r) 1 true]) H4 := (he.app _).trans e4
          have hl2 := hlen2 j hlt
          rw [← hnj] at hl2
          obtain ⟨ws, hws, hwl, _⟩ := hLx
          have hms := mostF_step m k r.1 j
          rw [← hx, ← hnj, ← hl2] at hms
          have hwl2 : (ws.length : Int) = (refL (cmpM m k n)).length := by rw [hwl]
          have hRl := refL_len (cmpM m k n)
          refine OpsJ.normA ?_
          repeat' (first
            | (refine is_ucall ?_; first
              | refine st_callP (h := InX _ _ _ _ _ _ _ hbk) (k := ?_)
              | fail)
            | (refine is_umcall ?_; first
              | refine mj_callP (h := InX _ _ _ _ _ _ _ hbk) (k := ?_)
              | fail)
            | refine W1 ?_ | refine Wc ?_ | refine W2c ?_ ?_ | refine Wg ?_ | refine W2 ?_ ?_ | exact Wdead | refine Wlive (fun hb => ?_) | intro _ _ _ _ _ _ _ _ | refine We ?_ | refine Wx ?_ | refine Wt ?_ | refine Wm ?_ | refine W2m ?_ ?_ | refine Wl ?_
            | fail)
          refine ⟨(_, n + 1), hlt, (by repeat' (first | exact Weak.nil | refine Weak.wild ?_ | refine Weak.same ?_ | refine Weak.intEq (by first | omega | (simp; done) | (push_cast; omega)) ?_)), rfl, he4, ?_, by show n + 1 = _; push_cast; omega⟩
          show _ = mostF m k r.1 (j + 1)
          rw [hms, ← hwl2]
          first | exact max_if _ _ | rfl | omega
        · obtain rfl : j = N := by omega
          have hxl : x = left := by rw [hx, hmost, hleft]
          subst hxl
          have hwa0 : 0 ≤ IntKind.i64.wrap a := by omega
          obtain ⟨c, hcq, hcl⟩ : ∃ c : Nat, IntKind.i64.wrap a % (m.clocks.length : Int) = c ∧ c < m.clocks.length := by
            have h0 : 0 ≤ IntKind.i64.wrap a % (m.clocks.length : Int) := Int.emod_nonneg _ (by omega)
            have h1 : IntKind.i64.wrap a % (m.clocks.length : Int) < m.clocks.length := Int.emod_lt_of_pos _ (by omega)
            exact ⟨(IntKind.i64.wrap a % (m.clocks.length : Int)).toNat, by omega, by omega⟩
          have hLc : ∀ l ∈ refL m, c < l.length := fun l hl => by
            have := hLE l hl
            simp only [isE, Bool.and_eq_true, decide_eq_true_eq] at this
            omega
          have hL := hL.ext heH
          have hkc := hk4 c (by omega)
          repeat' (first
            | (refine is_ucall ?_; first
              | refine st_callP (h := InX _ _ _ _ _ _ _ hbk) (k := ?_)
              | refine st_callP (h := Leaves_spec _ _ _ lv _ _ (hL.ext extA) hLn hLc) (k := ?_)
              | refine st_callP (h := awake_spec _ _ _) (k := ?_)
              | fail)
            | (refine is_umcall ?_; first
              | refine mj_callP (h := InX _ _ _ _ _ _ _ hbk) (k := ?_)
              | refine mj_callP (h := Leaves_spec _ _ _ lv _ _ (hL.ext extA) hLn hLc) (k := ?_)
              | refine mj_callP (h := awake_spec _ _ _) (k := ?_)
              | fail)
            | refine W1 ?_ | refine Wc ?_ | refine W2c ?_ ?_ | refine Wg ?_ | refine W2 ?_ ?_ | exact Wdead | refine Wlive (fun hb => ?_) | intro _ _ _ _ _ _ _ _ | refine We ?_ | refine Wx ?_ | refine Wt ?_ | refine Wm ?_ | refine W2m ?_ ?_ | refine Wl ?_
            | fail)
          all_goals try (refine absurd trivial ?_; assumption)
          rw [hcq]
          refine OpsJ.normA ?_
          repeat' (first
            | (refine is_ucall ?_; first
              | refine st_callP (h := InX _ _ _ _ _ _ _ hbk) (k := ?_)
              | refine st_callP (h := Leaves_spec _ _ _ lv _ _ (hL.ext extA) hLn hLc) (k := ?_)
              | refine st_callP (h := awake_spec _ _ _) (k := ?_)
              | fail)
            | (refine is_umcall ?_; first
              | refine mj_callP (h := InX _ _ _ _ _ _ _ hbk) (k := ?_)
              | refine mj_callP (h := Leaves_spec _ _ _ lv _ _ (hL.ext extA) hLn hLc) (k := ?_)
              | refine mj_callP (h := awake_spec _ _ _) (k := ?_)
              | fail)
            | refine W1 ?_ | refine Wc ?_ | refine W2c ?_ ?_ | refine Wg ?_ | refine W2 ?_ ?_ | exact Wdead | refine Wlive (fun hb => ?_) | intro _ _ _ _ _ _ _ _ | refine We ?_ | refine Wx ?_ | refine Wt ?_ | refine Wm ?_ | refine W2m ?_ ?_ | refine Wl ?_
            | fail)
          all_goals try (refine absurd trivial ?_; assumption)
          all_goals exact ⟨rfl, rfl, rfl⟩
      | false =>
        have hT1 : checkT m = 11 := by unfold checkT; rw [if_pos hr.2, hT]; rfl
        have hz : lookE m = 11 := by unfold lookE; rw [if_neg (by omega), hT1]
        repeat' (first
          | (refine is_ucall ?_; first
            | refine st_callP (h := awake_spec _ _ _) (k := ?_)
            | fail)
          | (refine is_umcall ?_; first
            | refine mj_callP (h := awake_spec _ _ _) (k := ?_)
            | fail)
          | refine W1 ?_ | refine Wc ?_ | refine W2c ?_ ?_ | refine Wg ?_ | refine W2 ?_ ?_ | exact Wdead | refine Wlive (fun hb => ?_) | intro _ _ _ _ _ _ _ _ | refine We ?_ | refine Wx ?_ | refine Wt ?_ | refine Wm ?_ | refine W2m ?_ ?_ | refine Wl ?_
          | fail)
        refine st_call rfl (House_w E _ _ m s1 s2 s3 (hI.ext x0) hr.1) ?_
        rintro _ H1 g1 ⟨⟨t1, t2, t3, rfl, hmh, e1⟩, rfl⟩
        have x1 : Ext H H1 := x0.trans e1
        have hb1 := e1.get hb0
        refine OpsJ.normA ?_
        repeat' (first
          | (refine is_ucall ?_; first
            | refine st_callP (h := awake_spec _ _ _) (k := ?_)
            | fail)
          | (refine is_umcall ?_; first
            | refine mj_callP (h := awake_spec _ _ _) (k := ?_)
            | fail)
          | refine W1 ?_ | refine Wc ?_ | refine W2c ?_ ?_ | refine Wg ?_ | refine W2 ?_ ?_ | exact Wdead | refine Wlive (fun hb => ?_) | intro _ _ _ _ _ _ _ _ | refine We ?_ | refine Wx ?_ | refine Wt ?_ | refine Wm ?_ | refine W2m ?_ ?_ | refine Wl ?_
          | fail)
        refine st_callP (h := LookX E _ _ m t1 t2 t3 11 0 0 hz rfl (hmh.ext extA)) (k := ?_)
        refine OpsJ.normA ?_
        repeat' (first
          | (refine is_ucall ?_; first
            | refine st_callP (h := awake_spec _ _ _) (k := ?_)
            | fail)
          | (refine is_umcall ?_; first
            | refine mj_callP (h := awake_spec _ _ _) (k := ?_)
            | fail)
          | refine W1 ?_ | refine Wc ?_ | refine W2c ?_ ?_ | refine Wg ?_ | refine W2 ?_ ?_ | exact Wdead | refine Wlive (fun hb => ?_) | intro _ _ _ _ _ _ _ _ | refine We ?_ | refine Wx ?_ | refine Wt ?_ | refine Wm ?_ | refine W2m ?_ ?_ | refine Wl ?_
          | fail)
        refine st_call rfl (sureN E _ _ m s1 s2 s3 11 hT1 (by decide) (hI.ext x1)) ?_
        rintro _ H2 g2 ⟨⟨rfl, e2⟩, rfl⟩
        have x2 : Ext H H2 := x1.trans e2
        have hb2 := e2.get hb1
        refine OpsJ.normA ?_
        repeat' (first
          | (refine is_ucall ?_; first
            | refine st_callP (h := awake_spec _ _ _) (k := ?_)
            | fail)
          | (refine is_umcall ?_; first
            | refine mj_callP (h := awake_spec _ _ _) (k := ?_)
            | fail)
          | refine W1 ?_ | refine Wc ?_ | refine W2c ?_ ?_ | refine Wg ?_ | refine W2 ?_ ?_ | exact Wdead | refine Wlive (fun hb => ?_) | intro _ _ _ _ _ _ _ _ | refine We ?_ | refine Wx ?_ | refine Wt ?_ | refine Wm ?_ | refine W2m ?_ ?_ | refine Wl ?_
          | fail)
        all_goals try (refine absurd trivial ?_; assumption)
        all_goals exact ⟨rfl, rfl, rfl⟩
  · exact ⟨rfl, rfl, rfl⟩
end
end Go.Proofs.Ytehobnpoeodhkaa
