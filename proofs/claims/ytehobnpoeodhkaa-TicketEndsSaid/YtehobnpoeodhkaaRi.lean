import Derived.Test.YtehobnpoeodhkaaRf
import Derived.Test.YtehobnpoeodhkaaV9
namespace Go.Proofs.Ytehobnpoeodhkaa
open Go Go.Abs Go.Proofs
set_option maxHeartbeats 8000000
set_option maxRecDepth 20000
attribute [local irreducible] CallJ OpsJ WPJ CallV MonoJ SpecJ

theorem lo_mem {L : List Int} (hne : L ≠ []) (h : ∀ x ∈ L, -1000000 ≤ x ∧ x ≤ 1000000) : (boundsR L).1 ∈ L ∧ (boundsR L).2 ∈ L := by
  obtain ⟨x, hx⟩ := List.exists_mem_of_ne_nil _ hne
  have hb := h x hx
  constructor
  · rcases fmin_mem L 1099511627776 with h2 | h2
    · have := (fmin_le L 1099511627776).2 x hx; omega
    · exact h2
  · rcases fmax_mem L (-1099511627776) with h2 | h2
    · have := (fmax_le L (-1099511627776)).2 x hx; omega
    · exact h2
def metE (a b c d : Bool) : Int := (if a then 1 else 0) + (if b then 2 else 0) + (if c then 4 else 0) + (if d then 8 else 0)
def endP (m : HouseM) (k n : Nat) (rc rh : Int × Int) (j : Nat) (l : List Int) : Bool := match j with
  | 0 => l.getD k 0 == rc.1
  | 1 => l.getD k 0 == rc.2
  | 2 => hoursR m l n == rh.1
  | _ => hoursR m l n == rh.2
def endF (m : HouseM) (k n : Nat) (rc rh : Int × Int) (ls : List (List Int)) (i j : Nat) : Bool := (ls.take i).any (endP m k n rc rh j)
theorem endF_step {m : HouseM} {k n : Nat} {rc rh : Int × Int} {ls : List (List Int)} {i : Nat} (h : i < ls.length) (j : Nat) : endF m k n rc rh ls (i + 1) j = (endF m k n rc rh ls i j || endP m k n rc rh j ls[i]) := by
  unfold endF
  rw [List.take_succ_eq_append_getElem h, List.any_append]
  simp
theorem endF_all {m : HouseM} {k n : Nat} {rc rh : Int × Int} {ls : List (List Int)} {j : Nat} (h : ∃ l ∈ ls, endP m k n rc rh j l = true) : endF m k n rc rh ls ls.length j = true := by
  unfold endF
  rw [List.take_length, List.any_eq_true]
  exact h
section
variable {γ : Type} (E : Env γ) (g : γ) (H : AHeap)
theorem ends_law (m : HouseM) (s1 s2 s3 : Value) (a b : Int) (hm : HouseW H m s1 s2 s3) (ha : 0 ≤ a ∧ a ≤ 255) (hb8 : 0 ≤ b ∧ b ≤ 255) : CallJ Try.prog E 12 [hv m s1 s2 s3, .int .u8 a, .int .u8 b] (fun v H' g' => v = .bool true ∧ H' = H ∧ g' = g) H g := by
  have hok : [Value.int .i64 m.hour, Value.int .i64 m.grace, s1, s2, s3].all cellOk = true := by have := hm.ok; simp [cellOk] at this ⊢; exact this
  have hwa : IntKind.i64.wrap a = a := wrap64_eq ⟨by omega, by omega⟩
  have hwb : IntKind.i64.wrap b = b := wrap64_eq ⟨by omega, by omega⟩
  refine CallJ.tidy ?_
  unfold hv
  refine CallJ.enter Try.func12 rfl (by simp only [Try.ntmps12, List.length_cons, List.length_nil, Nat.zero_add, Nat.reduceAdd, Nat.reduceSub, List.replicate_succ, List.replicate_zero, List.cons_append, List.nil_append]; rfl) ?_
  repeat' (first
    | (refine is_ucall ?_; first
      | refine st_callP (h := readyW_spec _ _ _ m s1 s2 s3 (hm.ext extA)) (k := ?_)
      | refine st_callP (h := awake_spec _ _ _) (k := ?_)
      | refine st_callP (h := HoursR_spec _ _ _ m s1 s2 s3 x _ _ (hI.ext extA) (hrx.ext extA) hG hEl) (k := ?_)
      | fail)
    | (refine is_umcall ?_; first
      | refine mj_callP (h := readyW_spec _ _ _ m s1 s2 s3 (hm.ext extA)) (k := ?_)
      | refine mj_callP (h := awake_spec _ _ _) (k := ?_)
      | refine mj_callP (h := HoursR_spec _ _ _ m s1 s2 s3 x _ _ (hI.ext extA) (hrx.ext extA) hG hEl) (k := ?_)
      | fail)
    | refine W1 ?_ | refine Wc ?_ | refine W2c ?_ ?_ | refine Wg ?_ | refine W2 ?_ ?_ | exact Wdead | refine Wlive (fun hb => ?_) | intro _ _ _ _ _ _ _ _ | refine We ?_ | refine Wx ?_ | refine Wt ?_ | refine Wm ?_ | refine W2m ?_ ?_ | refine Wl ?_
    | fail)
  · have hr : thinS m = true ∧ checkS m = 0 := by assumption
    have hI := hm.is hr.1
    have hsc := hI.clocks
    have hst := hI.tickets
    have hG := good_of hr.2
    have hn1 := hG.n1
    have hn2 := hG.n2
    have hlc : (m.clocks.map encR).length = m.clocks.length := by simp
    have x0 : Ext H (H ++ [.row [.int .i64 m.hour, .int .i64 m.grace, s1, s2, s3] 1 true]) := extA
    have hb0 : (H ++ [AObj.row [.int .i64 m.hour, .int .i64 m.grace, s1, s2, s3] 1 true])[H.length]? = some (.row [.int .i64 m.hour, .int .i64 m.grace, s1, s2, s3] 1 true) := getA
    repeat' (first
      | (refine is_ucall ?_; first
        | refine st_callP (h := readyW_spec _ _ _ m s1 s2 s3 (hm.ext extA)) (k := ?_)
        | refine st_callP (h := awake_spec _ _ _) (k := ?_)
        | refine st_callP (h := HoursR_spec _ _ _ m s1 s2 s3 x _ _ (hI.ext extA) (hrx.ext extA) hG hEl) (k := ?_)
        | fail)
      | (refine is_umcall ?_; first
        | refine mj_callP (h := readyW_spec _ _ _ m s1 s2 s3 (hm.ext extA)) (k := ?_)
        | refine mj_callP (h := awake_spec _ _ _) (k := ?_)
        | refine mj_callP (h := HoursR_spec _ _ _ m s1 s2 s3 x _ _ (hI.ext extA) (hrx.ext extA) hG hEl) (k := ?_)
        | fail)
      | refine W1 ?_ | refine Wc ?_ | refine W2c ?_ ?_ | refine Wg ?_ | refine W2 ?_ ?_ | exact Wdead | refine Wlive (fun hb => ?_) | intro _ _ _ _ _ _ _ _ | refine We ?_ | refine Wx ?_ | refine Wt ?_ | refine Wm ?_ | refine W2m ?_ ?_ | refine Wl ?_
      | fail)
    · exact ⟨rfl, rfl, rfl⟩
    · obtain ⟨k, hk, hkl⟩ : ∃ k : Nat, (IntKind.i64.wrap a).tmod m.clocks.length = k ∧ k < m.clocks.length := by
        have h0 : 0 ≤ a % (m.clocks.length : Int) := Int.emod_nonneg _ (by omega)
        have h1 : a % (m.clocks.length : Int) < m.clocks.length := Int.emod_lt_of_pos _ (by omega)
        exact ⟨(a % (m.clocks.length : Int)).toNat, by rw [hwa, Int.tmod_eq_emod_of_nonneg ha.1]; omega, by omega⟩
      obtain ⟨n, hn, hnl⟩ : ∃ n : Nat, (IntKind.i64.wrap b).tmod m.tickets.length = n ∧ n < m.tickets.length := by
        have h0 : 0 ≤ b % (m.tickets.length : Int) := Int.emod_nonneg _ (by omega)
        have h1 : b % (m.tickets.length : Int) < m.tickets.length := Int.emod_lt_of_pos _ (by omega)
        exact ⟨(b % (m.tickets.length : Int)).toNat, by rw [hwb, Int.tmod_eq_emod_of_nonneg hb8.1]; omega, by omega⟩
      refine WPJ.draw 14 mixed (by kernel_rfl) (by kernel_rfl) (by kernel_rfl) (by decide) ?_
      refine MonoJ.normA ?_
      repeat' (first
        | (refine is_ucall ?_; first
          | refine st_callP (h := readyW_spec _ _ _ m s1 s2 s3 (hm.ext extA)) (k := ?_)
          | refine st_callP (h := awake_spec _ _ _) (k := ?_)
          | refine st_callP (h := HoursR_spec _ _ _ m s1 s2 s3 x _ _ (hI.ext extA) (hrx.ext extA) hG hEl) (k := ?_)
          | fail)
        | (refine is_umcall ?_; first
          | refine mj_callP (h := readyW_spec _ _ _ m s1 s2 s3 (hm.ext extA)) (k := ?_)
          | refine mj_callP (h := awake_spec _ _ _) (k := ?_)
          | refine mj_callP (h := HoursR_spec _ _ _ m s1 s2 s3 x _ _ (hI.ext extA) (hrx.ext extA) hG hEl) (k := ?_)
          | fail)
        | refine W1 ?_ | refine Wc ?_ | refine W2c ?_ ?_ | refine Wg ?_ | refine W2 ?_ ?_ | exact Wdead | refine Wlive (fun hb => ?_) | intro _ _ _ _ _ _ _ _ | refine We ?_ | refine Wx ?_ | refine Wt ?_ | refine Wm ?_ | refine W2m ?_ ?_ | refine Wl ?_
        | fail)
      rw [hk, hn]
      refine OpsJ.normA ?_
      cases hT : hasS m with
      | true =>
        have hT0 : checkT m = 0 := by unfold checkT; rw [if_pos hr.2, if_pos hT]
        repeat' (first
          | (refine is_ucall ?_; first
            | refine st_callP (h := readyW_spec _ _ _ m s1 s2 s3 (hm.ext extA)) (k := ?_)
            | refine st_callP (h := awake_spec _ _ _) (k := ?_)
            | refine st_callP (h := HoursR_spec _ _ _ m s1 s2 s3 x _ _ (hI.ext extA) (hrx.ext extA) hG hEl) (k := ?_)
            | fail)
          | (refine is_umcall ?_; first
            | refine mj_callP (h := readyW_spec _ _ _ m s1 s2 s3 (hm.ext extA)) (k := ?_)
            | refine mj_callP (h := awake_spec _ _ _) (k := ?_)
            | refine mj_callP (h := HoursR_spec _ _ _ m s1 s2 s3 x _ _ (hI.ext extA) (hrx.ext extA) hG hEl) (k := ?_)
            | fail)
          | refine W1 ?_ | refine Wc ?_ | refine W2c ?_ ?_ | refine Wg ?_ | refine W2 ?_ ?_ | exact Wdead | refine Wlive (fun hb => ?_) | intro _ _ _ _ _ _ _ _ | refine We ?_ | refine Wx ?_ | refine Wt ?_ | refine Wm ?_ | refine W2m ?_ ?_ | refine Wl ?_
          | fail)
        refine st_call rfl (House_w E _ _ m s1 s2 s3 (hI.ext x0) hr.1) ?_
        rintro _ H1 g1 ⟨⟨t1, t2, t3, rfl, hmh, e1⟩, rfl⟩
        have x1 : Ext H H1 := x0.trans e1
        have hb1 := e1.get hb0
        refine OpsJ.normA ?_
        repeat' (first
          | (refine is_ucall ?_; first
            | refine st_callP (h := readyW_spec _ _ _ m s1 s2 s3 (hm.ext extA)) (k := ?_)
            | refine st_callP (h := awake_spec _ _ _) (k := ?_)
            | refine st_callP (h := HoursR_spec _ _ _ m s1 s2 s3 x _ _ (hI.ext extA) (hrx.ext extA) hG hEl) (k := ?_)
            | fail)
          | (refine is_umcall ?_; first
            | refine mj_callP (h := readyW_spec _ _ _ m s1 s2 s3 (hm.ext extA)) (k := ?_)
            | refine mj_callP (h := awake_spec _ _ _) (k := ?_)
            | refine mj_callP (h := HoursR_spec _ _ _ m s1 s2 s3 x _ _ (hI.ext extA) (hrx.ext extA) hG hEl) (k := ?_)
            | fail)
          | refine W1 ?_ | refine Wc ?_ | refine W2c ?_ ?_ | refine Wg ?_ | refine W2 ?_ ?_ | exact Wdead | refine Wlive (fun hb => ?_) | intro _ _ _ _ _ _ _ _ | refine We ?_ | refine Wx ?_ | refine Wt ?_ | refine Wm ?_ | refine W2m ?_ ?_ | refine Wl ?_
          | fail)
        refine st_call rfl (ClocksR E _ _ m t1 t2 t3 hT0 (hmh.ext extA)) ?_
        rintro _ H2 g2 ⟨⟨cv, rfl, hc, e2⟩, rfl⟩
        have x2 : Ext H H2 := x1.trans e2
        have hb2 := e2.get hb1
        refine OpsJ.normA ?_
        repeat' (first
          | (refine is_ucall ?_; first
            | refine st_callP (h := readyW_spec _ _ _ m s1 s2 s3 (hm.ext extA)) (k := ?_)
            | refine st_callP (h := awake_spec _ _ _) (k := ?_)
            | refine st_callP (h := HoursR_spec _ _ _ m s1 s2 s3 x _ _ (hI.ext extA) (hrx.ext extA) hG hEl) (k := ?_)
            | fail)
          | (refine is_umcall ?_; first
            | refine mj_callP (h := readyW_spec _ _ _ m s1 s2 s3 (hm.ext extA)) (k := ?_)
            | refine mj_callP (h := awake_spec _ _ _) (k := ?_)
            | refine mj_callP (h := HoursR_spec _ _ _ m s1 s2 s3 x _ _ (hI.ext extA) (hrx.ext extA) hG hEl) (k := ?_)
            | fail)
          | refine W1 ?_ | refine Wc ?_ | refine W2c ?_ ?_ | refine Wg ?_ | refine W2 ?_ ?_ | exact Wdead | refine Wlive (fun hb => ?_) | intro _ _ _ _ _ _ _ _ | refine We ?_ | refine Wx ?_ | refine Wt ?_ | refine Wm ?_ | refine W2m ?_ ?_ | refine Wl ?_
          | fail)
        refine st_call rfl (House_w E _ _ m s1 s2 s3 (hI.ext x2) hr.1) ?_
        rintro _ H3 g3 ⟨⟨t1, t2, t3, rfl, hmh, e3⟩, rfl⟩
        have x3 : Ext H H3 := x2.trans e3
        have hb3 := e3.get hb2
        replace hc := hc.ext e3
        refine OpsJ.normA ?_
        repeat' (first
          | (refine is_ucall ?_; first
            | refine st_callP (h := readyW_spec _ _ _ m s1 s2 s3 (hm.ext extA)) (k := ?_)
            | refine st_callP (h := awake_spec _ _ _) (k := ?_)
            | refine st_callP (h := HoursR_spec _ _ _ m s1 s2 s3 x _ _ (hI.ext extA) (hrx.ext extA) hG hEl) (k := ?_)
            | fail)
          | (refine is_umcall ?_; first
            | refine mj_callP (h := readyW_spec _ _ _ m s1 s2 s3 (hm.ext extA)) (k := ?_)
            | refine mj_callP (h := awake_spec _ _ _) (k := ?_)
            | refine mj_callP (h := HoursR_spec _ _ _ m s1 s2 s3 x _ _ (hI.ext extA) (hrx.ext extA) hG hEl) (k := ?_)
            | fail)
          | refine W1 ?_ | refine Wc ?_ | refine W2c ?_ ?_ | refine Wg ?_ | refine W2 ?_ ?_ | exact Wdead | refine Wlive (fun hb => ?_) | intro _ _ _ _ _ _ _ _ | refine We ?_ | refine Wx ?_ | refine Wt ?_ | refine Wm ?_ | refine W2m ?_ ?_ | refine Wl ?_
          | fail)
        refine st_call rfl (HoursR E _ _ m t1 t2 t3 hT0 (hmh.ext extA)) ?_
        rintro _ H4 g4 ⟨⟨rv, rfl, hrr, e4⟩, rfl⟩
        have x4 : Ext H H4 := x3.trans e4
        have hb4 := e4.get hb3
        replace hc := hc.ext e4
        refine OpsJ.normA ?_
        repeat' (first
          | (refine is_ucall ?_; first
            | refine st_callP (h := readyW_spec _ _ _ m s1 s2 s3 (hm.ext extA)) (k := ?_)
            | refine st_callP (h := awake_spec _ _ _) (k := ?_)
            | refine st_callP (h := HoursR_spec _ _ _ m s1 s2 s3 x _ _ (hI.ext extA) (hrx.ext extA) hG hEl) (k := ?_)
            | fail)
          | (refine is_umcall ?_; first
            | refine mj_callP (h := readyW_spec _ _ _ m s1 s2 s3 (hm.ext extA)) (k := ?_)
            | refine mj_callP (h := awake_spec _ _ _) (k := ?_)
            | refine mj_callP (h := HoursR_spec _ _ _ m s1 s2 s3 x _ _ (hI.ext extA) (hrx.ext extA) hG hEl) (k := ?_)
            | fail)
          | refine W1 ?_ | refine Wc ?_ | refine W2c ?_ ?_ | refine Wg ?_ | refine W2 ?_ ?_ | exact Wdead | refine Wlive (fun hb => ?_) | intro _ _ _ _ _ _ _ _ | refine We ?_ | refine Wx ?_ | refine Wt ?_ | refine Wm ?_ | refine W2m ?_ ?_ | refine Wl ?_
          | fail)
        refine st_call rfl (sureT E _ _ m s1 s2 s3 hT0 (hI.ext x4)) ?_
        rintro _ H5 g5 ⟨⟨lv, rfl, hL, e5⟩, rfl⟩
        have x5 : Ext H H5 := x4.trans e5
        have hb5 := e5.get hb4
        replace hc := hc.ext e5
        replace hrr := hrr.ext e5
        clear e1 e2 e3 e4 e5 hb1 hb2 hb3 hb4 x1 x2 x3 x4 hmh
        have hcl : (clocksS m).length = m.clocks.length := by simp [clocksS]
        have hrl : (hrsS m).length = m.tickets.length := by simp [hrsS]
        have hLE := ref_isE hG
        have hRl := refL_len m
        obtain ⟨vs, hvs, hvl, hin⟩ := hL
        refine OpsJ.normA ?_
        repeat' (first
          | (refine is_ucall ?_; first
            | refine st_callP (h := readyW_spec _ _ _ m s1 s2 s3 (hm.ext extA)) (k := ?_)
            | refine st_callP (h := awake_spec _ _ _) (k := ?_)
            | refine st_callP (h := HoursR_spec _ _ _ m s1 s2 s3 x _ _ (hI.ext extA) (hrx.ext extA) hG hEl) (k := ?_)
            | fail)
          | (refine is_umcall ?_; first
            | refine mj_callP (h := readyW_spec _ _ _ m s1 s2 s3 (hm.ext extA)) (k := ?_)
            | refine mj_callP (h := awake_spec _ _ _) (k := ?_)
            | refine mj_callP (h := HoursR_spec _ _ _ m s1 s2 s3 x _ _ (hI.ext extA) (hrx.ext extA) hG hEl) (k := ?_)
            | fail)
          | refine W1 ?_ | refine Wc ?_ | refine W2c ?_ ?_ | refine Wg ?_ | refine W2 ?_ ?_ | exact Wdead | refine Wlive (fun hb => ?_) | intro _ _ _ _ _ _ _ _ | refine We ?_ | refine Wx ?_ | refine Wt ?_ | refine Wm ?_ | refine W2m ?_ ?_ | refine Wl ?_
          | fail)
        have helc := clocks_at hT0 hkl
        have helh := hrs_at hT0 hnl
        have hlv : (vs.map fun x => [x]).length = (refL m).length := by simp [hvl]
        have hne : refL m ≠ [] := fun e => by rw [(ref_ne hG).1 e] at hT; cases hT
        have hcm := lo_mem (L := (refL m).map fun l => l.getD k 0) (by simpa using hne) (fun x hx => by
          obtain ⟨l, hl, rfl⟩ := List.mem_map.1 hx
          have h2 := isE_bd hG (hLE l hl)
          have h3 := hLE l hl
          simp only [isE, Bool.and_eq_true, decide_eq_true_eq] at h3
          have h4 : k < l.length := by omega
          have := h2.2 _ (List.getElem_mem h4)
          simpa [List.getD, h4] using this)
        have hhm := lo_mem (L := (refL m).map fun l => hoursR m l n) (by simpa using hne) (fun x hx => by
          obtain ⟨l, hl, rfl⟩ := List.mem_map.1 hx
          exact hoursR_bd hG (hLE l hl) n)
        generalize boundsR ((refL m).map fun l => l.getD k 0) = rc at *
        generalize boundsR ((refL m).map fun l => hoursR m l n) = rh at *
        have hend : ∀ j, j < 4 → endF m k n rc rh (refL m) (refL m).length j = true := fun j hj => endF_all (by
          obtain rfl | rfl | rfl | rfl : j = 0 ∨ j = 1 ∨ j = 2 ∨ j = 3 := by omega
          · obtain ⟨l, hl, e⟩ := List.mem_map.1 hcm.1; exact ⟨l, hl, beq_iff_eq.2 e⟩
          · obtain ⟨l, hl, e⟩ := List.mem_map.1 hcm.2; exact ⟨l, hl, beq_iff_eq.2 e⟩
          · obtain ⟨l, hl, e⟩ := List.mem_map.1 hhm.1; exact ⟨l, hl, beq_iff_eq.2 e⟩
          · obtain ⟨l, hl, e⟩ := List.mem_map.1 hhm.2; exact ⟨l, hl, beq_iff_eq.2 e⟩)
        clear hcm hhm
        refine WPJ.loopT (refL m).length [17, 18, 19, 100, 101, 102, 103, 104, 105, 106, 107, 108, 109, 110, 111, 112, 113, 114, 115, 116, 117, 118, 119, 120, 121, 122, 123, 124, 125, 126, 127, 128, 129, 130, 131, 132, 133, 134, 135, 136, 137, 138, 139, 140, 141, 142, 143, 144, 145, 146, 147, 148, 149, 150, 151, 152, 153, 154, 155, 156, 157, 158, 159, 160, 161, 162, 163, 164, 165] (fun i (y : Int) => [(16, .int .i64 i), (15, .int .i64 y)])
          (fun i y Hx gx => gx = g5 ∧ Ext H5 Hx ∧ y = metE (endF m k n rc rh (refL m) i 0) (endF m k n rc rh (refL m) i 1) (endF m k n rc rh (refL m) i 2) (endF m k n rc rh (refL m) i 3)) 0 0 (Nat.zero_le _) (by intro p hp; simp at hp; rcases hp with rfl | rfl <;> rfl) ⟨rfl, Ext.refl _, rfl⟩ ?_
        rintro i y Hx gx hj ⟨rfl, he, hy⟩ hl0
        have hbx := he.get hb5
        have x6 := x5.trans he
        have hvs1 := hvs.ext he
        have hc1 := hc.ext he
        have hrr1 := hrr.ext he
        simp only [updT, maskT, List.set_cons_zero, List.set_cons_succ]
        rcases Nat.lt_or_ge i (refL m).length with hlt | hge
        · obtain ⟨x, hel, hrx0⟩ := LL.at_ hvl hin hlt
          have hrx := hrx0.ext he
          have hEl := hLE _ (List.getElem_mem hlt)
          have hll : (refL m)[i].length = m.clocks.length := by
            have := hEl
            simp only [isE, Bool.and_eq_true, decide_eq_true_eq] at this
            omega
          have hel2 : (encI (refL m)[i])[(k : Int).toNat]? = some [.int .i64 ((refL m)[i].getD k 0)] := by simp [hll, hkl]
          have hs0 : endF m k n rc rh (refL m) (i + 1) 0 = (endF m k n rc rh (refL m) i 0 || ((refL m)[i].getD k 0 == rc.1)) := endF_step hlt 0
          have hs1 : endF m k n rc rh (refL m) (i + 1) 1 = (endF m k n rc rh (refL m) i 1 || ((refL m)[i].getD k 0 == rc.2)) := endF_step hlt 1
          have hs2 : endF m k n rc rh (refL m) (i + 1) 2 = (endF m k n rc rh (refL m) i 2 || (hoursR m (refL m)[i] n == rh.1)) := endF_step hlt 2
          have hs3 : endF m k n rc rh (refL m) (i + 1) 3 = (endF m k n rc rh (refL m) i 3 || (hoursR m (refL m)[i] n == rh.2)) := endF_step hlt 3
          generalize endF m k n rc rh (refL m) i 0 = b0 at *
          generalize endF m k n rc rh (refL m) i 1 = b1 at *
          generalize endF m k n rc rh (refL m) i 2 = b2 at *
          generalize endF m k n rc rh (refL m) i 3 = b3 at *
          generalize (refL m)[i].getD k 0 = q at *
          repeat' (first
            | (refine is_ucall ?_; first
              | refine st_callP (h := readyW_spec _ _ _ m s1 s2 s3 (hm.ext extA)) (k := ?_)
              | refine st_callP (h := awake_spec _ _ _) (k := ?_)
              | refine st_callP (h := HoursR_spec _ _ _ m s1 s2 s3 x _ _ (hI.ext extA) (hrx.ext extA) hG hEl) (k := ?_)
              | fail)
            | (refine is_umcall ?_; first
              | refine mj_callP (h := readyW_spec _ _ _ m s1 s2 s3 (hm.ext extA)) (k := ?_)
              | refine mj_callP (h := awake_spec _ _ _) (k := ?_)
              | refine mj_callP (h := HoursR_spec _ _ _ m s1 s2 s3 x _ _ (hI.ext extA) (hrx.ext extA) hG hEl) (k := ?_)
              | fail)
            | refine W1 ?_ | refine Wc ?_ | refine W2c ?_ ?_ | refine Wg ?_ | refine W2 ?_ ?_ | exact Wdead | refine Wlive (fun hb => ?_) | intro _ _ _ _ _ _ _ _ | refine We ?_ | refine Wx ?_ | refine Wt ?_ | refine Wm ?_ | refine W2m ?_ ?_ | refine Wl ?_
            | fail)
          refine WPJ.draw 8 mixed (by kernel_rfl) (by kernel_rfl) (by kernel_rfl) (by decide) ?_
          refine MonoJ.normA ?_
          repeat' (first
            | (refine is_ucall ?_; first
              | refine st_callP (h := readyW_spec _ _ _ m s1 s2 s3 (hm.ext extA)) (k := ?_)
              | refine st_callP (h := awake_spec _ _ _) (k := ?_)
              | refine st_callP (h := HoursR_spec _ _ _ m s1 s2 s3 x _ _ (hI.ext extA) (hrx.ext extA) hG hEl) (k := ?_)
              | fail)
            | (refine is_umcall ?_; first
              | refine mj_callP (h := readyW_spec _ _ _ m s1 s2 s3 (hm.ext extA)) (k := ?_)
              | refine mj_callP (h := awake_spec _ _ _) (k := ?_)
              | refine mj_callP (h := HoursR_spec _ _ _ m s1 s2 s3 x _ _ (hI.ext extA) (hrx.ext extA) hG hEl) (k := ?_)
              | fail)
            | refine W1 ?_ | refine Wc ?_ | refine W2c ?_ ?_ | refine Wg ?_ | refine W2 ?_ ?_ | exact Wdead | refine Wlive (fun hb => ?_) | intro _ _ _ _ _ _ _ _ | refine We ?_ | refine Wx ?_ | refine Wt ?_ | refine Wm ?_ | refine W2m ?_ ?_ | refine Wl ?_
            | fail)
          refine WPJ.draw 42 mixed (by kernel_rfl) (by kernel_rfl) (by kernel_rfl) (by decide) ?_
          refine MonoJ.normA ?_
          repeat' (first
            | (refine is_ucall ?_; first
              | refine st_callP (h := readyW_spec _ _ _ m s1 s2 s3 (hm.ext extA)) (k := ?_)
              | refine st_callP (h := awake_spec _ _ _) (k := ?_)
              | refine st_callP (h := HoursR_spec _ _ _ m s1 s2 s3 x _ _ (hI.ext extA) (hrx.ext extA) hG hEl) (k := ?_)
              | fail)
            | (refine is_umcall ?_; first
              | refine mj_callP (h := readyW_spec _ _ _ m s1 s2 s3 (hm.ext extA)) (k := ?_)
              | refine mj_callP (h := awake_spec _ _ _) (k := ?_)
              | refine mj_callP (h := HoursR_spec _ _ _ m s1 s2 s3 x _ _ (hI.ext extA) (hrx.ext extA) hG hEl) (k := ?_)
              | fail)
            | refine W1 ?_ | refine Wc ?_ | refine W2c ?_ ?_ | refine Wg ?_ | refine W2 ?_ ?_ | exact Wdead | refine Wlive (fun hb => ?_) | intro _ _ _ _ _ _ _ _ | refine We ?_ | refine Wx ?_ | refine Wt ?_ | refine Wm ?_ | refine W2m ?_ ?_ | refine Wl ?_
            | fail)
          generalize hoursR m (refL m)[i] n = hh at *
          generalize (q == rc.1) = e0 at *
          generalize (q == rc.2) = e1 at *
          generalize (hh == rh.1) = e2 at *
          generalize (hh == rh.2) = e3 at *
          refine WPJ.loopT 4 [154, 155, 156, 157, 158, 159, 160, 161, 162, 163, 164, 165] (fun j (z : Int) => [(19, .int .i64 j), (15, .int .i64 z)])
            (fun j z Hy gy => gy = gx ∧ Hy = Hx ++ [.row [.bool e0, .bool e1, .bool e2, .bool e3] 1 true] ∧ z = metE (b0 || (e0 && decide (0 < j))) (b1 || (e1 && decide (1 < j))) (b2 || (e2 && decide (2 < j))) (b3 || (e3 && decide (3 < j)))) 0 y (Nat.zero_le _) (by intro p hp; simp at hp; rcases hp with rfl | rfl <;> rfl) ⟨rfl, rfl, by rw [hy]; simp⟩ ?_
          rintro j z Hy gy hj2 ⟨rfl, rfl, hz⟩ hl1
          simp only [updT, maskT, List.set_cons_zero, List.set_cons_succ]
          obtain rfl | rfl | rfl | rfl | rfl : j = 0 ∨ j = 1 ∨ j = 2 ∨ j = 3 ∨ j = 4 := by omega
          · have hwq : 0 ≤ IntKind.u64.wrap ((0 : Nat) : Int) := by decide
            cases e0
            all_goals
              repeat' (first
                | (refine is_ucall ?_; first
                  | refine st_callP (h := readyW_spec _ _ _ m s1 s2 s3 (hm.ext extA)) (k := ?_)
                  | refine st_callP (h := awake_spec _ _ _) (k := ?_)
                  | refine st_callP (h := HoursR_spec _ _ _ m s1 s2 s3 x _ _ (hI.ext extA) (hrx.ext extA) hG hEl) (k := ?_)
                  | fail)
                | (refine is_umcall ?_; first
                  | refine mj_callP (h := readyW_spec _ _ _ m s1 s2 s3 (hm.ext extA)) (k := ?_)
                  | refine mj_callP (h := awake_spec _ _ _) (k := ?_)
                  | refine mj_callP (h := HoursR_spec _ _ _ m s1 s2 s3 x _ _ (hI.ext extA) (hrx.ext extA) hG hEl) (k := ?_)
                  | fail)
                | refine W1 ?_ | refine Wc ?_ | refine W2c ?_ ?_ | refine Wg ?_ | refine W2 ?_ ?_ | exact Wdead | refine Wlive (fun hb => ?_) | intro _ _ _ _ _ _ _ _ | refine We ?_ | refine Wx ?_ | refine Wt ?_ | refine Wm ?_ | refine W2m ?_ ?_ | refine Wl ?_
                | fail)
              exact ⟨_, by omega, (by repeat' (first | exact Weak.nil | refine Weak.wild ?_ | refine Weak.same ?_ | refine Weak.intEq (by first | omega | (simp; done) | (push_cast; omega)) ?_)), rfl, rfl, by rw [hz]; clear hs0 hs1 hs2 hs3 hz hy hl1; revert b0 b1 b2 b3 e1 e2 e3; decide +kernel⟩
          · have hwq : 0 ≤ IntKind.u64.wrap ((1 : Nat) : Int) := by decide
            cases e1
            all_goals
              repeat' (first
                | (refine is_ucall ?_; first
                  | refine st_callP (h := readyW_spec _ _ _ m s1 s2 s3 (hm.ext extA)) (k := ?_)
                  | refine st_callP (h := awake_spec _ _ _) (k := ?_)
                  | refine st_callP (h := HoursR_spec _ _ _ m s1 s2 s3 x _ _ (hI.ext extA) (hrx.ext extA) hG hEl) (k := ?_)
                  | fail)
                | (refine is_umcall ?_; first
                  | refine mj_callP (h := readyW_spec _ _ _ m s1 s2 s3 (hm.ext extA)) (k := ?_)
                  | refine mj_callP (h := awake_spec _ _ _) (k := ?_)
                  | refine mj_callP (h := HoursR_spec _ _ _ m s1 s2 s3 x _ _ (hI.ext extA) (hrx.ext extA) hG hEl) (k := ?_)
                  | fail)
                | refine W1 ?_ | refine Wc ?_ | refine W2c ?_ ?_ | refine Wg ?_ | refine W2 ?_ ?_ | exact Wdead | refine Wlive (fun hb => ?_) | intro _ _ _ _ _ _ _ _ | refine We ?_ | refine Wx ?_ | refine Wt ?_ | refine Wm ?_ | refine W2m ?_ ?_ | refine Wl ?_
                | fail)
              exact ⟨_, by omega, (by repeat' (first | exact Weak.nil | refine Weak.wild ?_ | refine Weak.same ?_ | refine Weak.intEq (by first | omega | (simp; done) | (push_cast; omega)) ?_)), rfl, rfl, by rw [hz]; clear hs0 hs1 hs2 hs3 hz hy hl1; revert b0 b1 b2 b3 e0 e2 e3; decide +kernel⟩
          · have hwq : 0 ≤ IntKind.u64.wrap ((2 : Nat) : Int) := by decide
            cases e2
            all_goals
              repeat' (first
                | (refine is_ucall ?_; first
                  | refine st_callP (h := readyW_spec _ _ _ m s1 s2 s3 (hm.ext extA)) (k := ?_)
                  | refine st_callP (h := awake_spec _ _ _) (k := ?_)
                  | refine st_callP (h := HoursR_spec _ _ _ m s1 s2 s3 x _ _ (hI.ext extA) (hrx.ext extA) hG hEl) (k := ?_)
                  | fail)
                | (refine is_umcall ?_; first
                  | refine mj_callP (h := readyW_spec _ _ _ m s1 s2 s3 (hm.ext extA)) (k := ?_)
                  | refine mj_callP (h := awake_spec _ _ _) (k := ?_)
                  | refine mj_callP (h := HoursR_spec _ _ _ m s1 s2 s3 x _ _ (hI.ext extA) (hrx.ext extA) hG hEl) (k := ?_)
                  | fail)
                | refine W1 ?_ | refine Wc ?_ | refine W2c ?_ ?_ | refine Wg ?_ | refine W2 ?_ ?_ | exact Wdead | refine Wlive (fun hb => ?_) | intro _ _ _ _ _ _ _ _ | refine We ?_ | refine Wx ?_ | refine Wt ?_ | refine Wm ?_ | refine W2m ?_ ?_ | refine Wl ?_
                | fail)
              exact ⟨_, by omega, (by repeat' (first | exact Weak.nil | refine Weak.wild ?_ | refine Weak.same ?_ | refine Weak.intEq (by first | omega | (simp; done) | (push_cast; omega)) ?_)), rfl, rfl, by rw [hz]; clear hs0 hs1 hs2 hs3 hz hy hl1; revert b0 b1 b2 b3 e0 e1 e3; decide +kernel⟩
          · have hwq : 0 ≤ IntKind.u64.wrap ((3 : Nat) : Int) := by decide
            cases e3
            all_goals
              repeat' (first
                | (refine is_ucall ?_; first
                  | refine st_callP (h := readyW_spec _ _ _ m s1 s2 s3 (hm.ext extA)) (k := ?_)
                  | refine st_callP (h := awake_spec _ _ _) (k := ?_)
                  | refine st_callP (h := HoursR_spec _ _ _ m s1 s2 s3 x _ _ (hI.ext extA) (hrx.ext extA) hG hEl) (k := ?_)
                  | fail)
                | (refine is_umcall ?_; first
                  | refine mj_callP (h := readyW_spec _ _ _ m s1 s2 s3 (hm.ext extA)) (k := ?_)
                  | refine mj_callP (h := awake_spec _ _ _) (k := ?_)
                  | refine mj_callP (h := HoursR_spec _ _ _ m s1 s2 s3 x _ _ (hI.ext extA) (hrx.ext extA) hG hEl) (k := ?_)
                  | fail)
                | refine W1 ?_ | refine Wc ?_ | refine W2c ?_ ?_ | refine Wg ?_ | refine W2 ?_ ?_ | exact Wdead | refine Wlive (fun hb => ?_) | intro _ _ _ _ _ _ _ _ | refine We ?_ | refine Wx ?_ | refine Wt ?_ | refine Wm ?_ | refine W2m ?_ ?_ | refine Wl ?_
                | fail)
              exact ⟨_, by omega, (by repeat' (first | exact Weak.nil | refine Weak.wild ?_ | refine Weak.same ?_ | refine Weak.intEq (by first | omega | (simp; done) | (push_cast; omega)) ?_)), rfl, rfl, by rw [hz]; clear hs0 hs1 hs2 hs3 hz hy hl1; revert b0 b1 b2 b3 e0 e1 e2; decide +kernel⟩
          · skip
            repeat' (first
              | (refine is_ucall ?_; first
                | refine st_callP (h := readyW_spec _ _ _ m s1 s2 s3 (hm.ext extA)) (k := ?_)
                | refine st_callP (h := awake_spec _ _ _) (k := ?_)
                | refine st_callP (h := HoursR_spec _ _ _ m s1 s2 s3 x _ _ (hI.ext extA) (hrx.ext extA) hG hEl) (k := ?_)
                | fail)
              | (refine is_umcall ?_; first
                | refine mj_callP (h := readyW_spec _ _ _ m s1 s2 s3 (hm.ext extA)) (k := ?_)
                | refine mj_callP (h := awake_spec _ _ _) (k := ?_)
                | refine mj_callP (h := HoursR_spec _ _ _ m s1 s2 s3 x _ _ (hI.ext extA) (hrx.ext extA) hG hEl) (k := ?_)
                | fail)
              | refine W1 ?_ | refine Wc ?_ | refine W2c ?_ ?_ | refine Wg ?_ | refine W2 ?_ ?_ | exact Wdead | refine Wlive (fun hb => ?_) | intro _ _ _ _ _ _ _ _ | refine We ?_ | refine Wx ?_ | refine Wt ?_ | refine Wm ?_ | refine W2m ?_ ?_ | refine Wl ?_
              | fail)
            exact ⟨_, hlt, (by repeat' (first | exact Weak.nil | refine Weak.wild ?_ | refine Weak.same ?_ | refine Weak.intEq (by first | omega | (simp; done) | (push_cast; omega)) ?_)), rfl, he.app _, by rw [hz, hs0, hs1, hs2, hs3]; simp⟩
        · obtain rfl : i = (refL m).length := by omega
          rw [hend 0 (by decide), hend 1 (by decide), hend 2 (by decide), hend 3 (by decide)] at hy
          have hy15 : y = 15 := hy
          subst hy15
          repeat' (first
            | (refine is_ucall ?_; first
              | refine st_callP (h := readyW_spec _ _ _ m s1 s2 s3 (hm.ext extA)) (k := ?_)
              | refine st_callP (h := awake_spec _ _ _) (k := ?_)
              | refine st_callP (h := HoursR_spec _ _ _ m s1 s2 s3 x _ _ (hI.ext extA) (hrx.ext extA) hG hEl) (k := ?_)
              | fail)
            | (refine is_umcall ?_; first
              | refine mj_callP (h := readyW_spec _ _ _ m s1 s2 s3 (hm.ext extA)) (k := ?_)
              | refine mj_callP (h := awake_spec _ _ _) (k := ?_)
              | refine mj_callP (h := HoursR_spec _ _ _ m s1 s2 s3 x _ _ (hI.ext extA) (hrx.ext extA) hG hEl) (k := ?_)
              | fail)
            | refine W1 ?_ | refine Wc ?_ | refine W2c ?_ ?_ | refine Wg ?_ | refine W2 ?_ ?_ | exact Wdead | refine Wlive (fun hb => ?_) | intro _ _ _ _ _ _ _ _ | refine We ?_ | refine Wx ?_ | refine Wt ?_ | refine Wm ?_ | refine W2m ?_ ?_ | refine Wl ?_
            | fail)
          exact ⟨rfl, rfl, rfl⟩
      | false =>
        have hT1 : checkT m = 11 := by unfold checkT; rw [if_pos hr.2, hT]; rfl
        repeat' (first
          | (refine is_ucall ?_; first
            | refine st_callP (h := readyW_spec _ _ _ m s1 s2 s3 (hm.ext extA)) (k := ?_)
            | refine st_callP (h := awake_spec _ _ _) (k := ?_)
            | refine st_callP (h := HoursR_spec _ _ _ m s1 s2 s3 x _ _ (hI.ext extA) (hrx.ext extA) hG hEl) (k := ?_)
            | fail)
          | (refine is_umcall ?_; first
            | refine mj_callP (h := readyW_spec _ _ _ m s1 s2 s3 (hm.ext extA)) (k := ?_)
            | refine mj_callP (h := awake_spec _ _ _) (k := ?_)
            | refine mj_callP (h := HoursR_spec _ _ _ m s1 s2 s3 x _ _ (hI.ext extA) (hrx.ext extA) hG hEl) (k := ?_)
            | fail)
          | refine W1 ?_ | refine Wc ?_ | refine W2c ?_ ?_ | refine Wg ?_ | refine W2 ?_ ?_ | exact Wdead | refine Wlive (fun hb => ?_) | intro _ _ _ _ _ _ _ _ | refine We ?_ | refine Wx ?_ | refine Wt ?_ | refine Wm ?_ | refine W2m ?_ ?_ | refine Wl ?_
          | fail)
        refine st_call rfl (House_w E _ _ m s1 s2 s3 (hI.ext x0) hr.1) ?_
        rintro _ H1 g1 ⟨⟨t1, t2, t3, rfl, hmh, e1⟩, rfl⟩
        have x1 : Ext H H1 := x0.trans e1
        have hb1 := e1.get hb0
        refine OpsJ.normA ?_
        repeat' (first
          | (refine is_ucall ?_; first
            | refine st_callP (h := readyW_spec _ _ _ m s1 s2 s3 (hm.ext extA)) (k := ?_)
            | refine st_callP (h := awake_spec _ _ _) (k := ?_)
            | refine st_callP (h := HoursR_spec _ _ _ m s1 s2 s3 x _ _ (hI.ext extA) (hrx.ext extA) hG hEl) (k := ?_)
            | fail)
          | (refine is_umcall ?_; first
            | refine mj_callP (h := readyW_spec _ _ _ m s1 s2 s3 (hm.ext extA)) (k := ?_)
            | refine mj_callP (h := awake_spec _ _ _) (k := ?_)
            | refine mj_callP (h := HoursR_spec _ _ _ m s1 s2 s3 x _ _ (hI.ext extA) (hrx.ext extA) hG hEl) (k := ?_)
            | fail)
          | refine W1 ?_ | refine Wc ?_ | refine W2c ?_ ?_ | refine Wg ?_ | refine W2 ?_ ?_ | exact Wdead | refine Wlive (fun hb => ?_) | intro _ _ _ _ _ _ _ _ | refine We ?_ | refine Wx ?_ | refine Wt ?_ | refine Wm ?_ | refine W2m ?_ ?_ | refine Wl ?_
          | fail)
        refine st_call rfl (ClocksE E _ _ m t1 t2 t3 11 hT1 (by decide) (hmh.ext extA)) ?_
        rintro _ H2 g2 ⟨⟨rfl, e2⟩, rfl⟩
        have x2 : Ext H H2 := x1.trans e2
        have hb2 := e2.get hb1
        refine OpsJ.normA ?_
        repeat' (first
          | (refine is_ucall ?_; first
            | refine st_callP (h := readyW_spec _ _ _ m s1 s2 s3 (hm.ext extA)) (k := ?_)
            | refine st_callP (h := awake_spec _ _ _) (k := ?_)
            | refine st_callP (h := HoursR_spec _ _ _ m s1 s2 s3 x _ _ (hI.ext extA) (hrx.ext extA) hG hEl) (k := ?_)
            | fail)
          | (refine is_umcall ?_; first
            | refine mj_callP (h := readyW_spec _ _ _ m s1 s2 s3 (hm.ext extA)) (k := ?_)
            | refine mj_callP (h := awake_spec _ _ _) (k := ?_)
            | refine mj_callP (h := HoursR_spec _ _ _ m s1 s2 s3 x _ _ (hI.ext extA) (hrx.ext extA) hG hEl) (k := ?_)
            | fail)
          | refine W1 ?_ | refine Wc ?_ | refine W2c ?_ ?_ | refine Wg ?_ | refine W2 ?_ ?_ | exact Wdead | refine Wlive (fun hb => ?_) | intro _ _ _ _ _ _ _ _ | refine We ?_ | refine Wx ?_ | refine Wt ?_ | refine Wm ?_ | refine W2m ?_ ?_ | refine Wl ?_
          | fail)
        refine st_call rfl (House_w E _ _ m s1 s2 s3 (hI.ext x2) hr.1) ?_
        rintro _ H3 g3 ⟨⟨t1, t2, t3, rfl, hmh, e3⟩, rfl⟩
        have x3 : Ext H H3 := x2.trans e3
        have hb3 := e3.get hb2
        refine OpsJ.normA ?_
        repeat' (first
          | (refine is_ucall ?_; first
            | refine st_callP (h := readyW_spec _ _ _ m s1 s2 s3 (hm.ext extA)) (k := ?_)
            | refine st_callP (h := awake_spec _ _ _) (k := ?_)
            | refine st_callP (h := HoursR_spec _ _ _ m s1 s2 s3 x _ _ (hI.ext extA) (hrx.ext extA) hG hEl) (k := ?_)
            | fail)
          | (refine is_umcall ?_; first
            | refine mj_callP (h := readyW_spec _ _ _ m s1 s2 s3 (hm.ext extA)) (k := ?_)
            | refine mj_callP (h := awake_spec _ _ _) (k := ?_)
            | refine mj_callP (h := HoursR_spec _ _ _ m s1 s2 s3 x _ _ (hI.ext extA) (hrx.ext extA) hG hEl) (k := ?_)
            | fail)
          | refine W1 ?_ | refine Wc ?_ | refine W2c ?_ ?_ | refine Wg ?_ | refine W2 ?_ ?_ | exact Wdead | refine Wlive (fun hb => ?_) | intro _ _ _ _ _ _ _ _ | refine We ?_ | refine Wx ?_ | refine Wt ?_ | refine Wm ?_ | refine W2m ?_ ?_ | refine Wl ?_
          | fail)
        refine st_call rfl (HoursE E _ _ m t1 t2 t3 11 hT1 (by decide) (hmh.ext extA)) ?_
        rintro _ H4 g4 ⟨⟨rfl, e4⟩, rfl⟩
        have x4 : Ext H H4 := x3.trans e4
        have hb4 := e4.get hb3
        refine OpsJ.normA ?_
        repeat' (first
          | (refine is_ucall ?_; first
            | refine st_callP (h := readyW_spec _ _ _ m s1 s2 s3 (hm.ext extA)) (k := ?_)
            | refine st_callP (h := awake_spec _ _ _) (k := ?_)
            | refine st_callP (h := HoursR_spec _ _ _ m s1 s2 s3 x _ _ (hI.ext extA) (hrx.ext extA) hG hEl) (k := ?_)
            | fail)
          | (refine is_umcall ?_; first
            | refine mj_callP (h := readyW_spec _ _ _ m s1 s2 s3 (hm.ext extA)) (k := ?_)
            | refine mj_callP (h := awake_spec _ _ _) (k := ?_)
            | refine mj_callP (h := HoursR_spec _ _ _ m s1 s2 s3 x _ _ (hI.ext extA) (hrx.ext extA) hG hEl) (k := ?_)
            | fail)
          | refine W1 ?_ | refine Wc ?_ | refine W2c ?_ ?_ | refine Wg ?_ | refine W2 ?_ ?_ | exact Wdead | refine Wlive (fun hb => ?_) | intro _ _ _ _ _ _ _ _ | refine We ?_ | refine Wx ?_ | refine Wt ?_ | refine Wm ?_ | refine W2m ?_ ?_ | refine Wl ?_
          | fail)
        refine st_call rfl (sureN E _ _ m s1 s2 s3 11 hT1 (by decide) (hI.ext x4)) ?_
        rintro _ H5 g5 ⟨⟨rfl, e5⟩, rfl⟩
        have x5 : Ext H H5 := x4.trans e5
        have hb5 := e5.get hb4
        refine OpsJ.normA ?_
        repeat' (first
          | (refine is_ucall ?_; first
            | refine st_callP (h := readyW_spec _ _ _ m s1 s2 s3 (hm.ext extA)) (k := ?_)
            | refine st_callP (h := awake_spec _ _ _) (k := ?_)
            | refine st_callP (h := HoursR_spec _ _ _ m s1 s2 s3 x _ _ (hI.ext extA) (hrx.ext extA) hG hEl) (k := ?_)
            | fail)
          | (refine is_umcall ?_; first
            | refine mj_callP (h := readyW_spec _ _ _ m s1 s2 s3 (hm.ext extA)) (k := ?_)
            | refine mj_callP (h := awake_spec _ _ _) (k := ?_)
            | refine mj_callP (h := HoursR_spec _ _ _ m s1 s2 s3 x _ _ (hI.ext extA) (hrx.ext extA) hG hEl) (k := ?_)
            | fail)
          | refine W1 ?_ | refine Wc ?_ | refine W2c ?_ ?_ | refine Wg ?_ | refine W2 ?_ ?_ | exact Wdead | refine Wlive (fun hb => ?_) | intro _ _ _ _ _ _ _ _ | refine We ?_ | refine Wx ?_ | refine Wt ?_ | refine Wm ?_ | refine W2m ?_ ?_ | refine Wl ?_
          | fail)
        all_goals exact ⟨rfl, rfl, rfl⟩
    · exact ⟨rfl, rfl, rfl⟩
  · exact ⟨rfl, rfl, rfl⟩
end
end Go.Proofs.Ytehobnpoeodhkaa
