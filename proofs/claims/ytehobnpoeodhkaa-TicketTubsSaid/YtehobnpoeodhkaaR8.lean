import Derived.Test.YtehobnpoeodhkaaR7
namespace Go.Proofs.Ytehobnpoeodhkaa
open Go Go.Abs Go.Proofs
set_option maxHeartbeats 800000
attribute [local irreducible] CallJ OpsJ WPJ CallV MonoJ SpecJ

theorem ref_isE {m : HouseM} (hG : Good m) : ∀ l ∈ refL m, isE m l = true := fun l hl => ((mem_ref hG l).1 hl).1
theorem long_pad {m : HouseM} {l : List Int} (hG : Good m) (h : isE m l = true) {t : Nat} (ht : t < m.tickets.length) : longQ m t (padL m l) = longR m l t := by
  unfold longQ longR
  rw [hours_pad hG h ht]
theorem clash_pad {m : HouseM} {l : List Int} (hG : Good m) (h : isE m l = true) {a b : Nat} (ha : a < m.tickets.length) (hb : b < m.tickets.length) : clashQ m a b (padL m l) = doClashR m l a b := by
  unfold clashQ doClashR
  rw [show ((a : Int)).toNat = a by omega, show ((b : Int)).toNat = b by omega, stay_eq hG _ ha, stay_eq hG _ hb]
  generalize m.tickets[a]?.getD (0, 0) = ta
  generalize m.tickets[b]?.getD (0, 0) = tb
  unfold beforeR
  by_cases htt : ta.1 = tb.1
  · rcases of_true hG h (a : Int) with ⟨_, e⟩ | ⟨_, x, _, _, e, hx, _, _, hxt, hxb⟩ | ⟨_, _, x, x2, _, _, _, e, ⟨hx, _, _, hxt, hxb⟩, hx2, _, _, hxt2, hxb2⟩
    all_goals rcases of_true hG h (b : Int) with ⟨_, f⟩ | ⟨_, y, _, _, f, hy, _, _, hyt, hyb⟩ | ⟨_, _, y, y2, _, _, _, f, ⟨hy, _, _, hyt, hyb⟩, hy2, _, _, hyt2, hyb2⟩
    all_goals rw [e, f]
    all_goals simp only [clashP, stay1, stay0, List.foldl_cons, List.foldl_nil, List.isEmpty_nil, List.isEmpty_cons]
    all_goals try rw [true_pad hG h (List.mem_of_getElem? hx)]
    all_goals try rw [true_pad hG h (List.mem_of_getElem? hy)]
    all_goals try rw [true_pad hG h (List.mem_of_getElem? hx2)]
    all_goals try rw [true_pad hG h (List.mem_of_getElem? hy2)]
    all_goals simp [htt]
    all_goals omega
  · simp [clashP, htt]
theorem paid_pad {m : HouseM} {l : List Int} (hG : Good m) (h : isE m l = true) : paidS (wm m (padL m l)) m.tickets.length = paidR m l m.tickets.length := by
  rw [Bool.eq_iff_iff, paid_iff hG.n2]
  unfold paidR paidRowR
  simp only [List.all_eq_true, List.mem_range, Bool.and_eq_true, Bool.not_eq_true']
  constructor
  · intro k n hn
    have := k n hn
    rw [long_pad hG h hn] at this
    exact ⟨this.1, fun e he => by rw [← clash_pad hG h hn (show e < m.tickets.length by omega)]; exact this.2 e he⟩
  · intro k n hn
    have := k n hn
    rw [long_pad hG h hn]
    exact ⟨this.1, fun e he => by rw [clash_pad hG h hn (show e < m.tickets.length by omega)]; exact this.2 e he⟩
theorem long_at {m : HouseM} (hT : checkT m = 0) {j : Nat} (hj : j < m.tickets.length) : (encI (longS m))[(j : Int).toNat]? = some [.int .i64 (verdictR (yesR (refL m) fun l => longR m l j) (refL m).length)] := by
  obtain ⟨hS, hT2⟩ := sure_zero hT
  have hG := good_of hS
  rw [← verdict_eq hG hT2 (p := longQ m j) (fun l hl => long_pad hG (ref_isE hG l hl) hj)]
  simp [encI, longS, hj]
theorem paid_eq {m : HouseM} (hT : checkT m = 0) : paidV m = verdictR (yesR (refL m) fun l => paidR m l m.tickets.length) (refL m).length := by
  obtain ⟨hS, hT2⟩ := sure_zero hT
  have hG := good_of hS
  exact verdict_eq hG hT2 (fun l hl => paid_pad hG (ref_isE hG l hl))
theorem clash_eq {m : HouseM} (hT : checkT m = 0) {a b : Nat} (ha : a < m.tickets.length) (hb : b < m.tickets.length) : verdictS (truthsL m) (clashQ m a b) = verdictR (yesR (refL m) fun l => doClashR m l a b) (refL m).length := by
  obtain ⟨hS, hT2⟩ := sure_zero hT
  have hG := good_of hS
  exact verdict_eq hG hT2 (fun l hl => clash_pad hG (ref_isE hG l hl) ha hb)
section
variable {γ : Type} (E : Env γ) (g : γ) (H : AHeap)
theorem PaidP (m : HouseM) (s1 s2 s3 : Value) (p : Int) (hT : checkT m = 0) (hp : paidV m = p) (hm : HouseIs H m s1 s2 s3) : CallJ Try.prog E 41 [hv m s1 s2 s3] (fun v H' g' => v = .tuple #[.int .i64 p, .int .i64 0] ∧ H' = H ∧ g' = g) H g := by
  rw [← hp]; exact PaidT_spec E g H m s1 s2 s3 hT hm
theorem PaidE (m : HouseM) (s1 s2 s3 : Value) (e : Int) (he : checkT m = e) (h0 : e ≠ 0) (hm : HouseIs H m s1 s2 s3) : CallJ Try.prog E 41 [hv m s1 s2 s3] (fun v H' g' => v = .tuple #[.int .i64 0, .int .i64 e] ∧ H' = H ∧ g' = g) H g :=
  (Paid_spec E g H m s1 s2 s3 hm).mono (by rintro v H' g' ⟨rfl, rfl, rfl⟩; rw [if_neg (by omega), he]; exact ⟨rfl, rfl, rfl⟩)
theorem PaidRP (m : HouseM) (s1 s2 s3 lv : Value) (p : Int) (hT : checkT m = 0) (hp : paidV m = p) (hm : HouseIs H m s1 s2 s3) (hL : LL H lv (refL m)) : CallJ Try.prog E 42 [hv m s1 s2 s3, lv] (fun v H' g' => v = .int .i64 p ∧ H' = H ∧ g' = g) H g := by
  have hG := good_of (sure_zero hT).1
  rw [← hp, paid_eq hT]
  exact PaidR_spec E g H m s1 s2 s3 lv (refL m) hm hL hG (by have := refL_len m; omega) (ref_isE hG)
end
end Go.Proofs.Ytehobnpoeodhkaa
