import Derived.Test.YtehobnpoeodhkaaR4
namespace Go.Proofs.Ytehobnpoeodhkaa
open Go Go.Abs Go.Proofs
set_option maxHeartbeats 1600000
attribute [local irreducible] CallJ OpsJ WPJ CallV MonoJ SpecJ

def longR (m : HouseM) (l : List Int) (t : Nat) : Bool := decide (hoursR m l t > (m.tickets[t]?.getD (0, 0)).2)
def beforeR (m : HouseM) (l : List Int) (a b : Int) : Bool := match clipsT m a, clipsT m b with
  | x :: _, _ :: y :: _ => decide (trueM l x < trueM l y)
  | _, _ => true
def doClashR (m : HouseM) (l : List Int) (a b : Nat) : Bool := (decide ((m.tickets[a]?.getD (0, 0)).1 = (m.tickets[b]?.getD (0, 0)).1) && !(clipsT m a).isEmpty && !(clipsT m b).isEmpty) && (beforeR m l a b && beforeR m l b a)
def paidRowR (m : HouseM) (l : List Int) (a k : Nat) : Bool := (List.range k).all fun b => !doClashR m l a b
def paidR (m : HouseM) (l : List Int) (k : Nat) : Bool := (List.range k).all fun a => !longR m l a && paidRowR m l a a
theorem of_true {m : HouseM} {l : List Int} (hG : Good m) (hE : isE m l = true) (t : Int) : (ofS m t = [] ∧ clipsT m t = []) ∨
    (∃ (k : Nat) (a : ClipM) (x : Int), ofS m t = [(k : Int)] ∧ clipsT m t = [a] ∧ m.clips[k]? = some a ∧ 0 ≤ a.clock ∧ l[a.clock.toNat]? = some x ∧ trueM l a = a.minute - x ∧ (-1000000 ≤ a.minute ∧ a.minute ≤ 1000000 ∧ -1000000 ≤ x ∧ x ≤ 1000000)) ∨
    ∃ (k k2 : Nat) (a b : ClipM) (x y : Int), ofS m t = [(k : Int), (k2 : Int)] ∧ clipsT m t = [a, b] ∧ (m.clips[k]? = some a ∧ 0 ≤ a.clock ∧ l[a.clock.toNat]? = some x ∧ trueM l a = a.minute - x ∧ (-1000000 ≤ a.minute ∧ a.minute ≤ 1000000 ∧ -1000000 ≤ x ∧ x ≤ 1000000)) ∧
      m.clips[k2]? = some b ∧ 0 ≤ b.clock ∧ l[b.clock.toNat]? = some y ∧ trueM l b = b.minute - y ∧ (-1000000 ≤ b.minute ∧ b.minute ≤ 1000000 ∧ -1000000 ≤ y ∧ y ≤ 1000000) := by
  rcases of_cases hG t with h | ⟨k, a, h1, h2, h3⟩ | ⟨k, k2, a, b, h1, h2, h3, h4⟩
  · exact .inl h
  · obtain ⟨x, h5⟩ := true_at hG hE h3
    exact .inr (.inl ⟨k, a, x, h1, h2, h3, h5⟩)
  · obtain ⟨x, h5⟩ := true_at hG hE h3
    obtain ⟨y, h6⟩ := true_at hG hE h4
    exact .inr (.inr ⟨k, k2, a, b, x, y, h1, h2, ⟨h3, h5⟩, h4, h6⟩)
section
variable {γ : Type} (E : Env γ) (g : γ) (H : AHeap)
theorem Of0 (m : HouseM) (s1 s2 s3 : Value) (t : Int) (h : ofS m t = []) (hm : HouseIs H m s1 s2 s3) : CallJ Try.prog E 108 [hv m s1 s2 s3, .int .i64 t] (fun v H' g' => v = .slice none 0 0 ∧ H' = H ∧ g' = g) H g :=
  (Of_spec E g H m s1 s2 s3 t hm).mono (by rintro v H' g' ⟨rfl, rfl, rfl⟩; rw [h]; exact ⟨rfl, by simp [slH], rfl⟩)
theorem Of1 (m : HouseM) (s1 s2 s3 : Value) (t k : Int) (h : ofS m t = [k]) (hm : HouseIs H m s1 s2 s3) : CallJ Try.prog E 108 [hv m s1 s2 s3, .int .i64 t] (fun v H' g' => v = .slice (some ⟨H.length, 0, none⟩) 1 1 ∧ H' = H ++ [.row [.int .i64 k] 1 true] ∧ g' = g) H g :=
  (Of_spec E g H m s1 s2 s3 t hm).mono (by rintro v H' g' ⟨rfl, rfl, rfl⟩; rw [h]; exact ⟨rfl, rfl, rfl⟩)
theorem Of2 (m : HouseM) (s1 s2 s3 : Value) (t k0 k1 : Int) (h : ofS m t = [k0, k1]) (hm : HouseIs H m s1 s2 s3) : CallJ Try.prog E 108 [hv m s1 s2 s3, .int .i64 t] (fun v H' g' => v = .slice (some ⟨H.length, 0, none⟩) 2 2 ∧ H' = H ++ [.row [.int .i64 k0, .int .i64 k1] 1 true] ∧ g' = g) H g :=
  (Of_spec E g H m s1 s2 s3 t hm).mono (by rintro v H' g' ⟨rfl, rfl, rfl⟩; rw [h]; exact ⟨rfl, rfl, rfl⟩)
theorem IsLong_spec (m : HouseM) (s1 s2 s3 lv : Value) (l : List Int) (t : Nat) (hm : HouseIs H m s1 s2 s3) (hr : RdS H lv 1 (encI l)) (hG : Good m) (hE : isE m l = true) (ht : t < m.tickets.length) :
    CallJ Try.prog E 67 [hv m s1 s2 s3, lv, .int .i64 t] (fun v H' g' => v = .bool (longR m l t) ∧ H' = H ∧ g' = g) H g := by
  have hok := hm.cells
  have hst := hm.tickets
  have hel : (m.tickets.map encR)[(t : Int).toNat]? = some (encR m.tickets[t]) := by simp [ht]
  have hte : (m.tickets[t]?.getD (0, 0)) = m.tickets[t] := by simp [ht]
  unfold longR
  rw [hte]
  refine CallJ.tidy ?_
  unfold hv
  refine CallJ.enter Try.func67 rfl (by simp only [Try.ntmps67, List.length_cons, List.length_nil, Nat.zero_add, Nat.reduceAdd, Nat.reduceSub, List.replicate_succ, List.replicate_zero, List.cons_append, List.nil_append]; rfl) ?_
  repeat' (first
    | (refine is_ucall ?_; first
      | refine st_callP (h := HoursR_spec _ _ _ m s1 s2 s3 lv l _ (hm.ext extA) (hr.ext extA) hG hE) (k := ?_)
      | fail)
    | (refine is_umcall ?_; first
      | refine mj_callP (h := HoursR_spec _ _ _ m s1 s2 s3 lv l _ (hm.ext extA) (hr.ext extA) hG hE) (k := ?_)
      | fail)
    | refine W1 ?_ | refine Wc ?_ | refine W2c ?_ ?_ | refine Wg ?_ | refine W2 ?_ ?_ | exact Wdead | refine Wlive (fun hb => ?_) | intro _ _ _ _ _ _ _ _ | refine We ?_ | refine Wx ?_ | refine Wt ?_ | refine Wm ?_ | refine W2m ?_ ?_ | refine Wl ?_
    | fail)
  refine WPJ.draw 12 mixed (by kernel_rfl) (by kernel_rfl) (by kernel_rfl) (by decide) ?_
  refine MonoJ.normA ?_
  repeat' (first
    | (refine is_ucall ?_; first
      | refine st_callP (h := HoursR_spec _ _ _ m s1 s2 s3 lv l _ (hm.ext extA) (hr.ext extA) hG hE) (k := ?_)
      | fail)
    | (refine is_umcall ?_; first
      | refine mj_callP (h := HoursR_spec _ _ _ m s1 s2 s3 lv l _ (hm.ext extA) (hr.ext extA) hG hE) (k := ?_)
      | fail)
    | refine W1 ?_ | refine Wc ?_ | refine W2c ?_ ?_ | refine Wg ?_ | refine W2 ?_ ?_ | exact Wdead | refine Wlive (fun hb => ?_) | intro _ _ _ _ _ _ _ _ | refine We ?_ | refine Wx ?_ | refine Wt ?_ | refine Wm ?_ | refine W2m ?_ ?_ | refine Wl ?_
    | fail)
  exact ⟨rfl, rfl, rfl⟩
theorem CameBefore_spec (m : HouseM) (s1 s2 s3 lv : Value) (l : List Int) (a b : Int) (hm : HouseIs H m s1 s2 s3) (hr : RdS H lv 1 (encI l)) (hG : Good m) (hE : isE m l = true) (hne : clipsT m a ≠ []) :
    CallJ Try.prog E 118 [hv m s1 s2 s3, lv, .int .i64 a, .int .i64 b] (fun v H' g' => v = .bool (beforeR m l a b) ∧ H' = H ∧ g' = g) H g := by
  have hok := hm.cells
  unfold beforeR
  refine CallJ.tidy ?_
  unfold hv
  rcases of_true hG hE a with ⟨_, e⟩ | ⟨ka, xa, x0, ea, e2, hci, hci0, hcix, hcit, hcib⟩ | ⟨ka, ka2, xa, ya, x0, _, ea, e2, ⟨hci, hci0, hcix, hcit, hcib⟩, _⟩
  · exact absurd e hne
  all_goals rcases of_true hG hE b with ⟨eb, f2⟩ | ⟨kb, xb, _, eb, f2, _⟩ | ⟨kb, kb2, xb, yb, _, y0, eb, f2, _, hck, hck0, hckx, hckt, hckb⟩
  all_goals rw [e2, f2]
  all_goals
    refine CallJ.enter Try.func118 rfl (by simp only [Try.ntmps118, List.length_cons, List.length_nil, Nat.zero_add, Nat.reduceAdd, Nat.reduceSub, List.replicate_succ, List.replicate_zero, List.cons_append, List.nil_append]; rfl) ?_
    repeat' (first
      | (refine is_ucall ?_; first
        | refine st_callP (h := True_spec _ _ _ m s1 s2 s3 lv l _ _ _ (hm.ext extA) (hr.ext extA) hci hci0 hcix hcib) (k := ?_)
        | refine st_callP (h := True_spec _ _ _ m s1 s2 s3 lv l _ _ _ (hm.ext extA) (hr.ext extA) hck hck0 hckx hckb) (k := ?_)
        | refine st_callP (h := Of0 _ _ _ m s1 s2 s3 _ eb (hm.ext extA)) (k := ?_)
        | refine st_callL (h := Of1 _ _ _ m s1 s2 s3 _ _ ea (hm.ext extA)) (k := ?_)
        | refine st_callL (h := Of2 _ _ _ m s1 s2 s3 _ _ _ ea (hm.ext extA)) (k := ?_)
        | refine st_callL (h := Of1 _ _ _ m s1 s2 s3 _ _ eb (hm.ext extA)) (k := ?_)
        | refine st_callL (h := Of2 _ _ _ m s1 s2 s3 _ _ _ eb (hm.ext extA)) (k := ?_)
        | fail)
      | (refine is_umcall ?_; first
        | refine mj_callL (h := Of1 _ _ _ m s1 s2 s3 _ _ ea (hm.ext extA)) (k := ?_)
        | refine mj_callL (h := Of2 _ _ _ m s1 s2 s3 _ _ _ ea (hm.ext extA)) (k := ?_)
        | refine mj_callL (h := Of1 _ _ _ m s1 s2 s3 _ _ eb (hm.ext extA)) (k := ?_)
        | refine mj_callL (h := Of2 _ _ _ m s1 s2 s3 _ _ _ eb (hm.ext extA)) (k := ?_)
        | refine mj_callP (h := True_spec _ _ _ m s1 s2 s3 lv l _ _ _ (hm.ext extA) (hr.ext extA) hci hci0 hcix hcib) (k := ?_)
        | refine mj_callP (h := True_spec _ _ _ m s1 s2 s3 lv l _ _ _ (hm.ext extA) (hr.ext extA) hck hck0 hckx hckb) (k := ?_)
        | refine mj_callP (h := Of0 _ _ _ m s1 s2 s3 _ eb (hm.ext extA)) (k := ?_)
        | fail)
      | refine W1 ?_ | refine Wc ?_ | refine W2c ?_ ?_ | refine Wg ?_ | refine W2 ?_ ?_ | exact Wdead | refine Wlive (fun hb => ?_) | intro _ _ _ _ _ _ _ _ | refine We ?_ | refine Wx ?_ | refine Wt ?_ | refine Wm ?_ | refine W2m ?_ ?_ | refine Wl ?_
      | fail)
    refine WPJ.draw 8 mixed (by kernel_rfl) (by kernel_rfl) (by kernel_rfl) (by decide) ?_
    refine MonoJ.normA ?_
    repeat' (first
      | (refine is_ucall ?_; first
        | refine st_callP (h := True_spec _ _ _ m s1 s2 s3 lv l _ _ _ (hm.ext extA) (hr.ext extA) hci hci0 hcix hcib) (k := ?_)
        | refine st_callP (h := True_spec _ _ _ m s1 s2 s3 lv l _ _ _ (hm.ext extA) (hr.ext extA) hck hck0 hckx hckb) (k := ?_)
        | refine st_callP (h := Of0 _ _ _ m s1 s2 s3 _ eb (hm.ext extA)) (k := ?_)
        | refine st_callL (h := Of1 _ _ _ m s1 s2 s3 _ _ ea (hm.ext extA)) (k := ?_)
        | refine st_callL (h := Of2 _ _ _ m s1 s2 s3 _ _ _ ea (hm.ext extA)) (k := ?_)
        | refine st_callL (h := Of1 _ _ _ m s1 s2 s3 _ _ eb (hm.ext extA)) (k := ?_)
        | refine st_callL (h := Of2 _ _ _ m s1 s2 s3 _ _ _ eb (hm.ext extA)) (k := ?_)
        | fail)
      | (refine is_umcall ?_; first
        | refine mj_callL (h := Of1 _ _ _ m s1 s2 s3 _ _ ea (hm.ext extA)) (k := ?_)
        | refine mj_callL (h := Of2 _ _ _ m s1 s2 s3 _ _ _ ea (hm.ext extA)) (k := ?_)
        | refine mj_callL (h := Of1 _ _ _ m s1 s2 s3 _ _ eb (hm.ext extA)) (k := ?_)
        | refine mj_callL (h := Of2 _ _ _ m s1 s2 s3 _ _ _ eb (hm.ext extA)) (k := ?_)
        | refine mj_callP (h := True_spec _ _ _ m s1 s2 s3 lv l _ _ _ (hm.ext extA) (hr.ext extA) hci hci0 hcix hcib) (k := ?_)
        | refine mj_callP (h := True_spec _ _ _ m s1 s2 s3 lv l _ _ _ (hm.ext extA) (hr.ext extA) hck hck0 hckx hckb) (k := ?_)
        | refine mj_callP (h := Of0 _ _ _ m s1 s2 s3 _ eb (hm.ext extA)) (k := ?_)
        | fail)
      | refine W1 ?_ | refine Wc ?_ | refine W2c ?_ ?_ | refine Wg ?_ | refine W2 ?_ ?_ | exact Wdead | refine Wlive (fun hb => ?_) | intro _ _ _ _ _ _ _ _ | refine We ?_ | refine Wx ?_ | refine Wt ?_ | refine Wm ?_ | refine W2m ?_ ?_ | refine Wl ?_
      | fail)
    refine WPJ.draw 19 mixed (by kernel_rfl) (by kernel_rfl) (by kernel_rfl) (by decide) ?_
    refine MonoJ.normA ?_
    repeat' (first
      | (refine is_ucall ?_; first
        | refine st_callP (h := True_spec _ _ _ m s1 s2 s3 lv l _ _ _ (hm.ext extA) (hr.ext extA) hci hci0 hcix hcib) (k := ?_)
        | refine st_callP (h := True_spec _ _ _ m s1 s2 s3 lv l _ _ _ (hm.ext extA) (hr.ext extA) hck hck0 hckx hckb) (k := ?_)
        | refine st_callP (h := Of0 _ _ _ m s1 s2 s3 _ eb (hm.ext extA)) (k := ?_)
        | refine st_callL (h := Of1 _ _ _ m s1 s2 s3 _ _ ea (hm.ext extA)) (k := ?_)
        | refine st_callL (h := Of2 _ _ _ m s1 s2 s3 _ _ _ ea (hm.ext extA)) (k := ?_)
        | refine st_callL (h := Of1 _ _ _ m s1 s2 s3 _ _ eb (hm.ext extA)) (k := ?_)
        | refine st_callL (h := Of2 _ _ _ m s1 s2 s3 _ _ _ eb (hm.ext extA)) (k := ?_)
        | fail)
      | (refine is_umcall ?_; first
        | refine mj_callL (h := Of1 _ _ _ m s1 s2 s3 _ _ ea (hm.ext extA)) (k := ?_)
        | refine mj_callL (h := Of2 _ _ _ m s1 s2 s3 _ _ _ ea (hm.ext extA)) (k := ?_)
        | refine mj_callL (h := Of1 _ _ _ m s1 s2 s3 _ _ eb (hm.ext extA)) (k := ?_)
        | refine mj_callL (h := Of2 _ _ _ m s1 s2 s3 _ _ _ eb (hm.ext extA)) (k := ?_)
        | refine mj_callP (h := True_spec _ _ _ m s1 s2 s3 lv l _ _ _ (hm.ext extA) (hr.ext extA) hci hci0 hcix hcib) (k := ?_)
        | refine mj_callP (h := True_spec _ _ _ m s1 s2 s3 lv l _ _ _ (hm.ext extA) (hr.ext extA) hck hck0 hckx hckb) (k := ?_)
        | refine mj_callP (h := Of0 _ _ _ m s1 s2 s3 _ eb (hm.ext extA)) (k := ?_)
        | fail)
      | refine W1 ?_ | refine Wc ?_ | refine W2c ?_ ?_ | refine Wg ?_ | refine W2 ?_ ?_ | exact Wdead | refine Wlive (fun hb => ?_) | intro _ _ _ _ _ _ _ _ | refine We ?_ | refine Wx ?_ | refine Wt ?_ | refine Wm ?_ | refine W2m ?_ ?_ | refine Wl ?_
      | fail)
    all_goals first | exact ⟨rfl, rfl, rfl⟩ | (refine ⟨?_, rfl, rfl⟩; show Value.bool (decide _) = Value.bool (decide _); rw [hcit, hckt])
theorem DoClash_spec (m : HouseM) (s1 s2 s3 lv : Value) (l : List Int) (a b : Nat) (hm : HouseIs H m s1 s2 s3) (hr : RdS H lv 1 (encI l)) (hG : Good m) (hE : isE m l = true) (ha : a < m.tickets.length) (hb : b < m.tickets.length) :
    CallJ Try.prog E 72 [hv m s1 s2 s3, lv, .int .i64 a, .int .i64 b] (fun v H' g' => v = .bool (doClashR m l a b) ∧ H' = H ∧ g' = g) H g := by
  have hok := hm.cells
  have hst := hm.tickets
  have hela : (m.tickets.map encR)[(a : Int).toNat]? = some (encR m.tickets[a]) := by simp [ha]
  have helb : (m.tickets.map encR)[(b : Int).toNat]? = some (encR m.tickets[b]) := by simp [hb]
  have hta : (m.tickets[a]?.getD (0, 0)) = m.tickets[a] := by simp [ha]
  have htb : (m.tickets[b]?.getD (0, 0)) = m.tickets[b] := by simp [hb]
  unfold doClashR
  rw [hta, htb]
  generalize m.tickets[a] = ta at *
  generalize m.tickets[b] = tb at *
  refine CallJ.tidy ?_
  unfold hv
  by_cases htt : ta.1 = tb.1
  · rcases of_cases hG a with ⟨ea, e2⟩ | ⟨ka, xa, ea, e2, _⟩ | ⟨ka, ka2, xa, ya, ea, e2, _⟩
    all_goals rcases of_cases hG b with ⟨eb, f2⟩ | ⟨kb, xb, eb, f2, _⟩ | ⟨kb, kb2, xb, yb, eb, f2, _⟩
    all_goals rw [e2, f2, decide_eq_true htt]
    all_goals
      refine CallJ.enter Try.func72 rfl (by simp only [Try.ntmps72, List.length_cons, List.length_nil, Nat.zero_add, Nat.reduceAdd, Nat.reduceSub, List.replicate_succ, List.replicate_zero, List.cons_append, List.nil_append]; rfl) ?_
      repeat' (first
        | (refine is_ucall ?_; first
          | refine st_callP (h := CameBefore_spec _ _ _ m s1 s2 s3 lv l _ _ (hm.ext extA) (hr.ext extA) hG hE (by first | (rw [e2]; exact List.cons_ne_nil _ _) | (rw [f2]; exact List.cons_ne_nil _ _) | fail)) (k := ?_)
          | refine st_callP (h := Of0 _ _ _ m s1 s2 s3 _ ea (hm.ext extA)) (k := ?_)
          | refine st_callP (h := Of0 _ _ _ m s1 s2 s3 _ eb (hm.ext extA)) (k := ?_)
          | refine st_callL (h := Of1 _ _ _ m s1 s2 s3 _ _ ea (hm.ext extA)) (k := ?_)
          | refine st_callL (h := Of2 _ _ _ m s1 s2 s3 _ _ _ ea (hm.ext extA)) (k := ?_)
          | refine st_callL (h := Of1 _ _ _ m s1 s2 s3 _ _ eb (hm.ext extA)) (k := ?_)
          | refine st_callL (h := Of2 _ _ _ m s1 s2 s3 _ _ _ eb (hm.ext extA)) (k := ?_)
          | fail)
        | (refine is_umcall ?_; first
          | refine mj_callL (h := Of1 _ _ _ m s1 s2 s3 _ _ ea (hm.ext extA)) (k := ?_)
          | refine mj_callL (h := Of2 _ _ _ m s1 s2 s3 _ _ _ ea (hm.ext extA)) (k := ?_)
          | refine mj_callL (h := Of1 _ _ _ m s1 s2 s3 _ _ eb (hm.ext extA)) (k := ?_)
          | refine mj_callL (h := Of2 _ _ _ m s1 s2 s3 _ _ _ eb (hm.ext extA)) (k := ?_)
          | refine mj_callP (h := CameBefore_spec _ _ _ m s1 s2 s3 lv l _ _ (hm.ext extA) (hr.ext extA) hG hE (by first | (rw [e2]; exact List.cons_ne_nil _ _) | (rw [f2]; exact List.cons_ne_nil _ _) | fail)) (k := ?_)
          | refine mj_callP (h := Of0 _ _ _ m s1 s2 s3 _ ea (hm.ext extA)) (k := ?_)
          | refine mj_callP (h := Of0 _ _ _ m s1 s2 s3 _ eb (hm.ext extA)) (k := ?_)
          | fail)
        | refine W1 ?_ | refine Wc ?_ | refine W2c ?_ ?_ | refine Wg ?_ | refine W2 ?_ ?_ | exact Wdead | refine Wlive (fun hb => ?_) | intro _ _ _ _ _ _ _ _ | refine We ?_ | refine Wx ?_ | refine Wt ?_ | refine Wm ?_ | refine W2m ?_ ?_ | refine Wl ?_
        | fail)
      refine WPJ.draw 27 mixed (by kernel_rfl) (by kernel_rfl) (by kernel_rfl) (by decide) ?_
      refine MonoJ.normA ?_
      repeat' (first
        | (refine is_ucall ?_; first
          | refine st_callP (h := CameBefore_spec _ _ _ m s1 s2 s3 lv l _ _ (hm.ext extA) (hr.ext extA) hG hE (by first | (rw [e2]; exact List.cons_ne_nil _ _) | (rw [f2]; exact List.cons_ne_nil _ _) | fail)) (k := ?_)
          | refine st_callP (h := Of0 _ _ _ m s1 s2 s3 _ ea (hm.ext extA)) (k := ?_)
          | refine st_callP (h := Of0 _ _ _ m s1 s2 s3 _ eb (hm.ext extA)) (k := ?_)
          | refine st_callL (h := Of1 _ _ _ m s1 s2 s3 _ _ ea (hm.ext extA)) (k := ?_)
          | refine st_callL (h := Of2 _ _ _ m s1 s2 s3 _ _ _ ea (hm.ext extA)) (k := ?_)
          | refine st_callL (h := Of1 _ _ _ m s1 s2 s3 _ _ eb (hm.ext extA)) (k := ?_)
          | refine st_callL (h := Of2 _ _ _ m s1 s2 s3 _ _ _ eb (hm.ext extA)) (k := ?_)
          | fail)
        | (refine is_umcall ?_; first
          | refine mj_callL (h := Of1 _ _ _ m s1 s2 s3 _ _ ea (hm.ext extA)) (k := ?_)
          | refine mj_callL (h := Of2 _ _ _ m s1 s2 s3 _ _ _ ea (hm.ext extA)) (k := ?_)
          | refine mj_callL (h := Of1 _ _ _ m s1 s2 s3 _ _ eb (hm.ext extA)) (k := ?_)
          | refine mj_callL (h := Of2 _ _ _ m s1 s2 s3 _ _ _ eb (hm.ext extA)) (k := ?_)
          | refine mj_callP (h := CameBefore_spec _ _ _ m s1 s2 s3 lv l _ _ (hm.ext extA) (hr.ext extA) hG hE (by first | (rw [e2]; exact List.cons_ne_nil _ _) | (rw [f2]; exact List.cons_ne_nil _ _) | fail)) (k := ?_)
          | refine mj_callP (h := Of0 _ _ _ m s1 s2 s3 _ ea (hm.ext extA)) (k := ?_)
          | refine mj_callP (h := Of0 _ _ _ m s1 s2 s3 _ eb (hm.ext extA)) (k := ?_)
          | fail)
        | refine W1 ?_ | refine Wc ?_ | refine W2c ?_ ?_ | refine Wg ?_ | refine W2 ?_ ?_ | exact Wdead | refine Wlive (fun hb => ?_) | intro _ _ _ _ _ _ _ _ | refine We ?_ | refine Wx ?_ | refine Wt ?_ | refine Wm ?_ | refine W2m ?_ ?_ | refine Wl ?_
        | fail)
      all_goals exact ⟨rfl, rfl, rfl⟩
  · rw [decide_eq_false htt]
    refine CallJ.enter Try.func72 rfl (by simp only [Try.ntmps72, List.length_cons, List.length_nil, Nat.zero_add, Nat.reduceAdd, Nat.reduceSub, List.replicate_succ, List.replicate_zero, List.cons_append, List.nil_append]; rfl) ?_
    repeat' (first
      | (refine is_ucall ?_; first
        | refine st_callP (h := CameBefore_spec _ _ _ m s1 s2 s3 lv l _ _ (hm.ext extA) (hr.ext extA) hG hE (by first | (rw [e2]; exact List.cons_ne_nil _ _) | (rw [f2]; exact List.cons_ne_nil _ _) | fail)) (k := ?_)
        | refine st_callP (h := Of0 _ _ _ m s1 s2 s3 _ ea (hm.ext extA)) (k := ?_)
        | refine st_callP (h := Of0 _ _ _ m s1 s2 s3 _ eb (hm.ext extA)) (k := ?_)
        | refine st_callL (h := Of1 _ _ _ m s1 s2 s3 _ _ ea (hm.ext extA)) (k := ?_)
        | refine st_callL (h := Of2 _ _ _ m s1 s2 s3 _ _ _ ea (hm.ext extA)) (k := ?_)
        | refine st_callL (h := Of1 _ _ _ m s1 s2 s3 _ _ eb (hm.ext extA)) (k := ?_)
        | refine st_callL (h := Of2 _ _ _ m s1 s2 s3 _ _ _ eb (hm.ext extA)) (k := ?_)
        | fail)
      | (refine is_umcall ?_; first
        | refine mj_callL (h := Of1 _ _ _ m s1 s2 s3 _ _ ea (hm.ext extA)) (k := ?_)
        | refine mj_callL (h := Of2 _ _ _ m s1 s2 s3 _ _ _ ea (hm.ext extA)) (k := ?_)
        | refine mj_callL (h := Of1 _ _ _ m s1 s2 s3 _ _ eb (hm.ext extA)) (k := ?_)
        | refine mj_callL (h := Of2 _ _ _ m s1 s2 s3 _ _ _ eb (hm.ext extA)) (k := ?_)
        | refine mj_callP (h := CameBefore_spec _ _ _ m s1 s2 s3 lv l _ _ (hm.ext extA) (hr.ext extA) hG hE (by first | (rw [e2]; exact List.cons_ne_nil _ _) | (rw [f2]; exact List.cons_ne_nil _ _) | fail)) (k := ?_)
        | refine mj_callP (h := Of0 _ _ _ m s1 s2 s3 _ ea (hm.ext extA)) (k := ?_)
        | refine mj_callP (h := Of0 _ _ _ m s1 s2 s3 _ eb (hm.ext extA)) (k := ?_)
        | fail)
      | refine W1 ?_ | refine Wc ?_ | refine W2c ?_ ?_ | refine Wg ?_ | refine W2 ?_ ?_ | exact Wdead | refine Wlive (fun hb => ?_) | intro _ _ _ _ _ _ _ _ | refine We ?_ | refine Wx ?_ | refine Wt ?_ | refine Wm ?_ | refine W2m ?_ ?_ | refine Wl ?_
      | fail)
    refine WPJ.draw 27 mixed (by kernel_rfl) (by kernel_rfl) (by kernel_rfl) (by decide) ?_
    refine MonoJ.normA ?_
    repeat' (first
      | (refine is_ucall ?_; first
        | refine st_callP (h := CameBefore_spec _ _ _ m s1 s2 s3 lv l _ _ (hm.ext extA) (hr.ext extA) hG hE (by first | (rw [e2]; exact List.cons_ne_nil _ _) | (rw [f2]; exact List.cons_ne_nil _ _) | fail)) (k := ?_)
        | refine st_callP (h := Of0 _ _ _ m s1 s2 s3 _ ea (hm.ext extA)) (k := ?_)
        | refine st_callP (h := Of0 _ _ _ m s1 s2 s3 _ eb (hm.ext extA)) (k := ?_)
        | refine st_callL (h := Of1 _ _ _ m s1 s2 s3 _ _ ea (hm.ext extA)) (k := ?_)
        | refine st_callL (h := Of2 _ _ _ m s1 s2 s3 _ _ _ ea (hm.ext extA)) (k := ?_)
        | refine st_callL (h := Of1 _ _ _ m s1 s2 s3 _ _ eb (hm.ext extA)) (k := ?_)
        | refine st_callL (h := Of2 _ _ _ m s1 s2 s3 _ _ _ eb (hm.ext extA)) (k := ?_)
        | fail)
      | (refine is_umcall ?_; first
        | refine mj_callL (h := Of1 _ _ _ m s1 s2 s3 _ _ ea (hm.ext extA)) (k := ?_)
        | refine mj_callL (h := Of2 _ _ _ m s1 s2 s3 _ _ _ ea (hm.ext extA)) (k := ?_)
        | refine mj_callL (h := Of1 _ _ _ m s1 s2 s3 _ _ eb (hm.ext extA)) (k := ?_)
        | refine mj_callL (h := Of2 _ _ _ m s1 s2 s3 _ _ _ eb (hm.ext extA)) (k := ?_)
        | refine mj_callP (h := CameBefore_spec _ _ _ m s1 s2 s3 lv l _ _ (hm.ext extA) (hr.ext extA) hG hE (by first | (rw [e2]; exact List.cons_ne_nil _ _) | (rw [f2]; exact List.cons_ne_nil _ _) | fail)) (k := ?_)
        | refine mj_callP (h := Of0 _ _ _ m s1 s2 s3 _ ea (hm.ext extA)) (k := ?_)
        | refine mj_callP (h := Of0 _ _ _ m s1 s2 s3 _ eb (hm.ext extA)) (k := ?_)
        | fail)
      | refine W1 ?_ | refine Wc ?_ | refine W2c ?_ ?_ | refine Wg ?_ | refine W2 ?_ ?_ | exact Wdead | refine Wlive (fun hb => ?_) | intro _ _ _ _ _ _ _ _ | refine We ?_ | refine Wx ?_ | refine Wt ?_ | refine Wm ?_ | refine W2m ?_ ?_ | refine Wl ?_
      | fail)
    exact ⟨rfl, rfl, rfl⟩
end
end Go.Proofs.Ytehobnpoeodhkaa
