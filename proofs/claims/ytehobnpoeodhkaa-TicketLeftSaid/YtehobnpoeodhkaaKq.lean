import Derived.Test.YtehobnpoeodhkaaV10
namespace Go.Abs
open Go
theorem mj_appendNil {P : Program} {T : List Value} {H : AHeap} {R : List Value → AHeap → Prop} {ops : Array Oper} {mm : Nat} {dst : Option Tmp} {ty : TypeId} {ps : String} {af : Array Edge} {rest : List Oper} {s x : Operand} {t e : TypeId} {n : Nat} {z : Value} {b : Nat} {d' : TypeDesc} {n' : Nat} {z' : Value} {b' : Nat} {i o m cap : Nat} {cells news : List Value} {es : Nat} {own : Bool} [ht : TyC P t (.slice e) n z b] [he : TyC P e d' n' z' b'] (hz' : (cellsL z').length = n')
    (hs_ : evalT T s = .slice none 0 0) (hx : evalT T x = .slice (some ⟨i, o, none⟩) m cap) (hi : H[i]? = some (.row cells es own))
    (hfit : o + m * n' ≤ cells.length) (hnews : (cells.drop o).take (m * n') = news) (h63 : 0 < m ∧ m ≤ maxLen ∧ m * b' ≤ 140737488355328)
    (k : MonoJ P ops R mm rest (putT T dst (.slice (some ⟨H.length, 0, none⟩) m m)) (H ++ [.row news n' true])) :
    MonoJ P ops R (mm + 1) (⟨dst, .call { callee := .builtin .append, args := #[s, x], argTypes := #[t, t] }, ty, ps, af, none⟩ :: rest) T H :=
  mj_stepL (runs_appendNil ht.ty he.ty hz' hs_ hx hi hfit hnews h63.1 h63.2.1 h63.2.2) rfl k
end Go.Abs
namespace Go.Proofs.Ytehobnpoeodhkaa
open Go Go.Abs Go.Proofs
set_option maxHeartbeats 1600000
attribute [local irreducible] CallJ OpsJ WPJ CallV MonoJ SpecJ

/-- the errors with a number, the first clock's changing fastest -/
def nthL : List (Int × Int) → Int → List Int
  | [], _ => []
  | r :: cs, n => (r.1 + n % (r.2 - r.1 + 1)) :: nthL cs (n / (r.2 - r.1 + 1))
def restN : List (Int × Int) → Int → Int
  | [], n => n
  | r :: cs, n => restN cs (n / (r.2 - r.1 + 1))
theorem nthL_snoc (r : Int × Int) : ∀ (cs : List (Int × Int)) (n : Int), nthL (cs ++ [r]) n = nthL cs n ++ [r.1 + restN cs n % (r.2 - r.1 + 1)]
  | [], _ => rfl
  | c :: cs, n => by
    have := nthL_snoc r cs (n / (c.2 - c.1 + 1))
    simp only [List.cons_append, nthL, restN, this]
theorem restN_snoc (r : Int × Int) : ∀ (cs : List (Int × Int)) (n : Int), restN (cs ++ [r]) n = restN cs n / (r.2 - r.1 + 1)
  | [], _ => rfl
  | c :: cs, n => restN_snoc r cs (n / (c.2 - c.1 + 1))
theorem nthL_len : ∀ (cs : List (Int × Int)) (n : Int), (nthL cs n).length = cs.length
  | [], _ => rfl
  | c :: cs, n => by simp [nthL, nthL_len cs]
theorem restN_bd : ∀ (cs : List (Int × Int)) (n : Int), (∀ r ∈ cs, r.1 ≤ r.2) → 0 ≤ n → 0 ≤ restN cs n ∧ restN cs n ≤ n
  | [], n, _, h0 => ⟨h0, Int.le_refl _⟩
  | r :: cs, n, h, h0 => by
    have hr := h r (by simp)
    have h1 : 0 ≤ n / (r.2 - r.1 + 1) := Int.ediv_nonneg h0 (by omega)
    have h2 : n / (r.2 - r.1 + 1) ≤ n := Int.ediv_le_self _ h0
    have ih := restN_bd cs (n / (r.2 - r.1 + 1)) (fun x hx => h x (by simp [hx])) h1
    exact ⟨ih.1, Int.le_trans ih.2 h2⟩
section
variable {γ : Type} (E : Env γ) (g : γ) (H : AHeap)
theorem Nth_spec (m : HouseM) (s1 s2 s3 : Value) (n : Int) (hn0 : 0 ≤ n) (hn1 : n ≤ 1000000) (hm : HouseIs H m s1 s2 s3) (hcl : ∀ r ∈ m.clocks, isClockS r = true) : CallJ Try.prog E 117 [hv m s1 s2 s3, .int .i64 n] (fun v H' g' => v = slV H.length (nthL m.clocks n) ∧ H' = H ++ slH enc1 1 (nthL m.clocks n) ∧ g' = g) H g := by
  have hok := hm.cells
  have hr := hm.clocks
  have hnl := hm.n1
  refine CallJ.tidy ?_
  unfold hv
  refine CallJ.enter Try.func117 rfl (by simp only [Try.ntmps117, List.length_cons, List.length_nil, Nat.zero_add, Nat.reduceAdd, Nat.reduceSub, List.replicate_succ, List.replicate_zero, List.cons_append, List.nil_append]; rfl) ?_
  repeat' (first
    | (refine is_ucall ?_; first
      | refine st_callP (h := Size_spec _ _ _ r hs1 hs2) (k := ?_)
      | fail)
    | (refine is_umcall ?_; first
      | refine mj_callP (h := Size_spec _ _ _ r hs1 hs2) (k := ?_)
      | fail)
    | refine W1 ?_ | refine Wc ?_ | refine W2c ?_ ?_ | refine Wg ?_ | refine W2 ?_ ?_ | exact Wdead | refine Wlive (fun hb => ?_) | intro _ _ _ _ _ _ _ _ | refine We ?_ | refine Wx ?_ | refine Wt ?_ | refine Wm ?_ | refine W2m ?_ ?_ | refine Wl ?_
    | fail)
  refine WPJ.loopT m.clocks.length [7, 8, 9, 10, 11, 12, 13, 14, 15, 16, 17, 18, 19, 20, 21, 22, 23, 24, 25, 26, 27, 28, 29, 30, 31, 32, 33] (fun j (v : Value × Int) => [(6, .int .i64 j), (5, v.1), (1, .int .i64 v.2)])
    (fun j v H1 g1 => g1 = g ∧ Ext H H1 ∧ H1[H.length]? = some (.row (hcells m s1 s2 s3) 1 true) ∧ AppG enc1 1 H1 (H.length + 1) v.1 (nthL (m.clocks.take j) n) ∧ v.2 = restN (m.clocks.take j) n ∧ H.length + 1 ≤ H1.length) 0 (.slice none 0 0, n) (Nat.zero_le _)
    (by intro p hp; simp at hp; rcases hp with rfl | rfl | rfl <;> rfl) ⟨rfl, extA, getA, AppG.nil, rfl, by simp⟩ ?_
  rintro j ⟨v, x⟩ H1 g1 hj ⟨rfl, he, hb0, hA, hx, hlen⟩ hl0
  simp only at hA hx
  simp only [updT, maskT, List.set_cons_zero, List.set_cons_succ]
  rcases Nat.lt_or_ge j m.clocks.length with hlt | hge
  · have hel : (m.clocks.map encR)[(j : Int).toNat]? = some (encR m.clocks[j]) := by simp [hlt]
    have hcr := hcl _ (List.getElem_mem hlt)
    have htk : m.clocks.take (j + 1) = m.clocks.take j ++ [m.clocks[j]] := List.take_succ_eq_append_getElem hlt
    have hbd := restN_bd (m.clocks.take j) n (fun r hr => by have := hcl r (List.mem_of_mem_take hr); simp only [isClockS, Bool.and_eq_true, decide_eq_true_eq] at this; omega) hn0
    rw [← hx] at hbd
    have hsn := nthL_snoc m.clocks[j] (m.clocks.take j) n
    have hrs := restN_snoc m.clocks[j] (m.clocks.take j) n
    rw [← htk, ← hx] at hsn hrs
    generalize m.clocks[j] = r at *
    simp only [isClockS, Bool.and_eq_true, decide_eq_true_eq] at hcr
    have hs1 : -1000000 ≤ r.1 ∧ r.1 ≤ 1000000 := by omega
    have hs2 : -1000000 ≤ r.2 ∧ r.2 ≤ 1000000 := by omega
    have hsz : 0 < r.2 - r.1 + 1 := by omega
    have hm1 : 0 ≤ x % (r.2 - r.1 + 1) := Int.emod_nonneg _ (by omega)
    have hm2 : x % (r.2 - r.1 + 1) < r.2 - r.1 + 1 := Int.emod_lt_of_pos _ hsz
    have hmt : x % (r.2 - r.1 + 1) = x.tmod (r.2 - r.1 + 1) := (Int.tmod_eq_emod_of_nonneg hbd.1).symm
    have hdt : IntKind.i64.wrap (x.tdiv (r.2 - r.1 + 1)) = x / (r.2 - r.1 + 1) := by
      have h1 : 0 ≤ x / (r.2 - r.1 + 1) := Int.ediv_nonneg hbd.1 (by omega)
      have h2 : x / (r.2 - r.1 + 1) ≤ x := Int.ediv_le_self _ hbd.1
      rw [Int.tdiv_eq_ediv_of_nonneg hbd.1, wrap64_eq ⟨by omega, by omega⟩]
    rw [hmt] at hm1 hm2 hsn
    rw [← hdt] at hrs
    have hll : (nthL (m.clocks.take j) n).length ≤ 1000000 := by rw [nthL_len, List.length_take]; omega
    repeat' (first
      | (refine is_ucall ?_; first
        | refine st_callP (h := Size_spec _ _ _ r hs1 hs2) (k := ?_)
        | fail)
      | (refine is_umcall ?_; first
        | refine mj_callP (h := Size_spec _ _ _ r hs1 hs2) (k := ?_)
        | fail)
      | refine W1 ?_ | refine Wc ?_ | refine W2c ?_ ?_ | refine Wg ?_ | refine W2 ?_ ?_ | exact Wdead | refine Wlive (fun hb => ?_) | intro _ _ _ _ _ _ _ _ | refine We ?_ | refine Wx ?_ | refine Wt ?_ | refine Wm ?_ | refine W2m ?_ ?_ | refine Wl ?_
      | fail)
    rcases hA with ⟨rfl, hnil⟩ | ⟨i, rfl, hi, hni, hne⟩
    · rw [hnil, List.nil_append] at hsn
      refine WPJ.draw 16 mixed (by kernel_rfl) (by kernel_rfl) (by kernel_rfl) (by decide) ?_
      refine MonoJ.normA ?_
      repeat' (first
        | (refine is_ucall ?_; first
          | refine st_callP (h := Size_spec _ _ _ r hs1 hs2) (k := ?_)
          | fail)
        | (refine is_umcall ?_; first
          | refine mj_callP (h := Size_spec _ _ _ r hs1 hs2) (k := ?_)
          | fail)
        | refine W1 ?_ | refine Wc ?_ | refine W2c ?_ ?_ | refine Wg ?_ | refine W2 ?_ ?_ | exact Wdead | refine Wlive (fun hb => ?_) | intro _ _ _ _ _ _ _ _ | refine We ?_ | refine Wx ?_ | refine Wt ?_ | refine Wm ?_ | refine W2m ?_ ?_ | refine Wl ?_
        | fail)
      refine mj_appendNil (n' := 1) (news := enc1 (r.1 + x.tmod (r.2 - r.1 + 1))) rfl rfl rfl getA (by simp) rfl ⟨by decide, by decide, by decide⟩ ?_
      refine MonoJ.normA ?_
      repeat' (first
        | (refine is_ucall ?_; first
          | refine st_callP (h := Size_spec _ _ _ r hs1 hs2) (k := ?_)
          | fail)
        | (refine is_umcall ?_; first
          | refine mj_callP (h := Size_spec _ _ _ r hs1 hs2) (k := ?_)
          | fail)
        | refine W1 ?_ | refine Wc ?_ | refine W2c ?_ ?_ | refine Wg ?_ | refine W2 ?_ ?_ | exact Wdead | refine Wlive (fun hb => ?_) | intro _ _ _ _ _ _ _ _ | refine We ?_ | refine Wx ?_ | refine Wt ?_ | refine Wm ?_ | refine W2m ?_ ?_ | refine Wl ?_
        | fail)
      refine ⟨(.slice (some ⟨H1.length + 2, 0, none⟩) 1 1, _), hlt, (by repeat' (first | exact Weak.nil | refine Weak.wild ?_ | refine Weak.same ?_ | refine Weak.intEq (by first | omega | (simp; done) | (push_cast; omega)) ?_)), rfl, extA, getA, .inr ⟨H1.length + 2, ?_, ?_, ?_, by rw [hsn]; simp⟩, hrs.symm, ?_⟩
      · rw [hsn]; rfl
      · rw [hsn]; exact get_new rfl
      · omega
      · simp; omega
    · have hil := (List.getElem?_eq_some_iff.1 hi).1
      refine WPJ.drawS 16 9 i (.row ((nthL (m.clocks.take j) n).map enc1).flatten 1 true) .dead mixed (by kernel_rfl) (by kernel_rfl) (by kernel_rfl) (by decide) (by decide) rfl (by first | rfl | (simp [flatRow, flat1]; done) | assumption) (by first | exact .inl rfl | exact .inr (by first | omega | (simp; omega))) ?_
      refine SpecJ.normA ?_
      refine SpecJ.seg 9 (by kernel_rfl) (by decide) ?_
      repeat' (first
        | (refine is_ucall ?_; first
          | refine st_callP (h := Size_spec _ _ _ r hs1 hs2) (k := ?_)
          | fail)
        | (refine is_umcall ?_; first
          | refine mj_callP (h := Size_spec _ _ _ r hs1 hs2) (k := ?_)
          | fail)
        | refine W1 ?_ | refine Wc ?_ | refine W2c ?_ ?_ | refine Wg ?_ | refine W2 ?_ ?_ | exact Wdead | refine Wlive (fun hb => ?_) | intro _ _ _ _ _ _ _ _ | refine We ?_ | refine Wx ?_ | refine Wt ?_ | refine Wm ?_ | refine W2m ?_ ?_ | refine Wl ?_
        | fail)
      refine SpecJ.spec (n := 6) (.slice (some ⟨(H1 ++ [AObj.row (encR r) 1 true, AObj.row [.int .i64 (r.1 + x.tmod (r.2 - r.1 + 1))] 1 true]).length, 0, none⟩) ((nthL (m.clocks.take j) n).length + 1) ((nthL (m.clocks.take j) n).length + 1)) [.row (((nthL (m.clocks.take j) n).map enc1).flatten ++ enc1 (r.1 + x.tmod (r.2 - r.1 + 1))) 1 true] (get_old hi) rfl rfl ?_ ?_
      · have hfl := flatten_lenG (enc := enc1) (fun _ => rfl) (nthL (m.clocks.take j) n)
        have hm : maxLen = 9223372036854775807 := by decide
        have e : ((nthL (m.clocks.take j) n).map enc1).flatten ++ enc1 (r.1 + x.tmod (r.2 - r.1 + 1)) = (((nthL (m.clocks.take j) n).map enc1).flatten.take ((nthL (m.clocks.take j) n).length * 1)) ++ enc1 (r.1 + x.tmod (r.2 - r.1 + 1)) := congrArg (· ++ _) (List.take_of_length_le (Nat.le_of_eq hfl)).symm
        rw [e]
        refine runs_appendOwn (n' := 1) (m := 1) (cp := (nthL (m.clocks.take j) n).length) (i := H1.length + 1) (o := 0) (cap := 1) (cells := [.int .i64 (r.1 + x.tmod (r.2 - r.1 + 1))]) (es := 1) (own := true) TyC.ty TyC.ty ?_ ?_ (get_old hi) (Nat.le_of_eq hfl.symm) ?_ ?_ ?_ ?_ ?_ ?_ ?_
        · rfl
        · rfl
        · rfl
        · exact get_new rfl
        · simp
        · rfl
        · rfl
        · rw [hm]; omega
        · show _ * 8 ≤ _
          omega
      refine SpecJ.normA ?_
      refine sj_move rfl ?_
      refine SpecJ.normA ?_
      refine sj_loadN rfl rfl rfl getA (by omega) (by simp) rfl ?_
      refine SpecJ.normA ?_
      refine SpecJ.seg 4 (by kernel_rfl) (by decide) ?_
      repeat' (first
        | (refine is_ucall ?_; first
          | refine st_callP (h := Size_spec _ _ _ r hs1 hs2) (k := ?_)
          | fail)
        | (refine is_umcall ?_; first
          | refine mj_callP (h := Size_spec _ _ _ r hs1 hs2) (k := ?_)
          | fail)
        | refine W1 ?_ | refine Wc ?_ | refine W2c ?_ ?_ | refine Wg ?_ | refine W2 ?_ ?_ | exact Wdead | refine Wlive (fun hb => ?_) | intro _ _ _ _ _ _ _ _ | refine We ?_ | refine Wx ?_ | refine Wt ?_ | refine Wm ?_ | refine W2m ?_ ?_ | refine Wl ?_
        | fail)
      refine SpecJ.done ?_
      repeat' (first
        | (refine is_ucall ?_; first
          | refine st_callP (h := Size_spec _ _ _ r hs1 hs2) (k := ?_)
          | fail)
        | (refine is_umcall ?_; first
          | refine mj_callP (h := Size_spec _ _ _ r hs1 hs2) (k := ?_)
          | fail)
        | refine W1 ?_ | refine Wc ?_ | refine W2c ?_ ?_ | refine Wg ?_ | refine W2 ?_ ?_ | exact Wdead | refine Wlive (fun hb => ?_) | intro _ _ _ _ _ _ _ _ | refine We ?_ | refine Wx ?_ | refine Wt ?_ | refine Wm ?_ | refine W2m ?_ ?_ | refine Wl ?_
        | fail)
      refine ⟨(.slice (some ⟨H1.length + 2, 0, none⟩) ((nthL (m.clocks.take j) n).length + 1) ((nthL (m.clocks.take j) n).length + 1), _), hlt, (by repeat' (first | exact Weak.nil | refine Weak.wild ?_ | refine Weak.same ?_ | refine Weak.intEq (by first | omega | (simp; done) | (push_cast; omega)) ?_)), rfl, extA, getA, .inr ⟨H1.length + 2, ?_, ?_, ?_, by rw [hsn]; simp⟩, hrs.symm, ?_⟩
      · rw [hsn]; simp
      · rw [hsn, List.getElem?_append_right (by simp)]
        simp [enc1]
      · omega
      · simp; omega
  · skip
    repeat' (first
      | (refine is_ucall ?_; first
        | refine st_callP (h := Size_spec _ _ _ r hs1 hs2) (k := ?_)
        | fail)
      | (refine is_umcall ?_; first
        | refine mj_callP (h := Size_spec _ _ _ r hs1 hs2) (k := ?_)
        | fail)
      | refine W1 ?_ | refine Wc ?_ | refine W2c ?_ ?_ | refine Wg ?_ | refine W2 ?_ ?_ | exact Wdead | refine Wlive (fun hb => ?_) | intro _ _ _ _ _ _ _ _ | refine We ?_ | refine Wx ?_ | refine Wt ?_ | refine Wm ?_ | refine W2m ?_ ?_ | refine Wl ?_
      | fail)
    obtain rfl : j = m.clocks.length := by omega
    rw [List.take_length] at hA
    exact hA.tidy (by omega) he (fun _ => rfl) ⟨rfl, rfl, rfl⟩
end
end Go.Proofs.Ytehobnpoeodhkaa
