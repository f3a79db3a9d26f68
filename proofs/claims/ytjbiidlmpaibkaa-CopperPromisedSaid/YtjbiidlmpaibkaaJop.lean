import Derived.Test.YtjbiidlmpaibkaaJnp
namespace Go.Proofs.Ytjbiidlmpaibkaa
open Go Go.Abs Go.Proofs
set_option maxHeartbeats 8000000
set_option maxRecDepth 20000
attribute [local irreducible] CallJ OpsJ WPJ CallV MonoJ SpecJ
section
variable {T : List Value} {H : AHeap} {R : List Value → AHeap → Prop} {ops : Array Oper} {dst : Option Tmp} {ty : TypeId} {ps : String} {af : Array Edge} {rest : List Oper} {mm : Nat} {xs : Array Operand} {at_ : Array TypeId}
theorem mj_makeInts {l c : Operand} {j : Int} {n : Nat} (hl : evalT T l = .int .i64 j) (hc : evalT T c = .int .i64 j) (hj : j = n) (hn : n ≤ 1000)
    (k : ∀ H' tv, RdS H' tv 1 (encI (List.replicate n 0)) → Ext H H' → MonoJ Try.prog ops R mm rest (putT T dst tv) H') : MonoJ Try.prog ops R (mm + 1) (⟨dst, .makeSlice 22 l c, ty, ps, af, none⟩ :: rest) T H := by
  subst hj
  have hr := rd_encE (own := true) (cap := n) (H := H ++ [.row (encE (List.replicate n 0)) 1 true]) (s := List.replicate n 0) List.getElem?_concat_length (List.take_of_length_le (by simp [encE]))
  rw [List.length_replicate] at hr
  refine mj_stepL (v := .slice (some ⟨H.length, 0, none⟩) n n) (o := .row (encE (List.replicate n 0)) 1 true) ?_ rfl (k _ _ hr ⟨_, rfl⟩)
  have := runs_makeSlice (P := Try.prog) (T := T) (H := H) (dst := dst) (ty := ty) (ps := ps) (af := af) (gd := none) (t := 22) (l := l) (c := c) (cs := encE (List.replicate n 0)) TyC.ty TyC.ty rfl hl hc (by omega) (Int.le_refl _) (by omega) (by omega) (by simp [encE]) (fun i h => by
    have e : (encE (List.replicate n (0 : Int)))[i] = .int .i64 0 := by simp [encE]
    rw [e, Nat.mod_one]; rfl)
  simpa using this
theorem mj_single {m : CopM} {s1 s2 s3 s4 : Value} {k : Nat} {x : Int} (ha : evalL T xs.toList = [cv m s1 s2 s3 s4, .int .i64 k, .int .i64 x]) (hm : CopY H m s1 s2 s3 s4) (hW : WOk m) (hk : k < hrs m)
    (kk : ∀ H' tv, RdS H' tv 1 (encI (oneL (hrs m) k x)) → Ext H H' → MonoJ Try.prog ops R mm rest (putT T dst tv) H') : MonoJ Try.prog ops R (mm + 1) (⟨dst, .call { callee := .value (.func 65), args := xs, argTypes := at_ }, ty, ps, af, none⟩ :: rest) T H := by
  have hr := rd_encE (own := true) (cap := hrs m) (H := H ++ [.row (encE (oneL (hrs m) k x)) 1 true]) (s := oneL (hrs m) k x) List.getElem?_concat_length (List.take_of_length_le (by simp [encE]))
  rw [one_len] at hr
  exact mj_callL (ha := ha) (h := Single_spec trivE () H m s1 s2 s3 s4 hm hW k x hk) (hL := rfl) (k := kk _ _ hr ⟨_, rfl⟩)
end
section
variable {γ : Type} (E : Env γ) (g : γ) (H : AHeap)
theorem list_w2 (sv : Value) (l : List Int) (hr : RdS H sv 1 (encI l)) (hn : l.length ≤ 1000000) : CallJ Try.prog E 40 [sv] (fun v H' g' => (RdS H' v 1 (encI l) ∧ Ext H H') ∧ g' = g) H g :=
  (list_spec E g H sv l hr hn).mono (by
    rintro v H' g' ⟨rfl, rfl, rfl⟩
    exact ⟨⟨rd_encE (own := true) List.getElem?_concat_length (List.take_of_length_le (by simp [encE])), ⟨_, rfl⟩⟩, rfl⟩)
theorem promised_law (m : CopM) (s1 s2 s3 s4 wv : Value) (b c : Int) (ws : List Int) (hm : CopZ H m s1 s2 s3 s4) (hb : 0 ≤ b ∧ b ≤ 255) (hc : 0 ≤ c ∧ c ≤ 255) (hws : RdS H wv 1 (encU ws)) (hwn : ws.length ≤ 9223372036854775807) (hwb : ∀ x ∈ ws, 0 ≤ x ∧ x ≤ 65535) :
    CallJ Try.prog E 12 [cv m s1 s2 s3 s4, wv, .int .u8 b, .int .u8 c] (fun v H' g' => v = .bool true ∧ H' = H ∧ g' = g) H g := by
  have hok := hm.cells
  have hwok : cellOk wv = true := by obtain ⟨a, b, c, rfl⟩ := RdS.shape hws; rfl
  refine CallJ.tidy ?_
  unfold cv
  refine CallJ.enter Try.func12 rfl (by simp only [Try.ntmps12, List.length_cons, List.length_nil, Nat.zero_add, Nat.reduceAdd, Nat.reduceSub, List.replicate_succ, List.replicate_zero, List.cons_append, List.nil_append]; rfl) ?_
  repeat' (first
    | (refine is_ucall ?_; first
      | refine st_callP (h := readyZ_spec _ _ _ m s1 s2 s3 s4 (hm.ext extA)) (k := ?_)
      | refine st_callP (h := awake_spec _ _ _) (k := ?_)
      | fail)
    | (refine is_umcall ?_; first
      | refine mj_callP (h := readyZ_spec _ _ _ m s1 s2 s3 s4 (hm.ext extA)) (k := ?_)
      | refine mj_callP (h := awake_spec _ _ _) (k := ?_)
      | fail)
    | ((fail_if_success (first | refine is_ucall ?_ | refine is_umcall ?_)); first | refine W1 ?_ | refine Wc ?_ | refine W2c ?_ ?_ | refine Wg ?_ | refine W2 ?_ ?_ | exact Wdead | refine Wlive (fun hb => ?_) | intro _ _ _ _ _ _ _ _ | refine We ?_ | refine Wx ?_ | refine Wt ?_ | refine Wm ?_ | refine W2m ?_ ?_ | refine Wl ?_)
    | fail)
  · exact ⟨rfl, rfl, rfl⟩
  · have hr : thinS m = true ∧ checkS m = 0 := by assumption
    have hI := hm.is hr.1
    have hG := good_of hr.2
    have hN := hG.nr
    obtain ⟨hn5, hnl⟩ := hrs_le hG.w
    have hl0 := hG.w.l0
    have hl4 := hG.w.l4
    have hll := hG.ll
    have hwb2 : IntKind.i64.wrap b = ((b.toNat : Nat) : Int) := by rw [wrap64_eq ⟨by omega, by omega⟩]; omega
    have hwc : IntKind.i64.wrap c = ((c.toNat : Nat) : Int) := by rw [wrap64_eq ⟨by omega, by omega⟩]; omega
    have hwl : IntKind.i64.wrap (m.last + 1) = m.last + 1 := wrap64_eq ⟨by omega, by omega⟩
    have hrb : ((b.toNat : Nat) : Int) % (m.last + 1) = ((b.toNat % hrs m : Nat) : Int) := by rw [← hnl]; rfl
    have hk : b.toNat % hrs m < hrs m := Nat.mod_lt _ (by omega)
    generalize b.toNat % hrs m = k at *
    obtain ⟨d, hd⟩ : ∃ d : Int, d = 1 + ((c.toNat : Nat) : Int) % 4 := ⟨_, rfl⟩
    have hd1 : 1 ≤ d ∧ d ≤ 4 := by omega
    try rw [hwb2]
    try rw [hwl]
    refine OpsJ.normA ?_
    repeat' (first
      | (refine is_ucall ?_; first
        | refine st_callP (h := readyZ_spec _ _ _ m s1 s2 s3 s4 (hm.ext extA)) (k := ?_)
        | refine st_callP (h := awake_spec _ _ _) (k := ?_)
        | fail)
      | (refine is_umcall ?_; first
        | refine mj_callP (h := readyZ_spec _ _ _ m s1 s2 s3 s4 (hm.ext extA)) (k := ?_)
        | refine mj_callP (h := awake_spec _ _ _) (k := ?_)
        | fail)
      | ((fail_if_success (first | refine is_ucall ?_ | refine is_umcall ?_)); first | refine W1 ?_ | refine Wc ?_ | refine W2c ?_ ?_ | refine Wg ?_ | refine W2 ?_ ?_ | exact Wdead | refine Wlive (fun hb => ?_) | intro _ _ _ _ _ _ _ _ | refine We ?_ | refine Wx ?_ | refine Wt ?_ | refine Wm ?_ | refine W2m ?_ ?_ | refine Wl ?_)
      | fail)
    try rw [hrb]
    try rw [hwc]
    rw [← hd]
    clear hd
    obtain ⟨lF, hlF⟩ : ∃ lF : Nat → Int, lF = fun i => wordS ws i % 3 := ⟨_, rfl⟩
    obtain ⟨mF, hmF⟩ : ∃ mF : Nat → Int, mF = fun i => wordS ws i % 3 + wordS ws i / 8 % 2 := ⟨_, rfl⟩
    refine WPJ.loopT (hrs m) [43, 44, 45, 46, 49, 50, 51, 14, 52, 53, 54, 55, 56, 57, 58, 59, 60, 61, 62, 63, 64, 65, 47, 48] (fun j (s : Value × Value) => [(13, .int .i64 j), (11, s.1), (12, s.2)])
      (fun j s H1 g1 => g1 = g ∧ Ext H H1 ∧ H1[H.length]? = some (.row (ccells m s1 s2 s3 s4) 1 true) ∧ AppG enc1 1 H1 (H.length + 1) s.1 ((List.range j).map lF) ∧ AppG enc1 1 H1 (H.length + 1) s.2 ((List.range j).map mF) ∧
        (∀ i1 c1 d1 i2 c2 d2, s.1 = .slice (some ⟨i1, 0, none⟩) c1 d1 → s.2 = .slice (some ⟨i2, 0, none⟩) c2 d2 → i1 ≠ i2) ∧ H.length + 1 ≤ H1.length) 0 (.slice none 0 0, .slice none 0 0) (Nat.zero_le _)
      (by intro p hp; simp at hp; rcases hp with rfl | rfl | rfl <;> rfl) ⟨rfl, extA, getA, AppG.nil, AppG.nil, fun _ _ _ _ _ _ h => (by cases h), by simp⟩ ?_
    rintro j ⟨v1, v2⟩ H1 g1 hj ⟨rfl, he, hb0, hA, hB, hsep, hlen⟩ hlx
    simp only at hA hB hsep
    simp only [updT, maskT, List.set_cons_zero, List.set_cons_succ]
    rcases Nat.lt_or_ge j (hrs m) with hlt | hge
    · have hW := word_spec E g1 H1 wv ws j (hws.ext he) hwn hwb (by omega)
      have hwd := wordS_bd hwb j
      have eL : (List.range (j + 1)).map lF = (List.range j).map lF ++ [wordS ws j % 3] := by rw [List.range_succ, List.map_append, hlF]; rfl
      have eM : (List.range (j + 1)).map mF = (List.range j).map mF ++ [wordS ws j % 3 + wordS ws j / 8 % 2] := by rw [List.range_succ, List.map_append, hmF]; rfl
      rw [eL, eM]
      clear eL eM
      have lL : ((List.range j).map lF).length = j := by simp
      have lM : ((List.range j).map mF).length = j := by simp
      generalize (List.range j).map lF = la at *
      generalize (List.range j).map mF = lb at *
      generalize wordS ws j = x at *
      have hbnd1 : ∀ i c d, v1 = .slice (some ⟨i, 0, none⟩) c d → H.length + 1 ≤ i ∧ i < H1.length := by
        rintro i c d rfl
        rcases hA with ⟨h, _⟩ | ⟨i', h, hi', hn', _⟩
        · cases h
        · cases h
          exact ⟨hn', (List.getElem?_eq_some_iff.1 hi').1⟩
      have hbnd2 : ∀ i c d, v2 = .slice (some ⟨i, 0, none⟩) c d → H.length + 1 ≤ i ∧ i < H1.length := by
        rintro i c d rfl
        rcases hB with ⟨h, _⟩ | ⟨i', h, hi', hn', _⟩
        · cases h
        · cases h
          exact ⟨hn', (List.getElem?_eq_some_iff.1 hi').1⟩
      repeat' (first
        | (refine is_ucall ?_; first
          | refine st_callP (h := readyZ_spec _ _ _ m s1 s2 s3 s4 (hm.ext extA)) (k := ?_)
          | refine st_callP (h := awake_spec _ _ _) (k := ?_)
          | fail)
        | (refine is_umcall ?_; first
          | refine mj_callP (h := readyZ_spec _ _ _ m s1 s2 s3 s4 (hm.ext extA)) (k := ?_)
          | refine mj_callP (h := awake_spec _ _ _) (k := ?_)
          | fail)
        | ((fail_if_success (first | refine is_ucall ?_ | refine is_umcall ?_)); first | refine W1 ?_ | refine Wc ?_ | refine W2c ?_ ?_ | refine Wg ?_ | refine W2 ?_ ?_ | exact Wdead | refine Wlive (fun hb => ?_) | intro _ _ _ _ _ _ _ _ | refine We ?_ | refine Wx ?_ | refine Wt ?_ | refine Wm ?_ | refine W2m ?_ ?_ | refine Wl ?_)
        | fail)
      refine st_callP (h := hW) (k := ?_)
      clear hW
      refine OpsJ.normA ?_
      repeat' (first
        | (refine is_ucall ?_; first
          | refine st_callP (h := readyZ_spec _ _ _ m s1 s2 s3 s4 (hm.ext extA)) (k := ?_)
          | refine st_callP (h := awake_spec _ _ _) (k := ?_)
          | fail)
        | (refine is_umcall ?_; first
          | refine mj_callP (h := readyZ_spec _ _ _ m s1 s2 s3 s4 (hm.ext extA)) (k := ?_)
          | refine mj_callP (h := awake_spec _ _ _) (k := ?_)
          | fail)
        | ((fail_if_success (first | refine is_ucall ?_ | refine is_umcall ?_)); first | refine W1 ?_ | refine Wc ?_ | refine W2c ?_ ?_ | refine Wg ?_ | refine W2 ?_ ?_ | exact Wdead | refine Wlive (fun hb => ?_) | intro _ _ _ _ _ _ _ _ | refine We ?_ | refine Wx ?_ | refine Wt ?_ | refine Wm ?_ | refine W2m ?_ ?_ | refine Wl ?_)
        | fail)
      refine st_appX (enc := enc1) (a := x % 3) (hA.app _) rfl (fun _ => rfl) rfl rfl getA (by simp) rfl rfl (by simp; omega) (by omega) (by decide) ?_
      intro H2 hA2 hE hK hL
      have e0 := hK H.length _ (fun i l c h => by have := hbnd1 i l c h; omega) (get_old hb0)
      have hB2 : AppG enc1 1 H2 (H.length + 1) v2 lb := AppG.stay (hB.app _) fun i c d o h ho => hK i o (fun i1 c1 d1 h1 => (hsep _ _ _ _ _ _ h1 h).symm) ho
      have hE2 := hE H extA (by omega)
      simp only [List.length_append, List.length_cons, List.length_nil] at hL
      simp only [List.length_append, List.length_cons, List.length_nil, Nat.zero_add] at hA2
      clear hE hK
      refine OpsJ.normA ?_
      repeat' (first
        | (refine is_ucall ?_; first
          | refine st_callP (h := readyZ_spec _ _ _ m s1 s2 s3 s4 (hm.ext extA)) (k := ?_)
          | refine st_callP (h := awake_spec _ _ _) (k := ?_)
          | fail)
        | (refine is_umcall ?_; first
          | refine mj_callP (h := readyZ_spec _ _ _ m s1 s2 s3 s4 (hm.ext extA)) (k := ?_)
          | refine mj_callP (h := awake_spec _ _ _) (k := ?_)
          | fail)
        | ((fail_if_success (first | refine is_ucall ?_ | refine is_umcall ?_)); first | refine W1 ?_ | refine Wc ?_ | refine W2c ?_ ?_ | refine Wg ?_ | refine W2 ?_ ?_ | exact Wdead | refine Wlive (fun hb => ?_) | intro _ _ _ _ _ _ _ _ | refine We ?_ | refine Wx ?_ | refine Wt ?_ | refine Wm ?_ | refine W2m ?_ ?_ | refine Wl ?_)
        | fail)
      refine st_appX (enc := enc1) (a := x % 3 + x / 8 % 2) (hB2.app _) rfl (fun _ => rfl) rfl rfl getA (by simp) rfl rfl (by simp; omega) (by omega) (by decide) ?_
      intro H3 hB3 hE hK hL3
      have e1 := hK H.length _ (fun i l c h => by have := hbnd2 i l c h; omega) (get_old e0)
      have hA3 := AppG.stay (H2 := H3) (hA2.app _) fun i c d o h ho => hK i o (fun i1 c1 d1 h1 => by
        have := hbnd2 i1 _ _ h1
        cases h; omega) ho
      have hE3 := hE H extA (by omega)
      simp only [List.length_append, List.length_cons, List.length_nil] at hL3
      simp only [List.length_append, List.length_cons, List.length_nil, Nat.zero_add] at hB3
      clear hE hK
      refine OpsJ.normA ?_
      repeat' (first
        | (refine is_ucall ?_; first
          | refine st_callP (h := readyZ_spec _ _ _ m s1 s2 s3 s4 (hm.ext extA)) (k := ?_)
          | refine st_callP (h := awake_spec _ _ _) (k := ?_)
          | fail)
        | (refine is_umcall ?_; first
          | refine mj_callP (h := readyZ_spec _ _ _ m s1 s2 s3 s4 (hm.ext extA)) (k := ?_)
          | refine mj_callP (h := awake_spec _ _ _) (k := ?_)
          | fail)
        | ((fail_if_success (first | refine is_ucall ?_ | refine is_umcall ?_)); first | refine W1 ?_ | refine Wc ?_ | refine W2c ?_ ?_ | refine Wg ?_ | refine W2 ?_ ?_ | exact Wdead | refine Wlive (fun hb => ?_) | intro _ _ _ _ _ _ _ _ | refine We ?_ | refine Wx ?_ | refine Wt ?_ | refine Wm ?_ | refine W2m ?_ ?_ | refine Wl ?_)
        | fail)
      exact ⟨(_, _), hlt, (by repeat' (first | exact Weak.nil | refine Weak.wild ?_ | refine Weak.same ?_ | refine Weak.intEq (by first | omega | (simp; done) | (push_cast; omega)) ?_)), rfl, hE3, e1, hA3, hB3, fun i1 c1 d1 i2 c2 d2 h1 h2 => by cases h1; cases h2; omega, by omega⟩
    · obtain rfl : j = hrs m := by omega
      have hll2 : ((List.range (hrs m)).map lF).length = hrs m := by simp
      have hml2 : ((List.range (hrs m)).map mF).length = hrs m := by simp
      have hlb2 : ∀ x ∈ (List.range (hrs m)).map lF, 0 ≤ x ∧ x ≤ 20 := fun x hx => by
        obtain ⟨i, _, rfl⟩ := List.mem_map.1 hx
        rw [hlF]; have := wordS_bd hwb i; show 0 ≤ wordS ws i % 3 ∧ wordS ws i % 3 ≤ 20; omega
      have hmb2 : ∀ x ∈ (List.range (hrs m)).map mF, 0 ≤ x ∧ x ≤ 20 := fun x hx => by
        obtain ⟨i, _, rfl⟩ := List.mem_map.1 hx
        rw [hmF]; have := wordS_bd hwb i; show 0 ≤ wordS ws i % 3 + wordS ws i / 8 % 2 ∧ wordS ws i % 3 + wordS ws i / 8 % 2 ≤ 20; omega
      have hle : ∀ i, ((List.range (hrs m)).map lF).getD i 0 ≤ ((List.range (hrs m)).map mF).getD i 0 := fun i => by
        rcases Nat.lt_or_ge i (hrs m) with h | h
        · simp only [List.getD, List.getElem?_map, List.getElem?_range h, Option.map_some, Option.getD_some, hlF, hmF]
          have := wordS_bd hwb i; omega
        · simp only [List.getD]
          rw [List.getElem?_eq_none (by simpa using h), List.getElem?_eq_none (by simpa using h)]
          exact Int.le_refl _
      have toR : ∀ (v : Value) (l : List Int), l.length = hrs m → AppG enc1 1 H1 (H.length + 1) v l → RdS H1 v 1 (encI l) := fun v l hl h => by
        rcases h with ⟨_, h⟩ | ⟨i, rfl, hi, _, _⟩
        · rw [h] at hl; simp at hl; omega
        · rw [enc1_flat] at hi
          exact rd_encE hi (List.take_of_length_le (by simp [encE]))
      have hA := toR _ _ hll2 hA
      have hB := toR _ _ hml2 hB
      clear toR hsep hlF hmF
      generalize (List.range (hrs m)).map lF = la at *
      generalize (List.range (hrs m)).map mF = lb at *
      have hfl := for20 hG hll2 hlb2
      have hfm := for20 hG hml2 hmb2
      have hfz := for20 hG (List.length_replicate (n := hrs m) (a := (0 : Int))) (zeros_bd _)
      have hone : ∀ x : Int, 0 ≤ x ∧ x ≤ 20 → forHours m (oneL (hrs m) k x) 20 = true := fun x hx => for20 hG (one_len _ _ _) (one_bd hx)
      have hin : inR 0 m.last (k : Int) = true := by unfold inR; simp; omega
      have hNo : ∀ l : List Int, l.length ≤ 5 → l.length ≤ 1000000 := fun l h => by omega
      obtain ⟨e0, u, v, w, lf, ln, sv, se, hMl, hMm, hMz, hLk, hSp, key⟩ : ∃ e0 u v w lf ln sv se : Int,
          (∀ (g' : γ) (H' : AHeap) (u1 u2 u3 u4 mv : Value), CopIs H' m u1 u2 u3 u4 → RdS H' mv 1 (encI la) → CallJ Try.prog E 39 [cv m u1 u2 u3 u4, mv] (fun v2 H2 g2 => v2 = .tuple #[.int .i64 u, .int .i64 e0] ∧ H2 = H' ∧ g2 = g') H' g') ∧
          (∀ (g' : γ) (H' : AHeap) (u1 u2 u3 u4 mv : Value), CopIs H' m u1 u2 u3 u4 → RdS H' mv 1 (encI lb) → CallJ Try.prog E 39 [cv m u1 u2 u3 u4, mv] (fun v2 H2 g2 => v2 = .tuple #[.int .i64 v, .int .i64 e0] ∧ H2 = H' ∧ g2 = g') H' g') ∧
          (∀ (g' : Unit) (H' : AHeap) (u1 u2 u3 u4 mv : Value), CopIs H' m u1 u2 u3 u4 → RdS H' mv 1 (encI (List.replicate (hrs m) 0)) → CallJ Try.prog trivE 39 [cv m u1 u2 u3 u4, mv] (fun v2 H2 g2 => v2 = .tuple #[.int .i64 w, .int .i64 e0] ∧ H2 = H' ∧ g2 = g') H' g') ∧
          (∀ (g' : γ) (H' : AHeap) (u1 u2 u3 u4 : Value), CopIs H' m u1 u2 u3 u4 → CallJ Try.prog E 36 [cv m u1 u2 u3 u4] (fun v2 H2 g2 => v2 = .tuple #[.int .i64 ln, .int .i64 lf] ∧ H2 = H' ∧ g2 = g') H' g') ∧
          (∀ (g' : γ) (H' : AHeap) (u1 u2 u3 u4 : Value), CopIs H' m u1 u2 u3 u4 → CallJ Try.prog E 41 [cv m u1 u2 u3 u4, .int .i64 k] (fun v2 H2 g2 => v2 = .tuple #[.int .i64 sv, .int .i64 se] ∧ H2 = H' ∧ g2 = g') H' g') ∧
          ((e0 = 11 ∧ lf = 11 ∧ se = 11) ∨ (e0 = 0 ∧ ((v = 1 ∧ u = 1) ∨ (v = 2 ∧ u = 2) ∨ (v ≠ 1 ∧ u ≠ 2)) ∧ hasS m = true ∧
            ((w = 1 ∧ lf = 7 ∧ se = 0 ∧ (0 ≤ sv ∧ sv ≤ 20) ∧ moreV m (oneL (hrs m) k sv) = 1 ∧ ∀ x, sv < x → x ≤ 20 → moreV m (oneL (hrs m) k x) ≠ 1) ∨ (w ≠ 1 ∧ lf = 0 ∧ se = 10)))) := by
        have hT := checkT_good hG
        have hMo := fun {γ' : Type} (E' : Env γ') (g' : γ') (H' : AHeap) (u1 u2 u3 u4 mv : Value) (l : List Int) (hf : forHours m l 20 = true) (hl : l.length ≤ 1000000) (hu : CopIs H' m u1 u2 u3 u4) (hr : RdS H' mv 1 (encI l)) => More_spec E' g' H' m u1 u2 u3 u4 mv l hu hr hl
        cases hs : hasS m with
        | false =>
          rw [hs] at hT
          have hT : checkT m = 11 := hT
          have hn0 : checkT m ≠ 0 := by rw [hT]; decide
          have hE : ∀ l, forHours m l 20 = true → moreE m l = 11 := fun l hf => by rw [moreE_of hr.2 hf, hs]; rfl
          refine ⟨11, 0, 0, 0, 11, 0, 0, 11, fun g' H' u1 u2 u3 u4 mv hu hr => ?_, fun g' H' u1 u2 u3 u4 mv hu hr => ?_, fun g' H' u1 u2 u3 u4 mv hu hr => ?_, fun g' H' u1 u2 u3 u4 hu => ?_, fun g' H' u1 u2 u3 u4 hu => ?_, .inl ⟨rfl, rfl, rfl⟩⟩
          · have := hMo E g' H' u1 u2 u3 u4 mv la hfl (by omega) hu hr
            rw [hE _ hfl] at this; exact this
          · have := hMo E g' H' u1 u2 u3 u4 mv lb hfm (by omega) hu hr
            rw [hE _ hfm] at this; exact this
          · have := hMo trivE g' H' u1 u2 u3 u4 mv _ hfz (by simp; omega) hu hr
            rw [hE _ hfz] at this; exact this
          · have := Lacks_spec E g' H' m u1 u2 u3 u4 hu
            rw [if_neg hn0, hT] at this
            exact this
          · have := Spare_spec E g' H' m u1 u2 u3 u4 (k : Int) hu
            have e1 : spareE m (k : Int) = 11 := by unfold spareE; rw [if_pos hr.2, hin, hs]; rfl
            rw [e1] at this
            exact this
        | true =>
          rw [hs] at hT
          have hT : checkT m = 0 := hT
          have hE : ∀ l, forHours m l 20 = true → moreE m l = 0 := fun l hf => by rw [moreE_of hr.2 hf, hs]; rfl
          have hal := lacks_all hG
          have hza := zero_always hG
          obtain ⟨ln, lf, hLk, hlf⟩ : ∃ ln lf : Int, (∀ (g' : γ) (H' : AHeap) (u1 u2 u3 u4 : Value), CopIs H' m u1 u2 u3 u4 → CallJ Try.prog E 36 [cv m u1 u2 u3 u4] (fun v2 H2 g2 => v2 = .tuple #[.int .i64 ln, .int .i64 lf] ∧ H2 = H' ∧ g2 = g') H' g') ∧ ((allKept m = true ∧ lf = 7) ∨ (allKept m = false ∧ lf = 0)) := by
            cases hf : lacksF m (hrs m) with
            | none =>
              rw [hf] at hal
              refine ⟨0, 7, fun g' H' u1 u2 u3 u4 hu => ?_, .inl ⟨hal.symm, rfl⟩⟩
              have := Lacks_spec E g' H' m u1 u2 u3 u4 hu
              rw [if_pos hT, hf] at this
              exact this
            | some j =>
              rw [hf] at hal
              refine ⟨j, 0, fun g' H' u1 u2 u3 u4 hu => ?_, .inr ⟨hal.symm, rfl⟩⟩
              have := Lacks_spec E g' H' m u1 u2 u3 u4 hu
              rw [if_pos hT, hf] at this
              exact this
          have huv : ((moreV m lb = 1 ∧ moreV m la = 1) ∨ (moreV m lb = 2 ∧ moreV m la = 2) ∨ (moreV m lb ≠ 1 ∧ moreV m la ≠ 2)) := by
            have h1 := more_always hG hlb2 hmb2 hle
            have h2 := more_never hG hs hlb2 hmb2 hle
            by_cases e1 : moreV m lb = 1
            · exact .inl ⟨e1, h1 e1⟩
            · by_cases e2 : moreV m la = 2
              · exact .inr (.inl ⟨h2 e2, e2⟩)
              · exact .inr (.inr ⟨e1, e2⟩)
          have hsE : spareE m (k : Int) = if allKept m then 0 else 10 := by unfold spareE; rw [if_pos hr.2, hin, hs]; rfl
          refine ⟨0, moreV m la, moreV m lb, moreV m (List.replicate (hrs m) 0), lf, ln, if spareE m (k : Int) = 0 then spareS m (k : Int).toNat 20 else 0, spareE m (k : Int), fun g' H' u1 u2 u3 u4 mv hu hr => ?_, fun g' H' u1 u2 u3 u4 mv hu hr => ?_, fun g' H' u1 u2 u3 u4 mv hu hr => ?_, hLk, fun g' H' u1 u2 u3 u4 hu => Spare_spec E g' H' m u1 u2 u3 u4 (k : Int) hu, .inr ⟨rfl, huv, rfl, ?_⟩⟩
          · have := hMo E g' H' u1 u2 u3 u4 mv la hfl (by omega) hu hr
            rw [hE _ hfl] at this; exact this
          · have := hMo E g' H' u1 u2 u3 u4 mv lb hfm (by omega) hu hr
            rw [hE _ hfm] at this; exact this
          · have := hMo trivE g' H' u1 u2 u3 u4 mv _ hfz (by simp; omega) hu hr
            rw [hE _ hfz] at this; exact this
          · rcases hlf with ⟨ha, rfl⟩ | ⟨ha, rfl⟩
            · left
              obtain ⟨i1, i2, i3⟩ := spareS_is m hG k ha 20
              rw [hsE, ha]
              refine ⟨hza.2 ha, rfl, rfl, ?_, ?_, ?_⟩
              · exact i1
              · exact (single_always m k _).2 i2
              · exact fun x h1 h2 h3 => by
                  have := i3 x h1 h2
                  rw [(single_always m k x).1 h3] at this; cases this
            · right
              refine ⟨fun h => ?_, rfl, by rw [hsE, ha]; rfl⟩
              rw [hza.1 h] at ha; cases ha
      have hsing := fun (g' : Unit) (H' : AHeap) (u1 u2 u3 u4 mv : Value) (x : Int) (hx : 0 ≤ x ∧ x ≤ 20) (hS : hasS m = true) (hu : CopIs H' m u1 u2 u3 u4) (hrd : RdS H' mv 1 (encI (oneL (hrs m) k x))) => (by
        have h1 := More_spec trivE g' H' m u1 u2 u3 u4 mv _ hu hrd (by rw [one_len]; omega)
        rw [moreE_of hr.2 (hone x hx), hS] at h1
        exact h1 : CallJ Try.prog trivE 39 [cv m u1 u2 u3 u4, mv] (fun v2 H2 g2 => v2 = .tuple #[.int .i64 (moreV m (oneL (hrs m) k x)), .int .i64 0] ∧ H2 = H' ∧ g2 = g') H' g')
      have hb1 := hb0
      have x1 := he
      clear hb0 he hfl hfm hfz hone hle hlb2 hmb2 hwb hws
      repeat' (first
        | (refine is_ucall ?_; first
          | refine st_callP (h := readyZ_spec _ _ _ m s1 s2 s3 s4 (hm.ext extA)) (k := ?_)
          | refine st_callP (h := awake_spec _ _ _) (k := ?_)
          | fail)
        | (refine is_umcall ?_; first
          | refine mj_callP (h := readyZ_spec _ _ _ m s1 s2 s3 s4 (hm.ext extA)) (k := ?_)
          | refine mj_callP (h := awake_spec _ _ _) (k := ?_)
          | fail)
        | ((fail_if_success (first | refine is_ucall ?_ | refine is_umcall ?_)); first | refine W1 ?_ | refine Wc ?_ | refine W2c ?_ ?_ | refine Wg ?_ | refine W2 ?_ ?_ | exact Wdead | refine Wlive (fun hb => ?_) | intro _ _ _ _ _ _ _ _ | refine We ?_ | refine Wx ?_ | refine Wt ?_ | refine Wm ?_ | refine W2m ?_ ?_ | refine Wl ?_)
        | fail)
      refine st_call rfl (Copper_w E _ _ m s1 s2 s3 s4 ?_ (by omega) (by omega)) ?_
      · exact (hI.ext x1).y
      rintro _ H2' _ ⟨⟨t1, t2, t3, t4, rfl, hmt, ee⟩, rfl⟩
      have hb2 := ee.get hb1
      have x2 := x1.trans ee
      replace hA := hA.ext ee
      replace hB := hB.ext ee
      clear ee hb1 x1
      refine OpsJ.normA ?_
      repeat' (first
        | (refine is_ucall ?_; first
          | refine st_callP (h := readyZ_spec _ _ _ m s1 s2 s3 s4 (hm.ext extA)) (k := ?_)
          | refine st_callP (h := awake_spec _ _ _) (k := ?_)
          | fail)
        | (refine is_umcall ?_; first
          | refine mj_callP (h := readyZ_spec _ _ _ m s1 s2 s3 s4 (hm.ext extA)) (k := ?_)
          | refine mj_callP (h := awake_spec _ _ _) (k := ?_)
          | fail)
        | ((fail_if_success (first | refine is_ucall ?_ | refine is_umcall ?_)); first | refine W1 ?_ | refine Wc ?_ | refine W2c ?_ ?_ | refine Wg ?_ | refine W2 ?_ ?_ | exact Wdead | refine Wlive (fun hb => ?_) | intro _ _ _ _ _ _ _ _ | refine We ?_ | refine Wx ?_ | refine Wt ?_ | refine Wm ?_ | refine W2m ?_ ?_ | refine Wl ?_)
        | fail)
      refine st_call rfl (list_w2 E _ _ v1 la hA (by omega)) ?_
      rintro lv H3' _ ⟨⟨hlv, ee⟩, rfl⟩
      replace hmt := hmt.ext ee
      have hb3 := ee.get hb2
      have x3 := x2.trans ee
      replace hA := hA.ext ee
      replace hB := hB.ext ee
      clear ee hb2 x2
      refine OpsJ.normA ?_
      repeat' (first
        | (refine is_ucall ?_; first
          | refine st_callP (h := readyZ_spec _ _ _ m s1 s2 s3 s4 (hm.ext extA)) (k := ?_)
          | refine st_callP (h := awake_spec _ _ _) (k := ?_)
          | fail)
        | (refine is_umcall ?_; first
          | refine mj_callP (h := readyZ_spec _ _ _ m s1 s2 s3 s4 (hm.ext extA)) (k := ?_)
          | refine mj_callP (h := awake_spec _ _ _) (k := ?_)
          | fail)
        | ((fail_if_success (first | refine is_ucall ?_ | refine is_umcall ?_)); first | refine W1 ?_ | refine Wc ?_ | refine W2c ?_ ?_ | refine Wg ?_ | refine W2 ?_ ?_ | exact Wdead | refine Wlive (fun hb => ?_) | intro _ _ _ _ _ _ _ _ | refine We ?_ | refine Wx ?_ | refine Wt ?_ | refine Wm ?_ | refine W2m ?_ ?_ | refine Wl ?_)
        | fail)
      refine st_callP (h := hMl _ _ t1 t2 t3 t4 lv hmt hlv) (k := ?_)
      clear hmt hlv
      refine OpsJ.normA ?_
      repeat' (first
        | (refine is_ucall ?_; first
          | refine st_callP (h := readyZ_spec _ _ _ m s1 s2 s3 s4 (hm.ext extA)) (k := ?_)
          | refine st_callP (h := awake_spec _ _ _) (k := ?_)
          | fail)
        | (refine is_umcall ?_; first
          | refine mj_callP (h := readyZ_spec _ _ _ m s1 s2 s3 s4 (hm.ext extA)) (k := ?_)
          | refine mj_callP (h := awake_spec _ _ _) (k := ?_)
          | fail)
        | ((fail_if_success (first | refine is_ucall ?_ | refine is_umcall ?_)); first | refine W1 ?_ | refine Wc ?_ | refine W2c ?_ ?_ | refine Wg ?_ | refine W2 ?_ ?_ | exact Wdead | refine Wlive (fun hb => ?_) | intro _ _ _ _ _ _ _ _ | refine We ?_ | refine Wx ?_ | refine Wt ?_ | refine Wm ?_ | refine W2m ?_ ?_ | refine Wl ?_)
        | fail)
      refine st_call rfl (Copper_w E _ _ m s1 s2 s3 s4 ?_ (by omega) (by omega)) ?_
      · exact (hI.ext x3).y
      rintro _ H4' _ ⟨⟨t1, t2, t3, t4, rfl, hmt, ee⟩, rfl⟩
      have hb4 := ee.get hb3
      have x4 := x3.trans ee
      replace hA := hA.ext ee
      replace hB := hB.ext ee
      clear ee hb3 x3
      refine OpsJ.normA ?_
      repeat' (first
        | (refine is_ucall ?_; first
          | refine st_callP (h := readyZ_spec _ _ _ m s1 s2 s3 s4 (hm.ext extA)) (k := ?_)
          | refine st_callP (h := awake_spec _ _ _) (k := ?_)
          | fail)
        | (refine is_umcall ?_; first
          | refine mj_callP (h := readyZ_spec _ _ _ m s1 s2 s3 s4 (hm.ext extA)) (k := ?_)
          | refine mj_callP (h := awake_spec _ _ _) (k := ?_)
          | fail)
        | ((fail_if_success (first | refine is_ucall ?_ | refine is_umcall ?_)); first | refine W1 ?_ | refine Wc ?_ | refine W2c ?_ ?_ | refine Wg ?_ | refine W2 ?_ ?_ | exact Wdead | refine Wlive (fun hb => ?_) | intro _ _ _ _ _ _ _ _ | refine We ?_ | refine Wx ?_ | refine Wt ?_ | refine Wm ?_ | refine W2m ?_ ?_ | refine Wl ?_)
        | fail)
      refine st_call rfl (list_w2 E _ _ v2 lb hB (by omega)) ?_
      rintro lv H5' _ ⟨⟨hlv, ee⟩, rfl⟩
      replace hmt := hmt.ext ee
      have hb5 := ee.get hb4
      have x5 := x4.trans ee
      replace hA := hA.ext ee
      replace hB := hB.ext ee
      clear ee hb4 x4
      refine OpsJ.normA ?_
      repeat' (first
        | (refine is_ucall ?_; first
          | refine st_callP (h := readyZ_spec _ _ _ m s1 s2 s3 s4 (hm.ext extA)) (k := ?_)
          | refine st_callP (h := awake_spec _ _ _) (k := ?_)
          | fail)
        | (refine is_umcall ?_; first
          | refine mj_callP (h := readyZ_spec _ _ _ m s1 s2 s3 s4 (hm.ext extA)) (k := ?_)
          | refine mj_callP (h := awake_spec _ _ _) (k := ?_)
          | fail)
        | ((fail_if_success (first | refine is_ucall ?_ | refine is_umcall ?_)); first | refine W1 ?_ | refine Wc ?_ | refine W2c ?_ ?_ | refine Wg ?_ | refine W2 ?_ ?_ | exact Wdead | refine Wlive (fun hb => ?_) | intro _ _ _ _ _ _ _ _ | refine We ?_ | refine Wx ?_ | refine Wt ?_ | refine Wm ?_ | refine W2m ?_ ?_ | refine Wl ?_)
        | fail)
      refine st_callP (h := hMm _ _ t1 t2 t3 t4 lv hmt hlv) (k := ?_)
      clear hmt hlv
      refine OpsJ.normA ?_
      repeat' (first
        | (refine is_ucall ?_; first
          | refine st_callP (h := readyZ_spec _ _ _ m s1 s2 s3 s4 (hm.ext extA)) (k := ?_)
          | refine st_callP (h := awake_spec _ _ _) (k := ?_)
          | fail)
        | (refine is_umcall ?_; first
          | refine mj_callP (h := readyZ_spec _ _ _ m s1 s2 s3 s4 (hm.ext extA)) (k := ?_)
          | refine mj_callP (h := awake_spec _ _ _) (k := ?_)
          | fail)
        | ((fail_if_success (first | refine is_ucall ?_ | refine is_umcall ?_)); first | refine W1 ?_ | refine Wc ?_ | refine W2c ?_ ?_ | refine Wg ?_ | refine W2 ?_ ?_ | exact Wdead | refine Wlive (fun hb => ?_) | intro _ _ _ _ _ _ _ _ | refine We ?_ | refine Wx ?_ | refine Wt ?_ | refine Wm ?_ | refine W2m ?_ ?_ | refine Wl ?_)
        | fail)
      clear hA hB
      refine WPJ.draw 12 mixed (by kernel_rfl) (by kernel_rfl) (by kernel_rfl) (by decide) ?_
      refine MonoJ.normA ?_
      repeat' (first
        | (refine is_ucall ?_; first
          | refine st_callP (h := readyZ_spec _ _ _ m s1 s2 s3 s4 (hm.ext extA)) (k := ?_)
          | refine st_callP (h := awake_spec _ _ _) (k := ?_)
          | fail)
        | (refine is_umcall ?_; first
          | refine mj_callP (h := readyZ_spec _ _ _ m s1 s2 s3 s4 (hm.ext extA)) (k := ?_)
          | refine mj_callP (h := awake_spec _ _ _) (k := ?_)
          | fail)
        | ((fail_if_success (first | refine is_ucall ?_ | refine is_umcall ?_)); first | refine W1 ?_ | refine Wc ?_ | refine W2c ?_ ?_ | refine Wg ?_ | refine W2 ?_ ?_ | exact Wdead | refine Wlive (fun hb => ?_) | intro _ _ _ _ _ _ _ _ | refine We ?_ | refine Wx ?_ | refine Wt ?_ | refine Wm ?_ | refine W2m ?_ ?_ | refine Wl ?_)
        | fail)
      refine mj_copperM rfl (hI.ext x5).y (by omega) (by omega) ?_
      intro H6' t1 t2 t3 t4 hmt ee
      have hb6 := ee.get hb5
      have x6 := x5.trans ee
      clear ee hb5 x5
      refine MonoJ.normA ?_
      repeat' (first
        | (refine is_ucall ?_; first
          | refine st_callP (h := readyZ_spec _ _ _ m s1 s2 s3 s4 (hm.ext extA)) (k := ?_)
          | refine st_callP (h := awake_spec _ _ _) (k := ?_)
          | fail)
        | (refine is_umcall ?_; first
          | refine mj_callP (h := readyZ_spec _ _ _ m s1 s2 s3 s4 (hm.ext extA)) (k := ?_)
          | refine mj_callP (h := awake_spec _ _ _) (k := ?_)
          | fail)
        | ((fail_if_success (first | refine is_ucall ?_ | refine is_umcall ?_)); first | refine W1 ?_ | refine Wc ?_ | refine W2c ?_ ?_ | refine Wg ?_ | refine W2 ?_ ?_ | exact Wdead | refine Wlive (fun hb => ?_) | intro _ _ _ _ _ _ _ _ | refine We ?_ | refine Wx ?_ | refine Wt ?_ | refine Wm ?_ | refine W2m ?_ ?_ | refine Wl ?_)
        | fail)
      refine mj_makeInts (n := hrs m) rfl rfl (by omega) (by omega) ?_
      intro H7' zv hzv ee
      replace hmt := hmt.ext ee
      have hb7 := ee.get hb6
      have x7 := x6.trans ee
      clear ee hb6 x6
      refine MonoJ.normA ?_
      repeat' (first
        | (refine is_ucall ?_; first
          | refine st_callP (h := readyZ_spec _ _ _ m s1 s2 s3 s4 (hm.ext extA)) (k := ?_)
          | refine st_callP (h := awake_spec _ _ _) (k := ?_)
          | fail)
        | (refine is_umcall ?_; first
          | refine mj_callP (h := readyZ_spec _ _ _ m s1 s2 s3 s4 (hm.ext extA)) (k := ?_)
          | refine mj_callP (h := awake_spec _ _ _) (k := ?_)
          | fail)
        | ((fail_if_success (first | refine is_ucall ?_ | refine is_umcall ?_)); first | refine W1 ?_ | refine Wc ?_ | refine W2c ?_ ?_ | refine Wg ?_ | refine W2 ?_ ?_ | exact Wdead | refine Wlive (fun hb => ?_) | intro _ _ _ _ _ _ _ _ | refine We ?_ | refine Wx ?_ | refine Wt ?_ | refine Wm ?_ | refine W2m ?_ ?_ | refine Wl ?_)
        | fail)
      refine mj_callP (h := hMz _ _ t1 t2 t3 t4 zv hmt hzv) (k := ?_)
      clear hmt hzv
      refine MonoJ.normA ?_
      repeat' (first
        | (refine is_ucall ?_; first
          | refine st_callP (h := readyZ_spec _ _ _ m s1 s2 s3 s4 (hm.ext extA)) (k := ?_)
          | refine st_callP (h := awake_spec _ _ _) (k := ?_)
          | fail)
        | (refine is_umcall ?_; first
          | refine mj_callP (h := readyZ_spec _ _ _ m s1 s2 s3 s4 (hm.ext extA)) (k := ?_)
          | refine mj_callP (h := awake_spec _ _ _) (k := ?_)
          | fail)
        | ((fail_if_success (first | refine is_ucall ?_ | refine is_umcall ?_)); first | refine W1 ?_ | refine Wc ?_ | refine W2c ?_ ?_ | refine Wg ?_ | refine W2 ?_ ?_ | exact Wdead | refine Wlive (fun hb => ?_) | intro _ _ _ _ _ _ _ _ | refine We ?_ | refine Wx ?_ | refine Wt ?_ | refine Wm ?_ | refine W2m ?_ ?_ | refine Wl ?_)
        | fail)
      refine st_call rfl (Copper_w E _ _ m s1 s2 s3 s4 ?_ (by omega) (by omega)) ?_
      · exact (hI.ext x7).y
      rintro _ H8' _ ⟨⟨t1, t2, t3, t4, rfl, hmt, ee⟩, rfl⟩
      have hb8 := ee.get hb7
      have x8 := x7.trans ee
      clear ee hb7 x7
      refine OpsJ.normA ?_
      repeat' (first
        | (refine is_ucall ?_; first
          | refine st_callP (h := readyZ_spec _ _ _ m s1 s2 s3 s4 (hm.ext extA)) (k := ?_)
          | refine st_callP (h := awake_spec _ _ _) (k := ?_)
          | fail)
        | (refine is_umcall ?_; first
          | refine mj_callP (h := readyZ_spec _ _ _ m s1 s2 s3 s4 (hm.ext extA)) (k := ?_)
          | refine mj_callP (h := awake_spec _ _ _) (k := ?_)
          | fail)
        | ((fail_if_success (first | refine is_ucall ?_ | refine is_umcall ?_)); first | refine W1 ?_ | refine Wc ?_ | refine W2c ?_ ?_ | refine Wg ?_ | refine W2 ?_ ?_ | exact Wdead | refine Wlive (fun hb => ?_) | intro _ _ _ _ _ _ _ _ | refine We ?_ | refine Wx ?_ | refine Wt ?_ | refine Wm ?_ | refine W2m ?_ ?_ | refine Wl ?_)
        | fail)
      refine st_callP (h := hLk _ _ t1 t2 t3 t4 hmt) (k := ?_)
      clear hmt
      refine OpsJ.normA ?_
      repeat' (first
        | (refine is_ucall ?_; first
          | refine st_callP (h := readyZ_spec _ _ _ m s1 s2 s3 s4 (hm.ext extA)) (k := ?_)
          | refine st_callP (h := awake_spec _ _ _) (k := ?_)
          | fail)
        | (refine is_umcall ?_; first
          | refine mj_callP (h := readyZ_spec _ _ _ m s1 s2 s3 s4 (hm.ext extA)) (k := ?_)
          | refine mj_callP (h := awake_spec _ _ _) (k := ?_)
          | fail)
        | ((fail_if_success (first | refine is_ucall ?_ | refine is_umcall ?_)); first | refine W1 ?_ | refine Wc ?_ | refine W2c ?_ ?_ | refine Wg ?_ | refine W2 ?_ ?_ | exact Wdead | refine Wlive (fun hb => ?_) | intro _ _ _ _ _ _ _ _ | refine We ?_ | refine Wx ?_ | refine Wt ?_ | refine Wm ?_ | refine W2m ?_ ?_ | refine Wl ?_)
        | fail)
      refine st_call rfl (Copper_w E _ _ m s1 s2 s3 s4 ?_ (by omega) (by omega)) ?_
      · exact (hI.ext x8).y
      rintro _ H9' _ ⟨⟨t1, t2, t3, t4, rfl, hmt, ee⟩, rfl⟩
      have hb9 := ee.get hb8
      have x9 := x8.trans ee
      clear ee hb8 x8
      refine OpsJ.normA ?_
      repeat' (first
        | (refine is_ucall ?_; first
          | refine st_callP (h := readyZ_spec _ _ _ m s1 s2 s3 s4 (hm.ext extA)) (k := ?_)
          | refine st_callP (h := awake_spec _ _ _) (k := ?_)
          | fail)
        | (refine is_umcall ?_; first
          | refine mj_callP (h := readyZ_spec _ _ _ m s1 s2 s3 s4 (hm.ext extA)) (k := ?_)
          | refine mj_callP (h := awake_spec _ _ _) (k := ?_)
          | fail)
        | ((fail_if_success (first | refine is_ucall ?_ | refine is_umcall ?_)); first | refine W1 ?_ | refine Wc ?_ | refine W2c ?_ ?_ | refine Wg ?_ | refine W2 ?_ ?_ | exact Wdead | refine Wlive (fun hb => ?_) | intro _ _ _ _ _ _ _ _ | refine We ?_ | refine Wx ?_ | refine Wt ?_ | refine Wm ?_ | refine W2m ?_ ?_ | refine Wl ?_)
        | fail)
      refine st_callP (h := hSp _ _ t1 t2 t3 t4 hmt) (k := ?_)
      clear hmt
      clear hMl hMm hMz hLk hSp
      rcases key with ⟨rfl, rfl, rfl⟩ | ⟨rfl, huv, hS, hw⟩
      · skip
        refine OpsJ.normA ?_
        repeat' (first
          | (refine is_ucall ?_; first
            | refine st_callP (h := readyZ_spec _ _ _ m s1 s2 s3 s4 (hm.ext extA)) (k := ?_)
            | refine st_callP (h := awake_spec _ _ _) (k := ?_)
            | fail)
          | (refine is_umcall ?_; first
            | refine mj_callP (h := readyZ_spec _ _ _ m s1 s2 s3 s4 (hm.ext extA)) (k := ?_)
            | refine mj_callP (h := awake_spec _ _ _) (k := ?_)
            | fail)
          | ((fail_if_success (first | refine is_ucall ?_ | refine is_umcall ?_)); first | refine W1 ?_ | refine Wc ?_ | refine W2c ?_ ?_ | refine Wg ?_ | refine W2 ?_ ?_ | exact Wdead | refine Wlive (fun hb => ?_) | intro _ _ _ _ _ _ _ _ | refine We ?_ | refine Wx ?_ | refine Wt ?_ | refine Wm ?_ | refine W2m ?_ ?_ | refine Wl ?_)
          | fail)
        all_goals first | exact ⟨rfl, rfl, rfl⟩ | exact absurd trivial (by assumption) | exact absurd rfl (by assumption) | (exfalso; omega) | exact absurd hw1 hb | trace_state
      · rcases hw with ⟨rfl, rfl, rfl, hsv, hx1, hx2⟩ | ⟨hw, rfl, rfl⟩
        · have hIn := fun (g' : γ) (H' : AHeap) => In_spec E g' H' sv 0 20
          have hin20 : inR 0 20 sv = true := by unfold inR; simp; omega
          rw [hin20] at hIn
          rcases huv with ⟨rfl, rfl⟩ | ⟨rfl, rfl⟩ | ⟨hv1, hu2⟩
          · skip
            refine OpsJ.normA ?_
            repeat' (first
              | (refine is_ucall ?_; first
                | refine st_callP (h := readyZ_spec _ _ _ m s1 s2 s3 s4 (hm.ext extA)) (k := ?_)
                | refine st_callP (h := awake_spec _ _ _) (k := ?_)
                | fail)
              | (refine is_umcall ?_; first
                | refine mj_callP (h := readyZ_spec _ _ _ m s1 s2 s3 s4 (hm.ext extA)) (k := ?_)
                | refine mj_callP (h := awake_spec _ _ _) (k := ?_)
                | fail)
              | ((fail_if_success (first | refine is_ucall ?_ | refine is_umcall ?_)); first | refine W1 ?_ | refine Wc ?_ | refine W2c ?_ ?_ | refine Wg ?_ | refine W2 ?_ ?_ | exact Wdead | refine Wlive (fun hb => ?_) | intro _ _ _ _ _ _ _ _ | refine We ?_ | refine Wx ?_ | refine Wt ?_ | refine Wm ?_ | refine W2m ?_ ?_ | refine Wl ?_)
              | fail)
            all_goals first | exact ⟨rfl, rfl, rfl⟩ | exact absurd trivial (by assumption) | exact absurd rfl (by assumption) | (exfalso; omega) | exact absurd hw1 hb | skip
            refine st_callP (h := hIn _ _) (k := ?_)
            refine OpsJ.normA ?_
            repeat' (first
              | (refine is_ucall ?_; first
                | refine st_callP (h := readyZ_spec _ _ _ m s1 s2 s3 s4 (hm.ext extA)) (k := ?_)
                | refine st_callP (h := awake_spec _ _ _) (k := ?_)
                | fail)
              | (refine is_umcall ?_; first
                | refine mj_callP (h := readyZ_spec _ _ _ m s1 s2 s3 s4 (hm.ext extA)) (k := ?_)
                | refine mj_callP (h := awake_spec _ _ _) (k := ?_)
                | fail)
              | ((fail_if_success (first | refine is_ucall ?_ | refine is_umcall ?_)); first | refine W1 ?_ | refine Wc ?_ | refine W2c ?_ ?_ | refine Wg ?_ | refine W2 ?_ ?_ | exact Wdead | refine Wlive (fun hb => ?_) | intro _ _ _ _ _ _ _ _ | refine We ?_ | refine Wx ?_ | refine Wt ?_ | refine Wm ?_ | refine W2m ?_ ?_ | refine Wl ?_)
              | fail)
            refine WPJ.draw 12 mixed (by kernel_rfl) (by kernel_rfl) (by kernel_rfl) (by decide) ?_
            refine MonoJ.normA ?_
            repeat' (first
              | (refine is_ucall ?_; first
                | refine st_callP (h := readyZ_spec _ _ _ m s1 s2 s3 s4 (hm.ext extA)) (k := ?_)
                | refine st_callP (h := awake_spec _ _ _) (k := ?_)
                | fail)
              | (refine is_umcall ?_; first
                | refine mj_callP (h := readyZ_spec _ _ _ m s1 s2 s3 s4 (hm.ext extA)) (k := ?_)
                | refine mj_callP (h := awake_spec _ _ _) (k := ?_)
                | fail)
              | ((fail_if_success (first | refine is_ucall ?_ | refine is_umcall ?_)); first | refine W1 ?_ | refine Wc ?_ | refine W2c ?_ ?_ | refine Wg ?_ | refine W2 ?_ ?_ | exact Wdead | refine Wlive (fun hb => ?_) | intro _ _ _ _ _ _ _ _ | refine We ?_ | refine Wx ?_ | refine Wt ?_ | refine Wm ?_ | refine W2m ?_ ?_ | refine Wl ?_)
              | fail)
            refine mj_copperM rfl (hI.ext x9).y (by omega) (by omega) ?_
            intro Ha t1 t2 t3 t4 hmt ea
            have hba := ea.get hb9
            refine MonoJ.normA ?_
            repeat' (first
              | (refine is_ucall ?_; first
                | refine st_callP (h := readyZ_spec _ _ _ m s1 s2 s3 s4 (hm.ext extA)) (k := ?_)
                | refine st_callP (h := awake_spec _ _ _) (k := ?_)
                | fail)
              | (refine is_umcall ?_; first
                | refine mj_callP (h := readyZ_spec _ _ _ m s1 s2 s3 s4 (hm.ext extA)) (k := ?_)
                | refine mj_callP (h := awake_spec _ _ _) (k := ?_)
                | fail)
              | ((fail_if_success (first | refine is_ucall ?_ | refine is_umcall ?_)); first | refine W1 ?_ | refine Wc ?_ | refine W2c ?_ ?_ | refine Wg ?_ | refine W2 ?_ ?_ | exact Wdead | refine Wlive (fun hb => ?_) | intro _ _ _ _ _ _ _ _ | refine We ?_ | refine Wx ?_ | refine Wt ?_ | refine Wm ?_ | refine W2m ?_ ?_ | refine Wl ?_)
              | fail)
            refine mj_single rfl (hI.ext (x9.trans ea)).y hG.w hk ?_
            intro Hb ov hov eb
            have hbb := eb.get hba
            have xb := x9.trans (ea.trans eb)
            refine MonoJ.normA ?_
            repeat' (first
              | (refine is_ucall ?_; first
                | refine st_callP (h := readyZ_spec _ _ _ m s1 s2 s3 s4 (hm.ext extA)) (k := ?_)
                | refine st_callP (h := awake_spec _ _ _) (k := ?_)
                | fail)
              | (refine is_umcall ?_; first
                | refine mj_callP (h := readyZ_spec _ _ _ m s1 s2 s3 s4 (hm.ext extA)) (k := ?_)
                | refine mj_callP (h := awake_spec _ _ _) (k := ?_)
                | fail)
              | ((fail_if_success (first | refine is_ucall ?_ | refine is_umcall ?_)); first | refine W1 ?_ | refine Wc ?_ | refine W2c ?_ ?_ | refine Wg ?_ | refine W2 ?_ ?_ | exact Wdead | refine Wlive (fun hb => ?_) | intro _ _ _ _ _ _ _ _ | refine We ?_ | refine Wx ?_ | refine Wt ?_ | refine Wm ?_ | refine W2m ?_ ?_ | refine Wl ?_)
              | fail)
            refine mj_callP (h := hsing _ _ t1 t2 t3 t4 ov sv hsv hS (hmt.ext eb) hov) (k := ?_)
            rw [hx1]
            clear hmt hov ea eb hba
            refine MonoJ.normA ?_
            repeat' (first
              | (refine is_ucall ?_; first
                | refine st_callP (h := readyZ_spec _ _ _ m s1 s2 s3 s4 (hm.ext extA)) (k := ?_)
                | refine st_callP (h := awake_spec _ _ _) (k := ?_)
                | fail)
              | (refine is_umcall ?_; first
                | refine mj_callP (h := readyZ_spec _ _ _ m s1 s2 s3 s4 (hm.ext extA)) (k := ?_)
                | refine mj_callP (h := awake_spec _ _ _) (k := ?_)
                | fail)
              | ((fail_if_success (first | refine is_ucall ?_ | refine is_umcall ?_)); first | refine W1 ?_ | refine Wc ?_ | refine W2c ?_ ?_ | refine Wg ?_ | refine W2 ?_ ?_ | exact Wdead | refine Wlive (fun hb => ?_) | intro _ _ _ _ _ _ _ _ | refine We ?_ | refine Wx ?_ | refine Wt ?_ | refine Wm ?_ | refine W2m ?_ ?_ | refine Wl ?_)
              | fail)
            all_goals first | exact ⟨rfl, rfl, rfl⟩ | exact absurd trivial (by assumption) | exact absurd rfl (by assumption) | (exfalso; omega) | exact absurd hw1 hb | skip
            have hs20 : sv + d ≤ 20 := by omega
            have hy := hx2 (sv + d) (by omega) hs20
            refine WPJ.draw 14 mixed (by kernel_rfl) (by kernel_rfl) (by kernel_rfl) (by decide) ?_
            refine MonoJ.normA ?_
            repeat' (first
              | (refine is_ucall ?_; first
                | refine st_callP (h := readyZ_spec _ _ _ m s1 s2 s3 s4 (hm.ext extA)) (k := ?_)
                | refine st_callP (h := awake_spec _ _ _) (k := ?_)
                | fail)
              | (refine is_umcall ?_; first
                | refine mj_callP (h := readyZ_spec _ _ _ m s1 s2 s3 s4 (hm.ext extA)) (k := ?_)
                | refine mj_callP (h := awake_spec _ _ _) (k := ?_)
                | fail)
              | ((fail_if_success (first | refine is_ucall ?_ | refine is_umcall ?_)); first | refine W1 ?_ | refine Wc ?_ | refine W2c ?_ ?_ | refine Wg ?_ | refine W2 ?_ ?_ | exact Wdead | refine Wlive (fun hb => ?_) | intro _ _ _ _ _ _ _ _ | refine We ?_ | refine Wx ?_ | refine Wt ?_ | refine Wm ?_ | refine W2m ?_ ?_ | refine Wl ?_)
              | fail)
            refine mj_copperM rfl (hI.ext xb).y (by omega) (by omega) ?_
            intro Hc t1 t2 t3 t4 hmt ec
            have hbc := ec.get hbb
            refine MonoJ.normA ?_
            repeat' (first
              | (refine is_ucall ?_; first
                | refine st_callP (h := readyZ_spec _ _ _ m s1 s2 s3 s4 (hm.ext extA)) (k := ?_)
                | refine st_callP (h := awake_spec _ _ _) (k := ?_)
                | fail)
              | (refine is_umcall ?_; first
                | refine mj_callP (h := readyZ_spec _ _ _ m s1 s2 s3 s4 (hm.ext extA)) (k := ?_)
                | refine mj_callP (h := awake_spec _ _ _) (k := ?_)
                | fail)
              | ((fail_if_success (first | refine is_ucall ?_ | refine is_umcall ?_)); first | refine W1 ?_ | refine Wc ?_ | refine W2c ?_ ?_ | refine Wg ?_ | refine W2 ?_ ?_ | exact Wdead | refine Wlive (fun hb => ?_) | intro _ _ _ _ _ _ _ _ | refine We ?_ | refine Wx ?_ | refine Wt ?_ | refine Wm ?_ | refine W2m ?_ ?_ | refine Wl ?_)
              | fail)
            refine mj_single rfl (hI.ext (xb.trans ec)).y hG.w hk ?_
            intro Hd ov hov ed
            have hbd := ed.get hbc
            have xd := xb.trans (ec.trans ed)
            refine MonoJ.normA ?_
            repeat' (first
              | (refine is_ucall ?_; first
                | refine st_callP (h := readyZ_spec _ _ _ m s1 s2 s3 s4 (hm.ext extA)) (k := ?_)
                | refine st_callP (h := awake_spec _ _ _) (k := ?_)
                | fail)
              | (refine is_umcall ?_; first
                | refine mj_callP (h := readyZ_spec _ _ _ m s1 s2 s3 s4 (hm.ext extA)) (k := ?_)
                | refine mj_callP (h := awake_spec _ _ _) (k := ?_)
                | fail)
              | ((fail_if_success (first | refine is_ucall ?_ | refine is_umcall ?_)); first | refine W1 ?_ | refine Wc ?_ | refine W2c ?_ ?_ | refine Wg ?_ | refine W2 ?_ ?_ | exact Wdead | refine Wlive (fun hb => ?_) | intro _ _ _ _ _ _ _ _ | refine We ?_ | refine Wx ?_ | refine Wt ?_ | refine Wm ?_ | refine W2m ?_ ?_ | refine Wl ?_)
              | fail)
            refine mj_callP (h := hsing _ _ t1 t2 t3 t4 ov (sv + d) ⟨by omega, hs20⟩ hS (hmt.ext ed) hov) (k := ?_)
            clear hmt hov ec ed hbc hx2 hsing
            generalize moreV m (oneL (hrs m) k (sv + d)) = y at *
            refine MonoJ.normA ?_
            repeat' (first
              | (refine is_ucall ?_; first
                | refine st_callP (h := readyZ_spec _ _ _ m s1 s2 s3 s4 (hm.ext extA)) (k := ?_)
                | refine st_callP (h := awake_spec _ _ _) (k := ?_)
                | fail)
              | (refine is_umcall ?_; first
                | refine mj_callP (h := readyZ_spec _ _ _ m s1 s2 s3 s4 (hm.ext extA)) (k := ?_)
                | refine mj_callP (h := awake_spec _ _ _) (k := ?_)
                | fail)
              | ((fail_if_success (first | refine is_ucall ?_ | refine is_umcall ?_)); first | refine W1 ?_ | refine Wc ?_ | refine W2c ?_ ?_ | refine Wg ?_ | refine W2 ?_ ?_ | exact Wdead | refine Wlive (fun hb => ?_) | intro _ _ _ _ _ _ _ _ | refine We ?_ | refine Wx ?_ | refine Wt ?_ | refine Wm ?_ | refine W2m ?_ ?_ | refine Wl ?_)
              | fail)
            all_goals first | exact ⟨rfl, rfl, rfl⟩ | exact absurd trivial (by assumption) | exact absurd rfl (by assumption) | (exfalso; omega) | exact absurd hw1 hb | trace_state
          · skip
            refine OpsJ.normA ?_
            repeat' (first
              | (refine is_ucall ?_; first
                | refine st_callP (h := readyZ_spec _ _ _ m s1 s2 s3 s4 (hm.ext extA)) (k := ?_)
                | refine st_callP (h := awake_spec _ _ _) (k := ?_)
                | fail)
              | (refine is_umcall ?_; first
                | refine mj_callP (h := readyZ_spec _ _ _ m s1 s2 s3 s4 (hm.ext extA)) (k := ?_)
                | refine mj_callP (h := awake_spec _ _ _) (k := ?_)
                | fail)
              | ((fail_if_success (first | refine is_ucall ?_ | refine is_umcall ?_)); first | refine W1 ?_ | refine Wc ?_ | refine W2c ?_ ?_ | refine Wg ?_ | refine W2 ?_ ?_ | exact Wdead | refine Wlive (fun hb => ?_) | intro _ _ _ _ _ _ _ _ | refine We ?_ | refine Wx ?_ | refine Wt ?_ | refine Wm ?_ | refine W2m ?_ ?_ | refine Wl ?_)
              | fail)
            all_goals first | exact ⟨rfl, rfl, rfl⟩ | exact absurd trivial (by assumption) | exact absurd rfl (by assumption) | (exfalso; omega) | exact absurd hw1 hb | skip
            refine st_callP (h := hIn _ _) (k := ?_)
            refine OpsJ.normA ?_
            repeat' (first
              | (refine is_ucall ?_; first
                | refine st_callP (h := readyZ_spec _ _ _ m s1 s2 s3 s4 (hm.ext extA)) (k := ?_)
                | refine st_callP (h := awake_spec _ _ _) (k := ?_)
                | fail)
              | (refine is_umcall ?_; first
                | refine mj_callP (h := readyZ_spec _ _ _ m s1 s2 s3 s4 (hm.ext extA)) (k := ?_)
                | refine mj_callP (h := awake_spec _ _ _) (k := ?_)
                | fail)
              | ((fail_if_success (first | refine is_ucall ?_ | refine is_umcall ?_)); first | refine W1 ?_ | refine Wc ?_ | refine W2c ?_ ?_ | refine Wg ?_ | refine W2 ?_ ?_ | exact Wdead | refine Wlive (fun hb => ?_) | intro _ _ _ _ _ _ _ _ | refine We ?_ | refine Wx ?_ | refine Wt ?_ | refine Wm ?_ | refine W2m ?_ ?_ | refine Wl ?_)
              | fail)
            refine WPJ.draw 12 mixed (by kernel_rfl) (by kernel_rfl) (by kernel_rfl) (by decide) ?_
            refine MonoJ.normA ?_
            repeat' (first
              | (refine is_ucall ?_; first
                | refine st_callP (h := readyZ_spec _ _ _ m s1 s2 s3 s4 (hm.ext extA)) (k := ?_)
                | refine st_callP (h := awake_spec _ _ _) (k := ?_)
                | fail)
              | (refine is_umcall ?_; first
                | refine mj_callP (h := readyZ_spec _ _ _ m s1 s2 s3 s4 (hm.ext extA)) (k := ?_)
                | refine mj_callP (h := awake_spec _ _ _) (k := ?_)
                | fail)
              | ((fail_if_success (first | refine is_ucall ?_ | refine is_umcall ?_)); first | refine W1 ?_ | refine Wc ?_ | refine W2c ?_ ?_ | refine Wg ?_ | refine W2 ?_ ?_ | exact Wdead | refine Wlive (fun hb => ?_) | intro _ _ _ _ _ _ _ _ | refine We ?_ | refine Wx ?_ | refine Wt ?_ | refine Wm ?_ | refine W2m ?_ ?_ | refine Wl ?_)
              | fail)
            refine mj_copperM rfl (hI.ext x9).y (by omega) (by omega) ?_
            intro Ha t1 t2 t3 t4 hmt ea
            have hba := ea.get hb9
            refine MonoJ.normA ?_
            repeat' (first
              | (refine is_ucall ?_; first
                | refine st_callP (h := readyZ_spec _ _ _ m s1 s2 s3 s4 (hm.ext extA)) (k := ?_)
                | refine st_callP (h := awake_spec _ _ _) (k := ?_)
                | fail)
              | (refine is_umcall ?_; first
                | refine mj_callP (h := readyZ_spec _ _ _ m s1 s2 s3 s4 (hm.ext extA)) (k := ?_)
                | refine mj_callP (h := awake_spec _ _ _) (k := ?_)
                | fail)
              | ((fail_if_success (first | refine is_ucall ?_ | refine is_umcall ?_)); first | refine W1 ?_ | refine Wc ?_ | refine W2c ?_ ?_ | refine Wg ?_ | refine W2 ?_ ?_ | exact Wdead | refine Wlive (fun hb => ?_) | intro _ _ _ _ _ _ _ _ | refine We ?_ | refine Wx ?_ | refine Wt ?_ | refine Wm ?_ | refine W2m ?_ ?_ | refine Wl ?_)
              | fail)
            refine mj_single rfl (hI.ext (x9.trans ea)).y hG.w hk ?_
            intro Hb ov hov eb
            have hbb := eb.get hba
            have xb := x9.trans (ea.trans eb)
            refine MonoJ.normA ?_
            repeat' (first
              | (refine is_ucall ?_; first
                | refine st_callP (h := readyZ_spec _ _ _ m s1 s2 s3 s4 (hm.ext extA)) (k := ?_)
                | refine st_callP (h := awake_spec _ _ _) (k := ?_)
                | fail)
              | (refine is_umcall ?_; first
                | refine mj_callP (h := readyZ_spec _ _ _ m s1 s2 s3 s4 (hm.ext extA)) (k := ?_)
                | refine mj_callP (h := awake_spec _ _ _) (k := ?_)
                | fail)
              | ((fail_if_success (first | refine is_ucall ?_ | refine is_umcall ?_)); first | refine W1 ?_ | refine Wc ?_ | refine W2c ?_ ?_ | refine Wg ?_ | refine W2 ?_ ?_ | exact Wdead | refine Wlive (fun hb => ?_) | intro _ _ _ _ _ _ _ _ | refine We ?_ | refine Wx ?_ | refine Wt ?_ | refine Wm ?_ | refine W2m ?_ ?_ | refine Wl ?_)
              | fail)
            refine mj_callP (h := hsing _ _ t1 t2 t3 t4 ov sv hsv hS (hmt.ext eb) hov) (k := ?_)
            rw [hx1]
            clear hmt hov ea eb hba
            refine MonoJ.normA ?_
            repeat' (first
              | (refine is_ucall ?_; first
                | refine st_callP (h := readyZ_spec _ _ _ m s1 s2 s3 s4 (hm.ext extA)) (k := ?_)
                | refine st_callP (h := awake_spec _ _ _) (k := ?_)
                | fail)
              | (refine is_umcall ?_; first
                | refine mj_callP (h := readyZ_spec _ _ _ m s1 s2 s3 s4 (hm.ext extA)) (k := ?_)
                | refine mj_callP (h := awake_spec _ _ _) (k := ?_)
                | fail)
              | ((fail_if_success (first | refine is_ucall ?_ | refine is_umcall ?_)); first | refine W1 ?_ | refine Wc ?_ | refine W2c ?_ ?_ | refine Wg ?_ | refine W2 ?_ ?_ | exact Wdead | refine Wlive (fun hb => ?_) | intro _ _ _ _ _ _ _ _ | refine We ?_ | refine Wx ?_ | refine Wt ?_ | refine Wm ?_ | refine W2m ?_ ?_ | refine Wl ?_)
              | fail)
            all_goals first | exact ⟨rfl, rfl, rfl⟩ | exact absurd trivial (by assumption) | exact absurd rfl (by assumption) | (exfalso; omega) | exact absurd hw1 hb | skip
            have hs20 : sv + d ≤ 20 := by omega
            have hy := hx2 (sv + d) (by omega) hs20
            refine WPJ.draw 14 mixed (by kernel_rfl) (by kernel_rfl) (by kernel_rfl) (by decide) ?_
            refine MonoJ.normA ?_
            repeat' (first
              | (refine is_ucall ?_; first
                | refine st_callP (h := readyZ_spec _ _ _ m s1 s2 s3 s4 (hm.ext extA)) (k := ?_)
                | refine st_callP (h := awake_spec _ _ _) (k := ?_)
                | fail)
              | (refine is_umcall ?_; first
                | refine mj_callP (h := readyZ_spec _ _ _ m s1 s2 s3 s4 (hm.ext extA)) (k := ?_)
                | refine mj_callP (h := awake_spec _ _ _) (k := ?_)
                | fail)
              | ((fail_if_success (first | refine is_ucall ?_ | refine is_umcall ?_)); first | refine W1 ?_ | refine Wc ?_ | refine W2c ?_ ?_ | refine Wg ?_ | refine W2 ?_ ?_ | exact Wdead | refine Wlive (fun hb => ?_) | intro _ _ _ _ _ _ _ _ | refine We ?_ | refine Wx ?_ | refine Wt ?_ | refine Wm ?_ | refine W2m ?_ ?_ | refine Wl ?_)
              | fail)
            refine mj_copperM rfl (hI.ext xb).y (by omega) (by omega) ?_
            intro Hc t1 t2 t3 t4 hmt ec
            have hbc := ec.get hbb
            refine MonoJ.normA ?_
            repeat' (first
              | (refine is_ucall ?_; first
                | refine st_callP (h := readyZ_spec _ _ _ m s1 s2 s3 s4 (hm.ext extA)) (k := ?_)
                | refine st_callP (h := awake_spec _ _ _) (k := ?_)
                | fail)
              | (refine is_umcall ?_; first
                | refine mj_callP (h := readyZ_spec _ _ _ m s1 s2 s3 s4 (hm.ext extA)) (k := ?_)
                | refine mj_callP (h := awake_spec _ _ _) (k := ?_)
                | fail)
              | ((fail_if_success (first | refine is_ucall ?_ | refine is_umcall ?_)); first | refine W1 ?_ | refine Wc ?_ | refine W2c ?_ ?_ | refine Wg ?_ | refine W2 ?_ ?_ | exact Wdead | refine Wlive (fun hb => ?_) | intro _ _ _ _ _ _ _ _ | refine We ?_ | refine Wx ?_ | refine Wt ?_ | refine Wm ?_ | refine W2m ?_ ?_ | refine Wl ?_)
              | fail)
            refine mj_single rfl (hI.ext (xb.trans ec)).y hG.w hk ?_
            intro Hd ov hov ed
            have hbd := ed.get hbc
            have xd := xb.trans (ec.trans ed)
            refine MonoJ.normA ?_
            repeat' (first
              | (refine is_ucall ?_; first
                | refine st_callP (h := readyZ_spec _ _ _ m s1 s2 s3 s4 (hm.ext extA)) (k := ?_)
                | refine st_callP (h := awake_spec _ _ _) (k := ?_)
                | fail)
              | (refine is_umcall ?_; first
                | refine mj_callP (h := readyZ_spec _ _ _ m s1 s2 s3 s4 (hm.ext extA)) (k := ?_)
                | refine mj_callP (h := awake_spec _ _ _) (k := ?_)
                | fail)
              | ((fail_if_success (first | refine is_ucall ?_ | refine is_umcall ?_)); first | refine W1 ?_ | refine Wc ?_ | refine W2c ?_ ?_ | refine Wg ?_ | refine W2 ?_ ?_ | exact Wdead | refine Wlive (fun hb => ?_) | intro _ _ _ _ _ _ _ _ | refine We ?_ | refine Wx ?_ | refine Wt ?_ | refine Wm ?_ | refine W2m ?_ ?_ | refine Wl ?_)
              | fail)
            refine mj_callP (h := hsing _ _ t1 t2 t3 t4 ov (sv + d) ⟨by omega, hs20⟩ hS (hmt.ext ed) hov) (k := ?_)
            clear hmt hov ec ed hbc hx2 hsing
            generalize moreV m (oneL (hrs m) k (sv + d)) = y at *
            refine MonoJ.normA ?_
            repeat' (first
              | (refine is_ucall ?_; first
                | refine st_callP (h := readyZ_spec _ _ _ m s1 s2 s3 s4 (hm.ext extA)) (k := ?_)
                | refine st_callP (h := awake_spec _ _ _) (k := ?_)
                | fail)
              | (refine is_umcall ?_; first
                | refine mj_callP (h := readyZ_spec _ _ _ m s1 s2 s3 s4 (hm.ext extA)) (k := ?_)
                | refine mj_callP (h := awake_spec _ _ _) (k := ?_)
                | fail)
              | ((fail_if_success (first | refine is_ucall ?_ | refine is_umcall ?_)); first | refine W1 ?_ | refine Wc ?_ | refine W2c ?_ ?_ | refine Wg ?_ | refine W2 ?_ ?_ | exact Wdead | refine Wlive (fun hb => ?_) | intro _ _ _ _ _ _ _ _ | refine We ?_ | refine Wx ?_ | refine Wt ?_ | refine Wm ?_ | refine W2m ?_ ?_ | refine Wl ?_)
              | fail)
            all_goals first | exact ⟨rfl, rfl, rfl⟩ | exact absurd trivial (by assumption) | exact absurd rfl (by assumption) | (exfalso; omega) | exact absurd hw1 hb | trace_state
          · skip
            refine OpsJ.normA ?_
            repeat' (first
              | (refine is_ucall ?_; first
                | refine st_callP (h := readyZ_spec _ _ _ m s1 s2 s3 s4 (hm.ext extA)) (k := ?_)
                | refine st_callP (h := awake_spec _ _ _) (k := ?_)
                | fail)
              | (refine is_umcall ?_; first
                | refine mj_callP (h := readyZ_spec _ _ _ m s1 s2 s3 s4 (hm.ext extA)) (k := ?_)
                | refine mj_callP (h := awake_spec _ _ _) (k := ?_)
                | fail)
              | ((fail_if_success (first | refine is_ucall ?_ | refine is_umcall ?_)); first | refine W1 ?_ | refine Wc ?_ | refine W2c ?_ ?_ | refine Wg ?_ | refine W2 ?_ ?_ | exact Wdead | refine Wlive (fun hb => ?_) | intro _ _ _ _ _ _ _ _ | refine We ?_ | refine Wx ?_ | refine Wt ?_ | refine Wm ?_ | refine W2m ?_ ?_ | refine Wl ?_)
              | fail)
            all_goals first | exact ⟨rfl, rfl, rfl⟩ | exact absurd trivial (by assumption) | exact absurd rfl (by assumption) | (exfalso; omega) | exact absurd hw1 hb | skip
            refine st_callP (h := hIn _ _) (k := ?_)
            refine OpsJ.normA ?_
            repeat' (first
              | (refine is_ucall ?_; first
                | refine st_callP (h := readyZ_spec _ _ _ m s1 s2 s3 s4 (hm.ext extA)) (k := ?_)
                | refine st_callP (h := awake_spec _ _ _) (k := ?_)
                | fail)
              | (refine is_umcall ?_; first
                | refine mj_callP (h := readyZ_spec _ _ _ m s1 s2 s3 s4 (hm.ext extA)) (k := ?_)
                | refine mj_callP (h := awake_spec _ _ _) (k := ?_)
                | fail)
              | ((fail_if_success (first | refine is_ucall ?_ | refine is_umcall ?_)); first | refine W1 ?_ | refine Wc ?_ | refine W2c ?_ ?_ | refine Wg ?_ | refine W2 ?_ ?_ | exact Wdead | refine Wlive (fun hb => ?_) | intro _ _ _ _ _ _ _ _ | refine We ?_ | refine Wx ?_ | refine Wt ?_ | refine Wm ?_ | refine W2m ?_ ?_ | refine Wl ?_)
              | fail)
            refine WPJ.draw 12 mixed (by kernel_rfl) (by kernel_rfl) (by kernel_rfl) (by decide) ?_
            refine MonoJ.normA ?_
            repeat' (first
              | (refine is_ucall ?_; first
                | refine st_callP (h := readyZ_spec _ _ _ m s1 s2 s3 s4 (hm.ext extA)) (k := ?_)
                | refine st_callP (h := awake_spec _ _ _) (k := ?_)
                | fail)
              | (refine is_umcall ?_; first
                | refine mj_callP (h := readyZ_spec _ _ _ m s1 s2 s3 s4 (hm.ext extA)) (k := ?_)
                | refine mj_callP (h := awake_spec _ _ _) (k := ?_)
                | fail)
              | ((fail_if_success (first | refine is_ucall ?_ | refine is_umcall ?_)); first | refine W1 ?_ | refine Wc ?_ | refine W2c ?_ ?_ | refine Wg ?_ | refine W2 ?_ ?_ | exact Wdead | refine Wlive (fun hb => ?_) | intro _ _ _ _ _ _ _ _ | refine We ?_ | refine Wx ?_ | refine Wt ?_ | refine Wm ?_ | refine W2m ?_ ?_ | refine Wl ?_)
              | fail)
            refine mj_copperM rfl (hI.ext x9).y (by omega) (by omega) ?_
            intro Ha t1 t2 t3 t4 hmt ea
            have hba := ea.get hb9
            refine MonoJ.normA ?_
            repeat' (first
              | (refine is_ucall ?_; first
                | refine st_callP (h := readyZ_spec _ _ _ m s1 s2 s3 s4 (hm.ext extA)) (k := ?_)
                | refine st_callP (h := awake_spec _ _ _) (k := ?_)
                | fail)
              | (refine is_umcall ?_; first
                | refine mj_callP (h := readyZ_spec _ _ _ m s1 s2 s3 s4 (hm.ext extA)) (k := ?_)
                | refine mj_callP (h := awake_spec _ _ _) (k := ?_)
                | fail)
              | ((fail_if_success (first | refine is_ucall ?_ | refine is_umcall ?_)); first | refine W1 ?_ | refine Wc ?_ | refine W2c ?_ ?_ | refine Wg ?_ | refine W2 ?_ ?_ | exact Wdead | refine Wlive (fun hb => ?_) | intro _ _ _ _ _ _ _ _ | refine We ?_ | refine Wx ?_ | refine Wt ?_ | refine Wm ?_ | refine W2m ?_ ?_ | refine Wl ?_)
              | fail)
            refine mj_single rfl (hI.ext (x9.trans ea)).y hG.w hk ?_
            intro Hb ov hov eb
            have hbb := eb.get hba
            have xb := x9.trans (ea.trans eb)
            refine MonoJ.normA ?_
            repeat' (first
              | (refine is_ucall ?_; first
                | refine st_callP (h := readyZ_spec _ _ _ m s1 s2 s3 s4 (hm.ext extA)) (k := ?_)
                | refine st_callP (h := awake_spec _ _ _) (k := ?_)
                | fail)
              | (refine is_umcall ?_; first
                | refine mj_callP (h := readyZ_spec _ _ _ m s1 s2 s3 s4 (hm.ext extA)) (k := ?_)
                | refine mj_callP (h := awake_spec _ _ _) (k := ?_)
                | fail)
              | ((fail_if_success (first | refine is_ucall ?_ | refine is_umcall ?_)); first | refine W1 ?_ | refine Wc ?_ | refine W2c ?_ ?_ | refine Wg ?_ | refine W2 ?_ ?_ | exact Wdead | refine Wlive (fun hb => ?_) | intro _ _ _ _ _ _ _ _ | refine We ?_ | refine Wx ?_ | refine Wt ?_ | refine Wm ?_ | refine W2m ?_ ?_ | refine Wl ?_)
              | fail)
            refine mj_callP (h := hsing _ _ t1 t2 t3 t4 ov sv hsv hS (hmt.ext eb) hov) (k := ?_)
            rw [hx1]
            clear hmt hov ea eb hba
            refine MonoJ.normA ?_
            repeat' (first
              | (refine is_ucall ?_; first
                | refine st_callP (h := readyZ_spec _ _ _ m s1 s2 s3 s4 (hm.ext extA)) (k := ?_)
                | refine st_callP (h := awake_spec _ _ _) (k := ?_)
                | fail)
              | (refine is_umcall ?_; first
                | refine mj_callP (h := readyZ_spec _ _ _ m s1 s2 s3 s4 (hm.ext extA)) (k := ?_)
                | refine mj_callP (h := awake_spec _ _ _) (k := ?_)
                | fail)
              | ((fail_if_success (first | refine is_ucall ?_ | refine is_umcall ?_)); first | refine W1 ?_ | refine Wc ?_ | refine W2c ?_ ?_ | refine Wg ?_ | refine W2 ?_ ?_ | exact Wdead | refine Wlive (fun hb => ?_) | intro _ _ _ _ _ _ _ _ | refine We ?_ | refine Wx ?_ | refine Wt ?_ | refine Wm ?_ | refine W2m ?_ ?_ | refine Wl ?_)
              | fail)
            all_goals first | exact ⟨rfl, rfl, rfl⟩ | exact absurd trivial (by assumption) | exact absurd rfl (by assumption) | (exfalso; omega) | exact absurd hw1 hb | skip
            have hs20 : sv + d ≤ 20 := by omega
            have hy := hx2 (sv + d) (by omega) hs20
            refine WPJ.draw 14 mixed (by kernel_rfl) (by kernel_rfl) (by kernel_rfl) (by decide) ?_
            refine MonoJ.normA ?_
            repeat' (first
              | (refine is_ucall ?_; first
                | refine st_callP (h := readyZ_spec _ _ _ m s1 s2 s3 s4 (hm.ext extA)) (k := ?_)
                | refine st_callP (h := awake_spec _ _ _) (k := ?_)
                | fail)
              | (refine is_umcall ?_; first
                | refine mj_callP (h := readyZ_spec _ _ _ m s1 s2 s3 s4 (hm.ext extA)) (k := ?_)
                | refine mj_callP (h := awake_spec _ _ _) (k := ?_)
                | fail)
              | ((fail_if_success (first | refine is_ucall ?_ | refine is_umcall ?_)); first | refine W1 ?_ | refine Wc ?_ | refine W2c ?_ ?_ | refine Wg ?_ | refine W2 ?_ ?_ | exact Wdead | refine Wlive (fun hb => ?_) | intro _ _ _ _ _ _ _ _ | refine We ?_ | refine Wx ?_ | refine Wt ?_ | refine Wm ?_ | refine W2m ?_ ?_ | refine Wl ?_)
              | fail)
            refine mj_copperM rfl (hI.ext xb).y (by omega) (by omega) ?_
            intro Hc t1 t2 t3 t4 hmt ec
            have hbc := ec.get hbb
            refine MonoJ.normA ?_
            repeat' (first
              | (refine is_ucall ?_; first
                | refine st_callP (h := readyZ_spec _ _ _ m s1 s2 s3 s4 (hm.ext extA)) (k := ?_)
                | refine st_callP (h := awake_spec _ _ _) (k := ?_)
                | fail)
              | (refine is_umcall ?_; first
                | refine mj_callP (h := readyZ_spec _ _ _ m s1 s2 s3 s4 (hm.ext extA)) (k := ?_)
                | refine mj_callP (h := awake_spec _ _ _) (k := ?_)
                | fail)
              | ((fail_if_success (first | refine is_ucall ?_ | refine is_umcall ?_)); first | refine W1 ?_ | refine Wc ?_ | refine W2c ?_ ?_ | refine Wg ?_ | refine W2 ?_ ?_ | exact Wdead | refine Wlive (fun hb => ?_) | intro _ _ _ _ _ _ _ _ | refine We ?_ | refine Wx ?_ | refine Wt ?_ | refine Wm ?_ | refine W2m ?_ ?_ | refine Wl ?_)
              | fail)
            refine mj_single rfl (hI.ext (xb.trans ec)).y hG.w hk ?_
            intro Hd ov hov ed
            have hbd := ed.get hbc
            have xd := xb.trans (ec.trans ed)
            refine MonoJ.normA ?_
            repeat' (first
              | (refine is_ucall ?_; first
                | refine st_callP (h := readyZ_spec _ _ _ m s1 s2 s3 s4 (hm.ext extA)) (k := ?_)
                | refine st_callP (h := awake_spec _ _ _) (k := ?_)
                | fail)
              | (refine is_umcall ?_; first
                | refine mj_callP (h := readyZ_spec _ _ _ m s1 s2 s3 s4 (hm.ext extA)) (k := ?_)
                | refine mj_callP (h := awake_spec _ _ _) (k := ?_)
                | fail)
              | ((fail_if_success (first | refine is_ucall ?_ | refine is_umcall ?_)); first | refine W1 ?_ | refine Wc ?_ | refine W2c ?_ ?_ | refine Wg ?_ | refine W2 ?_ ?_ | exact Wdead | refine Wlive (fun hb => ?_) | intro _ _ _ _ _ _ _ _ | refine We ?_ | refine Wx ?_ | refine Wt ?_ | refine Wm ?_ | refine W2m ?_ ?_ | refine Wl ?_)
              | fail)
            refine mj_callP (h := hsing _ _ t1 t2 t3 t4 ov (sv + d) ⟨by omega, hs20⟩ hS (hmt.ext ed) hov) (k := ?_)
            clear hmt hov ec ed hbc hx2 hsing
            generalize moreV m (oneL (hrs m) k (sv + d)) = y at *
            refine MonoJ.normA ?_
            repeat' (first
              | (refine is_ucall ?_; first
                | refine st_callP (h := readyZ_spec _ _ _ m s1 s2 s3 s4 (hm.ext extA)) (k := ?_)
                | refine st_callP (h := awake_spec _ _ _) (k := ?_)
                | fail)
              | (refine is_umcall ?_; first
                | refine mj_callP (h := readyZ_spec _ _ _ m s1 s2 s3 s4 (hm.ext extA)) (k := ?_)
                | refine mj_callP (h := awake_spec _ _ _) (k := ?_)
                | fail)
              | ((fail_if_success (first | refine is_ucall ?_ | refine is_umcall ?_)); first | refine W1 ?_ | refine Wc ?_ | refine W2c ?_ ?_ | refine Wg ?_ | refine W2 ?_ ?_ | exact Wdead | refine Wlive (fun hb => ?_) | intro _ _ _ _ _ _ _ _ | refine We ?_ | refine Wx ?_ | refine Wt ?_ | refine Wm ?_ | refine W2m ?_ ?_ | refine Wl ?_)
              | fail)
            all_goals first | exact ⟨rfl, rfl, rfl⟩ | exact absurd trivial (by assumption) | exact absurd rfl (by assumption) | (exfalso; omega) | exact absurd hw1 hb | trace_state
        · have hw1 : (w == 1) = false := by simp [hw]
          rcases huv with ⟨rfl, rfl⟩ | ⟨rfl, rfl⟩ | ⟨hv1, hu2⟩
          · skip
            refine OpsJ.normA ?_
            repeat' (first
              | (refine is_ucall ?_; first
                | refine st_callP (h := readyZ_spec _ _ _ m s1 s2 s3 s4 (hm.ext extA)) (k := ?_)
                | refine st_callP (h := awake_spec _ _ _) (k := ?_)
                | fail)
              | (refine is_umcall ?_; first
                | refine mj_callP (h := readyZ_spec _ _ _ m s1 s2 s3 s4 (hm.ext extA)) (k := ?_)
                | refine mj_callP (h := awake_spec _ _ _) (k := ?_)
                | fail)
              | ((fail_if_success (first | refine is_ucall ?_ | refine is_umcall ?_)); first | refine W1 ?_ | refine Wc ?_ | refine W2c ?_ ?_ | refine Wg ?_ | refine W2 ?_ ?_ | exact Wdead | refine Wlive (fun hb => ?_) | intro _ _ _ _ _ _ _ _ | refine We ?_ | refine Wx ?_ | refine Wt ?_ | refine Wm ?_ | refine W2m ?_ ?_ | refine Wl ?_)
              | fail)
            all_goals first | exact ⟨rfl, rfl, rfl⟩ | exact absurd trivial (by assumption) | exact absurd rfl (by assumption) | (exfalso; omega) | exact absurd hw1 hb | trace_state
          · skip
            refine OpsJ.normA ?_
            repeat' (first
              | (refine is_ucall ?_; first
                | refine st_callP (h := readyZ_spec _ _ _ m s1 s2 s3 s4 (hm.ext extA)) (k := ?_)
                | refine st_callP (h := awake_spec _ _ _) (k := ?_)
                | fail)
              | (refine is_umcall ?_; first
                | refine mj_callP (h := readyZ_spec _ _ _ m s1 s2 s3 s4 (hm.ext extA)) (k := ?_)
                | refine mj_callP (h := awake_spec _ _ _) (k := ?_)
                | fail)
              | ((fail_if_success (first | refine is_ucall ?_ | refine is_umcall ?_)); first | refine W1 ?_ | refine Wc ?_ | refine W2c ?_ ?_ | refine Wg ?_ | refine W2 ?_ ?_ | exact Wdead | refine Wlive (fun hb => ?_) | intro _ _ _ _ _ _ _ _ | refine We ?_ | refine Wx ?_ | refine Wt ?_ | refine Wm ?_ | refine W2m ?_ ?_ | refine Wl ?_)
              | fail)
            all_goals first | exact ⟨rfl, rfl, rfl⟩ | exact absurd trivial (by assumption) | exact absurd rfl (by assumption) | (exfalso; omega) | exact absurd hw1 hb | trace_state
          · skip
            refine OpsJ.normA ?_
            repeat' (first
              | (refine is_ucall ?_; first
                | refine st_callP (h := readyZ_spec _ _ _ m s1 s2 s3 s4 (hm.ext extA)) (k := ?_)
                | refine st_callP (h := awake_spec _ _ _) (k := ?_)
                | fail)
              | (refine is_umcall ?_; first
                | refine mj_callP (h := readyZ_spec _ _ _ m s1 s2 s3 s4 (hm.ext extA)) (k := ?_)
                | refine mj_callP (h := awake_spec _ _ _) (k := ?_)
                | fail)
              | ((fail_if_success (first | refine is_ucall ?_ | refine is_umcall ?_)); first | refine W1 ?_ | refine Wc ?_ | refine W2c ?_ ?_ | refine Wg ?_ | refine W2 ?_ ?_ | exact Wdead | refine Wlive (fun hb => ?_) | intro _ _ _ _ _ _ _ _ | refine We ?_ | refine Wx ?_ | refine Wt ?_ | refine Wm ?_ | refine W2m ?_ ?_ | refine Wl ?_)
              | fail)
            all_goals first | exact ⟨rfl, rfl, rfl⟩ | exact absurd trivial (by assumption) | exact absurd rfl (by assumption) | (exfalso; omega) | exact absurd hw1 hb | trace_state
end
end Go.Proofs.Ytjbiidlmpaibkaa
