import Derived.Test.YtehobnpoeodhkaaXb
import Derived.Test.YtehobnpoeodhkaaXo
import Derived.Test.YtehobnpoeodhkaaV8
namespace Go.Proofs.Ytehobnpoeodhkaa
open Go Go.Abs Go.Proofs
set_option maxHeartbeats 800000
attribute [local irreducible] CallJ OpsJ WPJ CallV MonoJ SpecJ

/-! ### Answers that may be written over -/
/-- a slice that may be written over -/
def Wri (H : AHeap) (n w : Nat) (v : Value) : Prop := ∃ a len cap, v = .slice a len cap ∧ len ≤ 1000000 ∧ RowAt H n w a len
def Ans (H : AHeap) (w : Nat) (xs : List (List Value)) (sv : Value) (H' : AHeap) : Prop := Ext H H' ∧ RdS H' sv w xs ∧ Wri H' H.length w sv
theorem ans_nil {H : AHeap} {w : Nat} : Ans H w [] (.slice none 0 0) H := ⟨Ext.refl _, ⟨fun x hx => (by cases hx), .inr ⟨rfl, .inl rfl⟩⟩, none, 0, 0, rfl, by omega, .inl ⟨rfl, rfl⟩⟩
theorem ans_row {H : AHeap} {w : Nat} {xs : List (List Value)} {cs : List Value} {n cap : Nat} (hn : n = xs.length) (hx : ∀ x ∈ xs, x.length = w) (hc : cs.take (xs.length * w) = xs.flatten) (hl : xs.length * w ≤ cs.length) (hb : xs.length ≤ 1000000) (hf : cs.all flat1 = true) : Ans H w xs (.slice (some ⟨H.length, 0, none⟩) n cap) (H ++ [.row cs w true]) := by
  subst hn
  exact ⟨⟨_, rfl⟩, ⟨hx, .inl ⟨H.length, 0, cap, cs, w, true, rfl, by simp, by simpa using hl, by simpa using hc⟩⟩, _, _, _, rfl, hb, .inr ⟨_, cs, rfl, by simp, Nat.le_refl _, hl, hf⟩⟩
theorem ans_enc {α : Type} {enc : α → List Value} {w : Nat} (hw : ∀ a, (enc a).length = w) (hf : ∀ a, (enc a).all flat1 = true) {H : AHeap} {l : List α} {n cap : Nat} (hn : n = l.length) (hb : l.length ≤ 1000000) : Ans H w (l.map enc) (.slice (some ⟨H.length, 0, none⟩) n cap) (H ++ [.row (l.map enc).flatten w true]) := by
  have hl := flatten_lenG hw l
  refine ans_row (by simpa using hn) (fun x hx => by obtain ⟨a, _, rfl⟩ := List.mem_map.1 hx; exact hw a) (List.take_of_length_le (by rw [hl]; simp)) (by rw [hl]; simp) (by simpa using hb) (List.all_eq_true.2 fun x hx => ?_)
  obtain ⟨y, hy, hx⟩ := List.mem_flatten.1 hx
  obtain ⟨b, _, rfl⟩ := List.mem_map.1 hy
  exact List.all_eq_true.1 (hf b) x hx
theorem encI_flat (l : List Int) : (encI l).flatten = encE l := by
  induction l with
  | nil => rfl
  | cons x l ih => simp_all [encE]
theorem ans_ints {H : AHeap} {l : List Int} {n cap : Nat} (hn : n = l.length) (hb : l.length ≤ 1000000) : Ans H 1 (encI l) (.slice (some ⟨H.length, 0, none⟩) n cap) (H ++ [.row (encE l) 1 true]) := by
  rw [← encI_flat]
  exact ans_enc (enc := fun x => [.int .i64 x]) (w := 1) (fun _ => rfl) (fun _ => rfl) hn hb
theorem ints_u {H H' : AHeap} {e : Int} {l a : List Int} {v : Value} (hb : l.length ≤ 1000000) (h : IntsA H e l v H') (ha : (if e = 0 then l else []) = a) : ∃ sv, v = .tuple #[sv, .int .i64 e] ∧ Ans H 1 (encI a) sv H' := by
  unfold IntsA at h
  split at h
  · rename_i he
    rw [if_pos he] at ha
    obtain ⟨rfl, rfl⟩ := h
    subst ha
    exact ⟨_, by rw [he], ans_ints rfl hb⟩
  · rename_i he
    rw [if_neg he] at ha
    obtain ⟨rfl, rfl⟩ := h
    subst ha
    exact ⟨_, rfl, ans_nil⟩
theorem ranges_u {H H' : AHeap} {e : Int} {l a : List (Int × Int)} {v : Value} (hb : l.length ≤ 1000000) (h : RangesA H e l v H') (ha : (if e = 0 then l else []) = a) : ∃ sv, v = .tuple #[sv, .int .i64 e] ∧ Ans H 2 (a.map encR) sv H' := by
  unfold RangesA at h
  split at h
  · rename_i he
    rw [if_pos he] at ha
    obtain ⟨rfl, rfl⟩ := h
    subst ha
    exact ⟨_, by rw [he], ans_enc (enc := encR) encR_len (fun _ => rfl) rfl hb⟩
  · rename_i he
    rw [if_neg he] at ha
    obtain ⟨rfl, rfl⟩ := h
    subst ha
    exact ⟨_, rfl, ans_nil⟩
theorem small_len {m : HouseM} {s : List Int} (h : smallS m = some s) : s.length ≤ m.clips.length := by
  have h1 := List.mem_of_find?_eq_some h
  unfold upToN at h1
  obtain ⟨q, hq, hs⟩ := List.mem_flatMap.1 h1
  have := subs_len _ _ _ _ hs
  have := List.mem_range.1 hq
  omega
theorem leaveS_len (m : HouseM) : (leaveS m).length ≤ m.clips.length := by
  unfold leaveS
  cases h : smallS m with
  | none => simp
  | some s => exact small_len h

section
variable {γ : Type} (E : Env γ) (g : γ) (H : AHeap)
theorem PlayU (m : HouseM) (s1 s2 s3 lv : Value) (l : List Int) (e : Int) (a : List Int) (he : playE m l = e) (ha : (if e = 0 then playS m l else []) = a) (hm : HouseIs H m s1 s2 s3) (hr : RdS H lv 1 (encI l)) (hn : l.length ≤ 1000000) :
    CallJ Try.prog E 25 [hv m s1 s2 s3, lv] (fun v H' g' => (∃ sv, v = .tuple #[sv, .int .i64 e] ∧ Ans H 1 (encI a) sv H') ∧ g' = g) H g :=
  (Play_spec E g H m s1 s2 s3 lv l hm hr hn).mono (by
    rintro v H' g' ⟨h, rfl⟩
    have hl : (playS m l).length = m.clips.length := by simp [playS]
    have hn3 := hm.n3
    rw [← hl] at h
    exact ⟨ints_u (by omega) (by rw [he] at h; exact h) ha, rfl⟩)
theorem ClocksU (m : HouseM) (s1 s2 s3 : Value) (e : Int) (a : List (Int × Int)) (he : checkT m = e) (ha : (if e = 0 then clocksS m else []) = a) (hm : HouseIs H m s1 s2 s3) :
    CallJ Try.prog E 34 [hv m s1 s2 s3] (fun v H' g' => (∃ sv, v = .tuple #[sv, .int .i64 e] ∧ Ans H 2 (a.map encR) sv H') ∧ g' = g) H g :=
  (Clocks_spec E g H m s1 s2 s3 hm).mono (by
    rintro v H' g' ⟨h, rfl⟩
    have hl : (clocksS m).length = m.clocks.length := by simp [clocksS]
    have hn1 := hm.n1
    exact ⟨ranges_u (by omega) (by rw [he] at h; exact h) ha, rfl⟩)
theorem HoursU (m : HouseM) (s1 s2 s3 : Value) (e : Int) (a : List (Int × Int)) (he : checkT m = e) (ha : (if e = 0 then hrsS m else []) = a) (hm : HouseIs H m s1 s2 s3) :
    CallJ Try.prog E 35 [hv m s1 s2 s3] (fun v H' g' => (∃ sv, v = .tuple #[sv, .int .i64 e] ∧ Ans H 2 (a.map encR) sv H') ∧ g' = g) H g :=
  (Hours_spec E g H m s1 s2 s3 hm).mono (by
    rintro v H' g' ⟨h, rfl⟩
    have hl : (hrsS m).length = m.tickets.length := by simp [hrsS]
    have hn2 := hm.n2
    exact ⟨ranges_u (by omega) (by rw [he] at h; exact h) ha, rfl⟩)
theorem LongU (m : HouseM) (s1 s2 s3 : Value) (e : Int) (a : List Int) (he : checkT m = e) (ha : (if e = 0 then longS m else []) = a) (hm : HouseIs H m s1 s2 s3) :
    CallJ Try.prog E 40 [hv m s1 s2 s3] (fun v H' g' => (∃ sv, v = .tuple #[sv, .int .i64 e] ∧ Ans H 1 (encI a) sv H') ∧ g' = g) H g :=
  (Long_spec E g H m s1 s2 s3 hm).mono (by
    rintro v H' g' ⟨h, rfl⟩
    have hl : (longS m).length = m.tickets.length := by simp [longS]
    have hn2 := hm.n2
    exact ⟨ints_u (by omega) (by rw [he] at h; exact h) ha, rfl⟩)
theorem LeaveU (m : HouseM) (s1 s2 s3 : Value) (e : Int) (a : List Int) (he : checkS m = e) (ha : (if e = 0 then leaveS m else []) = a) (hm : HouseIs H m s1 s2 s3) :
    CallJ Try.prog E 53 [hv m s1 s2 s3] (fun v H' g' => (∃ sv, v = .tuple #[sv, .int .i64 e] ∧ Ans H 1 (encI a) sv H') ∧ g' = g) H g :=
  (Leave_own E g H m s1 s2 s3 hm).mono (by
    rintro v H' g' ⟨h, rfl⟩
    have hl := leaveS_len m
    have hn3 := hm.n3
    refine ⟨?_, rfl⟩
    unfold LeaveO at h
    rw [he] at h
    split at h
    · rename_i h0
      rw [if_pos h0] at ha
      subst ha
      rcases h with ⟨h1, rfl, rfl⟩ | ⟨cs, cap, rfl, rfl, ht, hf⟩
      · rw [h1]; exact ⟨_, by rw [h0], ans_nil⟩
      · have hcl : (leaveS m).length ≤ cs.length := by
          have := congrArg List.length ht
          simp [encE] at this; omega
        exact ⟨_, by rw [h0], ans_row (by simp) (fun x hx => by obtain ⟨y, _, rfl⟩ := List.mem_map.1 hx; rfl) (by rw [encI_flat]; simpa using ht) (by simpa using hcl) (by simp; omega) hf⟩
    · rename_i h0
      rw [if_neg h0] at ha
      subst ha
      obtain ⟨rfl, rfl⟩ := h
      exact ⟨_, rfl, ans_nil⟩)
end
end Go.Proofs.Ytehobnpoeodhkaa
