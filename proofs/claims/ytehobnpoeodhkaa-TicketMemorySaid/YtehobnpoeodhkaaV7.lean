import Derived.Test.YtehobnpoeodhkaaV6
import Derived.Test.YtehobnpoeodhkaaV4
import Derived.Test.YtehobnpoeodhkaaV5
namespace Go.Abs
open Go Go.Deep Go.RowKit Go.ChangeShapes

section
variable {X : Type} {enc : TypeId × Value → X} {P : Program} {W : World}

/-- what is read of such a type is ints -/
def IntsAt (P : Program) (e : TypeId) (n : Nat) : Prop := P.cellsOf e = n ∧ 0 < n ∧ ∀ (X : Type) (enc : TypeId × Value → X) (W : World) (fuel : Nat) (cs : List Value) (x : DataW X × List MemPlace), DataW.trod enc P W 0 (fun _ => true) true fuel e cs = some x → ∃ l : List Int, cs = l.map cellI
theorem intsAt_int {e : TypeId} (he : P.underlying e = some (.int .i64)) (hc : P.cellsOf e = 1) : IntsAt P e 1 := ⟨hc, by omega, fun X enc W fuel cs x h => by
  obtain ⟨n, rfl, _⟩ := DataW.trod_int he h
  exact ⟨[n], rfl⟩⟩
theorem intsAt_struct2 {e : TypeId} {f0 f1 : Field} (he : P.underlying e = some (.struct #[f0, f1])) (hc : P.cellsOf e = 2) (o0 : f0.offset = 0) (o1 : f1.offset = 1) (c0 : P.cellsOf f0.type = 1) (c1 : P.cellsOf f1.type = 1) (u0 : P.underlying f0.type = some (.int .i64)) (u1 : P.underlying f1.type = some (.int .i64)) : IntsAt P e 2 := ⟨hc, by omega, fun X enc W fuel cs x h => by
  obtain ⟨xs, n, _, _, hl, hx, hf⟩ := DataW.trod_struct he h
  rw [hc] at hl
  match cs, hl with
  | [v0, v1], _ =>
    match xs, hx with
    | [x0, x1], _ =>
      have h0 := hf 0 f0 rfl
      have h1 := hf 1 f1 rfl
      simp [o0, o1, c0, c1] at h0 h1
      obtain ⟨n0, e0, _⟩ := DataW.trod_int u0 h0
      obtain ⟨n1, e1, _⟩ := DataW.trod_int u1 h1
      simp at e0 e1
      subst e0; subst e1
      exact ⟨[n0, n1], rfl⟩⟩
theorem intsAt_struct3 {e : TypeId} {f0 f1 f2 : Field} (he : P.underlying e = some (.struct #[f0, f1, f2])) (hc : P.cellsOf e = 3) (o0 : f0.offset = 0) (o1 : f1.offset = 1) (o2 : f2.offset = 2) (c0 : P.cellsOf f0.type = 1) (c1 : P.cellsOf f1.type = 1) (c2 : P.cellsOf f2.type = 1) (u0 : P.underlying f0.type = some (.int .i64)) (u1 : P.underlying f1.type = some (.int .i64)) (u2 : P.underlying f2.type = some (.int .i64)) : IntsAt P e 3 := ⟨hc, by omega, fun X enc W fuel cs x h => by
  obtain ⟨xs, n, _, _, hl, hx, hf⟩ := DataW.trod_struct he h
  rw [hc] at hl
  match cs, hl with
  | [v0, v1, v2], _ =>
    match xs, hx with
    | [x0, x1, x2], _ =>
      have h0 := hf 0 f0 rfl
      have h1 := hf 1 f1 rfl
      have h2 := hf 2 f2 rfl
      simp [o0, o1, o2, c0, c1, c2] at h0 h1 h2
      obtain ⟨n0, e0, _⟩ := DataW.trod_int u0 h0
      obtain ⟨n1, e1, _⟩ := DataW.trod_int u1 h1
      obtain ⟨n2, e2, _⟩ := DataW.trod_int u2 h2
      simp at e0 e1 e2
      subst e0; subst e1; subst e2
      exact ⟨[n0, n1, n2], rfl⟩⟩

theorem flat_idx {α : Type} {n : Nat} : ∀ (xs : List (List α)), (∀ x ∈ xs, x.length = n) → ∀ k < xs.flatten.length, ∃ i j, k = i * n + j ∧ j < n ∧ i < xs.length ∧ ∃ x, xs[i]? = some x ∧ xs.flatten[k]? = x[j]?
  | [], _, k, hk => by simp at hk
  | x :: xs, h, k, hk => by
    have hx := h x (by simp)
    by_cases hlt : k < n
    · exact ⟨0, k, by simp, hlt, by simp, x, rfl, by rw [List.flatten_cons, List.getElem?_append_left (by omega)]⟩
    · rw [List.flatten_cons, List.length_append] at hk
      obtain ⟨i, j, e, hj, hi, y, hy, hg⟩ := flat_idx xs (fun z hz => h z (by simp [hz])) (k - n) (by omega)
      exact ⟨i + 1, j, by rw [Nat.add_mul]; omega, hj, by simp; omega, y, by simpa using hy, by rw [List.flatten_cons, List.getElem?_append_right (by omega), hx]; exact hg⟩

/-- a slice that is only read, as an abstract row (or nothing) under a number -/
theorem slice_abs {t e : TypeId} {n i fuel : Nat} {v : Value} {x : DataW X × List MemPlace} (ht : P.underlying t = some (.slice e)) (hI : IntsAt P e n) (h : DataW.trod enc P W 0 (fun _ => true) true fuel t [v] = some x) :
    ∃ (xs : List (List Int)) (ob : AObj) (im : Option Img) (s : Value), (∀ x ∈ xs, x.length = n) ∧ xs.length ≤ maxLen ∧ (∀ ρ : Ren, ρ i = im → VRel ρ s v) ∧ (∀ m, im = some m → m.blk < W.heap.size ∧ m.own = false ∧ ∀ ρ, ORel ρ ob m W.heap[m.blk]?) ∧
      (∀ A : AHeap, A[i]? = some ob → RdS A s n (xs.map (·.map cellI)) ∧ PlainS A s) ∧ cellOk s = true := by
  obtain ⟨hc, hn, hI⟩ := hI
  rcases open_slice ht h with ⟨e1, _⟩ | ⟨a, len, cap, m, fu, D, Pl, e1, _, hlc, hcm, hm, _, hx⟩
  · cases e1
    exact ⟨[], .dead, none, .slice none 0 0, by simp, by simp, fun _ _ => .nilSlice, (fun _ h => by cases h), fun A hA => ⟨⟨by simp, .inr ⟨rfl, .inl rfl⟩⟩, fun j hj => by simp [idOf] at hj⟩, rfl⟩
  · cases e1
    rcases Nat.eq_zero_or_pos len with rfl | hpos
    · exact ⟨[], .dead, none, .slice none 0 1, by simp, by simp, fun _ _ => .empty _ _, (fun _ h => by cases h), fun A hA => ⟨⟨by simp, .inr ⟨rfl, .inr rfl⟩⟩, fun j hj => by simp [idOf] at hj⟩, rfl⟩
    have hmlen : len ≤ m := by rw [hm]; simpa using hlc
    obtain ⟨L, hL⟩ := choose_lt (α := List Int) (n := len) (p := fun k l => W.cells? 0 (a.add (k * n)) n = some (l.map cellI)) (fun k hk => by
      obtain ⟨cs', h1, h2⟩ := hx k (by omega)
      obtain ⟨l, rfl⟩ := hI _ _ _ _ _ _ h2
      rw [hc] at h1
      exact ⟨l, h1⟩)
    have hlen : ∀ k, k < len → (L k).length = n := fun k hk => by
      have := (World.cells?_some (hL k hk)).2.1
      simpa using this
    have hcell : ∀ k j, k < len → j < n → W.cell? ((a.add (k * n)).add j) = ((L k).map cellI)[j]? := fun k j hk hj => (World.cells?_some (hL k hk)).2.2 j hj
    -- the block
    have h00 := hcell 0 0 hpos hn
    have hsome : ∃ c et fr, W.heap[a.block]? = some (.cells c et fr) ∧ a.spot = none := by
      have h1 : ((L 0).map cellI)[0]? = some (cellI ((L 0)[0]'(by rw [hlen 0 hpos]; exact hn))) := by simp [hlen 0 hpos, hn]
      rw [h1] at h00
      have e0 : (a.add (0 * n)).add 0 = a := by simp [Addr.add]
      rw [e0] at h00
      unfold World.cell? at h00
      cases hw : W.heap[a.block]? with
      | none => rw [hw] at h00; cases h00
      | some o =>
        rw [hw] at h00
        cases o with
        | cells c et fr =>
          cases hs : a.spot with
          | none => exact ⟨c, et, fr, rfl, rfl⟩
          | some q => simp [hs] at h00
        | _ => cases h00
    obtain ⟨c, et, fr, hb, hs⟩ := hsome
    obtain ⟨ab, ao, asp⟩ := a
    simp only at hs hb
    subst hs
    have hcell' : ∀ k j, k < len → j < n → c[ao + k * n + j]? = ((L k).map cellI)[j]? := fun k j hk hj => by
      have := hcell k j hk hj
      have e0 : ((⟨ab, ao, none⟩ : Addr).add (k * n)).add j = ⟨ab, ao + k * n + j, none⟩ := by
        unfold Addr.add
        split <;> split <;> simp_all
      rw [e0] at this
      unfold World.cell? at this
      simp only [hb] at this
      simpa using this
    let xs := (List.range len).map L
    have hxs : ∀ x ∈ xs, x.length = n := by
      intro x hx'
      obtain ⟨k, hk, rfl⟩ := List.mem_map.1 hx'
      exact hlen k (by simpa using hk)
    have hys : ∀ x ∈ xs.map (·.map cellI), x.length = n := by
      intro x hx'
      obtain ⟨y, hy, rfl⟩ := List.mem_map.1 hx'
      simpa using hxs y hy
    have hflen : (xs.map (·.map cellI)).flatten.length = len * n := by
      have key : ∀ l : List (List Value), (∀ x ∈ l, x.length = n) → l.flatten.length = l.length * n := by
        intro l
        induction l with
        | nil => simp
        | cons x l ih => intro h; have := h x (by simp); have := ih (fun y hy => h y (by simp [hy])); simp_all [Nat.add_mul]; omega
      rw [key _ hys]
      simp [xs]
    have hget : ∀ k (hk : k < (xs.map (·.map cellI)).flatten.length), c[ao + k]? = (xs.map (·.map cellI)).flatten[k]? := by
      intro k hk
      obtain ⟨i', j', rfl, hj, hi, y, hy, hg⟩ := flat_idx _ hys k hk
      have hi' : i' < len := by simpa [xs] using hi
      have hyL : y = (L i').map cellI := by
        have : (xs.map (·.map cellI))[i']? = some ((L i').map cellI) := by simp [xs, hi']
        rw [this] at hy; cases hy; rfl
      rw [hg, hyL, ← hcell' i' j' hi' hj, Nat.add_assoc]
    have hsz : ao + len * n ≤ c.size := by
      have h1 := hget (len * n - 1) (by rw [hflen]; have := Nat.mul_pos hpos hn; omega)
      have h2 : (xs.map (·.map cellI)).flatten[len * n - 1]? ≠ none := by
        intro h0
        rw [List.getElem?_eq_none_iff] at h0
        have := Nat.mul_pos hpos hn
        omega
      rw [← h1] at h2
      have h3 : ¬ c.size ≤ ao + (len * n - 1) := fun hle => h2 (Array.getElem?_eq_none hle)
      have := Nat.mul_pos hpos hn
      omega
    have hrow : (List.replicate ao wild ++ (xs.map (·.map cellI)).flatten).length = ao + len * n := by rw [List.length_append, List.length_replicate, hflen]
    refine ⟨xs, .row (List.replicate ao wild ++ (xs.map (·.map cellI)).flatten) n false, some ⟨ab, c.size, n, false⟩, .slice (some ⟨i, ao, none⟩) xs.length len, hxs, by simp [xs]; omega, fun ρ hρ => ?_, fun m hm' => ?_, fun A hA => ⟨⟨hys, .inl ⟨i, ao, len, _, n, false, by simp, hA, ?_, ?_⟩⟩, ?_⟩, rfl⟩
    · have hxl : xs.length = len := by simp [xs]
      rw [hxl]
      exact .slice hρ hlc (fun h => by cases h)
    · cases hm'
      refine ⟨(Array.getElem?_eq_some_iff.1 hb).1, rfl, fun ρ => ⟨rfl, rfl, c, et, fr, hb, rfl, (fun h => by cases h), by rw [hrow]; exact hsz, fun j h1 h2 => ?_⟩⟩
      by_cases hj : j < ao
      · rw [List.getElem_append_left (by simpa using hj), List.getElem_replicate]
        exact .wild _
      · have hk : j - ao < (xs.map (·.map cellI)).flatten.length := by rw [hflen]; rw [hrow] at h1; omega
        have h3 := hget (j - ao) hk
        rw [show ao + (j - ao) = j by omega, Array.getElem?_eq_getElem h2, List.getElem?_eq_getElem hk] at h3
        rw [List.getElem_append_right (by simpa using hj)]
        simp only [List.length_replicate]
        have h4 := Option.some.inj h3
        rw [h4]
        have hmem : (xs.map (·.map cellI)).flatten[j - ao] ∈ (xs.map (·.map cellI)).flatten := List.getElem_mem hk
        obtain ⟨y, hy, hz⟩ := List.mem_flatten.1 hmem
        obtain ⟨z, hz', rfl⟩ := List.mem_map.1 hy
        obtain ⟨q, _, hq⟩ := List.mem_map.1 hz
        rw [← hq]
        exact .int _ _
    · rw [hrow]; simp [xs]
    · have hxl : xs.length = len := by simp [xs]
      rw [List.drop_left' (by simp), List.length_map, hxl, ← hflen, List.take_length]
    · intro j hj
      simp [idOf] at hj
      subst hj
      refine ⟨_, _, hA, fun y hy => ?_⟩
      rcases List.mem_append.1 hy with hy | hy
      · rw [(List.mem_replicate.1 hy).2]; exact Plain.wild
      · obtain ⟨z, hz, hz2⟩ := List.mem_flatten.1 hy
        obtain ⟨q, _, rfl⟩ := List.mem_map.1 hz
        obtain ⟨r, _, rfl⟩ := List.mem_map.1 hz2
        exact .flat rfl
end
end Go.Abs

namespace Go.Proofs.Ytehobnpoeodhkaa
open Go Go.Abs Go.Proofs Go.ChangeShapes
set_option maxHeartbeats 400000
attribute [local irreducible] CallJ OpsJ WPJ CallV MonoJ SpecJ

/-! ### A house that comes in -/
structure HouseW (H : AHeap) (m : HouseM) (s1 s2 s3 : Value) : Prop where
  clocks : RdS H s1 2 (m.clocks.map encR)
  tickets : RdS H s2 2 (m.tickets.map encR)
  clips : RdS H s3 3 (m.clips.map encC)
  ok : [s1, s2, s3].all cellOk = true
  n1 : m.clocks.length ≤ 9223372036854775807
  n2 : m.tickets.length ≤ 9223372036854775807
  n3 : m.clips.length ≤ 9223372036854775807
  p1 : PlainS H s1
  p2 : PlainS H s2
  p3 : PlainS H s3
theorem HouseW.ext {H H' : AHeap} {m : HouseM} {s1 s2 s3 : Value} (h : HouseW H m s1 s2 s3) (he : Ext H H') : HouseW H' m s1 s2 s3 := ⟨h.clocks.ext he, h.tickets.ext he, h.clips.ext he, h.ok, h.n1, h.n2, h.n3, h.p1.ext he, h.p2.ext he, h.p3.ext he⟩
theorem okWide_agg {P : Program} {W : World} {base : Nat} {t : TypeId} {v : Value} {fs : Array Field} (ht : P.underlying t = some (.struct fs)) (h : Value.okWide P W .any base t v) : ∃ cs, v = .agg cs ∧ cs.size = P.cellsOf t := by
  unfold Value.okWide at h
  rw [ht] at h
  obtain ⟨cs, h1, h2, _⟩ := h
  exact ⟨cs, h1, h2⟩
theorem HouseW.is {H : AHeap} {m : HouseM} {s1 s2 s3 : Value} (h : HouseW H m s1 s2 s3) (ht : thinS m = true) : HouseIs H m s1 s2 s3 := by
  unfold thinS at ht
  simp only [Bool.and_eq_true, decide_eq_true_eq] at ht
  exact ⟨h.clocks, h.tickets, h.clips, h.ok, by omega, by omega, by omega, h.p1, h.p2, h.p3⟩

theorem und3 : Try.prog.underlying 3 = some (.int .i64) := by kernel_rfl
theorem und22 : Try.prog.underlying 22 = some (.slice 53) := by kernel_rfl
theorem und23 : Try.prog.underlying 23 = some (.slice 97) := by kernel_rfl
theorem und24 : Try.prog.underlying 24 = some (.slice 93) := by kernel_rfl
theorem und27 : Try.prog.underlying 27 = some (.slice 3) := by kernel_rfl
theorem cel3 : Try.prog.cellsOf 3 = 1 := by kernel_rfl
theorem i3 : IntsAt Try.prog 3 1 := intsAt_int und3 cel3
theorem i53 : IntsAt Try.prog 53 2 := intsAt_struct2 (f0 := .mk "Lo" 3 0 false "" "" 0) (f1 := .mk "Hi" 3 1 false "" "" 8) (by kernel_rfl) (by kernel_rfl) rfl rfl cel3 cel3 und3 und3
theorem i97 : IntsAt Try.prog 97 2 := intsAt_struct2 (f0 := .mk "Tub" 3 0 false "" "" 0) (f1 := .mk "Hours" 3 1 false "" "" 8) (by kernel_rfl) (by kernel_rfl) rfl rfl cel3 cel3 und3 und3
theorem i93 : IntsAt Try.prog 93 3 := intsAt_struct3 (f0 := .mk "Ticket" 3 0 false "" "" 0) (f1 := .mk "Clock" 3 1 false "" "" 8) (f2 := .mk "Minute" 3 2 false "" "" 16) (by kernel_rfl) (by kernel_rfl) rfl rfl rfl cel3 cel3 cel3 und3 und3 und3
theorem und26 : Try.prog.underlying 26 = some (.struct #[.mk "Hour" 3 0 false "" "" 0, .mk "Grace" 3 1 false "" "" 8, .mk "Clocks" 22 2 false "" "" 16, .mk "Tickets" 23 3 false "" "" 40, .mk "Clips" 24 4 false "" "" 64]) := by kernel_rfl
theorem cel22 : Try.prog.cellsOf 22 = 1 := by kernel_rfl
theorem cel23 : Try.prog.cellsOf 23 = 1 := by kernel_rfl
theorem cel24 : Try.prog.cellsOf 24 = 1 := by kernel_rfl
theorem cel26 : Try.prog.cellsOf 26 = 5 := by kernel_rfl

def toR (l : List Int) : Int × Int := (l.getD 0 0, l.getD 1 0)
def toC (l : List Int) : ClipM := ⟨l.getD 0 0, l.getD 1 0, l.getD 2 0⟩
theorem toR_enc {xs : List (List Int)} (h : ∀ x ∈ xs, x.length = 2) : xs.map (·.map cellI) = (xs.map toR).map encR := by
  rw [List.map_map]
  refine List.map_congr_left fun x hx => ?_
  match x, h x hx with
  | [a, b], _ => rfl
theorem toC_enc {xs : List (List Int)} (h : ∀ x ∈ xs, x.length = 3) : xs.map (·.map cellI) = (xs.map toC).map encC := by
  rw [List.map_map]
  refine List.map_congr_left fun x hx => ?_
  match x, h x hx with
  | [a, b, c], _ => rfl
/-- one image a number -/
def OneOf (W : World) (_i : Nat) (ob : AObj) (im : Option Img) : Prop := ∀ m, im = some m → m.blk < W.heap.size ∧ m.own = false ∧ ∀ ρ, ORel ρ ob m W.heap[m.blk]?
set_option maxRecDepth 100000 in
theorem house_abs {X : Type} {enc : TypeId × Value → X} {W : World} {base : Nat} {v : Value} {d : DataW X} {ps : List MemPlace} (i : Nat) (hok : Value.okWide Try.prog W .any base 26 v) (h : DataW.Trod enc Try.prog W 0 (fun _ => true) true 26 v d ps) :
    ∃ (m : HouseM) (s1 s2 s3 : Value) (o1 o2 o3 : AObj) (m1 m2 m3 : Option Img), OneOf W i o1 m1 ∧ OneOf W (i + 1) o2 m2 ∧ OneOf W (i + 2) o3 m3 ∧
      (∀ ρ : Ren, ρ i = m1 → ρ (i + 1) = m2 → ρ (i + 2) = m3 → VRel ρ (hv m s1 s2 s3) v) ∧ (∀ A : AHeap, A[i]? = some o1 → A[i + 1]? = some o2 → A[i + 2]? = some o3 → HouseW A m s1 s2 s3) := by
  have hag := @okWide_agg Try.prog W base 26 v _ und26 hok
  obtain ⟨cs, rfl, hsz⟩ := hag
  rw [cel26] at hsz
  obtain ⟨fuel, h⟩ := h
  obtain ⟨cl⟩ := cs
  simp at hsz
  match cl, hsz with
  | [v0, v1, v2, v3, v4], _ =>
    have h : DataW.trod enc Try.prog W 0 (fun _ => true) true fuel 26 [v0, v1, v2, v3, v4] = some (d, ps) := h
    obtain ⟨xs, n, _, _, _, hx, hf⟩ := DataW.trod_struct und26 h
    match xs, hx with
    | [x0, x1, x2, x3, x4], _ =>
      have h0 := hf 0 _ rfl
      have h1 := hf 1 _ rfl
      have h2 := hf 2 _ rfl
      have h3 := hf 3 _ rfl
      have h4 := hf 4 _ rfl
      simp [cel3, cel22, cel23, cel24] at h0 h1 h2 h3 h4
      obtain ⟨n0, e0, _⟩ := DataW.trod_int und3 h0
      obtain ⟨n1, e1, _⟩ := DataW.trod_int und3 h1
      simp at e0 e1
      subst e0; subst e1
      obtain ⟨y1, o1, m1, s1, a1, b1, c1, d1, f1, g1⟩ := slice_abs (i := i) und22 i53 h2
      obtain ⟨y2, o2, m2, s2, a2, b2, c2, d2, f2, g2⟩ := slice_abs (i := i + 1) und23 i97 h3
      obtain ⟨y3, o3, m3, s3, a3, b3, c3, d3, f3, g3⟩ := slice_abs (i := i + 2) und24 i93 h4
      refine ⟨⟨n0, n1, y1.map toR, y2.map toR, y3.map toC⟩, s1, s2, s3, o1, o2, o3, m1, m2, m3, d1, d2, d3, fun ρ r1 r2 r3 => ?_, fun A t1 t2 t3 => ?_⟩
      · refine .agg rfl fun j q1 q2 => ?_
        match j, q1 with
        | 0, _ => exact .int _ _
        | 1, _ => exact .int _ _
        | 2, _ => exact c1 ρ r1
        | 3, _ => exact c2 ρ r2
        | 4, _ => exact c3 ρ r3
      · have hml : maxLen = 9223372036854775807 := by decide
        rw [hml] at b1 b2 b3
        exact ⟨by rw [← toR_enc a1]; exact (f1 A t1).1, by rw [← toR_enc a2]; exact (f2 A t2).1, by rw [← toC_enc a3]; exact (f3 A t3).1, by simp [g1, g2, g3], by simpa using b1, by simpa using b2, by simpa using b3, (f1 A t1).2, (f2 A t2).2, (f3 A t3).2⟩

section
variable {γ : Type} (E : Env γ) (g : γ) (H : AHeap)
theorem ThinW_spec (m : HouseM) (s1 s2 s3 : Value) (hm : HouseW H m s1 s2 s3) : CallJ Try.prog E 23 [hv m s1 s2 s3] (fun v H' g' => v = .bool (thinS m) ∧ H' = H ∧ g' = g) H g := by
  have hok : [Value.int .i64 m.hour, Value.int .i64 m.grace, s1, s2, s3].all cellOk = true := by have := hm.ok; simp [cellOk] at this ⊢; exact this
  have hr1 := hm.clocks
  have hr2 := hm.tickets
  have hr3 := hm.clips
  have hn1 := hm.n1
  have hn2 := hm.n2
  have hn3 := hm.n3
  refine CallJ.tidy ?_
  unfold hv thinS
  refine CallJ.enter Try.func23 rfl (by simp only [Try.ntmps23, List.length_cons, List.length_nil, Nat.zero_add, Nat.reduceSub, List.replicate_succ, List.replicate_zero, List.cons_append, List.nil_append]; rfl) ?_
  repeat' (first
    | refine W1 ?_ | refine Wc ?_ | refine W2c ?_ ?_ | refine Wg ?_ | refine W2 ?_ ?_ | exact Wdead | refine Wlive (fun hb => ?_) | intro _ _ _ _ _ _ _ _ | refine We ?_ | refine Wx ?_ | refine Wt ?_ | refine Wm ?_ | refine W2m ?_ ?_ | refine Wl ?_
    | fail)
  all_goals (refine ⟨?_, rfl, rfl⟩; show Value.bool _ = _; congr 1; all_goals first | rfl | (rw [Bool.eq_iff_iff]; simp only [Bool.and_eq_true, decide_eq_true_eq, Bool.false_eq_true, true_iff, false_iff]; omega))
theorem readyN_spec (m : HouseM) (s1 s2 s3 : Value) (hm : HouseW H m s1 s2 s3) (ht : thinS m = false) : CallJ Try.prog E 61 [hv m s1 s2 s3] (fun v H' g' => v = .bool (thinS m && decide (checkS m = 0)) ∧ H' = H ∧ g' = g) H g := by
  have hok : [Value.int .i64 m.hour, Value.int .i64 m.grace, s1, s2, s3].all cellOk = true := by have := hm.ok; simp [cellOk] at this ⊢; exact this
  refine CallJ.tidy ?_
  unfold hv
  refine CallJ.enter Try.func61 rfl (by simp only [Try.ntmps61, List.length_cons, List.length_nil, Nat.zero_add, Nat.reduceSub, List.replicate_succ, List.replicate_zero, List.cons_append, List.nil_append]; rfl) ?_
  repeat' (first
    | (refine is_ucall ?_; first
      | refine st_callP (h := ThinW_spec _ _ _ m s1 s2 s3 (hm.ext extA)) (k := ?_)
      | fail)
    | (refine is_umcall ?_; first
      | refine mj_callP (h := ThinW_spec _ _ _ m s1 s2 s3 (hm.ext extA)) (k := ?_)
      | fail)
    | refine W1 ?_ | refine Wc ?_ | refine W2c ?_ ?_ | refine Wg ?_ | refine W2 ?_ ?_ | exact Wdead | refine Wlive (fun hb => ?_) | intro _ _ _ _ _ _ _ _ | refine We ?_ | refine Wx ?_ | refine Wt ?_ | refine Wm ?_ | refine W2m ?_ ?_ | refine Wl ?_
    | fail)
  · exact ⟨rfl, rfl, rfl⟩
end
theorem readyW_spec {γ : Type} (E : Env γ) (g : γ) (H : AHeap) (m : HouseM) (s1 s2 s3 : Value) (hm : HouseW H m s1 s2 s3) : CallJ Try.prog E 61 [hv m s1 s2 s3] (fun v H' g' => v = .bool (thinS m && decide (checkS m = 0)) ∧ H' = H ∧ g' = g) H g := by
  cases ht : thinS m with
  | false => rw [← ht]; exact readyN_spec E g H m s1 s2 s3 hm ht
  | true => rw [← ht]; exact ready_spec E g H m s1 s2 s3 (hm.is ht)
end Go.Proofs.Ytehobnpoeodhkaa
