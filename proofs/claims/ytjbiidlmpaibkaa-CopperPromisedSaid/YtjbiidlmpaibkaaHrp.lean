import Derived.Test.YtjbiidlmpaibkaaHnp
namespace Go.Abs
open Go Go.Deep Go.RowKit Go.ChangeShapes
section
variable {X : Type} {enc : TypeId × Value → X} {P : Program} {W : World}
abbrev cellU (n : Int) : Value := .int .u16 n
def IntsU (P : Program) (e : TypeId) (n : Nat) : Prop := P.cellsOf e = n ∧ 0 < n ∧ ∀ (X : Type) (enc : TypeId × Value → X) (W : World) (fuel : Nat) (cs : List Value) (x : DataW X × List MemPlace), DataW.trod enc P W 0 (fun _ => true) true fuel e cs = some x → ∃ l : List Int, cs = l.map cellU ∧ ∀ y ∈ l, 0 ≤ y ∧ y ≤ 65535
theorem intsU_int {e : TypeId} (he : P.underlying e = some (.int .u16)) (hc : P.cellsOf e = 1) : IntsU P e 1 := ⟨hc, by omega, fun X enc W fuel cs x h => by
  obtain ⟨n, rfl, _, hw⟩ := DataW.trod_int he h
  simp only [Lit.wf, Bool.and_eq_true, decide_eq_true_eq, show IntKind.u16.min = 0 by decide, show IntKind.u16.max = 65535 by decide] at hw
  exact ⟨[n], rfl, fun y hy => by simp at hy; subst hy; exact hw⟩⟩
theorem slice_absU {t e : TypeId} {n i fuel : Nat} {v : Value} {x : DataW X × List MemPlace} (ht : P.underlying t = some (.slice e)) (hI : IntsU P e n) (h : DataW.trod enc P W 0 (fun _ => true) true fuel t [v] = some x) :
    ∃ (xs : List (List Int)) (ob : AObj) (im : Option Img) (s : Value), (∀ x ∈ xs, x.length = n ∧ ∀ y ∈ x, 0 ≤ y ∧ y ≤ 65535) ∧ xs.length ≤ maxLen ∧ (∀ ρ : Ren, ρ i = im → VRel ρ s v) ∧ (∀ m, im = some m → m.blk < W.heap.size ∧ m.own = false ∧ ∀ ρ, ORel ρ ob m W.heap[m.blk]?) ∧
      (∀ A : AHeap, A[i]? = some ob → RdS A s n (xs.map (·.map cellU)) ∧ PlainS A s) ∧ cellOk s = true := by
  obtain ⟨hc, hn, hI⟩ := hI
  rcases open_slice ht h with ⟨e1, _⟩ | ⟨a, len, cap, m, fu, D, Pl, e1, _, hlc, hcm, hm, _, hx⟩
  · cases e1
    exact ⟨[], .dead, none, .slice none 0 0, by simp, by simp, fun _ _ => .nilSlice, (fun _ h => by cases h), fun A hA => ⟨⟨by simp, .inr ⟨rfl, .inl rfl⟩⟩, fun j hj => by simp [idOf] at hj⟩, rfl⟩
  · cases e1
    rcases Nat.eq_zero_or_pos len with rfl | hpos
    · exact ⟨[], .dead, none, .slice none 0 1, by simp, by simp, fun _ _ => .empty _ _, (fun _ h => by cases h), fun A hA => ⟨⟨by simp, .inr ⟨rfl, .inr rfl⟩⟩, fun j hj => by simp [idOf] at hj⟩, rfl⟩
    have hmlen : len ≤ m := by rw [hm]; simpa using hlc
    obtain ⟨L, hL⟩ := choose_lt (α := List Int) (n := len) (p := fun k l => W.cells? 0 (a.add (k * n)) n = some (l.map cellU) ∧ ∀ y ∈ l, 0 ≤ y ∧ y ≤ 65535) (fun k hk => by
      obtain ⟨cs', h1, h2⟩ := hx k (by omega)
      obtain ⟨l, rfl, hlb⟩ := hI _ _ _ _ _ _ h2
      rw [hc] at h1
      exact ⟨l, h1, hlb⟩)
    have hlen : ∀ k, k < len → (L k).length = n := fun k hk => by
      have := (World.cells?_some (hL k hk).1).2.1
      simpa using this
    have hcell : ∀ k j, k < len → j < n → W.cell? ((a.add (k * n)).add j) = ((L k).map cellU)[j]? := fun k j hk hj => (World.cells?_some (hL k hk).1).2.2 j hj
    have h00 := hcell 0 0 hpos hn
    have hsome : ∃ c et fr, W.heap[a.block]? = some (.cells c et fr) ∧ a.spot = none := by
      have h1 : ((L 0).map cellU)[0]? = some (cellU ((L 0)[0]'(by rw [hlen 0 hpos]; exact hn))) := by simp [hlen 0 hpos, hn]
      rw [h1] at h00
      have e0 : (a.add (0 * n)).add 0 = a := by simp [Addr.add]
      rw [e0] at h00
      unfold World.cell? at h00
      cases hw : W.heap[a.block]? with
      | none => rw [hw] at h00; cases h00
      | some o =>
        rw [hw] at h00
        cases o with
        | cells c et fr =>
          cases hs : a.spot with
          | none => exact ⟨c, et, fr, rfl, rfl⟩
          | some q => simp [hs] at h00
        | _ => cases h00
    obtain ⟨c, et, fr, hb, hs⟩ := hsome
    obtain ⟨ab, ao, asp⟩ := a
    simp only at hs hb
    subst hs
    have hcell' : ∀ k j, k < len → j < n → c[ao + k * n + j]? = ((L k).map cellU)[j]? := fun k j hk hj => by
      have := hcell k j hk hj
      have e0 : ((⟨ab, ao, none⟩ : Addr).add (k * n)).add j = ⟨ab, ao + k * n + j, none⟩ := by
        unfold Addr.add
        split <;> split <;> simp_all
      rw [e0] at this
      unfold World.cell? at this
      simp only [hb] at this
      simpa using this
    let xs := (List.range len).map L
    have hxs : ∀ x ∈ xs, x.length = n := by
      intro x hx'
      obtain ⟨k, hk, rfl⟩ := List.mem_map.1 hx'
      exact hlen k (by simpa using hk)
    have hxb : ∀ x ∈ xs, ∀ y ∈ x, 0 ≤ y ∧ y ≤ 65535 := by
      intro x hx'
      obtain ⟨k, hk, rfl⟩ := List.mem_map.1 hx'
      exact (hL k (by simpa using hk)).2
    have hys : ∀ x ∈ xs.map (·.map cellU), x.length = n := by
      intro x hx'
      obtain ⟨y, hy, rfl⟩ := List.mem_map.1 hx'
      simpa using hxs y hy
    have hflen : (xs.map (·.map cellU)).flatten.length = len * n := by
      have key : ∀ l : List (List Value), (∀ x ∈ l, x.length = n) → l.flatten.length = l.length * n := by
        intro l
        induction l with
        | nil => simp
        | cons x l ih => intro h; have := h x (by simp); have := ih (fun y hy => h y (by simp [hy])); simp_all [Nat.add_mul]; omega
      rw [key _ hys]
      simp [xs]
    have hget : ∀ k (hk : k < (xs.map (·.map cellU)).flatten.length), c[ao + k]? = (xs.map (·.map cellU)).flatten[k]? := by
      intro k hk
      obtain ⟨i', j', rfl, hj, hi, y, hy, hg⟩ := flat_idx _ hys k hk
      have hi' : i' < len := by simpa [xs] using hi
      have hyL : y = (L i').map cellU := by
        have : (xs.map (·.map cellU))[i']? = some ((L i').map cellU) := by simp [xs, hi']
        rw [this] at hy; cases hy; rfl
      rw [hg, hyL, ← hcell' i' j' hi' hj, Nat.add_assoc]
    have hsz : ao + len * n ≤ c.size := by
      have h1 := hget (len * n - 1) (by rw [hflen]; have := Nat.mul_pos hpos hn; omega)
      have h2 : (xs.map (·.map cellU)).flatten[len * n - 1]? ≠ none := by
        intro h0
        rw [List.getElem?_eq_none_iff] at h0
        have := Nat.mul_pos hpos hn
        omega
      rw [← h1] at h2
      have h3 : ¬ c.size ≤ ao + (len * n - 1) := fun hle => h2 (Array.getElem?_eq_none hle)
      have := Nat.mul_pos hpos hn
      omega
    have hrow : (List.replicate ao wild ++ (xs.map (·.map cellU)).flatten).length = ao + len * n := by rw [List.length_append, List.length_replicate, hflen]
    refine ⟨xs, .row (List.replicate ao wild ++ (xs.map (·.map cellU)).flatten) n false, some ⟨ab, c.size, n, false⟩, .slice (some ⟨i, ao, none⟩) xs.length len, fun x hx' => ⟨hxs x hx', hxb x hx'⟩, by simp [xs]; omega, fun ρ hρ => ?_, fun m hm' => ?_, fun A hA => ⟨⟨hys, .inl ⟨i, ao, len, _, n, false, by simp, hA, ?_, ?_⟩⟩, ?_⟩, rfl⟩
    · have hxl : xs.length = len := by simp [xs]
      rw [hxl]
      exact .slice hρ hlc (fun h => by cases h)
    · cases hm'
      refine ⟨(Array.getElem?_eq_some_iff.1 hb).1, rfl, fun ρ => ⟨rfl, rfl, c, et, fr, hb, rfl, (fun h => by cases h), by rw [hrow]; exact hsz, fun j h1 h2 => ?_⟩⟩
      by_cases hj : j < ao
      · rw [List.getElem_append_left (by simpa using hj), List.getElem_replicate]
        exact .wild _
      · have hk : j - ao < (xs.map (·.map cellU)).flatten.length := by rw [hflen]; rw [hrow] at h1; omega
        have h3 := hget (j - ao) hk
        rw [show ao + (j - ao) = j by omega, Array.getElem?_eq_getElem h2, List.getElem?_eq_getElem hk] at h3
        rw [List.getElem_append_right (by simpa using hj)]
        simp only [List.length_replicate]
        have h4 := Option.some.inj h3
        rw [h4]
        have hmem : (xs.map (·.map cellU)).flatten[j - ao] ∈ (xs.map (·.map cellU)).flatten := List.getElem_mem hk
        obtain ⟨y, hy, hz⟩ := List.mem_flatten.1 hmem
        obtain ⟨z, hz', rfl⟩ := List.mem_map.1 hy
        obtain ⟨q, _, hq⟩ := List.mem_map.1 hz
        rw [← hq]
        exact .int _ _
    · rw [hrow]; simp [xs]
    · have hxl : xs.length = len := by simp [xs]
      rw [List.drop_left' (by simp), List.length_map, hxl, ← hflen, List.take_length]
    · intro j hj
      simp [idOf] at hj
      subst hj
      refine ⟨_, _, hA, fun y hy => ?_⟩
      rcases List.mem_append.1 hy with hy | hy
      · rw [(List.mem_replicate.1 hy).2]; exact Plain.wild
      · obtain ⟨z, hz, hz2⟩ := List.mem_flatten.1 hy
        obtain ⟨q, _, rfl⟩ := List.mem_map.1 hz
        obtain ⟨r, _, rfl⟩ := List.mem_map.1 hz2
        exact .flat rfl
end
end Go.Abs
namespace Go.Proofs.Ytjbiidlmpaibkaa
open Go Go.Abs Go.Proofs Go.ChangeShapes Go.RowKit Go.WideShapes Go.ChangeAt
set_option maxHeartbeats 800000
abbrev encU (l : List Int) : List (List Value) := l.map fun x => [cellU x]
theorem rd80 : Try.prog.readableRec 80 = true := by kernel_rfl
theorem sz80 : 80 < Try.prog.types.size := of_decide_eq_true (by kernel_rfl)
theorem und80 : Try.prog.underlying 80 = some (.slice 79) := by kernel_rfl
theorem cel79 : Try.prog.cellsOf 79 = 1 := by kernel_rfl
theorem i79 : IntsU Try.prog 79 1 := intsU_int und79' cel79
theorem toU_enc {xs : List (List Int)} (h : ∀ x ∈ xs, x.length = 1) : xs.map (·.map cellU) = encU (xs.map toI) := by
  show _ = (xs.map toI).map fun x => [cellU x]
  rw [List.map_map]
  refine List.map_congr_left fun x hx => ?_
  match x, h x hx with
  | [a], _ => rfl
set_option maxRecDepth 100000 in
theorem words_abs {X : Type} {enc : TypeId × Value → X} {W : World} {v : Value} {d : DataW X} {ps : List MemPlace} (i : Nat) (hv : v.cells.toList = [v]) (h : DataW.Trod enc Try.prog W 0 (fun _ => true) true 80 v d ps) :
    ∃ (l : List Int) (s : Value) (o : AObj) (im : Option Img), OneOf W i o im ∧ l.length ≤ 9223372036854775807 ∧ (∀ x ∈ l, 0 ≤ x ∧ x ≤ 65535) ∧ (∀ ρ : Ren, ρ i = im → VRel ρ s v) ∧ (∀ A : AHeap, A[i]? = some o → RdS A s 1 (encU l)) := by
  obtain ⟨fuel, h⟩ := h
  rw [hv] at h
  obtain ⟨y1, o1, m1, s1, a1, b1, c1, d1, f1, g1⟩ := slice_absU (i := i) und80 i79 h
  have hml : maxLen = 9223372036854775807 := by decide
  rw [hml] at b1
  refine ⟨y1.map toI, s1, o1, m1, d1, by simpa using b1, fun x hx => ?_, c1, fun A t1 => by rw [← toU_enc (fun x hx => (a1 x hx).1)]; exact (f1 A t1).1⟩
  obtain ⟨y, hy, rfl⟩ := List.mem_map.1 hx
  obtain ⟨k1, k2⟩ := a1 y hy
  match y, k1 with
  | [z], _ => exact k2 z (by simp)
end Go.Proofs.Ytjbiidlmpaibkaa
