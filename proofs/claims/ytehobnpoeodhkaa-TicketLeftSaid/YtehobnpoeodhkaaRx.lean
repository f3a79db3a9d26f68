import Derived.Test.YtehobnpoeodhkaaRw
namespace Go.Proofs.Ytehobnpoeodhkaa
open Go Go.Abs Go.Proofs
set_option maxHeartbeats 1600000
attribute [local irreducible] CallJ OpsJ WPJ CallV MonoJ SpecJ

/-! ### A house with some of its clips -/
def clipsB (m : HouseM) (b : Nat) : List ClipM := ((List.range m.clips.length).filter fun p => b.testBit p).map fun p => m.clips.getD p ⟨0, 0, 0⟩
def subM (m : HouseM) (b : Nat) : HouseM := { m with clips := clipsB m b }
theorem clips_range (cs : List ClipM) : (List.range cs.length).map (fun p => cs.getD p ⟨0, 0, 0⟩) = cs := by
  refine List.ext_getElem (by simp) fun i h1 h2 => ?_
  simp [List.getD, h2]
theorem clipsB_sub (m : HouseM) (b : Nat) : (clipsB m b).Sublist m.clips := by
  have h : ((List.range m.clips.length).map fun p => m.clips.getD p ⟨0, 0, 0⟩) = m.clips := clips_range m.clips
  unfold clipsB
  conv => rhs; rw [← h]
  exact List.filter_sublist.map _
theorem good_sub {m : HouseM} (hG : Good m) (cs : List ClipM) (hs : cs.Sublist m.clips) : Good { m with clips := cs } := by
  have h3 := hG.n3
  have hl := hs.length_le
  refine ⟨hG.hour, hG.grace, hG.n1, hG.n2, by show cs.length ≤ 10; omega, hG.clock, hG.ticket, fun c hc => ?_, hG.few⟩
  have h := hG.clip c (hs.subset hc)
  refine ⟨h.1, h.2.1, h.2.2.1, ?_⟩
  have h4 := h.2.2.2
  unfold clipsOfS at h4 ⊢
  rw [List.take_length] at h4 ⊢
  have h5 : cs.countP (fun x => x.ticket == c.ticket) ≤ m.clips.countP (fun x => x.ticket == c.ticket) := hs.countP_le
  show ((cs.countP fun x => x.ticket == c.ticket : Nat) : Int) ≤ 2
  omega
theorem sub_good {m : HouseM} (hG : Good m) (b : Nat) : Good (subM m b) := good_sub hG _ (clipsB_sub m b)
def riseBK (m : HouseM) (l : List Int) (b i k : Nat) : Bool := (List.range k).all fun k => !(b.testBit i && b.testBit k) || decide (trueM l (m.clips.getD k ⟨0, 0, 0⟩) ≤ trueM l (m.clips.getD i ⟨0, 0, 0⟩))
def riseBI (m : HouseM) (l : List Int) (b i : Nat) : Bool := (List.range i).all fun i => riseBK m l b i i
def riseB (m : HouseM) (l : List Int) (b : Nat) : Bool := riseBI m l b m.clips.length
theorem riseB_eq (m : HouseM) (l : List Int) (b : Nat) : riseB m l b = riseS (subM m b) l := by
  rw [Bool.eq_iff_iff, rise_iff]
  show _ ↔ (clipsB m b).Pairwise _
  unfold clipsB
  rw [List.pairwise_map, List.pairwise_filter, List.pairwise_iff_getElem]
  unfold riseB riseBI riseBK
  simp only [List.all_eq_true, List.mem_range, Bool.or_eq_true, Bool.not_eq_true', Bool.and_eq_false_imp, decide_eq_true_eq, List.length_range, List.getElem_range]
  constructor
  · intro h i j hi hj hij h1 h2
    rcases h j hj i hij with h3 | h3
    · rw [h3 h2] at h1; cases h1
    · exact h3
  · intro h j hj i hij
    by_cases h2 : b.testBit j = true
    · by_cases h1 : b.testBit i = true
      · exact .inr (h i j (by omega) hj hij h1 h2)
      · exact .inl fun _ => by simpa using h1
    · exact .inl fun h3 => absurd h3 h2
theorem sub_low (m : HouseM) (k : Nat) : subM m (2 ^ k - 1) = upto m k := by
  unfold subM upto clipsB
  congr 1
  have h : ∀ n, ((List.range n).filter fun p => (2 ^ k - 1).testBit p) = List.range (min k n) := by
    intro n
    induction n with
    | zero => simp
    | succ n ih =>
      rw [List.range_succ, List.filter_append, ih]
      simp only [List.filter_cons, List.filter_nil, Nat.testBit_two_pow_sub_one, decide_eq_true_eq]
      by_cases h : n < k
      · rw [if_pos h, show min k (n + 1) = n + 1 by omega, show min k n = n by omega, List.range_succ]
      · rw [if_neg h, show min k (n + 1) = k by omega, show min k n = k by omega, List.append_nil]
  rw [h]
  refine List.ext_getElem (by simp) fun i h1 h2 => ?_
  simp at h1 h2
  simp [List.getD, show i < m.clips.length by omega]
theorem sub_not {m : HouseM} {c : Nat} (_hc : c < 2 ^ m.clips.length) : subM m ((2 ^ m.clips.length - 1) ^^^ c) = without m (bitsN c m.clips.length) := by
  unfold subM without clipsB keptN
  congr 1
  have hbit : ∀ p, p < m.clips.length → ((2 ^ m.clips.length - 1) ^^^ c).testBit p = !(bitsN c m.clips.length).contains (p : Int) := fun p hp => by
    rw [Nat.testBit_xor, Nat.testBit_two_pow_sub_one, decide_eq_true hp, Bool.true_xor]
    congr 1
    rw [Bool.eq_iff_iff, List.contains_iff_mem]
    unfold bitsN
    rw [List.mem_map]
    constructor
    · intro h
      exact ⟨p, List.mem_filter.2 ⟨List.mem_range.2 hp, h⟩, rfl⟩
    · rintro ⟨q, hq, e⟩
      have : q = p := by omega
      subst this
      exact (List.mem_filter.1 hq).2
  have : ∀ n, n ≤ m.clips.length → ((List.range n).filter fun p => ((2 ^ m.clips.length - 1) ^^^ c).testBit p).map (fun p => m.clips.getD p ⟨0, 0, 0⟩) = (List.range n).filterMap fun (k : Nat) => if (bitsN c m.clips.length).contains (k : Int) then none else m.clips[k]? := by
    intro n hn
    induction n with
    | zero => simp
    | succ n ih =>
      rw [List.range_succ, List.filter_append, List.map_append, List.filterMap_append, ih (by omega)]
      congr 1
      simp only [List.filter_cons, List.filter_nil, hbit n (by omega), List.filterMap_cons, List.filterMap_nil]
      cases h : (bitsN c m.clips.length).contains (n : Int) with
      | true => simp
      | false => simp [List.getD, show n < m.clips.length by omega]
  exact this _ (Nat.le_refl _)
theorem and_not {n c : Nat} (hn : n ≤ 30) (hc : c < 2 ^ n) : bitsBin .andNot .i64 ((2 ^ n - 1 : Nat) : Int) (c : Int) = some (((2 ^ n - 1) ^^^ c : Nat) : Int) := by
  have hp : 2 ^ n ≤ 2 ^ 30 := Nat.pow_le_pow_right (by decide) hn
  have hx : (2 ^ n - 1) ^^^ c < 2 ^ n := Nat.xor_lt_two_pow (by have := Nat.two_pow_pos n; omega) hc
  have h : (BitVec.ofInt 64 ((2 ^ n - 1 : Nat) : Int) &&& ~~~ BitVec.ofInt 64 (c : Int)).toNat = (2 ^ n - 1) ^^^ c := by
    refine Nat.eq_of_testBit_eq fun p => ?_
    rw [BitVec.toNat_and, BitVec.toNat_not, Nat.testBit_and, Nat.testBit_xor]
    rw [BitVec.ofInt_natCast, BitVec.ofInt_natCast, BitVec.toNat_ofNat, BitVec.toNat_ofNat, Nat.mod_eq_of_lt (by omega), Nat.mod_eq_of_lt (by omega)]
    rw [Nat.testBit_two_pow_sub_one]
    by_cases hpn : p < n
    · rw [decide_eq_true hpn, Bool.true_and, Bool.true_xor]
      rw [show 2 ^ 64 - 1 - c = 2 ^ 64 - (c + 1) by omega, Nat.testBit_two_pow_sub_succ (by omega), decide_eq_true (by omega), Bool.true_and]
    · rw [decide_eq_false hpn, Bool.false_and, Bool.false_xor, Nat.testBit_lt_two_pow (Nat.lt_of_lt_of_le hc (Nat.pow_le_pow_right (by decide) (by omega)))]
  show some (IntKind.i64.wrap ((BitVec.ofInt 64 _ &&& ~~~ BitVec.ofInt 64 _).toNat : Int)) = _
  rw [h, wrap64_eq ⟨by omega, by omega⟩]
theorem has_nth {m : HouseM} (hG : Good m) : hasS m = false ↔ refL m = [] := (ref_ne hG).symm
end Go.Proofs.Ytehobnpoeodhkaa
