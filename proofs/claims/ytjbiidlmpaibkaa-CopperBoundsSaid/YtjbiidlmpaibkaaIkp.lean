import Derived.Test.YtjbiidlmpaibkaaIjp
namespace Go.Proofs.Ytjbiidlmpaibkaa
open Go Go.Abs Go.Proofs
set_option maxHeartbeats 1600000
attribute [local irreducible] CallJ OpsJ WPJ CallV MonoJ SpecJ
theorem pad5_drop : ∀ (l : List Int), l.length ≤ 5 → l ++ List.drop l.length [0, 0, 0, 0, 0] = pad5 l
  | [], _ => rfl
  | [a], _ => rfl
  | [a, b], _ => rfl
  | [a, b, c], _ => rfl
  | [a, b, c, d], _ => rfl
  | [a, b, c, d, e], _ => rfl
  | a :: b :: c :: d :: e :: f :: l, h => by simp at h
def prodN : List (Int × Int) → Nat
  | [] => 1
  | r :: l => szN r * prodN l
theorem prodN_eq : ∀ (l : List (Int × Int)), (∀ r ∈ l, upTo r 99 = true) → ((prodN l : Nat) : Int) = prodS l
  | [], _ => rfl
  | r :: l, h => by
    have h1 := prodN_eq l fun x hx => h x (by simp [hx])
    obtain ⟨_, _, h2⟩ := szN_pos (h r (by simp))
    show ((szN r * prodN l : Nat) : Int) = (r.2 - r.1 + 1) * prodS l
    rw [Int.natCast_mul, h1, h2]
theorem digits_mem : ∀ (rs : List (Int × Int)) (n : Nat), (∀ r ∈ rs, upTo r 99 = true) → digits rs n ∈ gen rs
  | [], n, _ => by simp [digits, gen]
  | r :: rs, n, h => by
    have ih := digits_mem rs (n / szN r) fun x hx => h x (by simp [hx])
    obtain ⟨h1, _, h2⟩ := szN_pos (h r (by simp))
    have h3 : n % szN r < szN r := Nat.mod_lt _ (by omega)
    refine List.mem_flatMap.2 ⟨r.1 + (n % szN r : Nat), ?_, List.mem_map.2 ⟨_, ih, rfl⟩⟩
    unfold rng
    exact List.mem_map.2 ⟨n % szN r, List.mem_range.2 h3, by omega⟩
theorem digits_sur : ∀ (rs : List (Int × Int)) (s : List Int), (∀ r ∈ rs, upTo r 99 = true) → s ∈ gen rs → ∃ n, n < prodN rs ∧ digits rs n = s
  | [], s, _, hs => by
    simp [gen] at hs; subst hs
    exact ⟨0, by simp [prodN], rfl⟩
  | r :: rs, s, h, hs => by
    obtain ⟨x, hx, hs⟩ := List.mem_flatMap.1 hs
    obtain ⟨s', hs', rfl⟩ := List.mem_map.1 hs
    obtain ⟨n, hn, rfl⟩ := digits_sur rs s' (fun x hx => h x (by simp [hx])) hs'
    unfold rng at hx
    obtain ⟨k, hk, rfl⟩ := List.mem_map.1 hx
    replace hk : k < szN r := List.mem_range.1 hk
    refine ⟨k + szN r * n, ?_, ?_⟩
    · show _ < szN r * prodN rs
      have : szN r * (n + 1) ≤ szN r * prodN rs := Nat.mul_le_mul_left _ hn
      rw [Nat.mul_add, Nat.mul_one] at this
      omega
    · show (r.1 + ((k + szN r * n) % szN r : Nat)) :: digits rs ((k + szN r * n) / szN r) = _
      rw [Nat.add_mul_mod_self_left, Nat.mod_eq_of_lt hk, Nat.add_mul_div_left _ _ (by omega), Nat.div_eq_of_lt hk, Nat.zero_add]
      try simp
      try omega
abbrev nthT (m : CopM) (n : Nat) : Int × List Int := (nthH m n, pad5 (nthL m n))
theorem many_nat {m : CopM} (hG : Good m) : (manyS m).toNat = szN (m.hlo, m.hhi) * prodN m.loss := by
  obtain ⟨_, _, h2⟩ := szN_pos hG.hh
  have h3 := prodN_eq m.loss hG.lb
  have h4 := hG.sz
  have h5 : sizesS m = ((szN (m.hlo, m.hhi) * prodN m.loss : Nat) : Int) := by
    unfold sizesS; rw [Int.natCast_mul, h3, h2]
  rw [h5] at h4
  rw [manyS_eq, h5]
  generalize szN (m.hlo, m.hhi) * prodN m.loss = K at *
  omega
theorem nth_mem {m : CopM} (hG : Good m) (n : Nat) : nthT m n ∈ allT m := by
  obtain ⟨hn5, hnl⟩ := hrs_le hG.w
  have hll := hG.ll
  obtain ⟨h1, _, h2⟩ := szN_pos hG.hh
  have h3 : n % szN (m.hlo, m.hhi) < szN (m.hlo, m.hhi) := Nat.mod_lt _ (by omega)
  have h4 : (nthL m n).length = m.loss.length := digits_len _ _
  refine List.mem_flatMap.2 ⟨nthH m n, ?_, List.mem_map.2 ⟨pad5 (nthL m n), ?_, rfl⟩⟩
  · unfold rng
    exact List.mem_map.2 ⟨n % szN (m.hlo, m.hhi), List.mem_range.2 h3, rfl⟩
  · unfold genA
    exact List.mem_map.2 ⟨nthL m n, digits_mem _ _ hG.lb, by rw [← h4]; exact pad5_drop _ (by omega)⟩
theorem nth_sur {m : CopM} (hG : Good m) {t : Int × List Int} (ht : t ∈ allT m) : ∃ n, n < (manyS m).toNat ∧ nthT m n = t := by
  obtain ⟨hn5, hnl⟩ := hrs_le hG.w
  have hll := hG.ll
  obtain ⟨h, es⟩ := t
  obtain ⟨h1, h2⟩ := allT_mem ht
  unfold genA at h2
  obtain ⟨s, hs, rfl⟩ := List.mem_map.1 h2
  have hsl := gen_elem_len _ _ hs
  obtain ⟨n, hn, he⟩ := digits_sur ((m.hlo, m.hhi) :: m.loss) (h :: s) (fun r hr => by
    rcases List.mem_cons.1 hr with rfl | hr
    · exact hG.hh
    · exact hG.lb r hr) (List.mem_flatMap.2 ⟨h, h1, List.mem_map.2 ⟨s, hs, rfl⟩⟩)
  rw [many_nat hG]
  refine ⟨n, hn, ?_⟩
  have e1 : nthH m n = h := (List.cons.inj he).1
  have e2 : nthL m n = s := (List.cons.inj he).2
  show (nthH m n, pad5 (nthL m n)) = _
  rw [e1, e2, ← hsl, pad5_drop _ (by omega)]
def allN (m : CopM) (k : Nat) : List Nat := (List.range k).map fun n => rightB m (nthT m n) m.reads.length
def natI (l : List Nat) : List Int := l.map fun (n : Nat) => (n : Int)
def cansB (l : List Nat) (b : Nat) : Bool := l.any fun a => decide (a &&& b = b)
section
variable {γ : Type} (E : Env γ) (g : γ) (H : AHeap)
end
end Go.Proofs.Ytjbiidlmpaibkaa
