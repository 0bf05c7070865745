/-
  What one slip does to the weighted sum of a checked string: plain mathematics. No program is named here.
-/
import Derived.Test.YtjpiidfoegaenaaEa
namespace Go.Proofs.Ytjpiidfoegaenaa

/-- The weighted sum, not yet reduced. -/
def polF : List Int → Int
  | [] => 0
  | v :: l => v * 3 ^ l.length + polF l
theorem rest_pol : ∀ (l : List Int) (s : Int), 0 ≤ s → s < 31 → restF l s = (s * 3 ^ l.length + polF l) % 31
  | [], s, h1, h2 => by
    show s = (s * 1 + 0) % 31
    omega
  | v :: l, s, h1, h2 => by
    show restF l ((s * 3 + v) % 31) = (s * 3 ^ (l.length + 1) + (v * 3 ^ l.length + polF l)) % 31
    rw [rest_pol l _ (Int.emod_nonneg _ (by omega)) (Int.emod_lt_of_pos _ (by omega))]
    rw [show s * (3 : Int) ^ (l.length + 1) + (v * 3 ^ l.length + polF l) = (s * 3 + v) * 3 ^ l.length + polF l by rw [Int.pow_succ, Int.add_mul, Int.mul_assoc, Int.mul_comm 3, Int.add_assoc]]
    rw [Int.add_emod, Int.mul_emod, Int.emod_emod, ← Int.mul_emod, ← Int.add_emod]
theorem restT_pol (l : List Int) : restT l = polF l % 31 := by
  unfold restT
  rw [rest_pol l 0 (by omega) (by omega), Int.zero_mul, Int.zero_add]
theorem pol_set : ∀ (l : List Int) (i : Nat) (a : Int), l[i]? = some a → ∃ e : Nat, ∀ b, polF (l.set i b) = polF l + (b - a) * 3 ^ e
  | v :: l, 0, a, h => by
    injection h with h
    subst h
    refine ⟨l.length, fun b => ?_⟩
    show b * 3 ^ l.length + polF l = v * 3 ^ l.length + polF l + (b - v) * 3 ^ l.length
    rw [Int.sub_mul]; omega
  | v :: l, i + 1, a, h => by
    obtain ⟨e, he⟩ := pol_set l i a h
    refine ⟨e, fun b => ?_⟩
    show v * 3 ^ (l.set i b).length + polF (l.set i b) = v * 3 ^ l.length + polF l + (b - a) * 3 ^ e
    rw [he b, List.length_set]; omega
  | [], i, a, h => by simp at h
theorem pol_swap : ∀ (l : List Int) (i : Nat) (a c : Int), l[i]? = some a → l[i + 1]? = some c → ∃ e : Nat, polF ((l.set i c).set (i + 1) a) = polF l + (c - a) * 2 * 3 ^ e
  | v :: u :: l, 0, a, c, h, h' => by
    injection h with h
    injection h' with h'
    subst h h'
    refine ⟨l.length, ?_⟩
    show u * 3 ^ (l.length + 1) + (v * 3 ^ l.length + polF l) = v * 3 ^ (l.length + 1) + (u * 3 ^ l.length + polF l) + (u - v) * 2 * 3 ^ l.length
    rw [Int.pow_succ]
    generalize (3 : Int) ^ l.length = p
    have e1 : u * (p * 3) = u * p * 3 := by rw [Int.mul_assoc]
    have e2 : v * (p * 3) = v * p * 3 := by rw [Int.mul_assoc]
    have e3 : (u - v) * 2 * p = u * p * 2 - v * p * 2 := by rw [Int.mul_assoc, Int.mul_comm 2 p, ← Int.mul_assoc, Int.sub_mul, Int.sub_mul]
    rw [e1, e2, e3]
    generalize u * p = x
    generalize v * p = y
    omega
  | v :: l, i + 1, a, c, h, h' => by
    obtain ⟨e, he⟩ := pol_swap l i a c h h'
    refine ⟨e, ?_⟩
    show v * 3 ^ ((l.set i c).set (i + 1) a).length + polF ((l.set i c).set (i + 1) a) = v * 3 ^ l.length + polF l + (c - a) * 2 * 3 ^ e
    rw [he, List.length_set, List.length_set]; omega
  | [], i, a, c, h, _ => by simp at h
  | [v], 0, a, c, _, h => by simp at h
/-- 3 can be divided by, modulo 31. -/
theorem no_three (d : Int) : ∀ e : Nat, d * 3 ^ e % 31 = 0 → d % 31 = 0
  | 0, h => by simpa using h
  | e + 1, h => no_three d e (by
    rw [Int.pow_succ, ← Int.mul_assoc] at h
    generalize d * 3 ^ e = x at *
    omega)
theorem set_sum {l : List Int} {i : Nat} {a b b' : Int} (h : l[i]? = some a) (h1 : 0 ≤ b ∧ b ≤ 30) (h2 : 0 ≤ b' ∧ b' ≤ 30) (e1 : restT (l.set i b) = 0) (e2 : restT (l.set i b') = 0) : b = b' := by
  obtain ⟨e, he⟩ := pol_set l i a h
  rw [restT_pol, he] at e1 e2
  have : (b - b') * 3 ^ e % 31 = 0 := by
    have x : (b - b') * (3 : Int) ^ e = (polF l + (b - a) * 3 ^ e) - (polF l + (b' - a) * 3 ^ e) := by rw [Int.sub_mul, Int.sub_mul, Int.sub_mul]; omega
    rw [x]
    omega
  have := no_three _ e this
  omega
theorem swap_sum {l : List Int} {i : Nat} {a c : Int} (h : l[i]? = some a) (h' : l[i + 1]? = some c) (h1 : 0 ≤ a ∧ a ≤ 30) (h2 : 0 ≤ c ∧ c ≤ 30) (e1 : restT l = 0) (e2 : restT ((l.set i c).set (i + 1) a) = 0) : a = c := by
  obtain ⟨e, he⟩ := pol_swap l i a c h h'
  rw [restT_pol] at e1 e2
  rw [he] at e2
  have : (c - a) * 2 * 3 ^ e % 31 = 0 := by omega
  have := no_three _ e this
  omega
theorem valF_get2 : ∀ (l : List Nat) (i c : Nat), valF l i c = -1 ∨ ∃ j, l[j]? = some c ∧ valF l i c = (i + j : Nat)
  | [], i, c => Or.inl rfl
  | x :: r, i, c => by
    unfold valF
    split
    · rename_i h
      exact Or.inr ⟨0, by first | (rw [h]; rfl) | (rw [← h]; rfl) | (simp_all), by simp⟩
    · rcases valF_get2 r (i + 1) c with h | ⟨j, h1, h2⟩
      · exact Or.inl h
      · exact Or.inr ⟨j + 1, h1, by rw [h2]; omega⟩
/-- A character is its value's. -/
theorem val_get {c : Nat} (h : 0 ≤ valT c) : alph[(valT c).toNat]? = some c := by
  rcases valF_get2 alph 0 c with e | ⟨j, e1, e2⟩
  · unfold valT at h; omega
  · have : valT c = ((0 + j : Nat) : Int) := e2
    rw [this, Int.toNat_natCast, Nat.zero_add]
    exact e1
theorem val_inj {c d : Nat} (h : 0 ≤ valT c) (e : valT c = valT d) : c = d := by
  have h1 := val_get h
  have h2 := val_get (c := d) (by omega)
  rw [e, h2] at h1
  injection h1 with h1
  exact h1.symm
end Go.Proofs.Ytjpiidfoegaenaa
