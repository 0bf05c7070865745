/-
  Plain mathematics of the reference's decoding of an integer: a candidate is accepted if its encoding is what was read.
-/
import Derived.Test.YtpglfjfgnmaipaaWCan
namespace Go.Proofs.Ytpglfjfgnmaipaa

theorem val_step (t : List Nat) (j : Nat) (h : j < t.length) : val (t.take (j + 1)) = 256 * val (t.take j) + t[j] := by
  rw [List.take_add_one, List.getElem?_eq_getElem h]
  exact val_snoc _ _
theorem val_le (t : List Nat) (j : Nat) : ∀ k, j ≤ k → val (t.take j) ≤ val (t.take k)
  | 0, h => by
    obtain rfl : j = 0 := by omega
    exact Nat.le_refl _
  | k + 1, h => by
    by_cases hj : j = k + 1
    · subst hj; exact Nat.le_refl _
    · have := val_le t j k (by omega)
      by_cases hk : k < t.length
      · rw [val_step t k hk]; omega
      · rw [List.take_of_length_le (i := k + 1) (by omega)]
        rw [List.take_of_length_le (i := k) (by omega)] at this
        exact this
theorem val_big (t : List Nat) (j k : Nat) (h : j < k) (hk : k ≤ t.length) (hv : 36028797018963967 < val (t.take j)) : 9223372036854775808 ≤ val (t.take k) := by
  have h1 := val_step t j (by omega)
  have h2 := val_le t (j + 1) k (by omega)
  omega
theorem nv_take (t : List Nat) (k : Nat) : nv t k = val ((t.map (255 - ·)).take k) := by unfold nv; rw [List.map_take]

theorem dec_form (x : Nat) (t : List Nat) (h : x < 119 ∨ 136 < x) : dec (x :: t) = (0, 0, 2) := by
  unfold dec
  simp only
  by_cases hp : 128 ≤ x
  · rw [if_pos hp, if_pos (by omega)]
  · rw [if_neg hp, if_pos (by omega)]
theorem dec_pos_more (x : Nat) (t : List Nat) (hp : 128 ≤ x) (hk : x ≤ 136) (h : t.length < x - 128) : dec (x :: t) = (0, 0, 3) := by
  unfold dec
  simp only
  rw [if_pos hp, if_neg (by omega), if_pos h]
theorem dec_neg_more (x : Nat) (t : List Nat) (hp : ¬ 128 ≤ x) (hk : 119 ≤ x) (h : t.length < 127 - x) : dec (x :: t) = (0, 0, 3) := by
  unfold dec
  simp only
  rw [if_neg hp, if_neg (by omega), if_pos h]
theorem dec_pos_big (x : Nat) (t : List Nat) (hp : 128 ≤ x) (hk : x ≤ 136) (h : x - 128 ≤ t.length) (hv : 9223372036854775808 ≤ val (t.take (x - 128))) : dec (x :: t) = (0, 0, 2) := by
  unfold dec
  simp only
  rw [if_pos hp, if_neg (by omega), if_neg (by omega), if_pos (.inr hv)]
theorem dec_neg_big (x : Nat) (t : List Nat) (hp : ¬ 128 ≤ x) (hk : 119 ≤ x) (h : 127 - x ≤ t.length) (hv : 9223372036854775808 ≤ nv t (127 - x)) : dec (x :: t) = (0, 0, 2) := by
  unfold dec
  simp only
  rw [if_neg hp, if_neg (by omega), if_neg (by omega), if_pos (.inr hv)]
theorem dec_pos_is (x : Nat) (t : List Nat) (hp : 128 ≤ x) (hk : x ≤ 136) (h : x - 128 ≤ t.length) (hv : val (t.take (x - 128)) < 9223372036854775808) (hb : ∀ y ∈ x :: t, y < 256) :
    dec (x :: t) = if enc (val (t.take (x - 128)) : Int) = (x :: t).take (x - 128 + 1) then ((val (t.take (x - 128)) : Int), x - 128 + 1, 0) else (0, 0, 2) := by
  have e : dec (x :: t) = if sz (val (t.take (x - 128))) ≠ x - 128 ∨ 9223372036854775808 ≤ val (t.take (x - 128)) then (0, 0, 2) else ((val (t.take (x - 128)) : Int), x - 128 + 1, 0) := by
    unfold dec
    simp only
    rw [if_pos hp, if_neg (by omega), if_neg (by omega)]
  by_cases hs : sz (val (t.take (x - 128))) = x - 128
  · rw [if_neg (by omega)] at e
    rw [e, if_pos (dec_canon _ hb _ _ e)]
  · rw [if_pos (.inl hs)] at e
    rw [e, if_neg]
    intro h2
    rw [enc_nat, List.take_succ_cons] at h2
    injection h2 with h3 h4
    omega
theorem dec_neg_is (x : Nat) (t : List Nat) (hp : ¬ 128 ≤ x) (hk : 119 ≤ x) (h : 127 - x ≤ t.length) (hv : nv t (127 - x) < 9223372036854775808) (hb : ∀ y ∈ x :: t, y < 256) :
    dec (x :: t) = if enc (-1 - (nv t (127 - x) : Int)) = (x :: t).take (127 - x + 1) then (-1 - (nv t (127 - x) : Int), 127 - x + 1, 0) else (0, 0, 2) := by
  have e : dec (x :: t) = if sz (nv t (127 - x)) ≠ 127 - x ∨ 9223372036854775808 ≤ nv t (127 - x) then (0, 0, 2) else (-1 - (nv t (127 - x) : Int), 127 - x + 1, 0) := by
    unfold dec
    simp only
    rw [if_neg hp, if_neg (by omega), if_neg (by omega)]
  by_cases hs : sz (nv t (127 - x)) = 127 - x
  · rw [if_neg (by omega)] at e
    rw [e, if_pos (dec_canon _ hb _ _ e)]
  · rw [if_pos (.inl hs)] at e
    have h8 := sz_le 8 (nv t (127 - x)) (by have e : (256 : Nat) ^ 8 = 18446744073709551616 := by decide
                                            omega)
    rw [e, if_neg]
    intro h2
    rw [enc_neg, List.take_succ_cons] at h2
    injection h2 with h3 h4
    omega

end Go.Proofs.Ytpglfjfgnmaipaa
