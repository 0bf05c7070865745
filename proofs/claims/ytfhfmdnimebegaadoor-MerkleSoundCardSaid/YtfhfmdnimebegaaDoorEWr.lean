/-
  Plain mathematics: decoding what has been encoded gives it back, whatever follows.
  Conditions: the tables of the packages hash and passimref02 lie as the program lays them when the call begins (the card ties them to the text); no other.
-/
import Derived.Test.YtfhfmdnimebegaaDoorE0

namespace Go.Proofs.YtfhfmdnimebegaaDoor

theorem foldl_val (l : List Nat) : ∀ a, l.foldl (fun m d => 256 * m + d) a = a * 256 ^ l.length + val l := by
  induction l with
  | nil => intro a; simp [val]
  | cons x l ih =>
    intro a
    have h1 := ih (256 * a + x)
    have h2 := ih (256 * 0 + x)
    simp only [val, List.foldl_cons, List.length_cons] at h1 h2 ⊢
    rw [h1, h2, Nat.pow_succ]
    simp only [Nat.mul_zero, Nat.zero_add, Nat.add_mul]
    rw [show 256 * a * 256 ^ l.length = a * (256 ^ l.length * 256) by rw [Nat.mul_comm 256 a, Nat.mul_assoc, Nat.mul_comm 256]]
    omega
theorem val_cons (x : Nat) (l : List Nat) : val (x :: l) = x * 256 ^ l.length + val l := by
  have := foldl_val l (256 * 0 + x)
  simp only [val, List.foldl_cons] at this ⊢
  simpa using this
theorem val_be : ∀ k m, val (be k m) = m % 256 ^ k
  | 0, m => by simp [be, val, Nat.mod_one]
  | k + 1, m => by
    rw [be, val_cons, be_length, val_be k m, Nat.pow_succ, Nat.mod_mul]
    rw [Nat.mul_comm (256 ^ k)]
    omega
theorem val_be_lt {k m : Nat} (h : m < 256 ^ k) : val (be k m) = m := by rw [val_be, Nat.mod_eq_of_lt h]
theorem take_left' (l t : List Nat) (k : Nat) (h : l.length = k) : (l ++ t).take k = l := by subst h; simp
theorem map_map_255 (l : List Nat) (h : ∀ d ∈ l, d < 256) : (l.map (255 - ·)).map (255 - ·) = l := by
  rw [List.map_map]
  conv => rhs; rw [← List.map_id l]
  apply List.map_congr_left
  intro d hd
  have := h d hd
  simp only [Function.comp, id]
  omega

set_option maxRecDepth 100000 in
/-- Decoding what has been encoded, whatever follows it. -/
theorem dec_enc (n : Int) (h1 : -9223372036854775808 ≤ n) (h2 : n ≤ 9223372036854775807) (t : List Nat) : dec (enc n ++ t) = (n, (enc n).length, 0) := by
  have e8 : (256 : Nat) ^ 8 = 18446744073709551616 := by decide
  rcases Int.lt_or_le n 0 with h | h
  · obtain ⟨m, rfl⟩ : ∃ m : Nat, n = -1 - (m : Int) := ⟨(-1 - n).toNat, by omega⟩
    have hs := sz_le 8 m (by omega)
    have hv := lt_sz (sz m) m (Nat.le_refl _)
    have hnv : nv ((be (sz m) m).map (255 - ·) ++ t) (sz m) = m := by
      unfold nv
      rw [take_left' _ _ _ (by simp [be_length]), map_map_255 _ (be_lt _ _), val_be_lt hv]
    have ek : 127 - (127 - sz m) = sz m := by omega
    rw [enc_neg]
    show dec ((127 - sz m) :: ((be (sz m) m).map (255 - ·) ++ t)) = _
    unfold dec
    simp only [ek, hnv]
    rw [if_neg (by omega), if_neg (by omega), if_neg (by simp [be_length]), if_neg (by omega)]
    simp [be_length]
  · obtain ⟨m, rfl⟩ := Int.eq_ofNat_of_zero_le h
    have hs := sz_le 8 m (by omega)
    have hv := lt_sz (sz m) m (Nat.le_refl _)
    have ek : 128 + sz m - 128 = sz m := by omega
    have ht : (be (sz m) m ++ t).take (sz m) = be (sz m) m := take_left' _ _ _ (be_length _ _)
    rw [enc_nat]
    show dec ((128 + sz m) :: (be (sz m) m ++ t)) = _
    unfold dec
    simp only [ek, ht, val_be_lt hv]
    rw [if_pos (by omega), if_neg (by omega), if_neg (by simp [be_length]), if_neg (by omega)]
    simp [be_length]

end Go.Proofs.YtfhfmdnimebegaaDoor
