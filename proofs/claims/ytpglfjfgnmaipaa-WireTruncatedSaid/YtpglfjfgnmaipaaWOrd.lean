/-
  Plain mathematics: the order of integers is that of their encodings, byte by byte.
-/
import Derived.Test.YtpglfjfgnmaipaaWr
namespace Go.Proofs.Ytpglfjfgnmaipaa

/-- Less, byte by byte. -/
def blt : List Nat → List Nat → Bool
  | [], [] => false
  | [], _ :: _ => true
  | _ :: _, [] => false
  | a :: l, b :: m => if a < b then true else if b < a then false else blt l m
theorem blt_lt {a b : Nat} (l m : List Nat) (h : a < b) : blt (a :: l) (b :: m) = true := by simp [blt, h]
theorem blt_gt {a b : Nat} (l m : List Nat) (h : b < a) : blt (a :: l) (b :: m) = false := by
  have h1 : ¬ a < b := by omega
  simp [blt, h, h1]
theorem blt_eq (a : Nat) (l m : List Nat) : blt (a :: l) (a :: m) = blt l m := by simp [blt]
theorem be_mod : ∀ k m, be k m = be k (m % 256 ^ k)
  | 0, m => rfl
  | k + 1, m => by
    rw [be, be, be_mod k m, be_mod k (m % 256 ^ (k + 1))]
    have e1 : m % 256 ^ (k + 1) / 256 ^ k % 256 = m / 256 ^ k % 256 := by
      rw [Nat.pow_succ, Nat.mod_mul_right_div_self, Nat.mod_mod]
    have e2 : m % 256 ^ (k + 1) % 256 ^ k = m % 256 ^ k := Nat.mod_mod_of_dvd _ ⟨256, Nat.pow_succ _ _⟩
    rw [e1, e2]
theorem blt_be : ∀ k m n, m < 256 ^ k → n < 256 ^ k → blt (be k m) (be k n) = decide (m < n)
  | 0, m, n, hm, hn => by
    have h1 : m = 0 := by simpa using hm
    have h2 : n = 0 := by simpa using hn
    subst h1; subst h2; rfl
  | k + 1, m, n, hm, hn => by
    have hp : 0 < 256 ^ k := Nat.pow_pos (by omega)
    rw [Nat.pow_succ] at hm hn
    have a1 : m / 256 ^ k < 256 := Nat.div_lt_of_lt_mul hm
    have a2 : n / 256 ^ k < 256 := Nat.div_lt_of_lt_mul hn
    have d1 := Nat.div_add_mod m (256 ^ k)
    have d2 := Nat.div_add_mod n (256 ^ k)
    have r1 := Nat.mod_lt m hp
    have r2 := Nat.mod_lt n hp
    rw [be, be, Nat.mod_eq_of_lt a1, Nat.mod_eq_of_lt a2]
    rcases Nat.lt_trichotomy (m / 256 ^ k) (n / 256 ^ k) with h | h | h
    · rw [blt_lt _ _ h]
      have := Nat.mul_le_mul_left (256 ^ k) (show m / 256 ^ k + 1 ≤ n / 256 ^ k from h)
      rw [Nat.mul_add, Nat.mul_one] at this
      exact (decide_eq_true (by omega)).symm
    · rw [h, blt_eq, be_mod k m, be_mod k n, blt_be k _ _ r1 r2]
      rw [h] at d1
      rw [decide_eq_decide]
      omega
    · rw [blt_gt _ _ h]
      have := Nat.mul_le_mul_left (256 ^ k) (show n / 256 ^ k + 1 ≤ m / 256 ^ k from h)
      rw [Nat.mul_add, Nat.mul_one] at this
      exact (decide_eq_false (by omega)).symm
theorem blt_map : ∀ (l m : List Nat), l.length = m.length → (∀ d ∈ l, d < 256) → (∀ d ∈ m, d < 256) → blt (l.map (255 - ·)) (m.map (255 - ·)) = blt m l
  | [], [], _, _, _ => rfl
  | a :: l, b :: m, h, hl, hm => by
    have ha := hl a (by simp)
    have hb := hm b (by simp)
    have ih := blt_map l m (by simpa using h) (fun d hd => hl d (by simp [hd])) (fun d hd => hm d (by simp [hd]))
    simp only [List.map_cons]
    rcases Nat.lt_trichotomy a b with h1 | h1 | h1
    · rw [blt_gt _ _ (show 255 - b < 255 - a by omega), blt_gt _ _ h1]
    · subst h1; rw [blt_eq, blt_eq, ih]
    · rw [blt_lt _ _ (show 255 - a < 255 - b by omega), blt_lt _ _ h1]
  | [], _ :: _, h, _, _ => by simp at h
  | _ :: _, [], h, _, _ => by simp at h
theorem sz_ge {m : Nat} (h : 1 ≤ sz m) : 256 ^ (sz m - 1) ≤ m := by
  rcases Nat.lt_or_ge m (256 ^ (sz m - 1)) with h1 | h1
  · have := sz_le _ _ h1; omega
  · exact h1
theorem sz_mono {m n : Nat} (h : sz m < sz n) : m < n := by
  have h1 := lt_sz (sz m) m (Nat.le_refl _)
  have h2 := sz_ge (m := n) (by omega)
  have h3 : 256 ^ sz m ≤ 256 ^ (sz n - 1) := Nat.pow_le_pow_right (by omega) (by omega)
  omega
theorem blt_enc (m n : Int) (hm : I64 m) (hn : I64 n) : blt (enc m) (enc n) = decide (m < n) := by
  have e8 : (256 : Nat) ^ 8 = 18446744073709551616 := by decide
  unfold I64 at hm hn
  rcases Int.lt_or_le m 0 with h | h <;> rcases Int.lt_or_le n 0 with h' | h'
  · obtain ⟨a, rfl⟩ : ∃ a : Nat, m = -1 - (a : Int) := ⟨(-1 - m).toNat, by omega⟩
    obtain ⟨b, rfl⟩ : ∃ b : Nat, n = -1 - (b : Int) := ⟨(-1 - n).toNat, by omega⟩
    have s1 := sz_le 8 a (by omega)
    have s2 := sz_le 8 b (by omega)
    rw [enc_neg, enc_neg]
    rcases Nat.lt_trichotomy (sz a) (sz b) with h1 | h1 | h1
    · have := sz_mono h1
      rw [blt_gt _ _ (show 127 - sz b < 127 - sz a by omega)]
      exact (decide_eq_false (by omega)).symm
    · rw [h1, blt_eq, blt_map _ _ (by simp [be_length]) (be_lt _ _) (be_lt _ _), blt_be _ _ _ (lt_sz _ _ (Nat.le_refl _)) (lt_sz _ _ (by omega))]
      rw [decide_eq_decide]; omega
    · have := sz_mono h1
      rw [blt_lt _ _ (show 127 - sz a < 127 - sz b by omega)]
      exact (decide_eq_true (by omega)).symm
  · obtain ⟨a, rfl⟩ : ∃ a : Nat, m = -1 - (a : Int) := ⟨(-1 - m).toNat, by omega⟩
    obtain ⟨b, rfl⟩ := Int.eq_ofNat_of_zero_le h'
    rw [enc_neg, enc_nat, blt_lt _ _ (by omega)]
    exact (decide_eq_true (by omega)).symm
  · obtain ⟨a, rfl⟩ := Int.eq_ofNat_of_zero_le h
    obtain ⟨b, rfl⟩ : ∃ b : Nat, n = -1 - (b : Int) := ⟨(-1 - n).toNat, by omega⟩
    rw [enc_neg, enc_nat, blt_gt _ _ (by omega)]
    exact (decide_eq_false (by omega)).symm
  · obtain ⟨a, rfl⟩ := Int.eq_ofNat_of_zero_le h
    obtain ⟨b, rfl⟩ := Int.eq_ofNat_of_zero_le h'
    rw [enc_nat, enc_nat]
    rcases Nat.lt_trichotomy (sz a) (sz b) with h1 | h1 | h1
    · have := sz_mono h1
      rw [blt_lt _ _ (by omega)]
      exact (decide_eq_true (by omega)).symm
    · rw [h1, blt_eq, blt_be _ _ _ (lt_sz _ _ (by omega)) (lt_sz _ _ (Nat.le_refl _))]
      rw [decide_eq_decide]; omega
    · have := sz_mono h1
      rw [blt_gt _ _ (by omega)]
      exact (decide_eq_false (by omega)).symm
theorem enc_inj (m n : Int) (hm : I64 m) (hn : I64 n) (h : enc m = enc n) : m = n := by
  have h1 := dec_enc m hm.1 hm.2 []
  have h2 := dec_enc n hn.1 hn.2 []
  rw [h, h2] at h1
  exact (congrArg Prod.fst h1).symm
/-- The first byte tells how many follow. -/
theorem enc_head (m n : Int) (hm : I64 m) (hn : I64 n) (h : (enc m)[0]? = (enc n)[0]?) : (enc m).length = (enc n).length := by
  have e8 : (256 : Nat) ^ 8 = 18446744073709551616 := by decide
  unfold I64 at hm hn
  rcases Int.lt_or_le m 0 with h1 | h1 <;> rcases Int.lt_or_le n 0 with h' | h'
  · obtain ⟨a, rfl⟩ : ∃ a : Nat, m = -1 - (a : Int) := ⟨(-1 - m).toNat, by omega⟩
    obtain ⟨b, rfl⟩ : ∃ b : Nat, n = -1 - (b : Int) := ⟨(-1 - n).toNat, by omega⟩
    have s1 := sz_le 8 a (by omega)
    have s2 := sz_le 8 b (by omega)
    rw [enc_neg, enc_neg] at h ⊢
    simp at h
    simp [be_length]; omega
  · obtain ⟨a, rfl⟩ : ∃ a : Nat, m = -1 - (a : Int) := ⟨(-1 - m).toNat, by omega⟩
    obtain ⟨b, rfl⟩ := Int.eq_ofNat_of_zero_le h'
    rw [enc_neg, enc_nat] at h
    simp at h
    omega
  · obtain ⟨a, rfl⟩ := Int.eq_ofNat_of_zero_le h1
    obtain ⟨b, rfl⟩ : ∃ b : Nat, n = -1 - (b : Int) := ⟨(-1 - n).toNat, by omega⟩
    rw [enc_neg, enc_nat] at h
    simp at h
    omega
  · obtain ⟨a, rfl⟩ := Int.eq_ofNat_of_zero_le h1
    obtain ⟨b, rfl⟩ := Int.eq_ofNat_of_zero_le h'
    rw [enc_nat, enc_nat] at h ⊢
    simp at h
    simp [be_length]; omega
theorem enc_prefix (m n : Int) (hm : I64 m) (hn : I64 n) (k : Nat) (hk : k = min (enc m).length (enc n).length) (h : (enc m).take k = (enc n).take k) : m = n := by
  have l1 := enc_length m hm.1 hm.2
  have l2 := enc_length n hn.1 hn.2
  have h0 : (enc m)[0]? = (enc n)[0]? := by
    have := congrArg (fun l => l[0]?) h
    simpa [List.getElem?_take, show 0 < k by omega] using this
  have hl := enc_head m n hm hn h0
  rw [List.take_of_length_le (by omega), List.take_of_length_le (by omega)] at h
  exact enc_inj m n hm hn h

end Go.Proofs.Ytpglfjfgnmaipaa
