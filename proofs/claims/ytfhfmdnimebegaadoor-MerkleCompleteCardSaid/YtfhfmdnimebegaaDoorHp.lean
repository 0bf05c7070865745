/-
  The padding of a message and the bytes of a hash value, as arrays that are filled byte by byte.
-/
import Derived.Test.YtfhfmdnimebegaaDoorHa
namespace Go.Proofs.YtfhfmdnimebegaaDoor
open Go.RowKit
set_option linter.unusedVariables false
set_option linter.unusedSimpArgs false

/-- The padding array when i bytes of the length L have been laid behind z zeros. -/
def padA (L i : Nat) : List Nat := 128 :: (List.replicate (zeros L) 0 ++ (be 8 (8 * L)).take i ++ List.replicate (71 - zeros L - i) 0)
theorem padA_length (L i : Nat) (h : i ≤ 8) : (padA L i).length = 72 := by
  have := zeros_lt L
  simp [padA, be_length]
  omega
theorem padA_zero (L : Nat) : padA L 0 = 128 :: List.replicate 71 0 := by
  have := zeros_lt L
  unfold padA
  rw [List.take_zero, List.append_nil, List.replicate_append_replicate]
  congr 2
  omega
theorem padA_set (L i : Nat) (h : i < 8) : (padA L i).set (1 + zeros L + i) (8 * L / 256 ^ (7 - i) % 256) = padA L (i + 1) := by
  have hz := zeros_lt L
  have hl : (List.replicate (zeros L) 0 ++ (be 8 (8 * L)).take i).length = zeros L + i := by simp [be_length]; omega
  have hb := be_get 8 (8 * L) i h
  unfold padA
  rw [show 1 + zeros L + i = (zeros L + i) + 1 by omega, List.set_cons_succ, List.set_append_right _ _ (by omega), hl, Nat.sub_self]
  obtain ⟨k, hk⟩ : ∃ k, 71 - zeros L - i = k + 1 := ⟨70 - zeros L - i, by omega⟩
  rw [hk, List.replicate_succ, List.set_cons_zero, show 71 - zeros L - (i + 1) = k by omega, List.take_add_one, hb]
  simp
theorem padA_full (L : Nat) : (padA L 8).take (9 + zeros L) = tail L := by
  have hz := zeros_lt L
  have hl : (128 :: (List.replicate (zeros L) 0 ++ be 8 (8 * L))).length = 9 + zeros L := by simp [be_length]; omega
  unfold padA tail
  rw [List.take_of_length_le (l := be 8 (8 * L)) (by rw [be_length]; omega), ← List.cons_append, List.take_left' hl]
theorem padA_byte (L i : Nat) : ∀ y ∈ padA L i, y < 256 := by
  intro y hy
  unfold padA at hy
  rcases List.mem_cons.1 hy with rfl | h
  · omega
  · rcases List.mem_append.1 h with h | h
    · rcases List.mem_append.1 h with h | h
      · rw [(List.mem_replicate.1 h).2]; omega
      · exact be_lt _ _ y (List.mem_of_mem_take h)
    · rw [(List.mem_replicate.1 h).2]; omega
theorem tail_byte (L : Nat) : ∀ y ∈ tail L, y < 256 := by
  intro y hy
  rw [← padA_full] at hy
  exact padA_byte L 8 y (List.mem_of_mem_take hy)

theorem be4 (x : Nat) : be 4 x = [x / 256 ^ 3 % 256, x / 256 ^ 2 % 256, x / 256 ^ 1 % 256, x / 256 ^ 0 % 256] := rfl
theorem outB_eq (s : St) : outB s = (stL s).flatMap fun w => be 4 w.toNat := rfl
theorem outB_length (s : St) : (outB s).length = 32 := by simp [outB, be_length]
theorem outB_get (s : St) (q r : Nat) (hq : q < 8) (hr : r < 4) : (outB s)[4 * q + r]? = some (((stL s).getD q 0).toNat / 256 ^ (3 - r) % 256) := by
  obtain rfl | rfl | rfl | rfl : r = 0 ∨ r = 1 ∨ r = 2 ∨ r = 3 := by omega
  all_goals obtain rfl | rfl | rfl | rfl | rfl | rfl | rfl | rfl : q = 0 ∨ q = 1 ∨ q = 2 ∨ q = 3 ∨ q = 4 ∨ q = 5 ∨ q = 6 ∨ q = 7 := by omega
  all_goals rfl
theorem outB_byte (s : St) : ∀ y ∈ outB s, y < 256 := by
  intro y hy
  rw [outB_eq] at hy
  obtain ⟨x, _, hx⟩ := List.mem_flatMap.1 hy
  exact be_lt _ _ y hx
/-- The array of the hash when its first i bytes have been laid. -/
def outA (s : St) (i : Nat) : List Nat := (outB s).take i ++ List.replicate (32 - i) 0
theorem outA_length (s : St) (i : Nat) (h : i ≤ 32) : (outA s i).length = 32 := by simp [outA, outB_length]; omega
theorem outA_full (s : St) : outA s 32 = outB s := by
  unfold outA
  rw [List.take_of_length_le (by rw [outB_length]; omega)]
  simp
theorem outA_set (s : St) (q r : Nat) (hq : q < 8) (hr : r < 4) : (outA s (4 * q + r)).set (4 * q + r) (((stL s).getD q 0).toNat / 256 ^ (3 - r) % 256) = outA s (4 * q + r + 1) := by
  have hl : ((outB s).take (4 * q + r)).length = 4 * q + r := by rw [List.length_take, outB_length]; omega
  unfold outA
  rw [List.set_append_right _ _ (by omega), hl, Nat.sub_self]
  obtain ⟨k, hk⟩ : ∃ k, 32 - (4 * q + r) = k + 1 := ⟨31 - (4 * q + r), by omega⟩
  rw [hk, List.replicate_succ, List.set_cons_zero, show 32 - (4 * q + r + 1) = k by omega, List.take_add_one, outB_get s q r hq hr]
  simp
theorem sth_pad (m : List Nat) : outB (sth (pad m)) = sha m := rfl

end Go.Proofs.YtfhfmdnimebegaaDoor
