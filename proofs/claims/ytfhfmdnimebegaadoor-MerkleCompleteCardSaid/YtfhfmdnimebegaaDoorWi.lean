/-
  wire.Int returns, for every int, a new slice with the bytes of its encoding.
-/
import Derived.Test.YtfhfmdnimebegaaDoorWs
namespace Go.Proofs.YtfhfmdnimebegaaDoor
open Go.RowKit

theorem xor_zero_all : ∀ x : Fin 256, bits BinOp.xor IntKind.u8 (x.val : Int) 0 = x.val := by decide +kernel
theorem xor_ones_all : ∀ x : Fin 256, bits BinOp.xor IntKind.u8 (x.val : Int) 255 = 255 - x.val := by decide +kernel
theorem xor_zero (x : Int) (h0 : 0 ≤ x) (h : x < 256) : bits BinOp.xor IntKind.u8 x 0 = x := by
  have := xor_zero_all ⟨x.toNat, by omega⟩
  simpa [Int.toNat_of_nonneg h0] using this
theorem xor_ones (x : Int) (h0 : 0 ≤ x) (h : x < 256) : bits BinOp.xor IntKind.u8 x 255 = 255 - x := by
  have := xor_ones_all ⟨x.toNat, by omega⟩
  simpa [Int.toNat_of_nonneg h0] using this

/-- What has been written of an encoding when j bytes are still to come. -/
def partP (n j : Nat) : List Nat := (128 + sz n) :: (be (sz n) n).take (sz n - j)
theorem partP_zero (n : Nat) : partP n 0 = (128 + sz n) :: be (sz n) n := by unfold partP; rw [Nat.sub_zero, List.take_of_length_le (by rw [be_length]; omega)]
theorem partP_step {n j : Nat} (h1 : 1 ≤ j) (h2 : j ≤ sz n) : partP n (j - 1) = partP n j ++ [n / 256 ^ (j - 1) % 256] := by unfold partP; rw [be_take h1 h2]; rfl
def partN (n j : Nat) : List Nat := (127 - sz n) :: ((be (sz n) n).map (255 - ·)).take (sz n - j)
theorem partN_zero (n : Nat) : partN n 0 = (127 - sz n) :: (be (sz n) n).map (255 - ·) := by unfold partN; rw [Nat.sub_zero, List.take_of_length_le (by simp [be_length])]
theorem partN_step {n j : Nat} (h1 : 1 ≤ j) (h2 : j ≤ sz n) : partN n (j - 1) = partN n j ++ [255 - n / 256 ^ (j - 1) % 256] := by unfold partN; rw [← List.map_take, ← List.map_take, be_take h1 h2]; simp

set_option maxHeartbeats 400000 in
set_option maxRecDepth 100000 in
theorem int_pos (n : Nat) (hn : n < 9223372036854775808) (w : World) :
    Calls Tryd.prog 38 #[.int .i64 (n : Int)] w (Made w (enc (n : Int))) := by
  obtain ⟨i0, hi, hz0, hz1, hz2⟩ := info_parts u8info
  have hnb : n < big := by unfold big; omega
  have h8 := sz_le 8 n (by rw [← big_pow]; exact hnb)
  have hneg : decide ((n : Int) < 0) = false := by simp
  go_enter Tryd.func38, Tryd.ntmps38
  go_wp2_with fail
  refine (size_any n hnb _).mono ?_
  rintro e w1 ⟨rfl, rfl⟩

  go_wp2_with (at_make; refine wpList_make_own _ rfl _ _ 39 rfl w.heap.size 5 i0 (.int .u8 0) 1 Tryd.underlying39 hi hz0 hz1 _ _ _ (sz n + 1) rfl rfl (by omega) ?b2 ?b3 (Nat.le_refl _) ?_)
  case b2 => rw [hz2]; omega
  case b3 => unfold maxLen; omega
  intro w2 hown2 hg2
  have hO2 : Own w w2 (.slice (some ⟨w.heap.size, 0, none⟩) 0 (sz n + 1)) [] := ⟨hown2, (Below.refl _ _).grown hg2 (Nat.le_refl _) (by simp)⟩
  clear hg2 hown2
  go_wp2_with (at_builtin; refine push_byte (W := w) rfl _ _ rfl [] (128 + sz n) _ rfl hO2 _ rfl ?x1 ?x2 ?_)
  case x1 => omega
  case x2 => simp
  intro v3 w3 hO3
  clear hO2
  go_wp2
  go_loopw [6, 7] (fun v i wr => ∃ j : Nat, j ≤ sz n ∧ i = .int .i64 ((j : Int) - 1) ∧ Own w wr v (partP n j)) (fun _ i _ => (intOf i + 1).toNat)
  case atStart => exact ⟨sz n, by omega, rfl, by unfold partP; simpa using hO3⟩
  case round =>
    obtain ⟨j, hj, rfl, hO⟩ := hrel
    have hlen : (partP n j).length ≤ 70368744177664 := by simp [partP, be_length]; omega
    by_cases h0 : j = 0
    · subst h0
      have hd : decide ((0 : Int) ≤ ((0 : Nat) : Int) - 1) = false := by decide
      go_wp2
      go_ret
      exact made_of (by rw [enc_nat]; simp) (by rw [enc_nat, ← partP_zero]; exact hO)
    · have hd : decide ((0 : Int) ≤ (j : Int) - 1) = true := by simp; omega
      have hx0 : bits BinOp.xor IntKind.u8 ((n : Int) / 2 ^ (8 * (j - 1)) % 256) 0 = (n : Int) / 2 ^ (8 * (j - 1)) % 256 := xor_zero _ (by omega) (by omega)
      go_wp2_with (at_builtin; refine push_byte (W := w) rfl _ _ rfl (partP n j) (n / 256 ^ (j - 1) % 256) _ rfl hO _ rfl ?y1 hlen ?_)
      case y1 => exact dig_cast _ _
      intro v5 w5 hO5
      clear hO hx0 hlen
      go_wp2
      go_roundw
      case rel => exact ⟨j - 1, by omega, by congr 1; omega, by rw [partP_step (by omega) hj]; exact hO5⟩
      case measure => simp [intOf]; omega

theorem not_u64 (n : Nat) (hn : n < 9223372036854775808) : bits BinOp.xor IntKind.u64 IntKind.u64.max (IntKind.u64.wrap (-1 - (n : Int))) = n := by
  have hw : IntKind.u64.wrap (-1 - (n : Int)) = ((18446744073709551615 - n : Nat) : Int) := by
    simp [IntKind.wrap, IntKind.signed, IntKind.bits]; omega
  have hm : IntKind.u64.max = ((18446744073709551615 : Nat) : Int) := by decide
  rw [hw, hm, bits_xor_u64_nat _ _ (by omega) (by omega)]
  have h1 : (BitVec.allOnes 64 ^^^ BitVec.ofNat 64 (18446744073709551615 - n)).toNat = n := by
    rw [BitVec.allOnes_xor, BitVec.toNat_not, BitVec.toNat_ofNat]
    omega
  rw [BitVec.toNat_xor, BitVec.toNat_allOnes, BitVec.toNat_ofNat, Nat.mod_eq_of_lt (by omega)] at h1
  exact_mod_cast h1

set_option maxHeartbeats 400000 in
set_option maxRecDepth 100000 in
theorem int_neg (n : Nat) (hn : n < 9223372036854775808) (w : World) :
    Calls Tryd.prog 38 #[.int .i64 (-1 - (n : Int))] w (Made w (enc (-1 - (n : Int)))) := by
  obtain ⟨i0, hi, hz0, hz1, hz2⟩ := info_parts u8info
  have hnb : n < big := by unfold big; omega
  have h8 := sz_le 8 n (by rw [← big_pow]; exact hnb)
  have hneg : decide (-1 - (n : Int) < 0) = true := by simp; omega
  have hx := not_u64 n hn
  go_enter Tryd.func38, Tryd.ntmps38
  go_wp2_with fail
  refine (size_any n hnb _).mono ?_
  rintro e w1 ⟨rfl, rfl⟩
  clear hx
  go_wp2_with (at_make; refine wpList_make_own _ rfl _ _ 39 rfl w.heap.size 5 i0 (.int .u8 0) 1 Tryd.underlying39 hi hz0 hz1 _ _ _ (sz n + 1) rfl rfl (by omega) ?b2 ?b3 (Nat.le_refl _) ?_)
  case b2 => rw [hz2]; omega
  case b3 => unfold maxLen; omega
  intro w2 hown2 hg2
  have hO2 : Own w w2 (.slice (some ⟨w.heap.size, 0, none⟩) 0 (sz n + 1)) [] := ⟨hown2, (Below.refl _ _).grown hg2 (Nat.le_refl _) (by simp)⟩
  clear hg2 hown2
  go_wp2_with (at_builtin; refine push_byte (W := w) rfl _ _ rfl [] (127 - sz n) _ rfl hO2 _ rfl ?x1 ?x2 ?_)
  case x1 => omega
  case x2 => simp
  intro v3 w3 hO3
  clear hO2
  go_wp2
  go_loopw [6, 7] (fun v i wr => ∃ j : Nat, j ≤ sz n ∧ i = .int .i64 ((j : Int) - 1) ∧ Own w wr v (partN n j)) (fun _ i _ => (intOf i + 1).toNat)
  case atStart => exact ⟨sz n, by omega, rfl, by unfold partN; simpa using hO3⟩
  case round =>
    obtain ⟨j, hj, rfl, hO⟩ := hrel
    have hlen : (partN n j).length ≤ 70368744177664 := by simp [partN, be_length]; omega
    by_cases h0 : j = 0
    · subst h0
      have hd : decide ((0 : Int) ≤ ((0 : Nat) : Int) - 1) = false := by decide
      go_wp2
      go_ret
      exact made_of (by rw [enc_neg]; simp) (by rw [enc_neg, ← partN_zero]; exact hO)
    · have hd : decide ((0 : Int) ≤ (j : Int) - 1) = true := by simp; omega
      have hx0 : bits BinOp.xor IntKind.u8 ((n : Int) / 2 ^ (8 * (j - 1)) % 256) 255 = 255 - (n : Int) / 2 ^ (8 * (j - 1)) % 256 := xor_ones _ (by omega) (by omega)
      go_wp2_with (at_builtin; refine push_byte (W := w) rfl _ _ rfl (partN n j) (255 - n / 256 ^ (j - 1) % 256) _ rfl hO _ rfl ?y1 hlen ?_)
      case y1 => rw [dig_cast]; omega
      intro v5 w5 hO5
      clear hO hx0 hlen
      go_wp2
      go_roundw
      case rel => exact ⟨j - 1, by omega, by congr 1; omega, by rw [partN_step (by omega) hj]; exact hO5⟩
      case measure => simp [intOf]; omega

theorem int_any (n : Int) (h1 : -9223372036854775808 ≤ n) (h2 : n ≤ 9223372036854775807) (w : World) :
    Calls Tryd.prog 38 #[.int .i64 n] w (Made w (enc n)) := by
  rcases Int.lt_or_le n 0 with h | h
  · have e : n = -1 - ((-1 - n).toNat : Int) := by omega
    rw [e]
    exact int_neg _ (by omega) w
  · have e : n = (n.toNat : Int) := by omega
    rw [e]
    exact int_pos _ (by omega) w

end Go.Proofs.YtfhfmdnimebegaaDoor
