/-
  merkle.middle, with bits.Len and bits.Len64 below it; half: the greatest power of two that is less than n.
-/
import Derived.Test.YtfhfmdnimebegaaDoorWb
import Derived.Lib.BitFns
import Derived.Lib.Strings
import Derived.Lib.Small
import Derived.Lib.Tables
namespace Go.Proofs.YtfhfmdnimebegaaDoor
open Go.RowKit
set_option linter.unusedVariables false
set_option linter.unusedSimpArgs false

/-- The greatest power of two that is less than n (n at least 2). -/
def half (n : Nat) : Nat := 2 ^ (n - 1).log2
theorem half_pos (n : Nat) : 1 ≤ half n := Nat.two_pow_pos _
theorem half_lt (n : Nat) (h : 2 ≤ n) : half n < n := by
  have := Nat.log2_self_le (n := n - 1) (by omega)
  unfold half
  omega
theorem half_ge (n : Nat) (h : 2 ≤ n) : n ≤ 2 * half n := by
  have := Nat.lt_log2_self (n := n - 1)
  unfold half
  rw [Nat.pow_succ] at this
  omega
theorem bitLen_zero : Lib.bitLen 0 = 0 := by decide
theorem bitLen_log2 : ∀ (k x : Nat), 1 ≤ x → x < 2 ^ k → k ≤ 64 → Lib.bitLen x = x.log2 + 1
  | 0, x, h1, h2, _ => by omega
  | k + 1, x, h1, h2, hk => by
    have hx : x < 2 ^ 64 := Nat.lt_of_lt_of_le h2 (Nat.pow_le_pow_right (by omega) hk)
    rw [Lib.bitLen_half x (by omega) hx, Nat.log2_def]
    by_cases h : 2 ≤ x
    · rw [if_pos h, bitLen_log2 k (x / 2) (by omega) (by rw [Nat.pow_succ] at h2; omega) (by omega)]
      omega
    · obtain rfl : x = 1 := by omega
      rw [if_neg h]
      rw [show 1 / 2 = 0 from rfl, bitLen_zero]
theorem half_bits (n : Nat) (h : 2 ≤ n) (hn : n ≤ 65536) : half n = 2 ^ (Lib.bitLen (n - 1) - 1) ∧ 1 ≤ Lib.bitLen (n - 1) ∧ Lib.bitLen (n - 1) ≤ 16 := by
  have e := bitLen_log2 16 (n - 1) (by omega) (by omega) (by omega)
  have l := Lib.bitLen_le (n - 1) 16 (by omega) (by omega)
  refine ⟨?_, by omega, l⟩
  rw [e]
  rfl

theorem wr_small (q : Nat) (h : q ≤ 16) : wrap64 (q : Int) = (q : Int) := by unfold wrap64; omega
theorem wr_eight (q r : Nat) (h : q ≤ 16) (e : r = 8 + q) : wrap64 (8 + (q : Int)) = (r : Int) := by unfold wrap64; omega
theorem tab_at (i : Nat) (h : i < Lib.len8tab.size) : (Lib.len8tab[i]'h).toNat = Lib.bitLen i ∧ Lib.bitLen i ≤ 8 := by
  have hz := Lib.len8tab_size
  have e := Lib.len8_of (i : Int) (by omega) (by omega)
  have l := Lib.bitLen_le8 ⟨i, by omega⟩
  unfold Lib.len8 at e
  rw [show ((i : Int)).toNat = i from rfl, ByteArray.getElem?_lt' _ _ h, Option.getD_some] at e
  exact ⟨by omega, l⟩

set_option maxHeartbeats 4000000 in
set_option maxRecDepth 100000 in
theorem len64_any (x : Int) (h0 : 0 ≤ x) (h1 : x < 65536) (w : World) :
    Calls Tryd.prog 82 #[.int .u64 x] w fun e w' => e = .returned (.int .i64 (Lib.bitLen x.toNat)) ∧ w' = w := by
  go_enter Tryd.func82, Tryd.ntmps82
  generalize htab : ByteArray.mk (List.toArray _) = T
  obtain rfl : T = Lib.len8tab := by rw [← htab]; decide +kernel
  clear htab
  have hz := Lib.hid Lib.len8tab_size
  by_cases hc : x < 256
  · go_wp2
    · obtain ⟨t1, t2⟩ := tab_at x.toNat (by have := hz.out; omega)
      rw [t1]
      have e1 := wr_small _ (Nat.le_trans t2 (by decide))
      rw [e1, e1]
      go_ret
      exact ⟨rfl, rfl⟩
    all_goals (exfalso; have := hz.out; omega)
  · go_wp2
    · obtain ⟨t1, t2⟩ := tab_at (x / 256).toNat (by have := hz.out; omega)
      have s := Lib.bitLen_shift8 x.toNat (by omega) (by omega)
      have e0 : (x / 256).toNat = x.toNat / 256 := by omega
      rw [t1, e0]
      rw [e0] at t2
      have e1 := wr_small _ (Nat.le_trans t2 (by decide))
      have e2 := wr_eight _ _ (Nat.le_trans t2 (by decide)) s
      rw [e1, e2]
      go_ret
      exact ⟨rfl, rfl⟩
    all_goals (exfalso; have := hz.out; omega)

set_option maxHeartbeats 4000000 in
theorem len_any (x : Int) (h0 : 0 ≤ x) (h1 : x < 65536) (w : World) :
    Calls Tryd.prog 75 #[.int .u64 x] w fun e w' => e = .returned (.int .i64 (Lib.bitLen x.toNat)) ∧ w' = w := by
  go_enter Tryd.func75, Tryd.ntmps75
  go_wp2_with (go_at_call 82; refine (len64_any x h0 h1 _).mono ?_; rintro e w' ⟨rfl, rfl⟩)
  go_ret
  exact ⟨rfl, rfl⟩

set_option maxHeartbeats 4000000 in
theorem middle_any (a b : Int) (n : Nat) (ha : 0 ≤ a) (hb : b ≤ 4096) (hab : b - a = n) (hn : 2 ≤ n) (w : World) :
    Calls Tryd.prog 58 #[.int .i64 a, .int .i64 b] w fun e w' => e = .returned (.int .i64 (a + half n)) ∧ w' = w := by
  have hlt := half_lt n hn
  have hnn : n ≤ 4096 := by omega
  obtain ⟨h1, h2, h3⟩ := half_bits n hn (by omega)
  have en : ((n : Int) - 1).toNat = n - 1 := by omega
  have H := Lib.hid h1
  clear h1
  generalize half n = m at hlt H ⊢
  go_enter Tryd.func58, Tryd.ntmps58
  go_wp2_with (go_at_call 75; refine (len_any _ (by omega) (by omega) _).mono ?_; rintro e w' ⟨rfl, rfl⟩; rw [en]; generalize Lib.bitLen (n - 1) = q at h2 h3 H ⊢)
  have e : ((2 : Int) ^ (q - 1)) = (m : Int) := by rw [H.out]; simp
  rw [e]
  have w1 : wrap64 (m : Int) = (m : Int) := by unfold wrap64; omega
  have w2 : wrap64 (a + (m : Int)) = a + (m : Int) := by unfold wrap64; omega
  rw [w1, w2]
  go_ret
  exact ⟨rfl, rfl⟩

end Go.Proofs.YtfhfmdnimebegaaDoor
