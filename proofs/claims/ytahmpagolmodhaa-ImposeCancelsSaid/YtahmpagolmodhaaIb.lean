/-
  Numbers of a volume: Error, Count, has, shown, Leaf of the reference.
-/
import Derived.Test.YtahmpagolmodhaaIa
namespace Go.Proofs.Ytahmpagolmodhaa
open Go.RowKit
set_option linter.unusedVariables false
set_option linter.unusedSimpArgs false

set_option maxHeartbeats 1000000 in
set_option maxRecDepth 100000 in
theorem rerror_any (p l : Int) (w : World) : Calls Try.prog 39 #[.int .i64 p, .int .i64 l] w (IntR (volE p l) w) := by
  by_cases h1 : p < 0
  · have hp : volE p l = 1 := by unfold volE; rw [if_pos (by omega)]
    have HP := Lib.hid hp
    clear hp
    go_enter Try.func39, Try.ntmps39
    go_wp2
    go_ret
    exact ⟨by rw [HP.out]; first | done | rfl, rfl⟩
  obtain ⟨r, hr⟩ : ∃ r, Int.tmod l 2 = r := ⟨_, rfl⟩
  by_cases h4 : r = 0
  · subst h4
    by_cases h2 : l < 2
    · have hp : volE p l = 1 := by unfold volE; rw [if_pos (by omega)]
      have HP := Lib.hid hp
      clear hp
      go_enter Try.func39, Try.ntmps39
      go_wp2
      go_ret
      exact ⟨by rw [HP.out]; first | done | rfl, rfl⟩
    by_cases h3 : 16 < l
    · have hp : volE p l = 1 := by unfold volE; rw [if_pos (by omega)]
      have HP := Lib.hid hp
      clear hp
      go_enter Try.func39, Try.ntmps39
      go_wp2
      go_ret
      exact ⟨by rw [HP.out]; first | done | rfl, rfl⟩
    have hr2 := hr
    rw [rem_zero l (by omega)] at hr2
    by_cases h5 : 999 < p
    · have hp : volE p l = 4 := by unfold volE; rw [if_neg (by omega), if_pos h5]
      have HP := Lib.hid hp
      clear hp hr2
      go_enter Try.func39, Try.ntmps39
      go_wp2
      go_ret
      exact ⟨by rw [HP.out]; first | done | rfl, rfl⟩
    · have hp : volE p l = 0 := by unfold volE; rw [if_neg (by omega), if_neg h5]
      have HP := Lib.hid hp
      clear hp hr2
      go_enter Try.func39, Try.ntmps39
      go_wp2
      go_ret
      exact ⟨by rw [HP.out]; first | done | rfl, rfl⟩
  · have hp : volE p l = 1 := by
      unfold volE
      rw [if_pos]
      by_cases g : l < 2
      · exact Or.inr (Or.inl g)
      · rw [rem_zero l (by omega)] at hr; omega
    have HP := Lib.hid hp
    clear hp
    go_enter Try.func39, Try.ntmps39
    go_wp2
    go_ret
    exact ⟨by rw [HP.out]; first | done | rfl, rfl⟩

theorem qn_next (p h k : Nat) (h1 : 1 ≤ h) (h8 : h ≤ 8) : k < qnT p h ↔ k * (2 * h) * 2 < p := by
  unfold qnT
  revert h h1 h8
  refine eight ?_ ?_ ?_ ?_ ?_ ?_ ?_ ?_ <;> omega
def CnRel (q : Nat) (w : World) (v : Value) (wr : World) : Prop := ∃ k : Nat, k ≤ q ∧ v = .int .i64 (k : Int) ∧ w = wr
set_option maxHeartbeats 1000000 in
set_option maxRecDepth 100000 in
theorem rcount_any (p h : Nat) (hp : p ≤ 999) (h1 : 1 ≤ h) (h8 : h ≤ 8) (w : World) : Calls Try.prog 33 #[.int .i64 (p : Int), .int .i64 ((2 * h : Nat) : Int)] w (IntR ((qnT p h : Nat) : Int) w) := by
  have HN := Lib.hid (fun k => qn_next p h k h1 h8)
  have hq9 := qnT_le p h hp h1 h8
  have HL := Lib.hid (qnT_leaves p h hp h1 h8)
  obtain ⟨q, hq⟩ : ∃ q, qnT p h = q := ⟨_, rfl⟩
  rw [hq] at HN hq9 HL ⊢
  obtain ⟨l, hl⟩ : ∃ l, 2 * h = l := ⟨_, rfl⟩
  rw [hl] at HN HL ⊢
  clear hq hl
  go_enter Try.func33, Try.ntmps33
  go_wp2
  go_loopw [5] (fun v wr => CnRel q w v wr) (fun v _ => q - (intOf v).toNat)
  case atStart => exact ⟨0, Nat.zero_le _, rfl, rfl⟩
  case round =>
    obtain ⟨k, hk, rfl, rfl⟩ := hrel
    obtain ⟨a, ha⟩ : ∃ a, k * l = a := ⟨_, rfl⟩
    have e1 : (k : Int) * (l : Int) = (a : Int) := by rw [← ha]; exact (Int.natCast_mul k l).symm
    have hn := HN.out k
    have ha6 : a ≤ 600 := by rw [← ha]; exact Nat.le_trans (Nat.mul_le_mul_right l hk) HL.out
    rw [ha] at hn
    clear ha
    rcases Nat.lt_or_ge k q with hlt | hge
    · have h2 : (a : Int) * 2 < (p : Int) := by have := hn.1 hlt; omega
      clear hn
      go_wp2
      exact ⟨⟨k + 1, by omega, by go_num, rfl⟩, by simp [intOf]; omega⟩
    · have h2 : (p : Int) ≤ (a : Int) * 2 := by have := mt hn.2 (by omega); omega
      obtain rfl : k = q := by omega
      clear hn
      go_wp2
      go_ret
      exact ⟨rfl, rfl⟩
set_option maxHeartbeats 1000000 in
set_option maxRecDepth 100000 in
theorem rhas_any (p h : Nat) (n : Int) (hp : p ≤ 999) (h1 : 1 ≤ h) (h8 : h ≤ 8) (hn : -9223372036854775808 ≤ n) (hm : n ≤ 9223372036854775807) (w : World) :
    Calls Try.prog 44 #[.int .i64 (p : Int), .int .i64 ((2 * h : Nat) : Int), .int .i64 n] w (fun e w' => e = .returned (.bool (inT p h n)) ∧ w = w') := by
  by_cases hn1 : n ≤ 0
  · have hp : inT p h n = false := by unfold inT; rw [decide_eq_false (by omega)]; rfl
    have HP := Lib.hid hp
    clear hp
    go_enter Try.func44, Try.ntmps44
    go_wp2
    go_ret
    exact ⟨by rw [HP.out]; first | done | rfl, rfl⟩
  have hn2 : 0 < n := by omega
  have C := Lib.hid (rcount_any p h hp h1 h8)
  obtain ⟨t, ht⟩ : ∃ t, qnT p h * (2 * h) = t := ⟨_, rfl⟩
  have ht6 : t ≤ 600 := by have := qnT_leaves p h hp h1 h8; omega
  have hi : inT p h n = decide (n ≤ (t : Int)) := by unfold inT; rw [decide_eq_true (by omega), Bool.true_and, ht]
  have HP := Lib.hid hi
  clear hi
  obtain ⟨q, hq⟩ : ∃ q, qnT p h = q := ⟨_, rfl⟩
  rw [hq] at C ht
  obtain ⟨l, hl⟩ : ∃ l, 2 * h = l := ⟨_, rfl⟩
  rw [hl] at C ht ⊢
  have e1 : (q : Int) * (l : Int) = (t : Int) := by rw [← ht]; exact (Int.natCast_mul q l).symm
  clear hl ht hq
  go_enter Try.func44, Try.ntmps44
  go_wp2_with (first | (go_at_call 33; refine (C.out _).mono ?_; rintro _ w2 ⟨rfl, rfl⟩))
  go_ret
  exact ⟨by rw [HP.out]; first | done | rfl, rfl⟩
set_option maxHeartbeats 1000000 in
set_option maxRecDepth 100000 in
theorem rshown_any (p n : Nat) (w : World) : Calls Try.prog 41 #[.int .i64 (p : Int), .int .i64 (n : Int)] w (IntR ((numT p n : Nat) : Int) w) := by
  by_cases h : p < n
  · have hp : numT p n = 0 := by unfold numT; rw [if_pos h]
    have hz : (p : Int) < (n : Int) := by omega
    have HP := Lib.hid hp
    clear hp h
    go_enter Try.func41, Try.ntmps41
    go_wp2
    go_ret
    exact ⟨by rw [HP.out]; first | done | rfl, rfl⟩
  · have hp : numT p n = n := by unfold numT; rw [if_neg h]
    have hz : (n : Int) ≤ (p : Int) := by omega
    have HP := Lib.hid hp
    clear hp h
    go_enter Try.func41, Try.ntmps41
    go_wp2
    go_ret
    exact ⟨by rw [HP.out]; first | done | rfl, rfl⟩
set_option maxHeartbeats 1000000 in
set_option maxRecDepth 100000 in
theorem rleaf_any (n : Int) (hn : -9223372036854775808 ≤ n) (hm : n ≤ 9223372036854775807) (w : World) : Calls Try.prog 27 #[.int .i64 n] w (fun e w' => e = .returned (.tuple #[.int .i64 (leafT n), .bool (frontT n)]) ∧ w = w') := by
  by_cases h1 : n < 1
  · have hp : leafT n = 0 ∧ frontT n = false := by unfold leafT frontT; rw [if_pos (by omega), if_pos (by omega)]; exact ⟨rfl, rfl⟩
    have HP := Lib.hid hp
    clear hp
    go_enter Try.func27, Try.ntmps27
    go_wp2
    go_ret2
    exact ⟨by rw [HP.out.1, HP.out.2]; first | done | rfl, rfl⟩
  by_cases h2 : 1024 < n
  · have hp : leafT n = 0 ∧ frontT n = false := by unfold leafT frontT; rw [if_pos (by omega), if_pos (by omega)]; exact ⟨rfl, rfl⟩
    have HP := Lib.hid hp
    clear hp
    go_enter Try.func27, Try.ntmps27
    go_wp2
    go_ret2
    exact ⟨by rw [HP.out.1, HP.out.2]; first | done | rfl, rfl⟩
  have hp : leafT n = n / 2 + n % 2 ∧ frontT n = (n % 2 == 1) := by unfold leafT frontT; rw [if_neg (by omega), if_neg (by omega)]; exact ⟨by omega, int_beq _ _⟩
  have HP := Lib.hid hp
  clear hp
  go_enter Try.func27, Try.ntmps27
  go_wp2
  go_ret2
  exact ⟨by rw [HP.out.1, HP.out.2]; first | done | rfl, rfl⟩
end Go.Proofs.Ytahmpagolmodhaa
