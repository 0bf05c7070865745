/-
  Numbers of a volume: check, count, bound, Leaf, Pages, Conjugate of the program.
-/
import Derived.Test.YtahmpagolmodhaaBa
namespace Go.Proofs.Ytahmpagolmodhaa
open Go.RowKit
set_option linter.unusedVariables false
set_option linter.unusedSimpArgs false

/-- The call answers an integer. -/
def IntR (x : Int) (w : World) (e : Ending) (w' : World) : Prop := e = .returned (.int .i64 x) ∧ w = w'

theorem rem_zero (l : Int) (h : 2 ≤ l) : Int.tmod l 2 = l % 2 := Int.tmod_eq_emod_of_nonneg (by omega)

set_option maxHeartbeats 1000000 in
set_option maxRecDepth 100000 in
theorem check_any (p l : Int) (w : World) : Calls Try.prog 37 #[.int .i64 p, .int .i64 l] w (IntR (volE p l) w) := by
  by_cases h1 : p < 0
  · have hp : volE p l = 1 := by unfold volE; rw [if_pos (by omega)]
    have HP := Lib.hid hp
    clear hp
    go_enter Try.func37, Try.ntmps37
    go_wp2
    go_ret
    exact ⟨by rw [HP.out]; first | done | rfl, rfl⟩
  by_cases h2 : l < 2
  · have hp : volE p l = 1 := by unfold volE; rw [if_pos (by omega)]
    have HP := Lib.hid hp
    clear hp
    go_enter Try.func37, Try.ntmps37
    go_wp2
    go_ret
    exact ⟨by rw [HP.out]; first | done | rfl, rfl⟩
  by_cases h3 : 16 < l
  · have hp : volE p l = 1 := by unfold volE; rw [if_pos (by omega)]
    have HP := Lib.hid hp
    clear hp
    go_enter Try.func37, Try.ntmps37
    go_wp2
    go_ret
    exact ⟨by rw [HP.out]; first | done | rfl, rfl⟩
  obtain ⟨r, hr⟩ : ∃ r, Int.tmod l 2 = r := ⟨_, rfl⟩
  have hr2 := hr
  rw [rem_zero l (by omega)] at hr2
  by_cases h4 : r = 0
  · subst h4
    by_cases h5 : 999 < p
    · have hp : volE p l = 4 := by unfold volE; rw [if_neg (by omega), if_pos h5]
      have HP := Lib.hid hp
      clear hp hr2
      go_enter Try.func37, Try.ntmps37
      go_wp2
      go_ret
      exact ⟨by rw [HP.out]; first | done | rfl, rfl⟩
    · have hp : volE p l = 0 := by unfold volE; rw [if_neg (by omega), if_neg h5]
      have HP := Lib.hid hp
      clear hp hr2
      go_enter Try.func37, Try.ntmps37
      go_wp2
      go_ret
      exact ⟨by rw [HP.out]; first | done | rfl, rfl⟩
  · have hp : volE p l = 1 := by unfold volE; rw [if_pos (by omega)]
    have HP := Lib.hid hp
    clear hp hr2
    go_enter Try.func37, Try.ntmps37
    go_wp2
    go_ret
    exact ⟨by rw [HP.out]; first | done | rfl, rfl⟩

theorem int_beq (a b : Int) : decide (a = b) = (a == b) := by by_cases h : a = b <;> simp [h]
theorem quo_nat (a b : Nat) (ha : a ≤ 1000000) : wrap64 ((a : Int) / (b : Int)) = ((a / b : Nat) : Int) := by
  rw [← Int.natCast_ediv a b]
  have := Nat.div_le_self a b
  generalize a / b = n at *
  simp [wrap64]; omega
theorem qnT_le (p h : Nat) (hp : p ≤ 999) (h1 : 1 ≤ h) (h8 : h ≤ 8) : qnT p h ≤ 250 := by
  revert h1 h8; revert h
  intro h h1 h8
  unfold qnT
  revert h h1 h8
  refine eight ?_ ?_ ?_ ?_ ?_ ?_ ?_ ?_ <;> omega
theorem qnT_leaves (p h : Nat) (hp : p ≤ 999) (h1 : 1 ≤ h) (h8 : h ≤ 8) : qnT p h * (2 * h) ≤ 600 := by
  unfold qnT
  revert h h1 h8
  refine eight ?_ ?_ ?_ ?_ ?_ ?_ ?_ ?_ <;> omega
set_option maxHeartbeats 1000000 in
set_option maxRecDepth 100000 in
theorem count_any (p h : Nat) (hp : p ≤ 999) (h1 : 1 ≤ h) (h8 : h ≤ 8) (w : World) : Calls Try.prog 38 #[.int .i64 (p : Int), .int .i64 ((2 * h : Nat) : Int)] w (IntR ((qnT p h : Nat) : Int) w) := by
  have HQ : Hid (wrap64 (((p + 4 * h - 1 : Nat) : Int) / ((4 * h : Nat) : Int)) = ((qnT p h : Nat) : Int)) := Lib.hid (quo_nat _ _ (by omega))
  obtain ⟨l, hl⟩ : ∃ l, 2 * h = l := ⟨_, rfl⟩
  rw [hl]
  obtain ⟨t, ht⟩ : ∃ t, 4 * h = t := ⟨_, rfl⟩
  obtain ⟨s, hs⟩ : ∃ s, p + 4 * h - 1 = s := ⟨_, rfl⟩
  rw [hs, ht] at HQ
  have e1 : 2 * (l : Int) = (t : Int) := by omega
  have e2 : (p : Int) + (t : Int) - 1 = (s : Int) := by omega
  have e3 : t ≤ 32 := by omega
  have e4 : 4 ≤ t := by omega
  have e5 : s ≤ 1031 := by omega
  clear hl ht hs
  go_enter Try.func38, Try.ntmps38
  go_wp2
  go_ret
  exact ⟨by rw [HQ.out]; first | done | rfl, rfl⟩
set_option maxHeartbeats 1000000 in
set_option maxRecDepth 100000 in
theorem leaf_any (n : Int) (hn : -9223372036854775808 ≤ n) (hm : n ≤ 9223372036854775807) (w : World) : Calls Try.prog 26 #[.int .i64 n] w (fun e w' => e = .returned (.tuple #[.int .i64 (leafT n), .bool (frontT n)]) ∧ w = w') := by
  by_cases h1 : n < 1
  · have hp : leafT n = 0 ∧ frontT n = false := by unfold leafT frontT; rw [if_pos (by omega), if_pos (by omega)]; exact ⟨rfl, rfl⟩
    have HP := Lib.hid hp
    clear hp
    go_enter Try.func26, Try.ntmps26
    go_wp2
    go_ret2
    exact ⟨by rw [HP.out.1, HP.out.2]; first | done | rfl, rfl⟩
  by_cases h2 : 1024 < n
  · have hp : leafT n = 0 ∧ frontT n = false := by unfold leafT frontT; rw [if_pos (by omega), if_pos (by omega)]; exact ⟨rfl, rfl⟩
    have HP := Lib.hid hp
    clear hp
    go_enter Try.func26, Try.ntmps26
    go_wp2
    go_ret2
    exact ⟨by rw [HP.out.1, HP.out.2]; first | done | rfl, rfl⟩
  have hp : leafT n = (n + 1) / 2 ∧ frontT n = (n % 2 == 1) := by unfold leafT frontT; rw [if_neg (by omega), if_neg (by omega)]; exact ⟨rfl, int_beq _ _⟩
  have HP := Lib.hid hp
  clear hp
  go_enter Try.func26, Try.ntmps26
  go_wp2
  go_ret2
  exact ⟨by rw [HP.out.1, HP.out.2]; first | done | rfl, rfl⟩
set_option maxHeartbeats 1000000 in
set_option maxRecDepth 100000 in
theorem bound_any (p h : Nat) (n : Int) (hp : p ≤ 999) (h1 : 1 ≤ h) (h8 : h ≤ 8) (hn : -9223372036854775808 ≤ n) (hm : n ≤ 9223372036854775807) (w : World) :
    Calls Try.prog 43 #[.int .i64 (p : Int), .int .i64 ((2 * h : Nat) : Int), .int .i64 n] w (fun e w' => e = .returned (.bool (inT p h n)) ∧ w = w') := by
  by_cases hn1 : n < 1
  · have hp : inT p h n = false := by unfold inT; rw [decide_eq_false (by omega)]; rfl
    have HP := Lib.hid hp
    clear hp
    go_enter Try.func43, Try.ntmps43
    go_wp2
    go_ret
    exact ⟨by rw [HP.out]; first | done | rfl, rfl⟩
  have C := Lib.hid (count_any p h hp h1 h8)
  obtain ⟨t, ht⟩ : ∃ t, qnT p h * (2 * h) = t := ⟨_, rfl⟩
  have ht6 : t ≤ 600 := by have := qnT_leaves p h hp h1 h8; omega
  have hi : inT p h n = decide (n ≤ (t : Int)) := by unfold inT; rw [decide_eq_true (by omega), Bool.true_and, ht]
  have HP := Lib.hid hi
  clear hi
  obtain ⟨q, hq⟩ : ∃ q, qnT p h = q := ⟨_, rfl⟩
  rw [hq] at C ht
  obtain ⟨l, hl⟩ : ∃ l, 2 * h = l := ⟨_, rfl⟩
  rw [hl] at C ht ⊢
  have e1 : (q : Int) * (l : Int) = (t : Int) := by rw [← ht]; exact (Int.natCast_mul q l).symm
  clear hl ht hq
  go_enter Try.func43, Try.ntmps43
  go_wp2_with (first | (go_at_call 38; refine (C.out _).mono ?_; rintro _ w2 ⟨rfl, rfl⟩))
  go_ret
  exact ⟨by rw [HP.out]; first | done | rfl, rfl⟩
set_option maxHeartbeats 1000000 in
set_option maxRecDepth 100000 in
theorem conj_any (p h : Nat) (n : Int) (hp : p ≤ 999) (h1 : 1 ≤ h) (h8 : h ≤ 8) (hn : -9223372036854775808 ≤ n) (hm : n ≤ 9223372036854775807) (w : World) :
    Calls Try.prog 30 #[.int .i64 (p : Int), .int .i64 ((2 * h : Nat) : Int), .int .i64 n] w (fun e w' => e = .returned (.tuple #[.int .i64 (conjN p h n), .int .i64 (conjE p h n)]) ∧ w = w') := by
  have hv : volE (p : Int) ((2 * h : Nat) : Int) = 0 := by unfold volE; rw [if_neg (by omega), if_neg (by omega)]
  have C := Lib.hid (check_any (p : Int) ((2 * h : Nat) : Int))
  rw [hv] at C
  have D := Lib.hid (bound_any p h n hp h1 h8 hn hm)
  obtain ⟨l, hl⟩ : ∃ l, 2 * h = l := ⟨_, rfl⟩
  have e3 : l ≤ 16 := by omega
  have e4 : 2 ≤ l := by omega
  by_cases hi : inT p h n = true
  · rw [hi] at D
    have hi2 := hi
    unfold inT at hi2
    rw [Bool.and_eq_true, decide_eq_true_eq, decide_eq_true_eq] at hi2
    have h6 := qnT_leaves p h hp h1 h8
    obtain ⟨m, hm⟩ : ∃ m : Nat, n = (m : Int) := ⟨n.toNat, by omega⟩
    subst hm
    have hc : conjN p h (m : Int) = ((conjT h m : Nat) : Int) ∧ conjE p h (m : Int) = 0 := by unfold conjN conjE; rw [if_pos hi, if_pos hi]; exact ⟨rfl, rfl⟩
    have hb : (m - 1) / (2 * h) * (2 * h) ≤ m - 1 := Nat.div_mul_le_self _ _
    have hq : Hid (wrap64 (((m - 1 : Nat) : Int) / ((2 * h : Nat) : Int)) = (((m - 1) / (2 * h) : Nat) : Int)) := Lib.hid (quo_nat _ _ (by omega))
    have hq6 := Nat.div_le_self (m - 1) (2 * h)
    have hcj : conjT h m = 2 * ((m - 1) / (2 * h) * (2 * h)) + 2 * h + 1 - m := rfl
    have hco := of_all h h1 h8 m (qnT p h) (by omega) (by omega)
    have hc1 := hco.2.2.1
    have hc2 := hco.2.2.2.1
    clear hco
    obtain ⟨c, hcc⟩ : ∃ c, conjT h m = c := ⟨_, rfl⟩
    obtain ⟨q, hqq⟩ : ∃ q, (m - 1) / (2 * h) = q := ⟨_, rfl⟩
    rw [hcc] at hc hcj hc1 hc2
    rw [hqq] at hb hq hq6 hcj
    rw [hl] at C D hb hq hcj ⊢
    obtain ⟨b, hbb⟩ : ∃ b, q * l = b := ⟨_, rfl⟩
    rw [hbb] at hb hcj
    obtain ⟨m1, hm1⟩ : ∃ m1, m - 1 = m1 := ⟨_, rfl⟩
    rw [hm1] at hb hq hq6
    have e1 : (m : Int) - 1 = (m1 : Int) := by omega
    have e2 : (q : Int) * (l : Int) = (b : Int) := by rw [← hbb]; exact (Int.natCast_mul q l).symm
    have e5 : 2 * (b : Int) + (l : Int) + 1 - (m : Int) = (c : Int) := by omega
    have e6 : m ≤ 600 := by omega
    have e7 : 1 ≤ m := by omega
    have e8 : b ≤ 600 := by omega
    have e9 : q ≤ 600 := by omega
    have HP := Lib.hid hc
    have hqo := hq.out
    clear hc hcj hb hbb hqq hcc hm1 hl hi hi2 hv hc1 hc2 h6 hq
    go_enter Try.func30, Try.ntmps30
    go_wp2_with (first | (go_at_call 37; refine (C.out _).mono ?_; rintro _ w2 ⟨rfl, rfl⟩) | (go_at_call 43; refine (D.out _).mono ?_; rintro _ w2 ⟨rfl, rfl⟩))
    go_ret2
    exact ⟨by rw [HP.out.1, HP.out.2]; first | done | rfl, rfl⟩
  · have hi2 : inT p h n = false := by rw [Bool.eq_false_iff]; exact hi
    rw [hi2] at D
    have hc : conjN p h n = 0 ∧ conjE p h n = 5 := by unfold conjN conjE; rw [if_neg hi, if_neg hi]; exact ⟨rfl, rfl⟩
    have HP := Lib.hid hc
    rw [hl] at C D ⊢
    clear hc hi hi2 hl hv
    go_enter Try.func30, Try.ntmps30
    go_wp2_with (first | (go_at_call 37; refine (C.out _).mono ?_; rintro _ w2 ⟨rfl, rfl⟩) | (go_at_call 43; refine (D.out _).mono ?_; rintro _ w2 ⟨rfl, rfl⟩))
    go_ret2
    exact ⟨by rw [HP.out.1, HP.out.2]; first | done | rfl, rfl⟩
set_option maxHeartbeats 1000000 in
set_option maxRecDepth 100000 in
theorem conj_bad (p l n : Int) (hv : volE p l ≠ 0) (w : World) :
    Calls Try.prog 30 #[.int .i64 p, .int .i64 l, .int .i64 n] w (fun e w' => e = .returned (.tuple #[.int .i64 0, .int .i64 (volE p l)]) ∧ w = w') := by
  have C := Lib.hid (check_any p l)
  generalize volE p l = v at *
  go_enter Try.func30, Try.ntmps30
  go_wp2_with (first | (go_at_call 37; refine (C.out _).mono ?_; rintro _ w2 ⟨rfl, rfl⟩))
  go_ret2
  exact ⟨rfl, rfl⟩
end Go.Proofs.Ytahmpagolmodhaa
