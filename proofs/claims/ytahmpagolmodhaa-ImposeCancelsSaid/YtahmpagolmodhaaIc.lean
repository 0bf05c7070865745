/-
  Conjugate of the reference.
-/
import Derived.Test.YtahmpagolmodhaaIb
namespace Go.Proofs.Ytahmpagolmodhaa
open Go.RowKit
set_option linter.unusedVariables false
set_option linter.unusedSimpArgs false

set_option maxHeartbeats 1000000 in
set_option maxRecDepth 100000 in
theorem rconj_bad (p l n : Int) (hv : volE p l ≠ 0) (w : World) :
    Calls Try.prog 31 #[.int .i64 p, .int .i64 l, .int .i64 n] w (fun e w' => e = .returned (.tuple #[.int .i64 0, .int .i64 (volE p l)]) ∧ w = w') := by
  have C := Lib.hid (rerror_any p l)
  generalize volE p l = v at *
  go_enter Try.func31, Try.ntmps31
  go_wp2_with (first | (go_at_call 39; refine (C.out _).mono ?_; rintro _ w2 ⟨rfl, rfl⟩))
  go_ret2
  exact ⟨rfl, rfl⟩
def CjO (l n Q : Nat) (w : World) (v : Value) (wr : World) : Prop := ∃ q : Nat, v = .int .i64 (q : Int) ∧ q ≤ Q ∧ q * l < n ∧ w = wr
def CjI (l n a : Nat) (w : World) (v : Value) (wr : World) : Prop := ∃ i : Nat, v = .int .i64 (i : Int) ∧ i ≤ l ∧ a + i < n ∧ w = wr
theorem conj_found {h q i m : Nat} (hi : i < 2 * h) (hm : q * (2 * h) + 1 + i = m) : conjT h m = q * (2 * h) + 2 * h - i := by
  unfold conjT
  have e : (m - 1) / (2 * h) = q := by
    rw [show m - 1 = i + (2 * h) * q by rw [Nat.mul_comm (2 * h) q]; omega, Nat.add_mul_div_left _ _ (by omega), Nat.div_eq_of_lt hi, Nat.zero_add]
  rw [e]
  omega
set_option maxHeartbeats 2000000 in
set_option maxRecDepth 100000 in
theorem rconj_any (p h : Nat) (n : Int) (hp : p ≤ 999) (h1 : 1 ≤ h) (h8 : h ≤ 8) (hn : -9223372036854775808 ≤ n) (hm : n ≤ 9223372036854775807) (w : World) :
    Calls Try.prog 31 #[.int .i64 (p : Int), .int .i64 ((2 * h : Nat) : Int), .int .i64 n] w (fun e w' => e = .returned (.tuple #[.int .i64 (conjN p h n), .int .i64 (conjE p h n)]) ∧ w = w') := by
  have hv : volE (p : Int) ((2 * h : Nat) : Int) = 0 := by unfold volE; rw [if_neg (by omega), if_neg (by omega)]
  have C := Lib.hid (rerror_any (p : Int) ((2 * h : Nat) : Int))
  rw [hv] at C
  have D := Lib.hid (rhas_any p h n hp h1 h8 hn hm)
  have G := Lib.hid (rcount_any p h hp h1 h8)
  obtain ⟨l, hl⟩ : ∃ l, 2 * h = l := ⟨_, rfl⟩
  have e3 : l ≤ 16 := by omega
  have e4 : 2 ≤ l := by omega
  by_cases hi : inT p h n = true
  · rw [hi] at D
    have hi2 := hi
    unfold inT at hi2
    rw [Bool.and_eq_true, decide_eq_true_eq, decide_eq_true_eq] at hi2
    have h6 := qnT_leaves p h hp h1 h8
    obtain ⟨m, rfl⟩ : ∃ m : Nat, n = (m : Int) := ⟨n.toNat, by omega⟩
    have hc : conjN p h (m : Int) = ((conjT h m : Nat) : Int) ∧ conjE p h (m : Int) = 0 := by unfold conjN conjE; rw [if_pos hi, if_pos hi]; exact ⟨rfl, rfl⟩
    have HF := Lib.hid (fun q i (h1 : i < 2 * h) (h2 : q * (2 * h) + 1 + i = m) => conj_found h1 h2)
    have hq9 := qnT_le p h hp h1 h8
    have e6 : m ≤ 600 := by omega
    have e7 : 1 ≤ m := by omega
    have hmq : m ≤ qnT p h * (2 * h) := by omega
    obtain ⟨Q, hQ⟩ : ∃ Q, qnT p h = Q := ⟨_, rfl⟩
    rw [hQ] at G hq9 h6 hmq
    rw [hl] at C D G HF h6 hmq ⊢
    have HP := Lib.hid hc
    have HM := Lib.hid hmq
    have H6 := Lib.hid h6
    clear hc hl hi hi2 hv hQ hmq h6 hn hm
    go_enter Try.func31, Try.ntmps31
    go_wp2_with (first | (go_at_call 39; refine (C.out _).mono ?_; rintro _ w2 ⟨rfl, rfl⟩) | (go_at_call 44; refine (D.out _).mono ?_; rintro _ w2 ⟨rfl, rfl⟩))
    go_loopw [9] (fun v wr => CjO l m Q w v wr) (fun v _ => Q - (intOf v).toNat)
    case atStart => exact ⟨0, rfl, Nat.zero_le _, by omega, rfl⟩
    case round =>
      obtain ⟨q, rfl, hq, hqm, rfl⟩ := hrel
      obtain ⟨a, ha⟩ : ∃ a, q * l = a := ⟨_, rfl⟩
      rcases Nat.lt_or_ge q Q with hlt | hge
      · have hltz : (q : Int) < (Q : Int) := by omega
        have e1 : (q : Int) * (l : Int) = (a : Int) := by rw [← ha]; exact (Int.natCast_mul q l).symm
        have HA := Lib.hid ha
        rw [ha] at hqm
        clear ha
        go_wp2_with (first | (go_at_call 33; refine (G.out _).mono ?_; rintro _ w2 ⟨rfl, rfl⟩))
        obtain ⟨wo, rfl⟩ : ∃ wo, wo = w := ⟨_, rfl⟩
        go_loopw [10] (fun v wr => CjI l m a wo v wr) (fun v _ => l - (intOf v).toNat)
        case atStart => exact ⟨0, rfl, Nat.zero_le _, by omega, rfl⟩
        case round =>
          obtain ⟨i, rfl, hil, him, rfl⟩ := hrel
          rcases Nat.lt_or_ge i l with hli | hli
          · have hliz : (i : Int) < (l : Int) := by omega
            rcases Nat.eq_or_lt_of_le (show a + 1 + i ≤ m by omega) with he | he
            · have HC := Lib.hid (HF.out q i hli (by rw [HA.out]; exact he))
              obtain ⟨c, hc⟩ : ∃ c, a + l - i = c := ⟨_, rfl⟩
              have e5 : (a : Int) + (l : Int) - (i : Int) = (c : Int) := by omega
              have e8 : (a : Int) + 1 + (i : Int) = (m : Int) := by omega
              rw [HA.out, hc] at HC
              clear hc he
              go_wp2
              go_ret2
              exact ⟨by rw [HP.out.1, HP.out.2, HC.out]; first | done | rfl, rfl⟩
            · have e8 : ((a : Int) + 1 + (i : Int) == (m : Int)) = false := by rw [beq_eq_false_iff_ne]; omega
              go_wp2
              exact ⟨⟨i + 1, by go_num, by omega, by omega, rfl⟩, by simp [intOf]; omega⟩
          · have hliz : ¬ (i : Int) < (l : Int) := by omega
            obtain rfl : i = l := by omega
            go_wp2
            exact ⟨⟨q + 1, by go_num, by omega, by rw [Nat.succ_mul, HA.out]; omega, rfl⟩, by simp [intOf]; omega⟩
      · exfalso
        have h2 := HM.out
        obtain rfl : q = Q := by omega
        omega
  · have hi2 : inT p h n = false := by rw [Bool.eq_false_iff]; exact hi
    rw [hi2] at D
    have hc : conjN p h n = 0 ∧ conjE p h n = 5 := by unfold conjN conjE; rw [if_neg hi, if_neg hi]; exact ⟨rfl, rfl⟩
    have HP := Lib.hid hc
    rw [hl] at C D G ⊢
    clear hc hi hi2 hl hv
    go_enter Try.func31, Try.ntmps31
    go_wp2_with (first | (go_at_call 39; refine (C.out _).mono ?_; rintro _ w2 ⟨rfl, rfl⟩) | (go_at_call 44; refine (D.out _).mono ?_; rintro _ w2 ⟨rfl, rfl⟩))
    go_ret2
    exact ⟨by rw [HP.out.1, HP.out.2]; first | done | rfl, rfl⟩
end Go.Proofs.Ytahmpagolmodhaa
