/-
  passimref01.count returns, for every byte slice, the number of elements or the error.
-/
import Derived.Test.YtpglfjfgnmaipaaWrg
namespace Go.Proofs.Ytpglfjfgnmaipaa
open Go.RowKit

theorem below_same {w w' : World} {r r' : Int × Nat × Nat} {v : Value} (hb : Below w.heap.size w w') (h : r = r') (hv : v = three r') : Gave3 w r (.returned v) w' := gave3_of h hv hb

set_option maxHeartbeats 400000 in
theorem rcount_any (A : Option Addr) (l : List Nat) (n c wd : Nat) (w : World) (hn : n = l.length) (hc : n ≤ c) (hc2 : n ≤ 140737488355328) (hr : Has w A l) (hw1 : 1 ≤ wd) (hw2 : wd ≤ 16) :
    Calls Try.prog 40 #[.slice A n c, .int .i64 wd] w (Gave3 w (lenD l wd)) := by
  have hd := dec_ok l
  have C : Calls Try.prog 25 #[.slice A n c] w (fun e w' => e = .returned (three (dec l)) ∧ Below w.heap.size w w') := rgetInt_any A l n c w hn hc hc2 hr
  unfold lenD
  subst hn
  generalize dec l = r at hd C ⊢
  obtain ⟨x, u, er⟩ := r
  simp only [three] at C
  simp only at hd
  have H := Lib.hid C
  obtain ⟨h1, h2, h3, h4, h5, h6⟩ := hd
  clear C
  by_cases h7 : er = 0
  · have he : ((er : Int) != 0) = false := by simp [h7]
    by_cases h8 : x < 0
    · have hx : decide (x < 0) = true := by simp [h8]
      go_enter Try.func40, Try.ntmps40
      go_wp2_with fail
      refine H.out.mono ?_
      rintro e w1 ⟨rfl, hB⟩
      go_wp2
      go_ret3
      exact below_same hB (lenE_form h7 h8) rfl
    · have hx : decide (x < 0) = false := by simp; omega
      obtain ⟨X, rfl⟩ : ∃ X : Nat, x = (X : Int) := ⟨x.toNat, by omega⟩
      have hx0 : 0 ≤ (X : Int) := by omega
      by_cases h9 : l.length < X
      · have hL : decide ((l.length : Int) < (X : Int)) = true := by simp; omega
        have hm : (((l.length - u) / wd : Nat) : Int) < (X : Int) := by
          have := Nat.div_le_self (l.length - u) wd
          omega
        go_enter Try.func40, Try.ntmps40
        go_wp2_with fail
        refine H.out.mono ?_
        rintro e w1 ⟨rfl, hB⟩
        go_wp2
        all_goals go_ret3
        all_goals exact below_same hB (lenE_more h7 hx0 hm) rfl
      · have hL : decide ((l.length : Int) < (X : Int)) = false := by simp; omega
        have hb : X * wd ≤ 2251799813685248 := by
          have := Nat.mul_le_mul (Nat.le_of_not_lt h9) hw2
          omega
        have hp : (X : Int) * (wd : Int) = ((X * wd : Nat) : Int) := by simp
        have hq : (l.length - u) / wd < X ↔ l.length - u < X * wd := Nat.div_lt_iff_lt_mul (by omega)
        generalize X * wd = p at hb hp hq
        have hw : IntKind.i64.wrap ((X : Int) * (wd : Int)) = (p : Int) := by rw [hp]; simp [IntKind.wrap, IntKind.signed, IntKind.bits]; omega
        have hw' : wrap64 ((X : Int) * (wd : Int)) = (p : Int) := by rw [hp]; unfold wrap64; omega
        by_cases h10 : (l.length - u) / wd < X
        · have hm : (((l.length - u) / wd : Nat) : Int) < (X : Int) := by omega
          have hlt := hq.1 h10
          have hd2 : decide ((l.length : Int) - (u : Int) < (p : Int)) = true := by simp; omega
          clear hq
          go_enter Try.func40, Try.ntmps40
          go_wp2_with fail
          refine H.out.mono ?_
          rintro e w1 ⟨rfl, hB⟩
          go_wp2
          all_goals go_ret3
          all_goals first | (exfalso; omega) | exact below_same hB (lenE_more h7 hx0 hm) rfl
        · have hm : ¬ (((l.length - u) / wd : Nat) : Int) < (X : Int) := by omega
          have hlt := mt hq.2 h10
          have hd2 : decide ((l.length : Int) - (u : Int) < (p : Int)) = false := by simp; omega
          clear hq
          go_enter Try.func40, Try.ntmps40
          go_wp2_with fail
          refine H.out.mono ?_
          rintro e w1 ⟨rfl, hB⟩
          go_wp2
          all_goals go_ret3
          all_goals first | (exfalso; omega) | exact below_same hB (lenE_ok h7 hx0 (by omega)) rfl
  · have he : ((er : Int) != 0) = true := by simp [h7]
    go_enter Try.func40, Try.ntmps40
    go_wp2_with fail
    refine H.out.mono ?_
    rintro e w1 ⟨rfl, hB⟩
    go_wp2
    go_ret3
    exact below_same hB (lenE_err h7) rfl

end Go.Proofs.Ytpglfjfgnmaipaa
