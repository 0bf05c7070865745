/-
  wire.length returns, for every byte slice, the number of elements or the error.
-/
import Derived.Test.YtpglfjfgnmaipaaWt
namespace Go.Proofs.Ytpglfjfgnmaipaa
open Go.RowKit

set_option maxHeartbeats 400000 in
theorem length_any (A : Option Addr) (l : List Nat) (n c wd : Nat) (w : World) (hn : n = l.length) (hc : n ≤ c) (hc2 : n ≤ 140737488355328) (hr : Has w A l) (hw1 : 1 ≤ wd) (hw2 : wd ≤ 16) :
    Calls Try.prog 39 #[.slice A n c, .int .i64 wd] w fun e w' => e = .returned (three (lenD l wd)) ∧ w = w' := by
  have hd := dec_ok l
  have C := getInt_any A l n c w hn hc hc2 hr
  unfold lenD
  subst hn
  generalize dec l = r at hd C ⊢
  obtain ⟨x, u, er⟩ := r
  simp only [three] at C hd
  have H := Lib.hid C
  obtain ⟨h1, h2, h3, h4, h5, h6⟩ := hd
  clear C
  by_cases h7 : er = 0
  · have he : ((er : Int) != 0) = false := by simp [h7]
    by_cases h8 : x < 0
    · have hx : decide (x < 0) = true := by simp [h8]
      go_enter Try.func39, Try.ntmps39
      go_wp2_with fail
      refine H.out.mono ?_
      rintro e w1 ⟨rfl, rfl⟩
      go_wp2
      go_ret3
      exact ⟨by rw [lenE_form h7 h8]; simp [three], rfl⟩
    · have hx : decide (x < 0) = false := by simp; omega
      have hx0 : 0 ≤ x := by omega
      by_cases h9 : (((l.length - u) / wd : Nat) : Int) < x
      · have h9' : ((l.length : Int) - u) / wd < x := by rw [← Int.ofNat_sub h3, ← Int.natCast_ediv]; exact h9
        go_enter Try.func39, Try.ntmps39
        go_wp2_with fail
        refine H.out.mono ?_
        rintro e w1 ⟨rfl, rfl⟩
        go_wp2
        all_goals go_ret3
        all_goals first | (exfalso; omega) | exact ⟨by rw [lenE_more h7 hx0 h9]; simp [three], rfl⟩
      · have h9' : x ≤ ((l.length : Int) - u) / wd := by rw [← Int.ofNat_sub h3, ← Int.natCast_ediv]; omega
        go_enter Try.func39, Try.ntmps39
        go_wp2_with fail
        refine H.out.mono ?_
        rintro e w1 ⟨rfl, rfl⟩
        go_wp2
        all_goals go_ret3
        all_goals first | (exfalso; omega) | exact ⟨by rw [lenE_ok h7 hx0 (by omega)]; simp [three], rfl⟩
  · have he : ((er : Int) != 0) = true := by simp [h7]
    go_enter Try.func39, Try.ntmps39
    go_wp2_with fail
    refine H.out.mono ?_
    rintro e w1 ⟨rfl, rfl⟩
    go_wp2
    go_ret3
    exact ⟨by rw [lenE_err h7]; simp [three], rfl⟩

end Go.Proofs.Ytpglfjfgnmaipaa
