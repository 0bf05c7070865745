/-
  Bytes of a string; letters, digits and classes.
-/
import Derived.Test.YtehkgpefmjfifaaKm
import Derived.Test.YtehkgpefmjfifaaHb
import Derived.Lib.Hide
namespace Go.Proofs.Ytehkgpefmjfifaa
open Go.RowKit
set_option linter.unusedVariables false
set_option linter.unusedSimpArgs false

theorem isL_yes {c : Nat} (h : (97 ≤ c ∧ c ≤ 122) ∨ (65 ≤ c ∧ c ≤ 90)) : isL c = true := by unfold isL; simpa using h
theorem isL_no {c : Nat} (h : ¬ ((97 ≤ c ∧ c ≤ 122) ∨ (65 ≤ c ∧ c ≤ 90))) : isL c = false := by
  unfold isL
  rcases hb : (decide (97 ≤ c) && decide (c ≤ 122) || decide (65 ≤ c) && decide (c ≤ 90)) with _ | _
  · rfl
  · exact absurd (by simpa using hb) h
theorem isD_yes {c : Nat} (h : 48 ≤ c ∧ c ≤ 57) : isD c = true := by unfold isD; simpa using h
theorem isD_no {c : Nat} (h : ¬ (48 ≤ c ∧ c ≤ 57)) : isD c = false := by
  unfold isD
  rcases hb : (decide (48 ≤ c) && decide (c ≤ 57)) with _ | _
  · rfl
  · exact absurd (by simpa using hb) h
set_option maxHeartbeats 1000000 in
theorem letter_any (c : Nat) (hc : c < 256) (w : World) :
    Calls Try.prog 55 #[.int .u8 (c : Int)] w fun e w' => e = .returned (.bool (isL c)) ∧ w' = w := by
  have key : (97 ≤ c ∧ c ≤ 122) ∨ (97 ≤ c ∧ 122 < c) ∨ (c < 65) ∨ (65 ≤ c ∧ c ≤ 90) ∨ (90 < c ∧ c < 97) := by omega
  rcases key with h | h | h | h | h
  · rw [isL_yes (by omega)]
    go_enter Try.func55, Try.ntmps55
    go_wp2
    go_ret
    first | exact ⟨rfl, rfl⟩ | (refine ⟨?_, rfl⟩; simp; done) | (refine ⟨?_, rfl⟩; simp; omega)
  · rw [isL_no (by omega)]
    go_enter Try.func55, Try.ntmps55
    have h3 : ¬ c ≤ 90 := by omega
    go_wp2
    go_ret
    first | exact ⟨rfl, rfl⟩ | (refine ⟨?_, rfl⟩; simp; done) | (refine ⟨?_, rfl⟩; simp; omega)
  · rw [isL_no (by omega)]
    go_enter Try.func55, Try.ntmps55
    have h3 : ¬ 97 ≤ c := by omega
    go_wp2
    go_ret
    first | exact ⟨rfl, rfl⟩ | (refine ⟨?_, rfl⟩; simp; done) | (refine ⟨?_, rfl⟩; simp; omega)
  · rw [isL_yes (by omega)]
    go_enter Try.func55, Try.ntmps55
    have h3 : ¬ 97 ≤ c := by omega
    go_wp2
    go_ret
    first | exact ⟨rfl, rfl⟩ | (refine ⟨?_, rfl⟩; simp; done) | (refine ⟨?_, rfl⟩; simp; omega)
  · rw [isL_no (by omega)]
    go_enter Try.func55, Try.ntmps55
    have h3 : ¬ 97 ≤ c := by omega
    go_wp2
    go_ret
    first | exact ⟨rfl, rfl⟩ | (refine ⟨?_, rfl⟩; simp; done) | (refine ⟨?_, rfl⟩; simp; omega)
set_option maxHeartbeats 1000000 in
theorem digit_any (c : Nat) (hc : c < 256) (w : World) :
    Calls Try.prog 56 #[.int .u8 (c : Int)] w fun e w' => e = .returned (.bool (isD c)) ∧ w' = w := by
  have key : (48 ≤ c ∧ c ≤ 57) ∨ (48 ≤ c ∧ 57 < c) ∨ (c < 48) := by omega
  rcases key with h | h | h
  · rw [isD_yes (by omega)]
    go_enter Try.func56, Try.ntmps56
    go_wp2
    go_ret
    first | exact ⟨rfl, rfl⟩ | (refine ⟨?_, rfl⟩; simp; done) | (refine ⟨?_, rfl⟩; simp; omega)
  · rw [isD_no (by omega)]
    go_enter Try.func56, Try.ntmps56
    go_wp2
    go_ret
    first | exact ⟨rfl, rfl⟩ | (refine ⟨?_, rfl⟩; simp; done) | (refine ⟨?_, rfl⟩; simp; omega)
  · rw [isD_no (by omega)]
    go_enter Try.func56, Try.ntmps56
    go_wp2
    go_ret
    first | exact ⟨rfl, rfl⟩ | (refine ⟨?_, rfl⟩; simp; done) | (refine ⟨?_, rfl⟩; simp; omega)
theorem kd_letter {c : Nat} (h : (97 ≤ c ∧ c ≤ 122) ∨ (65 ≤ c ∧ c ≤ 90)) : kd c = 0 := by
  unfold kd
  rw [if_neg (show ¬ c = 32 by omega), isL_yes h]
  rfl
theorem kd_digit {c : Nat} (h : 48 ≤ c ∧ c ≤ 57) : kd c = 1 := by
  unfold kd
  rw [if_neg (show ¬ c = 32 by omega), isL_no (by omega), isD_yes h]
  rfl
theorem kd_other {c : Nat} (h1 : c ≠ 32) (h2 : ¬ ((97 ≤ c ∧ c ≤ 122) ∨ (65 ≤ c ∧ c ≤ 90))) (h3 : ¬ (48 ≤ c ∧ c ≤ 57)) (h4 : c ≠ 64) : kd c = 2 := by
  unfold kd
  rw [if_neg h1, isL_no h2, isD_no h3, if_neg (by simp), if_neg (by simp), if_neg h4]
theorem kd_four {c : Nat} : kd c = 4 ↔ c = 32 := by
  unfold kd
  split
  · simp [*]
  · rename_i h
    constructor
    · intro g
      split at g
      · cases g
      · split at g
        · cases g
        · split at g <;> cases g
    · intro g; exact absurd g h
/-- What class answers. -/
def clsI (c : Nat) : Int := if kd c = 4 then -1 else (kd c : Int)
theorem clsI_of {c k : Nat} (hk : kd c = k) (h4 : k ≠ 4) : clsI c = (k : Int) := by
  unfold clsI
  rw [hk, if_neg h4]
set_option maxHeartbeats 2000000 in
theorem class_any (c : Nat) (hc : c < 256) (w : World) :
    Calls Try.prog 45 #[.int .u8 (c : Int)] w fun e w' => e = .returned (.int .i64 (clsI c)) ∧ w' = w := by
  have key : c = 32 ∨ (97 ≤ c ∧ c ≤ 122) ∨ (65 ≤ c ∧ c ≤ 90) ∨ (48 ≤ c ∧ c ≤ 57) ∨ c = 64 ∨ (c ≠ 32 ∧ ¬ ((97 ≤ c ∧ c ≤ 122) ∨ (65 ≤ c ∧ c ≤ 90)) ∧ ¬ (48 ≤ c ∧ c ≤ 57) ∧ c ≠ 64) := by omega
  rcases key with h | h | h | h | h | ⟨h1, h2, h3, h4⟩
  · subst h
    rw [show clsI 32 = -1 from by decide]
    go_enter Try.func45, Try.ntmps45
    go_wp2
    go_ret
    first | exact ⟨rfl, rfl⟩ | (refine ⟨?_, rfl⟩; simp; done) | (refine ⟨?_, rfl⟩; simp; omega)
  · rw [clsI_of (kd_letter (Or.inl h)) (by omega)]
    have hb : ((c : Int) == 32) = false := by simp; omega
    go_enter Try.func45, Try.ntmps45
    go_wp2
    go_ret
    first | exact ⟨rfl, rfl⟩ | (refine ⟨?_, rfl⟩; simp; done) | (refine ⟨?_, rfl⟩; simp; omega)
  · rw [clsI_of (kd_letter (Or.inr h)) (by omega)]
    have hb : ((c : Int) == 32) = false := by simp; omega
    have h3 : ¬ 97 ≤ c := by omega
    go_enter Try.func45, Try.ntmps45
    go_wp2
    go_ret
    first | exact ⟨rfl, rfl⟩ | (refine ⟨?_, rfl⟩; simp; done) | (refine ⟨?_, rfl⟩; simp; omega)
  · rw [clsI_of (kd_digit h) (by omega)]
    have hb : ((c : Int) == 32) = false := by simp; omega
    have h3 : ¬ 97 ≤ c := by omega
    have h4 : ¬ 65 ≤ c := by omega
    go_enter Try.func45, Try.ntmps45
    go_wp2
    go_ret
    first | exact ⟨rfl, rfl⟩ | (refine ⟨?_, rfl⟩; simp; done) | (refine ⟨?_, rfl⟩; simp; omega)
  · subst h
    rw [show clsI 64 = 3 from by decide]
    go_enter Try.func45, Try.ntmps45
    go_wp2
    go_ret
    first | exact ⟨rfl, rfl⟩ | (refine ⟨?_, rfl⟩; simp; done) | (refine ⟨?_, rfl⟩; simp; omega)
  · rw [clsI_of (kd_other h1 h2 h3 h4) (by omega)]
    have hb : ((c : Int) == 32) = false := by simp; omega
    have hb2 : ((c : Int) == 64) = false := by simp; omega
    have k1 : (97 ≤ c ∧ ¬ c ≤ 122) ∨ (¬ 97 ≤ c ∧ 65 ≤ c ∧ ¬ c ≤ 90) ∨ (¬ 97 ≤ c ∧ ¬ 65 ≤ c ∧ 48 ≤ c ∧ ¬ c ≤ 57) ∨ (¬ 97 ≤ c ∧ ¬ 65 ≤ c ∧ ¬ 48 ≤ c) := by omega
    clear h1 h2 h3 h4
    rcases k1 with ⟨g1, g2⟩ | ⟨g1, g2, g3⟩ | ⟨g1, g2, g3, g4⟩ | ⟨g1, g2, g3⟩
    · have g5 : ¬ c ≤ 90 := by omega
      have g6 : ¬ c ≤ 57 := by omega
      go_enter Try.func45, Try.ntmps45
      go_wp2
      go_ret
      first | exact ⟨rfl, rfl⟩ | (refine ⟨?_, rfl⟩; simp; done) | (refine ⟨?_, rfl⟩; simp; omega)
    · have g6 : ¬ c ≤ 57 := by omega
      go_enter Try.func45, Try.ntmps45
      go_wp2
      go_ret
      first | exact ⟨rfl, rfl⟩ | (refine ⟨?_, rfl⟩; simp; done) | (refine ⟨?_, rfl⟩; simp; omega)
    · go_enter Try.func45, Try.ntmps45
      go_wp2
      go_ret
      first | exact ⟨rfl, rfl⟩ | (refine ⟨?_, rfl⟩; simp; done) | (refine ⟨?_, rfl⟩; simp; omega)
    · go_enter Try.func45, Try.ntmps45
      go_wp2
      go_ret
      first | exact ⟨rfl, rfl⟩ | (refine ⟨?_, rfl⟩; simp; done) | (refine ⟨?_, rfl⟩; simp; omega)

end Go.Proofs.Ytehkgpefmjfifaa
