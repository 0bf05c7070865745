/-
  Check, in plain mathematics: what both Checks answer.
-/
import Derived.Test.YtacdjchkilheiaaBe
namespace Go.Proofs.Ytacdjchkilheiaa
set_option linter.unusedVariables false
set_option linter.unusedSimpArgs false

/-- p holds at the f places from k on. -/
def allF (p : Nat → Bool) : Nat → Nat → Bool
  | 0, _ => true
  | f + 1, k => p k && allF p f (k + 1)
theorem allF_iff {p : Nat → Bool} : ∀ {f k : Nat}, allF p f k = true ↔ ∀ j, k ≤ j → j < k + f → p j = true
  | 0, k => ⟨fun _ j h1 h2 => absurd h2 (by omega), fun _ => rfl⟩
  | f + 1, k => by
    show (p k && allF p f (k + 1)) = true ↔ _
    rw [Bool.and_eq_true, allF_iff]
    constructor
    · intro ⟨h0, h⟩ j h1 h2
      rcases Nat.eq_or_lt_of_le h1 with e | e
      · rw [← e]; exact h0
      · exact h j e (by omega)
    · intro h
      exact ⟨h k (Nat.le_refl _) (by omega), fun j h1 h2 => h j (by omega) (by omega)⟩
/-- The numbers at a place are no numbers of a certificate. -/
def inT (L C : List Int) (k : Nat) : Bool := decide (0 ≤ L.getD k 0) && (decide (L.getD k 0 ≤ 256) && (decide (0 ≤ C.getD k 0) && decide (C.getD k 0 ≤ 4294967296)))
/-- No line from i, that ends at j or behind, is better than what the lists say. -/
def rowF (fr pr : Nat → Int) (L C : List Int) (i n : Nat) : Nat → Nat → Bool
  | 0, _ => true
  | f + 1, j => if j ≤ n ∧ 0 ≤ fr j then !better (L.getD j 0 + 1) (C.getD j 0 + pr j) (L.getD i 0) (C.getD i 0) && rowF fr pr L C i n f (j + 1) else true
def rowT (l : List Int) (bl wd : Int) (L C : List Int) (i : Nat) : Bool := rowF (frT l bl wd i) (prT l bl wd i) L C i l.length (l.length - i) (i + 1)
def shapeT (n : Nat) (L C : List Int) : Bool := decide (L.length = n + 1) && decide (C.length = n + 1)
/-- The lists prove that no division is better. -/
def showT (l : List Int) (bl wd : Int) (L C : List Int) : Bool :=
  shapeT l.length L C && (allF (inT L C) (l.length + 1) 0 && (allF (rowT l bl wd L C) l.length 0 && (decide (L.getD l.length 0 = 0) && decide (C.getD l.length 0 = 0))))
def okT (l : List Int) (bl wd : Int) (E L C : List Int) : Bool :=
  decide ((measT l bl wd E).2.2 = 0) && (showT l bl wd L C && (decide (L.getD 0 0 = (measT l bl wd E).1) && decide (C.getD 0 0 = (measT l bl wd E).2.1)))
def chkT (l : List Int) (bl wd : Int) (E L C : List Int) : Int := if errT l bl wd = 0 then (if okT l bl wd E L C = true then 0 else 17) else errT l bl wd
theorem chk_lives : chkT [3, 2, 2, 5] 1 6 [1, 3, 4] [3, 2, 2, 1, 0] [10, 1, 16, 0, 0] = 0 := by decide +kernel
end Go.Proofs.Ytacdjchkilheiaa
