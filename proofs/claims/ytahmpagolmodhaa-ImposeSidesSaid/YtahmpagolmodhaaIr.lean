/-
  The two sides of a sheet: plain mathematics. No program is named here.
-/
import Derived.Test.YtahmpagolmodhaaIq
namespace Go.Proofs.Ytahmpagolmodhaa

/-- Numbers of one leaf follow each other, or one is empty. -/
def nextT (a b : Int) : Bool := decide (a = 0) || decide (b = 0) || decide (a + 1 = b) || decide (b + 1 = a)
theorem nextT_iff {a b : Int} : nextT a b = true ↔ a = 0 ∨ b = 0 ∨ a + 1 = b ∨ b + 1 = a := by
  unfold nextT
  simp only [Bool.or_eq_true, decide_eq_true_eq]
  constructor
  · rintro (((h | h) | h) | h)
    · exact Or.inl h
    · exact Or.inr (Or.inl h)
    · exact Or.inr (Or.inr (Or.inl h))
    · exact Or.inr (Or.inr (Or.inr h))
  · rintro (h | h | h | h)
    · exact Or.inl (Or.inl (Or.inl h))
    · exact Or.inl (Or.inl (Or.inr h))
    · exact Or.inl (Or.inr h)
    · exact Or.inr h
theorem numT_or (p n : Nat) : (n ≤ p ∧ numT p n = n) ∨ (p < n ∧ numT p n = 0) := by unfold numT; split <;> omega
/-- What the sides of a sheet say. -/
theorem sides {p h k : Nat} (h1 : 1 ≤ h) (h8 : h ≤ 8) (hk : k < qnT p h * h) :
    (∀ x ∈ four (shT p h k), 0 ≤ x ∧ x ≤ (p : Int)) ∧ nextT (shT p h k).fa (shT p h k).bb = true ∧ nextT (shT p h k).fb (shT p h k).ba = true ∧
    ((shT p h k).fa > 0 → (shT p h k).fb > 0 → (shT p h k).ba > 0 → (shT p h k).bb > 0 → (shT p h k).fa + (shT p h k).fb = (shT p h k).ba + (shT p h k).bb) ∧
    ((shT p h k).fb > 0 → (shT p h k).fb = 2 * (lfA h k : Nat) - 1) ∧ ((shT p h k).bb > 0 → (shT p h k).bb = 2 * (lfB h k : Nat) - 1) := by
  have hl := lf_all h h1 h8 k (qnT p h) hk
  have a1 := hl.1
  have a2 := hl.2.1
  clear hl
  unfold four shT
  simp only [nextT_iff]
  generalize lfA h k = a at *
  generalize lfB h k = b at *
  have n1 := numT_or p (2 * b)
  have n2 := numT_or p (2 * a - 1)
  have n3 := numT_or p (2 * a)
  have n4 := numT_or p (2 * b - 1)
  generalize numT p (2 * b) = x1 at *
  generalize numT p (2 * a - 1) = x2 at *
  generalize numT p (2 * a) = x3 at *
  generalize numT p (2 * b - 1) = x4 at *
  refine ⟨?_, ?_, ?_, ?_, ?_, ?_⟩
  · intro x hx
    simp only [List.mem_cons, List.not_mem_nil, or_false] at hx
    rcases hx with rfl | rfl | rfl | rfl <;> omega
  all_goals omega
end Go.Proofs.Ytahmpagolmodhaa
