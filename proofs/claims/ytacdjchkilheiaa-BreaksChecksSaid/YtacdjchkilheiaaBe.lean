/-
  What the division with given ends costs.
-/
import Derived.Test.YtacdjchkilheiaaBm
namespace Go.Proofs.Ytacdjchkilheiaa

/-- Ends that do not increase, or do not lead to the end. -/
def badE (n : Int) : Int → List Int → Bool
  | last, [] => decide (last ≠ n)
  | last, e :: r => decide (e ≤ last) || badE n e r
/-- The cost from a place on, and the error. -/
def measE (l : List Int) (bl wd : Int) : Int → Nat → List Int → Int × Int
  | c, _, [] => (c, 0)
  | c, f, e :: r => if frT l bl wd f e.toNat < 0 then (0, 21) else measE l bl wd (c + prT l bl wd f e.toNat) e.toNat r
def measT (l : List Int) (bl wd : Int) (ends : List Int) : Int × Int × Int :=
  if badE (l.length : Int) 0 ends = true then (0, 0, 5)
  else if (measE l bl wd 0 0 ends).2 = 0 then ((ends.length : Int), (measE l bl wd 0 0 ends).1, 0) else (0, 0, 21)
theorem badE_le {n : Int} : ∀ {r : List Int} {last : Int}, badE n last r = false → last ≤ n
  | [], last, h => by
    unfold badE at h
    rw [decide_eq_false_iff_not] at h
    omega
  | e :: r, last, h => by
    unfold badE at h
    rw [Bool.or_eq_false_iff, decide_eq_false_iff_not] at h
    have := badE_le h.2
    omega
theorem badE_cons {n last e : Int} {r : List Int} (h : badE n last (e :: r) = false) : last < e ∧ e ≤ n ∧ badE n e r = false := by
  unfold badE at h
  rw [Bool.or_eq_false_iff, decide_eq_false_iff_not] at h
  exact ⟨by omega, badE_le h.2, h.2⟩
theorem drop_at {α : Type} {l : List α} {k : Nat} {x : α} (h : l[k]? = some x) : l.drop k = x :: l.drop (k + 1) := by
  obtain ⟨hk, e⟩ := List.getElem?_eq_some_iff.1 h
  rw [List.drop_eq_getElem_cons hk, e]
theorem measE_err {l : List Int} {bl wd : Int} : ∀ {r : List Int} {c : Int} {f : Nat}, (measE l bl wd c f r).2 = 0 ∨ measE l bl wd c f r = (0, 21)
  | [], c, f => Or.inl rfl
  | e :: r, c, f => by
    unfold measE
    split
    · exact Or.inr rfl
    · exact measE_err
end Go.Proofs.Ytacdjchkilheiaa
