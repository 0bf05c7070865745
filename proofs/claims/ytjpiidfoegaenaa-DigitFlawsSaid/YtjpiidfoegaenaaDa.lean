/-
  Check characters: plain mathematics. No program is named here.
-/
import Init.Data.List.Lemmas
import Init.Data.Nat.Lemmas
import Init.Omega
namespace Go.Proofs.Ytjpiidfoegaenaa

/-- The characters, in the order of their values. -/
def alph : List Nat := [48, 49, 50, 51, 52, 53, 54, 55, 56, 57, 65, 66, 67, 68, 69, 70, 71, 72, 74, 75, 76, 77, 78, 80, 81, 82, 83, 84, 85, 86, 88]
/-- The value of a character, or -1. -/
def valF : List Nat → Nat → Nat → Int
  | [], _, _ => -1
  | x :: r, i, c => if x = c then (i : Int) else valF r (i + 1) c
def valT (c : Nat) : Int := valF alph 0 c
/-- All numbers are from 0 to m - 1. -/
def belowT (l : List Int) (m : Int) : Bool := l.all fun x => decide (0 ≤ x) && decide (x < m)
/-- The error of a scheme. -/
def schE (l : List Int) (m : Int) : Int := if 256 < l.length then 4 else if m < 2 ∨ 1024 < m ∨ belowT l m = false then 1 else 0
/-- The sum of the products. -/
def dotT : List Int → List Int → Int
  | a :: l, b :: v => a * b + dotT l v
  | _, _ => 0
theorem belowT_mem {l : List Int} {m : Int} (h : belowT l m = true) : ∀ x ∈ l, 0 ≤ x ∧ x < m := by
  intro x hx
  have := List.all_eq_true.1 h x hx
  simpa using this
theorem belowT_of {l : List Int} {m : Int} (h : ∀ x ∈ l, 0 ≤ x ∧ x < m) : belowT l m = true := List.all_eq_true.2 fun x hx => by simpa using h x hx
theorem belowT_no {l : List Int} {m x : Int} (hx : x ∈ l) (h : x < 0 ∨ m ≤ x) : belowT l m = false := by
  rcases hb : belowT l m with _ | _
  · rfl
  · have := belowT_mem hb x hx; omega
theorem prod_in {a b m : Int} (ha : 0 ≤ a ∧ a < m) (hb : 0 ≤ b ∧ b < m) (hm : m ≤ 1024) : 0 ≤ a * b ∧ a * b ≤ 1048576 := by
  refine ⟨Int.mul_nonneg ha.1 hb.1, ?_⟩
  have := Int.mul_le_mul (show a ≤ 1024 by omega) (show b ≤ 1024 by omega) hb.1 (by omega)
  omega
theorem dotT_in {m : Int} (hm : m ≤ 1024) : ∀ {l v : List Int}, belowT l m = true → belowT v m = true → 0 ≤ dotT l v ∧ dotT l v ≤ 1048576 * (l.length : Int)
  | [], v, _, _ => by unfold dotT; simp
  | a :: l, [], _, _ => by unfold dotT; simp; omega
  | a :: l, b :: v, h1, h2 => by
    have p := prod_in (belowT_mem h1 a List.mem_cons_self) (belowT_mem h2 b List.mem_cons_self) hm
    have q := dotT_in hm (l := l) (v := v) (belowT_of fun x hx => belowT_mem h1 x (List.mem_cons_of_mem _ hx)) (belowT_of fun x hx => belowT_mem h2 x (List.mem_cons_of_mem _ hx))
    unfold dotT
    rw [List.length_cons]
    omega
theorem dotT_drop {l v : List Int} {i : Nat} {a b : Int} (ha : l[i]? = some a) (hb : v[i]? = some b) : dotT (l.drop i) (v.drop i) = a * b + dotT (l.drop (i + 1)) (v.drop (i + 1)) := by
  obtain ⟨h1, e1⟩ := List.getElem?_eq_some_iff.1 ha
  obtain ⟨h2, e2⟩ := List.getElem?_eq_some_iff.1 hb
  rw [List.drop_eq_getElem_cons h1, List.drop_eq_getElem_cons h2, e1, e2]
  rfl
/-- What Sum answers. -/
def sumE (l : List Int) (m : Int) (v : List Int) : Int := if schE l m ≠ 0 then schE l m else if v.length ≠ l.length ∨ belowT v m = false then 1 else 0
def sumT (l : List Int) (m : Int) (v : List Int) : Int := if sumE l m v = 0 then dotT l v % m else 0
theorem schE_ok {l : List Int} {m : Int} (h : schE l m = 0) : l.length ≤ 256 ∧ 2 ≤ m ∧ m ≤ 1024 ∧ belowT l m = true := by
  unfold schE at h
  split at h
  · cases h
  · split at h
    · cases h
    · rename_i h1 h2
      simp only [not_or] at h2
      refine ⟨by omega, by omega, by omega, ?_⟩
      rcases hb : belowT l m with _ | _
      · exact absurd hb h2.2.2
      · rfl
end Go.Proofs.Ytjpiidfoegaenaa
