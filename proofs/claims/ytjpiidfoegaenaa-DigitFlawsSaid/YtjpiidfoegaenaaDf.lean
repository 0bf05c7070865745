/-
  The slips of a scheme in their order: plain mathematics. No program is named here.
-/
import Derived.Test.YtjpiidfoegaenaaDa
namespace Go.Proofs.Ytjpiidfoegaenaa

/-- A slip. -/
structure Fl where
  at_ : Int
  other : Int
  old : Int
  new : Int
deriving DecidableEq
/-- A weight. -/
def wAt (l : List Int) (i : Nat) : Int := (l[i]?).getD 0
/-- The k-th slip, where m1 + 1 is the modulus; what it adds to the sum. -/
def slF (m1 k : Nat) : Fl := if k % (2 * m1) < m1 then ⟨(k / (2 * m1) : Nat), -1, 0, (k % (2 * m1) + 1 : Nat)⟩ else ⟨(k / (2 * m1) : Nat), (k / (2 * m1) + 1 : Nat), 0, (k % (2 * m1) - m1 + 1 : Nat)⟩
def slC (l : List Int) (m1 k : Nat) : Int := if k % (2 * m1) < m1 then wAt l (k / (2 * m1)) * ((k % (2 * m1) + 1 : Nat) : Int) else (wAt l (k / (2 * m1)) - wAt l (k / (2 * m1) + 1)) * ((k % (2 * m1) - m1 + 1 : Nat) : Int)
/-- How many slips there are. -/
def slN (n m1 : Nat) : Nat := n * (2 * m1) - m1
def slU (l : List Int) (m1 k : Nat) : List (Fl × Int) := (List.range k).map fun j => (slF m1 j, slC l m1 j)
theorem slU_len (l : List Int) (m1 k : Nat) : (slU l m1 k).length = k := by unfold slU; simp
theorem slU_snoc (l : List Int) (m1 k : Nat) : slU l m1 (k + 1) = slU l m1 k ++ [(slF m1 k, slC l m1 k)] := by unfold slU; rw [List.range_succ, List.map_append, List.map_singleton]
theorem sl_div {m1 i r : Nat} (hr : r < 2 * m1) : (i * (2 * m1) + r) / (2 * m1) = i ∧ (i * (2 * m1) + r) % (2 * m1) = r := by
  have h0 : 0 < 2 * m1 := by omega
  rw [Nat.mul_comm i]
  exact ⟨by rw [Nat.mul_add_div h0, Nat.div_eq_of_lt hr, Nat.add_zero], by rw [Nat.mul_add_mod, Nat.mod_eq_of_lt hr]⟩
theorem sl_one {l : List Int} {m1 i d : Nat} (hd : d < m1) : slF m1 (i * (2 * m1) + d) = ⟨(i : Nat), -1, 0, ((d + 1 : Nat) : Int)⟩ ∧ slC l m1 (i * (2 * m1) + d) = wAt l i * ((d + 1 : Nat) : Int) := by
  obtain ⟨e1, e2⟩ := sl_div (m1 := m1) (i := i) (r := d) (by omega)
  unfold slF slC
  rw [e1, e2, if_pos hd, if_pos hd]
  exact ⟨rfl, rfl⟩
theorem sl_two {l : List Int} {m1 i d : Nat} (hd : d < m1) : slF m1 (i * (2 * m1) + m1 + d) = ⟨(i : Nat), ((i + 1 : Nat) : Int), 0, ((d + 1 : Nat) : Int)⟩ ∧ slC l m1 (i * (2 * m1) + m1 + d) = (wAt l i - wAt l (i + 1)) * ((d + 1 : Nat) : Int) := by
  obtain ⟨e1, e2⟩ := sl_div (m1 := m1) (i := i) (r := m1 + d) (by omega)
  unfold slF slC
  rw [Nat.add_assoc, e1, e2, if_neg (by omega), if_neg (by omega), show m1 + d - m1 + 1 = d + 1 by omega]
  exact ⟨rfl, rfl⟩
/-- The first slip that is not found. -/
def weakK (l : List Int) (m1 : Nat) : Option Nat := (List.range (slN l.length m1)).find? fun k => decide (slC l m1 k % ((m1 : Int) + 1) = 0)
def flZ : Fl := ⟨0, 0, 0, 0⟩
/-- What Weak answers. -/
def weakF (l : List Int) (m : Int) : Fl := if schE l m ≠ 0 then flZ else match weakK l (m.toNat - 1) with
  | some k => slF (m.toNat - 1) k
  | none => flZ
def weakB (l : List Int) (m : Int) : Bool := if schE l m ≠ 0 then false else (weakK l (m.toNat - 1)).isSome
/-- None of the first k slips is lost. -/
def Clean (l : List Int) (m1 k : Nat) : Prop := ∀ j, j < k → slC l m1 j % ((m1 : Int) + 1) ≠ 0
theorem clean_step {l : List Int} {m1 k : Nat} (h : Clean l m1 k) (hk : slC l m1 k % ((m1 : Int) + 1) ≠ 0) : Clean l m1 (k + 1) := fun j hj => by
  rcases Nat.lt_or_ge j k with h1 | h1
  · exact h j h1
  · obtain rfl : j = k := by omega
    exact hk
theorem find_first {p : Nat → Bool} : ∀ {n k : Nat}, k < n → p k = true → (∀ j, j < k → p j = false) → (List.range n).find? p = some k := by
  intro n k hk hp hn
  rw [List.find?_eq_some_iff_append]
  refine ⟨hp, List.range k, (List.range (n - k - 1)).map (k + 1 + ·), ?_, fun a ha => by rw [hn a (List.mem_range.1 ha)]; rfl⟩
  have e : n = k + (1 + (n - k - 1)) := by omega
  conv => lhs; rw [e]
  rw [List.range_add, List.range_add, List.map_append, List.map_map]
  rw [show List.range 1 = [0] from rfl, List.map_singleton, Nat.add_zero]
  congr 1
  show k :: _ = k :: _
  congr 1
  refine List.map_congr_left fun x _ => ?_
  show k + (1 + x) = k + 1 + x
  omega
theorem weak_yes {l : List Int} {m1 k : Nat} (h : Clean l m1 k) (hk : k < slN l.length m1) (hz : slC l m1 k % ((m1 : Int) + 1) = 0) : weakK l m1 = some k :=
  find_first hk (decide_eq_true hz) fun j hj => decide_eq_false (h j hj)
theorem weak_no {l : List Int} {m1 : Nat} (h : Clean l m1 (slN l.length m1)) : weakK l m1 = none := by
  unfold weakK
  rw [List.find?_eq_none]
  intro x hx
  simpa using h x (List.mem_range.1 hx)
end Go.Proofs.Ytjpiidfoegaenaa
