/-
  Plain mathematics: the tree of digests over leaves (layer 4).
-/
import Derived.Test.YtfhfmdnimebegaaDoorSl
import Derived.Test.YtfhfmdnimebegaaDoorMh
namespace Go.Proofs.YtfhfmdnimebegaaDoor
set_option linter.unusedVariables false
set_option linter.unusedSimpArgs false

abbrev Lf := ByteArray × ByteArray
def leafD (x : Lf) : List Nat := ofS 3 [sb x.1, sb x.2]
/-- The digest of a row of leaves; f bounds the calls still to come. -/
def rowF : Nat → List Lf → List Nat
  | 0, _ => []
  | f + 1, l => match l with
    | [] => []
    | [x] => leafD x
    | x :: y :: r => joinM (rowF f ((x :: y :: r).take (half (r.length + 2)))) (rowF f ((x :: y :: r).drop (half (r.length + 2))))
theorem rowF_big (f : Nat) (l : List Lf) (h : 2 ≤ l.length) : rowF (f + 1) l = joinM (rowF f (l.take (half l.length))) (rowF f (l.drop (half l.length))) := by
  match l, h with
  | x :: y :: r, _ => rfl
theorem rowF_enough : ∀ (f g : Nat) (l : List Lf), l.length ≤ f → l.length ≤ g → rowF f l = rowF g l
  | 0, 0, l, _, _ => rfl
  | 0, g + 1, l, h, _ => by
    obtain rfl : l = [] := List.eq_nil_of_length_eq_zero (by omega)
    rfl
  | f + 1, 0, l, _, h => by
    obtain rfl : l = [] := List.eq_nil_of_length_eq_zero (by omega)
    rfl
  | f + 1, g + 1, l, hf, hg => by
    match l, hf, hg with
    | [], _, _ => rfl
    | [x], _, _ => rfl
    | x :: y :: r, hf, hg =>
      have h1 := half_lt (x :: y :: r).length (by simp)
      have h2 := half_pos (x :: y :: r).length
      rw [rowF_big f _ (by simp), rowF_big g _ (by simp)]
      rw [rowF_enough f g _ (by rw [List.length_take]; omega) (by rw [List.length_take]; omega), rowF_enough f g _ (by rw [List.length_drop]; omega) (by rw [List.length_drop]; omega)]
def rowM (l : List Lf) : List Nat := rowF l.length l
theorem rowM_one (x : Lf) : rowM [x] = leafD x := rfl
theorem rowM_big (l : List Lf) (h : 2 ≤ l.length) : rowM l = joinM (rowM (l.take (half l.length))) (rowM (l.drop (half l.length))) := by
  have h1 := half_lt l.length h
  have h2 := half_pos l.length
  obtain ⟨f, hf⟩ : ∃ f, l.length = f + 1 := ⟨l.length - 1, by omega⟩
  unfold rowM
  conv => lhs; rw [hf]
  rw [rowF_big f l h]
  rw [rowF_enough f (l.take (half l.length)).length _ (by rw [List.length_take]; omega) (Nat.le_refl _), rowF_enough f (l.drop (half l.length)).length _ (by rw [List.length_drop]; omega) (Nat.le_refl _)]
theorem rowM_dgt : ∀ (n : Nat) (l : List Lf), l.length ≤ n → 1 ≤ l.length → (rowM l).length = 16 ∧ ∀ y ∈ rowM l, y < 256
  | 0, l, h, h1 => by omega
  | n + 1, l, h, h1 => by
    rcases Nat.lt_or_ge l.length 2 with h2 | h2
    · obtain ⟨x, rfl⟩ : ∃ x, l = [x] := List.length_eq_one_iff.1 (by omega)
      exact ⟨ofS_length _ _, ofS_byte _ _⟩
    · rw [rowM_big l h2]
      exact ⟨ofS_length _ _, ofS_byte _ _⟩
/-- The root for a number of leaves and the digest of all. -/
def topM (n : Nat) (all : List Nat) (e0 en : List Nat) : List Nat := if n = 0 then ofS 4 [e0] else ofS 4 [en, all]
end Go.Proofs.YtfhfmdnimebegaaDoor
