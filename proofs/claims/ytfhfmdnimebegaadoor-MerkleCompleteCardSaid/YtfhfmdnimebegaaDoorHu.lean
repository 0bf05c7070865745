/-
  hash.Sum returns the hash of the bytes.
-/
import Derived.Test.YtfhfmdnimebegaaDoorHq
import Derived.Deep.RegionWith
namespace Go.Proofs.YtfhfmdnimebegaaDoor
open Go.RowKit
set_option linter.unusedVariables false
set_option linter.unusedSimpArgs false

theorem sha_length (m : List Nat) : (sha m).length = 32 := outB_length _
theorem sha_byte (m : List Nat) : ∀ y ∈ sha m, y < 256 := outB_byte _
theorem conv_none (c : Nat) (w : World) : (convert 39 9 (.slice none 0 c)).run Tryd.prog w = .ok (.string (strOf [])) w := by kernel_rfl
theorem conv_any (A : Option Addr) (l : List Nat) (n c : Nat) (w : World) (hn : n = l.length) (hr : Has w A l) : (convert 39 9 (.slice A n c)).run Tryd.prog w = .ok (.string (strOf l)) w := by
  subst hn
  cases A with
  | some ad => exact conv_cells w ad c l hr.2 hr.cells
  | none =>
    have : l = [] := by
      rcases Nat.eq_zero_or_pos l.length with h | h
      · exact List.eq_nil_of_length_eq_zero h
      · obtain ⟨_, ad, e, _⟩ := hr.at 0 l[0] (List.getElem?_eq_getElem h)
        cases e
    subst this
    exact conv_none c w

end Go.Proofs.YtfhfmdnimebegaaDoor
