/-
  The paragraph: its words, the free width and the cost of a line.
-/
import Derived.Test.YtacdjchkilheiaaBa
namespace Go.Proofs.Ytacdjchkilheiaa
open Go.RowKit
set_option linter.unusedVariables false
set_option linter.unusedSimpArgs false

/-- The sums in memory. -/
def SumsAt (w : World) (b : Nat) (l : List Int) (bl : Int) : Prop := b < w.heap.size ∧ ∀ j, j ≤ l.length → w.cell? ⟨b, j, none⟩ = some (.int .i64 (sumT l bl j))
theorem SumsAt.keep {w w' : World} {b : Nat} {l : List Int} {bl : Int} (h : SumsAt w b l bl) (hb : Below w.heap.size w w') : SumsAt w' b l bl :=
  ⟨Nat.lt_of_lt_of_le h.1 hb.size, fun j hj => (hb.cell (p := ⟨b, j, none⟩) h.1).trans (h.2 j hj)⟩
/-- A paragraph by value. -/
def pgV (b n : Nat) (bl wd : Int) (z : Bool) : Value := .agg #[.slice (some ⟨b, 0, none⟩) (n + 1) (n + 1), .int .i64 bl, .int .i64 wd, .bool z]
/-- The call answers an integer. -/
def IntR (x : Int) (w : World) (e : Ending) (w' : World) : Prop := e = .returned (.int .i64 x) ∧ Below w.heap.size w w'

set_option maxHeartbeats 1000000 in
set_option maxRecDepth 100000 in
theorem proper_any (x : Int) (w : World) : Calls Try.prog 40 #[.int .i64 x] w fun e w' => e = .returned (.bool (prop x)) ∧ w = w' := by
  by_cases h1 : 0 ≤ x
  · by_cases h2 : x ≤ 4096
    · have hp : prop x = true := prop_iff.2 ⟨h1, h2⟩
      have HP := Lib.hid hp
      clear hp
      go_enter Try.func40, Try.ntmps40
      go_wp2
      go_ret
      exact ⟨by rw [HP.out]; rfl, rfl⟩
    · have hp : prop x = false := by rw [Bool.eq_false_iff]; intro h; exact h2 (prop_iff.1 h).2
      have HP := Lib.hid hp
      clear hp
      go_enter Try.func40, Try.ntmps40
      go_wp2
      go_ret
      exact ⟨by rw [HP.out]; rfl, rfl⟩
  · have hp : prop x = false := by rw [Bool.eq_false_iff]; intro h; exact h1 (prop_iff.1 h).1
    have HP := Lib.hid hp
    clear hp
    go_enter Try.func40, Try.ntmps40
    go_wp2
    go_ret
    exact ⟨by rw [HP.out]; rfl, rfl⟩
set_option maxHeartbeats 1000000 in
set_option maxRecDepth 100000 in
theorem pwords_any (b n : Nat) (bl wd : Int) (z : Bool) (hn : n ≤ 100000) (w : World) : Calls Try.prog 31 #[pgV b n bl wd z] w (IntR (n : Int) w) := by
  unfold pgV
  obtain ⟨m, hm⟩ : ∃ m, n + 1 = m := ⟨_, rfl⟩
  rw [hm]
  have hmn : (m : Int) - 1 = (n : Int) := by omega
  have hm9 : m ≤ 100001 := by omega
  have hm1 : 1 ≤ m := by omega
  clear hm
  go_enter Try.func31, Try.ntmps31
  go_wp2
  go_ret
  exact ⟨rfl, (Below.refl _ _).alloc (Nat.le_refl _) _⟩
end Go.Proofs.Ytacdjchkilheiaa
