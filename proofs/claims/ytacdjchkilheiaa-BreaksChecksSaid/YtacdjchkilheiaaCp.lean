/-
  Fill of the reference: all its answers.
-/
import Derived.Test.YtacdjchkilheiaaCo
namespace Go.Proofs.Ytacdjchkilheiaa
open Go.RowKit
set_option linter.unusedVariables false
set_option linter.unusedSimpArgs false

theorem rfill_any (A : Option Addr) (l : List Int) (n c : Nat) (hl : l.length = n) (hn9 : n ≤ 1000000000000) (bl wd : Int) (w : World) (hA : IntsAt w A l) :
    Calls Try.prog 11 #[.slice A n c, .int .i64 bl, .int .i64 wd] w (CertR 32 (fillA l bl wd).1 (fillA l bl wd).2.1 (fillA l bl wd).2.2.1 (fillA l bl wd).2.2.2 w) := by
  by_cases he : errT l bl wd = 0
  · rcases hz : wideT l wd with _ | _
    · have e : fillA l bl wd = (endsT (fillT l bl wd).2.2 n n 0, (fillT l bl wd).1, (fillT l bl wd).2.1, 0) := by unfold fillA; rw [if_pos he, if_neg (by rw [hz]; simp), hl]
      rw [e]
      exact rfill_good A l n c hl bl wd he hz w hA
    · have e : fillA l bl wd = ([], [], [], 21) := by unfold fillA; rw [if_pos he, if_pos hz]
      rw [e]
      exact rfill_wide A l n c hl hn9 bl wd he hz w hA
  · have e : fillA l bl wd = ([], [], [], errT l bl wd) := by unfold fillA; rw [if_neg he]
    rw [e]
    exact rfill_bad A l n c hl hn9 bl wd he w hA
end Go.Proofs.Ytacdjchkilheiaa
