/-
  ImposeCancels, walked: both ways out of its first loop.
-/
import Derived.Test.YtahmpagolmodhaaKd
import Derived.Test.YtahmpagolmodhaaKe
namespace Go.Proofs.Ytahmpagolmodhaa
open Go.RowKit
set_option linter.unusedVariables false
set_option linter.unusedSimpArgs false

theorem imposeCancels_any (n m : Int) (n1 : -9223372036854775808 ≤ n) (n2 : n ≤ 9223372036854775807) (m1 : -9223372036854775808 ≤ m) (m2 : m ≤ 9223372036854775807)
    (A : Option Addr) (l : List Int) (ln lc : Nat) (hl : l.length = ln) (hlc : ln ≤ lc ∧ lc ≤ 9223372036854775807) (hli : ∀ x ∈ l, -9223372036854775808 ≤ x ∧ x ≤ 9223372036854775807)
    (at_ : Int) (t1 : -9223372036854775808 ≤ at_) (t2 : at_ ≤ 9223372036854775807)
    (R : Option Addr) (raw : List Int) (rn rc : Nat) (hr : raw.length = rn) (hrc : rn ≤ rc ∧ rc ≤ 9223372036854775807) (hri : ∀ x ∈ raw, -9223372036854775808 ≤ x ∧ x ≤ 9223372036854775807)
    (w : World) (hA : IntsAt w A l) (hR : IntsAt w R raw) :
    Calls Try.prog 7 #[.int .i64 n, .int .i64 m, .slice A ln lc, .int .i64 at_, .slice R rn rc] w (Yes w) := by
  rcases Nat.lt_or_ge 9 ln with h | h
  · exact imposeCancels_many n m n1 n2 m1 m2 A l ln lc hl hlc hli at_ t1 t2 R raw rn rc hr hrc hri h w hA hR
  · exact imposeCancels_few n m n1 n2 m1 m2 A l ln lc hl hlc hli at_ t1 t2 R raw rn rc hr hrc hri h w hA hR
end Go.Proofs.Ytahmpagolmodhaa
