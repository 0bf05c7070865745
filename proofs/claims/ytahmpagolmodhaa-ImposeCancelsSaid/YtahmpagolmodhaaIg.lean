/-
  == of two pairs of numbers, and of two sheets.
-/
import Derived.Test.YtahmpagolmodhaaIf
import Derived.Laws.StructEq
import Derived.ChangeKeysEq
namespace Go.Proofs.Ytahmpagolmodhaa
open Go.RowKit
set_option linter.unusedVariables false
set_option linter.unusedSimpArgs false

set_option maxHeartbeats 1000000 in
theorem equal_pair (n : Nat) (a b c d : Int) (w : World) : (Op.equalIn (n + 2) 25 (.agg #[.int .i64 a, .int .i64 b]) (.agg #[.int .i64 c, .int .i64 d])).run Try.prog w = .ok (a == c && b == d) w := by
  have u3 := Try.underlying3
  have a3 := Try.isAgg3
  have z3 := Try.sizeOf3
  rw [show n + 2 = (n + 1) + 1 from rfl, Op.equalIn]
  simp only [Sem.run_bind, run_underlying Try.underlying25, Result.andThen_ok]
  simp only [Std.Legacy.Range.forIn_eq_forIn_range', Std.Legacy.Range.size, Nat.sub_zero, Nat.add_sub_cancel, Nat.div_one, List.range'_succ, List.range'_zero, List.forIn_cons, List.forIn_nil]
  go_simp
  by_cases h1 : a = c <;> by_cases h2 : b = d <;> simp [h1, h2]
theorem pair_dec (x y : Int × Int) : (x.1 == y.1 && x.2 == y.2) = decide (x = y) := by
  obtain ⟨a, b⟩ := x
  obtain ⟨c, d⟩ := y
  by_cases h1 : a = c <;> by_cases h2 : b = d <;> simp [h1, h2]
theorem sh_dec (x y : Sh) : (x.q == y.q && (x.fa == y.fa && x.fb == y.fb) && (x.ba == y.ba && x.bb == y.bb)) = decide (x = y) := by
  obtain ⟨a, b, c, d, e⟩ := x
  obtain ⟨a', b', c', d', e'⟩ := y
  by_cases h1 : a = a' <;> by_cases h2 : b = b' <;> by_cases h3 : c = c' <;> by_cases h4 : d = d' <;> by_cases h5 : e = e' <;> simp [h1, h2, h3, h4, h5]
set_option maxHeartbeats 1000000 in
theorem equal_sheet (x y : Sh) (w : World) : (Op.equalIn 10000 69 (.agg (shV x).toArray) (.agg (shV y).toArray)).run Try.prog w = .ok (decide (x = y)) w := by
  have u3 := Try.underlying3
  have a3 := Try.isAgg3
  have z3 := Try.sizeOf3
  have a4 := Try.isAgg25
  have z4 := Try.sizeOf25
  have hS : Try.prog.underlying 69 = some (.struct (Try.prog.fieldsOf 69)) := by kernel_rfl
  rw [show (10000 : Nat) = 9999 + 1 from rfl, run_equalIn_agg w 9999 69 _ _ hS (by kernel_rfl)]
  have E1 := fun (a b c d : Int) (w : World) => equal_pair 9997 a b c d w
  simp only [Program.fieldsOf, Try.underlying69]
  rw [← sh_dec]
  unfold shV
  go_simp
  by_cases h1 : x.q = y.q <;> by_cases h2 : x.fa = y.fa <;> by_cases h3 : x.fb = y.fb <;> by_cases h4 : x.ba = y.ba <;> by_cases h5 : x.bb = y.bb <;> simp [h1, h2, h3, h4, h5]
end Go.Proofs.Ytahmpagolmodhaa
