/-
  plain of the law: a slip of the reference.
-/
import Derived.Test.YtjpiidfoegaenaaEq
namespace Go.Proofs.Ytjpiidfoegaenaa
open Go Go.RowKit
set_option linter.unusedVariables false
set_option linter.unusedSimpArgs false

theorem equal_rf (w : World) (a b c d : Int) : (Op.equalIn 10000 38 (.agg #[.int .i64 a, .int .i64 b, .int .i64 c, .int .i64 d]) (.agg #[.int .i64 a, .int .i64 b, .int .i64 c, .int .i64 d])).run Try.prog w = .ok true w := by
  go_simp
def AggR (a b c d : Int) (w : World) (e : Ending) (w' : World) : Prop := e = .returned (.agg #[.int .i64 a, .int .i64 b, .int .i64 c, .int .i64 d]) ∧ Below w.heap.size w w'
set_option maxHeartbeats 1000000 in
set_option maxRecDepth 100000 in
theorem plain_any (a b c d : Int) (w : World) : Calls Try.prog 19 #[.agg #[.int .i64 a, .int .i64 b, .int .i64 c, .int .i64 d]] w (AggR a b c d w) := by
  go_enter Try.func19, Try.ntmps19
  go_upto_region 1 with (fail)
  have k1 := (blk_new w 35 #[.int .i64 a, .int .i64 b, .int .i64 c, .int .i64 d]).alloc (.cells #[.int .i64 0, .int .i64 0, .int .i64 0, .int .i64 0] 38)
  have k2 := blk_new (w.alloc (.cells #[.int .i64 a, .int .i64 b, .int .i64 c, .int .i64 d] 35)) 38 #[.int .i64 0, .int .i64 0, .int .i64 0, .int .i64 0]
  have BX : Below w.heap.size w ((w.alloc (.cells #[.int .i64 a, .int .i64 b, .int .i64 c, .int .i64 d] 35)).alloc (.cells #[.int .i64 0, .int .i64 0, .int .i64 0, .int .i64 0] 38)) := ((Below.refl _ _).alloc (Nat.le_refl _) _).alloc (by rw [World.size_alloc]; omega) _
  rw [World.size_alloc] at k2
  generalize (w.alloc (.cells #[.int .i64 a, .int .i64 b, .int .i64 c, .int .i64 d] 35)).alloc (.cells #[.int .i64 0, .int .i64 0, .int .i64 0, .int .i64 0] 38) = w1 at *
  have c0 := k1.cell (j := 0) rfl
  have c1 := k1.cell (j := 1) rfl
  have c2 := k1.cell (j := 2) rfl
  have c3 := k1.cell (j := 3) rfl
  have h14 : w.heap.size ≤ w.heap.size + 1 := by omega
  go_wp2_with (refine store_blk rfl 38 (.tmp 2) (.tmp 11) rfl k2 rfl rfl (vs := [.int .i64 a, .int .i64 b, .int .i64 c, .int .i64 d]) (m := 4) (by kernel_rfl) rfl rfl (by intro v hv; simp at hv; rcases hv with rfl | rfl | rfl | rfl <;> rfl) ?_; intro w7 N4 O4)
  have BZ := O4.2.2 _ _ h14 BX
  refine bodyPost_ret (N4.resultS rfl _ rfl Try.underlying38 (by kernel_rfl)) rfl ?_
  exact ⟨rfl, BZ⟩
end Go.Proofs.Ytjpiidfoegaenaa
