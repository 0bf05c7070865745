/-
  passimref02.rotr rotates a word right.
-/
import Derived.Test.YtfhfmdnimebegaaDoorHs
import Derived.Deep.QuietTactic
namespace Go.Proofs.YtfhfmdnimebegaaDoor
set_option linter.unusedVariables false
set_option linter.unusedSimpArgs false
open Go.RowKit

set_option maxHeartbeats 400000 in
theorem rotr_any (x : BitVec 32) (k : Nat) (hk1 : 1 ≤ k) (hk : k ≤ 31) (w : World) :
    Calls Tryd.prog 79 #[.int .u32 (u x), .int .i64 (k : Int)] w fun e w' => e = .returned (.int .u32 (u (rot x k))) ∧ ∃ m, w' = w.drewN m := by
  obtain ⟨j, hj⟩ : ∃ j : Nat, k + j = 32 := ⟨32 - k, by omega⟩
  have e2 : (32 : Int) - (k : Int) = (j : Int) := by omega
  have h1 := u_shl x j
  have h2 := u_shr x k
  have h3 := u_or (x >>> k) (x <<< j)
  have he : rot x k = x >>> k ||| x <<< j := by unfold rot; rw [show 32 - k = j by omega]
  have HE := Lib.hid he
  clear he
  go_enter Tryd.func79, Tryd.ntmps79
  go_wp2
  go_quiet (fail)
  go_wp2
  go_ret
  refine ⟨?_, nq, rfl⟩
  rw [HE.out]
  rfl

theorem rotr2 (x : BitVec 32) (w : World) : Calls Tryd.prog 79 #[.int .u32 (u x), .int .i64 2] w fun e w' => e = .returned (.int .u32 (u (rot x 2))) ∧ ∃ m, w' = w.drewN m := rotr_any x 2 (by omega) (by omega) w
theorem rotr6 (x : BitVec 32) (w : World) : Calls Tryd.prog 79 #[.int .u32 (u x), .int .i64 6] w fun e w' => e = .returned (.int .u32 (u (rot x 6))) ∧ ∃ m, w' = w.drewN m := rotr_any x 6 (by omega) (by omega) w
theorem rotr7 (x : BitVec 32) (w : World) : Calls Tryd.prog 79 #[.int .u32 (u x), .int .i64 7] w fun e w' => e = .returned (.int .u32 (u (rot x 7))) ∧ ∃ m, w' = w.drewN m := rotr_any x 7 (by omega) (by omega) w
theorem rotr11 (x : BitVec 32) (w : World) : Calls Tryd.prog 79 #[.int .u32 (u x), .int .i64 11] w fun e w' => e = .returned (.int .u32 (u (rot x 11))) ∧ ∃ m, w' = w.drewN m := rotr_any x 11 (by omega) (by omega) w
theorem rotr13 (x : BitVec 32) (w : World) : Calls Tryd.prog 79 #[.int .u32 (u x), .int .i64 13] w fun e w' => e = .returned (.int .u32 (u (rot x 13))) ∧ ∃ m, w' = w.drewN m := rotr_any x 13 (by omega) (by omega) w
theorem rotr17 (x : BitVec 32) (w : World) : Calls Tryd.prog 79 #[.int .u32 (u x), .int .i64 17] w fun e w' => e = .returned (.int .u32 (u (rot x 17))) ∧ ∃ m, w' = w.drewN m := rotr_any x 17 (by omega) (by omega) w
theorem rotr18 (x : BitVec 32) (w : World) : Calls Tryd.prog 79 #[.int .u32 (u x), .int .i64 18] w fun e w' => e = .returned (.int .u32 (u (rot x 18))) ∧ ∃ m, w' = w.drewN m := rotr_any x 18 (by omega) (by omega) w
theorem rotr19 (x : BitVec 32) (w : World) : Calls Tryd.prog 79 #[.int .u32 (u x), .int .i64 19] w fun e w' => e = .returned (.int .u32 (u (rot x 19))) ∧ ∃ m, w' = w.drewN m := rotr_any x 19 (by omega) (by omega) w
theorem rotr22 (x : BitVec 32) (w : World) : Calls Tryd.prog 79 #[.int .u32 (u x), .int .i64 22] w fun e w' => e = .returned (.int .u32 (u (rot x 22))) ∧ ∃ m, w' = w.drewN m := rotr_any x 22 (by omega) (by omega) w
theorem rotr25 (x : BitVec 32) (w : World) : Calls Tryd.prog 79 #[.int .u32 (u x), .int .i64 25] w fun e w' => e = .returned (.int .u32 (u (rot x 25))) ∧ ∃ m, w' = w.drewN m := rotr_any x 25 (by omega) (by omega) w

end Go.Proofs.YtfhfmdnimebegaaDoor
