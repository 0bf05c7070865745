/-
  The pages of a sheet as the iterator names them; inside a fence.
-/
import Derived.RangeFuncNested
import Derived.RangeFuncBound
import Derived.RangeFuncCalls
import Derived.RangeFuncLeaves
import Derived.Shelf.Abstract
import Derived.Shelf.RegionOpen
import Derived.WalkKit
import Derived.OwnWalkIn
import Derived.TacticsInMore
import Derived.LoopNIn
import Derived.LoopIn
import Derived.Test.YtahmpagolmodhaaIn
namespace Go.Proofs.Ytahmpagolmodhaa
open Go.RowKit Go.Shelf
set_option linter.unusedVariables false
set_option linter.unusedSimpArgs false

set_option maxHeartbeats 1000000 in
set_option maxRecDepth 100000 in
theorem number_in (F : Fence) (n : Nat) (hf : F.fn 45) (hro : F.round = none) (p x b : Nat) (w : World) (hb : w.cell? ⟨b, 0, none⟩ = some (.int .i64 (p : Int))) :
    CallsIn F n Try.prog 45 #[.int .i64 (x : Int), .pointer (some ⟨b, 0, none⟩)] w fun e w' => e = .returned (.int .i64 ((numT p x : Nat) : Int)) ∧ w = w' := by
  refine callsIn_of_wp Try.func45 rfl hf ?_ hro
  simp only [Try.ntmps45, List.size_toArray, List.length_cons, List.length_nil, Nat.reduceAdd, Nat.reduceSub, Array.replicate_succ, Array.replicate_zero, List.push_toArray, List.append_toArray, List.nil_append, List.cons_append]
  by_cases h : p < x
  · have hz : (p : Int) < (x : Int) := by omega
    have HP := Lib.hid (show numT p x = 0 from by unfold numT; rw [if_pos h])
    clear h
    gi_wp2
    go_ret
    exact ⟨by rw [HP.out]; first | done | rfl, rfl⟩
  · have hz : (x : Int) ≤ (p : Int) := by omega
    have HP := Lib.hid (show numT p x = x from by unfold numT; rw [if_neg h])
    clear h
    gi_wp2
    go_ret
    exact ⟨by rw [HP.out]; first | done | rfl, rfl⟩
end Go.Proofs.Ytahmpagolmodhaa
