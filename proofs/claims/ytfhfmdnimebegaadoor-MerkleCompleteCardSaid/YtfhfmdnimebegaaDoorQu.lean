/-
  Words for regions that are walked by hand.
-/
import Derived.Test.YtfhfmdnimebegaaDoorHk
import Derived.Test.YtfhfmdnimebegaaDoorQl
import Derived.Deep.RegionHeld
namespace Go.Proofs.YtfhfmdnimebegaaDoor
open Go.RowKit
set_option linter.unusedVariables false
set_option linter.unusedSimpArgs false

theorem rng_blk {x : World} {b : Nat} {t : TypeId} {cs : List Value} (h : Blk x b t cs) (w' : World) (hB : Below x.heap.size x w') : w'.rangeAt b 0 cs := by
  have hr := (h.keep hB).range 0 cs.length
  rwa [List.drop_zero, List.take_length] at hr
theorem to_bytes_has (s : ByteArray) (w : World) : ∃ cap w2, (convert 9 39 (.string s)).run Tryd.prog w = .ok (.slice (some ⟨w.heap.size, 0, none⟩) s.size cap) w2 ∧ Below w.heap.size w w2 ∧ Has w2 (some ⟨w.heap.size, 0, none⟩) (sb s) := by
  obtain ⟨cap, w2, h1, h2, h3⟩ := to_bytes s w
  refine ⟨cap, w2, h1, h2, fun j u hj => ⟨_, rfl, ?_, h3 j u hj⟩, sb_lt s⟩
  have := h3 j u hj
  rw [Addr.add_mid] at this
  exact (show w.heap.size < w2.heap.size from World.block_lt_of_cell? w2 ⟨w.heap.size, 0 + j, none⟩ this)
theorem size_blk32 (D : List Nat) (h : D.length = 32) : (Tryd.prog.info? 114).map (·.size) = some (bytesV D).length := by
  rw [bytesV_length, h]
  kernel_rfl
theorem equal_self (D : List Nat) (h : D.length = 32) (hb : ∀ y ∈ D, y < 256) (w : World) : (Op.equalIn 10000 114 (.agg (bytesV D).toArray) (.agg (bytesV D).toArray)).run Tryd.prog w = .ok true w := by rw [equal_32 w D D h h hb hb]; simp

end Go.Proofs.YtfhfmdnimebegaaDoor
