/-
  The tables of the package hash, as the rows list them.
-/
import Derived.Test.YtfhfmdnimebegaaDoorHc
import Derived.Test.YtfhfmdnimebegaaDoorCards
import Derived.Test.YtfhfmdnimebegaaDoorTie
import Derived.WalkKit
import Derived.ProofKit
import Derived.OpenShut
import Derived.Deep.DeepHandedRow
import Derived.Lib.LaidTab
namespace Go.Proofs.YtfhfmdnimebegaaDoor
open Go.ChangeShapes Go.WideShapes Go.ChangeAt Go.RowKit
set_option linter.unusedVariables false
set_option linter.unusedSimpArgs false

theorem own : ownKnob Tryd.prog.godebug = none := by kernel_rfl
def startZ : List Int := [1779033703, 3144134277, 1013904242, 2773480762, 1359893119, 2600822924, 528734635, 1541459225]
def roundsZ : List Int := [1116352408, 1899447441, 3049323471, 3921009573, 961987163, 1508970993, 2453635748, 2870763221, 3624381080, 310598401, 607225278, 1426881987, 1925078388, 2162078206, 2614888103, 3248222580, 3835390401, 4022224774, 264347078, 604807628, 770255983, 1249150122, 1555081692, 1996064986, 2554220882, 2821834349, 2952996808, 3210313671, 3336571891, 3584528711, 113926993, 338241895, 666307205, 773529912, 1294757372, 1396182291, 1695183700, 1986661051, 2177026350, 2456956037, 2730485921, 2820302411, 3259730800, 3345764771, 3516065817, 3600352804, 4094571909, 275423344, 430227734, 506948616, 659060556, 883997877, 958139571, 1322822218, 1537002063, 1747873779, 1955562222, 2024104815, 2227730452, 2361852424, 2428436474, 2756734187, 3204031479, 3329325298]
theorem gStart : Tryd.prog.globalNamed "passim/hash.start" = some 1 := by kernel_rfl
theorem gRounds : Tryd.prog.globalNamed "passim/hash.rounds" = some 2 := by kernel_rfl
theorem gStartType : (Tryd.prog.globals[1]?).map (·.type) = some 119 := by kernel_rfl
theorem gRoundsType : (Tryd.prog.globals[2]?).map (·.type) = some 129 := by kernel_rfl
theorem cells8 : Tryd.prog.cellsOf 119 = 8 := by kernel_rfl
theorem cells64 : Tryd.prog.cellsOf 129 = 64 := by kernel_rfl
theorem cells1 : Tryd.prog.cellsOf 118 = 1 := by kernel_rfl
theorem start_words : wordsV (stL st0) = startZ.map fun z => Value.int .u32 z := by kernel_rfl
theorem rounds_words : wordsV kk = roundsZ.map fun z => Value.int .u32 z := by kernel_rfl
theorem range_tab {W : World} {name : String} {zs : List Int} {g : Nat} (h : Lib.TabIs Tryd.prog W name .u32 zs) (hg : Tryd.prog.globalNamed name = some g) : W.rangeAt g 0 (zs.map fun z => Value.int .u32 z) := by
  intro j v hj
  rw [List.getElem?_map] at hj
  obtain ⟨z, hz, rfl⟩ := Option.map_eq_some_iff.1 hj
  have hlt := (List.getElem?_eq_some_iff.1 hz).1
  have := h.cell hg j hlt
  rw [Nat.zero_add, this]
  simp [List.getD, hz]
theorem laid_tail {P : Program} {x : String × DataW Unit} {rest : List (String × DataW Unit)} {W : World} (h : laidMet P (x :: rest) W) : laidMet P rest W := by
  obtain ⟨ps, ⟨g', t', cs, fuel, p, q, hg', ht', hvar, hd, hq, e⟩, hnd, hr⟩ := h
  subst e
  exact ⟨q, hq, (List.nodup_append.1 hnd).2.1, fun b off hm => hr b off (List.mem_append_right _ hm)⟩
theorem lt_of_cell {W : World} {b : Nat} {v : Value} (h : W.cell? ⟨b, 0, none⟩ = some v) : b < W.heap.size := by
  rcases Nat.lt_or_ge b W.heap.size with h' | h'
  · exact h'
  · simp [World.cell?, Array.getElem?_eq_none h'] at h
/-- The two tables of the package hash, in the rows' order. -/
theorem glob_of {W : World} {rest : List (String × DataW Unit)} (h : laidMet Tryd.prog (("passim/hash.start", Lib.tabData .u32 startZ) :: ("passim/hash.rounds", Lib.tabData .u32 roundsZ) :: rest) W) : Glob W := by
  have h1 := Lib.tabIs_of_head gStart gStartType Tryd.underlying119 Tryd.underlying118 cells1 cells8 h
  have h2 := Lib.tabIs_of_head gRounds gRoundsType Tryd.underlying129 Tryd.underlying118 cells1 cells64 (laid_tail h)
  refine ⟨?_, ?_, lt_of_cell (h2.cell gRounds 0 (by decide)), lt_of_cell (h1.cell gStart 0 (by decide))⟩
  · rw [rounds_words]
    exact range_tab h2 gRounds
  · rw [start_words]
    exact range_tab h1 gStart

/-- A world in which the two tables are laid. -/
noncomputable def laidWorld (os : Os) : World :=
  { World.holding Tryd.prog os ⟨#[], #[], []⟩ with heap := (((World.holding Tryd.prog os ⟨#[], #[], []⟩).heap.modify 1 (fun
      | .cells _ t frozen => .cells (startZ.map fun z => Value.int .u32 z).toArray t frozen
      | o => o)).modify 2 (fun
      | .cells _ t frozen => .cells (roundsZ.map fun z => Value.int .u32 z).toArray t frozen
      | o => o)) }

end Go.Proofs.YtfhfmdnimebegaaDoor
