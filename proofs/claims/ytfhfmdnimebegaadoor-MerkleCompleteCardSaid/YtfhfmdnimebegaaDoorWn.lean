/-
  wire.Ints and wire.Strings return the encodings of lists of bounded size.
-/
import Derived.Test.YtfhfmdnimebegaaDoorHt
namespace Go.Proofs.YtfhfmdnimebegaaDoor
open Go.RowKit

def intsV (l : List Int) : List Value := l.map (Value.int .i64)

def strsV (l : List ByteArray) : List Value := l.map Value.string
def sbs (l : List ByteArray) : List (List Nat) := l.map sb
theorem sbs_length (l : List ByteArray) : (sbs l).length = l.length := by simp [sbs]
theorem size_tot (l : List ByteArray) (k : Nat) (h : k < l.length) : l[k].size ≤ tot (sbs l) := by
  rw [← sb_length]
  exact tot_mem _ _ (List.mem_map.2 ⟨_, List.getElem_mem h, rfl⟩)
theorem partT_sbs (l : List ByteArray) (k : Nat) (h : k < l.length) : partT (sbs l) (k + 1) = partT (sbs l) k ++ encS (sb l[k]) := by
  rw [partT_step (sbs l) k (by rw [sbs_length]; exact h)]
  simp [sbs]
theorem encS_lt (s : ByteArray) (h : s.size ≤ 9223372036854775807) : ∀ d ∈ encS (sb s), d < 256 := by
  intro d hd
  unfold encS at hd
  rcases List.mem_append.1 hd with h1 | h1
  · rw [sb_length] at h1
    exact enc_lt _ (by omega) (by omega) d h1
  · exact sb_lt s d h1

end Go.Proofs.YtfhfmdnimebegaaDoor
