/-
  The documented examples, by the plain specification.
-/
import Derived.Test.YtehkgpefmjfifaaKq
namespace Go.Proofs.Ytehkgpefmjfifaa
open Go.RowKit
set_option linter.unusedVariables false
set_option linter.unusedSimpArgs false

def exS : ByteArray := ⟨#[84, 104, 101, 32, 107, 105, 110, 103, 32, 111, 102, 32, 82, 111, 109, 101, 44, 32, 115, 101, 101, 32, 64, 46, 32, 49, 50, 32, 111, 100, 101, 115, 33]⟩
theorem ex_size : exS.size = 33 := rfl
theorem ex_toks : toks (sb exS) = [(0, 3, 0), (4, 8, 0), (9, 11, 0), (12, 16, 0), (16, 17, 2), (18, 21, 0), (22, 23, 3), (23, 24, 2), (25, 27, 1), (28, 32, 0), (32, 33, 2)] := by decide +kernel
theorem ex_valid : validT (sb exS) = 0 := by decide +kernel
theorem ex_valid2 : validT (sb ⟨#[97, 32, 32, 98]⟩) = 2 := by decide +kernel
theorem ex_marks : marksM exS = [6] := by unfold marksM; rw [ex_toks]; rfl
theorem ex_sents : sentM exS = [(0, 8), (8, 11)] := by unfold sentM; rw [ex_toks]; decide +kernel
theorem ex_words : wordsM exS = [⟨#[116, 104, 101]⟩, ⟨#[107, 105, 110, 103]⟩, ⟨#[111, 102]⟩, ⟨#[114, 111, 109, 101]⟩, ⟨#[115, 101, 101]⟩, ⟨#[111, 100, 101, 115]⟩] := by unfold wordsM; rw [ex_toks]; decide +kernel
theorem ex_fold : foldS ⟨#[82, 111, 109, 101, 32, 49, 50]⟩ = ⟨#[114, 111, 109, 101, 32, 49, 50]⟩ := by decide +kernel
theorem ex_part : partS exS 3 5 = ⟨#[82, 111, 109, 101, 44]⟩ := by unfold partS; rw [ex_toks]; decide +kernel
theorem ex_cut8 : cutM exS 8 = (⟨#[84, 104, 101, 32, 107, 105, 110, 103, 32, 111, 102, 32, 82, 111, 109, 101, 44, 32, 115, 101, 101, 32, 64, 46]⟩, ⟨#[49, 50, 32, 111, 100, 101, 115, 33]⟩, 0) := by unfold cutM; rw [ex_toks, ex_valid]; decide +kernel
theorem ex_cut4 : cutM exS 4 = (⟨#[]⟩, ⟨#[]⟩, 5) := by unfold cutM; rw [ex_toks, ex_valid]; decide +kernel
theorem ex_cut0 : cutM exS 0 = (⟨#[]⟩, ⟨#[]⟩, 5) := by unfold cutM; rw [ex_toks, ex_valid]; decide +kernel
theorem ex_join : joinS ⟨#[84, 104, 101, 32, 107, 105, 110, 103, 32, 111, 102, 32, 82, 111, 109, 101, 44, 32, 115, 101, 101, 32, 64, 46]⟩ ⟨#[49, 50, 32, 111, 100, 101, 115, 33]⟩ = exS := by decide +kernel
/-- A literal slice, just made. -/
theorem at_new {α : Type} (E : Elt α) (w : World) (cs : Array Value) (l : List α) (h : E.row l = cs.toList) : At E (w.alloc (.cells cs E.T)) (some ⟨w.heap.size, 0, none⟩) l := fun _ => by
  have K := blk_new w E.T cs
  refine ⟨_, 0, rfl, K.lt, fun i x j u hx hu => ?_⟩
  rw [Nat.zero_add]
  exact K.cell (by rw [← h]; exact E.row_get l i x j u hx hu)
end Go.Proofs.Ytehkgpefmjfifaa
