/-
  sign.leaf and sign.join: the nodes of the tree.
-/
import Derived.Test.YtfhfmdnimebegaaDoorHk
import Derived.Test.YtfhfmdnimebegaaDoorQs
import Derived.Test.YtfhfmdnimebegaaDoorSm
namespace Go.Proofs.YtfhfmdnimebegaaDoor
open Go.RowKit
set_option linter.unusedVariables false
set_option linter.unusedSimpArgs false

/-- The digest of parts, as the package hash makes it. -/
def ofS (T : Nat) (ps : List (List Nat)) : List Nat := (sha (ofIn T ps)).take 16
theorem ofS_length (T : Nat) (ps : List (List Nat)) : (ofS T ps).length = 16 := by unfold ofS; rw [List.length_take, sha_length]; rfl
theorem ofS_byte (T : Nat) (ps : List (List Nat)) : ∀ y ∈ ofS T ps, y < 256 := fun y hy => sha_byte _ y (List.mem_of_mem_take hy)
def leafM (tops : List Nat) : List Nat := ofS 3 [ofS 2 [tops]]
def joinM (a b : List Nat) : List Nat := ofS 4 [a, b]
theorem has_blk {w : World} {b : Nat} {t : TypeId} {D : List Nat} (h : Blk w b t (bytesV D)) (hb : ∀ y ∈ D, y < 256) : Has w (some ⟨b, 0, none⟩) D := by
  have := has_of_blk (l := D) h (by rw [List.take_of_length_le (by rw [bytesV_length]; omega)]) hb 0 D.length
  rwa [List.drop_zero, List.take_length] at this
theorem conv_dig {w : World} {b : Nat} {t : TypeId} {D : List Nat} (h : Blk w b t (bytesV D)) (hl : D.length = 16) (hb : ∀ y ∈ D, y < 256) : (convert 39 9 (.slice (some ⟨b, 0, none⟩) 16 16)).run Tryd.prog w = .ok (.string (strOf D)) w :=
  conv_any (some ⟨b, 0, none⟩) D 16 16 w hl.symm (has_blk h hb)
theorem slice_dig (w : World) (b : Nat) : (Instr.sliceAt 29 (.pointer (some ⟨b, 0, none⟩)) none none none).run Tryd.prog w = .ok (.slice (some ⟨b, 0, none⟩) 16 16) w := by
  have hL : Tryd.prog.arrayLen 29 = 16 := by kernel_rfl
  have hE : Tryd.prog.elem 29 = 5 := by kernel_rfl
  have ht : Tryd.prog.underlying 29 = some (.array (Tryd.prog.arrayLen 29) (Tryd.prog.elem 29)) := by rw [hL, hE]; exact Tryd.underlying29
  rw [run_sliceAt_array_all w _ _ ht, hE, size_u8, hL]
  simp [Result.andThen_ok, slicedAt, Addr.add_mid]
/-- hash.Of at a list of strings that was just laid. -/
theorem of_lit (T : Nat) (hT : T < 256) (xs : List ByteArray) (hl : xs.length ≤ 1024) (ht : ∀ s ∈ xs, s.size ≤ 1048576) (C : Array Value) (hC : C = (strsV xs).toArray) (n : Nat) (hn : n = xs.length) (w : World) (hG : Glob w) :
    Calls Tryd.prog 57 #[.int .i64 (T : Int), .slice (some ⟨w.heap.size, 0, none⟩) n n] (w.alloc (.cells C 9)) fun e w' => e = .returned (.agg (bytesV (ofS T (sbs xs))).toArray) ∧ Below w.heap.size w w' := by
  subst hC; subst hn
  have hB : Below w.heap.size w (w.alloc (.cells (strsV xs).toArray 9)) := (Below.refl _ _).alloc (Nat.le_refl _) _
  refine (of_any (T : Int) T hT ?_ (some ⟨w.heap.size, 0, none⟩) xs xs.length xs.length _ rfl (by omega) ht (cells_lit w (strsV xs).toArray 9) (hG.keep hB)).mono ?_
  · simp [IntKind.wrap, IntKind.signed, IntKind.bits]
    omega
  · rintro e w' ⟨rfl, h⟩
    exact ⟨rfl, hB.trans (h.mono hB.size)⟩

end Go.Proofs.YtfhfmdnimebegaaDoor
