/-
  passimlaw02.sanity returns true.
-/
import Derived.Test.YtfhfmdnimebegaaDoorHo
import Derived.Test.YtfhfmdnimebegaaDoorHe
import Derived.Lib.SlBytesConst
import Derived.Stop.BytesEq
namespace Go.Proofs.YtfhfmdnimebegaaDoor
open Go.RowKit
set_option linter.unusedVariables false
set_option linter.unusedSimpArgs false

theorem cell_bytes (d : List Nat) (h : ∀ y ∈ d, y < 256) : ((d.map UInt8.ofNat).map Extern.Stop.cell) = bytesV d := by
  rw [List.map_map]
  unfold bytesV
  apply List.map_congr_left
  intro y hy
  have := h y hy
  show Value.int .u8 ((UInt8.ofNat y).toNat : Int) = byteV y
  rw [show (UInt8.ofNat y).toNat = y from Nat.mod_eq_of_lt this]
  rfl
theorem ofNat_inj {x y : List Nat} (hx : ∀ d ∈ x, d < 256) (hy : ∀ d ∈ y, d < 256) (h : x.map UInt8.ofNat = y.map UInt8.ofNat) : x = y := by
  have e := congrArg (fun l => l.map (·.toNat)) h
  simp only [List.map_map] at e
  have k : ∀ l : List Nat, (∀ d ∈ l, d < 256) → l.map ((fun x : UInt8 => x.toNat) ∘ UInt8.ofNat) = l := by
    intro l hl
    conv => rhs; rw [← List.map_id l]
    apply List.map_congr_left
    intro d hd
    exact Nat.mod_eq_of_lt (hl d hd)
  rwa [k x hx, k y hy] at e
theorem equal_32 (w : World) (x y : List Nat) (hx : x.length = 32) (hy : y.length = 32) (hxb : ∀ d ∈ x, d < 256) (hyb : ∀ d ∈ y, d < 256) : (Op.equalIn 10000 114 (.agg (bytesV x).toArray) (.agg (bytesV y).toArray)).run Tryd.prog w = .ok (decide (x = y)) w := by
  have hsz : ∀ w, (sizeOf 5).run Tryd.prog w = .ok 1 w := fun w => by
    obtain ⟨i0, hi, hz0, hz1, hz2⟩ := info_parts u8info
    simp [sizeOf, typeInfo, hi, hz1]
  rw [← cell_bytes x hxb, ← cell_bytes y hyb]
  rw [run_equalIn_bytes w 9998 114 5 32 Tryd.underlying114 Tryd.underlying5 hsz _ _ (by simp [hx]) (by simp [hy])]
  congr 1
  rw [Bool.eq_iff_iff]
  simp only [beq_iff_eq, decide_eq_true_eq]
  exact ⟨fun h => ofNat_inj hxb hyb h, fun h => by rw [h]⟩
theorem conv_lit (w : World) (C : Array Value) (n c : Nat) : (convert 39 39 (.slice (some ⟨w.heap.size, 0, none⟩) n c)).run Tryd.prog (w.alloc (.cells C 5)) = .ok (.slice (some ⟨w.heap.size, 0, none⟩) n c) (w.alloc (.cells C 5 (C.size, C.size + 1))) :=
  Lib.run_convert_bytes_const w 39 5 C n c Tryd.underlying39 Tryd.underlying5
theorem has_lit (w : World) (l : List Nat) (f : Nat × Nat) (hl : ∀ y ∈ l, y < 256) : Has (w.alloc (.cells (bytesV l).toArray 5 f)) (some ⟨w.heap.size, 0, none⟩) l := by
  refine ⟨fun k u hk => ⟨_, rfl, by simp, ?_⟩, hl⟩
  rw [Addr.add_mid, Nat.zero_add, cell_of_row _ _ k _ 5 f (heap_alloc_last w _)]
  simpa using hk

theorem cells_lit (w : World) (xs : Array Value) (t : TypeId) : Cells (w.alloc (.cells xs t)) (some ⟨w.heap.size, 0, none⟩) xs.toList := by
  refine fun k u hk => ⟨_, rfl, by simp, ?_⟩
  rw [Addr.add_mid, Nat.zero_add, cell_of_row _ _ k _ t (0, 0) (heap_alloc_last w _)]
  simpa using hk
/-- A block is read, by an operation with a guard that says yes. -/
theorem load_wanted {w : World} {ops : Array Oper} {rest : List Oper} {o : Oper} {a : Act} {Q : Exit → Act → World → Prop} (hw : Region.wanted o (yielded ops a.tmps) = true) (ty : TypeId) (x : Operand) (ho : o.op = .load ty x)
    {b : Nat} {t : TypeId} {cs : List Value} (h : Blk w b t cs) (hx : a.eval x = .pointer (some ⟨b, 0, none⟩)) {n m : Nat} {e : TypeId} (hu : Tryd.prog.underlying ty = some (.array n e)) (hi : (Tryd.prog.info? ty).map (·.size) = some m) (hl : cs.length = m)
    (K : wpList Tryd.prog ops Q rest (a.put o.dst (.agg cs.toArray)) w) : wpList Tryd.prog ops Q (o :: rest) a w := by
  subst hl
  have hr := h.range 0 cs.length
  rw [List.drop_zero, List.take_length] at hr
  refine wpList_step fun K' hK => ?_
  rw [if_pos hw]
  exact wp_load_mid ty x ho b 0 hx cs (.array n e) hr hu rfl hi (hK _ _ K)
theorem below_alloc {w w' : World} {o : Obj} (h : Below (w.alloc o).heap.size (w.alloc o) w') : Below w.heap.size w w' := ((Below.refl _ _).alloc (Nat.le_refl _) o).trans (h.mono (by simp))

end Go.Proofs.YtfhfmdnimebegaaDoor
