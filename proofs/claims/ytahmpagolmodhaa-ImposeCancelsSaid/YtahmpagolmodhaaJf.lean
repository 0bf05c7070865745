/-
  The function that makes the iterator; the iterator's contract.
-/
import Derived.Test.YtahmpagolmodhaaJe
import Derived.RangeFuncBox
namespace Go.Proofs.Ytahmpagolmodhaa
open Go.RowKit Go.Shelf
set_option linter.unusedVariables false
set_option linter.unusedSimpArgs false

theorem kept_t {n₀ : Nat} {A B C : World} (h : Kept n₀ A B) (k : Kept n₀ B C) : Kept n₀ A C := h.trans k
theorem kept_b {n₀ : Nat} {w : World} (hn : n₀ + 3 ≤ w.heap.size) (W : World) (l : Nat) (o o' : Obj) (hl : w.heap.size ≤ l) (h : W.heap[l]? = some o) (_ : o.isCells = false) (_ : o.isWalk = false) : Kept n₀ W (W.putObj l o') :=
  ⟨by simp, fun k h1 h2 => World.putObj_heap_other (by omega)⟩
/-- The three boxes of an iterator over the sheets. -/
def Boxes (w : World) (B p h : Nat) : Prop := B + 3 ≤ w.heap.size ∧ w.cell? ⟨B, 0, none⟩ = some (.int .i64 (p : Int)) ∧ w.cell? ⟨B + 1, 0, none⟩ = some (.int .i64 ((2 * h : Nat) : Int)) ∧ w.cell? ⟨B + 2, 0, none⟩ = some (.func (.func 45) #[] #[.pointer (some ⟨B, 0, none⟩)])
theorem Boxes.keep {w w' : World} {B p h : Nat} (hb : Boxes w B p h) (hk : Below w.heap.size w w') : Boxes w' B p h := by
  obtain ⟨h0, h1, h2, h3⟩ := hb
  exact ⟨Nat.le_trans h0 hk.size, (hk.cell (p := ⟨B, 0, none⟩) (by show B < _; omega)).trans h1, (hk.cell (p := ⟨B + 1, 0, none⟩) (by show B + 1 < _; omega)).trans h2, (hk.cell (p := ⟨B + 2, 0, none⟩) (by show B + 2 < _; omega)).trans h3⟩
def itF (B : Nat) : Array Value := #[.pointer (some ⟨B, 0, none⟩), .pointer (some ⟨B + 1, 0, none⟩), .pointer (some ⟨B + 2, 0, none⟩)]

theorem run_store_func {P : Program} {w : World} (a : Addr) (m : Mode) (f : Fn) (x y : Array Value) : (store a (.func f x y) m).run P w = stored P w a (.func f x y) m := run_store P w a _ m rfl
attribute [local go_sem] run_store_func
set_option maxHeartbeats 1000000 in
set_option maxRecDepth 100000 in
theorem sheets_in (F : Fence) (n : Nat) (hf : F.fn 40) (hro : F.round = none) (p h : Nat) (w : World) :
    CallsIn F n Try.prog 40 #[.int .i64 (p : Int), .int .i64 ((2 * h : Nat) : Int)] w fun e w' => e = .returned (.func (.func 46) #[] (itF w.heap.size)) ∧ Below w.heap.size w w' ∧ Boxes w' w.heap.size p h := by
  obtain ⟨l, hl⟩ : ∃ l, 2 * h = l := ⟨_, rfl⟩
  unfold Boxes
  rw [hl]
  clear hl
  refine callsIn_of_wp Try.func40 rfl hf ?_ hro
  simp only [Try.ntmps40, List.size_toArray, List.length_cons, List.length_nil, Nat.reduceAdd, Nat.reduceSub, Array.replicate_succ, Array.replicate_zero, List.push_toArray, List.append_toArray, List.nil_append, List.cons_append]
  gi_wp2
  go_ret
  have b1 := ((blk_new w 3 #[.int .i64 (p : Int)]).alloc (.cells #[.int .i64 (l : Int)] 3)).alloc (.cells #[.func (.func 45) #[] #[.pointer (some ⟨w.heap.size, 0, none⟩)]] 74)
  have b2 := (blk_new (w.alloc (.cells #[.int .i64 (p : Int)] 3)) 3 #[.int .i64 (l : Int)]).alloc (.cells #[.func (.func 45) #[] #[.pointer (some ⟨w.heap.size, 0, none⟩)]] 74)
  have b3 := blk_new ((w.alloc (.cells #[.int .i64 (p : Int)] 3)).alloc (.cells #[.int .i64 (l : Int)] 3)) 74 #[.func (.func 45) #[] #[.pointer (some ⟨w.heap.size, 0, none⟩)]]
  rw [World.size_alloc] at b2
  rw [World.size_alloc, World.size_alloc] at b3
  exact ⟨rfl, (((Below.refl _ w).alloc (Nat.le_refl _) _).alloc (by simp) _).alloc (by simp; omega) _, by simp, b1.cell (j := 0) rfl, b2.cell (j := 0) rfl, b3.cell (j := 0) rfl⟩

theorem iter_stops (n : Nat) (hn : 3 ≤ n) (B p h : Nat) (hp : p ≤ 999) (h1 : 1 ≤ h) (h8 : h ≤ 8) (w : World) (hb : Boxes w B p h) :
    SeqStopsK Fence.wide n Try.prog 46 (itF B) itV (Kept B) (fun ys => ys = itU p h (qnT p h * h)) (fun pre => ∃ k, k ≤ qnT p h * h ∧ pre = itU p h k) (qnT p h * h) w := fun l J Jx W hW hJ _ hY h0 => by
  obtain ⟨b0, b1, b2, b3⟩ := hb.keep hW
  exact iter_in Fence.wide n trivial trivial trivial rfl hn l B (B + 1) (B + 2) B p h hp h1 h8 ⟨by omega, by omega⟩ ⟨by omega, by omega⟩ ⟨by omega, by omega⟩ J Jx (fun k V hk hJk => hY _ _ V hJk (by unfold itU; rw [List.length_map, List.length_range]; exact hk)) W hJ b0 h0 b1 b2 b3
/-- A leaf's number, or 0. -/
def cl (z : Int) : Int := if 0 ≤ z ∧ z ≤ 1000 then z else 0
theorem cl_in (z : Int) : 0 ≤ cl z ∧ cl z ≤ 1000 := by unfold cl; split <;> omega
def itW (x : It) : Array Value := itV (x.1, cl x.2.1, cl x.2.2)
theorem lf_small (p h k : Nat) (hp : p ≤ 999) (h1 : 1 ≤ h) (h8 : h ≤ 8) (hk : k < qnT p h * h) : lfA h k ≤ 1000 ∧ lfB h k ≤ 1000 := by
  have h6 := qnT_leaves p h hp h1 h8
  have hq : k / h < qnT p h := by rw [Nat.div_lt_iff_lt_mul (by omega)]; exact hk
  have e1 := Nat.mul_le_mul_right (2 * h) (Nat.succ_le_of_lt hq)
  rw [Nat.succ_mul] at e1
  have e2 := Nat.mod_lt k (show 0 < h by omega)
  unfold lfA lfB
  rw [Nat.add_mul, Nat.one_mul]
  constructor <;> omega
theorem itW_itT (p h k : Nat) (hp : p ≤ 999) (h1 : 1 ≤ h) (h8 : h ≤ 8) (hk : k < qnT p h * h) : itW (itT p h k) = itV (itT p h k) := by
  have := lf_small p h k hp h1 h8 hk
  unfold itW itT cl
  dsimp only
  rw [if_pos (by omega), if_pos (by omega)]
/-- The same, told of leaves that are small numbers (whatever comes). -/
theorem iter_stopsW (n : Nat) (hn : 3 ≤ n) (B p h : Nat) (hp : p ≤ 999) (h1 : 1 ≤ h) (h8 : h ≤ 8) (w : World) (hb : Boxes w B p h) :
    SeqStopsK Fence.wide n Try.prog 46 (itF B) itW (Kept B) (fun ys => ys = itU p h (qnT p h * h)) (fun pre => ∃ k, k ≤ qnT p h * h ∧ pre = itU p h k) (qnT p h * h) w := fun l J Jx W hW hJ _ hY h0 => by
  obtain ⟨b0, b1, b2, b3⟩ := hb.keep hW
  exact iter_in Fence.wide n trivial trivial trivial rfl hn l B (B + 1) (B + 2) B p h hp h1 h8 ⟨by omega, by omega⟩ ⟨by omega, by omega⟩ ⟨by omega, by omega⟩ J Jx (fun k V hk hJk => by
    have := hY _ (itT p h k) V hJk (by unfold itU; rw [List.length_map, List.length_range]; exact hk)
    rw [itW_itT p h k hp h1 h8 hk] at this
    exact this) W hJ b0 h0 b1 b2 b3
end Go.Proofs.Ytahmpagolmodhaa
