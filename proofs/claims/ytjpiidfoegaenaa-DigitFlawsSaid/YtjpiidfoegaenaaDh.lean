/-
  The function that makes the iterator; Weak of the program.
-/
import Derived.Test.YtjpiidfoegaenaaDg
import Derived.RangeFuncBox
import Derived.WalkMore
namespace Go.Proofs.Ytjpiidfoegaenaa
open Go.RowKit Go.Shelf
set_option linter.unusedVariables false
set_option linter.unusedSimpArgs false

theorem kept_t {n₀ B : Nat} {x y z : World} (h : Kept n₀ B x y) (k : Kept n₀ B y z) : Kept n₀ B x z := h.trans k
theorem kept_b {n₀ B : Nat} {w : World} (h0 : n₀ ≤ w.heap.size) (hn : B + 2 ≤ w.heap.size) (W : World) (l : Nat) (o o' : Obj) (hl : w.heap.size ≤ l) (h : W.heap[l]? = some o) (_ : o.isCells = false) (_ : o.isWalk = false) : Kept n₀ B W (W.putObj l o') :=
  ⟨by simp, fun k h1 => World.putObj_heap_other (by omega)⟩
/-- The two boxes of an iterator over the slips. -/
def Boxes (w : World) (B : Nat) (A : Option Addr) (N c : Nat) (m : Int) : Prop := B + 2 ≤ w.heap.size ∧ w.cell? ⟨B, 0, none⟩ = some (.slice A N c) ∧ w.cell? ⟨B + 1, 0, none⟩ = some (.int .i64 m)
theorem Boxes.keep {w w' : World} {B : Nat} {A : Option Addr} {N c : Nat} {m : Int} (hb : Boxes w B A N c m) (hk : Below w.heap.size w w') : Boxes w' B A N c m := by
  obtain ⟨h0, h1, h2⟩ := hb
  exact ⟨Nat.le_trans h0 hk.size, (hk.cell (p := ⟨B, 0, none⟩) (by show B < _; omega)).trans h1, (hk.cell (p := ⟨B + 1, 0, none⟩) (by show B + 1 < _; omega)).trans h2⟩
def itF (B : Nat) : Array Value := #[.pointer (some ⟨B, 0, none⟩), .pointer (some ⟨B + 1, 0, none⟩)]
set_option maxHeartbeats 1000000 in
set_option maxRecDepth 100000 in
theorem mkslips_in (F : Fence) (n : Nat) (hf : F.fn 38) (hro : F.round = none) (A : Option Addr) (N c : Nat) (m : Int) (w : World) :
    CallsIn F n Try.prog 38 #[.slice A N c, .int .i64 m] w fun e w' => e = .returned (.func (.func 52) #[] (itF w.heap.size)) ∧ Below w.heap.size w w' ∧ Boxes w' w.heap.size A N c m := by
  unfold Boxes
  refine callsIn_of_wp Try.func38 rfl hf ?_ hro
  simp only [Try.ntmps38, List.size_toArray, List.length_cons, List.length_nil, Nat.reduceAdd, Nat.reduceSub, Array.replicate_succ, Array.replicate_zero, List.push_toArray, List.append_toArray, List.nil_append, List.cons_append]
  gi_wp2
  go_ret
  have b1 := (blk_new w 22 #[.slice A N c]).alloc (.cells #[.int .i64 m] 3)
  have b2 := blk_new (w.alloc (.cells #[.slice A N c] 22)) 3 #[.int .i64 m]
  rw [World.size_alloc] at b2
  exact ⟨rfl, ((Below.refl _ w).alloc (Nat.le_refl _) _).alloc (by simp) _, by simp, b1.cell (j := 0) rfl, b2.cell (j := 0) rfl⟩
theorem slips_stops (n : Nat) (hn : 1 ≤ n) (B n₀ m1 : Nat) (ws : List Int) (A : Option Addr) (N c : Nat) (hws : ws.length = N) (hN : N ≤ 256) (hwi : ∀ x ∈ ws, 0 ≤ x ∧ x < 1024) (hm : m1 ≤ 1023) (w : World) (h0 : n₀ ≤ w.heap.size) (hb : Boxes w B A N c ((m1 + 1 : Nat) : Int)) (hA : WsAt n₀ w A ws) :
    SeqStopsK Fence.wide n Try.prog 52 (itF B) itS (Kept n₀ B) (fun ys => ys = slU ws m1 (slN N m1)) (fun pre => ∃ k, k < slN N m1 ∧ pre = slU ws m1 (k + 1)) (slN N m1) w := fun l J Jx W hW hJ _ hY hj0 => by
  obtain ⟨b0, b1, b2⟩ := hb.keep hW
  exact slips_in Fence.wide n trivial rfl hn l B n₀ m1 ws A N c hws hN hwi hm J Jx (fun k V hk hJk => hY _ _ V hJk (by rw [slU_len]; exact hk)) W hJ ⟨Nat.le_trans h0 hW.size, b0⟩ hj0 b1 b2 (hA.keep (Kept.of hW h0 hb.1))
end Go.Proofs.Ytjpiidfoegaenaa
