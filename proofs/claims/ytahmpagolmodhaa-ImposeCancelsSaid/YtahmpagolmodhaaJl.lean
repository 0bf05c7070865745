/-
  slices.Backward over sheets, inside a fence.
-/
import Derived.Test.YtahmpagolmodhaaJg
namespace Go.Proofs.Ytahmpagolmodhaa
open Go.RowKit Go.Shelf
set_option linter.unusedVariables false
set_option linter.unusedSimpArgs false
attribute [local go_sem] Oper.semAt_some

/-- Two blocks are as they were. -/
def Keep2 (x y : Nat) (W W' : World) : Prop := W.heap.size ≤ W'.heap.size ∧ W'.heap[x]? = W.heap[x]? ∧ W'.heap[y]? = W.heap[y]?
theorem keep2_t {x y : Nat} {A B C : World} (h : Keep2 x y A B) (k : Keep2 x y B C) : Keep2 x y A C := ⟨Nat.le_trans h.1 k.1, k.2.1.trans h.2.1, k.2.2.trans h.2.2⟩
theorem Keep2.refl (x y : Nat) (W : World) : Keep2 x y W W := ⟨Nat.le_refl _, rfl, rfl⟩
theorem keep2_b {x y : Nat} {w : World} (hx : x < w.heap.size) (hy : y < w.heap.size) (W : World) (l : Nat) (o o' : Obj) (hl : w.heap.size ≤ l) (h : W.heap[l]? = some o) (_ : o.isCells = false) (_ : o.isWalk = false) : Keep2 x y W (W.putObj l o') :=
  ⟨by simp, World.putObj_heap_other (by omega), World.putObj_heap_other (by omega)⟩
theorem Keep2.of {x y n : Nat} {W W' : World} (h : Below n W W') (hx : x < n) (hy : y < n) : Keep2 x y W W' := ⟨h.size, h.block x hx, h.block y hy⟩
theorem keep2_cell1 {x y : Nat} {W W' : World} (h : Keep2 x y W W') {p : Addr} (hp : p.block = x) : W'.cell? p = W.cell? p := World.cell?_of_block (w := W) (by rw [hp]; exact h.2.1)
theorem keep2_cell2 {x y : Nat} {W W' : World} (h : Keep2 x y W W') {p : Addr} (hp : p.block = y) : W'.cell? p = W.cell? p := World.cell?_of_block (w := W) (by rw [hp]; exact h.2.2)
abbrev Bk := Int × Sh
def bkV (x : Bk) : Array Value := #[.int .i64 x.1, .agg #[.int .i64 x.2.q, .int .i64 x.2.fa, .int .i64 x.2.fb, .int .i64 x.2.ba, .int .i64 x.2.bb]]
theorem back_in (F : Fence) (n : Nat) (hf : F.fn 42) (hro : F.round = none) (q : Option Addr) (m c : Nat) (w : World) :
    CallsIn F n Try.prog 42 #[.slice q m c] w fun e w' => e = .returned (.func (.func 47) #[] #[.pointer (some ⟨w.heap.size, 0, none⟩)]) ∧ w' = w.alloc (.cells #[.slice q m c] 22) := by
  refine callsIn_of_wp Try.func42 rfl hf ?_ hro
  simp only [Try.ntmps42, List.size_toArray, List.length_cons, List.length_nil, Nat.reduceAdd, Nat.reduceSub, Array.replicate_succ, Array.replicate_zero, List.push_toArray, List.append_toArray, List.nil_append, List.cons_append]
  gi_wp2
  go_ret
  exact ⟨rfl, rfl⟩
def BkRel (g : List Sh) (m x y : Nat) (J : List Bk → World → Prop) (W : World) (v : Value) (wr : World) : Prop := ∃ (j : Nat) (z : Int) (pre : List Bk), j ≤ m ∧ v = .int .i64 z ∧ z = (j : Int) - 1 ∧ pre.map (·.2) = (g.drop j).reverse ∧ J pre wr ∧ Keep2 x y W wr
set_option maxHeartbeats 2000000 in
set_option maxRecDepth 100000 in
theorem back1_in (F : Fence) (n : Nat) (hf : F.fn 47) (hro : F.round = none) (hn : 1 ≤ n) (l x b off c m : Nat) (g : List Sh) (hg : g.length = m) (hm : m ≤ 100000000000) (J Jx : List Bk → World → Prop)
    (hY : ∀ pre y W, J pre W → pre.length < m → YieldAt F (n - 1) Try.prog l (bkV y) W fun e W' =>
      (e = .returned (.bool true) ∧ J (pre ++ [y]) W' ∧ Keep2 x b W W') ∨ (e = .returned (.bool false) ∧ Jx (pre ++ [y]) W'))
    (W : World) (hx : W.cell? ⟨x, 0, none⟩ = some (.slice (some ⟨b, off, none⟩) m c)) (hL : ∀ i s, g[i]? = some s → W.rangeAt b (off + i * 5) [.int .i64 s.q, .int .i64 s.fa, .int .i64 s.fb, .int .i64 s.ba, .int .i64 s.bb]) (h0 : J [] W) :
    CallsIn F n Try.prog 47 #[.func (.yield l) #[] #[], .pointer (some ⟨x, 0, none⟩)] W fun e W' => (∃ v, e = .returned v) ∧
      ((∃ ys : List Bk, ys.map (·.2) = g.reverse ∧ J ys W') ∨ (∃ pre : List Bk, True ∧ Jx pre W')) := by
  have HG := Lib.hid hg
  have HL := Lib.hid hL
  clear hg hL
  refine callsIn_of_wp Try.func47 rfl hf ?_ hro
  simp only [Try.ntmps47, List.size_toArray, List.length_cons, List.length_nil, Nat.reduceAdd, Nat.reduceSub, Array.replicate_succ, Array.replicate_zero, List.push_toArray, List.append_toArray, List.nil_append, List.cons_append]
  gi_wp2
  gi_loopw [3] (fun v wr => BkRel g m x b J W v wr) (fun v _ => (intOf v + 1).toNat)
  case atStart => exact ⟨m, _, [], Nat.le_refl _, rfl, rfl, by rw [List.drop_eq_nil_of_le (by rw [HG.out]; exact Nat.le_refl _)]; rfl, h0, Keep2.refl _ _ _⟩
  case round =>
    obtain ⟨j, z, pre, hj, rfl, hz, hpre, hJ, hK⟩ := hrel
    have cx := (keep2_cell1 hK (p := ⟨x, 0, none⟩) rfl).trans hx
    rcases Nat.eq_zero_or_pos j with h0j | hpj
    · subst h0j
      have hzz : ¬ (0 : Int) ≤ z := by omega
      have hzz2 : z < 0 := by omega
      gi_wp2
      go_end0
      exact ⟨⟨_, rfl⟩, .inl ⟨_, hpre, hJ⟩⟩
    · obtain ⟨k, rfl⟩ : ∃ k, j = k + 1 := ⟨j - 1, by omega⟩
      obtain rfl : z = (k : Int) := by omega
      have hkm : k < m := hj
      have hkz : (k : Int) < (m : Int) := by omega
      obtain ⟨s, hs⟩ : ∃ s, g[k]? = some s := ⟨_, List.getElem?_eq_getElem (by rw [HG.out]; exact hkm)⟩
      have hR : wr.rangeAt b (off + k * 5) [.int .i64 s.q, .int .i64 s.fa, .int .i64 s.fb, .int .i64 s.ba, .int .i64 s.bb] := fun i u hu => (keep2_cell2 hK (p := ⟨b, off + k * 5 + i, none⟩) rfl).trans (HL.out k s hs i u hu)
      have hln : pre.length < m := by
        have := congrArg List.length hpre
        rw [List.length_map, List.length_reverse, List.length_drop, HG.out] at this
        omega
      have HP := Lib.hid (show (pre ++ [((k : Int), s)]).map (·.2) = (g.drop k).reverse from by
        have hlt := (List.getElem?_eq_some_iff.1 hs).1
        rw [List.map_append, hpre, List.drop_eq_getElem_cons hlt, (List.getElem?_eq_some_iff.1 hs).2, List.reverse_cons]
        rfl)
      obtain ⟨fn, tm, asg, bd, hy, hRo⟩ := hY pre ((k : Int), s) wr hJ hln
      unfold bkV at hy
      dsimp only at hy
      clear hs hz
      gi_wp2_with (refine wpListIn_load_mid rfl 64 (.tmp 15) rfl b (off + k * 5) rfl _ _ hR rfl rfl rfl ?_)
      refine hRo.mono ?_
      rintro e W3 (⟨rfl, hJ3, hk3⟩ | ⟨rfl, hJx3⟩)
      · gi_wp2
        exact ⟨⟨k, _, _, by omega, rfl, rfl, HP.out, hJ3, keep2_t hK hk3⟩, by first | (simp [intOf]; done) | (simp [intOf]; omega)⟩
      · gi_wp2
        refine bodyPost_ret (results_none rfl _ _ _) rfl ?_
        exact ⟨⟨_, rfl⟩, .inr ⟨_, trivial, hJx3⟩⟩
theorem back_stops (n : Nat) (hn : 1 ≤ n) (x b off c m : Nat) (g : List Sh) (hg : g.length = m) (hm : m ≤ 100000000000) (w : World) (hxl : x < w.heap.size) (hbl : b < w.heap.size) (hx : w.cell? ⟨x, 0, none⟩ = some (.slice (some ⟨b, off, none⟩) m c)) (hL : ∀ i s, g[i]? = some s → w.rangeAt b (off + i * 5) [.int .i64 s.q, .int .i64 s.fa, .int .i64 s.fb, .int .i64 s.ba, .int .i64 s.bb]) :
    SeqStopsK Fence.wide n Try.prog 47 #[.pointer (some ⟨x, 0, none⟩)] bkV (Keep2 x b) (fun ys => ys.map (·.2) = g.reverse) (fun _ => True) m w := fun l J Jx W hW _ _ hY h0 =>
  back1_in Fence.wide n trivial rfl hn l x b off c m g hg hm J Jx hY W ((hW.cell (p := ⟨x, 0, none⟩) hxl).trans hx) (fun i s hs j u hu => (hW.cell (p := ⟨b, off + i * 5 + j, none⟩) hbl).trans (hL i s hs j u hu)) h0
end Go.Proofs.Ytahmpagolmodhaa
