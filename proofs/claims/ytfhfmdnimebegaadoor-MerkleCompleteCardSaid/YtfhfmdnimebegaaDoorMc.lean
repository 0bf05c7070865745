/-
  slices.Clone of leaves.
-/
import Derived.Test.YtfhfmdnimebegaaDoorMv
import Derived.Lib.SliceRun
import Derived.Laws.AppendOwn
namespace Go.Proofs.YtfhfmdnimebegaaDoor
open Go.RowKit
set_option linter.unusedVariables false
set_option linter.unusedSimpArgs false

def leavesV : List Lf → List Value
  | [] => []
  | x :: r => .string x.1 :: .string x.2 :: leavesV r
theorem leavesV_length : ∀ ls : List Lf, (leavesV ls).length = ls.length * 2
  | [] => rfl
  | x :: r => by simp only [leavesV, List.length_cons, leavesV_length r]; omega
theorem leavesV_at : ∀ (ls : List Lf) (i : Nat) (x : Lf), ls[i]? = some x → (leavesV ls)[2 * i]? = some (.string x.1) ∧ (leavesV ls)[2 * i + 1]? = some (.string x.2)
  | [], i, x, h => by simp at h
  | y :: r, 0, x, h => by
    obtain rfl : y = x := by simpa using h
    exact ⟨rfl, rfl⟩
  | y :: r, i + 1, x, h => by
    have := leavesV_at r i x (by simpa using h)
    simp only [leavesV, show 2 * (i + 1) = 2 * i + 1 + 1 by omega, List.getElem?_cons_succ]
    exact this
theorem leavesV_cell : ∀ (ls : List Lf) (j : Nat) (u : Value), (leavesV ls)[j]? = some u → ∃ i x, ls[i]? = some x ∧ (j = 2 * i ∧ u = .string x.1 ∨ j = 2 * i + 1 ∧ u = .string x.2)
  | [], j, u, h => by simp [leavesV] at h
  | y :: r, 0, u, h => ⟨0, y, rfl, Or.inl ⟨rfl, by simpa [leavesV] using h.symm⟩⟩
  | y :: r, 1, u, h => ⟨0, y, rfl, Or.inr ⟨rfl, by simpa [leavesV] using h.symm⟩⟩
  | y :: r, j + 2, u, h => by
    obtain ⟨i, x, hx, e⟩ := leavesV_cell r j u (by simpa [leavesV] using h)
    refine ⟨i + 1, x, by simpa using hx, ?_⟩
    rcases e with ⟨rfl, e⟩ | ⟨rfl, e⟩
    · exact Or.inl ⟨by omega, e⟩
    · exact Or.inr ⟨by omega, e⟩
/-- Leaves in a block that begins with them. -/
theorem lvs_of_row {w : World} {B : Nat} {v : Value} {n : Nat} {ls : List Lf} {t : TypeId} (hl : ls.length = n) (h : w.ownsRow B t 2 v n (leavesV ls)) (hv : v ≠ .slice none 0 0) : ∃ g cap, v = .slice (some ⟨g, 0, none⟩) n cap ∧ B ≤ g ∧ n ≤ cap ∧ Lvs w g 0 ls := by
  obtain ⟨h1, ⟨e, _⟩ | ⟨g, cap, cur, rfl, hB, hg, hc, hm, hs, ht⟩⟩ := h
  · exact absurd e hv
  refine ⟨g, cap, rfl, hB, hc, (Array.getElem?_eq_some_iff.1 hg).1, fun i x hx => ?_⟩
  have hcell : ∀ j u, (leavesV ls)[j]? = some u → w.cell? ⟨g, 0 + j, none⟩ = some u := by
    intro j u hj
    rw [← ht, List.getElem?_take] at hj
    split at hj
    · rw [Nat.zero_add]
      exact Blk.cell (w := w) (b := g) (t := t) (cs := cur.toList) hg hj
    · cases hj
  exact ⟨hcell _ _ (leavesV_at ls i x hx).1, hcell _ _ (leavesV_at ls i x hx).2⟩
def zeroLeaf : Value := .agg #[.string ByteArray.empty, .string ByteArray.empty]
theorem leafinfo : (Tryd.prog.info? 41).map (fun i => (i.zero, i.size, i.bytes)) = some (some zeroLeaf, 2, 32) := by kernel_rfl

set_option maxHeartbeats 1000000 in
set_option maxRecDepth 100000 in
theorem clone_any (ls : List Lf) (b off n c : Nat) (hl : ls.length = n) (hn : n ≤ 4096) (w : World) (hL : Lvs w b off ls) :
    Calls Tryd.prog 53 #[.slice (some ⟨b, off, none⟩) n c] w fun e w' => ∃ g cap, e = .returned (.slice (some ⟨g, 0, none⟩) n cap) ∧ w.heap.size ≤ g ∧ n ≤ cap ∧ Lvs w' g 0 ls ∧ Below w.heap.size w w' := by
  obtain ⟨i0, hi, hz0, hz1, hz2⟩ := info_parts leafinfo
  have q22 : ∀ (w : World) (a : Option Addr) (n c n' c' : Nat), (binOp .eql 33 (.slice a n c) (.slice none n' c')).run Tryd.prog w = .ok (.bool a.isNone) w := fun w a n c n' c' => Lib.run_eql_slice_nil w _ _ a n c n' c' Tryd.underlying33
  have hlen := leavesV_length ls
  rw [hl] at hlen
  have HC := Lib.hid (show ∀ j u, (leavesV ls)[j]? = some u → w.cell? ⟨b, off + j, none⟩ = some u from fun j u hj => by
    obtain ⟨i, x, hx, ⟨rfl, rfl⟩ | ⟨rfl, rfl⟩⟩ := leavesV_cell ls j u hj
    · exact (hL.2 i x hx).1
    · exact (hL.2 i x hx).2)
  have HO := Lib.hid (show ∀ u ∈ leavesV ls, u.oneCell' = true from fun u hu => by
    obtain ⟨j, hj⟩ := List.mem_iff_getElem?.1 hu
    obtain ⟨i, x, _, ⟨_, rfl⟩ | ⟨_, rfl⟩⟩ := leavesV_cell ls j u hj <;> rfl)
  have HR := Lib.hid (fun (V : World) (v : Value) (h : V.ownsRow w.heap.size 41 2 v n (leavesV ls)) (hv : v ≠ .slice none 0 0) => lvs_of_row hl h hv)
  clear hl hL
  generalize leavesV ls = news at hlen HC HO HR
  go_enter Tryd.func53, Tryd.ntmps53
  go_wp2_with (at_builtin; refine wpList_append_own _ rfl _ _ 33 rfl w.heap.size 41 i0 zeroLeaf 2 32 Tryd.underlying33 hi hz0 hz1 hz2 rfl (by decide) _ _ _ rfl (World.ownsRow_made w #[] 0 (Nat.le_refl _) (Nat.zero_le _) (by simp)) ⟨b, off, none⟩ n c news rfl ?qc1 ?qc2 ?qc3 ?qc4 ?qc5 ?qc6 ?_)
  case qc1 => exact hlen
  case qc2 =>
    intro j u hj
    rw [Addr.add_lit]
    exact Lib.cell?_alloc_some _ (HC.out j u hj)
  case qc3 => exact HO.out
  case qc4 => unfold maxLen; omega
  case qc5 => omega
  case qc6 => simp
  intro v' w1 hown hgrow hnil
  have hB : Below w.heap.size w w1 := ((Below.refl _ w).alloc (Nat.le_refl _) _).grown hgrow (by simp) (by intro k hk; simp [Value.ownBlock] at hk; omega)
  obtain ⟨g, cap, rfl, h1, h2, h3⟩ := HR.out w1 v' (by simpa using hown) hnil
  clear hown hgrow hnil HR
  go_wp2
  go_ret
  exact ⟨g, cap, rfl, h1, h2, h3, hB⟩

theorem clone_nil (n c : Nat) (w : World) :
    Calls Tryd.prog 53 #[.slice none n c] w fun e w' => e = .returned (.slice none 0 0) ∧ w' = w := by
  have q22 : ∀ (w : World) (a : Option Addr) (n c n' c' : Nat), (binOp .eql 33 (.slice a n c) (.slice none n' c')).run Tryd.prog w = .ok (.bool a.isNone) w := fun w a n c n' c' => Lib.run_eql_slice_nil w _ _ a n c n' c' Tryd.underlying33
  go_enter Tryd.func53, Tryd.ntmps53
  go_wp2
  go_ret
  exact ⟨rfl, rfl⟩

end Go.Proofs.YtfhfmdnimebegaaDoor
