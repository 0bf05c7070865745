/-
  Bytes of a conversion's own row: []byte of a string, changed in place, and back.
-/
import Derived.Test.YtjpiidfoegaenaaRo
namespace Go.Proofs.Ytjpiidfoegaenaa
open Go.RowKit
set_option linter.unusedVariables false
set_option linter.unusedSimpArgs false

/-- A row whose first cells are these bytes, free to be written. -/
def BRow (w : World) (b : Nat) (l : List Nat) : Prop := ∃ (cur : Array Value) (fr : Nat × Nat), w.heap[b]? = some (.cells cur 5 fr) ∧ l.length ≤ fr.1 ∧ ∀ (j y : Nat), l[j]? = some y → cur[j]? = some (Value.int .u8 (y : Int))
theorem BRow.lt {w : World} {b : Nat} {l : List Nat} (h : BRow w b l) : b < w.heap.size := by
  obtain ⟨cur, fr, h, _⟩ := h
  exact (Array.getElem?_eq_some_iff.1 h).1
theorem BRow.cell {w : World} {b : Nat} {l : List Nat} (h : BRow w b l) {j y : Nat} (hj : l[j]? = some y) : w.cell? ⟨b, j, none⟩ = some (.int .u8 (y : Int)) := by
  obtain ⟨cur, fr, h, _, hc⟩ := h
  rw [cell_of_row w b j _ _ _ h]
  exact hc j y hj
theorem BRow.free {w : World} {b : Nat} {l : List Nat} (h : BRow w b l) {j : Nat} (hj : j < l.length) : w.frozen? ⟨b, j, none⟩ = false := by
  obtain ⟨cur, ⟨lo, hi⟩, h, hl, hc⟩ := h
  have hl : l.length ≤ lo := hl
  simp [World.frozen?, h]
  omega
theorem BRow.set {w : World} {b : Nat} {l : List Nat} (h : BRow w b l) {j : Nat} (hj : j < l.length) (y : Nat) : BRow (w.setCell ⟨b, j, none⟩ (.int .u8 (y : Int))) b (l.set j y) := by
  obtain ⟨cur, fr, h, hl, hc⟩ := h
  refine ⟨cur.setIfInBounds j (.int .u8 (y : Int)), fr, by simp [World.setCell, Array.getElem?_modify, h], by rw [List.length_set]; exact hl, fun i z hi => ?_⟩
  have hcur : j < cur.size := (Array.getElem?_eq_some_iff.1 (hc j _ (List.getElem?_eq_getElem hj))).1
  rw [Array.getElem?_setIfInBounds]
  rw [List.getElem?_set] at hi
  split at hi
  · rename_i e
    subst e
    rw [if_pos rfl, if_pos hcur]
    first | (rw [if_pos hj] at hi) | skip
    injection hi with hi
    rw [hi]
  · rename_i e
    rw [if_neg e]
    exact hc i z hi
theorem BRow.keep {w w' : World} {b : Nat} {l : List Nat} (h : BRow w b l) (hb : Below w.heap.size w w') : BRow w' b l := by
  have hlt := h.lt
  obtain ⟨cur, fr, h, hr⟩ := h
  exact ⟨cur, fr, (hb.block b hlt).trans h, hr⟩
theorem sb_get0 {s : ByteArray} {i : Nat} (h : i < s.data.size) : (sb s)[i]? = some (s.data[i]'h).toNat := by
  unfold sb
  rw [List.getElem?_map, Array.getElem?_toList, Array.getElem?_eq_getElem h]
  rfl
/-- []byte(s). -/
theorem conv_str (w : World) (s : ByteArray) : ∃ W' cap, (convert 9 48 (.string s)).run Try.prog w = .ok (.slice (some ⟨w.heap.size, 0, none⟩) s.size cap) W' ∧ Below w.heap.size w W' ∧ BRow W' w.heap.size (sb s) := by
  refine ⟨_, _, run_bytes_of_string w 9 48 5 s Try.underlying9 Try.underlying48 Try.underlying5, ?_, ?_⟩
  · exact (below_drew (Below.refl _ _)).alloc (Nat.le_refl _) _
  · refine ⟨_, _, heap_alloc_new _ _, ?_, fun j y hj => ?_⟩
    · rw [sb_length]
      show s.size ≤ (bytesRow s _).size
      unfold bytesRow
      rw [Array.size_append, Array.size_map]
      show s.data.size ≤ _
      omega
    · have hlt := (List.getElem?_eq_some_iff.1 hj).1
      rw [sb_length] at hlt
      have h2 : j < s.data.size := hlt
      rw [bytesRow_at s _ j h2]
      have := (sb_get0 h2).symm.trans hj
      injection this with this
      rw [← this]
/-- string(b). -/
theorem conv_back {w : World} {b : Nat} {l : List Nat} (h : BRow w b l) (hl : ∀ y ∈ l, y < 256) {n : Nat} (hn : l.length = n) (c : Nat) : (convert 48 9 (.slice (some ⟨b, 0, none⟩) n c)).run Try.prog w = .ok (.string (strOf l)) w := by
  subst hn
  exact conv_cells w ⟨b, 0, none⟩ c l hl (fun j u hj => by
    unfold bytesV at hj
    rw [List.getElem?_map] at hj
    rcases hy : l[j]? with _ | y
    · rw [hy] at hj; cases hj
    · rw [hy] at hj
      have hj : byteV y = u := by simpa using hj
      rw [Addr.add_mid, Nat.zero_add, ← hj]
      exact h.cell hy)

end Go.Proofs.Ytjpiidfoegaenaa
