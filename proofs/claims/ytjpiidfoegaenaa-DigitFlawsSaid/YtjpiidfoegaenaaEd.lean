/-
  slices.Sort and slices.Compact of a list of strings of one's own.
-/
import Derived.Test.YtjpiidfoegaenaaEc
import Derived.Test.YtjpiidfoegaenaaShelf
import Derived.Sort.OwnSorted
namespace Go.Proofs.Ytjpiidfoegaenaa
open Go Go.RowKit Go.Sort
set_option linter.unusedVariables false
set_option linter.unusedSimpArgs false

/-- The bytes of strings; strings of bytes. -/
def bsL (L : List ByteArray) : List (List UInt8) := L.map fun s => s.data.toList
def ofB (l : List (List UInt8)) : List ByteArray := l.map fun b => ⟨b.toArray⟩
theorem ofB_bsL (L : List ByteArray) : ofB (bsL L) = L := by
  unfold ofB bsL
  rw [List.map_map]
  conv => rhs; rw [← List.map_id L]
  exact List.map_congr_left fun s _ => by show (⟨s.data.toList.toArray⟩ : ByteArray) = s; rw [Array.toArray_toList]
theorem row_str (L : List ByteArray) : strE.row L = (bsL L).map encStr := by
  unfold Elt.row bsL
  rw [List.map_map]
  induction L with
  | nil => rfl
  | cons s L ih =>
    rw [List.flatMap_cons, ih]
    show [Value.string s] ++ _ = _ :: _
    congr 1
theorem row_of (l : List (List UInt8)) : strE.row (ofB l) = l.map encStr := by
  unfold Elt.row ofB
  induction l with
  | nil => rfl
  | cons b l ih => rw [List.map_cons, List.flatMap_cons, ih]; rfl
/-- What Sort makes of a list of strings. -/
def sortL (L : List ByteArray) : List ByteArray := ofB ((bsL L).mergeSort fun x y => decide (x ≤ y))
def compL (L : List ByteArray) : List ByteArray := ofB (Lib.compact (bsL L))
theorem sortL_len (L : List ByteArray) : (sortL L).length = L.length := by unfold sortL ofB bsL; simp
theorem bsL_sort (L : List ByteArray) : bsL (sortL L) = (bsL L).mergeSort fun x y => decide (x ≤ y) := by
  unfold sortL ofB
  generalize (bsL L).mergeSort (fun x y => decide (x ≤ y)) = l
  unfold bsL
  rw [List.map_map]
  conv => rhs; rw [← List.map_id l]
  exact List.map_congr_left fun b _ => rfl
theorem grown_rest {w w' : World} {v : Value} {row : Option Nat} (hg : w.grownBy w' row) (hr : ∀ r, row = some r → v.ownBlock = some r) : Rest v w w' := fun b t cs hne hk => by
  unfold Blk at *
  rw [hg.block b (Array.getElem?_eq_some_iff.1 hk).1 (fun e => hne (hr b e.symm))]
  exact hk
theorem sort_own (L : List ByteArray) (q : Option Addr) (n c : Nat) (hn : L.length = n) (hn6 : n ≤ 1000000000000) (w : World) (B : Nat) (hB : B ≤ w.heap.size) (hO : OwnR strE w B (.slice q n c) L) :
    Calls Try.prog 47 #[.slice q n c] w fun e w' => e = .returned (.tuple #[]) ∧ OwnR strE w' B (.slice q n c) (sortL L) ∧ Below B w w' ∧ Rest (.slice q n c) w w' := by
  rcases Nat.eq_zero_or_pos n with h0 | h0
  · subst h0
    obtain rfl := List.eq_nil_of_length_eq_zero hn
    refine (Try.slices_Sort_string_none q c w).mono ?_
    rintro e w' ⟨rfl, rfl⟩
    exact ⟨rfl, by rw [show sortL [] = [] from List.eq_nil_of_length_eq_zero (sortL_len [])]; exact hO, (Below.refl _ _).mono hB, fun _ _ _ _ h => h⟩
  · have hO2 := hO
    obtain ⟨h1, ⟨e, h2⟩ | ⟨g, cap, cur, hv, hBg, hg, hc, hm, hs, ht⟩⟩ := hO2
    · omega
    · injection hv with e1 e2 e3
      subst e1 e2 e3
      have hk : strE.k = 1 := rfl
      rw [hk, Nat.mul_one, row_str] at ht
      rw [hk, Nat.mul_one] at hs
      have hlen : (bsL L).length = L.length := by unfold bsL; rw [List.length_map]
      rw [← hlen] at ht
      have CS := Try.slices_Sort_string g 0 c (bsL L) w (holds_of_block hg ht) (Array.getElem?_eq_some_iff.1 hg).1 (by rw [hlen]; omega)
      rw [hlen] at CS
      refine CS.mono ?_
      rintro e w' ⟨rfl, nn, os, rfl⟩
      have hl2 : ((bsL L).mergeSort fun x y => decide (x ≤ y)).length = (bsL L).length := by simp
      have hS := ownsRow_sorted (w := w) (n := nn) (os := os) hl2 hBg hg (by rw [hlen]; exact hc) hm (by rw [hs, Nat.mul_one])
      have hG := grownBy_sorted (w := w) (g := g) (n := nn) (os := os) ((bsL L).mergeSort fun x y => decide (x ≤ y)).toArray
      refine ⟨rfl, ?_, ((Below.refl _ w).mono hB).grown hG hB (fun r e => by cases e; exact hBg), grown_rest hG (fun r e => by cases e; rfl)⟩
      unfold OwnR
      rw [sortL_len]
      unfold sortL
      rw [row_of]
      rw [hlen] at hS
      exact hS
theorem comp_own (L : List ByteArray) (q : Option Addr) (n c : Nat) (hn : L.length = n) (hn6 : n ≤ 1000000000000) (w : World) (B : Nat) (hB : B ≤ w.heap.size) (hO : OwnR strE w B (.slice q n c) L) :
    Calls Try.prog 48 #[.slice q n c] w fun e w' => ∃ v, e = .returned v ∧ OwnR strE w' B v (compL L) ∧ Below B w w' := by
  rcases Nat.eq_zero_or_pos n with h0 | h0
  · subst h0
    obtain rfl := List.eq_nil_of_length_eq_zero hn
    refine (Try.slices_Compact_string_empty q c w).mono ?_
    rintro e w' ⟨rfl, rfl⟩
    exact ⟨_, rfl, hO, (Below.refl _ _).mono hB⟩
  · have hO2 := hO
    obtain ⟨h1, ⟨e, h2⟩ | ⟨g, cap, cur, hv, hBg, hg, hc, hm, hs, ht⟩⟩ := hO2
    · omega
    · injection hv with e1 e2 e3
      subst e1 e2 e3
      have hk : strE.k = 1 := rfl
      rw [hk, Nat.mul_one, row_str] at ht
      rw [hk, Nat.mul_one] at hs
      have hlen : (bsL L).length = L.length := by unfold bsL; rw [List.length_map]
      rw [← hlen] at ht
      have CS := Try.slices_Compact_string g 0 c (bsL L) w (holds_of_block hg ht) (by rw [hlen]; omega) (by rw [hlen]; exact hc)
      rw [hlen] at CS
      refine CS.mono ?_
      rintro e w' ⟨rfl, nn, rfl⟩
      have hle := Lib.compact_length_le (bsL L)
      have hl2 : (Lib.compact (bsL L) ++ List.replicate ((bsL L).length - (Lib.compact (bsL L)).length) []).length = (bsL L).length := by rw [List.length_append, List.length_replicate]; omega
      have hS := ownsRow_sorted (w := w) (n := nn) (os := #[]) hl2 hBg hg (by rw [hlen]; exact hc) hm (by rw [hs, Nat.mul_one])
      have hG := grownBy_sorted (w := w) (g := g) (n := nn) (os := #[]) (Lib.compact (bsL L) ++ List.replicate ((bsL L).length - (Lib.compact (bsL L)).length) []).toArray
      rw [grow_empty] at hS hG
      rw [hlen] at hS hG hl2
      have hX : OwnR strE (putRow encStr (Sort.ahead w nn) g 0 (Lib.compact (bsL L) ++ List.replicate (L.length - (Lib.compact (bsL L)).length) []).toArray) B (.slice (some ⟨g, 0, none⟩) L.length c) (ofB (Lib.compact (bsL L)) ++ ofB (List.replicate (L.length - (Lib.compact (bsL L)).length) [])) := by
        unfold OwnR
        have e1 : ofB (Lib.compact (bsL L)) ++ ofB (List.replicate (L.length - (Lib.compact (bsL L)).length) []) = ofB (Lib.compact (bsL L) ++ List.replicate (L.length - (Lib.compact (bsL L)).length) []) := by unfold ofB; rw [List.map_append]
        rw [e1, row_of, show (ofB (Lib.compact (bsL L) ++ List.replicate (L.length - (Lib.compact (bsL L)).length) [])).length = L.length by unfold ofB; rw [List.length_map]; exact hl2]
        exact hS
      have hY := own_trunc hX
      rw [show (ofB (Lib.compact (bsL L))).length = (Lib.compact (bsL L)).length by unfold ofB; rw [List.length_map]] at hY
      exact ⟨_, rfl, hY, ((Below.refl _ w).mono hB).grown hG hB (fun r e => by cases e; exact hBg)⟩
end Go.Proofs.Ytjpiidfoegaenaa
