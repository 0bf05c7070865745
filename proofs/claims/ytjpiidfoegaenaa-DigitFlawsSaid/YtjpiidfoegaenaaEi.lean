/-
  What Sort and Compact make of a list: the strictly increasing list of its members.
-/
import Derived.Test.YtjpiidfoegaenaaEh
import Derived.Sort.KeysCollected
namespace Go.Proofs.Ytjpiidfoegaenaa
open Go
set_option linter.unusedVariables false
set_option linter.unusedSimpArgs false

/-- Before, and not the same. -/
def SL (x y : List UInt8) : Prop := x ≤ y ∧ x ≠ y
theorem SL.of {x y z : List UInt8} (h1 : x ≤ y) (h2 : y ≤ z) (h3 : y ≠ z) : SL x z := ⟨List.le_trans h1 h2, fun e => h3 (List.le_antisymm h2 (e ▸ h1))⟩
theorem sl_same {l m : List (List UInt8)} (hl : l.Pairwise SL) (hm : m.Pairwise SL) (h : ∀ x, x ∈ l ↔ x ∈ m) : l = m := by
  have n1 : l.Nodup := hl.imp fun h => h.2
  have n2 : m.Nodup := hm.imp fun h => h.2
  exact List.Perm.eq_of_pairwise (le := fun a b => a ≤ b) (fun a b _ _ h1 h2 => List.le_antisymm h1 h2) (hl.imp fun h => h.1) (hm.imp fun h => h.1) ((List.perm_ext_iff_of_nodup n1 n2).2 h)
theorem comp_upto (zs : List (List UInt8)) (hs : zs.Pairwise (fun a b => a ≤ b)) : ∀ m, m ≤ zs.length → (Lib.compactUpTo zs.toArray m).Pairwise SL ∧ (∀ x ∈ Lib.compactUpTo zs.toArray m, x ≤ zs.toArray[m - 1]!) ∧ ∀ x, x ∈ Lib.compactUpTo zs.toArray m ↔ x ∈ zs.take m
  | 0, _ => by simp [Lib.compactUpTo]
  | m + 1, hm => by
    obtain ⟨h1, h2, h3⟩ := comp_upto zs hs m (by omega)
    have hlt : m < zs.length := hm
    have e0 : zs.toArray[m]! = zs[m]'hlt := by rw [getElem!_pos zs.toArray m (by simpa using hlt)]; simp
    have e1 : zs.take (m + 1) = zs.take m ++ [zs[m]'hlt] := by rw [List.take_add_one, List.getElem?_eq_getElem hlt]; rfl
    rw [Lib.compactUpTo_succ, e1, Nat.add_sub_cancel, e0]
    by_cases hk : Lib.keeps zs.toArray m = true
    · rw [if_pos hk]
      refine ⟨?_, ?_, ?_⟩
      · rw [List.pairwise_append]
        refine ⟨h1, List.pairwise_singleton _ _, fun x hx y hy => ?_⟩
        rw [List.mem_singleton.1 hy]
        unfold Lib.keeps at hk
        have hk := of_decide_eq_true hk
        rcases Nat.eq_zero_or_pos m with h0 | h0
        · subst h0; simp [Lib.compactUpTo] at hx
        · have hk := hk.resolve_left (by omega)
          have hlt' : m - 1 < zs.length := by omega
          have e2 : zs.toArray[m - 1]! = zs[m - 1]'hlt' := by rw [getElem!_pos zs.toArray (m - 1) (by simpa using hlt')]; simp
          rw [e0, e2] at hk
          have := h2 x hx
          rw [e2] at this
          exact SL.of this (List.pairwise_iff_getElem.1 hs (m - 1) m hlt' hlt (by omega)) (fun e => hk e.symm)
      · intro x hx
        rcases List.mem_append.1 hx with h | h
        · have h := (h3 x).1 h
          obtain ⟨j, hj⟩ := List.mem_iff_getElem?.1 h
          rw [List.getElem?_take] at hj
          split at hj
          · rename_i hjm
            obtain ⟨hj1, hj2⟩ := List.getElem?_eq_some_iff.1 hj
            rw [← hj2]
            exact List.pairwise_iff_getElem.1 hs j m hj1 hlt hjm
          · cases hj
        · rw [List.mem_singleton.1 h]; exact List.le_refl _
      · intro x
        rw [List.mem_append, List.mem_append, h3]
    · rw [if_neg hk, List.append_nil]
      have hk0 : 0 < m := by
        rcases Nat.eq_zero_or_pos m with h0 | h0
        · exact absurd (by rw [h0]; exact Lib.keeps_lt_one _ 0 (by omega)) hk
        · exact h0
      have hlt' : m - 1 < zs.length := by omega
      have e2 : zs.toArray[m - 1]! = zs[m - 1]'hlt' := by rw [getElem!_pos zs.toArray (m - 1) (by simpa using hlt')]; simp
      have he : zs[m]'hlt = zs[m - 1]'hlt' := by
        rw [← e0, ← e2]
        exact Classical.byContradiction fun h => hk (Lib.keeps_pos h)
      refine ⟨h1, fun x hx => by rw [he, ← e2]; exact h2 x hx, fun x => ?_⟩
      rw [h3, List.mem_append]
      constructor
      · exact Or.inl
      · rintro (h | h)
        · exact h
        · rw [List.mem_singleton.1 h, he]
          exact List.mem_iff_getElem?.2 ⟨m - 1, by rw [List.getElem?_take, if_pos (by omega)]; exact List.getElem?_eq_getElem hlt'⟩
theorem bsL_ofB (l : List (List UInt8)) : bsL (ofB l) = l := by
  unfold bsL ofB
  rw [List.map_map]
  conv => rhs; rw [← List.map_id l]
  exact List.map_congr_left fun b _ => rfl
/-- The strictly increasing list of the members is the only one. -/
theorem comp_sort (F : List ByteArray) : (bsL (compL (sortL F))).Pairwise SL ∧ ∀ x, x ∈ bsL (compL (sortL F)) ↔ x ∈ bsL F := by
  have e : bsL (compL (sortL F)) = Lib.compact ((bsL F).mergeSort fun x y => decide (x ≤ y)) := by unfold compL; rw [bsL_ofB, bsL_sort]
  have tr : ∀ a b c : List UInt8, decide (a ≤ b) = true → decide (b ≤ c) = true → decide (a ≤ c) = true := fun a b c h1 h2 => by simp only [decide_eq_true_eq] at *; exact List.le_trans h1 h2
  have tot : ∀ a b : List UInt8, (decide (a ≤ b) || decide (b ≤ a)) = true := fun a b => by simp only [Bool.or_eq_true, decide_eq_true_eq]; exact List.le_total a b
  have hs : ((bsL F).mergeSort fun x y => decide (x ≤ y)).Pairwise (fun a b => a ≤ b) := (List.pairwise_mergeSort (le := fun x y => decide (x ≤ y)) tr tot (bsL F)).imp fun h => of_decide_eq_true h
  obtain ⟨h1, _, h3⟩ := comp_upto _ hs _ (Nat.le_refl _)
  rw [e]
  refine ⟨h1, fun x => ?_⟩
  have := h3 x
  rw [List.take_length] at this
  exact this.trans (List.mergeSort_perm (bsL F) _).mem_iff
theorem comp_is {F T : List ByteArray} (h1 : (bsL T).Pairwise SL) (h2 : ∀ x, x ∈ bsL T ↔ x ∈ bsL F) : compL (sortL F) = T := by
  obtain ⟨g1, g2⟩ := comp_sort F
  have := sl_same g1 h1 (fun x => (g2 x).trans (h2 x).symm)
  rw [← ofB_bsL (compL (sortL F)), this, ofB_bsL]
end Go.Proofs.Ytjpiidfoegaenaa
