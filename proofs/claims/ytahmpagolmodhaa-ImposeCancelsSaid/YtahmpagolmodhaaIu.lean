/-
  The sheets of replaced leaves as the program finds them: what is left of the leaves. Plain mathematics.
-/
import Derived.Test.YtahmpagolmodhaaIm
namespace Go.Proofs.Ytahmpagolmodhaa
set_option linter.unusedVariables false
set_option linter.unusedSimpArgs false

/-- The leaves for which no sheet has come. -/
def leftI (c : List Int) (P : List (Int × Int)) (z : Int) : Bool := c.contains z && P.all (fun y => z != y.1 && z != y.2)
def hitI (c : List Int) (P : List (Int × Int)) (y : Int × Int) : Bool := leftI c P y.1 || leftI c P y.2
def outI (c : List Int) (P : List (Int × Int)) : List Int := ((List.range P.length).filter (fun i => hitI c (P.take i) (P.getD i (0, 0)))).map (fun (k : Nat) => (k : Int))
theorem left_nil (c : List Int) (z : Int) : leftI c [] z = c.contains z := by simp [leftI]
theorem left_snoc (c : List Int) (P : List (Int × Int)) (y : Int × Int) (z : Int) : leftI c (P ++ [y]) z = ((leftI c P z && z != y.1) && z != y.2) := by
  unfold leftI
  rw [List.all_append]
  simp [Bool.and_assoc]
theorem left_not {c : List Int} {P : List (Int × Int)} {y : Int × Int} (h : hitI c P y = false) (z : Int) : leftI c (P ++ [y]) z = leftI c P z := by
  rw [left_snoc]
  unfold hitI at h
  rw [Bool.or_eq_false_iff] at h
  rcases hz : leftI c P z with _ | _
  · rfl
  · have h1 : z ≠ y.1 := fun e => by rw [← e, hz] at h; cases h.1
    have h2 : z ≠ y.2 := fun e => by rw [← e, hz] at h; cases h.2
    simp [h1, h2]
theorem out_nil (c : List Int) : outI c [] = [] := rfl
theorem out_snoc (c : List Int) (P : List (Int × Int)) (y : Int × Int) : outI c (P ++ [y]) = outI c P ++ (if hitI c P y = true then [(P.length : Int)] else []) := by
  unfold outI
  rw [List.length_append, List.length_singleton, List.range_succ, List.filter_append, List.map_append]
  congr 1
  · congr 1
    apply List.filter_congr
    intro i hi
    rw [List.mem_range] at hi
    rw [List.take_append_of_le_length (by omega), List.getD_eq_getElem?_getD, List.getD_eq_getElem?_getD, List.getElem?_append_left hi]
  · rw [List.filter_cons, List.take_append_of_le_length (Nat.le_refl _), List.take_length, List.getD_eq_getElem?_getD, List.getElem?_append_right (Nat.le_refl _), Nat.sub_self]
    show List.map _ (if hitI c P y = true then [P.length] else []) = _
    split <;> rfl
theorem out_len (c : List Int) (P : List (Int × Int)) : (outI c P).length ≤ P.length := by
  unfold outI
  rw [List.length_map]
  exact Nat.le_trans (List.length_filter_le _ _) (by simp)
/-- The leaves of the first m sheets. -/
def psI (h m : Nat) : List (Int × Int) := (List.range m).map (fun k => (((lfA h k : Nat) : Int), ((lfB h k : Nat) : Int)))
theorem lf_apart {h : Nat} (h1 : 1 ≤ h) (h8 : h ≤ 8) {i j : Nat} (hij : j ≠ i) : lfA h i ≠ lfA h j ∧ lfA h i ≠ lfB h j ∧ lfB h i ≠ lfA h j ∧ lfB h i ≠ lfB h j := by
  have hi := lf_all h h1 h8 i (i + 1) (by have := Nat.mul_le_mul_left (i + 1) h1; omega)
  have hj := lf_all h h1 h8 j (j + 1) (by have := Nat.mul_le_mul_left (j + 1) h1; omega)
  have a1 := hi.2.2.2.2.2.2.1
  have a2 := hi.2.2.2.2.2.2.2
  have b1 := hj.2.2.2.2.2.2.1
  have b2 := hj.2.2.2.2.2.2.2
  refine ⟨fun e => ?_, fun e => ?_, fun e => ?_, fun e => ?_⟩
  · rw [e, b1] at a1; exact hij a1
  · rw [e, b2] at a1; exact hij a1
  · rw [e, b1] at a2; exact hij a2
  · rw [e, b2] at a2; exact hij a2
theorem left_ps {h : Nat} (h1 : 1 ≤ h) (h8 : h ≤ 8) (c : List Int) {m i : Nat} (hm : m ≤ i) : leftI c (psI h m) ((lfA h i : Nat) : Int) = c.contains ((lfA h i : Nat) : Int) ∧ leftI c (psI h m) ((lfB h i : Nat) : Int) = c.contains ((lfB h i : Nat) : Int) := by
  have hA : ∀ j ∈ List.range m, j ≠ i := fun j hj => by rw [List.mem_range] at hj; omega
  unfold leftI psI
  constructor
  · rw [show ((List.range m).map (fun k => (((lfA h k : Nat) : Int), ((lfB h k : Nat) : Int)))).all (fun y => ((lfA h i : Nat) : Int) != y.1 && ((lfA h i : Nat) : Int) != y.2) = true from ?_, Bool.and_true]
    rw [List.all_eq_true]
    intro y hy
    obtain ⟨j, hj, rfl⟩ := List.mem_map.1 hy
    have := lf_apart h1 h8 (hA j hj)
    have g1 : ((lfA h i : Nat) : Int) ≠ ((lfA h j : Nat) : Int) := by omega
    have g2 : ((lfA h i : Nat) : Int) ≠ ((lfB h j : Nat) : Int) := by omega
    simp [g1, g2]
  · rw [show ((List.range m).map (fun k => (((lfA h k : Nat) : Int), ((lfB h k : Nat) : Int)))).all (fun y => ((lfB h i : Nat) : Int) != y.1 && ((lfB h i : Nat) : Int) != y.2) = true from ?_, Bool.and_true]
    rw [List.all_eq_true]
    intro y hy
    obtain ⟨j, hj, rfl⟩ := List.mem_map.1 hy
    have := lf_apart h1 h8 (hA j hj)
    have g1 : ((lfB h i : Nat) : Int) ≠ ((lfA h j : Nat) : Int) := by omega
    have g2 : ((lfB h i : Nat) : Int) ≠ ((lfB h j : Nat) : Int) := by omega
    simp [g1, g2]
theorem ps_snoc (h m : Nat) : psI h (m + 1) = psI h m ++ [(((lfA h m : Nat) : Int), ((lfB h m : Nat) : Int))] := by
  unfold psI; rw [List.range_succ, List.map_append]; rfl
theorem ps_len (h m : Nat) : (psI h m).length = m := by unfold psI; simp
theorem out_ps {h : Nat} (h1 : 1 ≤ h) (h8 : h ≤ 8) (c : List Int) : ∀ m, outI c (psI h m) = ((List.range m).filter (hasT c h)).map (fun (k : Nat) => (k : Int))
  | 0 => rfl
  | m + 1 => by
    rw [ps_snoc, out_snoc, out_ps h1 h8 c m, List.range_succ, List.filter_append, List.map_append, ps_len]
    congr 1
    have := left_ps h1 h8 c (Nat.le_refl m)
    unfold hitI
    dsimp only
    rw [this.1, this.2]
    show (if hasT c h m = true then _ else _) = _
    rw [List.filter_cons]
    split <;> rfl
theorem out_stop {h : Nat} (h1 : 1 ≤ h) (h8 : h ≤ 8) (c : List Int) {m N : Nat} (hm : m ≤ N) (hz : ∀ z, leftI c (psI h m) z = false) : outI c (psI h m) = outI c (psI h N) := by
  rw [out_ps h1 h8, out_ps h1 h8]
  congr 1
  obtain ⟨d, rfl⟩ := Nat.le.dest hm
  rw [List.range_add, List.filter_append]
  rw [show ((List.range d).map (m + ·)).filter (hasT c h) = [] from ?_, List.append_nil]
  rw [List.filter_eq_nil_iff]
  intro i hi
  obtain ⟨j, hj, rfl⟩ := List.mem_map.1 hi
  have := left_ps h1 h8 c (show m ≤ m + j by omega)
  unfold hasT
  rw [← this.1, ← this.2, hz, hz]
  simp
end Go.Proofs.Ytahmpagolmodhaa
