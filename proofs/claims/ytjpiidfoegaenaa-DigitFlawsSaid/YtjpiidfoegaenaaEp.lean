/-
  Weak of the reference: the plain mathematics, and lost as Weak calls it.
-/
import Derived.Test.YtjpiidfoegaenaaEn
import Derived.Test.YtjpiidfoegaenaaDi
namespace Go.Proofs.Ytjpiidfoegaenaa
open Go Go.RowKit
set_option linter.unusedVariables false
set_option linter.unusedSimpArgs false

theorem dot_set (d : Int) : ∀ (W L : List Int) (i : Nat), i < W.length → W.length = L.length → dotT W (L.set i d) = dotT W L + wAt W i * (d - wAt L i)
  | w :: W, x :: L, 0, _, _ => by
    show w * d + dotT W L = w * x + dotT W L + w * (d - x)
    rw [Int.mul_sub]; omega
  | w :: W, x :: L, i + 1, h, e => by
    have := dot_set d W L i (by simpa using h) (by simpa using e)
    show w * x + dotT W (L.set i d) = w * x + dotT W L + wAt W i * (d - wAt L i)
    rw [this]; omega
  | [], L, i, h, _ => by simp at h
  | w :: W, [], i, _, e => by simp at e
theorem dot_zeros : ∀ (W : List Int) (n : Nat), dotT W (List.replicate n 0) = 0
  | [], n => by cases n <;> rfl
  | w :: W, 0 => rfl
  | w :: W, n + 1 => by
    have := dot_zeros W n
    rw [List.replicate_succ]
    show w * 0 + dotT W (List.replicate n 0) = 0
    rw [this]; simp
theorem wAt_zeros (n i : Nat) : wAt (List.replicate n 0) i = 0 := by
  unfold wAt
  rw [List.getElem?_replicate]
  split <;> rfl
theorem wAt_other {L : List Int} {i j : Nat} (h : i ≠ j) (d : Int) : wAt (L.set i d) j = wAt L j := by
  unfold wAt
  rw [List.getElem?_set_ne h]
theorem one_eq {W : List Int} {n i : Nat} (hl : W.length = n) (hi : i < n) (d m : Int) : decide (dotT W ((List.replicate n (0 : Int)).set i 0) % m = dotT W ((List.replicate n (0 : Int)).set i d) % m) = decide (wAt W i * d % m = 0) := by
  rw [dot_set 0 W _ i (by omega) (by simp [hl]), dot_set d W _ i (by omega) (by simp [hl]), dot_zeros, wAt_zeros]
  simp only [Int.sub_zero, Int.mul_zero, Int.add_zero, Int.zero_add, Int.zero_emod]
  exact decide_eq_decide.2 ⟨fun h => h.symm, fun h => h.symm⟩
theorem two_eq {W : List Int} {n i i1 : Nat} (hl : W.length = n) (hi : i + 1 = i1) (hi1 : i1 < n) (d m : Int) : decide (dotT W (((List.replicate n (0 : Int)).set i 0).set i1 d) % m = dotT W (((List.replicate n (0 : Int)).set i d).set i1 0) % m) = decide ((wAt W i - wAt W i1) * d % m = 0) := by
  rw [dot_set d W _ i1 (by omega) (by simp [hl]), dot_set 0 W (((List.replicate n (0 : Int)).set i d)) i1 (by omega) (by simp [hl]), dot_set 0 W _ i (by omega) (by simp [hl]), dot_set d W _ i (by omega) (by simp [hl]), dot_zeros, wAt_zeros, wAt_other (by omega), wAt_other (by omega), wAt_zeros]
  simp only [Int.sub_zero, Int.mul_zero, Int.add_zero, Int.zero_add]
  refine decide_eq_decide.2 ?_
  rw [Int.sub_mul]
  exact ⟨fun h => Int.emod_eq_emod_iff_emod_sub_eq_zero.1 h.symm, fun h => (Int.emod_eq_emod_iff_emod_sub_eq_zero.2 h).symm⟩
/-- None of the first k slips is lost, as far as there are any. -/
def Cl (l : List Int) (m1 k : Nat) : Prop := ∀ j, j < k → j < slN l.length m1 → slC l m1 j % ((m1 : Int) + 1) ≠ 0
theorem cl_step {l : List Int} {m1 k : Nat} (h : Cl l m1 k) (hk : slC l m1 k % ((m1 : Int) + 1) ≠ 0) : Cl l m1 (k + 1) := fun j hj hn => by
  rcases Nat.lt_or_ge j k with h1 | h1
  · exact h j h1 hn
  · obtain rfl : j = k := by omega
    exact hk
theorem cl_end {l : List Int} {m1 i : Nat} (h : Cl l m1 (i * (2 * m1) + m1)) (hi : i + 1 = l.length) : Cl l m1 ((i + 1) * (2 * m1)) := fun j hj hn => h j (by rw [← slN_eq hi]; exact hn) hn
theorem cl_all {l : List Int} {m1 n : Nat} (h : Cl l m1 (n * (2 * m1))) (hl : l.length = n) : weakK l m1 = none := weak_no fun j hj => h j (by unfold slN at hj; rw [hl] at hj; omega) hj
theorem toNat_m (m1 : Nat) : ((m1 + 1 : Nat) : Int).toNat - 1 = m1 := by rw [Int.toNat_natCast]; omega
theorem weak_first {l : List Int} {m1 k : Nat} (hs : schE l ((m1 + 1 : Nat) : Int) = 0) (hc : Cl l m1 k) (hk : k < slN l.length m1) (hz : slC l m1 k % ((m1 : Int) + 1) = 0) : weakF l ((m1 + 1 : Nat) : Int) = slF m1 k ∧ weakB l ((m1 + 1 : Nat) : Int) = true := by
  have h1 := weak_yes (l := l) (m1 := m1) (k := k) (fun j hj => hc j hj (by omega)) hk hz
  unfold weakF weakB
  rw [if_neg (fun h => h hs), if_neg (fun h => h hs), toNat_m, h1]
  exact ⟨rfl, rfl⟩
theorem weak_none {l : List Int} {m1 n : Nat} (hs : schE l ((m1 + 1 : Nat) : Int) = 0) (hl : l.length = n) (hc : Cl l m1 (n * (2 * m1))) : weakF l ((m1 + 1 : Nat) : Int) = flZ ∧ weakB l ((m1 + 1 : Nat) : Int) = false := by
  have h1 := cl_all hc hl
  unfold weakF weakB
  rw [if_neg (fun h => h hs), if_neg (fun h => h hs), toNat_m, h1]
  exact ⟨rfl, rfl⟩
/-- A slip, its number. -/
theorem at_one {l : List Int} {m1 i d : Nat} (hi : i < l.length) (hd : 1 ≤ d ∧ d ≤ m1) : slF m1 (i * (2 * m1) + (d - 1)) = ⟨(i : Nat), -1, 0, (d : Int)⟩ ∧ slC l m1 (i * (2 * m1) + (d - 1)) = wAt l i * (d : Int) ∧ i * (2 * m1) + (d - 1) < slN l.length m1 := by
  have := sl_one (l := l) (m1 := m1) (i := i) (d := d - 1) (by omega)
  rw [show d - 1 + 1 = d by omega] at this
  exact ⟨this.1, this.2, by have := slN_lt (m1 := m1) hi; omega⟩
theorem at_two {l : List Int} {m1 i i1 d : Nat} (hi : i + 1 = i1) (hi1 : i1 < l.length) (hd : 1 ≤ d ∧ d ≤ m1) : slF m1 (i * (2 * m1) + m1 + (d - 1)) = ⟨(i : Nat), (i1 : Int), 0, (d : Int)⟩ ∧ slC l m1 (i * (2 * m1) + m1 + (d - 1)) = (wAt l i - wAt l i1) * (d : Int) ∧ i * (2 * m1) + m1 + (d - 1) < slN l.length m1 := by
  have := sl_two (l := l) (m1 := m1) (i := i) (d := d - 1) (by omega)
  subst hi
  rw [show d - 1 + 1 = d by omega] at this
  refine ⟨this.1, this.2, ?_⟩
  have := slN_lt2 (m1 := m1) hi1
  rw [Nat.succ_mul] at this
  omega
end Go.Proofs.Ytjpiidfoegaenaa
