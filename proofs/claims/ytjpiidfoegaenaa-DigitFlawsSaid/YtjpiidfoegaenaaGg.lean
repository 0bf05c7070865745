/-
  When a slip of a scheme is lost: plain mathematics.
-/
import Derived.Test.YtjpiidfoegaenaaEp
namespace Go.Proofs.Ytjpiidfoegaenaa
set_option linter.unusedVariables false
set_option linter.unusedSimpArgs false

/-- Two numbers have a common divisor other than 1. -/
def comB (w m : Int) : Bool := decide (Nat.gcd w.natAbs m.natAbs ≠ 1)
theorem com_no {w : Int} {m : Nat} (h : comB w (m : Int) = false) {d : Int} (hd : w * d % (m : Int) = 0) : d % (m : Int) = 0 := by
  unfold comB at h
  have hg : Nat.gcd w.natAbs m = 1 := by simpa using h
  have h1 : (m : Int) ∣ w * d := Int.dvd_of_emod_eq_zero hd
  have h2 : m ∣ w.natAbs * d.natAbs := by
    have := Int.natAbs_dvd_natAbs.2 h1
    rwa [Int.natAbs_natCast, Int.natAbs_mul] at this
  have h3 : m ∣ d.natAbs := Nat.Coprime.dvd_of_dvd_mul_left (by unfold Nat.Coprime; rw [Nat.gcd_comm]; exact hg) h2
  exact Int.emod_eq_zero_of_dvd (Int.natAbs_dvd_natAbs.1 (by rwa [Int.natAbs_natCast]))
theorem com_yes {w : Int} {m : Nat} (hm : 0 < m) (h : comB w (m : Int) = true) : ∃ d : Nat, 1 ≤ d ∧ d < m ∧ w * (d : Int) % (m : Int) = 0 := by
  unfold comB at h
  have hg : Nat.gcd w.natAbs m ≠ 1 := by simpa using h
  obtain ⟨d, hd⟩ := Nat.gcd_dvd_right w.natAbs m
  obtain ⟨e, he⟩ := Nat.gcd_dvd_left w.natAbs m
  generalize Nat.gcd w.natAbs m = g at *
  have hd0 : 1 ≤ d := by
    rcases Nat.eq_zero_or_pos d with h0 | h0
    · rw [h0] at hd; omega
    · exact h0
  have hg2 : 2 ≤ g := by
    rcases g with _ | _ | g
    · rw [Nat.zero_mul] at hd; omega
    · exact absurd rfl hg
    · omega
  have hlt : d < m := by
    have : 2 * d ≤ g * d := Nat.mul_le_mul_right d hg2
    omega
  refine ⟨d, hd0, hlt, Int.emod_eq_zero_of_dvd (Int.natAbs_dvd_natAbs.1 ?_)⟩
  rw [Int.natAbs_mul, Int.natAbs_natCast, Int.natAbs_natCast, he]
  refine ⟨e, ?_⟩
  rw [Nat.mul_assoc, Nat.mul_comm e d, ← Nat.mul_assoc, ← hd]
/-- One of the first k weights, or of the differences behind them, has a divisor in common with the modulus. -/
def isF (l : List Int) (m : Int) (k : Nat) : Bool := (List.range k).any fun i => comB (wAt l i) m || (decide (i + 1 < l.length) && comB (wAt l i - wAt l (i + 1)) m)
theorem isF_snoc (l : List Int) (m : Int) (k : Nat) : isF l m (k + 1) = (isF l m k || (comB (wAt l k) m || (decide (k + 1 < l.length) && comB (wAt l k - wAt l (k + 1)) m))) := by
  unfold isF
  rw [List.range_succ, List.any_append]
  simp
theorem slip_cut {n m1 j : Nat} (h1 : 1 ≤ m1) (hj : j < slN n m1) : j / (2 * m1) < n ∧ (m1 ≤ j % (2 * m1) → j / (2 * m1) + 1 < n) := by
  unfold slN at hj
  have h0 : 0 < 2 * m1 := by omega
  have hdm := Nat.div_add_mod j (2 * m1)
  have e1 : 2 * m1 * (j / (2 * m1)) = j / (2 * m1) * (2 * m1) := Nat.mul_comm _ _
  rw [e1] at hdm
  refine ⟨?_, fun hr => ?_⟩
  · apply Nat.lt_of_mul_lt_mul_right (a := 2 * m1); omega
  · apply Nat.lt_of_mul_lt_mul_right (a := 2 * m1)
    rw [Nat.succ_mul]; omega
theorem weakB_iff {l : List Int} {m1 : Nat} (hs : schE l ((m1 + 1 : Nat) : Int) = 0) : weakB l ((m1 + 1 : Nat) : Int) = true ↔ ∃ k, k < slN l.length m1 ∧ slC l m1 k % ((m1 : Int) + 1) = 0 := by
  unfold weakB
  rw [if_neg (fun h => h hs), toNat_m]
  unfold weakK
  rw [List.find?_isSome]
  constructor
  · rintro ⟨k, hk, h⟩
    exact ⟨k, List.mem_range.1 hk, of_decide_eq_true h⟩
  · rintro ⟨k, hk, h⟩
    exact ⟨k, List.mem_range.2 hk, decide_eq_true h⟩
theorem mcast1 (m1 : Nat) : ((m1 + 1 : Nat) : Int) = (m1 : Int) + 1 := by omega
/-- Weak finds a slip exactly if there is such a divisor. -/
theorem weak_is {l : List Int} {m1 : Nat} (h1 : 1 ≤ m1) (hs : schE l ((m1 + 1 : Nat) : Int) = 0) : weakB l ((m1 + 1 : Nat) : Int) = isF l ((m1 + 1 : Nat) : Int) l.length := by
  rw [Bool.eq_iff_iff, weakB_iff hs]
  unfold isF
  rw [List.any_eq_true]
  constructor
  · rintro ⟨k, hk, hz⟩
    obtain ⟨c1, c2⟩ := slip_cut h1 hk
    refine ⟨k / (2 * m1), List.mem_range.2 c1, ?_⟩
    rw [← mcast1] at hz
    unfold slC at hz
    split at hz
    · rename_i hr
      rcases hc : comB (wAt l (k / (2 * m1))) ((m1 + 1 : Nat) : Int) with _ | _
      · have := com_no hc hz
        rw [Int.emod_eq_of_lt (by omega) (by omega)] at this
        omega
      · rfl
    · rename_i hr
      have hlt := Nat.mod_lt k (show 0 < 2 * m1 by omega)
      rcases hc : comB (wAt l (k / (2 * m1)) - wAt l (k / (2 * m1) + 1)) ((m1 + 1 : Nat) : Int) with _ | _
      · have := com_no hc hz
        rw [Int.emod_eq_of_lt (by omega) (by omega)] at this
        omega
      · rw [decide_eq_true (c2 (by omega))]
        simp
  · rintro ⟨i, hi, h⟩
    have hi := List.mem_range.1 hi
    rcases Bool.or_eq_true_iff.1 h with h | h
    · obtain ⟨d, hd1, hd2, hz⟩ := com_yes (by omega) h
      obtain ⟨_, e2, e3⟩ := at_one (l := l) (m1 := m1) (i := i) (d := d) hi ⟨hd1, by omega⟩
      exact ⟨_, e3, by rw [e2, ← mcast1]; exact hz⟩
    · obtain ⟨h2, h⟩ := Bool.and_eq_true_iff.1 h
      obtain ⟨d, hd1, hd2, hz⟩ := com_yes (by omega) h
      obtain ⟨_, e2, e3⟩ := at_two (l := l) (m1 := m1) (i := i) (i1 := i + 1) (d := d) rfl (of_decide_eq_true h2) ⟨hd1, by omega⟩
      exact ⟨_, e3, by rw [e2, ← mcast1]; exact hz⟩
/-- The slip that Weak finds. -/
theorem weak_slip {l : List Int} {m1 : Nat} (h1 : 1 ≤ m1) (hs : schE l ((m1 + 1 : Nat) : Int) = 0) (h : weakB l ((m1 + 1 : Nat) : Int) = true) :
    ∃ i d : Nat, i < l.length ∧ 1 ≤ d ∧ d ≤ m1 ∧ ((weakF l ((m1 + 1 : Nat) : Int) = ⟨(i : Nat), -1, 0, (d : Int)⟩ ∧ wAt l i * (d : Int) % ((m1 + 1 : Nat) : Int) = 0) ∨ (i + 1 < l.length ∧ weakF l ((m1 + 1 : Nat) : Int) = ⟨(i : Nat), ((i + 1 : Nat) : Int), 0, (d : Int)⟩ ∧ (wAt l i - wAt l (i + 1)) * (d : Int) % ((m1 + 1 : Nat) : Int) = 0)) := by
  unfold weakB at h
  rw [if_neg (fun h => h hs), toNat_m] at h
  obtain ⟨k, hk⟩ := Option.isSome_iff_exists.1 h
  have hF : weakF l ((m1 + 1 : Nat) : Int) = slF m1 k := by
    unfold weakF
    rw [if_neg (fun h => h hs), toNat_m, hk]
  unfold weakK at hk
  have hp : slC l m1 k % ((m1 : Int) + 1) = 0 := by simpa using List.find?_some hk
  have hkn : k < slN l.length m1 := List.mem_range.1 (List.mem_of_find?_eq_some hk)
  obtain ⟨c1, c2⟩ := slip_cut h1 hkn
  have hlt := Nat.mod_lt k (show 0 < 2 * m1 by omega)
  rw [hF]
  rw [← mcast1] at hp
  unfold slC at hp
  unfold slF
  by_cases hr : k % (2 * m1) < m1
  · rw [if_pos hr] at hp ⊢
    exact ⟨k / (2 * m1), k % (2 * m1) + 1, c1, by omega, by omega, Or.inl ⟨rfl, hp⟩⟩
  · rw [if_neg hr] at hp ⊢
    exact ⟨k / (2 * m1), k % (2 * m1) - m1 + 1, c1, by omega, by omega, Or.inr ⟨c2 (by omega), rfl, hp⟩⟩
theorem emod_same {x y m : Int} (h : (x - y) % m = 0) : x % m = y % m := Int.emod_eq_emod_iff_emod_sub_eq_zero.2 h
theorem emod_diff {x y m : Int} (h : x % m = y % m) : (x - y) % m = 0 := Int.emod_eq_emod_iff_emod_sub_eq_zero.1 h
theorem neg_zero_mod {x m : Int} (h : x % m = 0) : (-x) % m = 0 := Int.emod_eq_zero_of_dvd ((Int.dvd_neg).2 (Int.dvd_of_emod_eq_zero h))
theorem lost_one {W a : List Int} {i : Nat} {d m : Int} (hi : i < W.length) (ha : W.length = a.length) (h : wAt W i * d % m = 0) : dotT W (a.set i 0) % m = dotT W (a.set i d) % m := by
  rw [dot_set 0 W a i hi ha, dot_set d W a i hi ha]
  apply emod_same
  rw [show dotT W a + wAt W i * (0 - wAt a i) - (dotT W a + wAt W i * (d - wAt a i)) = -(wAt W i * d) by rw [Int.mul_sub, Int.mul_sub]; omega]
  exact neg_zero_mod h
theorem lost_two {W a : List Int} {i : Nat} {d m : Int} (hi : i + 1 < W.length) (ha : W.length = a.length) (h : (wAt W i - wAt W (i + 1)) * d % m = 0) : dotT W ((a.set i 0).set (i + 1) d) % m = dotT W ((a.set i d).set (i + 1) 0) % m := by
  rw [dot_set d W _ (i + 1) hi (by rw [List.length_set]; exact ha), dot_set 0 W (a.set i d) (i + 1) hi (by rw [List.length_set]; exact ha), dot_set 0 W a i (by omega) ha, dot_set d W a i (by omega) ha, wAt_other (by omega), wAt_other (by omega)]
  apply emod_same
  rw [show dotT W a + wAt W i * (0 - wAt a i) + wAt W (i + 1) * (d - wAt a (i + 1)) - (dotT W a + wAt W i * (d - wAt a i) + wAt W (i + 1) * (0 - wAt a (i + 1))) = -((wAt W i - wAt W (i + 1)) * d) by rw [Int.mul_sub, Int.mul_sub, Int.mul_sub, Int.mul_sub, Int.sub_mul]; omega]
  exact neg_zero_mod h
theorem small_zero {x m : Int} (h1 : -m < x) (h2 : x < m) (h : x % m = 0) : x = 0 := by
  obtain ⟨q, hq⟩ := Int.dvd_of_emod_eq_zero h
  have hm : 0 < m := by omega
  rcases Int.lt_trichotomy q 0 with h0 | h0 | h0
  · have : m * q ≤ m * (-1) := Int.mul_le_mul_of_nonneg_left (by omega) (by omega)
    omega
  · rw [h0, Int.mul_zero] at hq; exact hq
  · have : m * 1 ≤ m * q := Int.mul_le_mul_of_nonneg_left (by omega) (by omega)
    omega
theorem wAt_get {L : List Int} {i : Nat} {x : Int} (h : L[i]? = some x) : wAt L i = x := by unfold wAt; rw [h]; rfl
theorem set_here {l : List Int} {i : Nat} {a : Int} (h : l[i]? = some a) : l.set i a = l := by
  obtain ⟨h1, h2⟩ := List.getElem?_eq_some_iff.1 h
  rw [← h2]
  exact List.set_getElem_self h1
theorem sub_only {W a : List Int} {k m : Nat} {x y : Int} (hk : a[k]? = some y) (ha : W.length = a.length) (hc : comB (wAt W k) (m : Int) = false) (hy : 0 ≤ y ∧ y < (m : Int)) (hx : 0 ≤ x ∧ x < (m : Int)) : dotT W a % (m : Int) = dotT W (a.set k x) % (m : Int) ↔ a = a.set k x := by
  have hkl := (List.getElem?_eq_some_iff.1 hk).1
  constructor
  · intro h
    rw [dot_set x W a k (by omega) ha, wAt_get hk] at h
    have h2 := emod_diff h.symm
    rw [show dotT W a + wAt W k * (x - y) - dotT W a = wAt W k * (x - y) by omega] at h2
    have := small_zero (by omega) (by omega) (com_no hc h2)
    rw [show x = y by omega, set_here hk]
  · intro h; rw [← h]
theorem swap_only {W a : List Int} {k m : Nat} {x y : Int} (hk : a[k]? = some y) (hk1 : a[k + 1]? = some x) (ha : W.length = a.length) (hc : comB (wAt W k - wAt W (k + 1)) (m : Int) = false) (hy : 0 ≤ y ∧ y < (m : Int)) (hx : 0 ≤ x ∧ x < (m : Int)) : dotT W a % (m : Int) = dotT W ((a.set k x).set (k + 1) y) % (m : Int) ↔ a = (a.set k x).set (k + 1) y := by
  have hkl := (List.getElem?_eq_some_iff.1 hk1).1
  constructor
  · intro h
    rw [dot_set y W _ (k + 1) (by omega) (by rw [List.length_set]; exact ha), dot_set x W a k (by omega) ha, wAt_other (by omega), wAt_get hk, wAt_get hk1] at h
    have h2 := emod_diff h.symm
    rw [show dotT W a + wAt W k * (x - y) + wAt W (k + 1) * (y - x) - dotT W a = (wAt W k - wAt W (k + 1)) * (x - y) by rw [Int.sub_mul, Int.mul_sub, Int.mul_sub, Int.mul_sub]; omega] at h2
    have := small_zero (by omega) (by omega) (com_no hc h2)
    have e : x = y := by omega
    subst e
    rw [set_here hk, set_here hk1]
  · intro h; rw [← h]
/-- No weight and no difference has a divisor in common with the modulus. -/
theorem isF_no {l : List Int} {m : Int} {n : Nat} (h : isF l m n = false) {i : Nat} (hi : i < n) : comB (wAt l i) m = false ∧ (i + 1 < l.length → comB (wAt l i - wAt l (i + 1)) m = false) := by
  unfold isF at h
  have := List.any_eq_false.1 h i (List.mem_range.2 hi)
  simp only [Bool.or_eq_true, Bool.and_eq_true, decide_eq_true_eq, not_or, not_and, Bool.not_eq_true] at this
  exact this
end Go.Proofs.Ytjpiidfoegaenaa
