/-
  Plain mathematics: the digits of a digest and of its checksum; digits of different digests cross.
-/
import Derived.Test.YtfhfmdnimebegaaDoorWm
namespace Go.Proofs.YtfhfmdnimebegaaDoor
set_option linter.unusedVariables false
set_option linter.unusedSimpArgs false

def four (b : Nat) : List Nat := [b / 64, b / 16 % 4, b / 4 % 4, b % 4]
def digs (d : List Nat) : List Nat := d.flatMap four
/-- The checksum: what the digits lack of 3 each. -/
def csum (d : List Nat) : Nat := ((digs d).map (3 - ·)).sum
def digits (d : List Nat) : List Nat := digs d ++ four (csum d)

theorem digs_length (d : List Nat) : (digs d).length = 4 * d.length := by
  induction d with
  | nil => rfl
  | cons b d ih =>
    have e : digs (b :: d) = four b ++ digs d := rfl
    rw [e, List.length_append, ih]
    simp [four]
    omega
theorem digits_length (d : List Nat) (h : d.length = 16) : (digits d).length = 68 := by
  unfold digits
  rw [List.length_append, digs_length, h]
  rfl
theorem digs_cons (b : Nat) (d : List Nat) : digs (b :: d) = four b ++ digs d := rfl
theorem four_lt (b : Nat) (h : b < 256) : ∀ x ∈ four b, x ≤ 3 := by
  intro x hx
  simp only [four, List.mem_cons, List.mem_nil_iff, or_false] at hx
  omega
theorem digs_le (d : List Nat) (h : ∀ b ∈ d, b < 256) : ∀ x ∈ digs d, x ≤ 3 := by
  intro x hx
  obtain ⟨b, hb, hx⟩ := List.mem_flatMap.1 hx
  exact four_lt b (h b hb) x hx
theorem four_inj (a b : Nat) (h : four a = four b) : a = b := by
  simp only [four, List.cons.injEq, and_true] at h
  omega
theorem digs_inj : ∀ a b : List Nat, a.length = b.length → digs a = digs b → a = b
  | [], [], _, _ => rfl
  | x :: a, y :: b, hl, h => by
    rw [digs_cons, digs_cons] at h
    have hh := List.append_inj h rfl
    rw [four_inj x y hh.1, digs_inj a b (by simpa using hl) hh.2]
theorem sum_le (d : List Nat) : ((d.map (3 - ·)).sum) ≤ 3 * d.length := by
  induction d with
  | nil => simp
  | cons x d ih => simp only [List.map_cons, List.sum_cons, List.length_cons]; omega
theorem csum_le (d : List Nat) (h : d.length = 16) : csum d ≤ 192 := by
  have := sum_le (digs d)
  rw [digs_length, h] at this
  exact this
theorem digits_le (d : List Nat) (hl : d.length = 16) (h : ∀ b ∈ d, b < 256) : ∀ x ∈ digits d, x ≤ 3 := by
  intro x hx
  have hc := csum_le d hl
  rcases List.mem_append.1 hx with h1 | h1
  · exact digs_le d h x h1
  · exact four_lt _ (by omega) x h1
/-- Where no digit of the first list is less, its sum of lacks is less, unless the lists are the same. -/
theorem lack_lt : ∀ x y : List Nat, x.length = y.length → (∀ i, x.getD i 0 ≥ y.getD i 0) → (∀ v ∈ x, v ≤ 3) → (x.map (3 - ·)).sum ≤ (y.map (3 - ·)).sum ∧ ((x.map (3 - ·)).sum = (y.map (3 - ·)).sum → x = y)
  | [], [], _, _, _ => ⟨by simp, fun _ => rfl⟩
  | a :: x, b :: y, hl, h, h3 => by
    have h0 := h 0
    have ih := lack_lt x y (by simpa using hl) (fun i => by simpa using h (i + 1)) (fun v hv => h3 v (List.mem_cons_of_mem _ hv))
    have ha := h3 a List.mem_cons_self
    simp only [List.getD_cons_zero] at h0
    simp only [List.map_cons, List.sum_cons]
    refine ⟨by omega, fun e => ?_⟩
    have e1 : a = b := by omega
    rw [e1, ih.2 (by omega)]
theorem four_less (s t : Nat) (h : s < t) : ∃ i, i < 4 ∧ (four s).getD i 0 < (four t).getD i 0 := by
  rcases Nat.lt_or_ge (s / 64) (t / 64) with h1 | h1
  · exact ⟨0, by omega, h1⟩
  rcases Nat.lt_or_ge (s / 16 % 4) (t / 16 % 4) with h2 | h2
  · exact ⟨1, by omega, h2⟩
  rcases Nat.lt_or_ge (s / 4 % 4) (t / 4 % 4) with h3 | h3
  · exact ⟨2, by omega, h3⟩
  rcases Nat.lt_or_ge (s % 4) (t % 4) with h4 | h4
  · exact ⟨3, by omega, h4⟩
  omega
/-- A digit of a is less than that of b at the same place. -/
theorem some_less (a b : List Nat) (ha : a.length = 16) (hb : b.length = 16) (h256 : ∀ v ∈ a, v < 256) (hne : a ≠ b) : ∃ i, i < 68 ∧ (digits a).getD i 0 < (digits b).getD i 0 := by
  by_cases hex : ∃ i, i < 64 ∧ (digs a).getD i 0 < (digs b).getD i 0
  · obtain ⟨i, hi, hlt⟩ := hex
    refine ⟨i, by omega, ?_⟩
    have l1 : i < (digs a).length := by rw [digs_length]; omega
    have l2 : i < (digs b).length := by rw [digs_length]; omega
    unfold digits
    simp only [List.getD_eq_getElem?_getD, List.getElem?_append_left l1, List.getElem?_append_left l2] at hlt ⊢
    exact hlt
  · have hge : ∀ i, (digs a).getD i 0 ≥ (digs b).getD i 0 := by
      intro i
      rcases Nat.lt_or_ge i 64 with hi | hi
      · rcases Nat.lt_or_ge ((digs a).getD i 0) ((digs b).getD i 0) with h1 | h1
        · exact absurd ⟨i, hi, h1⟩ hex
        · exact h1
      · simp only [List.getD_eq_getElem?_getD]
        rw [List.getElem?_eq_none (by rw [digs_length]; omega), List.getElem?_eq_none (by rw [digs_length]; omega)]
        exact Nat.le_refl _
    have hl := lack_lt (digs a) (digs b) (by rw [digs_length, digs_length, ha, hb]) hge (digs_le a h256)
    have hlt : csum a < csum b := by
      rcases Nat.lt_or_eq_of_le hl.1 with h1 | h1
      · exact h1
      · exact absurd (digs_inj a b (by rw [ha, hb]) (hl.2 h1)) hne
    obtain ⟨j, hj, hjl⟩ := four_less _ _ hlt
    refine ⟨64 + j, by omega, ?_⟩
    have l1 : (digs a).length = 64 := by rw [digs_length]; omega
    have l2 : (digs b).length = 64 := by rw [digs_length]; omega
    unfold digits
    simp only [List.getD_eq_getElem?_getD] at hjl ⊢
    rw [List.getElem?_append_right (by omega), List.getElem?_append_right (by omega), l1, l2, show 64 + j - 64 = j by omega]
    exact hjl

end Go.Proofs.YtfhfmdnimebegaaDoor
