/-
  The best division of the rest, of greater words, on a wider page.
-/
import Derived.Test.YtacdjchkilheiaaDm
namespace Go.Proofs.Ytacdjchkilheiaa
set_option linter.unusedVariables false
set_option linter.unusedSimpArgs false

theorem Best.congr {fr pr fr' pr' : Nat → Nat → Int} {n : Nat} {Lf Cf : Nat → Int} {Nf : Nat → Nat} (h : Best fr pr n Lf Cf Nf) (hf : ∀ i j, i < j → j ≤ n → (0 ≤ fr' i j ↔ 0 ≤ fr i j)) (hp : ∀ i j, i < j → j ≤ n → pr' i j = pr i j) : Best fr' pr' n Lf Cf Nf := by
  refine ⟨h.ln, h.cn, fun k hk => ?_, fun k hk e h1 h2 h3 => ?_⟩
  · obtain ⟨a1, a2, a3, a4, a5⟩ := h.pos k hk
    exact ⟨a1, a2, (hf _ _ a1 a2).2 a3, a4, by rw [hp _ _ a1 a2]; exact a5⟩
  · rw [hp _ _ h1 h2]
    exact h.low k hk e h1 h2 ((hf _ _ h1 h2).1 h3)
theorem mul_lt {q a b : Int} (hq : 0 < q) (h : a < b) : q * a < q * b := Int.mul_lt_mul_of_pos_left h hq
theorem mul_le {q a b : Int} (hq : 0 < q) (h : a ≤ b) : q * a ≤ q * b := Int.mul_le_mul_of_nonneg_left h (by omega)
theorem Best.scale {fr pr : Nat → Nat → Int} {n : Nat} {Lf Cf : Nat → Int} {Nf : Nat → Nat} (h : Best fr pr n Lf Cf Nf) {q : Int} (hq : 0 < q) : Best fr (fun i j => q * pr i j) n Lf (fun j => q * Cf j) Nf := by
  refine ⟨h.ln, by rw [h.cn, Int.mul_zero], fun k hk => ?_, fun k hk e h1 h2 h3 => ?_⟩
  · obtain ⟨a1, a2, a3, a4, a5⟩ := h.pos k hk
    exact ⟨a1, a2, a3, a4, by show q * Cf k = q * Cf (Nf k) + q * pr k (Nf k); rw [a5, Int.mul_add]⟩
  · obtain ⟨b1, b2⟩ := h.low k hk e h1 h2 h3
    show Le2 (Lf k) (q * Cf k) (Lf e + 1) (q * Cf e + q * pr k e) ∧ (_ → Lt2 (Lf k) (q * Cf k) (Lf e + 1) (q * Cf e + q * pr k e))
    rw [← Int.mul_add]
    constructor
    · rcases b1 with g | ⟨g1, g2⟩
      · exact Or.inl g
      · exact Or.inr ⟨g1, mul_le hq g2⟩
    · intro he
      rcases b2 he with g | ⟨g1, g2⟩
      · exact Or.inl g
      · exact Or.inr ⟨g1, mul_lt hq g2⟩
theorem Best.shift {fr pr : Nat → Nat → Int} {n : Nat} {Lf Cf : Nat → Int} {Nf : Nat → Nat} (h : Best fr pr n Lf Cf Nf) {k : Nat} (hk : k ≤ n) : Best (fun i j => fr (i + k) (j + k)) (fun i j => pr (i + k) (j + k)) (n - k) (fun j => Lf (j + k)) (fun j => Cf (j + k)) (fun j => Nf (j + k) - k) := by
  refine ⟨by show Lf (n - k + k) = 0; rw [Nat.sub_add_cancel hk]; exact h.ln, by show Cf (n - k + k) = 0; rw [Nat.sub_add_cancel hk]; exact h.cn, fun j hj => ?_, fun j hj e h1 h2 h3 => ?_⟩
  · obtain ⟨a1, a2, a3, a4, a5⟩ := h.pos (j + k) (by omega)
    show j < Nf (j + k) - k ∧ Nf (j + k) - k ≤ n - k ∧ 0 ≤ fr (j + k) (Nf (j + k) - k + k) ∧ Lf (j + k) = Lf (Nf (j + k) - k + k) + 1 ∧ Cf (j + k) = Cf (Nf (j + k) - k + k) + pr (j + k) (Nf (j + k) - k + k)
    rw [Nat.sub_add_cancel (by omega)]
    exact ⟨by omega, by omega, a3, a4, a5⟩
  · obtain ⟨b1, b2⟩ := h.low (j + k) (by omega) (e + k) (by omega) (by omega) h3
    exact ⟨b1, fun he => b2 (by have he : e < Nf (j + k) - k := he; omega)⟩
theorem Best.unique {fr pr : Nat → Nat → Int} {n : Nat} {Lf Cf Lf' Cf' : Nat → Int} {Nf Nf' : Nat → Nat} (h : Best fr pr n Lf Cf Nf) (h' : Best fr pr n Lf' Cf' Nf') : ∀ (m j : Nat), j ≤ n → n - j ≤ m → Lf j = Lf' j ∧ Cf j = Cf' j ∧ (j < n → Nf j = Nf' j)
  | 0, j, h1, h2 => by
    obtain rfl : j = n := by omega
    exact ⟨by rw [h.ln, h'.ln], by rw [h.cn, h'.cn], fun g => absurd g (Nat.lt_irrefl _)⟩
  | m + 1, j, h1, h2 => by
    rcases Nat.eq_or_lt_of_le h1 with e | hj
    · subst e
      exact ⟨by rw [h.ln, h'.ln], by rw [h.cn, h'.cn], fun g => absurd g (Nat.lt_irrefl _)⟩
    · obtain ⟨a1, a2, a3, a4, a5⟩ := h.pos j hj
      obtain ⟨b1, b2, b3, b4, b5⟩ := h'.pos j hj
      obtain ⟨c1, c2, _⟩ := Best.unique h h' m (Nf j) a2 (by omega)
      obtain ⟨d1, d2, _⟩ := Best.unique h h' m (Nf' j) b2 (by omega)
      obtain ⟨e1, e2⟩ := h.low j hj (Nf' j) b1 b2 b3
      obtain ⟨f1, f2⟩ := h'.low j hj (Nf j) a1 a2 a3
      unfold Le2 Lt2 at *
      refine ⟨by omega, by omega, fun _ => ?_⟩
      rcases Nat.lt_trichotomy (Nf j) (Nf' j) with g | g | g
      · have := f2 g
        omega
      · exact g
      · have := e2 g
        omega
theorem sumT_drop (l : List Int) (bl : Int) (k : Nat) : ∀ j, sumT (l.drop k) bl j + sumT l bl k = sumT l bl (j + k)
  | 0 => by rw [Nat.zero_add]; show 0 + sumT l bl k = _; omega
  | j + 1 => by
    have ih := sumT_drop l bl k j
    rw [show j + 1 + k = (j + k) + 1 by omega]
    show sumT (l.drop k) bl j + (l.drop k).getD j 0 + bl + sumT l bl k = sumT l bl (j + k) + l.getD (j + k) 0 + bl
    have e : (l.drop k).getD j 0 = l.getD (j + k) 0 := by rw [List.getD_eq_getElem?_getD, List.getElem?_drop, ← List.getD_eq_getElem?_getD, Nat.add_comm]
    omega
theorem frT_drop (l : List Int) (bl wd : Int) (k i j : Nat) : frT (l.drop k) bl wd i j = frT l bl wd (i + k) (j + k) := by
  have h1 := sumT_drop l bl k i
  have h2 := sumT_drop l bl k j
  unfold frT
  omega
theorem prT_drop (l : List Int) (bl wd : Int) {k : Nat} (hk : k ≤ l.length) (i j : Nat) : prT (l.drop k) bl wd i j = prT l bl wd (i + k) (j + k) := by
  unfold prT
  rw [List.length_drop, frT_drop]
  by_cases h : j = l.length - k
  · rw [if_pos h, if_pos (by omega)]
  · rw [if_neg h, if_neg (by omega)]
theorem Fine.drop {l : List Int} {bl wd : Int} (h : Fine l bl wd) (k : Nat) : Fine (l.drop k) bl wd :=
  ⟨h.b0, h.b1, h.w0, h.w1, fun x hx => h.all x (List.mem_of_mem_drop hx), by have := h.len; rw [List.length_drop]; omega⟩
theorem err_fine {l : List Int} {bl wd : Int} (h : Fine l bl wd) : errT l bl wd = 0 := by
  unfold errT
  rw [if_neg (by have := h.len; omega), if_pos]
  rw [Bool.and_eq_true, Bool.and_eq_true, prop_iff, prop_iff, List.all_eq_true]
  exact ⟨⟨⟨h.b0, h.b1⟩, h.w0, h.w1⟩, fun x hx => prop_iff.2 (h.all x hx)⟩
theorem wide_drop {l : List Int} {wd : Int} (h : wideT l wd = false) (k : Nat) : wideT (l.drop k) wd = false := by
  unfold wideT at *
  rw [List.any_eq_false] at *
  exact fun x hx => h x (List.mem_of_mem_drop hx)
/-- The ends of the rest. -/
theorem endsT_shift {N N' : List Nat} {n k : Nat} (hk : k ≤ n) (hN : ∀ j, j < n - k → N.getD (j + k) 0 = N'.getD j 0 + k ∧ N'.getD j 0 ≤ n - k) : ∀ (f j : Nat), j ≤ n - k → endsT N n f (j + k) = (endsT N' (n - k) f j).map (· + (k : Int))
  | 0, j, h => rfl
  | f + 1, j, h => by
    unfold endsT
    by_cases hj : j < n - k
    · obtain ⟨e1, e2⟩ := hN j hj
      rw [if_pos hj, if_pos (by omega), e1, endsT_shift hk hN f _ e2, List.map_cons]
      congr 1
    · rw [if_neg hj, if_neg (by omega)]
      rfl
theorem rest_ends {l : List Int} {bl wd : Int} (hF : Fine l bl wd) (hw : wideT l wd = false) (hn : 0 < l.length) :
    ∃ k : Nat, 1 ≤ k ∧ k ≤ l.length ∧ endsT (fillT l bl wd).2.2 l.length l.length 0 = (k : Int) :: (endsT (fillT (l.drop k) bl wd).2.2 (l.drop k).length (l.drop k).length 0).map (· + (k : Int)) := by
  have hB := best_fill hF hw
  have hG := good_fill hF hw
  have hN : ∀ j, j < l.length → j < (fillT l bl wd).2.2.getD j 0 ∧ (fillT l bl wd).2.2.getD j 0 ≤ l.length := fun j hj => hG.2.2.2.2 j (Nat.zero_le _) hj
  obtain ⟨h1, h2⟩ := hN 0 hn
  refine ⟨(fillT l bl wd).2.2.getD 0 0, h1, h2, ?_⟩
  rw [endsT_next hN hn]
  generalize (fillT l bl wd).2.2.getD 0 0 = k at h1 h2 ⊢
  congr 1
  have hB' := best_fill (hF.drop k) (wide_drop hw k)
  have hG' := good_fill (hF.drop k) (wide_drop hw k)
  have hN' : ∀ j, j < (l.drop k).length → j < (fillT (l.drop k) bl wd).2.2.getD j 0 ∧ (fillT (l.drop k) bl wd).2.2.getD j 0 ≤ (l.drop k).length := fun j hj => hG'.2.2.2.2 j (Nat.zero_le _) hj
  have hl : (l.drop k).length = l.length - k := List.length_drop
  rw [hl] at hB' hN' ⊢
  have hS := (hB.shift h2).congr (fr' := frT (l.drop k) bl wd) (pr' := prT (l.drop k) bl wd) (fun i j _ _ => by rw [frT_drop]) (fun i j _ _ => prT_drop l bl wd h2 i j)
  have e := endsT_shift (N := (fillT l bl wd).2.2) (N' := (fillT (l.drop k) bl wd).2.2) h2 (fun j hj => by
    obtain ⟨_, _, u⟩ := Best.unique hB' hS _ j (by omega) (Nat.le_refl _)
    have u : Nof (fillT (l.drop k) bl wd) j = Nof (fillT l bl wd) (j + k) - k := u hj
    have g := hN (j + k) (by omega)
    have g' := hN' j hj
    unfold Nof at u
    omega) l.length 0 (Nat.zero_le _)
  rw [Nat.zero_add] at e
  rw [e, endsT_fuel hN' l.length (l.length - k) 0 (by omega) (by omega)]
theorem sumT_mul (t : Int) (l : List Int) (bl : Int) : ∀ j, sumT (l.map (t * ·)) (t * bl) j = t * sumT l bl j
  | 0 => by show (0 : Int) = t * 0; rw [Int.mul_zero]
  | j + 1 => by
    show sumT (l.map (t * ·)) (t * bl) j + (l.map (t * ·)).getD j 0 + t * bl = t * (sumT l bl j + l.getD j 0 + bl)
    rw [sumT_mul t l bl j, Int.mul_add, Int.mul_add]
    congr 2
    rw [List.getD_eq_getElem?_getD, List.getElem?_map, List.getD_eq_getElem?_getD]
    rcases l[j]? with _ | x
    · show (0 : Int) = t * 0
      rw [Int.mul_zero]
    · rfl
theorem frT_mul (t : Int) (l : List Int) (bl wd : Int) (i j : Nat) : frT (l.map (t * ·)) (t * bl) (t * wd) i j = t * frT l bl wd i j := by
  unfold frT
  rw [sumT_mul, sumT_mul, Int.mul_sub, Int.mul_sub, Int.mul_add]
theorem prT_mul (t : Int) (l : List Int) (bl wd : Int) (i j : Nat) : prT (l.map (t * ·)) (t * bl) (t * wd) i j = t * t * prT l bl wd i j := by
  unfold prT
  rw [List.length_map]
  by_cases h : j = l.length
  · rw [if_pos h, if_pos h, Int.mul_zero]
  · rw [if_neg h, if_neg h, frT_mul, Int.mul_assoc, Int.mul_assoc, Int.mul_left_comm (frT l bl wd i j)]
theorem mul_nonneg_iff {t x : Int} (ht : 0 < t) : 0 ≤ t * x ↔ 0 ≤ x := by
  constructor
  · intro h
    by_cases g : x < 0
    · have := mul_lt ht g
      rw [Int.mul_zero] at this
      omega
    · omega
  · intro h
    exact Int.mul_nonneg (by omega) h
theorem wide_mul {t : Int} (ht : 0 < t) {l : List Int} {wd : Int} (h : wideT l wd = false) : wideT (l.map (t * ·)) (t * wd) = false := by
  unfold wideT at *
  rw [List.any_eq_false] at *
  intro x hx
  obtain ⟨y, hy, rfl⟩ := List.mem_map.1 hx
  have := h y hy
  rw [decide_eq_true_eq] at this ⊢
  have g := mul_le (q := t) ht (show y ≤ wd by omega)
  omega
/-- All words and the page a number of times as great. -/
theorem mul_fill {l : List Int} {bl wd t : Int} (ht : 0 < t) (hF : Fine l bl wd) (hw : wideT l wd = false) (hF' : Fine (l.map (t * ·)) (t * bl) (t * wd)) :
    endsT (fillT (l.map (t * ·)) (t * bl) (t * wd)).2.2 l.length l.length 0 = endsT (fillT l bl wd).2.2 l.length l.length 0 ∧ (fillT (l.map (t * ·)) (t * bl) (t * wd)).2.1.getD 0 0 = t * t * (fillT l bl wd).2.1.getD 0 0 := by
  have hB := best_fill hF hw
  have hw' := wide_mul ht hw
  have hB' := best_fill hF' hw'
  rw [List.length_map] at hB'
  have hS := (hB.scale (q := t * t) (Int.mul_pos ht ht)).congr (fr' := frT (l.map (t * ·)) (t * bl) (t * wd)) (pr' := prT (l.map (t * ·)) (t * bl) (t * wd)) (fun i j _ _ => by rw [frT_mul]; exact mul_nonneg_iff ht) (fun i j _ _ => prT_mul t l bl wd i j)
  have hN := (good_fill hF hw).2.2.2.2
  have e : ∀ f k, endsT (fillT (l.map (t * ·)) (t * bl) (t * wd)).2.2 l.length f k = endsT (fillT l bl wd).2.2 l.length f k := by
    intro f
    induction f with
    | zero => intro k; rfl
    | succ f ih =>
      intro k
      unfold endsT
      split
      · rename_i hk
        obtain ⟨_, _, u⟩ := Best.unique hB' hS _ k (by omega) (Nat.le_refl _)
        have u : (fillT (l.map (t * ·)) (t * bl) (t * wd)).2.2.getD k 0 = (fillT l bl wd).2.2.getD k 0 := u hk
        rw [u, ih]
      · rfl
  obtain ⟨_, c, _⟩ := Best.unique hB' hS _ 0 (Nat.zero_le _) (Nat.le_refl _)
  exact ⟨e _ _, c⟩
/-- A wider page has no more lines. -/
theorem wider_fill {l : List Int} {bl wd wd' : Int} (hwd : wd ≤ wd') (hF : Fine l bl wd) (hw : wideT l wd = false) (hF' : Fine l bl wd') (hw' : wideT l wd' = false) : (fillT l bl wd').1.getD 0 0 ≤ (fillT l bl wd).1.getD 0 0 := by
  have hB := best_fill hF hw
  have hB' := best_fill hF' hw'
  obtain ⟨o1, o2, o3⟩ := fill_ok hB (N := (fillT l bl wd).2.2) (fun j hj => rfl) l.length 0 (Nat.zero_le _) (by omega)
  have key : ∀ (E : List Int) (f : Nat), okE (frT l bl wd) l.length f E → okE (frT l bl wd') l.length f E := by
    intro E
    induction E with
    | nil => intro f h; exact h
    | cons e r ih =>
      intro f h
      exact ⟨h.1, h.2.1, by have := h.2.2.1; unfold frT at *; omega, ih _ h.2.2.2⟩
  have := low_ok (by rw [hB'.ln]; exact Int.le_refl _) (by rw [hB'.cn]; exact Int.le_refl _) (fun k hk e a b c => (hB'.low k hk e a b c).1) _ 0 (key _ 0 o1)
  have o2 : _ = (fillT l bl wd).1.getD 0 0 := o2
  unfold Le2 at this
  show Lof (fillT l bl wd') 0 ≤ _
  omega
theorem wide_more {l : List Int} {wd wd' : Int} (hwd : wd ≤ wd') (h : wideT l wd = false) : wideT l wd' = false := by
  unfold wideT at *
  rw [List.any_eq_false] at *
  intro x hx
  have := h x hx
  rw [decide_eq_true_eq] at this ⊢
  omega
end Go.Proofs.Ytacdjchkilheiaa
