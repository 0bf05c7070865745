/-
  Lines of least cost: plain mathematics. No program is named here.
-/
import Init.Data.List.Lemmas
import Init.Data.Nat.Lemmas
import Init.Omega
namespace Go.Proofs.Ytacdjchkilheiaa

/-- A proper width. -/
def prop (x : Int) : Bool := decide (0 ≤ x) && decide (x ≤ 4096)
theorem prop_iff {x : Int} : prop x = true ↔ 0 ≤ x ∧ x ≤ 4096 := by unfold prop; rw [Bool.and_eq_true, decide_eq_true_eq, decide_eq_true_eq]
/-- The error that all functions return first. -/
def errT (l : List Int) (bl wd : Int) : Int := if 256 < l.length then 4 else if (prop bl && prop wd && l.all prop) = true then 0 else 1
/-- The width of the first k words, each with a blank. -/
def sumT (l : List Int) (bl : Int) : Nat → Int
  | 0 => 0
  | k + 1 => sumT l bl k + l.getD k 0 + bl
def wideT (l : List Int) (wd : Int) : Bool := l.any fun x => decide (wd < x)
/-- The free width of a line. -/
def frT (l : List Int) (bl wd : Int) (i j : Nat) : Int := wd + bl - (sumT l bl j - sumT l bl i)
def prT (l : List Int) (bl wd : Int) (i j : Nat) : Int := if j = l.length then 0 else frT l bl wd i j * frT l bl wd i j
/-- What was found so far for a place: lines, cost, and where the first line ends (0: nothing yet). -/
abbrev St := Int × Int × Nat
def better (a b c d : Int) : Bool := decide (a < c) || (decide (a = c) && decide (b < d))
def stepT (a b : Int) (j : Nat) (s : St) : St := if (decide (s.2.2 = 0) || better a b s.1 s.2.1) = true then (a, b, j) else s
def dpIn (fr pr Lj Cj : Nat → Int) (n : Nat) : Nat → Nat → St → St
  | 0, _, s => s
  | f + 1, j, s => if j ≤ n ∧ 0 ≤ fr j then dpIn fr pr Lj Cj n f (j + 1) (stepT (Lj j + 1) (Cj j + pr j) j s) else s
abbrev Tri := List Int × List Int × List Nat
def cell (l : List Int) (bl wd : Int) (n k : Nat) (L C : List Int) : St := dpIn (frT l bl wd k) (prT l bl wd k) (fun j => L.getD j 0) (fun j => C.getD j 0) n (n - k) (k + 1) (0, 0, 0)
def outT (l : List Int) (bl wd : Int) (n : Nat) : Nat → Tri → Tri
  | 0, s => s
  | k + 1, (L, C, N) => outT l bl wd n k (L.set k (cell l bl wd n k L C).1, C.set k (cell l bl wd n k L C).2.1, N.set k (cell l bl wd n k L C).2.2)
def fillT (l : List Int) (bl wd : Int) : Tri := outT l bl wd l.length l.length (List.replicate (l.length + 1) 0, List.replicate (l.length + 1) 0, List.replicate l.length 0)
/-- The ends of the lines from a place on. -/
def endsT (N : List Nat) (n : Nat) : Nat → Nat → List Int
  | 0, _ => []
  | f + 1, k => if k < n then ((N.getD k 0 : Nat) : Int) :: endsT N n f (N.getD k 0) else []
/-- The lines each of which has as many words as fit: what is still to come, at word j of the line that begins at f. -/
def greedyF (fr : Nat → Nat → Int) (n : Nat) : Nat → Nat → Nat → List Int
  | 0, _, _ => if 0 < n then [(n : Int)] else []
  | m + 1, f, j => if fr f (j + 1) < 0 then (j : Int) :: greedyF fr n m j (j + 1) else greedyF fr n m f (j + 1)
def greedyT (l : List Int) (bl wd : Int) : List Int := greedyF (frT l bl wd) l.length l.length 0 0

theorem sumT_bound {l : List Int} {bl : Int} (hb : 0 ≤ bl) (hb2 : bl ≤ 4096) (hl : ∀ x ∈ l, 0 ≤ x ∧ x ≤ 4096) : ∀ k, 0 ≤ sumT l bl k ∧ sumT l bl k ≤ 8192 * (k : Int)
  | 0 => by simp [sumT]
  | k + 1 => by
    have ih := sumT_bound hb hb2 hl k
    have hx : 0 ≤ l.getD k 0 ∧ l.getD k 0 ≤ 4096 := by
      rw [List.getD_eq_getElem?_getD]
      rcases h : l[k]? with _ | x
      · simp
      · exact hl x (List.mem_of_getElem? h)
    unfold sumT
    omega
theorem sumT_mono {l : List Int} {bl : Int} (hb : 0 ≤ bl) (hl : ∀ x ∈ l, 0 ≤ x ∧ x ≤ 4096) {i j : Nat} (h : i ≤ j) : sumT l bl i ≤ sumT l bl j := by
  induction j with
  | zero => rw [show i = 0 by omega]; exact Int.le_refl _
  | succ j ih =>
    rcases Nat.eq_or_lt_of_le h with e | e
    · rw [e]; exact Int.le_refl _
    · have := ih (by omega)
      have hx : 0 ≤ l.getD j 0 := by
        rw [List.getD_eq_getElem?_getD]
        rcases h : l[j]? with _ | x
        · simp
        · exact (hl x (List.mem_of_getElem? h)).1
      show sumT l bl i ≤ sumT l bl j + l.getD j 0 + bl
      omega
/-- The free width is at most the page's. -/
theorem frT_le {l : List Int} {bl wd : Int} (hb : 0 ≤ bl) (hb2 : bl ≤ 4096) (hw2 : wd ≤ 4096) (hl : ∀ x ∈ l, 0 ≤ x ∧ x ≤ 4096) {i j : Nat} (h : i ≤ j) : frT l bl wd i j ≤ 8192 := by
  have := sumT_mono hb hl h
  unfold frT
  omega
theorem frT_ge {l : List Int} {bl wd : Int} (hb : 0 ≤ bl) (hb2 : bl ≤ 4096) (hw : 0 ≤ wd) (hl : ∀ x ∈ l, 0 ≤ x ∧ x ≤ 4096) {i j : Nat} (hj : j ≤ 1000) : -8192000 ≤ frT l bl wd i j := by
  have h1 := sumT_bound hb hb2 hl j
  have h2 := sumT_bound hb hb2 hl i
  unfold frT
  omega
theorem sq_bound {x : Int} (h1 : 0 ≤ x) (h2 : x ≤ 8192) : 0 ≤ x * x ∧ x * x ≤ 67108864 := by
  obtain ⟨n, rfl⟩ := Int.eq_ofNat_of_zero_le h1
  have h : n ≤ 8192 := by omega
  have := Nat.mul_le_mul h h
  constructor
  · exact Int.mul_nonneg h1 h1
  · have e : ((n : Int) * (n : Int)) = ((n * n : Nat) : Int) := by simp
    rw [e]
    omega
theorem prT_bound {l : List Int} {bl wd : Int} (hb : 0 ≤ bl) (hb2 : bl ≤ 4096) (hw2 : wd ≤ 4096) (hl : ∀ x ∈ l, 0 ≤ x ∧ x ≤ 4096) {i j : Nat} (h : i ≤ j) (hf : 0 ≤ frT l bl wd i j) : 0 ≤ prT l bl wd i j ∧ prT l bl wd i j ≤ 67108864 := by
  unfold prT
  split
  · omega
  · exact sq_bound hf (frT_le hb hb2 hw2 hl h)
theorem frT_one {l : List Int} {bl wd : Int} {k : Nat} {x : Int} (h : l[k]? = some x) : frT l bl wd k (k + 1) = wd - x := by
  unfold frT
  show wd + bl - (sumT l bl k + l.getD k 0 + bl - sumT l bl k) = _
  rw [List.getD_eq_getElem?_getD, h]
  show wd + bl - (sumT l bl k + x + bl - sumT l bl k) = _
  omega
/-- Where the first line ends. -/
theorem stepT_pos {a b : Int} {j k n : Nat} {s : St} (hk : k < j) (hn : j ≤ n) (h : s.2.2 = 0 ∨ (k < s.2.2 ∧ s.2.2 ≤ n)) : k < (stepT a b j s).2.2 ∧ (stepT a b j s).2.2 ≤ n := by
  unfold stepT
  split
  · exact ⟨hk, hn⟩
  · rename_i hc
    rcases h with h | h
    · exact absurd (by rw [decide_eq_true h, Bool.true_or]) hc
    · exact h
theorem dpIn_pos {fr pr Lj Cj : Nat → Int} {n k : Nat} : ∀ (f j : Nat) (s : St), k < j → (k < s.2.2 ∧ s.2.2 ≤ n) → k < (dpIn fr pr Lj Cj n f j s).2.2 ∧ (dpIn fr pr Lj Cj n f j s).2.2 ≤ n
  | 0, j, s, hj, h => h
  | f + 1, j, s, hj, h => by
    unfold dpIn
    split
    · rename_i hc
      exact dpIn_pos f (j + 1) _ (by omega) (stepT_pos hj hc.1 (Or.inr h))
    · exact h
theorem cell_pos {l : List Int} {bl wd : Int} {n k : Nat} {L C : List Int} (hk : k < n) (hf : 0 ≤ frT l bl wd k (k + 1)) : k < (cell l bl wd n k L C).2.2 ∧ (cell l bl wd n k L C).2.2 ≤ n := by
  unfold cell
  rw [show n - k = (n - k - 1) + 1 by omega]
  unfold dpIn
  rw [if_pos ⟨by omega, hf⟩]
  exact dpIn_pos _ _ _ (by omega) (stepT_pos (by omega) (by omega) (Or.inl rfl))
/-- Lines and costs stay small. -/
def Small (n : Nat) (k : Nat) (a b : Int) : Prop := 0 ≤ a ∧ a ≤ ((n - k : Nat) : Int) ∧ 0 ≤ b ∧ b ≤ 67108864 * ((n - k : Nat) : Int)
theorem stepT_small {n k j : Nat} {a b : Int} {s : St} (h : Small n k a b) (hs : Small n k s.1 s.2.1) : Small n k (stepT a b j s).1 (stepT a b j s).2.1 := by
  unfold stepT
  split
  · exact h
  · exact hs
theorem small_next {n k j : Nat} {a b p : Int} (hk : k < j) (hj : j ≤ n) (h : Small n j a b) (hp : 0 ≤ p) (hp2 : p ≤ 67108864) : Small n k (a + 1) (b + p) := by
  obtain ⟨h1, h2, h3, h4⟩ := h
  refine ⟨by omega, by omega, by omega, ?_⟩
  omega
theorem dpIn_small {fr pr Lj Cj : Nat → Int} {n k : Nat} (hS : ∀ j, k < j → j ≤ n → Small n j (Lj j) (Cj j)) (hp : ∀ j, k < j → 0 ≤ fr j → 0 ≤ pr j ∧ pr j ≤ 67108864) : ∀ (f j : Nat) (s : St), k < j → Small n k s.1 s.2.1 → Small n k (dpIn fr pr Lj Cj n f j s).1 (dpIn fr pr Lj Cj n f j s).2.1
  | 0, j, s, hj, h => h
  | f + 1, j, s, hj, h => by
    unfold dpIn
    split
    · rename_i hc
      obtain ⟨p1, p2⟩ := hp j hj hc.2
      exact dpIn_small hS hp f (j + 1) _ (by omega) (stepT_small (small_next hj hc.1 (hS j hj hc.1) p1 p2) h)
    · exact h
theorem small_zero (n k : Nat) : Small n k 0 0 := ⟨by omega, by omega, by omega, by omega⟩
/-- Such lists as Fill makes, from place k on. -/
def Good (n k : Nat) (t : Tri) : Prop := t.1.length = n + 1 ∧ t.2.1.length = n + 1 ∧ t.2.2.length = n ∧ (∀ j, j ≤ n → Small n j (t.1.getD j 0) (t.2.1.getD j 0)) ∧ ∀ j, k ≤ j → j < n → j < t.2.2.getD j 0 ∧ t.2.2.getD j 0 ≤ n
theorem getD_set_self {α : Type} {l : List α} {k : Nat} {x d : α} (h : k < l.length) : (l.set k x).getD k d = x := by rw [List.getD_eq_getElem?_getD, List.getElem?_set_self h]; rfl
theorem getD_set_ne {α : Type} {l : List α} {k j : Nat} {x d : α} (h : k ≠ j) : (l.set k x).getD j d = l.getD j d := by rw [List.getD_eq_getElem?_getD, List.getElem?_set_ne h, ← List.getD_eq_getElem?_getD]
theorem good_set {n k : Nat} {L C : List Int} {N : List Nat} {a b : Int} {x : Nat} (h : Good n (k + 1) (L, C, N)) (hk : k < n) (hs : Small n k a b) (hx : k < x ∧ x ≤ n) : Good n k (L.set k a, C.set k b, N.set k x) := by
  obtain ⟨h1, h2, h3, h4, h5⟩ := h
  have h1 : L.length = n + 1 := h1
  have h2 : C.length = n + 1 := h2
  have h3 : N.length = n := h3
  refine ⟨by rw [List.length_set]; exact h1, by rw [List.length_set]; exact h2, by rw [List.length_set]; exact h3, fun j hj => ?_, fun j hj1 hj2 => ?_⟩
  · show Small n j ((L.set k a).getD j 0) ((C.set k b).getD j 0)
    by_cases e : k = j
    · subst e
      rw [getD_set_self (by omega), getD_set_self (by omega)]
      exact hs
    · rw [getD_set_ne e, getD_set_ne e]
      exact h4 j hj
  · show j < (N.set k x).getD j 0 ∧ (N.set k x).getD j 0 ≤ n
    by_cases e : k = j
    · subst e
      rw [getD_set_self (by omega)]
      exact hx
    · rw [getD_set_ne e]
      exact h5 j (by omega) hj2
theorem good_zero (n : Nat) : Good n n (List.replicate (n + 1) 0, List.replicate (n + 1) 0, List.replicate n 0) := by
  have e : ∀ j, (List.replicate (n + 1) (0 : Int)).getD j 0 = 0 := fun j => by
    rw [List.getD_eq_getElem?_getD, List.getElem?_replicate]
    split <;> rfl
  refine ⟨by simp, by simp, by simp, fun j _ => ?_, fun j h1 h2 => by omega⟩
  show Small n j ((List.replicate (n + 1) (0 : Int)).getD j 0) ((List.replicate (n + 1) (0 : Int)).getD j 0)
  rw [e]
  exact small_zero n j
/-- A page that is as wide as each word. -/
structure Fine (l : List Int) (bl wd : Int) : Prop where
  b0 : 0 ≤ bl
  b1 : bl ≤ 4096
  w0 : 0 ≤ wd
  w1 : wd ≤ 4096
  all : ∀ x ∈ l, 0 ≤ x ∧ x ≤ 4096
  len : l.length ≤ 256
theorem fine_of {l : List Int} {bl wd : Int} (h : errT l bl wd = 0) : Fine l bl wd := by
  unfold errT at h
  split at h
  · cases h
  · split at h
    · rename_i h1 h2
      rw [Bool.and_eq_true, Bool.and_eq_true, prop_iff, prop_iff, List.all_eq_true] at h2
      exact ⟨h2.1.1.1, h2.1.1.2, h2.1.2.1, h2.1.2.2, fun x hx => prop_iff.1 (h2.2 x hx), by omega⟩
    · cases h
theorem narrow {l : List Int} {wd : Int} (h : wideT l wd = false) {k : Nat} {x : Int} (hx : l[k]? = some x) : x ≤ wd := by
  unfold wideT at h
  rw [List.any_eq_false] at h
  have := h x (List.mem_of_getElem? hx)
  simp at this
  exact this
theorem good_cell {l : List Int} {bl wd : Int} (hF : Fine l bl wd) (hw : wideT l wd = false) {k : Nat} (hk : k < l.length) {L C : List Int} {N : List Nat} (h : Good l.length (k + 1) (L, C, N)) :
    Good l.length k (L.set k (cell l bl wd l.length k L C).1, C.set k (cell l bl wd l.length k L C).2.1, N.set k (cell l bl wd l.length k L C).2.2) := by
  refine good_set h hk ?_ (cell_pos hk ?_)
  · exact dpIn_small (fun j h1 h2 => h.2.2.2.1 j h2) (fun j h1 h2 => prT_bound hF.b0 hF.b1 hF.w1 hF.all (by omega) h2) _ _ _ (by omega) (small_zero _ _)
  · obtain ⟨x, hx⟩ : ∃ x, l[k]? = some x := ⟨_, List.getElem?_eq_getElem hk⟩
    rw [frT_one hx]
    have := narrow hw hx
    omega
theorem good_out {l : List Int} {bl wd : Int} (hF : Fine l bl wd) (hw : wideT l wd = false) : ∀ (k : Nat) (t : Tri), k ≤ l.length → Good l.length k t → Good l.length 0 (outT l bl wd l.length k t)
  | 0, t, _, h => h
  | k + 1, (L, C, N), hk, h => good_out hF hw k _ (by omega) (good_cell hF hw (by omega) h)
theorem good_fill {l : List Int} {bl wd : Int} (hF : Fine l bl wd) (hw : wideT l wd = false) : Good l.length 0 (fillT l bl wd) := good_out hF hw _ _ (Nat.le_refl _) (good_zero _)
/-- The ends do not hang on how far one looks. -/
theorem endsT_fuel {N : List Nat} {n : Nat} (hN : ∀ j, j < n → j < N.getD j 0 ∧ N.getD j 0 ≤ n) : ∀ (f g k : Nat), n - k ≤ f → n - k ≤ g → endsT N n f k = endsT N n g k
  | 0, 0, k, _, _ => rfl
  | 0, g + 1, k, h1, h2 => by unfold endsT; rw [if_neg (by omega)]
  | f + 1, 0, k, h1, h2 => by unfold endsT; rw [if_neg (by omega)]
  | f + 1, g + 1, k, h1, h2 => by
    unfold endsT
    split
    · rename_i hk
      have := hN k hk
      rw [endsT_fuel hN f g _ (by omega) (by omega)]
    · rfl
theorem endsT_next {N : List Nat} {n : Nat} (hN : ∀ j, j < n → j < N.getD j 0 ∧ N.getD j 0 ≤ n) {k : Nat} (hk : k < n) : endsT N n n k = ((N.getD k 0 : Nat) : Int) :: endsT N n n (N.getD k 0) := by
  have h := hN k hk
  conv => lhs; rw [show n = (n - 1) + 1 by omega]
  rw [show n - 1 + 1 = n by omega]
  have e := endsT_fuel hN n (n - 1 + 1) k (by omega) (by omega)
  rw [e]
  conv => lhs; unfold endsT
  rw [if_pos hk, endsT_fuel hN (n - 1) n _ (by omega) (by omega)]
theorem endsT_end {N : List Nat} {n k : Nat} (hk : n ≤ k) : endsT N n n k = [] := by
  rcases n with _ | n
  · rfl
  · unfold endsT
    rw [if_neg (by omega)]
theorem endsT_len {N : List Nat} {n : Nat} (hN : ∀ j, j < n → j < N.getD j 0 ∧ N.getD j 0 ≤ n) : ∀ (f k : Nat), (endsT N n f k).length ≤ f
  | 0, k => Nat.le_refl _
  | f + 1, k => by
    unfold endsT
    split
    · rw [List.length_cons]
      have := endsT_len hN f (N.getD k 0)
      omega
    · exact Nat.zero_le _
/-- The documented examples. -/
theorem ex_fill : fillT [3, 2, 2, 5] 1 6 = ([3, 2, 2, 1, 0], [10, 1, 16, 0, 0], [1, 3, 3, 4]) := by decide +kernel
theorem ex_ends : endsT [1, 3, 3, 4] 4 4 0 = [1, 3, 4] := by decide +kernel
theorem ex_greedy : greedyT [3, 2, 2, 5] 1 6 = [2, 3, 4] := by decide +kernel
end Go.Proofs.Ytacdjchkilheiaa
