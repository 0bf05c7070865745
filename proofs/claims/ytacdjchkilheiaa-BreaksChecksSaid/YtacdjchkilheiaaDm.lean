/-
  The best division, in plain mathematics: what Fill lays is best, Greedy has as few lines.
-/
import Derived.Test.YtacdjchkilheiaaCq
namespace Go.Proofs.Ytacdjchkilheiaa
set_option linter.unusedVariables false
set_option linter.unusedSimpArgs false

def Lt2 (a b c d : Int) : Prop := a < c ∨ (a = c ∧ b < d)
def Le2 (a b c d : Int) : Prop := a < c ∨ (a = c ∧ b ≤ d)
theorem better_iff {a b c d : Int} : better a b c d = true ↔ Lt2 a b c d := by
  unfold better Lt2
  rw [Bool.or_eq_true, Bool.and_eq_true, decide_eq_true_eq, decide_eq_true_eq, decide_eq_true_eq]
theorem better_not {a b c d : Int} : better a b c d = false ↔ Le2 c d a b := by
  rw [← Bool.not_eq_true, better_iff]
  unfold Lt2 Le2
  omega
/-- s is the best among the places behind k and before m. -/
def Opt (fr pr Lj Cj : Nat → Int) (k : Nat) (s : St) (m : Nat) : Prop :=
  (s.2.2 = 0 ∧ ∀ e, k < e → e < m → fr e < 0) ∨
  (k < s.2.2 ∧ s.2.2 < m ∧ 0 ≤ fr s.2.2 ∧ s.1 = Lj s.2.2 + 1 ∧ s.2.1 = Cj s.2.2 + pr s.2.2 ∧
    ∀ e, k < e → e < m → 0 ≤ fr e → Le2 s.1 s.2.1 (Lj e + 1) (Cj e + pr e) ∧ (e < s.2.2 → Lt2 s.1 s.2.1 (Lj e + 1) (Cj e + pr e)))
theorem opt_step {fr pr Lj Cj : Nat → Int} {k j : Nat} {s : St} (h : Opt fr pr Lj Cj k s j) (hk : k < j) (hf : 0 ≤ fr j) : Opt fr pr Lj Cj k (stepT (Lj j + 1) (Cj j + pr j) j s) (j + 1) := by
  unfold stepT
  split
  · rename_i hc
    refine Or.inr ⟨hk, Nat.lt_succ_self _, hf, rfl, rfl, fun e h1 h2 h3 => ?_⟩
    rcases Nat.eq_or_lt_of_le (Nat.le_of_lt_succ h2) with e1 | e1
    · subst e1
      exact ⟨Or.inr ⟨rfl, Int.le_refl _⟩, fun h => absurd h (Nat.lt_irrefl _)⟩
    · show Le2 (Lj j + 1) (Cj j + pr j) (Lj e + 1) (Cj e + pr e) ∧ (e < j → Lt2 (Lj j + 1) (Cj j + pr j) (Lj e + 1) (Cj e + pr e))
      rcases h with ⟨h0, hn⟩ | ⟨a1, a2, a3, a4, a5, a6⟩
      · exact absurd (hn e h1 e1) (by omega)
      · have h7 := (a6 e h1 e1 h3).1
        rw [Bool.or_eq_true, decide_eq_true_eq, better_iff] at hc
        rcases hc with hc | hc
        · omega
        · unfold Lt2 Le2 at *
          constructor
          · omega
          · intro _; omega
  · rename_i hc
    rw [Bool.or_eq_true, decide_eq_true_eq, better_iff] at hc
    rcases h with ⟨h0, hn⟩ | ⟨a1, a2, a3, a4, a5, a6⟩
    · exact absurd (Or.inl h0) hc
    · refine Or.inr ⟨a1, by omega, a3, a4, a5, fun e h1 h2 h3 => ?_⟩
      rcases Nat.eq_or_lt_of_le (Nat.le_of_lt_succ h2) with e1 | e1
      · subst e1
        have hc2 : ¬ Lt2 (Lj e + 1) (Cj e + pr e) s.1 s.2.1 := fun h => hc (Or.inr h)
        constructor
        · unfold Lt2 at hc2
          unfold Le2
          omega
        · intro h; omega
      · exact a6 e h1 e1 h3
theorem opt_more {fr pr Lj Cj : Nat → Int} {k j m : Nat} {s : St} (h : Opt fr pr Lj Cj k s j) (hjm : j ≤ m) (hf : ∀ e, j ≤ e → e < m → fr e < 0) : Opt fr pr Lj Cj k s m := by
  rcases h with ⟨h0, hn⟩ | ⟨a1, a2, a3, a4, a5, a6⟩
  · refine Or.inl ⟨h0, fun e h1 h2 => ?_⟩
    rcases Nat.lt_or_ge e j with g | g
    · exact hn e h1 g
    · exact hf e g h2
  · refine Or.inr ⟨a1, by omega, a3, a4, a5, fun e h1 h2 h3 => ?_⟩
    rcases Nat.lt_or_ge e j with g | g
    · exact a6 e h1 g h3
    · exact absurd (hf e g h2) (by omega)
theorem dpIn_opt {fr pr Lj Cj : Nat → Int} {k n : Nat} (hmono : ∀ i j, i ≤ j → fr j ≤ fr i) : ∀ (f j : Nat) (s : St), j + f = n + 1 → k < j → Opt fr pr Lj Cj k s j → Opt fr pr Lj Cj k (dpIn fr pr Lj Cj n f j s) (n + 1)
  | 0, j, s, h, hk, ho => by
    rw [show n + 1 = j by omega]
    exact ho
  | f + 1, j, s, h, hk, ho => by
    unfold dpIn
    split
    · rename_i hc
      exact dpIn_opt hmono f (j + 1) _ (by omega) (by omega) (opt_step ho hk hc.2)
    · rename_i hc
      exact opt_more ho (by omega) (fun e h1 h2 => by have := hmono j e h1; omega)
theorem dpIn_congr {fr pr Lj Cj Lj' Cj' : Nat → Int} {n : Nat} : ∀ (f j : Nat) (s : St), (∀ i, j ≤ i → i ≤ n → Lj i = Lj' i ∧ Cj i = Cj' i) → dpIn fr pr Lj Cj n f j s = dpIn fr pr Lj' Cj' n f j s
  | 0, j, s, h => rfl
  | f + 1, j, s, h => by
    unfold dpIn
    split
    · rename_i hc
      obtain ⟨h1, h2⟩ := h j (Nat.le_refl _) hc.1
      rw [h1, h2]
      exact dpIn_congr f (j + 1) _ (fun i h1 h2 => h i (by omega) h2)
    · rfl
theorem cell_congr {l : List Int} {bl wd : Int} {n k : Nat} {L C L' C' : List Int} (h : ∀ i, k < i → i ≤ n → L.getD i 0 = L'.getD i 0 ∧ C.getD i 0 = C'.getD i 0) : cell l bl wd n k L C = cell l bl wd n k L' C' := by
  unfold cell
  exact dpIn_congr _ _ _ (fun i h1 h2 => h i (by omega) h2)
/-- Each place from k on says what its line costs. -/
def Told2 (l : List Int) (bl wd : Int) (n k : Nat) (t : Tri) : Prop := ∀ j, k ≤ j → j < n → (t.1.getD j 0, t.2.1.getD j 0, t.2.2.getD j 0) = cell l bl wd n j t.1 t.2.1
theorem told_cell {l : List Int} {bl wd : Int} {n k : Nat} {L C : List Int} {N : List Nat} (h : Told2 l bl wd n (k + 1) (L, C, N)) (hk : k < n) (h1 : L.length = n + 1) (h2 : C.length = n + 1) (h3 : N.length = n) :
    Told2 l bl wd n k (L.set k (cell l bl wd n k L C).1, C.set k (cell l bl wd n k L C).2.1, N.set k (cell l bl wd n k L C).2.2) := by
  intro j hj1 hj2
  show ((L.set k _).getD j 0, (C.set k _).getD j 0, (N.set k _).getD j 0) = cell l bl wd n j (L.set k _) (C.set k _)
  have e : cell l bl wd n j (L.set k (cell l bl wd n k L C).1) (C.set k (cell l bl wd n k L C).2.1) = cell l bl wd n j L C := cell_congr (fun i a b => by
    rw [getD_set_ne (by omega), getD_set_ne (by omega)]
    exact ⟨rfl, rfl⟩)
  rw [e]
  by_cases e2 : k = j
  · subst e2
    rw [getD_set_self (by omega), getD_set_self (by omega), getD_set_self (by omega)]
  · rw [getD_set_ne e2, getD_set_ne e2, getD_set_ne e2]
    exact h j (by omega) hj2
theorem told_out {l : List Int} {bl wd : Int} {n : Nat} : ∀ (k : Nat) (t : Tri), k ≤ n → t.1.length = n + 1 → t.2.1.length = n + 1 → t.2.2.length = n → t.1.getD n 0 = 0 → t.2.1.getD n 0 = 0 → Told2 l bl wd n k t → Told2 l bl wd n 0 (outT l bl wd n k t) ∧ (outT l bl wd n k t).1.getD n 0 = 0 ∧ (outT l bl wd n k t).2.1.getD n 0 = 0
  | 0, t, _, _, _, _, z1, z2, h => ⟨h, z1, z2⟩
  | k + 1, (L, C, N), hk, h1, h2, h3, z1, z2, h => by
    have h1 : L.length = n + 1 := h1
    have h2 : C.length = n + 1 := h2
    have h3 : N.length = n := h3
    exact told_out k _ (by omega) (by rw [List.length_set]; exact h1) (by rw [List.length_set]; exact h2) (by rw [List.length_set]; exact h3) (by rw [getD_set_ne (by omega)]; exact z1) (by rw [getD_set_ne (by omega)]; exact z2) (told_cell h (by omega) h1 h2 h3)
theorem getD_rep {α : Type} {m j : Nat} {x : α} : (List.replicate m x).getD j x = x := by
  rw [List.getD_eq_getElem?_getD, List.getElem?_replicate]
  split <;> rfl
theorem told_fill (l : List Int) (bl wd : Int) : Told2 l bl wd l.length 0 (fillT l bl wd) ∧ (fillT l bl wd).1.getD l.length 0 = 0 ∧ (fillT l bl wd).2.1.getD l.length 0 = 0 :=
  told_out _ _ (Nat.le_refl _) (by simp) (by simp) (by simp) getD_rep getD_rep (fun j h1 h2 => by omega)
/-- What the lists of Fill are, as functions. -/
structure Best (fr pr : Nat → Nat → Int) (n : Nat) (Lf Cf : Nat → Int) (Nf : Nat → Nat) : Prop where
  ln : Lf n = 0
  cn : Cf n = 0
  pos : ∀ k, k < n → k < Nf k ∧ Nf k ≤ n ∧ 0 ≤ fr k (Nf k) ∧ Lf k = Lf (Nf k) + 1 ∧ Cf k = Cf (Nf k) + pr k (Nf k)
  low : ∀ k, k < n → ∀ e, k < e → e ≤ n → 0 ≤ fr k e → Le2 (Lf k) (Cf k) (Lf e + 1) (Cf e + pr k e) ∧ (e < Nf k → Lt2 (Lf k) (Cf k) (Lf e + 1) (Cf e + pr k e))
theorem frT_mono {l : List Int} {bl wd : Int} (hF : Fine l bl wd) {i j k : Nat} (h : j ≤ k) : frT l bl wd i k ≤ frT l bl wd i j := by
  have := sumT_mono hF.b0 hF.all h
  unfold frT
  omega
theorem frT_back {l : List Int} {bl wd : Int} (hF : Fine l bl wd) {i j k : Nat} (h : i ≤ j) : frT l bl wd i k ≤ frT l bl wd j k := by
  have := sumT_mono hF.b0 hF.all h
  unfold frT
  omega
theorem fr_one {l : List Int} {bl wd : Int} (hw : wideT l wd = false) {k : Nat} (hk : k < l.length) : 0 ≤ frT l bl wd k (k + 1) := by
  obtain ⟨x, hx⟩ : ∃ x, l[k]? = some x := ⟨_, List.getElem?_eq_getElem hk⟩
  rw [frT_one hx]
  have := narrow hw hx
  omega
def Lof (t : Tri) (j : Nat) : Int := t.1.getD j 0
def Cof (t : Tri) (j : Nat) : Int := t.2.1.getD j 0
def Nof (t : Tri) (j : Nat) : Nat := t.2.2.getD j 0
theorem best_fill {l : List Int} {bl wd : Int} (hF : Fine l bl wd) (hw : wideT l wd = false) : Best (frT l bl wd) (prT l bl wd) l.length (Lof (fillT l bl wd)) (Cof (fillT l bl wd)) (Nof (fillT l bl wd)) := by
  obtain ⟨h, z1, z2⟩ := told_fill l bl wd
  have key : ∀ k, k < l.length → Opt (frT l bl wd k) (prT l bl wd k) (Lof (fillT l bl wd)) (Cof (fillT l bl wd)) k (Lof (fillT l bl wd) k, Cof (fillT l bl wd) k, Nof (fillT l bl wd) k) (l.length + 1) := fun k hk => by
    have e := h k (Nat.zero_le _) hk
    show Opt _ _ _ _ _ ((fillT l bl wd).1.getD k 0, (fillT l bl wd).2.1.getD k 0, (fillT l bl wd).2.2.getD k 0) _
    rw [e]
    unfold cell
    exact dpIn_opt (fun i j hij => frT_mono hF hij) _ _ _ (by omega) (by omega) (Or.inl ⟨rfl, fun e a b => by omega⟩)
  refine ⟨z1, z2, fun k hk => ?_, fun k hk e h1 h2 h3 => ?_⟩
  · rcases key k hk with ⟨_, hn⟩ | ⟨a1, a2, a3, a4, a5, _⟩
    · have := fr_one (bl := bl) hw hk
      have := hn (k + 1) (by omega) (by omega)
      omega
    · exact ⟨a1, Nat.le_of_lt_succ a2, a3, a4, a5⟩
  · rcases key k hk with ⟨_, hn⟩ | ⟨_, _, _, _, _, a6⟩
    · have := hn e h1 (by omega)
      omega
    · exact a6 e h1 (by omega) h3
/-- Ends of a division from a place on; its cost. -/
def okE (fr : Nat → Nat → Int) (n : Nat) : Nat → List Int → Prop
  | f, [] => f = n
  | f, e :: r => (f : Int) < e ∧ e ≤ (n : Int) ∧ 0 ≤ fr f e.toNat ∧ okE fr n e.toNat r
def coE (pr : Nat → Nat → Int) : Nat → List Int → Int
  | _, [] => 0
  | f, e :: r => coE pr e.toNat r + pr f e.toNat
theorem ok_le {fr : Nat → Nat → Int} {n : Nat} : ∀ {E : List Int} {f : Nat}, okE fr n f E → f ≤ n
  | [], f, h => Nat.le_of_eq h
  | e :: r, f, h => by have := h.1; have := h.2.1; omega
/-- No division is better than what lower bounds say. -/
theorem low_ok {fr pr : Nat → Nat → Int} {n : Nat} {Lf Cf : Nat → Int} (z1 : Lf n ≤ 0) (z2 : Cf n ≤ 0) (low : ∀ k, k < n → ∀ e, k < e → e ≤ n → 0 ≤ fr k e → Le2 (Lf k) (Cf k) (Lf e + 1) (Cf e + pr k e)) :
    ∀ (E : List Int) (f : Nat), okE fr n f E → Le2 (Lf f) (Cf f) (E.length : Int) (coE pr f E)
  | [], f, h => by
    have h : f = n := h
    subst h
    unfold Le2
    show Lf f < 0 ∨ Lf f = 0 ∧ Cf f ≤ 0
    omega
  | e :: r, f, h => by
    have ih := low_ok z1 z2 low r e.toNat h.2.2.2
    have hl := low f (by have := h.1; have := h.2.1; omega) e.toNat (by have := h.1; omega) (by have := h.2.1; omega) h.2.2.1
    unfold Le2 at *
    show Lf f < ((r.length + 1 : Nat) : Int) ∨ Lf f = ((r.length + 1 : Nat) : Int) ∧ Cf f ≤ coE pr e.toNat r + pr f e.toNat
    omega
/-- The ends of Fill, by the function of first ends. -/
theorem fill_ok {fr pr : Nat → Nat → Int} {n : Nat} {Lf Cf : Nat → Int} {Nf : Nat → Nat} (hB : Best fr pr n Lf Cf Nf) {N : List Nat} (hN : ∀ j, j < n → N.getD j 0 = Nf j) :
    ∀ (f k : Nat), k ≤ n → n - k ≤ f → okE fr n k (endsT N n f k) ∧ ((endsT N n f k).length : Int) = Lf k ∧ coE pr k (endsT N n f k) = Cf k
  | 0, k, h1, h2 => by
    obtain rfl : k = n := by omega
    exact ⟨rfl, hB.ln.symm, hB.cn.symm⟩
  | f + 1, k, h1, h2 => by
    unfold endsT
    split
    · rename_i hk
      rw [hN k hk]
      obtain ⟨a1, a2, a3, a4, a5⟩ := hB.pos k hk
      obtain ⟨b1, b2, b3⟩ := fill_ok hB hN f (Nf k) a2 (by omega)
      refine ⟨⟨by omega, by omega, a3, b1⟩, ?_, ?_⟩
      · rw [List.length_cons]
        omega
      · show coE pr (Nf k) (endsT N n f (Nf k)) + pr k (Nf k) = _
        rw [b3, a5]
    · obtain rfl : k = n := by omega
      exact ⟨rfl, hB.ln.symm, hB.cn.symm⟩
/-- Lists in the order of their first difference. -/
def smallT : List Int → List Int → Bool
  | x :: a, y :: b => if x = y then smallT a b else decide (x < y)
  | a, b => decide (a.length < b.length)
theorem low_first {fr pr : Nat → Nat → Int} {n : Nat} {Lf Cf : Nat → Int} {Nf : Nat → Nat} (hB : Best fr pr n Lf Cf Nf) {N : List Nat} (hN : ∀ j, j < n → N.getD j 0 = Nf j) :
    ∀ (E : List Int) (f k : Nat), k ≤ n → n - k ≤ f → okE fr n k E → (E.length : Int) = Lf k → coE pr k E = Cf k → smallT E (endsT N n f k) = false
  | [], f, k, h1, h2, ho, hl, hc => by
    have ho : k = n := ho
    subst ho
    rcases f with _ | f
    · rfl
    · unfold endsT
      rw [if_neg (Nat.lt_irrefl _)]
      rfl
  | e :: r, f, k, h1, h2, ho, hl, hc => by
    obtain ⟨o1, o2, o3, o4⟩ := ho
    have hkn : k < n := by omega
    rcases f with _ | f
    · omega
    · unfold endsT
      rw [if_pos hkn, hN k hkn]
      obtain ⟨a1, a2, a3, a4, a5⟩ := hB.pos k hkn
      have hlow := hB.low k hkn e.toNat (by omega) (by omega) o3
      have hr := low_ok (by rw [hB.ln]; exact Int.le_refl _) (by rw [hB.cn]; exact Int.le_refl _) (fun k hk e a b c => (hB.low k hk e a b c).1) r e.toNat o4
      have hc : coE pr e.toNat r + pr k e.toNat = Cf k := hc
      have hl : ((r.length + 1 : Nat) : Int) = Lf k := hl
      show (if e = ((Nf k : Nat) : Int) then smallT r (endsT N n f (Nf k)) else decide (e < ((Nf k : Nat) : Int))) = false
      have hge : ¬ e.toNat < Nf k := fun h => by
        have := hlow.2 h
        unfold Lt2 Le2 at *
        omega
      split
      · rename_i he
        have het : e.toNat = Nf k := by omega
        rw [het] at o4 hr hc
        exact low_first hB hN r f (Nf k) a2 (by omega) o4 (by omega) (by omega)
      · rename_i he
        rw [decide_eq_false_iff_not]
        omega
/-- Fewer words have no more lines. -/
theorem lines_mono {fr pr : Nat → Nat → Int} {n : Nat} {Lf Cf : Nat → Int} {Nf : Nat → Nat} (hB : Best fr pr n Lf Cf Nf) (hfr : ∀ i j k, i ≤ j → fr i k ≤ fr j k) {i j : Nat} (hj : j ≤ n) (hij : i ≤ j) : Lf j ≤ Lf i := by
  induction j with
  | zero => rw [show i = 0 by omega]; exact Int.le_refl _
  | succ j ih =>
    rcases Nat.eq_or_lt_of_le hij with e | e
    · rw [e]; exact Int.le_refl _
    · have h1 := ih (by omega) (by omega)
      obtain ⟨a1, a2, a3, a4, a5⟩ := hB.pos j (by omega)
      have : Lf (j + 1) ≤ Lf j := by
        rcases Nat.eq_or_lt_of_le (show j + 1 ≤ Nf j from a1) with e2 | e2
        · rw [a4, ← e2]; omega
        · have h3 := (hB.low (j + 1) (by omega) (Nf j) e2 a2 (by have := hfr j (j + 1) (Nf j) (by omega); omega)).1
          unfold Le2 at h3
          omega
      omega
theorem lines_pos {fr pr : Nat → Nat → Int} {n : Nat} {Lf Cf : Nat → Int} {Nf : Nat → Nat} (hB : Best fr pr n Lf Cf Nf) : ∀ (m k : Nat), k ≤ n → n - k ≤ m → 0 ≤ Lf k
  | 0, k, h, h2 => by rw [show k = n by omega, hB.ln]; exact Int.le_refl _
  | m + 1, k, h, h2 => by
    rcases Nat.eq_or_lt_of_le h with e | e
    · rw [e, hB.ln]; exact Int.le_refl _
    · obtain ⟨a1, a2, a3, a4, a5⟩ := hB.pos k e
      have := lines_pos hB m (Nf k) a2 (by omega)
      omega
theorem greedy_ok {fr pr : Nat → Nat → Int} {n : Nat} {Lf Cf : Nat → Int} {Nf : Nat → Nat} (hB : Best fr pr n Lf Cf Nf) (hfr : ∀ i j k, i ≤ j → fr i k ≤ fr j k) (hmo : ∀ i j k, j ≤ k → fr i k ≤ fr i j) (h1 : ∀ k, k < n → 0 ≤ fr k (k + 1)) :
    ∀ (m f j : Nat), j + m = n → f < j → 0 ≤ fr f j → okE fr n f (greedyF fr n m f j) ∧ ((greedyF fr n m f j).length : Int) = Lf f
  | 0, f, j, hj, hf, h0 => by
    obtain rfl : j = n := by omega
    unfold greedyF
    rw [if_pos (by omega)]
    have a := (hB.low f hf j hf (Nat.le_refl _) h0).1
    obtain ⟨b1, b2, b3, b4, b5⟩ := hB.pos f hf
    have b6 := lines_pos hB _ (Nf f) b2 (Nat.le_refl _)
    refine ⟨⟨by omega, Int.le_refl _, h0, rfl⟩, ?_⟩
    unfold Le2 at a
    rw [hB.ln] at a
    show (1 : Int) = _
    omega
  | m + 1, f, j, hj, hf, h0 => by
    unfold greedyF
    split
    · rename_i hc
      obtain ⟨i1, i2⟩ := greedy_ok hB hfr hmo h1 m j (j + 1) (by omega) (by omega) (h1 j (by omega))
      refine ⟨⟨by omega, by omega, h0, i1⟩, ?_⟩
      have a := (hB.low f (by omega) j hf (by omega) h0).1
      obtain ⟨b1, b2, b3, b4, b5⟩ := hB.pos f (by omega)
      have b6 : Nf f ≤ j := by
        rcases Nat.lt_or_ge j (Nf f) with g | g
        · have := hmo f (j + 1) (Nf f) g
          omega
        · exact g
      have b7 := lines_mono hB hfr (show j ≤ n by omega) b6
      rw [List.length_cons]
      unfold Le2 at a
      omega
    · rename_i hc
      exact greedy_ok hB hfr hmo h1 m f (j + 1) (by omega) (by omega) (by omega)
theorem greedyT_ok {l : List Int} {bl wd : Int} (hF : Fine l bl wd) (hw : wideT l wd = false) : okE (frT l bl wd) l.length 0 (greedyT l bl wd) ∧ ((greedyT l bl wd).length : Int) = Lof (fillT l bl wd) 0 := by
  have hB := best_fill hF hw
  unfold greedyT
  rcases h : l.length with _ | n
  · unfold greedyF
    rw [if_neg (by omega)]
    have := hB.ln
    rw [h] at this
    exact ⟨rfl, this.symm⟩
  · have h0 := fr_one (bl := bl) hw (k := 0) (by omega)
    have e : greedyF (frT l bl wd) (n + 1) (n + 1) 0 0 = greedyF (frT l bl wd) (n + 1) n 0 1 := by
      conv => lhs; unfold greedyF
      rw [if_neg (by omega)]
    rw [e]
    rw [h] at hB
    exact greedy_ok hB (fun i j k hij => frT_back hF hij) (fun i j k hjk => frT_mono hF hjk) (fun k hk => fr_one hw (by omega)) n 0 1 (by omega) (by omega) h0
/-- What measT says of ends. -/
theorem ok_bad {fr : Nat → Nat → Int} {n : Nat} : ∀ {E : List Int} {f : Nat}, okE fr n f E → badE (n : Int) (f : Int) E = false
  | [], f, h => by
    have h : f = n := h
    unfold badE
    rw [h]
    simp
  | e :: r, f, h => by
    unfold badE
    have ih := ok_bad h.2.2.2
    rw [show ((e.toNat : Nat) : Int) = e by have := h.1; omega] at ih
    rw [ih, decide_eq_false (by have := h.1; omega)]
    rfl
theorem ok_meas {l : List Int} {bl wd : Int} : ∀ {E : List Int} {f : Nat} {c : Int}, okE (frT l bl wd) l.length f E → measE l bl wd c f E = (c + coE (prT l bl wd) f E, 0)
  | [], f, c, h => by
    show (c, (0 : Int)) = (c + 0, 0)
    rw [Int.add_zero]
  | e :: r, f, c, h => by
    unfold measE
    rw [if_neg (by have := h.2.2.1; omega), ok_meas h.2.2.2]
    show (_, (0 : Int)) = (c + (coE (prT l bl wd) e.toNat r + prT l bl wd f e.toNat), 0)
    congr 1
    omega
theorem ok_measT {l : List Int} {bl wd : Int} {E : List Int} (h : okE (frT l bl wd) l.length 0 E) : measT l bl wd E = ((E.length : Int), coE (prT l bl wd) 0 E, 0) := by
  unfold measT
  have h1 := ok_bad h
  rw [show ((0 : Nat) : Int) = 0 from rfl] at h1
  rw [if_neg (by rw [h1]; simp), ok_meas h, Int.zero_add, if_pos rfl]
theorem meas_ok {l : List Int} {bl wd : Int} : ∀ {E : List Int} {f : Nat} {c : Int}, badE (l.length : Int) (f : Int) E = false → (measE l bl wd c f E).2 = 0 → okE (frT l bl wd) l.length f E
  | [], f, c, hb, h => by
    unfold badE at hb
    rw [decide_eq_false_iff_not] at hb
    show f = l.length
    omega
  | e :: r, f, c, hb, h => by
    obtain ⟨b1, b2, b3⟩ := badE_cons hb
    unfold measE at h
    split at h
    · cases h
    · rename_i hf
      exact ⟨b1, b2, by omega, meas_ok (by rw [show ((e.toNat : Nat) : Int) = e by omega]; exact b3) h⟩
theorem measT_ok {l : List Int} {bl wd : Int} {E : List Int} (h : (measT l bl wd E).2.2 = 0) : okE (frT l bl wd) l.length 0 E := by
  unfold measT at h
  split at h
  · cases h
  · rename_i hb
    split at h
    · rename_i h0
      rw [Bool.not_eq_true] at hb
      exact meas_ok (f := 0) hb h0
    · cases h
/-- What the lists of a certificate prove. -/
theorem rowF_low {fr pr : Nat → Int} {L C : List Int} {i n : Nat} (hmono : ∀ j k, j ≤ k → fr k ≤ fr j) : ∀ (f j : Nat), j + f = n + 1 → rowF fr pr L C i n f j = true → ∀ e, j ≤ e → e ≤ n → 0 ≤ fr e → Le2 (L.getD i 0) (C.getD i 0) (L.getD e 0 + 1) (C.getD e 0 + pr e)
  | 0, j, h, hr, e, h1, h2, h3 => by omega
  | f + 1, j, h, hr, e, h1, h2, h3 => by
    unfold rowF at hr
    rw [if_pos ⟨by omega, by have := hmono j e h1; omega⟩, Bool.and_eq_true, Bool.not_eq_true', better_not] at hr
    rcases Nat.eq_or_lt_of_le h1 with g | g
    · rw [← g]; exact hr.1
    · exact rowF_low hmono f (j + 1) (by omega) hr.2 e g h2 h3
theorem low_rowF {fr pr : Nat → Int} {L C : List Int} {i n : Nat} : ∀ (f j : Nat), (∀ e, j ≤ e → e ≤ n → 0 ≤ fr e → Le2 (L.getD i 0) (C.getD i 0) (L.getD e 0 + 1) (C.getD e 0 + pr e)) → rowF fr pr L C i n f j = true
  | 0, j, h => rfl
  | f + 1, j, h => by
    unfold rowF
    split
    · rename_i hc
      rw [Bool.and_eq_true, Bool.not_eq_true', better_not]
      exact ⟨h j (Nat.le_refl _) hc.1 hc.2, low_rowF f (j + 1) (fun e h1 h2 h3 => h e (by omega) h2 h3)⟩
    · rfl
theorem show_low {l : List Int} {bl wd : Int} {L C : List Int} (hF : Fine l bl wd) (h : showT l bl wd L C = true) : L.getD l.length 0 = 0 ∧ C.getD l.length 0 = 0 ∧ ∀ k, k < l.length → ∀ e, k < e → e ≤ l.length → 0 ≤ frT l bl wd k e → Le2 (L.getD k 0) (C.getD k 0) (L.getD e 0 + 1) (C.getD e 0 + prT l bl wd k e) := by
  unfold showT at h
  rw [Bool.and_eq_true, Bool.and_eq_true, Bool.and_eq_true, Bool.and_eq_true, decide_eq_true_eq, decide_eq_true_eq, allF_iff, allF_iff] at h
  obtain ⟨_, _, h3, h4, h5⟩ := h
  refine ⟨h4, h5, fun k hk e h1 h2 h6 => ?_⟩
  have := h3 k (Nat.zero_le _) (by omega)
  exact rowF_low (fun i j hij => frT_mono hF hij) _ _ (by omega) this e h1 h2 h6
/-- No worse ends are accepted with the same numbers. -/
theorem ok_low {l : List Int} {bl wd : Int} {E L C : List Int} (hF : Fine l bl wd) (h : okT l bl wd E L C = true) {D : List Int} (hD : okE (frT l bl wd) l.length 0 D) : Le2 (measT l bl wd E).1 (measT l bl wd E).2.1 (D.length : Int) (coE (prT l bl wd) 0 D) := by
  unfold okT at h
  rw [Bool.and_eq_true, Bool.and_eq_true, Bool.and_eq_true, decide_eq_true_eq, decide_eq_true_eq, decide_eq_true_eq] at h
  obtain ⟨_, h2, h3, h4⟩ := h
  obtain ⟨z1, z2, low⟩ := show_low hF h2
  have := low_ok (Lf := fun j => L.getD j 0) (Cf := fun j => C.getD j 0) (by omega) (by omega) low D 0 hD
  rw [← h3, ← h4]
  exact this
/-- Check accepts what Fill returns (of few words). -/
theorem fill_shows {l : List Int} {bl wd : Int} (hF : Fine l bl wd) (hw : wideT l wd = false) (hl : l.length ≤ 60) : okT l bl wd (endsT (fillT l bl wd).2.2 l.length l.length 0) (fillT l bl wd).1 (fillT l bl wd).2.1 = true := by
  have hB := best_fill hF hw
  have hG := good_fill hF hw
  obtain ⟨o1, o2, o3⟩ := fill_ok hB (N := (fillT l bl wd).2.2) (fun j hj => rfl) l.length 0 (Nat.zero_le _) (by omega)
  have hm := ok_measT o1
  unfold okT
  rw [hm]
  show (decide ((0 : Int) = 0) && (showT l bl wd (fillT l bl wd).1 (fillT l bl wd).2.1 && (decide (_ = ((endsT (fillT l bl wd).2.2 l.length l.length 0).length : Int)) && decide (_ = coE (prT l bl wd) 0 (endsT (fillT l bl wd).2.2 l.length l.length 0))))) = true
  rw [o2, o3, decide_eq_true rfl, decide_eq_true (show (fillT l bl wd).1.getD 0 0 = Lof (fillT l bl wd) 0 from rfl), decide_eq_true (show (fillT l bl wd).2.1.getD 0 0 = Cof (fillT l bl wd) 0 from rfl)]
  unfold showT shapeT
  have z1 : (fillT l bl wd).1.getD l.length 0 = 0 := hB.ln
  have z2 : (fillT l bl wd).2.1.getD l.length 0 = 0 := hB.cn
  rw [decide_eq_true hG.1, decide_eq_true hG.2.1, decide_eq_true z1, decide_eq_true z2]
  have a1 : allF (inT (fillT l bl wd).1 (fillT l bl wd).2.1) (l.length + 1) 0 = true := allF_iff.2 fun j h1 h2 => by
    obtain ⟨s1, s2, s3, s4⟩ := hG.2.2.2.1 j (by omega)
    unfold inT
    rw [decide_eq_true s1, decide_eq_true (by omega), decide_eq_true s3, decide_eq_true (by omega)]
    rfl
  have a2 : allF (rowT l bl wd (fillT l bl wd).1 (fillT l bl wd).2.1) l.length 0 = true := allF_iff.2 fun j h1 h2 => by
    unfold rowT
    exact low_rowF _ _ (fun e h3 h4 h5 => (hB.low j (by omega) e h3 h4 h5).1)
  rw [a1, a2]
  rfl
end Go.Proofs.Ytacdjchkilheiaa
