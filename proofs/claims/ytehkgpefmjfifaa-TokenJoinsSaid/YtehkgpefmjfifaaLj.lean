/-
  Two texts joined by a blank: tokens, stops, sentences.
-/
import Derived.Test.YtehkgpefmjfifaaLc
namespace Go.Proofs.Ytehkgpefmjfifaa
open Go.RowKit
set_option linter.unusedVariables false
set_option linter.unusedSimpArgs false

theorem sb_app (a b : ByteArray) : sb (a ++ b) = sb a ++ sb b := by unfold sb; rw [ByteArray.data_append]; simp
theorem sb_join (a b : ByteArray) : sb (joinS a b) = sb a ++ 32 :: sb b := by unfold joinS; rw [sb_app, sb_app]; simp [sb]
theorem join_size (a b : ByteArray) : (joinS a b).size = a.size + 1 + b.size := by rw [← sb_length, sb_join, List.length_append, List.length_cons, sb_length, sb_length]; omega
theorem kdAt_left {l m : List Nat} {j : Nat} (h : j < l.length) : kdAt (l ++ 32 :: m) j = kdAt l j := by unfold kdAt; rw [List.getElem?_append_left h]
theorem kdAt_mid (l m : List Nat) : kdAt (l ++ 32 :: m) l.length = 4 := by unfold kdAt; rw [List.getElem?_append_right (Nat.le_refl _), Nat.sub_self]; rfl
theorem kdAt_right (l m : List Nat) (j : Nat) : kdAt (l ++ 32 :: m) (j + (l.length + 1)) = kdAt m j := by
  unfold kdAt
  rw [List.getElem?_append_right (by omega), show j + (l.length + 1) - l.length = j + 1 by omega, List.getElem?_cons_succ]
theorem kdAt_out {l : List Nat} {j : Nat} (h : l.length ≤ j) : kdAt l j = 4 := by unfold kdAt; rw [List.getElem?_eq_none h]
def shT (k : Nat) (t : Tk) : Tk := (t.1 + k, t.2.1 + k, t.2.2)
theorem run_shift {K K' : Nat → Nat} {n k : Nat} (hK : ∀ j, K' (j + k) = K j) : ∀ {l : List Tk} {a : Nat}, Run K n a l → Run K' (n + k) (a + k) (l.map (shT k))
  | [], a, h => fun j h1 h2 => by
    have := h (j - k) (by omega) (by omega)
    rw [← this, ← hK, Nat.sub_add_cancel (by omega)]
  | t :: r, a, h => by
    obtain ⟨⟨h1, h2, h3, h4, h5, h6, h7, h8⟩, h9⟩ := h
    refine ⟨⟨by show a + k ≤ t.1 + k; omega, by show t.1 + k < t.2.1 + k; omega, by show t.2.1 + k ≤ n + k; omega, fun j g1 g2 => ?_, h5, by show K' (t.1 + k) = t.2.2; rw [hK, h6], fun g => ⟨fun j g1 g2 => ?_, fun g1 => ?_⟩, fun g => by show t.2.1 + k = t.1 + k + 1; have := h8 g; omega⟩, run_shift hK h9⟩
    · have g2 : j < t.1 + k := g2
      have := h4 (j - k) (by omega) (by omega)
      rw [← this, ← hK, Nat.sub_add_cancel (by omega)]
    · have g1 : t.1 + k ≤ j := g1
      have g2 : j < t.2.1 + k := g2
      have := (h7 g).1 (j - k) (by omega) (by omega)
      show K' j = t.2.2
      rw [← this, ← hK, Nat.sub_add_cancel (by omega)]
    · have g1 : t.2.1 + k < n + k := g1
      show K' (t.2.1 + k) ≠ t.2.2
      rw [hK]
      exact (h7 g).2 (by omega)
theorem run_early {K : Nat → Nat} {n a b : Nat} (hab : a ≤ b) (h : ∀ j, a ≤ j → j < b → K j = 4) : ∀ {l : List Tk}, Run K n b l → Run K n a l
  | [], g => fun j h1 h2 => by
    rcases Nat.lt_or_ge j b with hj | hj
    · exact h j h1 hj
    · exact g j hj h2
  | t :: r, g => by
    obtain ⟨⟨h1, h2, h3, h4, h5⟩, h9⟩ := g
    refine ⟨⟨by omega, h2, h3, fun j g1 g2 => ?_, h5⟩, h9⟩
    rcases Nat.lt_or_ge j b with hj | hj
    · exact h j g1 hj
    · exact h4 j hj g2
theorem run_join {K K' : Nat → Nat} {n m : Nat} (hn : n < m) (hK : ∀ j, j < n → K' j = K j) (h4 : K' n = 4) {r : List Tk} (hr : Run K' m (n + 1) r) : ∀ {l : List Tk} {a : Nat}, a ≤ n → Run K n a l → Run K' m a (l ++ r)
  | [], a, ha, h => run_early (by omega) (fun j h1 h2 => by
      rcases Nat.lt_or_ge j n with hj | hj
      · rw [hK j hj]; exact h j h1 hj
      · rw [show j = n by omega]; exact h4) hr
  | t :: l, a, ha, h => by
    obtain ⟨⟨h1, h2, h3, h5, h6, h7, h8, h9⟩, h10⟩ := h
    refine ⟨⟨h1, h2, by omega, fun j g1 g2 => by rw [hK j (by omega)]; exact h5 j g1 g2, h6, by rw [hK _ (by omega)]; exact h7, fun g => ⟨fun j g1 g2 => by rw [hK j (by omega)]; exact (h8 g).1 j g1 g2, fun g1 => ?_⟩, h9⟩, run_join hn hK h4 hr h3 h10⟩
    rcases Nat.eq_or_lt_of_le h3 with e | e
    · rw [e, h4]; omega
    · rw [hK _ e]; exact (h8 g).2 e
theorem toks_join (a b : ByteArray) : toks (sb (joinS a b)) = toks (sb a) ++ (toks (sb b)).map (shT (a.size + 1)) := by
  have hj := toks_run (sb (joinS a b))
  refine run_one hj ?_
  rw [sb_join]
  have h1 := toks_run (sb a)
  have h2 := toks_run (sb b)
  have h3 := run_shift (kdAt_right (sb a) (sb b)) h2
  rw [Nat.zero_add] at h3
  have h4 := run_join (K := kdAt (sb a)) (K' := kdAt (sb a ++ 32 :: sb b)) (n := (sb a).length) (m := (sb a ++ 32 :: sb b).length) (by rw [List.length_append, List.length_cons]; omega) (fun j hj => kdAt_left hj) (kdAt_mid _ _) (r := (toks (sb b)).map (shT ((sb a).length + 1))) (by rw [show (sb a ++ 32 :: sb b).length = (sb b).length + ((sb a).length + 1) by rw [List.length_append, List.length_cons]; omega]; exact h3) (Nat.zero_le _) h1
  rwa [sb_length] at h4
theorem toks_join_len (a b : ByteArray) : (toks (sb (joinS a b))).length = (toks (sb a)).length + (toks (sb b)).length := by rw [toks_join, List.length_append, List.length_map]
theorem tjoin_left {a b : ByteArray} {i : Nat} {t : Tk} (h : (toks (sb a))[i]? = some t) : (toks (sb (joinS a b)))[i]? = some t := by
  rw [toks_join, List.getElem?_append_left (List.getElem?_eq_some_iff.1 h).1, h]
theorem tjoin_right {a b : ByteArray} {i : Nat} {t : Tk} (h : (toks (sb b))[i]? = some t) : (toks (sb (joinS a b)))[(toks (sb a)).length + i]? = some (shT (a.size + 1) t) := by
  rw [toks_join, List.getElem?_append_right (by omega), Nat.add_sub_cancel_left, List.getElem?_map, h]
  rfl
theorem stop_kd (s : ByteArray) (t : Tk) : stopT s t = ((match (sb s)[t.1]? with | some c => isStop c | none => false) && decide (kdAt (sb s) t.2.1 = 4)) := by
  unfold stopT
  congr 1
  by_cases h : t.2.1 = s.size
  · rw [decide_eq_true h, Bool.true_or, decide_eq_true (kdAt_out (by rw [sb_length]; omega))]
  · rw [decide_eq_false h, Bool.false_or]
theorem stop_left {a b : ByteArray} {i : Nat} {t : Tk} (h : (toks (sb a))[i]? = some t) : stopT (joinS a b) t = stopT a t := by
  obtain ⟨h1, h2, _⟩ := toks_in h
  rw [stop_kd, stop_kd, sb_join, List.getElem?_append_left (by omega)]
  rcases Nat.eq_or_lt_of_le h2 with e | e
  · rw [e, kdAt_mid, kdAt_out (Nat.le_refl _)]
  · rw [kdAt_left e]
theorem stop_right {a b : ByteArray} {t : Tk} : stopT (joinS a b) (shT (a.size + 1) t) = stopT b t := by
  rw [stop_kd, stop_kd, sb_join]
  have e1 : (sb a ++ 32 :: sb b)[(shT (a.size + 1) t).1]? = (sb b)[t.1]? := by
    show (sb a ++ 32 :: sb b)[t.1 + (a.size + 1)]? = _
    rw [List.getElem?_append_right (by rw [sb_length]; omega), sb_length, show t.1 + (a.size + 1) - a.size = t.1 + 1 by omega, List.getElem?_cons_succ]
  have e2 : kdAt (sb a ++ 32 :: sb b) (shT (a.size + 1) t).2.1 = kdAt (sb b) t.2.1 := by
    show kdAt _ (t.2.1 + (a.size + 1)) = _
    rw [← sb_length, kdAt_right]
  rw [e1, e2]

/-- The sentences of the second text, behind those of the first one; the first of them begins at F. -/
def shiftP (F : Int) (n : Int) : List (Int × Int) → List (Int × Int)
  | [] => []
  | p :: r => (F, p.2 + n) :: r.map fun q => (q.1 + n, q.2 + n)
theorem shiftP_snoc (F n : Int) (l : List (Int × Int)) (hl : l ≠ []) (p : Int × Int) : shiftP F n (l ++ [p]) = shiftP F n l ++ [(p.1 + n, p.2 + n)] := by
  rcases l with _ | ⟨q, r⟩
  · exact absurd rfl hl
  · simp [shiftP]
theorem sent_zero (s : ByteArray) (l : List Tk) : ∀ i, i ≤ l.length → ((sentTo s l i).1 = [] ↔ (sentTo s l i).2 = 0)
  | 0, _ => by simp [sentTo]
  | i + 1, hi => by
    have ih := sent_zero s l i (by omega)
    obtain ⟨t, ht⟩ : ∃ t, l[i]? = some t := ⟨_, List.getElem?_eq_getElem (by omega)⟩
    rcases hc : (stopT s t || decide (i + 1 = l.length)) with _ | _
    · rw [sent_no ht hc]; exact ih
    · rw [sent_yes ht hc]; simp
/-- Up to the token before the last one of the first text all is as there. -/
theorem sent_left (a b : ByteArray) (hb : toks (sb b) ≠ []) : ∀ i, i < (toks (sb a)).length → sentTo (joinS a b) (toks (sb (joinS a b))) i = sentTo a (toks (sb a)) i
  | 0, _ => rfl
  | i + 1, hi => by
    have ih := sent_left a b hb i (by omega)
    obtain ⟨t, ht⟩ : ∃ t, (toks (sb a))[i]? = some t := ⟨_, List.getElem?_eq_getElem (by omega)⟩
    have hj := tjoin_left (b := b) ht
    have hl := toks_join_len a b
    have e1 : (stopT (joinS a b) t || decide (i + 1 = (toks (sb (joinS a b))).length)) = stopT a t := by
      rw [stop_left ht, decide_eq_false (by omega), Bool.or_false]
    have e2 : (stopT a t || decide (i + 1 = (toks (sb a)).length)) = stopT a t := by
      rw [decide_eq_false (by omega), Bool.or_false]
    rcases hc : stopT a t with _ | _
    · rw [sent_no hj (e1.trans hc), sent_no ht (e2.trans hc), ih]
    · rw [sent_yes hj (e1.trans hc), sent_yes ht (e2.trans hc), ih]
/-- The first token of the sentence with which the second text begins, and the sentences before it. -/
theorem sent_mid (a b : ByteArray) (n : Nat) (hn : (toks (sb a)).length = n + 1) (hb : toks (sb b) ≠ []) (t : Tk) (ht : (toks (sb a))[n]? = some t) :
    (stopT a t = true → sentTo (joinS a b) (toks (sb (joinS a b))) (n + 1) = (sentM a, n + 1)) ∧
    (stopT a t = false → ∃ P f, sentM a = P ++ [(((f : Nat) : Int), ((n + 1 : Nat) : Int))] ∧ sentTo (joinS a b) (toks (sb (joinS a b))) (n + 1) = (P, f)) := by
  have hlb : 0 < (toks (sb b)).length := List.length_pos_iff.2 hb
  have hl := toks_join_len a b
  have hj := tjoin_left (b := b) ht
  have h0 := sent_left a b hb n (by omega)
  have e1 : (stopT (joinS a b) t || decide (n + 1 = (toks (sb (joinS a b))).length)) = stopT a t := by
    rw [stop_left ht, decide_eq_false (by omega), Bool.or_false]
  have hM : sentM a = (sentTo a (toks (sb a)) n).1 ++ [(((sentTo a (toks (sb a)) n).2 : Int), ((n + 1 : Nat) : Int))] := by
    unfold sentM
    rw [hn, sent_yes ht (by rw [decide_eq_true hn.symm, Bool.or_true])]
  refine ⟨fun hs => ?_, fun hs => ⟨(sentTo a (toks (sb a)) n).1, (sentTo a (toks (sb a)) n).2, ?_, ?_⟩⟩
  · rw [sent_yes hj (e1.trans hs), h0, hM]
  · rw [hM]
  · rw [sent_no hj (e1.trans hs), h0]
theorem sent_right (a b : ByteArray) (n : Nat) (hn : (toks (sb a)).length = n) (P : List (Int × Int)) (F : Nat) (h : sentTo (joinS a b) (toks (sb (joinS a b))) n = (P, F)) : ∀ i, i ≤ (toks (sb b)).length →
    sentTo (joinS a b) (toks (sb (joinS a b))) (n + i) = (P ++ shiftP (F : Int) (n : Int) (sentTo b (toks (sb b)) i).1, if (sentTo b (toks (sb b)) i).1 = [] then F else n + (sentTo b (toks (sb b)) i).2)
  | 0, _ => by rw [Nat.add_zero, h]; simp [sentTo, shiftP]
  | i + 1, hi => by
    have ih := sent_right a b n hn P F h i (by omega)
    have hz := sent_zero b (toks (sb b)) i (by omega)
    obtain ⟨t, ht⟩ : ∃ t, (toks (sb b))[i]? = some t := ⟨_, List.getElem?_eq_getElem (by omega)⟩
    have hj := tjoin_right (a := a) ht
    rw [hn] at hj
    have hl := toks_join_len a b
    have e1 : (stopT (joinS a b) (shT (a.size + 1) t) || decide (n + i + 1 = (toks (sb (joinS a b))).length)) = (stopT b t || decide (i + 1 = (toks (sb b)).length)) := by
      rw [stop_right]
      congr 1
      rw [decide_eq_decide]
      omega
    rw [← Nat.add_assoc]
    rcases hc : (stopT b t || decide (i + 1 = (toks (sb b)).length)) with _ | _
    · rw [sent_no hj (e1.trans hc), sent_no ht hc, ih]
    · rw [sent_yes hj (e1.trans hc), sent_yes ht hc, ih]
      rcases hL : sentTo b (toks (sb b)) i with ⟨L, G⟩
      by_cases h0 : L = []
      · subst h0
        simp [shiftP]
        omega
      · simp [h0, shiftP_snoc _ _ _ h0]
        omega
/-- The sentences of joined texts. -/
theorem sentM_join (a b : ByteArray) (n : Nat) (hn : (toks (sb a)).length = n) (P : List (Int × Int)) (F : Nat) (h : sentTo (joinS a b) (toks (sb (joinS a b))) n = (P, F)) : sentM (joinS a b) = P ++ shiftP (F : Int) (n : Int) (sentM b) := by
  have := sent_right a b n hn P F h _ (Nat.le_refl _)
  unfold sentM
  rw [toks_join_len, hn, this]

/-- What a list of sentences is like: they follow each other, cover all tokens, and only their last tokens are stops. -/
def prevS (l : List (Int × Int)) : Nat → Int
  | 0 => 0
  | k + 1 => match l[k]? with | some p => p.2 | none => 0
theorem prevS_next {l : List (Int × Int)} {k : Nat} {p : Int × Int} (h : l[k]? = some p) : prevS l (k + 1) = p.2 := by
  show (match l[k]? with | some p => p.2 | none => 0) = _
  rw [h]
def SentOk (s : ByteArray) (l : List Tk) (k : Nat) (y : List (Int × Int)) (f : Nat) : Prop :=
  prevS y y.length = (f : Int) ∧ f ≤ k ∧ (∀ j t, f ≤ j → j < k → l[j]? = some t → stopT s t = false) ∧
  ∀ i p, y[i]? = some p → ∃ u v : Nat, p = ((u : Int), (v : Int)) ∧ prevS y i = (u : Int) ∧ u < v ∧ v ≤ k ∧ ∀ j t, u ≤ j → j < v → l[j]? = some t → (stopT s t = true → j + 1 = v) ∧ (j + 1 = v → v < l.length → stopT s t = true)
theorem prevS_app (l m : List (Int × Int)) : ∀ i, i ≤ l.length → prevS (l ++ m) i = prevS l i
  | 0, _ => rfl
  | i + 1, hi => by
    show (match (l ++ m)[i]? with | some p => p.2 | none => 0) = (match l[i]? with | some p => p.2 | none => 0)
    rw [List.getElem?_append_left (by omega)]
theorem sent_ok (s : ByteArray) (l : List Tk) : ∀ i, i ≤ l.length → SentOk s l i (sentTo s l i).1 (sentTo s l i).2
  | 0, _ => ⟨rfl, Nat.le_refl _, fun j t h1 h2 => by omega, fun i p h => by simp [sentTo] at h⟩
  | i + 1, hi => by
    obtain ⟨h1, h2, h3, h4⟩ := sent_ok s l i (by omega)
    obtain ⟨t, ht⟩ : ∃ t, l[i]? = some t := ⟨_, List.getElem?_eq_getElem (by omega)⟩
    rcases hc : (stopT s t || decide (i + 1 = l.length)) with _ | _
    · rw [sent_no ht hc]
      refine ⟨h1, by omega, fun j u g1 g2 g3 => ?_, fun j p hp => ?_⟩
      · rcases Nat.lt_or_ge j i with hj | hj
        · exact h3 j u g1 hj g3
        · obtain rfl : j = i := by omega
          rw [ht] at g3
          injection g3 with g3
          rw [← g3]
          simpa using (Bool.or_eq_false_iff.1 hc).1
      · obtain ⟨u, v, e1, e2, e3, e4, e5⟩ := h4 j p hp
        exact ⟨u, v, e1, e2, e3, by omega, e5⟩
    · rw [sent_yes ht hc]
      generalize hy : (sentTo s l i).1 = y at *
      generalize hf : (sentTo s l i).2 = f at *
      dsimp only
      refine ⟨?_, Nat.le_refl _, fun j u g1 g2 => by omega, fun j p hp => ?_⟩
      · rw [List.length_append, List.length_singleton, prevS_next (p := ((f : Int), ((i + 1 : Nat) : Int))) (by rw [List.getElem?_append_right (Nat.le_refl _), Nat.sub_self]; rfl)]
      · rcases Nat.lt_or_ge j y.length with hj | hj
        · rw [List.getElem?_append_left hj] at hp
          obtain ⟨u, v, e1, e2, e3, e4, e5⟩ := h4 j p hp
          exact ⟨u, v, e1, by rw [prevS_app _ _ _ (by omega)]; exact e2, e3, by omega, e5⟩
        · have hjl := (List.getElem?_eq_some_iff.1 hp).1
          rw [List.length_append, List.length_singleton] at hjl
          obtain rfl : j = y.length := by omega
          rw [List.getElem?_append_right (Nat.le_refl _), Nat.sub_self] at hp
          injection hp with hp
          refine ⟨f, i + 1, hp.symm, by rw [prevS_app _ _ _ (Nat.le_refl _)]; exact h1, by omega, Nat.le_refl _, fun j' u g1 g2 g3 => ?_⟩
          rcases Nat.lt_or_ge j' i with hj' | hj'
          · exact ⟨fun hs => (by rw [h3 j' u g1 hj' g3] at hs; cases hs), fun e => (by omega)⟩
          · obtain rfl : j' = i := by omega
            rw [ht] at g3
            injection g3 with g3
            subst g3
            exact ⟨fun _ => rfl, fun _ g => by rw [decide_eq_false (by omega), Bool.or_false] at hc; exact hc⟩
theorem sentM_ok (s : ByteArray) : SentOk s (toks (sb s)) (toks (sb s)).length (sentM s) (sentTo s (toks (sb s)) (toks (sb s)).length).2 := sent_ok s _ _ (Nat.le_refl _)
/-- The last sentence ends behind the last token. -/
theorem sentM_end (s : ByteArray) : (sentTo s (toks (sb s)) (toks (sb s)).length).2 = (toks (sb s)).length := by
  rcases hn : (toks (sb s)).length with _ | n
  · rfl
  · obtain ⟨t, ht⟩ : ∃ t, (toks (sb s))[n]? = some t := ⟨_, List.getElem?_eq_getElem (by omega)⟩
    rw [sent_yes ht (by rw [decide_eq_true hn.symm, Bool.or_true])]
theorem sentM_ne {s : ByteArray} (h : toks (sb s) ≠ []) : sentM s ≠ [] := by
  have hl : 0 < (toks (sb s)).length := List.length_pos_iff.2 h
  intro e
  have := (sent_zero s (toks (sb s)) _ (Nat.le_refl _)).1 e
  rw [sentM_end] at this
  omega
end Go.Proofs.Ytehkgpefmjfifaa
