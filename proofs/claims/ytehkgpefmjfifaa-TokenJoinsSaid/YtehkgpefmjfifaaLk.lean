/-
  Two texts joined by a blank: words, marks, cuts.
-/
import Derived.Test.YtehkgpefmjfifaaGc
namespace Go.Proofs.Ytehkgpefmjfifaa
open Go.RowKit
set_option linter.unusedVariables false
set_option linter.unusedSimpArgs false

theorem ext_left {a b : ByteArray} {i : Nat} {t : Tk} (h : (toks (sb a))[i]? = some t) : (joinS a b).extract t.1 t.2.1 = a.extract t.1 t.2.1 := by
  obtain ⟨_, h2, _⟩ := toks_in h
  apply sb_inj
  rw [sb_extract, sb_extract, sb_join, List.take_append_of_le_length h2]
theorem ext_right {a b : ByteArray} {t : Tk} : (joinS a b).extract (shT (a.size + 1) t).1 (shT (a.size + 1) t).2.1 = b.extract t.1 t.2.1 := by
  apply sb_inj
  rw [sb_extract, sb_extract, sb_join]
  show ((sb a ++ 32 :: sb b).take (t.2.1 + (a.size + 1))).drop (t.1 + (a.size + 1)) = _
  have e : sb a ++ 32 :: sb b = (sb a ++ [32]) ++ sb b := by simp
  have hl : (sb a ++ [32]).length = a.size + 1 := by rw [List.length_append, sb_length]; rfl
  rw [e, ← hl, Nat.add_comm t.2.1, List.take_length_add_append, Nat.add_comm t.1, ← List.drop_drop, List.drop_left]
theorem words_left (a b : ByteArray) : ∀ i, i ≤ (toks (sb a)).length → wordsTo (joinS a b) (toks (sb (joinS a b))) i = wordsTo a (toks (sb a)) i
  | 0, _ => rfl
  | i + 1, hi => by
    have ih := words_left a b i (by omega)
    obtain ⟨t, ht⟩ : ∃ t, (toks (sb a))[i]? = some t := ⟨_, List.getElem?_eq_getElem (by omega)⟩
    have hj := tjoin_left (b := b) ht
    by_cases hk : t.2.2 = 0
    · rw [words_yes hj hk, words_yes ht hk, ih, ext_left ht]
    · rw [words_no hj hk, words_no ht hk, ih]
theorem words_right (a b : ByteArray) : ∀ i, i ≤ (toks (sb b)).length → wordsTo (joinS a b) (toks (sb (joinS a b))) ((toks (sb a)).length + i) = wordsM a ++ wordsTo b (toks (sb b)) i
  | 0, _ => by rw [Nat.add_zero, words_left a b _ (Nat.le_refl _)]; simp [wordsM, wordsTo]
  | i + 1, hi => by
    have ih := words_right a b i (by omega)
    obtain ⟨t, ht⟩ : ∃ t, (toks (sb b))[i]? = some t := ⟨_, List.getElem?_eq_getElem (by omega)⟩
    have hj := tjoin_right (a := a) ht
    rw [← Nat.add_assoc]
    by_cases hk : t.2.2 = 0
    · rw [words_yes hj hk, words_yes ht hk, ih, ext_right, List.append_assoc]
    · rw [words_no hj hk, words_no ht hk, ih]
theorem words_join (a b : ByteArray) : wordsM (joinS a b) = wordsM a ++ wordsM b := by
  have := words_right a b _ (Nat.le_refl _)
  rw [← toks_join_len] at this
  exact this
theorem marks_left (a b : ByteArray) : ∀ i, i ≤ (toks (sb a)).length → marksTo (toks (sb (joinS a b))) i = marksTo (toks (sb a)) i
  | 0, _ => rfl
  | i + 1, hi => by
    have ih := marks_left a b i (by omega)
    obtain ⟨t, ht⟩ : ∃ t, (toks (sb a))[i]? = some t := ⟨_, List.getElem?_eq_getElem (by omega)⟩
    have hj := tjoin_left (b := b) ht
    by_cases hk : t.2.2 = 3
    · rw [marks_yes hj hk, marks_yes ht hk, ih]
    · rw [marks_no hj hk, marks_no ht hk, ih]
theorem marks_right (a b : ByteArray) : ∀ i, i ≤ (toks (sb b)).length → marksTo (toks (sb (joinS a b))) ((toks (sb a)).length + i) = marksM a ++ (marksTo (toks (sb b)) i).map (· + ((toks (sb a)).length : Int))
  | 0, _ => by rw [Nat.add_zero, marks_left a b _ (Nat.le_refl _)]; simp [marksM, marksTo]
  | i + 1, hi => by
    have ih := marks_right a b i (by omega)
    obtain ⟨t, ht⟩ : ∃ t, (toks (sb b))[i]? = some t := ⟨_, List.getElem?_eq_getElem (by omega)⟩
    have hj := tjoin_right (a := a) ht
    rw [← Nat.add_assoc]
    by_cases hk : t.2.2 = 3
    · rw [marks_yes hj hk, marks_yes ht hk, ih, List.map_append, List.append_assoc]
      congr 3
      simp
      omega
    · rw [marks_no hj hk, marks_no ht hk, ih]
theorem marks_join (a b : ByteArray) : marksM (joinS a b) = marksM a ++ (marksM b).map (· + ((toks (sb a)).length : Int)) := by
  have := marks_right a b _ (Nat.le_refl _)
  rw [← toks_join_len] at this
  exact this
theorem gd_first0 {b : ByteArray} (h : gd true (sb b) = true) {t : Tk} (ht : (toks (sb b))[0]? = some t) : t.1 = 0 := by
  obtain ⟨c, hc, hn⟩ := gd_first h
  obtain ⟨_, _, _, k4, _⟩ := tok_here ht
  rcases Nat.eq_zero_or_pos t.1 with e | e
  · exact e
  · exact absurd (kdAt_blank hc (k4 0 (Nat.zero_le _) e)) hn
/-- Cut where the second text begins. -/
theorem cut_mid {a b : ByteArray} (ha : gd true (sb a) = true) (hb : gd true (sb b) = true) (hs : (joinS a b).size ≤ 256) : cutM (joinS a b) ((toks (sb a)).length : Int) = (a, b, 0) := by
  have hv : validT (sb (joinS a b)) = 0 := gd_valid (by rw [sb_join]; exact gd_join ha hb) (by rw [sb_length]; exact hs)
  have h0 := List.length_pos_iff.2 (gd_toks ha)
  have h1 := List.length_pos_iff.2 (gd_toks hb)
  obtain ⟨t, ht⟩ : ∃ t, (toks (sb a))[(toks (sb a)).length - 1]? = some t := ⟨_, List.getElem?_eq_getElem (by omega)⟩
  obtain ⟨u, hu⟩ : ∃ t, (toks (sb b))[0]? = some t := ⟨_, List.getElem?_eq_getElem h1⟩
  have hu0 := gd_first0 hb hu
  have e := cut_in hv (i0 := (toks (sb a)).length - 1) (i := (toks (sb a)).length) (by omega) (tjoin_left ht) (tjoin_right (a := a) hu)
  obtain ⟨_, h3, _⟩ := toks_in ht
  rw [sb_length] at h3
  rw [e, if_pos (by show t.2.1 < u.1 + (a.size + 1); omega)]
  show ((joinS a b).extract 0 (u.1 + (a.size + 1) - 1), (joinS a b).extract (u.1 + (a.size + 1)) (joinS a b).size, (0 : Int)) = _
  rw [hu0, show 0 + (a.size + 1) - 1 = a.size by omega, Nat.zero_add]
  have e1 : (joinS a b).extract 0 a.size = a := by
    apply sb_inj
    rw [sb_extract, sb_join, ← sb_length, List.take_left, List.drop_zero]
  have e2 : (joinS a b).extract (a.size + 1) (joinS a b).size = b := by
    apply sb_inj
    rw [sb_extract, List.take_of_length_le (by rw [sb_length]; exact Nat.le_refl _), sb_join, ← List.drop_drop, ← sb_length, List.drop_left]
    rfl
  rw [e1, e2]
/-- Cut anywhere: an error, or Join leads back. -/
theorem cut_back {s : ByteArray} (hs : gd true (sb s) = true) (hl : s.size ≤ 256) (k : Int) : ((cutM s k).2.2 = 5) ∨ ((cutM s k).2.2 = 0 ∧ joinS (cutM s k).1 (cutM s k).2.1 = s) := by
  have hv : validT (sb s) = 0 := gd_valid hs (by rw [sb_length]; exact hl)
  by_cases h1 : 1 ≤ k
  · by_cases h2 : ((toks (sb s)).length : Int) ≤ k
    · rw [cut_high hv h2]; exact Or.inl rfl
    · obtain ⟨i, rfl⟩ : ∃ i : Nat, k = (i : Int) := ⟨k.toNat, by omega⟩
      obtain ⟨i0, rfl⟩ : ∃ i0, i = i0 + 1 := ⟨i - 1, by omega⟩
      obtain ⟨t, ht⟩ : ∃ t, (toks (sb s))[i0]? = some t := ⟨_, List.getElem?_eq_getElem (by omega)⟩
      obtain ⟨u, hu⟩ : ∃ t, (toks (sb s))[i0 + 1]? = some t := ⟨_, List.getElem?_eq_getElem (by omega)⟩
      rw [cut_in hv rfl ht hu]
      by_cases h3 : t.2.1 < u.1
      · rw [if_pos h3]
        refine Or.inr ⟨rfl, ?_⟩
        have hk := (unit_begin ht hu).2 h3
        obtain ⟨g1, g2, _⟩ := toks_in hu
        have hlt : u.1 - 1 < (sb s).length := by omega
        obtain ⟨c, hc⟩ : ∃ c, (sb s)[u.1 - 1]? = some c := ⟨_, List.getElem?_eq_getElem hlt⟩
        have hc2 := kdAt_blank hc hk
        subst hc2
        have e1 : (sb s).take (u.1 - 1) ++ 32 :: (sb s).drop u.1 = sb s := by
          have h5 : (sb s).drop (u.1 - 1) = 32 :: (sb s).drop u.1 := by
            rw [List.drop_eq_getElem_cons hlt, show u.1 - 1 + 1 = u.1 by omega]
            congr 1
            rw [List.getElem?_eq_getElem hlt] at hc
            injection hc
          rw [← h5, List.take_append_drop]
        apply sb_inj
        rw [sb_join, sb_extract, sb_extract, List.drop_zero, ← sb_length, List.take_length]
        exact e1
      · rw [if_neg h3]; exact Or.inl rfl
  · rw [cut_low hv h1]; exact Or.inl rfl
end Go.Proofs.Ytehkgpefmjfifaa
