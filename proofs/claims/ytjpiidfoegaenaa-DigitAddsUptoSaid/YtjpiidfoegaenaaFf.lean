/-
  DigitFinds: the strings that it tries, as plain mathematics.
-/
import Derived.Test.YtjpiidfoegaenaaFe
namespace Go.Proofs.Ytjpiidfoegaenaa
set_option linter.unusedVariables false
set_option linter.unusedSimpArgs false

theorem sb_ext (s : ByteArray) (a b : Nat) : sb (s.extract a b) = ((sb s).take b).drop a := by
  unfold sb
  simp [ByteArray.data_extract, List.extract_eq_take_drop, List.map_drop, List.map_take, List.drop_take]
theorem sb_changed (s : ByteArray) {k v : Nat} (hk : k < s.size) (hv : v < 31) : sb (s.extract 0 k ++ alphB.extract v (v + 1) ++ s.extract (k + 1) s.size) = (sb s).set k (alphN v) := by
  rw [sb_app, sb_app, (alph_one v hv).1, sb_ext, sb_ext, List.drop_zero, List.take_of_length_le (i := s.size) (by rw [sb_length]; exact Nat.le_refl _), List.set_eq_take_append_cons_drop, if_pos (by rw [sb_length]; exact hk), List.append_assoc]
  rfl
theorem take_get {l : List Nat} {i a : Nat} (h : l[i]? = some a) : (l.take (i + 1)).drop i = [a] := by
  obtain ⟨hi, e⟩ := List.getElem?_eq_some_iff.1 h
  rw [List.take_add_one, h, List.drop_append, List.drop_of_length_le (by rw [List.length_take]; omega), List.length_take, Nat.min_eq_left (by omega), Nat.sub_self]
  rfl
theorem sb_exchanged (s : ByteArray) {k : Nat} (hk : k + 1 < s.size) : sb (s.extract 0 k ++ s.extract (k + 1) (k + 2) ++ s.extract k (k + 1) ++ s.extract (k + 2) s.size) = swapT (sb s) k := by
  have hl := sb_length s
  obtain ⟨a, ha⟩ : ∃ a, (sb s)[k]? = some a := ⟨_, List.getElem?_eq_getElem (by omega)⟩
  obtain ⟨c, hc⟩ : ∃ c, (sb s)[k + 1]? = some c := ⟨_, List.getElem?_eq_getElem (by omega)⟩
  rw [sb_app, sb_app, sb_app, sb_ext, sb_ext, sb_ext, sb_ext, List.drop_zero, List.take_of_length_le (i := s.size) (by omega), take_get ha, take_get hc]
  unfold swapT
  rw [ha, hc]
  show _ = ((sb s).set k c).set (k + 1) a
  generalize sb s = l at *
  apply List.ext_getElem?
  intro i
  rw [List.getElem?_set, List.getElem?_set, List.length_set]
  have lt : (l.take k).length = k := by rw [List.length_take]; omega
  rcases Nat.lt_or_ge i k with h1 | h1
  · rw [if_neg (by omega), if_neg (by omega), List.append_assoc, List.append_assoc, List.getElem?_append_left (by omega), List.getElem?_take, if_pos h1]
  · rw [List.append_assoc, List.append_assoc, List.getElem?_append_right (by omega), lt]
    rcases Nat.eq_or_lt_of_le h1 with h2 | h2
    · subst h2
      rw [Nat.sub_self, if_neg (by omega), if_pos rfl, if_pos (by omega)]
      rfl
    · rcases Nat.eq_or_lt_of_le h2 with h3 | h3
      · have e : i = k + 1 := by omega
        subst e
        rw [if_pos rfl, if_pos (by omega), show k + 1 - k = 1 by omega]
        rfl
      · rw [if_neg (by omega), if_neg (by omega), show i - k = (i - (k + 2)) + 1 + 1 by omega]
        show (l.drop (k + 2))[i - (k + 2)]? = l[i]?
        rw [List.getElem?_drop, show k + 2 + (i - (k + 2)) = i by omega]
/-- A string that DigitFinds tries: the string itself, or one that is refused and near. -/
def SlipP (s t : ByteArray) : Prop := t = s ∨ (t ≠ s ∧ chkS (sb t) = 9 ∧ s ∈ nearT t ∧ (nearT t).length ≤ 2 * s.size - 1 ∧ t.size = s.size)
theorem sb_inj {s t : ByteArray} (h : sb s = sb t) : s = t := by rw [← strOf_sb s, ← strOf_sb t, h]
theorem slip_sub {s t : ByteArray} (h : chkS (sb s) = 0) {k v : Nat} (hk : k < s.size) (hv : v < 31) (e : sb t = (sb s).set k (alphN v)) : SlipP s t := by
  have hl : t.size = s.size := by rw [← sb_length, e, List.length_set, sb_length]
  by_cases hne : (sb s).set k (alphN v) = sb s
  · exact Or.inl (sb_inj (e.trans hne))
  · have h9 : chkS (sb t) = 9 := by rw [e]; exact sub_nine h (by rw [sb_length]; exact hk) (by rw [val_alph v hv]; omega) hne
    have hb := back_sub (bs := sb s) h (i := k) (c := alphN v) (by rw [sb_length]; exact hk)
    rw [strOf_sb, ← e, sb_length, ← hl, ← sb_length t] at hb
    have := near_slip h9 hb
    rw [hl] at this
    exact Or.inr ⟨fun x => hne (by rw [← e, x]), h9, this.1, this.2, hl⟩
theorem slip_swap {s t : ByteArray} (h : chkS (sb s) = 0) {k : Nat} (hk : k + 1 < s.size) (e : sb t = swapT (sb s) k) : SlipP s t := by
  have hl : t.size = s.size := by rw [← sb_length, e, ← sb_length s]; unfold swapT; simp
  by_cases hne : swapT (sb s) k = sb s
  · exact Or.inl (sb_inj (e.trans hne))
  · have h9 : chkS (sb t) = 9 := by rw [e]; exact swap_nine h (by rw [sb_length]; exact hk) hne
    have hb := back_swap (bs := sb s) h (i := k) (by rw [sb_length]; exact hk)
    rw [strOf_sb, ← e, sb_length, ← hl, ← sb_length t] at hb
    have := near_slip h9 hb
    rw [hl] at this
    exact Or.inr ⟨fun x => hne (by rw [← e, x]), h9, this.1, this.2, hl⟩
/-- The string that DigitFinds starts with. -/
theorem zero_text {s : ByteArray} (h1 : s.size ≤ 12) (h2 : okS (sb s) = true) : addE (sb ((⟨#[48]⟩ : ByteArray) ++ s)) = 0 ∧ ((⟨#[48]⟩ : ByteArray) ++ s).size = s.size + 1 := by
  have e : sb ((⟨#[48]⟩ : ByteArray) ++ s) = [48] ++ sb s := by rw [sb_app]; rfl
  have hl : (sb ((⟨#[48]⟩ : ByteArray) ++ s)).length = s.size + 1 := by rw [e, List.length_append, sb_length, Nat.add_comm]; rfl
  refine ⟨?_, by rw [← sb_length, hl]⟩
  unfold addE
  rw [if_neg (by rw [hl, e, okS_app, h2, show okS [48] = true by decide]; simp), if_neg (by omega)]
end Go.Proofs.Ytjpiidfoegaenaa
