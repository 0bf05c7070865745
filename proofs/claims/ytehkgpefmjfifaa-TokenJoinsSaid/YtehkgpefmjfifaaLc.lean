/-
  What TokenCovers says, by the plain specification.
-/
import Derived.Test.YtehkgpefmjfifaaLf
import Derived.Test.YtehkgpefmjfifaaKq
namespace Go.Proofs.Ytehkgpefmjfifaa
open Go.RowKit
set_option linter.unusedVariables false
set_option linter.unusedSimpArgs false

/-- Where the token before ends. -/
def prevEnd (l : List Tk) : Nat → Nat
  | 0 => 0
  | k + 1 => match l[k]? with | some t => t.2.1 | none => 0
theorem prevEnd_next {l : List Tk} {k : Nat} {t : Tk} (h : l[k]? = some t) : prevEnd l (k + 1) = t.2.1 := by
  show (match l[k]? with | some t => t.2.1 | none => 0) = _
  rw [h]
theorem tok_here {bs : List Nat} {k : Nat} {t : Tk} (h : (toks bs)[k]? = some t) : Tok1 (kdAt bs) bs.length (prevEnd (toks bs) k) t := by
  rcases k with _ | k
  · have hr := toks_run bs
    rcases hl : toks bs with _ | ⟨u, r⟩
    · rw [hl] at h; cases h
    · rw [hl] at h hr
      have h : some u = some t := h
      injection h with h
      rw [← h]
      exact hr.1
  · have hlt := (List.getElem?_eq_some_iff.1 h).1
    obtain ⟨u, hu⟩ : ∃ u, (toks bs)[k]? = some u := ⟨_, List.getElem?_eq_getElem (by omega)⟩
    rw [prevEnd_next hu]
    exact run_next (toks_run bs) hu h
/-- Behind the last token there are only blanks. -/
theorem tail_blank (bs : List Nat) : ∀ j, prevEnd (toks bs) (toks bs).length ≤ j → j < bs.length → kdAt bs j = 4 := by
  rcases hl : (toks bs).length with _ | k
  · intro j _ hj
    have hr := toks_run bs
    rw [List.eq_nil_of_length_eq_zero hl] at hr
    exact hr j (Nat.zero_le _) hj
  · obtain ⟨u, hu⟩ : ∃ u, (toks bs)[k]? = some u := ⟨_, List.getElem?_eq_getElem (by omega)⟩
    rw [prevEnd_next hu]
    exact run_last (toks_run bs) hu (by omega)
theorem kdAt_blank {bs : List Nat} {j c : Nat} (h : bs[j]? = some c) (hk : kdAt bs j = 4) : c = 32 := by
  rw [kdAt_get h] at hk
  exact kd_blank.1 hk
/-- Two tokens of one kind that touch are no words and no numbers. -/
theorem touch_kind {bs : List Nat} {k : Nat} {t u : Tk} (ht : (toks bs)[k]? = some t) (hu : (toks bs)[k + 1]? = some u) (h1 : u.1 = t.2.1) (h2 : u.2.2 = t.2.2) : 1 < u.2.2 := by
  obtain ⟨_, _, _, _, _, k6, _⟩ := tok_here hu
  obtain ⟨_, _, k3, _, _, _, k7, _⟩ := tok_here ht
  obtain ⟨_, k2', k3', _⟩ := tok_here hu
  rcases Nat.lt_or_ge 1 u.2.2 with h | h
  · exact h
  · have := (k7 (by omega)).2 (by omega)
    rw [← h1, k6] at this
    exact absurd h2 this
theorem long_kind {bs : List Nat} {k : Nat} {t : Tk} (ht : (toks bs)[k]? = some t) (h : t.1 + 1 < t.2.1) : t.2.2 ≤ 1 := by
  obtain ⟨_, _, _, _, _, _, _, k8⟩ := tok_here ht
  rcases Nat.lt_or_ge t.2.2 2 with g | g
  · omega
  · have := k8 g
    omega
theorem part_one {s : ByteArray} {k : Nat} {t : Tk} (ht : (toks (sb s))[k]? = some t) : partS s (k : Int) ((k + 1 : Nat) : Int) = s.extract t.1 t.2.1 := part_yes (Nat.le_refl _) ht ht
theorem valid_part {s : ByteArray} (h : validT (sb s) = 0) : partS s 0 ((toks (sb s)).length : Int) = s := by
  unfold validT at h
  split at h
  · cases h
  · split at h
    · cases h
    · rename_i hn
      simp only [not_or] at hn
      obtain ⟨n1, n2, n3, _⟩ := hn
      have hpos : 0 < (sb s).length := List.length_pos_iff.2 n1
      obtain ⟨c, hc⟩ : ∃ c, (sb s)[0]? = some c := ⟨_, List.getElem?_eq_getElem hpos⟩
      obtain ⟨d, hd⟩ : ∃ c, (sb s)[(sb s).length - 1]? = some c := ⟨_, List.getElem?_eq_getElem (by omega)⟩
      have hk0 : kdAt (sb s) 0 ≠ 4 := fun e => n2 (by rw [hc, kdAt_blank hc e])
      have hk1 : kdAt (sb s) ((sb s).length - 1) ≠ 4 := fun e => n3 (by rw [hd, kdAt_blank hd e])
      rcases hl : (toks (sb s)).length with _ | m
      · exact absurd (tail_blank (sb s) 0 (by rw [hl]; exact Nat.le_refl _) hpos) hk0
      · obtain ⟨t, ht⟩ : ∃ u, (toks (sb s))[0]? = some u := ⟨_, List.getElem?_eq_getElem (by omega)⟩
        obtain ⟨u, hu⟩ : ∃ u, (toks (sb s))[m]? = some u := ⟨_, List.getElem?_eq_getElem (by omega)⟩
        have e1 : t.1 = 0 := by
          obtain ⟨_, _, _, k4, _⟩ := tok_here ht
          rcases Nat.eq_zero_or_pos t.1 with e | e
          · exact e
          · exact absurd (k4 0 (Nat.zero_le _) e) hk0
        have e2 : u.2.1 = (sb s).length := by
          obtain ⟨_, _, k3, _⟩ := tok_here hu
          rcases Nat.eq_or_lt_of_le k3 with e | e
          · exact e
          · exact absurd (tail_blank (sb s) _ (by rw [hl, prevEnd_next hu]; omega) (by omega)) hk1
        have := part_yes (s := s) (Nat.zero_le m) ht hu
        rw [e1, e2, sb_length] at this
        rw [show ((0 : Nat) : Int) = 0 from rfl] at this
        rw [this]
        apply sb_inj
        rw [sb_extract, List.drop_zero, List.take_of_length_le (by rw [sb_length]; omega)]
end Go.Proofs.Ytehkgpefmjfifaa
