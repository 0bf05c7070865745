/-
  Plain mathematics of tokens: the kinds of bytes, the tokens of a text, and what follows of texts side by side. No program is named here.
-/
import Init.Data.List.Lemmas
import Init.Data.Nat.Lemmas
import Init.Omega
namespace Go.Proofs.Ytehkgpefmjfifaa

def isL (c : Nat) : Bool := (decide (97 ≤ c) && decide (c ≤ 122)) || (decide (65 ≤ c) && decide (c ≤ 90))
def isD (c : Nat) : Bool := decide (48 ≤ c) && decide (c ≤ 57)
/-- The kind of a byte; 4: a blank. -/
def kd (c : Nat) : Nat := if c = 32 then 4 else if isL c then 0 else if isD c then 1 else if c = 64 then 3 else 2
def kdAt (bs : List Nat) (i : Nat) : Nat := match bs[i]? with
  | some c => kd c
  | none => 4
theorem kdAt_get {bs : List Nat} {i c : Nat} (h : bs[i]? = some c) : kdAt bs i = kd c := by unfold kdAt; rw [h]
theorem kd_le (c : Nat) : kd c ≤ 4 := by unfold kd; split <;> (try omega); split <;> (try omega); split <;> (try omega); split <;> omega
abbrev Tk := Nat × Nat × Nat
/-- The first place from i on that is not a blank; n: there is none. -/
def skipK (K : Nat → Nat) (n : Nat) : Nat → Nat → Nat
  | 0, i => i
  | f + 1, i => if i < n ∧ K i = 4 then skipK K n f (i + 1) else i
/-- The first place from i on of another kind than k. -/
def runK (K : Nat → Nat) (n k : Nat) : Nat → Nat → Nat
  | 0, i => i
  | f + 1, i => if i < n ∧ K i = k then runK K n k f (i + 1) else i
def toksF (K : Nat → Nat) (n : Nat) : Nat → Nat → List Tk
  | 0, _ => []
  | f + 1, at_ => if skipK K n n at_ < n then
      (skipK K n n at_, (if K (skipK K n n at_) < 2 then runK K n (K (skipK K n n at_)) n (skipK K n n at_ + 1) else skipK K n n at_ + 1), K (skipK K n n at_)) ::
        toksF K n f (if K (skipK K n n at_) < 2 then runK K n (K (skipK K n n at_)) n (skipK K n n at_ + 1) else skipK K n n at_ + 1)
    else []
/-- One token from a place on: only blanks before it, and as long as it can be. -/
def Tok1 (K : Nat → Nat) (n at_ : Nat) (t : Tk) : Prop :=
  at_ ≤ t.1 ∧ t.1 < t.2.1 ∧ t.2.1 ≤ n ∧ (∀ j, at_ ≤ j → j < t.1 → K j = 4) ∧ t.2.2 < 4 ∧ K t.1 = t.2.2 ∧ (t.2.2 < 2 → (∀ j, t.1 ≤ j → j < t.2.1 → K j = t.2.2) ∧ (t.2.1 < n → K t.2.1 ≠ t.2.2)) ∧ (2 ≤ t.2.2 → t.2.1 = t.1 + 1)
/-- The tokens from a place on. -/
def Run (K : Nat → Nat) (n : Nat) : Nat → List Tk → Prop
  | at_, [] => ∀ j, at_ ≤ j → j < n → K j = 4
  | at_, t :: r => Tok1 K n at_ t ∧ Run K n t.2.1 r
theorem skip_spec (K : Nat → Nat) (n : Nat) : ∀ (f i : Nat), i ≤ n → n - i ≤ f → i ≤ skipK K n f i ∧ skipK K n f i ≤ n ∧ (∀ j, i ≤ j → j < skipK K n f i → K j = 4) ∧ (skipK K n f i < n → K (skipK K n f i) ≠ 4)
  | 0, i, hi, hf => by unfold skipK; exact ⟨Nat.le_refl _, hi, fun j h1 h2 => by omega, fun h => by omega⟩
  | f + 1, i, hi, hf => by
    unfold skipK
    split
    · rename_i h
      obtain ⟨h1, h2, h3, h4⟩ := skip_spec K n f (i + 1) (by omega) (by omega)
      refine ⟨by omega, h2, fun j g1 g2 => ?_, h4⟩
      rcases Nat.eq_or_lt_of_le g1 with e | e
      · rw [← e]; exact h.2
      · exact h3 j e g2
    · rename_i h
      exact ⟨Nat.le_refl _, hi, fun j g1 g2 => by omega, fun g e => h ⟨g, e⟩⟩
theorem run_spec (K : Nat → Nat) (n k : Nat) : ∀ (f i : Nat), i ≤ n → n - i ≤ f → i ≤ runK K n k f i ∧ runK K n k f i ≤ n ∧ (∀ j, i ≤ j → j < runK K n k f i → K j = k) ∧ (runK K n k f i < n → K (runK K n k f i) ≠ k)
  | 0, i, hi, hf => by unfold runK; exact ⟨Nat.le_refl _, hi, fun j h1 h2 => by omega, fun h => by omega⟩
  | f + 1, i, hi, hf => by
    unfold runK
    split
    · rename_i h
      obtain ⟨h1, h2, h3, h4⟩ := run_spec K n k f (i + 1) (by omega) (by omega)
      refine ⟨by omega, h2, fun j g1 g2 => ?_, h4⟩
      rcases Nat.eq_or_lt_of_le g1 with e | e
      · rw [← e]; exact h.2
      · exact h3 j e g2
    · rename_i h
      exact ⟨Nat.le_refl _, hi, fun j g1 g2 => by omega, fun g e => h ⟨g, e⟩⟩
theorem toksF_run (K : Nat → Nat) (hK : ∀ i, K i ≤ 4) (n : Nat) : ∀ (f at_ : Nat), at_ ≤ n → n - at_ < f → Run K n at_ (toksF K n f at_)
  | 0, at_, h, hf => by omega
  | f + 1, at_, h, hf => by
    obtain ⟨s1, s2, s3, s4⟩ := skip_spec K n n at_ h (by omega)
    unfold toksF
    generalize skipK K n n at_ = a at s1 s2 s3 s4
    by_cases hlt : a < n
    · rw [if_pos hlt]
      have hk4 := s4 hlt
      have hk5 := hK a
      obtain ⟨r1, r2, r3, r4⟩ := run_spec K n (K a) n (a + 1) (by omega) (by omega)
      generalize runK K n (K a) n (a + 1) = e at r1 r2 r3 r4
      by_cases h2 : K a < 2
      · rw [if_pos h2]
        refine ⟨⟨s1, by show a < e; omega, r2, s3, by show K a < 4; omega, rfl, fun _ => ⟨fun j g1 g2 => ?_, r4⟩, fun g => by have g : 2 ≤ K a := g; omega⟩, ?_⟩
        · have g1 : a ≤ j := g1
          have g2 : j < e := g2
          rcases Nat.eq_or_lt_of_le g1 with e1 | e1
          · rw [← e1]
          · exact r3 j e1 g2
        · exact toksF_run K hK n f e r2 (by omega)
      · rw [if_neg h2]
        refine ⟨⟨s1, by show a < a + 1; omega, by show a + 1 ≤ n; omega, s3, by show K a < 4; omega, rfl, fun g => absurd g h2, fun _ => rfl⟩, ?_⟩
        exact toksF_run K hK n f (a + 1) (by omega) (by omega)
    · rw [if_neg hlt]
      intro j g1 g2
      exact s3 j g1 (by omega)
theorem kdAt_le (bs : List Nat) (i : Nat) : kdAt bs i ≤ 4 := by
  unfold kdAt
  split
  · exact kd_le _
  · exact Nat.le_refl _
/-- The tokens of a text. -/
def toks (bs : List Nat) : List Tk := toksF (kdAt bs) bs.length (bs.length + 1) 0
theorem toks_run (bs : List Nat) : Run (kdAt bs) bs.length 0 (toks bs) := toksF_run _ (kdAt_le bs) _ _ _ (Nat.zero_le _) (by omega)
/-- Two tokens from one place on are one. -/
theorem tok1_one {K : Nat → Nat} {n at_ : Nat} {t u : Tk} (h : Tok1 K n at_ t) (g : Tok1 K n at_ u) : t = u := by
  obtain ⟨t1, t2, t3⟩ := t
  obtain ⟨u1, u2, u3⟩ := u
  obtain ⟨h1, h2, h3, h4, h5, h6, h7, h8⟩ := h
  obtain ⟨g1, g2, g3, g4, g5, g6, g7, g8⟩ := g
  dsimp only at *
  have e1 : t1 = u1 := by
    rcases Nat.lt_trichotomy t1 u1 with c | c | c
    · have := g4 t1 h1 c; omega
    · exact c
    · have := h4 u1 g1 c; omega
  subst e1
  have e3 : t3 = u3 := by rw [← h6, ← g6]
  subst e3
  have e2 : t2 = u2 := by
    by_cases c2 : t3 < 2
    · obtain ⟨p1, p2⟩ := h7 c2
      obtain ⟨q1, q2⟩ := g7 c2
      rcases Nat.lt_trichotomy t2 u2 with c | c | c
      · exact absurd (q1 t2 (by omega) c) (p2 (by omega))
      · exact c
      · exact absurd (p1 u2 (by omega) c) (q2 (by omega))
    · rw [h8 (by omega), g8 (by omega)]
  rw [e2]
theorem run_one {K : Nat → Nat} {n : Nat} : ∀ {l m : List Tk} {at_ : Nat}, Run K n at_ l → Run K n at_ m → l = m
  | [], [], _, _, _ => rfl
  | [], u :: m, at_, h, g => by
    obtain ⟨⟨g1, g2, g3, _, g5, g6, _⟩, _⟩ := g
    have := h u.1 g1 (by omega)
    omega
  | t :: l, [], at_, h, g => by
    obtain ⟨⟨g1, g2, g3, _, g5, g6, _⟩, _⟩ := h
    have := g t.1 g1 (by omega)
    omega
  | t :: l, u :: m, at_, h, g => by
    obtain rfl := tok1_one h.1 g.1
    rw [run_one h.2 g.2]
theorem run_le {K : Nat → Nat} {n : Nat} : ∀ {l : List Tk} {at_ : Nat}, Run K n at_ l → ∀ t ∈ l, at_ ≤ t.1 ∧ t.1 < t.2.1 ∧ t.2.1 ≤ n ∧ t.2.2 < 4
  | [], _, _, t, ht => by cases ht
  | u :: l, at_, h, t, ht => by
    rcases List.mem_cons.1 ht with rfl | ht
    · exact ⟨h.1.1, h.1.2.1, h.1.2.2.1, h.1.2.2.2.2.1⟩
    · have := run_le h.2 t ht
      have h1 := h.1.1
      have h2 := h.1.2.1
      exact ⟨by omega, this.2⟩
theorem run_len {K : Nat → Nat} {n : Nat} : ∀ {l : List Tk} {at_ : Nat}, at_ ≤ n → Run K n at_ l → l.length + at_ ≤ n
  | [], at_, h0, _ => by simpa using h0
  | t :: l, at_, h0, h => by
    have := run_len (h.1.2.2.1) h.2
    have h1 := h.1.1
    have h2 := h.1.2.1
    rw [List.length_cons]
    omega
theorem toks_len (bs : List Nat) : (toks bs).length ≤ bs.length := by have := run_len (Nat.zero_le _) (toks_run bs); omega
theorem toks_in {bs : List Nat} {i : Nat} {t : Tk} (h : (toks bs)[i]? = some t) : t.1 < t.2.1 ∧ t.2.1 ≤ bs.length ∧ t.2.2 < 4 := by
  have := run_le (toks_run bs) t (List.mem_of_getElem? h)
  exact this.2
/-- A tail of the tokens, from the place where it begins. -/
theorem run_tail {K : Nat → Nat} {n : Nat} : ∀ {l : List Tk} {at_ : Nat}, Run K n at_ l → ∀ i, Run K n (if i = 0 then at_ else match l[i - 1]? with | some t => t.2.1 | none => n) (l.drop i)
  | l, at_, h, 0 => by rw [if_pos rfl]; exact h
  | [], at_, h, i + 1 => by
    rw [if_neg (by omega)]
    intro j h1 h2
    have h1 : n ≤ j := h1
    omega
  | t :: l, at_, h, i + 1 => by
    rw [if_neg (by omega)]
    have ih := run_tail h.2 i
    rcases i with _ | i
    · exact ih
    · rw [if_neg (by omega)] at ih
      exact ih
/-- Where a token and the next one touch, and what is between them. -/
theorem run_next {K : Nat → Nat} {n : Nat} {l : List Tk} {at_ : Nat} (h : Run K n at_ l) {i : Nat} {t u : Tk} (ht : l[i]? = some t) (hu : l[i + 1]? = some u) : Tok1 K n t.2.1 u := by
  have ih := run_tail h (i + 1)
  rw [if_neg (by omega), Nat.add_sub_cancel, ht] at ih
  have e : l.drop (i + 1) = u :: l.drop (i + 2) := by
    obtain ⟨hlt, he⟩ := List.getElem?_eq_some_iff.1 hu
    rw [← he]; exact List.drop_eq_getElem_cons hlt
  rw [e] at ih
  exact ih.1
theorem run_last {K : Nat → Nat} {n : Nat} {l : List Tk} {at_ : Nat} (h : Run K n at_ l) {i : Nat} {t : Tk} (ht : l[i]? = some t) (hi : i + 1 = l.length) : ∀ j, t.2.1 ≤ j → j < n → K j = 4 := by
  have ih := run_tail h (i + 1)
  rw [if_neg (by omega), Nat.add_sub_cancel, ht, List.drop_eq_nil_of_le (by omega)] at ih
  exact ih
/-- Behind a token there is a blank, or the end, exactly if the next one does not touch it. -/
theorem unit_end {bs : List Nat} {i : Nat} {t : Tk} (ht : (toks bs)[i]? = some t) : (t.2.1 = bs.length ∨ kdAt bs t.2.1 = 4) ↔ ∀ u, (toks bs)[i + 1]? = some u → t.2.1 < u.1 := by
  have hr := toks_run bs
  have hin := toks_in ht
  constructor
  · intro h u hu
    obtain ⟨h1, h2, h3, h4, h5, h6, _⟩ := run_next hr ht hu
    rcases h with h | h
    · omega
    · rcases Nat.eq_or_lt_of_le h1 with e | e
      · rw [← e] at h6; omega
      · exact e
  · intro h
    rcases hu : (toks bs)[i + 1]? with _ | u
    · have hlen : i + 1 = (toks bs).length := by
        have h1 := (List.getElem?_eq_some_iff.1 ht).1
        have h2 := List.getElem?_eq_none_iff.1 hu
        omega
      rcases Nat.eq_or_lt_of_le hin.2.1 with e | e
      · exact Or.inl e
      · exact Or.inr (run_last hr ht hlen _ (Nat.le_refl _) e)
    · obtain ⟨h1, h2, h3, h4, _⟩ := run_next hr ht hu
      exact Or.inr (h4 _ (Nat.le_refl _) (h u hu))
/-- Before a token there is a blank exactly if the one before does not touch it. -/
theorem unit_begin {bs : List Nat} {i : Nat} {t u : Tk} (ht : (toks bs)[i]? = some t) (hu : (toks bs)[i + 1]? = some u) : kdAt bs (u.1 - 1) = 4 ↔ t.2.1 < u.1 := by
  have hr := toks_run bs
  obtain ⟨h1, h2, h3, h4, _⟩ := run_next hr ht hu
  have hin := toks_in ht
  constructor
  · intro h
    rcases Nat.eq_or_lt_of_le h1 with e | e
    · exfalso
      -- the last byte of t is no blank
      have htk : Tok1 (kdAt bs) bs.length (if i = 0 then 0 else match (toks bs)[i - 1]? with | some t => t.2.1 | none => bs.length) t := by
        have ih := run_tail hr i
        have e : (toks bs).drop i = t :: (toks bs).drop (i + 1) := by
          obtain ⟨hlt, he⟩ := List.getElem?_eq_some_iff.1 ht
          rw [← he]; exact List.drop_eq_getElem_cons hlt
        rw [e] at ih
        exact ih.1
      obtain ⟨k1, k2, k3, k4, k5, k6, k7, k8⟩ := htk
      rw [← e] at h
      by_cases c : t.2.2 < 2
      · have := (k7 c).1 (t.2.1 - 1) (by omega) (by omega); omega
      · have := k8 (by omega)
        rw [this, Nat.add_sub_cancel] at h
        omega
    · exact e
  · intro h
    exact h4 _ (by omega) (by omega)

end Go.Proofs.Ytehkgpefmjfifaa
