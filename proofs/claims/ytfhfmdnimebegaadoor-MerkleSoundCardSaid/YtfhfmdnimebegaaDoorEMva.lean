/-
  Plain mathematics: a root binds its leaves, unless two different texts have the same digest.
  Conditions: the tables of the packages hash and passimref02 lie as the program lays them when the call begins (the card ties them to the text); no other.
-/
import Derived.Test.YtfhfmdnimebegaaDoorEc
import Derived.Test.YtfhfmdnimebegaaDoorEQx
import Derived.Test.YtfhfmdnimebegaaDoorE3

namespace Go.Proofs.YtfhfmdnimebegaaDoor
set_option linter.unusedVariables false
set_option linter.unusedSimpArgs false

/-- The digest of a text. -/
def shT (t : ByteArray) : List Nat := (sha (sb t)).take 16
/-- No two different texts among these have the same digest. -/
def NoColl (Z : List ByteArray) : Prop := ∀ u ∈ Z, ∀ v ∈ Z, shT u = shT v → u = v
def Bytes (ps : List (List Nat)) : Prop := ∀ p ∈ ps, (∀ y ∈ p, y < 256) ∧ p.length ≤ 1048576
theorem ofIn_lt (T : Nat) (hT : T < 256) (ps : List (List Nat)) (h : Bytes ps) : ∀ y ∈ ofIn T ps, y < 256 := by
  intro y hy
  unfold ofIn at hy
  rcases List.mem_cons.1 hy with rfl | hy
  · exact hT
  · obtain ⟨p, hp, hy⟩ := List.mem_flatMap.1 hy
    have e := sb_strOf p (h p hp).1
    have hs : (strOf p).size ≤ 9223372036854775807 := by
      have h2 : (sb (strOf p)).length = p.length := by rw [e]
      rw [sb_length] at h2
      have := (h p hp).2
      omega
    rw [← e] at hy
    exact encS_lt (strOf p) hs y hy
theorem sb_text (T : Nat) (hT : T < 256) (ps : List (List Nat)) (h : Bytes ps) : sb (strOf (ofIn T ps)) = ofIn T ps := sb_strOf _ (ofIn_lt T hT ps h)
theorem shT_text (T : Nat) (hT : T < 256) (ps : List (List Nat)) (h : Bytes ps) : shT (strOf (ofIn T ps)) = ofS T ps := by
  unfold shT ofS
  rw [sb_text T hT ps h]
theorem text_inj (S T : Nat) (hS : S < 256) (hT : T < 256) (p q : List (List Nat)) (hp : Bytes p) (hq : Bytes q) (h : strOf (ofIn S p) = strOf (ofIn T q)) : S = T ∧ p = q := by
  have e : ofIn S p = ofIn T q := by rw [← sb_text S hS p hp, ← sb_text T hT q hq, h]
  unfold ofIn at e
  rw [List.cons.injEq] at e
  exact ⟨e.1, encF_inj p q (fun s hs => by have := (hp s hs).2; omega) (fun s hs => by have := (hq s hs).2; omega) e.2⟩
/-- Texts of which no two collide: equal digests, equal parts. -/
theorem parts_eq {Z : List ByteArray} (hZ : NoColl Z) (S T : Nat) (hS : S < 256) (hT : T < 256) (p q : List (List Nat)) (hp : Bytes p) (hq : Bytes q) (h1 : strOf (ofIn S p) ∈ Z) (h2 : strOf (ofIn T q) ∈ Z) (h : ofS S p = ofS T q) : S = T ∧ p = q :=
  text_inj S T hS hT p q hp hq (hZ _ h1 _ h2 (by rw [shT_text S hS p hp, shT_text T hT q hq, h]))
theorem bytes_two {x y : List Nat} (hx : Dgt x) (hy : Dgt y) : Bytes [x, y] := by
  intro p hp
  simp at hp
  rcases hp with rfl | rfl
  · exact ⟨hx.2, by rw [hx.1]; omega⟩
  · exact ⟨hy.2, by rw [hy.1]; omega⟩
theorem bytes_leaf {x : Lf} (h1 : x.1.size ≤ 1048576) (h2 : x.2.size ≤ 1048576) : Bytes [sb x.1, sb x.2] := by
  intro p hp
  simp at hp
  rcases hp with rfl | rfl
  · exact ⟨sb_lt _, by rw [sb_length]; exact h1⟩
  · exact ⟨sb_lt _, by rw [sb_length]; exact h2⟩
/-- The texts of a row: those that were there, and more. -/
theorem rowTM_mono (lf : List Lf) (F : Nat) (sd : List (List Nat)) : ∀ (k a b : Nat) (tx : List ByteArray) (u : Nat) (sh : Bool), b - a ≤ k → a < b → ∀ t ∈ tx, t ∈ (rowTM lf F sd a b (tx, u, sh)).2.1
  | 0, a, b, tx, u, sh, hk, h, t, ht => by omega
  | k + 1, a, b, tx, u, sh, hk, h, t, ht => by
    by_cases ho : b ≤ F ∨ F + lf.length ≤ a
    · rcases hd : sd[u]? with _ | d
      · rw [rowTM_short lf F sd a b tx u sh h ho hd]; exact ht
      · rw [rowTM_take lf F sd a b tx u sh d h ho hd]; exact ht
    · by_cases hb : b = a + 1
      · subst hb
        rw [rowTM_leaf lf F sd a tx u sh ho]
        exact List.mem_append_left _ ht
      · have h3 := half_lt (b - a) (by omega)
        have h4 := half_pos (b - a)
        obtain ⟨⟨D1, tx1, u1, sh1⟩, hr1⟩ : ∃ r, rowTM lf F sd a (a + half (b - a)) (tx, u, sh) = r := ⟨_, rfl⟩
        obtain ⟨⟨D2, tx2, u2, sh2⟩, hr2⟩ : ∃ r, rowTM lf F sd (a + half (b - a)) b (tx1, u1, sh1) = r := ⟨_, rfl⟩
        rw [rowT_split lf F sd a b (tx, u, sh) (by omega) ho hr1 hr2]
        have m1 := rowTM_mono lf F sd k a (a + half (b - a)) tx u sh (by omega) (by omega) t ht
        rw [hr1] at m1
        have m2 := rowTM_mono lf F sd k (a + half (b - a)) b tx1 u1 sh1 (by omega) (by omega) t m1
        rw [hr2] at m2
        exact List.mem_append_left _ m2
theorem rowTM_dgt (lf : List Lf) (F : Nat) (sd : List (List Nat)) (hd : Dgts sd) : ∀ (k a b : Nat) (tx : List ByteArray) (u : Nat) (sh : Bool), b - a ≤ k → a < b → Dgt (rowTM lf F sd a b (tx, u, sh)).1
  | 0, a, b, tx, u, sh, hk, h => by omega
  | k + 1, a, b, tx, u, sh, hk, h => by
    by_cases ho : b ≤ F ∨ F + lf.length ≤ a
    · rcases hu : sd[u]? with _ | d
      · rw [rowTM_short lf F sd a b tx u sh h ho hu]; exact z16_dgt
      · rw [rowTM_take lf F sd a b tx u sh d h ho hu]; exact hd d (List.mem_of_getElem? hu)
    · by_cases hb : b = a + 1
      · subst hb
        rw [rowTM_leaf lf F sd a tx u sh ho]
        have hl : 1 ≤ ((lf.drop (a - F)).take 1).length := by rw [List.length_take, List.length_drop]; omega
        exact rowM_dgt _ _ (Nat.le_refl _) hl
      · have h3 := half_lt (b - a) (by omega)
        have h4 := half_pos (b - a)
        obtain ⟨⟨D1, tx1, u1, sh1⟩, hr1⟩ : ∃ r, rowTM lf F sd a (a + half (b - a)) (tx, u, sh) = r := ⟨_, rfl⟩
        obtain ⟨⟨D2, tx2, u2, sh2⟩, hr2⟩ : ∃ r, rowTM lf F sd (a + half (b - a)) b (tx1, u1, sh1) = r := ⟨_, rfl⟩
        rw [rowT_split lf F sd a b (tx, u, sh) (by omega) ho hr1 hr2]
        exact dig_ofS _ _
/-- The row of a proof with the digest of the row of the leaves: what it shows are these leaves. -/
theorem bind_row (l lf : List Lf) (hl : Small l) (hlf : Small lf) (F : Nat) (sd : List (List Nat)) (hd : Dgts sd) (Z : List ByteArray) (hZ : NoColl Z) : ∀ (k a b : Nat) (tx : List ByteArray) (u : Nat) (sh : Bool) (tl : List ByteArray) (ul : Nat) (shl : Bool), b - a ≤ k → a < b → b ≤ l.length →
    (∀ t ∈ (rowTM lf F sd a b (tx, u, sh)).2.1, t ∈ Z) → (∀ t ∈ (rowTM l 0 [] a b (tl, ul, shl)).2.1, t ∈ Z) → (rowTM lf F sd a b (tx, u, sh)).1 = (rowTM l 0 [] a b (tl, ul, shl)).1 →
    ∀ i, a ≤ i → i < b → F ≤ i → i < F + lf.length → lf[i - F]? = l[i]?
  | 0, a, b, tx, u, sh, tl, ul, shl, hk, h, hb, h1, h2, he, i, hi1, hi2, hi3, hi4 => by omega
  | k + 1, a, b, tx, u, sh, tl, ul, shl, hk, h, hbl, h1, h2, he, i, hi1, hi2, hi3, hi4 => by
    have ho : ¬ (b ≤ F ∨ F + lf.length ≤ a) := by omega
    have hol : ¬ (b ≤ 0 ∨ 0 + l.length ≤ a) := by omega
    by_cases hb : b = a + 1
    · subst hb
      obtain rfl : i = a := by omega
      rw [rowTM_leaf lf F sd i tx u sh ho] at h1 he
      rw [rowTM_leaf l 0 [] i tl ul shl hol] at h2 he
      have hx : lf[i - F]? = some (lf[i - F]'(by omega)) := List.getElem?_eq_getElem (by omega)
      have hy : l[i]? = some (l[i]'(by omega)) := List.getElem?_eq_getElem (by omega)
      generalize lf[i - F]'(by omega) = x at hx
      generalize l[i]'(by omega) = y at hy
      have e1 : (lf.drop (i - F)).take 1 = [x] := by
        obtain ⟨hlt, e⟩ := List.getElem?_eq_some_iff.1 hx
        rw [List.drop_eq_getElem_cons hlt, e]
        rfl
      have e2 : (l.drop (i - 0)).take 1 = [y] := by
        obtain ⟨hlt, e⟩ := List.getElem?_eq_some_iff.1 hy
        rw [Nat.sub_zero, List.drop_eq_getElem_cons hlt, e]
        rfl
      rw [e1] at h1 he
      rw [e2] at h2 he
      dsimp only at h1 h2 he
      have hxs := hlf x (List.mem_of_getElem? hx)
      have hys := hl y (List.mem_of_getElem? hy)
      have p := parts_eq hZ 3 3 (by omega) (by omega) [sb x.1, sb x.2] [sb y.1, sb y.2] (bytes_leaf hxs.1 hxs.2) (bytes_leaf hys.1 hys.2) (h1 _ (List.mem_append_right _ (by simp))) (h2 _ (List.mem_append_right _ (by simp))) he
      have q := p.2
      rw [List.cons.injEq, List.cons.injEq] at q
      have hxy : x = y := Prod.ext (sb_inj q.1) (sb_inj q.2.1)
      rw [hx, hy, hxy]
    · have h3 := half_lt (b - a) (by omega)
      have h4 := half_pos (b - a)
      obtain ⟨⟨D1, tx1, u1, sh1⟩, hr1⟩ : ∃ r, rowTM lf F sd a (a + half (b - a)) (tx, u, sh) = r := ⟨_, rfl⟩
      obtain ⟨⟨D2, tx2, u2, sh2⟩, hr2⟩ : ∃ r, rowTM lf F sd (a + half (b - a)) b (tx1, u1, sh1) = r := ⟨_, rfl⟩
      obtain ⟨⟨E1, tl1, ul1, shl1⟩, hs1⟩ : ∃ r, rowTM l 0 [] a (a + half (b - a)) (tl, ul, shl) = r := ⟨_, rfl⟩
      obtain ⟨⟨E2, tl2, ul2, shl2⟩, hs2⟩ : ∃ r, rowTM l 0 [] (a + half (b - a)) b (tl1, ul1, shl1) = r := ⟨_, rfl⟩
      rw [rowT_split lf F sd a b (tx, u, sh) (by omega) ho hr1 hr2] at h1 he
      rw [rowT_split l 0 [] a b (tl, ul, shl) (by omega) hol hs1 hs2] at h2 he
      dsimp only at h1 h2 he
      have d1 := rowTM_dgt lf F sd hd _ a (a + half (b - a)) tx u sh (Nat.le_refl _) (by omega)
      have d2 := rowTM_dgt lf F sd hd _ (a + half (b - a)) b tx1 u1 sh1 (Nat.le_refl _) (by omega)
      have g1 := rowTM_dgt l 0 [] (fun d h => by cases h) _ a (a + half (b - a)) tl ul shl (Nat.le_refl _) (by omega)
      have g2 := rowTM_dgt l 0 [] (fun d h => by cases h) _ (a + half (b - a)) b tl1 ul1 shl1 (Nat.le_refl _) (by omega)
      rw [hr1] at d1
      rw [hr2] at d2
      rw [hs1] at g1
      rw [hs2] at g2
      have p := parts_eq hZ 4 4 (by omega) (by omega) [D1, D2] [E1, E2] (bytes_two d1 d2) (bytes_two g1 g2) (h1 _ (List.mem_append_right _ (by simp))) (h2 _ (List.mem_append_right _ (by simp))) he
      have q := p.2
      rw [List.cons.injEq, List.cons.injEq] at q
      have m2 : ∀ t ∈ tx2, t ∈ Z := fun t ht => h1 t (List.mem_append_left _ ht)
      have n2 : ∀ t ∈ tl2, t ∈ Z := fun t ht => h2 t (List.mem_append_left _ ht)
      have m1 : ∀ t ∈ tx1, t ∈ Z := fun t ht => m2 t (by have := rowTM_mono lf F sd _ (a + half (b - a)) b tx1 u1 sh1 (Nat.le_refl _) (by omega) t ht; rw [hr2] at this; exact this)
      have n1 : ∀ t ∈ tl1, t ∈ Z := fun t ht => n2 t (by have := rowTM_mono l 0 [] _ (a + half (b - a)) b tl1 ul1 shl1 (Nat.le_refl _) (by omega) t ht; rw [hs2] at this; exact this)
      rcases Nat.lt_or_ge i (a + half (b - a)) with hlt | hge
      · exact bind_row l lf hl hlf F sd hd Z hZ k a (a + half (b - a)) tx u sh tl ul shl (by omega) (by omega) (by omega) (by rw [hr1]; exact m1) (by rw [hs1]; exact n1) (by rw [hr1, hs1]; exact q.1) i hi1 hlt hi3 hi4
      · exact bind_row l lf hl hlf F sd hd Z hZ k (a + half (b - a)) b tx1 u1 sh1 tl1 ul1 shl1 (by omega) (by omega) hbl (by rw [hr2]; exact m2) (by rw [hs2]; exact n2) (by rw [hr2, hs2]; exact q.2.1) i hge hi2 hi3 hi4

end Go.Proofs.YtfhfmdnimebegaaDoor
