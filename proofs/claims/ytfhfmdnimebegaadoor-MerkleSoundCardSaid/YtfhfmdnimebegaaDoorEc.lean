/-
  The specification's Under, Check and CheckRange: what the package's answer. Conditions: as each theorem states them; no axiom beyond propext, Classical.choice, Quot.sound.
-/
import Derived.Test.YtfhfmdnimebegaaDoorE8
import Derived.Test.YtfhfmdnimebegaaDoorE4

/-
  Plain mathematics: the tree of the reference, fed with sides, leads where the package's function leads.
-/
namespace Go.Proofs.YtfhfmdnimebegaaDoor
set_option linter.unusedVariables false
set_option linter.unusedSimpArgs false

/-- How far the tree has come through the sides, and what is left of them. -/
def StT (sd : List (List Nat)) (u : Nat) (sh : Bool) (o : Option (List (List Nat))) : Prop := (sh = true ∧ o = none) ∨ (sh = false ∧ u ≤ sd.length ∧ o = some (sd.drop u))
theorem row_bld (lf : List Lf) (F : Nat) (sd : List (List Nat)) : ∀ (k a b : Nat) (tx : List ByteArray) (u : Nat) (sh : Bool) (o : Option (List (List Nat))), b - a ≤ k → a < b → StT sd u sh o →
    StT sd (rowTM lf F sd a b (tx, u, sh)).2.2.1 (rowTM lf F sd a b (tx, u, sh)).2.2.2 (bldM lf F a b o).2 ∧ ((rowTM lf F sd a b (tx, u, sh)).2.2.2 = false → (rowTM lf F sd a b (tx, u, sh)).1 = (bldM lf F a b o).1)
  | 0, a, b, tx, u, sh, o, hk, h, _ => by omega
  | k + 1, a, b, tx, u, sh, o, hk, h, hs => by
    by_cases ho : b ≤ F ∨ F + lf.length ≤ a
    · rcases hs with ⟨rfl, rfl⟩ | ⟨rfl, hu, rfl⟩
      · rw [bld_none]
        rcases hd : sd[u]? with _ | d
        · rw [rowTM_short lf F sd a b tx u true h ho hd]
          exact ⟨Or.inl ⟨rfl, rfl⟩, fun h => by cases h⟩
        · rw [rowTM_take lf F sd a b tx u true d h ho hd]
          exact ⟨Or.inl ⟨rfl, rfl⟩, fun h => by cases h⟩
      · rcases hd : sd[u]? with _ | d
        · have hn : sd.drop u = [] := List.drop_eq_nil_of_le (List.getElem?_eq_none_iff.1 hd)
          rw [rowTM_short lf F sd a b tx u false h ho hd, hn, bld_out_nil lf F a b h ho]
          exact ⟨Or.inl ⟨rfl, rfl⟩, fun h => by cases h⟩
        · obtain ⟨hlt, he⟩ := List.getElem?_eq_some_iff.1 hd
          have hn : sd.drop u = d :: sd.drop (u + 1) := by rw [← he]; exact List.drop_eq_getElem_cons hlt
          rw [rowTM_take lf F sd a b tx u false d h ho hd, hn, bld_out lf F a b d _ h ho]
          exact ⟨Or.inr ⟨rfl, hlt, rfl⟩, fun _ => rfl⟩
    · by_cases hb : b = a + 1
      · subst hb
        rw [rowTM_leaf lf F sd a tx u sh ho]
        rcases hs with ⟨rfl, rfl⟩ | ⟨rfl, hu, rfl⟩
        · rw [bld_none]
          exact ⟨Or.inl ⟨rfl, rfl⟩, fun h => by cases h⟩
        · rw [bld_leaf lf F a _ ho]
          exact ⟨Or.inr ⟨rfl, hu, rfl⟩, fun _ => rfl⟩
      · have h3 := half_lt (b - a) (by omega)
        have h4 := half_pos (b - a)
        obtain ⟨⟨D1, tx1, u1, sh1⟩, hr1⟩ : ∃ r, rowTM lf F sd a (a + half (b - a)) (tx, u, sh) = r := ⟨_, rfl⟩
        obtain ⟨⟨D2, tx2, u2, sh2⟩, hr2⟩ : ∃ r, rowTM lf F sd (a + half (b - a)) b (tx1, u1, sh1) = r := ⟨_, rfl⟩
        have i1 := row_bld lf F sd k a (a + half (b - a)) tx u sh o (by omega) (by omega) hs
        rw [hr1] at i1
        have i2 := row_bld lf F sd k (a + half (b - a)) b tx1 u1 sh1 (bldM lf F a (a + half (b - a)) o).2 (by omega) (by omega) i1.1
        rw [hr2] at i2
        rw [rowT_split lf F sd a b (tx, u, sh) (by omega) ho hr1 hr2]
        dsimp only at i1 i2 ⊢
        rcases hs with ⟨rfl, rfl⟩ | ⟨rfl, hu, rfl⟩
        · rw [bld_none] at i1 i2 ⊢
          rw [bld_none] at i2
          rcases i2.1 with ⟨rfl, _⟩ | ⟨_, _, h⟩
          · exact ⟨Or.inl ⟨rfl, rfl⟩, fun h => by cases h⟩
          · cases h
        · rw [bld_split lf F a b _ (by omega) ho]
          dsimp only
          refine ⟨i2.1, fun he => ?_⟩
          subst he
          rcases i1.1 with ⟨rfl, e1⟩ | ⟨rfl, _, _⟩
          · rw [e1, bld_none] at i2
            rcases i2.1 with ⟨h, _⟩ | ⟨_, _, h⟩
            · cases h
            · cases h
          · rw [i1.2 rfl, i2.2 rfl]
/-- The answer of the reference's Under is that of the package's under. -/
theorem under_tree (R : List Nat) (lf : List Lf) (F S : Nat) (sd : List (List Nat)) (hS : 1 ≤ S) (hS2 : S ≤ 4096) (hFn : F + lf.length ≤ S) (hv : validM lf = 0) (hne : lf ≠ []) {D : List Nat} {tx : List ByteArray} {u : Nat} {sh : Bool}
    (h : rowTM lf F sd 0 S ([], 0, false) = (D, tx, u, sh)) : underM R (F : Int) (S : Int) lf sd = (!sh && decide (u = sd.length) && decide (topD S D = R)) := by
  have hb := row_bld lf F sd (S - 0) 0 S [] 0 false (some sd) (Nat.le_refl _) (by omega) (Or.inr ⟨rfl, Nat.zero_le _, rfl⟩)
  rw [h] at hb
  dsimp only at hb
  unfold underM
  rw [if_neg (by rw [hv]; omega), if_neg (by omega), if_neg hne, Int.toNat_natCast, Int.toNat_natCast]
  rcases hb with ⟨⟨rfl, e⟩ | ⟨rfl, hu, e⟩, hD⟩
  · rw [e]; rfl
  · rw [e, ← hD rfl]
    have h1 : (some (sd.drop u) = some []) ↔ u = sd.length := by
      rw [Option.some.injEq, List.drop_eq_nil_iff]
      omega
    rw [decide_eq_decide.2 h1, decide_eq_decide.2 (show R = topD S D ↔ topD S D = R from ⟨Eq.symm, Eq.symm⟩)]
    rfl

end Go.Proofs.YtfhfmdnimebegaaDoor
