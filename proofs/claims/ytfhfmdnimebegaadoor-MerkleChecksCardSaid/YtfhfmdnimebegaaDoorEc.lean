/-
  The specification's Under, Check and CheckRange: what the package's answer. Conditions: as each theorem states them; no axiom beyond propext, Classical.choice, Quot.sound.
-/
import Derived.Test.YtfhfmdnimebegaaDoorE8
import Derived.Test.YtfhfmdnimebegaaDoorE4
import Derived.Test.YtfhfmdnimebegaaDoorE5
import Derived.Test.YtfhfmdnimebegaaDoorE6
import Derived.Test.YtfhfmdnimebegaaDoorE9
import Derived.Test.YtfhfmdnimebegaaDoorE7

/-
  Plain mathematics: the tree of the reference, fed with sides, leads where the package's function leads.
-/
namespace Go.Proofs.YtfhfmdnimebegaaDoor
set_option linter.unusedVariables false
set_option linter.unusedSimpArgs false

/-- How far the tree has come through the sides, and what is left of them. -/
def StT (sd : List (List Nat)) (u : Nat) (sh : Bool) (o : Option (List (List Nat))) : Prop := (sh = true ∧ o = none) ∨ (sh = false ∧ u ≤ sd.length ∧ o = some (sd.drop u))
theorem row_bld (lf : List Lf) (F : Nat) (sd : List (List Nat)) : ∀ (k a b : Nat) (tx : List ByteArray) (u : Nat) (sh : Bool) (o : Option (List (List Nat))), b - a ≤ k → a < b → StT sd u sh o →
    StT sd (rowTM lf F sd a b (tx, u, sh)).2.2.1 (rowTM lf F sd a b (tx, u, sh)).2.2.2 (bldM lf F a b o).2 ∧ ((rowTM lf F sd a b (tx, u, sh)).2.2.2 = false → (rowTM lf F sd a b (tx, u, sh)).1 = (bldM lf F a b o).1)
  | 0, a, b, tx, u, sh, o, hk, h, _ => by omega
  | k + 1, a, b, tx, u, sh, o, hk, h, hs => by
    by_cases ho : b ≤ F ∨ F + lf.length ≤ a
    · rcases hs with ⟨rfl, rfl⟩ | ⟨rfl, hu, rfl⟩
      · rw [bld_none]
        rcases hd : sd[u]? with _ | d
        · rw [rowTM_short lf F sd a b tx u true h ho hd]
          exact ⟨Or.inl ⟨rfl, rfl⟩, fun h => by cases h⟩
        · rw [rowTM_take lf F sd a b tx u true d h ho hd]
          exact ⟨Or.inl ⟨rfl, rfl⟩, fun h => by cases h⟩
      · rcases hd : sd[u]? with _ | d
        · have hn : sd.drop u = [] := List.drop_eq_nil_of_le (List.getElem?_eq_none_iff.1 hd)
          rw [rowTM_short lf F sd a b tx u false h ho hd, hn, bld_out_nil lf F a b h ho]
          exact ⟨Or.inl ⟨rfl, rfl⟩, fun h => by cases h⟩
        · obtain ⟨hlt, he⟩ := List.getElem?_eq_some_iff.1 hd
          have hn : sd.drop u = d :: sd.drop (u + 1) := by rw [← he]; exact List.drop_eq_getElem_cons hlt
          rw [rowTM_take lf F sd a b tx u false d h ho hd, hn, bld_out lf F a b d _ h ho]
          exact ⟨Or.inr ⟨rfl, hlt, rfl⟩, fun _ => rfl⟩
    · by_cases hb : b = a + 1
      · subst hb
        rw [rowTM_leaf lf F sd a tx u sh ho]
        rcases hs with ⟨rfl, rfl⟩ | ⟨rfl, hu, rfl⟩
        · rw [bld_none]
          exact ⟨Or.inl ⟨rfl, rfl⟩, fun h => by cases h⟩
        · rw [bld_leaf lf F a _ ho]
          exact ⟨Or.inr ⟨rfl, hu, rfl⟩, fun _ => rfl⟩
      · have h3 := half_lt (b - a) (by omega)
        have h4 := half_pos (b - a)
        obtain ⟨⟨D1, tx1, u1, sh1⟩, hr1⟩ : ∃ r, rowTM lf F sd a (a + half (b - a)) (tx, u, sh) = r := ⟨_, rfl⟩
        obtain ⟨⟨D2, tx2, u2, sh2⟩, hr2⟩ : ∃ r, rowTM lf F sd (a + half (b - a)) b (tx1, u1, sh1) = r := ⟨_, rfl⟩
        have i1 := row_bld lf F sd k a (a + half (b - a)) tx u sh o (by omega) (by omega) hs
        rw [hr1] at i1
        have i2 := row_bld lf F sd k (a + half (b - a)) b tx1 u1 sh1 (bldM lf F a (a + half (b - a)) o).2 (by omega) (by omega) i1.1
        rw [hr2] at i2
        rw [rowT_split lf F sd a b (tx, u, sh) (by omega) ho hr1 hr2]
        dsimp only at i1 i2 ⊢
        rcases hs with ⟨rfl, rfl⟩ | ⟨rfl, hu, rfl⟩
        · rw [bld_none] at i1 i2 ⊢
          rw [bld_none] at i2
          rcases i2.1 with ⟨rfl, _⟩ | ⟨_, _, h⟩
          · exact ⟨Or.inl ⟨rfl, rfl⟩, fun h => by cases h⟩
          · cases h
        · rw [bld_split lf F a b _ (by omega) ho]
          dsimp only
          refine ⟨i2.1, fun he => ?_⟩
          subst he
          rcases i1.1 with ⟨rfl, e1⟩ | ⟨rfl, _, _⟩
          · rw [e1, bld_none] at i2
            rcases i2.1 with ⟨h, _⟩ | ⟨_, _, h⟩
            · cases h
            · cases h
          · rw [i1.2 rfl, i2.2 rfl]
/-- The answer of the reference's Under is that of the package's under. -/
theorem under_tree (R : List Nat) (lf : List Lf) (F S : Nat) (sd : List (List Nat)) (hS : 1 ≤ S) (hS2 : S ≤ 4096) (hFn : F + lf.length ≤ S) (hv : validM lf = 0) (hne : lf ≠ []) {D : List Nat} {tx : List ByteArray} {u : Nat} {sh : Bool}
    (h : rowTM lf F sd 0 S ([], 0, false) = (D, tx, u, sh)) : underM R (F : Int) (S : Int) lf sd = (!sh && decide (u = sd.length) && decide (topD S D = R)) := by
  have hb := row_bld lf F sd (S - 0) 0 S [] 0 false (some sd) (Nat.le_refl _) (by omega) (Or.inr ⟨rfl, Nat.zero_le _, rfl⟩)
  rw [h] at hb
  dsimp only at hb
  unfold underM
  rw [if_neg (by rw [hv]; omega), if_neg (by omega), if_neg hne, Int.toNat_natCast, Int.toNat_natCast]
  rcases hb with ⟨⟨rfl, e⟩ | ⟨rfl, hu, e⟩, hD⟩
  · rw [e]; rfl
  · rw [e, ← hD rfl]
    have h1 : (some (sd.drop u) = some []) ↔ u = sd.length := by
      rw [Option.some.injEq, List.drop_eq_nil_iff]
      omega
    rw [decide_eq_decide.2 h1, decide_eq_decide.2 (show R = topD S D ↔ topD S D = R from ⟨Eq.symm, Eq.symm⟩)]
    rfl

end Go.Proofs.YtfhfmdnimebegaaDoor

/-
  The reference's Under.
-/
namespace Go.Proofs.YtfhfmdnimebegaaDoor
open Go.RowKit
set_option linter.unusedVariables false
set_option linter.unusedSimpArgs false

set_option maxHeartbeats 2000000 in
set_option maxRecDepth 100000 in
theorem runder_bad (R : List Nat) (hR : Dgt R) (F S : Int) (lf : List Lf) (q : Option Addr) (n c : Nat) (sa : Option Addr) (k sc : Nat) (hl : lf.length = n) (hn : n ≤ 281474976710656) (w : World) (hL : OwnL w q lf)
    (h : S < 0 ∨ 4096 < S ∨ F < 0 ∨ S - n < F ∨ validM lf ≠ 0) :
    Calls Tryd.prog 52 #[.agg (bytesV R).toArray, .agg #[.int .i64 F, .int .i64 S, .slice q n c, .slice sa k sc]] w fun en w' => en = .returned (.bool false) ∧ Below w.heap.size w w' := by
  have HV := Lib.hid (fun w0 (hB : Below w.heap.size w w0) => rvalid_any lf q n c hl w0 (hL.keep hB))
  generalize validM lf = v at HV h
  clear hL hl
  have key : S < 0 ∨ (¬ S < 0 ∧ 4096 < S) ∨ (¬ S < 0 ∧ ¬ 4096 < S ∧ F < 0) ∨ (¬ S < 0 ∧ ¬ 4096 < S ∧ ¬ F < 0 ∧ S < F) ∨ (¬ S < 0 ∧ ¬ 4096 < S ∧ ¬ F < 0 ∧ ¬ S < F ∧ S - F < n) ∨ (¬ S < 0 ∧ ¬ 4096 < S ∧ ¬ F < 0 ∧ ¬ S < F ∧ ¬ S - F < n ∧ v ≠ 0) := by omega
  clear h
  have hvR : (bytesV R).length = 16 := by rw [bytesV_length]; exact hR.1
  go_enter Tryd.func52, Tryd.ntmps52
  go_upto_region 1 with (fail)
  generalize hw1 : World.alloc _ _ = W0
  have Kp : Blk W0 (w.heap.size + 1) 54 [.int .i64 F, .int .i64 S, .slice q n c, .slice sa k sc] := hw1 ▸ blk_new1 w _ _ _
  have KB : Below w.heap.size w W0 := hw1 ▸ (((Below.refl _ _).alloc (Nat.le_refl _) _).alloc (by simp) _)
  clear hw1
  have c1 := Kp.cell (j := 0) rfl
  have c2 := Kp.cell (j := 1) rfl
  have c3 := Kp.cell (j := 2) rfl
  clear Kp
  rcases key with h1 | ⟨h1, h2⟩ | ⟨h1, h2, h3⟩ | ⟨h1, h2, h3, h4⟩ | ⟨h1, h2, h3, h4, h5⟩ | ⟨h1, h2, h3, h4, h5, h6⟩
  · go_wp2
    go_ret
    exact ⟨rfl, KB⟩
  · go_wp2
    go_ret
    exact ⟨rfl, KB⟩
  · go_wp2
    go_ret
    exact ⟨rfl, KB⟩
  · go_wp2
    go_ret
    exact ⟨rfl, KB⟩
  · go_wp2
    go_ret
    exact ⟨rfl, KB⟩
  · go_wp2_with (go_at_call 15; refine (HV.out _ KB).mono ?_; rintro en W2 ⟨rfl, hB2⟩)
    go_ret
    exact ⟨rfl, link KB hB2⟩

set_option maxHeartbeats 2000000 in
set_option maxRecDepth 100000 in
theorem runder_nil (R : List Nat) (hR : Dgt R) (F S : Nat) (q : Option Addr) (c : Nat) (sa : Option Addr) (k sc : Nat) (hS : 1 ≤ S) (hS2 : S ≤ 4096) (hF : F ≤ S) (w : World) :
    Calls Tryd.prog 52 #[.agg (bytesV R).toArray, .agg #[.int .i64 (F : Int), .int .i64 (S : Int), .slice q 0 c, .slice sa k sc]] w fun en w' => en = .returned (.bool false) ∧ Below w.heap.size w w' := by
  have HV := Lib.hid (fun w0 => (show _ from rvalid_any [] q 0 c rfl w0 (fun h => absurd rfl h) : Calls Tryd.prog 15 #[.slice q 0 c] w0 fun e w' => e = .returned (.int .i64 0) ∧ Below w0.heap.size w0 w'))
  have h1 : ¬ (S : Int) < 0 := by omega
  have h2 : ¬ (4096 : Int) < (S : Int) := by omega
  have h3 : ¬ (F : Int) < 0 := by omega
  have h4 : ¬ (S : Int) < (F : Int) := by omega
  have h5 : ¬ (S : Int) - (F : Int) < 0 := by omega
  have h6 : (0 : Int) < (S : Int) := by omega
  have hvR : (bytesV R).length = 16 := by rw [bytesV_length]; exact hR.1
  go_enter Tryd.func52, Tryd.ntmps52
  go_upto_region 1 with (fail)
  generalize hw1 : World.alloc _ _ = W0
  have Kp : Blk W0 (w.heap.size + 1) 54 [.int .i64 (F : Int), .int .i64 (S : Int), .slice q 0 c, .slice sa k sc] := hw1 ▸ blk_new1 w _ _ _
  have KB : Below w.heap.size w W0 := hw1 ▸ (((Below.refl _ _).alloc (Nat.le_refl _) _).alloc (by simp) _)
  clear hw1
  have c1 := Kp.cell (j := 0) rfl
  have c2 := Kp.cell (j := 1) rfl
  have c3 := Kp.cell (j := 2) rfl
  go_upto_region 3 with (go_at_call 15; refine (HV.out _).mono ?_; rintro en W2 ⟨rfl, hB2⟩)
  have Kp2 := Kp.keep hB2
  clear c1 c2 c3 Kp
  have c2 := Kp2.cell (j := 1) rfl
  have c3 := Kp2.cell (j := 2) rfl
  go_wp2
  go_ret
  exact ⟨rfl, link KB hB2⟩

/-- What root answers for the tree of Under. -/
theorem tunder_at (R : List Nat) (F S : Nat) (lf : List Lf) (q : Option Addr) (n c : Nat) (sa : Option Addr) (k sc : Nat) (sd : List (List Nat)) (hd : Dgts sd) (hl : lf.length = n) (hS1 : 1 ≤ S) (hS : S ≤ 4096) (hFn : F + n ≤ S) (hv : validM lf = 0) (hne : lf ≠ []) (hkb : k ≤ 1000000) (w : World) (hR : GlobR w) (hL : OwnL w q lf) (hsd : SdV w w.heap.size (.slice sa k sc) sd)
    (V : World) (tb : Nat) (hB : Below w.heap.size w V) (htw : w.heap.size ≤ tb) (hTb : Blk V tb 90 [.slice none 0 0, .slice sa k sc, .int .i64 0, .bool false]) :
    Calls Tryd.prog 43 #[.pointer (some ⟨tb, 0, none⟩), .slice q n c, .int .i64 (F : Int), .int .i64 (S : Int)] V
      fun e w' => ∃ D u sh tv, e = .returned (.agg (bytesV D).toArray) ∧ Dgt D ∧ TStays V w' V.heap.size tb ∧ Blk w' tb 90 [tv, .slice sa k sc, .int .i64 ((u : Nat) : Int), .bool sh] ∧ underM R (F : Int) (S : Int) lf sd = (!sh && decide (u = k) && decide (D = R)) := by
  obtain ⟨p0, c0, e0, hkc, hr0⟩ := hsd
  injection e0 with e1 e2 e3
  subst e1 e2 e3
  obtain ⟨b, off, rfl, hL2⟩ := hL hne
  have hlow : ∀ w', TStays V w' V.heap.size tb → Below w.heap.size w w' := fun w' h => h.lower hB htw hB.size
  refine (troot_many tb lf F S hS1 hS sd hd (some ⟨b, off, none⟩) n c hl (small_of (valid_zero hv).2.1) (by omega) sa sd.length sc rfl hkb hkc V hTb (fun w' h => hR.keep (hlow w' h)) (fun w' h _ => ⟨b, off, rfl, hL2.keep (hlow w' h)⟩) (fun b' off' i' e => by injection e with e; injection e with e1 e2 e3; have := hL2.1; have := hB.size; omega) (fun h => by
    obtain ⟨g, o, e, hg, hg2, hr⟩ := hr0 h
    exact ⟨g, o, e, by have := hB.size; omega, by omega, range_keep hr hg hB⟩)).mono ?_
  rintro e w' ⟨D, tx, u, sh, hr, rfl, h1, tv, h2, _⟩
  exact ⟨topD S D, u, sh, tv, rfl, topD_dgt _ _, h1, h2, under_tree R lf F S sd hS1 hS (by omega) hv hne hr⟩

set_option maxHeartbeats 4000000 in
set_option maxRecDepth 100000 in
theorem runder_many (R : List Nat) (hR : Dgt R) (F S : Nat) (lf : List Lf) (q : Option Addr) (n c : Nat) (sa : Option Addr) (k sc : Nat) (sd : List (List Nat)) (hd : Dgts sd) (hl : lf.length = n) (hn : 1 ≤ n) (hS : S ≤ 4096) (hFn : F + n ≤ S) (hv : validM lf = 0) (hkb : k ≤ 1000000) (w : World) (hG : GlobR w) (hL : OwnL w q lf) (hsd : SdV w w.heap.size (.slice sa k sc) sd) :
    Calls Tryd.prog 52 #[.agg (bytesV R).toArray, .agg #[.int .i64 (F : Int), .int .i64 (S : Int), .slice q n c, .slice sa k sc]] w fun en w' => en = .returned (.bool (underM R (F : Int) (S : Int) lf sd)) ∧ Below w.heap.size w w' := by
  have HV := Lib.hid (fun w0 (hB : Below w.heap.size w w0) => (hv ▸ rvalid_any lf q n c hl w0 (hL.keep hB) : Calls Tryd.prog 15 #[.slice q n c] w0 fun e w' => e = .returned (.int .i64 0) ∧ Below w0.heap.size w0 w'))
  have HT := Lib.hid (fun (V : World) (tb : Nat) (hB : Below w.heap.size w V) (htw : w.heap.size ≤ tb) (hTb : Blk V tb 90 [.slice none 0 0, .slice sa k sc, .int .i64 0, .bool false]) => tunder_at R F S lf q n c sa k sc sd hd hl (by omega) hS hFn hv (by intro h; rw [h] at hl; simp at hl; omega) hkb w hG hL hsd V tb hB htw hTb)
  generalize underM R (F : Int) (S : Int) lf sd = res at HT ⊢
  clear hl hv hL hsd hd hG
  have hz1 := zero_dig'
  have hz16 : (bytesV z16).toArray.toList.length = 16 := rfl
  have h1 : ¬ (S : Int) < 0 := by omega
  have h2 : ¬ (4096 : Int) < (S : Int) := by omega
  have h3 : ¬ (F : Int) < 0 := by omega
  have h4 : ¬ (S : Int) < (F : Int) := by omega
  have h5 : ¬ (S : Int) - (F : Int) < (n : Int) := by omega
  have h6 : (0 : Int) < (S : Int) := by omega
  have h7 : ((n : Int) == 0) = false := by simp; omega
  have hvR : (bytesV R).length = 16 := by rw [bytesV_length]; exact hR.1
  have hsR := size_dgR R hR.1
  go_enter Tryd.func52, Tryd.ntmps52
  go_upto_region 1 with (fail)
  generalize hw1 : World.alloc _ _ = W0
  have Kp : Blk W0 (w.heap.size + 1) 54 [.int .i64 (F : Int), .int .i64 (S : Int), .slice q n c, .slice sa k sc] := hw1 ▸ blk_new1 w _ _ _
  have Kr : Blk W0 w.heap.size 29 (bytesV R) := hw1 ▸ ((blk_new w _ _).alloc _)
  have KB : Below w.heap.size w W0 := hw1 ▸ (((Below.refl _ _).alloc (Nat.le_refl _) _).alloc (by simp) _)
  clear hw1
  have c1 := Kp.cell (j := 0) rfl
  have c2 := Kp.cell (j := 1) rfl
  have c3 := Kp.cell (j := 2) rfl
  go_upto_region 3 with (go_at_call 15; refine (HV.out _ KB).mono ?_; rintro en W2 ⟨rfl, hB2⟩)
  have Kp2 := Kp.keep hB2
  have Kr2 := Kr.keep hB2
  have KB2 := link KB hB2
  clear c1 c2 c3 Kp Kr KB hB2 HV h1 h2 h3 h4 h5
  have c1 := Kp2.cell (j := 0) rfl
  have c2 := Kp2.cell (j := 1) rfl
  have c3 := Kp2.cell (j := 2) rfl
  have c4 := Kp2.cell (j := 3) rfl
  go_upto_region 6 with (fail)
  generalize hw3 : World.alloc W2 _ = V3
  have hTb : Blk V3 W2.heap.size 90 [.slice none 0 0, .slice sa k sc, .int .i64 0, .bool false] := hw3 ▸ blk_new W2 _ _
  have XA : Below W2.heap.size W2 V3 := hw3 ▸ ((Below.refl _ _).alloc (Nat.le_refl _) _)
  have KB3 := link KB2 XA
  have Kp3 := Kp2.keep XA
  have Kr3 := Kr2.keep XA
  have hwt : w.heap.size + 1 < W2.heap.size := Kp2.lt
  clear c1 c2 c3 c4 hw3 XA Kp2 Kr2 KB2
  generalize W2.heap.size = tb at hTb hwt ⊢
  have c1 := Kp3.cell (j := 0) rfl
  have c2 := Kp3.cell (j := 1) rfl
  have c3 := Kp3.cell (j := 2) rfl
  go_upto_region 7 with (first
    | (go_at_call 43; refine (HT.out V3 tb KB3 (by omega) hTb).mono ?_; rintro e V4 ⟨D, u, sh, tv, rfl, hDd, hS4, hT4, hres⟩; have hvD : (bytesV D).length = 16 := by rw [bytesV_length]; exact hDd.1)
    | (refine store_blk rfl 29 (.tmp 6) (.tmp 64) rfl (blk_new V4 29 (bytesV z16).toArray) rfl rfl (m := 16) (by kernel_rfl) hvD hz16 (bytesV_cells D) ?_; intro V5 K5 O5))
  have X5 : Below V4.heap.size V4 V5 := O5.2.2 _ _ (Nat.le_refl _) ((Below.refl _ _).alloc (Nat.le_refl _) _)
  have B4 : Below w.heap.size w V4 := hS4.lower KB3 (by omega) KB3.size
  have Kp5 := (hS4.blk _ _ _ (by omega) (by decide) Kp3).keep X5
  have Kr5 := (hS4.blk _ _ _ (by omega) (by decide) Kr3).keep X5
  have T5 := hT4.keep X5
  have CB := link B4 X5
  clear c1 c2 c3 Kp3 Kr3 hT4 X5 B4 hS4 O5 HT hTb KB3 hwt
  generalize V4.heap.size = db at K5 ⊢
  have t3 := T5.cell (j := 3) rfl
  have t2 := T5.cell (j := 2) rfl
  have c4 := Kp5.cell (j := 3) rfl
  have hsD := size_dgR D hDd.1
  rcases sh with _ | _
  · by_cases huk : u = k
    · have hk1 : ((u : Int) == (k : Int)) = true := by simp [huk]
      have HE := Lib.hid hres
      clear hres
      refine wp_region_held_drew (S := fun w' => Below V5.heap.size V5 w') (by kernel_rfl) (below_drew (Below.refl _ _)) (fun _ => ?_)
      have hHeld : Below V5.heap.size V5 V5.drew := below_drew (Below.refl _ _)
      have C3 : ∀ w', Below V5.heap.size V5 w' → w'.cell? ⟨tb, 3, none⟩ = some (.bool false) := fun w' h => (h.cell T5.lt).trans t3
      have C2 : ∀ w', Below V5.heap.size V5 w' → w'.cell? ⟨tb, 2, none⟩ = some (.int .i64 (u : Int)) := fun w' h => (h.cell T5.lt).trans t2
      have CP : ∀ w', Below V5.heap.size V5 w' → w'.cell? ⟨w.heap.size + 1, 3, none⟩ = some (.slice sa k sc) := fun w' h => (h.cell Kp5.lt).trans c4
      have CB' := below_drew CB
      generalize V5.drew = V6 at hHeld CB' ⊢
      refine wpAnyH_take (i := 0) (oi := ⟨some 65, .move (.tmp 5), 88, "ref.go:170", #[], none⟩) (v := .pointer (some ⟨tb, 0, none⟩)) rfl (by kernel_rfl) (by kernel_rfl) (by kernel_rfl) (fun _ _ _ h => h) (Or.inl ⟨by rfl, fun w' hSw => by go_simp⟩) hHeld ?_
      try simp only [Act.put, List.setIfInBounds_toArray, List.set_cons_zero, List.set_cons_succ]
      refine wpAnyH_take (i := 1) (oi := ⟨some 66, .nilCheck (.tmp 65), 0, "ref.go:170", #[⟨0, .data⟩], none⟩) (v := .pointer (some ⟨tb, 0, none⟩)) rfl (by kernel_rfl) (by kernel_rfl) (by kernel_rfl) (fun _ _ _ h => h) (Or.inl ⟨by rfl, fun w' hSw => by go_simp⟩) hHeld ?_
      try simp only [Act.put, List.setIfInBounds_toArray, List.set_cons_zero, List.set_cons_succ]
      refine wpAnyH_take (i := 2) (oi := ⟨some 67, .fieldAddr 90 (.tmp 66) 3, 0, "ref.go:170", #[⟨1, .data⟩], none⟩) (v := .pointer (some ⟨tb, 3, none⟩)) rfl (by kernel_rfl) (by kernel_rfl) (by kernel_rfl) (fun _ _ _ h => h) (Or.inl ⟨by rfl, fun w' hSw => by go_simp⟩) hHeld ?_
      try simp only [Act.put, List.setIfInBounds_toArray, List.set_cons_zero, List.set_cons_succ]
      refine wpAnyH_take (i := 3) (oi := ⟨some 68, .load 4 (.tmp 67), 4, "ref.go:170", #[⟨2, .data⟩], none⟩) (v := .bool false) rfl (by kernel_rfl) (by kernel_rfl) (by kernel_rfl) (fun _ _ _ h => h) (Or.inl ⟨by rfl, fun w' hSw => by have hc := C3 w' hSw; go_simp⟩) hHeld ?_
      try simp only [Act.put, List.setIfInBounds_toArray, List.set_cons_zero, List.set_cons_succ]
      refine wpAnyH_take (i := 4) (oi := ⟨some 69, .unOp .not 4 (.tmp 68), 4, "ref.go:170", #[⟨3, .data⟩], none⟩) (v := .bool true) rfl (by kernel_rfl) (by kernel_rfl) (by kernel_rfl) (fun _ _ _ h => h) (Or.inl ⟨by rfl, fun w' hSw => by go_simp⟩) hHeld ?_
      try simp only [Act.put, List.setIfInBounds_toArray, List.set_cons_zero, List.set_cons_succ]
      refine wpAnyH_take (i := 5) (oi := ⟨some 70, .move (.tmp 69), 4, "ref.go:170", #[⟨4, .data⟩], none⟩) (v := .bool true) rfl (by kernel_rfl) (by kernel_rfl) (by kernel_rfl) (fun _ _ _ h => h) (Or.inl ⟨by rfl, fun w' hSw => by go_simp⟩) hHeld ?_
      try simp only [Act.put, List.setIfInBounds_toArray, List.set_cons_zero, List.set_cons_succ]
      refine wpAnyH_take (i := 6) (oi := ⟨some 71, .move (.tmp 5), 88, "ref.go:170", #[⟨5, .guard⟩], some (5, true)⟩) (v := .pointer (some ⟨tb, 0, none⟩)) rfl (by kernel_rfl) (by kernel_rfl) (by kernel_rfl) (fun _ _ _ h => h) (Or.inl ⟨by rfl, fun w' hSw => by go_simp⟩) hHeld ?_
      try simp only [Act.put, List.setIfInBounds_toArray, List.set_cons_zero, List.set_cons_succ]
      refine wpAnyH_take (i := 7) (oi := ⟨some 72, .nilCheck (.tmp 71), 0, "ref.go:170", #[⟨6, .data⟩, ⟨5, .guard⟩], some (5, true)⟩) (v := .pointer (some ⟨tb, 0, none⟩)) rfl (by kernel_rfl) (by kernel_rfl) (by kernel_rfl) (fun _ _ _ h => h) (Or.inl ⟨by rfl, fun w' hSw => by go_simp⟩) hHeld ?_
      try simp only [Act.put, List.setIfInBounds_toArray, List.set_cons_zero, List.set_cons_succ]
      refine wpAnyH_take (i := 8) (oi := ⟨some 73, .fieldAddr 90 (.tmp 72) 2, 0, "ref.go:170", #[⟨7, .data⟩, ⟨5, .guard⟩], some (5, true)⟩) (v := .pointer (some ⟨tb, 2, none⟩)) rfl (by kernel_rfl) (by kernel_rfl) (by kernel_rfl) (fun _ _ _ h => h) (Or.inl ⟨by rfl, fun w' hSw => by go_simp⟩) hHeld ?_
      try simp only [Act.put, List.setIfInBounds_toArray, List.set_cons_zero, List.set_cons_succ]
      refine wpAnyH_take (i := 9) (oi := ⟨some 74, .load 3 (.tmp 73), 3, "ref.go:170", #[⟨8, .data⟩, ⟨5, .guard⟩], some (5, true)⟩) (v := .int .i64 (u : Int)) rfl (by kernel_rfl) (by kernel_rfl) (by kernel_rfl) (fun _ _ _ h => h) (Or.inl ⟨by rfl, fun w' hSw => by have hc := C2 w' hSw; go_simp⟩) hHeld ?_
      try simp only [Act.put, List.setIfInBounds_toArray, List.set_cons_zero, List.set_cons_succ]
      refine wpAnyH_take (i := 10) (oi := ⟨some 75, .fieldAddr 54 (.tmp 3) 3, 0, "ref.go:170", #[⟨5, .guard⟩], some (5, true)⟩) (v := .pointer (some ⟨w.heap.size + 1, 3, none⟩)) rfl (by kernel_rfl) (by kernel_rfl) (by kernel_rfl) (fun _ _ _ h => h) (Or.inl ⟨by rfl, fun w' hSw => by go_simp⟩) hHeld ?_
      try simp only [Act.put, List.setIfInBounds_toArray, List.set_cons_zero, List.set_cons_succ]
      refine wpAnyH_take (i := 11) (oi := ⟨some 76, .load 48 (.tmp 75), 48, "ref.go:170", #[⟨10, .data⟩, ⟨5, .guard⟩], some (5, true)⟩) (v := .slice sa k sc) rfl (by kernel_rfl) (by kernel_rfl) (by kernel_rfl) (fun _ _ _ h => h) (Or.inl ⟨by rfl, fun w' hSw => by have hc := CP w' hSw; go_simp⟩) hHeld ?_
      try simp only [Act.put, List.setIfInBounds_toArray, List.set_cons_zero, List.set_cons_succ]
      refine wpAnyH_take (i := 12) (oi := ⟨some 77, .call { callee := .builtin .len, args := #[.tmp 76], argTypes := #[48] }, 3, "ref.go:170", #[⟨11, .data⟩, ⟨5, .guard⟩], some (5, true)⟩) (v := .int .i64 (k : Int)) rfl (by kernel_rfl) (by kernel_rfl) (by kernel_rfl) (fun _ _ _ h => h) (Or.inl ⟨by rfl, fun w' hSw => by go_simp⟩) hHeld ?_
      try simp only [Act.put, List.setIfInBounds_toArray, List.set_cons_zero, List.set_cons_succ]
      refine wpAnyH_take (i := 13) (oi := ⟨some 78, .binOp .eql 3 (.tmp 74) (.tmp 77) 3, 4, "ref.go:170", #[⟨9, .data⟩, ⟨12, .data⟩, ⟨5, .guard⟩], some (5, true)⟩) (v := .bool true) rfl (by kernel_rfl) (by kernel_rfl) (by kernel_rfl) (fun _ _ _ h => h) (Or.inl ⟨by rfl, fun w' hSw => by go_simp⟩) hHeld ?_
      try simp only [Act.put, List.setIfInBounds_toArray, List.set_cons_zero, List.set_cons_succ]
      refine wpAnyH_take (i := 14) (oi := ⟨some 79, .pick (.tmp 70) (.tmp 78) (.const (Value.bool false)), 4, "ref.go:170", #[⟨5, .data⟩, ⟨13, .data⟩], none⟩) (v := .bool true) rfl (by kernel_rfl) (by kernel_rfl) (by kernel_rfl) (fun _ _ _ h => h) (Or.inl ⟨by rfl, fun w' hSw => by go_simp⟩) hHeld ?_
      try simp only [Act.put, List.setIfInBounds_toArray, List.set_cons_zero, List.set_cons_succ]
      refine wpAnyH_take (i := 15) (oi := ⟨some 80, .move (.tmp 79), 4, "ref.go:170", #[⟨14, .data⟩, ⟨5, .chain⟩], none⟩) (v := .bool true) rfl (by kernel_rfl) (by kernel_rfl) (by kernel_rfl) (fun _ _ _ h => h) (Or.inl ⟨by rfl, fun w' hSw => by go_simp⟩) hHeld ?_
      try simp only [Act.put, List.setIfInBounds_toArray, List.set_cons_zero, List.set_cons_succ]
      refine wpAnyH_take (i := 16) (oi := ⟨some 81, .load 29 (.tmp 6), 29, "ref.go:170", #[⟨15, .guard⟩], some (15, true)⟩) (v := _) rfl (by kernel_rfl) (by kernel_rfl) (by kernel_rfl) (fun _ _ _ h => h) (yieldsIf_load_mid (by rfl) _ _ rfl _ 0 rfl _ _ (fun w' hSw => rng_blk (K5) w' hSw) Tryd.underlying29 rfl hsD) hHeld ?_
      try simp only [Act.put, List.setIfInBounds_toArray, List.set_cons_zero, List.set_cons_succ]
      refine wpAnyH_take (i := 17) (oi := ⟨some 82, .load 29 (.tmp 2), 29, "ref.go:170", #[⟨15, .guard⟩], some (15, true)⟩) (v := _) rfl (by kernel_rfl) (by kernel_rfl) (by kernel_rfl) (fun _ _ _ h => h) (yieldsIf_load_mid (by rfl) _ _ rfl _ 0 rfl _ _ (fun w' hSw => rng_blk (Kr5) w' hSw) Tryd.underlying29 rfl hsR) hHeld ?_
      try simp only [Act.put, List.setIfInBounds_toArray, List.set_cons_zero, List.set_cons_succ]
      refine wpAnyH_take (i := 18) (oi := ⟨some 83, .binOp .eql 29 (.tmp 81) (.tmp 82) 29, 4, "ref.go:170", #[⟨16, .data⟩, ⟨17, .data⟩, ⟨15, .guard⟩], some (15, true)⟩) (v := .bool (decide (D = R))) rfl (by kernel_rfl) (by kernel_rfl) (by kernel_rfl) (fun _ _ _ h => h) (Or.inl ⟨by rfl, fun w' hSw => by have kd := equal_16 w' D R hDd hR; go_simp⟩) hHeld ?_
      try simp only [Act.put, List.setIfInBounds_toArray, List.set_cons_zero, List.set_cons_succ]
      refine wpAnyH_take (i := 19) (oi := ⟨some 84, .pick (.tmp 80) (.tmp 83) (.const (Value.bool false)), 4, "ref.go:170", #[⟨15, .data⟩, ⟨18, .data⟩], none⟩) (v := .bool (decide (D = R))) rfl (by kernel_rfl) (by kernel_rfl) (by kernel_rfl) (fun _ _ _ h => h) (Or.inl ⟨by rfl, fun w' hSw => by go_simp⟩) hHeld ?_
      try simp only [Act.put, List.setIfInBounds_toArray, List.set_cons_zero, List.set_cons_succ]
      refine wpAnyH_ready (rs := [20]) (by kernel_rfl) (by simp) ?_
      refine AllReadyH.cons (o := ⟨some 4, .assign (.tmp 84), 4, "ref.go:170", #[⟨19, .data⟩, ⟨15, .chain⟩, ⟨0, .phase⟩, ⟨1, .phase⟩, ⟨2, .phase⟩, ⟨3, .phase⟩, ⟨4, .phase⟩, ⟨5, .phase⟩, ⟨6, .phase⟩, ⟨7, .phase⟩, ⟨8, .phase⟩, ⟨9, .phase⟩, ⟨10, .phase⟩, ⟨11, .phase⟩, ⟨12, .phase⟩, ⟨13, .phase⟩, ⟨14, .phase⟩, ⟨15, .phase⟩, ⟨16, .phase⟩, ⟨17, .phase⟩, ⟨18, .phase⟩, ⟨19, .phase⟩], none⟩) rfl (fun K hK => ?_) AllReadyH.nil
      go_simp
      have CZ := hHeld
      refine hK.out _ _ (hHeld) (fun hHeld => ?_)
      clear hK K
      try simp only [Act.put, List.setIfInBounds_toArray, List.set_cons_zero, List.set_cons_succ]
      refine wpAnyH_done (by kernel_rfl) ?_ _
      clear hHeld CZ C2 C3 CP
      go_wp2
      go_ret
      exact ⟨by rw [HE.out]; simp [huk], CB'⟩
    · have hk1 : ((u : Int) == (k : Int)) = false := by simp; omega
      have HE := Lib.hid hres
      clear hres
      refine wp_region_held_drew (S := fun w' => Below V5.heap.size V5 w') (by kernel_rfl) (below_drew (Below.refl _ _)) (fun _ => ?_)
      have hHeld : Below V5.heap.size V5 V5.drew := below_drew (Below.refl _ _)
      have C3 : ∀ w', Below V5.heap.size V5 w' → w'.cell? ⟨tb, 3, none⟩ = some (.bool false) := fun w' h => (h.cell T5.lt).trans t3
      have C2 : ∀ w', Below V5.heap.size V5 w' → w'.cell? ⟨tb, 2, none⟩ = some (.int .i64 (u : Int)) := fun w' h => (h.cell T5.lt).trans t2
      have CP : ∀ w', Below V5.heap.size V5 w' → w'.cell? ⟨w.heap.size + 1, 3, none⟩ = some (.slice sa k sc) := fun w' h => (h.cell Kp5.lt).trans c4
      have CB' := below_drew CB
      generalize V5.drew = V6 at hHeld CB' ⊢
      refine wpAnyH_take (i := 0) (oi := ⟨some 65, .move (.tmp 5), 88, "ref.go:170", #[], none⟩) (v := .pointer (some ⟨tb, 0, none⟩)) rfl (by kernel_rfl) (by kernel_rfl) (by kernel_rfl) (fun _ _ _ h => h) (Or.inl ⟨by rfl, fun w' hSw => by go_simp⟩) hHeld ?_
      try simp only [Act.put, List.setIfInBounds_toArray, List.set_cons_zero, List.set_cons_succ]
      refine wpAnyH_take (i := 1) (oi := ⟨some 66, .nilCheck (.tmp 65), 0, "ref.go:170", #[⟨0, .data⟩], none⟩) (v := .pointer (some ⟨tb, 0, none⟩)) rfl (by kernel_rfl) (by kernel_rfl) (by kernel_rfl) (fun _ _ _ h => h) (Or.inl ⟨by rfl, fun w' hSw => by go_simp⟩) hHeld ?_
      try simp only [Act.put, List.setIfInBounds_toArray, List.set_cons_zero, List.set_cons_succ]
      refine wpAnyH_take (i := 2) (oi := ⟨some 67, .fieldAddr 90 (.tmp 66) 3, 0, "ref.go:170", #[⟨1, .data⟩], none⟩) (v := .pointer (some ⟨tb, 3, none⟩)) rfl (by kernel_rfl) (by kernel_rfl) (by kernel_rfl) (fun _ _ _ h => h) (Or.inl ⟨by rfl, fun w' hSw => by go_simp⟩) hHeld ?_
      try simp only [Act.put, List.setIfInBounds_toArray, List.set_cons_zero, List.set_cons_succ]
      refine wpAnyH_take (i := 3) (oi := ⟨some 68, .load 4 (.tmp 67), 4, "ref.go:170", #[⟨2, .data⟩], none⟩) (v := .bool false) rfl (by kernel_rfl) (by kernel_rfl) (by kernel_rfl) (fun _ _ _ h => h) (Or.inl ⟨by rfl, fun w' hSw => by have hc := C3 w' hSw; go_simp⟩) hHeld ?_
      try simp only [Act.put, List.setIfInBounds_toArray, List.set_cons_zero, List.set_cons_succ]
      refine wpAnyH_take (i := 4) (oi := ⟨some 69, .unOp .not 4 (.tmp 68), 4, "ref.go:170", #[⟨3, .data⟩], none⟩) (v := .bool true) rfl (by kernel_rfl) (by kernel_rfl) (by kernel_rfl) (fun _ _ _ h => h) (Or.inl ⟨by rfl, fun w' hSw => by go_simp⟩) hHeld ?_
      try simp only [Act.put, List.setIfInBounds_toArray, List.set_cons_zero, List.set_cons_succ]
      refine wpAnyH_take (i := 5) (oi := ⟨some 70, .move (.tmp 69), 4, "ref.go:170", #[⟨4, .data⟩], none⟩) (v := .bool true) rfl (by kernel_rfl) (by kernel_rfl) (by kernel_rfl) (fun _ _ _ h => h) (Or.inl ⟨by rfl, fun w' hSw => by go_simp⟩) hHeld ?_
      try simp only [Act.put, List.setIfInBounds_toArray, List.set_cons_zero, List.set_cons_succ]
      refine wpAnyH_take (i := 6) (oi := ⟨some 71, .move (.tmp 5), 88, "ref.go:170", #[⟨5, .guard⟩], some (5, true)⟩) (v := .pointer (some ⟨tb, 0, none⟩)) rfl (by kernel_rfl) (by kernel_rfl) (by kernel_rfl) (fun _ _ _ h => h) (Or.inl ⟨by rfl, fun w' hSw => by go_simp⟩) hHeld ?_
      try simp only [Act.put, List.setIfInBounds_toArray, List.set_cons_zero, List.set_cons_succ]
      refine wpAnyH_take (i := 7) (oi := ⟨some 72, .nilCheck (.tmp 71), 0, "ref.go:170", #[⟨6, .data⟩, ⟨5, .guard⟩], some (5, true)⟩) (v := .pointer (some ⟨tb, 0, none⟩)) rfl (by kernel_rfl) (by kernel_rfl) (by kernel_rfl) (fun _ _ _ h => h) (Or.inl ⟨by rfl, fun w' hSw => by go_simp⟩) hHeld ?_
      try simp only [Act.put, List.setIfInBounds_toArray, List.set_cons_zero, List.set_cons_succ]
      refine wpAnyH_take (i := 8) (oi := ⟨some 73, .fieldAddr 90 (.tmp 72) 2, 0, "ref.go:170", #[⟨7, .data⟩, ⟨5, .guard⟩], some (5, true)⟩) (v := .pointer (some ⟨tb, 2, none⟩)) rfl (by kernel_rfl) (by kernel_rfl) (by kernel_rfl) (fun _ _ _ h => h) (Or.inl ⟨by rfl, fun w' hSw => by go_simp⟩) hHeld ?_
      try simp only [Act.put, List.setIfInBounds_toArray, List.set_cons_zero, List.set_cons_succ]
      refine wpAnyH_take (i := 9) (oi := ⟨some 74, .load 3 (.tmp 73), 3, "ref.go:170", #[⟨8, .data⟩, ⟨5, .guard⟩], some (5, true)⟩) (v := .int .i64 (u : Int)) rfl (by kernel_rfl) (by kernel_rfl) (by kernel_rfl) (fun _ _ _ h => h) (Or.inl ⟨by rfl, fun w' hSw => by have hc := C2 w' hSw; go_simp⟩) hHeld ?_
      try simp only [Act.put, List.setIfInBounds_toArray, List.set_cons_zero, List.set_cons_succ]
      refine wpAnyH_take (i := 10) (oi := ⟨some 75, .fieldAddr 54 (.tmp 3) 3, 0, "ref.go:170", #[⟨5, .guard⟩], some (5, true)⟩) (v := .pointer (some ⟨w.heap.size + 1, 3, none⟩)) rfl (by kernel_rfl) (by kernel_rfl) (by kernel_rfl) (fun _ _ _ h => h) (Or.inl ⟨by rfl, fun w' hSw => by go_simp⟩) hHeld ?_
      try simp only [Act.put, List.setIfInBounds_toArray, List.set_cons_zero, List.set_cons_succ]
      refine wpAnyH_take (i := 11) (oi := ⟨some 76, .load 48 (.tmp 75), 48, "ref.go:170", #[⟨10, .data⟩, ⟨5, .guard⟩], some (5, true)⟩) (v := .slice sa k sc) rfl (by kernel_rfl) (by kernel_rfl) (by kernel_rfl) (fun _ _ _ h => h) (Or.inl ⟨by rfl, fun w' hSw => by have hc := CP w' hSw; go_simp⟩) hHeld ?_
      try simp only [Act.put, List.setIfInBounds_toArray, List.set_cons_zero, List.set_cons_succ]
      refine wpAnyH_take (i := 12) (oi := ⟨some 77, .call { callee := .builtin .len, args := #[.tmp 76], argTypes := #[48] }, 3, "ref.go:170", #[⟨11, .data⟩, ⟨5, .guard⟩], some (5, true)⟩) (v := .int .i64 (k : Int)) rfl (by kernel_rfl) (by kernel_rfl) (by kernel_rfl) (fun _ _ _ h => h) (Or.inl ⟨by rfl, fun w' hSw => by go_simp⟩) hHeld ?_
      try simp only [Act.put, List.setIfInBounds_toArray, List.set_cons_zero, List.set_cons_succ]
      refine wpAnyH_take (i := 13) (oi := ⟨some 78, .binOp .eql 3 (.tmp 74) (.tmp 77) 3, 4, "ref.go:170", #[⟨9, .data⟩, ⟨12, .data⟩, ⟨5, .guard⟩], some (5, true)⟩) (v := .bool false) rfl (by kernel_rfl) (by kernel_rfl) (by kernel_rfl) (fun _ _ _ h => h) (Or.inl ⟨by rfl, fun w' hSw => by go_simp⟩) hHeld ?_
      try simp only [Act.put, List.setIfInBounds_toArray, List.set_cons_zero, List.set_cons_succ]
      refine wpAnyH_take (i := 14) (oi := ⟨some 79, .pick (.tmp 70) (.tmp 78) (.const (Value.bool false)), 4, "ref.go:170", #[⟨5, .data⟩, ⟨13, .data⟩], none⟩) (v := .bool false) rfl (by kernel_rfl) (by kernel_rfl) (by kernel_rfl) (fun _ _ _ h => h) (Or.inl ⟨by rfl, fun w' hSw => by go_simp⟩) hHeld ?_
      try simp only [Act.put, List.setIfInBounds_toArray, List.set_cons_zero, List.set_cons_succ]
      refine wpAnyH_take (i := 15) (oi := ⟨some 80, .move (.tmp 79), 4, "ref.go:170", #[⟨14, .data⟩, ⟨5, .chain⟩], none⟩) (v := .bool false) rfl (by kernel_rfl) (by kernel_rfl) (by kernel_rfl) (fun _ _ _ h => h) (Or.inl ⟨by rfl, fun w' hSw => by go_simp⟩) hHeld ?_
      try simp only [Act.put, List.setIfInBounds_toArray, List.set_cons_zero, List.set_cons_succ]
      refine wpAnyH_take (i := 16) (oi := ⟨some 81, .load 29 (.tmp 6), 29, "ref.go:170", #[⟨15, .guard⟩], some (15, true)⟩) (v := undef) rfl (by kernel_rfl) (by kernel_rfl) (by kernel_rfl) (fun _ _ _ h => h) (Or.inr ⟨by rfl, rfl⟩) hHeld ?_
      try simp only [Act.put, List.setIfInBounds_toArray, List.set_cons_zero, List.set_cons_succ]
      refine wpAnyH_take (i := 17) (oi := ⟨some 82, .load 29 (.tmp 2), 29, "ref.go:170", #[⟨15, .guard⟩], some (15, true)⟩) (v := undef) rfl (by kernel_rfl) (by kernel_rfl) (by kernel_rfl) (fun _ _ _ h => h) (Or.inr ⟨by rfl, rfl⟩) hHeld ?_
      try simp only [Act.put, List.setIfInBounds_toArray, List.set_cons_zero, List.set_cons_succ]
      refine wpAnyH_take (i := 18) (oi := ⟨some 83, .binOp .eql 29 (.tmp 81) (.tmp 82) 29, 4, "ref.go:170", #[⟨16, .data⟩, ⟨17, .data⟩, ⟨15, .guard⟩], some (15, true)⟩) (v := undef) rfl (by kernel_rfl) (by kernel_rfl) (by kernel_rfl) (fun _ _ _ h => h) (Or.inr ⟨by rfl, rfl⟩) hHeld ?_
      try simp only [Act.put, List.setIfInBounds_toArray, List.set_cons_zero, List.set_cons_succ]
      refine wpAnyH_take (i := 19) (oi := ⟨some 84, .pick (.tmp 80) (.tmp 83) (.const (Value.bool false)), 4, "ref.go:170", #[⟨15, .data⟩, ⟨18, .data⟩], none⟩) (v := .bool false) rfl (by kernel_rfl) (by kernel_rfl) (by kernel_rfl) (fun _ _ _ h => h) (Or.inl ⟨by rfl, fun w' hSw => by go_simp⟩) hHeld ?_
      try simp only [Act.put, List.setIfInBounds_toArray, List.set_cons_zero, List.set_cons_succ]
      refine wpAnyH_ready (rs := [20]) (by kernel_rfl) (by simp) ?_
      refine AllReadyH.cons (o := ⟨some 4, .assign (.tmp 84), 4, "ref.go:170", #[⟨19, .data⟩, ⟨15, .chain⟩, ⟨0, .phase⟩, ⟨1, .phase⟩, ⟨2, .phase⟩, ⟨3, .phase⟩, ⟨4, .phase⟩, ⟨5, .phase⟩, ⟨6, .phase⟩, ⟨7, .phase⟩, ⟨8, .phase⟩, ⟨9, .phase⟩, ⟨10, .phase⟩, ⟨11, .phase⟩, ⟨12, .phase⟩, ⟨13, .phase⟩, ⟨14, .phase⟩, ⟨15, .phase⟩, ⟨16, .phase⟩, ⟨17, .phase⟩, ⟨18, .phase⟩, ⟨19, .phase⟩], none⟩) rfl (fun K hK => ?_) AllReadyH.nil
      go_simp
      have CZ := hHeld
      refine hK.out _ _ (hHeld) (fun hHeld => ?_)
      clear hK K
      try simp only [Act.put, List.setIfInBounds_toArray, List.set_cons_zero, List.set_cons_succ]
      refine wpAnyH_done (by kernel_rfl) ?_ _
      clear hHeld CZ C2 C3 CP
      go_wp2
      go_ret
      exact ⟨by rw [HE.out]; simp [huk], CB'⟩
  · have HE := Lib.hid hres
    clear hres
    refine wp_region_held_drew (S := fun w' => Below V5.heap.size V5 w') (by kernel_rfl) (below_drew (Below.refl _ _)) (fun _ => ?_)
    have hHeld : Below V5.heap.size V5 V5.drew := below_drew (Below.refl _ _)
    have C3 : ∀ w', Below V5.heap.size V5 w' → w'.cell? ⟨tb, 3, none⟩ = some (.bool true) := fun w' h => (h.cell T5.lt).trans t3
    have C2 : ∀ w', Below V5.heap.size V5 w' → w'.cell? ⟨tb, 2, none⟩ = some (.int .i64 (u : Int)) := fun w' h => (h.cell T5.lt).trans t2
    have CP : ∀ w', Below V5.heap.size V5 w' → w'.cell? ⟨w.heap.size + 1, 3, none⟩ = some (.slice sa k sc) := fun w' h => (h.cell Kp5.lt).trans c4
    have CB' := below_drew CB
    generalize V5.drew = V6 at hHeld CB' ⊢
    refine wpAnyH_take (i := 0) (oi := ⟨some 65, .move (.tmp 5), 88, "ref.go:170", #[], none⟩) (v := .pointer (some ⟨tb, 0, none⟩)) rfl (by kernel_rfl) (by kernel_rfl) (by kernel_rfl) (fun _ _ _ h => h) (Or.inl ⟨by rfl, fun w' hSw => by go_simp⟩) hHeld ?_
    try simp only [Act.put, List.setIfInBounds_toArray, List.set_cons_zero, List.set_cons_succ]
    refine wpAnyH_take (i := 1) (oi := ⟨some 66, .nilCheck (.tmp 65), 0, "ref.go:170", #[⟨0, .data⟩], none⟩) (v := .pointer (some ⟨tb, 0, none⟩)) rfl (by kernel_rfl) (by kernel_rfl) (by kernel_rfl) (fun _ _ _ h => h) (Or.inl ⟨by rfl, fun w' hSw => by go_simp⟩) hHeld ?_
    try simp only [Act.put, List.setIfInBounds_toArray, List.set_cons_zero, List.set_cons_succ]
    refine wpAnyH_take (i := 2) (oi := ⟨some 67, .fieldAddr 90 (.tmp 66) 3, 0, "ref.go:170", #[⟨1, .data⟩], none⟩) (v := .pointer (some ⟨tb, 3, none⟩)) rfl (by kernel_rfl) (by kernel_rfl) (by kernel_rfl) (fun _ _ _ h => h) (Or.inl ⟨by rfl, fun w' hSw => by go_simp⟩) hHeld ?_
    try simp only [Act.put, List.setIfInBounds_toArray, List.set_cons_zero, List.set_cons_succ]
    refine wpAnyH_take (i := 3) (oi := ⟨some 68, .load 4 (.tmp 67), 4, "ref.go:170", #[⟨2, .data⟩], none⟩) (v := .bool true) rfl (by kernel_rfl) (by kernel_rfl) (by kernel_rfl) (fun _ _ _ h => h) (Or.inl ⟨by rfl, fun w' hSw => by have hc := C3 w' hSw; go_simp⟩) hHeld ?_
    try simp only [Act.put, List.setIfInBounds_toArray, List.set_cons_zero, List.set_cons_succ]
    refine wpAnyH_take (i := 4) (oi := ⟨some 69, .unOp .not 4 (.tmp 68), 4, "ref.go:170", #[⟨3, .data⟩], none⟩) (v := .bool false) rfl (by kernel_rfl) (by kernel_rfl) (by kernel_rfl) (fun _ _ _ h => h) (Or.inl ⟨by rfl, fun w' hSw => by go_simp⟩) hHeld ?_
    try simp only [Act.put, List.setIfInBounds_toArray, List.set_cons_zero, List.set_cons_succ]
    refine wpAnyH_take (i := 5) (oi := ⟨some 70, .move (.tmp 69), 4, "ref.go:170", #[⟨4, .data⟩], none⟩) (v := .bool false) rfl (by kernel_rfl) (by kernel_rfl) (by kernel_rfl) (fun _ _ _ h => h) (Or.inl ⟨by rfl, fun w' hSw => by go_simp⟩) hHeld ?_
    try simp only [Act.put, List.setIfInBounds_toArray, List.set_cons_zero, List.set_cons_succ]
    refine wpAnyH_take (i := 6) (oi := ⟨some 71, .move (.tmp 5), 88, "ref.go:170", #[⟨5, .guard⟩], some (5, true)⟩) (v := undef) rfl (by kernel_rfl) (by kernel_rfl) (by kernel_rfl) (fun _ _ _ h => h) (Or.inr ⟨by rfl, rfl⟩) hHeld ?_
    try simp only [Act.put, List.setIfInBounds_toArray, List.set_cons_zero, List.set_cons_succ]
    refine wpAnyH_take (i := 7) (oi := ⟨some 72, .nilCheck (.tmp 71), 0, "ref.go:170", #[⟨6, .data⟩, ⟨5, .guard⟩], some (5, true)⟩) (v := undef) rfl (by kernel_rfl) (by kernel_rfl) (by kernel_rfl) (fun _ _ _ h => h) (Or.inr ⟨by rfl, rfl⟩) hHeld ?_
    try simp only [Act.put, List.setIfInBounds_toArray, List.set_cons_zero, List.set_cons_succ]
    refine wpAnyH_take (i := 8) (oi := ⟨some 73, .fieldAddr 90 (.tmp 72) 2, 0, "ref.go:170", #[⟨7, .data⟩, ⟨5, .guard⟩], some (5, true)⟩) (v := undef) rfl (by kernel_rfl) (by kernel_rfl) (by kernel_rfl) (fun _ _ _ h => h) (Or.inr ⟨by rfl, rfl⟩) hHeld ?_
    try simp only [Act.put, List.setIfInBounds_toArray, List.set_cons_zero, List.set_cons_succ]
    refine wpAnyH_take (i := 9) (oi := ⟨some 74, .load 3 (.tmp 73), 3, "ref.go:170", #[⟨8, .data⟩, ⟨5, .guard⟩], some (5, true)⟩) (v := undef) rfl (by kernel_rfl) (by kernel_rfl) (by kernel_rfl) (fun _ _ _ h => h) (Or.inr ⟨by rfl, rfl⟩) hHeld ?_
    try simp only [Act.put, List.setIfInBounds_toArray, List.set_cons_zero, List.set_cons_succ]
    refine wpAnyH_take (i := 10) (oi := ⟨some 75, .fieldAddr 54 (.tmp 3) 3, 0, "ref.go:170", #[⟨5, .guard⟩], some (5, true)⟩) (v := undef) rfl (by kernel_rfl) (by kernel_rfl) (by kernel_rfl) (fun _ _ _ h => h) (Or.inr ⟨by rfl, rfl⟩) hHeld ?_
    try simp only [Act.put, List.setIfInBounds_toArray, List.set_cons_zero, List.set_cons_succ]
    refine wpAnyH_take (i := 11) (oi := ⟨some 76, .load 48 (.tmp 75), 48, "ref.go:170", #[⟨10, .data⟩, ⟨5, .guard⟩], some (5, true)⟩) (v := undef) rfl (by kernel_rfl) (by kernel_rfl) (by kernel_rfl) (fun _ _ _ h => h) (Or.inr ⟨by rfl, rfl⟩) hHeld ?_
    try simp only [Act.put, List.setIfInBounds_toArray, List.set_cons_zero, List.set_cons_succ]
    refine wpAnyH_take (i := 12) (oi := ⟨some 77, .call { callee := .builtin .len, args := #[.tmp 76], argTypes := #[48] }, 3, "ref.go:170", #[⟨11, .data⟩, ⟨5, .guard⟩], some (5, true)⟩) (v := undef) rfl (by kernel_rfl) (by kernel_rfl) (by kernel_rfl) (fun _ _ _ h => h) (Or.inr ⟨by rfl, rfl⟩) hHeld ?_
    try simp only [Act.put, List.setIfInBounds_toArray, List.set_cons_zero, List.set_cons_succ]
    refine wpAnyH_take (i := 13) (oi := ⟨some 78, .binOp .eql 3 (.tmp 74) (.tmp 77) 3, 4, "ref.go:170", #[⟨9, .data⟩, ⟨12, .data⟩, ⟨5, .guard⟩], some (5, true)⟩) (v := undef) rfl (by kernel_rfl) (by kernel_rfl) (by kernel_rfl) (fun _ _ _ h => h) (Or.inr ⟨by rfl, rfl⟩) hHeld ?_
    try simp only [Act.put, List.setIfInBounds_toArray, List.set_cons_zero, List.set_cons_succ]
    refine wpAnyH_take (i := 14) (oi := ⟨some 79, .pick (.tmp 70) (.tmp 78) (.const (Value.bool false)), 4, "ref.go:170", #[⟨5, .data⟩, ⟨13, .data⟩], none⟩) (v := .bool false) rfl (by kernel_rfl) (by kernel_rfl) (by kernel_rfl) (fun _ _ _ h => h) (Or.inl ⟨by rfl, fun w' hSw => by go_simp⟩) hHeld ?_
    try simp only [Act.put, List.setIfInBounds_toArray, List.set_cons_zero, List.set_cons_succ]
    refine wpAnyH_take (i := 15) (oi := ⟨some 80, .move (.tmp 79), 4, "ref.go:170", #[⟨14, .data⟩, ⟨5, .chain⟩], none⟩) (v := .bool false) rfl (by kernel_rfl) (by kernel_rfl) (by kernel_rfl) (fun _ _ _ h => h) (Or.inl ⟨by rfl, fun w' hSw => by go_simp⟩) hHeld ?_
    try simp only [Act.put, List.setIfInBounds_toArray, List.set_cons_zero, List.set_cons_succ]
    refine wpAnyH_take (i := 16) (oi := ⟨some 81, .load 29 (.tmp 6), 29, "ref.go:170", #[⟨15, .guard⟩], some (15, true)⟩) (v := undef) rfl (by kernel_rfl) (by kernel_rfl) (by kernel_rfl) (fun _ _ _ h => h) (Or.inr ⟨by rfl, rfl⟩) hHeld ?_
    try simp only [Act.put, List.setIfInBounds_toArray, List.set_cons_zero, List.set_cons_succ]
    refine wpAnyH_take (i := 17) (oi := ⟨some 82, .load 29 (.tmp 2), 29, "ref.go:170", #[⟨15, .guard⟩], some (15, true)⟩) (v := undef) rfl (by kernel_rfl) (by kernel_rfl) (by kernel_rfl) (fun _ _ _ h => h) (Or.inr ⟨by rfl, rfl⟩) hHeld ?_
    try simp only [Act.put, List.setIfInBounds_toArray, List.set_cons_zero, List.set_cons_succ]
    refine wpAnyH_take (i := 18) (oi := ⟨some 83, .binOp .eql 29 (.tmp 81) (.tmp 82) 29, 4, "ref.go:170", #[⟨16, .data⟩, ⟨17, .data⟩, ⟨15, .guard⟩], some (15, true)⟩) (v := undef) rfl (by kernel_rfl) (by kernel_rfl) (by kernel_rfl) (fun _ _ _ h => h) (Or.inr ⟨by rfl, rfl⟩) hHeld ?_
    try simp only [Act.put, List.setIfInBounds_toArray, List.set_cons_zero, List.set_cons_succ]
    refine wpAnyH_take (i := 19) (oi := ⟨some 84, .pick (.tmp 80) (.tmp 83) (.const (Value.bool false)), 4, "ref.go:170", #[⟨15, .data⟩, ⟨18, .data⟩], none⟩) (v := .bool false) rfl (by kernel_rfl) (by kernel_rfl) (by kernel_rfl) (fun _ _ _ h => h) (Or.inl ⟨by rfl, fun w' hSw => by go_simp⟩) hHeld ?_
    try simp only [Act.put, List.setIfInBounds_toArray, List.set_cons_zero, List.set_cons_succ]
    refine wpAnyH_ready (rs := [20]) (by kernel_rfl) (by simp) ?_
    refine AllReadyH.cons (o := ⟨some 4, .assign (.tmp 84), 4, "ref.go:170", #[⟨19, .data⟩, ⟨15, .chain⟩, ⟨0, .phase⟩, ⟨1, .phase⟩, ⟨2, .phase⟩, ⟨3, .phase⟩, ⟨4, .phase⟩, ⟨5, .phase⟩, ⟨6, .phase⟩, ⟨7, .phase⟩, ⟨8, .phase⟩, ⟨9, .phase⟩, ⟨10, .phase⟩, ⟨11, .phase⟩, ⟨12, .phase⟩, ⟨13, .phase⟩, ⟨14, .phase⟩, ⟨15, .phase⟩, ⟨16, .phase⟩, ⟨17, .phase⟩, ⟨18, .phase⟩, ⟨19, .phase⟩], none⟩) rfl (fun K hK => ?_) AllReadyH.nil
    go_simp
    have CZ := hHeld
    refine hK.out _ _ (hHeld) (fun hHeld => ?_)
    clear hK K
    try simp only [Act.put, List.setIfInBounds_toArray, List.set_cons_zero, List.set_cons_succ]
    refine wpAnyH_done (by kernel_rfl) ?_ _
    clear hHeld CZ C2 C3 CP
    go_wp2
    go_ret
    exact ⟨by rw [HE.out]; rfl, CB'⟩

set_option maxHeartbeats 2000000 in
set_option maxRecDepth 100000 in
theorem runder_zero (R : List Nat) (hR : Dgt R) (q : Option Addr) (c : Nat) (sa : Option Addr) (k sc : Nat) (w : World) (hG : GlobR w) :
    Calls Tryd.prog 52 #[.agg (bytesV R).toArray, .agg #[.int .i64 0, .int .i64 0, .slice q 0 c, .slice sa k sc]] w fun en w' => en = .returned (.bool (decide (k = 0) && decide (R = topD 0 z16))) ∧ Below w.heap.size w w' := by
  have HV := Lib.hid (fun w0 => (show _ from rvalid_any [] q 0 c rfl w0 (fun h => absurd rfl h) : Calls Tryd.prog 15 #[.slice q 0 c] w0 fun e w' => e = .returned (.int .i64 0) ∧ Below w0.heap.size w0 w'))
  have hD : Dgt (topD 0 z16) := topD_dgt _ _
  have HT := Lib.hid (fun (V : World) (tb : Nat) (hB : Below w.heap.size w V) (htw : w.heap.size ≤ tb) (hTb : Blk V tb 90 [.slice none 0 0, .slice sa k sc, .int .i64 0, .bool false]) => ((troot_zero tb q 0 c 0 (.slice sa k sc) V hTb (fun w' h => hG.keep (h.lower hB htw hB.size))).mono (fun e w' h => ⟨h.1, h.2.1, h.2.2.imp (fun tv h => h.1)⟩) :
    Calls Tryd.prog 43 #[.pointer (some ⟨tb, 0, none⟩), .slice q 0 c, .int .i64 0, .int .i64 0] V fun e w' => e = .returned (.agg (bytesV (topD 0 z16)).toArray) ∧ TStays V w' V.heap.size tb ∧ ∃ tv, Blk w' tb 90 [tv, .slice sa k sc, .int .i64 0, .bool false]))
  generalize topD 0 z16 = D at HT hD ⊢
  have heq := fun w0 => equal_16 w0 D R hD hR
  have hz1 := zero_dig'
  have hz16 : (bytesV z16).toArray.toList.length = 16 := rfl
  have hvD : (bytesV D).length = 16 := by rw [bytesV_length]; exact hD.1
  have hvR : (bytesV R).length = 16 := by rw [bytesV_length]; exact hR.1
  have key : k = 0 ∨ (¬ k = 0 ∧ ((0 : Int) == (k : Int)) = false) := by
    rcases Nat.eq_zero_or_pos k with h | h
    · exact Or.inl h
    · exact Or.inr ⟨by omega, by simp; omega⟩
  go_enter Tryd.func52, Tryd.ntmps52
  go_upto_region 1 with (fail)
  generalize hw1 : World.alloc _ _ = W0
  have Kp : Blk W0 (w.heap.size + 1) 54 [.int .i64 0, .int .i64 0, .slice q 0 c, .slice sa k sc] := hw1 ▸ blk_new1 w _ _ _
  have Kr : Blk W0 w.heap.size 29 (bytesV R) := hw1 ▸ ((blk_new w _ _).alloc _)
  have KB : Below w.heap.size w W0 := hw1 ▸ (((Below.refl _ _).alloc (Nat.le_refl _) _).alloc (by simp) _)
  clear hw1
  have c1 := Kp.cell (j := 0) rfl
  have c2 := Kp.cell (j := 1) rfl
  have c3 := Kp.cell (j := 2) rfl
  go_upto_region 3 with (go_at_call 15; refine (HV.out _).mono ?_; rintro en W2 ⟨rfl, hB2⟩)
  have Kp2 := Kp.keep hB2
  have Kr2 := Kr.keep hB2
  have KB2 := link KB hB2
  clear c1 c2 c3 Kp Kr KB hB2 HV
  have c1 := Kp2.cell (j := 0) rfl
  have c2 := Kp2.cell (j := 1) rfl
  have c3 := Kp2.cell (j := 2) rfl
  have c4 := Kp2.cell (j := 3) rfl
  go_upto_region 6 with (fail)
  generalize hw3 : World.alloc W2 _ = V3
  have hTb : Blk V3 W2.heap.size 90 [.slice none 0 0, .slice sa k sc, .int .i64 0, .bool false] := hw3 ▸ blk_new W2 _ _
  have XA : Below W2.heap.size W2 V3 := hw3 ▸ ((Below.refl _ _).alloc (Nat.le_refl _) _)
  have KB3 := link KB2 XA
  have Kp3 := Kp2.keep XA
  have Kr3 := Kr2.keep XA
  have hwt : w.heap.size + 1 < W2.heap.size := Kp2.lt
  clear c1 c2 c3 c4 hw3 XA Kp2 Kr2 KB2
  generalize W2.heap.size = tb at hTb hwt ⊢
  have c1 := Kp3.cell (j := 0) rfl
  have c2 := Kp3.cell (j := 1) rfl
  have c3 := Kp3.cell (j := 2) rfl
  go_upto_region 7 with (first
    | (go_at_call 43; refine (HT.out V3 tb KB3 (by omega) hTb).mono ?_; rintro e V4 ⟨rfl, hS4, tv, hT4⟩)
    | (refine store_blk rfl 29 (.tmp 6) (.tmp 64) rfl (blk_new V4 29 (bytesV z16).toArray) rfl rfl (m := 16) (by kernel_rfl) hvD hz16 (bytesV_cells D) ?_; intro V5 K5 O5))
  have X5 : Below V4.heap.size V4 V5 := O5.2.2 _ _ (Nat.le_refl _) ((Below.refl _ _).alloc (Nat.le_refl _) _)
  have B4 : Below w.heap.size w V4 := hS4.lower KB3 (by omega) KB3.size
  have Kp5 := (hS4.blk _ _ _ (by omega) (by decide) Kp3).keep X5
  have Kr5 := (hS4.blk _ _ _ (by omega) (by decide) Kr3).keep X5
  have T5 := hT4.keep X5
  have CB := link B4 X5
  clear c1 c2 c3 Kp3 Kr3 hT4 X5 B4 hS4 O5 HT hTb KB3 hwt
  generalize V4.heap.size = db at K5 ⊢
  have t3 := T5.cell (j := 3) rfl
  have t2 := T5.cell (j := 2) rfl
  have c4 := Kp5.cell (j := 3) rfl
  have hsD := size_dgR D hD.1
  have hsR := size_dgR R hR.1
  have hDd := hD
  rcases key with hk0 | ⟨hk0, hk1⟩
  · clear heq
    have hk1 : ((0 : Int) == (k : Int)) = true := by simp [hk0]
    refine wp_region_held_drew (S := fun w' => Below V5.heap.size V5 w') (by kernel_rfl) (below_drew (Below.refl _ _)) (fun _ => ?_)
    have hHeld : Below V5.heap.size V5 V5.drew := below_drew (Below.refl _ _)
    have C3 : ∀ w', Below V5.heap.size V5 w' → w'.cell? ⟨tb, 3, none⟩ = some (.bool false) := fun w' h => (h.cell T5.lt).trans t3
    have C2 : ∀ w', Below V5.heap.size V5 w' → w'.cell? ⟨tb, 2, none⟩ = some (.int .i64 0) := fun w' h => (h.cell T5.lt).trans t2
    have CP : ∀ w', Below V5.heap.size V5 w' → w'.cell? ⟨w.heap.size + 1, 3, none⟩ = some (.slice sa k sc) := fun w' h => (h.cell Kp5.lt).trans c4
    have CB' := below_drew CB
    generalize V5.drew = V6 at hHeld CB' ⊢
    refine wpAnyH_take (i := 0) (oi := ⟨some 65, .move (.tmp 5), 88, "ref.go:170", #[], none⟩) (v := .pointer (some ⟨tb, 0, none⟩)) rfl (by kernel_rfl) (by kernel_rfl) (by kernel_rfl) (fun _ _ _ h => h) (Or.inl ⟨by rfl, fun w' hSw => by go_simp⟩) hHeld ?_
    try simp only [Act.put, List.setIfInBounds_toArray, List.set_cons_zero, List.set_cons_succ]
    refine wpAnyH_take (i := 1) (oi := ⟨some 66, .nilCheck (.tmp 65), 0, "ref.go:170", #[⟨0, .data⟩], none⟩) (v := .pointer (some ⟨tb, 0, none⟩)) rfl (by kernel_rfl) (by kernel_rfl) (by kernel_rfl) (fun _ _ _ h => h) (Or.inl ⟨by rfl, fun w' hSw => by go_simp⟩) hHeld ?_
    try simp only [Act.put, List.setIfInBounds_toArray, List.set_cons_zero, List.set_cons_succ]
    refine wpAnyH_take (i := 2) (oi := ⟨some 67, .fieldAddr 90 (.tmp 66) 3, 0, "ref.go:170", #[⟨1, .data⟩], none⟩) (v := .pointer (some ⟨tb, 3, none⟩)) rfl (by kernel_rfl) (by kernel_rfl) (by kernel_rfl) (fun _ _ _ h => h) (Or.inl ⟨by rfl, fun w' hSw => by go_simp⟩) hHeld ?_
    try simp only [Act.put, List.setIfInBounds_toArray, List.set_cons_zero, List.set_cons_succ]
    refine wpAnyH_take (i := 3) (oi := ⟨some 68, .load 4 (.tmp 67), 4, "ref.go:170", #[⟨2, .data⟩], none⟩) (v := .bool false) rfl (by kernel_rfl) (by kernel_rfl) (by kernel_rfl) (fun _ _ _ h => h) (Or.inl ⟨by rfl, fun w' hSw => by have hc := C3 w' hSw; go_simp⟩) hHeld ?_
    try simp only [Act.put, List.setIfInBounds_toArray, List.set_cons_zero, List.set_cons_succ]
    refine wpAnyH_take (i := 4) (oi := ⟨some 69, .unOp .not 4 (.tmp 68), 4, "ref.go:170", #[⟨3, .data⟩], none⟩) (v := .bool true) rfl (by kernel_rfl) (by kernel_rfl) (by kernel_rfl) (fun _ _ _ h => h) (Or.inl ⟨by rfl, fun w' hSw => by go_simp⟩) hHeld ?_
    try simp only [Act.put, List.setIfInBounds_toArray, List.set_cons_zero, List.set_cons_succ]
    refine wpAnyH_take (i := 5) (oi := ⟨some 70, .move (.tmp 69), 4, "ref.go:170", #[⟨4, .data⟩], none⟩) (v := .bool true) rfl (by kernel_rfl) (by kernel_rfl) (by kernel_rfl) (fun _ _ _ h => h) (Or.inl ⟨by rfl, fun w' hSw => by go_simp⟩) hHeld ?_
    try simp only [Act.put, List.setIfInBounds_toArray, List.set_cons_zero, List.set_cons_succ]
    refine wpAnyH_take (i := 6) (oi := ⟨some 71, .move (.tmp 5), 88, "ref.go:170", #[⟨5, .guard⟩], some (5, true)⟩) (v := .pointer (some ⟨tb, 0, none⟩)) rfl (by kernel_rfl) (by kernel_rfl) (by kernel_rfl) (fun _ _ _ h => h) (Or.inl ⟨by rfl, fun w' hSw => by go_simp⟩) hHeld ?_
    try simp only [Act.put, List.setIfInBounds_toArray, List.set_cons_zero, List.set_cons_succ]
    refine wpAnyH_take (i := 7) (oi := ⟨some 72, .nilCheck (.tmp 71), 0, "ref.go:170", #[⟨6, .data⟩, ⟨5, .guard⟩], some (5, true)⟩) (v := .pointer (some ⟨tb, 0, none⟩)) rfl (by kernel_rfl) (by kernel_rfl) (by kernel_rfl) (fun _ _ _ h => h) (Or.inl ⟨by rfl, fun w' hSw => by go_simp⟩) hHeld ?_
    try simp only [Act.put, List.setIfInBounds_toArray, List.set_cons_zero, List.set_cons_succ]
    refine wpAnyH_take (i := 8) (oi := ⟨some 73, .fieldAddr 90 (.tmp 72) 2, 0, "ref.go:170", #[⟨7, .data⟩, ⟨5, .guard⟩], some (5, true)⟩) (v := .pointer (some ⟨tb, 2, none⟩)) rfl (by kernel_rfl) (by kernel_rfl) (by kernel_rfl) (fun _ _ _ h => h) (Or.inl ⟨by rfl, fun w' hSw => by go_simp⟩) hHeld ?_
    try simp only [Act.put, List.setIfInBounds_toArray, List.set_cons_zero, List.set_cons_succ]
    refine wpAnyH_take (i := 9) (oi := ⟨some 74, .load 3 (.tmp 73), 3, "ref.go:170", #[⟨8, .data⟩, ⟨5, .guard⟩], some (5, true)⟩) (v := .int .i64 0) rfl (by kernel_rfl) (by kernel_rfl) (by kernel_rfl) (fun _ _ _ h => h) (Or.inl ⟨by rfl, fun w' hSw => by have hc := C2 w' hSw; go_simp⟩) hHeld ?_
    try simp only [Act.put, List.setIfInBounds_toArray, List.set_cons_zero, List.set_cons_succ]
    refine wpAnyH_take (i := 10) (oi := ⟨some 75, .fieldAddr 54 (.tmp 3) 3, 0, "ref.go:170", #[⟨5, .guard⟩], some (5, true)⟩) (v := .pointer (some ⟨w.heap.size + 1, 3, none⟩)) rfl (by kernel_rfl) (by kernel_rfl) (by kernel_rfl) (fun _ _ _ h => h) (Or.inl ⟨by rfl, fun w' hSw => by go_simp⟩) hHeld ?_
    try simp only [Act.put, List.setIfInBounds_toArray, List.set_cons_zero, List.set_cons_succ]
    refine wpAnyH_take (i := 11) (oi := ⟨some 76, .load 48 (.tmp 75), 48, "ref.go:170", #[⟨10, .data⟩, ⟨5, .guard⟩], some (5, true)⟩) (v := .slice sa k sc) rfl (by kernel_rfl) (by kernel_rfl) (by kernel_rfl) (fun _ _ _ h => h) (Or.inl ⟨by rfl, fun w' hSw => by have hc := CP w' hSw; go_simp⟩) hHeld ?_
    try simp only [Act.put, List.setIfInBounds_toArray, List.set_cons_zero, List.set_cons_succ]
    refine wpAnyH_take (i := 12) (oi := ⟨some 77, .call { callee := .builtin .len, args := #[.tmp 76], argTypes := #[48] }, 3, "ref.go:170", #[⟨11, .data⟩, ⟨5, .guard⟩], some (5, true)⟩) (v := .int .i64 (k : Int)) rfl (by kernel_rfl) (by kernel_rfl) (by kernel_rfl) (fun _ _ _ h => h) (Or.inl ⟨by rfl, fun w' hSw => by go_simp⟩) hHeld ?_
    try simp only [Act.put, List.setIfInBounds_toArray, List.set_cons_zero, List.set_cons_succ]
    refine wpAnyH_take (i := 13) (oi := ⟨some 78, .binOp .eql 3 (.tmp 74) (.tmp 77) 3, 4, "ref.go:170", #[⟨9, .data⟩, ⟨12, .data⟩, ⟨5, .guard⟩], some (5, true)⟩) (v := .bool true) rfl (by kernel_rfl) (by kernel_rfl) (by kernel_rfl) (fun _ _ _ h => h) (Or.inl ⟨by rfl, fun w' hSw => by go_simp⟩) hHeld ?_
    try simp only [Act.put, List.setIfInBounds_toArray, List.set_cons_zero, List.set_cons_succ]
    refine wpAnyH_take (i := 14) (oi := ⟨some 79, .pick (.tmp 70) (.tmp 78) (.const (Value.bool false)), 4, "ref.go:170", #[⟨5, .data⟩, ⟨13, .data⟩], none⟩) (v := .bool true) rfl (by kernel_rfl) (by kernel_rfl) (by kernel_rfl) (fun _ _ _ h => h) (Or.inl ⟨by rfl, fun w' hSw => by go_simp⟩) hHeld ?_
    try simp only [Act.put, List.setIfInBounds_toArray, List.set_cons_zero, List.set_cons_succ]
    refine wpAnyH_take (i := 15) (oi := ⟨some 80, .move (.tmp 79), 4, "ref.go:170", #[⟨14, .data⟩, ⟨5, .chain⟩], none⟩) (v := .bool true) rfl (by kernel_rfl) (by kernel_rfl) (by kernel_rfl) (fun _ _ _ h => h) (Or.inl ⟨by rfl, fun w' hSw => by go_simp⟩) hHeld ?_
    try simp only [Act.put, List.setIfInBounds_toArray, List.set_cons_zero, List.set_cons_succ]
    refine wpAnyH_take (i := 16) (oi := ⟨some 81, .load 29 (.tmp 6), 29, "ref.go:170", #[⟨15, .guard⟩], some (15, true)⟩) (v := _) rfl (by kernel_rfl) (by kernel_rfl) (by kernel_rfl) (fun _ _ _ h => h) (yieldsIf_load_mid (by rfl) _ _ rfl _ 0 rfl _ _ (fun w' hSw => rng_blk (K5) w' hSw) Tryd.underlying29 rfl hsD) hHeld ?_
    try simp only [Act.put, List.setIfInBounds_toArray, List.set_cons_zero, List.set_cons_succ]
    refine wpAnyH_take (i := 17) (oi := ⟨some 82, .load 29 (.tmp 2), 29, "ref.go:170", #[⟨15, .guard⟩], some (15, true)⟩) (v := _) rfl (by kernel_rfl) (by kernel_rfl) (by kernel_rfl) (fun _ _ _ h => h) (yieldsIf_load_mid (by rfl) _ _ rfl _ 0 rfl _ _ (fun w' hSw => rng_blk (Kr5) w' hSw) Tryd.underlying29 rfl hsR) hHeld ?_
    try simp only [Act.put, List.setIfInBounds_toArray, List.set_cons_zero, List.set_cons_succ]
    refine wpAnyH_take (i := 18) (oi := ⟨some 83, .binOp .eql 29 (.tmp 81) (.tmp 82) 29, 4, "ref.go:170", #[⟨16, .data⟩, ⟨17, .data⟩, ⟨15, .guard⟩], some (15, true)⟩) (v := .bool (decide (D = R))) rfl (by kernel_rfl) (by kernel_rfl) (by kernel_rfl) (fun _ _ _ h => h) (Or.inl ⟨by rfl, fun w' hSw => by have kd := equal_16 w' D R hDd hR; go_simp⟩) hHeld ?_
    try simp only [Act.put, List.setIfInBounds_toArray, List.set_cons_zero, List.set_cons_succ]
    refine wpAnyH_take (i := 19) (oi := ⟨some 84, .pick (.tmp 80) (.tmp 83) (.const (Value.bool false)), 4, "ref.go:170", #[⟨15, .data⟩, ⟨18, .data⟩], none⟩) (v := .bool (decide (D = R))) rfl (by kernel_rfl) (by kernel_rfl) (by kernel_rfl) (fun _ _ _ h => h) (Or.inl ⟨by rfl, fun w' hSw => by go_simp⟩) hHeld ?_
    try simp only [Act.put, List.setIfInBounds_toArray, List.set_cons_zero, List.set_cons_succ]
    refine wpAnyH_ready (rs := [20]) (by kernel_rfl) (by simp) ?_
    refine AllReadyH.cons (o := ⟨some 4, .assign (.tmp 84), 4, "ref.go:170", #[⟨19, .data⟩, ⟨15, .chain⟩, ⟨0, .phase⟩, ⟨1, .phase⟩, ⟨2, .phase⟩, ⟨3, .phase⟩, ⟨4, .phase⟩, ⟨5, .phase⟩, ⟨6, .phase⟩, ⟨7, .phase⟩, ⟨8, .phase⟩, ⟨9, .phase⟩, ⟨10, .phase⟩, ⟨11, .phase⟩, ⟨12, .phase⟩, ⟨13, .phase⟩, ⟨14, .phase⟩, ⟨15, .phase⟩, ⟨16, .phase⟩, ⟨17, .phase⟩, ⟨18, .phase⟩, ⟨19, .phase⟩], none⟩) rfl (fun K hK => ?_) AllReadyH.nil
    go_simp
    have CZ := hHeld
    refine hK.out _ _ (hHeld) (fun hHeld => ?_)
    clear hK K
    try simp only [Act.put, List.setIfInBounds_toArray, List.set_cons_zero, List.set_cons_succ]
    refine wpAnyH_done (by kernel_rfl) ?_ _
    clear hHeld CZ C2 C3 CP
    go_wp2
    go_ret
    exact ⟨by simp [hk0, eq_comm], CB'⟩
  · clear heq
    refine wp_region_held_drew (S := fun w' => Below V5.heap.size V5 w') (by kernel_rfl) (below_drew (Below.refl _ _)) (fun _ => ?_)
    have hHeld : Below V5.heap.size V5 V5.drew := below_drew (Below.refl _ _)
    have C3 : ∀ w', Below V5.heap.size V5 w' → w'.cell? ⟨tb, 3, none⟩ = some (.bool false) := fun w' h => (h.cell T5.lt).trans t3
    have C2 : ∀ w', Below V5.heap.size V5 w' → w'.cell? ⟨tb, 2, none⟩ = some (.int .i64 0) := fun w' h => (h.cell T5.lt).trans t2
    have CP : ∀ w', Below V5.heap.size V5 w' → w'.cell? ⟨w.heap.size + 1, 3, none⟩ = some (.slice sa k sc) := fun w' h => (h.cell Kp5.lt).trans c4
    have CB' := below_drew CB
    generalize V5.drew = V6 at hHeld CB' ⊢
    refine wpAnyH_take (i := 0) (oi := ⟨some 65, .move (.tmp 5), 88, "ref.go:170", #[], none⟩) (v := .pointer (some ⟨tb, 0, none⟩)) rfl (by kernel_rfl) (by kernel_rfl) (by kernel_rfl) (fun _ _ _ h => h) (Or.inl ⟨by rfl, fun w' hSw => by go_simp⟩) hHeld ?_
    try simp only [Act.put, List.setIfInBounds_toArray, List.set_cons_zero, List.set_cons_succ]
    refine wpAnyH_take (i := 1) (oi := ⟨some 66, .nilCheck (.tmp 65), 0, "ref.go:170", #[⟨0, .data⟩], none⟩) (v := .pointer (some ⟨tb, 0, none⟩)) rfl (by kernel_rfl) (by kernel_rfl) (by kernel_rfl) (fun _ _ _ h => h) (Or.inl ⟨by rfl, fun w' hSw => by go_simp⟩) hHeld ?_
    try simp only [Act.put, List.setIfInBounds_toArray, List.set_cons_zero, List.set_cons_succ]
    refine wpAnyH_take (i := 2) (oi := ⟨some 67, .fieldAddr 90 (.tmp 66) 3, 0, "ref.go:170", #[⟨1, .data⟩], none⟩) (v := .pointer (some ⟨tb, 3, none⟩)) rfl (by kernel_rfl) (by kernel_rfl) (by kernel_rfl) (fun _ _ _ h => h) (Or.inl ⟨by rfl, fun w' hSw => by go_simp⟩) hHeld ?_
    try simp only [Act.put, List.setIfInBounds_toArray, List.set_cons_zero, List.set_cons_succ]
    refine wpAnyH_take (i := 3) (oi := ⟨some 68, .load 4 (.tmp 67), 4, "ref.go:170", #[⟨2, .data⟩], none⟩) (v := .bool false) rfl (by kernel_rfl) (by kernel_rfl) (by kernel_rfl) (fun _ _ _ h => h) (Or.inl ⟨by rfl, fun w' hSw => by have hc := C3 w' hSw; go_simp⟩) hHeld ?_
    try simp only [Act.put, List.setIfInBounds_toArray, List.set_cons_zero, List.set_cons_succ]
    refine wpAnyH_take (i := 4) (oi := ⟨some 69, .unOp .not 4 (.tmp 68), 4, "ref.go:170", #[⟨3, .data⟩], none⟩) (v := .bool true) rfl (by kernel_rfl) (by kernel_rfl) (by kernel_rfl) (fun _ _ _ h => h) (Or.inl ⟨by rfl, fun w' hSw => by go_simp⟩) hHeld ?_
    try simp only [Act.put, List.setIfInBounds_toArray, List.set_cons_zero, List.set_cons_succ]
    refine wpAnyH_take (i := 5) (oi := ⟨some 70, .move (.tmp 69), 4, "ref.go:170", #[⟨4, .data⟩], none⟩) (v := .bool true) rfl (by kernel_rfl) (by kernel_rfl) (by kernel_rfl) (fun _ _ _ h => h) (Or.inl ⟨by rfl, fun w' hSw => by go_simp⟩) hHeld ?_
    try simp only [Act.put, List.setIfInBounds_toArray, List.set_cons_zero, List.set_cons_succ]
    refine wpAnyH_take (i := 6) (oi := ⟨some 71, .move (.tmp 5), 88, "ref.go:170", #[⟨5, .guard⟩], some (5, true)⟩) (v := .pointer (some ⟨tb, 0, none⟩)) rfl (by kernel_rfl) (by kernel_rfl) (by kernel_rfl) (fun _ _ _ h => h) (Or.inl ⟨by rfl, fun w' hSw => by go_simp⟩) hHeld ?_
    try simp only [Act.put, List.setIfInBounds_toArray, List.set_cons_zero, List.set_cons_succ]
    refine wpAnyH_take (i := 7) (oi := ⟨some 72, .nilCheck (.tmp 71), 0, "ref.go:170", #[⟨6, .data⟩, ⟨5, .guard⟩], some (5, true)⟩) (v := .pointer (some ⟨tb, 0, none⟩)) rfl (by kernel_rfl) (by kernel_rfl) (by kernel_rfl) (fun _ _ _ h => h) (Or.inl ⟨by rfl, fun w' hSw => by go_simp⟩) hHeld ?_
    try simp only [Act.put, List.setIfInBounds_toArray, List.set_cons_zero, List.set_cons_succ]
    refine wpAnyH_take (i := 8) (oi := ⟨some 73, .fieldAddr 90 (.tmp 72) 2, 0, "ref.go:170", #[⟨7, .data⟩, ⟨5, .guard⟩], some (5, true)⟩) (v := .pointer (some ⟨tb, 2, none⟩)) rfl (by kernel_rfl) (by kernel_rfl) (by kernel_rfl) (fun _ _ _ h => h) (Or.inl ⟨by rfl, fun w' hSw => by go_simp⟩) hHeld ?_
    try simp only [Act.put, List.setIfInBounds_toArray, List.set_cons_zero, List.set_cons_succ]
    refine wpAnyH_take (i := 9) (oi := ⟨some 74, .load 3 (.tmp 73), 3, "ref.go:170", #[⟨8, .data⟩, ⟨5, .guard⟩], some (5, true)⟩) (v := .int .i64 0) rfl (by kernel_rfl) (by kernel_rfl) (by kernel_rfl) (fun _ _ _ h => h) (Or.inl ⟨by rfl, fun w' hSw => by have hc := C2 w' hSw; go_simp⟩) hHeld ?_
    try simp only [Act.put, List.setIfInBounds_toArray, List.set_cons_zero, List.set_cons_succ]
    refine wpAnyH_take (i := 10) (oi := ⟨some 75, .fieldAddr 54 (.tmp 3) 3, 0, "ref.go:170", #[⟨5, .guard⟩], some (5, true)⟩) (v := .pointer (some ⟨w.heap.size + 1, 3, none⟩)) rfl (by kernel_rfl) (by kernel_rfl) (by kernel_rfl) (fun _ _ _ h => h) (Or.inl ⟨by rfl, fun w' hSw => by go_simp⟩) hHeld ?_
    try simp only [Act.put, List.setIfInBounds_toArray, List.set_cons_zero, List.set_cons_succ]
    refine wpAnyH_take (i := 11) (oi := ⟨some 76, .load 48 (.tmp 75), 48, "ref.go:170", #[⟨10, .data⟩, ⟨5, .guard⟩], some (5, true)⟩) (v := .slice sa k sc) rfl (by kernel_rfl) (by kernel_rfl) (by kernel_rfl) (fun _ _ _ h => h) (Or.inl ⟨by rfl, fun w' hSw => by have hc := CP w' hSw; go_simp⟩) hHeld ?_
    try simp only [Act.put, List.setIfInBounds_toArray, List.set_cons_zero, List.set_cons_succ]
    refine wpAnyH_take (i := 12) (oi := ⟨some 77, .call { callee := .builtin .len, args := #[.tmp 76], argTypes := #[48] }, 3, "ref.go:170", #[⟨11, .data⟩, ⟨5, .guard⟩], some (5, true)⟩) (v := .int .i64 (k : Int)) rfl (by kernel_rfl) (by kernel_rfl) (by kernel_rfl) (fun _ _ _ h => h) (Or.inl ⟨by rfl, fun w' hSw => by go_simp⟩) hHeld ?_
    try simp only [Act.put, List.setIfInBounds_toArray, List.set_cons_zero, List.set_cons_succ]
    refine wpAnyH_take (i := 13) (oi := ⟨some 78, .binOp .eql 3 (.tmp 74) (.tmp 77) 3, 4, "ref.go:170", #[⟨9, .data⟩, ⟨12, .data⟩, ⟨5, .guard⟩], some (5, true)⟩) (v := .bool false) rfl (by kernel_rfl) (by kernel_rfl) (by kernel_rfl) (fun _ _ _ h => h) (Or.inl ⟨by rfl, fun w' hSw => by go_simp⟩) hHeld ?_
    try simp only [Act.put, List.setIfInBounds_toArray, List.set_cons_zero, List.set_cons_succ]
    refine wpAnyH_take (i := 14) (oi := ⟨some 79, .pick (.tmp 70) (.tmp 78) (.const (Value.bool false)), 4, "ref.go:170", #[⟨5, .data⟩, ⟨13, .data⟩], none⟩) (v := .bool false) rfl (by kernel_rfl) (by kernel_rfl) (by kernel_rfl) (fun _ _ _ h => h) (Or.inl ⟨by rfl, fun w' hSw => by go_simp⟩) hHeld ?_
    try simp only [Act.put, List.setIfInBounds_toArray, List.set_cons_zero, List.set_cons_succ]
    refine wpAnyH_take (i := 15) (oi := ⟨some 80, .move (.tmp 79), 4, "ref.go:170", #[⟨14, .data⟩, ⟨5, .chain⟩], none⟩) (v := .bool false) rfl (by kernel_rfl) (by kernel_rfl) (by kernel_rfl) (fun _ _ _ h => h) (Or.inl ⟨by rfl, fun w' hSw => by go_simp⟩) hHeld ?_
    try simp only [Act.put, List.setIfInBounds_toArray, List.set_cons_zero, List.set_cons_succ]
    refine wpAnyH_take (i := 16) (oi := ⟨some 81, .load 29 (.tmp 6), 29, "ref.go:170", #[⟨15, .guard⟩], some (15, true)⟩) (v := undef) rfl (by kernel_rfl) (by kernel_rfl) (by kernel_rfl) (fun _ _ _ h => h) (Or.inr ⟨by rfl, rfl⟩) hHeld ?_
    try simp only [Act.put, List.setIfInBounds_toArray, List.set_cons_zero, List.set_cons_succ]
    refine wpAnyH_take (i := 17) (oi := ⟨some 82, .load 29 (.tmp 2), 29, "ref.go:170", #[⟨15, .guard⟩], some (15, true)⟩) (v := undef) rfl (by kernel_rfl) (by kernel_rfl) (by kernel_rfl) (fun _ _ _ h => h) (Or.inr ⟨by rfl, rfl⟩) hHeld ?_
    try simp only [Act.put, List.setIfInBounds_toArray, List.set_cons_zero, List.set_cons_succ]
    refine wpAnyH_take (i := 18) (oi := ⟨some 83, .binOp .eql 29 (.tmp 81) (.tmp 82) 29, 4, "ref.go:170", #[⟨16, .data⟩, ⟨17, .data⟩, ⟨15, .guard⟩], some (15, true)⟩) (v := undef) rfl (by kernel_rfl) (by kernel_rfl) (by kernel_rfl) (fun _ _ _ h => h) (Or.inr ⟨by rfl, rfl⟩) hHeld ?_
    try simp only [Act.put, List.setIfInBounds_toArray, List.set_cons_zero, List.set_cons_succ]
    refine wpAnyH_take (i := 19) (oi := ⟨some 84, .pick (.tmp 80) (.tmp 83) (.const (Value.bool false)), 4, "ref.go:170", #[⟨15, .data⟩, ⟨18, .data⟩], none⟩) (v := .bool false) rfl (by kernel_rfl) (by kernel_rfl) (by kernel_rfl) (fun _ _ _ h => h) (Or.inl ⟨by rfl, fun w' hSw => by go_simp⟩) hHeld ?_
    try simp only [Act.put, List.setIfInBounds_toArray, List.set_cons_zero, List.set_cons_succ]
    refine wpAnyH_ready (rs := [20]) (by kernel_rfl) (by simp) ?_
    refine AllReadyH.cons (o := ⟨some 4, .assign (.tmp 84), 4, "ref.go:170", #[⟨19, .data⟩, ⟨15, .chain⟩, ⟨0, .phase⟩, ⟨1, .phase⟩, ⟨2, .phase⟩, ⟨3, .phase⟩, ⟨4, .phase⟩, ⟨5, .phase⟩, ⟨6, .phase⟩, ⟨7, .phase⟩, ⟨8, .phase⟩, ⟨9, .phase⟩, ⟨10, .phase⟩, ⟨11, .phase⟩, ⟨12, .phase⟩, ⟨13, .phase⟩, ⟨14, .phase⟩, ⟨15, .phase⟩, ⟨16, .phase⟩, ⟨17, .phase⟩, ⟨18, .phase⟩, ⟨19, .phase⟩], none⟩) rfl (fun K hK => ?_) AllReadyH.nil
    go_simp
    have CZ := hHeld
    refine hK.out _ _ (hHeld) (fun hHeld => ?_)
    clear hK K
    try simp only [Act.put, List.setIfInBounds_toArray, List.set_cons_zero, List.set_cons_succ]
    refine wpAnyH_done (by kernel_rfl) ?_ _
    clear hHeld CZ C2 C3 CP
    go_wp2
    go_ret
    exact ⟨by simp [hk0], CB'⟩

/-- The reference's Under, at any proof. -/
theorem runder_any (R : List Nat) (hR : Dgt R) (F S : Int) (lf : List Lf) (q : Option Addr) (n c : Nat) (sa : Option Addr) (k sc : Nat) (sd : List (List Nat)) (hd : Dgts sd) (hl : lf.length = n) (hn : n ≤ 1000000) (hkb : k ≤ 1000000) (w : World) (hG : GlobR w) (hL : OwnL w q lf) (hsd : SdV w w.heap.size (.slice sa k sc) sd) :
    Calls Tryd.prog 52 #[.agg (bytesV R).toArray, .agg #[.int .i64 F, .int .i64 S, .slice q n c, .slice sa k sc]] w fun en w' => en = .returned (.bool (underM R F S lf sd)) ∧ Below w.heap.size w w' := by
  by_cases hb : S < 0 ∨ 4096 < S ∨ F < 0 ∨ S - n < F ∨ validM lf ≠ 0
  · have e : underM R F S lf sd = false := by unfold underM; rw [if_pos (by rw [hl]; exact hb)]
    rw [e]
    exact runder_bad R hR F S lf q n c sa k sc hl (by omega) w hL hb
  · have hv : validM lf = 0 := by
      rcases Decidable.em (validM lf = 0) with h | h
      · exact h
      · exact absurd (Or.inr (Or.inr (Or.inr (Or.inr h)))) hb
    obtain ⟨F', rfl⟩ : ∃ m : Nat, F = (m : Int) := ⟨F.toNat, by omega⟩
    obtain ⟨S', rfl⟩ : ∃ m : Nat, S = (m : Int) := ⟨S.toNat, by omega⟩
    rcases Nat.eq_zero_or_pos S' with h0 | h0
    · subst h0
      obtain rfl : F' = 0 := by omega
      obtain rfl : n = 0 := by omega
      obtain rfl := List.eq_nil_of_length_eq_zero hl
      have e : underM R ((0 : Nat) : Int) ((0 : Nat) : Int) [] sd = (decide (k = 0) && decide (R = topD 0 z16)) := by
        have hk : sd.length = k := by
          obtain ⟨p0, c0, e0, _⟩ := hsd
          injection e0 with _ e2 _
          exact e2.symm
        unfold underM
        rw [if_neg (by rw [hv]; simp), if_pos (by rfl)]
        rw [show decide (sd = []) = decide (k = 0) from decide_eq_decide.2 (by rw [← hk, List.length_eq_zero_iff])]
      rw [e]
      exact runder_zero R hR q c sa k sc w hG
    · rcases Nat.eq_zero_or_pos n with h1 | h1
      · subst h1
        obtain rfl := List.eq_nil_of_length_eq_zero hl
        have e : underM R (F' : Int) (S' : Int) [] sd = false := by
          unfold underM
          rw [if_neg (by rw [hl]; exact hb), if_neg (by omega), if_pos rfl]
        rw [e]
        exact runder_nil R hR F' S' q c sa k sc h0 (by omega) (by omega) w
      · exact runder_many R hR F' S' lf q n c sa k sc sd hd hl h1 (by omega) (by omega) hv hkb w hG hL hsd

end Go.Proofs.YtfhfmdnimebegaaDoor

/-
  The reference's Check.
-/
namespace Go.Proofs.YtfhfmdnimebegaaDoor
open Go.RowKit
set_option linter.unusedVariables false
set_option linter.unusedSimpArgs false

set_option maxHeartbeats 2000000 in
set_option maxRecDepth 100000 in
theorem rcheck_no (R : List Nat) (hR : Dgt R) (key : ByteArray) (F S : Int) (lf : List Lf) (q : Option Addr) (n c : Nat) (sa : Option Addr) (k sc : Nat) (sd : List (List Nat)) (hd : Dgts sd) (hl : lf.length = n) (hn : n ≤ 1000000) (hkb : k ≤ 1000000) (w : World) (hG : GlobR w) (hL : OwnL w q lf) (hsd : SdV w w.heap.size (.slice sa k sc) sd)
    (hu : underM R F S lf sd = false) :
    Calls Tryd.prog 30 #[.agg (bytesV R).toArray, .string key, .agg #[.int .i64 F, .int .i64 S, .slice q n c, .slice sa k sc]] w fun en w' => en = .returned (.tuple #[.string ByteArray.empty, .bool false, .int .i64 17]) ∧ Below w.heap.size w w' := by
  have HU := Lib.hid (fun (w0 : World) (hB : Below w.heap.size w w0) => (hu ▸ runder_any R hR F S lf q n c sa k sc sd hd hl hn hkb w0 (hG.keep hB) (hL.keep hB) (hsd.self hB) : Calls Tryd.prog 52 #[.agg (bytesV R).toArray, .agg #[.int .i64 F, .int .i64 S, .slice q n c, .slice sa k sc]] w0 fun en w' => en = .returned (.bool false) ∧ Below w0.heap.size w0 w'))
  have hvR : (bytesV R).length = 16 := by rw [bytesV_length]; exact hR.1
  clear hu hd hl hsd hL hG hR
  go_enter Tryd.func30, Tryd.ntmps30
  go_upto_region 1 with (fail)
  generalize hw1 : World.alloc _ _ = W0
  have Kp : Blk W0 (w.heap.size + 1) 54 [.int .i64 F, .int .i64 S, .slice q n c, .slice sa k sc] := hw1 ▸ blk_new1 w _ _ _
  have Kr : Blk W0 w.heap.size 29 (bytesV R) := hw1 ▸ ((blk_new w _ _).alloc _)
  have KB : Below w.heap.size w W0 := hw1 ▸ (((Below.refl _ _).alloc (Nat.le_refl _) _).alloc (by simp) _)
  clear hw1
  go_wp2_with (first
    | (refine load_blk rfl 29 (.tmp 3) rfl Kr rfl Tryd.underlying29 (m := 16) (by kernel_rfl) hvR ?_)
    | (refine load_struct rfl 54 (.tmp 5) rfl Kp rfl Tryd.underlying54 (m := 4) (by kernel_rfl) rfl ?_)
    | (go_at_call 52; refine (HU.out _ KB).mono ?_; rintro en W2 ⟨rfl, hB2⟩))
  go_ret3
  exact ⟨rfl, link KB hB2⟩

set_option maxHeartbeats 4000000 in
set_option maxRecDepth 100000 in
theorem rcheck_yes (R : List Nat) (hR : Dgt R) (key : ByteArray) (F S : Nat) (lf : List Lf) (q : Option Addr) (n c : Nat) (sa : Option Addr) (k sc : Nat) (sd : List (List Nat)) (hd : Dgts sd) (hl : lf.length = n) (hFS : F + n ≤ S) (hS : S ≤ 4096) (hv : validM lf = 0) (hkb : k ≤ 1000000) (w : World) (hG : GlobR w) (hL : OwnL w q lf) (hsd : SdV w w.heap.size (.slice sa k sc) sd)
    (hu : underM R F S lf sd = true) :
    Calls Tryd.prog 30 #[.agg (bytesV R).toArray, .string key, .agg #[.int .i64 (F : Int), .int .i64 (S : Int), .slice q n c, .slice sa k sc]] w
      fun en w' => en = .returned (.tuple #[.string (checkM R key F S lf sd).1, .bool (checkM R key F S lf sd).2.1, .int .i64 (checkM R key F S lf sd).2.2]) ∧ Below w.heap.size w w' := by
  have HU := Lib.hid (fun (w0 : World) (hB : Below w.heap.size w w0) => (hu ▸ runder_any R hR F S lf q n c sa k sc sd hd hl (by omega) hkb w0 (hG.keep hB) (hL.keep hB) (hsd.self hB) : Calls Tryd.prog 52 #[.agg (bytesV R).toArray, .agg #[.int .i64 (F : Int), .int .i64 (S : Int), .slice q n c, .slice sa k sc]] w0 fun en w' => en = .returned (.bool true) ∧ Below w0.heap.size w0 w'))
  obtain ⟨_, _, hord⟩ := valid_zero hv
  have HH := Lib.hid (fun (w0 : World) (hB : Below w.heap.size w w0) => has_any lf q n c hl (by omega) key w0 (hL.keep hB))
  have HF := Lib.hid (fun (w0 : World) (hB : Below w.heap.size w w0) => rfrom_any lf q n c hl (by omega) key w0 (hL.keep hB))
  rw [count_from lf key hord] at HF
  have hvR : (bytesV R).length = 16 := by rw [bytesV_length]; exact hR.1
  have hcm : checkM R key F S lf sd = (if keyAt lf (fromM lf key) key then (valAt lf (fromM lf key), true, 0) else if absentM F S n (fromM lf key) then (ByteArray.empty, false, 0) else (ByteArray.empty, false, 17)) := by
    unfold checkM
    rw [if_pos hu, hl]
    simp
  have hfl := fromM_le lf key
  rw [hl] at hfl
  have hkx : keyAt lf (fromM lf key) key = true → hasM lf key = (fromM lf key : Nat) ∧ fromM lf key < n ∧ ∃ b off, q = some ⟨b, off, none⟩ ∧ b < w.heap.size ∧ w.cell? ⟨b, off + fromM lf key * 2 + 1, none⟩ = some (.string (valAt lf (fromM lf key))) := by
    intro hk
    have hlt := keyAt_lt hk
    obtain ⟨b, off, hp, hL2⟩ := hL (by intro h; rw [h] at hlt; simp at hlt)
    have hx : lf[fromM lf key]? = some lf[fromM lf key] := List.getElem?_eq_getElem hlt
    refine ⟨has_at lf key hord hk, by omega, b, off, hp, hL2.1, ?_⟩
    rw [(hL2.at hx).2]
    unfold valAt
    rw [hx]
  have hkn : keyAt lf (fromM lf key) key = false → hasM lf key = -1 := fun h => has_not lf key hord (by rw [h]; decide)
  generalize checkM R key F S lf sd = CM at hcm ⊢
  generalize keyAt lf (fromM lf key) key = ka at hkx hkn hcm
  generalize valAt lf (fromM lf key) = vl at hkx hcm
  generalize fromM lf key = i at HF hkx hcm hfl
  generalize hasM lf key = hv0 at HH hkx hkn
  clear hu hd hl hsd hL hG hord hv hR
  go_enter Tryd.func30, Tryd.ntmps30
  go_upto_region 1 with (fail)
  generalize hw1 : World.alloc _ _ = W0
  have Kp : Blk W0 (w.heap.size + 1) 54 [.int .i64 (F : Int), .int .i64 (S : Int), .slice q n c, .slice sa k sc] := hw1 ▸ blk_new1 w _ _ _
  have Kr : Blk W0 w.heap.size 29 (bytesV R) := hw1 ▸ ((blk_new w _ _).alloc _)
  have KB : Below w.heap.size w W0 := hw1 ▸ (((Below.refl _ _).alloc (Nat.le_refl _) _).alloc (by simp) _)
  clear hw1
  go_upto_region 3 with (first
    | (refine load_blk rfl 29 (.tmp 3) rfl Kr rfl Tryd.underlying29 (m := 16) (by kernel_rfl) hvR ?_)
    | (refine load_struct rfl 54 (.tmp 5) rfl Kp rfl Tryd.underlying54 (m := 4) (by kernel_rfl) rfl ?_)
    | (go_at_call 52; refine (HU.out _ KB).mono ?_; rintro en W2 ⟨rfl, hB2⟩))
  have Kp2 := Kp.keep hB2
  have KB2 := link KB hB2
  clear Kp Kr KB hB2 HU
  have c2 := Kp2.cell (j := 2) rfl
  go_upto_region 4 with (go_at_call 34; refine (HH.out _ KB2).mono ?_; rintro en W3 ⟨rfl, hB3⟩)
  have Kp3 := Kp2.keep hB3
  have KB3 := link KB2 hB3
  clear c2 Kp2 KB2 hB3 HH
  have c2 := Kp3.cell (j := 2) rfl
  rcases ka with _ | _
  · obtain rfl := hkn rfl
    clear hkx hkn
    go_upto_region 7 with (go_at_call 47; refine (HF.out _ KB3).mono ?_; rintro en W4 ⟨rfl, hB4⟩)
    have Kp4 := Kp3.keep hB4
    have KB4 := link KB3 hB4
    clear c2 Kp3 KB3 hB4 HF
    have c0 := Kp4.cell (j := 0) rfl
    have c1 := Kp4.cell (j := 1) rfl
    have c2 := Kp4.cell (j := 2) rfl
    have HC := Lib.hid hcm
    clear hcm
    have e0 : ((F : Int) == 0) = decide (F = 0) := by rw [Bool.eq_iff_iff]; simp
    have e1 := @eq_sum F n S
    have hsum : IntKind.i64.wrap ((F : Int) + (n : Int)) = (F : Int) + (n : Int) := by
      simp [IntKind.wrap, IntKind.signed, IntKind.bits]; omega
    have key1 : (0 < i ∨ (¬ 0 < i ∧ F = 0) ∨ (¬ 0 < i ∧ ¬ F = 0)) := by omega
    have key2 : (i < n ∨ (¬ i < n ∧ F + n = S) ∨ (¬ i < n ∧ ¬ F + n = S)) := by omega
    have hab : ∀ l r : Bool, (decide (0 < i) || decide (F = 0)) = l → (decide (i < n) || decide (F + n = S)) = r → CM = (if (l && r) = true then (ByteArray.empty, false, 0) else (ByteArray.empty, false, 17)) := by
      intro l r h1 h2
      rw [HC.out, if_neg (by decide)]
      unfold absentM
      rw [h1, h2]
      by_cases h0 : S = 0
      · have hl1 : l = true := by rw [← h1]; simp; omega
        have hr1 : r = true := by rw [← h2]; simp; omega
        rw [hl1, hr1]; simp
      · simp [h0]
    have HAB := Lib.hid hab
    clear hab HC
    rcases key1 with a1 | ⟨a1, a2⟩ | ⟨a1, a2⟩
    · rcases key2 with b1 | ⟨b1, b2⟩ | ⟨b1, b2⟩
      · have HR := Lib.hid (HAB.out true true (by rw [decide_eq_true a1]; rfl) (by rw [decide_eq_true b1]; rfl))
        clear HAB e0 e1
        go_wp2
        go_ret3
        exact ⟨by rw [HR.out]; rfl, KB4⟩
      · have HR := Lib.hid (HAB.out true true (by rw [decide_eq_true a1]; rfl) (by rw [decide_eq_true b2, Bool.or_true]))
        have x1 : ((F : Int) + (n : Int) == (S : Int)) = true := by rw [e1, decide_eq_true b2]
        clear HAB e0 e1
        go_wp2
        go_ret3
        exact ⟨by rw [HR.out]; rfl, KB4⟩
      · have HR := Lib.hid (HAB.out true false (by rw [decide_eq_true a1]; rfl) (by rw [decide_eq_false b1, decide_eq_false b2]; rfl))
        have x1 : ((F : Int) + (n : Int) == (S : Int)) = false := by rw [e1, decide_eq_false b2]
        clear HAB e0 e1
        go_wp2
        go_ret3
        exact ⟨by rw [HR.out]; rfl, KB4⟩
    · have x0 : ((F : Int) == 0) = true := by rw [e0, decide_eq_true a2]
      rcases key2 with b1 | ⟨b1, b2⟩ | ⟨b1, b2⟩
      · have HR := Lib.hid (HAB.out true true (by rw [decide_eq_true a2, Bool.or_true]) (by rw [decide_eq_true b1]; rfl))
        clear HAB e0 e1
        go_wp2
        go_ret3
        exact ⟨by rw [HR.out]; rfl, KB4⟩
      · have HR := Lib.hid (HAB.out true true (by rw [decide_eq_true a2, Bool.or_true]) (by rw [decide_eq_true b2, Bool.or_true]))
        have x1 : ((F : Int) + (n : Int) == (S : Int)) = true := by rw [e1, decide_eq_true b2]
        clear HAB e0 e1
        go_wp2
        go_ret3
        exact ⟨by rw [HR.out]; rfl, KB4⟩
      · have HR := Lib.hid (HAB.out true false (by rw [decide_eq_true a2, Bool.or_true]) (by rw [decide_eq_false b1, decide_eq_false b2]; rfl))
        have x1 : ((F : Int) + (n : Int) == (S : Int)) = false := by rw [e1, decide_eq_false b2]
        clear HAB e0 e1
        go_wp2
        go_ret3
        exact ⟨by rw [HR.out]; rfl, KB4⟩
    · have x0 : ((F : Int) == 0) = false := by rw [e0, decide_eq_false a2]
      rcases key2 with b1 | ⟨b1, b2⟩ | ⟨b1, b2⟩
      · have HR := Lib.hid (HAB.out false true (by rw [decide_eq_false a1, decide_eq_false a2]; rfl) (by rw [decide_eq_true b1]; rfl))
        clear HAB e0 e1
        go_wp2
        go_ret3
        exact ⟨by rw [HR.out]; rfl, KB4⟩
      · have HR := Lib.hid (HAB.out false true (by rw [decide_eq_false a1, decide_eq_false a2]; rfl) (by rw [decide_eq_true b2, Bool.or_true]))
        have x1 : ((F : Int) + (n : Int) == (S : Int)) = true := by rw [e1, decide_eq_true b2]
        clear HAB e0 e1
        go_wp2
        go_ret3
        exact ⟨by rw [HR.out]; rfl, KB4⟩
      · have HR := Lib.hid (HAB.out false false (by rw [decide_eq_false a1, decide_eq_false a2]; rfl) (by rw [decide_eq_false b1, decide_eq_false b2]; rfl))
        have x1 : ((F : Int) + (n : Int) == (S : Int)) = false := by rw [e1, decide_eq_false b2]
        clear HAB e0 e1
        go_wp2
        go_ret3
        exact ⟨by rw [HR.out]; rfl, KB4⟩
  · obtain ⟨rfl, hin, b, off, rfl, hbw, hcv⟩ := hkx rfl
    have hcv3 := (KB3.cell hbw).trans hcv
    have HC := Lib.hid hcm
    clear hkn hcm hcv hbw
    go_wp2
    go_ret3
    exact ⟨by rw [HC.out]; rfl, KB3⟩

/-- The reference's Check, at any proof: what the package's answers. -/
theorem rcheck_any (R : List Nat) (hR : Dgt R) (key : ByteArray) (F S : Int) (lf : List Lf) (q : Option Addr) (n c : Nat) (sa : Option Addr) (k sc : Nat) (sd : List (List Nat)) (hd : Dgts sd) (hl : lf.length = n) (hn : n ≤ 1000000) (hkb : k ≤ 1000000) (w : World) (hG : GlobR w) (hL : OwnL w q lf) (hsd : SdV w w.heap.size (.slice sa k sc) sd) :
    Calls Tryd.prog 30 #[.agg (bytesV R).toArray, .string key, .agg #[.int .i64 F, .int .i64 S, .slice q n c, .slice sa k sc]] w
      fun en w' => en = .returned (.tuple #[.string (checkM R key F S lf sd).1, .bool (checkM R key F S lf sd).2.1, .int .i64 (checkM R key F S lf sd).2.2]) ∧ Below w.heap.size w w' := by
  rcases hu : underM R F S lf sd with _ | _
  · have e : checkM R key F S lf sd = (ByteArray.empty, false, 17) := by unfold checkM; rw [if_neg (by rw [hu]; simp)]
    rw [e]
    exact rcheck_no R hR key F S lf q n c sa k sc sd hd hl hn hkb w hG hL hsd hu
  · obtain ⟨F', S', rfl, rfl, h1, h2, hv⟩ := under_facts hu
    exact rcheck_yes R hR key F' S' lf q n c sa k sc sd hd hl (by omega) h2 hv hkb w hG hL hsd hu

end Go.Proofs.YtfhfmdnimebegaaDoor

/-
  The reference's CheckRange.
-/
namespace Go.Proofs.YtfhfmdnimebegaaDoor
open Go.RowKit
set_option linter.unusedVariables false
set_option linter.unusedSimpArgs false

set_option maxHeartbeats 2000000 in
set_option maxRecDepth 100000 in
theorem rcrange_bad (R : List Nat) (low hik : ByteArray) (h : sless hik low = true) (F S : Int) (q : Option Addr) (n c : Nat) (sa : Option Addr) (k sc : Nat) (w : World) :
    Calls Tryd.prog 32 #[.agg (bytesV R).toArray, .string low, .string hik, .agg #[.int .i64 F, .int .i64 S, .slice q n c, .slice sa k sc]] w fun en w' => en = .returned (.tuple #[.slice none 0 0, .int .i64 5]) ∧ Below w.heap.size w w' := by
  unfold sless at h
  go_enter Tryd.func32, Tryd.ntmps32
  go_upto_region 1 with (fail)
  generalize hw1 : World.alloc _ _ = W0
  have KB : Below w.heap.size w W0 := hw1 ▸ (((Below.refl _ _).alloc (Nat.le_refl _) _).alloc (by simp) _)
  clear hw1
  go_wp2
  go_ret2
  exact ⟨rfl, KB⟩

set_option maxHeartbeats 2000000 in
set_option maxRecDepth 100000 in
theorem rcrange_no (R : List Nat) (hR : Dgt R) (low hik : ByteArray) (h : sless hik low = false) (F S : Int) (lf : List Lf) (q : Option Addr) (n c : Nat) (sa : Option Addr) (k sc : Nat) (sd : List (List Nat)) (hd : Dgts sd) (hl : lf.length = n) (hn : n ≤ 1000000) (hkb : k ≤ 1000000) (w : World) (hG : GlobR w) (hL : OwnL w q lf) (hsd : SdV w w.heap.size (.slice sa k sc) sd)
    (hu : underM R F S lf sd = false) :
    Calls Tryd.prog 32 #[.agg (bytesV R).toArray, .string low, .string hik, .agg #[.int .i64 F, .int .i64 S, .slice q n c, .slice sa k sc]] w fun en w' => en = .returned (.tuple #[.slice none 0 0, .int .i64 17]) ∧ Below w.heap.size w w' := by
  have HU := Lib.hid (fun (w0 : World) (hB : Below w.heap.size w w0) => (hu ▸ runder_any R hR F S lf q n c sa k sc sd hd hl hn hkb w0 (hG.keep hB) (hL.keep hB) (hsd.self hB) : Calls Tryd.prog 52 #[.agg (bytesV R).toArray, .agg #[.int .i64 F, .int .i64 S, .slice q n c, .slice sa k sc]] w0 fun en w' => en = .returned (.bool false) ∧ Below w0.heap.size w0 w'))
  have hvR : (bytesV R).length = 16 := by rw [bytesV_length]; exact hR.1
  unfold sless at h
  clear hu hd hl hsd hL hG hR
  go_enter Tryd.func32, Tryd.ntmps32
  go_upto_region 1 with (fail)
  generalize hw1 : World.alloc _ _ = W0
  have Kp : Blk W0 (w.heap.size + 1) 54 [.int .i64 F, .int .i64 S, .slice q n c, .slice sa k sc] := hw1 ▸ blk_new1 w _ _ _
  have Kr : Blk W0 w.heap.size 29 (bytesV R) := hw1 ▸ ((blk_new w _ _).alloc _)
  have KB : Below w.heap.size w W0 := hw1 ▸ (((Below.refl _ _).alloc (Nat.le_refl _) _).alloc (by simp) _)
  clear hw1
  go_wp2_with (first
    | (refine load_blk rfl 29 (.tmp 4) rfl Kr rfl Tryd.underlying29 (m := 16) (by kernel_rfl) hvR ?_)
    | (refine load_struct rfl 54 (.tmp 7) rfl Kp rfl Tryd.underlying54 (m := 4) (by kernel_rfl) rfl ?_)
    | (go_at_call 52; refine (HU.out _ KB).mono ?_; rintro en W2 ⟨rfl, hB2⟩))
  go_ret2
  exact ⟨rfl, link KB hB2⟩

set_option maxHeartbeats 4000000 in
set_option maxRecDepth 100000 in
theorem rcrange_nil (R : List Nat) (hR : Dgt R) (low hik : ByteArray) (h : sless hik low = false) (F S : Int) (q : Option Addr) (c : Nat) (sa : Option Addr) (k sc : Nat) (sd : List (List Nat)) (hd : Dgts sd) (hkb : k ≤ 1000000) (w : World) (hG : GlobR w) (hsd : SdV w w.heap.size (.slice sa k sc) sd)
    (hu : underM R F S [] sd = true) :
    Calls Tryd.prog 32 #[.agg (bytesV R).toArray, .string low, .string hik, .agg #[.int .i64 F, .int .i64 S, .slice q 0 c, .slice sa k sc]] w fun en w' => en = .returned (.tuple #[.slice none 0 0, .int .i64 0]) ∧ Below w.heap.size w w' := by
  have HU := Lib.hid (fun (w0 : World) (hB : Below w.heap.size w w0) => (hu ▸ runder_any R hR F S [] q 0 c sa k sc sd hd rfl (by omega) hkb w0 (hG.keep hB) (fun h => absurd rfl h) (hsd.self hB) : Calls Tryd.prog 52 #[.agg (bytesV R).toArray, .agg #[.int .i64 F, .int .i64 S, .slice q 0 c, .slice sa k sc]] w0 fun en w' => en = .returned (.bool true) ∧ Below w0.heap.size w0 w'))
  have hvR : (bytesV R).length = 16 := by rw [bytesV_length]; exact hR.1
  unfold sless at h
  clear hu hd hsd hG hR
  go_enter Tryd.func32, Tryd.ntmps32
  go_upto_region 1 with (fail)
  generalize hw1 : World.alloc _ _ = W0
  have Kp : Blk W0 (w.heap.size + 1) 54 [.int .i64 F, .int .i64 S, .slice q 0 c, .slice sa k sc] := hw1 ▸ blk_new1 w _ _ _
  have Kr : Blk W0 w.heap.size 29 (bytesV R) := hw1 ▸ ((blk_new w _ _).alloc _)
  have KB : Below w.heap.size w W0 := hw1 ▸ (((Below.refl _ _).alloc (Nat.le_refl _) _).alloc (by simp) _)
  clear hw1
  go_upto_region 5 with (first
    | (refine load_blk rfl 29 (.tmp 4) rfl Kr rfl Tryd.underlying29 (m := 16) (by kernel_rfl) hvR ?_)
    | (refine load_struct rfl 54 (.tmp 7) rfl Kp rfl Tryd.underlying54 (m := 4) (by kernel_rfl) rfl ?_)
    | (go_at_call 52; refine (HU.out _ KB).mono ?_; rintro en W2 ⟨rfl, hB2⟩))
  have c2 := (Kp.keep hB2).cell (j := 2) rfl
  go_wp2
  go_ret2
  exact ⟨rfl, link KB hB2⟩

set_option maxHeartbeats 4000000 in
set_option maxRecDepth 100000 in
theorem rcrange_yes (R : List Nat) (hR : Dgt R) (low hik : ByteArray) (h : sless hik low = false) (F S : Nat) (lf : List Lf) (b off : Nat) (n c : Nat) (sa : Option Addr) (k sc : Nat) (sd : List (List Nat)) (hd : Dgts sd) (hl : lf.length = n) (hn0 : 0 < n) (hFS : F + n ≤ S) (hS : S ≤ 4096) (hv : validM lf = 0) (hkb : k ≤ 1000000) (w : World) (hG : GlobR w) (hL : Lvs w b off lf) (hsd : SdV w w.heap.size (.slice sa k sc) sd)
    (hu : underM R F S lf sd = true) :
    Calls Tryd.prog 32 #[.agg (bytesV R).toArray, .string low, .string hik, .agg #[.int .i64 (F : Int), .int .i64 (S : Int), .slice (some ⟨b, off, none⟩) n c, .slice sa k sc]] w
      fun en w' => ∃ v, en = .returned (.tuple #[v, .int .i64 (crangeM R low hik F S lf sd).2]) ∧ LvsV w' v (crangeM R low hik F S lf sd).1 ∧ Below w.heap.size w w' := by
  have hLo : ∀ V, Below w.heap.size w V → OwnL V (some ⟨b, off, none⟩) lf := fun V hB _ => ⟨b, off, rfl, hL.keep hB⟩
  have HU := Lib.hid (fun (w0 : World) (hB : Below w.heap.size w w0) => (hu ▸ runder_any R hR F S lf (some ⟨b, off, none⟩) n c sa k sc sd hd hl (by omega) hkb w0 (hG.keep hB) (hLo w0 hB) (hsd.self hB) : Calls Tryd.prog 52 #[.agg (bytesV R).toArray, .agg #[.int .i64 (F : Int), .int .i64 (S : Int), .slice (some ⟨b, off, none⟩) n c, .slice sa k sc]] w0 fun en w' => en = .returned (.bool true) ∧ Below w0.heap.size w0 w'))
  obtain ⟨_, _, hord⟩ := valid_zero hv
  have HI := Lib.hid (fun (w0 : World) (hB : Below w.heap.size w w0) => inside_any lf (some ⟨b, off, none⟩) n c hl (by omega) low hik w0 (hLo w0 hB))
  rw [inside_cut lf low hik hord h] at HI
  have hvR : (bytesV R).length = 16 := by rw [bytesV_length]; exact hR.1
  have hcm : crangeM R low hik F S lf sd = (if outR low hik F S lf then ([], 17) else ((lf.drop (fromM lf low)).take (fromM lf hik - fromM lf low), 0)) := by
    unfold crangeM
    rw [if_neg (by rw [h]; simp), if_pos hu]
    simp
  obtain ⟨p, hp⟩ : ∃ p, n - 1 = p := ⟨_, rfl⟩
  have hout : outR low hik F S lf = ((decide (0 < F) && !Op.bytesLess (kAt lf 0).toList low.toList) || (decide (F + n < S) && Op.bytesLess (kAt lf p).toList hik.toList)) := by unfold outR sless; rw [hl, hp]
  have hx0 : lf[0]? = some (lf[0]'(by omega)) := List.getElem?_eq_getElem (by omega)
  have hx1 : lf[p]? = some (lf[p]'(by omega)) := List.getElem?_eq_getElem (by omega)
  have hc0 : w.cell? ⟨b, off, none⟩ = some (.string (kAt lf 0)) := by
    have := (hL.at hx0).1
    unfold kAt
    rw [hx0]
    simpa using this
  have hc1 : w.cell? ⟨b, off + p * 2, none⟩ = some (.string (kAt lf p)) := by
    unfold kAt
    rw [hx1]
    exact (hL.at hx1).1
  have hbw := hL.1
  have hwp : IntKind.i64.wrap ((n : Int) - 1) = (p : Int) := by
    rw [show ((n : Int) - 1) = (p : Int) by omega]
    simp [IntKind.wrap, IntKind.signed, IntKind.bits]
    omega
  have hwq : wrap64 ((n : Int) - 1) = (p : Int) := by unfold wrap64; omega
  have hpn : p < n := by omega
  unfold sless at h
  generalize crangeM R low hik F S lf sd = CM at hcm ⊢
  generalize outR low hik F S lf = ou at hcm hout
  generalize kAt lf 0 = k0 at hc0 hout
  generalize kAt lf p = k1 at hc1 hout
  generalize (lf.drop (fromM lf low)).take (fromM lf hik - fromM lf low) = part at HI hcm
  clear hu hd hl hsd hL hLo hG hord hv hx0 hx1 hp
  have hn1 : ((n : Int) == 0) = false := by simp; omega
  go_enter Tryd.func32, Tryd.ntmps32
  go_upto_region 1 with (fail)
  generalize hw1 : World.alloc _ _ = W0
  have Kp : Blk W0 (w.heap.size + 1) 54 [.int .i64 (F : Int), .int .i64 (S : Int), .slice (some ⟨b, off, none⟩) n c, .slice sa k sc] := hw1 ▸ blk_new1 w _ _ _
  have Kr : Blk W0 w.heap.size 29 (bytesV R) := hw1 ▸ ((blk_new w _ _).alloc _)
  have KB : Below w.heap.size w W0 := hw1 ▸ (((Below.refl _ _).alloc (Nat.le_refl _) _).alloc (by simp) _)
  clear hw1
  go_upto_region 5 with (first
    | (refine load_blk rfl 29 (.tmp 4) rfl Kr rfl Tryd.underlying29 (m := 16) (by kernel_rfl) hvR ?_)
    | (refine load_struct rfl 54 (.tmp 7) rfl Kp rfl Tryd.underlying54 (m := 4) (by kernel_rfl) rfl ?_)
    | (go_at_call 52; refine (HU.out _ KB).mono ?_; rintro en W2 ⟨rfl, hB2⟩))
  have Kp2 := Kp.keep hB2
  have KB2 := link KB hB2
  clear Kp Kr KB hB2 HU h
  have c0 := Kp2.cell (j := 0) rfl
  have c1 := Kp2.cell (j := 1) rfl
  have c2 := Kp2.cell (j := 2) rfl
  have cx := (KB2.cell hbw).trans hc0
  have cy := (KB2.cell hbw).trans hc1
  clear hc0 hc1 Kp2
  go_upto_region 8 with (fail)
  have HX : Hid (CM = if ((decide (0 < F) && !Op.bytesLess k0.toList low.toList) || (decide (F + n < S) && Op.bytesLess k1.toList hik.toList)) = true then ([], 17) else (part, 0)) := Lib.hid (by rw [← hout]; exact hcm)
  clear hcm hout
  have keyA : (¬ 0 < F) ∨ (0 < F ∧ Op.bytesLess k0.toList low.toList = true) ∨ (0 < F ∧ Op.bytesLess k0.toList low.toList = false) := by
    rcases Nat.eq_zero_or_pos F with hf | hf <;> rcases Op.bytesLess k0.toList low.toList with _ | _ <;> simp [hf] <;> omega
  have keyB : (¬ F + n < S) ∨ (F + n < S ∧ Op.bytesLess k1.toList hik.toList = false) ∨ (F + n < S ∧ Op.bytesLess k1.toList hik.toList = true) := by
    rcases Nat.lt_or_ge (F + n) S with hf | hf <;> rcases Op.bytesLess k1.toList hik.toList with _ | _ <;> simp [hf] <;> omega
  have hsum : IntKind.i64.wrap ((F : Int) + (n : Int)) = (F : Int) + (n : Int) := by
    simp [IntKind.wrap, IntKind.signed, IntKind.bits]; omega
  rcases keyA with a1 | ⟨a1, a2⟩ | ⟨a1, a2⟩
  · rcases keyB with b1 | ⟨b1, b2⟩ | ⟨b1, b2⟩
    · have HZ : Hid (CM = (part, 0)) := Lib.hid (by rw [HX.out]; simp [a1, b1])
      clear HX
      go_wp2_with (go_at_call 35; refine (HI.out _ KB2).mono ?_; rintro en W4 ⟨v4, rfl, hO4, hB4⟩)
      go_ret2
      exact ⟨v4, by rw [HZ.out] <;> rfl, by rw [HZ.out]; exact (RL_lvs hO4).1, link KB2 hB4⟩
    · have HZ : Hid (CM = (part, 0)) := Lib.hid (by rw [HX.out]; simp [a1, b1, b2])
      clear HX
      go_wp2_with (go_at_call 35; refine (HI.out _ KB2).mono ?_; rintro en W4 ⟨v4, rfl, hO4, hB4⟩)
      go_ret2
      exact ⟨v4, by rw [HZ.out] <;> rfl, by rw [HZ.out]; exact (RL_lvs hO4).1, link KB2 hB4⟩
    · have HZ : Hid (CM = ([], 17)) := Lib.hid (by rw [HX.out]; simp [a1, b1, b2])
      clear HX
      go_wp2
      go_ret2
      exact ⟨.slice none 0 0, by rw [HZ.out] <;> rfl, by rw [HZ.out]; exact LvsV.nil _, KB2⟩
  · rcases keyB with b1 | ⟨b1, b2⟩ | ⟨b1, b2⟩
    · have HZ : Hid (CM = (part, 0)) := Lib.hid (by rw [HX.out]; simp [a1, a2, b1])
      clear HX
      go_wp2_with (go_at_call 35; refine (HI.out _ KB2).mono ?_; rintro en W4 ⟨v4, rfl, hO4, hB4⟩)
      go_ret2
      exact ⟨v4, by rw [HZ.out] <;> rfl, by rw [HZ.out]; exact (RL_lvs hO4).1, link KB2 hB4⟩
    · have HZ : Hid (CM = (part, 0)) := Lib.hid (by rw [HX.out]; simp [a1, a2, b1, b2])
      clear HX
      go_wp2_with (go_at_call 35; refine (HI.out _ KB2).mono ?_; rintro en W4 ⟨v4, rfl, hO4, hB4⟩)
      go_ret2
      exact ⟨v4, by rw [HZ.out] <;> rfl, by rw [HZ.out]; exact (RL_lvs hO4).1, link KB2 hB4⟩
    · have HZ : Hid (CM = ([], 17)) := Lib.hid (by rw [HX.out]; simp [a1, a2, b1, b2])
      clear HX
      go_wp2
      go_ret2
      exact ⟨.slice none 0 0, by rw [HZ.out] <;> rfl, by rw [HZ.out]; exact LvsV.nil _, KB2⟩
  · clear keyB
    have HZ : Hid (CM = ([], 17)) := Lib.hid (by rw [HX.out]; simp [a1, a2])
    clear HX
    go_wp2
    go_ret2
    exact ⟨.slice none 0 0, by rw [HZ.out] <;> rfl, by rw [HZ.out]; exact LvsV.nil _, KB2⟩

/-- The reference's CheckRange, at any proof: what the package's answers. -/
theorem rcrange_any (R : List Nat) (hR : Dgt R) (low hik : ByteArray) (F S : Int) (lf : List Lf) (q : Option Addr) (n c : Nat) (sa : Option Addr) (k sc : Nat) (sd : List (List Nat)) (hd : Dgts sd) (hl : lf.length = n) (hn : n ≤ 1000000) (hkb : k ≤ 1000000) (w : World) (hG : GlobR w) (hL : OwnL w q lf) (hsd : SdV w w.heap.size (.slice sa k sc) sd) :
    Calls Tryd.prog 32 #[.agg (bytesV R).toArray, .string low, .string hik, .agg #[.int .i64 F, .int .i64 S, .slice q n c, .slice sa k sc]] w
      fun en w' => ∃ v, en = .returned (.tuple #[v, .int .i64 (crangeM R low hik F S lf sd).2]) ∧ LvsV w' v (crangeM R low hik F S lf sd).1 ∧ Below w.heap.size w w' := by
  rcases h : sless hik low with _ | _
  · rcases hu : underM R F S lf sd with _ | _
    · have e : crangeM R low hik F S lf sd = ([], 17) := by unfold crangeM; rw [if_neg (by rw [h]; simp), if_neg (by rw [hu]; simp)]
      rw [e]
      refine (rcrange_no R hR low hik h F S lf q n c sa k sc sd hd hl hn hkb w hG hL hsd hu).mono ?_
      rintro e w' ⟨rfl, hB⟩
      exact ⟨_, rfl, LvsV.nil _, hB⟩
    · obtain ⟨F', S', rfl, rfl, h1, h2, hv⟩ := under_facts hu
      rcases Nat.eq_zero_or_pos n with h0 | h0
      · subst h0
        obtain rfl := List.eq_nil_of_length_eq_zero hl
        have hS0 : S' = 0 := by
          unfold underM at hu
          split at hu
          · cases hu
          · split at hu
            · omega
            · rw [if_pos rfl] at hu; cases hu
        subst hS0
        obtain rfl : F' = 0 := by simp at h1; omega
        have e : crangeM R low hik ((0 : Nat) : Int) ((0 : Nat) : Int) [] sd = ([], 0) := by
          unfold crangeM
          rw [if_neg (by rw [h]; simp), if_pos hu]
          rfl
        rw [e]
        refine (rcrange_nil R hR low hik h _ _ q c sa k sc sd hd hkb w hG hsd hu).mono ?_
        rintro e w' ⟨rfl, hB⟩
        exact ⟨_, rfl, LvsV.nil _, hB⟩
      · obtain ⟨b, off, rfl, hL2⟩ := hL (by intro h; rw [h] at hl; simp at hl; omega)
        exact rcrange_yes R hR low hik h F' S' lf b off n c sa k sc sd hd hl h0 (by omega) h2 hv hkb w hG hL2 hsd hu
  · have e : crangeM R low hik F S lf sd = ([], 5) := by unfold crangeM; rw [if_pos h]
    rw [e]
    refine (rcrange_bad R low hik h F S q n c sa k sc w).mono ?_
    rintro e w' ⟨rfl, hB⟩
    exact ⟨_, rfl, LvsV.nil _, hB⟩

end Go.Proofs.YtfhfmdnimebegaaDoor
