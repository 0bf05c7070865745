/-
  Whether a proof stands under a root. Conditions: as each theorem states them; no axiom beyond propext, Classical.choice, Quot.sound.
-/
import Derived.Test.YtfhfmdnimebegaaDoorEw
import Derived.Test.YtfhfmdnimebegaaDoorE4
import Derived.Test.YtfhfmdnimebegaaDoorE2

/-
  under's function where nothing is joined: no sides were left, a side is taken, or none is there to take.
-/
namespace Go.Proofs.YtfhfmdnimebegaaDoor
open Go.RowKit
set_option linter.unusedVariables false
set_option linter.unusedSimpArgs false

theorem blk_at2 {w1 : World} {b : Nat} (h : w1.heap.size = b) (t : TypeId) (cs : Array Value) : Blk (w1.alloc (.cells cs t)) b t cs.toList := h ▸ blk_new w1 t cs
/-- Below B nothing has changed but the blocks of X. -/
structure Keeps (X : Nat → Prop) (B : Nat) (w w' : World) : Prop where
  size : w.heap.size ≤ w'.heap.size
  heap : ∀ j, j < B → ¬ X j → w'.heap[j]? = w.heap[j]?
  rest : w'.os = w.os ∧ w'.tape = w.tape ∧ w'.output = w.output
theorem Keeps.refl (X : Nat → Prop) (B : Nat) (w : World) : Keeps X B w w := ⟨Nat.le_refl _, fun _ _ _ => rfl, rfl, rfl, rfl⟩
theorem Keeps.trans {X : Nat → Prop} {B : Nat} {w w1 w2 : World} (h : Keeps X B w w1) (h' : Keeps X B w1 w2) : Keeps X B w w2 :=
  ⟨Nat.le_trans h.size h'.size, fun j hj hp => (h'.heap j hj hp).trans (h.heap j hj hp), h'.rest.1.trans h.rest.1, h'.rest.2.1.trans h.rest.2.1, h'.rest.2.2.trans h.rest.2.2⟩
theorem Keeps.blk {X : Nat → Prop} {B : Nat} {w w' : World} (h : Keeps X B w w') {b : Nat} {t : TypeId} {cs : List Value} (k : Blk w b t cs) (hb : b < B) (hX : ¬ X b) : Blk w' b t cs := by
  unfold Blk at *
  rw [h.heap b hb hX]
  exact k
theorem Keeps.below {X : Nat → Prop} {B : Nat} {w w' : World} (h : Below B w w') : Keeps X B w w' := ⟨h.size, fun j hj _ => h.block j hj, h.os, h.tape, h.output⟩
theorem Keeps.lower {X : Nat → Prop} {B B' : Nat} {w w' w0 : World} (h : Keeps X B w w') (hb : Below B' w0 w) (h1 : B' ≤ B) (h2 : ∀ j, X j → B' ≤ j) : Below B' w0 w' :=
  ⟨h.rest.1.trans hb.os, h.rest.2.1.trans hb.tape, h.rest.2.2.trans hb.output, Nat.le_trans hb.size h.size, fun k hk => (h.heap k (by omega) (fun hx => absurd (h2 k hx) (by omega))).trans (hb.block k hk)⟩
theorem Keeps.setCell {X : Nat → Prop} {B : Nat} {w w' : World} (h : Keeps X B w w') (b i : Nat) (u : Value) (hX : X b) : Keeps X B w (w'.setCell ⟨b, i, none⟩ u) :=
  h.trans ⟨Nat.le_of_eq (only_sets b i w' [u]).1.symm, fun j _ hp => heap_setCell_other w' ⟨b, i, none⟩ j u (fun e => hp (e ▸ hX)), rfl, rfl, rfl⟩
theorem Keeps.drew {X : Nat → Prop} {B : Nat} {w w' : World} (h : Keeps X B w w') : Keeps X B w w'.drew := ⟨h.size, h.heap, h.rest⟩

/-- A slice of digests, where it lies below M. -/
def SdV (w : World) (M : Nat) (v : Value) (sd : List (List Nat)) : Prop :=
  ∃ p c, v = .slice p sd.length c ∧ sd.length ≤ c ∧ (sd ≠ [] → ∃ g off, p = some ⟨g, off, none⟩ ∧ g < M ∧ g < w.heap.size ∧ w.rangeAt g off (bytesV sd.flatten))
theorem range_keep {w w' : World} {M g off : Nat} {vs : List Value} (h : w.rangeAt g off vs) (hg : g < M) (hb : Below M w w') : w'.rangeAt g off vs :=
  fun j v hj => (hb.cell (p := ⟨_, _, none⟩) hg).trans (h j v hj)
theorem SdV.keep {w w' : World} {M : Nat} {v : Value} {sd : List (List Nat)} (h : SdV w M v sd) (hb : Below M w w') : SdV w' M v sd := by
  obtain ⟨p, c, e, hc, hr⟩ := h
  refine ⟨p, c, e, hc, fun hn => ?_⟩
  obtain ⟨g, off, e2, hg, hg2, hr2⟩ := hr hn
  exact ⟨g, off, e2, hg, Nat.lt_of_lt_of_le hg2 hb.size, range_keep hr2 hg hb⟩
/-- What the boxes of under hold: enough and the sides that are left, or not enough. -/
def Left (w : World) (M eb sb : Nat) : Option (List (List Nat)) → Prop
  | none => Blk w eb 4 [.bool false]
  | some sd => Blk w eb 4 [.bool true] ∧ ∃ v, Blk w sb 48 [v] ∧ SdV w M v sd
/-- The blocks that under's function writes. -/
def Xs (eb sb : Nat) : Nat → Prop := fun j => j = eb ∨ j = sb
theorem size_dg (w : World) : (Go.sizeOf 29).run Tryd.prog w = .ok 16 w := by kernel_rfl
abbrev bargs (x y eb pb nb sb cb : Nat) : Array Value := #[.int .i64 (x : Int), .int .i64 (y : Int), .pointer (some ⟨eb, 0, none⟩), .pointer (some ⟨pb, 0, none⟩), .pointer (some ⟨nb, 0, none⟩), .pointer (some ⟨sb, 0, none⟩), .pointer (some ⟨cb, 0, none⟩)]

set_option maxHeartbeats 2000000 in
set_option maxRecDepth 100000 in
theorem bld_stop (x y eb pb nb sb cb : Nat) (w : World) (he : Blk w eb 4 [.bool false]) :
    Calls Tryd.prog 68 #[.int .i64 (x : Int), .int .i64 (y : Int), .pointer (some ⟨eb, 0, none⟩), .pointer (some ⟨pb, 0, none⟩), .pointer (some ⟨nb, 0, none⟩), .pointer (some ⟨sb, 0, none⟩), .pointer (some ⟨cb, 0, none⟩)] w fun en w' => en = .returned (.agg (bytesV z16).toArray) ∧ Below w.heap.size w w' := by
  have hz1 := zero_dig'
  have hz2 := build_zero
  have hvz : (bytesV z16).length = 16 := rfl
  have hz16 : (bytesV z16).toArray.toList.length = 16 := rfl
  go_enter Tryd.func68, Tryd.ntmps68
  go_upto_region 1 with (fail)
  generalize hw1 : World.alloc _ _ = W0
  have K2 : Blk W0 w.heap.size 29 (bytesV z16) := hw1 ▸ (blk_new w _ _)
  have KB : Below w.heap.size w W0 := hw1 ▸ ((Below.refl _ _).alloc (Nat.le_refl _) _)
  have c1 := (he.keep KB).cell (j := 0) rfl
  clear hw1 hz1
  go_wp2_with (refine store_blk rfl 29 (.tmp 9) (.tmp 15) rfl K2 rfl rfl (m := 16) (by kernel_rfl) hvz hz16 (bytesV_cells z16) ?_; intro W3 K3 O3)
  exact bodyPost_ret (v := .agg (bytesV z16).toArray) (K3.result (p := 9) (ty := 29) rfl _ rfl Tryd.underlying29 (by kernel_rfl)) rfl ⟨rfl, O3.2.2 _ _ (Nat.le_refl _) KB⟩

set_option maxHeartbeats 2000000 in
set_option maxRecDepth 100000 in
theorem bld_short (x y F n eb pb nb sb cb B : Nat) (S : Int) (lv sv : Value) (hFn : F + n ≤ 4096) (ho : y ≤ F ∨ F + n ≤ x) (w : World)
    (he : Blk w eb 4 [.bool true]) (hp : Blk w pb 50 [.int .i64 (F : Int), .int .i64 S, lv, sv]) (hn : Blk w nb 3 [.int .i64 (n : Int)]) (p : Option Addr) (c : Nat) (hs : Blk w sb 48 [.slice p 0 c])
    (hBw : B ≤ w.heap.size) (heB : eb < B) :
    Calls Tryd.prog 68 #[.int .i64 (x : Int), .int .i64 (y : Int), .pointer (some ⟨eb, 0, none⟩), .pointer (some ⟨pb, 0, none⟩), .pointer (some ⟨nb, 0, none⟩), .pointer (some ⟨sb, 0, none⟩), .pointer (some ⟨cb, 0, none⟩)] w fun en w' => en = .returned (.agg (bytesV z16).toArray) ∧ Keeps (Xs eb sb) B w w' ∧ Blk w' eb 4 [.bool false] := by
  have hz1 := zero_dig'
  have hz2 := build_zero
  have hvz : (bytesV z16).length = 16 := rfl
  have hz16 : (bytesV z16).toArray.toList.length = 16 := rfl
  have key : y ≤ F ∨ (¬ y ≤ F ∧ F + n ≤ x) := by omega
  clear ho
  go_enter Tryd.func68, Tryd.ntmps68
  rcases key with h1 | ⟨h0, h1⟩
  all_goals
    go_upto_region 1 with (fail)
    generalize hw1 : World.alloc _ _ = W0
    have K2 : Blk W0 w.heap.size 29 (bytesV z16) := hw1 ▸ (blk_new w _ _)
    have KB : Below w.heap.size w W0 := hw1 ▸ ((Below.refl _ _).alloc (Nat.le_refl _) _)
    have Ke := he.keep KB
    have c1 := Ke.cell (j := 0) rfl
    have c2 := (hp.keep KB).cell (j := 0) rfl
    have c3 := (hn.keep KB).cell (j := 0) rfl
    have c4 := (hs.keep KB).cell (j := 0) rfl
    have hne : w.heap.size ≠ eb := by omega
    have f1 := Ke.free 0
    clear hw1 hz1
    go_upto_region 5 with (fail)
    have K3 : Blk (W0.setCell ⟨eb, 0, none⟩ (.bool false)) eb 4 [.bool false] := Ke.set 0 _
    have K4 : Blk (W0.setCell ⟨eb, 0, none⟩ (.bool false)) w.heap.size 29 (bytesV z16) := K2.other hne _
    have hK : Keeps (Xs eb sb) B w (W0.setCell ⟨eb, 0, none⟩ (.bool false)) := (Keeps.below (KB.mono hBw)).setCell eb 0 _ (Or.inl rfl)
    have hsz : (W0.setCell ⟨eb, 0, none⟩ (.bool false)).heap.size = W0.heap.size := (only_sets eb 0 W0 [.bool false]).1
    generalize W0.setCell ⟨eb, 0, none⟩ (.bool false) = W1 at K3 K4 hK hsz ⊢
    clear c1 c2 c3 c4 f1 Ke K2
    have c1 := K3.cell (j := 0) rfl
    go_wp2_with (refine store_blk rfl 29 (.tmp 9) (.tmp 34) rfl K4 rfl rfl (m := 16) (by kernel_rfl) hvz hz16 (bytesV_cells z16) ?_; intro W3 K5 O3)
    exact bodyPost_ret (v := .agg (bytesV z16).toArray) (K5.result (p := 9) (ty := 29) rfl _ rfl Tryd.underlying29 (by kernel_rfl)) rfl ⟨rfl, hK.trans (Keeps.below (O3.2.2 _ _ hBw (Below.refl _ _))), O3.2.1 _ _ _ (by omega) K3⟩

/-- The sides without the first one. -/
def nxt (g off k c : Nat) : Value := .slice (if c = 1 then some ⟨g, off, none⟩ else some ⟨g, off + 16, none⟩) k (c - 1)

set_option maxHeartbeats 2000000 in
set_option maxRecDepth 100000 in
theorem bld_take (x y F n eb pb nb sb cb B k g off c : Nat) (S : Int) (lv sv : Value) (hFn : F + n ≤ 4096) (ho : y ≤ F ∨ F + n ≤ x) (d : List Nat) (hd : Dgt d) (w : World)
    (he : Blk w eb 4 [.bool true]) (hp : Blk w pb 50 [.int .i64 (F : Int), .int .i64 S, lv, sv]) (hn : Blk w nb 3 [.int .i64 (n : Int)]) (hs : Blk w sb 48 [.slice (some ⟨g, off, none⟩) (k + 1) c])
    (hc : k + 1 ≤ c) (hg : g < w.heap.size) (hge : g ≠ eb) (hr : w.rangeAt g off (bytesV d)) (hBw : B ≤ w.heap.size) (heB : eb < B) (hsB : sb < B) (hse : sb ≠ eb) :
    Calls Tryd.prog 68 #[.int .i64 (x : Int), .int .i64 (y : Int), .pointer (some ⟨eb, 0, none⟩), .pointer (some ⟨pb, 0, none⟩), .pointer (some ⟨nb, 0, none⟩), .pointer (some ⟨sb, 0, none⟩), .pointer (some ⟨cb, 0, none⟩)] w
      fun en w' => en = .returned (.agg (bytesV d).toArray) ∧ Keeps (Xs eb sb) B w w' ∧ Blk w' eb 4 [.bool true] ∧ Blk w' sb 48 [nxt g off k c] := by
  have hz1 := zero_dig'
  have hsz1 := size_dg
  have hvd : (bytesV d).length = 16 := by rw [bytesV_length]; exact hd.1
  have hz16 : (bytesV z16).toArray.toList.length = 16 := rfl
  have key : y ≤ F ∨ (¬ y ≤ F ∧ F + n ≤ x) := by omega
  clear ho
  go_enter Tryd.func68, Tryd.ntmps68
  rcases key with h1 | ⟨h0, h1⟩
  all_goals
    go_upto_region 1 with (fail)
    generalize hw1 : World.alloc _ _ = W0
    have K2 : Blk W0 w.heap.size 29 (bytesV z16) := hw1 ▸ (blk_new w _ _)
    have KB : Below w.heap.size w W0 := hw1 ▸ ((Below.refl _ _).alloc (Nat.le_refl _) _)
    have Ke := he.keep KB
    have Ks := hs.keep KB
    have c1 := Ke.cell (j := 0) rfl
    have c2 := (hp.keep KB).cell (j := 0) rfl
    have c3 := (hn.keep KB).cell (j := 0) rfl
    have c4 := Ks.cell (j := 0) rfl
    have hne : w.heap.size ≠ eb := by omega
    have hns : w.heap.size ≠ sb := by omega
    have f1 := Ke.free 0
    have hR := range_keep hr hg KB
    clear hw1
    go_upto_region 5 with (fail)
    have K3 : Blk (W0.setCell ⟨eb, 0, none⟩ (.bool true)) eb 4 [.bool true] := Ke.set 0 _
    have K4 : Blk (W0.setCell ⟨eb, 0, none⟩ (.bool true)) w.heap.size 29 (bytesV z16) := K2.other hne _
    have K5 : Blk (W0.setCell ⟨eb, 0, none⟩ (.bool true)) sb 48 [.slice (some ⟨g, off, none⟩) (k + 1) c] := Ks.other hse _
    have hK : Keeps (Xs eb sb) B w (W0.setCell ⟨eb, 0, none⟩ (.bool true)) := (Keeps.below (KB.mono hBw)).setCell eb 0 _ (Or.inl rfl)
    have hR1 : (W0.setCell ⟨eb, 0, none⟩ (.bool true)).rangeAt g off (bytesV d) := fun j v hj => (World.cell?_of_block (w := W0) (heap_setCell_other W0 ⟨eb, 0, none⟩ g (.bool true) hge)).trans (hR j v hj)
    generalize W0.setCell ⟨eb, 0, none⟩ (.bool true) = W1 at K3 K4 K5 hK hR1 ⊢
    have hlt3 := K3.lt
    have hlt4 := K4.lt
    have hlt5 := K5.lt
    clear c1 c2 c3 c4 f1 Ke Ks K2 hR KB
    have c1 := K3.cell (j := 0) rfl
    have c4 := K5.cell (j := 0) rfl
    go_upto_region 8 with (first
      | (refine wpList_load_mid rfl 29 (.tmp 36) rfl g off rfl (bytesV d) _ hR1 Tryd.underlying29 rfl (by rw [hvd]; kernel_rfl) ?_)
      | (refine store_blk rfl 29 (.tmp 10) (.tmp 37) rfl (blk_new W1 29 (bytesV z16).toArray) rfl rfl (m := 16) (by kernel_rfl) hvd hz16 (bytesV_cells d) ?_; intro W2 K10 O2))
    have L3 := O2.2.1 _ _ _ (by omega) (K3.alloc (.cells (bytesV z16).toArray 29))
    have L4 := O2.2.1 _ _ _ (by have := K4.lt; omega) (K4.alloc (.cells (bytesV z16).toArray 29))
    have L5 := O2.2.1 _ _ _ (by omega) (K5.alloc (.cells (bytesV z16).toArray 29))
    have hK2 : Keeps (Xs eb sb) B w W2 := hK.trans (Keeps.below (O2.2.2 _ _ (by omega) ((Below.refl _ W1).alloc (by omega) _)))
    have hn10 : W1.heap.size ≠ w.heap.size := by have := K4.lt; omega
    have hn11 : W1.heap.size ≠ sb := by omega
    have hn12 : W1.heap.size ≠ eb := by omega
    clear K3 K4 K5 hK hR1 O2 c1 c4
    generalize W1.heap.size = tb at K10 hn10 hn11 hn12 ⊢
    have c4 := L5.cell (j := 0) rfl
    have f4 := L5.free 0
    go_upto_region 9 with (fail)
    generalize hV : (Value.slice _ k _) = V
    have HV := Lib.hid (show nxt g off k c = V from hV)
    clear hV
    have K5 : Blk (W2.setCell ⟨sb, 0, none⟩ V) sb 48 [V] := L5.set 0 _
    have K3 : Blk (W2.setCell ⟨sb, 0, none⟩ V) eb 4 [.bool true] := L3.other (a := ⟨sb, 0, none⟩) (Ne.symm hse) _
    have K4 : Blk (W2.setCell ⟨sb, 0, none⟩ V) w.heap.size 29 (bytesV z16) := L4.other (a := ⟨sb, 0, none⟩) hns _
    have K11 : Blk (W2.setCell ⟨sb, 0, none⟩ V) tb 29 (bytesV d) := K10.other (a := ⟨sb, 0, none⟩) hn11 _
    have hK : Keeps (Xs eb sb) B w (W2.setCell ⟨sb, 0, none⟩ V) := hK2.setCell sb 0 _ (Or.inr rfl)
    generalize W2.setCell ⟨sb, 0, none⟩ V = W3 at K5 K3 K4 K11 hK ⊢
    clear L3 L4 L5 K10 hK2 c4 f4
    go_wp2_with (first
      | (refine load_blk rfl 29 (.tmp 10) rfl K11 rfl Tryd.underlying29 (m := 16) (by kernel_rfl) hvd ?_)
      | (refine store_blk rfl 29 (.tmp 9) (.tmp 40) rfl K4 rfl rfl (m := 16) (by kernel_rfl) hvd hz16 (bytesV_cells d) ?_; intro W4 K6 O4))
    exact bodyPost_ret (v := .agg (bytesV d).toArray) (K6.result (p := 9) (ty := 29) rfl _ rfl Tryd.underlying29 (by rw [hvd]; kernel_rfl)) rfl ⟨rfl, hK.trans (Keeps.below (O4.2.2 _ _ hBw (Below.refl _ _))), O4.2.1 _ _ _ (by omega) K3, by rw [HV.out]; exact O4.2.1 _ _ _ (by omega) K5⟩

end Go.Proofs.YtfhfmdnimebegaaDoor

/-
  under's function: a leaf of the proof, a row that is divided; the whole.
-/
namespace Go.Proofs.YtfhfmdnimebegaaDoor
open Go.RowKit
set_option linter.unusedVariables false
set_option linter.unusedSimpArgs false

theorem rng_at {w : World} {b : Nat} {t : TypeId} {cs : List Value} (h : Blk w b t cs) : w.rangeAt b 0 cs := by
  have := h.range 0 cs.length
  rwa [List.drop_zero, List.take_length] at this
theorem Keeps.mono {X : Nat → Prop} {B B' : Nat} {w w' : World} (h : Keeps X B w w') (hB : B' ≤ B) : Keeps X B' w w' := ⟨h.size, fun j hj hx => h.heap j (Nat.lt_of_lt_of_le hj hB) hx, h.rest⟩
theorem SdV.keepW {w w' : World} {M : Nat} {v : Value} {sd : List (List Nat)} (h : SdV w M v sd) (hb : Below w.heap.size w w') : SdV w' M v sd := by
  obtain ⟨p, c, e, hc, hr⟩ := h
  refine ⟨p, c, e, hc, fun hn => ?_⟩
  obtain ⟨g, off, e2, hg, hg2, hr2⟩ := hr hn
  exact ⟨g, off, e2, hg, Nat.lt_of_lt_of_le hg2 hb.size, range_keep hr2 hg2 hb⟩
theorem Left.keep {w w' : World} {M eb sb : Nat} : ∀ {o : Option (List (List Nat))}, Left w M eb sb o → Below w.heap.size w w' → Left w' M eb sb o
  | none, h, hb => Blk.keep h hb
  | some sd, ⟨h1, v, h2, h3⟩, hb => ⟨h1.keep hb, v, h2.keep hb, h3.keepW hb⟩
/-- What under's function captures and does not write: the proof, the number of its leaves, itself. -/
def BE (w : World) (eb pb nb sb cb : Nat) (F : Nat) (S : Int) (lv sv : Value) (n : Nat) : Prop :=
  Blk w pb 50 [.int .i64 (F : Int), .int .i64 S, lv, sv] ∧ Blk w nb 3 [.int .i64 (n : Int)] ∧ Blk w cb 113 [.func (.func 68) #[] #[.pointer (some ⟨eb, 0, none⟩), .pointer (some ⟨pb, 0, none⟩), .pointer (some ⟨nb, 0, none⟩), .pointer (some ⟨sb, 0, none⟩), .pointer (some ⟨cb, 0, none⟩)]]
/-- What under's function does at the row from x to y - 1. -/
def BuildAt (lf : List Lf) (F : Nat) (wI : World) (B M eb pb nb sb cb : Nat) (x y : Nat) : Prop := ∀ (w : World) (o : Option (List (List Nat))), (∀ sd, o = some sd → Dgts sd) → Keeps (Xs eb sb) B wI w → Left w M eb sb o →
    Calls Tryd.prog 68 #[.int .i64 (x : Int), .int .i64 (y : Int), .pointer (some ⟨eb, 0, none⟩), .pointer (some ⟨pb, 0, none⟩), .pointer (some ⟨nb, 0, none⟩), .pointer (some ⟨sb, 0, none⟩), .pointer (some ⟨cb, 0, none⟩)] w
      fun en w' => en = .returned (.agg (bytesV (bldM lf F x y o).1).toArray) ∧ Keeps (Xs eb sb) w.heap.size w w' ∧ Left w' M eb sb (bldM lf F x y o).2

set_option maxHeartbeats 2000000 in
set_option maxRecDepth 100000 in
theorem bld_row (x y F n eb pb nb sb cb q off c i j : Nat) (S : Int) (sv : Value) (lf : List Lf) (hl : lf.length = n) (hc : n ≤ c) (hSm : Small lf) (hFn : F + n ≤ 4096) (hxy : x + 1 = y) (hx : F + i = x) (hj : i + 1 = j) (hi : i < n) (w : World) (hG : Glob w)
    (hL : Lvs w q off lf) (he : Blk w eb 4 [.bool true]) (hp : Blk w pb 50 [.int .i64 (F : Int), .int .i64 S, .slice (some ⟨q, off, none⟩) n c, sv]) (hn : Blk w nb 3 [.int .i64 (n : Int)]) :
    Calls Tryd.prog 68 #[.int .i64 (x : Int), .int .i64 (y : Int), .pointer (some ⟨eb, 0, none⟩), .pointer (some ⟨pb, 0, none⟩), .pointer (some ⟨nb, 0, none⟩), .pointer (some ⟨sb, 0, none⟩), .pointer (some ⟨cb, 0, none⟩)] w fun en w' => en = .returned (.agg (bytesV (rowM ((lf.drop i).take 1))).toArray) ∧ Below w.heap.size w w' := by
  have hz1 := zero_dig'
  have hz16 : (bytesV z16).toArray.toList.length = 16 := rfl
  have hl1 : ((lf.drop i).take 1).length = 1 := by rw [List.length_take, List.length_drop]; omega
  have HR0 := (fun (V : World) (hB : Below w.heap.size w V) => mrow_any 1 (Nat.le_refl _) (by omega) ((lf.drop i).take 1) q (off + 2 * i) (c - i) V hl1 (by omega) (hG.keep hB) (((hL.keep hB).drop i).take 1) ((hSm.drop i).take 1))
  rw [show off + 2 * i = off + i * 2 by omega] at HR0
  have hd : Dgt (rowM ((lf.drop i).take 1)) := rowM_dgt _ _ (Nat.le_refl _) (by omega)
  generalize rowM ((lf.drop i).take 1) = d at HR0 hd ⊢
  have HR := Lib.hid (fun (V : World) (hB : Below w.heap.size w V) => (show Calls Tryd.prog 42 #[.slice (some ⟨q, off + i * 2, none⟩) (j - i) (c - i)] V fun en w' => en = .returned (.agg (bytesV d).toArray) ∧ Below V.heap.size V w' from by rw [show j - i = 1 by omega]; exact HR0 V hB))
  clear HR0
  have hvd : (bytesV d).length = 16 := by rw [bytesV_length]; exact hd.1
  have h1 : ¬ y ≤ F := by omega
  have h2 : ¬ F + n ≤ x := by omega
  have w1 : IntKind.i64.wrap ((x : Int) - (F : Int)) = (i : Int) := by
    rw [show ((x : Int) - (F : Int)) = (i : Int) by omega]
    simp [IntKind.wrap, IntKind.signed, IntKind.bits]
    omega
  have w2 : IntKind.i64.wrap ((y : Int) - (F : Int)) = (j : Int) := by
    rw [show ((y : Int) - (F : Int)) = (j : Int) by omega]
    simp [IntKind.wrap, IntKind.signed, IntKind.bits]
    omega
  have w3 : wrap64 ((y : Int) - (x : Int)) = 1 := by unfold wrap64; omega
  have w4 : wrap64 ((x : Int) - (F : Int)) = (i : Int) := by unfold wrap64; omega
  have w5 : wrap64 ((y : Int) - (F : Int)) = (j : Int) := by unfold wrap64; omega
  have hci : ¬ c = i := by omega
  have hij : i ≤ j := by omega
  have hjc : j ≤ c := by omega
  clear hl hG hL hSm hl1 hxy hx hj hc hi
  go_enter Tryd.func68, Tryd.ntmps68
  go_upto_region 1 with (fail)
  generalize hw1 : World.alloc _ _ = W0
  have K2 : Blk W0 w.heap.size 29 (bytesV z16) := hw1 ▸ (blk_new w _ _)
  have KB : Below w.heap.size w W0 := hw1 ▸ ((Below.refl _ _).alloc (Nat.le_refl _) _)
  have c1 := (he.keep KB).cell (j := 0) rfl
  have c2 := (hp.keep KB).cell (j := 0) rfl
  have c3 := (hp.keep KB).cell (j := 2) rfl
  have c4 := (hn.keep KB).cell (j := 0) rfl
  clear hw1 hz1
  go_wp2_with (first
    | (go_at_call 42; refine (HR.out _ KB).mono ?_; rintro en W1 ⟨rfl, hB1⟩)
    | (refine store_blk rfl 29 (.tmp 9) (.tmp 57) rfl (K2.keep hB1) rfl rfl (m := 16) (by kernel_rfl) hvd hz16 (bytesV_cells d) ?_; intro W3 K3 O3))
  exact bodyPost_ret (v := .agg (bytesV d).toArray) (K3.result (p := 9) (ty := 29) rfl _ rfl Tryd.underlying29 (by rw [hvd]; kernel_rfl)) rfl ⟨rfl, O3.2.2 _ _ (Nat.le_refl _) (link KB hB1)⟩

theorem Left.drew {w : World} {M eb sb : Nat} : ∀ {o : Option (List (List Nat))}, Left w M eb sb o → Left w.drew M eb sb o
  | none, h => h
  | some sd, ⟨h1, v, h2, h3⟩ => ⟨h1, v, h2, h3⟩
theorem Left.only {w w' : World} {M eb sb b : Nat} : ∀ {o : Option (List (List Nat))}, Left w M eb sb o → Only b w w' → eb ≠ b → sb ≠ b → M ≤ b → Left w' M eb sb o
  | none, h, O, h1, _, _ => O.2.1 _ _ _ h1 h
  | some sd, ⟨h1, v, h2, h3⟩, O, g1, g2, g3 => ⟨O.2.1 _ _ _ g1 h1, v, O.2.1 _ _ _ g2 h2, h3.keep (O.2.2 _ _ g3 (Below.refl _ _))⟩
theorem zero_cells (w : World) (t : TypeId) : Blk (w.alloc (.cells (bytesV z16).toArray t)) w.heap.size t (bytesV z16) := blk_new w t _

set_option maxHeartbeats 4000000 in
set_option maxRecDepth 100000 in
theorem bld_two (lf : List Lf) (F : Nat) (wI : World) (B M eb pb nb sb cb n : Nat) (S : Int) (lv sv : Value) (hE : BE wI eb pb nb sb cb F S lv sv n) (hpb : pb < B ∧ pb ≠ eb ∧ pb ≠ sb) (hnb : nb < B ∧ nb ≠ eb ∧ nb ≠ sb) (hcb : cb < B ∧ cb ≠ eb ∧ cb ≠ sb)
    (heb : eb < B) (hsb : sb < B) (hM : M ≤ B) (hBI : B ≤ wI.heap.size) (hG : ∀ w, Keeps (Xs eb sb) B wI w → Glob w) (hl : lf.length = n) (hFn : F + n ≤ 4096)
    (x y : Nat) (hxy : x + 1 < y) (hy : y ≤ 4096) (ho : ¬ (y ≤ F ∨ F + n ≤ x))
    (H1 : BuildAt lf F wI B M eb pb nb sb cb x (x + half (y - x))) (H2 : BuildAt lf F wI B M eb pb nb sb cb (x + half (y - x)) y)
    (w : World) (sd : List (List Nat)) (hd : Dgts sd) (hK : Keeps (Xs eb sb) B wI w) (hL : Left w M eb sb (some sd)) :
    Calls Tryd.prog 68 #[.int .i64 (x : Int), .int .i64 (y : Int), .pointer (some ⟨eb, 0, none⟩), .pointer (some ⟨pb, 0, none⟩), .pointer (some ⟨nb, 0, none⟩), .pointer (some ⟨sb, 0, none⟩), .pointer (some ⟨cb, 0, none⟩)] w
      fun en w' => en = .returned (.agg (bytesV (bldM lf F x y (some sd)).1).toArray) ∧ Keeps (Xs eb sb) w.heap.size w w' ∧ Left w' M eb sb (bldM lf F x y (some sd)).2 := by
  rw [bld_split lf F x y sd hxy (by rw [hl]; exact ho)]
  have hlt := half_lt (y - x) (by omega)
  have hpo := half_pos (y - x)
  have HM0 := fun w0 => middle_any (x : Int) (y : Int) (y - x) (by omega) (by omega) (by omega) (by omega) w0
  rw [show ((x : Int) + (half (y - x) : Nat)) = ((x + half (y - x) : Nat) : Int) by omega] at HM0
  have HM := Lib.hid HM0
  clear HM0
  have hz1' : x < x + half (y - x) := by omega
  have hz2' : x + half (y - x) < y := by omega
  generalize x + half (y - x) = z at H1 H2 HM hz1' hz2' ⊢
  have hd1 := bld_dgt lf F x z (some sd) hz1' (fun sd' h => by injection h with h; exact h ▸ hd)
  have hd2 := bld_dgt lf F z y _ hz2' hd1.2
  have A1 := H1
  have A2 := H2
  unfold BuildAt at A1 A2
  have A1' := fun w0 => A1 w0 (some sd) (fun sd' h => by injection h with h; exact h ▸ hd)
  have A2' := fun w0 => A2 w0 (bldM lf F x z (some sd)).2 hd1.2
  obtain ⟨⟨D1, o1⟩, hr1⟩ : ∃ r, bldM lf F x z (some sd) = r := ⟨_, rfl⟩
  rw [hr1] at A1' A2' hd1 hd2 ⊢
  obtain ⟨⟨D2, o2⟩, hr2⟩ : ∃ r, bldM lf F z y (D1, o1).2 = r := ⟨_, rfl⟩
  rw [hr2] at A2' hd2 ⊢
  dsimp only at A1' A2' hd1 hd2 ⊢
  have hD1 := hd1.1
  have hD2 := hd2.1
  have HA := Lib.hid A1'
  have HC := Lib.hid A2'
  have HJ := Lib.hid (fun (w0 : World) (g : Keeps (Xs eb sb) B wI w0) => mjoin_any D1 D2 hD1 hD2 w0 (hG w0 g))
  have hDJ : Dgt (joinM D1 D2) := dig_ofS _ _
  generalize joinM D1 D2 = DJ at HJ hDJ ⊢
  have hv1 : (bytesV D1).length = 16 := by rw [bytesV_length]; exact hD1.1
  have hvJ : (bytesV DJ).length = 16 := by rw [bytesV_length]; exact hDJ.1
  have hvz : (bytesV z16).length = 16 := rfl
  have hsD : (Tryd.prog.info? 29).map (·.size) = some (bytesV D1).length := by rw [hv1]; kernel_rfl
  have hz1 := zero_dig'
  have hz16 : (bytesV z16).toArray.toList.length = 16 := rfl
  have HI := Lib.hid (fun (w0 : World) (g : Keeps (Xs eb sb) B wI w0) => (show Blk w0 cb 113 [.func (.func 68) #[] #[.pointer (some ⟨eb, 0, none⟩), .pointer (some ⟨pb, 0, none⟩), .pointer (some ⟨nb, 0, none⟩), .pointer (some ⟨sb, 0, none⟩), .pointer (some ⟨cb, 0, none⟩)]] from g.blk hE.2.2 hcb.1 (fun h => h.elim hcb.2.1 hcb.2.2)))
  have hBw : B ≤ w.heap.size := Nat.le_trans hBI hK.size
  have k1 := (hK.blk hE.1 hpb.1 (fun h => h.elim hpb.2.1 hpb.2.2))
  have k2 := (hK.blk hE.2.1 hnb.1 (fun h => h.elim hnb.2.1 hnb.2.2))
  have h1 : ¬ y ≤ F := by omega
  have h2 : ¬ F + n ≤ x := by omega
  have hk1 : ¬ ((y : Int) - (x : Int) = 1) := by omega
  have hk2 : ((y : Int) - (x : Int) == 1) = false := by simpa using hk1
  clear hE hpb hnb H1 H2 A1 A2 A1' A2' hd1 hd2 hr1 hr2 hd hlt hpo hl hG ho hxy hz1' hz2'
  go_enter Tryd.func68, Tryd.ntmps68
  go_upto_region 1 with (fail)
  generalize hw1 : World.alloc _ _ = W0
  have Kr : Blk W0 w.heap.size 29 (bytesV z16) := hw1 ▸ (blk_new w _ _)
  have KB : Below w.heap.size w W0 := hw1 ▸ ((Below.refl _ _).alloc (Nat.le_refl _) _)
  have hL0 := hL.keep KB
  have hI0 : Keeps (Xs eb sb) B wI W0 := hK.trans (Keeps.below (KB.mono hBw))
  have hW0 : Keeps (Xs eb sb) w.heap.size w W0 := Keeps.below KB
  have c1 := (hL0.1).cell (j := 0) rfl
  have c2 := (k1.keep KB).cell (j := 0) rfl
  have c4 := (k2.keep KB).cell (j := 0) rfl
  clear hw1 k1 k2 hL KB hK
  obtain ⟨rb, hrb⟩ : ∃ rb, w.heap.size = rb := ⟨_, rfl⟩
  rw [hrb] at Kr hBw hW0 ⊢
  go_upto_region 12 with (fail)
  clear c1 c2 c4 h1 h2 hk1 hk2
  have hHeld : True := trivial
  refine wp_region_held_drew (S := fun w' => Blk w' cb 113 [.func (.func 68) #[] #[.pointer (some ⟨eb, 0, none⟩), .pointer (some ⟨pb, 0, none⟩), .pointer (some ⟨nb, 0, none⟩), .pointer (some ⟨sb, 0, none⟩), .pointer (some ⟨cb, 0, none⟩)]]) (by kernel_rfl) (HI.out _ hI0.drew) (fun _ => ?_)
  have hHeld : Blk W0.drew cb 113 [.func (.func 68) #[] #[.pointer (some ⟨eb, 0, none⟩), .pointer (some ⟨pb, 0, none⟩), .pointer (some ⟨nb, 0, none⟩), .pointer (some ⟨sb, 0, none⟩), .pointer (some ⟨cb, 0, none⟩)]] := HI.out _ hI0.drew
  replace Kr := Kr.drew
  replace hL0 := hL0.drew
  replace hI0 := hI0.drew
  replace hW0 := hW0.drew
  generalize W0.drew = V0 at Kr hL0 hI0 hW0 hHeld ⊢
  refine wt (i := 0) (oi := ⟨some 58, .load 113 (.tmp 6), 113, "merkle.go:130", #[], none⟩) (v := .func (.func 68) #[] #[.pointer (some ⟨eb, 0, none⟩), .pointer (some ⟨pb, 0, none⟩), .pointer (some ⟨nb, 0, none⟩), .pointer (some ⟨sb, 0, none⟩), .pointer (some ⟨cb, 0, none⟩)]) (Or.inl ⟨by rfl, fun w' hSw => by have hc := Blk.cell (j := 0) hSw rfl; go_simp⟩) hHeld ?_
  try simp only [zP, zQ, zS, zZ, zC]
  refine wt (i := 1) (oi := ⟨some 59, .move (.tmp 0), 3, "merkle.go:130", #[], none⟩) (v := .int .i64 (x : Int)) (Or.inl ⟨by rfl, fun w' hSw => by go_simp⟩) hHeld ?_
  try simp only [zP, zQ, zS, zZ, zC]
  refine wt (i := 2) (oi := ⟨some 60, .move (.tmp 0), 3, "merkle.go:130", #[], none⟩) (v := .int .i64 (x : Int)) (Or.inl ⟨by rfl, fun w' hSw => by go_simp⟩) hHeld ?_
  try simp only [zP, zQ, zS, zZ, zC]
  refine wt (i := 3) (oi := ⟨some 61, .move (.tmp 1), 3, "merkle.go:130", #[], none⟩) (v := .int .i64 (y : Int)) (Or.inl ⟨by rfl, fun w' hSw => by go_simp⟩) hHeld ?_
  try simp only [zP, zQ, zS, zZ, zC]
  refine wpAnyH_ready (rs := [4, 6]) (by kernel_rfl) (by simp) ?_
  refine AllReadyH.cons (o := ⟨some 62, .call { callee := .value (.func 58), args := #[.tmp 60, .tmp 61], argTypes := #[3, 3] }, 3, "merkle.go:130", #[⟨2, .data⟩, ⟨3, .data⟩], none⟩) rfl (fun K hK => ?_) (AllReadyH.cons (o := ⟨some 11, .alloc 29, 0, "merkle.go:130", #[], none⟩) rfl (fun K hK => ?_) AllReadyH.nil)
  · rw [if_pos (by rfl)]
    go_simp
    refine (HM.out V0).mono ?_
    rintro en w1 ⟨rfl, hw1⟩
    rw [hw1]
    clear hw1 w1
    dsimp only
    refine hK.out _ _ hHeld (fun hHeld => ?_)
    clear hK K
    try simp only [zP, zQ, zS, zZ, zC]
    refine wpAnyH_ready (rs := [5, 6]) (by kernel_rfl) (by simp) ?_
    refine AllReadyH.cons (o := ⟨some 63, .call { callee := .value (.tmp 58), args := #[.tmp 59, .tmp 62], argTypes := #[3, 3] }, 29, "merkle.go:130", #[⟨0, .data⟩, ⟨1, .data⟩, ⟨4, .data⟩, ⟨4, .chain⟩], none⟩) rfl (fun K hK => ?_) (AllReadyH.cons (o := ⟨some 11, .alloc 29, 0, "merkle.go:130", #[], none⟩) rfl (fun K hK => ?_) AllReadyH.nil)
    · rw [if_pos (by rfl)]
      go_simp
      have hRV := Kr.lt
      refine (HA.out V0 hI0 hL0).mono ?_
      rintro en V1 ⟨rfl, hC, hL9⟩
      dsimp only
      have hBV9 : B ≤ V0.heap.size := Nat.le_trans hBI hI0.size
      have Kr9 := hC.blk Kr hRV (fun h => h.elim (by omega) (by omega))
      have hI9 := hI0.trans (hC.mono hBV9)
      have hW9 := hW0.trans (hC.mono (Nat.le_of_lt hRV))
      refine hK.out _ _ (HI.out _ hI9) (fun hHeld => ?_)
      clear hK K
      try simp only [zP, zQ, zS, zZ, zC]
      clear Kr hL0 hI0 hW0 hC
      have Kr := Kr9
      have hL0 := hL9
      have hI0 := hI9
      have hW0 := hW9
      clear Kr9 hL9 hI9 hW9
      refine wpAnyH_ready (rs := [6]) (by kernel_rfl) (by simp) ?_
      refine AllReadyH.cons (o := ⟨some 11, .alloc 29, 0, "merkle.go:130", #[], none⟩) rfl (fun K hK => ?_) AllReadyH.nil
      rw [if_pos (by rfl)]
      go_simp
      have hBV : B ≤ V1.heap.size := Nat.le_trans hBI hI0.size
      have hWV : rb ≤ V1.heap.size := hrb ▸ hW0.size
      have XA : Below V1.heap.size V1 (V1.alloc (.cells (bytesV z16).toArray 29)) := (Below.refl _ _).alloc (Nat.le_refl _) _
      have Kt := zero_cells V1 29
      have hrt := Kr.lt
      have Kr1 := Kr.keep XA
      have hL1 := hL0.keep XA
      have hI1 := hI0.trans (Keeps.below (X := Xs eb sb) (XA.mono hBV))
      have hW1 := hW0.trans (Keeps.below (X := Xs eb sb) (XA.mono hWV))
      refine hK.out _ _ (HI.out _ hI1) (fun hHeld => ?_)
      clear hK K
      try simp only [zP, zQ, zS, zZ, zC]
      obtain ⟨tb, htb⟩ : ∃ tb, V1.heap.size = tb := ⟨_, rfl⟩
      rw [htb] at Kt hBV hWV hrt XA ⊢
      clear XA Kr hL0 hI0 hW0 htb
      generalize World.alloc V1 _ = V9 at Kt Kr1 hL1 hI1 hW1 hHeld ⊢
      have Kr9 := Kr1
      have hL9 := hL1
      have hI9 := hI1
      have hW9 := hW1
      have Kt9 := Kt
      clear Kt Kr1 hL1 hI1 hW1
      have htl := Kt9.lt
      have hst := Kt9.storeRun (vs := bytesV D1) (by rw [hv1, hvz]) (bytesV_cells D1)
      refine wpAnyH_ready (rs := [7]) (by kernel_rfl) (by simp) ?_
      refine AllReadyH.cons (o := ⟨none, .store 29 (.tmp 11) (.tmp 63), 0, "merkle.go:130", #[⟨6, .data⟩, ⟨5, .data⟩, ⟨5, .chain⟩, ⟨0, .phase⟩, ⟨1, .phase⟩, ⟨2, .phase⟩, ⟨3, .phase⟩, ⟨4, .phase⟩, ⟨5, .phase⟩, ⟨6, .phase⟩], none⟩) rfl (fun K hK => ?_) AllReadyH.nil
      rw [if_pos (by rfl)]
      go_simp
      have O := only_sets tb 0 V9 (bytesV D1)
      have Kt : Blk (V9.setCells tb 0 (bytesV D1)) tb 29 (bytesV D1) := Kt9.all (by rw [hv1, hvz])
      have Kr := O.2.1 _ _ _ (by omega) Kr9
      have hL0 := hL9.only O (by omega) (by omega) (by omega)
      have hI0 := hI9.trans (Keeps.below (X := Xs eb sb) (O.2.2 _ _ hBV (Below.refl _ _)))
      have hW0 := hW9.trans (Keeps.below (X := Xs eb sb) (O.2.2 _ _ hWV (Below.refl _ _)))
      clear hst Kt9 Kr9 hL9 hI9 hW9 O
      generalize V9.setCells tb 0 (bytesV D1) = V10 at Kt Kr hL0 hI0 hW0 ⊢
      refine hK.out _ _ (HI.out _ hI0) (fun hHeld => ?_)
      clear hK K
      try simp only [zP, zQ, zS, zZ, zC]
      refine wpAnyH_done (by kernel_rfl) ?_ _
      go_upto_region 13 with (fail)
      clear hHeld
      refine wp_region_held_drew (S := fun w' => Blk w' cb 113 [.func (.func 68) #[] #[.pointer (some ⟨eb, 0, none⟩), .pointer (some ⟨pb, 0, none⟩), .pointer (some ⟨nb, 0, none⟩), .pointer (some ⟨sb, 0, none⟩), .pointer (some ⟨cb, 0, none⟩)]] ∧ Blk w' tb 29 (bytesV D1)) (by kernel_rfl) ⟨HI.out _ hI0.drew, Kt.drew⟩ (fun _ => ?_)
      have hHeld : Blk V10.drew cb 113 [.func (.func 68) #[] #[.pointer (some ⟨eb, 0, none⟩), .pointer (some ⟨pb, 0, none⟩), .pointer (some ⟨nb, 0, none⟩), .pointer (some ⟨sb, 0, none⟩), .pointer (some ⟨cb, 0, none⟩)]] ∧ Blk V10.drew tb 29 (bytesV D1) := ⟨HI.out _ hI0.drew, Kt.drew⟩
      replace Kt := Kt.drew
      replace Kr := Kr.drew
      replace hL0 := hL0.drew
      replace hI0 := hI0.drew
      replace hW0 := hW0.drew
      generalize V10.drew = V11 at Kt Kr hL0 hI0 hW0 hHeld ⊢
      refine wt (i := 0) (oi := ⟨some 64, .load 29 (.tmp 11), 29, "merkle.go:131", #[], none⟩) (v := _) (yieldsIf_load_mid (by rfl) _ _ rfl _ 0 rfl _ _ (fun w' hSw => rng_at hSw.2) Tryd.underlying29 rfl hsD) hHeld ?_
      try simp only [zP, zQ, zS, zZ, zC]
      refine wt (i := 1) (oi := ⟨some 65, .load 113 (.tmp 6), 113, "merkle.go:131", #[], none⟩) (v := .func (.func 68) #[] #[.pointer (some ⟨eb, 0, none⟩), .pointer (some ⟨pb, 0, none⟩), .pointer (some ⟨nb, 0, none⟩), .pointer (some ⟨sb, 0, none⟩), .pointer (some ⟨cb, 0, none⟩)]) (Or.inl ⟨by rfl, fun w' hSw => by have hc := Blk.cell (j := 0) hSw.1 rfl; go_simp⟩) hHeld ?_
      try simp only [zP, zQ, zS, zZ, zC]
      refine wt (i := 2) (oi := ⟨some 66, .move (.tmp 0), 3, "merkle.go:131", #[], none⟩) (v := .int .i64 (x : Int)) (Or.inl ⟨by rfl, fun w' hSw => by go_simp⟩) hHeld ?_
      try simp only [zP, zQ, zS, zZ, zC]
      refine wt (i := 3) (oi := ⟨some 67, .move (.tmp 1), 3, "merkle.go:131", #[], none⟩) (v := .int .i64 (y : Int)) (Or.inl ⟨by rfl, fun w' hSw => by go_simp⟩) hHeld ?_
      try simp only [zP, zQ, zS, zZ, zC]
      refine wt (i := 5) (oi := ⟨some 69, .move (.tmp 1), 3, "merkle.go:131", #[], none⟩) (v := .int .i64 (y : Int)) (Or.inl ⟨by rfl, fun w' hSw => by go_simp⟩) hHeld ?_
      try simp only [zP, zQ, zS, zZ, zC]
      refine wpAnyH_ready (rs := [4]) (by kernel_rfl) (by simp) ?_
      refine AllReadyH.cons (o := ⟨some 68, .call { callee := .value (.func 58), args := #[.tmp 66, .tmp 67], argTypes := #[3, 3] }, 3, "merkle.go:131", #[⟨2, .data⟩, ⟨3, .data⟩], none⟩) rfl (fun K hK => ?_) AllReadyH.nil
      rw [if_pos (by rfl)]
      go_simp
      refine (HM.out V11).mono ?_
      rintro en w1 ⟨rfl, hw1⟩
      rw [hw1]
      clear hw1 w1
      dsimp only
      refine hK.out _ _ hHeld (fun hHeld => ?_)
      clear hK K
      try simp only [zP, zQ, zS, zZ, zC]
      refine wpAnyH_ready (rs := [6]) (by kernel_rfl) (by simp) ?_
      refine AllReadyH.cons (o := ⟨some 70, .call { callee := .value (.tmp 65), args := #[.tmp 68, .tmp 69], argTypes := #[3, 3] }, 29, "merkle.go:131", #[⟨1, .data⟩, ⟨4, .data⟩, ⟨5, .data⟩, ⟨4, .chain⟩], none⟩) rfl (fun K hK => ?_) AllReadyH.nil
      rw [if_pos (by rfl)]
      go_simp
      have hRV := Kr.lt
      have hTV := Kt.lt
      refine (HC.out V11 hI0 hL0).mono ?_
      rintro en V12 ⟨rfl, hC, hL9⟩
      dsimp only
      have Kr9 := hC.blk Kr hRV (fun h => h.elim (by omega) (by omega))
      have Kt9 := hC.blk Kt hTV (fun h => h.elim (by omega) (by omega))
      have hI9 := hI0.trans (hC.mono (by omega))
      have hW9 := hW0.trans (hC.mono (by omega))
      clear Kr Kt hL0 hI0 hW0 hC
      refine hK.out _ _ ⟨HI.out _ hI9, Kt9⟩ (fun hHeld => ?_)
      clear hK K
      try simp only [zP, zQ, zS, zZ, zC]
      refine wpAnyH_ready (rs := [7]) (by kernel_rfl) (by simp) ?_
      refine AllReadyH.cons (o := ⟨some 71, .call { callee := .value (.func 59), args := #[.tmp 64, .tmp 70], argTypes := #[29, 29] }, 29, "merkle.go:131", #[⟨0, .data⟩, ⟨6, .data⟩, ⟨6, .chain⟩], none⟩) rfl (fun K hK => ?_) AllReadyH.nil
      rw [if_pos (by rfl)]
      go_simp
      refine (HJ.out V12 hI9).mono ?_
      rintro en V13 ⟨rfl, hBJ⟩
      dsimp only
      have hB12 : B ≤ V12.heap.size := Nat.le_trans hBI hI9.size
      have hR12 := Kr9.lt
      have Kr := Kr9.keep hBJ
      have Kt := Kt9.keep hBJ
      have hL0 := hL9.keep hBJ
      have hI0 := hI9.trans (Keeps.below (X := Xs eb sb) (hBJ.mono hB12))
      have hW0 := hW9.trans (Keeps.below (X := Xs eb sb) (hBJ.mono (Nat.le_of_lt hR12)))
      clear Kr9 Kt9 hL9 hI9 hW9 hBJ
      refine hK.out _ _ ⟨HI.out _ hI0, Kt⟩ (fun hHeld => ?_)
      clear hK K
      try simp only [zP, zQ, zS, zZ, zC]
      have hst := Kr.storeRun (vs := bytesV DJ) (by rw [hvJ, hvz]) (bytesV_cells DJ)
      refine wpAnyH_ready (rs := [8]) (by kernel_rfl) (by simp) ?_
      refine AllReadyH.cons (o := ⟨none, .store 29 (.tmp 9) (.tmp 71), 0, "merkle.go:131", #[⟨7, .data⟩, ⟨7, .chain⟩, ⟨0, .phase⟩, ⟨1, .phase⟩, ⟨2, .phase⟩, ⟨3, .phase⟩, ⟨4, .phase⟩, ⟨5, .phase⟩, ⟨6, .phase⟩, ⟨7, .phase⟩], none⟩) rfl (fun K hK => ?_) AllReadyH.nil
      rw [if_pos (by rfl)]
      go_simp
      have O := only_sets rb 0 V13 (bytesV DJ)
      have K6 : Blk (V13.setCells rb 0 (bytesV DJ)) rb 29 (bytesV DJ) := Kr.all (by rw [hvJ, hvz])
      have Kt6 := O.2.1 _ _ _ (by omega) Kt
      have hL6 := hL0.only O (by omega) (by omega) (by omega)
      have hI6 := hI0.trans (Keeps.below (X := Xs eb sb) (O.2.2 _ _ hBw (Below.refl _ _)))
      have hW6 := hW0.trans (Keeps.below (X := Xs eb sb) (O.2.2 _ _ (Nat.le_refl _) (Below.refl _ _)))
      clear hst Kr Kt hL0 hI0 hW0 O
      generalize V13.setCells rb 0 (bytesV DJ) = V14 at K6 Kt6 hL6 hI6 hW6 ⊢
      refine hK.out _ _ ⟨HI.out _ hI6, Kt6⟩ (fun hHeld => ?_)
      clear hK K
      try simp only [zP, zQ, zS, zZ, zC]
      refine wpAnyH_done (by kernel_rfl) ?_ _
      clear hHeld
      go_wp2
      exact bodyPost_ret (v := .agg (bytesV DJ).toArray) (K6.result (p := 9) (ty := 29) rfl _ rfl Tryd.underlying29 (by rw [hvJ]; kernel_rfl)) rfl ⟨rfl, hW6, hL6⟩
    · rw [if_pos (by rfl)]
      go_simp
      have hBV : B ≤ V0.heap.size := Nat.le_trans hBI hI0.size
      have hWV : rb ≤ V0.heap.size := hrb ▸ hW0.size
      have XA : Below V0.heap.size V0 (V0.alloc (.cells (bytesV z16).toArray 29)) := (Below.refl _ _).alloc (Nat.le_refl _) _
      have Kt := zero_cells V0 29
      have hrt := Kr.lt
      have Kr1 := Kr.keep XA
      have hL1 := hL0.keep XA
      have hI1 := hI0.trans (Keeps.below (X := Xs eb sb) (XA.mono hBV))
      have hW1 := hW0.trans (Keeps.below (X := Xs eb sb) (XA.mono hWV))
      refine hK.out _ _ (HI.out _ hI1) (fun hHeld => ?_)
      clear hK K
      try simp only [zP, zQ, zS, zZ, zC]
      obtain ⟨tb, htb⟩ : ∃ tb, V0.heap.size = tb := ⟨_, rfl⟩
      rw [htb] at Kt hBV hWV hrt XA ⊢
      clear XA Kr hL0 hI0 hW0 htb
      generalize World.alloc V0 _ = V1 at Kt Kr1 hL1 hI1 hW1 hHeld ⊢
      refine wpAnyH_ready (rs := [5]) (by kernel_rfl) (by simp) ?_
      refine AllReadyH.cons (o := ⟨some 63, .call { callee := .value (.tmp 58), args := #[.tmp 59, .tmp 62], argTypes := #[3, 3] }, 29, "merkle.go:130", #[⟨0, .data⟩, ⟨1, .data⟩, ⟨4, .data⟩, ⟨4, .chain⟩], none⟩) rfl (fun K hK => ?_) AllReadyH.nil
      rw [if_pos (by rfl)]
      go_simp
      have hRV := Kr1.lt
      refine (HA.out V1 hI1 hL1).mono ?_
      rintro en V9 ⟨rfl, hC, hL9⟩
      dsimp only
      have hBV9 : B ≤ V1.heap.size := Nat.le_trans hBI hI1.size
      have Kr9 := hC.blk Kr1 hRV (fun h => h.elim (by omega) (by omega))
      have Kt9 := hC.blk Kt Kt.lt (fun h => h.elim (by omega) (by omega))
      have hI9 := hI1.trans (hC.mono hBV9)
      have hW9 := hW1.trans (hC.mono (Nat.le_of_lt hRV))
      refine hK.out _ _ (HI.out _ hI9) (fun hHeld => ?_)
      clear hK K
      try simp only [zP, zQ, zS, zZ, zC]
      clear Kr1 hL1 hI1 hW1 hC Kt
      have htl := Kt9.lt
      have hst := Kt9.storeRun (vs := bytesV D1) (by rw [hv1, hvz]) (bytesV_cells D1)
      refine wpAnyH_ready (rs := [7]) (by kernel_rfl) (by simp) ?_
      refine AllReadyH.cons (o := ⟨none, .store 29 (.tmp 11) (.tmp 63), 0, "merkle.go:130", #[⟨6, .data⟩, ⟨5, .data⟩, ⟨5, .chain⟩, ⟨0, .phase⟩, ⟨1, .phase⟩, ⟨2, .phase⟩, ⟨3, .phase⟩, ⟨4, .phase⟩, ⟨5, .phase⟩, ⟨6, .phase⟩], none⟩) rfl (fun K hK => ?_) AllReadyH.nil
      rw [if_pos (by rfl)]
      go_simp
      have O := only_sets tb 0 V9 (bytesV D1)
      have Kt : Blk (V9.setCells tb 0 (bytesV D1)) tb 29 (bytesV D1) := Kt9.all (by rw [hv1, hvz])
      have Kr := O.2.1 _ _ _ (by omega) Kr9
      have hL0 := hL9.only O (by omega) (by omega) (by omega)
      have hI0 := hI9.trans (Keeps.below (X := Xs eb sb) (O.2.2 _ _ hBV (Below.refl _ _)))
      have hW0 := hW9.trans (Keeps.below (X := Xs eb sb) (O.2.2 _ _ hWV (Below.refl _ _)))
      clear hst Kt9 Kr9 hL9 hI9 hW9 O
      generalize V9.setCells tb 0 (bytesV D1) = V10 at Kt Kr hL0 hI0 hW0 ⊢
      refine hK.out _ _ (HI.out _ hI0) (fun hHeld => ?_)
      clear hK K
      try simp only [zP, zQ, zS, zZ, zC]
      refine wpAnyH_done (by kernel_rfl) ?_ _
      go_upto_region 13 with (fail)
      clear hHeld
      refine wp_region_held_drew (S := fun w' => Blk w' cb 113 [.func (.func 68) #[] #[.pointer (some ⟨eb, 0, none⟩), .pointer (some ⟨pb, 0, none⟩), .pointer (some ⟨nb, 0, none⟩), .pointer (some ⟨sb, 0, none⟩), .pointer (some ⟨cb, 0, none⟩)]] ∧ Blk w' tb 29 (bytesV D1)) (by kernel_rfl) ⟨HI.out _ hI0.drew, Kt.drew⟩ (fun _ => ?_)
      have hHeld : Blk V10.drew cb 113 [.func (.func 68) #[] #[.pointer (some ⟨eb, 0, none⟩), .pointer (some ⟨pb, 0, none⟩), .pointer (some ⟨nb, 0, none⟩), .pointer (some ⟨sb, 0, none⟩), .pointer (some ⟨cb, 0, none⟩)]] ∧ Blk V10.drew tb 29 (bytesV D1) := ⟨HI.out _ hI0.drew, Kt.drew⟩
      replace Kt := Kt.drew
      replace Kr := Kr.drew
      replace hL0 := hL0.drew
      replace hI0 := hI0.drew
      replace hW0 := hW0.drew
      generalize V10.drew = V11 at Kt Kr hL0 hI0 hW0 hHeld ⊢
      refine wt (i := 0) (oi := ⟨some 64, .load 29 (.tmp 11), 29, "merkle.go:131", #[], none⟩) (v := _) (yieldsIf_load_mid (by rfl) _ _ rfl _ 0 rfl _ _ (fun w' hSw => rng_at hSw.2) Tryd.underlying29 rfl hsD) hHeld ?_
      try simp only [zP, zQ, zS, zZ, zC]
      refine wt (i := 1) (oi := ⟨some 65, .load 113 (.tmp 6), 113, "merkle.go:131", #[], none⟩) (v := .func (.func 68) #[] #[.pointer (some ⟨eb, 0, none⟩), .pointer (some ⟨pb, 0, none⟩), .pointer (some ⟨nb, 0, none⟩), .pointer (some ⟨sb, 0, none⟩), .pointer (some ⟨cb, 0, none⟩)]) (Or.inl ⟨by rfl, fun w' hSw => by have hc := Blk.cell (j := 0) hSw.1 rfl; go_simp⟩) hHeld ?_
      try simp only [zP, zQ, zS, zZ, zC]
      refine wt (i := 2) (oi := ⟨some 66, .move (.tmp 0), 3, "merkle.go:131", #[], none⟩) (v := .int .i64 (x : Int)) (Or.inl ⟨by rfl, fun w' hSw => by go_simp⟩) hHeld ?_
      try simp only [zP, zQ, zS, zZ, zC]
      refine wt (i := 3) (oi := ⟨some 67, .move (.tmp 1), 3, "merkle.go:131", #[], none⟩) (v := .int .i64 (y : Int)) (Or.inl ⟨by rfl, fun w' hSw => by go_simp⟩) hHeld ?_
      try simp only [zP, zQ, zS, zZ, zC]
      refine wt (i := 5) (oi := ⟨some 69, .move (.tmp 1), 3, "merkle.go:131", #[], none⟩) (v := .int .i64 (y : Int)) (Or.inl ⟨by rfl, fun w' hSw => by go_simp⟩) hHeld ?_
      try simp only [zP, zQ, zS, zZ, zC]
      refine wpAnyH_ready (rs := [4]) (by kernel_rfl) (by simp) ?_
      refine AllReadyH.cons (o := ⟨some 68, .call { callee := .value (.func 58), args := #[.tmp 66, .tmp 67], argTypes := #[3, 3] }, 3, "merkle.go:131", #[⟨2, .data⟩, ⟨3, .data⟩], none⟩) rfl (fun K hK => ?_) AllReadyH.nil
      rw [if_pos (by rfl)]
      go_simp
      refine (HM.out V11).mono ?_
      rintro en w1 ⟨rfl, hw1⟩
      rw [hw1]
      clear hw1 w1
      dsimp only
      refine hK.out _ _ hHeld (fun hHeld => ?_)
      clear hK K
      try simp only [zP, zQ, zS, zZ, zC]
      refine wpAnyH_ready (rs := [6]) (by kernel_rfl) (by simp) ?_
      refine AllReadyH.cons (o := ⟨some 70, .call { callee := .value (.tmp 65), args := #[.tmp 68, .tmp 69], argTypes := #[3, 3] }, 29, "merkle.go:131", #[⟨1, .data⟩, ⟨4, .data⟩, ⟨5, .data⟩, ⟨4, .chain⟩], none⟩) rfl (fun K hK => ?_) AllReadyH.nil
      rw [if_pos (by rfl)]
      go_simp
      have hRV := Kr.lt
      have hTV := Kt.lt
      refine (HC.out V11 hI0 hL0).mono ?_
      rintro en V12 ⟨rfl, hC, hL9⟩
      dsimp only
      have Kr9 := hC.blk Kr hRV (fun h => h.elim (by omega) (by omega))
      have Kt9 := hC.blk Kt hTV (fun h => h.elim (by omega) (by omega))
      have hI9 := hI0.trans (hC.mono (by omega))
      have hW9 := hW0.trans (hC.mono (by omega))
      clear Kr Kt hL0 hI0 hW0 hC
      refine hK.out _ _ ⟨HI.out _ hI9, Kt9⟩ (fun hHeld => ?_)
      clear hK K
      try simp only [zP, zQ, zS, zZ, zC]
      refine wpAnyH_ready (rs := [7]) (by kernel_rfl) (by simp) ?_
      refine AllReadyH.cons (o := ⟨some 71, .call { callee := .value (.func 59), args := #[.tmp 64, .tmp 70], argTypes := #[29, 29] }, 29, "merkle.go:131", #[⟨0, .data⟩, ⟨6, .data⟩, ⟨6, .chain⟩], none⟩) rfl (fun K hK => ?_) AllReadyH.nil
      rw [if_pos (by rfl)]
      go_simp
      refine (HJ.out V12 hI9).mono ?_
      rintro en V13 ⟨rfl, hBJ⟩
      dsimp only
      have hB12 : B ≤ V12.heap.size := Nat.le_trans hBI hI9.size
      have hR12 := Kr9.lt
      have Kr := Kr9.keep hBJ
      have Kt := Kt9.keep hBJ
      have hL0 := hL9.keep hBJ
      have hI0 := hI9.trans (Keeps.below (X := Xs eb sb) (hBJ.mono hB12))
      have hW0 := hW9.trans (Keeps.below (X := Xs eb sb) (hBJ.mono (Nat.le_of_lt hR12)))
      clear Kr9 Kt9 hL9 hI9 hW9 hBJ
      refine hK.out _ _ ⟨HI.out _ hI0, Kt⟩ (fun hHeld => ?_)
      clear hK K
      try simp only [zP, zQ, zS, zZ, zC]
      have hst := Kr.storeRun (vs := bytesV DJ) (by rw [hvJ, hvz]) (bytesV_cells DJ)
      refine wpAnyH_ready (rs := [8]) (by kernel_rfl) (by simp) ?_
      refine AllReadyH.cons (o := ⟨none, .store 29 (.tmp 9) (.tmp 71), 0, "merkle.go:131", #[⟨7, .data⟩, ⟨7, .chain⟩, ⟨0, .phase⟩, ⟨1, .phase⟩, ⟨2, .phase⟩, ⟨3, .phase⟩, ⟨4, .phase⟩, ⟨5, .phase⟩, ⟨6, .phase⟩, ⟨7, .phase⟩], none⟩) rfl (fun K hK => ?_) AllReadyH.nil
      rw [if_pos (by rfl)]
      go_simp
      have O := only_sets rb 0 V13 (bytesV DJ)
      have K6 : Blk (V13.setCells rb 0 (bytesV DJ)) rb 29 (bytesV DJ) := Kr.all (by rw [hvJ, hvz])
      have Kt6 := O.2.1 _ _ _ (by omega) Kt
      have hL6 := hL0.only O (by omega) (by omega) (by omega)
      have hI6 := hI0.trans (Keeps.below (X := Xs eb sb) (O.2.2 _ _ hBw (Below.refl _ _)))
      have hW6 := hW0.trans (Keeps.below (X := Xs eb sb) (O.2.2 _ _ (Nat.le_refl _) (Below.refl _ _)))
      clear hst Kr Kt hL0 hI0 hW0 O
      generalize V13.setCells rb 0 (bytesV DJ) = V14 at K6 Kt6 hL6 hI6 hW6 ⊢
      refine hK.out _ _ ⟨HI.out _ hI6, Kt6⟩ (fun hHeld => ?_)
      clear hK K
      try simp only [zP, zQ, zS, zZ, zC]
      refine wpAnyH_done (by kernel_rfl) ?_ _
      clear hHeld
      go_wp2
      exact bodyPost_ret (v := .agg (bytesV DJ).toArray) (K6.result (p := 9) (ty := 29) rfl _ rfl Tryd.underlying29 (by rw [hvJ]; kernel_rfl)) rfl ⟨rfl, hW6, hL6⟩
  · rw [if_pos (by rfl)]
    go_simp
    have hBV : B ≤ V0.heap.size := Nat.le_trans hBI hI0.size
    have hWV : rb ≤ V0.heap.size := hrb ▸ hW0.size
    have XA : Below V0.heap.size V0 (V0.alloc (.cells (bytesV z16).toArray 29)) := (Below.refl _ _).alloc (Nat.le_refl _) _
    have Kt := zero_cells V0 29
    have hrt := Kr.lt
    have Kr1 := Kr.keep XA
    have hL1 := hL0.keep XA
    have hI1 := hI0.trans (Keeps.below (X := Xs eb sb) (XA.mono hBV))
    have hW1 := hW0.trans (Keeps.below (X := Xs eb sb) (XA.mono hWV))
    refine hK.out _ _ (HI.out _ hI1) (fun hHeld => ?_)
    clear hK K
    try simp only [zP, zQ, zS, zZ, zC]
    obtain ⟨tb, htb⟩ : ∃ tb, V0.heap.size = tb := ⟨_, rfl⟩
    rw [htb] at Kt hBV hWV hrt XA ⊢
    clear XA Kr hL0 hI0 hW0 htb
    generalize World.alloc V0 _ = V1 at Kt Kr1 hL1 hI1 hW1 hHeld ⊢
    refine wpAnyH_ready (rs := [4]) (by kernel_rfl) (by simp) ?_
    refine AllReadyH.cons (o := ⟨some 62, .call { callee := .value (.func 58), args := #[.tmp 60, .tmp 61], argTypes := #[3, 3] }, 3, "merkle.go:130", #[⟨2, .data⟩, ⟨3, .data⟩], none⟩) rfl (fun K hK => ?_) AllReadyH.nil
    rw [if_pos (by rfl)]
    go_simp
    refine (HM.out V1).mono ?_
    rintro en w1 ⟨rfl, hw1⟩
    rw [hw1]
    clear hw1 w1
    dsimp only
    refine hK.out _ _ hHeld (fun hHeld => ?_)
    clear hK K
    try simp only [zP, zQ, zS, zZ, zC]
    refine wpAnyH_ready (rs := [5]) (by kernel_rfl) (by simp) ?_
    refine AllReadyH.cons (o := ⟨some 63, .call { callee := .value (.tmp 58), args := #[.tmp 59, .tmp 62], argTypes := #[3, 3] }, 29, "merkle.go:130", #[⟨0, .data⟩, ⟨1, .data⟩, ⟨4, .data⟩, ⟨4, .chain⟩], none⟩) rfl (fun K hK => ?_) AllReadyH.nil
    rw [if_pos (by rfl)]
    go_simp
    have hRV := Kr1.lt
    refine (HA.out V1 hI1 hL1).mono ?_
    rintro en V9 ⟨rfl, hC, hL9⟩
    dsimp only
    have hBV9 : B ≤ V1.heap.size := Nat.le_trans hBI hI1.size
    have Kr9 := hC.blk Kr1 hRV (fun h => h.elim (by omega) (by omega))
    have Kt9 := hC.blk Kt Kt.lt (fun h => h.elim (by omega) (by omega))
    have hI9 := hI1.trans (hC.mono hBV9)
    have hW9 := hW1.trans (hC.mono (Nat.le_of_lt hRV))
    refine hK.out _ _ (HI.out _ hI9) (fun hHeld => ?_)
    clear hK K
    try simp only [zP, zQ, zS, zZ, zC]
    clear Kr1 hL1 hI1 hW1 hC Kt
    have htl := Kt9.lt
    have hst := Kt9.storeRun (vs := bytesV D1) (by rw [hv1, hvz]) (bytesV_cells D1)
    refine wpAnyH_ready (rs := [7]) (by kernel_rfl) (by simp) ?_
    refine AllReadyH.cons (o := ⟨none, .store 29 (.tmp 11) (.tmp 63), 0, "merkle.go:130", #[⟨6, .data⟩, ⟨5, .data⟩, ⟨5, .chain⟩, ⟨0, .phase⟩, ⟨1, .phase⟩, ⟨2, .phase⟩, ⟨3, .phase⟩, ⟨4, .phase⟩, ⟨5, .phase⟩, ⟨6, .phase⟩], none⟩) rfl (fun K hK => ?_) AllReadyH.nil
    rw [if_pos (by rfl)]
    go_simp
    have O := only_sets tb 0 V9 (bytesV D1)
    have Kt : Blk (V9.setCells tb 0 (bytesV D1)) tb 29 (bytesV D1) := Kt9.all (by rw [hv1, hvz])
    have Kr := O.2.1 _ _ _ (by omega) Kr9
    have hL0 := hL9.only O (by omega) (by omega) (by omega)
    have hI0 := hI9.trans (Keeps.below (X := Xs eb sb) (O.2.2 _ _ hBV (Below.refl _ _)))
    have hW0 := hW9.trans (Keeps.below (X := Xs eb sb) (O.2.2 _ _ hWV (Below.refl _ _)))
    clear hst Kt9 Kr9 hL9 hI9 hW9 O
    generalize V9.setCells tb 0 (bytesV D1) = V10 at Kt Kr hL0 hI0 hW0 ⊢
    refine hK.out _ _ (HI.out _ hI0) (fun hHeld => ?_)
    clear hK K
    try simp only [zP, zQ, zS, zZ, zC]
    refine wpAnyH_done (by kernel_rfl) ?_ _
    go_upto_region 13 with (fail)
    clear hHeld
    refine wp_region_held_drew (S := fun w' => Blk w' cb 113 [.func (.func 68) #[] #[.pointer (some ⟨eb, 0, none⟩), .pointer (some ⟨pb, 0, none⟩), .pointer (some ⟨nb, 0, none⟩), .pointer (some ⟨sb, 0, none⟩), .pointer (some ⟨cb, 0, none⟩)]] ∧ Blk w' tb 29 (bytesV D1)) (by kernel_rfl) ⟨HI.out _ hI0.drew, Kt.drew⟩ (fun _ => ?_)
    have hHeld : Blk V10.drew cb 113 [.func (.func 68) #[] #[.pointer (some ⟨eb, 0, none⟩), .pointer (some ⟨pb, 0, none⟩), .pointer (some ⟨nb, 0, none⟩), .pointer (some ⟨sb, 0, none⟩), .pointer (some ⟨cb, 0, none⟩)]] ∧ Blk V10.drew tb 29 (bytesV D1) := ⟨HI.out _ hI0.drew, Kt.drew⟩
    replace Kt := Kt.drew
    replace Kr := Kr.drew
    replace hL0 := hL0.drew
    replace hI0 := hI0.drew
    replace hW0 := hW0.drew
    generalize V10.drew = V11 at Kt Kr hL0 hI0 hW0 hHeld ⊢
    refine wt (i := 0) (oi := ⟨some 64, .load 29 (.tmp 11), 29, "merkle.go:131", #[], none⟩) (v := _) (yieldsIf_load_mid (by rfl) _ _ rfl _ 0 rfl _ _ (fun w' hSw => rng_at hSw.2) Tryd.underlying29 rfl hsD) hHeld ?_
    try simp only [zP, zQ, zS, zZ, zC]
    refine wt (i := 1) (oi := ⟨some 65, .load 113 (.tmp 6), 113, "merkle.go:131", #[], none⟩) (v := .func (.func 68) #[] #[.pointer (some ⟨eb, 0, none⟩), .pointer (some ⟨pb, 0, none⟩), .pointer (some ⟨nb, 0, none⟩), .pointer (some ⟨sb, 0, none⟩), .pointer (some ⟨cb, 0, none⟩)]) (Or.inl ⟨by rfl, fun w' hSw => by have hc := Blk.cell (j := 0) hSw.1 rfl; go_simp⟩) hHeld ?_
    try simp only [zP, zQ, zS, zZ, zC]
    refine wt (i := 2) (oi := ⟨some 66, .move (.tmp 0), 3, "merkle.go:131", #[], none⟩) (v := .int .i64 (x : Int)) (Or.inl ⟨by rfl, fun w' hSw => by go_simp⟩) hHeld ?_
    try simp only [zP, zQ, zS, zZ, zC]
    refine wt (i := 3) (oi := ⟨some 67, .move (.tmp 1), 3, "merkle.go:131", #[], none⟩) (v := .int .i64 (y : Int)) (Or.inl ⟨by rfl, fun w' hSw => by go_simp⟩) hHeld ?_
    try simp only [zP, zQ, zS, zZ, zC]
    refine wt (i := 5) (oi := ⟨some 69, .move (.tmp 1), 3, "merkle.go:131", #[], none⟩) (v := .int .i64 (y : Int)) (Or.inl ⟨by rfl, fun w' hSw => by go_simp⟩) hHeld ?_
    try simp only [zP, zQ, zS, zZ, zC]
    refine wpAnyH_ready (rs := [4]) (by kernel_rfl) (by simp) ?_
    refine AllReadyH.cons (o := ⟨some 68, .call { callee := .value (.func 58), args := #[.tmp 66, .tmp 67], argTypes := #[3, 3] }, 3, "merkle.go:131", #[⟨2, .data⟩, ⟨3, .data⟩], none⟩) rfl (fun K hK => ?_) AllReadyH.nil
    rw [if_pos (by rfl)]
    go_simp
    refine (HM.out V11).mono ?_
    rintro en w1 ⟨rfl, hw1⟩
    rw [hw1]
    clear hw1 w1
    dsimp only
    refine hK.out _ _ hHeld (fun hHeld => ?_)
    clear hK K
    try simp only [zP, zQ, zS, zZ, zC]
    refine wpAnyH_ready (rs := [6]) (by kernel_rfl) (by simp) ?_
    refine AllReadyH.cons (o := ⟨some 70, .call { callee := .value (.tmp 65), args := #[.tmp 68, .tmp 69], argTypes := #[3, 3] }, 29, "merkle.go:131", #[⟨1, .data⟩, ⟨4, .data⟩, ⟨5, .data⟩, ⟨4, .chain⟩], none⟩) rfl (fun K hK => ?_) AllReadyH.nil
    rw [if_pos (by rfl)]
    go_simp
    have hRV := Kr.lt
    have hTV := Kt.lt
    refine (HC.out V11 hI0 hL0).mono ?_
    rintro en V12 ⟨rfl, hC, hL9⟩
    dsimp only
    have Kr9 := hC.blk Kr hRV (fun h => h.elim (by omega) (by omega))
    have Kt9 := hC.blk Kt hTV (fun h => h.elim (by omega) (by omega))
    have hI9 := hI0.trans (hC.mono (by omega))
    have hW9 := hW0.trans (hC.mono (by omega))
    clear Kr Kt hL0 hI0 hW0 hC
    refine hK.out _ _ ⟨HI.out _ hI9, Kt9⟩ (fun hHeld => ?_)
    clear hK K
    try simp only [zP, zQ, zS, zZ, zC]
    refine wpAnyH_ready (rs := [7]) (by kernel_rfl) (by simp) ?_
    refine AllReadyH.cons (o := ⟨some 71, .call { callee := .value (.func 59), args := #[.tmp 64, .tmp 70], argTypes := #[29, 29] }, 29, "merkle.go:131", #[⟨0, .data⟩, ⟨6, .data⟩, ⟨6, .chain⟩], none⟩) rfl (fun K hK => ?_) AllReadyH.nil
    rw [if_pos (by rfl)]
    go_simp
    refine (HJ.out V12 hI9).mono ?_
    rintro en V13 ⟨rfl, hBJ⟩
    dsimp only
    have hB12 : B ≤ V12.heap.size := Nat.le_trans hBI hI9.size
    have hR12 := Kr9.lt
    have Kr := Kr9.keep hBJ
    have Kt := Kt9.keep hBJ
    have hL0 := hL9.keep hBJ
    have hI0 := hI9.trans (Keeps.below (X := Xs eb sb) (hBJ.mono hB12))
    have hW0 := hW9.trans (Keeps.below (X := Xs eb sb) (hBJ.mono (Nat.le_of_lt hR12)))
    clear Kr9 Kt9 hL9 hI9 hW9 hBJ
    refine hK.out _ _ ⟨HI.out _ hI0, Kt⟩ (fun hHeld => ?_)
    clear hK K
    try simp only [zP, zQ, zS, zZ, zC]
    have hst := Kr.storeRun (vs := bytesV DJ) (by rw [hvJ, hvz]) (bytesV_cells DJ)
    refine wpAnyH_ready (rs := [8]) (by kernel_rfl) (by simp) ?_
    refine AllReadyH.cons (o := ⟨none, .store 29 (.tmp 9) (.tmp 71), 0, "merkle.go:131", #[⟨7, .data⟩, ⟨7, .chain⟩, ⟨0, .phase⟩, ⟨1, .phase⟩, ⟨2, .phase⟩, ⟨3, .phase⟩, ⟨4, .phase⟩, ⟨5, .phase⟩, ⟨6, .phase⟩, ⟨7, .phase⟩], none⟩) rfl (fun K hK => ?_) AllReadyH.nil
    rw [if_pos (by rfl)]
    go_simp
    have O := only_sets rb 0 V13 (bytesV DJ)
    have K6 : Blk (V13.setCells rb 0 (bytesV DJ)) rb 29 (bytesV DJ) := Kr.all (by rw [hvJ, hvz])
    have Kt6 := O.2.1 _ _ _ (by omega) Kt
    have hL6 := hL0.only O (by omega) (by omega) (by omega)
    have hI6 := hI0.trans (Keeps.below (X := Xs eb sb) (O.2.2 _ _ hBw (Below.refl _ _)))
    have hW6 := hW0.trans (Keeps.below (X := Xs eb sb) (O.2.2 _ _ (Nat.le_refl _) (Below.refl _ _)))
    clear hst Kr Kt hL0 hI0 hW0 O
    generalize V13.setCells rb 0 (bytesV DJ) = V14 at K6 Kt6 hL6 hI6 hW6 ⊢
    refine hK.out _ _ ⟨HI.out _ hI6, Kt6⟩ (fun hHeld => ?_)
    clear hK K
    try simp only [zP, zQ, zS, zZ, zC]
    refine wpAnyH_done (by kernel_rfl) ?_ _
    clear hHeld
    go_wp2
    exact bodyPost_ret (v := .agg (bytesV DJ).toArray) (K6.result (p := 9) (ty := 29) rfl _ rfl Tryd.underlying29 (by rw [hvJ]; kernel_rfl)) rfl ⟨rfl, hW6, hL6⟩

end Go.Proofs.YtfhfmdnimebegaaDoor

/-
  under's function whole; merkle.under.
-/
namespace Go.Proofs.YtfhfmdnimebegaaDoor
open Go.RowKit
set_option linter.unusedVariables false
set_option linter.unusedSimpArgs false

theorem xs_no {b eb sb : Nat} (h1 : b ≠ eb) (h2 : b ≠ sb) : ¬ Xs eb sb b := fun h => h.elim h1 h2
theorem bld_any (lf : List Lf) (F : Nat) (wI : World) (B M eb pb nb sb cb n q off c : Nat) (S : Int) (sv : Value) (hE : BE wI eb pb nb sb cb F S (.slice (some ⟨q, off, none⟩) n c) sv n) (hpb : pb < B ∧ pb ≠ eb ∧ pb ≠ sb) (hnb : nb < B ∧ nb ≠ eb ∧ nb ≠ sb) (hcb : cb < B ∧ cb ≠ eb ∧ cb ≠ sb)
    (heb : eb < B ∧ M ≤ eb) (hsb : sb < B ∧ M ≤ sb) (hse : sb ≠ eb) (hM : M ≤ B) (hBI : B ≤ wI.heap.size) (hGL : ∀ w, Keeps (Xs eb sb) B wI w → Glob w ∧ Lvs w q off lf) (hSm : Small lf) (hl : lf.length = n) (hc : n ≤ c) (hFn : F + n ≤ 4096) :
    ∀ (k x y : Nat), y - x = k → x < y → y ≤ 4096 → BuildAt lf F wI B M eb pb nb sb cb x y := by
  intro k
  induction k using Nat.strongRecOn with
  | ind k ih =>
    intro x y hk hxy hy w o hd hK hL
    have hBw : B ≤ w.heap.size := Nat.le_trans hBI hK.size
    have kp := hK.blk hE.1 hpb.1 (xs_no hpb.2.1 hpb.2.2)
    have kn := hK.blk hE.2.1 hnb.1 (xs_no hnb.2.1 hnb.2.2)
    match o, hd, hL with
    | none, _, hL =>
      rw [bld_none]
      refine (bld_stop x y eb pb nb sb cb w hL).mono ?_
      rintro en w' ⟨rfl, hB⟩
      exact ⟨rfl, Keeps.below hB, Left.keep (o := none) hL hB⟩
    | some sd, hd, hL =>
      obtain ⟨he, v, hs, p, cs, rfl, hcs, hr⟩ := id hL
      by_cases ho : y ≤ F ∨ F + n ≤ x
      · match sd, hd, hL, hs, hcs, hr with
        | [], _, _, hs, _, _ =>
          rw [bld_out_nil lf F x y hxy (by rw [hl]; exact ho)]
          refine (bld_short x y F n eb pb nb sb cb w.heap.size S _ sv hFn ho w he kp kn p cs hs (Nat.le_refl _) (by omega)).mono ?_
          rintro en w' ⟨rfl, hk', he'⟩
          exact ⟨rfl, hk', he'⟩
        | d :: r, hd, hL, hs, hcs, hr =>
          rw [bld_out lf F x y d r hxy (by rw [hl]; exact ho)]
          obtain ⟨g, off', rfl, hg, hg2, hrg⟩ := hr (by simp)
          have hdr := hd _ rfl
          have hdd : Dgt d := hdr d (by simp)
          have hvd : (bytesV d).length = 16 := by rw [bytesV_length]; exact hdd.1
          rw [List.flatten_cons, bytesV_append] at hrg
          rw [List.length_cons] at hs hcs
          refine (bld_take x y F n eb pb nb sb cb w.heap.size r.length g off' cs S _ sv hFn ho d hdd w he kp kn hs hcs hg2 (by omega) (fun j u hj => hrg j u (by rw [List.getElem?_append_left (List.getElem?_eq_some_iff.1 hj).1]; exact hj)) (Nat.le_refl _) (by omega) (by omega) hse).mono ?_
          rintro en w' ⟨rfl, hk', he', hs'⟩
          have hbM : Below M w w' := hk'.lower (Below.refl _ _) (by omega) (fun j hj => hj.elim (fun e => by omega) (fun e => by omega))
          refine ⟨rfl, hk', he', _, hs', ?_⟩
          have hrest : w'.rangeAt g (off' + 16) (bytesV r.flatten) := by
            refine range_keep (fun j u hj => ?_) hg hbM
            have := hrg (16 + j) u (by rw [List.getElem?_append_right (by omega), hvd, show 16 + j - 16 = j by omega]; exact hj)
            rwa [show off' + (16 + j) = off' + 16 + j by omega] at this
          refine ⟨if cs = 1 then some ⟨g, off', none⟩ else some ⟨g, off' + 16, none⟩, cs - 1, rfl, by omega, fun hne => ?_⟩
          have : 0 < r.length := by
            rcases r with _ | ⟨a, b⟩
            · exact absurd rfl hne
            · simp
          exact ⟨g, off' + 16, by rw [if_neg (by omega)], hg, Nat.lt_of_lt_of_le hg2 hk'.size, hrest⟩
      · by_cases h1 : y = x + 1
        · subst h1
          rw [bld_leaf lf F x sd (by rw [hl]; exact ho)]
          refine (bld_row x (x + 1) F n eb pb nb sb cb q off c (x - F) (x - F + 1) S sv lf hl hc hSm hFn rfl (by omega) rfl (by omega) w (hGL w hK).1 (hGL w hK).2 he kp kn).mono ?_
          rintro en w' ⟨rfl, hB⟩
          exact ⟨rfl, Keeps.below hB, Left.keep (o := some sd) hL hB⟩
        · have h3 := half_lt (y - x) (by omega)
          have h4 := half_pos (y - x)
          exact bld_two lf F wI B M eb pb nb sb cb n S _ sv hE hpb hnb hcb heb.1 hsb.1 hM hBI (fun w0 h => (hGL w0 h).1) hl hFn x y (by omega) hy ho
            (ih (x + half (y - x) - x) (by omega) _ _ rfl (by omega) (by omega)) (ih (y - (x + half (y - x))) (by omega) _ _ rfl (by omega) hy) w sd (hd _ rfl) hK hL

end Go.Proofs.YtfhfmdnimebegaaDoor

/-
  merkle.under, where it refuses at once.
-/
namespace Go.Proofs.YtfhfmdnimebegaaDoor
open Go.RowKit
set_option linter.unusedVariables false
set_option linter.unusedSimpArgs false

/-- A proof as an argument: numbers, leaves, digests. -/
def PrfA (F S : Int) (q : Option Addr) (n c : Nat) (sv : Value) : List Value := [.int .i64 F, .int .i64 S, .slice q n c, sv]
theorem two63 {F : Int} (h1 : -9223372036854775808 ≤ F) (h2 : F < 9223372036854775808) : True := trivial

set_option maxHeartbeats 2000000 in
set_option maxRecDepth 100000 in
theorem under_bad (R : List Nat) (hR : Dgt R) (F S : Int) (lf : List Lf) (q : Option Addr) (n c : Nat) (sa : Option Addr) (k sc : Nat) (hl : lf.length = n) (hn : n ≤ 281474976710656) (w : World) (hL : OwnL w q lf)
    (h : S < 0 ∨ 4096 < S ∨ F < 0 ∨ S - n < F ∨ validM lf ≠ 0) :
    Calls Tryd.prog 50 #[.agg (bytesV R).toArray, .agg #[.int .i64 F, .int .i64 S, .slice q n c, .slice sa k sc]] w fun en w' => en = .returned (.bool false) ∧ Below w.heap.size w w' := by
  have HV := Lib.hid (fun w0 (hB : Below w.heap.size w w0) => valid_any lf q n c hl w0 (hL.keep hB))
  generalize validM lf = v at HV h
  clear hL hl
  have key : S < 0 ∨ (¬ S < 0 ∧ 4096 < S) ∨ (¬ S < 0 ∧ ¬ 4096 < S ∧ F < 0) ∨ (¬ S < 0 ∧ ¬ 4096 < S ∧ ¬ F < 0 ∧ S - n < F) ∨ (¬ S < 0 ∧ ¬ 4096 < S ∧ ¬ F < 0 ∧ ¬ S - n < F ∧ v ≠ 0) := by omega
  clear h
  have hvR : (bytesV R).length = 16 := by rw [bytesV_length]; exact hR.1
  go_enter Tryd.func50, Tryd.ntmps50
  go_upto_region 1 with (fail)
  generalize hw1 : World.alloc _ _ = W0
  have Kp : Blk W0 (w.heap.size + 1) 50 [.int .i64 F, .int .i64 S, .slice q n c, .slice sa k sc] := hw1 ▸ blk_new1 w _ _ _
  have KB : Below w.heap.size w W0 := hw1 ▸ (((Below.refl _ _).alloc (Nat.le_refl _) _).alloc (by simp) _)
  clear hw1
  have c1 := Kp.cell (j := 0) rfl
  have c2 := Kp.cell (j := 1) rfl
  have c3 := Kp.cell (j := 2) rfl
  go_upto_region 2 with (fail)
  have KX := (Below.refl W0.heap.size W0).alloc (Nat.le_refl _) (.cells #[.int .i64 (n : Int)] 3)
  have Kn := blk_new W0 3 #[.int .i64 (n : Int)]
  have Kp1 := Kp.keep KX
  have KB1 := link KB KX
  clear c1 c2 c3 Kp KB KX
  obtain ⟨nb, hnb⟩ : ∃ nb, W0.heap.size = nb := ⟨_, rfl⟩
  rw [hnb] at Kn ⊢
  generalize World.alloc W0 _ = W1 at Kn Kp1 KB1 ⊢
  have c1 := Kp1.cell (j := 0) rfl
  have c2 := Kp1.cell (j := 1) rfl
  have c3 := Kp1.cell (j := 2) rfl
  have c4 := Kn.cell (j := 0) rfl
  clear hnb Kn Kp1
  rcases key with h1 | ⟨h1, h2⟩ | ⟨h1, h2, h3⟩ | ⟨h1, h2, h3, h4⟩ | ⟨h1, h2, h3, h4, h5⟩
  · go_wp2
    go_ret
    exact ⟨rfl, KB1⟩
  · go_wp2
    go_ret
    exact ⟨rfl, KB1⟩
  · go_wp2
    go_ret
    exact ⟨rfl, KB1⟩
  · go_wp2
    go_ret
    exact ⟨rfl, KB1⟩
  · go_wp2_with (go_at_call 14; refine (HV.out _ KB1).mono ?_; rintro en W2 ⟨rfl, hB2⟩)
    go_ret
    exact ⟨rfl, link KB1 hB2⟩

end Go.Proofs.YtfhfmdnimebegaaDoor

/-
  merkle.under without leaves.
-/
namespace Go.Proofs.YtfhfmdnimebegaaDoor
open Go.RowKit
set_option linter.unusedVariables false
set_option linter.unusedSimpArgs false

theorem equal_16 (w : World) (x y : List Nat) (hx : Dgt x) (hy : Dgt y) : (Op.equalIn 10000 29 (.agg (bytesV x).toArray) (.agg (bytesV y).toArray)).run Tryd.prog w = .ok (decide (x = y)) w := by
  have hsz : ∀ w, (sizeOf 5).run Tryd.prog w = .ok 1 w := fun w => by
    obtain ⟨i0, hi, hz0, hz1, hz2⟩ := info_parts u8info
    simp [sizeOf, typeInfo, hi, hz1]
  rw [← cell_bytes x hx.2, ← cell_bytes y hy.2]
  rw [run_equalIn_bytes w 9998 29 5 16 Tryd.underlying29 Tryd.underlying5 hsz _ _ (by simp [hx.1]) (by simp [hy.1])]
  congr 1
  rw [Bool.eq_iff_iff]
  simp only [beq_iff_eq, decide_eq_true_eq]
  exact ⟨fun h => ofNat_inj hx.2 hy.2 h, fun h => by rw [h]⟩
theorem size_dgR (D : List Nat) (h : D.length = 16) : (Tryd.prog.info? 29).map (·.size) = some (bytesV D).length := by
  rw [bytesV_length, h]
  kernel_rfl

set_option maxHeartbeats 2000000 in
set_option maxRecDepth 100000 in
theorem under_empty (R : List Nat) (hR : Dgt R) (q : Option Addr) (c : Nat) (sa : Option Addr) (k sc : Nat) (w : World) (hG : Glob w) :
    Calls Tryd.prog 50 #[.agg (bytesV R).toArray, .agg #[.int .i64 0, .int .i64 0, .slice q 0 c, .slice sa k sc]] w fun en w' => en = .returned (.bool (decide (k = 0) && decide (R = topD 0 z16))) ∧ Below w.heap.size w w' := by
  have HV := Lib.hid (fun w0 => (show _ from valid_any [] q 0 c rfl w0 (fun h => absurd rfl h) : Calls Tryd.prog 14 #[.slice q 0 c] w0 fun e w' => e = .returned (.int .i64 0) ∧ Below w0.heap.size w0 w'))
  have HT := Lib.hid (fun w0 (g : Glob w0) => top_zero z16 z16_dgt w0 g)
  have hD : Dgt (topD 0 z16) := topD_dgt _ _
  generalize topD 0 z16 = D at HT hD ⊢
  have heq := fun w0 => equal_16 w0 R D hR hD
  have hz2 := build_zero
  have hvR : (bytesV R).length = 16 := by rw [bytesV_length]; exact hR.1
  have hsR := size_dgR R hR.1
  have key : k = 0 ∨ (¬ k = 0 ∧ ¬ (k : Int) = 0) := by omega
  go_enter Tryd.func50, Tryd.ntmps50
  go_upto_region 1 with (fail)
  generalize hw1 : World.alloc _ _ = W0
  have Kp : Blk W0 (w.heap.size + 1) 50 [.int .i64 0, .int .i64 0, .slice q 0 c, .slice sa k sc] := hw1 ▸ blk_new1 w _ _ _
  have Kr : Blk W0 w.heap.size 29 (bytesV R) := hw1 ▸ ((blk_new w _ _).alloc _)
  have KB : Below w.heap.size w W0 := hw1 ▸ (((Below.refl _ _).alloc (Nat.le_refl _) _).alloc (by simp) _)
  clear hw1
  have c1 := Kp.cell (j := 0) rfl
  have c2 := Kp.cell (j := 1) rfl
  have c3 := Kp.cell (j := 2) rfl
  go_upto_region 2 with (fail)
  have KX := (Below.refl W0.heap.size W0).alloc (Nat.le_refl _) (.cells #[.int .i64 0] 3)
  have Kn := blk_new W0 3 #[.int .i64 0]
  have Kp1 := Kp.keep KX
  have Kr1 := Kr.keep KX
  have KB1 := link KB KX
  clear c1 c2 c3 Kp Kr KB KX
  obtain ⟨nb, hnb⟩ : ∃ nb, W0.heap.size = nb := ⟨_, rfl⟩
  rw [hnb] at Kn ⊢
  generalize World.alloc W0 _ = W1 at Kn Kp1 Kr1 KB1 ⊢
  have c1 := Kp1.cell (j := 0) rfl
  have c2 := Kp1.cell (j := 1) rfl
  have c3 := Kp1.cell (j := 2) rfl
  have c4 := Kn.cell (j := 0) rfl
  clear hnb
  go_upto_region 4 with (go_at_call 14; refine (HV.out _).mono ?_; rintro en W2 ⟨rfl, hB2⟩)
  have Kp2 := Kp1.keep hB2
  have Kr2 := Kr1.keep hB2
  have KB2 := link KB1 hB2
  clear c1 c2 c3 c4 Kn Kp1 Kr1 KB1 hB2 HV
  have c2 := Kp2.cell (j := 1) rfl
  go_upto_region 5 with (fail)
  clear c2
  have hHeld : True := trivial
  refine wp_region_held_drew (S := fun w' => Below W2.drew.heap.size W2.drew w') (by kernel_rfl) (Below.refl _ _) (fun _ => ?_)
  have hHeld : Below W2.drew.heap.size W2.drew W2.drew := Below.refl _ _
  have C3 : ∀ w', Below W2.drew.heap.size W2.drew w' → w'.cell? ⟨w.heap.size + 1, 3, none⟩ = some (.slice sa k sc) := fun w' h => (h.cell Kp2.lt).trans (Kp2.cell (j := 3) rfl)
  replace Kr2 := Kr2.drew
  replace KB2 := below_drew KB2
  clear Kp2
  generalize W2.drew = V0 at hHeld C3 Kr2 KB2 ⊢
  refine wt (i := 0) (oi := ⟨some 44, .fieldAddr 50 (.tmp 3) 3, 0, "merkle.go:109", #[], none⟩) (v := .pointer (some ⟨w.heap.size + 1, 3, none⟩)) (Or.inl ⟨by rfl, fun w' hSw => by go_simp⟩) hHeld ?_
  try simp only [zP, zQ, zS, zZ, zC]
  refine wt (i := 1) (oi := ⟨some 45, .load 48 (.tmp 44), 48, "merkle.go:109", #[⟨0, .data⟩], none⟩) (v := .slice sa k sc) (Or.inl ⟨by rfl, fun w' hSw => by have hc := C3 w' hSw; go_simp⟩) hHeld ?_
  try simp only [zP, zQ, zS, zZ, zC]
  clear C3
  rcases key with rfl | ⟨hk0, hk1⟩
  · refine wt (i := 2) (oi := ⟨some 46, .call { callee := .builtin .len, args := #[.tmp 45], argTypes := #[48] }, 3, "merkle.go:109", #[⟨1, .data⟩], none⟩) (v := .int .i64 0) (Or.inl ⟨by rfl, fun w' hSw => by go_simp⟩) hHeld ?_
    try simp only [zP, zQ, zS, zZ, zC]
    refine wt (i := 3) (oi := ⟨some 47, .binOp .eql 3 (.tmp 46) (.const (Value.int IntKind.i64 0)) 3, 4, "merkle.go:109", #[⟨2, .data⟩], none⟩) (v := .bool true) (Or.inl ⟨by rfl, fun w' hSw => by go_simp⟩) hHeld ?_
    try simp only [zP, zQ, zS, zZ, zC]
    refine wt (i := 4) (oi := ⟨some 48, .move (.tmp 47), 4, "merkle.go:109", #[⟨3, .data⟩], none⟩) (v := .bool true) (Or.inl ⟨by rfl, fun w' hSw => by go_simp⟩) hHeld ?_
    try simp only [zP, zQ, zS, zZ, zC]
    refine wt (i := 5) (oi := ⟨some 49, .load 29 (.tmp 2), 29, "merkle.go:109", #[⟨4, .guard⟩], some (4, true)⟩) (v := _) (yieldsIf_load_mid (by rfl) _ _ rfl _ 0 rfl _ _ (fun w' hSw => rng_blk (Kr2) w' hSw) Tryd.underlying29 rfl hsR) hHeld ?_
    try simp only [zP, zQ, zS, zZ, zC]
    refine wt (i := 6) (oi := ⟨some 50, .build 29 #[], 29, "merkle.go:109", #[⟨4, .guard⟩], some (4, true)⟩) (v := .agg (bytesV z16).toArray) (Or.inl ⟨by rfl, fun w' hSw => by go_simp; try rfl⟩) hHeld ?_
    try simp only [zP, zQ, zS, zZ, zC]
    refine wpAnyH_ready (rs := [7]) (by kernel_rfl) (by simp) ?_
    refine AllReadyH.cons (o := ⟨some 51, .call { callee := .value (.func 41), args := #[.const (Value.int IntKind.i64 0), .tmp 50], argTypes := #[3, 29] }, 29, "merkle.go:109", #[⟨6, .data⟩, ⟨4, .chain⟩, ⟨4, .guard⟩], some (4, true)⟩) rfl (fun K hK => ?_) AllReadyH.nil
    rw [if_pos (by rfl)]
    go_simp
    refine (HT.out V0 (hG.keep KB2)).mono ?_
    rintro en V1 ⟨rfl, hB1⟩
    dsimp only
    refine hK.out _ _ hB1 (fun hHeld => ?_)
    clear hK K
    try simp only [zP, zQ, zS, zZ, zC]
    refine wt (i := 8) (oi := ⟨some 52, .binOp .eql 29 (.tmp 49) (.tmp 51) 29, 4, "merkle.go:109", #[⟨5, .data⟩, ⟨7, .data⟩, ⟨4, .guard⟩], some (4, true)⟩) (v := .bool (decide (R = D))) (Or.inl ⟨by rfl, fun w' hSw => by go_simp⟩) hHeld ?_
    try simp only [zP, zQ, zS, zZ, zC]
    refine wt (i := 9) (oi := ⟨some 53, .pick (.tmp 48) (.tmp 52) (.const (Value.bool false)), 4, "merkle.go:109", #[⟨4, .data⟩, ⟨8, .data⟩], none⟩) (v := .bool (decide (R = D))) (Or.inl ⟨by rfl, fun w' hSw => by go_simp⟩) hHeld ?_
    try simp only [zP, zQ, zS, zZ, zC]
    refine wpAnyH_ready (rs := [10]) (by kernel_rfl) (by simp) ?_
    refine AllReadyH.cons (o := ⟨some 4, .assign (.tmp 53), 4, "merkle.go:109", #[⟨9, .data⟩, ⟨7, .chain⟩, ⟨0, .phase⟩, ⟨1, .phase⟩, ⟨2, .phase⟩, ⟨3, .phase⟩, ⟨4, .phase⟩, ⟨5, .phase⟩, ⟨6, .phase⟩, ⟨7, .phase⟩, ⟨8, .phase⟩, ⟨9, .phase⟩], none⟩) rfl (fun K hK => ?_) AllReadyH.nil
    go_simp
    refine hK.out _ _ (hHeld) (fun hHeld => ?_)
    clear hK K
    try simp only [zP, zQ, zS, zZ, zC]
    refine wpAnyH_done (by kernel_rfl) ?_ _
    clear hHeld
    go_wp2
    go_ret
    exact ⟨by simp, link KB2 hB1⟩
  · refine wt (i := 2) (oi := ⟨some 46, .call { callee := .builtin .len, args := #[.tmp 45], argTypes := #[48] }, 3, "merkle.go:109", #[⟨1, .data⟩], none⟩) (v := .int .i64 (k : Int)) (Or.inl ⟨by rfl, fun w' hSw => by go_simp⟩) hHeld ?_
    try simp only [zP, zQ, zS, zZ, zC]
    refine wt (i := 3) (oi := ⟨some 47, .binOp .eql 3 (.tmp 46) (.const (Value.int IntKind.i64 0)) 3, 4, "merkle.go:109", #[⟨2, .data⟩], none⟩) (v := .bool false) (Or.inl ⟨by rfl, fun w' hSw => by go_simp⟩) hHeld ?_
    try simp only [zP, zQ, zS, zZ, zC]
    refine wt (i := 4) (oi := ⟨some 48, .move (.tmp 47), 4, "merkle.go:109", #[⟨3, .data⟩], none⟩) (v := .bool false) (Or.inl ⟨by rfl, fun w' hSw => by go_simp⟩) hHeld ?_
    try simp only [zP, zQ, zS, zZ, zC]
    refine wt (i := 5) (oi := ⟨some 49, .load 29 (.tmp 2), 29, "merkle.go:109", #[⟨4, .guard⟩], some (4, true)⟩) (v := undef) (Or.inr ⟨by rfl, rfl⟩) hHeld ?_
    try simp only [zP, zQ, zS, zZ, zC]
    refine wt (i := 6) (oi := ⟨some 50, .build 29 #[], 29, "merkle.go:109", #[⟨4, .guard⟩], some (4, true)⟩) (v := undef) (Or.inr ⟨by rfl, rfl⟩) hHeld ?_
    try simp only [zP, zQ, zS, zZ, zC]
    refine wt (i := 7) (oi := ⟨some 51, .call { callee := .value (.func 41), args := #[.const (Value.int IntKind.i64 0), .tmp 50], argTypes := #[3, 29] }, 29, "merkle.go:109", #[⟨6, .data⟩, ⟨4, .chain⟩, ⟨4, .guard⟩], some (4, true)⟩) (v := undef) (Or.inr ⟨by rfl, rfl⟩) hHeld ?_
    try simp only [zP, zQ, zS, zZ, zC]
    refine wt (i := 8) (oi := ⟨some 52, .binOp .eql 29 (.tmp 49) (.tmp 51) 29, 4, "merkle.go:109", #[⟨5, .data⟩, ⟨7, .data⟩, ⟨4, .guard⟩], some (4, true)⟩) (v := undef) (Or.inr ⟨by rfl, rfl⟩) hHeld ?_
    try simp only [zP, zQ, zS, zZ, zC]
    refine wt (i := 9) (oi := ⟨some 53, .pick (.tmp 48) (.tmp 52) (.const (Value.bool false)), 4, "merkle.go:109", #[⟨4, .data⟩, ⟨8, .data⟩], none⟩) (v := .bool false) (Or.inl ⟨by rfl, fun w' hSw => by go_simp⟩) hHeld ?_
    try simp only [zP, zQ, zS, zZ, zC]
    refine wpAnyH_ready (rs := [10]) (by kernel_rfl) (by simp) ?_
    refine AllReadyH.cons (o := ⟨some 4, .assign (.tmp 53), 4, "merkle.go:109", #[⟨9, .data⟩, ⟨7, .chain⟩, ⟨0, .phase⟩, ⟨1, .phase⟩, ⟨2, .phase⟩, ⟨3, .phase⟩, ⟨4, .phase⟩, ⟨5, .phase⟩, ⟨6, .phase⟩, ⟨7, .phase⟩, ⟨8, .phase⟩, ⟨9, .phase⟩], none⟩) rfl (fun K hK => ?_) AllReadyH.nil
    go_simp
    refine hK.out _ _ (hHeld) (fun hHeld => ?_)
    clear hK K
    try simp only [zP, zQ, zS, zZ, zC]
    refine wpAnyH_done (by kernel_rfl) ?_ _
    clear hHeld
    go_wp2
    go_ret
    exact ⟨by simp [hk0], KB2⟩

end Go.Proofs.YtfhfmdnimebegaaDoor

/-
  merkle.under.
-/
namespace Go.Proofs.YtfhfmdnimebegaaDoor
open Go.RowKit
set_option linter.unusedVariables false
set_option linter.unusedSimpArgs false

set_option maxHeartbeats 2000000 in
set_option maxRecDepth 100000 in
theorem under_none (R : List Nat) (hR : Dgt R) (F S : Nat) (hS0 : 0 < S) (hS : S ≤ 4096) (hF : F ≤ S) (Q : Option Addr) (c : Nat) (sa : Option Addr) (k sc : Nat) (w : World) :
    Calls Tryd.prog 50 #[.agg (bytesV R).toArray, .agg #[.int .i64 (F : Int), .int .i64 (S : Int), .slice Q 0 c, .slice sa k sc]] w fun en w' => en = .returned (.bool false) ∧ Below w.heap.size w w' := by
  have HV := Lib.hid (fun w0 (hB : Below w.heap.size w w0) => (show _ from valid_any [] Q 0 c rfl w0 (fun h => absurd rfl h) : Calls Tryd.prog 14 #[.slice Q 0 c] w0 fun e w' => e = .returned (.int .i64 0) ∧ Below w0.heap.size w0 w'))
  have hFS : (F : Int) ≤ (S : Int) := by omega
  have hSz : ¬ (S : Int) = 0 := by omega
  go_enter Tryd.func50, Tryd.ntmps50
  go_upto_region 1 with (fail)
  generalize hw1 : World.alloc _ _ = W0
  have Kp : Blk W0 (w.heap.size + 1) 50 [.int .i64 (F : Int), .int .i64 (S : Int), .slice Q 0 c, .slice sa k sc] := hw1 ▸ blk_new1 w _ _ _
  have Kr : Blk W0 w.heap.size 29 (bytesV R) := hw1 ▸ ((blk_new w _ _).alloc _)
  have KB : Below w.heap.size w W0 := hw1 ▸ (((Below.refl _ _).alloc (Nat.le_refl _) _).alloc (by simp) _)
  clear hw1
  have c1 := Kp.cell (j := 0) rfl
  have c2 := Kp.cell (j := 1) rfl
  have c3 := Kp.cell (j := 2) rfl
  have hpl := Kp.lt
  obtain ⟨pb, hpb⟩ : ∃ pb, w.heap.size + 1 = pb := ⟨_, rfl⟩
  rw [hpb] at Kp c1 c2 c3 hpl ⊢
  have hpw : w.heap.size < pb := by omega
  clear hpb
  go_upto_region 2 with (fail)
  have KX := (Below.refl W0.heap.size W0).alloc (Nat.le_refl _) (.cells #[.int .i64 0] 3)
  have Kn := blk_new W0 3 #[.int .i64 0]
  have Kp1 := Kp.keep KX
  have Kr1 := Kr.keep KX
  have KB1 := link KB KX
  clear c1 c2 c3 Kp Kr KB KX
  obtain ⟨nb, hnb⟩ : ∃ nb, W0.heap.size = nb := ⟨_, rfl⟩
  rw [hnb] at Kn hpl ⊢
  generalize World.alloc W0 _ = W1 at Kn Kp1 Kr1 KB1 ⊢
  have c1 := Kp1.cell (j := 0) rfl
  have c2 := Kp1.cell (j := 1) rfl
  have c3 := Kp1.cell (j := 2) rfl
  have c4 := Kn.cell (j := 0) rfl
  clear hnb
  go_upto_region 4 with (go_at_call 14; refine (HV.out _ KB1).mono ?_; rintro en W2 ⟨rfl, hB2⟩)
  have Kp2 := Kp1.keep hB2
  have Kr2 := Kr1.keep hB2
  have Kn2 := Kn.keep hB2
  have KB2 := link KB1 hB2
  clear c1 c2 c3 c4 Kn Kp1 Kr1 KB1 hB2 HV
  have c2 := Kp2.cell (j := 1) rfl
  have c4 := Kn2.cell (j := 0) rfl
  have c5 := Kp2.cell (j := 3) rfl
  go_wp2
  go_ret
  exact ⟨rfl, KB2⟩

set_option maxHeartbeats 4000000 in
set_option maxRecDepth 100000 in
theorem under_main (R : List Nat) (hR : Dgt R) (F S n : Nat) (lf : List Lf) (hl : lf.length = n) (hn : 0 < n) (hS : S ≤ 4096) (hFS : F + n ≤ S) (hv : validM lf = 0) (b off c : Nat) (hc : n ≤ c) (sa : Option Addr) (k sc : Nat) (sd : List (List Nat)) (hd : Dgts sd) (w : World) (hG : Glob w) (hL : Lvs w b off lf) (hsd : SdV w w.heap.size (.slice sa k sc) sd) :
    Calls Tryd.prog 50 #[.agg (bytesV R).toArray, .agg #[.int .i64 (F : Int), .int .i64 (S : Int), .slice (some ⟨b, off, none⟩) n c, .slice sa k sc]] w
      fun en w' => en = .returned (.bool (decide ((bldM lf F 0 S (some sd)).2 = some []) && decide (R = topD S (bldM lf F 0 S (some sd)).1))) ∧ Below w.heap.size w w' := by
  have HV := Lib.hid (fun w0 (hB : Below w.heap.size w w0) => (show _ from hv ▸ valid_any lf (some ⟨b, off, none⟩) n c hl w0 (fun _ => ⟨b, off, rfl, hL.keep hB⟩) : Calls Tryd.prog 14 #[.slice (some ⟨b, off, none⟩) n c] w0 fun e w' => e = .returned (.int .i64 0) ∧ Below w0.heap.size w0 w'))
  obtain ⟨_, hfit, _⟩ := valid_zero hv
  have hSm := small_of hfit
  have hbd := bld_dgt lf F 0 S (some sd) (by omega) (fun sd' h => by injection h with h; exact h ▸ hd)
  have HX := Lib.hid (fun (W4 : World) (pb nb sb eb cb : Nat) (hE : BE W4 eb pb nb sb cb F (S : Int) (.slice (some ⟨b, off, none⟩) n c) (.slice sa k sc) n) (h1 : pb < W4.heap.size ∧ pb ≠ eb ∧ pb ≠ sb) (h2 : nb < W4.heap.size ∧ nb ≠ eb ∧ nb ≠ sb) (h3 : cb < W4.heap.size ∧ cb ≠ eb ∧ cb ≠ sb) (h4 : eb < W4.heap.size ∧ w.heap.size ≤ eb) (h5 : sb < W4.heap.size ∧ w.heap.size ≤ sb) (h6 : sb ≠ eb) (hK : Below w.heap.size w W4) (hLf : Left W4 w.heap.size eb sb (some sd)) =>
    (show Calls Tryd.prog 68 #[.int .i64 0, .int .i64 (S : Int), .pointer (some ⟨eb, 0, none⟩), .pointer (some ⟨pb, 0, none⟩), .pointer (some ⟨nb, 0, none⟩), .pointer (some ⟨sb, 0, none⟩), .pointer (some ⟨cb, 0, none⟩)] W4
      fun en w' => en = .returned (.agg (bytesV (bldM lf F 0 S (some sd)).1).toArray) ∧ Keeps (Xs eb sb) W4.heap.size W4 w' ∧ Left w' w.heap.size eb sb (bldM lf F 0 S (some sd)).2
     from bld_any lf F W4 W4.heap.size w.heap.size eb pb nb sb cb n b off c (S : Int) (.slice sa k sc) hE h1 h2 h3 h4 h5 h6 hK.size (Nat.le_refl _)
      (fun w' hs => (fun hB => ⟨hG.keep hB, hL.keep hB⟩) (hs.lower hK hK.size (fun j hj => hj.elim (fun e => by omega) (fun e => by omega)))) hSm hl hc (by omega) S 0 S (by omega) (by omega) hS W4 (some sd) (fun sd' h => by injection h with h; exact h ▸ hd) (Keeps.refl _ _ _) hLf))
  have hG' := hG
  obtain ⟨⟨D, o2⟩, hr⟩ : ∃ r, bldM lf F 0 S (some sd) = r := ⟨_, rfl⟩
  rw [hr] at HX hbd ⊢
  dsimp only at HX hbd ⊢
  have hD := hbd.1
  have HT := Lib.hid (fun (w0 : World) (g : Below w.heap.size w w0) => top_many S (by omega) hS D hD w0 (hG.keep g))
  have hT : Dgt (topD S D) := topD_dgt _ _
  generalize topD S D = T at HT hT ⊢
  have heq := fun w0 => equal_16 w0 R T hR hT
  have hvR : (bytesV R).length = 16 := by rw [bytesV_length]; exact hR.1
  have hsR := size_dgR R hR.1
  have hvD : (bytesV D).length = 16 := by rw [bytesV_length]; exact hD.1
  have hsD := size_dgR D hD.1
  have hz1 := zero_dig'
  have hz16 : (bytesV z16).toArray.toList.length = 16 := rfl
  have hmf : ∀ (fn : Fn) (first cap : Array Value) (w : World), (Instr.makeFunc fn first cap).run Tryd.prog w = .ok (.func fn first cap) w := fun _ _ _ _ => rfl
  have hSF : (F : Int) ≤ (S : Int) - (n : Int) := by omega
  have hSz : ¬ (S : Int) = 0 := by omega
  have hnz : ¬ (n : Int) = 0 := by omega
  clear hr hbd hl hd hG hL hv hfit hSm hFS hG'
  go_enter Tryd.func50, Tryd.ntmps50
  go_upto_region 1 with (fail)
  generalize hw1 : World.alloc _ _ = W0
  have Kp : Blk W0 (w.heap.size + 1) 50 [.int .i64 (F : Int), .int .i64 (S : Int), .slice (some ⟨b, off, none⟩) n c, .slice sa k sc] := hw1 ▸ blk_new1 w _ _ _
  have Kr : Blk W0 w.heap.size 29 (bytesV R) := hw1 ▸ ((blk_new w _ _).alloc _)
  have KB : Below w.heap.size w W0 := hw1 ▸ (((Below.refl _ _).alloc (Nat.le_refl _) _).alloc (by simp) _)
  clear hw1
  have c1 := Kp.cell (j := 0) rfl
  have c2 := Kp.cell (j := 1) rfl
  have c3 := Kp.cell (j := 2) rfl
  have hpl := Kp.lt
  obtain ⟨pb, hpb⟩ : ∃ pb, w.heap.size + 1 = pb := ⟨_, rfl⟩
  rw [hpb] at Kp c1 c2 c3 hpl ⊢
  have hpw : w.heap.size < pb := by omega
  clear hpb
  go_upto_region 2 with (fail)
  have KX := (Below.refl W0.heap.size W0).alloc (Nat.le_refl _) (.cells #[.int .i64 (n : Int)] 3)
  have Kn := blk_new W0 3 #[.int .i64 (n : Int)]
  have Kp1 := Kp.keep KX
  have Kr1 := Kr.keep KX
  have KB1 := link KB KX
  clear c1 c2 c3 Kp Kr KB KX
  obtain ⟨nb, hnb⟩ : ∃ nb, W0.heap.size = nb := ⟨_, rfl⟩
  rw [hnb] at Kn hpl ⊢
  generalize World.alloc W0 _ = W1 at Kn Kp1 Kr1 KB1 ⊢
  have c1 := Kp1.cell (j := 0) rfl
  have c2 := Kp1.cell (j := 1) rfl
  have c3 := Kp1.cell (j := 2) rfl
  have c4 := Kn.cell (j := 0) rfl
  clear hnb
  go_upto_region 4 with (go_at_call 14; refine (HV.out _ KB1).mono ?_; rintro en W2 ⟨rfl, hB2⟩)
  have Kp2 := Kp1.keep hB2
  have Kr2 := Kr1.keep hB2
  have Kn2 := Kn.keep hB2
  have KB2 := link KB1 hB2
  clear c1 c2 c3 c4 Kn Kp1 Kr1 KB1 hB2 HV
  have c2 := Kp2.cell (j := 1) rfl
  have c4 := Kn2.cell (j := 0) rfl
  have c5 := Kp2.cell (j := 3) rfl
  go_upto_region 11 with (fail)
  generalize hw4 : World.alloc _ _ = W4
  have Ks4 : Blk W4 W2.heap.size 48 [.slice sa k sc] := hw4 ▸ ((blk_new W2 _ _).alloc _).alloc _
  have Ke4 : Blk W4 (W2.heap.size + 1) 4 [.bool true] := hw4 ▸ (blk_at2 (by simp) _ _).alloc _
  have Kc4 : Blk W4 (W2.heap.size + 1 + 1) 113 [.func (.func 68) #[] #[.pointer (some ⟨W2.heap.size + 1, 0, none⟩), .pointer (some ⟨pb, 0, none⟩), .pointer (some ⟨nb, 0, none⟩), .pointer (some ⟨W2.heap.size, 0, none⟩), .pointer (some ⟨W2.heap.size + 1 + 1, 0, none⟩)]] := hw4 ▸ blk_at2 (by simp) _ _
  have KX : Below W2.heap.size W2 W4 := hw4 ▸ ((((Below.refl _ _).alloc (Nat.le_refl _) _).alloc (by simp) _).alloc (by simp; omega) _)
  have hp2 := Kp2.lt
  have hn2 := Kn2.lt
  have Kp4 := Kp2.keep KX
  have Kr4 := Kr2.keep KX
  have Kn4 := Kn2.keep KX
  have KB4 := link KB2 KX
  have hw2 := KB2.size
  clear hw4 c2 c4 c5 Kp2 Kr2 Kn2 KX KB2
  obtain ⟨sb, hsb⟩ : ∃ sb, W2.heap.size = sb := ⟨_, rfl⟩
  rw [hsb] at Ks4 Ke4 Kc4 hp2 hn2 hw2 ⊢
  obtain ⟨eb, heb⟩ : ∃ eb, sb + 1 = eb := ⟨_, rfl⟩
  rw [heb] at Ke4 Kc4 ⊢
  obtain ⟨cb, hcb⟩ : ∃ cb, eb + 1 = cb := ⟨_, rfl⟩
  rw [hcb] at Kc4 ⊢
  have hcl := Kc4.lt
  have HY := Lib.hid (HX.out W4 pb nb sb eb cb ⟨Kp4, Kn4, Kc4⟩ (by omega) (by omega) (by omega) (by omega) (by omega) (by omega) KB4 ⟨Ke4, _, Ks4, hsd.keep KB4⟩)
  have hse : sb < eb := by omega
  have hec : eb < cb := by omega
  have cc := Kc4.cell (j := 0) rfl
  have cS := Kp4.cell (j := 1) rfl
  clear hsb heb hcb Ks4 Ke4 Kc4 Kn4 HX
  go_upto_region 12 with (first
    | (go_at_call 68; refine HY.out.mono ?_; rintro en W5 ⟨rfl, hK5, hL5⟩)
    | (refine store_blk rfl 29 (.tmp 9) (.tmp 62) rfl (blk_new W5 29 (bytesV z16).toArray) rfl rfl (m := 16) (by kernel_rfl) hvD hz16 (bytesV_cells D) ?_; intro W6 K9 O6))
  have hs5 := hK5.size
  have hrl := Kr4.lt
  have Kp6 := O6.2.1 _ _ _ (by omega) ((hK5.blk Kp4 (by omega) (fun h => h.elim (by omega) (by omega))).alloc (.cells (bytesV z16).toArray 29))
  have Kr6 := O6.2.1 _ _ _ (by omega) ((hK5.blk Kr4 hrl (fun h => h.elim (by omega) (by omega))).alloc (.cells (bytesV z16).toArray 29))
  have KB6 := O6.2.2 _ _ (by omega) ((hK5.lower KB4 (by omega) (fun j hj => hj.elim (fun e => by omega) (fun e => by omega))).alloc (by omega) (.cells (bytesV z16).toArray 29))
  have hL6 := (hL5.keep ((Below.refl W5.heap.size W5).alloc (Nat.le_refl _) (.cells (bytesV z16).toArray 29))).only O6 (by omega) (by omega) (by omega)
  clear Kp4 Kr4 KB4 hK5 hL5 O6 cc cS HY
  generalize W5.heap.size = tb at K9 hs5 ⊢
  have hHeld : True := trivial
  refine wp_region_held_drew (S := fun w' => Below W6.drew.heap.size W6.drew w') (by kernel_rfl) (Below.refl _ _) (fun _ => ?_)
  have hHeld : Below W6.drew.heap.size W6.drew W6.drew := Below.refl _ _
  replace Kp6 := Kp6.drew
  replace Kr6 := Kr6.drew
  replace K9 := K9.drew
  replace hL6 := hL6.drew
  replace KB6 := below_drew KB6
  generalize W6.drew = V0 at hHeld Kp6 Kr6 K9 hL6 KB6 ⊢
  have CS : ∀ w', Below V0.heap.size V0 w' → w'.cell? ⟨pb, 1, none⟩ = some (.int .i64 (S : Int)) := fun w' h => (h.cell Kp6.lt).trans (Kp6.cell (j := 1) rfl)
  rcases o2 with _ | _ | ⟨d, r⟩
  · have hL7 : Blk V0 eb 4 [.bool false] := hL6
    have CE0 : ∀ w', Below V0.heap.size V0 w' → w'.cell? ⟨eb, 0, none⟩ = some (.bool false) := fun w' h => (h.cell (Blk.lt hL7)).trans (Blk.cell hL7 (j := 0) rfl)
    refine wt (i := 0) (oi := ⟨some 63, .load 4 (.tmp 7), 4, "merkle.go:134", #[], none⟩) (v := .bool false) (Or.inl ⟨by rfl, fun w' hSw => by have hc := CE0 w' hSw; go_simp⟩) hHeld ?_
    try simp only [zP, zQ, zS, zZ, zC]
    refine wt (i := 1) (oi := ⟨some 64, .move (.tmp 63), 4, "merkle.go:134", #[⟨0, .data⟩], none⟩) (v := .bool false) (Or.inl ⟨by rfl, fun w' hSw => by go_simp⟩) hHeld ?_
    try simp only [zP, zQ, zS, zZ, zC]
    refine wt (i := 2) (oi := ⟨some 65, .load 48 (.tmp 6), 48, "merkle.go:134", #[⟨1, .guard⟩], some (1, true)⟩) (v := undef) (Or.inr ⟨by rfl, rfl⟩) hHeld ?_
    try simp only [zP, zQ, zS, zZ, zC]
    refine wt (i := 3) (oi := ⟨some 66, .call { callee := .builtin .len, args := #[.tmp 65], argTypes := #[48] }, 3, "merkle.go:134", #[⟨2, .data⟩, ⟨1, .guard⟩], some (1, true)⟩) (v := undef) (Or.inr ⟨by rfl, rfl⟩) hHeld ?_
    try simp only [zP, zQ, zS, zZ, zC]
    refine wt (i := 4) (oi := ⟨some 67, .binOp .eql 3 (.tmp 66) (.const (Value.int IntKind.i64 0)) 3, 4, "merkle.go:134", #[⟨3, .data⟩, ⟨1, .guard⟩], some (1, true)⟩) (v := undef) (Or.inr ⟨by rfl, rfl⟩) hHeld ?_
    try simp only [zP, zQ, zS, zZ, zC]
    refine wt (i := 5) (oi := ⟨some 68, .pick (.tmp 64) (.tmp 67) (.const (Value.bool false)), 4, "merkle.go:134", #[⟨1, .data⟩, ⟨4, .data⟩], none⟩) (v := .bool false) (Or.inl ⟨by rfl, fun w' hSw => by go_simp⟩) hHeld ?_
    try simp only [zP, zQ, zS, zZ, zC]
    refine wt (i := 6) (oi := ⟨some 69, .move (.tmp 68), 4, "merkle.go:134", #[⟨5, .data⟩, ⟨1, .chain⟩], none⟩) (v := .bool false) (Or.inl ⟨by rfl, fun w' hSw => by go_simp⟩) hHeld ?_
    try simp only [zP, zQ, zS, zZ, zC]
    refine wt (i := 7) (oi := ⟨some 70, .load 29 (.tmp 2), 29, "merkle.go:134", #[⟨6, .guard⟩], some (6, true)⟩) (v := undef) (Or.inr ⟨by rfl, rfl⟩) hHeld ?_
    try simp only [zP, zQ, zS, zZ, zC]
    refine wt (i := 8) (oi := ⟨some 71, .fieldAddr 50 (.tmp 3) 1, 0, "merkle.go:134", #[⟨6, .guard⟩], some (6, true)⟩) (v := undef) (Or.inr ⟨by rfl, rfl⟩) hHeld ?_
    try simp only [zP, zQ, zS, zZ, zC]
    refine wt (i := 9) (oi := ⟨some 72, .load 3 (.tmp 71), 3, "merkle.go:134", #[⟨8, .data⟩, ⟨6, .guard⟩], some (6, true)⟩) (v := undef) (Or.inr ⟨by rfl, rfl⟩) hHeld ?_
    try simp only [zP, zQ, zS, zZ, zC]
    refine wt (i := 10) (oi := ⟨some 73, .load 29 (.tmp 9), 29, "merkle.go:134", #[⟨6, .guard⟩], some (6, true)⟩) (v := undef) (Or.inr ⟨by rfl, rfl⟩) hHeld ?_
    try simp only [zP, zQ, zS, zZ, zC]
    refine wt (i := 11) (oi := ⟨some 74, .call { callee := .value (.func 41), args := #[.tmp 72, .tmp 73], argTypes := #[3, 29] }, 29, "merkle.go:134", #[⟨9, .data⟩, ⟨10, .data⟩, ⟨6, .chain⟩, ⟨6, .guard⟩], some (6, true)⟩) (v := undef) (Or.inr ⟨by rfl, rfl⟩) hHeld ?_
    try simp only [zP, zQ, zS, zZ, zC]
    refine wt (i := 12) (oi := ⟨some 75, .binOp .eql 29 (.tmp 70) (.tmp 74) 29, 4, "merkle.go:134", #[⟨7, .data⟩, ⟨11, .data⟩, ⟨6, .guard⟩], some (6, true)⟩) (v := undef) (Or.inr ⟨by rfl, rfl⟩) hHeld ?_
    try simp only [zP, zQ, zS, zZ, zC]
    refine wt (i := 13) (oi := ⟨some 76, .pick (.tmp 69) (.tmp 75) (.const (Value.bool false)), 4, "merkle.go:134", #[⟨6, .data⟩, ⟨12, .data⟩], none⟩) (v := .bool false) (Or.inl ⟨by rfl, fun w' hSw => by go_simp⟩) hHeld ?_
    try simp only [zP, zQ, zS, zZ, zC]
    refine wpAnyH_ready (rs := [14]) (by kernel_rfl) (by simp) ?_
    refine AllReadyH.cons (o := ⟨some 4, .assign (.tmp 76), 4, "merkle.go:134", #[⟨13, .data⟩, ⟨11, .chain⟩, ⟨0, .phase⟩, ⟨1, .phase⟩, ⟨2, .phase⟩, ⟨3, .phase⟩, ⟨4, .phase⟩, ⟨5, .phase⟩, ⟨6, .phase⟩, ⟨7, .phase⟩, ⟨8, .phase⟩, ⟨9, .phase⟩, ⟨10, .phase⟩, ⟨11, .phase⟩, ⟨12, .phase⟩, ⟨13, .phase⟩], none⟩) rfl (fun K hK => ?_) AllReadyH.nil
    go_simp
    refine hK.out _ _ (hHeld) (fun hHeld => ?_)
    clear hK K
    try simp only [zP, zQ, zS, zZ, zC]
    refine wpAnyH_done (by kernel_rfl) ?_ _
    clear hHeld
    go_wp2
    go_ret
    exact ⟨by simp, KB6⟩
  · have CE0 : ∀ w', Below V0.heap.size V0 w' → w'.cell? ⟨eb, 0, none⟩ = some (.bool true) := fun w' h => (h.cell (Blk.lt hL6.1)).trans (Blk.cell hL6.1 (j := 0) rfl)
    obtain ⟨_, v6, hs6, p6, sc6, rfl, _, _⟩ := hL6
    have CS0 : ∀ w', Below V0.heap.size V0 w' → w'.cell? ⟨sb, 0, none⟩ = some (.slice p6 _ sc6) := fun w' h => (h.cell hs6.lt).trans (hs6.cell (j := 0) rfl)
    refine wt (i := 0) (oi := ⟨some 63, .load 4 (.tmp 7), 4, "merkle.go:134", #[], none⟩) (v := .bool true) (Or.inl ⟨by rfl, fun w' hSw => by have hc := CE0 w' hSw; go_simp⟩) hHeld ?_
    try simp only [zP, zQ, zS, zZ, zC]
    refine wt (i := 1) (oi := ⟨some 64, .move (.tmp 63), 4, "merkle.go:134", #[⟨0, .data⟩], none⟩) (v := .bool true) (Or.inl ⟨by rfl, fun w' hSw => by go_simp⟩) hHeld ?_
    try simp only [zP, zQ, zS, zZ, zC]
    refine wt (i := 2) (oi := ⟨some 65, .load 48 (.tmp 6), 48, "merkle.go:134", #[⟨1, .guard⟩], some (1, true)⟩) (v := .slice p6 0 sc6) (Or.inl ⟨by rfl, fun w' hSw => by have hc := CS0 w' hSw; go_simp⟩) hHeld ?_
    try simp only [zP, zQ, zS, zZ, zC]
    refine wt (i := 3) (oi := ⟨some 66, .call { callee := .builtin .len, args := #[.tmp 65], argTypes := #[48] }, 3, "merkle.go:134", #[⟨2, .data⟩, ⟨1, .guard⟩], some (1, true)⟩) (v := .int .i64 0) (Or.inl ⟨by rfl, fun w' hSw => by go_simp⟩) hHeld ?_
    try simp only [zP, zQ, zS, zZ, zC]
    refine wt (i := 4) (oi := ⟨some 67, .binOp .eql 3 (.tmp 66) (.const (Value.int IntKind.i64 0)) 3, 4, "merkle.go:134", #[⟨3, .data⟩, ⟨1, .guard⟩], some (1, true)⟩) (v := .bool true) (Or.inl ⟨by rfl, fun w' hSw => by go_simp⟩) hHeld ?_
    try simp only [zP, zQ, zS, zZ, zC]
    refine wt (i := 5) (oi := ⟨some 68, .pick (.tmp 64) (.tmp 67) (.const (Value.bool false)), 4, "merkle.go:134", #[⟨1, .data⟩, ⟨4, .data⟩], none⟩) (v := .bool true) (Or.inl ⟨by rfl, fun w' hSw => by go_simp⟩) hHeld ?_
    try simp only [zP, zQ, zS, zZ, zC]
    refine wt (i := 6) (oi := ⟨some 69, .move (.tmp 68), 4, "merkle.go:134", #[⟨5, .data⟩, ⟨1, .chain⟩], none⟩) (v := .bool true) (Or.inl ⟨by rfl, fun w' hSw => by go_simp⟩) hHeld ?_
    try simp only [zP, zQ, zS, zZ, zC]
    refine wt (i := 7) (oi := ⟨some 70, .load 29 (.tmp 2), 29, "merkle.go:134", #[⟨6, .guard⟩], some (6, true)⟩) (v := _) (yieldsIf_load_mid (by rfl) _ _ rfl _ 0 rfl _ _ (fun w' hSw => rng_blk (Kr6) w' hSw) Tryd.underlying29 rfl hsR) hHeld ?_
    try simp only [zP, zQ, zS, zZ, zC]
    refine wt (i := 8) (oi := ⟨some 71, .fieldAddr 50 (.tmp 3) 1, 0, "merkle.go:134", #[⟨6, .guard⟩], some (6, true)⟩) (v := .pointer (some ⟨pb, 1, none⟩)) (Or.inl ⟨by rfl, fun w' hSw => by go_simp⟩) hHeld ?_
    try simp only [zP, zQ, zS, zZ, zC]
    refine wt (i := 9) (oi := ⟨some 72, .load 3 (.tmp 71), 3, "merkle.go:134", #[⟨8, .data⟩, ⟨6, .guard⟩], some (6, true)⟩) (v := .int .i64 (S : Int)) (Or.inl ⟨by rfl, fun w' hSw => by have hc := CS w' hSw; go_simp⟩) hHeld ?_
    try simp only [zP, zQ, zS, zZ, zC]
    refine wt (i := 10) (oi := ⟨some 73, .load 29 (.tmp 9), 29, "merkle.go:134", #[⟨6, .guard⟩], some (6, true)⟩) (v := _) (yieldsIf_load_mid (by rfl) _ _ rfl _ 0 rfl _ _ (fun w' hSw => rng_blk (K9) w' hSw) Tryd.underlying29 rfl hsD) hHeld ?_
    try simp only [zP, zQ, zS, zZ, zC]
    refine wpAnyH_ready (rs := [11]) (by kernel_rfl) (by simp) ?_
    refine AllReadyH.cons (o := ⟨some 74, .call { callee := .value (.func 41), args := #[.tmp 72, .tmp 73], argTypes := #[3, 29] }, 29, "merkle.go:134", #[⟨9, .data⟩, ⟨10, .data⟩, ⟨6, .chain⟩, ⟨6, .guard⟩], some (6, true)⟩) rfl (fun K hK => ?_) AllReadyH.nil
    rw [if_pos (by rfl)]
    go_simp
    refine (HT.out V0 KB6).mono ?_
    rintro en V1 ⟨rfl, hB1⟩
    dsimp only
    refine hK.out _ _ hB1 (fun hHeld => ?_)
    clear hK K
    try simp only [zP, zQ, zS, zZ, zC]
    refine wt (i := 12) (oi := ⟨some 75, .binOp .eql 29 (.tmp 70) (.tmp 74) 29, 4, "merkle.go:134", #[⟨7, .data⟩, ⟨11, .data⟩, ⟨6, .guard⟩], some (6, true)⟩) (v := .bool (decide (R = T))) (Or.inl ⟨by rfl, fun w' hSw => by go_simp⟩) hHeld ?_
    try simp only [zP, zQ, zS, zZ, zC]
    refine wt (i := 13) (oi := ⟨some 76, .pick (.tmp 69) (.tmp 75) (.const (Value.bool false)), 4, "merkle.go:134", #[⟨6, .data⟩, ⟨12, .data⟩], none⟩) (v := .bool (decide (R = T))) (Or.inl ⟨by rfl, fun w' hSw => by go_simp⟩) hHeld ?_
    try simp only [zP, zQ, zS, zZ, zC]
    refine wpAnyH_ready (rs := [14]) (by kernel_rfl) (by simp) ?_
    refine AllReadyH.cons (o := ⟨some 4, .assign (.tmp 76), 4, "merkle.go:134", #[⟨13, .data⟩, ⟨11, .chain⟩, ⟨0, .phase⟩, ⟨1, .phase⟩, ⟨2, .phase⟩, ⟨3, .phase⟩, ⟨4, .phase⟩, ⟨5, .phase⟩, ⟨6, .phase⟩, ⟨7, .phase⟩, ⟨8, .phase⟩, ⟨9, .phase⟩, ⟨10, .phase⟩, ⟨11, .phase⟩, ⟨12, .phase⟩, ⟨13, .phase⟩], none⟩) rfl (fun K hK => ?_) AllReadyH.nil
    go_simp
    refine hK.out _ _ (hHeld) (fun hHeld => ?_)
    clear hK K
    try simp only [zP, zQ, zS, zZ, zC]
    refine wpAnyH_done (by kernel_rfl) ?_ _
    clear hHeld
    go_wp2
    go_ret
    exact ⟨by simp, link KB6 hB1⟩
  · have CE0 : ∀ w', Below V0.heap.size V0 w' → w'.cell? ⟨eb, 0, none⟩ = some (.bool true) := fun w' h => (h.cell (Blk.lt hL6.1)).trans (Blk.cell hL6.1 (j := 0) rfl)
    obtain ⟨_, v6, hs6, p6, sc6, rfl, _, _⟩ := hL6
    have CS0 : ∀ w', Below V0.heap.size V0 w' → w'.cell? ⟨sb, 0, none⟩ = some (.slice p6 _ sc6) := fun w' h => (h.cell hs6.lt).trans (hs6.cell (j := 0) rfl)
    refine wt (i := 0) (oi := ⟨some 63, .load 4 (.tmp 7), 4, "merkle.go:134", #[], none⟩) (v := .bool true) (Or.inl ⟨by rfl, fun w' hSw => by have hc := CE0 w' hSw; go_simp⟩) hHeld ?_
    try simp only [zP, zQ, zS, zZ, zC]
    refine wt (i := 1) (oi := ⟨some 64, .move (.tmp 63), 4, "merkle.go:134", #[⟨0, .data⟩], none⟩) (v := .bool true) (Or.inl ⟨by rfl, fun w' hSw => by go_simp⟩) hHeld ?_
    try simp only [zP, zQ, zS, zZ, zC]
    refine wt (i := 2) (oi := ⟨some 65, .load 48 (.tmp 6), 48, "merkle.go:134", #[⟨1, .guard⟩], some (1, true)⟩) (v := .slice p6 (r.length + 1) sc6) (Or.inl ⟨by rfl, fun w' hSw => by have hc := CS0 w' hSw; go_simp⟩) hHeld ?_
    try simp only [zP, zQ, zS, zZ, zC]
    refine wt (i := 3) (oi := ⟨some 66, .call { callee := .builtin .len, args := #[.tmp 65], argTypes := #[48] }, 3, "merkle.go:134", #[⟨2, .data⟩, ⟨1, .guard⟩], some (1, true)⟩) (v := .int .i64 ((r.length + 1 : Nat) : Int)) (Or.inl ⟨by rfl, fun w' hSw => by go_simp⟩) hHeld ?_
    try simp only [zP, zQ, zS, zZ, zC]
    refine wt (i := 4) (oi := ⟨some 67, .binOp .eql 3 (.tmp 66) (.const (Value.int IntKind.i64 0)) 3, 4, "merkle.go:134", #[⟨3, .data⟩, ⟨1, .guard⟩], some (1, true)⟩) (v := .bool false) (Or.inl ⟨by rfl, fun w' hSw => by go_simp; try omega⟩) hHeld ?_
    try simp only [zP, zQ, zS, zZ, zC]
    refine wt (i := 5) (oi := ⟨some 68, .pick (.tmp 64) (.tmp 67) (.const (Value.bool false)), 4, "merkle.go:134", #[⟨1, .data⟩, ⟨4, .data⟩], none⟩) (v := .bool false) (Or.inl ⟨by rfl, fun w' hSw => by go_simp⟩) hHeld ?_
    try simp only [zP, zQ, zS, zZ, zC]
    refine wt (i := 6) (oi := ⟨some 69, .move (.tmp 68), 4, "merkle.go:134", #[⟨5, .data⟩, ⟨1, .chain⟩], none⟩) (v := .bool false) (Or.inl ⟨by rfl, fun w' hSw => by go_simp⟩) hHeld ?_
    try simp only [zP, zQ, zS, zZ, zC]
    refine wt (i := 7) (oi := ⟨some 70, .load 29 (.tmp 2), 29, "merkle.go:134", #[⟨6, .guard⟩], some (6, true)⟩) (v := undef) (Or.inr ⟨by rfl, rfl⟩) hHeld ?_
    try simp only [zP, zQ, zS, zZ, zC]
    refine wt (i := 8) (oi := ⟨some 71, .fieldAddr 50 (.tmp 3) 1, 0, "merkle.go:134", #[⟨6, .guard⟩], some (6, true)⟩) (v := undef) (Or.inr ⟨by rfl, rfl⟩) hHeld ?_
    try simp only [zP, zQ, zS, zZ, zC]
    refine wt (i := 9) (oi := ⟨some 72, .load 3 (.tmp 71), 3, "merkle.go:134", #[⟨8, .data⟩, ⟨6, .guard⟩], some (6, true)⟩) (v := undef) (Or.inr ⟨by rfl, rfl⟩) hHeld ?_
    try simp only [zP, zQ, zS, zZ, zC]
    refine wt (i := 10) (oi := ⟨some 73, .load 29 (.tmp 9), 29, "merkle.go:134", #[⟨6, .guard⟩], some (6, true)⟩) (v := undef) (Or.inr ⟨by rfl, rfl⟩) hHeld ?_
    try simp only [zP, zQ, zS, zZ, zC]
    refine wt (i := 11) (oi := ⟨some 74, .call { callee := .value (.func 41), args := #[.tmp 72, .tmp 73], argTypes := #[3, 29] }, 29, "merkle.go:134", #[⟨9, .data⟩, ⟨10, .data⟩, ⟨6, .chain⟩, ⟨6, .guard⟩], some (6, true)⟩) (v := undef) (Or.inr ⟨by rfl, rfl⟩) hHeld ?_
    try simp only [zP, zQ, zS, zZ, zC]
    refine wt (i := 12) (oi := ⟨some 75, .binOp .eql 29 (.tmp 70) (.tmp 74) 29, 4, "merkle.go:134", #[⟨7, .data⟩, ⟨11, .data⟩, ⟨6, .guard⟩], some (6, true)⟩) (v := undef) (Or.inr ⟨by rfl, rfl⟩) hHeld ?_
    try simp only [zP, zQ, zS, zZ, zC]
    refine wt (i := 13) (oi := ⟨some 76, .pick (.tmp 69) (.tmp 75) (.const (Value.bool false)), 4, "merkle.go:134", #[⟨6, .data⟩, ⟨12, .data⟩], none⟩) (v := .bool false) (Or.inl ⟨by rfl, fun w' hSw => by go_simp⟩) hHeld ?_
    try simp only [zP, zQ, zS, zZ, zC]
    refine wpAnyH_ready (rs := [14]) (by kernel_rfl) (by simp) ?_
    refine AllReadyH.cons (o := ⟨some 4, .assign (.tmp 76), 4, "merkle.go:134", #[⟨13, .data⟩, ⟨11, .chain⟩, ⟨0, .phase⟩, ⟨1, .phase⟩, ⟨2, .phase⟩, ⟨3, .phase⟩, ⟨4, .phase⟩, ⟨5, .phase⟩, ⟨6, .phase⟩, ⟨7, .phase⟩, ⟨8, .phase⟩, ⟨9, .phase⟩, ⟨10, .phase⟩, ⟨11, .phase⟩, ⟨12, .phase⟩, ⟨13, .phase⟩], none⟩) rfl (fun K hK => ?_) AllReadyH.nil
    go_simp
    refine hK.out _ _ (hHeld) (fun hHeld => ?_)
    clear hK K
    try simp only [zP, zQ, zS, zZ, zC]
    refine wpAnyH_done (by kernel_rfl) ?_ _
    clear hHeld
    go_wp2
    go_ret
    exact ⟨by simp, KB6⟩

end Go.Proofs.YtfhfmdnimebegaaDoor
