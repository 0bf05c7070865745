/-
  The specification's tree, Valid and Root. Conditions: as each theorem states them; no axiom beyond propext, Classical.choice, Quot.sound.
-/
import Derived.Test.YtfhfmdnimebegaaDoorEw
import Derived.Test.YtfhfmdnimebegaaDoorE3
import Derived.Test.YtfhfmdnimebegaaDoorE2
import Derived.Test.YtfhfmdnimebegaaDoorE4
import Derived.Test.YtfhfmdnimebegaaDoorE5
import Derived.Sort.Walk0

/-
  The reference's Tree: of.
-/
namespace Go.Proofs.YtfhfmdnimebegaaDoor
open Go.RowKit
set_option linter.unusedVariables false
set_option linter.unusedSimpArgs false

theorem strinfo2 : (Tryd.prog.info? 9).map (fun i => (i.zero, i.size, i.bytes)) = some (some (.string ByteArray.empty), 1, 16) := by kernel_rfl
/-- A slice of strings of one's own. -/
def OwnS (w : World) (B : Nat) (v : Value) (l : List ByteArray) : Prop := w.ownsRow B 9 1 v l.length (strsV l)
theorem strsV_append (a b : List ByteArray) : strsV (a ++ b) = strsV a ++ strsV b := by simp [strsV]
theorem push_s_wp {w : World} {B : Nat} {o : Oper} {a : Act} {K : Act → World → Prop} {Q : Exit → Act → World → Prop} (s x : Operand)
    (ho : o.op = .call { callee := .builtin .append, args := #[s, x], argTypes := #[47, 47] })
    (l : List ByteArray) (y : ByteArray) (v : Value) (hs : a.eval s = v) (hown : OwnS w B v l) (hB : B ≤ w.heap.size)
    (c : Nat) (hx : a.eval x = .slice (some ⟨w.heap.size, 0, none⟩) 1 c) (hl : l.length ≤ 1000000000)
    (h : ∀ v' w', OwnS w' B v' (l ++ [y]) → v' ≠ .slice none 0 0 → (w.alloc (.cells #[.string y] 9)).grownBy w' v.ownBlock → K (a.put o.dst v') w') :
    o.wp Tryd.prog a (w.alloc (.cells #[.string y] 9)) K Q := by
  obtain ⟨i0, hi, hz0, hz1, hz2⟩ := info_parts strinfo2
  refine wp_append_own _ s x 47 ho B 9 i0 (.string ByteArray.empty) 1 16 Tryd.underlying47 hi hz0 hz1 hz2 rfl (by decide) v l.length (strsV l) hs (World.ownsRow.alloc hown _) ⟨w.heap.size, 0, none⟩ 1 c (strsV [y]) hx rfl ?c1 ?c2 ?c3 ?c4 ?c5 ?_
  case c1 => intro j u hj; rw [Addr.add_mid, Nat.zero_add]; exact (blk_new w 9 #[.string y]).cell (by simpa [strsV] using hj)
  case c2 => intro u hu; simp [strsV] at hu; subst hu; rfl
  case c3 => unfold maxLen; omega
  case c4 => omega
  case c5 => simp; omega
  intro v' w' hown' hgrow hne
  refine h v' w' ?_ (fun e => by have := (hne.1 e).2; omega) hgrow
  unfold OwnS
  rw [strsV_append, List.length_append]
  exact hown'
theorem OwnS.keep {w w' : World} {B : Nat} {v : Value} {l : List ByteArray} (h : OwnS w B v l) (hb : Below w.heap.size w w') : OwnS w' B v l := own_row_keep h hb
/-- Below B nothing has changed but the tree's block; nor have the blocks that are no strings'. -/
structure TStays (w w' : World) (B tb : Nat) : Prop where
  size : w.heap.size ≤ w'.heap.size
  heap : ∀ j, j < B → j ≠ tb → w'.heap[j]? = w.heap[j]?
  blk : ∀ b t cs, b ≠ tb → t ≠ 9 → Blk w b t cs → Blk w' b t cs
  rest : w'.os = w.os ∧ w'.tape = w.tape ∧ w'.output = w.output
theorem TStays.refl (w : World) (B tb : Nat) : TStays w w B tb := ⟨Nat.le_refl _, fun _ _ _ => rfl, fun _ _ _ _ _ h => h, rfl, rfl, rfl⟩
theorem TStays.trans {w w1 w2 : World} {B tb : Nat} (h : TStays w w1 B tb) (h' : TStays w1 w2 B tb) : TStays w w2 B tb :=
  ⟨Nat.le_trans h.size h'.size, fun j hj hp => (h'.heap j hj hp).trans (h.heap j hj hp), fun b t cs hb ht hk => h'.blk b t cs hb ht (h.blk b t cs hb ht hk), h'.rest.1.trans h.rest.1, h'.rest.2.1.trans h.rest.2.1, h'.rest.2.2.trans h.rest.2.2⟩
theorem TStays.below {w w' : World} {B tb : Nat} (h : Below w.heap.size w w') (hB : B ≤ w.heap.size) : TStays w w' B tb := ⟨h.size, fun j hj _ => h.block j (by omega), fun b t cs _ _ hk => hk.keep h, h.os, h.tape, h.output⟩
theorem TStays.drew {w w' : World} {B tb : Nat} (h : TStays w w' B tb) : TStays w w'.drew B tb := ⟨h.size, h.heap, h.blk, h.rest⟩
theorem TStays.lower {w w' : World} {B tb : Nat} (h : TStays w w' B tb) {B' : Nat} {w0 : World} (hb : Below B' w0 w) (h1 : B' ≤ tb) (h2 : B' ≤ B) : Below B' w0 w' :=
  ⟨h.rest.1.trans hb.os, h.rest.2.1.trans hb.tape, h.rest.2.2.trans hb.output, Nat.le_trans hb.size h.size, fun k hk => (h.heap k (by omega) (by omega)).trans (hb.block k hk)⟩
theorem TStays.setCell {w w' : World} {B tb : Nat} (h : TStays w w' B tb) (j : Nat) (u : Value) : TStays w (w'.setCell ⟨tb, j, none⟩ u) B tb :=
  h.trans ⟨Nat.le_of_eq (only_sets tb j w' [u]).1.symm, fun i _ hp => heap_setCell_other w' ⟨tb, j, none⟩ i u hp, fun b t cs hp _ hk => hk.other (a := ⟨tb, j, none⟩) hp u, rfl, rfl, rfl⟩
theorem TStays.grown {w w' : World} {B tb : Nat} {v : Value} {l : List ByteArray} (hB : B ≤ w.heap.size) (h : OwnS w B v l) (hg : w.grownBy w' v.ownBlock) : TStays w w' B tb :=
  ⟨hg.size, fun j hj _ => by
    exact hg.block j (by omega) (fun e => by have := (World.ownsRow.lt h j e.symm).1; omega), fun b t cs _ ht hk => by
    have hne := own_other h hk ht
    unfold Blk at *
    rw [hg.block b (Array.getElem?_eq_some_iff.1 hk).1 (fun e => hne e.symm)]
    exact hk, hg.os, hg.tape, hg.output⟩

theorem add_blk0 (g j : Nat) : ((⟨g, 0, none⟩ : Addr).add j).block = g := by rw [Addr.add_mid]
theorem TStays.only {w V V' : World} {B tb b : Nat} (h : TStays w V B tb) (O : Only b V V') (hb : w.heap.size ≤ b) (hB : B ≤ w.heap.size) : TStays w V' B tb :=
  (fun hX : Below b V V' => ⟨Nat.le_trans h.size hX.size, fun j hj hp => (hX.block j (by omega)).trans (h.heap j hj hp), fun b' t cs hp ht hk => O.2.1 _ _ _ (by have := hk.lt; omega) (h.blk b' t cs hp ht hk), hX.os.trans h.rest.1, hX.tape.trans h.rest.2.1, hX.output.trans h.rest.2.2⟩) (O.2.2 b V (Nat.le_refl _) (Below.refl _ _))
theorem OwnS.only {V V' : World} {B b : Nat} {v : Value} {l : List ByteArray} (h : OwnS V B v l) (O : Only b V V') (hne : v.ownBlock ≠ some b) : OwnS V' B v l := by
  refine ⟨h.1, ?_⟩
  rcases h.2 with h0 | ⟨g, cap, cur, rfl, h1, h2, h3⟩
  · exact .inl h0
  · have hk : Blk V g 9 cur.toList := by unfold Blk; rw [h2]
    have := O.2.1 g _ _ (fun e => hne (by rw [e]; rfl)) hk
    exact Or.inr ⟨g, cap, cur, rfl, h1, by unfold Blk at this; rw [this], h3⟩
theorem OwnS.setCell {w : World} {B : Nat} {v : Value} {l : List ByteArray} {pb j : Nat} {u : Value} (h : OwnS w B v l) (hp : pb < B) : OwnS (w.setCell ⟨pb, j, none⟩ u) B v l := by
  refine ⟨h.1, ?_⟩
  rcases h.2 with h0 | ⟨g, cap, cur, rfl, h1, h2, h3⟩
  · exact .inl h0
  · exact Or.inr ⟨g, cap, cur, rfl, h1, by rw [heap_setCell_other w ⟨pb, j, none⟩ g u (by show g ≠ pb; omega)]; exact h2, h3⟩
/-- The tree: the texts so far, and its other fields. -/
def TW (w : World) (tb B : Nat) (tx : List ByteArray) (sv : Value) (u : Int) (sh : Bool) : Prop := ∃ tv, Blk w tb 90 [tv, sv, .int .i64 u, .bool sh] ∧ OwnS w B tv tx
theorem heap_keep {w w' : World} {g : Nat} (h : Below w.heap.size w w') (hg : g < w.heap.size) : w'.heap[g]? = w.heap[g]? := h.block g hg

set_option maxHeartbeats 4000000 in
set_option maxRecDepth 100000 in
theorem tof_any (tb B : Nat) (htB : tb < B) (tx : List ByteArray) (htl : tx.length ≤ 100000) (sv : Value) (u : Int) (sh : Bool) (T : Nat) (hT : T < 256) (ps : List ByteArray) (n c : Nat) (A : Option Addr) (hn : n = ps.length) (hl : ps.length ≤ 16) (ht : ∀ s ∈ ps, s.size ≤ 1048576) (w : World) (hB : B ≤ w.heap.size)
    (hTW : TW w tb B tx sv u sh) (hr : Cells w A (strsV ps)) (hGR : ∀ w', TStays w w' B tb → GlobR w') :
    Calls Tryd.prog 63 #[.pointer (some ⟨tb, 0, none⟩), .int .i64 (T : Int), .slice A n c] w
      fun e w' => e = .returned (.agg (bytesV (ofS T (sbs ps))).toArray) ∧ TStays w w' B tb ∧ TW w' tb B (tx ++ [strOf (ofIn T (sbs ps))]) sv u sh := by
  have hz1 := zero_dig'
  have hz16 : (bytesV z16).toArray.toList.length = 16 := rfl
  have hTt : IntKind.u8.wrap (T : Int) = (T : Int) := by simp [IntKind.wrap, IntKind.signed, IntKind.bits]; omega
  obtain ⟨X, hX⟩ : ∃ X, ofIn T (sbs ps) = X := ⟨_, rfl⟩
  have HI := Lib.hid (fun (V : World) (hB : Below w.heap.size w V) => (hX ▸ input_any T T hT hTt A ps n c V hn (by omega) ht (hr.keep hB) : Calls Tryd.prog 55 #[.int .i64 (T : Int), .slice A n c] V (Made V X)))
  have hlen := ofM_len T ps ht ps.length (Nat.le_refl _)
  rw [ofM_all, hX] at hlen
  have hXb : X.length ≤ 1099511627776 := by omega
  have hX0 : 0 < X.length := by rw [← hX]; simp [ofIn]
  have hbt : ∀ y ∈ X, y < 256 := by
    intro y hy
    rw [← hX] at hy
    unfold ofIn at hy
    rcases List.mem_cons.1 hy with rfl | h
    · exact hT
    · obtain ⟨d, hd, hyd⟩ := List.mem_flatMap.1 h
      obtain ⟨s, hs, rfl⟩ := List.mem_map.1 hd
      exact encS_byte s (ht s hs) y hyd
  have hd : Dgt (ofS T (sbs ps)) := dig_ofS _ _
  have hD : (sha X).take 16 = ofS T (sbs ps) := by unfold ofS; rw [hX]
  rw [hX]
  generalize ofS T (sbs ps) = DD at hd hD ⊢
  have hvD : (bytesV DD).length = 16 := by rw [bytesV_length]; exact hd.1
  have HS := Lib.hid (fun (V : World) (g cap : Nat) (hh : Has V (some ⟨g, 0, none⟩) X) (hg : GlobR V) => (hD ▸ short_any (some ⟨g, 0, none⟩) X X.length cap V rfl hXb hh hg : Calls Tryd.prog 54 #[.slice (some ⟨g, 0, none⟩) X.length cap] V fun e w' => e = .returned (.agg (bytesV DD).toArray) ∧ Below V.heap.size V w'))
  obtain ⟨tv, hTb, hTo⟩ := hTW
  clear hX hr hn ht hl hD hT hTt hlen
  go_enter Tryd.func63, Tryd.ntmps63
  go_upto_region 1 with (fail)
  generalize hw1 : World.alloc _ _ = W0
  have Kr : Blk W0 w.heap.size 29 (bytesV z16) := hw1 ▸ (blk_new w _ _)
  have KB : Below w.heap.size w W0 := hw1 ▸ ((Below.refl _ _).alloc (Nat.le_refl _) _)
  clear hw1
  go_upto_region 2 with (go_at_call 55; refine (HI.out W0 KB).mono ?_; rintro e W1 ⟨g, cap, rfl, hOw⟩)
  obtain ⟨ob, cs, hob, hbk⟩ := own_blk hOw.1 hX0
  simp only [Value.ownBlock, Option.some.injEq] at hob
  subst hob
  have hH := hOw.has hbt
  have hg1 := hbk.lt
  have hB1 := link KB hOw.2
  have Kr1 := Kr.keep hOw.2
  have hTb1 := hTb.keep hB1
  have hTo1 := hTo.keep hB1
  have hgt : g ≠ tb := fun e => by subst e; exact absurd (hbk.type hTb1) (by decide)
  have hgo : tv.ownBlock ≠ some g := own_other hTo1 hbk (by decide)
  have hBV : B ≤ W1.heap.size := Nat.le_trans hB hB1.size
  have hS1 := TStays.below (tb := tb) hB1 hB
  clear hOw KB Kr hTb hTo hB1
  have hHeld : True := trivial
  refine wp_region_held_drew (S := fun w' => w'.heap[g]? = W1.heap[g]?) (by kernel_rfl) rfl (fun _ => ?_)
  have hHeld : W1.drew.heap[g]? = W1.heap[g]? := rfl
  have CV : ∀ w' : World, w'.heap[g]? = W1.heap[g]? → (convert 39 9 (.slice (some ⟨g, 0, none⟩) X.length cap)).run Tryd.prog w' = .ok (.string (strOf X)) w' := fun w' h => conv_cells w' ⟨g, 0, none⟩ cap X hbt (fun j u hj => (World.cell?_of_block (w := W1) (by rw [add_blk0]; exact h)).trans (hH.cells j u hj))
  have HH : ∀ w' : World, w'.heap[g]? = W1.heap[g]? → W1.heap.size ≤ w'.heap.size → Has w' (some ⟨g, 0, none⟩) X := fun w' h hs => ⟨fun k' u' hk' => by
    obtain ⟨ad, e, hb, hc⟩ := hH.1 k' u' hk'
    injection e with e
    subst e
    exact ⟨_, rfl, Nat.lt_of_lt_of_le hb hs, (World.cell?_of_block (w := W1) (by rw [add_blk0]; exact h)).trans hc⟩, hbt⟩
  have HH := Lib.hid HH
  have CV := Lib.hid CV
  replace Kr1 := Kr1.drew
  replace hTb1 := hTb1.drew
  replace hTo1 : OwnS W1.drew B tv tx := hTo1
  replace hS1 := hS1.drew
  replace hBV : B ≤ W1.drew.heap.size := hBV
  replace hg1 : g < W1.drew.heap.size := hg1
  have hsz : W1.heap.size ≤ W1.drew.heap.size := Nat.le_refl _
  have hrb : w.heap.size < W1.drew.heap.size := Kr1.lt
  clear hbk hH
  generalize W1.drew = V0 at hHeld Kr1 hTb1 hTo1 hS1 hBV hg1 hsz hrb ⊢
  refine wt (i := 0) (oi := ⟨some 11, .move (.tmp 0), 88, "ref.go:53", #[], none⟩) (v := .pointer (some ⟨tb, 0, none⟩)) (Or.inl ⟨by rfl, fun w' hSw => by go_simp⟩) hHeld ?_
  try simp only [zP, zQ, zS, zZ, zC]
  refine wt (i := 1) (oi := ⟨some 12, .move (.tmp 0), 88, "ref.go:53", #[], none⟩) (v := .pointer (some ⟨tb, 0, none⟩)) (Or.inl ⟨by rfl, fun w' hSw => by go_simp⟩) hHeld ?_
  try simp only [zP, zQ, zS, zZ, zC]
  refine wt (i := 2) (oi := ⟨some 13, .nilCheck (.tmp 12), 0, "ref.go:53", #[⟨1, .data⟩], none⟩) (v := .pointer (some ⟨tb, 0, none⟩)) (Or.inl ⟨by rfl, fun w' hSw => by go_simp⟩) hHeld ?_
  try simp only [zP, zQ, zS, zZ, zC]
  refine wt (i := 3) (oi := ⟨some 14, .fieldAddr 90 (.tmp 13) 0, 0, "ref.go:53", #[⟨2, .data⟩], none⟩) (v := .pointer (some ⟨tb, 0, none⟩)) (Or.inl ⟨by rfl, fun w' hSw => by go_simp⟩) hHeld ?_
  try simp only [zP, zQ, zS, zZ, zC]
  refine wt (i := 5) (oi := ⟨some 16, .move (.tmp 7), 39, "ref.go:53", #[], none⟩) (v := .slice (some ⟨g, 0, none⟩) X.length cap) (Or.inl ⟨by rfl, fun w' hSw => by go_simp⟩) hHeld ?_
  try simp only [zP, zQ, zS, zZ, zC]
  refine wt (i := 6) (oi := ⟨some 17, .convert 39 9 (.tmp 16), 9, "ref.go:53", #[⟨5, .data⟩], none⟩) (v := .string (strOf X)) (Or.inl ⟨by rfl, fun w' hSw => by have hc := CV.out w' hSw; go_simp⟩) hHeld ?_
  try simp only [zP, zQ, zS, zZ, zC]
  refine wpAnyH_ready (rs := [4, 7]) (by kernel_rfl) (by simp) ?_
  refine AllReadyH.cons (o := ⟨some 15, .load 47 (.tmp 14), 47, "ref.go:53", #[⟨3, .data⟩], none⟩) rfl (fun K hK => ?_) (AllReadyH.cons (o := ⟨some 18, .buildSlice 47 1 #[(0, .tmp 17)], 47, "ref.go:53", #[⟨6, .data⟩], none⟩) rfl (fun K hK => ?_) AllReadyH.nil)
  · rw [if_pos (by rfl)]
    have hc0 := hTb1.cell (j := 0) rfl
    go_simp
    clear hc0
    refine hK.out _ _ hHeld (fun hHeld => ?_)
    clear hK K
    try simp only [zP, zQ, zS, zZ, zC]
    refine wpAnyH_ready (rs := [7]) (by kernel_rfl) (by simp) ?_
    refine AllReadyH.cons (o := ⟨some 18, .buildSlice 47 1 #[(0, .tmp 17)], 47, "ref.go:53", #[⟨6, .data⟩], none⟩) rfl (fun K hK => ?_) AllReadyH.nil
    rw [if_pos (by rfl)]
    go_simp
    refine hK.out _ _ ((Below.heap_alloc V0 _ g hg1).trans hHeld) (fun hHeld => ?_)
    clear hK K
    try simp only [zP, zQ, zS, zZ, zC]
    refine wpAnyH_ready (rs := [8]) (by kernel_rfl) (by simp) ?_
    refine AllReadyH.cons (o := ⟨some 19, .call { callee := .builtin .append, args := #[.tmp 15, .tmp 18], argTypes := #[47, 47] }, 47, "ref.go:53", #[⟨4, .data⟩, ⟨7, .data⟩], none⟩) rfl (fun K hK => ?_) AllReadyH.nil
    rw [if_pos (by rfl)]
    refine push_s_wp (w := V0) (B := B) (.tmp 15) (.tmp 18) rfl tx (strOf X) tv rfl hTo1 hBV 1 rfl (by omega) ?_
    intro v2 w2 hO2 hne2 hg2
    have hgr : TStays V0 w2 B tb := (TStays.below ((Below.refl _ V0).alloc (Nat.le_refl _) _) hBV).trans (TStays.grown (by simp; omega) (World.ownsRow.alloc hTo1 _) hg2)
    have hgb : w2.heap[g]? = V0.heap[g]? := (hg2.block g (by simp; omega) (fun e => hgo e.symm)).trans (Below.heap_alloc V0 _ g hg1)
    have htb2 : w2.heap[tb]? = V0.heap[tb]? := (hg2.block tb (by simp; omega) (fun e => by have := (World.ownsRow.lt hTo1 tb e.symm).1; omega)).trans (Below.heap_alloc V0 _ tb (by omega))
    have hTb2 : Blk w2 tb 90 [tv, sv, .int .i64 u, .bool sh] := by unfold Blk at hTb1 ⊢; rw [htb2]; exact hTb1
    obtain ⟨gt, capt, rfl⟩ : ∃ gt capt, v2 = .slice (some ⟨gt, 0, none⟩) (tx.length + 1) capt := by
        rcases hO2.2 with ⟨e, _⟩ | ⟨gt, capt, cur, e, _⟩
        · exact absurd e hne2
        · exact ⟨gt, capt, by rw [e, List.length_append]; rfl⟩
    have hs2 := hS1.trans hgr
    have hh2 : w2.heap[g]? = W1.heap[g]? := hgb.trans (by assumption)
    have hsz2 := Nat.le_trans hsz hgr.size
    have hrb2 := hgr.blk _ _ _ (by omega) (by decide) Kr1
    refine hK.out _ _ hh2 (fun hHeld => ?_)
    clear hK K hgr hgb hg2 htb2 Kr1 hTb1 hTo1
    try simp only [zP, zQ, zS, zZ, zC]
    refine wt (i := 9) (oi := ⟨some 20, .nilCheck (.tmp 11), 0, "ref.go:53", #[⟨0, .data⟩, ⟨0, .phase⟩, ⟨1, .phase⟩, ⟨2, .phase⟩, ⟨3, .phase⟩, ⟨4, .phase⟩, ⟨5, .phase⟩, ⟨6, .phase⟩, ⟨7, .phase⟩, ⟨8, .phase⟩], none⟩) (v := .pointer (some ⟨tb, 0, none⟩)) (Or.inl ⟨by rfl, fun w' hSw => by go_simp⟩) hHeld ?_
    try simp only [zP, zQ, zS, zZ, zC]
    refine wt (i := 10) (oi := ⟨some 21, .fieldAddr 90 (.tmp 20) 0, 0, "ref.go:53", #[⟨9, .data⟩, ⟨0, .phase⟩, ⟨1, .phase⟩, ⟨2, .phase⟩, ⟨3, .phase⟩, ⟨4, .phase⟩, ⟨5, .phase⟩, ⟨6, .phase⟩, ⟨7, .phase⟩, ⟨8, .phase⟩], none⟩) (v := .pointer (some ⟨tb, 0, none⟩)) (Or.inl ⟨by rfl, fun w' hSw => by go_simp⟩) hHeld ?_
    try simp only [zP, zQ, zS, zZ, zC]
    refine wpAnyH_ready (rs := [11]) (by kernel_rfl) (by simp) ?_
    refine AllReadyH.cons (o := ⟨none, .store 47 (.tmp 21) (.tmp 19), 0, "ref.go:53", #[⟨10, .data⟩, ⟨8, .data⟩, ⟨8, .chain⟩, ⟨0, .phase⟩, ⟨1, .phase⟩, ⟨2, .phase⟩, ⟨3, .phase⟩, ⟨4, .phase⟩, ⟨5, .phase⟩, ⟨6, .phase⟩, ⟨7, .phase⟩, ⟨8, .phase⟩], none⟩) rfl (fun K hK => ?_) AllReadyH.nil
    rw [if_pos (by rfl)]
    have hc0 := hTb2.cell (j := 0) rfl
    have hf0 := hTb2.free 0
    go_simp
    clear hc0 hf0
    have hs3 := hs2.setCell 0 (.slice (some ⟨gt, 0, none⟩) (tx.length + 1) capt)
    have hTb3 := hTb2.set 0 (.slice (some ⟨gt, 0, none⟩) (tx.length + 1) capt)
    have hO3 : OwnS (w2.setCell ⟨tb, 0, none⟩ (.slice (some ⟨gt, 0, none⟩) (tx.length + 1) capt)) B _ _ := OwnS.setCell hO2 htB
    have hh3 : (w2.setCell ⟨tb, 0, none⟩ (.slice (some ⟨gt, 0, none⟩) (tx.length + 1) capt)).heap[g]? = W1.heap[g]? := (heap_setCell_other w2 ⟨tb, 0, none⟩ g _ hgt).trans hHeld
    have hrb3 := hrb2.other (a := ⟨tb, 0, none⟩) (by show w.heap.size ≠ tb; omega) (.slice (some ⟨gt, 0, none⟩) (tx.length + 1) capt)
    have hsz3 : W1.heap.size ≤ (w2.setCell ⟨tb, 0, none⟩ (.slice (some ⟨gt, 0, none⟩) (tx.length + 1) capt)).heap.size := Nat.le_trans hsz2 (Nat.le_of_eq (only_sets tb 0 w2 [_]).1.symm)
    simp only [List.set_cons_zero] at hTb3
    generalize w2.setCell ⟨tb, 0, none⟩ (.slice (some ⟨gt, 0, none⟩) (tx.length + 1) capt) = V3 at hs3 hTb3 hO3 hh3 hrb3 hsz3 ⊢
    refine hK.out _ _ hh3 (fun hHeld => ?_)
    clear hK K hHeld hs2 hTb2 hO2 hh2 hrb2 hsz2
    try simp only [zP, zQ, zS, zZ, zC]
    refine wpAnyH_done (by kernel_rfl) ?_ _
    have hHs := HH.out V3 hh3 hsz3
    have hG3 := hGR V3 hs3
    have hBs := Nat.le_trans hB hs3.size
    go_wp2_with (first
        | (go_at_call 54; refine (HS.out V3 g cap hHs hG3).mono ?_; rintro e W5 ⟨rfl, hB5⟩)
        | (refine store_blk rfl 29 (.tmp 6) (.tmp 23) rfl (hrb3.keep hB5) rfl rfl (m := 16) (by kernel_rfl) hvD hz16 (bytesV_cells DD) ?_; intro W6 K6 O6))
    exact bodyPost_ret (v := .agg (bytesV DD).toArray) (K6.result (p := 6) (ty := 29) rfl _ rfl Tryd.underlying29 (by rw [hvD]; kernel_rfl)) rfl ⟨rfl, (hs3.trans (TStays.below hB5 hBs)).only O6 (Nat.le_refl _) hB, _, O6.2.1 _ _ _ (by omega) (hTb3.keep hB5), OwnS.only (hO3.keep hB5) O6 (own_other (hO3.keep hB5) (hrb3.keep hB5) (by decide))⟩
  · rw [if_pos (by rfl)]
    go_simp
    refine hK.out _ _ ((Below.heap_alloc V0 _ g hg1).trans hHeld) (fun hHeld => ?_)
    clear hK K
    try simp only [zP, zQ, zS, zZ, zC]
    refine wpAnyH_ready (rs := [4]) (by kernel_rfl) (by simp) ?_
    refine AllReadyH.cons (o := ⟨some 15, .load 47 (.tmp 14), 47, "ref.go:53", #[⟨3, .data⟩], none⟩) rfl (fun K hK => ?_) AllReadyH.nil
    rw [if_pos (by rfl)]
    have hc0 := (hTb1.alloc (.cells #[.string (strOf X)] 9)).cell (j := 0) rfl
    go_simp
    clear hc0
    refine hK.out _ _ hHeld (fun hHeld => ?_)
    clear hK K
    try simp only [zP, zQ, zS, zZ, zC]
    refine wpAnyH_ready (rs := [8]) (by kernel_rfl) (by simp) ?_
    refine AllReadyH.cons (o := ⟨some 19, .call { callee := .builtin .append, args := #[.tmp 15, .tmp 18], argTypes := #[47, 47] }, 47, "ref.go:53", #[⟨4, .data⟩, ⟨7, .data⟩], none⟩) rfl (fun K hK => ?_) AllReadyH.nil
    rw [if_pos (by rfl)]
    refine push_s_wp (w := V0) (B := B) (.tmp 15) (.tmp 18) rfl tx (strOf X) tv rfl hTo1 hBV 1 rfl (by omega) ?_
    intro v2 w2 hO2 hne2 hg2
    have hgr : TStays V0 w2 B tb := (TStays.below ((Below.refl _ V0).alloc (Nat.le_refl _) _) hBV).trans (TStays.grown (by simp; omega) (World.ownsRow.alloc hTo1 _) hg2)
    have hgb : w2.heap[g]? = V0.heap[g]? := (hg2.block g (by simp; omega) (fun e => hgo e.symm)).trans (Below.heap_alloc V0 _ g hg1)
    have htb2 : w2.heap[tb]? = V0.heap[tb]? := (hg2.block tb (by simp; omega) (fun e => by have := (World.ownsRow.lt hTo1 tb e.symm).1; omega)).trans (Below.heap_alloc V0 _ tb (by omega))
    have hTb2 : Blk w2 tb 90 [tv, sv, .int .i64 u, .bool sh] := by unfold Blk at hTb1 ⊢; rw [htb2]; exact hTb1
    obtain ⟨gt, capt, rfl⟩ : ∃ gt capt, v2 = .slice (some ⟨gt, 0, none⟩) (tx.length + 1) capt := by
        rcases hO2.2 with ⟨e, _⟩ | ⟨gt, capt, cur, e, _⟩
        · exact absurd e hne2
        · exact ⟨gt, capt, by rw [e, List.length_append]; rfl⟩
    have hs2 := hS1.trans hgr
    have hh2 : w2.heap[g]? = W1.heap[g]? := hgb.trans (by assumption)
    have hsz2 := Nat.le_trans hsz hgr.size
    have hrb2 := hgr.blk _ _ _ (by omega) (by decide) Kr1
    refine hK.out _ _ hh2 (fun hHeld => ?_)
    clear hK K hgr hgb hg2 htb2 Kr1 hTb1 hTo1
    try simp only [zP, zQ, zS, zZ, zC]
    refine wt (i := 9) (oi := ⟨some 20, .nilCheck (.tmp 11), 0, "ref.go:53", #[⟨0, .data⟩, ⟨0, .phase⟩, ⟨1, .phase⟩, ⟨2, .phase⟩, ⟨3, .phase⟩, ⟨4, .phase⟩, ⟨5, .phase⟩, ⟨6, .phase⟩, ⟨7, .phase⟩, ⟨8, .phase⟩], none⟩) (v := .pointer (some ⟨tb, 0, none⟩)) (Or.inl ⟨by rfl, fun w' hSw => by go_simp⟩) hHeld ?_
    try simp only [zP, zQ, zS, zZ, zC]
    refine wt (i := 10) (oi := ⟨some 21, .fieldAddr 90 (.tmp 20) 0, 0, "ref.go:53", #[⟨9, .data⟩, ⟨0, .phase⟩, ⟨1, .phase⟩, ⟨2, .phase⟩, ⟨3, .phase⟩, ⟨4, .phase⟩, ⟨5, .phase⟩, ⟨6, .phase⟩, ⟨7, .phase⟩, ⟨8, .phase⟩], none⟩) (v := .pointer (some ⟨tb, 0, none⟩)) (Or.inl ⟨by rfl, fun w' hSw => by go_simp⟩) hHeld ?_
    try simp only [zP, zQ, zS, zZ, zC]
    refine wpAnyH_ready (rs := [11]) (by kernel_rfl) (by simp) ?_
    refine AllReadyH.cons (o := ⟨none, .store 47 (.tmp 21) (.tmp 19), 0, "ref.go:53", #[⟨10, .data⟩, ⟨8, .data⟩, ⟨8, .chain⟩, ⟨0, .phase⟩, ⟨1, .phase⟩, ⟨2, .phase⟩, ⟨3, .phase⟩, ⟨4, .phase⟩, ⟨5, .phase⟩, ⟨6, .phase⟩, ⟨7, .phase⟩, ⟨8, .phase⟩], none⟩) rfl (fun K hK => ?_) AllReadyH.nil
    rw [if_pos (by rfl)]
    have hc0 := hTb2.cell (j := 0) rfl
    have hf0 := hTb2.free 0
    go_simp
    clear hc0 hf0
    have hs3 := hs2.setCell 0 (.slice (some ⟨gt, 0, none⟩) (tx.length + 1) capt)
    have hTb3 := hTb2.set 0 (.slice (some ⟨gt, 0, none⟩) (tx.length + 1) capt)
    have hO3 : OwnS (w2.setCell ⟨tb, 0, none⟩ (.slice (some ⟨gt, 0, none⟩) (tx.length + 1) capt)) B _ _ := OwnS.setCell hO2 htB
    have hh3 : (w2.setCell ⟨tb, 0, none⟩ (.slice (some ⟨gt, 0, none⟩) (tx.length + 1) capt)).heap[g]? = W1.heap[g]? := (heap_setCell_other w2 ⟨tb, 0, none⟩ g _ hgt).trans hHeld
    have hrb3 := hrb2.other (a := ⟨tb, 0, none⟩) (by show w.heap.size ≠ tb; omega) (.slice (some ⟨gt, 0, none⟩) (tx.length + 1) capt)
    have hsz3 : W1.heap.size ≤ (w2.setCell ⟨tb, 0, none⟩ (.slice (some ⟨gt, 0, none⟩) (tx.length + 1) capt)).heap.size := Nat.le_trans hsz2 (Nat.le_of_eq (only_sets tb 0 w2 [_]).1.symm)
    simp only [List.set_cons_zero] at hTb3
    generalize w2.setCell ⟨tb, 0, none⟩ (.slice (some ⟨gt, 0, none⟩) (tx.length + 1) capt) = V3 at hs3 hTb3 hO3 hh3 hrb3 hsz3 ⊢
    refine hK.out _ _ hh3 (fun hHeld => ?_)
    clear hK K hHeld hs2 hTb2 hO2 hh2 hrb2 hsz2
    try simp only [zP, zQ, zS, zZ, zC]
    refine wpAnyH_done (by kernel_rfl) ?_ _
    have hHs := HH.out V3 hh3 hsz3
    have hG3 := hGR V3 hs3
    have hBs := Nat.le_trans hB hs3.size
    go_wp2_with (first
        | (go_at_call 54; refine (HS.out V3 g cap hHs hG3).mono ?_; rintro e W5 ⟨rfl, hB5⟩)
        | (refine store_blk rfl 29 (.tmp 6) (.tmp 23) rfl (hrb3.keep hB5) rfl rfl (m := 16) (by kernel_rfl) hvD hz16 (bytesV_cells DD) ?_; intro W6 K6 O6))
    exact bodyPost_ret (v := .agg (bytesV DD).toArray) (K6.result (p := 6) (ty := 29) rfl _ rfl Tryd.underlying29 (by rw [hvD]; kernel_rfl)) rfl ⟨rfl, (hs3.trans (TStays.below hB5 hBs)).only O6 (Nat.le_refl _) hB, _, O6.2.1 _ _ _ (by omega) (hTb3.keep hB5), OwnS.only (hO3.keep hB5) O6 (own_other (hO3.keep hB5) (hrb3.keep hB5) (by decide))⟩

end Go.Proofs.YtfhfmdnimebegaaDoor

/-
  The reference's Tree: row at a leaf, and at a row that is given by its digest.
-/
namespace Go.Proofs.YtfhfmdnimebegaaDoor
open Go.RowKit
set_option linter.unusedVariables false
set_option linter.unusedSimpArgs false

/-- What row of a tree answers, with the texts, the number of sides used, and whether there were too few; f bounds the calls still to come. -/
def rowT (lf : List Lf) (F : Nat) (sd : List (List Nat)) : Nat → Nat → Nat → List ByteArray × Nat × Bool → List Nat × List ByteArray × Nat × Bool
  | 0, _, _, s => (z16, s)
  | f + 1, a, b, s =>
    if b ≤ F ∨ F + lf.length ≤ a then (match sd[s.2.1]? with
      | none => (z16, s.1, s.2.1, true)
      | some d => (d, s.1, s.2.1 + 1, s.2.2))
    else if b = a + 1 then (rowM ((lf.drop (a - F)).take 1), s.1 ++ [strOf (ofIn 3 (((lf.drop (a - F)).take 1).flatMap fun x => [sb x.1, sb x.2]))], s.2)
    else (joinM (rowT lf F sd f a (a + half (b - a)) s).1 (rowT lf F sd f (a + half (b - a)) b (rowT lf F sd f a (a + half (b - a)) s).2).1,
      (rowT lf F sd f (a + half (b - a)) b (rowT lf F sd f a (a + half (b - a)) s).2).2.1 ++ [strOf (ofIn 4 [(rowT lf F sd f a (a + half (b - a)) s).1, (rowT lf F sd f (a + half (b - a)) b (rowT lf F sd f a (a + half (b - a)) s).2).1])],
      (rowT lf F sd f (a + half (b - a)) b (rowT lf F sd f a (a + half (b - a)) s).2).2.2)
theorem cells_strs (V : World) (l : List ByteArray) : Cells (V.alloc (.cells (strsV l).toArray 9)) (some ⟨V.heap.size, 0, none⟩) (strsV l) := fun k u hk =>
  ⟨_, rfl, by simp, by rw [Addr.add_mid, Nat.zero_add]; exact (blk_new V 9 (strsV l).toArray).cell (by simpa using hk)⟩
theorem TW.keep {w w' : World} {tb B : Nat} {tx : List ByteArray} {sv : Value} {u : Int} {sh : Bool} (h : TW w tb B tx sv u sh) (hb : Below w.heap.size w w') : TW w' tb B tx sv u sh := by
  obtain ⟨tv, h1, h2⟩ := h
  exact ⟨tv, h1.keep hb, h2.keep hb⟩
theorem TW.only {w w' : World} {tb B b : Nat} {tx : List ByteArray} {sv : Value} {u : Int} {sh : Bool} {cs : List Value} (h : TW w tb B tx sv u sh) (O : Only b w w') (hb : tb ≠ b) (hk : Blk w b 29 cs) : TW w' tb B tx sv u sh := by
  obtain ⟨tv, h1, h2⟩ := h
  exact ⟨tv, O.2.1 _ _ _ hb h1, h2.only O (own_other h2 hk (by decide))⟩

set_option maxHeartbeats 4000000 in
set_option maxRecDepth 100000 in
theorem trow_leaf (tb B : Nat) (htB : tb < B) (lf : List Lf) (q : Option Addr) (n c : Nat) (hl : lf.length = n) (hSm : Small lf) (F x y : Nat) (hFn : F + n ≤ 4096) (hxy : x + 1 = y) (hi : F ≤ x) (hin : x < F + n) (tx : List ByteArray) (htl : tx.length ≤ 99000) (sv : Value) (u : Int) (sh : Bool) (w : World) (hB : B ≤ w.heap.size)
    (hTW : TW w tb B tx sv u sh) (hL : OwnL w q lf) (hLB : ∀ b off i, q = some ⟨b, off, i⟩ → b < B ∧ b ≠ tb) (hGR : ∀ w', TStays w w' B tb → GlobR w') :
    Calls Tryd.prog 62 #[.pointer (some ⟨tb, 0, none⟩), .slice q n c, .int .i64 (F : Int), .int .i64 (x : Int), .int .i64 (y : Int)] w
      fun e w' => e = .returned (.agg (bytesV (rowM ((lf.drop (x - F)).take 1))).toArray) ∧ TStays w w' B tb ∧ TW w' tb B (tx ++ [strOf (ofIn 3 (((lf.drop (x - F)).take 1).flatMap fun z => [sb z.1, sb z.2]))]) sv u sh := by
  have hz1 := zero_dig'
  have hz16 : (bytesV z16).toArray.toList.length = 16 := rfl
  obtain ⟨i, hii⟩ : ∃ i, x - F = i := ⟨_, rfl⟩
  obtain ⟨z, hz⟩ : ∃ z, lf[i]? = some z := ⟨_, List.getElem?_eq_getElem (by omega)⟩
  have hone : (lf.drop i).take 1 = [z] := by
    rw [List.take_one, List.head?_drop, hz]
    rfl
  rw [hii, hone]
  have hfm : ([z].flatMap fun z => [sb z.1, sb z.2]) = sbs [z.1, z.2] := rfl
  rw [hfm]
  have hsz : ∀ s ∈ [z.1, z.2], s.size ≤ 1048576 := by
    have := hSm z (List.mem_of_getElem? hz)
    intro s hs
    simp only [List.mem_cons, List.mem_nil_iff, or_false] at hs
    rcases hs with rfl | rfl
    · exact this.1
    · exact this.2
  obtain ⟨b, off, rfl, hL2⟩ := hL (by intro h; rw [h] at hz; simp at hz)
  have hbw := hL2.1
  have hbB := hLB b off none rfl
  have h1 := (hL2.at hz).1
  have h2 := (hL2.at hz).2
  have hd : Dgt (rowM [z]) := dig_ofS _ _
  have HO := Lib.hid (fun (V : World) (A : Option Addr) (hB' : B ≤ V.heap.size) (hs : TStays w V B tb) (hT : TW V tb B tx sv u sh) (hr : Cells V A (strsV [z.1, z.2])) => (show Calls Tryd.prog 63 #[.pointer (some ⟨tb, 0, none⟩), .int .i64 3, .slice A 2 2] V fun e w' => e = .returned (.agg (bytesV (rowM [z])).toArray) ∧ TStays V w' B tb ∧ TW w' tb B (tx ++ [strOf (ofIn 3 (sbs [z.1, z.2]))]) sv u sh from tof_any tb B htB tx (by omega) sv u sh 3 (by omega) [z.1, z.2] 2 2 A rfl (by simp) hsz V hB' hT hr (fun w' h => hGR w' (hs.trans h))))
  generalize rowM [z] = DD at hd HO ⊢
  generalize strOf (ofIn 3 (sbs [z.1, z.2])) = TX at HO ⊢
  have hvD : (bytesV DD).length = 16 := by rw [bytesV_length]; exact hd.1
  have g1 : ¬ y ≤ F := by omega
  have g2 : ¬ F + n ≤ x := by omega
  have w1 : IntKind.i64.wrap ((x : Int) - (F : Int)) = (i : Int) := by
    rw [show ((x : Int) - (F : Int)) = (i : Int) by omega]
    simp [IntKind.wrap, IntKind.signed, IntKind.bits]
    omega
  have w4 : wrap64 ((x : Int) - (F : Int)) = (i : Int) := by unfold wrap64; omega
  have w5 : (x : Int) - (F : Int) = (i : Int) := by omega
  have w6 : IntKind.i64.wrap (i : Int) = (i : Int) := by
    simp [IntKind.wrap, IntKind.signed, IntKind.bits]
    omega
  have w3 : wrap64 ((y : Int) - (x : Int)) = 1 := by unfold wrap64; omega
  have hin' : i < n := by omega
  clear hone hfm hsz hz hL hL2 hLB hSm hGR hii hi hin hxy hl
  go_enter Tryd.func62, Tryd.ntmps62
  go_upto_region 1 with (fail)
  generalize hw1 : World.alloc _ _ = W0
  have Kr : Blk W0 w.heap.size 29 (bytesV z16) := hw1 ▸ (blk_new w _ _)
  have KB : Below w.heap.size w W0 := hw1 ▸ ((Below.refl _ _).alloc (Nat.le_refl _) _)
  clear hw1
  go_upto_region 8 with (fail)
  have hTW0 := hTW.keep KB
  have hS0 := TStays.below (tb := tb) KB hB
  have hHeld : True := trivial
  have hb0 : W0.drew.heap[b]? = w.heap[b]? := KB.block b hbw
  refine wp_region_held_drew (S := fun w' => w'.heap[b]? = w.heap[b]?) (by kernel_rfl) hb0 (fun _ => ?_)
  have hHeld : W0.drew.heap[b]? = w.heap[b]? := hb0
  have C0 : ∀ w' : World, w'.heap[b]? = w.heap[b]? → w'.cell? ⟨b, off + i * 2, none⟩ = some (.string z.1) := fun w' h => (World.cell?_of_block (w := w) h).trans h1
  have C1 : ∀ w' : World, w'.heap[b]? = w.heap[b]? → w'.cell? ⟨b, off + i * 2 + 1, none⟩ = some (.string z.2) := fun w' h => (World.cell?_of_block (w := w) h).trans h2
  replace Kr := Kr.drew
  replace hTW0 : TW W0.drew tb B tx sv u sh := hTW0
  replace hS0 := hS0.drew
  have hBV : B ≤ W0.drew.heap.size := Nat.le_trans hB KB.size
  clear hb0 KB hTW h1 h2
  generalize W0.drew = V0 at hHeld Kr hTW0 hS0 hBV ⊢
  refine wt (i := 0) (oi := ⟨some 62, .move (.tmp 0), 88, "ref.go:77", #[], none⟩) (v := .pointer (some ⟨tb, 0, none⟩)) (Or.inl ⟨by rfl, fun w' hSw => by go_simp⟩) hHeld ?_
  try simp only [zP, zQ, zS, zZ, zC]
  refine wt (i := 1) (oi := ⟨some 63, .move (.tmp 1), 24, "ref.go:77", #[], none⟩) (v := .slice (some ⟨b, off, none⟩) n c) (Or.inl ⟨by rfl, fun w' hSw => by go_simp⟩) hHeld ?_
  try simp only [zP, zQ, zS, zZ, zC]
  refine wt (i := 2) (oi := ⟨some 64, .move (.tmp 3), 3, "ref.go:77", #[], none⟩) (v := .int .i64 (x : Int)) (Or.inl ⟨by rfl, fun w' hSw => by go_simp⟩) hHeld ?_
  try simp only [zP, zQ, zS, zZ, zC]
  refine wt (i := 3) (oi := ⟨some 65, .move (.tmp 2), 3, "ref.go:77", #[], none⟩) (v := .int .i64 (F : Int)) (Or.inl ⟨by rfl, fun w' hSw => by go_simp⟩) hHeld ?_
  try simp only [zP, zQ, zS, zZ, zC]
  refine wt (i := 4) (oi := ⟨some 66, .binOp .sub 3 (.tmp 64) (.tmp 65) 3, 3, "ref.go:77", #[⟨2, .data⟩, ⟨3, .data⟩], none⟩) (v := .int .i64 (i : Int)) (Or.inl ⟨by rfl, fun w' hSw => by go_simp⟩) hHeld ?_
  try simp only [zP, zQ, zS, zZ, zC]
  refine wt (i := 5) (oi := ⟨some 67, .indexAddr 24 (.tmp 63) (.tmp 66), 0, "ref.go:77", #[⟨1, .data⟩, ⟨4, .data⟩], none⟩) (v := .pointer (some ⟨b, off + i * 2, none⟩)) (Or.inl ⟨by rfl, fun w' hSw => by go_simp; try (intro hcm; exact absurd hcm (by omega))⟩) hHeld ?_
  try simp only [zP, zQ, zS, zZ, zC]
  refine wt (i := 6) (oi := ⟨some 68, .fieldAddr 75 (.tmp 67) 0, 0, "ref.go:77", #[⟨5, .data⟩], none⟩) (v := .pointer (some ⟨b, off + i * 2, none⟩)) (Or.inl ⟨by rfl, fun w' hSw => by go_simp⟩) hHeld ?_
  try simp only [zP, zQ, zS, zZ, zC]
  refine wt (i := 7) (oi := ⟨some 69, .load 9 (.tmp 68), 9, "ref.go:77", #[⟨6, .data⟩], none⟩) (v := .string z.1) (Or.inl ⟨by rfl, fun w' hSw => by have hc := C0 w' hSw; go_simp⟩) hHeld ?_
  try simp only [zP, zQ, zS, zZ, zC]
  refine wt (i := 8) (oi := ⟨some 70, .move (.tmp 1), 24, "ref.go:77", #[], none⟩) (v := .slice (some ⟨b, off, none⟩) n c) (Or.inl ⟨by rfl, fun w' hSw => by go_simp⟩) hHeld ?_
  try simp only [zP, zQ, zS, zZ, zC]
  refine wt (i := 9) (oi := ⟨some 71, .move (.tmp 3), 3, "ref.go:77", #[], none⟩) (v := .int .i64 (x : Int)) (Or.inl ⟨by rfl, fun w' hSw => by go_simp⟩) hHeld ?_
  try simp only [zP, zQ, zS, zZ, zC]
  refine wt (i := 10) (oi := ⟨some 72, .move (.tmp 2), 3, "ref.go:77", #[], none⟩) (v := .int .i64 (F : Int)) (Or.inl ⟨by rfl, fun w' hSw => by go_simp⟩) hHeld ?_
  try simp only [zP, zQ, zS, zZ, zC]
  refine wt (i := 11) (oi := ⟨some 73, .binOp .sub 3 (.tmp 71) (.tmp 72) 3, 3, "ref.go:77", #[⟨9, .data⟩, ⟨10, .data⟩], none⟩) (v := .int .i64 (i : Int)) (Or.inl ⟨by rfl, fun w' hSw => by go_simp⟩) hHeld ?_
  try simp only [zP, zQ, zS, zZ, zC]
  refine wt (i := 12) (oi := ⟨some 74, .indexAddr 24 (.tmp 70) (.tmp 73), 0, "ref.go:77", #[⟨8, .data⟩, ⟨11, .data⟩], none⟩) (v := .pointer (some ⟨b, off + i * 2, none⟩)) (Or.inl ⟨by rfl, fun w' hSw => by go_simp; try (intro hcm; exact absurd hcm (by omega))⟩) hHeld ?_
  try simp only [zP, zQ, zS, zZ, zC]
  refine wt (i := 13) (oi := ⟨some 75, .fieldAddr 75 (.tmp 74) 1, 0, "ref.go:77", #[⟨12, .data⟩], none⟩) (v := .pointer (some ⟨b, off + i * 2 + 1, none⟩)) (Or.inl ⟨by rfl, fun w' hSw => by go_simp⟩) hHeld ?_
  try simp only [zP, zQ, zS, zZ, zC]
  refine wt (i := 14) (oi := ⟨some 76, .load 9 (.tmp 75), 9, "ref.go:77", #[⟨13, .data⟩], none⟩) (v := .string z.2) (Or.inl ⟨by rfl, fun w' hSw => by have hc := C1 w' hSw; go_simp⟩) hHeld ?_
  try simp only [zP, zQ, zS, zZ, zC]
  clear C0 C1
  refine wpAnyH_ready (rs := [15]) (by kernel_rfl) (by simp) ?_
  refine AllReadyH.cons (o := ⟨some 77, .buildSlice 47 2 #[(0, .tmp 69), (1, .tmp 76)], 47, "ref.go:77", #[⟨7, .data⟩, ⟨14, .data⟩], none⟩) rfl (fun K hK => ?_) AllReadyH.nil
  rw [if_pos (by rfl)]
  go_simp
  have XA := (Below.refl V0.heap.size V0).alloc (Nat.le_refl _) (.cells #[.string z.1, .string z.2] 9)
  have Kc := blk_new V0 9 #[.string z.1, .string z.2]
  have hcl := cells_strs V0 [z.1, z.2]
  have hTW1 := hTW0.keep XA
  have hS1 := hS0.trans (TStays.below XA hBV)
  have Kr1 := Kr.keep XA
  have hBV1 := Nat.le_trans hBV XA.size
  have hb1 : (V0.alloc (.cells #[.string z.1, .string z.2] 9)).heap[b]? = w.heap[b]? := (XA.block b (by omega)).trans hHeld
  change Cells (V0.alloc (.cells #[.string z.1, .string z.2] 9)) _ _ at hcl
  generalize V0.alloc (.cells #[.string z.1, .string z.2] 9) = V1 at hcl hTW1 hS1 Kr1 hBV1 hb1 ⊢
  refine hK.out _ _ hb1 (fun hHeld => ?_)
  clear hK K XA Kc hTW0 hS0 Kr
  try simp only [zP, zQ, zS, zZ, zC]
  refine wpAnyH_ready (rs := [16]) (by kernel_rfl) (by simp) ?_
  refine AllReadyH.cons (o := ⟨some 78, .call { callee := .value (.func 63), args := #[.tmp 62, .const (Value.int IntKind.i64 3), .tmp 77], argTypes := #[88, 3, 47] }, 29, "ref.go:77", #[⟨0, .data⟩, ⟨15, .data⟩], none⟩) rfl (fun K hK => ?_) AllReadyH.nil
  rw [if_pos (by rfl)]
  go_simp
  refine (HO.out V1 _ hBV1 hS1 hTW1 hcl).mono ?_
  rintro e V2 ⟨rfl, hS2, hTW2⟩
  dsimp only
  have Kr2 := hS2.blk _ _ _ (by omega) (by decide) Kr1
  have hS3 := hS1.trans hS2
  have hb2 := (hS2.heap b hbB.1 hbB.2).trans hHeld
  clear hTW1 hS1 Kr1 hcl
  refine hK.out _ _ hb2 (fun hHeld => ?_)
  clear hK K
  try simp only [zP, zQ, zS, zZ, zC]
  have hst := Kr2.storeRun (vs := bytesV DD) (by rw [hvD]; rfl) (bytesV_cells DD)
  refine wpAnyH_ready (rs := [17]) (by kernel_rfl) (by simp) ?_
  refine AllReadyH.cons (o := ⟨none, .store 29 (.tmp 10) (.tmp 78), 0, "ref.go:77", #[⟨16, .data⟩, ⟨16, .chain⟩, ⟨0, .phase⟩, ⟨1, .phase⟩, ⟨2, .phase⟩, ⟨3, .phase⟩, ⟨4, .phase⟩, ⟨5, .phase⟩, ⟨6, .phase⟩, ⟨7, .phase⟩, ⟨8, .phase⟩, ⟨9, .phase⟩, ⟨10, .phase⟩, ⟨11, .phase⟩, ⟨12, .phase⟩, ⟨13, .phase⟩, ⟨14, .phase⟩, ⟨15, .phase⟩, ⟨16, .phase⟩], none⟩) rfl (fun K hK => ?_) AllReadyH.nil
  rw [if_pos (by rfl)]
  go_simp
  have O := only_sets w.heap.size 0 V2 (bytesV DD)
  have K6 : Blk (V2.setCells w.heap.size 0 (bytesV DD)) w.heap.size 29 (bytesV DD) := Kr2.all (by rw [hvD]; rfl)
  have hTW3 := hTW2.only O (by omega) Kr2
  have hS4 := hS3.only O (Nat.le_refl _) hB
  have hb3 := ((O.2.2 w.heap.size V2 (Nat.le_refl _) (Below.refl _ _)).block b hbw).trans hHeld
  clear hst Kr2 hTW2 hS3 O
  generalize V2.setCells w.heap.size 0 (bytesV DD) = V4 at K6 hTW3 hS4 hb3 ⊢
  refine hK.out _ _ hb3 (fun hHeld => ?_)
  clear hK K
  try simp only [zP, zQ, zS, zZ, zC]
  refine wpAnyH_done (by kernel_rfl) ?_ _
  clear hHeld
  go_wp2
  exact bodyPost_ret (v := .agg (bytesV DD).toArray) (K6.result (p := 10) (ty := 29) rfl _ rfl Tryd.underlying29 (by rw [hvD]; kernel_rfl)) rfl ⟨rfl, hS4, hTW3⟩


end Go.Proofs.YtfhfmdnimebegaaDoor

/-
  The reference's Tree: row where it is divided.
-/
namespace Go.Proofs.YtfhfmdnimebegaaDoor
open Go.RowKit
set_option linter.unusedVariables false
set_option linter.unusedSimpArgs false

theorem rowT_enough (lf : List Lf) (F : Nat) (sd : List (List Nat)) : ∀ (f g a b : Nat) (s : List ByteArray × Nat × Bool), a < b → b - a ≤ f → b - a ≤ g → rowT lf F sd f a b s = rowT lf F sd g a b s
  | 0, g, a, b, s, h, hf, _ => by omega
  | f + 1, 0, a, b, s, h, _, hg => by omega
  | f + 1, g + 1, a, b, s, h, hf, hg => by
    unfold rowT
    split
    · rfl
    · split
      · rfl
      · have h3 := half_lt (b - a) (by omega)
        have h4 := half_pos (b - a)
        have e1 := rowT_enough lf F sd f g a (a + half (b - a)) s (by omega) (by omega) (by omega)
        rw [e1]
        have e2 := rowT_enough lf F sd f g (a + half (b - a)) b (rowT lf F sd g a (a + half (b - a)) s).2 (by omega) (by omega) (by omega)
        rw [e2]
/-- What row of a tree answers for the row from a to b - 1. -/
def rowTM (lf : List Lf) (F : Nat) (sd : List (List Nat)) (a b : Nat) (s : List ByteArray × Nat × Bool) : List Nat × List ByteArray × Nat × Bool := rowT lf F sd (b - a) a b s
theorem rowT_split (lf : List Lf) (F : Nat) (sd : List (List Nat)) (a b : Nat) (s : List ByteArray × Nat × Bool) (h : a + 1 < b) (ho : ¬ (b ≤ F ∨ F + lf.length ≤ a)) {D1 D2 : List Nat} {s1 s2 : List ByteArray × Nat × Bool} (e1 : rowTM lf F sd a (a + half (b - a)) s = (D1, s1)) (e2 : rowTM lf F sd (a + half (b - a)) b s1 = (D2, s2)) :
    rowTM lf F sd a b s = (joinM D1 D2, s2.1 ++ [strOf (ofIn 4 [D1, D2])], s2.2) := by
  obtain ⟨f, hf⟩ : ∃ f, b - a = f + 1 := ⟨b - a - 1, by omega⟩
  have h3 := half_lt (b - a) (by omega)
  have h4 := half_pos (b - a)
  unfold rowTM at *
  rw [rowT_enough lf F sd (a + half (b - a) - a) f a _ s (by omega) (by omega) (by omega)] at e1
  rw [rowT_enough lf F sd (b - (a + half (b - a))) f _ b s1 (by omega) (by omega) (by omega)] at e2
  conv => lhs; rw [hf]; unfold rowT
  rw [if_neg ho, if_neg (by omega), e1]
  dsimp only
  rw [e2]
/-- What row does at the row from x to y - 1. -/
def TAt (wI : World) (B tb : Nat) (lf : List Lf) (F : Nat) (sd : List (List Nat)) (q : Option Addr) (n c : Nat) (sv : Value) (x y : Nat) : Prop := ∀ (w : World) (tx : List ByteArray) (u : Nat) (sh : Bool), tx.length + 2 * (y - x) ≤ 99000 → TStays wI w B tb → TW w tb B tx sv (u : Int) sh →
    Calls Tryd.prog 62 #[.pointer (some ⟨tb, 0, none⟩), .slice q n c, .int .i64 (F : Int), .int .i64 (x : Int), .int .i64 (y : Int)] w fun e w' => ∃ D tx' u' sh', rowTM lf F sd x y (tx, u, sh) = (D, tx', u', sh') ∧ e = .returned (.agg (bytesV D).toArray) ∧ TStays w w' B tb ∧ TW w' tb B tx' sv (u' : Int) sh' ∧ tx'.length ≤ tx.length + 2 * (y - x) - 1 ∧ Dgt D

set_option maxHeartbeats 4000000 in
set_option maxRecDepth 100000 in
theorem trow_split (wI : World) (B tb : Nat) (htB : tb < B) (hBI : B ≤ wI.heap.size) (lf : List Lf) (F : Nat) (sd : List (List Nat)) (q : Option Addr) (n c : Nat) (hl : lf.length = n) (hFn : F + n ≤ 4096) (sv : Value) (hGR : ∀ w', TStays wI w' B tb → GlobR w') (x y : Nat) (hxy : x + 1 < y) (hy : y ≤ 4096) (ho : ¬ (y ≤ F ∨ F + n ≤ x))
    (H1 : TAt wI B tb lf F sd q n c sv x (x + half (y - x))) (H2 : TAt wI B tb lf F sd q n c sv (x + half (y - x)) y) : TAt wI B tb lf F sd q n c sv x y := by
  intro w tx u sh htl hI hTW
  have hB : B ≤ w.heap.size := Nat.le_trans hBI hI.size
  have hlt := half_lt (y - x) (by omega)
  have hpo := half_pos (y - x)
  have HM0 := fun w0 => rhalf_any (y - x) (by omega) (by omega) w0
  have hsplit := fun (D1 D2 : List Nat) (s1 s2 : List ByteArray × Nat × Bool) => rowT_split lf F sd x y (tx, u, sh) hxy (by rw [hl]; exact ho) (D1 := D1) (D2 := D2) (s1 := s1) (s2 := s2)
  obtain ⟨m, hm⟩ : ∃ m, half (y - x) = m := ⟨_, rfl⟩
  rw [hm] at HM0 hlt hpo H1 H2
  rw [hm] at hsplit
  obtain ⟨k, hk⟩ : ∃ k, y - x = k := ⟨_, rfl⟩
  rw [hk] at HM0 hlt
  obtain ⟨z, hz⟩ : ∃ z, x + m = z := ⟨_, rfl⟩
  rw [hz] at H1 H2 hsplit
  have hz1 : x < z := by omega
  have hz2 : z < y := by omega
  have hzm : z ≤ 4096 := by omega
  have HM := Lib.hid HM0
  have HA := Lib.hid (fun (V : World) (g : TStays wI V B tb) (h : TW V tb B tx sv (u : Int) sh) => H1 V tx u sh (by omega) g h)
  have HC := Lib.hid (fun (V : World) (t1 : List ByteArray) (u1 : Nat) (s1 : Bool) (hb : t1.length ≤ tx.length + 2 * (z - x) - 1) (g : TStays wI V B tb) (h : TW V tb B t1 sv (u1 : Int) s1) => H2 V t1 u1 s1 (by omega) g h)
  have HSp := Lib.hid hsplit
  have HO := Lib.hid (fun (V : World) (A : Option Addr) (D1 D2 : List Nat) (hD1 : Dgt D1) (hD2 : Dgt D2) (t2 : List ByteArray) (u2 : Nat) (s2 : Bool) (hb : t2.length ≤ 99000) (g : TStays wI V B tb) (h : TW V tb B t2 sv (u2 : Int) s2) (hr : Cells V A (strsV [strOf D1, strOf D2])) =>
    (show Calls Tryd.prog 63 #[.pointer (some ⟨tb, 0, none⟩), .int .i64 4, .slice A 2 2] V fun e w' => e = .returned (.agg (bytesV (joinM D1 D2)).toArray) ∧ TStays V w' B tb ∧ TW w' tb B (t2 ++ [strOf (ofIn 4 [D1, D2])]) sv (u2 : Int) s2 from
      by have := tof_any tb B htB t2 (by omega) sv (u2 : Int) s2 4 (by omega) [strOf D1, strOf D2] 2 2 A rfl (by simp) (two_dig hD1.1 hD2.1) V (Nat.le_trans hBI g.size) h hr (fun w' h' => hGR w' (g.trans h')); rw [two_sbs hD1.2 hD2.2] at this; exact this))
  have HTx := Lib.hid (fun (V : World) (D1 : List Nat) (hD1 : Dgt D1) => text_any D1 hD1.1 hD1.2 V)
  have hz1' := zero_dig'
  have hz16 : (bytesV z16).toArray.toList.length = 16 := rfl
  have hvz : (bytesV z16).length = 16 := rfl
  have g1 : ¬ y ≤ F := by omega
  have g2 : ¬ F + n ≤ x := by omega
  have hk1 : ¬ ((y : Int) - (x : Int) = 1) := by omega
  have hk2 : ((y : Int) - (x : Int) == 1) = false := by simpa using hk1
  have hki : (y : Int) - (x : Int) = (k : Int) := by omega
  have hzi : (x : Int) + (m : Int) = (z : Int) := by omega
  have htl2 : tx.length + 2 * (y - x) ≤ 99000 := htl
  have HL := Lib.hid (And.intro hz1 (And.intro hz2 htl2))
  clear H1 H2 hGR hl ho hsplit HM0 hm hz hk htl htl2 hxy hlt hpo
  go_enter Tryd.func62, Tryd.ntmps62
  go_upto_region 1 with (fail)
  generalize hw1 : World.alloc _ _ = W0
  have Kr : Blk W0 w.heap.size 29 (bytesV z16) := hw1 ▸ (blk_new w _ _)
  have KB : Below w.heap.size w W0 := hw1 ▸ ((Below.refl _ _).alloc (Nat.le_refl _) _)
  have hT0 := hTW.keep KB
  have hS0 := TStays.below (tb := tb) KB hB
  clear hw1 hTW KB
  obtain ⟨rb, hrb⟩ : ∃ rb, w.heap.size = rb := ⟨_, rfl⟩
  rw [hrb] at Kr hB ⊢
  go_upto_region 10 with (go_at_call 76; refine (HM.out _).mono ?_; rintro e w1 ⟨rfl, hw1⟩; rw [hw1])
  go_upto_region 11 with (first
    | (go_at_call 62; refine (HA.out W0 (hI.trans hS0) hT0).mono ?_; rintro e V1 ⟨D1, t1, u1, s1, hr1, rfl, hS1, hT1, hl1, hD1⟩; have hv1 : (bytesV D1).length = 16 := by rw [bytesV_length]; exact hD1.1)
    | (refine store_blk rfl 29 (.tmp 12) (.tmp 90) rfl (blk_new V1 29 (bytesV z16).toArray) rfl rfl (m := 16) (by kernel_rfl) hv1 hz16 (bytesV_cells D1) ?_; intro V2 K12 O2))
  have HR1 := Lib.hid hr1
  have HL1 := Lib.hid hl1
  have hsz1 := Nat.le_trans hS0.size hS1.size
  have Kr1 := O2.2.1 _ _ _ (by have := Kr.lt; have := hS1.size; omega) ((hS1.blk _ _ _ (by omega) (by decide) Kr).alloc (.cells (bytesV z16).toArray 29))
  have hT2 := (hT1.keep ((Below.refl V1.heap.size V1).alloc (Nat.le_refl _) (.cells (bytesV z16).toArray 29))).only O2 (by omega) (blk_new V1 29 (bytesV z16).toArray)
  have hS2 : TStays w V2 B tb := ((hS0.trans hS1).trans (TStays.below ((Below.refl V1.heap.size V1).alloc (Nat.le_refl _) (.cells (bytesV z16).toArray 29)) (by omega))).only O2 (by omega) (by omega)
  have htb12 : tb ≠ V1.heap.size := by omega
  have hr12 : rb < V1.heap.size := by have := Kr.lt; have := hS1.size; omega
  have h12 := K12.lt
  clear hr1 hl1 hS0 hT0 hT1 hS1 Kr O2 HA HM
  obtain ⟨b12, hb12⟩ : ∃ b12, V1.heap.size = b12 := ⟨_, rfl⟩
  rw [hb12] at K12 htb12 hr12 hsz1 h12 ⊢
  clear hb12
  go_upto_region 12 with (first
    | (go_at_call 62; refine (HC.out V2 t1 u1 s1 HL1.out (hI.trans hS2) hT2).mono ?_; rintro e V3 ⟨D2, t2, u2, s2, hr2, rfl, hS3, hT3, hl2, hD2⟩; have hv2 : (bytesV D2).length = 16 := by rw [bytesV_length]; exact hD2.1)
    | (refine store_blk rfl 29 (.tmp 13) (.tmp 96) rfl (blk_new V3 29 (bytesV z16).toArray) rfl rfl (m := 16) (by kernel_rfl) hv2 hz16 (bytesV_cells D2) ?_; intro V4 K13 O4))
  have HR2 := Lib.hid hr2
  have HL2 := Lib.hid hl2
  have hsz3 := hS3.size
  have Kr4 := O4.2.1 _ _ _ (by omega) ((hS3.blk _ _ _ (by omega) (by decide) Kr1).alloc (.cells (bytesV z16).toArray 29))
  have K12' := O4.2.1 _ _ _ (by omega) ((hS3.blk _ _ _ (Ne.symm htb12) (by decide) K12).alloc (.cells (bytesV z16).toArray 29))
  have hT4 := (hT3.keep ((Below.refl V3.heap.size V3).alloc (Nat.le_refl _) (.cells (bytesV z16).toArray 29))).only O4 (by omega) (blk_new V3 29 (bytesV z16).toArray)
  have hS4 : TStays w V4 B tb := ((hS2.trans hS3).trans (TStays.below ((Below.refl V3.heap.size V3).alloc (Nat.le_refl _) (.cells (bytesV z16).toArray 29)) (by omega))).only O4 (by omega) (by omega)
  have htb13 : tb ≠ V3.heap.size := by omega
  have hr13 : rb < V3.heap.size := by omega
  clear hr2 hl2 hS2 hT2 hT3 hS3 Kr1 K12 O4 HC hsz3 h12
  obtain ⟨b13, hb13⟩ : ∃ b13, V3.heap.size = b13 := ⟨_, rfl⟩
  rw [hb13] at K13 htb13 hr13 ⊢
  clear hb13
  have hsD1 := size_dgR D1 hD1.1
  have hsD2 := size_dgR D2 hD2.1
  have hDJ : Dgt (joinM D1 D2) := dig_ofS _ _
  obtain ⟨DJ, hDJe⟩ : ∃ DJ, joinM D1 D2 = DJ := ⟨_, rfl⟩
  rw [hDJe] at hDJ
  have hvJ : (bytesV DJ).length = 16 := by rw [bytesV_length]; exact hDJ.1
  have HDJ := Lib.hid hDJe
  clear hDJe
  have hHeld : True := trivial
  refine wp_region_held_drew (S := fun w' => Blk w' b12 29 (bytesV D1) ∧ Blk w' b13 29 (bytesV D2)) (by kernel_rfl) ⟨K12'.drew, K13.drew⟩ (fun _ => ?_)
  have hHeld : Blk V4.drew b12 29 (bytesV D1) ∧ Blk V4.drew b13 29 (bytesV D2) := ⟨K12'.drew, K13.drew⟩
  replace Kr4 := Kr4.drew
  replace hT4 : TW V4.drew tb B t2 sv (u2 : Int) s2 := hT4
  replace hS4 := hS4.drew
  clear K12' K13
  generalize V4.drew = V5 at hHeld Kr4 hT4 hS4 ⊢
  refine wt (i := 0) (oi := ⟨some 97, .move (.tmp 0), 88, "ref.go:82", #[], none⟩) (v := .pointer (some ⟨tb, 0, none⟩)) (Or.inl ⟨by rfl, fun w' hSw => by go_simp⟩) hHeld ?_
  try simp only [zP, zQ, zS, zZ, zC]
  refine wt (i := 1) (oi := ⟨some 98, .load 29 (.tmp 12), 29, "ref.go:82", #[], none⟩) (v := _) (yieldsIf_load_mid (by rfl) _ _ rfl _ 0 rfl _ _ (fun w' hSw => rng_at hSw.1) Tryd.underlying29 rfl hsD1) hHeld ?_
  try simp only [zP, zQ, zS, zZ, zC]
  refine wt (i := 3) (oi := ⟨some 100, .load 29 (.tmp 13), 29, "ref.go:82", #[], none⟩) (v := _) (yieldsIf_load_mid (by rfl) _ _ rfl _ 0 rfl _ _ (fun w' hSw => rng_at hSw.2) Tryd.underlying29 rfl hsD2) hHeld ?_
  try simp only [zP, zQ, zS, zZ, zC]
  refine wpAnyH_ready (rs := [2]) (by kernel_rfl) (by simp) ?_
  refine AllReadyH.cons (o := ⟨some 99, .call { callee := .value (.func 61), args := #[.tmp 98], argTypes := #[29] }, 9, "ref.go:82", #[⟨1, .data⟩], none⟩) rfl (fun K hK => ?_) AllReadyH.nil
  rw [if_pos (by rfl)]
  go_simp
  refine (HTx.out V5 D1 hD1).mono ?_
  rintro en V6 ⟨rfl, hB9⟩
  dsimp only
  have Kr9 := Kr4.keep hB9
  have hT9 := hT4.keep hB9
  have hS9 := hS4.trans (TStays.below (tb := tb) hB9 (by have := hS4.size; omega))
  have hH9 : Blk V6 b12 29 (bytesV D1) ∧ Blk V6 b13 29 (bytesV D2) := ⟨hHeld.1.keep hB9, hHeld.2.keep hB9⟩
  clear Kr4 hT4 hS4 hB9
  have Kr4 := Kr9
  have hT4 := hT9
  have hS4 := hS9
  clear Kr9 hT9 hS9
  refine hK.out _ _ hH9 (fun hHeld => ?_)
  clear hK K hH9
  try simp only [zP, zQ, zS, zZ, zC]
  refine wpAnyH_ready (rs := [4]) (by kernel_rfl) (by simp) ?_
  refine AllReadyH.cons (o := ⟨some 101, .call { callee := .value (.func 61), args := #[.tmp 100], argTypes := #[29] }, 9, "ref.go:82", #[⟨3, .data⟩, ⟨2, .chain⟩], none⟩) rfl (fun K hK => ?_) AllReadyH.nil
  rw [if_pos (by rfl)]
  go_simp
  refine (HTx.out V6 D2 hD2).mono ?_
  rintro en V7 ⟨rfl, hB9⟩
  dsimp only
  have Kr9 := Kr4.keep hB9
  have hT9 := hT4.keep hB9
  have hS9 := hS4.trans (TStays.below (tb := tb) hB9 (by have := hS4.size; omega))
  have hH9 : Blk V7 b12 29 (bytesV D1) ∧ Blk V7 b13 29 (bytesV D2) := ⟨hHeld.1.keep hB9, hHeld.2.keep hB9⟩
  clear Kr4 hT4 hS4 hB9
  have Kr4 := Kr9
  have hT4 := hT9
  have hS4 := hS9
  clear Kr9 hT9 hS9
  refine hK.out _ _ hH9 (fun hHeld => ?_)
  clear hK K hH9
  try simp only [zP, zQ, zS, zZ, zC]
  refine wpAnyH_ready (rs := [5]) (by kernel_rfl) (by simp) ?_
  refine AllReadyH.cons (o := ⟨some 102, .buildSlice 47 2 #[(0, .tmp 99), (1, .tmp 101)], 47, "ref.go:82", #[⟨2, .data⟩, ⟨4, .data⟩], none⟩) rfl (fun K hK => ?_) AllReadyH.nil
  rw [if_pos (by rfl)]
  go_simp
  have hcl := cells_strs V7 [strOf D1, strOf D2]
  have XA := (Below.refl V7.heap.size V7).alloc (Nat.le_refl _) (.cells #[.string (strOf D1), .string (strOf D2)] 9)
  have hT9 := hT4.keep XA
  have Kr9 := Kr4.keep XA
  have hS9 := hS4.trans (TStays.below (tb := tb) XA (by have := hS4.size; omega))
  have hH9 := (⟨hHeld.1.keep XA, hHeld.2.keep XA⟩ : Blk (V7.alloc (.cells #[.string (strOf D1), .string (strOf D2)] 9)) b12 29 (bytesV D1) ∧ Blk (V7.alloc (.cells #[.string (strOf D1), .string (strOf D2)] 9)) b13 29 (bytesV D2))
  change Cells (V7.alloc (.cells #[.string (strOf D1), .string (strOf D2)] 9)) _ _ at hcl
  clear Kr4 hT4 hS4 XA
  generalize V7.alloc (.cells #[.string (strOf D1), .string (strOf D2)] 9) = V8 at hcl hT9 Kr9 hS9 hH9 ⊢
  refine hK.out _ _ hH9 (fun hHeld => ?_)
  clear hK K hH9
  try simp only [zP, zQ, zS, zZ, zC]
  refine wpAnyH_ready (rs := [6]) (by kernel_rfl) (by simp) ?_
  refine AllReadyH.cons (o := ⟨some 103, .call { callee := .value (.func 63), args := #[.tmp 97, .const (Value.int IntKind.i64 4), .tmp 102], argTypes := #[88, 3, 47] }, 29, "ref.go:82", #[⟨0, .data⟩, ⟨5, .data⟩, ⟨4, .chain⟩], none⟩) rfl (fun K hK => ?_) AllReadyH.nil
  rw [if_pos (by rfl)]
  go_simp
  refine (HO.out V8 _ D1 D2 hD1 hD2 t2 u2 s2 (by have := HL1.out; have := HL2.out; have := HL.out; omega) (hI.trans hS9) hT9 hcl).mono ?_
  rintro en V9 ⟨rfl, hSA, hTA⟩
  dsimp only
  rw [HDJ.out]
  have KrA := hSA.blk _ _ _ (by omega) (by decide) Kr9
  have hSB := hS9.trans hSA
  have hHA : Blk V9 b12 29 (bytesV D1) ∧ Blk V9 b13 29 (bytesV D2) := ⟨hSA.blk _ _ _ (Ne.symm htb12) (by decide) hHeld.1, hSA.blk _ _ _ (Ne.symm htb13) (by decide) hHeld.2⟩
  refine hK.out _ _ hHA (fun hHeld => ?_)
  clear hK K hHA hT9 Kr9 hS9 hSA hcl
  try simp only [zP, zQ, zS, zZ, zC]
  have hst := KrA.storeRun (vs := bytesV DJ) (by rw [hvJ, hvz]) (bytesV_cells DJ)
  refine wpAnyH_ready (rs := [7]) (by kernel_rfl) (by simp) ?_
  refine AllReadyH.cons (o := ⟨none, .store 29 (.tmp 10) (.tmp 103), 0, "ref.go:82", #[⟨6, .data⟩, ⟨6, .chain⟩, ⟨0, .phase⟩, ⟨1, .phase⟩, ⟨2, .phase⟩, ⟨3, .phase⟩, ⟨4, .phase⟩, ⟨5, .phase⟩, ⟨6, .phase⟩], none⟩) rfl (fun K hK => ?_) AllReadyH.nil
  rw [if_pos (by rfl)]
  go_simp
  have O := only_sets rb 0 V9 (bytesV DJ)
  have K6 : Blk (V9.setCells rb 0 (bytesV DJ)) rb 29 (bytesV DJ) := KrA.all (by rw [hvJ, hvz])
  have hTC := hTA.only O (by omega) KrA
  have hSC := hSB.only O (Nat.le_of_eq hrb) (by omega)
  have hHC : Blk (V9.setCells rb 0 (bytesV DJ)) b12 29 (bytesV D1) ∧ Blk (V9.setCells rb 0 (bytesV DJ)) b13 29 (bytesV D2) := ⟨O.2.1 _ _ _ (by omega) hHeld.1, O.2.1 _ _ _ (by omega) hHeld.2⟩
  clear hst KrA hTA hSB O
  generalize V9.setCells rb 0 (bytesV DJ) = VX at K6 hTC hSC hHC ⊢
  refine hK.out _ _ hHC (fun hHeld => ?_)
  clear hK K hHC
  try simp only [zP, zQ, zS, zZ, zC]
  refine wpAnyH_done (by kernel_rfl) ?_ _
  clear hHeld
  go_wp2
  exact bodyPost_ret (v := .agg (bytesV DJ).toArray) (K6.result (p := 10) (ty := 29) rfl _ rfl Tryd.underlying29 (by rw [hvJ]; kernel_rfl)) rfl ⟨DJ, t2 ++ [strOf (ofIn 4 [D1, D2])], u2, s2, by rw [HSp.out D1 D2 _ _ HR1.out HR2.out, HDJ.out], rfl, hSC, hTC, by have := HL1.out; have := HL2.out; have := HL.out; rw [List.length_append, List.length_singleton]; omega, hDJ⟩

end Go.Proofs.YtfhfmdnimebegaaDoor

/-
  The reference's Tree: row where a digest is given, or lacking.
-/
namespace Go.Proofs.YtfhfmdnimebegaaDoor
open Go.RowKit
set_option linter.unusedVariables false
set_option linter.unusedSimpArgs false

set_option maxHeartbeats 4000000 in
set_option maxRecDepth 100000 in
theorem trow_short (tb B : Nat) (htB : tb < B) (q : Option Addr) (n c F x y : Nat) (hFn : F + n ≤ 4096) (ho : y ≤ F ∨ F + n ≤ x) (tx : List ByteArray) (sa : Option Addr) (k sc u : Nat) (hu : k ≤ u) (sh : Bool) (w : World) (hB : B ≤ w.heap.size) (hTW : TW w tb B tx (.slice sa k sc) (u : Int) sh) :
    Calls Tryd.prog 62 #[.pointer (some ⟨tb, 0, none⟩), .slice q n c, .int .i64 (F : Int), .int .i64 (x : Int), .int .i64 (y : Int)] w
      fun e w' => e = .returned (.agg (bytesV z16).toArray) ∧ TStays w w' B tb ∧ TW w' tb B tx (.slice sa k sc) (u : Int) true := by
  have hz1 := zero_dig'
  have hz2 := build_zero
  have hvz : (bytesV z16).length = 16 := rfl
  have hz16 : (bytesV z16).toArray.toList.length = 16 := rfl
  have key : y ≤ F ∨ (¬ y ≤ F ∧ F + n ≤ x) := by omega
  obtain ⟨tv, hT, hO⟩ := hTW
  clear ho
  go_enter Tryd.func62, Tryd.ntmps62
  rcases key with h1 | ⟨h0, h1⟩
  all_goals
    go_upto_region 1 with (fail)
    generalize hw1 : World.alloc _ _ = W0
    have Kr : Blk W0 w.heap.size 29 (bytesV z16) := hw1 ▸ (blk_new w _ _)
    have KB : Below w.heap.size w W0 := hw1 ▸ ((Below.refl _ _).alloc (Nat.le_refl _) _)
    have hT0 := hT.keep KB
    have hO0 := hO.keep KB
    have hS0 := TStays.below (tb := tb) KB hB
    clear hw1
    go_upto_region 2 with (fail)
    have hHeld : True := trivial
    refine wp_region_held_drew (S := fun w' => Below W0.drew.heap.size W0.drew w') (by kernel_rfl) (Below.refl _ _) (fun _ => ?_)
    have hHeld : Below W0.drew.heap.size W0.drew W0.drew := Below.refl _ _
    have C1 : ∀ w', Below W0.drew.heap.size W0.drew w' → w'.cell? ⟨tb, 1, none⟩ = some (.slice sa k sc) := fun w' h => (h.cell hT0.lt).trans (hT0.cell (j := 1) rfl)
    have C2 : ∀ w', Below W0.drew.heap.size W0.drew w' → w'.cell? ⟨tb, 2, none⟩ = some (.int .i64 (u : Int)) := fun w' h => (h.cell hT0.lt).trans (hT0.cell (j := 2) rfl)
    replace Kr := Kr.drew
    replace hT0 := hT0.drew
    replace hO0 : OwnS W0.drew B tv tx := hO0
    replace hS0 := hS0.drew
    replace KB := below_drew KB
    clear hT hO
    generalize W0.drew = V0 at hHeld C1 C2 Kr hT0 hO0 hS0 KB ⊢
    refine wt (i := 0) (oi := ⟨some 25, .move (.tmp 0), 88, "ref.go:69", #[], none⟩) (v := .pointer (some ⟨tb, 0, none⟩)) (Or.inl ⟨by rfl, fun w' hSw => by go_simp⟩) hHeld ?_
    try simp only [zP, zQ, zS, zZ, zC]
    refine wt (i := 1) (oi := ⟨some 26, .nilCheck (.tmp 25), 0, "ref.go:69", #[⟨0, .data⟩], none⟩) (v := .pointer (some ⟨tb, 0, none⟩)) (Or.inl ⟨by rfl, fun w' hSw => by go_simp⟩) hHeld ?_
    try simp only [zP, zQ, zS, zZ, zC]
    refine wt (i := 2) (oi := ⟨some 27, .fieldAddr 90 (.tmp 26) 2, 0, "ref.go:69", #[⟨1, .data⟩], none⟩) (v := .pointer (some ⟨tb, 2, none⟩)) (Or.inl ⟨by rfl, fun w' hSw => by go_simp⟩) hHeld ?_
    try simp only [zP, zQ, zS, zZ, zC]
    refine wt (i := 3) (oi := ⟨some 28, .load 3 (.tmp 27), 3, "ref.go:69", #[⟨2, .data⟩], none⟩) (v := .int .i64 (u : Int)) (Or.inl ⟨by rfl, fun w' hSw => by have hc := C2 w' hSw; go_simp⟩) hHeld ?_
    try simp only [zP, zQ, zS, zZ, zC]
    refine wt (i := 4) (oi := ⟨some 29, .move (.tmp 0), 88, "ref.go:69", #[], none⟩) (v := .pointer (some ⟨tb, 0, none⟩)) (Or.inl ⟨by rfl, fun w' hSw => by go_simp⟩) hHeld ?_
    try simp only [zP, zQ, zS, zZ, zC]
    refine wt (i := 5) (oi := ⟨some 30, .nilCheck (.tmp 29), 0, "ref.go:69", #[⟨4, .data⟩], none⟩) (v := .pointer (some ⟨tb, 0, none⟩)) (Or.inl ⟨by rfl, fun w' hSw => by go_simp⟩) hHeld ?_
    try simp only [zP, zQ, zS, zZ, zC]
    refine wt (i := 6) (oi := ⟨some 31, .fieldAddr 90 (.tmp 30) 1, 0, "ref.go:69", #[⟨5, .data⟩], none⟩) (v := .pointer (some ⟨tb, 1, none⟩)) (Or.inl ⟨by rfl, fun w' hSw => by go_simp⟩) hHeld ?_
    try simp only [zP, zQ, zS, zZ, zC]
    refine wt (i := 7) (oi := ⟨some 32, .load 48 (.tmp 31), 48, "ref.go:69", #[⟨6, .data⟩], none⟩) (v := .slice sa k sc) (Or.inl ⟨by rfl, fun w' hSw => by have hc := C1 w' hSw; go_simp⟩) hHeld ?_
    try simp only [zP, zQ, zS, zZ, zC]
    refine wt (i := 8) (oi := ⟨some 33, .call { callee := .builtin .len, args := #[.tmp 32], argTypes := #[48] }, 3, "ref.go:69", #[⟨7, .data⟩], none⟩) (v := .int .i64 (k : Int)) (Or.inl ⟨by rfl, fun w' hSw => by go_simp⟩) hHeld ?_
    try simp only [zP, zQ, zS, zZ, zC]
    refine wt (i := 9) (oi := ⟨some 34, .binOp .geq 3 (.tmp 28) (.tmp 33) 3, 4, "ref.go:69", #[⟨3, .data⟩, ⟨8, .data⟩], none⟩) (v := .bool true) (Or.inl ⟨by rfl, fun w' hSw => by go_simp; try omega⟩) hHeld ?_
    try simp only [zP, zQ, zS, zZ, zC]
    refine wpAnyH_done (by kernel_rfl) ?_ _
    clear hHeld C1 C2
    have hf3 := hT0.free 3
    have hc3 := hT0.cell (j := 3) rfl
    go_upto_region 4 with (fail)
    have hs3 := hS0.setCell 3 (.bool true)
    have hT3 := hT0.set 3 (.bool true)
    have hO3 : OwnS (V0.setCell ⟨tb, 3, none⟩ (.bool true)) B tv tx := OwnS.setCell hO0 htB
    have hr3 := Kr.other (a := ⟨tb, 3, none⟩) (by show w.heap.size ≠ tb; omega) (.bool true)
    simp only [List.set_cons_succ, List.set_cons_zero] at hT3
    generalize V0.setCell ⟨tb, 3, none⟩ (.bool true) = V3 at hs3 hT3 hO3 hr3 ⊢
    clear hf3 hc3 hT0 hO0 hS0 Kr KB
    go_wp2_with (refine store_blk rfl 29 (.tmp 10) (.tmp 38) rfl hr3 rfl rfl (m := 16) (by kernel_rfl) hvz hz16 (bytesV_cells z16) ?_; intro W6 K6 O6)
    exact bodyPost_ret (v := .agg (bytesV z16).toArray) (K6.result (p := 10) (ty := 29) rfl _ rfl Tryd.underlying29 (by kernel_rfl)) rfl ⟨rfl, hs3.only O6 (Nat.le_refl _) hB, _, O6.2.1 _ _ _ (by omega) hT3, hO3.only O6 (own_other hO3 hr3 (by decide))⟩

theorem range_nth : ∀ (sd : List (List Nat)) (u : Nat) (d : List Nat), (∀ x ∈ sd, x.length = 16) → sd[u]? = some d → ∀ j v, (bytesV d)[j]? = some v → (bytesV sd.flatten)[16 * u + j]? = some v
  | [], u, d, _, h, _, _, _ => by simp at h
  | x :: r, 0, d, hl, h, j, v, hj => by
    obtain rfl : x = d := by simpa using h
    rw [List.flatten_cons, bytesV_append, Nat.mul_zero, Nat.zero_add, List.getElem?_append_left (List.getElem?_eq_some_iff.1 hj).1]
    exact hj
  | x :: r, u + 1, d, hl, h, j, v, hj => by
    have hx : (bytesV x).length = 16 := by rw [bytesV_length]; exact hl x (by simp)
    rw [List.flatten_cons, bytesV_append, List.getElem?_append_right (by omega), hx, show 16 * (u + 1) + j - 16 = 16 * u + j by omega]
    exact range_nth r u d (fun y hy => hl y (by simp [hy])) (by simpa using h) j v hj

set_option maxHeartbeats 4000000 in
set_option maxRecDepth 100000 in
theorem trow_take (tb B : Nat) (htB : tb < B) (q : Option Addr) (n c F x y : Nat) (hFn : F + n ≤ 4096) (ho : y ≤ F ∨ F + n ≤ x) (tx : List ByteArray) (g off k sc u : Nat) (hu : u < k) (hk : k ≤ 1000000) (hks : k ≤ sc) (sh : Bool) (d : List Nat) (hd : Dgt d) (w : World) (hB : B ≤ w.heap.size) (hTW : TW w tb B tx (.slice (some ⟨g, off, none⟩) k sc) (u : Int) sh) (hgw : g < w.heap.size) (hgt : g ≠ tb) (hr : w.rangeAt g (off + u * 16) (bytesV d)) :
    Calls Tryd.prog 62 #[.pointer (some ⟨tb, 0, none⟩), .slice q n c, .int .i64 (F : Int), .int .i64 (x : Int), .int .i64 (y : Int)] w
      fun e w' => e = .returned (.agg (bytesV d).toArray) ∧ TStays w w' B tb ∧ TW w' tb B tx (.slice (some ⟨g, off, none⟩) k sc) ((u + 1 : Nat) : Int) sh := by
  have hvd : (bytesV d).length = 16 := by rw [bytesV_length]; exact hd.1
  have hsd := size_dgR d hd.1
  have hsz1 := size_dg
  obtain ⟨u1, hu1⟩ : ∃ u1, u + 1 = u1 := ⟨_, rfl⟩
  rw [hu1]
  have hui : (u : Int) + 1 = (u1 : Int) := by omega
  have hwu : IntKind.i64.wrap ((u : Int) + 1) = (u1 : Int) := by
    rw [hui]
    simp [IntKind.wrap, IntKind.signed, IntKind.bits]
    omega
  have hwv : wrap64 ((u1 : Int) - 1) = (u : Int) := by unfold wrap64; omega
  have hwx : (u1 : Int) - 1 = (u : Int) := by omega
  have hu1b : u1 ≤ 1000000 := by omega
  have hwy : IntKind.i64.wrap (u : Int) = (u : Int) := by
    simp [IntKind.wrap, IntKind.signed, IntKind.bits]
    omega
  have hz1 := zero_dig'
  have hz2 := build_zero
  have hvz : (bytesV z16).length = 16 := rfl
  have hz16 : (bytesV z16).toArray.toList.length = 16 := rfl
  have key : y ≤ F ∨ (¬ y ≤ F ∧ F + n ≤ x) := by omega
  obtain ⟨tv, hT, hO⟩ := hTW
  clear ho
  go_enter Tryd.func62, Tryd.ntmps62
  rcases key with h1 | ⟨h0, h1⟩
  all_goals
    go_upto_region 1 with (fail)
    generalize hw1 : World.alloc _ _ = W0
    have Kr : Blk W0 w.heap.size 29 (bytesV z16) := hw1 ▸ (blk_new w _ _)
    have KB : Below w.heap.size w W0 := hw1 ▸ ((Below.refl _ _).alloc (Nat.le_refl _) _)
    have hT0 := hT.keep KB
    have hO0 := hO.keep KB
    have hS0 := TStays.below (tb := tb) KB hB
    clear hw1
    go_upto_region 2 with (fail)
    have hHeld : True := trivial
    refine wp_region_held_drew (S := fun w' => Below W0.drew.heap.size W0.drew w') (by kernel_rfl) (Below.refl _ _) (fun _ => ?_)
    have hHeld : Below W0.drew.heap.size W0.drew W0.drew := Below.refl _ _
    have C1 : ∀ w', Below W0.drew.heap.size W0.drew w' → w'.cell? ⟨tb, 1, none⟩ = some (.slice (some ⟨g, off, none⟩) k sc) := fun w' h => (h.cell hT0.lt).trans (hT0.cell (j := 1) rfl)
    have C2 : ∀ w', Below W0.drew.heap.size W0.drew w' → w'.cell? ⟨tb, 2, none⟩ = some (.int .i64 (u : Int)) := fun w' h => (h.cell hT0.lt).trans (hT0.cell (j := 2) rfl)
    replace Kr := Kr.drew
    replace hT0 := hT0.drew
    replace hO0 : OwnS W0.drew B tv tx := hO0
    replace hS0 := hS0.drew
    replace KB := below_drew KB
    clear hT hO
    generalize W0.drew = V0 at hHeld C1 C2 Kr hT0 hO0 hS0 KB ⊢
    refine wt (i := 0) (oi := ⟨some 25, .move (.tmp 0), 88, "ref.go:69", #[], none⟩) (v := .pointer (some ⟨tb, 0, none⟩)) (Or.inl ⟨by rfl, fun w' hSw => by go_simp⟩) hHeld ?_
    try simp only [zP, zQ, zS, zZ, zC]
    refine wt (i := 1) (oi := ⟨some 26, .nilCheck (.tmp 25), 0, "ref.go:69", #[⟨0, .data⟩], none⟩) (v := .pointer (some ⟨tb, 0, none⟩)) (Or.inl ⟨by rfl, fun w' hSw => by go_simp⟩) hHeld ?_
    try simp only [zP, zQ, zS, zZ, zC]
    refine wt (i := 2) (oi := ⟨some 27, .fieldAddr 90 (.tmp 26) 2, 0, "ref.go:69", #[⟨1, .data⟩], none⟩) (v := .pointer (some ⟨tb, 2, none⟩)) (Or.inl ⟨by rfl, fun w' hSw => by go_simp⟩) hHeld ?_
    try simp only [zP, zQ, zS, zZ, zC]
    refine wt (i := 3) (oi := ⟨some 28, .load 3 (.tmp 27), 3, "ref.go:69", #[⟨2, .data⟩], none⟩) (v := .int .i64 (u : Int)) (Or.inl ⟨by rfl, fun w' hSw => by have hc := C2 w' hSw; go_simp⟩) hHeld ?_
    try simp only [zP, zQ, zS, zZ, zC]
    refine wt (i := 4) (oi := ⟨some 29, .move (.tmp 0), 88, "ref.go:69", #[], none⟩) (v := .pointer (some ⟨tb, 0, none⟩)) (Or.inl ⟨by rfl, fun w' hSw => by go_simp⟩) hHeld ?_
    try simp only [zP, zQ, zS, zZ, zC]
    refine wt (i := 5) (oi := ⟨some 30, .nilCheck (.tmp 29), 0, "ref.go:69", #[⟨4, .data⟩], none⟩) (v := .pointer (some ⟨tb, 0, none⟩)) (Or.inl ⟨by rfl, fun w' hSw => by go_simp⟩) hHeld ?_
    try simp only [zP, zQ, zS, zZ, zC]
    refine wt (i := 6) (oi := ⟨some 31, .fieldAddr 90 (.tmp 30) 1, 0, "ref.go:69", #[⟨5, .data⟩], none⟩) (v := .pointer (some ⟨tb, 1, none⟩)) (Or.inl ⟨by rfl, fun w' hSw => by go_simp⟩) hHeld ?_
    try simp only [zP, zQ, zS, zZ, zC]
    refine wt (i := 7) (oi := ⟨some 32, .load 48 (.tmp 31), 48, "ref.go:69", #[⟨6, .data⟩], none⟩) (v := .slice (some ⟨g, off, none⟩) k sc) (Or.inl ⟨by rfl, fun w' hSw => by have hc := C1 w' hSw; go_simp⟩) hHeld ?_
    try simp only [zP, zQ, zS, zZ, zC]
    refine wt (i := 8) (oi := ⟨some 33, .call { callee := .builtin .len, args := #[.tmp 32], argTypes := #[48] }, 3, "ref.go:69", #[⟨7, .data⟩], none⟩) (v := .int .i64 (k : Int)) (Or.inl ⟨by rfl, fun w' hSw => by go_simp⟩) hHeld ?_
    try simp only [zP, zQ, zS, zZ, zC]
    refine wt (i := 9) (oi := ⟨some 34, .binOp .geq 3 (.tmp 28) (.tmp 33) 3, 4, "ref.go:69", #[⟨3, .data⟩, ⟨8, .data⟩], none⟩) (v := .bool false) (Or.inl ⟨by rfl, fun w' hSw => by go_simp; try omega⟩) hHeld ?_
    try simp only [zP, zQ, zS, zZ, zC]
    refine wpAnyH_done (by kernel_rfl) ?_ _
    clear hHeld C1 C2
    have hgb : V0.heap[g]? = w.heap[g]? := KB.block g hgw
    have hf2 := hT0.free 2
    have hc2 := hT0.cell (j := 2) rfl
    go_upto_region 6 with (fail)
    have hs3 := hS0.setCell 2 (.int .i64 (u1 : Int))
    have hT3 := hT0.set 2 (.int .i64 (u1 : Int))
    have hO3 : OwnS (V0.setCell ⟨tb, 2, none⟩ (.int .i64 (u1 : Int))) B tv tx := OwnS.setCell hO0 htB
    have hr3 := Kr.other (a := ⟨tb, 2, none⟩) (by show w.heap.size ≠ tb; omega) (.int .i64 (u1 : Int))
    have hg3 : (V0.setCell ⟨tb, 2, none⟩ (.int .i64 (u1 : Int))).heap[g]? = w.heap[g]? := (heap_setCell_other V0 ⟨tb, 2, none⟩ g _ hgt).trans hgb
    simp only [List.set_cons_succ, List.set_cons_zero] at hT3
    generalize V0.setCell ⟨tb, 2, none⟩ (.int .i64 (u1 : Int)) = V3 at hs3 hT3 hO3 hr3 hg3 ⊢
    clear hf2 hc2 hT0 hO0 hS0 Kr KB hgb
    have hHeld : True := trivial
    have hRr : V3.rangeAt g (off + u * 16) (bytesV d) := fun j v hj => (World.cell?_of_block (w := w) hg3).trans (hr j v hj)
    refine wp_region_held_drew (S := fun w' => w'.rangeAt g (off + u * 16) (bytesV d) ∧ Blk w' tb 90 [tv, .slice (some ⟨g, off, none⟩) k sc, .int .i64 (u1 : Int), .bool sh]) (by kernel_rfl) ⟨hRr, hT3.drew⟩ (fun _ => ?_)
    have hHeld : V3.drew.rangeAt g (off + u * 16) (bytesV d) ∧ Blk V3.drew tb 90 [tv, .slice (some ⟨g, off, none⟩) k sc, .int .i64 (u1 : Int), .bool sh] := ⟨hRr, hT3.drew⟩
    replace hs3 := hs3.drew
    replace hO3 : OwnS V3.drew B tv tx := hO3
    replace hr3 := hr3.drew
    clear hRr hT3 hg3
    generalize V3.drew = V4 at hHeld hs3 hO3 hr3 ⊢
    refine wt (i := 0) (oi := ⟨some 47, .move (.tmp 0), 88, "ref.go:74", #[], none⟩) (v := .pointer (some ⟨tb, 0, none⟩)) (Or.inl ⟨by rfl, fun w' hSw => by go_simp⟩) hHeld ?_
    try simp only [zP, zQ, zS, zZ, zC]
    refine wt (i := 1) (oi := ⟨some 48, .nilCheck (.tmp 47), 0, "ref.go:74", #[⟨0, .data⟩], none⟩) (v := .pointer (some ⟨tb, 0, none⟩)) (Or.inl ⟨by rfl, fun w' hSw => by go_simp⟩) hHeld ?_
    try simp only [zP, zQ, zS, zZ, zC]
    refine wt (i := 2) (oi := ⟨some 49, .fieldAddr 90 (.tmp 48) 1, 0, "ref.go:74", #[⟨1, .data⟩], none⟩) (v := .pointer (some ⟨tb, 1, none⟩)) (Or.inl ⟨by rfl, fun w' hSw => by go_simp⟩) hHeld ?_
    try simp only [zP, zQ, zS, zZ, zC]
    refine wt (i := 3) (oi := ⟨some 50, .load 48 (.tmp 49), 48, "ref.go:74", #[⟨2, .data⟩], none⟩) (v := .slice (some ⟨g, off, none⟩) k sc) (Or.inl ⟨by rfl, fun w' hSw => by have hc := Blk.cell (j := 1) hSw.2 rfl; go_simp⟩) hHeld ?_
    try simp only [zP, zQ, zS, zZ, zC]
    refine wt (i := 4) (oi := ⟨some 51, .move (.tmp 0), 88, "ref.go:74", #[], none⟩) (v := .pointer (some ⟨tb, 0, none⟩)) (Or.inl ⟨by rfl, fun w' hSw => by go_simp⟩) hHeld ?_
    try simp only [zP, zQ, zS, zZ, zC]
    refine wt (i := 5) (oi := ⟨some 52, .nilCheck (.tmp 51), 0, "ref.go:74", #[⟨4, .data⟩], none⟩) (v := .pointer (some ⟨tb, 0, none⟩)) (Or.inl ⟨by rfl, fun w' hSw => by go_simp⟩) hHeld ?_
    try simp only [zP, zQ, zS, zZ, zC]
    refine wt (i := 6) (oi := ⟨some 53, .fieldAddr 90 (.tmp 52) 2, 0, "ref.go:74", #[⟨5, .data⟩], none⟩) (v := .pointer (some ⟨tb, 2, none⟩)) (Or.inl ⟨by rfl, fun w' hSw => by go_simp⟩) hHeld ?_
    try simp only [zP, zQ, zS, zZ, zC]
    refine wt (i := 7) (oi := ⟨some 54, .load 3 (.tmp 53), 3, "ref.go:74", #[⟨6, .data⟩], none⟩) (v := .int .i64 (u1 : Int)) (Or.inl ⟨by rfl, fun w' hSw => by have hc := Blk.cell (j := 2) hSw.2 rfl; go_simp⟩) hHeld ?_
    try simp only [zP, zQ, zS, zZ, zC]
    refine wt (i := 8) (oi := ⟨some 55, .binOp .sub 3 (.tmp 54) (.const (Value.int IntKind.i64 1)) 3, 3, "ref.go:74", #[⟨7, .data⟩], none⟩) (v := .int .i64 (u : Int)) (Or.inl ⟨by rfl, fun w' hSw => by go_simp⟩) hHeld ?_
    try simp only [zP, zQ, zS, zZ, zC]
    refine wt (i := 9) (oi := ⟨some 56, .indexAddr 48 (.tmp 50) (.tmp 55), 0, "ref.go:74", #[⟨3, .data⟩, ⟨8, .data⟩], none⟩) (v := .pointer (some ⟨g, off + u * 16, none⟩)) (Or.inl ⟨by rfl, fun w' hSw => by go_simp; try (intro hcm; exact absurd hcm (by omega))⟩) hHeld ?_
    try simp only [zP, zQ, zS, zZ, zC]
    refine wt (i := 10) (oi := ⟨some 57, .load 29 (.tmp 56), 29, "ref.go:74", #[⟨9, .data⟩], none⟩) (v := _) (yieldsIf_load_mid (by rfl) _ _ rfl _ (off + u * 16) rfl _ _ (fun w' hSw => hSw.1) Tryd.underlying29 rfl hsd) hHeld ?_
    try simp only [zP, zQ, zS, zZ, zC]
    have hst := hr3.storeRun (vs := bytesV d) (by rw [hvd, hvz]) (bytesV_cells d)
    refine wpAnyH_ready (rs := [11]) (by kernel_rfl) (by simp) ?_
    refine AllReadyH.cons (o := ⟨none, .store 29 (.tmp 10) (.tmp 57), 0, "ref.go:74", #[⟨10, .data⟩, ⟨0, .phase⟩, ⟨1, .phase⟩, ⟨2, .phase⟩, ⟨3, .phase⟩, ⟨4, .phase⟩, ⟨5, .phase⟩, ⟨6, .phase⟩, ⟨7, .phase⟩, ⟨8, .phase⟩, ⟨9, .phase⟩, ⟨10, .phase⟩], none⟩) rfl (fun K hK => ?_) AllReadyH.nil
    rw [if_pos (by rfl)]
    go_simp
    have O := only_sets w.heap.size 0 V4 (bytesV d)
    have K6 : Blk (V4.setCells w.heap.size 0 (bytesV d)) w.heap.size 29 (bytesV d) := hr3.all (by rw [hvd, hvz])
    have hR6 : (V4.setCells w.heap.size 0 (bytesV d)).rangeAt g (off + u * 16) (bytesV d) := fun j v hj => (World.cell?_of_block (w := V4) ((O.2.2 w.heap.size V4 (Nat.le_refl _) (Below.refl _ _)).block g hgw)).trans (hHeld.1 j v hj)
    have hT6 := O.2.1 _ _ _ (by omega) hHeld.2
    have hO6 := hO3.only O (own_other hO3 hr3 (by decide))
    have hs6 := hs3.only O (Nat.le_refl _) hB
    clear hst hr3 hO3 hs3 O
    generalize V4.setCells w.heap.size 0 (bytesV d) = V6 at K6 hR6 hT6 hO6 hs6 ⊢
    refine hK.out _ _ ⟨hR6, hT6⟩ (fun hHeld => ?_)
    clear hK K
    try simp only [zP, zQ, zS, zZ, zC]
    refine wpAnyH_done (by kernel_rfl) ?_ _
    clear hHeld
    go_wp2
    exact bodyPost_ret (v := .agg (bytesV d).toArray) (K6.result (p := 10) (ty := 29) rfl _ rfl Tryd.underlying29 (by rw [hvd]; kernel_rfl)) rfl ⟨rfl, hs6, _, hT6, hO6⟩

end Go.Proofs.YtfhfmdnimebegaaDoor

/-
  The reference's Tree: row, whole.
-/
namespace Go.Proofs.YtfhfmdnimebegaaDoor
open Go.RowKit
set_option linter.unusedVariables false
set_option linter.unusedSimpArgs false

theorem rowTM_short (lf : List Lf) (F : Nat) (sd : List (List Nat)) (a b : Nat) (tx : List ByteArray) (u : Nat) (sh : Bool) (h : a < b) (ho : b ≤ F ∨ F + lf.length ≤ a) (hu : sd[u]? = none) : rowTM lf F sd a b (tx, u, sh) = (z16, tx, u, true) := by
  obtain ⟨f, hf⟩ : ∃ f, b - a = f + 1 := ⟨b - a - 1, by omega⟩
  unfold rowTM
  rw [hf]
  unfold rowT
  rw [if_pos ho]
  dsimp only
  rw [hu]
theorem rowTM_take (lf : List Lf) (F : Nat) (sd : List (List Nat)) (a b : Nat) (tx : List ByteArray) (u : Nat) (sh : Bool) (d : List Nat) (h : a < b) (ho : b ≤ F ∨ F + lf.length ≤ a) (hu : sd[u]? = some d) : rowTM lf F sd a b (tx, u, sh) = (d, tx, u + 1, sh) := by
  obtain ⟨f, hf⟩ : ∃ f, b - a = f + 1 := ⟨b - a - 1, by omega⟩
  unfold rowTM
  rw [hf]
  unfold rowT
  rw [if_pos ho]
  dsimp only
  rw [hu]
theorem rowTM_leaf (lf : List Lf) (F : Nat) (sd : List (List Nat)) (a : Nat) (tx : List ByteArray) (u : Nat) (sh : Bool) (ho : ¬ (a + 1 ≤ F ∨ F + lf.length ≤ a)) : rowTM lf F sd a (a + 1) (tx, u, sh) = (rowM ((lf.drop (a - F)).take 1), tx ++ [strOf (ofIn 3 (((lf.drop (a - F)).take 1).flatMap fun x => [sb x.1, sb x.2]))], u, sh) := by
  unfold rowTM
  rw [show a + 1 - a = 0 + 1 by omega]
  unfold rowT
  rw [if_neg ho, if_pos rfl]
theorem trow_any (wI : World) (B tb : Nat) (htB : tb < B) (hBI : B ≤ wI.heap.size) (lf : List Lf) (F : Nat) (sd : List (List Nat)) (hd : Dgts sd) (q : Option Addr) (n c : Nat) (hl : lf.length = n) (hSm : Small lf) (hFn : F + n ≤ 4096) (sa : Option Addr) (k sc : Nat) (hk : sd.length = k) (hkb : k ≤ 1000000) (hks : k ≤ sc)
    (hGR : ∀ w', TStays wI w' B tb → GlobR w') (hL : ∀ w', TStays wI w' B tb → OwnL w' q lf) (hLB : lf ≠ [] → ∀ b off i, q = some ⟨b, off, i⟩ → b < B ∧ b ≠ tb)
    (hSd : sd ≠ [] → ∃ g off, sa = some ⟨g, off, none⟩ ∧ g < B ∧ g ≠ tb ∧ wI.rangeAt g off (bytesV sd.flatten)) :
    ∀ (kk x y : Nat), y - x = kk → x < y → y ≤ 4096 → TAt wI B tb lf F sd q n c (.slice sa k sc) x y := by
  intro kk
  induction kk using Nat.strongRecOn with
  | ind kk ih =>
    intro x y hkk hxy hy
    by_cases ho : y ≤ F ∨ F + n ≤ x
    · intro w tx u sh htl hI hTW
      have hB : B ≤ w.heap.size := Nat.le_trans hBI hI.size
      rcases hu : sd[u]? with _ | d
      · have hul : k ≤ u := by rw [← hk]; exact List.getElem?_eq_none_iff.1 hu
        refine (trow_short tb B htB q n c F x y hFn ho tx sa k sc u hul sh w hB hTW).mono ?_
        rintro e w' ⟨rfl, h1, h2⟩
        exact ⟨z16, tx, u, true, rowTM_short lf F sd x y tx u sh hxy (by rw [hl]; exact ho) hu, rfl, h1, h2, by omega, z16_dgt⟩
      · have hul : u < k := by rw [← hk]; exact (List.getElem?_eq_some_iff.1 hu).1
        have hdd : Dgt d := hd d (List.mem_of_getElem? hu)
        obtain ⟨g, off, rfl, hgB, hgt, hr⟩ := hSd (by intro h; rw [h] at hu; simp at hu)
        have hrw : w.rangeAt g (off + u * 16) (bytesV d) := fun j v hj => by
          have h1 := hr (16 * u + j) v (range_nth sd u d (fun x hx => (hd x hx).1) hu j v hj)
          rw [show off + (16 * u + j) = off + u * 16 + j by omega] at h1
          exact (World.cell?_of_block (w := wI) (hI.heap g hgB hgt)).trans h1
        refine (trow_take tb B htB q n c F x y hFn ho tx g off k sc u hul hkb hks sh d hdd w hB hTW (by omega) hgt hrw).mono ?_
        rintro e w' ⟨rfl, h1, h2⟩
        exact ⟨d, tx, u + 1, sh, rowTM_take lf F sd x y tx u sh d hxy (by rw [hl]; exact ho) hu, rfl, h1, h2, by omega, hdd⟩
    · by_cases h1 : y = x + 1
      · subst h1
        intro w tx u sh htl hI hTW
        have hB : B ≤ w.heap.size := Nat.le_trans hBI hI.size
        refine (trow_leaf tb B htB lf q n c hl hSm F x (x + 1) hFn rfl (by omega) (by omega) tx (by omega) _ (u : Int) sh w hB hTW (hL w hI) (hLB (by intro h; rw [h] at hl; simp at hl; omega)) (fun w' h => hGR w' (hI.trans h))).mono ?_
        rintro e w' ⟨rfl, h2, h3⟩
        refine ⟨_, _, u, sh, rowTM_leaf lf F sd x tx u sh (by rw [hl]; exact ho), rfl, h2, h3, by rw [List.length_append, List.length_singleton]; omega, rowM_dgt _ _ (Nat.le_refl _) ?_⟩
        rw [List.length_take, List.length_drop]
        omega
      · have h3 := half_lt (y - x) (by omega)
        have h4 := half_pos (y - x)
        exact trow_split wI B tb htB hBI lf F sd q n c hl hFn _ hGR x y (by omega) hy ho
          (ih (x + half (y - x) - x) (by omega) _ _ rfl (by omega) (by omega)) (ih (y - (x + half (y - x))) (by omega) _ _ rfl (by omega) hy)
/-- With all leaves at hand the row's digest is that of the leaves. -/
theorem rowTM_all (lf : List Lf) : ∀ (k a b : Nat) (s : List ByteArray × Nat × Bool), b - a ≤ k → a < b → b ≤ lf.length → (rowTM lf 0 [] a b s).1 = rowM ((lf.drop a).take (b - a))
  | 0, a, b, s, hk, h, hb => by omega
  | k + 1, a, b, (tx, u, sh), hk, h, hb => by
    have ho : ¬ (b ≤ 0 ∨ 0 + lf.length ≤ a) := by omega
    by_cases h1 : b = a + 1
    · subst h1
      rw [rowTM_leaf lf 0 [] a tx u sh ho, Nat.sub_zero, show a + 1 - a = 1 by omega]
    · have h3 := half_lt (b - a) (by omega)
      have h4 := half_pos (b - a)
      have e1 := rowTM_all lf k a (a + half (b - a)) (tx, u, sh) (by omega) (by omega) (by omega)
      obtain ⟨⟨D1, s1⟩, hr1⟩ : ∃ r, rowTM lf 0 [] a (a + half (b - a)) (tx, u, sh) = r := ⟨_, rfl⟩
      have e2 := rowTM_all lf k (a + half (b - a)) b s1 (by omega) (by omega) hb
      obtain ⟨⟨D2, s2⟩, hr2⟩ : ∃ r, rowTM lf 0 [] (a + half (b - a)) b s1 = r := ⟨_, rfl⟩
      rw [hr1] at e1
      rw [hr2] at e2
      dsimp only at e1 e2
      rw [rowT_split lf 0 [] a b (tx, u, sh) (by omega) ho hr1 hr2, e1, e2]
      dsimp only
      have hn : ((lf.drop a).take (b - a)).length = b - a := by rw [List.length_take, List.length_drop]; omega
      rw [rowM_big ((lf.drop a).take (b - a)) (by rw [hn]; omega), hn, List.take_take, List.drop_take, List.drop_drop]
      rw [show a + half (b - a) - a = min (half (b - a)) (b - a) by omega, show b - (a + half (b - a)) = b - a - half (b - a) by omega]

end Go.Proofs.YtfhfmdnimebegaaDoor

/-
  The reference's Tree: root, of a tree that has no texts yet.
-/
namespace Go.Proofs.YtfhfmdnimebegaaDoor
open Go.RowKit
set_option linter.unusedVariables false
set_option linter.unusedSimpArgs false

theorem TStays.mono {w w' : World} {B B' tb : Nat} (h : TStays w w' B tb) (hB : B' ≤ B) : TStays w w' B' tb := ⟨h.size, fun j hj hp => h.heap j (by omega) hp, h.blk, h.rest⟩
theorem push_s {w : World} {B : Nat} {ops : Array Oper} {rest : List Oper} {o : Oper} {a : Act} {Q : Exit → Act → World → Prop} (hgd : o.guard = none) (s x : Operand)
    (ho : o.op = .call { callee := .builtin .append, args := #[s, x], argTypes := #[47, 47] })
    (l : List ByteArray) (y : ByteArray) (v : Value) (hs : a.eval s = v) (hown : OwnS w B v l) (hB : B ≤ w.heap.size)
    (c : Nat) (hx : a.eval x = .slice (some ⟨w.heap.size, 0, none⟩) 1 c) (hl : l.length ≤ 1000000000)
    (h : ∀ v' w', OwnS w' B v' (l ++ [y]) → v' ≠ .slice none 0 0 → (w.alloc (.cells #[.string y] 9)).grownBy w' v.ownBlock → wpList Tryd.prog ops Q rest (a.put o.dst v') w') :
    wpList Tryd.prog ops Q (o :: rest) a (w.alloc (.cells #[.string y] 9)) :=
  wpList_plain hgd fun _ hK => push_s_wp s x ho l y v hs hown hB c hx hl (fun v' w' h1 h2 h3 => hK _ _ (h v' w' h1 h2 h3))
/-- What root answers, with the texts and the sides used. -/
def rootT (lf : List Lf) (F : Nat) (sd : List (List Nat)) (S : Nat) : List Nat × List ByteArray × Nat × Bool :=
  if S = 0 then (ofS 4 [enc 0], [strOf (ofIn 4 [enc 0])], 0, false)
  else (topD S (rowTM lf F sd 0 S ([], 0, false)).1, (rowTM lf F sd 0 S ([], 0, false)).2.1 ++ [strOf (ofIn 4 [enc (S : Int), (rowTM lf F sd 0 S ([], 0, false)).1])], (rowTM lf F sd 0 S ([], 0, false)).2.2)
theorem own_strs {w : World} {B : Nat} {v : Value} {l : List ByteArray} (h : OwnS w B v l) (hn : v ≠ .slice none 0 0) : ∃ g cap, v = .slice (some ⟨g, 0, none⟩) l.length cap ∧ Cells w (some ⟨g, 0, none⟩) (strsV l) := by
  obtain ⟨_, ⟨e, _⟩ | ⟨g, cap, cur, rfl, hB, hg, hc, hm, hs, ht⟩⟩ := h
  · exact absurd e hn
  refine ⟨g, cap, rfl, fun k u hk => ⟨_, rfl, (Array.getElem?_eq_some_iff.1 hg).1, ?_⟩⟩
  rw [Addr.add_mid, Nat.zero_add]
  rw [← ht, List.getElem?_take] at hk
  split at hk
  · exact Blk.cell (w := w) (b := g) (t := 9) (cs := cur.toList) hg hk
  · cases hk

set_option maxHeartbeats 4000000 in
set_option maxRecDepth 100000 in
theorem troot_zero (tb : Nat) (q : Option Addr) (n c F : Nat) (sv : Value) (w : World) (hTb : Blk w tb 90 [.slice none 0 0, sv, .int .i64 0, .bool false]) (hGR : ∀ w', TStays w w' w.heap.size tb → GlobR w') :
    Calls Tryd.prog 43 #[.pointer (some ⟨tb, 0, none⟩), .slice q n c, .int .i64 (F : Int), .int .i64 0] w
      fun e w' => e = .returned (.agg (bytesV (ofS 4 [enc 0])).toArray) ∧ TStays w w' w.heap.size tb ∧ TW w' tb w.heap.size [strOf (ofIn 4 [enc 0])] sv 0 false := by
  have hz1 := zero_dig'
  have hz16 : (bytesV z16).toArray.toList.length = 16 := rfl
  have hbt : ∀ y ∈ enc 0, y < 256 := enc_lt 0 (by omega) (by omega)
  have hen : (enc 0).length ≤ 100 := by have := enc_length 0 (by omega) (by omega); omega
  have HI := Lib.hid (fun (V : World) => rint_any 0 (by omega) (by omega) V)
  have hlt := hTb.lt
  have HO := Lib.hid (fun (V : World) (A : Option Addr) (hB' : w.heap.size ≤ V.heap.size) (hs : TStays w V w.heap.size tb) (hT : TW V tb w.heap.size [] sv 0 false) (hr : Cells V A (strsV [strOf (enc 0)])) => (show Calls Tryd.prog 63 #[.pointer (some ⟨tb, 0, none⟩), .int .i64 4, .slice A 1 1] V fun e w' => e = .returned (.agg (bytesV (ofS 4 [enc 0])).toArray) ∧ TStays V w' w.heap.size tb ∧ TW w' tb w.heap.size [strOf (ofIn 4 [enc 0])] sv 0 false from
    by have := tof_any tb w.heap.size hlt [] (by simp) sv 0 false 4 (by omega) [strOf (enc 0)] 1 1 A rfl (by simp) (one_size hen) V hB' hT hr (fun w' h => hGR w' (hs.trans h)); rw [one_sb hbt] at this; exact this))
  have hd : Dgt (ofS 4 [enc 0]) := dig_ofS _ _
  generalize ofS 4 [enc 0] = DD at hd HO ⊢
  have hvD : (bytesV DD).length = 16 := by rw [bytesV_length]; exact hd.1
  clear hGR
  go_enter Tryd.func43, Tryd.ntmps43
  go_upto_region 1 with (fail)
  generalize hw1 : World.alloc _ _ = W0
  have Kr : Blk W0 w.heap.size 29 (bytesV z16) := hw1 ▸ (blk_new w _ _)
  have KB : Below w.heap.size w W0 := hw1 ▸ ((Below.refl _ _).alloc (Nat.le_refl _) _)
  clear hw1
  go_upto_region 4 with (go_at_call 60; refine (HI.out _).mono ?_; rintro e W1 ⟨g, cap, rfl, hOw⟩; have hcv := conv_cells W1 ⟨g, 0, none⟩ cap (enc 0) hbt (hOw.has hbt).cells)
  have hB1 := hOw.below
  have hcl := cells_strs W1 [strOf (enc 0)]
  have XA := (Below.refl W1.heap.size W1).alloc (Nat.le_refl _) (.cells #[.string (strOf (enc 0))] 9)
  have CB := link (link KB hB1) XA
  have Kr2 := (Kr.keep hB1).keep XA
  have hT2 := hTb.keep CB
  change Cells (W1.alloc (.cells #[.string (strOf (enc 0))] 9)) _ _ at hcl
  generalize W1.alloc (.cells #[.string (strOf (enc 0))] 9) = V2 at hcl CB Kr2 hT2 ⊢
  have hs2 := TStays.below (tb := tb) CB (Nat.le_refl _)
  clear hcv hOw KB hB1 XA Kr
  have hTW : TW V2 tb w.heap.size [] sv 0 false := ⟨_, hT2, World.ownsRow_nil _ _ _ _⟩
  go_wp2_with (first
    | (go_at_call 63; refine (HO.out V2 _ CB.size hs2 hTW hcl).mono ?_; rintro e V3 ⟨rfl, hS3, hT3⟩; have Kr3 := hS3.blk _ _ _ (by omega) (by decide) Kr2)
    | (refine store_blk rfl 29 (.tmp 8) (.tmp 27) rfl Kr3 rfl rfl (m := 16) (by kernel_rfl) hvD hz16 (bytesV_cells DD) ?_; intro V4 K4 O4))
  exact bodyPost_ret (v := .agg (bytesV DD).toArray) (K4.result (p := 8) (ty := 29) rfl _ rfl Tryd.underlying29 (by rw [hvD]; kernel_rfl)) rfl ⟨rfl, (hs2.trans hS3).only O4 (Nat.le_refl _) (Nat.le_refl _), hT3.only O4 (by omega) Kr3⟩

end Go.Proofs.YtfhfmdnimebegaaDoor

/-
  The reference's Tree: root of many leaves.
-/
namespace Go.Proofs.YtfhfmdnimebegaaDoor
open Go.RowKit
set_option linter.unusedVariables false
set_option linter.unusedSimpArgs false

theorem OwnS.base {w : World} {B B' : Nat} {v : Value} {l : List ByteArray} (h : OwnS w B v l) (hB : B' ≤ B) : OwnS w B' v l := by
  refine ⟨h.1, ?_⟩
  rcases h.2 with h0 | ⟨g, cap, cur, rfl, h1, h2, h3⟩
  · exact .inl h0
  · exact Or.inr ⟨g, cap, cur, rfl, Nat.le_trans hB h1, h2, h3⟩
theorem OwnS.same {w w' : World} {B : Nat} {v : Value} {l : List ByteArray} (h : OwnS w B v l) (hh : ∀ g, v.ownBlock = some g → w'.heap[g]? = w.heap[g]?) : OwnS w' B v l := by
  refine ⟨h.1, ?_⟩
  rcases h.2 with h0 | ⟨g, cap, cur, rfl, h1, h2, h3⟩
  · exact .inl h0
  · exact Or.inr ⟨g, cap, cur, rfl, h1, (hh g rfl).trans h2, h3⟩

set_option maxHeartbeats 4000000 in
set_option maxRecDepth 100000 in
theorem troot_many (tb : Nat) (lf : List Lf) (F S : Nat) (hS1 : 1 ≤ S) (hS : S ≤ 4096) (sd : List (List Nat)) (hd : Dgts sd) (q : Option Addr) (n c : Nat) (hl : lf.length = n) (hSm : Small lf) (hFn : F + n ≤ 4096) (sa : Option Addr) (k sc : Nat) (hk : sd.length = k) (hkb : k ≤ 1000000) (hks : k ≤ sc)
    (w : World) (hTb : Blk w tb 90 [.slice none 0 0, .slice sa k sc, .int .i64 0, .bool false])
    (hGR : ∀ w', TStays w w' w.heap.size tb → GlobR w') (hL : ∀ w', TStays w w' w.heap.size tb → OwnL w' q lf) (hLB : lf ≠ [] → ∀ b off i, q = some ⟨b, off, i⟩ → b < w.heap.size ∧ b ≠ tb)
    (hSd : sd ≠ [] → ∃ g off, sa = some ⟨g, off, none⟩ ∧ g < w.heap.size ∧ g ≠ tb ∧ w.rangeAt g off (bytesV sd.flatten)) :
    Calls Tryd.prog 43 #[.pointer (some ⟨tb, 0, none⟩), .slice q n c, .int .i64 (F : Int), .int .i64 (S : Int)] w
      fun e w' => ∃ D tx u sh, rowTM lf F sd 0 S ([], 0, false) = (D, tx, u, sh) ∧ e = .returned (.agg (bytesV (topD S D)).toArray) ∧ TStays w w' w.heap.size tb ∧ TW w' tb w.heap.size (tx ++ [strOf (ofIn 4 [enc (S : Int), D])]) (.slice sa k sc) (u : Int) sh := by
  have hz1 := zero_dig'
  have hz16 : (bytesV z16).toArray.toList.length = 16 := rfl
  have hbt : ∀ y ∈ enc (S : Int), y < 256 := enc_lt _ (by omega) (by omega)
  have hen : (enc (S : Int)).length ≤ 100 := by have := enc_length (S : Int) (by omega) (by omega); omega
  have HI := Lib.hid (fun (V : World) => rint_any (S : Int) (by omega) (by omega) V)
  have hlt := hTb.lt
  have HRw := Lib.hid (fun (V : World) (hB : Below w.heap.size w V) (hT : Blk V tb 90 [.slice none 0 0, .slice sa k sc, .int .i64 0, .bool false]) =>
    (show Calls Tryd.prog 62 #[.pointer (some ⟨tb, 0, none⟩), .slice q n c, .int .i64 (F : Int), .int .i64 0, .int .i64 (S : Int)] V fun e w' => ∃ D tx u sh, rowTM lf F sd 0 S ([], 0, false) = (D, tx, u, sh) ∧ e = .returned (.agg (bytesV D).toArray) ∧ TStays V w' V.heap.size tb ∧ TW w' tb V.heap.size tx (.slice sa k sc) (u : Int) sh ∧ tx.length ≤ ([] : List ByteArray).length + 2 * (S - 0) - 1 ∧ Dgt D from
      trow_any V V.heap.size tb hT.lt (Nat.le_refl _) lf F sd hd q n c hl hSm hFn sa k sc hk hkb hks
        (fun w' h => hGR w' ((TStays.below hB (Nat.le_refl _)).trans (h.mono hB.size))) (fun w' h => hL w' ((TStays.below hB (Nat.le_refl _)).trans (h.mono hB.size)))
        (fun hne b off i hq => ⟨Nat.lt_of_lt_of_le (hLB hne b off i hq).1 hB.size, (hLB hne b off i hq).2⟩)
        (fun hne => by obtain ⟨g, off, e, h1, h2, h3⟩ := hSd hne; exact ⟨g, off, e, Nat.lt_of_lt_of_le h1 hB.size, h2, range_keep h3 h1 hB⟩)
        S 0 S rfl (by omega) hS V [] 0 false (by simp; omega) (TStays.refl _ _ _) ⟨_, hT, World.ownsRow_nil _ _ _ _⟩))
  have HTx := Lib.hid (fun (V : World) (D1 : List Nat) (hD1 : Dgt D1) => text_any D1 hD1.1 hD1.2 V)
  have HO := Lib.hid (fun (V : World) (A : Option Addr) (cc : Nat) (D : List Nat) (hD : Dgt D) (tx : List ByteArray) (u : Nat) (sh : Bool) (htl : tx.length ≤ 99000) (B : Nat) (htB : tb < B) (hwB : w.heap.size ≤ B) (hB' : B ≤ V.heap.size) (hs : TStays w V w.heap.size tb) (hT : TW V tb B tx (.slice sa k sc) (u : Int) sh) (hr : Cells V A (strsV [strOf (enc (S : Int)), strOf D])) =>
    (show Calls Tryd.prog 63 #[.pointer (some ⟨tb, 0, none⟩), .int .i64 4, .slice A 2 cc] V fun e w' => e = .returned (.agg (bytesV (topD S D)).toArray) ∧ TStays V w' B tb ∧ TW w' tb B (tx ++ [strOf (ofIn 4 [enc (S : Int), D])]) (.slice sa k sc) (u : Int) sh from
      by have := tof_any tb B htB tx (by omega) (.slice sa k sc) (u : Int) sh 4 (by omega) [strOf (enc (S : Int)), strOf D] 2 cc A rfl (by simp) (two_size hen hD.1) V hB' hT hr (fun w' h => hGR w' (hs.trans (h.mono hwB)))
         rw [two_sbs hbt hD.2] at this
         unfold topD
         rw [if_neg (by omega)]
         exact this))
  have hSp : (0 : Int) < (S : Int) := by omega
  clear hGR hL hLB hSd hd hl hSm hk
  go_enter Tryd.func43, Tryd.ntmps43
  go_upto_region 1 with (fail)
  generalize hw1 : World.alloc _ _ = W0
  have Kr : Blk W0 w.heap.size 29 (bytesV z16) := hw1 ▸ (blk_new w _ _)
  have KB : Below w.heap.size w W0 := hw1 ▸ ((Below.refl _ _).alloc (Nat.le_refl _) _)
  clear hw1
  go_upto_region 2 with (go_at_call 60; refine (HI.out _).mono ?_; rintro e W1 ⟨g, cap, rfl, hOw⟩; have hcv := conv_cells W1 ⟨g, 0, none⟩ cap (enc (S : Int)) hbt (hOw.has hbt).cells)
  have hB1 := hOw.below
  have hOP : OwnS (W1.alloc (.cells #[.string (strOf (enc (S : Int)))] 9)) W1.heap.size (.slice (some ⟨W1.heap.size, 0, none⟩) 1 1) [strOf (enc (S : Int))] := World.ownsRow_lit W1 #[.string (strOf (enc (S : Int)))] 1 (Nat.le_refl _) (by unfold maxLen; omega) rfl
  have XA := (Below.refl W1.heap.size W1).alloc (Nat.le_refl _) (.cells #[.string (strOf (enc (S : Int)))] 9)
  have CB := link (link KB hB1) XA
  have Kr2 := (Kr.keep hB1).keep XA
  have hT2 := hTb.keep CB
  have hw1 := (link KB hB1).size
  have hp2 : W1.heap.size < (W1.alloc (.cells #[.string (strOf (enc (S : Int)))] 9)).heap.size := by simp
  obtain ⟨P, hP⟩ : ∃ P, W1.heap.size = P := ⟨_, rfl⟩
  rw [hP] at hOP hw1 hp2 ⊢
  generalize W1.alloc (.cells #[.string (strOf (enc (S : Int)))] 9) = V2 at hOP CB Kr2 hT2 hp2 ⊢
  have hs2 := TStays.below (tb := tb) CB (Nat.le_refl _)
  have htP : P ≠ tb := by omega
  clear hcv hOw KB hB1 XA Kr hP
  go_upto_region 4 with (first
    | (go_at_call 62; refine (HRw.out V2 CB hT2).mono ?_; rintro e V3 ⟨D, tx, u, sh, hr, rfl, hS3, hT3, htl, hD⟩; have hOP3 := hOP.same (fun g' e => by injection e with e; subst e; exact hS3.heap _ hp2 htP))
    | (go_at_call 61; refine (HTx.out V3 D hD).mono ?_; rintro e V4 ⟨rfl, hB4⟩)
    | (at_builtin; refine push_s (w := V4) (B := P) rfl (.tmp 16) (.tmp 23) rfl [strOf (enc (S : Int))] (strOf D) _ rfl (hOP3.keep hB4) (by have := hS3.size; have := hB4.size; omega) 1 rfl (by simp) ?_; intro v5 V5 hO5 hn5 hg5))
  replace hg5 : (V4.alloc (.cells #[.string (strOf D)] 9)).grownBy V5 (some P) := hg5
  have hx5 : ∃ gt capt, v5 = .slice (some ⟨gt, 0, none⟩) 2 capt ∧ Cells V5 (some ⟨gt, 0, none⟩) (strsV [strOf (enc (S : Int)), strOf D]) := own_strs hO5 hn5
  obtain ⟨gt, capt, rfl, hcl⟩ := hx5
  obtain ⟨tv, hTb3, hTo3⟩ := hT3
  have hz3 := hS3.size
  have hz4 := hB4.size
  have hTb4 := hTb3.keep hB4
  have hTo4 := hTo3.keep hB4
  have htb5 : V5.heap[tb]? = V4.heap[tb]? := (hg5.block tb (by simp; omega) (fun e => htP (by injection e with e; exact e.symm))).trans (Below.heap_alloc V4 _ tb (by omega))
  have hTb5 : Blk V5 tb 90 [tv, .slice sa k sc, .int .i64 (u : Int), .bool sh] := by unfold Blk at hTb4 ⊢; rw [htb5]; exact hTb4
  have hTo5 : OwnS V5 V2.heap.size tv tx := hTo4.same (fun g' e => by
    have hb := World.ownsRow.lt hTo4 g' e
    exact (hg5.block g' (by simp; omega) (fun e' => by injection e' with e'; omega)).trans (Below.heap_alloc V4 _ g' hb.2))
  have hgr : TStays V4 V5 w.heap.size tb := ((TStays.below (B := P) (tb := tb) ((Below.refl V4.heap.size V4).alloc (Nat.le_refl _) _) (by omega)).trans (TStays.grown (by simp; omega) (World.ownsRow.alloc (hOP3.keep hB4) _) hg5)).mono hw1
  have hs5 := ((hs2.trans (hS3.mono CB.size)).trans (TStays.below hB4 (by have := CB.size; omega))).trans hgr
  have Kr5 := hgr.blk _ _ _ (by omega) (by decide) ((hS3.blk _ _ _ (by omega) (by decide) Kr2).keep hB4)
  have hV25 : V2.heap.size ≤ V5.heap.size := Nat.le_trans hz3 (Nat.le_trans hz4 hgr.size)
  have htl2 : tx.length ≤ 99000 := by simp at htl; omega
  have HRr := Lib.hid hr
  have hCBs := CB.size
  have htV2 : tb < V2.heap.size := by omega
  have hTW5 : TW V5 tb V2.heap.size tx (.slice sa k sc) (u : Int) sh := ⟨tv, hTb5, hTo5⟩
  clear hr hg5 hO5 hn5 hTb3 hTo3 hTb4 hTo4 htb5 hTb5 hTo5 hgr htl hOP3 hB4 hS3 hz3 hz4 hOP Kr2 hT2 CB hs2 HRw HTx HI
  go_wp2_with (first
    | (go_at_call 63; refine (HO.out V5 _ capt D hD tx u sh htl2 V2.heap.size htV2 hCBs hV25 hs5 hTW5 hcl).mono ?_; rintro e V6 ⟨rfl, hS6, hT6⟩; have Kr6 := hS6.blk _ _ _ (by omega) (by decide) Kr5; have hvD : (bytesV (topD S D)).length = 16 := by rw [bytesV_length]; exact (topD_dgt S D).1)
    | (refine store_blk rfl 29 (.tmp 8) (.tmp 27) rfl Kr6 rfl rfl (m := 16) (by kernel_rfl) hvD hz16 (bytesV_cells _) ?_; intro V7 K7 O7))
  have hT7 := hT6.only O7 (by omega) Kr6
  obtain ⟨tv7, k7, o7⟩ := hT7
  exact bodyPost_ret (v := .agg (bytesV (topD S D)).toArray) (K7.result (p := 8) (ty := 29) rfl _ rfl Tryd.underlying29 (by rw [hvD]; kernel_rfl)) rfl ⟨D, tx, u, sh, HRr.out, rfl, (hs5.trans (hS6.mono hCBs)).only O7 (Nat.le_refl _) (Nat.le_refl _), tv7, k7, o7.base hCBs⟩

end Go.Proofs.YtfhfmdnimebegaaDoor

/-
  The reference's Valid.
-/
namespace Go.Proofs.YtfhfmdnimebegaaDoor
open Go.RowKit
set_option linter.unusedVariables false
set_option linter.unusedSimpArgs false

theorem leq_form (x y : List UInt8) : (Op.bytesLess y x || y == x) = !Op.bytesLess x y := by
  rw [bytesLess_eq, bytesLess_eq]
  by_cases h : x < y
  · have h1 : ¬ y < x := fun h' => List.lt_irrefl _ (List.lt_trans h h')
    have h2 : (y == x) = false := by
      rcases e : (y == x) with _ | _
      · rfl
      · have e2 : y = x := by simpa using e
        rw [e2] at h
        exact absurd h (List.lt_irrefl _)
    simp [h, h1, h2]
  · rcases List.le_iff_lt_or_eq.1 (List.not_lt.1 h) with h1 | h1
    · simp [h, h1]
    · subst h1
      simp [List.lt_irrefl]

set_option maxHeartbeats 2000000 in
set_option maxRecDepth 100000 in
theorem rvalid_any (ls : List Lf) (p : Option Addr) (n c : Nat) (hl : ls.length = n) (w : World) (hL : OwnL w p ls) :
    Calls Tryd.prog 15 #[.slice p n c] w fun e w' => e = .returned (.int .i64 (validM ls)) ∧ Below w.heap.size w w' := by
  have HN := Lib.hid hl
  clear hl
  by_cases h : 4096 < n
  · rw [valid_long (by rw [HN.out]; exact h)]
    go_enter Tryd.func15, Tryd.ntmps15
    go_wp2
    go_ret
    exact ⟨rfl, Below.refl _ _⟩
  · go_enter Tryd.func15, Tryd.ntmps15
    go_wp2
    go_loopw [3] (fun v wr => ∃ k : Nat, k ≤ n ∧ v = .int .i64 k ∧ FitTo ls k ∧ Below w.heap.size w wr) (fun v _ => n - (intOf v).toNat)
    case atStart => exact ⟨0, by omega, rfl, fit_zero _, Below.refl _ _⟩
    case round =>
      obtain ⟨k, hk, rfl, hF, hB⟩ := hrel
      by_cases hlt : k < n
      · obtain ⟨x, hx⟩ : ∃ x, ls[k]? = some x := ⟨_, List.getElem?_eq_getElem (by rw [HN.out]; exact hlt)⟩
        obtain ⟨b, off, rfl, hL2⟩ := hL (by intro h0; rw [h0] at hx; simp at hx)
        have hb := hL2.1
        have h1 := (hB.cell hb).trans (hL2.at hx).1
        have h2 := (hB.cell hb).trans (hL2.at hx).2
        have hF1 := Lib.hid (fun hf => hF.step hx hf)
        have hV := Lib.hid (fun hf => valid_fat (by rw [HN.out]; omega) hx hf)
        clear hx hL hL2 hF
        by_cases s1 : x.1.size ≤ 65536
        · by_cases s2 : x.2.size ≤ 65536
          · have hf : fits x = true := by simp [fits, s1, s2]
            have hF2 := Lib.hid (hF1.out hf)
            clear hf hF1 hV
            go_wp2
            go_roundw
            case rel => exact ⟨k + 1, by omega, by go_num, hF2.out, hB⟩
            case measure => simp [intOf]; omega
          · have hf : fits x = false := by simp [fits, s2]
            have hV2 := Lib.hid (hV.out hf)
            clear hf hF1 hV
            go_wp2
            go_ret
            exact ⟨by rw [hV2.out]; rfl, hB⟩
        · have hf : fits x = false := by simp [fits, s1]
          have hV2 := Lib.hid (hV.out hf)
          clear hf hF1 hV
          go_wp2
          go_ret
          exact ⟨by rw [hV2.out]; rfl, hB⟩
      · obtain rfl : n = k := by omega
        have hF0 : FitTo ls ls.length := by rw [HN.out]; exact hF
        have HF := Lib.hid hF0
        clear hF hF0
        go_upto_region 8 with (fail)
        obtain ⟨wo, rfl⟩ : ∃ wo : World, wo = wr := ⟨_, rfl⟩
        go_wp2
        go_loopw [4] (fun v wr => ∃ k t : Nat, k + 1 = t ∧ (t ≤ n ∨ k = 0) ∧ v = .int .i64 (t : Int) ∧ OrdTo ls t ∧ Below w.heap.size w wr) (fun v _ => n - (intOf v).toNat)
        case atStart => exact ⟨0, 1, rfl, Or.inr rfl, rfl, ord_one _, hB⟩
        case round =>
          clear hB
          obtain ⟨k, t, hkt, hk, rfl, hO, hB⟩ := hrel
          by_cases hlt : t < n
          · obtain ⟨x, hx⟩ : ∃ x, ls[k]? = some x := ⟨_, List.getElem?_eq_getElem (by rw [HN.out]; omega)⟩
            obtain ⟨y, hy⟩ : ∃ y, ls[t]? = some y := ⟨_, List.getElem?_eq_getElem (by rw [HN.out]; omega)⟩
            obtain ⟨b, off, rfl, hL2⟩ := hL (by intro h0; rw [h0] at hx; simp at hx)
            have hb := hL2.1
            have h1 := (hL2.at hx).1
            have h2 := (hL2.at hy).1
            have hO1 := Lib.hid (fun hs => (show OrdTo ls (t + 1) from by subst hkt; exact hO.step hx hy hs))
            have hV := Lib.hid (fun hs => valid_bad (k := k) (by rw [HN.out]; omega) HF.out hx (by rw [hkt]; exact hy) hs)
            have hwt : IntKind.i64.wrap ((t : Int) - 1) = (k : Int) := by
              rw [show ((t : Int) - 1) = (k : Int) by omega]
              simp [IntKind.wrap, IntKind.signed, IntKind.bits]
              omega
            have hk4 : k < n := by omega
            have hle := leq_form x.1.toList y.1.toList
            clear hx hy hL hL2 hO HF
            go_upto_region 11 with (fail)
            have hHeld : True := trivial
            refine wp_region_held_drew (S := fun w' => Below w.heap.size w w') (by kernel_rfl) (below_drew hB) (fun _ => ?_)
            have hHeld : Below w.heap.size w wr.drew := below_drew hB
            have CB : Below w.heap.size w wr.drew := below_drew hB
            have C0 : ∀ w', Below w.heap.size w w' → w'.cell? ⟨b, off + k * 2, none⟩ = some (.string x.1) := fun w' h => (h.cell hb).trans h1
            have C1 : ∀ w', Below w.heap.size w w' → w'.cell? ⟨b, off + t * 2, none⟩ = some (.string y.1) := fun w' h => (h.cell hb).trans h2
            clear h1 h2 hB
            generalize wr.drew = V0 at CB hHeld ⊢
            refine wt (i := 0) (oi := ⟨some 36, .move (.tmp 0), 24, "ref.go:35", #[], none⟩) (v := .slice (some ⟨b, off, none⟩) n c) (Or.inl ⟨by rfl, fun w' hSw => by go_simp⟩) hHeld ?_
            try simp only [zP, zQ, zS, zZ, zC]
            refine wt (i := 1) (oi := ⟨some 37, .move (.tmp 4), 3, "ref.go:35", #[], none⟩) (v := .int .i64 (t : Int)) (Or.inl ⟨by rfl, fun w' hSw => by go_simp⟩) hHeld ?_
            try simp only [zP, zQ, zS, zZ, zC]
            refine wt (i := 2) (oi := ⟨some 38, .indexAddr 24 (.tmp 36) (.tmp 37), 0, "ref.go:35", #[⟨0, .data⟩, ⟨1, .data⟩], none⟩) (v := .pointer (some ⟨b, off + t * 2, none⟩)) (Or.inl ⟨by rfl, fun w' hSw => by go_simp; try (intro hcm; exact absurd hcm (by omega))⟩) hHeld ?_
            try simp only [zP, zQ, zS, zZ, zC]
            refine wt (i := 3) (oi := ⟨some 39, .fieldAddr 75 (.tmp 38) 0, 0, "ref.go:35", #[⟨2, .data⟩], none⟩) (v := .pointer (some ⟨b, off + t * 2, none⟩)) (Or.inl ⟨by rfl, fun w' hSw => by go_simp⟩) hHeld ?_
            try simp only [zP, zQ, zS, zZ, zC]
            refine wt (i := 4) (oi := ⟨some 40, .load 9 (.tmp 39), 9, "ref.go:35", #[⟨3, .data⟩], none⟩) (v := .string y.1) (Or.inl ⟨by rfl, fun w' hSw => by have hc := C1 w' hSw; go_simp⟩) hHeld ?_
            try simp only [zP, zQ, zS, zZ, zC]
            refine wt (i := 5) (oi := ⟨some 41, .move (.tmp 0), 24, "ref.go:35", #[], none⟩) (v := .slice (some ⟨b, off, none⟩) n c) (Or.inl ⟨by rfl, fun w' hSw => by go_simp⟩) hHeld ?_
            try simp only [zP, zQ, zS, zZ, zC]
            refine wt (i := 6) (oi := ⟨some 42, .move (.tmp 4), 3, "ref.go:35", #[], none⟩) (v := .int .i64 (t : Int)) (Or.inl ⟨by rfl, fun w' hSw => by go_simp⟩) hHeld ?_
            try simp only [zP, zQ, zS, zZ, zC]
            refine wt (i := 7) (oi := ⟨some 43, .binOp .sub 3 (.tmp 42) (.const (Value.int IntKind.i64 1)) 3, 3, "ref.go:35", #[⟨6, .data⟩], none⟩) (v := .int .i64 (k : Int)) (Or.inl ⟨by rfl, fun w' hSw => by go_simp⟩) hHeld ?_
            try simp only [zP, zQ, zS, zZ, zC]
            refine wt (i := 8) (oi := ⟨some 44, .indexAddr 24 (.tmp 41) (.tmp 43), 0, "ref.go:35", #[⟨5, .data⟩, ⟨7, .data⟩], none⟩) (v := .pointer (some ⟨b, off + k * 2, none⟩)) (Or.inl ⟨by rfl, fun w' hSw => by go_simp; try (intro hcm; exact absurd hcm (by omega))⟩) hHeld ?_
            try simp only [zP, zQ, zS, zZ, zC]
            refine wt (i := 9) (oi := ⟨some 45, .fieldAddr 75 (.tmp 44) 0, 0, "ref.go:35", #[⟨8, .data⟩], none⟩) (v := .pointer (some ⟨b, off + k * 2, none⟩)) (Or.inl ⟨by rfl, fun w' hSw => by go_simp⟩) hHeld ?_
            try simp only [zP, zQ, zS, zZ, zC]
            refine wt (i := 10) (oi := ⟨some 46, .load 9 (.tmp 45), 9, "ref.go:35", #[⟨9, .data⟩], none⟩) (v := .string x.1) (Or.inl ⟨by rfl, fun w' hSw => by have hc := C0 w' hSw; go_simp⟩) hHeld ?_
            try simp only [zP, zQ, zS, zZ, zC]
            refine wt (i := 11) (oi := ⟨some 47, .binOp .leq 9 (.tmp 40) (.tmp 46) 9, 4, "ref.go:35", #[⟨4, .data⟩, ⟨10, .data⟩], none⟩) (v := .bool (!Op.bytesLess x.1.toList y.1.toList)) (Or.inl ⟨by rfl, fun w' hSw => by go_simp⟩) hHeld ?_
            try simp only [zP, zQ, zS, zZ, zC]
            refine wpAnyH_done (by kernel_rfl) ?_ _
            by_cases hs : Op.bytesLess x.1.toList y.1.toList
            · have hO2 := hO1.out hs
              rw [hs]
              go_wp2
              go_roundw
              case rel => exact ⟨t, t + 1, rfl, Or.inl (by omega), by go_num, hO2, CB⟩
              case measure => simp [intOf]; omega
            · have hs' : Op.bytesLess x.1.toList y.1.toList = false := by simpa using hs
              rw [hs']
              go_wp2
              go_ret
              exact ⟨by rw [hV.out hs']; rfl, CB⟩
          · have hV := valid_ok (k := t) (by rw [HN.out]; omega) HF.out hO (by rw [HN.out]; omega)
            go_wp2
            go_ret
            exact ⟨by rw [hV]; rfl, hB⟩

end Go.Proofs.YtfhfmdnimebegaaDoor

/-
  The reference's Root.
-/
namespace Go.Proofs.YtfhfmdnimebegaaDoor
open Go.RowKit
set_option linter.unusedVariables false
set_option linter.unusedSimpArgs false

abbrev zeroTree : List Value := [.slice none 0 0, .slice none 0 0, .int .i64 0, .bool false]
theorem build_tree (w : World) : (Instr.build 90 #[]).run Tryd.prog w = .ok (.agg zeroTree.toArray) w := by kernel_rfl
/-- root of a fresh tree, at all leaves. -/
theorem troot_at (ls : List Lf) (q : Option Addr) (n c : Nat) (hl : ls.length = n) (hn : n ≤ 4096) (hS : Small ls) (w : World) (hR : GlobR w) (hL : OwnL w q ls) (V : World) (hB : Below w.heap.size w V) (tb : Nat) (htw : w.heap.size ≤ tb) (hTb : Blk V tb 90 zeroTree) :
    Calls Tryd.prog 43 #[.pointer (some ⟨tb, 0, none⟩), .slice q n c, .int .i64 0, .int .i64 (n : Int)] V fun e w' => e = .returned (.agg (bytesV (rootL ls)).toArray) ∧ TStays V w' V.heap.size tb := by
  have hGR : ∀ w', TStays V w' V.heap.size tb → GlobR w' := fun w' h => hR.keep (h.lower hB htw hB.size)
  rcases Nat.eq_zero_or_pos n with h0 | h0
  · subst h0
    obtain rfl := List.eq_nil_of_length_eq_zero hl
    refine (troot_zero tb q 0 c 0 (.slice none 0 0) V hTb hGR).mono ?_
    rintro e w' ⟨rfl, h1, _⟩
    exact ⟨rfl, h1⟩
  · obtain ⟨b, off, rfl, hL2⟩ := hL (by intro h; rw [h] at hl; simp at hl; omega)
    refine (troot_many tb ls 0 n h0 hn [] (fun d hd => by cases hd) (some ⟨b, off, none⟩) n c hl hS (by omega) none 0 0 rfl (by omega) (by omega) V hTb hGR (fun w' h _ => ⟨b, off, rfl, hL2.keep (h.lower hB htw hB.size)⟩) (fun _ b' off' i' e => by injection e with e; injection e with e1 e2 e3; have := hL2.1; have := hB.size; omega) (fun h => absurd rfl h)).mono ?_
    rintro e w' ⟨D, tx, u, sh, hr, rfl, h1, _⟩
    have hD : D = rowM ls := by
      have := rowTM_all ls n 0 n ([], 0, false) (by omega) h0 (by omega)
      rw [hr] at this
      simpa [hl, List.take_of_length_le] using this
    refine ⟨?_, h1⟩
    rw [hD]
    unfold rootL
    rw [hl]

set_option maxHeartbeats 2000000 in
set_option maxRecDepth 100000 in
theorem rroot_no (ls : List Lf) (p : Option Addr) (n c : Nat) (hl : ls.length = n) (hv : validM ls ≠ 0) (w : World) (hL : OwnL w p ls) :
    Calls Tryd.prog 13 #[.slice p n c] w fun e w' => e = .returned (.tuple #[.agg (bytesV z16).toArray, .int .i64 (validM ls)]) ∧ Below w.heap.size w w' := by
  have hz1 := zero_dig'
  have hz2 := build_zero
  have hvz : (bytesV z16).length = 16 := rfl
  have hz16 : (bytesV z16).toArray.toList.length = 16 := rfl
  have HV := Lib.hid (fun w0 (hB : Below w.heap.size w w0) => rvalid_any ls p n c hl w0 (hL.keep hB))
  clear hl hL
  generalize validM ls = v at hv HV ⊢
  go_enter Tryd.func13, Tryd.ntmps13
  go_upto_region 1 with (fail)
  generalize hw1 : World.alloc _ _ = W0
  have K2 : Blk W0 w.heap.size 29 (bytesV z16) := hw1 ▸ (blk_new w _ _)
  have KB : Below w.heap.size w W0 := hw1 ▸ ((Below.refl _ _).alloc (Nat.le_refl _) _)
  clear hw1 hz1
  go_wp2_with (first
    | (go_at_call 15; refine (HV.out _ KB).mono ?_; rintro e W1 ⟨rfl, hB1⟩)
    | (refine store_blk rfl 29 (.tmp 2) (.tmp 10) rfl (K2.keep hB1) rfl rfl (m := 16) (by kernel_rfl) hvz hz16 (bytesV_cells z16) ?_; intro W2 K3 O3))
  exact bodyPost_ret (v := .tuple #[.agg (bytesV z16).toArray, .int .i64 v]) (results_and (p := 2) (q := 3) (ty := 29) rfl _ _ rfl rfl (K3.loadVar Tryd.underlying29 (by kernel_rfl))) rfl ⟨rfl, O3.2.2 _ _ (Nat.le_refl _) (link KB hB1)⟩

set_option maxHeartbeats 2000000 in
set_option maxRecDepth 100000 in
theorem rroot_yes (ls : List Lf) (p : Option Addr) (n c : Nat) (hl : ls.length = n) (hv : validM ls = 0) (w : World) (hR : GlobR w) (hL : OwnL w p ls) :
    Calls Tryd.prog 13 #[.slice p n c] w fun e w' => e = .returned (.tuple #[.agg (bytesV (rootL ls)).toArray, .int .i64 0]) ∧ Below w.heap.size w w' := by
  have hz1 := zero_dig'
  have hz2 := build_tree
  have hz16 : (bytesV z16).toArray.toList.length = 16 := rfl
  obtain ⟨hn4, hfit, _⟩ := valid_zero hv
  have HV := Lib.hid (fun w0 (hB : Below w.heap.size w w0) => (hv ▸ rvalid_any ls p n c hl w0 (hL.keep hB) : Calls Tryd.prog 15 #[.slice p n c] w0 fun e w' => e = .returned (.int .i64 0) ∧ Below w0.heap.size w0 w'))
  have HT := Lib.hid (fun (V : World) (tb : Nat) (hB : Below w.heap.size w V) (htw : w.heap.size ≤ tb) (hTb : Blk V tb 90 zeroTree) => troot_at ls p n c hl (by omega) (small_of hfit) w hR hL V hB tb htw hTb)
  have hMd := rootL_dgt ls
  generalize rootL ls = DD at HT hMd ⊢
  have hvD : (bytesV DD).length = 16 := by rw [bytesV_length]; exact hMd.1
  clear hl hL hR hv hfit hn4
  go_enter Tryd.func13, Tryd.ntmps13
  go_upto_region 1 with (fail)
  generalize hw1 : World.alloc _ _ = W0
  have K2 : Blk W0 w.heap.size 29 (bytesV z16) := hw1 ▸ (blk_new w _ _)
  have KB : Below w.heap.size w W0 := hw1 ▸ ((Below.refl _ _).alloc (Nat.le_refl _) _)
  clear hw1
  go_upto_region 5 with (go_at_call 15; refine (HV.out _ KB).mono ?_; rintro e W1 ⟨rfl, hB1⟩)
  generalize hw2 : World.alloc _ _ = V2
  have hTb : Blk V2 W1.heap.size 90 zeroTree := hw2 ▸ blk_new W1 _ _
  have XA : Below W1.heap.size W1 V2 := hw2 ▸ (Below.refl _ _).alloc (Nat.le_refl _) _
  have CB := link (link KB hB1) XA
  have Kr2 := (K2.keep hB1).keep XA
  have hwt : w.heap.size < W1.heap.size := (K2.keep hB1).lt
  clear hw2 KB hB1 XA K2
  generalize W1.heap.size = tb at hTb hwt ⊢
  go_wp2_with (first
    | (go_at_call 43; refine (HT.out V2 tb CB (Nat.le_of_lt hwt) hTb).mono ?_; rintro e V3 ⟨rfl, hS3⟩; have Kr3 := hS3.blk _ _ _ (by omega) (by decide) Kr2)
    | (refine store_blk rfl 29 (.tmp 2) (.tmp 18) rfl Kr3 rfl rfl (m := 16) (by kernel_rfl) hvD hz16 (bytesV_cells DD) ?_; intro V4 K4 O4))
  exact bodyPost_ret (v := .tuple #[.agg (bytesV DD).toArray, .int .i64 0]) (results_and (p := 2) (q := 3) (ty := 29) rfl _ _ rfl rfl (K4.loadVar Tryd.underlying29 (by rw [hvD]; kernel_rfl))) rfl ⟨rfl, O4.2.2 _ _ (Nat.le_refl _) (hS3.lower CB (Nat.le_of_lt hwt) CB.size)⟩

end Go.Proofs.YtfhfmdnimebegaaDoor
