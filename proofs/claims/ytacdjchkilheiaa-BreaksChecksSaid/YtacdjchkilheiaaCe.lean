/-
  Fill of the program.
-/
import Derived.Test.YtacdjchkilheiaaCd
namespace Go.Proofs.Ytacdjchkilheiaa
open Go.RowKit
set_option linter.unusedVariables false
set_option linter.unusedSimpArgs false

/-- The call answers a division with its proof, and an error. -/
def CertR (T : TypeId) (E L C : List Int) (k : Int) (w : World) (e : Ending) (w' : World) : Prop := ∃ (qe ql qc : Option Addr) (ce cl cc : Nat), e = .returned (.tuple #[.agg #[.slice qe E.length ce, .slice ql L.length cl, .slice qc C.length cc], .int .i64 k]) ∧ At intE w' qe E ∧ At intE w' ql L ∧ At intE w' qc C ∧ Below w.heap.size w w'
def fillA (l : List Int) (bl wd : Int) : List Int × List Int × List Int × Int :=
  if errT l bl wd = 0 then (if wideT l wd = true then ([], [], [], 21) else (endsT (fillT l bl wd).2.2 l.length l.length 0, (fillT l bl wd).1, (fillT l bl wd).2.1, 0)) else ([], [], [], errT l bl wd)
def zeroCt : List Value := [.slice none 0 0, .slice none 0 0, .slice none 0 0]
/-- The certificate and its two lists, just made. -/
def LaidC (W : World) (m : Nat) (s11 : Value) (wx : World) : Prop := ∃ lb kb cb : Nat, s11 = .pointer (some ⟨cb, 0, none⟩) ∧ Blk wx lb 3 (zeros m).toList ∧ Blk wx kb 3 (zeros m).toList ∧ Blk wx cb 28 [.slice none 0 0, .slice (some ⟨lb, 0, none⟩) m m, .slice (some ⟨kb, 0, none⟩) m m] ∧ lb ≠ kb ∧ lb ≠ cb ∧ kb ≠ cb ∧ W.heap.size ≤ lb ∧ W.heap.size ≤ kb ∧ W.heap.size ≤ cb ∧ Below W.heap.size W wx

def iv (l : List Int) : List Value := l.map (Value.int .i64)
def nv (N : List Nat) : List Value := N.map fun (x : Nat) => .int .i64 (x : Int)
theorem iv_set (l : List Int) (k : Nat) (x : Int) : (iv l).set k (.int .i64 x) = iv (l.set k x) := by unfold iv; rw [List.map_set]
theorem nv_set (l : List Nat) (k x : Nat) : (nv l).set k (.int .i64 (x : Int)) = nv (l.set k x) := by unfold nv; rw [List.map_set]
theorem iv_get {l : List Int} {j : Nat} {x : Int} (h : l[j]? = some x) : (iv l)[j]? = some (.int .i64 x) := by unfold iv; rw [List.getElem?_map, h]; rfl
theorem nv_get {l : List Nat} {j x : Nat} (h : l[j]? = some x) : (nv l)[j]? = some (.int .i64 (x : Int)) := by unfold nv; rw [List.getElem?_map, h]; rfl
theorem set_id {α : Type} {l : List α} {k : Nat} {x : α} (h : l[k]? = some x) : l.set k x = l := by
  apply List.ext_getElem?
  intro j
  by_cases e : k = j
  · subst e; rw [List.getElem?_set_self (List.getElem?_eq_some_iff.1 h).1, h]
  · rw [List.getElem?_set_ne e]
def FiRel (l : List Int) (bl wd : Int) (n m lb kb nb cb : Nat) (W : World) (v : Value) (wr : World) : Prop := ∃ (t : Nat) (L C : List Int) (N : List Nat), v = .int .i64 (t : Int) ∧ t ≤ n ∧ Good n (n - t) (L, C, N) ∧ (∀ j, j < n - t → L[j]? = some 0 ∧ C[j]? = some 0 ∧ N[j]? = some 0) ∧ outT l bl wd n (n - t) (L, C, N) = fillT l bl wd ∧ Blk wr lb 3 (iv L) ∧ Blk wr kb 3 (iv C) ∧ Blk wr nb 3 (nv N) ∧ Blk wr cb 28 [.slice none 0 0, .slice (some ⟨lb, 0, none⟩) m m, .slice (some ⟨kb, 0, none⟩) m m] ∧ Below W.heap.size W wr
theorem row_iv (l : List Int) : intE.row l = iv l := by
  unfold Elt.row iv
  induction l with
  | nil => rfl
  | cons x r ih => rw [List.flatMap_cons, ih]; rfl
def EnRel (E L C : List Int) (N : List Nat) (n m lb kb nb cb : Nat) (W : World) (v : Value) (wr : World) : Prop := ∃ (k : Nat) (acc : List Int) (q : Option Addr) (ce : Nat), v = .int .i64 (k : Int) ∧ k ≤ n ∧ acc ++ endsT N n n k = E ∧ acc.length ≤ k ∧ OwnR intE wr W.heap.size (.slice q acc.length ce) acc ∧ Value.ownBlock (.slice q acc.length ce) ≠ some lb ∧ Value.ownBlock (.slice q acc.length ce) ≠ some kb ∧ Value.ownBlock (.slice q acc.length ce) ≠ some nb ∧ Value.ownBlock (.slice q acc.length ce) ≠ some cb ∧ Blk wr lb 3 (iv L) ∧ Blk wr kb 3 (iv C) ∧ Blk wr nb 3 (nv N) ∧ Blk wr cb 28 [.slice q acc.length ce, .slice (some ⟨lb, 0, none⟩) m m, .slice (some ⟨kb, 0, none⟩) m m] ∧ Below W.heap.size W wr
def InRel (l : List Int) (bl wd : Int) (n m k lb kb nb cb : Nat) (L C : List Int) (N : List Nat) (R : St) (W : World) (v : Value) (wr : World) : Prop := ∃ (j : Nat) (s1 s2 : Int) (sx : Nat), v = .int .i64 (j : Int) ∧ k < j ∧ j ≤ n + 1 ∧ dpIn (frT l bl wd k) (prT l bl wd k) (fun j => L.getD j 0) (fun j => C.getD j 0) n (n + 1 - j) j (s1, s2, sx) = R ∧ Small n k s1 s2 ∧ (sx = 0 ∨ (k < sx ∧ sx ≤ n)) ∧ Blk wr lb 3 (iv (L.set k s1)) ∧ Blk wr kb 3 (iv (C.set k s2)) ∧ Blk wr nb 3 (nv (N.set k sx)) ∧ Blk wr cb 28 [.slice none 0 0, .slice (some ⟨lb, 0, none⟩) m m, .slice (some ⟨kb, 0, none⟩) m m] ∧ Below W.heap.size W wr

set_option maxHeartbeats 8000000 in
set_option maxRecDepth 100000 in
theorem fill_good (A : Option Addr) (l : List Int) (n c : Nat) (hl : l.length = n) (bl wd : Int) (he : errT l bl wd = 0) (hz : wideT l wd = false) (w : World) (hA : IntsAt w A l) :
    Calls Try.prog 10 #[.slice A n c, .int .i64 bl, .int .i64 wd] w (CertR 28 (endsT (fillT l bl wd).2.2 n n 0) (fillT l bl wd).1 (fillT l bl wd).2.1 0 w) := by
  have HPa := Lib.hid (fun (V : World) (h : Below w.heap.size w V) => paragraphOf_any A l n c hl bl wd V (hA.keep h))
  have hF := fine_of he
  have HPa3 := Lib.hid (fun (V : World) (h0 : Below w.heap.size w V) => (show Calls Try.prog 30 #[.slice A n c, .int .i64 bl, .int .i64 wd] V (fun e w' => ∃ b : Nat, e = .returned (.tuple #[.agg #[.slice (some ⟨b, 0, none⟩) (n + 1) (n + 1), .int .i64 bl, .int .i64 wd, .bool false], .int .i64 0]) ∧ SumsAt w' b l bl ∧ V.heap.size ≤ b ∧ Below V.heap.size V w') from (HPa.out V h0).mono fun e w' h => by
    rcases h with ⟨_, h⟩ | ⟨h, _⟩
    · unfold ParOk pgV at h; rw [hz] at h; exact h
    · exact absurd he h))
  have hn9 : n ≤ 256 := by have := hF.len; omega
  have HWd := Lib.hid (fun (b : Nat) (V : World) => (show Calls Try.prog 31 #[.agg #[.slice (some ⟨b, 0, none⟩) (n + 1) (n + 1), .int .i64 bl, .int .i64 wd, .bool false]] V (IntR (n : Int) V) from pwords_any b n bl wd false (by omega) V))
  have HFr := Lib.hid (fun (b : Nat) (i j : Nat) (hi : i ≤ n) (hj : j ≤ n) (V : World) (hS : SumsAt V b l bl) => (show Calls Try.prog 32 #[.agg #[.slice (some ⟨b, 0, none⟩) (n + 1) (n + 1), .int .i64 bl, .int .i64 wd, .bool false], .int .i64 (i : Int), .int .i64 (j : Int)] V (IntR (frT l bl wd i j) V) from pfree_any b l n hl bl wd false hF i j hi hj V hS))
  have HCo := Lib.hid (fun (b : Nat) (i j : Nat) (hi : i ≤ j) (hj : j ≤ n) (hf : 0 ≤ frT l bl wd i j) (V : World) (hS : SumsAt V b l bl) => (show Calls Try.prog 33 #[.agg #[.slice (some ⟨b, 0, none⟩) (n + 1) (n + 1), .int .i64 bl, .int .i64 wd, .bool false], .int .i64 (i : Int), .int .i64 (j : Int)] V (IntR (prT l bl wd i j) V) from pcost_any b l n hl bl wd false hF i j hi hj hf V hS))
  have HPb := Lib.hid (fun (i j : Nat) (hi : i ≤ j) (hf : 0 ≤ frT l bl wd i j) => prT_bound hF.b0 hF.b1 hF.w1 hF.all hi hf)
  have HFi := Lib.hid hF
  have HZ := Lib.hid hz
  have HL := Lib.hid hl
  obtain ⟨m, hm⟩ : ∃ m, n + 1 = m := ⟨_, rfl⟩
  have HNM := Lib.hid (show (n : Int) + 1 = (m : Int) from by omega)
  have HWM := Lib.hid (wrap_in (x := (m : Int)) (by omega) (by omega))
  have HM := Lib.hid hm
  have hm9 : m ≤ 257 := by omega
  clear hl hF he hz hA HPa hm
  go_enter Try.func10, Try.ntmps10
  go_upto_region 1 with (fail)
  have Kr := blk_new w 28 zeroCt.toArray
  have Xr : Below w.heap.size w (w.alloc (.cells zeroCt.toArray 28)) := (Below.refl _ _).alloc (Nat.le_refl _) _
  obtain ⟨W0, hW0⟩ : ∃ W, w.alloc (.cells zeroCt.toArray 28) = W := ⟨_, rfl⟩
  change Code.wp _ _ _ _ (w.alloc (.cells zeroCt.toArray 28))
  rw [hW0] at Kr Xr ⊢
  obtain ⟨rp, hrp⟩ : ∃ rp, w.heap.size = rp := ⟨_, rfl⟩
  rw [hrp] at Kr ⊢
  have hwrp : w.heap.size ≤ rp := by omega
  clear hW0 hrp
  go_upto_region 2 with (first
    | (go_at_call 30; refine (HPa3.out W0 Xr).mono ?_; rintro en W1 ⟨b, rfl, hS, hwb, hB1⟩)
    | (refine store_blk rfl 58 (.tmp 8) (.tmp 24) rfl (blk_new W1 58 zeroPg.toArray) rfl rfl (vs := [.slice (some ⟨b, 0, none⟩) (n + 1) (n + 1), .int .i64 bl, .int .i64 wd, .bool false]) (m := 4) (by kernel_rfl) rfl rfl (by intro v hv; simp at hv; rcases hv with rfl | rfl | rfl | rfl <;> rfl) ?_; intro W2 K2 O2))
  try simp only [zP, zQ, zS, zZ, zC]
  have X2 : Below W1.heap.size W1 W2 := O2.2.2 _ _ (Nat.le_refl _) ((Below.refl _ _).alloc (Nat.le_refl _) _)
  have Kr2 : Blk W2 rp 28 zeroCt := (Kr.keep hB1).keep X2
  have hS2 := hS.keep X2
  have B2 := link (link Xr hB1) X2
  obtain ⟨pb, hpb⟩ : ∃ pb, W1.heap.size = pb := ⟨_, rfl⟩
  rw [hpb] at K2
  rw [hpb]
  have c3 := K2.cell (j := 3) rfl
  have CW : W2.rangeAt pb 0 [.slice (some ⟨b, 0, none⟩) (n + 1) (n + 1), .int .i64 bl, .int .i64 wd, .bool false] := by have := K2.range 0 4; exact this
  clear O2 hS X2 hB1 hpb Kr hwb Xr HPa3
  go_upto_region 7 with (first
    | (refine wpList_load_mid rfl 58 (.tmp 8) rfl pb 0 rfl [.slice (some ⟨b, 0, none⟩) (n + 1) (n + 1), .int .i64 bl, .int .i64 wd, .bool false] _ CW Try.underlying58 rfl (by kernel_rfl) ?_)
    | (go_at_call 31; refine (HWd.out b W2).mono ?_; rintro en W3 ⟨rfl, hB3⟩))
  have K3 := K2.keep hB3
  have Kr3 := Kr2.keep hB3
  have hS3 := hS2.keep hB3
  have B3 := link B2 hB3
  clear K2 Kr2 hS2 hB3 CW c3 B2
  have hmk := fun V : World => mk_int m (by omega) V
  have hrp0' := Kr3.lt
  generalize W3 = W0 at *
  have hrp0 : rp < W0.heap.size := hrp0'
  clear hrp0'
  go_cut [11] from 35 (fun s11 wx => LaidC W0 m s11 wx)
  case first =>
    refine wp_region_held_drew (S := fun w' => Below W0.heap.size W0 w') (by kernel_rfl) (below_drew (Below.refl _ _)) (fun _ => ?_)
    have hHeld : Below W0.heap.size W0 W0.drew := below_drew (Below.refl _ _)
    generalize W0.drew = V0 at hHeld ⊢
    refine wt (i := 0) (oi := ⟨some 35, .move (.tmp 10), 3, "breaks.go:79", #[], none⟩) (v := .int .i64 (n : Int)) (Or.inl ⟨by rfl, fun w' hSw => by go_simp⟩) hHeld ?_
    try simp only [zP, zQ, zS, zZ, zC]
    refine wt (i := 1) (oi := ⟨some 36, .binOp .add 3 (.tmp 35) (.const (Value.int IntKind.i64 1)) 3, 3, "breaks.go:79", #[⟨0, .data⟩], none⟩) (v := .int .i64 (m : Int)) (Or.inl ⟨by rfl, fun w' hSw => by have hw := HNM.out; have hw2 := HWM.out; go_simp⟩) hHeld ?_
    try simp only [zP, zQ, zS, zZ, zC]
    refine wt (i := 3) (oi := ⟨some 38, .move (.tmp 10), 3, "breaks.go:79", #[], none⟩) (v := .int .i64 (n : Int)) (Or.inl ⟨by rfl, fun w' hSw => by go_simp⟩) hHeld ?_
    try simp only [zP, zQ, zS, zZ, zC]
    refine wt (i := 4) (oi := ⟨some 39, .binOp .add 3 (.tmp 38) (.const (Value.int IntKind.i64 1)) 3, 3, "breaks.go:79", #[⟨3, .data⟩], none⟩) (v := .int .i64 (m : Int)) (Or.inl ⟨by rfl, fun w' hSw => by have hw := HNM.out; have hw2 := HWM.out; go_simp⟩) hHeld ?_
    try simp only [zP, zQ, zS, zZ, zC]
    refine wpAnyH_ready (rs := [2, 5, 7]) (by kernel_rfl) (by simp) ?_
    refine AllReadyH.cons (o := ⟨some 37, .makeSlice 22 (.tmp 36) (.tmp 36), 22, "breaks.go:79", #[⟨1, .data⟩, ⟨1, .data⟩], none⟩) rfl (fun K hK => ?_) (AllReadyH.cons (o := ⟨some 40, .makeSlice 22 (.tmp 39) (.tmp 39), 22, "breaks.go:79", #[⟨4, .data⟩, ⟨4, .data⟩], none⟩) rfl (fun K hK => ?_) (AllReadyH.cons (o := ⟨some 11, .alloc 28, 0, "breaks.go:79", #[], none⟩) rfl (fun K hK => ?_) AllReadyH.nil))
    · rw [if_pos (by rfl)]
      go_simp
      have Kl : Blk (World.alloc V0 (.cells (zeros m) 3)) V0.heap.size 3 (zeros m).toList := blk_new V0 _ _
      have X : Below V0.heap.size V0 (World.alloc V0 (.cells (zeros m) 3)) := (Below.refl _ _).alloc (Nat.le_refl _) _
      have hlb : W0.heap.size ≤ V0.heap.size := hHeld.size
      refine hK.out _ _ (link hHeld X) (fun hHeld => ?_)
      clear hK K
      try simp only [zP, zQ, zS, zZ, zC]
      clear X
      generalize World.alloc V0 _ = V1 at Kl hHeld ⊢
      generalize V0.heap.size = lb at Kl hlb ⊢
      refine wpAnyH_ready (rs := [5, 7]) (by kernel_rfl) (by simp) ?_
      refine AllReadyH.cons (o := ⟨some 40, .makeSlice 22 (.tmp 39) (.tmp 39), 22, "breaks.go:79", #[⟨4, .data⟩, ⟨4, .data⟩], none⟩) rfl (fun K hK => ?_) (AllReadyH.cons (o := ⟨some 11, .alloc 28, 0, "breaks.go:79", #[], none⟩) rfl (fun K hK => ?_) AllReadyH.nil)
      · rw [if_pos (by rfl)]
        go_simp
        have Kk : Blk (World.alloc V1 (.cells (zeros m) 3)) V1.heap.size 3 (zeros m).toList := blk_new V1 _ _
        have X : Below V1.heap.size V1 (World.alloc V1 (.cells (zeros m) 3)) := (Below.refl _ _).alloc (Nat.le_refl _) _
        have hkb : W0.heap.size ≤ V1.heap.size := hHeld.size
        have hltkl := Kl.lt
        replace Kl := Kl.keep X
        refine hK.out _ _ (link hHeld X) (fun hHeld => ?_)
        clear hK K
        try simp only [zP, zQ, zS, zZ, zC]
        clear X
        generalize World.alloc V1 _ = V2 at Kl Kk hHeld ⊢
        generalize V1.heap.size = kb at Kk hkb hltkl ⊢
        refine wt (i := 6) (oi := ⟨some 41, .build 28 #[(1, .tmp 37), (2, .tmp 40)], 28, "breaks.go:79", #[⟨2, .data⟩, ⟨5, .data⟩], none⟩) (v := .agg #[.slice none 0 0, .slice (some ⟨lb, 0, none⟩) m m, .slice (some ⟨kb, 0, none⟩) m m]) (Or.inl ⟨by rfl, fun w' hSw => by go_simp⟩) hHeld ?_
        try simp only [zP, zQ, zS, zZ, zC]
        refine wpAnyH_ready (rs := [7]) (by kernel_rfl) (by simp) ?_
        refine AllReadyH.cons (o := ⟨some 11, .alloc 28, 0, "breaks.go:79", #[], none⟩) rfl (fun K hK => ?_) AllReadyH.nil
        · rw [if_pos (by rfl)]
          go_simp
          have Kc : Blk (World.alloc V2 (.cells #[.slice none 0 0, .slice none 0 0, .slice none 0 0] 28)) V2.heap.size 28 [.slice none 0 0, .slice none 0 0, .slice none 0 0] := blk_new V2 _ _
          have X : Below V2.heap.size V2 (World.alloc V2 (.cells #[.slice none 0 0, .slice none 0 0, .slice none 0 0] 28)) := (Below.refl _ _).alloc (Nat.le_refl _) _
          have hcb : W0.heap.size ≤ V2.heap.size := hHeld.size
          have hltcl := Kl.lt
          replace Kl := Kl.keep X
          have hltck := Kk.lt
          replace Kk := Kk.keep X
          refine hK.out _ _ (link hHeld X) (fun hHeld => ?_)
          clear hK K
          try simp only [zP, zQ, zS, zZ, zC]
          clear X
          generalize World.alloc V2 _ = V3 at Kl Kk Kc hHeld ⊢
          generalize V2.heap.size = cb at Kc hcb hltcl hltck ⊢
          refine wpAnyH_ready (rs := [8]) (by kernel_rfl) (by simp) ?_
          refine AllReadyH.cons (o := ⟨none, .store 28 (.tmp 11) (.tmp 41), 0, "breaks.go:79", #[⟨7, .data⟩, ⟨6, .data⟩, ⟨0, .phase⟩, ⟨1, .phase⟩, ⟨2, .phase⟩, ⟨3, .phase⟩, ⟨4, .phase⟩, ⟨5, .phase⟩, ⟨6, .phase⟩, ⟨7, .phase⟩], none⟩) rfl (fun K hK => ?_) AllReadyH.nil
          rw [if_pos (by rfl)]
          refine wp_store_mid 28 (.tmp 11) (.tmp 41) rfl cb 0 #[.slice none 0 0, .slice (some ⟨lb, 0, none⟩) m m, .slice (some ⟨kb, 0, none⟩) m m] rfl rfl (by simpa using Kc.there 0 3 (by simp)) (by kernel_rfl) (all_oneCell_toArray (by intro v hv; simp at hv; rcases hv with rfl | rfl | rfl <;> rfl)) ?_
          have Kc2 : Blk (V3.setCells cb 0 [.slice none 0 0, .slice (some ⟨lb, 0, none⟩) m m, .slice (some ⟨kb, 0, none⟩) m m]) cb 28 [.slice none 0 0, .slice (some ⟨lb, 0, none⟩) m m, .slice (some ⟨kb, 0, none⟩) m m] := Kc.all rfl
          have Kl2 := Blk.others (b := lb) (b' := cb) (by omega) [.slice none 0 0, .slice (some ⟨lb, 0, none⟩) m m, .slice (some ⟨kb, 0, none⟩) m m] 0 Kl
          have Kk2 := Blk.others (b := kb) (b' := cb) (by omega) [.slice none 0 0, .slice (some ⟨lb, 0, none⟩) m m, .slice (some ⟨kb, 0, none⟩) m m] 0 Kk
          have H := (only_sets cb 0 V3 [.slice none 0 0, .slice (some ⟨lb, 0, none⟩) m m, .slice (some ⟨kb, 0, none⟩) m m]).2.2 _ _ hcb hHeld
          dsimp only
          generalize World.setCells V3 cb 0 [.slice none 0 0, .slice (some ⟨lb, 0, none⟩) m m, .slice (some ⟨kb, 0, none⟩) m m] = VF at Kc2 Kl2 Kk2 H ⊢
          refine hK.out _ _ (H) (fun hHeld => ?_)
          clear hK K
          try simp only [zP, zQ, zS, zZ, zC]
          refine wpAnyH_done (by kernel_rfl) ?_ _
          clear hHeld
          go_wp2_with fail
          go_meet
          exact ⟨lb, kb, cb, rfl, Kl2, Kk2, Kc2, by omega, by omega, by omega, hlb, hkb, hcb, H⟩
      · rw [if_pos (by rfl)]
        go_simp
        have Kc : Blk (World.alloc V1 (.cells #[.slice none 0 0, .slice none 0 0, .slice none 0 0] 28)) V1.heap.size 28 [.slice none 0 0, .slice none 0 0, .slice none 0 0] := blk_new V1 _ _
        have X : Below V1.heap.size V1 (World.alloc V1 (.cells #[.slice none 0 0, .slice none 0 0, .slice none 0 0] 28)) := (Below.refl _ _).alloc (Nat.le_refl _) _
        have hcb : W0.heap.size ≤ V1.heap.size := hHeld.size
        have hltcl := Kl.lt
        replace Kl := Kl.keep X
        refine hK.out _ _ (link hHeld X) (fun hHeld => ?_)
        clear hK K
        try simp only [zP, zQ, zS, zZ, zC]
        clear X
        generalize World.alloc V1 _ = V2 at Kl Kc hHeld ⊢
        generalize V1.heap.size = cb at Kc hcb hltcl ⊢
        refine wpAnyH_ready (rs := [5]) (by kernel_rfl) (by simp) ?_
        refine AllReadyH.cons (o := ⟨some 40, .makeSlice 22 (.tmp 39) (.tmp 39), 22, "breaks.go:79", #[⟨4, .data⟩, ⟨4, .data⟩], none⟩) rfl (fun K hK => ?_) AllReadyH.nil
        · rw [if_pos (by rfl)]
          go_simp
          have Kk : Blk (World.alloc V2 (.cells (zeros m) 3)) V2.heap.size 3 (zeros m).toList := blk_new V2 _ _
          have X : Below V2.heap.size V2 (World.alloc V2 (.cells (zeros m) 3)) := (Below.refl _ _).alloc (Nat.le_refl _) _
          have hkb : W0.heap.size ≤ V2.heap.size := hHeld.size
          have hltkl := Kl.lt
          replace Kl := Kl.keep X
          have hltkc := Kc.lt
          replace Kc := Kc.keep X
          refine hK.out _ _ (link hHeld X) (fun hHeld => ?_)
          clear hK K
          try simp only [zP, zQ, zS, zZ, zC]
          clear X
          generalize World.alloc V2 _ = V3 at Kl Kc Kk hHeld ⊢
          generalize V2.heap.size = kb at Kk hkb hltkl hltkc ⊢
          refine wt (i := 6) (oi := ⟨some 41, .build 28 #[(1, .tmp 37), (2, .tmp 40)], 28, "breaks.go:79", #[⟨2, .data⟩, ⟨5, .data⟩], none⟩) (v := .agg #[.slice none 0 0, .slice (some ⟨lb, 0, none⟩) m m, .slice (some ⟨kb, 0, none⟩) m m]) (Or.inl ⟨by rfl, fun w' hSw => by go_simp⟩) hHeld ?_
          try simp only [zP, zQ, zS, zZ, zC]
          refine wpAnyH_ready (rs := [8]) (by kernel_rfl) (by simp) ?_
          refine AllReadyH.cons (o := ⟨none, .store 28 (.tmp 11) (.tmp 41), 0, "breaks.go:79", #[⟨7, .data⟩, ⟨6, .data⟩, ⟨0, .phase⟩, ⟨1, .phase⟩, ⟨2, .phase⟩, ⟨3, .phase⟩, ⟨4, .phase⟩, ⟨5, .phase⟩, ⟨6, .phase⟩, ⟨7, .phase⟩], none⟩) rfl (fun K hK => ?_) AllReadyH.nil
          rw [if_pos (by rfl)]
          refine wp_store_mid 28 (.tmp 11) (.tmp 41) rfl cb 0 #[.slice none 0 0, .slice (some ⟨lb, 0, none⟩) m m, .slice (some ⟨kb, 0, none⟩) m m] rfl rfl (by simpa using Kc.there 0 3 (by simp)) (by kernel_rfl) (all_oneCell_toArray (by intro v hv; simp at hv; rcases hv with rfl | rfl | rfl <;> rfl)) ?_
          have Kc2 : Blk (V3.setCells cb 0 [.slice none 0 0, .slice (some ⟨lb, 0, none⟩) m m, .slice (some ⟨kb, 0, none⟩) m m]) cb 28 [.slice none 0 0, .slice (some ⟨lb, 0, none⟩) m m, .slice (some ⟨kb, 0, none⟩) m m] := Kc.all rfl
          have Kl2 := Blk.others (b := lb) (b' := cb) (by omega) [.slice none 0 0, .slice (some ⟨lb, 0, none⟩) m m, .slice (some ⟨kb, 0, none⟩) m m] 0 Kl
          have Kk2 := Blk.others (b := kb) (b' := cb) (by omega) [.slice none 0 0, .slice (some ⟨lb, 0, none⟩) m m, .slice (some ⟨kb, 0, none⟩) m m] 0 Kk
          have H := (only_sets cb 0 V3 [.slice none 0 0, .slice (some ⟨lb, 0, none⟩) m m, .slice (some ⟨kb, 0, none⟩) m m]).2.2 _ _ hcb hHeld
          dsimp only
          generalize World.setCells V3 cb 0 [.slice none 0 0, .slice (some ⟨lb, 0, none⟩) m m, .slice (some ⟨kb, 0, none⟩) m m] = VF at Kc2 Kl2 Kk2 H ⊢
          refine hK.out _ _ (H) (fun hHeld => ?_)
          clear hK K
          try simp only [zP, zQ, zS, zZ, zC]
          refine wpAnyH_done (by kernel_rfl) ?_ _
          clear hHeld
          go_wp2_with fail
          go_meet
          exact ⟨lb, kb, cb, rfl, Kl2, Kk2, Kc2, by omega, by omega, by omega, hlb, hkb, hcb, H⟩
    · rw [if_pos (by rfl)]
      go_simp
      have Kk : Blk (World.alloc V0 (.cells (zeros m) 3)) V0.heap.size 3 (zeros m).toList := blk_new V0 _ _
      have X : Below V0.heap.size V0 (World.alloc V0 (.cells (zeros m) 3)) := (Below.refl _ _).alloc (Nat.le_refl _) _
      have hkb : W0.heap.size ≤ V0.heap.size := hHeld.size
      refine hK.out _ _ (link hHeld X) (fun hHeld => ?_)
      clear hK K
      try simp only [zP, zQ, zS, zZ, zC]
      clear X
      generalize World.alloc V0 _ = V1 at Kk hHeld ⊢
      generalize V0.heap.size = kb at Kk hkb ⊢
      refine wpAnyH_ready (rs := [2, 7]) (by kernel_rfl) (by simp) ?_
      refine AllReadyH.cons (o := ⟨some 37, .makeSlice 22 (.tmp 36) (.tmp 36), 22, "breaks.go:79", #[⟨1, .data⟩, ⟨1, .data⟩], none⟩) rfl (fun K hK => ?_) (AllReadyH.cons (o := ⟨some 11, .alloc 28, 0, "breaks.go:79", #[], none⟩) rfl (fun K hK => ?_) AllReadyH.nil)
      · rw [if_pos (by rfl)]
        go_simp
        have Kl : Blk (World.alloc V1 (.cells (zeros m) 3)) V1.heap.size 3 (zeros m).toList := blk_new V1 _ _
        have X : Below V1.heap.size V1 (World.alloc V1 (.cells (zeros m) 3)) := (Below.refl _ _).alloc (Nat.le_refl _) _
        have hlb : W0.heap.size ≤ V1.heap.size := hHeld.size
        have hltlk := Kk.lt
        replace Kk := Kk.keep X
        refine hK.out _ _ (link hHeld X) (fun hHeld => ?_)
        clear hK K
        try simp only [zP, zQ, zS, zZ, zC]
        clear X
        generalize World.alloc V1 _ = V2 at Kk Kl hHeld ⊢
        generalize V1.heap.size = lb at Kl hlb hltlk ⊢
        refine wt (i := 6) (oi := ⟨some 41, .build 28 #[(1, .tmp 37), (2, .tmp 40)], 28, "breaks.go:79", #[⟨2, .data⟩, ⟨5, .data⟩], none⟩) (v := .agg #[.slice none 0 0, .slice (some ⟨lb, 0, none⟩) m m, .slice (some ⟨kb, 0, none⟩) m m]) (Or.inl ⟨by rfl, fun w' hSw => by go_simp⟩) hHeld ?_
        try simp only [zP, zQ, zS, zZ, zC]
        refine wpAnyH_ready (rs := [7]) (by kernel_rfl) (by simp) ?_
        refine AllReadyH.cons (o := ⟨some 11, .alloc 28, 0, "breaks.go:79", #[], none⟩) rfl (fun K hK => ?_) AllReadyH.nil
        · rw [if_pos (by rfl)]
          go_simp
          have Kc : Blk (World.alloc V2 (.cells #[.slice none 0 0, .slice none 0 0, .slice none 0 0] 28)) V2.heap.size 28 [.slice none 0 0, .slice none 0 0, .slice none 0 0] := blk_new V2 _ _
          have X : Below V2.heap.size V2 (World.alloc V2 (.cells #[.slice none 0 0, .slice none 0 0, .slice none 0 0] 28)) := (Below.refl _ _).alloc (Nat.le_refl _) _
          have hcb : W0.heap.size ≤ V2.heap.size := hHeld.size
          have hltck := Kk.lt
          replace Kk := Kk.keep X
          have hltcl := Kl.lt
          replace Kl := Kl.keep X
          refine hK.out _ _ (link hHeld X) (fun hHeld => ?_)
          clear hK K
          try simp only [zP, zQ, zS, zZ, zC]
          clear X
          generalize World.alloc V2 _ = V3 at Kk Kl Kc hHeld ⊢
          generalize V2.heap.size = cb at Kc hcb hltck hltcl ⊢
          refine wpAnyH_ready (rs := [8]) (by kernel_rfl) (by simp) ?_
          refine AllReadyH.cons (o := ⟨none, .store 28 (.tmp 11) (.tmp 41), 0, "breaks.go:79", #[⟨7, .data⟩, ⟨6, .data⟩, ⟨0, .phase⟩, ⟨1, .phase⟩, ⟨2, .phase⟩, ⟨3, .phase⟩, ⟨4, .phase⟩, ⟨5, .phase⟩, ⟨6, .phase⟩, ⟨7, .phase⟩], none⟩) rfl (fun K hK => ?_) AllReadyH.nil
          rw [if_pos (by rfl)]
          refine wp_store_mid 28 (.tmp 11) (.tmp 41) rfl cb 0 #[.slice none 0 0, .slice (some ⟨lb, 0, none⟩) m m, .slice (some ⟨kb, 0, none⟩) m m] rfl rfl (by simpa using Kc.there 0 3 (by simp)) (by kernel_rfl) (all_oneCell_toArray (by intro v hv; simp at hv; rcases hv with rfl | rfl | rfl <;> rfl)) ?_
          have Kc2 : Blk (V3.setCells cb 0 [.slice none 0 0, .slice (some ⟨lb, 0, none⟩) m m, .slice (some ⟨kb, 0, none⟩) m m]) cb 28 [.slice none 0 0, .slice (some ⟨lb, 0, none⟩) m m, .slice (some ⟨kb, 0, none⟩) m m] := Kc.all rfl
          have Kl2 := Blk.others (b := lb) (b' := cb) (by omega) [.slice none 0 0, .slice (some ⟨lb, 0, none⟩) m m, .slice (some ⟨kb, 0, none⟩) m m] 0 Kl
          have Kk2 := Blk.others (b := kb) (b' := cb) (by omega) [.slice none 0 0, .slice (some ⟨lb, 0, none⟩) m m, .slice (some ⟨kb, 0, none⟩) m m] 0 Kk
          have H := (only_sets cb 0 V3 [.slice none 0 0, .slice (some ⟨lb, 0, none⟩) m m, .slice (some ⟨kb, 0, none⟩) m m]).2.2 _ _ hcb hHeld
          dsimp only
          generalize World.setCells V3 cb 0 [.slice none 0 0, .slice (some ⟨lb, 0, none⟩) m m, .slice (some ⟨kb, 0, none⟩) m m] = VF at Kc2 Kl2 Kk2 H ⊢
          refine hK.out _ _ (H) (fun hHeld => ?_)
          clear hK K
          try simp only [zP, zQ, zS, zZ, zC]
          refine wpAnyH_done (by kernel_rfl) ?_ _
          clear hHeld
          go_wp2_with fail
          go_meet
          exact ⟨lb, kb, cb, rfl, Kl2, Kk2, Kc2, by omega, by omega, by omega, hlb, hkb, hcb, H⟩
      · rw [if_pos (by rfl)]
        go_simp
        have Kc : Blk (World.alloc V1 (.cells #[.slice none 0 0, .slice none 0 0, .slice none 0 0] 28)) V1.heap.size 28 [.slice none 0 0, .slice none 0 0, .slice none 0 0] := blk_new V1 _ _
        have X : Below V1.heap.size V1 (World.alloc V1 (.cells #[.slice none 0 0, .slice none 0 0, .slice none 0 0] 28)) := (Below.refl _ _).alloc (Nat.le_refl _) _
        have hcb : W0.heap.size ≤ V1.heap.size := hHeld.size
        have hltck := Kk.lt
        replace Kk := Kk.keep X
        refine hK.out _ _ (link hHeld X) (fun hHeld => ?_)
        clear hK K
        try simp only [zP, zQ, zS, zZ, zC]
        clear X
        generalize World.alloc V1 _ = V2 at Kk Kc hHeld ⊢
        generalize V1.heap.size = cb at Kc hcb hltck ⊢
        refine wpAnyH_ready (rs := [2]) (by kernel_rfl) (by simp) ?_
        refine AllReadyH.cons (o := ⟨some 37, .makeSlice 22 (.tmp 36) (.tmp 36), 22, "breaks.go:79", #[⟨1, .data⟩, ⟨1, .data⟩], none⟩) rfl (fun K hK => ?_) AllReadyH.nil
        · rw [if_pos (by rfl)]
          go_simp
          have Kl : Blk (World.alloc V2 (.cells (zeros m) 3)) V2.heap.size 3 (zeros m).toList := blk_new V2 _ _
          have X : Below V2.heap.size V2 (World.alloc V2 (.cells (zeros m) 3)) := (Below.refl _ _).alloc (Nat.le_refl _) _
          have hlb : W0.heap.size ≤ V2.heap.size := hHeld.size
          have hltlk := Kk.lt
          replace Kk := Kk.keep X
          have hltlc := Kc.lt
          replace Kc := Kc.keep X
          refine hK.out _ _ (link hHeld X) (fun hHeld => ?_)
          clear hK K
          try simp only [zP, zQ, zS, zZ, zC]
          clear X
          generalize World.alloc V2 _ = V3 at Kk Kc Kl hHeld ⊢
          generalize V2.heap.size = lb at Kl hlb hltlk hltlc ⊢
          refine wt (i := 6) (oi := ⟨some 41, .build 28 #[(1, .tmp 37), (2, .tmp 40)], 28, "breaks.go:79", #[⟨2, .data⟩, ⟨5, .data⟩], none⟩) (v := .agg #[.slice none 0 0, .slice (some ⟨lb, 0, none⟩) m m, .slice (some ⟨kb, 0, none⟩) m m]) (Or.inl ⟨by rfl, fun w' hSw => by go_simp⟩) hHeld ?_
          try simp only [zP, zQ, zS, zZ, zC]
          refine wpAnyH_ready (rs := [8]) (by kernel_rfl) (by simp) ?_
          refine AllReadyH.cons (o := ⟨none, .store 28 (.tmp 11) (.tmp 41), 0, "breaks.go:79", #[⟨7, .data⟩, ⟨6, .data⟩, ⟨0, .phase⟩, ⟨1, .phase⟩, ⟨2, .phase⟩, ⟨3, .phase⟩, ⟨4, .phase⟩, ⟨5, .phase⟩, ⟨6, .phase⟩, ⟨7, .phase⟩], none⟩) rfl (fun K hK => ?_) AllReadyH.nil
          rw [if_pos (by rfl)]
          refine wp_store_mid 28 (.tmp 11) (.tmp 41) rfl cb 0 #[.slice none 0 0, .slice (some ⟨lb, 0, none⟩) m m, .slice (some ⟨kb, 0, none⟩) m m] rfl rfl (by simpa using Kc.there 0 3 (by simp)) (by kernel_rfl) (all_oneCell_toArray (by intro v hv; simp at hv; rcases hv with rfl | rfl | rfl <;> rfl)) ?_
          have Kc2 : Blk (V3.setCells cb 0 [.slice none 0 0, .slice (some ⟨lb, 0, none⟩) m m, .slice (some ⟨kb, 0, none⟩) m m]) cb 28 [.slice none 0 0, .slice (some ⟨lb, 0, none⟩) m m, .slice (some ⟨kb, 0, none⟩) m m] := Kc.all rfl
          have Kl2 := Blk.others (b := lb) (b' := cb) (by omega) [.slice none 0 0, .slice (some ⟨lb, 0, none⟩) m m, .slice (some ⟨kb, 0, none⟩) m m] 0 Kl
          have Kk2 := Blk.others (b := kb) (b' := cb) (by omega) [.slice none 0 0, .slice (some ⟨lb, 0, none⟩) m m, .slice (some ⟨kb, 0, none⟩) m m] 0 Kk
          have H := (only_sets cb 0 V3 [.slice none 0 0, .slice (some ⟨lb, 0, none⟩) m m, .slice (some ⟨kb, 0, none⟩) m m]).2.2 _ _ hcb hHeld
          dsimp only
          generalize World.setCells V3 cb 0 [.slice none 0 0, .slice (some ⟨lb, 0, none⟩) m m, .slice (some ⟨kb, 0, none⟩) m m] = VF at Kc2 Kl2 Kk2 H ⊢
          refine hK.out _ _ (H) (fun hHeld => ?_)
          clear hK K
          try simp only [zP, zQ, zS, zZ, zC]
          refine wpAnyH_done (by kernel_rfl) ?_ _
          clear hHeld
          go_wp2_with fail
          go_meet
          exact ⟨lb, kb, cb, rfl, Kl2, Kk2, Kc2, by omega, by omega, by omega, hlb, hkb, hcb, H⟩
    · rw [if_pos (by rfl)]
      go_simp
      have Kc : Blk (World.alloc V0 (.cells #[.slice none 0 0, .slice none 0 0, .slice none 0 0] 28)) V0.heap.size 28 [.slice none 0 0, .slice none 0 0, .slice none 0 0] := blk_new V0 _ _
      have X : Below V0.heap.size V0 (World.alloc V0 (.cells #[.slice none 0 0, .slice none 0 0, .slice none 0 0] 28)) := (Below.refl _ _).alloc (Nat.le_refl _) _
      have hcb : W0.heap.size ≤ V0.heap.size := hHeld.size
      refine hK.out _ _ (link hHeld X) (fun hHeld => ?_)
      clear hK K
      try simp only [zP, zQ, zS, zZ, zC]
      clear X
      generalize World.alloc V0 _ = V1 at Kc hHeld ⊢
      generalize V0.heap.size = cb at Kc hcb ⊢
      refine wpAnyH_ready (rs := [2, 5]) (by kernel_rfl) (by simp) ?_
      refine AllReadyH.cons (o := ⟨some 37, .makeSlice 22 (.tmp 36) (.tmp 36), 22, "breaks.go:79", #[⟨1, .data⟩, ⟨1, .data⟩], none⟩) rfl (fun K hK => ?_) (AllReadyH.cons (o := ⟨some 40, .makeSlice 22 (.tmp 39) (.tmp 39), 22, "breaks.go:79", #[⟨4, .data⟩, ⟨4, .data⟩], none⟩) rfl (fun K hK => ?_) AllReadyH.nil)
      · rw [if_pos (by rfl)]
        go_simp
        have Kl : Blk (World.alloc V1 (.cells (zeros m) 3)) V1.heap.size 3 (zeros m).toList := blk_new V1 _ _
        have X : Below V1.heap.size V1 (World.alloc V1 (.cells (zeros m) 3)) := (Below.refl _ _).alloc (Nat.le_refl _) _
        have hlb : W0.heap.size ≤ V1.heap.size := hHeld.size
        have hltlc := Kc.lt
        replace Kc := Kc.keep X
        refine hK.out _ _ (link hHeld X) (fun hHeld => ?_)
        clear hK K
        try simp only [zP, zQ, zS, zZ, zC]
        clear X
        generalize World.alloc V1 _ = V2 at Kc Kl hHeld ⊢
        generalize V1.heap.size = lb at Kl hlb hltlc ⊢
        refine wpAnyH_ready (rs := [5]) (by kernel_rfl) (by simp) ?_
        refine AllReadyH.cons (o := ⟨some 40, .makeSlice 22 (.tmp 39) (.tmp 39), 22, "breaks.go:79", #[⟨4, .data⟩, ⟨4, .data⟩], none⟩) rfl (fun K hK => ?_) AllReadyH.nil
        · rw [if_pos (by rfl)]
          go_simp
          have Kk : Blk (World.alloc V2 (.cells (zeros m) 3)) V2.heap.size 3 (zeros m).toList := blk_new V2 _ _
          have X : Below V2.heap.size V2 (World.alloc V2 (.cells (zeros m) 3)) := (Below.refl _ _).alloc (Nat.le_refl _) _
          have hkb : W0.heap.size ≤ V2.heap.size := hHeld.size
          have hltkc := Kc.lt
          replace Kc := Kc.keep X
          have hltkl := Kl.lt
          replace Kl := Kl.keep X
          refine hK.out _ _ (link hHeld X) (fun hHeld => ?_)
          clear hK K
          try simp only [zP, zQ, zS, zZ, zC]
          clear X
          generalize World.alloc V2 _ = V3 at Kc Kl Kk hHeld ⊢
          generalize V2.heap.size = kb at Kk hkb hltkc hltkl ⊢
          refine wt (i := 6) (oi := ⟨some 41, .build 28 #[(1, .tmp 37), (2, .tmp 40)], 28, "breaks.go:79", #[⟨2, .data⟩, ⟨5, .data⟩], none⟩) (v := .agg #[.slice none 0 0, .slice (some ⟨lb, 0, none⟩) m m, .slice (some ⟨kb, 0, none⟩) m m]) (Or.inl ⟨by rfl, fun w' hSw => by go_simp⟩) hHeld ?_
          try simp only [zP, zQ, zS, zZ, zC]
          refine wpAnyH_ready (rs := [8]) (by kernel_rfl) (by simp) ?_
          refine AllReadyH.cons (o := ⟨none, .store 28 (.tmp 11) (.tmp 41), 0, "breaks.go:79", #[⟨7, .data⟩, ⟨6, .data⟩, ⟨0, .phase⟩, ⟨1, .phase⟩, ⟨2, .phase⟩, ⟨3, .phase⟩, ⟨4, .phase⟩, ⟨5, .phase⟩, ⟨6, .phase⟩, ⟨7, .phase⟩], none⟩) rfl (fun K hK => ?_) AllReadyH.nil
          rw [if_pos (by rfl)]
          refine wp_store_mid 28 (.tmp 11) (.tmp 41) rfl cb 0 #[.slice none 0 0, .slice (some ⟨lb, 0, none⟩) m m, .slice (some ⟨kb, 0, none⟩) m m] rfl rfl (by simpa using Kc.there 0 3 (by simp)) (by kernel_rfl) (all_oneCell_toArray (by intro v hv; simp at hv; rcases hv with rfl | rfl | rfl <;> rfl)) ?_
          have Kc2 : Blk (V3.setCells cb 0 [.slice none 0 0, .slice (some ⟨lb, 0, none⟩) m m, .slice (some ⟨kb, 0, none⟩) m m]) cb 28 [.slice none 0 0, .slice (some ⟨lb, 0, none⟩) m m, .slice (some ⟨kb, 0, none⟩) m m] := Kc.all rfl
          have Kl2 := Blk.others (b := lb) (b' := cb) (by omega) [.slice none 0 0, .slice (some ⟨lb, 0, none⟩) m m, .slice (some ⟨kb, 0, none⟩) m m] 0 Kl
          have Kk2 := Blk.others (b := kb) (b' := cb) (by omega) [.slice none 0 0, .slice (some ⟨lb, 0, none⟩) m m, .slice (some ⟨kb, 0, none⟩) m m] 0 Kk
          have H := (only_sets cb 0 V3 [.slice none 0 0, .slice (some ⟨lb, 0, none⟩) m m, .slice (some ⟨kb, 0, none⟩) m m]).2.2 _ _ hcb hHeld
          dsimp only
          generalize World.setCells V3 cb 0 [.slice none 0 0, .slice (some ⟨lb, 0, none⟩) m m, .slice (some ⟨kb, 0, none⟩) m m] = VF at Kc2 Kl2 Kk2 H ⊢
          refine hK.out _ _ (H) (fun hHeld => ?_)
          clear hK K
          try simp only [zP, zQ, zS, zZ, zC]
          refine wpAnyH_done (by kernel_rfl) ?_ _
          clear hHeld
          go_wp2_with fail
          go_meet
          exact ⟨lb, kb, cb, rfl, Kl2, Kk2, Kc2, by omega, by omega, by omega, hlb, hkb, hcb, H⟩
      · rw [if_pos (by rfl)]
        go_simp
        have Kk : Blk (World.alloc V1 (.cells (zeros m) 3)) V1.heap.size 3 (zeros m).toList := blk_new V1 _ _
        have X : Below V1.heap.size V1 (World.alloc V1 (.cells (zeros m) 3)) := (Below.refl _ _).alloc (Nat.le_refl _) _
        have hkb : W0.heap.size ≤ V1.heap.size := hHeld.size
        have hltkc := Kc.lt
        replace Kc := Kc.keep X
        refine hK.out _ _ (link hHeld X) (fun hHeld => ?_)
        clear hK K
        try simp only [zP, zQ, zS, zZ, zC]
        clear X
        generalize World.alloc V1 _ = V2 at Kc Kk hHeld ⊢
        generalize V1.heap.size = kb at Kk hkb hltkc ⊢
        refine wpAnyH_ready (rs := [2]) (by kernel_rfl) (by simp) ?_
        refine AllReadyH.cons (o := ⟨some 37, .makeSlice 22 (.tmp 36) (.tmp 36), 22, "breaks.go:79", #[⟨1, .data⟩, ⟨1, .data⟩], none⟩) rfl (fun K hK => ?_) AllReadyH.nil
        · rw [if_pos (by rfl)]
          go_simp
          have Kl : Blk (World.alloc V2 (.cells (zeros m) 3)) V2.heap.size 3 (zeros m).toList := blk_new V2 _ _
          have X : Below V2.heap.size V2 (World.alloc V2 (.cells (zeros m) 3)) := (Below.refl _ _).alloc (Nat.le_refl _) _
          have hlb : W0.heap.size ≤ V2.heap.size := hHeld.size
          have hltlc := Kc.lt
          replace Kc := Kc.keep X
          have hltlk := Kk.lt
          replace Kk := Kk.keep X
          refine hK.out _ _ (link hHeld X) (fun hHeld => ?_)
          clear hK K
          try simp only [zP, zQ, zS, zZ, zC]
          clear X
          generalize World.alloc V2 _ = V3 at Kc Kk Kl hHeld ⊢
          generalize V2.heap.size = lb at Kl hlb hltlc hltlk ⊢
          refine wt (i := 6) (oi := ⟨some 41, .build 28 #[(1, .tmp 37), (2, .tmp 40)], 28, "breaks.go:79", #[⟨2, .data⟩, ⟨5, .data⟩], none⟩) (v := .agg #[.slice none 0 0, .slice (some ⟨lb, 0, none⟩) m m, .slice (some ⟨kb, 0, none⟩) m m]) (Or.inl ⟨by rfl, fun w' hSw => by go_simp⟩) hHeld ?_
          try simp only [zP, zQ, zS, zZ, zC]
          refine wpAnyH_ready (rs := [8]) (by kernel_rfl) (by simp) ?_
          refine AllReadyH.cons (o := ⟨none, .store 28 (.tmp 11) (.tmp 41), 0, "breaks.go:79", #[⟨7, .data⟩, ⟨6, .data⟩, ⟨0, .phase⟩, ⟨1, .phase⟩, ⟨2, .phase⟩, ⟨3, .phase⟩, ⟨4, .phase⟩, ⟨5, .phase⟩, ⟨6, .phase⟩, ⟨7, .phase⟩], none⟩) rfl (fun K hK => ?_) AllReadyH.nil
          rw [if_pos (by rfl)]
          refine wp_store_mid 28 (.tmp 11) (.tmp 41) rfl cb 0 #[.slice none 0 0, .slice (some ⟨lb, 0, none⟩) m m, .slice (some ⟨kb, 0, none⟩) m m] rfl rfl (by simpa using Kc.there 0 3 (by simp)) (by kernel_rfl) (all_oneCell_toArray (by intro v hv; simp at hv; rcases hv with rfl | rfl | rfl <;> rfl)) ?_
          have Kc2 : Blk (V3.setCells cb 0 [.slice none 0 0, .slice (some ⟨lb, 0, none⟩) m m, .slice (some ⟨kb, 0, none⟩) m m]) cb 28 [.slice none 0 0, .slice (some ⟨lb, 0, none⟩) m m, .slice (some ⟨kb, 0, none⟩) m m] := Kc.all rfl
          have Kl2 := Blk.others (b := lb) (b' := cb) (by omega) [.slice none 0 0, .slice (some ⟨lb, 0, none⟩) m m, .slice (some ⟨kb, 0, none⟩) m m] 0 Kl
          have Kk2 := Blk.others (b := kb) (b' := cb) (by omega) [.slice none 0 0, .slice (some ⟨lb, 0, none⟩) m m, .slice (some ⟨kb, 0, none⟩) m m] 0 Kk
          have H := (only_sets cb 0 V3 [.slice none 0 0, .slice (some ⟨lb, 0, none⟩) m m, .slice (some ⟨kb, 0, none⟩) m m]).2.2 _ _ hcb hHeld
          dsimp only
          generalize World.setCells V3 cb 0 [.slice none 0 0, .slice (some ⟨lb, 0, none⟩) m m, .slice (some ⟨kb, 0, none⟩) m m] = VF at Kc2 Kl2 Kk2 H ⊢
          refine hK.out _ _ (H) (fun hHeld => ?_)
          clear hK K
          try simp only [zP, zQ, zS, zZ, zC]
          refine wpAnyH_done (by kernel_rfl) ?_ _
          clear hHeld
          go_wp2_with fail
          go_meet
          exact ⟨lb, kb, cb, rfl, Kl2, Kk2, Kc2, by omega, by omega, by omega, hlb, hkb, hcb, H⟩
  case rest =>
    obtain ⟨lb, kb, cb, rfl, Kl, Kk, Kc, nlk, nlc, nkc, hlb, hkb, hcb, hBc⟩ := hcut
    have hmk := fun V : World => mk_int n (by omega) V
    go_upto_region 9 with (fail)
    have Kn := blk_new wc 3 (zeros n)
    have Xn : Below wc.heap.size wc (wc.alloc (.cells (zeros n) 3)) := (Below.refl _ _).alloc (Nat.le_refl _) _
    have hln := Kl.lt
    have hkn := Kk.lt
    have hcn := Kc.lt
    have hnbw := hBc.size
    replace Kl := Kl.keep Xn
    replace Kk := Kk.keep Xn
    replace Kc := Kc.keep Xn
    have hX := link hBc Xn
    generalize World.alloc wc _ = W9 at Kn Kl Kk Kc hX ⊢
    obtain ⟨nb, hnb⟩ : ∃ nb, wc.heap.size = nb := ⟨_, rfl⟩
    rw [hnb] at Kn hln hkn hcn hnbw
    rw [hnb]
    have nln : lb ≠ nb := by omega
    have nkn : kb ≠ nb := by omega
    have nnc : nb ≠ cb := by omega
    have HMM := Lib.hid (show (zeros m).toList = iv (List.replicate (n + 1) 0) from by unfold zeros iv; rw [HM.out]; simp)
    have HNN := Lib.hid (show (zeros n).toList = nv (List.replicate n 0) from by unfold zeros nv; simp)
    rw [HMM.out] at Kl Kk
    rw [HNN.out] at Kn
    have K3' := fun (V : World) (h : Below W0.heap.size W0 V) => K3.keep h
    have hS3' := fun (V : World) (h : Below W0.heap.size W0 V) => hS3.keep h
    have Kr3' := fun (V : World) (h : Below W0.heap.size W0 V) => Kr3.keep h
    have HBox := Lib.hid K3'
    have HSum := Lib.hid hS3'
    have HRes := Lib.hid Kr3'
    have HFT := Lib.hid (show fillT l bl wd = outT l bl wd n n (List.replicate (n + 1) 0, List.replicate (n + 1) 0, List.replicate n 0) from by unfold fillT; rw [HL.out])
    clear hBc Xn hnb hln hkn hcn hmk K3' hS3' Kr3' K3 hS3 Kr3
    go_wp2
    go_loopw [45] (fun v wr => FiRel l bl wd n m lb kb nb cb W0 v wr) (fun v _ => n - (intOf v).toNat)
    case atStart => exact ⟨0, _, _, _, rfl, Nat.zero_le _, good_zero n, fun j hj => by rw [List.getElem?_replicate, List.getElem?_replicate, if_pos (by omega), if_pos (by omega)]; exact ⟨rfl, rfl, rfl⟩, HFT.out.symm, Kl, Kk, Kn, Kc, hX⟩
    case round =>
      clear Kl Kk Kn Kc hX
      obtain ⟨t, L, C, N, rfl, ht, hG, hFresh, hOut, Kl, Kk, Kn, Kc, hX⟩ := hrel
      rcases Nat.lt_or_ge t n with hlt | hge
      · obtain ⟨k, hk⟩ : ∃ k, n - t = k + 1 := ⟨n - t - 1, by omega⟩
        rw [hk] at hG hFresh hOut
        obtain ⟨f1, f2, f3⟩ := hFresh k (by omega)
        have hkn : k < n := by omega
        obtain ⟨R, hR⟩ : ∃ R, cell l bl wd n k L C = R := ⟨_, rfl⟩
        have HGood := Lib.hid (show Good n k (L.set k R.1, C.set k R.2.1, N.set k R.2.2) from by
          have := good_cell HFi.out HZ.out (k := k) (by rw [HL.out]; exact hkn) (by rw [HL.out]; exact hG)
          rw [HL.out, hR] at this
          exact this)
        have HOut := Lib.hid (show outT l bl wd n k (L.set k R.1, C.set k R.2.1, N.set k R.2.2) = fillT l bl wd from by rw [← hOut, ← hR]; rfl)
        have HFre := Lib.hid (show ∀ j, j < k → (L.set k R.1)[j]? = some 0 ∧ (C.set k R.2.1)[j]? = some 0 ∧ (N.set k R.2.2)[j]? = some 0 from fun j hj => by
          rw [List.getElem?_set_ne (by omega), List.getElem?_set_ne (by omega), List.getElem?_set_ne (by omega)]
          exact hFresh j (by omega))
        have HR := Lib.hid (show dpIn (frT l bl wd k) (prT l bl wd k) (fun j => L.getD j 0) (fun j => C.getD j 0) n (n + 1 - (k + 1)) (k + 1) (0, 0, 0) = R from by rw [← hR]; unfold cell; congr 1; omega)
        have HGd := Lib.hid hG
        have HTk := Lib.hid hk
        have hn1 : (n : Int) - 1 = ((n - 1 : Nat) : Int) := by omega
        obtain ⟨n1, hn1'⟩ : ∃ n1, n - 1 = n1 := ⟨_, rfl⟩
        rw [hn1'] at hn1
        have hn2 : (n1 : Int) - (t : Int) = (k : Int) := by omega
        have hn19 : n1 ≤ 256 := by omega
        rw [← set_id f1] at Kl
        rw [← set_id f2] at Kk
        rw [← set_id f3] at Kn
        have HFin := Lib.hid (fun (V : World) (h1 : Blk V lb 3 (iv (L.set k R.1))) (h2 : Blk V kb 3 (iv (C.set k R.2.1))) (h3 : Blk V nb 3 (nv (N.set k R.2.2))) (h4 : Blk V cb 28 [.slice none 0 0, .slice (some ⟨lb, 0, none⟩) m m, .slice (some ⟨kb, 0, none⟩) m m]) (h5 : Below W0.heap.size W0 V) => (show FiRel l bl wd n m lb kb nb cb W0 (.int .i64 ((t : Int) + 1)) V from ⟨t + 1, _, _, _, by go_num, by omega, by rw [show n - (t + 1) = k by omega]; exact HGood.out, by rw [show n - (t + 1) = k by omega]; exact HFre.out, by rw [show n - (t + 1) = k by omega]; exact HOut.out, h1, h2, h3, h4, h5⟩))
        have hme := Lib.hid (show n - (intOf (.int .i64 ((t : Int) + 1))).toNat < n - (intOf (.int .i64 (t : Int))).toNat from by simp [intOf]; omega)
        clear hG hFresh hOut hR hk f1 f2 f3 hn1' HGood HFre HOut
        go_wp2
        clear hn1 hn2
        go_loopw [15] (fun v wr => InRel l bl wd n m k lb kb nb cb L C N R W0 v wr) (fun v _ => n + 1 - (intOf v).toNat)
        case atStart => exact ⟨k + 1, 0, 0, 0, by go_num, by omega, by omega, HR.out, small_zero _ _, Or.inl rfl, Kl, Kk, Kn, Kc, hX⟩
        case round =>
          clear Kl Kk Kn Kc hX
          obtain ⟨j, s1, s2, sx, rfl, hkj, hj, hDp, hSm, hsx0, Kl, Kk, Kn, Kc, hX⟩ := hrel
          have HDp := Lib.hid hDp
          have g1 := HGd.out.1
          have g2 := HGd.out.2.1
          have g3 := HGd.out.2.2.1
          have g1 : L.length = n + 1 := g1
          have g2 : C.length = n + 1 := g2
          have g3 : N.length = n := g3
          have Kb := HBox.out wr hX
          have CWb : wr.rangeAt pb 0 [.slice (some ⟨b, 0, none⟩) (n + 1) (n + 1), .int .i64 bl, .int .i64 wd, .bool false] := by have := Kb.range 0 4; exact this
          clear hDp Kb
          rcases Nat.lt_or_ge n j with hjn | hjn
          · obtain rfl : j = n + 1 := by omega
            have hR : R = (s1, s2, sx) := by have := HDp.out; rw [Nat.sub_self] at this; exact this.symm
            have hjle : ¬ ((n + 1 : Nat) : Int) ≤ (n : Int) := by omega
            subst hR
            clear CWb
            go_wp2
            exact ⟨HFin.out wr Kl Kk Kn Kc hX, hme.out⟩
          · have hSL := HGd.out.2.2.2.1 j hjn
            obtain ⟨xl, hxl⟩ : ∃ xl, L[j]? = some xl := ⟨_, List.getElem?_eq_getElem (by omega)⟩
            obtain ⟨xk, hxk⟩ : ∃ xk, C[j]? = some xk := ⟨_, List.getElem?_eq_getElem (by omega)⟩
            have dl : L.getD j 0 = xl := by rw [List.getD_eq_getElem?_getD, hxl]; rfl
            have dk : C.getD j 0 = xk := by rw [List.getD_eq_getElem?_getD, hxk]; rfl
            rw [dl, dk] at hSL
            have HF1 := Lib.hid (HFr.out b k j (by omega) hjn wr (HSum.out wr hX))
            have HC1 := Lib.hid (fun (h0 : 0 ≤ frT l bl wd k j) (V : World) (hS : SumsAt V b l bl) => HCo.out b k j (by omega) hjn h0 V hS)
            have HP1 := Lib.hid (fun h0 : 0 ≤ frT l bl wd k j => HPb.out k j (by omega) h0)
            have HStep := Lib.hid (show dpIn (frT l bl wd k) (prT l bl wd k) (fun j => L.getD j 0) (fun j => C.getD j 0) n (n + 1 - j) j (s1, s2, sx) = if 0 ≤ frT l bl wd k j then dpIn (frT l bl wd k) (prT l bl wd k) (fun j => L.getD j 0) (fun j => C.getD j 0) n (n + 1 - (j + 1)) (j + 1) (stepT (xl + 1) (xk + prT l bl wd k j) j (s1, s2, sx)) else (s1, s2, sx) from by
              conv => lhs; rw [show n + 1 - j = (n + 1 - (j + 1)) + 1 by omega]
              conv => lhs; unfold dpIn
              try dsimp only
              rw [dl, dk]
              by_cases h : 0 ≤ frT l bl wd k j
              · rw [if_pos ⟨hjn, h⟩, if_pos h]
              · rw [if_neg (fun g => h g.2), if_neg h])
            obtain ⟨fr, hfr'⟩ : ∃ fr, frT l bl wd k j = fr := ⟨_, rfl⟩
            obtain ⟨pr, hpr'⟩ : ∃ pr, prT l bl wd k j = pr := ⟨_, rfl⟩
            rw [hfr'] at HF1 HC1 HP1 HStep
            rw [hpr'] at HC1 HP1 HStep
            clear hfr' hpr' dl dk
            by_cases hfr : fr < 0
            · have hR : R = (s1, s2, sx) := by rw [← HDp.out, HStep.out, if_neg (by omega)]
              subst hR
              clear HStep HP1 HC1 hxl hxk
              go_wp2_with (first
                | (refine load_wanted3 (by rfl) 58 (.tmp 8) rfl pb 0 rfl [.slice (some ⟨b, 0, none⟩) (n + 1) (n + 1), .int .i64 bl, .int .i64 wd, .bool false] _ CWb Try.underlying58 rfl (by kernel_rfl) ?_)
                | (go_at_call 32; refine HF1.out.mono ?_; rintro en W5 ⟨rfl, hB5⟩))
              exact ⟨HFin.out W5 (Kl.keep hB5) (Kk.keep hB5) (Kn.keep hB5) (Kc.keep hB5) (link hX hB5), hme.out⟩
            · have hf0 : 0 ≤ fr := by omega
              obtain ⟨p1, p2⟩ := HP1.out hf0
              have HC2 := Lib.hid (HC1.out hf0)
              have HSt := Lib.hid (show dpIn (frT l bl wd k) (prT l bl wd k) (fun j => L.getD j 0) (fun j => C.getD j 0) n (n + 1 - (j + 1)) (j + 1) (stepT (xl + 1) (xk + pr) j (s1, s2, sx)) = R from by rw [← HDp.out, HStep.out, if_pos hf0])
              have HSn := Lib.hid (small_next (k := k) hkj hjn hSL p1 p2)
              obtain ⟨q1, q2, q3, q4⟩ := hSL
              have HSm := Lib.hid hSm
              have HWa := Lib.hid (wrap_big (x := xl + 1) (by omega) (by omega))
              have HWb := Lib.hid (wrap_big (x := xk + pr) (by omega) (by omega))
              clear HStep HP1 HC1 HDp hSm
              go_upto_region 16 with (first
                | (refine load_wanted3 (by rfl) 58 (.tmp 8) rfl pb 0 rfl [.slice (some ⟨b, 0, none⟩) (n + 1) (n + 1), .int .i64 bl, .int .i64 wd, .bool false] _ CWb Try.underlying58 rfl (by kernel_rfl) ?_)
                | (go_at_call 32; refine HF1.out.mono ?_; rintro en W5 ⟨rfl, hB5⟩))
              have hX5 := link hX hB5
              have Kl5 := Kl.keep hB5
              have Kk5 := Kk.keep hB5
              have Kn5 := Kn.keep hB5
              have Kc5 := Kc.keep hB5
              have hS5 := HSum.out W5 hX5
              have Kb5 := HBox.out W5 hX5
              have C1 : ∀ w', Below W5.heap.size W5 w' → w'.cell? ⟨cb, 1, none⟩ = some (.slice (some ⟨lb, 0, none⟩) m m) := fun w' h => (Kc5.keep h).cell rfl
              have C2 : ∀ w', Below W5.heap.size W5 w' → w'.cell? ⟨cb, 2, none⟩ = some (.slice (some ⟨kb, 0, none⟩) m m) := fun w' h => (Kc5.keep h).cell rfl
              have CL : ∀ w', Below W5.heap.size W5 w' → w'.cell? ⟨lb, j, none⟩ = some (.int .i64 xl) := fun w' h => (Kl5.keep h).cell (iv_get (by rw [List.getElem?_set_ne (by omega)]; exact hxl))
              have CK : ∀ w', Below W5.heap.size W5 w' → w'.cell? ⟨kb, j, none⟩ = some (.int .i64 xk) := fun w' h => (Kk5.keep h).cell (iv_get (by rw [List.getElem?_set_ne (by omega)]; exact hxk))
              have CB : ∀ w', Below W5.heap.size W5 w' → w'.rangeAt pb 0 [.slice (some ⟨b, 0, none⟩) (n + 1) (n + 1), .int .i64 bl, .int .i64 wd, .bool false] := fun w' h => by have := (Kb5.keep h).range 0 4; exact this
              have hjm : j < m := by have := HM.out; omega
              have hkm : k < m := by omega
              clear Kl Kk Kn Kc hX CWb hB5 HF1 Kb5 hxl hxk
              refine wp_region_held_drew (S := fun w' => Below W5.heap.size W5 w') (by kernel_rfl) (below_drew (Below.refl _ _)) (fun _ => ?_)
              have hHeld : Below W5.heap.size W5 W5.drew := below_drew (Below.refl _ _)
              generalize W5.drew = V0 at hHeld ⊢
              refine wt (i := 0) (oi := ⟨some 66, .fieldAddr 28 (.tmp 11) 1, 0, "breaks.go:84", #[], none⟩) (v := .pointer (some ⟨cb, 1, none⟩)) (Or.inl ⟨by rfl, fun w' hSw => by go_simp⟩) hHeld ?_
              try simp only [zP, zQ, zS, zZ, zC]
              refine wt (i := 1) (oi := ⟨some 67, .load 22 (.tmp 66), 22, "breaks.go:84", #[⟨0, .data⟩], none⟩) (v := .slice (some ⟨lb, 0, none⟩) m m) (Or.inl ⟨by rfl, fun w' hSw => by have hc := C1 w' hSw; go_simp⟩) hHeld ?_
              try simp only [zP, zQ, zS, zZ, zC]
              refine wt (i := 2) (oi := ⟨some 68, .move (.tmp 15), 3, "breaks.go:84", #[], none⟩) (v := .int .i64 (j : Int)) (Or.inl ⟨by rfl, fun w' hSw => by go_simp⟩) hHeld ?_
              try simp only [zP, zQ, zS, zZ, zC]
              refine wt (i := 3) (oi := ⟨some 69, .indexAddr 22 (.tmp 67) (.tmp 68), 0, "breaks.go:84", #[⟨1, .data⟩, ⟨2, .data⟩], none⟩) (v := .pointer (some ⟨lb, j, none⟩)) (Or.inl ⟨by rfl, fun w' hSw => by go_simp; try (intro hcm; exact absurd hcm (by omega))⟩) hHeld ?_
              try simp only [zP, zQ, zS, zZ, zC]
              refine wt (i := 4) (oi := ⟨some 70, .load 3 (.tmp 69), 3, "breaks.go:84", #[⟨3, .data⟩], none⟩) (v := .int .i64 xl) (Or.inl ⟨by rfl, fun w' hSw => by have hc := CL w' hSw; go_simp⟩) hHeld ?_
              try simp only [zP, zQ, zS, zZ, zC]
              refine wt (i := 5) (oi := ⟨some 71, .binOp .add 3 (.tmp 70) (.const (Value.int IntKind.i64 1)) 3, 3, "breaks.go:84", #[⟨4, .data⟩], none⟩) (v := .int .i64 (xl + 1)) (Or.inl ⟨by rfl, fun w' hSw => by have hw := HWa.out; go_simp⟩) hHeld ?_
              try simp only [zP, zQ, zS, zZ, zC]
              refine wt (i := 6) (oi := ⟨some 72, .fieldAddr 28 (.tmp 11) 2, 0, "breaks.go:84", #[{ on := 16, ground := Ground.gcOnly Departure.lateStores }], none⟩) (v := .pointer (some ⟨cb, 2, none⟩)) (Or.inl ⟨by rfl, fun w' hSw => by go_simp⟩) hHeld ?_
              try simp only [zP, zQ, zS, zZ, zC]
              refine wt (i := 7) (oi := ⟨some 73, .load 22 (.tmp 72), 22, "breaks.go:84", #[⟨6, .data⟩, { on := 16, ground := Ground.gcOnly Departure.lateStores }], none⟩) (v := .slice (some ⟨kb, 0, none⟩) m m) (Or.inl ⟨by rfl, fun w' hSw => by have hc := C2 w' hSw; go_simp⟩) hHeld ?_
              try simp only [zP, zQ, zS, zZ, zC]
              refine wt (i := 8) (oi := ⟨some 74, .move (.tmp 15), 3, "breaks.go:84", #[{ on := 16, ground := Ground.gcOnly Departure.lateStores }], none⟩) (v := .int .i64 (j : Int)) (Or.inl ⟨by rfl, fun w' hSw => by go_simp⟩) hHeld ?_
              try simp only [zP, zQ, zS, zZ, zC]
              refine wt (i := 9) (oi := ⟨some 75, .indexAddr 22 (.tmp 73) (.tmp 74), 0, "breaks.go:84", #[⟨7, .data⟩, ⟨8, .data⟩, { on := 16, ground := Ground.gcOnly Departure.lateStores }], none⟩) (v := .pointer (some ⟨kb, j, none⟩)) (Or.inl ⟨by rfl, fun w' hSw => by go_simp; try (intro hcm; exact absurd hcm (by omega))⟩) hHeld ?_
              try simp only [zP, zQ, zS, zZ, zC]
              refine wt (i := 10) (oi := ⟨some 76, .load 3 (.tmp 75), 3, "breaks.go:84", #[⟨9, .data⟩, { on := 16, ground := Ground.gcOnly Departure.lateStores }], none⟩) (v := .int .i64 xk) (Or.inl ⟨by rfl, fun w' hSw => by have hc := CK w' hSw; go_simp⟩) hHeld ?_
              try simp only [zP, zQ, zS, zZ, zC]
              refine wt (i := 11) (oi := ⟨some 77, .load 58 (.tmp 8), 58, "breaks.go:84", #[], none⟩) (v := _) (yieldsIf_load_mid (by rfl) _ _ rfl pb (0) rfl [.slice (some ⟨b, 0, none⟩) (n + 1) (n + 1), .int .i64 bl, .int .i64 wd, .bool false] _ (fun w' hSw => CB w' hSw) Try.underlying58 rfl (by kernel_rfl)) hHeld ?_
              try simp only [zP, zQ, zS, zZ, zC]
              refine wt (i := 12) (oi := ⟨some 78, .move (.tmp 14), 3, "breaks.go:84", #[], none⟩) (v := .int .i64 (k : Int)) (Or.inl ⟨by rfl, fun w' hSw => by go_simp⟩) hHeld ?_
              try simp only [zP, zQ, zS, zZ, zC]
              refine wt (i := 13) (oi := ⟨some 79, .move (.tmp 15), 3, "breaks.go:84", #[], none⟩) (v := .int .i64 (j : Int)) (Or.inl ⟨by rfl, fun w' hSw => by go_simp⟩) hHeld ?_
              try simp only [zP, zQ, zS, zZ, zC]
              refine wpAnyH_ready (rs := [14]) (by kernel_rfl) (by simp) ?_
              refine AllReadyH.cons (o := ⟨some 80, .call { callee := .value (.func 33), args := #[.tmp 77, .tmp 78, .tmp 79], argTypes := #[58, 3, 3] }, 3, "breaks.go:84", #[⟨11, .data⟩, ⟨12, .data⟩, ⟨13, .data⟩], none⟩) rfl (fun K hK => ?_) AllReadyH.nil
              rw [if_pos (by rfl)]
              go_simp
              refine (HC2.out V0 (hS5.keep hHeld)).mono ?_
              rintro en V1 ⟨rfl, hB9⟩
              dsimp only
              refine hK.out _ _ (link hHeld hB9) (fun hHeld => ?_)
              clear hK K
              try simp only [zP, zQ, zS, zZ, zC]
              refine wt (i := 15) (oi := ⟨some 81, .binOp .add 3 (.tmp 76) (.tmp 80) 3, 3, "breaks.go:84", #[⟨10, .data⟩, ⟨14, .data⟩, { on := 16, ground := Ground.gcOnly Departure.lateStores }], none⟩) (v := .int .i64 (xk + pr)) (Or.inl ⟨by rfl, fun w' hSw => by have hw := HWb.out; go_simp⟩) hHeld ?_
              try simp only [zP, zQ, zS, zZ, zC]
              refine wpAnyH_ready (rs := [16]) (by kernel_rfl) (by simp) ?_
              refine AllReadyH.cons (o := ⟨some 16, .assign (.tmp 71), 3, "breaks.go:84", #[⟨5, .data⟩, ⟨14, .chain⟩, ⟨0, .phase⟩, ⟨1, .phase⟩, ⟨2, .phase⟩, ⟨3, .phase⟩, ⟨4, .phase⟩, ⟨5, .phase⟩, { on := 6, ground := Ground.textOnly Departure.lateStores }, { on := 7, ground := Ground.textOnly Departure.lateStores }, { on := 8, ground := Ground.textOnly Departure.lateStores }, { on := 9, ground := Ground.textOnly Departure.lateStores }, { on := 10, ground := Ground.textOnly Departure.lateStores }, { on := 11, ground := Ground.textOnly Departure.lateStores }, { on := 12, ground := Ground.textOnly Departure.lateStores }, { on := 13, ground := Ground.textOnly Departure.lateStores }, { on := 14, ground := Ground.textOnly Departure.lateStoresUnsure }, { on := 15, ground := Ground.textOnly Departure.lateStores }], none⟩) rfl (fun K hK => ?_) AllReadyH.nil
              go_simp
              refine hK.out _ _ (hHeld) (fun hHeld => ?_)
              clear hK K
              try simp only [zP, zQ, zS, zZ, zC]
              refine wpAnyH_ready (rs := [17]) (by kernel_rfl) (by simp) ?_
              refine AllReadyH.cons (o := ⟨some 17, .assign (.tmp 81), 3, "breaks.go:84", #[⟨15, .data⟩, ⟨16, .chain⟩, ⟨0, .phase⟩, ⟨1, .phase⟩, ⟨2, .phase⟩, ⟨3, .phase⟩, ⟨4, .phase⟩, ⟨5, .phase⟩, ⟨6, .phase⟩, ⟨7, .phase⟩, ⟨8, .phase⟩, ⟨9, .phase⟩, ⟨10, .phase⟩, ⟨11, .phase⟩, ⟨12, .phase⟩, ⟨13, .phase⟩, ⟨14, .phase⟩, ⟨15, .phase⟩, ⟨16, .phase⟩], none⟩) rfl (fun K hK => ?_) AllReadyH.nil
              go_simp
              refine hK.out _ _ (hHeld) (fun hHeld => ?_)
              clear hK K
              try simp only [zP, zQ, zS, zZ, zC]
              refine wpAnyH_done (by kernel_rfl) ?_ _
              have hB6 := hHeld
              clear hHeld C1 C2 CL CK CB
              generalize V1 = W6 at hB6 ⊢
              have hX6 := link hX5 hB6
              replace Kl5 := Kl5.keep hB6
              replace Kk5 := Kk5.keep hB6
              replace Kn5 := Kn5.keep hB6
              replace Kc5 := Kc5.keep hB6
              clear hX5 hS5 hB6
              go_upto_region 17 with (fail)
              have C1 : ∀ w', Below W6.heap.size W6 w' → w'.cell? ⟨cb, 1, none⟩ = some (.slice (some ⟨lb, 0, none⟩) m m) := fun w' h => (Kc5.keep h).cell rfl
              have C2 : ∀ w', Below W6.heap.size W6 w' → w'.cell? ⟨cb, 2, none⟩ = some (.slice (some ⟨kb, 0, none⟩) m m) := fun w' h => (Kc5.keep h).cell rfl
              have CL : ∀ w', Below W6.heap.size W6 w' → w'.cell? ⟨lb, k, none⟩ = some (.int .i64 s1) := fun w' h => (Kl5.keep h).cell (iv_get (List.getElem?_set_self (by omega)))
              have CK : ∀ w', Below W6.heap.size W6 w' → w'.cell? ⟨kb, k, none⟩ = some (.int .i64 s2) := fun w' h => (Kk5.keep h).cell (iv_get (List.getElem?_set_self (by omega)))
              have CN : ∀ w', Below W6.heap.size W6 w' → w'.cell? ⟨nb, k, none⟩ = some (.int .i64 (sx : Int)) := fun w' h => (Kn5.keep h).cell (nv_get (List.getElem?_set_self (by omega)))
              obtain ⟨TT, hTT⟩ : ∃ TT, (decide (sx = 0) || better (xl + 1) (xk + pr) s1 s2) = TT := ⟨_, rfl⟩
              have HTT := Lib.hid hTT
              clear hTT
              go_cut [103] from 82 to 104 (fun s103 wx => s103 = .bool TT ∧ Below W6.heap.size W6 wx)
              case first =>
                by_cases hsx : sx = 0
                · have hT : TT = true := by rw [← HTT.out, decide_eq_true hsx, Bool.true_or]
                  subst hsx
                  have CN : ∀ w', Below W6.heap.size W6 w' → w'.cell? ⟨nb, k, none⟩ = some (.int .i64 0) := CN
                  have HT := Lib.hid hT
                  clear hT HTT C1 C2 CL CK
                  refine wp_region_held_drew (S := fun w' => Below W6.heap.size W6 w') (by kernel_rfl) (below_drew (Below.refl _ _)) (fun _ => ?_)
                  have hHeld : Below W6.heap.size W6 W6.drew := below_drew (Below.refl _ _)
                  generalize W6.drew = V0 at hHeld ⊢
                  refine wt (i := 0) (oi := ⟨some 82, .move (.tmp 12), 22, "breaks.go:85", #[], none⟩) (v := .slice (some ⟨nb, 0, none⟩) n n) (Or.inl ⟨by rfl, fun w' hSw => by go_simp⟩) hHeld ?_
                  try simp only [zP, zQ, zS, zZ, zC]
                  refine wt (i := 1) (oi := ⟨some 83, .move (.tmp 14), 3, "breaks.go:85", #[], none⟩) (v := .int .i64 (k : Int)) (Or.inl ⟨by rfl, fun w' hSw => by go_simp⟩) hHeld ?_
                  try simp only [zP, zQ, zS, zZ, zC]
                  refine wt (i := 2) (oi := ⟨some 84, .indexAddr 22 (.tmp 82) (.tmp 83), 0, "breaks.go:85", #[⟨0, .data⟩, ⟨1, .data⟩], none⟩) (v := .pointer (some ⟨nb, k, none⟩)) (Or.inl ⟨by rfl, fun w' hSw => by go_simp; try (intro hcm; exact absurd hcm (by omega))⟩) hHeld ?_
                  try simp only [zP, zQ, zS, zZ, zC]
                  refine wt (i := 3) (oi := ⟨some 85, .load 3 (.tmp 84), 3, "breaks.go:85", #[⟨2, .data⟩], none⟩) (v := .int .i64 0) (Or.inl ⟨by rfl, fun w' hSw => by have hc := CN w' hSw; go_simp⟩) hHeld ?_
                  try simp only [zP, zQ, zS, zZ, zC]
                  refine wt (i := 4) (oi := ⟨some 86, .binOp .eql 3 (.tmp 85) (.const (Value.int IntKind.i64 0)) 3, 4, "breaks.go:85", #[⟨3, .data⟩], none⟩) (v := .bool true) (Or.inl ⟨by rfl, fun w' hSw => by go_simp⟩) hHeld ?_
                  try simp only [zP, zQ, zS, zZ, zC]
                  refine wt (i := 5) (oi := ⟨some 87, .move (.tmp 86), 4, "breaks.go:85", #[⟨4, .data⟩], none⟩) (v := .bool true) (Or.inl ⟨by rfl, fun w' hSw => by go_simp⟩) hHeld ?_
                  try simp only [zP, zQ, zS, zZ, zC]
                  refine wt (i := 6) (oi := ⟨some 88, .move (.tmp 16), 3, "breaks.go:85", #[⟨5, .guard⟩], some (5, false)⟩) (v := undef) (Or.inr ⟨by rfl, rfl⟩) hHeld ?_
                  try simp only [zP, zQ, zS, zZ, zC]
                  refine wt (i := 7) (oi := ⟨some 89, .move (.tmp 17), 3, "breaks.go:85", #[⟨5, .guard⟩], some (5, false)⟩) (v := undef) (Or.inr ⟨by rfl, rfl⟩) hHeld ?_
                  try simp only [zP, zQ, zS, zZ, zC]
                  refine wt (i := 8) (oi := ⟨some 90, .buildSlice 22 2 #[(0, .tmp 88), (1, .tmp 89)], 22, "breaks.go:85", #[⟨6, .data⟩, ⟨7, .data⟩, ⟨5, .guard⟩], some (5, false)⟩) (v := undef) (Or.inr ⟨by rfl, rfl⟩) hHeld ?_
                  try simp only [zP, zQ, zS, zZ, zC]
                  refine wt (i := 9) (oi := ⟨some 91, .fieldAddr 28 (.tmp 11) 1, 0, "breaks.go:85", #[⟨5, .guard⟩], some (5, false)⟩) (v := undef) (Or.inr ⟨by rfl, rfl⟩) hHeld ?_
                  try simp only [zP, zQ, zS, zZ, zC]
                  refine wt (i := 10) (oi := ⟨some 92, .load 22 (.tmp 91), 22, "breaks.go:85", #[⟨9, .data⟩, ⟨5, .guard⟩], some (5, false)⟩) (v := undef) (Or.inr ⟨by rfl, rfl⟩) hHeld ?_
                  try simp only [zP, zQ, zS, zZ, zC]
                  refine wt (i := 11) (oi := ⟨some 93, .move (.tmp 14), 3, "breaks.go:85", #[⟨5, .guard⟩], some (5, false)⟩) (v := undef) (Or.inr ⟨by rfl, rfl⟩) hHeld ?_
                  try simp only [zP, zQ, zS, zZ, zC]
                  refine wt (i := 12) (oi := ⟨some 94, .indexAddr 22 (.tmp 92) (.tmp 93), 0, "breaks.go:85", #[⟨10, .data⟩, ⟨11, .data⟩, ⟨5, .guard⟩], some (5, false)⟩) (v := undef) (Or.inr ⟨by rfl, rfl⟩) hHeld ?_
                  try simp only [zP, zQ, zS, zZ, zC]
                  refine wt (i := 13) (oi := ⟨some 95, .load 3 (.tmp 94), 3, "breaks.go:85", #[⟨12, .data⟩, ⟨5, .guard⟩], some (5, false)⟩) (v := undef) (Or.inr ⟨by rfl, rfl⟩) hHeld ?_
                  try simp only [zP, zQ, zS, zZ, zC]
                  refine wt (i := 14) (oi := ⟨some 96, .fieldAddr 28 (.tmp 11) 2, 0, "breaks.go:85", #[⟨5, .guard⟩], some (5, false)⟩) (v := undef) (Or.inr ⟨by rfl, rfl⟩) hHeld ?_
                  try simp only [zP, zQ, zS, zZ, zC]
                  refine wt (i := 15) (oi := ⟨some 97, .load 22 (.tmp 96), 22, "breaks.go:85", #[⟨14, .data⟩, ⟨5, .guard⟩], some (5, false)⟩) (v := undef) (Or.inr ⟨by rfl, rfl⟩) hHeld ?_
                  try simp only [zP, zQ, zS, zZ, zC]
                  refine wt (i := 16) (oi := ⟨some 98, .move (.tmp 14), 3, "breaks.go:85", #[⟨5, .guard⟩], some (5, false)⟩) (v := undef) (Or.inr ⟨by rfl, rfl⟩) hHeld ?_
                  try simp only [zP, zQ, zS, zZ, zC]
                  refine wt (i := 17) (oi := ⟨some 99, .indexAddr 22 (.tmp 97) (.tmp 98), 0, "breaks.go:85", #[⟨15, .data⟩, ⟨16, .data⟩, ⟨5, .guard⟩], some (5, false)⟩) (v := undef) (Or.inr ⟨by rfl, rfl⟩) hHeld ?_
                  try simp only [zP, zQ, zS, zZ, zC]
                  refine wt (i := 18) (oi := ⟨some 100, .load 3 (.tmp 99), 3, "breaks.go:85", #[⟨17, .data⟩, ⟨5, .guard⟩], some (5, false)⟩) (v := undef) (Or.inr ⟨by rfl, rfl⟩) hHeld ?_
                  try simp only [zP, zQ, zS, zZ, zC]
                  refine wt (i := 19) (oi := ⟨some 101, .buildSlice 22 2 #[(0, .tmp 95), (1, .tmp 100)], 22, "breaks.go:85", #[⟨13, .data⟩, ⟨18, .data⟩, ⟨5, .guard⟩], some (5, false)⟩) (v := undef) (Or.inr ⟨by rfl, rfl⟩) hHeld ?_
                  try simp only [zP, zQ, zS, zZ, zC]
                  refine wt (i := 20) (oi := ⟨some 102, .call { callee := .value (.func 34), args := #[.tmp 90, .tmp 101], argTypes := #[22, 22] }, 4, "breaks.go:85", #[⟨8, .data⟩, ⟨19, .data⟩, ⟨5, .chain⟩, ⟨5, .guard⟩], some (5, false)⟩) (v := undef) (Or.inr ⟨by rfl, rfl⟩) hHeld ?_
                  try simp only [zP, zQ, zS, zZ, zC]
                  refine wt (i := 21) (oi := ⟨some 103, .pick (.tmp 87) (.const (Value.bool true)) (.tmp 102), 4, "breaks.go:85", #[⟨5, .data⟩, ⟨20, .data⟩], none⟩) (v := .bool true) (Or.inl ⟨by rfl, fun w' hSw => by go_simp⟩) hHeld ?_
                  try simp only [zP, zQ, zS, zZ, zC]
                  refine wpAnyH_done (by kernel_rfl) ?_ _
                  have hB8 := hHeld
                  clear hHeld 
                  go_wp2_with fail
                  go_meet
                  exact ⟨by rw [HT.out], hB8⟩
                · have hT : TT = better (xl + 1) (xk + pr) s1 s2 := by rw [← HTT.out, decide_eq_false hsx, Bool.false_or]
                  have hsx : ((sx : Int) == 0) = false := by simp; exact hsx
                  have HT := Lib.hid hT
                  clear hT HTT
                  refine wp_region_held_drew (S := fun w' => Below W6.heap.size W6 w') (by kernel_rfl) (below_drew (Below.refl _ _)) (fun _ => ?_)
                  have hHeld : Below W6.heap.size W6 W6.drew := below_drew (Below.refl _ _)
                  generalize W6.drew = V0 at hHeld ⊢
                  refine wt (i := 0) (oi := ⟨some 82, .move (.tmp 12), 22, "breaks.go:85", #[], none⟩) (v := .slice (some ⟨nb, 0, none⟩) n n) (Or.inl ⟨by rfl, fun w' hSw => by go_simp⟩) hHeld ?_
                  try simp only [zP, zQ, zS, zZ, zC]
                  refine wt (i := 1) (oi := ⟨some 83, .move (.tmp 14), 3, "breaks.go:85", #[], none⟩) (v := .int .i64 (k : Int)) (Or.inl ⟨by rfl, fun w' hSw => by go_simp⟩) hHeld ?_
                  try simp only [zP, zQ, zS, zZ, zC]
                  refine wt (i := 2) (oi := ⟨some 84, .indexAddr 22 (.tmp 82) (.tmp 83), 0, "breaks.go:85", #[⟨0, .data⟩, ⟨1, .data⟩], none⟩) (v := .pointer (some ⟨nb, k, none⟩)) (Or.inl ⟨by rfl, fun w' hSw => by go_simp; try (intro hcm; exact absurd hcm (by omega))⟩) hHeld ?_
                  try simp only [zP, zQ, zS, zZ, zC]
                  refine wt (i := 3) (oi := ⟨some 85, .load 3 (.tmp 84), 3, "breaks.go:85", #[⟨2, .data⟩], none⟩) (v := .int .i64 (sx : Int)) (Or.inl ⟨by rfl, fun w' hSw => by have hc := CN w' hSw; go_simp⟩) hHeld ?_
                  try simp only [zP, zQ, zS, zZ, zC]
                  refine wt (i := 4) (oi := ⟨some 86, .binOp .eql 3 (.tmp 85) (.const (Value.int IntKind.i64 0)) 3, 4, "breaks.go:85", #[⟨3, .data⟩], none⟩) (v := .bool false) (Or.inl ⟨by rfl, fun w' hSw => by have hx := hsx; go_simp⟩) hHeld ?_
                  try simp only [zP, zQ, zS, zZ, zC]
                  refine wt (i := 5) (oi := ⟨some 87, .move (.tmp 86), 4, "breaks.go:85", #[⟨4, .data⟩], none⟩) (v := .bool false) (Or.inl ⟨by rfl, fun w' hSw => by go_simp⟩) hHeld ?_
                  try simp only [zP, zQ, zS, zZ, zC]
                  refine wt (i := 6) (oi := ⟨some 88, .move (.tmp 16), 3, "breaks.go:85", #[⟨5, .guard⟩], some (5, false)⟩) (v := .int .i64 (xl + 1)) (Or.inl ⟨by rfl, fun w' hSw => by go_simp⟩) hHeld ?_
                  try simp only [zP, zQ, zS, zZ, zC]
                  refine wt (i := 7) (oi := ⟨some 89, .move (.tmp 17), 3, "breaks.go:85", #[⟨5, .guard⟩], some (5, false)⟩) (v := .int .i64 (xk + pr)) (Or.inl ⟨by rfl, fun w' hSw => by go_simp⟩) hHeld ?_
                  try simp only [zP, zQ, zS, zZ, zC]
                  refine wt (i := 9) (oi := ⟨some 91, .fieldAddr 28 (.tmp 11) 1, 0, "breaks.go:85", #[⟨5, .guard⟩], some (5, false)⟩) (v := .pointer (some ⟨cb, 1, none⟩)) (Or.inl ⟨by rfl, fun w' hSw => by go_simp⟩) hHeld ?_
                  try simp only [zP, zQ, zS, zZ, zC]
                  refine wt (i := 10) (oi := ⟨some 92, .load 22 (.tmp 91), 22, "breaks.go:85", #[⟨9, .data⟩, ⟨5, .guard⟩], some (5, false)⟩) (v := .slice (some ⟨lb, 0, none⟩) m m) (Or.inl ⟨by rfl, fun w' hSw => by have hc := C1 w' hSw; go_simp⟩) hHeld ?_
                  try simp only [zP, zQ, zS, zZ, zC]
                  refine wt (i := 11) (oi := ⟨some 93, .move (.tmp 14), 3, "breaks.go:85", #[⟨5, .guard⟩], some (5, false)⟩) (v := .int .i64 (k : Int)) (Or.inl ⟨by rfl, fun w' hSw => by go_simp⟩) hHeld ?_
                  try simp only [zP, zQ, zS, zZ, zC]
                  refine wt (i := 12) (oi := ⟨some 94, .indexAddr 22 (.tmp 92) (.tmp 93), 0, "breaks.go:85", #[⟨10, .data⟩, ⟨11, .data⟩, ⟨5, .guard⟩], some (5, false)⟩) (v := .pointer (some ⟨lb, k, none⟩)) (Or.inl ⟨by rfl, fun w' hSw => by go_simp; try (intro hcm; exact absurd hcm (by omega))⟩) hHeld ?_
                  try simp only [zP, zQ, zS, zZ, zC]
                  refine wt (i := 13) (oi := ⟨some 95, .load 3 (.tmp 94), 3, "breaks.go:85", #[⟨12, .data⟩, ⟨5, .guard⟩], some (5, false)⟩) (v := .int .i64 s1) (Or.inl ⟨by rfl, fun w' hSw => by have hc := CL w' hSw; go_simp⟩) hHeld ?_
                  try simp only [zP, zQ, zS, zZ, zC]
                  refine wt (i := 14) (oi := ⟨some 96, .fieldAddr 28 (.tmp 11) 2, 0, "breaks.go:85", #[⟨5, .guard⟩], some (5, false)⟩) (v := .pointer (some ⟨cb, 2, none⟩)) (Or.inl ⟨by rfl, fun w' hSw => by go_simp⟩) hHeld ?_
                  try simp only [zP, zQ, zS, zZ, zC]
                  refine wt (i := 15) (oi := ⟨some 97, .load 22 (.tmp 96), 22, "breaks.go:85", #[⟨14, .data⟩, ⟨5, .guard⟩], some (5, false)⟩) (v := .slice (some ⟨kb, 0, none⟩) m m) (Or.inl ⟨by rfl, fun w' hSw => by have hc := C2 w' hSw; go_simp⟩) hHeld ?_
                  try simp only [zP, zQ, zS, zZ, zC]
                  refine wt (i := 16) (oi := ⟨some 98, .move (.tmp 14), 3, "breaks.go:85", #[⟨5, .guard⟩], some (5, false)⟩) (v := .int .i64 (k : Int)) (Or.inl ⟨by rfl, fun w' hSw => by go_simp⟩) hHeld ?_
                  try simp only [zP, zQ, zS, zZ, zC]
                  refine wt (i := 17) (oi := ⟨some 99, .indexAddr 22 (.tmp 97) (.tmp 98), 0, "breaks.go:85", #[⟨15, .data⟩, ⟨16, .data⟩, ⟨5, .guard⟩], some (5, false)⟩) (v := .pointer (some ⟨kb, k, none⟩)) (Or.inl ⟨by rfl, fun w' hSw => by go_simp; try (intro hcm; exact absurd hcm (by omega))⟩) hHeld ?_
                  try simp only [zP, zQ, zS, zZ, zC]
                  refine wt (i := 18) (oi := ⟨some 100, .load 3 (.tmp 99), 3, "breaks.go:85", #[⟨17, .data⟩, ⟨5, .guard⟩], some (5, false)⟩) (v := .int .i64 s2) (Or.inl ⟨by rfl, fun w' hSw => by have hc := CK w' hSw; go_simp⟩) hHeld ?_
                  try simp only [zP, zQ, zS, zZ, zC]
                  refine wpAnyH_ready (rs := [8, 19]) (by kernel_rfl) (by simp) ?_
                  refine AllReadyH.cons (o := ⟨some 90, .buildSlice 22 2 #[(0, .tmp 88), (1, .tmp 89)], 22, "breaks.go:85", #[⟨6, .data⟩, ⟨7, .data⟩, ⟨5, .guard⟩], some (5, false)⟩) rfl (fun K hK => ?_) (AllReadyH.cons (o := ⟨some 101, .buildSlice 22 2 #[(0, .tmp 95), (1, .tmp 100)], 22, "breaks.go:85", #[⟨13, .data⟩, ⟨18, .data⟩, ⟨5, .guard⟩], some (5, false)⟩) rfl (fun K hK => ?_) AllReadyH.nil)
                  · skip
                    rw [if_pos (by rfl)]
                    go_simp
                    have Kp : Blk (World.alloc V0 (.cells #[.int .i64 (xl + 1), .int .i64 (xk + pr)] 3)) V0.heap.size 3 [.int .i64 (xl + 1), .int .i64 (xk + pr)] := blk_new V0 _ _
                    have X : Below V0.heap.size V0 (World.alloc V0 (.cells #[.int .i64 (xl + 1), .int .i64 (xk + pr)] 3)) := (Below.refl _ _).alloc (Nat.le_refl _) _
                    refine hK.out _ _ (link hHeld X) (fun hHeld => ?_)
                    clear hK K
                    try simp only [zP, zQ, zS, zZ, zC]
                    clear X
                    generalize World.alloc V0 _ = V1 at Kp hHeld ⊢
                    generalize V0.heap.size = pb at Kp ⊢
                    refine wpAnyH_ready (rs := [19]) (by kernel_rfl) (by simp) ?_
                    refine AllReadyH.cons (o := ⟨some 101, .buildSlice 22 2 #[(0, .tmp 95), (1, .tmp 100)], 22, "breaks.go:85", #[⟨13, .data⟩, ⟨18, .data⟩, ⟨5, .guard⟩], some (5, false)⟩) rfl (fun K hK => ?_) AllReadyH.nil
                    rw [if_pos (by rfl)]
                    go_simp
                    have Kq : Blk (World.alloc V1 (.cells #[.int .i64 s1, .int .i64 s2] 3)) V1.heap.size 3 [.int .i64 s1, .int .i64 s2] := blk_new V1 _ _
                    have X : Below V1.heap.size V1 (World.alloc V1 (.cells #[.int .i64 s1, .int .i64 s2] 3)) := (Below.refl _ _).alloc (Nat.le_refl _) _
                    replace Kp := Kp.keep X
                    refine hK.out _ _ (link hHeld X) (fun hHeld => ?_)
                    clear hK K
                    try simp only [zP, zQ, zS, zZ, zC]
                    clear X
                    generalize World.alloc V1 _ = V2 at Kq Kp hHeld ⊢
                    generalize V1.heap.size = qb at Kq ⊢
                    refine wpAnyH_ready (rs := [20]) (by kernel_rfl) (by simp) ?_
                    refine AllReadyH.cons (o := ⟨some 102, .call { callee := .value (.func 34), args := #[.tmp 90, .tmp 101], argTypes := #[22, 22] }, 4, "breaks.go:85", #[⟨8, .data⟩, ⟨19, .data⟩, ⟨5, .chain⟩, ⟨5, .guard⟩], some (5, false)⟩) rfl (fun K hK => ?_) AllReadyH.nil
                    rw [if_pos (by rfl)]
                    go_simp
                    refine (better_any _ _ _ _ (xl + 1) (xk + pr) s1 s2 V2 Kp.lt Kq.lt (Kp.cell (j := 0) rfl) (Kp.cell (j := 1) rfl) (Kq.cell (j := 0) rfl) (Kq.cell (j := 1) rfl)).mono ?_
                    rintro en V3 ⟨rfl, hB9⟩
                    dsimp only
                    refine hK.out _ _ (link hHeld hB9) (fun hHeld => ?_)
                    clear hK K
                    try simp only [zP, zQ, zS, zZ, zC]
                    refine wt (i := 21) (oi := ⟨some 103, .pick (.tmp 87) (.const (Value.bool true)) (.tmp 102), 4, "breaks.go:85", #[⟨5, .data⟩, ⟨20, .data⟩], none⟩) (v := .bool (better (xl + 1) (xk + pr) s1 s2)) (Or.inl ⟨by rfl, fun w' hSw => by go_simp⟩) hHeld ?_
                    try simp only [zP, zQ, zS, zZ, zC]
                    refine wpAnyH_done (by kernel_rfl) ?_ _
                    go_wp2_with fail
                    go_meet
                    exact ⟨by rw [HT.out], hHeld⟩
                  · skip
                    rw [if_pos (by rfl)]
                    go_simp
                    have Kq : Blk (World.alloc V0 (.cells #[.int .i64 s1, .int .i64 s2] 3)) V0.heap.size 3 [.int .i64 s1, .int .i64 s2] := blk_new V0 _ _
                    have X : Below V0.heap.size V0 (World.alloc V0 (.cells #[.int .i64 s1, .int .i64 s2] 3)) := (Below.refl _ _).alloc (Nat.le_refl _) _
                    refine hK.out _ _ (link hHeld X) (fun hHeld => ?_)
                    clear hK K
                    try simp only [zP, zQ, zS, zZ, zC]
                    clear X
                    generalize World.alloc V0 _ = V1 at Kq hHeld ⊢
                    generalize V0.heap.size = qb at Kq ⊢
                    refine wpAnyH_ready (rs := [8]) (by kernel_rfl) (by simp) ?_
                    refine AllReadyH.cons (o := ⟨some 90, .buildSlice 22 2 #[(0, .tmp 88), (1, .tmp 89)], 22, "breaks.go:85", #[⟨6, .data⟩, ⟨7, .data⟩, ⟨5, .guard⟩], some (5, false)⟩) rfl (fun K hK => ?_) AllReadyH.nil
                    rw [if_pos (by rfl)]
                    go_simp
                    have Kp : Blk (World.alloc V1 (.cells #[.int .i64 (xl + 1), .int .i64 (xk + pr)] 3)) V1.heap.size 3 [.int .i64 (xl + 1), .int .i64 (xk + pr)] := blk_new V1 _ _
                    have X : Below V1.heap.size V1 (World.alloc V1 (.cells #[.int .i64 (xl + 1), .int .i64 (xk + pr)] 3)) := (Below.refl _ _).alloc (Nat.le_refl _) _
                    replace Kq := Kq.keep X
                    refine hK.out _ _ (link hHeld X) (fun hHeld => ?_)
                    clear hK K
                    try simp only [zP, zQ, zS, zZ, zC]
                    clear X
                    generalize World.alloc V1 _ = V2 at Kp Kq hHeld ⊢
                    generalize V1.heap.size = pb at Kp ⊢
                    refine wpAnyH_ready (rs := [20]) (by kernel_rfl) (by simp) ?_
                    refine AllReadyH.cons (o := ⟨some 102, .call { callee := .value (.func 34), args := #[.tmp 90, .tmp 101], argTypes := #[22, 22] }, 4, "breaks.go:85", #[⟨8, .data⟩, ⟨19, .data⟩, ⟨5, .chain⟩, ⟨5, .guard⟩], some (5, false)⟩) rfl (fun K hK => ?_) AllReadyH.nil
                    rw [if_pos (by rfl)]
                    go_simp
                    refine (better_any _ _ _ _ (xl + 1) (xk + pr) s1 s2 V2 Kp.lt Kq.lt (Kp.cell (j := 0) rfl) (Kp.cell (j := 1) rfl) (Kq.cell (j := 0) rfl) (Kq.cell (j := 1) rfl)).mono ?_
                    rintro en V3 ⟨rfl, hB9⟩
                    dsimp only
                    refine hK.out _ _ (link hHeld hB9) (fun hHeld => ?_)
                    clear hK K
                    try simp only [zP, zQ, zS, zZ, zC]
                    refine wt (i := 21) (oi := ⟨some 103, .pick (.tmp 87) (.const (Value.bool true)) (.tmp 102), 4, "breaks.go:85", #[⟨5, .data⟩, ⟨20, .data⟩], none⟩) (v := .bool (better (xl + 1) (xk + pr) s1 s2)) (Or.inl ⟨by rfl, fun w' hSw => by go_simp⟩) hHeld ?_
                    try simp only [zP, zQ, zS, zZ, zC]
                    refine wpAnyH_done (by kernel_rfl) ?_ _
                    go_wp2_with fail
                    go_meet
                    exact ⟨by rw [HT.out], hHeld⟩
              case rest =>
                obtain ⟨rfl, hB7⟩ := hcut
                generalize wc = W7 at *
                have hX7 := link hX6 hB7
                have Kl7 := Kl5.keep hB7
                have Kk7 := Kk5.keep hB7
                have Kn7 := Kn5.keep hB7
                have Kc7 := Kc5.keep hB7
                clear hX6 hB7 Kl5 Kk5 Kn5 Kc5 C1 C2 CL CK CN
                rcases TT with _ | _
                · have HS2 := Lib.hid (show dpIn (frT l bl wd k) (prT l bl wd k) (fun j => L.getD j 0) (fun j => C.getD j 0) n (n + 1 - (j + 1)) (j + 1) (s1, s2, sx) = R from by rw [← HSt.out]; unfold stepT; rw [if_neg (by rw [HTT.out]; simp)])
                  go_wp2
                  exact ⟨⟨j + 1, s1, s2, sx, by go_num, by omega, by omega, HS2.out, HSm.out, hsx0, Kl7, Kk7, Kn7, Kc7, hX7⟩, by simp [intOf]; omega⟩
                · have HS2 := Lib.hid (show dpIn (frT l bl wd k) (prT l bl wd k) (fun j => L.getD j 0) (fun j => C.getD j 0) n (n + 1 - (j + 1)) (j + 1) (xl + 1, xk + pr, j) = R from by rw [← HSt.out]; unfold stepT; rw [if_pos HTT.out])
                  have hcelllb : ∃ yv, (iv (L.set k s1))[k]? = some yv := ⟨_, iv_get (List.getElem?_set_self (by omega))⟩
                  have hcellkb : ∃ yv, (iv (C.set k s2))[k]? = some yv := ⟨_, iv_get (List.getElem?_set_self (by omega))⟩
                  have hcellnb : ∃ yv, (nv (N.set k sx))[k]? = some yv := ⟨_, nv_get (List.getElem?_set_self (by omega))⟩
                  go_upto_region 18 with (fail)
                  refine wp_region_held_drew (S := fun w' => Blk w' cb 28 [.slice none 0 0, .slice (some ⟨lb, 0, none⟩) m m, .slice (some ⟨kb, 0, none⟩) m m]) (by kernel_rfl) (Kc7.drew) (fun _ => ?_)
                  have hHeld : Blk W7.drew cb 28 [.slice none 0 0, .slice (some ⟨lb, 0, none⟩) m m, .slice (some ⟨kb, 0, none⟩) m m] := Kc7.drew
                  replace Kl7 : Blk W7.drew lb 3 (iv (L.set k s1)) := Kl7
                  replace Kk7 : Blk W7.drew kb 3 (iv (C.set k s2)) := Kk7
                  replace Kn7 : Blk W7.drew nb 3 (nv (N.set k sx)) := Kn7
                  replace hX7 := below_drew hX7
                  generalize W7.drew = V0 at hHeld Kl7 Kk7 Kn7 hX7 ⊢
                  refine wt (i := 0) (oi := ⟨some 104, .fieldAddr 28 (.tmp 11) 1, 0, "breaks.go:86", #[], none⟩) (v := .pointer (some ⟨cb, 1, none⟩)) (Or.inl ⟨by rfl, fun w' hSw => by go_simp⟩) hHeld ?_
                  try simp only [zP, zQ, zS, zZ, zC]
                  refine wt (i := 1) (oi := ⟨some 105, .load 22 (.tmp 104), 22, "breaks.go:86", #[⟨0, .data⟩], none⟩) (v := .slice (some ⟨lb, 0, none⟩) m m) (Or.inl ⟨by rfl, fun w' hSw => by have hc := hSw.cell (j := 1) rfl; go_simp⟩) hHeld ?_
                  try simp only [zP, zQ, zS, zZ, zC]
                  refine wt (i := 2) (oi := ⟨some 106, .move (.tmp 14), 3, "breaks.go:86", #[], none⟩) (v := .int .i64 (k : Int)) (Or.inl ⟨by rfl, fun w' hSw => by go_simp⟩) hHeld ?_
                  try simp only [zP, zQ, zS, zZ, zC]
                  refine wt (i := 3) (oi := ⟨some 107, .fieldAddr 28 (.tmp 11) 2, 0, "breaks.go:86", #[{ on := 12, ground := Ground.gcOnly Departure.lateStores }], none⟩) (v := .pointer (some ⟨cb, 2, none⟩)) (Or.inl ⟨by rfl, fun w' hSw => by go_simp⟩) hHeld ?_
                  try simp only [zP, zQ, zS, zZ, zC]
                  refine wt (i := 4) (oi := ⟨some 108, .load 22 (.tmp 107), 22, "breaks.go:86", #[⟨3, .data⟩, { on := 12, ground := Ground.gcOnly Departure.lateStores }], none⟩) (v := .slice (some ⟨kb, 0, none⟩) m m) (Or.inl ⟨by rfl, fun w' hSw => by have hc := hSw.cell (j := 2) rfl; go_simp⟩) hHeld ?_
                  try simp only [zP, zQ, zS, zZ, zC]
                  refine wt (i := 5) (oi := ⟨some 109, .move (.tmp 14), 3, "breaks.go:86", #[{ on := 12, ground := Ground.gcOnly Departure.lateStores }], none⟩) (v := .int .i64 (k : Int)) (Or.inl ⟨by rfl, fun w' hSw => by go_simp⟩) hHeld ?_
                  try simp only [zP, zQ, zS, zZ, zC]
                  refine wt (i := 6) (oi := ⟨some 110, .move (.tmp 12), 22, "breaks.go:86", #[{ on := 14, ground := Ground.gcOnly Departure.lateStores }], none⟩) (v := .slice (some ⟨nb, 0, none⟩) n n) (Or.inl ⟨by rfl, fun w' hSw => by go_simp⟩) hHeld ?_
                  try simp only [zP, zQ, zS, zZ, zC]
                  refine wt (i := 7) (oi := ⟨some 111, .move (.tmp 14), 3, "breaks.go:86", #[{ on := 14, ground := Ground.gcOnly Departure.lateStores }], none⟩) (v := .int .i64 (k : Int)) (Or.inl ⟨by rfl, fun w' hSw => by go_simp⟩) hHeld ?_
                  try simp only [zP, zQ, zS, zZ, zC]
                  refine wt (i := 8) (oi := ⟨some 112, .move (.tmp 16), 3, "breaks.go:86", #[], none⟩) (v := .int .i64 (xl + 1)) (Or.inl ⟨by rfl, fun w' hSw => by go_simp⟩) hHeld ?_
                  try simp only [zP, zQ, zS, zZ, zC]
                  refine wt (i := 9) (oi := ⟨some 113, .move (.tmp 17), 3, "breaks.go:86", #[{ on := 12, ground := Ground.gcOnly Departure.lateStores }], none⟩) (v := .int .i64 (xk + pr)) (Or.inl ⟨by rfl, fun w' hSw => by go_simp⟩) hHeld ?_
                  try simp only [zP, zQ, zS, zZ, zC]
                  refine wt (i := 10) (oi := ⟨some 114, .move (.tmp 15), 3, "breaks.go:86", #[{ on := 14, ground := Ground.gcOnly Departure.lateStores }], none⟩) (v := .int .i64 (j : Int)) (Or.inl ⟨by rfl, fun w' hSw => by go_simp⟩) hHeld ?_
                  try simp only [zP, zQ, zS, zZ, zC]
                  refine wt (i := 11) (oi := ⟨some 115, .indexAddr 22 (.tmp 105) (.tmp 106), 0, "breaks.go:86", #[⟨1, .data⟩, ⟨2, .data⟩, ⟨0, .phase⟩, ⟨1, .phase⟩, ⟨2, .phase⟩, { on := 3, ground := Ground.textOnly Departure.lateStores }, { on := 4, ground := Ground.textOnly Departure.lateStores }, { on := 5, ground := Ground.textOnly Departure.lateStores }, { on := 6, ground := Ground.textOnly Departure.lateStores }, { on := 7, ground := Ground.textOnly Departure.lateStores }, ⟨8, .phase⟩, { on := 9, ground := Ground.textOnly Departure.lateStores }, { on := 10, ground := Ground.textOnly Departure.lateStores }], none⟩) (v := .pointer (some ⟨lb, k, none⟩)) (Or.inl ⟨by rfl, fun w' hSw => by go_simp; try (intro hcm; exact absurd hcm (by omega))⟩) hHeld ?_
                  try simp only [zP, zQ, zS, zZ, zC]
                  obtain ⟨yv, hyv⟩ := hcelllb
                  have hcq := Kl7.cell hyv
                  have hfq := Kl7.free k
                  refine wpAnyH_ready (rs := [12]) (by kernel_rfl) (by simp) ?_
                  refine AllReadyH.cons (o := ⟨none, .store 3 (.tmp 115) (.tmp 112), 0, "breaks.go:86", #[⟨11, .data⟩, ⟨8, .data⟩, ⟨0, .phase⟩, ⟨1, .phase⟩, ⟨2, .phase⟩, { on := 3, ground := Ground.textOnly Departure.lateStores }, { on := 4, ground := Ground.textOnly Departure.lateStores }, { on := 5, ground := Ground.textOnly Departure.lateStores }, { on := 6, ground := Ground.textOnly Departure.lateStores }, { on := 7, ground := Ground.textOnly Departure.lateStores }, ⟨8, .phase⟩, { on := 9, ground := Ground.textOnly Departure.lateStores }, { on := 10, ground := Ground.textOnly Departure.lateStores }], none⟩) rfl (fun K hK => ?_) AllReadyH.nil
                  rw [if_pos (by rfl)]
                  go_simp
                  have hNlb := Kl7.set k (.int .i64 (xl + 1))
                  replace Kk7 := Kk7.other (a := ⟨lb, k, none⟩) nlk.symm (.int .i64 (xl + 1))
                  replace Kn7 := Kn7.other (a := ⟨lb, k, none⟩) nln.symm (.int .i64 (xl + 1))
                  replace hX7 : Below W0.heap.size W0 (V0.setCell ⟨lb, k, none⟩ (.int .i64 (xl + 1))) := hX7.setCell hlb _
                  refine hK.out _ _ (hHeld.other (a := ⟨lb, k, none⟩) nlc.symm (.int .i64 (xl + 1))) (fun hHeld => ?_)
                  clear hK K
                  try simp only [zP, zQ, zS, zZ, zC]
                  generalize World.setCell V0 ⟨lb, k, none⟩ (.int .i64 (xl + 1)) = V1 at hHeld hX7 hNlb Kk7 Kn7 ⊢
                  clear hcq hfq hyv
                  refine wt (i := 13) (oi := ⟨some 116, .indexAddr 22 (.tmp 108) (.tmp 109), 0, "breaks.go:86", #[⟨4, .data⟩, ⟨5, .data⟩, ⟨0, .phase⟩, ⟨1, .phase⟩, ⟨2, .phase⟩, ⟨3, .phase⟩, ⟨4, .phase⟩, ⟨5, .phase⟩, { on := 6, ground := Ground.textOnly Departure.lateStores }, { on := 7, ground := Ground.textOnly Departure.lateStores }, ⟨8, .phase⟩, ⟨9, .phase⟩, { on := 10, ground := Ground.textOnly Departure.lateStores }, ⟨11, .phase⟩, ⟨12, .phase⟩], none⟩) (v := .pointer (some ⟨kb, k, none⟩)) (Or.inl ⟨by rfl, fun w' hSw => by go_simp; try (intro hcm; exact absurd hcm (by omega))⟩) hHeld ?_
                  try simp only [zP, zQ, zS, zZ, zC]
                  obtain ⟨yv, hyv⟩ := hcellkb
                  have hcq := Kk7.cell hyv
                  have hfq := Kk7.free k
                  refine wpAnyH_ready (rs := [14]) (by kernel_rfl) (by simp) ?_
                  refine AllReadyH.cons (o := ⟨none, .store 3 (.tmp 116) (.tmp 113), 0, "breaks.go:86", #[⟨13, .data⟩, ⟨9, .data⟩, ⟨12, .chain⟩, ⟨0, .phase⟩, ⟨1, .phase⟩, ⟨2, .phase⟩, ⟨3, .phase⟩, ⟨4, .phase⟩, ⟨5, .phase⟩, { on := 6, ground := Ground.textOnly Departure.lateStores }, { on := 7, ground := Ground.textOnly Departure.lateStores }, ⟨8, .phase⟩, ⟨9, .phase⟩, { on := 10, ground := Ground.textOnly Departure.lateStores }, ⟨11, .phase⟩, ⟨12, .phase⟩], none⟩) rfl (fun K hK => ?_) AllReadyH.nil
                  rw [if_pos (by rfl)]
                  go_simp
                  have hNkb := Kk7.set k (.int .i64 (xk + pr))
                  replace hNlb := hNlb.other (a := ⟨kb, k, none⟩) nlk (.int .i64 (xk + pr))
                  replace Kn7 := Kn7.other (a := ⟨kb, k, none⟩) nkn.symm (.int .i64 (xk + pr))
                  replace hX7 : Below W0.heap.size W0 (V1.setCell ⟨kb, k, none⟩ (.int .i64 (xk + pr))) := hX7.setCell hkb _
                  refine hK.out _ _ (hHeld.other (a := ⟨kb, k, none⟩) nkc.symm (.int .i64 (xk + pr))) (fun hHeld => ?_)
                  clear hK K
                  try simp only [zP, zQ, zS, zZ, zC]
                  generalize World.setCell V1 ⟨kb, k, none⟩ (.int .i64 (xk + pr)) = V2 at hHeld hX7 hNkb hNlb Kn7 ⊢
                  clear hcq hfq hyv
                  refine wt (i := 15) (oi := ⟨some 117, .indexAddr 22 (.tmp 110) (.tmp 111), 0, "breaks.go:86", #[⟨6, .data⟩, ⟨7, .data⟩, ⟨0, .phase⟩, ⟨1, .phase⟩, ⟨2, .phase⟩, ⟨3, .phase⟩, ⟨4, .phase⟩, ⟨5, .phase⟩, ⟨6, .phase⟩, ⟨7, .phase⟩, ⟨8, .phase⟩, ⟨9, .phase⟩, ⟨10, .phase⟩, ⟨11, .phase⟩, ⟨12, .phase⟩, ⟨13, .phase⟩, ⟨14, .phase⟩], none⟩) (v := .pointer (some ⟨nb, k, none⟩)) (Or.inl ⟨by rfl, fun w' hSw => by go_simp; try (intro hcm; exact absurd hcm (by omega))⟩) hHeld ?_
                  try simp only [zP, zQ, zS, zZ, zC]
                  obtain ⟨yv, hyv⟩ := hcellnb
                  have hcq := Kn7.cell hyv
                  have hfq := Kn7.free k
                  refine wpAnyH_ready (rs := [16]) (by kernel_rfl) (by simp) ?_
                  refine AllReadyH.cons (o := ⟨none, .store 3 (.tmp 117) (.tmp 114), 0, "breaks.go:86", #[⟨15, .data⟩, ⟨10, .data⟩, ⟨14, .chain⟩, ⟨0, .phase⟩, ⟨1, .phase⟩, ⟨2, .phase⟩, ⟨3, .phase⟩, ⟨4, .phase⟩, ⟨5, .phase⟩, ⟨6, .phase⟩, ⟨7, .phase⟩, ⟨8, .phase⟩, ⟨9, .phase⟩, ⟨10, .phase⟩, ⟨11, .phase⟩, ⟨12, .phase⟩, ⟨13, .phase⟩, ⟨14, .phase⟩], none⟩) rfl (fun K hK => ?_) AllReadyH.nil
                  rw [if_pos (by rfl)]
                  go_simp
                  have hNnb := Kn7.set k (.int .i64 (j : Int))
                  replace hNlb := hNlb.other (a := ⟨nb, k, none⟩) nln (.int .i64 (j : Int))
                  replace hNkb := hNkb.other (a := ⟨nb, k, none⟩) nkn (.int .i64 (j : Int))
                  replace hX7 : Below W0.heap.size W0 (V2.setCell ⟨nb, k, none⟩ (.int .i64 (j : Int))) := hX7.setCell hnbw _
                  refine hK.out _ _ (hHeld.other (a := ⟨nb, k, none⟩) nnc.symm (.int .i64 (j : Int))) (fun hHeld => ?_)
                  clear hK K
                  try simp only [zP, zQ, zS, zZ, zC]
                  generalize World.setCell V2 ⟨nb, k, none⟩ (.int .i64 (j : Int)) = V3 at hHeld hX7 hNnb hNlb hNkb ⊢
                  clear hcq hfq hyv
                  refine wpAnyH_done (by kernel_rfl) ?_ _
                  rw [iv_set, List.set_set] at hNlb hNkb
                  rw [nv_set, List.set_set] at hNnb
                  have Kc8 := hHeld
                  clear hHeld
                  go_wp2
                  exact ⟨⟨j + 1, xl + 1, xk + pr, j, by go_num, by omega, by omega, HS2.out, HSn.out, Or.inr ⟨hkj, hjn⟩, hNlb, hNkb, hNnb, Kc8, hX7⟩, by simp [intOf]; omega⟩
      · obtain rfl : t = n := by omega
        rw [Nat.sub_self] at hG hOut
        have HFT2 := Lib.hid (show fillT l bl wd = (L, C, N) from hOut.symm)
        have hN := hG.2.2.2.2
        have hN : ∀ j, j < t → j < N.getD j 0 ∧ N.getD j 0 ≤ t := fun j hj => hN j (Nat.zero_le _) hj
        have g1 : L.length = t + 1 := hG.1
        have g2 : C.length = t + 1 := hG.2.1
        have g3 : N.length = t := hG.2.2.1
        have HN := Lib.hid hN
        have hlt : ¬ t < t := by omega
        clear hG hFresh hOut hN
        go_wp2
        go_loopw [18] (fun v wr => EnRel (endsT N t t 0) L C N t m lb kb nb cb W0 v wr) (fun v _ => t - (intOf v).toNat)
        case atStart =>
          have ob : ∀ x : Nat, Value.ownBlock (.slice none ([] : List Int).length 0) ≠ some x := fun x h => (by cases h)
          exact ⟨0, [], none, 0, rfl, Nat.zero_le _, rfl, Nat.le_refl _, OwnR.nil _ _ _, ob lb, ob kb, ob nb, ob cb, Kl, Kk, Kn, Kc, hX⟩
        case round =>
          clear Kl Kk Kn Kc hX
          obtain ⟨k, acc, q, ce, rfl, hk, hE, hal, hO, ol, ok, on, oc, Kl, Kk, Kn, Kc, hX⟩ := hrel
          rcases Nat.lt_or_ge k t with hlt | hge
          · obtain ⟨x, hx⟩ : ∃ x, N[k]? = some x := ⟨_, List.getElem?_eq_getElem (by omega)⟩
            have dx : N.getD k 0 = x := by rw [List.getD_eq_getElem?_getD, hx]; rfl
            obtain ⟨hx1, hx2⟩ := HN.out k hlt
            rw [dx] at hx1 hx2
            have hxc : (nv N)[k]? = some (.int .i64 (x : Int)) := nv_get hx
            have HEn := Lib.hid (show (acc ++ [(x : Int)]) ++ endsT N t t x = endsT N t t 0 from by rw [← hE, endsT_next HN.out hlt, dx, List.append_assoc]; rfl)
            clear hE dx hx
            go_upto_region 23 with (fail)
            refine wp_region_held_drew (S := fun w' => Blk w' nb 3 (nv N)) (by kernel_rfl) (Kn.drew) (fun _ => ?_)
            have hHeld : Blk wr.drew nb 3 (nv N) := Kn.drew
            replace Kl : Blk wr.drew lb 3 (iv L) := Kl
            replace Kk : Blk wr.drew kb 3 (iv C) := Kk
            replace Kc : Blk wr.drew cb 28 [.slice q acc.length ce, .slice (some ⟨lb, 0, none⟩) m m, .slice (some ⟨kb, 0, none⟩) m m] := Kc
            replace hO : OwnR intE wr.drew W0.heap.size (.slice q acc.length ce) acc := hO
            replace hX := below_drew hX
            generalize wr.drew = V0 at hHeld Kl Kk Kc hO hX ⊢
            refine wt (i := 0) (oi := ⟨some 126, .fieldAddr 28 (.tmp 11) 0, 0, "breaks.go:91", #[], none⟩) (v := .pointer (some ⟨cb, 0, none⟩)) (Or.inl ⟨by rfl, fun w' hSw => by go_simp⟩) hHeld ?_
            try simp only [zP, zQ, zS, zZ, zC]
            refine wt (i := 2) (oi := ⟨some 128, .move (.tmp 12), 22, "breaks.go:91", #[], none⟩) (v := .slice (some ⟨nb, 0, none⟩) t t) (Or.inl ⟨by rfl, fun w' hSw => by go_simp⟩) hHeld ?_
            try simp only [zP, zQ, zS, zZ, zC]
            refine wt (i := 3) (oi := ⟨some 129, .move (.tmp 18), 3, "breaks.go:91", #[], none⟩) (v := .int .i64 (k : Int)) (Or.inl ⟨by rfl, fun w' hSw => by go_simp⟩) hHeld ?_
            try simp only [zP, zQ, zS, zZ, zC]
            refine wt (i := 4) (oi := ⟨some 130, .indexAddr 22 (.tmp 128) (.tmp 129), 0, "breaks.go:91", #[⟨2, .data⟩, ⟨3, .data⟩], none⟩) (v := .pointer (some ⟨nb, k, none⟩)) (Or.inl ⟨by rfl, fun w' hSw => by go_simp; try (intro hcm; exact absurd hcm (by omega))⟩) hHeld ?_
            try simp only [zP, zQ, zS, zZ, zC]
            refine wt (i := 5) (oi := ⟨some 131, .load 3 (.tmp 130), 3, "breaks.go:91", #[⟨4, .data⟩], none⟩) (v := .int .i64 (x : Int)) (Or.inl ⟨by rfl, fun w' hSw => by have hc := hSw.cell hxc; go_simp⟩) hHeld ?_
            try simp only [zP, zQ, zS, zZ, zC]
            have hz0 : W0.heap.size ≤ V0.heap.size := hX.size
            have hltc := Kc.lt
            have hltl := Kl.lt
            have hltk := Kk.lt
            have hltn := hHeld.lt
            have Kc0 := Kc
            have Kn0 := hHeld
            refine wpAnyH_ready (rs := [1, 6]) (by kernel_rfl) (by simp) ?_
            refine AllReadyH.cons (o := ⟨some 127, .load 22 (.tmp 126), 22, "breaks.go:91", #[⟨0, .data⟩], none⟩) rfl (fun K hK => ?_) (AllReadyH.cons (o := ⟨some 132, .buildSlice 22 1 #[(0, .tmp 131)], 22, "breaks.go:91", #[⟨5, .data⟩], none⟩) rfl (fun K hK => ?_) AllReadyH.nil)
            · skip
              rw [if_pos (by rfl)]
              have hc0 := Kc.cell (j := 0) rfl
              go_simp
              clear hc0
              refine hK.out _ _ (hHeld) (fun hHeld => ?_)
              clear hK K
              try simp only [zP, zQ, zS, zZ, zC]
              refine wpAnyH_ready (rs := [6]) (by kernel_rfl) (by simp) ?_
              refine AllReadyH.cons (o := ⟨some 132, .buildSlice 22 1 #[(0, .tmp 131)], 22, "breaks.go:91", #[⟨5, .data⟩], none⟩) rfl (fun K hK => ?_) AllReadyH.nil
              rw [if_pos (by rfl)]
              go_simp
              have X : Below V0.heap.size V0 (World.alloc V0 (.cells #[.int .i64 (x : Int)] 3)) := (Below.refl _ _).alloc (Nat.le_refl _) _
              replace Kc := Kc.keep X
              refine hK.out _ _ (hHeld.keep X) (fun hHeld => ?_)
              clear hK K
              try simp only [zP, zQ, zS, zZ, zC]
              refine wpAnyH_ready (rs := [7]) (by kernel_rfl) (by simp) ?_
              refine AllReadyH.cons (o := ⟨some 133, .call { callee := .builtin .append, args := #[.tmp 127, .tmp 132], argTypes := #[22, 22] }, 22, "breaks.go:91", #[⟨1, .data⟩, ⟨6, .data⟩], none⟩) rfl (fun K hK => ?_) AllReadyH.nil
              rw [if_pos (by rfl)]
              refine push_at intE (w := V0) (.tmp 127) (.tmp 132) rfl acc (x : Int) _ rfl hO hz0 _ rfl _ rfl (by omega) ?_
              intro v4 V2 hO4 hB4 hR4 hat
              obtain ⟨q4, c4, rfl, _, _, _, _⟩ := hO4.form
              obtain ⟨m4, hm4⟩ : ∃ m4, (acc ++ [(x : Int)]).length = m4 := ⟨_, rfl⟩
              rw [hm4] at hO4 hat ⊢
              have HM4 := Lib.hid hm4
              have hm5 : m4 = acc.length + 1 := by rw [← hm4]; simp
              have HM5 := Lib.hid hm5
              clear hm4 hm5
              have Kl4 := hR4 lb _ _ ol Kl
              have Kk4 := hR4 kb _ _ ok Kk
              have Kc4 : Blk V2 cb 28 [.slice q acc.length ce, .slice (some ⟨lb, 0, none⟩) m m, .slice (some ⟨kb, 0, none⟩) m m] := hR4 cb _ _ oc Kc0
              have hX4 := hX.trans hB4
              have lb4 : Value.ownBlock (.slice q4 m4 c4) ≠ some lb := by rcases hat with e | e; (rw [e]; exact ol); (rw [e]; intro h; injection h with h; omega)
              have kb4 : Value.ownBlock (.slice q4 m4 c4) ≠ some kb := by rcases hat with e | e; (rw [e]; exact ok); (rw [e]; intro h; injection h with h; omega)
              have nb4 : Value.ownBlock (.slice q4 m4 c4) ≠ some nb := by rcases hat with e | e; (rw [e]; exact on); (rw [e]; intro h; injection h with h; omega)
              have cb4 : Value.ownBlock (.slice q4 m4 c4) ≠ some cb := by rcases hat with e | e; (rw [e]; exact oc); (rw [e]; intro h; injection h with h; omega)
              refine hK.out _ _ (hR4 nb _ _ on Kn0) (fun hHeld => ?_)
              clear hK K
              try simp only [zP, zQ, zS, zZ, zC]
              refine wt (i := 8) (oi := ⟨some 134, .fieldAddr 28 (.tmp 11) 0, 0, "breaks.go:91", #[⟨0, .phase⟩, ⟨1, .phase⟩, ⟨2, .phase⟩, ⟨3, .phase⟩, ⟨4, .phase⟩, ⟨5, .phase⟩, ⟨6, .phase⟩, ⟨7, .phase⟩], none⟩) (v := .pointer (some ⟨cb, 0, none⟩)) (Or.inl ⟨by rfl, fun w' hSw => by go_simp⟩) hHeld ?_
              try simp only [zP, zQ, zS, zZ, zC]
              have hcq := Kc4.cell (j := 0) rfl
              have hfq := Kc4.free 0
              refine wpAnyH_ready (rs := [9]) (by kernel_rfl) (by simp) ?_
              refine AllReadyH.cons (o := ⟨none, .store 22 (.tmp 134) (.tmp 133), 0, "breaks.go:91", #[⟨8, .data⟩, ⟨7, .data⟩, ⟨7, .chain⟩, ⟨0, .phase⟩, ⟨1, .phase⟩, ⟨2, .phase⟩, ⟨3, .phase⟩, ⟨4, .phase⟩, ⟨5, .phase⟩, ⟨6, .phase⟩, ⟨7, .phase⟩], none⟩) rfl (fun K hK => ?_) AllReadyH.nil
              rw [if_pos (by rfl)]
              go_simp
              have Kc5 := Kc4.set 0 (.slice q4 m4 c4)
              have Kl5 := Kl4.other (a := ⟨cb, 0, none⟩) nlc (.slice q4 m4 c4)
              have Kk5 := Kk4.other (a := ⟨cb, 0, none⟩) nkc (.slice q4 m4 c4)
              have hO5 := hO4.only (only_set cb 0 V2 (.slice q4 m4 c4)) cb4
              have hX5 : Below W0.heap.size W0 (V2.setCell ⟨cb, 0, none⟩ (.slice q4 m4 c4)) := hX4.setCell hcb _
              refine hK.out _ _ (hHeld.other (a := ⟨cb, 0, none⟩) nnc _) (fun hHeld => ?_)
              clear hK K
              try simp only [zP, zQ, zS, zZ, zC]
              refine wpAnyH_done (by kernel_rfl) ?_ _
              have Kn5 := hHeld
              clear hcq hfq hHeld
              generalize World.setCell V2 ⟨cb, 0, none⟩ _ = V5 at Kc5 Kl5 Kk5 Kn5 hO5 hX5 ⊢
              have cx := Kn5.cell hxc
              go_wp2
              exact ⟨⟨x, acc ++ [(x : Int)], q4, c4, rfl, hx2, HEn.out, by have := HM4.out; have := HM5.out; omega, by rw [HM4.out]; exact hO5, by rw [HM4.out]; exact lb4, by rw [HM4.out]; exact kb4, by rw [HM4.out]; exact nb4, by rw [HM4.out]; exact cb4, Kl5, Kk5, Kn5, by rw [HM4.out]; exact Kc5, hX5⟩, by simp [intOf]; omega⟩
            · skip
              rw [if_pos (by rfl)]
              go_simp
              have X : Below V0.heap.size V0 (World.alloc V0 (.cells #[.int .i64 (x : Int)] 3)) := (Below.refl _ _).alloc (Nat.le_refl _) _
              replace Kc := Kc.keep X
              refine hK.out _ _ (hHeld.keep X) (fun hHeld => ?_)
              clear hK K
              try simp only [zP, zQ, zS, zZ, zC]
              refine wpAnyH_ready (rs := [1]) (by kernel_rfl) (by simp) ?_
              refine AllReadyH.cons (o := ⟨some 127, .load 22 (.tmp 126), 22, "breaks.go:91", #[⟨0, .data⟩], none⟩) rfl (fun K hK => ?_) AllReadyH.nil
              rw [if_pos (by rfl)]
              have hc0 := Kc.cell (j := 0) rfl
              go_simp
              clear hc0
              refine hK.out _ _ (hHeld) (fun hHeld => ?_)
              clear hK K
              try simp only [zP, zQ, zS, zZ, zC]
              refine wpAnyH_ready (rs := [7]) (by kernel_rfl) (by simp) ?_
              refine AllReadyH.cons (o := ⟨some 133, .call { callee := .builtin .append, args := #[.tmp 127, .tmp 132], argTypes := #[22, 22] }, 22, "breaks.go:91", #[⟨1, .data⟩, ⟨6, .data⟩], none⟩) rfl (fun K hK => ?_) AllReadyH.nil
              rw [if_pos (by rfl)]
              refine push_at intE (w := V0) (.tmp 127) (.tmp 132) rfl acc (x : Int) _ rfl hO hz0 _ rfl _ rfl (by omega) ?_
              intro v4 V2 hO4 hB4 hR4 hat
              obtain ⟨q4, c4, rfl, _, _, _, _⟩ := hO4.form
              obtain ⟨m4, hm4⟩ : ∃ m4, (acc ++ [(x : Int)]).length = m4 := ⟨_, rfl⟩
              rw [hm4] at hO4 hat ⊢
              have HM4 := Lib.hid hm4
              have hm5 : m4 = acc.length + 1 := by rw [← hm4]; simp
              have HM5 := Lib.hid hm5
              clear hm4 hm5
              have Kl4 := hR4 lb _ _ ol Kl
              have Kk4 := hR4 kb _ _ ok Kk
              have Kc4 : Blk V2 cb 28 [.slice q acc.length ce, .slice (some ⟨lb, 0, none⟩) m m, .slice (some ⟨kb, 0, none⟩) m m] := hR4 cb _ _ oc Kc0
              have hX4 := hX.trans hB4
              have lb4 : Value.ownBlock (.slice q4 m4 c4) ≠ some lb := by rcases hat with e | e; (rw [e]; exact ol); (rw [e]; intro h; injection h with h; omega)
              have kb4 : Value.ownBlock (.slice q4 m4 c4) ≠ some kb := by rcases hat with e | e; (rw [e]; exact ok); (rw [e]; intro h; injection h with h; omega)
              have nb4 : Value.ownBlock (.slice q4 m4 c4) ≠ some nb := by rcases hat with e | e; (rw [e]; exact on); (rw [e]; intro h; injection h with h; omega)
              have cb4 : Value.ownBlock (.slice q4 m4 c4) ≠ some cb := by rcases hat with e | e; (rw [e]; exact oc); (rw [e]; intro h; injection h with h; omega)
              refine hK.out _ _ (hR4 nb _ _ on Kn0) (fun hHeld => ?_)
              clear hK K
              try simp only [zP, zQ, zS, zZ, zC]
              refine wt (i := 8) (oi := ⟨some 134, .fieldAddr 28 (.tmp 11) 0, 0, "breaks.go:91", #[⟨0, .phase⟩, ⟨1, .phase⟩, ⟨2, .phase⟩, ⟨3, .phase⟩, ⟨4, .phase⟩, ⟨5, .phase⟩, ⟨6, .phase⟩, ⟨7, .phase⟩], none⟩) (v := .pointer (some ⟨cb, 0, none⟩)) (Or.inl ⟨by rfl, fun w' hSw => by go_simp⟩) hHeld ?_
              try simp only [zP, zQ, zS, zZ, zC]
              have hcq := Kc4.cell (j := 0) rfl
              have hfq := Kc4.free 0
              refine wpAnyH_ready (rs := [9]) (by kernel_rfl) (by simp) ?_
              refine AllReadyH.cons (o := ⟨none, .store 22 (.tmp 134) (.tmp 133), 0, "breaks.go:91", #[⟨8, .data⟩, ⟨7, .data⟩, ⟨7, .chain⟩, ⟨0, .phase⟩, ⟨1, .phase⟩, ⟨2, .phase⟩, ⟨3, .phase⟩, ⟨4, .phase⟩, ⟨5, .phase⟩, ⟨6, .phase⟩, ⟨7, .phase⟩], none⟩) rfl (fun K hK => ?_) AllReadyH.nil
              rw [if_pos (by rfl)]
              go_simp
              have Kc5 := Kc4.set 0 (.slice q4 m4 c4)
              have Kl5 := Kl4.other (a := ⟨cb, 0, none⟩) nlc (.slice q4 m4 c4)
              have Kk5 := Kk4.other (a := ⟨cb, 0, none⟩) nkc (.slice q4 m4 c4)
              have hO5 := hO4.only (only_set cb 0 V2 (.slice q4 m4 c4)) cb4
              have hX5 : Below W0.heap.size W0 (V2.setCell ⟨cb, 0, none⟩ (.slice q4 m4 c4)) := hX4.setCell hcb _
              refine hK.out _ _ (hHeld.other (a := ⟨cb, 0, none⟩) nnc _) (fun hHeld => ?_)
              clear hK K
              try simp only [zP, zQ, zS, zZ, zC]
              refine wpAnyH_done (by kernel_rfl) ?_ _
              have Kn5 := hHeld
              clear hcq hfq hHeld
              generalize World.setCell V2 ⟨cb, 0, none⟩ _ = V5 at Kc5 Kl5 Kk5 Kn5 hO5 hX5 ⊢
              have cx := Kn5.cell hxc
              go_wp2
              exact ⟨⟨x, acc ++ [(x : Int)], q4, c4, rfl, hx2, HEn.out, by have := HM4.out; have := HM5.out; omega, by rw [HM4.out]; exact hO5, by rw [HM4.out]; exact lb4, by rw [HM4.out]; exact kb4, by rw [HM4.out]; exact nb4, by rw [HM4.out]; exact cb4, Kl5, Kk5, Kn5, by rw [HM4.out]; exact Kc5, hX5⟩, by simp [intOf]; omega⟩
          · obtain rfl : k = t := by omega
            have hlt : ¬ k < k := by omega
            rw [endsT_end (Nat.le_refl _), List.append_nil] at hE
            have Kr := HRes.out wr hX
            have HE := Lib.hid hE
            have X3 := link B3 hX
            clear hE HBox HSum
            go_wp2_with (first
              | (refine wpList_load_mid rfl 28 (.tmp 11) rfl cb 0 rfl [.slice q acc.length ce, .slice (some ⟨lb, 0, none⟩) m m, .slice (some ⟨kb, 0, none⟩) m m] _ (by have := Kc.range 0 3; exact this) Try.underlying28 rfl (by kernel_rfl) ?_)
              | (refine store_blk rfl 28 (.tmp 6) (.tmp 135) rfl Kr rfl rfl (vs := [.slice q acc.length ce, .slice (some ⟨lb, 0, none⟩) m m, .slice (some ⟨kb, 0, none⟩) m m]) (m := 3) (by kernel_rfl) rfl rfl (by intro v hv; simp at hv; rcases hv with rfl | rfl | rfl <;> rfl) ?_; intro W9 K9 O9))
            try simp only [zP, zQ, zS, zZ, zC]
            go_wp2
            have B9 : Below w.heap.size w W9 := O9.2.2 _ _ hwrp X3
            have hrl : rp ≠ lb := by have := hrp0; omega
            have hrk : rp ≠ kb := by have := hrp0; omega
            have hO9 := hO.only O9 (fun e => by have := (World.ownsRow.lt hO rp e).1; have := hrp0; omega)
            obtain ⟨q', c', hv, _, hA9, _, _⟩ := hO9.form
            injection hv with e1 e2 e3
            subst e1 e3
            have hml : m = L.length := by have := HM.out; omega
            have hmc : m = C.length := by have := HM.out; omega
            refine bodyPost_ret (v := .tuple #[.agg #[.slice q acc.length ce, .slice (some ⟨lb, 0, none⟩) m m, .slice (some ⟨kb, 0, none⟩) m m], .int .i64 0]) (results_and (by rfl) _ _ rfl rfl (K9.loadVarS Try.underlying28 (by kernel_rfl))) rfl ?_
            rw [HFT2.out]
            show CertR _ (endsT N k k 0) L C 0 w _ _
            refine ⟨q, some ⟨lb, 0, none⟩, some ⟨kb, 0, none⟩, ce, m, m, by rw [← HE.out, ← hml, ← hmc], by rw [← HE.out]; exact hA9, at_blk (E := intE) (O9.2.1 lb _ _ hrl.symm Kl) (by rw [row_iv]; exact List.take_of_length_le (by unfold iv; rw [List.length_map, show intE.k = 1 from rfl]; omega)), at_blk (E := intE) (O9.2.1 kb _ _ hrk.symm Kk) (by rw [row_iv]; exact List.take_of_length_le (by unfold iv; rw [List.length_map, show intE.k = 1 from rfl]; omega)), B9⟩
end Go.Proofs.Ytacdjchkilheiaa
