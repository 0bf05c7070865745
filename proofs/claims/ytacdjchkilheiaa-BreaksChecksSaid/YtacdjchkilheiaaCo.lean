/-
  Fill of the reference: the good answer.
-/
import Derived.Test.YtacdjchkilheiaaCn
namespace Go.Proofs.Ytacdjchkilheiaa
open Go.RowKit
set_option linter.unusedVariables false
set_option linter.unusedSimpArgs false

def RLaidC (W : World) (m : Nat) (s11 : Value) (wx : World) : Prop := ∃ lb kb cb : Nat, s11 = .pointer (some ⟨cb, 0, none⟩) ∧ Blk wx lb 3 (zeros m).toList ∧ Blk wx kb 3 (zeros m).toList ∧ Blk wx cb 32 [.slice none 0 0, .slice (some ⟨lb, 0, none⟩) m m, .slice (some ⟨kb, 0, none⟩) m m] ∧ lb ≠ kb ∧ lb ≠ cb ∧ kb ≠ cb ∧ W.heap.size ≤ lb ∧ W.heap.size ≤ kb ∧ W.heap.size ≤ cb ∧ Below W.heap.size W wx
def RFi (l : List Int) (bl wd : Int) (n m lb kb nb cb : Nat) (W : World) (v : Value) (wr : World) : Prop := ∃ (p : Nat) (x : Int) (L C : List Int) (N : List Nat), v = .int .i64 x ∧ x + 1 = (p : Int) ∧ p ≤ n ∧ Good n p (L, C, N) ∧ (∀ j, j < p → L[j]? = some 0 ∧ C[j]? = some 0 ∧ N[j]? = some 0) ∧ outT l bl wd n p (L, C, N) = fillT l bl wd ∧ Blk wr lb 3 (iv L) ∧ Blk wr kb 3 (iv C) ∧ Blk wr nb 3 (nv (N ++ [0])) ∧ Blk wr cb 32 [.slice none 0 0, .slice (some ⟨lb, 0, none⟩) m m, .slice (some ⟨kb, 0, none⟩) m m] ∧ Below W.heap.size W wr
def REn (E L C : List Int) (N : List Nat) (n m lb kb nb cb : Nat) (W : World) (v : Value) (wr : World) : Prop := ∃ (k : Nat) (acc : List Int) (q : Option Addr) (ce : Nat), v = .int .i64 (k : Int) ∧ k ≤ n ∧ acc ++ endsT N n n k = E ∧ acc.length ≤ k ∧ OwnR intE wr W.heap.size (.slice q acc.length ce) acc ∧ Value.ownBlock (.slice q acc.length ce) ≠ some lb ∧ Value.ownBlock (.slice q acc.length ce) ≠ some kb ∧ Value.ownBlock (.slice q acc.length ce) ≠ some nb ∧ Value.ownBlock (.slice q acc.length ce) ≠ some cb ∧ Blk wr lb 3 (iv L) ∧ Blk wr kb 3 (iv C) ∧ Blk wr nb 3 (nv (N ++ [0])) ∧ Blk wr cb 32 [.slice q acc.length ce, .slice (some ⟨lb, 0, none⟩) m m, .slice (some ⟨kb, 0, none⟩) m m] ∧ Below W.heap.size W wr
def RIn (l : List Int) (bl wd : Int) (n m k lb kb nb cb : Nat) (L C : List Int) (N : List Nat) (R : St) (W : World) (v : Value) (wr : World) : Prop := ∃ (j : Nat) (s1 s2 : Int) (sx : Nat), v = .int .i64 (j : Int) ∧ k < j ∧ j ≤ n + 1 ∧ dpIn (frT l bl wd k) (prT l bl wd k) (fun j => L.getD j 0) (fun j => C.getD j 0) n (n + 1 - j) j (s1, s2, sx) = R ∧ Small n k s1 s2 ∧ ((j = k + 1 ∧ sx = 0) ∨ (k + 1 < j ∧ k < sx ∧ sx ≤ n)) ∧ Blk wr lb 3 (iv (L.set k s1)) ∧ Blk wr kb 3 (iv (C.set k s2)) ∧ Blk wr nb 3 (nv ((N ++ [0]).set k sx)) ∧ Blk wr cb 32 [.slice none 0 0, .slice (some ⟨lb, 0, none⟩) m m, .slice (some ⟨kb, 0, none⟩) m m] ∧ Below W.heap.size W wr

set_option maxHeartbeats 8000000 in
set_option maxRecDepth 100000 in
theorem rfill_good (A : Option Addr) (l : List Int) (n c : Nat) (hl : l.length = n) (bl wd : Int) (he : errT l bl wd = 0) (hz : wideT l wd = false) (w : World) (hA : IntsAt w A l) :
    Calls Try.prog 11 #[.slice A n c, .int .i64 bl, .int .i64 wd] w (CertR 32 (endsT (fillT l bl wd).2.2 n n 0) (fillT l bl wd).1 (fillT l bl wd).2.1 0 w) := by
  have hF := fine_of he
  have hn9 : n ≤ 256 := by have := hF.len; omega
  have HEr := Lib.hid (fun (V : World) (h : Below w.heap.size w V) => rerror_any A l n c hl (by omega) bl wd V (hA.keep h))
  have HWi := Lib.hid (fun (V : World) (h : Below w.heap.size w V) => rwide_any A l n c hl (by omega) wd V (hA.keep h))
  rw [he] at HEr
  rw [hz] at HWi
  have HFr := Lib.hid (fun (i j : Nat) (hij : i < j) (hj : j ≤ n) (V : World) (h : Below w.heap.size w V) => rfree_any A l n c hl bl wd hF i j hij hj V (hA.keep h))
  have HCo := Lib.hid (fun (i j : Nat) (hij : i < j) (hj : j ≤ n) (hf : 0 ≤ frT l bl wd i j) (V : World) (h : Below w.heap.size w V) => rprice_any A l n c hl bl wd hF i j hij hj hf V (hA.keep h))
  have HPb := Lib.hid (fun (i j : Nat) (hi : i ≤ j) (hf : 0 ≤ frT l bl wd i j) => prT_bound hF.b0 hF.b1 hF.w1 hF.all hi hf)
  have HFi := Lib.hid hF
  have HZ := Lib.hid hz
  have HL := Lib.hid hl
  obtain ⟨m, hm⟩ : ∃ m, n + 1 = m := ⟨_, rfl⟩
  have HNM := Lib.hid (show (n : Int) + 1 = (m : Int) from by omega)
  have HWM := Lib.hid (wrap_in (x := (m : Int)) (by omega) (by omega))
  have HM := Lib.hid hm
  have hm9 : m ≤ 257 := by omega
  clear hl hF he hz hA hm
  go_enter Try.func11, Try.ntmps11
  go_upto_region 1 with (fail)
  have Kr := blk_new w 32 zeroCt.toArray
  have Xr : Below w.heap.size w (w.alloc (.cells zeroCt.toArray 32)) := (Below.refl _ _).alloc (Nat.le_refl _) _
  obtain ⟨W0, hW0⟩ : ∃ W, w.alloc (.cells zeroCt.toArray 32) = W := ⟨_, rfl⟩
  change Code.wp _ _ _ _ (w.alloc (.cells zeroCt.toArray 32))
  rw [hW0] at Kr Xr ⊢
  obtain ⟨rp, hrp⟩ : ∃ rp, w.heap.size = rp := ⟨_, rfl⟩
  rw [hrp] at Kr ⊢
  have hwrp : w.heap.size ≤ rp := by omega
  clear hW0 hrp
  have HE0 := Lib.hid (HEr.out W0 Xr)
  have HW0 := Lib.hid (HWi.out W0 Xr)
  go_upto_region 7 with (first
    | (go_at_call 26; refine HE0.out.mono ?_; rintro en W1 ⟨rfl, rfl⟩)
    | (go_at_call 25; refine HW0.out.mono ?_; rintro en W2 ⟨rfl, rfl⟩))
  have hmk := fun V : World => mk_int m (by omega) V
  have hrp0 : rp < W0.heap.size := Kr.lt
  clear HE0 HW0
  have HFr := Lib.hid (fun (i j : Nat) (hij : i < j) (hj : j ≤ n) (V : World) (h : Below W0.heap.size W0 V) => HFr.out i j hij hj V (link Xr h))
  have HCo := Lib.hid (fun (i j : Nat) (hij : i < j) (hj : j ≤ n) (hf : 0 ≤ frT l bl wd i j) (V : World) (h : Below W0.heap.size W0 V) => HCo.out i j hij hj hf V (link Xr h))
  have HRes := Lib.hid (fun (V : World) (h : Below W0.heap.size W0 V) => Kr.keep h)
  clear Kr
  go_cut [10] from 34 (fun s10 wx => RLaidC W0 m s10 wx)
  case first =>
    refine wp_region_held_drew (S := fun w' => Below W0.heap.size W0 w') (by kernel_rfl) (below_drew (Below.refl _ _)) (fun _ => ?_)
    have hHeld : Below W0.heap.size W0 W0.drew := below_drew (Below.refl _ _)
    generalize W0.drew = V0 at hHeld ⊢
    refine wt (i := 0) (oi := ⟨some 34, .move (.tmp 9), 3, "ref.go:74", #[], none⟩) (v := .int .i64 (n : Int)) (Or.inl ⟨by rfl, fun w' hSw => by go_simp⟩) hHeld ?_
    try simp only [zP, zQ, zS, zZ, zC]
    refine wt (i := 1) (oi := ⟨some 35, .binOp .add 3 (.tmp 34) (.const (Value.int IntKind.i64 1)) 3, 3, "ref.go:74", #[⟨0, .data⟩], none⟩) (v := .int .i64 (m : Int)) (Or.inl ⟨by rfl, fun w' hSw => by have hw := HNM.out; have hw2 := HWM.out; go_simp⟩) hHeld ?_
    try simp only [zP, zQ, zS, zZ, zC]
    refine wt (i := 3) (oi := ⟨some 37, .move (.tmp 9), 3, "ref.go:74", #[], none⟩) (v := .int .i64 (n : Int)) (Or.inl ⟨by rfl, fun w' hSw => by go_simp⟩) hHeld ?_
    try simp only [zP, zQ, zS, zZ, zC]
    refine wt (i := 4) (oi := ⟨some 38, .binOp .add 3 (.tmp 37) (.const (Value.int IntKind.i64 1)) 3, 3, "ref.go:74", #[⟨3, .data⟩], none⟩) (v := .int .i64 (m : Int)) (Or.inl ⟨by rfl, fun w' hSw => by have hw := HNM.out; have hw2 := HWM.out; go_simp⟩) hHeld ?_
    try simp only [zP, zQ, zS, zZ, zC]
    refine wpAnyH_ready (rs := [2, 5, 7]) (by kernel_rfl) (by simp) ?_
    refine AllReadyH.cons (o := ⟨some 36, .makeSlice 22 (.tmp 35) (.tmp 35), 22, "ref.go:74", #[⟨1, .data⟩, ⟨1, .data⟩], none⟩) rfl (fun K hK => ?_) (AllReadyH.cons (o := ⟨some 39, .makeSlice 22 (.tmp 38) (.tmp 38), 22, "ref.go:74", #[⟨4, .data⟩, ⟨4, .data⟩], none⟩) rfl (fun K hK => ?_) (AllReadyH.cons (o := ⟨some 10, .alloc 32, 0, "ref.go:74", #[], none⟩) rfl (fun K hK => ?_) AllReadyH.nil))
    · rw [if_pos (by rfl)]
      go_simp
      have Kl : Blk (World.alloc V0 (.cells (zeros m) 3)) V0.heap.size 3 (zeros m).toList := blk_new V0 _ _
      have X : Below V0.heap.size V0 (World.alloc V0 (.cells (zeros m) 3)) := (Below.refl _ _).alloc (Nat.le_refl _) _
      have hlb : W0.heap.size ≤ V0.heap.size := hHeld.size
      refine hK.out _ _ (link hHeld X) (fun hHeld => ?_)
      clear hK K
      try simp only [zP, zQ, zS, zZ, zC]
      clear X
      generalize World.alloc V0 _ = V1 at Kl hHeld ⊢
      generalize V0.heap.size = lb at Kl hlb ⊢
      refine wpAnyH_ready (rs := [5, 7]) (by kernel_rfl) (by simp) ?_
      refine AllReadyH.cons (o := ⟨some 39, .makeSlice 22 (.tmp 38) (.tmp 38), 22, "ref.go:74", #[⟨4, .data⟩, ⟨4, .data⟩], none⟩) rfl (fun K hK => ?_) (AllReadyH.cons (o := ⟨some 10, .alloc 32, 0, "ref.go:74", #[], none⟩) rfl (fun K hK => ?_) AllReadyH.nil)
      · rw [if_pos (by rfl)]
        go_simp
        have Kk : Blk (World.alloc V1 (.cells (zeros m) 3)) V1.heap.size 3 (zeros m).toList := blk_new V1 _ _
        have X : Below V1.heap.size V1 (World.alloc V1 (.cells (zeros m) 3)) := (Below.refl _ _).alloc (Nat.le_refl _) _
        have hkb : W0.heap.size ≤ V1.heap.size := hHeld.size
        have hltkl := Kl.lt
        replace Kl := Kl.keep X
        refine hK.out _ _ (link hHeld X) (fun hHeld => ?_)
        clear hK K
        try simp only [zP, zQ, zS, zZ, zC]
        clear X
        generalize World.alloc V1 _ = V2 at Kl Kk hHeld ⊢
        generalize V1.heap.size = kb at Kk hkb hltkl ⊢
        refine wt (i := 6) (oi := ⟨some 40, .build 32 #[(1, .tmp 36), (2, .tmp 39)], 32, "ref.go:74", #[⟨2, .data⟩, ⟨5, .data⟩], none⟩) (v := .agg #[.slice none 0 0, .slice (some ⟨lb, 0, none⟩) m m, .slice (some ⟨kb, 0, none⟩) m m]) (Or.inl ⟨by rfl, fun w' hSw => by go_simp⟩) hHeld ?_
        try simp only [zP, zQ, zS, zZ, zC]
        refine wpAnyH_ready (rs := [7]) (by kernel_rfl) (by simp) ?_
        refine AllReadyH.cons (o := ⟨some 10, .alloc 32, 0, "ref.go:74", #[], none⟩) rfl (fun K hK => ?_) AllReadyH.nil
        · rw [if_pos (by rfl)]
          go_simp
          have Kc : Blk (World.alloc V2 (.cells #[.slice none 0 0, .slice none 0 0, .slice none 0 0] 32)) V2.heap.size 32 [.slice none 0 0, .slice none 0 0, .slice none 0 0] := blk_new V2 _ _
          have X : Below V2.heap.size V2 (World.alloc V2 (.cells #[.slice none 0 0, .slice none 0 0, .slice none 0 0] 32)) := (Below.refl _ _).alloc (Nat.le_refl _) _
          have hcb : W0.heap.size ≤ V2.heap.size := hHeld.size
          have hltcl := Kl.lt
          replace Kl := Kl.keep X
          have hltck := Kk.lt
          replace Kk := Kk.keep X
          refine hK.out _ _ (link hHeld X) (fun hHeld => ?_)
          clear hK K
          try simp only [zP, zQ, zS, zZ, zC]
          clear X
          generalize World.alloc V2 _ = V3 at Kl Kk Kc hHeld ⊢
          generalize V2.heap.size = cb at Kc hcb hltcl hltck ⊢
          refine wpAnyH_ready (rs := [8]) (by kernel_rfl) (by simp) ?_
          refine AllReadyH.cons (o := ⟨none, .store 32 (.tmp 10) (.tmp 40), 0, "ref.go:74", #[⟨7, .data⟩, ⟨6, .data⟩, ⟨0, .phase⟩, ⟨1, .phase⟩, ⟨2, .phase⟩, ⟨3, .phase⟩, ⟨4, .phase⟩, ⟨5, .phase⟩, ⟨6, .phase⟩, ⟨7, .phase⟩], none⟩) rfl (fun K hK => ?_) AllReadyH.nil
          rw [if_pos (by rfl)]
          refine wp_store_mid 32 (.tmp 10) (.tmp 40) rfl cb 0 #[.slice none 0 0, .slice (some ⟨lb, 0, none⟩) m m, .slice (some ⟨kb, 0, none⟩) m m] rfl rfl (by simpa using Kc.there 0 3 (by simp)) (by kernel_rfl) (all_oneCell_toArray (by intro v hv; simp at hv; rcases hv with rfl | rfl | rfl <;> rfl)) ?_
          have Kc2 : Blk (V3.setCells cb 0 [.slice none 0 0, .slice (some ⟨lb, 0, none⟩) m m, .slice (some ⟨kb, 0, none⟩) m m]) cb 32 [.slice none 0 0, .slice (some ⟨lb, 0, none⟩) m m, .slice (some ⟨kb, 0, none⟩) m m] := Kc.all rfl
          have Kl2 := Blk.others (b := lb) (b' := cb) (by omega) [.slice none 0 0, .slice (some ⟨lb, 0, none⟩) m m, .slice (some ⟨kb, 0, none⟩) m m] 0 Kl
          have Kk2 := Blk.others (b := kb) (b' := cb) (by omega) [.slice none 0 0, .slice (some ⟨lb, 0, none⟩) m m, .slice (some ⟨kb, 0, none⟩) m m] 0 Kk
          have H := (only_sets cb 0 V3 [.slice none 0 0, .slice (some ⟨lb, 0, none⟩) m m, .slice (some ⟨kb, 0, none⟩) m m]).2.2 _ _ hcb hHeld
          dsimp only
          generalize World.setCells V3 cb 0 [.slice none 0 0, .slice (some ⟨lb, 0, none⟩) m m, .slice (some ⟨kb, 0, none⟩) m m] = VF at Kc2 Kl2 Kk2 H ⊢
          refine hK.out _ _ (H) (fun hHeld => ?_)
          clear hK K
          try simp only [zP, zQ, zS, zZ, zC]
          refine wpAnyH_done (by kernel_rfl) ?_ _
          clear hHeld
          go_wp2_with fail
          go_meet
          exact ⟨lb, kb, cb, rfl, Kl2, Kk2, Kc2, by omega, by omega, by omega, hlb, hkb, hcb, H⟩
      · rw [if_pos (by rfl)]
        go_simp
        have Kc : Blk (World.alloc V1 (.cells #[.slice none 0 0, .slice none 0 0, .slice none 0 0] 32)) V1.heap.size 32 [.slice none 0 0, .slice none 0 0, .slice none 0 0] := blk_new V1 _ _
        have X : Below V1.heap.size V1 (World.alloc V1 (.cells #[.slice none 0 0, .slice none 0 0, .slice none 0 0] 32)) := (Below.refl _ _).alloc (Nat.le_refl _) _
        have hcb : W0.heap.size ≤ V1.heap.size := hHeld.size
        have hltcl := Kl.lt
        replace Kl := Kl.keep X
        refine hK.out _ _ (link hHeld X) (fun hHeld => ?_)
        clear hK K
        try simp only [zP, zQ, zS, zZ, zC]
        clear X
        generalize World.alloc V1 _ = V2 at Kl Kc hHeld ⊢
        generalize V1.heap.size = cb at Kc hcb hltcl ⊢
        refine wpAnyH_ready (rs := [5]) (by kernel_rfl) (by simp) ?_
        refine AllReadyH.cons (o := ⟨some 39, .makeSlice 22 (.tmp 38) (.tmp 38), 22, "ref.go:74", #[⟨4, .data⟩, ⟨4, .data⟩], none⟩) rfl (fun K hK => ?_) AllReadyH.nil
        · rw [if_pos (by rfl)]
          go_simp
          have Kk : Blk (World.alloc V2 (.cells (zeros m) 3)) V2.heap.size 3 (zeros m).toList := blk_new V2 _ _
          have X : Below V2.heap.size V2 (World.alloc V2 (.cells (zeros m) 3)) := (Below.refl _ _).alloc (Nat.le_refl _) _
          have hkb : W0.heap.size ≤ V2.heap.size := hHeld.size
          have hltkl := Kl.lt
          replace Kl := Kl.keep X
          have hltkc := Kc.lt
          replace Kc := Kc.keep X
          refine hK.out _ _ (link hHeld X) (fun hHeld => ?_)
          clear hK K
          try simp only [zP, zQ, zS, zZ, zC]
          clear X
          generalize World.alloc V2 _ = V3 at Kl Kc Kk hHeld ⊢
          generalize V2.heap.size = kb at Kk hkb hltkl hltkc ⊢
          refine wt (i := 6) (oi := ⟨some 40, .build 32 #[(1, .tmp 36), (2, .tmp 39)], 32, "ref.go:74", #[⟨2, .data⟩, ⟨5, .data⟩], none⟩) (v := .agg #[.slice none 0 0, .slice (some ⟨lb, 0, none⟩) m m, .slice (some ⟨kb, 0, none⟩) m m]) (Or.inl ⟨by rfl, fun w' hSw => by go_simp⟩) hHeld ?_
          try simp only [zP, zQ, zS, zZ, zC]
          refine wpAnyH_ready (rs := [8]) (by kernel_rfl) (by simp) ?_
          refine AllReadyH.cons (o := ⟨none, .store 32 (.tmp 10) (.tmp 40), 0, "ref.go:74", #[⟨7, .data⟩, ⟨6, .data⟩, ⟨0, .phase⟩, ⟨1, .phase⟩, ⟨2, .phase⟩, ⟨3, .phase⟩, ⟨4, .phase⟩, ⟨5, .phase⟩, ⟨6, .phase⟩, ⟨7, .phase⟩], none⟩) rfl (fun K hK => ?_) AllReadyH.nil
          rw [if_pos (by rfl)]
          refine wp_store_mid 32 (.tmp 10) (.tmp 40) rfl cb 0 #[.slice none 0 0, .slice (some ⟨lb, 0, none⟩) m m, .slice (some ⟨kb, 0, none⟩) m m] rfl rfl (by simpa using Kc.there 0 3 (by simp)) (by kernel_rfl) (all_oneCell_toArray (by intro v hv; simp at hv; rcases hv with rfl | rfl | rfl <;> rfl)) ?_
          have Kc2 : Blk (V3.setCells cb 0 [.slice none 0 0, .slice (some ⟨lb, 0, none⟩) m m, .slice (some ⟨kb, 0, none⟩) m m]) cb 32 [.slice none 0 0, .slice (some ⟨lb, 0, none⟩) m m, .slice (some ⟨kb, 0, none⟩) m m] := Kc.all rfl
          have Kl2 := Blk.others (b := lb) (b' := cb) (by omega) [.slice none 0 0, .slice (some ⟨lb, 0, none⟩) m m, .slice (some ⟨kb, 0, none⟩) m m] 0 Kl
          have Kk2 := Blk.others (b := kb) (b' := cb) (by omega) [.slice none 0 0, .slice (some ⟨lb, 0, none⟩) m m, .slice (some ⟨kb, 0, none⟩) m m] 0 Kk
          have H := (only_sets cb 0 V3 [.slice none 0 0, .slice (some ⟨lb, 0, none⟩) m m, .slice (some ⟨kb, 0, none⟩) m m]).2.2 _ _ hcb hHeld
          dsimp only
          generalize World.setCells V3 cb 0 [.slice none 0 0, .slice (some ⟨lb, 0, none⟩) m m, .slice (some ⟨kb, 0, none⟩) m m] = VF at Kc2 Kl2 Kk2 H ⊢
          refine hK.out _ _ (H) (fun hHeld => ?_)
          clear hK K
          try simp only [zP, zQ, zS, zZ, zC]
          refine wpAnyH_done (by kernel_rfl) ?_ _
          clear hHeld
          go_wp2_with fail
          go_meet
          exact ⟨lb, kb, cb, rfl, Kl2, Kk2, Kc2, by omega, by omega, by omega, hlb, hkb, hcb, H⟩
    · rw [if_pos (by rfl)]
      go_simp
      have Kk : Blk (World.alloc V0 (.cells (zeros m) 3)) V0.heap.size 3 (zeros m).toList := blk_new V0 _ _
      have X : Below V0.heap.size V0 (World.alloc V0 (.cells (zeros m) 3)) := (Below.refl _ _).alloc (Nat.le_refl _) _
      have hkb : W0.heap.size ≤ V0.heap.size := hHeld.size
      refine hK.out _ _ (link hHeld X) (fun hHeld => ?_)
      clear hK K
      try simp only [zP, zQ, zS, zZ, zC]
      clear X
      generalize World.alloc V0 _ = V1 at Kk hHeld ⊢
      generalize V0.heap.size = kb at Kk hkb ⊢
      refine wpAnyH_ready (rs := [2, 7]) (by kernel_rfl) (by simp) ?_
      refine AllReadyH.cons (o := ⟨some 36, .makeSlice 22 (.tmp 35) (.tmp 35), 22, "ref.go:74", #[⟨1, .data⟩, ⟨1, .data⟩], none⟩) rfl (fun K hK => ?_) (AllReadyH.cons (o := ⟨some 10, .alloc 32, 0, "ref.go:74", #[], none⟩) rfl (fun K hK => ?_) AllReadyH.nil)
      · rw [if_pos (by rfl)]
        go_simp
        have Kl : Blk (World.alloc V1 (.cells (zeros m) 3)) V1.heap.size 3 (zeros m).toList := blk_new V1 _ _
        have X : Below V1.heap.size V1 (World.alloc V1 (.cells (zeros m) 3)) := (Below.refl _ _).alloc (Nat.le_refl _) _
        have hlb : W0.heap.size ≤ V1.heap.size := hHeld.size
        have hltlk := Kk.lt
        replace Kk := Kk.keep X
        refine hK.out _ _ (link hHeld X) (fun hHeld => ?_)
        clear hK K
        try simp only [zP, zQ, zS, zZ, zC]
        clear X
        generalize World.alloc V1 _ = V2 at Kk Kl hHeld ⊢
        generalize V1.heap.size = lb at Kl hlb hltlk ⊢
        refine wt (i := 6) (oi := ⟨some 40, .build 32 #[(1, .tmp 36), (2, .tmp 39)], 32, "ref.go:74", #[⟨2, .data⟩, ⟨5, .data⟩], none⟩) (v := .agg #[.slice none 0 0, .slice (some ⟨lb, 0, none⟩) m m, .slice (some ⟨kb, 0, none⟩) m m]) (Or.inl ⟨by rfl, fun w' hSw => by go_simp⟩) hHeld ?_
        try simp only [zP, zQ, zS, zZ, zC]
        refine wpAnyH_ready (rs := [7]) (by kernel_rfl) (by simp) ?_
        refine AllReadyH.cons (o := ⟨some 10, .alloc 32, 0, "ref.go:74", #[], none⟩) rfl (fun K hK => ?_) AllReadyH.nil
        · rw [if_pos (by rfl)]
          go_simp
          have Kc : Blk (World.alloc V2 (.cells #[.slice none 0 0, .slice none 0 0, .slice none 0 0] 32)) V2.heap.size 32 [.slice none 0 0, .slice none 0 0, .slice none 0 0] := blk_new V2 _ _
          have X : Below V2.heap.size V2 (World.alloc V2 (.cells #[.slice none 0 0, .slice none 0 0, .slice none 0 0] 32)) := (Below.refl _ _).alloc (Nat.le_refl _) _
          have hcb : W0.heap.size ≤ V2.heap.size := hHeld.size
          have hltck := Kk.lt
          replace Kk := Kk.keep X
          have hltcl := Kl.lt
          replace Kl := Kl.keep X
          refine hK.out _ _ (link hHeld X) (fun hHeld => ?_)
          clear hK K
          try simp only [zP, zQ, zS, zZ, zC]
          clear X
          generalize World.alloc V2 _ = V3 at Kk Kl Kc hHeld ⊢
          generalize V2.heap.size = cb at Kc hcb hltck hltcl ⊢
          refine wpAnyH_ready (rs := [8]) (by kernel_rfl) (by simp) ?_
          refine AllReadyH.cons (o := ⟨none, .store 32 (.tmp 10) (.tmp 40), 0, "ref.go:74", #[⟨7, .data⟩, ⟨6, .data⟩, ⟨0, .phase⟩, ⟨1, .phase⟩, ⟨2, .phase⟩, ⟨3, .phase⟩, ⟨4, .phase⟩, ⟨5, .phase⟩, ⟨6, .phase⟩, ⟨7, .phase⟩], none⟩) rfl (fun K hK => ?_) AllReadyH.nil
          rw [if_pos (by rfl)]
          refine wp_store_mid 32 (.tmp 10) (.tmp 40) rfl cb 0 #[.slice none 0 0, .slice (some ⟨lb, 0, none⟩) m m, .slice (some ⟨kb, 0, none⟩) m m] rfl rfl (by simpa using Kc.there 0 3 (by simp)) (by kernel_rfl) (all_oneCell_toArray (by intro v hv; simp at hv; rcases hv with rfl | rfl | rfl <;> rfl)) ?_
          have Kc2 : Blk (V3.setCells cb 0 [.slice none 0 0, .slice (some ⟨lb, 0, none⟩) m m, .slice (some ⟨kb, 0, none⟩) m m]) cb 32 [.slice none 0 0, .slice (some ⟨lb, 0, none⟩) m m, .slice (some ⟨kb, 0, none⟩) m m] := Kc.all rfl
          have Kl2 := Blk.others (b := lb) (b' := cb) (by omega) [.slice none 0 0, .slice (some ⟨lb, 0, none⟩) m m, .slice (some ⟨kb, 0, none⟩) m m] 0 Kl
          have Kk2 := Blk.others (b := kb) (b' := cb) (by omega) [.slice none 0 0, .slice (some ⟨lb, 0, none⟩) m m, .slice (some ⟨kb, 0, none⟩) m m] 0 Kk
          have H := (only_sets cb 0 V3 [.slice none 0 0, .slice (some ⟨lb, 0, none⟩) m m, .slice (some ⟨kb, 0, none⟩) m m]).2.2 _ _ hcb hHeld
          dsimp only
          generalize World.setCells V3 cb 0 [.slice none 0 0, .slice (some ⟨lb, 0, none⟩) m m, .slice (some ⟨kb, 0, none⟩) m m] = VF at Kc2 Kl2 Kk2 H ⊢
          refine hK.out _ _ (H) (fun hHeld => ?_)
          clear hK K
          try simp only [zP, zQ, zS, zZ, zC]
          refine wpAnyH_done (by kernel_rfl) ?_ _
          clear hHeld
          go_wp2_with fail
          go_meet
          exact ⟨lb, kb, cb, rfl, Kl2, Kk2, Kc2, by omega, by omega, by omega, hlb, hkb, hcb, H⟩
      · rw [if_pos (by rfl)]
        go_simp
        have Kc : Blk (World.alloc V1 (.cells #[.slice none 0 0, .slice none 0 0, .slice none 0 0] 32)) V1.heap.size 32 [.slice none 0 0, .slice none 0 0, .slice none 0 0] := blk_new V1 _ _
        have X : Below V1.heap.size V1 (World.alloc V1 (.cells #[.slice none 0 0, .slice none 0 0, .slice none 0 0] 32)) := (Below.refl _ _).alloc (Nat.le_refl _) _
        have hcb : W0.heap.size ≤ V1.heap.size := hHeld.size
        have hltck := Kk.lt
        replace Kk := Kk.keep X
        refine hK.out _ _ (link hHeld X) (fun hHeld => ?_)
        clear hK K
        try simp only [zP, zQ, zS, zZ, zC]
        clear X
        generalize World.alloc V1 _ = V2 at Kk Kc hHeld ⊢
        generalize V1.heap.size = cb at Kc hcb hltck ⊢
        refine wpAnyH_ready (rs := [2]) (by kernel_rfl) (by simp) ?_
        refine AllReadyH.cons (o := ⟨some 36, .makeSlice 22 (.tmp 35) (.tmp 35), 22, "ref.go:74", #[⟨1, .data⟩, ⟨1, .data⟩], none⟩) rfl (fun K hK => ?_) AllReadyH.nil
        · rw [if_pos (by rfl)]
          go_simp
          have Kl : Blk (World.alloc V2 (.cells (zeros m) 3)) V2.heap.size 3 (zeros m).toList := blk_new V2 _ _
          have X : Below V2.heap.size V2 (World.alloc V2 (.cells (zeros m) 3)) := (Below.refl _ _).alloc (Nat.le_refl _) _
          have hlb : W0.heap.size ≤ V2.heap.size := hHeld.size
          have hltlk := Kk.lt
          replace Kk := Kk.keep X
          have hltlc := Kc.lt
          replace Kc := Kc.keep X
          refine hK.out _ _ (link hHeld X) (fun hHeld => ?_)
          clear hK K
          try simp only [zP, zQ, zS, zZ, zC]
          clear X
          generalize World.alloc V2 _ = V3 at Kk Kc Kl hHeld ⊢
          generalize V2.heap.size = lb at Kl hlb hltlk hltlc ⊢
          refine wt (i := 6) (oi := ⟨some 40, .build 32 #[(1, .tmp 36), (2, .tmp 39)], 32, "ref.go:74", #[⟨2, .data⟩, ⟨5, .data⟩], none⟩) (v := .agg #[.slice none 0 0, .slice (some ⟨lb, 0, none⟩) m m, .slice (some ⟨kb, 0, none⟩) m m]) (Or.inl ⟨by rfl, fun w' hSw => by go_simp⟩) hHeld ?_
          try simp only [zP, zQ, zS, zZ, zC]
          refine wpAnyH_ready (rs := [8]) (by kernel_rfl) (by simp) ?_
          refine AllReadyH.cons (o := ⟨none, .store 32 (.tmp 10) (.tmp 40), 0, "ref.go:74", #[⟨7, .data⟩, ⟨6, .data⟩, ⟨0, .phase⟩, ⟨1, .phase⟩, ⟨2, .phase⟩, ⟨3, .phase⟩, ⟨4, .phase⟩, ⟨5, .phase⟩, ⟨6, .phase⟩, ⟨7, .phase⟩], none⟩) rfl (fun K hK => ?_) AllReadyH.nil
          rw [if_pos (by rfl)]
          refine wp_store_mid 32 (.tmp 10) (.tmp 40) rfl cb 0 #[.slice none 0 0, .slice (some ⟨lb, 0, none⟩) m m, .slice (some ⟨kb, 0, none⟩) m m] rfl rfl (by simpa using Kc.there 0 3 (by simp)) (by kernel_rfl) (all_oneCell_toArray (by intro v hv; simp at hv; rcases hv with rfl | rfl | rfl <;> rfl)) ?_
          have Kc2 : Blk (V3.setCells cb 0 [.slice none 0 0, .slice (some ⟨lb, 0, none⟩) m m, .slice (some ⟨kb, 0, none⟩) m m]) cb 32 [.slice none 0 0, .slice (some ⟨lb, 0, none⟩) m m, .slice (some ⟨kb, 0, none⟩) m m] := Kc.all rfl
          have Kl2 := Blk.others (b := lb) (b' := cb) (by omega) [.slice none 0 0, .slice (some ⟨lb, 0, none⟩) m m, .slice (some ⟨kb, 0, none⟩) m m] 0 Kl
          have Kk2 := Blk.others (b := kb) (b' := cb) (by omega) [.slice none 0 0, .slice (some ⟨lb, 0, none⟩) m m, .slice (some ⟨kb, 0, none⟩) m m] 0 Kk
          have H := (only_sets cb 0 V3 [.slice none 0 0, .slice (some ⟨lb, 0, none⟩) m m, .slice (some ⟨kb, 0, none⟩) m m]).2.2 _ _ hcb hHeld
          dsimp only
          generalize World.setCells V3 cb 0 [.slice none 0 0, .slice (some ⟨lb, 0, none⟩) m m, .slice (some ⟨kb, 0, none⟩) m m] = VF at Kc2 Kl2 Kk2 H ⊢
          refine hK.out _ _ (H) (fun hHeld => ?_)
          clear hK K
          try simp only [zP, zQ, zS, zZ, zC]
          refine wpAnyH_done (by kernel_rfl) ?_ _
          clear hHeld
          go_wp2_with fail
          go_meet
          exact ⟨lb, kb, cb, rfl, Kl2, Kk2, Kc2, by omega, by omega, by omega, hlb, hkb, hcb, H⟩
    · rw [if_pos (by rfl)]
      go_simp
      have Kc : Blk (World.alloc V0 (.cells #[.slice none 0 0, .slice none 0 0, .slice none 0 0] 32)) V0.heap.size 32 [.slice none 0 0, .slice none 0 0, .slice none 0 0] := blk_new V0 _ _
      have X : Below V0.heap.size V0 (World.alloc V0 (.cells #[.slice none 0 0, .slice none 0 0, .slice none 0 0] 32)) := (Below.refl _ _).alloc (Nat.le_refl _) _
      have hcb : W0.heap.size ≤ V0.heap.size := hHeld.size
      refine hK.out _ _ (link hHeld X) (fun hHeld => ?_)
      clear hK K
      try simp only [zP, zQ, zS, zZ, zC]
      clear X
      generalize World.alloc V0 _ = V1 at Kc hHeld ⊢
      generalize V0.heap.size = cb at Kc hcb ⊢
      refine wpAnyH_ready (rs := [2, 5]) (by kernel_rfl) (by simp) ?_
      refine AllReadyH.cons (o := ⟨some 36, .makeSlice 22 (.tmp 35) (.tmp 35), 22, "ref.go:74", #[⟨1, .data⟩, ⟨1, .data⟩], none⟩) rfl (fun K hK => ?_) (AllReadyH.cons (o := ⟨some 39, .makeSlice 22 (.tmp 38) (.tmp 38), 22, "ref.go:74", #[⟨4, .data⟩, ⟨4, .data⟩], none⟩) rfl (fun K hK => ?_) AllReadyH.nil)
      · rw [if_pos (by rfl)]
        go_simp
        have Kl : Blk (World.alloc V1 (.cells (zeros m) 3)) V1.heap.size 3 (zeros m).toList := blk_new V1 _ _
        have X : Below V1.heap.size V1 (World.alloc V1 (.cells (zeros m) 3)) := (Below.refl _ _).alloc (Nat.le_refl _) _
        have hlb : W0.heap.size ≤ V1.heap.size := hHeld.size
        have hltlc := Kc.lt
        replace Kc := Kc.keep X
        refine hK.out _ _ (link hHeld X) (fun hHeld => ?_)
        clear hK K
        try simp only [zP, zQ, zS, zZ, zC]
        clear X
        generalize World.alloc V1 _ = V2 at Kc Kl hHeld ⊢
        generalize V1.heap.size = lb at Kl hlb hltlc ⊢
        refine wpAnyH_ready (rs := [5]) (by kernel_rfl) (by simp) ?_
        refine AllReadyH.cons (o := ⟨some 39, .makeSlice 22 (.tmp 38) (.tmp 38), 22, "ref.go:74", #[⟨4, .data⟩, ⟨4, .data⟩], none⟩) rfl (fun K hK => ?_) AllReadyH.nil
        · rw [if_pos (by rfl)]
          go_simp
          have Kk : Blk (World.alloc V2 (.cells (zeros m) 3)) V2.heap.size 3 (zeros m).toList := blk_new V2 _ _
          have X : Below V2.heap.size V2 (World.alloc V2 (.cells (zeros m) 3)) := (Below.refl _ _).alloc (Nat.le_refl _) _
          have hkb : W0.heap.size ≤ V2.heap.size := hHeld.size
          have hltkc := Kc.lt
          replace Kc := Kc.keep X
          have hltkl := Kl.lt
          replace Kl := Kl.keep X
          refine hK.out _ _ (link hHeld X) (fun hHeld => ?_)
          clear hK K
          try simp only [zP, zQ, zS, zZ, zC]
          clear X
          generalize World.alloc V2 _ = V3 at Kc Kl Kk hHeld ⊢
          generalize V2.heap.size = kb at Kk hkb hltkc hltkl ⊢
          refine wt (i := 6) (oi := ⟨some 40, .build 32 #[(1, .tmp 36), (2, .tmp 39)], 32, "ref.go:74", #[⟨2, .data⟩, ⟨5, .data⟩], none⟩) (v := .agg #[.slice none 0 0, .slice (some ⟨lb, 0, none⟩) m m, .slice (some ⟨kb, 0, none⟩) m m]) (Or.inl ⟨by rfl, fun w' hSw => by go_simp⟩) hHeld ?_
          try simp only [zP, zQ, zS, zZ, zC]
          refine wpAnyH_ready (rs := [8]) (by kernel_rfl) (by simp) ?_
          refine AllReadyH.cons (o := ⟨none, .store 32 (.tmp 10) (.tmp 40), 0, "ref.go:74", #[⟨7, .data⟩, ⟨6, .data⟩, ⟨0, .phase⟩, ⟨1, .phase⟩, ⟨2, .phase⟩, ⟨3, .phase⟩, ⟨4, .phase⟩, ⟨5, .phase⟩, ⟨6, .phase⟩, ⟨7, .phase⟩], none⟩) rfl (fun K hK => ?_) AllReadyH.nil
          rw [if_pos (by rfl)]
          refine wp_store_mid 32 (.tmp 10) (.tmp 40) rfl cb 0 #[.slice none 0 0, .slice (some ⟨lb, 0, none⟩) m m, .slice (some ⟨kb, 0, none⟩) m m] rfl rfl (by simpa using Kc.there 0 3 (by simp)) (by kernel_rfl) (all_oneCell_toArray (by intro v hv; simp at hv; rcases hv with rfl | rfl | rfl <;> rfl)) ?_
          have Kc2 : Blk (V3.setCells cb 0 [.slice none 0 0, .slice (some ⟨lb, 0, none⟩) m m, .slice (some ⟨kb, 0, none⟩) m m]) cb 32 [.slice none 0 0, .slice (some ⟨lb, 0, none⟩) m m, .slice (some ⟨kb, 0, none⟩) m m] := Kc.all rfl
          have Kl2 := Blk.others (b := lb) (b' := cb) (by omega) [.slice none 0 0, .slice (some ⟨lb, 0, none⟩) m m, .slice (some ⟨kb, 0, none⟩) m m] 0 Kl
          have Kk2 := Blk.others (b := kb) (b' := cb) (by omega) [.slice none 0 0, .slice (some ⟨lb, 0, none⟩) m m, .slice (some ⟨kb, 0, none⟩) m m] 0 Kk
          have H := (only_sets cb 0 V3 [.slice none 0 0, .slice (some ⟨lb, 0, none⟩) m m, .slice (some ⟨kb, 0, none⟩) m m]).2.2 _ _ hcb hHeld
          dsimp only
          generalize World.setCells V3 cb 0 [.slice none 0 0, .slice (some ⟨lb, 0, none⟩) m m, .slice (some ⟨kb, 0, none⟩) m m] = VF at Kc2 Kl2 Kk2 H ⊢
          refine hK.out _ _ (H) (fun hHeld => ?_)
          clear hK K
          try simp only [zP, zQ, zS, zZ, zC]
          refine wpAnyH_done (by kernel_rfl) ?_ _
          clear hHeld
          go_wp2_with fail
          go_meet
          exact ⟨lb, kb, cb, rfl, Kl2, Kk2, Kc2, by omega, by omega, by omega, hlb, hkb, hcb, H⟩
      · rw [if_pos (by rfl)]
        go_simp
        have Kk : Blk (World.alloc V1 (.cells (zeros m) 3)) V1.heap.size 3 (zeros m).toList := blk_new V1 _ _
        have X : Below V1.heap.size V1 (World.alloc V1 (.cells (zeros m) 3)) := (Below.refl _ _).alloc (Nat.le_refl _) _
        have hkb : W0.heap.size ≤ V1.heap.size := hHeld.size
        have hltkc := Kc.lt
        replace Kc := Kc.keep X
        refine hK.out _ _ (link hHeld X) (fun hHeld => ?_)
        clear hK K
        try simp only [zP, zQ, zS, zZ, zC]
        clear X
        generalize World.alloc V1 _ = V2 at Kc Kk hHeld ⊢
        generalize V1.heap.size = kb at Kk hkb hltkc ⊢
        refine wpAnyH_ready (rs := [2]) (by kernel_rfl) (by simp) ?_
        refine AllReadyH.cons (o := ⟨some 36, .makeSlice 22 (.tmp 35) (.tmp 35), 22, "ref.go:74", #[⟨1, .data⟩, ⟨1, .data⟩], none⟩) rfl (fun K hK => ?_) AllReadyH.nil
        · rw [if_pos (by rfl)]
          go_simp
          have Kl : Blk (World.alloc V2 (.cells (zeros m) 3)) V2.heap.size 3 (zeros m).toList := blk_new V2 _ _
          have X : Below V2.heap.size V2 (World.alloc V2 (.cells (zeros m) 3)) := (Below.refl _ _).alloc (Nat.le_refl _) _
          have hlb : W0.heap.size ≤ V2.heap.size := hHeld.size
          have hltlc := Kc.lt
          replace Kc := Kc.keep X
          have hltlk := Kk.lt
          replace Kk := Kk.keep X
          refine hK.out _ _ (link hHeld X) (fun hHeld => ?_)
          clear hK K
          try simp only [zP, zQ, zS, zZ, zC]
          clear X
          generalize World.alloc V2 _ = V3 at Kc Kk Kl hHeld ⊢
          generalize V2.heap.size = lb at Kl hlb hltlc hltlk ⊢
          refine wt (i := 6) (oi := ⟨some 40, .build 32 #[(1, .tmp 36), (2, .tmp 39)], 32, "ref.go:74", #[⟨2, .data⟩, ⟨5, .data⟩], none⟩) (v := .agg #[.slice none 0 0, .slice (some ⟨lb, 0, none⟩) m m, .slice (some ⟨kb, 0, none⟩) m m]) (Or.inl ⟨by rfl, fun w' hSw => by go_simp⟩) hHeld ?_
          try simp only [zP, zQ, zS, zZ, zC]
          refine wpAnyH_ready (rs := [8]) (by kernel_rfl) (by simp) ?_
          refine AllReadyH.cons (o := ⟨none, .store 32 (.tmp 10) (.tmp 40), 0, "ref.go:74", #[⟨7, .data⟩, ⟨6, .data⟩, ⟨0, .phase⟩, ⟨1, .phase⟩, ⟨2, .phase⟩, ⟨3, .phase⟩, ⟨4, .phase⟩, ⟨5, .phase⟩, ⟨6, .phase⟩, ⟨7, .phase⟩], none⟩) rfl (fun K hK => ?_) AllReadyH.nil
          rw [if_pos (by rfl)]
          refine wp_store_mid 32 (.tmp 10) (.tmp 40) rfl cb 0 #[.slice none 0 0, .slice (some ⟨lb, 0, none⟩) m m, .slice (some ⟨kb, 0, none⟩) m m] rfl rfl (by simpa using Kc.there 0 3 (by simp)) (by kernel_rfl) (all_oneCell_toArray (by intro v hv; simp at hv; rcases hv with rfl | rfl | rfl <;> rfl)) ?_
          have Kc2 : Blk (V3.setCells cb 0 [.slice none 0 0, .slice (some ⟨lb, 0, none⟩) m m, .slice (some ⟨kb, 0, none⟩) m m]) cb 32 [.slice none 0 0, .slice (some ⟨lb, 0, none⟩) m m, .slice (some ⟨kb, 0, none⟩) m m] := Kc.all rfl
          have Kl2 := Blk.others (b := lb) (b' := cb) (by omega) [.slice none 0 0, .slice (some ⟨lb, 0, none⟩) m m, .slice (some ⟨kb, 0, none⟩) m m] 0 Kl
          have Kk2 := Blk.others (b := kb) (b' := cb) (by omega) [.slice none 0 0, .slice (some ⟨lb, 0, none⟩) m m, .slice (some ⟨kb, 0, none⟩) m m] 0 Kk
          have H := (only_sets cb 0 V3 [.slice none 0 0, .slice (some ⟨lb, 0, none⟩) m m, .slice (some ⟨kb, 0, none⟩) m m]).2.2 _ _ hcb hHeld
          dsimp only
          generalize World.setCells V3 cb 0 [.slice none 0 0, .slice (some ⟨lb, 0, none⟩) m m, .slice (some ⟨kb, 0, none⟩) m m] = VF at Kc2 Kl2 Kk2 H ⊢
          refine hK.out _ _ (H) (fun hHeld => ?_)
          clear hK K
          try simp only [zP, zQ, zS, zZ, zC]
          refine wpAnyH_done (by kernel_rfl) ?_ _
          clear hHeld
          go_wp2_with fail
          go_meet
          exact ⟨lb, kb, cb, rfl, Kl2, Kk2, Kc2, by omega, by omega, by omega, hlb, hkb, hcb, H⟩
  case rest =>
    obtain ⟨lb, kb, cb, rfl, Kl, Kk, Kc, nlk, nlc, nkc, hlb, hkb, hcb, hBc⟩ := hcut
    have hmk := fun V : World => mk_int m (by omega) V
    have hnm := HNM.out
    go_upto_region 9 with (fail)
    clear hnm
    have Kn := blk_new wc 3 (zeros m)
    have Xn : Below wc.heap.size wc (wc.alloc (.cells (zeros m) 3)) := (Below.refl _ _).alloc (Nat.le_refl _) _
    have hln := Kl.lt
    have hkn := Kk.lt
    have hcn := Kc.lt
    have hnbw := hBc.size
    replace Kl := Kl.keep Xn
    replace Kk := Kk.keep Xn
    replace Kc := Kc.keep Xn
    have hX := link hBc Xn
    generalize World.alloc wc _ = W9 at Kn Kl Kk Kc hX ⊢
    obtain ⟨nb, hnb⟩ : ∃ nb, wc.heap.size = nb := ⟨_, rfl⟩
    rw [hnb] at Kn hln hkn hcn hnbw
    rw [hnb]
    have nln : lb ≠ nb := by omega
    have nkn : kb ≠ nb := by omega
    have nnc : nb ≠ cb := by omega
    have HMM := Lib.hid (show (zeros m).toList = iv (List.replicate (n + 1) 0) from by unfold zeros iv; rw [HM.out]; simp)
    have HNN := Lib.hid (show (zeros m).toList = nv (List.replicate n 0 ++ [0]) from by unfold zeros nv; rw [← HM.out, ← List.replicate_succ']; simp)
    rw [HNN.out] at Kn
    rw [HMM.out] at Kl Kk
    have HFT := Lib.hid (show fillT l bl wd = outT l bl wd n n (List.replicate (n + 1) 0, List.replicate (n + 1) 0, List.replicate n 0) from by unfold fillT; rw [HL.out])
    clear hBc Xn hnb hln hkn hcn hmk
    go_wp2
    go_loopw [12] (fun v wr => RFi l bl wd n m lb kb nb cb W0 v wr) (fun v _ => (intOf v + 1).toNat)
    case atStart => exact ⟨n, _, _, _, _, rfl, by omega, Nat.le_refl _, good_zero n, fun j hj => by rw [List.getElem?_replicate, List.getElem?_replicate, if_pos (by omega), if_pos (by omega)]; exact ⟨rfl, rfl, rfl⟩, HFT.out.symm, Kl, Kk, Kn, Kc, hX⟩
    case round =>
      clear Kl Kk Kn Kc hX
      obtain ⟨p, x, L, C, N, rfl, hx, ht, hG, hFresh, hOut, Kl, Kk, Kn, Kc, hX⟩ := hrel
      rcases Nat.eq_zero_or_pos p with h0 | h0
      · subst h0
        obtain rfl : x = -1 := by omega
        have HFT2 := Lib.hid (show fillT l bl wd = (L, C, N) from hOut.symm)
        have hN := hG.2.2.2.2
        have hN : ∀ j, j < n → j < N.getD j 0 ∧ N.getD j 0 ≤ n := fun j hj => hN j (Nat.zero_le _) hj
        have g1 : L.length = n + 1 := hG.1
        have g2 : C.length = n + 1 := hG.2.1
        have g3 : N.length = n := hG.2.2.1
        have HN := Lib.hid hN
        clear hG hFresh hOut hN
        go_wp2
        go_loopw [16] (fun v wr => REn (endsT N n n 0) L C N n m lb kb nb cb W0 v wr) (fun v _ => n - (intOf v).toNat)
        case atStart =>
          have ob : ∀ x : Nat, Value.ownBlock (.slice none ([] : List Int).length 0) ≠ some x := fun x h => (by cases h)
          exact ⟨0, [], none, 0, rfl, Nat.zero_le _, rfl, Nat.le_refl _, OwnR.nil _ _ _, ob lb, ob kb, ob nb, ob cb, Kl, Kk, Kn, Kc, hX⟩
        case round =>
          clear Kl Kk Kn Kc hX
          obtain ⟨k, acc, q, ce, rfl, hk, hE, hal, hO, ol, ok, on, oc, Kl, Kk, Kn, Kc, hX⟩ := hrel
          rcases Nat.lt_or_ge k n with hlt | hge
          · obtain ⟨x, hx⟩ : ∃ x, N[k]? = some x := ⟨_, List.getElem?_eq_getElem (by omega)⟩
            have dx : N.getD k 0 = x := by rw [List.getD_eq_getElem?_getD, hx]; rfl
            obtain ⟨hx1, hx2⟩ := HN.out k hlt
            rw [dx] at hx1 hx2
            have hxc : (nv (N ++ [0]))[k]? = some (.int .i64 (x : Int)) := nv_get (by rw [List.getElem?_append_left (by omega)]; exact hx)
            have HEn := Lib.hid (show (acc ++ [(x : Int)]) ++ endsT N n n x = endsT N n n 0 from by rw [← hE, endsT_next HN.out hlt, dx, List.append_assoc]; rfl)
            have hkm : k < m := by have := HM.out; omega
            clear hE dx hx
            go_upto_region 25 with (fail)
            refine wp_region_held_drew (S := fun w' => Blk w' nb 3 (nv (N ++ [0]))) (by kernel_rfl) (Kn.drew) (fun _ => ?_)
            have hHeld : Blk wr.drew nb 3 (nv (N ++ [0])) := Kn.drew
            replace Kl : Blk wr.drew lb 3 (iv L) := Kl
            replace Kk : Blk wr.drew kb 3 (iv C) := Kk
            replace Kc : Blk wr.drew cb 32 [.slice q acc.length ce, .slice (some ⟨lb, 0, none⟩) m m, .slice (some ⟨kb, 0, none⟩) m m] := Kc
            replace hO : OwnR intE wr.drew W0.heap.size (.slice q acc.length ce) acc := hO
            replace hX := below_drew hX
            generalize wr.drew = V0 at hHeld Kl Kk Kc hO hX ⊢
            refine wt (i := 0) (oi := ⟨some 134, .fieldAddr 32 (.tmp 10) 0, 0, "ref.go:91", #[], none⟩) (v := .pointer (some ⟨cb, 0, none⟩)) (Or.inl ⟨by rfl, fun w' hSw => by go_simp⟩) hHeld ?_
            try simp only [zP, zQ, zS, zZ, zC]
            refine wt (i := 2) (oi := ⟨some 136, .move (.tmp 11), 22, "ref.go:91", #[], none⟩) (v := .slice (some ⟨nb, 0, none⟩) m m) (Or.inl ⟨by rfl, fun w' hSw => by go_simp⟩) hHeld ?_
            try simp only [zP, zQ, zS, zZ, zC]
            refine wt (i := 3) (oi := ⟨some 137, .move (.tmp 16), 3, "ref.go:91", #[], none⟩) (v := .int .i64 (k : Int)) (Or.inl ⟨by rfl, fun w' hSw => by go_simp⟩) hHeld ?_
            try simp only [zP, zQ, zS, zZ, zC]
            refine wt (i := 4) (oi := ⟨some 138, .indexAddr 22 (.tmp 136) (.tmp 137), 0, "ref.go:91", #[⟨2, .data⟩, ⟨3, .data⟩], none⟩) (v := .pointer (some ⟨nb, k, none⟩)) (Or.inl ⟨by rfl, fun w' hSw => by go_simp; try (intro hcm; exact absurd hcm (by omega))⟩) hHeld ?_
            try simp only [zP, zQ, zS, zZ, zC]
            refine wt (i := 5) (oi := ⟨some 139, .load 3 (.tmp 138), 3, "ref.go:91", #[⟨4, .data⟩], none⟩) (v := .int .i64 (x : Int)) (Or.inl ⟨by rfl, fun w' hSw => by have hc := hSw.cell hxc; go_simp⟩) hHeld ?_
            try simp only [zP, zQ, zS, zZ, zC]
            have hz0 : W0.heap.size ≤ V0.heap.size := hX.size
            have hltc := Kc.lt
            have hltl := Kl.lt
            have hltk := Kk.lt
            have hltn := hHeld.lt
            have Kc0 := Kc
            have Kn0 := hHeld
            refine wpAnyH_ready (rs := [1, 6]) (by kernel_rfl) (by simp) ?_
            refine AllReadyH.cons (o := ⟨some 135, .load 22 (.tmp 134), 22, "ref.go:91", #[⟨0, .data⟩], none⟩) rfl (fun K hK => ?_) (AllReadyH.cons (o := ⟨some 140, .buildSlice 22 1 #[(0, .tmp 139)], 22, "ref.go:91", #[⟨5, .data⟩], none⟩) rfl (fun K hK => ?_) AllReadyH.nil)
            · skip
              rw [if_pos (by rfl)]
              have hc0 := Kc.cell (j := 0) rfl
              go_simp
              clear hc0
              refine hK.out _ _ (hHeld) (fun hHeld => ?_)
              clear hK K
              try simp only [zP, zQ, zS, zZ, zC]
              refine wpAnyH_ready (rs := [6]) (by kernel_rfl) (by simp) ?_
              refine AllReadyH.cons (o := ⟨some 140, .buildSlice 22 1 #[(0, .tmp 139)], 22, "ref.go:91", #[⟨5, .data⟩], none⟩) rfl (fun K hK => ?_) AllReadyH.nil
              rw [if_pos (by rfl)]
              go_simp
              have X : Below V0.heap.size V0 (World.alloc V0 (.cells #[.int .i64 (x : Int)] 3)) := (Below.refl _ _).alloc (Nat.le_refl _) _
              replace Kc := Kc.keep X
              refine hK.out _ _ (hHeld.keep X) (fun hHeld => ?_)
              clear hK K
              try simp only [zP, zQ, zS, zZ, zC]
              refine wpAnyH_ready (rs := [7]) (by kernel_rfl) (by simp) ?_
              refine AllReadyH.cons (o := ⟨some 141, .call { callee := .builtin .append, args := #[.tmp 135, .tmp 140], argTypes := #[22, 22] }, 22, "ref.go:91", #[⟨1, .data⟩, ⟨6, .data⟩], none⟩) rfl (fun K hK => ?_) AllReadyH.nil
              rw [if_pos (by rfl)]
              refine push_at intE (w := V0) (.tmp 135) (.tmp 140) rfl acc (x : Int) _ rfl hO hz0 _ rfl _ rfl (by omega) ?_
              intro v4 V2 hO4 hB4 hR4 hat
              obtain ⟨q4, c4, rfl, _, _, _, _⟩ := hO4.form
              obtain ⟨m4, hm4⟩ : ∃ m4, (acc ++ [(x : Int)]).length = m4 := ⟨_, rfl⟩
              rw [hm4] at hO4 hat ⊢
              have HM4 := Lib.hid hm4
              have hm5 : m4 = acc.length + 1 := by rw [← hm4]; simp
              have HM5 := Lib.hid hm5
              clear hm4 hm5
              have Kl4 := hR4 lb _ _ ol Kl
              have Kk4 := hR4 kb _ _ ok Kk
              have Kc4 : Blk V2 cb 32 [.slice q acc.length ce, .slice (some ⟨lb, 0, none⟩) m m, .slice (some ⟨kb, 0, none⟩) m m] := hR4 cb _ _ oc Kc0
              have hX4 := hX.trans hB4
              have lb4 : Value.ownBlock (.slice q4 m4 c4) ≠ some lb := by rcases hat with e | e; (rw [e]; exact ol); (rw [e]; intro h; injection h with h; omega)
              have kb4 : Value.ownBlock (.slice q4 m4 c4) ≠ some kb := by rcases hat with e | e; (rw [e]; exact ok); (rw [e]; intro h; injection h with h; omega)
              have nb4 : Value.ownBlock (.slice q4 m4 c4) ≠ some nb := by rcases hat with e | e; (rw [e]; exact on); (rw [e]; intro h; injection h with h; omega)
              have cb4 : Value.ownBlock (.slice q4 m4 c4) ≠ some cb := by rcases hat with e | e; (rw [e]; exact oc); (rw [e]; intro h; injection h with h; omega)
              refine hK.out _ _ (hR4 nb _ _ on Kn0) (fun hHeld => ?_)
              clear hK K
              try simp only [zP, zQ, zS, zZ, zC]
              refine wt (i := 8) (oi := ⟨some 142, .fieldAddr 32 (.tmp 10) 0, 0, "ref.go:91", #[⟨0, .phase⟩, ⟨1, .phase⟩, ⟨2, .phase⟩, ⟨3, .phase⟩, ⟨4, .phase⟩, ⟨5, .phase⟩, ⟨6, .phase⟩, ⟨7, .phase⟩], none⟩) (v := .pointer (some ⟨cb, 0, none⟩)) (Or.inl ⟨by rfl, fun w' hSw => by go_simp⟩) hHeld ?_
              try simp only [zP, zQ, zS, zZ, zC]
              have hcq := Kc4.cell (j := 0) rfl
              have hfq := Kc4.free 0
              refine wpAnyH_ready (rs := [9]) (by kernel_rfl) (by simp) ?_
              refine AllReadyH.cons (o := ⟨none, .store 22 (.tmp 142) (.tmp 141), 0, "ref.go:91", #[⟨8, .data⟩, ⟨7, .data⟩, ⟨7, .chain⟩, ⟨0, .phase⟩, ⟨1, .phase⟩, ⟨2, .phase⟩, ⟨3, .phase⟩, ⟨4, .phase⟩, ⟨5, .phase⟩, ⟨6, .phase⟩, ⟨7, .phase⟩], none⟩) rfl (fun K hK => ?_) AllReadyH.nil
              rw [if_pos (by rfl)]
              go_simp
              have Kc5 := Kc4.set 0 (.slice q4 m4 c4)
              have Kl5 := Kl4.other (a := ⟨cb, 0, none⟩) nlc (.slice q4 m4 c4)
              have Kk5 := Kk4.other (a := ⟨cb, 0, none⟩) nkc (.slice q4 m4 c4)
              have hO5 := hO4.only (only_set cb 0 V2 (.slice q4 m4 c4)) cb4
              have hX5 : Below W0.heap.size W0 (V2.setCell ⟨cb, 0, none⟩ (.slice q4 m4 c4)) := hX4.setCell hcb _
              refine hK.out _ _ (hHeld.other (a := ⟨cb, 0, none⟩) nnc _) (fun hHeld => ?_)
              clear hK K
              try simp only [zP, zQ, zS, zZ, zC]
              refine wpAnyH_done (by kernel_rfl) ?_ _
              have Kn5 := hHeld
              clear hcq hfq hHeld
              generalize World.setCell V2 ⟨cb, 0, none⟩ _ = V5 at Kc5 Kl5 Kk5 Kn5 hO5 hX5 ⊢
              have cx := Kn5.cell hxc
              go_wp2
              exact ⟨⟨x, acc ++ [(x : Int)], q4, c4, rfl, hx2, HEn.out, by have := HM4.out; have := HM5.out; omega, by rw [HM4.out]; exact hO5, by rw [HM4.out]; exact lb4, by rw [HM4.out]; exact kb4, by rw [HM4.out]; exact nb4, by rw [HM4.out]; exact cb4, Kl5, Kk5, Kn5, by rw [HM4.out]; exact Kc5, hX5⟩, by simp [intOf]; omega⟩
            · skip
              rw [if_pos (by rfl)]
              go_simp
              have X : Below V0.heap.size V0 (World.alloc V0 (.cells #[.int .i64 (x : Int)] 3)) := (Below.refl _ _).alloc (Nat.le_refl _) _
              replace Kc := Kc.keep X
              refine hK.out _ _ (hHeld.keep X) (fun hHeld => ?_)
              clear hK K
              try simp only [zP, zQ, zS, zZ, zC]
              refine wpAnyH_ready (rs := [1]) (by kernel_rfl) (by simp) ?_
              refine AllReadyH.cons (o := ⟨some 135, .load 22 (.tmp 134), 22, "ref.go:91", #[⟨0, .data⟩], none⟩) rfl (fun K hK => ?_) AllReadyH.nil
              rw [if_pos (by rfl)]
              have hc0 := Kc.cell (j := 0) rfl
              go_simp
              clear hc0
              refine hK.out _ _ (hHeld) (fun hHeld => ?_)
              clear hK K
              try simp only [zP, zQ, zS, zZ, zC]
              refine wpAnyH_ready (rs := [7]) (by kernel_rfl) (by simp) ?_
              refine AllReadyH.cons (o := ⟨some 141, .call { callee := .builtin .append, args := #[.tmp 135, .tmp 140], argTypes := #[22, 22] }, 22, "ref.go:91", #[⟨1, .data⟩, ⟨6, .data⟩], none⟩) rfl (fun K hK => ?_) AllReadyH.nil
              rw [if_pos (by rfl)]
              refine push_at intE (w := V0) (.tmp 135) (.tmp 140) rfl acc (x : Int) _ rfl hO hz0 _ rfl _ rfl (by omega) ?_
              intro v4 V2 hO4 hB4 hR4 hat
              obtain ⟨q4, c4, rfl, _, _, _, _⟩ := hO4.form
              obtain ⟨m4, hm4⟩ : ∃ m4, (acc ++ [(x : Int)]).length = m4 := ⟨_, rfl⟩
              rw [hm4] at hO4 hat ⊢
              have HM4 := Lib.hid hm4
              have hm5 : m4 = acc.length + 1 := by rw [← hm4]; simp
              have HM5 := Lib.hid hm5
              clear hm4 hm5
              have Kl4 := hR4 lb _ _ ol Kl
              have Kk4 := hR4 kb _ _ ok Kk
              have Kc4 : Blk V2 cb 32 [.slice q acc.length ce, .slice (some ⟨lb, 0, none⟩) m m, .slice (some ⟨kb, 0, none⟩) m m] := hR4 cb _ _ oc Kc0
              have hX4 := hX.trans hB4
              have lb4 : Value.ownBlock (.slice q4 m4 c4) ≠ some lb := by rcases hat with e | e; (rw [e]; exact ol); (rw [e]; intro h; injection h with h; omega)
              have kb4 : Value.ownBlock (.slice q4 m4 c4) ≠ some kb := by rcases hat with e | e; (rw [e]; exact ok); (rw [e]; intro h; injection h with h; omega)
              have nb4 : Value.ownBlock (.slice q4 m4 c4) ≠ some nb := by rcases hat with e | e; (rw [e]; exact on); (rw [e]; intro h; injection h with h; omega)
              have cb4 : Value.ownBlock (.slice q4 m4 c4) ≠ some cb := by rcases hat with e | e; (rw [e]; exact oc); (rw [e]; intro h; injection h with h; omega)
              refine hK.out _ _ (hR4 nb _ _ on Kn0) (fun hHeld => ?_)
              clear hK K
              try simp only [zP, zQ, zS, zZ, zC]
              refine wt (i := 8) (oi := ⟨some 142, .fieldAddr 32 (.tmp 10) 0, 0, "ref.go:91", #[⟨0, .phase⟩, ⟨1, .phase⟩, ⟨2, .phase⟩, ⟨3, .phase⟩, ⟨4, .phase⟩, ⟨5, .phase⟩, ⟨6, .phase⟩, ⟨7, .phase⟩], none⟩) (v := .pointer (some ⟨cb, 0, none⟩)) (Or.inl ⟨by rfl, fun w' hSw => by go_simp⟩) hHeld ?_
              try simp only [zP, zQ, zS, zZ, zC]
              have hcq := Kc4.cell (j := 0) rfl
              have hfq := Kc4.free 0
              refine wpAnyH_ready (rs := [9]) (by kernel_rfl) (by simp) ?_
              refine AllReadyH.cons (o := ⟨none, .store 22 (.tmp 142) (.tmp 141), 0, "ref.go:91", #[⟨8, .data⟩, ⟨7, .data⟩, ⟨7, .chain⟩, ⟨0, .phase⟩, ⟨1, .phase⟩, ⟨2, .phase⟩, ⟨3, .phase⟩, ⟨4, .phase⟩, ⟨5, .phase⟩, ⟨6, .phase⟩, ⟨7, .phase⟩], none⟩) rfl (fun K hK => ?_) AllReadyH.nil
              rw [if_pos (by rfl)]
              go_simp
              have Kc5 := Kc4.set 0 (.slice q4 m4 c4)
              have Kl5 := Kl4.other (a := ⟨cb, 0, none⟩) nlc (.slice q4 m4 c4)
              have Kk5 := Kk4.other (a := ⟨cb, 0, none⟩) nkc (.slice q4 m4 c4)
              have hO5 := hO4.only (only_set cb 0 V2 (.slice q4 m4 c4)) cb4
              have hX5 : Below W0.heap.size W0 (V2.setCell ⟨cb, 0, none⟩ (.slice q4 m4 c4)) := hX4.setCell hcb _
              refine hK.out _ _ (hHeld.other (a := ⟨cb, 0, none⟩) nnc _) (fun hHeld => ?_)
              clear hK K
              try simp only [zP, zQ, zS, zZ, zC]
              refine wpAnyH_done (by kernel_rfl) ?_ _
              have Kn5 := hHeld
              clear hcq hfq hHeld
              generalize World.setCell V2 ⟨cb, 0, none⟩ _ = V5 at Kc5 Kl5 Kk5 Kn5 hO5 hX5 ⊢
              have cx := Kn5.cell hxc
              go_wp2
              exact ⟨⟨x, acc ++ [(x : Int)], q4, c4, rfl, hx2, HEn.out, by have := HM4.out; have := HM5.out; omega, by rw [HM4.out]; exact hO5, by rw [HM4.out]; exact lb4, by rw [HM4.out]; exact kb4, by rw [HM4.out]; exact nb4, by rw [HM4.out]; exact cb4, Kl5, Kk5, Kn5, by rw [HM4.out]; exact Kc5, hX5⟩, by simp [intOf]; omega⟩
          · obtain rfl : k = n := by omega
            have hlt : ¬ k < k := by omega
            rw [endsT_end (Nat.le_refl _), List.append_nil] at hE
            have Kr := HRes.out wr hX
            have HE := Lib.hid hE
            have X3 := link Xr hX
            clear hE
            go_wp2_with (first
              | (refine wpList_load_mid rfl 32 (.tmp 10) rfl cb 0 rfl [.slice q acc.length ce, .slice (some ⟨lb, 0, none⟩) m m, .slice (some ⟨kb, 0, none⟩) m m] _ (by have := Kc.range 0 3; exact this) Try.underlying32 rfl (by kernel_rfl) ?_)
              | (refine store_blk rfl 32 (.tmp 6) (.tmp 143) rfl Kr rfl rfl (vs := [.slice q acc.length ce, .slice (some ⟨lb, 0, none⟩) m m, .slice (some ⟨kb, 0, none⟩) m m]) (m := 3) (by kernel_rfl) rfl rfl (by intro v hv; simp at hv; rcases hv with rfl | rfl | rfl <;> rfl) ?_; intro W9 K9 O9))
            try simp only [zP, zQ, zS, zZ, zC]
            go_wp2
            have B9 : Below w.heap.size w W9 := O9.2.2 _ _ hwrp X3
            have hrl : rp ≠ lb := by have := hrp0; omega
            have hrk : rp ≠ kb := by have := hrp0; omega
            have hO9 := hO.only O9 (fun e => by have := (World.ownsRow.lt hO rp e).1; have := hrp0; omega)
            obtain ⟨q', c', hv, _, hA9, _, _⟩ := hO9.form
            injection hv with e1 e2 e3
            subst e1 e3
            have hml : m = L.length := by have := HM.out; omega
            have hmc : m = C.length := by have := HM.out; omega
            refine bodyPost_ret (v := .tuple #[.agg #[.slice q acc.length ce, .slice (some ⟨lb, 0, none⟩) m m, .slice (some ⟨kb, 0, none⟩) m m], .int .i64 0]) (results_and (by rfl) _ _ rfl rfl (K9.loadVarS Try.underlying32 (by kernel_rfl))) rfl ?_
            rw [HFT2.out]
            show CertR _ (endsT N k k 0) L C 0 w _ _
            refine ⟨q, some ⟨lb, 0, none⟩, some ⟨kb, 0, none⟩, ce, m, m, by rw [← HE.out, ← hml, ← hmc], by rw [← HE.out]; exact hA9, at_blk (E := intE) (O9.2.1 lb _ _ hrl.symm Kl) (by rw [row_iv]; exact List.take_of_length_le (by unfold iv; rw [List.length_map, show intE.k = 1 from rfl]; omega)), at_blk (E := intE) (O9.2.1 kb _ _ hrk.symm Kk) (by rw [row_iv]; exact List.take_of_length_le (by unfold iv; rw [List.length_map, show intE.k = 1 from rfl]; omega)), B9⟩
      · obtain ⟨k, rfl⟩ : ∃ k, p = k + 1 := ⟨p - 1, by omega⟩
        obtain rfl : x = (k : Int) := by omega
        have hkn : k < n := by omega
        obtain ⟨f1, f2, f3⟩ := hFresh k (by omega)
        obtain ⟨R, hR⟩ : ∃ R, cell l bl wd n k L C = R := ⟨_, rfl⟩
        have HGood := Lib.hid (show Good n k (L.set k R.1, C.set k R.2.1, N.set k R.2.2) from by
          have := good_cell HFi.out HZ.out (k := k) (by rw [HL.out]; exact hkn) (by rw [HL.out]; exact hG)
          rw [HL.out, hR] at this
          exact this)
        have HOut := Lib.hid (show outT l bl wd n k (L.set k R.1, C.set k R.2.1, N.set k R.2.2) = fillT l bl wd from by rw [← hOut, ← hR]; rfl)
        have HFre := Lib.hid (show ∀ j, j < k → (L.set k R.1)[j]? = some 0 ∧ (C.set k R.2.1)[j]? = some 0 ∧ (N.set k R.2.2)[j]? = some 0 from fun j hj => by
          rw [List.getElem?_set_ne (by omega), List.getElem?_set_ne (by omega), List.getElem?_set_ne (by omega)]
          exact hFresh j (by omega))
        have HR := Lib.hid (show dpIn (frT l bl wd k) (prT l bl wd k) (fun j => L.getD j 0) (fun j => C.getD j 0) n (n + 1 - (k + 1)) (k + 1) (0, 0, 0) = R from by rw [← hR]; unfold cell; congr 1; omega)
        have HGd := Lib.hid hG
        have g3 : N.length = n := hG.2.2.1
        have fN : (N ++ [0])[k]? = some 0 := by rw [List.getElem?_append_left (by omega)]; exact f3
        rw [← set_id f1] at Kl
        rw [← set_id f2] at Kk
        rw [← set_id fN] at Kn
        have HFin := Lib.hid (fun (V : World) (h1 : Blk V lb 3 (iv (L.set k R.1))) (h2 : Blk V kb 3 (iv (C.set k R.2.1))) (h3 : Blk V nb 3 (nv ((N ++ [0]).set k R.2.2))) (h4 : Blk V cb 32 [.slice none 0 0, .slice (some ⟨lb, 0, none⟩) m m, .slice (some ⟨kb, 0, none⟩) m m]) (h5 : Below W0.heap.size W0 V) => (show RFi l bl wd n m lb kb nb cb W0 (.int .i64 ((k : Int) - 1)) V from ⟨k, _, _, _, _, rfl, by omega, by omega, HGood.out, HFre.out, HOut.out, h1, h2, by rw [List.set_append_left _ _ (by omega)] at h3; exact h3, h4, h5⟩))
        have hme := Lib.hid (show (intOf (.int .i64 ((k : Int) - 1)) + 1).toNat < (intOf (.int .i64 (k : Int)) + 1).toNat from by show ((k : Int) - 1 + 1).toNat < ((k : Int) + 1).toNat; omega)
        clear hG hFresh hOut hR f1 f2 f3 fN g3 HGood HFre HOut
        clear hx
        have hk0 : (0 : Int) ≤ (k : Int) := by omega
        have hk9 : k ≤ 256 := by omega
        obtain ⟨k1, hk1⟩ : ∃ k1, k + 1 = k1 := ⟨_, rfl⟩
        have hkk : (k : Int) + 1 = (k1 : Int) := by omega
        have hk19 : k1 ≤ 257 := by omega
        have hwk : IntKind.i64.wrap (k1 : Int) = (k1 : Int) := wrap_in (by omega) (by omega)
        have HK1 := Lib.hid hk1
        clear hk1
        go_wp2
        clear hkk hwk
        go_loopw [13] (fun v wr => RIn l bl wd n m k lb kb nb cb L C N R W0 v wr) (fun v _ => n + 1 - (intOf v).toNat)
        case atStart => obtain rfl := HK1.out; exact ⟨k + 1, 0, 0, 0, by go_num, by omega, by omega, HR.out, small_zero _ _, Or.inl ⟨rfl, rfl⟩, Kl, Kk, Kn, Kc, hX⟩
        case round =>
          clear Kl Kk Kn Kc hX
          obtain ⟨j, s1, s2, sx, rfl, hkj, hj, hDp, hSm, hsx0, Kl, Kk, Kn, Kc, hX⟩ := hrel
          have HDp := Lib.hid hDp
          have HSx := Lib.hid hsx0
          have g1 := HGd.out.1
          have g2 := HGd.out.2.1
          have g3 := HGd.out.2.2.1
          have g1 : L.length = n + 1 := g1
          have g2 : C.length = n + 1 := g2
          have g3 : N.length = n := g3
          clear hDp hsx0
          rcases Nat.lt_or_ge n j with hjn | hjn
          · obtain rfl : j = n + 1 := by omega
            have hR : R = (s1, s2, sx) := by have := HDp.out; rw [Nat.sub_self] at this; exact this.symm
            have hjle : ¬ ((n + 1 : Nat) : Int) ≤ (n : Int) := by omega
            subst hR
            go_wp2
            exact ⟨HFin.out wr Kl Kk Kn Kc hX, hme.out⟩
          · have hSL := HGd.out.2.2.2.1 j hjn
            obtain ⟨xl, hxl⟩ : ∃ xl, L[j]? = some xl := ⟨_, List.getElem?_eq_getElem (by omega)⟩
            obtain ⟨xk, hxk⟩ : ∃ xk, C[j]? = some xk := ⟨_, List.getElem?_eq_getElem (by omega)⟩
            have dl : L.getD j 0 = xl := by rw [List.getD_eq_getElem?_getD, hxl]; rfl
            have dk : C.getD j 0 = xk := by rw [List.getD_eq_getElem?_getD, hxk]; rfl
            rw [dl, dk] at hSL
            have HF1 := Lib.hid (HFr.out k j hkj hjn wr hX)
            have HC1 := Lib.hid (fun (h0 : 0 ≤ frT l bl wd k j) (V : World) (h : Below W0.heap.size W0 V) => HCo.out k j hkj hjn h0 V h)
            have HP1 := Lib.hid (fun h0 : 0 ≤ frT l bl wd k j => HPb.out k j (by omega) h0)
            have HStep := Lib.hid (show dpIn (frT l bl wd k) (prT l bl wd k) (fun j => L.getD j 0) (fun j => C.getD j 0) n (n + 1 - j) j (s1, s2, sx) = if 0 ≤ frT l bl wd k j then dpIn (frT l bl wd k) (prT l bl wd k) (fun j => L.getD j 0) (fun j => C.getD j 0) n (n + 1 - (j + 1)) (j + 1) (stepT (xl + 1) (xk + prT l bl wd k j) j (s1, s2, sx)) else (s1, s2, sx) from by
              conv => lhs; rw [show n + 1 - j = (n + 1 - (j + 1)) + 1 by omega]
              conv => lhs; unfold dpIn
              try dsimp only
              rw [dl, dk]
              by_cases h : 0 ≤ frT l bl wd k j
              · rw [if_pos ⟨hjn, h⟩, if_pos h]
              · rw [if_neg (fun g => h g.2), if_neg h])
            obtain ⟨fr, hfr'⟩ : ∃ fr, frT l bl wd k j = fr := ⟨_, rfl⟩
            obtain ⟨pr, hpr'⟩ : ∃ pr, prT l bl wd k j = pr := ⟨_, rfl⟩
            rw [hfr'] at HF1 HC1 HP1 HStep
            rw [hpr'] at HC1 HP1 HStep
            clear hfr' hpr' dl dk
            by_cases hfr : fr < 0
            · have hR : R = (s1, s2, sx) := by rw [← HDp.out, HStep.out, if_neg (by omega)]
              subst hR
              clear HStep HP1 HC1 hxl hxk
              go_wp2_with (go_at_call 35; refine HF1.out.mono ?_; rintro en W5 ⟨rfl, rfl⟩)
              exact ⟨HFin.out wr Kl Kk Kn Kc hX, hme.out⟩
            · have hf0 : 0 ≤ fr := by omega
              obtain ⟨p1, p2⟩ := HP1.out hf0
              have HC2 := Lib.hid (HC1.out hf0)
              have HSt := Lib.hid (show dpIn (frT l bl wd k) (prT l bl wd k) (fun j => L.getD j 0) (fun j => C.getD j 0) n (n + 1 - (j + 1)) (j + 1) (stepT (xl + 1) (xk + pr) j (s1, s2, sx)) = R from by rw [← HDp.out, HStep.out, if_pos hf0])
              have HSn := Lib.hid (small_next (k := k) hkj hjn hSL p1 p2)
              obtain ⟨q1, q2, q3, q4⟩ := hSL
              have HSm := Lib.hid hSm
              have HWb := Lib.hid (wrap_big (x := xk + pr) (by omega) (by omega))
              clear HStep HP1 HC1 HDp hSm
              have hjm : j < m := by have := HM.out; omega
              have hkm : k < m := by omega
              have c1 := Kc.cell (j := 1) rfl
              have cl := Kl.cell (j := j) (iv_get (by rw [List.getElem?_set_ne (by omega)]; exact hxl))
              go_upto_region 17 with (go_at_call 35; refine HF1.out.mono ?_; rintro en W5 ⟨rfl, rfl⟩)
              clear c1 cl
              have C2 : ∀ w', Below wr.heap.size wr w' → w'.cell? ⟨cb, 2, none⟩ = some (.slice (some ⟨kb, 0, none⟩) m m) := fun w' h => (Kc.keep h).cell rfl
              have CK : ∀ w', Below wr.heap.size wr w' → w'.cell? ⟨kb, j, none⟩ = some (.int .i64 xk) := fun w' h => (Kk.keep h).cell (iv_get (by rw [List.getElem?_set_ne (by omega)]; exact hxk))
              clear HF1 hxl hxk
              refine wp_region_held_drew (S := fun w' => Below wr.heap.size wr w') (by kernel_rfl) (below_drew (Below.refl _ _)) (fun _ => ?_)
              have hHeld : Below wr.heap.size wr wr.drew := below_drew (Below.refl _ _)
              generalize wr.drew = V0 at hHeld ⊢
              refine wt (i := 0) (oi := ⟨some 70, .fieldAddr 32 (.tmp 10) 2, 0, "ref.go:82", #[], none⟩) (v := .pointer (some ⟨cb, 2, none⟩)) (Or.inl ⟨by rfl, fun w' hSw => by go_simp⟩) hHeld ?_
              try simp only [zP, zQ, zS, zZ, zC]
              refine wt (i := 1) (oi := ⟨some 71, .load 22 (.tmp 70), 22, "ref.go:82", #[⟨0, .data⟩], none⟩) (v := .slice (some ⟨kb, 0, none⟩) m m) (Or.inl ⟨by rfl, fun w' hSw => by have hc := C2 w' hSw; go_simp⟩) hHeld ?_
              try simp only [zP, zQ, zS, zZ, zC]
              refine wt (i := 2) (oi := ⟨some 72, .move (.tmp 13), 3, "ref.go:82", #[], none⟩) (v := .int .i64 (j : Int)) (Or.inl ⟨by rfl, fun w' hSw => by go_simp⟩) hHeld ?_
              try simp only [zP, zQ, zS, zZ, zC]
              refine wt (i := 3) (oi := ⟨some 73, .indexAddr 22 (.tmp 71) (.tmp 72), 0, "ref.go:82", #[⟨1, .data⟩, ⟨2, .data⟩], none⟩) (v := .pointer (some ⟨kb, j, none⟩)) (Or.inl ⟨by rfl, fun w' hSw => by go_simp; try (intro hcm; exact absurd hcm (by omega))⟩) hHeld ?_
              try simp only [zP, zQ, zS, zZ, zC]
              refine wt (i := 4) (oi := ⟨some 74, .load 3 (.tmp 73), 3, "ref.go:82", #[⟨3, .data⟩], none⟩) (v := .int .i64 xk) (Or.inl ⟨by rfl, fun w' hSw => by have hc := CK w' hSw; go_simp⟩) hHeld ?_
              try simp only [zP, zQ, zS, zZ, zC]
              refine wt (i := 5) (oi := ⟨some 75, .move (.tmp 0), 22, "ref.go:82", #[], none⟩) (v := .slice A n c) (Or.inl ⟨by rfl, fun w' hSw => by go_simp⟩) hHeld ?_
              try simp only [zP, zQ, zS, zZ, zC]
              refine wt (i := 6) (oi := ⟨some 76, .move (.tmp 1), 3, "ref.go:82", #[], none⟩) (v := .int .i64 bl) (Or.inl ⟨by rfl, fun w' hSw => by go_simp⟩) hHeld ?_
              try simp only [zP, zQ, zS, zZ, zC]
              refine wt (i := 7) (oi := ⟨some 77, .move (.tmp 2), 3, "ref.go:82", #[], none⟩) (v := .int .i64 wd) (Or.inl ⟨by rfl, fun w' hSw => by go_simp⟩) hHeld ?_
              try simp only [zP, zQ, zS, zZ, zC]
              refine wt (i := 8) (oi := ⟨some 78, .move (.tmp 12), 3, "ref.go:82", #[], none⟩) (v := .int .i64 (k : Int)) (Or.inl ⟨by rfl, fun w' hSw => by go_simp⟩) hHeld ?_
              try simp only [zP, zQ, zS, zZ, zC]
              refine wt (i := 9) (oi := ⟨some 79, .move (.tmp 13), 3, "ref.go:82", #[], none⟩) (v := .int .i64 (j : Int)) (Or.inl ⟨by rfl, fun w' hSw => by go_simp⟩) hHeld ?_
              try simp only [zP, zQ, zS, zZ, zC]
              refine wpAnyH_ready (rs := [10]) (by kernel_rfl) (by simp) ?_
              refine AllReadyH.cons (o := ⟨some 80, .call { callee := .value (.func 36), args := #[.tmp 75, .tmp 76, .tmp 77, .tmp 78, .tmp 79], argTypes := #[22, 3, 3, 3, 3] }, 3, "ref.go:82", #[⟨5, .data⟩, ⟨6, .data⟩, ⟨7, .data⟩, ⟨8, .data⟩, ⟨9, .data⟩], none⟩) rfl (fun K hK => ?_) AllReadyH.nil
              rw [if_pos (by rfl)]
              go_simp
              refine (HC2.out V0 (link hX hHeld)).mono ?_
              rintro en V1 ⟨rfl, rfl⟩
              dsimp only
              refine hK.out _ _ (hHeld) (fun hHeld => ?_)
              clear hK K
              try simp only [zP, zQ, zS, zZ, zC]
              refine wt (i := 11) (oi := ⟨some 81, .binOp .add 3 (.tmp 74) (.tmp 80) 3, 3, "ref.go:82", #[⟨4, .data⟩, ⟨10, .data⟩], none⟩) (v := .int .i64 (xk + pr)) (Or.inl ⟨by rfl, fun w' hSw => by have hw := HWb.out; go_simp⟩) hHeld ?_
              try simp only [zP, zQ, zS, zZ, zC]
              refine wpAnyH_ready (rs := [12]) (by kernel_rfl) (by simp) ?_
              refine AllReadyH.cons (o := ⟨some 15, .assign (.tmp 81), 3, "ref.go:82", #[⟨11, .data⟩, ⟨10, .chain⟩, ⟨0, .phase⟩, ⟨1, .phase⟩, ⟨2, .phase⟩, ⟨3, .phase⟩, ⟨4, .phase⟩, ⟨5, .phase⟩, ⟨6, .phase⟩, ⟨7, .phase⟩, ⟨8, .phase⟩, ⟨9, .phase⟩, ⟨10, .phase⟩, ⟨11, .phase⟩], none⟩) rfl (fun K hK => ?_) AllReadyH.nil
              go_simp
              refine hK.out _ _ (hHeld) (fun hHeld => ?_)
              clear hK K
              try simp only [zP, zQ, zS, zZ, zC]
              refine wpAnyH_done (by kernel_rfl) ?_ _
              have hB6 := hHeld
              clear hHeld C2 CK
              generalize V0 = W6 at hB6 ⊢
              have hX6 := link hX hB6
              have Kl6 := Kl.keep hB6
              have Kk6 := Kk.keep hB6
              have Kn6 := Kn.keep hB6
              have Kc6 := Kc.keep hB6
              clear hX hB6 Kl Kk Kn Kc
              go_upto_region 18 with (fail)
              obtain ⟨TT, hTT⟩ : ∃ TT, (decide (sx = 0) || better (xl + 1) (xk + pr) s1 s2) = TT := ⟨_, rfl⟩
              have HTT := Lib.hid hTT
              clear hTT
              have d1 := Kc6.cell (j := 1) rfl
              have d2 := Kc6.cell (j := 2) rfl
              have dl := Kl6.cell (j := k) (iv_get (List.getElem?_set_self (by omega)))
              have dk := Kk6.cell (j := k) (iv_get (List.getElem?_set_self (by omega)))
              go_cut [112] from 82 to 113 (fun s112 wx => s112 = .bool TT ∧ W6 = wx)
              case first =>
                rcases HSx.out with ⟨hjk, hsx⟩ | ⟨hjk, hsx, _⟩
                · have hjk1 : ((j : Int) == (k : Int) + 1) = true := by simp; omega
                  have HT := Lib.hid (show TT = true from by rw [← HTT.out, decide_eq_true hsx, Bool.true_or])
                  go_wp2
                  go_meet
                  exact ⟨by rw [HT.out], rfl⟩
                · have hjk1 : ((j : Int) == (k : Int) + 1) = false := by simp; omega
                  have HB := Lib.hid (show TT = better (xl + 1) (xk + pr) s1 s2 from by rw [← HTT.out, decide_eq_false (by omega), Bool.false_or])
                  by_cases ha : xl + 1 < s1
                  · have HT := Lib.hid (show TT = true from by rw [HB.out]; unfold better; rw [decide_eq_true ha, Bool.true_or])
                    go_wp2
                    go_meet
                    exact ⟨by rw [HT.out], rfl⟩
                  · by_cases hb : xl + 1 = s1
                    · have hb1 : (xl + 1 == s1) = true := by simp; exact hb
                      by_cases hc : xk + pr < s2
                      · have HT := Lib.hid (show TT = true from by rw [HB.out]; unfold better; rw [decide_eq_true hb, decide_eq_true hc, Bool.true_and, Bool.or_true])
                        clear hb
                        go_wp2
                        go_meet
                        exact ⟨by rw [HT.out], rfl⟩
                      · have HT := Lib.hid (show TT = false from by rw [HB.out]; unfold better; rw [decide_eq_false ha, decide_eq_false hc, Bool.and_false, Bool.or_false])
                        clear hb
                        go_wp2
                        go_meet
                        exact ⟨by rw [HT.out], rfl⟩
                    · have hb1 : (xl + 1 == s1) = false := by simp; exact hb
                      have HT := Lib.hid (show TT = false from by rw [HB.out]; unfold better; rw [decide_eq_false ha, decide_eq_false hb, Bool.false_and, Bool.or_false])
                      go_wp2
                      go_meet
                      exact ⟨by rw [HT.out], rfl⟩
              case rest =>
                obtain ⟨rfl, rfl⟩ := hcut
                clear d1 d2 dl dk
                rcases TT with _ | _
                · have HS2 := Lib.hid (show dpIn (frT l bl wd k) (prT l bl wd k) (fun j => L.getD j 0) (fun j => C.getD j 0) n (n + 1 - (j + 1)) (j + 1) (s1, s2, sx) = R from by rw [← HSt.out]; unfold stepT; rw [if_neg (by rw [HTT.out]; simp)])
                  have hsx1 : k < sx ∧ sx ≤ n := by
                    rcases HSx.out with ⟨_, h⟩ | ⟨_, h⟩
                    · have := HTT.out; rw [decide_eq_true h, Bool.true_or] at this; cases this
                    · exact h
                  go_wp2
                  exact ⟨⟨j + 1, s1, s2, sx, by go_num, by omega, by omega, HS2.out, HSm.out, Or.inr ⟨by omega, hsx1⟩, Kl6, Kk6, Kn6, Kc6, hX6⟩, by simp [intOf]; omega⟩
                · have HS2 := Lib.hid (show dpIn (frT l bl wd k) (prT l bl wd k) (fun j => L.getD j 0) (fun j => C.getD j 0) n (n + 1 - (j + 1)) (j + 1) (xl + 1, xk + pr, j) = R from by rw [← HSt.out]; unfold stepT; rw [if_pos HTT.out])
                  have hcelllb : ∃ yv, (iv (L.set k s1))[k]? = some yv := ⟨_, iv_get (List.getElem?_set_self (by omega))⟩
                  have hcellkb : ∃ yv, (iv (C.set k s2))[k]? = some yv := ⟨_, iv_get (List.getElem?_set_self (by omega))⟩
                  have hcellnb : ∃ yv, (nv ((N ++ [0]).set k sx))[k]? = some yv := ⟨_, nv_get (List.getElem?_set_self (by rw [List.length_append]; simp; omega))⟩
                  go_upto_region 19 with (fail)
                  obtain ⟨yv6, hyv6⟩ := hcelllb
                  have hcq := Kl6.cell hyv6
                  have hfq := Kl6.free k
                  have c1 := Kc6.cell (j := 1) rfl
                  have c2 := Kc6.cell (j := 2) rfl
                  go_upto_region 20 with (fail)
                  have Kl7 := Kl6.set k (.int .i64 (xl + 1))
                  have Kk7 := Kk6.other (a := ⟨lb, k, none⟩) nlk.symm (.int .i64 (xl + 1))
                  have Kn7 := Kn6.other (a := ⟨lb, k, none⟩) nln.symm (.int .i64 (xl + 1))
                  have Kc7 := Kc6.other (a := ⟨lb, k, none⟩) nlc.symm (.int .i64 (xl + 1))
                  have hX7 : Below W0.heap.size W0 (W6.setCell ⟨lb, k, none⟩ (.int .i64 (xl + 1))) := hX6.setCell hlb _
                  clear hcq hfq c1 c2 Kl6 Kk6 Kn6 Kc6 hX6
                  generalize World.setCell W6 ⟨lb, k, none⟩ (.int .i64 (xl + 1)) = V1 at Kl7 Kk7 Kn7 Kc7 hX7 ⊢
                  obtain ⟨yv7, hyv7⟩ := hcellkb
                  have hcq := Kk7.cell hyv7
                  have hfq := Kk7.free k
                  have c1 := Kc7.cell (j := 1) rfl
                  have c2 := Kc7.cell (j := 2) rfl
                  go_upto_region 21 with (fail)
                  have Kk8 := Kk7.set k (.int .i64 (xk + pr))
                  have Kl8 := Kl7.other (a := ⟨kb, k, none⟩) nlk (.int .i64 (xk + pr))
                  have Kn8 := Kn7.other (a := ⟨kb, k, none⟩) nkn.symm (.int .i64 (xk + pr))
                  have Kc8 := Kc7.other (a := ⟨kb, k, none⟩) nkc.symm (.int .i64 (xk + pr))
                  have hX8 : Below W0.heap.size W0 (V1.setCell ⟨kb, k, none⟩ (.int .i64 (xk + pr))) := hX7.setCell hkb _
                  clear hcq hfq c1 c2 Kl7 Kk7 Kn7 Kc7 hX7
                  generalize World.setCell V1 ⟨kb, k, none⟩ (.int .i64 (xk + pr)) = V2 at Kl8 Kk8 Kn8 Kc8 hX8 ⊢
                  obtain ⟨yv8, hyv8⟩ := hcellnb
                  have hcq := Kn8.cell hyv8
                  have hfq := Kn8.free k
                  have c1 := Kc8.cell (j := 1) rfl
                  have c2 := Kc8.cell (j := 2) rfl
                  go_upto_region 14 with (fail)
                  have Kn9 := Kn8.set k (.int .i64 (j : Int))
                  have Kl9 := Kl8.other (a := ⟨nb, k, none⟩) nln (.int .i64 (j : Int))
                  have Kk9 := Kk8.other (a := ⟨nb, k, none⟩) nkn (.int .i64 (j : Int))
                  have Kc9 := Kc8.other (a := ⟨nb, k, none⟩) nnc.symm (.int .i64 (j : Int))
                  have hX9 : Below W0.heap.size W0 (V2.setCell ⟨nb, k, none⟩ (.int .i64 (j : Int))) := hX8.setCell hnbw _
                  clear hcq hfq c1 c2 Kl8 Kk8 Kn8 Kc8 hX8
                  generalize World.setCell V2 ⟨nb, k, none⟩ (.int .i64 (j : Int)) = V3 at Kl9 Kk9 Kn9 Kc9 hX9 ⊢
                  rw [iv_set, List.set_set] at Kl9 Kk9
                  rw [nv_set, List.set_set] at Kn9
                  go_wp2
                  exact ⟨⟨j + 1, xl + 1, xk + pr, j, by go_num, by omega, by omega, HS2.out, HSn.out, Or.inr ⟨by omega, hkj, hjn⟩, Kl9, Kk9, Kn9, Kc9, hX9⟩, by simp [intOf]; omega⟩
end Go.Proofs.Ytacdjchkilheiaa
