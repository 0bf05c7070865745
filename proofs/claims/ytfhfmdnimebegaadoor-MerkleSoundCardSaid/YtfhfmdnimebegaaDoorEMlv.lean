/-
  passimlaw04.lives.
  Conditions: the tables of the packages hash and passimref02 lie as the program lays them when the call begins (the card ties them to the text); no other.
-/
import Derived.Test.YtfhfmdnimebegaaDoorE6

namespace Go.Proofs.YtfhfmdnimebegaaDoor
open Go.RowKit
set_option linter.unusedVariables false
set_option linter.unusedSimpArgs false

set_option maxHeartbeats 8000000 in
set_option maxRecDepth 100000 in
theorem lives_any (w : World) (hG : Glob w) : Calls Tryd.prog 18 #[] w (Told w true) := by
  have hz1 := zero_dig'
  have hz16 : (bytesV z16).toArray.toList.length = 16 := rfl
  have hrd : Dgt (rootL ls5) := rootL_dgt _
  have HRt := Lib.hid (fun (b : Nat) (w0 : World) (g : Glob w0) (h : Lvs w0 b 0 ls5) => root_yes ls5 (some ⟨b, 0, none⟩) 5 5 rfl (by omega) five_valid w0 g (fun _ => ⟨b, 0, rfl, h⟩))
  have HPc := Lib.hid (fun (b : Nat) (w0 : World) (g : Glob w0) (h : Lvs w0 b 0 ls5) => ex_prove ⟨#[99]⟩ 1 2 pC dC 1 3 (by decide +kernel) rfl rfl rfl dC_len b w0 g h)
  have HPx := Lib.hid (fun (b : Nat) (w0 : World) (g : Glob w0) (h : Lvs w0 b 0 ls5) => ex_prove ⟨#[101]⟩ 2 4 pX dX 2 2 (by decide +kernel) rfl rfl rfl dX_len b w0 g h)
  have HPh := Lib.hid (fun (b : Nat) (w0 : World) (g : Glob w0) (h : Lvs w0 b 0 ls5) => ex_prove ⟨#[104]⟩ 4 5 pH dH 1 1 (by decide +kernel) rfl rfl rfl dH_len b w0 g h)
  have HPr := Lib.hid (fun (b : Nat) (w0 : World) (g : Glob w0) (h : Lvs w0 b 0 ls5) => ex_range b w0 g h)
  have HCc := Lib.hid (fun (q : Option Addr) (c : Nat) (sa : Option Addr) (sc : Nat) (w0 : World) (g : Glob w0) (h : PV w0 1 5 pC dC q c sa sc) => ex_check ⟨#[99]⟩ 1 pC dC 1 3 _ kC (sides_dgts ls5 1 2 0 5 (by omega) (by decide)) rfl dC_len (by omega) q c sa sc w0 g h)
  have HCe := Lib.hid (fun (q : Option Addr) (c : Nat) (sa : Option Addr) (sc : Nat) (w0 : World) (g : Glob w0) (h : PV w0 2 5 pX dX q c sa sc) => ex_check ⟨#[101]⟩ 2 pX dX 2 2 _ kE (sides_dgts ls5 2 4 0 5 (by omega) (by decide)) rfl dX_len (by omega) q c sa sc w0 g h)
  have HCd := Lib.hid (fun (q : Option Addr) (c : Nat) (sa : Option Addr) (sc : Nat) (w0 : World) (g : Glob w0) (h : PV w0 2 5 pX dX q c sa sc) => ex_check ⟨#[100]⟩ 2 pX dX 2 2 _ kD (sides_dgts ls5 2 4 0 5 (by omega) (by decide)) rfl dX_len (by omega) q c sa sc w0 g h)
  have HCn := Lib.hid (fun (q : Option Addr) (c : Nat) (sa : Option Addr) (sc : Nat) (w0 : World) (g : Glob w0) (h : PV w0 2 5 pX dX q c sa sc) => ex_check ⟨#[99]⟩ 2 pX dX 2 2 _ kN (sides_dgts ls5 2 4 0 5 (by omega) (by decide)) rfl dX_len (by omega) q c sa sc w0 g h)
  have HCr := Lib.hid (fun (q : Option Addr) (c : Nat) (sa : Option Addr) (sc : Nat) (w0 : World) (g : Glob w0) (h : PV w0 0 5 pR dR q c sa sc) => ex_crange q c sa sc w0 g h)
  generalize rootL ls5 = RT at hrd HRt HCc HCe HCd HCn HCr
  generalize dC = eC at HPc HCc
  generalize dX = eX at HPx HCe HCd HCn
  generalize dH = eH at HPh
  generalize dR = eR at HPr HCr
  generalize pC = qC at HPc HCc
  generalize pX = qX at HPx HCe HCd HCn
  generalize pH = qH at HPh
  generalize pR = qR at HPr HCr
  have hvR : (bytesV RT).length = 16 := by rw [bytesV_length]; exact hrd.1
  go_enter Tryd.func18, Tryd.ntmps18
  go_upto_region 2 with (go_at_call 44; refine (five_any _).mono ?_; rintro e W1 ⟨b5, rfl, L1, hB1⟩)
  have hG1 := hG.keep hB1
  go_upto_region 3 with (first
    | (go_at_call 11; refine (HRt.out b5 _ hG1 L1).mono ?_; rintro e W2 ⟨rfl, hB2⟩)
    | (refine store_blk rfl 29 (.tmp 2) (.tmp 30) rfl (blk_new W2 29 (bytesV z16).toArray) rfl rfl (m := 16) (by kernel_rfl) hvR hz16 (bytesV_cells RT) ?_; intro V2 K2 O2))
  have X2 : Below W1.heap.size W1 V2 := link hB2 (O2.2.2 _ _ (Nat.le_refl _) ((Below.refl _ _).alloc (Nat.le_refl _) _))
  have B2 := link hB1 X2
  have G2 := hG1.keep X2
  have L2 := L1.keep X2
  clear hB2 O2 hG1 L1 hB1 X2 hz1
  generalize W2.heap.size = tr at K2 ⊢
  go_upto_region 4 with (first
    | (go_at_call 21; refine (HPc.out b5 _ G2 L2).mono ?_; rintro e U3 ⟨qc, cc, sc, dc, rfl, Pc, hU3⟩)
    | (refine wpList_store_mid rfl 50 (.tmp 4) (.tmp 35) rfl U3.heap.size 0 #[.int .i64 1, .int .i64 5, .slice qc 1 cc, .slice sc 3 dc] rfl rfl (by simpa using (blk_new U3 50 #[.int .i64 0, .int .i64 0, .slice none 0 0, .slice none 0 0]).there 0 4 (by simp)) (by kernel_rfl) (all_oneCell_toArray (by intro v hv; simp at hv; rcases hv with rfl | rfl | rfl | rfl <;> rfl)) ?_))
  have N3 := new_struct U3 #[.int .i64 0, .int .i64 0, .slice none 0 0, .slice none 0 0] 50 [.int .i64 1, .int .i64 5, .slice qc 1 cc, .slice sc 3 dc] rfl
  have Y3 := N3.1
  have Kc := N3.2
  clear N3
  try dsimp only
  generalize World.setCells (World.alloc U3 _) U3.heap.size 0 _ = V3 at Y3 Kc ⊢
  have Pc' := Pc.keep Y3
  have X3 := link hU3 Y3
  have B3 := link B2 X3
  have G3 := G2.keep X3
  have L3 := L2.keep X3
  replace K2 := K2.keep X3
  clear Pc
  have Pc := Pc'
  clear Pc'
  clear hU3 Y3 X3 B2 G2 L2
  generalize U3.heap.size = tc at Kc ⊢
  go_upto_region 5 with (first
    | (go_at_call 21; refine (HPx.out b5 _ G3 L3).mono ?_; rintro e U4 ⟨qx, cx, sx, dx, rfl, Px, hU4⟩)
    | (refine wpList_store_mid rfl 50 (.tmp 6) (.tmp 40) rfl U4.heap.size 0 #[.int .i64 2, .int .i64 5, .slice qx 2 cx, .slice sx 2 dx] rfl rfl (by simpa using (blk_new U4 50 #[.int .i64 0, .int .i64 0, .slice none 0 0, .slice none 0 0]).there 0 4 (by simp)) (by kernel_rfl) (all_oneCell_toArray (by intro v hv; simp at hv; rcases hv with rfl | rfl | rfl | rfl <;> rfl)) ?_))
  have N4 := new_struct U4 #[.int .i64 0, .int .i64 0, .slice none 0 0, .slice none 0 0] 50 [.int .i64 2, .int .i64 5, .slice qx 2 cx, .slice sx 2 dx] rfl
  have Y4 := N4.1
  have Kx := N4.2
  clear N4
  try dsimp only
  generalize World.setCells (World.alloc U4 _) U4.heap.size 0 _ = V4 at Y4 Kx ⊢
  have Px' := Px.keep Y4
  have X4 := link hU4 Y4
  have B4 := link B3 X4
  have G4 := G3.keep X4
  have L4 := L3.keep X4
  replace K2 := K2.keep X4
  replace Kc := Kc.keep X4
  replace Pc := Pc.keep X4
  clear Px
  have Px := Px'
  clear Px'
  clear hU4 Y4 X4 B3 G3 L3
  generalize U4.heap.size = tx at Kx ⊢
  go_upto_region 6 with (first
    | (go_at_call 21; refine (HPh.out b5 _ G4 L4).mono ?_; rintro e U5 ⟨qh, ch, sh, dh, rfl, Ph, hU5⟩)
    | (refine wpList_store_mid rfl 50 (.tmp 8) (.tmp 45) rfl U5.heap.size 0 #[.int .i64 4, .int .i64 5, .slice qh 1 ch, .slice sh 1 dh] rfl rfl (by simpa using (blk_new U5 50 #[.int .i64 0, .int .i64 0, .slice none 0 0, .slice none 0 0]).there 0 4 (by simp)) (by kernel_rfl) (all_oneCell_toArray (by intro v hv; simp at hv; rcases hv with rfl | rfl | rfl | rfl <;> rfl)) ?_))
  have N5 := new_struct U5 #[.int .i64 0, .int .i64 0, .slice none 0 0, .slice none 0 0] 50 [.int .i64 4, .int .i64 5, .slice qh 1 ch, .slice sh 1 dh] rfl
  have Y5 := N5.1
  have Kh := N5.2
  clear N5
  try dsimp only
  generalize World.setCells (World.alloc U5 _) U5.heap.size 0 _ = V5 at Y5 Kh ⊢
  have Ph' := Ph.keep Y5
  have X5 := link hU5 Y5
  have B5 := link B4 X5
  have G5 := G4.keep X5
  have L5 := L4.keep X5
  replace K2 := K2.keep X5
  replace Kc := Kc.keep X5
  replace Kx := Kx.keep X5
  replace Pc := Pc.keep X5
  replace Px := Px.keep X5
  clear Ph
  have Ph := Ph'
  clear Ph'
  clear hU5 Y5 X5 B4 G4 L4
  generalize U5.heap.size = th at Kh ⊢
  go_upto_region 7 with (first
    | (go_at_call 23; refine (HPr.out b5 _ G5 L5).mono ?_; rintro e U6 ⟨qr, cr, sr, dr, rfl, Pr, hU6⟩)
    | (refine wpList_store_mid rfl 50 (.tmp 10) (.tmp 50) rfl U6.heap.size 0 #[.int .i64 0, .int .i64 5, .slice qr 4 cr, .slice sr 1 dr] rfl rfl (by simpa using (blk_new U6 50 #[.int .i64 0, .int .i64 0, .slice none 0 0, .slice none 0 0]).there 0 4 (by simp)) (by kernel_rfl) (all_oneCell_toArray (by intro v hv; simp at hv; rcases hv with rfl | rfl | rfl | rfl <;> rfl)) ?_))
  have N6 := new_struct U6 #[.int .i64 0, .int .i64 0, .slice none 0 0, .slice none 0 0] 50 [.int .i64 0, .int .i64 5, .slice qr 4 cr, .slice sr 1 dr] rfl
  have Y6 := N6.1
  have Kr := N6.2
  clear N6
  try dsimp only
  generalize World.setCells (World.alloc U6 _) U6.heap.size 0 _ = V6 at Y6 Kr ⊢
  have Pr' := Pr.keep Y6
  have X6 := link hU6 Y6
  have B6 := link B5 X6
  have G6 := G5.keep X6
  have L6 := L5.keep X6
  replace K2 := K2.keep X6
  replace Kc := Kc.keep X6
  replace Kx := Kx.keep X6
  replace Kh := Kh.keep X6
  replace Pc := Pc.keep X6
  replace Px := Px.keep X6
  replace Ph := Ph.keep X6
  clear Pr
  have Pr := Pr'
  clear Pr'
  clear hU6 Y6 X6 B5 G5 L5
  generalize U6.heap.size = tr at Kr ⊢
  clear HRt HPc HPx HPh HPr L6
  have kc0 := Kc.cell (j := 0) rfl
  have kc2 := Kc.cell (j := 2) rfl
  have kc3 := Kc.cell (j := 3) rfl
  have kx0 := Kx.cell (j := 0) rfl
  have kx2 := Kx.cell (j := 2) rfl
  have kx3 := Kx.cell (j := 3) rfl
  have kh0 := Kh.cell (j := 0) rfl
  have kh2 := Kh.cell (j := 2) rfl
  have kh3 := Kh.cell (j := 3) rfl
  have kr0 := Kr.cell (j := 0) rfl
  have kr2 := Kr.cell (j := 2) rfl
  have kr3 := Kr.cell (j := 3) rfl
  go_upto_region 11 with (fail)
  clear kc0 kc2 kc3 kx0 kx2 kx3 kh0 kh2 kh3 kr0 kr2 kr3
  go_upto_region 12 with (first
    | (refine load_blk rfl 29 (.tmp 2) rfl K2 rfl Tryd.underlying29 (m := 16) (by kernel_rfl) hvR ?_)
    | (refine load_struct rfl 50 (.tmp 4) rfl Kc rfl Tryd.underlying50 (m := 4) (by kernel_rfl) rfl ?_)
    | (go_at_call 28; refine (HCc.out _ _ _ _ _ G6 Pc).mono ?_; rintro e V7 ⟨rfl, X7⟩))
  have B7 := link B6 X7
  have G7 := G6.keep X7
  replace K2 := K2.keep X7
  replace Kc := Kc.keep X7
  replace Kx := Kx.keep X7
  replace Kh := Kh.keep X7
  replace Kr := Kr.keep X7
  replace Px := Px.keep X7
  replace Pr := Pr.keep X7
  clear X7 B6 G6
  clear Pc
  go_upto_region 13 with (first
    | (refine load_blk rfl 29 (.tmp 2) rfl K2 rfl Tryd.underlying29 (m := 16) (by kernel_rfl) hvR ?_)
    | (refine load_struct rfl 50 (.tmp 6) rfl Kx rfl Tryd.underlying50 (m := 4) (by kernel_rfl) rfl ?_)
    | (go_at_call 28; refine (HCe.out _ _ _ _ _ G7 Px).mono ?_; rintro e V8 ⟨rfl, X8⟩))
  have B8 := link B7 X8
  have G8 := G7.keep X8
  replace K2 := K2.keep X8
  replace Kc := Kc.keep X8
  replace Kx := Kx.keep X8
  replace Kh := Kh.keep X8
  replace Kr := Kr.keep X8
  replace Px := Px.keep X8
  replace Pr := Pr.keep X8
  clear X8 B7 G7
  go_upto_region 14 with (first
    | (refine load_blk rfl 29 (.tmp 2) rfl K2 rfl Tryd.underlying29 (m := 16) (by kernel_rfl) hvR ?_)
    | (refine load_struct rfl 50 (.tmp 6) rfl Kx rfl Tryd.underlying50 (m := 4) (by kernel_rfl) rfl ?_)
    | (go_at_call 28; refine (HCd.out _ _ _ _ _ G8 Px).mono ?_; rintro e V9 ⟨rfl, X9⟩))
  have B9 := link B8 X9
  have G9 := G8.keep X9
  replace K2 := K2.keep X9
  replace Kc := Kc.keep X9
  replace Kx := Kx.keep X9
  replace Kh := Kh.keep X9
  replace Kr := Kr.keep X9
  replace Px := Px.keep X9
  replace Pr := Pr.keep X9
  clear X9 B8 G8
  go_upto_region 15 with (first
    | (refine load_blk rfl 29 (.tmp 2) rfl K2 rfl Tryd.underlying29 (m := 16) (by kernel_rfl) hvR ?_)
    | (refine load_struct rfl 50 (.tmp 6) rfl Kx rfl Tryd.underlying50 (m := 4) (by kernel_rfl) rfl ?_)
    | (go_at_call 28; refine (HCn.out _ _ _ _ _ G9 Px).mono ?_; rintro e V10 ⟨rfl, X10⟩))
  have B10 := link B9 X10
  have G10 := G9.keep X10
  replace K2 := K2.keep X10
  replace Kc := Kc.keep X10
  replace Kx := Kx.keep X10
  replace Kh := Kh.keep X10
  replace Kr := Kr.keep X10
  replace Px := Px.keep X10
  replace Pr := Pr.keep X10
  clear X10 B9 G9
  go_upto_region 16 with (first
    | (refine load_blk rfl 29 (.tmp 2) rfl K2 rfl Tryd.underlying29 (m := 16) (by kernel_rfl) hvR ?_)
    | (refine load_struct rfl 50 (.tmp 10) rfl Kr rfl Tryd.underlying50 (m := 4) (by kernel_rfl) rfl ?_)
    | (go_at_call 31; refine (HCr.out _ _ _ _ _ G10 Pr).mono ?_; rintro e V11 ⟨b9, o9, c9, rfl, h9, g1, g2, X11⟩))
  have B11 := link B10 X11
  clear X11 HCc HCe HCd HCn HCr K2 Kc Kx Kh Kr Px Pr Ph B10 G10
  go_wp2
  go_ret
  exact ⟨rfl, B11⟩

end Go.Proofs.YtfhfmdnimebegaaDoor
