/-
  MerkleChecks, for all arguments.
  Conditions: the tables of the packages hash and passimref02 lie as the program lays them when the call begins (the card ties them to the text); no other.
-/
import Derived.Test.YtfhfmdnimebegaaDoorEe
import Derived.Test.YtfhfmdnimebegaaDoorEa
import Derived.Deep.CutRange

namespace Go.Proofs.YtfhfmdnimebegaaDoor
open Go.RowKit
set_option linter.unusedVariables false
set_option linter.unusedSimpArgs false

theorem same_selfL (out : List Lf) (q q' : Option Addr) (t c c' : Nat) (ht : out.length = t) (hout : t ≤ 1000000) (V : World) (h1 : OwnL V q out) (h2 : OwnL V q' out) :
    Calls Tryd.prog 33 #[.slice q t c, .slice q' t c'] V fun e w' => e = .returned (.bool true) ∧ Below V.heap.size V w' := by
  have := sameLeaves_any out out q q' t c t c' ht ht hout hout V h1 h2
  rw [decide_eq_true rfl] at this
  exact this

set_option maxHeartbeats 16000000 in
set_option maxRecDepth 100000 in
theorem checks_law (hLv : ∀ V, Glob V → Calls Tryd.prog 18 #[] V (Told V true)) (A : Option Addr) (l : List Int) (n c : Nat) (hl : l.length = n) (A2 : Option Addr) (l2 : List Int) (n2 c2 : Nat) (hl2 : l2.length = n2) (xk xm xh xb : Int) (hxk1 : -9223372036854775808 ≤ xk) (hxk2 : xk ≤ 9223372036854775807) (hxm1 : -9223372036854775808 ≤ xm) (hxm2 : xm ≤ 9223372036854775807) (hxh1 : -9223372036854775808 ≤ xh) (hxh2 : xh ≤ 9223372036854775807) (hxb1 : -9223372036854775808 ≤ xb) (hxb2 : xb ≤ 9223372036854775807) (w : World) (hG : Glob w) (hGR : GlobR w) (hA : IntsAt w A l) (hA2 : IntsAt w A2 l2) :
    Calls Tryd.prog 5 #[.slice A n c, .slice A2 n2 c2, .int .i64 xk, .int .i64 xm, .int .i64 xh, .int .i64 xb] w (Told w true) := by
  have hz1 := zero_dig'
  have hz16 : (bytesV z16).toArray.toList.length = 16 := rfl
  have HLv := Lib.hid (fun (V : World) (g : Glob V) => hLv V g)
  have HLe := Lib.hid (leaves_any2 A l n c hl w hA)
  have HLf := Lib.hid (fun (V : World) (hB : Below w.heap.size w V) => leaves_any2 A2 l2 n2 c2 hl2 V (hA2.keep hB))
  clear hl hA hl2 hA2 hLv
  go_enter Tryd.func5, Tryd.ntmps5
  go_upto_region 2 with (go_at_call 9; refine HLe.out.mono ?_; rintro e W1 ⟨v1, ls, rfl, hO1, hv1, h11, hB1, hn1⟩; obtain ⟨q1, m1, c1, rfl, T1⟩ := LstOk.of hO1 h11 (small_of (valid_zero hv1).2.1) hn1)
  go_upto_region 3 with (go_at_call 9; refine (HLf.out W1 hB1).mono ?_; rintro e W2 ⟨v2, ms, rfl, hO2, hv2, h12, hB2, hn2⟩; obtain ⟨q2, m2, c3, rfl, T2⟩ := LstOk.of hO2 h12 (small_of (valid_zero hv2).2.1) hn2)
  have B2 := link hB1 hB2
  replace T1 := T1.keep hB2
  have hzA := sz_fit (valid_zero hv1).2.1
  have hzB := sz_fit (valid_zero hv2).2.1
  have G2 := hG.keep B2
  have GR2 := hGR.keep B2
  clear hO1 hO2 hn1 hn2 h11 h12 hB1 hB2 HLe HLf hG hGR hv1 hv2
  have HKxk := Lib.hid (fun (V : World) (hB : Below W2.heap.size W2 V) => lkey_any ls q1 m1 c1 T1.1 T1.2.1 xk hxk1 hxk2 V (T1.2.2.2.2.2.keep hB) T1.2.2.2.2.1)
  have HKxm := Lib.hid (fun (V : World) (hB : Below W2.heap.size W2 V) => lkey_any ls q1 m1 c1 T1.1 T1.2.1 xm hxm1 hxm2 V (T1.2.2.2.2.2.keep hB) T1.2.2.2.2.1)
  have HKxb := Lib.hid (fun (V : World) (hB : Below W2.heap.size W2 V) => lkey_any ls q1 m1 c1 T1.1 T1.2.1 xb hxb1 hxb2 V (T1.2.2.2.2.2.keep hB) T1.2.2.2.2.1)
  have HRr := Lib.hid (fun (V : World) (hB : Below W2.heap.size W2 V) => rroot_all ls q1 m1 c1 T1.1 V (GR2.keep hB) (T1.2.2.2.2.2.keep hB))
  have HPa := Lib.hid (fun (s : ByteArray) (V : World) (hB : Below W2.heap.size W2 V) => prove_pk ls 65536 hzA q1 m1 c1 T1.1 T1.2.1 T1.2.2.1 T1.2.2.2.1 s V (GR2.keep hB) (T1.2.2.2.2.2.keep hB))
  have HGa := Lib.hid (fun (s t : ByteArray) (V : World) (hB : Below W2.heap.size W2 V) => range_pk ls 65536 hzA q1 m1 c1 T1.1 T1.2.1 T1.2.2.1 T1.2.2.2.1 s t V (GR2.keep hB) (T1.2.2.2.2.2.keep hB))
  have HPb := Lib.hid (fun (s : ByteArray) (V : World) (hB : Below W2.heap.size W2 V) => prove_pk ms 65536 hzB q2 m2 c3 T2.1 T2.2.1 T2.2.2.1 T2.2.2.2.1 s V (GR2.keep hB) (T2.2.2.2.2.2.keep hB))
  have HB1 := Lib.hid (fun (v : Value) (V : World) (h : PK V 65536 11 v) => bent_at 65536 11 (by omega) (by omega) (by omega) xh xb hxh1 hxh2 hxb1 hxb2 v V h)
  have HB2 := Lib.hid (fun (v : Value) (V : World) (h : PK V 65536 11 v) => bent_at 65536 11 (by omega) (by omega) (by omega) xb xh hxb1 hxb2 hxh1 hxh2 v V h)
  have HB3 := Lib.hid (fun (v : Value) (V : World) (h : PK V 65537 12 v) => bent_at 65537 12 (by omega) (by omega) (by omega) xb xh hxb1 hxb2 hxh1 hxh2 v V h)
  have HB4 := Lib.hid (fun (v : Value) (V : World) (h : PK V 65537 12 v) => bent_at 65537 12 (by omega) (by omega) (by omega) xh xb hxh1 hxh2 hxb1 hxb2 v V h)
  have hrd := rootA_dgt ls
  generalize (rootA ls).1 = RT at HRr hrd
  generalize (rootA ls).2 = E1 at HRr
  have hvR : (bytesV RT).length = 16 := by rw [bytesV_length]; exact hrd.1
  have hsR : (Tryd.prog.info? 29).map (fun x => x.size) = some (bytesV RT).length := by rw [hvR]; kernel_rfl
  clear T1 T2 hzA hzB
  go_upto_region 4 with (first
    | (go_at_call 13; refine (HRr.out W2 (Below.refl _ _)).mono ?_; rintro e W3 ⟨rfl, hB3⟩)
    | (refine store_blk rfl 29 (.tmp 15) (.tmp 46) rfl (blk_new W3 29 (bytesV z16).toArray) rfl rfl (m := 16) (by kernel_rfl) hvR hz16 (bytesV_cells RT) ?_; intro V3 KR O3))
  have BW : Below W2.heap.size W2 V3 := link hB3 (O3.2.2 _ _ (Nat.le_refl _) ((Below.refl _ _).alloc (Nat.le_refl _) _))
  generalize W3.heap.size = tr at KR ⊢
  clear hB3 O3 HRr hz1
  go_upto_region 5 with (first
    | (go_at_call_of 19 (Value.int IntKind.i64 xk); refine (HKxk.out _ (BW)).mono ?_; rintro e Wa ⟨sa1, rfl, hWa⟩)
    | (go_at_call 22; refine (HPa.out sa1 _ (link BW hWa)).mono ?_; rintro e Wb ⟨v, zz, rfl, hP, hWb⟩; obtain ⟨a0, a1, a2, a3, rfl, ho⟩ := hP.four)
    | (refine wpList_store_mid rfl 54 (.tmp 17) (.tmp 54) rfl Wb.heap.size 0 #[a0, a1, a2, a3] rfl rfl (by simpa using (blk_new Wb 54 #[.int .i64 0, .int .i64 0, .slice none 0 0, .slice none 0 0]).there 0 4 (by simp)) (by kernel_rfl) (all_oneCell_toArray ho) ?_))
  have N0 := new_struct Wb #[.int .i64 0, .int .i64 0, .slice none 0 0, .slice none 0 0] 54 [a0, a1, a2, a3] rfl
  have Y0 := N0.1
  have K1 := N0.2
  clear N0
  try dsimp only
  generalize World.setCells (World.alloc Wb _) Wb.heap.size 0 _ = V4 at Y0 K1 ⊢
  have P1 := hP.keep Y0
  clear hP
  have X0 := link (link hWa hWb) Y0
  replace KR := KR.keep X0
  replace BW := link BW X0
  clear Y0 X0
  generalize Wb.heap.size = t1 at K1 ⊢
  clear hWa hWb ho
  go_upto_region 6 with (first
    | (go_at_call_of 19 (Value.int IntKind.i64 xk); refine (HKxk.out _ (BW)).mono ?_; rintro e Wa ⟨sa2, rfl, hWa⟩)
    | (go_at_call_of 19 (Value.int IntKind.i64 xm); refine (HKxm.out _ (link BW hWa)).mono ?_; rintro e Wc ⟨sa3, rfl, hWc⟩)
    | (go_at_call 24; refine (HGa.out sa2 sa3 _ (link (link BW hWa) hWc)).mono ?_; rintro e Wb ⟨v, zz, rfl, hP, hWb⟩; obtain ⟨b0, b1, b2, b3, rfl, ho⟩ := hP.four)
    | (refine wpList_store_mid rfl 54 (.tmp 19) (.tmp 65) rfl Wb.heap.size 0 #[b0, b1, b2, b3] rfl rfl (by simpa using (blk_new Wb 54 #[.int .i64 0, .int .i64 0, .slice none 0 0, .slice none 0 0]).there 0 4 (by simp)) (by kernel_rfl) (all_oneCell_toArray ho) ?_))
  have N0 := new_struct Wb #[.int .i64 0, .int .i64 0, .slice none 0 0, .slice none 0 0] 54 [b0, b1, b2, b3] rfl
  have Y0 := N0.1
  have K2 := N0.2
  clear N0
  try dsimp only
  generalize World.setCells (World.alloc Wb _) Wb.heap.size 0 _ = V5 at Y0 K2 ⊢
  have P2 := hP.keep Y0
  clear hP
  have X0 := link (link (link hWa hWc) hWb) Y0
  replace KR := KR.keep X0
  replace K1 := K1.keep X0
  replace P1 := P1.keep X0
  replace BW := link BW X0
  clear Y0 X0
  generalize Wb.heap.size = t2 at K2 ⊢
  clear hWa hWb hWc ho
  go_upto_region 7 with (first
    | (go_at_call_of 19 (Value.int IntKind.i64 xk); refine (HKxk.out _ (BW)).mono ?_; rintro e Wa ⟨sa4, rfl, hWa⟩)
    | (go_at_call 22; refine (HPb.out sa4 _ (link BW hWa)).mono ?_; rintro e Wb ⟨v, zz, rfl, hP, hWb⟩; obtain ⟨d0, d1, d2, d3, rfl, ho⟩ := hP.four)
    | (refine wpList_store_mid rfl 54 (.tmp 21) (.tmp 73) rfl Wb.heap.size 0 #[d0, d1, d2, d3] rfl rfl (by simpa using (blk_new Wb 54 #[.int .i64 0, .int .i64 0, .slice none 0 0, .slice none 0 0]).there 0 4 (by simp)) (by kernel_rfl) (all_oneCell_toArray ho) ?_))
  have N0 := new_struct Wb #[.int .i64 0, .int .i64 0, .slice none 0 0, .slice none 0 0] 54 [d0, d1, d2, d3] rfl
  have Y0 := N0.1
  have K3 := N0.2
  clear N0
  try dsimp only
  generalize World.setCells (World.alloc Wb _) Wb.heap.size 0 _ = V6 at Y0 K3 ⊢
  have P3 := hP.keep Y0
  clear hP
  have X0 := link (link hWa hWb) Y0
  replace KR := KR.keep X0
  replace K1 := K1.keep X0
  replace P1 := P1.keep X0
  replace K2 := K2.keep X0
  replace P2 := P2.keep X0
  replace BW := link BW X0
  clear Y0 X0
  generalize Wb.heap.size = t3 at K3 ⊢
  clear hWa hWb ho HPa HPb HGa
  go_upto_region 8 with (first
    | (refine load_struct rfl 54 (.tmp 17) rfl K1 rfl Tryd.underlying54 (m := 4) (by kernel_rfl) rfl ?_)
    | (go_at_call 27; refine (HB1.out _ _ P1).mono ?_; rintro e Wb ⟨v, rfl, hP, hWb⟩; obtain ⟨f0, f1, f2, f3, rfl, ho⟩ := hP.four)
    | (refine wpList_store_mid rfl 54 (.tmp 23) (.tmp 78) rfl Wb.heap.size 0 #[f0, f1, f2, f3] rfl rfl (by simpa using (blk_new Wb 54 #[.int .i64 0, .int .i64 0, .slice none 0 0, .slice none 0 0]).there 0 4 (by simp)) (by kernel_rfl) (all_oneCell_toArray ho) ?_))
  have N0 := new_struct Wb #[.int .i64 0, .int .i64 0, .slice none 0 0, .slice none 0 0] 54 [f0, f1, f2, f3] rfl
  have Y0 := N0.1
  have K4 := N0.2
  clear N0
  try dsimp only
  generalize World.setCells (World.alloc Wb _) Wb.heap.size 0 _ = V7 at Y0 K4 ⊢
  have P4 := hP.keep Y0
  clear hP
  have X0 := link (hWb) Y0
  replace KR := KR.keep X0
  replace K1 := K1.keep X0
  replace P1 := P1.keep X0
  replace K2 := K2.keep X0
  replace P2 := P2.keep X0
  replace K3 := K3.keep X0
  replace P3 := P3.keep X0
  replace BW := link BW X0
  clear Y0 X0
  generalize Wb.heap.size = t4 at K4 ⊢
  clear hWb ho
  go_upto_region 9 with (first
    | (refine load_struct rfl 54 (.tmp 19) rfl K2 rfl Tryd.underlying54 (m := 4) (by kernel_rfl) rfl ?_)
    | (go_at_call 27; refine (HB2.out _ _ P2).mono ?_; rintro e Wb ⟨v, rfl, hP, hWb⟩; obtain ⟨g0, g1, g2, g3, rfl, ho⟩ := hP.four)
    | (refine wpList_store_mid rfl 54 (.tmp 24) (.tmp 82) rfl Wb.heap.size 0 #[g0, g1, g2, g3] rfl rfl (by simpa using (blk_new Wb 54 #[.int .i64 0, .int .i64 0, .slice none 0 0, .slice none 0 0]).there 0 4 (by simp)) (by kernel_rfl) (all_oneCell_toArray ho) ?_))
  have N0 := new_struct Wb #[.int .i64 0, .int .i64 0, .slice none 0 0, .slice none 0 0] 54 [g0, g1, g2, g3] rfl
  have Y0 := N0.1
  have K5 := N0.2
  clear N0
  try dsimp only
  generalize World.setCells (World.alloc Wb _) Wb.heap.size 0 _ = V8 at Y0 K5 ⊢
  have P5 := hP.keep Y0
  clear hP
  have X0 := link (hWb) Y0
  replace KR := KR.keep X0
  replace K1 := K1.keep X0
  replace P1 := P1.keep X0
  replace K2 := K2.keep X0
  replace P2 := P2.keep X0
  replace K3 := K3.keep X0
  replace P3 := P3.keep X0
  replace K4 := K4.keep X0
  replace P4 := P4.keep X0
  replace BW := link BW X0
  clear Y0 X0
  generalize Wb.heap.size = t5 at K5 ⊢
  clear hWb ho
  clear HB1 HB2
  refine wp_region_held_drew (S := fun w' => Below V8.heap.size V8 w') (by kernel_rfl) (below_drew (Below.refl _ _)) (fun _ => ?_)
  have hHeld : Below V8.heap.size V8 V8.drew := below_drew (Below.refl _ _)
  generalize V8.drew = V9 at hHeld ⊢
  refine wpAnyH_take (i := 0) (oi := ⟨some 83, .load 54 (.tmp 17), 54, "law.go:140", #[], none⟩) (v := _) rfl (by kernel_rfl) (by kernel_rfl) (by kernel_rfl) (fun _ _ _ h => h) (yieldsIf_load_mid (by rfl) _ _ rfl _ 0 rfl _ _ (fun w' hSw => rng_blk (K1) w' hSw) Tryd.underlying54 rfl (by kernel_rfl)) hHeld ?_
  try simp only [Act.put, List.setIfInBounds_toArray, List.set_cons_zero, List.set_cons_succ]
  refine wpAnyH_take (i := 1) (oi := ⟨some 84, .load 54 (.tmp 19), 54, "law.go:140", #[], none⟩) (v := _) rfl (by kernel_rfl) (by kernel_rfl) (by kernel_rfl) (fun _ _ _ h => h) (yieldsIf_load_mid (by rfl) _ _ rfl _ 0 rfl _ _ (fun w' hSw => rng_blk (K2) w' hSw) Tryd.underlying54 rfl (by kernel_rfl)) hHeld ?_
  try simp only [Act.put, List.setIfInBounds_toArray, List.set_cons_zero, List.set_cons_succ]
  refine wpAnyH_take (i := 2) (oi := ⟨some 85, .load 54 (.tmp 21), 54, "law.go:140", #[], none⟩) (v := _) rfl (by kernel_rfl) (by kernel_rfl) (by kernel_rfl) (fun _ _ _ h => h) (yieldsIf_load_mid (by rfl) _ _ rfl _ 0 rfl _ _ (fun w' hSw => rng_blk (K3) w' hSw) Tryd.underlying54 rfl (by kernel_rfl)) hHeld ?_
  try simp only [Act.put, List.setIfInBounds_toArray, List.set_cons_zero, List.set_cons_succ]
  refine wpAnyH_take (i := 3) (oi := ⟨some 86, .load 54 (.tmp 23), 54, "law.go:140", #[], none⟩) (v := _) rfl (by kernel_rfl) (by kernel_rfl) (by kernel_rfl) (fun _ _ _ h => h) (yieldsIf_load_mid (by rfl) _ _ rfl _ 0 rfl _ _ (fun w' hSw => rng_blk (K4) w' hSw) Tryd.underlying54 rfl (by kernel_rfl)) hHeld ?_
  try simp only [Act.put, List.setIfInBounds_toArray, List.set_cons_zero, List.set_cons_succ]
  refine wpAnyH_take (i := 4) (oi := ⟨some 87, .load 54 (.tmp 24), 54, "law.go:140", #[], none⟩) (v := _) rfl (by kernel_rfl) (by kernel_rfl) (by kernel_rfl) (fun _ _ _ h => h) (yieldsIf_load_mid (by rfl) _ _ rfl _ 0 rfl _ _ (fun w' hSw => rng_blk (K5) w' hSw) Tryd.underlying54 rfl (by kernel_rfl)) hHeld ?_
  try simp only [Act.put, List.setIfInBounds_toArray, List.set_cons_zero, List.set_cons_succ]
  refine wpAnyH_take (i := 5) (oi := ⟨some 88, .load 54 (.tmp 23), 54, "law.go:140", #[], none⟩) (v := _) rfl (by kernel_rfl) (by kernel_rfl) (by kernel_rfl) (fun _ _ _ h => h) (yieldsIf_load_mid (by rfl) _ _ rfl _ 0 rfl _ _ (fun w' hSw => rng_blk (K4) w' hSw) Tryd.underlying54 rfl (by kernel_rfl)) hHeld ?_
  try simp only [Act.put, List.setIfInBounds_toArray, List.set_cons_zero, List.set_cons_succ]
  refine wpAnyH_take (i := 9) (oi := ⟨some 92, .load 54 (.tmp 24), 54, "law.go:140", #[], none⟩) (v := _) rfl (by kernel_rfl) (by kernel_rfl) (by kernel_rfl) (fun _ _ _ h => h) (yieldsIf_load_mid (by rfl) _ _ rfl _ 0 rfl _ _ (fun w' hSw => rng_blk (K5) w' hSw) Tryd.underlying54 rfl (by kernel_rfl)) hHeld ?_
  try simp only [Act.put, List.setIfInBounds_toArray, List.set_cons_zero, List.set_cons_succ]
  refine wpAnyH_take (i := 6) (oi := ⟨some 89, .move (.tmp 5), 3, "law.go:140", #[], none⟩) (v := .int .i64 xb) rfl (by kernel_rfl) (by kernel_rfl) (by kernel_rfl) (fun _ _ _ h => h) (Or.inl ⟨by rfl, fun w' hSw => by go_simp⟩) hHeld ?_
  try simp only [Act.put, List.setIfInBounds_toArray, List.set_cons_zero, List.set_cons_succ]
  refine wpAnyH_take (i := 7) (oi := ⟨some 90, .move (.tmp 4), 3, "law.go:140", #[], none⟩) (v := .int .i64 xh) rfl (by kernel_rfl) (by kernel_rfl) (by kernel_rfl) (fun _ _ _ h => h) (Or.inl ⟨by rfl, fun w' hSw => by go_simp⟩) hHeld ?_
  try simp only [Act.put, List.setIfInBounds_toArray, List.set_cons_zero, List.set_cons_succ]
  refine wpAnyH_take (i := 10) (oi := ⟨some 93, .move (.tmp 4), 3, "law.go:140", #[], none⟩) (v := .int .i64 xh) rfl (by kernel_rfl) (by kernel_rfl) (by kernel_rfl) (fun _ _ _ h => h) (Or.inl ⟨by rfl, fun w' hSw => by go_simp⟩) hHeld ?_
  try simp only [Act.put, List.setIfInBounds_toArray, List.set_cons_zero, List.set_cons_succ]
  refine wpAnyH_take (i := 11) (oi := ⟨some 94, .move (.tmp 5), 3, "law.go:140", #[], none⟩) (v := .int .i64 xb) rfl (by kernel_rfl) (by kernel_rfl) (by kernel_rfl) (fun _ _ _ h => h) (Or.inl ⟨by rfl, fun w' hSw => by go_simp⟩) hHeld ?_
  try simp only [Act.put, List.setIfInBounds_toArray, List.set_cons_zero, List.set_cons_succ]
  refine wpAnyH_take (i := 13) (oi := ⟨some 96, .build 54 #[], 54, "law.go:140", #[], none⟩) (v := .agg zeroPrf.toArray) rfl (by kernel_rfl) (by kernel_rfl) (by kernel_rfl) (fun _ _ _ h => h) (Or.inl ⟨by rfl, fun w' hSw => by have hz := build_rprf w'; go_simp⟩) hHeld ?_
  try simp only [Act.put, List.setIfInBounds_toArray, List.set_cons_zero, List.set_cons_succ]
  refine wpAnyH_ready (rs := [8]) (by kernel_rfl) (by simp) ?_
  refine AllReadyH.cons (o := ⟨some 91, .call { callee := .value (.func 27), args := #[.tmp 88, .tmp 89, .tmp 90], argTypes := #[54, 3, 3] }, 54, "law.go:140", #[⟨5, .data⟩, ⟨6, .data⟩, ⟨7, .data⟩], none⟩) rfl (fun K hK => ?_) AllReadyH.nil
  rw [if_pos (by rfl)]
  go_simp
  refine (HB3.out _ V9 (P4.keep hHeld)).mono ?_
  rintro e Va ⟨v, rfl, P6, hB⟩
  obtain ⟨h0, h1, h2, h3, rfl, _⟩ := P6.four
  dsimp only
  refine hK.out _ _ (link hHeld hB) (fun hHeld => ?_)
  clear hK K
  try simp only [Act.put, List.setIfInBounds_toArray, List.set_cons_zero, List.set_cons_succ]
  replace hB : Below V9.heap.size V9 Va := hB
  clear hB
  refine wpAnyH_ready (rs := [12]) (by kernel_rfl) (by simp) ?_
  refine AllReadyH.cons (o := ⟨some 95, .call { callee := .value (.func 27), args := #[.tmp 92, .tmp 93, .tmp 94], argTypes := #[54, 3, 3] }, 54, "law.go:140", #[⟨9, .data⟩, ⟨10, .data⟩, ⟨11, .data⟩, ⟨8, .chain⟩], none⟩) rfl (fun K hK => ?_) AllReadyH.nil
  rw [if_pos (by rfl)]
  go_simp
  refine (HB4.out _ Va (P5.keep hHeld)).mono ?_
  rintro e Vb ⟨v, rfl, P7, hB⟩
  obtain ⟨j0, j1, j2, j3, rfl, _⟩ := P7.four
  dsimp only
  refine hK.out _ _ (link hHeld hB) (fun hHeld => ?_)
  clear hK K
  try simp only [Act.put, List.setIfInBounds_toArray, List.set_cons_zero, List.set_cons_succ]
  replace P6 := P6.keep hB
  clear hB
  refine wpAnyH_ready (rs := [14]) (by kernel_rfl) (by simp) ?_
  refine AllReadyH.cons (o := ⟨some 97, .buildSlice 63 8 #[(0, .tmp 83), (1, .tmp 84), (2, .tmp 85), (3, .tmp 86), (4, .tmp 87), (5, .tmp 91), (6, .tmp 95), (7, .tmp 96)], 63, "law.go:140", #[⟨0, .data⟩, ⟨1, .data⟩, ⟨2, .data⟩, ⟨3, .data⟩, ⟨4, .data⟩, ⟨8, .data⟩, ⟨12, .data⟩, ⟨13, .data⟩], none⟩) rfl (fun K hK => ?_) AllReadyH.nil
  rw [if_pos (by rfl)]
  go_simp
  have hKB := blk_new Vb 54 #[a0, a1, a2, a3, b0, b1, b2, b3, d0, d1, d2, d3, f0, f1, f2, f3, g0, g1, g2, g3, h0, h1, h2, h3, j0, j1, j2, j3, .int .i64 0, .int .i64 0, .slice none 0 0, .slice none 0 0]
  have X0 : Below Vb.heap.size Vb (Vb.alloc (.cells #[a0, a1, a2, a3, b0, b1, b2, b3, d0, d1, d2, d3, f0, f1, f2, f3, g0, g1, g2, g3, h0, h1, h2, h3, j0, j1, j2, j3, .int .i64 0, .int .i64 0, .slice none 0 0, .slice none 0 0] 54)) := (Below.refl _ _).alloc (Nat.le_refl _) _
  refine hK.out _ _ (link hHeld X0) (fun hHeld => ?_)
  clear hK K
  try simp only [Act.put, List.setIfInBounds_toArray, List.set_cons_zero, List.set_cons_succ]
  replace P6 := P6.keep X0
  replace P7 := P7.keep X0
  generalize World.alloc Vb _ = Vc at hKB hHeld P6 P7 ⊢
  generalize Vb.heap.size = pb at hKB ⊢
  clear X0
  refine wpAnyH_ready (rs := [15]) (by kernel_rfl) (by simp) ?_
  refine AllReadyH.cons (o := ⟨some 25, .assign (.tmp 97), 63, "law.go:140", #[⟨14, .data⟩, ⟨12, .chain⟩, ⟨0, .phase⟩, ⟨1, .phase⟩, ⟨2, .phase⟩, ⟨3, .phase⟩, ⟨4, .phase⟩, ⟨5, .phase⟩, ⟨6, .phase⟩, ⟨7, .phase⟩, ⟨8, .phase⟩, ⟨9, .phase⟩, ⟨10, .phase⟩, ⟨11, .phase⟩, ⟨12, .phase⟩, ⟨13, .phase⟩, ⟨14, .phase⟩], none⟩) rfl (fun K hK => ?_) AllReadyH.nil
  go_simp
  refine hK.out _ _ (hHeld) (fun hHeld => ?_)
  clear hK K
  try simp only [Act.put, List.setIfInBounds_toArray, List.set_cons_zero, List.set_cons_succ]
  refine wpAnyH_done (by kernel_rfl) ?_ _
  replace BW := link BW hHeld
  replace P1 := P1.keep hHeld
  replace P2 := P2.keep hHeld
  replace P3 := P3.keep hHeld
  replace P4 := P4.keep hHeld
  replace P5 := P5.keep hHeld
  replace KR := KR.keep hHeld
  clear hHeld K1 K2 K3 K4 K5 HB3 HB4
  have TB : Hid (∀ i, i < 8 → ∃ x0 x1 x2 x3, Vc.rangeAt pb (i * 4) [x0, x1, x2, x3] ∧ PK Vc 70000 13 (.agg #[x0, x1, x2, x3])) := Lib.hid (by
    intro i hi
    have hr : ∀ o, Vc.rangeAt pb o ((([a0, a1, a2, a3, b0, b1, b2, b3, d0, d1, d2, d3, f0, f1, f2, f3, g0, g1, g2, g3, h0, h1, h2, h3, j0, j1, j2, j3, .int .i64 0, .int .i64 0, .slice none 0 0, .slice none 0 0] : List Value).drop o).take 4) := fun o => hKB.range o 4
    match i, hi with
    | 0, _ => exact ⟨_, _, _, _, hr 0, P1.mono (by omega) (by omega)⟩
    | 1, _ => exact ⟨_, _, _, _, hr 4, P2.mono (by omega) (by omega)⟩
    | 2, _ => exact ⟨_, _, _, _, hr 8, P3.mono (by omega) (by omega)⟩
    | 3, _ => exact ⟨_, _, _, _, hr 12, P4.mono (by omega) (by omega)⟩
    | 4, _ => exact ⟨_, _, _, _, hr 16, P5.mono (by omega) (by omega)⟩
    | 5, _ => exact ⟨_, _, _, _, hr 20, P6.mono (by omega) (by omega)⟩
    | 6, _ => exact ⟨_, _, _, _, hr 24, P7.mono (by omega) (by omega)⟩
    | 7, _ => exact ⟨_, _, _, _, hr 28, PK.nil _ _ _⟩)
  have hpb := hKB.lt
  clear hKB P1 P2 P3 P4 P5 P6 P7
  go_upto_region 11 with (first
    | (go_at_call_of 19 (Value.int IntKind.i64 xk); refine (HKxk.out _ (BW)).mono ?_; rintro e Wa ⟨u1, rfl, hWa⟩)
    | (go_at_call_of 19 (Value.int IntKind.i64 xm); refine (HKxm.out _ (link BW hWa)).mono ?_; rintro e Wb ⟨u2, rfl, hWb⟩)
    | (go_at_call_of 19 (Value.int IntKind.i64 xb); refine (HKxb.out _ (link (link BW hWa) hWb)).mono ?_; rintro e Wc ⟨u3, rfl, hWc⟩))
  generalize hw : World.alloc Wc _ = Wd
  have KK : Blk Wd Wc.heap.size 9 [.string u1, .string u2, .string u3] := hw ▸ blk_new Wc _ _
  have X8 : Below Wc.heap.size Wc Wd := hw ▸ ((Below.refl _ _).alloc (Nat.le_refl _) _)
  clear hw
  have XC : Below Vc.heap.size Vc Wd := link (link (link hWa hWb) hWc) X8
  have KS : Hid (∀ j, j < 3 → ∃ s, Wd.cell? ⟨Wc.heap.size, j, none⟩ = some (.string s)) := Lib.hid (by
    intro j hj
    match j, hj with
    | 0, _ => exact ⟨u1, KK.cell (j := 0) rfl⟩
    | 1, _ => exact ⟨u2, KK.cell (j := 1) rfl⟩
    | 2, _ => exact ⟨u3, KK.cell (j := 2) rfl⟩)
  have hkb := KK.lt
  generalize Wc.heap.size = kb at KS hkb ⊢
  have BD := link BW XC
  have GD := G2.keep BD
  have GRD := GR2.keep BD
  replace KR := KR.keep XC
  clear KK X8 hWa hWb hWc HKxk HKxm HKxb BW G2 GR2
  go_wp2
  go_loopw [27] (fun v wr => ∃ i : Nat, i ≤ 8 ∧ v = .int .i64 i ∧ Below Wd.heap.size Wd wr) (fun v _ => 8 - (intOf v).toNat)
  case atStart => exact ⟨0, by omega, rfl, Below.refl _ _⟩
  case round =>
    obtain ⟨i, hi, rfl, hB⟩ := hrel
    by_cases hlt : i < 8
    · obtain ⟨x0, x1, x2, x3, hrg, hPK⟩ := TB.out i hlt
      have hi8 : (i : Int) < 8 := by omega
      have hrgD : Wd.rangeAt pb (i * 4) [x0, x1, x2, x3] := range_keep hrg hpb XC
      obtain ⟨F, S, lf, sd, hPI, hz, hlf, hsd, hd⟩ := hPK.keep XC
      obtain ⟨q, c0, sa, sc, ev, hL, _, hSd, _, _⟩ := hPI
      have hpbD : pb < Wd.heap.size := Nat.lt_of_lt_of_le hpb XC.size
      obtain ⟨n0, hn0⟩ : ∃ n, lf.length = n := ⟨_, rfl⟩
      obtain ⟨k0, hk0⟩ : ∃ k, sd.length = k := ⟨_, rfl⟩
      rw [hn0] at ev hlf
      rw [hk0] at ev hSd hsd
      have ev2 : x0 = .int .i64 F ∧ x1 = .int .i64 S ∧ x2 = .slice q n0 c0 ∧ x3 = .slice sa k0 sc := by simpa using ev
      obtain ⟨rfl, rfl, rfl, rfl⟩ := ev2
      clear ev hPK hrg hz
      have HPf := Lib.hid (fun (V : World) (hB : Below Wd.heap.size Wd V) => lproof_any F S lf sd q n0 c0 sa k0 sc hn0 (by omega) V (hL.keep hB) (hSd.self hB))
      have HCk0 := Lib.hid (fun (s : ByteArray) (V : World) (p1 : Option Addr) (c1 : Nat) (hc1 : n0 ≤ c1) (g : Glob V) (hL1 : OwnL V p1 lf) (hS1 : SdV V V.heap.size (.slice sa k0 sc) sd) => check_any RT hrd s F S lf p1 n0 c1 sa k0 sc sd hd hn0 (by omega) hc1 V g hL1 hS1)
      have HRk0 := Lib.hid (fun (s : ByteArray) (V : World) (hB : Below Wd.heap.size Wd V) => rcheck_any RT hrd s F S lf q n0 c0 sa k0 sc sd hd hn0 (by omega) (by omega) V (GRD.keep hB) (hL.keep hB) (hSd.self hB))
      have HCg0 := Lib.hid (fun (s t : ByteArray) (V : World) (p1 : Option Addr) (c1 : Nat) (hq1 : n0 = 0 → p1 = none ∧ c1 = 0) (hc1 : n0 ≤ c1) (g : Glob V) (hL1 : OwnL V p1 lf) (hS1 : SdV V V.heap.size (.slice sa k0 sc) sd) => crange_any RT hrd s t F S lf p1 n0 c1 hq1 sa k0 sc sd hd hn0 (by omega) hc1 V g hL1 hS1)
      have HRg0 := Lib.hid (fun (s t : ByteArray) (V : World) (hB : Below Wd.heap.size Wd V) => rcrange_any RT hrd s t F S lf q n0 c0 sa k0 sc sd hd hn0 (by omega) (by omega) V (GRD.keep hB) (hL.keep hB) (hSd.self hB))
      have hout : ∀ s t, (crangeM RT s t F S lf sd).1.length ≤ 1000000 := fun s t => by
        have h1 : (crangeM RT s t F S lf sd).1.length ≤ lf.length := by
          unfold crangeM
          split
          · exact Nat.zero_le _
          · split
            · split
              · exact Nat.zero_le _
              · show ((lf.drop _).take _).length ≤ _; rw [List.length_take, List.length_drop]; omega
            · exact Nat.zero_le _
        omega
      have HOut := Lib.hid hout
      clear hL hSd hd hout hlf hsd hn0 hk0
      obtain ⟨wo, rfl⟩ : ∃ wo : World, wo = wr := ⟨_, rfl⟩
      go_wp2
      go_loopw [28] (fun v wx => ∃ j : Nat, j ≤ 3 ∧ v = .int .i64 j ∧ Below Wd.heap.size Wd wx) (fun v _ => 3 - (intOf v).toNat)
      case atStart => exact ⟨0, by omega, rfl, hB⟩
      case round =>
        obtain ⟨j, hj, rfl, BX⟩ := hrel
        by_cases hjl : j < 3
        · obtain ⟨s, hck⟩ := KS.out j hjl
          have hj3 : (j : Int) < 3 := by omega
          obtain ⟨jn, hjn⟩ : ∃ m, (j + 1) % 3 = m := ⟨_, rfl⟩
          have hjn3 : jn < 3 := by omega
          have hjni : (jn : Int) < 3 := by omega
          obtain ⟨s2, hck2⟩ := KS.out jn hjn3
          have hjm : ((j : Int) + 1).tmod 3 = (jn : Int) := by rw [Int.tmod_eq_emod_of_nonneg (by omega)]; omega
          have hjw : IntKind.i64.wrap ((j : Int) + 1) = (j : Int) + 1 := by simp [IntKind.wrap, IntKind.signed, IntKind.bits]; omega
          have hjw2 : IntKind.i64.wrap (jn : Int) = (jn : Int) := by simp [IntKind.wrap, IntKind.signed, IntKind.bits]; omega
          clear hjn
          have HCk := Lib.hid (HCk0.out s)
          have HRk := Lib.hid (HRk0.out s)
          have HCg := Lib.hid (HCg0.out s s2)
          have HRg := Lib.hid (HRg0.out s s2)
          have hOl := HOut.out s s2
          generalize checkM RT s F S lf sd = cm at HCk HRk
          obtain ⟨ca, cb, cz⟩ := cm
          dsimp only at HCk HRk
          generalize crangeM RT s s2 F S lf sd = cr at HCg HRg hOl
          obtain ⟨out, zo⟩ := cr
          dsimp only at HCg HRg hOl
          obtain ⟨t0, ht0⟩ : ∃ t, out.length = t := ⟨_, rfl⟩
          clear HCk0 HRk0 HCg0 HRg0
          go_upto_region 17 with (fail)
          refine wp_region_held_drew (S := fun w' => Below Wd.heap.size Wd w') (by kernel_rfl) (below_drew BX) (fun _ => ?_)
          have hHeld := below_drew BX
          clear BX
          have CS : ∀ w', Below Wd.heap.size Wd w' → w'.cell? ⟨kb, j, none⟩ = some (.string s) := fun w' h => (h.cell (p := ⟨kb, j, none⟩) hkb).trans hck
          generalize World.drew _ = Ua at hHeld ⊢
          refine wpAnyH_take (i := 0) (oi := ⟨some 121, .load 29 (.tmp 15), 29, "law.go:144", #[], none⟩) (v := _) rfl (by kernel_rfl) (by kernel_rfl) (by kernel_rfl) (fun _ _ _ h => h) (yieldsIf_load_mid (by rfl) _ _ rfl _ 0 rfl _ _ (fun w' hSw => rng_blk KR w' hSw) Tryd.underlying29 rfl hsR) hHeld ?_
          try simp only [Act.put, List.setIfInBounds_toArray, List.set_cons_zero, List.set_cons_succ]
          refine wpAnyH_take (i := 1) (oi := ⟨some 122, .move (.tmp 26), 47, "law.go:144", #[], none⟩) (v := .slice (some ⟨kb, 0, none⟩) 3 3) rfl (by kernel_rfl) (by kernel_rfl) (by kernel_rfl) (fun _ _ _ h => h) (Or.inl ⟨by rfl, fun w' hSw => by go_simp⟩) hHeld ?_
          try simp only [Act.put, List.setIfInBounds_toArray, List.set_cons_zero, List.set_cons_succ]
          refine wpAnyH_take (i := 2) (oi := ⟨some 123, .move (.tmp 28), 3, "law.go:144", #[], none⟩) (v := .int .i64 (j : Int)) rfl (by kernel_rfl) (by kernel_rfl) (by kernel_rfl) (fun _ _ _ h => h) (Or.inl ⟨by rfl, fun w' hSw => by go_simp⟩) hHeld ?_
          try simp only [Act.put, List.setIfInBounds_toArray, List.set_cons_zero, List.set_cons_succ]
          refine wpAnyH_take (i := 3) (oi := ⟨some 124, .indexAddr 47 (.tmp 122) (.tmp 123), 0, "law.go:144", #[⟨1, .data⟩, ⟨2, .data⟩], none⟩) (v := .pointer (some ⟨kb, j, none⟩)) rfl (by kernel_rfl) (by kernel_rfl) (by kernel_rfl) (fun _ _ _ h => h) (Or.inl ⟨by rfl, fun w' hSw => by go_simp; try (intro hcm; exact absurd hcm (by omega))⟩) hHeld ?_
          try simp only [Act.put, List.setIfInBounds_toArray, List.set_cons_zero, List.set_cons_succ]
          refine wpAnyH_take (i := 4) (oi := ⟨some 125, .load 9 (.tmp 124), 9, "law.go:144", #[⟨3, .data⟩], none⟩) (v := .string s) rfl (by kernel_rfl) (by kernel_rfl) (by kernel_rfl) (fun _ _ _ h => h) (Or.inl ⟨by rfl, fun w' hSw => by have hc := CS w' hSw; go_simp⟩) hHeld ?_
          try simp only [Act.put, List.setIfInBounds_toArray, List.set_cons_zero, List.set_cons_succ]
          refine wpAnyH_take (i := 5) (oi := ⟨some 126, .move (.tmp 25), 63, "law.go:144", #[], none⟩) (v := .slice (some ⟨pb, 0, none⟩) 8 8) rfl (by kernel_rfl) (by kernel_rfl) (by kernel_rfl) (fun _ _ _ h => h) (Or.inl ⟨by rfl, fun w' hSw => by go_simp⟩) hHeld ?_
          try simp only [Act.put, List.setIfInBounds_toArray, List.set_cons_zero, List.set_cons_succ]
          refine wpAnyH_take (i := 6) (oi := ⟨some 127, .move (.tmp 27), 3, "law.go:144", #[], none⟩) (v := .int .i64 (i : Int)) rfl (by kernel_rfl) (by kernel_rfl) (by kernel_rfl) (fun _ _ _ h => h) (Or.inl ⟨by rfl, fun w' hSw => by go_simp⟩) hHeld ?_
          try simp only [Act.put, List.setIfInBounds_toArray, List.set_cons_zero, List.set_cons_succ]
          refine wpAnyH_take (i := 7) (oi := ⟨some 128, .indexAddr 63 (.tmp 126) (.tmp 127), 0, "law.go:144", #[⟨5, .data⟩, ⟨6, .data⟩], none⟩) (v := .pointer (some ⟨pb, i * 4, none⟩)) rfl (by kernel_rfl) (by kernel_rfl) (by kernel_rfl) (fun _ _ _ h => h) (Or.inl ⟨by rfl, fun w' hSw => by go_simp; try (intro hcm; exact absurd hcm (by omega))⟩) hHeld ?_
          try simp only [Act.put, List.setIfInBounds_toArray, List.set_cons_zero, List.set_cons_succ]
          refine wpAnyH_take (i := 8) (oi := ⟨some 129, .load 54 (.tmp 128), 54, "law.go:144", #[⟨7, .data⟩], none⟩) (v := _) rfl (by kernel_rfl) (by kernel_rfl) (by kernel_rfl) (fun _ _ _ h => h) (yieldsIf_load_mid (by rfl) _ _ rfl pb (i * 4) rfl [.int .i64 F, .int .i64 S, .slice q n0 c0, .slice sa k0 sc] _ (fun w' hSw => range_keep hrgD hpbD hSw) Tryd.underlying54 rfl (by kernel_rfl)) hHeld ?_
          try simp only [Act.put, List.setIfInBounds_toArray, List.set_cons_zero, List.set_cons_succ]
          refine wpAnyH_ready (rs := [9]) (by kernel_rfl) (by simp) ?_
          refine AllReadyH.cons (o := ⟨some 130, .call { callee := .value (.func 29), args := #[.tmp 129], argTypes := #[54] }, 50, "law.go:144", #[⟨8, .data⟩], none⟩) rfl (fun K hK => ?_) AllReadyH.nil
          rw [if_pos (by rfl)]
          go_simp
          refine (HPf.out Ua hHeld).mono ?_
          rintro e Ub ⟨p1, c1, rfl, hc1, hq1, hL1, hS1, hB1⟩
          dsimp only
          refine hK.out _ _ (link hHeld hB1) (fun hHeld => ?_)
          clear hK K
          try simp only [Act.put, List.setIfInBounds_toArray, List.set_cons_zero, List.set_cons_succ]
          refine wpAnyH_ready (rs := [10]) (by kernel_rfl) (by simp) ?_
          refine AllReadyH.cons (o := ⟨some 131, .call { callee := .value (.func 28), args := #[.tmp 121, .tmp 125, .tmp 130], argTypes := #[29, 9, 50] }, 64, "law.go:144", #[⟨0, .data⟩, ⟨4, .data⟩, ⟨9, .data⟩, ⟨9, .chain⟩], none⟩) rfl (fun K hK => ?_) AllReadyH.nil
          rw [if_pos (by rfl)]
          go_simp
          refine (HCk.out Ub p1 c1 hc1 (GD.keep hHeld) hL1 hS1).mono ?_
          rintro e Uc ⟨rfl, hB2⟩
          dsimp only
          refine hK.out _ _ (link hHeld hB2) (fun hHeld => ?_)
          clear hK K
          try simp only [Act.put, List.setIfInBounds_toArray, List.set_cons_zero, List.set_cons_succ]
          refine wpAnyH_take (i := 11) (oi := ⟨some 120, .move (.tmp 131), 64, "law.go:144", #[⟨10, .data⟩], none⟩) (v := .tuple #[.string ca, .bool cb, .int .i64 cz]) rfl (by kernel_rfl) (by kernel_rfl) (by kernel_rfl) (fun _ _ _ h => h) (Or.inl ⟨by rfl, fun w' hSw => by go_simp⟩) hHeld ?_
          try simp only [Act.put, List.setIfInBounds_toArray, List.set_cons_zero, List.set_cons_succ]
          refine wpAnyH_take (i := 12) (oi := ⟨some 132, .extract (.tmp 120) 0, 9, "law.go:144", #[⟨11, .data⟩], none⟩) (v := .string ca) rfl (by kernel_rfl) (by kernel_rfl) (by kernel_rfl) (fun _ _ _ h => h) (Or.inl ⟨by rfl, fun w' hSw => by go_simp⟩) hHeld ?_
          try simp only [Act.put, List.setIfInBounds_toArray, List.set_cons_zero, List.set_cons_succ]
          refine wpAnyH_take (i := 13) (oi := ⟨some 133, .extract (.tmp 120) 1, 4, "law.go:144", #[⟨11, .data⟩, { on := 15, ground := Ground.gcOnly Departure.lateStores }], none⟩) (v := .bool cb) rfl (by kernel_rfl) (by kernel_rfl) (by kernel_rfl) (fun _ _ _ h => h) (Or.inl ⟨by rfl, fun w' hSw => by go_simp⟩) hHeld ?_
          try simp only [Act.put, List.setIfInBounds_toArray, List.set_cons_zero, List.set_cons_succ]
          refine wpAnyH_take (i := 14) (oi := ⟨some 134, .extract (.tmp 120) 2, 30, "law.go:144", #[⟨11, .data⟩, { on := 16, ground := Ground.gcOnly Departure.lateStores }], none⟩) (v := .int .i64 cz) rfl (by kernel_rfl) (by kernel_rfl) (by kernel_rfl) (fun _ _ _ h => h) (Or.inl ⟨by rfl, fun w' hSw => by go_simp⟩) hHeld ?_
          try simp only [Act.put, List.setIfInBounds_toArray, List.set_cons_zero, List.set_cons_succ]
          refine wpAnyH_ready (rs := [15]) (by kernel_rfl) (by simp) ?_
          refine AllReadyH.cons (o := ⟨some 29, .assign (.tmp 132), 9, "law.go:144", #[⟨12, .data⟩, ⟨10, .chain⟩, ⟨0, .phase⟩, ⟨1, .phase⟩, ⟨2, .phase⟩, ⟨3, .phase⟩, ⟨4, .phase⟩, ⟨5, .phase⟩, ⟨6, .phase⟩, ⟨7, .phase⟩, ⟨8, .phase⟩, ⟨9, .phase⟩, ⟨10, .phase⟩, ⟨11, .phase⟩, ⟨12, .phase⟩, { on := 13, ground := Ground.textOnly Departure.lateStores }, { on := 14, ground := Ground.textOnly Departure.lateStores }], none⟩) rfl (fun K hK => ?_) AllReadyH.nil
          go_simp
          refine hK.out _ _ (hHeld) (fun hHeld => ?_)
          clear hK K
          try simp only [Act.put, List.setIfInBounds_toArray, List.set_cons_zero, List.set_cons_succ]
          refine wpAnyH_ready (rs := [16]) (by kernel_rfl) (by simp) ?_
          refine AllReadyH.cons (o := ⟨some 30, .assign (.tmp 133), 4, "law.go:144", #[⟨13, .data⟩, ⟨15, .chain⟩, ⟨0, .phase⟩, ⟨1, .phase⟩, ⟨2, .phase⟩, ⟨3, .phase⟩, ⟨4, .phase⟩, ⟨5, .phase⟩, ⟨6, .phase⟩, ⟨7, .phase⟩, ⟨8, .phase⟩, ⟨9, .phase⟩, ⟨10, .phase⟩, ⟨11, .phase⟩, ⟨12, .phase⟩, ⟨13, .phase⟩, { on := 14, ground := Ground.textOnly Departure.lateStores }, ⟨15, .phase⟩], none⟩) rfl (fun K hK => ?_) AllReadyH.nil
          go_simp
          refine hK.out _ _ (hHeld) (fun hHeld => ?_)
          clear hK K
          try simp only [Act.put, List.setIfInBounds_toArray, List.set_cons_zero, List.set_cons_succ]
          refine wpAnyH_ready (rs := [17]) (by kernel_rfl) (by simp) ?_
          refine AllReadyH.cons (o := ⟨some 31, .assign (.tmp 134), 30, "law.go:144", #[⟨14, .data⟩, ⟨16, .chain⟩, ⟨0, .phase⟩, ⟨1, .phase⟩, ⟨2, .phase⟩, ⟨3, .phase⟩, ⟨4, .phase⟩, ⟨5, .phase⟩, ⟨6, .phase⟩, ⟨7, .phase⟩, ⟨8, .phase⟩, ⟨9, .phase⟩, ⟨10, .phase⟩, ⟨11, .phase⟩, ⟨12, .phase⟩, ⟨13, .phase⟩, ⟨14, .phase⟩, ⟨15, .phase⟩, ⟨16, .phase⟩], none⟩) rfl (fun K hK => ?_) AllReadyH.nil
          go_simp
          refine hK.out _ _ (hHeld) (fun hHeld => ?_)
          clear hK K
          try simp only [Act.put, List.setIfInBounds_toArray, List.set_cons_zero, List.set_cons_succ]
          clear hB1 hB2 hL1 hS1 hc1 hq1
          refine wpAnyH_done (by kernel_rfl) ?_ _
          have BX := hHeld
          clear hHeld CS
          go_upto_region 18 with (fail)
          refine wp_region_held_drew (S := fun w' => Below Wd.heap.size Wd w') (by kernel_rfl) (below_drew BX) (fun _ => ?_)
          have hHeld := below_drew BX
          clear BX
          have CS : ∀ w', Below Wd.heap.size Wd w' → w'.cell? ⟨kb, j, none⟩ = some (.string s) := fun w' h => (h.cell (p := ⟨kb, j, none⟩) hkb).trans hck
          generalize World.drew _ = Ua at hHeld ⊢
          refine wpAnyH_take (i := 0) (oi := ⟨some 136, .load 29 (.tmp 15), 29, "law.go:145", #[], none⟩) (v := _) rfl (by kernel_rfl) (by kernel_rfl) (by kernel_rfl) (fun _ _ _ h => h) (yieldsIf_load_mid (by rfl) _ _ rfl _ 0 rfl _ _ (fun w' hSw => rng_blk KR w' hSw) Tryd.underlying29 rfl hsR) hHeld ?_
          try simp only [Act.put, List.setIfInBounds_toArray, List.set_cons_zero, List.set_cons_succ]
          refine wpAnyH_take (i := 1) (oi := ⟨some 137, .move (.tmp 26), 47, "law.go:145", #[], none⟩) (v := .slice (some ⟨kb, 0, none⟩) 3 3) rfl (by kernel_rfl) (by kernel_rfl) (by kernel_rfl) (fun _ _ _ h => h) (Or.inl ⟨by rfl, fun w' hSw => by go_simp⟩) hHeld ?_
          try simp only [Act.put, List.setIfInBounds_toArray, List.set_cons_zero, List.set_cons_succ]
          refine wpAnyH_take (i := 2) (oi := ⟨some 138, .move (.tmp 28), 3, "law.go:145", #[], none⟩) (v := .int .i64 (j : Int)) rfl (by kernel_rfl) (by kernel_rfl) (by kernel_rfl) (fun _ _ _ h => h) (Or.inl ⟨by rfl, fun w' hSw => by go_simp⟩) hHeld ?_
          try simp only [Act.put, List.setIfInBounds_toArray, List.set_cons_zero, List.set_cons_succ]
          refine wpAnyH_take (i := 3) (oi := ⟨some 139, .indexAddr 47 (.tmp 137) (.tmp 138), 0, "law.go:145", #[⟨1, .data⟩, ⟨2, .data⟩], none⟩) (v := .pointer (some ⟨kb, j, none⟩)) rfl (by kernel_rfl) (by kernel_rfl) (by kernel_rfl) (fun _ _ _ h => h) (Or.inl ⟨by rfl, fun w' hSw => by go_simp; try (intro hcm; exact absurd hcm (by omega))⟩) hHeld ?_
          try simp only [Act.put, List.setIfInBounds_toArray, List.set_cons_zero, List.set_cons_succ]
          refine wpAnyH_take (i := 4) (oi := ⟨some 140, .load 9 (.tmp 139), 9, "law.go:145", #[⟨3, .data⟩], none⟩) (v := .string s) rfl (by kernel_rfl) (by kernel_rfl) (by kernel_rfl) (fun _ _ _ h => h) (Or.inl ⟨by rfl, fun w' hSw => by have hc := CS w' hSw; go_simp⟩) hHeld ?_
          try simp only [Act.put, List.setIfInBounds_toArray, List.set_cons_zero, List.set_cons_succ]
          refine wpAnyH_take (i := 5) (oi := ⟨some 141, .move (.tmp 25), 63, "law.go:145", #[], none⟩) (v := .slice (some ⟨pb, 0, none⟩) 8 8) rfl (by kernel_rfl) (by kernel_rfl) (by kernel_rfl) (fun _ _ _ h => h) (Or.inl ⟨by rfl, fun w' hSw => by go_simp⟩) hHeld ?_
          try simp only [Act.put, List.setIfInBounds_toArray, List.set_cons_zero, List.set_cons_succ]
          refine wpAnyH_take (i := 6) (oi := ⟨some 142, .move (.tmp 27), 3, "law.go:145", #[], none⟩) (v := .int .i64 (i : Int)) rfl (by kernel_rfl) (by kernel_rfl) (by kernel_rfl) (fun _ _ _ h => h) (Or.inl ⟨by rfl, fun w' hSw => by go_simp⟩) hHeld ?_
          try simp only [Act.put, List.setIfInBounds_toArray, List.set_cons_zero, List.set_cons_succ]
          refine wpAnyH_take (i := 7) (oi := ⟨some 143, .indexAddr 63 (.tmp 141) (.tmp 142), 0, "law.go:145", #[⟨5, .data⟩, ⟨6, .data⟩], none⟩) (v := .pointer (some ⟨pb, i * 4, none⟩)) rfl (by kernel_rfl) (by kernel_rfl) (by kernel_rfl) (fun _ _ _ h => h) (Or.inl ⟨by rfl, fun w' hSw => by go_simp; try (intro hcm; exact absurd hcm (by omega))⟩) hHeld ?_
          try simp only [Act.put, List.setIfInBounds_toArray, List.set_cons_zero, List.set_cons_succ]
          refine wpAnyH_take (i := 8) (oi := ⟨some 144, .load 54 (.tmp 143), 54, "law.go:145", #[⟨7, .data⟩], none⟩) (v := _) rfl (by kernel_rfl) (by kernel_rfl) (by kernel_rfl) (fun _ _ _ h => h) (yieldsIf_load_mid (by rfl) _ _ rfl pb (i * 4) rfl [.int .i64 F, .int .i64 S, .slice q n0 c0, .slice sa k0 sc] _ (fun w' hSw => range_keep hrgD hpbD hSw) Tryd.underlying54 rfl (by kernel_rfl)) hHeld ?_
          try simp only [Act.put, List.setIfInBounds_toArray, List.set_cons_zero, List.set_cons_succ]
          refine wpAnyH_ready (rs := [9]) (by kernel_rfl) (by simp) ?_
          refine AllReadyH.cons (o := ⟨some 145, .call { callee := .value (.func 30), args := #[.tmp 136, .tmp 140, .tmp 144], argTypes := #[29, 9, 54] }, 64, "law.go:145", #[⟨0, .data⟩, ⟨4, .data⟩, ⟨8, .data⟩], none⟩) rfl (fun K hK => ?_) AllReadyH.nil
          rw [if_pos (by rfl)]
          go_simp
          refine (HRk.out Ua hHeld).mono ?_
          rintro e Uc ⟨rfl, hB2⟩
          dsimp only
          refine hK.out _ _ (link hHeld hB2) (fun hHeld => ?_)
          clear hK K
          try simp only [Act.put, List.setIfInBounds_toArray, List.set_cons_zero, List.set_cons_succ]
          refine wpAnyH_take (i := 10) (oi := ⟨some 135, .move (.tmp 145), 64, "law.go:145", #[⟨9, .data⟩], none⟩) (v := .tuple #[.string ca, .bool cb, .int .i64 cz]) rfl (by kernel_rfl) (by kernel_rfl) (by kernel_rfl) (fun _ _ _ h => h) (Or.inl ⟨by rfl, fun w' hSw => by go_simp⟩) hHeld ?_
          try simp only [Act.put, List.setIfInBounds_toArray, List.set_cons_zero, List.set_cons_succ]
          refine wpAnyH_take (i := 11) (oi := ⟨some 146, .extract (.tmp 135) 0, 9, "law.go:145", #[⟨10, .data⟩], none⟩) (v := .string ca) rfl (by kernel_rfl) (by kernel_rfl) (by kernel_rfl) (fun _ _ _ h => h) (Or.inl ⟨by rfl, fun w' hSw => by go_simp⟩) hHeld ?_
          try simp only [Act.put, List.setIfInBounds_toArray, List.set_cons_zero, List.set_cons_succ]
          refine wpAnyH_take (i := 12) (oi := ⟨some 147, .extract (.tmp 135) 1, 4, "law.go:145", #[⟨10, .data⟩, { on := 14, ground := Ground.gcOnly Departure.lateStores }], none⟩) (v := .bool cb) rfl (by kernel_rfl) (by kernel_rfl) (by kernel_rfl) (fun _ _ _ h => h) (Or.inl ⟨by rfl, fun w' hSw => by go_simp⟩) hHeld ?_
          try simp only [Act.put, List.setIfInBounds_toArray, List.set_cons_zero, List.set_cons_succ]
          refine wpAnyH_take (i := 13) (oi := ⟨some 148, .extract (.tmp 135) 2, 30, "law.go:145", #[⟨10, .data⟩, { on := 15, ground := Ground.gcOnly Departure.lateStores }], none⟩) (v := .int .i64 cz) rfl (by kernel_rfl) (by kernel_rfl) (by kernel_rfl) (fun _ _ _ h => h) (Or.inl ⟨by rfl, fun w' hSw => by go_simp⟩) hHeld ?_
          try simp only [Act.put, List.setIfInBounds_toArray, List.set_cons_zero, List.set_cons_succ]
          refine wpAnyH_ready (rs := [14]) (by kernel_rfl) (by simp) ?_
          refine AllReadyH.cons (o := ⟨some 32, .assign (.tmp 146), 9, "law.go:145", #[⟨11, .data⟩, ⟨9, .chain⟩, ⟨0, .phase⟩, ⟨1, .phase⟩, ⟨2, .phase⟩, ⟨3, .phase⟩, ⟨4, .phase⟩, ⟨5, .phase⟩, ⟨6, .phase⟩, ⟨7, .phase⟩, ⟨8, .phase⟩, ⟨9, .phase⟩, ⟨10, .phase⟩, ⟨11, .phase⟩, { on := 12, ground := Ground.textOnly Departure.lateStores }, { on := 13, ground := Ground.textOnly Departure.lateStores }], none⟩) rfl (fun K hK => ?_) AllReadyH.nil
          go_simp
          refine hK.out _ _ (hHeld) (fun hHeld => ?_)
          clear hK K
          try simp only [Act.put, List.setIfInBounds_toArray, List.set_cons_zero, List.set_cons_succ]
          refine wpAnyH_ready (rs := [15]) (by kernel_rfl) (by simp) ?_
          refine AllReadyH.cons (o := ⟨some 33, .assign (.tmp 147), 4, "law.go:145", #[⟨12, .data⟩, ⟨14, .chain⟩, ⟨0, .phase⟩, ⟨1, .phase⟩, ⟨2, .phase⟩, ⟨3, .phase⟩, ⟨4, .phase⟩, ⟨5, .phase⟩, ⟨6, .phase⟩, ⟨7, .phase⟩, ⟨8, .phase⟩, ⟨9, .phase⟩, ⟨10, .phase⟩, ⟨11, .phase⟩, ⟨12, .phase⟩, { on := 13, ground := Ground.textOnly Departure.lateStores }, ⟨14, .phase⟩], none⟩) rfl (fun K hK => ?_) AllReadyH.nil
          go_simp
          refine hK.out _ _ (hHeld) (fun hHeld => ?_)
          clear hK K
          try simp only [Act.put, List.setIfInBounds_toArray, List.set_cons_zero, List.set_cons_succ]
          refine wpAnyH_ready (rs := [16]) (by kernel_rfl) (by simp) ?_
          refine AllReadyH.cons (o := ⟨some 34, .assign (.tmp 148), 30, "law.go:145", #[⟨13, .data⟩, ⟨15, .chain⟩, ⟨0, .phase⟩, ⟨1, .phase⟩, ⟨2, .phase⟩, ⟨3, .phase⟩, ⟨4, .phase⟩, ⟨5, .phase⟩, ⟨6, .phase⟩, ⟨7, .phase⟩, ⟨8, .phase⟩, ⟨9, .phase⟩, ⟨10, .phase⟩, ⟨11, .phase⟩, ⟨12, .phase⟩, ⟨13, .phase⟩, ⟨14, .phase⟩, ⟨15, .phase⟩], none⟩) rfl (fun K hK => ?_) AllReadyH.nil
          go_simp
          refine hK.out _ _ (hHeld) (fun hHeld => ?_)
          clear hK K
          try simp only [Act.put, List.setIfInBounds_toArray, List.set_cons_zero, List.set_cons_succ]
          clear hB2
          refine wpAnyH_done (by kernel_rfl) ?_ _
          have BX := hHeld
          clear hHeld CS
          go_upto_region 19 with (fail)
          refine wp_region_held_drew (S := fun w' => Below Wd.heap.size Wd w') (by kernel_rfl) (below_drew BX) (fun _ => ?_)
          have hHeld := below_drew BX
          clear BX
          have CS : ∀ w', Below Wd.heap.size Wd w' → w'.cell? ⟨kb, j, none⟩ = some (.string s) := fun w' h => (h.cell (p := ⟨kb, j, none⟩) hkb).trans hck
          have CS2 : ∀ w', Below Wd.heap.size Wd w' → w'.cell? ⟨kb, jn, none⟩ = some (.string s2) := fun w' h => (h.cell (p := ⟨kb, jn, none⟩) hkb).trans hck2
          generalize World.drew _ = Ua at hHeld ⊢
          refine wpAnyH_take (i := 0) (oi := ⟨some 150, .load 29 (.tmp 15), 29, "law.go:146", #[], none⟩) (v := _) rfl (by kernel_rfl) (by kernel_rfl) (by kernel_rfl) (fun _ _ _ h => h) (yieldsIf_load_mid (by rfl) _ _ rfl _ 0 rfl _ _ (fun w' hSw => rng_blk KR w' hSw) Tryd.underlying29 rfl hsR) hHeld ?_
          try simp only [Act.put, List.setIfInBounds_toArray, List.set_cons_zero, List.set_cons_succ]
          refine wpAnyH_take (i := 1) (oi := ⟨some 151, .move (.tmp 26), 47, "law.go:146", #[], none⟩) (v := .slice (some ⟨kb, 0, none⟩) 3 3) rfl (by kernel_rfl) (by kernel_rfl) (by kernel_rfl) (fun _ _ _ h => h) (Or.inl ⟨by rfl, fun w' hSw => by go_simp⟩) hHeld ?_
          try simp only [Act.put, List.setIfInBounds_toArray, List.set_cons_zero, List.set_cons_succ]
          refine wpAnyH_take (i := 2) (oi := ⟨some 152, .move (.tmp 28), 3, "law.go:146", #[], none⟩) (v := .int .i64 (j : Int)) rfl (by kernel_rfl) (by kernel_rfl) (by kernel_rfl) (fun _ _ _ h => h) (Or.inl ⟨by rfl, fun w' hSw => by go_simp⟩) hHeld ?_
          try simp only [Act.put, List.setIfInBounds_toArray, List.set_cons_zero, List.set_cons_succ]
          refine wpAnyH_take (i := 3) (oi := ⟨some 153, .indexAddr 47 (.tmp 151) (.tmp 152), 0, "law.go:146", #[⟨1, .data⟩, ⟨2, .data⟩], none⟩) (v := .pointer (some ⟨kb, j, none⟩)) rfl (by kernel_rfl) (by kernel_rfl) (by kernel_rfl) (fun _ _ _ h => h) (Or.inl ⟨by rfl, fun w' hSw => by go_simp; try (intro hcm; exact absurd hcm (by omega))⟩) hHeld ?_
          try simp only [Act.put, List.setIfInBounds_toArray, List.set_cons_zero, List.set_cons_succ]
          refine wpAnyH_take (i := 4) (oi := ⟨some 154, .load 9 (.tmp 153), 9, "law.go:146", #[⟨3, .data⟩], none⟩) (v := .string s) rfl (by kernel_rfl) (by kernel_rfl) (by kernel_rfl) (fun _ _ _ h => h) (Or.inl ⟨by rfl, fun w' hSw => by have hc := CS w' hSw; go_simp⟩) hHeld ?_
          try simp only [Act.put, List.setIfInBounds_toArray, List.set_cons_zero, List.set_cons_succ]
          refine wpAnyH_take (i := 5) (oi := ⟨some 155, .move (.tmp 26), 47, "law.go:146", #[], none⟩) (v := .slice (some ⟨kb, 0, none⟩) 3 3) rfl (by kernel_rfl) (by kernel_rfl) (by kernel_rfl) (fun _ _ _ h => h) (Or.inl ⟨by rfl, fun w' hSw => by go_simp⟩) hHeld ?_
          try simp only [Act.put, List.setIfInBounds_toArray, List.set_cons_zero, List.set_cons_succ]
          refine wpAnyH_take (i := 6) (oi := ⟨some 156, .move (.tmp 28), 3, "law.go:146", #[], none⟩) (v := .int .i64 (j : Int)) rfl (by kernel_rfl) (by kernel_rfl) (by kernel_rfl) (fun _ _ _ h => h) (Or.inl ⟨by rfl, fun w' hSw => by go_simp⟩) hHeld ?_
          try simp only [Act.put, List.setIfInBounds_toArray, List.set_cons_zero, List.set_cons_succ]
          refine wpAnyH_take (i := 7) (oi := ⟨some 157, .binOp .add 3 (.tmp 156) (.const (Value.int IntKind.i64 1)) 3, 3, "law.go:146", #[⟨6, .data⟩], none⟩) (v := .int .i64 ((j : Int) + 1)) rfl (by kernel_rfl) (by kernel_rfl) (by kernel_rfl) (fun _ _ _ h => h) (Or.inl ⟨by rfl, fun w' hSw => by go_simp⟩) hHeld ?_
          try simp only [Act.put, List.setIfInBounds_toArray, List.set_cons_zero, List.set_cons_succ]
          refine wpAnyH_take (i := 8) (oi := ⟨some 158, .binOp .rem 3 (.tmp 157) (.const (Value.int IntKind.i64 3)) 3, 3, "law.go:146", #[⟨7, .data⟩], none⟩) (v := .int .i64 (jn : Int)) rfl (by kernel_rfl) (by kernel_rfl) (by kernel_rfl) (fun _ _ _ h => h) (Or.inl ⟨by rfl, fun w' hSw => by go_simp⟩) hHeld ?_
          try simp only [Act.put, List.setIfInBounds_toArray, List.set_cons_zero, List.set_cons_succ]
          refine wpAnyH_take (i := 9) (oi := ⟨some 159, .indexAddr 47 (.tmp 155) (.tmp 158), 0, "law.go:146", #[⟨5, .data⟩, ⟨8, .data⟩], none⟩) (v := .pointer (some ⟨kb, jn, none⟩)) rfl (by kernel_rfl) (by kernel_rfl) (by kernel_rfl) (fun _ _ _ h => h) (Or.inl ⟨by rfl, fun w' hSw => by go_simp; try (intro hcm; exact absurd hcm (by omega))⟩) hHeld ?_
          try simp only [Act.put, List.setIfInBounds_toArray, List.set_cons_zero, List.set_cons_succ]
          refine wpAnyH_take (i := 10) (oi := ⟨some 160, .load 9 (.tmp 159), 9, "law.go:146", #[⟨9, .data⟩], none⟩) (v := .string s2) rfl (by kernel_rfl) (by kernel_rfl) (by kernel_rfl) (fun _ _ _ h => h) (Or.inl ⟨by rfl, fun w' hSw => by have hc := CS2 w' hSw; go_simp⟩) hHeld ?_
          try simp only [Act.put, List.setIfInBounds_toArray, List.set_cons_zero, List.set_cons_succ]
          refine wpAnyH_take (i := 11) (oi := ⟨some 161, .move (.tmp 25), 63, "law.go:146", #[], none⟩) (v := .slice (some ⟨pb, 0, none⟩) 8 8) rfl (by kernel_rfl) (by kernel_rfl) (by kernel_rfl) (fun _ _ _ h => h) (Or.inl ⟨by rfl, fun w' hSw => by go_simp⟩) hHeld ?_
          try simp only [Act.put, List.setIfInBounds_toArray, List.set_cons_zero, List.set_cons_succ]
          refine wpAnyH_take (i := 12) (oi := ⟨some 162, .move (.tmp 27), 3, "law.go:146", #[], none⟩) (v := .int .i64 (i : Int)) rfl (by kernel_rfl) (by kernel_rfl) (by kernel_rfl) (fun _ _ _ h => h) (Or.inl ⟨by rfl, fun w' hSw => by go_simp⟩) hHeld ?_
          try simp only [Act.put, List.setIfInBounds_toArray, List.set_cons_zero, List.set_cons_succ]
          refine wpAnyH_take (i := 13) (oi := ⟨some 163, .indexAddr 63 (.tmp 161) (.tmp 162), 0, "law.go:146", #[⟨11, .data⟩, ⟨12, .data⟩], none⟩) (v := .pointer (some ⟨pb, i * 4, none⟩)) rfl (by kernel_rfl) (by kernel_rfl) (by kernel_rfl) (fun _ _ _ h => h) (Or.inl ⟨by rfl, fun w' hSw => by go_simp; try (intro hcm; exact absurd hcm (by omega))⟩) hHeld ?_
          try simp only [Act.put, List.setIfInBounds_toArray, List.set_cons_zero, List.set_cons_succ]
          refine wpAnyH_take (i := 14) (oi := ⟨some 164, .load 54 (.tmp 163), 54, "law.go:146", #[⟨13, .data⟩], none⟩) (v := _) rfl (by kernel_rfl) (by kernel_rfl) (by kernel_rfl) (fun _ _ _ h => h) (yieldsIf_load_mid (by rfl) _ _ rfl pb (i * 4) rfl [.int .i64 F, .int .i64 S, .slice q n0 c0, .slice sa k0 sc] _ (fun w' hSw => range_keep hrgD hpbD hSw) Tryd.underlying54 rfl (by kernel_rfl)) hHeld ?_
          try simp only [Act.put, List.setIfInBounds_toArray, List.set_cons_zero, List.set_cons_succ]
          refine wpAnyH_ready (rs := [15]) (by kernel_rfl) (by simp) ?_
          refine AllReadyH.cons (o := ⟨some 165, .call { callee := .value (.func 29), args := #[.tmp 164], argTypes := #[54] }, 50, "law.go:146", #[⟨14, .data⟩], none⟩) rfl (fun K hK => ?_) AllReadyH.nil
          rw [if_pos (by rfl)]
          go_simp
          refine (HPf.out Ua hHeld).mono ?_
          rintro e Ub ⟨p1, c1, rfl, hc1, hq1, hL1, hS1, hB1⟩
          dsimp only
          refine hK.out _ _ (link hHeld hB1) (fun hHeld => ?_)
          clear hK K
          try simp only [Act.put, List.setIfInBounds_toArray, List.set_cons_zero, List.set_cons_succ]
          refine wpAnyH_ready (rs := [16]) (by kernel_rfl) (by simp) ?_
          refine AllReadyH.cons (o := ⟨some 166, .call { callee := .value (.func 31), args := #[.tmp 150, .tmp 154, .tmp 160, .tmp 165], argTypes := #[29, 9, 9, 50] }, 68, "law.go:146", #[⟨0, .data⟩, ⟨4, .data⟩, ⟨10, .data⟩, ⟨15, .data⟩, ⟨15, .chain⟩], none⟩) rfl (fun K hK => ?_) AllReadyH.nil
          rw [if_pos (by rfl)]
          go_simp
          refine (HCg.out Ub p1 c1 hq1 hc1 (GD.keep hHeld) hL1 hS1).mono ?_
          rintro e Uc ⟨v5, rfl, ⟨q5, c5, rfl, hc5, hL5⟩, hB2⟩
          rw [ht0]
          dsimp only
          refine hK.out _ _ (link hHeld hB2) (fun hHeld => ?_)
          clear hK K
          try simp only [Act.put, List.setIfInBounds_toArray, List.set_cons_zero, List.set_cons_succ]
          refine wpAnyH_take (i := 17) (oi := ⟨some 149, .move (.tmp 166), 68, "law.go:146", #[⟨16, .data⟩], none⟩) (v := .tuple #[.slice q5 t0 c5, .int .i64 zo]) rfl (by kernel_rfl) (by kernel_rfl) (by kernel_rfl) (fun _ _ _ h => h) (Or.inl ⟨by rfl, fun w' hSw => by go_simp⟩) hHeld ?_
          try simp only [Act.put, List.setIfInBounds_toArray, List.set_cons_zero, List.set_cons_succ]
          refine wpAnyH_take (i := 18) (oi := ⟨some 167, .extract (.tmp 149) 0, 33, "law.go:146", #[⟨17, .data⟩], none⟩) (v := .slice q5 t0 c5) rfl (by kernel_rfl) (by kernel_rfl) (by kernel_rfl) (fun _ _ _ h => h) (Or.inl ⟨by rfl, fun w' hSw => by go_simp⟩) hHeld ?_
          try simp only [Act.put, List.setIfInBounds_toArray, List.set_cons_zero, List.set_cons_succ]
          refine wpAnyH_take (i := 19) (oi := ⟨some 168, .extract (.tmp 149) 1, 30, "law.go:146", #[⟨17, .data⟩, { on := 20, ground := Ground.gcOnly Departure.lateStores }], none⟩) (v := .int .i64 zo) rfl (by kernel_rfl) (by kernel_rfl) (by kernel_rfl) (fun _ _ _ h => h) (Or.inl ⟨by rfl, fun w' hSw => by go_simp⟩) hHeld ?_
          try simp only [Act.put, List.setIfInBounds_toArray, List.set_cons_zero, List.set_cons_succ]
          refine wpAnyH_ready (rs := [20]) (by kernel_rfl) (by simp) ?_
          refine AllReadyH.cons (o := ⟨some 35, .assign (.tmp 167), 33, "law.go:146", #[⟨18, .data⟩, ⟨16, .chain⟩, ⟨0, .phase⟩, ⟨1, .phase⟩, ⟨2, .phase⟩, ⟨3, .phase⟩, ⟨4, .phase⟩, ⟨5, .phase⟩, ⟨6, .phase⟩, ⟨7, .phase⟩, ⟨8, .phase⟩, ⟨9, .phase⟩, ⟨10, .phase⟩, ⟨11, .phase⟩, ⟨12, .phase⟩, ⟨13, .phase⟩, ⟨14, .phase⟩, ⟨15, .phase⟩, ⟨16, .phase⟩, ⟨17, .phase⟩, ⟨18, .phase⟩, { on := 19, ground := Ground.textOnly Departure.lateStores }], none⟩) rfl (fun K hK => ?_) AllReadyH.nil
          go_simp
          refine hK.out _ _ (hHeld) (fun hHeld => ?_)
          clear hK K
          try simp only [Act.put, List.setIfInBounds_toArray, List.set_cons_zero, List.set_cons_succ]
          refine wpAnyH_ready (rs := [21]) (by kernel_rfl) (by simp) ?_
          refine AllReadyH.cons (o := ⟨some 36, .assign (.tmp 168), 30, "law.go:146", #[⟨19, .data⟩, ⟨20, .chain⟩, ⟨0, .phase⟩, ⟨1, .phase⟩, ⟨2, .phase⟩, ⟨3, .phase⟩, ⟨4, .phase⟩, ⟨5, .phase⟩, ⟨6, .phase⟩, ⟨7, .phase⟩, ⟨8, .phase⟩, ⟨9, .phase⟩, ⟨10, .phase⟩, ⟨11, .phase⟩, ⟨12, .phase⟩, ⟨13, .phase⟩, ⟨14, .phase⟩, ⟨15, .phase⟩, ⟨16, .phase⟩, ⟨17, .phase⟩, ⟨18, .phase⟩, ⟨19, .phase⟩, ⟨20, .phase⟩], none⟩) rfl (fun K hK => ?_) AllReadyH.nil
          go_simp
          refine hK.out _ _ (hHeld) (fun hHeld => ?_)
          clear hK K
          try simp only [Act.put, List.setIfInBounds_toArray, List.set_cons_zero, List.set_cons_succ]
          clear hB1 hB2 hL1 hS1 hc1 hq1 CS2
          refine wpAnyH_done (by kernel_rfl) ?_ _
          have BX := hHeld
          clear hHeld CS
          go_upto_region 20 with (fail)
          refine wp_region_held_drew (S := fun w' => Below Wd.heap.size Wd w') (by kernel_rfl) (below_drew BX) (fun _ => ?_)
          have hHeld := below_drew BX
          clear BX
          have CS : ∀ w', Below Wd.heap.size Wd w' → w'.cell? ⟨kb, j, none⟩ = some (.string s) := fun w' h => (h.cell (p := ⟨kb, j, none⟩) hkb).trans hck
          have CS2 : ∀ w', Below Wd.heap.size Wd w' → w'.cell? ⟨kb, jn, none⟩ = some (.string s2) := fun w' h => (h.cell (p := ⟨kb, jn, none⟩) hkb).trans hck2
          replace hL5 : OwnL (World.drew Uc) q5 out := hL5.keep (below_drew (Below.refl _ _))
          generalize World.drew _ = Ud at hHeld hL5 ⊢
          refine wpAnyH_take (i := 0) (oi := ⟨some 170, .load 29 (.tmp 15), 29, "law.go:147", #[], none⟩) (v := _) rfl (by kernel_rfl) (by kernel_rfl) (by kernel_rfl) (fun _ _ _ h => h) (yieldsIf_load_mid (by rfl) _ _ rfl _ 0 rfl _ _ (fun w' hSw => rng_blk KR w' hSw) Tryd.underlying29 rfl hsR) hHeld ?_
          try simp only [Act.put, List.setIfInBounds_toArray, List.set_cons_zero, List.set_cons_succ]
          refine wpAnyH_take (i := 1) (oi := ⟨some 171, .move (.tmp 26), 47, "law.go:147", #[], none⟩) (v := .slice (some ⟨kb, 0, none⟩) 3 3) rfl (by kernel_rfl) (by kernel_rfl) (by kernel_rfl) (fun _ _ _ h => h) (Or.inl ⟨by rfl, fun w' hSw => by go_simp⟩) hHeld ?_
          try simp only [Act.put, List.setIfInBounds_toArray, List.set_cons_zero, List.set_cons_succ]
          refine wpAnyH_take (i := 2) (oi := ⟨some 172, .move (.tmp 28), 3, "law.go:147", #[], none⟩) (v := .int .i64 (j : Int)) rfl (by kernel_rfl) (by kernel_rfl) (by kernel_rfl) (fun _ _ _ h => h) (Or.inl ⟨by rfl, fun w' hSw => by go_simp⟩) hHeld ?_
          try simp only [Act.put, List.setIfInBounds_toArray, List.set_cons_zero, List.set_cons_succ]
          refine wpAnyH_take (i := 3) (oi := ⟨some 173, .indexAddr 47 (.tmp 171) (.tmp 172), 0, "law.go:147", #[⟨1, .data⟩, ⟨2, .data⟩], none⟩) (v := .pointer (some ⟨kb, j, none⟩)) rfl (by kernel_rfl) (by kernel_rfl) (by kernel_rfl) (fun _ _ _ h => h) (Or.inl ⟨by rfl, fun w' hSw => by go_simp; try (intro hcm; exact absurd hcm (by omega))⟩) hHeld ?_
          try simp only [Act.put, List.setIfInBounds_toArray, List.set_cons_zero, List.set_cons_succ]
          refine wpAnyH_take (i := 4) (oi := ⟨some 174, .load 9 (.tmp 173), 9, "law.go:147", #[⟨3, .data⟩], none⟩) (v := .string s) rfl (by kernel_rfl) (by kernel_rfl) (by kernel_rfl) (fun _ _ _ h => h) (Or.inl ⟨by rfl, fun w' hSw => by have hc := CS w' hSw; go_simp⟩) hHeld ?_
          try simp only [Act.put, List.setIfInBounds_toArray, List.set_cons_zero, List.set_cons_succ]
          refine wpAnyH_take (i := 5) (oi := ⟨some 175, .move (.tmp 26), 47, "law.go:147", #[], none⟩) (v := .slice (some ⟨kb, 0, none⟩) 3 3) rfl (by kernel_rfl) (by kernel_rfl) (by kernel_rfl) (fun _ _ _ h => h) (Or.inl ⟨by rfl, fun w' hSw => by go_simp⟩) hHeld ?_
          try simp only [Act.put, List.setIfInBounds_toArray, List.set_cons_zero, List.set_cons_succ]
          refine wpAnyH_take (i := 6) (oi := ⟨some 176, .move (.tmp 28), 3, "law.go:147", #[], none⟩) (v := .int .i64 (j : Int)) rfl (by kernel_rfl) (by kernel_rfl) (by kernel_rfl) (fun _ _ _ h => h) (Or.inl ⟨by rfl, fun w' hSw => by go_simp⟩) hHeld ?_
          try simp only [Act.put, List.setIfInBounds_toArray, List.set_cons_zero, List.set_cons_succ]
          refine wpAnyH_take (i := 7) (oi := ⟨some 177, .binOp .add 3 (.tmp 176) (.const (Value.int IntKind.i64 1)) 3, 3, "law.go:147", #[⟨6, .data⟩], none⟩) (v := .int .i64 ((j : Int) + 1)) rfl (by kernel_rfl) (by kernel_rfl) (by kernel_rfl) (fun _ _ _ h => h) (Or.inl ⟨by rfl, fun w' hSw => by go_simp⟩) hHeld ?_
          try simp only [Act.put, List.setIfInBounds_toArray, List.set_cons_zero, List.set_cons_succ]
          refine wpAnyH_take (i := 8) (oi := ⟨some 178, .binOp .rem 3 (.tmp 177) (.const (Value.int IntKind.i64 3)) 3, 3, "law.go:147", #[⟨7, .data⟩], none⟩) (v := .int .i64 (jn : Int)) rfl (by kernel_rfl) (by kernel_rfl) (by kernel_rfl) (fun _ _ _ h => h) (Or.inl ⟨by rfl, fun w' hSw => by go_simp⟩) hHeld ?_
          try simp only [Act.put, List.setIfInBounds_toArray, List.set_cons_zero, List.set_cons_succ]
          refine wpAnyH_take (i := 9) (oi := ⟨some 179, .indexAddr 47 (.tmp 175) (.tmp 178), 0, "law.go:147", #[⟨5, .data⟩, ⟨8, .data⟩], none⟩) (v := .pointer (some ⟨kb, jn, none⟩)) rfl (by kernel_rfl) (by kernel_rfl) (by kernel_rfl) (fun _ _ _ h => h) (Or.inl ⟨by rfl, fun w' hSw => by go_simp; try (intro hcm; exact absurd hcm (by omega))⟩) hHeld ?_
          try simp only [Act.put, List.setIfInBounds_toArray, List.set_cons_zero, List.set_cons_succ]
          refine wpAnyH_take (i := 10) (oi := ⟨some 180, .load 9 (.tmp 179), 9, "law.go:147", #[⟨9, .data⟩], none⟩) (v := .string s2) rfl (by kernel_rfl) (by kernel_rfl) (by kernel_rfl) (fun _ _ _ h => h) (Or.inl ⟨by rfl, fun w' hSw => by have hc := CS2 w' hSw; go_simp⟩) hHeld ?_
          try simp only [Act.put, List.setIfInBounds_toArray, List.set_cons_zero, List.set_cons_succ]
          refine wpAnyH_take (i := 11) (oi := ⟨some 181, .move (.tmp 25), 63, "law.go:147", #[], none⟩) (v := .slice (some ⟨pb, 0, none⟩) 8 8) rfl (by kernel_rfl) (by kernel_rfl) (by kernel_rfl) (fun _ _ _ h => h) (Or.inl ⟨by rfl, fun w' hSw => by go_simp⟩) hHeld ?_
          try simp only [Act.put, List.setIfInBounds_toArray, List.set_cons_zero, List.set_cons_succ]
          refine wpAnyH_take (i := 12) (oi := ⟨some 182, .move (.tmp 27), 3, "law.go:147", #[], none⟩) (v := .int .i64 (i : Int)) rfl (by kernel_rfl) (by kernel_rfl) (by kernel_rfl) (fun _ _ _ h => h) (Or.inl ⟨by rfl, fun w' hSw => by go_simp⟩) hHeld ?_
          try simp only [Act.put, List.setIfInBounds_toArray, List.set_cons_zero, List.set_cons_succ]
          refine wpAnyH_take (i := 13) (oi := ⟨some 183, .indexAddr 63 (.tmp 181) (.tmp 182), 0, "law.go:147", #[⟨11, .data⟩, ⟨12, .data⟩], none⟩) (v := .pointer (some ⟨pb, i * 4, none⟩)) rfl (by kernel_rfl) (by kernel_rfl) (by kernel_rfl) (fun _ _ _ h => h) (Or.inl ⟨by rfl, fun w' hSw => by go_simp; try (intro hcm; exact absurd hcm (by omega))⟩) hHeld ?_
          try simp only [Act.put, List.setIfInBounds_toArray, List.set_cons_zero, List.set_cons_succ]
          refine wpAnyH_take (i := 14) (oi := ⟨some 184, .load 54 (.tmp 183), 54, "law.go:147", #[⟨13, .data⟩], none⟩) (v := _) rfl (by kernel_rfl) (by kernel_rfl) (by kernel_rfl) (fun _ _ _ h => h) (yieldsIf_load_mid (by rfl) _ _ rfl pb (i * 4) rfl [.int .i64 F, .int .i64 S, .slice q n0 c0, .slice sa k0 sc] _ (fun w' hSw => range_keep hrgD hpbD hSw) Tryd.underlying54 rfl (by kernel_rfl)) hHeld ?_
          try simp only [Act.put, List.setIfInBounds_toArray, List.set_cons_zero, List.set_cons_succ]
          refine wpAnyH_ready (rs := [15]) (by kernel_rfl) (by simp) ?_
          refine AllReadyH.cons (o := ⟨some 185, .call { callee := .value (.func 32), args := #[.tmp 170, .tmp 174, .tmp 180, .tmp 184], argTypes := #[29, 9, 9, 54] }, 70, "law.go:147", #[⟨0, .data⟩, ⟨4, .data⟩, ⟨10, .data⟩, ⟨14, .data⟩], none⟩) rfl (fun K hK => ?_) AllReadyH.nil
          rw [if_pos (by rfl)]
          go_simp
          refine (HRg.out Ud hHeld).mono ?_
          rintro e Ue ⟨v6, rfl, ⟨q6, c6, rfl, hc6, hL6⟩, hB2⟩
          rw [ht0]
          dsimp only
          replace hL5 := hL5.keep hB2
          refine hK.out _ _ (link hHeld hB2) (fun hHeld => ?_)
          clear hK K
          try simp only [Act.put, List.setIfInBounds_toArray, List.set_cons_zero, List.set_cons_succ]
          refine wpAnyH_take (i := 16) (oi := ⟨some 169, .move (.tmp 185), 70, "law.go:147", #[⟨15, .data⟩], none⟩) (v := .tuple #[.slice q6 t0 c6, .int .i64 zo]) rfl (by kernel_rfl) (by kernel_rfl) (by kernel_rfl) (fun _ _ _ h => h) (Or.inl ⟨by rfl, fun w' hSw => by go_simp⟩) hHeld ?_
          try simp only [Act.put, List.setIfInBounds_toArray, List.set_cons_zero, List.set_cons_succ]
          refine wpAnyH_take (i := 17) (oi := ⟨some 186, .extract (.tmp 169) 0, 24, "law.go:147", #[⟨16, .data⟩], none⟩) (v := .slice q6 t0 c6) rfl (by kernel_rfl) (by kernel_rfl) (by kernel_rfl) (fun _ _ _ h => h) (Or.inl ⟨by rfl, fun w' hSw => by go_simp⟩) hHeld ?_
          try simp only [Act.put, List.setIfInBounds_toArray, List.set_cons_zero, List.set_cons_succ]
          refine wpAnyH_take (i := 18) (oi := ⟨some 187, .extract (.tmp 169) 1, 30, "law.go:147", #[⟨16, .data⟩, { on := 19, ground := Ground.gcOnly Departure.lateStores }], none⟩) (v := .int .i64 zo) rfl (by kernel_rfl) (by kernel_rfl) (by kernel_rfl) (fun _ _ _ h => h) (Or.inl ⟨by rfl, fun w' hSw => by go_simp⟩) hHeld ?_
          try simp only [Act.put, List.setIfInBounds_toArray, List.set_cons_zero, List.set_cons_succ]
          refine wpAnyH_ready (rs := [19]) (by kernel_rfl) (by simp) ?_
          refine AllReadyH.cons (o := ⟨some 37, .assign (.tmp 186), 24, "law.go:147", #[⟨17, .data⟩, ⟨15, .chain⟩, ⟨0, .phase⟩, ⟨1, .phase⟩, ⟨2, .phase⟩, ⟨3, .phase⟩, ⟨4, .phase⟩, ⟨5, .phase⟩, ⟨6, .phase⟩, ⟨7, .phase⟩, ⟨8, .phase⟩, ⟨9, .phase⟩, ⟨10, .phase⟩, ⟨11, .phase⟩, ⟨12, .phase⟩, ⟨13, .phase⟩, ⟨14, .phase⟩, ⟨15, .phase⟩, ⟨16, .phase⟩, ⟨17, .phase⟩, { on := 18, ground := Ground.textOnly Departure.lateStores }], none⟩) rfl (fun K hK => ?_) AllReadyH.nil
          go_simp
          refine hK.out _ _ (hHeld) (fun hHeld => ?_)
          clear hK K
          try simp only [Act.put, List.setIfInBounds_toArray, List.set_cons_zero, List.set_cons_succ]
          refine wpAnyH_ready (rs := [20]) (by kernel_rfl) (by simp) ?_
          refine AllReadyH.cons (o := ⟨some 38, .assign (.tmp 187), 30, "law.go:147", #[⟨18, .data⟩, ⟨19, .chain⟩, ⟨0, .phase⟩, ⟨1, .phase⟩, ⟨2, .phase⟩, ⟨3, .phase⟩, ⟨4, .phase⟩, ⟨5, .phase⟩, ⟨6, .phase⟩, ⟨7, .phase⟩, ⟨8, .phase⟩, ⟨9, .phase⟩, ⟨10, .phase⟩, ⟨11, .phase⟩, ⟨12, .phase⟩, ⟨13, .phase⟩, ⟨14, .phase⟩, ⟨15, .phase⟩, ⟨16, .phase⟩, ⟨17, .phase⟩, ⟨18, .phase⟩, ⟨19, .phase⟩], none⟩) rfl (fun K hK => ?_) AllReadyH.nil
          go_simp
          refine hK.out _ _ (hHeld) (fun hHeld => ?_)
          clear hK K
          try simp only [Act.put, List.setIfInBounds_toArray, List.set_cons_zero, List.set_cons_succ]
          clear hB2 CS2
          refine wpAnyH_done (by kernel_rfl) ?_ _
          have BX := hHeld
          clear hHeld CS
          go_wp2_with (first
            | (go_at_call 17; refine (plain_at out q5 t0 c5 ht0 (by omega) _ hL5).mono ?_; rintro e Uf ⟨q7, c7, rfl, L7, hB7⟩)
            | (go_at_call 33; refine (same_selfL out q7 q6 t0 c7 c6 ht0 (by omega) _ L7 (hL6.keep hB7)).mono ?_; rintro e Ug ⟨rfl, hB8⟩))
          go_roundw
          case rel => exact ⟨j + 1, by omega, by go_num, link BX (link hB7 hB8)⟩
          case measure => simp [intOf]; omega
        · go_wp2
          go_roundw
          case rel => exact ⟨i + 1, by omega, by go_num, BX⟩
          case measure => simp [intOf]; omega
    · go_wp2_with (go_at_call 18; refine (HLv.out _ (GD.keep hB)).mono ?_; rintro e V16 ⟨rfl, X16⟩)
      go_ret
      exact ⟨rfl, link B2 (link (link BD hB) X16)⟩

end Go.Proofs.YtfhfmdnimebegaaDoor
