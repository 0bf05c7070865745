/-
  passimlaw03.SignMakesAsSpecified returns true. Conditions: the tables of the package hash and of its specification lie as the program lays them when the call begins (the card ties them to the text); no other.
-/
import Derived.Test.YthffkbdecfjekaaDoorMf
import Derived.Test.YthffkbdecfjekaaDoorMg

namespace Go.Proofs.YthffkbdecfjekaaDoor
open Go.RowKit
set_option linter.unusedVariables false
set_option linter.unusedSimpArgs false

set_option maxHeartbeats 8000000 in
set_option maxRecDepth 100000 in
theorem makes_main (s msg : ByteArray) (n0 n1 : Int) (h1a : -9223372036854775808 ≤ n1) (h1b : n1 ≤ 9223372036854775807) (hs : s.size ≤ 200) (hm : msg.size ≤ 200) (hg : n0 ≤ 2 ∨ 6 < n0) (w : World) (hG : Glob w) (hR : GlobR w) :
    Calls Tryd.prog 4 #[.string s, .agg #[.int .i64 n0, .int .i64 n1], .string msg] w (Told w true) := by
  have H0 := Lib.hid (fun w0 g => sanity3_any w0 g)
  have hss : decide ((200 : Int) < (s.size : Int)) = false := by simp only [decide_eq_false_iff_not]; omega
  have hmm : decide ((200 : Int) < (msg.size : Int)) = false := by simp only [decide_eq_false_iff_not]; omega
  have HP1 := Lib.hid (fun w0 g => public_any s n0 w0 g)
  have HP2 := Lib.hid (fun w0 g => rpublic_any s n0 w0 g)
  have HS1 := Lib.hid (fun w0 g => sign_any s msg n0 n1 (by omega) w0 g)
  have HS2 := Lib.hid (fun w0 g => rsign_any s msg n0 n1 (by omega) w0 g)
  have hA := pubM_dgt s n0
  generalize pubM s n0 = pp at HP1 HP2 hA
  obtain ⟨A, ep⟩ := pp
  simp only at HP1 HP2 hA
  generalize signM s n0 n1 msg = qq at HS1 HS2
  obtain ⟨SL, es⟩ := qq
  simp only at HS1 HS2
  generalize strOf SL = SS at HS1 HS2
  have HD1 := Lib.hid (fun w0 g => sdigest_any A hA n1 h1a h1b msg (by omega) w0 g)
  have HD2 := Lib.hid (fun w0 g => rdigest_any A hA n1 h1a h1b msg (by omega) w0 g)
  have hDd : Dgt (digestM A n1 (sb msg)) := digest_dgt _ _ _
  generalize digestM A n1 (sb msg) = D at HD1 HD2 hDd
  have hz1 := zero_dig'
  have hz16 : (bytesV z16).toArray.toList.length = 16 := rfl
  have hvA : (bytesV A).length = 16 := by rw [bytesV_length]; exact hA.1
  have hsA := size_dig A hA.1
  rcases hg with hg | hg
  · have h2 : decide (2 < n0) = false := by simp only [decide_eq_false_iff_not]; omega
    clear hg hs hm h1a h1b
    go_enter Tryd.func4, Tryd.ntmps4
    go_upto_region 1 with (fail)
    generalize hw1 : World.alloc _ _ = W0
    have K4 : Blk W0 w.heap.size 28 [.int .i64 n0, .int .i64 n1] := hw1 ▸ (blk_new w _ _)
    have KB : Below w.heap.size w W0 := hw1 ▸ ((Below.refl _ _).alloc (Nat.le_refl _) _)
    clear hw1
    go_wp2_with fail
    refine (H0.out W0 (hG.keep KB)).mono ?_
    rintro e w1 ⟨rfl, hB1⟩
    have C1 := link KB hB1
    replace K4 := K4.keep hB1
    have ca1 := K4.cell (j := 0) rfl
    have cb1 := K4.cell (j := 1) rfl
    clear hB1 KB
    go_upto_region 4 with (fail)
    go_wp2_with fail
    refine (HP1.out w1 (hG.keep C1)).mono ?_
    rintro e w2 ⟨rfl, hB2⟩
    have C2 := link C1 hB2
    replace K4 := K4.keep hB2
    clear ca1 cb1
    go_upto_region 5 with (refine store_blk rfl 23 (.tmp 8) (.tmp 41) rfl (blk_new w2 23 (bytesV z16).toArray) rfl rfl (m := 16) (by kernel_rfl) hvA hz16 (bytesV_cells A) ?_; intro x1 K8 O8)
    have C3 : Below w.heap.size w x1 := O8.2.2 _ _ C2.size (C2.alloc C2.size _)
    replace K4 := O8.2.1 _ _ _ (by have := K4.lt; omega) (K4.alloc (.cells (bytesV z16).toArray 23))
    obtain ⟨pb, hpb⟩ : ∃ pb, w2.heap.size = pb := ⟨_, rfl⟩
    rw [hpb] at K8 ⊢
    have ca2 := K4.cell (j := 0) rfl
    clear O8 hB2 C1 C2 hpb
    go_wp2_with fail
    refine (HP2.out x1 (hR.keep C3)).mono ?_
    rintro e w3 ⟨rfl, hB3⟩
    have C4 := link C3 hB3
    replace K4 := K4.keep hB3
    replace K8 := K8.keep hB3
    clear ca2
    go_upto_region 6 with (refine store_blk rfl 23 (.tmp 10) (.tmp 48) rfl (blk_new w3 23 (bytesV z16).toArray) rfl rfl (m := 16) (by kernel_rfl) hvA hz16 (bytesV_cells A) ?_; intro x2 K10 O10)
    have C5 : Below w.heap.size w x2 := O10.2.2 _ _ C4.size (C4.alloc C4.size _)
    replace K4 := O10.2.1 _ _ _ (by have := K4.lt; omega) (K4.alloc (.cells (bytesV z16).toArray 23))
    replace K8 := O10.2.1 _ _ _ (by have := K8.lt; omega) (K8.alloc (.cells (bytesV z16).toArray 23))
    obtain ⟨qb, hqb⟩ : ∃ qb, w3.heap.size = qb := ⟨_, rfl⟩
    rw [hqb] at K10 ⊢
    have ca3 := K4.cell (j := 0) rfl
    have cb3 := K4.cell (j := 1) rfl
    clear O10 hB3 C3 C4 hqb
    go_wp2_with fail
    refine (HS1.out x2 (hG.keep C5)).mono ?_
    rintro e w5 ⟨rfl, hB5⟩
    have C6 := link C5 hB5
    replace K4 := K4.keep hB5
    replace K8 := K8.keep hB5
    replace K10 := K10.keep hB5
    clear ca3 cb3 hB5 C5
    have ca4 := K4.cell (j := 0) rfl
    have cb4 := K4.cell (j := 1) rfl
    go_wp2_with fail
    refine (HS2.out w5 (hR.keep C6)).mono ?_
    rintro e w6 ⟨rfl, hB6⟩
    have C7 := link C6 hB6
    replace K4 := K4.keep hB6
    replace K8 := K8.keep hB6
    replace K10 := K10.keep hB6
    clear ca4 cb4 hB6 C6
    go_upto_region 8 with (fail)
    have heqA := fun w0 => equal_16 w0 A A hA hA
    rw [decide_eq_true rfl] at heqA
    have heqD := fun w0 => equal_16 w0 D D hDd hDd
    rw [decide_eq_true rfl] at heqD
    refine wp_region_held_drew (S := fun w' => Below w6.heap.size w6 w') (by kernel_rfl) (below_drew (Below.refl _ _)) (fun hHeld => ?_)
    generalize w6.drew = V0 at hHeld ⊢
    refine wpAnyH_take (i := 0) (oi := ⟨some 70, .move (.tmp 7), 4, "law.go:61", #[], none⟩) (v := .bool true) rfl (by kernel_rfl) (by kernel_rfl) (by kernel_rfl) (fun _ _ _ h => h) (Or.inl ⟨by rfl, fun w' hSw => by go_simp⟩) hHeld ?_
    try simp only [Act.put, List.setIfInBounds_toArray, List.set_cons_zero, List.set_cons_succ]
    refine wpAnyH_take (i := 1) (oi := ⟨some 71, .move (.tmp 70), 4, "law.go:61", #[⟨0, .data⟩], none⟩) (v := .bool true) rfl (by kernel_rfl) (by kernel_rfl) (by kernel_rfl) (fun _ _ _ h => h) (Or.inl ⟨by rfl, fun w' hSw => by go_simp⟩) hHeld ?_
    try simp only [Act.put, List.setIfInBounds_toArray, List.set_cons_zero, List.set_cons_succ]
    refine wpAnyH_take (i := 2) (oi := ⟨some 72, .load 23 (.tmp 8), 23, "law.go:61", #[⟨1, .guard⟩], some (1, true)⟩) (v := _) rfl (by kernel_rfl) (by kernel_rfl) (by kernel_rfl) (fun _ _ _ h => h) (yieldsIf_load_mid (by rfl) _ _ rfl _ 0 rfl _ _ (fun w' hSw => rng_blk (K8) w' hSw) Tryd.underlying23 rfl hsA) hHeld ?_
    try simp only [Act.put, List.setIfInBounds_toArray, List.set_cons_zero, List.set_cons_succ]
    refine wpAnyH_take (i := 3) (oi := ⟨some 73, .load 23 (.tmp 10), 23, "law.go:61", #[⟨1, .guard⟩], some (1, true)⟩) (v := _) rfl (by kernel_rfl) (by kernel_rfl) (by kernel_rfl) (fun _ _ _ h => h) (yieldsIf_load_mid (by rfl) _ _ rfl _ 0 rfl _ _ (fun w' hSw => rng_blk (K10) w' hSw) Tryd.underlying23 rfl hsA) hHeld ?_
    try simp only [Act.put, List.setIfInBounds_toArray, List.set_cons_zero, List.set_cons_succ]
    refine wpAnyH_take (i := 4) (oi := ⟨some 74, .binOp .eql 23 (.tmp 72) (.tmp 73) 23, 4, "law.go:61", #[⟨2, .data⟩, ⟨3, .data⟩, ⟨1, .guard⟩], some (1, true)⟩) (v := .bool true) rfl (by kernel_rfl) (by kernel_rfl) (by kernel_rfl) (fun _ _ _ h => h) (Or.inl ⟨by rfl, fun w' hSw => by go_simp⟩) hHeld ?_
    try simp only [Act.put, List.setIfInBounds_toArray, List.set_cons_zero, List.set_cons_succ]
    refine wpAnyH_take (i := 5) (oi := ⟨some 75, .pick (.tmp 71) (.tmp 74) (.const (Value.bool false)), 4, "law.go:61", #[⟨1, .data⟩, ⟨4, .data⟩], none⟩) (v := .bool true) rfl (by kernel_rfl) (by kernel_rfl) (by kernel_rfl) (fun _ _ _ h => h) (Or.inl ⟨by rfl, fun w' hSw => by go_simp⟩) hHeld ?_
    try simp only [Act.put, List.setIfInBounds_toArray, List.set_cons_zero, List.set_cons_succ]
    refine wpAnyH_take (i := 6) (oi := ⟨some 76, .move (.tmp 75), 4, "law.go:61", #[⟨5, .data⟩, ⟨1, .chain⟩], none⟩) (v := .bool true) rfl (by kernel_rfl) (by kernel_rfl) (by kernel_rfl) (fun _ _ _ h => h) (Or.inl ⟨by rfl, fun w' hSw => by go_simp⟩) hHeld ?_
    try simp only [Act.put, List.setIfInBounds_toArray, List.set_cons_zero, List.set_cons_succ]
    refine wpAnyH_take (i := 7) (oi := ⟨some 77, .move (.tmp 9), 29, "law.go:61", #[⟨6, .guard⟩], some (6, true)⟩) (v := .int .i64 ep) rfl (by kernel_rfl) (by kernel_rfl) (by kernel_rfl) (fun _ _ _ h => h) (Or.inl ⟨by rfl, fun w' hSw => by go_simp⟩) hHeld ?_
    try simp only [Act.put, List.setIfInBounds_toArray, List.set_cons_zero, List.set_cons_succ]
    refine wpAnyH_take (i := 8) (oi := ⟨some 78, .move (.tmp 11), 29, "law.go:61", #[⟨6, .guard⟩], some (6, true)⟩) (v := .int .i64 ep) rfl (by kernel_rfl) (by kernel_rfl) (by kernel_rfl) (fun _ _ _ h => h) (Or.inl ⟨by rfl, fun w' hSw => by go_simp⟩) hHeld ?_
    try simp only [Act.put, List.setIfInBounds_toArray, List.set_cons_zero, List.set_cons_succ]
    refine wpAnyH_take (i := 9) (oi := ⟨some 79, .binOp .eql 29 (.tmp 77) (.tmp 78) 29, 4, "law.go:61", #[⟨7, .data⟩, ⟨8, .data⟩, ⟨6, .guard⟩], some (6, true)⟩) (v := .bool true) rfl (by kernel_rfl) (by kernel_rfl) (by kernel_rfl) (fun _ _ _ h => h) (Or.inl ⟨by rfl, fun w' hSw => by go_simp⟩) hHeld ?_
    try simp only [Act.put, List.setIfInBounds_toArray, List.set_cons_zero, List.set_cons_succ]
    refine wpAnyH_take (i := 10) (oi := ⟨some 80, .pick (.tmp 76) (.tmp 79) (.const (Value.bool false)), 4, "law.go:61", #[⟨6, .data⟩, ⟨9, .data⟩], none⟩) (v := .bool true) rfl (by kernel_rfl) (by kernel_rfl) (by kernel_rfl) (fun _ _ _ h => h) (Or.inl ⟨by rfl, fun w' hSw => by go_simp⟩) hHeld ?_
    try simp only [Act.put, List.setIfInBounds_toArray, List.set_cons_zero, List.set_cons_succ]
    refine wpAnyH_take (i := 11) (oi := ⟨some 81, .move (.tmp 80), 4, "law.go:61", #[⟨10, .data⟩, ⟨6, .chain⟩], none⟩) (v := .bool true) rfl (by kernel_rfl) (by kernel_rfl) (by kernel_rfl) (fun _ _ _ h => h) (Or.inl ⟨by rfl, fun w' hSw => by go_simp⟩) hHeld ?_
    try simp only [Act.put, List.setIfInBounds_toArray, List.set_cons_zero, List.set_cons_succ]
    refine wpAnyH_take (i := 12) (oi := ⟨some 82, .move (.tmp 12), 9, "law.go:61", #[⟨11, .guard⟩], some (11, true)⟩) (v := .string SS) rfl (by kernel_rfl) (by kernel_rfl) (by kernel_rfl) (fun _ _ _ h => h) (Or.inl ⟨by rfl, fun w' hSw => by go_simp⟩) hHeld ?_
    try simp only [Act.put, List.setIfInBounds_toArray, List.set_cons_zero, List.set_cons_succ]
    refine wpAnyH_take (i := 13) (oi := ⟨some 83, .move (.tmp 14), 9, "law.go:61", #[⟨11, .guard⟩], some (11, true)⟩) (v := .string SS) rfl (by kernel_rfl) (by kernel_rfl) (by kernel_rfl) (fun _ _ _ h => h) (Or.inl ⟨by rfl, fun w' hSw => by go_simp⟩) hHeld ?_
    try simp only [Act.put, List.setIfInBounds_toArray, List.set_cons_zero, List.set_cons_succ]
    refine wpAnyH_take (i := 14) (oi := ⟨some 84, .binOp .eql 9 (.tmp 82) (.tmp 83) 9, 4, "law.go:61", #[⟨12, .data⟩, ⟨13, .data⟩, ⟨11, .guard⟩], some (11, true)⟩) (v := .bool true) rfl (by kernel_rfl) (by kernel_rfl) (by kernel_rfl) (fun _ _ _ h => h) (Or.inl ⟨by rfl, fun w' hSw => by go_simp⟩) hHeld ?_
    try simp only [Act.put, List.setIfInBounds_toArray, List.set_cons_zero, List.set_cons_succ]
    refine wpAnyH_take (i := 15) (oi := ⟨some 85, .pick (.tmp 81) (.tmp 84) (.const (Value.bool false)), 4, "law.go:61", #[⟨11, .data⟩, ⟨14, .data⟩], none⟩) (v := .bool true) rfl (by kernel_rfl) (by kernel_rfl) (by kernel_rfl) (fun _ _ _ h => h) (Or.inl ⟨by rfl, fun w' hSw => by go_simp⟩) hHeld ?_
    try simp only [Act.put, List.setIfInBounds_toArray, List.set_cons_zero, List.set_cons_succ]
    refine wpAnyH_take (i := 16) (oi := ⟨some 86, .move (.tmp 85), 4, "law.go:61", #[⟨15, .data⟩, ⟨11, .chain⟩], none⟩) (v := .bool true) rfl (by kernel_rfl) (by kernel_rfl) (by kernel_rfl) (fun _ _ _ h => h) (Or.inl ⟨by rfl, fun w' hSw => by go_simp⟩) hHeld ?_
    try simp only [Act.put, List.setIfInBounds_toArray, List.set_cons_zero, List.set_cons_succ]
    refine wpAnyH_take (i := 17) (oi := ⟨some 87, .move (.tmp 13), 29, "law.go:61", #[⟨16, .guard⟩], some (16, true)⟩) (v := .int .i64 es) rfl (by kernel_rfl) (by kernel_rfl) (by kernel_rfl) (fun _ _ _ h => h) (Or.inl ⟨by rfl, fun w' hSw => by go_simp⟩) hHeld ?_
    try simp only [Act.put, List.setIfInBounds_toArray, List.set_cons_zero, List.set_cons_succ]
    refine wpAnyH_take (i := 18) (oi := ⟨some 88, .move (.tmp 15), 29, "law.go:61", #[⟨16, .guard⟩], some (16, true)⟩) (v := .int .i64 es) rfl (by kernel_rfl) (by kernel_rfl) (by kernel_rfl) (fun _ _ _ h => h) (Or.inl ⟨by rfl, fun w' hSw => by go_simp⟩) hHeld ?_
    try simp only [Act.put, List.setIfInBounds_toArray, List.set_cons_zero, List.set_cons_succ]
    refine wpAnyH_take (i := 19) (oi := ⟨some 89, .binOp .eql 29 (.tmp 87) (.tmp 88) 29, 4, "law.go:61", #[⟨17, .data⟩, ⟨18, .data⟩, ⟨16, .guard⟩], some (16, true)⟩) (v := .bool true) rfl (by kernel_rfl) (by kernel_rfl) (by kernel_rfl) (fun _ _ _ h => h) (Or.inl ⟨by rfl, fun w' hSw => by go_simp⟩) hHeld ?_
    try simp only [Act.put, List.setIfInBounds_toArray, List.set_cons_zero, List.set_cons_succ]
    refine wpAnyH_take (i := 20) (oi := ⟨some 90, .pick (.tmp 86) (.tmp 89) (.const (Value.bool false)), 4, "law.go:61", #[⟨16, .data⟩, ⟨19, .data⟩], none⟩) (v := .bool true) rfl (by kernel_rfl) (by kernel_rfl) (by kernel_rfl) (fun _ _ _ h => h) (Or.inl ⟨by rfl, fun w' hSw => by go_simp⟩) hHeld ?_
    try simp only [Act.put, List.setIfInBounds_toArray, List.set_cons_zero, List.set_cons_succ]
    refine wpAnyH_take (i := 21) (oi := ⟨some 91, .move (.tmp 90), 4, "law.go:61", #[⟨20, .data⟩, ⟨16, .chain⟩], none⟩) (v := .bool true) rfl (by kernel_rfl) (by kernel_rfl) (by kernel_rfl) (fun _ _ _ h => h) (Or.inl ⟨by rfl, fun w' hSw => by go_simp⟩) hHeld ?_
    try simp only [Act.put, List.setIfInBounds_toArray, List.set_cons_zero, List.set_cons_succ]
    refine wpAnyH_take (i := 22) (oi := ⟨some 92, .load 23 (.tmp 8), 23, "law.go:61", #[⟨21, .guard⟩], some (21, true)⟩) (v := _) rfl (by kernel_rfl) (by kernel_rfl) (by kernel_rfl) (fun _ _ _ h => h) (yieldsIf_load_mid (by rfl) _ _ rfl _ 0 rfl _ _ (fun w' hSw => rng_blk (K8) w' hSw) Tryd.underlying23 rfl hsA) hHeld ?_
    try simp only [Act.put, List.setIfInBounds_toArray, List.set_cons_zero, List.set_cons_succ]
    refine wpAnyH_take (i := 23) (oi := ⟨some 93, .indexAddr 28 (.tmp 4) (.const (Value.int IntKind.i64 1)), 0, "law.go:61", #[⟨21, .guard⟩], some (21, true)⟩) (v := .pointer (some ⟨w.heap.size, 1, none⟩)) rfl (by kernel_rfl) (by kernel_rfl) (by kernel_rfl) (fun _ _ _ h => h) (Or.inl ⟨by rfl, fun w' hSw => by go_simp⟩) hHeld ?_
    try simp only [Act.put, List.setIfInBounds_toArray, List.set_cons_zero, List.set_cons_succ]
    refine wpAnyH_take (i := 24) (oi := ⟨some 94, .load 3 (.tmp 93), 3, "law.go:61", #[⟨23, .data⟩, ⟨21, .guard⟩], some (21, true)⟩) (v := .int .i64 n1) rfl (by kernel_rfl) (by kernel_rfl) (by kernel_rfl) (fun _ _ _ h => h) (Or.inl ⟨by rfl, fun w' hSw => by have hcc := (K4.keep hSw).cell (j := 1) rfl; go_simp⟩) hHeld ?_
    try simp only [Act.put, List.setIfInBounds_toArray, List.set_cons_zero, List.set_cons_succ]
    refine wpAnyH_take (i := 25) (oi := ⟨some 95, .move (.tmp 2), 9, "law.go:61", #[⟨21, .guard⟩], some (21, true)⟩) (v := .string msg) rfl (by kernel_rfl) (by kernel_rfl) (by kernel_rfl) (fun _ _ _ h => h) (Or.inl ⟨by rfl, fun w' hSw => by go_simp⟩) hHeld ?_
    try simp only [Act.put, List.setIfInBounds_toArray, List.set_cons_zero, List.set_cons_succ]
    refine wpAnyH_take (i := 27) (oi := ⟨some 97, .load 23 (.tmp 8), 23, "law.go:61", #[⟨21, .guard⟩], some (21, true)⟩) (v := _) rfl (by kernel_rfl) (by kernel_rfl) (by kernel_rfl) (fun _ _ _ h => h) (yieldsIf_load_mid (by rfl) _ _ rfl _ 0 rfl _ _ (fun w' hSw => rng_blk (K8) w' hSw) Tryd.underlying23 rfl hsA) hHeld ?_
    try simp only [Act.put, List.setIfInBounds_toArray, List.set_cons_zero, List.set_cons_succ]
    refine wpAnyH_take (i := 28) (oi := ⟨some 98, .indexAddr 28 (.tmp 4) (.const (Value.int IntKind.i64 1)), 0, "law.go:61", #[⟨21, .guard⟩], some (21, true)⟩) (v := .pointer (some ⟨w.heap.size, 1, none⟩)) rfl (by kernel_rfl) (by kernel_rfl) (by kernel_rfl) (fun _ _ _ h => h) (Or.inl ⟨by rfl, fun w' hSw => by go_simp⟩) hHeld ?_
    try simp only [Act.put, List.setIfInBounds_toArray, List.set_cons_zero, List.set_cons_succ]
    refine wpAnyH_take (i := 29) (oi := ⟨some 99, .load 3 (.tmp 98), 3, "law.go:61", #[⟨28, .data⟩, ⟨21, .guard⟩], some (21, true)⟩) (v := .int .i64 n1) rfl (by kernel_rfl) (by kernel_rfl) (by kernel_rfl) (fun _ _ _ h => h) (Or.inl ⟨by rfl, fun w' hSw => by have hcc := (K4.keep hSw).cell (j := 1) rfl; go_simp⟩) hHeld ?_
    try simp only [Act.put, List.setIfInBounds_toArray, List.set_cons_zero, List.set_cons_succ]
    refine wpAnyH_take (i := 30) (oi := ⟨some 100, .move (.tmp 2), 9, "law.go:61", #[⟨21, .guard⟩], some (21, true)⟩) (v := .string msg) rfl (by kernel_rfl) (by kernel_rfl) (by kernel_rfl) (fun _ _ _ h => h) (Or.inl ⟨by rfl, fun w' hSw => by go_simp⟩) hHeld ?_
    try simp only [Act.put, List.setIfInBounds_toArray, List.set_cons_zero, List.set_cons_succ]
    refine wpAnyH_ready (rs := [26]) (by kernel_rfl) (by simp) ?_
    refine AllReadyH.cons (o := ⟨some 96, .call { callee := .value (.func 16), args := #[.tmp 92, .tmp 94, .tmp 95], argTypes := #[23, 3, 9] }, 23, "law.go:61", #[⟨22, .data⟩, ⟨24, .data⟩, ⟨25, .data⟩, ⟨21, .chain⟩, ⟨21, .guard⟩], some (21, true)⟩) rfl (fun K hK => ?_) AllReadyH.nil
    rw [if_pos (by rfl)]
    go_simp
    refine (HD1.out _ (hG.keep (link C7 hHeld))).mono ?_
    rintro e V1 ⟨rfl, hB1⟩
    have hX1 := link hHeld hB1
    clear hB1
    dsimp only
    refine hK.out _ _ (hX1) (fun hHeld => ?_)
    clear hK K
    try simp only [Act.put, List.setIfInBounds_toArray, List.set_cons_zero, List.set_cons_succ]
    clear hX1
    refine wpAnyH_ready (rs := [31]) (by kernel_rfl) (by simp) ?_
    refine AllReadyH.cons (o := ⟨some 101, .call { callee := .value (.func 17), args := #[.tmp 97, .tmp 99, .tmp 100], argTypes := #[23, 3, 9] }, 23, "law.go:61", #[⟨27, .data⟩, ⟨29, .data⟩, ⟨30, .data⟩, ⟨26, .chain⟩, ⟨21, .guard⟩], some (21, true)⟩) rfl (fun K hK => ?_) AllReadyH.nil
    rw [if_pos (by rfl)]
    go_simp
    refine (HD2.out _ (hR.keep (link C7 hHeld))).mono ?_
    rintro e V2 ⟨rfl, hB1⟩
    have hX1 := link hHeld hB1
    clear hB1
    dsimp only
    refine hK.out _ _ (hX1) (fun hHeld => ?_)
    clear hK K
    try simp only [Act.put, List.setIfInBounds_toArray, List.set_cons_zero, List.set_cons_succ]
    clear hX1
    refine wpAnyH_take (i := 32) (oi := ⟨some 102, .binOp .eql 23 (.tmp 96) (.tmp 101) 23, 4, "law.go:61", #[⟨26, .data⟩, ⟨31, .data⟩, ⟨21, .guard⟩], some (21, true)⟩) (v := .bool true) rfl (by kernel_rfl) (by kernel_rfl) (by kernel_rfl) (fun _ _ _ h => h) (Or.inl ⟨by rfl, fun w' hSw => by go_simp⟩) hHeld ?_
    try simp only [Act.put, List.setIfInBounds_toArray, List.set_cons_zero, List.set_cons_succ]
    refine wpAnyH_take (i := 33) (oi := ⟨some 103, .pick (.tmp 91) (.tmp 102) (.const (Value.bool false)), 4, "law.go:61", #[⟨21, .data⟩, ⟨32, .data⟩], none⟩) (v := .bool true) rfl (by kernel_rfl) (by kernel_rfl) (by kernel_rfl) (fun _ _ _ h => h) (Or.inl ⟨by rfl, fun w' hSw => by go_simp⟩) hHeld ?_
    try simp only [Act.put, List.setIfInBounds_toArray, List.set_cons_zero, List.set_cons_succ]
    refine wpAnyH_ready (rs := [34]) (by kernel_rfl) (by simp) ?_
    refine AllReadyH.cons (o := ⟨some 6, .assign (.tmp 103), 4, "law.go:61", #[⟨33, .data⟩, ⟨31, .chain⟩, ⟨0, .phase⟩, ⟨1, .phase⟩, ⟨2, .phase⟩, ⟨3, .phase⟩, ⟨4, .phase⟩, ⟨5, .phase⟩, ⟨6, .phase⟩, ⟨7, .phase⟩, ⟨8, .phase⟩, ⟨9, .phase⟩, ⟨10, .phase⟩, ⟨11, .phase⟩, ⟨12, .phase⟩, ⟨13, .phase⟩, ⟨14, .phase⟩, ⟨15, .phase⟩, ⟨16, .phase⟩, ⟨17, .phase⟩, ⟨18, .phase⟩, ⟨19, .phase⟩, ⟨20, .phase⟩, ⟨21, .phase⟩, ⟨22, .phase⟩, ⟨23, .phase⟩, ⟨24, .phase⟩, ⟨25, .phase⟩, ⟨26, .phase⟩, ⟨27, .phase⟩, ⟨28, .phase⟩, ⟨29, .phase⟩, ⟨30, .phase⟩, ⟨31, .phase⟩, ⟨32, .phase⟩, ⟨33, .phase⟩], none⟩) rfl (fun K hK => ?_) AllReadyH.nil
    rw [if_pos (by rfl)]
    go_simp
    refine hK.out _ _ (hHeld) (fun hHeld => ?_)
    clear hK K
    try simp only [Act.put, List.setIfInBounds_toArray, List.set_cons_zero, List.set_cons_succ]
    refine wpAnyH_done (by kernel_rfl) ?_ _
    go_wp2
    go_ret
    exact ⟨rfl, link C7 hHeld⟩
  · have h2 : decide (2 < n0) = true := by simp only [decide_eq_true_eq]; omega
    have h6 : decide (n0 ≤ 6) = false := by simp only [decide_eq_false_iff_not]; omega
    clear hg hs hm h1a h1b
    go_enter Tryd.func4, Tryd.ntmps4
    go_upto_region 1 with (fail)
    generalize hw1 : World.alloc _ _ = W0
    have K4 : Blk W0 w.heap.size 28 [.int .i64 n0, .int .i64 n1] := hw1 ▸ (blk_new w _ _)
    have KB : Below w.heap.size w W0 := hw1 ▸ ((Below.refl _ _).alloc (Nat.le_refl _) _)
    clear hw1
    go_wp2_with fail
    refine (H0.out W0 (hG.keep KB)).mono ?_
    rintro e w1 ⟨rfl, hB1⟩
    have C1 := link KB hB1
    replace K4 := K4.keep hB1
    have ca1 := K4.cell (j := 0) rfl
    have cb1 := K4.cell (j := 1) rfl
    clear hB1 KB
    go_upto_region 4 with (fail)
    go_wp2_with fail
    refine (HP1.out w1 (hG.keep C1)).mono ?_
    rintro e w2 ⟨rfl, hB2⟩
    have C2 := link C1 hB2
    replace K4 := K4.keep hB2
    clear ca1 cb1
    go_upto_region 5 with (refine store_blk rfl 23 (.tmp 8) (.tmp 41) rfl (blk_new w2 23 (bytesV z16).toArray) rfl rfl (m := 16) (by kernel_rfl) hvA hz16 (bytesV_cells A) ?_; intro x1 K8 O8)
    have C3 : Below w.heap.size w x1 := O8.2.2 _ _ C2.size (C2.alloc C2.size _)
    replace K4 := O8.2.1 _ _ _ (by have := K4.lt; omega) (K4.alloc (.cells (bytesV z16).toArray 23))
    obtain ⟨pb, hpb⟩ : ∃ pb, w2.heap.size = pb := ⟨_, rfl⟩
    rw [hpb] at K8 ⊢
    have ca2 := K4.cell (j := 0) rfl
    clear O8 hB2 C1 C2 hpb
    go_wp2_with fail
    refine (HP2.out x1 (hR.keep C3)).mono ?_
    rintro e w3 ⟨rfl, hB3⟩
    have C4 := link C3 hB3
    replace K4 := K4.keep hB3
    replace K8 := K8.keep hB3
    clear ca2
    go_upto_region 6 with (refine store_blk rfl 23 (.tmp 10) (.tmp 48) rfl (blk_new w3 23 (bytesV z16).toArray) rfl rfl (m := 16) (by kernel_rfl) hvA hz16 (bytesV_cells A) ?_; intro x2 K10 O10)
    have C5 : Below w.heap.size w x2 := O10.2.2 _ _ C4.size (C4.alloc C4.size _)
    replace K4 := O10.2.1 _ _ _ (by have := K4.lt; omega) (K4.alloc (.cells (bytesV z16).toArray 23))
    replace K8 := O10.2.1 _ _ _ (by have := K8.lt; omega) (K8.alloc (.cells (bytesV z16).toArray 23))
    obtain ⟨qb, hqb⟩ : ∃ qb, w3.heap.size = qb := ⟨_, rfl⟩
    rw [hqb] at K10 ⊢
    have ca3 := K4.cell (j := 0) rfl
    have cb3 := K4.cell (j := 1) rfl
    clear O10 hB3 C3 C4 hqb
    go_wp2_with fail
    refine (HS1.out x2 (hG.keep C5)).mono ?_
    rintro e w5 ⟨rfl, hB5⟩
    have C6 := link C5 hB5
    replace K4 := K4.keep hB5
    replace K8 := K8.keep hB5
    replace K10 := K10.keep hB5
    clear ca3 cb3 hB5 C5
    have ca4 := K4.cell (j := 0) rfl
    have cb4 := K4.cell (j := 1) rfl
    go_wp2_with fail
    refine (HS2.out w5 (hR.keep C6)).mono ?_
    rintro e w6 ⟨rfl, hB6⟩
    have C7 := link C6 hB6
    replace K4 := K4.keep hB6
    replace K8 := K8.keep hB6
    replace K10 := K10.keep hB6
    clear ca4 cb4 hB6 C6
    go_upto_region 8 with (fail)
    have heqA := fun w0 => equal_16 w0 A A hA hA
    rw [decide_eq_true rfl] at heqA
    have heqD := fun w0 => equal_16 w0 D D hDd hDd
    rw [decide_eq_true rfl] at heqD
    refine wp_region_held_drew (S := fun w' => Below w6.heap.size w6 w') (by kernel_rfl) (below_drew (Below.refl _ _)) (fun hHeld => ?_)
    generalize w6.drew = V0 at hHeld ⊢
    refine wpAnyH_take (i := 0) (oi := ⟨some 70, .move (.tmp 7), 4, "law.go:61", #[], none⟩) (v := .bool true) rfl (by kernel_rfl) (by kernel_rfl) (by kernel_rfl) (fun _ _ _ h => h) (Or.inl ⟨by rfl, fun w' hSw => by go_simp⟩) hHeld ?_
    try simp only [Act.put, List.setIfInBounds_toArray, List.set_cons_zero, List.set_cons_succ]
    refine wpAnyH_take (i := 1) (oi := ⟨some 71, .move (.tmp 70), 4, "law.go:61", #[⟨0, .data⟩], none⟩) (v := .bool true) rfl (by kernel_rfl) (by kernel_rfl) (by kernel_rfl) (fun _ _ _ h => h) (Or.inl ⟨by rfl, fun w' hSw => by go_simp⟩) hHeld ?_
    try simp only [Act.put, List.setIfInBounds_toArray, List.set_cons_zero, List.set_cons_succ]
    refine wpAnyH_take (i := 2) (oi := ⟨some 72, .load 23 (.tmp 8), 23, "law.go:61", #[⟨1, .guard⟩], some (1, true)⟩) (v := _) rfl (by kernel_rfl) (by kernel_rfl) (by kernel_rfl) (fun _ _ _ h => h) (yieldsIf_load_mid (by rfl) _ _ rfl _ 0 rfl _ _ (fun w' hSw => rng_blk (K8) w' hSw) Tryd.underlying23 rfl hsA) hHeld ?_
    try simp only [Act.put, List.setIfInBounds_toArray, List.set_cons_zero, List.set_cons_succ]
    refine wpAnyH_take (i := 3) (oi := ⟨some 73, .load 23 (.tmp 10), 23, "law.go:61", #[⟨1, .guard⟩], some (1, true)⟩) (v := _) rfl (by kernel_rfl) (by kernel_rfl) (by kernel_rfl) (fun _ _ _ h => h) (yieldsIf_load_mid (by rfl) _ _ rfl _ 0 rfl _ _ (fun w' hSw => rng_blk (K10) w' hSw) Tryd.underlying23 rfl hsA) hHeld ?_
    try simp only [Act.put, List.setIfInBounds_toArray, List.set_cons_zero, List.set_cons_succ]
    refine wpAnyH_take (i := 4) (oi := ⟨some 74, .binOp .eql 23 (.tmp 72) (.tmp 73) 23, 4, "law.go:61", #[⟨2, .data⟩, ⟨3, .data⟩, ⟨1, .guard⟩], some (1, true)⟩) (v := .bool true) rfl (by kernel_rfl) (by kernel_rfl) (by kernel_rfl) (fun _ _ _ h => h) (Or.inl ⟨by rfl, fun w' hSw => by go_simp⟩) hHeld ?_
    try simp only [Act.put, List.setIfInBounds_toArray, List.set_cons_zero, List.set_cons_succ]
    refine wpAnyH_take (i := 5) (oi := ⟨some 75, .pick (.tmp 71) (.tmp 74) (.const (Value.bool false)), 4, "law.go:61", #[⟨1, .data⟩, ⟨4, .data⟩], none⟩) (v := .bool true) rfl (by kernel_rfl) (by kernel_rfl) (by kernel_rfl) (fun _ _ _ h => h) (Or.inl ⟨by rfl, fun w' hSw => by go_simp⟩) hHeld ?_
    try simp only [Act.put, List.setIfInBounds_toArray, List.set_cons_zero, List.set_cons_succ]
    refine wpAnyH_take (i := 6) (oi := ⟨some 76, .move (.tmp 75), 4, "law.go:61", #[⟨5, .data⟩, ⟨1, .chain⟩], none⟩) (v := .bool true) rfl (by kernel_rfl) (by kernel_rfl) (by kernel_rfl) (fun _ _ _ h => h) (Or.inl ⟨by rfl, fun w' hSw => by go_simp⟩) hHeld ?_
    try simp only [Act.put, List.setIfInBounds_toArray, List.set_cons_zero, List.set_cons_succ]
    refine wpAnyH_take (i := 7) (oi := ⟨some 77, .move (.tmp 9), 29, "law.go:61", #[⟨6, .guard⟩], some (6, true)⟩) (v := .int .i64 ep) rfl (by kernel_rfl) (by kernel_rfl) (by kernel_rfl) (fun _ _ _ h => h) (Or.inl ⟨by rfl, fun w' hSw => by go_simp⟩) hHeld ?_
    try simp only [Act.put, List.setIfInBounds_toArray, List.set_cons_zero, List.set_cons_succ]
    refine wpAnyH_take (i := 8) (oi := ⟨some 78, .move (.tmp 11), 29, "law.go:61", #[⟨6, .guard⟩], some (6, true)⟩) (v := .int .i64 ep) rfl (by kernel_rfl) (by kernel_rfl) (by kernel_rfl) (fun _ _ _ h => h) (Or.inl ⟨by rfl, fun w' hSw => by go_simp⟩) hHeld ?_
    try simp only [Act.put, List.setIfInBounds_toArray, List.set_cons_zero, List.set_cons_succ]
    refine wpAnyH_take (i := 9) (oi := ⟨some 79, .binOp .eql 29 (.tmp 77) (.tmp 78) 29, 4, "law.go:61", #[⟨7, .data⟩, ⟨8, .data⟩, ⟨6, .guard⟩], some (6, true)⟩) (v := .bool true) rfl (by kernel_rfl) (by kernel_rfl) (by kernel_rfl) (fun _ _ _ h => h) (Or.inl ⟨by rfl, fun w' hSw => by go_simp⟩) hHeld ?_
    try simp only [Act.put, List.setIfInBounds_toArray, List.set_cons_zero, List.set_cons_succ]
    refine wpAnyH_take (i := 10) (oi := ⟨some 80, .pick (.tmp 76) (.tmp 79) (.const (Value.bool false)), 4, "law.go:61", #[⟨6, .data⟩, ⟨9, .data⟩], none⟩) (v := .bool true) rfl (by kernel_rfl) (by kernel_rfl) (by kernel_rfl) (fun _ _ _ h => h) (Or.inl ⟨by rfl, fun w' hSw => by go_simp⟩) hHeld ?_
    try simp only [Act.put, List.setIfInBounds_toArray, List.set_cons_zero, List.set_cons_succ]
    refine wpAnyH_take (i := 11) (oi := ⟨some 81, .move (.tmp 80), 4, "law.go:61", #[⟨10, .data⟩, ⟨6, .chain⟩], none⟩) (v := .bool true) rfl (by kernel_rfl) (by kernel_rfl) (by kernel_rfl) (fun _ _ _ h => h) (Or.inl ⟨by rfl, fun w' hSw => by go_simp⟩) hHeld ?_
    try simp only [Act.put, List.setIfInBounds_toArray, List.set_cons_zero, List.set_cons_succ]
    refine wpAnyH_take (i := 12) (oi := ⟨some 82, .move (.tmp 12), 9, "law.go:61", #[⟨11, .guard⟩], some (11, true)⟩) (v := .string SS) rfl (by kernel_rfl) (by kernel_rfl) (by kernel_rfl) (fun _ _ _ h => h) (Or.inl ⟨by rfl, fun w' hSw => by go_simp⟩) hHeld ?_
    try simp only [Act.put, List.setIfInBounds_toArray, List.set_cons_zero, List.set_cons_succ]
    refine wpAnyH_take (i := 13) (oi := ⟨some 83, .move (.tmp 14), 9, "law.go:61", #[⟨11, .guard⟩], some (11, true)⟩) (v := .string SS) rfl (by kernel_rfl) (by kernel_rfl) (by kernel_rfl) (fun _ _ _ h => h) (Or.inl ⟨by rfl, fun w' hSw => by go_simp⟩) hHeld ?_
    try simp only [Act.put, List.setIfInBounds_toArray, List.set_cons_zero, List.set_cons_succ]
    refine wpAnyH_take (i := 14) (oi := ⟨some 84, .binOp .eql 9 (.tmp 82) (.tmp 83) 9, 4, "law.go:61", #[⟨12, .data⟩, ⟨13, .data⟩, ⟨11, .guard⟩], some (11, true)⟩) (v := .bool true) rfl (by kernel_rfl) (by kernel_rfl) (by kernel_rfl) (fun _ _ _ h => h) (Or.inl ⟨by rfl, fun w' hSw => by go_simp⟩) hHeld ?_
    try simp only [Act.put, List.setIfInBounds_toArray, List.set_cons_zero, List.set_cons_succ]
    refine wpAnyH_take (i := 15) (oi := ⟨some 85, .pick (.tmp 81) (.tmp 84) (.const (Value.bool false)), 4, "law.go:61", #[⟨11, .data⟩, ⟨14, .data⟩], none⟩) (v := .bool true) rfl (by kernel_rfl) (by kernel_rfl) (by kernel_rfl) (fun _ _ _ h => h) (Or.inl ⟨by rfl, fun w' hSw => by go_simp⟩) hHeld ?_
    try simp only [Act.put, List.setIfInBounds_toArray, List.set_cons_zero, List.set_cons_succ]
    refine wpAnyH_take (i := 16) (oi := ⟨some 86, .move (.tmp 85), 4, "law.go:61", #[⟨15, .data⟩, ⟨11, .chain⟩], none⟩) (v := .bool true) rfl (by kernel_rfl) (by kernel_rfl) (by kernel_rfl) (fun _ _ _ h => h) (Or.inl ⟨by rfl, fun w' hSw => by go_simp⟩) hHeld ?_
    try simp only [Act.put, List.setIfInBounds_toArray, List.set_cons_zero, List.set_cons_succ]
    refine wpAnyH_take (i := 17) (oi := ⟨some 87, .move (.tmp 13), 29, "law.go:61", #[⟨16, .guard⟩], some (16, true)⟩) (v := .int .i64 es) rfl (by kernel_rfl) (by kernel_rfl) (by kernel_rfl) (fun _ _ _ h => h) (Or.inl ⟨by rfl, fun w' hSw => by go_simp⟩) hHeld ?_
    try simp only [Act.put, List.setIfInBounds_toArray, List.set_cons_zero, List.set_cons_succ]
    refine wpAnyH_take (i := 18) (oi := ⟨some 88, .move (.tmp 15), 29, "law.go:61", #[⟨16, .guard⟩], some (16, true)⟩) (v := .int .i64 es) rfl (by kernel_rfl) (by kernel_rfl) (by kernel_rfl) (fun _ _ _ h => h) (Or.inl ⟨by rfl, fun w' hSw => by go_simp⟩) hHeld ?_
    try simp only [Act.put, List.setIfInBounds_toArray, List.set_cons_zero, List.set_cons_succ]
    refine wpAnyH_take (i := 19) (oi := ⟨some 89, .binOp .eql 29 (.tmp 87) (.tmp 88) 29, 4, "law.go:61", #[⟨17, .data⟩, ⟨18, .data⟩, ⟨16, .guard⟩], some (16, true)⟩) (v := .bool true) rfl (by kernel_rfl) (by kernel_rfl) (by kernel_rfl) (fun _ _ _ h => h) (Or.inl ⟨by rfl, fun w' hSw => by go_simp⟩) hHeld ?_
    try simp only [Act.put, List.setIfInBounds_toArray, List.set_cons_zero, List.set_cons_succ]
    refine wpAnyH_take (i := 20) (oi := ⟨some 90, .pick (.tmp 86) (.tmp 89) (.const (Value.bool false)), 4, "law.go:61", #[⟨16, .data⟩, ⟨19, .data⟩], none⟩) (v := .bool true) rfl (by kernel_rfl) (by kernel_rfl) (by kernel_rfl) (fun _ _ _ h => h) (Or.inl ⟨by rfl, fun w' hSw => by go_simp⟩) hHeld ?_
    try simp only [Act.put, List.setIfInBounds_toArray, List.set_cons_zero, List.set_cons_succ]
    refine wpAnyH_take (i := 21) (oi := ⟨some 91, .move (.tmp 90), 4, "law.go:61", #[⟨20, .data⟩, ⟨16, .chain⟩], none⟩) (v := .bool true) rfl (by kernel_rfl) (by kernel_rfl) (by kernel_rfl) (fun _ _ _ h => h) (Or.inl ⟨by rfl, fun w' hSw => by go_simp⟩) hHeld ?_
    try simp only [Act.put, List.setIfInBounds_toArray, List.set_cons_zero, List.set_cons_succ]
    refine wpAnyH_take (i := 22) (oi := ⟨some 92, .load 23 (.tmp 8), 23, "law.go:61", #[⟨21, .guard⟩], some (21, true)⟩) (v := _) rfl (by kernel_rfl) (by kernel_rfl) (by kernel_rfl) (fun _ _ _ h => h) (yieldsIf_load_mid (by rfl) _ _ rfl _ 0 rfl _ _ (fun w' hSw => rng_blk (K8) w' hSw) Tryd.underlying23 rfl hsA) hHeld ?_
    try simp only [Act.put, List.setIfInBounds_toArray, List.set_cons_zero, List.set_cons_succ]
    refine wpAnyH_take (i := 23) (oi := ⟨some 93, .indexAddr 28 (.tmp 4) (.const (Value.int IntKind.i64 1)), 0, "law.go:61", #[⟨21, .guard⟩], some (21, true)⟩) (v := .pointer (some ⟨w.heap.size, 1, none⟩)) rfl (by kernel_rfl) (by kernel_rfl) (by kernel_rfl) (fun _ _ _ h => h) (Or.inl ⟨by rfl, fun w' hSw => by go_simp⟩) hHeld ?_
    try simp only [Act.put, List.setIfInBounds_toArray, List.set_cons_zero, List.set_cons_succ]
    refine wpAnyH_take (i := 24) (oi := ⟨some 94, .load 3 (.tmp 93), 3, "law.go:61", #[⟨23, .data⟩, ⟨21, .guard⟩], some (21, true)⟩) (v := .int .i64 n1) rfl (by kernel_rfl) (by kernel_rfl) (by kernel_rfl) (fun _ _ _ h => h) (Or.inl ⟨by rfl, fun w' hSw => by have hcc := (K4.keep hSw).cell (j := 1) rfl; go_simp⟩) hHeld ?_
    try simp only [Act.put, List.setIfInBounds_toArray, List.set_cons_zero, List.set_cons_succ]
    refine wpAnyH_take (i := 25) (oi := ⟨some 95, .move (.tmp 2), 9, "law.go:61", #[⟨21, .guard⟩], some (21, true)⟩) (v := .string msg) rfl (by kernel_rfl) (by kernel_rfl) (by kernel_rfl) (fun _ _ _ h => h) (Or.inl ⟨by rfl, fun w' hSw => by go_simp⟩) hHeld ?_
    try simp only [Act.put, List.setIfInBounds_toArray, List.set_cons_zero, List.set_cons_succ]
    refine wpAnyH_take (i := 27) (oi := ⟨some 97, .load 23 (.tmp 8), 23, "law.go:61", #[⟨21, .guard⟩], some (21, true)⟩) (v := _) rfl (by kernel_rfl) (by kernel_rfl) (by kernel_rfl) (fun _ _ _ h => h) (yieldsIf_load_mid (by rfl) _ _ rfl _ 0 rfl _ _ (fun w' hSw => rng_blk (K8) w' hSw) Tryd.underlying23 rfl hsA) hHeld ?_
    try simp only [Act.put, List.setIfInBounds_toArray, List.set_cons_zero, List.set_cons_succ]
    refine wpAnyH_take (i := 28) (oi := ⟨some 98, .indexAddr 28 (.tmp 4) (.const (Value.int IntKind.i64 1)), 0, "law.go:61", #[⟨21, .guard⟩], some (21, true)⟩) (v := .pointer (some ⟨w.heap.size, 1, none⟩)) rfl (by kernel_rfl) (by kernel_rfl) (by kernel_rfl) (fun _ _ _ h => h) (Or.inl ⟨by rfl, fun w' hSw => by go_simp⟩) hHeld ?_
    try simp only [Act.put, List.setIfInBounds_toArray, List.set_cons_zero, List.set_cons_succ]
    refine wpAnyH_take (i := 29) (oi := ⟨some 99, .load 3 (.tmp 98), 3, "law.go:61", #[⟨28, .data⟩, ⟨21, .guard⟩], some (21, true)⟩) (v := .int .i64 n1) rfl (by kernel_rfl) (by kernel_rfl) (by kernel_rfl) (fun _ _ _ h => h) (Or.inl ⟨by rfl, fun w' hSw => by have hcc := (K4.keep hSw).cell (j := 1) rfl; go_simp⟩) hHeld ?_
    try simp only [Act.put, List.setIfInBounds_toArray, List.set_cons_zero, List.set_cons_succ]
    refine wpAnyH_take (i := 30) (oi := ⟨some 100, .move (.tmp 2), 9, "law.go:61", #[⟨21, .guard⟩], some (21, true)⟩) (v := .string msg) rfl (by kernel_rfl) (by kernel_rfl) (by kernel_rfl) (fun _ _ _ h => h) (Or.inl ⟨by rfl, fun w' hSw => by go_simp⟩) hHeld ?_
    try simp only [Act.put, List.setIfInBounds_toArray, List.set_cons_zero, List.set_cons_succ]
    refine wpAnyH_ready (rs := [26]) (by kernel_rfl) (by simp) ?_
    refine AllReadyH.cons (o := ⟨some 96, .call { callee := .value (.func 16), args := #[.tmp 92, .tmp 94, .tmp 95], argTypes := #[23, 3, 9] }, 23, "law.go:61", #[⟨22, .data⟩, ⟨24, .data⟩, ⟨25, .data⟩, ⟨21, .chain⟩, ⟨21, .guard⟩], some (21, true)⟩) rfl (fun K hK => ?_) AllReadyH.nil
    rw [if_pos (by rfl)]
    go_simp
    refine (HD1.out _ (hG.keep (link C7 hHeld))).mono ?_
    rintro e V1 ⟨rfl, hB1⟩
    have hX1 := link hHeld hB1
    clear hB1
    dsimp only
    refine hK.out _ _ (hX1) (fun hHeld => ?_)
    clear hK K
    try simp only [Act.put, List.setIfInBounds_toArray, List.set_cons_zero, List.set_cons_succ]
    clear hX1
    refine wpAnyH_ready (rs := [31]) (by kernel_rfl) (by simp) ?_
    refine AllReadyH.cons (o := ⟨some 101, .call { callee := .value (.func 17), args := #[.tmp 97, .tmp 99, .tmp 100], argTypes := #[23, 3, 9] }, 23, "law.go:61", #[⟨27, .data⟩, ⟨29, .data⟩, ⟨30, .data⟩, ⟨26, .chain⟩, ⟨21, .guard⟩], some (21, true)⟩) rfl (fun K hK => ?_) AllReadyH.nil
    rw [if_pos (by rfl)]
    go_simp
    refine (HD2.out _ (hR.keep (link C7 hHeld))).mono ?_
    rintro e V2 ⟨rfl, hB1⟩
    have hX1 := link hHeld hB1
    clear hB1
    dsimp only
    refine hK.out _ _ (hX1) (fun hHeld => ?_)
    clear hK K
    try simp only [Act.put, List.setIfInBounds_toArray, List.set_cons_zero, List.set_cons_succ]
    clear hX1
    refine wpAnyH_take (i := 32) (oi := ⟨some 102, .binOp .eql 23 (.tmp 96) (.tmp 101) 23, 4, "law.go:61", #[⟨26, .data⟩, ⟨31, .data⟩, ⟨21, .guard⟩], some (21, true)⟩) (v := .bool true) rfl (by kernel_rfl) (by kernel_rfl) (by kernel_rfl) (fun _ _ _ h => h) (Or.inl ⟨by rfl, fun w' hSw => by go_simp⟩) hHeld ?_
    try simp only [Act.put, List.setIfInBounds_toArray, List.set_cons_zero, List.set_cons_succ]
    refine wpAnyH_take (i := 33) (oi := ⟨some 103, .pick (.tmp 91) (.tmp 102) (.const (Value.bool false)), 4, "law.go:61", #[⟨21, .data⟩, ⟨32, .data⟩], none⟩) (v := .bool true) rfl (by kernel_rfl) (by kernel_rfl) (by kernel_rfl) (fun _ _ _ h => h) (Or.inl ⟨by rfl, fun w' hSw => by go_simp⟩) hHeld ?_
    try simp only [Act.put, List.setIfInBounds_toArray, List.set_cons_zero, List.set_cons_succ]
    refine wpAnyH_ready (rs := [34]) (by kernel_rfl) (by simp) ?_
    refine AllReadyH.cons (o := ⟨some 6, .assign (.tmp 103), 4, "law.go:61", #[⟨33, .data⟩, ⟨31, .chain⟩, ⟨0, .phase⟩, ⟨1, .phase⟩, ⟨2, .phase⟩, ⟨3, .phase⟩, ⟨4, .phase⟩, ⟨5, .phase⟩, ⟨6, .phase⟩, ⟨7, .phase⟩, ⟨8, .phase⟩, ⟨9, .phase⟩, ⟨10, .phase⟩, ⟨11, .phase⟩, ⟨12, .phase⟩, ⟨13, .phase⟩, ⟨14, .phase⟩, ⟨15, .phase⟩, ⟨16, .phase⟩, ⟨17, .phase⟩, ⟨18, .phase⟩, ⟨19, .phase⟩, ⟨20, .phase⟩, ⟨21, .phase⟩, ⟨22, .phase⟩, ⟨23, .phase⟩, ⟨24, .phase⟩, ⟨25, .phase⟩, ⟨26, .phase⟩, ⟨27, .phase⟩, ⟨28, .phase⟩, ⟨29, .phase⟩, ⟨30, .phase⟩, ⟨31, .phase⟩, ⟨32, .phase⟩, ⟨33, .phase⟩], none⟩) rfl (fun K hK => ?_) AllReadyH.nil
    rw [if_pos (by rfl)]
    go_simp
    refine hK.out _ _ (hHeld) (fun hHeld => ?_)
    clear hK K
    try simp only [Act.put, List.setIfInBounds_toArray, List.set_cons_zero, List.set_cons_succ]
    refine wpAnyH_done (by kernel_rfl) ?_ _
    go_wp2
    go_ret
    exact ⟨rfl, link C7 hHeld⟩

set_option maxHeartbeats 4000000 in
set_option maxRecDepth 100000 in
theorem makes_law (s msg : ByteArray) (n0 n1 : Int) (h1a : -9223372036854775808 ≤ n1) (h1b : n1 ≤ 9223372036854775807) (w : World) (hG : Glob w) (hR : GlobR w) :
    Calls Tryd.prog 4 #[.string s, .agg #[.int .i64 n0, .int .i64 n1], .string msg] w (Told w true) := by
  have H0 := Lib.hid (fun w0 g => sanity3_any w0 g)
  by_cases hs : s.size ≤ 200
  · have hss : decide ((200 : Int) < (s.size : Int)) = false := by simp only [decide_eq_false_iff_not]; omega
    by_cases hm : msg.size ≤ 200
    · have hmm : decide ((200 : Int) < (msg.size : Int)) = false := by simp only [decide_eq_false_iff_not]; omega
      by_cases hg : n0 ≤ 2 ∨ 6 < n0
      · exact makes_main s msg n0 n1 h1a h1b hs hm hg w hG hR
      · have h2 : decide (2 < n0) = true := by simp only [decide_eq_true_eq]; omega
        have h6 : decide (n0 ≤ 6) = true := by simp only [decide_eq_true_eq]; omega
        clear hg hs hm
        go_enter Tryd.func4, Tryd.ntmps4
        go_upto_region 1 with (fail)
        generalize hw1 : World.alloc _ _ = W0
        have K4 : Blk W0 w.heap.size 28 [.int .i64 n0, .int .i64 n1] := hw1 ▸ (blk_new w _ _)
        have KB : Below w.heap.size w W0 := hw1 ▸ ((Below.refl _ _).alloc (Nat.le_refl _) _)
        clear hw1
        go_wp2_with fail
        refine (H0.out W0 (hG.keep KB)).mono ?_
        rintro e w1 ⟨rfl, hB1⟩
        have C1 := link KB hB1
        replace K4 := K4.keep hB1
        have ca1 := K4.cell (j := 0) rfl
        go_wp2
        go_ret
        exact ⟨rfl, C1⟩
    · have hmm : decide ((200 : Int) < (msg.size : Int)) = true := by simp only [decide_eq_true_eq]; omega
      clear hs hm
      go_enter Tryd.func4, Tryd.ntmps4
      go_upto_region 1 with (fail)
      generalize hw1 : World.alloc _ _ = W0
      have K4 : Blk W0 w.heap.size 28 [.int .i64 n0, .int .i64 n1] := hw1 ▸ (blk_new w _ _)
      have KB : Below w.heap.size w W0 := hw1 ▸ ((Below.refl _ _).alloc (Nat.le_refl _) _)
      clear hw1
      go_wp2_with fail
      refine (H0.out W0 (hG.keep KB)).mono ?_
      rintro e w1 ⟨rfl, hB1⟩
      have C1 := link KB hB1
      replace K4 := K4.keep hB1
      have ca1 := K4.cell (j := 0) rfl
      go_wp2
      go_ret
      exact ⟨rfl, C1⟩
  · have hss : decide ((200 : Int) < (s.size : Int)) = true := by simp only [decide_eq_true_eq]; omega
    clear hs
    go_enter Tryd.func4, Tryd.ntmps4
    go_upto_region 1 with (fail)
    generalize hw1 : World.alloc _ _ = W0
    have K4 : Blk W0 w.heap.size 28 [.int .i64 n0, .int .i64 n1] := hw1 ▸ (blk_new w _ _)
    have KB : Below w.heap.size w W0 := hw1 ▸ ((Below.refl _ _).alloc (Nat.le_refl _) _)
    clear hw1
    go_wp2_with fail
    refine (H0.out W0 (hG.keep KB)).mono ?_
    rintro e w1 ⟨rfl, hB1⟩
    have C1 := link KB hB1
    replace K4 := K4.keep hB1
    have ca1 := K4.cell (j := 0) rfl
    go_wp2
    go_ret
    exact ⟨rfl, C1⟩

namespace signMakesAsSpecified
open Go.ChangeShapes Go.WideShapes Go.ChangeAt Go.RowKit

theorem contract (H : Type) (enc : TypeId × Value → H) (W : World) (base : Nat) (args : Array Value) (ds gs : List (DataW H)) (before : List MemPlace)
    (hval : ∀ (j : Nat) t v, Tryd.f4.params[j]? = some t → args[j]? = some v → Value.okWide Tryd.prog W .any base t v)
    (hW : DataW.Whole enc Tryd.prog Tryd.f4.params.toList Rows.signMakesAsSpecifiedSpec.vars false W args.toList ds gs before) (hL : laidMetH Tryd.prog Rows.signMakesAsSpecifiedRow.laid W) :
    Calls Tryd.prog 4 args W fun e W' => ∃ v, e = .returned v ∧ Rows.signMakesAsSpecifiedSpec.post enc Tryd.prog Tryd.f4 false true false false W args v W' := by
  have hW' := hW
  obtain ⟨p, q, hA0, hV, rfl, hfz, hnd⟩ := hW
  have hA : DataW.TrodAll enc Tryd.prog W 0 (fun _ => true) true Tryd.f4.params.toList args.toList ds p := hA0
  rw [Tryd.params4] at hA hval
  obtain ⟨rfl, rfl⟩ := trodVars_none hV
  have hlt : ∀ x ∈ p, x.block < W.heap.size := fun x hx => hW'.lt x (List.mem_append_left _ hx)
  have hA1 := hA
  obtain ⟨v0, v1, v2, d0, d1, d2, p0, p1, p2, rfl, rfl, rfl, h0, h1, h2⟩ := trodAll_three hA
  obtain ⟨x0, rfl, _, _, w0⟩ := Go.ChangeMaps.open_string Tryd.underlying9 (hval 0 9 v0 rfl rfl) h0
  obtain ⟨x1, y1, rfl, g1, k1⟩ := open_nums (hval 1 28 v1 rfl rfl) h1
  obtain ⟨x2, rfl, _, _, w2⟩ := Go.ChangeMaps.open_string Tryd.underlying9 (hval 2 9 v2 rfl rfl) h2
  simp only [List.append_nil] at hW'
  obtain ⟨hR, hG⟩ := glob3_of hL
  refine (makes_law x0 x2 x1 y1 k1.1 k1.2 W hG hR).mono fun e W' ⟨he, hB⟩ => ?_
  subst he
  refine ⟨_, rfl, _, _, _, [], _, [], hW', ?_, keepAll hB _ _ _ _ (by decide +kernel) hA1 hlt, rfl, hB.frame _, fun h => by cases h⟩
  exact trodAll_mk1 (shut_bool Tryd.underlying4 _)

theorem laid_met (os : Os) : laidMet Tryd.prog Rows.signMakesAsSpecifiedRow.laid ((laidWorld3 os).forCall (fun _ _ => 0) ⟨#[], #[.string ByteArray.empty, .agg #[.int .i64 0, .int .i64 0], .string ByteArray.empty], []⟩).memory :=
  laidMet_of_run' 8 (by kernel_rfl) (by kernel_rfl)
theorem reads (os : Os) {H : Type} (enc : TypeId × Value → H) : ∃ ds places, DataW.whole enc Tryd.prog ((laidWorld3 os).forCall (fun _ _ => 0) ⟨#[], #[.string ByteArray.empty, .agg #[.int .i64 0, .int .i64 0], .string ByteArray.empty], []⟩).memory Tryd.f4.params.toList Rows.signMakesAsSpecifiedSpec.vars false (#[.string ByteArray.empty, .agg #[.int .i64 0, .int .i64 0], .string ByteArray.empty] : Array Value).toList 8 = some (ds, [], places) :=
  ⟨[.lit (.string []), .agg [.lit (.int .i64 0), .lit (.int .i64 0)], .lit (.string [])], [], by kernel_rfl⟩

set_option maxRecDepth 100000 in
theorem lifted (os : Os) (started : os.Started) (H : Type) (enc : TypeId × Value → H) (F : Stop.Interp) :
    ReturnsInHanded {} Tryd.checked os 4 .any ((OpenSpec.ofChange Rows.signMakesAsSpecifiedSpec).preRow enc Tryd.prog Tryd.f4 Rows.signMakesAsSpecifiedRow.domain false Rows.signMakesAsSpecifiedRow.laid) (((OpenSpec.ofChange Rows.signMakesAsSpecifiedSpec).at F).post enc Tryd.prog Tryd.f4 false true false false) := by
  obtain ⟨ds, places, hx⟩ := reads os enc
  refine returnsInHanded_of_row (C := Tryd.checked) (s := OpenSpec.ofChange Rows.signMakesAsSpecifiedSpec) own started (by kernel_rfl) Tryd.func4
    (witness_row_at (enc := enc) (C := Tryd.checked) false (laidWorld3 os) #[.string ByteArray.empty, .agg #[.int .i64 0, .int .i64 0], .string ByteArray.empty] rfl (by kernel_rfl) (by kernel_rfl) (by kernel_rfl)
      (OpenSpec.preRow_of_cond 8 hx (by kernel_rfl) (fun k hk => by cases hk) (by kernel_rfl) (laid_met os))) ?_
  intro W base args ds gs before hval hW _ _ _ hL _ _
  exact contract H enc W base args ds gs before hval hW hL

theorem said : Rows.SignMakesAsSpecifiedSaid :=
  OpenClaim.holds_of_cond 4 Tryd.f4 rfl rfl rfl rfl rfl rfl rfl ⟨rfl, rfl, rfl, rfl, rfl⟩ rfl rfl rfl rfl rfl (by kernel_rfl) Tryd.func4 (by kernel_rfl)
    (of_decide_eq_true (by kernel_rfl)) (by unfold Func.isWrapper; first | (rw [if_pos (by decide +kernel)]; kernel_rfl) | (rw [if_neg (by decide +kernel)]; exact ⟨rfl, rfl⟩))
    (fun os started H enc _ F => by rw [OpenClaim.pre_eq_preRow]; exact lifted os started H enc F)

theorem plain (f : FuncId) (fn : Func) (hf : Tryd.pinned.checked.prog.funcNamed "passim/passimlaw03.SignMakesAsSpecified" = some f) (hfn : Tryd.pinned.checked.prog.funcs[f]? = some fn) :
    false = Tryd.pinned.checked.prog.looks [] ∧ ∀ (j : Nat) t, fn.params[j]? = some t → Tryd.pinned.checked.prog.wantsStandIn t = false := by
  obtain rfl : f = 4 := Option.some.inj ((show Tryd.prog.funcNamed "passim/passimlaw03.SignMakesAsSpecified" = some 4 by kernel_rfl).symm.trans hf) |>.symm
  obtain rfl : fn = Tryd.f4 := (Option.some.inj (Tryd.func4.symm.trans hfn)).symm
  refine ⟨by kernel_rfl, fun j t ht => ?_⟩
  rw [Tryd.params4] at ht
  have hm := Array.mem_of_getElem? ht
  have hall : ∀ t ∈ ([9, 28, 9] : List TypeId), Tryd.prog.wantsStandIn t = false := by decide +kernel
  exact hall t (by simpa using hm)

theorem proved : Rows.SignMakesAsSpecifiedCardSaid :=
  Claim7.holds_tied_plain_at .later [] _ _ _ _ said (fun _ h => by cases h) (by kernel_rfl) (fun _ h => by cases h) signMakesAsSpecified_row_tie rfl ⟨rfl, rfl⟩ (by kernel_rfl) rfl plain (by kernel_rfl)
#print axioms proved
end signMakesAsSpecified

end Go.Proofs.YthffkbdecfjekaaDoor
