/-
  MerkleRoots, for all arguments.
  Conditions: the tables of the packages hash and passimref02 lie as the program lays them when the call begins (the card ties them to the text); no other.
-/
import Derived.Test.YtfhfmdnimebegaaDoorEa
import Derived.Deep.CutRange

namespace Go.Proofs.YtfhfmdnimebegaaDoor
open Go.RowKit
set_option linter.unusedVariables false
set_option linter.unusedSimpArgs false

set_option maxHeartbeats 16000000 in
set_option maxRecDepth 100000 in
theorem roots_law (hLv : ∀ V, Glob V → Calls Tryd.prog 18 #[] V (Told V true)) (A : Option Addr) (l : List Int) (n c : Nat) (hl : l.length = n) (RA : Option Addr) (raw : List Lf) (rn rc : Nat) (hrl : raw.length = rn) (hrn : rn ≤ 9223372036854775807) (x : Int) (hx1 : -9223372036854775808 ≤ x) (hx2 : x ≤ 9223372036854775807) (w : World) (hG : Glob w) (hGR : GlobR w) (hA : IntsAt w A l) (hR : OwnL w RA raw) :
    Calls Tryd.prog 3 #[.slice A n c, .slice RA rn rc, .int .i64 x] w (Told w true) := by
  have hz1 := zero_dig'
  have hz16 : (bytesV z16).toArray.toList.length = 16 := rfl
  have HLv := Lib.hid (fun (V : World) (g : Glob V) => hLv V g)
  have HLe := Lib.hid (leaves_any2 A l n c hl w hA)
  have HRw := Lib.hid (fun (V : World) (hB : Below w.heap.size w V) => raw_any raw RA rn rc hrl hrn V (hR.keep hB))
  have HAr := Lib.hid (fun (V : World) => around_any x hx1 hx2 12 (by omega) (by omega) V)
  clear hl hA hLv hrl hR hrn
  go_enter Tryd.func3, Tryd.ntmps3
  go_upto_region 2 with (first
    | (go_at_call 9; refine HLe.out.mono ?_; rintro e W1 ⟨v1, ls1, rfl, hO1, hv, hl11, hB1, hz1⟩; obtain ⟨q1, n1, c1, rfl, T1⟩ := LstOk.of hO1 hl11 (small_of (valid_zero hv).2.1) hz1)
    | (go_at_call 10; refine (HRw.out W1 hB1).mono ?_; rintro e W2 ⟨v2, rfl, hO2, hz2, hB2⟩; obtain ⟨q2, n2, c2, rfl, T2⟩ := LstOk.of hO2 (by have := rawM_len raw; omega) (small_raw raw) (fun h => hz2 (raw_nil h))))
  generalize hw : World.alloc W2 _ = W3
  have KT : Blk W3 W2.heap.size 24 [.slice q1 n1 c1, .slice q2 n2 c2, .slice none 0 0] := hw ▸ blk_new W2 _ _
  have X3 : Below W2.heap.size W2 W3 := hw ▸ ((Below.refl _ _).alloc (Nat.le_refl _) _)
  clear hw
  have B3 : Below w.heap.size w W3 := link (link hB1 hB2) X3
  have TB : Hid (∀ k, k < 3 → ∃ q n c ls, W3.cell? ⟨W2.heap.size, k, none⟩ = some (.slice q n c) ∧ LstOk W3 q n c ls) := Lib.hid (by
    intro k hk
    match k, hk with
    | 0, _ => exact ⟨_, _, _, ls1, KT.cell (j := 0) rfl, T1.keep (link hB2 X3)⟩
    | 1, _ => exact ⟨_, _, _, rawM raw, KT.cell (j := 1) rfl, T2.keep X3⟩
    | 2, _ => exact ⟨_, _, _, [], KT.cell (j := 2) rfl, LstOk.nil _⟩)
  have htb := KT.lt
  have G3 := hG.keep B3
  have GR3 := hGR.keep B3
  generalize W2.heap.size = tb at TB htb ⊢
  clear KT X3 T1 T2 hB1 hB2 hO1 hO2 hz1 hz2 hv hl11 HLe HRw hG hGR
  have hzd := zero_dig'
  go_wp2
  go_loopw [8] (fun v wr => ∃ k : Nat, k ≤ 3 ∧ v = .int .i64 k ∧ Below W3.heap.size W3 wr) (fun v _ => 3 - (intOf v).toNat)
  case atStart => exact ⟨0, by omega, rfl, Below.refl _ _⟩
  case round =>
    obtain ⟨k, hk, rfl, hB⟩ := hrel
    by_cases hlt : k < 3
    · obtain ⟨q, n0, c0, ls, hcell, hLs⟩ := TB.out k hlt
      have hk3 : (k : Int) < 3 := by omega
      have hc := (hB.cell (p := ⟨tb, k, none⟩) htb).trans hcell
      have HOw := Lib.hid (fun (V : World) (hB : Below W3.heap.size W3 V) => own_at ls q n0 c0 hLs.1 hLs.2.1 V (hLs.2.2.2.2.2.keep hB))
      have HRt := Lib.hid (fun (V : World) (q : Option Addr) (cc : Nat) (g : Glob V) (hc : n0 ≤ cc) (hL : OwnL V q ls) => root_all ls q n0 cc hLs.1 hc V g hL)
      have HRr := Lib.hid (fun (V : World) (hB : Below W3.heap.size W3 V) => rroot_all ls q n0 c0 hLs.1 V (GR3.keep hB) (hLs.2.2.2.2.2.keep hB))
      have HVa := Lib.hid (fun (V : World) (q : Option Addr) (cc : Nat) (hL : OwnL V q ls) => valid_any ls q n0 cc hLs.1 V hL)
      have HVr := Lib.hid (fun (V : World) (hB : Below W3.heap.size W3 V) => rvalid_any ls q n0 c0 hLs.1 V (hLs.2.2.2.2.2.keep hB))
      have hrd := rootA_dgt ls
      generalize (rootA ls).1 = RT at HRt HRr hrd
      generalize (rootA ls).2 = E1 at HRt HRr
      generalize validM ls = vm at HVa HVr
      have hvR : (bytesV RT).length = 16 := by rw [bytesV_length]; exact hrd.1
      have hsz : (Tryd.prog.info? 29).map (fun x => x.size) = some (bytesV RT).length := by rw [hvR]; kernel_rfl
      clear hLs
      go_upto_region 6 with (first
        | (go_at_call 12; refine (HOw.out _ hB).mono ?_; rintro e W4 ⟨q4, c4, rfl, hc4, hq4, hL4, hB4⟩)
        | (go_at_call 11; refine (HRt.out _ q4 c4 (G3.keep (link hB hB4)) hc4 hL4).mono ?_; rintro e W5 ⟨rfl, hB5⟩)
        | (refine store_blk rfl 29 (.tmp 9) (.tmp 33) rfl (blk_new W5 29 (bytesV z16).toArray) rfl rfl (m := 16) (by kernel_rfl) hvR hz16 (bytesV_cells RT) ?_; intro w5 K5 O5))
      have B5 : Below W3.heap.size W3 w5 := link hB (link (link hB4 hB5) (O5.2.2 _ _ (Nat.le_refl _) ((Below.refl _ _).alloc (Nat.le_refl _) _)))
      generalize W5.heap.size = ta at K5 ⊢
      clear hB4 hB5 O5 hL4 hc4 hq4 hc hB
      have hc5 := (B5.cell (p := ⟨tb, k, none⟩) htb).trans hcell
      go_upto_region 7 with (first
        | (go_at_call 13; refine (HRr.out _ B5).mono ?_; rintro e W6 ⟨rfl, hB6⟩)
        | (refine store_blk rfl 29 (.tmp 11) (.tmp 41) rfl (blk_new W6 29 (bytesV z16).toArray) rfl rfl (m := 16) (by kernel_rfl) hvR hz16 (bytesV_cells RT) ?_; intro w6 K6 O6))
      have X6 : Below w5.heap.size w5 w6 := link hB6 (O6.2.2 _ _ (Nat.le_refl _) ((Below.refl _ _).alloc (Nat.le_refl _) _))
      have B6 := link B5 X6
      replace K5 := K5.keep X6
      generalize W6.heap.size = tc at K6 ⊢
      clear hB6 O6 X6 B5 hc5 HRt HRr
      refine wp_region_held_drew (S := fun w' => Below w6.heap.size w6 w') (by kernel_rfl) (below_drew (Below.refl _ _)) (fun _ => ?_)
      have hHeld : Below w6.heap.size w6 w6.drew := below_drew (Below.refl _ _)
      have CT : ∀ w', Below w6.heap.size w6 w' → w'.cell? ⟨tb, k, none⟩ = some (.slice q n0 c0) := fun w' h => ((link B6 h).cell (p := ⟨tb, k, none⟩) htb).trans hcell
      generalize w6.drew = V0 at hHeld ⊢
      refine wpAnyH_take (i := 0) (oi := ⟨some 43, .move (.tmp 7), 27, "law.go:98", #[], none⟩) (v := .slice (some ⟨tb, 0, none⟩) 3 3) rfl (by kernel_rfl) (by kernel_rfl) (by kernel_rfl) (fun _ _ _ h => h) (Or.inl ⟨by rfl, fun w' hSw => by go_simp⟩) hHeld ?_
      try simp only [Act.put, List.setIfInBounds_toArray, List.set_cons_zero, List.set_cons_succ]
      refine wpAnyH_take (i := 1) (oi := ⟨some 44, .move (.tmp 8), 3, "law.go:98", #[], none⟩) (v := .int .i64 (k : Int)) rfl (by kernel_rfl) (by kernel_rfl) (by kernel_rfl) (fun _ _ _ h => h) (Or.inl ⟨by rfl, fun w' hSw => by go_simp⟩) hHeld ?_
      try simp only [Act.put, List.setIfInBounds_toArray, List.set_cons_zero, List.set_cons_succ]
      refine wpAnyH_take (i := 2) (oi := ⟨some 45, .indexAddr 27 (.tmp 43) (.tmp 44), 0, "law.go:98", #[⟨0, .data⟩, ⟨1, .data⟩], none⟩) (v := .pointer (some ⟨tb, k, none⟩)) rfl (by kernel_rfl) (by kernel_rfl) (by kernel_rfl) (fun _ _ _ h => h) (Or.inl ⟨by rfl, fun w' hSw => by go_simp; try (intro hcm; exact absurd hcm (by omega))⟩) hHeld ?_
      try simp only [Act.put, List.setIfInBounds_toArray, List.set_cons_zero, List.set_cons_succ]
      refine wpAnyH_take (i := 3) (oi := ⟨some 46, .load 24 (.tmp 45), 24, "law.go:98", #[⟨2, .data⟩], none⟩) (v := .slice q n0 c0) rfl (by kernel_rfl) (by kernel_rfl) (by kernel_rfl) (fun _ _ _ h => h) (Or.inl ⟨by rfl, fun w' hSw => by have hc := CT w' hSw; go_simp⟩) hHeld ?_
      try simp only [Act.put, List.setIfInBounds_toArray, List.set_cons_zero, List.set_cons_succ]
      refine wpAnyH_take (i := 6) (oi := ⟨some 49, .move (.tmp 7), 27, "law.go:98", #[], none⟩) (v := .slice (some ⟨tb, 0, none⟩) 3 3) rfl (by kernel_rfl) (by kernel_rfl) (by kernel_rfl) (fun _ _ _ h => h) (Or.inl ⟨by rfl, fun w' hSw => by go_simp⟩) hHeld ?_
      try simp only [Act.put, List.setIfInBounds_toArray, List.set_cons_zero, List.set_cons_succ]
      refine wpAnyH_take (i := 7) (oi := ⟨some 50, .move (.tmp 8), 3, "law.go:98", #[], none⟩) (v := .int .i64 (k : Int)) rfl (by kernel_rfl) (by kernel_rfl) (by kernel_rfl) (fun _ _ _ h => h) (Or.inl ⟨by rfl, fun w' hSw => by go_simp⟩) hHeld ?_
      try simp only [Act.put, List.setIfInBounds_toArray, List.set_cons_zero, List.set_cons_succ]
      refine wpAnyH_take (i := 8) (oi := ⟨some 51, .indexAddr 27 (.tmp 49) (.tmp 50), 0, "law.go:98", #[⟨6, .data⟩, ⟨7, .data⟩], none⟩) (v := .pointer (some ⟨tb, k, none⟩)) rfl (by kernel_rfl) (by kernel_rfl) (by kernel_rfl) (fun _ _ _ h => h) (Or.inl ⟨by rfl, fun w' hSw => by go_simp; try (intro hcm; exact absurd hcm (by omega))⟩) hHeld ?_
      try simp only [Act.put, List.setIfInBounds_toArray, List.set_cons_zero, List.set_cons_succ]
      refine wpAnyH_take (i := 9) (oi := ⟨some 52, .load 24 (.tmp 51), 24, "law.go:98", #[⟨8, .data⟩], none⟩) (v := .slice q n0 c0) rfl (by kernel_rfl) (by kernel_rfl) (by kernel_rfl) (fun _ _ _ h => h) (Or.inl ⟨by rfl, fun w' hSw => by have hc := CT w' hSw; go_simp⟩) hHeld ?_
      try simp only [Act.put, List.setIfInBounds_toArray, List.set_cons_zero, List.set_cons_succ]
      refine wpAnyH_ready (rs := [4]) (by kernel_rfl) (by simp) ?_
      refine AllReadyH.cons (o := ⟨some 47, .call { callee := .value (.func 12), args := #[.tmp 46], argTypes := #[24] }, 33, "law.go:98", #[⟨3, .data⟩], none⟩) rfl (fun K hK => ?_) AllReadyH.nil
      rw [if_pos (by rfl)]
      go_simp
      refine (HOw.out V0 (link B6 hHeld)).mono ?_
      rintro e V2 ⟨q2, c2, rfl, hc2, hq2, hL2, hB2⟩
      dsimp only
      refine hK.out _ _ (link hHeld hB2) (fun hHeld => ?_)
      clear hK K
      try simp only [Act.put, List.setIfInBounds_toArray, List.set_cons_zero, List.set_cons_succ]
      refine wpAnyH_ready (rs := [5]) (by kernel_rfl) (by simp) ?_
      refine AllReadyH.cons (o := ⟨some 48, .call { callee := .value (.func 14), args := #[.tmp 47], argTypes := #[33] }, 30, "law.go:98", #[⟨4, .data⟩, ⟨4, .chain⟩], none⟩) rfl (fun K hK => ?_) AllReadyH.nil
      rw [if_pos (by rfl)]
      go_simp
      refine (HVa.out V2 q2 c2 hL2).mono ?_
      rintro e V3 ⟨rfl, hB3⟩
      dsimp only
      refine hK.out _ _ (link hHeld hB3) (fun hHeld => ?_)
      clear hK K
      try simp only [Act.put, List.setIfInBounds_toArray, List.set_cons_zero, List.set_cons_succ]
      refine wpAnyH_ready (rs := [10]) (by kernel_rfl) (by simp) ?_
      refine AllReadyH.cons (o := ⟨some 53, .call { callee := .value (.func 15), args := #[.tmp 52], argTypes := #[24] }, 30, "law.go:98", #[⟨9, .data⟩, ⟨5, .chain⟩], none⟩) rfl (fun K hK => ?_) AllReadyH.nil
      rw [if_pos (by rfl)]
      go_simp
      refine (HVr.out V3 (link B6 hHeld)).mono ?_
      rintro e V4 ⟨rfl, hB4⟩
      dsimp only
      refine hK.out _ _ (link hHeld hB4) (fun hHeld => ?_)
      clear hK K
      try simp only [Act.put, List.setIfInBounds_toArray, List.set_cons_zero, List.set_cons_succ]
      refine wpAnyH_take (i := 11) (oi := ⟨some 54, .binOp .neq 30 (.tmp 48) (.tmp 53) 30, 4, "law.go:98", #[⟨5, .data⟩, ⟨10, .data⟩], none⟩) (v := .bool false) rfl (by kernel_rfl) (by kernel_rfl) (by kernel_rfl) (fun _ _ _ h => h) (Or.inl ⟨by rfl, fun w' hSw => by go_simp⟩) hHeld ?_
      try simp only [Act.put, List.setIfInBounds_toArray, List.set_cons_zero, List.set_cons_succ]
      refine wpAnyH_take (i := 12) (oi := ⟨some 55, .move (.tmp 54), 4, "law.go:98", #[⟨11, .data⟩, ⟨10, .chain⟩], none⟩) (v := .bool false) rfl (by kernel_rfl) (by kernel_rfl) (by kernel_rfl) (fun _ _ _ h => h) (Or.inl ⟨by rfl, fun w' hSw => by go_simp⟩) hHeld ?_
      try simp only [Act.put, List.setIfInBounds_toArray, List.set_cons_zero, List.set_cons_succ]
      refine wpAnyH_take (i := 13) (oi := ⟨some 56, .move (.tmp 10), 30, "law.go:98", #[⟨12, .guard⟩], some (12, false)⟩) (v := .int .i64 E1) rfl (by kernel_rfl) (by kernel_rfl) (by kernel_rfl) (fun _ _ _ h => h) (Or.inl ⟨by rfl, fun w' hSw => by go_simp⟩) hHeld ?_
      try simp only [Act.put, List.setIfInBounds_toArray, List.set_cons_zero, List.set_cons_succ]
      refine wpAnyH_take (i := 14) (oi := ⟨some 57, .move (.tmp 12), 30, "law.go:98", #[⟨12, .guard⟩], some (12, false)⟩) (v := .int .i64 E1) rfl (by kernel_rfl) (by kernel_rfl) (by kernel_rfl) (fun _ _ _ h => h) (Or.inl ⟨by rfl, fun w' hSw => by go_simp⟩) hHeld ?_
      try simp only [Act.put, List.setIfInBounds_toArray, List.set_cons_zero, List.set_cons_succ]
      refine wpAnyH_take (i := 15) (oi := ⟨some 58, .binOp .neq 30 (.tmp 56) (.tmp 57) 30, 4, "law.go:98", #[⟨13, .data⟩, ⟨14, .data⟩, ⟨12, .guard⟩], some (12, false)⟩) (v := .bool false) rfl (by kernel_rfl) (by kernel_rfl) (by kernel_rfl) (fun _ _ _ h => h) (Or.inl ⟨by rfl, fun w' hSw => by go_simp⟩) hHeld ?_
      try simp only [Act.put, List.setIfInBounds_toArray, List.set_cons_zero, List.set_cons_succ]
      refine wpAnyH_take (i := 16) (oi := ⟨some 59, .pick (.tmp 55) (.const (Value.bool true)) (.tmp 58), 4, "law.go:98", #[⟨12, .data⟩, ⟨15, .data⟩], none⟩) (v := .bool false) rfl (by kernel_rfl) (by kernel_rfl) (by kernel_rfl) (fun _ _ _ h => h) (Or.inl ⟨by rfl, fun w' hSw => by go_simp⟩) hHeld ?_
      try simp only [Act.put, List.setIfInBounds_toArray, List.set_cons_zero, List.set_cons_succ]
      refine wpAnyH_take (i := 17) (oi := ⟨some 60, .move (.tmp 59), 4, "law.go:98", #[⟨16, .data⟩, ⟨12, .chain⟩], none⟩) (v := .bool false) rfl (by kernel_rfl) (by kernel_rfl) (by kernel_rfl) (fun _ _ _ h => h) (Or.inl ⟨by rfl, fun w' hSw => by go_simp⟩) hHeld ?_
      try simp only [Act.put, List.setIfInBounds_toArray, List.set_cons_zero, List.set_cons_succ]
      refine wpAnyH_take (i := 18) (oi := ⟨some 61, .load 29 (.tmp 9), 29, "law.go:98", #[⟨17, .guard⟩], some (17, false)⟩) (v := _) rfl (by kernel_rfl) (by kernel_rfl) (by kernel_rfl) (fun _ _ _ h => h) (yieldsIf_load_mid (by rfl) _ _ rfl _ 0 rfl _ _ (fun w' hSw => rng_blk (K5) w' hSw) Tryd.underlying29 rfl hsz) hHeld ?_
      try simp only [Act.put, List.setIfInBounds_toArray, List.set_cons_zero, List.set_cons_succ]
      refine wpAnyH_take (i := 19) (oi := ⟨some 62, .load 29 (.tmp 11), 29, "law.go:98", #[⟨17, .guard⟩], some (17, false)⟩) (v := _) rfl (by kernel_rfl) (by kernel_rfl) (by kernel_rfl) (fun _ _ _ h => h) (yieldsIf_load_mid (by rfl) _ _ rfl _ 0 rfl _ _ (fun w' hSw => rng_blk (K6) w' hSw) Tryd.underlying29 rfl hsz) hHeld ?_
      try simp only [Act.put, List.setIfInBounds_toArray, List.set_cons_zero, List.set_cons_succ]
      refine wpAnyH_take (i := 20) (oi := ⟨some 63, .binOp .neq 29 (.tmp 61) (.tmp 62) 29, 4, "law.go:98", #[⟨18, .data⟩, ⟨19, .data⟩, ⟨17, .guard⟩], some (17, false)⟩) (v := .bool false) rfl (by kernel_rfl) (by kernel_rfl) (by kernel_rfl) (fun _ _ _ h => h) (Or.inl ⟨by rfl, fun w' hSw => by have kd := equal_self16 RT hrd w'; go_simp⟩) hHeld ?_
      try simp only [Act.put, List.setIfInBounds_toArray, List.set_cons_zero, List.set_cons_succ]
      refine wpAnyH_take (i := 21) (oi := ⟨some 64, .pick (.tmp 60) (.const (Value.bool true)) (.tmp 63), 4, "law.go:98", #[⟨17, .data⟩, ⟨20, .data⟩], none⟩) (v := .bool false) rfl (by kernel_rfl) (by kernel_rfl) (by kernel_rfl) (fun _ _ _ h => h) (Or.inl ⟨by rfl, fun w' hSw => by go_simp⟩) hHeld ?_
      try simp only [Act.put, List.setIfInBounds_toArray, List.set_cons_zero, List.set_cons_succ]
      refine wpAnyH_done (by kernel_rfl) ?_ _
      have CB := link B6 hHeld
      clear hHeld
      go_wp2
      go_roundw
      case rel => exact ⟨k + 1, by omega, by go_num, CB⟩
      case measure => simp [intOf]; omega
    · clear hzd
      go_upto_region 10 with (go_at_call 16; refine (HAr.out _).mono ?_; rintro e w1 ⟨r, hr, rfl, hw1⟩; rw [hw1])
      obtain ⟨m, hm⟩ : ∃ m, 4090 + r = m := ⟨_, rfl⟩
      have hmi : (4090 : Int) + (r : Int) = (m : Int) := by omega
      have hm5 : m ≤ 100000 := by omega
      rw [hmi]
      clear hm hmi hw1 w1 hr
      obtain ⟨w9, rfl⟩ : ∃ v : World, v = wr := ⟨_, rfl⟩
      have HVm := Lib.hid (fun (V : World) (b : Nat) (hL : Lvs V b 0 (List.replicate m zlf)) => valid_any (List.replicate m zlf) (some ⟨b, 0, none⟩) m m (by simp) V (fun _ => ⟨b, 0, rfl, hL⟩))
      have HVn := Lib.hid (fun (V : World) (b : Nat) (hL : Lvs V b 0 (List.replicate m zlf)) => rvalid_any (List.replicate m zlf) (some ⟨b, 0, none⟩) m m (by simp) V (fun _ => ⟨b, 0, rfl, hL⟩))
      generalize validM (List.replicate m zlf) = vm at HVm HVn
      go_cut [74] from 65 (fun s74 wx => s74 = .bool false ∧ Below w9.heap.size w9 wx)
      case first =>
        refine wp_region_held_drew (S := fun w' => Below w9.heap.size w9 w') (by kernel_rfl) (below_drew (Below.refl _ _)) (fun _ => ?_)
        have hHeld : Below w9.heap.size w9 w9.drew := below_drew (Below.refl _ _)
        generalize w9.drew = V0 at hHeld ⊢
        refine wpAnyH_take (i := 0) (oi := ⟨some 68, .move (.tmp 13), 3, "law.go:103", #[], none⟩) (v := .int .i64 (m : Int)) rfl (by kernel_rfl) (by kernel_rfl) (by kernel_rfl) (fun _ _ _ h => h) (Or.inl ⟨by rfl, fun w' hSw => by go_simp⟩) hHeld ?_
        try simp only [Act.put, List.setIfInBounds_toArray, List.set_cons_zero, List.set_cons_succ]
        refine wpAnyH_take (i := 3) (oi := ⟨some 71, .move (.tmp 13), 3, "law.go:103", #[], none⟩) (v := .int .i64 (m : Int)) rfl (by kernel_rfl) (by kernel_rfl) (by kernel_rfl) (fun _ _ _ h => h) (Or.inl ⟨by rfl, fun w' hSw => by go_simp⟩) hHeld ?_
        try simp only [Act.put, List.setIfInBounds_toArray, List.set_cons_zero, List.set_cons_succ]
        refine wpAnyH_ready (rs := [1, 4]) (by kernel_rfl) (by simp) ?_
        refine AllReadyH.cons (o := ⟨some 69, .makeSlice 33 (.tmp 68) (.tmp 68), 33, "law.go:103", #[⟨0, .data⟩, ⟨0, .data⟩], none⟩) rfl (fun K hK => ?_) (AllReadyH.cons (o := ⟨some 72, .makeSlice 24 (.tmp 71) (.tmp 71), 24, "law.go:103", #[⟨3, .data⟩, ⟨3, .data⟩], none⟩) rfl (fun K hK => ?_) AllReadyH.nil)
        · rw [if_pos (by rfl)]
          have km := mk_ml m hm5 V0
          go_simp
          clear km
          have La : Lvs (World.alloc V0 (.cells (zcells m) 41)) V0.heap.size 0 (List.replicate m zlf) := lvs_made V0 41 m
          have X : Below V0.heap.size V0 (World.alloc V0 (.cells (zcells m) 41)) := (Below.refl _ _).alloc (Nat.le_refl _) _
          refine hK.out _ _ (link hHeld X) (fun hHeld => ?_)
          clear hK K
          try simp only [Act.put, List.setIfInBounds_toArray, List.set_cons_zero, List.set_cons_succ]
          clear X
          generalize World.alloc V0 _ = V2 at La hHeld ⊢
          generalize V0.heap.size = tLa at La ⊢
          refine wpAnyH_ready (rs := [2, 4]) (by kernel_rfl) (by simp) ?_
          refine AllReadyH.cons (o := ⟨some 70, .call { callee := .value (.func 14), args := #[.tmp 69], argTypes := #[33] }, 30, "law.go:103", #[⟨1, .data⟩], none⟩) rfl (fun K hK => ?_) (AllReadyH.cons (o := ⟨some 72, .makeSlice 24 (.tmp 71) (.tmp 71), 24, "law.go:103", #[⟨3, .data⟩, ⟨3, .data⟩], none⟩) rfl (fun K hK => ?_) AllReadyH.nil)
          · rw [if_pos (by rfl)]
            go_simp
            refine (HVm.out V2 tLa La).mono ?_
            rintro e V3 ⟨rfl, hB⟩
            dsimp only
            replace La := La.keep hB
            refine hK.out _ _ (link hHeld hB) (fun hHeld => ?_)
            clear hK K
            try simp only [Act.put, List.setIfInBounds_toArray, List.set_cons_zero, List.set_cons_succ]
            clear hB
            refine wpAnyH_ready (rs := [4]) (by kernel_rfl) (by simp) ?_
            refine AllReadyH.cons (o := ⟨some 72, .makeSlice 24 (.tmp 71) (.tmp 71), 24, "law.go:103", #[⟨3, .data⟩, ⟨3, .data⟩], none⟩) rfl (fun K hK => ?_) AllReadyH.nil
            rw [if_pos (by rfl)]
            have km := mk_rl m hm5 V3
            go_simp
            clear km
            have Lb : Lvs (World.alloc V3 (.cells (zcells m) 75)) V3.heap.size 0 (List.replicate m zlf) := lvs_made V3 75 m
            have X : Below V3.heap.size V3 (World.alloc V3 (.cells (zcells m) 75)) := (Below.refl _ _).alloc (Nat.le_refl _) _
            replace La := La.keep X
            refine hK.out _ _ (link hHeld X) (fun hHeld => ?_)
            clear hK K
            try simp only [Act.put, List.setIfInBounds_toArray, List.set_cons_zero, List.set_cons_succ]
            clear X
            generalize World.alloc V3 _ = V4 at La Lb hHeld ⊢
            generalize V3.heap.size = tLb at Lb ⊢
            refine wpAnyH_ready (rs := [5]) (by kernel_rfl) (by simp) ?_
            refine AllReadyH.cons (o := ⟨some 73, .call { callee := .value (.func 15), args := #[.tmp 72], argTypes := #[24] }, 30, "law.go:103", #[⟨4, .data⟩, ⟨2, .chain⟩], none⟩) rfl (fun K hK => ?_) AllReadyH.nil
            rw [if_pos (by rfl)]
            go_simp
            refine (HVn.out V4 tLb Lb).mono ?_
            rintro e V5 ⟨rfl, hB⟩
            dsimp only
            replace La := La.keep hB
            replace Lb := Lb.keep hB
            refine hK.out _ _ (link hHeld hB) (fun hHeld => ?_)
            clear hK K
            try simp only [Act.put, List.setIfInBounds_toArray, List.set_cons_zero, List.set_cons_succ]
            clear hB
            refine wpAnyH_take (i := 6) (oi := ⟨some 74, .binOp .neq 30 (.tmp 70) (.tmp 73) 30, 4, "law.go:103", #[⟨2, .data⟩, ⟨5, .data⟩], none⟩) (v := .bool false) rfl (by kernel_rfl) (by kernel_rfl) (by kernel_rfl) (fun _ _ _ h => h) (Or.inl ⟨by rfl, fun w' hSw => by go_simp⟩) hHeld ?_
            try simp only [Act.put, List.setIfInBounds_toArray, List.set_cons_zero, List.set_cons_succ]
            have H := hHeld
            refine wpAnyH_done (by kernel_rfl) ?_ _
            clear hHeld
            go_wp2_with fail
            go_meet
            exact ⟨rfl, H⟩
          · rw [if_pos (by rfl)]
            have km := mk_rl m hm5 V2
            go_simp
            clear km
            have Lb : Lvs (World.alloc V2 (.cells (zcells m) 75)) V2.heap.size 0 (List.replicate m zlf) := lvs_made V2 75 m
            have X : Below V2.heap.size V2 (World.alloc V2 (.cells (zcells m) 75)) := (Below.refl _ _).alloc (Nat.le_refl _) _
            replace La := La.keep X
            refine hK.out _ _ (link hHeld X) (fun hHeld => ?_)
            clear hK K
            try simp only [Act.put, List.setIfInBounds_toArray, List.set_cons_zero, List.set_cons_succ]
            clear X
            generalize World.alloc V2 _ = V3 at La Lb hHeld ⊢
            generalize V2.heap.size = tLb at Lb ⊢
            refine wpAnyH_ready (rs := [2]) (by kernel_rfl) (by simp) ?_
            refine AllReadyH.cons (o := ⟨some 70, .call { callee := .value (.func 14), args := #[.tmp 69], argTypes := #[33] }, 30, "law.go:103", #[⟨1, .data⟩], none⟩) rfl (fun K hK => ?_) AllReadyH.nil
            rw [if_pos (by rfl)]
            go_simp
            refine (HVm.out V3 tLa La).mono ?_
            rintro e V4 ⟨rfl, hB⟩
            dsimp only
            replace La := La.keep hB
            replace Lb := Lb.keep hB
            refine hK.out _ _ (link hHeld hB) (fun hHeld => ?_)
            clear hK K
            try simp only [Act.put, List.setIfInBounds_toArray, List.set_cons_zero, List.set_cons_succ]
            clear hB
            refine wpAnyH_ready (rs := [5]) (by kernel_rfl) (by simp) ?_
            refine AllReadyH.cons (o := ⟨some 73, .call { callee := .value (.func 15), args := #[.tmp 72], argTypes := #[24] }, 30, "law.go:103", #[⟨4, .data⟩, ⟨2, .chain⟩], none⟩) rfl (fun K hK => ?_) AllReadyH.nil
            rw [if_pos (by rfl)]
            go_simp
            refine (HVn.out V4 tLb Lb).mono ?_
            rintro e V5 ⟨rfl, hB⟩
            dsimp only
            replace La := La.keep hB
            replace Lb := Lb.keep hB
            refine hK.out _ _ (link hHeld hB) (fun hHeld => ?_)
            clear hK K
            try simp only [Act.put, List.setIfInBounds_toArray, List.set_cons_zero, List.set_cons_succ]
            clear hB
            refine wpAnyH_take (i := 6) (oi := ⟨some 74, .binOp .neq 30 (.tmp 70) (.tmp 73) 30, 4, "law.go:103", #[⟨2, .data⟩, ⟨5, .data⟩], none⟩) (v := .bool false) rfl (by kernel_rfl) (by kernel_rfl) (by kernel_rfl) (fun _ _ _ h => h) (Or.inl ⟨by rfl, fun w' hSw => by go_simp⟩) hHeld ?_
            try simp only [Act.put, List.setIfInBounds_toArray, List.set_cons_zero, List.set_cons_succ]
            have H := hHeld
            refine wpAnyH_done (by kernel_rfl) ?_ _
            clear hHeld
            go_wp2_with fail
            go_meet
            exact ⟨rfl, H⟩
        · rw [if_pos (by rfl)]
          have km := mk_rl m hm5 V0
          go_simp
          clear km
          have Lb : Lvs (World.alloc V0 (.cells (zcells m) 75)) V0.heap.size 0 (List.replicate m zlf) := lvs_made V0 75 m
          have X : Below V0.heap.size V0 (World.alloc V0 (.cells (zcells m) 75)) := (Below.refl _ _).alloc (Nat.le_refl _) _
          refine hK.out _ _ (link hHeld X) (fun hHeld => ?_)
          clear hK K
          try simp only [Act.put, List.setIfInBounds_toArray, List.set_cons_zero, List.set_cons_succ]
          clear X
          generalize World.alloc V0 _ = V2 at Lb hHeld ⊢
          generalize V0.heap.size = tLb at Lb ⊢
          refine wpAnyH_ready (rs := [1]) (by kernel_rfl) (by simp) ?_
          refine AllReadyH.cons (o := ⟨some 69, .makeSlice 33 (.tmp 68) (.tmp 68), 33, "law.go:103", #[⟨0, .data⟩, ⟨0, .data⟩], none⟩) rfl (fun K hK => ?_) AllReadyH.nil
          rw [if_pos (by rfl)]
          have km := mk_ml m hm5 V2
          go_simp
          clear km
          have La : Lvs (World.alloc V2 (.cells (zcells m) 41)) V2.heap.size 0 (List.replicate m zlf) := lvs_made V2 41 m
          have X : Below V2.heap.size V2 (World.alloc V2 (.cells (zcells m) 41)) := (Below.refl _ _).alloc (Nat.le_refl _) _
          replace Lb := Lb.keep X
          refine hK.out _ _ (link hHeld X) (fun hHeld => ?_)
          clear hK K
          try simp only [Act.put, List.setIfInBounds_toArray, List.set_cons_zero, List.set_cons_succ]
          clear X
          generalize World.alloc V2 _ = V3 at La Lb hHeld ⊢
          generalize V2.heap.size = tLa at La ⊢
          refine wpAnyH_ready (rs := [2]) (by kernel_rfl) (by simp) ?_
          refine AllReadyH.cons (o := ⟨some 70, .call { callee := .value (.func 14), args := #[.tmp 69], argTypes := #[33] }, 30, "law.go:103", #[⟨1, .data⟩], none⟩) rfl (fun K hK => ?_) AllReadyH.nil
          rw [if_pos (by rfl)]
          go_simp
          refine (HVm.out V3 tLa La).mono ?_
          rintro e V4 ⟨rfl, hB⟩
          dsimp only
          replace La := La.keep hB
          replace Lb := Lb.keep hB
          refine hK.out _ _ (link hHeld hB) (fun hHeld => ?_)
          clear hK K
          try simp only [Act.put, List.setIfInBounds_toArray, List.set_cons_zero, List.set_cons_succ]
          clear hB
          refine wpAnyH_ready (rs := [5]) (by kernel_rfl) (by simp) ?_
          refine AllReadyH.cons (o := ⟨some 73, .call { callee := .value (.func 15), args := #[.tmp 72], argTypes := #[24] }, 30, "law.go:103", #[⟨4, .data⟩, ⟨2, .chain⟩], none⟩) rfl (fun K hK => ?_) AllReadyH.nil
          rw [if_pos (by rfl)]
          go_simp
          refine (HVn.out V4 tLb Lb).mono ?_
          rintro e V5 ⟨rfl, hB⟩
          dsimp only
          replace La := La.keep hB
          replace Lb := Lb.keep hB
          refine hK.out _ _ (link hHeld hB) (fun hHeld => ?_)
          clear hK K
          try simp only [Act.put, List.setIfInBounds_toArray, List.set_cons_zero, List.set_cons_succ]
          clear hB
          refine wpAnyH_take (i := 6) (oi := ⟨some 74, .binOp .neq 30 (.tmp 70) (.tmp 73) 30, 4, "law.go:103", #[⟨2, .data⟩, ⟨5, .data⟩], none⟩) (v := .bool false) rfl (by kernel_rfl) (by kernel_rfl) (by kernel_rfl) (fun _ _ _ h => h) (Or.inl ⟨by rfl, fun w' hSw => by go_simp⟩) hHeld ?_
          try simp only [Act.put, List.setIfInBounds_toArray, List.set_cons_zero, List.set_cons_succ]
          have H := hHeld
          refine wpAnyH_done (by kernel_rfl) ?_ _
          clear hHeld
          go_wp2_with fail
          go_meet
          exact ⟨rfl, H⟩
      case rest =>
        obtain ⟨rfl, C9⟩ := hcut
        have B9 := link hB C9
        clear hB C9 HVm HVn
        obtain ⟨w10, rfl⟩ : ∃ v : World, v = wc := ⟨_, rfl⟩
        go_upto_region 13 with (go_at_call 16; refine (HAr.out _).mono ?_; rintro e w1 ⟨r2, hr2, rfl, hw1⟩; obtain ⟨m2, hm2⟩ : ∃ m, 65530 + r2 = m := ⟨_, rfl⟩; have hmi : (65530 : Int) + (r2 : Int) = (m2 : Int) := by omega; have hmk := mk_by m2 (by omega); have hcv := conv_zero m2; rw [hw1])
        refine (HAr.out _).mono ?_
        rintro e w1 ⟨r2, hr2, rfl, hw1⟩
        obtain ⟨m2, hm2⟩ : ∃ m, 65530 + r2 = m := ⟨_, rfl⟩
        have hmi : (65530 : Int) + (r2 : Int) = (m2 : Int) := by omega
        have hmk := mk_by m2 (by omega)
        have hcv := conv_zero m2
        rw [hw1]
        dsimp only
        go_upto_region 13 with (fail)
        have hsz1 : (w10.alloc (.cells (bytesV (List.replicate m2 0)).toArray 5)).heap.size = w10.heap.size + 1 := by simp
        have Lw := lvs_wide (w10.alloc (.cells (bytesV (List.replicate m2 0)).toArray 5)) 41 (strOf (List.replicate m2 0))
        have X := ((Below.refl w10.heap.size w10).alloc (Nat.le_refl _) (.cells (bytesV (List.replicate m2 0)).toArray 5)).alloc (by simp) (.cells #[.string ⟨#[97]⟩, .string (strOf (List.replicate m2 0)), .string ⟨#[98]⟩, .string ⟨#[]⟩] 41)
        rw [hsz1] at Lw
        generalize strOf (List.replicate m2 0) = S at Lw X ⊢
        generalize World.alloc (World.alloc w10 _) _ = w11 at Lw X ⊢
        generalize w10.heap.size + 1 = b1 at Lw ⊢
        have B11 := link B9 X
        have G11 := G3.keep B11
        clear hmk hcv hsz1 X hm2 hmi hr2
        have HVw := Lib.hid (fun (V : World) (hB : Below w11.heap.size w11 V) => valid_any (wideL S) (some ⟨b1, 0, none⟩) 2 2 rfl V (fun _ => ⟨b1, 0, rfl, Lw.keep hB⟩))
        have HPw := Lib.hid (fun (V : World) (hB : Below w11.heap.size w11 V) => plain_at (wideL S) (some ⟨b1, 0, none⟩) 2 2 rfl (by omega) V (fun _ => ⟨b1, 0, rfl, Lw.keep hB⟩))
        have HRv := Lib.hid (fun (V : World) (q : Option Addr) (cc : Nat) (hL : OwnL V q (wideL S)) => rvalid_any (wideL S) q 2 cc rfl V hL)
        generalize validM (wideL S) = vm at HVw HRv
        clear Lw
        go_wp2_with (first
          | (go_at_call 14; refine (HVw.out _ (Below.refl _ _)).mono ?_; rintro e V1 ⟨rfl, X1⟩)
          | (go_at_call 17; refine (HPw.out _ X1).mono ?_; rintro e V2 ⟨q5, c5, rfl, L5, X2⟩)
          | (go_at_call 15; refine (HRv.out _ q5 c5 L5).mono ?_; rintro e V3 ⟨rfl, X3⟩)
          | (go_at_call 18; refine (HLv.out _ (G11.keep (link (link X1 X2) X3))).mono ?_; rintro e V4 ⟨rfl, X4⟩))
        go_ret
        exact ⟨rfl, link B3 (link B11 (link (link (link X1 X2) X3) X4))⟩


end Go.Proofs.YtfhfmdnimebegaaDoor
