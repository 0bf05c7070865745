/-
  MerkleProves, for all arguments.
  Conditions: the tables of the packages hash and passimref02 lie as the program lays them when the call begins (the card ties them to the text); no other.
-/
import Derived.Test.YtfhfmdnimebegaaDoorEa
import Derived.Deep.CutRange

namespace Go.Proofs.YtfhfmdnimebegaaDoor
open Go.RowKit
set_option linter.unusedVariables false
set_option linter.unusedSimpArgs false

set_option maxHeartbeats 16000000 in
set_option maxRecDepth 100000 in
theorem proves_law (hLv : ∀ V, Glob V → Calls Tryd.prog 18 #[] V (Told V true)) (A : Option Addr) (l : List Int) (n c : Nat) (hl : l.length = n) (RA : Option Addr) (raw : List Lf) (rn rc : Nat) (hrl : raw.length = rn) (hrn : rn ≤ 9223372036854775807) (x y : Int) (hx1 : -9223372036854775808 ≤ x) (hx2 : x ≤ 9223372036854775807) (hy1 : -9223372036854775808 ≤ y) (hy2 : y ≤ 9223372036854775807) (nm : ByteArray) (w : World) (hG : Glob w) (hGR : GlobR w) (hA : IntsAt w A l) (hR : OwnL w RA raw) :
    Calls Tryd.prog 4 #[.slice A n c, .slice RA rn rc, .int .i64 x, .int .i64 y, .string nm] w (Told w true) := by
  have HLv := Lib.hid (fun (V : World) (g : Glob V) => hLv V g)
  have HLe := Lib.hid (leaves_any2 A l n c hl w hA)
  have HRw := Lib.hid (fun (V : World) (hB : Below w.heap.size w V) => raw_any raw RA rn rc hrl hrn V (hR.keep hB))
  have HSh := Lib.hid (fun (V : World) => shortS_any nm 30 (by omega) V)
  generalize hnm : shortM nm 30 = s3 at HSh
  clear hnm hl hA hLv hrl hR hrn
  go_enter Tryd.func4, Tryd.ntmps4
  go_upto_region 2 with (first
    | (go_at_call 9; refine HLe.out.mono ?_; rintro e W1 ⟨v1, ls1, rfl, hO1, hv, hl11, hB1, hz1⟩; obtain ⟨q1, n1, c1, rfl, T1⟩ := LstOk.of hO1 hl11 (small_of (valid_zero hv).2.1) hz1)
    | (go_at_call 10; refine (HRw.out W1 hB1).mono ?_; rintro e W2 ⟨v2, rfl, hO2, hz2, hB2⟩; obtain ⟨q2, n2, c2, rfl, T2⟩ := LstOk.of hO2 (by have := rawM_len raw; omega) (small_raw raw) (fun h => hz2 (raw_nil h))))
  generalize hw : World.alloc W2 _ = W3
  have KT : Blk W3 W2.heap.size 24 [.slice q1 n1 c1, .slice q2 n2 c2, .slice none 0 0] := hw ▸ blk_new W2 _ _
  have X3 : Below W2.heap.size W2 W3 := hw ▸ ((Below.refl _ _).alloc (Nat.le_refl _) _)
  clear hw
  have B3 : Below w.heap.size w W3 := link (link hB1 hB2) X3
  have TB : Hid (∀ k, k < 3 → ∃ q n c ls, W3.cell? ⟨W2.heap.size, k, none⟩ = some (.slice q n c) ∧ LstOk W3 q n c ls) := Lib.hid (by
    intro k hk
    match k, hk with
    | 0, _ => exact ⟨_, _, _, ls1, KT.cell (j := 0) rfl, T1.keep (link hB2 X3)⟩
    | 1, _ => exact ⟨_, _, _, rawM raw, KT.cell (j := 1) rfl, T2.keep X3⟩
    | 2, _ => exact ⟨_, _, _, [], KT.cell (j := 2) rfl, LstOk.nil _⟩)
  have htb := KT.lt
  have G3 := hG.keep B3
  have GR3 := hGR.keep B3
  generalize W2.heap.size = tb at TB htb ⊢
  clear KT X3 T1 T2 hB1 hB2 hO1 hO2 hz1 hz2 hv hl11 HLe HRw hG hGR
  go_wp2
  go_loopw [12] (fun v wr => ∃ k : Nat, k ≤ 3 ∧ v = .int .i64 k ∧ Below W3.heap.size W3 wr) (fun v _ => 3 - (intOf v).toNat)
  case atStart => exact ⟨0, by omega, rfl, Below.refl _ _⟩
  case round =>
    obtain ⟨k, hk, rfl, hB⟩ := hrel
    by_cases hlt : k < 3
    · obtain ⟨q, n0, c0, ls, hcell, hLs⟩ := TB.out k hlt
      have hk3 : (k : Int) < 3 := by omega
      have hc := (hB.cell (p := ⟨tb, k, none⟩) htb).trans hcell
      have HKx := Lib.hid (fun (V : World) (hB : Below W3.heap.size W3 V) => lkey_any ls q n0 c0 hLs.1 hLs.2.1 x hx1 hx2 V (hLs.2.2.2.2.2.keep hB) hLs.2.2.2.2.1)
      have HKy := Lib.hid (fun (V : World) (hB : Below W3.heap.size W3 V) => lkey_any ls q n0 c0 hLs.1 hLs.2.1 y hy1 hy2 V (hLs.2.2.2.2.2.keep hB) hLs.2.2.2.2.1)
      have HLs := Lib.hid hLs
      clear hLs
      obtain ⟨wo, rfl⟩ : ∃ wo : World, wo = wr := ⟨_, rfl⟩
      go_upto_region 6 with (go_at_call 19; refine (HKx.out _ hB).mono ?_; rintro e W5 ⟨s1, rfl, hB5⟩)
      have B5 := link hB hB5
      have hc5 := (B5.cell (p := ⟨tb, k, none⟩) htb).trans hcell
      clear hc hB5 hB
      go_upto_region 7 with (go_at_call 19; refine (HKy.out _ B5).mono ?_; rintro e W6 ⟨s2, rfl, hB6⟩)
      have B6 := link B5 hB6
      clear hc5 hB6 B5 HKx HKy
      go_upto_region 8 with (go_at_call 20; refine (HSh.out _).mono ?_; rintro e W7 ⟨rfl, hB7⟩)
      generalize hw : World.alloc W7 _ = W8
      have KK : Blk W8 W7.heap.size 9 [.string s1, .string s2, .string s3] := hw ▸ blk_new W7 _ _
      have X8 : Below W7.heap.size W7 W8 := hw ▸ ((Below.refl _ _).alloc (Nat.le_refl _) _)
      clear hw
      have B8 : Below W3.heap.size W3 W8 := link (link B6 hB7) X8
      have KS : Hid (∀ j, j < 3 → ∃ s, W8.cell? ⟨W7.heap.size, j, none⟩ = some (.string s)) := Lib.hid (by
        intro j hj
        match j, hj with
        | 0, _ => exact ⟨s1, KK.cell (j := 0) rfl⟩
        | 1, _ => exact ⟨s2, KK.cell (j := 1) rfl⟩
        | 2, _ => exact ⟨s3, KK.cell (j := 2) rfl⟩)
      have hkb8 := KK.lt
      have G8 := G3.keep B8
      have GR8 := GR3.keep B8
      have htb8 : tb < W8.heap.size := Nat.lt_of_lt_of_le htb B8.size
      have hct8 := (B8.cell (p := ⟨tb, k, none⟩) htb).trans hcell
      have hL8 := HLs.out.keep B8
      generalize W7.heap.size = kb at KS hkb8 ⊢
      clear KK X8 hB7 B6 hcell HLs
      have HOw := Lib.hid (fun (V : World) (hB : Below W8.heap.size W8 V) => own_at ls q n0 c0 hL8.1 hL8.2.1 V (hL8.2.2.2.2.2.keep hB))
      have HF := Lib.hid (fun (s : ByteArray) => few_prove ls (by rw [hL8.1]; exact hL8.2.1) s)
      have HFg := Lib.hid (fun (s : ByteArray) => few_range ls (by rw [hL8.1]; exact hL8.2.1) s1 s)
      have HPv0 := Lib.hid (fun (s : ByteArray) (V : World) (q : Option Addr) (cc : Nat) (g : Glob V) (hc : n0 ≤ cc) (hq : n0 = 0 → q = none ∧ cc = 0) (hL : OwnL V q ls) => prove_all ls q n0 cc hL8.1 hc hq s V g hL)
      have HPg0 := Lib.hid (fun (s : ByteArray) (V : World) (q : Option Addr) (cc : Nat) (g : Glob V) (hc : n0 ≤ cc) (hq : n0 = 0 → q = none ∧ cc = 0) (hL : OwnL V q ls) => range_all ls q n0 cc hL8.1 hc hq s1 s V g hL)
      have HRv0 := Lib.hid (fun (s : ByteArray) (V : World) (hB : Below W8.heap.size W8 V) => rprove_all ls q n0 c0 hL8.1 hL8.2.2.1 hL8.2.2.2.1 s V (GR8.keep hB) (hL8.2.2.2.2.2.keep hB))
      have HRg0 := Lib.hid (fun (s : ByteArray) (V : World) (hB : Below W8.heap.size W8 V) => rrange_all ls q n0 c0 hL8.1 hL8.2.2.1 hL8.2.2.2.1 s1 s V (GR8.keep hB) (hL8.2.2.2.2.2.keep hB))
      clear hL8
      go_wp2
      go_loopw [16] (fun v wx => ∃ j : Nat, j ≤ 3 ∧ v = .int .i64 j ∧ Below W8.heap.size W8 wx) (fun v _ => 3 - (intOf v).toNat)
      case atStart => exact ⟨0, by omega, rfl, Below.refl _ _⟩
      case round =>
        obtain ⟨j, hj, rfl, BW⟩ := hrel
        by_cases hjl : j < 3
        · obtain ⟨s, hck8⟩ := KS.out j hjl
          have hj3 : (j : Int) < 3 := by omega
          have f1 := HF.out s
          have f2 := HFg.out s
          have HPv := Lib.hid (HPv0.out s)
          have HPg := Lib.hid (HPg0.out s)
          have HRv := Lib.hid (HRv0.out s)
          have HRg := Lib.hid (HRg0.out s)
          generalize proveA ls s = A1 at f1 HPv HRv
          generalize rangeA ls s1 s = A2 at f2 HPg HRg
          clear HF HFg HPv0 HPg0 HRv0 HRg0
          go_upto_region 11 with (fail)
          go_cut [17, 18] from 53 to 130 (fun s17 s18 wx => LaidP wr A1 s17 s18 wx)
          case first =>
            refine wp_region_held_drew (S := fun w' => Below wr.heap.size wr w') (by kernel_rfl) (below_drew (Below.refl _ _)) (fun _ => ?_)
            have hHeld : Below wr.heap.size wr wr.drew := below_drew (Below.refl _ _)
            have CT : ∀ w', Below wr.heap.size wr w' → w'.cell? ⟨tb, k, none⟩ = some (.slice q n0 c0) := fun w' h => ((link BW h).cell (p := ⟨tb, k, none⟩) htb8).trans hct8
            have CK : ∀ w', Below wr.heap.size wr w' → w'.cell? ⟨kb, j, none⟩ = some (.string s) := fun w' h => ((link BW h).cell (p := ⟨kb, j, none⟩) hkb8).trans hck8
            generalize wr.drew = V0 at hHeld ⊢
            refine wpAnyH_take (i := 0) (oi := ⟨some 58, .move (.tmp 11), 27, "law.go:118", #[], none⟩) (v := .slice (some ⟨tb, 0, none⟩) 3 3) rfl (by kernel_rfl) (by kernel_rfl) (by kernel_rfl) (fun _ _ _ h => h) (Or.inl ⟨by rfl, fun w' hSw => by go_simp⟩) hHeld ?_
            try simp only [Act.put, List.setIfInBounds_toArray, List.set_cons_zero, List.set_cons_succ]
            refine wpAnyH_take (i := 1) (oi := ⟨some 59, .move (.tmp 12), 3, "law.go:118", #[], none⟩) (v := .int .i64 (k : Int)) rfl (by kernel_rfl) (by kernel_rfl) (by kernel_rfl) (fun _ _ _ h => h) (Or.inl ⟨by rfl, fun w' hSw => by go_simp⟩) hHeld ?_
            try simp only [Act.put, List.setIfInBounds_toArray, List.set_cons_zero, List.set_cons_succ]
            refine wpAnyH_take (i := 2) (oi := ⟨some 60, .indexAddr 27 (.tmp 58) (.tmp 59), 0, "law.go:118", #[⟨0, .data⟩, ⟨1, .data⟩], none⟩) (v := .pointer (some ⟨tb, k, none⟩)) rfl (by kernel_rfl) (by kernel_rfl) (by kernel_rfl) (fun _ _ _ h => h) (Or.inl ⟨by rfl, fun w' hSw => by go_simp; try (intro hcm; exact absurd hcm (by omega))⟩) hHeld ?_
            try simp only [Act.put, List.setIfInBounds_toArray, List.set_cons_zero, List.set_cons_succ]
            refine wpAnyH_take (i := 3) (oi := ⟨some 61, .load 24 (.tmp 60), 24, "law.go:118", #[⟨2, .data⟩], none⟩) (v := .slice q n0 c0) rfl (by kernel_rfl) (by kernel_rfl) (by kernel_rfl) (fun _ _ _ h => h) (Or.inl ⟨by rfl, fun w' hSw => by have hc := CT w' hSw; go_simp⟩) hHeld ?_
            try simp only [Act.put, List.setIfInBounds_toArray, List.set_cons_zero, List.set_cons_succ]
            refine wpAnyH_take (i := 5) (oi := ⟨some 63, .move (.tmp 15), 47, "law.go:118", #[], none⟩) (v := .slice (some ⟨kb, 0, none⟩) 3 3) rfl (by kernel_rfl) (by kernel_rfl) (by kernel_rfl) (fun _ _ _ h => h) (Or.inl ⟨by rfl, fun w' hSw => by go_simp⟩) hHeld ?_
            try simp only [Act.put, List.setIfInBounds_toArray, List.set_cons_zero, List.set_cons_succ]
            refine wpAnyH_take (i := 6) (oi := ⟨some 64, .move (.tmp 16), 3, "law.go:118", #[], none⟩) (v := .int .i64 (j : Int)) rfl (by kernel_rfl) (by kernel_rfl) (by kernel_rfl) (fun _ _ _ h => h) (Or.inl ⟨by rfl, fun w' hSw => by go_simp⟩) hHeld ?_
            try simp only [Act.put, List.setIfInBounds_toArray, List.set_cons_zero, List.set_cons_succ]
            refine wpAnyH_take (i := 7) (oi := ⟨some 65, .indexAddr 47 (.tmp 63) (.tmp 64), 0, "law.go:118", #[⟨5, .data⟩, ⟨6, .data⟩], none⟩) (v := .pointer (some ⟨kb, j, none⟩)) rfl (by kernel_rfl) (by kernel_rfl) (by kernel_rfl) (fun _ _ _ h => h) (Or.inl ⟨by rfl, fun w' hSw => by go_simp; try (intro hcm; exact absurd hcm (by omega))⟩) hHeld ?_
            try simp only [Act.put, List.setIfInBounds_toArray, List.set_cons_zero, List.set_cons_succ]
            refine wpAnyH_take (i := 8) (oi := ⟨some 66, .load 9 (.tmp 65), 9, "law.go:118", #[⟨7, .data⟩], none⟩) (v := .string s) rfl (by kernel_rfl) (by kernel_rfl) (by kernel_rfl) (fun _ _ _ h => h) (Or.inl ⟨by rfl, fun w' hSw => by have hc := CK w' hSw; go_simp⟩) hHeld ?_
            try simp only [Act.put, List.setIfInBounds_toArray, List.set_cons_zero, List.set_cons_succ]
            refine wpAnyH_ready (rs := [4, 13]) (by kernel_rfl) (by simp) ?_
            refine AllReadyH.cons (o := ⟨some 62, .call { callee := .value (.func 12), args := #[.tmp 61], argTypes := #[24] }, 33, "law.go:118", #[⟨3, .data⟩], none⟩) rfl (fun K hK => ?_) (AllReadyH.cons (o := ⟨some 17, .alloc 50, 0, "law.go:118", #[], none⟩) rfl (fun K hK => ?_) AllReadyH.nil)
            · rw [if_pos (by rfl)]
              go_simp
              refine (HOw.out V0 (link BW hHeld)).mono ?_
              rintro e V2 ⟨q2, c2, rfl, hc2, hq2, hL2, hB2⟩
              dsimp only
              refine hK.out _ _ (link hHeld hB2) (fun hHeld => ?_)
              clear hK K
              try simp only [Act.put, List.setIfInBounds_toArray, List.set_cons_zero, List.set_cons_succ]
              refine wpAnyH_ready (rs := [9, 13]) (by kernel_rfl) (by simp) ?_
              refine AllReadyH.cons (o := ⟨some 67, .call { callee := .value (.func 21), args := #[.tmp 62, .tmp 66], argTypes := #[33, 9] }, 51, "law.go:118", #[⟨4, .data⟩, ⟨8, .data⟩, ⟨4, .chain⟩], none⟩) rfl (fun K hK => ?_) (AllReadyH.cons (o := ⟨some 17, .alloc 50, 0, "law.go:118", #[], none⟩) rfl (fun K hK => ?_) AllReadyH.nil)
              · rw [if_pos (by rfl)]
                go_simp
                refine (HPv.out V2 q2 c2 (G8.keep (link BW hHeld)) hc2 hq2 hL2).mono ?_
                rintro e V3 ⟨v, rfl, hP, hB3⟩
                obtain ⟨x0, x1, x2, x3, rfl, ho⟩ := hP.four
                dsimp only
                refine hK.out _ _ (link hHeld hB3) (fun hHeld => ?_)
                clear hK K
                try simp only [Act.put, List.setIfInBounds_toArray, List.set_cons_zero, List.set_cons_succ]
                refine wpAnyH_take (i := 10) (oi := ⟨some 57, .move (.tmp 67), 51, "law.go:118", #[⟨9, .data⟩], none⟩) (v := .tuple #[.agg #[x0, x1, x2, x3], .int .i64 A1.2.2.2.2]) rfl (by kernel_rfl) (by kernel_rfl) (by kernel_rfl) (fun _ _ _ h => h) (Or.inl ⟨by rfl, fun w' hSw => by go_simp⟩) hHeld ?_
                try simp only [Act.put, List.setIfInBounds_toArray, List.set_cons_zero, List.set_cons_succ]
                refine wpAnyH_take (i := 11) (oi := ⟨some 68, .extract (.tmp 57) 0, 50, "law.go:118", #[⟨10, .data⟩], none⟩) (v := .agg #[x0, x1, x2, x3]) rfl (by kernel_rfl) (by kernel_rfl) (by kernel_rfl) (fun _ _ _ h => h) (Or.inl ⟨by rfl, fun w' hSw => by go_simp⟩) hHeld ?_
                try simp only [Act.put, List.setIfInBounds_toArray, List.set_cons_zero, List.set_cons_succ]
                refine wpAnyH_take (i := 12) (oi := ⟨some 69, .extract (.tmp 57) 1, 30, "law.go:118", #[⟨10, .data⟩, { on := 14, ground := Ground.gcOnly Departure.lateStores }], none⟩) (v := .int .i64 A1.2.2.2.2) rfl (by kernel_rfl) (by kernel_rfl) (by kernel_rfl) (fun _ _ _ h => h) (Or.inl ⟨by rfl, fun w' hSw => by go_simp⟩) hHeld ?_
                try simp only [Act.put, List.setIfInBounds_toArray, List.set_cons_zero, List.set_cons_succ]
                refine wpAnyH_ready (rs := [13]) (by kernel_rfl) (by simp) ?_
                refine AllReadyH.cons (o := ⟨some 17, .alloc 50, 0, "law.go:118", #[], none⟩) rfl (fun K hK => ?_) AllReadyH.nil
                rw [if_pos (by rfl)]
                go_simp
                have Kb : Blk (World.alloc V3 (.cells zeroPrf.toArray 50)) V3.heap.size 50 zeroPrf := blk_new V3 50 zeroPrf.toArray
                have htp : wr.heap.size ≤ V3.heap.size := hHeld.size
                have X : Below V3.heap.size V3 (World.alloc V3 (.cells zeroPrf.toArray 50)) := (Below.refl _ _).alloc (Nat.le_refl _) _
                have HQ := (hP.keep (new_struct V3 zeroPrf.toArray 50 [x0, x1, x2, x3] rfl).1).low
                refine hK.out _ _ (link hHeld X) (fun hHeld => ?_)
                clear hK K
                try simp only [Act.put, List.setIfInBounds_toArray, List.set_cons_zero, List.set_cons_succ]
                clear X
                generalize World.alloc V3 _ = V4 at Kb HQ hHeld ⊢
                generalize V3.heap.size = tp at Kb htp HQ ⊢
                refine wpAnyH_ready (rs := [14]) (by kernel_rfl) (by simp) ?_
                refine AllReadyH.cons (o := ⟨none, .store 50 (.tmp 17) (.tmp 68), 0, "law.go:118", #[⟨13, .data⟩, ⟨11, .data⟩, ⟨9, .chain⟩, ⟨0, .phase⟩, ⟨1, .phase⟩, ⟨2, .phase⟩, ⟨3, .phase⟩, ⟨4, .phase⟩, ⟨5, .phase⟩, ⟨6, .phase⟩, ⟨7, .phase⟩, ⟨8, .phase⟩, ⟨9, .phase⟩, ⟨10, .phase⟩, ⟨11, .phase⟩, { on := 12, ground := Ground.textOnly Departure.lateStores }, ⟨13, .phase⟩], none⟩) rfl (fun K hK => ?_) AllReadyH.nil
                rw [if_pos (by rfl)]
                refine wp_store_mid 50 (.tmp 17) (.tmp 68) rfl tp 0 #[x0, x1, x2, x3] rfl rfl (by simpa using Kb.there 0 4 (by simp)) (by kernel_rfl) (all_oneCell_toArray ho) ?_
                have Kq : Blk (V4.setCells tp 0 [x0, x1, x2, x3]) tp 50 [x0, x1, x2, x3] := Kb.all rfl
                have H := (only_sets tp 0 V4 [x0, x1, x2, x3]).2.2 _ _ htp hHeld
                dsimp only
                generalize World.setCells V4 tp 0 [x0, x1, x2, x3] = VF at HQ Kq H ⊢
                refine hK.out _ _ (H) (fun hHeld => ?_)
                clear hK K
                try simp only [Act.put, List.setIfInBounds_toArray, List.set_cons_zero, List.set_cons_succ]
                refine wpAnyH_ready (rs := [15]) (by kernel_rfl) (by simp) ?_
                refine AllReadyH.cons (o := ⟨some 18, .assign (.tmp 69), 30, "law.go:118", #[⟨12, .data⟩, ⟨14, .chain⟩, ⟨0, .phase⟩, ⟨1, .phase⟩, ⟨2, .phase⟩, ⟨3, .phase⟩, ⟨4, .phase⟩, ⟨5, .phase⟩, ⟨6, .phase⟩, ⟨7, .phase⟩, ⟨8, .phase⟩, ⟨9, .phase⟩, ⟨10, .phase⟩, ⟨11, .phase⟩, ⟨12, .phase⟩, ⟨13, .phase⟩, ⟨14, .phase⟩], none⟩) rfl (fun K hK => ?_) AllReadyH.nil
                go_simp
                refine hK.out _ _ (hHeld) (fun hHeld => ?_)
                clear hK K
                try simp only [Act.put, List.setIfInBounds_toArray, List.set_cons_zero, List.set_cons_succ]
                refine wpAnyH_done (by kernel_rfl) ?_ _
                clear hHeld CT CK
                go_wp2_with fail
                go_meet
                exact ⟨tp, x0, x1, x2, x3, rfl, rfl, Kq, HQ, H⟩
              · rw [if_pos (by rfl)]
                go_simp
                have Kb : Blk (World.alloc V2 (.cells zeroPrf.toArray 50)) V2.heap.size 50 zeroPrf := blk_new V2 50 zeroPrf.toArray
                have htp : wr.heap.size ≤ V2.heap.size := hHeld.size
                have X : Below V2.heap.size V2 (World.alloc V2 (.cells zeroPrf.toArray 50)) := (Below.refl _ _).alloc (Nat.le_refl _) _
                replace hL2 := hL2.keep X
                refine hK.out _ _ (link hHeld X) (fun hHeld => ?_)
                clear hK K
                try simp only [Act.put, List.setIfInBounds_toArray, List.set_cons_zero, List.set_cons_succ]
                clear X
                generalize World.alloc V2 _ = V3 at Kb hL2 hHeld ⊢
                generalize V2.heap.size = tp at Kb htp ⊢
                refine wpAnyH_ready (rs := [9]) (by kernel_rfl) (by simp) ?_
                refine AllReadyH.cons (o := ⟨some 67, .call { callee := .value (.func 21), args := #[.tmp 62, .tmp 66], argTypes := #[33, 9] }, 51, "law.go:118", #[⟨4, .data⟩, ⟨8, .data⟩, ⟨4, .chain⟩], none⟩) rfl (fun K hK => ?_) AllReadyH.nil
                rw [if_pos (by rfl)]
                go_simp
                refine (HPv.out V3 q2 c2 (G8.keep (link BW hHeld)) hc2 hq2 hL2).mono ?_
                rintro e V4 ⟨v, rfl, hP, hB3⟩
                obtain ⟨x0, x1, x2, x3, rfl, ho⟩ := hP.four
                dsimp only
                have HQ := hP.put Kb.lt [x0, x1, x2, x3]
                replace Kb := Kb.keep hB3
                refine hK.out _ _ (link hHeld hB3) (fun hHeld => ?_)
                clear hK K
                try simp only [Act.put, List.setIfInBounds_toArray, List.set_cons_zero, List.set_cons_succ]
                refine wpAnyH_take (i := 10) (oi := ⟨some 57, .move (.tmp 67), 51, "law.go:118", #[⟨9, .data⟩], none⟩) (v := .tuple #[.agg #[x0, x1, x2, x3], .int .i64 A1.2.2.2.2]) rfl (by kernel_rfl) (by kernel_rfl) (by kernel_rfl) (fun _ _ _ h => h) (Or.inl ⟨by rfl, fun w' hSw => by go_simp⟩) hHeld ?_
                try simp only [Act.put, List.setIfInBounds_toArray, List.set_cons_zero, List.set_cons_succ]
                refine wpAnyH_take (i := 11) (oi := ⟨some 68, .extract (.tmp 57) 0, 50, "law.go:118", #[⟨10, .data⟩], none⟩) (v := .agg #[x0, x1, x2, x3]) rfl (by kernel_rfl) (by kernel_rfl) (by kernel_rfl) (fun _ _ _ h => h) (Or.inl ⟨by rfl, fun w' hSw => by go_simp⟩) hHeld ?_
                try simp only [Act.put, List.setIfInBounds_toArray, List.set_cons_zero, List.set_cons_succ]
                refine wpAnyH_take (i := 12) (oi := ⟨some 69, .extract (.tmp 57) 1, 30, "law.go:118", #[⟨10, .data⟩, { on := 14, ground := Ground.gcOnly Departure.lateStores }], none⟩) (v := .int .i64 A1.2.2.2.2) rfl (by kernel_rfl) (by kernel_rfl) (by kernel_rfl) (fun _ _ _ h => h) (Or.inl ⟨by rfl, fun w' hSw => by go_simp⟩) hHeld ?_
                try simp only [Act.put, List.setIfInBounds_toArray, List.set_cons_zero, List.set_cons_succ]
                refine wpAnyH_ready (rs := [14]) (by kernel_rfl) (by simp) ?_
                refine AllReadyH.cons (o := ⟨none, .store 50 (.tmp 17) (.tmp 68), 0, "law.go:118", #[⟨13, .data⟩, ⟨11, .data⟩, ⟨9, .chain⟩, ⟨0, .phase⟩, ⟨1, .phase⟩, ⟨2, .phase⟩, ⟨3, .phase⟩, ⟨4, .phase⟩, ⟨5, .phase⟩, ⟨6, .phase⟩, ⟨7, .phase⟩, ⟨8, .phase⟩, ⟨9, .phase⟩, ⟨10, .phase⟩, ⟨11, .phase⟩, { on := 12, ground := Ground.textOnly Departure.lateStores }, ⟨13, .phase⟩], none⟩) rfl (fun K hK => ?_) AllReadyH.nil
                rw [if_pos (by rfl)]
                refine wp_store_mid 50 (.tmp 17) (.tmp 68) rfl tp 0 #[x0, x1, x2, x3] rfl rfl (by simpa using Kb.there 0 4 (by simp)) (by kernel_rfl) (all_oneCell_toArray ho) ?_
                have Kq : Blk (V4.setCells tp 0 [x0, x1, x2, x3]) tp 50 [x0, x1, x2, x3] := Kb.all rfl
                have H := (only_sets tp 0 V4 [x0, x1, x2, x3]).2.2 _ _ htp hHeld
                dsimp only
                generalize World.setCells V4 tp 0 [x0, x1, x2, x3] = VF at HQ Kq H ⊢
                refine hK.out _ _ (H) (fun hHeld => ?_)
                clear hK K
                try simp only [Act.put, List.setIfInBounds_toArray, List.set_cons_zero, List.set_cons_succ]
                refine wpAnyH_ready (rs := [15]) (by kernel_rfl) (by simp) ?_
                refine AllReadyH.cons (o := ⟨some 18, .assign (.tmp 69), 30, "law.go:118", #[⟨12, .data⟩, ⟨14, .chain⟩, ⟨0, .phase⟩, ⟨1, .phase⟩, ⟨2, .phase⟩, ⟨3, .phase⟩, ⟨4, .phase⟩, ⟨5, .phase⟩, ⟨6, .phase⟩, ⟨7, .phase⟩, ⟨8, .phase⟩, ⟨9, .phase⟩, ⟨10, .phase⟩, ⟨11, .phase⟩, ⟨12, .phase⟩, ⟨13, .phase⟩, ⟨14, .phase⟩], none⟩) rfl (fun K hK => ?_) AllReadyH.nil
                go_simp
                refine hK.out _ _ (hHeld) (fun hHeld => ?_)
                clear hK K
                try simp only [Act.put, List.setIfInBounds_toArray, List.set_cons_zero, List.set_cons_succ]
                refine wpAnyH_done (by kernel_rfl) ?_ _
                clear hHeld CT CK
                go_wp2_with fail
                go_meet
                exact ⟨tp, x0, x1, x2, x3, rfl, rfl, Kq, HQ, H⟩
            · rw [if_pos (by rfl)]
              go_simp
              have Kb : Blk (World.alloc V0 (.cells zeroPrf.toArray 50)) V0.heap.size 50 zeroPrf := blk_new V0 50 zeroPrf.toArray
              have htp : wr.heap.size ≤ V0.heap.size := hHeld.size
              have X : Below V0.heap.size V0 (World.alloc V0 (.cells zeroPrf.toArray 50)) := (Below.refl _ _).alloc (Nat.le_refl _) _
              refine hK.out _ _ (link hHeld X) (fun hHeld => ?_)
              clear hK K
              try simp only [Act.put, List.setIfInBounds_toArray, List.set_cons_zero, List.set_cons_succ]
              clear X
              generalize World.alloc V0 _ = V2 at Kb hHeld ⊢
              generalize V0.heap.size = tp at Kb htp ⊢
              refine wpAnyH_ready (rs := [4]) (by kernel_rfl) (by simp) ?_
              refine AllReadyH.cons (o := ⟨some 62, .call { callee := .value (.func 12), args := #[.tmp 61], argTypes := #[24] }, 33, "law.go:118", #[⟨3, .data⟩], none⟩) rfl (fun K hK => ?_) AllReadyH.nil
              rw [if_pos (by rfl)]
              go_simp
              refine (HOw.out V2 (link BW hHeld)).mono ?_
              rintro e V3 ⟨q2, c2, rfl, hc2, hq2, hL2, hB2⟩
              dsimp only
              replace Kb := Kb.keep hB2
              refine hK.out _ _ (link hHeld hB2) (fun hHeld => ?_)
              clear hK K
              try simp only [Act.put, List.setIfInBounds_toArray, List.set_cons_zero, List.set_cons_succ]
              refine wpAnyH_ready (rs := [9]) (by kernel_rfl) (by simp) ?_
              refine AllReadyH.cons (o := ⟨some 67, .call { callee := .value (.func 21), args := #[.tmp 62, .tmp 66], argTypes := #[33, 9] }, 51, "law.go:118", #[⟨4, .data⟩, ⟨8, .data⟩, ⟨4, .chain⟩], none⟩) rfl (fun K hK => ?_) AllReadyH.nil
              rw [if_pos (by rfl)]
              go_simp
              refine (HPv.out V3 q2 c2 (G8.keep (link BW hHeld)) hc2 hq2 hL2).mono ?_
              rintro e V4 ⟨v, rfl, hP, hB3⟩
              obtain ⟨x0, x1, x2, x3, rfl, ho⟩ := hP.four
              dsimp only
              have HQ := hP.put Kb.lt [x0, x1, x2, x3]
              replace Kb := Kb.keep hB3
              refine hK.out _ _ (link hHeld hB3) (fun hHeld => ?_)
              clear hK K
              try simp only [Act.put, List.setIfInBounds_toArray, List.set_cons_zero, List.set_cons_succ]
              refine wpAnyH_take (i := 10) (oi := ⟨some 57, .move (.tmp 67), 51, "law.go:118", #[⟨9, .data⟩], none⟩) (v := .tuple #[.agg #[x0, x1, x2, x3], .int .i64 A1.2.2.2.2]) rfl (by kernel_rfl) (by kernel_rfl) (by kernel_rfl) (fun _ _ _ h => h) (Or.inl ⟨by rfl, fun w' hSw => by go_simp⟩) hHeld ?_
              try simp only [Act.put, List.setIfInBounds_toArray, List.set_cons_zero, List.set_cons_succ]
              refine wpAnyH_take (i := 11) (oi := ⟨some 68, .extract (.tmp 57) 0, 50, "law.go:118", #[⟨10, .data⟩], none⟩) (v := .agg #[x0, x1, x2, x3]) rfl (by kernel_rfl) (by kernel_rfl) (by kernel_rfl) (fun _ _ _ h => h) (Or.inl ⟨by rfl, fun w' hSw => by go_simp⟩) hHeld ?_
              try simp only [Act.put, List.setIfInBounds_toArray, List.set_cons_zero, List.set_cons_succ]
              refine wpAnyH_take (i := 12) (oi := ⟨some 69, .extract (.tmp 57) 1, 30, "law.go:118", #[⟨10, .data⟩, { on := 14, ground := Ground.gcOnly Departure.lateStores }], none⟩) (v := .int .i64 A1.2.2.2.2) rfl (by kernel_rfl) (by kernel_rfl) (by kernel_rfl) (fun _ _ _ h => h) (Or.inl ⟨by rfl, fun w' hSw => by go_simp⟩) hHeld ?_
              try simp only [Act.put, List.setIfInBounds_toArray, List.set_cons_zero, List.set_cons_succ]
              refine wpAnyH_ready (rs := [14]) (by kernel_rfl) (by simp) ?_
              refine AllReadyH.cons (o := ⟨none, .store 50 (.tmp 17) (.tmp 68), 0, "law.go:118", #[⟨13, .data⟩, ⟨11, .data⟩, ⟨9, .chain⟩, ⟨0, .phase⟩, ⟨1, .phase⟩, ⟨2, .phase⟩, ⟨3, .phase⟩, ⟨4, .phase⟩, ⟨5, .phase⟩, ⟨6, .phase⟩, ⟨7, .phase⟩, ⟨8, .phase⟩, ⟨9, .phase⟩, ⟨10, .phase⟩, ⟨11, .phase⟩, { on := 12, ground := Ground.textOnly Departure.lateStores }, ⟨13, .phase⟩], none⟩) rfl (fun K hK => ?_) AllReadyH.nil
              rw [if_pos (by rfl)]
              refine wp_store_mid 50 (.tmp 17) (.tmp 68) rfl tp 0 #[x0, x1, x2, x3] rfl rfl (by simpa using Kb.there 0 4 (by simp)) (by kernel_rfl) (all_oneCell_toArray ho) ?_
              have Kq : Blk (V4.setCells tp 0 [x0, x1, x2, x3]) tp 50 [x0, x1, x2, x3] := Kb.all rfl
              have H := (only_sets tp 0 V4 [x0, x1, x2, x3]).2.2 _ _ htp hHeld
              dsimp only
              generalize World.setCells V4 tp 0 [x0, x1, x2, x3] = VF at HQ Kq H ⊢
              refine hK.out _ _ (H) (fun hHeld => ?_)
              clear hK K
              try simp only [Act.put, List.setIfInBounds_toArray, List.set_cons_zero, List.set_cons_succ]
              refine wpAnyH_ready (rs := [15]) (by kernel_rfl) (by simp) ?_
              refine AllReadyH.cons (o := ⟨some 18, .assign (.tmp 69), 30, "law.go:118", #[⟨12, .data⟩, ⟨14, .chain⟩, ⟨0, .phase⟩, ⟨1, .phase⟩, ⟨2, .phase⟩, ⟨3, .phase⟩, ⟨4, .phase⟩, ⟨5, .phase⟩, ⟨6, .phase⟩, ⟨7, .phase⟩, ⟨8, .phase⟩, ⟨9, .phase⟩, ⟨10, .phase⟩, ⟨11, .phase⟩, ⟨12, .phase⟩, ⟨13, .phase⟩, ⟨14, .phase⟩], none⟩) rfl (fun K hK => ?_) AllReadyH.nil
              go_simp
              refine hK.out _ _ (hHeld) (fun hHeld => ?_)
              clear hK K
              try simp only [Act.put, List.setIfInBounds_toArray, List.set_cons_zero, List.set_cons_succ]
              refine wpAnyH_done (by kernel_rfl) ?_ _
              clear hHeld CT CK
              go_wp2_with fail
              go_meet
              exact ⟨tp, x0, x1, x2, x3, rfl, rfl, Kq, HQ, H⟩
          case rest =>
            obtain ⟨p1, a0, a1, a2, a3, rfl, rfl, K1, P1, C1⟩ := hcut
            obtain ⟨w1, rfl⟩ : ∃ v : World, v = wc := ⟨_, rfl⟩
            replace BW := link BW C1
            go_upto_region 12 with (fail)
            go_cut [19, 20] from 53 to 130 (fun s19 s20 wx => LaidR w1 A1 s19 s20 wx)
            case first =>
              refine wp_region_held_drew (S := fun w' => Below w1.heap.size w1 w') (by kernel_rfl) (below_drew (Below.refl _ _)) (fun _ => ?_)
              have hHeld : Below w1.heap.size w1 w1.drew := below_drew (Below.refl _ _)
              have CT : ∀ w', Below w1.heap.size w1 w' → w'.cell? ⟨tb, k, none⟩ = some (.slice q n0 c0) := fun w' h => ((link BW h).cell (p := ⟨tb, k, none⟩) htb8).trans hct8
              have CK : ∀ w', Below w1.heap.size w1 w' → w'.cell? ⟨kb, j, none⟩ = some (.string s) := fun w' h => ((link BW h).cell (p := ⟨kb, j, none⟩) hkb8).trans hck8
              generalize w1.drew = V0 at hHeld ⊢
              refine wpAnyH_take (i := 0) (oi := ⟨some 71, .move (.tmp 11), 27, "law.go:119", #[], none⟩) (v := .slice (some ⟨tb, 0, none⟩) 3 3) rfl (by kernel_rfl) (by kernel_rfl) (by kernel_rfl) (fun _ _ _ h => h) (Or.inl ⟨by rfl, fun w' hSw => by go_simp⟩) hHeld ?_
              try simp only [Act.put, List.setIfInBounds_toArray, List.set_cons_zero, List.set_cons_succ]
              refine wpAnyH_take (i := 1) (oi := ⟨some 72, .move (.tmp 12), 3, "law.go:119", #[], none⟩) (v := .int .i64 (k : Int)) rfl (by kernel_rfl) (by kernel_rfl) (by kernel_rfl) (fun _ _ _ h => h) (Or.inl ⟨by rfl, fun w' hSw => by go_simp⟩) hHeld ?_
              try simp only [Act.put, List.setIfInBounds_toArray, List.set_cons_zero, List.set_cons_succ]
              refine wpAnyH_take (i := 2) (oi := ⟨some 73, .indexAddr 27 (.tmp 71) (.tmp 72), 0, "law.go:119", #[⟨0, .data⟩, ⟨1, .data⟩], none⟩) (v := .pointer (some ⟨tb, k, none⟩)) rfl (by kernel_rfl) (by kernel_rfl) (by kernel_rfl) (fun _ _ _ h => h) (Or.inl ⟨by rfl, fun w' hSw => by go_simp; try (intro hcm; exact absurd hcm (by omega))⟩) hHeld ?_
              try simp only [Act.put, List.setIfInBounds_toArray, List.set_cons_zero, List.set_cons_succ]
              refine wpAnyH_take (i := 3) (oi := ⟨some 74, .load 24 (.tmp 73), 24, "law.go:119", #[⟨2, .data⟩], none⟩) (v := .slice q n0 c0) rfl (by kernel_rfl) (by kernel_rfl) (by kernel_rfl) (fun _ _ _ h => h) (Or.inl ⟨by rfl, fun w' hSw => by have hc := CT w' hSw; go_simp⟩) hHeld ?_
              try simp only [Act.put, List.setIfInBounds_toArray, List.set_cons_zero, List.set_cons_succ]
              refine wpAnyH_take (i := 4) (oi := ⟨some 75, .move (.tmp 15), 47, "law.go:119", #[], none⟩) (v := .slice (some ⟨kb, 0, none⟩) 3 3) rfl (by kernel_rfl) (by kernel_rfl) (by kernel_rfl) (fun _ _ _ h => h) (Or.inl ⟨by rfl, fun w' hSw => by go_simp⟩) hHeld ?_
              try simp only [Act.put, List.setIfInBounds_toArray, List.set_cons_zero, List.set_cons_succ]
              refine wpAnyH_take (i := 5) (oi := ⟨some 76, .move (.tmp 16), 3, "law.go:119", #[], none⟩) (v := .int .i64 (j : Int)) rfl (by kernel_rfl) (by kernel_rfl) (by kernel_rfl) (fun _ _ _ h => h) (Or.inl ⟨by rfl, fun w' hSw => by go_simp⟩) hHeld ?_
              try simp only [Act.put, List.setIfInBounds_toArray, List.set_cons_zero, List.set_cons_succ]
              refine wpAnyH_take (i := 6) (oi := ⟨some 77, .indexAddr 47 (.tmp 75) (.tmp 76), 0, "law.go:119", #[⟨4, .data⟩, ⟨5, .data⟩], none⟩) (v := .pointer (some ⟨kb, j, none⟩)) rfl (by kernel_rfl) (by kernel_rfl) (by kernel_rfl) (fun _ _ _ h => h) (Or.inl ⟨by rfl, fun w' hSw => by go_simp; try (intro hcm; exact absurd hcm (by omega))⟩) hHeld ?_
              try simp only [Act.put, List.setIfInBounds_toArray, List.set_cons_zero, List.set_cons_succ]
              refine wpAnyH_take (i := 7) (oi := ⟨some 78, .load 9 (.tmp 77), 9, "law.go:119", #[⟨6, .data⟩], none⟩) (v := .string s) rfl (by kernel_rfl) (by kernel_rfl) (by kernel_rfl) (fun _ _ _ h => h) (Or.inl ⟨by rfl, fun w' hSw => by have hc := CK w' hSw; go_simp⟩) hHeld ?_
              try simp only [Act.put, List.setIfInBounds_toArray, List.set_cons_zero, List.set_cons_succ]
              refine wpAnyH_ready (rs := [8, 12]) (by kernel_rfl) (by simp) ?_
              refine AllReadyH.cons (o := ⟨some 79, .call { callee := .value (.func 22), args := #[.tmp 74, .tmp 78], argTypes := #[24, 9] }, 55, "law.go:119", #[⟨3, .data⟩, ⟨7, .data⟩], none⟩) rfl (fun K hK => ?_) (AllReadyH.cons (o := ⟨some 19, .alloc 54, 0, "law.go:119", #[], none⟩) rfl (fun K hK => ?_) AllReadyH.nil)
              · rw [if_pos (by rfl)]
                go_simp
                refine (HRv.out V0 (link BW hHeld)).mono ?_
                rintro e V2 ⟨v, rfl, hP, hB3⟩
                obtain ⟨x0, x1, x2, x3, rfl, ho⟩ := hP.four
                dsimp only
                refine hK.out _ _ (link hHeld hB3) (fun hHeld => ?_)
                clear hK K
                try simp only [Act.put, List.setIfInBounds_toArray, List.set_cons_zero, List.set_cons_succ]
                refine wpAnyH_take (i := 9) (oi := ⟨some 70, .move (.tmp 79), 55, "law.go:119", #[⟨8, .data⟩], none⟩) (v := .tuple #[.agg #[x0, x1, x2, x3], .int .i64 A1.2.2.2.2]) rfl (by kernel_rfl) (by kernel_rfl) (by kernel_rfl) (fun _ _ _ h => h) (Or.inl ⟨by rfl, fun w' hSw => by go_simp⟩) hHeld ?_
                try simp only [Act.put, List.setIfInBounds_toArray, List.set_cons_zero, List.set_cons_succ]
                refine wpAnyH_take (i := 10) (oi := ⟨some 80, .extract (.tmp 70) 0, 54, "law.go:119", #[⟨9, .data⟩], none⟩) (v := .agg #[x0, x1, x2, x3]) rfl (by kernel_rfl) (by kernel_rfl) (by kernel_rfl) (fun _ _ _ h => h) (Or.inl ⟨by rfl, fun w' hSw => by go_simp⟩) hHeld ?_
                try simp only [Act.put, List.setIfInBounds_toArray, List.set_cons_zero, List.set_cons_succ]
                refine wpAnyH_take (i := 11) (oi := ⟨some 81, .extract (.tmp 70) 1, 30, "law.go:119", #[⟨9, .data⟩, { on := 13, ground := Ground.gcOnly Departure.lateStores }], none⟩) (v := .int .i64 A1.2.2.2.2) rfl (by kernel_rfl) (by kernel_rfl) (by kernel_rfl) (fun _ _ _ h => h) (Or.inl ⟨by rfl, fun w' hSw => by go_simp⟩) hHeld ?_
                try simp only [Act.put, List.setIfInBounds_toArray, List.set_cons_zero, List.set_cons_succ]
                refine wpAnyH_ready (rs := [12]) (by kernel_rfl) (by simp) ?_
                refine AllReadyH.cons (o := ⟨some 19, .alloc 54, 0, "law.go:119", #[], none⟩) rfl (fun K hK => ?_) AllReadyH.nil
                rw [if_pos (by rfl)]
                go_simp
                have Kb : Blk (World.alloc V2 (.cells zeroPrf.toArray 54)) V2.heap.size 54 zeroPrf := blk_new V2 54 zeroPrf.toArray
                have htp : w1.heap.size ≤ V2.heap.size := hHeld.size
                have X : Below V2.heap.size V2 (World.alloc V2 (.cells zeroPrf.toArray 54)) := (Below.refl _ _).alloc (Nat.le_refl _) _
                have HQ := (hP.keep (new_struct V2 zeroPrf.toArray 54 [x0, x1, x2, x3] rfl).1).low
                refine hK.out _ _ (link hHeld X) (fun hHeld => ?_)
                clear hK K
                try simp only [Act.put, List.setIfInBounds_toArray, List.set_cons_zero, List.set_cons_succ]
                clear X
                generalize World.alloc V2 _ = V3 at Kb HQ hHeld ⊢
                generalize V2.heap.size = tp at Kb htp HQ ⊢
                refine wpAnyH_ready (rs := [13]) (by kernel_rfl) (by simp) ?_
                refine AllReadyH.cons (o := ⟨none, .store 54 (.tmp 19) (.tmp 80), 0, "law.go:119", #[⟨12, .data⟩, ⟨10, .data⟩, ⟨8, .chain⟩, ⟨0, .phase⟩, ⟨1, .phase⟩, ⟨2, .phase⟩, ⟨3, .phase⟩, ⟨4, .phase⟩, ⟨5, .phase⟩, ⟨6, .phase⟩, ⟨7, .phase⟩, ⟨8, .phase⟩, ⟨9, .phase⟩, ⟨10, .phase⟩, { on := 11, ground := Ground.textOnly Departure.lateStores }, ⟨12, .phase⟩], none⟩) rfl (fun K hK => ?_) AllReadyH.nil
                rw [if_pos (by rfl)]
                refine wp_store_mid 54 (.tmp 19) (.tmp 80) rfl tp 0 #[x0, x1, x2, x3] rfl rfl (by simpa using Kb.there 0 4 (by simp)) (by kernel_rfl) (all_oneCell_toArray ho) ?_
                have Kq : Blk (V3.setCells tp 0 [x0, x1, x2, x3]) tp 54 [x0, x1, x2, x3] := Kb.all rfl
                have H := (only_sets tp 0 V3 [x0, x1, x2, x3]).2.2 _ _ htp hHeld
                dsimp only
                generalize World.setCells V3 tp 0 [x0, x1, x2, x3] = VF at HQ Kq H ⊢
                refine hK.out _ _ (H) (fun hHeld => ?_)
                clear hK K
                try simp only [Act.put, List.setIfInBounds_toArray, List.set_cons_zero, List.set_cons_succ]
                refine wpAnyH_ready (rs := [14]) (by kernel_rfl) (by simp) ?_
                refine AllReadyH.cons (o := ⟨some 20, .assign (.tmp 81), 30, "law.go:119", #[⟨11, .data⟩, ⟨13, .chain⟩, ⟨0, .phase⟩, ⟨1, .phase⟩, ⟨2, .phase⟩, ⟨3, .phase⟩, ⟨4, .phase⟩, ⟨5, .phase⟩, ⟨6, .phase⟩, ⟨7, .phase⟩, ⟨8, .phase⟩, ⟨9, .phase⟩, ⟨10, .phase⟩, ⟨11, .phase⟩, ⟨12, .phase⟩, ⟨13, .phase⟩], none⟩) rfl (fun K hK => ?_) AllReadyH.nil
                go_simp
                refine hK.out _ _ (hHeld) (fun hHeld => ?_)
                clear hK K
                try simp only [Act.put, List.setIfInBounds_toArray, List.set_cons_zero, List.set_cons_succ]
                refine wpAnyH_done (by kernel_rfl) ?_ _
                clear hHeld CT CK
                go_wp2_with fail
                go_meet
                exact ⟨tp, x0, x1, x2, x3, rfl, rfl, Kq, HQ, H⟩
              · rw [if_pos (by rfl)]
                go_simp
                have Kb : Blk (World.alloc V0 (.cells zeroPrf.toArray 54)) V0.heap.size 54 zeroPrf := blk_new V0 54 zeroPrf.toArray
                have htp : w1.heap.size ≤ V0.heap.size := hHeld.size
                have X : Below V0.heap.size V0 (World.alloc V0 (.cells zeroPrf.toArray 54)) := (Below.refl _ _).alloc (Nat.le_refl _) _
                refine hK.out _ _ (link hHeld X) (fun hHeld => ?_)
                clear hK K
                try simp only [Act.put, List.setIfInBounds_toArray, List.set_cons_zero, List.set_cons_succ]
                clear X
                generalize World.alloc V0 _ = V2 at Kb hHeld ⊢
                generalize V0.heap.size = tp at Kb htp ⊢
                refine wpAnyH_ready (rs := [8]) (by kernel_rfl) (by simp) ?_
                refine AllReadyH.cons (o := ⟨some 79, .call { callee := .value (.func 22), args := #[.tmp 74, .tmp 78], argTypes := #[24, 9] }, 55, "law.go:119", #[⟨3, .data⟩, ⟨7, .data⟩], none⟩) rfl (fun K hK => ?_) AllReadyH.nil
                rw [if_pos (by rfl)]
                go_simp
                refine (HRv.out V2 (link BW hHeld)).mono ?_
                rintro e V3 ⟨v, rfl, hP, hB3⟩
                obtain ⟨x0, x1, x2, x3, rfl, ho⟩ := hP.four
                dsimp only
                have HQ := hP.put Kb.lt [x0, x1, x2, x3]
                replace Kb := Kb.keep hB3
                refine hK.out _ _ (link hHeld hB3) (fun hHeld => ?_)
                clear hK K
                try simp only [Act.put, List.setIfInBounds_toArray, List.set_cons_zero, List.set_cons_succ]
                refine wpAnyH_take (i := 9) (oi := ⟨some 70, .move (.tmp 79), 55, "law.go:119", #[⟨8, .data⟩], none⟩) (v := .tuple #[.agg #[x0, x1, x2, x3], .int .i64 A1.2.2.2.2]) rfl (by kernel_rfl) (by kernel_rfl) (by kernel_rfl) (fun _ _ _ h => h) (Or.inl ⟨by rfl, fun w' hSw => by go_simp⟩) hHeld ?_
                try simp only [Act.put, List.setIfInBounds_toArray, List.set_cons_zero, List.set_cons_succ]
                refine wpAnyH_take (i := 10) (oi := ⟨some 80, .extract (.tmp 70) 0, 54, "law.go:119", #[⟨9, .data⟩], none⟩) (v := .agg #[x0, x1, x2, x3]) rfl (by kernel_rfl) (by kernel_rfl) (by kernel_rfl) (fun _ _ _ h => h) (Or.inl ⟨by rfl, fun w' hSw => by go_simp⟩) hHeld ?_
                try simp only [Act.put, List.setIfInBounds_toArray, List.set_cons_zero, List.set_cons_succ]
                refine wpAnyH_take (i := 11) (oi := ⟨some 81, .extract (.tmp 70) 1, 30, "law.go:119", #[⟨9, .data⟩, { on := 13, ground := Ground.gcOnly Departure.lateStores }], none⟩) (v := .int .i64 A1.2.2.2.2) rfl (by kernel_rfl) (by kernel_rfl) (by kernel_rfl) (fun _ _ _ h => h) (Or.inl ⟨by rfl, fun w' hSw => by go_simp⟩) hHeld ?_
                try simp only [Act.put, List.setIfInBounds_toArray, List.set_cons_zero, List.set_cons_succ]
                refine wpAnyH_ready (rs := [13]) (by kernel_rfl) (by simp) ?_
                refine AllReadyH.cons (o := ⟨none, .store 54 (.tmp 19) (.tmp 80), 0, "law.go:119", #[⟨12, .data⟩, ⟨10, .data⟩, ⟨8, .chain⟩, ⟨0, .phase⟩, ⟨1, .phase⟩, ⟨2, .phase⟩, ⟨3, .phase⟩, ⟨4, .phase⟩, ⟨5, .phase⟩, ⟨6, .phase⟩, ⟨7, .phase⟩, ⟨8, .phase⟩, ⟨9, .phase⟩, ⟨10, .phase⟩, { on := 11, ground := Ground.textOnly Departure.lateStores }, ⟨12, .phase⟩], none⟩) rfl (fun K hK => ?_) AllReadyH.nil
                rw [if_pos (by rfl)]
                refine wp_store_mid 54 (.tmp 19) (.tmp 80) rfl tp 0 #[x0, x1, x2, x3] rfl rfl (by simpa using Kb.there 0 4 (by simp)) (by kernel_rfl) (all_oneCell_toArray ho) ?_
                have Kq : Blk (V3.setCells tp 0 [x0, x1, x2, x3]) tp 54 [x0, x1, x2, x3] := Kb.all rfl
                have H := (only_sets tp 0 V3 [x0, x1, x2, x3]).2.2 _ _ htp hHeld
                dsimp only
                generalize World.setCells V3 tp 0 [x0, x1, x2, x3] = VF at HQ Kq H ⊢
                refine hK.out _ _ (H) (fun hHeld => ?_)
                clear hK K
                try simp only [Act.put, List.setIfInBounds_toArray, List.set_cons_zero, List.set_cons_succ]
                refine wpAnyH_ready (rs := [14]) (by kernel_rfl) (by simp) ?_
                refine AllReadyH.cons (o := ⟨some 20, .assign (.tmp 81), 30, "law.go:119", #[⟨11, .data⟩, ⟨13, .chain⟩, ⟨0, .phase⟩, ⟨1, .phase⟩, ⟨2, .phase⟩, ⟨3, .phase⟩, ⟨4, .phase⟩, ⟨5, .phase⟩, ⟨6, .phase⟩, ⟨7, .phase⟩, ⟨8, .phase⟩, ⟨9, .phase⟩, ⟨10, .phase⟩, ⟨11, .phase⟩, ⟨12, .phase⟩, ⟨13, .phase⟩], none⟩) rfl (fun K hK => ?_) AllReadyH.nil
                go_simp
                refine hK.out _ _ (hHeld) (fun hHeld => ?_)
                clear hK K
                try simp only [Act.put, List.setIfInBounds_toArray, List.set_cons_zero, List.set_cons_succ]
                refine wpAnyH_done (by kernel_rfl) ?_ _
                clear hHeld CT CK
                go_wp2_with fail
                go_meet
                exact ⟨tp, x0, x1, x2, x3, rfl, rfl, Kq, HQ, H⟩
            case rest =>
              obtain ⟨p2, b0, b1, b2, b3, rfl, rfl, K2, P2, C2⟩ := hcut
              obtain ⟨w2, rfl⟩ : ∃ v : World, v = wc := ⟨_, rfl⟩
              replace BW := link BW C2
              replace K1 := K1.keep C2
              replace P1 := P1.keep C2
              go_upto_region 13 with (fail)
              go_cut [21, 22] from 53 to 130 (fun s21 s22 wx => LaidP w2 A2 s21 s22 wx)
              case first =>
                refine wp_region_held_drew (S := fun w' => Below w2.heap.size w2 w') (by kernel_rfl) (below_drew (Below.refl _ _)) (fun _ => ?_)
                have hHeld : Below w2.heap.size w2 w2.drew := below_drew (Below.refl _ _)
                have CT : ∀ w', Below w2.heap.size w2 w' → w'.cell? ⟨tb, k, none⟩ = some (.slice q n0 c0) := fun w' h => ((link BW h).cell (p := ⟨tb, k, none⟩) htb8).trans hct8
                have CK : ∀ w', Below w2.heap.size w2 w' → w'.cell? ⟨kb, j, none⟩ = some (.string s) := fun w' h => ((link BW h).cell (p := ⟨kb, j, none⟩) hkb8).trans hck8
                generalize w2.drew = V0 at hHeld ⊢
                refine wpAnyH_take (i := 0) (oi := ⟨some 83, .move (.tmp 11), 27, "law.go:120", #[], none⟩) (v := .slice (some ⟨tb, 0, none⟩) 3 3) rfl (by kernel_rfl) (by kernel_rfl) (by kernel_rfl) (fun _ _ _ h => h) (Or.inl ⟨by rfl, fun w' hSw => by go_simp⟩) hHeld ?_
                try simp only [Act.put, List.setIfInBounds_toArray, List.set_cons_zero, List.set_cons_succ]
                refine wpAnyH_take (i := 1) (oi := ⟨some 84, .move (.tmp 12), 3, "law.go:120", #[], none⟩) (v := .int .i64 (k : Int)) rfl (by kernel_rfl) (by kernel_rfl) (by kernel_rfl) (fun _ _ _ h => h) (Or.inl ⟨by rfl, fun w' hSw => by go_simp⟩) hHeld ?_
                try simp only [Act.put, List.setIfInBounds_toArray, List.set_cons_zero, List.set_cons_succ]
                refine wpAnyH_take (i := 2) (oi := ⟨some 85, .indexAddr 27 (.tmp 83) (.tmp 84), 0, "law.go:120", #[⟨0, .data⟩, ⟨1, .data⟩], none⟩) (v := .pointer (some ⟨tb, k, none⟩)) rfl (by kernel_rfl) (by kernel_rfl) (by kernel_rfl) (fun _ _ _ h => h) (Or.inl ⟨by rfl, fun w' hSw => by go_simp; try (intro hcm; exact absurd hcm (by omega))⟩) hHeld ?_
                try simp only [Act.put, List.setIfInBounds_toArray, List.set_cons_zero, List.set_cons_succ]
                refine wpAnyH_take (i := 3) (oi := ⟨some 86, .load 24 (.tmp 85), 24, "law.go:120", #[⟨2, .data⟩], none⟩) (v := .slice q n0 c0) rfl (by kernel_rfl) (by kernel_rfl) (by kernel_rfl) (fun _ _ _ h => h) (Or.inl ⟨by rfl, fun w' hSw => by have hc := CT w' hSw; go_simp⟩) hHeld ?_
                try simp only [Act.put, List.setIfInBounds_toArray, List.set_cons_zero, List.set_cons_succ]
                refine wpAnyH_take (i := 5) (oi := ⟨some 88, .move (.tmp 13), 9, "law.go:120", #[], none⟩) (v := .string s1) rfl (by kernel_rfl) (by kernel_rfl) (by kernel_rfl) (fun _ _ _ h => h) (Or.inl ⟨by rfl, fun w' hSw => by go_simp⟩) hHeld ?_
                try simp only [Act.put, List.setIfInBounds_toArray, List.set_cons_zero, List.set_cons_succ]
                refine wpAnyH_take (i := 6) (oi := ⟨some 89, .move (.tmp 15), 47, "law.go:120", #[], none⟩) (v := .slice (some ⟨kb, 0, none⟩) 3 3) rfl (by kernel_rfl) (by kernel_rfl) (by kernel_rfl) (fun _ _ _ h => h) (Or.inl ⟨by rfl, fun w' hSw => by go_simp⟩) hHeld ?_
                try simp only [Act.put, List.setIfInBounds_toArray, List.set_cons_zero, List.set_cons_succ]
                refine wpAnyH_take (i := 7) (oi := ⟨some 90, .move (.tmp 16), 3, "law.go:120", #[], none⟩) (v := .int .i64 (j : Int)) rfl (by kernel_rfl) (by kernel_rfl) (by kernel_rfl) (fun _ _ _ h => h) (Or.inl ⟨by rfl, fun w' hSw => by go_simp⟩) hHeld ?_
                try simp only [Act.put, List.setIfInBounds_toArray, List.set_cons_zero, List.set_cons_succ]
                refine wpAnyH_take (i := 8) (oi := ⟨some 91, .indexAddr 47 (.tmp 89) (.tmp 90), 0, "law.go:120", #[⟨6, .data⟩, ⟨7, .data⟩], none⟩) (v := .pointer (some ⟨kb, j, none⟩)) rfl (by kernel_rfl) (by kernel_rfl) (by kernel_rfl) (fun _ _ _ h => h) (Or.inl ⟨by rfl, fun w' hSw => by go_simp; try (intro hcm; exact absurd hcm (by omega))⟩) hHeld ?_
                try simp only [Act.put, List.setIfInBounds_toArray, List.set_cons_zero, List.set_cons_succ]
                refine wpAnyH_take (i := 9) (oi := ⟨some 92, .load 9 (.tmp 91), 9, "law.go:120", #[⟨8, .data⟩], none⟩) (v := .string s) rfl (by kernel_rfl) (by kernel_rfl) (by kernel_rfl) (fun _ _ _ h => h) (Or.inl ⟨by rfl, fun w' hSw => by have hc := CK w' hSw; go_simp⟩) hHeld ?_
                try simp only [Act.put, List.setIfInBounds_toArray, List.set_cons_zero, List.set_cons_succ]
                refine wpAnyH_ready (rs := [4, 14]) (by kernel_rfl) (by simp) ?_
                refine AllReadyH.cons (o := ⟨some 87, .call { callee := .value (.func 12), args := #[.tmp 86], argTypes := #[24] }, 33, "law.go:120", #[⟨3, .data⟩], none⟩) rfl (fun K hK => ?_) (AllReadyH.cons (o := ⟨some 21, .alloc 50, 0, "law.go:120", #[], none⟩) rfl (fun K hK => ?_) AllReadyH.nil)
                · rw [if_pos (by rfl)]
                  go_simp
                  refine (HOw.out V0 (link BW hHeld)).mono ?_
                  rintro e V2 ⟨q2, c2, rfl, hc2, hq2, hL2, hB2⟩
                  dsimp only
                  refine hK.out _ _ (link hHeld hB2) (fun hHeld => ?_)
                  clear hK K
                  try simp only [Act.put, List.setIfInBounds_toArray, List.set_cons_zero, List.set_cons_succ]
                  refine wpAnyH_ready (rs := [10, 14]) (by kernel_rfl) (by simp) ?_
                  refine AllReadyH.cons (o := ⟨some 93, .call { callee := .value (.func 23), args := #[.tmp 87, .tmp 88, .tmp 92], argTypes := #[33, 9, 9] }, 51, "law.go:120", #[⟨4, .data⟩, ⟨5, .data⟩, ⟨9, .data⟩, ⟨4, .chain⟩], none⟩) rfl (fun K hK => ?_) (AllReadyH.cons (o := ⟨some 21, .alloc 50, 0, "law.go:120", #[], none⟩) rfl (fun K hK => ?_) AllReadyH.nil)
                  · rw [if_pos (by rfl)]
                    go_simp
                    refine (HPg.out V2 q2 c2 (G8.keep (link BW hHeld)) hc2 hq2 hL2).mono ?_
                    rintro e V3 ⟨v, rfl, hP, hB3⟩
                    obtain ⟨x0, x1, x2, x3, rfl, ho⟩ := hP.four
                    dsimp only
                    refine hK.out _ _ (link hHeld hB3) (fun hHeld => ?_)
                    clear hK K
                    try simp only [Act.put, List.setIfInBounds_toArray, List.set_cons_zero, List.set_cons_succ]
                    refine wpAnyH_take (i := 11) (oi := ⟨some 82, .move (.tmp 93), 51, "law.go:120", #[⟨10, .data⟩], none⟩) (v := .tuple #[.agg #[x0, x1, x2, x3], .int .i64 A2.2.2.2.2]) rfl (by kernel_rfl) (by kernel_rfl) (by kernel_rfl) (fun _ _ _ h => h) (Or.inl ⟨by rfl, fun w' hSw => by go_simp⟩) hHeld ?_
                    try simp only [Act.put, List.setIfInBounds_toArray, List.set_cons_zero, List.set_cons_succ]
                    refine wpAnyH_take (i := 12) (oi := ⟨some 94, .extract (.tmp 82) 0, 50, "law.go:120", #[⟨11, .data⟩], none⟩) (v := .agg #[x0, x1, x2, x3]) rfl (by kernel_rfl) (by kernel_rfl) (by kernel_rfl) (fun _ _ _ h => h) (Or.inl ⟨by rfl, fun w' hSw => by go_simp⟩) hHeld ?_
                    try simp only [Act.put, List.setIfInBounds_toArray, List.set_cons_zero, List.set_cons_succ]
                    refine wpAnyH_take (i := 13) (oi := ⟨some 95, .extract (.tmp 82) 1, 30, "law.go:120", #[⟨11, .data⟩, { on := 15, ground := Ground.gcOnly Departure.lateStores }], none⟩) (v := .int .i64 A2.2.2.2.2) rfl (by kernel_rfl) (by kernel_rfl) (by kernel_rfl) (fun _ _ _ h => h) (Or.inl ⟨by rfl, fun w' hSw => by go_simp⟩) hHeld ?_
                    try simp only [Act.put, List.setIfInBounds_toArray, List.set_cons_zero, List.set_cons_succ]
                    refine wpAnyH_ready (rs := [14]) (by kernel_rfl) (by simp) ?_
                    refine AllReadyH.cons (o := ⟨some 21, .alloc 50, 0, "law.go:120", #[], none⟩) rfl (fun K hK => ?_) AllReadyH.nil
                    rw [if_pos (by rfl)]
                    go_simp
                    have Kb : Blk (World.alloc V3 (.cells zeroPrf.toArray 50)) V3.heap.size 50 zeroPrf := blk_new V3 50 zeroPrf.toArray
                    have htp : w2.heap.size ≤ V3.heap.size := hHeld.size
                    have X : Below V3.heap.size V3 (World.alloc V3 (.cells zeroPrf.toArray 50)) := (Below.refl _ _).alloc (Nat.le_refl _) _
                    have HQ := (hP.keep (new_struct V3 zeroPrf.toArray 50 [x0, x1, x2, x3] rfl).1).low
                    refine hK.out _ _ (link hHeld X) (fun hHeld => ?_)
                    clear hK K
                    try simp only [Act.put, List.setIfInBounds_toArray, List.set_cons_zero, List.set_cons_succ]
                    clear X
                    generalize World.alloc V3 _ = V4 at Kb HQ hHeld ⊢
                    generalize V3.heap.size = tp at Kb htp HQ ⊢
                    refine wpAnyH_ready (rs := [15]) (by kernel_rfl) (by simp) ?_
                    refine AllReadyH.cons (o := ⟨none, .store 50 (.tmp 21) (.tmp 94), 0, "law.go:120", #[⟨14, .data⟩, ⟨12, .data⟩, ⟨10, .chain⟩, ⟨0, .phase⟩, ⟨1, .phase⟩, ⟨2, .phase⟩, ⟨3, .phase⟩, ⟨4, .phase⟩, ⟨5, .phase⟩, ⟨6, .phase⟩, ⟨7, .phase⟩, ⟨8, .phase⟩, ⟨9, .phase⟩, ⟨10, .phase⟩, ⟨11, .phase⟩, ⟨12, .phase⟩, { on := 13, ground := Ground.textOnly Departure.lateStores }, ⟨14, .phase⟩], none⟩) rfl (fun K hK => ?_) AllReadyH.nil
                    rw [if_pos (by rfl)]
                    refine wp_store_mid 50 (.tmp 21) (.tmp 94) rfl tp 0 #[x0, x1, x2, x3] rfl rfl (by simpa using Kb.there 0 4 (by simp)) (by kernel_rfl) (all_oneCell_toArray ho) ?_
                    have Kq : Blk (V4.setCells tp 0 [x0, x1, x2, x3]) tp 50 [x0, x1, x2, x3] := Kb.all rfl
                    have H := (only_sets tp 0 V4 [x0, x1, x2, x3]).2.2 _ _ htp hHeld
                    dsimp only
                    generalize World.setCells V4 tp 0 [x0, x1, x2, x3] = VF at HQ Kq H ⊢
                    refine hK.out _ _ (H) (fun hHeld => ?_)
                    clear hK K
                    try simp only [Act.put, List.setIfInBounds_toArray, List.set_cons_zero, List.set_cons_succ]
                    refine wpAnyH_ready (rs := [16]) (by kernel_rfl) (by simp) ?_
                    refine AllReadyH.cons (o := ⟨some 22, .assign (.tmp 95), 30, "law.go:120", #[⟨13, .data⟩, ⟨15, .chain⟩, ⟨0, .phase⟩, ⟨1, .phase⟩, ⟨2, .phase⟩, ⟨3, .phase⟩, ⟨4, .phase⟩, ⟨5, .phase⟩, ⟨6, .phase⟩, ⟨7, .phase⟩, ⟨8, .phase⟩, ⟨9, .phase⟩, ⟨10, .phase⟩, ⟨11, .phase⟩, ⟨12, .phase⟩, ⟨13, .phase⟩, ⟨14, .phase⟩, ⟨15, .phase⟩], none⟩) rfl (fun K hK => ?_) AllReadyH.nil
                    go_simp
                    refine hK.out _ _ (hHeld) (fun hHeld => ?_)
                    clear hK K
                    try simp only [Act.put, List.setIfInBounds_toArray, List.set_cons_zero, List.set_cons_succ]
                    refine wpAnyH_done (by kernel_rfl) ?_ _
                    clear hHeld CT CK
                    go_wp2_with fail
                    go_meet
                    exact ⟨tp, x0, x1, x2, x3, rfl, rfl, Kq, HQ, H⟩
                  · rw [if_pos (by rfl)]
                    go_simp
                    have Kb : Blk (World.alloc V2 (.cells zeroPrf.toArray 50)) V2.heap.size 50 zeroPrf := blk_new V2 50 zeroPrf.toArray
                    have htp : w2.heap.size ≤ V2.heap.size := hHeld.size
                    have X : Below V2.heap.size V2 (World.alloc V2 (.cells zeroPrf.toArray 50)) := (Below.refl _ _).alloc (Nat.le_refl _) _
                    replace hL2 := hL2.keep X
                    refine hK.out _ _ (link hHeld X) (fun hHeld => ?_)
                    clear hK K
                    try simp only [Act.put, List.setIfInBounds_toArray, List.set_cons_zero, List.set_cons_succ]
                    clear X
                    generalize World.alloc V2 _ = V3 at Kb hL2 hHeld ⊢
                    generalize V2.heap.size = tp at Kb htp ⊢
                    refine wpAnyH_ready (rs := [10]) (by kernel_rfl) (by simp) ?_
                    refine AllReadyH.cons (o := ⟨some 93, .call { callee := .value (.func 23), args := #[.tmp 87, .tmp 88, .tmp 92], argTypes := #[33, 9, 9] }, 51, "law.go:120", #[⟨4, .data⟩, ⟨5, .data⟩, ⟨9, .data⟩, ⟨4, .chain⟩], none⟩) rfl (fun K hK => ?_) AllReadyH.nil
                    rw [if_pos (by rfl)]
                    go_simp
                    refine (HPg.out V3 q2 c2 (G8.keep (link BW hHeld)) hc2 hq2 hL2).mono ?_
                    rintro e V4 ⟨v, rfl, hP, hB3⟩
                    obtain ⟨x0, x1, x2, x3, rfl, ho⟩ := hP.four
                    dsimp only
                    have HQ := hP.put Kb.lt [x0, x1, x2, x3]
                    replace Kb := Kb.keep hB3
                    refine hK.out _ _ (link hHeld hB3) (fun hHeld => ?_)
                    clear hK K
                    try simp only [Act.put, List.setIfInBounds_toArray, List.set_cons_zero, List.set_cons_succ]
                    refine wpAnyH_take (i := 11) (oi := ⟨some 82, .move (.tmp 93), 51, "law.go:120", #[⟨10, .data⟩], none⟩) (v := .tuple #[.agg #[x0, x1, x2, x3], .int .i64 A2.2.2.2.2]) rfl (by kernel_rfl) (by kernel_rfl) (by kernel_rfl) (fun _ _ _ h => h) (Or.inl ⟨by rfl, fun w' hSw => by go_simp⟩) hHeld ?_
                    try simp only [Act.put, List.setIfInBounds_toArray, List.set_cons_zero, List.set_cons_succ]
                    refine wpAnyH_take (i := 12) (oi := ⟨some 94, .extract (.tmp 82) 0, 50, "law.go:120", #[⟨11, .data⟩], none⟩) (v := .agg #[x0, x1, x2, x3]) rfl (by kernel_rfl) (by kernel_rfl) (by kernel_rfl) (fun _ _ _ h => h) (Or.inl ⟨by rfl, fun w' hSw => by go_simp⟩) hHeld ?_
                    try simp only [Act.put, List.setIfInBounds_toArray, List.set_cons_zero, List.set_cons_succ]
                    refine wpAnyH_take (i := 13) (oi := ⟨some 95, .extract (.tmp 82) 1, 30, "law.go:120", #[⟨11, .data⟩, { on := 15, ground := Ground.gcOnly Departure.lateStores }], none⟩) (v := .int .i64 A2.2.2.2.2) rfl (by kernel_rfl) (by kernel_rfl) (by kernel_rfl) (fun _ _ _ h => h) (Or.inl ⟨by rfl, fun w' hSw => by go_simp⟩) hHeld ?_
                    try simp only [Act.put, List.setIfInBounds_toArray, List.set_cons_zero, List.set_cons_succ]
                    refine wpAnyH_ready (rs := [15]) (by kernel_rfl) (by simp) ?_
                    refine AllReadyH.cons (o := ⟨none, .store 50 (.tmp 21) (.tmp 94), 0, "law.go:120", #[⟨14, .data⟩, ⟨12, .data⟩, ⟨10, .chain⟩, ⟨0, .phase⟩, ⟨1, .phase⟩, ⟨2, .phase⟩, ⟨3, .phase⟩, ⟨4, .phase⟩, ⟨5, .phase⟩, ⟨6, .phase⟩, ⟨7, .phase⟩, ⟨8, .phase⟩, ⟨9, .phase⟩, ⟨10, .phase⟩, ⟨11, .phase⟩, ⟨12, .phase⟩, { on := 13, ground := Ground.textOnly Departure.lateStores }, ⟨14, .phase⟩], none⟩) rfl (fun K hK => ?_) AllReadyH.nil
                    rw [if_pos (by rfl)]
                    refine wp_store_mid 50 (.tmp 21) (.tmp 94) rfl tp 0 #[x0, x1, x2, x3] rfl rfl (by simpa using Kb.there 0 4 (by simp)) (by kernel_rfl) (all_oneCell_toArray ho) ?_
                    have Kq : Blk (V4.setCells tp 0 [x0, x1, x2, x3]) tp 50 [x0, x1, x2, x3] := Kb.all rfl
                    have H := (only_sets tp 0 V4 [x0, x1, x2, x3]).2.2 _ _ htp hHeld
                    dsimp only
                    generalize World.setCells V4 tp 0 [x0, x1, x2, x3] = VF at HQ Kq H ⊢
                    refine hK.out _ _ (H) (fun hHeld => ?_)
                    clear hK K
                    try simp only [Act.put, List.setIfInBounds_toArray, List.set_cons_zero, List.set_cons_succ]
                    refine wpAnyH_ready (rs := [16]) (by kernel_rfl) (by simp) ?_
                    refine AllReadyH.cons (o := ⟨some 22, .assign (.tmp 95), 30, "law.go:120", #[⟨13, .data⟩, ⟨15, .chain⟩, ⟨0, .phase⟩, ⟨1, .phase⟩, ⟨2, .phase⟩, ⟨3, .phase⟩, ⟨4, .phase⟩, ⟨5, .phase⟩, ⟨6, .phase⟩, ⟨7, .phase⟩, ⟨8, .phase⟩, ⟨9, .phase⟩, ⟨10, .phase⟩, ⟨11, .phase⟩, ⟨12, .phase⟩, ⟨13, .phase⟩, ⟨14, .phase⟩, ⟨15, .phase⟩], none⟩) rfl (fun K hK => ?_) AllReadyH.nil
                    go_simp
                    refine hK.out _ _ (hHeld) (fun hHeld => ?_)
                    clear hK K
                    try simp only [Act.put, List.setIfInBounds_toArray, List.set_cons_zero, List.set_cons_succ]
                    refine wpAnyH_done (by kernel_rfl) ?_ _
                    clear hHeld CT CK
                    go_wp2_with fail
                    go_meet
                    exact ⟨tp, x0, x1, x2, x3, rfl, rfl, Kq, HQ, H⟩
                · rw [if_pos (by rfl)]
                  go_simp
                  have Kb : Blk (World.alloc V0 (.cells zeroPrf.toArray 50)) V0.heap.size 50 zeroPrf := blk_new V0 50 zeroPrf.toArray
                  have htp : w2.heap.size ≤ V0.heap.size := hHeld.size
                  have X : Below V0.heap.size V0 (World.alloc V0 (.cells zeroPrf.toArray 50)) := (Below.refl _ _).alloc (Nat.le_refl _) _
                  refine hK.out _ _ (link hHeld X) (fun hHeld => ?_)
                  clear hK K
                  try simp only [Act.put, List.setIfInBounds_toArray, List.set_cons_zero, List.set_cons_succ]
                  clear X
                  generalize World.alloc V0 _ = V2 at Kb hHeld ⊢
                  generalize V0.heap.size = tp at Kb htp ⊢
                  refine wpAnyH_ready (rs := [4]) (by kernel_rfl) (by simp) ?_
                  refine AllReadyH.cons (o := ⟨some 87, .call { callee := .value (.func 12), args := #[.tmp 86], argTypes := #[24] }, 33, "law.go:120", #[⟨3, .data⟩], none⟩) rfl (fun K hK => ?_) AllReadyH.nil
                  rw [if_pos (by rfl)]
                  go_simp
                  refine (HOw.out V2 (link BW hHeld)).mono ?_
                  rintro e V3 ⟨q2, c2, rfl, hc2, hq2, hL2, hB2⟩
                  dsimp only
                  replace Kb := Kb.keep hB2
                  refine hK.out _ _ (link hHeld hB2) (fun hHeld => ?_)
                  clear hK K
                  try simp only [Act.put, List.setIfInBounds_toArray, List.set_cons_zero, List.set_cons_succ]
                  refine wpAnyH_ready (rs := [10]) (by kernel_rfl) (by simp) ?_
                  refine AllReadyH.cons (o := ⟨some 93, .call { callee := .value (.func 23), args := #[.tmp 87, .tmp 88, .tmp 92], argTypes := #[33, 9, 9] }, 51, "law.go:120", #[⟨4, .data⟩, ⟨5, .data⟩, ⟨9, .data⟩, ⟨4, .chain⟩], none⟩) rfl (fun K hK => ?_) AllReadyH.nil
                  rw [if_pos (by rfl)]
                  go_simp
                  refine (HPg.out V3 q2 c2 (G8.keep (link BW hHeld)) hc2 hq2 hL2).mono ?_
                  rintro e V4 ⟨v, rfl, hP, hB3⟩
                  obtain ⟨x0, x1, x2, x3, rfl, ho⟩ := hP.four
                  dsimp only
                  have HQ := hP.put Kb.lt [x0, x1, x2, x3]
                  replace Kb := Kb.keep hB3
                  refine hK.out _ _ (link hHeld hB3) (fun hHeld => ?_)
                  clear hK K
                  try simp only [Act.put, List.setIfInBounds_toArray, List.set_cons_zero, List.set_cons_succ]
                  refine wpAnyH_take (i := 11) (oi := ⟨some 82, .move (.tmp 93), 51, "law.go:120", #[⟨10, .data⟩], none⟩) (v := .tuple #[.agg #[x0, x1, x2, x3], .int .i64 A2.2.2.2.2]) rfl (by kernel_rfl) (by kernel_rfl) (by kernel_rfl) (fun _ _ _ h => h) (Or.inl ⟨by rfl, fun w' hSw => by go_simp⟩) hHeld ?_
                  try simp only [Act.put, List.setIfInBounds_toArray, List.set_cons_zero, List.set_cons_succ]
                  refine wpAnyH_take (i := 12) (oi := ⟨some 94, .extract (.tmp 82) 0, 50, "law.go:120", #[⟨11, .data⟩], none⟩) (v := .agg #[x0, x1, x2, x3]) rfl (by kernel_rfl) (by kernel_rfl) (by kernel_rfl) (fun _ _ _ h => h) (Or.inl ⟨by rfl, fun w' hSw => by go_simp⟩) hHeld ?_
                  try simp only [Act.put, List.setIfInBounds_toArray, List.set_cons_zero, List.set_cons_succ]
                  refine wpAnyH_take (i := 13) (oi := ⟨some 95, .extract (.tmp 82) 1, 30, "law.go:120", #[⟨11, .data⟩, { on := 15, ground := Ground.gcOnly Departure.lateStores }], none⟩) (v := .int .i64 A2.2.2.2.2) rfl (by kernel_rfl) (by kernel_rfl) (by kernel_rfl) (fun _ _ _ h => h) (Or.inl ⟨by rfl, fun w' hSw => by go_simp⟩) hHeld ?_
                  try simp only [Act.put, List.setIfInBounds_toArray, List.set_cons_zero, List.set_cons_succ]
                  refine wpAnyH_ready (rs := [15]) (by kernel_rfl) (by simp) ?_
                  refine AllReadyH.cons (o := ⟨none, .store 50 (.tmp 21) (.tmp 94), 0, "law.go:120", #[⟨14, .data⟩, ⟨12, .data⟩, ⟨10, .chain⟩, ⟨0, .phase⟩, ⟨1, .phase⟩, ⟨2, .phase⟩, ⟨3, .phase⟩, ⟨4, .phase⟩, ⟨5, .phase⟩, ⟨6, .phase⟩, ⟨7, .phase⟩, ⟨8, .phase⟩, ⟨9, .phase⟩, ⟨10, .phase⟩, ⟨11, .phase⟩, ⟨12, .phase⟩, { on := 13, ground := Ground.textOnly Departure.lateStores }, ⟨14, .phase⟩], none⟩) rfl (fun K hK => ?_) AllReadyH.nil
                  rw [if_pos (by rfl)]
                  refine wp_store_mid 50 (.tmp 21) (.tmp 94) rfl tp 0 #[x0, x1, x2, x3] rfl rfl (by simpa using Kb.there 0 4 (by simp)) (by kernel_rfl) (all_oneCell_toArray ho) ?_
                  have Kq : Blk (V4.setCells tp 0 [x0, x1, x2, x3]) tp 50 [x0, x1, x2, x3] := Kb.all rfl
                  have H := (only_sets tp 0 V4 [x0, x1, x2, x3]).2.2 _ _ htp hHeld
                  dsimp only
                  generalize World.setCells V4 tp 0 [x0, x1, x2, x3] = VF at HQ Kq H ⊢
                  refine hK.out _ _ (H) (fun hHeld => ?_)
                  clear hK K
                  try simp only [Act.put, List.setIfInBounds_toArray, List.set_cons_zero, List.set_cons_succ]
                  refine wpAnyH_ready (rs := [16]) (by kernel_rfl) (by simp) ?_
                  refine AllReadyH.cons (o := ⟨some 22, .assign (.tmp 95), 30, "law.go:120", #[⟨13, .data⟩, ⟨15, .chain⟩, ⟨0, .phase⟩, ⟨1, .phase⟩, ⟨2, .phase⟩, ⟨3, .phase⟩, ⟨4, .phase⟩, ⟨5, .phase⟩, ⟨6, .phase⟩, ⟨7, .phase⟩, ⟨8, .phase⟩, ⟨9, .phase⟩, ⟨10, .phase⟩, ⟨11, .phase⟩, ⟨12, .phase⟩, ⟨13, .phase⟩, ⟨14, .phase⟩, ⟨15, .phase⟩], none⟩) rfl (fun K hK => ?_) AllReadyH.nil
                  go_simp
                  refine hK.out _ _ (hHeld) (fun hHeld => ?_)
                  clear hK K
                  try simp only [Act.put, List.setIfInBounds_toArray, List.set_cons_zero, List.set_cons_succ]
                  refine wpAnyH_done (by kernel_rfl) ?_ _
                  clear hHeld CT CK
                  go_wp2_with fail
                  go_meet
                  exact ⟨tp, x0, x1, x2, x3, rfl, rfl, Kq, HQ, H⟩
              case rest =>
                obtain ⟨p3, yc0, yc1, yc2, yc3, rfl, rfl, K3, P3, C3⟩ := hcut
                obtain ⟨w3, rfl⟩ : ∃ v : World, v = wc := ⟨_, rfl⟩
                replace BW := link BW C3
                replace K1 := K1.keep C3
                replace P1 := P1.keep C3
                replace K2 := K2.keep C3
                replace P2 := P2.keep C3
                go_upto_region 14 with (fail)
                go_cut [23, 24] from 53 to 130 (fun s23 s24 wx => LaidR w3 A2 s23 s24 wx)
                case first =>
                  refine wp_region_held_drew (S := fun w' => Below w3.heap.size w3 w') (by kernel_rfl) (below_drew (Below.refl _ _)) (fun _ => ?_)
                  have hHeld : Below w3.heap.size w3 w3.drew := below_drew (Below.refl _ _)
                  have CT : ∀ w', Below w3.heap.size w3 w' → w'.cell? ⟨tb, k, none⟩ = some (.slice q n0 c0) := fun w' h => ((link BW h).cell (p := ⟨tb, k, none⟩) htb8).trans hct8
                  have CK : ∀ w', Below w3.heap.size w3 w' → w'.cell? ⟨kb, j, none⟩ = some (.string s) := fun w' h => ((link BW h).cell (p := ⟨kb, j, none⟩) hkb8).trans hck8
                  generalize w3.drew = V0 at hHeld ⊢
                  refine wpAnyH_take (i := 0) (oi := ⟨some 97, .move (.tmp 11), 27, "law.go:121", #[], none⟩) (v := .slice (some ⟨tb, 0, none⟩) 3 3) rfl (by kernel_rfl) (by kernel_rfl) (by kernel_rfl) (fun _ _ _ h => h) (Or.inl ⟨by rfl, fun w' hSw => by go_simp⟩) hHeld ?_
                  try simp only [Act.put, List.setIfInBounds_toArray, List.set_cons_zero, List.set_cons_succ]
                  refine wpAnyH_take (i := 1) (oi := ⟨some 98, .move (.tmp 12), 3, "law.go:121", #[], none⟩) (v := .int .i64 (k : Int)) rfl (by kernel_rfl) (by kernel_rfl) (by kernel_rfl) (fun _ _ _ h => h) (Or.inl ⟨by rfl, fun w' hSw => by go_simp⟩) hHeld ?_
                  try simp only [Act.put, List.setIfInBounds_toArray, List.set_cons_zero, List.set_cons_succ]
                  refine wpAnyH_take (i := 2) (oi := ⟨some 99, .indexAddr 27 (.tmp 97) (.tmp 98), 0, "law.go:121", #[⟨0, .data⟩, ⟨1, .data⟩], none⟩) (v := .pointer (some ⟨tb, k, none⟩)) rfl (by kernel_rfl) (by kernel_rfl) (by kernel_rfl) (fun _ _ _ h => h) (Or.inl ⟨by rfl, fun w' hSw => by go_simp; try (intro hcm; exact absurd hcm (by omega))⟩) hHeld ?_
                  try simp only [Act.put, List.setIfInBounds_toArray, List.set_cons_zero, List.set_cons_succ]
                  refine wpAnyH_take (i := 3) (oi := ⟨some 100, .load 24 (.tmp 99), 24, "law.go:121", #[⟨2, .data⟩], none⟩) (v := .slice q n0 c0) rfl (by kernel_rfl) (by kernel_rfl) (by kernel_rfl) (fun _ _ _ h => h) (Or.inl ⟨by rfl, fun w' hSw => by have hc := CT w' hSw; go_simp⟩) hHeld ?_
                  try simp only [Act.put, List.setIfInBounds_toArray, List.set_cons_zero, List.set_cons_succ]
                  refine wpAnyH_take (i := 4) (oi := ⟨some 101, .move (.tmp 13), 9, "law.go:121", #[], none⟩) (v := .string s1) rfl (by kernel_rfl) (by kernel_rfl) (by kernel_rfl) (fun _ _ _ h => h) (Or.inl ⟨by rfl, fun w' hSw => by go_simp⟩) hHeld ?_
                  try simp only [Act.put, List.setIfInBounds_toArray, List.set_cons_zero, List.set_cons_succ]
                  refine wpAnyH_take (i := 5) (oi := ⟨some 102, .move (.tmp 15), 47, "law.go:121", #[], none⟩) (v := .slice (some ⟨kb, 0, none⟩) 3 3) rfl (by kernel_rfl) (by kernel_rfl) (by kernel_rfl) (fun _ _ _ h => h) (Or.inl ⟨by rfl, fun w' hSw => by go_simp⟩) hHeld ?_
                  try simp only [Act.put, List.setIfInBounds_toArray, List.set_cons_zero, List.set_cons_succ]
                  refine wpAnyH_take (i := 6) (oi := ⟨some 103, .move (.tmp 16), 3, "law.go:121", #[], none⟩) (v := .int .i64 (j : Int)) rfl (by kernel_rfl) (by kernel_rfl) (by kernel_rfl) (fun _ _ _ h => h) (Or.inl ⟨by rfl, fun w' hSw => by go_simp⟩) hHeld ?_
                  try simp only [Act.put, List.setIfInBounds_toArray, List.set_cons_zero, List.set_cons_succ]
                  refine wpAnyH_take (i := 7) (oi := ⟨some 104, .indexAddr 47 (.tmp 102) (.tmp 103), 0, "law.go:121", #[⟨5, .data⟩, ⟨6, .data⟩], none⟩) (v := .pointer (some ⟨kb, j, none⟩)) rfl (by kernel_rfl) (by kernel_rfl) (by kernel_rfl) (fun _ _ _ h => h) (Or.inl ⟨by rfl, fun w' hSw => by go_simp; try (intro hcm; exact absurd hcm (by omega))⟩) hHeld ?_
                  try simp only [Act.put, List.setIfInBounds_toArray, List.set_cons_zero, List.set_cons_succ]
                  refine wpAnyH_take (i := 8) (oi := ⟨some 105, .load 9 (.tmp 104), 9, "law.go:121", #[⟨7, .data⟩], none⟩) (v := .string s) rfl (by kernel_rfl) (by kernel_rfl) (by kernel_rfl) (fun _ _ _ h => h) (Or.inl ⟨by rfl, fun w' hSw => by have hc := CK w' hSw; go_simp⟩) hHeld ?_
                  try simp only [Act.put, List.setIfInBounds_toArray, List.set_cons_zero, List.set_cons_succ]
                  refine wpAnyH_ready (rs := [9, 13]) (by kernel_rfl) (by simp) ?_
                  refine AllReadyH.cons (o := ⟨some 106, .call { callee := .value (.func 24), args := #[.tmp 100, .tmp 101, .tmp 105], argTypes := #[24, 9, 9] }, 55, "law.go:121", #[⟨3, .data⟩, ⟨4, .data⟩, ⟨8, .data⟩], none⟩) rfl (fun K hK => ?_) (AllReadyH.cons (o := ⟨some 23, .alloc 54, 0, "law.go:121", #[], none⟩) rfl (fun K hK => ?_) AllReadyH.nil)
                  · rw [if_pos (by rfl)]
                    go_simp
                    refine (HRg.out V0 (link BW hHeld)).mono ?_
                    rintro e V2 ⟨v, rfl, hP, hB3⟩
                    obtain ⟨x0, x1, x2, x3, rfl, ho⟩ := hP.four
                    dsimp only
                    refine hK.out _ _ (link hHeld hB3) (fun hHeld => ?_)
                    clear hK K
                    try simp only [Act.put, List.setIfInBounds_toArray, List.set_cons_zero, List.set_cons_succ]
                    refine wpAnyH_take (i := 10) (oi := ⟨some 96, .move (.tmp 106), 55, "law.go:121", #[⟨9, .data⟩], none⟩) (v := .tuple #[.agg #[x0, x1, x2, x3], .int .i64 A2.2.2.2.2]) rfl (by kernel_rfl) (by kernel_rfl) (by kernel_rfl) (fun _ _ _ h => h) (Or.inl ⟨by rfl, fun w' hSw => by go_simp⟩) hHeld ?_
                    try simp only [Act.put, List.setIfInBounds_toArray, List.set_cons_zero, List.set_cons_succ]
                    refine wpAnyH_take (i := 11) (oi := ⟨some 107, .extract (.tmp 96) 0, 54, "law.go:121", #[⟨10, .data⟩], none⟩) (v := .agg #[x0, x1, x2, x3]) rfl (by kernel_rfl) (by kernel_rfl) (by kernel_rfl) (fun _ _ _ h => h) (Or.inl ⟨by rfl, fun w' hSw => by go_simp⟩) hHeld ?_
                    try simp only [Act.put, List.setIfInBounds_toArray, List.set_cons_zero, List.set_cons_succ]
                    refine wpAnyH_take (i := 12) (oi := ⟨some 108, .extract (.tmp 96) 1, 30, "law.go:121", #[⟨10, .data⟩, { on := 14, ground := Ground.gcOnly Departure.lateStores }], none⟩) (v := .int .i64 A2.2.2.2.2) rfl (by kernel_rfl) (by kernel_rfl) (by kernel_rfl) (fun _ _ _ h => h) (Or.inl ⟨by rfl, fun w' hSw => by go_simp⟩) hHeld ?_
                    try simp only [Act.put, List.setIfInBounds_toArray, List.set_cons_zero, List.set_cons_succ]
                    refine wpAnyH_ready (rs := [13]) (by kernel_rfl) (by simp) ?_
                    refine AllReadyH.cons (o := ⟨some 23, .alloc 54, 0, "law.go:121", #[], none⟩) rfl (fun K hK => ?_) AllReadyH.nil
                    rw [if_pos (by rfl)]
                    go_simp
                    have Kb : Blk (World.alloc V2 (.cells zeroPrf.toArray 54)) V2.heap.size 54 zeroPrf := blk_new V2 54 zeroPrf.toArray
                    have htp : w3.heap.size ≤ V2.heap.size := hHeld.size
                    have X : Below V2.heap.size V2 (World.alloc V2 (.cells zeroPrf.toArray 54)) := (Below.refl _ _).alloc (Nat.le_refl _) _
                    have HQ := (hP.keep (new_struct V2 zeroPrf.toArray 54 [x0, x1, x2, x3] rfl).1).low
                    refine hK.out _ _ (link hHeld X) (fun hHeld => ?_)
                    clear hK K
                    try simp only [Act.put, List.setIfInBounds_toArray, List.set_cons_zero, List.set_cons_succ]
                    clear X
                    generalize World.alloc V2 _ = V3 at Kb HQ hHeld ⊢
                    generalize V2.heap.size = tp at Kb htp HQ ⊢
                    refine wpAnyH_ready (rs := [14]) (by kernel_rfl) (by simp) ?_
                    refine AllReadyH.cons (o := ⟨none, .store 54 (.tmp 23) (.tmp 107), 0, "law.go:121", #[⟨13, .data⟩, ⟨11, .data⟩, ⟨9, .chain⟩, ⟨0, .phase⟩, ⟨1, .phase⟩, ⟨2, .phase⟩, ⟨3, .phase⟩, ⟨4, .phase⟩, ⟨5, .phase⟩, ⟨6, .phase⟩, ⟨7, .phase⟩, ⟨8, .phase⟩, ⟨9, .phase⟩, ⟨10, .phase⟩, ⟨11, .phase⟩, { on := 12, ground := Ground.textOnly Departure.lateStores }, ⟨13, .phase⟩], none⟩) rfl (fun K hK => ?_) AllReadyH.nil
                    rw [if_pos (by rfl)]
                    refine wp_store_mid 54 (.tmp 23) (.tmp 107) rfl tp 0 #[x0, x1, x2, x3] rfl rfl (by simpa using Kb.there 0 4 (by simp)) (by kernel_rfl) (all_oneCell_toArray ho) ?_
                    have Kq : Blk (V3.setCells tp 0 [x0, x1, x2, x3]) tp 54 [x0, x1, x2, x3] := Kb.all rfl
                    have H := (only_sets tp 0 V3 [x0, x1, x2, x3]).2.2 _ _ htp hHeld
                    dsimp only
                    generalize World.setCells V3 tp 0 [x0, x1, x2, x3] = VF at HQ Kq H ⊢
                    refine hK.out _ _ (H) (fun hHeld => ?_)
                    clear hK K
                    try simp only [Act.put, List.setIfInBounds_toArray, List.set_cons_zero, List.set_cons_succ]
                    refine wpAnyH_ready (rs := [15]) (by kernel_rfl) (by simp) ?_
                    refine AllReadyH.cons (o := ⟨some 24, .assign (.tmp 108), 30, "law.go:121", #[⟨12, .data⟩, ⟨14, .chain⟩, ⟨0, .phase⟩, ⟨1, .phase⟩, ⟨2, .phase⟩, ⟨3, .phase⟩, ⟨4, .phase⟩, ⟨5, .phase⟩, ⟨6, .phase⟩, ⟨7, .phase⟩, ⟨8, .phase⟩, ⟨9, .phase⟩, ⟨10, .phase⟩, ⟨11, .phase⟩, ⟨12, .phase⟩, ⟨13, .phase⟩, ⟨14, .phase⟩], none⟩) rfl (fun K hK => ?_) AllReadyH.nil
                    go_simp
                    refine hK.out _ _ (hHeld) (fun hHeld => ?_)
                    clear hK K
                    try simp only [Act.put, List.setIfInBounds_toArray, List.set_cons_zero, List.set_cons_succ]
                    refine wpAnyH_done (by kernel_rfl) ?_ _
                    clear hHeld CT CK
                    go_wp2_with fail
                    go_meet
                    exact ⟨tp, x0, x1, x2, x3, rfl, rfl, Kq, HQ, H⟩
                  · rw [if_pos (by rfl)]
                    go_simp
                    have Kb : Blk (World.alloc V0 (.cells zeroPrf.toArray 54)) V0.heap.size 54 zeroPrf := blk_new V0 54 zeroPrf.toArray
                    have htp : w3.heap.size ≤ V0.heap.size := hHeld.size
                    have X : Below V0.heap.size V0 (World.alloc V0 (.cells zeroPrf.toArray 54)) := (Below.refl _ _).alloc (Nat.le_refl _) _
                    refine hK.out _ _ (link hHeld X) (fun hHeld => ?_)
                    clear hK K
                    try simp only [Act.put, List.setIfInBounds_toArray, List.set_cons_zero, List.set_cons_succ]
                    clear X
                    generalize World.alloc V0 _ = V2 at Kb hHeld ⊢
                    generalize V0.heap.size = tp at Kb htp ⊢
                    refine wpAnyH_ready (rs := [9]) (by kernel_rfl) (by simp) ?_
                    refine AllReadyH.cons (o := ⟨some 106, .call { callee := .value (.func 24), args := #[.tmp 100, .tmp 101, .tmp 105], argTypes := #[24, 9, 9] }, 55, "law.go:121", #[⟨3, .data⟩, ⟨4, .data⟩, ⟨8, .data⟩], none⟩) rfl (fun K hK => ?_) AllReadyH.nil
                    rw [if_pos (by rfl)]
                    go_simp
                    refine (HRg.out V2 (link BW hHeld)).mono ?_
                    rintro e V3 ⟨v, rfl, hP, hB3⟩
                    obtain ⟨x0, x1, x2, x3, rfl, ho⟩ := hP.four
                    dsimp only
                    have HQ := hP.put Kb.lt [x0, x1, x2, x3]
                    replace Kb := Kb.keep hB3
                    refine hK.out _ _ (link hHeld hB3) (fun hHeld => ?_)
                    clear hK K
                    try simp only [Act.put, List.setIfInBounds_toArray, List.set_cons_zero, List.set_cons_succ]
                    refine wpAnyH_take (i := 10) (oi := ⟨some 96, .move (.tmp 106), 55, "law.go:121", #[⟨9, .data⟩], none⟩) (v := .tuple #[.agg #[x0, x1, x2, x3], .int .i64 A2.2.2.2.2]) rfl (by kernel_rfl) (by kernel_rfl) (by kernel_rfl) (fun _ _ _ h => h) (Or.inl ⟨by rfl, fun w' hSw => by go_simp⟩) hHeld ?_
                    try simp only [Act.put, List.setIfInBounds_toArray, List.set_cons_zero, List.set_cons_succ]
                    refine wpAnyH_take (i := 11) (oi := ⟨some 107, .extract (.tmp 96) 0, 54, "law.go:121", #[⟨10, .data⟩], none⟩) (v := .agg #[x0, x1, x2, x3]) rfl (by kernel_rfl) (by kernel_rfl) (by kernel_rfl) (fun _ _ _ h => h) (Or.inl ⟨by rfl, fun w' hSw => by go_simp⟩) hHeld ?_
                    try simp only [Act.put, List.setIfInBounds_toArray, List.set_cons_zero, List.set_cons_succ]
                    refine wpAnyH_take (i := 12) (oi := ⟨some 108, .extract (.tmp 96) 1, 30, "law.go:121", #[⟨10, .data⟩, { on := 14, ground := Ground.gcOnly Departure.lateStores }], none⟩) (v := .int .i64 A2.2.2.2.2) rfl (by kernel_rfl) (by kernel_rfl) (by kernel_rfl) (fun _ _ _ h => h) (Or.inl ⟨by rfl, fun w' hSw => by go_simp⟩) hHeld ?_
                    try simp only [Act.put, List.setIfInBounds_toArray, List.set_cons_zero, List.set_cons_succ]
                    refine wpAnyH_ready (rs := [14]) (by kernel_rfl) (by simp) ?_
                    refine AllReadyH.cons (o := ⟨none, .store 54 (.tmp 23) (.tmp 107), 0, "law.go:121", #[⟨13, .data⟩, ⟨11, .data⟩, ⟨9, .chain⟩, ⟨0, .phase⟩, ⟨1, .phase⟩, ⟨2, .phase⟩, ⟨3, .phase⟩, ⟨4, .phase⟩, ⟨5, .phase⟩, ⟨6, .phase⟩, ⟨7, .phase⟩, ⟨8, .phase⟩, ⟨9, .phase⟩, ⟨10, .phase⟩, ⟨11, .phase⟩, { on := 12, ground := Ground.textOnly Departure.lateStores }, ⟨13, .phase⟩], none⟩) rfl (fun K hK => ?_) AllReadyH.nil
                    rw [if_pos (by rfl)]
                    refine wp_store_mid 54 (.tmp 23) (.tmp 107) rfl tp 0 #[x0, x1, x2, x3] rfl rfl (by simpa using Kb.there 0 4 (by simp)) (by kernel_rfl) (all_oneCell_toArray ho) ?_
                    have Kq : Blk (V3.setCells tp 0 [x0, x1, x2, x3]) tp 54 [x0, x1, x2, x3] := Kb.all rfl
                    have H := (only_sets tp 0 V3 [x0, x1, x2, x3]).2.2 _ _ htp hHeld
                    dsimp only
                    generalize World.setCells V3 tp 0 [x0, x1, x2, x3] = VF at HQ Kq H ⊢
                    refine hK.out _ _ (H) (fun hHeld => ?_)
                    clear hK K
                    try simp only [Act.put, List.setIfInBounds_toArray, List.set_cons_zero, List.set_cons_succ]
                    refine wpAnyH_ready (rs := [15]) (by kernel_rfl) (by simp) ?_
                    refine AllReadyH.cons (o := ⟨some 24, .assign (.tmp 108), 30, "law.go:121", #[⟨12, .data⟩, ⟨14, .chain⟩, ⟨0, .phase⟩, ⟨1, .phase⟩, ⟨2, .phase⟩, ⟨3, .phase⟩, ⟨4, .phase⟩, ⟨5, .phase⟩, ⟨6, .phase⟩, ⟨7, .phase⟩, ⟨8, .phase⟩, ⟨9, .phase⟩, ⟨10, .phase⟩, ⟨11, .phase⟩, ⟨12, .phase⟩, ⟨13, .phase⟩, ⟨14, .phase⟩], none⟩) rfl (fun K hK => ?_) AllReadyH.nil
                    go_simp
                    refine hK.out _ _ (hHeld) (fun hHeld => ?_)
                    clear hK K
                    try simp only [Act.put, List.setIfInBounds_toArray, List.set_cons_zero, List.set_cons_succ]
                    refine wpAnyH_done (by kernel_rfl) ?_ _
                    clear hHeld CT CK
                    go_wp2_with fail
                    go_meet
                    exact ⟨tp, x0, x1, x2, x3, rfl, rfl, Kq, HQ, H⟩
                case rest =>
                  obtain ⟨p4, d0, d1, d2, d3, rfl, rfl, K4, P4, C4⟩ := hcut
                  obtain ⟨w4, rfl⟩ : ∃ v : World, v = wc := ⟨_, rfl⟩
                  replace BW := link BW C4
                  replace K1 := K1.keep C4
                  replace P1 := P1.keep C4
                  replace K2 := K2.keep C4
                  replace P2 := P2.keep C4
                  replace K3 := K3.keep C4
                  replace P3 := P3.keep C4
                  clear HOw HPv HPg HRv HRg C1 C2 C3 C4
                  go_upto_region 15 with (fail)
                  refine wp_region_held_drew (S := fun w' => Below w4.heap.size w4 w') (by kernel_rfl) (below_drew (Below.refl _ _)) (fun _ => ?_)
                  have hHeld : Below w4.heap.size w4 w4.drew := below_drew (Below.refl _ _)
                  generalize w4.drew = V0 at hHeld ⊢
                  refine wpAnyH_take (i := 0) (oi := ⟨some 109, .move (.tmp 18), 30, "law.go:122", #[], none⟩) (v := .int .i64 A1.2.2.2.2) rfl (by kernel_rfl) (by kernel_rfl) (by kernel_rfl) (fun _ _ _ h => h) (Or.inl ⟨by rfl, fun w' hSw => by go_simp⟩) hHeld ?_
                  try simp only [Act.put, List.setIfInBounds_toArray, List.set_cons_zero, List.set_cons_succ]
                  refine wpAnyH_take (i := 1) (oi := ⟨some 110, .move (.tmp 20), 30, "law.go:122", #[], none⟩) (v := .int .i64 A1.2.2.2.2) rfl (by kernel_rfl) (by kernel_rfl) (by kernel_rfl) (fun _ _ _ h => h) (Or.inl ⟨by rfl, fun w' hSw => by go_simp⟩) hHeld ?_
                  try simp only [Act.put, List.setIfInBounds_toArray, List.set_cons_zero, List.set_cons_succ]
                  refine wpAnyH_take (i := 2) (oi := ⟨some 111, .binOp .neq 30 (.tmp 109) (.tmp 110) 30, 4, "law.go:122", #[⟨0, .data⟩, ⟨1, .data⟩], none⟩) (v := .bool false) rfl (by kernel_rfl) (by kernel_rfl) (by kernel_rfl) (fun _ _ _ h => h) (Or.inl ⟨by rfl, fun w' hSw => by go_simp⟩) hHeld ?_
                  try simp only [Act.put, List.setIfInBounds_toArray, List.set_cons_zero, List.set_cons_succ]
                  refine wpAnyH_take (i := 3) (oi := ⟨some 112, .move (.tmp 111), 4, "law.go:122", #[⟨2, .data⟩], none⟩) (v := .bool false) rfl (by kernel_rfl) (by kernel_rfl) (by kernel_rfl) (fun _ _ _ h => h) (Or.inl ⟨by rfl, fun w' hSw => by go_simp⟩) hHeld ?_
                  try simp only [Act.put, List.setIfInBounds_toArray, List.set_cons_zero, List.set_cons_succ]
                  refine wpAnyH_take (i := 4) (oi := ⟨some 113, .move (.tmp 22), 30, "law.go:122", #[⟨3, .guard⟩], some (3, false)⟩) (v := .int .i64 A2.2.2.2.2) rfl (by kernel_rfl) (by kernel_rfl) (by kernel_rfl) (fun _ _ _ h => h) (Or.inl ⟨by rfl, fun w' hSw => by go_simp⟩) hHeld ?_
                  try simp only [Act.put, List.setIfInBounds_toArray, List.set_cons_zero, List.set_cons_succ]
                  refine wpAnyH_take (i := 5) (oi := ⟨some 114, .move (.tmp 24), 30, "law.go:122", #[⟨3, .guard⟩], some (3, false)⟩) (v := .int .i64 A2.2.2.2.2) rfl (by kernel_rfl) (by kernel_rfl) (by kernel_rfl) (fun _ _ _ h => h) (Or.inl ⟨by rfl, fun w' hSw => by go_simp⟩) hHeld ?_
                  try simp only [Act.put, List.setIfInBounds_toArray, List.set_cons_zero, List.set_cons_succ]
                  refine wpAnyH_take (i := 6) (oi := ⟨some 115, .binOp .neq 30 (.tmp 113) (.tmp 114) 30, 4, "law.go:122", #[⟨4, .data⟩, ⟨5, .data⟩, ⟨3, .guard⟩], some (3, false)⟩) (v := .bool false) rfl (by kernel_rfl) (by kernel_rfl) (by kernel_rfl) (fun _ _ _ h => h) (Or.inl ⟨by rfl, fun w' hSw => by go_simp⟩) hHeld ?_
                  try simp only [Act.put, List.setIfInBounds_toArray, List.set_cons_zero, List.set_cons_succ]
                  refine wpAnyH_take (i := 7) (oi := ⟨some 116, .pick (.tmp 112) (.const (Value.bool true)) (.tmp 115), 4, "law.go:122", #[⟨3, .data⟩, ⟨6, .data⟩], none⟩) (v := .bool false) rfl (by kernel_rfl) (by kernel_rfl) (by kernel_rfl) (fun _ _ _ h => h) (Or.inl ⟨by rfl, fun w' hSw => by go_simp⟩) hHeld ?_
                  try simp only [Act.put, List.setIfInBounds_toArray, List.set_cons_zero, List.set_cons_succ]
                  refine wpAnyH_take (i := 8) (oi := ⟨some 117, .move (.tmp 116), 4, "law.go:122", #[⟨7, .data⟩, ⟨3, .chain⟩], none⟩) (v := .bool false) rfl (by kernel_rfl) (by kernel_rfl) (by kernel_rfl) (fun _ _ _ h => h) (Or.inl ⟨by rfl, fun w' hSw => by go_simp⟩) hHeld ?_
                  try simp only [Act.put, List.setIfInBounds_toArray, List.set_cons_zero, List.set_cons_succ]
                  refine wpAnyH_take (i := 9) (oi := ⟨some 118, .load 50 (.tmp 17), 50, "law.go:122", #[⟨8, .guard⟩], some (8, false)⟩) (v := _) rfl (by kernel_rfl) (by kernel_rfl) (by kernel_rfl) (fun _ _ _ h => h) (yieldsIf_load_mid (by rfl) _ _ rfl _ 0 rfl _ _ (fun w' hSw => rng_blk (K1) w' hSw) Tryd.underlying50 rfl (by kernel_rfl)) hHeld ?_
                  try simp only [Act.put, List.setIfInBounds_toArray, List.set_cons_zero, List.set_cons_succ]
                  refine wpAnyH_take (i := 11) (oi := ⟨some 120, .load 54 (.tmp 19), 54, "law.go:122", #[⟨8, .guard⟩], some (8, false)⟩) (v := _) rfl (by kernel_rfl) (by kernel_rfl) (by kernel_rfl) (fun _ _ _ h => h) (yieldsIf_load_mid (by rfl) _ _ rfl _ 0 rfl _ _ (fun w' hSw => rng_blk (K2) w' hSw) Tryd.underlying54 rfl (by kernel_rfl)) hHeld ?_
                  try simp only [Act.put, List.setIfInBounds_toArray, List.set_cons_zero, List.set_cons_succ]
                  refine wpAnyH_ready (rs := [10]) (by kernel_rfl) (by simp) ?_
                  refine AllReadyH.cons (o := ⟨some 119, .call { callee := .value (.func 26), args := #[.tmp 118], argTypes := #[50] }, 54, "law.go:122", #[⟨9, .data⟩, ⟨8, .chain⟩, ⟨8, .guard⟩], some (8, false)⟩) rfl (fun K hK => ?_) AllReadyH.nil
                  rw [if_pos (by rfl)]
                  go_simp
                  refine (modelW A1 f1 _ V0 (P1.keep hHeld)).mono ?_
                  rintro e V2 ⟨m1, rfl, R1, hB2⟩
                  dsimp only
                  refine hK.out _ _ (link hHeld hB2) (fun hHeld => ?_)
                  clear hK K
                  try simp only [Act.put, List.setIfInBounds_toArray, List.set_cons_zero, List.set_cons_succ]
                  refine wpAnyH_ready (rs := [12]) (by kernel_rfl) (by simp) ?_
                  refine AllReadyH.cons (o := ⟨some 121, .call { callee := .value (.func 25), args := #[.tmp 119, .tmp 120], argTypes := #[54, 54] }, 4, "law.go:122", #[⟨10, .data⟩, ⟨11, .data⟩, ⟨10, .chain⟩, ⟨8, .guard⟩], some (8, false)⟩) rfl (fun K hK => ?_) AllReadyH.nil
                  rw [if_pos (by rfl)]
                  go_simp
                  refine (sameW A1 f1 _ _ V2 R1 (P2.keep hHeld)).mono ?_
                  rintro e V3 ⟨rfl, hB3⟩
                  dsimp only
                  refine hK.out _ _ (link hHeld hB3) (fun hHeld => ?_)
                  clear hK K
                  try simp only [Act.put, List.setIfInBounds_toArray, List.set_cons_zero, List.set_cons_succ]
                  clear R1 hB2 hB3
                  refine wpAnyH_take (i := 13) (oi := ⟨some 122, .unOp .not 4 (.tmp 121), 4, "law.go:122", #[⟨12, .data⟩, ⟨8, .guard⟩], some (8, false)⟩) (v := .bool false) rfl (by kernel_rfl) (by kernel_rfl) (by kernel_rfl) (fun _ _ _ h => h) (Or.inl ⟨by rfl, fun w' hSw => by go_simp⟩) hHeld ?_
                  try simp only [Act.put, List.setIfInBounds_toArray, List.set_cons_zero, List.set_cons_succ]
                  refine wpAnyH_take (i := 14) (oi := ⟨some 123, .pick (.tmp 117) (.const (Value.bool true)) (.tmp 122), 4, "law.go:122", #[⟨8, .data⟩, ⟨13, .data⟩], none⟩) (v := .bool false) rfl (by kernel_rfl) (by kernel_rfl) (by kernel_rfl) (fun _ _ _ h => h) (Or.inl ⟨by rfl, fun w' hSw => by go_simp⟩) hHeld ?_
                  try simp only [Act.put, List.setIfInBounds_toArray, List.set_cons_zero, List.set_cons_succ]
                  refine wpAnyH_take (i := 15) (oi := ⟨some 124, .move (.tmp 123), 4, "law.go:122", #[⟨14, .data⟩, ⟨12, .chain⟩], none⟩) (v := .bool false) rfl (by kernel_rfl) (by kernel_rfl) (by kernel_rfl) (fun _ _ _ h => h) (Or.inl ⟨by rfl, fun w' hSw => by go_simp⟩) hHeld ?_
                  try simp only [Act.put, List.setIfInBounds_toArray, List.set_cons_zero, List.set_cons_succ]
                  refine wpAnyH_take (i := 16) (oi := ⟨some 125, .load 50 (.tmp 21), 50, "law.go:122", #[⟨15, .guard⟩], some (15, false)⟩) (v := _) rfl (by kernel_rfl) (by kernel_rfl) (by kernel_rfl) (fun _ _ _ h => h) (yieldsIf_load_mid (by rfl) _ _ rfl _ 0 rfl _ _ (fun w' hSw => rng_blk (K3) w' hSw) Tryd.underlying50 rfl (by kernel_rfl)) hHeld ?_
                  try simp only [Act.put, List.setIfInBounds_toArray, List.set_cons_zero, List.set_cons_succ]
                  refine wpAnyH_take (i := 18) (oi := ⟨some 127, .load 54 (.tmp 23), 54, "law.go:122", #[⟨15, .guard⟩], some (15, false)⟩) (v := _) rfl (by kernel_rfl) (by kernel_rfl) (by kernel_rfl) (fun _ _ _ h => h) (yieldsIf_load_mid (by rfl) _ _ rfl _ 0 rfl _ _ (fun w' hSw => rng_blk (K4) w' hSw) Tryd.underlying54 rfl (by kernel_rfl)) hHeld ?_
                  try simp only [Act.put, List.setIfInBounds_toArray, List.set_cons_zero, List.set_cons_succ]
                  refine wpAnyH_ready (rs := [17]) (by kernel_rfl) (by simp) ?_
                  refine AllReadyH.cons (o := ⟨some 126, .call { callee := .value (.func 26), args := #[.tmp 125], argTypes := #[50] }, 54, "law.go:122", #[⟨16, .data⟩, ⟨15, .chain⟩, ⟨15, .guard⟩], some (15, false)⟩) rfl (fun K hK => ?_) AllReadyH.nil
                  rw [if_pos (by rfl)]
                  go_simp
                  refine (modelW A2 f2 _ V3 (P3.keep hHeld)).mono ?_
                  rintro e V4 ⟨m1, rfl, R1, hB2⟩
                  dsimp only
                  refine hK.out _ _ (link hHeld hB2) (fun hHeld => ?_)
                  clear hK K
                  try simp only [Act.put, List.setIfInBounds_toArray, List.set_cons_zero, List.set_cons_succ]
                  refine wpAnyH_ready (rs := [19]) (by kernel_rfl) (by simp) ?_
                  refine AllReadyH.cons (o := ⟨some 128, .call { callee := .value (.func 25), args := #[.tmp 126, .tmp 127], argTypes := #[54, 54] }, 4, "law.go:122", #[⟨17, .data⟩, ⟨18, .data⟩, ⟨17, .chain⟩, ⟨15, .guard⟩], some (15, false)⟩) rfl (fun K hK => ?_) AllReadyH.nil
                  rw [if_pos (by rfl)]
                  go_simp
                  refine (sameW A2 f2 _ _ V4 R1 (P4.keep hHeld)).mono ?_
                  rintro e V5 ⟨rfl, hB3⟩
                  dsimp only
                  refine hK.out _ _ (link hHeld hB3) (fun hHeld => ?_)
                  clear hK K
                  try simp only [Act.put, List.setIfInBounds_toArray, List.set_cons_zero, List.set_cons_succ]
                  clear R1 hB2 hB3
                  refine wpAnyH_take (i := 20) (oi := ⟨some 129, .unOp .not 4 (.tmp 128), 4, "law.go:122", #[⟨19, .data⟩, ⟨15, .guard⟩], some (15, false)⟩) (v := .bool false) rfl (by kernel_rfl) (by kernel_rfl) (by kernel_rfl) (fun _ _ _ h => h) (Or.inl ⟨by rfl, fun w' hSw => by go_simp⟩) hHeld ?_
                  try simp only [Act.put, List.setIfInBounds_toArray, List.set_cons_zero, List.set_cons_succ]
                  refine wpAnyH_take (i := 21) (oi := ⟨some 130, .pick (.tmp 124) (.const (Value.bool true)) (.tmp 129), 4, "law.go:122", #[⟨15, .data⟩, ⟨20, .data⟩], none⟩) (v := .bool false) rfl (by kernel_rfl) (by kernel_rfl) (by kernel_rfl) (fun _ _ _ h => h) (Or.inl ⟨by rfl, fun w' hSw => by go_simp⟩) hHeld ?_
                  try simp only [Act.put, List.setIfInBounds_toArray, List.set_cons_zero, List.set_cons_succ]
                  refine wpAnyH_done (by kernel_rfl) ?_ _
                  have CB := link BW hHeld
                  clear hHeld
                  go_wp2
                  go_roundw
                  case rel => exact ⟨j + 1, by omega, by go_num, CB⟩
                  case measure => simp [intOf]; omega
        · go_wp2
          go_roundw
          case rel => exact ⟨k + 1, by omega, by go_num, link B8 BW⟩
          case measure => simp [intOf]; omega
    · go_wp2_with (go_at_call 18; refine (HLv.out _ (G3.keep hB)).mono ?_; rintro e V16 ⟨rfl, X16⟩)
      go_ret
      exact ⟨rfl, link (link B3 hB) X16⟩

end Go.Proofs.YtfhfmdnimebegaaDoor
