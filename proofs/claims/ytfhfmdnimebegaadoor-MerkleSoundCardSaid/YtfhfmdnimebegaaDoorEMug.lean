/-
  The reference's Bent: some proof, not much longer than the one at hand.
  Conditions: the tables of the packages hash and passimref02 lie as the program lays them when the call begins (the card ties them to the text); no other.
-/
import Derived.Test.YtfhfmdnimebegaaDoorEw
import Derived.Test.YtfhfmdnimebegaaDoorEd
import Derived.Deep.CutRange

namespace Go.Proofs.YtfhfmdnimebegaaDoor
open Go.RowKit
set_option linter.unusedVariables false
set_option linter.unusedSimpArgs false

/-- A proof in a variable of its own, its slices in memory of its own. -/
def Laid1 (W0 : World) (F S : Int) (lf : List Lf) (sd : List (List Nat)) (s : Value) (wx : World) : Prop :=
  ∃ tp v1 v2, s = .pointer (some ⟨tp, 0, none⟩) ∧ W0.heap.size ≤ tp ∧ Blk wx tp 54 [.int .i64 F, .int .i64 S, v1, v2] ∧ OwnRL wx W0.heap.size v1 lf ∧ OwnD wx W0.heap.size v2 sd ∧ Below W0.heap.size W0 wx

set_option maxHeartbeats 16000000 in
set_option maxRecDepth 100000 in
theorem rbent_any (F S : Int) (lf : List Lf) (sd : List (List Nat)) (N : Nat) (hN2 : 2 ≤ N) (hN : N ≤ 1000000) (hz : Sz N lf) (hln : lf.length ≤ 1000) (hd : Dgts sd) (hsn : sd.length ≤ 1000) (how by_ : Int) (hh1 : -9223372036854775808 ≤ how) (hh2 : how ≤ 9223372036854775807) (hb1 : -9223372036854775808 ≤ by_) (hb2 : by_ ≤ 9223372036854775807) (v : Value) (w : World) (hP : PI w F S lf sd v) :
    Calls Tryd.prog 27 #[v, .int .i64 how, .int .i64 by_] w (BentV w (N + 1) (lf.length + 1) (sd.length + 1)) := by
  obtain ⟨q, c, sa, sc, rfl, hL, hq, hS, hqs, _⟩ := hP
  have HAb := Lib.hid (fun (m : Nat) (h0 : 0 < m) (h1 : m ≤ 1000000) (V : World) => around_any by_ hb1 hb2 m h0 h1 V)
  have HAh := Lib.hid (fun (V : World) => around_any how hh1 hh2 11 (by omega) (by omega) V)
  obtain ⟨n, hn⟩ : ∃ n, lf.length = n := ⟨_, rfl⟩
  obtain ⟨k, hk⟩ : ∃ k, sd.length = k := ⟨_, rfl⟩
  rw [hn] at hln ⊢
  rw [hk] at hS hsn ⊢
  have HN := Lib.hid hn
  have HK := Lib.hid hk
  have hn6 : n ≤ 1000000 := by omega
  have hk6 : k ≤ 1000000 := by omega
  clear hn hk
  go_enter Tryd.func27, Tryd.ntmps27
  go_upto_region 1 with (fail)
  generalize hw1 : World.alloc _ _ = W0
  have Kr : Blk W0 (w.heap.size + 1) 54 zeroPrf := hw1 ▸ blk_new1 w _ _ _
  have Ka : Blk W0 w.heap.size 54 [.int .i64 F, .int .i64 S, .slice q n c, .slice sa k sc] := hw1 ▸ ((blk_new w _ _).alloc _)
  have KB : Below w.heap.size w W0 := hw1 ▸ (((Below.refl _ _).alloc (Nat.le_refl _) _).alloc (by simp) _)
  clear hw1
  have HL := Lib.hid (fun (V : World) (hB : Below W0.heap.size W0 V) => (hL.keep (link KB hB) : OwnL V q lf))
  have HS := Lib.hid (fun (V : World) (hB : Below W0.heap.size W0 V) => ((hS.self KB).keep hB : SdV V W0.heap.size (.slice sa k sc) sd))
  go_cut [7] from 10 (fun s7 wx => Laid1 W0 F S lf sd s7 wx)
  case first =>
    refine wp_region_held_drew (S := fun w' => Below W0.heap.size W0 w') (by kernel_rfl) (below_drew (Below.refl _ _)) (fun _ => ?_)
    have hHeld : Below W0.heap.size W0 W0.drew := below_drew (Below.refl _ _)
    have C0 : ∀ w', Below W0.heap.size W0 w' → w'.cell? ⟨w.heap.size, 0, none⟩ = some (.int .i64 F) := fun w' h => (h.cell Ka.lt).trans (Ka.cell (j := 0) rfl)
    have C1 : ∀ w', Below W0.heap.size W0 w' → w'.cell? ⟨w.heap.size, 1, none⟩ = some (.int .i64 S) := fun w' h => (h.cell Ka.lt).trans (Ka.cell (j := 1) rfl)
    have C2 : ∀ w', Below W0.heap.size W0 w' → w'.cell? ⟨w.heap.size, 2, none⟩ = some (.slice q n c) := fun w' h => (h.cell Ka.lt).trans (Ka.cell (j := 2) rfl)
    have C3 : ∀ w', Below W0.heap.size W0 w' → w'.cell? ⟨w.heap.size, 3, none⟩ = some (.slice sa k sc) := fun w' h => (h.cell Ka.lt).trans (Ka.cell (j := 3) rfl)
    generalize W0.drew = V0 at hHeld ⊢
    refine wt (i := 0) (oi := ⟨some 10, .fieldAddr 54 (.tmp 3) 0, 0, "ref.go:329", #[], none⟩) (v := .pointer (some ⟨w.heap.size, 0, none⟩)) (Or.inl ⟨by rfl, fun w' hSw => by go_simp⟩) hHeld ?_
    try simp only [zP, zQ, zS, zZ, zC]
    refine wt (i := 1) (oi := ⟨some 11, .load 3 (.tmp 10), 3, "ref.go:329", #[⟨0, .data⟩], none⟩) (v := .int .i64 F) (Or.inl ⟨by rfl, fun w' hSw => by have hc := C0 w' hSw; go_simp⟩) hHeld ?_
    try simp only [zP, zQ, zS, zZ, zC]
    refine wt (i := 2) (oi := ⟨some 12, .fieldAddr 54 (.tmp 3) 1, 0, "ref.go:329", #[], none⟩) (v := .pointer (some ⟨w.heap.size, 1, none⟩)) (Or.inl ⟨by rfl, fun w' hSw => by go_simp⟩) hHeld ?_
    try simp only [zP, zQ, zS, zZ, zC]
    refine wt (i := 3) (oi := ⟨some 13, .load 3 (.tmp 12), 3, "ref.go:329", #[⟨2, .data⟩], none⟩) (v := .int .i64 S) (Or.inl ⟨by rfl, fun w' hSw => by have hc := C1 w' hSw; go_simp⟩) hHeld ?_
    try simp only [zP, zQ, zS, zZ, zC]
    refine wt (i := 5) (oi := ⟨some 15, .fieldAddr 54 (.tmp 3) 2, 0, "ref.go:329", #[], none⟩) (v := .pointer (some ⟨w.heap.size, 2, none⟩)) (Or.inl ⟨by rfl, fun w' hSw => by go_simp⟩) hHeld ?_
    try simp only [zP, zQ, zS, zZ, zC]
    refine wt (i := 6) (oi := ⟨some 16, .load 24 (.tmp 15), 24, "ref.go:329", #[⟨5, .data⟩], none⟩) (v := .slice q n c) (Or.inl ⟨by rfl, fun w' hSw => by have hc := C2 w' hSw; go_simp⟩) hHeld ?_
    try simp only [zP, zQ, zS, zZ, zC]
    refine wt (i := 9) (oi := ⟨some 19, .fieldAddr 54 (.tmp 3) 3, 0, "ref.go:329", #[], none⟩) (v := .pointer (some ⟨w.heap.size, 3, none⟩)) (Or.inl ⟨by rfl, fun w' hSw => by go_simp⟩) hHeld ?_
    try simp only [zP, zQ, zS, zZ, zC]
    refine wt (i := 10) (oi := ⟨some 20, .load 48 (.tmp 19), 48, "ref.go:329", #[⟨9, .data⟩], none⟩) (v := .slice sa k sc) (Or.inl ⟨by rfl, fun w' hSw => by have hc := C3 w' hSw; go_simp⟩) hHeld ?_
    try simp only [zP, zQ, zS, zZ, zC]
    clear C0 C1 C2 C3
    refine wpAnyH_ready (rs := [4, 8, 13]) (by kernel_rfl) (by simp) ?_
    refine AllReadyH.cons (o := ⟨some 14, .buildSlice 24 0 #[], 24, "ref.go:329", #[], none⟩) rfl (fun K hK => ?_) (AllReadyH.cons (o := ⟨some 18, .buildSlice 48 0 #[], 48, "ref.go:329", #[], none⟩) rfl (fun K hK => ?_) (AllReadyH.cons (o := ⟨some 7, .alloc 54, 0, "ref.go:329", #[], none⟩) rfl (fun K hK => ?_) AllReadyH.nil))
    · rw [if_pos (by rfl)]
      go_simp
      have X : Oth 0 V0 (World.alloc V0 (.cells #[] 75)) := Oth.alloc 0 _ _
      have X2 : Below V0.heap.size V0 (World.alloc V0 (.cells #[] 75)) := (Below.refl _ _).alloc (Nat.le_refl _) _
      have hge : W0.heap.size ≤ V0.heap.size := hHeld.size
      have Ea : (World.alloc V0 (.cells #[] 75)).heap[V0.heap.size]? = some (.cells #[] 75 (0, 0)) := heap_alloc_new V0 _
      refine hK.out _ _ (link hHeld X2) (fun hHeld => ?_)
      clear hK K
      try simp only [zP, zQ, zS, zZ, zC]
      clear X X2
      generalize World.alloc V0 _ = V1 at Ea hHeld ⊢
      generalize V0.heap.size = ga at Ea hge ⊢
      have hga := hge
      clear hge
      refine wpAnyH_ready (rs := [7, 8, 13]) (by kernel_rfl) (by simp) ?_
      refine AllReadyH.cons (o := ⟨some 17, .call { callee := .builtin .append, args := #[.tmp 14, .tmp 16], argTypes := #[24, 24] }, 24, "ref.go:329", #[⟨4, .data⟩, ⟨6, .data⟩], none⟩) rfl (fun K hK => ?_) (AllReadyH.cons (o := ⟨some 18, .buildSlice 48 0 #[], 48, "ref.go:329", #[], none⟩) rfl (fun K hK => ?_) (AllReadyH.cons (o := ⟨some 7, .alloc 54, 0, "ref.go:329", #[], none⟩) rfl (fun K hK => ?_) AllReadyH.nil))
      · rw [if_pos (by rfl)]
        refine app_leaves (w := V1) (.tmp 14) (.tmp 16) rfl W0.heap.size ga rfl Ea hga lf q n c rfl HN.out hn6 hq (HL.out V1 hHeld) ?_
        intro v1 V2 O1n X hB
        obtain ⟨p1, c1, rfl⟩ := row_form O1n
        clear Ea hga
        have O1 := O1n
        clear O1n
        refine hK.out _ _ (hHeld.trans hB) (fun hHeld => ?_)
        clear hK K
        try simp only [zP, zQ, zS, zZ, zC]
        clear X hB
        refine wpAnyH_ready (rs := [8, 13]) (by kernel_rfl) (by simp) ?_
        refine AllReadyH.cons (o := ⟨some 18, .buildSlice 48 0 #[], 48, "ref.go:329", #[], none⟩) rfl (fun K hK => ?_) (AllReadyH.cons (o := ⟨some 7, .alloc 54, 0, "ref.go:329", #[], none⟩) rfl (fun K hK => ?_) AllReadyH.nil)
        · rw [if_pos (by rfl)]
          go_simp
          have X : Oth 0 V2 (World.alloc V2 (.cells #[] 29)) := Oth.alloc 0 _ _
          have X2 : Below V2.heap.size V2 (World.alloc V2 (.cells #[] 29)) := (Below.refl _ _).alloc (Nat.le_refl _) _
          have hge : W0.heap.size ≤ V2.heap.size := hHeld.size
          replace O1 := X.row O1 (by decide)
          have Ec : (World.alloc V2 (.cells #[] 29)).heap[V2.heap.size]? = some (.cells #[] 29 (0, 0)) := heap_alloc_new V2 _
          refine hK.out _ _ (link hHeld X2) (fun hHeld => ?_)
          clear hK K
          try simp only [zP, zQ, zS, zZ, zC]
          clear X X2
          generalize World.alloc V2 _ = V3 at O1 Ec hHeld ⊢
          generalize V2.heap.size = gc at Ec hge ⊢
          have hgc := hge
          clear hge
          refine wpAnyH_ready (rs := [11, 13]) (by kernel_rfl) (by simp) ?_
          refine AllReadyH.cons (o := ⟨some 21, .call { callee := .builtin .append, args := #[.tmp 18, .tmp 20], argTypes := #[48, 48] }, 48, "ref.go:329", #[⟨8, .data⟩, ⟨10, .data⟩, ⟨7, .chain⟩], none⟩) rfl (fun K hK => ?_) (AllReadyH.cons (o := ⟨some 7, .alloc 54, 0, "ref.go:329", #[], none⟩) rfl (fun K hK => ?_) AllReadyH.nil)
          · rw [if_pos (by rfl)]
            refine app_dgts (w := V3) (.tmp 18) (.tmp 20) rfl W0.heap.size gc rfl Ec hgc sd hd sa k sc W0.heap.size rfl HK.out hk6 hqs (HS.out V3 hHeld) ?_
            intro v2 V4 O2n X hB
            obtain ⟨p2, c2, rfl⟩ := row_form O2n
            replace O1 := X.row O1 (by decide)
            clear Ec hgc
            have O2 := O2n
            clear O2n
            refine hK.out _ _ (hHeld.trans hB) (fun hHeld => ?_)
            clear hK K
            try simp only [zP, zQ, zS, zZ, zC]
            clear X hB
            refine wt (i := 12) (oi := ⟨some 22, .build 54 #[(0, .tmp 11), (1, .tmp 13), (2, .tmp 17), (3, .tmp 21)], 54, "ref.go:329", #[⟨1, .data⟩, ⟨3, .data⟩, ⟨7, .data⟩, ⟨11, .data⟩], none⟩) (v := .agg #[.int .i64 F, .int .i64 S, .slice p1 lf.length c1, .slice p2 sd.length c2]) (Or.inl ⟨by rfl, fun w' hSw => by go_simp⟩) hHeld ?_
            try simp only [zP, zQ, zS, zZ, zC]
            refine wpAnyH_ready (rs := [13]) (by kernel_rfl) (by simp) ?_
            refine AllReadyH.cons (o := ⟨some 7, .alloc 54, 0, "ref.go:329", #[], none⟩) rfl (fun K hK => ?_) AllReadyH.nil
            rw [if_pos (by rfl)]
            go_simp
            have X : Oth 0 V4 (World.alloc V4 (.cells zeroPrf.toArray 54)) := Oth.alloc 0 _ _
            have X2 : Below V4.heap.size V4 (World.alloc V4 (.cells zeroPrf.toArray 54)) := (Below.refl _ _).alloc (Nat.le_refl _) _
            have hge : W0.heap.size ≤ V4.heap.size := hHeld.size
            replace O1 := X.row O1 (by decide)
            replace O2 := X.row O2 (by decide)
            have Kt : Blk (World.alloc V4 (.cells zeroPrf.toArray 54)) V4.heap.size 54 zeroPrf := blk_new V4 54 zeroPrf.toArray
            refine hK.out _ _ (link hHeld X2) (fun hHeld => ?_)
            clear hK K
            try simp only [zP, zQ, zS, zZ, zC]
            clear X X2
            generalize World.alloc V4 _ = V5 at O1 O2 Kt hHeld ⊢
            generalize V4.heap.size = tp at Kt hge ⊢
            have htp := hge
            clear hge
            refine wpAnyH_ready (rs := [14]) (by kernel_rfl) (by simp) ?_
            refine AllReadyH.cons (o := ⟨none, .store 54 (.tmp 7) (.tmp 22), 0, "ref.go:329", #[⟨13, .data⟩, ⟨12, .data⟩, ⟨11, .chain⟩, ⟨0, .phase⟩, ⟨1, .phase⟩, ⟨2, .phase⟩, ⟨3, .phase⟩, ⟨4, .phase⟩, ⟨5, .phase⟩, ⟨6, .phase⟩, ⟨7, .phase⟩, ⟨8, .phase⟩, ⟨9, .phase⟩, ⟨10, .phase⟩, ⟨11, .phase⟩, ⟨12, .phase⟩, ⟨13, .phase⟩], none⟩) rfl (fun K hK => ?_) AllReadyH.nil
            rw [if_pos (by rfl)]
            refine wp_store_mid 54 (.tmp 7) (.tmp 22) rfl tp 0 #[.int .i64 F, .int .i64 S, .slice p1 lf.length c1, .slice p2 sd.length c2] rfl rfl (by simpa using Kt.there 0 4 (by simp)) (by kernel_rfl) (all_oneCell_toArray (by intro v hv; simp at hv; rcases hv with rfl | rfl | rfl | rfl <;> rfl)) ?_
            have Kq : Blk (V5.setCells tp 0 [.int .i64 F, .int .i64 S, .slice p1 lf.length c1, .slice p2 sd.length c2]) tp 54 [.int .i64 F, .int .i64 S, .slice p1 lf.length c1, .slice p2 sd.length c2] := Kt.all rfl
            have H := (only_sets tp 0 V5 [.int .i64 F, .int .i64 S, .slice p1 lf.length c1, .slice p2 sd.length c2]).2.2 _ _ htp hHeld
            have X := Oth.setCells Kt 0 [.int .i64 F, .int .i64 S, .slice p1 lf.length c1, .slice p2 sd.length c2]
            replace O1 := X.row O1 (by decide)
            replace O2 := X.row O2 (by decide)
            clear X Kt
            dsimp only
            generalize World.setCells V5 tp 0 [.int .i64 F, .int .i64 S, .slice p1 lf.length c1, .slice p2 sd.length c2] = VF at O1 O2 Kq H ⊢
            refine hK.out _ _ (H) (fun hHeld => ?_)
            clear hK K
            try simp only [zP, zQ, zS, zZ, zC]
            refine wpAnyH_done (by kernel_rfl) ?_ _
            clear hHeld
            go_wp2_with fail
            go_meet
            exact ⟨tp, _, _, rfl, htp, Kq, O1, O2, H⟩
          · rw [if_pos (by rfl)]
            go_simp
            have X : Oth 0 V3 (World.alloc V3 (.cells zeroPrf.toArray 54)) := Oth.alloc 0 _ _
            have X2 : Below V3.heap.size V3 (World.alloc V3 (.cells zeroPrf.toArray 54)) := (Below.refl _ _).alloc (Nat.le_refl _) _
            have hge : W0.heap.size ≤ V3.heap.size := hHeld.size
            replace O1 := X.row O1 (by decide)
            replace Ec := X.2 _ _ _ _ (by decide) Ec
            have Kt : Blk (World.alloc V3 (.cells zeroPrf.toArray 54)) V3.heap.size 54 zeroPrf := blk_new V3 54 zeroPrf.toArray
            refine hK.out _ _ (link hHeld X2) (fun hHeld => ?_)
            clear hK K
            try simp only [zP, zQ, zS, zZ, zC]
            clear X X2
            generalize World.alloc V3 _ = V4 at O1 Ec Kt hHeld ⊢
            generalize V3.heap.size = tp at Kt hge ⊢
            have htp := hge
            clear hge
            refine wpAnyH_ready (rs := [11]) (by kernel_rfl) (by simp) ?_
            refine AllReadyH.cons (o := ⟨some 21, .call { callee := .builtin .append, args := #[.tmp 18, .tmp 20], argTypes := #[48, 48] }, 48, "ref.go:329", #[⟨8, .data⟩, ⟨10, .data⟩, ⟨7, .chain⟩], none⟩) rfl (fun K hK => ?_) AllReadyH.nil
            rw [if_pos (by rfl)]
            refine app_dgts (w := V4) (.tmp 18) (.tmp 20) rfl W0.heap.size gc rfl Ec hgc sd hd sa k sc W0.heap.size rfl HK.out hk6 hqs (HS.out V4 hHeld) ?_
            intro v2 V5 O2n X hB
            obtain ⟨p2, c2, rfl⟩ := row_form O2n
            replace O1 := X.row O1 (by decide)
            replace Kt := X.blk Kt (by decide)
            clear Ec hgc
            have O2 := O2n
            clear O2n
            refine hK.out _ _ (hHeld.trans hB) (fun hHeld => ?_)
            clear hK K
            try simp only [zP, zQ, zS, zZ, zC]
            clear X hB
            refine wt (i := 12) (oi := ⟨some 22, .build 54 #[(0, .tmp 11), (1, .tmp 13), (2, .tmp 17), (3, .tmp 21)], 54, "ref.go:329", #[⟨1, .data⟩, ⟨3, .data⟩, ⟨7, .data⟩, ⟨11, .data⟩], none⟩) (v := .agg #[.int .i64 F, .int .i64 S, .slice p1 lf.length c1, .slice p2 sd.length c2]) (Or.inl ⟨by rfl, fun w' hSw => by go_simp⟩) hHeld ?_
            try simp only [zP, zQ, zS, zZ, zC]
            refine wpAnyH_ready (rs := [14]) (by kernel_rfl) (by simp) ?_
            refine AllReadyH.cons (o := ⟨none, .store 54 (.tmp 7) (.tmp 22), 0, "ref.go:329", #[⟨13, .data⟩, ⟨12, .data⟩, ⟨11, .chain⟩, ⟨0, .phase⟩, ⟨1, .phase⟩, ⟨2, .phase⟩, ⟨3, .phase⟩, ⟨4, .phase⟩, ⟨5, .phase⟩, ⟨6, .phase⟩, ⟨7, .phase⟩, ⟨8, .phase⟩, ⟨9, .phase⟩, ⟨10, .phase⟩, ⟨11, .phase⟩, ⟨12, .phase⟩, ⟨13, .phase⟩], none⟩) rfl (fun K hK => ?_) AllReadyH.nil
            rw [if_pos (by rfl)]
            refine wp_store_mid 54 (.tmp 7) (.tmp 22) rfl tp 0 #[.int .i64 F, .int .i64 S, .slice p1 lf.length c1, .slice p2 sd.length c2] rfl rfl (by simpa using Kt.there 0 4 (by simp)) (by kernel_rfl) (all_oneCell_toArray (by intro v hv; simp at hv; rcases hv with rfl | rfl | rfl | rfl <;> rfl)) ?_
            have Kq : Blk (V5.setCells tp 0 [.int .i64 F, .int .i64 S, .slice p1 lf.length c1, .slice p2 sd.length c2]) tp 54 [.int .i64 F, .int .i64 S, .slice p1 lf.length c1, .slice p2 sd.length c2] := Kt.all rfl
            have H := (only_sets tp 0 V5 [.int .i64 F, .int .i64 S, .slice p1 lf.length c1, .slice p2 sd.length c2]).2.2 _ _ htp hHeld
            have X := Oth.setCells Kt 0 [.int .i64 F, .int .i64 S, .slice p1 lf.length c1, .slice p2 sd.length c2]
            replace O1 := X.row O1 (by decide)
            replace O2 := X.row O2 (by decide)
            clear X Kt
            dsimp only
            generalize World.setCells V5 tp 0 [.int .i64 F, .int .i64 S, .slice p1 lf.length c1, .slice p2 sd.length c2] = VF at O1 O2 Kq H ⊢
            refine hK.out _ _ (H) (fun hHeld => ?_)
            clear hK K
            try simp only [zP, zQ, zS, zZ, zC]
            refine wpAnyH_done (by kernel_rfl) ?_ _
            clear hHeld
            go_wp2_with fail
            go_meet
            exact ⟨tp, _, _, rfl, htp, Kq, O1, O2, H⟩
        · rw [if_pos (by rfl)]
          go_simp
          have X : Oth 0 V2 (World.alloc V2 (.cells zeroPrf.toArray 54)) := Oth.alloc 0 _ _
          have X2 : Below V2.heap.size V2 (World.alloc V2 (.cells zeroPrf.toArray 54)) := (Below.refl _ _).alloc (Nat.le_refl _) _
          have hge : W0.heap.size ≤ V2.heap.size := hHeld.size
          replace O1 := X.row O1 (by decide)
          have Kt : Blk (World.alloc V2 (.cells zeroPrf.toArray 54)) V2.heap.size 54 zeroPrf := blk_new V2 54 zeroPrf.toArray
          refine hK.out _ _ (link hHeld X2) (fun hHeld => ?_)
          clear hK K
          try simp only [zP, zQ, zS, zZ, zC]
          clear X X2
          generalize World.alloc V2 _ = V3 at O1 Kt hHeld ⊢
          generalize V2.heap.size = tp at Kt hge ⊢
          have htp := hge
          clear hge
          refine wpAnyH_ready (rs := [8]) (by kernel_rfl) (by simp) ?_
          refine AllReadyH.cons (o := ⟨some 18, .buildSlice 48 0 #[], 48, "ref.go:329", #[], none⟩) rfl (fun K hK => ?_) AllReadyH.nil
          rw [if_pos (by rfl)]
          go_simp
          have X : Oth 0 V3 (World.alloc V3 (.cells #[] 29)) := Oth.alloc 0 _ _
          have X2 : Below V3.heap.size V3 (World.alloc V3 (.cells #[] 29)) := (Below.refl _ _).alloc (Nat.le_refl _) _
          have hge : W0.heap.size ≤ V3.heap.size := hHeld.size
          replace O1 := X.row O1 (by decide)
          replace Kt := X.blk Kt (by decide)
          have Ec : (World.alloc V3 (.cells #[] 29)).heap[V3.heap.size]? = some (.cells #[] 29 (0, 0)) := heap_alloc_new V3 _
          refine hK.out _ _ (link hHeld X2) (fun hHeld => ?_)
          clear hK K
          try simp only [zP, zQ, zS, zZ, zC]
          clear X X2
          generalize World.alloc V3 _ = V4 at O1 Ec Kt hHeld ⊢
          generalize V3.heap.size = gc at Ec hge ⊢
          have hgc := hge
          clear hge
          refine wpAnyH_ready (rs := [11]) (by kernel_rfl) (by simp) ?_
          refine AllReadyH.cons (o := ⟨some 21, .call { callee := .builtin .append, args := #[.tmp 18, .tmp 20], argTypes := #[48, 48] }, 48, "ref.go:329", #[⟨8, .data⟩, ⟨10, .data⟩, ⟨7, .chain⟩], none⟩) rfl (fun K hK => ?_) AllReadyH.nil
          rw [if_pos (by rfl)]
          refine app_dgts (w := V4) (.tmp 18) (.tmp 20) rfl W0.heap.size gc rfl Ec hgc sd hd sa k sc W0.heap.size rfl HK.out hk6 hqs (HS.out V4 hHeld) ?_
          intro v2 V5 O2n X hB
          obtain ⟨p2, c2, rfl⟩ := row_form O2n
          replace O1 := X.row O1 (by decide)
          replace Kt := X.blk Kt (by decide)
          clear Ec hgc
          have O2 := O2n
          clear O2n
          refine hK.out _ _ (hHeld.trans hB) (fun hHeld => ?_)
          clear hK K
          try simp only [zP, zQ, zS, zZ, zC]
          clear X hB
          refine wt (i := 12) (oi := ⟨some 22, .build 54 #[(0, .tmp 11), (1, .tmp 13), (2, .tmp 17), (3, .tmp 21)], 54, "ref.go:329", #[⟨1, .data⟩, ⟨3, .data⟩, ⟨7, .data⟩, ⟨11, .data⟩], none⟩) (v := .agg #[.int .i64 F, .int .i64 S, .slice p1 lf.length c1, .slice p2 sd.length c2]) (Or.inl ⟨by rfl, fun w' hSw => by go_simp⟩) hHeld ?_
          try simp only [zP, zQ, zS, zZ, zC]
          refine wpAnyH_ready (rs := [14]) (by kernel_rfl) (by simp) ?_
          refine AllReadyH.cons (o := ⟨none, .store 54 (.tmp 7) (.tmp 22), 0, "ref.go:329", #[⟨13, .data⟩, ⟨12, .data⟩, ⟨11, .chain⟩, ⟨0, .phase⟩, ⟨1, .phase⟩, ⟨2, .phase⟩, ⟨3, .phase⟩, ⟨4, .phase⟩, ⟨5, .phase⟩, ⟨6, .phase⟩, ⟨7, .phase⟩, ⟨8, .phase⟩, ⟨9, .phase⟩, ⟨10, .phase⟩, ⟨11, .phase⟩, ⟨12, .phase⟩, ⟨13, .phase⟩], none⟩) rfl (fun K hK => ?_) AllReadyH.nil
          rw [if_pos (by rfl)]
          refine wp_store_mid 54 (.tmp 7) (.tmp 22) rfl tp 0 #[.int .i64 F, .int .i64 S, .slice p1 lf.length c1, .slice p2 sd.length c2] rfl rfl (by simpa using Kt.there 0 4 (by simp)) (by kernel_rfl) (all_oneCell_toArray (by intro v hv; simp at hv; rcases hv with rfl | rfl | rfl | rfl <;> rfl)) ?_
          have Kq : Blk (V5.setCells tp 0 [.int .i64 F, .int .i64 S, .slice p1 lf.length c1, .slice p2 sd.length c2]) tp 54 [.int .i64 F, .int .i64 S, .slice p1 lf.length c1, .slice p2 sd.length c2] := Kt.all rfl
          have H := (only_sets tp 0 V5 [.int .i64 F, .int .i64 S, .slice p1 lf.length c1, .slice p2 sd.length c2]).2.2 _ _ htp hHeld
          have X := Oth.setCells Kt 0 [.int .i64 F, .int .i64 S, .slice p1 lf.length c1, .slice p2 sd.length c2]
          replace O1 := X.row O1 (by decide)
          replace O2 := X.row O2 (by decide)
          clear X Kt
          dsimp only
          generalize World.setCells V5 tp 0 [.int .i64 F, .int .i64 S, .slice p1 lf.length c1, .slice p2 sd.length c2] = VF at O1 O2 Kq H ⊢
          refine hK.out _ _ (H) (fun hHeld => ?_)
          clear hK K
          try simp only [zP, zQ, zS, zZ, zC]
          refine wpAnyH_done (by kernel_rfl) ?_ _
          clear hHeld
          go_wp2_with fail
          go_meet
          exact ⟨tp, _, _, rfl, htp, Kq, O1, O2, H⟩
      · rw [if_pos (by rfl)]
        go_simp
        have X : Oth 0 V1 (World.alloc V1 (.cells #[] 29)) := Oth.alloc 0 _ _
        have X2 : Below V1.heap.size V1 (World.alloc V1 (.cells #[] 29)) := (Below.refl _ _).alloc (Nat.le_refl _) _
        have hge : W0.heap.size ≤ V1.heap.size := hHeld.size
        replace Ea := X.2 _ _ _ _ (by decide) Ea
        have Ec : (World.alloc V1 (.cells #[] 29)).heap[V1.heap.size]? = some (.cells #[] 29 (0, 0)) := heap_alloc_new V1 _
        refine hK.out _ _ (link hHeld X2) (fun hHeld => ?_)
        clear hK K
        try simp only [zP, zQ, zS, zZ, zC]
        clear X X2
        generalize World.alloc V1 _ = V2 at Ea Ec hHeld ⊢
        generalize V1.heap.size = gc at Ec hge ⊢
        have hgc := hge
        clear hge
        refine wpAnyH_ready (rs := [7, 13]) (by kernel_rfl) (by simp) ?_
        refine AllReadyH.cons (o := ⟨some 17, .call { callee := .builtin .append, args := #[.tmp 14, .tmp 16], argTypes := #[24, 24] }, 24, "ref.go:329", #[⟨4, .data⟩, ⟨6, .data⟩], none⟩) rfl (fun K hK => ?_) (AllReadyH.cons (o := ⟨some 7, .alloc 54, 0, "ref.go:329", #[], none⟩) rfl (fun K hK => ?_) AllReadyH.nil)
        · rw [if_pos (by rfl)]
          refine app_leaves (w := V2) (.tmp 14) (.tmp 16) rfl W0.heap.size ga rfl Ea hga lf q n c rfl HN.out hn6 hq (HL.out V2 hHeld) ?_
          intro v1 V3 O1n X hB
          obtain ⟨p1, c1, rfl⟩ := row_form O1n
          replace Ec := X.2 _ _ _ _ (by decide) Ec
          clear Ea hga
          have O1 := O1n
          clear O1n
          refine hK.out _ _ (hHeld.trans hB) (fun hHeld => ?_)
          clear hK K
          try simp only [zP, zQ, zS, zZ, zC]
          clear X hB
          refine wpAnyH_ready (rs := [11, 13]) (by kernel_rfl) (by simp) ?_
          refine AllReadyH.cons (o := ⟨some 21, .call { callee := .builtin .append, args := #[.tmp 18, .tmp 20], argTypes := #[48, 48] }, 48, "ref.go:329", #[⟨8, .data⟩, ⟨10, .data⟩, ⟨7, .chain⟩], none⟩) rfl (fun K hK => ?_) (AllReadyH.cons (o := ⟨some 7, .alloc 54, 0, "ref.go:329", #[], none⟩) rfl (fun K hK => ?_) AllReadyH.nil)
          · rw [if_pos (by rfl)]
            refine app_dgts (w := V3) (.tmp 18) (.tmp 20) rfl W0.heap.size gc rfl Ec hgc sd hd sa k sc W0.heap.size rfl HK.out hk6 hqs (HS.out V3 hHeld) ?_
            intro v2 V4 O2n X hB
            obtain ⟨p2, c2, rfl⟩ := row_form O2n
            replace O1 := X.row O1 (by decide)
            clear Ec hgc
            have O2 := O2n
            clear O2n
            refine hK.out _ _ (hHeld.trans hB) (fun hHeld => ?_)
            clear hK K
            try simp only [zP, zQ, zS, zZ, zC]
            clear X hB
            refine wt (i := 12) (oi := ⟨some 22, .build 54 #[(0, .tmp 11), (1, .tmp 13), (2, .tmp 17), (3, .tmp 21)], 54, "ref.go:329", #[⟨1, .data⟩, ⟨3, .data⟩, ⟨7, .data⟩, ⟨11, .data⟩], none⟩) (v := .agg #[.int .i64 F, .int .i64 S, .slice p1 lf.length c1, .slice p2 sd.length c2]) (Or.inl ⟨by rfl, fun w' hSw => by go_simp⟩) hHeld ?_
            try simp only [zP, zQ, zS, zZ, zC]
            refine wpAnyH_ready (rs := [13]) (by kernel_rfl) (by simp) ?_
            refine AllReadyH.cons (o := ⟨some 7, .alloc 54, 0, "ref.go:329", #[], none⟩) rfl (fun K hK => ?_) AllReadyH.nil
            rw [if_pos (by rfl)]
            go_simp
            have X : Oth 0 V4 (World.alloc V4 (.cells zeroPrf.toArray 54)) := Oth.alloc 0 _ _
            have X2 : Below V4.heap.size V4 (World.alloc V4 (.cells zeroPrf.toArray 54)) := (Below.refl _ _).alloc (Nat.le_refl _) _
            have hge : W0.heap.size ≤ V4.heap.size := hHeld.size
            replace O1 := X.row O1 (by decide)
            replace O2 := X.row O2 (by decide)
            have Kt : Blk (World.alloc V4 (.cells zeroPrf.toArray 54)) V4.heap.size 54 zeroPrf := blk_new V4 54 zeroPrf.toArray
            refine hK.out _ _ (link hHeld X2) (fun hHeld => ?_)
            clear hK K
            try simp only [zP, zQ, zS, zZ, zC]
            clear X X2
            generalize World.alloc V4 _ = V5 at O1 O2 Kt hHeld ⊢
            generalize V4.heap.size = tp at Kt hge ⊢
            have htp := hge
            clear hge
            refine wpAnyH_ready (rs := [14]) (by kernel_rfl) (by simp) ?_
            refine AllReadyH.cons (o := ⟨none, .store 54 (.tmp 7) (.tmp 22), 0, "ref.go:329", #[⟨13, .data⟩, ⟨12, .data⟩, ⟨11, .chain⟩, ⟨0, .phase⟩, ⟨1, .phase⟩, ⟨2, .phase⟩, ⟨3, .phase⟩, ⟨4, .phase⟩, ⟨5, .phase⟩, ⟨6, .phase⟩, ⟨7, .phase⟩, ⟨8, .phase⟩, ⟨9, .phase⟩, ⟨10, .phase⟩, ⟨11, .phase⟩, ⟨12, .phase⟩, ⟨13, .phase⟩], none⟩) rfl (fun K hK => ?_) AllReadyH.nil
            rw [if_pos (by rfl)]
            refine wp_store_mid 54 (.tmp 7) (.tmp 22) rfl tp 0 #[.int .i64 F, .int .i64 S, .slice p1 lf.length c1, .slice p2 sd.length c2] rfl rfl (by simpa using Kt.there 0 4 (by simp)) (by kernel_rfl) (all_oneCell_toArray (by intro v hv; simp at hv; rcases hv with rfl | rfl | rfl | rfl <;> rfl)) ?_
            have Kq : Blk (V5.setCells tp 0 [.int .i64 F, .int .i64 S, .slice p1 lf.length c1, .slice p2 sd.length c2]) tp 54 [.int .i64 F, .int .i64 S, .slice p1 lf.length c1, .slice p2 sd.length c2] := Kt.all rfl
            have H := (only_sets tp 0 V5 [.int .i64 F, .int .i64 S, .slice p1 lf.length c1, .slice p2 sd.length c2]).2.2 _ _ htp hHeld
            have X := Oth.setCells Kt 0 [.int .i64 F, .int .i64 S, .slice p1 lf.length c1, .slice p2 sd.length c2]
            replace O1 := X.row O1 (by decide)
            replace O2 := X.row O2 (by decide)
            clear X Kt
            dsimp only
            generalize World.setCells V5 tp 0 [.int .i64 F, .int .i64 S, .slice p1 lf.length c1, .slice p2 sd.length c2] = VF at O1 O2 Kq H ⊢
            refine hK.out _ _ (H) (fun hHeld => ?_)
            clear hK K
            try simp only [zP, zQ, zS, zZ, zC]
            refine wpAnyH_done (by kernel_rfl) ?_ _
            clear hHeld
            go_wp2_with fail
            go_meet
            exact ⟨tp, _, _, rfl, htp, Kq, O1, O2, H⟩
          · rw [if_pos (by rfl)]
            go_simp
            have X : Oth 0 V3 (World.alloc V3 (.cells zeroPrf.toArray 54)) := Oth.alloc 0 _ _
            have X2 : Below V3.heap.size V3 (World.alloc V3 (.cells zeroPrf.toArray 54)) := (Below.refl _ _).alloc (Nat.le_refl _) _
            have hge : W0.heap.size ≤ V3.heap.size := hHeld.size
            replace O1 := X.row O1 (by decide)
            replace Ec := X.2 _ _ _ _ (by decide) Ec
            have Kt : Blk (World.alloc V3 (.cells zeroPrf.toArray 54)) V3.heap.size 54 zeroPrf := blk_new V3 54 zeroPrf.toArray
            refine hK.out _ _ (link hHeld X2) (fun hHeld => ?_)
            clear hK K
            try simp only [zP, zQ, zS, zZ, zC]
            clear X X2
            generalize World.alloc V3 _ = V4 at O1 Ec Kt hHeld ⊢
            generalize V3.heap.size = tp at Kt hge ⊢
            have htp := hge
            clear hge
            refine wpAnyH_ready (rs := [11]) (by kernel_rfl) (by simp) ?_
            refine AllReadyH.cons (o := ⟨some 21, .call { callee := .builtin .append, args := #[.tmp 18, .tmp 20], argTypes := #[48, 48] }, 48, "ref.go:329", #[⟨8, .data⟩, ⟨10, .data⟩, ⟨7, .chain⟩], none⟩) rfl (fun K hK => ?_) AllReadyH.nil
            rw [if_pos (by rfl)]
            refine app_dgts (w := V4) (.tmp 18) (.tmp 20) rfl W0.heap.size gc rfl Ec hgc sd hd sa k sc W0.heap.size rfl HK.out hk6 hqs (HS.out V4 hHeld) ?_
            intro v2 V5 O2n X hB
            obtain ⟨p2, c2, rfl⟩ := row_form O2n
            replace O1 := X.row O1 (by decide)
            replace Kt := X.blk Kt (by decide)
            clear Ec hgc
            have O2 := O2n
            clear O2n
            refine hK.out _ _ (hHeld.trans hB) (fun hHeld => ?_)
            clear hK K
            try simp only [zP, zQ, zS, zZ, zC]
            clear X hB
            refine wt (i := 12) (oi := ⟨some 22, .build 54 #[(0, .tmp 11), (1, .tmp 13), (2, .tmp 17), (3, .tmp 21)], 54, "ref.go:329", #[⟨1, .data⟩, ⟨3, .data⟩, ⟨7, .data⟩, ⟨11, .data⟩], none⟩) (v := .agg #[.int .i64 F, .int .i64 S, .slice p1 lf.length c1, .slice p2 sd.length c2]) (Or.inl ⟨by rfl, fun w' hSw => by go_simp⟩) hHeld ?_
            try simp only [zP, zQ, zS, zZ, zC]
            refine wpAnyH_ready (rs := [14]) (by kernel_rfl) (by simp) ?_
            refine AllReadyH.cons (o := ⟨none, .store 54 (.tmp 7) (.tmp 22), 0, "ref.go:329", #[⟨13, .data⟩, ⟨12, .data⟩, ⟨11, .chain⟩, ⟨0, .phase⟩, ⟨1, .phase⟩, ⟨2, .phase⟩, ⟨3, .phase⟩, ⟨4, .phase⟩, ⟨5, .phase⟩, ⟨6, .phase⟩, ⟨7, .phase⟩, ⟨8, .phase⟩, ⟨9, .phase⟩, ⟨10, .phase⟩, ⟨11, .phase⟩, ⟨12, .phase⟩, ⟨13, .phase⟩], none⟩) rfl (fun K hK => ?_) AllReadyH.nil
            rw [if_pos (by rfl)]
            refine wp_store_mid 54 (.tmp 7) (.tmp 22) rfl tp 0 #[.int .i64 F, .int .i64 S, .slice p1 lf.length c1, .slice p2 sd.length c2] rfl rfl (by simpa using Kt.there 0 4 (by simp)) (by kernel_rfl) (all_oneCell_toArray (by intro v hv; simp at hv; rcases hv with rfl | rfl | rfl | rfl <;> rfl)) ?_
            have Kq : Blk (V5.setCells tp 0 [.int .i64 F, .int .i64 S, .slice p1 lf.length c1, .slice p2 sd.length c2]) tp 54 [.int .i64 F, .int .i64 S, .slice p1 lf.length c1, .slice p2 sd.length c2] := Kt.all rfl
            have H := (only_sets tp 0 V5 [.int .i64 F, .int .i64 S, .slice p1 lf.length c1, .slice p2 sd.length c2]).2.2 _ _ htp hHeld
            have X := Oth.setCells Kt 0 [.int .i64 F, .int .i64 S, .slice p1 lf.length c1, .slice p2 sd.length c2]
            replace O1 := X.row O1 (by decide)
            replace O2 := X.row O2 (by decide)
            clear X Kt
            dsimp only
            generalize World.setCells V5 tp 0 [.int .i64 F, .int .i64 S, .slice p1 lf.length c1, .slice p2 sd.length c2] = VF at O1 O2 Kq H ⊢
            refine hK.out _ _ (H) (fun hHeld => ?_)
            clear hK K
            try simp only [zP, zQ, zS, zZ, zC]
            refine wpAnyH_done (by kernel_rfl) ?_ _
            clear hHeld
            go_wp2_with fail
            go_meet
            exact ⟨tp, _, _, rfl, htp, Kq, O1, O2, H⟩
        · rw [if_pos (by rfl)]
          go_simp
          have X : Oth 0 V2 (World.alloc V2 (.cells zeroPrf.toArray 54)) := Oth.alloc 0 _ _
          have X2 : Below V2.heap.size V2 (World.alloc V2 (.cells zeroPrf.toArray 54)) := (Below.refl _ _).alloc (Nat.le_refl _) _
          have hge : W0.heap.size ≤ V2.heap.size := hHeld.size
          replace Ea := X.2 _ _ _ _ (by decide) Ea
          replace Ec := X.2 _ _ _ _ (by decide) Ec
          have Kt : Blk (World.alloc V2 (.cells zeroPrf.toArray 54)) V2.heap.size 54 zeroPrf := blk_new V2 54 zeroPrf.toArray
          refine hK.out _ _ (link hHeld X2) (fun hHeld => ?_)
          clear hK K
          try simp only [zP, zQ, zS, zZ, zC]
          clear X X2
          generalize World.alloc V2 _ = V3 at Ea Ec Kt hHeld ⊢
          generalize V2.heap.size = tp at Kt hge ⊢
          have htp := hge
          clear hge
          refine wpAnyH_ready (rs := [7]) (by kernel_rfl) (by simp) ?_
          refine AllReadyH.cons (o := ⟨some 17, .call { callee := .builtin .append, args := #[.tmp 14, .tmp 16], argTypes := #[24, 24] }, 24, "ref.go:329", #[⟨4, .data⟩, ⟨6, .data⟩], none⟩) rfl (fun K hK => ?_) AllReadyH.nil
          rw [if_pos (by rfl)]
          refine app_leaves (w := V3) (.tmp 14) (.tmp 16) rfl W0.heap.size ga rfl Ea hga lf q n c rfl HN.out hn6 hq (HL.out V3 hHeld) ?_
          intro v1 V4 O1n X hB
          obtain ⟨p1, c1, rfl⟩ := row_form O1n
          replace Ec := X.2 _ _ _ _ (by decide) Ec
          replace Kt := X.blk Kt (by decide)
          clear Ea hga
          have O1 := O1n
          clear O1n
          refine hK.out _ _ (hHeld.trans hB) (fun hHeld => ?_)
          clear hK K
          try simp only [zP, zQ, zS, zZ, zC]
          clear X hB
          refine wpAnyH_ready (rs := [11]) (by kernel_rfl) (by simp) ?_
          refine AllReadyH.cons (o := ⟨some 21, .call { callee := .builtin .append, args := #[.tmp 18, .tmp 20], argTypes := #[48, 48] }, 48, "ref.go:329", #[⟨8, .data⟩, ⟨10, .data⟩, ⟨7, .chain⟩], none⟩) rfl (fun K hK => ?_) AllReadyH.nil
          rw [if_pos (by rfl)]
          refine app_dgts (w := V4) (.tmp 18) (.tmp 20) rfl W0.heap.size gc rfl Ec hgc sd hd sa k sc W0.heap.size rfl HK.out hk6 hqs (HS.out V4 hHeld) ?_
          intro v2 V5 O2n X hB
          obtain ⟨p2, c2, rfl⟩ := row_form O2n
          replace O1 := X.row O1 (by decide)
          replace Kt := X.blk Kt (by decide)
          clear Ec hgc
          have O2 := O2n
          clear O2n
          refine hK.out _ _ (hHeld.trans hB) (fun hHeld => ?_)
          clear hK K
          try simp only [zP, zQ, zS, zZ, zC]
          clear X hB
          refine wt (i := 12) (oi := ⟨some 22, .build 54 #[(0, .tmp 11), (1, .tmp 13), (2, .tmp 17), (3, .tmp 21)], 54, "ref.go:329", #[⟨1, .data⟩, ⟨3, .data⟩, ⟨7, .data⟩, ⟨11, .data⟩], none⟩) (v := .agg #[.int .i64 F, .int .i64 S, .slice p1 lf.length c1, .slice p2 sd.length c2]) (Or.inl ⟨by rfl, fun w' hSw => by go_simp⟩) hHeld ?_
          try simp only [zP, zQ, zS, zZ, zC]
          refine wpAnyH_ready (rs := [14]) (by kernel_rfl) (by simp) ?_
          refine AllReadyH.cons (o := ⟨none, .store 54 (.tmp 7) (.tmp 22), 0, "ref.go:329", #[⟨13, .data⟩, ⟨12, .data⟩, ⟨11, .chain⟩, ⟨0, .phase⟩, ⟨1, .phase⟩, ⟨2, .phase⟩, ⟨3, .phase⟩, ⟨4, .phase⟩, ⟨5, .phase⟩, ⟨6, .phase⟩, ⟨7, .phase⟩, ⟨8, .phase⟩, ⟨9, .phase⟩, ⟨10, .phase⟩, ⟨11, .phase⟩, ⟨12, .phase⟩, ⟨13, .phase⟩], none⟩) rfl (fun K hK => ?_) AllReadyH.nil
          rw [if_pos (by rfl)]
          refine wp_store_mid 54 (.tmp 7) (.tmp 22) rfl tp 0 #[.int .i64 F, .int .i64 S, .slice p1 lf.length c1, .slice p2 sd.length c2] rfl rfl (by simpa using Kt.there 0 4 (by simp)) (by kernel_rfl) (all_oneCell_toArray (by intro v hv; simp at hv; rcases hv with rfl | rfl | rfl | rfl <;> rfl)) ?_
          have Kq : Blk (V5.setCells tp 0 [.int .i64 F, .int .i64 S, .slice p1 lf.length c1, .slice p2 sd.length c2]) tp 54 [.int .i64 F, .int .i64 S, .slice p1 lf.length c1, .slice p2 sd.length c2] := Kt.all rfl
          have H := (only_sets tp 0 V5 [.int .i64 F, .int .i64 S, .slice p1 lf.length c1, .slice p2 sd.length c2]).2.2 _ _ htp hHeld
          have X := Oth.setCells Kt 0 [.int .i64 F, .int .i64 S, .slice p1 lf.length c1, .slice p2 sd.length c2]
          replace O1 := X.row O1 (by decide)
          replace O2 := X.row O2 (by decide)
          clear X Kt
          dsimp only
          generalize World.setCells V5 tp 0 [.int .i64 F, .int .i64 S, .slice p1 lf.length c1, .slice p2 sd.length c2] = VF at O1 O2 Kq H ⊢
          refine hK.out _ _ (H) (fun hHeld => ?_)
          clear hK K
          try simp only [zP, zQ, zS, zZ, zC]
          refine wpAnyH_done (by kernel_rfl) ?_ _
          clear hHeld
          go_wp2_with fail
          go_meet
          exact ⟨tp, _, _, rfl, htp, Kq, O1, O2, H⟩
      · rw [if_pos (by rfl)]
        go_simp
        have X : Oth 0 V1 (World.alloc V1 (.cells zeroPrf.toArray 54)) := Oth.alloc 0 _ _
        have X2 : Below V1.heap.size V1 (World.alloc V1 (.cells zeroPrf.toArray 54)) := (Below.refl _ _).alloc (Nat.le_refl _) _
        have hge : W0.heap.size ≤ V1.heap.size := hHeld.size
        replace Ea := X.2 _ _ _ _ (by decide) Ea
        have Kt : Blk (World.alloc V1 (.cells zeroPrf.toArray 54)) V1.heap.size 54 zeroPrf := blk_new V1 54 zeroPrf.toArray
        refine hK.out _ _ (link hHeld X2) (fun hHeld => ?_)
        clear hK K
        try simp only [zP, zQ, zS, zZ, zC]
        clear X X2
        generalize World.alloc V1 _ = V2 at Ea Kt hHeld ⊢
        generalize V1.heap.size = tp at Kt hge ⊢
        have htp := hge
        clear hge
        refine wpAnyH_ready (rs := [7, 8]) (by kernel_rfl) (by simp) ?_
        refine AllReadyH.cons (o := ⟨some 17, .call { callee := .builtin .append, args := #[.tmp 14, .tmp 16], argTypes := #[24, 24] }, 24, "ref.go:329", #[⟨4, .data⟩, ⟨6, .data⟩], none⟩) rfl (fun K hK => ?_) (AllReadyH.cons (o := ⟨some 18, .buildSlice 48 0 #[], 48, "ref.go:329", #[], none⟩) rfl (fun K hK => ?_) AllReadyH.nil)
        · rw [if_pos (by rfl)]
          refine app_leaves (w := V2) (.tmp 14) (.tmp 16) rfl W0.heap.size ga rfl Ea hga lf q n c rfl HN.out hn6 hq (HL.out V2 hHeld) ?_
          intro v1 V3 O1n X hB
          obtain ⟨p1, c1, rfl⟩ := row_form O1n
          replace Kt := X.blk Kt (by decide)
          clear Ea hga
          have O1 := O1n
          clear O1n
          refine hK.out _ _ (hHeld.trans hB) (fun hHeld => ?_)
          clear hK K
          try simp only [zP, zQ, zS, zZ, zC]
          clear X hB
          refine wpAnyH_ready (rs := [8]) (by kernel_rfl) (by simp) ?_
          refine AllReadyH.cons (o := ⟨some 18, .buildSlice 48 0 #[], 48, "ref.go:329", #[], none⟩) rfl (fun K hK => ?_) AllReadyH.nil
          rw [if_pos (by rfl)]
          go_simp
          have X : Oth 0 V3 (World.alloc V3 (.cells #[] 29)) := Oth.alloc 0 _ _
          have X2 : Below V3.heap.size V3 (World.alloc V3 (.cells #[] 29)) := (Below.refl _ _).alloc (Nat.le_refl _) _
          have hge : W0.heap.size ≤ V3.heap.size := hHeld.size
          replace O1 := X.row O1 (by decide)
          replace Kt := X.blk Kt (by decide)
          have Ec : (World.alloc V3 (.cells #[] 29)).heap[V3.heap.size]? = some (.cells #[] 29 (0, 0)) := heap_alloc_new V3 _
          refine hK.out _ _ (link hHeld X2) (fun hHeld => ?_)
          clear hK K
          try simp only [zP, zQ, zS, zZ, zC]
          clear X X2
          generalize World.alloc V3 _ = V4 at O1 Ec Kt hHeld ⊢
          generalize V3.heap.size = gc at Ec hge ⊢
          have hgc := hge
          clear hge
          refine wpAnyH_ready (rs := [11]) (by kernel_rfl) (by simp) ?_
          refine AllReadyH.cons (o := ⟨some 21, .call { callee := .builtin .append, args := #[.tmp 18, .tmp 20], argTypes := #[48, 48] }, 48, "ref.go:329", #[⟨8, .data⟩, ⟨10, .data⟩, ⟨7, .chain⟩], none⟩) rfl (fun K hK => ?_) AllReadyH.nil
          rw [if_pos (by rfl)]
          refine app_dgts (w := V4) (.tmp 18) (.tmp 20) rfl W0.heap.size gc rfl Ec hgc sd hd sa k sc W0.heap.size rfl HK.out hk6 hqs (HS.out V4 hHeld) ?_
          intro v2 V5 O2n X hB
          obtain ⟨p2, c2, rfl⟩ := row_form O2n
          replace O1 := X.row O1 (by decide)
          replace Kt := X.blk Kt (by decide)
          clear Ec hgc
          have O2 := O2n
          clear O2n
          refine hK.out _ _ (hHeld.trans hB) (fun hHeld => ?_)
          clear hK K
          try simp only [zP, zQ, zS, zZ, zC]
          clear X hB
          refine wt (i := 12) (oi := ⟨some 22, .build 54 #[(0, .tmp 11), (1, .tmp 13), (2, .tmp 17), (3, .tmp 21)], 54, "ref.go:329", #[⟨1, .data⟩, ⟨3, .data⟩, ⟨7, .data⟩, ⟨11, .data⟩], none⟩) (v := .agg #[.int .i64 F, .int .i64 S, .slice p1 lf.length c1, .slice p2 sd.length c2]) (Or.inl ⟨by rfl, fun w' hSw => by go_simp⟩) hHeld ?_
          try simp only [zP, zQ, zS, zZ, zC]
          refine wpAnyH_ready (rs := [14]) (by kernel_rfl) (by simp) ?_
          refine AllReadyH.cons (o := ⟨none, .store 54 (.tmp 7) (.tmp 22), 0, "ref.go:329", #[⟨13, .data⟩, ⟨12, .data⟩, ⟨11, .chain⟩, ⟨0, .phase⟩, ⟨1, .phase⟩, ⟨2, .phase⟩, ⟨3, .phase⟩, ⟨4, .phase⟩, ⟨5, .phase⟩, ⟨6, .phase⟩, ⟨7, .phase⟩, ⟨8, .phase⟩, ⟨9, .phase⟩, ⟨10, .phase⟩, ⟨11, .phase⟩, ⟨12, .phase⟩, ⟨13, .phase⟩], none⟩) rfl (fun K hK => ?_) AllReadyH.nil
          rw [if_pos (by rfl)]
          refine wp_store_mid 54 (.tmp 7) (.tmp 22) rfl tp 0 #[.int .i64 F, .int .i64 S, .slice p1 lf.length c1, .slice p2 sd.length c2] rfl rfl (by simpa using Kt.there 0 4 (by simp)) (by kernel_rfl) (all_oneCell_toArray (by intro v hv; simp at hv; rcases hv with rfl | rfl | rfl | rfl <;> rfl)) ?_
          have Kq : Blk (V5.setCells tp 0 [.int .i64 F, .int .i64 S, .slice p1 lf.length c1, .slice p2 sd.length c2]) tp 54 [.int .i64 F, .int .i64 S, .slice p1 lf.length c1, .slice p2 sd.length c2] := Kt.all rfl
          have H := (only_sets tp 0 V5 [.int .i64 F, .int .i64 S, .slice p1 lf.length c1, .slice p2 sd.length c2]).2.2 _ _ htp hHeld
          have X := Oth.setCells Kt 0 [.int .i64 F, .int .i64 S, .slice p1 lf.length c1, .slice p2 sd.length c2]
          replace O1 := X.row O1 (by decide)
          replace O2 := X.row O2 (by decide)
          clear X Kt
          dsimp only
          generalize World.setCells V5 tp 0 [.int .i64 F, .int .i64 S, .slice p1 lf.length c1, .slice p2 sd.length c2] = VF at O1 O2 Kq H ⊢
          refine hK.out _ _ (H) (fun hHeld => ?_)
          clear hK K
          try simp only [zP, zQ, zS, zZ, zC]
          refine wpAnyH_done (by kernel_rfl) ?_ _
          clear hHeld
          go_wp2_with fail
          go_meet
          exact ⟨tp, _, _, rfl, htp, Kq, O1, O2, H⟩
        · rw [if_pos (by rfl)]
          go_simp
          have X : Oth 0 V2 (World.alloc V2 (.cells #[] 29)) := Oth.alloc 0 _ _
          have X2 : Below V2.heap.size V2 (World.alloc V2 (.cells #[] 29)) := (Below.refl _ _).alloc (Nat.le_refl _) _
          have hge : W0.heap.size ≤ V2.heap.size := hHeld.size
          replace Ea := X.2 _ _ _ _ (by decide) Ea
          replace Kt := X.blk Kt (by decide)
          have Ec : (World.alloc V2 (.cells #[] 29)).heap[V2.heap.size]? = some (.cells #[] 29 (0, 0)) := heap_alloc_new V2 _
          refine hK.out _ _ (link hHeld X2) (fun hHeld => ?_)
          clear hK K
          try simp only [zP, zQ, zS, zZ, zC]
          clear X X2
          generalize World.alloc V2 _ = V3 at Ea Ec Kt hHeld ⊢
          generalize V2.heap.size = gc at Ec hge ⊢
          have hgc := hge
          clear hge
          refine wpAnyH_ready (rs := [7]) (by kernel_rfl) (by simp) ?_
          refine AllReadyH.cons (o := ⟨some 17, .call { callee := .builtin .append, args := #[.tmp 14, .tmp 16], argTypes := #[24, 24] }, 24, "ref.go:329", #[⟨4, .data⟩, ⟨6, .data⟩], none⟩) rfl (fun K hK => ?_) AllReadyH.nil
          rw [if_pos (by rfl)]
          refine app_leaves (w := V3) (.tmp 14) (.tmp 16) rfl W0.heap.size ga rfl Ea hga lf q n c rfl HN.out hn6 hq (HL.out V3 hHeld) ?_
          intro v1 V4 O1n X hB
          obtain ⟨p1, c1, rfl⟩ := row_form O1n
          replace Ec := X.2 _ _ _ _ (by decide) Ec
          replace Kt := X.blk Kt (by decide)
          clear Ea hga
          have O1 := O1n
          clear O1n
          refine hK.out _ _ (hHeld.trans hB) (fun hHeld => ?_)
          clear hK K
          try simp only [zP, zQ, zS, zZ, zC]
          clear X hB
          refine wpAnyH_ready (rs := [11]) (by kernel_rfl) (by simp) ?_
          refine AllReadyH.cons (o := ⟨some 21, .call { callee := .builtin .append, args := #[.tmp 18, .tmp 20], argTypes := #[48, 48] }, 48, "ref.go:329", #[⟨8, .data⟩, ⟨10, .data⟩, ⟨7, .chain⟩], none⟩) rfl (fun K hK => ?_) AllReadyH.nil
          rw [if_pos (by rfl)]
          refine app_dgts (w := V4) (.tmp 18) (.tmp 20) rfl W0.heap.size gc rfl Ec hgc sd hd sa k sc W0.heap.size rfl HK.out hk6 hqs (HS.out V4 hHeld) ?_
          intro v2 V5 O2n X hB
          obtain ⟨p2, c2, rfl⟩ := row_form O2n
          replace O1 := X.row O1 (by decide)
          replace Kt := X.blk Kt (by decide)
          clear Ec hgc
          have O2 := O2n
          clear O2n
          refine hK.out _ _ (hHeld.trans hB) (fun hHeld => ?_)
          clear hK K
          try simp only [zP, zQ, zS, zZ, zC]
          clear X hB
          refine wt (i := 12) (oi := ⟨some 22, .build 54 #[(0, .tmp 11), (1, .tmp 13), (2, .tmp 17), (3, .tmp 21)], 54, "ref.go:329", #[⟨1, .data⟩, ⟨3, .data⟩, ⟨7, .data⟩, ⟨11, .data⟩], none⟩) (v := .agg #[.int .i64 F, .int .i64 S, .slice p1 lf.length c1, .slice p2 sd.length c2]) (Or.inl ⟨by rfl, fun w' hSw => by go_simp⟩) hHeld ?_
          try simp only [zP, zQ, zS, zZ, zC]
          refine wpAnyH_ready (rs := [14]) (by kernel_rfl) (by simp) ?_
          refine AllReadyH.cons (o := ⟨none, .store 54 (.tmp 7) (.tmp 22), 0, "ref.go:329", #[⟨13, .data⟩, ⟨12, .data⟩, ⟨11, .chain⟩, ⟨0, .phase⟩, ⟨1, .phase⟩, ⟨2, .phase⟩, ⟨3, .phase⟩, ⟨4, .phase⟩, ⟨5, .phase⟩, ⟨6, .phase⟩, ⟨7, .phase⟩, ⟨8, .phase⟩, ⟨9, .phase⟩, ⟨10, .phase⟩, ⟨11, .phase⟩, ⟨12, .phase⟩, ⟨13, .phase⟩], none⟩) rfl (fun K hK => ?_) AllReadyH.nil
          rw [if_pos (by rfl)]
          refine wp_store_mid 54 (.tmp 7) (.tmp 22) rfl tp 0 #[.int .i64 F, .int .i64 S, .slice p1 lf.length c1, .slice p2 sd.length c2] rfl rfl (by simpa using Kt.there 0 4 (by simp)) (by kernel_rfl) (all_oneCell_toArray (by intro v hv; simp at hv; rcases hv with rfl | rfl | rfl | rfl <;> rfl)) ?_
          have Kq : Blk (V5.setCells tp 0 [.int .i64 F, .int .i64 S, .slice p1 lf.length c1, .slice p2 sd.length c2]) tp 54 [.int .i64 F, .int .i64 S, .slice p1 lf.length c1, .slice p2 sd.length c2] := Kt.all rfl
          have H := (only_sets tp 0 V5 [.int .i64 F, .int .i64 S, .slice p1 lf.length c1, .slice p2 sd.length c2]).2.2 _ _ htp hHeld
          have X := Oth.setCells Kt 0 [.int .i64 F, .int .i64 S, .slice p1 lf.length c1, .slice p2 sd.length c2]
          replace O1 := X.row O1 (by decide)
          replace O2 := X.row O2 (by decide)
          clear X Kt
          dsimp only
          generalize World.setCells V5 tp 0 [.int .i64 F, .int .i64 S, .slice p1 lf.length c1, .slice p2 sd.length c2] = VF at O1 O2 Kq H ⊢
          refine hK.out _ _ (H) (fun hHeld => ?_)
          clear hK K
          try simp only [zP, zQ, zS, zZ, zC]
          refine wpAnyH_done (by kernel_rfl) ?_ _
          clear hHeld
          go_wp2_with fail
          go_meet
          exact ⟨tp, _, _, rfl, htp, Kq, O1, O2, H⟩
    · rw [if_pos (by rfl)]
      go_simp
      have X : Oth 0 V0 (World.alloc V0 (.cells #[] 29)) := Oth.alloc 0 _ _
      have X2 : Below V0.heap.size V0 (World.alloc V0 (.cells #[] 29)) := (Below.refl _ _).alloc (Nat.le_refl _) _
      have hge : W0.heap.size ≤ V0.heap.size := hHeld.size
      have Ec : (World.alloc V0 (.cells #[] 29)).heap[V0.heap.size]? = some (.cells #[] 29 (0, 0)) := heap_alloc_new V0 _
      refine hK.out _ _ (link hHeld X2) (fun hHeld => ?_)
      clear hK K
      try simp only [zP, zQ, zS, zZ, zC]
      clear X X2
      generalize World.alloc V0 _ = V1 at Ec hHeld ⊢
      generalize V0.heap.size = gc at Ec hge ⊢
      have hgc := hge
      clear hge
      refine wpAnyH_ready (rs := [4, 13]) (by kernel_rfl) (by simp) ?_
      refine AllReadyH.cons (o := ⟨some 14, .buildSlice 24 0 #[], 24, "ref.go:329", #[], none⟩) rfl (fun K hK => ?_) (AllReadyH.cons (o := ⟨some 7, .alloc 54, 0, "ref.go:329", #[], none⟩) rfl (fun K hK => ?_) AllReadyH.nil)
      · rw [if_pos (by rfl)]
        go_simp
        have X : Oth 0 V1 (World.alloc V1 (.cells #[] 75)) := Oth.alloc 0 _ _
        have X2 : Below V1.heap.size V1 (World.alloc V1 (.cells #[] 75)) := (Below.refl _ _).alloc (Nat.le_refl _) _
        have hge : W0.heap.size ≤ V1.heap.size := hHeld.size
        replace Ec := X.2 _ _ _ _ (by decide) Ec
        have Ea : (World.alloc V1 (.cells #[] 75)).heap[V1.heap.size]? = some (.cells #[] 75 (0, 0)) := heap_alloc_new V1 _
        refine hK.out _ _ (link hHeld X2) (fun hHeld => ?_)
        clear hK K
        try simp only [zP, zQ, zS, zZ, zC]
        clear X X2
        generalize World.alloc V1 _ = V2 at Ea Ec hHeld ⊢
        generalize V1.heap.size = ga at Ea hge ⊢
        have hga := hge
        clear hge
        refine wpAnyH_ready (rs := [7, 13]) (by kernel_rfl) (by simp) ?_
        refine AllReadyH.cons (o := ⟨some 17, .call { callee := .builtin .append, args := #[.tmp 14, .tmp 16], argTypes := #[24, 24] }, 24, "ref.go:329", #[⟨4, .data⟩, ⟨6, .data⟩], none⟩) rfl (fun K hK => ?_) (AllReadyH.cons (o := ⟨some 7, .alloc 54, 0, "ref.go:329", #[], none⟩) rfl (fun K hK => ?_) AllReadyH.nil)
        · rw [if_pos (by rfl)]
          refine app_leaves (w := V2) (.tmp 14) (.tmp 16) rfl W0.heap.size ga rfl Ea hga lf q n c rfl HN.out hn6 hq (HL.out V2 hHeld) ?_
          intro v1 V3 O1n X hB
          obtain ⟨p1, c1, rfl⟩ := row_form O1n
          replace Ec := X.2 _ _ _ _ (by decide) Ec
          clear Ea hga
          have O1 := O1n
          clear O1n
          refine hK.out _ _ (hHeld.trans hB) (fun hHeld => ?_)
          clear hK K
          try simp only [zP, zQ, zS, zZ, zC]
          clear X hB
          refine wpAnyH_ready (rs := [11, 13]) (by kernel_rfl) (by simp) ?_
          refine AllReadyH.cons (o := ⟨some 21, .call { callee := .builtin .append, args := #[.tmp 18, .tmp 20], argTypes := #[48, 48] }, 48, "ref.go:329", #[⟨8, .data⟩, ⟨10, .data⟩, ⟨7, .chain⟩], none⟩) rfl (fun K hK => ?_) (AllReadyH.cons (o := ⟨some 7, .alloc 54, 0, "ref.go:329", #[], none⟩) rfl (fun K hK => ?_) AllReadyH.nil)
          · rw [if_pos (by rfl)]
            refine app_dgts (w := V3) (.tmp 18) (.tmp 20) rfl W0.heap.size gc rfl Ec hgc sd hd sa k sc W0.heap.size rfl HK.out hk6 hqs (HS.out V3 hHeld) ?_
            intro v2 V4 O2n X hB
            obtain ⟨p2, c2, rfl⟩ := row_form O2n
            replace O1 := X.row O1 (by decide)
            clear Ec hgc
            have O2 := O2n
            clear O2n
            refine hK.out _ _ (hHeld.trans hB) (fun hHeld => ?_)
            clear hK K
            try simp only [zP, zQ, zS, zZ, zC]
            clear X hB
            refine wt (i := 12) (oi := ⟨some 22, .build 54 #[(0, .tmp 11), (1, .tmp 13), (2, .tmp 17), (3, .tmp 21)], 54, "ref.go:329", #[⟨1, .data⟩, ⟨3, .data⟩, ⟨7, .data⟩, ⟨11, .data⟩], none⟩) (v := .agg #[.int .i64 F, .int .i64 S, .slice p1 lf.length c1, .slice p2 sd.length c2]) (Or.inl ⟨by rfl, fun w' hSw => by go_simp⟩) hHeld ?_
            try simp only [zP, zQ, zS, zZ, zC]
            refine wpAnyH_ready (rs := [13]) (by kernel_rfl) (by simp) ?_
            refine AllReadyH.cons (o := ⟨some 7, .alloc 54, 0, "ref.go:329", #[], none⟩) rfl (fun K hK => ?_) AllReadyH.nil
            rw [if_pos (by rfl)]
            go_simp
            have X : Oth 0 V4 (World.alloc V4 (.cells zeroPrf.toArray 54)) := Oth.alloc 0 _ _
            have X2 : Below V4.heap.size V4 (World.alloc V4 (.cells zeroPrf.toArray 54)) := (Below.refl _ _).alloc (Nat.le_refl _) _
            have hge : W0.heap.size ≤ V4.heap.size := hHeld.size
            replace O1 := X.row O1 (by decide)
            replace O2 := X.row O2 (by decide)
            have Kt : Blk (World.alloc V4 (.cells zeroPrf.toArray 54)) V4.heap.size 54 zeroPrf := blk_new V4 54 zeroPrf.toArray
            refine hK.out _ _ (link hHeld X2) (fun hHeld => ?_)
            clear hK K
            try simp only [zP, zQ, zS, zZ, zC]
            clear X X2
            generalize World.alloc V4 _ = V5 at O1 O2 Kt hHeld ⊢
            generalize V4.heap.size = tp at Kt hge ⊢
            have htp := hge
            clear hge
            refine wpAnyH_ready (rs := [14]) (by kernel_rfl) (by simp) ?_
            refine AllReadyH.cons (o := ⟨none, .store 54 (.tmp 7) (.tmp 22), 0, "ref.go:329", #[⟨13, .data⟩, ⟨12, .data⟩, ⟨11, .chain⟩, ⟨0, .phase⟩, ⟨1, .phase⟩, ⟨2, .phase⟩, ⟨3, .phase⟩, ⟨4, .phase⟩, ⟨5, .phase⟩, ⟨6, .phase⟩, ⟨7, .phase⟩, ⟨8, .phase⟩, ⟨9, .phase⟩, ⟨10, .phase⟩, ⟨11, .phase⟩, ⟨12, .phase⟩, ⟨13, .phase⟩], none⟩) rfl (fun K hK => ?_) AllReadyH.nil
            rw [if_pos (by rfl)]
            refine wp_store_mid 54 (.tmp 7) (.tmp 22) rfl tp 0 #[.int .i64 F, .int .i64 S, .slice p1 lf.length c1, .slice p2 sd.length c2] rfl rfl (by simpa using Kt.there 0 4 (by simp)) (by kernel_rfl) (all_oneCell_toArray (by intro v hv; simp at hv; rcases hv with rfl | rfl | rfl | rfl <;> rfl)) ?_
            have Kq : Blk (V5.setCells tp 0 [.int .i64 F, .int .i64 S, .slice p1 lf.length c1, .slice p2 sd.length c2]) tp 54 [.int .i64 F, .int .i64 S, .slice p1 lf.length c1, .slice p2 sd.length c2] := Kt.all rfl
            have H := (only_sets tp 0 V5 [.int .i64 F, .int .i64 S, .slice p1 lf.length c1, .slice p2 sd.length c2]).2.2 _ _ htp hHeld
            have X := Oth.setCells Kt 0 [.int .i64 F, .int .i64 S, .slice p1 lf.length c1, .slice p2 sd.length c2]
            replace O1 := X.row O1 (by decide)
            replace O2 := X.row O2 (by decide)
            clear X Kt
            dsimp only
            generalize World.setCells V5 tp 0 [.int .i64 F, .int .i64 S, .slice p1 lf.length c1, .slice p2 sd.length c2] = VF at O1 O2 Kq H ⊢
            refine hK.out _ _ (H) (fun hHeld => ?_)
            clear hK K
            try simp only [zP, zQ, zS, zZ, zC]
            refine wpAnyH_done (by kernel_rfl) ?_ _
            clear hHeld
            go_wp2_with fail
            go_meet
            exact ⟨tp, _, _, rfl, htp, Kq, O1, O2, H⟩
          · rw [if_pos (by rfl)]
            go_simp
            have X : Oth 0 V3 (World.alloc V3 (.cells zeroPrf.toArray 54)) := Oth.alloc 0 _ _
            have X2 : Below V3.heap.size V3 (World.alloc V3 (.cells zeroPrf.toArray 54)) := (Below.refl _ _).alloc (Nat.le_refl _) _
            have hge : W0.heap.size ≤ V3.heap.size := hHeld.size
            replace O1 := X.row O1 (by decide)
            replace Ec := X.2 _ _ _ _ (by decide) Ec
            have Kt : Blk (World.alloc V3 (.cells zeroPrf.toArray 54)) V3.heap.size 54 zeroPrf := blk_new V3 54 zeroPrf.toArray
            refine hK.out _ _ (link hHeld X2) (fun hHeld => ?_)
            clear hK K
            try simp only [zP, zQ, zS, zZ, zC]
            clear X X2
            generalize World.alloc V3 _ = V4 at O1 Ec Kt hHeld ⊢
            generalize V3.heap.size = tp at Kt hge ⊢
            have htp := hge
            clear hge
            refine wpAnyH_ready (rs := [11]) (by kernel_rfl) (by simp) ?_
            refine AllReadyH.cons (o := ⟨some 21, .call { callee := .builtin .append, args := #[.tmp 18, .tmp 20], argTypes := #[48, 48] }, 48, "ref.go:329", #[⟨8, .data⟩, ⟨10, .data⟩, ⟨7, .chain⟩], none⟩) rfl (fun K hK => ?_) AllReadyH.nil
            rw [if_pos (by rfl)]
            refine app_dgts (w := V4) (.tmp 18) (.tmp 20) rfl W0.heap.size gc rfl Ec hgc sd hd sa k sc W0.heap.size rfl HK.out hk6 hqs (HS.out V4 hHeld) ?_
            intro v2 V5 O2n X hB
            obtain ⟨p2, c2, rfl⟩ := row_form O2n
            replace O1 := X.row O1 (by decide)
            replace Kt := X.blk Kt (by decide)
            clear Ec hgc
            have O2 := O2n
            clear O2n
            refine hK.out _ _ (hHeld.trans hB) (fun hHeld => ?_)
            clear hK K
            try simp only [zP, zQ, zS, zZ, zC]
            clear X hB
            refine wt (i := 12) (oi := ⟨some 22, .build 54 #[(0, .tmp 11), (1, .tmp 13), (2, .tmp 17), (3, .tmp 21)], 54, "ref.go:329", #[⟨1, .data⟩, ⟨3, .data⟩, ⟨7, .data⟩, ⟨11, .data⟩], none⟩) (v := .agg #[.int .i64 F, .int .i64 S, .slice p1 lf.length c1, .slice p2 sd.length c2]) (Or.inl ⟨by rfl, fun w' hSw => by go_simp⟩) hHeld ?_
            try simp only [zP, zQ, zS, zZ, zC]
            refine wpAnyH_ready (rs := [14]) (by kernel_rfl) (by simp) ?_
            refine AllReadyH.cons (o := ⟨none, .store 54 (.tmp 7) (.tmp 22), 0, "ref.go:329", #[⟨13, .data⟩, ⟨12, .data⟩, ⟨11, .chain⟩, ⟨0, .phase⟩, ⟨1, .phase⟩, ⟨2, .phase⟩, ⟨3, .phase⟩, ⟨4, .phase⟩, ⟨5, .phase⟩, ⟨6, .phase⟩, ⟨7, .phase⟩, ⟨8, .phase⟩, ⟨9, .phase⟩, ⟨10, .phase⟩, ⟨11, .phase⟩, ⟨12, .phase⟩, ⟨13, .phase⟩], none⟩) rfl (fun K hK => ?_) AllReadyH.nil
            rw [if_pos (by rfl)]
            refine wp_store_mid 54 (.tmp 7) (.tmp 22) rfl tp 0 #[.int .i64 F, .int .i64 S, .slice p1 lf.length c1, .slice p2 sd.length c2] rfl rfl (by simpa using Kt.there 0 4 (by simp)) (by kernel_rfl) (all_oneCell_toArray (by intro v hv; simp at hv; rcases hv with rfl | rfl | rfl | rfl <;> rfl)) ?_
            have Kq : Blk (V5.setCells tp 0 [.int .i64 F, .int .i64 S, .slice p1 lf.length c1, .slice p2 sd.length c2]) tp 54 [.int .i64 F, .int .i64 S, .slice p1 lf.length c1, .slice p2 sd.length c2] := Kt.all rfl
            have H := (only_sets tp 0 V5 [.int .i64 F, .int .i64 S, .slice p1 lf.length c1, .slice p2 sd.length c2]).2.2 _ _ htp hHeld
            have X := Oth.setCells Kt 0 [.int .i64 F, .int .i64 S, .slice p1 lf.length c1, .slice p2 sd.length c2]
            replace O1 := X.row O1 (by decide)
            replace O2 := X.row O2 (by decide)
            clear X Kt
            dsimp only
            generalize World.setCells V5 tp 0 [.int .i64 F, .int .i64 S, .slice p1 lf.length c1, .slice p2 sd.length c2] = VF at O1 O2 Kq H ⊢
            refine hK.out _ _ (H) (fun hHeld => ?_)
            clear hK K
            try simp only [zP, zQ, zS, zZ, zC]
            refine wpAnyH_done (by kernel_rfl) ?_ _
            clear hHeld
            go_wp2_with fail
            go_meet
            exact ⟨tp, _, _, rfl, htp, Kq, O1, O2, H⟩
        · rw [if_pos (by rfl)]
          go_simp
          have X : Oth 0 V2 (World.alloc V2 (.cells zeroPrf.toArray 54)) := Oth.alloc 0 _ _
          have X2 : Below V2.heap.size V2 (World.alloc V2 (.cells zeroPrf.toArray 54)) := (Below.refl _ _).alloc (Nat.le_refl _) _
          have hge : W0.heap.size ≤ V2.heap.size := hHeld.size
          replace Ea := X.2 _ _ _ _ (by decide) Ea
          replace Ec := X.2 _ _ _ _ (by decide) Ec
          have Kt : Blk (World.alloc V2 (.cells zeroPrf.toArray 54)) V2.heap.size 54 zeroPrf := blk_new V2 54 zeroPrf.toArray
          refine hK.out _ _ (link hHeld X2) (fun hHeld => ?_)
          clear hK K
          try simp only [zP, zQ, zS, zZ, zC]
          clear X X2
          generalize World.alloc V2 _ = V3 at Ea Ec Kt hHeld ⊢
          generalize V2.heap.size = tp at Kt hge ⊢
          have htp := hge
          clear hge
          refine wpAnyH_ready (rs := [7]) (by kernel_rfl) (by simp) ?_
          refine AllReadyH.cons (o := ⟨some 17, .call { callee := .builtin .append, args := #[.tmp 14, .tmp 16], argTypes := #[24, 24] }, 24, "ref.go:329", #[⟨4, .data⟩, ⟨6, .data⟩], none⟩) rfl (fun K hK => ?_) AllReadyH.nil
          rw [if_pos (by rfl)]
          refine app_leaves (w := V3) (.tmp 14) (.tmp 16) rfl W0.heap.size ga rfl Ea hga lf q n c rfl HN.out hn6 hq (HL.out V3 hHeld) ?_
          intro v1 V4 O1n X hB
          obtain ⟨p1, c1, rfl⟩ := row_form O1n
          replace Ec := X.2 _ _ _ _ (by decide) Ec
          replace Kt := X.blk Kt (by decide)
          clear Ea hga
          have O1 := O1n
          clear O1n
          refine hK.out _ _ (hHeld.trans hB) (fun hHeld => ?_)
          clear hK K
          try simp only [zP, zQ, zS, zZ, zC]
          clear X hB
          refine wpAnyH_ready (rs := [11]) (by kernel_rfl) (by simp) ?_
          refine AllReadyH.cons (o := ⟨some 21, .call { callee := .builtin .append, args := #[.tmp 18, .tmp 20], argTypes := #[48, 48] }, 48, "ref.go:329", #[⟨8, .data⟩, ⟨10, .data⟩, ⟨7, .chain⟩], none⟩) rfl (fun K hK => ?_) AllReadyH.nil
          rw [if_pos (by rfl)]
          refine app_dgts (w := V4) (.tmp 18) (.tmp 20) rfl W0.heap.size gc rfl Ec hgc sd hd sa k sc W0.heap.size rfl HK.out hk6 hqs (HS.out V4 hHeld) ?_
          intro v2 V5 O2n X hB
          obtain ⟨p2, c2, rfl⟩ := row_form O2n
          replace O1 := X.row O1 (by decide)
          replace Kt := X.blk Kt (by decide)
          clear Ec hgc
          have O2 := O2n
          clear O2n
          refine hK.out _ _ (hHeld.trans hB) (fun hHeld => ?_)
          clear hK K
          try simp only [zP, zQ, zS, zZ, zC]
          clear X hB
          refine wt (i := 12) (oi := ⟨some 22, .build 54 #[(0, .tmp 11), (1, .tmp 13), (2, .tmp 17), (3, .tmp 21)], 54, "ref.go:329", #[⟨1, .data⟩, ⟨3, .data⟩, ⟨7, .data⟩, ⟨11, .data⟩], none⟩) (v := .agg #[.int .i64 F, .int .i64 S, .slice p1 lf.length c1, .slice p2 sd.length c2]) (Or.inl ⟨by rfl, fun w' hSw => by go_simp⟩) hHeld ?_
          try simp only [zP, zQ, zS, zZ, zC]
          refine wpAnyH_ready (rs := [14]) (by kernel_rfl) (by simp) ?_
          refine AllReadyH.cons (o := ⟨none, .store 54 (.tmp 7) (.tmp 22), 0, "ref.go:329", #[⟨13, .data⟩, ⟨12, .data⟩, ⟨11, .chain⟩, ⟨0, .phase⟩, ⟨1, .phase⟩, ⟨2, .phase⟩, ⟨3, .phase⟩, ⟨4, .phase⟩, ⟨5, .phase⟩, ⟨6, .phase⟩, ⟨7, .phase⟩, ⟨8, .phase⟩, ⟨9, .phase⟩, ⟨10, .phase⟩, ⟨11, .phase⟩, ⟨12, .phase⟩, ⟨13, .phase⟩], none⟩) rfl (fun K hK => ?_) AllReadyH.nil
          rw [if_pos (by rfl)]
          refine wp_store_mid 54 (.tmp 7) (.tmp 22) rfl tp 0 #[.int .i64 F, .int .i64 S, .slice p1 lf.length c1, .slice p2 sd.length c2] rfl rfl (by simpa using Kt.there 0 4 (by simp)) (by kernel_rfl) (all_oneCell_toArray (by intro v hv; simp at hv; rcases hv with rfl | rfl | rfl | rfl <;> rfl)) ?_
          have Kq : Blk (V5.setCells tp 0 [.int .i64 F, .int .i64 S, .slice p1 lf.length c1, .slice p2 sd.length c2]) tp 54 [.int .i64 F, .int .i64 S, .slice p1 lf.length c1, .slice p2 sd.length c2] := Kt.all rfl
          have H := (only_sets tp 0 V5 [.int .i64 F, .int .i64 S, .slice p1 lf.length c1, .slice p2 sd.length c2]).2.2 _ _ htp hHeld
          have X := Oth.setCells Kt 0 [.int .i64 F, .int .i64 S, .slice p1 lf.length c1, .slice p2 sd.length c2]
          replace O1 := X.row O1 (by decide)
          replace O2 := X.row O2 (by decide)
          clear X Kt
          dsimp only
          generalize World.setCells V5 tp 0 [.int .i64 F, .int .i64 S, .slice p1 lf.length c1, .slice p2 sd.length c2] = VF at O1 O2 Kq H ⊢
          refine hK.out _ _ (H) (fun hHeld => ?_)
          clear hK K
          try simp only [zP, zQ, zS, zZ, zC]
          refine wpAnyH_done (by kernel_rfl) ?_ _
          clear hHeld
          go_wp2_with fail
          go_meet
          exact ⟨tp, _, _, rfl, htp, Kq, O1, O2, H⟩
      · rw [if_pos (by rfl)]
        go_simp
        have X : Oth 0 V1 (World.alloc V1 (.cells zeroPrf.toArray 54)) := Oth.alloc 0 _ _
        have X2 : Below V1.heap.size V1 (World.alloc V1 (.cells zeroPrf.toArray 54)) := (Below.refl _ _).alloc (Nat.le_refl _) _
        have hge : W0.heap.size ≤ V1.heap.size := hHeld.size
        replace Ec := X.2 _ _ _ _ (by decide) Ec
        have Kt : Blk (World.alloc V1 (.cells zeroPrf.toArray 54)) V1.heap.size 54 zeroPrf := blk_new V1 54 zeroPrf.toArray
        refine hK.out _ _ (link hHeld X2) (fun hHeld => ?_)
        clear hK K
        try simp only [zP, zQ, zS, zZ, zC]
        clear X X2
        generalize World.alloc V1 _ = V2 at Ec Kt hHeld ⊢
        generalize V1.heap.size = tp at Kt hge ⊢
        have htp := hge
        clear hge
        refine wpAnyH_ready (rs := [4]) (by kernel_rfl) (by simp) ?_
        refine AllReadyH.cons (o := ⟨some 14, .buildSlice 24 0 #[], 24, "ref.go:329", #[], none⟩) rfl (fun K hK => ?_) AllReadyH.nil
        rw [if_pos (by rfl)]
        go_simp
        have X : Oth 0 V2 (World.alloc V2 (.cells #[] 75)) := Oth.alloc 0 _ _
        have X2 : Below V2.heap.size V2 (World.alloc V2 (.cells #[] 75)) := (Below.refl _ _).alloc (Nat.le_refl _) _
        have hge : W0.heap.size ≤ V2.heap.size := hHeld.size
        replace Ec := X.2 _ _ _ _ (by decide) Ec
        replace Kt := X.blk Kt (by decide)
        have Ea : (World.alloc V2 (.cells #[] 75)).heap[V2.heap.size]? = some (.cells #[] 75 (0, 0)) := heap_alloc_new V2 _
        refine hK.out _ _ (link hHeld X2) (fun hHeld => ?_)
        clear hK K
        try simp only [zP, zQ, zS, zZ, zC]
        clear X X2
        generalize World.alloc V2 _ = V3 at Ea Ec Kt hHeld ⊢
        generalize V2.heap.size = ga at Ea hge ⊢
        have hga := hge
        clear hge
        refine wpAnyH_ready (rs := [7]) (by kernel_rfl) (by simp) ?_
        refine AllReadyH.cons (o := ⟨some 17, .call { callee := .builtin .append, args := #[.tmp 14, .tmp 16], argTypes := #[24, 24] }, 24, "ref.go:329", #[⟨4, .data⟩, ⟨6, .data⟩], none⟩) rfl (fun K hK => ?_) AllReadyH.nil
        rw [if_pos (by rfl)]
        refine app_leaves (w := V3) (.tmp 14) (.tmp 16) rfl W0.heap.size ga rfl Ea hga lf q n c rfl HN.out hn6 hq (HL.out V3 hHeld) ?_
        intro v1 V4 O1n X hB
        obtain ⟨p1, c1, rfl⟩ := row_form O1n
        replace Ec := X.2 _ _ _ _ (by decide) Ec
        replace Kt := X.blk Kt (by decide)
        clear Ea hga
        have O1 := O1n
        clear O1n
        refine hK.out _ _ (hHeld.trans hB) (fun hHeld => ?_)
        clear hK K
        try simp only [zP, zQ, zS, zZ, zC]
        clear X hB
        refine wpAnyH_ready (rs := [11]) (by kernel_rfl) (by simp) ?_
        refine AllReadyH.cons (o := ⟨some 21, .call { callee := .builtin .append, args := #[.tmp 18, .tmp 20], argTypes := #[48, 48] }, 48, "ref.go:329", #[⟨8, .data⟩, ⟨10, .data⟩, ⟨7, .chain⟩], none⟩) rfl (fun K hK => ?_) AllReadyH.nil
        rw [if_pos (by rfl)]
        refine app_dgts (w := V4) (.tmp 18) (.tmp 20) rfl W0.heap.size gc rfl Ec hgc sd hd sa k sc W0.heap.size rfl HK.out hk6 hqs (HS.out V4 hHeld) ?_
        intro v2 V5 O2n X hB
        obtain ⟨p2, c2, rfl⟩ := row_form O2n
        replace O1 := X.row O1 (by decide)
        replace Kt := X.blk Kt (by decide)
        clear Ec hgc
        have O2 := O2n
        clear O2n
        refine hK.out _ _ (hHeld.trans hB) (fun hHeld => ?_)
        clear hK K
        try simp only [zP, zQ, zS, zZ, zC]
        clear X hB
        refine wt (i := 12) (oi := ⟨some 22, .build 54 #[(0, .tmp 11), (1, .tmp 13), (2, .tmp 17), (3, .tmp 21)], 54, "ref.go:329", #[⟨1, .data⟩, ⟨3, .data⟩, ⟨7, .data⟩, ⟨11, .data⟩], none⟩) (v := .agg #[.int .i64 F, .int .i64 S, .slice p1 lf.length c1, .slice p2 sd.length c2]) (Or.inl ⟨by rfl, fun w' hSw => by go_simp⟩) hHeld ?_
        try simp only [zP, zQ, zS, zZ, zC]
        refine wpAnyH_ready (rs := [14]) (by kernel_rfl) (by simp) ?_
        refine AllReadyH.cons (o := ⟨none, .store 54 (.tmp 7) (.tmp 22), 0, "ref.go:329", #[⟨13, .data⟩, ⟨12, .data⟩, ⟨11, .chain⟩, ⟨0, .phase⟩, ⟨1, .phase⟩, ⟨2, .phase⟩, ⟨3, .phase⟩, ⟨4, .phase⟩, ⟨5, .phase⟩, ⟨6, .phase⟩, ⟨7, .phase⟩, ⟨8, .phase⟩, ⟨9, .phase⟩, ⟨10, .phase⟩, ⟨11, .phase⟩, ⟨12, .phase⟩, ⟨13, .phase⟩], none⟩) rfl (fun K hK => ?_) AllReadyH.nil
        rw [if_pos (by rfl)]
        refine wp_store_mid 54 (.tmp 7) (.tmp 22) rfl tp 0 #[.int .i64 F, .int .i64 S, .slice p1 lf.length c1, .slice p2 sd.length c2] rfl rfl (by simpa using Kt.there 0 4 (by simp)) (by kernel_rfl) (all_oneCell_toArray (by intro v hv; simp at hv; rcases hv with rfl | rfl | rfl | rfl <;> rfl)) ?_
        have Kq : Blk (V5.setCells tp 0 [.int .i64 F, .int .i64 S, .slice p1 lf.length c1, .slice p2 sd.length c2]) tp 54 [.int .i64 F, .int .i64 S, .slice p1 lf.length c1, .slice p2 sd.length c2] := Kt.all rfl
        have H := (only_sets tp 0 V5 [.int .i64 F, .int .i64 S, .slice p1 lf.length c1, .slice p2 sd.length c2]).2.2 _ _ htp hHeld
        have X := Oth.setCells Kt 0 [.int .i64 F, .int .i64 S, .slice p1 lf.length c1, .slice p2 sd.length c2]
        replace O1 := X.row O1 (by decide)
        replace O2 := X.row O2 (by decide)
        clear X Kt
        dsimp only
        generalize World.setCells V5 tp 0 [.int .i64 F, .int .i64 S, .slice p1 lf.length c1, .slice p2 sd.length c2] = VF at O1 O2 Kq H ⊢
        refine hK.out _ _ (H) (fun hHeld => ?_)
        clear hK K
        try simp only [zP, zQ, zS, zZ, zC]
        refine wpAnyH_done (by kernel_rfl) ?_ _
        clear hHeld
        go_wp2_with fail
        go_meet
        exact ⟨tp, _, _, rfl, htp, Kq, O1, O2, H⟩
    · rw [if_pos (by rfl)]
      go_simp
      have X : Oth 0 V0 (World.alloc V0 (.cells zeroPrf.toArray 54)) := Oth.alloc 0 _ _
      have X2 : Below V0.heap.size V0 (World.alloc V0 (.cells zeroPrf.toArray 54)) := (Below.refl _ _).alloc (Nat.le_refl _) _
      have hge : W0.heap.size ≤ V0.heap.size := hHeld.size
      have Kt : Blk (World.alloc V0 (.cells zeroPrf.toArray 54)) V0.heap.size 54 zeroPrf := blk_new V0 54 zeroPrf.toArray
      refine hK.out _ _ (link hHeld X2) (fun hHeld => ?_)
      clear hK K
      try simp only [zP, zQ, zS, zZ, zC]
      clear X X2
      generalize World.alloc V0 _ = V1 at Kt hHeld ⊢
      generalize V0.heap.size = tp at Kt hge ⊢
      have htp := hge
      clear hge
      refine wpAnyH_ready (rs := [4, 8]) (by kernel_rfl) (by simp) ?_
      refine AllReadyH.cons (o := ⟨some 14, .buildSlice 24 0 #[], 24, "ref.go:329", #[], none⟩) rfl (fun K hK => ?_) (AllReadyH.cons (o := ⟨some 18, .buildSlice 48 0 #[], 48, "ref.go:329", #[], none⟩) rfl (fun K hK => ?_) AllReadyH.nil)
      · rw [if_pos (by rfl)]
        go_simp
        have X : Oth 0 V1 (World.alloc V1 (.cells #[] 75)) := Oth.alloc 0 _ _
        have X2 : Below V1.heap.size V1 (World.alloc V1 (.cells #[] 75)) := (Below.refl _ _).alloc (Nat.le_refl _) _
        have hge : W0.heap.size ≤ V1.heap.size := hHeld.size
        replace Kt := X.blk Kt (by decide)
        have Ea : (World.alloc V1 (.cells #[] 75)).heap[V1.heap.size]? = some (.cells #[] 75 (0, 0)) := heap_alloc_new V1 _
        refine hK.out _ _ (link hHeld X2) (fun hHeld => ?_)
        clear hK K
        try simp only [zP, zQ, zS, zZ, zC]
        clear X X2
        generalize World.alloc V1 _ = V2 at Ea Kt hHeld ⊢
        generalize V1.heap.size = ga at Ea hge ⊢
        have hga := hge
        clear hge
        refine wpAnyH_ready (rs := [7, 8]) (by kernel_rfl) (by simp) ?_
        refine AllReadyH.cons (o := ⟨some 17, .call { callee := .builtin .append, args := #[.tmp 14, .tmp 16], argTypes := #[24, 24] }, 24, "ref.go:329", #[⟨4, .data⟩, ⟨6, .data⟩], none⟩) rfl (fun K hK => ?_) (AllReadyH.cons (o := ⟨some 18, .buildSlice 48 0 #[], 48, "ref.go:329", #[], none⟩) rfl (fun K hK => ?_) AllReadyH.nil)
        · rw [if_pos (by rfl)]
          refine app_leaves (w := V2) (.tmp 14) (.tmp 16) rfl W0.heap.size ga rfl Ea hga lf q n c rfl HN.out hn6 hq (HL.out V2 hHeld) ?_
          intro v1 V3 O1n X hB
          obtain ⟨p1, c1, rfl⟩ := row_form O1n
          replace Kt := X.blk Kt (by decide)
          clear Ea hga
          have O1 := O1n
          clear O1n
          refine hK.out _ _ (hHeld.trans hB) (fun hHeld => ?_)
          clear hK K
          try simp only [zP, zQ, zS, zZ, zC]
          clear X hB
          refine wpAnyH_ready (rs := [8]) (by kernel_rfl) (by simp) ?_
          refine AllReadyH.cons (o := ⟨some 18, .buildSlice 48 0 #[], 48, "ref.go:329", #[], none⟩) rfl (fun K hK => ?_) AllReadyH.nil
          rw [if_pos (by rfl)]
          go_simp
          have X : Oth 0 V3 (World.alloc V3 (.cells #[] 29)) := Oth.alloc 0 _ _
          have X2 : Below V3.heap.size V3 (World.alloc V3 (.cells #[] 29)) := (Below.refl _ _).alloc (Nat.le_refl _) _
          have hge : W0.heap.size ≤ V3.heap.size := hHeld.size
          replace O1 := X.row O1 (by decide)
          replace Kt := X.blk Kt (by decide)
          have Ec : (World.alloc V3 (.cells #[] 29)).heap[V3.heap.size]? = some (.cells #[] 29 (0, 0)) := heap_alloc_new V3 _
          refine hK.out _ _ (link hHeld X2) (fun hHeld => ?_)
          clear hK K
          try simp only [zP, zQ, zS, zZ, zC]
          clear X X2
          generalize World.alloc V3 _ = V4 at O1 Ec Kt hHeld ⊢
          generalize V3.heap.size = gc at Ec hge ⊢
          have hgc := hge
          clear hge
          refine wpAnyH_ready (rs := [11]) (by kernel_rfl) (by simp) ?_
          refine AllReadyH.cons (o := ⟨some 21, .call { callee := .builtin .append, args := #[.tmp 18, .tmp 20], argTypes := #[48, 48] }, 48, "ref.go:329", #[⟨8, .data⟩, ⟨10, .data⟩, ⟨7, .chain⟩], none⟩) rfl (fun K hK => ?_) AllReadyH.nil
          rw [if_pos (by rfl)]
          refine app_dgts (w := V4) (.tmp 18) (.tmp 20) rfl W0.heap.size gc rfl Ec hgc sd hd sa k sc W0.heap.size rfl HK.out hk6 hqs (HS.out V4 hHeld) ?_
          intro v2 V5 O2n X hB
          obtain ⟨p2, c2, rfl⟩ := row_form O2n
          replace O1 := X.row O1 (by decide)
          replace Kt := X.blk Kt (by decide)
          clear Ec hgc
          have O2 := O2n
          clear O2n
          refine hK.out _ _ (hHeld.trans hB) (fun hHeld => ?_)
          clear hK K
          try simp only [zP, zQ, zS, zZ, zC]
          clear X hB
          refine wt (i := 12) (oi := ⟨some 22, .build 54 #[(0, .tmp 11), (1, .tmp 13), (2, .tmp 17), (3, .tmp 21)], 54, "ref.go:329", #[⟨1, .data⟩, ⟨3, .data⟩, ⟨7, .data⟩, ⟨11, .data⟩], none⟩) (v := .agg #[.int .i64 F, .int .i64 S, .slice p1 lf.length c1, .slice p2 sd.length c2]) (Or.inl ⟨by rfl, fun w' hSw => by go_simp⟩) hHeld ?_
          try simp only [zP, zQ, zS, zZ, zC]
          refine wpAnyH_ready (rs := [14]) (by kernel_rfl) (by simp) ?_
          refine AllReadyH.cons (o := ⟨none, .store 54 (.tmp 7) (.tmp 22), 0, "ref.go:329", #[⟨13, .data⟩, ⟨12, .data⟩, ⟨11, .chain⟩, ⟨0, .phase⟩, ⟨1, .phase⟩, ⟨2, .phase⟩, ⟨3, .phase⟩, ⟨4, .phase⟩, ⟨5, .phase⟩, ⟨6, .phase⟩, ⟨7, .phase⟩, ⟨8, .phase⟩, ⟨9, .phase⟩, ⟨10, .phase⟩, ⟨11, .phase⟩, ⟨12, .phase⟩, ⟨13, .phase⟩], none⟩) rfl (fun K hK => ?_) AllReadyH.nil
          rw [if_pos (by rfl)]
          refine wp_store_mid 54 (.tmp 7) (.tmp 22) rfl tp 0 #[.int .i64 F, .int .i64 S, .slice p1 lf.length c1, .slice p2 sd.length c2] rfl rfl (by simpa using Kt.there 0 4 (by simp)) (by kernel_rfl) (all_oneCell_toArray (by intro v hv; simp at hv; rcases hv with rfl | rfl | rfl | rfl <;> rfl)) ?_
          have Kq : Blk (V5.setCells tp 0 [.int .i64 F, .int .i64 S, .slice p1 lf.length c1, .slice p2 sd.length c2]) tp 54 [.int .i64 F, .int .i64 S, .slice p1 lf.length c1, .slice p2 sd.length c2] := Kt.all rfl
          have H := (only_sets tp 0 V5 [.int .i64 F, .int .i64 S, .slice p1 lf.length c1, .slice p2 sd.length c2]).2.2 _ _ htp hHeld
          have X := Oth.setCells Kt 0 [.int .i64 F, .int .i64 S, .slice p1 lf.length c1, .slice p2 sd.length c2]
          replace O1 := X.row O1 (by decide)
          replace O2 := X.row O2 (by decide)
          clear X Kt
          dsimp only
          generalize World.setCells V5 tp 0 [.int .i64 F, .int .i64 S, .slice p1 lf.length c1, .slice p2 sd.length c2] = VF at O1 O2 Kq H ⊢
          refine hK.out _ _ (H) (fun hHeld => ?_)
          clear hK K
          try simp only [zP, zQ, zS, zZ, zC]
          refine wpAnyH_done (by kernel_rfl) ?_ _
          clear hHeld
          go_wp2_with fail
          go_meet
          exact ⟨tp, _, _, rfl, htp, Kq, O1, O2, H⟩
        · rw [if_pos (by rfl)]
          go_simp
          have X : Oth 0 V2 (World.alloc V2 (.cells #[] 29)) := Oth.alloc 0 _ _
          have X2 : Below V2.heap.size V2 (World.alloc V2 (.cells #[] 29)) := (Below.refl _ _).alloc (Nat.le_refl _) _
          have hge : W0.heap.size ≤ V2.heap.size := hHeld.size
          replace Ea := X.2 _ _ _ _ (by decide) Ea
          replace Kt := X.blk Kt (by decide)
          have Ec : (World.alloc V2 (.cells #[] 29)).heap[V2.heap.size]? = some (.cells #[] 29 (0, 0)) := heap_alloc_new V2 _
          refine hK.out _ _ (link hHeld X2) (fun hHeld => ?_)
          clear hK K
          try simp only [zP, zQ, zS, zZ, zC]
          clear X X2
          generalize World.alloc V2 _ = V3 at Ea Ec Kt hHeld ⊢
          generalize V2.heap.size = gc at Ec hge ⊢
          have hgc := hge
          clear hge
          refine wpAnyH_ready (rs := [7]) (by kernel_rfl) (by simp) ?_
          refine AllReadyH.cons (o := ⟨some 17, .call { callee := .builtin .append, args := #[.tmp 14, .tmp 16], argTypes := #[24, 24] }, 24, "ref.go:329", #[⟨4, .data⟩, ⟨6, .data⟩], none⟩) rfl (fun K hK => ?_) AllReadyH.nil
          rw [if_pos (by rfl)]
          refine app_leaves (w := V3) (.tmp 14) (.tmp 16) rfl W0.heap.size ga rfl Ea hga lf q n c rfl HN.out hn6 hq (HL.out V3 hHeld) ?_
          intro v1 V4 O1n X hB
          obtain ⟨p1, c1, rfl⟩ := row_form O1n
          replace Ec := X.2 _ _ _ _ (by decide) Ec
          replace Kt := X.blk Kt (by decide)
          clear Ea hga
          have O1 := O1n
          clear O1n
          refine hK.out _ _ (hHeld.trans hB) (fun hHeld => ?_)
          clear hK K
          try simp only [zP, zQ, zS, zZ, zC]
          clear X hB
          refine wpAnyH_ready (rs := [11]) (by kernel_rfl) (by simp) ?_
          refine AllReadyH.cons (o := ⟨some 21, .call { callee := .builtin .append, args := #[.tmp 18, .tmp 20], argTypes := #[48, 48] }, 48, "ref.go:329", #[⟨8, .data⟩, ⟨10, .data⟩, ⟨7, .chain⟩], none⟩) rfl (fun K hK => ?_) AllReadyH.nil
          rw [if_pos (by rfl)]
          refine app_dgts (w := V4) (.tmp 18) (.tmp 20) rfl W0.heap.size gc rfl Ec hgc sd hd sa k sc W0.heap.size rfl HK.out hk6 hqs (HS.out V4 hHeld) ?_
          intro v2 V5 O2n X hB
          obtain ⟨p2, c2, rfl⟩ := row_form O2n
          replace O1 := X.row O1 (by decide)
          replace Kt := X.blk Kt (by decide)
          clear Ec hgc
          have O2 := O2n
          clear O2n
          refine hK.out _ _ (hHeld.trans hB) (fun hHeld => ?_)
          clear hK K
          try simp only [zP, zQ, zS, zZ, zC]
          clear X hB
          refine wt (i := 12) (oi := ⟨some 22, .build 54 #[(0, .tmp 11), (1, .tmp 13), (2, .tmp 17), (3, .tmp 21)], 54, "ref.go:329", #[⟨1, .data⟩, ⟨3, .data⟩, ⟨7, .data⟩, ⟨11, .data⟩], none⟩) (v := .agg #[.int .i64 F, .int .i64 S, .slice p1 lf.length c1, .slice p2 sd.length c2]) (Or.inl ⟨by rfl, fun w' hSw => by go_simp⟩) hHeld ?_
          try simp only [zP, zQ, zS, zZ, zC]
          refine wpAnyH_ready (rs := [14]) (by kernel_rfl) (by simp) ?_
          refine AllReadyH.cons (o := ⟨none, .store 54 (.tmp 7) (.tmp 22), 0, "ref.go:329", #[⟨13, .data⟩, ⟨12, .data⟩, ⟨11, .chain⟩, ⟨0, .phase⟩, ⟨1, .phase⟩, ⟨2, .phase⟩, ⟨3, .phase⟩, ⟨4, .phase⟩, ⟨5, .phase⟩, ⟨6, .phase⟩, ⟨7, .phase⟩, ⟨8, .phase⟩, ⟨9, .phase⟩, ⟨10, .phase⟩, ⟨11, .phase⟩, ⟨12, .phase⟩, ⟨13, .phase⟩], none⟩) rfl (fun K hK => ?_) AllReadyH.nil
          rw [if_pos (by rfl)]
          refine wp_store_mid 54 (.tmp 7) (.tmp 22) rfl tp 0 #[.int .i64 F, .int .i64 S, .slice p1 lf.length c1, .slice p2 sd.length c2] rfl rfl (by simpa using Kt.there 0 4 (by simp)) (by kernel_rfl) (all_oneCell_toArray (by intro v hv; simp at hv; rcases hv with rfl | rfl | rfl | rfl <;> rfl)) ?_
          have Kq : Blk (V5.setCells tp 0 [.int .i64 F, .int .i64 S, .slice p1 lf.length c1, .slice p2 sd.length c2]) tp 54 [.int .i64 F, .int .i64 S, .slice p1 lf.length c1, .slice p2 sd.length c2] := Kt.all rfl
          have H := (only_sets tp 0 V5 [.int .i64 F, .int .i64 S, .slice p1 lf.length c1, .slice p2 sd.length c2]).2.2 _ _ htp hHeld
          have X := Oth.setCells Kt 0 [.int .i64 F, .int .i64 S, .slice p1 lf.length c1, .slice p2 sd.length c2]
          replace O1 := X.row O1 (by decide)
          replace O2 := X.row O2 (by decide)
          clear X Kt
          dsimp only
          generalize World.setCells V5 tp 0 [.int .i64 F, .int .i64 S, .slice p1 lf.length c1, .slice p2 sd.length c2] = VF at O1 O2 Kq H ⊢
          refine hK.out _ _ (H) (fun hHeld => ?_)
          clear hK K
          try simp only [zP, zQ, zS, zZ, zC]
          refine wpAnyH_done (by kernel_rfl) ?_ _
          clear hHeld
          go_wp2_with fail
          go_meet
          exact ⟨tp, _, _, rfl, htp, Kq, O1, O2, H⟩
      · rw [if_pos (by rfl)]
        go_simp
        have X : Oth 0 V1 (World.alloc V1 (.cells #[] 29)) := Oth.alloc 0 _ _
        have X2 : Below V1.heap.size V1 (World.alloc V1 (.cells #[] 29)) := (Below.refl _ _).alloc (Nat.le_refl _) _
        have hge : W0.heap.size ≤ V1.heap.size := hHeld.size
        replace Kt := X.blk Kt (by decide)
        have Ec : (World.alloc V1 (.cells #[] 29)).heap[V1.heap.size]? = some (.cells #[] 29 (0, 0)) := heap_alloc_new V1 _
        refine hK.out _ _ (link hHeld X2) (fun hHeld => ?_)
        clear hK K
        try simp only [zP, zQ, zS, zZ, zC]
        clear X X2
        generalize World.alloc V1 _ = V2 at Ec Kt hHeld ⊢
        generalize V1.heap.size = gc at Ec hge ⊢
        have hgc := hge
        clear hge
        refine wpAnyH_ready (rs := [4]) (by kernel_rfl) (by simp) ?_
        refine AllReadyH.cons (o := ⟨some 14, .buildSlice 24 0 #[], 24, "ref.go:329", #[], none⟩) rfl (fun K hK => ?_) AllReadyH.nil
        rw [if_pos (by rfl)]
        go_simp
        have X : Oth 0 V2 (World.alloc V2 (.cells #[] 75)) := Oth.alloc 0 _ _
        have X2 : Below V2.heap.size V2 (World.alloc V2 (.cells #[] 75)) := (Below.refl _ _).alloc (Nat.le_refl _) _
        have hge : W0.heap.size ≤ V2.heap.size := hHeld.size
        replace Ec := X.2 _ _ _ _ (by decide) Ec
        replace Kt := X.blk Kt (by decide)
        have Ea : (World.alloc V2 (.cells #[] 75)).heap[V2.heap.size]? = some (.cells #[] 75 (0, 0)) := heap_alloc_new V2 _
        refine hK.out _ _ (link hHeld X2) (fun hHeld => ?_)
        clear hK K
        try simp only [zP, zQ, zS, zZ, zC]
        clear X X2
        generalize World.alloc V2 _ = V3 at Ea Ec Kt hHeld ⊢
        generalize V2.heap.size = ga at Ea hge ⊢
        have hga := hge
        clear hge
        refine wpAnyH_ready (rs := [7]) (by kernel_rfl) (by simp) ?_
        refine AllReadyH.cons (o := ⟨some 17, .call { callee := .builtin .append, args := #[.tmp 14, .tmp 16], argTypes := #[24, 24] }, 24, "ref.go:329", #[⟨4, .data⟩, ⟨6, .data⟩], none⟩) rfl (fun K hK => ?_) AllReadyH.nil
        rw [if_pos (by rfl)]
        refine app_leaves (w := V3) (.tmp 14) (.tmp 16) rfl W0.heap.size ga rfl Ea hga lf q n c rfl HN.out hn6 hq (HL.out V3 hHeld) ?_
        intro v1 V4 O1n X hB
        obtain ⟨p1, c1, rfl⟩ := row_form O1n
        replace Ec := X.2 _ _ _ _ (by decide) Ec
        replace Kt := X.blk Kt (by decide)
        clear Ea hga
        have O1 := O1n
        clear O1n
        refine hK.out _ _ (hHeld.trans hB) (fun hHeld => ?_)
        clear hK K
        try simp only [zP, zQ, zS, zZ, zC]
        clear X hB
        refine wpAnyH_ready (rs := [11]) (by kernel_rfl) (by simp) ?_
        refine AllReadyH.cons (o := ⟨some 21, .call { callee := .builtin .append, args := #[.tmp 18, .tmp 20], argTypes := #[48, 48] }, 48, "ref.go:329", #[⟨8, .data⟩, ⟨10, .data⟩, ⟨7, .chain⟩], none⟩) rfl (fun K hK => ?_) AllReadyH.nil
        rw [if_pos (by rfl)]
        refine app_dgts (w := V4) (.tmp 18) (.tmp 20) rfl W0.heap.size gc rfl Ec hgc sd hd sa k sc W0.heap.size rfl HK.out hk6 hqs (HS.out V4 hHeld) ?_
        intro v2 V5 O2n X hB
        obtain ⟨p2, c2, rfl⟩ := row_form O2n
        replace O1 := X.row O1 (by decide)
        replace Kt := X.blk Kt (by decide)
        clear Ec hgc
        have O2 := O2n
        clear O2n
        refine hK.out _ _ (hHeld.trans hB) (fun hHeld => ?_)
        clear hK K
        try simp only [zP, zQ, zS, zZ, zC]
        clear X hB
        refine wt (i := 12) (oi := ⟨some 22, .build 54 #[(0, .tmp 11), (1, .tmp 13), (2, .tmp 17), (3, .tmp 21)], 54, "ref.go:329", #[⟨1, .data⟩, ⟨3, .data⟩, ⟨7, .data⟩, ⟨11, .data⟩], none⟩) (v := .agg #[.int .i64 F, .int .i64 S, .slice p1 lf.length c1, .slice p2 sd.length c2]) (Or.inl ⟨by rfl, fun w' hSw => by go_simp⟩) hHeld ?_
        try simp only [zP, zQ, zS, zZ, zC]
        refine wpAnyH_ready (rs := [14]) (by kernel_rfl) (by simp) ?_
        refine AllReadyH.cons (o := ⟨none, .store 54 (.tmp 7) (.tmp 22), 0, "ref.go:329", #[⟨13, .data⟩, ⟨12, .data⟩, ⟨11, .chain⟩, ⟨0, .phase⟩, ⟨1, .phase⟩, ⟨2, .phase⟩, ⟨3, .phase⟩, ⟨4, .phase⟩, ⟨5, .phase⟩, ⟨6, .phase⟩, ⟨7, .phase⟩, ⟨8, .phase⟩, ⟨9, .phase⟩, ⟨10, .phase⟩, ⟨11, .phase⟩, ⟨12, .phase⟩, ⟨13, .phase⟩], none⟩) rfl (fun K hK => ?_) AllReadyH.nil
        rw [if_pos (by rfl)]
        refine wp_store_mid 54 (.tmp 7) (.tmp 22) rfl tp 0 #[.int .i64 F, .int .i64 S, .slice p1 lf.length c1, .slice p2 sd.length c2] rfl rfl (by simpa using Kt.there 0 4 (by simp)) (by kernel_rfl) (all_oneCell_toArray (by intro v hv; simp at hv; rcases hv with rfl | rfl | rfl | rfl <;> rfl)) ?_
        have Kq : Blk (V5.setCells tp 0 [.int .i64 F, .int .i64 S, .slice p1 lf.length c1, .slice p2 sd.length c2]) tp 54 [.int .i64 F, .int .i64 S, .slice p1 lf.length c1, .slice p2 sd.length c2] := Kt.all rfl
        have H := (only_sets tp 0 V5 [.int .i64 F, .int .i64 S, .slice p1 lf.length c1, .slice p2 sd.length c2]).2.2 _ _ htp hHeld
        have X := Oth.setCells Kt 0 [.int .i64 F, .int .i64 S, .slice p1 lf.length c1, .slice p2 sd.length c2]
        replace O1 := X.row O1 (by decide)
        replace O2 := X.row O2 (by decide)
        clear X Kt
        dsimp only
        generalize World.setCells V5 tp 0 [.int .i64 F, .int .i64 S, .slice p1 lf.length c1, .slice p2 sd.length c2] = VF at O1 O2 Kq H ⊢
        refine hK.out _ _ (H) (fun hHeld => ?_)
        clear hK K
        try simp only [zP, zQ, zS, zZ, zC]
        refine wpAnyH_done (by kernel_rfl) ?_ _
        clear hHeld
        go_wp2_with fail
        go_meet
        exact ⟨tp, _, _, rfl, htp, Kq, O1, O2, H⟩
  case rest =>
    obtain ⟨tp, v1, v2, rfl, htp, Kt, O1, O2, C1⟩ := hcut
    obtain ⟨V1, rfl⟩ : ∃ V : World, V = wc := ⟨_, rfl⟩
    clear HL HS hL hS hq hqs Ka
    obtain ⟨p1, c1, rfl⟩ := row_form O1
    obtain ⟨p2, c2, rfl⟩ := row_form O2
    unfold OwnRL at O1
    unfold OwnD at O2
    rw [HN.out] at Kt O1
    rw [HK.out] at Kt O2
    have CBw := link KB C1
    have hkr : w.heap.size + 1 < W0.heap.size := Kr.lt
    have Krz := Kr.keep C1
    clear Kr KB C1
    generalize W0.heap.size = M at htp hkr O1 O2
    have k2 := Kt.cell (j := 2) rfl
    have k3 := Kt.cell (j := 3) rfl
    obtain ⟨n1, hn1⟩ : ∃ m, max n 1 = m := ⟨_, rfl⟩
    obtain ⟨k1, hk1⟩ : ∃ m, max k 1 = m := ⟨_, rfl⟩
    have hn1i : max (n : Int) 1 = (n1 : Int) := by omega
    have hk1i : max (k : Int) 1 = (k1 : Int) := by omega
    go_upto_region 3 with (go_at_call 16; refine (HAb.out n1 (by omega) (by omega) _).mono ?_; rintro e w1 ⟨i0, hi0, rfl, hw1⟩; rw [hw1])
    go_upto_region 4 with (go_at_call 16; refine (HAb.out k1 (by omega) (by omega) _).mono ?_; rintro e w1 ⟨j0, hj0, rfl, hw1⟩; rw [hw1])
    clear k2 k3
    go_upto_region 6 with (go_at_call 16; refine (HAh.out _).mono ?_; rintro e w1 ⟨r, hr, rfl, hw1⟩; rw [hw1])
    have hi1 : 0 < n → i0 < n := by omega
    have hj1 : 0 < k → j0 < k := by omega
    obtain ⟨ri, hri⟩ : ∃ z : Int, (r : Int) = z := ⟨_, rfl⟩
    rw [hri]
    have hcase : ri = 0 ∨ ri = 1 ∨ ri = 2 ∨ ri = 3 ∨ ri = 4 ∨ ri = 5 ∨ ri = 6 ∨ ri = 7 ∨ ri = 8 ∨ ri = 9 ∨ ri = 10 := by omega
    clear hri hr hn1i hk1i hn1 hk1 hi0 hj0 HAh
    rcases hcase with rfl | rfl | rfl | rfl | rfl | rfl | rfl | rfl | rfl | rfl | rfl
    · go_upto_region 7 with (fail)
      refine wp_region_held_drew (S := fun _ => True) (by kernel_rfl) trivial (fun _ => ?_)
      have hHeld : True := trivial
      replace Kt := Kt.drew
      replace Krz := Krz.drew
      replace O1 := row_keep O1 (below_drew (Below.refl _ _))
      replace O2 := row_keep O2 (below_drew (Below.refl _ _))
      replace CBw := below_drew CBw
      generalize V1.drew = V2 at Kt Krz O1 O2 CBw ⊢
      refine wt (i := 0) (oi := ⟨some 45, .fieldAddr 54 (.tmp 7) 0, 0, "ref.go:334", #[], none⟩) (v := .pointer (some ⟨tp, 0, none⟩)) (Or.inl ⟨by rfl, fun w' hSw => by go_simp⟩) hHeld ?_
      try simp only [zP, zQ, zS, zZ, zC]
      refine wt (i := 2) (oi := ⟨some 47, .move (.tmp 2), 3, "ref.go:334", #[], none⟩) (v := .int .i64 by_) (Or.inl ⟨by rfl, fun w' hSw => by go_simp⟩) hHeld ?_
      try simp only [zP, zQ, zS, zZ, zC]
      refine wpAnyH_ready (rs := [1, 3]) (by kernel_rfl) (by simp) ?_
      refine AllReadyH.cons (o := ⟨some 46, .load 3 (.tmp 45), 3, "ref.go:334", #[⟨0, .data⟩], none⟩) rfl (fun K hK => ?_) (AllReadyH.cons (o := ⟨some 48, .call { callee := .value (.func 16), args := #[.tmp 47, .const (Value.int IntKind.i64 5)], argTypes := #[3, 3] }, 3, "ref.go:334", #[⟨2, .data⟩], none⟩) rfl (fun K hK => ?_) AllReadyH.nil)
      · rw [if_pos (by rfl)]
        have hc0 := Kt.cell (j := 0) rfl
        go_simp
        clear hc0
        refine hK.out _ _ (trivial) (fun hHeld => ?_)
        clear hK K
        try simp only [zP, zQ, zS, zZ, zC]
        refine wpAnyH_ready (rs := [3]) (by kernel_rfl) (by simp) ?_
        refine AllReadyH.cons (o := ⟨some 48, .call { callee := .value (.func 16), args := #[.tmp 47, .const (Value.int IntKind.i64 5)], argTypes := #[3, 3] }, 3, "ref.go:334", #[⟨2, .data⟩], none⟩) rfl (fun K hK => ?_) AllReadyH.nil
        rw [if_pos (by rfl)]
        go_simp
        refine (HAb.out 5 (by omega) (by omega) V2).mono ?_
        rintro e w1 ⟨r2, hr2, rfl, hw1⟩
        dsimp only
        rw [hw1]
        clear hw1 w1
        refine hK.out _ _ (trivial) (fun hHeld => ?_)
        clear hK K
        try simp only [zP, zQ, zS, zZ, zC]
        refine wt (i := 4) (oi := ⟨some 49, .binOp .add 3 (.tmp 46) (.tmp 48) 3, 3, "ref.go:334", #[⟨1, .data⟩, ⟨3, .data⟩], none⟩) (v := .int .i64 (IntKind.i64.wrap (F + (r2 : Int)))) (Or.inl ⟨by rfl, fun w' hSw => by go_simp⟩) hHeld ?_
        try simp only [zP, zQ, zS, zZ, zC]
        refine wt (i := 5) (oi := ⟨some 50, .binOp .sub 3 (.tmp 49) (.const (Value.int IntKind.i64 2)) 3, 3, "ref.go:334", #[⟨4, .data⟩], none⟩) (v := .int .i64 (IntKind.i64.wrap (IntKind.i64.wrap (F + (r2 : Int)) - 2))) (Or.inl ⟨by rfl, fun w' hSw => by go_simp⟩) hHeld ?_
        try simp only [zP, zQ, zS, zZ, zC]
        refine wt (i := 6) (oi := ⟨some 51, .fieldAddr 54 (.tmp 7) 0, 0, "ref.go:334", #[⟨0, .phase⟩, ⟨1, .phase⟩, ⟨2, .phase⟩, ⟨3, .phase⟩, ⟨4, .phase⟩, ⟨5, .phase⟩], none⟩) (v := .pointer (some ⟨tp, 0, none⟩)) (Or.inl ⟨by rfl, fun w' hSw => by go_simp⟩) hHeld ?_
        try simp only [zP, zQ, zS, zZ, zC]
        generalize IntKind.i64.wrap (IntKind.i64.wrap (F + (r2 : Int)) - 2) = z
        refine wpAnyH_ready (rs := [7]) (by kernel_rfl) (by simp) ?_
        refine AllReadyH.cons (o := ⟨none, .store 3 (.tmp 51) (.tmp 50), 0, "ref.go:334", #[⟨6, .data⟩, ⟨5, .data⟩, ⟨3, .chain⟩, ⟨0, .phase⟩, ⟨1, .phase⟩, ⟨2, .phase⟩, ⟨3, .phase⟩, ⟨4, .phase⟩, ⟨5, .phase⟩], none⟩) rfl (fun K hK => ?_) AllReadyH.nil
        rw [if_pos (by rfl)]
        have hc0 := Kt.cell (j := 0) rfl
        have hf0 := Kt.free 0
        go_simp
        clear hc0 hf0
        obtain ⟨Kt2, X, HB⟩ := put1 (j := 0) Kt (.int .i64 z)
        have CBw2 := HB _ _ (by omega) CBw
        have Krz2 := Krz.other (a := ⟨tp, 0, none⟩) (by show w.heap.size + 1 ≠ tp; omega) (.int .i64 z)
        replace O1 := X.row O1 (by decide)
        replace O2 := X.row O2 (by decide)
        simp only [List.set_cons_zero, List.set_cons_succ] at Kt2
        clear X HB Kt Krz CBw
        have Kt := Kt2
        have Krz := Krz2
        have CBw := CBw2
        clear Kt2 Krz2 CBw2
        generalize World.setCell V2 ⟨tp, 0, none⟩ (.int .i64 z) = V3 at Kt Krz O1 O2 CBw ⊢
        refine hK.out _ _ (trivial) (fun hHeld => ?_)
        clear hK K
        try simp only [zP, zQ, zS, zZ, zC]
        refine wpAnyH_done (by kernel_rfl) ?_ _
        clear hHeld
        go_wp2_with (first
          | (refine load_struct rfl 54 (.tmp 7) rfl Kt rfl Tryd.underlying54 (m := 4) (by kernel_rfl) rfl ?_)
          | (refine wpList_store_mid rfl 54 (.tmp 6) (.tmp 169) rfl (w.heap.size + 1) 0 #[.int .i64 (z), .int .i64 (S), .slice p1 n c1, .slice p2 k c2] rfl rfl (by simpa using Krz.there 0 4 (by simp)) (by kernel_rfl) (all_oneCell_toArray (by intro v hv; simp at hv; rcases hv with rfl | rfl | rfl | rfl <;> rfl)) ?_))
        have Kq : Blk (V3.setCells (w.heap.size + 1) 0 [.int .i64 (z), .int .i64 (S), .slice p1 n c1, .slice p2 k c2]) (w.heap.size + 1) 54 [.int .i64 (z), .int .i64 (S), .slice p1 n c1, .slice p2 k c2] := Krz.all rfl
        have X := Oth.setCells Krz 0 [.int .i64 (z), .int .i64 (S), .slice p1 n c1, .slice p2 k c2]
        have H := (only_sets (w.heap.size + 1) 0 V3 [.int .i64 (z), .int .i64 (S), .slice p1 n c1, .slice p2 k c2]).2.2 _ _ (Nat.le_succ _) CBw
        have E1 := X.row O1 (by decide)
        have E2 := X.row O2 (by decide)
        try dsimp only
        generalize World.setCells V3 (w.heap.size + 1) 0 [.int .i64 (z), .int .i64 (S), .slice p1 n c1, .slice p2 k c2] = VF at Kq H E1 E2 ⊢
        exact bodyPost_ret (v := .agg #[.int .i64 (z), .int .i64 (S), .slice p1 n c1, .slice p2 k c2]) (Kq.resultS (p := 6) (ty := 54) rfl _ rfl Tryd.underlying54 (by kernel_rfl)) rfl (bent_end2 E1 E2 HN.out HK.out (hz.mono (Nat.le_succ _)) (by omega) (by omega) hd H)
      · rw [if_pos (by rfl)]
        go_simp
        refine (HAb.out 5 (by omega) (by omega) V2).mono ?_
        rintro e w1 ⟨r2, hr2, rfl, hw1⟩
        dsimp only
        rw [hw1]
        clear hw1 w1
        refine hK.out _ _ (trivial) (fun hHeld => ?_)
        clear hK K
        try simp only [zP, zQ, zS, zZ, zC]
        refine wpAnyH_ready (rs := [1]) (by kernel_rfl) (by simp) ?_
        refine AllReadyH.cons (o := ⟨some 46, .load 3 (.tmp 45), 3, "ref.go:334", #[⟨0, .data⟩], none⟩) rfl (fun K hK => ?_) AllReadyH.nil
        rw [if_pos (by rfl)]
        have hc0 := Kt.cell (j := 0) rfl
        go_simp
        clear hc0
        refine hK.out _ _ (trivial) (fun hHeld => ?_)
        clear hK K
        try simp only [zP, zQ, zS, zZ, zC]
        refine wt (i := 4) (oi := ⟨some 49, .binOp .add 3 (.tmp 46) (.tmp 48) 3, 3, "ref.go:334", #[⟨1, .data⟩, ⟨3, .data⟩], none⟩) (v := .int .i64 (IntKind.i64.wrap (F + (r2 : Int)))) (Or.inl ⟨by rfl, fun w' hSw => by go_simp⟩) hHeld ?_
        try simp only [zP, zQ, zS, zZ, zC]
        refine wt (i := 5) (oi := ⟨some 50, .binOp .sub 3 (.tmp 49) (.const (Value.int IntKind.i64 2)) 3, 3, "ref.go:334", #[⟨4, .data⟩], none⟩) (v := .int .i64 (IntKind.i64.wrap (IntKind.i64.wrap (F + (r2 : Int)) - 2))) (Or.inl ⟨by rfl, fun w' hSw => by go_simp⟩) hHeld ?_
        try simp only [zP, zQ, zS, zZ, zC]
        refine wt (i := 6) (oi := ⟨some 51, .fieldAddr 54 (.tmp 7) 0, 0, "ref.go:334", #[⟨0, .phase⟩, ⟨1, .phase⟩, ⟨2, .phase⟩, ⟨3, .phase⟩, ⟨4, .phase⟩, ⟨5, .phase⟩], none⟩) (v := .pointer (some ⟨tp, 0, none⟩)) (Or.inl ⟨by rfl, fun w' hSw => by go_simp⟩) hHeld ?_
        try simp only [zP, zQ, zS, zZ, zC]
        generalize IntKind.i64.wrap (IntKind.i64.wrap (F + (r2 : Int)) - 2) = z
        refine wpAnyH_ready (rs := [7]) (by kernel_rfl) (by simp) ?_
        refine AllReadyH.cons (o := ⟨none, .store 3 (.tmp 51) (.tmp 50), 0, "ref.go:334", #[⟨6, .data⟩, ⟨5, .data⟩, ⟨3, .chain⟩, ⟨0, .phase⟩, ⟨1, .phase⟩, ⟨2, .phase⟩, ⟨3, .phase⟩, ⟨4, .phase⟩, ⟨5, .phase⟩], none⟩) rfl (fun K hK => ?_) AllReadyH.nil
        rw [if_pos (by rfl)]
        have hc0 := Kt.cell (j := 0) rfl
        have hf0 := Kt.free 0
        go_simp
        clear hc0 hf0
        obtain ⟨Kt2, X, HB⟩ := put1 (j := 0) Kt (.int .i64 z)
        have CBw2 := HB _ _ (by omega) CBw
        have Krz2 := Krz.other (a := ⟨tp, 0, none⟩) (by show w.heap.size + 1 ≠ tp; omega) (.int .i64 z)
        replace O1 := X.row O1 (by decide)
        replace O2 := X.row O2 (by decide)
        simp only [List.set_cons_zero, List.set_cons_succ] at Kt2
        clear X HB Kt Krz CBw
        have Kt := Kt2
        have Krz := Krz2
        have CBw := CBw2
        clear Kt2 Krz2 CBw2
        generalize World.setCell V2 ⟨tp, 0, none⟩ (.int .i64 z) = V3 at Kt Krz O1 O2 CBw ⊢
        refine hK.out _ _ (trivial) (fun hHeld => ?_)
        clear hK K
        try simp only [zP, zQ, zS, zZ, zC]
        refine wpAnyH_done (by kernel_rfl) ?_ _
        clear hHeld
        go_wp2_with (first
          | (refine load_struct rfl 54 (.tmp 7) rfl Kt rfl Tryd.underlying54 (m := 4) (by kernel_rfl) rfl ?_)
          | (refine wpList_store_mid rfl 54 (.tmp 6) (.tmp 169) rfl (w.heap.size + 1) 0 #[.int .i64 (z), .int .i64 (S), .slice p1 n c1, .slice p2 k c2] rfl rfl (by simpa using Krz.there 0 4 (by simp)) (by kernel_rfl) (all_oneCell_toArray (by intro v hv; simp at hv; rcases hv with rfl | rfl | rfl | rfl <;> rfl)) ?_))
        have Kq : Blk (V3.setCells (w.heap.size + 1) 0 [.int .i64 (z), .int .i64 (S), .slice p1 n c1, .slice p2 k c2]) (w.heap.size + 1) 54 [.int .i64 (z), .int .i64 (S), .slice p1 n c1, .slice p2 k c2] := Krz.all rfl
        have X := Oth.setCells Krz 0 [.int .i64 (z), .int .i64 (S), .slice p1 n c1, .slice p2 k c2]
        have H := (only_sets (w.heap.size + 1) 0 V3 [.int .i64 (z), .int .i64 (S), .slice p1 n c1, .slice p2 k c2]).2.2 _ _ (Nat.le_succ _) CBw
        have E1 := X.row O1 (by decide)
        have E2 := X.row O2 (by decide)
        try dsimp only
        generalize World.setCells V3 (w.heap.size + 1) 0 [.int .i64 (z), .int .i64 (S), .slice p1 n c1, .slice p2 k c2] = VF at Kq H E1 E2 ⊢
        exact bodyPost_ret (v := .agg #[.int .i64 (z), .int .i64 (S), .slice p1 n c1, .slice p2 k c2]) (Kq.resultS (p := 6) (ty := 54) rfl _ rfl Tryd.underlying54 (by kernel_rfl)) rfl (bent_end2 E1 E2 HN.out HK.out (hz.mono (Nat.le_succ _)) (by omega) (by omega) hd H)
    · go_upto_region 9 with (fail)
      refine wp_region_held_drew (S := fun _ => True) (by kernel_rfl) trivial (fun _ => ?_)
      have hHeld : True := trivial
      replace Kt := Kt.drew
      replace Krz := Krz.drew
      replace O1 := row_keep O1 (below_drew (Below.refl _ _))
      replace O2 := row_keep O2 (below_drew (Below.refl _ _))
      replace CBw := below_drew CBw
      generalize V1.drew = V2 at Kt Krz O1 O2 CBw ⊢
      refine wt (i := 0) (oi := ⟨some 54, .fieldAddr 54 (.tmp 7) 1, 0, "ref.go:336", #[], none⟩) (v := .pointer (some ⟨tp, 1, none⟩)) (Or.inl ⟨by rfl, fun w' hSw => by go_simp⟩) hHeld ?_
      try simp only [zP, zQ, zS, zZ, zC]
      refine wt (i := 2) (oi := ⟨some 56, .move (.tmp 2), 3, "ref.go:336", #[], none⟩) (v := .int .i64 by_) (Or.inl ⟨by rfl, fun w' hSw => by go_simp⟩) hHeld ?_
      try simp only [zP, zQ, zS, zZ, zC]
      refine wpAnyH_ready (rs := [1, 3]) (by kernel_rfl) (by simp) ?_
      refine AllReadyH.cons (o := ⟨some 55, .load 3 (.tmp 54), 3, "ref.go:336", #[⟨0, .data⟩], none⟩) rfl (fun K hK => ?_) (AllReadyH.cons (o := ⟨some 57, .call { callee := .value (.func 16), args := #[.tmp 56, .const (Value.int IntKind.i64 5)], argTypes := #[3, 3] }, 3, "ref.go:336", #[⟨2, .data⟩], none⟩) rfl (fun K hK => ?_) AllReadyH.nil)
      · rw [if_pos (by rfl)]
        have hc0 := Kt.cell (j := 1) rfl
        go_simp
        clear hc0
        refine hK.out _ _ (trivial) (fun hHeld => ?_)
        clear hK K
        try simp only [zP, zQ, zS, zZ, zC]
        refine wpAnyH_ready (rs := [3]) (by kernel_rfl) (by simp) ?_
        refine AllReadyH.cons (o := ⟨some 57, .call { callee := .value (.func 16), args := #[.tmp 56, .const (Value.int IntKind.i64 5)], argTypes := #[3, 3] }, 3, "ref.go:336", #[⟨2, .data⟩], none⟩) rfl (fun K hK => ?_) AllReadyH.nil
        rw [if_pos (by rfl)]
        go_simp
        refine (HAb.out 5 (by omega) (by omega) V2).mono ?_
        rintro e w1 ⟨r2, hr2, rfl, hw1⟩
        dsimp only
        rw [hw1]
        clear hw1 w1
        refine hK.out _ _ (trivial) (fun hHeld => ?_)
        clear hK K
        try simp only [zP, zQ, zS, zZ, zC]
        refine wt (i := 4) (oi := ⟨some 58, .binOp .add 3 (.tmp 55) (.tmp 57) 3, 3, "ref.go:336", #[⟨1, .data⟩, ⟨3, .data⟩], none⟩) (v := .int .i64 (IntKind.i64.wrap (S + (r2 : Int)))) (Or.inl ⟨by rfl, fun w' hSw => by go_simp⟩) hHeld ?_
        try simp only [zP, zQ, zS, zZ, zC]
        refine wt (i := 5) (oi := ⟨some 59, .binOp .sub 3 (.tmp 58) (.const (Value.int IntKind.i64 2)) 3, 3, "ref.go:336", #[⟨4, .data⟩], none⟩) (v := .int .i64 (IntKind.i64.wrap (IntKind.i64.wrap (S + (r2 : Int)) - 2))) (Or.inl ⟨by rfl, fun w' hSw => by go_simp⟩) hHeld ?_
        try simp only [zP, zQ, zS, zZ, zC]
        refine wt (i := 6) (oi := ⟨some 60, .fieldAddr 54 (.tmp 7) 1, 0, "ref.go:336", #[⟨0, .phase⟩, ⟨1, .phase⟩, ⟨2, .phase⟩, ⟨3, .phase⟩, ⟨4, .phase⟩, ⟨5, .phase⟩], none⟩) (v := .pointer (some ⟨tp, 1, none⟩)) (Or.inl ⟨by rfl, fun w' hSw => by go_simp⟩) hHeld ?_
        try simp only [zP, zQ, zS, zZ, zC]
        generalize IntKind.i64.wrap (IntKind.i64.wrap (S + (r2 : Int)) - 2) = z
        refine wpAnyH_ready (rs := [7]) (by kernel_rfl) (by simp) ?_
        refine AllReadyH.cons (o := ⟨none, .store 3 (.tmp 60) (.tmp 59), 0, "ref.go:336", #[⟨6, .data⟩, ⟨5, .data⟩, ⟨3, .chain⟩, ⟨0, .phase⟩, ⟨1, .phase⟩, ⟨2, .phase⟩, ⟨3, .phase⟩, ⟨4, .phase⟩, ⟨5, .phase⟩], none⟩) rfl (fun K hK => ?_) AllReadyH.nil
        rw [if_pos (by rfl)]
        have hc0 := Kt.cell (j := 1) rfl
        have hf0 := Kt.free 1
        go_simp
        clear hc0 hf0
        obtain ⟨Kt2, X, HB⟩ := put1 (j := 1) Kt (.int .i64 z)
        have CBw2 := HB _ _ (by omega) CBw
        have Krz2 := Krz.other (a := ⟨tp, 1, none⟩) (by show w.heap.size + 1 ≠ tp; omega) (.int .i64 z)
        replace O1 := X.row O1 (by decide)
        replace O2 := X.row O2 (by decide)
        simp only [List.set_cons_zero, List.set_cons_succ] at Kt2
        clear X HB Kt Krz CBw
        have Kt := Kt2
        have Krz := Krz2
        have CBw := CBw2
        clear Kt2 Krz2 CBw2
        generalize World.setCell V2 ⟨tp, 1, none⟩ (.int .i64 z) = V3 at Kt Krz O1 O2 CBw ⊢
        refine hK.out _ _ (trivial) (fun hHeld => ?_)
        clear hK K
        try simp only [zP, zQ, zS, zZ, zC]
        refine wpAnyH_done (by kernel_rfl) ?_ _
        clear hHeld
        go_wp2_with (first
          | (refine load_struct rfl 54 (.tmp 7) rfl Kt rfl Tryd.underlying54 (m := 4) (by kernel_rfl) rfl ?_)
          | (refine wpList_store_mid rfl 54 (.tmp 6) (.tmp 169) rfl (w.heap.size + 1) 0 #[.int .i64 (F), .int .i64 (z), .slice p1 n c1, .slice p2 k c2] rfl rfl (by simpa using Krz.there 0 4 (by simp)) (by kernel_rfl) (all_oneCell_toArray (by intro v hv; simp at hv; rcases hv with rfl | rfl | rfl | rfl <;> rfl)) ?_))
        have Kq : Blk (V3.setCells (w.heap.size + 1) 0 [.int .i64 (F), .int .i64 (z), .slice p1 n c1, .slice p2 k c2]) (w.heap.size + 1) 54 [.int .i64 (F), .int .i64 (z), .slice p1 n c1, .slice p2 k c2] := Krz.all rfl
        have X := Oth.setCells Krz 0 [.int .i64 (F), .int .i64 (z), .slice p1 n c1, .slice p2 k c2]
        have H := (only_sets (w.heap.size + 1) 0 V3 [.int .i64 (F), .int .i64 (z), .slice p1 n c1, .slice p2 k c2]).2.2 _ _ (Nat.le_succ _) CBw
        have E1 := X.row O1 (by decide)
        have E2 := X.row O2 (by decide)
        try dsimp only
        generalize World.setCells V3 (w.heap.size + 1) 0 [.int .i64 (F), .int .i64 (z), .slice p1 n c1, .slice p2 k c2] = VF at Kq H E1 E2 ⊢
        exact bodyPost_ret (v := .agg #[.int .i64 (F), .int .i64 (z), .slice p1 n c1, .slice p2 k c2]) (Kq.resultS (p := 6) (ty := 54) rfl _ rfl Tryd.underlying54 (by kernel_rfl)) rfl (bent_end2 E1 E2 HN.out HK.out (hz.mono (Nat.le_succ _)) (by omega) (by omega) hd H)
      · rw [if_pos (by rfl)]
        go_simp
        refine (HAb.out 5 (by omega) (by omega) V2).mono ?_
        rintro e w1 ⟨r2, hr2, rfl, hw1⟩
        dsimp only
        rw [hw1]
        clear hw1 w1
        refine hK.out _ _ (trivial) (fun hHeld => ?_)
        clear hK K
        try simp only [zP, zQ, zS, zZ, zC]
        refine wpAnyH_ready (rs := [1]) (by kernel_rfl) (by simp) ?_
        refine AllReadyH.cons (o := ⟨some 55, .load 3 (.tmp 54), 3, "ref.go:336", #[⟨0, .data⟩], none⟩) rfl (fun K hK => ?_) AllReadyH.nil
        rw [if_pos (by rfl)]
        have hc0 := Kt.cell (j := 1) rfl
        go_simp
        clear hc0
        refine hK.out _ _ (trivial) (fun hHeld => ?_)
        clear hK K
        try simp only [zP, zQ, zS, zZ, zC]
        refine wt (i := 4) (oi := ⟨some 58, .binOp .add 3 (.tmp 55) (.tmp 57) 3, 3, "ref.go:336", #[⟨1, .data⟩, ⟨3, .data⟩], none⟩) (v := .int .i64 (IntKind.i64.wrap (S + (r2 : Int)))) (Or.inl ⟨by rfl, fun w' hSw => by go_simp⟩) hHeld ?_
        try simp only [zP, zQ, zS, zZ, zC]
        refine wt (i := 5) (oi := ⟨some 59, .binOp .sub 3 (.tmp 58) (.const (Value.int IntKind.i64 2)) 3, 3, "ref.go:336", #[⟨4, .data⟩], none⟩) (v := .int .i64 (IntKind.i64.wrap (IntKind.i64.wrap (S + (r2 : Int)) - 2))) (Or.inl ⟨by rfl, fun w' hSw => by go_simp⟩) hHeld ?_
        try simp only [zP, zQ, zS, zZ, zC]
        refine wt (i := 6) (oi := ⟨some 60, .fieldAddr 54 (.tmp 7) 1, 0, "ref.go:336", #[⟨0, .phase⟩, ⟨1, .phase⟩, ⟨2, .phase⟩, ⟨3, .phase⟩, ⟨4, .phase⟩, ⟨5, .phase⟩], none⟩) (v := .pointer (some ⟨tp, 1, none⟩)) (Or.inl ⟨by rfl, fun w' hSw => by go_simp⟩) hHeld ?_
        try simp only [zP, zQ, zS, zZ, zC]
        generalize IntKind.i64.wrap (IntKind.i64.wrap (S + (r2 : Int)) - 2) = z
        refine wpAnyH_ready (rs := [7]) (by kernel_rfl) (by simp) ?_
        refine AllReadyH.cons (o := ⟨none, .store 3 (.tmp 60) (.tmp 59), 0, "ref.go:336", #[⟨6, .data⟩, ⟨5, .data⟩, ⟨3, .chain⟩, ⟨0, .phase⟩, ⟨1, .phase⟩, ⟨2, .phase⟩, ⟨3, .phase⟩, ⟨4, .phase⟩, ⟨5, .phase⟩], none⟩) rfl (fun K hK => ?_) AllReadyH.nil
        rw [if_pos (by rfl)]
        have hc0 := Kt.cell (j := 1) rfl
        have hf0 := Kt.free 1
        go_simp
        clear hc0 hf0
        obtain ⟨Kt2, X, HB⟩ := put1 (j := 1) Kt (.int .i64 z)
        have CBw2 := HB _ _ (by omega) CBw
        have Krz2 := Krz.other (a := ⟨tp, 1, none⟩) (by show w.heap.size + 1 ≠ tp; omega) (.int .i64 z)
        replace O1 := X.row O1 (by decide)
        replace O2 := X.row O2 (by decide)
        simp only [List.set_cons_zero, List.set_cons_succ] at Kt2
        clear X HB Kt Krz CBw
        have Kt := Kt2
        have Krz := Krz2
        have CBw := CBw2
        clear Kt2 Krz2 CBw2
        generalize World.setCell V2 ⟨tp, 1, none⟩ (.int .i64 z) = V3 at Kt Krz O1 O2 CBw ⊢
        refine hK.out _ _ (trivial) (fun hHeld => ?_)
        clear hK K
        try simp only [zP, zQ, zS, zZ, zC]
        refine wpAnyH_done (by kernel_rfl) ?_ _
        clear hHeld
        go_wp2_with (first
          | (refine load_struct rfl 54 (.tmp 7) rfl Kt rfl Tryd.underlying54 (m := 4) (by kernel_rfl) rfl ?_)
          | (refine wpList_store_mid rfl 54 (.tmp 6) (.tmp 169) rfl (w.heap.size + 1) 0 #[.int .i64 (F), .int .i64 (z), .slice p1 n c1, .slice p2 k c2] rfl rfl (by simpa using Krz.there 0 4 (by simp)) (by kernel_rfl) (all_oneCell_toArray (by intro v hv; simp at hv; rcases hv with rfl | rfl | rfl | rfl <;> rfl)) ?_))
        have Kq : Blk (V3.setCells (w.heap.size + 1) 0 [.int .i64 (F), .int .i64 (z), .slice p1 n c1, .slice p2 k c2]) (w.heap.size + 1) 54 [.int .i64 (F), .int .i64 (z), .slice p1 n c1, .slice p2 k c2] := Krz.all rfl
        have X := Oth.setCells Krz 0 [.int .i64 (F), .int .i64 (z), .slice p1 n c1, .slice p2 k c2]
        have H := (only_sets (w.heap.size + 1) 0 V3 [.int .i64 (F), .int .i64 (z), .slice p1 n c1, .slice p2 k c2]).2.2 _ _ (Nat.le_succ _) CBw
        have E1 := X.row O1 (by decide)
        have E2 := X.row O2 (by decide)
        try dsimp only
        generalize World.setCells V3 (w.heap.size + 1) 0 [.int .i64 (F), .int .i64 (z), .slice p1 n c1, .slice p2 k c2] = VF at Kq H E1 E2 ⊢
        exact bodyPost_ret (v := .agg #[.int .i64 (F), .int .i64 (z), .slice p1 n c1, .slice p2 k c2]) (Kq.resultS (p := 6) (ty := 54) rfl _ rfl Tryd.underlying54 (by kernel_rfl)) rfl (bent_end2 E1 E2 HN.out HK.out (hz.mono (Nat.le_succ _)) (by omega) (by omega) hd H)
    · go_upto_region 31 with (go_at_call 16; obtain ⟨XA, Kb⟩ := lit4 V1 by_; have CBw2 := link CBw XA; have Kt2 := Kt.keep XA; have Krz2 := Krz.keep XA; have O1n := row_keep O1 XA; have O2n := row_keep O2 XA; generalize World.alloc V1 (.cells #[.int .i64 by_, .int .i64 4096, .int .i64 4097, .int .i64 (-1)] 3) = V9 at Kb CBw2 Kt2 Krz2 O1n O2n ⊢; refine (HAb.out 4 (by omega) (by omega) V9).mono ?_; rintro e w1 ⟨r2, hr2, rfl, hw1⟩; obtain ⟨z, hz4⟩ := lit4_at by_ r2 hr2; have hr2i : (r2 : Int) < 4 := Int.ofNat_lt.2 hr2; have hc5 := Kb.cell (j := r2) hz4; have hc0 := Kt2.cell (j := 1) rfl; have hf0 := Kt2.free 1; rw [hw1])
      clear Kt Krz O1 O2 CBw XA
      have Kt := Kt2
      have Krz := Krz2
      have O1 := O1n
      have O2 := O2n
      have CBw := CBw2
      clear Kt2 Krz2 O1n O2n CBw2 hc0 hf0 hc5 hz4 Kb
      obtain ⟨Kt2, X, HB⟩ := put1 (j := 1) Kt (.int .i64 z)
      have CBw2 := HB _ _ (by omega) CBw
      have Krz2 := Krz.other (a := ⟨tp, 1, none⟩) (by show w.heap.size + 1 ≠ tp; omega) (.int .i64 z)
      replace O1 := X.row O1 (by decide)
      replace O2 := X.row O2 (by decide)
      simp only [List.set_cons_zero, List.set_cons_succ] at Kt2
      clear X HB Kt Krz CBw
      have Kt := Kt2
      have Krz := Krz2
      have CBw := CBw2
      clear Kt2 Krz2 CBw2
      generalize World.setCell V9 ⟨tp, 1, none⟩ (.int .i64 z) = V3 at Kt Krz O1 O2 CBw ⊢
      go_wp2_with (first
        | (refine load_struct rfl 54 (.tmp 7) rfl Kt rfl Tryd.underlying54 (m := 4) (by kernel_rfl) rfl ?_)
        | (refine wpList_store_mid rfl 54 (.tmp 6) (.tmp 169) rfl (w.heap.size + 1) 0 #[.int .i64 (F), .int .i64 (z), .slice p1 n c1, .slice p2 k c2] rfl rfl (by simpa using Krz.there 0 4 (by simp)) (by kernel_rfl) (all_oneCell_toArray (by intro v hv; simp at hv; rcases hv with rfl | rfl | rfl | rfl <;> rfl)) ?_))
      have Kq : Blk (V3.setCells (w.heap.size + 1) 0 [.int .i64 (F), .int .i64 (z), .slice p1 n c1, .slice p2 k c2]) (w.heap.size + 1) 54 [.int .i64 (F), .int .i64 (z), .slice p1 n c1, .slice p2 k c2] := Krz.all rfl
      have X := Oth.setCells Krz 0 [.int .i64 (F), .int .i64 (z), .slice p1 n c1, .slice p2 k c2]
      have H := (only_sets (w.heap.size + 1) 0 V3 [.int .i64 (F), .int .i64 (z), .slice p1 n c1, .slice p2 k c2]).2.2 _ _ (Nat.le_succ _) CBw
      have E1 := X.row O1 (by decide)
      have E2 := X.row O2 (by decide)
      try dsimp only
      generalize World.setCells V3 (w.heap.size + 1) 0 [.int .i64 (F), .int .i64 (z), .slice p1 n c1, .slice p2 k c2] = VF at Kq H E1 E2 ⊢
      exact bodyPost_ret (v := .agg #[.int .i64 (F), .int .i64 (z), .slice p1 n c1, .slice p2 k c2]) (Kq.resultS (p := 6) (ty := 54) rfl _ rfl Tryd.underlying54 (by kernel_rfl)) rfl (bent_end2 E1 E2 HN.out HK.out (hz.mono (Nat.le_succ _)) (by omega) (by omega) hd H)
    · have hc0 := Kt.cell (j := 0) rfl
      have hf0 := Kt.free 0
      go_upto_region 31 with (fail)
      clear hc0 hf0
      obtain ⟨Kt2, X, HB⟩ := put1 (j := 0) Kt (.int .i64 by_)
      have CBw2 := HB _ _ (by omega) CBw
      have Krz2 := Krz.other (a := ⟨tp, 0, none⟩) (by show w.heap.size + 1 ≠ tp; omega) (.int .i64 by_)
      replace O1 := X.row O1 (by decide)
      replace O2 := X.row O2 (by decide)
      simp only [List.set_cons_zero, List.set_cons_succ] at Kt2
      clear X HB Kt Krz CBw
      have Kt := Kt2
      have Krz := Krz2
      have CBw := CBw2
      clear Kt2 Krz2 CBw2
      generalize World.setCell V1 ⟨tp, 0, none⟩ (.int .i64 by_) = V3 at Kt Krz O1 O2 CBw ⊢
      go_wp2_with (first
        | (refine load_struct rfl 54 (.tmp 7) rfl Kt rfl Tryd.underlying54 (m := 4) (by kernel_rfl) rfl ?_)
        | (refine wpList_store_mid rfl 54 (.tmp 6) (.tmp 169) rfl (w.heap.size + 1) 0 #[.int .i64 (by_), .int .i64 (S), .slice p1 n c1, .slice p2 k c2] rfl rfl (by simpa using Krz.there 0 4 (by simp)) (by kernel_rfl) (all_oneCell_toArray (by intro v hv; simp at hv; rcases hv with rfl | rfl | rfl | rfl <;> rfl)) ?_))
      have Kq : Blk (V3.setCells (w.heap.size + 1) 0 [.int .i64 (by_), .int .i64 (S), .slice p1 n c1, .slice p2 k c2]) (w.heap.size + 1) 54 [.int .i64 (by_), .int .i64 (S), .slice p1 n c1, .slice p2 k c2] := Krz.all rfl
      have X := Oth.setCells Krz 0 [.int .i64 (by_), .int .i64 (S), .slice p1 n c1, .slice p2 k c2]
      have H := (only_sets (w.heap.size + 1) 0 V3 [.int .i64 (by_), .int .i64 (S), .slice p1 n c1, .slice p2 k c2]).2.2 _ _ (Nat.le_succ _) CBw
      have E1 := X.row O1 (by decide)
      have E2 := X.row O2 (by decide)
      try dsimp only
      generalize World.setCells V3 (w.heap.size + 1) 0 [.int .i64 (by_), .int .i64 (S), .slice p1 n c1, .slice p2 k c2] = VF at Kq H E1 E2 ⊢
      exact bodyPost_ret (v := .agg #[.int .i64 (by_), .int .i64 (S), .slice p1 n c1, .slice p2 k c2]) (Kq.resultS (p := 6) (ty := 54) rfl _ rfl Tryd.underlying54 (by kernel_rfl)) rfl (bent_end2 E1 E2 HN.out HK.out (hz.mono (Nat.le_succ _)) (by omega) (by omega) hd H)
    · have k2 := Kt.cell (j := 2) rfl
      by_cases hn0 : 0 < n
      · obtain ⟨g, rfl, hgM, hgV, hnc, hcm⟩ := row_some O1 hn0
        have hi2 := hi1 hn0
        obtain ⟨y, hy⟩ : ∃ y, lf[i0]? = some y := ⟨_, List.getElem?_eq_getElem (by rw [HN.out]; exact hi2)⟩
        have hym := hz y (List.mem_of_getElem? hy)
        have hgt : g ≠ tp := fun e => by have := own_other O1 Kt (by decide); exact this (by rw [e]; rfl)
        have hgr : w.heap.size + 1 ≠ g := by omega
        go_upto_region 16 with (fail)
        clear k2
        refine wp_region_held_drew (S := fun w' => Blk w' tp 54 [.int .i64 F, .int .i64 S, .slice (some ⟨g, 0, none⟩) n c1, .slice p2 k c2]) (by kernel_rfl) Kt.drew (fun _ => ?_)
        replace Kt := Kt.drew
        replace Krz := Krz.drew
        replace O1 := row_keep O1 (below_drew (Below.refl _ _))
        replace O2 := row_keep O2 (below_drew (Below.refl _ _))
        replace CBw := below_drew CBw
        generalize V1.drew = V2 at Kt Krz O1 O2 CBw ⊢
        have hHeld := Kt
        refine wt (i := 0) (oi := ⟨some 80, .fieldAddr 54 (.tmp 7) 2, 0, "ref.go:343", #[], none⟩) (v := .pointer (some ⟨tp, 2, none⟩)) (Or.inl ⟨by rfl, fun w' hSw => by go_simp⟩) hHeld ?_
        try simp only [zP, zQ, zS, zZ, zC]
        refine wt (i := 1) (oi := ⟨some 81, .load 24 (.tmp 80), 24, "ref.go:343", #[⟨0, .data⟩], none⟩) (v := .slice (some ⟨g, 0, none⟩) n c1) (Or.inl ⟨by rfl, fun w' hSw => by have hc := Blk.cell (j := 2) hSw rfl; go_simp⟩) hHeld ?_
        try simp only [zP, zQ, zS, zZ, zC]
        refine wt (i := 2) (oi := ⟨some 82, .move (.tmp 8), 3, "ref.go:343", #[], none⟩) (v := .int .i64 (i0 : Int)) (Or.inl ⟨by rfl, fun w' hSw => by go_simp⟩) hHeld ?_
        try simp only [zP, zQ, zS, zZ, zC]
        refine wt (i := 3) (oi := ⟨some 83, .move (.tmp 2), 3, "ref.go:343", #[], none⟩) (v := .int .i64 by_) (Or.inl ⟨by rfl, fun w' hSw => by go_simp⟩) hHeld ?_
        try simp only [zP, zQ, zS, zZ, zC]
        refine wpAnyH_ready (rs := [4]) (by kernel_rfl) (by simp) ?_
        refine AllReadyH.cons (o := ⟨some 84, .call { callee := .value (.func 16), args := #[.tmp 83, .const (Value.int IntKind.i64 40)], argTypes := #[3, 3] }, 3, "ref.go:343", #[⟨3, .data⟩], none⟩) rfl (fun K hK => ?_) AllReadyH.nil
        rw [if_pos (by rfl)]
        go_simp
        refine (HAb.out 40 (by omega) (by omega) V2).mono ?_
        rintro e w1 ⟨r2, hr2, rfl, hw1⟩
        dsimp only
        rw [hw1]
        clear hw1 w1
        refine hK.out _ _ (hHeld) (fun hHeld => ?_)
        clear hK K
        try simp only [zP, zQ, zS, zZ, zC]
        refine wpAnyH_ready (rs := [5]) (by kernel_rfl) (by simp) ?_
        refine AllReadyH.cons (o := ⟨some 85, .call { callee := .value (.func 40), args := #[.tmp 84], argTypes := #[3] }, 9, "ref.go:343", #[⟨4, .data⟩, ⟨4, .chain⟩], none⟩) rfl (fun K hK => ?_) AllReadyH.nil
        rw [if_pos (by rfl)]
        go_simp
        refine (key_any r2 (by omega) V2).mono ?_
        rintro e V3 ⟨rfl, hB3⟩
        dsimp only
        replace Kt := Kt.keep hB3
        replace Krz := Krz.keep hB3
        replace O1 := row_keep O1 hB3
        replace O2 := row_keep O2 hB3
        replace CBw := link CBw hB3
        clear hB3
        refine hK.out _ _ (Kt) (fun hHeld => ?_)
        clear hK K
        try simp only [zP, zQ, zS, zZ, zC]
        refine wt (i := 6) (oi := ⟨some 86, .indexAddr 24 (.tmp 81) (.tmp 82), 0, "ref.go:343", #[⟨1, .data⟩, ⟨2, .data⟩, ⟨0, .phase⟩, ⟨1, .phase⟩, ⟨2, .phase⟩, ⟨3, .phase⟩, ⟨4, .phase⟩, ⟨5, .phase⟩], none⟩) (v := .pointer (some ⟨g, i0 * 2, none⟩)) (Or.inl ⟨by rfl, fun w' hSw => by go_simp; try (intro hcm; exact absurd hcm (by omega))⟩) hHeld ?_
        try simp only [zP, zQ, zS, zZ, zC]
        refine wt (i := 7) (oi := ⟨some 87, .fieldAddr 75 (.tmp 86) 0, 0, "ref.go:343", #[⟨6, .data⟩, ⟨0, .phase⟩, ⟨1, .phase⟩, ⟨2, .phase⟩, ⟨3, .phase⟩, ⟨4, .phase⟩, ⟨5, .phase⟩], none⟩) (v := .pointer (some ⟨g, i0 * 2, none⟩)) (Or.inl ⟨by rfl, fun w' hSw => by go_simp⟩) hHeld ?_
        try simp only [zP, zQ, zS, zZ, zC]
        refine wpAnyH_ready (rs := [8]) (by kernel_rfl) (by simp) ?_
        refine AllReadyH.cons (o := ⟨none, .store 9 (.tmp 87) (.tmp 85), 0, "ref.go:343", #[⟨7, .data⟩, ⟨5, .data⟩, ⟨5, .chain⟩, ⟨0, .phase⟩, ⟨1, .phase⟩, ⟨2, .phase⟩, ⟨3, .phase⟩, ⟨4, .phase⟩, ⟨5, .phase⟩], none⟩) rfl (fun K hK => ?_) AllReadyH.nil
        rw [if_pos (by rfl)]
        have hks := key_size r2
        have hc0 := row_cell O1 (i0 * 2) _ (by rw [Nat.mul_comm]; exact (leavesV_at lf i0 y hy).1)
        have hf0 := (row_put O1 (i0 * 2) (.string (keyM r2))).2.2.2
        go_simp
        clear hc0 hf0
        obtain ⟨O1n, X, HB, _⟩ := row_put O1 (i0 * 2) (.string (keyM r2))
        have CBw2 := HB _ _ (by omega) (by have := CBw.size; omega) CBw
        have Kt2 := X.blk Kt (by decide)
        have Krz2 := X.blk Krz (by decide)
        have O2n := X.row O2 (by decide)
        clear X HB Kt Krz CBw O1 O2
        have Kt := Kt2
        have Krz := Krz2
        have CBw := CBw2
        have O1 := O1n
        have O2 := O2n
        clear Kt2 Krz2 CBw2 O1n O2n
        generalize World.setCell V3 ⟨g, i0 * 2, none⟩ (.string (keyM r2)) = V4 at Kt Krz O1 O2 CBw ⊢
        rw [← (leavesV_set lf i0 y (keyM r2) (keyM r2) hy).1] at O1
        refine hK.out _ _ (Kt) (fun hHeld => ?_)
        clear hK K
        try simp only [zP, zQ, zS, zZ, zC]
        refine wpAnyH_done (by kernel_rfl) ?_ _
        clear hHeld
        go_wp2_with (first
          | (refine load_struct rfl 54 (.tmp 7) rfl Kt rfl Tryd.underlying54 (m := 4) (by kernel_rfl) rfl ?_)
          | (refine wpList_store_mid rfl 54 (.tmp 6) (.tmp 169) rfl (w.heap.size + 1) 0 #[.int .i64 F, .int .i64 S, .slice (some ⟨g, 0, none⟩) n c1, .slice p2 k c2] rfl rfl (by simpa using Krz.there 0 4 (by simp)) (by kernel_rfl) (all_oneCell_toArray (by intro v hv; simp at hv; rcases hv with rfl | rfl | rfl | rfl <;> rfl)) ?_))
        have Kq : Blk (V4.setCells (w.heap.size + 1) 0 [.int .i64 F, .int .i64 S, .slice (some ⟨g, 0, none⟩) n c1, .slice p2 k c2]) (w.heap.size + 1) 54 [.int .i64 F, .int .i64 S, .slice (some ⟨g, 0, none⟩) n c1, .slice p2 k c2] := Krz.all rfl
        have X := Oth.setCells Krz 0 [.int .i64 F, .int .i64 S, .slice (some ⟨g, 0, none⟩) n c1, .slice p2 k c2]
        have H := (only_sets (w.heap.size + 1) 0 V4 [.int .i64 F, .int .i64 S, .slice (some ⟨g, 0, none⟩) n c1, .slice p2 k c2]).2.2 _ _ (Nat.le_succ _) CBw
        have E1 := X.row O1 (by decide)
        have E2 := X.row O2 (by decide)
        try dsimp only
        generalize World.setCells V4 (w.heap.size + 1) 0 [.int .i64 F, .int .i64 S, .slice (some ⟨g, 0, none⟩) n c1, .slice p2 k c2] = VF at Kq H E1 E2 ⊢
        exact bodyPost_ret (v := .agg #[.int .i64 F, .int .i64 S, .slice (some ⟨g, 0, none⟩) n c1, .slice p2 k c2]) (Kq.resultS (p := 6) (ty := 54) rfl _ rfl Tryd.underlying54 (by kernel_rfl)) rfl (bent_end2 E1 E2 (by rw [List.length_set]; exact HN.out) HK.out ((hz.mono (Nat.le_succ _)).set ⟨by show (keyM r2).size ≤ _; omega, by show y.2.size ≤ _; omega⟩) (by omega) (by omega) hd H)
      · go_upto_region 31 with (fail)
        clear k2
        go_wp2_with (first
          | (refine load_struct rfl 54 (.tmp 7) rfl Kt rfl Tryd.underlying54 (m := 4) (by kernel_rfl) rfl ?_)
          | (refine wpList_store_mid rfl 54 (.tmp 6) (.tmp 169) rfl (w.heap.size + 1) 0 #[.int .i64 F, .int .i64 S, .slice p1 n c1, .slice p2 k c2] rfl rfl (by simpa using Krz.there 0 4 (by simp)) (by kernel_rfl) (all_oneCell_toArray (by intro v hv; simp at hv; rcases hv with rfl | rfl | rfl | rfl <;> rfl)) ?_))
        have Kq : Blk (V1.setCells (w.heap.size + 1) 0 [.int .i64 F, .int .i64 S, .slice p1 n c1, .slice p2 k c2]) (w.heap.size + 1) 54 [.int .i64 F, .int .i64 S, .slice p1 n c1, .slice p2 k c2] := Krz.all rfl
        have X := Oth.setCells Krz 0 [.int .i64 F, .int .i64 S, .slice p1 n c1, .slice p2 k c2]
        have H := (only_sets (w.heap.size + 1) 0 V1 [.int .i64 F, .int .i64 S, .slice p1 n c1, .slice p2 k c2]).2.2 _ _ (Nat.le_succ _) CBw
        have E1 := X.row O1 (by decide)
        have E2 := X.row O2 (by decide)
        try dsimp only
        generalize World.setCells V1 (w.heap.size + 1) 0 [.int .i64 F, .int .i64 S, .slice p1 n c1, .slice p2 k c2] = VF at Kq H E1 E2 ⊢
        exact bodyPost_ret (v := .agg #[.int .i64 F, .int .i64 S, .slice p1 n c1, .slice p2 k c2]) (Kq.resultS (p := 6) (ty := 54) rfl _ rfl Tryd.underlying54 (by kernel_rfl)) rfl (bent_end2 E1 E2 HN.out HK.out (hz.mono (Nat.le_succ _)) (by omega) (by omega) hd H)
    · have k2 := Kt.cell (j := 2) rfl
      by_cases hn0 : 0 < n
      · obtain ⟨g, rfl, hgM, hgV, hnc, hcm⟩ := row_some O1 hn0
        have hi2 := hi1 hn0
        obtain ⟨y, hy⟩ : ∃ y, lf[i0]? = some y := ⟨_, List.getElem?_eq_getElem (by rw [HN.out]; exact hi2)⟩
        have hym := hz y (List.mem_of_getElem? hy)
        have hgt : g ≠ tp := fun e => by have := own_other O1 Kt (by decide); exact this (by rw [e]; rfl)
        have hgr : w.heap.size + 1 ≠ g := by omega
        go_upto_region 19 with (fail)
        clear k2
        refine wp_region_held_drew (S := fun w' => Blk w' tp 54 [.int .i64 F, .int .i64 S, .slice (some ⟨g, 0, none⟩) n c1, .slice p2 k c2]) (by kernel_rfl) Kt.drew (fun _ => ?_)
        replace Kt := Kt.drew
        replace Krz := Krz.drew
        replace O1 := row_keep O1 (below_drew (Below.refl _ _))
        replace O2 := row_keep O2 (below_drew (Below.refl _ _))
        replace CBw := below_drew CBw
        generalize V1.drew = V2 at Kt Krz O1 O2 CBw ⊢
        have hHeld := Kt
        refine wt (i := 0) (oi := ⟨some 94, .fieldAddr 54 (.tmp 7) 2, 0, "ref.go:347", #[], none⟩) (v := .pointer (some ⟨tp, 2, none⟩)) (Or.inl ⟨by rfl, fun w' hSw => by go_simp⟩) hHeld ?_
        try simp only [zP, zQ, zS, zZ, zC]
        refine wt (i := 1) (oi := ⟨some 95, .load 24 (.tmp 94), 24, "ref.go:347", #[⟨0, .data⟩], none⟩) (v := .slice (some ⟨g, 0, none⟩) n c1) (Or.inl ⟨by rfl, fun w' hSw => by have hc := Blk.cell (j := 2) hSw rfl; go_simp⟩) hHeld ?_
        try simp only [zP, zQ, zS, zZ, zC]
        refine wt (i := 2) (oi := ⟨some 96, .move (.tmp 8), 3, "ref.go:347", #[], none⟩) (v := .int .i64 (i0 : Int)) (Or.inl ⟨by rfl, fun w' hSw => by go_simp⟩) hHeld ?_
        try simp only [zP, zQ, zS, zZ, zC]
        refine wt (i := 3) (oi := ⟨some 97, .fieldAddr 54 (.tmp 7) 2, 0, "ref.go:347", #[], none⟩) (v := .pointer (some ⟨tp, 2, none⟩)) (Or.inl ⟨by rfl, fun w' hSw => by go_simp⟩) hHeld ?_
        try simp only [zP, zQ, zS, zZ, zC]
        refine wt (i := 4) (oi := ⟨some 98, .load 24 (.tmp 97), 24, "ref.go:347", #[⟨3, .data⟩], none⟩) (v := .slice (some ⟨g, 0, none⟩) n c1) (Or.inl ⟨by rfl, fun w' hSw => by have hc := Blk.cell (j := 2) hSw rfl; go_simp⟩) hHeld ?_
        try simp only [zP, zQ, zS, zZ, zC]
        refine wt (i := 5) (oi := ⟨some 99, .move (.tmp 8), 3, "ref.go:347", #[], none⟩) (v := .int .i64 (i0 : Int)) (Or.inl ⟨by rfl, fun w' hSw => by go_simp⟩) hHeld ?_
        try simp only [zP, zQ, zS, zZ, zC]
        refine wt (i := 6) (oi := ⟨some 100, .indexAddr 24 (.tmp 98) (.tmp 99), 0, "ref.go:347", #[⟨4, .data⟩, ⟨5, .data⟩], none⟩) (v := .pointer (some ⟨g, i0 * 2, none⟩)) (Or.inl ⟨by rfl, fun w' hSw => by go_simp; try (intro hcm; exact absurd hcm (by omega))⟩) hHeld ?_
        try simp only [zP, zQ, zS, zZ, zC]
        refine wt (i := 7) (oi := ⟨some 101, .fieldAddr 75 (.tmp 100) 1, 0, "ref.go:347", #[⟨6, .data⟩], none⟩) (v := .pointer (some ⟨g, i0 * 2 + 1, none⟩)) (Or.inl ⟨by rfl, fun w' hSw => by go_simp⟩) hHeld ?_
        try simp only [zP, zQ, zS, zZ, zC]
        refine wpAnyH_ready (rs := [8]) (by kernel_rfl) (by simp) ?_
        refine AllReadyH.cons (o := ⟨some 102, .load 9 (.tmp 101), 9, "ref.go:347", #[⟨7, .data⟩], none⟩) rfl (fun K hK => ?_) AllReadyH.nil
        rw [if_pos (by rfl)]
        have hc0 := row_cell O1 (i0 * 2 + 1) _ (by rw [Nat.mul_comm]; exact (leavesV_at lf i0 y hy).2)
        go_simp
        refine hK.out _ _ (Kt) (fun hHeld => ?_)
        clear hK K
        try simp only [zP, zQ, zS, zZ, zC]
        have hy2 : y.2.size ≤ 1000000 := by omega
        refine wt (i := 9) (oi := ⟨some 103, .binOp .add 9 (.tmp 102) (.const (Value.string { data := #[120] })) 9, 9, "ref.go:347", #[⟨8, .data⟩], none⟩) (v := .string (y.2 ++ ⟨#[120]⟩)) (Or.inl ⟨by rfl, fun w' hSw => by go_simp; omega⟩) hHeld ?_
        try simp only [zP, zQ, zS, zZ, zC]
        refine wt (i := 10) (oi := ⟨some 104, .indexAddr 24 (.tmp 95) (.tmp 96), 0, "ref.go:347", #[⟨1, .data⟩, ⟨2, .data⟩, ⟨0, .phase⟩, ⟨1, .phase⟩, ⟨2, .phase⟩, ⟨3, .phase⟩, ⟨4, .phase⟩, ⟨5, .phase⟩, ⟨6, .phase⟩, ⟨7, .phase⟩, ⟨8, .phase⟩, ⟨9, .phase⟩], none⟩) (v := .pointer (some ⟨g, i0 * 2, none⟩)) (Or.inl ⟨by rfl, fun w' hSw => by go_simp; try (intro hcm; exact absurd hcm (by omega))⟩) hHeld ?_
        try simp only [zP, zQ, zS, zZ, zC]
        refine wt (i := 11) (oi := ⟨some 105, .fieldAddr 75 (.tmp 104) 1, 0, "ref.go:347", #[⟨10, .data⟩, ⟨0, .phase⟩, ⟨1, .phase⟩, ⟨2, .phase⟩, ⟨3, .phase⟩, ⟨4, .phase⟩, ⟨5, .phase⟩, ⟨6, .phase⟩, ⟨7, .phase⟩, ⟨8, .phase⟩, ⟨9, .phase⟩], none⟩) (v := .pointer (some ⟨g, i0 * 2 + 1, none⟩)) (Or.inl ⟨by rfl, fun w' hSw => by go_simp⟩) hHeld ?_
        try simp only [zP, zQ, zS, zZ, zC]
        refine wpAnyH_ready (rs := [12]) (by kernel_rfl) (by simp) ?_
        refine AllReadyH.cons (o := ⟨none, .store 9 (.tmp 105) (.tmp 103), 0, "ref.go:347", #[⟨11, .data⟩, ⟨9, .data⟩, ⟨0, .phase⟩, ⟨1, .phase⟩, ⟨2, .phase⟩, ⟨3, .phase⟩, ⟨4, .phase⟩, ⟨5, .phase⟩, ⟨6, .phase⟩, ⟨7, .phase⟩, ⟨8, .phase⟩, ⟨9, .phase⟩], none⟩) rfl (fun K hK => ?_) AllReadyH.nil
        rw [if_pos (by rfl)]
        have hf0 := (row_put O1 (i0 * 2 + 1) (.string (y.2 ++ ⟨#[120]⟩))).2.2.2
        go_simp
        clear hc0 hf0
        obtain ⟨O1n, X, HB, _⟩ := row_put O1 (i0 * 2 + 1) (.string (y.2 ++ ⟨#[120]⟩))
        have CBw2 := HB _ _ (by omega) (by have := CBw.size; omega) CBw
        have Kt2 := X.blk Kt (by decide)
        have Krz2 := X.blk Krz (by decide)
        have O2n := X.row O2 (by decide)
        clear X HB Kt Krz CBw O1 O2
        have Kt := Kt2
        have Krz := Krz2
        have CBw := CBw2
        have O1 := O1n
        have O2 := O2n
        clear Kt2 Krz2 CBw2 O1n O2n
        generalize World.setCell V2 ⟨g, i0 * 2 + 1, none⟩ (.string (y.2 ++ ⟨#[120]⟩)) = V4 at Kt Krz O1 O2 CBw ⊢
        rw [← (leavesV_set lf i0 y y.1 (y.2 ++ ⟨#[120]⟩) hy).2] at O1
        refine hK.out _ _ (Kt) (fun hHeld => ?_)
        clear hK K
        try simp only [zP, zQ, zS, zZ, zC]
        refine wpAnyH_done (by kernel_rfl) ?_ _
        clear hHeld
        go_wp2_with (first
          | (refine load_struct rfl 54 (.tmp 7) rfl Kt rfl Tryd.underlying54 (m := 4) (by kernel_rfl) rfl ?_)
          | (refine wpList_store_mid rfl 54 (.tmp 6) (.tmp 169) rfl (w.heap.size + 1) 0 #[.int .i64 F, .int .i64 S, .slice (some ⟨g, 0, none⟩) n c1, .slice p2 k c2] rfl rfl (by simpa using Krz.there 0 4 (by simp)) (by kernel_rfl) (all_oneCell_toArray (by intro v hv; simp at hv; rcases hv with rfl | rfl | rfl | rfl <;> rfl)) ?_))
        have Kq : Blk (V4.setCells (w.heap.size + 1) 0 [.int .i64 F, .int .i64 S, .slice (some ⟨g, 0, none⟩) n c1, .slice p2 k c2]) (w.heap.size + 1) 54 [.int .i64 F, .int .i64 S, .slice (some ⟨g, 0, none⟩) n c1, .slice p2 k c2] := Krz.all rfl
        have X := Oth.setCells Krz 0 [.int .i64 F, .int .i64 S, .slice (some ⟨g, 0, none⟩) n c1, .slice p2 k c2]
        have H := (only_sets (w.heap.size + 1) 0 V4 [.int .i64 F, .int .i64 S, .slice (some ⟨g, 0, none⟩) n c1, .slice p2 k c2]).2.2 _ _ (Nat.le_succ _) CBw
        have E1 := X.row O1 (by decide)
        have E2 := X.row O2 (by decide)
        try dsimp only
        generalize World.setCells V4 (w.heap.size + 1) 0 [.int .i64 F, .int .i64 S, .slice (some ⟨g, 0, none⟩) n c1, .slice p2 k c2] = VF at Kq H E1 E2 ⊢
        exact bodyPost_ret (v := .agg #[.int .i64 F, .int .i64 S, .slice (some ⟨g, 0, none⟩) n c1, .slice p2 k c2]) (Kq.resultS (p := 6) (ty := 54) rfl _ rfl Tryd.underlying54 (by kernel_rfl)) rfl (bent_end2 E1 E2 (by rw [List.length_set]; exact HN.out) HK.out ((hz.mono (Nat.le_succ _)).set ⟨by show y.1.size ≤ _; omega, by show (y.2 ++ ⟨#[120]⟩).size ≤ _; rw [ByteArray.size_append]; show y.2.size + 1 ≤ _; omega⟩) (by omega) (by omega) hd H)
      · go_upto_region 31 with (fail)
        clear k2
        go_wp2_with (first
          | (refine load_struct rfl 54 (.tmp 7) rfl Kt rfl Tryd.underlying54 (m := 4) (by kernel_rfl) rfl ?_)
          | (refine wpList_store_mid rfl 54 (.tmp 6) (.tmp 169) rfl (w.heap.size + 1) 0 #[.int .i64 F, .int .i64 S, .slice p1 n c1, .slice p2 k c2] rfl rfl (by simpa using Krz.there 0 4 (by simp)) (by kernel_rfl) (all_oneCell_toArray (by intro v hv; simp at hv; rcases hv with rfl | rfl | rfl | rfl <;> rfl)) ?_))
        have Kq : Blk (V1.setCells (w.heap.size + 1) 0 [.int .i64 F, .int .i64 S, .slice p1 n c1, .slice p2 k c2]) (w.heap.size + 1) 54 [.int .i64 F, .int .i64 S, .slice p1 n c1, .slice p2 k c2] := Krz.all rfl
        have X := Oth.setCells Krz 0 [.int .i64 F, .int .i64 S, .slice p1 n c1, .slice p2 k c2]
        have H := (only_sets (w.heap.size + 1) 0 V1 [.int .i64 F, .int .i64 S, .slice p1 n c1, .slice p2 k c2]).2.2 _ _ (Nat.le_succ _) CBw
        have E1 := X.row O1 (by decide)
        have E2 := X.row O2 (by decide)
        try dsimp only
        generalize World.setCells V1 (w.heap.size + 1) 0 [.int .i64 F, .int .i64 S, .slice p1 n c1, .slice p2 k c2] = VF at Kq H E1 E2 ⊢
        exact bodyPost_ret (v := .agg #[.int .i64 F, .int .i64 S, .slice p1 n c1, .slice p2 k c2]) (Kq.resultS (p := 6) (ty := 54) rfl _ rfl Tryd.underlying54 (by kernel_rfl)) rfl (bent_end2 E1 E2 HN.out HK.out (hz.mono (Nat.le_succ _)) (by omega) (by omega) hd H)
    · have k2 := Kt.cell (j := 2) rfl
      by_cases hn0 : 0 < n
      · obtain ⟨g, rfl, hgM, hgV, hnc, hcm⟩ := row_some O1 hn0
        have hi2 := hi1 hn0
        obtain ⟨y, hy⟩ : ∃ y, lf[i0]? = some y := ⟨_, List.getElem?_eq_getElem (by rw [HN.out]; exact hi2)⟩
        have hym := hz y (List.mem_of_getElem? hy)
        have hgt : g ≠ tp := fun e => by have := own_other O1 Kt (by decide); exact this (by rw [e]; rfl)
        have hgr : w.heap.size + 1 ≠ g := by omega
        go_upto_region 22 with (fail)
        clear k2
        obtain ⟨i1, hi1e⟩ : ∃ m, i0 + 1 = m := ⟨_, rfl⟩
        have hi1i : (i0 : Int) + 1 = (i1 : Int) := by omega
        have hw1 : IntKind.i64.wrap (i1 : Int) = (i1 : Int) := by simp [IntKind.wrap, IntKind.signed, IntKind.bits]; omega
        obtain ⟨o', ho', ho2⟩ : ∃ o', (if c1 = i1 then some (⟨g, 0, none⟩ : Addr) else some ⟨g, i1 * 2, none⟩) = some ⟨g, o', none⟩ ∧ (c1 = i0 + 1 ∨ o' = (i0 + 1) * 2) := by
          by_cases h : c1 = i1
          · exact ⟨0, if_pos h, Or.inl (by omega)⟩
          · exact ⟨i1 * 2, if_neg h, Or.inr (by rw [hi1e])⟩
        refine wp_region_held_drew (S := fun _ => True) (by kernel_rfl) trivial (fun _ => ?_)
        have hHeld : True := trivial
        replace Kt := Kt.drew
        replace Krz := Krz.drew
        replace O1 := row_keep O1 (below_drew (Below.refl _ _))
        replace O2 := row_keep O2 (below_drew (Below.refl _ _))
        replace CBw := below_drew CBw
        generalize V1.drew = V2 at Kt Krz O1 O2 CBw ⊢
        refine wt (i := 0) (oi := ⟨some 112, .fieldAddr 54 (.tmp 7) 2, 0, "ref.go:351", #[], none⟩) (v := .pointer (some ⟨tp, 2, none⟩)) (Or.inl ⟨by rfl, fun w' hSw => by go_simp⟩) hHeld ?_
        try simp only [zP, zQ, zS, zZ, zC]
        refine wt (i := 2) (oi := ⟨some 114, .move (.tmp 8), 3, "ref.go:351", #[], none⟩) (v := .int .i64 (i0 : Int)) (Or.inl ⟨by rfl, fun w' hSw => by go_simp⟩) hHeld ?_
        try simp only [zP, zQ, zS, zZ, zC]
        refine wt (i := 4) (oi := ⟨some 116, .fieldAddr 54 (.tmp 7) 2, 0, "ref.go:351", #[], none⟩) (v := .pointer (some ⟨tp, 2, none⟩)) (Or.inl ⟨by rfl, fun w' hSw => by go_simp⟩) hHeld ?_
        try simp only [zP, zQ, zS, zZ, zC]
        refine wt (i := 6) (oi := ⟨some 118, .move (.tmp 8), 3, "ref.go:351", #[], none⟩) (v := .int .i64 (i0 : Int)) (Or.inl ⟨by rfl, fun w' hSw => by go_simp⟩) hHeld ?_
        try simp only [zP, zQ, zS, zZ, zC]
        refine wt (i := 7) (oi := ⟨some 119, .binOp .add 3 (.tmp 118) (.const (Value.int IntKind.i64 1)) 3, 3, "ref.go:351", #[⟨6, .data⟩], none⟩) (v := .int .i64 (i1 : Int)) (Or.inl ⟨by rfl, fun w' hSw => by go_simp⟩) hHeld ?_
        try simp only [zP, zQ, zS, zZ, zC]
        refine wpAnyH_ready (rs := [1, 5]) (by kernel_rfl) (by simp) ?_
        refine AllReadyH.cons (o := ⟨some 113, .load 24 (.tmp 112), 24, "ref.go:351", #[⟨0, .data⟩], none⟩) rfl (fun K hK => ?_) (AllReadyH.cons (o := ⟨some 117, .load 24 (.tmp 116), 24, "ref.go:351", #[⟨4, .data⟩], none⟩) rfl (fun K hK => ?_) AllReadyH.nil)
        · rw [if_pos (by rfl)]
          have hc0 := Kt.cell (j := 2) rfl
          go_simp
          clear hc0
          refine hK.out _ _ (trivial) (fun hHeld => ?_)
          clear hK K
          try simp only [zP, zQ, zS, zZ, zC]
          refine wt (i := 3) (oi := ⟨some 115, .slice 24 (.tmp 113) none (some (.tmp 114)) none, 24, "ref.go:351", #[⟨1, .data⟩, ⟨2, .data⟩], none⟩) (v := .slice (some ⟨g, 0, none⟩) i0 c1) (Or.inl ⟨by rfl, fun w' hSw => by go_simp; try (intro hcm; exact absurd hcm (by omega))⟩) hHeld ?_
          try simp only [zP, zQ, zS, zZ, zC]
          refine wpAnyH_ready (rs := [5]) (by kernel_rfl) (by simp) ?_
          refine AllReadyH.cons (o := ⟨some 117, .load 24 (.tmp 116), 24, "ref.go:351", #[⟨4, .data⟩], none⟩) rfl (fun K hK => ?_) AllReadyH.nil
          rw [if_pos (by rfl)]
          have hc0 := Kt.cell (j := 2) rfl
          go_simp
          clear hc0
          refine hK.out _ _ (trivial) (fun hHeld => ?_)
          clear hK K
          try simp only [zP, zQ, zS, zZ, zC]
          refine wt (i := 8) (oi := ⟨some 120, .slice 24 (.tmp 117) (some (.tmp 119)) none none, 24, "ref.go:351", #[⟨5, .data⟩, ⟨7, .data⟩], none⟩) (v := .slice (some ⟨g, o', none⟩) (n - i1) (c1 - i1)) (Or.inl ⟨by rfl, fun w' hSw => by go_simp; try (intro hcm; exact absurd hcm (by omega))⟩) hHeld ?_
          try simp only [zP, zQ, zS, zZ, zC]
          refine wpAnyH_ready (rs := [9]) (by kernel_rfl) (by simp) ?_
          refine AllReadyH.cons (o := ⟨some 121, .call { callee := .builtin .append, args := #[.tmp 115, .tmp 120], argTypes := #[24, 24] }, 24, "ref.go:351", #[⟨3, .data⟩, ⟨8, .data⟩], none⟩) rfl (fun K hK => ?_) AllReadyH.nil
          rw [if_pos (by rfl)]
          obtain ⟨ti, hti, hz0, hz1, hz2⟩ := info_parts RLinfo
          refine cut_row (w := V2) (.tmp 115) (.tmp 120) 24 75 rfl ti zeroLeaf 2 32 Tryd.underlying24 hti hz0 hz1 hz2 rfl (by decide) (by decide) M g n c1 i0 o' _ rfl (by rw [hi1e]; rfl) O1 (leavesV_one lf) hi2 (by omega) hnc ho2 (by have := Kt.lt; omega) ?_
          intro p3 c3 V3 O3 X HB
          have CBw2 := HB _ _ (by omega) CBw
          have Kt2 := X.blk Kt (by decide)
          have Krz2 := X.blk Krz (by decide)
          rw [leavesV_cut] at O3
          have O1n := O3
          have O2n := X.row O2 (by decide)
          clear X HB O3
          clear Kt Krz CBw O1 O2
          have Kt := Kt2
          have Krz := Krz2
          have CBw := CBw2
          have O1 := O1n
          have O2 := O2n
          clear Kt2 Krz2 CBw2 O1n O2n
          refine hK.out _ _ (trivial) (fun hHeld => ?_)
          clear hK K
          try simp only [zP, zQ, zS, zZ, zC]
          refine wt (i := 10) (oi := ⟨some 122, .fieldAddr 54 (.tmp 7) 2, 0, "ref.go:351", #[⟨0, .phase⟩, ⟨1, .phase⟩, ⟨2, .phase⟩, ⟨3, .phase⟩, ⟨4, .phase⟩, ⟨5, .phase⟩, ⟨6, .phase⟩, ⟨7, .phase⟩, ⟨8, .phase⟩, ⟨9, .phase⟩], none⟩) (v := .pointer (some ⟨tp, 2, none⟩)) (Or.inl ⟨by rfl, fun w' hSw => by go_simp⟩) hHeld ?_
          try simp only [zP, zQ, zS, zZ, zC]
          refine wpAnyH_ready (rs := [11]) (by kernel_rfl) (by simp) ?_
          refine AllReadyH.cons (o := ⟨none, .store 24 (.tmp 122) (.tmp 121), 0, "ref.go:351", #[⟨10, .data⟩, ⟨9, .data⟩, ⟨9, .chain⟩, ⟨0, .phase⟩, ⟨1, .phase⟩, ⟨2, .phase⟩, ⟨3, .phase⟩, ⟨4, .phase⟩, ⟨5, .phase⟩, ⟨6, .phase⟩, ⟨7, .phase⟩, ⟨8, .phase⟩, ⟨9, .phase⟩], none⟩) rfl (fun K hK => ?_) AllReadyH.nil
          rw [if_pos (by rfl)]
          have hc0 := Kt.cell (j := 2) rfl
          have hf0 := Kt.free 2
          go_simp
          clear hc0 hf0
          obtain ⟨Kt2, X, HB⟩ := put1 (j := 2) Kt (.slice p3 (n - 1) c3)
          have CBw2 := HB _ _ (by omega) CBw
          have Krz2 := Krz.other (a := ⟨tp, 2, none⟩) (by show w.heap.size + 1 ≠ tp; omega) (.slice p3 (n - 1) c3)
          replace O1 := X.row O1 (by decide)
          replace O2 := X.row O2 (by decide)
          simp only [List.set_cons_zero, List.set_cons_succ] at Kt2
          clear X HB Kt Krz CBw
          have Kt := Kt2
          have Krz := Krz2
          have CBw := CBw2
          clear Kt2 Krz2 CBw2
          generalize World.setCell V3 ⟨tp, 2, none⟩ (.slice p3 (n - 1) c3) = V4 at Kt Krz O1 O2 CBw ⊢
          refine hK.out _ _ (trivial) (fun hHeld => ?_)
          clear hK K
          try simp only [zP, zQ, zS, zZ, zC]
          refine wpAnyH_done (by kernel_rfl) ?_ _
          clear hHeld
          go_wp2_with (first
            | (refine load_struct rfl 54 (.tmp 7) rfl Kt rfl Tryd.underlying54 (m := 4) (by kernel_rfl) rfl ?_)
            | (refine wpList_store_mid rfl 54 (.tmp 6) (.tmp 169) rfl (w.heap.size + 1) 0 #[.int .i64 F, .int .i64 S, .slice p3 (n - 1) c3, .slice p2 k c2] rfl rfl (by simpa using Krz.there 0 4 (by simp)) (by kernel_rfl) (all_oneCell_toArray (by intro v hv; simp at hv; rcases hv with rfl | rfl | rfl | rfl <;> rfl)) ?_))
          have Kq : Blk (V4.setCells (w.heap.size + 1) 0 [.int .i64 F, .int .i64 S, .slice p3 (n - 1) c3, .slice p2 k c2]) (w.heap.size + 1) 54 [.int .i64 F, .int .i64 S, .slice p3 (n - 1) c3, .slice p2 k c2] := Krz.all rfl
          have X := Oth.setCells Krz 0 [.int .i64 F, .int .i64 S, .slice p3 (n - 1) c3, .slice p2 k c2]
          have H := (only_sets (w.heap.size + 1) 0 V4 [.int .i64 F, .int .i64 S, .slice p3 (n - 1) c3, .slice p2 k c2]).2.2 _ _ (Nat.le_succ _) CBw
          have E1 := X.row O1 (by decide)
          have E2 := X.row O2 (by decide)
          try dsimp only
          generalize World.setCells V4 (w.heap.size + 1) 0 [.int .i64 F, .int .i64 S, .slice p3 (n - 1) c3, .slice p2 k c2] = VF at Kq H E1 E2 ⊢
          exact bodyPost_ret (v := .agg #[.int .i64 F, .int .i64 S, .slice p3 (n - 1) c3, .slice p2 k c2]) (Kq.resultS (p := 6) (ty := 54) rfl _ rfl Tryd.underlying54 (by kernel_rfl)) rfl (bent_end2 E1 E2 (by rw [List.length_eraseIdx_of_lt (by have := HN.out; omega), HN.out]) HK.out ((hz.mono (Nat.le_succ _)).erase i0) (by omega) (by omega) hd H)
        · rw [if_pos (by rfl)]
          have hc0 := Kt.cell (j := 2) rfl
          go_simp
          clear hc0
          refine hK.out _ _ (trivial) (fun hHeld => ?_)
          clear hK K
          try simp only [zP, zQ, zS, zZ, zC]
          refine wt (i := 8) (oi := ⟨some 120, .slice 24 (.tmp 117) (some (.tmp 119)) none none, 24, "ref.go:351", #[⟨5, .data⟩, ⟨7, .data⟩], none⟩) (v := .slice (some ⟨g, o', none⟩) (n - i1) (c1 - i1)) (Or.inl ⟨by rfl, fun w' hSw => by go_simp; try (intro hcm; exact absurd hcm (by omega))⟩) hHeld ?_
          try simp only [zP, zQ, zS, zZ, zC]
          refine wpAnyH_ready (rs := [1]) (by kernel_rfl) (by simp) ?_
          refine AllReadyH.cons (o := ⟨some 113, .load 24 (.tmp 112), 24, "ref.go:351", #[⟨0, .data⟩], none⟩) rfl (fun K hK => ?_) AllReadyH.nil
          rw [if_pos (by rfl)]
          have hc0 := Kt.cell (j := 2) rfl
          go_simp
          clear hc0
          refine hK.out _ _ (trivial) (fun hHeld => ?_)
          clear hK K
          try simp only [zP, zQ, zS, zZ, zC]
          refine wt (i := 3) (oi := ⟨some 115, .slice 24 (.tmp 113) none (some (.tmp 114)) none, 24, "ref.go:351", #[⟨1, .data⟩, ⟨2, .data⟩], none⟩) (v := .slice (some ⟨g, 0, none⟩) i0 c1) (Or.inl ⟨by rfl, fun w' hSw => by go_simp; try (intro hcm; exact absurd hcm (by omega))⟩) hHeld ?_
          try simp only [zP, zQ, zS, zZ, zC]
          refine wpAnyH_ready (rs := [9]) (by kernel_rfl) (by simp) ?_
          refine AllReadyH.cons (o := ⟨some 121, .call { callee := .builtin .append, args := #[.tmp 115, .tmp 120], argTypes := #[24, 24] }, 24, "ref.go:351", #[⟨3, .data⟩, ⟨8, .data⟩], none⟩) rfl (fun K hK => ?_) AllReadyH.nil
          rw [if_pos (by rfl)]
          obtain ⟨ti, hti, hz0, hz1, hz2⟩ := info_parts RLinfo
          refine cut_row (w := V2) (.tmp 115) (.tmp 120) 24 75 rfl ti zeroLeaf 2 32 Tryd.underlying24 hti hz0 hz1 hz2 rfl (by decide) (by decide) M g n c1 i0 o' _ rfl (by rw [hi1e]; rfl) O1 (leavesV_one lf) hi2 (by omega) hnc ho2 (by have := Kt.lt; omega) ?_
          intro p3 c3 V3 O3 X HB
          have CBw2 := HB _ _ (by omega) CBw
          have Kt2 := X.blk Kt (by decide)
          have Krz2 := X.blk Krz (by decide)
          rw [leavesV_cut] at O3
          have O1n := O3
          have O2n := X.row O2 (by decide)
          clear X HB O3
          clear Kt Krz CBw O1 O2
          have Kt := Kt2
          have Krz := Krz2
          have CBw := CBw2
          have O1 := O1n
          have O2 := O2n
          clear Kt2 Krz2 CBw2 O1n O2n
          refine hK.out _ _ (trivial) (fun hHeld => ?_)
          clear hK K
          try simp only [zP, zQ, zS, zZ, zC]
          refine wt (i := 10) (oi := ⟨some 122, .fieldAddr 54 (.tmp 7) 2, 0, "ref.go:351", #[⟨0, .phase⟩, ⟨1, .phase⟩, ⟨2, .phase⟩, ⟨3, .phase⟩, ⟨4, .phase⟩, ⟨5, .phase⟩, ⟨6, .phase⟩, ⟨7, .phase⟩, ⟨8, .phase⟩, ⟨9, .phase⟩], none⟩) (v := .pointer (some ⟨tp, 2, none⟩)) (Or.inl ⟨by rfl, fun w' hSw => by go_simp⟩) hHeld ?_
          try simp only [zP, zQ, zS, zZ, zC]
          refine wpAnyH_ready (rs := [11]) (by kernel_rfl) (by simp) ?_
          refine AllReadyH.cons (o := ⟨none, .store 24 (.tmp 122) (.tmp 121), 0, "ref.go:351", #[⟨10, .data⟩, ⟨9, .data⟩, ⟨9, .chain⟩, ⟨0, .phase⟩, ⟨1, .phase⟩, ⟨2, .phase⟩, ⟨3, .phase⟩, ⟨4, .phase⟩, ⟨5, .phase⟩, ⟨6, .phase⟩, ⟨7, .phase⟩, ⟨8, .phase⟩, ⟨9, .phase⟩], none⟩) rfl (fun K hK => ?_) AllReadyH.nil
          rw [if_pos (by rfl)]
          have hc0 := Kt.cell (j := 2) rfl
          have hf0 := Kt.free 2
          go_simp
          clear hc0 hf0
          obtain ⟨Kt2, X, HB⟩ := put1 (j := 2) Kt (.slice p3 (n - 1) c3)
          have CBw2 := HB _ _ (by omega) CBw
          have Krz2 := Krz.other (a := ⟨tp, 2, none⟩) (by show w.heap.size + 1 ≠ tp; omega) (.slice p3 (n - 1) c3)
          replace O1 := X.row O1 (by decide)
          replace O2 := X.row O2 (by decide)
          simp only [List.set_cons_zero, List.set_cons_succ] at Kt2
          clear X HB Kt Krz CBw
          have Kt := Kt2
          have Krz := Krz2
          have CBw := CBw2
          clear Kt2 Krz2 CBw2
          generalize World.setCell V3 ⟨tp, 2, none⟩ (.slice p3 (n - 1) c3) = V4 at Kt Krz O1 O2 CBw ⊢
          refine hK.out _ _ (trivial) (fun hHeld => ?_)
          clear hK K
          try simp only [zP, zQ, zS, zZ, zC]
          refine wpAnyH_done (by kernel_rfl) ?_ _
          clear hHeld
          go_wp2_with (first
            | (refine load_struct rfl 54 (.tmp 7) rfl Kt rfl Tryd.underlying54 (m := 4) (by kernel_rfl) rfl ?_)
            | (refine wpList_store_mid rfl 54 (.tmp 6) (.tmp 169) rfl (w.heap.size + 1) 0 #[.int .i64 F, .int .i64 S, .slice p3 (n - 1) c3, .slice p2 k c2] rfl rfl (by simpa using Krz.there 0 4 (by simp)) (by kernel_rfl) (all_oneCell_toArray (by intro v hv; simp at hv; rcases hv with rfl | rfl | rfl | rfl <;> rfl)) ?_))
          have Kq : Blk (V4.setCells (w.heap.size + 1) 0 [.int .i64 F, .int .i64 S, .slice p3 (n - 1) c3, .slice p2 k c2]) (w.heap.size + 1) 54 [.int .i64 F, .int .i64 S, .slice p3 (n - 1) c3, .slice p2 k c2] := Krz.all rfl
          have X := Oth.setCells Krz 0 [.int .i64 F, .int .i64 S, .slice p3 (n - 1) c3, .slice p2 k c2]
          have H := (only_sets (w.heap.size + 1) 0 V4 [.int .i64 F, .int .i64 S, .slice p3 (n - 1) c3, .slice p2 k c2]).2.2 _ _ (Nat.le_succ _) CBw
          have E1 := X.row O1 (by decide)
          have E2 := X.row O2 (by decide)
          try dsimp only
          generalize World.setCells V4 (w.heap.size + 1) 0 [.int .i64 F, .int .i64 S, .slice p3 (n - 1) c3, .slice p2 k c2] = VF at Kq H E1 E2 ⊢
          exact bodyPost_ret (v := .agg #[.int .i64 F, .int .i64 S, .slice p3 (n - 1) c3, .slice p2 k c2]) (Kq.resultS (p := 6) (ty := 54) rfl _ rfl Tryd.underlying54 (by kernel_rfl)) rfl (bent_end2 E1 E2 (by rw [List.length_eraseIdx_of_lt (by have := HN.out; omega), HN.out]) HK.out ((hz.mono (Nat.le_succ _)).erase i0) (by omega) (by omega) hd H)
      · go_upto_region 31 with (fail)
        clear k2
        go_wp2_with (first
          | (refine load_struct rfl 54 (.tmp 7) rfl Kt rfl Tryd.underlying54 (m := 4) (by kernel_rfl) rfl ?_)
          | (refine wpList_store_mid rfl 54 (.tmp 6) (.tmp 169) rfl (w.heap.size + 1) 0 #[.int .i64 F, .int .i64 S, .slice p1 n c1, .slice p2 k c2] rfl rfl (by simpa using Krz.there 0 4 (by simp)) (by kernel_rfl) (all_oneCell_toArray (by intro v hv; simp at hv; rcases hv with rfl | rfl | rfl | rfl <;> rfl)) ?_))
        have Kq : Blk (V1.setCells (w.heap.size + 1) 0 [.int .i64 F, .int .i64 S, .slice p1 n c1, .slice p2 k c2]) (w.heap.size + 1) 54 [.int .i64 F, .int .i64 S, .slice p1 n c1, .slice p2 k c2] := Krz.all rfl
        have X := Oth.setCells Krz 0 [.int .i64 F, .int .i64 S, .slice p1 n c1, .slice p2 k c2]
        have H := (only_sets (w.heap.size + 1) 0 V1 [.int .i64 F, .int .i64 S, .slice p1 n c1, .slice p2 k c2]).2.2 _ _ (Nat.le_succ _) CBw
        have E1 := X.row O1 (by decide)
        have E2 := X.row O2 (by decide)
        try dsimp only
        generalize World.setCells V1 (w.heap.size + 1) 0 [.int .i64 F, .int .i64 S, .slice p1 n c1, .slice p2 k c2] = VF at Kq H E1 E2 ⊢
        exact bodyPost_ret (v := .agg #[.int .i64 F, .int .i64 S, .slice p1 n c1, .slice p2 k c2]) (Kq.resultS (p := 6) (ty := 54) rfl _ rfl Tryd.underlying54 (by kernel_rfl)) rfl (bent_end2 E1 E2 HN.out HK.out (hz.mono (Nat.le_succ _)) (by omega) (by omega) hd H)
    · go_upto_region 24 with (fail)
      refine wp_region_held_drew (S := fun _ => True) (by kernel_rfl) trivial (fun _ => ?_)
      have hHeld : True := trivial
      replace Kt := Kt.drew
      replace Krz := Krz.drew
      replace O1 := row_keep O1 (below_drew (Below.refl _ _))
      replace O2 := row_keep O2 (below_drew (Below.refl _ _))
      replace CBw := below_drew CBw
      generalize V1.drew = V2 at Kt Krz O1 O2 CBw ⊢
      refine wt (i := 0) (oi := ⟨some 125, .fieldAddr 54 (.tmp 7) 2, 0, "ref.go:354", #[], none⟩) (v := .pointer (some ⟨tp, 2, none⟩)) (Or.inl ⟨by rfl, fun w' hSw => by go_simp⟩) hHeld ?_
      try simp only [zP, zQ, zS, zZ, zC]
      refine wt (i := 2) (oi := ⟨some 127, .move (.tmp 2), 3, "ref.go:354", #[], none⟩) (v := .int .i64 by_) (Or.inl ⟨by rfl, fun w' hSw => by go_simp⟩) hHeld ?_
      try simp only [zP, zQ, zS, zZ, zC]
      refine wpAnyH_ready (rs := [1, 3]) (by kernel_rfl) (by simp) ?_
      refine AllReadyH.cons (o := ⟨some 126, .load 24 (.tmp 125), 24, "ref.go:354", #[⟨0, .data⟩], none⟩) rfl (fun K hK => ?_) (AllReadyH.cons (o := ⟨some 128, .call { callee := .value (.func 16), args := #[.tmp 127, .const (Value.int IntKind.i64 40)], argTypes := #[3, 3] }, 3, "ref.go:354", #[⟨2, .data⟩], none⟩) rfl (fun K hK => ?_) AllReadyH.nil)
      · rw [if_pos (by rfl)]
        have hc0 := Kt.cell (j := 2) rfl
        go_simp
        clear hc0
        refine hK.out _ _ (trivial) (fun hHeld => ?_)
        clear hK K
        try simp only [zP, zQ, zS, zZ, zC]
        refine wpAnyH_ready (rs := [3]) (by kernel_rfl) (by simp) ?_
        refine AllReadyH.cons (o := ⟨some 128, .call { callee := .value (.func 16), args := #[.tmp 127, .const (Value.int IntKind.i64 40)], argTypes := #[3, 3] }, 3, "ref.go:354", #[⟨2, .data⟩], none⟩) rfl (fun K hK => ?_) AllReadyH.nil
        rw [if_pos (by rfl)]
        go_simp
        refine (HAb.out 40 (by omega) (by omega) V2).mono ?_
        rintro e w1 ⟨r2, hr2, rfl, hw1⟩
        dsimp only
        rw [hw1]
        clear hw1 w1
        refine hK.out _ _ (trivial) (fun hHeld => ?_)
        clear hK K
        try simp only [zP, zQ, zS, zZ, zC]
        refine wpAnyH_ready (rs := [4]) (by kernel_rfl) (by simp) ?_
        refine AllReadyH.cons (o := ⟨some 129, .call { callee := .value (.func 40), args := #[.tmp 128], argTypes := #[3] }, 9, "ref.go:354", #[⟨3, .data⟩, ⟨3, .chain⟩], none⟩) rfl (fun K hK => ?_) AllReadyH.nil
        rw [if_pos (by rfl)]
        go_simp
        refine (key_any r2 (by omega) V2).mono ?_
        rintro e V3 ⟨rfl, hB3⟩
        dsimp only
        replace Kt := Kt.keep hB3
        replace Krz := Krz.keep hB3
        replace O1 := row_keep O1 hB3
        replace O2 := row_keep O2 hB3
        replace CBw := link CBw hB3
        clear hB3
        refine hK.out _ _ (trivial) (fun hHeld => ?_)
        clear hK K
        try simp only [zP, zQ, zS, zZ, zC]
        refine wt (i := 5) (oi := ⟨some 130, .build 75 #[(0, .tmp 129)], 75, "ref.go:354", #[⟨4, .data⟩], none⟩) (v := .agg #[.string (keyM r2), .string ⟨#[]⟩]) (Or.inl ⟨by rfl, fun w' hSw => by go_simp⟩) hHeld ?_
        try simp only [zP, zQ, zS, zZ, zC]
        refine wpAnyH_ready (rs := [6]) (by kernel_rfl) (by simp) ?_
        refine AllReadyH.cons (o := ⟨some 131, .buildSlice 24 1 #[(0, .tmp 130)], 24, "ref.go:354", #[⟨5, .data⟩], none⟩) rfl (fun K hK => ?_) AllReadyH.nil
        rw [if_pos (by rfl)]
        go_simp
        have hB3 : Below V3.heap.size V3 (World.alloc V3 (.cells #[.string (keyM r2), .string ⟨#[]⟩] 75)) := (Below.refl _ _).alloc (Nat.le_refl _) _
        have Kb : Blk (World.alloc V3 (.cells #[.string (keyM r2), .string ⟨#[]⟩] 75)) V3.heap.size 75 [.string (keyM r2), .string ⟨#[]⟩] := blk_new V3 _ _
        replace Kt := Kt.keep hB3
        replace Krz := Krz.keep hB3
        replace O1 := row_keep O1 hB3
        replace O2 := row_keep O2 hB3
        replace CBw := link CBw hB3
        clear hB3
        refine hK.out _ _ (trivial) (fun hHeld => ?_)
        clear hK K
        try simp only [zP, zQ, zS, zZ, zC]
        generalize World.alloc V3 _ = V4 at Kb Kt Krz O1 O2 CBw ⊢
        generalize V3.heap.size = nb at Kb ⊢
        refine wpAnyH_ready (rs := [7]) (by kernel_rfl) (by simp) ?_
        refine AllReadyH.cons (o := ⟨some 132, .call { callee := .builtin .append, args := #[.tmp 126, .tmp 131], argTypes := #[24, 24] }, 24, "ref.go:354", #[⟨1, .data⟩, ⟨6, .data⟩, ⟨4, .chain⟩], none⟩) rfl (fun K hK => ?_) AllReadyH.nil
        rw [if_pos (by rfl)]
        obtain ⟨ti, hti, hz0, hz1, hz2⟩ := info_parts RLinfo
        refine wp_append_own _ (.tmp 126) (.tmp 131) 24 rfl M 75 ti zeroLeaf 2 32 Tryd.underlying24 hti hz0 hz1 hz2 rfl (by decide) (.slice p1 n c1) n (leavesV lf) rfl O1 ⟨nb, 0, none⟩ 1 1 (leavesV [(keyM r2, ⟨#[]⟩)]) rfl rfl (fun j u hj => by rw [Addr.add_mid, Nat.zero_add]; exact Kb.cell (by simpa [leavesV] using hj)) (leavesV_one _) (by unfold maxLen; omega) (by omega) (by have := Kt.lt; omega) ?_
        intro v3 VA O3 hgr _
        have X := Oth.own O1 hgr
        have CBw2 := CBw.grown hgr (by have := CBw.size; omega) (fun j e => by have h2 := (World.ownsRow.lt O1 j e).1; omega)
        have Kt2 := X.blk Kt (by decide)
        have Krz2 := X.blk Krz (by decide)
        rw [← leavesV_append] at O3
        obtain ⟨p3, c3, rfl⟩ := row_form O3
        have O1n := O3
        have O2n := X.row O2 (by decide)
        clear X hgr O3 Kb
        clear Kt Krz CBw O1 O2
        have Kt := Kt2
        have Krz := Krz2
        have CBw := CBw2
        have O1 := O1n
        have O2 := O2n
        clear Kt2 Krz2 CBw2 O1n O2n
        refine hK.out _ _ (trivial) (fun hHeld => ?_)
        clear hK K
        try simp only [zP, zQ, zS, zZ, zC]
        refine wt (i := 8) (oi := ⟨some 133, .fieldAddr 54 (.tmp 7) 2, 0, "ref.go:354", #[⟨0, .phase⟩, ⟨1, .phase⟩, ⟨2, .phase⟩, ⟨3, .phase⟩, ⟨4, .phase⟩, ⟨5, .phase⟩, ⟨6, .phase⟩, ⟨7, .phase⟩], none⟩) (v := .pointer (some ⟨tp, 2, none⟩)) (Or.inl ⟨by rfl, fun w' hSw => by go_simp⟩) hHeld ?_
        try simp only [zP, zQ, zS, zZ, zC]
        have hks := key_size r2
        refine wpAnyH_ready (rs := [9]) (by kernel_rfl) (by simp) ?_
        refine AllReadyH.cons (o := ⟨none, .store 24 (.tmp 133) (.tmp 132), 0, "ref.go:354", #[⟨8, .data⟩, ⟨7, .data⟩, ⟨7, .chain⟩, ⟨0, .phase⟩, ⟨1, .phase⟩, ⟨2, .phase⟩, ⟨3, .phase⟩, ⟨4, .phase⟩, ⟨5, .phase⟩, ⟨6, .phase⟩, ⟨7, .phase⟩], none⟩) rfl (fun K hK => ?_) AllReadyH.nil
        rw [if_pos (by rfl)]
        have hc0 := Kt.cell (j := 2) rfl
        have hf0 := Kt.free 2
        go_simp
        clear hc0 hf0
        obtain ⟨Kt2, X, HB⟩ := put1 (j := 2) Kt (.slice p3 (n + 1) c3)
        have CBw2 := HB _ _ (by omega) CBw
        have Krz2 := Krz.other (a := ⟨tp, 2, none⟩) (by show w.heap.size + 1 ≠ tp; omega) (.slice p3 (n + 1) c3)
        replace O1 := X.row O1 (by decide)
        replace O2 := X.row O2 (by decide)
        simp only [List.set_cons_zero, List.set_cons_succ] at Kt2
        clear X HB Kt Krz CBw
        have Kt := Kt2
        have Krz := Krz2
        have CBw := CBw2
        clear Kt2 Krz2 CBw2
        generalize World.setCell VA ⟨tp, 2, none⟩ (.slice p3 (n + 1) c3) = VB at Kt Krz O1 O2 CBw ⊢
        refine hK.out _ _ (trivial) (fun hHeld => ?_)
        clear hK K
        try simp only [zP, zQ, zS, zZ, zC]
        refine wpAnyH_done (by kernel_rfl) ?_ _
        clear hHeld
        go_wp2_with (first
          | (refine load_struct rfl 54 (.tmp 7) rfl Kt rfl Tryd.underlying54 (m := 4) (by kernel_rfl) rfl ?_)
          | (refine wpList_store_mid rfl 54 (.tmp 6) (.tmp 169) rfl (w.heap.size + 1) 0 #[.int .i64 F, .int .i64 S, .slice p3 (n + 1) c3, .slice p2 k c2] rfl rfl (by simpa using Krz.there 0 4 (by simp)) (by kernel_rfl) (all_oneCell_toArray (by intro v hv; simp at hv; rcases hv with rfl | rfl | rfl | rfl <;> rfl)) ?_))
        have Kq : Blk (VB.setCells (w.heap.size + 1) 0 [.int .i64 F, .int .i64 S, .slice p3 (n + 1) c3, .slice p2 k c2]) (w.heap.size + 1) 54 [.int .i64 F, .int .i64 S, .slice p3 (n + 1) c3, .slice p2 k c2] := Krz.all rfl
        have X := Oth.setCells Krz 0 [.int .i64 F, .int .i64 S, .slice p3 (n + 1) c3, .slice p2 k c2]
        have H := (only_sets (w.heap.size + 1) 0 VB [.int .i64 F, .int .i64 S, .slice p3 (n + 1) c3, .slice p2 k c2]).2.2 _ _ (Nat.le_succ _) CBw
        have E1 := X.row O1 (by decide)
        have E2 := X.row O2 (by decide)
        try dsimp only
        generalize World.setCells VB (w.heap.size + 1) 0 [.int .i64 F, .int .i64 S, .slice p3 (n + 1) c3, .slice p2 k c2] = VF at Kq H E1 E2 ⊢
        exact bodyPost_ret (v := .agg #[.int .i64 F, .int .i64 S, .slice p3 (n + 1) c3, .slice p2 k c2]) (Kq.resultS (p := 6) (ty := 54) rfl _ rfl Tryd.underlying54 (by kernel_rfl)) rfl (bent_end2 E1 E2 (by rw [List.length_append, HN.out]; rfl) HK.out ((hz.mono (Nat.le_succ _)).snoc ⟨by show (keyM r2).size ≤ _; omega, Nat.zero_le _⟩) (by omega) (by omega) hd H)
      · rw [if_pos (by rfl)]
        go_simp
        refine (HAb.out 40 (by omega) (by omega) V2).mono ?_
        rintro e w1 ⟨r2, hr2, rfl, hw1⟩
        dsimp only
        rw [hw1]
        clear hw1 w1
        refine hK.out _ _ (trivial) (fun hHeld => ?_)
        clear hK K
        try simp only [zP, zQ, zS, zZ, zC]
        refine wpAnyH_ready (rs := [1, 4]) (by kernel_rfl) (by simp) ?_
        refine AllReadyH.cons (o := ⟨some 126, .load 24 (.tmp 125), 24, "ref.go:354", #[⟨0, .data⟩], none⟩) rfl (fun K hK => ?_) (AllReadyH.cons (o := ⟨some 129, .call { callee := .value (.func 40), args := #[.tmp 128], argTypes := #[3] }, 9, "ref.go:354", #[⟨3, .data⟩, ⟨3, .chain⟩], none⟩) rfl (fun K hK => ?_) AllReadyH.nil)
        · rw [if_pos (by rfl)]
          have hc0 := Kt.cell (j := 2) rfl
          go_simp
          clear hc0
          refine hK.out _ _ (trivial) (fun hHeld => ?_)
          clear hK K
          try simp only [zP, zQ, zS, zZ, zC]
          refine wpAnyH_ready (rs := [4]) (by kernel_rfl) (by simp) ?_
          refine AllReadyH.cons (o := ⟨some 129, .call { callee := .value (.func 40), args := #[.tmp 128], argTypes := #[3] }, 9, "ref.go:354", #[⟨3, .data⟩, ⟨3, .chain⟩], none⟩) rfl (fun K hK => ?_) AllReadyH.nil
          rw [if_pos (by rfl)]
          go_simp
          refine (key_any r2 (by omega) V2).mono ?_
          rintro e V3 ⟨rfl, hB3⟩
          dsimp only
          replace Kt := Kt.keep hB3
          replace Krz := Krz.keep hB3
          replace O1 := row_keep O1 hB3
          replace O2 := row_keep O2 hB3
          replace CBw := link CBw hB3
          clear hB3
          refine hK.out _ _ (trivial) (fun hHeld => ?_)
          clear hK K
          try simp only [zP, zQ, zS, zZ, zC]
          refine wt (i := 5) (oi := ⟨some 130, .build 75 #[(0, .tmp 129)], 75, "ref.go:354", #[⟨4, .data⟩], none⟩) (v := .agg #[.string (keyM r2), .string ⟨#[]⟩]) (Or.inl ⟨by rfl, fun w' hSw => by go_simp⟩) hHeld ?_
          try simp only [zP, zQ, zS, zZ, zC]
          refine wpAnyH_ready (rs := [6]) (by kernel_rfl) (by simp) ?_
          refine AllReadyH.cons (o := ⟨some 131, .buildSlice 24 1 #[(0, .tmp 130)], 24, "ref.go:354", #[⟨5, .data⟩], none⟩) rfl (fun K hK => ?_) AllReadyH.nil
          rw [if_pos (by rfl)]
          go_simp
          have hB3 : Below V3.heap.size V3 (World.alloc V3 (.cells #[.string (keyM r2), .string ⟨#[]⟩] 75)) := (Below.refl _ _).alloc (Nat.le_refl _) _
          have Kb : Blk (World.alloc V3 (.cells #[.string (keyM r2), .string ⟨#[]⟩] 75)) V3.heap.size 75 [.string (keyM r2), .string ⟨#[]⟩] := blk_new V3 _ _
          replace Kt := Kt.keep hB3
          replace Krz := Krz.keep hB3
          replace O1 := row_keep O1 hB3
          replace O2 := row_keep O2 hB3
          replace CBw := link CBw hB3
          clear hB3
          refine hK.out _ _ (trivial) (fun hHeld => ?_)
          clear hK K
          try simp only [zP, zQ, zS, zZ, zC]
          generalize World.alloc V3 _ = V4 at Kb Kt Krz O1 O2 CBw ⊢
          generalize V3.heap.size = nb at Kb ⊢
          refine wpAnyH_ready (rs := [7]) (by kernel_rfl) (by simp) ?_
          refine AllReadyH.cons (o := ⟨some 132, .call { callee := .builtin .append, args := #[.tmp 126, .tmp 131], argTypes := #[24, 24] }, 24, "ref.go:354", #[⟨1, .data⟩, ⟨6, .data⟩, ⟨4, .chain⟩], none⟩) rfl (fun K hK => ?_) AllReadyH.nil
          rw [if_pos (by rfl)]
          obtain ⟨ti, hti, hz0, hz1, hz2⟩ := info_parts RLinfo
          refine wp_append_own _ (.tmp 126) (.tmp 131) 24 rfl M 75 ti zeroLeaf 2 32 Tryd.underlying24 hti hz0 hz1 hz2 rfl (by decide) (.slice p1 n c1) n (leavesV lf) rfl O1 ⟨nb, 0, none⟩ 1 1 (leavesV [(keyM r2, ⟨#[]⟩)]) rfl rfl (fun j u hj => by rw [Addr.add_mid, Nat.zero_add]; exact Kb.cell (by simpa [leavesV] using hj)) (leavesV_one _) (by unfold maxLen; omega) (by omega) (by have := Kt.lt; omega) ?_
          intro v3 VA O3 hgr _
          have X := Oth.own O1 hgr
          have CBw2 := CBw.grown hgr (by have := CBw.size; omega) (fun j e => by have h2 := (World.ownsRow.lt O1 j e).1; omega)
          have Kt2 := X.blk Kt (by decide)
          have Krz2 := X.blk Krz (by decide)
          rw [← leavesV_append] at O3
          obtain ⟨p3, c3, rfl⟩ := row_form O3
          have O1n := O3
          have O2n := X.row O2 (by decide)
          clear X hgr O3 Kb
          clear Kt Krz CBw O1 O2
          have Kt := Kt2
          have Krz := Krz2
          have CBw := CBw2
          have O1 := O1n
          have O2 := O2n
          clear Kt2 Krz2 CBw2 O1n O2n
          refine hK.out _ _ (trivial) (fun hHeld => ?_)
          clear hK K
          try simp only [zP, zQ, zS, zZ, zC]
          refine wt (i := 8) (oi := ⟨some 133, .fieldAddr 54 (.tmp 7) 2, 0, "ref.go:354", #[⟨0, .phase⟩, ⟨1, .phase⟩, ⟨2, .phase⟩, ⟨3, .phase⟩, ⟨4, .phase⟩, ⟨5, .phase⟩, ⟨6, .phase⟩, ⟨7, .phase⟩], none⟩) (v := .pointer (some ⟨tp, 2, none⟩)) (Or.inl ⟨by rfl, fun w' hSw => by go_simp⟩) hHeld ?_
          try simp only [zP, zQ, zS, zZ, zC]
          have hks := key_size r2
          refine wpAnyH_ready (rs := [9]) (by kernel_rfl) (by simp) ?_
          refine AllReadyH.cons (o := ⟨none, .store 24 (.tmp 133) (.tmp 132), 0, "ref.go:354", #[⟨8, .data⟩, ⟨7, .data⟩, ⟨7, .chain⟩, ⟨0, .phase⟩, ⟨1, .phase⟩, ⟨2, .phase⟩, ⟨3, .phase⟩, ⟨4, .phase⟩, ⟨5, .phase⟩, ⟨6, .phase⟩, ⟨7, .phase⟩], none⟩) rfl (fun K hK => ?_) AllReadyH.nil
          rw [if_pos (by rfl)]
          have hc0 := Kt.cell (j := 2) rfl
          have hf0 := Kt.free 2
          go_simp
          clear hc0 hf0
          obtain ⟨Kt2, X, HB⟩ := put1 (j := 2) Kt (.slice p3 (n + 1) c3)
          have CBw2 := HB _ _ (by omega) CBw
          have Krz2 := Krz.other (a := ⟨tp, 2, none⟩) (by show w.heap.size + 1 ≠ tp; omega) (.slice p3 (n + 1) c3)
          replace O1 := X.row O1 (by decide)
          replace O2 := X.row O2 (by decide)
          simp only [List.set_cons_zero, List.set_cons_succ] at Kt2
          clear X HB Kt Krz CBw
          have Kt := Kt2
          have Krz := Krz2
          have CBw := CBw2
          clear Kt2 Krz2 CBw2
          generalize World.setCell VA ⟨tp, 2, none⟩ (.slice p3 (n + 1) c3) = VB at Kt Krz O1 O2 CBw ⊢
          refine hK.out _ _ (trivial) (fun hHeld => ?_)
          clear hK K
          try simp only [zP, zQ, zS, zZ, zC]
          refine wpAnyH_done (by kernel_rfl) ?_ _
          clear hHeld
          go_wp2_with (first
            | (refine load_struct rfl 54 (.tmp 7) rfl Kt rfl Tryd.underlying54 (m := 4) (by kernel_rfl) rfl ?_)
            | (refine wpList_store_mid rfl 54 (.tmp 6) (.tmp 169) rfl (w.heap.size + 1) 0 #[.int .i64 F, .int .i64 S, .slice p3 (n + 1) c3, .slice p2 k c2] rfl rfl (by simpa using Krz.there 0 4 (by simp)) (by kernel_rfl) (all_oneCell_toArray (by intro v hv; simp at hv; rcases hv with rfl | rfl | rfl | rfl <;> rfl)) ?_))
          have Kq : Blk (VB.setCells (w.heap.size + 1) 0 [.int .i64 F, .int .i64 S, .slice p3 (n + 1) c3, .slice p2 k c2]) (w.heap.size + 1) 54 [.int .i64 F, .int .i64 S, .slice p3 (n + 1) c3, .slice p2 k c2] := Krz.all rfl
          have X := Oth.setCells Krz 0 [.int .i64 F, .int .i64 S, .slice p3 (n + 1) c3, .slice p2 k c2]
          have H := (only_sets (w.heap.size + 1) 0 VB [.int .i64 F, .int .i64 S, .slice p3 (n + 1) c3, .slice p2 k c2]).2.2 _ _ (Nat.le_succ _) CBw
          have E1 := X.row O1 (by decide)
          have E2 := X.row O2 (by decide)
          try dsimp only
          generalize World.setCells VB (w.heap.size + 1) 0 [.int .i64 F, .int .i64 S, .slice p3 (n + 1) c3, .slice p2 k c2] = VF at Kq H E1 E2 ⊢
          exact bodyPost_ret (v := .agg #[.int .i64 F, .int .i64 S, .slice p3 (n + 1) c3, .slice p2 k c2]) (Kq.resultS (p := 6) (ty := 54) rfl _ rfl Tryd.underlying54 (by kernel_rfl)) rfl (bent_end2 E1 E2 (by rw [List.length_append, HN.out]; rfl) HK.out ((hz.mono (Nat.le_succ _)).snoc ⟨by show (keyM r2).size ≤ _; omega, Nat.zero_le _⟩) (by omega) (by omega) hd H)
        · rw [if_pos (by rfl)]
          go_simp
          refine (key_any r2 (by omega) V2).mono ?_
          rintro e V3 ⟨rfl, hB3⟩
          dsimp only
          replace Kt := Kt.keep hB3
          replace Krz := Krz.keep hB3
          replace O1 := row_keep O1 hB3
          replace O2 := row_keep O2 hB3
          replace CBw := link CBw hB3
          clear hB3
          refine hK.out _ _ (trivial) (fun hHeld => ?_)
          clear hK K
          try simp only [zP, zQ, zS, zZ, zC]
          refine wt (i := 5) (oi := ⟨some 130, .build 75 #[(0, .tmp 129)], 75, "ref.go:354", #[⟨4, .data⟩], none⟩) (v := .agg #[.string (keyM r2), .string ⟨#[]⟩]) (Or.inl ⟨by rfl, fun w' hSw => by go_simp⟩) hHeld ?_
          try simp only [zP, zQ, zS, zZ, zC]
          refine wpAnyH_ready (rs := [1, 6]) (by kernel_rfl) (by simp) ?_
          refine AllReadyH.cons (o := ⟨some 126, .load 24 (.tmp 125), 24, "ref.go:354", #[⟨0, .data⟩], none⟩) rfl (fun K hK => ?_) (AllReadyH.cons (o := ⟨some 131, .buildSlice 24 1 #[(0, .tmp 130)], 24, "ref.go:354", #[⟨5, .data⟩], none⟩) rfl (fun K hK => ?_) AllReadyH.nil)
          · rw [if_pos (by rfl)]
            have hc0 := Kt.cell (j := 2) rfl
            go_simp
            clear hc0
            refine hK.out _ _ (trivial) (fun hHeld => ?_)
            clear hK K
            try simp only [zP, zQ, zS, zZ, zC]
            refine wpAnyH_ready (rs := [6]) (by kernel_rfl) (by simp) ?_
            refine AllReadyH.cons (o := ⟨some 131, .buildSlice 24 1 #[(0, .tmp 130)], 24, "ref.go:354", #[⟨5, .data⟩], none⟩) rfl (fun K hK => ?_) AllReadyH.nil
            rw [if_pos (by rfl)]
            go_simp
            have hB3 : Below V3.heap.size V3 (World.alloc V3 (.cells #[.string (keyM r2), .string ⟨#[]⟩] 75)) := (Below.refl _ _).alloc (Nat.le_refl _) _
            have Kb : Blk (World.alloc V3 (.cells #[.string (keyM r2), .string ⟨#[]⟩] 75)) V3.heap.size 75 [.string (keyM r2), .string ⟨#[]⟩] := blk_new V3 _ _
            replace Kt := Kt.keep hB3
            replace Krz := Krz.keep hB3
            replace O1 := row_keep O1 hB3
            replace O2 := row_keep O2 hB3
            replace CBw := link CBw hB3
            clear hB3
            refine hK.out _ _ (trivial) (fun hHeld => ?_)
            clear hK K
            try simp only [zP, zQ, zS, zZ, zC]
            generalize World.alloc V3 _ = V4 at Kb Kt Krz O1 O2 CBw ⊢
            generalize V3.heap.size = nb at Kb ⊢
            refine wpAnyH_ready (rs := [7]) (by kernel_rfl) (by simp) ?_
            refine AllReadyH.cons (o := ⟨some 132, .call { callee := .builtin .append, args := #[.tmp 126, .tmp 131], argTypes := #[24, 24] }, 24, "ref.go:354", #[⟨1, .data⟩, ⟨6, .data⟩, ⟨4, .chain⟩], none⟩) rfl (fun K hK => ?_) AllReadyH.nil
            rw [if_pos (by rfl)]
            obtain ⟨ti, hti, hz0, hz1, hz2⟩ := info_parts RLinfo
            refine wp_append_own _ (.tmp 126) (.tmp 131) 24 rfl M 75 ti zeroLeaf 2 32 Tryd.underlying24 hti hz0 hz1 hz2 rfl (by decide) (.slice p1 n c1) n (leavesV lf) rfl O1 ⟨nb, 0, none⟩ 1 1 (leavesV [(keyM r2, ⟨#[]⟩)]) rfl rfl (fun j u hj => by rw [Addr.add_mid, Nat.zero_add]; exact Kb.cell (by simpa [leavesV] using hj)) (leavesV_one _) (by unfold maxLen; omega) (by omega) (by have := Kt.lt; omega) ?_
            intro v3 VA O3 hgr _
            have X := Oth.own O1 hgr
            have CBw2 := CBw.grown hgr (by have := CBw.size; omega) (fun j e => by have h2 := (World.ownsRow.lt O1 j e).1; omega)
            have Kt2 := X.blk Kt (by decide)
            have Krz2 := X.blk Krz (by decide)
            rw [← leavesV_append] at O3
            obtain ⟨p3, c3, rfl⟩ := row_form O3
            have O1n := O3
            have O2n := X.row O2 (by decide)
            clear X hgr O3 Kb
            clear Kt Krz CBw O1 O2
            have Kt := Kt2
            have Krz := Krz2
            have CBw := CBw2
            have O1 := O1n
            have O2 := O2n
            clear Kt2 Krz2 CBw2 O1n O2n
            refine hK.out _ _ (trivial) (fun hHeld => ?_)
            clear hK K
            try simp only [zP, zQ, zS, zZ, zC]
            refine wt (i := 8) (oi := ⟨some 133, .fieldAddr 54 (.tmp 7) 2, 0, "ref.go:354", #[⟨0, .phase⟩, ⟨1, .phase⟩, ⟨2, .phase⟩, ⟨3, .phase⟩, ⟨4, .phase⟩, ⟨5, .phase⟩, ⟨6, .phase⟩, ⟨7, .phase⟩], none⟩) (v := .pointer (some ⟨tp, 2, none⟩)) (Or.inl ⟨by rfl, fun w' hSw => by go_simp⟩) hHeld ?_
            try simp only [zP, zQ, zS, zZ, zC]
            have hks := key_size r2
            refine wpAnyH_ready (rs := [9]) (by kernel_rfl) (by simp) ?_
            refine AllReadyH.cons (o := ⟨none, .store 24 (.tmp 133) (.tmp 132), 0, "ref.go:354", #[⟨8, .data⟩, ⟨7, .data⟩, ⟨7, .chain⟩, ⟨0, .phase⟩, ⟨1, .phase⟩, ⟨2, .phase⟩, ⟨3, .phase⟩, ⟨4, .phase⟩, ⟨5, .phase⟩, ⟨6, .phase⟩, ⟨7, .phase⟩], none⟩) rfl (fun K hK => ?_) AllReadyH.nil
            rw [if_pos (by rfl)]
            have hc0 := Kt.cell (j := 2) rfl
            have hf0 := Kt.free 2
            go_simp
            clear hc0 hf0
            obtain ⟨Kt2, X, HB⟩ := put1 (j := 2) Kt (.slice p3 (n + 1) c3)
            have CBw2 := HB _ _ (by omega) CBw
            have Krz2 := Krz.other (a := ⟨tp, 2, none⟩) (by show w.heap.size + 1 ≠ tp; omega) (.slice p3 (n + 1) c3)
            replace O1 := X.row O1 (by decide)
            replace O2 := X.row O2 (by decide)
            simp only [List.set_cons_zero, List.set_cons_succ] at Kt2
            clear X HB Kt Krz CBw
            have Kt := Kt2
            have Krz := Krz2
            have CBw := CBw2
            clear Kt2 Krz2 CBw2
            generalize World.setCell VA ⟨tp, 2, none⟩ (.slice p3 (n + 1) c3) = VB at Kt Krz O1 O2 CBw ⊢
            refine hK.out _ _ (trivial) (fun hHeld => ?_)
            clear hK K
            try simp only [zP, zQ, zS, zZ, zC]
            refine wpAnyH_done (by kernel_rfl) ?_ _
            clear hHeld
            go_wp2_with (first
              | (refine load_struct rfl 54 (.tmp 7) rfl Kt rfl Tryd.underlying54 (m := 4) (by kernel_rfl) rfl ?_)
              | (refine wpList_store_mid rfl 54 (.tmp 6) (.tmp 169) rfl (w.heap.size + 1) 0 #[.int .i64 F, .int .i64 S, .slice p3 (n + 1) c3, .slice p2 k c2] rfl rfl (by simpa using Krz.there 0 4 (by simp)) (by kernel_rfl) (all_oneCell_toArray (by intro v hv; simp at hv; rcases hv with rfl | rfl | rfl | rfl <;> rfl)) ?_))
            have Kq : Blk (VB.setCells (w.heap.size + 1) 0 [.int .i64 F, .int .i64 S, .slice p3 (n + 1) c3, .slice p2 k c2]) (w.heap.size + 1) 54 [.int .i64 F, .int .i64 S, .slice p3 (n + 1) c3, .slice p2 k c2] := Krz.all rfl
            have X := Oth.setCells Krz 0 [.int .i64 F, .int .i64 S, .slice p3 (n + 1) c3, .slice p2 k c2]
            have H := (only_sets (w.heap.size + 1) 0 VB [.int .i64 F, .int .i64 S, .slice p3 (n + 1) c3, .slice p2 k c2]).2.2 _ _ (Nat.le_succ _) CBw
            have E1 := X.row O1 (by decide)
            have E2 := X.row O2 (by decide)
            try dsimp only
            generalize World.setCells VB (w.heap.size + 1) 0 [.int .i64 F, .int .i64 S, .slice p3 (n + 1) c3, .slice p2 k c2] = VF at Kq H E1 E2 ⊢
            exact bodyPost_ret (v := .agg #[.int .i64 F, .int .i64 S, .slice p3 (n + 1) c3, .slice p2 k c2]) (Kq.resultS (p := 6) (ty := 54) rfl _ rfl Tryd.underlying54 (by kernel_rfl)) rfl (bent_end2 E1 E2 (by rw [List.length_append, HN.out]; rfl) HK.out ((hz.mono (Nat.le_succ _)).snoc ⟨by show (keyM r2).size ≤ _; omega, Nat.zero_le _⟩) (by omega) (by omega) hd H)
          · rw [if_pos (by rfl)]
            go_simp
            have hB3 : Below V3.heap.size V3 (World.alloc V3 (.cells #[.string (keyM r2), .string ⟨#[]⟩] 75)) := (Below.refl _ _).alloc (Nat.le_refl _) _
            have Kb : Blk (World.alloc V3 (.cells #[.string (keyM r2), .string ⟨#[]⟩] 75)) V3.heap.size 75 [.string (keyM r2), .string ⟨#[]⟩] := blk_new V3 _ _
            replace Kt := Kt.keep hB3
            replace Krz := Krz.keep hB3
            replace O1 := row_keep O1 hB3
            replace O2 := row_keep O2 hB3
            replace CBw := link CBw hB3
            clear hB3
            refine hK.out _ _ (trivial) (fun hHeld => ?_)
            clear hK K
            try simp only [zP, zQ, zS, zZ, zC]
            generalize World.alloc V3 _ = V4 at Kb Kt Krz O1 O2 CBw ⊢
            generalize V3.heap.size = nb at Kb ⊢
            refine wpAnyH_ready (rs := [1]) (by kernel_rfl) (by simp) ?_
            refine AllReadyH.cons (o := ⟨some 126, .load 24 (.tmp 125), 24, "ref.go:354", #[⟨0, .data⟩], none⟩) rfl (fun K hK => ?_) AllReadyH.nil
            rw [if_pos (by rfl)]
            have hc0 := Kt.cell (j := 2) rfl
            go_simp
            clear hc0
            refine hK.out _ _ (trivial) (fun hHeld => ?_)
            clear hK K
            try simp only [zP, zQ, zS, zZ, zC]
            refine wpAnyH_ready (rs := [7]) (by kernel_rfl) (by simp) ?_
            refine AllReadyH.cons (o := ⟨some 132, .call { callee := .builtin .append, args := #[.tmp 126, .tmp 131], argTypes := #[24, 24] }, 24, "ref.go:354", #[⟨1, .data⟩, ⟨6, .data⟩, ⟨4, .chain⟩], none⟩) rfl (fun K hK => ?_) AllReadyH.nil
            rw [if_pos (by rfl)]
            obtain ⟨ti, hti, hz0, hz1, hz2⟩ := info_parts RLinfo
            refine wp_append_own _ (.tmp 126) (.tmp 131) 24 rfl M 75 ti zeroLeaf 2 32 Tryd.underlying24 hti hz0 hz1 hz2 rfl (by decide) (.slice p1 n c1) n (leavesV lf) rfl O1 ⟨nb, 0, none⟩ 1 1 (leavesV [(keyM r2, ⟨#[]⟩)]) rfl rfl (fun j u hj => by rw [Addr.add_mid, Nat.zero_add]; exact Kb.cell (by simpa [leavesV] using hj)) (leavesV_one _) (by unfold maxLen; omega) (by omega) (by have := Kt.lt; omega) ?_
            intro v3 VA O3 hgr _
            have X := Oth.own O1 hgr
            have CBw2 := CBw.grown hgr (by have := CBw.size; omega) (fun j e => by have h2 := (World.ownsRow.lt O1 j e).1; omega)
            have Kt2 := X.blk Kt (by decide)
            have Krz2 := X.blk Krz (by decide)
            rw [← leavesV_append] at O3
            obtain ⟨p3, c3, rfl⟩ := row_form O3
            have O1n := O3
            have O2n := X.row O2 (by decide)
            clear X hgr O3 Kb
            clear Kt Krz CBw O1 O2
            have Kt := Kt2
            have Krz := Krz2
            have CBw := CBw2
            have O1 := O1n
            have O2 := O2n
            clear Kt2 Krz2 CBw2 O1n O2n
            refine hK.out _ _ (trivial) (fun hHeld => ?_)
            clear hK K
            try simp only [zP, zQ, zS, zZ, zC]
            refine wt (i := 8) (oi := ⟨some 133, .fieldAddr 54 (.tmp 7) 2, 0, "ref.go:354", #[⟨0, .phase⟩, ⟨1, .phase⟩, ⟨2, .phase⟩, ⟨3, .phase⟩, ⟨4, .phase⟩, ⟨5, .phase⟩, ⟨6, .phase⟩, ⟨7, .phase⟩], none⟩) (v := .pointer (some ⟨tp, 2, none⟩)) (Or.inl ⟨by rfl, fun w' hSw => by go_simp⟩) hHeld ?_
            try simp only [zP, zQ, zS, zZ, zC]
            have hks := key_size r2
            refine wpAnyH_ready (rs := [9]) (by kernel_rfl) (by simp) ?_
            refine AllReadyH.cons (o := ⟨none, .store 24 (.tmp 133) (.tmp 132), 0, "ref.go:354", #[⟨8, .data⟩, ⟨7, .data⟩, ⟨7, .chain⟩, ⟨0, .phase⟩, ⟨1, .phase⟩, ⟨2, .phase⟩, ⟨3, .phase⟩, ⟨4, .phase⟩, ⟨5, .phase⟩, ⟨6, .phase⟩, ⟨7, .phase⟩], none⟩) rfl (fun K hK => ?_) AllReadyH.nil
            rw [if_pos (by rfl)]
            have hc0 := Kt.cell (j := 2) rfl
            have hf0 := Kt.free 2
            go_simp
            clear hc0 hf0
            obtain ⟨Kt2, X, HB⟩ := put1 (j := 2) Kt (.slice p3 (n + 1) c3)
            have CBw2 := HB _ _ (by omega) CBw
            have Krz2 := Krz.other (a := ⟨tp, 2, none⟩) (by show w.heap.size + 1 ≠ tp; omega) (.slice p3 (n + 1) c3)
            replace O1 := X.row O1 (by decide)
            replace O2 := X.row O2 (by decide)
            simp only [List.set_cons_zero, List.set_cons_succ] at Kt2
            clear X HB Kt Krz CBw
            have Kt := Kt2
            have Krz := Krz2
            have CBw := CBw2
            clear Kt2 Krz2 CBw2
            generalize World.setCell VA ⟨tp, 2, none⟩ (.slice p3 (n + 1) c3) = VB at Kt Krz O1 O2 CBw ⊢
            refine hK.out _ _ (trivial) (fun hHeld => ?_)
            clear hK K
            try simp only [zP, zQ, zS, zZ, zC]
            refine wpAnyH_done (by kernel_rfl) ?_ _
            clear hHeld
            go_wp2_with (first
              | (refine load_struct rfl 54 (.tmp 7) rfl Kt rfl Tryd.underlying54 (m := 4) (by kernel_rfl) rfl ?_)
              | (refine wpList_store_mid rfl 54 (.tmp 6) (.tmp 169) rfl (w.heap.size + 1) 0 #[.int .i64 F, .int .i64 S, .slice p3 (n + 1) c3, .slice p2 k c2] rfl rfl (by simpa using Krz.there 0 4 (by simp)) (by kernel_rfl) (all_oneCell_toArray (by intro v hv; simp at hv; rcases hv with rfl | rfl | rfl | rfl <;> rfl)) ?_))
            have Kq : Blk (VB.setCells (w.heap.size + 1) 0 [.int .i64 F, .int .i64 S, .slice p3 (n + 1) c3, .slice p2 k c2]) (w.heap.size + 1) 54 [.int .i64 F, .int .i64 S, .slice p3 (n + 1) c3, .slice p2 k c2] := Krz.all rfl
            have X := Oth.setCells Krz 0 [.int .i64 F, .int .i64 S, .slice p3 (n + 1) c3, .slice p2 k c2]
            have H := (only_sets (w.heap.size + 1) 0 VB [.int .i64 F, .int .i64 S, .slice p3 (n + 1) c3, .slice p2 k c2]).2.2 _ _ (Nat.le_succ _) CBw
            have E1 := X.row O1 (by decide)
            have E2 := X.row O2 (by decide)
            try dsimp only
            generalize World.setCells VB (w.heap.size + 1) 0 [.int .i64 F, .int .i64 S, .slice p3 (n + 1) c3, .slice p2 k c2] = VF at Kq H E1 E2 ⊢
            exact bodyPost_ret (v := .agg #[.int .i64 F, .int .i64 S, .slice p3 (n + 1) c3, .slice p2 k c2]) (Kq.resultS (p := 6) (ty := 54) rfl _ rfl Tryd.underlying54 (by kernel_rfl)) rfl (bent_end2 E1 E2 (by rw [List.length_append, HN.out]; rfl) HK.out ((hz.mono (Nat.le_succ _)).snoc ⟨by show (keyM r2).size ≤ _; omega, Nat.zero_le _⟩) (by omega) (by omega) hd H)
    · have k3 := Kt.cell (j := 3) rfl
      by_cases hn0 : 0 < k
      · obtain ⟨g, rfl, hgM, hgV, hnc, hcm⟩ := row_some O2 hn0
        have hi2 := hj1 hn0
        go_upto_region 27 with (fail)
        clear k3
        obtain ⟨d, hd0⟩ : ∃ d, sd[j0]? = some d := ⟨_, List.getElem?_eq_getElem (by rw [HK.out]; exact hi2)⟩
        have hdd := hd d (List.mem_of_getElem? hd0)
        have hgt : g ≠ tp := fun e => by have := own_other O2 Kt (by decide); exact this (by rw [e]; rfl)
        obtain ⟨q8, hq8⟩ : ∃ q8, by_.tdiv 8 = q8 := ⟨_, rfl⟩
        have hq1 : -9223372036854775808 ≤ q8 ∧ q8 ≤ 9223372036854775807 := by rw [← hq8]; exact tdiv8 by_ hb1 hb2
        have hw8 : IntKind.i64.wrap q8 = q8 := by simp [IntKind.wrap, IntKind.signed, IntKind.bits]; omega
        refine wp_region_held_drew (S := fun w' => Blk w' tp 54 [.int .i64 F, .int .i64 S, .slice p1 n c1, .slice (some ⟨g, 0, none⟩) k c2]) (by kernel_rfl) Kt.drew (fun _ => ?_)
        replace Kt := Kt.drew
        replace Krz := Krz.drew
        replace O1 := row_keep O1 (below_drew (Below.refl _ _))
        replace O2 := row_keep O2 (below_drew (Below.refl _ _))
        replace CBw := below_drew CBw
        generalize V1.drew = V2 at Kt Krz O1 O2 CBw ⊢
        have hHeld := Kt
        refine wt (i := 0) (oi := ⟨some 140, .fieldAddr 54 (.tmp 7) 3, 0, "ref.go:357", #[], none⟩) (v := .pointer (some ⟨tp, 3, none⟩)) (Or.inl ⟨by rfl, fun w' hSw => by go_simp⟩) hHeld ?_
        try simp only [zP, zQ, zS, zZ, zC]
        refine wt (i := 1) (oi := ⟨some 141, .load 48 (.tmp 140), 48, "ref.go:357", #[⟨0, .data⟩], none⟩) (v := .slice (some ⟨g, 0, none⟩) k c2) (Or.inl ⟨by rfl, fun w' hSw => by have hc := Blk.cell (j := 3) hSw rfl; go_simp⟩) hHeld ?_
        try simp only [zP, zQ, zS, zZ, zC]
        refine wt (i := 2) (oi := ⟨some 142, .move (.tmp 9), 3, "ref.go:357", #[], none⟩) (v := .int .i64 (j0 : Int)) (Or.inl ⟨by rfl, fun w' hSw => by go_simp⟩) hHeld ?_
        try simp only [zP, zQ, zS, zZ, zC]
        refine wt (i := 3) (oi := ⟨some 143, .move (.tmp 2), 3, "ref.go:357", #[], none⟩) (v := .int .i64 by_) (Or.inl ⟨by rfl, fun w' hSw => by go_simp⟩) hHeld ?_
        try simp only [zP, zQ, zS, zZ, zC]
        refine wt (i := 4) (oi := ⟨some 144, .binOp .quo 3 (.tmp 143) (.const (Value.int IntKind.i64 8)) 3, 3, "ref.go:357", #[⟨3, .data⟩], none⟩) (v := .int .i64 q8) (Or.inl ⟨by rfl, fun w' hSw => by go_simp⟩) hHeld ?_
        try simp only [zP, zQ, zS, zZ, zC]
        refine wt (i := 6) (oi := ⟨some 146, .indexAddr 48 (.tmp 141) (.tmp 142), 0, "ref.go:357", #[⟨1, .data⟩, ⟨2, .data⟩], none⟩) (v := .pointer (some ⟨g, j0 * 16, none⟩)) (Or.inl ⟨by rfl, fun w' hSw => by go_simp; try (intro hcm; exact absurd hcm (by omega))⟩) hHeld ?_
        try simp only [zP, zQ, zS, zZ, zC]
        refine wt (i := 10) (oi := ⟨some 150, .indexAddr 48 (.tmp 141) (.tmp 142), 0, "ref.go:357", #[⟨1, .data⟩, ⟨2, .data⟩], none⟩) (v := .pointer (some ⟨g, j0 * 16, none⟩)) (Or.inl ⟨by rfl, fun w' hSw => by go_simp; try (intro hcm; exact absurd hcm (by omega))⟩) hHeld ?_
        try simp only [zP, zQ, zS, zZ, zC]
        refine wpAnyH_ready (rs := [5]) (by kernel_rfl) (by simp) ?_
        refine AllReadyH.cons (o := ⟨some 145, .call { callee := .value (.func 16), args := #[.tmp 144, .const (Value.int IntKind.i64 16)], argTypes := #[3, 3] }, 3, "ref.go:357", #[⟨4, .data⟩], none⟩) rfl (fun K hK => ?_) AllReadyH.nil
        rw [if_pos (by rfl)]
        go_simp
        refine (around_any q8 hq1.1 hq1.2 16 (by omega) (by omega) V2).mono ?_
        rintro e w1 ⟨r2, hr2, rfl, hw1⟩
        dsimp only
        rw [hw1]
        clear hw1 w1
        refine hK.out _ _ (hHeld) (fun hHeld => ?_)
        clear hK K
        try simp only [zP, zQ, zS, zZ, zC]
        refine wt (i := 7) (oi := ⟨some 147, .indexAddr 29 (.tmp 146) (.tmp 145), 0, "ref.go:357", #[⟨6, .data⟩, ⟨5, .data⟩], none⟩) (v := .pointer (some ⟨g, j0 * 16 + r2, none⟩)) (Or.inl ⟨by rfl, fun w' hSw => by go_simp; try (intro hcm; exact absurd hcm (by omega))⟩) hHeld ?_
        try simp only [zP, zQ, zS, zZ, zC]
        obtain ⟨x, hx1, hx2⟩ := (flat_set sd hd j0 r2 0 d hd0 hr2).2
        have hxb : x < 256 := hdd.2 x (List.mem_of_getElem? hx1)
        obtain ⟨y, hyb, hye⟩ := xor1 x hxb
        refine wpAnyH_ready (rs := [8]) (by kernel_rfl) (by simp) ?_
        refine AllReadyH.cons (o := ⟨some 148, .load 5 (.tmp 147), 5, "ref.go:357", #[⟨7, .data⟩], none⟩) rfl (fun K hK => ?_) AllReadyH.nil
        rw [if_pos (by rfl)]
        have hc0 := row_cell O2 (j0 * 16 + r2) _ hx2
        go_simp
        refine hK.out _ _ (Kt) (fun hHeld => ?_)
        clear hK K
        try simp only [zP, zQ, zS, zZ, zC]
        refine wt (i := 9) (oi := ⟨some 149, .binOp .xor 5 (.tmp 148) (.const (Value.int IntKind.u8 1)) 5, 5, "ref.go:357", #[⟨8, .data⟩], none⟩) (v := .int .u8 (y : Int)) (Or.inl ⟨by rfl, fun w' hSw => by go_simp⟩) hHeld ?_
        try simp only [zP, zQ, zS, zZ, zC]
        refine wt (i := 11) (oi := ⟨some 151, .indexAddr 29 (.tmp 150) (.tmp 145), 0, "ref.go:357", #[⟨10, .data⟩, ⟨5, .data⟩, ⟨0, .phase⟩, ⟨1, .phase⟩, ⟨2, .phase⟩, ⟨3, .phase⟩, ⟨4, .phase⟩, ⟨5, .phase⟩, ⟨6, .phase⟩, ⟨7, .phase⟩, ⟨8, .phase⟩, ⟨9, .phase⟩], none⟩) (v := .pointer (some ⟨g, j0 * 16 + r2, none⟩)) (Or.inl ⟨by rfl, fun w' hSw => by go_simp; try (intro hcm; exact absurd hcm (by omega))⟩) hHeld ?_
        try simp only [zP, zQ, zS, zZ, zC]
        refine wpAnyH_ready (rs := [12]) (by kernel_rfl) (by simp) ?_
        refine AllReadyH.cons (o := ⟨none, .store 5 (.tmp 151) (.tmp 149), 0, "ref.go:357", #[⟨11, .data⟩, ⟨9, .data⟩, ⟨5, .chain⟩, ⟨0, .phase⟩, ⟨1, .phase⟩, ⟨2, .phase⟩, ⟨3, .phase⟩, ⟨4, .phase⟩, ⟨5, .phase⟩, ⟨6, .phase⟩, ⟨7, .phase⟩, ⟨8, .phase⟩, ⟨9, .phase⟩], none⟩) rfl (fun K hK => ?_) AllReadyH.nil
        rw [if_pos (by rfl)]
        have hf0 := (row_put O2 (j0 * 16 + r2) (.int .u8 (y : Int))).2.2.2
        go_simp
        clear hc0 hf0
        obtain ⟨O2n, X, HB, _⟩ := row_put O2 (j0 * 16 + r2) (.int .u8 (y : Int))
        have CBw2 := HB _ _ (by omega) (by have := CBw.size; omega) CBw
        have Kt2 := X.blk Kt (by decide)
        have Krz2 := X.blk Krz (by decide)
        have O1n := X.row O1 (by decide)
        rw [(flat_set sd hd j0 r2 y d hd0 hr2).1] at O2n
        clear X HB
        clear Kt Krz CBw O1 O2
        have Kt := Kt2
        have Krz := Krz2
        have CBw := CBw2
        have O1 := O1n
        have O2 := O2n
        clear Kt2 Krz2 CBw2 O1n O2n
        generalize World.setCell V2 ⟨g, j0 * 16 + r2, none⟩ (.int .u8 (y : Int)) = V4 at Kt Krz O1 O2 CBw ⊢
        refine hK.out _ _ (Kt) (fun hHeld => ?_)
        clear hK K
        try simp only [zP, zQ, zS, zZ, zC]
        refine wpAnyH_done (by kernel_rfl) ?_ _
        clear hHeld
        go_wp2_with (first
          | (refine load_struct rfl 54 (.tmp 7) rfl Kt rfl Tryd.underlying54 (m := 4) (by kernel_rfl) rfl ?_)
          | (refine wpList_store_mid rfl 54 (.tmp 6) (.tmp 169) rfl (w.heap.size + 1) 0 #[.int .i64 F, .int .i64 S, .slice p1 n c1, .slice (some ⟨g, 0, none⟩) k c2] rfl rfl (by simpa using Krz.there 0 4 (by simp)) (by kernel_rfl) (all_oneCell_toArray (by intro v hv; simp at hv; rcases hv with rfl | rfl | rfl | rfl <;> rfl)) ?_))
        have Kq : Blk (V4.setCells (w.heap.size + 1) 0 [.int .i64 F, .int .i64 S, .slice p1 n c1, .slice (some ⟨g, 0, none⟩) k c2]) (w.heap.size + 1) 54 [.int .i64 F, .int .i64 S, .slice p1 n c1, .slice (some ⟨g, 0, none⟩) k c2] := Krz.all rfl
        have X := Oth.setCells Krz 0 [.int .i64 F, .int .i64 S, .slice p1 n c1, .slice (some ⟨g, 0, none⟩) k c2]
        have H := (only_sets (w.heap.size + 1) 0 V4 [.int .i64 F, .int .i64 S, .slice p1 n c1, .slice (some ⟨g, 0, none⟩) k c2]).2.2 _ _ (Nat.le_succ _) CBw
        have E1 := X.row O1 (by decide)
        have E2 := X.row O2 (by decide)
        try dsimp only
        generalize World.setCells V4 (w.heap.size + 1) 0 [.int .i64 F, .int .i64 S, .slice p1 n c1, .slice (some ⟨g, 0, none⟩) k c2] = VF at Kq H E1 E2 ⊢
        exact bodyPost_ret (v := .agg #[.int .i64 F, .int .i64 S, .slice p1 n c1, .slice (some ⟨g, 0, none⟩) k c2]) (Kq.resultS (p := 6) (ty := 54) rfl _ rfl Tryd.underlying54 (by kernel_rfl)) rfl (bent_end2 E1 E2 HN.out (by rw [List.length_set]; exact HK.out) (hz.mono (Nat.le_succ _)) (by omega) (by omega) (hd.set (dgt_set hdd r2 y hyb)) H)
      · go_upto_region 31 with (fail)
        clear k3
        go_wp2_with (first
          | (refine load_struct rfl 54 (.tmp 7) rfl Kt rfl Tryd.underlying54 (m := 4) (by kernel_rfl) rfl ?_)
          | (refine wpList_store_mid rfl 54 (.tmp 6) (.tmp 169) rfl (w.heap.size + 1) 0 #[.int .i64 F, .int .i64 S, .slice p1 n c1, .slice p2 k c2] rfl rfl (by simpa using Krz.there 0 4 (by simp)) (by kernel_rfl) (all_oneCell_toArray (by intro v hv; simp at hv; rcases hv with rfl | rfl | rfl | rfl <;> rfl)) ?_))
        have Kq : Blk (V1.setCells (w.heap.size + 1) 0 [.int .i64 F, .int .i64 S, .slice p1 n c1, .slice p2 k c2]) (w.heap.size + 1) 54 [.int .i64 F, .int .i64 S, .slice p1 n c1, .slice p2 k c2] := Krz.all rfl
        have X := Oth.setCells Krz 0 [.int .i64 F, .int .i64 S, .slice p1 n c1, .slice p2 k c2]
        have H := (only_sets (w.heap.size + 1) 0 V1 [.int .i64 F, .int .i64 S, .slice p1 n c1, .slice p2 k c2]).2.2 _ _ (Nat.le_succ _) CBw
        have E1 := X.row O1 (by decide)
        have E2 := X.row O2 (by decide)
        try dsimp only
        generalize World.setCells V1 (w.heap.size + 1) 0 [.int .i64 F, .int .i64 S, .slice p1 n c1, .slice p2 k c2] = VF at Kq H E1 E2 ⊢
        exact bodyPost_ret (v := .agg #[.int .i64 F, .int .i64 S, .slice p1 n c1, .slice p2 k c2]) (Kq.resultS (p := 6) (ty := 54) rfl _ rfl Tryd.underlying54 (by kernel_rfl)) rfl (bent_end2 E1 E2 HN.out HK.out (hz.mono (Nat.le_succ _)) (by omega) (by omega) hd H)
    · have k3 := Kt.cell (j := 3) rfl
      by_cases hn0 : 0 < k
      · obtain ⟨g, rfl, hgM, hgV, hnc, hcm⟩ := row_some O2 hn0
        have hi2 := hj1 hn0
        go_upto_region 30 with (fail)
        clear k3
        obtain ⟨i1, hi1e⟩ : ∃ m, j0 + 1 = m := ⟨_, rfl⟩
        have hi1i : (j0 : Int) + 1 = (i1 : Int) := by omega
        have hw1 : IntKind.i64.wrap (i1 : Int) = (i1 : Int) := by simp [IntKind.wrap, IntKind.signed, IntKind.bits]; omega
        obtain ⟨o', ho', ho2⟩ : ∃ o', (if c2 = i1 then some (⟨g, 0, none⟩ : Addr) else some ⟨g, i1 * 16, none⟩) = some ⟨g, o', none⟩ ∧ (c2 = j0 + 1 ∨ o' = (j0 + 1) * 16) := by
          by_cases h : c2 = i1
          · exact ⟨0, if_pos h, Or.inl (by omega)⟩
          · exact ⟨i1 * 16, if_neg h, Or.inr (by rw [hi1e])⟩
        refine wp_region_held_drew (S := fun _ => True) (by kernel_rfl) trivial (fun _ => ?_)
        have hHeld : True := trivial
        replace Kt := Kt.drew
        replace Krz := Krz.drew
        replace O1 := row_keep O1 (below_drew (Below.refl _ _))
        replace O2 := row_keep O2 (below_drew (Below.refl _ _))
        replace CBw := below_drew CBw
        generalize V1.drew = V2 at Kt Krz O1 O2 CBw ⊢
        refine wt (i := 0) (oi := ⟨some 158, .fieldAddr 54 (.tmp 7) 3, 0, "ref.go:361", #[], none⟩) (v := .pointer (some ⟨tp, 3, none⟩)) (Or.inl ⟨by rfl, fun w' hSw => by go_simp⟩) hHeld ?_
        try simp only [zP, zQ, zS, zZ, zC]
        refine wt (i := 2) (oi := ⟨some 160, .move (.tmp 9), 3, "ref.go:361", #[], none⟩) (v := .int .i64 (j0 : Int)) (Or.inl ⟨by rfl, fun w' hSw => by go_simp⟩) hHeld ?_
        try simp only [zP, zQ, zS, zZ, zC]
        refine wt (i := 4) (oi := ⟨some 162, .fieldAddr 54 (.tmp 7) 3, 0, "ref.go:361", #[], none⟩) (v := .pointer (some ⟨tp, 3, none⟩)) (Or.inl ⟨by rfl, fun w' hSw => by go_simp⟩) hHeld ?_
        try simp only [zP, zQ, zS, zZ, zC]
        refine wt (i := 6) (oi := ⟨some 164, .move (.tmp 9), 3, "ref.go:361", #[], none⟩) (v := .int .i64 (j0 : Int)) (Or.inl ⟨by rfl, fun w' hSw => by go_simp⟩) hHeld ?_
        try simp only [zP, zQ, zS, zZ, zC]
        refine wt (i := 7) (oi := ⟨some 165, .binOp .add 3 (.tmp 164) (.const (Value.int IntKind.i64 1)) 3, 3, "ref.go:361", #[⟨6, .data⟩], none⟩) (v := .int .i64 (i1 : Int)) (Or.inl ⟨by rfl, fun w' hSw => by go_simp⟩) hHeld ?_
        try simp only [zP, zQ, zS, zZ, zC]
        refine wpAnyH_ready (rs := [1, 5]) (by kernel_rfl) (by simp) ?_
        refine AllReadyH.cons (o := ⟨some 159, .load 48 (.tmp 158), 48, "ref.go:361", #[⟨0, .data⟩], none⟩) rfl (fun K hK => ?_) (AllReadyH.cons (o := ⟨some 163, .load 48 (.tmp 162), 48, "ref.go:361", #[⟨4, .data⟩], none⟩) rfl (fun K hK => ?_) AllReadyH.nil)
        · rw [if_pos (by rfl)]
          have hc0 := Kt.cell (j := 3) rfl
          go_simp
          clear hc0
          refine hK.out _ _ (trivial) (fun hHeld => ?_)
          clear hK K
          try simp only [zP, zQ, zS, zZ, zC]
          refine wt (i := 3) (oi := ⟨some 161, .slice 48 (.tmp 159) none (some (.tmp 160)) none, 48, "ref.go:361", #[⟨1, .data⟩, ⟨2, .data⟩], none⟩) (v := .slice (some ⟨g, 0, none⟩) j0 c2) (Or.inl ⟨by rfl, fun w' hSw => by go_simp; try (intro hcm; exact absurd hcm (by omega))⟩) hHeld ?_
          try simp only [zP, zQ, zS, zZ, zC]
          refine wpAnyH_ready (rs := [5]) (by kernel_rfl) (by simp) ?_
          refine AllReadyH.cons (o := ⟨some 163, .load 48 (.tmp 162), 48, "ref.go:361", #[⟨4, .data⟩], none⟩) rfl (fun K hK => ?_) AllReadyH.nil
          rw [if_pos (by rfl)]
          have hc0 := Kt.cell (j := 3) rfl
          go_simp
          clear hc0
          refine hK.out _ _ (trivial) (fun hHeld => ?_)
          clear hK K
          try simp only [zP, zQ, zS, zZ, zC]
          refine wt (i := 8) (oi := ⟨some 166, .slice 48 (.tmp 163) (some (.tmp 165)) none none, 48, "ref.go:361", #[⟨5, .data⟩, ⟨7, .data⟩], none⟩) (v := .slice (some ⟨g, o', none⟩) (k - i1) (c2 - i1)) (Or.inl ⟨by rfl, fun w' hSw => by go_simp; try (intro hcm; exact absurd hcm (by omega))⟩) hHeld ?_
          try simp only [zP, zQ, zS, zZ, zC]
          refine wpAnyH_ready (rs := [9]) (by kernel_rfl) (by simp) ?_
          refine AllReadyH.cons (o := ⟨some 167, .call { callee := .builtin .append, args := #[.tmp 161, .tmp 166], argTypes := #[48, 48] }, 48, "ref.go:361", #[⟨3, .data⟩, ⟨8, .data⟩], none⟩) rfl (fun K hK => ?_) AllReadyH.nil
          rw [if_pos (by rfl)]
          obtain ⟨ti, hti, hz0, hz1, hz2⟩ := info_parts diginfo
          refine cut_row (w := V2) (.tmp 161) (.tmp 166) 48 29 rfl ti zeroDig 16 16 Tryd.underlying48 hti hz0 hz1 hz2 rfl (by decide) (by decide) M g k c2 j0 o' _ rfl (by rw [hi1e]; rfl) O2 (bytes_one _) hi2 (by omega) hnc ho2 (by have := Kt.lt; omega) ?_
          intro p3 c3 V3 O3 X HB
          have CBw2 := HB _ _ (by omega) CBw
          have Kt2 := X.blk Kt (by decide)
          have Krz2 := X.blk Krz (by decide)
          rw [flat_cut sd hd] at O3
          have O1n := X.row O1 (by decide)
          have O2n := O3
          clear X HB O3
          clear Kt Krz CBw O1 O2
          have Kt := Kt2
          have Krz := Krz2
          have CBw := CBw2
          have O1 := O1n
          have O2 := O2n
          clear Kt2 Krz2 CBw2 O1n O2n
          refine hK.out _ _ (trivial) (fun hHeld => ?_)
          clear hK K
          try simp only [zP, zQ, zS, zZ, zC]
          refine wt (i := 10) (oi := ⟨some 168, .fieldAddr 54 (.tmp 7) 3, 0, "ref.go:361", #[⟨0, .phase⟩, ⟨1, .phase⟩, ⟨2, .phase⟩, ⟨3, .phase⟩, ⟨4, .phase⟩, ⟨5, .phase⟩, ⟨6, .phase⟩, ⟨7, .phase⟩, ⟨8, .phase⟩, ⟨9, .phase⟩], none⟩) (v := .pointer (some ⟨tp, 3, none⟩)) (Or.inl ⟨by rfl, fun w' hSw => by go_simp⟩) hHeld ?_
          try simp only [zP, zQ, zS, zZ, zC]
          refine wpAnyH_ready (rs := [11]) (by kernel_rfl) (by simp) ?_
          refine AllReadyH.cons (o := ⟨none, .store 48 (.tmp 168) (.tmp 167), 0, "ref.go:361", #[⟨10, .data⟩, ⟨9, .data⟩, ⟨9, .chain⟩, ⟨0, .phase⟩, ⟨1, .phase⟩, ⟨2, .phase⟩, ⟨3, .phase⟩, ⟨4, .phase⟩, ⟨5, .phase⟩, ⟨6, .phase⟩, ⟨7, .phase⟩, ⟨8, .phase⟩, ⟨9, .phase⟩], none⟩) rfl (fun K hK => ?_) AllReadyH.nil
          rw [if_pos (by rfl)]
          have hc0 := Kt.cell (j := 3) rfl
          have hf0 := Kt.free 3
          go_simp
          clear hc0 hf0
          obtain ⟨Kt2, X, HB⟩ := put1 (j := 3) Kt (.slice p3 (k - 1) c3)
          have CBw2 := HB _ _ (by omega) CBw
          have Krz2 := Krz.other (a := ⟨tp, 3, none⟩) (by show w.heap.size + 1 ≠ tp; omega) (.slice p3 (k - 1) c3)
          replace O1 := X.row O1 (by decide)
          replace O2 := X.row O2 (by decide)
          simp only [List.set_cons_zero, List.set_cons_succ] at Kt2
          clear X HB Kt Krz CBw
          have Kt := Kt2
          have Krz := Krz2
          have CBw := CBw2
          clear Kt2 Krz2 CBw2
          generalize World.setCell V3 ⟨tp, 3, none⟩ (.slice p3 (k - 1) c3) = V4 at Kt Krz O1 O2 CBw ⊢
          refine hK.out _ _ (trivial) (fun hHeld => ?_)
          clear hK K
          try simp only [zP, zQ, zS, zZ, zC]
          refine wpAnyH_done (by kernel_rfl) ?_ _
          clear hHeld
          go_wp2_with (first
            | (refine load_struct rfl 54 (.tmp 7) rfl Kt rfl Tryd.underlying54 (m := 4) (by kernel_rfl) rfl ?_)
            | (refine wpList_store_mid rfl 54 (.tmp 6) (.tmp 169) rfl (w.heap.size + 1) 0 #[.int .i64 F, .int .i64 S, .slice p1 n c1, .slice p3 (k - 1) c3] rfl rfl (by simpa using Krz.there 0 4 (by simp)) (by kernel_rfl) (all_oneCell_toArray (by intro v hv; simp at hv; rcases hv with rfl | rfl | rfl | rfl <;> rfl)) ?_))
          have Kq : Blk (V4.setCells (w.heap.size + 1) 0 [.int .i64 F, .int .i64 S, .slice p1 n c1, .slice p3 (k - 1) c3]) (w.heap.size + 1) 54 [.int .i64 F, .int .i64 S, .slice p1 n c1, .slice p3 (k - 1) c3] := Krz.all rfl
          have X := Oth.setCells Krz 0 [.int .i64 F, .int .i64 S, .slice p1 n c1, .slice p3 (k - 1) c3]
          have H := (only_sets (w.heap.size + 1) 0 V4 [.int .i64 F, .int .i64 S, .slice p1 n c1, .slice p3 (k - 1) c3]).2.2 _ _ (Nat.le_succ _) CBw
          have E1 := X.row O1 (by decide)
          have E2 := X.row O2 (by decide)
          try dsimp only
          generalize World.setCells V4 (w.heap.size + 1) 0 [.int .i64 F, .int .i64 S, .slice p1 n c1, .slice p3 (k - 1) c3] = VF at Kq H E1 E2 ⊢
          exact bodyPost_ret (v := .agg #[.int .i64 F, .int .i64 S, .slice p1 n c1, .slice p3 (k - 1) c3]) (Kq.resultS (p := 6) (ty := 54) rfl _ rfl Tryd.underlying54 (by kernel_rfl)) rfl (bent_end2 E1 E2 HN.out (by rw [List.length_eraseIdx_of_lt (by have := HK.out; omega), HK.out]) (hz.mono (Nat.le_succ _)) (by omega) (by omega) (hd.erase j0) H)
        · rw [if_pos (by rfl)]
          have hc0 := Kt.cell (j := 3) rfl
          go_simp
          clear hc0
          refine hK.out _ _ (trivial) (fun hHeld => ?_)
          clear hK K
          try simp only [zP, zQ, zS, zZ, zC]
          refine wt (i := 8) (oi := ⟨some 166, .slice 48 (.tmp 163) (some (.tmp 165)) none none, 48, "ref.go:361", #[⟨5, .data⟩, ⟨7, .data⟩], none⟩) (v := .slice (some ⟨g, o', none⟩) (k - i1) (c2 - i1)) (Or.inl ⟨by rfl, fun w' hSw => by go_simp; try (intro hcm; exact absurd hcm (by omega))⟩) hHeld ?_
          try simp only [zP, zQ, zS, zZ, zC]
          refine wpAnyH_ready (rs := [1]) (by kernel_rfl) (by simp) ?_
          refine AllReadyH.cons (o := ⟨some 159, .load 48 (.tmp 158), 48, "ref.go:361", #[⟨0, .data⟩], none⟩) rfl (fun K hK => ?_) AllReadyH.nil
          rw [if_pos (by rfl)]
          have hc0 := Kt.cell (j := 3) rfl
          go_simp
          clear hc0
          refine hK.out _ _ (trivial) (fun hHeld => ?_)
          clear hK K
          try simp only [zP, zQ, zS, zZ, zC]
          refine wt (i := 3) (oi := ⟨some 161, .slice 48 (.tmp 159) none (some (.tmp 160)) none, 48, "ref.go:361", #[⟨1, .data⟩, ⟨2, .data⟩], none⟩) (v := .slice (some ⟨g, 0, none⟩) j0 c2) (Or.inl ⟨by rfl, fun w' hSw => by go_simp; try (intro hcm; exact absurd hcm (by omega))⟩) hHeld ?_
          try simp only [zP, zQ, zS, zZ, zC]
          refine wpAnyH_ready (rs := [9]) (by kernel_rfl) (by simp) ?_
          refine AllReadyH.cons (o := ⟨some 167, .call { callee := .builtin .append, args := #[.tmp 161, .tmp 166], argTypes := #[48, 48] }, 48, "ref.go:361", #[⟨3, .data⟩, ⟨8, .data⟩], none⟩) rfl (fun K hK => ?_) AllReadyH.nil
          rw [if_pos (by rfl)]
          obtain ⟨ti, hti, hz0, hz1, hz2⟩ := info_parts diginfo
          refine cut_row (w := V2) (.tmp 161) (.tmp 166) 48 29 rfl ti zeroDig 16 16 Tryd.underlying48 hti hz0 hz1 hz2 rfl (by decide) (by decide) M g k c2 j0 o' _ rfl (by rw [hi1e]; rfl) O2 (bytes_one _) hi2 (by omega) hnc ho2 (by have := Kt.lt; omega) ?_
          intro p3 c3 V3 O3 X HB
          have CBw2 := HB _ _ (by omega) CBw
          have Kt2 := X.blk Kt (by decide)
          have Krz2 := X.blk Krz (by decide)
          rw [flat_cut sd hd] at O3
          have O1n := X.row O1 (by decide)
          have O2n := O3
          clear X HB O3
          clear Kt Krz CBw O1 O2
          have Kt := Kt2
          have Krz := Krz2
          have CBw := CBw2
          have O1 := O1n
          have O2 := O2n
          clear Kt2 Krz2 CBw2 O1n O2n
          refine hK.out _ _ (trivial) (fun hHeld => ?_)
          clear hK K
          try simp only [zP, zQ, zS, zZ, zC]
          refine wt (i := 10) (oi := ⟨some 168, .fieldAddr 54 (.tmp 7) 3, 0, "ref.go:361", #[⟨0, .phase⟩, ⟨1, .phase⟩, ⟨2, .phase⟩, ⟨3, .phase⟩, ⟨4, .phase⟩, ⟨5, .phase⟩, ⟨6, .phase⟩, ⟨7, .phase⟩, ⟨8, .phase⟩, ⟨9, .phase⟩], none⟩) (v := .pointer (some ⟨tp, 3, none⟩)) (Or.inl ⟨by rfl, fun w' hSw => by go_simp⟩) hHeld ?_
          try simp only [zP, zQ, zS, zZ, zC]
          refine wpAnyH_ready (rs := [11]) (by kernel_rfl) (by simp) ?_
          refine AllReadyH.cons (o := ⟨none, .store 48 (.tmp 168) (.tmp 167), 0, "ref.go:361", #[⟨10, .data⟩, ⟨9, .data⟩, ⟨9, .chain⟩, ⟨0, .phase⟩, ⟨1, .phase⟩, ⟨2, .phase⟩, ⟨3, .phase⟩, ⟨4, .phase⟩, ⟨5, .phase⟩, ⟨6, .phase⟩, ⟨7, .phase⟩, ⟨8, .phase⟩, ⟨9, .phase⟩], none⟩) rfl (fun K hK => ?_) AllReadyH.nil
          rw [if_pos (by rfl)]
          have hc0 := Kt.cell (j := 3) rfl
          have hf0 := Kt.free 3
          go_simp
          clear hc0 hf0
          obtain ⟨Kt2, X, HB⟩ := put1 (j := 3) Kt (.slice p3 (k - 1) c3)
          have CBw2 := HB _ _ (by omega) CBw
          have Krz2 := Krz.other (a := ⟨tp, 3, none⟩) (by show w.heap.size + 1 ≠ tp; omega) (.slice p3 (k - 1) c3)
          replace O1 := X.row O1 (by decide)
          replace O2 := X.row O2 (by decide)
          simp only [List.set_cons_zero, List.set_cons_succ] at Kt2
          clear X HB Kt Krz CBw
          have Kt := Kt2
          have Krz := Krz2
          have CBw := CBw2
          clear Kt2 Krz2 CBw2
          generalize World.setCell V3 ⟨tp, 3, none⟩ (.slice p3 (k - 1) c3) = V4 at Kt Krz O1 O2 CBw ⊢
          refine hK.out _ _ (trivial) (fun hHeld => ?_)
          clear hK K
          try simp only [zP, zQ, zS, zZ, zC]
          refine wpAnyH_done (by kernel_rfl) ?_ _
          clear hHeld
          go_wp2_with (first
            | (refine load_struct rfl 54 (.tmp 7) rfl Kt rfl Tryd.underlying54 (m := 4) (by kernel_rfl) rfl ?_)
            | (refine wpList_store_mid rfl 54 (.tmp 6) (.tmp 169) rfl (w.heap.size + 1) 0 #[.int .i64 F, .int .i64 S, .slice p1 n c1, .slice p3 (k - 1) c3] rfl rfl (by simpa using Krz.there 0 4 (by simp)) (by kernel_rfl) (all_oneCell_toArray (by intro v hv; simp at hv; rcases hv with rfl | rfl | rfl | rfl <;> rfl)) ?_))
          have Kq : Blk (V4.setCells (w.heap.size + 1) 0 [.int .i64 F, .int .i64 S, .slice p1 n c1, .slice p3 (k - 1) c3]) (w.heap.size + 1) 54 [.int .i64 F, .int .i64 S, .slice p1 n c1, .slice p3 (k - 1) c3] := Krz.all rfl
          have X := Oth.setCells Krz 0 [.int .i64 F, .int .i64 S, .slice p1 n c1, .slice p3 (k - 1) c3]
          have H := (only_sets (w.heap.size + 1) 0 V4 [.int .i64 F, .int .i64 S, .slice p1 n c1, .slice p3 (k - 1) c3]).2.2 _ _ (Nat.le_succ _) CBw
          have E1 := X.row O1 (by decide)
          have E2 := X.row O2 (by decide)
          try dsimp only
          generalize World.setCells V4 (w.heap.size + 1) 0 [.int .i64 F, .int .i64 S, .slice p1 n c1, .slice p3 (k - 1) c3] = VF at Kq H E1 E2 ⊢
          exact bodyPost_ret (v := .agg #[.int .i64 F, .int .i64 S, .slice p1 n c1, .slice p3 (k - 1) c3]) (Kq.resultS (p := 6) (ty := 54) rfl _ rfl Tryd.underlying54 (by kernel_rfl)) rfl (bent_end2 E1 E2 HN.out (by rw [List.length_eraseIdx_of_lt (by have := HK.out; omega), HK.out]) (hz.mono (Nat.le_succ _)) (by omega) (by omega) (hd.erase j0) H)
      · go_upto_region 31 with (fail)
        clear k3
        go_wp2_with (first
          | (refine load_struct rfl 54 (.tmp 7) rfl Kt rfl Tryd.underlying54 (m := 4) (by kernel_rfl) rfl ?_)
          | (refine wpList_store_mid rfl 54 (.tmp 6) (.tmp 169) rfl (w.heap.size + 1) 0 #[.int .i64 F, .int .i64 S, .slice p1 n c1, .slice p2 k c2] rfl rfl (by simpa using Krz.there 0 4 (by simp)) (by kernel_rfl) (all_oneCell_toArray (by intro v hv; simp at hv; rcases hv with rfl | rfl | rfl | rfl <;> rfl)) ?_))
        have Kq : Blk (V1.setCells (w.heap.size + 1) 0 [.int .i64 F, .int .i64 S, .slice p1 n c1, .slice p2 k c2]) (w.heap.size + 1) 54 [.int .i64 F, .int .i64 S, .slice p1 n c1, .slice p2 k c2] := Krz.all rfl
        have X := Oth.setCells Krz 0 [.int .i64 F, .int .i64 S, .slice p1 n c1, .slice p2 k c2]
        have H := (only_sets (w.heap.size + 1) 0 V1 [.int .i64 F, .int .i64 S, .slice p1 n c1, .slice p2 k c2]).2.2 _ _ (Nat.le_succ _) CBw
        have E1 := X.row O1 (by decide)
        have E2 := X.row O2 (by decide)
        try dsimp only
        generalize World.setCells V1 (w.heap.size + 1) 0 [.int .i64 F, .int .i64 S, .slice p1 n c1, .slice p2 k c2] = VF at Kq H E1 E2 ⊢
        exact bodyPost_ret (v := .agg #[.int .i64 F, .int .i64 S, .slice p1 n c1, .slice p2 k c2]) (Kq.resultS (p := 6) (ty := 54) rfl _ rfl Tryd.underlying54 (by kernel_rfl)) rfl (bent_end2 E1 E2 HN.out HK.out (hz.mono (Nat.le_succ _)) (by omega) (by omega) hd H)
    · have k3 := Kt.cell (j := 3) rfl
      obtain ⟨ti, hti, hz0, hz1, hz2⟩ := info_parts diginfo
      have hfl : (bytesV d1).length = 1 * 16 := rfl
      obtain ⟨XA, Kb⟩ := dig1 V1
      go_upto_region 31 with (at_builtin; go_loud (have CBw2 := link CBw XA; have Kt2 := Kt.keep XA; have Krz2 := Krz.keep XA; have O1n := row_keep O1 XA; have O2n := row_keep O2 XA; refine wpList_append_own _ rfl (.tmp 38) (.tmp 40) 48 rfl M 29 ti zeroDig 16 16 Tryd.underlying48 hti hz0 hz1 hz2 rfl (by decide) (.slice p2 k c2) k (bytesV sd.flatten) rfl O2n ⟨V1.heap.size, 0, none⟩ 1 1 (bytesV d1) rfl hfl (fun j u hj => by rw [Addr.add_mid, Nat.zero_add]; exact Kb.cell hj) (bytes_one _) (by unfold maxLen; omega) (by omega) (by have := Kt2.lt; omega) ?_; intro v3 VA O3 hgr _; have hc0 := ((Oth.own O2n hgr).blk Kt2 (by decide)).cell (j := 3) rfl; have hf0 := ((Oth.own O2n hgr).blk Kt2 (by decide)).free 3; obtain ⟨p3, c3, rfl⟩ := row_form O3))
      have X := Oth.own O2n hgr
      have CBw3 := CBw2.grown hgr (by have := CBw2.size; omega) (fun j e => by have h2 := (World.ownsRow.lt O2n j e).1; omega)
      have Kt3 := X.blk Kt2 (by decide)
      have Krz3 := X.blk Krz2 (by decide)
      have O1m := X.row O1n (by decide)
      have ef : bytesV sd.flatten ++ bytesV d1 = bytesV (sd ++ [d1]).flatten := by unfold bytesV; rw [List.flatten_append, List.map_append]; simp
      rw [ef] at O3
      clear X hgr hc0 hf0 O1 O2 Kt Krz CBw O1n O2n Kt2 Krz2 CBw2 XA Kb
      have O2 := O3
      have O1 := O1m
      have Kt := Kt3
      have Krz := Krz3
      have CBw := CBw3
      clear O3 O1m Kt3 Krz3 CBw3
      obtain ⟨Kt2, X, HB⟩ := put1 (j := 3) Kt (.slice p3 (k + 1) c3)
      have CBw2 := HB _ _ (by omega) CBw
      have Krz2 := Krz.other (a := ⟨tp, 3, none⟩) (by show w.heap.size + 1 ≠ tp; omega) (.slice p3 (k + 1) c3)
      replace O1 := X.row O1 (by decide)
      replace O2 := X.row O2 (by decide)
      simp only [List.set_cons_zero, List.set_cons_succ] at Kt2
      clear X HB Kt Krz CBw
      have Kt := Kt2
      have Krz := Krz2
      have CBw := CBw2
      clear Kt2 Krz2 CBw2
      generalize World.setCell VA ⟨tp, 3, none⟩ (.slice p3 (k + 1) c3) = VB at Kt Krz O1 O2 CBw ⊢
      go_wp2_with (first
        | (refine load_struct rfl 54 (.tmp 7) rfl Kt rfl Tryd.underlying54 (m := 4) (by kernel_rfl) rfl ?_)
        | (refine wpList_store_mid rfl 54 (.tmp 6) (.tmp 169) rfl (w.heap.size + 1) 0 #[.int .i64 F, .int .i64 S, .slice p1 n c1, .slice p3 (k + 1) c3] rfl rfl (by simpa using Krz.there 0 4 (by simp)) (by kernel_rfl) (all_oneCell_toArray (by intro v hv; simp at hv; rcases hv with rfl | rfl | rfl | rfl <;> rfl)) ?_))
      have Kq : Blk (VB.setCells (w.heap.size + 1) 0 [.int .i64 F, .int .i64 S, .slice p1 n c1, .slice p3 (k + 1) c3]) (w.heap.size + 1) 54 [.int .i64 F, .int .i64 S, .slice p1 n c1, .slice p3 (k + 1) c3] := Krz.all rfl
      have X := Oth.setCells Krz 0 [.int .i64 F, .int .i64 S, .slice p1 n c1, .slice p3 (k + 1) c3]
      have H := (only_sets (w.heap.size + 1) 0 VB [.int .i64 F, .int .i64 S, .slice p1 n c1, .slice p3 (k + 1) c3]).2.2 _ _ (Nat.le_succ _) CBw
      have E1 := X.row O1 (by decide)
      have E2 := X.row O2 (by decide)
      try dsimp only
      generalize World.setCells VB (w.heap.size + 1) 0 [.int .i64 F, .int .i64 S, .slice p1 n c1, .slice p3 (k + 1) c3] = VF at Kq H E1 E2 ⊢
      exact bodyPost_ret (v := .agg #[.int .i64 F, .int .i64 S, .slice p1 n c1, .slice p3 (k + 1) c3]) (Kq.resultS (p := 6) (ty := 54) rfl _ rfl Tryd.underlying54 (by kernel_rfl)) rfl (bent_end2 E1 E2 HN.out (by rw [List.length_append, HK.out]; rfl) (hz.mono (Nat.le_succ _)) (by omega) (by omega) (hd.snoc d1_dgt) H)

end Go.Proofs.YtfhfmdnimebegaaDoor
