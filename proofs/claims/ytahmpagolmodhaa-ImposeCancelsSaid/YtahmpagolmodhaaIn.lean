/-
  Volume of the reference: some numbers.
-/
import Derived.Test.YtahmpagolmodhaaIl
namespace Go.Proofs.Ytahmpagolmodhaa
open Go.RowKit
set_option linter.unusedVariables false
set_option linter.unusedSimpArgs false

theorem vol_at (r : Nat) (hr : r < 14) : ∃ x : Int, ([.int .i64 2, .int .i64 4, .int .i64 8, .int .i64 16, .int .i64 6, .int .i64 12, .int .i64 4, .int .i64 2, .int .i64 8, .int .i64 10, .int .i64 0, .int .i64 3, .int .i64 18, .int .i64 (-2)] : List Value)[r]? = some (.int .i64 x) ∧ -2 ≤ x ∧ x ≤ 18 := by
  match r, hr with
  | 0, _ => exact ⟨2, rfl, by omega, by omega⟩
  | 1, _ => exact ⟨4, rfl, by omega, by omega⟩
  | 2, _ => exact ⟨8, rfl, by omega, by omega⟩
  | 3, _ => exact ⟨16, rfl, by omega, by omega⟩
  | 4, _ => exact ⟨6, rfl, by omega, by omega⟩
  | 5, _ => exact ⟨12, rfl, by omega, by omega⟩
  | 6, _ => exact ⟨4, rfl, by omega, by omega⟩
  | 7, _ => exact ⟨2, rfl, by omega, by omega⟩
  | 8, _ => exact ⟨8, rfl, by omega, by omega⟩
  | 9, _ => exact ⟨10, rfl, by omega, by omega⟩
  | 10, _ => exact ⟨0, rfl, by omega, by omega⟩
  | 11, _ => exact ⟨3, rfl, by omega, by omega⟩
  | 12, _ => exact ⟨18, rfl, by omega, by omega⟩
  | 13, _ => exact ⟨-2, rfl, by omega, by omega⟩
  | n + 14, h => omega
/-- A volume that is right: its numbers. -/
theorem vol_ok {p l : Int} (h : volE p l = 0) : ∃ P H : Nat, p = (P : Int) ∧ l = ((2 * H : Nat) : Int) ∧ P ≤ 999 ∧ 1 ≤ H ∧ H ≤ 8 := by
  unfold volE at h
  split at h
  · cases h
  · split at h
    · cases h
    · exact ⟨p.toNat, (l / 2).toNat, by omega, by omega, by omega, by omega, by omega⟩
def VolR (w : World) (e : Ending) (w' : World) : Prop := ∃ p l : Int, e = .returned (.tuple #[.int .i64 p, .int .i64 l]) ∧ -1 ≤ p ∧ p ≤ 1000 ∧ -2 ≤ l ∧ l ≤ 18 ∧ Below w.heap.size w w'
set_option maxHeartbeats 4000000 in
set_option maxRecDepth 100000 in
theorem arnd (n : Int) (h1 : -9223372036854775808 ≤ n) (h2 : n ≤ 9223372036854775807) (k : Nat) (hk : 0 < k) (hk2 : k ≤ 1000000) (w : World) :
    Calls Try.prog 25 #[.int .i64 n, .int .i64 (k : Int)] w fun e w' => ∃ r : Nat, r < k ∧ e = .returned (.int .i64 (r : Int)) ∧ w = w' :=
  (around_any n h1 h2 k hk hk2 w).mono fun e w' h => by obtain ⟨r, hr, he, hw⟩ := h; exact ⟨r, hr, he, hw.symm⟩
set_option maxHeartbeats 4000000 in
set_option maxRecDepth 100000 in
theorem volume_any (n m : Int) (h1 : -9223372036854775808 ≤ n) (h2 : n ≤ 9223372036854775807) (h3 : -9223372036854775808 ≤ m) (h4 : m ≤ 9223372036854775807) (w : World) :
    Calls Try.prog 9 #[.int .i64 n, .int .i64 m] w (VolR w) := by
  have AN := Lib.hid (arnd n h1 h2 140 (by omega) (by omega))
  have AR := Lib.hid (arnd m h3 h4 14 (by omega) (by omega))
  clear h1 h2 h3 h4
  go_enter Try.func9, Try.ntmps9
  go_upto_region 2 with (go_at_call 25; refine (AN.out _).mono ?_; rintro _ w9 ⟨k, hk, rfl, rfl⟩)
  clear AN
  by_cases hs : k ≤ 135
  · have hsz : ¬ (135 : Int) < (k : Int) := by omega
    go_upto_region 4 with (fail)
    obtain ⟨P, hP⟩ : ∃ P : Int, (k : Int) = P := ⟨_, rfl⟩
    rw [hP]
    have hP1 : -1 ≤ P := by omega
    have hP2 : P ≤ 1000 := by omega
    clear hP hsz hs hk
    refine wp_region_held_drew (S := fun w' => Below w.heap.size w w') (by kernel_rfl) (below_drew (Below.refl _ _)) (fun _ => ?_)
    have hHeld : Below w.heap.size w w.drew := below_drew (Below.refl _ _)
    generalize w.drew = V0 at hHeld ⊢
    refine wt (i := 0) (oi := ⟨some 16, .move (.tmp 6), 3, "ref.go:196", #[], none⟩) (v := .int .i64 P) (Or.inl ⟨by rfl, fun w' hSw => by go_simp⟩) hHeld ?_
    try simp only [zP, zQ, zS, zZ, zC]
    refine wt (i := 2) (oi := ⟨some 18, .move (.tmp 1), 3, "ref.go:196", #[], none⟩) (v := .int .i64 m) (Or.inl ⟨by rfl, fun w' hSw => by go_simp⟩) hHeld ?_
    try simp only [zP, zQ, zS, zZ, zC]
    have hz0 : w.heap.size ≤ V0.heap.size := hHeld.size
    refine wpAnyH_ready (rs := [1, 3]) (by kernel_rfl) (by simp) ?_
    refine AllReadyH.cons (o := ⟨some 17, .buildSlice 44 14 #[(0, .const (Value.int IntKind.i64 2)), (1, .const (Value.int IntKind.i64 4)), (2, .const (Value.int IntKind.i64 8)), (3, .const (Value.int IntKind.i64 16)), (4, .const (Value.int IntKind.i64 6)), (5, .const (Value.int IntKind.i64 12)), (6, .const (Value.int IntKind.i64 4)), (7, .const (Value.int IntKind.i64 2)), (8, .const (Value.int IntKind.i64 8)), (9, .const (Value.int IntKind.i64 10)), (10, .const (Value.int IntKind.i64 0)), (11, .const (Value.int IntKind.i64 3)), (12, .const (Value.int IntKind.i64 18)), (13, .const (Value.int IntKind.i64 (-2)))], 44, "ref.go:196", #[{ on := 6, ground := Ground.gcOnly Departure.lateStores }], none⟩) rfl (fun K hK => ?_) (AllReadyH.cons (o := ⟨some 19, .call { callee := .value (.func 25), args := #[.tmp 18, .const (Value.int IntKind.i64 14)], argTypes := #[3, 3] }, 3, "ref.go:196", #[⟨2, .data⟩], none⟩) rfl (fun K hK => ?_) AllReadyH.nil)
    · skip
      try rw [if_pos (by rfl)]
      go_simp
      have Kb := blk_new V0 3 ([.int .i64 2, .int .i64 4, .int .i64 8, .int .i64 16, .int .i64 6, .int .i64 12, .int .i64 4, .int .i64 2, .int .i64 8, .int .i64 10, .int .i64 0, .int .i64 3, .int .i64 18, .int .i64 (-2)] : List Value).toArray
      refine hK.out _ _ (hHeld.alloc hz0 _) (fun hHeld => ?_)
      clear hK K
      try simp only [zP, zQ, zS, zZ, zC]
      refine wpAnyH_ready (rs := [3]) (by kernel_rfl) (by simp) ?_
      refine AllReadyH.cons (o := ⟨some 19, .call { callee := .value (.func 25), args := #[.tmp 18, .const (Value.int IntKind.i64 14)], argTypes := #[3, 3] }, 3, "ref.go:196", #[⟨2, .data⟩], none⟩) rfl (fun K hK => ?_) AllReadyH.nil
      try rw [if_pos (by rfl)]
      go_simp
      refine (AR.out _).mono ?_
      rintro _ w9 ⟨r, hr, rfl, rfl⟩
      refine hK.out _ _ (hHeld) (fun hHeld => ?_)
      clear hK K
      try simp only [zP, zQ, zS, zZ, zC]
      refine wt (i := 4) (oi := ⟨some 20, .indexAddr 44 (.tmp 17) (.tmp 19), 0, "ref.go:196", #[⟨1, .data⟩, ⟨3, .data⟩, { on := 6, ground := Ground.gcOnly Departure.lateStores }], none⟩) (v := .pointer (some ⟨V0.heap.size, r, none⟩)) (Or.inl ⟨by rfl, fun w' hSw => by go_simp; try (intro hcm; exact absurd hcm (by omega))⟩) hHeld ?_
      try simp only [zP, zQ, zS, zZ, zC]
      refine wpAnyH_ready (rs := [5, 6]) (by kernel_rfl) (by simp) ?_
      refine AllReadyH.cons (o := ⟨some 21, .load 3 (.tmp 20), 3, "ref.go:196", #[⟨4, .data⟩, { on := 6, ground := Ground.gcOnly Departure.lateStores }], none⟩) rfl (fun K hK => ?_) (AllReadyH.cons (o := ⟨some 4, .assign (.tmp 16), 3, "ref.go:196", #[⟨0, .data⟩, ⟨3, .chain⟩, ⟨0, .phase⟩, { on := 1, ground := Ground.textOnly Departure.lateStores }, { on := 2, ground := Ground.textOnly Departure.lateStores }, { on := 3, ground := Ground.textOnly Departure.lateStoresUnsure }, { on := 4, ground := Ground.textOnly Departure.lateStores }, { on := 5, ground := Ground.textOnly Departure.lateStores }], none⟩) rfl (fun K hK => ?_) AllReadyH.nil)
      · skip
        try rw [if_pos (by rfl)]
        obtain ⟨x, hx, hx1, hx2⟩ := vol_at r hr
        have hcx := Kb.cell (j := r) hx
        go_simp
        refine hK.out _ _ (hHeld) (fun hHeld => ?_)
        clear hK K
        try simp only [zP, zQ, zS, zZ, zC]
        refine wpAnyH_ready (rs := [6]) (by kernel_rfl) (by simp) ?_
        refine AllReadyH.cons (o := ⟨some 4, .assign (.tmp 16), 3, "ref.go:196", #[⟨0, .data⟩, ⟨3, .chain⟩, ⟨0, .phase⟩, { on := 1, ground := Ground.textOnly Departure.lateStores }, { on := 2, ground := Ground.textOnly Departure.lateStores }, { on := 3, ground := Ground.textOnly Departure.lateStoresUnsure }, { on := 4, ground := Ground.textOnly Departure.lateStores }, { on := 5, ground := Ground.textOnly Departure.lateStores }], none⟩) rfl (fun K hK => ?_) AllReadyH.nil
        try rw [if_pos (by rfl)]
        go_simp
        refine hK.out _ _ (hHeld) (fun hHeld => ?_)
        clear hK K
        try simp only [zP, zQ, zS, zZ, zC]
        refine wpAnyH_ready (rs := [7]) (by kernel_rfl) (by simp) ?_
        refine AllReadyH.cons (o := ⟨some 5, .assign (.tmp 21), 3, "ref.go:196", #[⟨5, .data⟩, ⟨6, .chain⟩, ⟨0, .phase⟩, ⟨1, .phase⟩, ⟨2, .phase⟩, ⟨3, .phase⟩, ⟨4, .phase⟩, ⟨5, .phase⟩, ⟨6, .phase⟩], none⟩) rfl (fun K hK => ?_) AllReadyH.nil
        try rw [if_pos (by rfl)]
        go_simp
        refine hK.out _ _ (hHeld) (fun hHeld => ?_)
        clear hK K
        try simp only [zP, zQ, zS, zZ, zC]
        refine wpAnyH_done (by kernel_rfl) ?_ _
        have BX := hHeld
        clear hHeld 
        go_wp2
        go_ret2
        exact ⟨P, x, rfl, hP1, hP2, hx1, hx2, BX⟩
      · skip
        try rw [if_pos (by rfl)]
        go_simp
        refine hK.out _ _ (hHeld) (fun hHeld => ?_)
        clear hK K
        try simp only [zP, zQ, zS, zZ, zC]
        refine wpAnyH_ready (rs := [5]) (by kernel_rfl) (by simp) ?_
        refine AllReadyH.cons (o := ⟨some 21, .load 3 (.tmp 20), 3, "ref.go:196", #[⟨4, .data⟩, { on := 6, ground := Ground.gcOnly Departure.lateStores }], none⟩) rfl (fun K hK => ?_) AllReadyH.nil
        try rw [if_pos (by rfl)]
        obtain ⟨x, hx, hx1, hx2⟩ := vol_at r hr
        have hcx := Kb.cell (j := r) hx
        go_simp
        refine hK.out _ _ (hHeld) (fun hHeld => ?_)
        clear hK K
        try simp only [zP, zQ, zS, zZ, zC]
        refine wpAnyH_ready (rs := [7]) (by kernel_rfl) (by simp) ?_
        refine AllReadyH.cons (o := ⟨some 5, .assign (.tmp 21), 3, "ref.go:196", #[⟨5, .data⟩, ⟨6, .chain⟩, ⟨0, .phase⟩, ⟨1, .phase⟩, ⟨2, .phase⟩, ⟨3, .phase⟩, ⟨4, .phase⟩, ⟨5, .phase⟩, ⟨6, .phase⟩], none⟩) rfl (fun K hK => ?_) AllReadyH.nil
        try rw [if_pos (by rfl)]
        go_simp
        refine hK.out _ _ (hHeld) (fun hHeld => ?_)
        clear hK K
        try simp only [zP, zQ, zS, zZ, zC]
        refine wpAnyH_done (by kernel_rfl) ?_ _
        have BX := hHeld
        clear hHeld 
        go_wp2
        go_ret2
        exact ⟨P, x, rfl, hP1, hP2, hx1, hx2, BX⟩
    · skip
      try rw [if_pos (by rfl)]
      go_simp
      refine (AR.out _).mono ?_
      rintro _ w9 ⟨r, hr, rfl, rfl⟩
      refine hK.out _ _ (hHeld) (fun hHeld => ?_)
      clear hK K
      try simp only [zP, zQ, zS, zZ, zC]
      refine wpAnyH_ready (rs := [1, 6]) (by kernel_rfl) (by simp) ?_
      refine AllReadyH.cons (o := ⟨some 17, .buildSlice 44 14 #[(0, .const (Value.int IntKind.i64 2)), (1, .const (Value.int IntKind.i64 4)), (2, .const (Value.int IntKind.i64 8)), (3, .const (Value.int IntKind.i64 16)), (4, .const (Value.int IntKind.i64 6)), (5, .const (Value.int IntKind.i64 12)), (6, .const (Value.int IntKind.i64 4)), (7, .const (Value.int IntKind.i64 2)), (8, .const (Value.int IntKind.i64 8)), (9, .const (Value.int IntKind.i64 10)), (10, .const (Value.int IntKind.i64 0)), (11, .const (Value.int IntKind.i64 3)), (12, .const (Value.int IntKind.i64 18)), (13, .const (Value.int IntKind.i64 (-2)))], 44, "ref.go:196", #[{ on := 6, ground := Ground.gcOnly Departure.lateStores }], none⟩) rfl (fun K hK => ?_) (AllReadyH.cons (o := ⟨some 4, .assign (.tmp 16), 3, "ref.go:196", #[⟨0, .data⟩, ⟨3, .chain⟩, ⟨0, .phase⟩, { on := 1, ground := Ground.textOnly Departure.lateStores }, { on := 2, ground := Ground.textOnly Departure.lateStores }, { on := 3, ground := Ground.textOnly Departure.lateStoresUnsure }, { on := 4, ground := Ground.textOnly Departure.lateStores }, { on := 5, ground := Ground.textOnly Departure.lateStores }], none⟩) rfl (fun K hK => ?_) AllReadyH.nil)
      · skip
        try rw [if_pos (by rfl)]
        go_simp
        have Kb := blk_new V0 3 ([.int .i64 2, .int .i64 4, .int .i64 8, .int .i64 16, .int .i64 6, .int .i64 12, .int .i64 4, .int .i64 2, .int .i64 8, .int .i64 10, .int .i64 0, .int .i64 3, .int .i64 18, .int .i64 (-2)] : List Value).toArray
        refine hK.out _ _ (hHeld.alloc hz0 _) (fun hHeld => ?_)
        clear hK K
        try simp only [zP, zQ, zS, zZ, zC]
        refine wt (i := 4) (oi := ⟨some 20, .indexAddr 44 (.tmp 17) (.tmp 19), 0, "ref.go:196", #[⟨1, .data⟩, ⟨3, .data⟩, { on := 6, ground := Ground.gcOnly Departure.lateStores }], none⟩) (v := .pointer (some ⟨V0.heap.size, r, none⟩)) (Or.inl ⟨by rfl, fun w' hSw => by go_simp; try (intro hcm; exact absurd hcm (by omega))⟩) hHeld ?_
        try simp only [zP, zQ, zS, zZ, zC]
        refine wpAnyH_ready (rs := [5, 6]) (by kernel_rfl) (by simp) ?_
        refine AllReadyH.cons (o := ⟨some 21, .load 3 (.tmp 20), 3, "ref.go:196", #[⟨4, .data⟩, { on := 6, ground := Ground.gcOnly Departure.lateStores }], none⟩) rfl (fun K hK => ?_) (AllReadyH.cons (o := ⟨some 4, .assign (.tmp 16), 3, "ref.go:196", #[⟨0, .data⟩, ⟨3, .chain⟩, ⟨0, .phase⟩, { on := 1, ground := Ground.textOnly Departure.lateStores }, { on := 2, ground := Ground.textOnly Departure.lateStores }, { on := 3, ground := Ground.textOnly Departure.lateStoresUnsure }, { on := 4, ground := Ground.textOnly Departure.lateStores }, { on := 5, ground := Ground.textOnly Departure.lateStores }], none⟩) rfl (fun K hK => ?_) AllReadyH.nil)
        · skip
          try rw [if_pos (by rfl)]
          obtain ⟨x, hx, hx1, hx2⟩ := vol_at r hr
          have hcx := Kb.cell (j := r) hx
          go_simp
          refine hK.out _ _ (hHeld) (fun hHeld => ?_)
          clear hK K
          try simp only [zP, zQ, zS, zZ, zC]
          refine wpAnyH_ready (rs := [6]) (by kernel_rfl) (by simp) ?_
          refine AllReadyH.cons (o := ⟨some 4, .assign (.tmp 16), 3, "ref.go:196", #[⟨0, .data⟩, ⟨3, .chain⟩, ⟨0, .phase⟩, { on := 1, ground := Ground.textOnly Departure.lateStores }, { on := 2, ground := Ground.textOnly Departure.lateStores }, { on := 3, ground := Ground.textOnly Departure.lateStoresUnsure }, { on := 4, ground := Ground.textOnly Departure.lateStores }, { on := 5, ground := Ground.textOnly Departure.lateStores }], none⟩) rfl (fun K hK => ?_) AllReadyH.nil
          try rw [if_pos (by rfl)]
          go_simp
          refine hK.out _ _ (hHeld) (fun hHeld => ?_)
          clear hK K
          try simp only [zP, zQ, zS, zZ, zC]
          refine wpAnyH_ready (rs := [7]) (by kernel_rfl) (by simp) ?_
          refine AllReadyH.cons (o := ⟨some 5, .assign (.tmp 21), 3, "ref.go:196", #[⟨5, .data⟩, ⟨6, .chain⟩, ⟨0, .phase⟩, ⟨1, .phase⟩, ⟨2, .phase⟩, ⟨3, .phase⟩, ⟨4, .phase⟩, ⟨5, .phase⟩, ⟨6, .phase⟩], none⟩) rfl (fun K hK => ?_) AllReadyH.nil
          try rw [if_pos (by rfl)]
          go_simp
          refine hK.out _ _ (hHeld) (fun hHeld => ?_)
          clear hK K
          try simp only [zP, zQ, zS, zZ, zC]
          refine wpAnyH_done (by kernel_rfl) ?_ _
          have BX := hHeld
          clear hHeld 
          go_wp2
          go_ret2
          exact ⟨P, x, rfl, hP1, hP2, hx1, hx2, BX⟩
        · skip
          try rw [if_pos (by rfl)]
          go_simp
          refine hK.out _ _ (hHeld) (fun hHeld => ?_)
          clear hK K
          try simp only [zP, zQ, zS, zZ, zC]
          refine wpAnyH_ready (rs := [5]) (by kernel_rfl) (by simp) ?_
          refine AllReadyH.cons (o := ⟨some 21, .load 3 (.tmp 20), 3, "ref.go:196", #[⟨4, .data⟩, { on := 6, ground := Ground.gcOnly Departure.lateStores }], none⟩) rfl (fun K hK => ?_) AllReadyH.nil
          try rw [if_pos (by rfl)]
          obtain ⟨x, hx, hx1, hx2⟩ := vol_at r hr
          have hcx := Kb.cell (j := r) hx
          go_simp
          refine hK.out _ _ (hHeld) (fun hHeld => ?_)
          clear hK K
          try simp only [zP, zQ, zS, zZ, zC]
          refine wpAnyH_ready (rs := [7]) (by kernel_rfl) (by simp) ?_
          refine AllReadyH.cons (o := ⟨some 5, .assign (.tmp 21), 3, "ref.go:196", #[⟨5, .data⟩, ⟨6, .chain⟩, ⟨0, .phase⟩, ⟨1, .phase⟩, ⟨2, .phase⟩, ⟨3, .phase⟩, ⟨4, .phase⟩, ⟨5, .phase⟩, ⟨6, .phase⟩], none⟩) rfl (fun K hK => ?_) AllReadyH.nil
          try rw [if_pos (by rfl)]
          go_simp
          refine hK.out _ _ (hHeld) (fun hHeld => ?_)
          clear hK K
          try simp only [zP, zQ, zS, zZ, zC]
          refine wpAnyH_done (by kernel_rfl) ?_ _
          have BX := hHeld
          clear hHeld 
          go_wp2
          go_ret2
          exact ⟨P, x, rfl, hP1, hP2, hx1, hx2, BX⟩
      · skip
        try rw [if_pos (by rfl)]
        go_simp
        refine hK.out _ _ (hHeld) (fun hHeld => ?_)
        clear hK K
        try simp only [zP, zQ, zS, zZ, zC]
        refine wpAnyH_ready (rs := [1]) (by kernel_rfl) (by simp) ?_
        refine AllReadyH.cons (o := ⟨some 17, .buildSlice 44 14 #[(0, .const (Value.int IntKind.i64 2)), (1, .const (Value.int IntKind.i64 4)), (2, .const (Value.int IntKind.i64 8)), (3, .const (Value.int IntKind.i64 16)), (4, .const (Value.int IntKind.i64 6)), (5, .const (Value.int IntKind.i64 12)), (6, .const (Value.int IntKind.i64 4)), (7, .const (Value.int IntKind.i64 2)), (8, .const (Value.int IntKind.i64 8)), (9, .const (Value.int IntKind.i64 10)), (10, .const (Value.int IntKind.i64 0)), (11, .const (Value.int IntKind.i64 3)), (12, .const (Value.int IntKind.i64 18)), (13, .const (Value.int IntKind.i64 (-2)))], 44, "ref.go:196", #[{ on := 6, ground := Ground.gcOnly Departure.lateStores }], none⟩) rfl (fun K hK => ?_) AllReadyH.nil
        try rw [if_pos (by rfl)]
        go_simp
        have Kb := blk_new V0 3 ([.int .i64 2, .int .i64 4, .int .i64 8, .int .i64 16, .int .i64 6, .int .i64 12, .int .i64 4, .int .i64 2, .int .i64 8, .int .i64 10, .int .i64 0, .int .i64 3, .int .i64 18, .int .i64 (-2)] : List Value).toArray
        refine hK.out _ _ (hHeld.alloc hz0 _) (fun hHeld => ?_)
        clear hK K
        try simp only [zP, zQ, zS, zZ, zC]
        refine wt (i := 4) (oi := ⟨some 20, .indexAddr 44 (.tmp 17) (.tmp 19), 0, "ref.go:196", #[⟨1, .data⟩, ⟨3, .data⟩, { on := 6, ground := Ground.gcOnly Departure.lateStores }], none⟩) (v := .pointer (some ⟨V0.heap.size, r, none⟩)) (Or.inl ⟨by rfl, fun w' hSw => by go_simp; try (intro hcm; exact absurd hcm (by omega))⟩) hHeld ?_
        try simp only [zP, zQ, zS, zZ, zC]
        refine wpAnyH_ready (rs := [5]) (by kernel_rfl) (by simp) ?_
        refine AllReadyH.cons (o := ⟨some 21, .load 3 (.tmp 20), 3, "ref.go:196", #[⟨4, .data⟩, { on := 6, ground := Ground.gcOnly Departure.lateStores }], none⟩) rfl (fun K hK => ?_) AllReadyH.nil
        try rw [if_pos (by rfl)]
        obtain ⟨x, hx, hx1, hx2⟩ := vol_at r hr
        have hcx := Kb.cell (j := r) hx
        go_simp
        refine hK.out _ _ (hHeld) (fun hHeld => ?_)
        clear hK K
        try simp only [zP, zQ, zS, zZ, zC]
        refine wpAnyH_ready (rs := [7]) (by kernel_rfl) (by simp) ?_
        refine AllReadyH.cons (o := ⟨some 5, .assign (.tmp 21), 3, "ref.go:196", #[⟨5, .data⟩, ⟨6, .chain⟩, ⟨0, .phase⟩, ⟨1, .phase⟩, ⟨2, .phase⟩, ⟨3, .phase⟩, ⟨4, .phase⟩, ⟨5, .phase⟩, ⟨6, .phase⟩], none⟩) rfl (fun K hK => ?_) AllReadyH.nil
        try rw [if_pos (by rfl)]
        go_simp
        refine hK.out _ _ (hHeld) (fun hHeld => ?_)
        clear hK K
        try simp only [zP, zQ, zS, zZ, zC]
        refine wpAnyH_done (by kernel_rfl) ?_ _
        have BX := hHeld
        clear hHeld 
        go_wp2
        go_ret2
        exact ⟨P, x, rfl, hP1, hP2, hx1, hx2, BX⟩
  · obtain hk4 : k = 136 ∨ k = 137 ∨ k = 138 ∨ k = 139 := by omega
    have HX : Below w.heap.size w (w.alloc (.cells #[.int .i64 998, .int .i64 999, .int .i64 1000, .int .i64 (-1)] 3)) := (Below.refl _ _).alloc (Nat.le_refl _) _
    have K4 := blk_new w 3 #[.int .i64 998, .int .i64 999, .int .i64 1000, .int .i64 (-1)]
    rcases hk4 with rfl | rfl | rfl | rfl
    · have hcx := K4.cell (j := 0) rfl
      clear hs hk K4
      go_upto_region 4 with (fail)
      clear hcx
      obtain ⟨P, hP⟩ : ∃ P : Int, 998 = P := ⟨_, rfl⟩
      have hP1 : -1 ≤ P := by omega
      have hP2 : P ≤ 1000 := by omega
      rw [hP] at HX
      rw [hP]
      clear hP
      generalize World.alloc w _ = W1 at HX ⊢
      refine wp_region_held_drew (S := fun w' => Below w.heap.size w w') (by kernel_rfl) (below_drew (HX)) (fun _ => ?_)
      have hHeld : Below w.heap.size w W1.drew := below_drew (HX)
      generalize W1.drew = V0 at hHeld ⊢
      refine wt (i := 0) (oi := ⟨some 16, .move (.tmp 6), 3, "ref.go:196", #[], none⟩) (v := .int .i64 P) (Or.inl ⟨by rfl, fun w' hSw => by go_simp⟩) hHeld ?_
      try simp only [zP, zQ, zS, zZ, zC]
      refine wt (i := 2) (oi := ⟨some 18, .move (.tmp 1), 3, "ref.go:196", #[], none⟩) (v := .int .i64 m) (Or.inl ⟨by rfl, fun w' hSw => by go_simp⟩) hHeld ?_
      try simp only [zP, zQ, zS, zZ, zC]
      have hz0 : w.heap.size ≤ V0.heap.size := hHeld.size
      refine wpAnyH_ready (rs := [1, 3]) (by kernel_rfl) (by simp) ?_
      refine AllReadyH.cons (o := ⟨some 17, .buildSlice 44 14 #[(0, .const (Value.int IntKind.i64 2)), (1, .const (Value.int IntKind.i64 4)), (2, .const (Value.int IntKind.i64 8)), (3, .const (Value.int IntKind.i64 16)), (4, .const (Value.int IntKind.i64 6)), (5, .const (Value.int IntKind.i64 12)), (6, .const (Value.int IntKind.i64 4)), (7, .const (Value.int IntKind.i64 2)), (8, .const (Value.int IntKind.i64 8)), (9, .const (Value.int IntKind.i64 10)), (10, .const (Value.int IntKind.i64 0)), (11, .const (Value.int IntKind.i64 3)), (12, .const (Value.int IntKind.i64 18)), (13, .const (Value.int IntKind.i64 (-2)))], 44, "ref.go:196", #[{ on := 6, ground := Ground.gcOnly Departure.lateStores }], none⟩) rfl (fun K hK => ?_) (AllReadyH.cons (o := ⟨some 19, .call { callee := .value (.func 25), args := #[.tmp 18, .const (Value.int IntKind.i64 14)], argTypes := #[3, 3] }, 3, "ref.go:196", #[⟨2, .data⟩], none⟩) rfl (fun K hK => ?_) AllReadyH.nil)
      · skip
        try rw [if_pos (by rfl)]
        go_simp
        have Kb := blk_new V0 3 ([.int .i64 2, .int .i64 4, .int .i64 8, .int .i64 16, .int .i64 6, .int .i64 12, .int .i64 4, .int .i64 2, .int .i64 8, .int .i64 10, .int .i64 0, .int .i64 3, .int .i64 18, .int .i64 (-2)] : List Value).toArray
        refine hK.out _ _ (hHeld.alloc hz0 _) (fun hHeld => ?_)
        clear hK K
        try simp only [zP, zQ, zS, zZ, zC]
        refine wpAnyH_ready (rs := [3]) (by kernel_rfl) (by simp) ?_
        refine AllReadyH.cons (o := ⟨some 19, .call { callee := .value (.func 25), args := #[.tmp 18, .const (Value.int IntKind.i64 14)], argTypes := #[3, 3] }, 3, "ref.go:196", #[⟨2, .data⟩], none⟩) rfl (fun K hK => ?_) AllReadyH.nil
        try rw [if_pos (by rfl)]
        go_simp
        refine (AR.out _).mono ?_
        rintro _ w9 ⟨r, hr, rfl, rfl⟩
        refine hK.out _ _ (hHeld) (fun hHeld => ?_)
        clear hK K
        try simp only [zP, zQ, zS, zZ, zC]
        refine wt (i := 4) (oi := ⟨some 20, .indexAddr 44 (.tmp 17) (.tmp 19), 0, "ref.go:196", #[⟨1, .data⟩, ⟨3, .data⟩, { on := 6, ground := Ground.gcOnly Departure.lateStores }], none⟩) (v := .pointer (some ⟨V0.heap.size, r, none⟩)) (Or.inl ⟨by rfl, fun w' hSw => by go_simp; try (intro hcm; exact absurd hcm (by omega))⟩) hHeld ?_
        try simp only [zP, zQ, zS, zZ, zC]
        refine wpAnyH_ready (rs := [5, 6]) (by kernel_rfl) (by simp) ?_
        refine AllReadyH.cons (o := ⟨some 21, .load 3 (.tmp 20), 3, "ref.go:196", #[⟨4, .data⟩, { on := 6, ground := Ground.gcOnly Departure.lateStores }], none⟩) rfl (fun K hK => ?_) (AllReadyH.cons (o := ⟨some 4, .assign (.tmp 16), 3, "ref.go:196", #[⟨0, .data⟩, ⟨3, .chain⟩, ⟨0, .phase⟩, { on := 1, ground := Ground.textOnly Departure.lateStores }, { on := 2, ground := Ground.textOnly Departure.lateStores }, { on := 3, ground := Ground.textOnly Departure.lateStoresUnsure }, { on := 4, ground := Ground.textOnly Departure.lateStores }, { on := 5, ground := Ground.textOnly Departure.lateStores }], none⟩) rfl (fun K hK => ?_) AllReadyH.nil)
        · skip
          try rw [if_pos (by rfl)]
          obtain ⟨x, hx, hx1, hx2⟩ := vol_at r hr
          have hcx := Kb.cell (j := r) hx
          go_simp
          refine hK.out _ _ (hHeld) (fun hHeld => ?_)
          clear hK K
          try simp only [zP, zQ, zS, zZ, zC]
          refine wpAnyH_ready (rs := [6]) (by kernel_rfl) (by simp) ?_
          refine AllReadyH.cons (o := ⟨some 4, .assign (.tmp 16), 3, "ref.go:196", #[⟨0, .data⟩, ⟨3, .chain⟩, ⟨0, .phase⟩, { on := 1, ground := Ground.textOnly Departure.lateStores }, { on := 2, ground := Ground.textOnly Departure.lateStores }, { on := 3, ground := Ground.textOnly Departure.lateStoresUnsure }, { on := 4, ground := Ground.textOnly Departure.lateStores }, { on := 5, ground := Ground.textOnly Departure.lateStores }], none⟩) rfl (fun K hK => ?_) AllReadyH.nil
          try rw [if_pos (by rfl)]
          go_simp
          refine hK.out _ _ (hHeld) (fun hHeld => ?_)
          clear hK K
          try simp only [zP, zQ, zS, zZ, zC]
          refine wpAnyH_ready (rs := [7]) (by kernel_rfl) (by simp) ?_
          refine AllReadyH.cons (o := ⟨some 5, .assign (.tmp 21), 3, "ref.go:196", #[⟨5, .data⟩, ⟨6, .chain⟩, ⟨0, .phase⟩, ⟨1, .phase⟩, ⟨2, .phase⟩, ⟨3, .phase⟩, ⟨4, .phase⟩, ⟨5, .phase⟩, ⟨6, .phase⟩], none⟩) rfl (fun K hK => ?_) AllReadyH.nil
          try rw [if_pos (by rfl)]
          go_simp
          refine hK.out _ _ (hHeld) (fun hHeld => ?_)
          clear hK K
          try simp only [zP, zQ, zS, zZ, zC]
          refine wpAnyH_done (by kernel_rfl) ?_ _
          have BX := hHeld
          clear hHeld 
          go_wp2
          go_ret2
          exact ⟨P, x, rfl, hP1, hP2, hx1, hx2, BX⟩
        · skip
          try rw [if_pos (by rfl)]
          go_simp
          refine hK.out _ _ (hHeld) (fun hHeld => ?_)
          clear hK K
          try simp only [zP, zQ, zS, zZ, zC]
          refine wpAnyH_ready (rs := [5]) (by kernel_rfl) (by simp) ?_
          refine AllReadyH.cons (o := ⟨some 21, .load 3 (.tmp 20), 3, "ref.go:196", #[⟨4, .data⟩, { on := 6, ground := Ground.gcOnly Departure.lateStores }], none⟩) rfl (fun K hK => ?_) AllReadyH.nil
          try rw [if_pos (by rfl)]
          obtain ⟨x, hx, hx1, hx2⟩ := vol_at r hr
          have hcx := Kb.cell (j := r) hx
          go_simp
          refine hK.out _ _ (hHeld) (fun hHeld => ?_)
          clear hK K
          try simp only [zP, zQ, zS, zZ, zC]
          refine wpAnyH_ready (rs := [7]) (by kernel_rfl) (by simp) ?_
          refine AllReadyH.cons (o := ⟨some 5, .assign (.tmp 21), 3, "ref.go:196", #[⟨5, .data⟩, ⟨6, .chain⟩, ⟨0, .phase⟩, ⟨1, .phase⟩, ⟨2, .phase⟩, ⟨3, .phase⟩, ⟨4, .phase⟩, ⟨5, .phase⟩, ⟨6, .phase⟩], none⟩) rfl (fun K hK => ?_) AllReadyH.nil
          try rw [if_pos (by rfl)]
          go_simp
          refine hK.out _ _ (hHeld) (fun hHeld => ?_)
          clear hK K
          try simp only [zP, zQ, zS, zZ, zC]
          refine wpAnyH_done (by kernel_rfl) ?_ _
          have BX := hHeld
          clear hHeld 
          go_wp2
          go_ret2
          exact ⟨P, x, rfl, hP1, hP2, hx1, hx2, BX⟩
      · skip
        try rw [if_pos (by rfl)]
        go_simp
        refine (AR.out _).mono ?_
        rintro _ w9 ⟨r, hr, rfl, rfl⟩
        refine hK.out _ _ (hHeld) (fun hHeld => ?_)
        clear hK K
        try simp only [zP, zQ, zS, zZ, zC]
        refine wpAnyH_ready (rs := [1, 6]) (by kernel_rfl) (by simp) ?_
        refine AllReadyH.cons (o := ⟨some 17, .buildSlice 44 14 #[(0, .const (Value.int IntKind.i64 2)), (1, .const (Value.int IntKind.i64 4)), (2, .const (Value.int IntKind.i64 8)), (3, .const (Value.int IntKind.i64 16)), (4, .const (Value.int IntKind.i64 6)), (5, .const (Value.int IntKind.i64 12)), (6, .const (Value.int IntKind.i64 4)), (7, .const (Value.int IntKind.i64 2)), (8, .const (Value.int IntKind.i64 8)), (9, .const (Value.int IntKind.i64 10)), (10, .const (Value.int IntKind.i64 0)), (11, .const (Value.int IntKind.i64 3)), (12, .const (Value.int IntKind.i64 18)), (13, .const (Value.int IntKind.i64 (-2)))], 44, "ref.go:196", #[{ on := 6, ground := Ground.gcOnly Departure.lateStores }], none⟩) rfl (fun K hK => ?_) (AllReadyH.cons (o := ⟨some 4, .assign (.tmp 16), 3, "ref.go:196", #[⟨0, .data⟩, ⟨3, .chain⟩, ⟨0, .phase⟩, { on := 1, ground := Ground.textOnly Departure.lateStores }, { on := 2, ground := Ground.textOnly Departure.lateStores }, { on := 3, ground := Ground.textOnly Departure.lateStoresUnsure }, { on := 4, ground := Ground.textOnly Departure.lateStores }, { on := 5, ground := Ground.textOnly Departure.lateStores }], none⟩) rfl (fun K hK => ?_) AllReadyH.nil)
        · skip
          try rw [if_pos (by rfl)]
          go_simp
          have Kb := blk_new V0 3 ([.int .i64 2, .int .i64 4, .int .i64 8, .int .i64 16, .int .i64 6, .int .i64 12, .int .i64 4, .int .i64 2, .int .i64 8, .int .i64 10, .int .i64 0, .int .i64 3, .int .i64 18, .int .i64 (-2)] : List Value).toArray
          refine hK.out _ _ (hHeld.alloc hz0 _) (fun hHeld => ?_)
          clear hK K
          try simp only [zP, zQ, zS, zZ, zC]
          refine wt (i := 4) (oi := ⟨some 20, .indexAddr 44 (.tmp 17) (.tmp 19), 0, "ref.go:196", #[⟨1, .data⟩, ⟨3, .data⟩, { on := 6, ground := Ground.gcOnly Departure.lateStores }], none⟩) (v := .pointer (some ⟨V0.heap.size, r, none⟩)) (Or.inl ⟨by rfl, fun w' hSw => by go_simp; try (intro hcm; exact absurd hcm (by omega))⟩) hHeld ?_
          try simp only [zP, zQ, zS, zZ, zC]
          refine wpAnyH_ready (rs := [5, 6]) (by kernel_rfl) (by simp) ?_
          refine AllReadyH.cons (o := ⟨some 21, .load 3 (.tmp 20), 3, "ref.go:196", #[⟨4, .data⟩, { on := 6, ground := Ground.gcOnly Departure.lateStores }], none⟩) rfl (fun K hK => ?_) (AllReadyH.cons (o := ⟨some 4, .assign (.tmp 16), 3, "ref.go:196", #[⟨0, .data⟩, ⟨3, .chain⟩, ⟨0, .phase⟩, { on := 1, ground := Ground.textOnly Departure.lateStores }, { on := 2, ground := Ground.textOnly Departure.lateStores }, { on := 3, ground := Ground.textOnly Departure.lateStoresUnsure }, { on := 4, ground := Ground.textOnly Departure.lateStores }, { on := 5, ground := Ground.textOnly Departure.lateStores }], none⟩) rfl (fun K hK => ?_) AllReadyH.nil)
          · skip
            try rw [if_pos (by rfl)]
            obtain ⟨x, hx, hx1, hx2⟩ := vol_at r hr
            have hcx := Kb.cell (j := r) hx
            go_simp
            refine hK.out _ _ (hHeld) (fun hHeld => ?_)
            clear hK K
            try simp only [zP, zQ, zS, zZ, zC]
            refine wpAnyH_ready (rs := [6]) (by kernel_rfl) (by simp) ?_
            refine AllReadyH.cons (o := ⟨some 4, .assign (.tmp 16), 3, "ref.go:196", #[⟨0, .data⟩, ⟨3, .chain⟩, ⟨0, .phase⟩, { on := 1, ground := Ground.textOnly Departure.lateStores }, { on := 2, ground := Ground.textOnly Departure.lateStores }, { on := 3, ground := Ground.textOnly Departure.lateStoresUnsure }, { on := 4, ground := Ground.textOnly Departure.lateStores }, { on := 5, ground := Ground.textOnly Departure.lateStores }], none⟩) rfl (fun K hK => ?_) AllReadyH.nil
            try rw [if_pos (by rfl)]
            go_simp
            refine hK.out _ _ (hHeld) (fun hHeld => ?_)
            clear hK K
            try simp only [zP, zQ, zS, zZ, zC]
            refine wpAnyH_ready (rs := [7]) (by kernel_rfl) (by simp) ?_
            refine AllReadyH.cons (o := ⟨some 5, .assign (.tmp 21), 3, "ref.go:196", #[⟨5, .data⟩, ⟨6, .chain⟩, ⟨0, .phase⟩, ⟨1, .phase⟩, ⟨2, .phase⟩, ⟨3, .phase⟩, ⟨4, .phase⟩, ⟨5, .phase⟩, ⟨6, .phase⟩], none⟩) rfl (fun K hK => ?_) AllReadyH.nil
            try rw [if_pos (by rfl)]
            go_simp
            refine hK.out _ _ (hHeld) (fun hHeld => ?_)
            clear hK K
            try simp only [zP, zQ, zS, zZ, zC]
            refine wpAnyH_done (by kernel_rfl) ?_ _
            have BX := hHeld
            clear hHeld 
            go_wp2
            go_ret2
            exact ⟨P, x, rfl, hP1, hP2, hx1, hx2, BX⟩
          · skip
            try rw [if_pos (by rfl)]
            go_simp
            refine hK.out _ _ (hHeld) (fun hHeld => ?_)
            clear hK K
            try simp only [zP, zQ, zS, zZ, zC]
            refine wpAnyH_ready (rs := [5]) (by kernel_rfl) (by simp) ?_
            refine AllReadyH.cons (o := ⟨some 21, .load 3 (.tmp 20), 3, "ref.go:196", #[⟨4, .data⟩, { on := 6, ground := Ground.gcOnly Departure.lateStores }], none⟩) rfl (fun K hK => ?_) AllReadyH.nil
            try rw [if_pos (by rfl)]
            obtain ⟨x, hx, hx1, hx2⟩ := vol_at r hr
            have hcx := Kb.cell (j := r) hx
            go_simp
            refine hK.out _ _ (hHeld) (fun hHeld => ?_)
            clear hK K
            try simp only [zP, zQ, zS, zZ, zC]
            refine wpAnyH_ready (rs := [7]) (by kernel_rfl) (by simp) ?_
            refine AllReadyH.cons (o := ⟨some 5, .assign (.tmp 21), 3, "ref.go:196", #[⟨5, .data⟩, ⟨6, .chain⟩, ⟨0, .phase⟩, ⟨1, .phase⟩, ⟨2, .phase⟩, ⟨3, .phase⟩, ⟨4, .phase⟩, ⟨5, .phase⟩, ⟨6, .phase⟩], none⟩) rfl (fun K hK => ?_) AllReadyH.nil
            try rw [if_pos (by rfl)]
            go_simp
            refine hK.out _ _ (hHeld) (fun hHeld => ?_)
            clear hK K
            try simp only [zP, zQ, zS, zZ, zC]
            refine wpAnyH_done (by kernel_rfl) ?_ _
            have BX := hHeld
            clear hHeld 
            go_wp2
            go_ret2
            exact ⟨P, x, rfl, hP1, hP2, hx1, hx2, BX⟩
        · skip
          try rw [if_pos (by rfl)]
          go_simp
          refine hK.out _ _ (hHeld) (fun hHeld => ?_)
          clear hK K
          try simp only [zP, zQ, zS, zZ, zC]
          refine wpAnyH_ready (rs := [1]) (by kernel_rfl) (by simp) ?_
          refine AllReadyH.cons (o := ⟨some 17, .buildSlice 44 14 #[(0, .const (Value.int IntKind.i64 2)), (1, .const (Value.int IntKind.i64 4)), (2, .const (Value.int IntKind.i64 8)), (3, .const (Value.int IntKind.i64 16)), (4, .const (Value.int IntKind.i64 6)), (5, .const (Value.int IntKind.i64 12)), (6, .const (Value.int IntKind.i64 4)), (7, .const (Value.int IntKind.i64 2)), (8, .const (Value.int IntKind.i64 8)), (9, .const (Value.int IntKind.i64 10)), (10, .const (Value.int IntKind.i64 0)), (11, .const (Value.int IntKind.i64 3)), (12, .const (Value.int IntKind.i64 18)), (13, .const (Value.int IntKind.i64 (-2)))], 44, "ref.go:196", #[{ on := 6, ground := Ground.gcOnly Departure.lateStores }], none⟩) rfl (fun K hK => ?_) AllReadyH.nil
          try rw [if_pos (by rfl)]
          go_simp
          have Kb := blk_new V0 3 ([.int .i64 2, .int .i64 4, .int .i64 8, .int .i64 16, .int .i64 6, .int .i64 12, .int .i64 4, .int .i64 2, .int .i64 8, .int .i64 10, .int .i64 0, .int .i64 3, .int .i64 18, .int .i64 (-2)] : List Value).toArray
          refine hK.out _ _ (hHeld.alloc hz0 _) (fun hHeld => ?_)
          clear hK K
          try simp only [zP, zQ, zS, zZ, zC]
          refine wt (i := 4) (oi := ⟨some 20, .indexAddr 44 (.tmp 17) (.tmp 19), 0, "ref.go:196", #[⟨1, .data⟩, ⟨3, .data⟩, { on := 6, ground := Ground.gcOnly Departure.lateStores }], none⟩) (v := .pointer (some ⟨V0.heap.size, r, none⟩)) (Or.inl ⟨by rfl, fun w' hSw => by go_simp; try (intro hcm; exact absurd hcm (by omega))⟩) hHeld ?_
          try simp only [zP, zQ, zS, zZ, zC]
          refine wpAnyH_ready (rs := [5]) (by kernel_rfl) (by simp) ?_
          refine AllReadyH.cons (o := ⟨some 21, .load 3 (.tmp 20), 3, "ref.go:196", #[⟨4, .data⟩, { on := 6, ground := Ground.gcOnly Departure.lateStores }], none⟩) rfl (fun K hK => ?_) AllReadyH.nil
          try rw [if_pos (by rfl)]
          obtain ⟨x, hx, hx1, hx2⟩ := vol_at r hr
          have hcx := Kb.cell (j := r) hx
          go_simp
          refine hK.out _ _ (hHeld) (fun hHeld => ?_)
          clear hK K
          try simp only [zP, zQ, zS, zZ, zC]
          refine wpAnyH_ready (rs := [7]) (by kernel_rfl) (by simp) ?_
          refine AllReadyH.cons (o := ⟨some 5, .assign (.tmp 21), 3, "ref.go:196", #[⟨5, .data⟩, ⟨6, .chain⟩, ⟨0, .phase⟩, ⟨1, .phase⟩, ⟨2, .phase⟩, ⟨3, .phase⟩, ⟨4, .phase⟩, ⟨5, .phase⟩, ⟨6, .phase⟩], none⟩) rfl (fun K hK => ?_) AllReadyH.nil
          try rw [if_pos (by rfl)]
          go_simp
          refine hK.out _ _ (hHeld) (fun hHeld => ?_)
          clear hK K
          try simp only [zP, zQ, zS, zZ, zC]
          refine wpAnyH_done (by kernel_rfl) ?_ _
          have BX := hHeld
          clear hHeld 
          go_wp2
          go_ret2
          exact ⟨P, x, rfl, hP1, hP2, hx1, hx2, BX⟩
    · have hcx := K4.cell (j := 1) rfl
      clear hs hk K4
      go_upto_region 4 with (fail)
      clear hcx
      obtain ⟨P, hP⟩ : ∃ P : Int, 999 = P := ⟨_, rfl⟩
      have hP1 : -1 ≤ P := by omega
      have hP2 : P ≤ 1000 := by omega
      rw [hP] at HX
      rw [hP]
      clear hP
      generalize World.alloc w _ = W1 at HX ⊢
      refine wp_region_held_drew (S := fun w' => Below w.heap.size w w') (by kernel_rfl) (below_drew (HX)) (fun _ => ?_)
      have hHeld : Below w.heap.size w W1.drew := below_drew (HX)
      generalize W1.drew = V0 at hHeld ⊢
      refine wt (i := 0) (oi := ⟨some 16, .move (.tmp 6), 3, "ref.go:196", #[], none⟩) (v := .int .i64 P) (Or.inl ⟨by rfl, fun w' hSw => by go_simp⟩) hHeld ?_
      try simp only [zP, zQ, zS, zZ, zC]
      refine wt (i := 2) (oi := ⟨some 18, .move (.tmp 1), 3, "ref.go:196", #[], none⟩) (v := .int .i64 m) (Or.inl ⟨by rfl, fun w' hSw => by go_simp⟩) hHeld ?_
      try simp only [zP, zQ, zS, zZ, zC]
      have hz0 : w.heap.size ≤ V0.heap.size := hHeld.size
      refine wpAnyH_ready (rs := [1, 3]) (by kernel_rfl) (by simp) ?_
      refine AllReadyH.cons (o := ⟨some 17, .buildSlice 44 14 #[(0, .const (Value.int IntKind.i64 2)), (1, .const (Value.int IntKind.i64 4)), (2, .const (Value.int IntKind.i64 8)), (3, .const (Value.int IntKind.i64 16)), (4, .const (Value.int IntKind.i64 6)), (5, .const (Value.int IntKind.i64 12)), (6, .const (Value.int IntKind.i64 4)), (7, .const (Value.int IntKind.i64 2)), (8, .const (Value.int IntKind.i64 8)), (9, .const (Value.int IntKind.i64 10)), (10, .const (Value.int IntKind.i64 0)), (11, .const (Value.int IntKind.i64 3)), (12, .const (Value.int IntKind.i64 18)), (13, .const (Value.int IntKind.i64 (-2)))], 44, "ref.go:196", #[{ on := 6, ground := Ground.gcOnly Departure.lateStores }], none⟩) rfl (fun K hK => ?_) (AllReadyH.cons (o := ⟨some 19, .call { callee := .value (.func 25), args := #[.tmp 18, .const (Value.int IntKind.i64 14)], argTypes := #[3, 3] }, 3, "ref.go:196", #[⟨2, .data⟩], none⟩) rfl (fun K hK => ?_) AllReadyH.nil)
      · skip
        try rw [if_pos (by rfl)]
        go_simp
        have Kb := blk_new V0 3 ([.int .i64 2, .int .i64 4, .int .i64 8, .int .i64 16, .int .i64 6, .int .i64 12, .int .i64 4, .int .i64 2, .int .i64 8, .int .i64 10, .int .i64 0, .int .i64 3, .int .i64 18, .int .i64 (-2)] : List Value).toArray
        refine hK.out _ _ (hHeld.alloc hz0 _) (fun hHeld => ?_)
        clear hK K
        try simp only [zP, zQ, zS, zZ, zC]
        refine wpAnyH_ready (rs := [3]) (by kernel_rfl) (by simp) ?_
        refine AllReadyH.cons (o := ⟨some 19, .call { callee := .value (.func 25), args := #[.tmp 18, .const (Value.int IntKind.i64 14)], argTypes := #[3, 3] }, 3, "ref.go:196", #[⟨2, .data⟩], none⟩) rfl (fun K hK => ?_) AllReadyH.nil
        try rw [if_pos (by rfl)]
        go_simp
        refine (AR.out _).mono ?_
        rintro _ w9 ⟨r, hr, rfl, rfl⟩
        refine hK.out _ _ (hHeld) (fun hHeld => ?_)
        clear hK K
        try simp only [zP, zQ, zS, zZ, zC]
        refine wt (i := 4) (oi := ⟨some 20, .indexAddr 44 (.tmp 17) (.tmp 19), 0, "ref.go:196", #[⟨1, .data⟩, ⟨3, .data⟩, { on := 6, ground := Ground.gcOnly Departure.lateStores }], none⟩) (v := .pointer (some ⟨V0.heap.size, r, none⟩)) (Or.inl ⟨by rfl, fun w' hSw => by go_simp; try (intro hcm; exact absurd hcm (by omega))⟩) hHeld ?_
        try simp only [zP, zQ, zS, zZ, zC]
        refine wpAnyH_ready (rs := [5, 6]) (by kernel_rfl) (by simp) ?_
        refine AllReadyH.cons (o := ⟨some 21, .load 3 (.tmp 20), 3, "ref.go:196", #[⟨4, .data⟩, { on := 6, ground := Ground.gcOnly Departure.lateStores }], none⟩) rfl (fun K hK => ?_) (AllReadyH.cons (o := ⟨some 4, .assign (.tmp 16), 3, "ref.go:196", #[⟨0, .data⟩, ⟨3, .chain⟩, ⟨0, .phase⟩, { on := 1, ground := Ground.textOnly Departure.lateStores }, { on := 2, ground := Ground.textOnly Departure.lateStores }, { on := 3, ground := Ground.textOnly Departure.lateStoresUnsure }, { on := 4, ground := Ground.textOnly Departure.lateStores }, { on := 5, ground := Ground.textOnly Departure.lateStores }], none⟩) rfl (fun K hK => ?_) AllReadyH.nil)
        · skip
          try rw [if_pos (by rfl)]
          obtain ⟨x, hx, hx1, hx2⟩ := vol_at r hr
          have hcx := Kb.cell (j := r) hx
          go_simp
          refine hK.out _ _ (hHeld) (fun hHeld => ?_)
          clear hK K
          try simp only [zP, zQ, zS, zZ, zC]
          refine wpAnyH_ready (rs := [6]) (by kernel_rfl) (by simp) ?_
          refine AllReadyH.cons (o := ⟨some 4, .assign (.tmp 16), 3, "ref.go:196", #[⟨0, .data⟩, ⟨3, .chain⟩, ⟨0, .phase⟩, { on := 1, ground := Ground.textOnly Departure.lateStores }, { on := 2, ground := Ground.textOnly Departure.lateStores }, { on := 3, ground := Ground.textOnly Departure.lateStoresUnsure }, { on := 4, ground := Ground.textOnly Departure.lateStores }, { on := 5, ground := Ground.textOnly Departure.lateStores }], none⟩) rfl (fun K hK => ?_) AllReadyH.nil
          try rw [if_pos (by rfl)]
          go_simp
          refine hK.out _ _ (hHeld) (fun hHeld => ?_)
          clear hK K
          try simp only [zP, zQ, zS, zZ, zC]
          refine wpAnyH_ready (rs := [7]) (by kernel_rfl) (by simp) ?_
          refine AllReadyH.cons (o := ⟨some 5, .assign (.tmp 21), 3, "ref.go:196", #[⟨5, .data⟩, ⟨6, .chain⟩, ⟨0, .phase⟩, ⟨1, .phase⟩, ⟨2, .phase⟩, ⟨3, .phase⟩, ⟨4, .phase⟩, ⟨5, .phase⟩, ⟨6, .phase⟩], none⟩) rfl (fun K hK => ?_) AllReadyH.nil
          try rw [if_pos (by rfl)]
          go_simp
          refine hK.out _ _ (hHeld) (fun hHeld => ?_)
          clear hK K
          try simp only [zP, zQ, zS, zZ, zC]
          refine wpAnyH_done (by kernel_rfl) ?_ _
          have BX := hHeld
          clear hHeld 
          go_wp2
          go_ret2
          exact ⟨P, x, rfl, hP1, hP2, hx1, hx2, BX⟩
        · skip
          try rw [if_pos (by rfl)]
          go_simp
          refine hK.out _ _ (hHeld) (fun hHeld => ?_)
          clear hK K
          try simp only [zP, zQ, zS, zZ, zC]
          refine wpAnyH_ready (rs := [5]) (by kernel_rfl) (by simp) ?_
          refine AllReadyH.cons (o := ⟨some 21, .load 3 (.tmp 20), 3, "ref.go:196", #[⟨4, .data⟩, { on := 6, ground := Ground.gcOnly Departure.lateStores }], none⟩) rfl (fun K hK => ?_) AllReadyH.nil
          try rw [if_pos (by rfl)]
          obtain ⟨x, hx, hx1, hx2⟩ := vol_at r hr
          have hcx := Kb.cell (j := r) hx
          go_simp
          refine hK.out _ _ (hHeld) (fun hHeld => ?_)
          clear hK K
          try simp only [zP, zQ, zS, zZ, zC]
          refine wpAnyH_ready (rs := [7]) (by kernel_rfl) (by simp) ?_
          refine AllReadyH.cons (o := ⟨some 5, .assign (.tmp 21), 3, "ref.go:196", #[⟨5, .data⟩, ⟨6, .chain⟩, ⟨0, .phase⟩, ⟨1, .phase⟩, ⟨2, .phase⟩, ⟨3, .phase⟩, ⟨4, .phase⟩, ⟨5, .phase⟩, ⟨6, .phase⟩], none⟩) rfl (fun K hK => ?_) AllReadyH.nil
          try rw [if_pos (by rfl)]
          go_simp
          refine hK.out _ _ (hHeld) (fun hHeld => ?_)
          clear hK K
          try simp only [zP, zQ, zS, zZ, zC]
          refine wpAnyH_done (by kernel_rfl) ?_ _
          have BX := hHeld
          clear hHeld 
          go_wp2
          go_ret2
          exact ⟨P, x, rfl, hP1, hP2, hx1, hx2, BX⟩
      · skip
        try rw [if_pos (by rfl)]
        go_simp
        refine (AR.out _).mono ?_
        rintro _ w9 ⟨r, hr, rfl, rfl⟩
        refine hK.out _ _ (hHeld) (fun hHeld => ?_)
        clear hK K
        try simp only [zP, zQ, zS, zZ, zC]
        refine wpAnyH_ready (rs := [1, 6]) (by kernel_rfl) (by simp) ?_
        refine AllReadyH.cons (o := ⟨some 17, .buildSlice 44 14 #[(0, .const (Value.int IntKind.i64 2)), (1, .const (Value.int IntKind.i64 4)), (2, .const (Value.int IntKind.i64 8)), (3, .const (Value.int IntKind.i64 16)), (4, .const (Value.int IntKind.i64 6)), (5, .const (Value.int IntKind.i64 12)), (6, .const (Value.int IntKind.i64 4)), (7, .const (Value.int IntKind.i64 2)), (8, .const (Value.int IntKind.i64 8)), (9, .const (Value.int IntKind.i64 10)), (10, .const (Value.int IntKind.i64 0)), (11, .const (Value.int IntKind.i64 3)), (12, .const (Value.int IntKind.i64 18)), (13, .const (Value.int IntKind.i64 (-2)))], 44, "ref.go:196", #[{ on := 6, ground := Ground.gcOnly Departure.lateStores }], none⟩) rfl (fun K hK => ?_) (AllReadyH.cons (o := ⟨some 4, .assign (.tmp 16), 3, "ref.go:196", #[⟨0, .data⟩, ⟨3, .chain⟩, ⟨0, .phase⟩, { on := 1, ground := Ground.textOnly Departure.lateStores }, { on := 2, ground := Ground.textOnly Departure.lateStores }, { on := 3, ground := Ground.textOnly Departure.lateStoresUnsure }, { on := 4, ground := Ground.textOnly Departure.lateStores }, { on := 5, ground := Ground.textOnly Departure.lateStores }], none⟩) rfl (fun K hK => ?_) AllReadyH.nil)
        · skip
          try rw [if_pos (by rfl)]
          go_simp
          have Kb := blk_new V0 3 ([.int .i64 2, .int .i64 4, .int .i64 8, .int .i64 16, .int .i64 6, .int .i64 12, .int .i64 4, .int .i64 2, .int .i64 8, .int .i64 10, .int .i64 0, .int .i64 3, .int .i64 18, .int .i64 (-2)] : List Value).toArray
          refine hK.out _ _ (hHeld.alloc hz0 _) (fun hHeld => ?_)
          clear hK K
          try simp only [zP, zQ, zS, zZ, zC]
          refine wt (i := 4) (oi := ⟨some 20, .indexAddr 44 (.tmp 17) (.tmp 19), 0, "ref.go:196", #[⟨1, .data⟩, ⟨3, .data⟩, { on := 6, ground := Ground.gcOnly Departure.lateStores }], none⟩) (v := .pointer (some ⟨V0.heap.size, r, none⟩)) (Or.inl ⟨by rfl, fun w' hSw => by go_simp; try (intro hcm; exact absurd hcm (by omega))⟩) hHeld ?_
          try simp only [zP, zQ, zS, zZ, zC]
          refine wpAnyH_ready (rs := [5, 6]) (by kernel_rfl) (by simp) ?_
          refine AllReadyH.cons (o := ⟨some 21, .load 3 (.tmp 20), 3, "ref.go:196", #[⟨4, .data⟩, { on := 6, ground := Ground.gcOnly Departure.lateStores }], none⟩) rfl (fun K hK => ?_) (AllReadyH.cons (o := ⟨some 4, .assign (.tmp 16), 3, "ref.go:196", #[⟨0, .data⟩, ⟨3, .chain⟩, ⟨0, .phase⟩, { on := 1, ground := Ground.textOnly Departure.lateStores }, { on := 2, ground := Ground.textOnly Departure.lateStores }, { on := 3, ground := Ground.textOnly Departure.lateStoresUnsure }, { on := 4, ground := Ground.textOnly Departure.lateStores }, { on := 5, ground := Ground.textOnly Departure.lateStores }], none⟩) rfl (fun K hK => ?_) AllReadyH.nil)
          · skip
            try rw [if_pos (by rfl)]
            obtain ⟨x, hx, hx1, hx2⟩ := vol_at r hr
            have hcx := Kb.cell (j := r) hx
            go_simp
            refine hK.out _ _ (hHeld) (fun hHeld => ?_)
            clear hK K
            try simp only [zP, zQ, zS, zZ, zC]
            refine wpAnyH_ready (rs := [6]) (by kernel_rfl) (by simp) ?_
            refine AllReadyH.cons (o := ⟨some 4, .assign (.tmp 16), 3, "ref.go:196", #[⟨0, .data⟩, ⟨3, .chain⟩, ⟨0, .phase⟩, { on := 1, ground := Ground.textOnly Departure.lateStores }, { on := 2, ground := Ground.textOnly Departure.lateStores }, { on := 3, ground := Ground.textOnly Departure.lateStoresUnsure }, { on := 4, ground := Ground.textOnly Departure.lateStores }, { on := 5, ground := Ground.textOnly Departure.lateStores }], none⟩) rfl (fun K hK => ?_) AllReadyH.nil
            try rw [if_pos (by rfl)]
            go_simp
            refine hK.out _ _ (hHeld) (fun hHeld => ?_)
            clear hK K
            try simp only [zP, zQ, zS, zZ, zC]
            refine wpAnyH_ready (rs := [7]) (by kernel_rfl) (by simp) ?_
            refine AllReadyH.cons (o := ⟨some 5, .assign (.tmp 21), 3, "ref.go:196", #[⟨5, .data⟩, ⟨6, .chain⟩, ⟨0, .phase⟩, ⟨1, .phase⟩, ⟨2, .phase⟩, ⟨3, .phase⟩, ⟨4, .phase⟩, ⟨5, .phase⟩, ⟨6, .phase⟩], none⟩) rfl (fun K hK => ?_) AllReadyH.nil
            try rw [if_pos (by rfl)]
            go_simp
            refine hK.out _ _ (hHeld) (fun hHeld => ?_)
            clear hK K
            try simp only [zP, zQ, zS, zZ, zC]
            refine wpAnyH_done (by kernel_rfl) ?_ _
            have BX := hHeld
            clear hHeld 
            go_wp2
            go_ret2
            exact ⟨P, x, rfl, hP1, hP2, hx1, hx2, BX⟩
          · skip
            try rw [if_pos (by rfl)]
            go_simp
            refine hK.out _ _ (hHeld) (fun hHeld => ?_)
            clear hK K
            try simp only [zP, zQ, zS, zZ, zC]
            refine wpAnyH_ready (rs := [5]) (by kernel_rfl) (by simp) ?_
            refine AllReadyH.cons (o := ⟨some 21, .load 3 (.tmp 20), 3, "ref.go:196", #[⟨4, .data⟩, { on := 6, ground := Ground.gcOnly Departure.lateStores }], none⟩) rfl (fun K hK => ?_) AllReadyH.nil
            try rw [if_pos (by rfl)]
            obtain ⟨x, hx, hx1, hx2⟩ := vol_at r hr
            have hcx := Kb.cell (j := r) hx
            go_simp
            refine hK.out _ _ (hHeld) (fun hHeld => ?_)
            clear hK K
            try simp only [zP, zQ, zS, zZ, zC]
            refine wpAnyH_ready (rs := [7]) (by kernel_rfl) (by simp) ?_
            refine AllReadyH.cons (o := ⟨some 5, .assign (.tmp 21), 3, "ref.go:196", #[⟨5, .data⟩, ⟨6, .chain⟩, ⟨0, .phase⟩, ⟨1, .phase⟩, ⟨2, .phase⟩, ⟨3, .phase⟩, ⟨4, .phase⟩, ⟨5, .phase⟩, ⟨6, .phase⟩], none⟩) rfl (fun K hK => ?_) AllReadyH.nil
            try rw [if_pos (by rfl)]
            go_simp
            refine hK.out _ _ (hHeld) (fun hHeld => ?_)
            clear hK K
            try simp only [zP, zQ, zS, zZ, zC]
            refine wpAnyH_done (by kernel_rfl) ?_ _
            have BX := hHeld
            clear hHeld 
            go_wp2
            go_ret2
            exact ⟨P, x, rfl, hP1, hP2, hx1, hx2, BX⟩
        · skip
          try rw [if_pos (by rfl)]
          go_simp
          refine hK.out _ _ (hHeld) (fun hHeld => ?_)
          clear hK K
          try simp only [zP, zQ, zS, zZ, zC]
          refine wpAnyH_ready (rs := [1]) (by kernel_rfl) (by simp) ?_
          refine AllReadyH.cons (o := ⟨some 17, .buildSlice 44 14 #[(0, .const (Value.int IntKind.i64 2)), (1, .const (Value.int IntKind.i64 4)), (2, .const (Value.int IntKind.i64 8)), (3, .const (Value.int IntKind.i64 16)), (4, .const (Value.int IntKind.i64 6)), (5, .const (Value.int IntKind.i64 12)), (6, .const (Value.int IntKind.i64 4)), (7, .const (Value.int IntKind.i64 2)), (8, .const (Value.int IntKind.i64 8)), (9, .const (Value.int IntKind.i64 10)), (10, .const (Value.int IntKind.i64 0)), (11, .const (Value.int IntKind.i64 3)), (12, .const (Value.int IntKind.i64 18)), (13, .const (Value.int IntKind.i64 (-2)))], 44, "ref.go:196", #[{ on := 6, ground := Ground.gcOnly Departure.lateStores }], none⟩) rfl (fun K hK => ?_) AllReadyH.nil
          try rw [if_pos (by rfl)]
          go_simp
          have Kb := blk_new V0 3 ([.int .i64 2, .int .i64 4, .int .i64 8, .int .i64 16, .int .i64 6, .int .i64 12, .int .i64 4, .int .i64 2, .int .i64 8, .int .i64 10, .int .i64 0, .int .i64 3, .int .i64 18, .int .i64 (-2)] : List Value).toArray
          refine hK.out _ _ (hHeld.alloc hz0 _) (fun hHeld => ?_)
          clear hK K
          try simp only [zP, zQ, zS, zZ, zC]
          refine wt (i := 4) (oi := ⟨some 20, .indexAddr 44 (.tmp 17) (.tmp 19), 0, "ref.go:196", #[⟨1, .data⟩, ⟨3, .data⟩, { on := 6, ground := Ground.gcOnly Departure.lateStores }], none⟩) (v := .pointer (some ⟨V0.heap.size, r, none⟩)) (Or.inl ⟨by rfl, fun w' hSw => by go_simp; try (intro hcm; exact absurd hcm (by omega))⟩) hHeld ?_
          try simp only [zP, zQ, zS, zZ, zC]
          refine wpAnyH_ready (rs := [5]) (by kernel_rfl) (by simp) ?_
          refine AllReadyH.cons (o := ⟨some 21, .load 3 (.tmp 20), 3, "ref.go:196", #[⟨4, .data⟩, { on := 6, ground := Ground.gcOnly Departure.lateStores }], none⟩) rfl (fun K hK => ?_) AllReadyH.nil
          try rw [if_pos (by rfl)]
          obtain ⟨x, hx, hx1, hx2⟩ := vol_at r hr
          have hcx := Kb.cell (j := r) hx
          go_simp
          refine hK.out _ _ (hHeld) (fun hHeld => ?_)
          clear hK K
          try simp only [zP, zQ, zS, zZ, zC]
          refine wpAnyH_ready (rs := [7]) (by kernel_rfl) (by simp) ?_
          refine AllReadyH.cons (o := ⟨some 5, .assign (.tmp 21), 3, "ref.go:196", #[⟨5, .data⟩, ⟨6, .chain⟩, ⟨0, .phase⟩, ⟨1, .phase⟩, ⟨2, .phase⟩, ⟨3, .phase⟩, ⟨4, .phase⟩, ⟨5, .phase⟩, ⟨6, .phase⟩], none⟩) rfl (fun K hK => ?_) AllReadyH.nil
          try rw [if_pos (by rfl)]
          go_simp
          refine hK.out _ _ (hHeld) (fun hHeld => ?_)
          clear hK K
          try simp only [zP, zQ, zS, zZ, zC]
          refine wpAnyH_done (by kernel_rfl) ?_ _
          have BX := hHeld
          clear hHeld 
          go_wp2
          go_ret2
          exact ⟨P, x, rfl, hP1, hP2, hx1, hx2, BX⟩
    · have hcx := K4.cell (j := 2) rfl
      clear hs hk K4
      go_upto_region 4 with (fail)
      clear hcx
      obtain ⟨P, hP⟩ : ∃ P : Int, 1000 = P := ⟨_, rfl⟩
      have hP1 : -1 ≤ P := by omega
      have hP2 : P ≤ 1000 := by omega
      rw [hP] at HX
      rw [hP]
      clear hP
      generalize World.alloc w _ = W1 at HX ⊢
      refine wp_region_held_drew (S := fun w' => Below w.heap.size w w') (by kernel_rfl) (below_drew (HX)) (fun _ => ?_)
      have hHeld : Below w.heap.size w W1.drew := below_drew (HX)
      generalize W1.drew = V0 at hHeld ⊢
      refine wt (i := 0) (oi := ⟨some 16, .move (.tmp 6), 3, "ref.go:196", #[], none⟩) (v := .int .i64 P) (Or.inl ⟨by rfl, fun w' hSw => by go_simp⟩) hHeld ?_
      try simp only [zP, zQ, zS, zZ, zC]
      refine wt (i := 2) (oi := ⟨some 18, .move (.tmp 1), 3, "ref.go:196", #[], none⟩) (v := .int .i64 m) (Or.inl ⟨by rfl, fun w' hSw => by go_simp⟩) hHeld ?_
      try simp only [zP, zQ, zS, zZ, zC]
      have hz0 : w.heap.size ≤ V0.heap.size := hHeld.size
      refine wpAnyH_ready (rs := [1, 3]) (by kernel_rfl) (by simp) ?_
      refine AllReadyH.cons (o := ⟨some 17, .buildSlice 44 14 #[(0, .const (Value.int IntKind.i64 2)), (1, .const (Value.int IntKind.i64 4)), (2, .const (Value.int IntKind.i64 8)), (3, .const (Value.int IntKind.i64 16)), (4, .const (Value.int IntKind.i64 6)), (5, .const (Value.int IntKind.i64 12)), (6, .const (Value.int IntKind.i64 4)), (7, .const (Value.int IntKind.i64 2)), (8, .const (Value.int IntKind.i64 8)), (9, .const (Value.int IntKind.i64 10)), (10, .const (Value.int IntKind.i64 0)), (11, .const (Value.int IntKind.i64 3)), (12, .const (Value.int IntKind.i64 18)), (13, .const (Value.int IntKind.i64 (-2)))], 44, "ref.go:196", #[{ on := 6, ground := Ground.gcOnly Departure.lateStores }], none⟩) rfl (fun K hK => ?_) (AllReadyH.cons (o := ⟨some 19, .call { callee := .value (.func 25), args := #[.tmp 18, .const (Value.int IntKind.i64 14)], argTypes := #[3, 3] }, 3, "ref.go:196", #[⟨2, .data⟩], none⟩) rfl (fun K hK => ?_) AllReadyH.nil)
      · skip
        try rw [if_pos (by rfl)]
        go_simp
        have Kb := blk_new V0 3 ([.int .i64 2, .int .i64 4, .int .i64 8, .int .i64 16, .int .i64 6, .int .i64 12, .int .i64 4, .int .i64 2, .int .i64 8, .int .i64 10, .int .i64 0, .int .i64 3, .int .i64 18, .int .i64 (-2)] : List Value).toArray
        refine hK.out _ _ (hHeld.alloc hz0 _) (fun hHeld => ?_)
        clear hK K
        try simp only [zP, zQ, zS, zZ, zC]
        refine wpAnyH_ready (rs := [3]) (by kernel_rfl) (by simp) ?_
        refine AllReadyH.cons (o := ⟨some 19, .call { callee := .value (.func 25), args := #[.tmp 18, .const (Value.int IntKind.i64 14)], argTypes := #[3, 3] }, 3, "ref.go:196", #[⟨2, .data⟩], none⟩) rfl (fun K hK => ?_) AllReadyH.nil
        try rw [if_pos (by rfl)]
        go_simp
        refine (AR.out _).mono ?_
        rintro _ w9 ⟨r, hr, rfl, rfl⟩
        refine hK.out _ _ (hHeld) (fun hHeld => ?_)
        clear hK K
        try simp only [zP, zQ, zS, zZ, zC]
        refine wt (i := 4) (oi := ⟨some 20, .indexAddr 44 (.tmp 17) (.tmp 19), 0, "ref.go:196", #[⟨1, .data⟩, ⟨3, .data⟩, { on := 6, ground := Ground.gcOnly Departure.lateStores }], none⟩) (v := .pointer (some ⟨V0.heap.size, r, none⟩)) (Or.inl ⟨by rfl, fun w' hSw => by go_simp; try (intro hcm; exact absurd hcm (by omega))⟩) hHeld ?_
        try simp only [zP, zQ, zS, zZ, zC]
        refine wpAnyH_ready (rs := [5, 6]) (by kernel_rfl) (by simp) ?_
        refine AllReadyH.cons (o := ⟨some 21, .load 3 (.tmp 20), 3, "ref.go:196", #[⟨4, .data⟩, { on := 6, ground := Ground.gcOnly Departure.lateStores }], none⟩) rfl (fun K hK => ?_) (AllReadyH.cons (o := ⟨some 4, .assign (.tmp 16), 3, "ref.go:196", #[⟨0, .data⟩, ⟨3, .chain⟩, ⟨0, .phase⟩, { on := 1, ground := Ground.textOnly Departure.lateStores }, { on := 2, ground := Ground.textOnly Departure.lateStores }, { on := 3, ground := Ground.textOnly Departure.lateStoresUnsure }, { on := 4, ground := Ground.textOnly Departure.lateStores }, { on := 5, ground := Ground.textOnly Departure.lateStores }], none⟩) rfl (fun K hK => ?_) AllReadyH.nil)
        · skip
          try rw [if_pos (by rfl)]
          obtain ⟨x, hx, hx1, hx2⟩ := vol_at r hr
          have hcx := Kb.cell (j := r) hx
          go_simp
          refine hK.out _ _ (hHeld) (fun hHeld => ?_)
          clear hK K
          try simp only [zP, zQ, zS, zZ, zC]
          refine wpAnyH_ready (rs := [6]) (by kernel_rfl) (by simp) ?_
          refine AllReadyH.cons (o := ⟨some 4, .assign (.tmp 16), 3, "ref.go:196", #[⟨0, .data⟩, ⟨3, .chain⟩, ⟨0, .phase⟩, { on := 1, ground := Ground.textOnly Departure.lateStores }, { on := 2, ground := Ground.textOnly Departure.lateStores }, { on := 3, ground := Ground.textOnly Departure.lateStoresUnsure }, { on := 4, ground := Ground.textOnly Departure.lateStores }, { on := 5, ground := Ground.textOnly Departure.lateStores }], none⟩) rfl (fun K hK => ?_) AllReadyH.nil
          try rw [if_pos (by rfl)]
          go_simp
          refine hK.out _ _ (hHeld) (fun hHeld => ?_)
          clear hK K
          try simp only [zP, zQ, zS, zZ, zC]
          refine wpAnyH_ready (rs := [7]) (by kernel_rfl) (by simp) ?_
          refine AllReadyH.cons (o := ⟨some 5, .assign (.tmp 21), 3, "ref.go:196", #[⟨5, .data⟩, ⟨6, .chain⟩, ⟨0, .phase⟩, ⟨1, .phase⟩, ⟨2, .phase⟩, ⟨3, .phase⟩, ⟨4, .phase⟩, ⟨5, .phase⟩, ⟨6, .phase⟩], none⟩) rfl (fun K hK => ?_) AllReadyH.nil
          try rw [if_pos (by rfl)]
          go_simp
          refine hK.out _ _ (hHeld) (fun hHeld => ?_)
          clear hK K
          try simp only [zP, zQ, zS, zZ, zC]
          refine wpAnyH_done (by kernel_rfl) ?_ _
          have BX := hHeld
          clear hHeld 
          go_wp2
          go_ret2
          exact ⟨P, x, rfl, hP1, hP2, hx1, hx2, BX⟩
        · skip
          try rw [if_pos (by rfl)]
          go_simp
          refine hK.out _ _ (hHeld) (fun hHeld => ?_)
          clear hK K
          try simp only [zP, zQ, zS, zZ, zC]
          refine wpAnyH_ready (rs := [5]) (by kernel_rfl) (by simp) ?_
          refine AllReadyH.cons (o := ⟨some 21, .load 3 (.tmp 20), 3, "ref.go:196", #[⟨4, .data⟩, { on := 6, ground := Ground.gcOnly Departure.lateStores }], none⟩) rfl (fun K hK => ?_) AllReadyH.nil
          try rw [if_pos (by rfl)]
          obtain ⟨x, hx, hx1, hx2⟩ := vol_at r hr
          have hcx := Kb.cell (j := r) hx
          go_simp
          refine hK.out _ _ (hHeld) (fun hHeld => ?_)
          clear hK K
          try simp only [zP, zQ, zS, zZ, zC]
          refine wpAnyH_ready (rs := [7]) (by kernel_rfl) (by simp) ?_
          refine AllReadyH.cons (o := ⟨some 5, .assign (.tmp 21), 3, "ref.go:196", #[⟨5, .data⟩, ⟨6, .chain⟩, ⟨0, .phase⟩, ⟨1, .phase⟩, ⟨2, .phase⟩, ⟨3, .phase⟩, ⟨4, .phase⟩, ⟨5, .phase⟩, ⟨6, .phase⟩], none⟩) rfl (fun K hK => ?_) AllReadyH.nil
          try rw [if_pos (by rfl)]
          go_simp
          refine hK.out _ _ (hHeld) (fun hHeld => ?_)
          clear hK K
          try simp only [zP, zQ, zS, zZ, zC]
          refine wpAnyH_done (by kernel_rfl) ?_ _
          have BX := hHeld
          clear hHeld 
          go_wp2
          go_ret2
          exact ⟨P, x, rfl, hP1, hP2, hx1, hx2, BX⟩
      · skip
        try rw [if_pos (by rfl)]
        go_simp
        refine (AR.out _).mono ?_
        rintro _ w9 ⟨r, hr, rfl, rfl⟩
        refine hK.out _ _ (hHeld) (fun hHeld => ?_)
        clear hK K
        try simp only [zP, zQ, zS, zZ, zC]
        refine wpAnyH_ready (rs := [1, 6]) (by kernel_rfl) (by simp) ?_
        refine AllReadyH.cons (o := ⟨some 17, .buildSlice 44 14 #[(0, .const (Value.int IntKind.i64 2)), (1, .const (Value.int IntKind.i64 4)), (2, .const (Value.int IntKind.i64 8)), (3, .const (Value.int IntKind.i64 16)), (4, .const (Value.int IntKind.i64 6)), (5, .const (Value.int IntKind.i64 12)), (6, .const (Value.int IntKind.i64 4)), (7, .const (Value.int IntKind.i64 2)), (8, .const (Value.int IntKind.i64 8)), (9, .const (Value.int IntKind.i64 10)), (10, .const (Value.int IntKind.i64 0)), (11, .const (Value.int IntKind.i64 3)), (12, .const (Value.int IntKind.i64 18)), (13, .const (Value.int IntKind.i64 (-2)))], 44, "ref.go:196", #[{ on := 6, ground := Ground.gcOnly Departure.lateStores }], none⟩) rfl (fun K hK => ?_) (AllReadyH.cons (o := ⟨some 4, .assign (.tmp 16), 3, "ref.go:196", #[⟨0, .data⟩, ⟨3, .chain⟩, ⟨0, .phase⟩, { on := 1, ground := Ground.textOnly Departure.lateStores }, { on := 2, ground := Ground.textOnly Departure.lateStores }, { on := 3, ground := Ground.textOnly Departure.lateStoresUnsure }, { on := 4, ground := Ground.textOnly Departure.lateStores }, { on := 5, ground := Ground.textOnly Departure.lateStores }], none⟩) rfl (fun K hK => ?_) AllReadyH.nil)
        · skip
          try rw [if_pos (by rfl)]
          go_simp
          have Kb := blk_new V0 3 ([.int .i64 2, .int .i64 4, .int .i64 8, .int .i64 16, .int .i64 6, .int .i64 12, .int .i64 4, .int .i64 2, .int .i64 8, .int .i64 10, .int .i64 0, .int .i64 3, .int .i64 18, .int .i64 (-2)] : List Value).toArray
          refine hK.out _ _ (hHeld.alloc hz0 _) (fun hHeld => ?_)
          clear hK K
          try simp only [zP, zQ, zS, zZ, zC]
          refine wt (i := 4) (oi := ⟨some 20, .indexAddr 44 (.tmp 17) (.tmp 19), 0, "ref.go:196", #[⟨1, .data⟩, ⟨3, .data⟩, { on := 6, ground := Ground.gcOnly Departure.lateStores }], none⟩) (v := .pointer (some ⟨V0.heap.size, r, none⟩)) (Or.inl ⟨by rfl, fun w' hSw => by go_simp; try (intro hcm; exact absurd hcm (by omega))⟩) hHeld ?_
          try simp only [zP, zQ, zS, zZ, zC]
          refine wpAnyH_ready (rs := [5, 6]) (by kernel_rfl) (by simp) ?_
          refine AllReadyH.cons (o := ⟨some 21, .load 3 (.tmp 20), 3, "ref.go:196", #[⟨4, .data⟩, { on := 6, ground := Ground.gcOnly Departure.lateStores }], none⟩) rfl (fun K hK => ?_) (AllReadyH.cons (o := ⟨some 4, .assign (.tmp 16), 3, "ref.go:196", #[⟨0, .data⟩, ⟨3, .chain⟩, ⟨0, .phase⟩, { on := 1, ground := Ground.textOnly Departure.lateStores }, { on := 2, ground := Ground.textOnly Departure.lateStores }, { on := 3, ground := Ground.textOnly Departure.lateStoresUnsure }, { on := 4, ground := Ground.textOnly Departure.lateStores }, { on := 5, ground := Ground.textOnly Departure.lateStores }], none⟩) rfl (fun K hK => ?_) AllReadyH.nil)
          · skip
            try rw [if_pos (by rfl)]
            obtain ⟨x, hx, hx1, hx2⟩ := vol_at r hr
            have hcx := Kb.cell (j := r) hx
            go_simp
            refine hK.out _ _ (hHeld) (fun hHeld => ?_)
            clear hK K
            try simp only [zP, zQ, zS, zZ, zC]
            refine wpAnyH_ready (rs := [6]) (by kernel_rfl) (by simp) ?_
            refine AllReadyH.cons (o := ⟨some 4, .assign (.tmp 16), 3, "ref.go:196", #[⟨0, .data⟩, ⟨3, .chain⟩, ⟨0, .phase⟩, { on := 1, ground := Ground.textOnly Departure.lateStores }, { on := 2, ground := Ground.textOnly Departure.lateStores }, { on := 3, ground := Ground.textOnly Departure.lateStoresUnsure }, { on := 4, ground := Ground.textOnly Departure.lateStores }, { on := 5, ground := Ground.textOnly Departure.lateStores }], none⟩) rfl (fun K hK => ?_) AllReadyH.nil
            try rw [if_pos (by rfl)]
            go_simp
            refine hK.out _ _ (hHeld) (fun hHeld => ?_)
            clear hK K
            try simp only [zP, zQ, zS, zZ, zC]
            refine wpAnyH_ready (rs := [7]) (by kernel_rfl) (by simp) ?_
            refine AllReadyH.cons (o := ⟨some 5, .assign (.tmp 21), 3, "ref.go:196", #[⟨5, .data⟩, ⟨6, .chain⟩, ⟨0, .phase⟩, ⟨1, .phase⟩, ⟨2, .phase⟩, ⟨3, .phase⟩, ⟨4, .phase⟩, ⟨5, .phase⟩, ⟨6, .phase⟩], none⟩) rfl (fun K hK => ?_) AllReadyH.nil
            try rw [if_pos (by rfl)]
            go_simp
            refine hK.out _ _ (hHeld) (fun hHeld => ?_)
            clear hK K
            try simp only [zP, zQ, zS, zZ, zC]
            refine wpAnyH_done (by kernel_rfl) ?_ _
            have BX := hHeld
            clear hHeld 
            go_wp2
            go_ret2
            exact ⟨P, x, rfl, hP1, hP2, hx1, hx2, BX⟩
          · skip
            try rw [if_pos (by rfl)]
            go_simp
            refine hK.out _ _ (hHeld) (fun hHeld => ?_)
            clear hK K
            try simp only [zP, zQ, zS, zZ, zC]
            refine wpAnyH_ready (rs := [5]) (by kernel_rfl) (by simp) ?_
            refine AllReadyH.cons (o := ⟨some 21, .load 3 (.tmp 20), 3, "ref.go:196", #[⟨4, .data⟩, { on := 6, ground := Ground.gcOnly Departure.lateStores }], none⟩) rfl (fun K hK => ?_) AllReadyH.nil
            try rw [if_pos (by rfl)]
            obtain ⟨x, hx, hx1, hx2⟩ := vol_at r hr
            have hcx := Kb.cell (j := r) hx
            go_simp
            refine hK.out _ _ (hHeld) (fun hHeld => ?_)
            clear hK K
            try simp only [zP, zQ, zS, zZ, zC]
            refine wpAnyH_ready (rs := [7]) (by kernel_rfl) (by simp) ?_
            refine AllReadyH.cons (o := ⟨some 5, .assign (.tmp 21), 3, "ref.go:196", #[⟨5, .data⟩, ⟨6, .chain⟩, ⟨0, .phase⟩, ⟨1, .phase⟩, ⟨2, .phase⟩, ⟨3, .phase⟩, ⟨4, .phase⟩, ⟨5, .phase⟩, ⟨6, .phase⟩], none⟩) rfl (fun K hK => ?_) AllReadyH.nil
            try rw [if_pos (by rfl)]
            go_simp
            refine hK.out _ _ (hHeld) (fun hHeld => ?_)
            clear hK K
            try simp only [zP, zQ, zS, zZ, zC]
            refine wpAnyH_done (by kernel_rfl) ?_ _
            have BX := hHeld
            clear hHeld 
            go_wp2
            go_ret2
            exact ⟨P, x, rfl, hP1, hP2, hx1, hx2, BX⟩
        · skip
          try rw [if_pos (by rfl)]
          go_simp
          refine hK.out _ _ (hHeld) (fun hHeld => ?_)
          clear hK K
          try simp only [zP, zQ, zS, zZ, zC]
          refine wpAnyH_ready (rs := [1]) (by kernel_rfl) (by simp) ?_
          refine AllReadyH.cons (o := ⟨some 17, .buildSlice 44 14 #[(0, .const (Value.int IntKind.i64 2)), (1, .const (Value.int IntKind.i64 4)), (2, .const (Value.int IntKind.i64 8)), (3, .const (Value.int IntKind.i64 16)), (4, .const (Value.int IntKind.i64 6)), (5, .const (Value.int IntKind.i64 12)), (6, .const (Value.int IntKind.i64 4)), (7, .const (Value.int IntKind.i64 2)), (8, .const (Value.int IntKind.i64 8)), (9, .const (Value.int IntKind.i64 10)), (10, .const (Value.int IntKind.i64 0)), (11, .const (Value.int IntKind.i64 3)), (12, .const (Value.int IntKind.i64 18)), (13, .const (Value.int IntKind.i64 (-2)))], 44, "ref.go:196", #[{ on := 6, ground := Ground.gcOnly Departure.lateStores }], none⟩) rfl (fun K hK => ?_) AllReadyH.nil
          try rw [if_pos (by rfl)]
          go_simp
          have Kb := blk_new V0 3 ([.int .i64 2, .int .i64 4, .int .i64 8, .int .i64 16, .int .i64 6, .int .i64 12, .int .i64 4, .int .i64 2, .int .i64 8, .int .i64 10, .int .i64 0, .int .i64 3, .int .i64 18, .int .i64 (-2)] : List Value).toArray
          refine hK.out _ _ (hHeld.alloc hz0 _) (fun hHeld => ?_)
          clear hK K
          try simp only [zP, zQ, zS, zZ, zC]
          refine wt (i := 4) (oi := ⟨some 20, .indexAddr 44 (.tmp 17) (.tmp 19), 0, "ref.go:196", #[⟨1, .data⟩, ⟨3, .data⟩, { on := 6, ground := Ground.gcOnly Departure.lateStores }], none⟩) (v := .pointer (some ⟨V0.heap.size, r, none⟩)) (Or.inl ⟨by rfl, fun w' hSw => by go_simp; try (intro hcm; exact absurd hcm (by omega))⟩) hHeld ?_
          try simp only [zP, zQ, zS, zZ, zC]
          refine wpAnyH_ready (rs := [5]) (by kernel_rfl) (by simp) ?_
          refine AllReadyH.cons (o := ⟨some 21, .load 3 (.tmp 20), 3, "ref.go:196", #[⟨4, .data⟩, { on := 6, ground := Ground.gcOnly Departure.lateStores }], none⟩) rfl (fun K hK => ?_) AllReadyH.nil
          try rw [if_pos (by rfl)]
          obtain ⟨x, hx, hx1, hx2⟩ := vol_at r hr
          have hcx := Kb.cell (j := r) hx
          go_simp
          refine hK.out _ _ (hHeld) (fun hHeld => ?_)
          clear hK K
          try simp only [zP, zQ, zS, zZ, zC]
          refine wpAnyH_ready (rs := [7]) (by kernel_rfl) (by simp) ?_
          refine AllReadyH.cons (o := ⟨some 5, .assign (.tmp 21), 3, "ref.go:196", #[⟨5, .data⟩, ⟨6, .chain⟩, ⟨0, .phase⟩, ⟨1, .phase⟩, ⟨2, .phase⟩, ⟨3, .phase⟩, ⟨4, .phase⟩, ⟨5, .phase⟩, ⟨6, .phase⟩], none⟩) rfl (fun K hK => ?_) AllReadyH.nil
          try rw [if_pos (by rfl)]
          go_simp
          refine hK.out _ _ (hHeld) (fun hHeld => ?_)
          clear hK K
          try simp only [zP, zQ, zS, zZ, zC]
          refine wpAnyH_done (by kernel_rfl) ?_ _
          have BX := hHeld
          clear hHeld 
          go_wp2
          go_ret2
          exact ⟨P, x, rfl, hP1, hP2, hx1, hx2, BX⟩
    · have hcx := K4.cell (j := 3) rfl
      clear hs hk K4
      go_upto_region 4 with (fail)
      clear hcx
      obtain ⟨P, hP⟩ : ∃ P : Int, (-1) = P := ⟨_, rfl⟩
      have hP1 : -1 ≤ P := by omega
      have hP2 : P ≤ 1000 := by omega
      rw [hP] at HX
      rw [hP]
      clear hP
      generalize World.alloc w _ = W1 at HX ⊢
      refine wp_region_held_drew (S := fun w' => Below w.heap.size w w') (by kernel_rfl) (below_drew (HX)) (fun _ => ?_)
      have hHeld : Below w.heap.size w W1.drew := below_drew (HX)
      generalize W1.drew = V0 at hHeld ⊢
      refine wt (i := 0) (oi := ⟨some 16, .move (.tmp 6), 3, "ref.go:196", #[], none⟩) (v := .int .i64 P) (Or.inl ⟨by rfl, fun w' hSw => by go_simp⟩) hHeld ?_
      try simp only [zP, zQ, zS, zZ, zC]
      refine wt (i := 2) (oi := ⟨some 18, .move (.tmp 1), 3, "ref.go:196", #[], none⟩) (v := .int .i64 m) (Or.inl ⟨by rfl, fun w' hSw => by go_simp⟩) hHeld ?_
      try simp only [zP, zQ, zS, zZ, zC]
      have hz0 : w.heap.size ≤ V0.heap.size := hHeld.size
      refine wpAnyH_ready (rs := [1, 3]) (by kernel_rfl) (by simp) ?_
      refine AllReadyH.cons (o := ⟨some 17, .buildSlice 44 14 #[(0, .const (Value.int IntKind.i64 2)), (1, .const (Value.int IntKind.i64 4)), (2, .const (Value.int IntKind.i64 8)), (3, .const (Value.int IntKind.i64 16)), (4, .const (Value.int IntKind.i64 6)), (5, .const (Value.int IntKind.i64 12)), (6, .const (Value.int IntKind.i64 4)), (7, .const (Value.int IntKind.i64 2)), (8, .const (Value.int IntKind.i64 8)), (9, .const (Value.int IntKind.i64 10)), (10, .const (Value.int IntKind.i64 0)), (11, .const (Value.int IntKind.i64 3)), (12, .const (Value.int IntKind.i64 18)), (13, .const (Value.int IntKind.i64 (-2)))], 44, "ref.go:196", #[{ on := 6, ground := Ground.gcOnly Departure.lateStores }], none⟩) rfl (fun K hK => ?_) (AllReadyH.cons (o := ⟨some 19, .call { callee := .value (.func 25), args := #[.tmp 18, .const (Value.int IntKind.i64 14)], argTypes := #[3, 3] }, 3, "ref.go:196", #[⟨2, .data⟩], none⟩) rfl (fun K hK => ?_) AllReadyH.nil)
      · skip
        try rw [if_pos (by rfl)]
        go_simp
        have Kb := blk_new V0 3 ([.int .i64 2, .int .i64 4, .int .i64 8, .int .i64 16, .int .i64 6, .int .i64 12, .int .i64 4, .int .i64 2, .int .i64 8, .int .i64 10, .int .i64 0, .int .i64 3, .int .i64 18, .int .i64 (-2)] : List Value).toArray
        refine hK.out _ _ (hHeld.alloc hz0 _) (fun hHeld => ?_)
        clear hK K
        try simp only [zP, zQ, zS, zZ, zC]
        refine wpAnyH_ready (rs := [3]) (by kernel_rfl) (by simp) ?_
        refine AllReadyH.cons (o := ⟨some 19, .call { callee := .value (.func 25), args := #[.tmp 18, .const (Value.int IntKind.i64 14)], argTypes := #[3, 3] }, 3, "ref.go:196", #[⟨2, .data⟩], none⟩) rfl (fun K hK => ?_) AllReadyH.nil
        try rw [if_pos (by rfl)]
        go_simp
        refine (AR.out _).mono ?_
        rintro _ w9 ⟨r, hr, rfl, rfl⟩
        refine hK.out _ _ (hHeld) (fun hHeld => ?_)
        clear hK K
        try simp only [zP, zQ, zS, zZ, zC]
        refine wt (i := 4) (oi := ⟨some 20, .indexAddr 44 (.tmp 17) (.tmp 19), 0, "ref.go:196", #[⟨1, .data⟩, ⟨3, .data⟩, { on := 6, ground := Ground.gcOnly Departure.lateStores }], none⟩) (v := .pointer (some ⟨V0.heap.size, r, none⟩)) (Or.inl ⟨by rfl, fun w' hSw => by go_simp; try (intro hcm; exact absurd hcm (by omega))⟩) hHeld ?_
        try simp only [zP, zQ, zS, zZ, zC]
        refine wpAnyH_ready (rs := [5, 6]) (by kernel_rfl) (by simp) ?_
        refine AllReadyH.cons (o := ⟨some 21, .load 3 (.tmp 20), 3, "ref.go:196", #[⟨4, .data⟩, { on := 6, ground := Ground.gcOnly Departure.lateStores }], none⟩) rfl (fun K hK => ?_) (AllReadyH.cons (o := ⟨some 4, .assign (.tmp 16), 3, "ref.go:196", #[⟨0, .data⟩, ⟨3, .chain⟩, ⟨0, .phase⟩, { on := 1, ground := Ground.textOnly Departure.lateStores }, { on := 2, ground := Ground.textOnly Departure.lateStores }, { on := 3, ground := Ground.textOnly Departure.lateStoresUnsure }, { on := 4, ground := Ground.textOnly Departure.lateStores }, { on := 5, ground := Ground.textOnly Departure.lateStores }], none⟩) rfl (fun K hK => ?_) AllReadyH.nil)
        · skip
          try rw [if_pos (by rfl)]
          obtain ⟨x, hx, hx1, hx2⟩ := vol_at r hr
          have hcx := Kb.cell (j := r) hx
          go_simp
          refine hK.out _ _ (hHeld) (fun hHeld => ?_)
          clear hK K
          try simp only [zP, zQ, zS, zZ, zC]
          refine wpAnyH_ready (rs := [6]) (by kernel_rfl) (by simp) ?_
          refine AllReadyH.cons (o := ⟨some 4, .assign (.tmp 16), 3, "ref.go:196", #[⟨0, .data⟩, ⟨3, .chain⟩, ⟨0, .phase⟩, { on := 1, ground := Ground.textOnly Departure.lateStores }, { on := 2, ground := Ground.textOnly Departure.lateStores }, { on := 3, ground := Ground.textOnly Departure.lateStoresUnsure }, { on := 4, ground := Ground.textOnly Departure.lateStores }, { on := 5, ground := Ground.textOnly Departure.lateStores }], none⟩) rfl (fun K hK => ?_) AllReadyH.nil
          try rw [if_pos (by rfl)]
          go_simp
          refine hK.out _ _ (hHeld) (fun hHeld => ?_)
          clear hK K
          try simp only [zP, zQ, zS, zZ, zC]
          refine wpAnyH_ready (rs := [7]) (by kernel_rfl) (by simp) ?_
          refine AllReadyH.cons (o := ⟨some 5, .assign (.tmp 21), 3, "ref.go:196", #[⟨5, .data⟩, ⟨6, .chain⟩, ⟨0, .phase⟩, ⟨1, .phase⟩, ⟨2, .phase⟩, ⟨3, .phase⟩, ⟨4, .phase⟩, ⟨5, .phase⟩, ⟨6, .phase⟩], none⟩) rfl (fun K hK => ?_) AllReadyH.nil
          try rw [if_pos (by rfl)]
          go_simp
          refine hK.out _ _ (hHeld) (fun hHeld => ?_)
          clear hK K
          try simp only [zP, zQ, zS, zZ, zC]
          refine wpAnyH_done (by kernel_rfl) ?_ _
          have BX := hHeld
          clear hHeld 
          go_wp2
          go_ret2
          exact ⟨P, x, rfl, hP1, hP2, hx1, hx2, BX⟩
        · skip
          try rw [if_pos (by rfl)]
          go_simp
          refine hK.out _ _ (hHeld) (fun hHeld => ?_)
          clear hK K
          try simp only [zP, zQ, zS, zZ, zC]
          refine wpAnyH_ready (rs := [5]) (by kernel_rfl) (by simp) ?_
          refine AllReadyH.cons (o := ⟨some 21, .load 3 (.tmp 20), 3, "ref.go:196", #[⟨4, .data⟩, { on := 6, ground := Ground.gcOnly Departure.lateStores }], none⟩) rfl (fun K hK => ?_) AllReadyH.nil
          try rw [if_pos (by rfl)]
          obtain ⟨x, hx, hx1, hx2⟩ := vol_at r hr
          have hcx := Kb.cell (j := r) hx
          go_simp
          refine hK.out _ _ (hHeld) (fun hHeld => ?_)
          clear hK K
          try simp only [zP, zQ, zS, zZ, zC]
          refine wpAnyH_ready (rs := [7]) (by kernel_rfl) (by simp) ?_
          refine AllReadyH.cons (o := ⟨some 5, .assign (.tmp 21), 3, "ref.go:196", #[⟨5, .data⟩, ⟨6, .chain⟩, ⟨0, .phase⟩, ⟨1, .phase⟩, ⟨2, .phase⟩, ⟨3, .phase⟩, ⟨4, .phase⟩, ⟨5, .phase⟩, ⟨6, .phase⟩], none⟩) rfl (fun K hK => ?_) AllReadyH.nil
          try rw [if_pos (by rfl)]
          go_simp
          refine hK.out _ _ (hHeld) (fun hHeld => ?_)
          clear hK K
          try simp only [zP, zQ, zS, zZ, zC]
          refine wpAnyH_done (by kernel_rfl) ?_ _
          have BX := hHeld
          clear hHeld 
          go_wp2
          go_ret2
          exact ⟨P, x, rfl, hP1, hP2, hx1, hx2, BX⟩
      · skip
        try rw [if_pos (by rfl)]
        go_simp
        refine (AR.out _).mono ?_
        rintro _ w9 ⟨r, hr, rfl, rfl⟩
        refine hK.out _ _ (hHeld) (fun hHeld => ?_)
        clear hK K
        try simp only [zP, zQ, zS, zZ, zC]
        refine wpAnyH_ready (rs := [1, 6]) (by kernel_rfl) (by simp) ?_
        refine AllReadyH.cons (o := ⟨some 17, .buildSlice 44 14 #[(0, .const (Value.int IntKind.i64 2)), (1, .const (Value.int IntKind.i64 4)), (2, .const (Value.int IntKind.i64 8)), (3, .const (Value.int IntKind.i64 16)), (4, .const (Value.int IntKind.i64 6)), (5, .const (Value.int IntKind.i64 12)), (6, .const (Value.int IntKind.i64 4)), (7, .const (Value.int IntKind.i64 2)), (8, .const (Value.int IntKind.i64 8)), (9, .const (Value.int IntKind.i64 10)), (10, .const (Value.int IntKind.i64 0)), (11, .const (Value.int IntKind.i64 3)), (12, .const (Value.int IntKind.i64 18)), (13, .const (Value.int IntKind.i64 (-2)))], 44, "ref.go:196", #[{ on := 6, ground := Ground.gcOnly Departure.lateStores }], none⟩) rfl (fun K hK => ?_) (AllReadyH.cons (o := ⟨some 4, .assign (.tmp 16), 3, "ref.go:196", #[⟨0, .data⟩, ⟨3, .chain⟩, ⟨0, .phase⟩, { on := 1, ground := Ground.textOnly Departure.lateStores }, { on := 2, ground := Ground.textOnly Departure.lateStores }, { on := 3, ground := Ground.textOnly Departure.lateStoresUnsure }, { on := 4, ground := Ground.textOnly Departure.lateStores }, { on := 5, ground := Ground.textOnly Departure.lateStores }], none⟩) rfl (fun K hK => ?_) AllReadyH.nil)
        · skip
          try rw [if_pos (by rfl)]
          go_simp
          have Kb := blk_new V0 3 ([.int .i64 2, .int .i64 4, .int .i64 8, .int .i64 16, .int .i64 6, .int .i64 12, .int .i64 4, .int .i64 2, .int .i64 8, .int .i64 10, .int .i64 0, .int .i64 3, .int .i64 18, .int .i64 (-2)] : List Value).toArray
          refine hK.out _ _ (hHeld.alloc hz0 _) (fun hHeld => ?_)
          clear hK K
          try simp only [zP, zQ, zS, zZ, zC]
          refine wt (i := 4) (oi := ⟨some 20, .indexAddr 44 (.tmp 17) (.tmp 19), 0, "ref.go:196", #[⟨1, .data⟩, ⟨3, .data⟩, { on := 6, ground := Ground.gcOnly Departure.lateStores }], none⟩) (v := .pointer (some ⟨V0.heap.size, r, none⟩)) (Or.inl ⟨by rfl, fun w' hSw => by go_simp; try (intro hcm; exact absurd hcm (by omega))⟩) hHeld ?_
          try simp only [zP, zQ, zS, zZ, zC]
          refine wpAnyH_ready (rs := [5, 6]) (by kernel_rfl) (by simp) ?_
          refine AllReadyH.cons (o := ⟨some 21, .load 3 (.tmp 20), 3, "ref.go:196", #[⟨4, .data⟩, { on := 6, ground := Ground.gcOnly Departure.lateStores }], none⟩) rfl (fun K hK => ?_) (AllReadyH.cons (o := ⟨some 4, .assign (.tmp 16), 3, "ref.go:196", #[⟨0, .data⟩, ⟨3, .chain⟩, ⟨0, .phase⟩, { on := 1, ground := Ground.textOnly Departure.lateStores }, { on := 2, ground := Ground.textOnly Departure.lateStores }, { on := 3, ground := Ground.textOnly Departure.lateStoresUnsure }, { on := 4, ground := Ground.textOnly Departure.lateStores }, { on := 5, ground := Ground.textOnly Departure.lateStores }], none⟩) rfl (fun K hK => ?_) AllReadyH.nil)
          · skip
            try rw [if_pos (by rfl)]
            obtain ⟨x, hx, hx1, hx2⟩ := vol_at r hr
            have hcx := Kb.cell (j := r) hx
            go_simp
            refine hK.out _ _ (hHeld) (fun hHeld => ?_)
            clear hK K
            try simp only [zP, zQ, zS, zZ, zC]
            refine wpAnyH_ready (rs := [6]) (by kernel_rfl) (by simp) ?_
            refine AllReadyH.cons (o := ⟨some 4, .assign (.tmp 16), 3, "ref.go:196", #[⟨0, .data⟩, ⟨3, .chain⟩, ⟨0, .phase⟩, { on := 1, ground := Ground.textOnly Departure.lateStores }, { on := 2, ground := Ground.textOnly Departure.lateStores }, { on := 3, ground := Ground.textOnly Departure.lateStoresUnsure }, { on := 4, ground := Ground.textOnly Departure.lateStores }, { on := 5, ground := Ground.textOnly Departure.lateStores }], none⟩) rfl (fun K hK => ?_) AllReadyH.nil
            try rw [if_pos (by rfl)]
            go_simp
            refine hK.out _ _ (hHeld) (fun hHeld => ?_)
            clear hK K
            try simp only [zP, zQ, zS, zZ, zC]
            refine wpAnyH_ready (rs := [7]) (by kernel_rfl) (by simp) ?_
            refine AllReadyH.cons (o := ⟨some 5, .assign (.tmp 21), 3, "ref.go:196", #[⟨5, .data⟩, ⟨6, .chain⟩, ⟨0, .phase⟩, ⟨1, .phase⟩, ⟨2, .phase⟩, ⟨3, .phase⟩, ⟨4, .phase⟩, ⟨5, .phase⟩, ⟨6, .phase⟩], none⟩) rfl (fun K hK => ?_) AllReadyH.nil
            try rw [if_pos (by rfl)]
            go_simp
            refine hK.out _ _ (hHeld) (fun hHeld => ?_)
            clear hK K
            try simp only [zP, zQ, zS, zZ, zC]
            refine wpAnyH_done (by kernel_rfl) ?_ _
            have BX := hHeld
            clear hHeld 
            go_wp2
            go_ret2
            exact ⟨P, x, rfl, hP1, hP2, hx1, hx2, BX⟩
          · skip
            try rw [if_pos (by rfl)]
            go_simp
            refine hK.out _ _ (hHeld) (fun hHeld => ?_)
            clear hK K
            try simp only [zP, zQ, zS, zZ, zC]
            refine wpAnyH_ready (rs := [5]) (by kernel_rfl) (by simp) ?_
            refine AllReadyH.cons (o := ⟨some 21, .load 3 (.tmp 20), 3, "ref.go:196", #[⟨4, .data⟩, { on := 6, ground := Ground.gcOnly Departure.lateStores }], none⟩) rfl (fun K hK => ?_) AllReadyH.nil
            try rw [if_pos (by rfl)]
            obtain ⟨x, hx, hx1, hx2⟩ := vol_at r hr
            have hcx := Kb.cell (j := r) hx
            go_simp
            refine hK.out _ _ (hHeld) (fun hHeld => ?_)
            clear hK K
            try simp only [zP, zQ, zS, zZ, zC]
            refine wpAnyH_ready (rs := [7]) (by kernel_rfl) (by simp) ?_
            refine AllReadyH.cons (o := ⟨some 5, .assign (.tmp 21), 3, "ref.go:196", #[⟨5, .data⟩, ⟨6, .chain⟩, ⟨0, .phase⟩, ⟨1, .phase⟩, ⟨2, .phase⟩, ⟨3, .phase⟩, ⟨4, .phase⟩, ⟨5, .phase⟩, ⟨6, .phase⟩], none⟩) rfl (fun K hK => ?_) AllReadyH.nil
            try rw [if_pos (by rfl)]
            go_simp
            refine hK.out _ _ (hHeld) (fun hHeld => ?_)
            clear hK K
            try simp only [zP, zQ, zS, zZ, zC]
            refine wpAnyH_done (by kernel_rfl) ?_ _
            have BX := hHeld
            clear hHeld 
            go_wp2
            go_ret2
            exact ⟨P, x, rfl, hP1, hP2, hx1, hx2, BX⟩
        · skip
          try rw [if_pos (by rfl)]
          go_simp
          refine hK.out _ _ (hHeld) (fun hHeld => ?_)
          clear hK K
          try simp only [zP, zQ, zS, zZ, zC]
          refine wpAnyH_ready (rs := [1]) (by kernel_rfl) (by simp) ?_
          refine AllReadyH.cons (o := ⟨some 17, .buildSlice 44 14 #[(0, .const (Value.int IntKind.i64 2)), (1, .const (Value.int IntKind.i64 4)), (2, .const (Value.int IntKind.i64 8)), (3, .const (Value.int IntKind.i64 16)), (4, .const (Value.int IntKind.i64 6)), (5, .const (Value.int IntKind.i64 12)), (6, .const (Value.int IntKind.i64 4)), (7, .const (Value.int IntKind.i64 2)), (8, .const (Value.int IntKind.i64 8)), (9, .const (Value.int IntKind.i64 10)), (10, .const (Value.int IntKind.i64 0)), (11, .const (Value.int IntKind.i64 3)), (12, .const (Value.int IntKind.i64 18)), (13, .const (Value.int IntKind.i64 (-2)))], 44, "ref.go:196", #[{ on := 6, ground := Ground.gcOnly Departure.lateStores }], none⟩) rfl (fun K hK => ?_) AllReadyH.nil
          try rw [if_pos (by rfl)]
          go_simp
          have Kb := blk_new V0 3 ([.int .i64 2, .int .i64 4, .int .i64 8, .int .i64 16, .int .i64 6, .int .i64 12, .int .i64 4, .int .i64 2, .int .i64 8, .int .i64 10, .int .i64 0, .int .i64 3, .int .i64 18, .int .i64 (-2)] : List Value).toArray
          refine hK.out _ _ (hHeld.alloc hz0 _) (fun hHeld => ?_)
          clear hK K
          try simp only [zP, zQ, zS, zZ, zC]
          refine wt (i := 4) (oi := ⟨some 20, .indexAddr 44 (.tmp 17) (.tmp 19), 0, "ref.go:196", #[⟨1, .data⟩, ⟨3, .data⟩, { on := 6, ground := Ground.gcOnly Departure.lateStores }], none⟩) (v := .pointer (some ⟨V0.heap.size, r, none⟩)) (Or.inl ⟨by rfl, fun w' hSw => by go_simp; try (intro hcm; exact absurd hcm (by omega))⟩) hHeld ?_
          try simp only [zP, zQ, zS, zZ, zC]
          refine wpAnyH_ready (rs := [5]) (by kernel_rfl) (by simp) ?_
          refine AllReadyH.cons (o := ⟨some 21, .load 3 (.tmp 20), 3, "ref.go:196", #[⟨4, .data⟩, { on := 6, ground := Ground.gcOnly Departure.lateStores }], none⟩) rfl (fun K hK => ?_) AllReadyH.nil
          try rw [if_pos (by rfl)]
          obtain ⟨x, hx, hx1, hx2⟩ := vol_at r hr
          have hcx := Kb.cell (j := r) hx
          go_simp
          refine hK.out _ _ (hHeld) (fun hHeld => ?_)
          clear hK K
          try simp only [zP, zQ, zS, zZ, zC]
          refine wpAnyH_ready (rs := [7]) (by kernel_rfl) (by simp) ?_
          refine AllReadyH.cons (o := ⟨some 5, .assign (.tmp 21), 3, "ref.go:196", #[⟨5, .data⟩, ⟨6, .chain⟩, ⟨0, .phase⟩, ⟨1, .phase⟩, ⟨2, .phase⟩, ⟨3, .phase⟩, ⟨4, .phase⟩, ⟨5, .phase⟩, ⟨6, .phase⟩], none⟩) rfl (fun K hK => ?_) AllReadyH.nil
          try rw [if_pos (by rfl)]
          go_simp
          refine hK.out _ _ (hHeld) (fun hHeld => ?_)
          clear hK K
          try simp only [zP, zQ, zS, zZ, zC]
          refine wpAnyH_done (by kernel_rfl) ?_ _
          have BX := hHeld
          clear hHeld 
          go_wp2
          go_ret2
          exact ⟨P, x, rfl, hP1, hP2, hx1, hx2, BX⟩
end Go.Proofs.Ytahmpagolmodhaa
