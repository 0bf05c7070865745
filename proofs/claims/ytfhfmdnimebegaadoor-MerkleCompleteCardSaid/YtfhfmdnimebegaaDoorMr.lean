/-
  merkle.row: the digest of a row of leaves.
-/
import Derived.Test.YtfhfmdnimebegaaDoorMj
namespace Go.Proofs.YtfhfmdnimebegaaDoor
open Go.RowKit
set_option linter.unusedVariables false
set_option linter.unusedSimpArgs false

/-- A slice of leaves that starts at the cell off of the block b. -/
def Lvs (w : World) (b off : Nat) (ls : List Lf) : Prop :=
  b < w.heap.size ∧ ∀ i x, ls[i]? = some x → w.cell? ⟨b, off + 2 * i, none⟩ = some (.string x.1) ∧ w.cell? ⟨b, off + (2 * i + 1), none⟩ = some (.string x.2)
theorem Lvs.keep {w w' : World} {b off : Nat} {ls : List Lf} (h : Lvs w b off ls) (hb : Below w.heap.size w w') : Lvs w' b off ls :=
  ⟨Nat.lt_of_lt_of_le h.1 hb.size, fun i x hx => ⟨(hb.cell h.1).trans (h.2 i x hx).1, (hb.cell h.1).trans (h.2 i x hx).2⟩⟩
theorem Lvs.take {w : World} {b off : Nat} {ls : List Lf} (h : Lvs w b off ls) (k : Nat) : Lvs w b off (ls.take k) := by
  refine ⟨h.1, fun i x hx => ?_⟩
  rw [List.getElem?_take] at hx
  split at hx
  · exact h.2 i x hx
  · cases hx
theorem Lvs.drop {w : World} {b off : Nat} {ls : List Lf} (h : Lvs w b off ls) (k : Nat) : Lvs w b (off + 2 * k) (ls.drop k) := by
  refine ⟨h.1, fun i x hx => ?_⟩
  have := h.2 (k + i) x (by rw [← hx, List.getElem?_drop])
  rw [show off + 2 * k + 2 * i = off + 2 * (k + i) by omega, show off + 2 * k + (2 * i + 1) = off + (2 * (k + i) + 1) by omega]
  exact this
/-- Keys and values that are not too long. -/
def Small (ls : List Lf) : Prop := ∀ x ∈ ls, x.1.size ≤ 1048576 ∧ x.2.size ≤ 1048576
theorem Small.take {ls : List Lf} (h : Small ls) (k : Nat) : Small (ls.take k) := fun x hx => h x (List.mem_of_mem_take hx)
theorem Small.drop {ls : List Lf} (h : Small ls) (k : Nat) : Small (ls.drop k) := fun x hx => h x (List.mem_of_mem_drop hx)
theorem size_leaf (w : World) : (Go.sizeOf 41).run Tryd.prog w = .ok 2 w := by kernel_rfl

set_option maxHeartbeats 2000000 in
set_option maxRecDepth 100000 in
theorem mrow_one (x : Lf) (b off c : Nat) (w : World) (hG : Glob w) (hL : Lvs w b off [x]) (hS : Small [x]) :
    Calls Tryd.prog 42 #[.slice (some ⟨b, off, none⟩) 1 c] w fun e w' => e = .returned (.agg (bytesV (rowM [x])).toArray) ∧ Below w.heap.size w w' := by
  have hz1 := zero_dig'
  have hz2 := size_leaf
  obtain ⟨M, hM⟩ : ∃ M, rowM [x] = M := ⟨_, rfl⟩
  have hMd : Dgt M := by rw [← hM]; exact dig_ofS _ _
  have HM : Hid (ofS 3 (sbs [x.1, x.2]) = M) := Lib.hid (by rw [← hM]; rfl)
  rw [hM]
  clear hM
  have hsz : ∀ s ∈ [x.1, x.2], s.size ≤ 1048576 := by
    have := hS x List.mem_cons_self
    intro s hs
    simp only [List.mem_cons, List.mem_nil_iff, or_false] at hs
    rcases hs with rfl | rfl
    · exact this.1
    · exact this.2
  obtain ⟨hb, h0, h1⟩ : b < w.heap.size ∧ w.cell? ⟨b, off, none⟩ = some (.string x.1) ∧ w.cell? ⟨b, off + 1, none⟩ = some (.string x.2) := by
    have := hL.2 0 x rfl
    exact ⟨hL.1, by simpa using this.1, by simpa using this.2⟩
  clear hL hS
  go_enter Tryd.func42, Tryd.ntmps42
  go_upto_region 2 with (fail)
  generalize hw0 : World.alloc _ _ = W0
  have K2 : Blk W0 w.heap.size 29 (bytesV z16) := hw0 ▸ (blk_new w _ _)
  have KB : Below w.heap.size w W0 := hw0 ▸ ((Below.refl _ _).alloc (Nat.le_refl _) _)
  clear hw0 hz1
  have hHeld : True := trivial
  refine wp_region_held_drew (S := fun w' => Below w.heap.size W0.drew w') (by kernel_rfl) (Below.refl _ _) (fun _ => ?_)
  have L2 : Blk W0.drew w.heap.size 29 (bytesV z16) := K2
  have CB : Below w.heap.size w W0.drew := below_drew KB
  clear K2 KB
  generalize W0.drew = V0 at L2 CB ⊢
  have hHeld : Below w.heap.size V0 V0 := Below.refl _ _
  have hv0 := CB.size
  have C0 : ∀ w', Below w.heap.size V0 w' → w'.cell? ⟨b, off, none⟩ = some (.string x.1) := fun w' h => (h.cell hb).trans ((CB.cell hb).trans h0)
  have C1 : ∀ w', Below w.heap.size V0 w' → w'.cell? ⟨b, off + 1, none⟩ = some (.string x.2) := fun w' h => (h.cell hb).trans ((CB.cell hb).trans h1)
  refine wpAnyH_take (i := 0) (oi := ⟨some 7, .move (.tmp 0), 33, "merkle.go:58", #[], none⟩) (v := .slice (some ⟨b, off, none⟩) 1 c) rfl (by kernel_rfl) (by kernel_rfl) (by kernel_rfl) (fun _ _ _ h => h) (Or.inl ⟨by rfl, fun w' hSw => by go_simp⟩) hHeld ?_
  try simp only [Act.put, List.setIfInBounds_toArray, List.set_cons_zero, List.set_cons_succ]
  refine wpAnyH_take (i := 1) (oi := ⟨some 8, .indexAddr 33 (.tmp 7) (.const (Value.int IntKind.i64 0)), 0, "merkle.go:58", #[⟨0, .data⟩], none⟩) (v := .pointer (some ⟨b, off, none⟩)) rfl (by kernel_rfl) (by kernel_rfl) (by kernel_rfl) (fun _ _ _ h => h) (Or.inl ⟨by rfl, fun w' hSw => by go_simp⟩) hHeld ?_
  try simp only [Act.put, List.setIfInBounds_toArray, List.set_cons_zero, List.set_cons_succ]
  refine wpAnyH_take (i := 2) (oi := ⟨some 9, .fieldAddr 41 (.tmp 8) 0, 0, "merkle.go:58", #[⟨1, .data⟩], none⟩) (v := .pointer (some ⟨b, off, none⟩)) rfl (by kernel_rfl) (by kernel_rfl) (by kernel_rfl) (fun _ _ _ h => h) (Or.inl ⟨by rfl, fun w' hSw => by go_simp⟩) hHeld ?_
  try simp only [Act.put, List.setIfInBounds_toArray, List.set_cons_zero, List.set_cons_succ]
  refine wpAnyH_take (i := 3) (oi := ⟨some 10, .load 9 (.tmp 9), 9, "merkle.go:58", #[⟨2, .data⟩], none⟩) (v := .string x.1) rfl (by kernel_rfl) (by kernel_rfl) (by kernel_rfl) (fun _ _ _ h => h) (Or.inl ⟨by rfl, fun w' hSw => by have hc := C0 w' hSw; go_simp⟩) hHeld ?_
  try simp only [Act.put, List.setIfInBounds_toArray, List.set_cons_zero, List.set_cons_succ]
  refine wpAnyH_take (i := 4) (oi := ⟨some 11, .move (.tmp 0), 33, "merkle.go:58", #[], none⟩) (v := .slice (some ⟨b, off, none⟩) 1 c) rfl (by kernel_rfl) (by kernel_rfl) (by kernel_rfl) (fun _ _ _ h => h) (Or.inl ⟨by rfl, fun w' hSw => by go_simp⟩) hHeld ?_
  try simp only [Act.put, List.setIfInBounds_toArray, List.set_cons_zero, List.set_cons_succ]
  refine wpAnyH_take (i := 5) (oi := ⟨some 12, .indexAddr 33 (.tmp 11) (.const (Value.int IntKind.i64 0)), 0, "merkle.go:58", #[⟨4, .data⟩], none⟩) (v := .pointer (some ⟨b, off, none⟩)) rfl (by kernel_rfl) (by kernel_rfl) (by kernel_rfl) (fun _ _ _ h => h) (Or.inl ⟨by rfl, fun w' hSw => by go_simp⟩) hHeld ?_
  try simp only [Act.put, List.setIfInBounds_toArray, List.set_cons_zero, List.set_cons_succ]
  refine wpAnyH_take (i := 6) (oi := ⟨some 13, .fieldAddr 41 (.tmp 12) 1, 0, "merkle.go:58", #[⟨5, .data⟩], none⟩) (v := .pointer (some ⟨b, off + 1, none⟩)) rfl (by kernel_rfl) (by kernel_rfl) (by kernel_rfl) (fun _ _ _ h => h) (Or.inl ⟨by rfl, fun w' hSw => by go_simp⟩) hHeld ?_
  try simp only [Act.put, List.setIfInBounds_toArray, List.set_cons_zero, List.set_cons_succ]
  refine wpAnyH_take (i := 7) (oi := ⟨some 14, .load 9 (.tmp 13), 9, "merkle.go:58", #[⟨6, .data⟩], none⟩) (v := .string x.2) rfl (by kernel_rfl) (by kernel_rfl) (by kernel_rfl) (fun _ _ _ h => h) (Or.inl ⟨by rfl, fun w' hSw => by have hc := C1 w' hSw; go_simp⟩) hHeld ?_
  try simp only [Act.put, List.setIfInBounds_toArray, List.set_cons_zero, List.set_cons_succ]
  refine wpAnyH_ready (rs := [8]) (by kernel_rfl) (by simp) ?_
  refine AllReadyH.cons (o := ⟨some 15, .buildSlice 47 2 #[(0, .tmp 10), (1, .tmp 14)], 47, "merkle.go:58", #[⟨3, .data⟩, ⟨7, .data⟩], none⟩) rfl (fun K hK => ?_) AllReadyH.nil
  rw [if_pos (by rfl)]
  go_simp
  refine hK.out _ _ ((Below.refl _ _).alloc hv0 _) (fun hHeld => ?_)
  clear hK K
  try simp only [Act.put, List.setIfInBounds_toArray, List.set_cons_zero, List.set_cons_succ]
  refine wpAnyH_ready (rs := [9]) (by kernel_rfl) (by simp) ?_
  refine AllReadyH.cons (o := ⟨some 16, .call { callee := .value (.func 57), args := #[.const (Value.int IntKind.i64 3), .tmp 15], argTypes := #[3, 47] }, 29, "merkle.go:58", #[⟨8, .data⟩], none⟩) rfl (fun K hK => ?_) AllReadyH.nil
  rw [if_pos (by rfl)]
  go_simp
  refine (of_lit 3 (by omega) [x.1, x.2] (by simp) hsz _ rfl 2 rfl V0 (hG.keep CB)).mono ?_
  rintro e V1 ⟨rfl, hB1⟩
  rw [show ofS 3 (sbs [x.1, x.2]) = M from HM.out]
  dsimp only
  refine hK.out _ _ (hB1.mono hv0) (fun hHeld => ?_)
  clear hK K
  try simp only [Act.put, List.setIfInBounds_toArray, List.set_cons_zero, List.set_cons_succ]
  have hvM : (bytesV M).length = 16 := by rw [bytesV_length]; exact hMd.1
  have hvz : (bytesV z16).length = 16 := rfl
  have K4 := L2.keep hB1
  have hst := K4.storeRun (vs := bytesV M) (by rw [hvM, hvz]) (bytesV_cells M)
  have CS := (only_sets w.heap.size 0 V1 (bytesV M)).2.2 _ _ (Nat.le_refl _) (hB1.mono hv0)
  refine wpAnyH_ready (rs := [10]) (by kernel_rfl) (by simp) ?_
  refine AllReadyH.cons (o := ⟨none, .store 29 (.tmp 2) (.tmp 16), 0, "merkle.go:58", #[⟨9, .data⟩, ⟨9, .chain⟩, ⟨0, .phase⟩, ⟨1, .phase⟩, ⟨2, .phase⟩, ⟨3, .phase⟩, ⟨4, .phase⟩, ⟨5, .phase⟩, ⟨6, .phase⟩, ⟨7, .phase⟩, ⟨8, .phase⟩, ⟨9, .phase⟩], none⟩) rfl (fun K hK => ?_) AllReadyH.nil
  rw [if_pos (by rfl)]
  go_simp
  refine hK.out _ _ (CS) (fun hHeld => ?_)
  clear hK K
  try simp only [Act.put, List.setIfInBounds_toArray, List.set_cons_zero, List.set_cons_succ]
  refine wpAnyH_done (by kernel_rfl) ?_ _
  have K9 : Blk (V1.setCells w.heap.size 0 (bytesV M)) w.heap.size 29 (bytesV M) := K4.all (by rw [hvM, hvz])
  have CB1 : Below w.heap.size w (V1.setCells w.heap.size 0 (bytesV M)) := CB.trans CS
  clear hst K4 L2 CB CS hHeld C0 C1
  generalize World.setCells _ _ _ _ = wy at K9 CB1 ⊢
  go_wp2
  exact bodyPost_ret (v := .agg (bytesV M).toArray) (K9.result (p := 2) (ty := 29) rfl _ rfl Tryd.underlying29 (by rw [hvM]; kernel_rfl)) rfl ⟨rfl, CB1⟩

/-- The row of many leaves: what row does at a length is known below it. -/
def RowAt (n : Nat) : Prop := ∀ (ls : List Lf) (b off c : Nat) (w : World), ls.length = n → n ≤ c → Glob w → Lvs w b off ls → Small ls →
    Calls Tryd.prog 42 #[.slice (some ⟨b, off, none⟩) n c] w fun e w' => e = .returned (.agg (bytesV (rowM ls)).toArray) ∧ Below w.heap.size w w'

set_option maxHeartbeats 2000000 in
set_option maxRecDepth 100000 in
theorem mrow_step (n : Nat) (h2 : 2 ≤ n) (hn : n ≤ 4096) (IH : ∀ m, 1 ≤ m → m < n → RowAt m) : RowAt n := by
  intro ls b off c w hl hc hG hL hS
  have hz1 := zero_dig'
  have hz2 := size_leaf
  have hM := rowM_big ls (by omega)
  have hMd : Dgt (rowM ls) := rowM_dgt ls.length ls (Nat.le_refl _) (by omega)
  rw [hl] at hM
  have hlt := half_lt n h2
  have hpo := half_pos n
  have HMID := Lib.hid (fun w0 => middle_any 0 (n : Int) n (Int.le_refl 0) (by omega) (by omega) h2 w0)
  have hl1 : (ls.take (half n)).length = half n := by rw [List.length_take]; omega
  have hl2 : (ls.drop (half n)).length = n - half n := by rw [List.length_drop]; omega
  have hd1 : Dgt (rowM (ls.take (half n))) := rowM_dgt _ _ (Nat.le_refl _) (by omega)
  have hd2 : Dgt (rowM (ls.drop (half n))) := rowM_dgt _ _ (Nat.le_refl _) (by omega)
  have HA0 := Lib.hid (fun w0 (g : Glob w0) (hB : Below w.heap.size w w0) => IH (half n) hpo hlt (ls.take (half n)) b off c w0 hl1 (by omega) g ((hL.keep hB).take (half n)) (hS.take _))
  have HC0 := Lib.hid (fun w0 (g : Glob w0) (hB : Below w.heap.size w w0) => IH (n - half n) (by omega) (by omega) (ls.drop (half n)) b (off + 2 * half n) (c - half n) w0 hl2 (by omega) g ((hL.keep hB).drop (half n)) (hS.drop _))
  have hb := hL.1
  clear IH hL hS hl1 hl2
  generalize rowM (ls.take (half n)) = M1 at hM HA0 hd1
  generalize rowM (ls.drop (half n)) = M2 at hM HC0 hd2
  have HM := Lib.hid hM.symm
  clear hM
  generalize rowM ls = M at HM hMd ⊢
  clear hl
  generalize half n = m at hlt hpo HMID HA0 HC0
  have hne : ¬ n = 1 := by omega
  go_enter Tryd.func42, Tryd.ntmps42
  go_upto_region 1 with (fail)
  generalize hw0 : World.alloc _ _ = W0
  have K2 : Blk W0 w.heap.size 29 (bytesV z16) := hw0 ▸ (blk_new w _ _)
  have KB : Below w.heap.size w W0 := hw0 ▸ ((Below.refl _ _).alloc (Nat.le_refl _) _)
  clear hw0 hz1
  go_upto_region 4 with (go_at_call 58; refine (HMID.out _).mono ?_; rintro e w1 ⟨rfl, hw1⟩; rw [hw1]; clear hw1 w1)
  have hHeld : True := trivial
  refine wp_region_held_drew (S := fun w' => Below w.heap.size W0.drew w') (by kernel_rfl) (Below.refl _ _) (fun _ => ?_)
  have L2 : Blk W0.drew w.heap.size 29 (bytesV z16) := K2
  have CB : Below w.heap.size w W0.drew := below_drew KB
  clear K2 KB
  generalize W0.drew = V0 at L2 CB ⊢
  have hHeld : Below w.heap.size V0 V0 := Below.refl _ _
  have hv0 := CB.size
  have HA := Lib.hid (fun w0 (h : Below w.heap.size V0 w0) => HA0.out w0 (hG.keep (CB.trans h)) (CB.trans h))
  have HC := Lib.hid (fun w0 (h : Below w.heap.size V0 w0) => HC0.out w0 (hG.keep (CB.trans h)) (CB.trans h))
  refine wpAnyH_take (i := 0) (oi := ⟨some 20, .move (.tmp 0), 33, "merkle.go:61", #[], none⟩) (v := .slice (some ⟨b, off, none⟩) n c) rfl (by kernel_rfl) (by kernel_rfl) (by kernel_rfl) (fun _ _ _ h => h) (Or.inl ⟨by rfl, fun w' hSw => by go_simp⟩) hHeld ?_
  try simp only [Act.put, List.setIfInBounds_toArray, List.set_cons_zero, List.set_cons_succ]
  refine wpAnyH_take (i := 1) (oi := ⟨some 21, .move (.tmp 3), 3, "merkle.go:61", #[], none⟩) (v := .int .i64 (m : Int)) rfl (by kernel_rfl) (by kernel_rfl) (by kernel_rfl) (fun _ _ _ h => h) (Or.inl ⟨by rfl, fun w' hSw => by go_simp⟩) hHeld ?_
  try simp only [Act.put, List.setIfInBounds_toArray, List.set_cons_zero, List.set_cons_succ]
  refine wpAnyH_take (i := 2) (oi := ⟨some 22, .slice 33 (.tmp 20) none (some (.tmp 21)) none, 33, "merkle.go:61", #[⟨0, .data⟩, ⟨1, .data⟩], none⟩) (v := .slice (some ⟨b, off, none⟩) m c) rfl (by kernel_rfl) (by kernel_rfl) (by kernel_rfl) (fun _ _ _ h => h) (Or.inl ⟨by rfl, fun w' hSw => by go_simp; intro hcm; exact absurd hcm (by omega)⟩) hHeld ?_
  try simp only [Act.put, List.setIfInBounds_toArray, List.set_cons_zero, List.set_cons_succ]
  refine wpAnyH_take (i := 4) (oi := ⟨some 24, .move (.tmp 0), 33, "merkle.go:61", #[], none⟩) (v := .slice (some ⟨b, off, none⟩) n c) rfl (by kernel_rfl) (by kernel_rfl) (by kernel_rfl) (fun _ _ _ h => h) (Or.inl ⟨by rfl, fun w' hSw => by go_simp⟩) hHeld ?_
  try simp only [Act.put, List.setIfInBounds_toArray, List.set_cons_zero, List.set_cons_succ]
  refine wpAnyH_take (i := 5) (oi := ⟨some 25, .move (.tmp 3), 3, "merkle.go:61", #[], none⟩) (v := .int .i64 (m : Int)) rfl (by kernel_rfl) (by kernel_rfl) (by kernel_rfl) (fun _ _ _ h => h) (Or.inl ⟨by rfl, fun w' hSw => by go_simp⟩) hHeld ?_
  try simp only [Act.put, List.setIfInBounds_toArray, List.set_cons_zero, List.set_cons_succ]
  refine wpAnyH_take (i := 6) (oi := ⟨some 26, .slice 33 (.tmp 24) (some (.tmp 25)) none none, 33, "merkle.go:61", #[⟨4, .data⟩, ⟨5, .data⟩], none⟩) (v := .slice (some ⟨b, off + 2 * m, none⟩) (n - m) (c - m)) rfl (by kernel_rfl) (by kernel_rfl) (by kernel_rfl) (fun _ _ _ h => h) (Or.inl ⟨by rfl, fun w' hSw => by go_simp; rw [if_pos (by omega), if_neg (by omega : ¬ c = m), Nat.mul_comm m 2]⟩) hHeld ?_
  try simp only [Act.put, List.setIfInBounds_toArray, List.set_cons_zero, List.set_cons_succ]
  refine wpAnyH_ready (rs := [3]) (by kernel_rfl) (by simp) ?_
  refine AllReadyH.cons (o := ⟨some 23, .call { callee := .value (.func 42), args := #[.tmp 22], argTypes := #[33] }, 29, "merkle.go:61", #[⟨2, .data⟩], none⟩) rfl (fun K hK => ?_) AllReadyH.nil
  rw [if_pos (by rfl)]
  go_simp
  refine (HA.out V0 hHeld).mono ?_
  rintro e V1 ⟨rfl, hB1⟩
  dsimp only
  refine hK.out _ _ (hB1.mono hv0) (fun hHeld => ?_)
  clear hK K
  try simp only [Act.put, List.setIfInBounds_toArray, List.set_cons_zero, List.set_cons_succ]
  refine wpAnyH_ready (rs := [7]) (by kernel_rfl) (by simp) ?_
  refine AllReadyH.cons (o := ⟨some 27, .call { callee := .value (.func 42), args := #[.tmp 26], argTypes := #[33] }, 29, "merkle.go:61", #[⟨6, .data⟩, ⟨3, .chain⟩], none⟩) rfl (fun K hK => ?_) AllReadyH.nil
  rw [if_pos (by rfl)]
  go_simp
  refine (HC.out V1 hHeld).mono ?_
  rintro e V2 ⟨rfl, hB2⟩
  dsimp only
  have hB := hB1.trans (hB2.mono hB1.size)
  refine hK.out _ _ (hB.mono hv0) (fun hHeld => ?_)
  clear hK K
  try simp only [Act.put, List.setIfInBounds_toArray, List.set_cons_zero, List.set_cons_succ]
  refine wpAnyH_ready (rs := [8]) (by kernel_rfl) (by simp) ?_
  refine AllReadyH.cons (o := ⟨some 28, .call { callee := .value (.func 59), args := #[.tmp 23, .tmp 27], argTypes := #[29, 29] }, 29, "merkle.go:61", #[⟨3, .data⟩, ⟨7, .data⟩, ⟨7, .chain⟩], none⟩) rfl (fun K hK => ?_) AllReadyH.nil
  rw [if_pos (by rfl)]
  go_simp
  refine (mjoin_any M1 M2 hd1 hd2 V2 (hG.keep (CB.trans hHeld))).mono ?_
  rintro e V3 ⟨rfl, hB3⟩
  rw [HM.out]
  dsimp only
  have hBB := hB.trans (hB3.mono hB.size)
  refine hK.out _ _ (hBB.mono hv0) (fun hHeld => ?_)
  clear hK K
  try simp only [Act.put, List.setIfInBounds_toArray, List.set_cons_zero, List.set_cons_succ]
  have hvM : (bytesV M).length = 16 := by rw [bytesV_length]; exact hMd.1
  have hvz : (bytesV z16).length = 16 := rfl
  have K4 := L2.keep hBB
  have hst := K4.storeRun (vs := bytesV M) (by rw [hvM, hvz]) (bytesV_cells M)
  have CS := (only_sets w.heap.size 0 V3 (bytesV M)).2.2 _ _ (Nat.le_refl _) (hBB.mono hv0)
  refine wpAnyH_ready (rs := [9]) (by kernel_rfl) (by simp) ?_
  refine AllReadyH.cons (o := ⟨none, .store 29 (.tmp 2) (.tmp 28), 0, "merkle.go:61", #[⟨8, .data⟩, ⟨8, .chain⟩, ⟨0, .phase⟩, ⟨1, .phase⟩, ⟨2, .phase⟩, ⟨3, .phase⟩, ⟨4, .phase⟩, ⟨5, .phase⟩, ⟨6, .phase⟩, ⟨7, .phase⟩, ⟨8, .phase⟩], none⟩) rfl (fun K hK => ?_) AllReadyH.nil
  rw [if_pos (by rfl)]
  go_simp
  refine hK.out _ _ (CS) (fun hHeld => ?_)
  clear hK K
  try simp only [Act.put, List.setIfInBounds_toArray, List.set_cons_zero, List.set_cons_succ]
  refine wpAnyH_done (by kernel_rfl) ?_ _
  have K9 : Blk (V3.setCells w.heap.size 0 (bytesV M)) w.heap.size 29 (bytesV M) := K4.all (by rw [hvM, hvz])
  have CB1 : Below w.heap.size w (V3.setCells w.heap.size 0 (bytesV M)) := CB.trans CS
  clear hst K4 L2 CB CS hHeld
  generalize World.setCells _ _ _ _ = wy at K9 CB1 ⊢
  go_wp2
  exact bodyPost_ret (v := .agg (bytesV M).toArray) (K9.result (p := 2) (ty := 29) rfl _ rfl Tryd.underlying29 (by rw [hvM]; kernel_rfl)) rfl ⟨rfl, CB1⟩

theorem mrow_any : ∀ n, 1 ≤ n → n ≤ 4096 → RowAt n := by
  intro n
  induction n using Nat.strongRecOn with
  | ind n ih =>
    intro h1 hn
    rcases Nat.lt_or_ge n 2 with h2 | h2
    · obtain rfl : n = 1 := by omega
      intro ls b off c w hl hc hG hL hS
      obtain ⟨x, rfl⟩ : ∃ x, ls = [x] := List.length_eq_one_iff.1 hl
      exact mrow_one x b off c w hG hL hS
    · exact mrow_step n h2 hn (fun m hm hlt => ih m hlt hm (by omega))

end Go.Proofs.YtfhfmdnimebegaaDoor
