/-
  merkle.top: the root for a number of leaves and the digest of all.
-/
import Derived.Test.YtfhfmdnimebegaaDoorMj
namespace Go.Proofs.YtfhfmdnimebegaaDoor
open Go.RowKit
set_option linter.unusedVariables false
set_option linter.unusedSimpArgs false

/-- The root for n leaves, where all is the digest of the row of all of them. -/
def topD (n : Nat) (all : List Nat) : List Nat := if n = 0 then ofS 4 [enc 0] else ofS 4 [enc (n : Int), all]
theorem topD_dgt (n : Nat) (all : List Nat) : Dgt (topD n all) := by
  unfold topD
  split <;> exact dig_ofS _ _
theorem Blk.keepB {w w' : World} {b B : Nat} {t : TypeId} {cs : List Value} (h : Blk w b t cs) (hb : b < B) (hB : Below B w w') : Blk w' b t cs := by
  unfold Blk
  rw [hB.block b hb]
  exact h
theorem one_sb {l : List Nat} (hl : ∀ y ∈ l, y < 256) : sbs [strOf l] = [l] := by simp [sbs, sb_strOf l hl]
theorem one_size {l : List Nat} (hl : l.length ≤ 100) : ∀ s ∈ [strOf l], s.size ≤ 1048576 := by
  intro s hs
  obtain rfl := List.mem_singleton.1 hs
  rw [strOf_size]
  omega

set_option maxHeartbeats 2000000 in
set_option maxRecDepth 100000 in
theorem top_zero (x : List Nat) (hx : Dgt x) (w : World) (hG : Glob w) :
    Calls Tryd.prog 41 #[.int .i64 0, .agg (bytesV x).toArray] w fun e w' => e = .returned (.agg (bytesV (topD 0 x)).toArray) ∧ Below w.heap.size w w' := by
  have hz1 := zero_dig'
  have hEb := enc_lt 0 (by omega) (by omega)
  have hEl := (enc_length 0 (by omega) (by omega)).2
  have HI := Lib.hid (fun w0 => int_any 0 (by omega) (by omega) w0)
  have hMd : Dgt (topD 0 x) := topD_dgt _ _
  have HM : Hid (ofS 4 [enc 0] = topD 0 x) := Lib.hid rfl
  generalize topD 0 x = M at HM hMd ⊢
  generalize enc 0 = E at hEb hEl HI HM
  have hvM : (bytesV M).length = 16 := by rw [bytesV_length]; exact hMd.1
  have hvz : (bytesV z16).toArray.toList.length = 16 := rfl
  go_enter Tryd.func41, Tryd.ntmps41
  go_upto_region 2 with (fail)
  generalize hw0 : World.alloc _ _ = W0
  have K4 : Blk W0 (w.heap.size + 1) 29 (bytesV z16) := hw0 ▸ blk_new1 w _ _ _
  have KB : Below w.heap.size w W0 := hw0 ▸ (((Below.refl _ _).alloc (Nat.le_refl _) _).alloc (by simp) _)
  clear hw0 hz1
  go_wp2_with (first
    | (go_at_call 38; refine (HI.out _).mono ?_; rintro e V1 ⟨gi, ci, rfl, hOi⟩; have hI := hOi.has hEb; have hB1 := hOi.below; have kv := conv_any (some ⟨gi, 0, none⟩) E E.length ci V1 rfl hI; clear hOi hI)
    | (go_at_call 57; refine (of_lit 4 (by omega) [strOf E] (by simp) (one_size (by omega)) _ rfl 1 rfl V1 (hG.keep (link KB hB1))).mono ?_; rintro e V2 ⟨rfl, hB2⟩; rw [one_sb hEb, HM.out])
    | (refine store_blk rfl 29 (.tmp 4) (.tmp 10) rfl ((K4.keep hB1).keep hB2) rfl rfl (m := 16) (by kernel_rfl) hvM hvz (bytesV_cells M) ?_; intro W3 K3 O3))
  exact bodyPost_ret (v := .agg (bytesV M).toArray) (K3.result (p := 4) (ty := 29) rfl _ rfl Tryd.underlying29 (by rw [hvM]; kernel_rfl)) rfl ⟨rfl, O3.2.2 _ _ (by omega) (link (link KB hB1) hB2)⟩

set_option maxHeartbeats 2000000 in
set_option maxRecDepth 100000 in
theorem top_many (n : Nat) (h1 : 1 ≤ n) (hn : n ≤ 4096) (x : List Nat) (hx : Dgt x) (w : World) (hG : Glob w) :
    Calls Tryd.prog 41 #[.int .i64 (n : Int), .agg (bytesV x).toArray] w fun e w' => e = .returned (.agg (bytesV (topD n x)).toArray) ∧ Below w.heap.size w w' := by
  have hz1 := zero_dig'
  have hEb := enc_lt (n : Int) (by omega) (by omega)
  have hEl := (enc_length (n : Int) (by omega) (by omega)).2
  have HI := Lib.hid (fun w0 => int_any (n : Int) (by omega) (by omega) w0)
  have hMd : Dgt (topD n x) := topD_dgt _ _
  have HM : Hid (ofS 4 [enc (n : Int), x] = topD n x) := Lib.hid (by unfold topD; rw [if_neg (by omega)])
  generalize topD n x = M at HM hMd ⊢
  generalize enc (n : Int) = E at hEb hEl HI HM
  have hn0 : ¬ n = 0 := by omega
  go_enter Tryd.func41, Tryd.ntmps41
  go_upto_region 3 with (fail)
  generalize hw0 : World.alloc _ _ = W0
  have K3 : Blk W0 w.heap.size 29 (bytesV x) := hw0 ▸ ((blk_new w _ _).alloc _)
  have K4 : Blk W0 (w.heap.size + 1) 29 (bytesV z16) := hw0 ▸ blk_new1 w _ _ _
  have KB : Below w.heap.size w W0 := hw0 ▸ (((Below.refl _ _).alloc (Nat.le_refl _) _).alloc (by simp) _)
  have hsz0 : w.heap.size + 1 + 1 ≤ W0.heap.size := by rw [← hw0]; simp
  clear hw0 hz1
  have hsl := slice_dig
  have hHeld : True := trivial
  refine wp_region_held_drew (S := fun w' => Below (w.heap.size + 1) W0.drew w') (by kernel_rfl) (Below.refl _ _) (fun _ => ?_)
  have L3 : Blk W0.drew w.heap.size 29 (bytesV x) := K3
  have L4 : Blk W0.drew (w.heap.size + 1) 29 (bytesV z16) := K4
  have CB : Below w.heap.size w W0.drew := below_drew KB
  have hv0 : w.heap.size + 1 ≤ W0.drew.heap.size := by show w.heap.size + 1 ≤ W0.heap.size; omega
  clear K3 K4 KB
  generalize W0.drew = V0 at L3 L4 CB hv0 ⊢
  have hHeld : Below (w.heap.size + 1) V0 V0 := Below.refl _ _
  have CD : ∀ w', Below (w.heap.size + 1) V0 w' → (convert 39 9 (.slice (some ⟨w.heap.size, 0, none⟩) 16 16)).run Tryd.prog w' = .ok (.string (strOf x)) w' := fun w' h => conv_dig (L3.keepB (by omega) h) hx.1 hx.2
  refine wpAnyH_take (i := 0) (oi := ⟨some 11, .move (.tmp 0), 3, "merkle.go:69", #[], none⟩) (v := .int .i64 (n : Int)) rfl (by kernel_rfl) (by kernel_rfl) (by kernel_rfl) (fun _ _ _ h => h) (Or.inl ⟨by rfl, fun w' hSw => by go_simp⟩) hHeld ?_
  try simp only [Act.put, List.setIfInBounds_toArray, List.set_cons_zero, List.set_cons_succ]
  refine wpAnyH_take (i := 3) (oi := ⟨some 14, .slice 29 (.tmp 3) none none none, 39, "merkle.go:69", #[], none⟩) (v := .slice (some ⟨w.heap.size, 0, none⟩) 16 16) rfl (by kernel_rfl) (by kernel_rfl) (by kernel_rfl) (fun _ _ _ h => h) (Or.inl ⟨by rfl, fun w' hSw => by go_simp⟩) hHeld ?_
  try simp only [Act.put, List.setIfInBounds_toArray, List.set_cons_zero, List.set_cons_succ]
  refine wpAnyH_take (i := 4) (oi := ⟨some 15, .convert 39 9 (.tmp 14), 9, "merkle.go:69", #[⟨3, .data⟩], none⟩) (v := .string (strOf x)) rfl (by kernel_rfl) (by kernel_rfl) (by kernel_rfl) (fun _ _ _ h => h) (Or.inl ⟨by rfl, fun w' hSw => by have kv := CD w' hSw; go_simp⟩) hHeld ?_
  try simp only [Act.put, List.setIfInBounds_toArray, List.set_cons_zero, List.set_cons_succ]
  refine wpAnyH_ready (rs := [1]) (by kernel_rfl) (by simp) ?_
  refine AllReadyH.cons (o := ⟨some 12, .call { callee := .value (.func 38), args := #[.tmp 11], argTypes := #[3] }, 39, "merkle.go:69", #[⟨0, .data⟩], none⟩) rfl (fun K hK => ?_) AllReadyH.nil
  rw [if_pos (by rfl)]
  go_simp
  refine (HI.out V0).mono ?_
  rintro e V1 ⟨gi, ci, rfl, hOi⟩
  have hI := hOi.has hEb
  have hB1 := hOi.below
  have kv := conv_any (some ⟨gi, 0, none⟩) E E.length ci V1 rfl hI
  clear hOi hI
  dsimp only
  refine hK.out _ _ (hB1.mono hv0) (fun hHeld => ?_)
  clear hK K
  try simp only [Act.put, List.setIfInBounds_toArray, List.set_cons_zero, List.set_cons_succ]
  refine wpAnyH_ready (rs := [2]) (by kernel_rfl) (by simp) ?_
  refine AllReadyH.cons (o := ⟨some 13, .convert 39 9 (.tmp 12), 9, "merkle.go:69", #[⟨1, .data⟩], none⟩) rfl (fun K hK => ?_) AllReadyH.nil
  rw [if_pos (by rfl)]
  go_simp
  clear kv
  refine hK.out _ _ (hHeld) (fun hHeld => ?_)
  clear hK K
  try simp only [Act.put, List.setIfInBounds_toArray, List.set_cons_zero, List.set_cons_succ]
  refine wpAnyH_ready (rs := [5]) (by kernel_rfl) (by simp) ?_
  refine AllReadyH.cons (o := ⟨some 16, .buildSlice 47 2 #[(0, .tmp 13), (1, .tmp 15)], 47, "merkle.go:69", #[⟨2, .data⟩, ⟨4, .data⟩], none⟩) rfl (fun K hK => ?_) AllReadyH.nil
  rw [if_pos (by rfl)]
  go_simp
  refine hK.out _ _ (hHeld.alloc (by have := hB1.size; omega) _) (fun hHeld => ?_)
  clear hK K
  try simp only [Act.put, List.setIfInBounds_toArray, List.set_cons_zero, List.set_cons_succ]
  refine wpAnyH_ready (rs := [6]) (by kernel_rfl) (by simp) ?_
  refine AllReadyH.cons (o := ⟨some 17, .call { callee := .value (.func 57), args := #[.const (Value.int IntKind.i64 4), .tmp 16], argTypes := #[3, 47] }, 29, "merkle.go:69", #[⟨5, .data⟩, ⟨1, .chain⟩], none⟩) rfl (fun K hK => ?_) AllReadyH.nil
  rw [if_pos (by rfl)]
  go_simp
  refine (of_lit 4 (by omega) [strOf E, strOf x] (by simp) (two_size (by omega) hx.1) _ rfl 2 rfl V1 (hG.keep (CB.trans (hB1.mono (by omega))))).mono ?_
  rintro e V2 ⟨rfl, hB2⟩
  rw [two_sbs hEb hx.2, HM.out]
  dsimp only
  have hBB := hB1.trans (hB2.mono hB1.size)
  refine hK.out _ _ (hBB.mono hv0) (fun hHeld => ?_)
  clear hK K
  try simp only [Act.put, List.setIfInBounds_toArray, List.set_cons_zero, List.set_cons_succ]
  have hvM : (bytesV M).length = 16 := by rw [bytesV_length]; exact hMd.1
  have hvz : (bytesV z16).length = 16 := rfl
  have K4 := L4.keep hBB
  have hst := K4.storeRun (vs := bytesV M) (by rw [hvM, hvz]) (bytesV_cells M)
  have CS := (only_sets (w.heap.size + 1) 0 V2 (bytesV M)).2.2 _ _ (Nat.le_refl _) (hBB.mono hv0)
  refine wpAnyH_ready (rs := [7]) (by kernel_rfl) (by simp) ?_
  refine AllReadyH.cons (o := ⟨none, .store 29 (.tmp 4) (.tmp 17), 0, "merkle.go:69", #[⟨6, .data⟩, ⟨6, .chain⟩, ⟨0, .phase⟩, ⟨1, .phase⟩, ⟨2, .phase⟩, ⟨3, .phase⟩, ⟨4, .phase⟩, ⟨5, .phase⟩, ⟨6, .phase⟩], none⟩) rfl (fun K hK => ?_) AllReadyH.nil
  rw [if_pos (by rfl)]
  go_simp
  refine hK.out _ _ (CS) (fun hHeld => ?_)
  clear hK K
  try simp only [Act.put, List.setIfInBounds_toArray, List.set_cons_zero, List.set_cons_succ]
  refine wpAnyH_done (by kernel_rfl) ?_ _
  have K9 : Blk (V2.setCells (w.heap.size + 1) 0 (bytesV M)) (w.heap.size + 1) 29 (bytesV M) := K4.all (by rw [hvM, hvz])
  have CB1 : Below w.heap.size w (V2.setCells (w.heap.size + 1) 0 (bytesV M)) := CB.trans (CS.mono (by omega))
  clear hst K4 L4 CB CS hHeld
  generalize World.setCells _ _ _ _ = wy at K9 CB1 ⊢
  go_wp2
  exact bodyPost_ret (v := .agg (bytesV M).toArray) (K9.result (p := 4) (ty := 29) rfl _ rfl Tryd.underlying29 (by rw [hvM]; kernel_rfl)) rfl ⟨rfl, CB1⟩

end Go.Proofs.YtfhfmdnimebegaaDoor
