/-
  merkle.join.
-/
import Derived.Test.YtfhfmdnimebegaaDoorMm
import Derived.Deep.RegionHeld
namespace Go.Proofs.YtfhfmdnimebegaaDoor
open Go.RowKit
set_option linter.unusedVariables false
set_option linter.unusedSimpArgs false

def Dgt (d : List Nat) : Prop := d.length = 16 ∧ ∀ y ∈ d, y < 256
theorem dig_ofS (T : Nat) (ps : List (List Nat)) : Dgt (ofS T ps) := ⟨ofS_length T ps, ofS_byte T ps⟩
theorem two_size {l m : List Nat} (hl : l.length ≤ 100) (hm : m.length = 16) : ∀ s ∈ [strOf l, strOf m], s.size ≤ 1048576 := by
  intro s hs
  simp only [List.mem_cons, List.mem_nil_iff, or_false] at hs
  rcases hs with rfl | rfl
  · rw [strOf_size]; omega
  · rw [strOf_size]; omega
theorem two_sbs {l m : List Nat} (hl : ∀ y ∈ l, y < 256) (hm : ∀ y ∈ m, y < 256) : sbs [strOf l, strOf m] = [l, m] := by
  simp [sbs, sb_strOf l hl, sb_strOf m hm]

theorem two_dig {l m : List Nat} (hl : l.length = 16) (hm : m.length = 16) : ∀ s ∈ [strOf l, strOf m], s.size ≤ 1048576 := two_size (by omega) hm

set_option maxHeartbeats 2000000 in
set_option maxRecDepth 100000 in
theorem mjoin_any (x y : List Nat) (hx : Dgt x) (hy : Dgt y) (w : World) (hG : Glob w) :
    Calls Tryd.prog 59 #[.agg (bytesV x).toArray, .agg (bytesV y).toArray] w fun e w' => e = .returned (.agg (bytesV (joinM x y)).toArray) ∧ Below w.heap.size w w' := by
  have hz1 := zero_dig'
  obtain ⟨M, hM⟩ : ∃ M, joinM x y = M := ⟨_, rfl⟩
  have hMd : Dgt M := by rw [← hM]; exact dig_ofS _ _
  have HM := Lib.hid hM
  clear hM
  go_enter Tryd.func59, Tryd.ntmps59
  go_upto_region 1 with (fail)
  generalize hw0 : World.alloc _ _ = W0
  have K2 : Blk W0 w.heap.size 29 (bytesV x) := hw0 ▸ (((blk_new w _ _).alloc _).alloc _)
  have K3 : Blk W0 (w.heap.size + 1) 29 (bytesV y) := hw0 ▸ ((blk_new1 w _ _ _).alloc _)
  have K4 : Blk W0 (w.heap.size + 1 + 1) 29 (bytesV z16) := hw0 ▸ blk_new2 w _ _ _ _
  have KB : Below w.heap.size w W0 := hw0 ▸ ((((Below.refl _ _).alloc (Nat.le_refl _) _).alloc (by simp) _).alloc (by simp; omega) _)
  clear hw0 hz1
  have hsl := slice_dig
  have hHeld : True := trivial
  refine wp_region_held_drew (S := fun _ => True) (by kernel_rfl) trivial (fun _ => ?_)
  have L2 : Blk W0.drew w.heap.size 29 (bytesV x) := K2
  have L3 : Blk W0.drew (w.heap.size + 1) 29 (bytesV y) := K3
  have L4 : Blk W0.drew (w.heap.size + 1 + 1) 29 (bytesV z16) := K4
  have CB : Below w.heap.size w W0.drew := below_drew KB
  have hB : Below W0.drew.heap.size W0.drew W0.drew := Below.refl _ _
  clear K2 K3 K4 KB
  generalize W0.drew = V0 at hB L2 L3 L4 CB ⊢
  refine wpAnyH_take (i := 0) (oi := ⟨some 5, .slice 29 (.tmp 2) none none none, 39, "merkle.go:52", #[], none⟩) (v := .slice (some ⟨w.heap.size, 0, none⟩) 16 16) rfl (by kernel_rfl) (by kernel_rfl) (by kernel_rfl) (fun _ _ _ h => h) (Or.inl ⟨by rfl, fun w' hSw => by go_simp⟩) hHeld ?_
  try simp only [Act.put, List.setIfInBounds_toArray, List.set_cons_zero, List.set_cons_succ]
  refine wpAnyH_take (i := 2) (oi := ⟨some 7, .slice 29 (.tmp 3) none none none, 39, "merkle.go:52", #[], none⟩) (v := .slice (some ⟨w.heap.size + 1, 0, none⟩) 16 16) rfl (by kernel_rfl) (by kernel_rfl) (by kernel_rfl) (fun _ _ _ h => h) (Or.inl ⟨by rfl, fun w' hSw => by go_simp⟩) hHeld ?_
  try simp only [Act.put, List.setIfInBounds_toArray, List.set_cons_zero, List.set_cons_succ]
  refine wpAnyH_ready (rs := [1, 3]) (by kernel_rfl) (by simp) ?_
  refine AllReadyH.cons (o := ⟨some 6, .convert 39 9 (.tmp 5), 9, "merkle.go:52", #[⟨0, .data⟩], none⟩) rfl (fun K hK => ?_) (AllReadyH.cons (o := ⟨some 8, .convert 39 9 (.tmp 7), 9, "merkle.go:52", #[⟨2, .data⟩], none⟩) rfl (fun K hK => ?_) AllReadyH.nil)
  rw [if_pos (by rfl)]
  have kv := conv_dig L2 hx.1 hx.2
  go_simp
  clear kv
  refine hK.out _ _ trivial (fun _ => ?_)
  clear hK K
  try simp only [Act.put, List.setIfInBounds_toArray, List.set_cons_zero, List.set_cons_succ]
  refine wpAnyH_ready (rs := [3]) (by kernel_rfl) (by simp) ?_
  refine AllReadyH.cons (o := ⟨some 8, .convert 39 9 (.tmp 7), 9, "merkle.go:52", #[⟨2, .data⟩], none⟩) rfl (fun K hK => ?_) AllReadyH.nil
  rw [if_pos (by rfl)]
  have kv := conv_dig L3 hy.1 hy.2
  go_simp
  clear kv
  refine hK.out _ _ trivial (fun _ => ?_)
  clear hK K
  try simp only [Act.put, List.setIfInBounds_toArray, List.set_cons_zero, List.set_cons_succ]
  rotate_left
  rw [if_pos (by rfl)]
  have kv := conv_dig L3 hy.1 hy.2
  go_simp
  clear kv
  refine hK.out _ _ trivial (fun _ => ?_)
  clear hK K
  try simp only [Act.put, List.setIfInBounds_toArray, List.set_cons_zero, List.set_cons_succ]
  refine wpAnyH_ready (rs := [1]) (by kernel_rfl) (by simp) ?_
  refine AllReadyH.cons (o := ⟨some 6, .convert 39 9 (.tmp 5), 9, "merkle.go:52", #[⟨0, .data⟩], none⟩) rfl (fun K hK => ?_) AllReadyH.nil
  rw [if_pos (by rfl)]
  have kv := conv_dig L2 hx.1 hx.2
  go_simp
  clear kv
  refine hK.out _ _ trivial (fun _ => ?_)
  clear hK K
  try simp only [Act.put, List.setIfInBounds_toArray, List.set_cons_zero, List.set_cons_succ]
  rotate_left
  all_goals
    refine wpAnyH_ready (rs := [4]) (by kernel_rfl) (by simp) ?_
    refine AllReadyH.cons (o := ⟨some 9, .buildSlice 47 2 #[(0, .tmp 6), (1, .tmp 8)], 47, "merkle.go:52", #[⟨1, .data⟩, ⟨3, .data⟩], none⟩) rfl (fun K hK => ?_) AllReadyH.nil
    rw [if_pos (by rfl)]
    go_simp
    refine hK.out _ _ trivial (fun _ => ?_)
    clear hK K
    try simp only [Act.put, List.setIfInBounds_toArray, List.set_cons_zero, List.set_cons_succ]
    refine wpAnyH_ready (rs := [5]) (by kernel_rfl) (by simp) ?_
    refine AllReadyH.cons (o := ⟨some 10, .call { callee := .value (.func 57), args := #[.const (Value.int IntKind.i64 4), .tmp 9], argTypes := #[3, 47] }, 29, "merkle.go:52", #[⟨4, .data⟩], none⟩) rfl (fun K hK => ?_) AllReadyH.nil
    rw [if_pos (by rfl)]
    go_simp
    refine (of_lit 4 (by omega) [strOf x, strOf y] (by simp) (two_dig hx.1 hy.1) _ rfl 2 rfl V0 (hG.keep CB)).mono ?_
    rintro e V1 ⟨rfl, hB1⟩
    rw [two_sbs hx.2 hy.2, show ofS 4 [x, y] = M from HM.out]
    dsimp only
    refine hK.out _ _ trivial (fun _ => ?_)
    clear hK K
    try simp only [Act.put, List.setIfInBounds_toArray, List.set_cons_zero, List.set_cons_succ]
    have hvM : (bytesV M).length = 16 := by rw [bytesV_length]; exact hMd.1
    have hvz : (bytesV z16).length = 16 := rfl
    have K4 := L4.keep hB1
    have hst := K4.storeRun (vs := bytesV M) (by rw [hvM, hvz]) (bytesV_cells M)
    refine wpAnyH_ready (rs := [6]) (by kernel_rfl) (by simp) ?_
    refine AllReadyH.cons (o := ⟨none, .store 29 (.tmp 4) (.tmp 10), 0, "merkle.go:52", #[⟨5, .data⟩, ⟨5, .chain⟩, ⟨0, .phase⟩, ⟨1, .phase⟩, ⟨2, .phase⟩, ⟨3, .phase⟩, ⟨4, .phase⟩, ⟨5, .phase⟩], none⟩) rfl (fun K hK => ?_) AllReadyH.nil
    rw [if_pos (by rfl)]
    go_simp
    refine hK.out _ _ trivial (fun _ => ?_)
    clear hK K
    try simp only [Act.put, List.setIfInBounds_toArray, List.set_cons_zero, List.set_cons_succ]
    refine wpAnyH_done (by kernel_rfl) ?_ _
    have K9 : Blk (V1.setCells (w.heap.size + 1 + 1) 0 (bytesV M)) (w.heap.size + 1 + 1) 29 (bytesV M) := K4.all (by rw [hvM, hvz])
    have CB1 := (only_sets (w.heap.size + 1 + 1) 0 V1 (bytesV M)).2.2 _ _ (by omega : w.heap.size ≤ w.heap.size + 1 + 1) (link CB hB1)
    clear hst K4 L2 L3 L4 CB hB hsl
    generalize World.setCells _ _ _ _ = wy at K9 CB1 ⊢
    go_wp2
    exact bodyPost_ret (v := .agg (bytesV M).toArray) (K9.result (p := 4) (ty := 29) rfl _ rfl Tryd.underlying29 (by rw [hvM]; kernel_rfl)) rfl ⟨by rw [HM.out], CB1⟩

end Go.Proofs.YtfhfmdnimebegaaDoor
