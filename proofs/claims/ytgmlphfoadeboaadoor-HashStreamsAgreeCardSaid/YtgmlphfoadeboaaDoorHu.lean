/-
  hash.Sum returns the hash of the bytes.
-/
import Derived.Test.YtgmlphfoadeboaaDoorHq
import Derived.Deep.RegionWith
namespace Go.Proofs.YtgmlphfoadeboaaDoor
open Go.RowKit
set_option linter.unusedVariables false
set_option linter.unusedSimpArgs false

theorem sha_length (m : List Nat) : (sha m).length = 32 := outB_length _
theorem sha_byte (m : List Nat) : ∀ y ∈ sha m, y < 256 := outB_byte _
theorem conv_none (c : Nat) (w : World) : (convert 22 9 (.slice none 0 c)).run Tryd.prog w = .ok (.string (strOf [])) w := by kernel_rfl
theorem conv_any (A : Option Addr) (l : List Nat) (n c : Nat) (w : World) (hn : n = l.length) (hr : Has w A l) : (convert 22 9 (.slice A n c)).run Tryd.prog w = .ok (.string (strOf l)) w := by
  subst hn
  cases A with
  | some ad => exact conv_cells w ad c l hr.2 hr.cells
  | none =>
    have : l = [] := by
      rcases Nat.eq_zero_or_pos l.length with h | h
      · exact List.eq_nil_of_length_eq_zero h
      · obtain ⟨_, ad, e, _⟩ := hr.at 0 l[0] (List.getElem?_eq_getElem h)
        cases e
    subst this
    exact conv_none c w

set_option maxHeartbeats 1000000 in
set_option maxRecDepth 100000 in
theorem sum_any (A : Option Addr) (l : List Nat) (n c : Nat) (w : World) (hn : n = l.length) (hl : l.length ≤ 1152921504606846000) (hr : Has w A l) (hG : Glob w) :
    Calls Tryd.prog 11 #[.slice A n c] w fun e w' => e = .returned (.agg (bytesV (sha l)).toArray) ∧ Below w.heap.size w w' := by
  subst hn
  have hz2 := zero_32
  go_enter Tryd.func11, Tryd.ntmps11
  go_upto_region 1 with (fail)
  generalize hw0 : World.alloc _ _ = W0
  have K0 : Blk W0 w.heap.size 24 (bytesV z32) := hw0 ▸ (blk_new w _ _)
  have KB : Below w.heap.size w W0 := hw0 ▸ ((Below.refl _ _).alloc (Nat.le_refl _) _)
  have hr0 := hr.keep KB
  have hG0 := hG.keep KB
  clear hw0 hz2
  have HA := Lib.hid (fun (B : List Nat) (hS : Stm [] B) (w1 : World) (hG : Glob w1) => by
    have := add_any [] B hS (strOf l) (by rw [strOf_size, List.length_nil]; omega) w1 hG
    rwa [sb_strOf l hr.2, List.nil_append] at this)
  have k0 := conv_any A l l.length c W0.drew rfl hr0
  go_region_with (first | (go_at_call 14; refine (begin_str _ (by first | exact hG0)).mono ?_; rintro e w1 ⟨B1, hS1, rfl, hB1⟩; have k1 := conv_any A l l.length c w1 rfl (Has.keep (w := W0.drew) hr0 hB1); have hG1 := Glob.keep (w := W0.drew) hG0 hB1) | (go_at_call 15; refine (HA.out _ hS1 _ hG1).mono ?_; rintro e w2 ⟨B2, hS2, rfl, hB2⟩; have hG2 := hG1.keep hB2) | (go_at_call 17; refine (strsum_any _ _ hS2 hl _ hG2).mono ?_; rintro e w3 ⟨rfl, hB3⟩; have N0 := ((Blk.keep (w := W0.drew) K0 hB1).keep hB2).keep hB3; have kst := N0.storeRun (vs := bytesV (sha l)) (by rw [bytesV_length, bytesV_length, sha_length]; rfl) (bytesV_cells _)))
  all_goals
    have hsl : (bytesV (sha l)).length = 32 := by rw [bytesV_length, sha_length]
    have M0 : Blk (w3.setCells w.heap.size 0 (bytesV (sha l))) w.heap.size 24 (bytesV (sha l)) := N0.all (by rw [hsl, bytesV_length]; rfl)
    have MB : Below w.heap.size w (w3.setCells w.heap.size 0 (bytesV (sha l))) := (only_sets _ _ _ _).2.2 _ _ (Nat.le_refl _) (((KB.drew.trans (hB1.mono KB.size)).trans (hB2.mono (Nat.le_trans KB.size hB1.size))).trans (hB3.mono (Nat.le_trans (Nat.le_trans KB.size hB1.size) hB2.size)))
    clear k1 kst HA
    generalize w3.setCells w.heap.size 0 (bytesV (sha l)) = w4 at *
    go_wp2
    exact bodyPost_ret (v := .agg (bytesV (sha l)).toArray) (M0.result (p := 2) (ty := 24) rfl _ rfl Tryd.underlying24 (by rw [hsl]; kernel_rfl)) rfl ⟨rfl, MB⟩

end Go.Proofs.YtgmlphfoadeboaaDoor
