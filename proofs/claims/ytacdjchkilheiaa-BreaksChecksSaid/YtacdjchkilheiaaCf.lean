/-
  Fill of the program: all its answers.
-/
import Derived.Test.YtacdjchkilheiaaCe
namespace Go.Proofs.Ytacdjchkilheiaa
open Go.RowKit
set_option linter.unusedVariables false
set_option linter.unusedSimpArgs false

theorem cert_none {T : TypeId} {w w' : World} {k : Int} {e : Ending} (he : e = .returned (.tuple #[.agg #[.slice none 0 0, .slice none 0 0, .slice none 0 0], .int .i64 k])) (hB : Below w.heap.size w w') : CertR T [] [] [] k w e w' :=
  ⟨none, none, none, 0, 0, 0, he, fun h => absurd rfl h, fun h => absurd rfl h, fun h => absurd rfl h, hB⟩
set_option maxHeartbeats 4000000 in
set_option maxRecDepth 100000 in
theorem fill_bad (A : Option Addr) (l : List Int) (n c : Nat) (hl : l.length = n) (bl wd : Int) (he : errT l bl wd ≠ 0) (w : World) (hA : IntsAt w A l) :
    Calls Try.prog 10 #[.slice A n c, .int .i64 bl, .int .i64 wd] w (CertR 28 [] [] [] (errT l bl wd) w) := by
  have HPa := Lib.hid (fun (V : World) (h : Below w.heap.size w V) => (show Calls Try.prog 30 #[.slice A n c, .int .i64 bl, .int .i64 wd] V (ParBad (errT l bl wd) V) from (paragraphOf_any A l n c hl bl wd V (hA.keep h)).mono fun e w' h => by
    rcases h with ⟨h, _⟩ | ⟨_, h⟩
    · exact absurd h he
    · exact h))
  generalize errT l bl wd = k at *
  have hk : (k == 0) = false := by simp; exact he
  clear hl he hA
  go_enter Try.func10, Try.ntmps10
  go_upto_region 1 with (fail)
  have Kr := blk_new w 28 zeroCt.toArray
  have Xr : Below w.heap.size w (w.alloc (.cells zeroCt.toArray 28)) := (Below.refl _ _).alloc (Nat.le_refl _) _
  obtain ⟨W0, hW0⟩ : ∃ W, w.alloc (.cells zeroCt.toArray 28) = W := ⟨_, rfl⟩
  change Code.wp _ _ _ _ (w.alloc (.cells zeroCt.toArray 28))
  rw [hW0] at Kr Xr ⊢
  obtain ⟨rp, hrp⟩ : ∃ rp, w.heap.size = rp := ⟨_, rfl⟩
  rw [hrp] at Kr ⊢
  have hwrp : w.heap.size ≤ rp := by omega
  clear hW0 hrp
  go_upto_region 2 with (first
    | (go_at_call 30; refine (HPa.out W0 Xr).mono ?_; rintro en W1 ⟨rfl, hB1⟩)
    | (refine store_blk rfl 58 (.tmp 8) (.tmp 24) rfl (blk_new W1 58 zeroPg.toArray) rfl rfl (vs := zeroPg) (m := 4) (by kernel_rfl) rfl rfl (by intro v hv; simp [zeroPg] at hv; rcases hv with rfl | rfl | rfl | rfl <;> rfl) ?_; intro W2 K2 O2))
  try simp only [zP, zQ, zS, zZ, zC]
  have X2 : Below W1.heap.size W1 W2 := O2.2.2 _ _ (Nat.le_refl _) ((Below.refl _ _).alloc (Nat.le_refl _) _)
  have Kr2 : Blk W2 rp 28 zeroCt := (Kr.keep hB1).keep X2
  have B2 := link (link Xr hB1) X2
  go_wp2_with (refine store_blk rfl 28 (.tmp 6) (.tmp 28) rfl Kr2 rfl rfl (vs := zeroCt) (m := 3) (by kernel_rfl) rfl rfl (by intro v hv; simp [zeroCt] at hv; rcases hv with rfl | rfl | rfl <;> rfl) ?_; intro W9 K9 O9)
  try simp only [zP, zQ, zS, zZ, zC]
  try go_wp2
  exact bodyPost_ret (v := .tuple #[.agg zeroCt.toArray, .int .i64 k]) (results_and (by rfl) _ _ rfl rfl (K9.loadVarS Try.underlying28 (by kernel_rfl))) rfl (cert_none rfl (O9.2.2 _ _ hwrp B2))
set_option maxHeartbeats 4000000 in
set_option maxRecDepth 100000 in
theorem fill_wide (A : Option Addr) (l : List Int) (n c : Nat) (hl : l.length = n) (bl wd : Int) (he : errT l bl wd = 0) (hz : wideT l wd = true) (w : World) (hA : IntsAt w A l) :
    Calls Try.prog 10 #[.slice A n c, .int .i64 bl, .int .i64 wd] w (CertR 28 [] [] [] 21 w) := by
  have HPa := Lib.hid (fun (V : World) (h0 : Below w.heap.size w V) => (show Calls Try.prog 30 #[.slice A n c, .int .i64 bl, .int .i64 wd] V (fun e w' => ∃ b : Nat, e = .returned (.tuple #[.agg #[.slice (some ⟨b, 0, none⟩) (n + 1) (n + 1), .int .i64 bl, .int .i64 wd, .bool true], .int .i64 0]) ∧ Below V.heap.size V w') from (paragraphOf_any A l n c hl bl wd V (hA.keep h0)).mono fun e w' h => by
    rcases h with ⟨_, b, h1, _, _, h2⟩ | ⟨h, _⟩
    · exact ⟨b, by rw [hz] at h1; exact h1, h2⟩
    · exact absurd he h))
  clear hl he hA hz
  go_enter Try.func10, Try.ntmps10
  go_upto_region 1 with (fail)
  have Kr := blk_new w 28 zeroCt.toArray
  have Xr : Below w.heap.size w (w.alloc (.cells zeroCt.toArray 28)) := (Below.refl _ _).alloc (Nat.le_refl _) _
  obtain ⟨W0, hW0⟩ : ∃ W, w.alloc (.cells zeroCt.toArray 28) = W := ⟨_, rfl⟩
  change Code.wp _ _ _ _ (w.alloc (.cells zeroCt.toArray 28))
  rw [hW0] at Kr Xr ⊢
  obtain ⟨rp, hrp⟩ : ∃ rp, w.heap.size = rp := ⟨_, rfl⟩
  rw [hrp] at Kr ⊢
  have hwrp : w.heap.size ≤ rp := by omega
  clear hW0 hrp
  go_upto_region 2 with (first
    | (go_at_call 30; refine (HPa.out W0 Xr).mono ?_; rintro en W1 ⟨b, rfl, hB1⟩)
    | (refine store_blk rfl 58 (.tmp 8) (.tmp 24) rfl (blk_new W1 58 zeroPg.toArray) rfl rfl (vs := [.slice (some ⟨b, 0, none⟩) (n + 1) (n + 1), .int .i64 bl, .int .i64 wd, .bool true]) (m := 4) (by kernel_rfl) rfl rfl (by intro v hv; simp at hv; rcases hv with rfl | rfl | rfl | rfl <;> rfl) ?_; intro W2 K2 O2))
  try simp only [zP, zQ, zS, zZ, zC]
  have X2 : Below W1.heap.size W1 W2 := O2.2.2 _ _ (Nat.le_refl _) ((Below.refl _ _).alloc (Nat.le_refl _) _)
  have Kr2 : Blk W2 rp 28 zeroCt := (Kr.keep hB1).keep X2
  have B2 := link (link Xr hB1) X2
  have c3 := K2.cell (j := 3) rfl
  go_wp2_with (refine store_blk rfl 28 (.tmp 6) (.tmp 32) rfl Kr2 rfl rfl (vs := zeroCt) (m := 3) (by kernel_rfl) rfl rfl (by intro v hv; simp [zeroCt] at hv; rcases hv with rfl | rfl | rfl <;> rfl) ?_; intro W9 K9 O9)
  try simp only [zP, zQ, zS, zZ, zC]
  try go_wp2
  exact bodyPost_ret (v := .tuple #[.agg zeroCt.toArray, .int .i64 21]) (results_and (by rfl) _ _ rfl rfl (K9.loadVarS Try.underlying28 (by kernel_rfl))) rfl (cert_none rfl (O9.2.2 _ _ hwrp B2))
theorem fill_any (A : Option Addr) (l : List Int) (n c : Nat) (hl : l.length = n) (bl wd : Int) (w : World) (hA : IntsAt w A l) :
    Calls Try.prog 10 #[.slice A n c, .int .i64 bl, .int .i64 wd] w (CertR 28 (fillA l bl wd).1 (fillA l bl wd).2.1 (fillA l bl wd).2.2.1 (fillA l bl wd).2.2.2 w) := by
  by_cases he : errT l bl wd = 0
  · rcases hz : wideT l wd with _ | _
    · have e : fillA l bl wd = (endsT (fillT l bl wd).2.2 n n 0, (fillT l bl wd).1, (fillT l bl wd).2.1, 0) := by unfold fillA; rw [if_pos he, if_neg (by rw [hz]; simp), hl]
      rw [e]
      exact fill_good A l n c hl bl wd he hz w hA
    · have e : fillA l bl wd = ([], [], [], 21) := by unfold fillA; rw [if_pos he, if_pos hz]
      rw [e]
      exact fill_wide A l n c hl bl wd he hz w hA
  · have e : fillA l bl wd = ([], [], [], errT l bl wd) := by unfold fillA; rw [if_neg he]
    rw [e]
    exact fill_bad A l n c hl bl wd he w hA
end Go.Proofs.Ytacdjchkilheiaa
