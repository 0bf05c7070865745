/-
  Pages, of the program and of the reference.
-/
import Derived.Test.YtahmpagolmodhaaIb
namespace Go.Proofs.Ytahmpagolmodhaa
open Go.RowKit
set_option linter.unusedVariables false
set_option linter.unusedSimpArgs false

set_option maxHeartbeats 1000000 in
set_option maxRecDepth 100000 in
theorem pages_any (n : Int) (w : World) : Calls Try.prog 28 #[.int .i64 n] w (fun e w' => e = .returned (.agg #[.int .i64 (pagA n), .int .i64 (pagB n)]) ∧ Below w.heap.size w w') := by
  have K0 := blk_new w 25 #[.int .i64 0, .int .i64 0]
  have B0 := (Below.refl w.heap.size w).alloc (o := .cells #[.int .i64 0, .int .i64 0] 25) (Nat.le_refl _)
  by_cases h1 : n < 1
  · have hp : pagA n = 0 ∧ pagB n = 0 := by unfold pagA pagB; rw [if_pos (by omega), if_pos (by omega)]; exact ⟨rfl, rfl⟩
    have HP := Lib.hid hp
    clear hp
    go_enter Try.func28, Try.ntmps28
    go_wp2_with (first | (refine store_blk rfl 25 (.tmp 2) (.tmp 9) rfl K0 rfl rfl (vs := [.int .i64 0, .int .i64 0]) (m := 2) (by kernel_rfl) rfl rfl (by intro v hv; simp at hv; rcases hv with rfl | rfl <;> rfl) ?_; intro W5 K5 O5))
    exact bodyPost_ret (v := .agg #[.int .i64 0, .int .i64 0]) (K5.result (p := 2) (ty := 25) rfl _ rfl Try.underlying25 (by kernel_rfl)) rfl ⟨by rw [HP.out.1, HP.out.2], O5.2.2 _ _ (Nat.le_refl _) B0⟩
  by_cases h2 : 512 < n
  · have hp : pagA n = 0 ∧ pagB n = 0 := by unfold pagA pagB; rw [if_pos (by omega), if_pos (by omega)]; exact ⟨rfl, rfl⟩
    have HP := Lib.hid hp
    clear hp
    go_enter Try.func28, Try.ntmps28
    go_wp2_with (first | (refine store_blk rfl 25 (.tmp 2) (.tmp 9) rfl K0 rfl rfl (vs := [.int .i64 0, .int .i64 0]) (m := 2) (by kernel_rfl) rfl rfl (by intro v hv; simp at hv; rcases hv with rfl | rfl <;> rfl) ?_; intro W5 K5 O5))
    exact bodyPost_ret (v := .agg #[.int .i64 0, .int .i64 0]) (K5.result (p := 2) (ty := 25) rfl _ rfl Try.underlying25 (by kernel_rfl)) rfl ⟨by rw [HP.out.1, HP.out.2], O5.2.2 _ _ (Nat.le_refl _) B0⟩
  have hp : pagA n = 2 * n - 1 ∧ pagB n = 2 * n := by unfold pagA pagB; rw [if_neg (by omega), if_neg (by omega)]; exact ⟨rfl, rfl⟩
  obtain ⟨a, ha⟩ : ∃ a, 2 * n - 1 = a := ⟨_, rfl⟩
  obtain ⟨b, hb⟩ : ∃ b, 2 * n = b := ⟨_, rfl⟩
  have ha2 : b - 1 = a := by omega
  have hb2 : n + n = b := by omega
  have hb3 : b ≤ 1024 := by omega
  have hb4 : 2 ≤ b := by omega
  rw [ha, hb] at hp
  have HP := Lib.hid hp
  clear hp ha
  go_enter Try.func28, Try.ntmps28
  go_wp2_with (first | (refine store_blk rfl 25 (.tmp 2) (.tmp 15) rfl K0 rfl rfl (vs := [.int .i64 a, .int .i64 b]) (m := 2) (by kernel_rfl) rfl rfl (by intro v hv; simp at hv; rcases hv with rfl | rfl <;> rfl) ?_; intro W5 K5 O5))
  exact bodyPost_ret (v := .agg #[.int .i64 a, .int .i64 b]) (K5.result (p := 2) (ty := 25) rfl _ rfl Try.underlying25 (by kernel_rfl)) rfl ⟨by rw [HP.out.1, HP.out.2], O5.2.2 _ _ (Nat.le_refl _) B0⟩
set_option maxHeartbeats 1000000 in
set_option maxRecDepth 100000 in
theorem rpages_any (n : Int) (w : World) : Calls Try.prog 29 #[.int .i64 n] w (fun e w' => e = .returned (.agg #[.int .i64 (pagA n), .int .i64 (pagB n)]) ∧ Below w.heap.size w w') := by
  have K0 := blk_new w 25 #[.int .i64 0, .int .i64 0]
  have B0 := (Below.refl w.heap.size w).alloc (o := .cells #[.int .i64 0, .int .i64 0] 25) (Nat.le_refl _)
  by_cases h1 : n < 1
  · have hp : pagA n = 0 ∧ pagB n = 0 := by unfold pagA pagB; rw [if_pos (by omega), if_pos (by omega)]; exact ⟨rfl, rfl⟩
    have HP := Lib.hid hp
    clear hp
    go_enter Try.func29, Try.ntmps29
    go_wp2_with (first | (refine store_blk rfl 25 (.tmp 2) (.tmp 9) rfl K0 rfl rfl (vs := [.int .i64 0, .int .i64 0]) (m := 2) (by kernel_rfl) rfl rfl (by intro v hv; simp at hv; rcases hv with rfl | rfl <;> rfl) ?_; intro W5 K5 O5))
    exact bodyPost_ret (v := .agg #[.int .i64 0, .int .i64 0]) (K5.result (p := 2) (ty := 25) rfl _ rfl Try.underlying25 (by kernel_rfl)) rfl ⟨by rw [HP.out.1, HP.out.2], O5.2.2 _ _ (Nat.le_refl _) B0⟩
  by_cases h2 : 512 < n
  · have hp : pagA n = 0 ∧ pagB n = 0 := by unfold pagA pagB; rw [if_pos (by omega), if_pos (by omega)]; exact ⟨rfl, rfl⟩
    have HP := Lib.hid hp
    clear hp
    go_enter Try.func29, Try.ntmps29
    go_wp2_with (first | (refine store_blk rfl 25 (.tmp 2) (.tmp 9) rfl K0 rfl rfl (vs := [.int .i64 0, .int .i64 0]) (m := 2) (by kernel_rfl) rfl rfl (by intro v hv; simp at hv; rcases hv with rfl | rfl <;> rfl) ?_; intro W5 K5 O5))
    exact bodyPost_ret (v := .agg #[.int .i64 0, .int .i64 0]) (K5.result (p := 2) (ty := 25) rfl _ rfl Try.underlying25 (by kernel_rfl)) rfl ⟨by rw [HP.out.1, HP.out.2], O5.2.2 _ _ (Nat.le_refl _) B0⟩
  have hp : pagA n = 2 * n - 1 ∧ pagB n = 2 * n := by unfold pagA pagB; rw [if_neg (by omega), if_neg (by omega)]; exact ⟨rfl, rfl⟩
  obtain ⟨a, ha⟩ : ∃ a, 2 * n - 1 = a := ⟨_, rfl⟩
  obtain ⟨b, hb⟩ : ∃ b, 2 * n = b := ⟨_, rfl⟩
  have ha2 : b - 1 = a := by omega
  have hb2 : n + n = b := by omega
  have hb3 : b ≤ 1024 := by omega
  have hb4 : 2 ≤ b := by omega
  rw [ha, hb] at hp
  have HP := Lib.hid hp
  clear hp ha
  go_enter Try.func29, Try.ntmps29
  go_wp2_with (first | (refine store_blk rfl 25 (.tmp 2) (.tmp 17) rfl K0 rfl rfl (vs := [.int .i64 a, .int .i64 b]) (m := 2) (by kernel_rfl) rfl rfl (by intro v hv; simp at hv; rcases hv with rfl | rfl <;> rfl) ?_; intro W5 K5 O5))
  exact bodyPost_ret (v := .agg #[.int .i64 a, .int .i64 b]) (K5.result (p := 2) (ty := 25) rfl _ rfl Try.underlying25 (by kernel_rfl)) rfl ⟨by rw [HP.out.1, HP.out.2], O5.2.2 _ _ (Nat.le_refl _) B0⟩
end Go.Proofs.Ytahmpagolmodhaa
