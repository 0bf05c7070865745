/-
  Weights of the reference.
-/
import Derived.Test.YtjpiidfoegaenaaEn
import Derived.Test.YtjpiidfoegaenaaFc
namespace Go.Proofs.Ytjpiidfoegaenaa
open Go Go.RowKit
set_option linter.unusedVariables false
set_option linter.unusedSimpArgs false

/-- The weights of n characters. -/
def wtsT : Nat → List Int
  | 0 => []
  | n + 1 => (3 : Int) ^ n % 31 :: wtsT n
theorem wts_len : ∀ n, (wtsT n).length = n
  | 0 => rfl
  | n + 1 => by show (wtsT n).length + 1 = _; rw [wts_len n]
theorem wts_below : ∀ n, belowT (wtsT n) 1024 = true
  | 0 => rfl
  | n + 1 => belowT_of fun x hx => by
    rcases List.mem_cons.1 hx with rfl | h
    · have := Int.emod_nonneg ((3 : Int) ^ n) (show (31 : Int) ≠ 0 by omega)
      have := Int.emod_lt_of_pos ((3 : Int) ^ n) (show (0 : Int) < 31 by omega)
      omega
    · exact belowT_mem (wts_below n) x h
theorem dot_wts : ∀ l : List Int, dotT (wtsT l.length) l % 31 = polF l % 31
  | [] => rfl
  | v :: l => by
    show ((3 : Int) ^ l.length % 31 * v + dotT (wtsT l.length) l) % 31 = (v * 3 ^ l.length + polF l) % 31
    have h1 : ((3 : Int) ^ l.length % 31 * v) % 31 = (v * 3 ^ l.length) % 31 := by rw [Int.mul_comm v, Int.mul_emod, Int.emod_emod, ← Int.mul_emod]
    rw [Int.add_emod, h1, dot_wts l, ← Int.add_emod]
theorem wts_rest {l : List Int} {n : Nat} (h : l.length = n) : dotT (wtsT n) l % 31 = restT l := by rw [← h, dot_wts, restT_pol]
theorem wts_set (m : Nat) (x : Int) (L : List Int) : (List.replicate (m + 1) (0 : Int) ++ L).set m x = List.replicate m 0 ++ x :: L := by
  rw [List.replicate_succ', List.append_assoc, List.set_append_right _ _ (by rw [List.length_replicate]; exact Nat.le_refl _), List.length_replicate, Nat.sub_self]
  rfl
def WtR (n : Nat) (w : World) (e : Ending) (w' : World) : Prop := ∃ q, e = .returned (.slice q n n) ∧ IntsAt w' q (wtsT n) ∧ Below w.heap.size w w'
def WtRel (n : Nat) (w : World) (b : Nat) (x i : Value) (W : World) : Prop := ∃ (k m : Nat) (j y : Int), k + m = n ∧ i = .int .i64 j ∧ j = (m : Int) - 1 ∧ x = .int .i64 y ∧ y = (3 : Int) ^ k % 31 ∧ Blk W b 3 ((List.replicate m (0 : Int) ++ wtsT k).map (Value.int .i64)) ∧ Below w.heap.size w W
set_option maxHeartbeats 4000000 in
set_option maxRecDepth 100000 in
theorem rweights_any (n : Nat) (hn : n ≤ 64) (w : World) : Calls Try.prog 43 #[.int .i64 (n : Int)] w (WtR n w) := by
  have hmk := fun V : World => mk_int n (by omega) V
  go_enter Try.func43, Try.ntmps43
  go_upto_region 2 with (fail)
  have k7 := blk_new w 3 (zeros n)
  rw [zeros_map] at k7
  have X : Below w.heap.size w (w.alloc (.cells (zeros n) 3)) := (Below.refl _ _).alloc (Nat.le_refl _) _
  have g7 : w.heap.size ≤ w.heap.size := Nat.le_refl _
  generalize w.alloc _ = V1 at k7 X ⊢
  obtain ⟨b, hb⟩ : ∃ b, b = w.heap.size := ⟨_, rfl⟩
  rw [← hb] at k7 ⊢
  have hbz : w.heap.size ≤ b := by omega
  clear hmk hb g7
  go_wp2
  go_loopw [4, 5] (fun x i W => WtRel n w b x i W) (fun _ i _ => (intOf i + 1).toNat)
  case atStart => exact ⟨0, n, (n : Int) - 1, 1, by omega, by go_num, rfl, rfl, rfl, by rw [show wtsT 0 = [] from rfl, List.append_nil]; exact k7, X⟩
  case round =>
    obtain ⟨k, m, j, y, hkm, rfl, hj, rfl, hy, hK, hB⟩ := hrel
    have hy0 := Int.emod_nonneg ((3 : Int) ^ k) (show (31 : Int) ≠ 0 by omega)
    have hy1 := Int.emod_lt_of_pos ((3 : Int) ^ k) (show (0 : Int) < 31 by omega)
    rw [← hy] at hy0 hy1
    rcases m with _ | m
    · have hjz : ¬ j ≥ 0 := by omega
      obtain rfl : k = n := by omega
      rw [List.replicate_zero, List.nil_append] at hK
      clear hy
      go_wp2
      go_ret
      exact ⟨_, rfl, ints_blk hK (wts_below _) (by omega), hB⟩
    · obtain rfl : j = (m : Int) := by omega
      have hjz : (m : Int) ≥ 0 := by omega
      have hmn : (m : Int) < (n : Int) := by omega
      obtain ⟨t, ht⟩ : ∃ t, y * 3 = t := ⟨_, rfl⟩
      obtain ⟨u, hu⟩ : ∃ u, t.tmod 31 = u := ⟨_, rfl⟩
      have hu2 : u = (3 : Int) ^ (k + 1) % 31 := by
        rw [← hu, ← ht, Int.tmod_eq_emod_of_nonneg (by omega), hy, Int.pow_succ, Int.mul_emod, Int.emod_emod, ← Int.mul_emod]
      have HU := Lib.hid hu2
      have HK := Lib.hid hkm
      obtain ⟨v, hv⟩ : ∃ v, wr.cell? ⟨b, m, none⟩ = some v := ⟨_, hK.cell (j := m) (List.getElem?_eq_getElem (by simp; omega))⟩
      have fr := hK.free m
      have hKn := hK.set m (.int .i64 y)
      rw [← List.map_set, wts_set] at hKn
      have hBn : Below w.heap.size w (World.setCell wr ⟨b, m, none⟩ (.int .i64 y)) := hB.setCell (by exact hbz) _
      rw [hy, show (3 : Int) ^ k % 31 :: wtsT k = wtsT (k + 1) from rfl, ← hy] at hKn
      clear hu2 hkm hy hj
      go_wp2
      exact ⟨⟨k + 1, m, (m : Int) - 1, u, by have := HK.out; omega, by go_num, rfl, rfl, HU.out, hKn, hBn⟩, by first | (simp [intOf]; done) | (simp [intOf]; omega)⟩
end Go.Proofs.Ytjpiidfoegaenaa
