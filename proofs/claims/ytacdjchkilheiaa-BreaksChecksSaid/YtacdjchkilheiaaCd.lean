/-
  Greedy of the program.
-/
import Derived.Test.YtacdjchkilheiaaCc
namespace Go.Proofs.Ytacdjchkilheiaa
open Go.RowKit
set_option linter.unusedVariables false
set_option linter.unusedSimpArgs false

/-- The call answers a list of its own and an error. -/
def ListR (L : List Int) (k : Int) (w : World) (e : Ending) (w' : World) : Prop := ∃ v, e = .returned (.tuple #[v, .int .i64 k]) ∧ OwnR intE w' w.heap.size v L ∧ Below w.heap.size w w'
def greedyA (l : List Int) (bl wd : Int) : List Int × Int := if errT l bl wd = 0 then (if wideT l wd = true then ([], 21) else (greedyT l bl wd, 0)) else ([], errT l bl wd)
theorem greedyF_yes {fr : Nat → Nat → Int} {n m f j : Nat} (h : fr f (j + 1) < 0) : greedyF fr n (m + 1) f j = (j : Int) :: greedyF fr n m j (j + 1) := by conv => lhs; unfold greedyF; rw [if_pos h]
theorem greedyF_no {fr : Nat → Nat → Int} {n m f j : Nat} (h : ¬ fr f (j + 1) < 0) : greedyF fr n (m + 1) f j = greedyF fr n m f (j + 1) := by conv => lhs; unfold greedyF; rw [if_neg h]
def GrRel (fr : Nat → Nat → Int) (G : List Int) (n B : Nat) (W : World) (v10 v11 v27 : Value) (wr : World) : Prop := ∃ (k f : Nat) (acc : List Int), v27 = .int .i64 (k : Int) ∧ v11 = .int .i64 (f : Int) ∧ f ≤ k ∧ k ≤ n ∧ acc.length ≤ k ∧ OwnR intE wr B v10 acc ∧ acc ++ greedyF fr n (n - k) f k = G ∧ Below B W wr

set_option maxHeartbeats 4000000 in
set_option maxRecDepth 100000 in
theorem greedy_any (A : Option Addr) (l : List Int) (n c : Nat) (hl : l.length = n) (bl wd : Int) (w : World) (hA : IntsAt w A l) :
    Calls Try.prog 12 #[.slice A n c, .int .i64 bl, .int .i64 wd] w (ListR (greedyA l bl wd).1 (greedyA l bl wd).2 w) := by
  have HPa := Lib.hid (paragraphOf_any A l n c hl bl wd w hA)
  by_cases he : errT l bl wd = 0
  · have hF := fine_of he
    have HPa2 := Lib.hid (show Calls Try.prog 30 #[.slice A n c, .int .i64 bl, .int .i64 wd] w (ParOk l n bl wd w) from HPa.out.mono fun e w' h => by
      rcases h with ⟨_, h⟩ | ⟨h, _⟩
      · exact h
      · exact absurd he h)
    have hG : greedyA l bl wd = if wideT l wd = true then ([], 21) else (greedyT l bl wd, 0) := by unfold greedyA; rw [if_pos he]
    have hT : greedyT l bl wd = greedyF (frT l bl wd) n n 0 0 := by unfold greedyT; rw [hl]
    have hn9 : n ≤ 256 := by have := hF.len; omega
    have HWd := Lib.hid (fun (b : Nat) (z : Bool) (V : World) => (show Calls Try.prog 31 #[.agg #[.slice (some ⟨b, 0, none⟩) (n + 1) (n + 1), .int .i64 bl, .int .i64 wd, .bool z]] V (IntR (n : Int) V) from pwords_any b n bl wd z (by omega) V))
    have HFr := Lib.hid (fun (b : Nat) (z : Bool) (i j : Nat) (hi : i ≤ n) (hj : j ≤ n) (V : World) (hS : SumsAt V b l bl) => (show Calls Try.prog 32 #[.agg #[.slice (some ⟨b, 0, none⟩) (n + 1) (n + 1), .int .i64 bl, .int .i64 wd, .bool z], .int .i64 (i : Int), .int .i64 (j : Int)] V (IntR (frT l bl wd i j) V) from pfree_any b l n hl bl wd z hF i j hi hj V hS))
    obtain ⟨z, hz⟩ : ∃ z, wideT l wd = z := ⟨_, rfl⟩
    rw [hz] at hG
    have HPa3 := Lib.hid (show Calls Try.prog 30 #[.slice A n c, .int .i64 bl, .int .i64 wd] w (fun e w' => ∃ b : Nat, e = .returned (.tuple #[.agg #[.slice (some ⟨b, 0, none⟩) (n + 1) (n + 1), .int .i64 bl, .int .i64 wd, .bool z], .int .i64 0]) ∧ SumsAt w' b l bl ∧ w.heap.size ≤ b ∧ Below w.heap.size w w') from HPa2.out.mono fun e w' h => by unfold ParOk pgV at h; rw [hz] at h; exact h)
    generalize greedyA l bl wd = r at *
    generalize greedyT l bl wd = G at *
    have HT := Lib.hid hT
    clear hl hF he hA hz hT HPa HPa2
    go_enter Try.func12, Try.ntmps12
    go_upto_region 2 with (first
      | (go_at_call 30; refine HPa3.out.mono ?_; rintro en W1 ⟨b, rfl, hS, hwb, hB1⟩)
      | (refine store_blk rfl 58 (.tmp 8) (.tmp 18) rfl (blk_new W1 58 zeroPg.toArray) rfl rfl (vs := [.slice (some ⟨b, 0, none⟩) (n + 1) (n + 1), .int .i64 bl, .int .i64 wd, .bool z]) (m := 4) (by kernel_rfl) rfl rfl (by intro v hv; simp at hv; rcases hv with rfl | rfl | rfl | rfl <;> rfl) ?_; intro W2 K2 O2))
    try simp only [zP, zQ, zS, zZ, zC]
    have X2 : Below W1.heap.size W1 W2 := O2.2.2 _ _ (Nat.le_refl _) ((Below.refl _ _).alloc (Nat.le_refl _) _)
    have hS2 := hS.keep X2
    have B2 := link hB1 X2
    obtain ⟨pb, hpb⟩ : ∃ pb, W1.heap.size = pb := ⟨_, rfl⟩
    rw [hpb] at K2
    rw [hpb]
    have c3 := K2.cell (j := 3) rfl
    have C := Lib.hid (fun (w' : World) (h : Below W2.heap.size W2 w') => (by have := (K2.keep h).range 0 4; exact this : w'.rangeAt pb 0 [.slice (some ⟨b, 0, none⟩) (n + 1) (n + 1), .int .i64 bl, .int .i64 wd, .bool z]))
    clear K2 O2 hS X2 hB1 hpb
    rcases z with _ | _
    · have HG := Lib.hid (show r = (G, 0) from hG)
      clear hG
      go_wp2_with (first
        | (refine wpList_load_mid rfl 58 (.tmp 8) rfl pb 0 rfl [.slice (some ⟨b, 0, none⟩) (n + 1) (n + 1), .int .i64 bl, .int .i64 wd, .bool false] _ (C.out W2 (Below.refl _ _)) Try.underlying58 rfl (by kernel_rfl) ?_)
        | (go_at_call 31; refine (HWd.out b false W2).mono ?_; rintro en W3 ⟨rfl, hB3⟩))
      obtain ⟨B, hBB⟩ : ∃ B, W2.heap.size = B := ⟨_, rfl⟩
      have HBB := Lib.hid hBB
      have hwB : w.heap.size ≤ B := by have := B2.size; omega
      rw [hBB] at hB3
      clear hBB c3
      go_loopw [10, 11, 27] (fun v10 v11 v27 wr => GrRel (frT l bl wd) G n B W2 v10 v11 v27 wr) (fun _ _ v _ => n - (intOf v).toNat)
      case atStart => exact ⟨0, 0, [], rfl, rfl, Nat.le_refl _, Nat.zero_le _, Nat.le_refl _, OwnR.nil _ _ _, HT.out.symm, hB3⟩
      case round =>
        clear hB3
        obtain ⟨k, f, acc, rfl, rfl, hfk, hkn, hal, hO, hG, hB⟩ := hrel
        have hB' : Below W2.heap.size W2 wr := by rw [HBB.out]; exact hB
        have CW := C.out wr hB'
        have hS3 := hS2.keep hB'
        have hBs := hB.size
        rw [HBB.out] at hBs
        rcases Nat.lt_or_ge k n with hlt | hge
        · have HF1 := Lib.hid (HFr.out b false f (k + 1) (by omega) (by omega) wr hS3)
          obtain ⟨k1, hk1⟩ : ∃ k1, k + 1 = k1 := ⟨_, rfl⟩
          have HY := Lib.hid (fun h : frT l bl wd f k1 < 0 => (show (acc ++ [(k : Int)]) ++ greedyF (frT l bl wd) n (n - k1) k k1 = G from by rw [← hG, show n - k = (n - k1) + 1 by omega, greedyF_yes (by rw [hk1]; exact h), List.append_assoc, hk1]; rfl))
          have HN := Lib.hid (fun h : ¬ frT l bl wd f k1 < 0 => (show acc ++ greedyF (frT l bl wd) n (n - k1) f k1 = G from by rw [← hG, show n - k = (n - k1) + 1 by omega, greedyF_no (by rw [hk1]; exact h), hk1]))
          rw [hk1] at HF1
          have hkk : (k : Int) + 1 = (k1 : Int) := by omega
          have hk1n : k1 ≤ n := by omega
          have hk2 : k1 = k + 1 := hk1.symm
          have HK2 := Lib.hid hk2
          clear hG hk1 hk2
          generalize frT l bl wd f k1 = fr at HF1 HY HN
          by_cases hfr : fr < 0
          · have HY2 := Lib.hid (HY.out hfr)
            clear HY HN
            go_wp2_with (first
              | (refine wpList_load_mid rfl 58 (.tmp 8) rfl pb 0 rfl [.slice (some ⟨b, 0, none⟩) (n + 1) (n + 1), .int .i64 bl, .int .i64 wd, .bool false] _ CW Try.underlying58 rfl (by kernel_rfl) ?_)
              | (go_at_call 32; refine HF1.out.mono ?_; rintro en W5 ⟨rfl, hB5⟩; have hO5 := hO.keep hB5; have hB6 := hB.trans (hB5.mono hBs); have hz5 : B ≤ W5.heap.size := Nat.le_trans hBs hB5.size)
              | (at_builtin; refine push_el intE rfl (.tmp 36) (.tmp 38) rfl acc (k : Int) _ rfl hO5 hz5 _ rfl _ rfl (by omega) ?_; intro v6 W6 hO6 hB7 hR6))
            exact ⟨⟨k1, k, acc ++ [(k : Int)], by have := HK2.out; go_num, rfl, by have := HK2.out; omega, hk1n, by rw [List.length_append]; have := HK2.out; simp; omega, hO6, HY2.out, hB6.trans hB7⟩, by have := HK2.out; simp [intOf]; omega⟩
          · have HN2 := Lib.hid (HN.out hfr)
            clear HY HN
            go_wp2_with (first
              | (refine wpList_load_mid rfl 58 (.tmp 8) rfl pb 0 rfl [.slice (some ⟨b, 0, none⟩) (n + 1) (n + 1), .int .i64 bl, .int .i64 wd, .bool false] _ CW Try.underlying58 rfl (by kernel_rfl) ?_)
              | (go_at_call 32; refine HF1.out.mono ?_; rintro en W5 ⟨rfl, hB5⟩; have hO5 := hO.keep hB5; have hB6 := hB.trans (hB5.mono hBs)))
            exact ⟨⟨k1, f, acc, by have := HK2.out; go_num, rfl, by have := HK2.out; omega, hk1n, by have := HK2.out; omega, hO5, HN2.out, hB6⟩, by have := HK2.out; simp [intOf]; omega⟩
        · obtain rfl : k = n := by omega
          have hlt : ¬ k < k := by omega
          rw [Nat.sub_self] at hG
          rcases Nat.eq_zero_or_pos k with h0 | h0
          · subst h0
            have hE := Lib.hid (show acc = G from by rw [← hG]; unfold greedyF; rw [if_neg (by omega), List.append_nil])
            clear hG
            go_wp2_with (first
              | (refine wpList_load_mid rfl 58 (.tmp 8) rfl pb 0 rfl [.slice (some ⟨b, 0, none⟩) (0 + 1) (0 + 1), .int .i64 bl, .int .i64 wd, .bool false] _ CW Try.underlying58 rfl (by kernel_rfl) ?_)
              | (go_at_call 31; refine (HWd.out b false wr).mono ?_; rintro en W7 ⟨rfl, hB7⟩))
            go_ret2
            refine ⟨_, by rw [HG.out]; rfl, ?_, B2.trans ((hB.mono hwB).trans (hB7.mono (Nat.le_trans hwB hBs)))⟩
            rw [HG.out, ← hE.out]
            exact (hO.keep hB7).mono hwB
          · have hE := Lib.hid (show acc ++ [(k : Int)] = G from by rw [← hG]; unfold greedyF; rw [if_pos h0])
            have h00 : (0 : Int) < (k : Int) := by omega
            clear hG
            go_wp2_with (first
              | (refine wpList_load_mid rfl 58 (.tmp 8) rfl pb 0 rfl [.slice (some ⟨b, 0, none⟩) (k + 1) (k + 1), .int .i64 bl, .int .i64 wd, .bool false] _ CW Try.underlying58 rfl (by kernel_rfl) ?_)
              | (go_at_call 31; refine (HWd.out b false wr).mono ?_; rintro en W7 ⟨rfl, hB7⟩; have CW7 := C.out W7 (link hB' hB7); have hO7 := hO.keep hB7; have hB70 := hB.trans (hB7.mono hBs))
              | (refine wpList_load_mid rfl 58 (.tmp 8) rfl pb 0 rfl [.slice (some ⟨b, 0, none⟩) (k + 1) (k + 1), .int .i64 bl, .int .i64 wd, .bool false] _ CW7 Try.underlying58 rfl (by kernel_rfl) ?_)
              | (go_at_call 31; refine (HWd.out b false W7).mono ?_; rintro en W8 ⟨rfl, hB8⟩; have hO8 := hO7.keep hB8; have hz8 : B ≤ W8.heap.size := Nat.le_trans hBs (Nat.le_trans hB7.size hB8.size); have hB80 := hB70.trans (hB8.mono (Nat.le_trans hBs hB7.size)))
              | (at_builtin; refine push_el intE rfl (.tmp 45) (.tmp 48) rfl acc (k : Int) _ rfl hO8 hz8 _ rfl _ rfl (by omega) ?_; intro v9 W9 hO9 hB9 hR9))
            go_ret2
            refine ⟨_, by rw [HG.out]; rfl, ?_, B2.trans ((hB80.trans hB9).mono hwB)⟩
            rw [HG.out, ← hE.out]
            exact hO9.mono hwB
    · have HG := Lib.hid (show r = ([], 21) from hG)
      clear hG
      go_wp2
      go_ret2
      exact ⟨_, by rw [HG.out]; rfl, by rw [HG.out]; exact OwnR.nil _ _ _, B2⟩
  · have hG : greedyA l bl wd = ([], errT l bl wd) := by unfold greedyA; rw [if_neg he]
    have HPa2 := Lib.hid (show Calls Try.prog 30 #[.slice A n c, .int .i64 bl, .int .i64 wd] w (ParBad (errT l bl wd) w) from HPa.out.mono fun e w' h => by
      rcases h with ⟨h, _⟩ | ⟨_, h⟩
      · exact absurd h he
      · exact h)
    generalize errT l bl wd = k at *
    generalize greedyA l bl wd = r at *
    have HG := Lib.hid hG
    have hk : (k == 0) = false := by simp; exact he
    clear hl he hA HPa hG
    go_enter Try.func12, Try.ntmps12
    go_upto_region 2 with (first
      | (go_at_call 30; refine HPa2.out.mono ?_; rintro en W1 ⟨rfl, hB1⟩)
      | (refine store_blk rfl 58 (.tmp 8) (.tmp 18) rfl (blk_new W1 58 zeroPg.toArray) rfl rfl (vs := zeroPg) (m := 4) (by kernel_rfl) rfl rfl (by intro v hv; simp [zeroPg] at hv; rcases hv with rfl | rfl | rfl | rfl <;> rfl) ?_; intro W2 K2 O2))
    try simp only [zP, zQ, zS, zZ, zC]
    have X2 : Below W1.heap.size W1 W2 := O2.2.2 _ _ (Nat.le_refl _) ((Below.refl _ _).alloc (Nat.le_refl _) _)
    go_wp2
    go_ret2
    exact ⟨_, by rw [HG.out]; rfl, by rw [HG.out]; exact OwnR.nil _ _ _, link hB1 X2⟩
end Go.Proofs.Ytacdjchkilheiaa
