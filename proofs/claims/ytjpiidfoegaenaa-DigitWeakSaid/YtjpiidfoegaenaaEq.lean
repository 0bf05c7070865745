/-
  Weak of the reference, walked.
-/
import Derived.Test.YtjpiidfoegaenaaEp
namespace Go.Proofs.Ytjpiidfoegaenaa
open Go Go.RowKit
set_option linter.unusedVariables false
set_option linter.unusedSimpArgs false

def OuR (l : List Int) (m1 n : Nat) (w1 : World) (v : Value) (V : World) : Prop := ∃ i : Nat, i ≤ n ∧ v = .int .i64 (i : Int) ∧ Cl l m1 (i * (2 * m1)) ∧ Below w1.heap.size w1 V
def MiR (l : List Int) (m1 i n : Nat) (w1 : World) (v : Value) (V : World) : Prop := ((v = .int .i64 0 ∧ Cl l m1 (i * (2 * m1))) ∨ (v = .int .i64 1 ∧ Cl l m1 (i * (2 * m1) + m1)) ∨ (v = .int .i64 2 ∧ Cl l m1 ((i + 1) * (2 * m1)))) ∧ Below w1.heap.size w1 V
def InR (l : List Int) (m1 m s : Nat) (w1 : World) (b : Nat) (x y : Value) (v : Value) (V : World) : Prop := ∃ d : Nat, 1 ≤ d ∧ d ≤ m ∧ v = .int .i64 (d : Int) ∧ Cl l m1 (s + (d - 1)) ∧ Below w1.heap.size w1 V ∧ ∃ u, Blk V b 38 [x, y, .int .i64 0, u]
set_option maxHeartbeats 4000000 in
set_option maxRecDepth 100000 in
theorem rweak_bad (l : List Int) (m : Int) (A : Option Addr) (n c : Nat) (hl : l.length = n) (hn6 : n ≤ 9223372036854775807) (hs : schE l m ≠ 0) (w : World) (hA : IntsAt w A l) :
    Calls Try.prog 18 #[.slice A n c, .int .i64 m] w (WeakR flZ false (schE l m) w) := by
  have CC := Lib.hid (fun V (hV : Below w.heap.size w V) => rerror_any l m A n c hl hn6 V (hA.keep hV))
  generalize schE l m = r at *
  have hrz : (r != 0) = true := by simp [hs]
  clear hl hA hs
  go_enter Try.func18, Try.ntmps18
  go_upto_region 1 with (fail)
  have k4 := blk_new w 38 #[.int .i64 0, .int .i64 0, .int .i64 0, .int .i64 0]
  have BX : Below w.heap.size w (w.alloc (.cells #[.int .i64 0, .int .i64 0, .int .i64 0, .int .i64 0] 38)) := (Below.refl _ _).alloc (Nat.le_refl _) _
  have h14 : w.heap.size ≤ w.heap.size := Nat.le_refl _
  generalize w.alloc _ = w1 at k4 BX ⊢
  obtain ⟨b4, hb4⟩ : ∃ b, b = w.heap.size := ⟨_, rfl⟩
  have h14 : w.heap.size ≤ b4 := by omega
  rw [← hb4] at k4 ⊢
  clear hb4
  go_upto_region 3 with (go_at_call 36; refine (CC.out _ BX).mono ?_; rintro _ w2 ⟨rfl, B2⟩)
  have k4 := k4.keep B2
  have BY := link BX B2
  clear CC B2 BX
  go_wp2_with (refine store_blk rfl 38 (.tmp 4) (.tmp 17) rfl k4 rfl rfl (vs := [.int .i64 0, .int .i64 0, .int .i64 0, .int .i64 0]) (m := 4) (by kernel_rfl) rfl rfl (by intro v hv; simp at hv; subst hv; rfl) ?_; intro W7 N4 O4)
  have BZ := O4.2.2 _ _ h14 BY
  refine bodyPost_ret (results_cnn rfl _ _ rfl rfl rfl (N4.loadVarS Try.underlying38 (by kernel_rfl))) rfl ?_
  exact ⟨rfl, BZ⟩
set_option maxHeartbeats 8000000 in
set_option maxRecDepth 100000 in
theorem rweak_good (l : List Int) (m1 m : Nat) (hm : m1 + 1 = m) (A : Option Addr) (n c : Nat) (hl : l.length = n) (hs : schE l ((m1 + 1 : Nat) : Int) = 0) (w : World) (hA : IntsAt w A l) :
    Calls Try.prog 18 #[.slice A n c, .int .i64 (m : Int)] w (WeakR (weakF l (m : Int)) (weakB l (m : Int)) 0 w) := by
  obtain ⟨hl256, hm2, hm1024, hbl⟩ := schE_ok hs
  have CC := Lib.hid (fun V (hV : Below w.heap.size w V) => rerror_any l ((m1 + 1 : Nat) : Int) A n c hl (by omega) V (hA.keep hV))
  rw [hs] at CC
  have hmz : (m1 : Int) + 1 = (m : Int) := by omega
  rw [hm] at CC hm2 hm1024 hbl
  have HL := Lib.hid hl
  rw [hl] at hl256
  clear hl
  go_enter Try.func18, Try.ntmps18
  go_upto_region 1 with (fail)
  have k4 := blk_new w 38 #[.int .i64 0, .int .i64 0, .int .i64 0, .int .i64 0]
  have BX : Below w.heap.size w (w.alloc (.cells #[.int .i64 0, .int .i64 0, .int .i64 0, .int .i64 0] 38)) := (Below.refl _ _).alloc (Nat.le_refl _) _
  generalize w.alloc _ = w0 at k4 BX ⊢
  obtain ⟨b4, hb4⟩ : ∃ b, b = w.heap.size := ⟨_, rfl⟩
  have h14 : w.heap.size ≤ b4 := by omega
  rw [← hb4] at k4 ⊢
  clear hb4
  go_upto_region 4 with (go_at_call 36; refine (CC.out _ BX).mono ?_; rintro _ w1 ⟨rfl, B2⟩)
  have k4 := k4.keep B2
  have BW := Lib.hid (link BX B2)
  clear CC B2 BX
  go_wp2
  go_loopw [8] (fun v V => OuR l m1 n w1 v V) (fun v _ => n - (intOf v).toNat)
  case atStart => exact ⟨0, Nat.zero_le _, rfl, fun j hj => by rw [Nat.zero_mul] at hj; omega, Below.refl _ _⟩
  case round =>
    obtain ⟨i, hi, rfl, hC, hB⟩ := hrel
    rcases Nat.lt_or_ge i n with hlt | hge
    · have hiz : (i : Int) < (n : Int) := by omega
      go_wp2
      go_loopw [9] (fun v V => MiR l m1 i n w1 v V) (fun v _ => 2 - (intOf v).toNat)
      case atStart => exact ⟨Or.inl ⟨rfl, hC⟩, hB⟩
      case round =>
        clear hC hB
        obtain ⟨⟨rfl, hC⟩ | ⟨rfl, hC⟩ | ⟨rfl, hC⟩, hB⟩ := hrel
        · have N10 := blk_new wr 38 #[.int .i64 0, .int .i64 0, .int .i64 0, .int .i64 0]
          go_upto_region 11 with (refine store_blk rfl 38 (.tmp 10) (.tmp 38) rfl N10 rfl rfl (vs := [.int .i64 (i : Int), .int .i64 (-1), .int .i64 0, .int .i64 0]) (m := 4) (by kernel_rfl) rfl rfl (by intro v hv; simp at hv; rcases hv with rfl | rfl | rfl <;> rfl) ?_; intro w3 K10 O3)
          have BX := O3.2.2 _ _ hB.size (hB.alloc hB.size (.cells #[.int .i64 0, .int .i64 0, .int .i64 0, .int .i64 0] 38))
          have g10 : w1.heap.size ≤ wr.heap.size := hB.size
          generalize wr.heap.size = b10 at K10 g10 ⊢
          clear O3 N10 hB
          go_wp2
          go_loopw [11] (fun v V => InR l m1 m (i * (2 * m1)) w1 b10 (.int .i64 (i : Int)) (.int .i64 (-1)) v V) (fun v _ => m - (intOf v).toNat)
          case atStart => exact ⟨1, Nat.le_refl _, by omega, rfl, by exact hC, BX, _, K10⟩
          case round =>
            obtain ⟨d, hd1, hdm, rfl, hC, BX, u, K10⟩ := hrel
            rcases Nat.lt_or_ge d m with hdlt | hge
            · have hdz : (d : Int) < (m : Int) := by omega
              have AT := Lib.hid (at_one (by rw [HL.out]; exact hlt) (⟨hd1, by omega⟩ : 1 ≤ d ∧ d ≤ m1))
              have c3 := K10.cell (j := 3) rfl
              have f3 := K10.free 3
              have LT := Lib.hid (fun V (hV : Below w.heap.size w V) => (by have := lost1 l (m : Int) hm2 hm1024 hbl A n c HL.out (by omega) i hlt (d : Int) ⟨by omega, by omega⟩ V (hA.keep hV); rwa [one_eq HL.out hlt] at this : Calls Try.prog 39 #[.slice A n c, .int .i64 (m : Int), .agg #[.int .i64 (i : Int), .int .i64 (-1), .int .i64 0, .int .i64 (d : Int)]] V (BoolB (decide (wAt l i * (d : Int) % (m : Int) = 0)) V)))
              go_upto_region 17 with (fail)
              have K11 := K10.set 3 (.int .i64 (d : Int))
              have BY : Below w1.heap.size w1 (World.setCell wr ⟨b10, 3, none⟩ (.int .i64 (d : Int))) := BX.setCell (by exact g10) _
              generalize World.setCell wr _ _ = W5 at K11 BY ⊢
              have c0 := K11.cell (j := 0) rfl
              have c1 := K11.cell (j := 1) rfl
              have c2 := K11.cell (j := 2) rfl
              have c3 := K11.cell (j := 3) rfl
              have BZ := link BW.out BY
              by_cases hz : wAt l i * (d : Int) % (m : Int) = 0
              · have LT := Lib.hid (by have := LT.out W5 BZ; rwa [decide_eq_true hz] at this)
                have WF := Lib.hid (weak_first hs hC AT.out.2.2 (by rw [AT.out.2.1, hmz]; exact hz))
                clear hz
                go_upto_region 18 with (go_at_call 39; refine LT.out.mono ?_; rintro _ W6 ⟨rfl, B6⟩)
                have B7 := link BY B6
                have K12 := K11.keep B6
                have c0 := K12.cell (j := 0) rfl
                have c1 := K12.cell (j := 1) rfl
                have c2 := K12.cell (j := 2) rfl
                have c3 := K12.cell (j := 3) rfl
                have k4 := k4.keep B7
                go_wp2_with (refine store_blk rfl 38 (.tmp 4) (.tmp 55) rfl k4 rfl rfl (vs := [.int .i64 (i : Int), .int .i64 (-1), .int .i64 0, .int .i64 (d : Int)]) (m := 4) (by kernel_rfl) rfl rfl (by intro v hv; simp at hv; rcases hv with rfl | rfl | rfl | rfl <;> rfl) ?_; intro W7 N4 O4)
                have BF := O4.2.2 _ _ h14 (link BW.out B7)
                refine bodyPost_ret (results_cnn rfl _ _ rfl rfl rfl (N4.loadVarS Try.underlying38 (by kernel_rfl))) rfl ?_
                rw [← hm, WF.out.1, WF.out.2, AT.out.1]
                exact ⟨rfl, BF⟩
              · have LT := Lib.hid (by have := LT.out W5 BZ; rwa [decide_eq_false hz] at this)
                have HC := Lib.hid (cl_step hC (by rw [AT.out.2.1, hmz]; exact hz))
                clear hz
                go_wp2_with (go_at_call 39; refine LT.out.mono ?_; rintro _ W6 ⟨rfl, B6⟩)
                exact ⟨⟨d + 1, by omega, by omega, by go_num, by rw [show i * (2 * m1) + (d + 1 - 1) = i * (2 * m1) + (d - 1) + 1 by omega]; exact HC.out, link BY B6, _, K11.keep B6⟩, by simp [intOf]; omega⟩
            · obtain rfl : d = m := by omega
              have hC' : Cl l m1 (i * (2 * m1) + m1) := by rw [show i * (2 * m1) + m1 = i * (2 * m1) + (d - 1) by omega]; exact hC
              go_wp2
              exact ⟨⟨Or.inr (Or.inl ⟨rfl, hC'⟩), BX⟩, by simp [intOf]⟩
        · rcases Nat.lt_or_ge (i + 1) n with h1 | h1
          · obtain ⟨i1, hi1⟩ : ∃ i1, i + 1 = i1 := ⟨_, rfl⟩
            have hi1n : i1 < n := by omega
            have hi1z : (i : Int) + 1 < (n : Int) := by omega
            have N10 := blk_new wr 38 #[.int .i64 0, .int .i64 0, .int .i64 0, .int .i64 0]
            go_upto_region 11 with (refine store_blk rfl 38 (.tmp 10) (.tmp 38) rfl N10 rfl rfl (vs := [.int .i64 (i : Int), .int .i64 (-1), .int .i64 0, .int .i64 0]) (m := 4) (by kernel_rfl) rfl rfl (by intro v hv; simp at hv; rcases hv with rfl | rfl | rfl <;> rfl) ?_; intro w3 K10 O3)
            have BX := O3.2.2 _ _ hB.size (hB.alloc hB.size (.cells #[.int .i64 0, .int .i64 0, .int .i64 0, .int .i64 0] 38))
            have g10 : w1.heap.size ≤ wr.heap.size := hB.size
            generalize wr.heap.size = b10 at K10 g10 ⊢
            clear O3 N10 hB
            have c1 := K10.cell (j := 1) rfl
            have f1 := K10.free 1
            go_upto_region 13 with (fail)
            have K10 := K10.set 1 (.int .i64 ((i : Int) + 1))
            have BX : Below w1.heap.size w1 (World.setCell w3 ⟨b10, 1, none⟩ (.int .i64 ((i : Int) + 1))) := BX.setCell (by exact g10) _
            generalize World.setCell w3 _ _ = w4 at K10 BX ⊢
            rw [show (i : Int) + 1 = (i1 : Int) by omega] at K10
            clear c1 f1
            go_wp2
            go_loopw [11] (fun v V => InR l m1 m (i * (2 * m1) + m1) w1 b10 (.int .i64 (i : Int)) (.int .i64 (i1 : Int)) v V) (fun v _ => m - (intOf v).toNat)
            case atStart => exact ⟨1, Nat.le_refl _, by omega, rfl, by exact hC, BX, _, K10⟩
            case round =>
              obtain ⟨d, hd1, hdm, rfl, hC, BX, u, K10⟩ := hrel
              rcases Nat.lt_or_ge d m with hdlt | hge
              · have hdz : (d : Int) < (m : Int) := by omega
                have AT := Lib.hid (at_two hi1 (by rw [HL.out]; exact hi1n) (⟨hd1, by omega⟩ : 1 ≤ d ∧ d ≤ m1))
                have c3 := K10.cell (j := 3) rfl
                have f3 := K10.free 3
                have LT := Lib.hid (fun V (hV : Below w.heap.size w V) => (by have := lost2 l (m : Int) hm2 hm1024 hbl A n c HL.out (by omega) i hlt i1 hi1n (d : Int) ⟨by omega, by omega⟩ V (hA.keep hV); rwa [two_eq HL.out hi1 hi1n] at this : Calls Try.prog 39 #[.slice A n c, .int .i64 (m : Int), .agg #[.int .i64 (i : Int), .int .i64 (i1 : Int), .int .i64 0, .int .i64 (d : Int)]] V (BoolB (decide ((wAt l i - wAt l i1) * (d : Int) % (m : Int) = 0)) V)))
                go_upto_region 17 with (fail)
                have K11 := K10.set 3 (.int .i64 (d : Int))
                have BY : Below w1.heap.size w1 (World.setCell wr ⟨b10, 3, none⟩ (.int .i64 (d : Int))) := BX.setCell (by exact g10) _
                generalize World.setCell wr _ _ = W5 at K11 BY ⊢
                have c0 := K11.cell (j := 0) rfl
                have c1 := K11.cell (j := 1) rfl
                have c2 := K11.cell (j := 2) rfl
                have c3 := K11.cell (j := 3) rfl
                have BZ := link BW.out BY
                by_cases hz : (wAt l i - wAt l i1) * (d : Int) % (m : Int) = 0
                · have LT := Lib.hid (by have := LT.out W5 BZ; rwa [decide_eq_true hz] at this)
                  have WF := Lib.hid (weak_first hs hC AT.out.2.2 (by rw [AT.out.2.1, hmz]; exact hz))
                  clear hz
                  go_upto_region 18 with (go_at_call 39; refine LT.out.mono ?_; rintro _ W6 ⟨rfl, B6⟩)
                  have B7 := link BY B6
                  have K12 := K11.keep B6
                  have c0 := K12.cell (j := 0) rfl
                  have c1 := K12.cell (j := 1) rfl
                  have c2 := K12.cell (j := 2) rfl
                  have c3 := K12.cell (j := 3) rfl
                  have k4 := k4.keep B7
                  go_wp2_with (refine store_blk rfl 38 (.tmp 4) (.tmp 55) rfl k4 rfl rfl (vs := [.int .i64 (i : Int), .int .i64 (i1 : Int), .int .i64 0, .int .i64 (d : Int)]) (m := 4) (by kernel_rfl) rfl rfl (by intro v hv; simp at hv; rcases hv with rfl | rfl | rfl | rfl <;> rfl) ?_; intro W7 N4 O4)
                  have BF := O4.2.2 _ _ h14 (link BW.out B7)
                  refine bodyPost_ret (results_cnn rfl _ _ rfl rfl rfl (N4.loadVarS Try.underlying38 (by kernel_rfl))) rfl ?_
                  rw [← hm, WF.out.1, WF.out.2, AT.out.1]
                  exact ⟨rfl, BF⟩
                · have LT := Lib.hid (by have := LT.out W5 BZ; rwa [decide_eq_false hz] at this)
                  have HC := Lib.hid (cl_step hC (by rw [AT.out.2.1, hmz]; exact hz))
                  clear hz
                  go_wp2_with (go_at_call 39; refine LT.out.mono ?_; rintro _ W6 ⟨rfl, B6⟩)
                  exact ⟨⟨d + 1, by omega, by omega, by go_num, by rw [show i * (2 * m1) + m1 + (d + 1 - 1) = i * (2 * m1) + m1 + (d - 1) + 1 by omega]; exact HC.out, link BY B6, _, K11.keep B6⟩, by simp [intOf]; omega⟩
              · obtain rfl : d = m := by omega
                have hC' : Cl l m1 ((i + 1) * (2 * m1)) := by rw [show (i + 1) * (2 * m1) = i * (2 * m1) + m1 + (d - 1) by rw [Nat.succ_mul]; omega]; exact hC
                go_wp2
                exact ⟨⟨Or.inr (Or.inr ⟨rfl, hC'⟩), BX⟩, by simp [intOf]⟩
          · have hi1z : ¬ ((i : Int) + 1 < (n : Int)) := by omega
            have hC' := Lib.hid (cl_end hC (by rw [HL.out]; omega))
            go_wp2
            exact ⟨⟨i + 1, by omega, by go_num, hC'.out, hB⟩, by simp [intOf]; omega⟩
        · go_wp2
          exact ⟨⟨i + 1, by omega, by go_num, hC, hB⟩, by simp [intOf]; omega⟩
    · obtain rfl : i = n := by omega
      have WF := Lib.hid (weak_none hs HL.out hC)
      have k4 := k4.keep hB
      go_wp2_with (refine store_blk rfl 38 (.tmp 4) (.tmp 56) rfl k4 rfl rfl (vs := [.int .i64 0, .int .i64 0, .int .i64 0, .int .i64 0]) (m := 4) (by kernel_rfl) rfl rfl (by intro v hv; simp at hv; subst hv; rfl) ?_; intro W7 N4 O4)
      have BF := O4.2.2 _ _ h14 (link BW.out hB)
      refine bodyPost_ret (results_cnn rfl _ _ rfl rfl rfl (N4.loadVarS Try.underlying38 (by kernel_rfl))) rfl ?_
      rw [← hm, WF.out.1, WF.out.2]
      exact ⟨rfl, BF⟩
theorem rweak_any (l : List Int) (m : Int) (A : Option Addr) (n c : Nat) (hl : l.length = n) (hn6 : n ≤ 9223372036854775807) (w : World) (hA : IntsAt w A l) :
    Calls Try.prog 18 #[.slice A n c, .int .i64 m] w (WeakR (weakF l m) (weakB l m) (schE l m) w) := by
  by_cases hs : schE l m = 0
  · obtain ⟨_, h2, h3, _⟩ := schE_ok hs
    obtain ⟨m1, rfl⟩ : ∃ m1 : Nat, m = ((m1 + 1 : Nat) : Int) := ⟨(m - 1).toNat, by omega⟩
    have := rweak_good l m1 _ rfl A n c hl hs w hA
    rw [hs]
    exact this
  · have := rweak_bad l m A n c hl hn6 hs w hA
    rw [show weakF l m = flZ by unfold weakF; rw [if_pos hs], show weakB l m = false by unfold weakB; rw [if_pos hs]]
    exact this
end Go.Proofs.Ytjpiidfoegaenaa
