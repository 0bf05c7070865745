/-
  shows and Check of the reference.
-/
import Derived.Test.YtacdjchkilheiaaDg
namespace Go.Proofs.Ytacdjchkilheiaa
open Go.RowKit
set_option linter.unusedVariables false
set_option linter.unusedSimpArgs false

def Rk1 (L C : List Int) (m : Nat) (W : World) (v : Value) (wr : World) : Prop := ∃ k : Nat, v = .int .i64 (k : Int) ∧ k ≤ m ∧ allF (inT L C) (m - k) k = allF (inT L C) m 0 ∧ Below W.heap.size W wr
def Rk2 (p : Nat → Bool) (n : Nat) (W : World) (v : Value) (wr : World) : Prop := ∃ i : Nat, v = .int .i64 (i : Int) ∧ i ≤ n ∧ allF p (n - i) i = allF p n 0 ∧ Below W.heap.size W wr
def Rk3 (fr pr : Nat → Int) (L C : List Int) (i n : Nat) (R : Bool) (W : World) (v : Value) (wr : World) : Prop := ∃ j : Nat, v = .int .i64 (j : Int) ∧ i < j ∧ j ≤ n + 1 ∧ rowF fr pr L C i n (n + 1 - j) j = R ∧ Below W.heap.size W wr
theorem bet_yes {a b c d : Int} (h : a < c) : better a b c d = true := better_iff.2 (Or.inl h)
theorem bet_eq {a b d : Int} (h : b < d) : better a b a d = true := better_iff.2 (Or.inr ⟨rfl, h⟩)
theorem bet_no {a b c d : Int} (h : c < a) : better a b c d = false := by rw [better_not]; exact Or.inl h
theorem bet_ne {a b d : Int} (h : ¬ b < d) : better a b a d = false := by rw [better_not]; exact Or.inr ⟨rfl, by omega⟩

set_option maxHeartbeats 4000000 in
set_option maxRecDepth 100000 in
theorem rshows_shape (A : Option Addr) (n c : Nat) (hn9 : n ≤ 256) (bl wd : Int) (qe : Option Addr) (ne ce : Nat) (ql : Option Addr) (nl cl : Nat) (qc : Option Addr) (nc cc : Nat) (hs : nl ≠ n + 1 ∨ nc ≠ n + 1) (w : World) :
    Calls Try.prog 38 #[.slice A n c, .int .i64 bl, .int .i64 wd, .agg #[.slice qe ne ce, .slice ql nl cl, .slice qc nc cc]] w (Told w false) := by
  obtain ⟨m, hm⟩ : ∃ m, n + 1 = m := ⟨_, rfl⟩
  rw [hm] at hs
  have hnm : (n : Int) + 1 = (m : Int) := by omega
  clear hm
  go_enter Try.func38, Try.ntmps38
  go_upto_region 1 with (fail)
  have Kc := blk_new w 32 #[.slice qe ne ce, .slice ql nl cl, .slice qc nc cc]
  have X0 : Below w.heap.size w (w.alloc (.cells #[.slice qe ne ce, .slice ql nl cl, .slice qc nc cc] 32)) := (Below.refl _ _).alloc (Nat.le_refl _) _
  generalize World.alloc w _ = W0 at Kc X0 ⊢
  obtain ⟨cb, hcb⟩ : ∃ cb, w.heap.size = cb := ⟨_, rfl⟩
  rw [hcb] at Kc
  rw [hcb]
  have d0 := Kc.cell (j := 0) rfl
  have d1 := Kc.cell (j := 1) rfl
  have d2 := Kc.cell (j := 2) rfl
  clear hcb
  by_cases h1 : nl = m
  · have h2 : nc ≠ m := by
      rcases hs with h | h
      · exact absurd h1 h
      · exact h
    subst h1
    have e1 : ((nl : Int) == (nl : Int)) = true := by simp
    have e2 : ((nc : Int) == (nl : Int)) = false := by simp; omega
    clear hs
    go_wp2
    go_ret
    exact ⟨rfl, X0⟩
  · have e1 : ((nl : Int) == (m : Int)) = false := by simp; omega
    clear hs
    go_wp2
    go_ret
    exact ⟨rfl, X0⟩

set_option maxHeartbeats 8000000 in
set_option maxRecDepth 100000 in
theorem rshows_good (A : Option Addr) (l : List Int) (n m c : Nat) (hl : l.length = n) (hm : n + 1 = m) (bl wd : Int) (hF : Fine l bl wd) (qe : Option Addr) (L C : List Int) (ne ce : Nat) (ql : Option Addr) (cl : Nat) (qc : Option Addr) (cc : Nat) (hL : L.length = m) (hC : C.length = m) (w : World) (hA : IntsAt w A l) (hLA : IntsAt w ql L) (hCA : IntsAt w qc C) :
    Calls Try.prog 38 #[.slice A n c, .int .i64 bl, .int .i64 wd, .agg #[.slice qe ne ce, .slice ql m cl, .slice qc m cc]] w (Told w (showT l bl wd L C)) := by
  have hn9 : n ≤ 256 := by have := hF.len; omega
  obtain ⟨adl, rfl, hbl, hLc⟩ := hLA (by intro h; rw [h] at hL; simp at hL; omega)
  obtain ⟨adc, rfl, hbc, hCc⟩ := hCA (by intro h; rw [h] at hC; simp at hC; omega)
  have HL := Lib.hid (fun (k : Nat) (x : Int) (h : L[k]? = some x) (V : World) (hB : Below w.heap.size w V) => ((hB.cell (by rw [add_block]; exact hbl)).trans (hLc k x h).1 : V.cell? (adl.add k) = some (.int .i64 x)))
  have HC := Lib.hid (fun (k : Nat) (x : Int) (h : C[k]? = some x) (V : World) (hB : Below w.heap.size w V) => ((hB.cell (by rw [add_block]; exact hbc)).trans (hCc k x h).1 : V.cell? (adc.add k) = some (.int .i64 x)))
  have HFr := Lib.hid (fun (i j : Nat) (hij : i < j) (hj : j ≤ n) (V : World) (h : Below w.heap.size w V) => rfree_any A l n c hl bl wd hF i j hij hj V (hA.keep h))
  have HPr := Lib.hid (fun (i j : Nat) (hij : i < j) (hj : j ≤ n) (hf : 0 ≤ frT l bl wd i j) (V : World) (h : Below w.heap.size w V) => rprice_any A l n c hl bl wd hF i j hij hj hf V (hA.keep h))
  have HPb := Lib.hid (fun (i j : Nat) (hi : i ≤ j) (hf : 0 ≤ frT l bl wd i j) => prT_bound hF.b0 hF.b1 hF.w1 hF.all hi hf)
  have hcell : ∀ k, k < m → ∃ x y, L[k]? = some x ∧ C[k]? = some y ∧ inT L C k = (decide (0 ≤ x) && (decide (x ≤ 256) && (decide (0 ≤ y) && decide (y ≤ 4294967296)))) := fun k hk => by
    refine ⟨_, _, List.getElem?_eq_getElem (by omega), List.getElem?_eq_getElem (by omega), ?_⟩
    unfold inT
    rw [List.getD_eq_getElem?_getD, List.getElem?_eq_getElem (by omega), List.getD_eq_getElem?_getD, List.getElem?_eq_getElem (by omega)]
    rfl
  have hsh : shapeT n L C = true := by unfold shapeT; rw [decide_eq_true (by omega), decide_eq_true (by omega)]; rfl
  have hok : showT l bl wd L C = (allF (inT L C) m 0 && (allF (rowT l bl wd L C) n 0 && (decide (L.getD n 0 = 0) && decide (C.getD n 0 = 0)))) := by
    unfold showT
    rw [hl, hsh, hm, Bool.true_and]
  have HRow := Lib.hid (fun i : Nat => (show rowT l bl wd L C i = rowF (frT l bl wd i) (prT l bl wd i) L C i n (n - i) (i + 1) from by unfold rowT; rw [hl]))
  have hnm : (n : Int) + 1 = (m : Int) := by omega
  have HOk := Lib.hid hok
  have HCell := Lib.hid hcell
  have HM := Lib.hid hm
  generalize showT l bl wd L C = ok at HOk ⊢
  generalize rowT l bl wd L C = rows at *
  clear hl hF hA hLA hCA hLc hCc hbl hbc hok hcell hsh hm hL hC
  go_enter Try.func38, Try.ntmps38
  go_upto_region 1 with (fail)
  have Kc := blk_new w 32 #[.slice qe ne ce, .slice (some adl) m cl, .slice (some adc) m cc]
  have X0 : Below w.heap.size w (w.alloc (.cells #[.slice qe ne ce, .slice (some adl) m cl, .slice (some adc) m cc] 32)) := (Below.refl _ _).alloc (Nat.le_refl _) _
  generalize World.alloc w _ = W0 at Kc X0 ⊢
  obtain ⟨cb, hcb⟩ : ∃ cb, w.heap.size = cb := ⟨_, rfl⟩
  rw [hcb] at Kc
  rw [hcb]
  have d0 := Kc.cell (j := 0) rfl
  have d1 := Kc.cell (j := 1) rfl
  have d2 := Kc.cell (j := 2) rfl
  clear hcb
  have e1 : ((m : Int) == (m : Int)) = true := by simp
  have HL := Lib.hid (fun (k : Nat) (x : Int) (h : L[k]? = some x) (V : World) (hB : Below W0.heap.size W0 V) => HL.out k x h V (link X0 hB))
  have HC := Lib.hid (fun (k : Nat) (x : Int) (h : C[k]? = some x) (V : World) (hB : Below W0.heap.size W0 V) => HC.out k x h V (link X0 hB))
  have C1 := Lib.hid (fun (V : World) (h : Below W0.heap.size W0 V) => (Kc.keep h).cell (j := 1) rfl)
  have C2 := Lib.hid (fun (V : World) (h : Below W0.heap.size W0 V) => (Kc.keep h).cell (j := 2) rfl)
  have XB := Lib.hid X0
  clear Kc
  go_upto_region 4 with (fail)
  clear e1 d0 d1 d2
  go_wp2
  go_loopw [10] (fun v wr => Rk1 L C m W0 v wr) (fun v _ => m - (intOf v).toNat)
  case atStart => exact ⟨0, rfl, Nat.zero_le _, rfl, Below.refl _ _⟩
  case round =>
    obtain ⟨k, rfl, hk, hF, hB⟩ := hrel
    have d1 := C1.out wr hB
    have d2 := C2.out wr hB
    rcases Nat.lt_or_ge k m with hlt | hge
    · obtain ⟨x, y, hx, hy, hin⟩ := HCell.out k hlt
      have hxc := HL.out k x hx wr hB
      have hyc := HC.out k y hy wr hB
      have hF2 : (inT L C k && allF (inT L C) (m - (k + 1)) (k + 1)) = allF (inT L C) m 0 := by rw [← hF, show m - k = (m - (k + 1)) + 1 by omega]; rfl
      rw [hin] at hF2
      have HF2 := Lib.hid hF2
      have hkn : (k : Int) ≤ (n : Int) := by omega
      clear hF hx hy hin hF2
      by_cases g1 : x < 0
      · have HR := Lib.hid (show ok = false from by rw [HOk.out, ← HF2.out, decide_eq_false (show ¬ 0 ≤ x by omega)]; simp)
        clear HF2
        go_wp2
        go_ret
        exact ⟨by rw [HR.out]; rfl, link XB.out hB⟩
      by_cases g2 : 256 < x
      · have HR := Lib.hid (show ok = false from by rw [HOk.out, ← HF2.out, decide_eq_false (show ¬ x ≤ 256 by omega)]; simp)
        clear HF2
        go_wp2
        go_ret
        exact ⟨by rw [HR.out]; rfl, link XB.out hB⟩
      by_cases g3 : y < 0
      · have HR := Lib.hid (show ok = false from by rw [HOk.out, ← HF2.out, decide_eq_false (show ¬ 0 ≤ y by omega)]; simp)
        clear HF2
        go_wp2
        go_ret
        exact ⟨by rw [HR.out]; rfl, link XB.out hB⟩
      by_cases g4 : 4294967296 < y
      · have HR := Lib.hid (show ok = false from by rw [HOk.out, ← HF2.out, decide_eq_false (show ¬ y ≤ 4294967296 by omega)]; simp)
        clear HF2
        go_wp2
        go_ret
        exact ⟨by rw [HR.out]; rfl, link XB.out hB⟩
      have HF3 := Lib.hid (show allF (inT L C) (m - (k + 1)) (k + 1) = allF (inT L C) m 0 from by rw [← HF2.out, decide_eq_true (show 0 ≤ x by omega), decide_eq_true (show x ≤ 256 by omega), decide_eq_true (show 0 ≤ y by omega), decide_eq_true (show y ≤ 4294967296 by omega)]; rfl)
      clear HF2
      go_wp2
      exact ⟨⟨k + 1, by go_num, by omega, HF3.out, hB⟩, by simp [intOf]; omega⟩
    · obtain rfl : k = m := by omega
      have hkn : ¬ (k : Int) ≤ (n : Int) := by omega
      have HIn := Lib.hid (show allF (inT L C) k 0 = true from by rw [← hF, Nat.sub_self]; rfl)
      have HOk3 := Lib.hid (show ok = (allF rows n 0 && (decide (L.getD n 0 = 0) && decide (C.getD n 0 = 0))) from by rw [HOk.out, HIn.out, Bool.true_and])
      have HSm := Lib.hid (fun (j : Nat) (hj : j < k) (x y : Int) (hx : L[j]? = some x) (hy : C[j]? = some y) => (show (0 ≤ x ∧ x ≤ 256) ∧ 0 ≤ y ∧ y ≤ 4294967296 from by
        have h1 := allF_iff.1 HIn.out j (Nat.zero_le _) (by omega)
        obtain ⟨x', y', hx', hy', h2⟩ := HCell.out j hj
        rw [hx'] at hx
        rw [hy'] at hy
        injection hx with hx
        injection hy with hy
        subst hx hy
        rw [h2, Bool.and_eq_true, Bool.and_eq_true, Bool.and_eq_true, decide_eq_true_eq, decide_eq_true_eq, decide_eq_true_eq, decide_eq_true_eq] at h1
        omega))
      clear hF HOk HIn d1 d2
      go_wp2
      go_loopw [11] (fun v wr => Rk2 rows n W0 v wr) (fun v _ => n - (intOf v).toNat)
      case atStart => exact ⟨0, rfl, Nat.zero_le _, rfl, hB⟩
      case round =>
        clear hB
        obtain ⟨i, rfl, hi, hF, hB⟩ := hrel
        rcases Nat.lt_or_ge i n with hlti | hgei
        · have hF2 : (rows i && allF rows (n - (i + 1)) (i + 1)) = allF rows n 0 := by rw [← hF, show n - i = (n - (i + 1)) + 1 by omega]; rfl
          have HF2 := Lib.hid hF2
          have HRw := HRow.out i
          generalize rows i = ri at HF2 HRw
          have HRi := Lib.hid HRw.symm
          obtain ⟨wo, rfl⟩ : ∃ wo, wo = wr := ⟨_, rfl⟩
          clear hF hF2 HRw
          go_wp2
          go_loopw [12] (fun v wr => Rk3 (frT l bl wd i) (prT l bl wd i) L C i n ri W0 v wr) (fun v _ => n + 1 - (intOf v).toNat)
          case atStart => exact ⟨i + 1, by go_num, by omega, by omega, by rw [show n + 1 - (i + 1) = n - i by omega]; exact HRi.out, hB⟩
          case round =>
            clear hB
            obtain ⟨j, rfl, hij, hj, hRow, hB⟩ := hrel
            rcases Nat.lt_or_ge n j with hjn | hjn
            · have hT : ri = true := by rw [← hRow, show n + 1 - j = 0 by omega]; rfl
              have hjle : ¬ ((j : Nat) : Int) ≤ (n : Int) := by omega
              subst hT
              have HF3 := Lib.hid (show allF rows (n - (i + 1)) (i + 1) = allF rows n 0 from by rw [← HF2.out, Bool.true_and])
              clear hRow
              go_wp2
              exact ⟨⟨i + 1, by go_num, by omega, HF3.out, hB⟩, by simp [intOf]; omega⟩
            · have HF1 := Lib.hid (HFr.out i j hij hjn wr (link XB.out hB))
              have HP1 := Lib.hid (fun h0 : 0 ≤ frT l bl wd i j => HPb.out i j (by omega) h0)
              obtain ⟨xl, xk, hxl, hxk, _⟩ := HCell.out j (by have := HM.out; omega)
              obtain ⟨yl, yk, hyl, hyk, _⟩ := HCell.out i (by have := HM.out; omega)
              obtain ⟨⟨b1, b2⟩, b3, b4⟩ := HSm.out j (by have := HM.out; omega) xl xk hxl hxk
              have dl : L.getD j 0 = xl := by rw [List.getD_eq_getElem?_getD, hxl]; rfl
              have dk : C.getD j 0 = xk := by rw [List.getD_eq_getElem?_getD, hxk]; rfl
              have el : L.getD i 0 = yl := by rw [List.getD_eq_getElem?_getD, hyl]; rfl
              have ek : C.getD i 0 = yk := by rw [List.getD_eq_getElem?_getD, hyk]; rfl
              have HStep := Lib.hid (show ri = if 0 ≤ frT l bl wd i j then (!better (xl + 1) (xk + prT l bl wd i j) yl yk && rowF (frT l bl wd i) (prT l bl wd i) L C i n (n + 1 - (j + 1)) (j + 1)) else true from by
                rw [← hRow]
                conv => lhs; rw [show n + 1 - j = (n + 1 - (j + 1)) + 1 by omega]
                conv => lhs; unfold rowF
                rw [dl, dk, el, ek]
                by_cases h : 0 ≤ frT l bl wd i j
                · rw [if_pos ⟨hjn, h⟩, if_pos h]
                · rw [if_neg (fun g => h g.2), if_neg h])
              have HPp := Lib.hid (fun (h0 : 0 ≤ frT l bl wd i j) (V : World) (h : Below W0.heap.size W0 V) => HPr.out i j hij hjn h0 V (link XB.out h))
              obtain ⟨fr, hfr'⟩ : ∃ fr, frT l bl wd i j = fr := ⟨_, rfl⟩
              obtain ⟨pr, hpr'⟩ : ∃ pr, prT l bl wd i j = pr := ⟨_, rfl⟩
              rw [hfr'] at HF1 HP1 HStep HPp
              rw [hpr'] at HP1 HStep HPp
              clear hfr' hpr' dl dk el ek hRow
              by_cases hfr : fr < 0
              · have hT : ri = true := by rw [HStep.out, if_neg (by omega)]
                subst hT
                have HF3 := Lib.hid (show allF rows (n - (i + 1)) (i + 1) = allF rows n 0 from by rw [← HF2.out, Bool.true_and])
                clear HStep HP1 HPp hxl hxk hyl hyk
                go_wp2_with (go_at_call 35; refine HF1.out.mono ?_; rintro en W5 ⟨rfl, rfl⟩)
                exact ⟨⟨i + 1, by go_num, by omega, HF3.out, hB⟩, by simp [intOf]; omega⟩
              · have hf0 : 0 ≤ fr := by omega
                obtain ⟨p1, p2⟩ := HP1.out hf0
                have HP2 := Lib.hid (HPp.out hf0)
                have HSt := Lib.hid (show ri = (!better (xl + 1) (xk + pr) yl yk && rowF (frT l bl wd i) (prT l bl wd i) L C i n (n + 1 - (j + 1)) (j + 1)) from by rw [HStep.out, if_pos hf0])
                have HWa := Lib.hid (wrap_big (x := xl + 1) (by omega) (by omega))
                have HWb := Lib.hid (wrap_big (x := xk + pr) (by omega) (by omega))
                have hjk : j < k := by have := HM.out; omega
                have hik : i < k := by have := HM.out; omega
                have hw1 := HWa.out
                clear HStep HP1 HPp
                go_upto_region 16 with (go_at_call 35; refine HF1.out.mono ?_; rintro en W5 ⟨rfl, rfl⟩)
                have d1 := C1.out wr hB
                have d2 := C2.out wr hB
                have g1 := HL.out j xl hxl wr hB
                go_upto_region 17 with (fail)
                obtain ⟨W6, rfl⟩ : ∃ W6, W6 = wr := ⟨_, rfl⟩
                have E1 : W6.drew.cell? ⟨cb, 1, none⟩ = some (.slice (some adl) k cl) := d1
                have E2 : W6.drew.cell? ⟨cb, 2, none⟩ = some (.slice (some adc) k cc) := d2
                have Ej : W6.drew.cell? (adc.add j) = some (.int .i64 xk) := HC.out j xk hxk _ (below_drew hB)
                have Gi : W6.drew.cell? (adl.add i) = some (.int .i64 yl) := HL.out i yl hyl _ (below_drew hB)
                have Gk : W6.drew.cell? (adc.add i) = some (.int .i64 yk) := HC.out i yk hyk _ (below_drew hB)
                replace hB := below_drew hB
                clear d1 d2 g1 hw1 HF1
                refine wp_region_held_drew (S := fun w' => w' = W6.drew) (by kernel_rfl) rfl (fun hHeld => ?_)
                refine wt (i := 0) (oi := ⟨some 91, .fieldAddr 32 (.tmp 7) 2, 0, "ref.go:141", #[], none⟩) (v := .pointer (some ⟨cb, 2, none⟩)) (Or.inl ⟨by rfl, fun w' hSw => by go_simp⟩) hHeld ?_
                try simp only [zP, zQ, zS, zZ, zC]
                refine wt (i := 1) (oi := ⟨some 92, .load 22 (.tmp 91), 22, "ref.go:141", #[⟨0, .data⟩], none⟩) (v := .slice (some adc) k cc) (Or.inl ⟨by rfl, fun w' hSw => by subst hSw; have hc := E2; go_simp⟩) hHeld ?_
                try simp only [zP, zQ, zS, zZ, zC]
                refine wt (i := 2) (oi := ⟨some 93, .move (.tmp 12), 3, "ref.go:141", #[], none⟩) (v := .int .i64 (j : Int)) (Or.inl ⟨by rfl, fun w' hSw => by go_simp⟩) hHeld ?_
                try simp only [zP, zQ, zS, zZ, zC]
                refine wt (i := 3) (oi := ⟨some 94, .indexAddr 22 (.tmp 92) (.tmp 93), 0, "ref.go:141", #[⟨1, .data⟩, ⟨2, .data⟩], none⟩) (v := .pointer (some (adc.add j))) (Or.inl ⟨by rfl, fun w' hSw => by go_simp; try (intro hcm; exact absurd hcm (by omega))⟩) hHeld ?_
                try simp only [zP, zQ, zS, zZ, zC]
                refine wt (i := 4) (oi := ⟨some 95, .load 3 (.tmp 94), 3, "ref.go:141", #[⟨3, .data⟩], none⟩) (v := .int .i64 xk) (Or.inl ⟨by rfl, fun w' hSw => by subst hSw; have hc := Ej; go_simp⟩) hHeld ?_
                try simp only [zP, zQ, zS, zZ, zC]
                refine wt (i := 5) (oi := ⟨some 96, .move (.tmp 0), 22, "ref.go:141", #[], none⟩) (v := .slice A n c) (Or.inl ⟨by rfl, fun w' hSw => by go_simp⟩) hHeld ?_
                try simp only [zP, zQ, zS, zZ, zC]
                refine wt (i := 6) (oi := ⟨some 97, .move (.tmp 1), 3, "ref.go:141", #[], none⟩) (v := .int .i64 bl) (Or.inl ⟨by rfl, fun w' hSw => by go_simp⟩) hHeld ?_
                try simp only [zP, zQ, zS, zZ, zC]
                refine wt (i := 7) (oi := ⟨some 98, .move (.tmp 2), 3, "ref.go:141", #[], none⟩) (v := .int .i64 wd) (Or.inl ⟨by rfl, fun w' hSw => by go_simp⟩) hHeld ?_
                try simp only [zP, zQ, zS, zZ, zC]
                refine wt (i := 8) (oi := ⟨some 99, .move (.tmp 11), 3, "ref.go:141", #[], none⟩) (v := .int .i64 (i : Int)) (Or.inl ⟨by rfl, fun w' hSw => by go_simp⟩) hHeld ?_
                try simp only [zP, zQ, zS, zZ, zC]
                refine wt (i := 9) (oi := ⟨some 100, .move (.tmp 12), 3, "ref.go:141", #[], none⟩) (v := .int .i64 (j : Int)) (Or.inl ⟨by rfl, fun w' hSw => by go_simp⟩) hHeld ?_
                try simp only [zP, zQ, zS, zZ, zC]
                refine wpAnyH_ready (rs := [10]) (by kernel_rfl) (by simp) ?_
                refine AllReadyH.cons (o := ⟨some 101, .call { callee := .value (.func 36), args := #[.tmp 96, .tmp 97, .tmp 98, .tmp 99, .tmp 100], argTypes := #[22, 3, 3, 3, 3] }, 3, "ref.go:141", #[⟨5, .data⟩, ⟨6, .data⟩, ⟨7, .data⟩, ⟨8, .data⟩, ⟨9, .data⟩], none⟩) rfl (fun K hK => ?_) AllReadyH.nil
                rw [if_pos (by rfl)]
                go_simp
                refine (HP2.out W6.drew hB).mono ?_
                rintro en V1 ⟨rfl, hV⟩
                dsimp only
                subst hV
                refine hK.out _ _ (rfl) (fun hHeld => ?_)
                clear hK K
                try simp only [zP, zQ, zS, zZ, zC]
                refine wt (i := 11) (oi := ⟨some 102, .binOp .add 3 (.tmp 95) (.tmp 101) 3, 3, "ref.go:141", #[⟨4, .data⟩, ⟨10, .data⟩], none⟩) (v := .int .i64 (xk + pr)) (Or.inl ⟨by rfl, fun w' hSw => by have hw := HWb.out; go_simp⟩) hHeld ?_
                try simp only [zP, zQ, zS, zZ, zC]
                refine wpAnyH_ready (rs := [12]) (by kernel_rfl) (by simp) ?_
                refine AllReadyH.cons (o := ⟨some 14, .assign (.tmp 102), 3, "ref.go:141", #[⟨11, .data⟩, ⟨10, .chain⟩, ⟨0, .phase⟩, ⟨1, .phase⟩, ⟨2, .phase⟩, ⟨3, .phase⟩, ⟨4, .phase⟩, ⟨5, .phase⟩, ⟨6, .phase⟩, ⟨7, .phase⟩, ⟨8, .phase⟩, ⟨9, .phase⟩, ⟨10, .phase⟩, ⟨11, .phase⟩], none⟩) rfl (fun K hK => ?_) AllReadyH.nil
                go_simp
                refine hK.out _ _ (hHeld) (fun hHeld => ?_)
                clear hK K
                try simp only [zP, zQ, zS, zZ, zC]
                refine wpAnyH_done (by kernel_rfl) ?_ _
                clear hHeld
                generalize W6.drew = W7 at E1 E2 Ej Gi Gk hB ⊢
                have HB1 := Lib.hid (fun h : better (xl + 1) (xk + pr) yl yk = true => (show ok = false from by rw [HOk3.out, ← HF2.out, HSt.out, h]; rfl))
                have HB0 := Lib.hid (fun h : better (xl + 1) (xk + pr) yl yk = false => (show rowF (frT l bl wd i) (prT l bl wd i) L C i n (n + 1 - (j + 1)) (j + 1) = ri from by rw [HSt.out, h]; rfl))
                obtain ⟨a, ha⟩ : ∃ a, xl + 1 = a := ⟨_, rfl⟩
                obtain ⟨b, hb⟩ : ∃ b, xk + pr = b := ⟨_, rfl⟩
                rw [ha, hb] at HB1 HB0
                rw [ha, hb]
                clear HSt HWa HWb ha hb Ej b1 b2 b3 b4 p1 p2 hxl hxk hyl hyk
                by_cases g1 : a < yl
                · have HR := Lib.hid (HB1.out (bet_yes g1))
                  clear HB1 HB0
                  go_wp2
                  go_ret
                  exact ⟨by rw [HR.out]; rfl, link XB.out hB⟩
                by_cases g2 : yl < a
                · have HR := Lib.hid (HB0.out (bet_no g2))
                  have g3 : (yl == a) = false := by simp; omega
                  have g4 : ¬ yl = a := by omega
                  clear HB1 HB0
                  go_wp2
                  exact ⟨⟨j + 1, by go_num, by omega, by omega, HR.out, hB⟩, by simp [intOf]; omega⟩
                obtain rfl : yl = a := by omega
                have g3 : (yl == yl) = true := by simp
                by_cases g5 : b < yk
                · have HR := Lib.hid (HB1.out (bet_eq g5))
                  clear HB1 HB0
                  go_wp2
                  go_ret
                  exact ⟨by rw [HR.out]; rfl, link XB.out hB⟩
                · have HR := Lib.hid (HB0.out (bet_ne g5))
                  clear HB1 HB0
                  go_wp2
                  exact ⟨⟨j + 1, by go_num, by omega, by omega, HR.out, hB⟩, by simp [intOf]; omega⟩
        · obtain rfl : i = n := by omega
          have hlti : ¬ i < i := by omega
          have HOk4 := Lib.hid (show ok = (decide (L.getD i 0 = 0) && decide (C.getD i 0 = 0)) from by rw [HOk3.out, ← hF, Nat.sub_self]; rfl)
          have hik : i < k := by have := HM.out; omega
          obtain ⟨xl, xk, hxl, hxk, _⟩ := HCell.out i hik
          have dl : L.getD i 0 = xl := by rw [List.getD_eq_getElem?_getD, hxl]; rfl
          have dk : C.getD i 0 = xk := by rw [List.getD_eq_getElem?_getD, hxk]; rfl
          rw [dl, dk] at HOk4
          have d1 := C1.out wr hB
          have d2 := C2.out wr hB
          have g1 := HL.out i xl hxl wr hB
          have g2 := HC.out i xk hxk wr hB
          clear hF dl dk hxl hxk HOk3
          by_cases z1 : xl = 0
          case neg =>
            have e3 : (xl == 0) = false := by simp; exact z1
            have HR := Lib.hid (show ok = false from by rw [HOk4.out, decide_eq_false z1]; rfl)
            go_wp2
            go_ret
            exact ⟨by rw [HR.out]; rfl, link XB.out hB⟩
          subst z1
          by_cases z2 : xk = 0
          case neg =>
            have e3 : (xk == 0) = false := by simp; exact z2
            have HR := Lib.hid (show ok = false from by rw [HOk4.out, decide_eq_false z2]; simp)
            go_wp2
            go_ret
            exact ⟨by rw [HR.out]; rfl, link XB.out hB⟩
          subst z2
          have HR := Lib.hid (show ok = true from by rw [HOk4.out]; rfl)
          go_wp2
          go_ret
          exact ⟨by rw [HR.out]; rfl, link XB.out hB⟩
end Go.Proofs.Ytacdjchkilheiaa
