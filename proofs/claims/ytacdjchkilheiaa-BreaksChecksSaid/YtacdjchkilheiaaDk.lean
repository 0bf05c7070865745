/-
  Check of the program.
-/
import Derived.Test.YtacdjchkilheiaaCl
import Derived.Test.YtacdjchkilheiaaDm
namespace Go.Proofs.Ytacdjchkilheiaa
open Go.RowKit
set_option linter.unusedVariables false
set_option linter.unusedSimpArgs false

theorem chk_err {l : List Int} {bl wd : Int} {E L C : List Int} (h : errT l bl wd ≠ 0) : chkT l bl wd E L C = errT l bl wd := by unfold chkT; rw [if_neg h]
theorem chk_no {l : List Int} {bl wd : Int} {E L C : List Int} (h : errT l bl wd = 0) (ho : okT l bl wd E L C = false) : chkT l bl wd E L C = 17 := by unfold chkT; rw [if_pos h, if_neg (by rw [ho]; simp)]
theorem chk_yes {l : List Int} {bl wd : Int} {E L C : List Int} (h : errT l bl wd = 0) (ho : okT l bl wd E L C = true) : chkT l bl wd E L C = 0 := by unfold chkT; rw [if_pos h, if_pos ho]
def Ck1 (L C : List Int) (m : Nat) (W : World) (v : Value) (wr : World) : Prop := ∃ k : Nat, v = .int .i64 (k : Int) ∧ k ≤ m ∧ allF (inT L C) (m - k) k = allF (inT L C) m 0 ∧ Below W.heap.size W wr
def Ck2 (p : Nat → Bool) (n : Nat) (W : World) (v : Value) (wr : World) : Prop := ∃ i : Nat, v = .int .i64 (i : Int) ∧ i ≤ n ∧ allF p (n - i) i = allF p n 0 ∧ Below W.heap.size W wr
def Ck3 (fr pr : Nat → Int) (L C : List Int) (i n : Nat) (R : Bool) (W : World) (v : Value) (wr : World) : Prop := ∃ j : Nat, v = .int .i64 (j : Int) ∧ i < j ∧ j ≤ n + 1 ∧ rowF fr pr L C i n (n + 1 - j) j = R ∧ Below W.heap.size W wr

set_option maxHeartbeats 4000000 in
set_option maxRecDepth 100000 in
theorem chk_bad (A : Option Addr) (l : List Int) (n c : Nat) (hl : l.length = n) (bl wd : Int) (he : errT l bl wd ≠ 0) (qe : Option Addr) (ne ce : Nat) (ql : Option Addr) (nl cl : Nat) (qc : Option Addr) (nc cc : Nat) (w : World) (hA : IntsAt w A l) :
    Calls Try.prog 22 #[.slice A n c, .int .i64 bl, .int .i64 wd, .agg #[.slice qe ne ce, .slice ql nl cl, .slice qc nc cc]] w (IntR (errT l bl wd) w) := by
  have HPa := Lib.hid (fun (V : World) (h0 : Below w.heap.size w V) => (show Calls Try.prog 30 #[.slice A n c, .int .i64 bl, .int .i64 wd] V (ParBad (errT l bl wd) V) from (paragraphOf_any A l n c hl bl wd V (hA.keep h0)).mono fun e w' h => by
    rcases h with ⟨h, _⟩ | ⟨_, h⟩
    · exact absurd h he
    · exact h))
  generalize errT l bl wd = k at *
  have hk : (k == 0) = false := by simp; exact he
  clear hl he hA
  go_enter Try.func22, Try.ntmps22
  go_upto_region 1 with (fail)
  have Kc := blk_new w 28 #[.slice qe ne ce, .slice ql nl cl, .slice qc nc cc]
  have X0 : Below w.heap.size w (w.alloc (.cells #[.slice qe ne ce, .slice ql nl cl, .slice qc nc cc] 28)) := (Below.refl _ _).alloc (Nat.le_refl _) _
  generalize World.alloc w _ = W0 at Kc X0 ⊢
  obtain ⟨cb, hcb⟩ : ∃ cb, w.heap.size = cb := ⟨_, rfl⟩
  rw [hcb] at Kc
  rw [hcb]
  clear hcb
  go_upto_region 2 with (first
    | (go_at_call 30; refine (HPa.out W0 X0).mono ?_; rintro en W1 ⟨rfl, hB1⟩)
    | (refine store_blk rfl 58 (.tmp 9) (.tmp 23) rfl (blk_new W1 58 zeroPg.toArray) rfl rfl (vs := zeroPg) (m := 4) (by kernel_rfl) rfl rfl (by intro v hv; simp [zeroPg] at hv; rcases hv with rfl | rfl | rfl | rfl <;> rfl) ?_; intro W2 K2 O2))
  try simp only [zP, zQ, zS, zZ, zC]
  have X2 : Below W1.heap.size W1 W2 := O2.2.2 _ _ (Nat.le_refl _) ((Below.refl _ _).alloc (Nat.le_refl _) _)
  go_wp2
  go_ret
  exact ⟨rfl, link (link X0 hB1) X2⟩

set_option maxHeartbeats 4000000 in
set_option maxRecDepth 100000 in
theorem chk_shape (A : Option Addr) (l : List Int) (n c : Nat) (hl : l.length = n) (bl wd : Int) (he : errT l bl wd = 0) (qe : Option Addr) (ne ce : Nat) (ql : Option Addr) (nl cl : Nat) (qc : Option Addr) (nc cc : Nat) (hs : nl ≠ n + 1 ∨ nc ≠ n + 1) (w : World) (hA : IntsAt w A l) :
    Calls Try.prog 22 #[.slice A n c, .int .i64 bl, .int .i64 wd, .agg #[.slice qe ne ce, .slice ql nl cl, .slice qc nc cc]] w (IntR 17 w) := by
  have hF := fine_of he
  have hn9 : n ≤ 256 := by have := hF.len; omega
  obtain ⟨z, hz⟩ : ∃ z, wideT l wd = z := ⟨_, rfl⟩
  have HPa := Lib.hid (fun (V : World) (h0 : Below w.heap.size w V) => (show Calls Try.prog 30 #[.slice A n c, .int .i64 bl, .int .i64 wd] V (fun e w' => ∃ b : Nat, e = .returned (.tuple #[.agg #[.slice (some ⟨b, 0, none⟩) (n + 1) (n + 1), .int .i64 bl, .int .i64 wd, .bool z], .int .i64 0]) ∧ Below V.heap.size V w') from (paragraphOf_any A l n c hl bl wd V (hA.keep h0)).mono fun e w' h => by
    rcases h with ⟨_, b, h1, _, _, h2⟩ | ⟨h, _⟩
    · exact ⟨b, by rw [hz] at h1; exact h1, h2⟩
    · exact absurd he h))
  have HWd := Lib.hid (fun (b : Nat) (V : World) => (show Calls Try.prog 31 #[.agg #[.slice (some ⟨b, 0, none⟩) (n + 1) (n + 1), .int .i64 bl, .int .i64 wd, .bool z]] V (IntR (n : Int) V) from pwords_any b n bl wd z (by omega) V))
  obtain ⟨m, hm⟩ : ∃ m, n + 1 = m := ⟨_, rfl⟩
  rw [hm] at hs
  have hnm : (n : Int) + 1 = (m : Int) := by omega
  clear hl hF he hA hz hm
  go_enter Try.func22, Try.ntmps22
  go_upto_region 1 with (fail)
  have Kc := blk_new w 28 #[.slice qe ne ce, .slice ql nl cl, .slice qc nc cc]
  have X0 : Below w.heap.size w (w.alloc (.cells #[.slice qe ne ce, .slice ql nl cl, .slice qc nc cc] 28)) := (Below.refl _ _).alloc (Nat.le_refl _) _
  generalize World.alloc w _ = W0 at Kc X0 ⊢
  obtain ⟨cb, hcb⟩ : ∃ cb, w.heap.size = cb := ⟨_, rfl⟩
  rw [hcb] at Kc
  rw [hcb]
  clear hcb
  go_upto_region 2 with (first
    | (go_at_call 30; refine (HPa.out W0 X0).mono ?_; rintro en W1 ⟨b, rfl, hB1⟩)
    | (refine store_blk rfl 58 (.tmp 9) (.tmp 23) rfl (blk_new W1 58 zeroPg.toArray) rfl rfl (vs := [.slice (some ⟨b, 0, none⟩) (n + 1) (n + 1), .int .i64 bl, .int .i64 wd, .bool z]) (m := 4) (by kernel_rfl) rfl rfl (by intro v hv; simp at hv; rcases hv with rfl | rfl | rfl | rfl <;> rfl) ?_; intro W2 K2 O2))
  try simp only [zP, zQ, zS, zZ, zC]
  have X2 : Below W1.heap.size W1 W2 := O2.2.2 _ _ (Nat.le_refl _) ((Below.refl _ _).alloc (Nat.le_refl _) _)
  have CW : W2.rangeAt W1.heap.size 0 [.slice (some ⟨b, 0, none⟩) (n + 1) (n + 1), .int .i64 bl, .int .i64 wd, .bool z] := by have := K2.range 0 4; exact this
  replace Kc := (Kc.keep hB1).keep X2
  have X3 := link (link X0 hB1) X2
  clear K2 O2 X2 hB1 X0
  go_upto_region 5 with (first
    | (refine wpList_load_mid rfl 58 (.tmp 9) rfl W1.heap.size 0 rfl [.slice (some ⟨b, 0, none⟩) (n + 1) (n + 1), .int .i64 bl, .int .i64 wd, .bool z] _ CW Try.underlying58 rfl (by kernel_rfl) ?_)
    | (go_at_call 31; refine (HWd.out b W2).mono ?_; rintro en W3 ⟨rfl, hB3⟩))
  replace Kc := Kc.keep hB3
  have c1 := Kc.cell (j := 1) rfl
  have c2 := Kc.cell (j := 2) rfl
  replace X3 := link X3 hB3
  clear Kc CW hB3
  by_cases h1 : nl = m
  · have h2 : nc ≠ m := by
      rcases hs with h | h
      · exact absurd h1 h
      · exact h
    subst h1
    have e1 : ((nl : Int) == (nl : Int)) = true := by simp
    have e2 : ((nc : Int) == (nl : Int)) = false := by simp; omega
    clear hs
    go_wp2
    go_ret
    exact ⟨rfl, X3⟩
  · have e1 : ((nl : Int) == (m : Int)) = false := by simp; omega
    clear hs
    go_wp2
    go_ret
    exact ⟨rfl, X3⟩

set_option maxHeartbeats 8000000 in
set_option maxRecDepth 100000 in
theorem chk_good (A : Option Addr) (l : List Int) (n m c : Nat) (hl : l.length = n) (hm : n + 1 = m) (bl wd : Int) (he : errT l bl wd = 0) (qe : Option Addr) (E L C : List Int) (ne ce : Nat) (hne : E.length = ne) (hne9 : ne ≤ 9223372036854775807) (ql : Option Addr) (cl : Nat) (qc : Option Addr) (cc : Nat) (hL : L.length = m) (hC : C.length = m) (w : World) (hA : IntsAt w A l) (hE : IntsAt w qe E) (hLA : IntsAt w ql L) (hCA : IntsAt w qc C) :
    Calls Try.prog 22 #[.slice A n c, .int .i64 bl, .int .i64 wd, .agg #[.slice qe ne ce, .slice ql m cl, .slice qc m cc]] w (IntR (chkT l bl wd E L C) w) := by
  have hF := fine_of he
  have hn9 : n ≤ 256 := by have := hF.len; omega
  obtain ⟨z, hz⟩ : ∃ z, wideT l wd = z := ⟨_, rfl⟩
  obtain ⟨adl, rfl, hbl, hLc⟩ := hLA (by intro h; rw [h] at hL; simp at hL; omega)
  obtain ⟨adc, rfl, hbc, hCc⟩ := hCA (by intro h; rw [h] at hC; simp at hC; omega)
  have HL := Lib.hid (fun (k : Nat) (x : Int) (h : L[k]? = some x) (V : World) (hB : Below w.heap.size w V) => ((hB.cell (by rw [add_block]; exact hbl)).trans (hLc k x h).1 : V.cell? (adl.add k) = some (.int .i64 x)))
  have HC := Lib.hid (fun (k : Nat) (x : Int) (h : C[k]? = some x) (V : World) (hB : Below w.heap.size w V) => ((hB.cell (by rw [add_block]; exact hbc)).trans (hCc k x h).1 : V.cell? (adc.add k) = some (.int .i64 x)))
  have HPa := Lib.hid (fun (V : World) (h0 : Below w.heap.size w V) => (show Calls Try.prog 30 #[.slice A n c, .int .i64 bl, .int .i64 wd] V (fun e w' => ∃ b : Nat, e = .returned (.tuple #[.agg #[.slice (some ⟨b, 0, none⟩) (n + 1) (n + 1), .int .i64 bl, .int .i64 wd, .bool z], .int .i64 0]) ∧ SumsAt w' b l bl ∧ Below V.heap.size V w') from (paragraphOf_any A l n c hl bl wd V (hA.keep h0)).mono fun e w' h => by
    rcases h with ⟨_, b, h1, h3, _, h2⟩ | ⟨h, _⟩
    · exact ⟨b, by rw [hz] at h1; exact h1, h3, h2⟩
    · exact absurd he h))
  have HWd := Lib.hid (fun (b : Nat) (V : World) => (show Calls Try.prog 31 #[.agg #[.slice (some ⟨b, 0, none⟩) (n + 1) (n + 1), .int .i64 bl, .int .i64 wd, .bool z]] V (IntR (n : Int) V) from pwords_any b n bl wd z (by omega) V))
  have HMe := Lib.hid (fun (b : Nat) (V : World) (hS : SumsAt V b l bl) (h : Below w.heap.size w V) => (show Calls Try.prog 37 #[.agg #[.slice (some ⟨b, 0, none⟩) (n + 1) (n + 1), .int .i64 bl, .int .i64 wd, .bool z], .slice qe ne ce] V (ThreeR (measT l bl wd E) V) from measure_any b l n hl bl wd z hF qe E ne ce hne hne9 V hS (hE.keep h)))
  have HFr := Lib.hid (fun (b i j : Nat) (hi : i ≤ n) (hj : j ≤ n) (V : World) (hS : SumsAt V b l bl) => (show Calls Try.prog 32 #[.agg #[.slice (some ⟨b, 0, none⟩) (n + 1) (n + 1), .int .i64 bl, .int .i64 wd, .bool z], .int .i64 (i : Int), .int .i64 (j : Int)] V (IntR (frT l bl wd i j) V) from pfree_any b l n hl bl wd z hF i j hi hj V hS))
  have HCo := Lib.hid (fun (b i j : Nat) (hi : i ≤ j) (hj : j ≤ n) (hf : 0 ≤ frT l bl wd i j) (V : World) (hS : SumsAt V b l bl) => (show Calls Try.prog 33 #[.agg #[.slice (some ⟨b, 0, none⟩) (n + 1) (n + 1), .int .i64 bl, .int .i64 wd, .bool z], .int .i64 (i : Int), .int .i64 (j : Int)] V (IntR (prT l bl wd i j) V) from pcost_any b l n hl bl wd z hF i j hi hj hf V hS))
  have HPb := Lib.hid (fun (i j : Nat) (hi : i ≤ j) (hf : 0 ≤ frT l bl wd i j) => prT_bound hF.b0 hF.b1 hF.w1 hF.all hi hf)
  have hcell : ∀ k, k < m → ∃ x y, L[k]? = some x ∧ C[k]? = some y ∧ inT L C k = (decide (0 ≤ x) && (decide (x ≤ 256) && (decide (0 ≤ y) && decide (y ≤ 4294967296)))) := fun k hk => by
    refine ⟨_, _, List.getElem?_eq_getElem (by omega), List.getElem?_eq_getElem (by omega), ?_⟩
    unfold inT
    rw [List.getD_eq_getElem?_getD, List.getElem?_eq_getElem (by omega), List.getD_eq_getElem?_getD, List.getElem?_eq_getElem (by omega)]
    rfl
  have hsh : shapeT n L C = true := by unfold shapeT; rw [decide_eq_true (by omega), decide_eq_true (by omega)]; rfl
  have hok : okT l bl wd E L C = (decide ((measT l bl wd E).2.2 = 0) && ((allF (inT L C) m 0 && (allF (rowT l bl wd L C) n 0 && (decide (L.getD n 0 = 0) && decide (C.getD n 0 = 0)))) && (decide (L.getD 0 0 = (measT l bl wd E).1) && decide (C.getD 0 0 = (measT l bl wd E).2.1)))) := by
    unfold okT showT
    rw [hl, hsh, hm, Bool.true_and]
  have HNo := Lib.hid (fun h : okT l bl wd E L C = false => chk_no he h)
  have HYes := Lib.hid (fun h : okT l bl wd E L C = true => chk_yes he h)
  have HRow := Lib.hid (fun i : Nat => (show rowT l bl wd L C i = rowF (frT l bl wd i) (prT l bl wd i) L C i n (n - i) (i + 1) from by unfold rowT; rw [hl]))
  have hnm : (n : Int) + 1 = (m : Int) := by omega
  have HOk := Lib.hid hok
  have HCell := Lib.hid hcell
  have HM := Lib.hid hm
  generalize chkT l bl wd E L C = R at *
  generalize okT l bl wd E L C = ok at HOk HNo HYes
  generalize rowT l bl wd L C = rows at *
  generalize measT l bl wd E = r at *
  obtain ⟨r1, r2, r3⟩ := r
  unfold ThreeR at HMe
  clear hl hF he hA hz hE hLA hCA hLc hCc hne hbl hbc hok hcell hsh hm
  go_enter Try.func22, Try.ntmps22
  go_upto_region 1 with (fail)
  have Kc := blk_new w 28 #[.slice qe ne ce, .slice (some adl) m cl, .slice (some adc) m cc]
  have X0 : Below w.heap.size w (w.alloc (.cells #[.slice qe ne ce, .slice (some adl) m cl, .slice (some adc) m cc] 28)) := (Below.refl _ _).alloc (Nat.le_refl _) _
  generalize World.alloc w _ = W0 at Kc X0 ⊢
  obtain ⟨cb, hcb⟩ : ∃ cb, w.heap.size = cb := ⟨_, rfl⟩
  rw [hcb] at Kc
  rw [hcb]
  clear hcb
  go_upto_region 2 with (first
    | (go_at_call 30; refine (HPa.out W0 X0).mono ?_; rintro en W1 ⟨b, rfl, hS, hB1⟩)
    | (refine store_blk rfl 58 (.tmp 9) (.tmp 23) rfl (blk_new W1 58 zeroPg.toArray) rfl rfl (vs := [.slice (some ⟨b, 0, none⟩) (n + 1) (n + 1), .int .i64 bl, .int .i64 wd, .bool z]) (m := 4) (by kernel_rfl) rfl rfl (by intro v hv; simp at hv; rcases hv with rfl | rfl | rfl | rfl <;> rfl) ?_; intro W2 K2 O2))
  try simp only [zP, zQ, zS, zZ, zC]
  have X2 : Below W1.heap.size W1 W2 := O2.2.2 _ _ (Nat.le_refl _) ((Below.refl _ _).alloc (Nat.le_refl _) _)
  obtain ⟨pb, hpb⟩ : ∃ pb, W1.heap.size = pb := ⟨_, rfl⟩
  have hS2 := hS.keep X2
  replace Kc := (Kc.keep hB1).keep X2
  have X3 := link (link X0 hB1) X2
  rw [hpb] at K2
  rw [hpb]
  clear O2 X2 hB1 X0 hS hpb HPa
  have CB := Lib.hid (fun (V : World) (h : Below W2.heap.size W2 V) => (by have := (K2.keep h).range 0 4; exact this : V.rangeAt pb 0 [.slice (some ⟨b, 0, none⟩) (n + 1) (n + 1), .int .i64 bl, .int .i64 wd, .bool z]))
  have C1 := Lib.hid (fun (V : World) (h : Below W2.heap.size W2 V) => (Kc.keep h).cell (j := 1) rfl)
  have C2 := Lib.hid (fun (V : World) (h : Below W2.heap.size W2 V) => (Kc.keep h).cell (j := 2) rfl)
  have C0 := Lib.hid (fun (V : World) (h : Below W2.heap.size W2 V) => (Kc.keep h).cell (j := 0) rfl)
  have HS := Lib.hid (fun (V : World) (h : Below W2.heap.size W2 V) => hS2.keep h)
  have HL := Lib.hid (fun (k : Nat) (x : Int) (h : L[k]? = some x) (V : World) (hB : Below W2.heap.size W2 V) => HL.out k x h V (link X3 hB))
  have HC := Lib.hid (fun (k : Nat) (x : Int) (h : C[k]? = some x) (V : World) (hB : Below W2.heap.size W2 V) => HC.out k x h V (link X3 hB))
  have XB := Lib.hid X3
  clear K2 Kc X3 hS2
  have hCW := CB.out W2 (Below.refl _ _)
  go_upto_region 5 with (first
    | (refine wpList_load_mid rfl 58 (.tmp 9) rfl pb 0 rfl [.slice (some ⟨b, 0, none⟩) (n + 1) (n + 1), .int .i64 bl, .int .i64 wd, .bool z] _ hCW Try.underlying58 rfl (by kernel_rfl) ?_)
    | (go_at_call 31; refine (HWd.out b W2).mono ?_; rintro en W3 ⟨rfl, hB3⟩))
  have c1 := C1.out W3 hB3
  have c2 := C2.out W3 hB3
  obtain ⟨xn, yn, hxn, hyn, _⟩ := HCell.out n (by have := HM.out; omega)
  have hxc := HL.out n xn hxn W3 hB3
  have hyc := HC.out n yn hyn W3 hB3
  have dx : L.getD n 0 = xn := by rw [List.getD_eq_getElem?_getD, hxn]; rfl
  have dy : C.getD n 0 = yn := by rw [List.getD_eq_getElem?_getD, hyn]; rfl
  have hnltm : n < m := by have := HM.out; omega
  have e1 : ((m : Int) == (m : Int)) = true := by simp
  clear hCW HWd hxn hyn
  by_cases z1 : xn = 0
  case neg =>
    have e3 : (xn == 0) = false := by simp; exact z1
    have HR := Lib.hid (HNo.out (by rw [HOk.out, dx, decide_eq_false z1]; simp))
    go_wp2
    go_ret
    exact ⟨by rw [HR.out]; rfl, link XB.out hB3⟩
  by_cases z2 : yn = 0
  case neg =>
    have e3 : (yn == 0) = false := by simp; exact z2
    have HR := Lib.hid (HNo.out (by rw [HOk.out, dy, decide_eq_false z2]; simp))
    subst z1
    go_wp2
    go_ret
    exact ⟨by rw [HR.out]; rfl, link XB.out hB3⟩
  subst z1 z2
  have HOk2 := Lib.hid (show ok = (decide (r3 = 0) && ((allF (inT L C) m 0 && allF rows n 0) && (decide (L.getD 0 0 = r1) && decide (C.getD 0 0 = r2)))) from by rw [HOk.out, dx, dy]; simp)
  clear dx dy HOk
  go_upto_region 7 with (fail)
  clear hxc hyc c1 c2 e1
  go_wp2
  go_loopw [62] (fun v wr => Ck1 L C m W2 v wr) (fun v _ => m - (intOf v).toNat)
  case atStart => exact ⟨0, rfl, Nat.zero_le _, rfl, hB3⟩
  case round =>
    clear hB3
    obtain ⟨k, rfl, hk, hF, hB⟩ := hrel
    have c1 := C1.out wr hB
    have c2 := C2.out wr hB
    rcases Nat.lt_or_ge k m with hlt | hge
    · obtain ⟨x, y, hx, hy, hin⟩ := HCell.out k hlt
      have hxc := HL.out k x hx wr hB
      have hyc := HC.out k y hy wr hB
      have hF2 : (inT L C k && allF (inT L C) (m - (k + 1)) (k + 1)) = allF (inT L C) m 0 := by rw [← hF, show m - k = (m - (k + 1)) + 1 by omega]; rfl
      rw [hin] at hF2
      have HF2 := Lib.hid hF2
      clear hF hx hy hin hF2
      by_cases g1 : x < 0
      · have HR := Lib.hid (HNo.out (by rw [HOk2.out, ← HF2.out, decide_eq_false (show ¬ 0 ≤ x by omega)]; simp))
        clear HF2
        go_wp2
        go_ret
        exact ⟨by rw [HR.out]; rfl, link XB.out hB⟩
      by_cases g2 : 256 < x
      · have HR := Lib.hid (HNo.out (by rw [HOk2.out, ← HF2.out, decide_eq_false (show ¬ x ≤ 256 by omega)]; simp))
        clear HF2
        go_wp2
        go_ret
        exact ⟨by rw [HR.out]; rfl, link XB.out hB⟩
      by_cases g3 : y < 0
      · have HR := Lib.hid (HNo.out (by rw [HOk2.out, ← HF2.out, decide_eq_false (show ¬ 0 ≤ y by omega)]; simp))
        clear HF2
        go_wp2
        go_ret
        exact ⟨by rw [HR.out]; rfl, link XB.out hB⟩
      by_cases g4 : 4294967296 < y
      · have HR := Lib.hid (HNo.out (by rw [HOk2.out, ← HF2.out, decide_eq_false (show ¬ y ≤ 4294967296 by omega)]; simp))
        clear HF2
        go_wp2
        go_ret
        exact ⟨by rw [HR.out]; rfl, link XB.out hB⟩
      have HF3 := Lib.hid (show allF (inT L C) (m - (k + 1)) (k + 1) = allF (inT L C) m 0 from by rw [← HF2.out, decide_eq_true (show 0 ≤ x by omega), decide_eq_true (show x ≤ 256 by omega), decide_eq_true (show 0 ≤ y by omega), decide_eq_true (show y ≤ 4294967296 by omega)]; rfl)
      clear HF2
      go_wp2
      exact ⟨⟨k + 1, by go_num, by omega, HF3.out, hB⟩, by simp [intOf]; omega⟩
    · obtain rfl : k = m := by omega
      have hlt : ¬ k < k := by omega
      have HIn := Lib.hid (show allF (inT L C) k 0 = true from by rw [← hF, Nat.sub_self]; rfl)
      have HOk3 := Lib.hid (show ok = (decide (r3 = 0) && (allF rows n 0 && (decide (L.getD 0 0 = r1) && decide (C.getD 0 0 = r2)))) from by rw [HOk2.out, HIn.out, Bool.true_and])
      have HSm := Lib.hid (fun (j : Nat) (hj : j < k) (x y : Int) (hx : L[j]? = some x) (hy : C[j]? = some y) => (show (0 ≤ x ∧ x ≤ 256) ∧ 0 ≤ y ∧ y ≤ 4294967296 from by
        have h1 := allF_iff.1 HIn.out j (Nat.zero_le _) (by omega)
        obtain ⟨x', y', hx', hy', h2⟩ := HCell.out j hj
        rw [hx'] at hx
        rw [hy'] at hy
        injection hx with hx
        injection hy with hy
        subst hx hy
        rw [h2, Bool.and_eq_true, Bool.and_eq_true, Bool.and_eq_true, decide_eq_true_eq, decide_eq_true_eq, decide_eq_true_eq, decide_eq_true_eq] at h1
        omega))
      clear hF HOk2 HIn
      have hCW := CB.out wr hB
      have c0 := C0.out wr hB
      have HMe1 := Lib.hid (HMe.out b wr (HS.out wr hB) (link XB.out hB))
      go_upto_region 14 with (first
        | (refine wpList_load_mid rfl 58 (.tmp 9) rfl pb 0 rfl [.slice (some ⟨b, 0, none⟩) (n + 1) (n + 1), .int .i64 bl, .int .i64 wd, .bool z] _ hCW Try.underlying58 rfl (by kernel_rfl) ?_)
        | (go_at_call 37; refine HMe1.out.mono ?_; rintro en W4 ⟨rfl, hB4⟩))
      try dsimp only
      replace hB := link hB hB4
      have hk0 : 0 < k := by have := HM.out; omega
      obtain ⟨x0, y0, hx0, hy0, _⟩ := HCell.out 0 hk0
      have dx : L.getD 0 0 = x0 := by rw [List.getD_eq_getElem?_getD, hx0]; rfl
      have dy : C.getD 0 0 = y0 := by rw [List.getD_eq_getElem?_getD, hy0]; rfl
      have hxc := HL.out 0 x0 hx0 W4 hB
      have hyc := HC.out 0 y0 hy0 W4 hB
      have hxz : W4.cell? adl = some (.int .i64 x0) := by rw [Addr.add_zero'] at hxc; exact hxc
      have hyz : W4.cell? adc = some (.int .i64 y0) := by rw [Addr.add_zero'] at hyc; exact hyc
      have c1 := C1.out W4 hB
      have c2 := C2.out W4 hB
      have HOk4 := Lib.hid (show ok = (decide (r3 = 0) && (allF rows n 0 && (decide (x0 = r1) && decide (y0 = r2)))) from by rw [HOk3.out, dx, dy])
      clear HMe HMe1 hB4 hCW hx0 hy0 dx dy HOk3 c0
      by_cases g1 : r3 = 0
      case neg =>
        have e3 : (r3 == 0) = false := beq_eq_false_iff_ne.2 g1
        have HR := Lib.hid (HNo.out (by rw [HOk4.out, decide_eq_false g1, Bool.false_and]))
        clear HOk4
        go_wp2
        go_ret
        exact ⟨by rw [HR.out]; rfl, link XB.out hB⟩
      subst g1
      by_cases g2 : x0 = r1
      case neg =>
        have e3 : (r1 == x0) = false := by simp; omega
        have HR := Lib.hid (HNo.out (by rw [HOk4.out, decide_eq_false g2]; simp))
        clear HOk4
        have g2 : ¬ r1 = x0 := fun h => g2 h.symm
        go_wp2
        go_ret
        exact ⟨by rw [HR.out]; rfl, link XB.out hB⟩
      subst g2
      by_cases g3 : y0 = r2
      case neg =>
        have e2 : (x0 == x0) = true := by simp
        have e3 : (r2 == y0) = false := by simp; omega
        have HR := Lib.hid (HNo.out (by rw [HOk4.out, decide_eq_false g3]; simp))
        clear HOk4
        have g3 : ¬ r2 = y0 := fun h => g3 h.symm
        go_wp2
        go_ret
        exact ⟨by rw [HR.out]; rfl, link XB.out hB⟩
      subst g3
      have e2 : (x0 == x0) = true := by simp
      have e3 : (y0 == y0) = true := by simp
      have HOk5 := Lib.hid (show ok = allF rows n 0 from by rw [HOk4.out]; simp)
      clear HOk4
      go_upto_region 16 with (fail)
      clear hxc hyc hxz hyz c1 c2 e2 e3
      go_wp2
      go_loopw [123] (fun v wr => Ck2 rows n W2 v wr) (fun v _ => n - (intOf v).toNat)
      case atStart => exact ⟨0, rfl, Nat.zero_le _, rfl, hB⟩
      case round =>
        clear hB
        obtain ⟨i, rfl, hi, hF, hB⟩ := hrel
        rcases Nat.lt_or_ge i n with hlti | hgei
        · have hF2 : (rows i && allF rows (n - (i + 1)) (i + 1)) = allF rows n 0 := by rw [← hF, show n - i = (n - (i + 1)) + 1 by omega]; rfl
          have HF2 := Lib.hid hF2
          have HRw := HRow.out i
          generalize rows i = ri at HF2 HRw
          have HRi := Lib.hid HRw.symm
          obtain ⟨wo, rfl⟩ : ∃ wo, wo = wr := ⟨_, rfl⟩
          clear hF hF2 HRw
          go_wp2
          go_loopw [17] (fun v wr => Ck3 (frT l bl wd i) (prT l bl wd i) L C i n ri W2 v wr) (fun v _ => n + 1 - (intOf v).toNat)
          case atStart => exact ⟨i + 1, by go_num, by omega, by omega, by rw [show n + 1 - (i + 1) = n - i by omega]; exact HRi.out, hB⟩
          case round =>
            clear hB
            obtain ⟨j, rfl, hij, hj, hRow, hB⟩ := hrel
            have hCW := CB.out wr hB
            rcases Nat.lt_or_ge n j with hjn | hjn
            · have hT : ri = true := by rw [← hRow, show n + 1 - j = 0 by omega]; rfl
              have hjle : ¬ ((j : Nat) : Int) ≤ (n : Int) := by omega
              subst hT
              have HF3 := Lib.hid (show allF rows (n - (i + 1)) (i + 1) = allF rows n 0 from by rw [← HF2.out, Bool.true_and])
              clear hRow hCW
              go_wp2
              exact ⟨⟨i + 1, by go_num, by omega, HF3.out, hB⟩, by simp [intOf]; omega⟩
            · have HF1 := Lib.hid (HFr.out b i j (by omega) hjn wr (HS.out wr hB))
              have HC1 := Lib.hid (fun (h0 : 0 ≤ frT l bl wd i j) (V : World) (h : Below W2.heap.size W2 V) => HCo.out b i j (by omega) hjn h0 V (HS.out V h))
              have HP1 := Lib.hid (fun h0 : 0 ≤ frT l bl wd i j => HPb.out i j (by omega) h0)
              obtain ⟨xl, xk, hxl, hxk, _⟩ := HCell.out j (by have := HM.out; omega)
              obtain ⟨yl, yk, hyl, hyk, _⟩ := HCell.out i (by have := HM.out; omega)
              obtain ⟨⟨b1, b2⟩, b3, b4⟩ := HSm.out j (by have := HM.out; omega) xl xk hxl hxk
              have dl : L.getD j 0 = xl := by rw [List.getD_eq_getElem?_getD, hxl]; rfl
              have dk : C.getD j 0 = xk := by rw [List.getD_eq_getElem?_getD, hxk]; rfl
              have el : L.getD i 0 = yl := by rw [List.getD_eq_getElem?_getD, hyl]; rfl
              have ek : C.getD i 0 = yk := by rw [List.getD_eq_getElem?_getD, hyk]; rfl
              have HStep := Lib.hid (show ri = if 0 ≤ frT l bl wd i j then (!better (xl + 1) (xk + prT l bl wd i j) yl yk && rowF (frT l bl wd i) (prT l bl wd i) L C i n (n + 1 - (j + 1)) (j + 1)) else true from by
                rw [← hRow]
                conv => lhs; rw [show n + 1 - j = (n + 1 - (j + 1)) + 1 by omega]
                conv => lhs; unfold rowF
                rw [dl, dk, el, ek]
                by_cases h : 0 ≤ frT l bl wd i j
                · rw [if_pos ⟨hjn, h⟩, if_pos h]
                · rw [if_neg (fun g => h g.2), if_neg h])
              obtain ⟨fr, hfr'⟩ : ∃ fr, frT l bl wd i j = fr := ⟨_, rfl⟩
              obtain ⟨pr, hpr'⟩ : ∃ pr, prT l bl wd i j = pr := ⟨_, rfl⟩
              rw [hfr'] at HF1 HC1 HP1 HStep
              rw [hpr'] at HC1 HP1 HStep
              clear hfr' hpr' dl dk el ek hRow
              by_cases hfr : fr < 0
              · have hT : ri = true := by rw [HStep.out, if_neg (by omega)]
                subst hT
                have HF3 := Lib.hid (show allF rows (n - (i + 1)) (i + 1) = allF rows n 0 from by rw [← HF2.out, Bool.true_and])
                clear HStep HC1 HP1 hxl hxk hyl hyk
                go_wp2_with (first
                  | (refine load_wanted3 (by rfl) 58 (.tmp 9) rfl pb 0 rfl [.slice (some ⟨b, 0, none⟩) (n + 1) (n + 1), .int .i64 bl, .int .i64 wd, .bool z] _ hCW Try.underlying58 rfl (by kernel_rfl) ?_)
                  | (go_at_call 32; refine HF1.out.mono ?_; rintro en W5 ⟨rfl, hB5⟩))
                exact ⟨⟨i + 1, by go_num, by omega, HF3.out, link hB hB5⟩, by simp [intOf]; omega⟩
              · have hf0 : 0 ≤ fr := by omega
                obtain ⟨p1, p2⟩ := HP1.out hf0
                have HC2 := Lib.hid (HC1.out hf0)
                have HSt := Lib.hid (show ri = (!better (xl + 1) (xk + pr) yl yk && rowF (frT l bl wd i) (prT l bl wd i) L C i n (n + 1 - (j + 1)) (j + 1)) from by rw [HStep.out, if_pos hf0])
                have HWa := Lib.hid (wrap_big (x := xl + 1) (by omega) (by omega))
                have HWb := Lib.hid (wrap_big (x := xk + pr) (by omega) (by omega))
                clear HStep HC1 HP1
                go_upto_region 22 with (first
                  | (refine load_wanted3 (by rfl) 58 (.tmp 9) rfl pb 0 rfl [.slice (some ⟨b, 0, none⟩) (n + 1) (n + 1), .int .i64 bl, .int .i64 wd, .bool z] _ hCW Try.underlying58 rfl (by kernel_rfl) ?_)
                  | (go_at_call 32; refine HF1.out.mono ?_; rintro en W5 ⟨rfl, hB5⟩))
                have hX5 := link hB hB5
                have C1 := C1.out
                have C2 := C2.out
                have CB := CB.out
                have CLj : ∀ V, Below W2.heap.size W2 V → V.cell? (adl.add j) = some (.int .i64 xl) := HL.out j xl hxl
                have CKj : ∀ V, Below W2.heap.size W2 V → V.cell? (adc.add j) = some (.int .i64 xk) := HC.out j xk hxk
                have CLi : ∀ V, Below W2.heap.size W2 V → V.cell? (adl.add i) = some (.int .i64 yl) := HL.out i yl hyl
                have CKi : ∀ V, Below W2.heap.size W2 V → V.cell? (adc.add i) = some (.int .i64 yk) := HC.out i yk hyk
                have hjk : j < k := by have := HM.out; omega
                have hik : i < k := by have := HM.out; omega
                clear hCW hB5 hB HF1 hxl hxk hyl hyk HL HC HCell
                have HB1 := Lib.hid (fun h : better (xl + 1) (xk + pr) yl yk = true => HNo.out (by rw [HOk5.out, ← HF2.out, HSt.out, h]; rfl))
                have HB0 := Lib.hid (fun h : better (xl + 1) (xk + pr) yl yk = false => (show rowF (frT l bl wd i) (prT l bl wd i) L C i n (n + 1 - (j + 1)) (j + 1) = ri from by rw [HSt.out, h]; rfl))
                obtain ⟨bt, hbt⟩ : ∃ bt, better (xl + 1) (xk + pr) yl yk = bt := ⟨_, rfl⟩
                rw [hbt] at HB1 HB0
                have HBt := Lib.hid hbt
                clear hbt
                refine wp_region_held_drew (S := fun w' => Below W2.heap.size W2 w') (by kernel_rfl) (below_drew (hX5)) (fun _ => ?_)
                have hHeld : Below W2.heap.size W2 W5.drew := below_drew (hX5)
                generalize W5.drew = V0 at hHeld ⊢
                refine wt (i := 0) (oi := ⟨some 140, .fieldAddr 28 (.tmp 7) 1, 0, "breaks.go:116", #[], none⟩) (v := .pointer (some ⟨cb, 1, none⟩)) (Or.inl ⟨by rfl, fun w' hSw => by go_simp⟩) hHeld ?_
                try simp only [zP, zQ, zS, zZ, zC]
                refine wt (i := 1) (oi := ⟨some 141, .load 22 (.tmp 140), 22, "breaks.go:116", #[⟨0, .data⟩], none⟩) (v := .slice (some adl) k cl) (Or.inl ⟨by rfl, fun w' hSw => by have hc := C1 w' hSw; go_simp⟩) hHeld ?_
                try simp only [zP, zQ, zS, zZ, zC]
                refine wt (i := 2) (oi := ⟨some 142, .move (.tmp 17), 3, "breaks.go:116", #[], none⟩) (v := .int .i64 (j : Int)) (Or.inl ⟨by rfl, fun w' hSw => by go_simp⟩) hHeld ?_
                try simp only [zP, zQ, zS, zZ, zC]
                refine wt (i := 3) (oi := ⟨some 143, .indexAddr 22 (.tmp 141) (.tmp 142), 0, "breaks.go:116", #[⟨1, .data⟩, ⟨2, .data⟩], none⟩) (v := .pointer (some (adl.add j))) (Or.inl ⟨by rfl, fun w' hSw => by go_simp; try (intro hcm; exact absurd hcm (by omega))⟩) hHeld ?_
                try simp only [zP, zQ, zS, zZ, zC]
                refine wt (i := 4) (oi := ⟨some 144, .load 3 (.tmp 143), 3, "breaks.go:116", #[⟨3, .data⟩], none⟩) (v := .int .i64 xl) (Or.inl ⟨by rfl, fun w' hSw => by have hc := CLj w' hSw; go_simp⟩) hHeld ?_
                try simp only [zP, zQ, zS, zZ, zC]
                refine wt (i := 5) (oi := ⟨some 145, .binOp .add 3 (.tmp 144) (.const (Value.int IntKind.i64 1)) 3, 3, "breaks.go:116", #[⟨4, .data⟩], none⟩) (v := .int .i64 (xl + 1)) (Or.inl ⟨by rfl, fun w' hSw => by have hw := HWa.out; go_simp⟩) hHeld ?_
                try simp only [zP, zQ, zS, zZ, zC]
                refine wt (i := 6) (oi := ⟨some 146, .fieldAddr 28 (.tmp 7) 2, 0, "breaks.go:116", #[], none⟩) (v := .pointer (some ⟨cb, 2, none⟩)) (Or.inl ⟨by rfl, fun w' hSw => by go_simp⟩) hHeld ?_
                try simp only [zP, zQ, zS, zZ, zC]
                refine wt (i := 7) (oi := ⟨some 147, .load 22 (.tmp 146), 22, "breaks.go:116", #[⟨6, .data⟩], none⟩) (v := .slice (some adc) k cc) (Or.inl ⟨by rfl, fun w' hSw => by have hc := C2 w' hSw; go_simp⟩) hHeld ?_
                try simp only [zP, zQ, zS, zZ, zC]
                refine wt (i := 8) (oi := ⟨some 148, .move (.tmp 17), 3, "breaks.go:116", #[], none⟩) (v := .int .i64 (j : Int)) (Or.inl ⟨by rfl, fun w' hSw => by go_simp⟩) hHeld ?_
                try simp only [zP, zQ, zS, zZ, zC]
                refine wt (i := 9) (oi := ⟨some 149, .indexAddr 22 (.tmp 147) (.tmp 148), 0, "breaks.go:116", #[⟨7, .data⟩, ⟨8, .data⟩], none⟩) (v := .pointer (some (adc.add j))) (Or.inl ⟨by rfl, fun w' hSw => by go_simp; try (intro hcm; exact absurd hcm (by omega))⟩) hHeld ?_
                try simp only [zP, zQ, zS, zZ, zC]
                refine wt (i := 10) (oi := ⟨some 150, .load 3 (.tmp 149), 3, "breaks.go:116", #[⟨9, .data⟩], none⟩) (v := .int .i64 xk) (Or.inl ⟨by rfl, fun w' hSw => by have hc := CKj w' hSw; go_simp⟩) hHeld ?_
                try simp only [zP, zQ, zS, zZ, zC]
                refine wt (i := 11) (oi := ⟨some 151, .load 58 (.tmp 9), 58, "breaks.go:116", #[], none⟩) (v := _) (yieldsIf_load_mid (by rfl) _ _ rfl pb (0) rfl [.slice (some ⟨b, 0, none⟩) (n + 1) (n + 1), .int .i64 bl, .int .i64 wd, .bool z] _ (fun w' hSw => CB w' hSw) Try.underlying58 rfl (by kernel_rfl)) hHeld ?_
                try simp only [zP, zQ, zS, zZ, zC]
                refine wt (i := 12) (oi := ⟨some 152, .move (.tmp 16), 3, "breaks.go:116", #[], none⟩) (v := .int .i64 (i : Int)) (Or.inl ⟨by rfl, fun w' hSw => by go_simp⟩) hHeld ?_
                try simp only [zP, zQ, zS, zZ, zC]
                refine wt (i := 13) (oi := ⟨some 153, .move (.tmp 17), 3, "breaks.go:116", #[], none⟩) (v := .int .i64 (j : Int)) (Or.inl ⟨by rfl, fun w' hSw => by go_simp⟩) hHeld ?_
                try simp only [zP, zQ, zS, zZ, zC]
                refine wt (i := 17) (oi := ⟨some 157, .fieldAddr 28 (.tmp 7) 1, 0, "breaks.go:116", #[], none⟩) (v := .pointer (some ⟨cb, 1, none⟩)) (Or.inl ⟨by rfl, fun w' hSw => by go_simp⟩) hHeld ?_
                try simp only [zP, zQ, zS, zZ, zC]
                refine wt (i := 18) (oi := ⟨some 158, .load 22 (.tmp 157), 22, "breaks.go:116", #[⟨17, .data⟩], none⟩) (v := .slice (some adl) k cl) (Or.inl ⟨by rfl, fun w' hSw => by have hc := C1 w' hSw; go_simp⟩) hHeld ?_
                try simp only [zP, zQ, zS, zZ, zC]
                refine wt (i := 19) (oi := ⟨some 159, .move (.tmp 16), 3, "breaks.go:116", #[], none⟩) (v := .int .i64 (i : Int)) (Or.inl ⟨by rfl, fun w' hSw => by go_simp⟩) hHeld ?_
                try simp only [zP, zQ, zS, zZ, zC]
                refine wt (i := 20) (oi := ⟨some 160, .indexAddr 22 (.tmp 158) (.tmp 159), 0, "breaks.go:116", #[⟨18, .data⟩, ⟨19, .data⟩], none⟩) (v := .pointer (some (adl.add i))) (Or.inl ⟨by rfl, fun w' hSw => by go_simp; try (intro hcm; exact absurd hcm (by omega))⟩) hHeld ?_
                try simp only [zP, zQ, zS, zZ, zC]
                refine wt (i := 21) (oi := ⟨some 161, .load 3 (.tmp 160), 3, "breaks.go:116", #[⟨20, .data⟩], none⟩) (v := .int .i64 yl) (Or.inl ⟨by rfl, fun w' hSw => by have hc := CLi w' hSw; go_simp⟩) hHeld ?_
                try simp only [zP, zQ, zS, zZ, zC]
                refine wt (i := 22) (oi := ⟨some 162, .fieldAddr 28 (.tmp 7) 2, 0, "breaks.go:116", #[], none⟩) (v := .pointer (some ⟨cb, 2, none⟩)) (Or.inl ⟨by rfl, fun w' hSw => by go_simp⟩) hHeld ?_
                try simp only [zP, zQ, zS, zZ, zC]
                refine wt (i := 23) (oi := ⟨some 163, .load 22 (.tmp 162), 22, "breaks.go:116", #[⟨22, .data⟩], none⟩) (v := .slice (some adc) k cc) (Or.inl ⟨by rfl, fun w' hSw => by have hc := C2 w' hSw; go_simp⟩) hHeld ?_
                try simp only [zP, zQ, zS, zZ, zC]
                refine wt (i := 24) (oi := ⟨some 164, .move (.tmp 16), 3, "breaks.go:116", #[], none⟩) (v := .int .i64 (i : Int)) (Or.inl ⟨by rfl, fun w' hSw => by go_simp⟩) hHeld ?_
                try simp only [zP, zQ, zS, zZ, zC]
                refine wt (i := 25) (oi := ⟨some 165, .indexAddr 22 (.tmp 163) (.tmp 164), 0, "breaks.go:116", #[⟨23, .data⟩, ⟨24, .data⟩], none⟩) (v := .pointer (some (adc.add i))) (Or.inl ⟨by rfl, fun w' hSw => by go_simp; try (intro hcm; exact absurd hcm (by omega))⟩) hHeld ?_
                try simp only [zP, zQ, zS, zZ, zC]
                refine wt (i := 26) (oi := ⟨some 166, .load 3 (.tmp 165), 3, "breaks.go:116", #[⟨25, .data⟩], none⟩) (v := .int .i64 yk) (Or.inl ⟨by rfl, fun w' hSw => by have hc := CKi w' hSw; go_simp⟩) hHeld ?_
                try simp only [zP, zQ, zS, zZ, zC]
                refine wpAnyH_ready (rs := [14, 27]) (by kernel_rfl) (by simp) ?_
                refine AllReadyH.cons (o := ⟨some 154, .call { callee := .value (.func 33), args := #[.tmp 151, .tmp 152, .tmp 153], argTypes := #[58, 3, 3] }, 3, "breaks.go:116", #[⟨11, .data⟩, ⟨12, .data⟩, ⟨13, .data⟩], none⟩) rfl (fun K hK => ?_) (AllReadyH.cons (o := ⟨some 167, .buildSlice 22 2 #[(0, .tmp 161), (1, .tmp 166)], 22, "breaks.go:116", #[⟨21, .data⟩, ⟨26, .data⟩], none⟩) rfl (fun K hK => ?_) AllReadyH.nil)
                · skip
                  rw [if_pos (by rfl)]
                  go_simp
                  refine (HC2.out V0 hHeld).mono ?_
                  rintro en V1 ⟨rfl, hB9⟩
                  dsimp only
                  refine hK.out _ _ (link hHeld hB9) (fun hHeld => ?_)
                  clear hK K
                  try simp only [zP, zQ, zS, zZ, zC]
                  clear hB9
                  refine wt (i := 15) (oi := ⟨some 155, .binOp .add 3 (.tmp 150) (.tmp 154) 3, 3, "breaks.go:116", #[⟨10, .data⟩, ⟨14, .data⟩], none⟩) (v := .int .i64 (xk + pr)) (Or.inl ⟨by rfl, fun w' hSw => by have hw := HWb.out; go_simp⟩) hHeld ?_
                  try simp only [zP, zQ, zS, zZ, zC]
                  refine wpAnyH_ready (rs := [16, 27]) (by kernel_rfl) (by simp) ?_
                  refine AllReadyH.cons (o := ⟨some 156, .buildSlice 22 2 #[(0, .tmp 145), (1, .tmp 155)], 22, "breaks.go:116", #[⟨5, .data⟩, ⟨15, .data⟩], none⟩) rfl (fun K hK => ?_) (AllReadyH.cons (o := ⟨some 167, .buildSlice 22 2 #[(0, .tmp 161), (1, .tmp 166)], 22, "breaks.go:116", #[⟨21, .data⟩, ⟨26, .data⟩], none⟩) rfl (fun K hK => ?_) AllReadyH.nil)
                  · skip
                    rw [if_pos (by rfl)]
                    go_simp
                    have Kp : Blk (World.alloc V1 (.cells #[.int .i64 (xl + 1), .int .i64 (xk + pr)] 3)) V1.heap.size 3 [.int .i64 (xl + 1), .int .i64 (xk + pr)] := blk_new V1 _ _
                    have X : Below V1.heap.size V1 (World.alloc V1 (.cells #[.int .i64 (xl + 1), .int .i64 (xk + pr)] 3)) := (Below.refl _ _).alloc (Nat.le_refl _) _
                    refine hK.out _ _ (link hHeld X) (fun hHeld => ?_)
                    clear hK K
                    try simp only [zP, zQ, zS, zZ, zC]
                    clear X
                    generalize World.alloc V1 _ = V2 at Kp hHeld ⊢
                    generalize V1.heap.size = pb at Kp ⊢
                    refine wpAnyH_ready (rs := [27]) (by kernel_rfl) (by simp) ?_
                    refine AllReadyH.cons (o := ⟨some 167, .buildSlice 22 2 #[(0, .tmp 161), (1, .tmp 166)], 22, "breaks.go:116", #[⟨21, .data⟩, ⟨26, .data⟩], none⟩) rfl (fun K hK => ?_) AllReadyH.nil
                    rw [if_pos (by rfl)]
                    go_simp
                    have Kq : Blk (World.alloc V2 (.cells #[.int .i64 yl, .int .i64 yk] 3)) V2.heap.size 3 [.int .i64 yl, .int .i64 yk] := blk_new V2 _ _
                    have X : Below V2.heap.size V2 (World.alloc V2 (.cells #[.int .i64 yl, .int .i64 yk] 3)) := (Below.refl _ _).alloc (Nat.le_refl _) _
                    replace Kp := Kp.keep X
                    refine hK.out _ _ (link hHeld X) (fun hHeld => ?_)
                    clear hK K
                    try simp only [zP, zQ, zS, zZ, zC]
                    clear X
                    generalize World.alloc V2 _ = V3 at Kq Kp hHeld ⊢
                    generalize V2.heap.size = qb at Kq ⊢
                    refine wpAnyH_ready (rs := [28]) (by kernel_rfl) (by simp) ?_
                    refine AllReadyH.cons (o := ⟨some 168, .call { callee := .value (.func 34), args := #[.tmp 156, .tmp 167], argTypes := #[22, 22] }, 4, "breaks.go:116", #[⟨16, .data⟩, ⟨27, .data⟩, ⟨14, .chain⟩], none⟩) rfl (fun K hK => ?_) AllReadyH.nil
                    rw [if_pos (by rfl)]
                    go_simp
                    refine (better_any _ _ _ _ (xl + 1) (xk + pr) yl yk V3 Kp.lt Kq.lt (Kp.cell (j := 0) rfl) (Kp.cell (j := 1) rfl) (Kq.cell (j := 0) rfl) (Kq.cell (j := 1) rfl)).mono ?_
                    rintro en V4 ⟨rfl, hB9⟩
                    dsimp only
                    rw [HBt.out]
                    refine hK.out _ _ (link hHeld hB9) (fun hHeld => ?_)
                    clear hK K
                    try simp only [zP, zQ, zS, zZ, zC]
                    refine wpAnyH_done (by kernel_rfl) ?_ _
                    have hX6 := hHeld
                    clear hHeld Kp Kq hB9 C1 C2 CB CLj CKj CLi CKi
                    rcases bt with _ | _
                    · have HN := Lib.hid (HB0.out rfl)
                      clear HB0 HB1 HBt
                      go_wp2
                      exact ⟨⟨j + 1, by go_num, by omega, by omega, HN.out, hX6⟩, by simp [intOf]; omega⟩
                    · have HR := Lib.hid (HB1.out rfl)
                      clear HB0 HB1 HBt
                      go_wp2
                      go_ret
                      exact ⟨by rw [HR.out]; rfl, link XB.out hX6⟩
                  · skip
                    rw [if_pos (by rfl)]
                    go_simp
                    have Kq : Blk (World.alloc V1 (.cells #[.int .i64 yl, .int .i64 yk] 3)) V1.heap.size 3 [.int .i64 yl, .int .i64 yk] := blk_new V1 _ _
                    have X : Below V1.heap.size V1 (World.alloc V1 (.cells #[.int .i64 yl, .int .i64 yk] 3)) := (Below.refl _ _).alloc (Nat.le_refl _) _
                    refine hK.out _ _ (link hHeld X) (fun hHeld => ?_)
                    clear hK K
                    try simp only [zP, zQ, zS, zZ, zC]
                    clear X
                    generalize World.alloc V1 _ = V2 at Kq hHeld ⊢
                    generalize V1.heap.size = qb at Kq ⊢
                    refine wpAnyH_ready (rs := [16]) (by kernel_rfl) (by simp) ?_
                    refine AllReadyH.cons (o := ⟨some 156, .buildSlice 22 2 #[(0, .tmp 145), (1, .tmp 155)], 22, "breaks.go:116", #[⟨5, .data⟩, ⟨15, .data⟩], none⟩) rfl (fun K hK => ?_) AllReadyH.nil
                    rw [if_pos (by rfl)]
                    go_simp
                    have Kp : Blk (World.alloc V2 (.cells #[.int .i64 (xl + 1), .int .i64 (xk + pr)] 3)) V2.heap.size 3 [.int .i64 (xl + 1), .int .i64 (xk + pr)] := blk_new V2 _ _
                    have X : Below V2.heap.size V2 (World.alloc V2 (.cells #[.int .i64 (xl + 1), .int .i64 (xk + pr)] 3)) := (Below.refl _ _).alloc (Nat.le_refl _) _
                    replace Kq := Kq.keep X
                    refine hK.out _ _ (link hHeld X) (fun hHeld => ?_)
                    clear hK K
                    try simp only [zP, zQ, zS, zZ, zC]
                    clear X
                    generalize World.alloc V2 _ = V3 at Kp Kq hHeld ⊢
                    generalize V2.heap.size = pb at Kp ⊢
                    refine wpAnyH_ready (rs := [28]) (by kernel_rfl) (by simp) ?_
                    refine AllReadyH.cons (o := ⟨some 168, .call { callee := .value (.func 34), args := #[.tmp 156, .tmp 167], argTypes := #[22, 22] }, 4, "breaks.go:116", #[⟨16, .data⟩, ⟨27, .data⟩, ⟨14, .chain⟩], none⟩) rfl (fun K hK => ?_) AllReadyH.nil
                    rw [if_pos (by rfl)]
                    go_simp
                    refine (better_any _ _ _ _ (xl + 1) (xk + pr) yl yk V3 Kp.lt Kq.lt (Kp.cell (j := 0) rfl) (Kp.cell (j := 1) rfl) (Kq.cell (j := 0) rfl) (Kq.cell (j := 1) rfl)).mono ?_
                    rintro en V4 ⟨rfl, hB9⟩
                    dsimp only
                    rw [HBt.out]
                    refine hK.out _ _ (link hHeld hB9) (fun hHeld => ?_)
                    clear hK K
                    try simp only [zP, zQ, zS, zZ, zC]
                    refine wpAnyH_done (by kernel_rfl) ?_ _
                    have hX6 := hHeld
                    clear hHeld Kp Kq hB9 C1 C2 CB CLj CKj CLi CKi
                    rcases bt with _ | _
                    · have HN := Lib.hid (HB0.out rfl)
                      clear HB0 HB1 HBt
                      go_wp2
                      exact ⟨⟨j + 1, by go_num, by omega, by omega, HN.out, hX6⟩, by simp [intOf]; omega⟩
                    · have HR := Lib.hid (HB1.out rfl)
                      clear HB0 HB1 HBt
                      go_wp2
                      go_ret
                      exact ⟨by rw [HR.out]; rfl, link XB.out hX6⟩
                · skip
                  rw [if_pos (by rfl)]
                  go_simp
                  have Kq : Blk (World.alloc V0 (.cells #[.int .i64 yl, .int .i64 yk] 3)) V0.heap.size 3 [.int .i64 yl, .int .i64 yk] := blk_new V0 _ _
                  have X : Below V0.heap.size V0 (World.alloc V0 (.cells #[.int .i64 yl, .int .i64 yk] 3)) := (Below.refl _ _).alloc (Nat.le_refl _) _
                  refine hK.out _ _ (link hHeld X) (fun hHeld => ?_)
                  clear hK K
                  try simp only [zP, zQ, zS, zZ, zC]
                  clear X
                  generalize World.alloc V0 _ = V1 at Kq hHeld ⊢
                  generalize V0.heap.size = qb at Kq ⊢
                  refine wpAnyH_ready (rs := [14]) (by kernel_rfl) (by simp) ?_
                  refine AllReadyH.cons (o := ⟨some 154, .call { callee := .value (.func 33), args := #[.tmp 151, .tmp 152, .tmp 153], argTypes := #[58, 3, 3] }, 3, "breaks.go:116", #[⟨11, .data⟩, ⟨12, .data⟩, ⟨13, .data⟩], none⟩) rfl (fun K hK => ?_) AllReadyH.nil
                  rw [if_pos (by rfl)]
                  go_simp
                  refine (HC2.out V1 hHeld).mono ?_
                  rintro en V2 ⟨rfl, hB9⟩
                  dsimp only
                  replace Kq := Kq.keep hB9
                  refine hK.out _ _ (link hHeld hB9) (fun hHeld => ?_)
                  clear hK K
                  try simp only [zP, zQ, zS, zZ, zC]
                  clear hB9
                  refine wt (i := 15) (oi := ⟨some 155, .binOp .add 3 (.tmp 150) (.tmp 154) 3, 3, "breaks.go:116", #[⟨10, .data⟩, ⟨14, .data⟩], none⟩) (v := .int .i64 (xk + pr)) (Or.inl ⟨by rfl, fun w' hSw => by have hw := HWb.out; go_simp⟩) hHeld ?_
                  try simp only [zP, zQ, zS, zZ, zC]
                  refine wpAnyH_ready (rs := [16]) (by kernel_rfl) (by simp) ?_
                  refine AllReadyH.cons (o := ⟨some 156, .buildSlice 22 2 #[(0, .tmp 145), (1, .tmp 155)], 22, "breaks.go:116", #[⟨5, .data⟩, ⟨15, .data⟩], none⟩) rfl (fun K hK => ?_) AllReadyH.nil
                  rw [if_pos (by rfl)]
                  go_simp
                  have Kp : Blk (World.alloc V2 (.cells #[.int .i64 (xl + 1), .int .i64 (xk + pr)] 3)) V2.heap.size 3 [.int .i64 (xl + 1), .int .i64 (xk + pr)] := blk_new V2 _ _
                  have X : Below V2.heap.size V2 (World.alloc V2 (.cells #[.int .i64 (xl + 1), .int .i64 (xk + pr)] 3)) := (Below.refl _ _).alloc (Nat.le_refl _) _
                  replace Kq := Kq.keep X
                  refine hK.out _ _ (link hHeld X) (fun hHeld => ?_)
                  clear hK K
                  try simp only [zP, zQ, zS, zZ, zC]
                  clear X
                  generalize World.alloc V2 _ = V3 at Kp Kq hHeld ⊢
                  generalize V2.heap.size = pb at Kp ⊢
                  refine wpAnyH_ready (rs := [28]) (by kernel_rfl) (by simp) ?_
                  refine AllReadyH.cons (o := ⟨some 168, .call { callee := .value (.func 34), args := #[.tmp 156, .tmp 167], argTypes := #[22, 22] }, 4, "breaks.go:116", #[⟨16, .data⟩, ⟨27, .data⟩, ⟨14, .chain⟩], none⟩) rfl (fun K hK => ?_) AllReadyH.nil
                  rw [if_pos (by rfl)]
                  go_simp
                  refine (better_any _ _ _ _ (xl + 1) (xk + pr) yl yk V3 Kp.lt Kq.lt (Kp.cell (j := 0) rfl) (Kp.cell (j := 1) rfl) (Kq.cell (j := 0) rfl) (Kq.cell (j := 1) rfl)).mono ?_
                  rintro en V4 ⟨rfl, hB9⟩
                  dsimp only
                  rw [HBt.out]
                  refine hK.out _ _ (link hHeld hB9) (fun hHeld => ?_)
                  clear hK K
                  try simp only [zP, zQ, zS, zZ, zC]
                  refine wpAnyH_done (by kernel_rfl) ?_ _
                  have hX6 := hHeld
                  clear hHeld Kp Kq hB9 C1 C2 CB CLj CKj CLi CKi
                  rcases bt with _ | _
                  · have HN := Lib.hid (HB0.out rfl)
                    clear HB0 HB1 HBt
                    go_wp2
                    exact ⟨⟨j + 1, by go_num, by omega, by omega, HN.out, hX6⟩, by simp [intOf]; omega⟩
                  · have HR := Lib.hid (HB1.out rfl)
                    clear HB0 HB1 HBt
                    go_wp2
                    go_ret
                    exact ⟨by rw [HR.out]; rfl, link XB.out hX6⟩
        · obtain rfl : i = n := by omega
          have hlti : ¬ i < i := by omega
          have HR := Lib.hid (HYes.out (by rw [HOk5.out, ← hF, Nat.sub_self]; rfl))
          clear hF
          go_wp2
          go_ret
          exact ⟨by rw [HR.out]; rfl, link XB.out hB⟩
end Go.Proofs.Ytacdjchkilheiaa
