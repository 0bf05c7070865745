/-
  Check for any certificate; passimlaw12.lives: the documented examples.
-/
import Derived.Test.YtacdjchkilheiaaDk
import Derived.Test.YtacdjchkilheiaaCp
import Derived.Test.YtacdjchkilheiaaCh
namespace Go.Proofs.Ytacdjchkilheiaa
open Go.RowKit
set_option linter.unusedVariables false
set_option linter.unusedSimpArgs false

theorem chk_any (A : Option Addr) (l : List Int) (n c : Nat) (hl : l.length = n) (bl wd : Int) (qe : Option Addr) (E L C : List Int) (ne ce : Nat) (hne : E.length = ne) (hne9 : ne ≤ 9223372036854775807) (ql : Option Addr) (nl cl : Nat) (qc : Option Addr) (nc cc : Nat) (hL : L.length = nl) (hC : C.length = nc) (w : World) (hA : IntsAt w A l) (hE : IntsAt w qe E) (hLA : IntsAt w ql L) (hCA : IntsAt w qc C) :
    Calls Try.prog 22 #[.slice A n c, .int .i64 bl, .int .i64 wd, .agg #[.slice qe ne ce, .slice ql nl cl, .slice qc nc cc]] w (IntR (chkT l bl wd E L C) w) := by
  by_cases he : errT l bl wd = 0
  · by_cases hs : nl = n + 1 ∧ nc = n + 1
    · obtain ⟨rfl, rfl⟩ := hs
      exact chk_good A l n (n + 1) c hl rfl bl wd he qe E L C ne ce hne hne9 ql cl qc cc hL hC w hA hE hLA hCA
    · have ho : okT l bl wd E L C = false := by
        have h1 : shapeT l.length L C = false := by
          unfold shapeT
          rw [Bool.and_eq_false_iff, decide_eq_false_iff_not, decide_eq_false_iff_not]
          by_cases h : nl = n + 1
          · exact Or.inr (fun g => hs ⟨h, by omega⟩)
          · exact Or.inl (fun g => h (by omega))
        unfold okT showT
        rw [h1]
        simp
      rw [chk_no he ho]
      exact chk_shape A l n c hl bl wd he qe ne ce ql nl cl qc nc cc (by
        by_cases h : nl = n + 1
        · exact Or.inr (fun g => hs ⟨h, g⟩)
        · exact Or.inl h) w hA
  · rw [chk_err he]
    exact chk_bad A l n c hl bl wd he qe ne ce ql nl cl qc nc cc w hA
/-- A certificate and an error as answers, of known lengths. -/
def CertG (E L C : List Int) (ne nl nc : Nat) (k : Int) (w : World) (e : Ending) (w' : World) : Prop := ∃ (qe ql qc : Option Addr) (ce cl cc : Nat), e = .returned (.tuple #[.agg #[.slice qe ne ce, .slice ql nl cl, .slice qc nc cc], .int .i64 k]) ∧ CtAt w' qe ne ql nl qc nc E L C ∧ Below w.heap.size w w'
theorem CertR.give {T : TypeId} {E L C : List Int} {k : Int} {w : World} {e : Ending} {w' : World} (h : CertR T E L C k w e w') {ne nl nc : Nat} (h1 : E.length = ne) (h2 : L.length = nl) (h3 : C.length = nc) (g1 : ne ≤ 1000000000000) (g2 : nl ≤ 1000000000000) (g3 : nc ≤ 1000000000000) : CertG E L C ne nl nc k w e w' := by
  obtain ⟨qe, ql, qc, ce, cl, cc, he, a1, a2, a3, hB⟩ := h
  subst h1 h2 h3
  exact ⟨qe, ql, qc, ce, cl, cc, he, ⟨rfl, rfl, rfl, g1, g2, g3, a1, a2, a3⟩, hB⟩
def ListG (L : List Int) (n : Nat) (k : Int) (w : World) (e : Ending) (w' : World) : Prop := ∃ q c, e = .returned (.tuple #[.slice q n c, .int .i64 k]) ∧ At intE w' q L ∧ Below w.heap.size w w'
theorem ListR.give {L : List Int} {k : Int} {w : World} {e : Ending} {w' : World} (h : ListR L k w e w') {n : Nat} (hn : L.length = n) : ListG L n k w e w' := by
  obtain ⟨v, rfl, hO, hB⟩ := h
  obtain ⟨q, c, rfl, hc, hA, _, _⟩ := hO.form
  subst hn
  exact ⟨q, c, rfl, hA, hB⟩
theorem ex_fillA : fillA [3, 2, 2, 5] 1 6 = ([1, 3, 4], [3, 2, 2, 1, 0], [10, 1, 16, 0, 0], 0) := by decide +kernel
theorem ex_fillB : fillA [7] 1 6 = ([], [], [], 21) := by decide +kernel
theorem ex_fillC : fillA [] 1 6 = ([], [0], [0], 0) := by decide +kernel
theorem ex_greedyA : greedyA [3, 2, 2, 5] 1 6 = ([2, 3, 4], 0) := by decide +kernel
theorem ex_costA : costA [3, 2, 2, 5] 1 6 [2, 3, 4] = (3, 16, 0) := by decide +kernel
theorem ex_costB : costA [3, 2, 2, 5] 1 6 [1, 4] = (0, 0, 21) := by decide +kernel
theorem ex_costC : costA [3, 2, 2, 5] 1 6 [1, 3] = (0, 0, 5) := by decide +kernel
/-- Small numbers. -/
def Few (l : List Int) : Prop := ∀ x ∈ l, -9223372036854775808 ≤ x ∧ x ≤ 9223372036854775807
instance (l : List Int) : Decidable (Few l) := inferInstanceAs (Decidable (∀ x ∈ l, _ ∧ _))
def ThreeG (a b k : Int) (w : World) (e : Ending) (w' : World) : Prop := e = .returned (.tuple #[.int .i64 a, .int .i64 b, .int .i64 k]) ∧ Below w.heap.size w w'

set_option maxHeartbeats 8000000 in
set_option maxRecDepth 100000 in
theorem lives_any (w : World) : Calls Try.prog 17 #[] w (Told w true) := by
  have F1 : Few [3, 2, 2, 5] := by decide
  have HFi := Lib.hid (fun (q : Option Addr) (V : World) (h : At intE V q [3, 2, 2, 5]) => (show Calls Try.prog 10 #[.slice q 4 4, .int .i64 1, .int .i64 6] V (CertG [1, 3, 4] [3, 2, 2, 1, 0] [10, 1, 16, 0, 0] 3 5 5 0 V) from by
    have := fill_any q [3, 2, 2, 5] 4 4 rfl 1 6 V (h.ints F1)
    rw [ex_fillA] at this
    exact this.mono (fun _ _ h => h.give rfl rfl rfl (by omega) (by omega) (by omega))))
  have HF7 := Lib.hid (fun (q : Option Addr) (V : World) (h : At intE V q [7]) => (show Calls Try.prog 10 #[.slice q 1 1, .int .i64 1, .int .i64 6] V (CertG [] [] [] 0 0 0 21 V) from by
    have := fill_any q [7] 1 1 rfl 1 6 V (h.ints (by decide))
    rw [ex_fillB] at this
    exact this.mono (fun _ _ h => h.give rfl rfl rfl (by omega) (by omega) (by omega))))
  have HF0 := Lib.hid (fun (V : World) => (show Calls Try.prog 10 #[.slice none 0 0, .int .i64 1, .int .i64 6] V (CertG [] [0] [0] 0 1 1 0 V) from by
    have := fill_any none [] 0 0 rfl 1 6 V (fun h => absurd rfl h)
    rw [ex_fillC] at this
    exact this.mono (fun _ _ h => h.give rfl rfl rfl (by omega) (by omega) (by omega))))
  have HGr := Lib.hid (fun (q : Option Addr) (V : World) (h : At intE V q [3, 2, 2, 5]) => (show Calls Try.prog 12 #[.slice q 4 4, .int .i64 1, .int .i64 6] V (ListG [2, 3, 4] 3 0 V) from by
    have := greedy_any q [3, 2, 2, 5] 4 4 rfl 1 6 V (h.ints F1)
    rw [ex_greedyA] at this
    exact this.mono (fun _ _ h => h.give rfl)))
  have HC1 := Lib.hid (fun (q q2 : Option Addr) (V : World) (h : At intE V q [3, 2, 2, 5]) (h2 : At intE V q2 [2, 3, 4]) => (show Calls Try.prog 20 #[.slice q 4 4, .int .i64 1, .int .i64 6, .slice q2 3 3] V (ThreeG 3 16 0 V) from by
    have := cost_any q [3, 2, 2, 5] 4 4 rfl 1 6 q2 [2, 3, 4] 3 3 rfl (by omega) V (h.ints F1) (h2.ints (by decide))
    rw [ex_costA] at this
    exact this))
  have HC2 := Lib.hid (fun (q q2 : Option Addr) (V : World) (h : At intE V q [3, 2, 2, 5]) (h2 : At intE V q2 [1, 4]) => (show Calls Try.prog 20 #[.slice q 4 4, .int .i64 1, .int .i64 6, .slice q2 2 2] V (ThreeG 0 0 21 V) from by
    have := cost_any q [3, 2, 2, 5] 4 4 rfl 1 6 q2 [1, 4] 2 2 rfl (by omega) V (h.ints F1) (h2.ints (by decide))
    rw [ex_costB] at this
    exact this))
  have HC3 := Lib.hid (fun (q q2 : Option Addr) (V : World) (h : At intE V q [3, 2, 2, 5]) (h2 : At intE V q2 [1, 3]) => (show Calls Try.prog 20 #[.slice q 4 4, .int .i64 1, .int .i64 6, .slice q2 2 2] V (ThreeG 0 0 5 V) from by
    have := cost_any q [3, 2, 2, 5] 4 4 rfl 1 6 q2 [1, 3] 2 2 rfl (by omega) V (h.ints F1) (h2.ints (by decide))
    rw [ex_costC] at this
    exact this))
  have HCk := Lib.hid (fun (q qe ql qc : Option Addr) (ce cl cc : Nat) (V : World) (h : At intE V q [3, 2, 2, 5]) (h2 : CtAt V qe 3 ql 5 qc 5 [1, 3, 4] [3, 2, 2, 1, 0] [10, 1, 16, 0, 0]) => (show Calls Try.prog 22 #[.slice q 4 4, .int .i64 1, .int .i64 6, .agg #[.slice qe 3 ce, .slice ql 5 cl, .slice qc 5 cc]] V (IntR 0 V) from by
    have := chk_any q [3, 2, 2, 5] 4 4 rfl 1 6 qe [1, 3, 4] [3, 2, 2, 1, 0] [10, 1, 16, 0, 0] 3 ce rfl (by omega) ql 5 cl qc 5 cc rfl rfl V (h.ints F1) (h2.2.2.2.2.2.2.1.ints (by decide)) (h2.2.2.2.2.2.2.2.1.ints (by decide)) (h2.2.2.2.2.2.2.2.2.ints (by decide))
    rw [chk_lives] at this
    exact this))
  go_enter Try.func17, Try.ntmps17
  go_upto_region 2 with (fail)
  have A0 : At intE (w.alloc (.cells #[.int .i64 3, .int .i64 2, .int .i64 2, .int .i64 5] 3)) (some ⟨w.heap.size, 0, none⟩) [3, 2, 2, 5] := at_new intE w _ _ rfl
  have X0 : Below w.heap.size w (w.alloc (.cells #[.int .i64 3, .int .i64 2, .int .i64 2, .int .i64 5] 3)) := (Below.refl _ _).alloc (Nat.le_refl _) _
  generalize World.alloc w _ = W0 at A0 X0 ⊢
  obtain ⟨g, hg⟩ : ∃ g, w.heap.size = g := ⟨_, rfl⟩
  rw [hg] at A0
  rw [hg]
  clear hg
  have HFi := Lib.hid (HFi.out (some ⟨g, 0, none⟩) W0 A0)
  go_upto_region 3 with (first
    | (go_at_call 10; refine HFi.out.mono ?_; rintro en W1 ⟨qe, ql, qc, ce, cl, cc, rfl, hCt, hB1⟩)
    | (refine store_blk rfl 28 (.tmp 2) (.tmp 25) rfl (blk_new W1 28 zeroCt.toArray) rfl rfl (vs := [.slice qe 3 ce, .slice ql 5 cl, .slice qc 5 cc]) (m := 3) (by kernel_rfl) rfl rfl (by intro v hv; simp at hv; rcases hv with rfl | rfl | rfl <;> rfl) ?_; intro W2 K2 O2))
  try simp only [zP, zQ, zS, zZ, zC]
  have X2 : Below W1.heap.size W1 W2 := O2.2.2 _ _ (Nat.le_refl _) ((Below.refl _ _).alloc (Nat.le_refl _) _)
  obtain ⟨cb, hcb⟩ : ∃ g, W1.heap.size = g := ⟨_, rfl⟩
  rw [hcb] at K2
  rw [hcb]
  have A2 := Lib.hid (fun (V : World) (h : Below W2.heap.size W2 V) => ((A0.keep hB1).keep X2).keep h)
  have CT := Lib.hid (fun (V : World) (h : Below W2.heap.size W2 V) => (hCt.keep X2).keep h)
  have CB := Lib.hid (fun (V : World) (h : Below W2.heap.size W2 V) => (by have := (K2.keep h).range 0 3; exact this : V.rangeAt cb 0 [.slice qe 3 ce, .slice ql 5 cl, .slice qc 5 cc]))
  have XB := Lib.hid (link (link X0 hB1) X2)
  clear K2 O2 X2 hB1 X0 A0 hCt hcb HFi
  have hA := A2.out W2 (Below.refl _ _)
  have HGr := Lib.hid (HGr.out (some ⟨g, 0, none⟩) W2 hA)
  clear hA
  go_upto_region 4 with (go_at_call 12; refine HGr.out.mono ?_; rintro en W3 ⟨qg, cg, rfl, hG, hB⟩)
  have HG := Lib.hid (fun (V : World) (h : Below W3.heap.size W3 V) => hG.keep h)
  have HB3 := Lib.hid hB
  clear hG HGr
  have al : ∀ (V : World) (o : Obj), Below V.heap.size V (V.alloc o) := fun V o => (Below.refl _ _).alloc (Nat.le_refl _) _
  go_upto_region 5 with (go_at_call 20; refine (HC1.out (some ⟨g, 0, none⟩) (some ⟨W3.heap.size, 0, none⟩) _ (A2.out _ (link hB (al W3 _))) (at_new intE W3 _ _ rfl)).mono ?_; rintro en W4 ⟨rfl, hB4⟩; replace hB4 := link (al W3 _) hB4; replace hB := link hB hB4)
  go_upto_region 6 with (go_at_call 20; refine (HC2.out (some ⟨g, 0, none⟩) (some ⟨W4.heap.size, 0, none⟩) _ (A2.out _ (link hB (al W4 _))) (at_new intE W4 _ _ rfl)).mono ?_; rintro en W5 ⟨rfl, hB5⟩; replace hB5 := link hB4 (link (al W4 _) hB5); replace hB := link HB3.out hB5)
  go_upto_region 7 with (go_at_call 20; refine (HC3.out (some ⟨g, 0, none⟩) (some ⟨W5.heap.size, 0, none⟩) _ (A2.out _ (link hB (al W5 _))) (at_new intE W5 _ _ rfl)).mono ?_; rintro en W6 ⟨rfl, hB6⟩; replace hB6 := link hB5 (link (al W5 _) hB6); replace hB := link HB3.out hB6)
  clear HC1 HC2 HC3 hB4 hB5
  go_upto_region 8 with (first
    | (go_at_call 10; refine (HF7.out (some ⟨W6.heap.size, 0, none⟩) _ (at_new intE W6 _ _ rfl)).mono ?_; rintro en W7 ⟨q1, q2, q3, c1, c2, c3, rfl, _, hB7⟩)
    | (refine store_blk rfl 28 (.tmp 15) (.tmp 56) rfl (blk_new W7 28 zeroCt.toArray) rfl rfl (vs := [.slice q1 0 c1, .slice q2 0 c2, .slice q3 0 c3]) (m := 3) (by kernel_rfl) rfl rfl (by intro v hv; simp at hv; rcases hv with rfl | rfl | rfl <;> rfl) ?_; intro W8 K8 O8))
  try simp only [zP, zQ, zS, zZ, zC]
  have X8 : Below W7.heap.size W7 W8 := O8.2.2 _ _ (Nat.le_refl _) ((Below.refl _ _).alloc (Nat.le_refl _) _)
  have hB8 := link hB6 (link (al W6 _) (link hB7 X8))
  clear K8 O8 X8 hB7 hB6 HF7
  go_upto_region 9 with (first
    | (go_at_call 10; refine (HF0.out W8).mono ?_; rintro en W9 ⟨qe2, ql2, qc2, ce2, cl2, cc2, rfl, hCt2, hB9⟩)
    | (refine store_blk rfl 28 (.tmp 17) (.tmp 60) rfl (blk_new W9 28 zeroCt.toArray) rfl rfl (vs := [.slice qe2 0 ce2, .slice ql2 1 cl2, .slice qc2 1 cc2]) (m := 3) (by kernel_rfl) rfl rfl (by intro v hv; simp at hv; rcases hv with rfl | rfl | rfl <;> rfl) ?_; intro W10 K10 O10))
  try simp only [zP, zQ, zS, zZ, zC]
  have X10 : Below W9.heap.size W9 W10 := O10.2.2 _ _ (Nat.le_refl _) ((Below.refl _ _).alloc (Nat.le_refl _) _)
  obtain ⟨nb, hnb⟩ : ∃ g, W9.heap.size = g := ⟨_, rfl⟩
  rw [hnb] at K10
  rw [hnb]
  have hB10 := link hB8 (link hB9 X10)
  have CT2 := Lib.hid (fun (V : World) (h : Below W10.heap.size W10 V) => (hCt2.keep X10).keep h)
  have CB2 := Lib.hid (fun (V : World) (h : Below W10.heap.size W10 V) => (by have := (K10.keep h).range 0 3; exact this : V.rangeAt nb 0 [.slice qe2 0 ce2, .slice ql2 1 cl2, .slice qc2 1 cc2]))
  clear K10 O10 hB8 hB9 X10 hCt2 hnb HF0
  go_upto_region 10 with (fail)
  have E1 : At intE (W10.alloc (.cells #[.int .i64 1, .int .i64 3, .int .i64 4] 3)) (some ⟨W10.heap.size, 0, none⟩) [1, 3, 4] := at_new intE W10 _ _ rfl
  have Y1 := al W10 (.cells #[.int .i64 1, .int .i64 3, .int .i64 4] 3)
  have s1 : (W10.alloc (.cells #[.int .i64 1, .int .i64 3, .int .i64 4] 3)).heap.size = W10.heap.size + 1 := World.size_alloc _ _
  generalize W10.alloc (.cells #[.int .i64 1, .int .i64 3, .int .i64 4] 3) = U1 at E1 Y1 s1 ⊢
  have E2 : At intE (U1.alloc (.cells #[.int .i64 3, .int .i64 2, .int .i64 2, .int .i64 1, .int .i64 0] 3)) (some ⟨U1.heap.size, 0, none⟩) [3, 2, 2, 1, 0] := at_new intE U1 _ _ rfl
  rw [s1] at E2
  have Y2 := al U1 (.cells #[.int .i64 3, .int .i64 2, .int .i64 2, .int .i64 1, .int .i64 0] 3)
  have s2 : (U1.alloc (.cells #[.int .i64 3, .int .i64 2, .int .i64 2, .int .i64 1, .int .i64 0] 3)).heap.size = W10.heap.size + 1 + 1 := by rw [World.size_alloc, s1]
  generalize U1.alloc (.cells #[.int .i64 3, .int .i64 2, .int .i64 2, .int .i64 1, .int .i64 0] 3) = U2 at E2 Y2 s2 ⊢
  have E3 : At intE (U2.alloc (.cells #[.int .i64 10, .int .i64 1, .int .i64 16, .int .i64 0, .int .i64 0] 3)) (some ⟨U2.heap.size, 0, none⟩) [10, 1, 16, 0, 0] := at_new intE U2 _ _ rfl
  rw [s2] at E3
  have Y3 := al U2 (.cells #[.int .i64 10, .int .i64 1, .int .i64 16, .int .i64 0, .int .i64 0] 3)
  have s3 : (U2.alloc (.cells #[.int .i64 10, .int .i64 1, .int .i64 16, .int .i64 0, .int .i64 0] 3)).heap.size = W10.heap.size + 1 + 1 + 1 := by rw [World.size_alloc, s2]
  generalize U2.alloc (.cells #[.int .i64 10, .int .i64 1, .int .i64 16, .int .i64 0, .int .i64 0] 3) = U3 at E3 Y3 s3 ⊢
  have K4 := blk_new U3 32 #[.slice (some ⟨W10.heap.size, 0, none⟩) 3 3, .slice (some ⟨W10.heap.size + 1, 0, none⟩) 5 5, .slice (some ⟨W10.heap.size + 1 + 1, 0, none⟩) 5 5]
  rw [s3] at K4
  have Y4 := al U3 (.cells #[.slice (some ⟨W10.heap.size, 0, none⟩) 3 3, .slice (some ⟨W10.heap.size + 1, 0, none⟩) 5 5, .slice (some ⟨W10.heap.size + 1 + 1, 0, none⟩) 5 5] 32)
  generalize U3.alloc (.cells #[.slice (some ⟨W10.heap.size, 0, none⟩) 3 3, .slice (some ⟨W10.heap.size + 1, 0, none⟩) 5 5, .slice (some ⟨W10.heap.size + 1 + 1, 0, none⟩) 5 5] 32) = Z0 at K4 Y4 ⊢
  generalize W10.heap.size + 1 + 1 + 1 = rb at K4 ⊢
  generalize W10.heap.size + 1 + 1 = p3 at E3 K4 ⊢
  generalize W10.heap.size + 1 = p2 at E2 K4 ⊢
  have Y5 := link (link (link Y1 Y2) Y3) Y4
  have HY5 := Lib.hid Y5
  have HY3 := Lib.hid (link hB10 Y5)
  have HY2 := Lib.hid (link HB3.out (link hB10 Y5))
  clear Y5
  generalize W10.heap.size = p1 at E1 K4 ⊢
  have CTR := Lib.hid (fun (V : World) (h : Below Z0.heap.size Z0 V) => (show CtAt V (some ⟨p1, 0, none⟩) 3 (some ⟨p2, 0, none⟩) 5 (some ⟨p3, 0, none⟩) 5 [1, 3, 4] [3, 2, 2, 1, 0] [10, 1, 16, 0, 0] from ⟨rfl, rfl, rfl, by omega, by omega, by omega, (((E1.keep Y2).keep Y3).keep Y4).keep h, ((E2.keep Y3).keep Y4).keep h, (E3.keep Y4).keep h⟩))
  have CBR := Lib.hid (fun (V : World) (h : Below Z0.heap.size Z0 V) => (by have := (K4.keep h).range 0 3; exact this : V.rangeAt rb 0 [.slice (some ⟨p1, 0, none⟩) 3 3, .slice (some ⟨p2, 0, none⟩) 5 5, .slice (some ⟨p3, 0, none⟩) 5 5]))
  clear E1 E2 E3 K4 Y1 Y2 Y3 Y4 s1 s2 s3 hB
  have h2 := Below.refl Z0.heap.size Z0
  go_upto_region 11 with (fail)
  refine wp_region_held_drew (S := fun w' => Below Z0.heap.size Z0 w') (by kernel_rfl) (below_drew (Below.refl _ _)) (fun _ => ?_)
  have hHeld : Below Z0.heap.size Z0 Z0.drew := below_drew (Below.refl _ _)
  generalize Z0.drew = V0 at hHeld ⊢
  refine wt (i := 0) (oi := ⟨some 92, .move (.tmp 20), 4, "law.go:35", #[], none⟩) (v := .bool true) (Or.inl ⟨by rfl, fun w' hSw => by go_simp⟩) hHeld ?_
  try simp only [zP, zQ, zS, zZ, zC]
  refine wt (i := 1) (oi := ⟨some 93, .move (.tmp 92), 4, "law.go:35", #[⟨0, .data⟩], none⟩) (v := .bool true) (Or.inl ⟨by rfl, fun w' hSw => by go_simp⟩) hHeld ?_
  try simp only [zP, zQ, zS, zZ, zC]
  refine wt (i := 2) (oi := ⟨some 94, .load 28 (.tmp 2), 28, "law.go:35", #[⟨1, .guard⟩], some (1, true)⟩) (v := _) (yieldsIf_load_mid (by rfl) _ _ rfl cb (0) rfl [.slice qe 3 ce, .slice ql 5 cl, .slice qc 5 cc] _ (fun w' hSw => CB.out w' (link HY2.out hSw)) Try.underlying28 rfl (by kernel_rfl)) hHeld ?_
  try simp only [zP, zQ, zS, zZ, zC]
  refine wt (i := 4) (oi := ⟨some 96, .load 32 (.tmp 19), 32, "law.go:35", #[⟨1, .guard⟩], some (1, true)⟩) (v := _) (yieldsIf_load_mid (by rfl) _ _ rfl rb (0) rfl [.slice (some ⟨p1, 0, none⟩) 3 3, .slice (some ⟨p2, 0, none⟩) 5 5, .slice (some ⟨p3, 0, none⟩) 5 5] _ (fun w' hSw => CBR.out w' hSw) Try.underlying32 rfl (by kernel_rfl)) hHeld ?_
  try simp only [zP, zQ, zS, zZ, zC]
  refine wpAnyH_ready (rs := [3]) (by kernel_rfl) (by simp) ?_
  refine AllReadyH.cons (o := ⟨some 95, .call { callee := .value (.func 15), args := #[.tmp 94], argTypes := #[28] }, 32, "law.go:35", #[⟨2, .data⟩, ⟨1, .chain⟩, ⟨1, .guard⟩], some (1, true)⟩) rfl (fun K hK => ?_) AllReadyH.nil
  rw [if_pos (by rfl)]
  go_simp
  refine (plain_any qe 3 ce ql 5 cl qc 5 cc V0).mono ?_
  rintro en V1 ⟨rfl, hB9⟩
  dsimp only
  refine hK.out _ _ (link hHeld hB9) (fun hHeld => ?_)
  clear hK K
  try simp only [zP, zQ, zS, zZ, zC]
  clear hB9
  refine wpAnyH_ready (rs := [5]) (by kernel_rfl) (by simp) ?_
  refine AllReadyH.cons (o := ⟨some 97, .call { callee := .value (.func 14), args := #[.tmp 95, .tmp 96], argTypes := #[32, 32] }, 4, "law.go:35", #[⟨3, .data⟩, ⟨4, .data⟩, ⟨3, .chain⟩, ⟨1, .guard⟩], some (1, true)⟩) rfl (fun K hK => ?_) AllReadyH.nil
  rw [if_pos (by rfl)]
  go_simp
  refine (same_self qe 3 ce ql 5 cl qc 5 cc (some ⟨p1, 0, none⟩) 3 3 (some ⟨p2, 0, none⟩) 5 5 (some ⟨p3, 0, none⟩) 5 5 _ _ _ V1 (CT.out V1 (link HY2.out hHeld)) (CTR.out V1 hHeld)).mono ?_
  rintro en V2 ⟨rfl, hB9⟩
  dsimp only
  refine hK.out _ _ (link hHeld hB9) (fun hHeld => ?_)
  clear hK K
  try simp only [zP, zQ, zS, zZ, zC]
  clear hB9
  refine wt (i := 6) (oi := ⟨some 98, .pick (.tmp 93) (.tmp 97) (.const (Value.bool false)), 4, "law.go:35", #[⟨1, .data⟩, ⟨5, .data⟩], none⟩) (v := .bool true) (Or.inl ⟨by rfl, fun w' hSw => by go_simp⟩) hHeld ?_
  try simp only [zP, zQ, zS, zZ, zC]
  refine wt (i := 7) (oi := ⟨some 99, .move (.tmp 98), 4, "law.go:35", #[⟨6, .data⟩, ⟨5, .chain⟩], none⟩) (v := .bool true) (Or.inl ⟨by rfl, fun w' hSw => by go_simp⟩) hHeld ?_
  try simp only [zP, zQ, zS, zZ, zC]
  refine wt (i := 8) (oi := ⟨some 100, .move (.tmp 4), 22, "law.go:35", #[⟨7, .guard⟩], some (7, true)⟩) (v := .slice qg 3 cg) (Or.inl ⟨by rfl, fun w' hSw => by go_simp⟩) hHeld ?_
  try simp only [zP, zQ, zS, zZ, zC]
  refine wpAnyH_ready (rs := [9]) (by kernel_rfl) (by simp) ?_
  refine AllReadyH.cons (o := ⟨some 101, .buildSlice 22 3 #[(0, .const (Value.int IntKind.i64 2)), (1, .const (Value.int IntKind.i64 3)), (2, .const (Value.int IntKind.i64 4))], 22, "law.go:35", #[⟨7, .guard⟩], some (7, true)⟩) rfl (fun K hK => ?_) AllReadyH.nil
  rw [if_pos (by rfl)]
  go_simp
  have G2 : At intE (World.alloc V2 (.cells #[.int .i64 2, .int .i64 3, .int .i64 4] 3)) (some ⟨V2.heap.size, 0, none⟩) [2, 3, 4] := at_new intE V2 _ _ rfl
  have X : Below V2.heap.size V2 (World.alloc V2 (.cells #[.int .i64 2, .int .i64 3, .int .i64 4] 3)) := (Below.refl _ _).alloc (Nat.le_refl _) _
  refine hK.out _ _ (link hHeld X) (fun hHeld => ?_)
  clear hK K
  try simp only [zP, zQ, zS, zZ, zC]
  clear X
  generalize World.alloc V2 _ = V3 at G2 hHeld ⊢
  generalize V2.heap.size = G2b at G2 ⊢
  refine wpAnyH_ready (rs := [10]) (by kernel_rfl) (by simp) ?_
  refine AllReadyH.cons (o := ⟨some 102, .call { callee := .value (.func 16), args := #[.tmp 100, .tmp 101], argTypes := #[22, 22] }, 4, "law.go:35", #[⟨8, .data⟩, ⟨9, .data⟩, ⟨7, .chain⟩, ⟨7, .guard⟩], some (7, true)⟩) rfl (fun K hK => ?_) AllReadyH.nil
  rw [if_pos (by rfl)]
  go_simp
  refine (sameInts_refl [2, 3, 4] qg _ 3 cg 3 rfl (by omega) V3 (HG.out V3 (link HY3.out hHeld)) G2).mono ?_
  rintro en V4 ⟨rfl, hB9⟩
  dsimp only
  refine hK.out _ _ (link hHeld hB9) (fun hHeld => ?_)
  clear hK K
  try simp only [zP, zQ, zS, zZ, zC]
  clear hB9
  refine wt (i := 11) (oi := ⟨some 103, .pick (.tmp 99) (.tmp 102) (.const (Value.bool false)), 4, "law.go:35", #[⟨7, .data⟩, ⟨10, .data⟩], none⟩) (v := .bool true) (Or.inl ⟨by rfl, fun w' hSw => by go_simp⟩) hHeld ?_
  try simp only [zP, zQ, zS, zZ, zC]
  refine wt (i := 12) (oi := ⟨some 104, .move (.tmp 103), 4, "law.go:35", #[⟨11, .data⟩, ⟨10, .chain⟩], none⟩) (v := .bool true) (Or.inl ⟨by rfl, fun w' hSw => by go_simp⟩) hHeld ?_
  try simp only [zP, zQ, zS, zZ, zC]
  refine wt (i := 13) (oi := ⟨some 105, .move (.tmp 6), 3, "law.go:35", #[⟨12, .guard⟩], some (12, true)⟩) (v := .int .i64 3) (Or.inl ⟨by rfl, fun w' hSw => by go_simp⟩) hHeld ?_
  try simp only [zP, zQ, zS, zZ, zC]
  refine wt (i := 14) (oi := ⟨some 106, .binOp .eql 3 (.tmp 105) (.const (Value.int IntKind.i64 3)) 3, 4, "law.go:35", #[⟨13, .data⟩, ⟨12, .guard⟩], some (12, true)⟩) (v := .bool true) (Or.inl ⟨by rfl, fun w' hSw => by go_simp⟩) hHeld ?_
  try simp only [zP, zQ, zS, zZ, zC]
  refine wt (i := 15) (oi := ⟨some 107, .pick (.tmp 104) (.tmp 106) (.const (Value.bool false)), 4, "law.go:35", #[⟨12, .data⟩, ⟨14, .data⟩], none⟩) (v := .bool true) (Or.inl ⟨by rfl, fun w' hSw => by go_simp⟩) hHeld ?_
  try simp only [zP, zQ, zS, zZ, zC]
  refine wt (i := 16) (oi := ⟨some 108, .move (.tmp 107), 4, "law.go:35", #[⟨15, .data⟩, ⟨12, .chain⟩], none⟩) (v := .bool true) (Or.inl ⟨by rfl, fun w' hSw => by go_simp⟩) hHeld ?_
  try simp only [zP, zQ, zS, zZ, zC]
  refine wt (i := 17) (oi := ⟨some 109, .move (.tmp 7), 3, "law.go:35", #[⟨16, .guard⟩], some (16, true)⟩) (v := .int .i64 16) (Or.inl ⟨by rfl, fun w' hSw => by go_simp⟩) hHeld ?_
  try simp only [zP, zQ, zS, zZ, zC]
  refine wt (i := 18) (oi := ⟨some 110, .binOp .eql 3 (.tmp 109) (.const (Value.int IntKind.i64 16)) 3, 4, "law.go:35", #[⟨17, .data⟩, ⟨16, .guard⟩], some (16, true)⟩) (v := .bool true) (Or.inl ⟨by rfl, fun w' hSw => by go_simp⟩) hHeld ?_
  try simp only [zP, zQ, zS, zZ, zC]
  refine wt (i := 19) (oi := ⟨some 111, .pick (.tmp 108) (.tmp 110) (.const (Value.bool false)), 4, "law.go:35", #[⟨16, .data⟩, ⟨18, .data⟩], none⟩) (v := .bool true) (Or.inl ⟨by rfl, fun w' hSw => by go_simp⟩) hHeld ?_
  try simp only [zP, zQ, zS, zZ, zC]
  refine wt (i := 20) (oi := ⟨some 112, .move (.tmp 111), 4, "law.go:35", #[⟨19, .data⟩, ⟨16, .chain⟩], none⟩) (v := .bool true) (Or.inl ⟨by rfl, fun w' hSw => by go_simp⟩) hHeld ?_
  try simp only [zP, zQ, zS, zZ, zC]
  refine wt (i := 21) (oi := ⟨some 113, .load 28 (.tmp 17), 28, "law.go:35", #[⟨20, .guard⟩], some (20, true)⟩) (v := _) (yieldsIf_load_mid (by rfl) _ _ rfl nb (0) rfl [.slice qe2 0 ce2, .slice ql2 1 cl2, .slice qc2 1 cc2] _ (fun w' hSw => CB2.out w' (link HY5.out hSw)) Try.underlying28 rfl (by kernel_rfl)) hHeld ?_
  try simp only [zP, zQ, zS, zZ, zC]
  refine wpAnyH_ready (rs := [22, 23, 24]) (by kernel_rfl) (by simp) ?_
  refine AllReadyH.cons (o := ⟨some 114, .call { callee := .value (.func 15), args := #[.tmp 113], argTypes := #[28] }, 32, "law.go:35", #[⟨21, .data⟩, ⟨20, .chain⟩, ⟨20, .guard⟩], some (20, true)⟩) rfl (fun K hK => ?_) (AllReadyH.cons (o := ⟨some 115, .buildSlice 22 1 #[(0, .const (Value.int IntKind.i64 0))], 22, "law.go:35", #[⟨20, .guard⟩], some (20, true)⟩) rfl (fun K hK => ?_) (AllReadyH.cons (o := ⟨some 116, .buildSlice 22 1 #[(0, .const (Value.int IntKind.i64 0))], 22, "law.go:35", #[⟨20, .guard⟩], some (20, true)⟩) rfl (fun K hK => ?_) AllReadyH.nil))
  · skip
    rw [if_pos (by rfl)]
    go_simp
    refine (plain_any qe2 0 ce2 ql2 1 cl2 qc2 1 cc2 V4).mono ?_
    rintro en V5 ⟨rfl, hB9⟩
    dsimp only
    refine hK.out _ _ (link hHeld hB9) (fun hHeld => ?_)
    clear hK K
    try simp only [zP, zQ, zS, zZ, zC]
    clear hB9
    refine wpAnyH_ready (rs := [23, 24]) (by kernel_rfl) (by simp) ?_
    refine AllReadyH.cons (o := ⟨some 115, .buildSlice 22 1 #[(0, .const (Value.int IntKind.i64 0))], 22, "law.go:35", #[⟨20, .guard⟩], some (20, true)⟩) rfl (fun K hK => ?_) (AllReadyH.cons (o := ⟨some 116, .buildSlice 22 1 #[(0, .const (Value.int IntKind.i64 0))], 22, "law.go:35", #[⟨20, .guard⟩], some (20, true)⟩) rfl (fun K hK => ?_) AllReadyH.nil)
    · skip
      rw [if_pos (by rfl)]
      go_simp
      have E5 : At intE (World.alloc V5 (.cells #[.int .i64 0] 3)) (some ⟨V5.heap.size, 0, none⟩) [0] := at_new intE V5 _ _ rfl
      have X : Below V5.heap.size V5 (World.alloc V5 (.cells #[.int .i64 0] 3)) := (Below.refl _ _).alloc (Nat.le_refl _) _
      refine hK.out _ _ (link hHeld X) (fun hHeld => ?_)
      clear hK K
      try simp only [zP, zQ, zS, zZ, zC]
      clear X
      generalize World.alloc V5 _ = V6 at E5 hHeld ⊢
      generalize V5.heap.size = E5b at E5 ⊢
      refine wpAnyH_ready (rs := [24]) (by kernel_rfl) (by simp) ?_
      refine AllReadyH.cons (o := ⟨some 116, .buildSlice 22 1 #[(0, .const (Value.int IntKind.i64 0))], 22, "law.go:35", #[⟨20, .guard⟩], some (20, true)⟩) rfl (fun K hK => ?_) AllReadyH.nil
      rw [if_pos (by rfl)]
      go_simp
      have E6 : At intE (World.alloc V6 (.cells #[.int .i64 0] 3)) (some ⟨V6.heap.size, 0, none⟩) [0] := at_new intE V6 _ _ rfl
      have X : Below V6.heap.size V6 (World.alloc V6 (.cells #[.int .i64 0] 3)) := (Below.refl _ _).alloc (Nat.le_refl _) _
      replace E5 := E5.keep X
      refine hK.out _ _ (link hHeld X) (fun hHeld => ?_)
      clear hK K
      try simp only [zP, zQ, zS, zZ, zC]
      clear X
      generalize World.alloc V6 _ = V7 at E6 E5 hHeld ⊢
      generalize V6.heap.size = E6b at E6 ⊢
      refine wt (i := 25) (oi := ⟨some 117, .build 32 #[(1, .tmp 115), (2, .tmp 116)], 32, "law.go:35", #[⟨23, .data⟩, ⟨24, .data⟩, ⟨20, .guard⟩], some (20, true)⟩) (v := .agg #[.slice none 0 0, .slice (some ⟨E5b, 0, none⟩) 1 1, .slice (some ⟨E6b, 0, none⟩) 1 1]) (Or.inl ⟨by rfl, fun w' hSw => by go_simp⟩) hHeld ?_
      try simp only [zP, zQ, zS, zZ, zC]
      refine wpAnyH_ready (rs := [26]) (by kernel_rfl) (by simp) ?_
      refine AllReadyH.cons (o := ⟨some 118, .call { callee := .value (.func 14), args := #[.tmp 114, .tmp 117], argTypes := #[32, 32] }, 4, "law.go:35", #[⟨22, .data⟩, ⟨25, .data⟩, ⟨22, .chain⟩, ⟨20, .guard⟩], some (20, true)⟩) rfl (fun K hK => ?_) AllReadyH.nil
      rw [if_pos (by rfl)]
      go_simp
      refine (same_self qe2 0 ce2 ql2 1 cl2 qc2 1 cc2 none 0 0 (some ⟨E5b, 0, none⟩) 1 1 (some ⟨E6b, 0, none⟩) 1 1 [] [0] [0] V7 (CT2.out V7 (link HY5.out hHeld)) ⟨rfl, rfl, rfl, by omega, by omega, by omega, fun h => absurd rfl h, E5, E6⟩).mono ?_
      rintro en V8 ⟨rfl, hB9⟩
      dsimp only
      refine hK.out _ _ (link hHeld hB9) (fun hHeld => ?_)
      clear hK K
      try simp only [zP, zQ, zS, zZ, zC]
      clear hB9
      refine wt (i := 27) (oi := ⟨some 119, .pick (.tmp 112) (.tmp 118) (.const (Value.bool false)), 4, "law.go:35", #[⟨20, .data⟩, ⟨26, .data⟩], none⟩) (v := .bool true) (Or.inl ⟨by rfl, fun w' hSw => by go_simp⟩) hHeld ?_
      try simp only [zP, zQ, zS, zZ, zC]
      refine wt (i := 28) (oi := ⟨some 120, .move (.tmp 119), 4, "law.go:35", #[⟨27, .data⟩, ⟨26, .chain⟩], none⟩) (v := .bool true) (Or.inl ⟨by rfl, fun w' hSw => by go_simp⟩) hHeld ?_
      try simp only [zP, zQ, zS, zZ, zC]
      refine wt (i := 29) (oi := ⟨some 121, .move (.tmp 1), 22, "law.go:35", #[⟨28, .guard⟩], some (28, true)⟩) (v := .slice (some ⟨g, 0, none⟩) 4 4) (Or.inl ⟨by rfl, fun w' hSw => by go_simp⟩) hHeld ?_
      try simp only [zP, zQ, zS, zZ, zC]
      refine wt (i := 30) (oi := ⟨some 122, .load 28 (.tmp 2), 28, "law.go:35", #[⟨28, .guard⟩], some (28, true)⟩) (v := _) (yieldsIf_load_mid (by rfl) _ _ rfl cb (0) rfl [.slice qe 3 ce, .slice ql 5 cl, .slice qc 5 cc] _ (fun w' hSw => CB.out w' (link HY2.out hSw)) Try.underlying28 rfl (by kernel_rfl)) hHeld ?_
      try simp only [zP, zQ, zS, zZ, zC]
      refine wpAnyH_ready (rs := [31]) (by kernel_rfl) (by simp) ?_
      refine AllReadyH.cons (o := ⟨some 123, .call { callee := .value (.func 22), args := #[.tmp 121, .const (Value.int IntKind.i64 1), .const (Value.int IntKind.i64 6), .tmp 122], argTypes := #[22, 3, 3, 28] }, 29, "law.go:35", #[⟨29, .data⟩, ⟨30, .data⟩, ⟨28, .chain⟩, ⟨28, .guard⟩], some (28, true)⟩) rfl (fun K hK => ?_) AllReadyH.nil
      rw [if_pos (by rfl)]
      go_simp
      refine (HCk.out (some ⟨g, 0, none⟩) qe ql qc ce cl cc V8 (A2.out V8 (link HY2.out hHeld)) (CT.out V8 (link HY2.out hHeld))).mono ?_
      rintro en V9 ⟨rfl, hB9⟩
      dsimp only
      refine hK.out _ _ (link hHeld hB9) (fun hHeld => ?_)
      clear hK K
      try simp only [zP, zQ, zS, zZ, zC]
      clear hB9
      refine wt (i := 32) (oi := ⟨some 124, .binOp .eql 29 (.tmp 123) (.const (Value.int IntKind.i64 0)) 29, 4, "law.go:35", #[⟨31, .data⟩, ⟨28, .guard⟩], some (28, true)⟩) (v := .bool true) (Or.inl ⟨by rfl, fun w' hSw => by go_simp⟩) hHeld ?_
      try simp only [zP, zQ, zS, zZ, zC]
      refine wt (i := 33) (oi := ⟨some 125, .pick (.tmp 120) (.tmp 124) (.const (Value.bool false)), 4, "law.go:35", #[⟨28, .data⟩, ⟨32, .data⟩], none⟩) (v := .bool true) (Or.inl ⟨by rfl, fun w' hSw => by go_simp⟩) hHeld ?_
      try simp only [zP, zQ, zS, zZ, zC]
      refine wpAnyH_ready (rs := [34]) (by kernel_rfl) (by simp) ?_
      refine AllReadyH.cons (o := ⟨some 0, .assign (.tmp 125), 4, "law.go:35", #[⟨33, .data⟩, ⟨31, .chain⟩, ⟨0, .phase⟩, ⟨1, .phase⟩, ⟨2, .phase⟩, ⟨3, .phase⟩, ⟨4, .phase⟩, ⟨5, .phase⟩, ⟨6, .phase⟩, ⟨7, .phase⟩, ⟨8, .phase⟩, ⟨9, .phase⟩, ⟨10, .phase⟩, ⟨11, .phase⟩, ⟨12, .phase⟩, ⟨13, .phase⟩, ⟨14, .phase⟩, ⟨15, .phase⟩, ⟨16, .phase⟩, ⟨17, .phase⟩, ⟨18, .phase⟩, ⟨19, .phase⟩, ⟨20, .phase⟩, ⟨21, .phase⟩, ⟨22, .phase⟩, ⟨23, .phase⟩, ⟨24, .phase⟩, ⟨25, .phase⟩, ⟨26, .phase⟩, ⟨27, .phase⟩, ⟨28, .phase⟩, ⟨29, .phase⟩, ⟨30, .phase⟩, ⟨31, .phase⟩, ⟨32, .phase⟩, ⟨33, .phase⟩], none⟩) rfl (fun K hK => ?_) AllReadyH.nil
      go_simp
      refine hK.out _ _ (hHeld) (fun hHeld => ?_)
      clear hK K
      try simp only [zP, zQ, zS, zZ, zC]
      refine wpAnyH_done (by kernel_rfl) ?_ _
      have BX := hHeld
      clear hHeld 
      go_wp2
      go_ret
      exact ⟨rfl, link XB.out (link HY2.out BX)⟩
    · skip
      rw [if_pos (by rfl)]
      go_simp
      have E6 : At intE (World.alloc V5 (.cells #[.int .i64 0] 3)) (some ⟨V5.heap.size, 0, none⟩) [0] := at_new intE V5 _ _ rfl
      have X : Below V5.heap.size V5 (World.alloc V5 (.cells #[.int .i64 0] 3)) := (Below.refl _ _).alloc (Nat.le_refl _) _
      refine hK.out _ _ (link hHeld X) (fun hHeld => ?_)
      clear hK K
      try simp only [zP, zQ, zS, zZ, zC]
      clear X
      generalize World.alloc V5 _ = V6 at E6 hHeld ⊢
      generalize V5.heap.size = E6b at E6 ⊢
      refine wpAnyH_ready (rs := [23]) (by kernel_rfl) (by simp) ?_
      refine AllReadyH.cons (o := ⟨some 115, .buildSlice 22 1 #[(0, .const (Value.int IntKind.i64 0))], 22, "law.go:35", #[⟨20, .guard⟩], some (20, true)⟩) rfl (fun K hK => ?_) AllReadyH.nil
      rw [if_pos (by rfl)]
      go_simp
      have E5 : At intE (World.alloc V6 (.cells #[.int .i64 0] 3)) (some ⟨V6.heap.size, 0, none⟩) [0] := at_new intE V6 _ _ rfl
      have X : Below V6.heap.size V6 (World.alloc V6 (.cells #[.int .i64 0] 3)) := (Below.refl _ _).alloc (Nat.le_refl _) _
      replace E6 := E6.keep X
      refine hK.out _ _ (link hHeld X) (fun hHeld => ?_)
      clear hK K
      try simp only [zP, zQ, zS, zZ, zC]
      clear X
      generalize World.alloc V6 _ = V7 at E5 E6 hHeld ⊢
      generalize V6.heap.size = E5b at E5 ⊢
      refine wt (i := 25) (oi := ⟨some 117, .build 32 #[(1, .tmp 115), (2, .tmp 116)], 32, "law.go:35", #[⟨23, .data⟩, ⟨24, .data⟩, ⟨20, .guard⟩], some (20, true)⟩) (v := .agg #[.slice none 0 0, .slice (some ⟨E5b, 0, none⟩) 1 1, .slice (some ⟨E6b, 0, none⟩) 1 1]) (Or.inl ⟨by rfl, fun w' hSw => by go_simp⟩) hHeld ?_
      try simp only [zP, zQ, zS, zZ, zC]
      refine wpAnyH_ready (rs := [26]) (by kernel_rfl) (by simp) ?_
      refine AllReadyH.cons (o := ⟨some 118, .call { callee := .value (.func 14), args := #[.tmp 114, .tmp 117], argTypes := #[32, 32] }, 4, "law.go:35", #[⟨22, .data⟩, ⟨25, .data⟩, ⟨22, .chain⟩, ⟨20, .guard⟩], some (20, true)⟩) rfl (fun K hK => ?_) AllReadyH.nil
      rw [if_pos (by rfl)]
      go_simp
      refine (same_self qe2 0 ce2 ql2 1 cl2 qc2 1 cc2 none 0 0 (some ⟨E5b, 0, none⟩) 1 1 (some ⟨E6b, 0, none⟩) 1 1 [] [0] [0] V7 (CT2.out V7 (link HY5.out hHeld)) ⟨rfl, rfl, rfl, by omega, by omega, by omega, fun h => absurd rfl h, E5, E6⟩).mono ?_
      rintro en V8 ⟨rfl, hB9⟩
      dsimp only
      refine hK.out _ _ (link hHeld hB9) (fun hHeld => ?_)
      clear hK K
      try simp only [zP, zQ, zS, zZ, zC]
      clear hB9
      refine wt (i := 27) (oi := ⟨some 119, .pick (.tmp 112) (.tmp 118) (.const (Value.bool false)), 4, "law.go:35", #[⟨20, .data⟩, ⟨26, .data⟩], none⟩) (v := .bool true) (Or.inl ⟨by rfl, fun w' hSw => by go_simp⟩) hHeld ?_
      try simp only [zP, zQ, zS, zZ, zC]
      refine wt (i := 28) (oi := ⟨some 120, .move (.tmp 119), 4, "law.go:35", #[⟨27, .data⟩, ⟨26, .chain⟩], none⟩) (v := .bool true) (Or.inl ⟨by rfl, fun w' hSw => by go_simp⟩) hHeld ?_
      try simp only [zP, zQ, zS, zZ, zC]
      refine wt (i := 29) (oi := ⟨some 121, .move (.tmp 1), 22, "law.go:35", #[⟨28, .guard⟩], some (28, true)⟩) (v := .slice (some ⟨g, 0, none⟩) 4 4) (Or.inl ⟨by rfl, fun w' hSw => by go_simp⟩) hHeld ?_
      try simp only [zP, zQ, zS, zZ, zC]
      refine wt (i := 30) (oi := ⟨some 122, .load 28 (.tmp 2), 28, "law.go:35", #[⟨28, .guard⟩], some (28, true)⟩) (v := _) (yieldsIf_load_mid (by rfl) _ _ rfl cb (0) rfl [.slice qe 3 ce, .slice ql 5 cl, .slice qc 5 cc] _ (fun w' hSw => CB.out w' (link HY2.out hSw)) Try.underlying28 rfl (by kernel_rfl)) hHeld ?_
      try simp only [zP, zQ, zS, zZ, zC]
      refine wpAnyH_ready (rs := [31]) (by kernel_rfl) (by simp) ?_
      refine AllReadyH.cons (o := ⟨some 123, .call { callee := .value (.func 22), args := #[.tmp 121, .const (Value.int IntKind.i64 1), .const (Value.int IntKind.i64 6), .tmp 122], argTypes := #[22, 3, 3, 28] }, 29, "law.go:35", #[⟨29, .data⟩, ⟨30, .data⟩, ⟨28, .chain⟩, ⟨28, .guard⟩], some (28, true)⟩) rfl (fun K hK => ?_) AllReadyH.nil
      rw [if_pos (by rfl)]
      go_simp
      refine (HCk.out (some ⟨g, 0, none⟩) qe ql qc ce cl cc V8 (A2.out V8 (link HY2.out hHeld)) (CT.out V8 (link HY2.out hHeld))).mono ?_
      rintro en V9 ⟨rfl, hB9⟩
      dsimp only
      refine hK.out _ _ (link hHeld hB9) (fun hHeld => ?_)
      clear hK K
      try simp only [zP, zQ, zS, zZ, zC]
      clear hB9
      refine wt (i := 32) (oi := ⟨some 124, .binOp .eql 29 (.tmp 123) (.const (Value.int IntKind.i64 0)) 29, 4, "law.go:35", #[⟨31, .data⟩, ⟨28, .guard⟩], some (28, true)⟩) (v := .bool true) (Or.inl ⟨by rfl, fun w' hSw => by go_simp⟩) hHeld ?_
      try simp only [zP, zQ, zS, zZ, zC]
      refine wt (i := 33) (oi := ⟨some 125, .pick (.tmp 120) (.tmp 124) (.const (Value.bool false)), 4, "law.go:35", #[⟨28, .data⟩, ⟨32, .data⟩], none⟩) (v := .bool true) (Or.inl ⟨by rfl, fun w' hSw => by go_simp⟩) hHeld ?_
      try simp only [zP, zQ, zS, zZ, zC]
      refine wpAnyH_ready (rs := [34]) (by kernel_rfl) (by simp) ?_
      refine AllReadyH.cons (o := ⟨some 0, .assign (.tmp 125), 4, "law.go:35", #[⟨33, .data⟩, ⟨31, .chain⟩, ⟨0, .phase⟩, ⟨1, .phase⟩, ⟨2, .phase⟩, ⟨3, .phase⟩, ⟨4, .phase⟩, ⟨5, .phase⟩, ⟨6, .phase⟩, ⟨7, .phase⟩, ⟨8, .phase⟩, ⟨9, .phase⟩, ⟨10, .phase⟩, ⟨11, .phase⟩, ⟨12, .phase⟩, ⟨13, .phase⟩, ⟨14, .phase⟩, ⟨15, .phase⟩, ⟨16, .phase⟩, ⟨17, .phase⟩, ⟨18, .phase⟩, ⟨19, .phase⟩, ⟨20, .phase⟩, ⟨21, .phase⟩, ⟨22, .phase⟩, ⟨23, .phase⟩, ⟨24, .phase⟩, ⟨25, .phase⟩, ⟨26, .phase⟩, ⟨27, .phase⟩, ⟨28, .phase⟩, ⟨29, .phase⟩, ⟨30, .phase⟩, ⟨31, .phase⟩, ⟨32, .phase⟩, ⟨33, .phase⟩], none⟩) rfl (fun K hK => ?_) AllReadyH.nil
      go_simp
      refine hK.out _ _ (hHeld) (fun hHeld => ?_)
      clear hK K
      try simp only [zP, zQ, zS, zZ, zC]
      refine wpAnyH_done (by kernel_rfl) ?_ _
      have BX := hHeld
      clear hHeld 
      go_wp2
      go_ret
      exact ⟨rfl, link XB.out (link HY2.out BX)⟩
  · skip
    rw [if_pos (by rfl)]
    go_simp
    have E5 : At intE (World.alloc V4 (.cells #[.int .i64 0] 3)) (some ⟨V4.heap.size, 0, none⟩) [0] := at_new intE V4 _ _ rfl
    have X : Below V4.heap.size V4 (World.alloc V4 (.cells #[.int .i64 0] 3)) := (Below.refl _ _).alloc (Nat.le_refl _) _
    refine hK.out _ _ (link hHeld X) (fun hHeld => ?_)
    clear hK K
    try simp only [zP, zQ, zS, zZ, zC]
    clear X
    generalize World.alloc V4 _ = V5 at E5 hHeld ⊢
    generalize V4.heap.size = E5b at E5 ⊢
    refine wpAnyH_ready (rs := [22, 24]) (by kernel_rfl) (by simp) ?_
    refine AllReadyH.cons (o := ⟨some 114, .call { callee := .value (.func 15), args := #[.tmp 113], argTypes := #[28] }, 32, "law.go:35", #[⟨21, .data⟩, ⟨20, .chain⟩, ⟨20, .guard⟩], some (20, true)⟩) rfl (fun K hK => ?_) (AllReadyH.cons (o := ⟨some 116, .buildSlice 22 1 #[(0, .const (Value.int IntKind.i64 0))], 22, "law.go:35", #[⟨20, .guard⟩], some (20, true)⟩) rfl (fun K hK => ?_) AllReadyH.nil)
    · skip
      rw [if_pos (by rfl)]
      go_simp
      refine (plain_any qe2 0 ce2 ql2 1 cl2 qc2 1 cc2 V5).mono ?_
      rintro en V6 ⟨rfl, hB9⟩
      dsimp only
      replace E5 := E5.keep hB9
      refine hK.out _ _ (link hHeld hB9) (fun hHeld => ?_)
      clear hK K
      try simp only [zP, zQ, zS, zZ, zC]
      clear hB9
      refine wpAnyH_ready (rs := [24]) (by kernel_rfl) (by simp) ?_
      refine AllReadyH.cons (o := ⟨some 116, .buildSlice 22 1 #[(0, .const (Value.int IntKind.i64 0))], 22, "law.go:35", #[⟨20, .guard⟩], some (20, true)⟩) rfl (fun K hK => ?_) AllReadyH.nil
      rw [if_pos (by rfl)]
      go_simp
      have E6 : At intE (World.alloc V6 (.cells #[.int .i64 0] 3)) (some ⟨V6.heap.size, 0, none⟩) [0] := at_new intE V6 _ _ rfl
      have X : Below V6.heap.size V6 (World.alloc V6 (.cells #[.int .i64 0] 3)) := (Below.refl _ _).alloc (Nat.le_refl _) _
      replace E5 := E5.keep X
      refine hK.out _ _ (link hHeld X) (fun hHeld => ?_)
      clear hK K
      try simp only [zP, zQ, zS, zZ, zC]
      clear X
      generalize World.alloc V6 _ = V7 at E6 E5 hHeld ⊢
      generalize V6.heap.size = E6b at E6 ⊢
      refine wt (i := 25) (oi := ⟨some 117, .build 32 #[(1, .tmp 115), (2, .tmp 116)], 32, "law.go:35", #[⟨23, .data⟩, ⟨24, .data⟩, ⟨20, .guard⟩], some (20, true)⟩) (v := .agg #[.slice none 0 0, .slice (some ⟨E5b, 0, none⟩) 1 1, .slice (some ⟨E6b, 0, none⟩) 1 1]) (Or.inl ⟨by rfl, fun w' hSw => by go_simp⟩) hHeld ?_
      try simp only [zP, zQ, zS, zZ, zC]
      refine wpAnyH_ready (rs := [26]) (by kernel_rfl) (by simp) ?_
      refine AllReadyH.cons (o := ⟨some 118, .call { callee := .value (.func 14), args := #[.tmp 114, .tmp 117], argTypes := #[32, 32] }, 4, "law.go:35", #[⟨22, .data⟩, ⟨25, .data⟩, ⟨22, .chain⟩, ⟨20, .guard⟩], some (20, true)⟩) rfl (fun K hK => ?_) AllReadyH.nil
      rw [if_pos (by rfl)]
      go_simp
      refine (same_self qe2 0 ce2 ql2 1 cl2 qc2 1 cc2 none 0 0 (some ⟨E5b, 0, none⟩) 1 1 (some ⟨E6b, 0, none⟩) 1 1 [] [0] [0] V7 (CT2.out V7 (link HY5.out hHeld)) ⟨rfl, rfl, rfl, by omega, by omega, by omega, fun h => absurd rfl h, E5, E6⟩).mono ?_
      rintro en V8 ⟨rfl, hB9⟩
      dsimp only
      refine hK.out _ _ (link hHeld hB9) (fun hHeld => ?_)
      clear hK K
      try simp only [zP, zQ, zS, zZ, zC]
      clear hB9
      refine wt (i := 27) (oi := ⟨some 119, .pick (.tmp 112) (.tmp 118) (.const (Value.bool false)), 4, "law.go:35", #[⟨20, .data⟩, ⟨26, .data⟩], none⟩) (v := .bool true) (Or.inl ⟨by rfl, fun w' hSw => by go_simp⟩) hHeld ?_
      try simp only [zP, zQ, zS, zZ, zC]
      refine wt (i := 28) (oi := ⟨some 120, .move (.tmp 119), 4, "law.go:35", #[⟨27, .data⟩, ⟨26, .chain⟩], none⟩) (v := .bool true) (Or.inl ⟨by rfl, fun w' hSw => by go_simp⟩) hHeld ?_
      try simp only [zP, zQ, zS, zZ, zC]
      refine wt (i := 29) (oi := ⟨some 121, .move (.tmp 1), 22, "law.go:35", #[⟨28, .guard⟩], some (28, true)⟩) (v := .slice (some ⟨g, 0, none⟩) 4 4) (Or.inl ⟨by rfl, fun w' hSw => by go_simp⟩) hHeld ?_
      try simp only [zP, zQ, zS, zZ, zC]
      refine wt (i := 30) (oi := ⟨some 122, .load 28 (.tmp 2), 28, "law.go:35", #[⟨28, .guard⟩], some (28, true)⟩) (v := _) (yieldsIf_load_mid (by rfl) _ _ rfl cb (0) rfl [.slice qe 3 ce, .slice ql 5 cl, .slice qc 5 cc] _ (fun w' hSw => CB.out w' (link HY2.out hSw)) Try.underlying28 rfl (by kernel_rfl)) hHeld ?_
      try simp only [zP, zQ, zS, zZ, zC]
      refine wpAnyH_ready (rs := [31]) (by kernel_rfl) (by simp) ?_
      refine AllReadyH.cons (o := ⟨some 123, .call { callee := .value (.func 22), args := #[.tmp 121, .const (Value.int IntKind.i64 1), .const (Value.int IntKind.i64 6), .tmp 122], argTypes := #[22, 3, 3, 28] }, 29, "law.go:35", #[⟨29, .data⟩, ⟨30, .data⟩, ⟨28, .chain⟩, ⟨28, .guard⟩], some (28, true)⟩) rfl (fun K hK => ?_) AllReadyH.nil
      rw [if_pos (by rfl)]
      go_simp
      refine (HCk.out (some ⟨g, 0, none⟩) qe ql qc ce cl cc V8 (A2.out V8 (link HY2.out hHeld)) (CT.out V8 (link HY2.out hHeld))).mono ?_
      rintro en V9 ⟨rfl, hB9⟩
      dsimp only
      refine hK.out _ _ (link hHeld hB9) (fun hHeld => ?_)
      clear hK K
      try simp only [zP, zQ, zS, zZ, zC]
      clear hB9
      refine wt (i := 32) (oi := ⟨some 124, .binOp .eql 29 (.tmp 123) (.const (Value.int IntKind.i64 0)) 29, 4, "law.go:35", #[⟨31, .data⟩, ⟨28, .guard⟩], some (28, true)⟩) (v := .bool true) (Or.inl ⟨by rfl, fun w' hSw => by go_simp⟩) hHeld ?_
      try simp only [zP, zQ, zS, zZ, zC]
      refine wt (i := 33) (oi := ⟨some 125, .pick (.tmp 120) (.tmp 124) (.const (Value.bool false)), 4, "law.go:35", #[⟨28, .data⟩, ⟨32, .data⟩], none⟩) (v := .bool true) (Or.inl ⟨by rfl, fun w' hSw => by go_simp⟩) hHeld ?_
      try simp only [zP, zQ, zS, zZ, zC]
      refine wpAnyH_ready (rs := [34]) (by kernel_rfl) (by simp) ?_
      refine AllReadyH.cons (o := ⟨some 0, .assign (.tmp 125), 4, "law.go:35", #[⟨33, .data⟩, ⟨31, .chain⟩, ⟨0, .phase⟩, ⟨1, .phase⟩, ⟨2, .phase⟩, ⟨3, .phase⟩, ⟨4, .phase⟩, ⟨5, .phase⟩, ⟨6, .phase⟩, ⟨7, .phase⟩, ⟨8, .phase⟩, ⟨9, .phase⟩, ⟨10, .phase⟩, ⟨11, .phase⟩, ⟨12, .phase⟩, ⟨13, .phase⟩, ⟨14, .phase⟩, ⟨15, .phase⟩, ⟨16, .phase⟩, ⟨17, .phase⟩, ⟨18, .phase⟩, ⟨19, .phase⟩, ⟨20, .phase⟩, ⟨21, .phase⟩, ⟨22, .phase⟩, ⟨23, .phase⟩, ⟨24, .phase⟩, ⟨25, .phase⟩, ⟨26, .phase⟩, ⟨27, .phase⟩, ⟨28, .phase⟩, ⟨29, .phase⟩, ⟨30, .phase⟩, ⟨31, .phase⟩, ⟨32, .phase⟩, ⟨33, .phase⟩], none⟩) rfl (fun K hK => ?_) AllReadyH.nil
      go_simp
      refine hK.out _ _ (hHeld) (fun hHeld => ?_)
      clear hK K
      try simp only [zP, zQ, zS, zZ, zC]
      refine wpAnyH_done (by kernel_rfl) ?_ _
      have BX := hHeld
      clear hHeld 
      go_wp2
      go_ret
      exact ⟨rfl, link XB.out (link HY2.out BX)⟩
    · skip
      rw [if_pos (by rfl)]
      go_simp
      have E6 : At intE (World.alloc V5 (.cells #[.int .i64 0] 3)) (some ⟨V5.heap.size, 0, none⟩) [0] := at_new intE V5 _ _ rfl
      have X : Below V5.heap.size V5 (World.alloc V5 (.cells #[.int .i64 0] 3)) := (Below.refl _ _).alloc (Nat.le_refl _) _
      replace E5 := E5.keep X
      refine hK.out _ _ (link hHeld X) (fun hHeld => ?_)
      clear hK K
      try simp only [zP, zQ, zS, zZ, zC]
      clear X
      generalize World.alloc V5 _ = V6 at E6 E5 hHeld ⊢
      generalize V5.heap.size = E6b at E6 ⊢
      refine wt (i := 25) (oi := ⟨some 117, .build 32 #[(1, .tmp 115), (2, .tmp 116)], 32, "law.go:35", #[⟨23, .data⟩, ⟨24, .data⟩, ⟨20, .guard⟩], some (20, true)⟩) (v := .agg #[.slice none 0 0, .slice (some ⟨E5b, 0, none⟩) 1 1, .slice (some ⟨E6b, 0, none⟩) 1 1]) (Or.inl ⟨by rfl, fun w' hSw => by go_simp⟩) hHeld ?_
      try simp only [zP, zQ, zS, zZ, zC]
      refine wpAnyH_ready (rs := [22]) (by kernel_rfl) (by simp) ?_
      refine AllReadyH.cons (o := ⟨some 114, .call { callee := .value (.func 15), args := #[.tmp 113], argTypes := #[28] }, 32, "law.go:35", #[⟨21, .data⟩, ⟨20, .chain⟩, ⟨20, .guard⟩], some (20, true)⟩) rfl (fun K hK => ?_) AllReadyH.nil
      rw [if_pos (by rfl)]
      go_simp
      refine (plain_any qe2 0 ce2 ql2 1 cl2 qc2 1 cc2 V6).mono ?_
      rintro en V7 ⟨rfl, hB9⟩
      dsimp only
      replace E5 := E5.keep hB9
      replace E6 := E6.keep hB9
      refine hK.out _ _ (link hHeld hB9) (fun hHeld => ?_)
      clear hK K
      try simp only [zP, zQ, zS, zZ, zC]
      clear hB9
      refine wpAnyH_ready (rs := [26]) (by kernel_rfl) (by simp) ?_
      refine AllReadyH.cons (o := ⟨some 118, .call { callee := .value (.func 14), args := #[.tmp 114, .tmp 117], argTypes := #[32, 32] }, 4, "law.go:35", #[⟨22, .data⟩, ⟨25, .data⟩, ⟨22, .chain⟩, ⟨20, .guard⟩], some (20, true)⟩) rfl (fun K hK => ?_) AllReadyH.nil
      rw [if_pos (by rfl)]
      go_simp
      refine (same_self qe2 0 ce2 ql2 1 cl2 qc2 1 cc2 none 0 0 (some ⟨E5b, 0, none⟩) 1 1 (some ⟨E6b, 0, none⟩) 1 1 [] [0] [0] V7 (CT2.out V7 (link HY5.out hHeld)) ⟨rfl, rfl, rfl, by omega, by omega, by omega, fun h => absurd rfl h, E5, E6⟩).mono ?_
      rintro en V8 ⟨rfl, hB9⟩
      dsimp only
      refine hK.out _ _ (link hHeld hB9) (fun hHeld => ?_)
      clear hK K
      try simp only [zP, zQ, zS, zZ, zC]
      clear hB9
      refine wt (i := 27) (oi := ⟨some 119, .pick (.tmp 112) (.tmp 118) (.const (Value.bool false)), 4, "law.go:35", #[⟨20, .data⟩, ⟨26, .data⟩], none⟩) (v := .bool true) (Or.inl ⟨by rfl, fun w' hSw => by go_simp⟩) hHeld ?_
      try simp only [zP, zQ, zS, zZ, zC]
      refine wt (i := 28) (oi := ⟨some 120, .move (.tmp 119), 4, "law.go:35", #[⟨27, .data⟩, ⟨26, .chain⟩], none⟩) (v := .bool true) (Or.inl ⟨by rfl, fun w' hSw => by go_simp⟩) hHeld ?_
      try simp only [zP, zQ, zS, zZ, zC]
      refine wt (i := 29) (oi := ⟨some 121, .move (.tmp 1), 22, "law.go:35", #[⟨28, .guard⟩], some (28, true)⟩) (v := .slice (some ⟨g, 0, none⟩) 4 4) (Or.inl ⟨by rfl, fun w' hSw => by go_simp⟩) hHeld ?_
      try simp only [zP, zQ, zS, zZ, zC]
      refine wt (i := 30) (oi := ⟨some 122, .load 28 (.tmp 2), 28, "law.go:35", #[⟨28, .guard⟩], some (28, true)⟩) (v := _) (yieldsIf_load_mid (by rfl) _ _ rfl cb (0) rfl [.slice qe 3 ce, .slice ql 5 cl, .slice qc 5 cc] _ (fun w' hSw => CB.out w' (link HY2.out hSw)) Try.underlying28 rfl (by kernel_rfl)) hHeld ?_
      try simp only [zP, zQ, zS, zZ, zC]
      refine wpAnyH_ready (rs := [31]) (by kernel_rfl) (by simp) ?_
      refine AllReadyH.cons (o := ⟨some 123, .call { callee := .value (.func 22), args := #[.tmp 121, .const (Value.int IntKind.i64 1), .const (Value.int IntKind.i64 6), .tmp 122], argTypes := #[22, 3, 3, 28] }, 29, "law.go:35", #[⟨29, .data⟩, ⟨30, .data⟩, ⟨28, .chain⟩, ⟨28, .guard⟩], some (28, true)⟩) rfl (fun K hK => ?_) AllReadyH.nil
      rw [if_pos (by rfl)]
      go_simp
      refine (HCk.out (some ⟨g, 0, none⟩) qe ql qc ce cl cc V8 (A2.out V8 (link HY2.out hHeld)) (CT.out V8 (link HY2.out hHeld))).mono ?_
      rintro en V9 ⟨rfl, hB9⟩
      dsimp only
      refine hK.out _ _ (link hHeld hB9) (fun hHeld => ?_)
      clear hK K
      try simp only [zP, zQ, zS, zZ, zC]
      clear hB9
      refine wt (i := 32) (oi := ⟨some 124, .binOp .eql 29 (.tmp 123) (.const (Value.int IntKind.i64 0)) 29, 4, "law.go:35", #[⟨31, .data⟩, ⟨28, .guard⟩], some (28, true)⟩) (v := .bool true) (Or.inl ⟨by rfl, fun w' hSw => by go_simp⟩) hHeld ?_
      try simp only [zP, zQ, zS, zZ, zC]
      refine wt (i := 33) (oi := ⟨some 125, .pick (.tmp 120) (.tmp 124) (.const (Value.bool false)), 4, "law.go:35", #[⟨28, .data⟩, ⟨32, .data⟩], none⟩) (v := .bool true) (Or.inl ⟨by rfl, fun w' hSw => by go_simp⟩) hHeld ?_
      try simp only [zP, zQ, zS, zZ, zC]
      refine wpAnyH_ready (rs := [34]) (by kernel_rfl) (by simp) ?_
      refine AllReadyH.cons (o := ⟨some 0, .assign (.tmp 125), 4, "law.go:35", #[⟨33, .data⟩, ⟨31, .chain⟩, ⟨0, .phase⟩, ⟨1, .phase⟩, ⟨2, .phase⟩, ⟨3, .phase⟩, ⟨4, .phase⟩, ⟨5, .phase⟩, ⟨6, .phase⟩, ⟨7, .phase⟩, ⟨8, .phase⟩, ⟨9, .phase⟩, ⟨10, .phase⟩, ⟨11, .phase⟩, ⟨12, .phase⟩, ⟨13, .phase⟩, ⟨14, .phase⟩, ⟨15, .phase⟩, ⟨16, .phase⟩, ⟨17, .phase⟩, ⟨18, .phase⟩, ⟨19, .phase⟩, ⟨20, .phase⟩, ⟨21, .phase⟩, ⟨22, .phase⟩, ⟨23, .phase⟩, ⟨24, .phase⟩, ⟨25, .phase⟩, ⟨26, .phase⟩, ⟨27, .phase⟩, ⟨28, .phase⟩, ⟨29, .phase⟩, ⟨30, .phase⟩, ⟨31, .phase⟩, ⟨32, .phase⟩, ⟨33, .phase⟩], none⟩) rfl (fun K hK => ?_) AllReadyH.nil
      go_simp
      refine hK.out _ _ (hHeld) (fun hHeld => ?_)
      clear hK K
      try simp only [zP, zQ, zS, zZ, zC]
      refine wpAnyH_done (by kernel_rfl) ?_ _
      have BX := hHeld
      clear hHeld 
      go_wp2
      go_ret
      exact ⟨rfl, link XB.out (link HY2.out BX)⟩
  · skip
    rw [if_pos (by rfl)]
    go_simp
    have E6 : At intE (World.alloc V4 (.cells #[.int .i64 0] 3)) (some ⟨V4.heap.size, 0, none⟩) [0] := at_new intE V4 _ _ rfl
    have X : Below V4.heap.size V4 (World.alloc V4 (.cells #[.int .i64 0] 3)) := (Below.refl _ _).alloc (Nat.le_refl _) _
    refine hK.out _ _ (link hHeld X) (fun hHeld => ?_)
    clear hK K
    try simp only [zP, zQ, zS, zZ, zC]
    clear X
    generalize World.alloc V4 _ = V5 at E6 hHeld ⊢
    generalize V4.heap.size = E6b at E6 ⊢
    refine wpAnyH_ready (rs := [22, 23]) (by kernel_rfl) (by simp) ?_
    refine AllReadyH.cons (o := ⟨some 114, .call { callee := .value (.func 15), args := #[.tmp 113], argTypes := #[28] }, 32, "law.go:35", #[⟨21, .data⟩, ⟨20, .chain⟩, ⟨20, .guard⟩], some (20, true)⟩) rfl (fun K hK => ?_) (AllReadyH.cons (o := ⟨some 115, .buildSlice 22 1 #[(0, .const (Value.int IntKind.i64 0))], 22, "law.go:35", #[⟨20, .guard⟩], some (20, true)⟩) rfl (fun K hK => ?_) AllReadyH.nil)
    · skip
      rw [if_pos (by rfl)]
      go_simp
      refine (plain_any qe2 0 ce2 ql2 1 cl2 qc2 1 cc2 V5).mono ?_
      rintro en V6 ⟨rfl, hB9⟩
      dsimp only
      replace E6 := E6.keep hB9
      refine hK.out _ _ (link hHeld hB9) (fun hHeld => ?_)
      clear hK K
      try simp only [zP, zQ, zS, zZ, zC]
      clear hB9
      refine wpAnyH_ready (rs := [23]) (by kernel_rfl) (by simp) ?_
      refine AllReadyH.cons (o := ⟨some 115, .buildSlice 22 1 #[(0, .const (Value.int IntKind.i64 0))], 22, "law.go:35", #[⟨20, .guard⟩], some (20, true)⟩) rfl (fun K hK => ?_) AllReadyH.nil
      rw [if_pos (by rfl)]
      go_simp
      have E5 : At intE (World.alloc V6 (.cells #[.int .i64 0] 3)) (some ⟨V6.heap.size, 0, none⟩) [0] := at_new intE V6 _ _ rfl
      have X : Below V6.heap.size V6 (World.alloc V6 (.cells #[.int .i64 0] 3)) := (Below.refl _ _).alloc (Nat.le_refl _) _
      replace E6 := E6.keep X
      refine hK.out _ _ (link hHeld X) (fun hHeld => ?_)
      clear hK K
      try simp only [zP, zQ, zS, zZ, zC]
      clear X
      generalize World.alloc V6 _ = V7 at E5 E6 hHeld ⊢
      generalize V6.heap.size = E5b at E5 ⊢
      refine wt (i := 25) (oi := ⟨some 117, .build 32 #[(1, .tmp 115), (2, .tmp 116)], 32, "law.go:35", #[⟨23, .data⟩, ⟨24, .data⟩, ⟨20, .guard⟩], some (20, true)⟩) (v := .agg #[.slice none 0 0, .slice (some ⟨E5b, 0, none⟩) 1 1, .slice (some ⟨E6b, 0, none⟩) 1 1]) (Or.inl ⟨by rfl, fun w' hSw => by go_simp⟩) hHeld ?_
      try simp only [zP, zQ, zS, zZ, zC]
      refine wpAnyH_ready (rs := [26]) (by kernel_rfl) (by simp) ?_
      refine AllReadyH.cons (o := ⟨some 118, .call { callee := .value (.func 14), args := #[.tmp 114, .tmp 117], argTypes := #[32, 32] }, 4, "law.go:35", #[⟨22, .data⟩, ⟨25, .data⟩, ⟨22, .chain⟩, ⟨20, .guard⟩], some (20, true)⟩) rfl (fun K hK => ?_) AllReadyH.nil
      rw [if_pos (by rfl)]
      go_simp
      refine (same_self qe2 0 ce2 ql2 1 cl2 qc2 1 cc2 none 0 0 (some ⟨E5b, 0, none⟩) 1 1 (some ⟨E6b, 0, none⟩) 1 1 [] [0] [0] V7 (CT2.out V7 (link HY5.out hHeld)) ⟨rfl, rfl, rfl, by omega, by omega, by omega, fun h => absurd rfl h, E5, E6⟩).mono ?_
      rintro en V8 ⟨rfl, hB9⟩
      dsimp only
      refine hK.out _ _ (link hHeld hB9) (fun hHeld => ?_)
      clear hK K
      try simp only [zP, zQ, zS, zZ, zC]
      clear hB9
      refine wt (i := 27) (oi := ⟨some 119, .pick (.tmp 112) (.tmp 118) (.const (Value.bool false)), 4, "law.go:35", #[⟨20, .data⟩, ⟨26, .data⟩], none⟩) (v := .bool true) (Or.inl ⟨by rfl, fun w' hSw => by go_simp⟩) hHeld ?_
      try simp only [zP, zQ, zS, zZ, zC]
      refine wt (i := 28) (oi := ⟨some 120, .move (.tmp 119), 4, "law.go:35", #[⟨27, .data⟩, ⟨26, .chain⟩], none⟩) (v := .bool true) (Or.inl ⟨by rfl, fun w' hSw => by go_simp⟩) hHeld ?_
      try simp only [zP, zQ, zS, zZ, zC]
      refine wt (i := 29) (oi := ⟨some 121, .move (.tmp 1), 22, "law.go:35", #[⟨28, .guard⟩], some (28, true)⟩) (v := .slice (some ⟨g, 0, none⟩) 4 4) (Or.inl ⟨by rfl, fun w' hSw => by go_simp⟩) hHeld ?_
      try simp only [zP, zQ, zS, zZ, zC]
      refine wt (i := 30) (oi := ⟨some 122, .load 28 (.tmp 2), 28, "law.go:35", #[⟨28, .guard⟩], some (28, true)⟩) (v := _) (yieldsIf_load_mid (by rfl) _ _ rfl cb (0) rfl [.slice qe 3 ce, .slice ql 5 cl, .slice qc 5 cc] _ (fun w' hSw => CB.out w' (link HY2.out hSw)) Try.underlying28 rfl (by kernel_rfl)) hHeld ?_
      try simp only [zP, zQ, zS, zZ, zC]
      refine wpAnyH_ready (rs := [31]) (by kernel_rfl) (by simp) ?_
      refine AllReadyH.cons (o := ⟨some 123, .call { callee := .value (.func 22), args := #[.tmp 121, .const (Value.int IntKind.i64 1), .const (Value.int IntKind.i64 6), .tmp 122], argTypes := #[22, 3, 3, 28] }, 29, "law.go:35", #[⟨29, .data⟩, ⟨30, .data⟩, ⟨28, .chain⟩, ⟨28, .guard⟩], some (28, true)⟩) rfl (fun K hK => ?_) AllReadyH.nil
      rw [if_pos (by rfl)]
      go_simp
      refine (HCk.out (some ⟨g, 0, none⟩) qe ql qc ce cl cc V8 (A2.out V8 (link HY2.out hHeld)) (CT.out V8 (link HY2.out hHeld))).mono ?_
      rintro en V9 ⟨rfl, hB9⟩
      dsimp only
      refine hK.out _ _ (link hHeld hB9) (fun hHeld => ?_)
      clear hK K
      try simp only [zP, zQ, zS, zZ, zC]
      clear hB9
      refine wt (i := 32) (oi := ⟨some 124, .binOp .eql 29 (.tmp 123) (.const (Value.int IntKind.i64 0)) 29, 4, "law.go:35", #[⟨31, .data⟩, ⟨28, .guard⟩], some (28, true)⟩) (v := .bool true) (Or.inl ⟨by rfl, fun w' hSw => by go_simp⟩) hHeld ?_
      try simp only [zP, zQ, zS, zZ, zC]
      refine wt (i := 33) (oi := ⟨some 125, .pick (.tmp 120) (.tmp 124) (.const (Value.bool false)), 4, "law.go:35", #[⟨28, .data⟩, ⟨32, .data⟩], none⟩) (v := .bool true) (Or.inl ⟨by rfl, fun w' hSw => by go_simp⟩) hHeld ?_
      try simp only [zP, zQ, zS, zZ, zC]
      refine wpAnyH_ready (rs := [34]) (by kernel_rfl) (by simp) ?_
      refine AllReadyH.cons (o := ⟨some 0, .assign (.tmp 125), 4, "law.go:35", #[⟨33, .data⟩, ⟨31, .chain⟩, ⟨0, .phase⟩, ⟨1, .phase⟩, ⟨2, .phase⟩, ⟨3, .phase⟩, ⟨4, .phase⟩, ⟨5, .phase⟩, ⟨6, .phase⟩, ⟨7, .phase⟩, ⟨8, .phase⟩, ⟨9, .phase⟩, ⟨10, .phase⟩, ⟨11, .phase⟩, ⟨12, .phase⟩, ⟨13, .phase⟩, ⟨14, .phase⟩, ⟨15, .phase⟩, ⟨16, .phase⟩, ⟨17, .phase⟩, ⟨18, .phase⟩, ⟨19, .phase⟩, ⟨20, .phase⟩, ⟨21, .phase⟩, ⟨22, .phase⟩, ⟨23, .phase⟩, ⟨24, .phase⟩, ⟨25, .phase⟩, ⟨26, .phase⟩, ⟨27, .phase⟩, ⟨28, .phase⟩, ⟨29, .phase⟩, ⟨30, .phase⟩, ⟨31, .phase⟩, ⟨32, .phase⟩, ⟨33, .phase⟩], none⟩) rfl (fun K hK => ?_) AllReadyH.nil
      go_simp
      refine hK.out _ _ (hHeld) (fun hHeld => ?_)
      clear hK K
      try simp only [zP, zQ, zS, zZ, zC]
      refine wpAnyH_done (by kernel_rfl) ?_ _
      have BX := hHeld
      clear hHeld 
      go_wp2
      go_ret
      exact ⟨rfl, link XB.out (link HY2.out BX)⟩
    · skip
      rw [if_pos (by rfl)]
      go_simp
      have E5 : At intE (World.alloc V5 (.cells #[.int .i64 0] 3)) (some ⟨V5.heap.size, 0, none⟩) [0] := at_new intE V5 _ _ rfl
      have X : Below V5.heap.size V5 (World.alloc V5 (.cells #[.int .i64 0] 3)) := (Below.refl _ _).alloc (Nat.le_refl _) _
      replace E6 := E6.keep X
      refine hK.out _ _ (link hHeld X) (fun hHeld => ?_)
      clear hK K
      try simp only [zP, zQ, zS, zZ, zC]
      clear X
      generalize World.alloc V5 _ = V6 at E5 E6 hHeld ⊢
      generalize V5.heap.size = E5b at E5 ⊢
      refine wt (i := 25) (oi := ⟨some 117, .build 32 #[(1, .tmp 115), (2, .tmp 116)], 32, "law.go:35", #[⟨23, .data⟩, ⟨24, .data⟩, ⟨20, .guard⟩], some (20, true)⟩) (v := .agg #[.slice none 0 0, .slice (some ⟨E5b, 0, none⟩) 1 1, .slice (some ⟨E6b, 0, none⟩) 1 1]) (Or.inl ⟨by rfl, fun w' hSw => by go_simp⟩) hHeld ?_
      try simp only [zP, zQ, zS, zZ, zC]
      refine wpAnyH_ready (rs := [22]) (by kernel_rfl) (by simp) ?_
      refine AllReadyH.cons (o := ⟨some 114, .call { callee := .value (.func 15), args := #[.tmp 113], argTypes := #[28] }, 32, "law.go:35", #[⟨21, .data⟩, ⟨20, .chain⟩, ⟨20, .guard⟩], some (20, true)⟩) rfl (fun K hK => ?_) AllReadyH.nil
      rw [if_pos (by rfl)]
      go_simp
      refine (plain_any qe2 0 ce2 ql2 1 cl2 qc2 1 cc2 V6).mono ?_
      rintro en V7 ⟨rfl, hB9⟩
      dsimp only
      replace E6 := E6.keep hB9
      replace E5 := E5.keep hB9
      refine hK.out _ _ (link hHeld hB9) (fun hHeld => ?_)
      clear hK K
      try simp only [zP, zQ, zS, zZ, zC]
      clear hB9
      refine wpAnyH_ready (rs := [26]) (by kernel_rfl) (by simp) ?_
      refine AllReadyH.cons (o := ⟨some 118, .call { callee := .value (.func 14), args := #[.tmp 114, .tmp 117], argTypes := #[32, 32] }, 4, "law.go:35", #[⟨22, .data⟩, ⟨25, .data⟩, ⟨22, .chain⟩, ⟨20, .guard⟩], some (20, true)⟩) rfl (fun K hK => ?_) AllReadyH.nil
      rw [if_pos (by rfl)]
      go_simp
      refine (same_self qe2 0 ce2 ql2 1 cl2 qc2 1 cc2 none 0 0 (some ⟨E5b, 0, none⟩) 1 1 (some ⟨E6b, 0, none⟩) 1 1 [] [0] [0] V7 (CT2.out V7 (link HY5.out hHeld)) ⟨rfl, rfl, rfl, by omega, by omega, by omega, fun h => absurd rfl h, E5, E6⟩).mono ?_
      rintro en V8 ⟨rfl, hB9⟩
      dsimp only
      refine hK.out _ _ (link hHeld hB9) (fun hHeld => ?_)
      clear hK K
      try simp only [zP, zQ, zS, zZ, zC]
      clear hB9
      refine wt (i := 27) (oi := ⟨some 119, .pick (.tmp 112) (.tmp 118) (.const (Value.bool false)), 4, "law.go:35", #[⟨20, .data⟩, ⟨26, .data⟩], none⟩) (v := .bool true) (Or.inl ⟨by rfl, fun w' hSw => by go_simp⟩) hHeld ?_
      try simp only [zP, zQ, zS, zZ, zC]
      refine wt (i := 28) (oi := ⟨some 120, .move (.tmp 119), 4, "law.go:35", #[⟨27, .data⟩, ⟨26, .chain⟩], none⟩) (v := .bool true) (Or.inl ⟨by rfl, fun w' hSw => by go_simp⟩) hHeld ?_
      try simp only [zP, zQ, zS, zZ, zC]
      refine wt (i := 29) (oi := ⟨some 121, .move (.tmp 1), 22, "law.go:35", #[⟨28, .guard⟩], some (28, true)⟩) (v := .slice (some ⟨g, 0, none⟩) 4 4) (Or.inl ⟨by rfl, fun w' hSw => by go_simp⟩) hHeld ?_
      try simp only [zP, zQ, zS, zZ, zC]
      refine wt (i := 30) (oi := ⟨some 122, .load 28 (.tmp 2), 28, "law.go:35", #[⟨28, .guard⟩], some (28, true)⟩) (v := _) (yieldsIf_load_mid (by rfl) _ _ rfl cb (0) rfl [.slice qe 3 ce, .slice ql 5 cl, .slice qc 5 cc] _ (fun w' hSw => CB.out w' (link HY2.out hSw)) Try.underlying28 rfl (by kernel_rfl)) hHeld ?_
      try simp only [zP, zQ, zS, zZ, zC]
      refine wpAnyH_ready (rs := [31]) (by kernel_rfl) (by simp) ?_
      refine AllReadyH.cons (o := ⟨some 123, .call { callee := .value (.func 22), args := #[.tmp 121, .const (Value.int IntKind.i64 1), .const (Value.int IntKind.i64 6), .tmp 122], argTypes := #[22, 3, 3, 28] }, 29, "law.go:35", #[⟨29, .data⟩, ⟨30, .data⟩, ⟨28, .chain⟩, ⟨28, .guard⟩], some (28, true)⟩) rfl (fun K hK => ?_) AllReadyH.nil
      rw [if_pos (by rfl)]
      go_simp
      refine (HCk.out (some ⟨g, 0, none⟩) qe ql qc ce cl cc V8 (A2.out V8 (link HY2.out hHeld)) (CT.out V8 (link HY2.out hHeld))).mono ?_
      rintro en V9 ⟨rfl, hB9⟩
      dsimp only
      refine hK.out _ _ (link hHeld hB9) (fun hHeld => ?_)
      clear hK K
      try simp only [zP, zQ, zS, zZ, zC]
      clear hB9
      refine wt (i := 32) (oi := ⟨some 124, .binOp .eql 29 (.tmp 123) (.const (Value.int IntKind.i64 0)) 29, 4, "law.go:35", #[⟨31, .data⟩, ⟨28, .guard⟩], some (28, true)⟩) (v := .bool true) (Or.inl ⟨by rfl, fun w' hSw => by go_simp⟩) hHeld ?_
      try simp only [zP, zQ, zS, zZ, zC]
      refine wt (i := 33) (oi := ⟨some 125, .pick (.tmp 120) (.tmp 124) (.const (Value.bool false)), 4, "law.go:35", #[⟨28, .data⟩, ⟨32, .data⟩], none⟩) (v := .bool true) (Or.inl ⟨by rfl, fun w' hSw => by go_simp⟩) hHeld ?_
      try simp only [zP, zQ, zS, zZ, zC]
      refine wpAnyH_ready (rs := [34]) (by kernel_rfl) (by simp) ?_
      refine AllReadyH.cons (o := ⟨some 0, .assign (.tmp 125), 4, "law.go:35", #[⟨33, .data⟩, ⟨31, .chain⟩, ⟨0, .phase⟩, ⟨1, .phase⟩, ⟨2, .phase⟩, ⟨3, .phase⟩, ⟨4, .phase⟩, ⟨5, .phase⟩, ⟨6, .phase⟩, ⟨7, .phase⟩, ⟨8, .phase⟩, ⟨9, .phase⟩, ⟨10, .phase⟩, ⟨11, .phase⟩, ⟨12, .phase⟩, ⟨13, .phase⟩, ⟨14, .phase⟩, ⟨15, .phase⟩, ⟨16, .phase⟩, ⟨17, .phase⟩, ⟨18, .phase⟩, ⟨19, .phase⟩, ⟨20, .phase⟩, ⟨21, .phase⟩, ⟨22, .phase⟩, ⟨23, .phase⟩, ⟨24, .phase⟩, ⟨25, .phase⟩, ⟨26, .phase⟩, ⟨27, .phase⟩, ⟨28, .phase⟩, ⟨29, .phase⟩, ⟨30, .phase⟩, ⟨31, .phase⟩, ⟨32, .phase⟩, ⟨33, .phase⟩], none⟩) rfl (fun K hK => ?_) AllReadyH.nil
      go_simp
      refine hK.out _ _ (hHeld) (fun hHeld => ?_)
      clear hK K
      try simp only [zP, zQ, zS, zZ, zC]
      refine wpAnyH_done (by kernel_rfl) ?_ _
      have BX := hHeld
      clear hHeld 
      go_wp2
      go_ret
      exact ⟨rfl, link XB.out (link HY2.out BX)⟩
end Go.Proofs.Ytacdjchkilheiaa
