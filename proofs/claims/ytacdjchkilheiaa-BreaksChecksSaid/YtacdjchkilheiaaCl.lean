/-
  Same of certificates.
-/
import Derived.Test.YtacdjchkilheiaaCk
namespace Go.Proofs.Ytacdjchkilheiaa
open Go.RowKit
set_option linter.unusedVariables false
set_option linter.unusedSimpArgs false

set_option maxHeartbeats 2000000 in
set_option maxRecDepth 100000 in
theorem same_by (qe : Option Addr) (ne ce : Nat) (ql : Option Addr) (nl cl : Nat) (qc : Option Addr) (nc cc : Nat) (qe2 : Option Addr) (ne2 ce2 : Nat) (ql2 : Option Addr) (nl2 cl2 : Nat) (qc2 : Option Addr) (nc2 cc2 : Nat) (b1 b2 b3 : Bool) (w : World)
    (h1 : ∀ V, Below w.heap.size w V → Calls Try.prog 16 #[.slice qe ne ce, .slice qe2 ne2 ce2] V (Told V b1))
    (h2 : b1 = true → ∀ V, Below w.heap.size w V → Calls Try.prog 16 #[.slice ql nl cl, .slice ql2 nl2 cl2] V (Told V b2))
    (h3 : b1 = true → b2 = true → ∀ V, Below w.heap.size w V → Calls Try.prog 16 #[.slice qc nc cc, .slice qc2 nc2 cc2] V (Told V b3)) :
    Calls Try.prog 14 #[.agg #[.slice qe ne ce, .slice ql nl cl, .slice qc nc cc], .agg #[.slice qe2 ne2 ce2, .slice ql2 nl2 cl2, .slice qc2 nc2 cc2]] w (Told w (b1 && (b2 && b3))) := by
  have H1 := Lib.hid h1
  have H2 := Lib.hid h2
  have H3 := Lib.hid h3
  clear h1 h2 h3
  go_enter Try.func14, Try.ntmps14
  go_upto_region 1 with (fail)
  have Ka := blk_new w 32 #[.slice qe ne ce, .slice ql nl cl, .slice qc nc cc]
  have X0 : Below w.heap.size w (w.alloc (.cells #[.slice qe ne ce, .slice ql nl cl, .slice qc nc cc] 32)) := (Below.refl _ _).alloc (Nat.le_refl _) _
  obtain ⟨W0, hW0⟩ : ∃ W, w.alloc (.cells #[.slice qe ne ce, .slice ql nl cl, .slice qc nc cc] 32) = W := ⟨_, rfl⟩
  have hs0 : w.heap.size + 1 = W0.heap.size := by rw [← hW0, World.size_alloc]
  rw [hW0] at Ka X0
  change Code.wp _ _ _ _ ((w.alloc (.cells #[.slice qe ne ce, .slice ql nl cl, .slice qc nc cc] 32)).alloc (.cells #[.slice qe2 ne2 ce2, .slice ql2 nl2 cl2, .slice qc2 nc2 cc2] 32))
  rw [hW0]
  have Kb := blk_new W0 32 #[.slice qe2 ne2 ce2, .slice ql2 nl2 cl2, .slice qc2 nc2 cc2]
  have X1 : Below W0.heap.size W0 (W0.alloc (.cells #[.slice qe2 ne2 ce2, .slice ql2 nl2 cl2, .slice qc2 nc2 cc2] 32)) := (Below.refl _ _).alloc (Nat.le_refl _) _
  replace Ka := Ka.keep X1
  have X2 := link X0 X1
  generalize World.alloc W0 _ = W1 at Ka Kb X2 ⊢
  try rw [hs0]
  obtain ⟨pa, hpa⟩ : ∃ p, w.heap.size = p := ⟨_, rfl⟩
  obtain ⟨pb, hpb⟩ : ∃ p, W0.heap.size = p := ⟨_, rfl⟩
  rw [hpa] at Ka ⊢
  rw [hpb] at Kb ⊢
  clear hW0 hs0 X0 X1 hpa hpb
  have a0 := Ka.cell (j := 0) rfl
  have d0 := Kb.cell (j := 0) rfl
  have HC1 := Lib.hid (H1.out W1 X2)
  rcases b1 with _ | _
  · go_wp2_with (go_at_call 16; refine HC1.out.mono ?_; rintro en V2 ⟨rfl, hB2⟩)
    go_ret
    exact ⟨rfl, link X2 hB2⟩
  · rcases b2 with _ | _
    · go_wp2_with (first
        | (go_at_call_of 16 (Value.slice qe ne ce); refine HC1.out.mono ?_; rintro en V2 ⟨rfl, hB2⟩; have X3 := link X2 hB2; have a1 := (Ka.keep hB2).cell (j := 1) rfl; have d1 := (Kb.keep hB2).cell (j := 1) rfl; have HC2 := Lib.hid (H2.out (by first | rfl | trivial) V2 X3))
        | (go_at_call_of 16 (Value.slice ql nl cl); refine HC2.out.mono ?_; rintro en V3 ⟨rfl, hB3⟩))
      go_ret
      exact ⟨rfl, link X3 hB3⟩
    · go_wp2_with (first
        | (go_at_call_of 16 (Value.slice qe ne ce); refine HC1.out.mono ?_; rintro en V2 ⟨rfl, hB2⟩; have X3 := link X2 hB2; have a1 := (Ka.keep hB2).cell (j := 1) rfl; have d1 := (Kb.keep hB2).cell (j := 1) rfl; have HC2 := Lib.hid (H2.out (by first | rfl | trivial) V2 X3))
        | (go_at_call_of 16 (Value.slice ql nl cl); refine HC2.out.mono ?_; rintro en V3 ⟨rfl, hB3⟩; have X4 := link X3 hB3; have a2 := ((Ka.keep hB2).keep hB3).cell (j := 2) rfl; have d2 := ((Kb.keep hB2).keep hB3).cell (j := 2) rfl; have HC3 := Lib.hid (H3.out (by first | rfl | trivial) (by first | rfl | trivial) V3 X4))
        | (go_at_call_of 16 (Value.slice qc nc cc); refine HC3.out.mono ?_; rintro en V4 ⟨rfl, hB4⟩))
      go_ret
      exact ⟨by cases b3 <;> rfl, link X4 hB4⟩
/-- A certificate lies there. -/
def CtAt (w : World) (qe : Option Addr) (ne : Nat) (ql : Option Addr) (nl : Nat) (qc : Option Addr) (nc : Nat) (E L C : List Int) : Prop := E.length = ne ∧ L.length = nl ∧ C.length = nc ∧ ne ≤ 1000000000000 ∧ nl ≤ 1000000000000 ∧ nc ≤ 1000000000000 ∧ At intE w qe E ∧ At intE w ql L ∧ At intE w qc C
theorem CtAt.keep {w w' : World} {qe ql qc : Option Addr} {ne nl nc : Nat} {E L C : List Int} (h : CtAt w qe ne ql nl qc nc E L C) (hb : Below w.heap.size w w') : CtAt w' qe ne ql nl qc nc E L C :=
  ⟨h.1, h.2.1, h.2.2.1, h.2.2.2.1, h.2.2.2.2.1, h.2.2.2.2.2.1, h.2.2.2.2.2.2.1.keep hb, h.2.2.2.2.2.2.2.1.keep hb, h.2.2.2.2.2.2.2.2.keep hb⟩
theorem same_any (qe : Option Addr) (ne ce : Nat) (ql : Option Addr) (nl cl : Nat) (qc : Option Addr) (nc cc : Nat) (qe2 : Option Addr) (ne2 ce2 : Nat) (ql2 : Option Addr) (nl2 cl2 : Nat) (qc2 : Option Addr) (nc2 cc2 : Nat) (E L C E2 L2 C2 : List Int) (w : World) (hA : CtAt w qe ne ql nl qc nc E L C) (hB : CtAt w qe2 ne2 ql2 nl2 qc2 nc2 E2 L2 C2) :
    Calls Try.prog 14 #[.agg #[.slice qe ne ce, .slice ql nl cl, .slice qc nc cc], .agg #[.slice qe2 ne2 ce2, .slice ql2 nl2 cl2, .slice qc2 nc2 cc2]] w (Told w (decide (E = E2) && (decide (L = L2) && decide (C = C2)))) :=
  same_by qe ne ce ql nl cl qc nc cc qe2 ne2 ce2 ql2 nl2 cl2 qc2 nc2 cc2 _ _ _ w
    (fun V h => by have a := hA.keep h; have b := hB.keep h; exact sameInts_any E E2 qe qe2 ne ce ne2 ce2 a.1 b.1 a.2.2.2.1 V a.2.2.2.2.2.2.1 b.2.2.2.2.2.2.1)
    (fun _ V h => by have a := hA.keep h; have b := hB.keep h; exact sameInts_any L L2 ql ql2 nl cl nl2 cl2 a.2.1 b.2.1 a.2.2.2.2.1 V a.2.2.2.2.2.2.2.1 b.2.2.2.2.2.2.2.1)
    (fun _ _ V h => by have a := hA.keep h; have b := hB.keep h; exact sameInts_any C C2 qc qc2 nc cc nc2 cc2 a.2.2.1 b.2.2.1 a.2.2.2.2.2.1 V a.2.2.2.2.2.2.2.2 b.2.2.2.2.2.2.2.2)
theorem same_self (qe : Option Addr) (ne ce : Nat) (ql : Option Addr) (nl cl : Nat) (qc : Option Addr) (nc cc : Nat) (qe2 : Option Addr) (ne2 ce2 : Nat) (ql2 : Option Addr) (nl2 cl2 : Nat) (qc2 : Option Addr) (nc2 cc2 : Nat) (E L C : List Int) (w : World) (hA : CtAt w qe ne ql nl qc nc E L C) (hB : CtAt w qe2 ne2 ql2 nl2 qc2 nc2 E L C) :
    Calls Try.prog 14 #[.agg #[.slice qe ne ce, .slice ql nl cl, .slice qc nc cc], .agg #[.slice qe2 ne2 ce2, .slice ql2 nl2 cl2, .slice qc2 nc2 cc2]] w (Told w true) := by
  have := same_any qe ne ce ql nl cl qc nc cc qe2 ne2 ce2 ql2 nl2 cl2 qc2 nc2 cc2 E L C E L C w hA hB
  simpa using this
end Go.Proofs.Ytacdjchkilheiaa
