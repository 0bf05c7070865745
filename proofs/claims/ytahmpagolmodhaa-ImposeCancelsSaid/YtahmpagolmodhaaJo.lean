/-
  The documented examples.
-/
import Derived.Test.YtahmpagolmodhaaJh
import Derived.Test.YtahmpagolmodhaaJi
import Derived.Test.YtahmpagolmodhaaJn
import Derived.Test.YtahmpagolmodhaaIp
namespace Go.Proofs.Ytahmpagolmodhaa
open Go.RowKit
set_option linter.unusedVariables false
set_option linter.unusedSimpArgs false

theorem LstR.give {α : Type} {E : Elt α} {l : List α} {x : Int} {w w' : World} {e : Ending} (h : LstR E l x w e w') {n : Nat} (hn : l.length = n) : ∃ q c, e = .returned (.tuple #[.slice q n c, .int .i64 x]) ∧ n ≤ c ∧ At E w' q l ∧ Below w.heap.size w w' := by
  obtain ⟨v, rfl, hO, hB⟩ := h
  obtain ⟨q, c, rfl, hc, hA, _⟩ := hO.form
  subst hn
  exact ⟨q, c, rfl, hc, hA, hB⟩
def exP : List (Int × Int) := [(1, 4), (5, 8)]
def exS : List Sh := [⟨0, 8, 1, 2, 7⟩, ⟨0, 6, 3, 4, 5⟩, ⟨1, 0, 9, 10, 0⟩, ⟨1, 0, 0, 0, 0⟩]
theorem ex_quires : quiT 10 2 = exP := by decide
theorem ex_fold : foldM 10 2 = exS := by decide
theorem ex_read : (rdL exS).length = 16 ∧ rdE exS = 0 := by decide
theorem ex_leaf : leafT 7 = 4 ∧ frontT 7 = true := by decide
theorem ex_conj : conjN 10 2 4 = 1 ∧ conjE 10 2 4 = 0 ∧ conjN 10 2 6 = 7 ∧ conjE 10 2 6 = 0 ∧ conjN 10 2 9 = 0 ∧ conjE 10 2 9 = 5 := by decide
theorem ex_sheets : shsL 10 2 [4, 6, 1] = [0, 3] ∧ shsE 10 2 [4, 6, 1] = 0 := by decide
def Yes (w : World) (e : Ending) (w' : World) : Prop := e = .returned (.bool true) ∧ Below w.heap.size w w'
set_option maxHeartbeats 4000000 in
set_option maxRecDepth 100000 in
theorem lives_any (w : World) : Calls Try.prog 21 #[] w (Yes w) := by
  have CQ := Lib.hid (fun V => show Calls Try.prog 10 #[.int .i64 10, .int .i64 4] V (LstR prE exP 0 V) from by rw [← ex_quires]; exact quires_any 10 2 (by decide) (by decide) (by decide) V)
  have CF := Lib.hid (fun V => show Calls Try.prog 12 #[.int .i64 10, .int .i64 4] V (LstR shE exS 0 V) from by rw [← ex_fold]; exact fold_any 10 2 (by decide) (by decide) (by decide) V)
  have CR := Lib.hid (fun q c V (hc : 4 ≤ c) (hA : At shE V q exS) => show Calls Try.prog 22 #[.slice q 4 c] V (LstR intE (rdL exS) 0 V) from by have := read_any exS q 4 c rfl hc (by decide) V hA; rw [ex_read.2] at this; exact this)
  have CL := Lib.hid (fun V => show Calls Try.prog 26 #[.int .i64 7] V (fun e w' => e = .returned (.tuple #[.int .i64 4, .bool true]) ∧ V = w') from by have := leaf_any 7 (by decide) (by decide) V; rw [ex_leaf.1, ex_leaf.2] at this; exact this)
  have C4 := Lib.hid (fun V => show Calls Try.prog 30 #[.int .i64 10, .int .i64 4, .int .i64 4] V (fun e w' => e = .returned (.tuple #[.int .i64 1, .int .i64 0]) ∧ V = w') from by have := conj_any 10 2 4 (by decide) (by decide) (by decide) (by decide) (by decide) V; rw [ex_conj.1, ex_conj.2.1] at this; exact this)
  have C6 := Lib.hid (fun V => show Calls Try.prog 30 #[.int .i64 10, .int .i64 4, .int .i64 6] V (fun e w' => e = .returned (.tuple #[.int .i64 7, .int .i64 0]) ∧ V = w') from by have := conj_any 10 2 6 (by decide) (by decide) (by decide) (by decide) (by decide) V; rw [ex_conj.2.2.1, ex_conj.2.2.2.1] at this; exact this)
  have C9 := Lib.hid (fun V => show Calls Try.prog 30 #[.int .i64 10, .int .i64 4, .int .i64 9] V (fun e w' => e = .returned (.tuple #[.int .i64 0, .int .i64 5]) ∧ V = w') from by have := conj_any 10 2 9 (by decide) (by decide) (by decide) (by decide) (by decide) V; rw [ex_conj.2.2.2.2.1, ex_conj.2.2.2.2.2] at this; exact this)
  have CS := Lib.hid (fun q V (hA : IntsAt V q [4, 6, 1]) => show Calls Try.prog 32 #[.int .i64 10, .int .i64 4, .slice q 3 3] V (LstR intE [0, 3] 0 V) from by have := sheets_any 10 2 (by decide) (by decide) (by decide) [4, 6, 1] q 3 3 rfl (by decide) (by intro x hx; simp at hx; omega) V hA; rw [ex_sheets.1, ex_sheets.2] at this; exact this)
  go_enter Try.func21, Try.ntmps21
  go_upto_region 8 with (first
    | (go_at_call 10; refine (CQ.out _).mono ?_; intro _ w1 h1; obtain ⟨q1, c1, rfl, _, A1, B1⟩ := h1.give (n := 2) rfl)
    | (go_at_call 12; refine (CF.out _).mono ?_; intro _ w2 h2; obtain ⟨q2, c2, rfl, hc2, A2, B2⟩ := h2.give (n := 4) rfl)
    | (go_at_call 22; refine (CR.out _ _ _ hc2 A2).mono ?_; intro _ w3 h3; obtain ⟨q3, c3, rfl, _, A3, B3⟩ := h3.give ex_read.1)
    | (go_at_call 26; refine (CL.out _).mono ?_; rintro _ _ ⟨rfl, rfl⟩)
    | (go_at_call_of 30 (Value.int IntKind.i64 6); refine (C6.out _).mono ?_; rintro _ _ ⟨rfl, rfl⟩)
    | (go_at_call_of 30 (Value.int IntKind.i64 9); refine (C9.out _).mono ?_; rintro _ _ ⟨rfl, rfl⟩)
    | (go_at_call_of 30 (Value.int IntKind.i64 4); refine (C4.out _).mono ?_; rintro _ _ ⟨rfl, rfl⟩))
  have X2 := link B1 B2
  have A1 := A1.keep B2
  have A1 := A1.keep B3
  have A2 := A2.keep B3
  have X3 := link X2 B3
  clear B1 B2 B3 CQ CF CR CL C4 C6 C9
  have AL := at_new intE w3 #[.int .i64 4, .int .i64 6, .int .i64 1] [4, 6, 1] rfl
  have AL := AL.ints (by intro x hx; simp at hx; omega)
  have XL : Below w3.heap.size w3 (w3.alloc (.cells #[.int .i64 4, .int .i64 6, .int .i64 1] 3)) := (Below.refl _ _).alloc (Nat.le_refl _) _
  have A1 := A1.keep XL
  have A2 := A2.keep XL
  have X4 := link X3 XL
  go_upto_region 11 with (go_at_call 32; refine (CS.out _ _ AL).mono ?_; intro _ w4 h4; obtain ⟨q4, c4, rfl, _, A4, B4⟩ := h4.give (n := 2) rfl)
  have A1 := A1.keep B4
  have A2 := A2.keep B4
  have X5 := link X4 B4
  clear B4 CS XL X4 X3 X2 A3
  have AW := at_new srE w4 #[.int .i64 0, .int .i64 8, .int .i64 1, .int .i64 2, .int .i64 7, .int .i64 0, .int .i64 6, .int .i64 3, .int .i64 4, .int .i64 5, .int .i64 1, .int .i64 0, .int .i64 9, .int .i64 10, .int .i64 0, .int .i64 1, .int .i64 0, .int .i64 0, .int .i64 0, .int .i64 0] exS rfl
  have XW : Below w4.heap.size w4 (w4.alloc (.cells #[.int .i64 0, .int .i64 8, .int .i64 1, .int .i64 2, .int .i64 7, .int .i64 0, .int .i64 6, .int .i64 3, .int .i64 4, .int .i64 5, .int .i64 1, .int .i64 0, .int .i64 9, .int .i64 10, .int .i64 0, .int .i64 1, .int .i64 0, .int .i64 0, .int .i64 0, .int .i64 0] 69)) := (Below.refl _ _).alloc (Nat.le_refl _) _
  have A1 := A1.keep XW
  have A2 := A2.keep XW
  have A4 := A4.keep XW
  have X6 := link X5 XW
  have eW : w4.heap.size < (w4.alloc (.cells #[.int .i64 0, .int .i64 8, .int .i64 1, .int .i64 2, .int .i64 7, .int .i64 0, .int .i64 6, .int .i64 3, .int .i64 4, .int .i64 5, .int .i64 1, .int .i64 0, .int .i64 9, .int .i64 10, .int .i64 0, .int .i64 1, .int .i64 0, .int .i64 0, .int .i64 0, .int .i64 0] 69)).heap.size := by rw [World.size_alloc]; omega
  clear XW X5
  change Code.wp _ _ _ _ (w4.alloc (.cells #[.int .i64 0, .int .i64 8, .int .i64 1, .int .i64 2, .int .i64 7, .int .i64 0, .int .i64 6, .int .i64 3, .int .i64 4, .int .i64 5, .int .i64 1, .int .i64 0, .int .i64 9, .int .i64 10, .int .i64 0, .int .i64 1, .int .i64 0, .int .i64 0, .int .i64 0, .int .i64 0] 69))
  change At srE (w4.alloc (.cells #[.int .i64 0, .int .i64 8, .int .i64 1, .int .i64 2, .int .i64 7, .int .i64 0, .int .i64 6, .int .i64 3, .int .i64 4, .int .i64 5, .int .i64 1, .int .i64 0, .int .i64 9, .int .i64 10, .int .i64 0, .int .i64 1, .int .i64 0, .int .i64 0, .int .i64 0, .int .i64 0] 69)) _ _ at AW
  generalize w4.alloc (.cells #[.int .i64 0, .int .i64 8, .int .i64 1, .int .i64 2, .int .i64 7, .int .i64 0, .int .i64 6, .int .i64 3, .int .i64 4, .int .i64 5, .int .i64 1, .int .i64 0, .int .i64 9, .int .i64 10, .int .i64 0, .int .i64 1, .int .i64 0, .int .i64 0, .int .i64 0, .int .i64 0] 69) = w5 at AW A1 A2 A4 X6 eW ⊢
  have AP := at_new prE w5 #[.int .i64 1, .int .i64 4, .int .i64 5, .int .i64 8] exP rfl
  have XP : Below w5.heap.size w5 (w5.alloc (.cells #[.int .i64 1, .int .i64 4, .int .i64 5, .int .i64 8] 25)) := (Below.refl _ _).alloc (Nat.le_refl _) _
  have AW := AW.keep XP
  have A1 := A1.keep XP
  have A2 := A2.keep XP
  have A4 := A4.keep XP
  have X7 := link X6 XP
  have CP := Lib.hid (samePairs_any exP exP _ _ 2 c1 2 2 rfl rfl (by decide) _ A1 AP)
  rw [decide_eq_true (show exP = exP from rfl)] at CP
  have CPL := Lib.hid (fun q c V (hA : At shE V q exS) => plain_any exS q 4 c rfl (by decide) V hA)
  have CSS := Lib.hid (fun q c q' V (hA : At srE V q exS) (hB : At srE V q' exS) => sameSheets_any exS exS q q' 4 c 4 4 rfl rfl (by decide) V hA hB)
  rw [decide_eq_true (show exS = exS from rfl)] at CSS
  have CI := Lib.hid (fun q c q' V (hA : At intE V q [0, 3]) (hB : At intE V q' [0, 3]) => sameInts_any [0, 3] [0, 3] q q' 2 c 2 2 rfl rfl (by decide) V hA hB)
  rw [decide_eq_true (show ([0, 3] : List Int) = [0, 3] from rfl)] at CI
  go_wp2_with (first
    | (go_at_call 14; refine CP.out.mono ?_; rintro _ w6 ⟨rfl, B6⟩; have A2 := A2.keep B6; have A4 := A4.keep B6; have AW := AW.keep B6; have X8 := link X7 B6)
    | (go_at_call 16; refine (CPL.out _ _ _ A2).mono ?_; intro _ w7 h7; obtain ⟨q7, c7, rfl, _, A7, B7⟩ := h7.give (n := 4) rfl; have A4 := A4.keep B7; have AW := AW.keep B7; have X9 := link X8 B7)
    | (go_at_call 15; refine (CSS.out _ _ _ _ A7 AW).mono ?_; rintro _ w8 ⟨rfl, B8⟩; have A4 := A4.keep B8; have Xa := link X9 B8; have AI := at_new intE w8 #[.int .i64 0, .int .i64 3] [0, 3] rfl; have XI : Below w8.heap.size w8 (w8.alloc (.cells #[.int .i64 0, .int .i64 3] 3)) := (Below.refl _ _).alloc (Nat.le_refl _) _; have A4 := A4.keep XI; have Xb := link Xa XI)
    | (go_at_call 24; refine (CI.out _ _ _ _ A4 AI).mono ?_; rintro _ w9 ⟨rfl, B9⟩; have Xc := link Xb B9))
  go_ret
  exact ⟨rfl, Xc⟩
end Go.Proofs.Ytahmpagolmodhaa
