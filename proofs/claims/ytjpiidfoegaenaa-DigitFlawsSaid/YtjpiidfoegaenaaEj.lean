/-
  The documented examples.
-/
import Derived.Test.YtjpiidfoegaenaaEi
namespace Go.Proofs.Ytjpiidfoegaenaa
open Go Go.RowKit
set_option linter.unusedVariables false
set_option linter.unusedSimpArgs false

theorem ex_sum : sumT [3, 2, 1] 10 [4, 5, 6] = 8 ∧ sumE [3, 2, 1] 10 [4, 5, 6] = 0 := by decide +kernel
theorem ex_w1 : weakF [3, 1] 10 = ⟨0, 1, 0, 5⟩ ∧ weakB [3, 1] 10 = true ∧ schE [3, 1] 10 = 0 := by decide +kernel
theorem ex_w2 : weakF [3, 2] 10 = ⟨1, -1, 0, 5⟩ ∧ weakB [3, 2] 10 = true ∧ schE [3, 2] 10 = 0 := by decide +kernel
theorem ex_w3 : weakF [3, 1] 31 = ⟨0, 0, 0, 0⟩ ∧ weakB [3, 1] 31 = false ∧ schE [3, 1] 31 = 0 := by decide +kernel
theorem ex_add : addB ⟨#[65, 49]⟩ = ⟨#[65, 49, 48]⟩ ∧ addE (sb ⟨#[65, 49]⟩) = 0 := by decide +kernel
theorem ex_chk : chkS (sb ⟨#[65, 49, 48]⟩) = 0 := by decide +kernel
theorem ex_val : valT 88 = 30 ∧ valT 73 = -1 := by decide +kernel
def exN : List ByteArray := [⟨#[49, 65, 80]⟩, ⟨#[49, 85, 48]⟩, ⟨#[55, 65, 48]⟩, ⟨#[65, 49, 48]⟩]
theorem ex_found : foundT (sb ⟨#[49, 65, 48]⟩) 3 = [⟨#[55, 65, 48]⟩, ⟨#[65, 49, 48]⟩, ⟨#[49, 85, 48]⟩, ⟨#[49, 65, 80]⟩] := by decide +kernel
theorem ex_near : nearT ⟨#[49, 65, 48]⟩ = exN := by
  unfold nearT
  rw [if_pos (by decide +kernel), show (sb ⟨#[49, 65, 48]⟩).length = 3 from rfl, ex_found]
  refine comp_is ?_ ?_
  · simp only [exN, bsL, List.map_cons, List.map_nil, List.pairwise_cons, List.mem_cons, List.not_mem_nil, or_false, forall_eq_or_imp, forall_eq, SL, List.Pairwise.nil, false_implies, implies_true, and_true, true_and]
    decide +kernel
  · intro x
    simp only [exN, bsL, List.map_cons, List.map_nil, List.mem_cons, List.not_mem_nil, or_false]
    constructor <;> (intro h; rcases h with h | h | h | h <;> simp [h])
def flA (f : Fl) : Array Value := #[.int .i64 f.at_, .int .i64 f.other, .int .i64 f.old, .int .i64 f.new]
theorem equal_fl (w : World) (x y : Fl) : (Op.equalIn 10000 35 (.agg (flA x)) (.agg (flA y))).run Try.prog w = .ok (decide (x = y)) w := by
  obtain ⟨a, b, c, d⟩ := x
  obtain ⟨a', b', c', d'⟩ := y
  unfold flA
  go_simp
  by_cases h1 : a = a'
  · by_cases h2 : b = b'
    · by_cases h3 : c = c'
      · by_cases h4 : d = d'
        · simp [h1, h2, h3, h4]
        · simp [h1, h2, h3, h4]
      · simp [h1, h2, h3]
    · simp [h1, h2]
  · simp [h1]
def Yes (w : World) (e : Ending) (w' : World) : Prop := e = .returned (.bool true) ∧ Below w.heap.size w w'
set_option maxHeartbeats 4000000 in
set_option maxRecDepth 100000 in
theorem lives_any (w : World) : Calls Try.prog 16 #[] w (Yes w) := by
  have CS := Lib.hid (fun q c q2 c2 V h1 h2 => show Calls Try.prog 11 #[.slice q 3 c, .int .i64 10, .slice q2 3 c2] V (PairR 8 0 V) from by have := sum_any [3, 2, 1] [4, 5, 6] 10 q 3 c rfl (by decide) q2 3 c2 rfl (by decide) V h1 h2; rw [ex_sum.1, ex_sum.2] at this; exact this)
  have C1 := Lib.hid (fun q c V h1 => show Calls Try.prog 17 #[.slice q 2 c, .int .i64 10] V (WeakR ⟨0, 1, 0, 5⟩ true 0 V) from by have := weak_any [3, 1] 10 q 2 c rfl (by decide) V h1; rw [ex_w1.1, ex_w1.2.1, ex_w1.2.2] at this; exact this)
  have C2 := Lib.hid (fun q c V h1 => show Calls Try.prog 17 #[.slice q 2 c, .int .i64 10] V (WeakR ⟨1, -1, 0, 5⟩ true 0 V) from by have := weak_any [3, 2] 10 q 2 c rfl (by decide) V h1; rw [ex_w2.1, ex_w2.2.1, ex_w2.2.2] at this; exact this)
  have C3 := Lib.hid (fun q c V h1 => show Calls Try.prog 17 #[.slice q 2 c, .int .i64 31] V (WeakR ⟨0, 0, 0, 0⟩ false 0 V) from by have := weak_any [3, 1] 31 q 2 c rfl (by decide) V h1; rw [ex_w3.1, ex_w3.2.1, ex_w3.2.2] at this; exact this)
  have CA := Lib.hid (fun V => show Calls Try.prog 24 #[.string ⟨#[65, 49]⟩] V (StrR ⟨#[65, 49, 48]⟩ 0 V) from by have := add_any ⟨#[65, 49]⟩ (by decide) V; rw [ex_add.1, ex_add.2] at this; exact this)
  have CC := Lib.hid (fun V => show Calls Try.prog 26 #[.string ⟨#[65, 49, 48]⟩] V (IntR 0 V) from by have := chk_any ⟨#[65, 49, 48]⟩ (by decide) V; rw [ex_chk] at this; exact this)
  have V1 := Lib.hid (fun V => show Calls Try.prog 14 #[.int .u8 88] V (IntR 30 V) from by have := value_any 88 (by decide) V; rw [ex_val.1] at this; exact this)
  have V2 := Lib.hid (fun V => show Calls Try.prog 14 #[.int .u8 73] V (IntR (-1) V) from by have := value_any 73 (by decide) V; rw [ex_val.2] at this; exact this)
  have CN := Lib.hid (fun V => show Calls Try.prog 28 #[.string ⟨#[49, 65, 48]⟩] V (MadeR strE exN V) from by have := near_any ⟨#[49, 65, 48]⟩ (by decide) V; rw [ex_near] at this; exact this)
  have CT := Lib.hid (fun q c q2 c2 V h1 h2 => show Calls Try.prog 32 #[.slice q 4 c, .slice q2 4 c2] V (Told V true) from by have := sameTexts_any exN exN q q2 4 c 4 c2 rfl rfl (by decide) V h1 h2; rw [decide_eq_true rfl] at this; exact this)
  go_enter Try.func16, Try.ntmps16
  have A1 : IntsAt ((w.alloc (.cells #[.int .i64 3, .int .i64 2, .int .i64 1] 3)).alloc (.cells #[.int .i64 4, .int .i64 5, .int .i64 6] 3)) (some ⟨w.heap.size, 0, none⟩) [3, 2, 1] := ((at_new intE w #[.int .i64 3, .int .i64 2, .int .i64 1] [3, 2, 1] rfl).keep ((Below.refl _ _).alloc (Nat.le_refl _) _)).ints (by decide)
  have A2 : IntsAt ((w.alloc (.cells #[.int .i64 3, .int .i64 2, .int .i64 1] 3)).alloc (.cells #[.int .i64 4, .int .i64 5, .int .i64 6] 3)) (some ⟨w.heap.size + 1, 0, none⟩) [4, 5, 6] := by
    have := at_new intE (w.alloc (.cells #[.int .i64 3, .int .i64 2, .int .i64 1] 3)) #[.int .i64 4, .int .i64 5, .int .i64 6] [4, 5, 6] rfl
    rw [World.size_alloc] at this
    exact this.ints (by decide)
  have X1 : Below w.heap.size w ((w.alloc (.cells #[.int .i64 3, .int .i64 2, .int .i64 1] 3)).alloc (.cells #[.int .i64 4, .int .i64 5, .int .i64 6] 3)) := ((Below.refl _ _).alloc (Nat.le_refl _) _).alloc (by simp) _
  go_upto_region 2 with (go_at_call 11; refine (CS.out _ _ _ _ _ A1 A2).mono ?_; rintro _ w1 ⟨rfl, B1⟩)
  have Y1 := link X1 B1
  clear A1 A2 X1 B1 CS
  have A1 : IntsAt (w1.alloc (.cells #[.int .i64 3, .int .i64 1] 3)) (some ⟨w1.heap.size, 0, none⟩) [3, 1] := (at_new intE w1 #[.int .i64 3, .int .i64 1] [3, 1] rfl).ints (by decide)
  have X1 : Below w1.heap.size w1 (w1.alloc (.cells #[.int .i64 3, .int .i64 1] 3)) := (Below.refl _ _).alloc (Nat.le_refl _) _
  go_upto_region 3 with (go_at_call 17; refine (C1.out _ _ _ A1).mono ?_; rintro _ wx ⟨rfl, B1⟩)
  have N1 := blk_new wx 35 #[.int .i64 0, .int .i64 1, .int .i64 0, .int .i64 5]
  have Y1 := (link (link Y1 X1) B1).alloc (link (link Y1 X1) B1).size (.cells #[.int .i64 0, .int .i64 1, .int .i64 0, .int .i64 5] 35)
  have Z1 : Below wx.heap.size wx (wx.alloc (.cells #[.int .i64 0, .int .i64 1, .int .i64 0, .int .i64 5] 35)) := (Below.refl _ _).alloc (Nat.le_refl _) _
  generalize wx.alloc (.cells #[.int .i64 0, .int .i64 1, .int .i64 0, .int .i64 5] 35) = w2 at *
  generalize wx.heap.size = g3 at *
  have Ng3 := N1
  clear A1 X1 B1 N1 Z1 C1
  have A1 : IntsAt (w2.alloc (.cells #[.int .i64 3, .int .i64 2] 3)) (some ⟨w2.heap.size, 0, none⟩) [3, 2] := (at_new intE w2 #[.int .i64 3, .int .i64 2] [3, 2] rfl).ints (by decide)
  have X1 : Below w2.heap.size w2 (w2.alloc (.cells #[.int .i64 3, .int .i64 2] 3)) := (Below.refl _ _).alloc (Nat.le_refl _) _
  go_upto_region 4 with (go_at_call 17; refine (C2.out _ _ _ A1).mono ?_; rintro _ wx ⟨rfl, B1⟩)
  have N1 := blk_new wx 35 #[.int .i64 1, .int .i64 (-1), .int .i64 0, .int .i64 5]
  have Y1 := (link (link Y1 X1) B1).alloc (link (link Y1 X1) B1).size (.cells #[.int .i64 1, .int .i64 (-1), .int .i64 0, .int .i64 5] 35)
  have Z1 : Below wx.heap.size wx (wx.alloc (.cells #[.int .i64 1, .int .i64 (-1), .int .i64 0, .int .i64 5] 35)) := (Below.refl _ _).alloc (Nat.le_refl _) _
  have Ng3 := ((Ng3.keep X1).keep B1).keep Z1
  generalize wx.alloc (.cells #[.int .i64 1, .int .i64 (-1), .int .i64 0, .int .i64 5] 35) = w3 at *
  generalize wx.heap.size = g6 at *
  have Ng6 := N1
  clear A1 X1 B1 N1 Z1 C2
  have A1 : IntsAt (w3.alloc (.cells #[.int .i64 3, .int .i64 1] 3)) (some ⟨w3.heap.size, 0, none⟩) [3, 1] := (at_new intE w3 #[.int .i64 3, .int .i64 1] [3, 1] rfl).ints (by decide)
  have X1 : Below w3.heap.size w3 (w3.alloc (.cells #[.int .i64 3, .int .i64 1] 3)) := (Below.refl _ _).alloc (Nat.le_refl _) _
  go_upto_region 5 with (go_at_call 17; refine (C3.out _ _ _ A1).mono ?_; rintro _ wx ⟨rfl, B1⟩)
  have N1 := blk_new wx 35 #[.int .i64 0, .int .i64 0, .int .i64 0, .int .i64 0]
  have Y1 := (link (link Y1 X1) B1).alloc (link (link Y1 X1) B1).size (.cells #[.int .i64 0, .int .i64 0, .int .i64 0, .int .i64 0] 35)
  have Z1 : Below wx.heap.size wx (wx.alloc (.cells #[.int .i64 0, .int .i64 0, .int .i64 0, .int .i64 0] 35)) := (Below.refl _ _).alloc (Nat.le_refl _) _
  have Ng3 := ((Ng3.keep X1).keep B1).keep Z1
  have Ng6 := ((Ng6.keep X1).keep B1).keep Z1
  generalize wx.alloc (.cells #[.int .i64 0, .int .i64 0, .int .i64 0, .int .i64 0] 35) = w4 at *
  generalize wx.heap.size = g9 at *
  have Ng9 := N1
  clear A1 X1 B1 N1 Z1 C3
  go_upto_region 6 with (go_at_call 24; refine (CA.out _).mono ?_; rintro _ w5 ⟨rfl, B5⟩)
  have Y5 := link Y1 B5
  have M3 := Ng3.keep B5
  have M6 := Ng6.keep B5
  clear Ng3 Ng6 Ng9 Y1 B5 CA
  have a0 : w5.cell? ⟨g3, 0, none⟩ = some (.int .i64 0) := M3.cell (j := 0) rfl
  have a1 : w5.cell? ⟨g3, 1, none⟩ = some (.int .i64 1) := M3.cell (j := 1) rfl
  have a2 : w5.cell? ⟨g3, 2, none⟩ = some (.int .i64 0) := M3.cell (j := 2) rfl
  have a3 : w5.cell? ⟨g3, 3, none⟩ = some (.int .i64 5) := M3.cell (j := 3) rfl
  have b0 : w5.cell? ⟨g6, 0, none⟩ = some (.int .i64 1) := M6.cell (j := 0) rfl
  have b1 : w5.cell? ⟨g6, 1, none⟩ = some (.int .i64 (-1)) := M6.cell (j := 1) rfl
  have b2 : w5.cell? ⟨g6, 2, none⟩ = some (.int .i64 0) := M6.cell (j := 2) rfl
  have b3 : w5.cell? ⟨g6, 3, none⟩ = some (.int .i64 5) := M6.cell (j := 3) rfl
  clear M3 M6
  go_upto_region 9 with (fail)
  clear a0 a1 a2 a3 b0 b1 b2 b3
  go_wp2_with (first
    | (go_at_call 26; refine (CC.out _).mono ?_; rintro _ w6 ⟨rfl, B6⟩)
    | (go_at_call_of 14 (Value.int IntKind.u8 88); refine (V1.out _).mono ?_; rintro _ w7 ⟨rfl, B7⟩)
    | (go_at_call_of 14 (Value.int IntKind.u8 73); refine (V2.out _).mono ?_; rintro _ w8 ⟨rfl, B8⟩)
    | (go_at_call 28; refine (CN.out _).mono ?_; intro _ w9 h9; obtain ⟨q9, c9, rfl, _, A9, B9⟩ := h9.give (n := 4) rfl; have X9 : Below w9.heap.size w9 (w9.alloc (.cells #[.string ⟨#[49, 65, 80]⟩, .string ⟨#[49, 85, 48]⟩, .string ⟨#[55, 65, 48]⟩, .string ⟨#[65, 49, 48]⟩] 9)) := (Below.refl _ _).alloc (Nat.le_refl _) _; have N9 := at_new strE w9 #[.string ⟨#[49, 65, 80]⟩, .string ⟨#[49, 85, 48]⟩, .string ⟨#[55, 65, 48]⟩, .string ⟨#[65, 49, 48]⟩] exN rfl; have A9 := A9.keep X9)
    | (go_at_call 32; refine (CT.out _ _ _ _ _ A9 N9).mono ?_; rintro _ w10 ⟨rfl, B10⟩))
  go_ret
  exact ⟨rfl, link (link (link (link (link (link Y5 B6) B7) B8) B9) X9) B10⟩
end Go.Proofs.Ytjpiidfoegaenaa
