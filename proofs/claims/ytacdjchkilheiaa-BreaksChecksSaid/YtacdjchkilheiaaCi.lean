/-
  The law's own widths: page and Widths.
-/
import Derived.Test.YtacdjchkilheiaaBa
namespace Go.Proofs.Ytacdjchkilheiaa
open Go.RowKit
set_option linter.unusedVariables false
set_option linter.unusedSimpArgs false

def InPage (x : Int) : Prop := -1 ≤ x ∧ x ≤ 4097
instance (x : Int) : Decidable (InPage x) := inferInstanceAs (Decidable (_ ∧ _))
theorem pageL_in (r : Nat) (h : r < 8) : ∃ x : Int, ([Value.int .i64 0, Value.int .i64 1, Value.int .i64 1, Value.int .i64 2, Value.int .i64 1, Value.int .i64 4096, Value.int .i64 4097, Value.int .i64 (-1)])[r] = .int .i64 x ∧ InPage x := by
  match r, h with
  | 0, _ => exact ⟨0, rfl, by decide⟩
  | 1, _ => exact ⟨1, rfl, by decide⟩
  | 2, _ => exact ⟨1, rfl, by decide⟩
  | 3, _ => exact ⟨2, rfl, by decide⟩
  | 4, _ => exact ⟨1, rfl, by decide⟩
  | 5, _ => exact ⟨4096, rfl, by decide⟩
  | 6, _ => exact ⟨4097, rfl, by decide⟩
  | 7, _ => exact ⟨-1, rfl, by decide⟩
theorem pageW_in (r : Nat) (h : r < 3) : ∃ x : Int, ([Value.int .i64 4096, Value.int .i64 4097, Value.int .i64 (-1)])[r] = .int .i64 x ∧ InPage x := by
  match r, h with
  | 0, _ => exact ⟨4096, rfl, by decide⟩
  | 1, _ => exact ⟨4097, rfl, by decide⟩
  | 2, _ => exact ⟨-1, rfl, by decide⟩
def PageR (w : World) (e : Ending) (w' : World) : Prop := ∃ b d : Int, e = .returned (.tuple #[.int .i64 b, .int .i64 d]) ∧ InPage b ∧ InPage d ∧ Below w.heap.size w w'

set_option maxHeartbeats 2000000 in
set_option maxRecDepth 100000 in
theorem page_any (n m : Int) (h1 : -9223372036854775808 ≤ n) (h2 : n ≤ 9223372036854775807) (h3 : -9223372036854775808 ≤ m) (h4 : m ≤ 9223372036854775807) (w : World) :
    Calls Try.prog 8 #[.int .i64 n, .int .i64 m] w (PageR w) := by
  have HN := Lib.hid (fun V : World => around_any n h1 h2 8 (by omega) (by omega) V)
  have HM := Lib.hid (fun V : World => around_any m h3 h4 40 (by omega) (by omega) V)
  clear h1 h2 h3 h4
  go_enter Try.func8, Try.ntmps8
  have HP := Lib.hid pageL_in
  go_upto_region 2 with (first
    | (go_at_call 29; refine (HN.out _).mono ?_; rintro en w1 ⟨r, hr, rfl, rfl⟩; obtain ⟨x, hx, hxi⟩ := HP.out r hr))
  have X1 : Below w.heap.size w (w.alloc (.cells ([Value.int .i64 0, Value.int .i64 1, Value.int .i64 1, Value.int .i64 2, Value.int .i64 1, Value.int .i64 4096, Value.int .i64 4097, Value.int .i64 (-1)]).toArray 3)) := (Below.refl _ _).alloc (Nat.le_refl _) _
  change Code.wp _ _ _ _ (w.alloc (.cells ([Value.int .i64 0, Value.int .i64 1, Value.int .i64 1, Value.int .i64 2, Value.int .i64 1, Value.int .i64 4096, Value.int .i64 4097, Value.int .i64 (-1)]).toArray 3))
  clear hx
  generalize World.alloc w _ = W1 at X1 ⊢
  go_upto_region 3 with (first
    | (go_at_call 29; refine (HM.out _).mono ?_; rintro en w2 ⟨s, hs, rfl, rfl⟩))
  have HX := Lib.hid hxi
  by_cases h36 : s ≤ 36
  · have hs1 : ¬ (36 : Int) < (s : Int) := by omega
    have HS := Lib.hid (show InPage (s : Int) from ⟨by omega, by omega⟩)
    go_wp2
    go_ret2
    exact ⟨_, _, rfl, HX.out, HS.out, X1⟩
  · obtain ⟨t, rfl⟩ : ∃ t, s = t + 37 := ⟨s - 37, by omega⟩
    obtain ⟨y, hy, hyi⟩ := pageW_in t (by omega)
    have hs1 : (36 : Int) < ((t + 37 : Nat) : Int) := by omega
    have hs2 : ((t + 37 : Nat) : Int) - 37 = (t : Int) := by omega
    have ht3 : t < 3 := by omega
    have HY := Lib.hid hyi
    have X2 : Below w2.heap.size w2 (w2.alloc (.cells ([Value.int .i64 4096, Value.int .i64 4097, Value.int .i64 (-1)]).toArray 3)) := (Below.refl _ _).alloc (Nat.le_refl _) _
    clear hyi
    go_wp2
    go_ret2
    exact ⟨_, _, rfl, HX.out, HY.out, link X1 X2⟩
end Go.Proofs.Ytacdjchkilheiaa
