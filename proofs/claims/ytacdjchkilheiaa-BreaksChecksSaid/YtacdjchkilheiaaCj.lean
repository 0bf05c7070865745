/-
  The widths of a law's call.
-/
import Derived.Test.YtacdjchkilheiaaCi
namespace Go.Proofs.Ytacdjchkilheiaa
open Go.RowKit
set_option linter.unusedVariables false
set_option linter.unusedSimpArgs false

def Tens (L : List Int) : Prop := L.length ≤ 9 ∧ ∀ x ∈ L, 0 ≤ x ∧ x ≤ 9
theorem Tens.nil : Tens [] := ⟨Nat.zero_le _, fun x h => by cases h⟩
def WsRel (n B : Nat) (W : World) (v3 v4 : Value) (wr : World) : Prop := ∃ (k : Nat) (acc : List Int), v4 = .int .i64 (k : Int) ∧ k ≤ n ∧ acc.length = k ∧ Tens acc ∧ OwnR intE wr B v3 acc ∧ Below B W wr
def WidthsR (w : World) (e : Ending) (w' : World) : Prop := ∃ L, Tens L ∧ MadeR intE L w e w'

set_option maxHeartbeats 2000000 in
set_option maxRecDepth 100000 in
theorem widths_any (A : Option Addr) (l : List Int) (n c : Nat) (hl : l.length = n) (w : World) (hA : IntsAt w A l) :
    Calls Try.prog 9 #[.slice A n c] w (WidthsR w) := by
  have HA := Lib.hid (fun (V : World) (h : Below w.heap.size w V) => hA.keep h)
  have HR := Lib.hid (fun (x : Int) (h1 : -9223372036854775808 ≤ x) (h2 : x ≤ 9223372036854775807) (V : World) => around_any x h1 h2 10 (by omega) (by omega) V)
  have HL := Lib.hid hl
  clear hl hA
  go_enter Try.func9, Try.ntmps9
  go_wp2
  go_loopw [3, 4] (fun v3 v4 wr => WsRel n w.heap.size w v3 v4 wr) (fun _ v _ => n - (intOf v).toNat)
  case atStart => exact ⟨0, [], rfl, Nat.zero_le _, rfl, Tens.nil, OwnR.nil _ _ _, Below.refl _ _⟩
  case round =>
    obtain ⟨k, acc, rfl, hk, hal, hT, hO, hB⟩ := hrel
    have HT := Lib.hid hT
    clear hT
    rcases Nat.lt_or_ge k n with hlt | hge
    · rcases Nat.lt_or_ge k 9 with h9 | h9
      · obtain ⟨x, hx⟩ : ∃ x, l[k]? = some x := ⟨_, List.getElem?_eq_getElem (by rw [HL.out]; exact hlt)⟩
        obtain ⟨ad, rfl, _, hc⟩ := HA.out wr hB (by intro e; rw [e] at hx; simp at hx)
        obtain ⟨hcx, hx1, hx2⟩ := hc k x hx
        have HR1 := Lib.hid (HR.out x hx1 hx2)
        have hz := hB.size
        have hal6 : acc.length ≤ 9 := by omega
        have HAl := Lib.hid hal
        clear hc hx hx1 hx2 hal
        go_wp2_with (first
          | (go_at_call 29; refine (HR1.out _).mono ?_; rintro en w1 ⟨r, hr, rfl, rfl⟩)
          | (at_builtin; refine push_el intE rfl (.tmp 15) (.tmp 21) rfl acc (r : Int) _ rfl hO hz _ rfl _ rfl (by omega) ?_; intro v6 W6 hO6 hB7 hR6))
        have HT6 : Tens (acc ++ [(r : Int)]) := ⟨by rw [List.length_append, HAl.out]; simp; omega, fun y hy => by
          rcases List.mem_append.1 hy with h | h
          · exact HT.out.2 y h
          · rw [List.mem_singleton.1 h]; omega⟩
        exact ⟨⟨k + 1, acc ++ [(r : Int)], by go_num, by omega, by rw [List.length_append, HAl.out]; rfl, HT6, hO6, hB.trans hB7⟩, by simp [intOf]; omega⟩
      · have h9' : ¬ (k : Int) < 9 := by omega
        go_wp2
        go_ret
        exact ⟨acc, HT.out, _, rfl, hO, hB⟩
    · obtain rfl : k = n := by omega
      have hlt : ¬ k < k := by omega
      go_wp2
      go_ret
      exact ⟨acc, HT.out, _, rfl, hO, hB⟩
end Go.Proofs.Ytacdjchkilheiaa
