/-
  Cost, of the program and of the reference.
-/
import Derived.Test.YtacdjchkilheiaaBg
import Derived.Test.YtacdjchkilheiaaCa
namespace Go.Proofs.Ytacdjchkilheiaa
open Go.RowKit
set_option linter.unusedVariables false
set_option linter.unusedSimpArgs false

def costA (l : List Int) (bl wd : Int) (ends : List Int) : Int × Int × Int := if errT l bl wd = 0 then measT l bl wd ends else (0, 0, errT l bl wd)
theorem errT_cases (l : List Int) (bl wd : Int) : errT l bl wd = 0 ∨ errT l bl wd = 1 ∨ errT l bl wd = 4 := by
  unfold errT
  split
  · exact Or.inr (Or.inr rfl)
  · split
    · exact Or.inl rfl
    · exact Or.inr (Or.inl rfl)

set_option maxHeartbeats 4000000 in
set_option maxRecDepth 100000 in
theorem cost_any (A : Option Addr) (l : List Int) (n c : Nat) (hl : l.length = n) (bl wd : Int) (A2 : Option Addr) (ends : List Int) (m c2 : Nat) (hm : ends.length = m) (hm9 : m ≤ 9223372036854775807) (w : World) (hA : IntsAt w A l) (hA2 : IntsAt w A2 ends) :
    Calls Try.prog 20 #[.slice A n c, .int .i64 bl, .int .i64 wd, .slice A2 m c2] w (ThreeR (costA l bl wd ends) w) := by
  have HPa := Lib.hid (paragraphOf_any A l n c hl bl wd w hA)
  by_cases he : errT l bl wd = 0
  · have HC := Lib.hid (show costA l bl wd ends = measT l bl wd ends from by unfold costA; rw [if_pos he])
    have hF := fine_of he
    have HMe := Lib.hid (fun (b : Nat) (z : Bool) (V : World) (hS : SumsAt V b l bl) (h : Below w.heap.size w V) => (show Calls Try.prog 37 #[.agg #[.slice (some ⟨b, 0, none⟩) (n + 1) (n + 1), .int .i64 bl, .int .i64 wd, .bool z], .slice A2 m c2] V (ThreeR (measT l bl wd ends) V) from measure_any b l n hl bl wd z hF A2 ends m c2 hm hm9 V hS (hA2.keep h)))
    have HPa2 := Lib.hid (show Calls Try.prog 30 #[.slice A n c, .int .i64 bl, .int .i64 wd] w (ParOk l n bl wd w) from HPa.out.mono fun e w' h => by
      rcases h with ⟨_, h⟩ | ⟨h, _⟩
      · exact h
      · exact absurd he h)
    generalize measT l bl wd ends = r at *
    generalize costA l bl wd ends = r0 at *
    clear hl hF he hA hA2 hm HPa
    go_enter Try.func20, Try.ntmps20
    go_upto_region 2 with (first
      | (go_at_call 30; refine HPa2.out.mono ?_; rintro en W1 ⟨b, rfl, hS, hwb, hB1⟩; unfold pgV)
      | (refine store_blk rfl 58 (.tmp 11) (.tmp 18) rfl (blk_new W1 58 zeroPg.toArray) rfl rfl (vs := [.slice (some ⟨b, 0, none⟩) (n + 1) (n + 1), .int .i64 bl, .int .i64 wd, .bool (wideT l wd)]) (m := 4) (by kernel_rfl) rfl rfl (by intro v hv; simp at hv; rcases hv with rfl | rfl | rfl | rfl <;> rfl) ?_; intro W2 K2 O2))
    try simp only [zP, zQ, zS, zZ, zC]
    have X2 : Below W1.heap.size W1 W2 := O2.2.2 _ _ (Nat.le_refl _) ((Below.refl _ _).alloc (Nat.le_refl _) _)
    have hS2 := hS.keep X2
    have B2 := link hB1 X2
    have CW : W2.rangeAt W1.heap.size 0 [.slice (some ⟨b, 0, none⟩) (n + 1) (n + 1), .int .i64 bl, .int .i64 wd, .bool (wideT l wd)] := by have := K2.range 0 4; exact this
    have HM2 := Lib.hid (HMe.out b (wideT l wd) W2 hS2 B2)
    clear K2 O2 hS X2 hB1 HMe
    go_wp2_with (first
      | (refine wpList_load_mid rfl 58 (.tmp 11) rfl W1.heap.size 0 rfl [.slice (some ⟨b, 0, none⟩) (n + 1) (n + 1), .int .i64 bl, .int .i64 wd, .bool (wideT l wd)] _ CW Try.underlying58 rfl (by kernel_rfl) ?_)
      | (go_at_call 37; refine HM2.out.mono ?_; rintro en W3 ⟨rfl, hB3⟩))
    go_ret3
    exact ⟨by rw [HC.out]; rfl, link B2 hB3⟩
  · have HC := Lib.hid (show costA l bl wd ends = (0, 0, errT l bl wd) from by unfold costA; rw [if_neg he])
    have HPa2 := Lib.hid (show Calls Try.prog 30 #[.slice A n c, .int .i64 bl, .int .i64 wd] w (ParBad (errT l bl wd) w) from HPa.out.mono fun e w' h => by
      rcases h with ⟨h, _⟩ | ⟨_, h⟩
      · exact absurd h he
      · exact h)
    generalize errT l bl wd = k at *
    generalize costA l bl wd ends = r0 at *
    have hk : (k == 0) = false := by simp; exact he
    clear hl he hA hA2 hm HPa
    go_enter Try.func20, Try.ntmps20
    go_upto_region 2 with (first
      | (go_at_call 30; refine HPa2.out.mono ?_; rintro en W1 ⟨rfl, hB1⟩)
      | (refine store_blk rfl 58 (.tmp 11) (.tmp 18) rfl (blk_new W1 58 zeroPg.toArray) rfl rfl (vs := zeroPg) (m := 4) (by kernel_rfl) rfl rfl (by intro v hv; simp [zeroPg] at hv; rcases hv with rfl | rfl | rfl | rfl <;> rfl) ?_; intro W2 K2 O2))
    try simp only [zP, zQ, zS, zZ, zC]
    have X2 : Below W1.heap.size W1 W2 := O2.2.2 _ _ (Nat.le_refl _) ((Below.refl _ _).alloc (Nat.le_refl _) _)
    go_wp2
    go_ret3
    exact ⟨by rw [HC.out]; rfl, link hB1 X2⟩
end Go.Proofs.Ytacdjchkilheiaa
