/-
  wire.size returns the least number of bytes of every uint64.
-/
import Derived.Test.YtfhfmdnimebegaaDoorWb
namespace Go.Proofs.YtfhfmdnimebegaaDoor
open Go.RowKit

def big : Nat := 18446744073709551616
theorem big_pow : big = 256 ^ 8 := by decide

set_option maxHeartbeats 400000 in
set_option maxRecDepth 100000 in
theorem size_any (m : Nat) (hm : m < big) (w : World) :
    Calls Tryd.prog 56 #[.int .u64 m] w fun e w' => e = .returned (.int .i64 (sz m)) ∧ w = w' := by
  go_enter Tryd.func56, Tryd.ntmps56
  go_wp2
  go_step3
  go_wp2
  go_step3
  go_wp2
  go_loop [0, 3] (fun x k => ∃ m' k' : Nat, x = .int .u64 m' ∧ k = .int .i64 k' ∧ m' < big ∧ k' ≤ 8 ∧ Hid (k' + sz m' = sz m)) (fun x _ => (intOf x).toNat)
  case atStart => exact ⟨m, 0, rfl, rfl, hm, by omega, Lib.hid (by omega)⟩
  case round =>
    obtain ⟨m', k', rfl, rfl, hm', hk', HE⟩ := hrel
    by_cases h0 : m' = 0
    · subst h0
      go_wp2
      go_ret
      have := HE.out
      rw [sz_zero] at this
      exact ⟨by rw [← this]; simp, rfl⟩
    · have hb : ((m' : Int) == 0) = false := by simpa using h0
      go_wp2
      have hs := HE.out
      rw [sz_pos h0] at hs
      have h8 := sz_le 8 m (by rw [← big_pow]; exact hm)
      refine ⟨⟨m' / 256, k' + 1, by simp, by simp, by omega, by omega, Lib.hid (by omega)⟩, ?_⟩
      simp only [intOf]
      omega

end Go.Proofs.YtfhfmdnimebegaaDoor
