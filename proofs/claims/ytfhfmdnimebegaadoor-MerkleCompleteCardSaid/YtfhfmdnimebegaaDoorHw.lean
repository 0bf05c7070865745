/-
  32-bit words as the model's integers.
-/
import Derived.Test.YtfhfmdnimebegaaDoorHm
import Derived.Test.YtfhfmdnimebegaaDoorWb
namespace Go.Proofs.YtfhfmdnimebegaaDoor
set_option linter.unusedVariables false
set_option linter.unusedSimpArgs false
open Go.RowKit

def u (x : BitVec 32) : Int := (x.toNat : Int)
theorem u_lo (x : BitVec 32) : 0 ≤ u x := by unfold u; omega
theorem u_hi (x : BitVec 32) : u x ≤ 4294967295 := by unfold u; have := x.isLt; omega
theorem wrap_u32 (n : Nat) : IntKind.u32.wrap (n : Int) = ((n % 4294967296 : Nat) : Int) := by
  simp [IntKind.wrap, IntKind.signed, IntKind.bits]
theorem ofInt_u (x : BitVec 32) : BitVec.ofInt 32 (u x) = x := by
  unfold u
  rw [BitVec.ofInt_natCast, BitVec.ofNat_toNat, BitVec.setWidth_eq]
theorem wrap_toNat (x : BitVec 32) : IntKind.u32.wrap (x.toNat : Int) = u x := by
  rw [wrap_u32, Nat.mod_eq_of_lt x.isLt]; rfl
theorem u_xor (x y : BitVec 32) : bits BinOp.xor IntKind.u32 (u x) (u y) = u (x ^^^ y) := by
  have hx := ofInt_u x
  have hy := ofInt_u y
  show IntKind.u32.wrap ((BitVec.ofInt 32 (u x) ^^^ BitVec.ofInt 32 (u y)).toNat : Int) = _
  rw [hx, hy]
  exact wrap_toNat _
theorem u_and (x y : BitVec 32) : bits BinOp.and IntKind.u32 (u x) (u y) = u (x &&& y) := by
  have hx := ofInt_u x
  have hy := ofInt_u y
  show IntKind.u32.wrap ((BitVec.ofInt 32 (u x) &&& BitVec.ofInt 32 (u y)).toNat : Int) = _
  rw [hx, hy]
  exact wrap_toNat _
theorem u_or (x y : BitVec 32) : bits BinOp.or IntKind.u32 (u x) (u y) = u (x ||| y) := by
  have hx := ofInt_u x
  have hy := ofInt_u y
  show IntKind.u32.wrap ((BitVec.ofInt 32 (u x) ||| BitVec.ofInt 32 (u y)).toNat : Int) = _
  rw [hx, hy]
  exact wrap_toNat _
theorem u_add (x y : BitVec 32) : IntKind.u32.wrap (u x + u y) = u (x + y) := by
  unfold u
  have e : (x.toNat : Int) + (y.toNat : Int) = ((x.toNat + y.toNat : Nat) : Int) := by omega
  rw [e, wrap_u32]
  simp [BitVec.toNat_add]
theorem u_shr (x : BitVec 32) (k : Nat) : u x / 2 ^ k = u (x >>> k) := by
  unfold u
  rw [BitVec.toNat_ushiftRight, Nat.shiftRight_eq_div_pow]
  simp
theorem u_shl (x : BitVec 32) (k : Nat) : IntKind.u32.wrap (u x * 2 ^ k) = u (x <<< k) := by
  unfold u
  have e : (x.toNat : Int) * 2 ^ k = ((x.toNat * 2 ^ k : Nat) : Int) := by simp
  rw [e, wrap_u32, BitVec.toNat_shiftLeft, Nat.shiftLeft_eq]

theorem and31 : ∀ k : Fin 32, 1 ≤ k.val → bits BinOp.and IntKind.u64 (IntKind.u64.wrap (-(k.val : Int))) 31 = ((32 - k.val : Nat) : Int) := by decide +kernel

set_option maxHeartbeats 400000 in
theorem rotl_any (x : BitVec 32) (k : Nat) (hk1 : 1 ≤ k) (hk : k ≤ 31) (w : World) :
    Calls Tryd.prog 84 #[.int .u32 (u x), .int .i64 (-(k : Int))] w fun e w' => e = .returned (.int .u32 (u (rot x k))) ∧ w = w' := by
  obtain ⟨j, hj⟩ : ∃ j : Nat, k + j = 32 := ⟨32 - k, by omega⟩
  have hs0 := and31 ⟨k, by omega⟩ hk1
  simp only at hs0
  have hs : bits BinOp.and IntKind.u64 (IntKind.u64.wrap (-(k : Int))) 31 = (j : Int) := by rw [hs0]; omega
  have e2 : (32 : Int) - (j : Int) = (k : Int) := by omega
  have h1 := u_shl x j
  have h2 := u_shr x k
  have h3 := u_or (x <<< j) (x >>> k)
  have he : rot x k = x >>> k ||| x <<< j := by unfold rot; rw [show 32 - k = j by omega]
  have HE := Lib.hid he
  clear hs0 he
  go_enter Tryd.func84, Tryd.ntmps84
  go_wp2
  go_ret
  refine ⟨?_, rfl⟩
  rw [HE.out, BitVec.or_comm]
  rfl

theorem rotl2 (x : BitVec 32) (w : World) : Calls Tryd.prog 84 #[.int .u32 (u x), .int .i64 (-2)] w fun e w' => e = .returned (.int .u32 (u (rot x 2))) ∧ w = w' := rotl_any x 2 (by omega) (by omega) w
theorem rotl6 (x : BitVec 32) (w : World) : Calls Tryd.prog 84 #[.int .u32 (u x), .int .i64 (-6)] w fun e w' => e = .returned (.int .u32 (u (rot x 6))) ∧ w = w' := rotl_any x 6 (by omega) (by omega) w
theorem rotl7 (x : BitVec 32) (w : World) : Calls Tryd.prog 84 #[.int .u32 (u x), .int .i64 (-7)] w fun e w' => e = .returned (.int .u32 (u (rot x 7))) ∧ w = w' := rotl_any x 7 (by omega) (by omega) w
theorem rotl11 (x : BitVec 32) (w : World) : Calls Tryd.prog 84 #[.int .u32 (u x), .int .i64 (-11)] w fun e w' => e = .returned (.int .u32 (u (rot x 11))) ∧ w = w' := rotl_any x 11 (by omega) (by omega) w
theorem rotl13 (x : BitVec 32) (w : World) : Calls Tryd.prog 84 #[.int .u32 (u x), .int .i64 (-13)] w fun e w' => e = .returned (.int .u32 (u (rot x 13))) ∧ w = w' := rotl_any x 13 (by omega) (by omega) w
theorem rotl17 (x : BitVec 32) (w : World) : Calls Tryd.prog 84 #[.int .u32 (u x), .int .i64 (-17)] w fun e w' => e = .returned (.int .u32 (u (rot x 17))) ∧ w = w' := rotl_any x 17 (by omega) (by omega) w
theorem rotl18 (x : BitVec 32) (w : World) : Calls Tryd.prog 84 #[.int .u32 (u x), .int .i64 (-18)] w fun e w' => e = .returned (.int .u32 (u (rot x 18))) ∧ w = w' := rotl_any x 18 (by omega) (by omega) w
theorem rotl19 (x : BitVec 32) (w : World) : Calls Tryd.prog 84 #[.int .u32 (u x), .int .i64 (-19)] w fun e w' => e = .returned (.int .u32 (u (rot x 19))) ∧ w = w' := rotl_any x 19 (by omega) (by omega) w
theorem rotl22 (x : BitVec 32) (w : World) : Calls Tryd.prog 84 #[.int .u32 (u x), .int .i64 (-22)] w fun e w' => e = .returned (.int .u32 (u (rot x 22))) ∧ w = w' := rotl_any x 22 (by omega) (by omega) w
theorem rotl25 (x : BitVec 32) (w : World) : Calls Tryd.prog 84 #[.int .u32 (u x), .int .i64 (-25)] w fun e w' => e = .returned (.int .u32 (u (rot x 25))) ∧ w = w' := rotl_any x 25 (by omega) (by omega) w

end Go.Proofs.YtfhfmdnimebegaaDoor
