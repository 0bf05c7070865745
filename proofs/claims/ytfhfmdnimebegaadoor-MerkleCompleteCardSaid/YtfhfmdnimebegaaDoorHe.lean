/-
  hash.Equal tells whether two strings are equal.
-/
import Derived.Test.YtfhfmdnimebegaaDoorHx
namespace Go.Proofs.YtfhfmdnimebegaaDoor
open Go.RowKit
set_option linter.unusedVariables false
set_option linter.unusedSimpArgs false

theorem or_u8 (y x : Nat) (hy : y < 256) (hx : x < 256) : bits BinOp.or IntKind.u8 (y : Int) (x : Int) = ((y ||| x : Nat) : Int) := by
  have h : y ||| x < 256 := Nat.or_lt_two_pow (n := 8) hy hx
  show IntKind.u8.wrap ((BitVec.ofInt 8 (y : Int) ||| BitVec.ofInt 8 (x : Int)).toNat : Int) = _
  rw [BitVec.ofInt_natCast, BitVec.ofInt_natCast, BitVec.toNat_or, BitVec.toNat_ofNat, BitVec.toNat_ofNat, Nat.mod_eq_of_lt hy, Nat.mod_eq_of_lt hx]
  simp [IntKind.wrap, IntKind.signed, IntKind.bits]
  omega
theorem or_raw (d x y : Nat) (hd : d < 256) (hx : x < 256) (hy : y < 256) : bits BinOp.or IntKind.u8 (d : Int) (bits BinOp.xor IntKind.u8 (x : Int) (y : Int)) = ((d ||| (x ^^^ y) : Nat) : Int) := by
  rw [xor_u8 x y hx hy, or_u8 d _ hd (xor_lt hx hy)]
theorem or_zero (d x y : Nat) : d ||| (x ^^^ y) = 0 ↔ d = 0 ∧ x = y := by
  constructor
  · intro h
    have h1 := Nat.or_eq_zero_iff.1 h
    refine ⟨h1.1, ?_⟩
    have e : (x ^^^ y) ^^^ y = x := by rw [Nat.xor_assoc, Nat.xor_self, Nat.xor_zero]
    rw [h1.2, Nat.zero_xor] at e
    exact e.symm
  · rintro ⟨rfl, rfl⟩
    simp
theorem sb_inj {a b : ByteArray} (h : sb a = sb b) : a = b := by rw [← strOf_sb a, ← strOf_sb b, h]
/-- What holds at each round's head: d is zero exactly if the first k bytes are the same. -/
def EqRel (w : World) (a b : ByteArray) (v d : Value) (wr : World) : Prop :=
  ∃ k n : Nat, k ≤ a.size ∧ v = .int .i64 k ∧ d = .int .u8 n ∧ n < 256 ∧ Hid (n = 0 ↔ (sb a).take k = (sb b).take k) ∧ Below w.heap.size w wr
/-- The call said so; what was there is as it was. -/
def Told (w : World) (b : Bool) (e : Ending) (w' : World) : Prop := e = .returned (.bool b) ∧ Below w.heap.size w w'
theorem told_bool {w w' : World} {b c : Bool} (h : c = b) (hB : Below w.heap.size w w') : Told w b (.returned (.bool c)) w' := ⟨by rw [h], hB⟩

end Go.Proofs.YtfhfmdnimebegaaDoor
