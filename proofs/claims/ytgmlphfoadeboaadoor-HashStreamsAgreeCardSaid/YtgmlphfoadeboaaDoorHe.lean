/-
  hash.Equal tells whether two strings are equal.
-/
import Derived.Test.YtgmlphfoadeboaaDoorHx
namespace Go.Proofs.YtgmlphfoadeboaaDoor
open Go.RowKit
set_option linter.unusedVariables false
set_option linter.unusedSimpArgs false

theorem or_u8 (y x : Nat) (hy : y < 256) (hx : x < 256) : bits BinOp.or IntKind.u8 (y : Int) (x : Int) = ((y ||| x : Nat) : Int) := by
  have h : y ||| x < 256 := Nat.or_lt_two_pow (n := 8) hy hx
  show IntKind.u8.wrap ((BitVec.ofInt 8 (y : Int) ||| BitVec.ofInt 8 (x : Int)).toNat : Int) = _
  rw [BitVec.ofInt_natCast, BitVec.ofInt_natCast, BitVec.toNat_or, BitVec.toNat_ofNat, BitVec.toNat_ofNat, Nat.mod_eq_of_lt hy, Nat.mod_eq_of_lt hx]
  simp [IntKind.wrap, IntKind.signed, IntKind.bits]
  omega
theorem or_raw (d x y : Nat) (hd : d < 256) (hx : x < 256) (hy : y < 256) : bits BinOp.or IntKind.u8 (d : Int) (bits BinOp.xor IntKind.u8 (x : Int) (y : Int)) = ((d ||| (x ^^^ y) : Nat) : Int) := by
  rw [xor_u8 x y hx hy, or_u8 d _ hd (xor_lt hx hy)]
theorem or_zero (d x y : Nat) : d ||| (x ^^^ y) = 0 ↔ d = 0 ∧ x = y := by
  constructor
  · intro h
    have h1 := Nat.or_eq_zero_iff.1 h
    refine ⟨h1.1, ?_⟩
    have e : (x ^^^ y) ^^^ y = x := by rw [Nat.xor_assoc, Nat.xor_self, Nat.xor_zero]
    rw [h1.2, Nat.zero_xor] at e
    exact e.symm
  · rintro ⟨rfl, rfl⟩
    simp
theorem sb_inj {a b : ByteArray} (h : sb a = sb b) : a = b := by rw [← strOf_sb a, ← strOf_sb b, h]
/-- What holds at each round's head: d is zero exactly if the first k bytes are the same. -/
def EqRel (w : World) (a b : ByteArray) (v d : Value) (wr : World) : Prop :=
  ∃ k n : Nat, k ≤ a.size ∧ v = .int .i64 k ∧ d = .int .u8 n ∧ n < 256 ∧ Hid (n = 0 ↔ (sb a).take k = (sb b).take k) ∧ Below w.heap.size w wr
/-- The call said so; what was there is as it was. -/
def Told (w : World) (b : Bool) (e : Ending) (w' : World) : Prop := e = .returned (.bool b) ∧ Below w.heap.size w w'
theorem told_bool {w w' : World} {b c : Bool} (h : c = b) (hB : Below w.heap.size w w') : Told w b (.returned (.bool c)) w' := ⟨by rw [h], hB⟩

set_option maxHeartbeats 1000000 in
theorem equal_any (a b : ByteArray) (ha : a.size ≤ 140737488355328) (hb : b.size ≤ 140737488355328) (w : World) :
    Calls Tryd.prog 24 #[.string a, .string b] w (Told w (decide (a = b))) := by
  by_cases hs : a.size = b.size
  · have hne : ((a.size : Int) != (b.size : Int)) = false := by simp [hs]
    have HS := Lib.hid hs
    clear hs
    go_enter Tryd.func24, Tryd.ntmps24
    go_wp2
    go_loopw [14, 5] (fun v d wr => EqRel w a b v d wr) (fun v _ _ => a.size - (intOf v).toNat)
    case atStart => exact ⟨0, 0, by omega, rfl, rfl, by omega, Lib.hid (by simp), Below.refl _ _⟩
    case round =>
      obtain ⟨k, n, hk, rfl, rfl, hn, HT, hB⟩ := hrel
      by_cases hlt : k < a.size
      · have hlt2 : k < b.size := by rw [← HS.out]; exact hlt
        have q1 : (k : Int) < (a.size : Int) := by omega
        have q2 : (k : Int) < (b.size : Int) := by omega
        have HX : Hid ((n ||| (a[k].toNat ^^^ b[k].toNat) = 0) ↔ (sb a).take (k + 1) = (sb b).take (k + 1)) := by
          have e1 : (sb a).take (k + 1) = (sb a).take k ++ [a[k].toNat] := by
            rw [List.take_add_one, List.getElem?_eq_getElem (by rw [sb_length]; exact hlt)]
            simp [sb]
            rfl
          have e2 : (sb b).take (k + 1) = (sb b).take k ++ [b[k].toNat] := by
            rw [List.take_add_one, List.getElem?_eq_getElem (by rw [sb_length]; exact hlt2)]
            simp [sb]
            rfl
          have e3 : (n ||| (a[k].toNat ^^^ b[k].toNat) = 0) ↔ (sb a).take (k + 1) = (sb b).take (k + 1) := by
            rw [or_zero, HT.out, e1, e2]
            constructor
            · rintro ⟨h1, h2⟩
              rw [h1, h2]
            · intro h
              have hl : ((sb a).take k).length = ((sb b).take k).length := by rw [List.length_take, List.length_take, sb_length, sb_length]; omega
              have := List.append_inj h hl
              exact ⟨this.1, by simpa using this.2⟩
          exact Lib.hid e3
        have HR := Lib.hid (or_raw n a[k].toNat b[k].toNat hn a[k].toNat_lt b[k].toNat_lt)
        have hnn : n ||| (a[k].toNat ^^^ b[k].toNat) < 256 := Nat.or_lt_two_pow (n := 8) hn (xor_lt a[k].toNat_lt b[k].toNat_lt)
        go_wp2
        go_quiet (fail)
        go_wp2
        go_roundw
        case rel => exact ⟨k + 1, _, by omega, by go_num, by rw [HR.out], hnn, HX, below_drewN hB _⟩
        case measure => simp [intOf]; omega
      · have hT : n = 0 ↔ a = b := by
          have e := HT.out
          rw [List.take_of_length_le (by rw [sb_length]; omega), List.take_of_length_le (by rw [sb_length, ← HS.out]; omega)] at e
          rw [e]
          exact ⟨sb_inj, fun h => by rw [h]⟩
        have HT2 := Lib.hid hT
        clear hT HT
        go_wp2
        go_ret
        refine told_bool ?_ hB
        rw [Bool.eq_iff_iff]
        have := HT2.out
        simp
        omega
  · have hne : ((a.size : Int) != (b.size : Int)) = true := by simp; omega
    go_enter Tryd.func24, Tryd.ntmps24
    go_wp2
    go_ret
    exact told_bool (by simp; intro h; exact hs (by rw [h])) (Below.refl _ _)

end Go.Proofs.YtgmlphfoadeboaaDoor
