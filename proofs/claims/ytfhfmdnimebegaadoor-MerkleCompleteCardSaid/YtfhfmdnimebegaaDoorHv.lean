/-
  Authentication codes, as mathematics; the laws for keys.
-/
import Derived.Test.YtfhfmdnimebegaaDoorHu
namespace Go.Proofs.YtfhfmdnimebegaaDoor
open Go.RowKit
set_option linter.unusedVariables false
set_option linter.unusedSimpArgs false

/-- The key of at most 64 bytes. -/
def keyOf64 (k : List Nat) : List Nat := if 64 < k.length then sha k else k
def padK (k : List Nat) : List Nat := k ++ List.replicate (64 - k.length) 0
def xorL (k : List Nat) (x : Nat) : List Nat := k.map (· ^^^ x)
def hmac (key text : List Nat) : List Nat := sha (xorL (padK (keyOf64 key)) 92 ++ sha (xorL (padK (keyOf64 key)) 54 ++ text))
theorem xor_lt {x y : Nat} (hx : x < 256) (hy : y < 256) : x ^^^ y < 256 := Nat.xor_lt_two_pow (n := 8) hx hy
theorem keyOf64_length (k : List Nat) : (keyOf64 k).length ≤ 64 := by
  unfold keyOf64
  split
  · rw [sha_length]; omega
  · omega
theorem keyOf64_byte (k : List Nat) (h : ∀ y ∈ k, y < 256) : ∀ y ∈ keyOf64 k, y < 256 := by
  unfold keyOf64
  split
  · exact sha_byte k
  · exact h
theorem padK_length (k : List Nat) (h : k.length ≤ 64) : (padK k).length = 64 := by simp [padK]; omega
theorem padK_byte (k : List Nat) (h : ∀ y ∈ k, y < 256) : ∀ y ∈ padK k, y < 256 := by
  intro y hy
  rcases List.mem_append.1 hy with h1 | h1
  · exact h y h1
  · rw [(List.mem_replicate.1 h1).2]; omega
theorem xorL_byte (k : List Nat) (x : Nat) (hx : x < 256) (h : ∀ y ∈ k, y < 256) : ∀ y ∈ xorL k x, y < 256 := by
  intro y hy
  obtain ⟨z, hz, rfl⟩ := List.mem_map.1 hy
  exact xor_lt (h z hz) hx
theorem xorL_length (k : List Nat) (x : Nat) : (xorL k x).length = k.length := by simp [xorL]
/-- The first i bytes have been changed. -/
def xorA (k : List Nat) (x i : Nat) : List Nat := xorL (k.take i) x ++ k.drop i
theorem xorA_length (k : List Nat) (x i : Nat) : (xorA k x i).length = k.length := by simp [xorA, xorL]; omega
theorem xorA_zero (k : List Nat) (x : Nat) : xorA k x 0 = k := by simp [xorA, xorL]
theorem xorA_full (k : List Nat) (x : Nat) : xorA k x k.length = xorL k x := by simp [xorA]
theorem xorA_get (k : List Nat) (x i : Nat) (h : i < k.length) : (xorA k x i)[i]? = some k[i] := by
  unfold xorA
  rw [List.getElem?_append_right (by rw [xorL_length, List.length_take]; omega), xorL_length, List.length_take, Nat.min_eq_left (by omega), Nat.sub_self, List.getElem?_drop, Nat.add_zero, List.getElem?_eq_getElem h]
theorem xorA_set (k : List Nat) (x i : Nat) (h : i < k.length) : (xorA k x i).set i (k[i] ^^^ x) = xorA k x (i + 1) := by
  have hl : (xorL (k.take i) x).length = i := by rw [xorL_length, List.length_take]; omega
  unfold xorA
  rw [List.set_append_right _ _ (by omega), hl, Nat.sub_self, List.drop_eq_getElem_cons h, List.set_cons_zero, List.take_add_one, List.getElem?_eq_getElem h]
  simp only [Option.toList_some, xorL, List.map_append, List.map_cons, List.map_nil, List.append_assoc, List.cons_append, List.nil_append]
theorem xor_u8 (y x : Nat) (hy : y < 256) (hx : x < 256) : bits BinOp.xor IntKind.u8 (y : Int) (x : Int) = ((y ^^^ x : Nat) : Int) := by
  have h := xor_lt hy hx
  show IntKind.u8.wrap ((BitVec.ofInt 8 (y : Int) ^^^ BitVec.ofInt 8 (x : Int)).toNat : Int) = _
  rw [BitVec.ofInt_natCast, BitVec.ofInt_natCast, BitVec.toNat_xor, BitVec.toNat_ofNat, BitVec.toNat_ofNat, Nat.mod_eq_of_lt hy, Nat.mod_eq_of_lt hx]
  simp [IntKind.wrap, IntKind.signed, IntKind.bits]
  omega

end Go.Proofs.YtfhfmdnimebegaaDoor
