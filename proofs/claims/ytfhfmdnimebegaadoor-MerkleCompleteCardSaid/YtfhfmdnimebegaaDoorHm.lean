/-
  Plain mathematics: SHA-256 over lists of bytes and 32-bit words. No program is named here.
-/
import Derived.Test.YtfhfmdnimebegaaDoorWm
namespace Go.Proofs.YtfhfmdnimebegaaDoor
set_option linter.unusedVariables false
set_option linter.unusedSimpArgs false

def rot (x : BitVec 32) (n : Nat) : BitVec 32 := x >>> n ||| x <<< (32 - n)
/-- Word t of a block of bytes. -/
def word (b : List Nat) (t : Nat) : BitVec 32 :=
  BitVec.ofNat 32 (b.getD (4 * t) 0) <<< 24 ||| BitVec.ofNat 32 (b.getD (4 * t + 1) 0) <<< 16 ||| BitVec.ofNat 32 (b.getD (4 * t + 2) 0) <<< 8 ||| BitVec.ofNat 32 (b.getD (4 * t + 3) 0)
def sig0 (x : BitVec 32) : BitVec 32 := rot x 7 ^^^ rot x 18 ^^^ x >>> 3
def sig1 (x : BitVec 32) : BitVec 32 := rot x 17 ^^^ rot x 19 ^^^ x >>> 10
/-- The word that follows the words ws. -/
def nextW (b : List Nat) (ws : List (BitVec 32)) : BitVec 32 :=
  if ws.length < 16 then word b ws.length
  else ws.getD (ws.length - 16) 0 + sig0 (ws.getD (ws.length - 15) 0) + ws.getD (ws.length - 7) 0 + sig1 (ws.getD (ws.length - 2) 0)
/-- The first t words of all rounds. -/
def sched (b : List Nat) : Nat → List (BitVec 32)
  | 0 => []
  | t + 1 => sched b t ++ [nextW b (sched b t)]
theorem sched_length (b : List Nat) : ∀ t, (sched b t).length = t
  | 0 => rfl
  | t + 1 => by simp [sched, sched_length b t]

structure St where
  a : BitVec 32
  b : BitVec 32
  c : BitVec 32
  d : BitVec 32
  e : BitVec 32
  f : BitVec 32
  g : BitVec 32
  h : BitVec 32
  deriving DecidableEq
def rx (s : St) (k w : BitVec 32) : BitVec 32 := s.h + (rot s.e 6 ^^^ rot s.e 11 ^^^ rot s.e 25) + (s.e &&& s.f ^^^ ~~~s.e &&& s.g) + k + w
def ry (s : St) : BitVec 32 := (rot s.a 2 ^^^ rot s.a 13 ^^^ rot s.a 22) + (s.a &&& s.b ^^^ s.a &&& s.c ^^^ s.b &&& s.c)
/-- One round. -/
def rnd (s : St) (k w : BitVec 32) : St := ⟨rx s k w + ry s, s.a, s.b, s.c, s.d + rx s k w, s.e, s.f, s.g⟩
def rnds (K W : List (BitVec 32)) (s : St) : Nat → St
  | 0 => s
  | t + 1 => rnd (rnds K W s t) (K.getD t 0) (W.getD t 0)
def addSt (s t : St) : St := ⟨s.a + t.a, s.b + t.b, s.c + t.c, s.d + t.d, s.e + t.e, s.f + t.f, s.g + t.g, s.h + t.h⟩
def kk : List (BitVec 32) := [1116352408, 1899447441, 3049323471, 3921009573, 961987163, 1508970993, 2453635748, 2870763221, 3624381080, 310598401, 607225278, 1426881987, 1925078388, 2162078206, 2614888103, 3248222580, 3835390401, 4022224774, 264347078, 604807628, 770255983, 1249150122, 1555081692, 1996064986, 2554220882, 2821834349, 2952996808, 3210313671, 3336571891, 3584528711, 113926993, 338241895, 666307205, 773529912, 1294757372, 1396182291, 1695183700, 1986661051, 2177026350, 2456956037, 2730485921, 2820302411, 3259730800, 3345764771, 3516065817, 3600352804, 4094571909, 275423344, 430227734, 506948616, 659060556, 883997877, 958139571, 1322822218, 1537002063, 1747873779, 1955562222, 2024104815, 2227730452, 2361852424, 2428436474, 2756734187, 3204031479, 3329325298]
def st0 : St := ⟨1779033703, 3144134277, 1013904242, 2773480762, 1359893119, 2600822924, 528734635, 1541459225⟩
/-- The hash value after one more block. -/
def comp (s : St) (b : List Nat) : St := addSt s (rnds kk (sched b 64) s 64)
/-- The hash value after the first k blocks of m. -/
def hst (m : List Nat) : Nat → St
  | 0 => st0
  | k + 1 => comp (hst m k) ((m.drop (64 * k)).take 64)
/-- How many zero bytes follow the byte 128. -/
def zeros (n : Nat) : Nat := (119 - n % 64) % 64
def tail (n : Nat) : List Nat := 128 :: (List.replicate (zeros n) 0 ++ be 8 (8 * n))
def pad (m : List Nat) : List Nat := m ++ tail m.length
def outB (s : St) : List Nat := [s.a, s.b, s.c, s.d, s.e, s.f, s.g, s.h].flatMap fun w => be 4 w.toNat
def sha (m : List Nat) : List Nat := outB (hst (pad m) ((pad m).length / 64))

theorem zeros_mod (n : Nat) : (n + 1 + zeros n) % 64 = 56 := by unfold zeros; omega
theorem zeros_lt (n : Nat) : zeros n < 64 := by unfold zeros; omega
theorem tail_length (n : Nat) : (tail n).length = 9 + zeros n := by simp [tail, be_length]; omega
theorem pad_length (m : List Nat) : (pad m).length % 64 = 0 := by
  unfold pad
  rw [List.length_append, tail_length]
  have := zeros_mod m.length
  omega
/-- Only the blocks themselves count. -/
theorem hst_append (m t : List Nat) : ∀ k, 64 * k ≤ m.length → hst (m ++ t) k = hst m k
  | 0, _ => rfl
  | k + 1, h => by
    rw [hst, hst, hst_append m t k (by omega)]
    congr 1
    rw [List.drop_append_of_le_length (by omega), List.take_append_of_le_length (by rw [List.length_drop]; omega)]

theorem sha_abc : sha [97, 98, 99] = [186, 120, 22, 191, 143, 1, 207, 234, 65, 65, 64, 222, 93, 174, 34, 35, 176, 3, 97, 163, 150, 23, 122, 156, 180, 16, 255, 97, 242, 0, 21, 173] := by decide +kernel

end Go.Proofs.YtfhfmdnimebegaaDoor
