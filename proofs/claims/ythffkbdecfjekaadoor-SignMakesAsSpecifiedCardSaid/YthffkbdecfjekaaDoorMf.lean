/-
  the examples of the documentation, reckoned by the kernel; the arguments of the laws, opened. Conditions: as each theorem states them; no axiom beyond propext, Classical.choice, Quot.sound.
-/
import Derived.Test.YthffkbdecfjekaaDoorMa
import Derived.Test.YthffkbdecfjekaaDoorMd
import Derived.Test.YthffkbdecfjekaaDoorMe
import Derived.Test.YthffkbdecfjekaaDoorMc
import Derived.OpenShut
import Derived.Deep.Slices

/-
  A fast SHA-256 over natural numbers, for the kernel, and that it is the one of Hm. Plain mathematics.
-/
namespace Go.Proofs.YthffkbdecfjekaaDoor
set_option linter.unusedVariables false
set_option linter.unusedSimpArgs false

/-- The number first, then what is done with it. -/
def force {α : Sort _} (n : Nat) (k : Nat → α) : α := Nat.rec (k 0) (fun m _ => k (Nat.succ m)) n
theorem force_eq {α : Sort _} (n : Nat) (k : Nat → α) : force n k = k n := by cases n <;> rfl

structure SN where
  a : Nat
  b : Nat
  c : Nat
  d : Nat
  e : Nat
  f : Nat
  g : Nat
  h : Nat

def big1 (x : Nat) : Nat := Nat.mod (Nat.xor (Nat.xor (Nat.shiftRight (Nat.mul x (nat_lit 4294967297)) (nat_lit 6)) (Nat.shiftRight (Nat.mul x (nat_lit 4294967297)) (nat_lit 11))) (Nat.shiftRight (Nat.mul x (nat_lit 4294967297)) (nat_lit 25))) (nat_lit 4294967296)
def big0 (x : Nat) : Nat := Nat.mod (Nat.xor (Nat.xor (Nat.shiftRight (Nat.mul x (nat_lit 4294967297)) (nat_lit 2)) (Nat.shiftRight (Nat.mul x (nat_lit 4294967297)) (nat_lit 13))) (Nat.shiftRight (Nat.mul x (nat_lit 4294967297)) (nat_lit 22))) (nat_lit 4294967296)
def sml0 (x : Nat) : Nat := Nat.xor (Nat.mod (Nat.xor (Nat.shiftRight (Nat.mul x (nat_lit 4294967297)) (nat_lit 7)) (Nat.shiftRight (Nat.mul x (nat_lit 4294967297)) (nat_lit 18))) (nat_lit 4294967296)) (Nat.shiftRight x (nat_lit 3))
def sml1 (x : Nat) : Nat := Nat.xor (Nat.mod (Nat.xor (Nat.shiftRight (Nat.mul x (nat_lit 4294967297)) (nat_lit 17)) (Nat.shiftRight (Nat.mul x (nat_lit 4294967297)) (nat_lit 19))) (nat_lit 4294967296)) (Nat.shiftRight x (nat_lit 10))
def tN1 (e f g h k w : Nat) : Nat := Nat.add (Nat.add (Nat.add h (big1 e)) (Nat.xor g (Nat.land e (Nat.xor f g)))) (Nat.add k w)
def tN2 (a b c : Nat) : Nat := Nat.add (big0 a) (Nat.xor (Nat.xor (Nat.land a b) (Nat.land a c)) (Nat.land b c))
def nxt (w0 w1 w9 w14 : Nat) : Nat := Nat.mod (Nat.add (Nat.add w0 (sml0 w1)) (Nat.add w9 (sml1 w14))) (nat_lit 4294967296)

def goN (s : SN) : List Nat → Nat → Nat → Nat → Nat → Nat → Nat → Nat → Nat → Nat → Nat → Nat → Nat → Nat → Nat → Nat → Nat → Nat → Nat → Nat → Nat → Nat → Nat → Nat → Nat → SN
  | [], _, _, _, _, _, _, _, _, _, _, _, _, _, _, _, _, a, b, c, d, e, f, g, h =>
    force (Nat.mod (Nat.add s.a a) (nat_lit 4294967296)) fun a => force (Nat.mod (Nat.add s.b b) (nat_lit 4294967296)) fun b => force (Nat.mod (Nat.add s.c c) (nat_lit 4294967296)) fun c => force (Nat.mod (Nat.add s.d d) (nat_lit 4294967296)) fun d =>
    force (Nat.mod (Nat.add s.e e) (nat_lit 4294967296)) fun e => force (Nat.mod (Nat.add s.f f) (nat_lit 4294967296)) fun f => force (Nat.mod (Nat.add s.g g) (nat_lit 4294967296)) fun g => force (Nat.mod (Nat.add s.h h) (nat_lit 4294967296)) fun h => ⟨a, b, c, d, e, f, g, h⟩
  | k :: ks, w0, w1, w2, w3, w4, w5, w6, w7, w8, w9, w10, w11, w12, w13, w14, w15, a, b, c, d, e, f, g, h =>
    force (tN1 e f g h k w0) fun t => force (Nat.mod (Nat.add t (tN2 a b c)) (nat_lit 4294967296)) fun x => force (Nat.mod (Nat.add d t) (nat_lit 4294967296)) fun y => force (nxt w0 w1 w9 w14) fun w =>
    goN s ks w1 w2 w3 w4 w5 w6 w7 w8 w9 w10 w11 w12 w13 w14 w15 w x a b c y e f g
def kN : List Nat := [nat_lit 1116352408, nat_lit 1899447441, nat_lit 3049323471, nat_lit 3921009573, nat_lit 961987163, nat_lit 1508970993, nat_lit 2453635748, nat_lit 2870763221, nat_lit 3624381080, nat_lit 310598401, nat_lit 607225278, nat_lit 1426881987, nat_lit 1925078388, nat_lit 2162078206, nat_lit 2614888103, nat_lit 3248222580, nat_lit 3835390401, nat_lit 4022224774, nat_lit 264347078, nat_lit 604807628, nat_lit 770255983, nat_lit 1249150122, nat_lit 1555081692, nat_lit 1996064986, nat_lit 2554220882, nat_lit 2821834349, nat_lit 2952996808, nat_lit 3210313671, nat_lit 3336571891, nat_lit 3584528711, nat_lit 113926993, nat_lit 338241895, nat_lit 666307205, nat_lit 773529912, nat_lit 1294757372, nat_lit 1396182291, nat_lit 1695183700, nat_lit 1986661051, nat_lit 2177026350, nat_lit 2456956037, nat_lit 2730485921, nat_lit 2820302411, nat_lit 3259730800, nat_lit 3345764771, nat_lit 3516065817, nat_lit 3600352804, nat_lit 4094571909, nat_lit 275423344, nat_lit 430227734, nat_lit 506948616, nat_lit 659060556, nat_lit 883997877, nat_lit 958139571, nat_lit 1322822218, nat_lit 1537002063, nat_lit 1747873779, nat_lit 1955562222, nat_lit 2024104815, nat_lit 2227730452, nat_lit 2361852424, nat_lit 2428436474, nat_lit 2756734187, nat_lit 3204031479, nat_lit 3329325298]
def wN (a b c d : Nat) : Nat := Nat.add (Nat.add (Nat.mul a (nat_lit 16777216)) (Nat.mul b (nat_lit 65536))) (Nat.add (Nat.mul c (nat_lit 256)) d)
/-- One block taken off the front. -/
def stepN (s : SN) : List Nat → SN × List Nat
  | a0 :: a1 :: a2 :: a3 :: b0 :: b1 :: b2 :: b3 :: c0 :: c1 :: c2 :: c3 :: d0 :: d1 :: d2 :: d3 ::
    e0 :: e1 :: e2 :: e3 :: f0 :: f1 :: f2 :: f3 :: g0 :: g1 :: g2 :: g3 :: h0 :: h1 :: h2 :: h3 ::
    i0 :: i1 :: i2 :: i3 :: j0 :: j1 :: j2 :: j3 :: k0 :: k1 :: k2 :: k3 :: l0 :: l1 :: l2 :: l3 ::
    m0 :: m1 :: m2 :: m3 :: n0 :: n1 :: n2 :: n3 :: o0 :: o1 :: o2 :: o3 :: p0 :: p1 :: p2 :: p3 :: r =>
    (goN s kN (wN a0 a1 a2 a3) (wN b0 b1 b2 b3) (wN c0 c1 c2 c3) (wN d0 d1 d2 d3) (wN e0 e1 e2 e3) (wN f0 f1 f2 f3) (wN g0 g1 g2 g3) (wN h0 h1 h2 h3)
      (wN i0 i1 i2 i3) (wN j0 j1 j2 j3) (wN k0 k1 k2 k3) (wN l0 l1 l2 l3) (wN m0 m1 m2 m3) (wN n0 n1 n2 n3) (wN o0 o1 o2 o3) (wN p0 p1 p2 p3) s.a s.b s.c s.d s.e s.f s.g s.h, r)
  | r => (s, r)


def blocksN : Nat → SN → List Nat → SN
  | 0, s, _ => s
  | n + 1, s, l => match stepN s l with
    | (t, r) => blocksN n t r
def sN0 : SN := ⟨nat_lit 1779033703, nat_lit 3144134277, nat_lit 1013904242, nat_lit 2773480762, nat_lit 1359893119, nat_lit 2600822924, nat_lit 528734635, nat_lit 1541459225⟩
def outW (x : Nat) (r : List Nat) : List Nat := Nat.mod (Nat.div x (nat_lit 16777216)) (nat_lit 256) :: Nat.mod (Nat.div x (nat_lit 65536)) (nat_lit 256) :: Nat.mod (Nat.div x (nat_lit 256)) (nat_lit 256) :: Nat.mod x (nat_lit 256) :: r
def outN : SN → List Nat
  | ⟨a, b, c, d, e, f, g, h⟩ => outW a (outW b (outW c (outW d (outW e (outW f (outW g (outW h [])))))))
def shaN (m : List Nat) : List Nat := outN (blocksN ((pad m).length / 64) sN0 (pad m))
def eqN : List Nat → List Nat → Bool
  | [], [] => true
  | a :: l, b :: m => match Nat.beq a b with
    | true => eqN l m
    | false => false
  | _, _ => false

theorem rotN (x : BitVec 32) (n : Nat) (h1 : 0 < n) (h : n < 32) : (rot x n).toNat = (x.toNat * 4294967297) >>> n % 4294967296 := by
  have hx := x.isLt
  unfold rot
  rw [show x.toNat * 4294967297 = 2 ^ 32 * x.toNat + x.toNat by omega, show (4294967296 : Nat) = 2 ^ 32 from rfl]
  apply Nat.eq_of_testBit_eq
  intro i
  rw [BitVec.toNat_or, BitVec.toNat_ushiftRight, BitVec.toNat_shiftLeft, Nat.testBit_or, Nat.testBit_shiftRight, Nat.testBit_mod_two_pow, Nat.testBit_mod_two_pow, Nat.testBit_shiftRight, Nat.testBit_shiftLeft, Nat.testBit_two_pow_mul_add _ hx]
  by_cases hi : i < 32
  · by_cases hn : n + i < 32
    · simp [hi, hn, show ¬ (32 - n ≤ i) by omega]
    · have : x.toNat.testBit (n + i) = false := Nat.testBit_lt_two_pow (Nat.lt_of_lt_of_le hx (Nat.pow_le_pow_right (by omega) (by omega)))
      simp [hi, hn, this, show 32 - n ≤ i by omega, show i - (32 - n) = n + i - 32 by omega]
  · have : x.toNat.testBit (n + i) = false := Nat.testBit_lt_two_pow (Nat.lt_of_lt_of_le hx (Nat.pow_le_pow_right (by omega) (by omega)))
    simp [hi, this]
theorem chB (e f g : BitVec 32) : (e &&& f ^^^ ~~~e &&& g) = g ^^^ (e &&& (f ^^^ g)) := by
  apply BitVec.eq_of_getLsbD_eq
  intro i hi
  simp only [BitVec.getLsbD_xor, BitVec.getLsbD_and, BitVec.getLsbD_not, hi, decide_true, Bool.true_and]
  cases e.getLsbD i <;> cases f.getLsbD i <;> cases g.getLsbD i <;> rfl


def toN (s : St) : SN := ⟨s.a.toNat, s.b.toNat, s.c.toNat, s.d.toNat, s.e.toNat, s.f.toNat, s.g.toNat, s.h.toNat⟩
theorem xor_mod32 (x y : Nat) : (x ^^^ y) % 4294967296 = (x % 4294967296) ^^^ (y % 4294967296) := Nat.xor_mod_two_pow (n := 32)
theorem big1_eq (x : BitVec 32) : big1 x.toNat = (rot x 6 ^^^ rot x 11 ^^^ rot x 25).toNat := by
  rw [BitVec.toNat_xor, BitVec.toNat_xor, rotN x 6 (by omega) (by omega), rotN x 11 (by omega) (by omega), rotN x 25 (by omega) (by omega), ← xor_mod32, ← xor_mod32]
  rfl
theorem big0_eq (x : BitVec 32) : big0 x.toNat = (rot x 2 ^^^ rot x 13 ^^^ rot x 22).toNat := by
  rw [BitVec.toNat_xor, BitVec.toNat_xor, rotN x 2 (by omega) (by omega), rotN x 13 (by omega) (by omega), rotN x 22 (by omega) (by omega), ← xor_mod32, ← xor_mod32]
  rfl
theorem sml0_eq (x : BitVec 32) : sml0 x.toNat = (sig0 x).toNat := by
  unfold sig0
  rw [BitVec.toNat_xor, BitVec.toNat_xor, rotN x 7 (by omega) (by omega), rotN x 18 (by omega) (by omega), ← xor_mod32, BitVec.toNat_ushiftRight]
  rfl
theorem sml1_eq (x : BitVec 32) : sml1 x.toNat = (sig1 x).toNat := by
  unfold sig1
  rw [BitVec.toNat_xor, BitVec.toNat_xor, rotN x 17 (by omega) (by omega), rotN x 19 (by omega) (by omega), ← xor_mod32, BitVec.toNat_ushiftRight]
  rfl
theorem ch_eq (e f g : BitVec 32) : Nat.xor g.toNat (Nat.land e.toNat (Nat.xor f.toNat g.toNat)) = (e &&& f ^^^ ~~~e &&& g).toNat := by
  rw [chB, BitVec.toNat_xor, BitVec.toNat_and, BitVec.toNat_xor]
  rfl
theorem maj_eq (a b c : BitVec 32) : Nat.xor (Nat.xor (Nat.land a.toNat b.toNat) (Nat.land a.toNat c.toNat)) (Nat.land b.toNat c.toNat) = (a &&& b ^^^ a &&& c ^^^ b &&& c).toNat := by
  rw [BitVec.toNat_xor, BitVec.toNat_xor, BitVec.toNat_and, BitVec.toNat_and, BitVec.toNat_and]
  rfl
theorem new_a (s : St) (k w : BitVec 32) : Nat.mod (Nat.add (tN1 s.e.toNat s.f.toNat s.g.toNat s.h.toNat k.toNat w.toNat) (tN2 s.a.toNat s.b.toNat s.c.toNat)) 4294967296 = (rx s k w + ry s).toNat := by
  unfold tN1 tN2 rx ry
  rw [big1_eq, big0_eq, ch_eq, maj_eq]
  simp only [BitVec.toNat_add, Nat.add_eq, show (2 : Nat) ^ 32 = 4294967296 from rfl]
  show (_ + _) % 4294967296 = _
  omega
theorem new_e (s : St) (k w : BitVec 32) : Nat.mod (Nat.add s.d.toNat (tN1 s.e.toNat s.f.toNat s.g.toNat s.h.toNat k.toNat w.toNat)) 4294967296 = (s.d + rx s k w).toNat := by
  unfold tN1 rx
  rw [big1_eq, ch_eq]
  simp only [BitVec.toNat_add, Nat.add_eq, show (2 : Nat) ^ 32 = 4294967296 from rfl]
  show (_ + _) % 4294967296 = _
  omega
theorem new_w (a b c d : BitVec 32) : nxt a.toNat b.toNat c.toNat d.toNat = (a + sig0 b + c + sig1 d).toNat := by
  unfold nxt
  rw [sml0_eq, sml1_eq]
  simp only [BitVec.toNat_add, Nat.add_eq, show (2 : Nat) ^ 32 = 4294967296 from rfl]
  show (_ + _) % 4294967296 = _
  omega
/-- Word t of all rounds. -/
def wd (b : List Nat) (t : Nat) : BitVec 32 := nextW b (sched b t)
theorem sched_get (b : List Nat) : ∀ n t, t < n → (sched b n).getD t 0 = wd b t
  | n + 1, t, h => by
    rw [sched, List.getD_eq_getElem?_getD]
    by_cases ht : t < n
    · rw [List.getElem?_append_left (by rw [sched_length]; exact ht), ← List.getD_eq_getElem?_getD]
      exact sched_get b n t ht
    · have : t = n := by omega
      subst this
      rw [List.getElem?_append_right (by rw [sched_length]; omega), sched_length, Nat.sub_self]
      rfl
theorem wd_next (b : List Nat) (t : Nat) : wd b (t + 16) = wd b t + sig0 (wd b (t + 1)) + wd b (t + 9) + sig1 (wd b (t + 14)) := by
  rw [wd, nextW, sched_length, if_neg (by omega), sched_get b _ _ (by omega), sched_get b _ _ (by omega), sched_get b _ _ (by omega), sched_get b _ _ (by omega)]
  rw [show t + 16 - 16 = t by omega, show t + 16 - 15 = t + 1 by omega, show t + 16 - 7 = t + 9 by omega, show t + 16 - 2 = t + 14 by omega]
theorem kN_get : kN = kk.map BitVec.toNat := by decide +kernel
theorem kkF_length : kk.length = 64 := rfl
theorem go_nil (s : SN) (w0 w1 w2 w3 w4 w5 w6 w7 w8 w9 w10 w11 w12 w13 w14 w15 a b c d e f g h : Nat) : goN s [] w0 w1 w2 w3 w4 w5 w6 w7 w8 w9 w10 w11 w12 w13 w14 w15 a b c d e f g h =
    ⟨(s.a + a) % 4294967296, (s.b + b) % 4294967296, (s.c + c) % 4294967296, (s.d + d) % 4294967296, (s.e + e) % 4294967296, (s.f + f) % 4294967296, (s.g + g) % 4294967296, (s.h + h) % 4294967296⟩ := by
  rw [goN]
  simp only [force_eq]
  rfl
theorem go_cons (s : SN) (k : Nat) (ks : List Nat) (w0 w1 w2 w3 w4 w5 w6 w7 w8 w9 w10 w11 w12 w13 w14 w15 a b c d e f g h : Nat) : goN s (k :: ks) w0 w1 w2 w3 w4 w5 w6 w7 w8 w9 w10 w11 w12 w13 w14 w15 a b c d e f g h =
    goN s ks w1 w2 w3 w4 w5 w6 w7 w8 w9 w10 w11 w12 w13 w14 w15 (nxt w0 w1 w9 w14) (Nat.mod (Nat.add (tN1 e f g h k w0) (tN2 a b c)) 4294967296) a b c (Nat.mod (Nat.add d (tN1 e f g h k w0)) 4294967296) e f g := by
  rw [goN]
  simp only [force_eq]
def GO (s0 : St) (b : List Nat) (t : Nat) (s : St) : SN :=
    goN (toN s0) (kN.drop t) (wd b t).toNat (wd b (t + 1)).toNat (wd b (t + 2)).toNat (wd b (t + 3)).toNat (wd b (t + 4)).toNat (wd b (t + 5)).toNat (wd b (t + 6)).toNat (wd b (t + 7)).toNat
      (wd b (t + 8)).toNat (wd b (t + 9)).toNat (wd b (t + 10)).toNat (wd b (t + 11)).toNat (wd b (t + 12)).toNat (wd b (t + 13)).toNat (wd b (t + 14)).toNat (wd b (t + 15)).toNat
      s.a.toNat s.b.toNat s.c.toNat s.d.toNat s.e.toNat s.f.toNat s.g.toNat s.h.toNat
theorem kN_drop (t : Nat) (h : t < 64) : kN.drop t = (kk.getD t 0).toNat :: kN.drop (t + 1) := by
  have hl : t < kk.length := h
  rw [kN_get, List.drop_eq_getElem_cons (by rw [List.length_map]; exact hl), List.getElem_map, List.getD_eq_getElem?_getD, List.getElem?_eq_getElem hl]
  rfl
theorem GO_step (s0 : St) (b : List Nat) (t : Nat) (s : St) (h : t < 64) : GO s0 b t s = GO s0 b (t + 1) (rnd s (kk.getD t 0) (wd b t)) := by
  unfold GO
  rw [kN_drop t h, go_cons, new_w, new_a, new_e, ← wd_next]
  simp only [rnd, Nat.add_assoc, Nat.reduceAdd]
theorem GO_end (s0 : St) (b : List Nat) (s : St) : GO s0 b 64 s = toN (addSt s0 s) := by
  unfold GO
  rw [show kN.drop 64 = [] from rfl, go_nil]
  rfl
theorem GO_any (s0 st : St) (b : List Nat) (n : Nat) : ∀ t, t + n = 64 → GO s0 b t (rnds kk (sched b 64) st t) = toN (addSt s0 (rnds kk (sched b 64) st 64)) := by
  induction n with
  | zero =>
    intro t h
    have : t = 64 := by omega
    rw [this]
    exact GO_end _ _ _
  | succ n ih =>
    intro t h
    rw [GO_step _ _ _ _ (by omega), ← ih (t + 1) (by omega), rnds, sched_get b 64 t (by omega)]
theorem comp_eq (s : St) (b : List Nat) : GO s b 0 s = toN (comp s b) := GO_any s s b 64 0 rfl
theorem wN_eq (a b c d : Nat) (ha : a < 256) (hb : b < 256) (hc : c < 256) (hd : d < 256) : wN a b c d = (BitVec.ofNat 32 a <<< 24 ||| BitVec.ofNat 32 b <<< 16 ||| BitVec.ofNat 32 c <<< 8 ||| BitVec.ofNat 32 d).toNat := by
  simp only [BitVec.toNat_or, BitVec.toNat_shiftLeft, BitVec.toNat_ofNat, Nat.shiftLeft_eq]
  rw [Nat.mod_eq_of_lt (show a < 2 ^ 32 by omega), Nat.mod_eq_of_lt (show b < 2 ^ 32 by omega), Nat.mod_eq_of_lt (show c < 2 ^ 32 by omega), Nat.mod_eq_of_lt (show d < 2 ^ 32 by omega)]
  rw [Nat.mod_eq_of_lt (show a * 2 ^ 24 < 2 ^ 32 by omega), Nat.mod_eq_of_lt (show b * 2 ^ 16 < 2 ^ 32 by omega), Nat.mod_eq_of_lt (show c * 2 ^ 8 < 2 ^ 32 by omega)]
  rw [Nat.mul_comm a, Nat.mul_comm b, Nat.mul_comm c]
  rw [← Nat.two_pow_add_eq_or_of_lt (show 2 ^ 16 * b < 2 ^ 24 by omega) a]
  rw [show 2 ^ 24 * a + 2 ^ 16 * b = 2 ^ 16 * (2 ^ 8 * a + b) by omega, ← Nat.two_pow_add_eq_or_of_lt (show 2 ^ 8 * c < 2 ^ 16 by omega)]
  rw [show 2 ^ 16 * (2 ^ 8 * a + b) + 2 ^ 8 * c = 2 ^ 8 * (2 ^ 8 * (2 ^ 8 * a + b) + c) by omega, ← Nat.two_pow_add_eq_or_of_lt (show d < 2 ^ 8 by omega)]
  show (a * 16777216 + b * 65536) + (c * 256 + d) = _
  omega

theorem wd_word (b : List Nat) (t : Nat) (h : t < 16) : wd b t = word b t := by
  unfold wd nextW
  rw [sched_length, if_pos h]
theorem word_eq (b r : List Nat) (a0 a1 a2 a3 : Nat) (t : Nat) (h0 : b.getD (4 * t) 0 = a0) (h1 : b.getD (4 * t + 1) 0 = a1) (h2 : b.getD (4 * t + 2) 0 = a2) (h3 : b.getD (4 * t + 3) 0 = a3) (hb : ∀ y ∈ [a0, a1, a2, a3], y < 256) (ht : t < 16) : (wd b t).toNat = wN a0 a1 a2 a3 := by
  rw [wd_word b t ht, wN_eq a0 a1 a2 a3 (hb _ (by simp)) (hb _ (by simp)) (hb _ (by simp)) (hb _ (by simp)), word, h0, h1, h2, h3]
theorem cons_ge {l : List Nat} {n : Nat} (h : n + 1 ≤ l.length) : ∃ a t, l = a :: t ∧ n ≤ t.length := by
  cases l with
  | nil => simp at h
  | cons a t => exact ⟨a, t, rfl, by simpa using h⟩
set_option maxHeartbeats 2000000 in
theorem step_eq (s : St) (l : List Nat) (h : 64 ≤ l.length) (hb : ∀ y ∈ l, y < 256) : stepN (toN s) l = (toN (comp s (l.take 64)), l.drop 64) := by
  rw [← comp_eq]
  unfold GO
  obtain ⟨xa0, r0, rfl, h0⟩ := cons_ge h
  obtain ⟨xa1, r1, rfl, h1⟩ := cons_ge h0
  obtain ⟨xa2, r2, rfl, h2⟩ := cons_ge h1
  obtain ⟨xa3, r3, rfl, h3⟩ := cons_ge h2
  obtain ⟨xb0, r4, rfl, h4⟩ := cons_ge h3
  obtain ⟨xb1, r5, rfl, h5⟩ := cons_ge h4
  obtain ⟨xb2, r6, rfl, h6⟩ := cons_ge h5
  obtain ⟨xb3, r7, rfl, h7⟩ := cons_ge h6
  obtain ⟨xc0, r8, rfl, h8⟩ := cons_ge h7
  obtain ⟨xc1, r9, rfl, h9⟩ := cons_ge h8
  obtain ⟨xc2, r10, rfl, h10⟩ := cons_ge h9
  obtain ⟨xc3, r11, rfl, h11⟩ := cons_ge h10
  obtain ⟨xd0, r12, rfl, h12⟩ := cons_ge h11
  obtain ⟨xd1, r13, rfl, h13⟩ := cons_ge h12
  obtain ⟨xd2, r14, rfl, h14⟩ := cons_ge h13
  obtain ⟨xd3, r15, rfl, h15⟩ := cons_ge h14
  obtain ⟨xe0, r16, rfl, h16⟩ := cons_ge h15
  obtain ⟨xe1, r17, rfl, h17⟩ := cons_ge h16
  obtain ⟨xe2, r18, rfl, h18⟩ := cons_ge h17
  obtain ⟨xe3, r19, rfl, h19⟩ := cons_ge h18
  obtain ⟨xf0, r20, rfl, h20⟩ := cons_ge h19
  obtain ⟨xf1, r21, rfl, h21⟩ := cons_ge h20
  obtain ⟨xf2, r22, rfl, h22⟩ := cons_ge h21
  obtain ⟨xf3, r23, rfl, h23⟩ := cons_ge h22
  obtain ⟨xg0, r24, rfl, h24⟩ := cons_ge h23
  obtain ⟨xg1, r25, rfl, h25⟩ := cons_ge h24
  obtain ⟨xg2, r26, rfl, h26⟩ := cons_ge h25
  obtain ⟨xg3, r27, rfl, h27⟩ := cons_ge h26
  obtain ⟨xh0, r28, rfl, h28⟩ := cons_ge h27
  obtain ⟨xh1, r29, rfl, h29⟩ := cons_ge h28
  obtain ⟨xh2, r30, rfl, h30⟩ := cons_ge h29
  obtain ⟨xh3, r31, rfl, h31⟩ := cons_ge h30
  obtain ⟨xi0, r32, rfl, h32⟩ := cons_ge h31
  obtain ⟨xi1, r33, rfl, h33⟩ := cons_ge h32
  obtain ⟨xi2, r34, rfl, h34⟩ := cons_ge h33
  obtain ⟨xi3, r35, rfl, h35⟩ := cons_ge h34
  obtain ⟨xj0, r36, rfl, h36⟩ := cons_ge h35
  obtain ⟨xj1, r37, rfl, h37⟩ := cons_ge h36
  obtain ⟨xj2, r38, rfl, h38⟩ := cons_ge h37
  obtain ⟨xj3, r39, rfl, h39⟩ := cons_ge h38
  obtain ⟨xk0, r40, rfl, h40⟩ := cons_ge h39
  obtain ⟨xk1, r41, rfl, h41⟩ := cons_ge h40
  obtain ⟨xk2, r42, rfl, h42⟩ := cons_ge h41
  obtain ⟨xk3, r43, rfl, h43⟩ := cons_ge h42
  obtain ⟨xl0, r44, rfl, h44⟩ := cons_ge h43
  obtain ⟨xl1, r45, rfl, h45⟩ := cons_ge h44
  obtain ⟨xl2, r46, rfl, h46⟩ := cons_ge h45
  obtain ⟨xl3, r47, rfl, h47⟩ := cons_ge h46
  obtain ⟨xm0, r48, rfl, h48⟩ := cons_ge h47
  obtain ⟨xm1, r49, rfl, h49⟩ := cons_ge h48
  obtain ⟨xm2, r50, rfl, h50⟩ := cons_ge h49
  obtain ⟨xm3, r51, rfl, h51⟩ := cons_ge h50
  obtain ⟨xn0, r52, rfl, h52⟩ := cons_ge h51
  obtain ⟨xn1, r53, rfl, h53⟩ := cons_ge h52
  obtain ⟨xn2, r54, rfl, h54⟩ := cons_ge h53
  obtain ⟨xn3, r55, rfl, h55⟩ := cons_ge h54
  obtain ⟨xo0, r56, rfl, h56⟩ := cons_ge h55
  obtain ⟨xo1, r57, rfl, h57⟩ := cons_ge h56
  obtain ⟨xo2, r58, rfl, h58⟩ := cons_ge h57
  obtain ⟨xo3, r59, rfl, h59⟩ := cons_ge h58
  obtain ⟨xp0, r60, rfl, h60⟩ := cons_ge h59
  obtain ⟨xp1, r61, rfl, h61⟩ := cons_ge h60
  obtain ⟨xp2, r62, rfl, h62⟩ := cons_ge h61
  obtain ⟨xp3, r63, rfl, h63⟩ := cons_ge h62
  clear h h0 h1 h2 h3 h4 h5 h6 h7 h8 h9 h10 h11 h12 h13 h14 h15 h16 h17 h18 h19 h20 h21 h22 h23 h24 h25 h26 h27 h28 h29 h30 h31 h32 h33 h34 h35 h36 h37 h38 h39 h40 h41 h42 h43 h44 h45 h46 h47 h48 h49 h50 h51 h52 h53 h54 h55 h56 h57 h58 h59 h60 h61 h62 h63
  have hT : ([xa0, xa1, xa2, xa3, xb0, xb1, xb2, xb3, xc0, xc1, xc2, xc3, xd0, xd1, xd2, xd3, xe0, xe1, xe2, xe3, xf0, xf1, xf2, xf3, xg0, xg1, xg2, xg3, xh0, xh1, xh2, xh3, xi0, xi1, xi2, xi3, xj0, xj1, xj2, xj3, xk0, xk1, xk2, xk3, xl0, xl1, xl2, xl3, xm0, xm1, xm2, xm3, xn0, xn1, xn2, xn3, xo0, xo1, xo2, xo3, xp0, xp1, xp2, xp3] ++ r63).take 64 = [xa0, xa1, xa2, xa3, xb0, xb1, xb2, xb3, xc0, xc1, xc2, xc3, xd0, xd1, xd2, xd3, xe0, xe1, xe2, xe3, xf0, xf1, xf2, xf3, xg0, xg1, xg2, xg3, xh0, xh1, xh2, xh3, xi0, xi1, xi2, xi3, xj0, xj1, xj2, xj3, xk0, xk1, xk2, xk3, xl0, xl1, xl2, xl3, xm0, xm1, xm2, xm3, xn0, xn1, xn2, xn3, xo0, xo1, xo2, xo3, xp0, xp1, xp2, xp3] := rfl
  have hD : ([xa0, xa1, xa2, xa3, xb0, xb1, xb2, xb3, xc0, xc1, xc2, xc3, xd0, xd1, xd2, xd3, xe0, xe1, xe2, xe3, xf0, xf1, xf2, xf3, xg0, xg1, xg2, xg3, xh0, xh1, xh2, xh3, xi0, xi1, xi2, xi3, xj0, xj1, xj2, xj3, xk0, xk1, xk2, xk3, xl0, xl1, xl2, xl3, xm0, xm1, xm2, xm3, xn0, xn1, xn2, xn3, xo0, xo1, xo2, xo3, xp0, xp1, xp2, xp3] ++ r63).drop 64 = r63 := rfl
  have hS : stepN (toN s) ([xa0, xa1, xa2, xa3, xb0, xb1, xb2, xb3, xc0, xc1, xc2, xc3, xd0, xd1, xd2, xd3, xe0, xe1, xe2, xe3, xf0, xf1, xf2, xf3, xg0, xg1, xg2, xg3, xh0, xh1, xh2, xh3, xi0, xi1, xi2, xi3, xj0, xj1, xj2, xj3, xk0, xk1, xk2, xk3, xl0, xl1, xl2, xl3, xm0, xm1, xm2, xm3, xn0, xn1, xn2, xn3, xo0, xo1, xo2, xo3, xp0, xp1, xp2, xp3] ++ r63) = (goN (toN s) kN (wN xa0 xa1 xa2 xa3) (wN xb0 xb1 xb2 xb3) (wN xc0 xc1 xc2 xc3) (wN xd0 xd1 xd2 xd3) (wN xe0 xe1 xe2 xe3) (wN xf0 xf1 xf2 xf3) (wN xg0 xg1 xg2 xg3) (wN xh0 xh1 xh2 xh3) (wN xi0 xi1 xi2 xi3) (wN xj0 xj1 xj2 xj3) (wN xk0 xk1 xk2 xk3) (wN xl0 xl1 xl2 xl3) (wN xm0 xm1 xm2 xm3) (wN xn0 xn1 xn2 xn3) (wN xo0 xo1 xo2 xo3) (wN xp0 xp1 xp2 xp3) s.a.toNat s.b.toNat s.c.toNat s.d.toNat s.e.toNat s.f.toNat s.g.toNat s.h.toNat, r63) := rfl
  refine hS.trans ?_
  show _ = (goN (toN s) kN (wd (([xa0, xa1, xa2, xa3, xb0, xb1, xb2, xb3, xc0, xc1, xc2, xc3, xd0, xd1, xd2, xd3, xe0, xe1, xe2, xe3, xf0, xf1, xf2, xf3, xg0, xg1, xg2, xg3, xh0, xh1, xh2, xh3, xi0, xi1, xi2, xi3, xj0, xj1, xj2, xj3, xk0, xk1, xk2, xk3, xl0, xl1, xl2, xl3, xm0, xm1, xm2, xm3, xn0, xn1, xn2, xn3, xo0, xo1, xo2, xo3, xp0, xp1, xp2, xp3] ++ r63).take 64) 0).toNat (wd (([xa0, xa1, xa2, xa3, xb0, xb1, xb2, xb3, xc0, xc1, xc2, xc3, xd0, xd1, xd2, xd3, xe0, xe1, xe2, xe3, xf0, xf1, xf2, xf3, xg0, xg1, xg2, xg3, xh0, xh1, xh2, xh3, xi0, xi1, xi2, xi3, xj0, xj1, xj2, xj3, xk0, xk1, xk2, xk3, xl0, xl1, xl2, xl3, xm0, xm1, xm2, xm3, xn0, xn1, xn2, xn3, xo0, xo1, xo2, xo3, xp0, xp1, xp2, xp3] ++ r63).take 64) 1).toNat (wd (([xa0, xa1, xa2, xa3, xb0, xb1, xb2, xb3, xc0, xc1, xc2, xc3, xd0, xd1, xd2, xd3, xe0, xe1, xe2, xe3, xf0, xf1, xf2, xf3, xg0, xg1, xg2, xg3, xh0, xh1, xh2, xh3, xi0, xi1, xi2, xi3, xj0, xj1, xj2, xj3, xk0, xk1, xk2, xk3, xl0, xl1, xl2, xl3, xm0, xm1, xm2, xm3, xn0, xn1, xn2, xn3, xo0, xo1, xo2, xo3, xp0, xp1, xp2, xp3] ++ r63).take 64) 2).toNat (wd (([xa0, xa1, xa2, xa3, xb0, xb1, xb2, xb3, xc0, xc1, xc2, xc3, xd0, xd1, xd2, xd3, xe0, xe1, xe2, xe3, xf0, xf1, xf2, xf3, xg0, xg1, xg2, xg3, xh0, xh1, xh2, xh3, xi0, xi1, xi2, xi3, xj0, xj1, xj2, xj3, xk0, xk1, xk2, xk3, xl0, xl1, xl2, xl3, xm0, xm1, xm2, xm3, xn0, xn1, xn2, xn3, xo0, xo1, xo2, xo3, xp0, xp1, xp2, xp3] ++ r63).take 64) 3).toNat (wd (([xa0, xa1, xa2, xa3, xb0, xb1, xb2, xb3, xc0, xc1, xc2, xc3, xd0, xd1, xd2, xd3, xe0, xe1, xe2, xe3, xf0, xf1, xf2, xf3, xg0, xg1, xg2, xg3, xh0, xh1, xh2, xh3, xi0, xi1, xi2, xi3, xj0, xj1, xj2, xj3, xk0, xk1, xk2, xk3, xl0, xl1, xl2, xl3, xm0, xm1, xm2, xm3, xn0, xn1, xn2, xn3, xo0, xo1, xo2, xo3, xp0, xp1, xp2, xp3] ++ r63).take 64) 4).toNat (wd (([xa0, xa1, xa2, xa3, xb0, xb1, xb2, xb3, xc0, xc1, xc2, xc3, xd0, xd1, xd2, xd3, xe0, xe1, xe2, xe3, xf0, xf1, xf2, xf3, xg0, xg1, xg2, xg3, xh0, xh1, xh2, xh3, xi0, xi1, xi2, xi3, xj0, xj1, xj2, xj3, xk0, xk1, xk2, xk3, xl0, xl1, xl2, xl3, xm0, xm1, xm2, xm3, xn0, xn1, xn2, xn3, xo0, xo1, xo2, xo3, xp0, xp1, xp2, xp3] ++ r63).take 64) 5).toNat (wd (([xa0, xa1, xa2, xa3, xb0, xb1, xb2, xb3, xc0, xc1, xc2, xc3, xd0, xd1, xd2, xd3, xe0, xe1, xe2, xe3, xf0, xf1, xf2, xf3, xg0, xg1, xg2, xg3, xh0, xh1, xh2, xh3, xi0, xi1, xi2, xi3, xj0, xj1, xj2, xj3, xk0, xk1, xk2, xk3, xl0, xl1, xl2, xl3, xm0, xm1, xm2, xm3, xn0, xn1, xn2, xn3, xo0, xo1, xo2, xo3, xp0, xp1, xp2, xp3] ++ r63).take 64) 6).toNat (wd (([xa0, xa1, xa2, xa3, xb0, xb1, xb2, xb3, xc0, xc1, xc2, xc3, xd0, xd1, xd2, xd3, xe0, xe1, xe2, xe3, xf0, xf1, xf2, xf3, xg0, xg1, xg2, xg3, xh0, xh1, xh2, xh3, xi0, xi1, xi2, xi3, xj0, xj1, xj2, xj3, xk0, xk1, xk2, xk3, xl0, xl1, xl2, xl3, xm0, xm1, xm2, xm3, xn0, xn1, xn2, xn3, xo0, xo1, xo2, xo3, xp0, xp1, xp2, xp3] ++ r63).take 64) 7).toNat (wd (([xa0, xa1, xa2, xa3, xb0, xb1, xb2, xb3, xc0, xc1, xc2, xc3, xd0, xd1, xd2, xd3, xe0, xe1, xe2, xe3, xf0, xf1, xf2, xf3, xg0, xg1, xg2, xg3, xh0, xh1, xh2, xh3, xi0, xi1, xi2, xi3, xj0, xj1, xj2, xj3, xk0, xk1, xk2, xk3, xl0, xl1, xl2, xl3, xm0, xm1, xm2, xm3, xn0, xn1, xn2, xn3, xo0, xo1, xo2, xo3, xp0, xp1, xp2, xp3] ++ r63).take 64) 8).toNat (wd (([xa0, xa1, xa2, xa3, xb0, xb1, xb2, xb3, xc0, xc1, xc2, xc3, xd0, xd1, xd2, xd3, xe0, xe1, xe2, xe3, xf0, xf1, xf2, xf3, xg0, xg1, xg2, xg3, xh0, xh1, xh2, xh3, xi0, xi1, xi2, xi3, xj0, xj1, xj2, xj3, xk0, xk1, xk2, xk3, xl0, xl1, xl2, xl3, xm0, xm1, xm2, xm3, xn0, xn1, xn2, xn3, xo0, xo1, xo2, xo3, xp0, xp1, xp2, xp3] ++ r63).take 64) 9).toNat (wd (([xa0, xa1, xa2, xa3, xb0, xb1, xb2, xb3, xc0, xc1, xc2, xc3, xd0, xd1, xd2, xd3, xe0, xe1, xe2, xe3, xf0, xf1, xf2, xf3, xg0, xg1, xg2, xg3, xh0, xh1, xh2, xh3, xi0, xi1, xi2, xi3, xj0, xj1, xj2, xj3, xk0, xk1, xk2, xk3, xl0, xl1, xl2, xl3, xm0, xm1, xm2, xm3, xn0, xn1, xn2, xn3, xo0, xo1, xo2, xo3, xp0, xp1, xp2, xp3] ++ r63).take 64) 10).toNat (wd (([xa0, xa1, xa2, xa3, xb0, xb1, xb2, xb3, xc0, xc1, xc2, xc3, xd0, xd1, xd2, xd3, xe0, xe1, xe2, xe3, xf0, xf1, xf2, xf3, xg0, xg1, xg2, xg3, xh0, xh1, xh2, xh3, xi0, xi1, xi2, xi3, xj0, xj1, xj2, xj3, xk0, xk1, xk2, xk3, xl0, xl1, xl2, xl3, xm0, xm1, xm2, xm3, xn0, xn1, xn2, xn3, xo0, xo1, xo2, xo3, xp0, xp1, xp2, xp3] ++ r63).take 64) 11).toNat (wd (([xa0, xa1, xa2, xa3, xb0, xb1, xb2, xb3, xc0, xc1, xc2, xc3, xd0, xd1, xd2, xd3, xe0, xe1, xe2, xe3, xf0, xf1, xf2, xf3, xg0, xg1, xg2, xg3, xh0, xh1, xh2, xh3, xi0, xi1, xi2, xi3, xj0, xj1, xj2, xj3, xk0, xk1, xk2, xk3, xl0, xl1, xl2, xl3, xm0, xm1, xm2, xm3, xn0, xn1, xn2, xn3, xo0, xo1, xo2, xo3, xp0, xp1, xp2, xp3] ++ r63).take 64) 12).toNat (wd (([xa0, xa1, xa2, xa3, xb0, xb1, xb2, xb3, xc0, xc1, xc2, xc3, xd0, xd1, xd2, xd3, xe0, xe1, xe2, xe3, xf0, xf1, xf2, xf3, xg0, xg1, xg2, xg3, xh0, xh1, xh2, xh3, xi0, xi1, xi2, xi3, xj0, xj1, xj2, xj3, xk0, xk1, xk2, xk3, xl0, xl1, xl2, xl3, xm0, xm1, xm2, xm3, xn0, xn1, xn2, xn3, xo0, xo1, xo2, xo3, xp0, xp1, xp2, xp3] ++ r63).take 64) 13).toNat (wd (([xa0, xa1, xa2, xa3, xb0, xb1, xb2, xb3, xc0, xc1, xc2, xc3, xd0, xd1, xd2, xd3, xe0, xe1, xe2, xe3, xf0, xf1, xf2, xf3, xg0, xg1, xg2, xg3, xh0, xh1, xh2, xh3, xi0, xi1, xi2, xi3, xj0, xj1, xj2, xj3, xk0, xk1, xk2, xk3, xl0, xl1, xl2, xl3, xm0, xm1, xm2, xm3, xn0, xn1, xn2, xn3, xo0, xo1, xo2, xo3, xp0, xp1, xp2, xp3] ++ r63).take 64) 14).toNat (wd (([xa0, xa1, xa2, xa3, xb0, xb1, xb2, xb3, xc0, xc1, xc2, xc3, xd0, xd1, xd2, xd3, xe0, xe1, xe2, xe3, xf0, xf1, xf2, xf3, xg0, xg1, xg2, xg3, xh0, xh1, xh2, xh3, xi0, xi1, xi2, xi3, xj0, xj1, xj2, xj3, xk0, xk1, xk2, xk3, xl0, xl1, xl2, xl3, xm0, xm1, xm2, xm3, xn0, xn1, xn2, xn3, xo0, xo1, xo2, xo3, xp0, xp1, xp2, xp3] ++ r63).take 64) 15).toNat s.a.toNat s.b.toNat s.c.toNat s.d.toNat s.e.toNat s.f.toNat s.g.toNat s.h.toNat, ([xa0, xa1, xa2, xa3, xb0, xb1, xb2, xb3, xc0, xc1, xc2, xc3, xd0, xd1, xd2, xd3, xe0, xe1, xe2, xe3, xf0, xf1, xf2, xf3, xg0, xg1, xg2, xg3, xh0, xh1, xh2, xh3, xi0, xi1, xi2, xi3, xj0, xj1, xj2, xj3, xk0, xk1, xk2, xk3, xl0, xl1, xl2, xl3, xm0, xm1, xm2, xm3, xn0, xn1, xn2, xn3, xo0, xo1, xo2, xo3, xp0, xp1, xp2, xp3] ++ r63).drop 64)
  rw [hT, hD]
  generalize hX : [xa0, xa1, xa2, xa3, xb0, xb1, xb2, xb3, xc0, xc1, xc2, xc3, xd0, xd1, xd2, xd3, xe0, xe1, xe2, xe3, xf0, xf1, xf2, xf3, xg0, xg1, xg2, xg3, xh0, xh1, xh2, xh3, xi0, xi1, xi2, xi3, xj0, xj1, xj2, xj3, xk0, xk1, xk2, xk3, xl0, xl1, xl2, xl3, xm0, xm1, xm2, xm3, xn0, xn1, xn2, xn3, xo0, xo1, xo2, xo3, xp0, xp1, xp2, xp3] = X
  have hw : ∀ (a0 a1 a2 a3 t : Nat), X.getD (4 * t) 0 = a0 → X.getD (4 * t + 1) 0 = a1 → X.getD (4 * t + 2) 0 = a2 → X.getD (4 * t + 3) 0 = a3 → a0 ∈ X → a1 ∈ X → a2 ∈ X → a3 ∈ X → t < 16 → (wd X t).toNat = wN a0 a1 a2 a3 := by
    intro a0 a1 a2 a3 t h0 h1 h2 h3 m0 m1 m2 m3 ht
    subst hX
    refine word_eq _ r63 a0 a1 a2 a3 t h0 h1 h2 h3 ?_ ht
    intro y hy
    simp only [List.mem_cons, List.mem_nil_iff, or_false] at hy
    rcases hy with rfl | rfl | rfl | rfl
    · exact hb _ (List.mem_append_left r63 m0)
    · exact hb _ (List.mem_append_left r63 m1)
    · exact hb _ (List.mem_append_left r63 m2)
    · exact hb _ (List.mem_append_left r63 m3)
  have hm : ∀ i (h : i < X.length), X[i] ∈ X := fun i h => List.getElem_mem h
  rw [hw xa0 xa1 xa2 xa3 0 (by rw [← hX]; rfl) (by rw [← hX]; rfl) (by rw [← hX]; rfl) (by rw [← hX]; rfl) (by rw [← hX]; simp) (by rw [← hX]; simp) (by rw [← hX]; simp) (by rw [← hX]; simp) (by omega)]
  rw [hw xb0 xb1 xb2 xb3 1 (by rw [← hX]; rfl) (by rw [← hX]; rfl) (by rw [← hX]; rfl) (by rw [← hX]; rfl) (by rw [← hX]; simp) (by rw [← hX]; simp) (by rw [← hX]; simp) (by rw [← hX]; simp) (by omega)]
  rw [hw xc0 xc1 xc2 xc3 2 (by rw [← hX]; rfl) (by rw [← hX]; rfl) (by rw [← hX]; rfl) (by rw [← hX]; rfl) (by rw [← hX]; simp) (by rw [← hX]; simp) (by rw [← hX]; simp) (by rw [← hX]; simp) (by omega)]
  rw [hw xd0 xd1 xd2 xd3 3 (by rw [← hX]; rfl) (by rw [← hX]; rfl) (by rw [← hX]; rfl) (by rw [← hX]; rfl) (by rw [← hX]; simp) (by rw [← hX]; simp) (by rw [← hX]; simp) (by rw [← hX]; simp) (by omega)]
  rw [hw xe0 xe1 xe2 xe3 4 (by rw [← hX]; rfl) (by rw [← hX]; rfl) (by rw [← hX]; rfl) (by rw [← hX]; rfl) (by rw [← hX]; simp) (by rw [← hX]; simp) (by rw [← hX]; simp) (by rw [← hX]; simp) (by omega)]
  rw [hw xf0 xf1 xf2 xf3 5 (by rw [← hX]; rfl) (by rw [← hX]; rfl) (by rw [← hX]; rfl) (by rw [← hX]; rfl) (by rw [← hX]; simp) (by rw [← hX]; simp) (by rw [← hX]; simp) (by rw [← hX]; simp) (by omega)]
  rw [hw xg0 xg1 xg2 xg3 6 (by rw [← hX]; rfl) (by rw [← hX]; rfl) (by rw [← hX]; rfl) (by rw [← hX]; rfl) (by rw [← hX]; simp) (by rw [← hX]; simp) (by rw [← hX]; simp) (by rw [← hX]; simp) (by omega)]
  rw [hw xh0 xh1 xh2 xh3 7 (by rw [← hX]; rfl) (by rw [← hX]; rfl) (by rw [← hX]; rfl) (by rw [← hX]; rfl) (by rw [← hX]; simp) (by rw [← hX]; simp) (by rw [← hX]; simp) (by rw [← hX]; simp) (by omega)]
  rw [hw xi0 xi1 xi2 xi3 8 (by rw [← hX]; rfl) (by rw [← hX]; rfl) (by rw [← hX]; rfl) (by rw [← hX]; rfl) (by rw [← hX]; simp) (by rw [← hX]; simp) (by rw [← hX]; simp) (by rw [← hX]; simp) (by omega)]
  rw [hw xj0 xj1 xj2 xj3 9 (by rw [← hX]; rfl) (by rw [← hX]; rfl) (by rw [← hX]; rfl) (by rw [← hX]; rfl) (by rw [← hX]; simp) (by rw [← hX]; simp) (by rw [← hX]; simp) (by rw [← hX]; simp) (by omega)]
  rw [hw xk0 xk1 xk2 xk3 10 (by rw [← hX]; rfl) (by rw [← hX]; rfl) (by rw [← hX]; rfl) (by rw [← hX]; rfl) (by rw [← hX]; simp) (by rw [← hX]; simp) (by rw [← hX]; simp) (by rw [← hX]; simp) (by omega)]
  rw [hw xl0 xl1 xl2 xl3 11 (by rw [← hX]; rfl) (by rw [← hX]; rfl) (by rw [← hX]; rfl) (by rw [← hX]; rfl) (by rw [← hX]; simp) (by rw [← hX]; simp) (by rw [← hX]; simp) (by rw [← hX]; simp) (by omega)]
  rw [hw xm0 xm1 xm2 xm3 12 (by rw [← hX]; rfl) (by rw [← hX]; rfl) (by rw [← hX]; rfl) (by rw [← hX]; rfl) (by rw [← hX]; simp) (by rw [← hX]; simp) (by rw [← hX]; simp) (by rw [← hX]; simp) (by omega)]
  rw [hw xn0 xn1 xn2 xn3 13 (by rw [← hX]; rfl) (by rw [← hX]; rfl) (by rw [← hX]; rfl) (by rw [← hX]; rfl) (by rw [← hX]; simp) (by rw [← hX]; simp) (by rw [← hX]; simp) (by rw [← hX]; simp) (by omega)]
  rw [hw xo0 xo1 xo2 xo3 14 (by rw [← hX]; rfl) (by rw [← hX]; rfl) (by rw [← hX]; rfl) (by rw [← hX]; rfl) (by rw [← hX]; simp) (by rw [← hX]; simp) (by rw [← hX]; simp) (by rw [← hX]; simp) (by omega)]
  rw [hw xp0 xp1 xp2 xp3 15 (by rw [← hX]; rfl) (by rw [← hX]; rfl) (by rw [← hX]; rfl) (by rw [← hX]; rfl) (by rw [← hX]; simp) (by rw [← hX]; simp) (by rw [← hX]; simp) (by rw [← hX]; simp) (by omega)]

theorem blocks_eq (m : List Nat) (hb : ∀ y ∈ m, y < 256) (n : Nat) : ∀ k, 64 * (k + n) ≤ m.length → blocksN n (toN (hst m k)) (m.drop (64 * k)) = toN (hst m (k + n)) := by
  induction n with
  | zero => intro k _; rfl
  | succ n ih =>
    intro k h
    rw [blocksN, step_eq _ _ (by rw [List.length_drop]; omega) (fun y hy => hb y (List.mem_of_mem_drop hy))]
    show blocksN n (toN (comp (hst m k) ((m.drop (64 * k)).take 64))) ((m.drop (64 * k)).drop 64) = _
    rw [List.drop_drop, show 64 * k + 64 = 64 * (k + 1) by omega, show k + (n + 1) = k + 1 + n by omega]
    exact ih (k + 1) (by omega)
theorem outW_eq (x : Nat) (r : List Nat) : outW x r = be 4 x ++ r := by
  show [x / 16777216 % 256, x / 65536 % 256, x / 256 % 256, x % 256] ++ r = [x / 256 ^ 3 % 256, x / 256 ^ 2 % 256, x / 256 ^ 1 % 256, x / 256 ^ 0 % 256] ++ r
  simp only [Nat.reducePow, Nat.div_one]
theorem outN_eq (s : St) : outN (toN s) = outB s := by
  show outW _ (outW _ (outW _ (outW _ (outW _ (outW _ (outW _ (outW _ []))))))) = _
  simp only [outW_eq, outB, List.flatMap_cons, List.flatMap_nil]
theorem sha_fast (m : List Nat) (hm : ∀ y ∈ m, y < 256) (hp : ∀ y ∈ pad m, y < 256) : sha m = shaN m := by
  unfold sha shaN
  rw [← outN_eq, show sN0 = toN (hst (pad m) 0) from rfl]
  have h := blocks_eq (pad m) hp ((pad m).length / 64) 0 (by omega)
  rw [Nat.mul_zero, List.drop_zero, Nat.zero_add] at h
  rw [h]
end Go.Proofs.YthffkbdecfjekaaDoor

/-
  passimlaw03.seed: a seed of 32 equal bytes.
-/
namespace Go.Proofs.YthffkbdecfjekaaDoor
open Go.RowKit
set_option linter.unusedVariables false
set_option linter.unusedSimpArgs false

def seedL (c : Nat) : List Nat := List.replicate 32 c
def seedA (c i : Nat) : List Nat := List.replicate i c ++ List.replicate (32 - i) 0
theorem seedA_length (c i : Nat) (h : i ≤ 32) : (seedA c i).length = 32 := by simp [seedA]; omega
theorem seedA_set (c i : Nat) (h : i < 32) : (seedA c i).set i c = seedA c (i + 1) := by
  unfold seedA
  rw [List.set_append_right _ _ (by simp), List.length_replicate, Nat.sub_self]
  obtain ⟨k, hk⟩ : ∃ k, 32 - i = k + 1 := ⟨31 - i, by omega⟩
  rw [hk, List.replicate_succ, List.set_cons_zero, show 32 - (i + 1) = k by omega, List.replicate_succ', List.append_assoc]
  rfl

theorem made32 (w : World) : (Instr.makeSlice 52 (.int .i64 32) (.int .i64 32)).run Tryd.prog w = .ok (.slice (some ⟨w.heap.size, 0, none⟩) 32 32) (w.alloc (.cells (bytesV (List.replicate 32 0)).toArray 5)) := by
  obtain ⟨i0, hi, hz0, hz1, hz2⟩ := info_parts u8info
  have h := run_make (P := Tryd.prog) w 52 5 i0 (.int .u8 0) Tryd.underlying52 hi hz0 .i64 .i64 32 32 (by omega) (by omega) (by rw [hz2]; decide) (by omega)
  have e : madeCells (Value.int .u8 0).cells (Int.toNat 32 * 1) = (bytesV (List.replicate 32 0)).toArray := by kernel_rfl
  rw [h, hz1, e]
  rfl

set_option maxHeartbeats 1000000 in
set_option maxRecDepth 100000 in
theorem seed_any (c : Nat) (hc : c < 256) (w : World) :
    Calls Tryd.prog 20 #[.int .u8 (c : Int)] w fun e w' => e = .returned (.string (strOf (seedL c))) ∧ Below w.heap.size w w' := by
  go_enter Tryd.func20, Tryd.ntmps20
  have hmk := made32
  go_upto_region 2 with (fail)
  generalize hw0 : World.alloc _ _ = W0
  have K0 : Blk W0 w.heap.size 5 (bytesV (seedA c 0)) := hw0 ▸ blk_new w 5 (bytesV (List.replicate 32 0)).toArray
  have KB : Below w.heap.size w W0 := hw0 ▸ ((Below.refl _ _).alloc (Nat.le_refl _) _)
  clear hw0 hmk
  go_wp2
  go_loopw [4] (fun v wr => ∃ i : Nat, i ≤ 32 ∧ v = .int .i64 i ∧ Blk wr w.heap.size 5 (bytesV (seedA c i)) ∧ Below w.heap.size w wr) (fun v _ => 32 - (intOf v).toNat)
  case atStart => exact ⟨0, by omega, rfl, K0, KB⟩
  case round =>
    clear K0 KB
    obtain ⟨i, hi, rfl, N0, NB⟩ := hrel
    by_cases h32 : i < 32
    · have c1 : wr.cell? ⟨w.heap.size, i, none⟩ = some ((bytesV (seedA c i))[i]'(by rw [bytesV_length, seedA_length _ _ hi]; exact h32)) := N0.cell (List.getElem?_eq_getElem _)
      have f1 := N0.free i
      have hset := N0.set i (byteV c)
      have e : (bytesV (seedA c i)).set i (byteV c) = bytesV (seedA c (i + 1)) := by
        rw [← seedA_set c i h32]
        unfold bytesV
        rw [List.map_set]
      rw [e] at hset
      have l32 : (i : Int) < 32 := by omega
      clear e
      go_wp2
      go_roundw
      case rel => exact ⟨i + 1, by omega, by go_num, hset, NB.setCell (by simp) _⟩
      case measure => simp [intOf]; omega
    · obtain rfl : i = 32 := by omega
      have hs : seedA c 32 = seedL c := by unfold seedA seedL; rw [Nat.sub_self]; simp
      rw [hs] at N0
      have hsb : ∀ y ∈ seedL c, y < 256 := fun y hy => by rw [(List.mem_replicate.1 hy).2]; exact hc
      have hcv := conv_any (some ⟨w.heap.size, 0, none⟩) (seedL c) 32 32 wr rfl (has_blk N0 hsb)
      clear hs N0
      go_wp2
      go_ret
      exact ⟨rfl, NB⟩

end Go.Proofs.YthffkbdecfjekaaDoor

/-
  The examples of layer 3, reckoned by the kernel: the tree of the seed of 32 bytes 5 of height 1, and the signature of "m" held against "n". Plain mathematics.
-/
namespace Go.Proofs.YthffkbdecfjekaaDoor
set_option linter.unusedVariables false
set_option linter.unusedSimpArgs false

/-- The encoding of a small number. -/
def encN (n : Nat) : List Nat := match Nat.beq n 0 with
  | true => [128]
  | false => match Nat.blt n 256 with
    | true => [129, n]
    | false => [130, Nat.div n 256, Nat.mod n 256]
theorem encN_eq (n : Nat) (h : n < 65536) : enc (n : Int) = encN n := by
  rw [enc_nat]
  unfold encN
  by_cases h0 : n = 0
  · subst h0
    rw [sz_zero]
    rfl
  · have e0 : Nat.beq n 0 = false := by
      cases n with
      | zero => exact absurd rfl h0
      | succ n => rfl
    by_cases h1 : n < 256
    · have e1 : Nat.blt n 256 = true := Nat.ble_eq_true_of_le h1
      rw [e0, e1, sz_pos h0, show n / 256 = 0 by omega, sz_zero]
      show [129, n / 256 ^ 0 % 256] = [129, n]
      rw [Nat.pow_zero, Nat.div_one, Nat.mod_eq_of_lt h1]
    · have e1 : Nat.blt n 256 = false := by
        rw [← Bool.not_eq_true]
        intro h
        exact h1 (Nat.le_of_ble_eq_true h)
      rw [e0, e1, sz_pos h0, sz_pos (show n / 256 ≠ 0 by omega), show n / 256 / 256 = 0 by omega, sz_zero]
      show [130, n / 256 ^ 1 % 256, n / 256 ^ 0 % 256] = [130, n / 256, n % 256]
      rw [Nat.pow_zero, Nat.div_one, Nat.pow_one, Nat.mod_eq_of_lt (show n / 256 < 256 by omega)]
theorem pad_byteN (l : List Nat) (h : ∀ y ∈ l, y < 256) : ∀ y ∈ pad l, y < 256 := by
  intro y hy
  rcases List.mem_append.1 hy with h1 | h1
  · exact h y h1
  · exact tail_byte _ y h1
theorem sha_N (m : List Nat) (h : ∀ y ∈ m, y < 256) : sha m = shaN m := sha_fast m h (pad_byteN m h)
def encSN (l : List Nat) : List Nat := encN l.length ++ l
theorem encSN_eq (l : List Nat) (h : l.length < 65536) : encS l = encSN l := by
  unfold encS encSN
  rw [encN_eq _ h]
def ofN1 (T : Nat) (a : List Nat) : List Nat := (shaN (T :: encSN a)).take 16
def ofN2 (T : Nat) (a b : List Nat) : List Nat := (shaN (T :: (encSN a ++ encSN b))).take 16
def ofN3 (T : Nat) (a b c : List Nat) : List Nat := (shaN (T :: (encSN a ++ (encSN b ++ encSN c)))).take 16
theorem encN_byte (n : Nat) (h : n < 65536) : ∀ y ∈ encN n, y < 256 := by
  rw [← encN_eq n h]
  exact enc_lt _ (by omega) (by omega)
theorem encSN_byte (l : List Nat) (h : l.length < 65536) (hb : ∀ y ∈ l, y < 256) : ∀ y ∈ encSN l, y < 256 := by
  intro y hy
  rcases List.mem_append.1 hy with h1 | h1
  · exact encN_byte _ h y h1
  · exact hb y h1
theorem cons_byte {T : Nat} {l : List Nat} (hT : T < 256) (h : ∀ y ∈ l, y < 256) : ∀ y ∈ T :: l, y < 256 := by
  intro y hy
  rcases List.mem_cons.1 hy with rfl | h1
  · exact hT
  · exact h y h1
theorem app_byte {l m : List Nat} (h : ∀ y ∈ l, y < 256) (h' : ∀ y ∈ m, y < 256) : ∀ y ∈ l ++ m, y < 256 := by
  intro y hy
  rcases List.mem_append.1 hy with h1 | h1
  · exact h y h1
  · exact h' y h1
theorem ofN1_eq (T : Nat) (hT : T < 256) (a : List Nat) (ha : a.length < 65536) (hb : ∀ y ∈ a, y < 256) : ofS T [a] = ofN1 T a := by
  unfold ofS ofN1 ofIn
  rw [List.flatMap_cons, List.flatMap_nil, List.append_nil, encSN_eq a ha, sha_N _ (cons_byte hT (encSN_byte a ha hb))]
theorem ofN2_eq (T : Nat) (hT : T < 256) (a b : List Nat) (ha : a.length < 65536) (hb : ∀ y ∈ a, y < 256) (hc : b.length < 65536) (hd : ∀ y ∈ b, y < 256) : ofS T [a, b] = ofN2 T a b := by
  unfold ofS ofN2 ofIn
  rw [List.flatMap_cons, List.flatMap_cons, List.flatMap_nil, List.append_nil, encSN_eq a ha, encSN_eq b hc, sha_N _ (cons_byte hT (app_byte (encSN_byte a ha hb) (encSN_byte b hc hd)))]
theorem ofN3_eq (T : Nat) (hT : T < 256) (a b c : List Nat) (ha : a.length < 65536) (hb : ∀ y ∈ a, y < 256) (hc : b.length < 65536) (hd : ∀ y ∈ b, y < 256) (he : c.length < 65536) (hf : ∀ y ∈ c, y < 256) : ofS T [a, b, c] = ofN3 T a b c := by
  unfold ofS ofN3 ofIn
  rw [List.flatMap_cons, List.flatMap_cons, List.flatMap_cons, List.flatMap_nil, List.append_nil, encSN_eq a ha, encSN_eq b hc, encSN_eq c he, sha_N _ (cons_byte hT (app_byte (encSN_byte a ha hb) (app_byte (encSN_byte b hc hd) (encSN_byte c he hf))))]
def encCN (key chain t : Nat) : List Nat := 129 :: 3 :: (encN key ++ (encN chain ++ encN t))
theorem encCN_eq (key chain t : Nat) (hk : key < 65536) (hc : chain < 65536) (ht : t < 65536) : encC key chain t = encCN key chain t := by
  unfold encC encL encCN
  rw [show (([(key : Int), (chain : Int), (t : Int)].length : Nat) : Int) = ((3 : Nat) : Int) from rfl, encN_eq 3 (by omega)]
  simp only [List.flatMap_cons, List.flatMap_nil, List.append_nil, encN_eq key hk, encN_eq chain hc, encN_eq t ht]
  rfl
def encKN (key chain : Nat) : List Nat := 129 :: 2 :: (encN key ++ encN chain)
theorem encKN_eq (key chain : Nat) (hk : key < 65536) (hc : chain < 65536) : encK key chain = encKN key chain := by
  unfold encK encL encKN
  rw [show (([(key : Int), (chain : Int)].length : Nat) : Int) = ((2 : Nat) : Int) from rfl, encN_eq 2 (by omega)]
  simp only [List.flatMap_cons, List.flatMap_nil, List.append_nil, encN_eq key hk, encN_eq chain hc]
  rfl
def advN (key chain a : Nat) (v : List Nat) : Nat → List Nat
  | 0 => v
  | n + 1 => ofN2 1 (encCN key chain (Nat.add a n)) (advN key chain a v n)
theorem advN_eq (key chain a : Nat) (v : List Nat) (hk : key < 256) (hc : chain < 256) (ha : a < 256) (hv : Dgt v) : ∀ n, n < 256 → advM key chain a v n = advN key chain a v n
  | 0, _ => rfl
  | n + 1, h => by
    have hl := encC_length key chain (a + n) (by omega) (by omega) (by omega)
    have hb := encC_byte key chain (a + n) (by omega) (by omega) (by omega)
    have hd := advM_dig key chain a v hv n
    rw [advM, ofN2_eq 1 (by omega) _ _ (by omega) hb (by rw [hd.1]; omega) hd.2, encCN_eq key chain (a + n) (by omega) (by omega) (by omega), advN_eq key chain a v hk hc ha hv n (by omega)]
    rfl
def inN (seed : List Nat) : List Nat := seed.map (fun y => Nat.xor y 54) ++ List.replicate 32 54
def exN (seed : List Nat) : List Nat := seed.map (fun y => Nat.xor y 92) ++ List.replicate 32 92
def firstN (seed : List Nat) (key chain : Nat) : List Nat := (shaN (exN seed ++ shaN (inN seed ++ 99 :: 104 :: 97 :: 105 :: 110 :: encKN key chain))).take 16
theorem firstN_eq (seed : List Nat) (hs : seed.length = 32) (hb : ∀ y ∈ seed, y < 256) (key chain : Nat) (hk : key < 256) (hc : chain < 256) : firstM seed key chain = firstN seed key chain := by
  have e : ∀ x, xorL (padK (keyOf64 seed)) x = seed.map (fun y => Nat.xor y x) ++ List.replicate 32 (Nat.xor 0 x) := by
    intro x
    unfold xorL padK keyOf64
    rw [if_neg (by omega), List.map_append, hs, List.map_replicate]
    rfl
  have k64 : (padK (keyOf64 seed)).length = 64 := padK_length _ (keyOf64_length _)
  have kb := padK_byte _ (keyOf64_byte seed hb)
  have tb : ∀ y ∈ [99, 104, 97, 105, 110] ++ encK key chain, y < 256 := app_byte (by decide) (encK_byte key chain (by omega) (by omega))
  unfold firstM hmac firstN
  rw [sha_N (xorL (padK (keyOf64 seed)) 54 ++ _) (app_byte (xorL_byte _ 54 (by omega) kb) tb), sha_N (xorL (padK (keyOf64 seed)) 92 ++ _) (app_byte (xorL_byte _ 92 (by omega) kb) (by
    rw [← sha_N (xorL (padK (keyOf64 seed)) 54 ++ _) (app_byte (xorL_byte _ 54 (by omega) kb) tb)]
    exact sha_byte _)), e 54, e 92, encKN_eq key chain (by omega) (by omega)]
  rfl
def topsN (seed : List Nat) (key : Nat) : Nat → Nat → List Nat
  | _, 0 => []
  | c, n + 1 => advN key c 0 (firstN seed key c) 3 ++ topsN seed key (Nat.succ c) n
theorem topsN_add (seed : List Nat) (hs : seed.length = 32) (hb : ∀ y ∈ seed, y < 256) (key : Nat) (hk : key < 256) : ∀ n c, c + n ≤ 256 → topsM seed key c ++ topsN seed key c n = topsM seed key (c + n)
  | 0, c, _ => by rw [topsN, List.append_nil]; rfl
  | n + 1, c, h => by
    have := topsN_add seed hs hb key hk n (c + 1) (by omega)
    rw [topsN, ← firstN_eq seed hs hb key c hk (by omega), ← advN_eq key c 0 _ hk (by omega) (by omega) (firstM_dig seed key c) 3 (by omega), ← List.append_assoc]
    rw [show c + (n + 1) = c + 1 + n by omega, ← this]
    rfl
theorem topsN_eq (seed : List Nat) (hs : seed.length = 32) (hb : ∀ y ∈ seed, y < 256) (key : Nat) (hk : key < 256) : topsM seed key 68 = topsN seed key 0 68 := by
  have := topsN_add seed hs hb key hk 68 0 (by omega)
  rw [topsM, List.nil_append] at this
  exact this.symm
/-- The tops that a verifier finds: the value at a, carried on from x. -/
def crossN (seed : List Nat) (key : Nat) : Nat → List (Nat × Nat) → List Nat
  | _, [] => []
  | c, (a, x) :: r => advN key c x (advN key c 0 (firstN seed key c) a) (Nat.sub 3 x) ++ crossN seed key (Nat.succ c) r
theorem eqN_eq : ∀ l m, eqN l m = true → l = m
  | [], [], _ => rfl
  | [], _ :: _, h => by simp [eqN] at h
  | _ :: _, [], h => by simp [eqN] at h
  | a :: l, b :: m, h => by
    rw [eqN] at h
    cases hb : Nat.beq a b with
    | false => rw [hb] at h; simp at h
    | true =>
      rw [hb] at h
      rw [Nat.eq_of_beq_eq_true hb, eqN_eq l m h]

def s5 : List Nat := [5, 5, 5, 5, 5, 5, 5, 5, 5, 5, 5, 5, 5, 5, 5, 5, 5, 5, 5, 5, 5, 5, 5, 5, 5, 5, 5, 5, 5, 5, 5, 5]
theorem s5_seed : seedL 5 = s5 := rfl
def exA : List Nat := [2, 0, 2, 3, 0, 3, 0, 1, 2, 1, 3, 2, 3, 1, 1, 2, 3, 1, 2, 2, 2, 1, 1, 1, 0, 2, 0, 3, 1, 2, 2, 1, 3, 3, 1, 0, 0, 1, 0, 1, 2, 0, 0, 0, 2, 0, 3, 1, 1, 2, 3, 0, 1, 3, 0, 3, 2, 3, 2, 0, 2, 0, 2, 2, 1, 2, 0, 3]
def exX : List Nat := [3, 2, 2, 1, 2, 2, 2, 1, 1, 3, 1, 2, 3, 0, 2, 1, 3, 1, 2, 0, 2, 1, 0, 0, 3, 3, 1, 2, 3, 0, 1, 3, 1, 2, 0, 1, 1, 0, 2, 3, 0, 0, 1, 0, 3, 2, 0, 1, 0, 2, 1, 3, 2, 3, 0, 2, 2, 2, 1, 3, 0, 1, 0, 2, 1, 2, 0, 2]
def exT0 : List Nat := [242, 231, 188, 48, 213, 52, 30, 16, 215, 154, 157, 195, 105, 203, 147, 123, 136, 41, 96, 174, 100, 93, 42, 29, 3, 126, 47, 75, 173, 53, 102, 173, 115, 55, 134, 63, 20, 200, 224, 253, 108, 210, 110, 117, 143, 227, 109, 46, 209, 84, 89, 135, 32, 10, 26, 240, 194, 176, 211, 208, 71, 180, 162, 209, 152, 38, 11, 41, 251, 117, 143, 238, 27, 198, 125, 193, 167, 127, 121, 185, 248, 106, 246, 112, 135, 240, 227, 91, 39, 179, 9, 23, 84, 229, 109, 144, 224, 103, 47, 248, 164, 251, 11, 138, 151, 217, 125, 71, 70, 207, 169, 254, 104, 72, 59, 76, 196, 201, 55, 221, 91, 61, 2, 194, 30, 36, 54, 0, 222, 125, 132, 3, 231, 66, 194, 88, 61, 166, 123, 212, 42, 189, 112, 82, 26, 167, 78, 170, 18, 193, 87, 185, 70, 175, 249, 31, 95, 252, 87, 167, 252, 77, 21, 192, 47, 69, 80, 84, 56, 11, 7, 179, 247, 38, 5, 142, 56, 180, 106, 215, 146, 77, 188, 141, 61, 108, 74, 204, 16, 174, 251, 24, 220, 86, 220, 18, 146, 95, 220, 152, 97, 239, 0, 252, 237, 250, 150, 144, 206, 116, 122, 170, 203, 238, 105, 38, 223, 86, 125, 168, 36, 44, 39, 126, 10, 176, 102, 246, 204, 14, 77, 88, 39, 9, 123, 99, 190, 111, 52, 146, 85, 163, 230, 135, 251, 23, 102, 32, 166, 206, 85, 237, 109, 207, 242, 35, 181, 203, 231, 222, 239, 212, 5, 163, 147, 218, 101, 199, 147, 127, 98, 128, 9, 255, 156, 136, 108, 254, 41, 109, 235, 29, 209, 12, 40, 49, 26, 190, 250, 40, 192, 93, 82, 240, 114, 88, 202, 146, 189, 158, 14, 133, 197, 170, 186, 75, 67, 108, 171, 79, 220, 20, 247, 26, 29, 163, 91, 149, 10, 26, 15, 184, 12, 247, 87, 231, 254, 100, 156, 255, 64, 184, 225, 77, 236, 151, 55, 81, 166, 249, 134, 22, 7, 154, 108, 238, 122, 182, 25, 168, 188, 6, 127, 40, 230, 166, 135, 155, 7, 69, 159, 41, 226, 44, 58, 230, 56, 220, 106, 147, 221, 39, 234, 238, 137, 107, 238, 229, 63, 66, 60, 192, 133, 152, 250, 165, 186, 100, 177, 215, 200, 155, 78, 248, 11, 253, 197, 228, 232, 11, 111, 229, 49, 163, 57, 92, 125, 86, 110, 204, 198, 81, 215, 136, 70, 179, 86, 46, 74, 119, 45, 242, 153, 125, 252, 186, 31, 209, 90, 199, 132, 107, 168, 177, 232, 21, 86, 161, 115, 236, 103, 80, 185, 206, 247, 203, 0, 139, 245, 111, 184, 104, 142, 7, 231, 122, 13, 56, 121, 243, 221, 172, 28, 95, 31, 68, 173, 24, 152, 230, 23, 240, 104, 94, 246, 150, 70, 19, 250, 89, 28, 94, 213, 166, 29, 130, 20, 46, 61, 108, 115, 245, 58, 7, 55, 31, 161, 73, 201, 219, 247, 244, 207, 188, 199, 23, 244, 143, 12, 230, 156, 133, 198, 200, 103, 180, 186, 64, 67, 7, 124, 74, 8, 41, 0, 28, 82, 194, 164, 20, 245, 244, 167, 175, 84, 191, 8, 171, 116, 215, 65, 67, 246, 232, 176, 63, 208, 128, 223, 93, 235, 109, 63, 207, 113, 84, 136, 3, 193, 8, 20, 180, 213, 82, 83, 240, 18, 114, 127, 159, 157, 233, 168, 16, 151, 112, 121, 93, 19, 210, 4, 175, 161, 111, 155, 140, 162, 226, 50, 26, 48, 196, 238, 36, 42, 97, 160, 20, 160, 22, 18, 117, 114, 123, 143, 120, 234, 13, 111, 83, 26, 203, 169, 8, 253, 248, 21, 29, 231, 235, 240, 180, 4, 0, 23, 121, 247, 31, 181, 63, 180, 118, 119, 1, 193, 6, 250, 161, 137, 109, 35, 201, 185, 39, 33, 27, 133, 225, 125, 19, 17, 232, 173, 226, 12, 255, 62, 148, 53, 213, 247, 225, 54, 157, 197, 86, 22, 99, 127, 20, 17, 56, 73, 8, 233, 20, 197, 161, 249, 249, 122, 140, 156, 97, 36, 209, 253, 2, 99, 176, 212, 125, 175, 155, 48, 182, 55, 9, 58, 145, 171, 194, 148, 45, 44, 163, 209, 217, 94, 199, 47, 239, 132, 160, 91, 109, 216, 143, 75, 186, 29, 207, 222, 4, 50, 170, 82, 36, 25, 241, 203, 101, 227, 186, 91, 220, 56, 222, 153, 100, 41, 41, 183, 245, 223, 141, 243, 214, 197, 182, 176, 149, 49, 238, 46, 93, 223, 202, 247, 231, 225, 240, 38, 232, 45, 150, 106, 90, 116, 16, 33, 6, 255, 145, 200, 17, 83, 163, 116, 21, 107, 138, 188, 232, 158, 14, 70, 2, 221, 17, 47, 181, 41, 128, 39, 21, 165, 237, 223, 70, 32, 27, 179, 248, 120, 193, 44, 7, 238, 202, 122, 165, 158, 183, 239, 50, 163, 186, 85, 70, 227, 174, 120, 161, 79, 101, 181, 4, 84, 77, 213, 240, 94, 183, 193, 132, 240, 58, 40, 144, 155, 103, 135, 155, 252, 247, 169, 111, 96, 86, 52, 92, 97, 231, 176, 177, 73, 20, 155, 54, 231, 74, 98, 74, 24, 71, 180, 44, 47, 172, 252, 167, 118, 226, 187, 151, 50, 126, 160, 209, 172, 191, 166, 15, 10, 252, 214, 45, 214, 97, 8, 209, 209, 93, 130, 228, 136, 172, 48, 106, 65, 103, 214, 213, 18, 127, 231, 106, 103, 210, 4, 226, 64, 138, 158, 162, 236, 245, 82, 93, 121, 238, 136, 58, 134, 88, 35, 97, 80, 189, 2, 10, 211, 18, 204, 215, 144, 137, 251, 35, 99, 227, 203, 65, 223, 238, 253, 114, 87, 30, 227, 28, 84, 37, 160, 251, 161, 106, 50, 178, 134, 167, 91, 241, 110, 83, 133, 205, 176, 41, 13, 90, 195, 103, 10, 24, 156, 88, 206, 112, 51, 19, 107, 52, 124, 185, 124, 32, 111, 114, 152, 152, 163, 74, 146, 61, 255, 193, 113, 78, 127, 228, 216, 65, 170, 71, 141, 191, 60, 223, 167, 145, 107, 91, 87, 58, 54, 253, 194, 61, 64, 120, 42, 101, 194, 219, 139, 5, 189, 249, 239, 228, 130, 254, 68, 109, 27, 97, 52, 241, 170, 204, 10, 138, 124, 171, 71, 145, 49, 184, 132, 51, 141, 139, 152, 74, 42, 218, 215, 139, 187, 185, 90, 252, 89, 57, 219, 93, 110, 139, 126, 137, 77, 223, 212, 59, 203, 211, 36, 59, 35, 233, 240, 206, 160, 255, 188, 101]
def exT1 : List Nat := [9, 204, 65, 40, 61, 201, 138, 0, 228, 21, 46, 242, 139, 9, 225, 172, 100, 37, 230, 202, 115, 135, 129, 232, 234, 186, 105, 131, 117, 94, 156, 29, 174, 175, 198, 147, 219, 114, 44, 147, 211, 81, 111, 52, 32, 184, 70, 161, 21, 132, 206, 219, 97, 97, 93, 186, 99, 28, 100, 6, 113, 104, 49, 187, 63, 152, 42, 98, 184, 81, 100, 65, 188, 25, 160, 15, 2, 66, 125, 185, 210, 164, 109, 247, 90, 238, 77, 20, 12, 185, 48, 36, 65, 48, 97, 40, 187, 57, 221, 26, 233, 30, 97, 11, 250, 110, 62, 255, 141, 129, 25, 112, 19, 220, 116, 249, 3, 73, 64, 213, 206, 53, 95, 134, 33, 230, 101, 29, 78, 184, 187, 229, 7, 3, 18, 211, 107, 208, 55, 81, 8, 239, 71, 247, 70, 51, 217, 113, 179, 207, 96, 233, 152, 212, 56, 164, 40, 160, 11, 239, 219, 160, 246, 69, 122, 95, 209, 81, 245, 97, 129, 50, 153, 27, 22, 171, 173, 53, 132, 196, 95, 177, 233, 38, 158, 76, 160, 0, 254, 63, 51, 203, 133, 144, 117, 153, 185, 187, 123, 124, 171, 70, 105, 107, 194, 92, 233, 148, 40, 114, 70, 191, 5, 20, 36, 17, 107, 13, 12, 57, 26, 63, 121, 169, 24, 134, 188, 73, 146, 16, 69, 98, 37, 103, 206, 71, 107, 34, 204, 218, 27, 24, 3, 90, 99, 74, 202, 13, 212, 80, 37, 233, 159, 46, 133, 109, 182, 31, 9, 51, 61, 101, 241, 146, 21, 240, 202, 156, 157, 69, 33, 215, 178, 102, 99, 137, 49, 153, 216, 74, 91, 180, 130, 177, 240, 1, 1, 208, 128, 95, 247, 25, 2, 209, 141, 33, 169, 39, 152, 89, 194, 133, 120, 6, 178, 65, 217, 230, 154, 165, 64, 175, 140, 66, 0, 79, 199, 125, 215, 124, 121, 62, 240, 165, 211, 121, 67, 165, 12, 151, 206, 206, 133, 32, 187, 251, 22, 53, 193, 45, 197, 230, 147, 155, 202, 79, 224, 153, 168, 151, 52, 44, 88, 230, 203, 210, 118, 129, 6, 218, 20, 84, 92, 166, 83, 22, 140, 56, 117, 129, 244, 35, 115, 229, 219, 250, 98, 62, 40, 137, 100, 47, 131, 168, 53, 160, 5, 208, 250, 145, 39, 170, 227, 24, 163, 247, 84, 137, 175, 184, 219, 157, 10, 121, 246, 215, 169, 112, 118, 207, 79, 170, 12, 64, 43, 152, 189, 239, 65, 156, 177, 211, 198, 242, 60, 164, 132, 48, 77, 253, 199, 230, 174, 171, 72, 38, 29, 76, 79, 242, 133, 113, 137, 38, 77, 94, 8, 11, 40, 17, 242, 196, 24, 213, 127, 77, 163, 59, 147, 167, 171, 91, 32, 230, 168, 93, 45, 116, 221, 207, 52, 161, 25, 222, 179, 106, 106, 99, 167, 101, 225, 245, 151, 76, 192, 208, 7, 209, 197, 106, 172, 104, 18, 0, 146, 116, 136, 213, 7, 48, 169, 37, 109, 181, 12, 78, 0, 137, 20, 110, 118, 164, 213, 141, 129, 58, 89, 148, 235, 84, 196, 201, 128, 81, 76, 72, 151, 117, 1, 236, 242, 86, 179, 125, 218, 237, 164, 241, 61, 125, 140, 103, 241, 99, 11, 244, 67, 177, 224, 83, 82, 126, 170, 154, 121, 75, 173, 225, 246, 235, 121, 210, 177, 94, 37, 19, 57, 246, 37, 220, 227, 139, 244, 88, 173, 174, 194, 174, 69, 236, 79, 141, 138, 35, 169, 113, 44, 225, 97, 179, 192, 173, 207, 161, 182, 144, 211, 84, 9, 168, 227, 150, 192, 220, 24, 128, 61, 122, 174, 193, 10, 37, 59, 144, 65, 59, 137, 215, 143, 132, 154, 184, 46, 196, 61, 159, 35, 242, 3, 195, 83, 31, 165, 105, 86, 14, 132, 214, 214, 248, 91, 79, 167, 55, 1, 253, 22, 194, 247, 125, 222, 112, 4, 172, 63, 43, 85, 192, 61, 147, 3, 239, 186, 147, 101, 84, 121, 191, 199, 87, 137, 146, 115, 7, 27, 108, 226, 8, 114, 246, 106, 177, 139, 243, 229, 140, 6, 222, 240, 229, 165, 188, 199, 69, 63, 246, 144, 221, 147, 1, 64, 106, 105, 252, 208, 168, 219, 157, 245, 144, 79, 121, 140, 153, 246, 142, 131, 166, 230, 128, 88, 132, 39, 4, 161, 136, 169, 99, 108, 12, 222, 11, 65, 153, 237, 13, 111, 59, 123, 201, 213, 162, 93, 20, 43, 0, 87, 179, 161, 79, 131, 6, 5, 232, 12, 102, 157, 217, 22, 116, 54, 16, 242, 252, 185, 180, 226, 62, 27, 176, 181, 114, 232, 150, 169, 86, 194, 165, 100, 34, 107, 255, 206, 49, 208, 124, 79, 177, 110, 177, 106, 57, 194, 149, 226, 20, 11, 170, 47, 26, 143, 219, 243, 94, 58, 177, 38, 108, 159, 25, 35, 192, 15, 74, 139, 82, 112, 136, 244, 197, 214, 85, 232, 172, 231, 179, 136, 94, 167, 183, 45, 32, 158, 191, 255, 163, 16, 55, 190, 134, 71, 197, 159, 241, 89, 17, 126, 109, 90, 228, 37, 79, 61, 54, 4, 184, 79, 127, 1, 163, 129, 177, 136, 183, 224, 120, 59, 26, 98, 201, 44, 59, 18, 31, 188, 3, 232, 48, 107, 46, 33, 78, 147, 196, 214, 125, 225, 199, 54, 133, 185, 241, 140, 252, 186, 170, 225, 59, 216, 94, 2, 21, 181, 16, 47, 161, 63, 169, 182, 239, 8, 248, 239, 59, 7, 158, 219, 54, 67, 43, 127, 2, 42, 88, 230, 42, 1, 92, 179, 216, 152, 92, 255, 83, 12, 214, 14, 155, 209, 42, 133, 199, 40, 69, 58, 140, 37, 53, 143, 164, 10, 242, 199, 233, 124, 170, 122, 179, 41, 151, 67, 36, 94, 110, 70, 18, 11, 188, 103, 11, 170, 89, 24, 219, 103, 194, 193, 210, 165, 205, 27, 109, 108, 71, 131, 14, 235, 226, 18, 185, 82, 168, 113, 4, 135, 202, 14, 166, 215, 99, 134, 190, 85, 162, 76, 35, 83, 217, 175, 129, 62, 59, 189, 57, 222, 66, 6, 223, 2, 184, 160, 93, 203, 27, 59, 153, 6, 109, 81, 177, 84, 254, 101, 5, 244, 112, 212, 250, 169, 159, 224, 14, 182, 105, 235, 230, 88, 34, 204, 16, 238, 5, 218, 117, 206, 88, 192, 204, 3, 6, 226, 115, 219, 170, 42, 41, 88, 248, 224, 38, 169, 76, 15, 201, 110, 234, 254, 188, 151, 77, 119, 1, 79, 94, 87, 254, 200, 78]
def exTV : List Nat := [18, 139, 10, 190, 115, 136, 157, 28, 59, 198, 49, 83, 164, 19, 239, 0, 100, 155, 50, 68, 206, 16, 235, 208, 115, 162, 122, 234, 114, 243, 42, 172, 174, 175, 198, 147, 219, 114, 44, 147, 211, 81, 111, 52, 32, 184, 70, 161, 175, 126, 141, 64, 255, 196, 218, 4, 88, 111, 154, 223, 82, 36, 92, 208, 171, 199, 210, 209, 177, 72, 89, 204, 116, 171, 71, 154, 140, 230, 65, 233, 53, 255, 76, 143, 159, 44, 14, 172, 171, 61, 184, 215, 26, 200, 6, 105, 151, 115, 127, 237, 70, 81, 183, 47, 186, 141, 14, 48, 181, 254, 37, 233, 19, 220, 116, 249, 3, 73, 64, 213, 206, 53, 95, 134, 33, 230, 101, 29, 1, 113, 79, 118, 184, 187, 184, 140, 217, 187, 157, 105, 212, 251, 211, 250, 91, 94, 162, 242, 135, 241, 67, 227, 147, 18, 43, 56, 8, 72, 107, 218, 44, 176, 99, 79, 179, 8, 124, 48, 140, 129, 135, 105, 248, 150, 47, 95, 173, 53, 132, 196, 95, 177, 233, 38, 158, 76, 160, 0, 254, 63, 51, 203, 133, 144, 117, 153, 185, 187, 123, 124, 171, 70, 105, 107, 194, 92, 233, 148, 192, 78, 212, 241, 247, 0, 89, 226, 244, 165, 87, 59, 222, 145, 78, 147, 104, 70, 87, 116, 10, 126, 197, 72, 18, 206, 248, 110, 36, 211, 36, 97, 216, 230, 23, 13, 197, 110, 113, 160, 59, 79, 191, 59, 145, 194, 28, 43, 182, 31, 9, 51, 61, 101, 241, 146, 21, 240, 202, 156, 157, 69, 33, 215, 178, 102, 99, 137, 49, 153, 216, 74, 91, 180, 130, 177, 240, 1, 1, 208, 128, 95, 247, 25, 2, 209, 141, 33, 169, 39, 152, 89, 194, 133, 120, 6, 152, 149, 244, 255, 158, 135, 186, 27, 60, 66, 160, 85, 60, 75, 18, 137, 121, 62, 240, 165, 211, 121, 67, 165, 12, 151, 206, 206, 133, 32, 187, 251, 22, 53, 193, 45, 197, 230, 147, 155, 202, 79, 224, 153, 168, 151, 52, 44, 241, 138, 217, 220, 201, 23, 187, 166, 139, 192, 66, 28, 183, 228, 108, 64, 69, 136, 156, 131, 252, 197, 143, 42, 123, 23, 189, 167, 230, 88, 29, 110, 155, 64, 200, 178, 78, 69, 36, 147, 67, 116, 38, 67, 245, 84, 86, 56, 127, 46, 217, 99, 208, 68, 190, 193, 134, 83, 44, 78, 10, 19, 46, 13, 50, 26, 54, 16, 181, 38, 251, 176, 41, 40, 59, 191, 228, 119, 215, 1, 171, 137, 55, 247, 235, 216, 38, 35, 171, 141, 236, 97, 54, 239, 211, 147, 88, 185, 57, 81, 234, 28, 51, 24, 233, 149, 255, 49, 101, 143, 246, 39, 31, 205, 247, 196, 244, 75, 52, 3, 121, 28, 87, 187, 171, 226, 158, 70, 5, 248, 181, 215, 204, 94, 131, 237, 109, 4, 199, 49, 74, 31, 186, 80, 1, 33, 13, 127, 140, 130, 94, 199, 105, 219, 142, 173, 51, 135, 162, 144, 212, 48, 240, 34, 21, 91, 252, 152, 214, 150, 220, 155, 65, 247, 43, 211, 80, 245, 29, 191, 131, 75, 198, 219, 206, 86, 76, 37, 94, 156, 59, 207, 22, 48, 156, 67, 17, 207, 109, 202, 60, 250, 32, 11, 112, 128, 57, 167, 239, 124, 123, 104, 125, 169, 100, 36, 216, 10, 101, 113, 168, 96, 155, 169, 12, 211, 179, 239, 143, 129, 70, 242, 56, 5, 51, 28, 181, 16, 104, 6, 111, 186, 126, 70, 83, 107, 168, 0, 176, 205, 213, 238, 39, 242, 167, 117, 109, 188, 67, 121, 119, 57, 219, 217, 98, 208, 233, 43, 231, 89, 102, 147, 134, 246, 124, 13, 2, 85, 56, 24, 17, 24, 45, 11, 49, 151, 195, 28, 50, 58, 28, 121, 133, 76, 219, 234, 37, 74, 62, 232, 77, 0, 70, 236, 85, 192, 61, 147, 3, 239, 186, 147, 101, 84, 121, 191, 199, 87, 137, 146, 254, 47, 185, 198, 199, 108, 68, 66, 46, 152, 233, 86, 0, 167, 65, 59, 240, 229, 165, 188, 199, 69, 63, 246, 144, 221, 147, 1, 64, 106, 105, 252, 134, 38, 183, 3, 40, 76, 225, 62, 49, 157, 71, 8, 41, 32, 212, 96, 23, 17, 207, 232, 219, 250, 9, 176, 222, 76, 233, 160, 55, 108, 176, 33, 35, 123, 121, 253, 104, 145, 98, 214, 10, 83, 131, 177, 77, 45, 65, 3, 5, 232, 12, 102, 157, 217, 22, 116, 54, 16, 242, 252, 185, 180, 226, 62, 249, 111, 41, 30, 226, 190, 2, 231, 250, 99, 134, 197, 89, 61, 207, 195, 208, 124, 79, 177, 110, 177, 106, 57, 194, 149, 226, 20, 11, 170, 47, 26, 123, 25, 200, 215, 216, 205, 252, 243, 182, 190, 234, 128, 62, 118, 244, 121, 180, 55, 174, 108, 110, 201, 41, 28, 114, 156, 172, 132, 84, 117, 252, 235, 79, 252, 144, 118, 52, 92, 144, 223, 7, 174, 239, 222, 109, 154, 250, 206, 90, 228, 37, 79, 61, 54, 4, 184, 79, 127, 1, 163, 129, 177, 136, 183, 224, 120, 59, 26, 98, 201, 44, 59, 18, 31, 188, 3, 232, 48, 107, 46, 144, 19, 160, 130, 193, 13, 165, 123, 136, 179, 167, 103, 187, 33, 90, 132, 225, 59, 216, 94, 2, 21, 181, 16, 47, 161, 63, 169, 182, 239, 8, 248, 246, 42, 13, 206, 148, 176, 3, 14, 179, 155, 127, 152, 209, 186, 28, 229, 104, 40, 84, 134, 239, 65, 43, 238, 134, 53, 113, 78, 56, 86, 13, 105, 251, 178, 166, 146, 231, 119, 20, 174, 71, 191, 137, 3, 44, 35, 148, 182, 243, 43, 131, 231, 121, 1, 251, 188, 154, 130, 19, 208, 83, 17, 205, 84, 142, 208, 132, 100, 239, 82, 76, 126, 185, 2, 69, 254, 197, 47, 135, 115, 173, 59, 177, 66, 46, 169, 252, 100, 54, 177, 187, 235, 23, 242, 144, 244, 175, 129, 62, 59, 189, 57, 222, 66, 6, 223, 2, 184, 160, 93, 203, 27, 59, 153, 6, 109, 81, 177, 84, 254, 101, 5, 244, 112, 212, 250, 169, 159, 224, 14, 182, 105, 235, 230, 88, 34, 204, 16, 238, 5, 218, 117, 206, 88, 192, 204, 3, 6, 226, 115, 219, 170, 42, 41, 88, 248, 224, 38, 169, 76, 58, 33, 123, 191, 147, 53, 22, 121, 140, 211, 160, 99, 63, 244, 42, 205]
def exL0 : List Nat := [80, 73, 45, 231, 176, 163, 176, 191, 50, 21, 175, 156, 94, 157, 129, 60]
def exL1 : List Nat := [248, 13, 241, 199, 82, 0, 7, 175, 211, 9, 215, 170, 188, 253, 121, 229]
def exLV : List Nat := [147, 73, 31, 29, 228, 184, 90, 61, 164, 58, 106, 58, 115, 185, 176, 101]
def exP : List Nat := [31, 233, 193, 5, 43, 37, 86, 82, 86, 138, 196, 127, 177, 93, 124, 69]
def exRV : List Nat := [128, 13, 107, 31, 233, 215, 246, 152, 220, 75, 51, 137, 53, 160, 162, 21]
def exDm : List Nat := [139, 49, 158, 214, 218, 149, 35, 105, 244, 17, 128, 141, 108, 115, 184, 138]
def exDn : List Nat := [233, 169, 118, 201, 216, 144, 246, 199, 97, 75, 4, 225, 39, 178, 167, 18]
def exDk : List Nat := [93, 127, 84, 121, 72, 2, 126, 124, 204, 93, 73, 115, 236, 133, 242, 12]
set_option maxRecDepth 100000
theorem run_T0 : eqN (topsN s5 0 0 68) exT0 = true := by decide +kernel
theorem run_T1 : eqN (topsN s5 1 0 68) exT1 = true := by decide +kernel
theorem run_TV : eqN (crossN s5 1 0 (exA.zip exX)) exTV = true := by decide +kernel
theorem run_L0 : eqN (ofN1 3 (ofN1 2 exT0)) exL0 = true := by decide +kernel
theorem run_L1 : eqN (ofN1 3 (ofN1 2 exT1)) exL1 = true := by decide +kernel
theorem run_LV : eqN (ofN1 3 (ofN1 2 exTV)) exLV = true := by decide +kernel
theorem run_P : eqN (ofN2 4 exL0 exL1) exP = true := by decide +kernel
theorem run_RV : eqN (ofN2 4 exL0 exLV) exRV = true := by decide +kernel
theorem run_Dm : eqN (ofN3 5 exP [129, 1] [109]) exDm = true := by decide +kernel
theorem run_Dn : eqN (ofN3 5 exP [129, 1] [110]) exDn = true := by decide +kernel
theorem run_Dk : eqN (ofN3 5 exP [128] [109]) exDk = true := by decide +kernel
theorem run_A : digits exDm = exA := by decide +kernel
theorem run_X : digits exDn = exX := by decide +kernel
theorem run_ne : exRV ≠ exP ∧ exDm ≠ exDk := by decide +kernel

end Go.Proofs.YthffkbdecfjekaaDoor

/-
  What the examples of layer 3 come to: the root, the signature of "m" held against "n" is wrong, two digests differ. Plain mathematics.
-/
namespace Go.Proofs.YthffkbdecfjekaaDoor
set_option linter.unusedVariables false
set_option linter.unusedSimpArgs false

theorem s5_len : s5.length = 32 := rfl
theorem s5_byte : ∀ y ∈ s5, y < 256 := by decide
theorem ex_T0 : topsM s5 0 68 = exT0 := (topsN_eq s5 s5_len s5_byte 0 (by omega)).trans (eqN_eq _ _ run_T0)
theorem ex_T1 : topsM s5 1 68 = exT1 := (topsN_eq s5 s5_len s5_byte 1 (by omega)).trans (eqN_eq _ _ run_T1)
theorem leaf_N (T : List Nat) (hl : T.length < 65536) (hb : ∀ y ∈ T, y < 256) : leafM T = ofN1 3 (ofN1 2 T) := by
  have hd := dig_ofS 2 [T]
  unfold leafM
  rw [ofN1_eq 3 (by omega) _ (by rw [hd.1]; omega) hd.2, ofN1_eq 2 (by omega) T hl hb]
theorem join_N (a b : List Nat) (ha : Dgt a) (hb : Dgt b) : joinM a b = ofN2 4 a b := ofN2_eq 4 (by omega) a b (by rw [ha.1]; omega) ha.2 (by rw [hb.1]; omega) hb.2
theorem ex_L0 : nodeM s5 0 0 = exL0 := by
  rw [nodeM, leaf_N _ (by rw [topsM_length]; omega) (topsM_byte s5 0 68), ex_T0]
  exact eqN_eq _ _ run_L0
theorem ex_L1 : nodeM s5 0 1 = exL1 := by
  rw [nodeM, leaf_N _ (by rw [topsM_length]; omega) (topsM_byte s5 1 68), ex_T1]
  exact eqN_eq _ _ run_L1
theorem ex_P : rootM s5 1 = exP := by
  rw [rootM, nodeM, join_N _ _ (node_dgt _ _ _) (node_dgt _ _ _), show 2 * 0 + 1 = 1 from rfl, Nat.mul_zero, ex_L0, ex_L1]
  exact eqN_eq _ _ run_P
theorem exP_dgt : Dgt exP := ex_P ▸ node_dgt s5 1 0
theorem ex_digest (i : Nat) (hi : i < 65536) (m : Nat) (hm : m < 256) : digestM exP (i : Int) [m] = ofN3 5 exP (encN i) [m] := by
  unfold digestM
  rw [ofN3_eq 5 (by omega) exP _ [m] (by rw [exP_dgt.1]; omega) exP_dgt.2 (by have := (enc_length (i : Int) (by omega) (by omega)).2; omega) (enc_lt (i : Int) (by omega) (by omega)) (by simp) (by intro y hy; simp at hy; omega), encN_eq i hi]
theorem ex_Dm : digestM exP ((1 : Nat) : Int) [109] = exDm := (ex_digest 1 (by omega) 109 (by omega)).trans (eqN_eq _ _ run_Dm)
theorem ex_Dn : digestM exP ((1 : Nat) : Int) [110] = exDn := (ex_digest 1 (by omega) 110 (by omega)).trans (eqN_eq _ _ run_Dn)
theorem ex_Dk : digestM exP ((0 : Nat) : Int) [109] = exDk := (ex_digest 0 (by omega) 109 (by omega)).trans (eqN_eq _ _ run_Dk)

theorem cross_any (s : List Nat) (hs : s.length = 32) (hb : ∀ y ∈ s, y < 256) (i : Nat) (hi : i < 256) (A X R : List Nat) (hA : ∀ c, A.getD c 0 ≤ 3) (hX : ∀ c, X.getD c 0 ≤ 3) (hlA : A.length = 68) (hlX : X.length = 68) : ∀ n c, c + n = 68 →
    verT (sigC s i A 68 ++ R) i X c ++ crossN s i c ((A.zip X).drop c) = verT (sigC s i A 68 ++ R) i X 68
  | 0, c, h => by
    have : c = 68 := by omega
    subst this
    rw [List.drop_of_length_le (by rw [List.length_zip]; omega), crossN, List.append_nil]
  | n + 1, c, h => by
    have hz : c < (A.zip X).length := by rw [List.length_zip]; omega
    have h1 : A.getD c 0 = A[c]'(by omega) := by rw [List.getD_eq_getElem?_getD, List.getElem?_eq_getElem (by omega)]; rfl
    have h2 : X.getD c 0 = X[c]'(by omega) := by rw [List.getD_eq_getElem?_getD, List.getElem?_eq_getElem (by omega)]; rfl
    have a3 := hA c
    have x3 := hX c
    rw [List.drop_eq_getElem_cons hz, List.getElem_zip, ← h1, ← h2, crossN, ← cross_any s hs hb i hi A X R hA hX hlA hlX n (c + 1) (by omega), verT, piece_C s i A R c (by omega)]
    rw [← firstN_eq s hs hb i c hi (by omega), ← advN_eq i c 0 _ hi (by omega) (by omega) (firstM_dig s i c) _ (by omega), ← advN_eq i c _ _ hi (by omega) (by omega) (advM_dig i c 0 _ (firstM_dig s i c) _) _ (by show 3 - _ < 256; omega)]
    rw [← List.append_assoc]
    rfl
theorem ex_A (c : Nat) : exA.getD c 0 ≤ 3 := by
  rw [← run_A]
  exact digits_getD _ (ex_Dm ▸ digest_dgt _ _ _) c
theorem ex_X (c : Nat) : exX.getD c 0 ≤ 3 := by
  rw [← run_X]
  exact digits_getD _ (ex_Dn ▸ digest_dgt _ _ _) c
theorem ex_TV : verT (sigC s5 1 exA 68 ++ sigS s5 1 1) 1 exX 68 = exTV := by
  have h := cross_any s5 s5_len s5_byte 1 (by omega) exA exX (sigS s5 1 1) ex_A ex_X rfl rfl 68 0 rfl
  rw [verT, List.nil_append, List.drop_zero] at h
  exact h.symm.trans (eqN_eq _ _ run_TV)
theorem ex_wrong : verR exP 1 1 [110] (sigC s5 1 exA 68 ++ sigS s5 1 1) ≠ exP := by
  have hp : piece (sigC s5 1 exA 68 ++ sigS s5 1 1) (68 + 0) = nodeM s5 0 0 := piece_S s5 1 1 exA 0 (by omega)
  have hb : ∀ y ∈ sigC s5 1 exA 68 ++ sigS s5 1 1, y < 256 := by
    intro y hy
    rcases List.mem_append.1 hy with h | h
    · exact sigC_byte _ _ _ _ y h
    · exact sigS_byte _ _ _ y h
  have hl : (sigC s5 1 exA 68 ++ sigS s5 1 1).length = 1104 := by rw [List.length_append, sigC_length, sigS_length]
  have tl := verT_length (sigC s5 1 exA 68 ++ sigS s5 1 1) 1 exX 68 (by omega) hb
  have tb := verT_byte (sigC s5 1 exA 68 ++ sigS s5 1 1) 1 exX 68 (by omega) hb
  unfold verR
  rw [ex_Dn, run_X, verN, if_pos (by decide), hp, verN, ex_L0, ex_TV]
  rw [ex_TV] at tl tb
  rw [join_N exL0 _ (ex_L0 ▸ node_dgt _ _ _) (leaf_dgt _), leaf_N exTV (by omega) tb, eqN_eq _ _ run_LV, eqN_eq _ _ run_RV]
  exact run_ne.1
theorem ex_ver : verM exP ((1 : Nat) : Int) [110] (sigM s5 1 1 [109]) = (0, 19) := by
  unfold sigM
  rw [ver_any exP 1 1 (by omega) (by omega) [110] (by simp), ex_P, ex_Dm, run_A, if_neg, if_pos]
  · exact ex_wrong
  · rw [List.length_append, sigC_length, sigS_length]
    omega
theorem ex_two : digestM exP ((1 : Nat) : Int) [109] ≠ digestM exP ((0 : Nat) : Int) [109] := by
  rw [ex_Dm, ex_Dk]
  exact run_ne.2

end Go.Proofs.YthffkbdecfjekaaDoor

/-
  passimlaw03.sanity: the examples of the documentation.
-/
namespace Go.Proofs.YthffkbdecfjekaaDoor
open Go.RowKit
set_option linter.unusedVariables false
set_option linter.unusedSimpArgs false

def strM : ByteArray := ⟨#[109]⟩
def strN : ByteArray := ⟨#[110]⟩
theorem seed5 : seedL 5 = s5 := rfl
theorem sb5 : sb (strOf (seedL 5)) = s5 := by rw [seed5]; exact sb_strOf s5 s5_byte
theorem size5 : (strOf (seedL 5)).size = 32 := by rw [strOf_size]; rfl
theorem ex_pub (w : World) (hG : Glob w) : Calls Tryd.prog 12 #[.string (strOf (seedL 5)), .int .i64 1] w fun e w' => e = .returned (.tuple #[.agg (bytesV exP).toArray, .int .i64 0]) ∧ Below w.heap.size w w' := by
  have h := public_yes (strOf (seedL 5)) 1 size5 (by omega) w hG
  rw [sb5, ex_P] at h
  exact h
def exS : ByteArray := strOf (sigM s5 1 1 [109])
theorem exS_sb : sb exS = sigM s5 1 1 [109] := sb_strOf _ (by
  unfold sigM
  intro y hy
  rcases List.mem_append.1 hy with h | h
  · exact enc_lt _ (by simp) (by simp) y h
  · rcases List.mem_append.1 h with h1 | h1
    · exact sigC_byte _ _ _ _ y h1
    · exact sigS_byte _ _ _ y h1)
theorem exS_size : exS.size ≤ 2000 := by
  have h9 := (enc_length ((1 : Nat) : Int) (by simp) (by simp)).2
  have hl := sig_length s5 1 1 [109]
  rw [← exS_sb, sb_length] at hl
  rw [hl]
  generalize (enc ((1 : Nat) : Int)).length = n at h9 ⊢
  omega
theorem ex_sig (w : World) (hG : Glob w) : Calls Tryd.prog 14 #[.string (strOf (seedL 5)), .int .i64 1, .int .i64 1, .string ⟨#[109]⟩] w fun e w' => e = .returned (.tuple #[.string exS, .int .i64 0]) ∧ Below w.heap.size w w' := by
  have h := sign_yes (strOf (seedL 5)) ⟨#[109]⟩ 1 1 size5 (by omega) (by omega) (by decide) w hG
  rw [sb5, show sb (⟨#[109]⟩ : ByteArray) = [109] from rfl] at h
  unfold exS
  exact h
theorem ex_spent (w : World) : Calls Tryd.prog 14 #[.string (strOf (seedL 5)), .int .i64 1, .int .i64 2, .string ⟨#[109]⟩] w fun e w' => e = .returned (.tuple #[.string ⟨#[]⟩, .int .i64 20]) ∧ w = w' :=
  sign_spent (strOf (seedL 5)) ⟨#[109]⟩ 1 2 size5 (by omega) (Or.inr (by decide)) w
theorem ex_ok (w : World) (hG : Glob w) : Calls Tryd.prog 18 #[.agg (bytesV exP).toArray, .int .i64 1, .string ⟨#[109]⟩, .string exS] w fun e w' => e = .returned (.tuple #[.int .i64 1, .int .i64 0]) ∧ Below w.heap.size w w' := by
  have h := verify_any exP exP_dgt 1 ⟨#[109]⟩ exS (by decide) (by have := exS_size; omega) w hG
  have e := sign_accepted s5 1 1 (by omega) (by omega) [109] (by decide)
  rw [ex_P] at e
  rw [exS_sb, show sb (⟨#[109]⟩ : ByteArray) = [109] from rfl, show verM exP 1 [109] (sigM s5 1 1 [109]) = (((1 : Nat) : Int), 0) from e] at h
  exact h
theorem ex_no (w : World) (hG : Glob w) : Calls Tryd.prog 18 #[.agg (bytesV exP).toArray, .int .i64 1, .string ⟨#[110]⟩, .string exS] w fun e w' => e = .returned (.tuple #[.int .i64 0, .int .i64 19]) ∧ Below w.heap.size w w' := by
  have h := verify_any exP exP_dgt 1 ⟨#[110]⟩ exS (by decide) (by have := exS_size; omega) w hG
  rw [exS_sb, show sb (⟨#[110]⟩ : ByteArray) = [110] from rfl, show verM exP 1 [110] (sigM s5 1 1 [109]) = (0, 19) from ex_ver] at h
  exact h
theorem ex_short (w : World) : Calls Tryd.prog 12 #[.string ((strOf (seedL 5)).extract 1 (strOf (seedL 5)).size), .int .i64 0] w fun e w' => e = .returned (.tuple #[.agg (bytesV z16).toArray, .int .i64 1]) ∧ Below w.heap.size w w' :=
  public_no _ 0 (by rw [fitsB, ← sb_length, sb_from, sb5]; rfl) w
theorem digits_z (w : World) : Calls Tryd.prog 10 #[.agg (bytesV z16).toArray] w fun e w' => ∃ b, e = .returned (.slice (some ⟨b, 0, none⟩) 68 68) ∧ w.heap.size ≤ b ∧ Blk w' b 43 (numsV (digits z16)) ∧ Below w.heap.size w w' :=
  digits_any z16 rfl (fun y hy => by rw [List.eq_of_mem_replicate (n := 16) (a := 0) hy]; omega) w
theorem exD_dgt (i : Nat) : Dgt (digestM exP (i : Int) [109]) := digest_dgt _ _ _
theorem ex_dig (i : Int) (h1 : -9223372036854775808 ≤ i) (h2 : i ≤ 9223372036854775807) (w : World) (hG : Glob w) : Calls Tryd.prog 16 #[.agg (bytesV exP).toArray, .int .i64 i, .string ⟨#[109]⟩] w fun e w' => e = .returned (.agg (bytesV (digestM exP i [109])).toArray) ∧ Below w.heap.size w w' :=
  sdigest_any exP exP_dgt i h1 h2 ⟨#[109]⟩ (by decide) w hG

set_option maxHeartbeats 4000000 in
set_option maxRecDepth 100000 in
theorem sanity3_any (w : World) (hG : Glob w) : Calls Tryd.prog 9 #[] w (Told w true) := by
  have hz1 := zero_dig'
  have hzb := build_zero
  have hvz : (bytesV z16).length = 16 := rfl
  have hz16 : (bytesV z16).toArray.toList.length = 16 := rfl
  have hvP : (bytesV exP).length = 16 := by rw [bytesV_length]; exact exP_dgt.1
  have h5s : (1 : Int) ≤ ((strOf (seedL 5)).size : Int) := by rw [size5]; omega
  have H0 := Lib.hid (fun w0 => seed_any 5 (by omega) w0)
  have H1 := Lib.hid (fun w0 g => ex_pub w0 g)
  have H2 := Lib.hid (fun w0 g => ex_sig w0 g)
  have H3 := Lib.hid (fun w0 g => ex_ok w0 g)
  have H4 := Lib.hid (fun w0 g => ex_no w0 g)
  have H5 := Lib.hid (fun w0 => ex_spent w0)
  have H6 := Lib.hid (fun w0 => ex_short w0)
  have H7 := Lib.hid (fun w0 => digits_z w0)
  have H8 := Lib.hid (fun w0 g => ex_dig 1 (by omega) (by omega) w0 g)
  have H9 := Lib.hid (fun w0 g => ex_dig 0 (by omega) (by omega) w0 g)
  have hD8 : Dgt (digestM exP 1 [109]) := digest_dgt _ _ _
  have hD9 : Dgt (digestM exP 0 [109]) := digest_dgt _ _ _
  have hne : digestM exP 1 [109] ≠ digestM exP 0 [109] := ex_two
  have hPd := exP_dgt
  generalize digestM exP 1 [109] = D8 at H8 hD8 hne
  generalize digestM exP 0 [109] = D9 at H9 hD9 hne
  generalize strOf (seedL 5) = S5 at H0 H1 H2 H5 H6 h5s
  generalize exS = SG at H2 H3 H4
  generalize exP = P at H1 H3 H4 H8 H9 hvP hPd
  go_enter Tryd.func9, Tryd.ntmps9
  go_wp2_with fail
  refine (H0.out w).mono ?_
  rintro e w1 ⟨rfl, hB1⟩
  go_wp2_with fail
  refine (H1.out w1 (hG.keep hB1)).mono ?_
  rintro e w2 ⟨rfl, hB2⟩
  have hB12 := link hB1 hB2
  go_upto_region 3 with (refine store_blk rfl 23 (.tmp 2) (.tmp 19) rfl (blk_new w2 23 (bytesV z16).toArray) rfl rfl (m := 16) (by kernel_rfl) hvP hz16 (bytesV_cells P) ?_; intro x1 KP O3)
  have C1 : Below w.heap.size w x1 := O3.2.2 _ _ hB12.size (hB12.alloc hB12.size _)
  obtain ⟨pb, hpb⟩ : ∃ pb, w2.heap.size = pb := ⟨_, rfl⟩
  rw [hpb] at KP ⊢
  clear O3 hB1 hB2 hB12 hpb
  go_wp2_with fail
  refine (H2.out x1 (hG.keep C1)).mono ?_
  rintro e w3 ⟨rfl, hB3⟩
  have KP3 := KP.keep hB3
  have C3 := link C1 hB3
  clear hB3 KP C1
  go_wp2_with (refine load_blk rfl 23 (.tmp 2) rfl KP3 rfl Tryd.underlying23 (m := 16) (by kernel_rfl) hvP ?_)
  refine (H3.out w3 (hG.keep C3)).mono ?_
  rintro e w4 ⟨rfl, hB4⟩
  have KP4 := KP3.keep hB4
  have C4 := link C3 hB4
  clear hB4 KP3 C3
  go_wp2_with (refine load_blk rfl 23 (.tmp 2) rfl KP4 rfl Tryd.underlying23 (m := 16) (by kernel_rfl) hvP ?_)
  refine (H4.out w4 (hG.keep C4)).mono ?_
  rintro e w5 ⟨rfl, hB5⟩
  have KP5 := KP4.keep hB5
  have C5 := link C4 hB5
  clear hB5 KP4 C4
  go_wp2_with fail
  refine (H5.out w5).mono ?_
  rintro e w6 ⟨rfl, rfl⟩
  go_wp2_with fail
  refine (H6.out w5).mono ?_
  rintro e w7 ⟨rfl, hB7⟩
  have KP7 := KP5.keep hB7
  have C7 := link C5 hB7
  clear hB7 KP5 C5
  go_upto_region 8 with (refine store_blk rfl 23 (.tmp 12) (.tmp 47) rfl (blk_new w7 23 (bytesV z16).toArray) rfl rfl (m := 16) (by kernel_rfl) hvz hz16 (bytesV_cells z16) ?_; intro x2 K12 O3)
  have C8 : Below w.heap.size w x2 := O3.2.2 _ _ C7.size (C7.alloc C7.size _)
  have KP8 := O3.2.1 _ _ _ (by have := KP7.lt; omega) (KP7.alloc (.cells (bytesV z16).toArray 23))
  clear O3 K12 KP7 C7
  go_wp2_with fail
  refine (H7.out x2).mono ?_
  rintro e w9 ⟨db, rfl, _, KD, hB9⟩
  have KP9 := KP8.keep hB9
  have C9 := link C8 hB9
  clear hB9 KP8 C8
  go_upto_region 11 with (fail)
  have e0 : (numsV (digits z16))[0]? = some (.int .i64 0) := by kernel_rfl
  have e64 : (numsV (digits z16))[64]? = some (.int .i64 3) := by kernel_rfl
  have e67 : (numsV (digits z16))[67]? = some (.int .i64 0) := by kernel_rfl
  have hsP := size_dig P hPd.1
  refine wp_region_held_drew (S := fun w' => Below w9.heap.size w9 w') (by kernel_rfl) (below_drew (Below.refl _ _)) (fun hHeld => ?_)
  generalize w9.drew = V0 at hHeld ⊢
  refine wpAnyH_take (i := 0) (oi := ⟨some 66, .move (.tmp 6), 3, "law.go:32", #[], none⟩) (v := .int .i64 1) rfl (by kernel_rfl) (by kernel_rfl) (by kernel_rfl) (fun _ _ _ h => h) (Or.inl ⟨by rfl, fun w' hSw => by go_simp⟩) hHeld ?_
  try simp only [Act.put, List.setIfInBounds_toArray, List.set_cons_zero, List.set_cons_succ]
  refine wpAnyH_take (i := 1) (oi := ⟨some 67, .binOp .eql 3 (.tmp 66) (.const (Value.int IntKind.i64 1)) 3, 4, "law.go:32", #[⟨0, .data⟩], none⟩) (v := .bool true) rfl (by kernel_rfl) (by kernel_rfl) (by kernel_rfl) (fun _ _ _ h => h) (Or.inl ⟨by rfl, fun w' hSw => by go_simp⟩) hHeld ?_
  try simp only [Act.put, List.setIfInBounds_toArray, List.set_cons_zero, List.set_cons_succ]
  refine wpAnyH_take (i := 2) (oi := ⟨some 68, .move (.tmp 67), 4, "law.go:32", #[⟨1, .data⟩], none⟩) (v := .bool true) rfl (by kernel_rfl) (by kernel_rfl) (by kernel_rfl) (fun _ _ _ h => h) (Or.inl ⟨by rfl, fun w' hSw => by go_simp⟩) hHeld ?_
  try simp only [Act.put, List.setIfInBounds_toArray, List.set_cons_zero, List.set_cons_succ]
  refine wpAnyH_take (i := 3) (oi := ⟨some 69, .move (.tmp 9), 29, "law.go:32", #[⟨2, .guard⟩], some (2, true)⟩) (v := .int .i64 19) rfl (by kernel_rfl) (by kernel_rfl) (by kernel_rfl) (fun _ _ _ h => h) (Or.inl ⟨by rfl, fun w' hSw => by go_simp⟩) hHeld ?_
  try simp only [Act.put, List.setIfInBounds_toArray, List.set_cons_zero, List.set_cons_succ]
  refine wpAnyH_take (i := 4) (oi := ⟨some 70, .binOp .eql 29 (.tmp 69) (.const (Value.int IntKind.i64 19)) 29, 4, "law.go:32", #[⟨3, .data⟩, ⟨2, .guard⟩], some (2, true)⟩) (v := .bool true) rfl (by kernel_rfl) (by kernel_rfl) (by kernel_rfl) (fun _ _ _ h => h) (Or.inl ⟨by rfl, fun w' hSw => by go_simp⟩) hHeld ?_
  try simp only [Act.put, List.setIfInBounds_toArray, List.set_cons_zero, List.set_cons_succ]
  refine wpAnyH_take (i := 5) (oi := ⟨some 71, .pick (.tmp 68) (.tmp 70) (.const (Value.bool false)), 4, "law.go:32", #[⟨2, .data⟩, ⟨4, .data⟩], none⟩) (v := .bool true) rfl (by kernel_rfl) (by kernel_rfl) (by kernel_rfl) (fun _ _ _ h => h) (Or.inl ⟨by rfl, fun w' hSw => by go_simp⟩) hHeld ?_
  try simp only [Act.put, List.setIfInBounds_toArray, List.set_cons_zero, List.set_cons_succ]
  refine wpAnyH_take (i := 6) (oi := ⟨some 72, .move (.tmp 71), 4, "law.go:32", #[⟨5, .data⟩, ⟨2, .chain⟩], none⟩) (v := .bool true) rfl (by kernel_rfl) (by kernel_rfl) (by kernel_rfl) (fun _ _ _ h => h) (Or.inl ⟨by rfl, fun w' hSw => by go_simp⟩) hHeld ?_
  try simp only [Act.put, List.setIfInBounds_toArray, List.set_cons_zero, List.set_cons_succ]
  refine wpAnyH_take (i := 7) (oi := ⟨some 73, .move (.tmp 11), 29, "law.go:32", #[⟨6, .guard⟩], some (6, true)⟩) (v := .int .i64 20) rfl (by kernel_rfl) (by kernel_rfl) (by kernel_rfl) (fun _ _ _ h => h) (Or.inl ⟨by rfl, fun w' hSw => by go_simp⟩) hHeld ?_
  try simp only [Act.put, List.setIfInBounds_toArray, List.set_cons_zero, List.set_cons_succ]
  refine wpAnyH_take (i := 8) (oi := ⟨some 74, .binOp .eql 29 (.tmp 73) (.const (Value.int IntKind.i64 20)) 29, 4, "law.go:32", #[⟨7, .data⟩, ⟨6, .guard⟩], some (6, true)⟩) (v := .bool true) rfl (by kernel_rfl) (by kernel_rfl) (by kernel_rfl) (fun _ _ _ h => h) (Or.inl ⟨by rfl, fun w' hSw => by go_simp⟩) hHeld ?_
  try simp only [Act.put, List.setIfInBounds_toArray, List.set_cons_zero, List.set_cons_succ]
  refine wpAnyH_take (i := 9) (oi := ⟨some 75, .pick (.tmp 72) (.tmp 74) (.const (Value.bool false)), 4, "law.go:32", #[⟨6, .data⟩, ⟨8, .data⟩], none⟩) (v := .bool true) rfl (by kernel_rfl) (by kernel_rfl) (by kernel_rfl) (fun _ _ _ h => h) (Or.inl ⟨by rfl, fun w' hSw => by go_simp⟩) hHeld ?_
  try simp only [Act.put, List.setIfInBounds_toArray, List.set_cons_zero, List.set_cons_succ]
  refine wpAnyH_take (i := 10) (oi := ⟨some 76, .move (.tmp 75), 4, "law.go:32", #[⟨9, .data⟩, ⟨6, .chain⟩], none⟩) (v := .bool true) rfl (by kernel_rfl) (by kernel_rfl) (by kernel_rfl) (fun _ _ _ h => h) (Or.inl ⟨by rfl, fun w' hSw => by go_simp⟩) hHeld ?_
  try simp only [Act.put, List.setIfInBounds_toArray, List.set_cons_zero, List.set_cons_succ]
  refine wpAnyH_take (i := 11) (oi := ⟨some 77, .move (.tmp 13), 29, "law.go:32", #[⟨10, .guard⟩], some (10, true)⟩) (v := .int .i64 1) rfl (by kernel_rfl) (by kernel_rfl) (by kernel_rfl) (fun _ _ _ h => h) (Or.inl ⟨by rfl, fun w' hSw => by go_simp⟩) hHeld ?_
  try simp only [Act.put, List.setIfInBounds_toArray, List.set_cons_zero, List.set_cons_succ]
  refine wpAnyH_take (i := 12) (oi := ⟨some 78, .binOp .eql 29 (.tmp 77) (.const (Value.int IntKind.i64 1)) 29, 4, "law.go:32", #[⟨11, .data⟩, ⟨10, .guard⟩], some (10, true)⟩) (v := .bool true) rfl (by kernel_rfl) (by kernel_rfl) (by kernel_rfl) (fun _ _ _ h => h) (Or.inl ⟨by rfl, fun w' hSw => by go_simp⟩) hHeld ?_
  try simp only [Act.put, List.setIfInBounds_toArray, List.set_cons_zero, List.set_cons_succ]
  refine wpAnyH_take (i := 13) (oi := ⟨some 79, .pick (.tmp 76) (.tmp 78) (.const (Value.bool false)), 4, "law.go:32", #[⟨10, .data⟩, ⟨12, .data⟩], none⟩) (v := .bool true) rfl (by kernel_rfl) (by kernel_rfl) (by kernel_rfl) (fun _ _ _ h => h) (Or.inl ⟨by rfl, fun w' hSw => by go_simp⟩) hHeld ?_
  try simp only [Act.put, List.setIfInBounds_toArray, List.set_cons_zero, List.set_cons_succ]
  refine wpAnyH_take (i := 14) (oi := ⟨some 80, .move (.tmp 79), 4, "law.go:32", #[⟨13, .data⟩, ⟨10, .chain⟩], none⟩) (v := .bool true) rfl (by kernel_rfl) (by kernel_rfl) (by kernel_rfl) (fun _ _ _ h => h) (Or.inl ⟨by rfl, fun w' hSw => by go_simp⟩) hHeld ?_
  try simp only [Act.put, List.setIfInBounds_toArray, List.set_cons_zero, List.set_cons_succ]
  refine wpAnyH_take (i := 15) (oi := ⟨some 81, .move (.tmp 14), 25, "law.go:32", #[⟨14, .guard⟩], some (14, true)⟩) (v := .slice (some ⟨db, 0, none⟩) 68 68) rfl (by kernel_rfl) (by kernel_rfl) (by kernel_rfl) (fun _ _ _ h => h) (Or.inl ⟨by rfl, fun w' hSw => by go_simp⟩) hHeld ?_
  try simp only [Act.put, List.setIfInBounds_toArray, List.set_cons_zero, List.set_cons_succ]
  refine wpAnyH_take (i := 16) (oi := ⟨some 82, .indexAddr 25 (.tmp 81) (.const (Value.int IntKind.i64 0)), 0, "law.go:32", #[⟨15, .data⟩, ⟨14, .guard⟩], some (14, true)⟩) (v := .pointer (some ⟨db, 0, none⟩)) rfl (by kernel_rfl) (by kernel_rfl) (by kernel_rfl) (fun _ _ _ h => h) (Or.inl ⟨by rfl, fun w' hSw => by go_simp⟩) hHeld ?_
  try simp only [Act.put, List.setIfInBounds_toArray, List.set_cons_zero, List.set_cons_succ]
  refine wpAnyH_take (i := 17) (oi := ⟨some 83, .load 3 (.tmp 82), 3, "law.go:32", #[⟨16, .data⟩, ⟨14, .guard⟩], some (14, true)⟩) (v := .int .i64 0) rfl (by kernel_rfl) (by kernel_rfl) (by kernel_rfl) (fun _ _ _ h => h) (Or.inl ⟨by rfl, fun w' hSw => by have hcc := (KD.keep hSw).cell e0; go_simp⟩) hHeld ?_
  try simp only [Act.put, List.setIfInBounds_toArray, List.set_cons_zero, List.set_cons_succ]
  refine wpAnyH_take (i := 18) (oi := ⟨some 84, .binOp .eql 3 (.tmp 83) (.const (Value.int IntKind.i64 0)) 3, 4, "law.go:32", #[⟨17, .data⟩, ⟨14, .guard⟩], some (14, true)⟩) (v := .bool true) rfl (by kernel_rfl) (by kernel_rfl) (by kernel_rfl) (fun _ _ _ h => h) (Or.inl ⟨by rfl, fun w' hSw => by go_simp⟩) hHeld ?_
  try simp only [Act.put, List.setIfInBounds_toArray, List.set_cons_zero, List.set_cons_succ]
  refine wpAnyH_take (i := 19) (oi := ⟨some 85, .pick (.tmp 80) (.tmp 84) (.const (Value.bool false)), 4, "law.go:32", #[⟨14, .data⟩, ⟨18, .data⟩], none⟩) (v := .bool true) rfl (by kernel_rfl) (by kernel_rfl) (by kernel_rfl) (fun _ _ _ h => h) (Or.inl ⟨by rfl, fun w' hSw => by go_simp⟩) hHeld ?_
  try simp only [Act.put, List.setIfInBounds_toArray, List.set_cons_zero, List.set_cons_succ]
  refine wpAnyH_take (i := 20) (oi := ⟨some 86, .move (.tmp 85), 4, "law.go:32", #[⟨19, .data⟩, ⟨14, .chain⟩], none⟩) (v := .bool true) rfl (by kernel_rfl) (by kernel_rfl) (by kernel_rfl) (fun _ _ _ h => h) (Or.inl ⟨by rfl, fun w' hSw => by go_simp⟩) hHeld ?_
  try simp only [Act.put, List.setIfInBounds_toArray, List.set_cons_zero, List.set_cons_succ]
  refine wpAnyH_take (i := 21) (oi := ⟨some 87, .move (.tmp 14), 25, "law.go:32", #[⟨20, .guard⟩], some (20, true)⟩) (v := .slice (some ⟨db, 0, none⟩) 68 68) rfl (by kernel_rfl) (by kernel_rfl) (by kernel_rfl) (fun _ _ _ h => h) (Or.inl ⟨by rfl, fun w' hSw => by go_simp⟩) hHeld ?_
  try simp only [Act.put, List.setIfInBounds_toArray, List.set_cons_zero, List.set_cons_succ]
  refine wpAnyH_take (i := 22) (oi := ⟨some 88, .indexAddr 25 (.tmp 87) (.const (Value.int IntKind.i64 64)), 0, "law.go:32", #[⟨21, .data⟩, ⟨20, .guard⟩], some (20, true)⟩) (v := .pointer (some ⟨db, 64, none⟩)) rfl (by kernel_rfl) (by kernel_rfl) (by kernel_rfl) (fun _ _ _ h => h) (Or.inl ⟨by rfl, fun w' hSw => by go_simp⟩) hHeld ?_
  try simp only [Act.put, List.setIfInBounds_toArray, List.set_cons_zero, List.set_cons_succ]
  refine wpAnyH_take (i := 23) (oi := ⟨some 89, .load 3 (.tmp 88), 3, "law.go:32", #[⟨22, .data⟩, ⟨20, .guard⟩], some (20, true)⟩) (v := .int .i64 3) rfl (by kernel_rfl) (by kernel_rfl) (by kernel_rfl) (fun _ _ _ h => h) (Or.inl ⟨by rfl, fun w' hSw => by have hcc := (KD.keep hSw).cell e64; go_simp⟩) hHeld ?_
  try simp only [Act.put, List.setIfInBounds_toArray, List.set_cons_zero, List.set_cons_succ]
  refine wpAnyH_take (i := 24) (oi := ⟨some 90, .binOp .eql 3 (.tmp 89) (.const (Value.int IntKind.i64 3)) 3, 4, "law.go:32", #[⟨23, .data⟩, ⟨20, .guard⟩], some (20, true)⟩) (v := .bool true) rfl (by kernel_rfl) (by kernel_rfl) (by kernel_rfl) (fun _ _ _ h => h) (Or.inl ⟨by rfl, fun w' hSw => by go_simp⟩) hHeld ?_
  try simp only [Act.put, List.setIfInBounds_toArray, List.set_cons_zero, List.set_cons_succ]
  refine wpAnyH_take (i := 25) (oi := ⟨some 91, .pick (.tmp 86) (.tmp 90) (.const (Value.bool false)), 4, "law.go:32", #[⟨20, .data⟩, ⟨24, .data⟩], none⟩) (v := .bool true) rfl (by kernel_rfl) (by kernel_rfl) (by kernel_rfl) (fun _ _ _ h => h) (Or.inl ⟨by rfl, fun w' hSw => by go_simp⟩) hHeld ?_
  try simp only [Act.put, List.setIfInBounds_toArray, List.set_cons_zero, List.set_cons_succ]
  refine wpAnyH_take (i := 26) (oi := ⟨some 92, .move (.tmp 91), 4, "law.go:32", #[⟨25, .data⟩, ⟨20, .chain⟩], none⟩) (v := .bool true) rfl (by kernel_rfl) (by kernel_rfl) (by kernel_rfl) (fun _ _ _ h => h) (Or.inl ⟨by rfl, fun w' hSw => by go_simp⟩) hHeld ?_
  try simp only [Act.put, List.setIfInBounds_toArray, List.set_cons_zero, List.set_cons_succ]
  refine wpAnyH_take (i := 27) (oi := ⟨some 93, .move (.tmp 14), 25, "law.go:32", #[⟨26, .guard⟩], some (26, true)⟩) (v := .slice (some ⟨db, 0, none⟩) 68 68) rfl (by kernel_rfl) (by kernel_rfl) (by kernel_rfl) (fun _ _ _ h => h) (Or.inl ⟨by rfl, fun w' hSw => by go_simp⟩) hHeld ?_
  try simp only [Act.put, List.setIfInBounds_toArray, List.set_cons_zero, List.set_cons_succ]
  refine wpAnyH_take (i := 28) (oi := ⟨some 94, .indexAddr 25 (.tmp 93) (.const (Value.int IntKind.i64 67)), 0, "law.go:32", #[⟨27, .data⟩, ⟨26, .guard⟩], some (26, true)⟩) (v := .pointer (some ⟨db, 67, none⟩)) rfl (by kernel_rfl) (by kernel_rfl) (by kernel_rfl) (fun _ _ _ h => h) (Or.inl ⟨by rfl, fun w' hSw => by go_simp⟩) hHeld ?_
  try simp only [Act.put, List.setIfInBounds_toArray, List.set_cons_zero, List.set_cons_succ]
  refine wpAnyH_take (i := 29) (oi := ⟨some 95, .load 3 (.tmp 94), 3, "law.go:32", #[⟨28, .data⟩, ⟨26, .guard⟩], some (26, true)⟩) (v := .int .i64 0) rfl (by kernel_rfl) (by kernel_rfl) (by kernel_rfl) (fun _ _ _ h => h) (Or.inl ⟨by rfl, fun w' hSw => by have hcc := (KD.keep hSw).cell e67; go_simp⟩) hHeld ?_
  try simp only [Act.put, List.setIfInBounds_toArray, List.set_cons_zero, List.set_cons_succ]
  refine wpAnyH_take (i := 30) (oi := ⟨some 96, .binOp .eql 3 (.tmp 95) (.const (Value.int IntKind.i64 0)) 3, 4, "law.go:32", #[⟨29, .data⟩, ⟨26, .guard⟩], some (26, true)⟩) (v := .bool true) rfl (by kernel_rfl) (by kernel_rfl) (by kernel_rfl) (fun _ _ _ h => h) (Or.inl ⟨by rfl, fun w' hSw => by go_simp⟩) hHeld ?_
  try simp only [Act.put, List.setIfInBounds_toArray, List.set_cons_zero, List.set_cons_succ]
  refine wpAnyH_take (i := 31) (oi := ⟨some 97, .pick (.tmp 92) (.tmp 96) (.const (Value.bool false)), 4, "law.go:32", #[⟨26, .data⟩, ⟨30, .data⟩], none⟩) (v := .bool true) rfl (by kernel_rfl) (by kernel_rfl) (by kernel_rfl) (fun _ _ _ h => h) (Or.inl ⟨by rfl, fun w' hSw => by go_simp⟩) hHeld ?_
  try simp only [Act.put, List.setIfInBounds_toArray, List.set_cons_zero, List.set_cons_succ]
  refine wpAnyH_take (i := 32) (oi := ⟨some 98, .move (.tmp 97), 4, "law.go:32", #[⟨31, .data⟩, ⟨26, .chain⟩], none⟩) (v := .bool true) rfl (by kernel_rfl) (by kernel_rfl) (by kernel_rfl) (fun _ _ _ h => h) (Or.inl ⟨by rfl, fun w' hSw => by go_simp⟩) hHeld ?_
  try simp only [Act.put, List.setIfInBounds_toArray, List.set_cons_zero, List.set_cons_succ]
  refine wpAnyH_take (i := 33) (oi := ⟨some 99, .load 23 (.tmp 2), 23, "law.go:32", #[⟨32, .guard⟩], some (32, true)⟩) (v := _) rfl (by kernel_rfl) (by kernel_rfl) (by kernel_rfl) (fun _ _ _ h => h) (yieldsIf_load_mid (by rfl) _ _ rfl _ 0 rfl _ _ (fun w' hSw => rng_blk (KP9) w' hSw) Tryd.underlying23 rfl hsP) hHeld ?_
  try simp only [Act.put, List.setIfInBounds_toArray, List.set_cons_zero, List.set_cons_succ]
  refine wpAnyH_take (i := 35) (oi := ⟨some 101, .load 23 (.tmp 2), 23, "law.go:32", #[⟨32, .guard⟩], some (32, true)⟩) (v := _) rfl (by kernel_rfl) (by kernel_rfl) (by kernel_rfl) (fun _ _ _ h => h) (yieldsIf_load_mid (by rfl) _ _ rfl _ 0 rfl _ _ (fun w' hSw => rng_blk (KP9) w' hSw) Tryd.underlying23 rfl hsP) hHeld ?_
  try simp only [Act.put, List.setIfInBounds_toArray, List.set_cons_zero, List.set_cons_succ]
  refine wpAnyH_ready (rs := [34]) (by kernel_rfl) (by simp) ?_
  refine AllReadyH.cons (o := ⟨some 100, .call { callee := .value (.func 16), args := #[.tmp 99, .const (Value.int IntKind.i64 1), .const (Value.string { data := #[109] })], argTypes := #[23, 3, 9] }, 23, "law.go:32", #[⟨33, .data⟩, ⟨32, .chain⟩, ⟨32, .guard⟩], some (32, true)⟩) rfl (fun K hK => ?_) AllReadyH.nil
  rw [if_pos (by rfl)]
  go_simp
  refine (H8.out _ (hG.keep (link C9 hHeld))).mono ?_
  rintro e V1 ⟨rfl, hB1⟩
  dsimp only
  refine hK.out _ _ (link hHeld hB1) (fun hHeld => ?_)
  clear hK K
  try simp only [Act.put, List.setIfInBounds_toArray, List.set_cons_zero, List.set_cons_succ]
  clear hB1
  refine wpAnyH_ready (rs := [36]) (by kernel_rfl) (by simp) ?_
  refine AllReadyH.cons (o := ⟨some 102, .call { callee := .value (.func 16), args := #[.tmp 101, .const (Value.int IntKind.i64 0), .const (Value.string { data := #[109] })], argTypes := #[23, 3, 9] }, 23, "law.go:32", #[⟨35, .data⟩, ⟨34, .chain⟩, ⟨32, .guard⟩], some (32, true)⟩) rfl (fun K hK => ?_) AllReadyH.nil
  rw [if_pos (by rfl)]
  go_simp
  refine (H9.out _ (hG.keep (link C9 hHeld))).mono ?_
  rintro e V2 ⟨rfl, hB2⟩
  dsimp only
  refine hK.out _ _ (link hHeld hB2) (fun hHeld => ?_)
  clear hK K
  try simp only [Act.put, List.setIfInBounds_toArray, List.set_cons_zero, List.set_cons_succ]
  clear hB2
  have heq := fun w0 => equal_16 w0 D8 D9 hD8 hD9
  rw [decide_eq_false hne] at heq
  refine wpAnyH_take (i := 37) (oi := ⟨some 103, .binOp .neq 23 (.tmp 100) (.tmp 102) 23, 4, "law.go:32", #[⟨34, .data⟩, ⟨36, .data⟩, ⟨32, .guard⟩], some (32, true)⟩) (v := .bool true) rfl (by kernel_rfl) (by kernel_rfl) (by kernel_rfl) (fun _ _ _ h => h) (Or.inl ⟨by rfl, fun w' hSw => by go_simp⟩) hHeld ?_
  try simp only [Act.put, List.setIfInBounds_toArray, List.set_cons_zero, List.set_cons_succ]
  refine wpAnyH_take (i := 38) (oi := ⟨some 104, .pick (.tmp 98) (.tmp 103) (.const (Value.bool false)), 4, "law.go:32", #[⟨32, .data⟩, ⟨37, .data⟩], none⟩) (v := .bool true) rfl (by kernel_rfl) (by kernel_rfl) (by kernel_rfl) (fun _ _ _ h => h) (Or.inl ⟨by rfl, fun w' hSw => by go_simp⟩) hHeld ?_
  try simp only [Act.put, List.setIfInBounds_toArray, List.set_cons_zero, List.set_cons_succ]
  refine wpAnyH_ready (rs := [39]) (by kernel_rfl) (by simp) ?_
  refine AllReadyH.cons (o := ⟨some 0, .assign (.tmp 104), 4, "law.go:32", #[⟨38, .data⟩, ⟨36, .chain⟩, ⟨0, .phase⟩, ⟨1, .phase⟩, ⟨2, .phase⟩, ⟨3, .phase⟩, ⟨4, .phase⟩, ⟨5, .phase⟩, ⟨6, .phase⟩, ⟨7, .phase⟩, ⟨8, .phase⟩, ⟨9, .phase⟩, ⟨10, .phase⟩, ⟨11, .phase⟩, ⟨12, .phase⟩, ⟨13, .phase⟩, ⟨14, .phase⟩, ⟨15, .phase⟩, ⟨16, .phase⟩, ⟨17, .phase⟩, ⟨18, .phase⟩, ⟨19, .phase⟩, ⟨20, .phase⟩, ⟨21, .phase⟩, ⟨22, .phase⟩, ⟨23, .phase⟩, ⟨24, .phase⟩, ⟨25, .phase⟩, ⟨26, .phase⟩, ⟨27, .phase⟩, ⟨28, .phase⟩, ⟨29, .phase⟩, ⟨30, .phase⟩, ⟨31, .phase⟩, ⟨32, .phase⟩, ⟨33, .phase⟩, ⟨34, .phase⟩, ⟨35, .phase⟩, ⟨36, .phase⟩, ⟨37, .phase⟩, ⟨38, .phase⟩], none⟩) rfl (fun K hK => ?_) AllReadyH.nil
  go_simp
  refine hK.out _ _ (hHeld) (fun hHeld => ?_)
  clear hK K
  try simp only [Act.put, List.setIfInBounds_toArray, List.set_cons_zero, List.set_cons_succ]
  refine wpAnyH_done (by kernel_rfl) ?_ _
  go_wp2
  go_ret
  exact ⟨rfl, link C9 hHeld⟩

end Go.Proofs.YthffkbdecfjekaaDoor

/-
  The arguments of the laws of layer 3, opened; and read again behind the call.
-/
namespace Go.Proofs.YthffkbdecfjekaaDoor
open Go.ChangeShapes Go.WideShapes Go.ChangeAt Go.RowKit
set_option linter.unusedVariables false
set_option linter.unusedSimpArgs false

theorem bytes_of_cells (cs : List Value) (h : ∀ j, j < cs.length → ∃ z : Int, 0 ≤ z ∧ z < 256 ∧ cs[j]? = some (.int .u8 z)) : bytesV (cs.map fun v => (intOf v).toNat) = cs ∧ ∀ y ∈ cs.map (fun v => (intOf v).toNat), y < 256 := by
  constructor
  · apply List.ext_getElem?
    intro j
    by_cases hj : j < cs.length
    · obtain ⟨z, h0, h1, h2⟩ := h j hj
      simp only [bytesV, List.map_map, List.getElem?_map, h2, Option.map_some, Function.comp, intOf, byteV, Option.some.injEq, Value.int.injEq, true_and]
      omega
    · rw [List.getElem?_eq_none (by simpa [bytesV] using hj), List.getElem?_eq_none (by omega)]
  · intro y hy
    obtain ⟨v, hv, rfl⟩ := List.mem_map.1 hy
    obtain ⟨j, hj, rfl⟩ := List.mem_iff_getElem.1 hv
    obtain ⟨z, h0, h1, h2⟩ := h j hj
    rw [List.getElem?_eq_getElem hj, Option.some.injEq] at h2
    rw [h2]
    simp only [intOf]
    omega
/-- A digest, opened. -/
theorem open_dgt {H : Type} {enc : TypeId × Value → H} {W : World} {v : Value} {d : DataW H} {ps : List MemPlace} {base : Nat} (hval : Value.okWide Tryd.prog W .any base 23 v) (h : DataW.Trod enc Tryd.prog W 0 (fun _ => true) true 23 v d ps) :
    ∃ l : List Nat, v = .agg (bytesV l).toArray ∧ Dgt l := by
  have cells16 : Tryd.prog.cellsOf 23 = 16 := by kernel_rfl
  have cells1 : Tryd.prog.cellsOf 5 = 1 := by kernel_rfl
  unfold Value.okWide at hval
  rw [Tryd.underlying23] at hval
  obtain ⟨cs, rfl, hsz, _⟩ := hval
  rw [cells16] at hsz
  obtain ⟨fuel, hf⟩ := h
  obtain ⟨xs, m, _, _, hlen, hxl, hxx⟩ := DataW.trod_array Tryd.underlying23 hf
  have hlen' : cs.toList.length = 16 := by rw [Array.length_toList]; exact hsz
  obtain ⟨hb, hb2⟩ := bytes_of_cells cs.toList (by
    intro j hj
    have e := hxx j (by omega)
    rw [cells1, Nat.mul_one, List.getElem?_eq_getElem (by omega)] at e
    obtain ⟨z, hz, _, hwf⟩ := DataW.trod_int Tryd.underlying5 e
    simp [Lit.wf, IntKind.min, IntKind.max, IntKind.signed, IntKind.bits] at hwf
    refine ⟨z, by omega, by omega, ?_⟩
    have := congrArg (fun l => l[0]?) hz
    simpa [List.getElem?_take, List.getElem?_drop, Value.cells] using this)
  refine ⟨_, ?_, ⟨by rw [List.length_map]; exact hlen', hb2⟩⟩
  rw [hb, Array.toArray_toList]
/-- Two numbers, opened. -/
theorem open_nums {H : Type} {enc : TypeId × Value → H} {W : World} {v : Value} {d : DataW H} {ps : List MemPlace} {base : Nat} (hval : Value.okWide Tryd.prog W .any base 28 v) (h : DataW.Trod enc Tryd.prog W 0 (fun _ => true) true 28 v d ps) :
    ∃ x y : Int, v = .agg #[.int .i64 x, .int .i64 y] ∧ (-9223372036854775808 ≤ x ∧ x ≤ 9223372036854775807) ∧ -9223372036854775808 ≤ y ∧ y ≤ 9223372036854775807 := by
  have cells2 : Tryd.prog.cellsOf 28 = 2 := by kernel_rfl
  have cells1 : Tryd.prog.cellsOf 3 = 1 := by kernel_rfl
  unfold Value.okWide at hval
  rw [Tryd.underlying28] at hval
  obtain ⟨cs, rfl, hsz, _⟩ := hval
  rw [cells2] at hsz
  obtain ⟨fuel, hf⟩ := h
  obtain ⟨xs, m, _, _, hlen, hxl, hxx⟩ := DataW.trod_array Tryd.underlying28 hf
  obtain ⟨a, b, rfl⟩ : ∃ a b, cs = #[a, b] := by
    rcases cs with ⟨l⟩
    match l, hsz with
    | [a, b], _ => exact ⟨a, b, rfl⟩
  have each : ∀ j, j < 2 → ∃ z : Int, (-9223372036854775808 ≤ z ∧ z ≤ 9223372036854775807) ∧ ([a, b] : List Value)[j]? = some (.int .i64 z) := by
    intro j hj
    have e := hxx j hj
    rw [cells1, Nat.mul_one, List.getElem?_eq_getElem (by omega)] at e
    obtain ⟨z, hz, _, hwf⟩ := DataW.trod_int Tryd.underlying3 e
    simp [Lit.wf, IntKind.min, IntKind.max, IntKind.signed, IntKind.bits] at hwf
    refine ⟨z, by omega, ?_⟩
    have := congrArg (fun l => l[0]?) hz
    simpa [List.getElem?_take, List.getElem?_drop, Value.cells] using this
  obtain ⟨x, hx, ex⟩ := each 0 (by omega)
  obtain ⟨y, hy, ey⟩ := each 1 (by omega)
  have ex' : a = .int .i64 x := by simpa using ex
  have ey' : b = .int .i64 y := by simpa using ey
  exact ⟨x, y, by rw [ex', ey'], hx, hy.1, hy.2⟩
theorem laidOut : laidOutB Tryd.prog = true := by kernel_rfl
theorem keepAll {H : Type} {enc : TypeId × Value → H} {W W' : World} (hb : Below W.heap.size W W') : ∀ (ts : List TypeId) (vs : List Value) (ds : List (DataW H)) (ps : List MemPlace), (∀ t ∈ ts, Tryd.prog.readableRec t = true ∧ t < Tryd.prog.types.size) →
    DataW.TrodAll enc Tryd.prog W 0 (fun _ => true) true ts vs ds ps → (∀ x ∈ ps, x.block < W.heap.size) → DataW.TrodAll enc Tryd.prog W' 0 (fun b => decide (b < W.heap.size)) true ts vs ds ps
  | [], vs, ds, ps, _, h, _ => by
    obtain ⟨rfl, rfl, rfl⟩ := trodAll_nil h
    exact trodAll_mk0
  | t :: ts, vs, ds, ps, ht, h, hl => by
    obtain ⟨v, vs', d, ds', p, q, rfl, rfl, rfl, h1, h2⟩ := trodAll_cons h
    have hr := ht t List.mem_cons_self
    exact trodAll_cons_mk (Below.trod laidOut hr.1 hr.2 h1 hb (fun x hx => hl x (List.mem_append_left _ hx))) (keepAll hb ts vs' ds' q (fun t' h' => ht t' (List.mem_cons_of_mem _ h')) h2 (fun x hx => hl x (List.mem_append_right _ hx)))

end Go.Proofs.YthffkbdecfjekaaDoor
