/-
  What the walk of DigitSums wants: lists of slices, slices of one's own that lie apart.
-/
import Derived.Test.YtjpiidfoegaenaaEk
namespace Go.Proofs.Ytjpiidfoegaenaa
open Go Go.RowKit
set_option linter.unusedVariables false
set_option linter.unusedSimpArgs false

def zeros (n : Nat) : Array Value := (List.replicate n (.int .i64 0)).toArray
theorem mk_int (n : Nat) (hn : n ≤ 1000000) (w : World) : (Instr.makeSlice 22 (.int .i64 (n : Int)) (.int .i64 (n : Int))).run Try.prog w = .ok (.slice (some ⟨w.heap.size, 0, none⟩) n n) (w.alloc (.cells (zeros n) 3)) := by
  obtain ⟨i0, hi, hz0, hz1, hz2⟩ := info_parts intE.info
  have h := run_make (P := Try.prog) w 22 3 i0 (.int .i64 0) Try.underlying22 hi hz0 .i64 .i64 (n : Int) (n : Int) (by omega) (by omega) (by rw [hz2, show intE.bytes = 8 from rfl]; omega) (by omega)
  rw [hz1, Int.toNat_natCast] at h
  have e : madeCells (Value.int .i64 0).cells (n * intE.k) = zeros n := by
    rw [show intE.k = 1 from rfl, Nat.mul_one]
    apply Array.toList_inj.1
    rw [show (Value.int IntKind.i64 0).cells = #[.int .i64 0] from rfl, toList_madeCells_one]
    rfl
  rw [h, e]
theorem row_zeros (n : Nat) : intE.row (List.replicate n 0) = (zeros n).toList := by
  unfold zeros
  induction n with
  | zero => rfl
  | succ n ih => rw [List.replicate_succ, List.replicate_succ]; show Value.int .i64 0 :: intE.row (List.replicate n 0) = _; rw [ih]
/-- Slices of integers as elements. -/
def slE : Elt (Option Addr × Nat × Nat) where
  T := 22
  ST := 30
  k := 1
  bytes := 24
  zero := .slice none 0 0
  enc := fun s => [.slice s.1 s.2.1 s.2.2]
  info := by kernel_rfl
  und := Try.underlying30
  len := fun _ => rfl
  one := by intro s u hu; simp at hu; subst hu; rfl
  kpos := by decide
  zs := rfl
  bb := by decide
theorem mk256 (w : World) : (Instr.makeSlice 22 (.int .i64 256) (.int .i64 256)).run Try.prog w = .ok (.slice (some ⟨w.heap.size, 0, none⟩) 256 256) (w.alloc (.cells (zeros 256) 3)) := mk_int 256 (by omega) w
theorem mk257 (w : World) : (Instr.makeSlice 22 (.int .i64 257) (.int .i64 257)).run Try.prog w = .ok (.slice (some ⟨w.heap.size, 0, none⟩) 257 257) (w.alloc (.cells (zeros 257) 3)) := mk_int 257 (by omega) w
/-- A slice of integers. -/
def IntsN (w : World) (s : Option Addr × Nat × Nat) : Prop := ∃ l : List Int, l.length = s.2.1 ∧ IntsAt w s.1 l ∧ s.2.1 ≤ 9223372036854775807
theorem IntsN.keep {w w' : World} {s : Option Addr × Nat × Nat} (h : IntsN w s) (hb : Below w.heap.size w w') : IntsN w' s := by
  obtain ⟨l, e, hA, hn⟩ := h
  exact ⟨l, e, hA.keep hb, hn⟩
theorem ints_zeros (w : World) (n : Nat) (hn : n ≤ 1000000) : IntsN (w.alloc (.cells (zeros n) 3)) (some ⟨w.heap.size, 0, none⟩, n, n) :=
  ⟨List.replicate n 0, List.length_replicate, (at_new intE w (zeros n) (List.replicate n 0) (row_zeros n)).ints (fun x hx => by rw [(List.mem_replicate.1 hx).2]; omega), by show n ≤ _; omega⟩
/-- Two slices lie in different blocks. -/
def Apart (u v : Value) : Prop := ∀ g, u.ownBlock = some g → v.ownBlock ≠ some g
theorem Apart.symm {u v : Value} (h : Apart u v) : Apart v u := fun g h1 h2 => h g h2 h1
theorem apart_nil (v : Value) : Apart (.slice none 0 0) v := fun g h => by cases h
theorem apart_step {E : Elt Int} {w : World} {B : Nat} {u v v' : Value} {l : List Int} (hu : OwnR E w B u l) (h : Apart v u) (hv : v'.ownBlock = v.ownBlock ∨ ∃ k, w.heap.size ≤ k ∧ v'.ownBlock = some k) : Apart v' u := fun g h1 => by
  rcases hv with e | ⟨k, hk, e⟩
  · exact h g (by rw [← e]; exact h1)
  · rw [e] at h1
    injection h1 with h1
    exact hu.blk_lt (by omega)
theorem OwnR.rest {E : Elt Int} {w w' : World} {B : Nat} {u v : Value} {l : List Int} (hu : OwnR E w B u l) (h : Apart v u) (hr : Rest v w w') : OwnR E w' B u l := hu.same fun g t cs h1 hk => hr g t cs (fun e => h g e h1) hk
/-- append of one element: where the slice lies then. -/
theorem push_ela (E : Elt Int) {w : World} {B : Nat} {ops : Array Oper} {rest : List Oper} {o : Oper} {a : Act} {Q : Exit → Act → World → Prop} (hgd : o.guard = none) (s x : Operand)
    (ho : o.op = .call { callee := .builtin .append, args := #[s, x], argTypes := #[E.ST, E.ST] })
    (l : List Int) (y : Int) (v : Value) (hs : a.eval s = v) (hown : OwnR E w B v l) (hB : B ≤ w.heap.size)
    (c : Nat) (hx : a.eval x = .slice (some ⟨w.heap.size, 0, none⟩) 1 c) (C : Array Value) (hC : C = (E.enc y).toArray) (hl : l.length ≤ 1000000000000)
    (h : ∀ v' w', OwnR E w' B v' (l ++ [y]) → Below B w w' → Rest v w w' → (v'.ownBlock = v.ownBlock ∨ ∃ k, w.heap.size ≤ k ∧ v'.ownBlock = some k) → wpList Try.prog ops Q rest (a.put o.dst v') w') : wpList Try.prog ops Q (o :: rest) a (w.alloc (.cells C E.T)) :=
  wpList_plain hgd fun _ hK => push_at E s x ho l y v hs hown hB c hx C hC hl fun v' w' h2 h3 h4 h5 => hK _ _ (h v' w' h2 h3 h4 (h5.imp id fun e => ⟨_, Nat.le_succ _, e⟩))
/-- The sum of sums. -/
theorem dot_lin (m : Int) : ∀ (W a b : List Int), a.length = W.length → b.length = W.length → ∃ q, dotT W a + dotT W b = dotT W (List.zipWith (fun x y => (x + y) % m) a b) + m * q
  | [], a, b, _, _ => ⟨0, by simp [dotT]⟩
  | w :: W, [], b, h, _ => by cases h
  | w :: W, x :: a, [], _, h => by cases h
  | w :: W, x :: a, y :: b, h1, h2 => by
    obtain ⟨q, hq⟩ := dot_lin m W a b (by simpa using h1) (by simpa using h2)
    refine ⟨q + w * ((x + y) / m), ?_⟩
    rw [List.zipWith_cons_cons]
    show w * x + dotT W a + (w * y + dotT W b) = w * ((x + y) % m) + dotT W _ + m * (q + w * ((x + y) / m))
    have e : (x + y) % m = x + y - m * ((x + y) / m) := Int.emod_def _ _
    rw [e, Int.mul_sub, Int.mul_add, Int.mul_add, ← Int.mul_assoc, ← Int.mul_assoc, Int.mul_comm w m, Int.mul_assoc]
    generalize w * x = A at *
    generalize w * y = C at *
    generalize m * q = D at *
    generalize m * (w * ((x + y) / m)) = G at *
    omega
theorem dot_mod {W a b : List Int} {m : Int} (h1 : a.length = W.length) (h2 : b.length = W.length) : (dotT W a % m + dotT W b % m) % m = dotT W (List.zipWith (fun x y => (x + y) % m) a b) % m := by
  obtain ⟨q, hq⟩ := dot_lin m W a b h1 h2
  rw [← Int.add_emod, hq, Int.add_mul_emod_self_left]
end Go.Proofs.Ytjpiidfoegaenaa
