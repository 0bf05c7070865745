/-
  What the walk of ImposeCancels wants.
-/
import Derived.Test.YtahmpagolmodhaaJo
import Derived.Test.YtahmpagolmodhaaJk
import Derived.Test.YtahmpagolmodhaaKc
import Derived.Test.YtahmpagolmodhaaKn
namespace Go.Proofs.Ytahmpagolmodhaa
open Go.RowKit
set_option linter.unusedVariables false
set_option linter.unusedSimpArgs false

/-- A slice of integers. -/
def IntsN (w : World) (s : Option Addr × Nat × Nat) : Prop := ∃ l : List Int, l.length = s.2.1 ∧ IntsAt w s.1 l ∧ s.2.1 ≤ 9223372036854775807 ∧ ∀ x ∈ l, -9223372036854775808 ≤ x ∧ x ≤ 9223372036854775807
theorem IntsN.keep {w w' : World} {s : Option Addr × Nat × Nat} (h : IntsN w s) (hb : Below w.heap.size w w') : IntsN w' s := by
  obtain ⟨l, e, hA, hn⟩ := h
  exact ⟨l, e, hA.keep hb, hn⟩
def SmRel (w1 : World) (ln : Nat) (v i : Value) (wr : World) : Prop := ∃ (k : Nat) (S : List Int), i = .int .i64 (k : Int) ∧ k ≤ 9 ∧ k ≤ ln ∧ S.length = k ∧ (∀ x ∈ S, 0 ≤ x ∧ x ≤ 1000) ∧ OwnR intE wr w1.heap.size v S ∧ Below w1.heap.size w1 wr
theorem own_shape {α : Type} {E : Elt α} {w : World} {B : Nat} {v : Value} {l : List α} (h : OwnR E w B v l) : (v = .slice none 0 0 ∧ l = []) ∨ ∃ g c, v = .slice (some ⟨g, 0, none⟩) l.length c ∧ l.length ≤ c ∧ c ≤ 9223372036854775807 := by
  obtain ⟨h1, ⟨e, h0⟩ | ⟨g, cap, cur, rfl, hB, hg, hc, hm, hs, ht⟩⟩ := h
  · exact Or.inl ⟨e, List.eq_nil_of_length_eq_zero h0⟩
  · exact Or.inr ⟨g, cap, rfl, hc, by unfold maxLen at hm; omega⟩
theorem ints_take {w : World} {A : Option Addr} {l : List Int} (h : IntsAt w A l) (j : Nat) : IntsAt w A (l.take j) := fun hn => by
  obtain ⟨ad, e, hlt, hc⟩ := h (by intro e; rw [e] at hn; simp at hn)
  refine ⟨ad, e, hlt, fun i x hx => hc i x ?_⟩
  rw [List.getElem?_take] at hx
  split at hx
  · exact hx
  · cases hx
theorem ints_drop {w : World} {g : Nat} {l : List Int} (h : IntsAt w (some ⟨g, 0, none⟩) l) (j : Nat) : IntsAt w (some ⟨g, j, none⟩) (l.drop j) := fun hn => by
  obtain ⟨ad, e, hlt, hc⟩ := h (by intro e; rw [e] at hn; simp at hn)
  injection e with e
  subst e
  refine ⟨_, rfl, hlt, fun i x hx => ?_⟩
  rw [List.getElem?_drop] at hx
  have := hc (j + i) x hx
  rw [Addr.add_mid, Nat.zero_add] at this
  rw [Addr.add_mid]
  exact this
def ARel (W6 : World) (N : Nat) (v : Value) (wx : World) : Prop := ∃ i : Nat, v = .int .i64 (i : Int) ∧ i ≤ N ∧ Below W6.heap.size W6 wx
def BRel (W6 W9 : World) (N : Nat) (v : Value) (wx : World) : Prop := ∃ i : Nat, v = .int .i64 (i : Int) ∧ i ≤ N ∧ Below W6.heap.size W6 wx ∧ Below W9.heap.size W9 wx
theorem lay_int {w : World} {b off : Nat} {l : List Int} (h : Lay intE w b off l) {i : Nat} {x : Int} (hx : l[i]? = some x) : w.cell? ⟨b, off + i, none⟩ = some (.int .i64 x) := by
  have := h.2 i x 0 _ hx rfl
  rwa [show off + i * intE.k + 0 = off + i by show off + i * 1 + 0 = off + i; omega] at this
theorem any_el {α : Type} (E : Elt α) {w : World} {B : Nat} {ops : Array Oper} {rest : List Oper} {o : Oper} {a : Act} {Q : Exit → Act → World → Prop} (hgd : o.guard = none) (s x : Operand)
    (ho : o.op = .call { callee := .builtin .append, args := #[s, x], argTypes := #[E.ST, E.ST] })
    (l m : List α) (v : Value) (hs : a.eval s = v) (hown : OwnR E w B v l) (hB : B ≤ w.heap.size)
    (q : Option Addr) (n c : Nat) (hx : a.eval x = .slice q n c) (hn : m.length = n) (hm : At E w q m) (hl : l.length ≤ 500000000000) (hl2 : n ≤ 500000000000)
    (h : ∀ v' w', OwnR E w' B v' (l ++ m) → Below B w w' → wpList Try.prog ops Q rest (a.put o.dst v') w') : wpList Try.prog ops Q (o :: rest) a w := by
  rcases q with _ | ad
  · obtain rfl : m = [] := Classical.byContradiction fun h => by obtain ⟨b, off, e, _⟩ := hm h; cases e
    obtain rfl : 0 = n := hn
    rw [List.append_nil] at h
    refine wpList_plain hgd fun _ hK => ?_
    obtain ⟨i0, hi, hz0, hz1, hz2⟩ := info_parts E.info
    obtain ⟨qv, cv, hv, hcv, _⟩ := hown.form
    have hcv2 : ¬ cv < l.length := by omega
    have hrun : (Builtin.append_ #[E.ST, E.ST] o.type #[.slice qv l.length cv, .slice none 0 c]).run Try.prog w = .ok (.slice qv l.length cv) w := by
      cases qv <;> simp [hcv2, Builtin.append_, run_underlying E.und, sizeOf, typeInfo, hi, Builtin.lenOf, Builtin.firstCells, loadCells, loadCellsFrom, storeCells]
    unfold Oper.wp execOp
    simp only [ho, resolve, invoke, builtin, Sem.run_bind, Sem.run_pure, Result.andThen_ok, List.map_toArray, List.map_cons, List.map_nil, hs, hv, hx, hrun]
    have := hK _ _ (h v w hown (Below.refl _ _))
    rwa [hv] at this
  · exact app_el E hgd s x ho l m v hs hown hB ad n c hx hn hm hl hl2 h
def ZRel (W6 : World) (v : Value) (wx : World) : Prop := v = .int .i64 0 ∧ Below W6.heap.size W6 wx
def LsRel (W6 : World) (v : Value) (wx : World) : Prop := ∃ i : Nat, v = .int .i64 (i : Int) ∧ i ≤ 4 ∧ Below W6.heap.size W6 wx
end Go.Proofs.Ytahmpagolmodhaa
