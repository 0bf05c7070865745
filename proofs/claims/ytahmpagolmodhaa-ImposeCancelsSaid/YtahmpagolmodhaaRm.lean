/-
  A map from int to bool of one's own: what it says of each number.
-/
import Derived.Test.YtahmpagolmodhaaRk
import Derived.Maps.OwnIn
import Derived.Maps.OwnSet
import Derived.Sort.MapsRangeIn
import Derived.WalkArith
namespace Go.Proofs.Ytahmpagolmodhaa
open Go Go.RowKit Go.Maps
set_option linter.unusedVariables false
set_option linter.unusedSimpArgs false

/-- Block b is a map of at most n entries that says T z of z. -/
def MapAt (w : World) (b n : Nat) (T : Int → Bool) : Prop := ∃ D : DataW Unit, w.ownsMap Try.prog 3 (plainElem Try.prog 4) b n D ∧ ∀ z, D.atKey (.int .i64 z) (.lit (.bool false)) = .lit (.bool (T z))
theorem int_key : Keyed Try.prog 3 := int_keyed Try.underlying3
theorem zero_bool (w : World) : (zeroValue 4).run Try.prog w = .ok (.bool false) w := by
  have u := Try.underlying4
  go_simp
theorem key_of {z : Int} (h : -9223372036854775808 ≤ z ∧ z ≤ 9223372036854775807) : keyOf Try.prog 3 (.int .i64 z) = some (.int .i64 z) := keyOf_int_mk Try.underlying3 (WalkArith.wf_i64 h)
theorem MapAt.made (w : World) : MapAt (w.alloc (.map #[] 0)) w.heap.size 0 (fun _ => false) := ⟨.map [], World.ownsMap_made w _ _ _, fun z => rfl⟩
theorem MapAt.mono {w : World} {b n n' : Nat} {T : Int → Bool} (h : MapAt w b n T) (hn : n ≤ n') : MapAt w b n' T := let ⟨D, h1, h2⟩ := h; ⟨D, h1.mono hn, h2⟩
theorem MapAt.kept {w w' : World} {b n : Nat} {T : Int → Bool} {row : Option Nat} (h : MapAt w b n T) (hg : w.grownBy w' row) (hne : some b ≠ row) : MapAt w' b n T := let ⟨D, h1, h2⟩ := h; ⟨D, h1.kept hg hne, h2⟩
theorem MapAt.below {w w' : World} {b n : Nat} {T : Int → Bool} (h : MapAt w b n T) (hb : Below w.heap.size w w') : MapAt w' b n T := h.kept (row := none) ⟨hb.os, hb.tape, hb.output, hb.size, fun i hi _ => hb.block i hi⟩ (by simp)
theorem MapAt.lt {w : World} {b n : Nat} {T : Int → Bool} (h : MapAt w b n T) : b < w.heap.size := let ⟨D, h1, _⟩ := h; h1.lt
theorem MapAt.setCell {w : World} {b n : Nat} {T : Int → Bool} (h : MapAt w b n T) {a : Addr} (ha : b ≠ a.block) (u : Value) : MapAt (w.setCell a u) b n T := let ⟨D, h1, h2⟩ := h; ⟨D, h1.setCell ha u, h2⟩
theorem bool_inv {v : Value} {x : Bool} {ps : List MemPlace} (h : plainElem (H := Unit) Try.prog 4 v = some (.lit (.bool x), ps)) : v = .bool x := by
  unfold plainElem at h
  rw [Try.underlying4] at h
  cases v <;> simp at h
  obtain ⟨rfl, _⟩ := h
  rfl
theorem MapAt.run {w : World} {b n : Nat} {T : Int → Bool} (h : MapAt w b n T) {z : Int} (hz : -9223372036854775808 ≤ z ∧ z ≤ 9223372036854775807) : (Instr.lookup 73 (.map (some b)) (.int .i64 z) false).run Try.prog w = .ok (.bool (T z)) w := by
  obtain ⟨D, h1, h2⟩ := h
  obtain ⟨v, ps, hr, hv⟩ := h1.lookup int_key Try.underlying73 (zero_bool w) (plainElem_bool Try.underlying4 false) (key_of hz)
  rw [h2 z] at hv
  rw [hr, bool_inv hv]
section
variable {F : Fence} {nF : Nat} {w : World} {ops : Array Oper} {rest : List Oper} {o : Oper} {a : Act} {Q : Exit → Act → World → Prop} {b n : Nat} {T : Int → Bool} {z : Int}
theorem look_in (hw : Region.wanted o (yielded ops a.tmps) = true) (m x : Operand) (hop : o.op = .lookup 73 m x false) (h : MapAt w b n T) (hz : -9223372036854775808 ≤ z ∧ z ≤ 9223372036854775807) {t : Bool} (ht : T z = t) (hm : a.eval m = .map (some b)) (hx : a.eval x = .int .i64 z)
    (hK : wpListIn F nF Try.prog ops Q rest (a.put o.dst (.bool t)) w) : wpListIn F nF Try.prog ops Q (o :: rest) a w := by
  refine wpListIn_step fun K' hK' => ?_
  rw [if_pos hw]
  unfold Oper.wpIn
  refine ⟨by simp [Oper.about, hop], ?_⟩
  rw [Oper.semAt_plain F _ _ (by rw [hop]; intro c hc'; cases hc')]
  simp [execOp, hop, hm, hx, h.run hz, ht, Result.andThen]
  exact hK' _ _ hK
theorem put_in (hg : o.guard = none) (m x v : Operand) (hop : o.op = .mapUpdate 73 m x v) (h : MapAt w b n T) (hn : n < maxLen) (hz : -9223372036854775808 ≤ z ∧ z ≤ 9223372036854775807) (hm : a.eval m = .map (some b)) (hx : a.eval x = .int .i64 z) (hv : a.eval v = .bool true)
    (hK : ∀ w', MapAt w' b (n + 1) (fun y => y == z || T y) → w.grownBy w' (some b) → wpListIn F nF Try.prog ops Q rest (a.put o.dst undef) w') : wpListIn F nF Try.prog ops Q (o :: rest) a w := by
  obtain ⟨D, h1, h2⟩ := h
  refine wpListIn_mapUpdate_own w hg m x v _ hop _ _ int_key Try.underlying73 _ b n D hm h1 hn _ _ _ hx hv (key_of hz) _ _ (plainElem_bool Try.underlying4 true) (fun w' h3 hg => hK w' ⟨_, h3, fun y => ?_⟩ hg)
  by_cases e : y = z
  · subst e
    rw [Maps.atKey_put_same h1.isMap (show WideAt.IsKeyLit (.int .i64 y) from trivial)]
    simp
  · rw [Maps.atKey_put_other (by intro g; injection g with _ g; exact e g), h2 y]
    simp [e]
theorem drop_in (hg : o.guard = none) (m x : Operand) (hop : o.op = .call { callee := .builtin .delete, args := #[m, x], argTypes := #[73, 3] }) (h : MapAt w b n T) (hz : -9223372036854775808 ≤ z ∧ z ≤ 9223372036854775807) (hm : a.eval m = .map (some b)) (hx : a.eval x = .int .i64 z)
    (hK : ∀ w', MapAt w' b n (fun y => T y && y != z) → w.grownBy w' (some b) → wpListIn F nF Try.prog ops Q rest (a.put o.dst (.tuple #[])) w') : wpListIn F nF Try.prog ops Q (o :: rest) a w := by
  obtain ⟨D, h1, h2⟩ := h
  refine wpListIn_delete_own w hg m x _ _ hop _ int_key Try.underlying73 _ b n D hm h1 _ _ hx (key_of hz) (fun w' h3 ht => hK w' ⟨_, h3, fun y => ?_⟩ ht.grown)
  by_cases e : y = z
  · subst e
    rw [Maps.atKey_del_same]
    simp
  · rw [Maps.atKey_del_other (by intro g; injection g with _ g; exact e g), h2 y]
    simp [e]
theorem len_in (hg : o.guard = none) (m : Operand) (hop : o.op = .call { callee := .builtin .len, args := #[m], argTypes := #[73] }) (h : MapAt w b n T) (hm : a.eval m = .map (some b))
    (hK : ∀ k : Nat, k ≤ n → (k = 0 → ∀ z, T z = false) → wpListIn F nF Try.prog ops Q rest (a.put o.dst (.int .i64 (k : Int))) w) : wpListIn F nF Try.prog ops Q (o :: rest) a w := by
  obtain ⟨D, h1, h2⟩ := h
  refine wpListIn_plain hg fun K' hK' => ?_
  unfold Oper.wpIn
  refine ⟨by simp [Oper.about, hop, resolve, Target.leads, Sem.run_pure], ?_⟩
  rw [Oper.semAt_plain F _ _ (by rw [hop]; intro c hc'; cases hc')]
  simp [execOp, hop, resolve, invoke, builtin, hm, h1.len Try.underlying73 o.type, Result.andThen]
  refine hK' _ _ (hK (Maps.size D) h1.size_le fun e z => ?_)
  obtain ⟨es, rfl⟩ := h1.isMap
  rw [Maps.size_eq] at e
  obtain rfl := List.eq_nil_of_length_eq_zero e
  have := h2 z
  have e2 : (DataW.map [] : DataW Unit).atKey (.int .i64 z) (.lit (.bool false)) = .lit (.bool false) := rfl
  rw [e2] at this
  injection this with this
  injection this with this
  exact this.symm
end
end Go.Proofs.Ytahmpagolmodhaa
