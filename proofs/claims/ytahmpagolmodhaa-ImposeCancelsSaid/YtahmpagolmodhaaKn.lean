/-
  append onto a slice without room; slices of integers as elements.
-/
import Derived.Test.YtahmpagolmodhaaBa
namespace Go.Proofs.Ytahmpagolmodhaa
open Go.RowKit
set_option linter.unusedVariables false
set_option linter.unusedSimpArgs false

/-- Slices of integers as elements. -/
def slE : Elt (Option Addr × Nat × Nat) where
  T := 44
  ST := 60
  k := 1
  bytes := 24
  zero := .slice none 0 0
  enc := fun s => [.slice s.1 s.2.1 s.2.2]
  info := by kernel_rfl
  und := Try.underlying60
  len := fun _ => rfl
  one := by intro s u hu; simp at hu; subst hu; rfl
  kpos := by decide
  zs := rfl
  bb := by decide
/-- append onto a slice without room. -/
theorem full_el {α : Type} (E : Elt α) {w : World} {ops : Array Oper} {rest : List Oper} {o : Oper} {a : Act} {Q : Exit → Act → World → Prop} (hgd : o.guard = none) (s x : Operand)
    (ho : o.op = .call { callee := .builtin .append, args := #[s, x], argTypes := #[E.ST, E.ST] })
    (l : List α) (g n : Nat) (hs : a.eval s = .slice (some ⟨g, 0, none⟩) n n) (hn : l.length = n) (hA : At E w (some ⟨g, 0, none⟩) l)
    (m : List α) (q : Option Addr) (k c : Nat) (hx : a.eval x = .slice q k c) (hk : m.length = k) (hk0 : 0 < k) (hA2 : At E w q m) (hl : n + k ≤ 1000000000)
    (h : ∀ g' c' w', OwnR E w' w.heap.size (.slice (some ⟨g', 0, none⟩) (n + k) c') (l ++ m) → Below w.heap.size w w' → wpList Try.prog ops Q rest (a.put o.dst (.slice (some ⟨g', 0, none⟩) (n + k) c')) w') :
    wpList Try.prog ops Q (o :: rest) a w := by
  refine wpList_plain hgd fun _ hK => ?_
  obtain ⟨i0, hi, hz0, hz1, hz2⟩ := info_parts E.info
  have hbb := E.bb
  obtain ⟨b, off, rfl, hL⟩ := hA2 (by intro e; rw [e] at hk; simp at hk; omega)
  have hrl : (E.row m).length = k * E.k := by rw [E.row_length, hk]
  have hro : (E.row l).length = n * E.k := by rw [E.row_length, hn]
  have hbig : (n + k) * E.bytes ≤ 140737488355328 := Nat.le_trans (Nat.mul_le_mul hl hbb) (by decide)
  have hr := run_append_grow (P := Try.prog) w E.ST o.type E.T i0 E.zero E.und hi hz0 ⟨g, 0, none⟩ n n (E.row l) (by rw [hz1]; exact hro) (fun j u hj => by
    obtain ⟨i, j', x', hx', hu', hm, hj'⟩ := E.row_at _ _ _ hj
    obtain ⟨b', off', e, hL'⟩ := hA (by intro e; rw [e] at hx'; simp at hx')
    injection e with e
    injection e with e1 e2 _
    subst e1 e2
    rw [Addr.add_mid, hm, ← Nat.add_assoc]
    exact hL'.2 i x' j' u hx' hu') ⟨b, off, none⟩ k c (E.row m) (by rw [hz1]; exact hrl) (fun j u hj => by
    obtain ⟨i, j', x', hx', hu', hm, hj'⟩ := E.row_at _ _ _ hj
    rw [Addr.add_mid, hm, ← Nat.add_assoc]
    exact hL.2 i x' j' u hx' hu') (by omega) (by omega) (growslice_fits (by omega) (by rw [hz2]; exact hbig))
  have hge := grownCap_ge w (n + k) n E.T
  have hcm : grownCap w (n + k) n E.T ≤ maxLen := grownCap_le_maxLen w (n + k) n E.T (by unfold maxLen; omega)
  generalize hc : grownCap w (n + k) n E.T = cap at hr hge hcm
  unfold Oper.wp execOp
  simp only [ho, resolve, invoke, builtin, Sem.run_bind, Sem.run_pure, Result.andThen_ok, List.map_toArray, List.map_cons, List.map_nil, hs, hx, hr]
  refine hK _ _ (h w.heap.size cap _ ⟨E.row_length _, .inr ⟨w.heap.size, cap, _, by rw [List.length_append, hn, hk], Nat.le_refl _, heap_alloc_new w.drew _, by rw [List.length_append]; omega, hcm, ?_, ?_⟩⟩ ((below_drew (Below.refl _ _)).alloc (Nat.le_refl _) _))
  · simp only [Array.size_append, List.size_toArray, size_zeroCells, E.zs, hrl, hro, ← Nat.add_mul]
    congr 1
    omega
  · simp only [Array.toList_append, List.append_assoc]
    rw [← List.append_assoc, ← E.row_append, ← E.row_length]
    exact List.take_left
/-- append of nothing. -/
theorem none_el {α : Type} (E : Elt α) {w : World} {ops : Array Oper} {rest : List Oper} {o : Oper} {a : Act} {Q : Exit → Act → World → Prop} (hgd : o.guard = none) (s x : Operand)
    (ho : o.op = .call { callee := .builtin .append, args := #[s, x], argTypes := #[E.ST, E.ST] })
    (g n : Nat) (hs : a.eval s = .slice (some ⟨g, 0, none⟩) n n) (q : Option Addr) (c : Nat) (hx : a.eval x = .slice q 0 c)
    (h : wpList Try.prog ops Q rest (a.put o.dst (.slice (some ⟨g, 0, none⟩) n n)) w) : wpList Try.prog ops Q (o :: rest) a w := by
  refine wpList_plain hgd fun _ hK => ?_
  obtain ⟨i0, hi, hz0, hz1, hz2⟩ := info_parts E.info
  have hrun : (Builtin.append_ #[E.ST, E.ST] o.type #[.slice (some ⟨g, 0, none⟩) n n, .slice q 0 c]).run Try.prog w = .ok (.slice (some ⟨g, 0, none⟩) n n) w := by
    cases q <;> simp [Builtin.append_, run_underlying E.und, sizeOf, typeInfo, hi, Builtin.lenOf, Builtin.firstCells, loadCells, loadCellsFrom, storeCells]
  unfold Oper.wp execOp
  simp only [ho, resolve, invoke, builtin, Sem.run_bind, Sem.run_pure, Result.andThen_ok, List.map_toArray, List.map_cons, List.map_nil, hs, hx, hrun]
  exact hK _ _ h
theorem tail_el {α : Type} (E : Elt α) {w : World} {ops : Array Oper} {rest : List Oper} {o : Oper} {a : Act} {Q : Exit → Act → World → Prop} (hgd : o.guard = none) (s x : Operand)
    (ho : o.op = .call { callee := .builtin .append, args := #[s, x], argTypes := #[E.ST, E.ST] })
    (l : List α) (g n : Nat) (hs : a.eval s = .slice (some ⟨g, 0, none⟩) n n) (hn : l.length = n) (hA : At E w (some ⟨g, 0, none⟩) l)
    (m : List α) (q : Option Addr) (k c : Nat) (hx : a.eval x = .slice q k c) (hk : m.length = k) (hA2 : At E w q m) (hl : n + k ≤ 1000000000)
    (h : ∀ g' c' w', At E w' (some ⟨g', 0, none⟩) (l ++ m) → n + k ≤ c' → Below w.heap.size w w' → wpList Try.prog ops Q rest (a.put o.dst (.slice (some ⟨g', 0, none⟩) (n + k) c')) w') :
    wpList Try.prog ops Q (o :: rest) a w := by
  rcases Nat.eq_zero_or_pos k with h0 | h0
  · subst h0
    obtain rfl := List.eq_nil_of_length_eq_zero hk
    refine none_el E hgd s x ho g n hs q c hx ?_
    have := h g n w (by rw [List.append_nil]; exact hA) (by omega) (Below.refl _ _)
    rwa [Nat.add_zero] at this
  · refine full_el E hgd s x ho l g n hs hn hA m q k c hx hk h0 hA2 hl fun g' c' w' hO hB => ?_
    obtain ⟨q2, c2, e, hc, hA3, _⟩ := hO.form
    injection e with e1 e2 e3
    rw [← e1] at hA3
    refine h g' c' w' hA3 ?_ hB
    rw [List.length_append, hn, hk, ← e3] at hc
    exact hc
end Go.Proofs.Ytahmpagolmodhaa
