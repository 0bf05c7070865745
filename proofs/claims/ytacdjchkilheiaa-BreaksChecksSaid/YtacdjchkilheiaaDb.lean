/-
  A copy by append onto an empty slice; what lies where while Bent copies its three lists.
-/
import Derived.Test.YtacdjchkilheiaaDl
import Derived.Test.YtacdjchkilheiaaRi
namespace Go.Proofs.Ytacdjchkilheiaa
open Go.RowKit
set_option linter.unusedVariables false
set_option linter.unusedSimpArgs false
variable {α : Type}

theorem clone_wp (E : Elt α) {w : World} {B : Nat} {o : Oper} {a : Act} {K : Act → World → Prop} {Q : Exit → Act → World → Prop} (s x : Operand)
    (ho : o.op = .call { callee := .builtin .append, args := #[s, x], argTypes := #[E.ST, E.ST] })
    (l : List α) (g n c : Nat) (hs : a.eval s = .slice (some ⟨g, 0, none⟩) 0 0) (hown : OwnR E w B (.slice (some ⟨g, 0, none⟩) 0 0) []) (hB : B ≤ w.heap.size)
    (q : Option Addr) (hx : a.eval x = .slice q n c) (hn : l.length = n) (hA : At E w q l) (hl : n ≤ 1000000000)
    (h : ∀ g' c' w', OwnR E w' B (.slice (some ⟨g', 0, none⟩) n c') l → (n = 0 → g' = g ∧ c' = 0) → (n ≠ 0 → g' = w.heap.size) → Below w.heap.size w w' → K (a.put o.dst (.slice (some ⟨g', 0, none⟩) n c')) w') :
    o.wp Try.prog a w K Q := by
  obtain ⟨i0, hi, hz0, hz1, hz2⟩ := info_parts E.info
  have hbb := E.bb
  rcases l with _ | ⟨y, r⟩
  · have hn : 0 = n := hn
    subst hn
    have hrun : (Builtin.append_ #[E.ST, E.ST] o.type #[.slice (some ⟨g, 0, none⟩) 0 0, .slice q 0 c]).run Try.prog w = .ok (.slice (some ⟨g, 0, none⟩) 0 0) w := by
      cases q <;> simp [Builtin.append_, run_underlying E.und, sizeOf, typeInfo, hi, Builtin.lenOf, Builtin.firstCells, loadCells, loadCellsFrom, storeCells]
    unfold Oper.wp execOp
    have hs' : a.eval x = .slice q 0 c := hx
    simp only [ho, resolve, invoke, builtin, Sem.run_bind, Sem.run_pure, Result.andThen_ok, List.map_toArray, List.map_cons, List.map_nil, hs, hs', hrun]
    exact h g 0 w hown (fun _ => ⟨rfl, rfl⟩) (fun h => absurd rfl h) (Below.refl _ _)
  · obtain ⟨b, off, rfl, hL⟩ := hA (by simp)
    have hrl : (E.row (y :: r)).length = n * E.k := by rw [E.row_length, hn]
    have hn0 : 0 < n := by rw [← hn]; simp
    have hbig : n * E.bytes ≤ 140737488355328 := Nat.le_trans (Nat.mul_le_mul hl hbb) (by decide)
    have hr := run_append_grow (P := Try.prog) w E.ST o.type E.T i0 E.zero E.und hi hz0 ⟨g, 0, none⟩ 0 0 [] (by simp) (fun j v hj => by simp at hj) ⟨b, off, none⟩ n c (E.row (y :: r)) (by rw [hz1]; exact hrl) (fun j u hj => by
      obtain ⟨i, j', x', hx', hu', hm, hj'⟩ := E.row_at _ _ _ hj
      rw [Addr.add_mid, hm, ← Nat.add_assoc]
      exact hL.2 i x' j' u hx' hu') (by omega) (by omega) (growslice_fits (by omega) (by rw [hz2]; simpa using hbig))
    have hge := grownCap_ge w (0 + n) 0 E.T
    have hcm : grownCap w (0 + n) 0 E.T ≤ maxLen := grownCap_le_maxLen w (0 + n) 0 E.T (by unfold maxLen; omega)
    generalize hc : grownCap w (0 + n) 0 E.T = cap at hr hge hcm
    unfold Oper.wp execOp
    simp only [ho, resolve, invoke, builtin, Sem.run_bind, Sem.run_pure, Result.andThen_ok, List.map_toArray, List.map_cons, List.map_nil, hs, hx, hr]
    rw [Nat.zero_add]
    refine h w.heap.size cap _ ⟨E.row_length _, .inr ⟨w.heap.size, cap, _, by rw [hn], hB, heap_alloc_new w.drew _, by omega, hcm, ?_, ?_⟩⟩ (fun h => absurd h (by omega)) (fun _ => rfl) ((below_drew (Below.refl _ _)).alloc (Nat.le_refl _) _)
    · simp only [Array.size_append, List.size_toArray, size_zeroCells, E.zs, hrl, List.length_nil, Nat.zero_add, ← Nat.add_mul]
      congr 1
      omega
    · simp only [Array.toList_append, List.nil_append, List.append_assoc]
      rw [← E.row_length]
      exact List.take_left
theorem clone_el (E : Elt α) {w : World} {B : Nat} {ops : Array Oper} {rest : List Oper} {o : Oper} {a : Act} {Q : Exit → Act → World → Prop} (hgd : o.guard = none) (s x : Operand)
    (ho : o.op = .call { callee := .builtin .append, args := #[s, x], argTypes := #[E.ST, E.ST] })
    (l : List α) (g n c : Nat) (hs : a.eval s = .slice (some ⟨g, 0, none⟩) 0 0) (hown : OwnR E w B (.slice (some ⟨g, 0, none⟩) 0 0) []) (hB : B ≤ w.heap.size)
    (q : Option Addr) (hx : a.eval x = .slice q n c) (hn : l.length = n) (hA : At E w q l) (hl : n ≤ 1000000000)
    (h : ∀ g' c' w', OwnR E w' B (.slice (some ⟨g', 0, none⟩) n c') l → (n = 0 → g' = g ∧ c' = 0) → (n ≠ 0 → g' = w.heap.size) → Below w.heap.size w w' → wpList Try.prog ops Q rest (a.put o.dst (.slice (some ⟨g', 0, none⟩) n c')) w') :
    wpList Try.prog ops Q (o :: rest) a w :=
  wpList_plain hgd fun _ hK => clone_wp E s x ho l g n c hs hown hB q hx hn hA hl fun g' c' w' h1 h2 h3 h4 => hK _ _ (h g' c' w' h1 h2 h3 h4)
end Go.Proofs.Ytacdjchkilheiaa
