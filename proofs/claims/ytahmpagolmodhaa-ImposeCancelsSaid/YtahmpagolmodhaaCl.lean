/-
  A copy by append onto an empty slice; elements of a row of sheets written.
-/
import Derived.Test.YtahmpagolmodhaaIj
namespace Go.Proofs.Ytahmpagolmodhaa
open Go.RowKit
set_option linter.unusedVariables false
set_option linter.unusedSimpArgs false
section
variable {α : Type}

theorem clone_wp (E : Elt α) {w : World} {B : Nat} {o : Oper} {a : Act} {K : Act → World → Prop} {Q : Exit → Act → World → Prop} (s x : Operand)
    (ho : o.op = .call { callee := .builtin .append, args := #[s, x], argTypes := #[E.ST, E.ST] })
    (l : List α) (g n c : Nat) (hs : a.eval s = .slice (some ⟨g, 0, none⟩) 0 0) (hown : OwnR E w B (.slice (some ⟨g, 0, none⟩) 0 0) []) (hB : B ≤ w.heap.size)
    (q : Option Addr) (hx : a.eval x = .slice q n c) (hn : l.length = n) (hA : At E w q l) (hl : n ≤ 1000000000)
    (h : ∀ g' c' w', OwnR E w' B (.slice (some ⟨g', 0, none⟩) n c') l → (n = 0 → g' = g ∧ c' = 0) → (n ≠ 0 → g' = w.heap.size) → Below w.heap.size w w' → K (a.put o.dst (.slice (some ⟨g', 0, none⟩) n c')) w') :
    o.wp Try.prog a w K Q := by
  obtain ⟨i0, hi, hz0, hz1, hz2⟩ := info_parts E.info
  have hbb := E.bb
  rcases l with _ | ⟨y, r⟩
  · have hn : 0 = n := hn
    subst hn
    have hrun : (Builtin.append_ #[E.ST, E.ST] o.type #[.slice (some ⟨g, 0, none⟩) 0 0, .slice q 0 c]).run Try.prog w = .ok (.slice (some ⟨g, 0, none⟩) 0 0) w := by
      cases q <;> simp [Builtin.append_, run_underlying E.und, sizeOf, typeInfo, hi, Builtin.lenOf, Builtin.firstCells, loadCells, loadCellsFrom, storeCells]
    unfold Oper.wp execOp
    have hs' : a.eval x = .slice q 0 c := hx
    simp only [ho, resolve, invoke, builtin, Sem.run_bind, Sem.run_pure, Result.andThen_ok, List.map_toArray, List.map_cons, List.map_nil, hs, hs', hrun]
    exact h g 0 w hown (fun _ => ⟨rfl, rfl⟩) (fun h => absurd rfl h) (Below.refl _ _)
  · obtain ⟨b, off, rfl, hL⟩ := hA (by simp)
    have hrl : (E.row (y :: r)).length = n * E.k := by rw [E.row_length, hn]
    have hn0 : 0 < n := by rw [← hn]; simp
    have hbig : n * E.bytes ≤ 140737488355328 := Nat.le_trans (Nat.mul_le_mul hl hbb) (by decide)
    have hr := run_append_grow (P := Try.prog) w E.ST o.type E.T i0 E.zero E.und hi hz0 ⟨g, 0, none⟩ 0 0 [] (by simp) (fun j v hj => by simp at hj) ⟨b, off, none⟩ n c (E.row (y :: r)) (by rw [hz1]; exact hrl) (fun j u hj => by
      obtain ⟨i, j', x', hx', hu', hm, hj'⟩ := E.row_at _ _ _ hj
      rw [Addr.add_mid, hm, ← Nat.add_assoc]
      exact hL.2 i x' j' u hx' hu') (by omega) (by omega) (growslice_fits (by omega) (by rw [hz2]; simpa using hbig))
    have hge := grownCap_ge w (0 + n) 0 E.T
    have hcm : grownCap w (0 + n) 0 E.T ≤ maxLen := grownCap_le_maxLen w (0 + n) 0 E.T (by unfold maxLen; omega)
    generalize hc : grownCap w (0 + n) 0 E.T = cap at hr hge hcm
    unfold Oper.wp execOp
    simp only [ho, resolve, invoke, builtin, Sem.run_bind, Sem.run_pure, Result.andThen_ok, List.map_toArray, List.map_cons, List.map_nil, hs, hx, hr]
    rw [Nat.zero_add]
    refine h w.heap.size cap _ ⟨E.row_length _, .inr ⟨w.heap.size, cap, _, by rw [hn], hB, heap_alloc_new w.drew _, by omega, hcm, ?_, ?_⟩⟩ (fun h => absurd h (by omega)) (fun _ => rfl) ((below_drew (Below.refl _ _)).alloc (Nat.le_refl _) _)
    · simp only [Array.size_append, List.size_toArray, size_zeroCells, E.zs, hrl, List.length_nil, Nat.zero_add, ← Nat.add_mul]
      congr 1
      omega
    · simp only [Array.toList_append, List.nil_append, List.append_assoc]
      rw [← E.row_length]
      exact List.take_left
theorem clone_el (E : Elt α) {w : World} {B : Nat} {ops : Array Oper} {rest : List Oper} {o : Oper} {a : Act} {Q : Exit → Act → World → Prop} (hgd : o.guard = none) (s x : Operand)
    (ho : o.op = .call { callee := .builtin .append, args := #[s, x], argTypes := #[E.ST, E.ST] })
    (l : List α) (g n c : Nat) (hs : a.eval s = .slice (some ⟨g, 0, none⟩) 0 0) (hown : OwnR E w B (.slice (some ⟨g, 0, none⟩) 0 0) []) (hB : B ≤ w.heap.size)
    (q : Option Addr) (hx : a.eval x = .slice q n c) (hn : l.length = n) (hA : At E w q l) (hl : n ≤ 1000000000)
    (h : ∀ g' c' w', OwnR E w' B (.slice (some ⟨g', 0, none⟩) n c') l → (n = 0 → g' = g ∧ c' = 0) → (n ≠ 0 → g' = w.heap.size) → Below w.heap.size w w' → wpList Try.prog ops Q rest (a.put o.dst (.slice (some ⟨g', 0, none⟩) n c')) w') :
    wpList Try.prog ops Q (o :: rest) a w :=
  wpList_plain hgd fun _ hK => clone_wp E s x ho l g n c hs hown hB q hx hn hA hl fun g' c' w' h1 h2 h3 h4 => hK _ _ (h g' c' w' h1 h2 h3 h4)
end
theorem tdiv8_in {x : Int} (h1 : -9223372036854775808 ≤ x) (h2 : x ≤ 9223372036854775807) : -9223372036854775808 ≤ x.tdiv 8 ∧ x.tdiv 8 ≤ 9223372036854775807 := by
  rcases Int.le_total 0 x with h | h
  · rw [Int.tdiv_eq_ediv_of_nonneg h]; omega
  · have e : x.tdiv 8 = -((-x).tdiv 8) := by rw [Int.neg_tdiv, Int.neg_neg]
    rw [e, Int.tdiv_eq_ediv_of_nonneg (by omega)]; omega
theorem set_get {α : Type} {l : List α} {i : Nat} {x y : α} (hx : l[i]? = some x) : (l.set i y)[i]? = some y := by
  have := (List.getElem?_eq_some_iff.1 hx).1
  rw [List.getElem?_set_self this]
section
variable {w : World} {B g n c : Nat} {l : List Sh} {i : Nat} {x : Sh} (h : OwnR srE w B (.slice (some ⟨g, 0, none⟩) n c) l) (hx : l[i]? = some x)
include h hx
theorem own_quire (u : Int) : B ≤ g ∧ (∃ v, w.cell? ⟨g, i * 5, none⟩ = some v) ∧ w.frozen? ⟨g, i * 5, none⟩ = false ∧ OwnR srE (w.setCell ⟨g, i * 5, none⟩ (.int .i64 u)) B (.slice (some ⟨g, 0, none⟩) n c) (l.set i { x with q := u }) := by
  obtain ⟨g', e, hB, s1, f1, h1⟩ := h.put (j := 0) (y := { x with q := u }) (u := .int .i64 u) hx rfl (by decide)
  injection e with e; injection e with e; subst e
  exact ⟨hB, Option.isSome_iff_exists.1 s1, f1, h1⟩
theorem own_front (u v : Int) : B ≤ g ∧ w.there g (i * 5 + 1) 2 ∧ OwnR srE (w.setCells g (i * 5 + 1) [.int .i64 u, .int .i64 v]) B (.slice (some ⟨g, 0, none⟩) n c) (l.set i { x with fa := u, fb := v }) := by
  obtain ⟨g', e, hB, s1, f1, h1⟩ := h.put (j := 1) (y := { x with fa := u }) (u := .int .i64 u) hx rfl (by decide)
  obtain ⟨g2, e2, _, s2, f2, _⟩ := h.put (j := 2) (y := { x with fb := v }) (u := .int .i64 v) hx rfl (by decide)
  injection e with e; injection e with e; subst e
  injection e2 with e2; injection e2 with e2; subst e2
  obtain ⟨g3, e3, _, _, _, h2⟩ := h1.put (j := 2) (y := { x with fa := u, fb := v }) (u := .int .i64 v) (set_get hx) rfl (by decide)
  injection e3 with e3; injection e3 with e3; subst e3
  rw [List.set_set] at h2
  refine ⟨hB, fun j hj => ?_, h2⟩
  match j, hj with
  | 0, _ => exact ⟨s1, f1⟩
  | 1, _ => exact ⟨s2, f2⟩
theorem own_back (u v : Int) : B ≤ g ∧ w.there g (i * 5 + 3) 2 ∧ OwnR srE (w.setCells g (i * 5 + 3) [.int .i64 u, .int .i64 v]) B (.slice (some ⟨g, 0, none⟩) n c) (l.set i { x with ba := u, bb := v }) := by
  obtain ⟨g', e, hB, s1, f1, h1⟩ := h.put (j := 3) (y := { x with ba := u }) (u := .int .i64 u) hx rfl (by decide)
  obtain ⟨g2, e2, _, s2, f2, _⟩ := h.put (j := 4) (y := { x with bb := v }) (u := .int .i64 v) hx rfl (by decide)
  injection e with e; injection e with e; subst e
  injection e2 with e2; injection e2 with e2; subst e2
  obtain ⟨g3, e3, _, _, _, h2⟩ := h1.put (j := 4) (y := { x with ba := u, bb := v }) (u := .int .i64 v) (set_get hx) rfl (by decide)
  injection e3 with e3; injection e3 with e3; subst e3
  rw [List.set_set] at h2
  refine ⟨hB, fun j hj => ?_, h2⟩
  match j, hj with
  | 0, _ => exact ⟨s1, f1⟩
  | 1, _ => exact ⟨s2, f2⟩
theorem own_sheet (y : Sh) : B ≤ g ∧ w.there g (i * 5) 5 ∧ OwnR srE (w.setCells g (i * 5) [.int .i64 y.q, .int .i64 y.fa, .int .i64 y.fb, .int .i64 y.ba, .int .i64 y.bb]) B (.slice (some ⟨g, 0, none⟩) n c) (l.set i y) := by
  obtain ⟨hB, s0, f0, h1⟩ := own_quire h hx y.q
  obtain ⟨_, t1, _⟩ := own_front h hx y.fa y.fb
  obtain ⟨_, t2, _⟩ := own_back h hx y.ba y.bb
  obtain ⟨_, _, h2⟩ := own_front h1 (set_get hx) y.fa y.fb
  obtain ⟨_, _, h3⟩ := own_back h2 (set_get (set_get hx)) y.ba y.bb
  rw [List.set_set, List.set_set] at h3
  have e : w.setCells g (i * 5) [.int .i64 y.q, .int .i64 y.fa, .int .i64 y.fb, .int .i64 y.ba, .int .i64 y.bb] = ((w.setCell ⟨g, i * 5, none⟩ (.int .i64 y.q)).setCells g (i * 5 + 1) [.int .i64 y.fa, .int .i64 y.fb]).setCells g (i * 5 + 3) [.int .i64 y.ba, .int .i64 y.bb] := by simp only [World.setCells]
  rw [← e] at h3
  clear e h1 h2
  refine ⟨hB, fun j hj => ?_, h3⟩
  match j, hj with
  | 0, _ => exact ⟨by obtain ⟨v, e⟩ := s0; show (w.cell? ⟨g, i * 5, none⟩).isSome = true; rw [e]; rfl, f0⟩
  | 1, _ => exact t1 0 (by omega)
  | 2, _ => exact t1 1 (by omega)
  | 3, _ => exact t2 0 (by omega)
  | 4, _ => exact t2 1 (by omega)
theorem own_read : ∃ hb : g < w.heap.size, w.rangeAt g (i * 5) [.int .i64 x.q, .int .i64 x.fa, .int .i64 x.fb, .int .i64 x.ba, .int .i64 x.bb] := by
  obtain ⟨q, c', e, _, hA, _⟩ := h.form
  obtain ⟨b, off, e2, hL⟩ := hA.get (List.getElem?_eq_some_iff.1 hx).1
  injection e with e3 _ _
  rw [← e3] at e2
  injection e2 with e2; injection e2 with e2 e4
  subst e2
  subst e4
  have := hL.range hx
  rw [Nat.zero_add] at this
  exact ⟨hL.1, this⟩
end
end Go.Proofs.Ytahmpagolmodhaa
