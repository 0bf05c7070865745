/-
  A copy by append onto an empty slice; cells of a slice of numbers of one's own.
-/
import Derived.Test.YtjpiidfoegaenaaEn
import Derived.Test.YtjpiidfoegaenaaGg
namespace Go.Proofs.Ytjpiidfoegaenaa
open Go Go.RowKit
set_option linter.unusedVariables false
set_option linter.unusedSimpArgs false
set_option maxRecDepth 100000
section
variable {α : Type}

theorem clone_wp (E : Elt α) {w : World} {B : Nat} {o : Oper} {a : Act} {K : Act → World → Prop} {Q : Exit → Act → World → Prop} (s x : Operand)
    (ho : o.op = .call { callee := .builtin .append, args := #[s, x], argTypes := #[E.ST, E.ST] })
    (l : List α) (g n c : Nat) (hs : a.eval s = .slice (some ⟨g, 0, none⟩) 0 0) (hown : OwnR E w B (.slice (some ⟨g, 0, none⟩) 0 0) []) (hB : B ≤ w.heap.size)
    (q : Option Addr) (hx : a.eval x = .slice q n c) (hn : l.length = n) (hA : At E w q l) (hl : n ≤ 1000000000)
    (h : ∀ g' c' w', OwnR E w' B (.slice (some ⟨g', 0, none⟩) n c') l → (n = 0 → g' = g ∧ c' = 0) → (n ≠ 0 → g' = w.heap.size) → Below w.heap.size w w' → K (a.put o.dst (.slice (some ⟨g', 0, none⟩) n c')) w') :
    o.wp Try.prog a w K Q := by
  obtain ⟨i0, hi, hz0, hz1, hz2⟩ := info_parts E.info
  have hbb := E.bb
  rcases l with _ | ⟨y, r⟩
  · have hn : 0 = n := hn
    subst hn
    have hrun : (Builtin.append_ #[E.ST, E.ST] o.type #[.slice (some ⟨g, 0, none⟩) 0 0, .slice q 0 c]).run Try.prog w = .ok (.slice (some ⟨g, 0, none⟩) 0 0) w := by
      cases q <;> simp [Builtin.append_, run_underlying E.und, sizeOf, typeInfo, hi, Builtin.lenOf, Builtin.firstCells, loadCells, loadCellsFrom, storeCells]
    unfold Oper.wp execOp
    have hs' : a.eval x = .slice q 0 c := hx
    simp only [ho, resolve, invoke, builtin, Sem.run_bind, Sem.run_pure, Result.andThen_ok, List.map_toArray, List.map_cons, List.map_nil, hs, hs', hrun]
    exact h g 0 w hown (fun _ => ⟨rfl, rfl⟩) (fun h => absurd rfl h) (Below.refl _ _)
  · obtain ⟨b, off, rfl, hL⟩ := hA (by simp)
    have hrl : (E.row (y :: r)).length = n * E.k := by rw [E.row_length, hn]
    have hn0 : 0 < n := by rw [← hn]; simp
    have hbig : n * E.bytes ≤ 140737488355328 := Nat.le_trans (Nat.mul_le_mul hl hbb) (by decide)
    have hr := run_append_grow (P := Try.prog) w E.ST o.type E.T i0 E.zero E.und hi hz0 ⟨g, 0, none⟩ 0 0 [] (by simp) (fun j v hj => by simp at hj) ⟨b, off, none⟩ n c (E.row (y :: r)) (by rw [hz1]; exact hrl) (fun j u hj => by
      obtain ⟨i, j', x', hx', hu', hm, hj'⟩ := E.row_at _ _ _ hj
      rw [Addr.add_mid, hm, ← Nat.add_assoc]
      exact hL.2 i x' j' u hx' hu') (by omega) (by omega) (growslice_fits (by omega) (by rw [hz2]; simpa using hbig))
    have hge := grownCap_ge w (0 + n) 0 E.T
    have hcm : grownCap w (0 + n) 0 E.T ≤ maxLen := grownCap_le_maxLen w (0 + n) 0 E.T (by unfold maxLen; omega)
    generalize hc : grownCap w (0 + n) 0 E.T = cap at hr hge hcm
    unfold Oper.wp execOp
    simp only [ho, resolve, invoke, builtin, Sem.run_bind, Sem.run_pure, Result.andThen_ok, List.map_toArray, List.map_cons, List.map_nil, hs, hx, hr]
    rw [Nat.zero_add]
    refine h w.heap.size cap _ ⟨E.row_length _, .inr ⟨w.heap.size, cap, _, by rw [hn], hB, heap_alloc_new w.drew _, by omega, hcm, ?_, ?_⟩⟩ (fun h => absurd h (by omega)) (fun _ => rfl) ((below_drew (Below.refl _ _)).alloc (Nat.le_refl _) _)
    · simp only [Array.size_append, List.size_toArray, size_zeroCells, E.zs, hrl, List.length_nil, Nat.zero_add, ← Nat.add_mul]
      congr 1
      omega
    · simp only [Array.toList_append, List.nil_append, List.append_assoc]
      rw [← E.row_length]
      exact List.take_left
theorem clone_el (E : Elt α) {w : World} {B : Nat} {ops : Array Oper} {rest : List Oper} {o : Oper} {a : Act} {Q : Exit → Act → World → Prop} (hgd : o.guard = none) (s x : Operand)
    (ho : o.op = .call { callee := .builtin .append, args := #[s, x], argTypes := #[E.ST, E.ST] })
    (l : List α) (g n c : Nat) (hs : a.eval s = .slice (some ⟨g, 0, none⟩) 0 0) (hown : OwnR E w B (.slice (some ⟨g, 0, none⟩) 0 0) []) (hB : B ≤ w.heap.size)
    (q : Option Addr) (hx : a.eval x = .slice q n c) (hn : l.length = n) (hA : At E w q l) (hl : n ≤ 1000000000)
    (h : ∀ g' c' w', OwnR E w' B (.slice (some ⟨g', 0, none⟩) n c') l → (n = 0 → g' = g ∧ c' = 0) → (n ≠ 0 → g' = w.heap.size) → Below w.heap.size w w' → wpList Try.prog ops Q rest (a.put o.dst (.slice (some ⟨g', 0, none⟩) n c')) w') :
    wpList Try.prog ops Q (o :: rest) a w :=
  wpList_plain hgd fun _ hK => clone_wp E s x ho l g n c hs hown hB q hx hn hA hl fun g' c' w' h1 h2 h3 h4 => hK _ _ (h g' c' w' h1 h2 h3 h4)
end
/-- These numbers lie in the block, from its beginning. -/
def CelA (V : World) (g : Nat) (L : List Int) : Prop := ∃ cs, Blk V g 3 cs ∧ cs.take L.length = L.map (Value.int .i64)
theorem CelA.of {w : World} {B : Nat} {v : Value} {L : List Int} (h : OwnR intE w B v L) (hn : L ≠ []) : ∃ g cap, v = .slice (some ⟨g, 0, none⟩) L.length cap ∧ B ≤ g ∧ CelA w g L := by
  obtain ⟨g, cap, cs, rfl, hB, _, hb, ht⟩ := h.blk hn
  exact ⟨g, cap, rfl, hB, cs, hb, by rwa [row_map, show L.length * intE.k = L.length from Nat.mul_one _] at ht⟩
theorem CelA.keep {V V' : World} {g : Nat} {L : List Int} (h : CelA V g L) (hb : Below V.heap.size V V') : CelA V' g L := let ⟨cs, h1, h2⟩ := h; ⟨cs, h1.keep hb, h2⟩
theorem CelA.lt {V : World} {g : Nat} {L : List Int} (h : CelA V g L) : g < V.heap.size := let ⟨_, h1, _⟩ := h; h1.lt
theorem CelA.cell {V : World} {g : Nat} {L : List Int} (h : CelA V g L) {i : Nat} {x : Int} (hx : L[i]? = some x) : V.cell? ⟨g, i, none⟩ = some (.int .i64 x) := by
  obtain ⟨cs, h1, h2⟩ := h
  refine h1.cell ?_
  have := congrArg (fun l => l[i]?) h2
  have hi := (List.getElem?_eq_some_iff.1 hx).1
  simp only [List.getElem?_take, List.getElem?_map, hx, if_pos hi] at this
  exact this
theorem CelA.free {V : World} {g : Nat} {L : List Int} (h : CelA V g L) (i : Nat) : V.frozen? ⟨g, i, none⟩ = false := let ⟨_, h1, _⟩ := h; h1.free i
theorem CelA.set {V : World} {g : Nat} {L : List Int} (h : CelA V g L) (i : Nat) (x : Int) : CelA (V.setCell ⟨g, i, none⟩ (.int .i64 x)) g (L.set i x) := by
  obtain ⟨cs, h1, h2⟩ := h
  exact ⟨_, h1.set i _, by rw [List.length_set, List.take_set, h2, List.map_set]⟩
theorem CelA.other {V : World} {g b i : Nat} {L : List Int} (h : CelA V g L) (hne : g ≠ b) (v : Value) : CelA (V.setCell ⟨b, i, none⟩ v) g L := let ⟨cs, h1, h2⟩ := h; ⟨cs, h1.other (a := ⟨b, i, none⟩) hne v, h2⟩
theorem CelA.at {V : World} {g : Nat} {L : List Int} (h : CelA V g L) : At intE V (some ⟨g, 0, none⟩) L := by
  obtain ⟨cs, h1, h2⟩ := h
  exact at_blk (E := intE) h1 (by rw [row_map, show L.length * intE.k = L.length from Nat.mul_one _]; exact h2)
theorem CelA.ints {V : World} {g : Nat} {L : List Int} (h : CelA V g L) {m : Int} (hb : belowT L m = true) (hm : m ≤ 1024) : IntsAt V (some ⟨g, 0, none⟩) L := h.at.ints fun q hq => by have := belowT_mem hb q hq; omega
end Go.Proofs.Ytjpiidfoegaenaa
