/-
  A block that is known whole: its cells, what a store does to it, a variable of several cells read from and written to its middle.
-/
import Derived.Test.YtjpiidfoegaenaaWb
import Derived.Deep.MidRow
import Derived.Deep.WholeRow
import Derived.Below
import Derived.Outline
import Derived.OrdersHeld
import Derived.Deep.RegionHeld
import Derived.KernelRfl
import Derived.OpenShut
import Derived.BigQuiet
import Derived.Deep.CutRange
import Derived.Deep.DeepCutAuto
import Derived.Deep.Onto
import Derived.Deep.QuietTactic
namespace Go.Proofs.Ytjpiidfoegaenaa
open Go.RowKit
set_option linter.unusedVariables false
set_option linter.unusedSimpArgs false

/-- Block b holds just these cells, and all of them may be written. -/
def Blk (w : World) (b : Nat) (t : TypeId) (cs : List Value) : Prop := w.heap[b]? = some (.cells cs.toArray t (0, 0))

/-- The list in which the values vs stand from place o on. -/
def splice (cs : List Value) (o : Nat) (vs : List Value) : List Value := cs.take o ++ vs ++ cs.drop (o + vs.length)
theorem splice_length {cs vs : List Value} {o : Nat} (h : o + vs.length ≤ cs.length) : (splice cs o vs).length = cs.length := by
  simp [splice]; omega
theorem splice_nil (cs : List Value) (o : Nat) : splice cs o [] = cs := by simp [splice]
theorem splice_cons {cs vs : List Value} {o : Nat} {v : Value} (h : o < cs.length) : splice (cs.set o v) (o + 1) vs = splice cs o (v :: vs) := by
  have hl : (cs.take o).length = o := by rw [List.length_take]; omega
  have e : cs.set o v = cs.take o ++ (v :: cs.drop (o + 1)) := by rw [List.set_eq_take_append_cons_drop, if_pos h]
  have e1 : (cs.set o v).take (o + 1) = cs.take o ++ [v] := by
    rw [e, List.take_append, List.take_of_length_le (by omega), hl, show o + 1 - o = 1 by omega]
    rfl
  have e2 : (cs.set o v).drop (o + 1 + vs.length) = cs.drop (o + (v :: vs).length) := by
    rw [e, List.drop_append, List.drop_eq_nil_of_le (by omega), hl, show o + 1 + vs.length - o = vs.length + 1 by omega, List.drop_succ_cons, List.drop_drop, List.nil_append, List.length_cons]
    congr 1
    omega
  unfold splice
  rw [e1, e2]
  simp

theorem Blk.lt {w : World} {b : Nat} {t : TypeId} {cs : List Value} (h : Blk w b t cs) : b < w.heap.size := by
  rcases Nat.lt_or_ge b w.heap.size with hl | hl
  · exact hl
  · unfold Blk at h
    rw [Array.getElem?_eq_none hl] at h
    cases h
theorem Blk.cell {w : World} {b : Nat} {t : TypeId} {cs : List Value} (h : Blk w b t cs) {j : Nat} {v : Value} (hj : cs[j]? = some v) : w.cell? ⟨b, j, none⟩ = some v := by
  rw [cell_of_row w b j _ t _ h]
  simpa using hj
theorem Blk.free {w : World} {b : Nat} {t : TypeId} {cs : List Value} (h : Blk w b t cs) (j : Nat) : w.frozen? ⟨b, j, none⟩ = false := frozen_of_row w b j _ t h
theorem Blk.set {w : World} {b : Nat} {t : TypeId} {cs : List Value} (h : Blk w b t cs) (i : Nat) (v : Value) : Blk (w.setCell ⟨b, i, none⟩ v) b t (cs.set i v) := by
  have := heap_setCell_same w b i _ t v h
  unfold Blk
  rw [this]
  simp
theorem Blk.other {w : World} {b : Nat} {t : TypeId} {cs : List Value} (h : Blk w b t cs) {a : Addr} (ha : b ≠ a.block) (v : Value) : Blk (w.setCell a v) b t cs := by
  unfold Blk
  rw [heap_setCell_other w a b v ha]
  exact h
theorem Blk.keep {w w' : World} {b : Nat} {t : TypeId} {cs : List Value} (h : Blk w b t cs) (hb : Below w.heap.size w w') : Blk w' b t cs := by
  unfold Blk
  rw [hb.block b h.lt]
  exact h
theorem Blk.drewN {w : World} {b : Nat} {t : TypeId} {cs : List Value} (h : Blk w b t cs) (q : Nat) : Blk (w.drewN q) b t cs := h
theorem Blk.drew {w : World} {b : Nat} {t : TypeId} {cs : List Value} (h : Blk w b t cs) : Blk w.drew b t cs := h
theorem Blk.alloc {w : World} {b : Nat} {t : TypeId} {cs : List Value} (h : Blk w b t cs) (o : Obj) : Blk (w.alloc o) b t cs := by
  unfold Blk
  rw [Below.heap_alloc w o b h.lt]
  exact h
theorem blk_new (w : World) (t : TypeId) (cs : Array Value) : Blk (w.alloc (.cells cs t)) w.heap.size t cs.toList := by
  unfold Blk
  rw [heap_alloc_new]
theorem blk_new1 (w : World) (o : Obj) (t : TypeId) (cs : Array Value) : Blk ((w.alloc o).alloc (.cells cs t)) (w.heap.size + 1) t cs.toList := by
  have := blk_new (w.alloc o) t cs
  rwa [World.size_alloc] at this
theorem blk_new2 (w : World) (o o' : Obj) (t : TypeId) (cs : Array Value) : Blk (((w.alloc o).alloc o').alloc (.cells cs t)) (w.heap.size + 1 + 1) t cs.toList := by
  have := blk_new ((w.alloc o).alloc o') t cs
  rwa [World.size_alloc, World.size_alloc] at this
theorem Blk.range {w : World} {b : Nat} {t : TypeId} {cs : List Value} (h : Blk w b t cs) (o n : Nat) : w.rangeAt b o ((cs.drop o).take n) := by
  intro j v hj
  rw [List.getElem?_take] at hj
  split at hj
  · rw [List.getElem?_drop] at hj
    exact h.cell hj
  · cases hj
theorem Blk.there {w : World} {b : Nat} {t : TypeId} {cs : List Value} (h : Blk w b t cs) (o n : Nat) (hn : o + n ≤ cs.length) : w.there b o n := by
  intro j hj
  refine ⟨?_, h.free _⟩
  rw [h.cell (List.getElem?_eq_getElem (by omega : o + j < cs.length))]
  rfl
theorem Blk.sets {b : Nat} {t : TypeId} : ∀ (vs : List Value) {w : World} {cs : List Value} (o : Nat), Blk w b t cs → o + vs.length ≤ cs.length → Blk (w.setCells b o vs) b t (splice cs o vs)
  | [], w, cs, o, h, _ => by rw [splice_nil]; exact h
  | v :: vs, w, cs, o, h, hl => by
    rw [List.length_cons] at hl
    have ih := Blk.sets vs (o + 1) (h.set o v) (by rw [List.length_set]; omega)
    rw [splice_cons (by omega)] at ih
    exact ih
theorem Blk.others {b b' : Nat} {t : TypeId} (hne : b ≠ b') : ∀ (vs : List Value) {w : World} {cs : List Value} (o : Nat), Blk w b t cs → Blk (w.setCells b' o vs) b t cs
  | [], w, cs, o, h => h
  | v :: vs, w, cs, o, h => Blk.others hne vs (o + 1) (h.other (a := ⟨b', o, none⟩) hne v)
theorem below_sets {B b : Nat} {w0 : World} (hb : B ≤ b) : ∀ (vs : List Value) {w : World} (o : Nat), Below B w0 w → Below B w0 (w.setCells b o vs)
  | [], w, o, h => h
  | v :: vs, w, o, h => below_sets hb vs (o + 1) (h.setCell hb v)
theorem sets_size (b : Nat) : ∀ (vs : List Value) (w : World) (o : Nat), (w.setCells b o vs).heap.size = w.heap.size
  | [], w, o => rfl
  | v :: vs, w, o => by rw [World.setCells, sets_size b vs]; simp [World.setCell]
theorem below_drew {B : Nat} {a w : World} (h : Below B a w) : Below B a w.drew := ⟨h.os, h.tape, h.output, h.size, h.block⟩
theorem below_drewN {B : Nat} {a w : World} (h : Below B a w) (q : Nat) : Below B a (w.drewN q) := ⟨h.os, h.tape, h.output, h.size, h.block⟩

/-- A result of several cells that lies in a block. -/
theorem Blk.result {w : World} {b : Nat} {t : TypeId} {cs : List Value} (h : Blk w b t cs) {fn : Func} {p : Tmp} {ty : TypeId} {n : Nat} {e : TypeId} (hr : fn.results = #[.cell p ty]) (tmps : Array Value) (hp : tmps.getD p undef = .pointer (some ⟨b, 0, none⟩))
    (hu : Try.prog.underlying ty = some (.array n e)) (hi : (Try.prog.info? ty).map (·.size) = some cs.length) : (results fn tmps).run Try.prog w = .ok (.agg cs.toArray) w :=
  results_cell_row hr tmps w b t cs.toArray (0, 0) (.array n e) hp h hu rfl (by simpa using hi)

/-- A whole block is read. -/
theorem load_blk {w : World} {ops : Array Oper} {rest : List Oper} {o : Oper} {a : Act} {Q : Exit → Act → World → Prop} (hgd : o.guard = none) (ty : TypeId) (x : Operand) (ho : o.op = .load ty x)
    {b : Nat} {t : TypeId} {cs : List Value} (h : Blk w b t cs) (hx : a.eval x = .pointer (some ⟨b, 0, none⟩)) {n m : Nat} {e : TypeId} (hu : Try.prog.underlying ty = some (.array n e)) (hi : (Try.prog.info? ty).map (·.size) = some m) (hl : cs.length = m)
    (k : wpList Try.prog ops Q rest (a.put o.dst (.agg cs.toArray)) w) : wpList Try.prog ops Q (o :: rest) a w := by
  subst hl
  have hr := h.range 0 cs.length
  rw [List.drop_zero, List.take_length] at hr
  exact wpList_load_mid hgd ty x ho b 0 hx cs (.array n e) hr hu rfl hi k
/-- What a store into block b leaves as it was. -/
def Only (b : Nat) (w w' : World) : Prop := w'.heap.size = w.heap.size ∧ (∀ (b' : Nat) (t' : TypeId) (cs' : List Value), b' ≠ b → Blk w b' t' cs' → Blk w' b' t' cs') ∧ ∀ (B : Nat) (w0 : World), B ≤ b → Below B w0 w → Below B w0 w'
theorem only_sets (b o : Nat) (w : World) (vs : List Value) : Only b w (w.setCells b o vs) := ⟨sets_size b vs w o, fun _ _ _ hne h => Blk.others hne vs o h, fun _ _ hB h => below_sets hB vs o h⟩
theorem Blk.all {w : World} {b : Nat} {t : TypeId} {cs vs : List Value} (h : Blk w b t cs) (hl : vs.length = cs.length) : Blk (w.setCells b 0 vs) b t vs := by
  have := h.sets vs 0 (by omega)
  have e : splice cs 0 vs = vs := by
    unfold splice
    rw [List.take_zero, List.nil_append, List.drop_eq_nil_of_le (by omega), List.append_nil]
  rwa [e] at this
/-- The same as a run, for a region in which the walk comes to the store by itself. -/
theorem Blk.storeRun {w : World} {b : Nat} {t : TypeId} {cs vs : List Value} (h : Blk w b t cs) (hl : vs.length = cs.length) (h1 : ∀ v ∈ vs, v.oneCell' = true) : (storeCells ⟨b, 0, none⟩ vs).run Try.prog w = .ok () (w.setCells b 0 vs) := by
  have ht := h.there 0 vs.length (by omega)
  have := run_storeCells_cells (P := Try.prog) b 0 vs 0 w (fun j hj => by simpa using (ht j hj).1) (fun j hj => by simpa using (ht j hj).2) h1
  simpa using this
/-- A whole block is written. -/
theorem store_blk {w : World} {ops : Array Oper} {rest : List Oper} {o : Oper} {a : Act} {Q : Exit → Act → World → Prop} (hgd : o.guard = none) (ty : TypeId) (x y : Operand) (ho : o.op = .store ty x y)
    {b : Nat} {t : TypeId} {cs vs : List Value} (h : Blk w b t cs) (hx : a.eval x = .pointer (some ⟨b, 0, none⟩)) (hy : a.eval y = .agg vs.toArray) {m : Nat} (hi : (Try.prog.info? ty).map (·.size) = some m) (hl : vs.length = m) (hl2 : cs.length = m) (h1 : ∀ v ∈ vs, v.oneCell' = true)
    (k : ∀ w', Blk w' b t vs → Only b w w' → wpList Try.prog ops Q rest (a.put o.dst undef) w') : wpList Try.prog ops Q (o :: rest) a w := by
  subst hl
  refine wpList_store_mid hgd ty x y ho b 0 vs.toArray hx hy (by simpa using h.there 0 vs.length (by omega)) (by simpa using hi) (all_oneCell_toArray h1) (k _ ?_ (only_sets _ _ _ _))
  have := h.sets vs 0 (by omega)
  have e : splice cs 0 vs = vs := by
    unfold splice
    rw [List.take_zero, List.nil_append, List.drop_eq_nil_of_le (by omega), List.append_nil]
  rw [e] at this
  simpa using this

/-- A struct that fills a block is read. -/
theorem load_struct {w : World} {ops : Array Oper} {rest : List Oper} {o : Oper} {a : Act} {Q : Exit → Act → World → Prop} (hgd : o.guard = none) (ty : TypeId) (x : Operand) (ho : o.op = .load ty x)
    {b : Nat} {t : TypeId} {cs : List Value} (h : Blk w b t cs) (hx : a.eval x = .pointer (some ⟨b, 0, none⟩)) {m : Nat} {fs : Array Field} (hu : Try.prog.underlying ty = some (.struct fs)) (hi : (Try.prog.info? ty).map (·.size) = some m) (hl : cs.length = m)
    (K : wpList Try.prog ops Q rest (a.put o.dst (.agg cs.toArray)) w) : wpList Try.prog ops Q (o :: rest) a w := by
  subst hl
  have hr := h.range 0 cs.length
  rw [List.drop_zero, List.take_length] at hr
  exact wpList_load_mid hgd ty x ho b 0 hx cs (.struct fs) hr hu rfl hi K
theorem Blk.resultS {w : World} {b : Nat} {t : TypeId} {cs : List Value} (h : Blk w b t cs) {fn : Func} {p : Tmp} {ty : TypeId} {fs : Array Field} (hr : fn.results = #[.cell p ty]) (tmps : Array Value) (hp : tmps.getD p undef = .pointer (some ⟨b, 0, none⟩))
    (hu : Try.prog.underlying ty = some (.struct fs)) (hi : (Try.prog.info? ty).map (·.size) = some cs.length) : (results fn tmps).run Try.prog w = .ok (.agg cs.toArray) w :=
  results_cell_row hr tmps w b t cs.toArray (0, 0) (.struct fs) hp h hu rfl (by simpa using hi)

theorem new_struct (W : World) (z : Array Value) (t : TypeId) (cs : List Value) (hl : cs.length = z.size) : Below W.heap.size W ((W.alloc (.cells z t)).setCells W.heap.size 0 cs) ∧ Blk ((W.alloc (.cells z t)).setCells W.heap.size 0 cs) W.heap.size t cs :=
  ⟨(only_sets W.heap.size 0 _ cs).2.2 _ _ (Nat.le_refl _) ((Below.refl _ W).alloc (Nat.le_refl _) _), (blk_new W t z).all (by simpa using hl)⟩
theorem load_wanted3 {w : World} {ops : Array Oper} {rest : List Oper} {o : Oper} {a : Act} {Q : Exit → Act → World → Prop} (hw : Region.wanted o (yielded ops a.tmps) = true) (ty : TypeId) (x : Operand) (ho : o.op = .load ty x)
    (b off : Nat) (hx : a.eval x = .pointer (some ⟨b, off, none⟩)) (cs : List Value) (d : TypeDesc) (hc : w.rangeAt b off cs) (hu : Try.prog.underlying ty = some d) (hd : d.isRow = true) (hi : (Try.prog.info? ty).map (·.size) = some cs.length)
    (K : wpList Try.prog ops Q rest (a.put o.dst (.agg cs.toArray)) w) : wpList Try.prog ops Q (o :: rest) a w := by
  refine wpList_step fun K' hK => ?_
  rw [if_pos hw]
  exact wp_load_mid ty x ho b off hx cs d hc hu hd hi (hK _ _ K)
theorem link {a b c : World} (h1 : Below a.heap.size a b) (h2 : Below b.heap.size b c) : Below a.heap.size a c := h1.trans (h2.mono h1.size)
/-- The call told b, and what was there has not changed. -/
def Told (w : World) (b : Bool) (e : Ending) (w' : World) : Prop := e = .returned (.bool b) ∧ Below w.heap.size w w'

theorem Blk.loadVarS {w : World} {b : Nat} {t ty : TypeId} {cs : List Value} (h : Blk w b t cs) {fs : Array Field} (hu : Try.prog.underlying ty = some (.struct fs)) (hi : (Try.prog.info? ty).map (·.size) = some cs.length) : (Go.loadVar ty ⟨b, 0, none⟩).run Try.prog w = .ok (.agg cs.toArray) w :=
  run_loadVar_row w b t ty cs.toArray (0, 0) (.struct fs) h hu rfl (by simpa using hi)
theorem results_two {fn : Func} {p q : Tmp} {ty ty' : TypeId} (h : fn.results = #[.cell p ty, .cell q ty']) (tmps : Array Value) (w : World) {b b' : Nat} {v v' : Value}
    (hp : tmps.getD p undef = .pointer (some ⟨b, 0, none⟩)) (hq : tmps.getD q undef = .pointer (some ⟨b', 0, none⟩)) (hv : (Go.loadVar ty ⟨b, 0, none⟩).run Try.prog w = .ok v w) (hv' : (Go.loadVar ty' ⟨b', 0, none⟩).run Try.prog w = .ok v' w) :
    (results fn tmps).run Try.prog w = .ok (.tuple #[v, v']) w := by
  have hp' : tmps[p]?.getD undef = .pointer (some ⟨b, 0, none⟩) := by simpa using hp
  have hq' : tmps[q]?.getD undef = .pointer (some ⟨b', 0, none⟩) := by simpa using hq
  simp [results, h, hp', hq', asAddr, hv, hv', Sem.run_bind]
theorem results_and {fn : Func} {p q : Tmp} {ty : TypeId} (h : fn.results = #[.cell p ty, .tmp q]) (tmps : Array Value) (w : World) {b : Nat} {v v' : Value}
    (hp : tmps.getD p undef = .pointer (some ⟨b, 0, none⟩)) (hq : tmps.getD q undef = v') (hv : (Go.loadVar ty ⟨b, 0, none⟩).run Try.prog w = .ok v w) :
    (results fn tmps).run Try.prog w = .ok (.tuple #[v, v']) w := by
  have hp' : tmps[p]?.getD undef = .pointer (some ⟨b, 0, none⟩) := by simpa using hp
  have hq' : tmps[q]?.getD undef = v' := by simpa using hq
  simp [results, h, hp', hq', asAddr, hv, Sem.run_bind]
theorem Only.refl (b : Nat) (w : World) : Only b w w := ⟨rfl, fun _ _ _ _ h => h, fun _ _ _ h => h⟩
theorem Only.trans {b : Nat} {w w' w'' : World} (h : Only b w w') (g : Only b w' w'') : Only b w w'' := ⟨g.1.trans h.1, fun b' t cs hne hb => g.2.1 b' t cs hne (h.2.1 b' t cs hne hb), fun B w0 hB hh => g.2.2 B w0 hB (h.2.2 B w0 hB hh)⟩
theorem only_set (b o : Nat) (w : World) (v : Value) : Only b w (w.setCell ⟨b, o, none⟩ v) := only_sets b o w [v]

theorem zP (a : Act) (v : Value) (d : Tmp) : a.put (some d) v = { tmps := a.tmps.setIfInBounds d v, defers := a.defers } := rfl
theorem zQ (a : Act) (v : Value) : a.put none v = a := rfl
theorem zS {α : Type} (l : List α) (i : Nat) (a : α) : l.toArray.setIfInBounds i a = (l.set i a).toArray := List.setIfInBounds_toArray l i a
theorem zZ {α : Type} {x : α} {xs : List α} {a : α} : (x :: xs).set 0 a = a :: xs := rfl
theorem zC {α : Type} {x : α} {xs : List α} {i : Nat} {a : α} : (x :: xs).set (i + 1) a = x :: xs.set i a := rfl
/-- An operation taken first; its plain premises by themselves. -/
theorem wt {P : Program} {ops : Array Oper} {Q : Exit → Act → World → Prop} {md : Region.Mode} {S : World → Prop} {i : Nat} {oi : Oper} {v : Value} {fuel : Nat} {listed : Array Bool} {a : Act} {w : World}
    (hy : YieldsIf P ops S oi v a) (hS : S w) (h : wpAnyH P md ops Q S fuel (listed.setIfInBounds i true) (a.put oi.dst v) w)
    (hi : ops[i]? = some oi := by rfl) (hs : Region.noSelect ops = true := by kernel_rfl) (hf : Region.free md ops listed i = true := by kernel_rfl) (hr : (Region.ready md ops listed).contains i = true := by kernel_rfl)
    (hQ : ∀ c a w, Q (.panic c) (a.put oi.dst v) w → Q (.panic c) a w := by exact fun _ _ _ h => h) : wpAnyH P md ops Q S (fuel + 1) listed a w := wpAnyH_take hi hs hf hr hQ hy hS h

end Go.Proofs.Ytjpiidfoegaenaa
