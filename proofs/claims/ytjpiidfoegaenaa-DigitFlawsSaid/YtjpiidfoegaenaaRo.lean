/-
  Slices of any elements: where they lie, slices of one's own, append of one element and of a slice.
-/
import Derived.Test.YtjpiidfoegaenaaHb
import Derived.Laws.AppendOwnNone
import Derived.Lib.Hide
namespace Go.Proofs.Ytjpiidfoegaenaa
open Go.RowKit
set_option linter.unusedVariables false
set_option linter.unusedSimpArgs false

/-- A kind of elements: the types of the element and of its slice, and the cells of a value. -/
structure Elt (α : Type) where
  T : TypeId
  ST : TypeId
  k : Nat
  bytes : Nat
  zero : Value
  enc : α → List Value
  info : (Try.prog.info? T).map (fun i => (i.zero, i.size, i.bytes)) = some (some zero, k, bytes)
  und : Try.prog.underlying ST = some (.slice T)
  len : ∀ x, (enc x).length = k
  one : ∀ x, ∀ u ∈ enc x, u.oneCell' = true
  kpos : 0 < k
  zs : zero.cells.size = k
  bb : bytes ≤ 128
variable {α : Type}
def Elt.row (E : Elt α) (l : List α) : List Value := l.flatMap E.enc
theorem Elt.row_length (E : Elt α) : ∀ l : List α, (E.row l).length = l.length * E.k
  | [] => by simp [Elt.row]
  | x :: l => by
    have ih := Elt.row_length E l
    unfold Elt.row at *
    rw [List.flatMap_cons, List.length_append, ih, E.len, List.length_cons, Nat.add_mul, Nat.one_mul, Nat.add_comm]
theorem Elt.row_append (E : Elt α) (l m : List α) : E.row (l ++ m) = E.row l ++ E.row m := by unfold Elt.row; rw [List.flatMap_append]
theorem Elt.row_one (E : Elt α) (x : α) : E.row [x] = E.enc x := by simp [Elt.row]
theorem Elt.row_mem (E : Elt α) {l : List α} : ∀ u ∈ E.row l, u.oneCell' = true := by
  intro u hu
  obtain ⟨x, _, h⟩ := List.mem_flatMap.1 hu
  exact E.one x u h
theorem Elt.row_get (E : Elt α) : ∀ (l : List α) (i : Nat) (x : α) (j : Nat) (u : Value), l[i]? = some x → (E.enc x)[j]? = some u → (E.row l)[i * E.k + j]? = some u
  | [], i, x, j, u, h, _ => by simp at h
  | y :: l, 0, x, j, u, h, hu => by
    rw [List.getElem?_cons_zero] at h
    injection h with h
    subst h
    show (E.enc y ++ E.row l)[0 * E.k + j]? = some u
    have hj := (List.getElem?_eq_some_iff.1 hu).1
    rw [Nat.zero_mul, Nat.zero_add, List.getElem?_append_left hj]
    exact hu
  | y :: l, i + 1, x, j, u, h, hu => by
    rw [List.getElem?_cons_succ] at h
    have ih := Elt.row_get E l i x j u h hu
    show (E.enc y ++ E.row l)[(i + 1) * E.k + j]? = some u
    have e : (i + 1) * E.k + j = (E.enc y).length + (i * E.k + j) := by rw [E.len, Nat.add_mul, Nat.one_mul]; omega
    rw [e, List.getElem?_append_right (by omega), Nat.add_sub_cancel_left]
    exact ih
theorem Elt.row_at (E : Elt α) : ∀ (l : List α) (m : Nat) (u : Value), (E.row l)[m]? = some u → ∃ i j x, l[i]? = some x ∧ (E.enc x)[j]? = some u ∧ m = i * E.k + j ∧ j < E.k
  | [], m, u, h => by simp [Elt.row] at h
  | y :: l, m, u, h => by
    have h : (E.enc y ++ E.row l)[m]? = some u := h
    rcases Nat.lt_or_ge m (E.enc y).length with hm | hm
    · rw [List.getElem?_append_left hm] at h
      exact ⟨0, m, y, rfl, h, by omega, by rw [E.len] at hm; exact hm⟩
    · rw [List.getElem?_append_right hm] at h
      obtain ⟨i, j, x, hx, hu, hmi, hj⟩ := Elt.row_at E l _ u h
      rw [E.len] at hmi hm
      exact ⟨i + 1, j, x, by rw [List.getElem?_cons_succ]; exact hx, hu, by rw [Nat.add_mul, Nat.one_mul]; omega, hj⟩
/-- Elements in memory, from a place on. -/
def Lay (E : Elt α) (w : World) (b off : Nat) (l : List α) : Prop := b < w.heap.size ∧ ∀ i x j u, l[i]? = some x → (E.enc x)[j]? = some u → w.cell? ⟨b, off + i * E.k + j, none⟩ = some u
theorem Lay.keep {E : Elt α} {w w' : World} {b off : Nat} {l : List α} (h : Lay E w b off l) (hb : Below w.heap.size w w') : Lay E w' b off l :=
  ⟨Nat.lt_of_lt_of_le h.1 hb.size, fun i x j u hx hu => (hb.cell h.1).trans (h.2 i x j u hx hu)⟩
theorem Lay.range {E : Elt α} {w : World} {b off : Nat} {l : List α} (h : Lay E w b off l) {i : Nat} {x : α} (hx : l[i]? = some x) : w.rangeAt b (off + i * E.k) (E.enc x) := fun j u hu => h.2 i x j u hx hu
theorem Lay.sub {E : Elt α} {w : World} {b off : Nat} {l : List α} (h : Lay E w b off l) (k m : Nat) : Lay E w b (off + k * E.k) ((l.drop k).take m) := by
  refine ⟨h.1, fun i x j u hx hu => ?_⟩
  rw [List.getElem?_take] at hx
  split at hx
  · rw [List.getElem?_drop] at hx
    have := h.2 (k + i) x j u hx hu
    rw [show off + k * E.k + i * E.k + j = off + (k + i) * E.k + j by rw [Nat.add_mul]; omega]
    exact this
  · cases hx
/-- The slice that begins at q holds these elements. -/
def At (E : Elt α) (w : World) (q : Option Addr) (l : List α) : Prop := l ≠ [] → ∃ b off, q = some ⟨b, off, none⟩ ∧ Lay E w b off l
theorem At.keep {E : Elt α} {w w' : World} {q : Option Addr} {l : List α} (h : At E w q l) (hb : Below w.heap.size w w') : At E w' q l := fun hn => by
  obtain ⟨b, off, e, hL⟩ := h hn
  exact ⟨b, off, e, hL.keep hb⟩
theorem At.get {E : Elt α} {w : World} {q : Option Addr} {l : List α} (h : At E w q l) {i : Nat} (hi : i < l.length) : ∃ b off, q = some ⟨b, off, none⟩ ∧ Lay E w b off l := h (by intro e; rw [e] at hi; simp at hi)
/-- A slice of one's own, in blocks not below B. -/
def OwnR (E : Elt α) (w : World) (B : Nat) (v : Value) (l : List α) : Prop := w.ownsRow B E.T E.k v l.length (E.row l)
theorem OwnR.nil (E : Elt α) (w : World) (B : Nat) : OwnR E w B (.slice none 0 0) [] := World.ownsRow_nil _ _ _ _
theorem own_row_keep {w w' : World} {B : Nat} {e : TypeId} {sz n : Nat} {v : Value} {xs : List Value} (h : w.ownsRow B e sz v n xs) (hb : Below w.heap.size w w') : w'.ownsRow B e sz v n xs := by
  refine ⟨h.1, ?_⟩
  rcases h.2 with h0 | ⟨g, cap, cur, hv, hg, hh, rest⟩
  · exact .inl h0
  · refine .inr ⟨g, cap, cur, hv, hg, ?_, rest⟩
    have hlt : g < w.heap.size := (Array.getElem?_eq_some_iff.1 hh).1
    rw [hb.block g hlt]; exact hh
theorem OwnR.keep {E : Elt α} {w w' : World} {B : Nat} {v : Value} {l : List α} (h : OwnR E w B v l) (hb : Below w.heap.size w w') : OwnR E w' B v l := own_row_keep h hb
theorem OwnR.mono {E : Elt α} {w : World} {B B' : Nat} {v : Value} {l : List α} (h : OwnR E w B v l) (hB : B' ≤ B) : OwnR E w B' v l := by
  refine ⟨h.1, ?_⟩
  rcases h.2 with h0 | ⟨g, cap, cur, hv, hg, rest⟩
  · exact .inl h0
  · exact .inr ⟨g, cap, cur, hv, Nat.le_trans hB hg, rest⟩
theorem OwnR.drew {E : Elt α} {w : World} {B : Nat} {v : Value} {l : List α} (h : OwnR E w B v l) : OwnR E w.drew B v l := h
/-- What a slice of one's own looks like. -/
theorem OwnR.form {E : Elt α} {w : World} {B : Nat} {v : Value} {l : List α} (h : OwnR E w B v l) : ∃ q c, v = .slice q l.length c ∧ l.length ≤ c ∧ At E w q l ∧ (q = none → l = [] ∧ c = 0) ∧ (∀ b off i, q = some ⟨b, off, i⟩ → B ≤ b) := by
  obtain ⟨h1, ⟨e, h0⟩ | ⟨g, cap, cur, rfl, hB, hg, hc, hm, hs, ht⟩⟩ := h
  · have hl := List.eq_nil_of_length_eq_zero h0
    subst hl
    exact ⟨none, 0, e, Nat.le_refl _, fun h => absurd rfl h, fun _ => ⟨rfl, rfl⟩, fun b off i h => by cases h⟩
  · refine ⟨some ⟨g, 0, none⟩, cap, rfl, hc, fun _ => ⟨g, 0, rfl, (Array.getElem?_eq_some_iff.1 hg).1, fun i x j u hx hu => ?_⟩, fun h => (by cases h), fun b off i h => (by injection h with h; injection h with h _ _; omega)⟩
    have hj := E.row_get l i x j u hx hu
    rw [← ht, List.getElem?_take] at hj
    split at hj
    · rw [Nat.zero_add]
      exact Blk.cell (w := w) (b := g) (t := E.T) (cs := cur.toList) hg hj
    · cases hj
theorem OwnR.same {E : Elt α} {w w' : World} {B : Nat} {v : Value} {l : List α} (h : OwnR E w B v l) (hs : ∀ g t cs, v.ownBlock = some g → Blk w g t cs → Blk w' g t cs) : OwnR E w' B v l := by
  refine ⟨h.1, ?_⟩
  rcases h.2 with h0 | ⟨g, cap, cur, hv, hg, hh, rest⟩
  · exact .inl h0
  · have := hs g E.T cur.toList (by rw [hv]; rfl) (by unfold Blk; rw [hh])
    unfold Blk at this
    exact .inr ⟨g, cap, cur, hv, hg, by simpa using this, rest⟩
theorem OwnR.only {E : Elt α} {w w' : World} {B b : Nat} {v : Value} {l : List α} (h : OwnR E w B v l) (hO : Only b w w') (hne : v.ownBlock ≠ some b) : OwnR E w' B v l :=
  h.same fun g t cs hg hk => hO.2.1 g t cs (fun e => hne (by rw [hg, e])) hk
theorem OwnR.blk_lt {E : Elt α} {w : World} {B : Nat} {v : Value} {l : List α} (h : OwnR E w B v l) {b : Nat} (hb : w.heap.size ≤ b) : v.ownBlock ≠ some b := fun e => by
  have := (World.ownsRow.lt h b e).2
  omega
theorem OwnR.blk_ge {E : Elt α} {w : World} {B : Nat} {v : Value} {l : List α} (h : OwnR E w B v l) {b : Nat} (hb : b < B) : v.ownBlock ≠ some b := fun e => by
  have := (World.ownsRow.lt h b e).1
  omega
/-- What else lies there stays as it is. -/
def Rest (v : Value) (w w' : World) : Prop := ∀ b t cs, v.ownBlock ≠ some b → Blk w b t cs → Blk w' b t cs
/-- append of one element, which lies in a block made for it. -/
theorem push_wp (E : Elt α) {w : World} {B : Nat} {o : Oper} {a : Act} {K : Act → World → Prop} {Q : Exit → Act → World → Prop} (s x : Operand)
    (ho : o.op = .call { callee := .builtin .append, args := #[s, x], argTypes := #[E.ST, E.ST] })
    (l : List α) (y : α) (v : Value) (hs : a.eval s = v) (hown : OwnR E w B v l) (hB : B ≤ w.heap.size)
    (c : Nat) (hx : a.eval x = .slice (some ⟨w.heap.size, 0, none⟩) 1 c) (C : Array Value) (hC : C = (E.enc y).toArray) (hl : l.length ≤ 1000000000000)
    (h : ∀ v' w', OwnR E w' B v' (l ++ [y]) → Below B w w' → Rest v w w' → K (a.put o.dst v') w') :
    o.wp Try.prog a (w.alloc (.cells C E.T)) K Q := by
  subst hC
  obtain ⟨i0, hi, hz0, hz1, hz2⟩ := info_parts E.info
  have hbb := E.bb
  refine wp_append_own _ s x E.ST ho B E.T i0 E.zero E.k E.bytes E.und hi hz0 hz1 hz2 E.zs E.kpos v l.length (E.row l) hs (World.ownsRow.alloc hown _) ⟨w.heap.size, 0, none⟩ 1 c (E.enc y) hx (by rw [E.len, Nat.one_mul]) ?c1 (E.one y) ?c3 ?c4 ?c5 ?_
  case c1 => intro j u hj; rw [Addr.add_mid, Nat.zero_add]; exact (blk_new w E.T (E.enc y).toArray).cell (by simpa using hj)
  case c3 => unfold maxLen; omega
  case c4 => exact Nat.le_trans (Nat.mul_le_mul (show l.length + 1 ≤ 1099511627776 by omega) hbb) (by decide)
  case c5 => simp; omega
  intro v' w' hown' hgrow hne
  refine h v' w' ?_ (((Below.refl _ w).alloc (Nat.le_refl _) _ |>.mono hB).grown hgrow (by simp; omega) (fun j hj => (World.ownsRow.lt hown j hj).1)) (fun b t cs hne hk => ?_)
  · unfold OwnR
    rw [E.row_append, E.row_one, List.length_append]
    exact hown'
  · have hk2 := hk.alloc (.cells (E.enc y).toArray E.T)
    unfold Blk at *
    rw [hgrow.block b (Array.getElem?_eq_some_iff.1 hk2).1 (fun e => hne e.symm)]
    exact hk2
theorem push_el (E : Elt α) {w : World} {B : Nat} {ops : Array Oper} {rest : List Oper} {o : Oper} {a : Act} {Q : Exit → Act → World → Prop} (hgd : o.guard = none) (s x : Operand)
    (ho : o.op = .call { callee := .builtin .append, args := #[s, x], argTypes := #[E.ST, E.ST] })
    (l : List α) (y : α) (v : Value) (hs : a.eval s = v) (hown : OwnR E w B v l) (hB : B ≤ w.heap.size)
    (c : Nat) (hx : a.eval x = .slice (some ⟨w.heap.size, 0, none⟩) 1 c) (C : Array Value) (hC : C = (E.enc y).toArray) (hl : l.length ≤ 1000000000000)
    (h : ∀ v' w', OwnR E w' B v' (l ++ [y]) → Below B w w' → Rest v w w' → wpList Try.prog ops Q rest (a.put o.dst v') w') :
    wpList Try.prog ops Q (o :: rest) a (w.alloc (.cells C E.T)) :=
  wpList_plain hgd fun _ hK => push_wp E s x ho l y v hs hown hB c hx C hC hl fun v' w' h2 h3 h4 => hK _ _ (h v' w' h2 h3 h4)
set_option maxRecDepth 100000 in
/-- append of a slice (not nil). -/
theorem app_wp (E : Elt α) {w : World} {B : Nat} {o : Oper} {a : Act} {K : Act → World → Prop} {Q : Exit → Act → World → Prop} (s x : Operand)
    (ho : o.op = .call { callee := .builtin .append, args := #[s, x], argTypes := #[E.ST, E.ST] })
    (l m : List α) (v : Value) (hs : a.eval s = v) (hown : OwnR E w B v l) (hB : B ≤ w.heap.size)
    (ad : Addr) (n c : Nat) (hx : a.eval x = .slice (some ad) n c) (hn : m.length = n) (hm : At E w (some ad) m) (hl : l.length ≤ 500000000000) (hl2 : n ≤ 500000000000)
    (h : ∀ v' w', OwnR E w' B v' (l ++ m) → Below B w w' → Rest v w w' → K (a.put o.dst v') w') :
    o.wp Try.prog a w K Q := by
  subst hn
  obtain ⟨i0, hi, hz0, hz1, hz2⟩ := info_parts E.info
  have hbb := E.bb
  refine wp_append_own _ s x E.ST ho B E.T i0 E.zero E.k E.bytes E.und hi hz0 hz1 hz2 E.zs E.kpos v l.length (E.row l) hs hown ad m.length c (E.row m) hx (E.row_length m) (fun j u hj => ?_) E.row_mem ?c3 ?c4 hB ?_
  · obtain ⟨i, t, y, hy, hu, e, _⟩ := E.row_at m j u hj
    obtain ⟨b, off, e2, hL⟩ := hm.get (List.getElem?_eq_some_iff.1 hy).1
    injection e2 with e2
    subst e2
    rw [Addr.add_mid, e, ← Nat.add_assoc]
    exact hL.2 i y t u hy hu
  case c3 => unfold maxLen; omega
  case c4 => exact Nat.le_trans (Nat.mul_le_mul (show l.length + m.length ≤ 1099511627776 by omega) hbb) (by decide)
  intro v' w' hown' hgrow hne
  refine h v' w' ?_ ((Below.refl B w).grown hgrow hB (fun j hj => (World.ownsRow.lt hown j hj).1)) (fun b t cs hne hk => ?_)
  · unfold OwnR
    rw [E.row_append, List.length_append]
    exact hown'
  · unfold Blk at *
    rw [hgrow.block b (Array.getElem?_eq_some_iff.1 hk).1 (fun e => hne e.symm)]
    exact hk

/-- One element's cell is written: the row with the element changed. -/
theorem OwnR.put {α : Type} {E : Elt α} {w : World} {B : Nat} {l : List α} {q : Option Addr} {n c : Nat} (h : OwnR E w B (.slice q n c) l) {i j : Nat} {x y : α} {u : Value} (hx : l[i]? = some x) (hy : E.enc y = (E.enc x).set j u) (hj : j < E.k) :
    ∃ g, q = some ⟨g, 0, none⟩ ∧ B ≤ g ∧ (w.cell? ⟨g, i * E.k + j, none⟩).isSome = true ∧ w.frozen? ⟨g, i * E.k + j, none⟩ = false ∧ OwnR E (w.setCell ⟨g, i * E.k + j, none⟩ u) B (.slice q n c) (l.set i y) := by
  obtain ⟨h1, ⟨e, h0⟩ | ⟨g, cap, cur, e, hB, hg, hc, hm, hs, ht⟩⟩ := h
  · have hl := List.eq_nil_of_length_eq_zero h0
    subst hl
    simp at hx
  · injection e with e1 e2 e3
    subst e1 e2 e3
    have hi := (List.getElem?_eq_some_iff.1 hx).1
    have hpos : i * E.k + j < l.length * E.k := by
      have : (i + 1) * E.k ≤ l.length * E.k := Nat.mul_le_mul_right _ hi
      rw [Nat.add_mul, Nat.one_mul] at this
      omega
    have hcur : i * E.k + j < cur.size := by
      have : l.length * E.k ≤ c * E.k := Nat.mul_le_mul_right _ hc
      rw [hs]
      omega
    refine ⟨g, rfl, hB, ?_, ?_, ?_⟩
    · rw [cell_of_row w g _ _ _ _ hg, Array.getElem?_eq_getElem hcur]
      rfl
    · exact frozen_of_row w g _ _ _ hg
    · refine ⟨by rw [E.row_length, List.length_set], .inr ⟨g, c, cur.setIfInBounds (i * E.k + j) u, by rw [List.length_set], hB, heap_setCell_same w g _ _ _ _ hg, by rw [List.length_set]; exact hc, hm, by rw [Array.size_setIfInBounds]; exact hs, ?_⟩⟩
      rw [List.length_set, Array.toList_setIfInBounds, List.take_set, ht]
      apply List.ext_getElem?
      intro m
      rw [List.getElem?_set]
      have hrl := E.row_length l
      split
      · rename_i e
        subst e
        rw [if_pos (by rw [hrl]; exact hpos)]
        symm
        apply E.row_get (l.set i y) i y j u
        · rw [List.getElem?_set_self hi]
        · rw [hy, List.getElem?_set_self (by rw [E.len]; exact hj)]
      · rename_i e
        rcases hm2 : (E.row l)[m]? with _ | v
        · symm
          rw [List.getElem?_eq_none_iff] at hm2 ⊢
          rw [E.row_length, List.length_set, ← hrl]
          exact hm2
        · obtain ⟨i2, j2, z, hz, hu, em, hj2⟩ := E.row_at l m v hm2
          symm
          rw [em]
          by_cases hi2 : i2 = i
          · subst hi2
            rw [hx] at hz
            injection hz with hz
            subst hz
            apply E.row_get (l.set i2 y) i2 y j2 v
            · rw [List.getElem?_set_self hi]
            · rw [hy, List.getElem?_set_ne (by intro e2; subst e2; exact e em.symm)]
              exact hu
          · apply E.row_get (l.set i y) i2 z j2 v
            · rw [List.getElem?_set_ne (Ne.symm hi2)]
              exact hz
            · exact hu

end Go.Proofs.Ytjpiidfoegaenaa
