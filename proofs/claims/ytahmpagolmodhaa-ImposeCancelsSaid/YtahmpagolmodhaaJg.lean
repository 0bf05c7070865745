/-
  Fold of the program.
-/
import Derived.Test.YtahmpagolmodhaaJf
import Derived.Test.YtahmpagolmodhaaIf
namespace Go.Proofs.Ytahmpagolmodhaa
open Go.RowKit Go.Shelf
set_option linter.unusedVariables false
set_option linter.unusedSimpArgs false
attribute [local go_sem] Oper.semAt_some

section
variable {α : Type}
theorem own_cells {E : Elt α} {w : World} {B : Nat} {v : Value} {l : List α} (h : OwnR E w B v l) {g : Nat} (hg : v.ownBlock = some g) : B ≤ g ∧ g < w.heap.size ∧ ∀ o, w.heap[g]? = some o → o.isCells = true := by
  obtain ⟨h1, ⟨e, h0⟩ | ⟨g', cap, cur, rfl, hB, hh, rest⟩⟩ := h
  · subst e; cases hg
  · cases hg
    exact ⟨hB, (Array.getElem?_eq_some_iff.1 hh).1, fun o ho => by rw [hh] at ho; cases ho; rfl⟩
theorem blk_grown {w w' : World} {b : Nat} {t : TypeId} {cs : List Value} {row : Option Nat} (h : Blk w b t cs) (hg : w.grownBy w' row) (hr : ∀ r, row = some r → ∃ o : Obj, w.heap[r]? = some o ∧ o.isCells = false) : Blk w' b t cs := by
  unfold Blk at *
  rw [hg.block b (Array.getElem?_eq_some_iff.1 h).1 (fun e => by obtain ⟨o, ho, hc⟩ := hr b e.symm; rw [h] at ho; cases ho; cases hc)]
  exact h
theorem own_grown {E : Elt α} {w w' : World} {B : Nat} {v : Value} {l : List α} {row : Option Nat} (h : OwnR E w B v l) (hg : w.grownBy w' row) (hr : ∀ r, row = some r → ∃ o : Obj, w.heap[r]? = some o ∧ o.isCells = false) : OwnR E w' B v l :=
  h.same fun g t cs _ hk => blk_grown hk hg hr
/-- append of one element, inside a fence. -/
theorem push_in (E : Elt α) {F : Fence} {n : Nat} {w : World} {B : Nat} {ops : Array Oper} {rest : List Oper} {o : Oper} {a : Act} {Q : Exit → Act → World → Prop} (hgd : o.guard = none) (s x : Operand)
    (ho : o.op = .call { callee := .builtin .append, args := #[s, x], argTypes := #[E.ST, E.ST] })
    (l : List α) (y : α) (v : Value) (hs : a.eval s = v) (hown : OwnR E w B v l) (hB : B ≤ w.heap.size)
    (c : Nat) (hx : a.eval x = .slice (some ⟨w.heap.size, 0, none⟩) 1 c) (C : Array Value) (hC : C = (E.enc y).toArray) (hl : l.length ≤ 1000000000000)
    (h : ∀ v' w', OwnR E w' B v' (l ++ [y]) → w.grownBy w' v.ownBlock → wpListIn F n Try.prog ops Q rest (a.put o.dst v') w') :
    wpListIn F n Try.prog ops Q (o :: rest) a (w.alloc (.cells C E.T)) := by
  subst hC
  obtain ⟨i0, hi, hz0, hz1, hz2⟩ := info_parts E.info
  have hbb := E.bb
  refine wpListIn_append_own _ hgd s x E.ST ho B E.T i0 E.zero E.k E.bytes E.und hi hz0 hz1 hz2 E.zs E.kpos v l.length (E.row l) hs (World.ownsRow.alloc hown _) ⟨w.heap.size, 0, none⟩ 1 c (E.enc y) hx (by rw [E.len, Nat.one_mul]) ?c1 (E.one y) ?c3 ?c4 ?c5 ?_
  case c1 => intro j u hj; rw [Addr.add_mid, Nat.zero_add]; exact (blk_new w E.T (E.enc y).toArray).cell (by simpa using hj)
  case c3 => unfold maxLen; omega
  case c4 => exact Nat.le_trans (Nat.mul_le_mul (show l.length + 1 ≤ 1099511627776 by omega) hbb) (by decide)
  case c5 => simp; omega
  intro v' w' hown' hgrow hne
  refine h v' w' ?_ ⟨hgrow.os, hgrow.tape, hgrow.output, by have := hgrow.size; rw [World.size_alloc] at this; omega, fun k hk hkr => ?_⟩
  · unfold OwnR
    rw [E.row_append, E.row_one, List.length_append]
    exact hown'
  · rw [hgrow.block k (by rw [World.size_alloc]; omega) hkr]
    exact Below.heap_alloc _ _ _ hk
theorem kf_below {B : Nat} {W W' : World} (h : Below W.heap.size W W') : KeepsFrom B W W' := ⟨h.size, fun k o _ hk _ => (h.block k (Array.getElem?_eq_some_iff.1 hk).1).trans hk⟩
/-- A round that appends to its list and stores the new slice in the list's variable b. -/
theorem round_step {E : Elt α} {F : Fence} {v v6 : Value} {l : List α} {y : α} {W W6 : World} {b B B3 M : Nat} {t : TypeId} {w : World} (k1 : Blk W b t [v]) (k2 : OwnR E W (b + 4) v l) (k3 : Below b w W) (k4 : B3 ≤ W.heap.size) (hM : b + 4 ≤ B3)
    (hO6 : OwnR E W6 (b + 4) v6 (l ++ [y])) (hG6 : W.grownBy W6 v.ownBlock) :
    Blk W6 b t [v] ∧ KeepsFrom B3 W (W6.setCell ⟨b, 0, none⟩ v6) ∧ Kept (b + 1) W (W6.setCell ⟨b, 0, none⟩ v6) ∧ Blk (W6.setCell ⟨b, 0, none⟩ v6) b t [v6] ∧ OwnR E (W6.setCell ⟨b, 0, none⟩ v6) (b + 4) v6 (l ++ [y]) ∧ Below b w (W6.setCell ⟨b, 0, none⟩ v6) ∧ B3 ≤ (W6.setCell ⟨b, 0, none⟩ v6).heap.size := by
  have hb : Blk W6 b t [v] := by
    unfold Blk at *
    rw [hG6.block b (Array.getElem?_eq_some_iff.1 k1).1 (fun e => by have := (own_cells k2 e.symm).1; omega)]
    exact k1
  have hz : (W6.setCell ⟨b, 0, none⟩ v6).heap.size = W6.heap.size := by simp [World.setCell]
  refine ⟨hb, ((KeepsOthers.of_grownBy hG6 (fun j o e ho => (own_cells k2 e).2.2 o ho)).from _).trans ((KeepsOthers.setCell _ _ _).from _), ⟨by rw [hz]; exact hG6.size, fun k h1 h2 => ?_⟩, hb.set 0 v6, hO6.same (fun g t' cs hg hk => hk.other (by show g ≠ b; have := (own_cells hO6 hg).1; omega) v6), (k3.grown hG6 (Nat.le_trans (by omega) k4) (fun j e => by have := (own_cells k2 e).1; omega)).setCell (Nat.le_refl _) _, by rw [hz]; exact Nat.le_trans k4 hG6.size⟩
  rw [Below.heap_setCell _ _ _ _ (by show k ≠ b; omega)]
  exact hG6.block k (by omega) (fun e => by have := (own_cells k2 e.symm).1; omega)
end

set_option maxHeartbeats 2000000 in
set_option maxRecDepth 100000 in
theorem fold_bad (p l : Int) (hv : volE p l ≠ 0) (w : World) : Calls Try.prog 12 #[.int .i64 p, .int .i64 l] w (LstR shE [] (volE p l) w) := by
  have C := Lib.hid (check_any p l)
  generalize volE p l = v at *
  go_enter Try.func12, Try.ntmps12
  go_wp2_with (first | (go_at_call 37; refine (C.out _).mono ?_; rintro _ w2 ⟨rfl, rfl⟩))
  go_ret2
  exact ⟨_, rfl, OwnR.nil _ _ _, Below.refl _ _⟩
set_option maxHeartbeats 4000000 in
set_option maxRecDepth 100000 in
theorem fold_any (p h : Nat) (hp : p ≤ 999) (h1 : 1 ≤ h) (h8 : h ≤ 8) (w : World) : Calls Try.prog 12 #[.int .i64 (p : Int), .int .i64 ((2 * h : Nat) : Int)] w (LstR shE (foldM p h) 0 w) := by
  have hv : volE (p : Int) ((2 * h : Nat) : Int) = 0 := by unfold volE; rw [if_neg (by omega), if_neg (by omega)]
  have C := Lib.hid (check_any (p : Int) ((2 * h : Nat) : Int))
  rw [hv] at C
  have S := Lib.hid (fun V => sheets_in Fence.wide 4 trivial rfl p h V)
  have fc : Fence.wide.fn 37 := trivial
  have fs : Fence.wide.fn 40 := trivial
  obtain ⟨L, hL⟩ : ∃ L, 2 * h = L := ⟨_, rfl⟩
  rw [hL] at C S ⊢
  clear hv hL
  refine (callsIn_wide (n := 5)).1 ?_
  refine callsIn_of_wp_marks Try.func12 rfl trivial ?_ rfl
  simp only [Try.ntmps12, List.size_toArray, List.length_cons, List.length_nil, Nat.reduceAdd, Nat.reduceSub, Array.replicate_succ, Array.replicate_zero, List.push_toArray, List.append_toArray, List.nil_append, List.cons_append]
  gi_wp2_with (first | (gi_at_call 37; refine CallsIn.mono (callsIn_wide.2 (C.out _)) ?_; rintro _ w2 ⟨rfl, rfl⟩) | (gi_at_call 40; refine (S.out _).mono ?_; rintro _ w3 ⟨rfl, hB3, hX3⟩))
  have b7 := blk_new w 22 #[.slice none 0 0]
  have b7 := b7.keep hB3
  rw [World.size_alloc] at hB3 hX3
  have hB0 : Below w.heap.size w w3 := ((Below.refl _ w).alloc (Nat.le_refl _) _).trans (hB3.mono (by omega))
  have hs3 := hX3.1
  refine wpIn_rangeFunc_ownH rfl (by omega) (gf := 46) (lb := itF (w.heap.size + 1)) rfl trivial (enters_of Try.func46 (by kernel_rfl) rfl)
    (iter_stops 4 (by omega) (w.heap.size + 1) p h hp h1 h8 w3 hX3) kept_t (kept_b hs3) (Below.refl _ _) (fun _ => rfl)
    (fun pre W => ∃ v, Blk W w.heap.size 22 [v] ∧ OwnR shE W (w.heap.size + 4) v (pre.map (·.1)) ∧ Below w.heap.size w W ∧ w3.heap.size ≤ W.heap.size)
    (fun _ _ _ => False)
    (fun pre W W' row hs hg hr => by
      obtain ⟨v, k1, k2, k3, k4⟩ := hs
      exact ⟨v, blk_grown k1 hg (fun r e => (hr r e).2), own_grown k2 hg (fun r e => (hr r e).2), k3.grown hg k3.size (fun r e => Nat.le_trans hB0.size (hr r e).1), Nat.le_trans k4 hg.size⟩)
    (fun _ _ _ _ _ hs _ _ => hs)
    ⟨_, b7, OwnR.nil _ _ _, hB0, Nat.le_refl _⟩
    (fun x a' W => ∃ b8, a' = { tmps := #[.int .i64 (p : Int), .int .i64 (L : Int), undef, undef, .slice none 0 0, .int .i64 0, .int .i64 0, .pointer (some ⟨w.heap.size, 0, none⟩), .pointer (some ⟨b8, 0, none⟩), .int .i64 (p : Int), .int .i64 (L : Int), .int .i64 0, .int .i64 0, .bool false, undef, .int .i64 (p : Int), .int .i64 (L : Int), .func (.func 46) #[] (itF (w.heap.size + 1)), .agg #[.int .i64 x.1.q, .int .i64 x.1.fa, .int .i64 x.1.fb, .int .i64 x.1.ba, .int .i64 x.1.bb], .agg #[.int .i64 x.2.1, .int .i64 x.2.2], undef, undef, undef, undef, undef], defers := [] } ∧ Blk W b8 64 (shV x.1) ∧ w3.heap.size ≤ b8)
    (fun x a' _ W W' row hs hg hr => by
      obtain ⟨b8, e, k1, k2⟩ := hs
      exact ⟨b8, e, blk_grown k1 hg (fun r e => (hr r e).2), k2⟩)
    ?assign ?body ?done ?stop
  case assign =>
    intro l pre x W K hI hK
    unfold itV
    have N := blk_new W 64 #[.int .i64 0, .int .i64 0, .int .i64 0, .int .i64 0, .int .i64 0]
    have X := new_struct W #[.int .i64 0, .int .i64 0, .int .i64 0, .int .i64 0, .int .i64 0] 64 (shV x.1) rfl
    gi_wp2_with (refine wpListIn_store_mid rfl 64 (.tmp 8) (.tmp 18) rfl W.heap.size 0 (shV x.1).toArray rfl rfl (by simpa [shV] using N.there 0 5 (by simp)) (by kernel_rfl) (all_oneCell_toArray (shE.one x.1)) ?_)
    generalize ((W.alloc (.cells #[.int .i64 0, .int .i64 0, .int .i64 0, .int .i64 0, .int .i64 0] 64)).setCells W.heap.size 0 (shV x.1)) = W2 at X ⊢
    obtain ⟨v, k1, k2, k3, k4⟩ := hI
    exact hK _ _ (kf_below X.1) (Kept.of X.1 (by omega)) ⟨v, k1.keep X.1, k2.keep X.1, k3.trans (X.1.mono k3.size), Nat.le_trans k4 X.1.size⟩ ⟨_, rfl, X.2, k4⟩
  case body =>
    rintro l pre x a' W hl hr ⟨v, k1, k2, k3, k4⟩ ⟨b8, rfl, k8, hb8⟩ hlen
    have hr8 : W.rangeAt b8 0 [.int .i64 x.1.q, .int .i64 x.1.fa, .int .i64 x.1.fb, .int .i64 x.1.ba, .int .i64 x.1.bb] := k8.range 0 5
    have c7 := k1.cell (j := 0) rfl
    have hle : (pre.map (·.1)).length ≤ 1000000000000 := by rw [List.length_map]; have := qnT_leaves p h hp h1 h8; have : qnT p h * (2 * h) = 2 * (qnT p h * h) := Nat.mul_left_comm _ _ _; omega
    have RS := Lib.hid (fun v6 W6 (hO6 : OwnR shE W6 (w.heap.size + 4) v6 (pre.map (·.1) ++ [x.1])) hG6 => round_step (F := Fence.wide) (B := 0) (M := 0) k1 k2 k3 k4 (by omega) hO6 hG6)
    gi_wp2_with (first
      | (refine wpListIn_load_mid rfl 64 (.tmp 8) rfl b8 0 rfl _ _ hr8 rfl rfl rfl ?_)
      | (gi_at_builtin; refine push_in shE rfl (.tmp 20) (.tmp 22) rfl (pre.map (·.1)) x.1 _ rfl k2 (by omega) _ rfl _ rfl hle ?_; intro v6 W6 hO6 hG6; obtain ⟨q6, n6, e6, _⟩ := hO6.form; obtain ⟨m6, hm6⟩ : ∃ m, (pre.map (·.1) ++ [x.1]).length = m := ⟨_, rfl⟩; rw [hm6] at e6; clear hm6; subst e6; obtain ⟨r1, r2, r3, r4, r5, r6, r7⟩ := RS.out _ W6 hO6 hG6; have c6 := r1.cell (j := 0) rfl; have f6 := r1.free 0))
    exact ⟨r2, r3, _, r4, by rw [List.map_append]; exact r5, r6, r7⟩
  case done =>
    rintro D ys W hD rfl ⟨v, k1, k2, k3, k4⟩ hK
    obtain ⟨q6, n6, e6, _⟩ := k2.form
    have c7 := k1.cell (j := 0) rfl
    obtain ⟨m6, hm6⟩ : ∃ m, ((itU p h (qnT p h * h)).map (·.1)).length = m := ⟨_, rfl⟩
    rw [hm6] at e6
    clear hm6
    subst e6
    gi_wp2
    have hB9 := belowK_b (n₀ := w.heap.size) (w := w3) hB0.size W D (.deferred (some [])) (.deferred none) hD hK rfl rfl
    have hg9 := grownBy_putObj' W D (.deferred none)
    refine ⟨by simp, .inl ⟨_, _, rfl, run_takeDeferred hK, ?_⟩⟩
    have hf : foldM p h = (itU p h (qnT p h * h)).map (·.1) := by unfold foldM itU; rw [List.map_map]; rfl
    exact ⟨.tuple #[.slice q6 m6 n6, .int .i64 0], by simp [results, Try.f12, go_sem], _, rfl, by rw [hf]; exact (own_grown k2 hg9 (fun r e => by cases e; exact ⟨_, hK, rfl⟩)).mono (by omega), k3.trans hB9⟩
  case stop =>
    rintro D c pre W _ _ h _
    exact h.elim
end Go.Proofs.Ytahmpagolmodhaa
