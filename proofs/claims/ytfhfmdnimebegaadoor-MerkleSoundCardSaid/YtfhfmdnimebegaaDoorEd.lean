/-
  Slices of one's own beside each other; one cell changed. Conditions: as each theorem states them; no axiom beyond propext, Classical.choice, Quot.sound.
-/
import Derived.Test.YtfhfmdnimebegaaDoorEc
import Derived.Test.YtfhfmdnimebegaaDoorE8
import Derived.Test.YtfhfmdnimebegaaDoorE5
import Derived.Test.YtfhfmdnimebegaaDoorE6
import Derived.Test.YtfhfmdnimebegaaDoorE9
import Derived.Test.YtfhfmdnimebegaaDoorE7
import Derived.Test.YtfhfmdnimebegaaDoorEa

/-
  Slices of one's own beside each other: what an append onto a fresh slice leaves as it was.
-/
namespace Go.Proofs.YtfhfmdnimebegaaDoor
open Go.RowKit
set_option linter.unusedVariables false
set_option linter.unusedSimpArgs false

/-- All blocks of other types than T are as they were. -/
def Oth (T : TypeId) (w w' : World) : Prop := w.heap.size ≤ w'.heap.size ∧ ∀ (b : Nat) (cur : Array Value) (t : TypeId) (p : Nat × Nat), t ≠ T → w.heap[b]? = some (.cells cur t p) → w'.heap[b]? = some (.cells cur t p)
theorem Oth.refl (T : TypeId) (w : World) : Oth T w w := ⟨Nat.le_refl _, fun _ _ _ _ _ h => h⟩
theorem Oth.blk {T : TypeId} {w w' : World} (h : Oth T w w') {b : Nat} {t : TypeId} {cs : List Value} (hk : Blk w b t cs) (ht : t ≠ T) : Blk w' b t cs := h.2 _ _ _ _ ht hk
theorem Oth.row {T : TypeId} {w w' : World} (h : Oth T w w') {B : Nat} {e : TypeId} {sz n : Nat} {v : Value} {xs : List Value} (ho : w.ownsRow B e sz v n xs) (ht : e ≠ T) : w'.ownsRow B e sz v n xs := by
  refine ⟨ho.1, ?_⟩
  rcases ho.2 with e0 | ⟨g, cap, cur, hv, hg, hh, rest⟩
  · exact .inl e0
  · exact .inr ⟨g, cap, cur, hv, hg, h.2 _ _ _ _ ht hh, rest⟩
theorem Oth.alloc (T : TypeId) (w : World) (o : Obj) : Oth T w (w.alloc o) := by
  refine ⟨by simp, fun b cur t p _ h => ?_⟩
  have hb := (Array.getElem?_eq_some_iff.1 h).1
  rw [((Below.refl w.heap.size w).alloc (Nat.le_refl _) o).block b hb]
  exact h
theorem Oth.grown {T : TypeId} {w w' : World} {g : Nat} {cur0 : Array Value} {p0 : Nat × Nat} (hh : w.heap[g]? = some (.cells cur0 T p0)) (hg : w.grownBy w' (some g)) : Oth T w w' := by
  refine ⟨hg.size, fun b cur t p ht h => ?_⟩
  have hb := (Array.getElem?_eq_some_iff.1 h).1
  rw [hg.block b hb (fun e => ?_)]
  · exact h
  · injection e with e
    subst e
    rw [h] at hh
    injection hh with hh
    injection hh with _ ht2 _
    exact ht ht2
theorem Oth.setCells {T : TypeId} {w : World} {b : Nat} {cs : List Value} (hk : Blk w b T cs) (o : Nat) (vs : List Value) : Oth T w (w.setCells b o vs) := by
  refine ⟨by rw [sets_size]; exact Nat.le_refl _, fun b' cur t p ht h => ?_⟩
  rw [heap_sets b vs w o b' (fun e => ?_)]
  · exact h
  · subst e
    unfold Blk at hk
    rw [h] at hk
    injection hk with hk
    injection hk with _ ht2 _
    exact ht ht2

set_option maxRecDepth 100000 in
theorem app_leaves {w : World} {o : Oper} {a : Act} {K : Act → World → Prop} {Q : Exit → Act → World → Prop} (s x : Operand)
    (ho : o.op = .call { callee := .builtin .append, args := #[s, x], argTypes := #[24, 24] })
    (B g : Nat) (hs : a.eval s = .slice (some ⟨g, 0, none⟩) 0 0) (hg : w.heap[g]? = some (.cells #[] 75 (0, 0))) (hBg : B ≤ g)
    (lf : List Lf) (q : Option Addr) (n c : Nat) (hx : a.eval x = .slice q n c) (hl : lf.length = n) (hn : n ≤ 1000000) (hq : q = none → c = 0) (hL : OwnL w q lf)
    (h : ∀ v' w', OwnRL w' B v' lf → Oth 75 w w' → Below B w w' → K (a.put o.dst v') w') : o.wp Tryd.prog a w K Q := by
  obtain ⟨i0, hi, hz0, hz1, hz2⟩ := info_parts RLinfo
  have hgs := (Array.getElem?_eq_some_iff.1 hg).1
  have hown : w.ownsRow B 75 2 (.slice (some ⟨g, 0, none⟩) 0 0) 0 [] := ⟨rfl, .inr ⟨g, 0, #[], rfl, hBg, hg, Nat.le_refl _, Nat.zero_le _, rfl, rfl⟩⟩
  rcases q with _ | ad
  · obtain rfl := hq rfl
    obtain rfl : lf = [] := by
      rcases lf with _ | ⟨y, r⟩
      · rfl
      · obtain ⟨b, off, e, _⟩ := hL (by simp)
        cases e
    obtain rfl : n = 0 := hl.symm
    have hrun := run_append_owned_none (P := Tryd.prog) (w := w) B 24 o.type 75 i0 2 Tryd.underlying24 hi _ 0 [] hown
    unfold Oper.wp
    simp [execOp, ho, resolve, invoke, builtin, hs, hx, hrun, Result.andThen]
    exact h _ _ hown (Oth.refl _ _) (Below.refl _ _)
  · refine wp_append_own _ s x 24 ho B 75 i0 zeroLeaf 2 32 Tryd.underlying24 hi hz0 hz1 hz2 rfl (by decide) _ 0 [] hs hown ad n c (leavesV lf) hx (by rw [leavesV_length, hl]) (fun j u hj => ?_) (leavesV_one lf) (by unfold maxLen; omega) (by omega) (by omega) ?_
    · by_cases hne : lf = []
      · rw [hne] at hj; simp [leavesV] at hj
      · obtain ⟨b, off, e, hL2⟩ := hL hne
        injection e with e
        subst e
        exact lvs_src hL2 j u hj
    · intro v' w' hO hgr _
      rw [Nat.zero_add, List.nil_append, ← hl] at hO
      exact h v' w' hO (Oth.grown hg hgr) ((Below.refl B w).grown hgr (by omega) (fun j e => by have e : some g = some j := e; injection e with e; omega))
set_option maxRecDepth 100000 in
theorem app_dgts {w : World} {o : Oper} {a : Act} {K : Act → World → Prop} {Q : Exit → Act → World → Prop} (s x : Operand)
    (ho : o.op = .call { callee := .builtin .append, args := #[s, x], argTypes := #[48, 48] })
    (B g : Nat) (hs : a.eval s = .slice (some ⟨g, 0, none⟩) 0 0) (hg : w.heap[g]? = some (.cells #[] 29 (0, 0))) (hBg : B ≤ g)
    (sd : List (List Nat)) (hd : Dgts sd) (sa : Option Addr) (k sc M : Nat) (hx : a.eval x = .slice sa k sc) (hk : sd.length = k) (hkb : k ≤ 1000000) (hq : sa = none → sc = 0) (hL : SdV w M (.slice sa k sc) sd)
    (h : ∀ v' w', OwnD w' B v' sd → Oth 29 w w' → Below B w w' → K (a.put o.dst v') w') : o.wp Tryd.prog a w K Q := by
  obtain ⟨i0, hi, hz0, hz1, hz2⟩ := info_parts diginfo
  have hgs := (Array.getElem?_eq_some_iff.1 hg).1
  have hown : w.ownsRow B 29 16 (.slice (some ⟨g, 0, none⟩) 0 0) 0 [] := ⟨rfl, .inr ⟨g, 0, #[], rfl, hBg, hg, Nat.le_refl _, Nat.zero_le _, rfl, rfl⟩⟩
  obtain ⟨p0, c0, e0, hkc, hr0⟩ := hL
  injection e0 with e1 e2 e3
  subst e1 e3
  have hfl : (bytesV sd.flatten).length = k * 16 := by rw [bytesV_length, flatten_length sd hd, hk, Nat.mul_comm]
  rcases sa with _ | ad
  · obtain rfl := hq rfl
    obtain rfl : sd = [] := by
      rcases sd with _ | ⟨y, r⟩
      · rfl
      · obtain ⟨b, off, e, _⟩ := hr0 (by simp)
        cases e
    obtain rfl : k = 0 := hk.symm
    have hrun := run_append_owned_none (P := Tryd.prog) (w := w) B 48 o.type 29 i0 16 Tryd.underlying48 hi _ 0 [] hown
    unfold Oper.wp
    simp [execOp, ho, resolve, invoke, builtin, hs, hx, hrun, Result.andThen]
    exact h _ _ hown (Oth.refl _ _) (Below.refl _ _)
  · refine wp_append_own _ s x 48 ho B 29 i0 zeroDig 16 16 Tryd.underlying48 hi hz0 hz1 hz2 rfl (by decide) _ 0 [] hs hown ad k sc (bytesV sd.flatten) hx hfl (fun j u hj => ?_) (bytes_one _) (by unfold maxLen; omega) (by omega) (by omega) ?_
    · by_cases hne : sd = []
      · rw [hne] at hj; simp [bytesV] at hj
      · obtain ⟨b, off, e, _, _, hL2⟩ := hr0 hne
        injection e with e
        subst e
        rw [Addr.add_mid]
        exact hL2 j u hj
    · intro v' w' hO hgr _
      rw [Nat.zero_add, List.nil_append, ← hk] at hO
      exact h v' w' hO (Oth.grown hg hgr) ((Below.refl B w).grown hgr (by omega) (fun j e => by have e : some g = some j := e; injection e with e; omega))

end Go.Proofs.YtfhfmdnimebegaaDoor

/-
  A proof of the reference with any numbers; one cell of it changed.
-/
namespace Go.Proofs.YtfhfmdnimebegaaDoor
open Go.RowKit
set_option linter.unusedVariables false
set_option linter.unusedSimpArgs false

/-- A proof with any numbers, where it lies. -/
def PI (w : World) (F S : Int) (lf : List Lf) (sd : List (List Nat)) (v : Value) : Prop :=
  ∃ q c sa sc, v = .agg #[.int .i64 F, .int .i64 S, .slice q lf.length c, .slice sa sd.length sc] ∧ OwnL w q lf ∧ (q = none → c = 0) ∧ SdV w w.heap.size (.slice sa sd.length sc) sd ∧ (sa = none → sc = 0) ∧ lf.length ≤ c
theorem D_none {w : World} {B : Nat} {n c : Nat} {l : List (List Nat)} (h : OwnD w B (.slice none n c) l) : c = 0 := by
  rcases h.2 with ⟨e, _⟩ | ⟨g, cap, cur, e, _⟩
  · injection e with _ _ e3
  · injection e with e1 _ _
    cases e1
theorem PI.keep {w w' : World} {F S : Int} {lf : List Lf} {sd : List (List Nat)} {v : Value} (h : PI w F S lf sd v) (hB : Below w.heap.size w w') : PI w' F S lf sd v := by
  obtain ⟨q, c, sa, sc, e, h1, h2, h3, h4, h5⟩ := h
  exact ⟨q, c, sa, sc, e, h1.keep hB, h2, h3.self hB, h4, h5⟩
theorem RPrf.pi {w : World} {B F n : Nat} {lf : List Lf} {sd : List (List Nat)} {v : Value} (h : RPrf w B F n lf sd v) : PI w (F : Int) (n : Int) lf sd v := by
  obtain ⟨q, c, sv, rfl, h1, h2, h4⟩ := h
  obtain ⟨sa, sc, rfl, h5⟩ := h4.sdv
  refine ⟨q, c, sa, sc, rfl, fun hne => ?_, h2.2, h5, fun h => ?_, h2.1⟩
  · obtain ⟨b, off, hq, _, hL2⟩ := h1 hne
    exact ⟨b, off, hq, hL2⟩
  · subst h
    exact D_none h4
theorem PI.nil (w : World) : PI w 0 0 [] [] (.agg zeroPrf.toArray) :=
  ⟨none, 0, none, 0, rfl, fun h => absurd rfl h, fun _ => rfl, ⟨none, 0, rfl, Nat.le_refl _, fun h => absurd rfl h⟩, fun _ => rfl, Nat.le_refl _⟩
/-- No string of these leaves is longer than N. -/
def Sz (N : Nat) (lf : List Lf) : Prop := ∀ x ∈ lf, x.1.size ≤ N ∧ x.2.size ≤ N
theorem Sz.mono {N N' : Nat} {lf : List Lf} (h : Sz N lf) (hN : N ≤ N') : Sz N' lf := fun x hx => ⟨Nat.le_trans (h x hx).1 hN, Nat.le_trans (h x hx).2 hN⟩
/-- Some proof, not much longer than another. -/
def BentV (w : World) (N a b : Nat) (e : Ending) (w' : World) : Prop := ∃ v' F' S' lf' sd', e = .returned v' ∧ PI w' F' S' lf' sd' v' ∧ Sz N lf' ∧ lf'.length ≤ a ∧ sd'.length ≤ b ∧ Dgts sd' ∧ Below w.heap.size w w'
theorem bent_end {w V : World} {M : Nat} {F S : Int} {lf : List Lf} {sd : List (List Nat)} {p1 p2 : Option Addr} {n1 n2 c1 c2 : Nat} {N a b : Nat} (O1 : OwnRL V M (.slice p1 n1 c1) lf) (O2 : OwnD V M (.slice p2 n2 c2) sd) (hz : Sz N lf) (ha : lf.length ≤ a) (hb : sd.length ≤ b) (hd : Dgts sd) (hB : Below w.heap.size w V) :
    BentV w N a b (.returned (.agg #[.int .i64 F, .int .i64 S, .slice p1 n1 c1, .slice p2 n2 c2])) V := by
  obtain ⟨⟨q, c, e, hc, hL⟩, _, _⟩ := RL_lvs O1
  obtain ⟨sa, sc, e2, h5⟩ := O2.sdv
  injection e with e3 e4 e5
  injection e2 with e6 e7 e8
  subst e3 e4 e5 e6 e7 e8
  exact ⟨_, F, S, lf, sd, rfl, ⟨p1, c1, p2, c2, rfl, hL, fun h => RL_none (h ▸ O1), h5, fun h => D_none (h ▸ O2), hc⟩, hz, ha, hb, hd, hB⟩
theorem bent_end2 {w V : World} {M : Nat} {F S : Int} {lf : List Lf} {sd : List (List Nat)} {p1 p2 : Option Addr} {n1 n2 c1 c2 : Nat} {N a b : Nat} (O1 : V.ownsRow M 75 2 (.slice p1 n1 c1) n1 (leavesV lf)) (O2 : V.ownsRow M 29 16 (.slice p2 n2 c2) n2 (bytesV sd.flatten)) (l1 : lf.length = n1) (l2 : sd.length = n2) (hz : Sz N lf) (ha : n1 ≤ a) (hb : n2 ≤ b) (hd : Dgts sd) (hB : Below w.heap.size w V) :
    BentV w N a b (.returned (.agg #[.int .i64 F, .int .i64 S, .slice p1 n1 c1, .slice p2 n2 c2])) V := by
  subst l1 l2
  exact bent_end O1 O2 hz ha hb hd hB
theorem put1 {V : World} {tp j : Nat} {T : TypeId} {cs : List Value} (K : Blk V tp T cs) (u : Value) : Blk (V.setCell ⟨tp, j, none⟩ u) tp T (cs.set j u) ∧ Oth T V (V.setCell ⟨tp, j, none⟩ u) ∧ ∀ (B : Nat) (a : World), B ≤ tp → Below B a V → Below B a (V.setCell ⟨tp, j, none⟩ u) :=
  ⟨K.set j u, Oth.setCells K j [u], fun B a h hb => (only_sets tp j V [u]).2.2 _ _ h hb⟩
theorem leavesV_set : ∀ (lf : List Lf) (k : Nat) (x : Lf) (s t : ByteArray), lf[k]? = some x → leavesV (lf.set k (s, x.2)) = (leavesV lf).set (k * 2) (.string s) ∧ leavesV (lf.set k (x.1, t)) = (leavesV lf).set (k * 2 + 1) (.string t)
  | [], k, x, s, t, h => by simp at h
  | y :: r, 0, x, s, t, h => by
    obtain rfl : y = x := by simpa using h
    exact ⟨rfl, rfl⟩
  | y :: r, k + 1, x, s, t, h => by
    have ih := leavesV_set r k x s t (by simpa using h)
    have e1 : (k + 1) * 2 = k * 2 + 1 + 1 := by omega
    constructor
    · rw [List.set_cons_succ, e1]
      show .string y.1 :: .string y.2 :: leavesV (r.set k (s, x.2)) = _
      rw [ih.1]
      rfl
    · rw [List.set_cons_succ, e1]
      show .string y.1 :: .string y.2 :: leavesV (r.set k (x.1, t)) = _
      rw [ih.2]
      rfl
theorem row_put {V : World} {M g n cap sz : Nat} {e : TypeId} {xs : List Value} (h : V.ownsRow M e sz (.slice (some ⟨g, 0, none⟩) n cap) n xs) (j : Nat) (u : Value) :
    (V.setCell ⟨g, j, none⟩ u).ownsRow M e sz (.slice (some ⟨g, 0, none⟩) n cap) n (xs.set j u) ∧ Oth e V (V.setCell ⟨g, j, none⟩ u) ∧ (∀ (B : Nat) (a : World), B ≤ M → B ≤ V.heap.size → Below B a V → Below B a (V.setCell ⟨g, j, none⟩ u)) ∧ V.frozen? ⟨g, j, none⟩ = false := by
  obtain ⟨h1, h2⟩ := h.stored j u
  have hf := h.frozenAt j
  rcases h.2 with ⟨e0, _⟩ | ⟨g', cap', cur, e0, hM, hh, _⟩
  · injection e0 with e0; cases e0
  · injection e0 with e1 e2 e3
    injection e1 with e1
    injection e1 with e1
    subst e1
    exact ⟨h1, Oth.grown hh h2, fun B a hB hBs hb => hb.grown h2 hBs (fun k e => by injection e with e; omega), hf⟩
/-- The first elements of a slice of one's own are one's own. -/
theorem row_take {V : World} {M g n cap sz k : Nat} {e : TypeId} {xs : List Value} (h : V.ownsRow M e sz (.slice (some ⟨g, 0, none⟩) n cap) n xs) (hk : k ≤ n) : V.ownsRow M e sz (.slice (some ⟨g, 0, none⟩) k cap) k (xs.take (k * sz)) := by
  have hle : k * sz ≤ n * sz := Nat.mul_le_mul_right _ hk
  rcases h.2 with ⟨e0, _⟩ | ⟨g', cap', cur, e0, hM, hh, hc, hm, hs, ht⟩
  · injection e0 with e0; cases e0
  · injection e0 with e1 e2 e3
    injection e1 with e1
    injection e1 with e1
    subst e1 e3
    refine ⟨by rw [List.length_take, h.1]; omega, .inr ⟨g, cap, cur, rfl, hM, hh, by omega, hm, hs, ?_⟩⟩
    rw [← ht, List.take_take, Nat.min_eq_left hle]
theorem row_cell {V : World} {M g n cap sz : Nat} {e : TypeId} {xs : List Value} (h : V.ownsRow M e sz (.slice (some ⟨g, 0, none⟩) n cap) n xs) (j : Nat) (u : Value) (hj : xs[j]? = some u) : V.cell? ⟨g, j, none⟩ = some u := by
  rcases h.2 with ⟨e0, _⟩ | ⟨g', cap', cur, e0, hM, hh, hc, hm, hs, ht⟩
  · injection e0 with e0; cases e0
  · injection e0 with e1 e2 e3
    injection e1 with e1
    injection e1 with e1
    subst e1
    rw [← ht, List.getElem?_take] at hj
    split at hj
    · exact Blk.cell (w := V) (b := g) (t := e) (cs := cur.toList) hh hj
    · cases hj
theorem row_form {V : World} {M sz n : Nat} {e : TypeId} {v : Value} {xs : List Value} (h : V.ownsRow M e sz v n xs) : ∃ p cap, v = .slice p n cap := by
  rcases h.2 with ⟨rfl, rfl⟩ | ⟨g, cap, cur, rfl, _⟩
  · exact ⟨none, 0, rfl⟩
  · exact ⟨some ⟨g, 0, none⟩, cap, rfl⟩
theorem row_some {V : World} {M sz n c : Nat} {p : Option Addr} {e : TypeId} {xs : List Value} (h : V.ownsRow M e sz (.slice p n c) n xs) (h0 : 0 < n) : ∃ g, p = some ⟨g, 0, none⟩ ∧ M ≤ g ∧ g < V.heap.size ∧ n ≤ c ∧ c ≤ maxLen := by
  rcases h.2 with ⟨_, h1⟩ | ⟨g, cap, cur, e0, hg, hh, hc, hm, _⟩
  · omega
  · injection e0 with e1 e2 e3
    subst e1 e3
    exact ⟨g, rfl, hg, (Array.getElem?_eq_some_iff.1 hh).1, hc, hm⟩
theorem row_keep {V V' : World} {M sz n : Nat} {v : Value} {e : TypeId} {xs : List Value} (h : V.ownsRow M e sz v n xs) (hB : Below V.heap.size V V') : V'.ownsRow M e sz v n xs := by
  refine ⟨h.1, ?_⟩
  rcases h.2 with e0 | ⟨g, cap, cur, hv, hg, hh, rest⟩
  · exact .inl e0
  · exact .inr ⟨g, cap, cur, hv, hg, (hB.block g (Array.getElem?_eq_some_iff.1 hh).1).trans hh, rest⟩
/-- The four numbers that Bent chooses a size from. -/
theorem lit4 (V : World) (b : Int) : Below V.heap.size V (V.alloc (.cells #[.int .i64 b, .int .i64 4096, .int .i64 4097, .int .i64 (-1)] 3)) ∧ Blk (V.alloc (.cells #[.int .i64 b, .int .i64 4096, .int .i64 4097, .int .i64 (-1)] 3)) V.heap.size 3 [.int .i64 b, .int .i64 4096, .int .i64 4097, .int .i64 (-1)] := ⟨(Below.refl _ _).alloc (Nat.le_refl _) _, blk_new V _ _⟩
theorem lit4_at (b : Int) (r : Nat) (h : r < 4) : ∃ z : Int, ([.int .i64 b, .int .i64 4096, .int .i64 4097, .int .i64 (-1)] : List Value)[r]? = some (.int .i64 z) := by
  match r, h with
  | 0, _ => exact ⟨_, rfl⟩
  | 1, _ => exact ⟨_, rfl⟩
  | 2, _ => exact ⟨_, rfl⟩
  | 3, _ => exact ⟨_, rfl⟩
theorem Sz.set {N : Nat} {lf : List Lf} {k : Nat} {y : Lf} (h : Sz N lf) (hy : y.1.size ≤ N ∧ y.2.size ≤ N) : Sz N (lf.set k y) := by
  intro x hx
  rcases List.mem_or_eq_of_mem_set hx with h1 | rfl
  · exact h x h1
  · exact hy
theorem row_one {V : World} {M sz n : Nat} {e : TypeId} {v : Value} {xs : List Value} (h : V.ownsRow M e sz v n xs) : v.oneCell' = true := by
  rcases h.2 with ⟨rfl, _⟩ | ⟨g, cap, cur, rfl, _⟩ <;> rfl
/-- The first elements and those behind the next, laid on one after the other: the whole row without one element. -/
theorem row_cut {α : Type} (l : List α) (k : Nat) : l.take k ++ l.drop (k + 1) = l.eraseIdx k := (List.eraseIdx_eq_take_drop_succ l k).symm
theorem leavesV_take : ∀ (lf : List Lf) (k : Nat), leavesV (lf.take k) = (leavesV lf).take (k * 2)
  | [], k => by simp [leavesV]
  | y :: r, 0 => rfl
  | y :: r, k + 1 => by
    rw [List.take_succ_cons, show (k + 1) * 2 = k * 2 + 1 + 1 by omega]
    show .string y.1 :: .string y.2 :: leavesV (r.take k) = _
    rw [leavesV_take r k]
    rfl
theorem leavesV_drop : ∀ (lf : List Lf) (k : Nat), leavesV (lf.drop k) = (leavesV lf).drop (k * 2)
  | [], k => by simp [leavesV]
  | y :: r, 0 => rfl
  | y :: r, k + 1 => by
    rw [List.drop_succ_cons, leavesV_drop r k, show (k + 1) * 2 = k * 2 + 1 + 1 by omega]
    rfl

theorem row_heap {V : World} {M g n cap sz : Nat} {e : TypeId} {xs : List Value} (h : V.ownsRow M e sz (.slice (some ⟨g, 0, none⟩) n cap) n xs) : ∃ cur, V.heap[g]? = some (.cells cur e (0, 0)) := by
  rcases h.2 with ⟨e0, _⟩ | ⟨g', cap', cur, e0, hM, hh, _⟩
  · injection e0 with e0; cases e0
  · injection e0 with e1 e2 e3
    injection e1 with e1
    injection e1 with e1
    subst e1
    exact ⟨cur, hh⟩
theorem Oth.own {w w' : World} {M sz n : Nat} {e : TypeId} {v : Value} {xs : List Value} (h : w.ownsRow M e sz v n xs) (hg : w.grownBy w' v.ownBlock) : Oth e w w' := by
  rcases h.2 with ⟨rfl, _⟩ | ⟨g, cap, cur, rfl, _, hh, _⟩
  · refine ⟨hg.size, fun b cur t p _ hb => ?_⟩
    rw [hg.block b (Array.getElem?_eq_some_iff.1 hb).1 (fun e => nomatch e)]
    exact hb
  · exact Oth.grown hh hg
set_option maxRecDepth 100000 in
theorem cut_row {w : World} {o : Oper} {a : Act} {K : Act → World → Prop} {Q : Exit → Act → World → Prop} (s x : Operand) (t e : TypeId)
    (hop : o.op = .call { callee := .builtin .append, args := #[s, x], argTypes := #[t, t] }) (ti : TypeInfo) (z : Value) (size bytes : Nat)
    (ht : Tryd.prog.underlying t = some (.slice e)) (hti : Tryd.prog.info? e = some ti) (hz : ti.zero = some z) (hsize : ti.size = size) (hby : ti.bytes = bytes) (hzs : z.cells.size = size) (hsz : 0 < size) (hb : bytes ≤ 1000)
    (M g n c i o' : Nat) (xs : List Value) (hs : a.eval s = .slice (some ⟨g, 0, none⟩) i c) (hx : a.eval x = .slice (some ⟨g, o', none⟩) (n - (i + 1)) (c - (i + 1)))
    (O : w.ownsRow M e size (.slice (some ⟨g, 0, none⟩) n c) n xs) (hone : ∀ u ∈ xs, u.oneCell' = true) (hi : i < n) (hn : n ≤ 1000000) (hnc : n ≤ c) (ho' : c = i + 1 ∨ o' = (i + 1) * size) (hM : M ≤ w.heap.size)
    (h : ∀ p3 c3 w', w'.ownsRow M e size (.slice p3 (n - 1) c3) (n - 1) (xs.take (i * size) ++ xs.drop ((i + 1) * size)) → Oth e w w' → (∀ (B : Nat) (a : World), B ≤ M → Below B a w → Below B a w') → K (a.put o.dst (.slice p3 (n - 1) c3)) w') : o.wp Tryd.prog a w K Q := by
  have hxl := O.1
  refine wp_append_own _ s x t hop M e ti z size bytes ht hti hz hsize hby hzs hsz (.slice (some ⟨g, 0, none⟩) i c) i (xs.take (i * size)) hs (row_take O (by omega)) ⟨g, o', none⟩ (n - (i + 1)) (c - (i + 1)) (xs.drop ((i + 1) * size)) hx (by rw [List.length_drop, hxl, Nat.sub_mul]) (fun j u hj => ?_) (fun u hu => hone u (List.mem_of_mem_drop hu)) (by unfold maxLen; omega) ?_ hM ?_
  · rw [List.getElem?_drop] at hj
    rcases ho' with h1 | h1
    · have hlt := (List.getElem?_eq_some_iff.1 hj).1
      have : n = i + 1 := by omega
      rw [hxl, this] at hlt
      omega
    · rw [Addr.add_mid, h1]
      exact row_cell O _ u hj
  · have h1 : i + (n - (i + 1)) ≤ 1000000 := by omega
    exact Nat.le_trans (Nat.mul_le_mul h1 hb) (by omega)
  · intro v' w' hO hgr _
    rw [show i + (n - (i + 1)) = n - 1 by omega] at hO
    obtain ⟨p3, c3, rfl⟩ := row_form hO
    obtain ⟨cur, hh⟩ := row_heap O
    have hgM : M ≤ g := (row_some O (by omega)).elim fun g' h => by
      obtain ⟨e1, h2, _⟩ := h
      injection e1 with e1
      injection e1 with e1
      omega
    exact h p3 c3 w' hO (Oth.grown hh hgr) (fun B a hB hb => hb.grown hgr (by omega) (fun j e => by have e : some g = some j := e; injection e with e; omega))
theorem leavesV_cut (lf : List Lf) (i : Nat) : (leavesV lf).take (i * 2) ++ (leavesV lf).drop ((i + 1) * 2) = leavesV (lf.eraseIdx i) := by
  rw [← leavesV_take, ← leavesV_drop, ← leavesV_append, row_cut]
theorem flat_take (sd : List (List Nat)) (hd : Dgts sd) : ∀ (i : Nat), (bytesV sd.flatten).take (i * 16) = bytesV (sd.take i).flatten ∧ (bytesV sd.flatten).drop (i * 16) = bytesV (sd.drop i).flatten := by
  induction sd with
  | nil => intro i; simp [bytesV]
  | cons d r ih =>
    intro i
    have hdl : d.length = 16 := (hd d (List.mem_cons_self)).1
    have ih := ih (fun x hx => hd x (List.mem_cons_of_mem _ hx))
    cases i with
    | zero => simp [bytesV]
    | succ i =>
      have hv : bytesV (d :: r).flatten = bytesV d ++ bytesV r.flatten := by unfold bytesV; rw [List.flatten_cons, List.map_append]
      have hvl : (bytesV d).length = 16 := by rw [bytesV_length, hdl]
      rw [hv, show (i + 1) * 16 = 16 + i * 16 by omega]
      constructor
      · rw [List.take_succ_cons]
        have e2 : bytesV (d :: r.take i).flatten = bytesV d ++ bytesV (r.take i).flatten := by unfold bytesV; rw [List.flatten_cons, List.map_append]
        rw [e2, ← (ih i).1, List.take_append, List.take_of_length_le (by omega), hvl, Nat.add_sub_cancel_left]
      · rw [List.drop_succ_cons, ← (ih i).2, List.drop_append, List.drop_of_length_le (by omega), hvl, Nat.add_sub_cancel_left, List.nil_append]
theorem flat_cut (sd : List (List Nat)) (hd : Dgts sd) (i : Nat) : (bytesV sd.flatten).take (i * 16) ++ (bytesV sd.flatten).drop ((i + 1) * 16) = bytesV (sd.eraseIdx i).flatten := by
  rw [(flat_take sd hd i).1, (flat_take sd hd (i + 1)).2, ← row_cut sd i]
  unfold bytesV
  rw [List.flatten_append, List.map_append]
theorem Sz.erase {N : Nat} {lf : List Lf} (h : Sz N lf) (i : Nat) : Sz N (lf.eraseIdx i) := fun x hx => h x (List.mem_of_mem_eraseIdx hx)
theorem Dgts.erase {sd : List (List Nat)} (h : Dgts sd) (i : Nat) : Dgts (sd.eraseIdx i) := fun x hx => h x (List.mem_of_mem_eraseIdx hx)
theorem Sz.snoc {N : Nat} {lf : List Lf} {y : Lf} (h : Sz N lf) (hy : y.1.size ≤ N ∧ y.2.size ≤ N) : Sz N (lf ++ [y]) := by
  intro x hx
  rcases List.mem_append.1 hx with h1 | h1
  · exact h x h1
  · rw [List.mem_singleton.1 h1]; exact hy
theorem Dgts.snoc {sd : List (List Nat)} {d : List Nat} (h : Dgts sd) (hd : Dgt d) : Dgts (sd ++ [d]) := by
  intro x hx
  rcases List.mem_append.1 hx with h1 | h1
  · exact h x h1
  · rw [List.mem_singleton.1 h1]; exact hd
theorem Dgts.set {sd : List (List Nat)} {d : List Nat} {k : Nat} (h : Dgts sd) (hd : Dgt d) : Dgts (sd.set k d) := by
  intro x hx
  rcases List.mem_or_eq_of_mem_set hx with h1 | rfl
  · exact h x h1
  · exact hd

theorem flat_set (sd : List (List Nat)) (hd : Dgts sd) : ∀ (j r y : Nat) (d : List Nat), sd[j]? = some d → r < 16 → (bytesV sd.flatten).set (j * 16 + r) (.int .u8 (y : Int)) = bytesV (sd.set j (d.set r y)).flatten ∧ ∃ x, d[r]? = some x ∧ (bytesV sd.flatten)[j * 16 + r]? = some (.int .u8 (x : Int)) := by
  induction sd with
  | nil => intro j r y d h; simp at h
  | cons d0 rest ih =>
    intro j r y d h hr
    have hdl : d0.length = 16 := (hd d0 (List.mem_cons_self)).1
    have ih := ih (fun x hx => hd x (List.mem_cons_of_mem _ hx))
    have hv : ∀ d1 rest1, bytesV (d1 :: rest1 : List (List Nat)).flatten = bytesV d1 ++ bytesV rest1.flatten := by intro d1 rest1; unfold bytesV; rw [List.flatten_cons, List.map_append]
    have hvl : (bytesV d0).length = 16 := by rw [bytesV_length, hdl]
    cases j with
    | zero =>
      obtain rfl : d0 = d := by simpa using h
      rw [hv, List.set_cons_zero, hv, Nat.zero_mul, Nat.zero_add, List.set_append_left _ _ (by omega), List.getElem?_append_left (by omega)]
      refine ⟨?_, d0[r]'(by omega), List.getElem?_eq_getElem (by omega), ?_⟩
      · unfold bytesV
        rw [List.map_set]
        rfl
      · unfold bytesV
        rw [List.getElem?_map, List.getElem?_eq_getElem (by omega)]
        rfl
    | succ j =>
      have hj := ih j r y d (by simpa using h) hr
      rw [hv, List.set_cons_succ, hv, show (j + 1) * 16 + r = 16 + (j * 16 + r) by omega, List.set_append_right _ _ (by omega), List.getElem?_append_right (by omega), hvl, Nat.add_sub_cancel_left]
      exact ⟨by rw [hj.1], hj.2⟩
theorem xor1 (x : Nat) (h : x < 256) : ∃ y : Nat, y < 256 ∧ bits BinOp.xor IntKind.u8 (x : Int) 1 = (y : Int) := by
  have hall : ∀ x : Fin 256, 0 ≤ bits BinOp.xor IntKind.u8 (x.val : Int) 1 ∧ bits BinOp.xor IntKind.u8 (x.val : Int) 1 < 256 := by decide +kernel
  have h1 : 0 ≤ bits BinOp.xor IntKind.u8 (x : Int) 1 ∧ bits BinOp.xor IntKind.u8 (x : Int) 1 < 256 := hall ⟨x, h⟩
  exact ⟨(bits BinOp.xor IntKind.u8 (x : Int) 1).toNat, by omega, by omega⟩
theorem dgt_set {d : List Nat} (h : Dgt d) (r y : Nat) (hy : y < 256) : Dgt (d.set r y) := by
  refine ⟨by rw [List.length_set]; exact h.1, fun z hz => ?_⟩
  rcases List.mem_or_eq_of_mem_set hz with h1 | rfl
  · exact h.2 z h1
  · exact hy
theorem tdiv8 (a : Int) (h1 : -9223372036854775808 ≤ a) (h2 : a ≤ 9223372036854775807) : -9223372036854775808 ≤ a.tdiv 8 ∧ a.tdiv 8 ≤ 9223372036854775807 := by
  rcases Int.le_total 0 a with h | h
  · rw [Int.tdiv_eq_ediv_of_nonneg h]; omega
  · have e : a.tdiv 8 = -((-a).tdiv 8) := by rw [Int.neg_tdiv, Int.neg_neg]
    rw [e, Int.tdiv_eq_ediv_of_nonneg (by omega)]
    omega
/-- The digest that Bent lays on. -/
def d1 : List Nat := [1, 0, 0, 0, 0, 0, 0, 0, 0, 0, 0, 0, 0, 0, 0, 0]
theorem dig1 (V : World) : Below V.heap.size V (V.alloc (.cells #[.int .u8 1, .int .u8 0, .int .u8 0, .int .u8 0, .int .u8 0, .int .u8 0, .int .u8 0, .int .u8 0, .int .u8 0, .int .u8 0, .int .u8 0, .int .u8 0, .int .u8 0, .int .u8 0, .int .u8 0, .int .u8 0] 29)) ∧ Blk (V.alloc (.cells #[.int .u8 1, .int .u8 0, .int .u8 0, .int .u8 0, .int .u8 0, .int .u8 0, .int .u8 0, .int .u8 0, .int .u8 0, .int .u8 0, .int .u8 0, .int .u8 0, .int .u8 0, .int .u8 0, .int .u8 0, .int .u8 0] 29)) V.heap.size 29 (bytesV d1) := ⟨(Below.refl _ _).alloc (Nat.le_refl _) _, blk_new V 29 #[.int .u8 1, .int .u8 0, .int .u8 0, .int .u8 0, .int .u8 0, .int .u8 0, .int .u8 0, .int .u8 0, .int .u8 0, .int .u8 0, .int .u8 0, .int .u8 0, .int .u8 0, .int .u8 0, .int .u8 0, .int .u8 0]⟩
theorem d1_dgt : Dgt d1 := ⟨rfl, by decide⟩

end Go.Proofs.YtfhfmdnimebegaaDoor
