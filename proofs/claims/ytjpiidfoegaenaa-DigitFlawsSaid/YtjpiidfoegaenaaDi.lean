/-
  Weak of the program.
-/
import Derived.Test.YtjpiidfoegaenaaDh
import Derived.Test.YtjpiidfoegaenaaRk
namespace Go.Proofs.Ytjpiidfoegaenaa
open Go.RowKit Go.Shelf
set_option linter.unusedVariables false
set_option linter.unusedSimpArgs false
attribute [local go_sem] Oper.semAt_some

def flV (f : Fl) : List Value := [.int .i64 f.at_, .int .i64 f.other, .int .i64 f.old, .int .i64 f.new]
/-- The call answers a slip, whether there is one, and an error. -/
def WeakR (f : Fl) (b : Bool) (k : Int) (w : World) (e : Ending) (w' : World) : Prop := e = .returned (.tuple #[.agg #[.int .i64 f.at_, .int .i64 f.other, .int .i64 f.old, .int .i64 f.new], .bool b, .int .i64 k]) ∧ Below w.heap.size w w'
theorem results_cnn {fn : Func} {p q r : Tmp} {ty : TypeId} (h : fn.results = #[.cell p ty, .tmp q, .tmp r]) (tmps : Array Value) (w : World) {b : Nat} {v v' v'' : Value}
    (hp : tmps.getD p undef = .pointer (some ⟨b, 0, none⟩)) (hq : tmps.getD q undef = v') (hr : tmps.getD r undef = v'') (hv : (Go.loadVar ty ⟨b, 0, none⟩).run Try.prog w = .ok v w) :
    (results fn tmps).run Try.prog w = .ok (.tuple #[v, v', v'']) w := by
  have hp' : tmps[p]?.getD undef = .pointer (some ⟨b, 0, none⟩) := by simpa using hp
  have hq' : tmps[q]?.getD undef = v' := by simpa using hq
  have hr' : tmps[r]?.getD undef = v'' := by simpa using hr
  simp [results, h, hp', hq', hr', asAddr, hv, Sem.run_bind]
theorem one4 (x : Fl) : (#[Value.int .i64 x.at_, .int .i64 x.other, .int .i64 x.old, .int .i64 x.new]).all (·.oneCell') = true := all_oneCell_toArray (cs := flV x) (by intro v hv; simp [flV] at hv; rcases hv with rfl | rfl | rfl | rfl <;> rfl)
theorem sets_other {b k : Nat} (hk : k ≠ b) : ∀ (vs : List Value) (w : World) (o : Nat), (w.setCells b o vs).heap[k]? = w.heap[k]?
  | [], w, o => rfl
  | v :: vs, w, o => (sets_other hk vs (w.setCell ⟨b, o, none⟩ v) (o + 1)).trans (Below.heap_setCell _ _ _ _ (by show k ≠ b; exact hk))
theorem blk_grown {w w' : World} {b : Nat} {t : TypeId} {cs : List Value} {row : Option Nat} (h : Blk w b t cs) (hg : w.grownBy w' row) (hr : ∀ r, row = some r → ∃ o : Obj, w.heap[r]? = some o ∧ o.isCells = false) : Blk w' b t cs := by
  unfold Blk at *
  rw [hg.block b (Array.getElem?_eq_some_iff.1 h).1 (fun e => by obtain ⟨o, ho, hc⟩ := hr b e.symm; rw [h] at ho; cases ho; cases hc)]
  exact h
theorem kf_below {B : Nat} {W W' : World} (h : Below W.heap.size W W') : KeepsFrom B W W' := ⟨h.size, fun k o _ hk _ => (h.block k (Array.getElem?_eq_some_iff.1 hk).1).trans hk⟩
theorem kf_sets (B b : Nat) (hb : b < B) (W : World) (o : Nat) (vs : List Value) : KeepsFrom B W (W.setCells b o vs) := ⟨by rw [sets_size]; exact Nat.le_refl _, fun k o' hk h _ => (sets_other (by omega) vs W o).trans h⟩
theorem store_blkIn {F : Fence} {n : Nat} {w : World} {ops : Array Oper} {rest : List Oper} {o : Oper} {a : Act} {Q : Exit → Act → World → Prop} (hgd : o.guard = none) (ty : TypeId) (x y : Operand) (ho : o.op = .store ty x y)
    {b : Nat} {t : TypeId} {cs vs : List Value} (h : Blk w b t cs) (hx : a.eval x = .pointer (some ⟨b, 0, none⟩)) (hy : a.eval y = .agg vs.toArray) {m : Nat} (hi : (Try.prog.info? ty).map (·.size) = some m) (hl : vs.length = m) (hl2 : cs.length = m) (h1 : ∀ v ∈ vs, v.oneCell' = true)
    (k : ∀ w', w' = w.setCells b 0 vs → Blk w' b t vs → wpListIn F n Try.prog ops Q rest (a.put o.dst undef) w') : wpListIn F n Try.prog ops Q (o :: rest) a w := by
  subst hl
  exact wpListIn_store_mid hgd ty x y ho b 0 vs.toArray hx hy (by simpa using h.there 0 vs.length (by omega)) (by simpa using hi) (all_oneCell_toArray h1) (k _ rfl (h.all hl2.symm))
/-- What the loop over the slips keeps: the boxes of Weak. -/
structure WkI (w : World) (g g1 b8 b9 M : Nat) (m : Int) (f : Fl) (b : Bool) (W : World) : Prop where
  k0 : Blk W g 3 [.int .i64 m]
  k1 : Blk W g1 35 [.int .i64 0, .int .i64 0, .int .i64 0, .int .i64 0]
  k8 : Blk W b8 35 (flV f)
  k9 : Blk W b9 4 [.bool b]
  hB : Below w.heap.size w W
  hM : M ≤ W.heap.size
theorem WkI.grown {w : World} {g g1 b8 b9 M : Nat} {m : Int} {f : Fl} {b : Bool} {W W' : World} {row : Option Nat} (h : WkI w g g1 b8 b9 M m f b W) (hwM : w.heap.size ≤ M) (hg : W.grownBy W' row) (hr : ∀ r, row = some r → M ≤ r ∧ ∃ o : Obj, W.heap[r]? = some o ∧ o.isCells = false) : WkI w g g1 b8 b9 M m f b W' :=
  ⟨blk_grown h.k0 hg (fun r e => (hr r e).2), blk_grown h.k1 hg (fun r e => (hr r e).2), blk_grown h.k8 hg (fun r e => (hr r e).2), blk_grown h.k9 hg (fun r e => (hr r e).2), h.hB.grown hg h.hB.size (fun r e => Nat.le_trans hwM (hr r e).1), Nat.le_trans h.hM hg.size⟩
theorem tmod_zero {x : Int} {m : Nat} : x.tmod (m : Int) = 0 ↔ x % (m : Int) = 0 := by rw [← Int.dvd_iff_tmod_eq_zero, Int.dvd_iff_emod_eq_zero]
def noPanic (Q : Exit → Act → World → Prop) : Exit → Act → World → Prop
  | .panic _, _, _ => False
  | e, a, w => Q e a w
theorem wp_noPanic {P : Program} {c : Code} {Q : Exit → Act → World → Prop} {a : Act} {w : World} (h : c.wp P (noPanic Q) a w) : c.wp P Q a w := fun b k cs => by
  obtain ⟨e, a', w', q, r⟩ := h b k cs
  refine ⟨e, a', w', ?_, r⟩
  cases e with
  | panic ch => exact q.elim
  | normal => exact q
  | exit id => exact q
  | goto l => exact q
  | ret => exact q
  | outgrown => exact q
def SO (g : Nat) (W w' : World) : Prop := W.heap.size ≤ w'.heap.size ∧ ∀ k, k ≠ g → k < W.heap.size → w'.heap[k]? = W.heap[k]?
theorem SO.drew (g : Nat) (W : World) : SO g W W.drew := ⟨Nat.le_refl _, fun _ _ _ => rfl⟩
theorem so_blk {g b : Nat} {W w' : World} {t : TypeId} {cs : List Value} (h : Blk W b t cs) (hs : SO g W w') (hn : b ≠ g) : Blk w' b t cs := by
  have hl := h.lt
  unfold Blk at *
  rw [hs.2 b hn hl]
  exact h
theorem WkI.keep {w : World} {g g1 b8 b9 M : Nat} {m : Int} {f : Fl} {b : Bool} {W W' : World} (h : WkI w g g1 b8 b9 M m f b W) (hk : Below W.heap.size W W') : WkI w g g1 b8 b9 M m f b W' :=
  ⟨h.k0.keep hk, h.k1.keep hk, h.k8.keep hk, h.k9.keep hk, h.hB.trans (hk.mono h.hB.size), Nat.le_trans h.hM hk.size⟩
set_option maxHeartbeats 4000000 in
set_option maxRecDepth 100000 in
theorem weak_bad (l : List Int) (m : Int) (A : Option Addr) (n c : Nat) (hl : l.length = n) (hn6 : n ≤ 9223372036854775807) (hs : schE l m ≠ 0) (w : World) (hA : IntsAt w A l) :
    Calls Try.prog 17 #[.slice A n c, .int .i64 m] w (WeakR flZ false (schE l m) w) := by
  have CC := Lib.hid (fun V (hV : Below w.heap.size w V) => check_any l m A n c hl hn6 V (hA.keep hV))
  generalize schE l m = r at *
  have hrz : (r != 0) = true := by simp [hs]
  clear hl hA hs
  have Z := (new_struct (w.alloc (.cells #[.int .i64 m] 3)) #[.int .i64 0, .int .i64 0, .int .i64 0, .int .i64 0] 35 (flV flZ) rfl)
  have B0 : Below w.heap.size w (w.alloc (.cells #[.int .i64 m] 3)) := (Below.refl _ _).alloc (Nat.le_refl _) _
  have b0 := blk_new w 3 #[.int .i64 m]
  have N2 := blk_new (w.alloc (.cells #[.int .i64 m] 3)) 35 #[.int .i64 0, .int .i64 0, .int .i64 0, .int .i64 0]
  have X2 : Below (w.alloc (.cells #[.int .i64 m] 3)).heap.size (w.alloc (.cells #[.int .i64 m] 3)) ((w.alloc (.cells #[.int .i64 m] 3)).alloc (.cells #[.int .i64 0, .int .i64 0, .int .i64 0, .int .i64 0] 35)) := (Below.refl _ _).alloc (Nat.le_refl _) _
  have c0 : ((w.alloc (.cells #[.int .i64 m] 3)).alloc (.cells #[.int .i64 0, .int .i64 0, .int .i64 0, .int .i64 0] 35)).cell? ⟨w.heap.size, 0, none⟩ = some (.int .i64 m) := (b0.keep X2).cell (j := 0) rfl
  have BX := link B0 X2
  rw [World.size_alloc] at N2
  go_enter Try.func17, Try.ntmps17
  go_wp2
  refine wp_scope_straight ?_
  generalize (w.alloc (.cells #[.int .i64 m] 3)).alloc (.cells #[.int .i64 0, .int .i64 0, .int .i64 0, .int .i64 0] 35) = w1 at *
  obtain ⟨g, hg⟩ : ∃ g, w.heap.size = g := ⟨_, rfl⟩
  obtain ⟨g1, hg1⟩ : ∃ g1, w.heap.size + 1 = g1 := ⟨_, rfl⟩
  rw [hg1] at N2 ⊢
  have hgg : w.heap.size ≤ g1 := by omega
  clear hg hg1 B0 X2 Z b0
  go_upto_region 3 with (go_at_call 34; refine (CC.out _ BX).mono ?_; rintro _ w2 ⟨rfl, B2⟩)
  have N3 := N2.keep B2
  have BY := link BX B2
  clear CC c0 N2 B2 BX
  go_wp2_with (refine store_blk rfl 35 (.tmp 4) (.tmp 17) rfl N3 rfl rfl (m := 4) (by kernel_rfl) rfl rfl (by intro v hv; simp at hv; subst hv; rfl) ?_; intro w3 N4 O4)
  have BZ := O4.2.2 _ _ hgg BY
  refine bodyPost_ret (results_cnn rfl _ _ rfl rfl rfl (N4.loadVarS Try.underlying35 (by kernel_rfl))) rfl ?_
  exact ⟨rfl, BZ⟩
set_option maxHeartbeats 4000000 in
set_option maxRecDepth 100000 in
theorem weak_good (l : List Int) (m1 : Nat) (A : Option Addr) (n c : Nat) (hl : l.length = n) (hs : schE l ((m1 + 1 : Nat) : Int) = 0) (w : World) (hA : IntsAt w A l) :
    Calls Try.prog 17 #[.slice A n c, .int .i64 ((m1 + 1 : Nat) : Int)] w (WeakR (weakF l ((m1 + 1 : Nat) : Int)) (weakB l ((m1 + 1 : Nat) : Int)) 0 w) := by
  obtain ⟨hl256, hm2, hm1024, hbl⟩ := schE_ok hs
  have CC := Lib.hid (fun V (hV : Below w.heap.size w V) => check_any l ((m1 + 1 : Nat) : Int) A n c hl (by omega) V (hA.keep hV))
  rw [hs] at CC
  have S := Lib.hid (fun V => mkslips_in Fence.wide 4 trivial rfl A n c ((m1 + 1 : Nat) : Int) V)
  have fc : Fence.wide.fn 34 := trivial
  have fs : Fence.wide.fn 38 := trivial
  obtain ⟨m, hm⟩ : ∃ m : Nat, m1 + 1 = m := ⟨_, rfl⟩
  rw [hm] at CC S ⊢
  refine (callsIn_wide (n := 5)).1 ?_
  refine callsIn_of_wp_marks Try.func17 rfl trivial ?_ rfl
  simp only [Try.ntmps17, List.size_toArray, List.length_cons, List.length_nil, Nat.reduceAdd, Nat.reduceSub, Array.replicate_succ, Array.replicate_zero, List.push_toArray, List.append_toArray, List.nil_append, List.cons_append]
  gi_wp2
  refine wpIn_wide.2 (wp_scope_straight ?_)
  have b0 := blk_new w 3 #[.int .i64 (m : Int)]
  have N2 := blk_new (w.alloc (.cells #[.int .i64 (m : Int)] 3)) 35 #[.int .i64 0, .int .i64 0, .int .i64 0, .int .i64 0]
  have B0 : Below w.heap.size w (w.alloc (.cells #[.int .i64 (m : Int)] 3)) := (Below.refl _ _).alloc (Nat.le_refl _) _
  have X2 : Below (w.alloc (.cells #[.int .i64 (m : Int)] 3)).heap.size (w.alloc (.cells #[.int .i64 (m : Int)] 3)) ((w.alloc (.cells #[.int .i64 (m : Int)] 3)).alloc (.cells #[.int .i64 0, .int .i64 0, .int .i64 0, .int .i64 0] 35)) := (Below.refl _ _).alloc (Nat.le_refl _) _
  have b0 := b0.keep X2
  have BX := link B0 X2
  rw [World.size_alloc] at N2
  have hsz : w.heap.size + 2 ≤ ((w.alloc (.cells #[.int .i64 (m : Int)] 3)).alloc (.cells #[.int .i64 0, .int .i64 0, .int .i64 0, .int .i64 0] 35)).heap.size := by rw [World.size_alloc, World.size_alloc]; omega
  generalize (w.alloc (.cells #[.int .i64 (m : Int)] 3)).alloc (.cells #[.int .i64 0, .int .i64 0, .int .i64 0, .int .i64 0] 35) = w1 at b0 N2 BX hsz ⊢
  have c0 : w1.cell? ⟨w.heap.size, 0, none⟩ = some (.int .i64 (m : Int)) := b0.cell (j := 0) rfl
  obtain ⟨g, hg⟩ : ∃ g, w.heap.size = g := ⟨_, rfl⟩
  obtain ⟨g1, hg1⟩ : ∃ g1, g + 1 = g1 := ⟨_, rfl⟩
  rw [hg, hg1] at N2
  rw [hg] at b0 c0 hsz
  have HG := Lib.hid hg
  have HG1 := Lib.hid hg1
  rw [hg, hg1]
  clear hg1 B0 X2
  go_upto_region 4 with (go_at_call 34; refine (CC.out _ BX).mono ?_; rintro _ w2 ⟨rfl, B2⟩)
  have b0 := b0.keep B2
  have N2 := N2.keep B2
  have BY := link BX B2
  have c0 : w2.cell? ⟨g, 0, none⟩ = some (.int .i64 (m : Int)) := b0.cell (j := 0) rfl
  have hsz2 : g + 2 ≤ w2.heap.size := Nat.le_trans hsz B2.size
  have N8 := (blk_new w2 35 #[.int .i64 0, .int .i64 0, .int .i64 0, .int .i64 0]).alloc (.cells #[.bool false] 4)
  have N9 := blk_new (w2.alloc (.cells #[.int .i64 0, .int .i64 0, .int .i64 0, .int .i64 0] 35)) 4 #[.bool false]
  rw [World.size_alloc] at N9
  clear CC BX B2 hsz
  go_upto_region 5 with (refine store_blk rfl 35 (.tmp 8) (.tmp 19) rfl N8 rfl rfl (m := 4) (by kernel_rfl) rfl rfl (by intro v hv; simp at hv; subst hv; rfl) ?_; intro w3 N10 O3; have N11 := O3.2.1 _ _ _ (by omega) N9; have c9 := N11.cell (j := 0) rfl; have f9 := N11.free 0)
  have Z9 := O3.2.2 _ _ (Nat.le_refl w2.heap.size) (((Below.refl _ w2).alloc (Nat.le_refl _) (.cells #[.int .i64 0, .int .i64 0, .int .i64 0, .int .i64 0] 35)).alloc (by simp) (.cells #[.bool false] 4))
  have N12 := N11.set 0 (.bool false)
  have N13 : Blk (w3.setCell ⟨w2.heap.size + 1, 0, none⟩ (.bool false)) w2.heap.size 35 [.int .i64 0, .int .i64 0, .int .i64 0, .int .i64 0] := N10.other (by show w2.heap.size ≠ w2.heap.size + 1; omega) _
  have Z10 : Below w2.heap.size w2 (w3.setCell ⟨w2.heap.size + 1, 0, none⟩ (.bool false)) := Z9.setCell (Nat.le_succ _) _
  generalize w3.setCell ⟨w2.heap.size + 1, 0, none⟩ (.bool false) = w4 at N12 N13 Z10 ⊢
  have b0 := b0.keep Z10
  have N2 := N2.keep Z10
  have BY := link BY Z10
  have h4 := N12.lt
  obtain ⟨b8, hb8⟩ : ∃ b8, w2.heap.size = b8 := ⟨_, rfl⟩
  obtain ⟨b9, hb9⟩ : ∃ b9, b8 + 1 = b9 := ⟨_, rfl⟩
  rw [hb8] at N12 N13 h4 hsz2 ⊢
  rw [hb9] at N12 h4 ⊢
  have c0 : w4.cell? ⟨g, 0, none⟩ = some (.int .i64 (m : Int)) := b0.cell (j := 0) rfl
  clear N8 N9 N10 N11 O3 c9 f9 Z9 Z10
  refine wp_label ?_
  go_wp2_with (go_at_call 38; refine (callsIn_wide.1 (S.out _)).mono ?_; rintro _ w5 ⟨rfl, B5, X5⟩)
  have b0 := b0.keep B5
  have N2 := N2.keep B5
  have N12 := N12.keep B5
  have N13 := N13.keep B5
  have BY := link BY B5
  have HWS : WsAt w.heap.size w5 A l := fun hn => by
    obtain ⟨ad, e, hb, hc⟩ := hA hn
    exact ⟨ad, e, hb, fun i x hx => (BY.cell (p := ad.add i) (by rw [add_block]; exact hb)).trans (hc i x hx).1⟩
  have hb95 := Nat.lt_of_lt_of_le h4 B5.size
  obtain ⟨B, hBB⟩ : ∃ B, w4.heap.size = B := ⟨_, rfl⟩
  rw [hBB] at X5 ⊢
  have X6 : Boxes w5 B A n c ((m1 + 1 : Nat) : Int) := by rw [hm]; exact X5
  have hs5 := X5.1
  have hwg : w.heap.size = g := HG.out
  have hgg := HG1.out
  have hws : w.heap.size ≤ w5.heap.size := BY.size
  have hwi : ∀ x ∈ l, 0 ≤ x ∧ x < 1024 := fun x hx => by have := belowT_mem hbl x hx; omega
  have hmz : ¬ (m : Int) = 0 := by omega
  have hg18 : b8 ≠ g1 := by omega
  have hg19 : b9 ≠ g1 := by omega
  have hgg1 : w.heap.size ≤ g1 := by omega
  have HFACT := Lib.hid (show g < b8 ∧ g1 < b8 ∧ b8 < b9 ∧ b9 < w5.heap.size ∧ w.heap.size ≤ g ∧ g < g1 by omega)
  clear B5 X5 c0 S
  refine (wpIn_wide (n := 5)).1 ?_
  refine wpIn_rangeFunc_ownH rfl (by omega) (gf := 52) (lb := itF B) rfl trivial (enters_of Try.func52 (by kernel_rfl) rfl)
    (slips_stops 4 (by omega) B w.heap.size m1 l A n c hl (by omega) hwi (by omega) w5 hws X6 HWS) kept_t (kept_b hws hs5) (Below.refl _ _) (fun _ => rfl)
    (fun pre W => WkI w g g1 b8 b9 w5.heap.size (m : Int) flZ false W ∧ ∀ y ∈ pre, ¬ y.2.tmod (m : Int) = 0)
    (fun cd pre W => cd = .exit 0 ∧ ∃ pre' x, pre = pre' ++ [x] ∧ (∀ y ∈ pre', ¬ y.2.tmod (m : Int) = 0) ∧ x.2.tmod (m : Int) = 0 ∧ WkI w g g1 b8 b9 w5.heap.size (m : Int) x.1 true W)
    (fun pre W W' row hs hg hr => ⟨hs.1.grown hws hg hr, hs.2⟩)
    (fun cd pre W W' row hs hg hr => by
      obtain ⟨e, pre', x, e2, h1, h2, h3⟩ := hs
      exact ⟨e, pre', x, e2, h1, h2, h3.grown hws hg hr⟩)
    ⟨⟨b0, N2, N13, N12, BY, Nat.le_refl _⟩, by simp⟩
    (fun x a' W => ∃ bx, a' = { tmps := #[.slice A n c, .int .i64 (m : Int), undef, .pointer (some ⟨g, 0, none⟩), .pointer (some ⟨g1, 0, none⟩), .bool false, .int .i64 0, .int .i64 0, .pointer (some ⟨b8, 0, none⟩), .pointer (some ⟨b9, 0, none⟩), .pointer (some ⟨bx, 0, none⟩), .int .i64 x.2, .slice A n c, .int .i64 (m : Int), .int .i64 0, .int .i64 0, .bool false, undef, undef, .agg #[.int .i64 0, .int .i64 0, .int .i64 0, .int .i64 0], .slice A n c, .int .i64 (m : Int), .func (.func 52) #[] (itF B), .agg #[.int .i64 x.1.at_, .int .i64 x.1.other, .int .i64 x.1.old, .int .i64 x.1.new], .int .i64 x.2, undef, undef, undef, undef, undef, undef, undef, undef], defers := [] } ∧ Blk W bx 35 (flV x.1))
    (fun x a' _ W W' row hs hg hr => by
      obtain ⟨bx, e, k1⟩ := hs
      exact ⟨bx, e, blk_grown k1 hg (fun r e => (hr r e).2)⟩)
    ?assign ?body ?done ?stop
  case assign =>
    intro l' pre x W K hI hK
    unfold itS
    have N := blk_new W 35 #[.int .i64 x.1.at_, .int .i64 x.1.other, .int .i64 x.1.old, .int .i64 x.1.new]
    have X1 : Below W.heap.size W (W.alloc (.cells #[.int .i64 x.1.at_, .int .i64 x.1.other, .int .i64 x.1.old, .int .i64 x.1.new] 35)) := (Below.refl _ _).alloc (Nat.le_refl _) _
    have X := And.intro X1 N
    clear N X1
    gi_wp2
    exact hK _ _ (kf_below X.1) (Kept.of X.1 (Nat.le_trans hws hI.1.hM) (Nat.le_trans hs5 hI.1.hM)) ⟨hI.1.keep X.1, hI.2⟩ ⟨_, rfl, X.2⟩
  case body =>
    rintro l' pre x a' W hl' hr ⟨KW, hcl⟩ ⟨bx, rfl, kx⟩ hlen
    have c0 := KW.k0.cell (j := 0) rfl
    by_cases hz : x.2.tmod (m : Int) = 0
    · have f9 := KW.k9.free 0
      have c9 := KW.k9.cell (j := 0) rfl
      have x0 : W.cell? ⟨bx, 0, none⟩ = some (.int .i64 x.1.at_) := kx.cell (j := 0) rfl
      have x1 : W.cell? ⟨bx, 1, none⟩ = some (.int .i64 x.1.other) := kx.cell (j := 1) rfl
      have x2 : W.cell? ⟨bx, 2, none⟩ = some (.int .i64 x.1.old) := kx.cell (j := 2) rfl
      have x3 : W.cell? ⟨bx, 3, none⟩ = some (.int .i64 x.1.new) := kx.cell (j := 3) rfl
      have hb89 : b9 ≠ b8 := by omega
      gi_wp2_with (refine store_blkIn rfl 35 (.tmp 8) (.tmp 30) rfl KW.k8 rfl rfl (vs := flV x.1) (m := 4) (by kernel_rfl) rfl rfl (by intro v hv; simp [flV] at hv; rcases hv with rfl | rfl | rfl | rfl <;> rfl) ?_; intro W2 e2 K8; have K9 : Blk W2 b9 4 [.bool false] := e2 ▸ KW.k9.others hb89 _ 0; have f9' := K9.free 0; have c9' := K9.cell (j := 0) rfl; have E2 := Lib.hid e2; clear e2)
      obtain ⟨f1, f2, f3, f4, f5, f6⟩ := HFACT.out
      refine ⟨?_, rfl, pre, x, rfl, hcl, hz, ?_⟩
      · exact (E2.out ▸ kf_sets w5.heap.size b8 (by omega) W 0 (flV x.1)).trans ((KeepsOthers.setCell _ _ _).from _)
      · have K0 : Blk W2 g 3 [.int .i64 (m : Int)] := E2.out ▸ KW.k0.others (by omega) _ 0
        have K1 : Blk W2 g1 35 [.int .i64 0, .int .i64 0, .int .i64 0, .int .i64 0] := E2.out ▸ KW.k1.others (by omega) _ 0
        have KB : Below w.heap.size w W2 := E2.out ▸ (only_sets b8 0 W (flV x.1)).2.2 _ _ (by omega) KW.hB
        have KM : w5.heap.size ≤ W2.heap.size := E2.out ▸ by rw [sets_size]; exact KW.hM
        exact ⟨K0.other (by show g ≠ b9; omega) _, K1.other (by show g1 ≠ b9; omega) _, K8.other (by show b8 ≠ b9; omega) _, K9.set 0 (.bool true), KB.setCell (by show w.heap.size ≤ b9; omega) _, by simpa [World.setCell] using KM⟩
    · gi_wp2
      exact ⟨kf_below (Below.refl _ _), Kept.refl _ _ _, KW, fun y hy => by
        rcases List.mem_append.1 hy with h | h
        · exact hcl y h
        · rw [List.mem_singleton.1 h]; exact hz⟩
  case done =>
    rintro D ys W hD rfl ⟨KW, hcl⟩ hDF
    obtain ⟨f, hf⟩ : ∃ f, weakF l (m : Int) = f := ⟨_, rfl⟩
    obtain ⟨z, hz⟩ : ∃ z, weakB l (m : Int) = z := ⟨_, rfl⟩
    have HW : weakK l m1 = none := weak_no (by
      rw [hl]
      intro j hj
      have := hcl (slF m1 j, slC l m1 j) (List.mem_map.2 ⟨j, List.mem_range.2 hj, rfl⟩)
      exact fun h => this (tmod_zero.2 (by rw [← hm]; exact h)))
    have e1 : flZ = f := by rw [← hf]; unfold weakF; rw [← hm, hs, if_neg (by simp), show ((m1 + 1 : Nat) : Int).toNat - 1 = m1 by omega, HW]
    have e2 : false = z := by rw [← hz]; unfold weakB; rw [← hm, hs, if_neg (by simp), show ((m1 + 1 : Nat) : Int).toNat - 1 = m1 by omega, HW]; rfl
    rw [e1, e2] at KW
    have HF := Lib.hid hf
    have HZ := Lib.hid hz
    clear e1 e2 hf hz HW hcl
    have hDg1 : D ≠ g1 := by have := HFACT.out; omega
    go_wp2
    refine wp_noPanic ?_
    have KV : WkI w g g1 b8 b9 w5.heap.size (m : Int) f z W.drew := KW.keep (below_drew (Below.refl _ _))
    have hDV : W.drew.heap[D]? = some (.deferred (some [])) := hDF
    refine wp_region_held_drew (S := fun w' => SO g1 W w') (by kernel_rfl) (SO.drew g1 W) (fun _ => ?_)
    have hHeld : SO g1 W W.drew := SO.drew g1 W
    generalize W.drew = V0 at hHeld KV hDV ⊢
    refine wt (i := 0) (oi := ⟨some 31, .load 35 (.tmp 8), 35, "digit.go:101", #[], none⟩) (v := _) (yieldsIf_load_mid (by rfl) _ _ rfl b8 (0) rfl [.int .i64 f.at_, .int .i64 f.other, .int .i64 f.old, .int .i64 f.new] _ (fun w' hSw => (so_blk KW.k8 hSw hg18).range 0 4) Try.underlying35 rfl (by kernel_rfl)) hHeld ?_
    try simp only [zP, zQ, zS, zZ, zC]
    refine wt (i := 1) (oi := ⟨some 32, .load 4 (.tmp 9), 4, "digit.go:101", #[{ on := 2, ground := Ground.gcOnly Departure.lateStores }], none⟩) (v := .bool z) (Or.inl ⟨by rfl, fun w' hSw => by have c9 := (so_blk KW.k9 hSw hg19).cell (j := 0) rfl; go_simp⟩) hHeld ?_
    try simp only [zP, zQ, zS, zZ, zC]
    refine wpAnyH_ready (rs := [2]) (by kernel_rfl) (by simp) ?_
    refine AllReadyH.cons (o := ⟨none, .store 35 (.tmp 4) (.tmp 31), 0, "digit.go:101", #[⟨0, .data⟩, ⟨0, .phase⟩, { on := 1, ground := Ground.textOnly Departure.lateStores }], none⟩) rfl (fun K hK => ?_) AllReadyH.nil
    rw [if_pos (by rfl)]
    refine wp_store_mid 35 (.tmp 4) (.tmp 31) rfl g1 0 #[.int .i64 f.at_, .int .i64 f.other, .int .i64 f.old, .int .i64 f.new] rfl rfl (KV.k1.there 0 4 (by simp)) (by kernel_rfl) (one4 f) ?_
    dsimp only
    have K2 : Blk (V0.setCells g1 0 [.int .i64 f.at_, .int .i64 f.other, .int .i64 f.old, .int .i64 f.new]) g1 35 (flV f) := KV.k1.all rfl
    have H : Below w.heap.size w (V0.setCells g1 0 [.int .i64 f.at_, .int .i64 f.other, .int .i64 f.old, .int .i64 f.new]) := (only_sets g1 0 V0 _).2.2 _ _ hgg1 KV.hB
    have hD2 : (V0.setCells g1 0 [.int .i64 f.at_, .int .i64 f.other, .int .i64 f.old, .int .i64 f.new]).heap[D]? = some (.deferred (some [])) := (sets_other hDg1 _ V0 0).trans hDV
    have hS : SO g1 W (V0.setCells g1 0 [.int .i64 f.at_, .int .i64 f.other, .int .i64 f.old, .int .i64 f.new]) := ⟨by rw [sets_size]; exact hHeld.1, fun k h1 h2 => (sets_other h1 _ V0 0).trans (hHeld.2 k h1 h2)⟩
    clear hHeld KV hDV
    generalize World.setCells V0 g1 0 [.int .i64 f.at_, .int .i64 f.other, .int .i64 f.old, .int .i64 f.new] = VF at K2 H hD2 hS ⊢
    refine hK.out _ _ (hS) (fun hHeld => ?_)
    clear hK K
    try simp only [zP, zQ, zS, zZ, zC]
    refine wpAnyH_ready (rs := [3]) (by kernel_rfl) (by simp) ?_
    refine AllReadyH.cons (o := ⟨some 5, .assign (.tmp 32), 4, "digit.go:101", #[⟨1, .data⟩, ⟨2, .chain⟩, ⟨0, .phase⟩, ⟨1, .phase⟩, ⟨2, .phase⟩], none⟩) rfl (fun K hK => ?_) AllReadyH.nil
    go_simp
    refine hK.out _ _ (hHeld) (fun hHeld => ?_)
    clear hK K
    try simp only [zP, zQ, zS, zZ, zC]
    refine wpAnyH_ready (rs := [4]) (by kernel_rfl) (by simp) ?_
    refine AllReadyH.cons (o := ⟨some 6, .assign (.const (Value.int IntKind.i64 0)), 26, "digit.go:101", #[⟨3, .chain⟩, ⟨0, .phase⟩, ⟨1, .phase⟩, ⟨2, .phase⟩, ⟨3, .phase⟩], none⟩) rfl (fun K hK => ?_) AllReadyH.nil
    go_simp
    refine hK.out _ _ (hHeld) (fun hHeld => ?_)
    clear hK K
    try simp only [zP, zQ, zS, zZ, zC]
    refine wpAnyH_done (by kernel_rfl) ?_ _
    clear hHeld
    dsimp only [noPanic]
    go_wp2
    have hB9 := belowK_b (n₀ := w.heap.size) (w := w5) hws VF D (.deferred (some [])) (.deferred none) hD hD2 rfl rfl
    have K3 := blk_grown K2 (grownBy_putObj' VF D (.deferred none)) (fun r e => by cases e; exact ⟨_, hD2, rfl⟩)
    refine ⟨by simp, .inl ⟨_, _, rfl, run_takeDeferred hD2, ?_⟩⟩
    exact ⟨_, results_cnn rfl _ _ rfl rfl rfl (K3.loadVarS Try.underlying35 (by kernel_rfl)), (by rw [HF.out, HZ.out]; rfl), H.trans hB9⟩
  case stop =>
    rintro D cd pre W hD ⟨k, hk, rfl⟩ ⟨rfl, pre', x, e2, h1, h2, KW⟩ hDF
    rw [slU_snoc] at e2
    obtain ⟨e3, e4⟩ := List.append_inj' e2 rfl
    subst e3
    obtain rfl : (slF m1 k, slC l m1 k) = x := by injection e4
    obtain ⟨f, hf⟩ : ∃ f, weakF l (m : Int) = f := ⟨_, rfl⟩
    obtain ⟨z, hz⟩ : ∃ z, weakB l (m : Int) = z := ⟨_, rfl⟩
    have HW : weakK l m1 = some k := weak_yes (by
      intro j hj
      have := h1 (slF m1 j, slC l m1 j) (List.mem_map.2 ⟨j, List.mem_range.2 hj, rfl⟩)
      exact fun h => this (tmod_zero.2 (by rw [← hm]; exact h))) (by rw [hl]; exact hk) (by have := tmod_zero.1 h2; rw [← hm] at this; exact this)
    have e1 : slF m1 k = f := by rw [← hf]; unfold weakF; rw [← hm, hs, if_neg (by simp), show ((m1 + 1 : Nat) : Int).toNat - 1 = m1 by omega, HW]
    have e5 : true = z := by rw [← hz]; unfold weakB; rw [← hm, hs, if_neg (by simp), show ((m1 + 1 : Nat) : Int).toNat - 1 = m1 by omega, HW]; rfl
    dsimp only at KW
    rw [e1, e5] at KW
    have HF := Lib.hid hf
    have HZ := Lib.hid hz
    clear e1 e2 e4 e5 hf hz HW h1 h2
    refine wpIn_wide.2 ?_
    have hDg1 : D ≠ g1 := by have := HFACT.out; omega
    go_wp2
    refine wp_noPanic ?_
    have KV : WkI w g g1 b8 b9 w5.heap.size (m : Int) f z W.drew := KW.keep (below_drew (Below.refl _ _))
    have hDV : W.drew.heap[D]? = some (.deferred (some [])) := hDF
    refine wp_region_held_drew (S := fun w' => SO g1 W w') (by kernel_rfl) (SO.drew g1 W) (fun _ => ?_)
    have hHeld : SO g1 W W.drew := SO.drew g1 W
    generalize W.drew = V0 at hHeld KV hDV ⊢
    refine wt (i := 0) (oi := ⟨some 31, .load 35 (.tmp 8), 35, "digit.go:101", #[], none⟩) (v := _) (yieldsIf_load_mid (by rfl) _ _ rfl b8 (0) rfl [.int .i64 f.at_, .int .i64 f.other, .int .i64 f.old, .int .i64 f.new] _ (fun w' hSw => (so_blk KW.k8 hSw hg18).range 0 4) Try.underlying35 rfl (by kernel_rfl)) hHeld ?_
    try simp only [zP, zQ, zS, zZ, zC]
    refine wt (i := 1) (oi := ⟨some 32, .load 4 (.tmp 9), 4, "digit.go:101", #[{ on := 2, ground := Ground.gcOnly Departure.lateStores }], none⟩) (v := .bool z) (Or.inl ⟨by rfl, fun w' hSw => by have c9 := (so_blk KW.k9 hSw hg19).cell (j := 0) rfl; go_simp⟩) hHeld ?_
    try simp only [zP, zQ, zS, zZ, zC]
    refine wpAnyH_ready (rs := [2]) (by kernel_rfl) (by simp) ?_
    refine AllReadyH.cons (o := ⟨none, .store 35 (.tmp 4) (.tmp 31), 0, "digit.go:101", #[⟨0, .data⟩, ⟨0, .phase⟩, { on := 1, ground := Ground.textOnly Departure.lateStores }], none⟩) rfl (fun K hK => ?_) AllReadyH.nil
    rw [if_pos (by rfl)]
    refine wp_store_mid 35 (.tmp 4) (.tmp 31) rfl g1 0 #[.int .i64 f.at_, .int .i64 f.other, .int .i64 f.old, .int .i64 f.new] rfl rfl (KV.k1.there 0 4 (by simp)) (by kernel_rfl) (one4 f) ?_
    dsimp only
    have K2 : Blk (V0.setCells g1 0 [.int .i64 f.at_, .int .i64 f.other, .int .i64 f.old, .int .i64 f.new]) g1 35 (flV f) := KV.k1.all rfl
    have H : Below w.heap.size w (V0.setCells g1 0 [.int .i64 f.at_, .int .i64 f.other, .int .i64 f.old, .int .i64 f.new]) := (only_sets g1 0 V0 _).2.2 _ _ hgg1 KV.hB
    have hD2 : (V0.setCells g1 0 [.int .i64 f.at_, .int .i64 f.other, .int .i64 f.old, .int .i64 f.new]).heap[D]? = some (.deferred (some [])) := (sets_other hDg1 _ V0 0).trans hDV
    have hS : SO g1 W (V0.setCells g1 0 [.int .i64 f.at_, .int .i64 f.other, .int .i64 f.old, .int .i64 f.new]) := ⟨by rw [sets_size]; exact hHeld.1, fun k h1 h2 => (sets_other h1 _ V0 0).trans (hHeld.2 k h1 h2)⟩
    clear hHeld KV hDV
    generalize World.setCells V0 g1 0 [.int .i64 f.at_, .int .i64 f.other, .int .i64 f.old, .int .i64 f.new] = VF at K2 H hD2 hS ⊢
    refine hK.out _ _ (hS) (fun hHeld => ?_)
    clear hK K
    try simp only [zP, zQ, zS, zZ, zC]
    refine wpAnyH_ready (rs := [3]) (by kernel_rfl) (by simp) ?_
    refine AllReadyH.cons (o := ⟨some 5, .assign (.tmp 32), 4, "digit.go:101", #[⟨1, .data⟩, ⟨2, .chain⟩, ⟨0, .phase⟩, ⟨1, .phase⟩, ⟨2, .phase⟩], none⟩) rfl (fun K hK => ?_) AllReadyH.nil
    go_simp
    refine hK.out _ _ (hHeld) (fun hHeld => ?_)
    clear hK K
    try simp only [zP, zQ, zS, zZ, zC]
    refine wpAnyH_ready (rs := [4]) (by kernel_rfl) (by simp) ?_
    refine AllReadyH.cons (o := ⟨some 6, .assign (.const (Value.int IntKind.i64 0)), 26, "digit.go:101", #[⟨3, .chain⟩, ⟨0, .phase⟩, ⟨1, .phase⟩, ⟨2, .phase⟩, ⟨3, .phase⟩], none⟩) rfl (fun K hK => ?_) AllReadyH.nil
    go_simp
    refine hK.out _ _ (hHeld) (fun hHeld => ?_)
    clear hK K
    try simp only [zP, zQ, zS, zZ, zC]
    refine wpAnyH_done (by kernel_rfl) ?_ _
    clear hHeld
    dsimp only [noPanic]
    go_wp2
    have hB9 := belowK_b (n₀ := w.heap.size) (w := w5) hws VF D (.deferred (some [])) (.deferred none) hD hD2 rfl rfl
    have K3 := blk_grown K2 (grownBy_putObj' VF D (.deferred none)) (fun r e => by cases e; exact ⟨_, hD2, rfl⟩)
    refine ⟨by simp, .inl ⟨_, _, rfl, run_takeDeferred hD2, ?_⟩⟩
    exact ⟨_, results_cnn rfl _ _ rfl rfl rfl (K3.loadVarS Try.underlying35 (by kernel_rfl)), (by rw [HF.out, HZ.out]; rfl), H.trans hB9⟩
theorem weak_any (l : List Int) (m : Int) (A : Option Addr) (n c : Nat) (hl : l.length = n) (hn6 : n ≤ 9223372036854775807) (w : World) (hA : IntsAt w A l) :
    Calls Try.prog 17 #[.slice A n c, .int .i64 m] w (WeakR (weakF l m) (weakB l m) (schE l m) w) := by
  by_cases hs : schE l m = 0
  · obtain ⟨_, h2, h3, _⟩ := schE_ok hs
    obtain ⟨m1, rfl⟩ : ∃ m1 : Nat, m = ((m1 + 1 : Nat) : Int) := ⟨(m - 1).toNat, by omega⟩
    have := weak_good l m1 A n c hl hs w hA
    rw [hs]
    exact this
  · have := weak_bad l m A n c hl hn6 hs w hA
    rw [show weakF l m = flZ by unfold weakF; rw [if_pos hs], show weakB l m = false by unfold weakB; rw [if_pos hs]]
    exact this
end Go.Proofs.Ytjpiidfoegaenaa
