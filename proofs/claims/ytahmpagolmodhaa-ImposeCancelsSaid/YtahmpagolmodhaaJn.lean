/-
  Read of the program.
-/
import Derived.Test.YtahmpagolmodhaaJj
import Derived.Test.YtahmpagolmodhaaJl
namespace Go.Proofs.Ytahmpagolmodhaa
open Go.RowKit Go.Shelf
set_option linter.unusedVariables false
set_option linter.unusedSimpArgs false
attribute [local go_sem] Oper.semAt_some

/-- The marks of the loops over functions that are over. -/
def Marks (b : Nat) (W : World) (ds : List Deferred) : Prop := ∃ rs : List Nat, rs.Nodup ∧ ds = rs.map (fun r => { target := .collected r, args := #[] }) ∧ ∀ r ∈ rs, b ≤ r ∧ W.heap[r]? = some (.deferred (some []))
theorem Marks.nil (b : Nat) (W : World) : Marks b W [] := ⟨[], List.nodup_nil, rfl, fun r h => by cases h⟩
theorem Marks.keep {b : Nat} {W W' : World} {ds : List Deferred} (h : Marks b W ds) (k : KeepsFrom b W W') : Marks b W' ds := by
  obtain ⟨rs, h1, h2, h3⟩ := h
  exact ⟨rs, h1, h2, fun r hr => ⟨(h3 r hr).1, k.same r _ (h3 r hr).1 (h3 r hr).2 rfl⟩⟩
theorem Marks.grown {b M : Nat} {W W' : World} {ds : List Deferred} {row : Option Nat} (h : Marks b W ds) (hg : W.grownBy W' row) (hr : ∀ r, row = some r → M ≤ r) (hd : ∀ d ∈ ds, ∀ r, d.target = .collected r → r < M) : Marks b W' ds := by
  obtain ⟨rs, h1, h2, h3⟩ := h
  refine ⟨rs, h1, h2, fun r hr2 => ⟨(h3 r hr2).1, ?_⟩⟩
  have h4 := (h3 r hr2).2
  rw [hg.block r (Array.getElem?_eq_some_iff.1 h4).1 (fun e => ?_)]
  · exact h4
  · have h5 := hr r e.symm
    have h6 := hd { target := .collected r, args := #[] } (by rw [h2]; exact List.mem_map.2 ⟨r, hr2, rfl⟩) r rfl
    omega
theorem Marks.lt {b : Nat} {W : World} {ds : List Deferred} (h : Marks b W ds) : ∀ d ∈ ds, ∀ r, d.target = .collected r → r < W.heap.size := by
  obtain ⟨rs, h1, h2, h3⟩ := h
  intro d hd r hr
  rw [h2] at hd
  obtain ⟨r', hr', rfl⟩ := List.mem_map.1 hd
  injection hr with hr
  subst hr
  exact (Array.getElem?_eq_some_iff.1 (h3 _ hr').2).1
theorem Marks.cons {b D M : Nat} {W : World} {ds : List Deferred} (h : Marks b W ds) (hD : W.heap[D]? = some (.deferred (some []))) (hb : b ≤ D) (hM : M ≤ D) (hd : ∀ d ∈ ds, ∀ r, d.target = .collected r → r < M) : Marks b W ({ target := .collected D, args := #[] } :: ds) := by
  obtain ⟨rs, h1, h2, h3⟩ := h
  refine ⟨D :: rs, List.nodup_cons.2 ⟨fun hm => ?_, h1⟩, by rw [h2]; rfl, fun r hr => ?_⟩
  · have h6 := hd { target := .collected D, args := #[] } (by rw [h2]; exact List.mem_map.2 ⟨D, hm, rfl⟩) D rfl
    omega
  · rcases List.mem_cons.1 hr with rfl | hr
    · exact ⟨hb, hD⟩
    · exact h3 r hr
/-- The function leaves by its marks: only they are shut. -/
theorem leave_marks {n b : Nat} {fn : Func} {tmps : Array Value} {R : Ending → World → Prop} : ∀ {ds : List Deferred} {W : World}, Marks b W ds →
    (∀ W', (∀ (k : Nat) (o : Obj), W.heap[k]? = some o → o.isCells = true → W'.heap[k]? = some o) → Below b W W' → ∃ v, (results fn tmps).run Try.prog W' = .ok v W' ∧ R (.returned v) W') →
    LeavesInM Fence.wide n Try.prog fn tmps R ds .returning W
  | [], W, _, h => h W (fun _ _ h _ => h) (Below.refl _ _)
  | d :: ds, W, hm, h => by
    obtain ⟨rs, h1, h2, h3⟩ := hm
    rcases rs with _ | ⟨r, rs⟩
    · cases h2
    · rw [List.map_cons] at h2
      injection h2 with h2a h2b
      subst h2a
      obtain ⟨hbr, hr⟩ := h3 r List.mem_cons_self
      refine ⟨by simp, .inl ⟨r, _, rfl, run_takeDeferred hr, ?_⟩⟩
      refine leave_marks (b := b) ⟨rs, (List.nodup_cons.1 h1).2, h2b, fun r' hr' => ?_⟩ (fun W' hc hb => h W' (fun k o hk ho => hc k o ?_ ho) (((Below.refl b W).grown (grownBy_putObj' W r (.deferred none)) (by have := (Array.getElem?_eq_some_iff.1 hr).1; omega) (fun k e => by cases e; exact hbr)).trans hb))
      · have hne : r' ≠ r := fun e => (List.nodup_cons.1 h1).1 (e ▸ hr')
        exact ⟨(h3 r' (List.mem_cons_of_mem _ hr')).1, by rw [World.putObj_heap_other hne]; exact (h3 r' (List.mem_cons_of_mem _ hr')).2⟩
      · have hne : k ≠ r := fun e => by subst e; rw [hr] at hk; cases hk; cases ho
        rw [World.putObj_heap_other hne]
        exact hk
/-- A list of numbers grows, and its new slice is stored in the list's variable. -/
theorem push_store {w W W6 : World} {b : Nat} {t : TypeId} {v v6 : Value} {l m : List Int} (k1 : Blk W b t [v]) (k2 : OwnR intE W (b + 1) v l) (k3 : Below b w W) (hz : b + 1 ≤ W.heap.size)
    (hO6 : OwnR intE W6 (b + 1) v6 m) (hG6 : W.grownBy W6 v.ownBlock) :
    Blk W6 b t [v] ∧ Blk (W6.setCell ⟨b, 0, none⟩ v6) b t [v6] ∧ OwnR intE (W6.setCell ⟨b, 0, none⟩ v6) (b + 1) v6 m ∧ Below b w (W6.setCell ⟨b, 0, none⟩ v6) ∧ b + 1 ≤ (W6.setCell ⟨b, 0, none⟩ v6).heap.size ∧ ∀ {B : Nat}, KeepsFrom B W (W6.setCell ⟨b, 0, none⟩ v6) := by
  have hb : Blk W6 b t [v] := by
    unfold Blk at *
    rw [hG6.block b (Array.getElem?_eq_some_iff.1 k1).1 (fun e => by have := (own_cells k2 e.symm).1; omega)]
    exact k1
  have hz2 : (W6.setCell ⟨b, 0, none⟩ v6).heap.size = W6.heap.size := by simp [World.setCell]
  exact ⟨hb, hb.set 0 v6, hO6.same (fun g t' cs hg hk => hk.other (by show g ≠ b; have := (own_cells hO6 hg).1; omega) v6), (k3.grown hG6 (by omega) (fun j e => by have := (own_cells k2 e).1; omega)).setCell (Nat.le_refl _) _, by rw [hz2]; exact Nat.le_trans hz hG6.size, ((KeepsOthers.of_grownBy hG6 (fun j o e ho => (own_cells k2 e).2.2 o ho)).from _).trans ((KeepsOthers.setCell _ _ _).from _)⟩
theorem flat2_len (pre : List Bk) : (pre.flatMap (fun x => [x.2.bb, x.2.fa])).length = 2 * pre.length := by
  induction pre with
  | nil => rfl
  | cons x pre ih => rw [List.flatMap_cons, List.length_append, ih]; simp; omega
/-- append of two numbers, inside a fence. -/
theorem push2_in {F : Fence} {nF : Nat} {w : World} {B : Nat} {ops : Array Oper} {rest : List Oper} {o : Oper} {a : Act} {Q : Exit → Act → World → Prop} (hgd : o.guard = none) (s x : Operand)
    (ho : o.op = .call { callee := .builtin .append, args := #[s, x], argTypes := #[intE.ST, intE.ST] })
    (l : List Int) (y z : Int) (v : Value) (hs : a.eval s = v) (hown : OwnR intE w B v l) (hB : B ≤ w.heap.size)
    (c : Nat) (hx : a.eval x = .slice (some ⟨w.heap.size, 0, none⟩) 2 c) (hl : l.length ≤ 1000000000000)
    (h : ∀ v' w', OwnR intE w' B v' (l ++ [y, z]) → w.grownBy w' v.ownBlock → wpListIn F nF Try.prog ops Q rest (a.put o.dst v') w') :
    wpListIn F nF Try.prog ops Q (o :: rest) a (w.alloc (.cells #[.int .i64 y, .int .i64 z] 3)) := by
  obtain ⟨i0, hi, hz0, hz1, hz2⟩ := info_parts intE.info
  refine wpListIn_append_own _ hgd s x intE.ST ho B intE.T i0 intE.zero intE.k intE.bytes intE.und hi hz0 hz1 hz2 intE.zs intE.kpos v l.length (intE.row l) hs (World.ownsRow.alloc hown _) ⟨w.heap.size, 0, none⟩ 2 c [.int .i64 y, .int .i64 z] hx rfl ?c1 ?c2 ?c3 ?c4 ?c5 ?_
  case c1 => intro j u hj; rw [Addr.add_mid, Nat.zero_add]; exact (blk_new w intE.T #[.int .i64 y, .int .i64 z]).cell (by simpa using hj)
  case c2 => intro u hu; simp at hu; rcases hu with rfl | rfl <;> rfl
  case c3 => unfold maxLen; omega
  case c4 => exact Nat.le_trans (Nat.mul_le_mul (show l.length + 2 ≤ 1099511627776 by omega) intE.bb) (by decide)
  case c5 => simp; omega
  intro v' w' hown' hgrow hne
  refine h v' w' ?_ ⟨hgrow.os, hgrow.tape, hgrow.output, by have := hgrow.size; rw [World.size_alloc] at this; omega, fun k hk hkr => ?_⟩
  · unfold OwnR
    rw [intE.row_append, List.length_append]
    exact hown'
  · rw [hgrow.block k (by rw [World.size_alloc]; omega) hkr]
    exact Below.heap_alloc _ _ _ hk
theorem own_ne {α : Type} {E : Elt α} {w : World} {B b : Nat} {v : Value} {l : List α} {t : TypeId} {cs : List Value} (h : OwnR E w B v l) (hb : Blk w b t cs) (ht : t ≠ E.T) : v.ownBlock ≠ some b := by
  intro e
  obtain ⟨h1, ⟨c, h0⟩ | ⟨g', cap, cur, rfl, hB, hh, rest⟩⟩ := h
  · subst c; cases e
  · cases e
    unfold Blk at hb
    rw [hh] at hb
    injection hb with hb
    injection hb with _ hb
    exact ht hb.symm
theorem eq_zero_of {k : Nat} (h : ((k : Int) == 0) = true) : k = 0 := by
  have := eq_of_beq h
  omega
theorem pos_of {k : Nat} (h : ((k : Int) == 0) = false) : 0 < k := by
  rcases Nat.eq_zero_or_pos k with e | e
  · subst e; cases h
  · exact e
/-- Only the way on. -/
def NormQ (Q : Exit → Act → World → Prop) : Exit → Act → World → Prop
  | .normal, a, w => Q .normal a w
  | _, _, _ => False
theorem norm_q {Q : Exit → Act → World → Prop} (e : Exit) (a : Act) (w : World) (h : NormQ Q e a w) : Q e a w := by
  cases e <;> first | exact h | exact h.elim
theorem tw_in {g : List Sh} {q : Int} {E e : Nat} {y : Sh} (h : twE g q 0 = E) (he : e < E) (hy : g[e]? = some y) : (y.q == q) = true := by
  unfold twE at h
  rw [List.drop_zero, Nat.zero_add] at h
  have hp := List.takeWhile_prefix (l := g) (fun s => s.q == q)
  obtain ⟨t, ht⟩ := hp
  have e1 : g[e]? = (g.takeWhile (fun s => s.q == q) ++ t)[e]? := by rw [ht]
  rw [List.getElem?_append_left (by omega)] at e1
  have : (g.takeWhile (fun s => s.q == q))[e]? = some y := by rw [← e1]; exact hy
  exact List.all_eq_true.1 (List.all_takeWhile (l := g)) y (List.mem_of_getElem? this)
theorem tw_out {g : List Sh} {q : Int} {E : Nat} {y : Sh} (h : twE g q 0 = E) {e : Nat} (he : e = E) (hy : g[e]? = some y) : (y.q == q) = false := by
  subst he
  rcases hb : (y.q == q) with _ | _
  · rfl
  · exfalso
    have hq : y.q = q := eq_of_beq hb
    have : ∀ (l : List Sh) (y : Sh), l[(l.takeWhile (fun s => s.q == q)).length]? = some y → (y.q == q) = true → False := by
      intro l
      induction l with
      | nil => intro y h1 _; simp at h1
      | cons x l ih =>
        intro y h1 h2
        rcases hx : (x.q == q) with _ | _
        · rw [List.takeWhile_cons, if_neg (by rw [hx]; exact Bool.false_ne_true)] at h1
          simp at h1
          subst h1
          rw [hx] at h2
          cases h2
        · rw [List.takeWhile_cons, if_pos hx, List.length_cons, List.getElem?_cons_succ] at h1
          exact ih y h1 h2
    unfold twE at h
    rw [List.drop_zero, Nat.zero_add] at h
    rw [← h] at hy
    exact this g y hy hb
def slLen : Value → Nat
  | .slice _ n _ => n
  | _ => 0
/-- Between the quires. -/
def RdP (l : List Sh) (n : Nat) (w : World) (q : Nat) (sv : Value) (ds : List Deferred) (wr : World) : Prop := ∃ (m f k c : Nat) (A : Option Addr) (acc : List Int) (v : Value), sv = .slice A k c ∧ k ≤ c ∧ m + k = n ∧ q ≤ m ∧ At shE w A (l.drop m) ∧ k ≤ f ∧ acc.length ≤ 4 * m ∧ (readF f (q : Int) (l.drop m)).map (acc ++ ·) = readT l ∧ Blk wr w.heap.size 44 [v] ∧ OwnR intE wr (w.heap.size + 1) v acc ∧ Below w.heap.size w wr ∧ w.heap.size + 1 ≤ wr.heap.size ∧ Marks w.heap.size wr ds
def RdI (l : List Sh) (n : Nat) (w : World) (a' : Act) (wr : World) : Prop := ∃ (u6 u7 u8 u9 u10 u11 u12 u13 u14 u15 u16 u17 u18 u19 u20 u21 u22 u23 u24 u25 u26 u27 u28 u29 u30 u31 u32 u33 u34 u35 u36 u37 u38 u39 u40 u41 u42 u43 u44 u45 u46 u47 u48 u49 u50 u51 u52 u53 u54 u55 u56 u57 u58 u59 u60 u61 u62 u63 u64 : Value) (sv : Value) (q : Nat) (ds : List Deferred), a' = { tmps := List.toArray (sv :: undef :: .slice none 0 0 :: .int .i64 0 :: .pointer (some ⟨w.heap.size, 0, none⟩) :: .int .i64 (q : Int) :: u6 :: u7 :: u8 :: u9 :: u10 :: u11 :: u12 :: u13 :: u14 :: u15 :: u16 :: u17 :: u18 :: u19 :: u20 :: u21 :: u22 :: u23 :: u24 :: u25 :: u26 :: u27 :: u28 :: u29 :: u30 :: u31 :: u32 :: u33 :: u34 :: u35 :: u36 :: u37 :: u38 :: u39 :: u40 :: u41 :: u42 :: u43 :: u44 :: u45 :: u46 :: u47 :: u48 :: u49 :: u50 :: u51 :: u52 :: u53 :: u54 :: u55 :: u56 :: u57 :: u58 :: u59 :: u60 :: u61 :: u62 :: u63 :: u64 :: []), defers := ds } ∧ RdP l n w q sv ds wr
def RdN (g : List Sh) (E m : Nat) (R1 : List Int) (w : World) (ds : List Deferred) (v6 : Value) (wr : World) : Prop := ∃ (e : Nat) (acc : List Int) (v : Value), v6 = .int .i64 (e : Int) ∧ e ≤ g.length ∧ e ≤ E ∧ acc.length ≤ 4 * m + 2 * e ∧ acc ++ fwT (segT g e E) = R1 ∧ Blk wr w.heap.size 44 [v] ∧ OwnR intE wr (w.heap.size + 1) v acc ∧ Below w.heap.size w wr ∧ w.heap.size + 1 ≤ wr.heap.size ∧ Marks w.heap.size wr ds
set_option maxHeartbeats 4000000 in
set_option maxRecDepth 100000 in
theorem read_any (l : List Sh) (qa : Option Addr) (n c : Nat) (hl : l.length = n) (hnc : n ≤ c) (hn6 : n ≤ 100000000000) (w : World) (hA : At shE w qa l) :
    Calls Try.prog 22 #[.slice qa n c] w (LstR intE (rdL l) (rdE l) w) := by
  have BK := Lib.hid (fun q m c V => back_in Fence.wide 4 trivial rfl q m c V)
  have fb : Fence.wide.fn 42 := trivial
  have HN := Lib.hid hl
  clear hl
  have N0 := blk_new w 44 #[.slice none 0 0]
  have hB0 : Below w.heap.size w (w.alloc (.cells #[.slice none 0 0] 44)) := (Below.refl _ _).alloc (Nat.le_refl _) _
  refine (callsIn_wide (n := 5)).1 ?_
  refine callsIn_of_wp_marks Try.func22 rfl trivial ?_ rfl
  simp only [Try.ntmps22, List.size_toArray, List.length_cons, List.length_nil, Nat.reduceAdd, Nat.reduceSub, Array.replicate_succ, Array.replicate_zero, List.push_toArray, List.append_toArray, List.nil_append, List.cons_append]
  gi_wp2
  refine wpIn_loop (RdI l n w) (fun a' _ => slLen (a'.tmps.getD 0 undef)) ?_ ?_
  · exact ⟨undef, undef, undef, undef, undef, undef, undef, undef, undef, undef, undef, undef, undef, undef, undef, undef, undef, undef, undef, undef, undef, undef, undef, undef, undef, undef, undef, undef, undef, undef, undef, undef, undef, undef, undef, undef, undef, undef, undef, undef, undef, undef, undef, undef, undef, undef, undef, undef, undef, undef, undef, undef, undef, undef, undef, undef, undef, undef, undef, _, 0, _, rfl, 0, n, n, c, qa, [], _, rfl, hnc, by omega, Nat.le_refl _, hA, Nat.le_refl _, Nat.zero_le _, by rw [List.drop_zero]; unfold readT; rw [HN.out]; show Option.map _ (readF n 0 l) = _; cases readF n 0 l <;> rfl, N0, OwnR.nil _ _ _, hB0, by rw [World.size_alloc]; exact Nat.le_refl _, Marks.nil _ _⟩
  · rintro a0 wr ⟨u6, u7, u8, u9, u10, u11, u12, u13, u14, u15, u16, u17, u18, u19, u20, u21, u22, u23, u24, u25, u26, u27, u28, u29, u30, u31, u32, u33, u34, u35, u36, u37, u38, u39, u40, u41, u42, u43, u44, u45, u46, u47, u48, u49, u50, u51, u52, u53, u54, u55, u56, u57, u58, u59, u60, u61, u62, u63, u64, sv, q, ds, rfl, m, f, k, c, A, acc, v, rfl, hkc, hmk, hqm, hA, hf, hla, hR, k4, hO, hB, hz, hM⟩
    dsimp only
    have hgk : (l.drop m).length = k := by rw [List.length_drop, HN.out]; omega
    obtain ⟨g, hg⟩ : ∃ g, l.drop m = g := ⟨_, rfl⟩
    rw [hg] at hA hR hgk
    rcases Nat.eq_zero_or_pos k with hk0 | hkp
    · subst hk0
      obtain rfl : g = [] := List.eq_nil_of_length_eq_zero hgk
      have HF : readT l = some acc := by rw [← hR, readF_nil]; simp
      have HF2 := Lib.hid (show rdL l = acc ∧ rdE l = 0 from by unfold rdL rdE; rw [HF]; exact ⟨rfl, rfl⟩)
      clear hR HF hg hgk
      obtain ⟨q6, n6, e6, _⟩ := hO.form
      obtain ⟨m6, hm6⟩ : ∃ m, acc.length = m := ⟨_, rfl⟩
      rw [hm6] at e6
      clear hm6 hla
      subst e6
      have c4 := k4.cell (j := 0) rfl
      gi_wp2
      refine leave_marks hM (fun W' hc hb => ⟨.tuple #[.slice q6 m6 n6, .int .i64 0], by simp [results, Try.f22, go_sem], _, by rw [HF2.out.2]; first | done | rfl, by rw [HF2.out.1]; exact (hO.same (fun g t cs _ hk => hc _ _ hk rfl)).mono (by omega), hB.trans hb⟩)
    · have hkz : (0 : Int) < (k : Int) := by omega
      obtain ⟨b, off, rfl, hL⟩ := hA.get (i := 0) (by rw [hgk]; exact hkp)
      have hbl : b < w.heap.size := hL.1
      have RA := Lib.hid (fun (i : Nat) (y : Sh) (hy : g[i]? = some y) w' (h : Below w.heap.size w w') => show w'.rangeAt b (off + i * 5) [.int .i64 y.q, .int .i64 y.fa, .int .i64 y.fb, .int .i64 y.ba, .int .i64 y.bb] from (hL.keep h).range hy)
      obtain ⟨x, hx⟩ : ∃ x, g[0]? = some x := ⟨_, List.getElem?_eq_getElem (by rw [hgk]; exact hkp)⟩
      obtain ⟨E, hE⟩ : ∃ E, twE g (q : Int) 0 = E := ⟨_, rfl⟩
      have hEle := (twE_le (l := g) (q0 := (q : Int)) (e := 0) (Nat.zero_le _)).2
      rw [hE, hgk] at hEle
      have HBAD := Lib.hid (fun (h0 : (0 : Nat) = E) => (show readT l = none from by
        have hxq : x.q ≠ (q : Int) := fun hxq => by
          have h1 := twE_yes hx hxq
          have h2 := (twE_le (l := g) (q0 := (q : Int)) (e := 0 + 1) (by rw [hgk]; exact hkp)).1
          omega
        exact read_bad (a := 0) hx hxq (by rw [List.drop_zero]; exact hR)))
      have HGO := Lib.hid (fun (e : Nat) (hep : 0 < e) (heE : e = E) => (show (readF (f - 1) ((q + 1 : Nat) : Int) (g.drop e)).map (((acc ++ fwT (segT g 0 E)) ++ bwT (segT g 0 e)) ++ ·) = readT l from by
        have hxq : x.q = (q : Int) := Classical.byContradiction fun hxq => by
          have h1 := twE_no hx hxq
          omega
        subst heE
        exact read_step (a := 0) hx (by omega) hxq (by rw [List.drop_zero]; exact hR) (by rw [hxq]; exact hE)))
      obtain ⟨R1, hR1⟩ : ∃ R1, acc ++ fwT (segT g 0 E) = R1 := ⟨_, rfl⟩
      rw [hR1] at HGO
      have HGK := Lib.hid hgk
      have HE := Lib.hid hE
      have HG := Lib.hid hg
      have HLAY := Lib.hid hL
      clear hR hx hL hA hgk hE hg
      gi_wp2
      gi_loopw [6] (fun v6 wr => RdN g E m R1 w ds v6 wr) (fun v _ => k - (intOf v).toNat)
      case atStart => exact ⟨0, acc, v, rfl, Nat.zero_le _, Nat.zero_le _, by omega, hR1, k4, hO, hB, hz, hM⟩
      case round =>
        clear k4 hO hB hz hM hR1 hla
        obtain ⟨e, acc, v, rfl, hen, heE, hla, hr1, k4, hO, hB, hz, hM⟩ := hrel
        rw [HGK.out] at hen
        rcases Nat.lt_or_ge e k with hek | hek
        · have hekz : (e : Int) < (k : Int) := by omega
          obtain ⟨y, hy⟩ : ∃ y, g[e]? = some y := ⟨_, List.getElem?_eq_getElem (by rw [HGK.out]; exact hek)⟩
          have RY := Lib.hid (fun w' h => RA.out e y hy w' h)
          have hcq : wr.cell? ⟨b, off + e * 5, none⟩ = some (.int .i64 y.q) := RY.out wr hB 0 _ rfl
          rcases Nat.lt_or_ge e E with heE2 | heE2
          · have hyq : (y.q == (q : Int)) = true := by
              have h1 : twE g (q : Int) 0 = E := HE.out
              exact tw_in h1 heE2 hy
            have HT := Lib.hid (show e + 1 ≤ g.length ∧ e + 1 ≤ E from ⟨by rw [HGK.out]; omega, heE2⟩)
            rw [seg_fw hy heE2] at hr1
            have HF := Lib.hid (fw_step hr1)
            have hle : acc.length ≤ 1000000000000 := by omega
            have hlz : (acc ++ [y.fb, y.ba]).length = acc.length + 2 := by rw [List.length_append]; rfl
            clear hy hr1
            gi_wp2
            refine Code.wpIn_mono norm_q (wpIn_wide.2 ?_)
            refine wp_region_held_drew (S := fun w' => Below w.heap.size w w') (by kernel_rfl) (below_drew hB) (fun _ => ?_)
            have hHeld : Below w.heap.size w wr.drew := below_drew hB
            replace hO : OwnR intE wr.drew (w.heap.size + 1) v acc := hO
            replace k4 : Blk wr.drew w.heap.size 44 [v] := k4
            replace hM : Marks w.heap.size wr.drew ds := hM
            replace hz : w.heap.size + 1 ≤ wr.drew.heap.size := hz
            generalize wr.drew = V0 at hHeld hO k4 hM hz ⊢
            refine wt (i := 1) (oi := ⟨some 28, .move (.tmp 0), 22, "impose.go:87", #[], none⟩) (v := .slice (some ⟨b, off, none⟩) k c) (Or.inl ⟨by rfl, fun w' hSw => by go_simp⟩) hHeld ?_
            try simp only [zP, zQ, zS, zZ, zC]
            refine wt (i := 2) (oi := ⟨some 29, .move (.tmp 6), 3, "impose.go:87", #[], none⟩) (v := .int .i64 (e : Int)) (Or.inl ⟨by rfl, fun w' hSw => by go_simp⟩) hHeld ?_
            try simp only [zP, zQ, zS, zZ, zC]
            refine wt (i := 3) (oi := ⟨some 30, .indexAddr 22 (.tmp 28) (.tmp 29), 0, "impose.go:87", #[⟨1, .data⟩, ⟨2, .data⟩], none⟩) (v := .pointer (some ⟨b, off + e * 5, none⟩)) (Or.inl ⟨by rfl, fun w' hSw => by go_simp; try (intro hcm; exact absurd hcm (by omega))⟩) hHeld ?_
            try simp only [zP, zQ, zS, zZ, zC]
            refine wt (i := 4) (oi := ⟨some 31, .fieldAddr 64 (.tmp 30) 1, 0, "impose.go:87", #[⟨3, .data⟩], none⟩) (v := .pointer (some ⟨b, off + e * 5 + 1, none⟩)) (Or.inl ⟨by rfl, fun w' hSw => by go_simp⟩) hHeld ?_
            try simp only [zP, zQ, zS, zZ, zC]
            refine wt (i := 5) (oi := ⟨some 32, .indexAddr 25 (.tmp 31) (.const (Value.int IntKind.i64 1)), 0, "impose.go:87", #[⟨4, .data⟩], none⟩) (v := .pointer (some ⟨b, off + e * 5 + 1 + 1, none⟩)) (Or.inl ⟨by rfl, fun w' hSw => by go_simp⟩) hHeld ?_
            try simp only [zP, zQ, zS, zZ, zC]
            refine wt (i := 6) (oi := ⟨some 33, .load 3 (.tmp 32), 3, "impose.go:87", #[⟨5, .data⟩], none⟩) (v := .int .i64 y.fb) (Or.inl ⟨by rfl, fun w' hSw => by have hc := RY.out w' hSw 2 _ rfl; go_simp⟩) hHeld ?_
            try simp only [zP, zQ, zS, zZ, zC]
            refine wt (i := 7) (oi := ⟨some 34, .move (.tmp 0), 22, "impose.go:87", #[], none⟩) (v := .slice (some ⟨b, off, none⟩) k c) (Or.inl ⟨by rfl, fun w' hSw => by go_simp⟩) hHeld ?_
            try simp only [zP, zQ, zS, zZ, zC]
            refine wt (i := 8) (oi := ⟨some 35, .move (.tmp 6), 3, "impose.go:87", #[], none⟩) (v := .int .i64 (e : Int)) (Or.inl ⟨by rfl, fun w' hSw => by go_simp⟩) hHeld ?_
            try simp only [zP, zQ, zS, zZ, zC]
            refine wt (i := 9) (oi := ⟨some 36, .indexAddr 22 (.tmp 34) (.tmp 35), 0, "impose.go:87", #[⟨7, .data⟩, ⟨8, .data⟩], none⟩) (v := .pointer (some ⟨b, off + e * 5, none⟩)) (Or.inl ⟨by rfl, fun w' hSw => by go_simp; try (intro hcm; exact absurd hcm (by omega))⟩) hHeld ?_
            try simp only [zP, zQ, zS, zZ, zC]
            refine wt (i := 10) (oi := ⟨some 37, .fieldAddr 64 (.tmp 36) 2, 0, "impose.go:87", #[⟨9, .data⟩], none⟩) (v := .pointer (some ⟨b, off + e * 5 + 3, none⟩)) (Or.inl ⟨by rfl, fun w' hSw => by go_simp⟩) hHeld ?_
            try simp only [zP, zQ, zS, zZ, zC]
            refine wt (i := 11) (oi := ⟨some 38, .indexAddr 25 (.tmp 37) (.const (Value.int IntKind.i64 0)), 0, "impose.go:87", #[⟨10, .data⟩], none⟩) (v := .pointer (some ⟨b, off + e * 5 + 3, none⟩)) (Or.inl ⟨by rfl, fun w' hSw => by go_simp⟩) hHeld ?_
            try simp only [zP, zQ, zS, zZ, zC]
            refine wt (i := 12) (oi := ⟨some 39, .load 3 (.tmp 38), 3, "impose.go:87", #[⟨11, .data⟩], none⟩) (v := .int .i64 y.ba) (Or.inl ⟨by rfl, fun w' hSw => by have hc := RY.out w' hSw 3 _ rfl; go_simp⟩) hHeld ?_
            try simp only [zP, zQ, zS, zZ, zC]
            have c4 := k4.cell (j := 0) rfl
            have hV0 := hHeld
            refine wpAnyH_ready (rs := [0, 13]) (by kernel_rfl) (by simp) ?_
            refine AllReadyH.cons (o := ⟨some 27, .load 44 (.tmp 4), 44, "impose.go:87", #[], none⟩) rfl (fun K hK => ?_) (AllReadyH.cons (o := ⟨some 40, .buildSlice 44 2 #[(0, .tmp 33), (1, .tmp 39)], 44, "impose.go:87", #[⟨6, .data⟩, ⟨12, .data⟩], none⟩) rfl (fun K hK => ?_) AllReadyH.nil)
            · go_simp
              refine hK.out _ _ (hHeld) (fun hHeld => ?_)
              clear hK K
              try simp only [zP, zQ, zS, zZ, zC]
              refine wpAnyH_ready (rs := [13]) (by kernel_rfl) (by simp) ?_
              refine AllReadyH.cons (o := ⟨some 40, .buildSlice 44 2 #[(0, .tmp 33), (1, .tmp 39)], 44, "impose.go:87", #[⟨6, .data⟩, ⟨12, .data⟩], none⟩) rfl (fun K hK => ?_) AllReadyH.nil
              go_simp
              refine hK.out _ _ (hHeld.alloc hV0.size _) (fun hHeld => ?_)
              clear hK K
              try simp only [zP, zQ, zS, zZ, zC]
              refine wpAnyH_ready (rs := [14]) (by kernel_rfl) (by simp) ?_
              refine AllReadyH.cons (o := ⟨some 41, .call { callee := .builtin .append, args := #[.tmp 27, .tmp 40], argTypes := #[44, 44] }, 44, "impose.go:87", #[⟨0, .data⟩, ⟨13, .data⟩], none⟩) rfl (fun K hK => ?_) AllReadyH.nil
              refine push2_wp (w := V0) (.tmp 27) (.tmp 40) rfl acc y.fb y.ba v rfl hO hz _ rfl hle ?_
              intro v6 W6 hO6 hG6
              obtain ⟨q6, n6, e6, _⟩ := hO6.form
              obtain ⟨m6, hm6⟩ : ∃ m, (acc ++ [y.fb, y.ba]).length = m := ⟨_, rfl⟩
              rw [hm6] at e6
              clear hm6
              subst e6
              obtain ⟨r1, r2, r3, r4, r5, r6⟩ := push_store k4 hO hV0 hz hO6 hG6
              have c6 := r1.cell (j := 0) rfl
              have f6 := r1.free 0
              refine hK.out _ _ (hV0.grown hG6 hV0.size (fun j e => Nat.le_of_succ_le (own_cells hO e).1)) (fun hHeld => ?_)
              clear hK K
              try simp only [zP, zQ, zS, zZ, zC]
              refine wpAnyH_ready (rs := [15]) (by kernel_rfl) (by simp) ?_
              refine AllReadyH.cons (o := ⟨none, .store 44 (.tmp 4) (.tmp 41), 0, "impose.go:87", #[⟨14, .data⟩, ⟨14, .chain⟩, ⟨0, .phase⟩, ⟨1, .phase⟩, ⟨2, .phase⟩, ⟨3, .phase⟩, ⟨4, .phase⟩, ⟨5, .phase⟩, ⟨6, .phase⟩, ⟨7, .phase⟩, ⟨8, .phase⟩, ⟨9, .phase⟩, ⟨10, .phase⟩, ⟨11, .phase⟩, ⟨12, .phase⟩, ⟨13, .phase⟩, ⟨14, .phase⟩], none⟩) rfl (fun K hK => ?_) AllReadyH.nil
              go_simp
              refine hK.out _ _ (r4) (fun hHeld => ?_)
              clear hK K
              try simp only [zP, zQ, zS, zZ, zC]
              refine wpAnyH_done (by kernel_rfl) ?_ _
              have BX := hHeld
              clear hHeld 
              generalize World.setCell W6 ⟨w.heap.size, 0, none⟩ (.slice q6 m6 n6) = W7 at r2 r3 r4 r5 r6 BX ⊢
              have hM7 := hM.keep r6
              unfold NormQ
              dsimp only
              gi_wp2
              exact ⟨⟨e + 1, _, _, by go_num, HT.out.1, HT.out.2, by rw [hlz]; omega, HF.out, r2, r3, r4, r5, hM7⟩, by simp [intOf]; omega⟩
            · go_simp
              refine hK.out _ _ (hHeld.alloc hV0.size _) (fun hHeld => ?_)
              clear hK K
              try simp only [zP, zQ, zS, zZ, zC]
              have c4b : (V0.alloc (.cells #[.int .i64 y.fb, .int .i64 y.ba] 3)).cell? ⟨w.heap.size, 0, none⟩ = some v := (k4.alloc _).cell (j := 0) rfl
              refine wpAnyH_ready (rs := [0]) (by kernel_rfl) (by simp) ?_
              refine AllReadyH.cons (o := ⟨some 27, .load 44 (.tmp 4), 44, "impose.go:87", #[], none⟩) rfl (fun K hK => ?_) AllReadyH.nil
              go_simp
              refine hK.out _ _ (hHeld) (fun hHeld => ?_)
              clear hK K
              try simp only [zP, zQ, zS, zZ, zC]
              refine wpAnyH_ready (rs := [14]) (by kernel_rfl) (by simp) ?_
              refine AllReadyH.cons (o := ⟨some 41, .call { callee := .builtin .append, args := #[.tmp 27, .tmp 40], argTypes := #[44, 44] }, 44, "impose.go:87", #[⟨0, .data⟩, ⟨13, .data⟩], none⟩) rfl (fun K hK => ?_) AllReadyH.nil
              refine push2_wp (w := V0) (.tmp 27) (.tmp 40) rfl acc y.fb y.ba v rfl hO hz _ rfl hle ?_
              intro v6 W6 hO6 hG6
              obtain ⟨q6, n6, e6, _⟩ := hO6.form
              obtain ⟨m6, hm6⟩ : ∃ m, (acc ++ [y.fb, y.ba]).length = m := ⟨_, rfl⟩
              rw [hm6] at e6
              clear hm6
              subst e6
              obtain ⟨r1, r2, r3, r4, r5, r6⟩ := push_store k4 hO hV0 hz hO6 hG6
              have c6 := r1.cell (j := 0) rfl
              have f6 := r1.free 0
              refine hK.out _ _ (hV0.grown hG6 hV0.size (fun j e => Nat.le_of_succ_le (own_cells hO e).1)) (fun hHeld => ?_)
              clear hK K
              try simp only [zP, zQ, zS, zZ, zC]
              refine wpAnyH_ready (rs := [15]) (by kernel_rfl) (by simp) ?_
              refine AllReadyH.cons (o := ⟨none, .store 44 (.tmp 4) (.tmp 41), 0, "impose.go:87", #[⟨14, .data⟩, ⟨14, .chain⟩, ⟨0, .phase⟩, ⟨1, .phase⟩, ⟨2, .phase⟩, ⟨3, .phase⟩, ⟨4, .phase⟩, ⟨5, .phase⟩, ⟨6, .phase⟩, ⟨7, .phase⟩, ⟨8, .phase⟩, ⟨9, .phase⟩, ⟨10, .phase⟩, ⟨11, .phase⟩, ⟨12, .phase⟩, ⟨13, .phase⟩, ⟨14, .phase⟩], none⟩) rfl (fun K hK => ?_) AllReadyH.nil
              go_simp
              refine hK.out _ _ (r4) (fun hHeld => ?_)
              clear hK K
              try simp only [zP, zQ, zS, zZ, zC]
              refine wpAnyH_done (by kernel_rfl) ?_ _
              have BX := hHeld
              clear hHeld 
              generalize World.setCell W6 ⟨w.heap.size, 0, none⟩ (.slice q6 m6 n6) = W7 at r2 r3 r4 r5 r6 BX ⊢
              have hM7 := hM.keep r6
              unfold NormQ
              dsimp only
              gi_wp2
              exact ⟨⟨e + 1, _, _, by go_num, HT.out.1, HT.out.2, by rw [hlz]; omega, HF.out, r2, r3, r4, r5, hM7⟩, by simp [intOf]; omega⟩
          · have hyq : (y.q == (q : Int)) = false := by
              have h1 : twE g (q : Int) 0 = E := HE.out
              exact tw_out h1 (by omega) hy
            have HTE := Lib.hid (show e = E by omega)
            clear hy
            have hek : e ≤ k := hen
            have hekz2 : (e : Int) ≤ (k : Int) := by omega
            have hecz : (e : Int) ≤ (c : Int) := by omega
            have HEC := Lib.hid hek
            clear hek
            gi_wp2_with (first | (gi_at_call 42; refine (BK.out _ _ _ _).mono ?_; rintro _ w4 ⟨rfl, rfl⟩))
            · have he0 : e = 0 := eq_zero_of (by assumption)
              have HF := Lib.hid (show rdL l = [] ∧ rdE l = 2 from by unfold rdL rdE; rw [HBAD.out (he0 ▸ HTE.out)]; exact ⟨rfl, rfl⟩)
              refine leave_marks hM (fun W' hc hb => ⟨.tuple #[.slice none 0 0, .int .i64 2], by simp [results, Try.f22, go_sem], .slice none 0 0, by rw [HF.out.2]; first | done | rfl, by rw [HF.out.1]; exact OwnR.nil _ _ _, hB.trans hb⟩)
            · have hep : 0 < e := pos_of (by assumption)
              have HS := Lib.hid (HGO.out e hep HTE.out)
              have hR1 : acc = R1 := by have := HTE.out; rw [this, seg_end] at hr1; rw [← hr1]; exact (List.append_nil _).symm
              subst hR1
              clear HTE
              have hbx : b < wr.heap.size := Nat.lt_of_lt_of_le hbl hB.size
              have XB := blk_new wr 22 #[.slice (some ⟨b, off, none⟩) e c]
              have hB4 : Below wr.heap.size wr (wr.alloc (.cells #[.slice (some ⟨b, off, none⟩) e c] 22)) := (Below.refl _ _).alloc (Nat.le_refl _) _
              have h4s : (wr.alloc (.cells #[.slice (some ⟨b, off, none⟩) e c] 22)).heap.size = wr.heap.size + 1 := World.size_alloc _ _
              generalize wr.alloc (.cells #[.slice (some ⟨b, off, none⟩) e c] 22) = w4 at XB hB4 h4s ⊢
              have hge : (g.take e).length = e := by rw [List.length_take, HGK.out]; omega
              have hLA : ∀ i s, (g.take e)[i]? = some s → w4.rangeAt b (off + i * 5) [.int .i64 s.q, .int .i64 s.fa, .int .i64 s.fb, .int .i64 s.ba, .int .i64 s.bb] := fun i s hs => RA.out i s (by rw [List.getElem?_take] at hs; split at hs; exact hs; cases hs) w4 (hB.trans (hB4.mono hB.size))
              have hMl := hM.lt
              refine wpIn_rangeFunc_ownH rfl (by omega) (gf := 47) (lb := #[.pointer (some ⟨wr.heap.size, 0, none⟩)]) rfl trivial (enters_of Try.func47 (by kernel_rfl) rfl)
                (back_stops 4 (by omega) wr.heap.size b off c e (g.take e) hge (by omega) w4 (by omega) (by omega) (XB.cell (j := 0) rfl) hLA) keep2_t (keep2_b (by omega) (by omega)) (Below.refl _ _) (fun _ => rfl)
                (fun pre W => ∃ v, Blk W w.heap.size 44 [v] ∧ OwnR intE W (w.heap.size + 1) v (acc ++ pre.flatMap (fun x => [x.2.bb, x.2.fa])) ∧ Blk W wr.heap.size 22 [.slice (some ⟨b, off, none⟩) e c] ∧ Below w.heap.size w W ∧ w4.heap.size ≤ W.heap.size ∧ Marks w.heap.size W ds)
                (fun _ _ _ => False)
                (fun pre W W' row hs hg hr => by
                  obtain ⟨v, k1, k2, k3, k5, k6, k7⟩ := hs
                  have hr2 := fun r e => (hr r e).2
                  exact ⟨v, blk_grown k1 hg hr2, own_grown k2 hg hr2, blk_grown k3 hg hr2, k5.grown hg k5.size (fun r e => by have := (hr r e).1; omega), Nat.le_trans k6 hg.size, k7.grown hg (fun r e => (hr r e).1) (fun d hd r e => by have := hMl d hd r e; omega)⟩)
                (fun _ _ _ _ _ hs _ _ => hs)
                ⟨v, k4.keep hB4, by have := hO.keep hB4; simpa using this, XB, hB.trans (hB4.mono hB.size), Nat.le_refl _, hM.keep (kf_below hB4)⟩
                (fun x a' W => ∃ b8, a' = { tmps := List.toArray (.slice (some ⟨b, off, none⟩) k c :: undef :: .slice none 0 0 :: .int .i64 0 :: .pointer (some ⟨w.heap.size, 0, none⟩) :: .int .i64 (q : Int) :: .int .i64 (e : Int) :: u7 :: .pointer (some ⟨b8, 0, none⟩) :: .slice (some ⟨b, off, none⟩) k c :: .int .i64 (k : Int) :: .bool true :: u12 :: u13 :: .int .i64 (e : Int) :: .slice (some ⟨b, off, none⟩) k c :: .int .i64 (k : Int) :: .bool true :: .bool true :: .slice (some ⟨b, off, none⟩) k c :: .int .i64 (e : Int) :: .pointer (some ⟨b, off + e * 5, none⟩) :: .pointer (some ⟨b, off + e * 5, none⟩) :: .int .i64 y.q :: .int .i64 (q : Int) :: .bool false :: .bool false :: u27 :: u28 :: u29 :: u30 :: u31 :: u32 :: u33 :: u34 :: u35 :: u36 :: u37 :: u38 :: u39 :: u40 :: u41 :: u42 :: u43 :: .int .i64 (e : Int) :: .bool false :: .slice (some ⟨b, off, none⟩) k c :: .int .i64 (e : Int) :: .slice (some ⟨b, off, none⟩) e c :: .func (.func 47) #[] #[.pointer (some ⟨wr.heap.size, 0, none⟩)] :: .int .i64 x.1 :: .agg #[.int .i64 x.2.q, .int .i64 x.2.fa, .int .i64 x.2.fb, .int .i64 x.2.ba, .int .i64 x.2.bb] :: u52 :: u53 :: u54 :: u55 :: u56 :: u57 :: u58 :: u59 :: u60 :: u61 :: u62 :: u63 :: u64 :: []), defers := [] } ∧ Blk W b8 64 (shV x.2) ∧ w4.heap.size ≤ b8)
                (fun x a' _ W W' row hs hg hr => by
                  obtain ⟨b8, e, k1, k2⟩ := hs
                  exact ⟨b8, e, blk_grown k1 hg (fun r e => (hr r e).2), k2⟩)
                ?assign ?body ?done ?stop
              case assign =>
                intro l0 pre x W K hI hK
                unfold bkV
                have N := blk_new W 64 #[.int .i64 0, .int .i64 0, .int .i64 0, .int .i64 0, .int .i64 0]
                have X := new_struct W #[.int .i64 0, .int .i64 0, .int .i64 0, .int .i64 0, .int .i64 0] 64 (shV x.2) rfl
                gi_wp2_with (refine wpListIn_store_mid rfl 64 (.tmp 8) (.tmp 51) rfl W.heap.size 0 (shV x.2).toArray rfl rfl (by simpa [shV] using N.there 0 5 (by simp)) (by kernel_rfl) (all_oneCell_toArray (shE.one x.2)) ?_)
                generalize ((W.alloc (.cells #[.int .i64 0, .int .i64 0, .int .i64 0, .int .i64 0, .int .i64 0] 64)).setCells W.heap.size 0 (shV x.2)) = W2 at X ⊢
                obtain ⟨v, k1, k2, k3, k5, k6, k7⟩ := hI
                exact hK _ _ (kf_below X.1) (Keep2.of X.1 (by omega) (by omega)) ⟨v, k1.keep X.1, k2.keep X.1, k3.keep X.1, k5.trans (X.1.mono k5.size), Nat.le_trans k6 X.1.size, k7.keep (kf_below X.1)⟩ ⟨_, rfl, X.2, k6⟩
              case body =>
                rintro l0 pre x a' W hl0 hr0 ⟨v, k1, k2, k3, k5, k6, k7⟩ ⟨b8, rfl, k8, hb8⟩ hlen
                have hx3 : W.cell? ⟨b8, 3 + 1, none⟩ = some (.int .i64 x.2.bb) := k8.cell (j := 4) rfl
                have hx1 : W.cell? ⟨b8, 1, none⟩ = some (.int .i64 x.2.fa) := k8.cell (j := 1) rfl
                have c7 := k1.cell (j := 0) rfl
                have hn3 := own_ne k2 k3 (by decide)
                have hpl : (pre.flatMap (fun x => [x.2.bb, x.2.fa])).length = 2 * pre.length := flat2_len _
                have hle : (acc ++ pre.flatMap (fun x => [x.2.bb, x.2.fa])).length ≤ 1000000000000 := by rw [List.length_append, hpl]; omega
                have hsn : (acc ++ pre.flatMap (fun x => [x.2.bb, x.2.fa])) ++ [x.2.bb, x.2.fa] = acc ++ (pre ++ [x]).flatMap (fun x => [x.2.bb, x.2.fa]) := by rw [List.flatMap_append, List.append_assoc]; rfl
                have HSN := Lib.hid hsn
                obtain ⟨O, hO⟩ : ∃ O, acc ++ pre.flatMap (fun x => [x.2.bb, x.2.fa]) = O := ⟨_, rfl⟩
                rw [hO] at k2 hle HSN
                clear hsn hpl
                gi_wp2_with (gi_at_builtin; refine push2_in rfl (.tmp 52) (.tmp 59) rfl O x.2.bb x.2.fa _ rfl k2 (by omega) _ rfl hle ?_; intro v6 W6 hO6 hG6; obtain ⟨q6, n6, e6, _⟩ := hO6.form; obtain ⟨m6, hm6⟩ : ∃ m, (O ++ [x.2.bb, x.2.fa]).length = m := ⟨_, rfl⟩; rw [hm6] at e6; clear hm6; subst e6; obtain ⟨r1, r2, r3, r4, r5, r6⟩ := push_store k1 k2 k5 (by omega) hO6 hG6; have c6 := r1.cell (j := 0) rfl; have f6 := r1.free 0)
                have hz7 : (W6.setCell ⟨w.heap.size, 0, none⟩ (.slice q6 m6 n6)).heap.size = W6.heap.size := by simp [World.setCell]
                have hX7 : (W6.setCell ⟨w.heap.size, 0, none⟩ (.slice q6 m6 n6)).heap[wr.heap.size]? = W.heap[wr.heap.size]? := by
                  rw [Below.heap_setCell _ _ _ _ (by show wr.heap.size ≠ w.heap.size; omega)]
                  exact hG6.block _ (by omega) (fun e => hn3 e.symm)
                have hb7 : (W6.setCell ⟨w.heap.size, 0, none⟩ (.slice q6 m6 n6)).heap[b]? = W.heap[b]? := by
                  rw [Below.heap_setCell _ _ _ _ (by show b ≠ w.heap.size; omega)]
                  exact hG6.block _ (by omega) (fun e => by have := (own_cells k2 e.symm).1; omega)
                have hs6 := hG6.size
                exact ⟨r6, ⟨by rw [hz7]; exact hs6, hX7, hb7⟩, _, r2, by rw [← HSN.out]; exact r3, by unfold Blk at *; rw [hX7]; exact k3, r4, by rw [hz7]; omega, k7.keep r6⟩
              case done =>
                rintro D ys W hD hys ⟨v, k1, k2, k3, k5, k6, k7⟩ hK
                have hyl : ys.length = e := by
                  have := congrArg List.length hys
                  rw [List.length_map, List.length_reverse, hge] at this
                  exact this
                have hyf : ys.flatMap (fun x => [x.2.bb, x.2.fa]) = bwT (segT g 0 e) := by
                  rw [show ys.flatMap (fun x => [x.2.bb, x.2.fa]) = (ys.map (·.2)).flatMap (fun s => [s.bb, s.fa]) from by rw [List.flatMap_map], hys]
                  unfold bwT segT
                  rw [List.drop_zero, Nat.sub_zero]
                have hal : (acc ++ ys.flatMap (fun x => [x.2.bb, x.2.fa])).length ≤ 4 * (m + e) := by rw [List.length_append, flat2_len, hyl]; omega
                rw [hyf] at k2 hal
                have HM2 := Lib.hid (k7.cons hK (by omega) hD (fun d hd r e => by have := hMl d hd r e; omega))
                have hgd : (g.drop e).length = k - e := by rw [List.length_drop, HGK.out]
                have hld : l.drop (m + e) = g.drop e := by rw [← HG.out, List.drop_drop]
                obtain ⟨k9, hk9⟩ : ∃ k9, k - e = k9 := ⟨_, rfl⟩
                obtain ⟨c9, hc9⟩ : ∃ c9, c - e = c9 := ⟨_, rfl⟩
                have hek := HEC.out
                have hq1 : (q : Int) + 1 ≤ 100000000001 := by omega
                have hsz1 : w.heap.size + 1 ≤ W.heap.size := by omega
                dsimp only
                rcases Nat.lt_or_ge e c with hc1 | hc1
                · have hne : ¬ (e : Int) = (c : Int) := by omega
                  have hne2 : ¬ c = e := by omega
                  have hne3 : ¬ e = c := by omega
                  have hAt : At shE w (some ⟨b, off + e * 5, none⟩) (l.drop (m + e)) := by
                    rw [hld]
                    intro h0
                    have := HLAY.out.sub e k9
                    rw [List.take_of_length_le (by rw [hgd, hk9]; exact Nat.le_refl _)] at this
                    exact ⟨_, _, rfl, this⟩
                  clear hys hyl hyf hge hLA
                  gi_wp2
                  exact ⟨⟨_, _, _, _, _, _, _, _, _, _, _, _, _, _, _, _, _, _, _, _, _, _, _, _, _, _, _, _, _, _, _, _, _, _, _, _, _, _, _, _, _, _, _, _, _, _, _, _, _, _, _, _, _, _, _, _, _, _, _, _, q + 1, _, rfl, m + e, f - 1, k9, c9, _, _, v, rfl, by omega, by omega, by omega, hAt, by omega, hal, by rw [hld]; exact HS.out, k1, k2, k5, hsz1, HM2.out⟩, by simp [slLen]; omega⟩
                · obtain rfl : e = c := by omega
                  have hAt : At shE w (some ⟨b, off, none⟩) (l.drop (m + e)) := by
                    rw [hld]
                    intro h0
                    exact absurd (List.eq_nil_of_length_eq_zero (by rw [hgd]; omega)) h0
                  have hk90 : k9 = 0 := by omega
                  clear hys hyl hyf hge hLA
                  gi_wp2
                  exact ⟨⟨_, _, _, _, _, _, _, _, _, _, _, _, _, _, _, _, _, _, _, _, _, _, _, _, _, _, _, _, _, _, _, _, _, _, _, _, _, _, _, _, _, _, _, _, _, _, _, _, _, _, _, _, _, _, _, _, _, _, _, _, q + 1, _, rfl, m + e, f - 1, 0, c9, _, _, v, rfl, by omega, by omega, by omega, hAt, by omega, hal, by rw [hld]; exact HS.out, k1, k2, k5, hsz1, HM2.out⟩, by simp [slLen]; omega⟩
              case stop =>
                rintro D cc pre W _ _ h _
                exact h.elim
        · obtain rfl : e = k := by omega
          have hekz : ¬ (e : Int) < (e : Int) := by omega
          have HTE := Lib.hid (show e = E by omega)
          have hek : e ≤ e := hen
          have hekz2 : (e : Int) ≤ (e : Int) := by omega
          have hecz : (e : Int) ≤ (c : Int) := by omega
          have HEC := Lib.hid hek
          clear hek
          gi_wp2_with (first | (gi_at_call 42; refine (BK.out _ _ _ _).mono ?_; rintro _ w4 ⟨rfl, rfl⟩))
          · have hep : 0 < e := hkp
            have HS := Lib.hid (HGO.out e hep HTE.out)
            have hR1 : acc = R1 := by have := HTE.out; rw [this, seg_end] at hr1; rw [← hr1]; exact (List.append_nil _).symm
            subst hR1
            clear HTE
            have hbx : b < wr.heap.size := Nat.lt_of_lt_of_le hbl hB.size
            have XB := blk_new wr 22 #[.slice (some ⟨b, off, none⟩) e c]
            have hB4 : Below wr.heap.size wr (wr.alloc (.cells #[.slice (some ⟨b, off, none⟩) e c] 22)) := (Below.refl _ _).alloc (Nat.le_refl _) _
            have h4s : (wr.alloc (.cells #[.slice (some ⟨b, off, none⟩) e c] 22)).heap.size = wr.heap.size + 1 := World.size_alloc _ _
            generalize wr.alloc (.cells #[.slice (some ⟨b, off, none⟩) e c] 22) = w4 at XB hB4 h4s ⊢
            have hge : (g.take e).length = e := by rw [List.length_take, HGK.out]; omega
            have hLA : ∀ i s, (g.take e)[i]? = some s → w4.rangeAt b (off + i * 5) [.int .i64 s.q, .int .i64 s.fa, .int .i64 s.fb, .int .i64 s.ba, .int .i64 s.bb] := fun i s hs => RA.out i s (by rw [List.getElem?_take] at hs; split at hs; exact hs; cases hs) w4 (hB.trans (hB4.mono hB.size))
            have hMl := hM.lt
            refine wpIn_rangeFunc_ownH rfl (by omega) (gf := 47) (lb := #[.pointer (some ⟨wr.heap.size, 0, none⟩)]) rfl trivial (enters_of Try.func47 (by kernel_rfl) rfl)
              (back_stops 4 (by omega) wr.heap.size b off c e (g.take e) hge (by omega) w4 (by omega) (by omega) (XB.cell (j := 0) rfl) hLA) keep2_t (keep2_b (by omega) (by omega)) (Below.refl _ _) (fun _ => rfl)
              (fun pre W => ∃ v, Blk W w.heap.size 44 [v] ∧ OwnR intE W (w.heap.size + 1) v (acc ++ pre.flatMap (fun x => [x.2.bb, x.2.fa])) ∧ Blk W wr.heap.size 22 [.slice (some ⟨b, off, none⟩) e c] ∧ Below w.heap.size w W ∧ w4.heap.size ≤ W.heap.size ∧ Marks w.heap.size W ds)
              (fun _ _ _ => False)
              (fun pre W W' row hs hg hr => by
                obtain ⟨v, k1, k2, k3, k5, k6, k7⟩ := hs
                have hr2 := fun r e => (hr r e).2
                exact ⟨v, blk_grown k1 hg hr2, own_grown k2 hg hr2, blk_grown k3 hg hr2, k5.grown hg k5.size (fun r e => by have := (hr r e).1; omega), Nat.le_trans k6 hg.size, k7.grown hg (fun r e => (hr r e).1) (fun d hd r e => by have := hMl d hd r e; omega)⟩)
              (fun _ _ _ _ _ hs _ _ => hs)
              ⟨v, k4.keep hB4, by have := hO.keep hB4; simpa using this, XB, hB.trans (hB4.mono hB.size), Nat.le_refl _, hM.keep (kf_below hB4)⟩
              (fun x a' W => ∃ b8, a' = { tmps := List.toArray (.slice (some ⟨b, off, none⟩) e c :: undef :: .slice none 0 0 :: .int .i64 0 :: .pointer (some ⟨w.heap.size, 0, none⟩) :: .int .i64 (q : Int) :: .int .i64 (e : Int) :: u7 :: .pointer (some ⟨b8, 0, none⟩) :: .slice (some ⟨b, off, none⟩) e c :: .int .i64 (e : Int) :: .bool true :: u12 :: u13 :: .int .i64 (e : Int) :: .slice (some ⟨b, off, none⟩) e c :: .int .i64 (e : Int) :: .bool false :: .bool false :: undef :: undef :: undef :: undef :: undef :: undef :: undef :: .bool false :: u27 :: u28 :: u29 :: u30 :: u31 :: u32 :: u33 :: u34 :: u35 :: u36 :: u37 :: u38 :: u39 :: u40 :: u41 :: u42 :: u43 :: .int .i64 (e : Int) :: .bool false :: .slice (some ⟨b, off, none⟩) e c :: .int .i64 (e : Int) :: .slice (some ⟨b, off, none⟩) e c :: .func (.func 47) #[] #[.pointer (some ⟨wr.heap.size, 0, none⟩)] :: .int .i64 x.1 :: .agg #[.int .i64 x.2.q, .int .i64 x.2.fa, .int .i64 x.2.fb, .int .i64 x.2.ba, .int .i64 x.2.bb] :: u52 :: u53 :: u54 :: u55 :: u56 :: u57 :: u58 :: u59 :: u60 :: u61 :: u62 :: u63 :: u64 :: []), defers := [] } ∧ Blk W b8 64 (shV x.2) ∧ w4.heap.size ≤ b8)
              (fun x a' _ W W' row hs hg hr => by
                obtain ⟨b8, e, k1, k2⟩ := hs
                exact ⟨b8, e, blk_grown k1 hg (fun r e => (hr r e).2), k2⟩)
              ?assign ?body ?done ?stop
            case assign =>
              intro l0 pre x W K hI hK
              unfold bkV
              have N := blk_new W 64 #[.int .i64 0, .int .i64 0, .int .i64 0, .int .i64 0, .int .i64 0]
              have X := new_struct W #[.int .i64 0, .int .i64 0, .int .i64 0, .int .i64 0, .int .i64 0] 64 (shV x.2) rfl
              gi_wp2_with (refine wpListIn_store_mid rfl 64 (.tmp 8) (.tmp 51) rfl W.heap.size 0 (shV x.2).toArray rfl rfl (by simpa [shV] using N.there 0 5 (by simp)) (by kernel_rfl) (all_oneCell_toArray (shE.one x.2)) ?_)
              generalize ((W.alloc (.cells #[.int .i64 0, .int .i64 0, .int .i64 0, .int .i64 0, .int .i64 0] 64)).setCells W.heap.size 0 (shV x.2)) = W2 at X ⊢
              obtain ⟨v, k1, k2, k3, k5, k6, k7⟩ := hI
              exact hK _ _ (kf_below X.1) (Keep2.of X.1 (by omega) (by omega)) ⟨v, k1.keep X.1, k2.keep X.1, k3.keep X.1, k5.trans (X.1.mono k5.size), Nat.le_trans k6 X.1.size, k7.keep (kf_below X.1)⟩ ⟨_, rfl, X.2, k6⟩
            case body =>
              rintro l0 pre x a' W hl0 hr0 ⟨v, k1, k2, k3, k5, k6, k7⟩ ⟨b8, rfl, k8, hb8⟩ hlen
              have hx3 : W.cell? ⟨b8, 3 + 1, none⟩ = some (.int .i64 x.2.bb) := k8.cell (j := 4) rfl
              have hx1 : W.cell? ⟨b8, 1, none⟩ = some (.int .i64 x.2.fa) := k8.cell (j := 1) rfl
              have c7 := k1.cell (j := 0) rfl
              have hn3 := own_ne k2 k3 (by decide)
              have hpl : (pre.flatMap (fun x => [x.2.bb, x.2.fa])).length = 2 * pre.length := flat2_len _
              have hle : (acc ++ pre.flatMap (fun x => [x.2.bb, x.2.fa])).length ≤ 1000000000000 := by rw [List.length_append, hpl]; omega
              have hsn : (acc ++ pre.flatMap (fun x => [x.2.bb, x.2.fa])) ++ [x.2.bb, x.2.fa] = acc ++ (pre ++ [x]).flatMap (fun x => [x.2.bb, x.2.fa]) := by rw [List.flatMap_append, List.append_assoc]; rfl
              have HSN := Lib.hid hsn
              obtain ⟨O, hO⟩ : ∃ O, acc ++ pre.flatMap (fun x => [x.2.bb, x.2.fa]) = O := ⟨_, rfl⟩
              rw [hO] at k2 hle HSN
              clear hsn hpl
              gi_wp2_with (gi_at_builtin; refine push2_in rfl (.tmp 52) (.tmp 59) rfl O x.2.bb x.2.fa _ rfl k2 (by omega) _ rfl hle ?_; intro v6 W6 hO6 hG6; obtain ⟨q6, n6, e6, _⟩ := hO6.form; obtain ⟨m6, hm6⟩ : ∃ m, (O ++ [x.2.bb, x.2.fa]).length = m := ⟨_, rfl⟩; rw [hm6] at e6; clear hm6; subst e6; obtain ⟨r1, r2, r3, r4, r5, r6⟩ := push_store k1 k2 k5 (by omega) hO6 hG6; have c6 := r1.cell (j := 0) rfl; have f6 := r1.free 0)
              have hz7 : (W6.setCell ⟨w.heap.size, 0, none⟩ (.slice q6 m6 n6)).heap.size = W6.heap.size := by simp [World.setCell]
              have hX7 : (W6.setCell ⟨w.heap.size, 0, none⟩ (.slice q6 m6 n6)).heap[wr.heap.size]? = W.heap[wr.heap.size]? := by
                rw [Below.heap_setCell _ _ _ _ (by show wr.heap.size ≠ w.heap.size; omega)]
                exact hG6.block _ (by omega) (fun e => hn3 e.symm)
              have hb7 : (W6.setCell ⟨w.heap.size, 0, none⟩ (.slice q6 m6 n6)).heap[b]? = W.heap[b]? := by
                rw [Below.heap_setCell _ _ _ _ (by show b ≠ w.heap.size; omega)]
                exact hG6.block _ (by omega) (fun e => by have := (own_cells k2 e.symm).1; omega)
              have hs6 := hG6.size
              exact ⟨r6, ⟨by rw [hz7]; exact hs6, hX7, hb7⟩, _, r2, by rw [← HSN.out]; exact r3, by unfold Blk at *; rw [hX7]; exact k3, r4, by rw [hz7]; omega, k7.keep r6⟩
            case done =>
              rintro D ys W hD hys ⟨v, k1, k2, k3, k5, k6, k7⟩ hK
              have hyl : ys.length = e := by
                have := congrArg List.length hys
                rw [List.length_map, List.length_reverse, hge] at this
                exact this
              have hyf : ys.flatMap (fun x => [x.2.bb, x.2.fa]) = bwT (segT g 0 e) := by
                rw [show ys.flatMap (fun x => [x.2.bb, x.2.fa]) = (ys.map (·.2)).flatMap (fun s => [s.bb, s.fa]) from by rw [List.flatMap_map], hys]
                unfold bwT segT
                rw [List.drop_zero, Nat.sub_zero]
              have hal : (acc ++ ys.flatMap (fun x => [x.2.bb, x.2.fa])).length ≤ 4 * (m + e) := by rw [List.length_append, flat2_len, hyl]; omega
              rw [hyf] at k2 hal
              have HM2 := Lib.hid (k7.cons hK (by omega) hD (fun d hd r e => by have := hMl d hd r e; omega))
              have hgd : (g.drop e).length = e - e := by rw [List.length_drop, HGK.out]
              have hld : l.drop (m + e) = g.drop e := by rw [← HG.out, List.drop_drop]
              obtain ⟨k9, hk9⟩ : ∃ k9, e - e = k9 := ⟨_, rfl⟩
              obtain ⟨c9, hc9⟩ : ∃ c9, c - e = c9 := ⟨_, rfl⟩
              have hek := HEC.out
              have hq1 : (q : Int) + 1 ≤ 100000000001 := by omega
              have hsz1 : w.heap.size + 1 ≤ W.heap.size := by omega
              dsimp only
              rcases Nat.lt_or_ge e c with hc1 | hc1
              · have hne : ¬ (e : Int) = (c : Int) := by omega
                have hne2 : ¬ c = e := by omega
                have hne3 : ¬ e = c := by omega
                have hAt : At shE w (some ⟨b, off + e * 5, none⟩) (l.drop (m + e)) := by
                  rw [hld]
                  intro h0
                  have := HLAY.out.sub e k9
                  rw [List.take_of_length_le (by rw [hgd, hk9]; exact Nat.le_refl _)] at this
                  exact ⟨_, _, rfl, this⟩
                clear hys hyl hyf hge hLA
                gi_wp2
                exact ⟨⟨_, _, _, _, _, _, _, _, _, _, _, _, _, _, _, _, _, _, _, _, _, _, _, _, _, _, _, _, _, _, _, _, _, _, _, _, _, _, _, _, _, _, _, _, _, _, _, _, _, _, _, _, _, _, _, _, _, _, _, _, q + 1, _, rfl, m + e, f - 1, k9, c9, _, _, v, rfl, by omega, by omega, by omega, hAt, by omega, hal, by rw [hld]; exact HS.out, k1, k2, k5, hsz1, HM2.out⟩, by simp [slLen]; omega⟩
              · obtain rfl : e = c := by omega
                have hAt : At shE w (some ⟨b, off, none⟩) (l.drop (m + e)) := by
                  rw [hld]
                  intro h0
                  exact absurd (List.eq_nil_of_length_eq_zero (by rw [hgd]; omega)) h0
                have hk90 : k9 = 0 := by omega
                clear hys hyl hyf hge hLA
                gi_wp2
                exact ⟨⟨_, _, _, _, _, _, _, _, _, _, _, _, _, _, _, _, _, _, _, _, _, _, _, _, _, _, _, _, _, _, _, _, _, _, _, _, _, _, _, _, _, _, _, _, _, _, _, _, _, _, _, _, _, _, _, _, _, _, _, _, q + 1, _, rfl, m + e, f - 1, 0, 0, _, _, v, rfl, by omega, by omega, by omega, hAt, by omega, hal, by rw [hld]; exact HS.out, k1, k2, k5, hsz1, HM2.out⟩, by simp [slLen]; omega⟩
            case stop =>
              rintro D cc pre W _ _ h _
              exact h.elim
end Go.Proofs.Ytahmpagolmodhaa
