/-
  BreaksChecks: its walk.
-/
import Derived.Test.YtacdjchkilheiaaDj
namespace Go.Proofs.Ytacdjchkilheiaa
open Go.RowKit
set_option linter.unusedVariables false
set_option linter.unusedSimpArgs false

abbrev Sl := Option Addr × Nat × Nat
/-- Certificates as elements. -/
def ctE : Elt (Sl × Sl × Sl) where
  T := 32
  ST := 47
  k := 3
  bytes := 72
  zero := .agg #[.slice none 0 0, .slice none 0 0, .slice none 0 0]
  enc := fun s => [.slice s.1.1 s.1.2.1 s.1.2.2, .slice s.2.1.1 s.2.1.2.1 s.2.1.2.2, .slice s.2.2.1 s.2.2.2.1 s.2.2.2.2]
  info := by kernel_rfl
  und := Try.underlying47
  len := fun _ => rfl
  one := by intro s u hu; simp at hu; rcases hu with rfl | rfl | rfl <;> rfl
  kpos := by decide
  zs := rfl
  bb := by decide
/-- append onto a slice without room. -/
theorem full_el {α : Type} (E : Elt α) {w : World} {ops : Array Oper} {rest : List Oper} {o : Oper} {a : Act} {Q : Exit → Act → World → Prop} (hgd : o.guard = none) (s x : Operand)
    (ho : o.op = .call { callee := .builtin .append, args := #[s, x], argTypes := #[E.ST, E.ST] })
    (l : List α) (g n : Nat) (hs : a.eval s = .slice (some ⟨g, 0, none⟩) n n) (hn : l.length = n) (hA : At E w (some ⟨g, 0, none⟩) l)
    (m : List α) (q : Option Addr) (k c : Nat) (hx : a.eval x = .slice q k c) (hk : m.length = k) (hk0 : 0 < k) (hA2 : At E w q m) (hl : n + k ≤ 1000000000)
    (h : ∀ g' c' w', OwnR E w' w.heap.size (.slice (some ⟨g', 0, none⟩) (n + k) c') (l ++ m) → Below w.heap.size w w' → wpList Try.prog ops Q rest (a.put o.dst (.slice (some ⟨g', 0, none⟩) (n + k) c')) w') :
    wpList Try.prog ops Q (o :: rest) a w := by
  refine wpList_plain hgd fun _ hK => ?_
  obtain ⟨i0, hi, hz0, hz1, hz2⟩ := info_parts E.info
  have hbb := E.bb
  obtain ⟨b, off, rfl, hL⟩ := hA2 (by intro e; rw [e] at hk; simp at hk; omega)
  have hrl : (E.row m).length = k * E.k := by rw [E.row_length, hk]
  have hro : (E.row l).length = n * E.k := by rw [E.row_length, hn]
  have hbig : (n + k) * E.bytes ≤ 140737488355328 := Nat.le_trans (Nat.mul_le_mul hl hbb) (by decide)
  have hr := run_append_grow (P := Try.prog) w E.ST o.type E.T i0 E.zero E.und hi hz0 ⟨g, 0, none⟩ n n (E.row l) (by rw [hz1]; exact hro) (fun j u hj => by
    obtain ⟨i, j', x', hx', hu', hm, hj'⟩ := E.row_at _ _ _ hj
    obtain ⟨b', off', e, hL'⟩ := hA (by intro e; rw [e] at hx'; simp at hx')
    injection e with e
    injection e with e1 e2 _
    subst e1 e2
    rw [Addr.add_mid, hm, ← Nat.add_assoc]
    exact hL'.2 i x' j' u hx' hu') ⟨b, off, none⟩ k c (E.row m) (by rw [hz1]; exact hrl) (fun j u hj => by
    obtain ⟨i, j', x', hx', hu', hm, hj'⟩ := E.row_at _ _ _ hj
    rw [Addr.add_mid, hm, ← Nat.add_assoc]
    exact hL.2 i x' j' u hx' hu') (by omega) (by omega) (growslice_fits (by omega) (by rw [hz2]; exact hbig))
  have hge := grownCap_ge w (n + k) n E.T
  have hcm : grownCap w (n + k) n E.T ≤ maxLen := grownCap_le_maxLen w (n + k) n E.T (by unfold maxLen; omega)
  generalize hc : grownCap w (n + k) n E.T = cap at hr hge hcm
  unfold Oper.wp execOp
  simp only [ho, resolve, invoke, builtin, Sem.run_bind, Sem.run_pure, Result.andThen_ok, List.map_toArray, List.map_cons, List.map_nil, hs, hx, hr]
  refine hK _ _ (h w.heap.size cap _ ⟨E.row_length _, .inr ⟨w.heap.size, cap, _, by rw [List.length_append, hn, hk], Nat.le_refl _, heap_alloc_new w.drew _, by rw [List.length_append]; omega, hcm, ?_, ?_⟩⟩ ((below_drew (Below.refl _ _)).alloc (Nat.le_refl _) _))
  · simp only [Array.size_append, List.size_toArray, size_zeroCells, E.zs, hrl, hro, ← Nat.add_mul]
    congr 1
    omega
  · simp only [Array.toList_append, List.append_assoc]
    rw [← List.append_assoc, ← E.row_append, ← E.row_length]
    exact List.take_left
/-- A certificate of any integers. -/
def CtX (w : World) (s : Sl × Sl × Sl) : Prop := IntsX w s.1 ∧ IntsX w s.2.1 ∧ IntsX w s.2.2
theorem IntsX.keep {w w' : World} {s : Sl} (h : IntsX w s) (hb : Below w.heap.size w w') : IntsX w' s := by
  obtain ⟨l, e, hA, hn⟩ := h
  exact ⟨l, e, hA.keep hb, hn⟩
theorem CtX.keep {w w' : World} {s : Sl × Sl × Sl} (h : CtX w s) (hb : Below w.heap.size w w') : CtX w' s := ⟨h.1.keep hb, h.2.1.keep hb, h.2.2.keep hb⟩
theorem ctx_of {w : World} {qe : Option Addr} {ne ce : Nat} {ql : Option Addr} {nl cl : Nat} {qc : Option Addr} {nc cc : Nat} {E L C : List Int} (h : CtAt w qe ne ql nl qc nc E L C) (fE : Few E) (fL : Few L) (fC : Few C) : CtX w ((qe, ne, ce), (ql, nl, cl), (qc, nc, cc)) := by
  obtain ⟨h1, h2, h3, h4, h5, h6, a1, a2, a3⟩ := h
  exact ⟨⟨E, h1, a1.ints fE, by show ne ≤ 9223372036854775807; omega⟩, ⟨L, h2, a2.ints fL, by show nl ≤ 9223372036854775807; omega⟩, ⟨C, h3, a3.ints fC, by show nc ≤ 9223372036854775807; omega⟩⟩
theorem ctx_nil {w : World} : CtX w ((none, 0, 0), (none, 0, 0), (none, 0, 0)) := ⟨⟨[], rfl, fun h => absurd rfl h, Nat.zero_le _⟩, ⟨[], rfl, fun h => absurd rfl h, Nat.zero_le _⟩, ⟨[], rfl, fun h => absurd rfl h, Nat.zero_le _⟩⟩
theorem five5 {w : World} {a b c d e : Sl × Sl × Sl} (ha : CtX w a) (hb : CtX w b) (hc : CtX w c) (hd : CtX w d) (he : CtX w e) : ∀ s ∈ [a, b, c, d, e], CtX w s := by
  intro s hs
  simp only [List.mem_cons, List.not_mem_nil, or_false] at hs
  rcases hs with rfl | rfl | rfl | rfl | rfl <;> assumption
theorem own_at_only {w w' : World} {B n c : Nat} {q : Option Addr} {l : List Int} {b : Nat} {cs : List Value} (h : OwnR intE w B (.slice q n c) l) (O : Only b w w') (hb : Blk w b 32 cs) : At intE w' q l := by
  obtain ⟨q', c', e, _, hA, _, _⟩ := (h.only O (own_ne h hb)).form
  injection e with e1 _ _
  rw [e1]
  exact hA
def LaidK (W : World) (B : Nat) (s : Value) (wx : World) : Prop := ∃ (g : Nat) (S : List (Sl × Sl × Sl)), s = .slice (some ⟨g, 0, none⟩) 5 5 ∧ S.length = 5 ∧ OwnR ctE wx B (.slice (some ⟨g, 0, none⟩) 5 5) S ∧ (∀ s ∈ S, CtX wx s) ∧ Below W.heap.size W wx
def LaidO (W : World) (s : Value) (wx : World) : Prop := ∃ (ob : Nat) (s1 s2 s3 : Sl), s = .pointer (some ⟨ob, 0, none⟩) ∧ Blk wx ob 32 [.slice s1.1 s1.2.1 s1.2.2, .slice s2.1 s2.2.1 s2.2.2, .slice s3.1 s3.2.1 s3.2.2] ∧ CtX wx (s1, s2, s3) ∧ Below W.heap.size W wx
theorem wrap_all {x : Int} (h1 : -9223372036854775808 ≤ x) (h2 : x ≤ 9223372036854775807) : IntKind.i64.wrap x = x := by simp [IntKind.wrap, IntKind.signed, IntKind.bits]; omega
theorem tdiv3_in {x : Int} (h1 : -9223372036854775808 ≤ x) (h2 : x ≤ 9223372036854775807) : -9223372036854775808 ≤ x.tdiv 3 ∧ x.tdiv 3 ≤ 9223372036854775807 := by
  cases x with
  | ofNat n =>
    show -9223372036854775808 ≤ ((n / 3 : Nat) : Int) ∧ ((n / 3 : Nat) : Int) ≤ 9223372036854775807
    have : ((n : Nat) : Int) ≤ 9223372036854775807 := h2
    omega
  | negSucc n =>
    show -9223372036854775808 ≤ -(((n + 1) / 3 : Nat) : Int) ∧ -(((n + 1) / 3 : Nat) : Int) ≤ 9223372036854775807
    have : -9223372036854775808 ≤ -((n + 1 : Nat) : Int) := h1
    omega

set_option maxHeartbeats 8000000 in
set_option maxRecDepth 100000 in
theorem breaksChecks_any (A : Option Addr) (l : List Int) (n0 c0 : Nat) (hl : l.length = n0) (n m0 how by_ also : Int) (re : Option Addr) (rne rce : Nat) (rl : Option Addr) (rnl rcl : Nat) (rc : Option Addr) (rnc rcc : Nat) (h1 : -9223372036854775808 ≤ n) (h2 : n ≤ 9223372036854775807) (h3 : -9223372036854775808 ≤ m0) (h4 : m0 ≤ 9223372036854775807) (h5 : -9223372036854775808 ≤ how) (h6 : how ≤ 9223372036854775807) (h7 : -9223372036854775808 ≤ by_) (h8 : by_ ≤ 9223372036854775807) (h9 : -9223372036854775808 ≤ also) (h10 : also ≤ 9223372036854775807) (w : World) (hA : IntsAt w A l) (hRaw : CtX w ((re, rne, rce), (rl, rnl, rcl), (rc, rnc, rcc))) :
    Calls Try.prog 5 #[.slice A n0 c0, .int .i64 n, .int .i64 m0, .int .i64 how, .int .i64 by_, .int .i64 also, .agg #[.slice re rne rce, .slice rl rnl rcl, .slice rc rnc rcc]] w (Told w true) := by
  have HPg := Lib.hid (fun V : World => page_any n m0 h1 h2 h3 h4 V)
  have HWi := Lib.hid (fun (V : World) (h : Below w.heap.size w V) => (widths_any A l n0 c0 hl V (hA.keep h)))
  have HLv := Lib.hid (fun V : World => lives_any V)
  have HRw := Lib.hid (fun (V : World) (h : Below w.heap.size w V) => hRaw.keep h)
  clear hl h1 h2 h3 h4 hA hRaw
  go_enter Try.func5, Try.ntmps5
  go_upto_region 1 with (fail)
  have Kx := blk_new w 28 #[.slice re rne rce, .slice rl rnl rcl, .slice rc rnc rcc]
  have X0 : Below w.heap.size w (w.alloc (.cells #[.slice re rne rce, .slice rl rnl rcl, .slice rc rnc rcc] 28)) := (Below.refl _ _).alloc (Nat.le_refl _) _
  generalize World.alloc w _ = W0 at Kx X0 ⊢
  obtain ⟨xb, hxb⟩ : ∃ xb, w.heap.size = xb := ⟨_, rfl⟩
  rw [hxb] at Kx
  rw [hxb]
  clear hxb
  go_upto_region 2 with (go_at_call 8; refine (HPg.out W0).mono ?_; rintro en W1 ⟨bl, wd, rfl, hbl, hwd, hB⟩)
  replace Kx := Kx.keep hB
  replace hB := link X0 hB
  have HWi := Lib.hid (HWi.out W1 hB)
  go_upto_region 3 with (go_at_call 9; refine HWi.out.mono ?_; rintro en W2 ⟨L, hT, v, rfl, hO, hB2⟩; obtain ⟨q, c, rfl, hc, hAt, _, _⟩ := hO.form)
  replace Kx := Kx.keep hB2
  replace hB := link hB hB2
  obtain ⟨nw, hnw⟩ : ∃ nw, L.length = nw := ⟨_, rfl⟩
  rw [hnw] at hc
  rw [hnw]
  have hnw9 : nw ≤ 9 := by have := hT.1; omega
  obtain ⟨E, Lf, Cf, k0, hfi, hE9, hL9, hC9, _⟩ := fill_law hT bl wd
  obtain ⟨fE, fL, fC⟩ := fill_few hT hfi
  obtain ⟨ne, hne⟩ : ∃ ne, E.length = ne := ⟨_, rfl⟩
  obtain ⟨nl, hnl⟩ : ∃ ne, Lf.length = ne := ⟨_, rfl⟩
  obtain ⟨nc, hnc⟩ : ∃ ne, Cf.length = ne := ⟨_, rfl⟩
  have HFi := Lib.hid (rfill_g (c := c) hnw (by omega) (hAt.ints (tens_few hT)) hfi hne hnl hnc (by omega) (by omega) (by omega))
  have HAt := Lib.hid (fun (V : World) (h : Below W2.heap.size W2 V) => (hAt.keep h).ints (tens_few hT))
  clear hO hAt HPg HWi hB2 hfi hbl hwd X0
  go_upto_region 4 with (first
    | (go_at_call 11; refine HFi.out.mono ?_; rintro en W3 ⟨qe, ql, qc, ce, cl, cc, rfl, hCt3, hB3⟩)
    | (refine store_blk rfl 32 (.tmp 18) (.tmp 37) rfl (blk_new W3 32 zeroCt.toArray) rfl rfl (vs := [.slice qe ne ce, .slice ql nl cl, .slice qc nc cc]) (m := 3) (by kernel_rfl) rfl rfl (by intro v hv; simp at hv; rcases hv with rfl | rfl | rfl <;> rfl) ?_; intro W4 K2 O2))
  try simp only [zP, zQ, zS, zZ, zC]
  have X2 : Below W3.heap.size W3 W4 := O2.2.2 _ _ (Nat.le_refl _) ((Below.refl _ _).alloc (Nat.le_refl _) _)
  have XB := Lib.hid (link (link hB hB3) X2)
  have HAt := Lib.hid (fun (V : World) (h : Below W4.heap.size W4 V) => HAt.out V (link (link hB3 X2) h))
  replace Kx := Kx.keep (link hB3 X2)
  obtain ⟨cb, hcb⟩ : ∃ cb, W3.heap.size = cb := ⟨_, rfl⟩
  rw [hcb] at K2
  rw [hcb]
  have hCt := hCt3.keep X2
  have HX0 := Lib.hid (fun (V : World) (h : Below W4.heap.size W4 V) => ctx_of (ce := ce) (cl := cl) (cc := cc) (hCt.keep h) fE fL fC)
  have HBt := Lib.hid (fun (V : World) (h : Below W4.heap.size W4 V) => bent_any qe ne ce ql nl cl qc nc cc E Lf Cf hne hnl hnc 10 (by omega) (by omega) (by omega) (by omega) fE fL fC how by_ h5 h6 h7 h8 V ((hCt.keep h).2.2.2.2.2.2.1) ((hCt.keep h).2.2.2.2.2.2.2.1) ((hCt.keep h).2.2.2.2.2.2.2.2))
  have H0 := Lib.hid (fun (V : World) (h : Below W4.heap.size W4 V) => (by have := (K2.keep h).range 0 3; exact this : V.rangeAt cb 0 [.slice qe ne ce, .slice ql nl cl, .slice qc nc cc]))
  have K1 := Lib.hid (fun (V : World) (h : Below W4.heap.size W4 V) => (K2.keep h).cell (j := 1) rfl)
  have K2' := Lib.hid (fun (V : World) (h : Below W4.heap.size W4 V) => (K2.keep h).cell (j := 2) rfl)
  have g0 := H0.out W4 (Below.refl _ _)
  clear O2 X2 hB hB3 hcb hCt3 HFi hCt K2 hne hnl hnc hE9 hL9 hC9
  go_upto_region 5 with (first
    | (refine wpList_load_mid rfl 32 (.tmp 18) rfl cb 0 rfl [.slice qe ne ce, .slice ql nl cl, .slice qc nc cc] _ g0 Try.underlying32 rfl (by kernel_rfl) ?_)
    | (go_at_call 19; refine (HBt.out W4 (Below.refl _ _)).mono ?_; rintro en W5 ⟨E5, L5, C5, qe5, ql5, qc5, ne5, nl5, nc5, ce5, cl5, cc5, rfl, hCt5, hn5, hn6, hn7, fE5, fL5, fC5, hB5⟩)
    | (refine store_blk rfl 32 (.tmp 20) (.tmp 42) rfl (blk_new W5 32 zeroCt.toArray) rfl rfl (vs := [.slice qe5 ne5 ce5, .slice ql5 nl5 cl5, .slice qc5 nc5 cc5]) (m := 3) (by kernel_rfl) rfl rfl (by intro v hv; simp at hv; rcases hv with rfl | rfl | rfl <;> rfl) ?_; intro W6 K2 O2))
  try simp only [zP, zQ, zS, zZ, zC]
  have X2 : Below W5.heap.size W5 W6 := O2.2.2 _ _ (Nat.le_refl _) ((Below.refl _ _).alloc (Nat.le_refl _) _)
  have hB6 := link hB5 X2
  have XB := Lib.hid (link XB.out hB6)
  have HAt := Lib.hid (fun (V : World) (h : Below W6.heap.size W6 V) => HAt.out V (link hB6 h))
  have HX0 := Lib.hid (fun (V : World) (h : Below W6.heap.size W6 V) => HX0.out V (link hB6 h))
  have H0 := Lib.hid (fun (V : World) (h : Below W6.heap.size W6 V) => H0.out V (link hB6 h))
  have K1 := Lib.hid (fun (V : World) (h : Below W6.heap.size W6 V) => K1.out V (link hB6 h))
  have K2' := Lib.hid (fun (V : World) (h : Below W6.heap.size W6 V) => K2'.out V (link hB6 h))
  replace Kx := Kx.keep hB6
  obtain ⟨pb, hpb⟩ : ∃ pb, W5.heap.size = pb := ⟨_, rfl⟩
  rw [hpb] at K2
  rw [hpb]
  have hCp := hCt5.keep X2
  have H1 := Lib.hid (fun (V : World) (h : Below W6.heap.size W6 V) => (by have := (K2.keep h).range 0 3; exact this : V.rangeAt pb 0 [.slice qe5 ne5 ce5, .slice ql5 nl5 cl5, .slice qc5 nc5 cc5]))
  have HX1 := Lib.hid (fun (V : World) (h : Below W6.heap.size W6 V) => ctx_of (ce := ce5) (cl := cl5) (cc := cc5) (hCp.keep h) fE5 fL5 fC5)
  have HR := Lib.hid (fun (V : World) (h : Below W6.heap.size W6 V) => (by have := (Kx.keep h).range 0 3; exact this : V.rangeAt xb 0 [.slice re rne rce, .slice rl rnl rcl, .slice rc rnc rcc]))
  have HXR := Lib.hid (fun (V : World) (h : Below W6.heap.size W6 V) => HRw.out V (link XB.out h))
  have h7b := tdiv3_in h7 h8
  have HB2 := Lib.hid (fun (V : World) (h : Below W6.heap.size W6 V) => bent_any qe5 ne5 ce5 ql5 nl5 cl5 qc5 nc5 cc5 E5 L5 C5 hCp.1 hCp.2.1 hCp.2.2.1 21 (by omega) hn5 hn6 hn7 fE5 fL5 fC5 also (by_.tdiv 3) h9 h10 h7b.1 h7b.2 V ((hCp.keep h).2.2.2.2.2.2.1) ((hCp.keep h).2.2.2.2.2.2.2.1) ((hCp.keep h).2.2.2.2.2.2.2.2))
  have HW3 := Lib.hid (wrap_all h7b.1 h7b.2)
  clear g0 K2 O2 X2 hB5 hB6 hpb hCt5 HBt Kx hCp h7b
  go_cut [21] from 21 to 54 (fun s wx => LaidK W6 W6.heap.size s wx)
  case first =>
    refine wp_region_held_drew (S := fun w' => Below W6.heap.size W6 w') (by kernel_rfl) (below_drew (Below.refl _ _)) (fun _ => ?_)
    have hHeld : Below W6.heap.size W6 W6.drew := below_drew (Below.refl _ _)
    generalize W6.drew = V0 at hHeld ⊢
    refine wt (i := 0) (oi := ⟨some 43, .load 32 (.tmp 18), 32, "law.go:86", #[], none⟩) (v := _) (yieldsIf_load_mid (by rfl) _ _ rfl cb (0) rfl [.slice qe ne ce, .slice ql nl cl, .slice qc nc cc] _ (fun w' hSw => H0.out w' hSw) Try.underlying32 rfl (by kernel_rfl)) hHeld ?_
    try simp only [zP, zQ, zS, zZ, zC]
    refine wt (i := 1) (oi := ⟨some 44, .load 32 (.tmp 20), 32, "law.go:86", #[], none⟩) (v := _) (yieldsIf_load_mid (by rfl) _ _ rfl pb (0) rfl [.slice qe5 ne5 ce5, .slice ql5 nl5 cl5, .slice qc5 nc5 cc5] _ (fun w' hSw => H1.out w' hSw) Try.underlying32 rfl (by kernel_rfl)) hHeld ?_
    try simp only [zP, zQ, zS, zZ, zC]
    refine wt (i := 2) (oi := ⟨some 45, .load 32 (.tmp 20), 32, "law.go:86", #[], none⟩) (v := _) (yieldsIf_load_mid (by rfl) _ _ rfl pb (0) rfl [.slice qe5 ne5 ce5, .slice ql5 nl5 cl5, .slice qc5 nc5 cc5] _ (fun w' hSw => H1.out w' hSw) Try.underlying32 rfl (by kernel_rfl)) hHeld ?_
    try simp only [zP, zQ, zS, zZ, zC]
    refine wt (i := 3) (oi := ⟨some 46, .move (.tmp 5), 3, "law.go:86", #[], none⟩) (v := .int .i64 also) (Or.inl ⟨by rfl, fun w' hSw => by go_simp⟩) hHeld ?_
    try simp only [zP, zQ, zS, zZ, zC]
    refine wt (i := 4) (oi := ⟨some 47, .move (.tmp 4), 3, "law.go:86", #[], none⟩) (v := .int .i64 by_) (Or.inl ⟨by rfl, fun w' hSw => by go_simp⟩) hHeld ?_
    try simp only [zP, zQ, zS, zZ, zC]
    refine wt (i := 5) (oi := ⟨some 48, .binOp .quo 3 (.tmp 47) (.const (Value.int IntKind.i64 3)) 3, 3, "law.go:86", #[⟨4, .data⟩], none⟩) (v := .int .i64 (by_.tdiv 3)) (Or.inl ⟨by rfl, fun w' hSw => by have hw := HW3.out; go_simp⟩) hHeld ?_
    try simp only [zP, zQ, zS, zZ, zC]
    refine wt (i := 7) (oi := ⟨some 50, .load 28 (.tmp 13), 28, "law.go:86", #[], none⟩) (v := _) (yieldsIf_load_mid (by rfl) _ _ rfl xb (0) rfl [.slice re rne rce, .slice rl rnl rcl, .slice rc rnc rcc] _ (fun w' hSw => HR.out w' hSw) Try.underlying28 rfl (by kernel_rfl)) hHeld ?_
    try simp only [zP, zQ, zS, zZ, zC]
    refine wt (i := 9) (oi := ⟨some 52, .build 32 #[], 32, "law.go:86", #[], none⟩) (v := .agg #[.slice none 0 0, .slice none 0 0, .slice none 0 0]) (Or.inl ⟨by rfl, fun w' hSw => by go_simp⟩) hHeld ?_
    try simp only [zP, zQ, zS, zZ, zC]
    refine wpAnyH_ready (rs := [6]) (by kernel_rfl) (by simp) ?_
    refine AllReadyH.cons (o := ⟨some 49, .call { callee := .value (.func 19), args := #[.tmp 45, .tmp 46, .tmp 48], argTypes := #[32, 3, 3] }, 32, "law.go:86", #[⟨2, .data⟩, ⟨3, .data⟩, ⟨5, .data⟩], none⟩) rfl (fun K hK => ?_) AllReadyH.nil
    rw [if_pos (by rfl)]
    go_simp
    refine (HB2.out V0 hHeld).mono ?_
    rintro en V1 ⟨E6, L6, C6, qe6, ql6, qc6, ne6, nl6, nc6, ce6, cl6, cc6, rfl, hCt6, hn6, _, _, fE6, fL6, fC6, hB9⟩
    dsimp only
    refine hK.out _ _ (link hHeld hB9) (fun hHeld => ?_)
    clear hK K
    try simp only [zP, zQ, zS, zZ, zC]
    clear hB9
    refine wpAnyH_ready (rs := [8]) (by kernel_rfl) (by simp) ?_
    refine AllReadyH.cons (o := ⟨some 51, .call { callee := .value (.func 15), args := #[.tmp 50], argTypes := #[28] }, 32, "law.go:86", #[⟨7, .data⟩, ⟨6, .chain⟩], none⟩) rfl (fun K hK => ?_) AllReadyH.nil
    rw [if_pos (by rfl)]
    go_simp
    refine (plain_any re rne rce rl rnl rcl rc rnc rcc V1).mono ?_
    rintro en V2 ⟨rfl, hB9⟩
    dsimp only
    replace hCt6 := hCt6.keep hB9
    refine hK.out _ _ (link hHeld hB9) (fun hHeld => ?_)
    clear hK K
    try simp only [zP, zQ, zS, zZ, zC]
    clear hB9
    have hsz := hHeld.size
    refine wpAnyH_ready (rs := [10]) (by kernel_rfl) (by simp) ?_
    refine AllReadyH.cons (o := ⟨some 53, .buildSlice 47 5 #[(0, .tmp 43), (1, .tmp 44), (2, .tmp 49), (3, .tmp 51), (4, .tmp 52)], 47, "law.go:86", #[⟨0, .data⟩, ⟨1, .data⟩, ⟨6, .data⟩, ⟨8, .data⟩, ⟨9, .data⟩], none⟩) rfl (fun K hK => ?_) AllReadyH.nil
    rw [if_pos (by rfl)]
    go_simp
    have X : Below V2.heap.size V2 (World.alloc V2 (.cells #[.slice qe ne ce, .slice ql nl cl, .slice qc nc cc, .slice qe5 ne5 ce5, .slice ql5 nl5 cl5, .slice qc5 nc5 cc5, .slice qe6 ne6 ce6, .slice ql6 nl6 cl6, .slice qc6 nc6 cc6, .slice re rne rce, .slice rl rnl rcl, .slice rc rnc rcc, .slice none 0 0, .slice none 0 0, .slice none 0 0] 32)) := (Below.refl _ _).alloc (Nat.le_refl _) _
    have G : OwnR ctE (World.alloc V2 (.cells #[.slice qe ne ce, .slice ql nl cl, .slice qc nc cc, .slice qe5 ne5 ce5, .slice ql5 nl5 cl5, .slice qc5 nc5 cc5, .slice qe6 ne6 ce6, .slice ql6 nl6 cl6, .slice qc6 nc6 cc6, .slice re rne rce, .slice rl rnl rcl, .slice rc rnc rcc, .slice none 0 0, .slice none 0 0, .slice none 0 0] 32)) V2.heap.size (.slice (some ⟨V2.heap.size, 0, none⟩) 5 5) [((qe, ne, ce), (ql, nl, cl), (qc, nc, cc)), ((qe5, ne5, ce5), (ql5, nl5, cl5), (qc5, nc5, cc5)), ((qe6, ne6, ce6), (ql6, nl6, cl6), (qc6, nc6, cc6)), ((re, rne, rce), (rl, rnl, rcl), (rc, rnc, rcc)), ((none, 0, 0), (none, 0, 0), (none, 0, 0))] := own_new ctE V2 _ _ 5 rfl (by omega) rfl
    have F0 := HX0.out _ (link hHeld X)
    have F1 := HX1.out _ (link hHeld X)
    have F2 := ctx_of (ce := ce6) (cl := cl6) (cc := cc6) (hCt6.keep X) fE6 fL6 fC6
    have F3 := HXR.out _ (link hHeld X)
    refine hK.out _ _ (link hHeld X) (fun hHeld => ?_)
    clear hK K
    try simp only [zP, zQ, zS, zZ, zC]
    generalize World.alloc V2 _ = VF at G F0 F1 F2 F3 X hHeld ⊢
    refine wpAnyH_ready (rs := [11]) (by kernel_rfl) (by simp) ?_
    refine AllReadyH.cons (o := ⟨some 21, .assign (.tmp 53), 47, "law.go:86", #[⟨10, .data⟩, ⟨8, .chain⟩, ⟨0, .phase⟩, ⟨1, .phase⟩, ⟨2, .phase⟩, ⟨3, .phase⟩, ⟨4, .phase⟩, ⟨5, .phase⟩, ⟨6, .phase⟩, ⟨7, .phase⟩, ⟨8, .phase⟩, ⟨9, .phase⟩, ⟨10, .phase⟩], none⟩) rfl (fun K hK => ?_) AllReadyH.nil
    go_simp
    refine hK.out _ _ (hHeld) (fun hHeld => ?_)
    clear hK K
    try simp only [zP, zQ, zS, zZ, zC]
    refine wpAnyH_done (by kernel_rfl) ?_ _
    go_wp2_with fail
    go_meet
    exact ⟨_, _, rfl, rfl, G.mono hsz, five5 F0 F1 F2 F3 ctx_nil, hHeld⟩
  case rest =>
  obtain ⟨g5, S, rfl, hS5, hG, hI, hB⟩ := hcut
  generalize wc = W7 at *
  have hBV := hB.size
  have HX0 := Lib.hid (fun (V : World) (h : Below W7.heap.size W7 V) => HX0.out V (link hB h))
  have K1 := Lib.hid (fun (V : World) (h : Below W7.heap.size W7 V) => K1.out V (link hB h))
  have K2 := Lib.hid (fun (V : World) (h : Below W7.heap.size W7 V) => K2'.out V (link hB h))
  have HAt := Lib.hid (fun (V : World) (h : Below W7.heap.size W7 V) => HAt.out V (link hB h))
  have XB := Lib.hid (link XB.out hB)
  have HEn := Lib.hid (fun (V : World) => ends_any nw hnw9 by_ V)
  obtain ⟨B, hBB⟩ : ∃ B, W6.heap.size = B := ⟨_, rfl⟩
  rw [hBB] at hG hBV
  clear H0 H1 HR HB2 HXR HX1 K2' hB
  go_upto_region 6 with (fail)
  go_cut [22] from 22 to 63 (fun s wx => LaidO W7 s wx)
  case first =>
    refine wp_region_held_drew (S := fun w' => Below W7.heap.size W7 w') (by kernel_rfl) (below_drew (Below.refl _ _)) (fun _ => ?_)
    have hHeld : Below W7.heap.size W7 W7.drew := below_drew (Below.refl _ _)
    generalize W7.drew = V0 at hHeld ⊢
    refine wt (i := 0) (oi := ⟨some 54, .move (.tmp 17), 22, "law.go:87", #[], none⟩) (v := .slice q nw c) (Or.inl ⟨by rfl, fun w' hSw => by go_simp⟩) hHeld ?_
    try simp only [zP, zQ, zS, zZ, zC]
    refine wt (i := 1) (oi := ⟨some 55, .call { callee := .builtin .len, args := #[.tmp 54], argTypes := #[22] }, 3, "law.go:87", #[⟨0, .data⟩], none⟩) (v := .int .i64 (nw : Int)) (Or.inl ⟨by rfl, fun w' hSw => by go_simp⟩) hHeld ?_
    try simp only [zP, zQ, zS, zZ, zC]
    refine wt (i := 2) (oi := ⟨some 56, .move (.tmp 4), 3, "law.go:87", #[], none⟩) (v := .int .i64 by_) (Or.inl ⟨by rfl, fun w' hSw => by go_simp⟩) hHeld ?_
    try simp only [zP, zQ, zS, zZ, zC]
    refine wt (i := 4) (oi := ⟨some 58, .fieldAddr 32 (.tmp 18) 1, 0, "law.go:87", #[], none⟩) (v := .pointer (some ⟨cb, 1, none⟩)) (Or.inl ⟨by rfl, fun w' hSw => by go_simp⟩) hHeld ?_
    try simp only [zP, zQ, zS, zZ, zC]
    refine wt (i := 5) (oi := ⟨some 59, .load 22 (.tmp 58), 22, "law.go:87", #[⟨4, .data⟩], none⟩) (v := .slice ql nl cl) (Or.inl ⟨by rfl, fun w' hSw => by have hc := K1.out w' hSw; go_simp⟩) hHeld ?_
    try simp only [zP, zQ, zS, zZ, zC]
    refine wt (i := 6) (oi := ⟨some 60, .fieldAddr 32 (.tmp 18) 2, 0, "law.go:87", #[], none⟩) (v := .pointer (some ⟨cb, 2, none⟩)) (Or.inl ⟨by rfl, fun w' hSw => by go_simp⟩) hHeld ?_
    try simp only [zP, zQ, zS, zZ, zC]
    refine wt (i := 7) (oi := ⟨some 61, .load 22 (.tmp 60), 22, "law.go:87", #[⟨6, .data⟩], none⟩) (v := .slice qc nc cc) (Or.inl ⟨by rfl, fun w' hSw => by have hc := K2.out w' hSw; go_simp⟩) hHeld ?_
    try simp only [zP, zQ, zS, zZ, zC]
    refine wpAnyH_ready (rs := [3, 9]) (by kernel_rfl) (by simp) ?_
    refine AllReadyH.cons (o := ⟨some 57, .call { callee := .value (.func 18), args := #[.tmp 55, .tmp 56], argTypes := #[3, 3] }, 22, "law.go:87", #[⟨1, .data⟩, ⟨2, .data⟩], none⟩) rfl (fun K hK => ?_) (AllReadyH.cons (o := ⟨some 22, .alloc 32, 0, "law.go:87", #[], none⟩) rfl (fun K hK => ?_) AllReadyH.nil)
    · skip
      rw [if_pos (by rfl)]
      go_simp
      refine (HEn.out V0).mono ?_
      rintro en V1 ⟨L2, hL2, hL2b, v2, rfl, hO2, hB9⟩
      obtain ⟨q2, k2, rfl, _, F2, _, _⟩ := hO2.form
      obtain ⟨n3, hn3⟩ : ∃ n3, L2.length = n3 := ⟨_, rfl⟩
      rw [hn3] at hL2 ⊢
      rw [hn3] at hO2
      clear F2
      dsimp only
      refine hK.out _ _ (link hHeld hB9) (fun hHeld => ?_)
      clear hK K
      try simp only [zP, zQ, zS, zZ, zC]
      clear hB9
      refine wt (i := 8) (oi := ⟨some 62, .build 32 #[(0, .tmp 57), (1, .tmp 59), (2, .tmp 61)], 32, "law.go:87", #[⟨3, .data⟩, ⟨5, .data⟩, ⟨7, .data⟩], none⟩) (v := .agg #[.slice q2 n3 k2, .slice ql nl cl, .slice qc nc cc]) (Or.inl ⟨by rfl, fun w' hSw => by go_simp⟩) hHeld ?_
      try simp only [zP, zQ, zS, zZ, zC]
      refine wpAnyH_ready (rs := [9]) (by kernel_rfl) (by simp) ?_
      refine AllReadyH.cons (o := ⟨some 22, .alloc 32, 0, "law.go:87", #[], none⟩) rfl (fun K hK => ?_) AllReadyH.nil
      rw [if_pos (by rfl)]
      go_simp
      have KN : Blk (World.alloc V1 (.cells #[.slice none 0 0, .slice none 0 0, .slice none 0 0] 32)) V1.heap.size 32 zeroCt := blk_new V1 _ _
      have hob : W7.heap.size ≤ V1.heap.size := hHeld.size
      have X : Below V1.heap.size V1 (World.alloc V1 (.cells #[.slice none 0 0, .slice none 0 0, .slice none 0 0] 32)) := (Below.refl _ _).alloc (Nat.le_refl _) _
      replace hO2 := hO2.keep X
      refine hK.out _ _ (link hHeld X) (fun hHeld => ?_)
      clear hK K
      try simp only [zP, zQ, zS, zZ, zC]
      clear X
      generalize (World.alloc V1 (.cells #[.slice none 0 0, .slice none 0 0, .slice none 0 0] 32)) = V2 at KN hO2 hHeld ⊢
      generalize V1.heap.size = ob at KN hob ⊢
      refine wpAnyH_ready (rs := [10]) (by kernel_rfl) (by simp) ?_
      refine AllReadyH.cons (o := ⟨none, .store 32 (.tmp 22) (.tmp 62), 0, "law.go:87", #[⟨9, .data⟩, ⟨8, .data⟩, ⟨3, .chain⟩, ⟨0, .phase⟩, ⟨1, .phase⟩, ⟨2, .phase⟩, ⟨3, .phase⟩, ⟨4, .phase⟩, ⟨5, .phase⟩, ⟨6, .phase⟩, ⟨7, .phase⟩, ⟨8, .phase⟩, ⟨9, .phase⟩], none⟩) rfl (fun K hK => ?_) AllReadyH.nil
      rw [if_pos (by rfl)]
      refine wp_store_mid 32 (.tmp 22) (.tmp 62) rfl ob 0 #[.slice q2 n3 k2, .slice ql nl cl, .slice qc nc cc] rfl rfl (by simpa using KN.there 0 3 (by simp [zeroCt])) (by kernel_rfl) (all_oneCell_toArray (by intro v hv; simp at hv; rcases hv with rfl | rfl | rfl <;> rfl)) ?_
      have KM : Blk (V2.setCells ob 0 [.slice q2 n3 k2, .slice ql nl cl, .slice qc nc cc]) ob 32 [.slice q2 n3 k2, .slice ql nl cl, .slice qc nc cc] := KN.all rfl
      have O := only_sets ob 0 V2 [.slice q2 n3 k2, .slice ql nl cl, .slice qc nc cc]
      have H := O.2.2 _ _ hob hHeld
      have F9 : CtX (V2.setCells ob 0 [.slice q2 n3 k2, .slice ql nl cl, .slice qc nc cc]) ((q2, n3, k2), (ql, nl, cl), (qc, nc, cc)) := ⟨⟨L2, hn3, (own_at_only hO2 O KN).ints (fun x hx => by have := hL2b x hx; omega), by show n3 ≤ 9223372036854775807; omega⟩, (HX0.out _ H).2.1, (HX0.out _ H).2.2⟩
      dsimp only
      generalize World.setCells V2 ob 0 [.slice q2 n3 k2, .slice ql nl cl, .slice qc nc cc] = VF at KM H F9 ⊢
      refine hK.out _ _ (H) (fun hHeld => ?_)
      clear hK K
      try simp only [zP, zQ, zS, zZ, zC]
      refine wpAnyH_done (by kernel_rfl) ?_ _
      clear hHeld
      go_wp2_with fail
      go_meet
      exact ⟨ob, _, _, _, rfl, KM, F9, H⟩
    · skip
      rw [if_pos (by rfl)]
      go_simp
      have KN : Blk (World.alloc V0 (.cells #[.slice none 0 0, .slice none 0 0, .slice none 0 0] 32)) V0.heap.size 32 zeroCt := blk_new V0 _ _
      have hob : W7.heap.size ≤ V0.heap.size := hHeld.size
      have X : Below V0.heap.size V0 (World.alloc V0 (.cells #[.slice none 0 0, .slice none 0 0, .slice none 0 0] 32)) := (Below.refl _ _).alloc (Nat.le_refl _) _
      refine hK.out _ _ (link hHeld X) (fun hHeld => ?_)
      clear hK K
      try simp only [zP, zQ, zS, zZ, zC]
      clear X
      generalize (World.alloc V0 (.cells #[.slice none 0 0, .slice none 0 0, .slice none 0 0] 32)) = V1 at KN hHeld ⊢
      generalize V0.heap.size = ob at KN hob ⊢
      refine wpAnyH_ready (rs := [3]) (by kernel_rfl) (by simp) ?_
      refine AllReadyH.cons (o := ⟨some 57, .call { callee := .value (.func 18), args := #[.tmp 55, .tmp 56], argTypes := #[3, 3] }, 22, "law.go:87", #[⟨1, .data⟩, ⟨2, .data⟩], none⟩) rfl (fun K hK => ?_) AllReadyH.nil
      rw [if_pos (by rfl)]
      go_simp
      refine (HEn.out V1).mono ?_
      rintro en V2 ⟨L2, hL2, hL2b, v2, rfl, hO2, hB9⟩
      obtain ⟨q2, k2, rfl, _, F2, _, _⟩ := hO2.form
      obtain ⟨n3, hn3⟩ : ∃ n3, L2.length = n3 := ⟨_, rfl⟩
      rw [hn3] at hL2 ⊢
      rw [hn3] at hO2
      clear F2
      dsimp only
      replace KN := KN.keep hB9
      refine hK.out _ _ (link hHeld hB9) (fun hHeld => ?_)
      clear hK K
      try simp only [zP, zQ, zS, zZ, zC]
      clear hB9
      refine wt (i := 8) (oi := ⟨some 62, .build 32 #[(0, .tmp 57), (1, .tmp 59), (2, .tmp 61)], 32, "law.go:87", #[⟨3, .data⟩, ⟨5, .data⟩, ⟨7, .data⟩], none⟩) (v := .agg #[.slice q2 n3 k2, .slice ql nl cl, .slice qc nc cc]) (Or.inl ⟨by rfl, fun w' hSw => by go_simp⟩) hHeld ?_
      try simp only [zP, zQ, zS, zZ, zC]
      refine wpAnyH_ready (rs := [10]) (by kernel_rfl) (by simp) ?_
      refine AllReadyH.cons (o := ⟨none, .store 32 (.tmp 22) (.tmp 62), 0, "law.go:87", #[⟨9, .data⟩, ⟨8, .data⟩, ⟨3, .chain⟩, ⟨0, .phase⟩, ⟨1, .phase⟩, ⟨2, .phase⟩, ⟨3, .phase⟩, ⟨4, .phase⟩, ⟨5, .phase⟩, ⟨6, .phase⟩, ⟨7, .phase⟩, ⟨8, .phase⟩, ⟨9, .phase⟩], none⟩) rfl (fun K hK => ?_) AllReadyH.nil
      rw [if_pos (by rfl)]
      refine wp_store_mid 32 (.tmp 22) (.tmp 62) rfl ob 0 #[.slice q2 n3 k2, .slice ql nl cl, .slice qc nc cc] rfl rfl (by simpa using KN.there 0 3 (by simp [zeroCt])) (by kernel_rfl) (all_oneCell_toArray (by intro v hv; simp at hv; rcases hv with rfl | rfl | rfl <;> rfl)) ?_
      have KM : Blk (V2.setCells ob 0 [.slice q2 n3 k2, .slice ql nl cl, .slice qc nc cc]) ob 32 [.slice q2 n3 k2, .slice ql nl cl, .slice qc nc cc] := KN.all rfl
      have O := only_sets ob 0 V2 [.slice q2 n3 k2, .slice ql nl cl, .slice qc nc cc]
      have H := O.2.2 _ _ hob hHeld
      have F9 : CtX (V2.setCells ob 0 [.slice q2 n3 k2, .slice ql nl cl, .slice qc nc cc]) ((q2, n3, k2), (ql, nl, cl), (qc, nc, cc)) := ⟨⟨L2, hn3, (own_at_only hO2 O KN).ints (fun x hx => by have := hL2b x hx; omega), by show n3 ≤ 9223372036854775807; omega⟩, (HX0.out _ H).2.1, (HX0.out _ H).2.2⟩
      dsimp only
      generalize World.setCells V2 ob 0 [.slice q2 n3 k2, .slice ql nl cl, .slice qc nc cc] = VF at KM H F9 ⊢
      refine hK.out _ _ (H) (fun hHeld => ?_)
      clear hK K
      try simp only [zP, zQ, zS, zZ, zC]
      refine wpAnyH_done (by kernel_rfl) ?_ _
      clear hHeld
      go_wp2_with fail
      go_meet
      exact ⟨ob, _, _, _, rfl, KM, F9, H⟩
  case rest =>
  obtain ⟨ob, ⟨a1, a2, a3⟩, ⟨b1, b2, b3⟩, ⟨d1, d2, d3⟩, rfl, KM, hM, hB⟩ := hcut
  dsimp only at KM
  generalize wc = W8 at *
  replace hG := hG.keep hB
  have hI := Lib.hid (fun (s : Sl × Sl × Sl) (hs : s ∈ S) => (hI s hs).keep hB)
  replace hBV := Nat.le_trans hBV hB.size
  have g0 : W8.rangeAt ob 0 [.slice a1 a2 a3, .slice b1 b2 b3, .slice d1 d2 d3] := by have := KM.range 0 3; exact this
  obtain ⟨q5_, k5_, e5_, _, hG5, _, _⟩ := hG.form
  injection e5_ with e5_ ea eb
  clear ea eb
  subst e5_
  have al1 : ∀ (V : World) (o : Obj), Below V.heap.size V (V.alloc o) := fun V o => (Below.refl _ _).alloc (Nat.le_refl _) _
  go_upto_region 8 with (first
    | (refine wpList_load_mid rfl 32 (.tmp 22) rfl ob 0 rfl [.slice a1 a2 a3, .slice b1 b2 b3, .slice d1 d2 d3] _ g0 Try.underlying32 rfl (by kernel_rfl) ?_)
    | (at_builtin; refine full_el ctE rfl (.tmp 63) (.tmp 65) rfl S g5 5 rfl hS5 (hG5.keep (al1 W8 _)) [((a1, a2, a3), (b1, b2, b3), (d1, d2, d3))] (some ⟨W8.heap.size, 0, none⟩) 1 1 rfl rfl (by omega) (at_new ctE W8 _ _ rfl) (by omega) ?_; intro g6 c6 W9 hO6 hB6; replace hB6 := link (al1 W8 _) hB6))
  have h6 : (S ++ [((a1, a2, a3), (b1, b2, b3), (d1, d2, d3))]).length = 6 := by rw [List.length_append, hS5]; rfl
  obtain ⟨gx, gcx, cs, ex, hgB, hgc, hbk, htk⟩ := hO6.blk (by simp)
  injection ex with ex ea eb
  clear ea eb
  injection ex with ex
  injection ex with ex ea eb
  clear ea eb
  subst ex
  have hlay := lay_blk hbk htk
  have hI6 := Lib.hid (fun (s : Sl × Sl × Sl) (hs : s ∈ S ++ [((a1, a2, a3), (b1, b2, b3), (d1, d2, d3))]) => (show CtX W9 s from by
    rcases List.mem_append.1 hs with h | h
    · exact (hI.out s h).keep hB6
    · rw [List.mem_singleton.1 h]; exact hM.keep hB6))
  obtain ⟨S6, hS6⟩ : ∃ X, S ++ [((a1, a2, a3), (b1, b2, b3), (d1, d2, d3))] = X := ⟨_, rfl⟩
  rw [hS6] at hI6 hlay h6
  have XB := Lib.hid (link XB.out (link hB hB6))
  have HAt := Lib.hid (fun (V : World) (h : Below W9.heap.size W9 V) => HAt.out V (link (link hB hB6) h))
  have HNw := Lib.hid hnw
  clear hbk htk hO6 hG hG5 hI hM hS6 hB hB6 KM g0 HX0 K1 K2 HEn hBV hBB hT hnw
  go_wp2
  go_loopw [23] (fun v wr => NumRel W9 6 v wr) (fun v _ => 6 - (intOf v).toNat)
  case atStart => exact ⟨0, Nat.zero_le _, rfl, Below.refl _ _⟩
  case round =>
    obtain ⟨i, hi, rfl, hB⟩ := hrel
    rcases Nat.lt_or_ge i 6 with hlt | hge
    · obtain ⟨s, hs⟩ : ∃ s, S6[i]? = some s := ⟨_, List.getElem?_eq_getElem (by omega)⟩
      obtain ⟨⟨le, hle, hAe, hne⟩, ⟨ll, hll, hAl, _⟩, ⟨lc, hlc, hAc, _⟩⟩ := hI6.out s (List.mem_of_getElem? hs)
      obtain ⟨⟨xe, xne, xce⟩, ⟨xl, xnl, xcl⟩, ⟨xc, xnc, xcc⟩⟩ := s
      have HRg := Lib.hid (fun (V : World) (h : Below W9.heap.size W9 V) => (by have := (hlay.keep h).range hs; rwa [show ctE.k = 3 from rfl, Nat.zero_add] at this : V.rangeAt g6 (i * 3) [.slice xe xne xce, .slice xl xnl xcl, .slice xc xnc xcc]))
      have hlt5 : (i : Int) < 6 := by omega
      have HP := Lib.hid (fun (V : World) (h : Below W9.heap.size W9 V) => chk_any q L nw c HNw.out bl wd xe le ll lc xne xce hle hne xl xnl xcl xc xnc xcc hll hlc V (HAt.out V h) (hAe.keep h) (hAl.keep h) (hAc.keep h))
      have HQ := Lib.hid (fun (V : World) (h : Below W9.heap.size W9 V) => rcheck_any q L nw c HNw.out (by omega) bl wd xe le ll lc xne xce hle hne xl xnl xcl xc xnc xcc hll hlc V (HAt.out V h) (hAe.keep h) (hAl.keep h) (hAc.keep h))
      generalize chkT L bl wd le ll lc = R at HP HQ
      clear hs hle hAe hne hll hAl hlc hAc
      go_upto_region 11 with (fail)
      refine wp_region_held_drew (S := fun w' => Below W9.heap.size W9 w') (by kernel_rfl) (below_drew (hB)) (fun _ => ?_)
      have hHeld : Below W9.heap.size W9 wr.drew := below_drew (hB)
      generalize wr.drew = V0 at hHeld ⊢
      refine wt (i := 0) (oi := ⟨some 73, .move (.tmp 17), 22, "law.go:90", #[], none⟩) (v := .slice q nw c) (Or.inl ⟨by rfl, fun w' hSw => by go_simp⟩) hHeld ?_
      try simp only [zP, zQ, zS, zZ, zC]
      refine wt (i := 1) (oi := ⟨some 74, .move (.tmp 15), 3, "law.go:90", #[], none⟩) (v := .int .i64 bl) (Or.inl ⟨by rfl, fun w' hSw => by go_simp⟩) hHeld ?_
      try simp only [zP, zQ, zS, zZ, zC]
      refine wt (i := 2) (oi := ⟨some 75, .move (.tmp 16), 3, "law.go:90", #[], none⟩) (v := .int .i64 wd) (Or.inl ⟨by rfl, fun w' hSw => by go_simp⟩) hHeld ?_
      try simp only [zP, zQ, zS, zZ, zC]
      refine wt (i := 3) (oi := ⟨some 76, .move (.tmp 21), 47, "law.go:90", #[], none⟩) (v := .slice (some ⟨g6, 0, none⟩) (5 + 1) c6) (Or.inl ⟨by rfl, fun w' hSw => by go_simp⟩) hHeld ?_
      try simp only [zP, zQ, zS, zZ, zC]
      refine wt (i := 4) (oi := ⟨some 77, .move (.tmp 23), 3, "law.go:90", #[], none⟩) (v := .int .i64 (i : Int)) (Or.inl ⟨by rfl, fun w' hSw => by go_simp⟩) hHeld ?_
      try simp only [zP, zQ, zS, zZ, zC]
      refine wt (i := 5) (oi := ⟨some 78, .indexAddr 47 (.tmp 76) (.tmp 77), 0, "law.go:90", #[⟨3, .data⟩, ⟨4, .data⟩], none⟩) (v := .pointer (some ⟨g6, i * 3, none⟩)) (Or.inl ⟨by rfl, fun w' hSw => by go_simp; try (intro hcm; exact absurd hcm (by omega))⟩) hHeld ?_
      try simp only [zP, zQ, zS, zZ, zC]
      refine wt (i := 6) (oi := ⟨some 79, .load 32 (.tmp 78), 32, "law.go:90", #[⟨5, .data⟩], none⟩) (v := _) (yieldsIf_load_mid (by rfl) _ _ rfl g6 ((i * 3)) rfl [.slice xe xne xce, .slice xl xnl xcl, .slice xc xnc xcc] _ (fun w' hSw => HRg.out w' hSw) Try.underlying32 rfl (by kernel_rfl)) hHeld ?_
      try simp only [zP, zQ, zS, zZ, zC]
      refine wt (i := 9) (oi := ⟨some 82, .move (.tmp 17), 22, "law.go:90", #[], none⟩) (v := .slice q nw c) (Or.inl ⟨by rfl, fun w' hSw => by go_simp⟩) hHeld ?_
      try simp only [zP, zQ, zS, zZ, zC]
      refine wt (i := 10) (oi := ⟨some 83, .move (.tmp 15), 3, "law.go:90", #[], none⟩) (v := .int .i64 bl) (Or.inl ⟨by rfl, fun w' hSw => by go_simp⟩) hHeld ?_
      try simp only [zP, zQ, zS, zZ, zC]
      refine wt (i := 11) (oi := ⟨some 84, .move (.tmp 16), 3, "law.go:90", #[], none⟩) (v := .int .i64 wd) (Or.inl ⟨by rfl, fun w' hSw => by go_simp⟩) hHeld ?_
      try simp only [zP, zQ, zS, zZ, zC]
      refine wt (i := 12) (oi := ⟨some 85, .move (.tmp 21), 47, "law.go:90", #[], none⟩) (v := .slice (some ⟨g6, 0, none⟩) (5 + 1) c6) (Or.inl ⟨by rfl, fun w' hSw => by go_simp⟩) hHeld ?_
      try simp only [zP, zQ, zS, zZ, zC]
      refine wt (i := 13) (oi := ⟨some 86, .move (.tmp 23), 3, "law.go:90", #[], none⟩) (v := .int .i64 (i : Int)) (Or.inl ⟨by rfl, fun w' hSw => by go_simp⟩) hHeld ?_
      try simp only [zP, zQ, zS, zZ, zC]
      refine wt (i := 14) (oi := ⟨some 87, .indexAddr 47 (.tmp 85) (.tmp 86), 0, "law.go:90", #[⟨12, .data⟩, ⟨13, .data⟩], none⟩) (v := .pointer (some ⟨g6, i * 3, none⟩)) (Or.inl ⟨by rfl, fun w' hSw => by go_simp; try (intro hcm; exact absurd hcm (by omega))⟩) hHeld ?_
      try simp only [zP, zQ, zS, zZ, zC]
      refine wt (i := 15) (oi := ⟨some 88, .load 32 (.tmp 87), 32, "law.go:90", #[⟨14, .data⟩], none⟩) (v := _) (yieldsIf_load_mid (by rfl) _ _ rfl g6 ((i * 3)) rfl [.slice xe xne xce, .slice xl xnl xcl, .slice xc xnc xcc] _ (fun w' hSw => HRg.out w' hSw) Try.underlying32 rfl (by kernel_rfl)) hHeld ?_
      try simp only [zP, zQ, zS, zZ, zC]
      refine wpAnyH_ready (rs := [7]) (by kernel_rfl) (by simp) ?_
      refine AllReadyH.cons (o := ⟨some 80, .call { callee := .value (.func 23), args := #[.tmp 79], argTypes := #[32] }, 28, "law.go:90", #[⟨6, .data⟩], none⟩) rfl (fun K hK => ?_) AllReadyH.nil
      rw [if_pos (by rfl)]
      go_simp
      refine (own_any xe xne xce xl xnl xcl xc xnc xcc V0).mono ?_
      rintro en V1 ⟨rfl, hB9⟩
      dsimp only
      refine hK.out _ _ (link hHeld hB9) (fun hHeld => ?_)
      clear hK K
      try simp only [zP, zQ, zS, zZ, zC]
      clear hB9
      refine wpAnyH_ready (rs := [8]) (by kernel_rfl) (by simp) ?_
      refine AllReadyH.cons (o := ⟨some 81, .call { callee := .value (.func 22), args := #[.tmp 73, .tmp 74, .tmp 75, .tmp 80], argTypes := #[22, 3, 3, 28] }, 29, "law.go:90", #[⟨0, .data⟩, ⟨1, .data⟩, ⟨2, .data⟩, ⟨7, .data⟩, ⟨7, .chain⟩], none⟩) rfl (fun K hK => ?_) AllReadyH.nil
      rw [if_pos (by rfl)]
      go_simp
      refine (HP.out V1 hHeld).mono ?_
      rintro en V2 ⟨rfl, hB9⟩
      dsimp only
      refine hK.out _ _ (link hHeld hB9) (fun hHeld => ?_)
      clear hK K
      try simp only [zP, zQ, zS, zZ, zC]
      clear hB9
      refine wpAnyH_ready (rs := [16]) (by kernel_rfl) (by simp) ?_
      refine AllReadyH.cons (o := ⟨some 89, .call { callee := .value (.func 24), args := #[.tmp 82, .tmp 83, .tmp 84, .tmp 88], argTypes := #[22, 3, 3, 32] }, 29, "law.go:90", #[⟨9, .data⟩, ⟨10, .data⟩, ⟨11, .data⟩, ⟨15, .data⟩, ⟨8, .chain⟩], none⟩) rfl (fun K hK => ?_) AllReadyH.nil
      rw [if_pos (by rfl)]
      go_simp
      refine (HQ.out V2 hHeld).mono ?_
      rintro en V3 ⟨rfl, hB9⟩
      dsimp only
      refine hK.out _ _ (link hHeld hB9) (fun hHeld => ?_)
      clear hK K
      try simp only [zP, zQ, zS, zZ, zC]
      clear hB9
      refine wt (i := 17) (oi := ⟨some 90, .binOp .neq 29 (.tmp 81) (.tmp 89) 29, 4, "law.go:90", #[⟨8, .data⟩, ⟨16, .data⟩], none⟩) (v := .bool false) (Or.inl ⟨by rfl, fun w' hSw => by go_simp⟩) hHeld ?_
      try simp only [zP, zQ, zS, zZ, zC]
      refine wpAnyH_done (by kernel_rfl) ?_ _
      have BX := hHeld
      clear hHeld 
      go_wp2
      exact ⟨⟨i + 1, by omega, by go_num, BX⟩, by simp [intOf]; omega⟩
    · obtain rfl : i = 6 := by omega
      go_wp2_with (go_at_call 17; refine (HLv.out wr).mono ?_; rintro en W10 ⟨rfl, hB9⟩)
      go_ret
      exact ⟨rfl, link XB.out (link hB hB9)⟩
end Go.Proofs.Ytacdjchkilheiaa
