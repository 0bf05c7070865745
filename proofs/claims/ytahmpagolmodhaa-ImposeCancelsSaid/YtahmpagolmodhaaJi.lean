/-
  Sheets of the program.
-/
import Derived.Test.YtahmpagolmodhaaJg
import Derived.Test.YtahmpagolmodhaaRm
import Derived.Test.YtahmpagolmodhaaIu
import Derived.Test.YtahmpagolmodhaaIl
namespace Go.Proofs.Ytahmpagolmodhaa
open Go.RowKit Go.Shelf
set_option linter.unusedVariables false
set_option linter.unusedSimpArgs false
attribute [local go_sem] Oper.semAt_some

set_option maxHeartbeats 2000000 in
set_option maxRecDepth 100000 in
theorem sheets_bad (p l : Int) (hv : volE p l ≠ 0) (q : Option Addr) (n c : Nat) (w : World) : Calls Try.prog 32 #[.int .i64 p, .int .i64 l, .slice q n c] w (LstR intE [] (volE p l) w) := by
  have C := Lib.hid (check_any p l)
  generalize volE p l = v at *
  go_enter Try.func32, Try.ntmps32
  go_wp2_with (first | (go_at_call 37; refine (C.out _).mono ?_; rintro _ w2 ⟨rfl, rfl⟩))
  go_ret2
  exact ⟨_, rfl, OwnR.nil _ _ _, Below.refl _ _⟩
theorem blk_grow {w w' : World} {b : Nat} {t : TypeId} {cs : List Value} {row : Option Nat} (h : Blk w b t cs) (hg : w.grownBy w' row) (hne : some b ≠ row) : Blk w' b t cs := by
  unfold Blk at *
  rw [hg.block b (Array.getElem?_eq_some_iff.1 h).1 hne]
  exact h
theorem contains_snoc (l : List Int) (x z : Int) : (l ++ [x]).contains z = (z == x || l.contains z) := by
  induction l with
  | nil => rw [List.nil_append, List.contains_cons]
  | cons y l ih => rw [List.cons_append, List.contains_cons, List.contains_cons, ih]; cases (z == y) <;> cases (z == x) <;> rfl
theorem own_ne {α : Type} {E : Elt α} {w : World} {B b : Nat} {v : Value} {l : List α} {t : TypeId} {cs : List Value} (h : OwnR E w B v l) (hb : Blk w b t cs) (ht : t ≠ E.T) : v.ownBlock ≠ some b := by
  intro e
  obtain ⟨h1, ⟨c, h0⟩ | ⟨g', cap, cur, rfl, hB, hh, rest⟩⟩ := h
  · subst c; cases e
  · cases e
    unfold Blk at hb
    rw [hh] at hb
    injection hb with hb
    injection hb with _ hb
    exact ht hb.symm
/-- What a round of Sheets knows of its blocks. -/
structure Sl (w w3 : World) (X b15 : Nat) (v : Value) (l : List Int) (k a b : Int) (W : World) : Prop where
  k9 : Blk W (w.heap.size + 1) 73 [.map (some w.heap.size)]
  k12 : Blk W X 44 [v]
  k13 : Blk W (X + 1) 3 [.int .i64 k]
  k15 : Blk W b15 25 [.int .i64 a, .int .i64 b]
  own : OwnR intE W (X + 5) v l
  bel : Below w.heap.size w W
  siz : w3.heap.size ≤ W.heap.size
def Stp (w3 : World) (X : Nat) (W W' : World) : Prop := KeepsFrom w3.heap.size W W' ∧ Kept (X + 2) W W'
theorem Stp.trans {w3 A B C : World} {X : Nat} (h : Stp w3 X A B) (k : Stp w3 X B C) : Stp w3 X A C := ⟨h.1.trans k.1, h.2.trans k.2⟩
theorem cell_size (W : World) (a : Addr) (v : Value) : (W.setCell a v).heap.size = W.heap.size := by simp [World.setCell]
section
variable {w w3 W : World} {X b15 : Nat} {v : Value} {l : List Int} {k a b : Int} (hX : w.heap.size + 2 ≤ X) (h3 : X + 5 ≤ w3.heap.size) (h15 : w3.heap.size ≤ b15)
include hX h3 h15
theorem Sl.push {y : Int} (S : Sl w w3 X b15 v l k a b W) {v6 : Value} {W6 : World} (hO : OwnR intE W6 (X + 5) v6 (l ++ [y])) (hG : W.grownBy W6 v.ownBlock) {n : Nat} {T : Int → Bool} (hM : MapAt W w.heap.size n T) :
    Blk W6 X 44 [v] ∧ Sl w w3 X b15 v6 (l ++ [y]) k a b (W6.setCell ⟨X, 0, none⟩ v6) ∧ Stp w3 X W (W6.setCell ⟨X, 0, none⟩ v6) ∧ MapAt (W6.setCell ⟨X, 0, none⟩ v6) w.heap.size n T := by
  have ge : ∀ {j}, v.ownBlock = some j → X + 5 ≤ j := fun e => (own_cells S.own e).1
  have n15 := own_ne S.own S.k15 (by decide)
  have hb : Blk W6 X 44 [v] := blk_grow S.k12 hG (fun e => by have := ge e.symm; omega)
  refine ⟨hb, ⟨(blk_grow S.k9 hG (fun e => by have := ge e.symm; omega)).other (by show w.heap.size + 1 ≠ X; omega) _, hb.set 0 _, (blk_grow S.k13 hG (fun e => by have := ge e.symm; omega)).other (by show X + 1 ≠ X; omega) _, (blk_grow S.k15 hG (fun e => n15 e.symm)).other (by show b15 ≠ X; omega) _, hO.same (fun g t' cs hg hk => hk.other (by show g ≠ X; have := (own_cells hO hg).1; omega) v6), (S.bel.grown hG S.bel.size (fun j e => by have := ge e; omega)).setCell (by show w.heap.size ≤ X; omega) _, by rw [cell_size]; exact Nat.le_trans S.siz hG.size⟩, ⟨((KeepsOthers.of_grownBy hG (fun j o e ho => (own_cells S.own e).2.2 o ho)).from _).trans ((KeepsOthers.setCell _ _ _).from _), ⟨by rw [cell_size]; exact hG.size, fun j h1 h2 => ?_⟩⟩, (hM.kept hG (fun e => by have := ge e.symm; omega)).setCell (by show w.heap.size ≠ X; omega) _⟩
  rw [Below.heap_setCell _ _ _ _ (by show j ≠ X; omega)]
  have := S.siz
  exact hG.block j (by omega) (fun e => by have := ge e.symm; omega)
theorem Sl.map (S : Sl w w3 X b15 v l k a b W) {W' : World} (hG : W.grownBy W' (some w.heap.size)) : Sl w w3 X b15 v l k a b W' ∧ Stp w3 X W W' := by
  have ge : ∀ {j}, v.ownBlock = some j → X + 5 ≤ j := fun e => (own_cells S.own e).1
  have ns : ∀ {j : Nat}, j ≠ w.heap.size → some j ≠ some w.heap.size := fun h e => h (by injection e)
  refine ⟨⟨blk_grow S.k9 hG (ns (by omega)), blk_grow S.k12 hG (ns (by omega)), blk_grow S.k13 hG (ns (by omega)), blk_grow S.k15 hG (ns (by omega)), S.own.same (fun g t' cs hg hk => blk_grow hk hG (ns (by have := ge hg; omega))), S.bel.grown hG S.bel.size (fun j e => by cases e; exact Nat.le_refl _), Nat.le_trans S.siz hG.size⟩, KeepsFrom.of_grownBy hG (fun j e => by cases e; omega), ⟨hG.size, fun j h1 h2 => hG.block j (by have := S.siz; omega) (ns (by omega))⟩⟩
theorem Sl.count (S : Sl w w3 X b15 v l k a b W) (k' : Int) {n : Nat} {T : Int → Bool} (hM : MapAt W w.heap.size n T) : Sl w w3 X b15 v l k' a b (W.setCell ⟨X + 1, 0, none⟩ (.int .i64 k')) ∧ Stp w3 X W (W.setCell ⟨X + 1, 0, none⟩ (.int .i64 k')) ∧ MapAt (W.setCell ⟨X + 1, 0, none⟩ (.int .i64 k')) w.heap.size n T := by
  have ge : ∀ {j}, v.ownBlock = some j → X + 5 ≤ j := fun e => (own_cells S.own e).1
  refine ⟨⟨S.k9.other (by show w.heap.size + 1 ≠ X + 1; omega) _, S.k12.other (by show X ≠ X + 1; omega) _, S.k13.set 0 _, S.k15.other (by show b15 ≠ X + 1; omega) _, S.own.same (fun g t' cs hg hk => hk.other (by show g ≠ X + 1; have := ge hg; omega) _), S.bel.setCell (by show w.heap.size ≤ X + 1; omega) _, by rw [cell_size]; exact S.siz⟩, ⟨(KeepsOthers.setCell _ _ _).from _, ⟨by rw [cell_size]; exact Nat.le_refl _, fun j h1 h2 => Below.heap_setCell _ _ _ _ (by show j ≠ X + 1; omega)⟩⟩, hM.setCell (by show w.heap.size ≠ X + 1; omega) _⟩
end
def prI (x : It) : Int × Int := (cl x.2.1, cl x.2.2)
theorem prI_itU (p h k : Nat) (hp : p ≤ 999) (h1 : 1 ≤ h) (h8 : h ≤ 8) (hk : k ≤ qnT p h * h) : (itU p h k).map prI = psI h k := by
  unfold itU psI
  rw [List.map_map]
  apply List.map_congr_left
  intro j hj
  rw [List.mem_range] at hj
  have := lf_small p h j hp h1 h8 (by omega)
  show (cl _, cl _) = _
  unfold cl itT
  dsimp only
  rw [if_pos (by omega), if_pos (by omega)]
/-- What holds between the rounds of Sheets. -/
def SlI (w w3 : World) (X i : Nat) (c : List Int) (pre : List It) (W : World) : Prop := ∃ v, MapAt W w.heap.size i (leftI c (pre.map prI)) ∧ Blk W (w.heap.size + 1) 73 [.map (some w.heap.size)] ∧ Blk W X 44 [v] ∧ Blk W (X + 1) 3 [.int .i64 (pre.length : Int)] ∧ OwnR intE W (X + 5) v (outI c (pre.map prI)) ∧ Below w.heap.size w W ∧ w3.heap.size ≤ W.heap.size
theorem SlI.own {w w3 : World} {X i : Nat} {c : List Int} (hB0 : w.heap.size < w3.heap.size) : OwnFrom w3.heap.size (SlI w w3 X i c) := fun pre W W' row hs hg hr => by
  obtain ⟨v, hM, k9, k12, k13, ho, hb, hz⟩ := hs
  have hr2 := fun r e => (hr r e).2
  exact ⟨v, hM.kept hg (fun e => by have := (hr _ e.symm).1; omega), blk_grown k9 hg hr2, blk_grown k12 hg hr2, blk_grown k13 hg hr2, own_grown ho hg hr2, hb.grown hg hb.size (fun r e => Nat.le_trans (Nat.le_of_lt hB0) (hr r e).1), Nat.le_trans hz hg.size⟩
theorem beq0 {k : Nat} (h : ((k : Int) == 0) = true) : k = 0 := by
  have := eq_of_beq h
  omega
/-- The loop over the leaves. -/
def SlRel (p h : Nat) (c : List Int) (n : Nat) (w : World) (v : Value) (wr : World) : Prop := ∃ i : Nat, v = .int .i64 (i : Int) ∧ i ≤ n ∧ (∀ x ∈ c.take i, inT p h x = true) ∧ MapAt wr w.heap.size i (fun z => (c.take i).contains z) ∧ Blk wr (w.heap.size + 1) 73 [.map (some w.heap.size)] ∧ Below w.heap.size w wr ∧ w.heap.size + 2 ≤ wr.heap.size
set_option maxHeartbeats 4000000 in
set_option maxRecDepth 100000 in
theorem sheets_any (p h : Nat) (hp : p ≤ 999) (h1 : 1 ≤ h) (h8 : h ≤ 8) (c : List Int) (A : Option Addr) (n m : Nat) (hc : c.length = n) (hn6 : n ≤ 9223372036854775807) (hin : ∀ x ∈ c, -9223372036854775808 ≤ x ∧ x ≤ 9223372036854775807) (w : World) (hA : IntsAt w A c) :
    Calls Try.prog 32 #[.int .i64 (p : Int), .int .i64 ((2 * h : Nat) : Int), .slice A n m] w (LstR intE (shsL p h c) (shsE p h c) w) := by
  have hv : volE (p : Int) ((2 * h : Nat) : Int) = 0 := by unfold volE; rw [if_neg (by omega), if_neg (by omega)]
  have C := Lib.hid (check_any (p : Int) ((2 * h : Nat) : Int))
  rw [hv] at C
  have S := Lib.hid (fun V => sheets_in Fence.wide 5 trivial rfl p h V)
  have fc : Fence.wide.fn 37 := trivial
  have fs : Fence.wide.fn 40 := trivial
  have fb : Fence.wide.fn 43 := trivial
  have D := Lib.hid (fun (x : Int) (hx : x ∈ c) (V : World) => bound_any p h x hp h1 h8 (hin x hx).1 (hin x hx).2 V)
  obtain ⟨R, hR⟩ : ∃ R, shsL p h c = R := ⟨_, rfl⟩
  obtain ⟨E, hE⟩ : ∃ E, shsE p h c = E := ⟨_, rfl⟩
  have HBad := Lib.hid (fun (x : Int) (h1 : x ∈ c) (h2 : inT p h x = false) => (show R = [] ∧ E = 5 from by
    have : ¬ c.all (inT p h) = true := by rw [List.all_eq_true]; intro g; have := g x h1; rw [h2] at this; exact Bool.false_ne_true this
    exact ⟨by rw [← hR]; unfold shsL; rw [if_neg this], by rw [← hE]; unfold shsE; rw [if_neg this]⟩))
  have HGood := Lib.hid (fun (g : ∀ x ∈ c, inT p h x = true) => (show R = outI c (psI h (qnT p h * h)) ∧ E = 0 from by
    have : c.all (inT p h) = true := List.all_eq_true.2 g
    exact ⟨by rw [← hR, out_ps h1 h8]; unfold shsL; rw [if_pos this]; rfl, by rw [← hE]; unfold shsE; rw [if_pos this]⟩))
  rw [hR, hE]
  have HI := Lib.hid hin
  obtain ⟨L, hL⟩ : ∃ L, 2 * h = L := ⟨_, rfl⟩
  rw [hL] at C S D ⊢
  clear hv hL hR hE hin
  have HN := Lib.hid hc
  clear hc
  have hmk : (Instr.makeMap 73 none).run Try.prog w = .ok (.map (some w.heap.size)) (w.alloc (.map #[] 0)) := rfl
  have hM0 := MapAt.made w
  refine (callsIn_wide (n := 6)).1 ?_
  refine callsIn_of_wp_marks Try.func32 rfl trivial ?_ rfl
  simp only [Try.ntmps32, List.size_toArray, List.length_cons, List.length_nil, Nat.reduceAdd, Nat.reduceSub, Array.replicate_succ, Array.replicate_zero, List.push_toArray, List.append_toArray, List.nil_append, List.cons_append]
  gi_wp2_with (first | (gi_at_call 37; refine CallsIn.mono (callsIn_wide.2 (C.out _)) ?_; rintro _ w2 ⟨rfl, rfl⟩))
  gi_loopw [25] (fun v wr => SlRel p h c n w v wr) (fun v _ => n - (intOf v).toNat)
  case atStart =>
    have N := blk_new (w.alloc (.map #[] 0)) 73 #[.map (some w.heap.size)]
    rw [World.size_alloc] at N
    exact ⟨0, rfl, Nat.zero_le _, fun x hx => by simp at hx, by have := hM0.kept (World.grownBy_alloc _ (.cells #[.map (some w.heap.size)] 73) none) (by simp); simpa using this, N, ((Below.refl _ w).alloc (Nat.le_refl _) _).alloc (by simp) _, by simp⟩
  case round =>
    obtain ⟨i, rfl, hi, hall, hM, h9, hB, hsz⟩ := hrel
    have HAll := Lib.hid hall
    have hB1 := hB
    have c9 := h9.cell (j := 0) rfl
    clear hall hM0 hmk
    rcases Nat.lt_or_ge i n with hlt | hge
    · obtain ⟨x, hx⟩ : ∃ x, c[i]? = some x := ⟨_, List.getElem?_eq_getElem (by rw [HN.out]; exact hlt)⟩
      obtain ⟨ad, rfl, hadl, hcx⟩ := hA (by intro e; rw [e] at hx; simp at hx)
      obtain ⟨hcx, _, _⟩ := hcx i x hx
      replace hcx := (hB.cell (by rw [add_block]; exact hadl)).trans hcx
      have HM := Lib.hid (List.mem_of_getElem? hx)
      have DX := Lib.hid (D.out x HM.out)
      have HX := HI.out x HM.out
      have HT := Lib.hid (show c.take (i + 1) = c.take i ++ [x] from by rw [List.take_add_one, hx]; rfl)
      have hltz : (i : Int) < (n : Int) := by omega
      clear hx
      rcases hb : inT p h x with _ | _
      · rw [hb] at DX
        have HB := Lib.hid (HBad.out x HM.out hb)
        have hB0 := hB1
        clear hb
        gi_wp2_with (first | (gi_at_call 43; refine CallsIn.mono (callsIn_wide.2 (DX.out _)) ?_; rintro _ w2 ⟨rfl, rfl⟩))
        exact ⟨.tuple #[.slice none 0 0, .int .i64 5], by simp [results, Try.f32, go_sem], .slice none 0 0, by rw [HB.out.2]; first | done | rfl, by rw [HB.out.1]; exact OwnR.nil _ _ _, hB0⟩
      · rw [hb] at DX
        have HB := Lib.hid hb
        clear hb
        gi_wp2_with (first
          | (gi_at_call 43; refine CallsIn.mono (callsIn_wide.2 (DX.out _)) ?_; rintro _ w2 ⟨rfl, rfl⟩)
          | (gi_at_mapUpdate; refine put_in rfl _ _ _ rfl hM (by unfold maxLen; omega) HX rfl rfl rfl ?_; intro w5 hM5 hG5))
        exact ⟨⟨i + 1, by go_num, by omega, by rw [HT.out]; intro y hy; rcases List.mem_append.1 hy with g | g; exact HAll.out y g; rw [List.mem_singleton.1 g]; exact HB.out, by rw [HT.out, show (fun z => (c.take i ++ [x]).contains z) = fun z => (z == x || (c.take i).contains z) from funext fun z => contains_snoc _ _ _]; exact hM5, blk_grow h9 hG5 (by simp), hB.grown hG5 (by omega) (fun k e => by cases e; exact Nat.le_refl _), Nat.le_trans hsz hG5.size⟩, by simp [intOf]; omega⟩
    · obtain rfl : i = n := by omega
      have hlt : ¬ (i : Int) < (i : Int) := by omega
      have HG := Lib.hid (HGood.out (fun x hx => HAll.out x (by rw [List.take_of_length_le (by rw [HN.out]; exact Nat.le_refl _)]; exact hx)))
      have hM : MapAt wr w.heap.size i (leftI c []) := by rw [show leftI c [] = fun z => (c.take i).contains z from funext fun z => by rw [left_nil, List.take_of_length_le (by rw [HN.out]; exact Nat.le_refl _)]]; exact hM
      clear HAll HGood HBad D HI hA c9
      gi_wp2_with (first | (gi_at_call 40; refine (S.out _).mono ?_; rintro _ w3 ⟨rfl, hB3, hX3⟩))
      have hsX : w.heap.size + 2 ≤ wr.heap.size := hsz
      have b12 := (blk_new wr 44 #[.slice none 0 0]).alloc (.cells #[.int .i64 0] 3)
      have b13 := blk_new (wr.alloc (.cells #[.slice none 0 0] 44)) 3 #[.int .i64 0]
      have hBA : Below wr.heap.size wr ((wr.alloc (.cells #[.slice none 0 0] 44)).alloc (.cells #[.int .i64 0] 3)) := ((Below.refl _ wr).alloc (Nat.le_refl _) _).alloc (by simp) _
      have b12 := b12.keep hB3
      have b13 := b13.keep hB3
      have hB4 : Below wr.heap.size wr w3 := hBA.trans (hB3.mono hBA.size)
      simp only [World.size_alloc] at b13 hX3
      clear hB3 hBA
      have hs3 := hX3.1
      have h9 := h9.keep hB4
      have hM := hM.below hB4
      have hB5 : Below w.heap.size w w3 := hB.trans (hB4.mono (by omega))
      clear hB hB1 hB4
      refine wpIn_rangeFunc_ownH rfl (by omega) (gf := 46) (lb := itF (wr.heap.size + 1 + 1)) rfl trivial (enters_of Try.func46 (by kernel_rfl) rfl)
        (iter_stopsW 5 (by omega) (wr.heap.size + 1 + 1) p h hp h1 h8 w3 hX3) kept_t (kept_b hs3) (Below.refl _ _) (fun _ => rfl)
        (SlI w w3 wr.heap.size i c)
        (fun cc pre W => cc = .exit 2 ∧ SlI w w3 wr.heap.size i c pre W ∧ ∀ z, leftI c (pre.map prI) z = false)
        (SlI.own (by omega))
        (fun cc pre W W' row hs hg hr => ⟨hs.1, SlI.own (by omega) pre W W' row hs.2.1 hg hr, hs.2.2⟩)
        ⟨.slice none 0 0, hM, h9, b12, b13, OwnR.nil _ _ _, hB5, Nat.le_refl _⟩
        (fun x a' W => ∃ b15, a' = { tmps := List.toArray (.int .i64 (p : Int) :: .int .i64 (L : Int) :: .slice A i m :: undef :: undef :: undef :: u6 :: u7 :: .int .i64 0 :: .pointer (some ⟨w.heap.size + 1, 0, none⟩) :: undef :: u11 :: .pointer (some ⟨wr.heap.size, 0, none⟩) :: .pointer (some ⟨wr.heap.size + 1, 0, none⟩) :: undef :: .pointer (some ⟨b15, 0, none⟩) :: .int .i64 (p : Int) :: .int .i64 (L : Int) :: .int .i64 0 :: .int .i64 0 :: .bool false :: undef :: .map (some w.heap.size) :: .slice A i m :: .int .i64 (i : Int) :: .int .i64 (i : Int) :: .bool false :: u27 :: u28 :: u29 :: u30 :: u31 :: u32 :: u33 :: u34 :: u35 :: u36 :: .int .i64 (p : Int) :: .int .i64 (L : Int) :: .func (.func 46) #[] (itF (wr.heap.size + 1 + 1)) :: .agg #[.int .i64 x.1.q, .int .i64 x.1.fa, .int .i64 x.1.fb, .int .i64 x.1.ba, .int .i64 x.1.bb] :: .agg #[.int .i64 (cl x.2.1), .int .i64 (cl x.2.2)] :: undef :: undef :: undef :: undef :: undef :: undef :: undef :: undef :: undef :: undef :: undef :: undef :: undef :: undef :: undef :: undef :: undef :: undef :: undef :: undef :: undef :: undef :: undef :: undef :: undef :: undef :: []), defers := [] } ∧ Blk W b15 25 [.int .i64 (cl x.2.1), .int .i64 (cl x.2.2)] ∧ w3.heap.size ≤ b15)
        (fun x a' _ W W' row hs hg hr => by
          obtain ⟨b15, e, k1, k2⟩ := hs
          exact ⟨b15, e, blk_grown k1 hg (fun r e => (hr r e).2), k2⟩)
        ?assign ?body ?done ?stop
      case assign =>
        intro l pre x W K hI hK
        unfold itW itV
        have N := blk_new W 25 #[.int .i64 0, .int .i64 0]
        gi_wp2_with (refine wpListIn_store_mid rfl 25 (.tmp 15) (.tmp 41) rfl W.heap.size 0 #[.int .i64 (cl x.2.1), .int .i64 (cl x.2.2)] rfl rfl (by simpa using N.there 0 2 (by simp)) (by kernel_rfl) (by rfl) ?_)
        have X : Below W.heap.size W (W.alloc (.cells #[.int .i64 (cl x.2.1), .int .i64 (cl x.2.2)] 25)) := (Below.refl _ W).alloc (Nat.le_refl _) _
        have N2 := blk_new W 25 #[.int .i64 (cl x.2.1), .int .i64 (cl x.2.2)]
        generalize W.alloc (.cells #[.int .i64 (cl x.2.1), .int .i64 (cl x.2.2)] 25) = W2 at X N2 ⊢
        obtain ⟨v, hM, k9, k12, k13, ho, hb, hz⟩ := hI
        exact hK _ _ (kf_below X) (Kept.of X (by omega)) ⟨v, hM.below X, k9.keep X, k12.keep X, k13.keep X, ho.keep X, hb.trans (X.mono hb.size), Nat.le_trans hz X.size⟩ ⟨_, rfl, N2, hz⟩
      case body =>
        rintro l pre x a' W hl hr ⟨v, hM, k9, k12, k13, ho, hb, hz⟩ ⟨b15, rfl, k15, h15⟩ hlen
        have hcl1 := cl_in x.2.1
        have hcl2 := cl_in x.2.2
        have hsn : (pre ++ [x]).map prI = pre.map prI ++ [(cl x.2.1, cl x.2.2)] := by rw [List.map_append]; rfl
        have hln : ((pre ++ [x]).length : Int) = (pre.length : Int) + 1 := by rw [List.length_append]; rfl
        have hol := out_len c (pre.map prI)
        rw [List.length_map] at hol
        have HI2 := Lib.hid (fun (W' : World) (v' : Value) (h : MapAt W' w.heap.size i (leftI c (pre.map prI ++ [(cl x.2.1, cl x.2.2)]))) (S : Sl w w3 wr.heap.size b15 v' (outI c (pre.map prI ++ [(cl x.2.1, cl x.2.2)])) ((pre.length : Int) + 1) (cl x.2.1) (cl x.2.2) W') => show SlI w w3 wr.heap.size i c (pre ++ [x]) W' from ⟨v', by rw [hsn]; exact h, S.k9, S.k12, by rw [hln]; exact S.k13, by rw [hsn]; exact S.own, S.bel, S.siz⟩)
        have hos := out_snoc c (pre.map prI) (cl x.2.1, cl x.2.2)
        rw [List.length_map] at hos
        have hlf := left_snoc c (pre.map prI) (cl x.2.1, cl x.2.2)
        have hno := fun g => left_not (c := c) (P := pre.map prI) (y := (cl x.2.1, cl x.2.2)) g
        have hex := Lib.hid (fun (h : ∀ z, leftI c (pre.map prI ++ [(cl x.2.1, cl x.2.2)]) z = false) => show ∀ z, leftI c ((pre ++ [x]).map prI) z = false from by rw [hsn]; exact h)
        have hhit : hitI c (pre.map prI) (cl x.2.1, cl x.2.2) = (leftI c (pre.map prI) (cl x.2.1) || leftI c (pre.map prI) (cl x.2.2)) := rfl
        rw [hhit] at hos hno
        clear hhit hsn hln
        have hNN : qnT p h * h ≤ 300 := by have := qnT_leaves p h hp h1 h8; have : qnT p h * (2 * h) = 2 * (qnT p h * h) := Nat.mul_left_comm _ _ _; omega
        obtain ⟨k, hk⟩ : ∃ k, pre.length = k := ⟨_, rfl⟩
        have hk3 : k ≤ 300 := by omega
        generalize leftI c (pre.map prI ++ [(cl x.2.1, cl x.2.2)]) = T' at *
        generalize outI c (pre.map prI ++ [(cl x.2.1, cl x.2.2)]) = O' at *
        generalize leftI c (pre.map prI) = T at *
        generalize outI c (pre.map prI) = O at *
        generalize cl x.2.1 = ca at *
        generalize cl x.2.2 = cb at *
        rw [hk] at HI2 hos k13 hol
        clear hlen hk hr
        have haz : -9223372036854775808 ≤ ca ∧ ca ≤ 9223372036854775807 := by omega
        have hbz : -9223372036854775808 ≤ cb ∧ cb ≤ 9223372036854775807 := by omega
        have S0 : Sl w w3 wr.heap.size b15 v O (k : Int) ca cb W := ⟨k9, k12, k13, k15, ho, hb, hz⟩
        have c9 := k9.cell (j := 0) rfl
        have c12 := k12.cell (j := 0) rfl
        have c13 := k13.cell (j := 0) rfl
        have f13 := k13.free 0
        have c150 := k15.cell (j := 0) rfl
        have c151 := k15.cell (j := 1) rfl
        rcases hta : T ca with _ | _
        · rcases htb : T cb with _ | _
          · rw [hta, htb] at hos hno
            have hno := hno rfl
            obtain rfl : T' = T := funext hno
            rw [if_neg (by decide), List.append_nil] at hos
            subst hos
            obtain ⟨S9, P9, M9⟩ := S0.count hsX hs3 h15 ((k : Int) + 1) hM
            have c99 := S9.k9.cell (j := 0) rfl
            clear hlf hno
            gi_wp2_with (first
              | (gi_at_lookup; refine look_in (by rfl) _ _ rfl hM haz hta rfl rfl ?_)
              | (gi_at_lookup; refine look_in (by rfl) _ _ rfl hM hbz htb rfl rfl ?_)
              | (gi_at_len; refine len_in rfl _ rfl M9 rfl ?_; intro kk hkk hk0))
            · exact ⟨P9.1, rfl, HI2.out _ _ M9 S9, hex.out (fun z => hk0 (beq0 (by assumption)) z)⟩
            · exact ⟨P9.1, P9.2, HI2.out _ _ M9 S9⟩
          · rw [hta, htb] at hos
            rw [if_pos (by rfl)] at hos
            subst hos
            obtain rfl : T' = fun z => (T z && z != ca) && z != cb := funext hlf
            clear hlf hno
            gi_wp2_with (first
              | (gi_at_lookup; refine look_in (by rfl) _ _ rfl hM haz hta rfl rfl ?_)
              | (gi_at_lookup; refine look_in (by rfl) _ _ rfl hM hbz htb rfl rfl ?_)
              | (gi_at_builtin; refine push_in intE rfl (.tmp 52) (.tmp 54) rfl O (k : Int) _ rfl ho (by omega) _ rfl _ rfl (by omega) ?_; intro v6 W6 hO6 hG6; obtain ⟨q6, n6, e6, _⟩ := hO6.form; obtain ⟨m6, hm6⟩ : ∃ m, (O ++ [(k : Int)]).length = m := ⟨_, rfl⟩; rw [hm6] at e6; clear hm6; subst e6; obtain ⟨r1, S7, P7, M7⟩ := S0.push hsX hs3 h15 hO6 hG6 hM; have c6 := r1.cell (j := 0) rfl; have f6 := r1.free 0; have d9 := S7.k9.cell (j := 0) rfl; have d0 := S7.k15.cell (j := 0) rfl; have d1 := S7.k15.cell (j := 1) rfl)
              | (gi_at_delete; refine drop_in rfl _ _ rfl M7 haz rfl rfl ?_; intro W8 M8 G8; obtain ⟨S8, P8⟩ := S7.map hsX hs3 h15 G8; have e9 := S8.k9.cell (j := 0) rfl; have e0 := S8.k15.cell (j := 0) rfl; have e1 := S8.k15.cell (j := 1) rfl)
              | (gi_at_delete; refine drop_in rfl _ _ rfl M8 hbz rfl rfl ?_; intro W9 M9 G9; obtain ⟨S9, P9⟩ := S8.map hsX hs3 h15 G9; have g13 := S9.k13.cell (j := 0) rfl; have gf := S9.k13.free 0; obtain ⟨Sa, Pa, Ma⟩ := S9.count hsX hs3 h15 ((k : Int) + 1) M9; have g9 := Sa.k9.cell (j := 0) rfl)
              | (gi_at_len; refine len_in rfl _ rfl Ma rfl ?_; intro kk hkk hk0))
            · exact ⟨(((P7.trans P8).trans P9).trans Pa).1, rfl, HI2.out _ _ Ma Sa, hex.out (fun z => hk0 (beq0 (by assumption)) z)⟩
            · exact ⟨(((P7.trans P8).trans P9).trans Pa).1, (((P7.trans P8).trans P9).trans Pa).2, HI2.out _ _ Ma Sa⟩
        · rw [hta] at hos
          rw [if_pos (by rfl)] at hos
          subst hos
          obtain rfl : T' = fun z => (T z && z != ca) && z != cb := funext hlf
          clear hlf hno
          gi_wp2_with (first
            | (gi_at_lookup; refine look_in (by rfl) _ _ rfl hM haz hta rfl rfl ?_)
            | (gi_at_builtin; refine push_in intE rfl (.tmp 52) (.tmp 54) rfl O (k : Int) _ rfl ho (by omega) _ rfl _ rfl (by omega) ?_; intro v6 W6 hO6 hG6; obtain ⟨q6, n6, e6, _⟩ := hO6.form; obtain ⟨m6, hm6⟩ : ∃ m, (O ++ [(k : Int)]).length = m := ⟨_, rfl⟩; rw [hm6] at e6; clear hm6; subst e6; obtain ⟨r1, S7, P7, M7⟩ := S0.push hsX hs3 h15 hO6 hG6 hM; have c6 := r1.cell (j := 0) rfl; have f6 := r1.free 0; have d9 := S7.k9.cell (j := 0) rfl; have d0 := S7.k15.cell (j := 0) rfl; have d1 := S7.k15.cell (j := 1) rfl)
            | (gi_at_delete; refine drop_in rfl _ _ rfl M7 haz rfl rfl ?_; intro W8 M8 G8; obtain ⟨S8, P8⟩ := S7.map hsX hs3 h15 G8; have e9 := S8.k9.cell (j := 0) rfl; have e0 := S8.k15.cell (j := 0) rfl; have e1 := S8.k15.cell (j := 1) rfl)
            | (gi_at_delete; refine drop_in rfl _ _ rfl M8 hbz rfl rfl ?_; intro W9 M9 G9; obtain ⟨S9, P9⟩ := S8.map hsX hs3 h15 G9; have g13 := S9.k13.cell (j := 0) rfl; have gf := S9.k13.free 0; obtain ⟨Sa, Pa, Ma⟩ := S9.count hsX hs3 h15 ((k : Int) + 1) M9; have g9 := Sa.k9.cell (j := 0) rfl)
            | (gi_at_len; refine len_in rfl _ rfl Ma rfl ?_; intro kk hkk hk0))
          · exact ⟨(((P7.trans P8).trans P9).trans Pa).1, rfl, HI2.out _ _ Ma Sa, hex.out (fun z => hk0 (beq0 (by assumption)) z)⟩
          · exact ⟨(((P7.trans P8).trans P9).trans Pa).1, (((P7.trans P8).trans P9).trans Pa).2, HI2.out _ _ Ma Sa⟩
      case done =>
        rintro D ys W hD rfl ⟨v, hM, k9, k12, k13, ho, hb, hz⟩ hK
        rw [prI_itU p h _ hp h1 h8 (Nat.le_refl _)] at ho
        rw [← HG.out.1] at ho
        obtain ⟨q6, n6, e6, _⟩ := ho.form
        have c12 := k12.cell (j := 0) rfl
        obtain ⟨m6, hm6⟩ : ∃ m, R.length = m := ⟨_, rfl⟩
        rw [hm6] at e6
        clear hm6
        subst e6
        gi_wp2
        have hB9 := belowK_b (n₀ := w.heap.size) (w := w3) hB5.size W D (.deferred (some [])) (.deferred none) hD hK rfl rfl
        have hg9 := grownBy_putObj' W D (.deferred none)
        refine ⟨by simp, .inl ⟨_, _, rfl, run_takeDeferred hK, ?_⟩⟩
        exact ⟨.tuple #[.slice q6 m6 n6, .int .i64 0], by simp [results, Try.f32, go_sem], _, by rw [HG.out.2]; first | done | rfl, (own_grown ho hg9 (fun r e => by cases e; exact ⟨_, hK, rfl⟩)).mono (by omega), hb.trans hB9⟩
      case stop =>
        rintro D cc pre W hD ⟨k, hk, rfl⟩ ⟨rfl, ⟨v, hM, k9, k12, k13, ho, hb, hz⟩, hno⟩ hK
        rw [prI_itU p h _ hp h1 h8 hk] at ho hno
        rw [out_stop h1 h8 c hk hno, ← HG.out.1] at ho
        obtain ⟨q6, n6, e6, _⟩ := ho.form
        have c12 := k12.cell (j := 0) rfl
        obtain ⟨m6, hm6⟩ : ∃ m, R.length = m := ⟨_, rfl⟩
        rw [hm6] at e6
        clear hm6
        subst e6
        gi_wp2
        have hB9 := belowK_b (n₀ := w.heap.size) (w := w3) hB5.size W D (.deferred (some [])) (.deferred none) hD hK rfl rfl
        have hg9 := grownBy_putObj' W D (.deferred none)
        refine ⟨by simp, .inl ⟨_, _, rfl, run_takeDeferred hK, ?_⟩⟩
        exact ⟨.tuple #[.slice q6 m6 n6, .int .i64 0], by simp [results, Try.f32, go_sem], _, by rw [HG.out.2]; first | done | rfl, (own_grown ho hg9 (fun r e => by cases e; exact ⟨_, hK, rfl⟩)).mono (by omega), hb.trans hB9⟩
end Go.Proofs.Ytahmpagolmodhaa
