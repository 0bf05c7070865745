/-
  What the function proof collects; the search for a key; what a proof leads to. Conditions: as each theorem states them; no axiom beyond propext, Classical.choice, Quot.sound.
-/
import Derived.Test.YtfhfmdnimebegaaDoorEw
import Derived.Test.YtfhfmdnimebegaaDoorE3
import Derived.Laws.EntriesVeiled
import Derived.Outline
import Derived.Deep.Onto
import Derived.Laws.AppendOwn
import Derived.Sort.Walk0

/-
  Plain mathematics: the digests beside a range of leaves; and proof's function at a leaf inside the range.
-/
namespace Go.Proofs.YtfhfmdnimebegaaDoor
open Go.RowKit
set_option linter.unusedVariables false
set_option linter.unusedSimpArgs false

/-- What proof's function lays for the row from a to b - 1; f bounds the calls still to come. -/
def sidesF : Nat → List Lf → Nat → Nat → Nat → Nat → List (List Nat)
  | 0, _, _, _, _, _ => []
  | f + 1, ls, first, e, a, b =>
    if b ≤ first ∨ e ≤ a then [rowM ((ls.drop a).take (b - a))]
    else if 1 < b - a then sidesF f ls first e a (a + half (b - a)) ++ sidesF f ls first e (a + half (b - a)) b
    else []
theorem sidesF_enough : ∀ (f g : Nat) (ls : List Lf) (first e a b : Nat), a < b → b - a ≤ f → b - a ≤ g → sidesF f ls first e a b = sidesF g ls first e a b
  | 0, g, ls, first, e, a, b, h, hf, _ => by omega
  | f + 1, 0, ls, first, e, a, b, h, _, hg => by omega
  | f + 1, g + 1, ls, first, e, a, b, h, hf, hg => by
    unfold sidesF
    split
    · rfl
    · split
      · rename_i h2
        have h3 := half_lt (b - a) (by omega)
        have h4 := half_pos (b - a)
        rw [sidesF_enough f g ls first e a (a + half (b - a)) (by omega) (by omega) (by omega), sidesF_enough f g ls first e (a + half (b - a)) b (by omega) (by omega) (by omega)]
      · rfl
/-- The digests of the rows beside the leaves from first to e - 1, of the row from a to b - 1. -/
def sidesM (ls : List Lf) (first e a b : Nat) : List (List Nat) := sidesF (b - a) ls first e a b
theorem sides_out (ls : List Lf) (first e a b : Nat) (h : a < b) (ho : b ≤ first ∨ e ≤ a) : sidesM ls first e a b = [rowM ((ls.drop a).take (b - a))] := by
  obtain ⟨f, hf⟩ : ∃ f, b - a = f + 1 := ⟨b - a - 1, by omega⟩
  unfold sidesM
  rw [hf]
  unfold sidesF
  rw [if_pos ho, hf]
theorem sides_in (ls : List Lf) (first e a b : Nat) (h : b = a + 1) (ho : ¬ (b ≤ first ∨ e ≤ a)) : sidesM ls first e a b = [] := by
  unfold sidesM
  rw [show b - a = 0 + 1 by omega]
  unfold sidesF
  rw [if_neg ho, if_neg (by omega)]
theorem sides_split (ls : List Lf) (first e a b : Nat) (h : a + 1 < b) (ho : ¬ (b ≤ first ∨ e ≤ a)) : sidesM ls first e a b = sidesM ls first e a (a + half (b - a)) ++ sidesM ls first e (a + half (b - a)) b := by
  obtain ⟨f, hf⟩ : ∃ f, b - a = f + 1 := ⟨b - a - 1, by omega⟩
  have h3 := half_lt (b - a) (by omega)
  have h4 := half_pos (b - a)
  unfold sidesM
  conv => lhs; rw [hf]; unfold sidesF
  rw [if_neg ho, if_pos (by omega)]
  rw [sidesF_enough f (a + half (b - a) - a) ls first e a (a + half (b - a)) (by omega) (by omega) (by omega), sidesF_enough f (b - (a + half (b - a))) ls first e (a + half (b - a)) b (by omega) (by omega) (by omega)]
theorem sidesF_len : ∀ (f : Nat) (ls : List Lf) (first e a b : Nat), a < b → (sidesF f ls first e a b).length ≤ b - a
  | 0, ls, first, e, a, b, _ => by simp [sidesF]
  | f + 1, ls, first, e, a, b, h => by
    unfold sidesF
    split
    · simp; omega
    · split
      · have h3 := half_lt (b - a) (by omega)
        have h4 := half_pos (b - a)
        have := sidesF_len f ls first e a (a + half (b - a)) (by omega)
        have := sidesF_len f ls first e (a + half (b - a)) b (by omega)
        rw [List.length_append]
        omega
      · simp
theorem sides_len (ls : List Lf) (first e a b : Nat) (h : a < b) : (sidesM ls first e a b).length ≤ b - a := sidesF_len _ ls first e a b h
theorem sidesF_dgt : ∀ (f : Nat) (ls : List Lf) (first e a b : Nat), a < b → b ≤ ls.length → ∀ d ∈ sidesF f ls first e a b, Dgt d
  | 0, ls, first, e, a, b, _, _, d, hd => by cases hd
  | f + 1, ls, first, e, a, b, h, hb, d, hd => by
    unfold sidesF at hd
    split at hd
    · rw [List.mem_singleton.1 hd]
      exact rowM_dgt _ _ (Nat.le_refl _) (by rw [List.length_take, List.length_drop]; omega)
    · split at hd
      · have h3 := half_lt (b - a) (by omega)
        have h4 := half_pos (b - a)
        rcases List.mem_append.1 hd with hd | hd
        · exact sidesF_dgt f ls first e a _ (by omega) (by omega) d hd
        · exact sidesF_dgt f ls first e _ b (by omega) hb d hd
      · cases hd

/-- What proof's function captures: the range, the leaves and itself. -/
def CE (w : World) (fb eb pb lb cb : Nat) (first e : Nat) (b off n c : Nat) : Prop :=
  Blk w fb 3 [.int .i64 (first : Int)] ∧ Blk w eb 3 [.int .i64 (e : Int)] ∧ Blk w lb 33 [.slice (some ⟨b, off, none⟩) n c] ∧
  Blk w cb 111 [.func (.func 66) #[] #[.pointer (some ⟨fb, 0, none⟩), .pointer (some ⟨eb, 0, none⟩), .pointer (some ⟨pb, 0, none⟩), .pointer (some ⟨lb, 0, none⟩), .pointer (some ⟨cb, 0, none⟩)]]

set_option maxHeartbeats 1000000 in
set_option maxRecDepth 100000 in
theorem collect_in (fb eb pb lb cb first e b off n c x y : Nat) (hxy : y = x + 1) (hy : y ≤ 4096) (ho : ¬ (y ≤ first ∨ e ≤ x)) (w : World) (hE : CE w fb eb pb lb cb first e b off n c) :
    Calls Tryd.prog 66 #[.int .i64 (x : Int), .int .i64 (y : Int), .pointer (some ⟨fb, 0, none⟩), .pointer (some ⟨eb, 0, none⟩), .pointer (some ⟨pb, 0, none⟩), .pointer (some ⟨lb, 0, none⟩), .pointer (some ⟨cb, 0, none⟩)] w fun en w' => en = .returned (.tuple #[]) ∧ w' = w := by
  have c1 := hE.1.cell (j := 0) rfl
  have c2 := hE.2.1.cell (j := 0) rfl
  have h1 : first < y := by omega
  have h2 : x < e := by omega
  have hd : wrap64 ((y : Int) - (x : Int)) = 1 := by unfold wrap64; omega
  clear hE ho
  go_enter Tryd.func66, Tryd.ntmps66
  go_wp2
  exact bodyPost_end (results_none rfl _ _ _) rfl ⟨rfl, rfl⟩

end Go.Proofs.YtfhfmdnimebegaaDoor

/-
  A slice of digests of one's own (as in the text Rl of layer 3); what proof's function leaves behind.
-/
namespace Go.Proofs.YtfhfmdnimebegaaDoor
open Go.RowKit
set_option linter.unusedVariables false
set_option linter.unusedSimpArgs false

theorem Blk.type {w : World} {b : Nat} {t t' : TypeId} {cs cs' : List Value} (h : Blk w b t cs) (h' : Blk w b t' cs') : t = t' := by
  unfold Blk at h h'
  rw [h] at h'
  injection h' with e
  injection e
def OwnD (w : World) (B : Nat) (v : Value) (l : List (List Nat)) : Prop := w.ownsRow B 29 16 v l.length (bytesV l.flatten)
def zeroDig : Value := .agg #[.int .u8 0, .int .u8 0, .int .u8 0, .int .u8 0, .int .u8 0, .int .u8 0, .int .u8 0, .int .u8 0, .int .u8 0, .int .u8 0, .int .u8 0, .int .u8 0, .int .u8 0, .int .u8 0, .int .u8 0, .int .u8 0]
theorem diginfo : (Tryd.prog.info? 29).map (fun i => (i.zero, i.size, i.bytes)) = some (some zeroDig, 16, 16) := by kernel_rfl
theorem new_cells (w : World) (y : List Nat) (t : TypeId) : ∀ j u, (bytesV y)[j]? = some u → (w.alloc (.cells (bytesV y).toArray t)).cell? ((⟨w.heap.size, 0, none⟩ : Addr).add j) = some u := by
  intro j u hj
  rw [Addr.add_mid, Nat.zero_add]
  exact (blk_new w t (bytesV y).toArray).cell (by simpa using hj)
theorem digs_snoc (l : List (List Nat)) (y : List Nat) : bytesV (l ++ [y]).flatten = bytesV l.flatten ++ bytesV y := by rw [List.flatten_append, bytesV_append]; simp
theorem push_dig {w : World} {B : Nat} {ops : Array Oper} {rest : List Oper} {o : Oper} {a : Act} {Q : Exit → Act → World → Prop} (hgd : o.guard = none) (s x : Operand)
    (ho : o.op = .call { callee := .builtin .append, args := #[s, x], argTypes := #[48, 48] })
    (l : List (List Nat)) (y : List Nat) (hy : y.length = 16) (v : Value) (hs : a.eval s = v) (hown : OwnD w B v l) (hB : B ≤ w.heap.size)
    (c : Nat) (hx : a.eval x = .slice (some ⟨w.heap.size, 0, none⟩) 1 c) (hl : l.length ≤ 1000000000)
    (h : ∀ v' w', OwnD w' B v' (l ++ [y]) → (w.alloc (.cells (bytesV y).toArray 29)).grownBy w' v.ownBlock → wpList Tryd.prog ops Q rest (a.put o.dst v') w') :
    wpList Tryd.prog ops Q (o :: rest) a (w.alloc (.cells (bytesV y).toArray 29)) := by
  obtain ⟨i0, hi, hz0, hz1, hz2⟩ := info_parts diginfo
  refine wpList_append_own _ hgd s x 48 ho B 29 i0 zeroDig 16 16 Tryd.underlying48 hi hz0 hz1 hz2 rfl (by decide) v l.length (bytesV l.flatten) hs (World.ownsRow.alloc hown _) ⟨w.heap.size, 0, none⟩ 1 c (bytesV y) hx (by rw [bytesV_length, hy]) ?c1 ?c2 ?c3 ?c4 ?c5 ?_
  case c1 => exact new_cells w y _
  case c2 => intro u hu; obtain ⟨z, _, rfl⟩ := List.mem_map.1 hu; rfl
  case c3 => unfold maxLen; omega
  case c4 => omega
  case c5 => simp; omega
  intro v' w' hown' hgrow _
  refine h v' w' ?_ hgrow
  unfold OwnD
  rw [digs_snoc, List.length_append]
  exact hown'

theorem push_dig_wp {w : World} {B : Nat} {o : Oper} {a : Act} {K : Act → World → Prop} {Q : Exit → Act → World → Prop} (s x : Operand)
    (ho : o.op = .call { callee := .builtin .append, args := #[s, x], argTypes := #[48, 48] })
    (l : List (List Nat)) (y : List Nat) (hy : y.length = 16) (v : Value) (hs : a.eval s = v) (hown : OwnD w B v l) (hB : B ≤ w.heap.size)
    (c : Nat) (hx : a.eval x = .slice (some ⟨w.heap.size, 0, none⟩) 1 c) (hl : l.length ≤ 1000000000)
    (h : ∀ v' w', OwnD w' B v' (l ++ [y]) → (w.alloc (.cells (bytesV y).toArray 29)).grownBy w' v.ownBlock → K (a.put o.dst v') w') :
    o.wp Tryd.prog a (w.alloc (.cells (bytesV y).toArray 29)) K Q := by
  obtain ⟨i0, hi, hz0, hz1, hz2⟩ := info_parts diginfo
  refine wp_append_own _ s x 48 ho B 29 i0 zeroDig 16 16 Tryd.underlying48 hi hz0 hz1 hz2 rfl (by decide) v l.length (bytesV l.flatten) hs (World.ownsRow.alloc hown _) ⟨w.heap.size, 0, none⟩ 1 c (bytesV y) hx (by rw [bytesV_length, hy]) ?c1 ?c2 ?c3 ?c4 ?c5 ?_
  case c1 => exact new_cells w y _
  case c2 => intro u hu; obtain ⟨z, _, rfl⟩ := List.mem_map.1 hu; rfl
  case c3 => unfold maxLen; omega
  case c4 => omega
  case c5 => simp; omega
  intro v' w' hown' hgrow _
  refine h v' w' ?_ hgrow
  unfold OwnD
  rw [digs_snoc, List.length_append]
  exact hown'
theorem fold_dig (x : List Nat) (h : x.length = 16) : List.foldl (fun (cs : Array Value) (x : Value × Nat) => cs.setIfInBounds x.snd x.fst) #[.int .u8 0, .int .u8 0, .int .u8 0, .int .u8 0, .int .u8 0, .int .u8 0, .int .u8 0, .int .u8 0, .int .u8 0, .int .u8 0, .int .u8 0, .int .u8 0, .int .u8 0, .int .u8 0, .int .u8 0, .int .u8 0] (bytesV x).zipIdx = (bytesV x).toArray := by
  obtain ⟨x0, x1, x2, x3, x4, x5, x6, x7, x8, x9, x10, x11, x12, x13, x14, x15, rfl⟩ := ex16 x h
  simp [bytesV, byteV, List.zipIdx_cons]
theorem OwnD.keep {w w' : World} {B : Nat} {v : Value} {l : List (List Nat)} (h : OwnD w B v l) (hb : Below w.heap.size w w') : OwnD w' B v l := by
  refine ⟨h.1, ?_⟩
  rcases h.2 with h0 | ⟨g, cap, cur, hv, hg, hh, rest⟩
  · exact .inl h0
  · refine .inr ⟨g, cap, cur, hv, hg, ?_, rest⟩
    have hlt : g < w.heap.size := (Array.getElem?_eq_some_iff.1 hh).1
    rw [hb.block g hlt]; exact hh

theorem own_row_keep {w w' : World} {B : Nat} {e : TypeId} {sz n : Nat} {v : Value} {xs : List Value} (h : w.ownsRow B e sz v n xs) (hb : Below w.heap.size w w') : w'.ownsRow B e sz v n xs := by
  refine ⟨h.1, ?_⟩
  rcases h.2 with h0 | ⟨g, cap, cur, hv, hg, hh, rest⟩
  · exact .inl h0
  · refine .inr ⟨g, cap, cur, hv, hg, ?_, rest⟩
    have hlt : g < w.heap.size := (Array.getElem?_eq_some_iff.1 hh).1
    rw [hb.block g hlt]; exact hh
theorem OwnD.form {w : World} {B : Nat} {v : Value} {l : List (List Nat)} (h : OwnD w B v l) (h0 : 0 < l.length) : ∃ g cap, v = .slice (some ⟨g, 0, none⟩) l.length cap ∧ B ≤ g ∧ g < w.heap.size := by
  rcases h.2 with ⟨_, hz⟩ | ⟨g, cap, cur, hv, hg, hh, _⟩
  · omega
  · exact ⟨g, cap, hv, hg, (Array.getElem?_eq_some_iff.1 hh).1⟩
theorem own_blk {w : World} {B : Nat} {e : TypeId} {sz n : Nat} {v : Value} {xs : List Value} (h : w.ownsRow B e sz v n xs) (h0 : 0 < n) : ∃ ob cs, v.ownBlock = some ob ∧ Blk w ob e cs := by
  rcases h.2 with ⟨_, hz⟩ | ⟨g, cap, cur, hv, _, hh, _⟩
  · omega
  · exact ⟨g, cur.toList, by rw [hv]; rfl, by unfold Blk; rw [hh]⟩
theorem own_other {w : World} {B : Nat} {e t : TypeId} {sz n b : Nat} {v : Value} {xs cs : List Value} (h : w.ownsRow B e sz v n xs) (hb : Blk w b t cs) (ht : t ≠ e) : v.ownBlock ≠ some b := by
  rcases h.2 with ⟨rfl, _⟩ | ⟨g, cap, cur, rfl, _, hh, _⟩
  · simp [Value.ownBlock]
  · intro hg
    simp only [Value.ownBlock, Option.some.injEq] at hg
    subst hg
    exact ht (hb.type (t' := e) (cs' := cur.toList) (by unfold Blk; rw [hh]))

/-- The proof as it stands: its block, whose last cell is a slice of one's own with these digests. -/
def CP (w : World) (B pb : Nat) (f0 s0 : Int) (lv : Value) (L : List (List Nat)) : Prop := ∃ sv, Blk w pb 50 [.int .i64 f0, .int .i64 s0, lv, sv] ∧ OwnD w B sv L
/-- Below B nothing has changed but the proof's block. -/
structure Stays (w w' : World) (B pb : Nat) : Prop where
  size : w.heap.size ≤ w'.heap.size
  heap : ∀ j, j < B → j ≠ pb → w'.heap[j]? = w.heap[j]?
  blk : ∀ b t cs, b < B → b ≠ pb → Blk w b t cs → Blk w' b t cs
  rest : w'.os = w.os ∧ w'.tape = w.tape ∧ w'.output = w.output
theorem Stays.trans {w w1 w2 : World} {B pb : Nat} (h : Stays w w1 B pb) (h' : Stays w1 w2 B pb) : Stays w w2 B pb :=
  ⟨Nat.le_trans h.size h'.size, fun j hj hp => (h'.heap j hj hp).trans (h.heap j hj hp), fun b t cs hb hp hk => h'.blk b t cs hb hp (h.blk b t cs hb hp hk), h'.rest.1.trans h.rest.1, h'.rest.2.1.trans h.rest.2.1, h'.rest.2.2.trans h.rest.2.2⟩
theorem Stays.refl (w : World) (B pb : Nat) : Stays w w B pb := ⟨Nat.le_refl _, fun _ _ _ => rfl, fun _ _ _ _ _ h => h, rfl, rfl, rfl⟩
theorem Stays.lower {w w' : World} {B pb : Nat} (h : Stays w w' B pb) {B' : Nat} {w0 : World} (hb : Below B' w0 w) (h1 : B' ≤ pb) (h2 : B' ≤ B) : Below B' w0 w' :=
  ⟨h.rest.1.trans hb.os, h.rest.2.1.trans hb.tape, h.rest.2.2.trans hb.output, Nat.le_trans hb.size h.size, fun k hk => (h.heap k (by omega) (by omega)).trans (hb.block k hk)⟩
theorem CE.stays {w w' : World} {B fb eb pb lb cb first e b off n c : Nat} (h : CE w fb eb pb lb cb first e b off n c) (hs : Stays w w' B pb) (h1 : fb < B ∧ fb ≠ pb) (h2 : eb < B ∧ eb ≠ pb) (h3 : lb < B ∧ lb ≠ pb) (h4 : cb < B ∧ cb ≠ pb) : CE w' fb eb pb lb cb first e b off n c :=
  ⟨hs.blk _ _ _ h1.1 h1.2 h.1, hs.blk _ _ _ h2.1 h2.2 h.2.1, hs.blk _ _ _ h3.1 h3.2 h.2.2.1, hs.blk _ _ _ h4.1 h4.2 h.2.2.2⟩

end Go.Proofs.YtfhfmdnimebegaaDoor

/-
  proof's function at a row that is divided.
-/
namespace Go.Proofs.YtfhfmdnimebegaaDoor
open Go.RowKit
set_option linter.unusedVariables false
set_option linter.unusedSimpArgs false

theorem Stays.drew {w w' : World} {B pb : Nat} (h : Stays w w' B pb) : Stays w w'.drew B pb := ⟨h.size, h.heap, h.blk, h.rest⟩
theorem CP.drew {w : World} {B pb : Nat} {f0 s0 : Int} {lv : Value} {L : List (List Nat)} (h : CP w B pb f0 s0 lv L) : CP w.drew B pb f0 s0 lv L := h
/-- What proof's function does at the row from x to y - 1. -/
def CollectAt (ls : List Lf) (wI : World) (B fb eb pb lb cb first e : Nat) (f0 s0 : Int) (lv : Value) (x y : Nat) : Prop := ∀ (w : World) (L : List (List Nat)), L.length + (y - x) ≤ 1000000000 → Stays wI w B pb → CP w B pb f0 s0 lv L →
    Calls Tryd.prog 66 #[.int .i64 (x : Int), .int .i64 (y : Int), .pointer (some ⟨fb, 0, none⟩), .pointer (some ⟨eb, 0, none⟩), .pointer (some ⟨pb, 0, none⟩), .pointer (some ⟨lb, 0, none⟩), .pointer (some ⟨cb, 0, none⟩)] w
      fun en w' => en = .returned (.tuple #[]) ∧ Stays w w' B pb ∧ CP w' B pb f0 s0 lv (L ++ sidesM ls first e x y)

set_option maxHeartbeats 2000000 in
set_option maxRecDepth 100000 in
theorem collect_split (ls : List Lf) (wI : World) (B fb eb pb lb cb first e b off n c : Nat) (f0 s0 : Int) (lv : Value) (hE : ∀ w, Stays wI w B pb → CE w fb eb pb lb cb first e b off n c) (hcb : cb < B ∧ cb ≠ pb)
    (x y : Nat) (hxy : x + 1 < y) (hy : y ≤ 4096) (ho : ¬ (y ≤ first ∨ e ≤ x))
    (H1 : CollectAt ls wI B fb eb pb lb cb first e f0 s0 lv x (x + half (y - x))) (H2 : CollectAt ls wI B fb eb pb lb cb first e f0 s0 lv (x + half (y - x)) y) : CollectAt ls wI B fb eb pb lb cb first e f0 s0 lv x y := by
  intro w L hlen hs hP
  rw [sides_split ls first e x y hxy ho]
  have hlt := half_lt (y - x) (by omega)
  have hpo := half_pos (y - x)
  have HM0 := fun w0 => middle_any (x : Int) (y : Int) (y - x) (by omega) (by omega) (by omega) (by omega) w0
  rw [show ((x : Int) + (half (y - x) : Nat)) = ((x + half (y - x) : Nat) : Int) by omega] at HM0
  have HM := Lib.hid HM0
  clear HM0
  have hz1 : x < x + half (y - x) := by omega
  have hz2 : x + half (y - x) < y := by omega
  generalize x + half (y - x) = z at H1 H2 HM hz1 hz2
  have hrl := sides_len ls first e x z hz1
  generalize hR1 : sidesM ls first e x z = R1
  generalize hR2 : sidesM ls first e z y = R2
  have HA := Lib.hid (fun w0 (g : Stays wI w0 B pb) (h : CP w0 B pb f0 s0 lv L) => (hR1 ▸ H1 w0 L (by omega) g h : Calls Tryd.prog 66 _ w0 fun en w' => en = .returned (.tuple #[]) ∧ Stays w0 w' B pb ∧ CP w' B pb f0 s0 lv (L ++ R1)))
  have HC := Lib.hid (fun w0 (g : Stays wI w0 B pb) (h : CP w0 B pb f0 s0 lv (L ++ R1)) => (hR2 ▸ H2 w0 (L ++ R1) (by rw [List.length_append]; rw [hR1] at hrl; omega) g h : Calls Tryd.prog 66 _ w0 fun en w' => en = .returned (.tuple #[]) ∧ Stays w0 w' B pb ∧ CP w' B pb f0 s0 lv (L ++ R1 ++ R2)))
  clear H1 H2 hR1 hR2 hrl hlen
  have E := hE w hs
  have c1 := E.1.cell (j := 0) rfl
  have c2 := E.2.1.cell (j := 0) rfl
  have h1 : first < y := by omega
  have h2 : x < e := by omega
  have hcl := E.2.2.2
  clear E hE ho hlt hpo
  go_enter Tryd.func66, Tryd.ntmps66
  go_upto_region 3 with (fail)
  have hHeld : True := trivial
  refine wp_region_held_drew (S := fun w' => Blk w' cb 111 [.func (.func 66) #[] #[.pointer (some ⟨fb, 0, none⟩), .pointer (some ⟨eb, 0, none⟩), .pointer (some ⟨pb, 0, none⟩), .pointer (some ⟨lb, 0, none⟩), .pointer (some ⟨cb, 0, none⟩)]]) (by kernel_rfl) hcl (fun _ => ?_)
  have hHeld : Blk w.drew cb 111 [.func (.func 66) #[] #[.pointer (some ⟨fb, 0, none⟩), .pointer (some ⟨eb, 0, none⟩), .pointer (some ⟨pb, 0, none⟩), .pointer (some ⟨lb, 0, none⟩), .pointer (some ⟨cb, 0, none⟩)]] := hcl
  have hs0 : Stays wI w.drew B pb := hs.drew
  have hP0 := hP.drew
  have hsw : Stays w w.drew B pb := (Stays.refl w B pb).drew
  clear hP hs c1 c2 hcl
  generalize w.drew = V0 at hHeld hs0 hP0 hsw ⊢
  refine wt (i := 0) (oi := ⟨some 33, .load 111 (.tmp 6), 111, "merkle.go:92", #[], none⟩) (v := .func (.func 66) #[] #[.pointer (some ⟨fb, 0, none⟩), .pointer (some ⟨eb, 0, none⟩), .pointer (some ⟨pb, 0, none⟩), .pointer (some ⟨lb, 0, none⟩), .pointer (some ⟨cb, 0, none⟩)]) (Or.inl ⟨by rfl, fun w' hSw => by have hc := Blk.cell (j := 0) hSw rfl; go_simp⟩) hHeld ?_
  try simp only [zP, zQ, zS, zZ, zC]
  refine wt (i := 1) (oi := ⟨some 34, .move (.tmp 0), 3, "merkle.go:92", #[], none⟩) (v := .int .i64 (x : Int)) (Or.inl ⟨by rfl, fun w' hSw => by go_simp⟩) hHeld ?_
  try simp only [zP, zQ, zS, zZ, zC]
  refine wt (i := 2) (oi := ⟨some 35, .move (.tmp 0), 3, "merkle.go:92", #[], none⟩) (v := .int .i64 (x : Int)) (Or.inl ⟨by rfl, fun w' hSw => by go_simp⟩) hHeld ?_
  try simp only [zP, zQ, zS, zZ, zC]
  refine wt (i := 3) (oi := ⟨some 36, .move (.tmp 1), 3, "merkle.go:92", #[], none⟩) (v := .int .i64 (y : Int)) (Or.inl ⟨by rfl, fun w' hSw => by go_simp⟩) hHeld ?_
  try simp only [zP, zQ, zS, zZ, zC]
  refine wpAnyH_ready (rs := [4]) (by kernel_rfl) (by simp) ?_
  refine AllReadyH.cons (o := ⟨some 37, .call { callee := .value (.func 58), args := #[.tmp 35, .tmp 36], argTypes := #[3, 3] }, 3, "merkle.go:92", #[⟨2, .data⟩, ⟨3, .data⟩], none⟩) rfl (fun K hK => ?_) AllReadyH.nil
  rw [if_pos (by rfl)]
  go_simp
  refine (HM.out V0).mono ?_
  rintro en w1 ⟨rfl, hw1⟩
  rw [hw1]
  clear hw1 w1
  dsimp only
  refine hK.out _ _ (hHeld) (fun hHeld => ?_)
  clear hK K
  try simp only [zP, zQ, zS, zZ, zC]
  refine wpAnyH_ready (rs := [5]) (by kernel_rfl) (by simp) ?_
  refine AllReadyH.cons (o := ⟨some 38, .call { callee := .value (.tmp 33), args := #[.tmp 34, .tmp 37], argTypes := #[3, 3] }, 0, "merkle.go:92", #[⟨0, .data⟩, ⟨1, .data⟩, ⟨4, .data⟩, ⟨4, .chain⟩], none⟩) rfl (fun K hK => ?_) AllReadyH.nil
  rw [if_pos (by rfl)]
  go_simp
  refine (HA.out V0 hs0 hP0).mono ?_
  rintro en V1 ⟨rfl, hs1, hP1⟩
  dsimp only
  refine hK.out _ _ (hs1.blk _ _ _ hcb.1 hcb.2 hHeld) (fun hHeld => ?_)
  clear hK K
  try simp only [zP, zQ, zS, zZ, zC]
  refine wpAnyH_done (by kernel_rfl) ?_ _
  replace hs0 := hs0.trans hs1
  replace hsw := hsw.trans hs1
  clear hP0 hs1
  have hcl := hHeld
  go_upto_region 4 with (fail)
  clear hHeld
  refine wp_region_held_drew (S := fun w' => Blk w' cb 111 [.func (.func 66) #[] #[.pointer (some ⟨fb, 0, none⟩), .pointer (some ⟨eb, 0, none⟩), .pointer (some ⟨pb, 0, none⟩), .pointer (some ⟨lb, 0, none⟩), .pointer (some ⟨cb, 0, none⟩)]]) (by kernel_rfl) hcl (fun _ => ?_)
  have hHeld : Blk V1.drew cb 111 [.func (.func 66) #[] #[.pointer (some ⟨fb, 0, none⟩), .pointer (some ⟨eb, 0, none⟩), .pointer (some ⟨pb, 0, none⟩), .pointer (some ⟨lb, 0, none⟩), .pointer (some ⟨cb, 0, none⟩)]] := hcl
  have hs2 : Stays wI V1.drew B pb := hs0.drew
  have hP2 := hP1.drew
  have hsw2 : Stays w V1.drew B pb := hsw.drew
  clear hP1 hs0 hsw hcl
  generalize V1.drew = V2 at hHeld hs2 hP2 hsw2 ⊢
  refine wt (i := 0) (oi := ⟨some 39, .load 111 (.tmp 6), 111, "merkle.go:93", #[], none⟩) (v := .func (.func 66) #[] #[.pointer (some ⟨fb, 0, none⟩), .pointer (some ⟨eb, 0, none⟩), .pointer (some ⟨pb, 0, none⟩), .pointer (some ⟨lb, 0, none⟩), .pointer (some ⟨cb, 0, none⟩)]) (Or.inl ⟨by rfl, fun w' hSw => by have hc := Blk.cell (j := 0) hSw rfl; go_simp⟩) hHeld ?_
  try simp only [zP, zQ, zS, zZ, zC]
  refine wt (i := 1) (oi := ⟨some 40, .move (.tmp 0), 3, "merkle.go:93", #[], none⟩) (v := .int .i64 (x : Int)) (Or.inl ⟨by rfl, fun w' hSw => by go_simp⟩) hHeld ?_
  try simp only [zP, zQ, zS, zZ, zC]
  refine wt (i := 2) (oi := ⟨some 41, .move (.tmp 1), 3, "merkle.go:93", #[], none⟩) (v := .int .i64 (y : Int)) (Or.inl ⟨by rfl, fun w' hSw => by go_simp⟩) hHeld ?_
  try simp only [zP, zQ, zS, zZ, zC]
  refine wt (i := 4) (oi := ⟨some 43, .move (.tmp 1), 3, "merkle.go:93", #[], none⟩) (v := .int .i64 (y : Int)) (Or.inl ⟨by rfl, fun w' hSw => by go_simp⟩) hHeld ?_
  try simp only [zP, zQ, zS, zZ, zC]
  refine wpAnyH_ready (rs := [3]) (by kernel_rfl) (by simp) ?_
  refine AllReadyH.cons (o := ⟨some 42, .call { callee := .value (.func 58), args := #[.tmp 40, .tmp 41], argTypes := #[3, 3] }, 3, "merkle.go:93", #[⟨1, .data⟩, ⟨2, .data⟩], none⟩) rfl (fun K hK => ?_) AllReadyH.nil
  rw [if_pos (by rfl)]
  go_simp
  refine (HM.out V2).mono ?_
  rintro en w1 ⟨rfl, hw1⟩
  rw [hw1]
  clear hw1 w1
  dsimp only
  refine hK.out _ _ (hHeld) (fun hHeld => ?_)
  clear hK K
  try simp only [zP, zQ, zS, zZ, zC]
  refine wpAnyH_ready (rs := [5]) (by kernel_rfl) (by simp) ?_
  refine AllReadyH.cons (o := ⟨some 44, .call { callee := .value (.tmp 39), args := #[.tmp 42, .tmp 43], argTypes := #[3, 3] }, 0, "merkle.go:93", #[⟨0, .data⟩, ⟨3, .data⟩, ⟨4, .data⟩, ⟨3, .chain⟩], none⟩) rfl (fun K hK => ?_) AllReadyH.nil
  rw [if_pos (by rfl)]
  go_simp
  refine (HC.out V2 hs2 hP2).mono ?_
  rintro en V3 ⟨rfl, hs3, hP3⟩
  dsimp only
  refine hK.out _ _ (hs3.blk _ _ _ hcb.1 hcb.2 hHeld) (fun hHeld => ?_)
  clear hK K
  try simp only [zP, zQ, zS, zZ, zC]
  refine wpAnyH_done (by kernel_rfl) ?_ _
  go_wp2
  exact bodyPost_end (results_none rfl _ _ _) rfl ⟨rfl, hsw2.trans hs3, by rw [← List.append_assoc]; exact hP3⟩

end Go.Proofs.YtfhfmdnimebegaaDoor

/-
  proof's function at a row beside the range.
-/
namespace Go.Proofs.YtfhfmdnimebegaaDoor
open Go.RowKit
set_option linter.unusedVariables false
set_option linter.unusedSimpArgs false

theorem OwnD.setCell {w : World} {B : Nat} {v : Value} {l : List (List Nat)} {pb j : Nat} {u : Value} (h : OwnD w B v l) (hp : pb < B) : OwnD (w.setCell ⟨pb, j, none⟩ u) B v l := by
  refine ⟨h.1, ?_⟩
  rcases h.2 with e | ⟨g, cap, cur, rfl, h1, h2, h3⟩
  · exact Or.inl e
  · exact Or.inr ⟨g, cap, cur, rfl, h1, by rw [heap_setCell_other w ⟨pb, j, none⟩ g u (by show g ≠ pb; omega)]; exact h2, h3⟩
theorem Stays.belowB {w w' : World} {B pb : Nat} (h : Below B w w') : Stays w w' B pb := ⟨h.size, fun j hj _ => h.block j hj, fun b t cs hb _ hk => hk.keepB hb h, h.os, h.tape, h.output⟩
theorem Stays.below {w w' : World} {B pb : Nat} (h : Below w.heap.size w w') (hB : B ≤ w.heap.size) : Stays w w' B pb := Stays.belowB (h.mono hB)
theorem Stays.setCell {B : Nat} (w : World) (pb j : Nat) (u : Value) : Stays w (w.setCell ⟨pb, j, none⟩ u) B pb :=
  ⟨Nat.le_of_eq (only_sets pb j w [u]).1.symm, fun i _ hp => heap_setCell_other w ⟨pb, j, none⟩ i u hp, fun b t cs _ hp hk => hk.other (a := ⟨pb, j, none⟩) hp u, rfl, rfl, rfl⟩

set_option maxHeartbeats 2000000 in
set_option maxRecDepth 100000 in
theorem collect_out (ls : List Lf) (wI : World) (B fb eb pb lb cb first e b off n c : Nat) (f0 s0 : Int) (lv : Value) (hE : ∀ w, Stays wI w B pb → CE w fb eb pb lb cb first e b off n c) (hlb : lb < B ∧ lb ≠ pb) (hpb : pb < B) (hBI : B ≤ wI.heap.size)
    (hGL : ∀ w, Stays wI w B pb → Glob w ∧ Lvs w b off ls) (hS : Small ls) (hl : ls.length = n) (hn : n ≤ 4096) (hc : n ≤ c)
    (x y : Nat) (hxy : x < y) (hy : y ≤ n) (ho : y ≤ first ∨ e ≤ x) (w : World) (L : List (List Nat)) (hlen : L.length ≤ 1000000000) (hs : Stays wI w B pb) (hP : CP w B pb f0 s0 lv L) :
    Calls Tryd.prog 66 #[.int .i64 (x : Int), .int .i64 (y : Int), .pointer (some ⟨fb, 0, none⟩), .pointer (some ⟨eb, 0, none⟩), .pointer (some ⟨pb, 0, none⟩), .pointer (some ⟨lb, 0, none⟩), .pointer (some ⟨cb, 0, none⟩)] w
      fun en w' => en = .returned (.tuple #[]) ∧ Stays w w' B pb ∧ CP w' B pb f0 s0 lv (L ++ sidesM ls first e x y) := by
  rw [sides_out ls first e x y hxy ho]
  have hll : ((ls.drop x).take (y - x)).length = y - x := by rw [List.length_take, List.length_drop]; omega
  have hMd : Dgt (rowM ((ls.drop x).take (y - x))) := rowM_dgt _ _ (Nat.le_refl _) (by omega)
  have HR := Lib.hid (fun (w0 : World) (g : Stays wI w0 B pb) => mrow_any (y - x) (by omega) (by omega) ((ls.drop x).take (y - x)) b (off + 2 * x) (c - x) w0 hll (by omega) (hGL w0 g).1 (((hGL w0 g).2.drop x).take (y - x)) ((hS.drop x).take (y - x)))
  generalize rowM ((ls.drop x).take (y - x)) = M at hMd HR
  have E := hE w hs
  have c1 := E.1.cell (j := 0) rfl
  have c2 := E.2.1.cell (j := 0) rfl
  have hcl := E.2.2.1
  obtain ⟨sv, hPb, hO⟩ := hP
  have hBv : B ≤ w.heap.size := Nat.le_trans hBI hs.size
  clear E hE hGL hS hl hll
  go_enter Tryd.func66, Tryd.ntmps66
  have key : y ≤ first ∨ (¬ y ≤ first ∧ e ≤ x) := by omega
  clear ho
  rcases key with h1 | ⟨h0, h1⟩
  all_goals
    go_upto_region 1 with (fail)
    have hHeld : True := trivial
    refine wp_region_held_drew (S := fun w' => Blk w' lb 33 [.slice (some ⟨b, off, none⟩) n c]) (by kernel_rfl) hcl (fun _ => ?_)
    have hHeld : Blk w.drew lb 33 [.slice (some ⟨b, off, none⟩) n c] := hcl
    have hs0 : Stays wI w.drew B pb := hs.drew
    have hsw : Stays w w.drew B pb := (Stays.refl w B pb).drew
    replace hPb : Blk w.drew pb 50 [.int .i64 f0, .int .i64 s0, lv, sv] := hPb
    replace hO : OwnD w.drew B sv L := hO
    replace hBv : B ≤ w.drew.heap.size := hBv
    clear hs c1 c2 hcl
    generalize w.drew = V0 at hHeld hs0 hsw hPb hO hBv ⊢
    refine wt (i := 0) (oi := ⟨some 18, .fieldAddr 50 (.tmp 4) 3, 0, "merkle.go:90", #[], none⟩) (v := .pointer (some ⟨pb, 3, none⟩)) (Or.inl ⟨by rfl, fun w' hSw => by go_simp⟩) hHeld ?_
    try simp only [zP, zQ, zS, zZ, zC]
    refine wt (i := 2) (oi := ⟨some 20, .load 33 (.tmp 5), 33, "merkle.go:90", #[], none⟩) (v := .slice (some ⟨b, off, none⟩) n c) (Or.inl ⟨by rfl, fun w' hSw => by have hc := Blk.cell (j := 0) hSw rfl; go_simp⟩) hHeld ?_
    try simp only [zP, zQ, zS, zZ, zC]
    refine wt (i := 3) (oi := ⟨some 21, .move (.tmp 0), 3, "merkle.go:90", #[], none⟩) (v := .int .i64 (x : Int)) (Or.inl ⟨by rfl, fun w' hSw => by go_simp⟩) hHeld ?_
    try simp only [zP, zQ, zS, zZ, zC]
    refine wt (i := 4) (oi := ⟨some 22, .move (.tmp 1), 3, "merkle.go:90", #[], none⟩) (v := .int .i64 (y : Int)) (Or.inl ⟨by rfl, fun w' hSw => by go_simp⟩) hHeld ?_
    try simp only [zP, zQ, zS, zZ, zC]
    refine wt (i := 5) (oi := ⟨some 23, .slice 33 (.tmp 20) (some (.tmp 21)) (some (.tmp 22)) none, 33, "merkle.go:90", #[⟨2, .data⟩, ⟨3, .data⟩, ⟨4, .data⟩], none⟩) (v := .slice (some ⟨b, off + 2 * x, none⟩) (y - x) (c - x)) (Or.inl ⟨by rfl, fun w' hSw => by go_simp; rw [if_pos (Nat.le_of_lt hxy), if_pos (Nat.le_trans hy hc), if_neg (by omega : ¬ c = x), Nat.mul_comm x 2]⟩) hHeld ?_
    try simp only [zP, zQ, zS, zZ, zC]
    refine wpAnyH_ready (rs := [1, 6]) (by kernel_rfl) (by simp) ?_
    refine AllReadyH.cons (o := ⟨some 19, .load 48 (.tmp 18), 48, "merkle.go:90", #[⟨0, .data⟩], none⟩) rfl (fun K hK => ?_) (AllReadyH.cons (o := ⟨some 24, .call { callee := .value (.func 42), args := #[.tmp 23], argTypes := #[33] }, 29, "merkle.go:90", #[⟨5, .data⟩], none⟩) rfl (fun K hK => ?_) AllReadyH.nil)
    · rw [if_pos (by rfl)]
      have hc3 := hPb.cell (j := 3) rfl
      go_simp
      clear hc3
      refine hK.out _ _ (hHeld) (fun hHeld => ?_)
      clear hK K
      try simp only [zP, zQ, zS, zZ, zC]
      refine wpAnyH_ready (rs := [6]) (by kernel_rfl) (by simp) ?_
      refine AllReadyH.cons (o := ⟨some 24, .call { callee := .value (.func 42), args := #[.tmp 23], argTypes := #[33] }, 29, "merkle.go:90", #[⟨5, .data⟩], none⟩) rfl (fun K hK => ?_) AllReadyH.nil
      rw [if_pos (by rfl)]
      go_simp
      refine (HR.out V0 hs0).mono ?_
      rintro en V1 ⟨rfl, hB1⟩
      dsimp only
      refine hK.out _ _ (hHeld.keep hB1) (fun hHeld => ?_)
      clear hK K
      try simp only [zP, zQ, zS, zZ, zC]
      have hPb1 := hPb.keep hB1
      have hO1 := hO.keep hB1
      have hBv1 : B ≤ V1.heap.size := Nat.le_trans hBv hB1.size
      have hs1 := hs0.trans (Stays.below (pb := pb) hB1 hBv)
      have hw1 := hsw.trans (Stays.below (pb := pb) hB1 hBv)
      clear hPb hO hs0 hsw hB1
      have hLb1 := hHeld
      have hfd := fold_dig M hMd.1
      have hvM : (bytesV M).length = 16 := by rw [bytesV_length]; exact hMd.1
      refine wpAnyH_ready (rs := [7]) (by kernel_rfl) (by simp) ?_
      refine AllReadyH.cons (o := ⟨some 25, .buildSlice 48 1 #[(0, .tmp 24)], 48, "merkle.go:90", #[⟨6, .data⟩], none⟩) rfl (fun K hK => ?_) AllReadyH.nil
      rw [if_pos (by rfl)]
      go_simp
      refine hK.out _ _ (hHeld.keep ((Below.refl _ _).alloc (Nat.le_refl _) _)) (fun hHeld => ?_)
      clear hK K
      try simp only [zP, zQ, zS, zZ, zC]
      refine wpAnyH_ready (rs := [8]) (by kernel_rfl) (by simp) ?_
      refine AllReadyH.cons (o := ⟨some 26, .call { callee := .builtin .append, args := #[.tmp 19, .tmp 25], argTypes := #[48, 48] }, 48, "merkle.go:90", #[⟨1, .data⟩, ⟨7, .data⟩, ⟨6, .chain⟩], none⟩) rfl (fun K hK => ?_) AllReadyH.nil
      rw [if_pos (by rfl)]
      refine push_dig_wp (w := V1) (B := B) (.tmp 19) (.tmp 25) rfl L M hMd.1 sv rfl hO1 hBv1 1 rfl hlen ?_
      intro v2 w2 hO2 hg2
      have hX2 : Below B V1 w2 := ((Below.refl _ _).alloc hBv1 _).grown hg2 (by simp; omega) (fun j hj => (World.ownsRow.lt hO1 j hj).1)
      refine hK.out _ _ ((show Blk V1 lb 33 [.slice (some ⟨b, off, none⟩) n c] from hLb1).keepB hlb.1 hX2) (fun hHeld => ?_)
      clear hK K
      try simp only [zP, zQ, zS, zZ, zC]
      have hPb2 := hPb1.keepB hpb hX2
      have hs2 := hs1.trans (Stays.belowB hX2)
      have hw2 := hw1.trans (Stays.belowB hX2)
      clear hg2 hO1 hPb1 hs1 hw1
      obtain ⟨g2, cap2, hv2, _, _⟩ := hO2.form (by simp)
      rw [List.length_append, List.length_singleton] at hv2
      subst hv2
      refine wpAnyH_ready (rs := [9]) (by kernel_rfl) (by simp) ?_
      refine AllReadyH.cons (o := ⟨some 27, .fieldAddr 50 (.tmp 4) 3, 0, "merkle.go:90", #[⟨0, .phase⟩, ⟨1, .phase⟩, ⟨2, .phase⟩, ⟨3, .phase⟩, ⟨4, .phase⟩, ⟨5, .phase⟩, ⟨6, .phase⟩, ⟨7, .phase⟩, ⟨8, .phase⟩], none⟩) rfl (fun K hK => ?_) AllReadyH.nil
      rw [if_pos (by rfl)]
      go_simp
      refine hK.out _ _ (hHeld) (fun hHeld => ?_)
      clear hK K
      try simp only [zP, zQ, zS, zZ, zC]
      have hc3 := hPb2.cell (j := 3) rfl
      have hf3 := hPb2.free 3
      refine wpAnyH_ready (rs := [10]) (by kernel_rfl) (by simp) ?_
      refine AllReadyH.cons (o := ⟨none, .store 48 (.tmp 27) (.tmp 26), 0, "merkle.go:90", #[⟨9, .data⟩, ⟨8, .data⟩, ⟨8, .chain⟩, ⟨0, .phase⟩, ⟨1, .phase⟩, ⟨2, .phase⟩, ⟨3, .phase⟩, ⟨4, .phase⟩, ⟨5, .phase⟩, ⟨6, .phase⟩, ⟨7, .phase⟩, ⟨8, .phase⟩], none⟩) rfl (fun K hK => ?_) AllReadyH.nil
      rw [if_pos (by rfl)]
      go_simp
      refine hK.out _ _ (hHeld.other (a := ⟨pb, 3, none⟩) hlb.2 _) (fun hHeld => ?_)
      clear hK K
      try simp only [zP, zQ, zS, zZ, zC]
      refine wpAnyH_done (by kernel_rfl) ?_ _
      have hP3 : CP (w2.setCell ⟨pb, 3, none⟩ (.slice (some ⟨g2, 0, none⟩) (L.length + 1) cap2)) B pb f0 s0 lv (L ++ [M]) := ⟨_, hPb2.set 3 _, hO2.setCell hpb⟩
      have hw3 := hw2.trans (Stays.setCell (B := B) w2 pb 3 (.slice (some ⟨g2, 0, none⟩) (L.length + 1) cap2))
      go_wp2
      exact bodyPost_end (results_none rfl _ _ _) rfl ⟨rfl, hw3, hP3⟩
    · rw [if_pos (by rfl)]
      go_simp
      refine (HR.out V0 hs0).mono ?_
      rintro en V1 ⟨rfl, hB1⟩
      dsimp only
      refine hK.out _ _ (hHeld.keep hB1) (fun hHeld => ?_)
      clear hK K
      try simp only [zP, zQ, zS, zZ, zC]
      have hLb0 := hHeld
      refine wpAnyH_ready (rs := [1, 7]) (by kernel_rfl) (by simp) ?_
      have hfd := fold_dig M hMd.1
      have hvM : (bytesV M).length = 16 := by rw [bytesV_length]; exact hMd.1
      refine AllReadyH.cons (o := ⟨some 19, .load 48 (.tmp 18), 48, "merkle.go:90", #[⟨0, .data⟩], none⟩) rfl (fun K hK => ?_) (AllReadyH.cons (o := ⟨some 25, .buildSlice 48 1 #[(0, .tmp 24)], 48, "merkle.go:90", #[⟨6, .data⟩], none⟩) rfl (fun K hK => ?_) AllReadyH.nil)
      · rw [if_pos (by rfl)]
        have hc3 := (hPb.keep hB1).cell (j := 3) rfl
        go_simp
        clear hc3 hfd hvM
        refine hK.out _ _ (hHeld) (fun hHeld => ?_)
        clear hK K
        try simp only [zP, zQ, zS, zZ, zC]
        have hPb1 := hPb.keep hB1
        have hO1 := hO.keep hB1
        have hBv1 : B ≤ V1.heap.size := Nat.le_trans hBv hB1.size
        have hs1 := hs0.trans (Stays.below (pb := pb) hB1 hBv)
        have hw1 := hsw.trans (Stays.below (pb := pb) hB1 hBv)
        clear hPb hO hs0 hsw hB1
        have hLb1 := hHeld
        have hfd := fold_dig M hMd.1
        have hvM : (bytesV M).length = 16 := by rw [bytesV_length]; exact hMd.1
        refine wpAnyH_ready (rs := [7]) (by kernel_rfl) (by simp) ?_
        refine AllReadyH.cons (o := ⟨some 25, .buildSlice 48 1 #[(0, .tmp 24)], 48, "merkle.go:90", #[⟨6, .data⟩], none⟩) rfl (fun K hK => ?_) AllReadyH.nil
        rw [if_pos (by rfl)]
        go_simp
        refine hK.out _ _ (hHeld.keep ((Below.refl _ _).alloc (Nat.le_refl _) _)) (fun hHeld => ?_)
        clear hK K
        try simp only [zP, zQ, zS, zZ, zC]
        refine wpAnyH_ready (rs := [8]) (by kernel_rfl) (by simp) ?_
        refine AllReadyH.cons (o := ⟨some 26, .call { callee := .builtin .append, args := #[.tmp 19, .tmp 25], argTypes := #[48, 48] }, 48, "merkle.go:90", #[⟨1, .data⟩, ⟨7, .data⟩, ⟨6, .chain⟩], none⟩) rfl (fun K hK => ?_) AllReadyH.nil
        rw [if_pos (by rfl)]
        refine push_dig_wp (w := V1) (B := B) (.tmp 19) (.tmp 25) rfl L M hMd.1 sv rfl hO1 hBv1 1 rfl hlen ?_
        intro v2 w2 hO2 hg2
        have hX2 : Below B V1 w2 := ((Below.refl _ _).alloc hBv1 _).grown hg2 (by simp; omega) (fun j hj => (World.ownsRow.lt hO1 j hj).1)
        refine hK.out _ _ ((show Blk V1 lb 33 [.slice (some ⟨b, off, none⟩) n c] from hLb1).keepB hlb.1 hX2) (fun hHeld => ?_)
        clear hK K
        try simp only [zP, zQ, zS, zZ, zC]
        have hPb2 := hPb1.keepB hpb hX2
        have hs2 := hs1.trans (Stays.belowB hX2)
        have hw2 := hw1.trans (Stays.belowB hX2)
        clear hg2 hO1 hPb1 hs1 hw1
        obtain ⟨g2, cap2, hv2, _, _⟩ := hO2.form (by simp)
        rw [List.length_append, List.length_singleton] at hv2
        subst hv2
        refine wpAnyH_ready (rs := [9]) (by kernel_rfl) (by simp) ?_
        refine AllReadyH.cons (o := ⟨some 27, .fieldAddr 50 (.tmp 4) 3, 0, "merkle.go:90", #[⟨0, .phase⟩, ⟨1, .phase⟩, ⟨2, .phase⟩, ⟨3, .phase⟩, ⟨4, .phase⟩, ⟨5, .phase⟩, ⟨6, .phase⟩, ⟨7, .phase⟩, ⟨8, .phase⟩], none⟩) rfl (fun K hK => ?_) AllReadyH.nil
        rw [if_pos (by rfl)]
        go_simp
        refine hK.out _ _ (hHeld) (fun hHeld => ?_)
        clear hK K
        try simp only [zP, zQ, zS, zZ, zC]
        have hc3 := hPb2.cell (j := 3) rfl
        have hf3 := hPb2.free 3
        refine wpAnyH_ready (rs := [10]) (by kernel_rfl) (by simp) ?_
        refine AllReadyH.cons (o := ⟨none, .store 48 (.tmp 27) (.tmp 26), 0, "merkle.go:90", #[⟨9, .data⟩, ⟨8, .data⟩, ⟨8, .chain⟩, ⟨0, .phase⟩, ⟨1, .phase⟩, ⟨2, .phase⟩, ⟨3, .phase⟩, ⟨4, .phase⟩, ⟨5, .phase⟩, ⟨6, .phase⟩, ⟨7, .phase⟩, ⟨8, .phase⟩], none⟩) rfl (fun K hK => ?_) AllReadyH.nil
        rw [if_pos (by rfl)]
        go_simp
        refine hK.out _ _ (hHeld.other (a := ⟨pb, 3, none⟩) hlb.2 _) (fun hHeld => ?_)
        clear hK K
        try simp only [zP, zQ, zS, zZ, zC]
        refine wpAnyH_done (by kernel_rfl) ?_ _
        have hP3 : CP (w2.setCell ⟨pb, 3, none⟩ (.slice (some ⟨g2, 0, none⟩) (L.length + 1) cap2)) B pb f0 s0 lv (L ++ [M]) := ⟨_, hPb2.set 3 _, hO2.setCell hpb⟩
        have hw3 := hw2.trans (Stays.setCell (B := B) w2 pb 3 (.slice (some ⟨g2, 0, none⟩) (L.length + 1) cap2))
        go_wp2
        exact bodyPost_end (results_none rfl _ _ _) rfl ⟨rfl, hw3, hP3⟩
      · rw [if_pos (by rfl)]
        go_simp
        refine hK.out _ _ (hHeld.keep ((Below.refl _ _).alloc (Nat.le_refl _) _)) (fun hHeld => ?_)
        clear hK K
        try simp only [zP, zQ, zS, zZ, zC]
        clear hfd hvM
        refine wpAnyH_ready (rs := [1]) (by kernel_rfl) (by simp) ?_
        refine AllReadyH.cons (o := ⟨some 19, .load 48 (.tmp 18), 48, "merkle.go:90", #[⟨0, .data⟩], none⟩) rfl (fun K hK => ?_) AllReadyH.nil
        rw [if_pos (by rfl)]
        have hc3 := ((hPb.keep hB1).alloc (.cells (bytesV M).toArray 29)).cell (j := 3) rfl
        go_simp
        clear hc3
        refine hK.out _ _ (hHeld) (fun hHeld => ?_)
        clear hK K
        try simp only [zP, zQ, zS, zZ, zC]
        have hPb1 := hPb.keep hB1
        have hO1 := hO.keep hB1
        have hBv1 : B ≤ V1.heap.size := Nat.le_trans hBv hB1.size
        have hs1 := hs0.trans (Stays.below (pb := pb) hB1 hBv)
        have hw1 := hsw.trans (Stays.below (pb := pb) hB1 hBv)
        clear hPb hO hs0 hsw hB1
        have hLb1 : Blk V1 lb 33 [.slice (some ⟨b, off, none⟩) n c] := hLb0
        have hfd := fold_dig M hMd.1
        have hvM : (bytesV M).length = 16 := by rw [bytesV_length]; exact hMd.1
        refine wpAnyH_ready (rs := [8]) (by kernel_rfl) (by simp) ?_
        refine AllReadyH.cons (o := ⟨some 26, .call { callee := .builtin .append, args := #[.tmp 19, .tmp 25], argTypes := #[48, 48] }, 48, "merkle.go:90", #[⟨1, .data⟩, ⟨7, .data⟩, ⟨6, .chain⟩], none⟩) rfl (fun K hK => ?_) AllReadyH.nil
        rw [if_pos (by rfl)]
        refine push_dig_wp (w := V1) (B := B) (.tmp 19) (.tmp 25) rfl L M hMd.1 sv rfl hO1 hBv1 1 rfl hlen ?_
        intro v2 w2 hO2 hg2
        have hX2 : Below B V1 w2 := ((Below.refl _ _).alloc hBv1 _).grown hg2 (by simp; omega) (fun j hj => (World.ownsRow.lt hO1 j hj).1)
        refine hK.out _ _ ((show Blk V1 lb 33 [.slice (some ⟨b, off, none⟩) n c] from hLb1).keepB hlb.1 hX2) (fun hHeld => ?_)
        clear hK K
        try simp only [zP, zQ, zS, zZ, zC]
        have hPb2 := hPb1.keepB hpb hX2
        have hs2 := hs1.trans (Stays.belowB hX2)
        have hw2 := hw1.trans (Stays.belowB hX2)
        clear hg2 hO1 hPb1 hs1 hw1
        obtain ⟨g2, cap2, hv2, _, _⟩ := hO2.form (by simp)
        rw [List.length_append, List.length_singleton] at hv2
        subst hv2
        refine wpAnyH_ready (rs := [9]) (by kernel_rfl) (by simp) ?_
        refine AllReadyH.cons (o := ⟨some 27, .fieldAddr 50 (.tmp 4) 3, 0, "merkle.go:90", #[⟨0, .phase⟩, ⟨1, .phase⟩, ⟨2, .phase⟩, ⟨3, .phase⟩, ⟨4, .phase⟩, ⟨5, .phase⟩, ⟨6, .phase⟩, ⟨7, .phase⟩, ⟨8, .phase⟩], none⟩) rfl (fun K hK => ?_) AllReadyH.nil
        rw [if_pos (by rfl)]
        go_simp
        refine hK.out _ _ (hHeld) (fun hHeld => ?_)
        clear hK K
        try simp only [zP, zQ, zS, zZ, zC]
        have hc3 := hPb2.cell (j := 3) rfl
        have hf3 := hPb2.free 3
        refine wpAnyH_ready (rs := [10]) (by kernel_rfl) (by simp) ?_
        refine AllReadyH.cons (o := ⟨none, .store 48 (.tmp 27) (.tmp 26), 0, "merkle.go:90", #[⟨9, .data⟩, ⟨8, .data⟩, ⟨8, .chain⟩, ⟨0, .phase⟩, ⟨1, .phase⟩, ⟨2, .phase⟩, ⟨3, .phase⟩, ⟨4, .phase⟩, ⟨5, .phase⟩, ⟨6, .phase⟩, ⟨7, .phase⟩, ⟨8, .phase⟩], none⟩) rfl (fun K hK => ?_) AllReadyH.nil
        rw [if_pos (by rfl)]
        go_simp
        refine hK.out _ _ (hHeld.other (a := ⟨pb, 3, none⟩) hlb.2 _) (fun hHeld => ?_)
        clear hK K
        try simp only [zP, zQ, zS, zZ, zC]
        refine wpAnyH_done (by kernel_rfl) ?_ _
        have hP3 : CP (w2.setCell ⟨pb, 3, none⟩ (.slice (some ⟨g2, 0, none⟩) (L.length + 1) cap2)) B pb f0 s0 lv (L ++ [M]) := ⟨_, hPb2.set 3 _, hO2.setCell hpb⟩
        have hw3 := hw2.trans (Stays.setCell (B := B) w2 pb 3 (.slice (some ⟨g2, 0, none⟩) (L.length + 1) cap2))
        go_wp2
        exact bodyPost_end (results_none rfl _ _ _) rfl ⟨rfl, hw3, hP3⟩

theorem collect_any (ls : List Lf) (wI : World) (B fb eb pb lb cb first e b off n c : Nat) (f0 s0 : Int) (lv : Value) (hE : ∀ w, Stays wI w B pb → CE w fb eb pb lb cb first e b off n c) (hlb : lb < B ∧ lb ≠ pb) (hcb : cb < B ∧ cb ≠ pb) (hpb : pb < B) (hBI : B ≤ wI.heap.size)
    (hGL : ∀ w, Stays wI w B pb → Glob w ∧ Lvs w b off ls) (hS : Small ls) (hl : ls.length = n) (hn : n ≤ 4096) (hc : n ≤ c) :
    ∀ (k x y : Nat), y - x = k → x < y → y ≤ n → CollectAt ls wI B fb eb pb lb cb first e f0 s0 lv x y := by
  intro k
  induction k using Nat.strongRecOn with
  | ind k ih =>
    intro x y hk hxy hy
    by_cases ho : y ≤ first ∨ e ≤ x
    · intro w L hlen hs hP
      exact collect_out ls wI B fb eb pb lb cb first e b off n c f0 s0 lv hE hlb hpb hBI hGL hS hl hn hc x y hxy hy ho w L (by omega) hs hP
    · by_cases h1 : y = x + 1
      · intro w L hlen hs hP
        refine (collect_in fb eb pb lb cb first e b off n c x y h1 (by omega) ho w (hE w hs)).mono ?_
        rintro en w' ⟨rfl, rfl⟩
        rw [sides_in ls first e x y h1 ho, List.append_nil]
        exact ⟨rfl, Stays.refl _ _ _, hP⟩
      · have h3 := half_lt (y - x) (by omega)
        have h4 := half_pos (y - x)
        exact collect_split ls wI B fb eb pb lb cb first e b off n c f0 s0 lv hE hcb x y (by omega) (by omega) ho
          (ih (x + half (y - x) - x) (by omega) _ _ rfl (by omega) (by omega)) (ih (y - (x + half (y - x))) (by omega) _ _ rfl (by omega) (by omega))

end Go.Proofs.YtfhfmdnimebegaaDoor

/-
  merkle.from, with sort.Search and its function below it.
-/
namespace Go.Proofs.YtfhfmdnimebegaaDoor
open Go.RowKit
set_option linter.unusedVariables false
set_option linter.unusedSimpArgs false

/-- What a search has found: before lo it is false, from hi on it is true. -/
def Part (P : Nat → Bool) (n lo hi : Nat) : Prop := (∀ t, t < lo → P t = false) ∧ (∀ t, hi ≤ t → t < n → P t = true)

theorem low_false {P : Nat → Bool} {n m : Nat} (hm : m < n) (hM : ∀ a b, a ≤ b → b < n → P a = true → P b = true) (hp : P m = false) : ∀ t, t < m + 1 → P t = false := by
  intro t ht
  rcases hx : P t with _ | _
  · rfl
  · have := hM t m (by omega) hm hx
    rw [hp] at this
    cases this

set_option maxHeartbeats 1000000 in
set_option maxRecDepth 100000 in
theorem search_any (n : Nat) (hn : n ≤ 4096) (P : Nat → Bool) (hmono : ∀ a b, a ≤ b → b < n → P a = true → P b = true) (a1 a2 : Value) (w : World)
    (hf : ∀ (w0 : World) (i : Nat), i < n → Below w.heap.size w w0 → Calls Tryd.prog 65 #[.int .i64 (i : Int), a1, a2] w0 fun e w' => e = .returned (.bool (P i)) ∧ Below w0.heap.size w0 w') :
    Calls Tryd.prog 64 #[.int .i64 (n : Int), .func (.func 65) #[] #[a1, a2]] w fun e w' => ∃ r : Nat, e = .returned (.int .i64 (r : Int)) ∧ r ≤ n ∧ Part P n r r ∧ Below w.heap.size w w' := by
  have HF := Lib.hid hf
  have HM := Lib.hid hmono
  clear hf hmono
  go_enter Tryd.func64, Tryd.ntmps64
  go_wp2
  go_loopw [5, 6] (fun u v wr => ∃ lo hi : Nat, u = .int .i64 lo ∧ v = .int .i64 hi ∧ lo ≤ hi ∧ hi ≤ n ∧ Part P n lo hi ∧ Below w.heap.size w wr) (fun u v _ => (intOf v - intOf u).toNat)
  case atStart => exact ⟨0, n, rfl, rfl, Nat.zero_le _, Nat.le_refl _, ⟨fun t h => by omega, fun t h1 h2 => by omega⟩, Below.refl _ _⟩
  case round =>
    obtain ⟨lo, hi, rfl, rfl, hlh, hin, hP, hB⟩ := hrel
    by_cases hlt : lo < hi
    · obtain ⟨m, hm⟩ : ∃ m, (lo + hi) / 2 = m := ⟨_, rfl⟩
      have hmi : ((lo : Int) + (hi : Int)) / 2 = (m : Int) := by omega
      have hc := HF.out wr m (by omega) hB
      cases hp : P m <;> rw [hp] at hc
      · have hP2 : Part P n (m + 1) hi := ⟨low_false (by omega) HM.out hp, hP.2⟩
        have HP := Lib.hid hP2
        clear hp hP hP2
        go_wp2_with (go_at_call 65; refine hc.mono ?_; rintro e w2 ⟨rfl, hB2⟩)
        go_roundw
        case rel => exact ⟨m + 1, hi, by go_num, rfl, by omega, hin, HP.out, link hB hB2⟩
        case measure => simp [intOf]; omega
      · have hP2 : Part P n lo m := ⟨hP.1, fun t h1 h2 => HM.out m t h1 h2 hp⟩
        have HP := Lib.hid hP2
        clear hp hP hP2
        go_wp2_with (go_at_call 65; refine hc.mono ?_; rintro e w2 ⟨rfl, hB2⟩)
        go_roundw
        case rel => exact ⟨lo, m, rfl, rfl, by omega, by omega, HP.out, link hB hB2⟩
        case measure => simp [intOf]; omega
    · obtain rfl : lo = hi := by omega
      go_wp2
      go_ret
      exact ⟨lo, rfl, hin, hP, hB⟩

set_option maxHeartbeats 1000000 in
set_option maxRecDepth 100000 in
theorem from1_any (ls : List Lf) (n c : Nat) (hl : ls.length = n) (key : ByteArray) (i : Nat) (x : Lf) (hx : ls[i]? = some x) (b off la ka : Nat) (w : World)
    (Kl : Blk w la 33 [.slice (some ⟨b, off, none⟩) n c]) (Kk : Blk w ka 9 [.string key]) (hL : Lvs w b off ls) :
    Calls Tryd.prog 65 #[.int .i64 (i : Int), .pointer (some ⟨la, 0, none⟩), .pointer (some ⟨ka, 0, none⟩)] w fun e w' => e = .returned (.bool (!sless x.1 key)) ∧ Below w.heap.size w w' := by
  have hi : i < n := by rw [← hl]; exact (List.getElem?_eq_some_iff.1 hx).1
  have c1 := Kl.cell (j := 0) rfl
  have c2 := Kk.cell (j := 0) rfl
  have h1 := (hL.at hx).1
  have hb := hL.1
  clear hl hx hL
  unfold sless
  go_enter Tryd.func65, Tryd.ntmps65
  go_upto_region 1 with (fail)
  have hHeld : True := trivial
  refine wp_region_held_drew (S := fun w' => Below w.drew.heap.size w.drew w') (by kernel_rfl) (Below.refl _ _) (fun _ => ?_)
  have hHeld : Below w.drew.heap.size w.drew w.drew := Below.refl _ _
  have CB : Below w.heap.size w w.drew := below_drew (Below.refl _ _)
  have C0 : ∀ w', Below w.drew.heap.size w.drew w' → w'.cell? ⟨la, 0, none⟩ = some (.slice (some ⟨b, off, none⟩) n c) := fun w' h => (h.cell Kl.lt).trans c1
  have C1 : ∀ w', Below w.drew.heap.size w.drew w' → w'.cell? ⟨b, off + i * 2, none⟩ = some (.string x.1) := fun w' h => (h.cell hb).trans h1
  have C2 : ∀ w', Below w.drew.heap.size w.drew w' → w'.cell? ⟨ka, 0, none⟩ = some (.string key) := fun w' h => (h.cell Kk.lt).trans c2
  clear Kl Kk c1 c2 h1 hb
  generalize w.drew = V0 at hHeld CB C0 C1 C2 ⊢
  refine wt (i := 0) (oi := ⟨some 5, .load 33 (.tmp 1), 33, "merkle.go:139", #[], none⟩) (v := .slice (some ⟨b, off, none⟩) n c) (Or.inl ⟨by rfl, fun w' hSw => by have hc := C0 w' hSw; go_simp⟩) hHeld ?_
  try simp only [zP, zQ, zS, zZ, zC]
  refine wt (i := 1) (oi := ⟨some 6, .move (.tmp 0), 3, "merkle.go:139", #[], none⟩) (v := .int .i64 (i : Int)) (Or.inl ⟨by rfl, fun w' hSw => by go_simp⟩) hHeld ?_
  try simp only [zP, zQ, zS, zZ, zC]
  refine wt (i := 2) (oi := ⟨some 7, .indexAddr 33 (.tmp 5) (.tmp 6), 0, "merkle.go:139", #[⟨0, .data⟩, ⟨1, .data⟩], none⟩) (v := .pointer (some ⟨b, off + i * 2, none⟩)) (Or.inl ⟨by rfl, fun w' hSw => by go_simp; try (intro hcm; exact absurd hcm (by omega))⟩) hHeld ?_
  try simp only [zP, zQ, zS, zZ, zC]
  refine wt (i := 3) (oi := ⟨some 8, .fieldAddr 41 (.tmp 7) 0, 0, "merkle.go:139", #[⟨2, .data⟩], none⟩) (v := .pointer (some ⟨b, off + i * 2, none⟩)) (Or.inl ⟨by rfl, fun w' hSw => by go_simp⟩) hHeld ?_
  try simp only [zP, zQ, zS, zZ, zC]
  refine wt (i := 4) (oi := ⟨some 9, .load 9 (.tmp 8), 9, "merkle.go:139", #[⟨3, .data⟩], none⟩) (v := .string x.1) (Or.inl ⟨by rfl, fun w' hSw => by have hc := C1 w' hSw; go_simp⟩) hHeld ?_
  try simp only [zP, zQ, zS, zZ, zC]
  refine wt (i := 5) (oi := ⟨some 10, .load 9 (.tmp 2), 9, "merkle.go:139", #[], none⟩) (v := .string key) (Or.inl ⟨by rfl, fun w' hSw => by have hc := C2 w' hSw; go_simp⟩) hHeld ?_
  try simp only [zP, zQ, zS, zZ, zC]
  refine wt (i := 6) (oi := ⟨some 11, .binOp .geq 9 (.tmp 9) (.tmp 10) 9, 4, "merkle.go:139", #[⟨4, .data⟩, ⟨5, .data⟩], none⟩) (v := .bool (!Op.bytesLess x.1.toList key.toList)) (Or.inl ⟨by rfl, fun w' hSw => by go_simp⟩) hHeld ?_
  try simp only [zP, zQ, zS, zZ, zC]
  refine wt (i := 7) (oi := ⟨some 4, .assign (.tmp 11), 4, "merkle.go:139", #[⟨6, .data⟩, ⟨0, .phase⟩, ⟨1, .phase⟩, ⟨2, .phase⟩, ⟨3, .phase⟩, ⟨4, .phase⟩, ⟨5, .phase⟩, ⟨6, .phase⟩], none⟩) (v := .bool (!Op.bytesLess x.1.toList key.toList)) (Or.inl ⟨by rfl, fun w' hSw => by go_simp⟩) hHeld ?_
  try simp only [zP, zQ, zS, zZ, zC]
  refine wpAnyH_done (by kernel_rfl) ?_ _
  go_wp2
  go_ret
  exact ⟨rfl, CB⟩

/-- The index of the first leaf whose key is not less than a key. -/
def fromM (ls : List Lf) (key : ByteArray) : Nat := ls.findIdx (fun x => !sless x.1 key)
def pred (ls : List Lf) (key : ByteArray) (i : Nat) : Bool := match ls[i]? with
  | some x => !sless x.1 key
  | none => true
theorem fromM_part {ls : List Lf} {key : ByteArray} {r : Nat} (hr : r ≤ ls.length) (h : Part (pred ls key) ls.length r r) : r = fromM ls key := by
  unfold fromM
  rcases Nat.lt_or_ge r ls.length with hlt | hge
  · symm
    rw [List.findIdx_eq hlt]
    refine ⟨?_, fun j hj => ?_⟩
    · have := h.2 r (Nat.le_refl _) hlt
      unfold pred at this
      rw [List.getElem?_eq_getElem hlt] at this
      exact this
    · have := h.1 j hj
      unfold pred at this
      rw [List.getElem?_eq_getElem (by omega)] at this
      exact this
  · obtain rfl : r = ls.length := by omega
    symm
    rw [List.findIdx_eq_length]
    intro x hx
    obtain ⟨j, hj⟩ := List.mem_iff_getElem?.1 hx
    have hjl := (List.getElem?_eq_some_iff.1 hj).1
    have := h.1 j hjl
    unfold pred at this
    rw [hj] at this
    exact this
theorem sless_trans {a b c : ByteArray} (h1 : sless a b = true) (h2 : sless b c = true) : sless a c = true := by
  unfold sless at *
  rw [bytesLess_eq, decide_eq_true_eq] at *
  exact List.lt_trans h1 h2
theorem ord_head : ∀ (r : List Lf) (x : Lf), ordered (x :: r) = true → ∀ y ∈ r, sless x.1 y.1 = true
  | [], _, _, y, hy => by cases hy
  | z :: r, x, h, y, hy => by
    unfold ordered at h
    rw [Bool.and_eq_true] at h
    rcases List.mem_cons.1 hy with rfl | hy
    · exact h.1
    · exact sless_trans h.1 (ord_head r z h.2 y hy)
theorem ord_tail {x : Lf} {r : List Lf} (h : ordered (x :: r) = true) : ordered r = true := by
  match r, h with
  | [], _ => rfl
  | y :: r, h =>
    unfold ordered at h
    rw [Bool.and_eq_true] at h
    exact h.2
theorem ord_lt : ∀ (ls : List Lf) (i j : Nat) (x y : Lf), ordered ls = true → ls[i]? = some x → ls[j]? = some y → i < j → sless x.1 y.1 = true
  | [], i, j, x, y, _, hx, _, _ => by simp at hx
  | u :: r, 0, j + 1, x, y, h, hx, hy, _ => by
    obtain rfl : u = x := by simpa using hx
    exact ord_head r u h y (List.mem_of_getElem? (by simpa using hy))
  | u :: r, i + 1, j + 1, x, y, h, hx, hy, hij => ord_lt r i j x y (ord_tail h) (by simpa using hx) (by simpa using hy) (by omega)
  | u :: r, i, 0, x, y, _, _, _, hij => by omega
theorem pred_mono {ls : List Lf} {key : ByteArray} {n : Nat} (ho : ordered ls = true) (hn : n ≤ ls.length) : ∀ a b, a ≤ b → b < n → pred ls key a = true → pred ls key b = true := by
  intro a b hab hb hp
  rcases Nat.eq_or_lt_of_le hab with rfl | hlt
  · exact hp
  have hx : ls[a]? = some ls[a] := List.getElem?_eq_getElem (by omega)
  have hy : ls[b]? = some ls[b] := List.getElem?_eq_getElem (by omega)
  unfold pred at hp ⊢
  rw [hx] at hp
  rw [hy]
  have h1 := ord_lt ls a b _ _ ho hx hy hlt
  simp only [Bool.not_eq_true'] at hp ⊢
  rcases hs : sless ls[b].1 key with _ | _
  · rfl
  · rw [sless_trans h1 hs] at hp
    cases hp
theorem from_search (ls : List Lf) (p : Option Addr) (n c : Nat) (hl : ls.length = n) (hn : n ≤ 4096) (ho : ordered ls = true) (key : ByteArray) (la ka : Nat) (V : World)
    (Kl : Blk V la 33 [.slice p n c]) (Kk : Blk V ka 9 [.string key]) (hL : OwnL V p ls) :
    Calls Tryd.prog 64 #[.int .i64 (n : Int), .func (.func 65) #[] #[.pointer (some ⟨la, 0, none⟩), .pointer (some ⟨ka, 0, none⟩)]] V fun e w' => e = .returned (.int .i64 ((fromM ls key : Nat) : Int)) ∧ Below V.heap.size V w' := by
  refine (search_any n hn (pred ls key) (pred_mono ho (by omega)) _ _ V (fun w0 i hi hB => ?_)).mono ?_
  · obtain ⟨x, hx⟩ : ∃ x, ls[i]? = some x := ⟨_, List.getElem?_eq_getElem (by omega)⟩
    obtain ⟨b, off, rfl, hL2⟩ := hL (by intro h; rw [h] at hx; simp at hx)
    refine (from1_any ls n c hl key i _ hx b off la ka w0 (Kl.keep hB) (Kk.keep hB) (hL2.keep hB)).mono ?_
    rintro e w' ⟨rfl, h⟩
    exact ⟨by unfold pred; rw [hx], h⟩
  · rintro e w' ⟨r, rfl, hr, hP, hB⟩
    subst hl
    exact ⟨by rw [← fromM_part hr hP], hB⟩

set_option maxHeartbeats 1000000 in
set_option maxRecDepth 100000 in
theorem from_any (ls : List Lf) (p : Option Addr) (n c : Nat) (hl : ls.length = n) (hn : n ≤ 4096) (ho : ordered ls = true) (key : ByteArray) (w : World) (hL : OwnL w p ls) :
    Calls Tryd.prog 45 #[.slice p n c, .string key] w fun e w' => e = .returned (.int .i64 ((fromM ls key : Nat) : Int)) ∧ Below w.heap.size w w' := by
  have hmf : ∀ (fn : Fn) (first cap : Array Value) (w : World), (Instr.makeFunc fn first cap).run Tryd.prog w = .ok (.func fn first cap) w := fun _ _ _ _ => rfl
  have HF := Lib.hid (fun (V : World) (Kl : Blk V w.heap.size 33 [.slice p n c]) (Kk : Blk V (w.heap.size + 1) 9 [.string key]) (hB : Below w.heap.size w V) => from_search ls p n c hl hn ho key w.heap.size (w.heap.size + 1) V Kl Kk (hL.keep hB))
  clear hl ho hL
  go_enter Tryd.func45, Tryd.ntmps45
  go_upto_region 1 with (fail)
  generalize hw0 : World.alloc _ _ = W0
  have Kl : Blk W0 w.heap.size 33 [.slice p n c] := hw0 ▸ ((blk_new w _ _).alloc _)
  have Kk : Blk W0 (w.heap.size + 1) 9 [.string key] := hw0 ▸ blk_new1 w _ _ _
  have KB : Below w.heap.size w W0 := hw0 ▸ (((Below.refl _ _).alloc (Nat.le_refl _) _).alloc (by simp) _)
  have hS := HF.out W0 Kl Kk KB
  have c1 := Kl.cell (j := 0) rfl
  clear hw0 Kk Kl
  go_wp2_with (go_at_call 64; refine hS.mono ?_; rintro e w2 ⟨rfl, hB2⟩)
  go_ret
  exact ⟨rfl, link KB hB2⟩

end Go.Proofs.YtfhfmdnimebegaaDoor

/-
  merkle.absent.
-/
namespace Go.Proofs.YtfhfmdnimebegaaDoor
open Go.RowKit
set_option linter.unusedVariables false
set_option linter.unusedSimpArgs false

/-- What absent answers for a proof of n leaves from the index F on, of S leaves, where i of its keys are less. -/
def absentM (F S n i : Nat) : Bool := decide (S = 0) || ((decide (0 < i) || decide (F = 0)) && (decide (i < n) || decide (F + n = S)))

theorem eq_sum {F n S : Nat} : ((F : Int) + (n : Int) == (S : Int)) = decide (F + n = S) := by
  rcases Nat.decEq (F + n) S with h | h
  · rw [decide_eq_false h]
    simp
    omega
  · rw [decide_eq_true h]
    simp
    omega

theorem eq_one {n S : Nat} : ((n : Int) == (S : Int)) = decide (n = S) := by
  rcases Nat.decEq n S with h | h
  · rw [decide_eq_false h]
    simp
    omega
  · rw [decide_eq_true h]
    simp
    omega

set_option maxHeartbeats 1000000 in
set_option maxRecDepth 100000 in
theorem absent_any (ls : List Lf) (q : Option Addr) (n c : Nat) (hl : ls.length = n) (ho : ordered ls = true) (key : ByteArray) (F S : Nat) (hF : F + n ≤ 4096) (hS : S ≤ 4096)
    (sa : Option Addr) (sn sc : Nat) (w : World) (hL : OwnL w q ls) :
    Calls Tryd.prog 51 #[.string key, .agg #[.int .i64 (F : Int), .int .i64 (S : Int), .slice q n c, .slice sa sn sc]] w fun e w' => e = .returned (.bool (absentM F S n (fromM ls key))) ∧ Below w.heap.size w w' := by
  have HF := Lib.hid (fun (V : World) (hB : Below w.heap.size w V) => from_any ls q n c hl (by omega) ho key V (hL.keep hB))
  have HA : Hid (fromM ls key ≤ n) := Lib.hid (by rw [← hl]; exact List.findIdx_le_length)
  clear hl ho hL
  generalize fromM ls key = i at HF HA ⊢
  go_enter Tryd.func51, Tryd.ntmps51
  go_upto_region 1 with (fail)
  generalize hw0 : World.alloc _ _ = W0
  have K3 : Blk W0 w.heap.size 50 [.int .i64 (F : Int), .int .i64 (S : Int), .slice q n c, .slice sa sn sc] := hw0 ▸ blk_new w _ _
  have KB : Below w.heap.size w W0 := hw0 ▸ ((Below.refl _ _).alloc (Nat.le_refl _) _)
  clear hw0
  have k1 := K3.cell (j := 1) rfl
  have k2 := K3.cell (j := 2) rfl
  by_cases h0 : S = 0
  · subst h0
    go_wp2
    go_ret
    exact ⟨by simp [absentM], KB⟩
  · go_upto_region 4 with (go_at_call 45; refine (HF.out _ KB).mono ?_; rintro e W1 ⟨rfl, hB1⟩)
    have L3 := K3.keep hB1
    have CB := link KB hB1
    clear K3 KB hB1 k1 k2
    have k0 := L3.cell (j := 0) rfl
    have k1 := L3.cell (j := 1) rfl
    have k2 := L3.cell (j := 2) rfl
    clear L3 HF
    by_cases h1 : 0 < i
    · by_cases h3 : i < n
      · go_wp2
        go_ret
        exact ⟨by simp [absentM, h0, h1, h3], CB⟩
      · go_wp2
        rw [eq_sum]
        go_ret
        exact ⟨by simp [absentM, h0, h1, h3], CB⟩
    · have hi0 : ¬ (0 : Int) < (i : Int) := by omega
      by_cases h2 : F = 0
      · by_cases h3 : i < n
        · go_wp2
          go_ret
          exact ⟨by simp [absentM, h0, h1, h2, h3], CB⟩
        · go_wp2
          rw [eq_one]
          go_ret
          exact ⟨by simp [absentM, h0, h1, h2, h3], CB⟩
      · go_wp2
        go_ret
        exact ⟨by simp [absentM, h0, h1, h2], CB⟩

end Go.Proofs.YtfhfmdnimebegaaDoor

/-
  Plain mathematics: the digest that a proof's leaves and sides lead to, and whether a proof stands under a root.
-/
namespace Go.Proofs.YtfhfmdnimebegaaDoor
set_option linter.unusedVariables false
set_option linter.unusedSimpArgs false

/-- What under's function answers at the row from a to b - 1, and the sides that are left (none: there were not enough). -/
def bldF : Nat → List Lf → Nat → Nat → Nat → Option (List (List Nat)) → List Nat × Option (List (List Nat))
  | _, _, _, _, _, none => (z16, none)
  | 0, _, _, _, _, some _ => (z16, none)
  | f + 1, lf, F, a, b, some sd =>
    if b ≤ F ∨ F + lf.length ≤ a then (match sd with
      | [] => (z16, none)
      | d :: r => (d, some r))
    else if b = a + 1 then (rowM ((lf.drop (a - F)).take (b - a)), some sd)
    else (joinM (bldF f lf F a (a + half (b - a)) (some sd)).1 (bldF f lf F (a + half (b - a)) b (bldF f lf F a (a + half (b - a)) (some sd)).2).1,
      (bldF f lf F (a + half (b - a)) b (bldF f lf F a (a + half (b - a)) (some sd)).2).2)
theorem bldF_none (f : Nat) (lf : List Lf) (F a b : Nat) : bldF f lf F a b none = (z16, none) := by cases f <;> rfl
theorem bldF_enough : ∀ (f g : Nat) (lf : List Lf) (F a b : Nat) (o : Option (List (List Nat))), a < b → b - a ≤ f → b - a ≤ g → bldF f lf F a b o = bldF g lf F a b o
  | f, g, lf, F, a, b, none, _, _, _ => by rw [bldF_none, bldF_none]
  | 0, g, lf, F, a, b, some sd, h, hf, _ => by omega
  | f + 1, 0, lf, F, a, b, some sd, h, _, hg => by omega
  | f + 1, g + 1, lf, F, a, b, some sd, h, hf, hg => by
    unfold bldF
    split
    · rfl
    · split
      · rfl
      · have h3 := half_lt (b - a) (by omega)
        have h4 := half_pos (b - a)
        have e1 := bldF_enough f g lf F a (a + half (b - a)) (some sd) (by omega) (by omega) (by omega)
        rw [e1]
        have e2 := bldF_enough f g lf F (a + half (b - a)) b (bldF g lf F a (a + half (b - a)) (some sd)).2 (by omega) (by omega) (by omega)
        rw [e2]
def bldM (lf : List Lf) (F a b : Nat) (o : Option (List (List Nat))) : List Nat × Option (List (List Nat)) := bldF (b - a) lf F a b o
theorem bld_none (lf : List Lf) (F a b : Nat) : bldM lf F a b none = (z16, none) := bldF_none _ _ _ _ _
theorem bld_out_nil (lf : List Lf) (F a b : Nat) (h : a < b) (ho : b ≤ F ∨ F + lf.length ≤ a) : bldM lf F a b (some []) = (z16, none) := by
  obtain ⟨f, hf⟩ : ∃ f, b - a = f + 1 := ⟨b - a - 1, by omega⟩
  unfold bldM
  rw [hf]
  unfold bldF
  rw [if_pos ho]
theorem bld_out (lf : List Lf) (F a b : Nat) (d : List Nat) (r : List (List Nat)) (h : a < b) (ho : b ≤ F ∨ F + lf.length ≤ a) : bldM lf F a b (some (d :: r)) = (d, some r) := by
  obtain ⟨f, hf⟩ : ∃ f, b - a = f + 1 := ⟨b - a - 1, by omega⟩
  unfold bldM
  rw [hf]
  unfold bldF
  rw [if_pos ho]
theorem bld_leaf (lf : List Lf) (F a : Nat) (sd : List (List Nat)) (ho : ¬ (a + 1 ≤ F ∨ F + lf.length ≤ a)) : bldM lf F a (a + 1) (some sd) = (rowM ((lf.drop (a - F)).take 1), some sd) := by
  unfold bldM
  rw [show a + 1 - a = 0 + 1 by omega]
  unfold bldF
  rw [if_neg ho, if_pos rfl, Nat.add_sub_cancel_left]
theorem bld_split (lf : List Lf) (F a b : Nat) (sd : List (List Nat)) (h : a + 1 < b) (ho : ¬ (b ≤ F ∨ F + lf.length ≤ a)) :
    bldM lf F a b (some sd) = (joinM (bldM lf F a (a + half (b - a)) (some sd)).1 (bldM lf F (a + half (b - a)) b (bldM lf F a (a + half (b - a)) (some sd)).2).1,
      (bldM lf F (a + half (b - a)) b (bldM lf F a (a + half (b - a)) (some sd)).2).2) := by
  obtain ⟨f, hf⟩ : ∃ f, b - a = f + 1 := ⟨b - a - 1, by omega⟩
  have h3 := half_lt (b - a) (by omega)
  have h4 := half_pos (b - a)
  unfold bldM
  conv => lhs; rw [hf]; unfold bldF
  rw [if_neg ho, if_neg (by omega)]
  have e1 := bldF_enough f (a + half (b - a) - a) lf F a (a + half (b - a)) (some sd) (by omega) (by omega) (by omega)
  rw [e1]
  have e2 := bldF_enough f (b - (a + half (b - a))) lf F (a + half (b - a)) b (bldF (a + half (b - a) - a) lf F a (a + half (b - a)) (some sd)).2 (by omega) (by omega) (by omega)
  rw [e2]
theorem z16_dgt : Dgt z16 := ⟨rfl, by decide⟩
/-- Digests, all of them. -/
def Dgts (l : List (List Nat)) : Prop := ∀ d ∈ l, Dgt d
theorem bldF_dgt : ∀ (f : Nat) (lf : List Lf) (F a b : Nat) (o : Option (List (List Nat))), a < b → b - a ≤ f → (∀ sd, o = some sd → Dgts sd) → Dgt (bldF f lf F a b o).1 ∧ ∀ sd, (bldF f lf F a b o).2 = some sd → Dgts sd
  | f, lf, F, a, b, none, _, _, _ => by
    rw [bldF_none]
    exact ⟨z16_dgt, fun sd h => by cases h⟩
  | 0, lf, F, a, b, some sd, h, hf, _ => by omega
  | f + 1, lf, F, a, b, some sd, h, hf, hd => by
    have hs := hd sd rfl
    unfold bldF
    split
    · split
      · exact ⟨z16_dgt, fun sd h => by cases h⟩
      · rename_i d r
        exact ⟨hs d (by simp), fun sd h => by injection h with h; subst h; exact fun x hx => hs x (by simp [hx])⟩
    · split
      · rename_i ho h1
        subst h1
        refine ⟨rowM_dgt _ _ (Nat.le_refl _) ?_, fun sd h => by injection h with h; subst h; exact hs⟩
        rw [List.length_take, List.length_drop]
        omega
      · have h3 := half_lt (b - a) (by omega)
        have h4 := half_pos (b - a)
        obtain ⟨e1, e2⟩ := bldF_dgt f lf F a (a + half (b - a)) (some sd) (by omega) (by omega) hd
        obtain ⟨_, e4⟩ := bldF_dgt f lf F (a + half (b - a)) b _ (by omega) (by omega) e2
        exact ⟨dig_ofS _ _, e4⟩
theorem bld_dgt (lf : List Lf) (F a b : Nat) (o : Option (List (List Nat))) (h : a < b) (ho : ∀ sd, o = some sd → Dgts sd) : Dgt (bldM lf F a b o).1 ∧ ∀ sd, (bldM lf F a b o).2 = some sd → Dgts sd :=
  bldF_dgt _ lf F a b o h (Nat.le_refl _) ho

/-- Whether a proof stands under a root: what under answers. -/
def underM (root : List Nat) (F S : Int) (lf : List Lf) (sd : List (List Nat)) : Bool :=
  if S < 0 ∨ 4096 < S ∨ F < 0 ∨ S - lf.length < F ∨ validM lf ≠ 0 then false
  else if S = 0 then decide (sd = []) && decide (root = topD 0 z16)
  else if lf = [] then false
  else decide ((bldM lf F.toNat 0 S.toNat (some sd)).2 = some []) && decide (root = topD S.toNat (bldM lf F.toNat 0 S.toNat (some sd)).1)

/-- What is laid beside a range leads back to the row. -/
theorem bld_sides (ls : List Lf) (F e : Nat) (hFe : F < e) (he : e ≤ ls.length) : ∀ (k a b : Nat) (rest : List (List Nat)), b - a ≤ k → a < b → b ≤ ls.length →
    bldM ((ls.drop F).take (e - F)) F a b (some (sidesM ls F e a b ++ rest)) = (rowM ((ls.drop a).take (b - a)), some rest)
  | 0, a, b, rest, hk, h, hb => by omega
  | k + 1, a, b, rest, hk, h, hb => by
    have hlen : ((ls.drop F).take (e - F)).length = e - F := by rw [List.length_take, List.length_drop]; omega
    by_cases ho : b ≤ F ∨ e ≤ a
    · rw [sides_out ls F e a b h ho, List.singleton_append, bld_out _ _ _ _ _ _ h (by rw [hlen]; omega)]
    · by_cases h1 : b = a + 1
      · subst h1
        rw [sides_in ls F e a _ rfl ho, List.nil_append, bld_leaf _ _ _ _ (by rw [hlen]; omega)]
        rw [List.drop_take, List.drop_drop, List.take_take, show F + (a - F) = a by omega, show min 1 (e - F - (a - F)) = a + 1 - a by omega]
      · have h3 := half_lt (b - a) (by omega)
        have h4 := half_pos (b - a)
        rw [bld_split _ _ _ _ _ (by omega) (by rw [hlen]; omega), sides_split ls F e a b (by omega) ho, List.append_assoc]
        rw [bld_sides ls F e hFe he k a (a + half (b - a)) _ (by omega) (by omega) (by omega)]
        dsimp only
        rw [bld_sides ls F e hFe he k (a + half (b - a)) b rest (by omega) (by omega) hb]
        dsimp only
        have hn : ((ls.drop a).take (b - a)).length = b - a := by rw [List.length_take, List.length_drop]; omega
        rw [rowM_big ((ls.drop a).take (b - a)) (by rw [hn]; omega), hn, List.take_take, List.drop_take, List.drop_drop]
        rw [show a + half (b - a) - a = min (half (b - a)) (b - a) by omega, show b - (a + half (b - a)) = b - a - half (b - a) by omega]

theorem rangeF_ok : ∀ (r : List Lf) (k : Nat), r.all fits = true → (r.take k).all fits = true := by
  intro r k h
  rw [List.all_eq_true] at *
  exact fun x hx => h x (List.mem_of_mem_take hx)
theorem ordered_drop : ∀ (k : Nat) (r : List Lf), ordered r = true → ordered (r.drop k) = true
  | 0, r, h => h
  | k + 1, [], h => rfl
  | k + 1, x :: r, h => ordered_drop k r (ord_tail h)
theorem ordered_take : ∀ (k : Nat) (r : List Lf), ordered r = true → ordered (r.take k) = true
  | 0, r, h => rfl
  | k + 1, [], h => rfl
  | 1, x :: r, h => rfl
  | k + 2, [x], h => rfl
  | k + 2, x :: y :: r, h => by
    have := ordered_take (k + 1) (y :: r) (ord_tail h)
    simp only [List.take_succ_cons] at this ⊢
    unfold ordered at h ⊢
    rw [Bool.and_eq_true] at h ⊢
    exact ⟨h.1, this⟩
theorem valid_part {ls : List Lf} (h : validM ls = 0) (F k : Nat) : validM ((ls.drop F).take k) = 0 := by
  obtain ⟨h1, h2, h3⟩ := valid_zero h
  unfold validM
  rw [if_neg (by rw [List.length_take, List.length_drop]; omega), if_pos, if_pos (ordered_take k _ (ordered_drop F _ h3))]
  refine rangeF_ok _ k ?_
  rw [List.all_eq_true] at *
  exact fun x hx => h2 x (List.mem_of_mem_drop hx)
/-- What proof returns stands under the root of the leaves. -/
theorem under_of (ls : List Lf) (hv : validM ls = 0) (F e : Nat) (he : e ≤ ls.length) (hFe : F < e) :
    underM (rootL ls) F ls.length ((ls.drop F).take (e - F)) (sidesM ls F e 0 ls.length) = true := by
  have hlen : ((ls.drop F).take (e - F)).length = e - F := by rw [List.length_take, List.length_drop]; omega
  obtain ⟨h4, _, _⟩ := valid_zero hv
  have hb := bld_sides ls F e hFe he ls.length 0 ls.length [] (by omega) (by omega) (Nat.le_refl _)
  rw [List.append_nil] at hb
  unfold underM
  rw [if_neg (by rw [hlen]; rw [valid_part hv]; omega), if_neg (by omega), if_neg (by intro h; rw [h] at hlen; simp at hlen; omega)]
  rw [show ((F : Int)).toNat = F by omega, show ((ls.length : Int)).toNat = ls.length by omega, hb]
  simp [rootL]
theorem under_nil : underM (rootL []) 0 0 [] [] = true := by
  unfold underM
  rw [if_neg (by rw [show validM [] = 0 from rfl]; simp), if_pos rfl]
  simp [rootL, topD]

end Go.Proofs.YtfhfmdnimebegaaDoor
