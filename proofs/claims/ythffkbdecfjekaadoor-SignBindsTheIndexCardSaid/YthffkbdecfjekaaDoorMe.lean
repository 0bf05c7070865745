/-
  the package sign: Public, Sign, Verify. Conditions: as each theorem states them; no axiom beyond propext, Classical.choice, Quot.sound.
-/
import Derived.Test.YthffkbdecfjekaaDoorMd
import Derived.Lib.Builder
import Derived.Lib.UnsafeStr
import Derived.Laws.Externs
import Derived.Outline
import Derived.Laws.EntriesVeiled
import Derived.Test.YthffkbdecfjekaaDoorMa
import Derived.Test.YthffkbdecfjekaaDoorMc

/-
  strings.Builder, made by the call itself: Write and String.
-/
namespace Go.Proofs.YthffkbdecfjekaaDoor
open Go.RowKit
set_option linter.unusedVariables false
set_option linter.unusedSimpArgs false

/-- Block b, one of the call's own (from B on), is a builder whose buffer v holds the bytes l. -/
def Bld (B : Nat) (w : World) (b : Nat) (v : Value) (l : List Nat) : Prop :=
  B ≤ b ∧ (∃ p, (p = .pointer none ∨ p = .pointer (some ⟨b, 0, none⟩)) ∧ Blk w b 54 [p, v]) ∧ w.ownsRow B 5 1 v l.length (bytesV l)
theorem Bld.new (B : Nat) (w : World) (hB : B ≤ w.heap.size) : Bld B (w.alloc (.cells #[.pointer none, .slice none 0 0] 54)) w.heap.size (.slice none 0 0) [] :=
  ⟨hB, ⟨_, .inl rfl, blk_new w _ _⟩, World.ownsRow_nil _ _ _ _⟩
theorem Bld.row {B b : Nat} {w : World} {v : Value} {l : List Nat} (h : Bld B w b v l) : v.ownBlock ≠ some b := by
  obtain ⟨hB, ⟨p, _, hb⟩, hown⟩ := h
  exact Lib.ownBlock_ne hown hb (by decide)
theorem Bld.keep {B b : Nat} {w w' : World} {v : Value} {l : List Nat} (h : Bld B w b v l) (hb : Below w.heap.size w w') : Bld B w' b v l := by
  obtain ⟨hB, ⟨p, hp, hbk⟩, hown⟩ := h
  refine ⟨hB, ⟨p, hp, hbk.keep hb⟩, hown.1, ?_⟩
  rcases hown.2 with h0 | ⟨g, cap, cur, hv, hg, hh, rest⟩
  · exact .inl h0
  · refine .inr ⟨g, cap, cur, hv, hg, ?_, rest⟩
    have hlt : g < w.heap.size := by
      rcases Nat.lt_or_ge g w.heap.size with hl | hl
      · exact hl
      · rw [Array.getElem?_eq_none hl] at hh; cases hh
    rw [hb.block g hlt]; exact hh
/-- What a write into the builder b leaves as it was, bytes aside. -/
def Rest (b : Nat) (w w' : World) : Prop := w.heap.size ≤ w'.heap.size ∧ ∀ (k : Nat) (t : TypeId) (cs : List Value), k ≠ b → t ≠ 5 → Blk w k t cs → Blk w' k t cs
theorem row_ne {w : World} {B k : Nat} {v : Value} {l : List Nat} {t : TypeId} {cs : List Value} (h : w.ownsRow B 5 1 v l.length (bytesV l)) (ht : t ≠ 5) (hb : Blk w k t cs) : v.ownBlock ≠ some k := Lib.ownBlock_ne h hb ht

set_option maxHeartbeats 1000000 in
set_option maxRecDepth 100000 in
theorem check_any (B b : Nat) (w : World) (v : Value) (l : List Nat) (h : Bld B w b v l) :
    Calls Tryd.prog 45 #[.pointer (some ⟨b, 0, none⟩)] w fun e w' => e = .returned (.tuple #[]) ∧ Blk w' b 54 [.pointer (some ⟨b, 0, none⟩), v] ∧ Bld B w' b v l ∧ Only b w w' ∧ Below B w w' ∧ ∀ k, k ≠ b → w'.heap[k]? = w.heap[k]? := by
  have hrow := h.row
  obtain ⟨hB, ⟨p, hp, hbk⟩, hown⟩ := h
  obtain ⟨j, hj, hjs⟩ := Option.map_eq_some_iff.1 (show (Tryd.prog.info? 54).map (·.size) = some 2 by kernel_rfl)
  have hlies : liesAt Tryd.prog Tryd.prog.depth 54 (2 / Tryd.prog.cellsOf 54) 0 54 1 = true := by kernel_rfl
  have c0 : w.cell? ⟨b, 0, none⟩ = some p := hbk.cell rfl
  rcases hp with rfl | rfl
  · have hsh : w.shape? b = some (54, 2) := by
      have hbk' : w.heap[b]? = some (.cells _ _ _) := hbk
      simp [World.shape?, hbk']
    have f0 : w.frozen? ⟨b, 0, none⟩ = false := hbk.free 0
    go_enter Tryd.func45, Tryd.ntmps45
    go_wp2
    rw [Lib.run_to_unsafe w ⟨b, 0, none⟩ Tryd.underlying51 Tryd.underlying94 hj (by rw [hjs]; decide) hsh (Nat.zero_lt_succ 1)]
    simp only [Result.andThen]
    rw [Oper.upon_value]
    go_wp2
    rw [run_callFunc_extern Tryd.func58 (by kernel_rfl) (by kernel_rfl) (by kernel_rfl) (e := Extern.AbiNoEscape.same) (by kernel_rfl)]
    rw [Lib.run_noEscape]
    simp only [Result.andThen]
    rw [Oper.upon_value]
    go_wp2
    rw [Lib.run_from_unsafe w ⟨b, 0, none⟩ Tryd.underlying94 Tryd.underlying51 hj hsh hlies]
    simp only [Result.andThen]
    rw [Oper.upon_value]
    go_wp2
    go_end0
    have hb' : Blk (w.setCell ⟨b, 0, none⟩ (.pointer (some ⟨b, 0, none⟩))) b 54 [.pointer (some ⟨b, 0, none⟩), v] := hbk.set 0 _
    refine ⟨rfl, hb', ⟨hB, ⟨_, .inr rfl, hb'⟩, ?_⟩, only_sets b 0 w [.pointer (some ⟨b, 0, none⟩)], (Below.refl B w).setCell (p := ⟨b, 0, none⟩) hB _, fun k hk => Below.heap_setCell _ _ _ _ (fun e => hk (by simp [e]))⟩
    refine hown.kept (row := some b) ⟨rfl, rfl, rfl, by simp [World.setCell], fun k _ hk => Below.heap_setCell _ _ _ _ (fun e => hk (by simp [e]))⟩ (.inr hrow)
  · go_enter Tryd.func45, Tryd.ntmps45
    go_wp2
    rw [Lib.run_neq_ptr_same w _ Tryd.underlying51 hj]
    go_wp2
    go_end0
    exact ⟨rfl, hbk, ⟨hB, ⟨_, .inr rfl, hbk⟩, hown⟩, only_sets b 0 w [], Below.refl B w, fun k _ => rfl⟩

theorem own_formB {w : World} {B : Nat} {v : Value} {l : List Nat} (h : w.ownsRow B 5 1 v l.length (bytesV l)) : ∃ ad cap, v = .slice ad l.length cap := by
  rcases h.2 with ⟨hv, h0⟩ | ⟨g, cap, cur, hv, _⟩
  · exact ⟨none, 0, by rw [hv, h0]⟩
  · exact ⟨_, _, hv⟩
theorem own_blkB {w : World} {B : Nat} {v : Value} {l : List Nat} (h : w.ownsRow B 5 1 v l.length (bytesV l)) : (v.ownBlock = none ∧ v = .slice none 0 0) ∨ ∃ g cap, v = .slice (some ⟨g, 0, none⟩) l.length cap := by
  rcases h.2 with ⟨hv, h0⟩ | ⟨g, cap, cur, hv, _⟩
  · exact .inl ⟨by rw [hv]; rfl, hv⟩
  · exact .inr ⟨_, _, hv⟩

set_option maxHeartbeats 2000000 in
set_option maxRecDepth 100000 in
theorem write_any (B b : Nat) (w : World) (v : Value) (l m : List Nat) (h : Bld B w b v l) (hBw : B ≤ w.heap.size) (ad : Addr) (n c : Nat) (hn : n = m.length) (hm : Has w (some ad) m) (hab : ad.block ≠ b) (hl : l.length + m.length ≤ 1048576) :
    Calls Tryd.prog 25 #[.pointer (some ⟨b, 0, none⟩), .slice (some ad) n c] w fun e w' => e = .returned (.tuple #[.int .i64 n, .nilIface]) ∧ ∃ v', Bld B w' b v' (l ++ m) ∧ Below B w w' ∧ Rest b w w' := by
  subst hn
  obtain ⟨i0, hi, hz0, hz1, hz2⟩ := info_parts u8info
  have HC := Lib.hid (check_any B b w v l h)
  have hBb := h.1
  have hrow := h.row
  have hmc := hm.cells
  clear h
  go_enter Tryd.func25, Tryd.ntmps25
  go_wp2_with (go_at_call 45; refine HC.out.mono ?_)
  rintro e w1 ⟨rfl, hb1, hB1, ho1, hW1, hk1⟩
  have c1 : w1.cell? ⟨b, 1, none⟩ = some v := hb1.cell rfl
  have hown := hB1.2.2
  have hmc1 : ∀ j u, (bytesV m)[j]? = some u → w1.cell? (ad.add j) = some u := by
    intro j u hj
    rw [World.cell?_of_block (hk1 (ad.add j).block (by rw [block_add]; exact hab))]
    exact hmc j u hj
  have hsz := ho1.1
  go_wp2_with (at_builtin; refine wpList_append_own _ rfl _ _ 52 rfl B 5 i0 (.int .u8 0) 1 1 Tryd.underlying52 hi hz0 hz1 hz2 rfl (by decide) _ _ _ rfl hown ad m.length c (bytesV m) rfl (by simp [bytesV]) hmc1 ?c2 ?c3 ?c4 ?c5 ?_)
  case c2 => intro u hu; obtain ⟨y, _, rfl⟩ := List.mem_map.1 hu; rfl
  case c3 => unfold maxLen; omega
  case c4 => omega
  case c5 => omega
  intro v' w2 hown' hgrow _
  have hb2 : Blk w2 b 54 [.pointer (some ⟨b, 0, none⟩), v] := by
    unfold Blk
    rw [hgrow.block b hb1.lt (fun e => hrow e.symm)]
    exact hb1
  have d1 : w2.cell? ⟨b, 1, none⟩ = some v := hb2.cell rfl
  have f1 : w2.frozen? ⟨b, 1, none⟩ = false := hb2.free 1
  have hown2 : w2.ownsRow B 5 1 v' (l ++ m).length (bytesV (l ++ m)) := by rw [bytesV_append, List.length_append]; exact hown'
  obtain ⟨ao, cap, rfl⟩ : ∃ ao cap, v' = .slice ao (l.length + m.length) cap := by
    have h := own_formB hown2
    rwa [List.length_append] at h
  have hgs := hgrow.size
  go_wp2
  go_ret2
  have hb3 : Blk (w2.setCell ⟨b, 1, none⟩ (.slice ao (l.length + m.length) cap)) b 54 [.pointer (some ⟨b, 0, none⟩), .slice ao (l.length + m.length) cap] := hb2.set 1 _
  have hne := Lib.ownBlock_ne hown2 hb2 (by decide)
  refine ⟨rfl, _, ⟨hBb, ⟨_, .inr rfl, hb3⟩, ?_⟩, ?_, ?_, ?_⟩
  · refine hown2.kept (row := some b) ⟨rfl, rfl, rfl, by simp [World.setCell], fun k _ hk => Below.heap_setCell _ _ _ _ (fun e => hk (by simp [e]))⟩ (.inr hne)
  · exact (hW1.grown hgrow (by omega) (fun k hk => (hown.lt k hk).1)).setCell (p := ⟨b, 1, none⟩) hBb _
  · simp [World.setCell]; omega
  · intro k t cs hkb ht hk
    have h1 : Blk w1 k t cs := by
      unfold Blk
      rw [hk1 k hkb]
      exact hk
    have h2 := row_ne hown ht h1
    unfold Blk
    rw [Below.heap_setCell _ _ _ _ (fun e => hkb (by simp [e])), hgrow.block k h1.lt (fun e => h2 e.symm)]
    exact h1

set_option maxHeartbeats 2000000 in
set_option maxRecDepth 100000 in
theorem string_any (B b : Nat) (w : World) (v : Value) (l : List Nat) (h : Bld B w b v l) (hbyte : ∀ y ∈ l, y < 256) (h0 : l ≠ []) :
    Calls Tryd.prog 29 #[.pointer (some ⟨b, 0, none⟩)] w fun e w' => e = .returned (.string (strOf l)) ∧ Below B w w' := by
  obtain ⟨hBb, ⟨p, _, hbk⟩, hown⟩ := h
  have hl0 : l.length ≠ 0 := fun e => h0 (List.eq_nil_of_length_eq_zero e)
  obtain ⟨g, cap, cur, rfl, hbg, hg, hnc, hcm, hcs, htake⟩ : ∃ g cap cur, v = .slice (some ⟨g, 0, none⟩) l.length cap ∧ B ≤ g ∧ w.heap[g]? = some (.cells cur 5 (0, 0)) ∧ l.length ≤ cap ∧ cap ≤ maxLen ∧ cur.size = cap * 1 ∧ cur.toList.take (l.length * 1) = bytesV l := by
    rcases hown.2 with ⟨_, hz⟩ | ⟨g, cap, cur, hv, r⟩
    · exact absurd hz hl0
    · exact ⟨g, cap, cur, hv, r⟩
  have c1 : w.drew.cell? ⟨b, 1, none⟩ = some (.slice (some ⟨g, 0, none⟩) l.length cap) := hbk.drew.cell rfl
  have hSD : (Builtin.unsafeSliceData_ #[52] 78 #[.slice (some ⟨g, 0, none⟩) l.length cap]).run Tryd.prog w.drew = .ok (.pointer (some ⟨g, 0, none⟩)) w.drew :=
    Lib.run_unsafeSliceData_row _ _ _ _ _ _ (by omega)
  have hUS : (Builtin.unsafeString_ #[78, 3] 9 #[.pointer (some ⟨g, 0, none⟩), .int .i64 l.length]).run Tryd.prog w.drew = .ok (.string (strOf l)) (w.drew.freeze ⟨g, 0, none⟩ l.length) := by
    have hlen : (l.map UInt8.ofNat).length = l.length := List.length_map _
    have := Lib.run_unsafeString_row (P := Tryd.prog) w.drew 78 3 9 5 Tryd.underlying78 (by kernel_rfl) g cur.size (by have hg' : w.drew.heap[g]? = some (.cells cur 5 (0, 0)) := hg; simp [World.shape?, hg']) (l.map UInt8.ofNat) (by simpa using h0) (by omega) (by unfold maxLen at hcm; omega) (by
      intro j x hx
      rw [List.getElem?_map] at hx
      obtain ⟨y, hy, rfl⟩ := Option.map_eq_some_iff.1 hx
      have hc := hown.cells (g := g) rfl j (byteV y) (by simp [bytesV, hy])
      have hlt := hbyte y (List.mem_iff_getElem?.2 ⟨j, hy⟩)
      rw [show (UInt8.ofNat y).toNat = y from Nat.mod_eq_of_lt hlt]
      exact hc)
    rw [hlen] at this
    exact this
  go_enter Tryd.func29, Tryd.ntmps29
  go_wp2
  go_region
  all_goals (go_wp2; go_ret; exact ⟨rfl, Lib.below_freeze (Below.drew (Below.refl B w)) (p := ⟨g, 0, none⟩) hbg _⟩)

end Go.Proofs.YthffkbdecfjekaaDoor

/-
  sign.Verify's function next: the next 16 bytes of what is left.
-/
namespace Go.Proofs.YthffkbdecfjekaaDoor
open Go.RowKit
set_option linter.unusedVariables false
set_option linter.unusedSimpArgs false

/-- What a store into block b leaves as it was; new blocks may have come. -/
def Onl (b : Nat) (w w' : World) : Prop := w.heap.size ≤ w'.heap.size ∧ (∀ (k : Nat) (t : TypeId) (cs : List Value), k ≠ b → Blk w k t cs → Blk w' k t cs) ∧ ∀ (B : Nat) (w0 : World), B ≤ b → Below B w0 w → Below B w0 w'
theorem Onl.trans {b : Nat} {w w' w'' : World} (h : Onl b w w') (h' : Onl b w' w'') : Onl b w w'' := ⟨Nat.le_trans h.1 h'.1, fun k t cs hk hb => h'.2.1 k t cs hk (h.2.1 k t cs hk hb), fun B w0 hB hb => h'.2.2 B w0 hB (h.2.2 B w0 hB hb)⟩
theorem onl_alloc {b : Nat} {w : World} (hb : b ≤ w.heap.size) (o : Obj) : Onl b w (w.alloc o) := ⟨by simp, fun k t cs _ h => h.alloc o, fun B w0 hB h => h.alloc (Nat.le_trans hB hb) o⟩
theorem onl_below {b : Nat} {w w' : World} (hb : b ≤ w.heap.size) (h : Below w.heap.size w w') : Onl b w w' := ⟨h.size, fun k t cs _ hk => hk.keep h, fun B w0 hB h0 => h0.trans (h.mono (Nat.le_trans hB hb))⟩
theorem onl_only {b b' : Nat} {w w' : World} (hb : b ≤ b') (hn : ∀ (k : Nat) (t : TypeId) (cs : List Value), k ≠ b → Blk w k t cs → k ≠ b') (h : Only b' w w') : Onl b w w' := ⟨Nat.le_of_eq h.1.symm, fun k t cs hk hbk => h.2.1 k t cs (hn k t cs hk hbk) hbk, fun B w0 hB h0 => h.2.2 B w0 (Nat.le_trans hB hb) h0⟩
theorem onl_set {b : Nat} {w : World} (v : Value) : Onl b w (w.setCell ⟨b, 0, none⟩ v) := by
  have h := only_sets b 0 w [v]
  exact ⟨Nat.le_of_eq h.1.symm, h.2.1, h.2.2⟩
/-- A new block, laid and written. -/
theorem onl_new {b : Nat} {w w' : World} (hb : b ≤ w.heap.size) (o : Obj) (h : Only w.heap.size (w.alloc o) w') : Onl b w w' :=
  ⟨by have := h.1; simp at this; omega, fun k t cs hk hbk => h.2.1 k t cs (Nat.ne_of_lt hbk.lt) (hbk.alloc o), fun B w0 hB h0 => h.2.2 B w0 (Nat.le_trans hB hb) (h0.alloc (Nat.le_trans hB hb) o)⟩
theorem has_below {w w' : World} {B : Nat} {ad : Addr} {L : List Nat} (h : Has w (some ad) L) (hlt : ad.block < B) (hb : Below B w w') : Has w' (some ad) L := by
  refine ⟨fun k u hk => ?_, h.2⟩
  obtain ⟨ad', e, hl, hc⟩ := h.1 k u hk
  obtain rfl : ad = ad' := by simpa using e
  exact ⟨ad, rfl, Nat.lt_of_lt_of_le hl hb.size, (hb.cell (by rw [block_add]; exact hlt)).trans hc⟩
/-- The block r is a variable that holds a slice with the bytes L. -/
def Left (w : World) (r : Nat) (L : List Nat) : Prop := ∃ g o c, Blk w r 52 [.slice (some ⟨g, o, none⟩) L.length c] ∧ L.length ≤ c ∧ Has w (some ⟨g, o, none⟩) L ∧ g < r
theorem has_rngO {w : World} {b o : Nat} {l : List Nat} (h : Has w (some ⟨b, o, none⟩) l) : w.rangeAt b o (bytesV l) := fun j v hj => by
  have := h.cells j v hj
  rwa [Addr.add_mid] at this

/-- A slice without its first 16 bytes. -/
theorem slice_rest (w : World) (g o n c : Nat) (h : 16 ≤ n) (hc : n ≤ c) : (Instr.sliceAt 52 (.slice (some ⟨g, o, none⟩) n c) (some (.int .i64 16)) none none).run Tryd.prog w = .ok (.slice (some ⟨g, if c = 16 then o else o + 16, none⟩) (n - 16) (c - 16)) w := by
  have ht : Tryd.prog.underlying 52 = some (.slice (Tryd.prog.elem 52)) := by kernel_rfl
  have hE : Tryd.prog.elem 52 = 5 := by kernel_rfl
  rw [run_sliceAt_slice w _ _ _ _ _ ht, run_slice_l w _ _ n c ht .i64 16 (by omega) (by omega), hE, size_u8]
  simp only [Result.andThen, sliced]
  by_cases h16 : c = 16
  · rw [if_pos (by omega), if_pos h16]
    rfl
  · rw [if_neg (by omega), if_neg h16]
    simp [Addr.add_mid]

set_option maxHeartbeats 1000000 in
set_option maxRecDepth 100000 in
theorem next_any (w : World) (r : Nat) (L : List Nat) (h : Left w r L) (hl : 16 ≤ L.length) :
    Calls Tryd.prog 37 #[.pointer (some ⟨r, 0, none⟩)] w fun e w' => e = .returned (.agg (bytesV (L.take 16)).toArray) ∧ Left w' r (L.drop 16) ∧ Onl r w w' := by
  have hz1 := zero_dig'
  obtain ⟨g, o, c, hb, hc, hH, hne⟩ := h
  have hap : ∀ w0, (Instr.arrayAt 23 (.slice (some ⟨g, o, none⟩) 16 c)).run Tryd.prog w0 = .ok (.pointer (some ⟨g, o, none⟩)) w0 := fun w0 => by simp [Instr.arrayAt, run_underlying Tryd.underlying23]
  have hD : Dgt (L.take 16) := ⟨by rw [List.length_take]; omega, fun y hy => hH.2 y (List.mem_of_mem_take hy)⟩
  have hDr : Has w (some ⟨g, o, none⟩) (L.take 16) := hH.take 16
  obtain ⟨D, hDe⟩ : ∃ D, L.take 16 = D := ⟨_, rfl⟩
  rw [hDe] at hD hDr
  have HD := Lib.hid hDe
  have hvD : (bytesV D).length = 16 := by rw [bytesV_length]; exact hD.1
  have hvz : (bytesV z16).length = 16 := rfl
  have hz16 : (bytesV z16).toArray.toList.length = 16 := rfl
  have hsD := size_dig D hD.1
  clear hDe
  go_enter Tryd.func37, Tryd.ntmps37
  go_upto_region 1 with (fail)
  generalize hw0 : World.alloc _ _ = W0
  have K1 : Blk W0 w.heap.size 23 (bytesV z16) := hw0 ▸ blk_new w _ _
  have hb0 : Blk W0 r 52 [.slice (some ⟨g, o, none⟩) L.length c] := hw0 ▸ hb.alloc _
  have hH0 : Has W0 (some ⟨g, o, none⟩) L := hw0 ▸ hH.keep ((Below.refl _ _).alloc (Nat.le_refl _) _)
  have hO0 : Onl r w W0 := hw0 ▸ onl_alloc (Nat.le_of_lt hb.lt) _
  have c0 : W0.cell? ⟨r, 0, none⟩ = some (.slice (some ⟨g, o, none⟩) L.length c) := hb0.cell rfl
  have hrg : W0.rangeAt g o (bytesV D) := has_rngO (hw0 ▸ hDr.keep ((Below.refl _ _).alloc (Nat.le_refl _) _))
  clear hw0
  go_upto_region 2 with (first | (refine wpList_load_mid rfl 23 (.tmp 5) rfl g o rfl (bytesV D) _ hrg Tryd.underlying23 rfl hsD ?_) | (refine store_blk rfl 23 (.tmp 2) (.tmp 6) rfl (blk_new W0 23 (bytesV z16).toArray) rfl rfl (m := 16) (by kernel_rfl) hvD hz16 (bytesV_cells D) ?_; intro w2 K2 O2))
  have hb2 : Blk w2 r 52 [.slice (some ⟨g, o, none⟩) L.length c] := O2.2.1 _ _ _ (Nat.ne_of_lt hb0.lt) (hb0.alloc _)
  have hO2 : Onl r w w2 := hO0.trans (onl_new (Nat.le_of_lt hb0.lt) _ O2)
  have K12 := O2.2.1 _ _ _ (Nat.ne_of_lt K1.lt) (K1.alloc _)
  clear c0 hb0
  have c2 : w2.cell? ⟨r, 0, none⟩ = some (.slice (some ⟨g, o, none⟩) L.length c) := hb2.cell rfl
  have f2 : w2.frozen? ⟨r, 0, none⟩ = false := hb2.free 0
  have hsl := fun w0 => slice_rest w0 g o L.length c hl hc
  obtain ⟨o2, ho2⟩ : ∃ o2, (if c = 16 then o else o + 16) = o2 := ⟨_, rfl⟩
  rw [ho2] at hsl
  have HO := Lib.hid ho2
  clear ho2
  go_upto_region 3 with (fail)
  have hO3 : Onl r w (w2.setCell ⟨r, 0, none⟩ (.slice (some ⟨g, o2, none⟩) (L.length - 16) (c - 16))) := hO2.trans (onl_set _)
  have hb3 : Blk (w2.setCell ⟨r, 0, none⟩ (.slice (some ⟨g, o2, none⟩) (L.length - 16) (c - 16))) r 52 [.slice (some ⟨g, o2, none⟩) (L.length - 16) (c - 16)] := hb2.set 0 _
  have K13 := K12.other (a := ⟨r, 0, none⟩) (Nat.ne_of_gt hb.lt) (.slice (some ⟨g, o2, none⟩) (L.length - 16) (c - 16))
  have K23 := K2.other (a := ⟨r, 0, none⟩) (Nat.ne_of_gt (Nat.lt_of_lt_of_le hb.lt hO0.1)) (.slice (some ⟨g, o2, none⟩) (L.length - 16) (c - 16))
  generalize w2.setCell ⟨r, 0, none⟩ (.slice (some ⟨g, o2, none⟩) (L.length - 16) (c - 16)) = w3 at hO3 hb3 K13 K23 ⊢
  clear c2 f2 hb2 hO2 K2 O2 K12 K1 hH0 hrg
  go_wp2_with (first | (refine load_blk rfl 23 (.tmp 2) rfl K23 rfl Tryd.underlying23 (m := 16) (by kernel_rfl) hvD ?_) | (refine store_blk rfl 23 (.tmp 1) (.tmp 9) rfl K13 rfl rfl (m := 16) (by kernel_rfl) hvD hvz (bytesV_cells D) ?_; intro w5 hb5 ho5))
  have hO5 : Onl r w w5 := ⟨by have := ho5.1; have := hO3.1; omega, fun k t cs hk hbk => ho5.2.1 k t cs (Nat.ne_of_lt hbk.lt) (hO3.2.1 k t cs hk hbk), fun B w0 hB h0 => ho5.2.2 B w0 (Nat.le_trans hB (Nat.le_of_lt hb.lt)) (hO3.2.2 B w0 hB h0)⟩
  refine bodyPost_ret (v := .agg (bytesV D).toArray) (hb5.result (p := 1) (ty := 23) rfl _ rfl Tryd.underlying23 (by rw [hvD]; kernel_rfl)) rfl ⟨by rw [HD.out], ⟨g, o2, c - 16, ?_, ?_, ?_, hne⟩, hO5⟩
  · rw [List.length_drop]
    exact ho5.2.1 _ _ _ (Nat.ne_of_lt hb.lt) hb3
  · rw [List.length_drop]; omega
  · have hbl := hO5.2.2 r w (Nat.le_refl _) (Below.refl _ _)
    have hd : Has w (some ⟨g, o2, none⟩) (L.drop 16) := by
      have := HO.out
      by_cases h16 : c = 16
      · rw [List.drop_of_length_le (by omega)]
        exact Has.none_ _ _
      · rw [if_neg h16] at this
        rw [← this]
        have h := hH.drop 16
        rwa [Addr.add_mid] at h
    exact has_below hd hne hbl

end Go.Proofs.YthffkbdecfjekaaDoor

/-
  sign.build's function node: the nodes of the tree, and what it lays into the list of the nodes next to the way.
-/
namespace Go.Proofs.YthffkbdecfjekaaDoor
open Go.RowKit
set_option linter.unusedVariables false
set_option linter.unusedSimpArgs false

/-- The variables of build that node knows. -/
def Env (w : World) (sd nd hd ix bd : Nat) (seed : ByteArray) (h i : Nat) (S : List (List Nat)) : Prop :=
  Blk w sd 9 [.string seed] ∧ Blk w nd 72 [.func (.func 43) #[] #[.pointer (some ⟨sd, 0, none⟩), .pointer (some ⟨nd, 0, none⟩), .pointer (some ⟨hd, 0, none⟩), .pointer (some ⟨ix, 0, none⟩), .pointer (some ⟨bd, 0, none⟩)]] ∧
  Blk w hd 3 [.int .i64 (h : Int)] ∧ Blk w ix 3 [.int .i64 (i : Int)] ∧ Blk w bd 45 (bytesV S.flatten) ∧ Six S
theorem Blk.type {w : World} {b : Nat} {t t' : TypeId} {cs cs' : List Value} (h : Blk w b t cs) (h' : Blk w b t' cs') : t = t' := by
  unfold Blk at h h'
  rw [h] at h'
  injection h' with e
  injection e
theorem Blk.ne {w : World} {b b' : Nat} {t t' : TypeId} {cs cs' : List Value} (h : Blk w b t cs) (h' : Blk w b' t' cs') (ht : t ≠ t') : b ≠ b' := fun e => ht (h.type (e ▸ h'))
theorem Env.keep {w w' : World} {sd nd hd ix bd : Nat} {seed : ByteArray} {h i : Nat} {S : List (List Nat)} (H : Env w sd nd hd ix bd seed h i S) (hb : Below w.heap.size w w') : Env w' sd nd hd ix bd seed h i S :=
  ⟨H.1.keep hb, H.2.1.keep hb, H.2.2.1.keep hb, H.2.2.2.1.keep hb, H.2.2.2.2.1.keep hb, H.2.2.2.2.2⟩
theorem Env.alloc {w : World} {sd nd hd ix bd : Nat} {seed : ByteArray} {h i : Nat} {S : List (List Nat)} (H : Env w sd nd hd ix bd seed h i S) (o : Obj) : Env (w.alloc o) sd nd hd ix bd seed h i S := H.keep ((Below.refl _ _).alloc (Nat.le_refl _) o)
theorem Blk.keepB {w w' : World} {b B : Nat} {t : TypeId} {cs : List Value} (h : Blk w b t cs) (hb : b < B) (hB : Below B w w') : Blk w' b t cs := by
  unfold Blk
  rw [hB.block b hb]
  exact h
/-- Results that lie in blocks of their own. -/
theorem Blk.loadVar {w : World} {b : Nat} {t ty : TypeId} {cs : List Value} (h : Blk w b t cs) {n : Nat} {e : TypeId} (hu : Tryd.prog.underlying ty = some (.array n e)) (hi : (Tryd.prog.info? ty).map (·.size) = some cs.length) : (Go.loadVar ty ⟨b, 0, none⟩).run Tryd.prog w = .ok (.agg cs.toArray) w :=
  run_loadVar_row w b t ty cs.toArray (0, 0) (.array n e) h hu rfl (by simpa using hi)
theorem results_two {fn : Func} {p q : Tmp} {ty ty' : TypeId} (h : fn.results = #[.cell p ty, .cell q ty']) (tmps : Array Value) (w : World) {b b' : Nat} {v v' : Value}
    (hp : tmps.getD p undef = .pointer (some ⟨b, 0, none⟩)) (hq : tmps.getD q undef = .pointer (some ⟨b', 0, none⟩)) (hv : (Go.loadVar ty ⟨b, 0, none⟩).run Tryd.prog w = .ok v w) (hv' : (Go.loadVar ty' ⟨b', 0, none⟩).run Tryd.prog w = .ok v' w) :
    (results fn tmps).run Tryd.prog w = .ok (.tuple #[v, v']) w := by
  have hp' : tmps[p]?.getD undef = .pointer (some ⟨b, 0, none⟩) := by simpa using hp
  have hq' : tmps[q]?.getD undef = .pointer (some ⟨b', 0, none⟩) := by simpa using hq
  simp [results, h, hp', hq', asAddr, hv, hv', Sem.run_bind]
theorem results_and {fn : Func} {p q : Tmp} {ty : TypeId} (h : fn.results = #[.cell p ty, .tmp q]) (tmps : Array Value) (w : World) {b : Nat} {v v' : Value}
    (hp : tmps.getD p undef = .pointer (some ⟨b, 0, none⟩)) (hq : tmps.getD q undef = v') (hv : (Go.loadVar ty ⟨b, 0, none⟩).run Tryd.prog w = .ok v w) :
    (results fn tmps).run Tryd.prog w = .ok (.tuple #[v, v']) w := by
  have hp' : tmps[p]?.getD undef = .pointer (some ⟨b, 0, none⟩) := by simpa using hp
  have hq' : tmps[q]?.getD undef = v' := by simpa using hq
  simp [results, h, hp', hq', asAddr, hv, Sem.run_bind]
theorem Env.keepB {w w' : World} {B sd nd hd ix bd : Nat} {seed : ByteArray} {h i : Nat} {S : List (List Nat)} (H : Env w sd nd hd ix bd seed h i S) (hlt : sd < B ∧ nd < B ∧ hd < B ∧ ix < B ∧ bd < B) (hb : Below B w w') : Env w' sd nd hd ix bd seed h i S :=
  ⟨H.1.keepB hlt.1 hb, H.2.1.keepB hlt.2.1 hb, H.2.2.1.keepB hlt.2.2.1 hb, H.2.2.2.1.keepB hlt.2.2.2.1 hb, H.2.2.2.2.1.keepB hlt.2.2.2.2 hb, H.2.2.2.2.2⟩
theorem Env.lts {w : World} {sd nd hd ix bd : Nat} {seed : ByteArray} {h i : Nat} {S : List (List Nat)} (H : Env w sd nd hd ix bd seed h i S) : sd < w.heap.size ∧ nd < w.heap.size ∧ hd < w.heap.size ∧ ix < w.heap.size ∧ bd < w.heap.size :=
  ⟨H.1.lt, H.2.1.lt, H.2.2.1.lt, H.2.2.2.1.lt, H.2.2.2.2.1.lt⟩
/-- A store into the list of the nodes next to the way. -/
theorem Env.store {w w' : World} {sd nd hd ix bd : Nat} {seed : ByteArray} {h i : Nat} {S S' : List (List Nat)} (H : Env w sd nd hd ix bd seed h i S) (hO : Only bd w w') (hb : Blk w' bd 45 (bytesV S'.flatten)) (h6 : Six S') : Env w' sd nd hd ix bd seed h i S' :=
  ⟨hO.2.1 _ _ _ (H.1.ne H.2.2.2.2.1 (by decide)) H.1, hO.2.1 _ _ _ (H.2.1.ne H.2.2.2.2.1 (by decide)) H.2.1, hO.2.1 _ _ _ (H.2.2.1.ne H.2.2.2.2.1 (by decide)) H.2.2.1, hO.2.1 _ _ _ (H.2.2.2.1.ne H.2.2.2.2.1 (by decide)) H.2.2.2.1, hb, h6⟩
theorem only_onl {b : Nat} {w w' : World} (h : Only b w w') : Onl b w w' := ⟨Nat.le_of_eq h.1.symm, h.2.1, h.2.2⟩
/-- A store into a block of the call's own. -/
theorem Onl.own {b c : Nat} {w w1 w2 : World} (h : Onl b w w1) (hb : b < w.heap.size) (hc : w.heap.size ≤ c) (h2 : Only c w1 w2) : Onl b w w2 :=
  ⟨by have := h.1; have := h2.1; omega, fun k t cs hk hbk => h2.2.1 k t cs (by have := hbk.lt; omega) (h.2.1 k t cs hk hbk), fun B w0 hB h0 => h2.2.2 B w0 (by omega) (h.2.2 B w0 hB h0)⟩
theorem flat_len {S : List (List Nat)} (h : ∀ d ∈ S, Dgt d) : S.flatten.length = 16 * S.length := by
  induction S with
  | nil => rfl
  | cons d S ih =>
    rw [List.flatten_cons, List.length_append, ih (fun x hx => h x (List.mem_cons_of_mem _ hx)), (h d List.mem_cons_self).1, List.length_cons]
    omega
theorem splice_flat : ∀ (S : List (List Nat)) (l : Nat) (D : List Nat), (∀ d ∈ S, Dgt d) → l < S.length → D.length = 16 → splice (bytesV S.flatten) (16 * l) (bytesV D) = bytesV (S.set l D).flatten
  | [], l, D, _, h, _ => by simp at h
  | d :: S, 0, D, hS, _, hD => by
    have hd := (hS d List.mem_cons_self).1
    unfold splice
    rw [Nat.mul_zero, List.take_zero, List.nil_append, Nat.zero_add, bytesV_length, hD, List.flatten_cons, bytesV_append, List.drop_left' (by rw [bytesV_length, hd]), List.set_cons_zero, List.flatten_cons, bytesV_append]
  | d :: S, l + 1, D, hS, hl, hD => by
    have hd := (hS d List.mem_cons_self).1
    have ih := splice_flat S l D (fun x hx => hS x (List.mem_cons_of_mem _ hx)) (by simpa using hl) hD
    have e : splice (bytesV d ++ bytesV S.flatten) (16 * (l + 1)) (bytesV D) = bytesV d ++ splice (bytesV S.flatten) (16 * l) (bytesV D) := by
      unfold splice
      have hdl : (bytesV d).length = 16 := by rw [bytesV_length, hd]
      rw [List.take_append, List.take_of_length_le (by omega), hdl, List.drop_append, List.drop_eq_nil_of_le (by omega), hdl]
      rw [show 16 * (l + 1) - 16 = 16 * l by omega, show 16 * (l + 1) + (bytesV D).length - 16 = 16 * l + (bytesV D).length by omega]
      simp only [List.append_assoc, List.nil_append]
    rw [List.flatten_cons, bytesV_append, e, ih, List.set_cons_succ, List.flatten_cons, bytesV_append]
theorem xor_1 (n : Nat) (h : n < 4611686018427387904) : bits BinOp.xor IntKind.i64 (n : Int) 1 = (sib n : Int) := by
  have e : ((BitVec.ofInt 64 (n : Int) ^^^ BitVec.ofInt 64 1).toNat : Int) = (sib n : Int) := by
    have e1 : (BitVec.ofInt 64 (n : Int)).toNat = n := by rw [BitVec.toNat_ofInt]; omega
    rw [BitVec.toNat_xor, e1, show (BitVec.ofInt 64 1).toNat = 1 by decide]
    congr 1
    unfold sib
    have h2 : (n ^^^ 1) % 2 = 1 ↔ ¬ (n % 2 = 1 ↔ 1 % 2 = 1) := by
      have := Nat.xor_mod_two_eq_one (a := n) (b := 1)
      exact this
    have h3 : (n ^^^ 1) / 2 = n / 2 := by
      rw [Nat.xor_div_two]
      simp
    split <;> omega
  show IntKind.i64.wrap ((BitVec.ofInt 64 (n : Int) ^^^ BitVec.ofInt 64 1).toNat : Int) = _
  rw [e]
  refine IntWalk.i64_in _ ?_
  have : sib n ≤ n + 1 := by unfold sib; split <;> omega
  omega
theorem cmp_sib (i l k : Nat) (hi : i ≤ 1000000) : ((k : Int) == bits BinOp.xor IntKind.i64 ((i : Int) / 2 ^ l) 1) = decide (k = sib (i / 2 ^ l)) := by
  have e : (i : Int) / 2 ^ l = ((i / 2 ^ l : Nat) : Int) := by simp
  have h : i / 2 ^ l ≤ i := Nat.div_le_self _ _
  rw [e, xor_1 _ (by omega), Bool.eq_iff_iff]
  simp only [beq_iff_eq, decide_eq_true_eq]
  omega

end Go.Proofs.YthffkbdecfjekaaDoor

/-
  sign.build's function node, at level 0.
-/
namespace Go.Proofs.YthffkbdecfjekaaDoor
open Go.RowKit
set_option linter.unusedVariables false
set_option linter.unusedSimpArgs false

theorem builder_zero (w : World) : (zeroValue 54).run Tryd.prog w = .ok (.agg #[.pointer none, .slice none 0 0]) w := by kernel_rfl

set_option maxHeartbeats 4000000 in
set_option maxRecDepth 100000 in
theorem node_low (seed : ByteArray) (hs : seed.size ≤ 1048576) (h i : Nat) (hh : h ≤ 6) (hi : i ≤ 1000000) (sd nd hd ix bd : Nat) (w0 : World) (hG0 : Glob w0) (hbd : w0.heap.size ≤ bd)
    (l k : Nat) (hl0 : l = 0) (hk : k ≤ 1000000) (S : List (List Nat)) (w : World) (hE : Env w sd nd hd ix bd seed h i S) (hW : Below w0.heap.size w0 w) :
    Calls Tryd.prog 43 #[.int .i64 (l : Int), .int .i64 (k : Int), .pointer (some ⟨sd, 0, none⟩), .pointer (some ⟨nd, 0, none⟩), .pointer (some ⟨hd, 0, none⟩), .pointer (some ⟨ix, 0, none⟩), .pointer (some ⟨bd, 0, none⟩)] w
      fun e w' => e = .returned (.agg (bytesV (nodeM (sb seed) l k)).toArray) ∧ Env w' sd nd hd ix bd seed h i (updN (sb seed) h i l k S) ∧ Onl bd w w' := by
  have hz1 := zero_dig'
  have hz2 := builder_zero
  have hz16 : (bytesV z16).toArray.toList.length = 16 := rfl
  have hvz : (bytesV z16).length = 16 := rfl
  have e0 : ((l : Int) == 0) = true := by simp [hl0]
  have l6 : (l : Int) < 6 := by omega
  have HL0 := Lib.hid hl0
  have hlts := hE.lts
  have hbl := hlts.2.2.2.2
  have HS := Lib.hid (fun c (hc : c ≤ 1000000) w0 g => first_any seed hs k c hk hc w0 g)
  clear hl0
  go_enter Tryd.func43, Tryd.ntmps43
  go_upto_region 4 with (fail)
  generalize hw1 : World.alloc _ _ = W0
  have K9 : Blk W0 w.heap.size 23 (bytesV z16) := hw1 ▸ (((blk_new w _ _).alloc _).alloc _)
  have K10 : Blk W0 (w.heap.size + 1) 23 (bytesV z16) := hw1 ▸ ((blk_new1 w _ _ _).alloc _)
  have KB : Below w.heap.size w W0 := hw1 ▸ ((((Below.refl _ _).alloc (Nat.le_refl _) _).alloc (by simp) _).alloc (by simp; omega) _)
  have KT : Bld (w.heap.size + 1 + 1) W0 (w.heap.size + 1 + 1) (.slice none 0 0) [] := by
    have hn := Bld.new (w.heap.size + 1 + 1) ((w.alloc (.cells (bytesV z16).toArray 23)).alloc (.cells (bytesV z16).toArray 23)) (by simp)
    simp only [World.size_alloc] at hn
    exact hw1 ▸ hn
  clear hw1
  go_wp2
  go_loopw [16] (fun v wr => ∃ (c : Nat) (bv : Value), c ≤ 68 ∧ v = .int .i64 c ∧ Bld (w.heap.size + 1 + 1) wr (w.heap.size + 1 + 1) bv (topsM (sb seed) k c) ∧ Blk wr w.heap.size 23 (bytesV z16) ∧ Blk wr (w.heap.size + 1) 23 (bytesV z16) ∧ Below w.heap.size w wr ∧ w.heap.size + 1 + 1 < wr.heap.size) (fun v _ => 68 - (intOf v).toNat)
  case atStart => exact ⟨0, _, by omega, rfl, KT, K9, K10, KB, KT.2.1.choose_spec.2.lt⟩
  case round =>
    clear K9 K10 KB KT
    obtain ⟨c, bv, hc, rfl, KT, K9, K10, KB, hsz⟩ := hrel
    by_cases h68 : c < 68
    · have hG1 := hG0.keep (link hW KB)
      have hFd := firstM_dig (sb seed) k c
      have hAd := advM_dig k c 0 _ hFd 3
      have hst : topsM (sb seed) k (c + 1) = topsM (sb seed) k c ++ advM k c 0 (firstM (sb seed) k c) 3 := rfl
      have HA := Lib.hid (fun w0 g => advance_any k c 0 3 hk (by omega) (by omega) (by omega) _ hFd w0 g)
      have HS1 := Lib.hid (HS.out c (by omega) wr hG1)
      have htl := topsM_length (sb seed) k c
      generalize firstM (sb seed) k c = F at HA HS1 hFd hAd hst
      simp only [Nat.sub_zero] at HA
      generalize advM k c 0 F 3 = D at HA hAd hst
      generalize topsM (sb seed) k c = T at hst htl KT
      have HST := Lib.hid hst
      have cs := (hE.1.keep KB).cell (j := 0) rfl
      have hvD : (bytesV D).length = 16 := by rw [bytesV_length]; exact hAd.1
      have hT : T.length ≤ 1100 := by omega
      clear hst htl
      go_wp2_with fail
      refine HS1.out.mono ?_
      rintro e w1 ⟨rfl, hB1⟩
      go_wp2_with fail
      refine (HA.out w1 (hG1.keep hB1)).mono ?_
      rintro e w2 ⟨rfl, hB2⟩
      have hB3 := link hB1 hB2
      go_upto_region 8 with (refine store_blk rfl 23 (.tmp 13) (.tmp 25) rfl (blk_new w2 23 (bytesV z16).toArray) rfl rfl (m := 16) (by kernel_rfl) hvD hz16 (bytesV_cells D) ?_; intro x1 K3 O3)
      have hBx : Below wr.heap.size wr x1 := O3.2.2 _ _ hB3.size (hB3.alloc hB3.size _)
      have hsx : wr.heap.size ≤ w2.heap.size := hB3.size
      have KTx := KT.keep hBx
      have K9x := K9.keep hBx
      have K10x := K10.keep hBx
      have hKBx := link KB hBx
      have hsz1 : w.heap.size + 1 + 1 < x1.heap.size := Nat.lt_of_lt_of_le hsz hBx.size
      have HW := Lib.hid (write_any (w.heap.size + 1 + 1) (w.heap.size + 1 + 1) x1 bv T D KTx (by omega) ⟨w2.heap.size, 0, none⟩ 16 16 hAd.1.symm (has_blk K3 hAd.2) (by show w2.heap.size ≠ _; omega) (by rw [hAd.1]; omega))
      generalize w2.heap.size = xb at K3 HW ⊢
      have hsl := slice_dig
      clear O3 hB1 hB2 hB3 HA HS1 KT K9 K10 KB hBx hE hG1 cs hAd hFd
      go_wp2_with fail
      refine HW.out.mono ?_
      rintro e w3 ⟨rfl, v', hT', hB', hR'⟩
      have K9y := hR'.2 _ _ _ (by omega) (by decide) K9x
      have K10y := hR'.2 _ _ _ (by omega) (by decide) K10x
      rw [← HST.out] at hT'
      have hKBy : Below w.heap.size w w3 := hKBx.trans (hB'.mono (by omega))
      have hszy : w.heap.size + 1 + 1 < w3.heap.size := Nat.lt_of_lt_of_le hsz1 hR'.1
      clear HW KTx K9x K10x hB' hR' hKBx hsl
      go_wp2
      go_roundw
      case rel => exact ⟨c + 1, v', by omega, by go_num, hT', K9y, K10y, hKBy, hszy⟩
      case measure => simp [intOf]; omega
    · obtain rfl : c = 68 := by omega
      have htl := topsM_length (sb seed) k 68
      have htb := topsM_byte (sb seed) k 68
      have hG1 := hG0.keep (link hW KB)
      have HN : Hid (nodeM (sb seed) l k = leafM (topsM (sb seed) k 68)) := Lib.hid (by rw [HL0.out]; rfl)
      have hLd := leaf_dgt (topsM (sb seed) k 68)
      have HST := Lib.hid (string_any (w.heap.size + 1 + 1) (w.heap.size + 1 + 1) wr bv _ KT htb (fun e => by rw [e] at htl; simp at htl))
      have HLF := Lib.hid (fun w0 g => leaf_any (strOf (topsM (sb seed) k 68)) (by rw [strOf_size, htl]; omega) w0 g)
      rw [sb_strOf _ htb] at HLF
      generalize topsM (sb seed) k 68 = T at HN hLd HST HLF
      generalize leafM T = D at HN hLd HLF
      have hvD : (bytesV D).length = 16 := by rw [bytesV_length]; exact hLd.1
      clear htl htb
      go_wp2_with fail
      refine HST.out.mono ?_
      rintro e w1 ⟨rfl, hB1⟩
      have K9a := K9.keepB (B := w.heap.size + 1 + 1) (by omega) hB1
      have K10a := K10.keepB (B := w.heap.size + 1 + 1) (by omega) hB1
      have hKBa : Below w.heap.size w w1 := KB.trans (hB1.mono (by omega))
      go_wp2_with fail
      refine (HLF.out w1 (hG0.keep (link hW hKBa))).mono ?_
      rintro e w2 ⟨rfl, hB2⟩
      have K9b := K9a.keep hB2
      have K10b := K10a.keep hB2
      have hKBb := link hKBa hB2
      clear HLF HST K9 K10 KB KT K9a K10a hKBa hB1 hB2 hG1
      go_upto_region 12 with (refine store_blk rfl 23 (.tmp 10) (.tmp 30) rfl K10b rfl rfl (m := 16) (by kernel_rfl) hvD hvz (bytesV_cells D) ?_; intro W3 N10 O3)
      have N9 : Blk W3 w.heap.size 23 (bytesV z16) := O3.2.1 _ _ _ (by omega) K9b
      have hWB : Below w.heap.size w W3 := O3.2.2 _ _ (by omega) hKBb
      have O : Onl bd w W3 := onl_below (Nat.le_of_lt hbl) hWB
      have E3 : Env W3 sd nd hd ix bd seed h i S := hE.keep hWB
      have HU : Hid (updN (sb seed) h i l k S = setS (sb seed) h i l k S) := Lib.hid (by rw [HL0.out]; rfl)
      clear hE hWB O3 K9b K10b hKBb
      have ch : W3.cell? ⟨hd, 0, none⟩ = some (.int .i64 (h : Int)) := E3.2.2.1.cell rfl
      have ci : W3.cell? ⟨ix, 0, none⟩ = some (.int .i64 (i : Int)) := E3.2.2.2.1.cell rfl
      obtain ⟨S3, E3, HU⟩ : ∃ S3, Env W3 sd nd hd ix bd seed h i S3 ∧ Hid (updN (sb seed) h i l k S = setS (sb seed) h i l k S3) := ⟨S, E3, HU⟩
      have hcmp := cmp_sib i l k hi
      by_cases hlh : l < h
      · by_cases hkm : k = sib (i / 2 ^ l)
        · rw [decide_eq_true hkm] at hcmp
          have hfl : (bytesV S3.flatten).length = 96 := by rw [bytesV_length, flat_len E3.2.2.2.2.2.2, E3.2.2.2.2.2.1]
          have lk0 : (0 : Int) ≤ (l : Int) := by omega
          have HKM := Lib.hid hkm
          clear hkm
          go_upto_region 14 with (first | (refine load_blk rfl 23 (.tmp 10) rfl N10 rfl Tryd.underlying23 (m := 16) (by kernel_rfl) hvD ?_) | (refine store_part rfl 23 (.tmp 58) (.tmp 57) rfl E3.2.2.2.2.1 rfl rfl (m := 16) (by kernel_rfl) hvD (by rw [hfl]; omega) (bytesV_cells D) ?_; intro W4 K4 O4))
          rw [Nat.mul_comm l 16, splice_flat S3 l D E3.2.2.2.2.2.2 (by rw [E3.2.2.2.2.2.1]; omega) hLd.1] at K4
          have E4 := E3.store O4 K4 (six_set E3.2.2.2.2.2 l D hLd)
          have hS4 : S3.set l D = setS (sb seed) h i l k S3 := by
            unfold setS
            rw [if_pos ⟨hlh, HKM.out⟩, HN.out]
          rw [hS4, ← HU.out] at E4
          have M9 := O4.2.1 _ _ _ (by omega) N9
          have M10 := O4.2.1 _ _ _ (by omega) N10
          have OO := O.trans (only_onl O4)
          clear E3 K4 O4 hS4 N9 N10 O ch ci hcmp hfl
          go_wp2_with (first | (refine load_blk rfl 23 (.tmp 10) rfl M10 rfl Tryd.underlying23 (m := 16) (by kernel_rfl) hvD ?_) | (refine store_blk rfl 23 (.tmp 9) (.tmp 59) rfl M9 rfl rfl (m := 16) (by kernel_rfl) hvD hvz (bytesV_cells D) ?_; intro W5 K5 O5))
          exact bodyPost_ret (v := .agg (bytesV D).toArray) (K5.result (p := 9) (ty := 23) rfl _ rfl Tryd.underlying23 (by rw [hvD]; kernel_rfl)) rfl ⟨by rw [HN.out], E4.keepB hlts (O5.2.2 _ _ (Nat.le_refl _) (Below.refl _ _)), OO.own hbl (Nat.le_refl _) O5⟩
        · rw [decide_eq_false hkm] at hcmp
          have hS4 : S3 = setS (sb seed) h i l k S3 := by
            unfold setS
            rw [if_neg (fun x => hkm x.2)]
          rw [hS4, ← HU.out] at E3
          clear hS4 hkm
          go_wp2_with (first | (refine load_blk rfl 23 (.tmp 10) rfl N10 rfl Tryd.underlying23 (m := 16) (by kernel_rfl) hvD ?_) | (refine store_blk rfl 23 (.tmp 9) (.tmp 59) rfl N9 rfl rfl (m := 16) (by kernel_rfl) hvD hvz (bytesV_cells D) ?_; intro W5 K5 O5))
          exact bodyPost_ret (v := .agg (bytesV D).toArray) (K5.result (p := 9) (ty := 23) rfl _ rfl Tryd.underlying23 (by rw [hvD]; kernel_rfl)) rfl ⟨by rw [HN.out], E3.keepB hlts (O5.2.2 _ _ (Nat.le_refl _) (Below.refl _ _)), O.own hbl (Nat.le_refl _) O5⟩
      · have hS4 : S3 = setS (sb seed) h i l k S3 := by
          unfold setS
          rw [if_neg (fun x => hlh x.1)]
        rw [hS4, ← HU.out] at E3
        have hge : decide ((l : Int) < (h : Int)) = false := by simp; omega
        clear hS4 hcmp
        go_wp2_with (first | (refine load_blk rfl 23 (.tmp 10) rfl N10 rfl Tryd.underlying23 (m := 16) (by kernel_rfl) hvD ?_) | (refine store_blk rfl 23 (.tmp 9) (.tmp 59) rfl N9 rfl rfl (m := 16) (by kernel_rfl) hvD hvz (bytesV_cells D) ?_; intro W5 K5 O5))
        exact bodyPost_ret (v := .agg (bytesV D).toArray) (K5.result (p := 9) (ty := 23) rfl _ rfl Tryd.underlying23 (by rw [hvD]; kernel_rfl)) rfl ⟨by rw [HN.out], E3.keepB hlts (O5.2.2 _ _ (Nat.le_refl _) (Below.refl _ _)), O.own hbl (Nat.le_refl _) O5⟩

end Go.Proofs.YthffkbdecfjekaaDoor

/-
  sign.build's function node, at a level above 0; and at every level.
-/
namespace Go.Proofs.YthffkbdecfjekaaDoor
open Go.RowKit
set_option linter.unusedVariables false
set_option linter.unusedSimpArgs false

/-- A call of node. -/
def Node (seed : ByteArray) (h i sd nd hd ix bd l k : Nat) (S : List (List Nat)) (w : World) : Prop :=
    Calls Tryd.prog 43 #[.int .i64 (l : Int), .int .i64 (k : Int), .pointer (some ⟨sd, 0, none⟩), .pointer (some ⟨nd, 0, none⟩), .pointer (some ⟨hd, 0, none⟩), .pointer (some ⟨ix, 0, none⟩), .pointer (some ⟨bd, 0, none⟩)] w
      fun e w' => e = .returned (.agg (bytesV (nodeM (sb seed) l k)).toArray) ∧ Env w' sd nd hd ix bd seed h i (updN (sb seed) h i l k S) ∧ Onl bd w w'

set_option maxHeartbeats 4000000 in
set_option maxRecDepth 100000 in
theorem node_up (seed : ByteArray) (hs : seed.size ≤ 1048576) (h i : Nat) (hh : h ≤ 6) (hi : i ≤ 1000000) (sd nd hd ix bd : Nat) (w0 : World) (hG0 : Glob w0) (hbd : w0.heap.size ≤ bd)
    (l l1 k : Nat) (hl1 : l = l1 + 1) (hl6 : l ≤ 6) (hk : 2 * k + 1 ≤ 1000000) (ih : ∀ k' S' w', (k' = 2 * k ∨ k' = 2 * k + 1) → Env w' sd nd hd ix bd seed h i S' → Below w0.heap.size w0 w' → Node seed h i sd nd hd ix bd l1 k' S' w')
    (S : List (List Nat)) (w : World) (hE : Env w sd nd hd ix bd seed h i S) (hW : Below w0.heap.size w0 w) : Node seed h i sd nd hd ix bd l k S w := by
  unfold Node
  have hz1 := zero_dig'
  have hz16 : (bytesV z16).toArray.toList.length = 16 := rfl
  have hvz : (bytesV z16).length = 16 := rfl
  have e0 : ((l : Int) == 0) = false := by simp; omega
  have HL1 := Lib.hid hl1
  have IH := Lib.hid ih
  have hlts := hE.lts
  have hbl := hlts.2.2.2.2
  have hw1 : IntKind.i64.wrap ((l : Int) - 1) = (l1 : Int) := by rw [hl1]; exact IntWalk.i64_in _ (by omega) |>.trans (by omega)
  obtain ⟨k2, hk2⟩ : ∃ k2, 2 * k = k2 := ⟨_, rfl⟩
  have hw2 : IntKind.i64.wrap (2 * (k : Int)) = (k2 : Int) := (IntWalk.i64_in _ (by omega)).trans (by omega)
  have hw3 : IntKind.i64.wrap ((k2 : Int) + 1) = ((k2 + 1 : Nat) : Int) := (IntWalk.i64_in _ (by omega)).trans (by omega)
  have HK2 := Lib.hid hk2
  clear hl1 ih hk2
  go_enter Tryd.func43, Tryd.ntmps43
  go_upto_region 11 with (fail)
  generalize hw1 : World.alloc _ _ = W0
  have K9 : Blk W0 w.heap.size 23 (bytesV z16) := hw1 ▸ ((blk_new w _ _).alloc _)
  have K10 : Blk W0 (w.heap.size + 1) 23 (bytesV z16) := hw1 ▸ (blk_new1 w _ _ _)
  have KB : Below w.heap.size w W0 := hw1 ▸ (((Below.refl _ _).alloc (Nat.le_refl _) _).alloc (by simp) _)
  clear hw1
  have hL : (2 : Nat) = 2 := rfl
  clear hL
  refine wp_region_held_drew (S := fun w' => Blk w' nd 72 [.func (.func 43) #[] #[.pointer (some ⟨sd, 0, none⟩), .pointer (some ⟨nd, 0, none⟩), .pointer (some ⟨hd, 0, none⟩), .pointer (some ⟨ix, 0, none⟩), .pointer (some ⟨bd, 0, none⟩)]]) (by kernel_rfl) (hE.keep KB).2.1.drew (fun hHeld => ?_)
  have E0 : Env W0.drew sd nd hd ix bd seed h i S := hE.keep (below_drew KB)
  have L9 : Blk W0.drew w.heap.size 23 (bytesV z16) := K9
  have L10 : Blk W0.drew (w.heap.size + 1) 23 (bytesV z16) := K10
  have O0 : Onl bd w W0.drew := onl_below (Nat.le_of_lt hbl) (below_drew KB)
  have CW : Below w0.heap.size w0 W0.drew := link hW (below_drew KB)
  clear K9 K10 KB hE hW
  generalize W0.drew = V0 at hHeld E0 L9 L10 O0 CW ⊢
  refine wpAnyH_take (i := 0) (oi := ⟨some 31, .load 72 (.tmp 3), 72, "sign.go:79", #[], none⟩) (v := .func (.func 43) #[] #[.pointer (some ⟨sd, 0, none⟩), .pointer (some ⟨nd, 0, none⟩), .pointer (some ⟨hd, 0, none⟩), .pointer (some ⟨ix, 0, none⟩), .pointer (some ⟨bd, 0, none⟩)]) rfl (by kernel_rfl) (by kernel_rfl) (by kernel_rfl) (fun _ _ _ h => h) (Or.inl ⟨by rfl, fun w' hSw => by have hcc := hSw.cell (j := 0) rfl; go_simp⟩) hHeld ?_
  try simp only [Act.put, List.setIfInBounds_toArray, List.set_cons_zero, List.set_cons_succ]
  refine wpAnyH_take (i := 6) (oi := ⟨some 37, .load 72 (.tmp 3), 72, "sign.go:79", #[], none⟩) (v := .func (.func 43) #[] #[.pointer (some ⟨sd, 0, none⟩), .pointer (some ⟨nd, 0, none⟩), .pointer (some ⟨hd, 0, none⟩), .pointer (some ⟨ix, 0, none⟩), .pointer (some ⟨bd, 0, none⟩)]) rfl (by kernel_rfl) (by kernel_rfl) (by kernel_rfl) (fun _ _ _ h => h) (Or.inl ⟨by rfl, fun w' hSw => by have hcc := hSw.cell (j := 0) rfl; go_simp⟩) hHeld ?_
  try simp only [Act.put, List.setIfInBounds_toArray, List.set_cons_zero, List.set_cons_succ]
  refine wpAnyH_take (i := 1) (oi := ⟨some 32, .move (.tmp 0), 3, "sign.go:79", #[], none⟩) (v := .int .i64 (l : Int)) rfl (by kernel_rfl) (by kernel_rfl) (by kernel_rfl) (fun _ _ _ h => h) (Or.inl ⟨by rfl, fun w' hSw => by go_simp⟩) hHeld ?_
  try simp only [Act.put, List.setIfInBounds_toArray, List.set_cons_zero, List.set_cons_succ]
  refine wpAnyH_take (i := 2) (oi := ⟨some 33, .binOp .sub 3 (.tmp 32) (.const (Value.int IntKind.i64 1)) 3, 3, "sign.go:79", #[⟨1, .data⟩], none⟩) (v := .int .i64 (l1 : Int)) rfl (by kernel_rfl) (by kernel_rfl) (by kernel_rfl) (fun _ _ _ h => h) (Or.inl ⟨by rfl, fun w' hSw => by go_simp⟩) hHeld ?_
  try simp only [Act.put, List.setIfInBounds_toArray, List.set_cons_zero, List.set_cons_succ]
  refine wpAnyH_take (i := 3) (oi := ⟨some 34, .move (.tmp 1), 3, "sign.go:79", #[], none⟩) (v := .int .i64 (k : Int)) rfl (by kernel_rfl) (by kernel_rfl) (by kernel_rfl) (fun _ _ _ h => h) (Or.inl ⟨by rfl, fun w' hSw => by go_simp⟩) hHeld ?_
  try simp only [Act.put, List.setIfInBounds_toArray, List.set_cons_zero, List.set_cons_succ]
  refine wpAnyH_take (i := 4) (oi := ⟨some 35, .binOp .mul 3 (.const (Value.int IntKind.i64 2)) (.tmp 34) 3, 3, "sign.go:79", #[⟨3, .data⟩], none⟩) (v := .int .i64 (k2 : Int)) rfl (by kernel_rfl) (by kernel_rfl) (by kernel_rfl) (fun _ _ _ h => h) (Or.inl ⟨by rfl, fun w' hSw => by go_simp⟩) hHeld ?_
  try simp only [Act.put, List.setIfInBounds_toArray, List.set_cons_zero, List.set_cons_succ]
  refine wpAnyH_take (i := 7) (oi := ⟨some 38, .move (.tmp 0), 3, "sign.go:79", #[], none⟩) (v := .int .i64 (l : Int)) rfl (by kernel_rfl) (by kernel_rfl) (by kernel_rfl) (fun _ _ _ h => h) (Or.inl ⟨by rfl, fun w' hSw => by go_simp⟩) hHeld ?_
  try simp only [Act.put, List.setIfInBounds_toArray, List.set_cons_zero, List.set_cons_succ]
  refine wpAnyH_take (i := 8) (oi := ⟨some 39, .binOp .sub 3 (.tmp 38) (.const (Value.int IntKind.i64 1)) 3, 3, "sign.go:79", #[⟨7, .data⟩], none⟩) (v := .int .i64 (l1 : Int)) rfl (by kernel_rfl) (by kernel_rfl) (by kernel_rfl) (fun _ _ _ h => h) (Or.inl ⟨by rfl, fun w' hSw => by go_simp⟩) hHeld ?_
  try simp only [Act.put, List.setIfInBounds_toArray, List.set_cons_zero, List.set_cons_succ]
  refine wpAnyH_take (i := 9) (oi := ⟨some 40, .move (.tmp 1), 3, "sign.go:79", #[], none⟩) (v := .int .i64 (k : Int)) rfl (by kernel_rfl) (by kernel_rfl) (by kernel_rfl) (fun _ _ _ h => h) (Or.inl ⟨by rfl, fun w' hSw => by go_simp⟩) hHeld ?_
  try simp only [Act.put, List.setIfInBounds_toArray, List.set_cons_zero, List.set_cons_succ]
  refine wpAnyH_take (i := 10) (oi := ⟨some 41, .binOp .mul 3 (.const (Value.int IntKind.i64 2)) (.tmp 40) 3, 3, "sign.go:79", #[⟨9, .data⟩], none⟩) (v := .int .i64 (k2 : Int)) rfl (by kernel_rfl) (by kernel_rfl) (by kernel_rfl) (fun _ _ _ h => h) (Or.inl ⟨by rfl, fun w' hSw => by go_simp⟩) hHeld ?_
  try simp only [Act.put, List.setIfInBounds_toArray, List.set_cons_zero, List.set_cons_succ]
  refine wpAnyH_take (i := 11) (oi := ⟨some 42, .binOp .add 3 (.tmp 41) (.const (Value.int IntKind.i64 1)) 3, 3, "sign.go:79", #[⟨10, .data⟩], none⟩) (v := .int .i64 ((k2 + 1 : Nat) : Int)) rfl (by kernel_rfl) (by kernel_rfl) (by kernel_rfl) (fun _ _ _ h => h) (Or.inl ⟨by rfl, fun w' hSw => by go_simp⟩) hHeld ?_
  try simp only [Act.put, List.setIfInBounds_toArray, List.set_cons_zero, List.set_cons_succ]
  have H5 := IH.out k2 S V0 (Or.inl HK2.out.symm) E0 CW
  unfold Node at H5
  refine wpAnyH_ready (rs := [5]) (by kernel_rfl) (by simp) ?_
  refine AllReadyH.cons (o := ⟨some 36, .call { callee := .value (.tmp 31), args := #[.tmp 33, .tmp 35], argTypes := #[3, 3] }, 23, "sign.go:79", #[⟨0, .data⟩, ⟨2, .data⟩, ⟨4, .data⟩], none⟩) rfl (fun K hK => ?_) AllReadyH.nil
  rw [if_pos (by rfl)]
  go_simp
  refine H5.mono ?_
  rintro e V1 ⟨rfl, E1, O1⟩
  have M9 := O1.2.1 _ _ _ (by omega) L9
  have M10 := O1.2.1 _ _ _ (by omega) L10
  have OO1 := O0.trans O1
  have CW1 := O1.2.2 _ _ hbd CW
  clear H5 L9 L10 O0 O1 CW E0
  dsimp only
  refine hK.out _ _ E1.2.1 (fun hHeld => ?_)
  clear hK K
  try simp only [Act.put, List.setIfInBounds_toArray, List.set_cons_zero, List.set_cons_succ]
  have H12 := IH.out (k2 + 1) _ V1 (Or.inr (by rw [HK2.out])) E1 CW1
  unfold Node at H12
  refine wpAnyH_ready (rs := [12]) (by kernel_rfl) (by simp) ?_
  refine AllReadyH.cons (o := ⟨some 43, .call { callee := .value (.tmp 37), args := #[.tmp 39, .tmp 42], argTypes := #[3, 3] }, 23, "sign.go:79", #[⟨6, .data⟩, ⟨8, .data⟩, ⟨11, .data⟩, ⟨5, .chain⟩], none⟩) rfl (fun K hK => ?_) AllReadyH.nil
  rw [if_pos (by rfl)]
  go_simp
  refine H12.mono ?_
  rintro e V2 ⟨rfl, E2, O2⟩
  have P9 := O2.2.1 _ _ _ (by omega) M9
  have P10 := O2.2.1 _ _ _ (by omega) M10
  have OO2 := OO1.trans O2
  have CW2 := O2.2.2 _ _ hbd CW1
  clear H12 M9 M10 OO1 O2 CW1 E1
  dsimp only
  refine hK.out _ _ E2.2.1 (fun hHeld => ?_)
  clear hK K
  try simp only [Act.put, List.setIfInBounds_toArray, List.set_cons_zero, List.set_cons_succ]
  have HJ := Lib.hid (fun w0 g => join_any (nodeM (sb seed) l1 k2) (nodeM (sb seed) l1 (k2 + 1)) (node_dgt _ _ _) (node_dgt _ _ _) w0 g)
  have HN : Hid (nodeM (sb seed) l k = joinM (nodeM (sb seed) l1 k2) (nodeM (sb seed) l1 (k2 + 1))) := Lib.hid (by rw [HL1.out, nodeM, HK2.out])
  generalize hJ : joinM (nodeM (sb seed) l1 k2) (nodeM (sb seed) l1 (k2 + 1)) = D at HJ HN
  have hLd : Dgt D := by rw [← hJ]; exact dig_ofS _ _
  clear hJ
  have hvD : (bytesV D).length = 16 := by rw [bytesV_length]; exact hLd.1
  refine wpAnyH_ready (rs := [13]) (by kernel_rfl) (by simp) ?_
  refine AllReadyH.cons (o := ⟨some 44, .call { callee := .value (.func 39), args := #[.tmp 36, .tmp 43], argTypes := #[23, 23] }, 23, "sign.go:79", #[⟨5, .data⟩, ⟨12, .data⟩, ⟨12, .chain⟩], none⟩) rfl (fun K hK => ?_) AllReadyH.nil
  rw [if_pos (by rfl)]
  go_simp
  refine (HJ.out V2 (hG0.keep CW2)).mono ?_
  rintro e V3 ⟨rfl, hB3⟩
  have Q9 := P9.keep hB3
  have Q10 := P10.keep hB3
  have E3 := E2.keep hB3
  have OO3 := OO2.trans (onl_below (Nat.le_of_lt E2.2.2.2.2.1.lt) hB3)
  clear P9 P10 OO2 CW2 E2 HJ hB3
  dsimp only
  refine hK.out _ _ E3.2.1 (fun hHeld => ?_)
  clear hK K
  try simp only [Act.put, List.setIfInBounds_toArray, List.set_cons_zero, List.set_cons_succ]
  have hst := Q10.storeRun (vs := bytesV D) (by rw [hvD, hvz]) (bytesV_cells D)
  refine wpAnyH_ready (rs := [14]) (by kernel_rfl) (by simp) ?_
  refine AllReadyH.cons (o := ⟨none, .store 23 (.tmp 10) (.tmp 44), 0, "sign.go:79", #[⟨13, .data⟩, ⟨13, .chain⟩, ⟨0, .phase⟩, ⟨1, .phase⟩, ⟨2, .phase⟩, ⟨3, .phase⟩, ⟨4, .phase⟩, ⟨5, .phase⟩, ⟨6, .phase⟩, ⟨7, .phase⟩, ⟨8, .phase⟩, ⟨9, .phase⟩, ⟨10, .phase⟩, ⟨11, .phase⟩, ⟨12, .phase⟩, ⟨13, .phase⟩], none⟩) rfl (fun K hK => ?_) AllReadyH.nil
  rw [if_pos (by rfl)]
  go_simp
  have O3 := only_sets (w.heap.size + 1) 0 V3 (bytesV D)
  have N10 : Blk (V3.setCells (w.heap.size + 1) 0 (bytesV D)) (w.heap.size + 1) 23 (bytesV D) := Q10.all (by rw [hvD, hvz])
  clear hst Q10
  generalize V3.setCells (w.heap.size + 1) 0 (bytesV D) = W3 at O3 N10 ⊢
  have N9 := O3.2.1 _ _ _ (by omega) Q9
  refine hK.out _ _ (O3.2.1 _ _ _ (by omega) E3.2.1) (fun hHeld => ?_)
  clear hK K
  try simp only [Act.put, List.setIfInBounds_toArray, List.set_cons_zero, List.set_cons_succ]
  refine wpAnyH_done (by kernel_rfl) ?_ _
  have hUU : updN (sb seed) h i l k S = setS (sb seed) h i l k (updN (sb seed) h i l1 (k2 + 1) (updN (sb seed) h i l1 k2 S)) := by rw [HL1.out, updN, HK2.out]
  have O : Onl bd w W3 := OO3.own hbl (by omega) O3
  have E3b : Env W3 sd nd hd ix bd seed h i (updN (sb seed) h i l1 (k2 + 1) (updN (sb seed) h i l1 k2 S)) := E3.keepB (B := w.heap.size + 1) ⟨by omega, by omega, by omega, by omega, by omega⟩ (O3.2.2 _ _ (Nat.le_refl _) (Below.refl _ _))
  clear E3 OO3 O3 Q9 hHeld
  obtain ⟨S3, E3, HU⟩ : ∃ S3, Env W3 sd nd hd ix bd seed h i S3 ∧ Hid (updN (sb seed) h i l k S = setS (sb seed) h i l k S3) := ⟨_, E3b, Lib.hid hUU⟩
  clear E3b hUU hw1 hw2 hw3
  have ch : W3.cell? ⟨hd, 0, none⟩ = some (.int .i64 (h : Int)) := E3.2.2.1.cell rfl
  have ci : W3.cell? ⟨ix, 0, none⟩ = some (.int .i64 (i : Int)) := E3.2.2.2.1.cell rfl
  have hcmp := cmp_sib i l k hi
  by_cases hlh : l < h
  · by_cases hkm : k = sib (i / 2 ^ l)
    · rw [decide_eq_true hkm] at hcmp
      have hfl : (bytesV S3.flatten).length = 96 := by rw [bytesV_length, flat_len E3.2.2.2.2.2.2, E3.2.2.2.2.2.1]
      have lk0 : (0 : Int) ≤ (l : Int) := by omega
      have lk6 : (l : Int) < 6 := by omega
      have HKM := Lib.hid hkm
      clear hkm
      go_upto_region 14 with (first | (refine load_blk rfl 23 (.tmp 10) rfl N10 rfl Tryd.underlying23 (m := 16) (by kernel_rfl) hvD ?_) | (refine store_part rfl 23 (.tmp 58) (.tmp 57) rfl E3.2.2.2.2.1 rfl rfl (m := 16) (by kernel_rfl) hvD (by rw [hfl]; omega) (bytesV_cells D) ?_; intro W4 K4 O4))
      rw [Nat.mul_comm l 16, splice_flat S3 l D E3.2.2.2.2.2.2 (by rw [E3.2.2.2.2.2.1]; omega) hLd.1] at K4
      have E4 := E3.store O4 K4 (six_set E3.2.2.2.2.2 l D hLd)
      have hS4 : S3.set l D = setS (sb seed) h i l k S3 := by
        unfold setS
        rw [if_pos ⟨hlh, HKM.out⟩, HN.out]
      rw [hS4, ← HU.out] at E4
      have M9 := O4.2.1 _ _ _ (by omega) N9
      have M10 := O4.2.1 _ _ _ (by omega) N10
      have OO := O.trans (only_onl O4)
      clear E3 K4 O4 hS4 N9 N10 O ch ci hcmp hfl
      go_wp2_with (first | (refine load_blk rfl 23 (.tmp 10) rfl M10 rfl Tryd.underlying23 (m := 16) (by kernel_rfl) hvD ?_) | (refine store_blk rfl 23 (.tmp 9) (.tmp 59) rfl M9 rfl rfl (m := 16) (by kernel_rfl) hvD hvz (bytesV_cells D) ?_; intro W5 K5 O5))
      exact bodyPost_ret (v := .agg (bytesV D).toArray) (K5.result (p := 9) (ty := 23) rfl _ rfl Tryd.underlying23 (by rw [hvD]; kernel_rfl)) rfl ⟨by rw [HN.out], E4.keepB hlts (O5.2.2 _ _ (Nat.le_refl _) (Below.refl _ _)), OO.own hbl (Nat.le_refl _) O5⟩
    · rw [decide_eq_false hkm] at hcmp
      have hS4 : S3 = setS (sb seed) h i l k S3 := by
        unfold setS
        rw [if_neg (fun x => hkm x.2)]
      rw [hS4, ← HU.out] at E3
      clear hS4 hkm
      go_wp2_with (first | (refine load_blk rfl 23 (.tmp 10) rfl N10 rfl Tryd.underlying23 (m := 16) (by kernel_rfl) hvD ?_) | (refine store_blk rfl 23 (.tmp 9) (.tmp 59) rfl N9 rfl rfl (m := 16) (by kernel_rfl) hvD hvz (bytesV_cells D) ?_; intro W5 K5 O5))
      exact bodyPost_ret (v := .agg (bytesV D).toArray) (K5.result (p := 9) (ty := 23) rfl _ rfl Tryd.underlying23 (by rw [hvD]; kernel_rfl)) rfl ⟨by rw [HN.out], E3.keepB hlts (O5.2.2 _ _ (Nat.le_refl _) (Below.refl _ _)), O.own hbl (Nat.le_refl _) O5⟩
  · have hS4 : S3 = setS (sb seed) h i l k S3 := by
      unfold setS
      rw [if_neg (fun x => hlh x.1)]
    rw [hS4, ← HU.out] at E3
    have hge : decide ((l : Int) < (h : Int)) = false := by simp; omega
    clear hS4 hcmp
    go_wp2_with (first | (refine load_blk rfl 23 (.tmp 10) rfl N10 rfl Tryd.underlying23 (m := 16) (by kernel_rfl) hvD ?_) | (refine store_blk rfl 23 (.tmp 9) (.tmp 59) rfl N9 rfl rfl (m := 16) (by kernel_rfl) hvD hvz (bytesV_cells D) ?_; intro W5 K5 O5))
    exact bodyPost_ret (v := .agg (bytesV D).toArray) (K5.result (p := 9) (ty := 23) rfl _ rfl Tryd.underlying23 (by rw [hvD]; kernel_rfl)) rfl ⟨by rw [HN.out], E3.keepB hlts (O5.2.2 _ _ (Nat.le_refl _) (Below.refl _ _)), O.own hbl (Nat.le_refl _) O5⟩

theorem snode_any (seed : ByteArray) (hs : seed.size ≤ 1048576) (h i : Nat) (hh : h ≤ 6) (hi : i ≤ 1000000) (sd nd hd ix bd : Nat) (w0 : World) (hG0 : Glob w0) (hbd : w0.heap.size ≤ bd) :
    ∀ (l k : Nat) (S : List (List Nat)) (w : World), l ≤ 6 → (k + 1) * 2 ^ l ≤ 1000000 → Env w sd nd hd ix bd seed h i S → Below w0.heap.size w0 w → Node seed h i sd nd hd ix bd l k S w
  | 0, k, S, w, _, hk, hE, hW => node_low seed hs h i hh hi sd nd hd ix bd w0 hG0 hbd 0 k rfl (by omega) S w hE hW
  | l + 1, k, S, w, hl, hk, hE, hW => by
    have e : (k + 1) * 2 ^ (l + 1) = (2 * k + 2) * 2 ^ l := by rw [Nat.pow_succ', ← Nat.mul_assoc]; congr 1; omega
    rw [e] at hk
    have h1 : 2 * k + 2 ≤ (2 * k + 2) * 2 ^ l := Nat.le_mul_of_pos_right _ (Nat.two_pow_pos l)
    refine node_up seed hs h i hh hi sd nd hd ix bd w0 hG0 hbd (l + 1) l k rfl hl (by omega) (fun k' S' w' hk' hE' hW' => ?_) S w hE hW
    refine snode_any seed hs h i hh hi sd nd hd ix bd w0 hG0 hbd l k' S' w' (by omega) (Nat.le_trans (Nat.mul_le_mul_right _ ?_) hk) hE' hW'
    omega

end Go.Proofs.YthffkbdecfjekaaDoor

/-
  sign.build: the root of a tree, and the nodes next to the way.
-/
namespace Go.Proofs.YthffkbdecfjekaaDoor
open Go.RowKit
set_option linter.unusedVariables false
set_option linter.unusedSimpArgs false

def six0 : List (List Nat) := List.replicate 6 z16
theorem six0_ok : Six six0 := ⟨rfl, fun d hd => by rw [List.eq_of_mem_replicate hd]; exact ⟨rfl, fun y hy => by rw [List.eq_of_mem_replicate (n := 16) (a := 0) hy]; omega⟩⟩
theorem zero_six (w : World) : (zeroValue 45).run Tryd.prog w = .ok (.agg (bytesV six0.flatten).toArray) w := by kernel_rfl
theorem zero_fun (w : World) : (zeroValue 72).run Tryd.prog w = .ok .nilFunc w := by kernel_rfl

theorem blk_at {w1 : World} {b : Nat} (h : w1.heap.size = b) (t : TypeId) (cs : Array Value) : Blk (w1.alloc (.cells cs t)) b t cs.toList := h ▸ blk_new w1 t cs

set_option maxHeartbeats 2000000 in
set_option maxRecDepth 100000 in
theorem build_any (seed : ByteArray) (hs : seed.size ≤ 1048576) (h i : Nat) (hh : h ≤ 6) (hi : i ≤ 1000000) (w : World) (hG : Glob w) :
    Calls Tryd.prog 22 #[.string seed, .int .i64 (h : Int), .int .i64 (i : Int)] w
      fun e w' => e = .returned (.tuple #[.agg (bytesV (rootM (sb seed) h)).toArray, .agg (bytesV (updN (sb seed) h i h 0 six0).flatten).toArray]) ∧ Below w.heap.size w w' := by
  have hz1 := zero_dig'
  have hz2 := zero_six
  have hz3 := zero_fun
  have hz16 : (bytesV z16).toArray.toList.length = 16 := rfl
  have hvz : (bytesV z16).length = 16 := rfl
  have hmf : ∀ (fn : Fn) (first cap : Array Value) (w : World), (Instr.makeFunc fn first cap).run Tryd.prog w = .ok (.func fn first cap) w := fun _ _ _ _ => rfl
  go_enter Tryd.func22, Tryd.ntmps22
  go_upto_region 4 with (fail)
  generalize hw1 : World.alloc _ _ = W0
  have Ks : Blk W0 w.heap.size 9 [.string seed] := hw1 ▸ (((((((blk_new w _ _).alloc _).alloc _).alloc _).alloc _).alloc _).alloc _)
  have Kh : Blk W0 (w.heap.size + 1) 3 [.int .i64 (h : Int)] := hw1 ▸ ((((((blk_at (by simp) _ _).alloc _).alloc _).alloc _).alloc _).alloc _)
  have Ki : Blk W0 (w.heap.size + 1 + 1) 3 [.int .i64 (i : Int)] := hw1 ▸ (((((blk_at (by simp) _ _).alloc _).alloc _).alloc _).alloc _)
  have K6 : Blk W0 (w.heap.size + 1 + 1 + 1) 23 (bytesV z16) := hw1 ▸ ((((blk_at (by simp) _ _).alloc _).alloc _).alloc _)
  have K7 : Blk W0 (w.heap.size + 1 + 1 + 1 + 1) 45 (bytesV six0.flatten) := hw1 ▸ (((blk_at (by simp) _ _).alloc _).alloc _)
  have K8 : Blk W0 (w.heap.size + 1 + 1 + 1 + 1 + 1) 45 (bytesV six0.flatten) := hw1 ▸ ((blk_at (by simp) _ _).alloc _)
  have K9 : Blk W0 (w.heap.size + 1 + 1 + 1 + 1 + 1 + 1) 72 [.func (.func 43) #[] #[.pointer (some ⟨w.heap.size, 0, none⟩), .pointer (some ⟨w.heap.size + 1 + 1 + 1 + 1 + 1 + 1, 0, none⟩), .pointer (some ⟨w.heap.size + 1, 0, none⟩), .pointer (some ⟨w.heap.size + 1 + 1, 0, none⟩), .pointer (some ⟨w.heap.size + 1 + 1 + 1 + 1 + 1, 0, none⟩)]] := hw1 ▸ (blk_at (by simp) _ _)
  have KB : Below w.heap.size w W0 := hw1 ▸ (((((((((Below.refl _ _).alloc (Nat.le_refl _) _).alloc (by simp) _).alloc (by simp; omega) _).alloc (by simp; omega) _).alloc (by simp; omega) _).alloc (by simp; omega) _).alloc (by simp; omega) _))
  clear hw1
  have hE : Env W0 w.heap.size (w.heap.size + 1 + 1 + 1 + 1 + 1 + 1) (w.heap.size + 1) (w.heap.size + 1 + 1) (w.heap.size + 1 + 1 + 1 + 1 + 1) seed h i six0 := ⟨Ks, K9, Kh, Ki, K8, six0_ok⟩
  have HN := snode_any seed hs h i hh hi _ _ _ _ _ w hG (by omega : w.heap.size ≤ w.heap.size + 1 + 1 + 1 + 1 + 1) h 0 six0 W0 hh (by have : 2 ^ h ≤ 2 ^ 6 := Nat.pow_le_pow_right (by omega) hh; omega) hE KB
  unfold Node at HN
  have HN' := Lib.hid HN
  have c9 := K9.cell (j := 0) rfl
  have ch := Kh.cell (j := 0) rfl
  obtain ⟨D, hD⟩ : ∃ D, nodeM (sb seed) h 0 = D := ⟨_, rfl⟩
  have hLd : Dgt D := by rw [← hD]; exact node_dgt _ _ _
  have hvD : (bytesV D).length = 16 := by rw [bytesV_length]; exact hLd.1
  rw [hD] at HN'
  have HD := Lib.hid hD
  clear hD HN Ks Kh Ki K8 K9
  go_upto_region 5 with (first | (go_at_call 43; refine HN'.out.mono ?_; rintro e W1 ⟨rfl, E1, O1⟩) | (refine store_blk rfl 23 (.tmp 10) (.tmp 14) rfl (blk_new W1 23 (bytesV z16).toArray) rfl rfl (m := 16) (by kernel_rfl) hvD hz16 (bytesV_cells D) ?_; intro W2 K10 O2))
  have L6 := O2.2.1 _ _ _ (by have := O1.1; have := K6.lt; omega) ((O1.2.1 _ _ _ (by omega) K6).alloc (.cells (bytesV z16).toArray 23))
  have L7 := O2.2.1 _ _ _ (by have := O1.1; have := K7.lt; omega) ((O1.2.1 _ _ _ (by omega) K7).alloc (.cells (bytesV z16).toArray 23))
  have E2 : Env (W1.alloc (.cells (bytesV z16).toArray 23)) w.heap.size (w.heap.size + 1 + 1 + 1 + 1 + 1 + 1) (w.heap.size + 1) (w.heap.size + 1 + 1) (w.heap.size + 1 + 1 + 1 + 1 + 1) seed h i (updN (sb seed) h i h 0 six0) := E1.alloc _
  have L8 := O2.2.1 _ _ _ (by have := E1.2.2.2.2.1.lt; omega) E2.2.2.2.2.1
  have h6 := E1.2.2.2.2.2
  have CW : Below w.heap.size w W2 := O2.2.2 _ _ (by have := KB.size; have := O1.1; omega) ((O1.2.2 _ _ (by omega) KB).alloc (by have := KB.size; have := O1.1; omega) _)
  have hn1 : W1.heap.size ≠ w.heap.size + 1 + 1 + 1 := by have := E1.2.1.lt; omega
  have hn2 : W1.heap.size ≠ w.heap.size + 1 + 1 + 1 + 1 := by have := E1.2.1.lt; omega
  obtain ⟨T, hT⟩ : ∃ T, updN (sb seed) h i h 0 six0 = T := ⟨_, rfl⟩
  rw [hT] at L8 h6
  have HT := Lib.hid hT
  have hvT : (bytesV T.flatten).length = 96 := by rw [bytesV_length, flat_len h6.2, h6.1]
  have hv6 : (bytesV six0.flatten).length = 96 := rfl
  have hsD := size_dig D hLd.1
  have hsT : (Tryd.prog.info? 45).map (·.size) = some (bytesV T.flatten).length := by rw [hvT]; kernel_rfl
  generalize W1.heap.size = tb at K10 hn1 hn2 ⊢
  clear hT E1 E2 O1 O2 K6 K7 KB hE c9 ch HN'
  refine wp_region_held_drew (S := fun w' => Blk w' tb 23 (bytesV D) ∧ Blk w' (w.heap.size + 1 + 1 + 1 + 1 + 1) 45 (bytesV T.flatten)) (by kernel_rfl) ⟨K10.drew, L8.drew⟩ (fun hHeld => ?_)
  replace L6 := L6.drew
  replace L7 := L7.drew
  replace CW := below_drew CW
  clear K10 L8
  generalize W2.drew = V0 at L6 L7 CW hHeld ⊢
  refine wpAnyH_take (i := 0) (oi := ⟨some 15, .load 23 (.tmp 10), 23, "sign.go:88", #[], none⟩) (v := _) rfl (by kernel_rfl) (by kernel_rfl) (by kernel_rfl) (fun _ _ _ h => h) (yieldsIf_load_mid (by rfl) _ _ rfl _ 0 rfl _ _ (fun w' hSw => rng_at hSw.1) Tryd.underlying23 rfl hsD) hHeld ?_
  try simp only [Act.put, List.setIfInBounds_toArray, List.set_cons_zero, List.set_cons_succ]
  refine wpAnyH_take (i := 1) (oi := ⟨some 16, .load 45 (.tmp 8), 45, "sign.go:88", #[{ on := 2, ground := Ground.gcOnly Departure.lateStores }], none⟩) (v := _) rfl (by kernel_rfl) (by kernel_rfl) (by kernel_rfl) (fun _ _ _ h => h) (yieldsIf_load_mid (by rfl) _ _ rfl _ 0 rfl _ _ (fun w' hSw => rng_at hSw.2) Tryd.underlying45 rfl hsT) hHeld ?_
  try simp only [Act.put, List.setIfInBounds_toArray, List.set_cons_zero, List.set_cons_succ]
  have hst := L6.storeRun (vs := bytesV D) (by rw [hvD, hvz]) (bytesV_cells D)
  refine wpAnyH_ready (rs := [2]) (by kernel_rfl) (by simp) ?_
  refine AllReadyH.cons (o := ⟨none, .store 23 (.tmp 6) (.tmp 15), 0, "sign.go:88", #[⟨0, .data⟩, ⟨0, .phase⟩, { on := 1, ground := Ground.textOnly Departure.lateStores }], none⟩) rfl (fun K hK => ?_) AllReadyH.nil
  rw [if_pos (by rfl)]
  go_simp
  have O3 := only_sets (w.heap.size + 1 + 1 + 1) 0 V0 (bytesV D)
  have M6 : Blk (V0.setCells (w.heap.size + 1 + 1 + 1) 0 (bytesV D)) (w.heap.size + 1 + 1 + 1) 23 (bytesV D) := L6.all (by rw [hvD, hvz])
  clear hst L6
  generalize V0.setCells (w.heap.size + 1 + 1 + 1) 0 (bytesV D) = V1 at O3 M6 ⊢
  have M7 := O3.2.1 _ _ _ (by omega) L7
  have C1 := O3.2.2 _ _ (by omega) CW
  refine hK.out _ _ ⟨O3.2.1 _ _ _ (by omega) hHeld.1, O3.2.1 _ _ _ (by omega) hHeld.2⟩ (fun hHeld => ?_)
  clear hK K O3 L7 CW
  try simp only [Act.put, List.setIfInBounds_toArray, List.set_cons_zero, List.set_cons_succ]
  have hst := M7.storeRun (vs := bytesV T.flatten) (by rw [hvT, hv6]) (bytesV_cells T.flatten)
  refine wpAnyH_ready (rs := [3]) (by kernel_rfl) (by simp) ?_
  refine AllReadyH.cons (o := ⟨none, .store 45 (.tmp 7) (.tmp 16), 0, "sign.go:88", #[⟨1, .data⟩, ⟨2, .chain⟩, ⟨0, .phase⟩, ⟨1, .phase⟩, ⟨2, .phase⟩], none⟩) rfl (fun K hK => ?_) AllReadyH.nil
  rw [if_pos (by rfl)]
  go_simp
  have O3 := only_sets (w.heap.size + 1 + 1 + 1 + 1) 0 V1 (bytesV T.flatten)
  have N7 : Blk (V1.setCells (w.heap.size + 1 + 1 + 1 + 1) 0 (bytesV T.flatten)) (w.heap.size + 1 + 1 + 1 + 1) 45 (bytesV T.flatten) := M7.all (by rw [hvT, hv6])
  clear hst M7
  generalize V1.setCells (w.heap.size + 1 + 1 + 1 + 1) 0 (bytesV T.flatten) = V2 at O3 N7 ⊢
  have N6 := O3.2.1 _ _ _ (by omega) M6
  have C2 := O3.2.2 _ _ (by omega) C1
  refine hK.out _ _ ⟨O3.2.1 _ _ _ (by omega) hHeld.1, O3.2.1 _ _ _ (by omega) hHeld.2⟩ (fun hHeld => ?_)
  clear hK K O3 M6 C1
  try simp only [Act.put, List.setIfInBounds_toArray, List.set_cons_zero, List.set_cons_succ]
  refine wpAnyH_done (by kernel_rfl) ?_ _
  clear hHeld
  go_wp2
  exact bodyPost_ret (v := .tuple #[.agg (bytesV D).toArray, .agg (bytesV T.flatten).toArray]) (results_two (p := 6) (q := 7) (ty := 23) (ty' := 45) rfl _ _ rfl rfl (N6.loadVar Tryd.underlying23 hsD) (N7.loadVar Tryd.underlying45 hsT)) rfl ⟨by rw [HT.out, rootM, HD.out], C2⟩

end Go.Proofs.YthffkbdecfjekaaDoor

/-
  sign.Public.
-/
namespace Go.Proofs.YthffkbdecfjekaaDoor
open Go.RowKit
set_option linter.unusedVariables false
set_option linter.unusedSimpArgs false

theorem build_zero (w : World) : (Instr.build 23 #[]).run Tryd.prog w = .ok (.agg (bytesV z16).toArray) w := by kernel_rfl

set_option maxHeartbeats 2000000 in
set_option maxRecDepth 100000 in
theorem public_no (seed : ByteArray) (h : Int) (hf : fitsB seed h = false) (w : World) :
    Calls Tryd.prog 12 #[.string seed, .int .i64 h] w fun e w' => e = .returned (.tuple #[.agg (bytesV z16).toArray, .int .i64 1]) ∧ Below w.heap.size w w' := by
  have hz1 := zero_dig'
  have hz2 := build_zero
  have hvz : (bytesV z16).length = 16 := rfl
  have hz16 : (bytesV z16).toArray.toList.length = 16 := rfl
  have hb0 : Below w.heap.size w (w.alloc (.cells (bytesV z16).toArray 23)) := (Below.refl _ _).alloc (Nat.le_refl _) _
  go_enter Tryd.func12, Tryd.ntmps12
  go_wp2_with (first | (go_at_call 21; refine (possible_any _ _ _).mono ?_; rintro e w' ⟨rfl, rfl⟩) | (refine store_blk rfl 23 (.tmp 4) (.tmp 12) rfl (blk_new w 23 (bytesV z16).toArray) rfl rfl (m := 16) (by kernel_rfl) hvz hz16 (bytesV_cells z16) ?_; intro W1 K1 O1))
  exact bodyPost_ret (v := .tuple #[.agg (bytesV z16).toArray, .int .i64 1]) (results_and (p := 4) (q := 5) (ty := 23) rfl _ _ rfl rfl (K1.loadVar Tryd.underlying23 (by rw [hvz]; kernel_rfl))) rfl ⟨rfl, O1.2.2 _ _ (Nat.le_refl _) hb0⟩

set_option maxHeartbeats 2000000 in
set_option maxRecDepth 100000 in
theorem public_yes (seed : ByteArray) (h : Nat) (hs : seed.size = 32) (hh : h ≤ 6) (w : World) (hG : Glob w) :
    Calls Tryd.prog 12 #[.string seed, .int .i64 (h : Int)] w fun e w' => e = .returned (.tuple #[.agg (bytesV (rootM (sb seed) h)).toArray, .int .i64 0]) ∧ Below w.heap.size w w' := by
  have hz1 := zero_dig'
  have hz2 := zero_six
  have hvz : (bytesV z16).length = 16 := rfl
  have hz16 : (bytesV z16).toArray.toList.length = 16 := rfl
  have hz96 : (bytesV six0.flatten).toArray.toList.length = 96 := rfl
  have hf : fitsB seed (h : Int) = true := by simp [fitsB, hs]; omega
  have HS := Lib.hid hs
  have hRd : Dgt (rootM (sb seed) h) := node_dgt _ _ _
  have h6 := six_updN (seed := sb seed) (h := h) (i := 0) h 0 six0_ok
  have HB := Lib.hid (fun w0 g => build_any seed (by omega) h 0 hh (by omega) w0 g)
  clear hs
  generalize rootM (sb seed) h = D at HB hRd
  generalize updN (sb seed) h 0 h 0 six0 = T at HB h6
  have hvD : (bytesV D).length = 16 := by rw [bytesV_length]; exact hRd.1
  have hvT : (bytesV T.flatten).length = 96 := by rw [bytesV_length, flat_len h6.2, h6.1]
  go_enter Tryd.func12, Tryd.ntmps12
  go_upto_region 1 with (fail)
  generalize hw1 : World.alloc _ _ = W0
  have K4 : Blk W0 w.heap.size 23 (bytesV z16) := hw1 ▸ (blk_new w _ _)
  have KB : Below w.heap.size w W0 := hw1 ▸ ((Below.refl _ _).alloc (Nat.le_refl _) _)
  clear hw1
  go_upto_region 4 with (first | (go_at_call 21; refine (possible_any _ _ _).mono ?_; rintro e w' ⟨rfl, rfl⟩) | (go_at_call 22; refine (HB.out _ (hG.keep KB)).mono ?_; rintro e W1 ⟨rfl, hB1⟩) | (refine store_blk rfl 23 (.tmp 6) (.tmp 17) rfl ((blk_new W1 23 (bytesV z16).toArray).alloc (.cells (bytesV six0.flatten).toArray 45)) rfl rfl (m := 16) (by kernel_rfl) hvD hz16 (bytesV_cells D) ?_; intro W2 K6 O2) | (refine store_blk rfl 45 (.tmp 7) (.tmp 18) rfl (O2.2.1 _ _ _ (by omega) (blk_new1 W1 (.cells (bytesV z16).toArray 23) 45 (bytesV six0.flatten).toArray)) rfl rfl (m := 96) (by kernel_rfl) hvT hz96 (bytesV_cells T.flatten) ?_; intro W3 K7 O3))
  have hs1 := hB1.size
  have hs0 := KB.size
  have CB1 := link KB hB1
  have C2 : Below w.heap.size w W2 := O2.2.2 _ _ (by omega) ((CB1.alloc (by omega) _).alloc (by simp; omega) _)
  have C3 : Below w.heap.size w W3 := O3.2.2 _ _ (by omega) C2
  have M6 := O3.2.1 _ _ _ (by omega) K6
  have M4 := O3.2.1 _ _ _ (by have := K4.lt; omega) (O2.2.1 _ _ _ (by have := K4.lt; omega) (((K4.keep hB1).alloc (.cells (bytesV z16).toArray 23)).alloc (.cells (bytesV six0.flatten).toArray 45)))
  generalize W1.heap.size = tb at M6 ⊢
  clear K4 KB hB1 O2 K6 O3 K7 CB1 C2 hs1
  go_wp2_with (first | (refine load_blk rfl 23 (.tmp 6) rfl M6 rfl Tryd.underlying23 (m := 16) (by kernel_rfl) hvD ?_) | (refine store_blk rfl 23 (.tmp 4) (.tmp 19) rfl M4 rfl rfl (m := 16) (by kernel_rfl) hvD hvz (bytesV_cells D) ?_; intro W4 K4 O4))
  exact bodyPost_ret (v := .tuple #[.agg (bytesV D).toArray, .int .i64 0]) (results_and (p := 4) (q := 5) (ty := 23) rfl _ _ rfl rfl (K4.loadVar Tryd.underlying23 (by rw [hvD]; kernel_rfl))) rfl ⟨rfl, O4.2.2 _ _ (Nat.le_refl _) C3⟩

end Go.Proofs.YthffkbdecfjekaaDoor

/-
  sign.Sign.
-/
namespace Go.Proofs.YthffkbdecfjekaaDoor
open Go.RowKit
set_option linter.unusedVariables false
set_option linter.unusedSimpArgs false

theorem flat_piece : ∀ (S : List (List Nat)) (l : Nat) (D : List Nat), (∀ d ∈ S, Dgt d) → S[l]? = some D → (S.flatten.drop (16 * l)).take 16 = D
  | [], l, D, _, h => by simp at h
  | d :: S, 0, D, hS, h => by
    have hd := (hS d List.mem_cons_self).1
    have e : d = D := by simpa using h
    rw [List.flatten_cons, Nat.mul_zero, List.drop_zero, List.take_left' hd, e]
  | d :: S, l + 1, D, hS, h => by
    have hd := (hS d List.mem_cons_self).1
    rw [List.flatten_cons, List.drop_append, List.drop_eq_nil_of_le (by omega), List.nil_append, hd, show 16 * (l + 1) - 16 = 16 * l by omega]
    exact flat_piece S l D (fun x hx => hS x (List.mem_cons_of_mem _ hx)) (by simpa using h)
theorem shl_in (h : Nat) (hh : h ≤ 6) : wrap64 (2 ^ h) = ((2 ^ h : Nat) : Int) := by
  obtain rfl | rfl | rfl | rfl | rfl | rfl | rfl : h = 0 ∨ h = 1 ∨ h = 2 ∨ h = 3 ∨ h = 4 ∨ h = 5 ∨ h = 6 := by omega
  all_goals first | decide | kernel_rfl | simp [wrap64]
/-- x[:h], x an array of six digests. -/
theorem size_dg (w : World) : (Go.sizeOf 23).run Tryd.prog w = .ok 16 w := by kernel_rfl
theorem slice_six (w : World) (b h : Nat) (hh : h ≤ 6) : (Instr.sliceAt 45 (.pointer (some ⟨b, 0, none⟩)) none (some (.int .i64 (h : Int))) none).run Tryd.prog w = .ok (.slice (some ⟨b, 0, none⟩) h 6) w := by
  have hL : Tryd.prog.arrayLen 45 = 6 := by kernel_rfl
  have hE : Tryd.prog.elem 45 = 23 := by kernel_rfl
  have ht : Tryd.prog.underlying 45 = some (.array (Tryd.prog.arrayLen 45) (Tryd.prog.elem 45)) := by rw [hL, hE]; exact Tryd.underlying45
  rw [run_sliceAt_array_h w _ _ ht .i64 (h : Int) (by omega) (by rw [hL]; omega), hE, size_dg, hL]
  simp [Result.andThen_ok, slicedAt, Addr.add_mid]

set_option maxHeartbeats 4000000 in
set_option maxRecDepth 100000 in
theorem sign_yes (seed msg : ByteArray) (h i : Nat) (hs : seed.size = 32) (hh : h ≤ 6) (hi : i < 2 ^ h) (hm : msg.size ≤ 1048576) (w : World) (hG : Glob w) :
    Calls Tryd.prog 14 #[.string seed, .int .i64 (h : Int), .int .i64 (i : Int), .string msg] w fun e w' => e = .returned (.tuple #[.string (strOf (sigM (sb seed) h i (sb msg))), .int .i64 0]) ∧ Below w.heap.size w w' := by
  have hp6 : 2 ^ h ≤ 2 ^ 6 := Nat.pow_le_pow_right (by omega) hh
  have hz1 := zero_dig'
  have hz2 := zero_six
  have hz3 := builder_zero
  have hvz : (bytesV z16).length = 16 := rfl
  have hz16 : (bytesV z16).toArray.toList.length = 16 := rfl
  have hz96 : (bytesV six0.flatten).toArray.toList.length = 96 := rfl
  have hf : fitsB seed (h : Int) = true := by simp [fitsB, hs]; omega
  have h0 : (0 : Int) ≤ (h : Int) := by omega
  have i0 : (0 : Int) ≤ (i : Int) := by omega
  have hsh : decide (wrap64 (2 ^ h) ≤ (i : Int)) = false := by rw [shl_in h hh]; simp only [decide_eq_false_iff_not]; omega
  have hmm : decide ((1048576 : Int) < (msg.size : Int)) = false := by simp only [decide_eq_false_iff_not]; omega
  have HS := Lib.hid hs
  have HSZ : Hid (seed.size ≤ 1048576) := Lib.hid (by omega)
  have hRd : Dgt (rootM (sb seed) h) := node_dgt _ _ _
  have h6 := six_updN (seed := sb seed) (h := h) (i := i) h 0 six0_ok
  have HT := Lib.hid (fun j (hj : j < h) => updN_top (seed := sb seed) hh hi hj six0_ok)
  have HB := Lib.hid (fun w0 g => build_any seed (by omega) h i hh (by omega) w0 g)
  have HSIG : Hid (sigM (sb seed) h i (sb msg) = enc (i : Int) ++ (sigC (sb seed) i (digits (digestM (rootM (sb seed) h) (i : Int) (sb msg))) 68 ++ sigS (sb seed) i h)) := Lib.hid rfl
  clear hs
  generalize rootM (sb seed) h = D at HB hRd HSIG
  generalize updN (sb seed) h i h 0 six0 = T at HB h6 HT
  have hvD : (bytesV D).length = 16 := by rw [bytesV_length]; exact hRd.1
  have hvT : (bytesV T.flatten).length = 96 := by rw [bytesV_length, flat_len h6.2, h6.1]
  go_enter Tryd.func14, Tryd.ntmps14
  go_upto_region 8 with (first | (go_at_call 21; refine (possible_any _ _ _).mono ?_; rintro e w' ⟨rfl, rfl⟩) | (go_at_call 22; refine (HB.out _ hG).mono ?_; rintro e W1 ⟨rfl, hB1⟩) | (refine store_blk rfl 23 (.tmp 10) (.tmp 41) rfl ((blk_new W1 23 (bytesV z16).toArray).alloc (.cells (bytesV six0.flatten).toArray 45)) rfl rfl (m := 16) (by kernel_rfl) hvD hz16 (bytesV_cells D) ?_; intro W2 K6 O2) | (refine store_blk rfl 45 (.tmp 11) (.tmp 42) rfl (O2.2.1 _ _ _ (by omega) (blk_new1 W1 (.cells (bytesV z16).toArray 23) 45 (bytesV six0.flatten).toArray)) rfl rfl (m := 96) (by kernel_rfl) hvT hz96 (bytesV_cells T.flatten) ?_; intro W3 K7 O3))
  have hs1 := hB1.size
  have C2 : Below w.heap.size w W2 := O2.2.2 _ _ (by omega) ((hB1.alloc (by omega) _).alloc (by simp; omega) _)
  have C3 : Below w.heap.size w W3 := O3.2.2 _ _ (by omega) C2
  have M6 := O3.2.1 _ _ _ (by omega) K6
  obtain ⟨tb, htb⟩ : ∃ tb, W1.heap.size = tb := ⟨_, rfl⟩
  have htw : w.heap.size ≤ tb := by omega
  rw [htb] at M6 K7 ⊢
  clear hB1 O2 K6 O3 C2 hs1 htb HB hsh hmm
  have hEl := enc_length (i : Int) (by omega) (by omega)
  have hEb := enc_lt (i : Int) (by omega) (by omega)
  have HI := Lib.hid (fun w0 => int_any (i : Int) (by omega) (by omega) w0)
  have HDG := Lib.hid (fun w0 g => sdigest_any D hRd (i : Int) (by omega) (by omega) msg hm w0 g)
  have hGd : Dgt (digestM D (i : Int) (sb msg)) := digest_dgt _ _ _
  have hdl := digits_length (digestM D (i : Int) (sb msg)) hGd.1
  have hd3 := digits_getD (digestM D (i : Int) (sb msg)) hGd
  generalize digestM D (i : Int) (sb msg) = G at HDG hGd hdl hd3 HSIG
  have HDI := Lib.hid (fun w0 => digits_any G hGd.1 hGd.2 w0)
  generalize digits G = ds at hdl hd3 HSIG HDI
  generalize enc (i : Int) = E at hEl hEb HI HSIG
  obtain ⟨bb, hbb⟩ : ∃ bb, W3.heap.size = bb := ⟨_, rfl⟩
  have hBld := Bld.new bb W3 (by omega)
  rw [hbb] at hBld
  have P6 := M6.alloc (.cells #[.pointer none, .slice none 0 0] 54)
  have P7 := K7.alloc (.cells #[.pointer none, .slice none 0 0] 54)
  have CP := C3.alloc C3.size (.cells #[.pointer none, .slice none 0 0] 54)
  have hbw : w.heap.size ≤ bb := by have := C3.size; omega
  have hlt6 := M6.lt
  have hlt7 := K7.lt
  rw [hbb] at hlt6 hlt7
  clear M6 K7 C3
  go_upto_region 9 with (fail)
  generalize W3.alloc (.cells #[.pointer none, .slice none 0 0] 54) = V0 at hBld P6 P7 CP ⊢
  clear hbb
  go_wp2_with fail
  refine (HI.out V0).mono ?_
  rintro e w1 ⟨gi, ci, rfl, hOi⟩
  have hB1 := hOi.below
  have hHi := hOi.has hEb
  have hgi : bb < gi := by
    have hb := hBld.2.1.choose_spec.2.lt
    rcases hOi.1.2 with ⟨hv, _⟩ | ⟨g, cap, cur, hv, hge, _⟩
    · cases hv
    · injection hv with h1 _ _
      injection h1 with h1
      injection h1 with h1
      have := hOi.1
      omega
  have hBk := hBld.keep hB1
  have Q6 := P6.keep hB1
  have Q7 := P7.keep hB1
  have CQ := link CP hB1
  have HW := Lib.hid (write_any bb bb w1 (.slice none 0 0) [] E hBk (by have := hBk.2.1.choose_spec.2.lt; omega) ⟨gi, 0, none⟩ E.length ci rfl hHi (by show gi ≠ bb; omega) (by have := hEl.2; simp; omega))
  clear hOi hB1 hHi hBk hBld P6 P7 CP
  go_wp2_with fail
  refine HW.out.mono ?_
  rintro e w2 ⟨rfl, v2, hT2, hB2, hR2⟩
  rw [List.nil_append] at hT2
  have R6 := hR2.2 _ _ _ (by omega) (by decide) Q6
  have R7 := hR2.2 _ _ _ (by omega) (by decide) Q7
  have CR : Below w.heap.size w w2 := CQ.trans (hB2.mono hbw)
  clear HW Q6 Q7 CQ hB2 hR2
  go_wp2_with (refine load_blk rfl 23 (.tmp 10) rfl R6 rfl Tryd.underlying23 (m := 16) (by kernel_rfl) hvD ?_)
  refine (HDG.out w2 (hG.keep CR)).mono ?_
  rintro e w3 ⟨rfl, hB3⟩
  have hB3w := hB3
  go_wp2_with fail
  refine (HDI.out w3).mono ?_
  rintro e w4 ⟨db, rfl, hdb, KD, hB4⟩
  have hB34 := link hB3 hB4
  have hBld := hT2.keep hB34
  have S7 := R7.keep hB34
  have CS := link CR hB34
  have hbd : bb < db := by have := hT2.2.1.choose_spec.2.lt; have := hB3w.size; omega
  clear hB3 hB4 hB3w hB34 R6 R7 CR hT2 HDG HDI HI hdb
  go_wp2
  go_loopw [52] (fun v wr => ∃ (c : Nat) (bv : Value), c ≤ 68 ∧ v = .int .i64 c ∧ Bld bb wr bb bv (E ++ sigC (sb seed) i ds c) ∧ Blk wr db 43 (numsV ds) ∧ Blk wr (tb + 1) 45 (bytesV T.flatten) ∧ Below w.heap.size w wr) (fun v _ => 68 - (intOf v).toNat)
  case atStart => exact ⟨0, _, by omega, rfl, by rw [sigC, List.append_nil]; exact hBld, KD, S7, CS⟩
  case round =>
    clear hBld KD S7 CS
    obtain ⟨c, bv, hc, rfl, hBld, KD, S7, CS⟩ := hrel
    by_cases h68 : c < 68
    · have hx3 := hd3 c
      obtain ⟨x, hx⟩ : ∃ x, ds.getD c 0 = x := ⟨_, rfl⟩
      have cx : wr.cell? ⟨db, c, none⟩ = some (.int .i64 (x : Int)) := KD.cell (by rw [← hx]; unfold numsV; rw [List.getElem?_map, List.getElem?_eq_getElem (by omega), List.getD_eq_getElem?_getD, List.getElem?_eq_getElem (by omega)]; rfl)
      have hG1 := hG.keep CS
      have hFd := firstM_dig (sb seed) i c
      have hst : sigC (sb seed) i ds (c + 1) = sigC (sb seed) i ds c ++ advM i c 0 (firstM (sb seed) i c) x := by rw [← hx]; rfl
      rw [hx] at hx3
      have hAd := advM_dig i c 0 _ hFd x
      have HA := Lib.hid (fun w0 g => advance_any i c 0 x (by omega) (by omega) (by omega) (by omega) _ hFd w0 g)
      have HS1 := Lib.hid (first_any seed HSZ.out i c (by omega) (by omega) wr hG1)
      have htl := sigC_length (sb seed) i ds c
      generalize firstM (sb seed) i c = F at HA HS1 hFd hAd hst
      simp only [Nat.sub_zero] at HA
      generalize advM i c 0 F x = Z at HA hAd hst
      generalize sigC (sb seed) i ds c = Y at hst htl hBld
      have HST := Lib.hid hst
      have hvZ : (bytesV Z).length = 16 := by rw [bytesV_length]; exact hAd.1
      have hY : Y.length ≤ 1100 := by omega
      have l68 : (c : Int) < 68 := by omega
      clear hst htl hx
      go_wp2_with fail
      refine HS1.out.mono ?_
      rintro e w5 ⟨rfl, hB5⟩
      go_wp2_with fail
      refine (HA.out w5 (hG1.keep hB5)).mono ?_
      rintro e w6 ⟨rfl, hB6⟩
      have hB7 := link hB5 hB6
      go_upto_region 14 with (refine store_blk rfl 23 (.tmp 15) (.tmp 64) rfl (blk_new w6 23 (bytesV z16).toArray) rfl rfl (m := 16) (by kernel_rfl) hvZ hz16 (bytesV_cells Z) ?_; intro x1 K3 O3)
      have hBx : Below wr.heap.size wr x1 := O3.2.2 _ _ hB7.size (hB7.alloc hB7.size _)
      have hsx : wr.heap.size ≤ w6.heap.size := hB7.size
      have hbl1 := hBld.2.1.choose_spec.2.lt
      have Bx := hBld.keep hBx
      have KDx := KD.keep hBx
      have S7x := S7.keep hBx
      have CSx := link CS hBx
      have hbx : bb ≤ x1.heap.size := by have := hBx.size; omega
      have HW := Lib.hid (write_any bb bb x1 bv (E ++ Y) Z Bx hbx ⟨w6.heap.size, 0, none⟩ 16 16 hAd.1.symm (has_blk K3 hAd.2) (by show w6.heap.size ≠ _; omega) (by rw [hAd.1, List.length_append]; have := hEl.2; omega))
      generalize w6.heap.size = xb at K3 HW ⊢
      have hsl := slice_dig
      clear O3 hB5 hB6 hB7 HA HS1 hBld KD S7 CS hBx hG1 cx hAd hFd
      go_wp2_with fail
      refine HW.out.mono ?_
      rintro e w7 ⟨rfl, v', hT', hB', hR'⟩
      have KDy := hR'.2 _ _ _ (by omega) (by decide) KDx
      have S7y := hR'.2 _ _ _ (by omega) (by decide) S7x
      rw [List.append_assoc, ← HST.out] at hT'
      have CSy : Below w.heap.size w w7 := CSx.trans (hB'.mono hbw)
      clear HW Bx KDx S7x hB' hR' CSx hsl
      go_wp2
      go_roundw
      case rel => exact ⟨c + 1, v', by omega, by go_num, hT', KDy, S7y, CSy⟩
      case measure => simp [intOf]; omega
    · obtain rfl : c = 68 := by omega
      have htl := sigC_length (sb seed) i ds 68
      have htb := sigC_byte (sb seed) i ds 68
      generalize sigC (sb seed) i ds 68 = Y at htl htb HSIG hBld
      have hsl6 := fun w0 => slice_six w0 (tb + 1) h hh
      clear KD
      rw [show ((68 : Nat) : Int) = 68 from rfl]
      go_wp2
      go_loopw [71] (fun v wr => ∃ (l : Nat) (bv : Value), l ≤ h ∧ v = .int .i64 l ∧ Bld bb wr bb bv (E ++ (Y ++ sigS (sb seed) i l)) ∧ Blk wr (tb + 1) 45 (bytesV T.flatten) ∧ Below w.heap.size w wr) (fun v _ => h - (intOf v).toNat)
      case atStart => exact ⟨0, _, by omega, rfl, by rw [sigS, List.append_nil]; exact hBld, S7, CS⟩
      case round =>
        clear hBld S7 CS
        obtain ⟨l, bv, hl, rfl, hBld, S7, CS⟩ := hrel
        by_cases hlh : l < h
        · have hTl := HT.out l hlh
          have hpc := flat_piece T l _ h6.2 hTl
          have hst : sigS (sb seed) i (l + 1) = sigS (sb seed) i l ++ sideM (sb seed) i l := rfl
          have hZd : Dgt (sideM (sb seed) i l) := node_dgt _ _ _
          have htS := sigS_length (sb seed) i l
          generalize sideM (sb seed) i l = Z at hpc hst hZd
          generalize sigS (sb seed) i l = X at hst htS hBld
          have hvZ : (bytesV Z).length = 16 := by rw [bytesV_length]; exact hZd.1
          have HST := Lib.hid hst
          have hpv : ((bytesV T.flatten).drop (l * 16)).take 16 = bytesV Z := by
            rw [← hpc, Nat.mul_comm]
            simp [bytesV, List.map_take, List.map_drop]
          have hlh' : (l : Int) < (h : Int) := by omega
          have l0 : (0 : Int) ≤ (l : Int) := by omega
          have hX : X.length ≤ 100 := by omega
          clear hTl hpc hst htS
          go_upto_region 19 with (first | (refine load_part rfl 23 (.tmp 73) rfl S7 rfl Tryd.underlying23 (m := 16) (by kernel_rfl) hpv hvZ ?_) | (refine store_blk rfl 23 (.tmp 17) (.tmp 74) rfl (blk_new wr 23 (bytesV z16).toArray) rfl rfl (m := 16) (by kernel_rfl) hvZ hz16 (bytesV_cells Z) ?_; intro x1 K3 O3))
          have hBx : Below wr.heap.size wr x1 := O3.2.2 _ _ (Nat.le_refl _) ((Below.refl _ _).alloc (Nat.le_refl _) _)
          have hbl1 := hBld.2.1.choose_spec.2.lt
          have Bx := hBld.keep hBx
          have S7x := S7.keep hBx
          have CSx := link CS hBx
          have hbx : bb ≤ x1.heap.size := by have := hBx.size; omega
          have HW := Lib.hid (write_any bb bb x1 bv (E ++ (Y ++ X)) Z Bx hbx ⟨wr.heap.size, 0, none⟩ 16 16 hZd.1.symm (has_blk K3 hZd.2) (by show wr.heap.size ≠ _; omega) (by rw [hZd.1, List.length_append, List.length_append]; have := hEl.2; omega))
          generalize wr.heap.size = xb at K3 HW ⊢
          have hsl := slice_dig
          clear O3 hBld S7 CS hBx hZd
          go_wp2_with fail
          refine HW.out.mono ?_
          rintro e w7 ⟨rfl, v', hT', hB', hR'⟩
          have S7y := hR'.2 _ _ _ (by omega) (by decide) S7x
          rw [List.append_assoc, List.append_assoc, ← HST.out] at hT'
          have CSy : Below w.heap.size w w7 := CSx.trans (hB'.mono hbw)
          clear HW Bx S7x hB' hR' CSx hsl
          go_wp2
          go_roundw
          case rel => exact ⟨l + 1, v', by omega, by go_num, hT', S7y, CSy⟩
          case measure => simp [intOf]; omega
        · obtain rfl : l = h := by omega
          have htS := sigS_length (sb seed) i l
          have htB := sigS_byte (sb seed) i l
          rw [← HSIG.out] at hBld
          have HR := Lib.hid (string_any bb bb wr bv _ hBld (by
            rw [HSIG.out]
            intro y hy
            rcases List.mem_append.1 hy with h1 | h1
            · exact hEb y h1
            · rcases List.mem_append.1 h1 with h2 | h2
              · exact htb y h2
              · exact htB y h2) (by
            intro e
            have := congrArg List.length HSIG.out
            rw [e, List.length_append, List.length_append] at this
            simp at this
            omega))
          clear hBld htS htB S7
          go_wp2_with fail
          refine HR.out.mono ?_
          rintro e w9 ⟨rfl, hB9⟩
          have CF : Below w.heap.size w w9 := CS.trans (hB9.mono hbw)
          clear HR hB9
          go_wp2
          go_ret2
          exact ⟨rfl, CF⟩

end Go.Proofs.YthffkbdecfjekaaDoor

/-
  sign.Sign where it signs nothing; Public and Sign in one word each.
-/
namespace Go.Proofs.YthffkbdecfjekaaDoor
open Go.RowKit
set_option linter.unusedVariables false
set_option linter.unusedSimpArgs false

set_option maxHeartbeats 1000000 in
set_option maxRecDepth 100000 in
theorem sign_no (seed msg : ByteArray) (h i : Int) (hf : fitsB seed h = false) (w : World) :
    Calls Tryd.prog 14 #[.string seed, .int .i64 h, .int .i64 i, .string msg] w fun e w' => e = .returned (.tuple #[.string ⟨#[]⟩, .int .i64 1]) ∧ w = w' := by
  go_enter Tryd.func14, Tryd.ntmps14
  go_wp2_with (first | (go_at_call 21; refine (possible_any _ _ _).mono ?_; rintro e w' ⟨rfl, rfl⟩) | fail)
  go_ret2
  exact ⟨rfl, rfl⟩

set_option maxHeartbeats 1000000 in
set_option maxRecDepth 100000 in
theorem sign_spent (seed msg : ByteArray) (h : Nat) (i : Int) (hs : seed.size = 32) (hh : h ≤ 6) (hi : i < 0 ∨ (2 ^ h : Nat) ≤ i) (w : World) :
    Calls Tryd.prog 14 #[.string seed, .int .i64 (h : Int), .int .i64 i, .string msg] w fun e w' => e = .returned (.tuple #[.string ⟨#[]⟩, .int .i64 20]) ∧ w = w' := by
  have hf : fitsB seed (h : Int) = true := by simp [fitsB, hs]; omega
  have h0 : (0 : Int) ≤ (h : Int) := by omega
  by_cases hneg : i < 0
  · have hn : decide (i < 0) = true := by simp [hneg]
    go_enter Tryd.func14, Tryd.ntmps14
    go_wp2_with (first | (go_at_call 21; refine (possible_any _ _ _).mono ?_; rintro e w' ⟨rfl, rfl⟩) | fail)
    go_ret2
    exact ⟨rfl, rfl⟩
  · have hn : decide (i < 0) = false := by simp only [decide_eq_false_iff_not]; exact hneg
    have hsh : decide (wrap64 (2 ^ h) ≤ i) = true := by rw [shl_in h hh]; simp only [decide_eq_true_eq]; omega
    clear hi
    go_enter Tryd.func14, Tryd.ntmps14
    go_wp2_with (first | (go_at_call 21; refine (possible_any _ _ _).mono ?_; rintro e w' ⟨rfl, rfl⟩) | fail)
    go_ret2
    exact ⟨rfl, rfl⟩

theorem fits_yes {s : ByteArray} {h : Int} (hf : fitsB s h = true) : s.size = 32 ∧ ∃ n : Nat, h = (n : Int) ∧ n ≤ 6 := by
  simp only [fitsB, Bool.and_eq_true, decide_eq_true_eq] at hf
  exact ⟨hf.1.1, h.toNat, by omega, by omega⟩
/-- What Public answers. -/
def pubM (s : ByteArray) (h : Int) : List Nat × Int := if fitsB s h then (rootM (sb s) h.toNat, 0) else (z16, 1)
theorem pubM_dgt (s : ByteArray) (h : Int) : Dgt (pubM s h).1 := by
  unfold pubM
  split
  · exact node_dgt _ _ _
  · exact ⟨rfl, fun y hy => by rw [List.eq_of_mem_replicate (n := 16) (a := 0) hy]; omega⟩
theorem public_any (s : ByteArray) (h : Int) (w : World) (hG : Glob w) :
    Calls Tryd.prog 12 #[.string s, .int .i64 h] w fun e w' => e = .returned (.tuple #[.agg (bytesV (pubM s h).1).toArray, .int .i64 (pubM s h).2]) ∧ Below w.heap.size w w' := by
  by_cases hf : fitsB s h = true
  · obtain ⟨hs, n, rfl, hn⟩ := fits_yes hf
    rw [pubM, if_pos hf]
    exact public_yes s n hs hn w hG
  · rw [pubM, if_neg hf]
    exact public_no s h (by simpa using hf) w
/-- What Sign answers. -/
def signM (s : ByteArray) (h i : Int) (msg : ByteArray) : List Nat × Int := if fitsB s h then (if i < 0 ∨ ((2 ^ h.toNat : Nat) : Int) ≤ i then ([], 20) else (sigM (sb s) h.toNat i.toNat (sb msg), 0)) else ([], 1)
theorem sign_any (s msg : ByteArray) (h i : Int) (hm : msg.size ≤ 1048576) (w : World) (hG : Glob w) :
    Calls Tryd.prog 14 #[.string s, .int .i64 h, .int .i64 i, .string msg] w fun e w' => e = .returned (.tuple #[.string (strOf (signM s h i msg).1), .int .i64 (signM s h i msg).2]) ∧ Below w.heap.size w w' := by
  by_cases hf : fitsB s h = true
  · obtain ⟨hs, n, rfl, hn⟩ := fits_yes hf
    rw [signM, if_pos hf]
    by_cases hi : i < 0 ∨ ((2 ^ n : Nat) : Int) ≤ i
    · rw [if_pos (by simpa using hi)]
      exact (sign_spent s msg n i hs hn hi w).mono fun e w' ⟨he, hw⟩ => ⟨he, hw ▸ Below.refl _ _⟩
    · rw [if_neg (by simpa using hi)]
      obtain ⟨m, rfl⟩ : ∃ m : Nat, i = (m : Int) := ⟨i.toNat, by omega⟩
      exact sign_yes s msg n m hs hn (by omega) hm w hG
  · rw [signM, if_neg hf]
    exact (sign_no s msg h i (by simpa using hf) w).mono fun e w' ⟨he, hw⟩ => ⟨he, hw ▸ Below.refl _ _⟩

end Go.Proofs.YthffkbdecfjekaaDoor

/-
  For sign.Verify: the builder and what is left of the signature, each beside the other.
-/
namespace Go.Proofs.YthffkbdecfjekaaDoor
open Go.RowKit
set_option linter.unusedVariables false
set_option linter.unusedSimpArgs false

theorem Bld.onl {B r b : Nat} {w w' : World} {v : Value} {l : List Nat} {cs : List Value} (h : Bld B w b v l) (hr : Blk w r 52 cs) (ho : Onl r w w') : Bld B w' b v l := by
  obtain ⟨hB, ⟨p, hp, hbk⟩, hown⟩ := h
  refine ⟨hB, ⟨p, hp, ho.2.1 _ _ _ (hbk.ne hr (by decide)) hbk⟩, hown.1, ?_⟩
  rcases hown.2 with h0 | ⟨g, cap, cur, hv, hg, hh, rest⟩
  · exact .inl h0
  · refine .inr ⟨g, cap, cur, hv, hg, ?_, rest⟩
    have hk : Blk w g 5 cur.toList := by unfold Blk; rw [hh]
    have := ho.2.1 _ _ _ (hk.ne hr (by decide)) hk
    unfold Blk at this
    rw [this]
theorem Left.keepB {w w' : World} {B r : Nat} {L : List Nat} (h : Left w r L) (hr : r < B) (hb : Below B w w') : Left w' r L := by
  obtain ⟨g, o, c, h1, h2, h3, h4⟩ := h
  exact ⟨g, o, c, h1.keepB hr hb, h2, has_below h3 (by show g < B; omega) hb, h4⟩
theorem Left.blk {w : World} {r : Nat} {L : List Nat} (h : Left w r L) : ∃ cs, Blk w r 52 cs := by
  obtain ⟨g, o, c, h1, _⟩ := h
  exact ⟨_, h1⟩
theorem Left.lt {w : World} {r : Nat} {L : List Nat} (h : Left w r L) : r < w.heap.size := by
  obtain ⟨cs, h1⟩ := h.blk
  exact h1.lt
theorem Left.byte {w : World} {r : Nat} {L : List Nat} (h : Left w r L) : ∀ y ∈ L, y < 256 := by
  obtain ⟨g, o, c, _, _, h3, _⟩ := h
  exact h3.2
theorem Left.keep {w w' : World} {r : Nat} {L : List Nat} (h : Left w r L) (hb : Below w.heap.size w w') : Left w' r L := h.keepB h.lt hb
theorem to_bytes_cap (s : ByteArray) (w : World) : ∃ cap w2, (convert 9 52 (.string s)).run Tryd.prog w = .ok (.slice (some ⟨w.heap.size, 0, none⟩) s.size cap) w2 ∧ Below w.heap.size w w2 ∧ Has w2 (some ⟨w.heap.size, 0, none⟩) (sb s) ∧ s.size ≤ cap := by
  obtain ⟨cap, w2, h1, h2, h3⟩ := to_bytes_has s w
  refine ⟨cap, w2, h1, h2, h3, ?_⟩
  have h4 := run_bytes_of_string (P := Tryd.prog) w 9 52 5 s Tryd.underlying9 Tryd.underlying52 Tryd.underlying5
  rw [h1] at h4
  injection h4 with h5 _
  injection h5 with _ _ h6
  rw [h6]
  exact grownCap_ge _ _ _ _
theorem sb_from (s : ByteArray) (k : Nat) : sb (s.extract k s.size) = (sb s).drop k := by
  unfold sb
  have e : (s.extract k s.size).data = s.data.extract k s.size := ByteArray.data_extract
  rw [e, Array.toList_extract, List.extract_eq_take_drop, List.take_of_length_le (by simp), List.map_drop]
theorem equal_16 (w : World) (x y : List Nat) (hx : Dgt x) (hy : Dgt y) : (Op.equalIn 10000 23 (.agg (bytesV x).toArray) (.agg (bytesV y).toArray)).run Tryd.prog w = .ok (decide (x = y)) w := by
  have hsz : ∀ w, (sizeOf 5).run Tryd.prog w = .ok 1 w := fun w => by
    obtain ⟨i0, hi, hz0, hz1, hz2⟩ := info_parts u8info
    simp [sizeOf, typeInfo, hi, hz1]
  rw [← cell_bytes x hx.2, ← cell_bytes y hy.2]
  rw [run_equalIn_bytes w 9998 23 5 16 Tryd.underlying23 Tryd.underlying5 hsz _ _ (by simp [hx.1]) (by simp [hy.1])]
  congr 1
  rw [Bool.eq_iff_iff]
  simp only [beq_iff_eq, decide_eq_true_eq]
  exact ⟨fun h => ofNat_inj hx.2 hy.2 h, fun h => by rw [h]⟩
theorem piece_drop (R : List Nat) (c : Nat) : (R.drop (16 * c)).take 16 = piece R c := rfl
theorem drop_next (R : List Nat) (c : Nat) : (R.drop (16 * c)).drop 16 = R.drop (16 * (c + 1)) := by rw [List.drop_drop]; congr 1
theorem bit_even (i l : Nat) : bits BinOp.and IntKind.i64 ((i : Int) / 2 ^ l) 1 = ((i / 2 ^ l % 2 : Nat) : Int) := by
  have e : (i : Int) / 2 ^ l = ((i / 2 ^ l : Nat) : Int) := by simp
  rw [e]
  generalize i / 2 ^ l = n
  have e2 : ((BitVec.ofInt 64 (n : Int) &&& BitVec.ofInt 64 1).toNat : Int) = ((n % 2 : Nat) : Int) := by
    rw [BitVec.toNat_and, show (BitVec.ofInt 64 1).toNat = 2 ^ 1 - 1 by decide, Nat.and_two_pow_sub_one_eq_mod, BitVec.toNat_ofInt]
    omega
  show IntKind.i64.wrap ((BitVec.ofInt 64 (n : Int) &&& BitVec.ofInt 64 1).toNat : Int) = _
  rw [e2]
  exact IntWalk.i64_in _ (by omega)

set_option maxHeartbeats 1000000 in
set_option maxRecDepth 100000 in
theorem verify_height (P : List Nat) (hP : Dgt P) (h : Int) (msg sig : ByteArray) (hr : h < 0 ∨ 6 < h) (w : World) :
    Calls Tryd.prog 18 #[.agg (bytesV P).toArray, .int .i64 h, .string msg, .string sig] w fun e w' => e = .returned (.tuple #[.int .i64 0, .int .i64 1]) ∧ Below w.heap.size w w' := by
  by_cases hn : h < 0
  · have h1 : decide (h < 0) = true := by simp [hn]
    go_enter Tryd.func18, Tryd.ntmps18
    go_wp2_with fail
    go_ret2
    exact ⟨rfl, (Below.refl _ _).alloc (Nat.le_refl _) _⟩
  · have h1 : decide (h < 0) = false := by simp only [decide_eq_false_iff_not]; exact hn
    have h2 : decide (6 < h) = true := by simp only [decide_eq_true_eq]; omega
    clear hr
    go_enter Tryd.func18, Tryd.ntmps18
    go_wp2_with fail
    go_ret2
    exact ⟨rfl, (Below.refl _ _).alloc (Nat.le_refl _) _⟩

end Go.Proofs.YthffkbdecfjekaaDoor

/-
  sign.Verify where a signature is refused before its chains are followed.
-/
namespace Go.Proofs.YthffkbdecfjekaaDoor
open Go.RowKit
set_option linter.unusedVariables false
set_option linter.unusedSimpArgs false

set_option maxHeartbeats 2000000 in
set_option maxRecDepth 100000 in
theorem verify_dec (P : List Nat) (hP : Dgt P) (h : Nat) (hh : h ≤ 6) (msg sig : ByteArray) (hm : msg.size ≤ 1048576) (hs : sig.size ≤ 1000000) (he : (dec (sb sig)).2.2 ≠ 0) (w : World) :
    Calls Tryd.prog 18 #[.agg (bytesV P).toArray, .int .i64 (h : Int), .string msg, .string sig] w fun e w' => e = .returned (.tuple #[.int .i64 0, .int .i64 ((dec (sb sig)).2.2 : Nat)]) ∧ Below w.heap.size w w' := by
  have h1 : decide ((h : Int) < 0) = false := by simp only [decide_eq_false_iff_not]; omega
  have h2 : decide ((6 : Int) < (h : Int)) = false := by simp only [decide_eq_false_iff_not]; omega
  have h3 : decide ((1048576 : Int) < (msg.size : Int)) = false := by simp only [decide_eq_false_iff_not]; omega
  obtain ⟨W0, hW0⟩ : ∃ W0, w.alloc (.cells (bytesV P).toArray 23) = W0 := ⟨_, rfl⟩
  have KB : Below w.heap.size w W0 := hW0 ▸ ((Below.refl _ _).alloc (Nat.le_refl _) _)
  obtain ⟨cap, w2, hcv, hB2, hH2, hcap⟩ := to_bytes_cap sig W0
  have HG := Lib.hid (getInt_any (some ⟨W0.heap.size, 0, none⟩) (sb sig) sig.size cap w2 (sb_length sig).symm hcap (by omega) hH2)
  unfold three at HG
  generalize dec (sb sig) = r at HG he ⊢
  obtain ⟨x, u, er⟩ := r
  simp only at HG he ⊢
  have hne : ((er : Int) == 0) = false := by simp; omega
  have hne2 : ((er : Int) != 0) = true := by simp; omega
  clear he
  go_enter Tryd.func18, Tryd.ntmps18
  go_wp2_with (go_at_call 36; refine HG.out.mono ?_; rintro e w' ⟨rfl, rfl⟩)
  go_ret2
  exact ⟨rfl, link KB hB2⟩

set_option maxHeartbeats 2000000 in
set_option maxRecDepth 100000 in
theorem verify_form (P : List Nat) (hP : Dgt P) (h : Nat) (hh : h ≤ 6) (msg sig : ByteArray) (hm : msg.size ≤ 1048576) (hs : sig.size ≤ 1000000) (x : Int) (u : Nat) (hd : dec (sb sig) = (x, u, 0))
    (hbad : x < 0 ∨ ((2 ^ h : Nat) : Int) ≤ x ∨ ((sb sig).drop u).length ≠ (68 + h) * 16) (w : World) :
    Calls Tryd.prog 18 #[.agg (bytesV P).toArray, .int .i64 (h : Int), .string msg, .string sig] w fun e w' => e = .returned (.tuple #[.int .i64 0, .int .i64 2]) ∧ Below w.heap.size w w' := by
  have hp6 : 2 ^ h ≤ 2 ^ 6 := Nat.pow_le_pow_right (by omega) hh
  have h1 : decide ((h : Int) < 0) = false := by simp only [decide_eq_false_iff_not]; omega
  have h2 : decide ((6 : Int) < (h : Int)) = false := by simp only [decide_eq_false_iff_not]; omega
  have h3 : decide ((1048576 : Int) < (msg.size : Int)) = false := by simp only [decide_eq_false_iff_not]; omega
  have h0 : (0 : Int) ≤ (h : Int) := by omega
  obtain ⟨W0, hW0⟩ : ∃ W0, w.alloc (.cells (bytesV P).toArray 23) = W0 := ⟨_, rfl⟩
  have KB : Below w.heap.size w W0 := hW0 ▸ ((Below.refl _ _).alloc (Nat.le_refl _) _)
  obtain ⟨cap, w2, hcv, hB2, hH2, hcap⟩ := to_bytes_cap sig W0
  have HG := Lib.hid (getInt_any (some ⟨W0.heap.size, 0, none⟩) (sb sig) sig.size cap w2 (sb_length sig).symm hcap (by omega) hH2)
  have hok := dec_ok (sb sig)
  unfold three at HG
  rw [hd] at HG hok
  simp only at HG hok
  have hu : u ≤ sig.size := by have := hok.2.2.1; rwa [sb_length] at this
  have hu' : (u : Int) ≤ (sig.size : Int) := by omega
  have hu0 : (0 : Int) ≤ (u : Int) := by omega
  obtain ⟨cap3, w3, hcv3, hB3, hH3, hcap3⟩ := to_bytes_cap (sig.extract u sig.size) w2
  have hsz : (sig.extract u sig.size).size = sig.size - u := by rw [← sb_length, sb_from, List.length_drop, sb_length]
  rw [hsz] at hcv3
  rw [List.length_drop, sb_length] at hbad
  have CB := link KB (link hB2 hB3)
  have CF : Below w.heap.size w (w3.alloc (.cells #[.slice (some ⟨w2.heap.size, 0, none⟩) (sig.size - u) cap3] 52)) := CB.alloc CB.size _
  have HSU := Lib.hid hu
  clear hd hsz hok hB2 hB3 hH2 hH3 hcap hcap3 KB CB
  by_cases hx0 : x < 0
  · have hx : decide (x < 0) = true := by simp [hx0]
    clear hbad
    go_enter Tryd.func18, Tryd.ntmps18
    go_wp2_with (go_at_call 36; refine HG.out.mono ?_; rintro e w' ⟨rfl, rfl⟩)
    go_ret2
    exact ⟨rfl, CF⟩
  · have hx : decide (x < 0) = false := by simp only [decide_eq_false_iff_not]; exact hx0
    by_cases hx1 : ((2 ^ h : Nat) : Int) ≤ x
    · have hxx : decide (wrap64 (2 ^ h) ≤ x) = true := by rw [shl_in h hh]; simp only [decide_eq_true_eq]; exact hx1
      clear hbad
      go_enter Tryd.func18, Tryd.ntmps18
      go_wp2_with (go_at_call 36; refine HG.out.mono ?_; rintro e w' ⟨rfl, rfl⟩)
      go_ret2
      exact ⟨rfl, CF⟩
    · have hxx : decide (wrap64 (2 ^ h) ≤ x) = false := by rw [shl_in h hh]; simp only [decide_eq_false_iff_not]; exact hx1
      have hl : sig.size - u ≠ (68 + h) * 16 := by omega
      have hlen : (((sig.size - u : Nat) : Int) != (68 + (h : Int)) * 16) = true := by simp; omega
      clear hbad hl
      go_enter Tryd.func18, Tryd.ntmps18
      go_wp2_with (go_at_call 36; refine HG.out.mono ?_; rintro e w' ⟨rfl, rfl⟩)
      go_ret2
      exact ⟨rfl, CF⟩

end Go.Proofs.YthffkbdecfjekaaDoor

/-
  sign.Verify where the chains of a signature are followed.
-/
namespace Go.Proofs.YthffkbdecfjekaaDoor
open Go.RowKit
set_option linter.unusedVariables false
set_option linter.unusedSimpArgs false

def verO (P : List Nat) (h i : Nat) (m R : List Nat) : Value := if verR P h i m R = P then .tuple #[.int .i64 (i : Int), .int .i64 0] else .tuple #[.int .i64 0, .int .i64 19]

set_option maxHeartbeats 8000000 in
set_option maxRecDepth 100000 in
theorem verify_main (P : List Nat) (hP : Dgt P) (h : Nat) (hh : h ≤ 6) (msg sig : ByteArray) (hm : msg.size ≤ 1048576) (hs : sig.size ≤ 1000000) (i u : Nat) (hd : dec (sb sig) = ((i : Int), u, 0)) (hi : i < 2 ^ h)
    (hlen : ((sb sig).drop u).length = (68 + h) * 16) (w : World) (hG : Glob w) :
    Calls Tryd.prog 18 #[.agg (bytesV P).toArray, .int .i64 (h : Int), .string msg, .string sig] w fun e w' => e = .returned (verO P h i (sb msg) ((sb sig).drop u)) ∧ Below w.heap.size w w' := by
  have hp6 : 2 ^ h ≤ 2 ^ 6 := Nat.pow_le_pow_right (by omega) hh
  have hz1 := zero_dig'
  have hz3 := builder_zero
  have hvz : (bytesV z16).length = 16 := rfl
  have hz16 : (bytesV z16).toArray.toList.length = 16 := rfl
  have hmf : ∀ (fn : Fn) (first cap : Array Value) (w : World), (Instr.makeFunc fn first cap).run Tryd.prog w = .ok (.func fn first cap) w := fun _ _ _ _ => rfl
  have h1 : decide ((h : Int) < 0) = false := by simp only [decide_eq_false_iff_not]; omega
  have h2 : decide ((6 : Int) < (h : Int)) = false := by simp only [decide_eq_false_iff_not]; omega
  have h3 : decide ((1048576 : Int) < (msg.size : Int)) = false := by simp only [decide_eq_false_iff_not]; omega
  have h0 : (0 : Int) ≤ (h : Int) := by omega
  obtain ⟨W0, hW0⟩ : ∃ W0, w.alloc (.cells (bytesV P).toArray 23) = W0 := ⟨_, rfl⟩
  have KB : Below w.heap.size w W0 := hW0 ▸ ((Below.refl _ _).alloc (Nat.le_refl _) _)
  have KP : Blk W0 w.heap.size 23 (bytesV P) := hW0 ▸ (blk_new w _ _)
  obtain ⟨cap, w2, hcv, hB2, hH2, hcap⟩ := to_bytes_cap sig W0
  have HG := Lib.hid (getInt_any (some ⟨W0.heap.size, 0, none⟩) (sb sig) sig.size cap w2 (sb_length sig).symm hcap (by omega) hH2)
  have hok := dec_ok (sb sig)
  unfold three at HG
  rw [hd] at HG hok
  simp only at HG hok
  have hu : u ≤ sig.size := by have := hok.2.2.1; rwa [sb_length] at this
  have hu' : (u : Int) ≤ (sig.size : Int) := by omega
  have hu0 : (0 : Int) ≤ (u : Int) := by omega
  obtain ⟨cap3, w3, hcv3, hB3, hH3, hcap3⟩ := to_bytes_cap (sig.extract u sig.size) w2
  have hsz : (sig.extract u sig.size).size = sig.size - u := by rw [← sb_length, sb_from, List.length_drop, sb_length]
  rw [sb_from] at hH3
  rw [hsz] at hcv3 hcap3
  have hRl : ((sb sig).drop u).length = sig.size - u := by rw [List.length_drop, sb_length]
  have hx : decide ((i : Int) < 0) = false := by simp only [decide_eq_false_iff_not]; omega
  have hxx : decide (wrap64 (2 ^ h) ≤ (i : Int)) = false := by rw [shl_in h hh]; simp only [decide_eq_false_iff_not]; omega
  have hll : (((sig.size - u : Nat) : Int) != (68 + (h : Int)) * 16) = false := by simp; omega
  have CB := link KB (link hB2 hB3)
  have KP3 := (KP.keep hB2).keep hB3
  have hw2 : w2.heap.size < w3.heap.size := by
    have := hH3.1 0 (byteV (((sb sig).drop u)[0]'(by omega))) (by unfold bytesV; rw [List.getElem?_map, List.getElem?_eq_getElem (by omega)]; rfl)
    obtain ⟨ad, e1, e2, _⟩ := this
    injection e1 with e1
    rw [← e1] at e2
    exact e2
  have hwp : w.heap.size < w3.heap.size := KP3.lt
  have HLN : Hid (((sb sig).drop u).length = (68 + h) * 16) := Lib.hid hlen
  have HRL := Lib.hid hRl
  clear hd hsz hok hB2 hB3 hH2 hcap KB KP hlen hRl
  generalize (sb sig).drop u = R at hH3 HLN HRL ⊢
  go_enter Tryd.func18, Tryd.ntmps18
  go_upto_region 11 with (go_at_call 36; refine HG.out.mono ?_; rintro e w' ⟨rfl, rfl⟩)
  generalize hV : World.alloc w3 _ = V1
  have KR : Blk V1 w3.heap.size 52 [.slice (some ⟨w2.heap.size, 0, none⟩) (sig.size - u) cap3] := hV ▸ blk_new w3 _ _
  have CV : Below w.heap.size w V1 := hV ▸ (CB.alloc CB.size _)
  have KP1 : Blk V1 w.heap.size 23 (bytesV P) := hV ▸ (KP3.alloc _)
  have HH1 : Has V1 (some ⟨w2.heap.size, 0, none⟩) R := hH3.keep (hV ▸ ((Below.refl _ _).alloc (Nat.le_refl _) _))
  have hLeft : Left V1 w3.heap.size R := ⟨w2.heap.size, 0, cap3, by rw [HRL.out]; exact KR, by rw [HRL.out]; exact hcap3, HH1, hw2⟩
  clear hV KR HH1 hH3 KP3 hcap3 CB hcv hcv3
  have hrw : w.heap.size ≤ w3.heap.size := by omega
  obtain ⟨r, hr⟩ : ∃ r, w3.heap.size = r := ⟨_, rfl⟩
  rw [hr] at hLeft hrw hwp ⊢
  clear hr hw2
  have hvP : (bytesV P).length = 16 := by rw [bytesV_length]; exact hP.1
  have HDG := Lib.hid (fun w0 g => sdigest_any P hP (i : Int) (by omega) (by omega) msg hm w0 g)
  have HVR : Hid (verR P h i (sb msg) R = verN R i (leafM (verT R i (digits (digestM P (i : Int) (sb msg))) 68)) h) := Lib.hid rfl
  have hGd : Dgt (digestM P (i : Int) (sb msg)) := digest_dgt _ _ _
  have hdl := digits_length (digestM P (i : Int) (sb msg)) hGd.1
  have hd3 := digits_getD (digestM P (i : Int) (sb msg)) hGd
  generalize digestM P (i : Int) (sb msg) = G at HDG hGd hdl hd3 HVR
  have HDI := Lib.hid (fun w0 => digits_any G hGd.1 hGd.2 w0)
  generalize digits G = ds at hdl hd3 HVR HDI
  obtain ⟨bb, hbb⟩ : ∃ bb, V1.heap.size = bb := ⟨_, rfl⟩
  have hBld := Bld.new bb V1 (by omega)
  rw [hbb] at hBld
  have P4 := KP1.alloc (.cells #[.pointer none, .slice none 0 0] 54)
  have PL := hLeft.keep ((Below.refl _ _).alloc (Nat.le_refl _) (.cells #[.pointer none, .slice none 0 0] 54))
  have CP := CV.alloc CV.size (.cells #[.pointer none, .slice none 0 0] 54)
  have hbw : w.heap.size ≤ bb := by have := CV.size; omega
  have hltr := hLeft.lt
  rw [hbb] at hltr
  have hRb := hLeft.byte
  clear KP1 hLeft CV
  go_upto_region 13 with (fail)
  generalize V1.alloc (.cells #[.pointer none, .slice none 0 0] 54) = V2 at hBld P4 PL CP ⊢
  clear hbb
  go_wp2_with (refine load_blk rfl 23 (.tmp 4) rfl P4 rfl Tryd.underlying23 (m := 16) (by kernel_rfl) hvP ?_)
  refine (HDG.out V2 (hG.keep CP)).mono ?_
  rintro e w4 ⟨rfl, hB4⟩
  have hB4s := hB4.size
  go_wp2_with fail
  refine (HDI.out w4).mono ?_
  rintro e w5 ⟨db, rfl, hdb, KD, hB5⟩
  have hB45 := link hB4 hB5
  have hBl5 := hBld.keep hB45
  have Q4 := P4.keep hB45
  have QL := PL.keep hB45
  have CQ := link CP hB45
  have hbd : bb < db := by have := hBld.2.1.choose_spec.2.lt; omega
  clear hB4 hB5 hB4s hB45 P4 PL CP hBld HDG HDI hdb
  go_wp2
  go_loopw [67] (fun v wr => ∃ (c : Nat) (bv : Value), c ≤ 68 ∧ v = .int .i64 c ∧ Bld bb wr bb bv (verT R i ds c) ∧ Left wr r (R.drop (16 * c)) ∧ Blk wr db 43 (numsV ds) ∧ Blk wr w.heap.size 23 (bytesV P) ∧ Below w.heap.size w wr) (fun v _ => 68 - (intOf v).toNat)
  case atStart => exact ⟨0, _, by omega, rfl, hBl5, QL, KD, Q4, CQ⟩
  case round =>
    clear hBl5 QL KD Q4 CQ
    obtain ⟨c, bv, hc, rfl, hBld, QL, KD, Q4, CQ⟩ := hrel
    by_cases h68 : c < 68
    · have hx3 := hd3 c
      obtain ⟨x, hx⟩ : ∃ x, ds.getD c 0 = x := ⟨_, rfl⟩
      have cx : wr.cell? ⟨db, c, none⟩ = some (.int .i64 (x : Int)) := KD.cell (by rw [← hx]; unfold numsV; rw [List.getElem?_map, List.getElem?_eq_getElem (by omega), List.getD_eq_getElem?_getD, List.getElem?_eq_getElem (by omega)]; rfl)
      have hst : verT R i ds (c + 1) = verT R i ds c ++ advM i c x (piece R c) (3 - x) := by rw [← hx]; rfl
      rw [hx] at hx3
      have hll : 16 ≤ (R.drop (16 * c)).length := by rw [List.length_drop, HLN.out]; omega
      have hpd : Dgt (piece R c) := piece_dgt R c (by rw [HLN.out]; omega) hRb
      have HNX := Lib.hid (next_any wr r (R.drop (16 * c)) QL hll)
      rw [piece_drop, drop_next] at HNX
      have hAd := advM_dig i c x _ hpd (3 - x)
      have HA := Lib.hid (fun w0 g => advance_any i c x 3 (by omega) (by omega) hx3 (by omega) _ hpd w0 g)
      have htl := verT_length R i ds c (by rw [HLN.out]; omega) hRb
      generalize piece R c = F at HA HNX hpd hAd hst
      generalize advM i c x F (3 - x) = Z at HA hAd hst
      generalize verT R i ds c = Y at hst htl hBld
      have HST := Lib.hid hst
      have hvZ : (bytesV Z).length = 16 := by rw [bytesV_length]; exact hAd.1
      have hY : Y.length ≤ 1100 := by omega
      have l68 : (c : Int) < 68 := by omega
      obtain ⟨csr, hbr⟩ := QL.blk
      clear hst htl hx
      go_wp2_with fail
      refine HNX.out.mono ?_
      rintro e wn ⟨rfl, NL, NO⟩
      have NB := hBld.onl hbr NO
      have ND := NO.2.1 _ _ _ (by omega) KD
      have N4 := NO.2.1 _ _ _ (by omega) Q4
      have NQ := NO.2.2 _ _ hrw CQ
      have hbn := NB.2.1.choose_spec.2.lt
      clear hBld QL KD Q4 CQ hbr NO HNX cx
      go_wp2_with fail
      refine (HA.out wn (hG.keep NQ)).mono ?_
      rintro e w6 ⟨rfl, hB6⟩
      go_upto_region 17 with (refine store_blk rfl 23 (.tmp 18) (.tmp 77) rfl (blk_new w6 23 (bytesV z16).toArray) rfl rfl (m := 16) (by kernel_rfl) hvZ hz16 (bytesV_cells Z) ?_; intro x1 K3 O3)
      have hBx : Below wn.heap.size wn x1 := O3.2.2 _ _ hB6.size (hB6.alloc hB6.size _)
      have hsx : wn.heap.size ≤ w6.heap.size := hB6.size
      have Bx := NB.keep hBx
      have Lx := NL.keep hBx
      have KDx := ND.keep hBx
      have S4x := N4.keep hBx
      have CSx := link NQ hBx
      have hbx : bb ≤ x1.heap.size := by have := hBx.size; omega
      have HW := Lib.hid (write_any bb bb x1 bv Y Z Bx hbx ⟨w6.heap.size, 0, none⟩ 16 16 hAd.1.symm (has_blk K3 hAd.2) (by show w6.heap.size ≠ _; omega) (by rw [hAd.1]; omega))
      generalize w6.heap.size = xb at K3 HW ⊢
      have hsl := slice_dig
      clear O3 hB6 HA NB NL ND N4 NQ hBx hAd hpd
      go_wp2_with fail
      refine HW.out.mono ?_
      rintro e w7 ⟨rfl, v', hT', hB', hR'⟩
      have KDy := hR'.2 _ _ _ (by omega) (by decide) KDx
      have S4y := hR'.2 _ _ _ (by omega) (by decide) S4x
      have Ly := Lx.keepB hltr hB'
      rw [← HST.out] at hT'
      have CSy : Below w.heap.size w w7 := CSx.trans (hB'.mono hbw)
      clear HW Bx Lx KDx S4x hB' hR' CSx hsl
      go_wp2
      go_roundw
      case rel => exact ⟨c + 1, v', by omega, by go_num, hT', Ly, KDy, S4y, CSy⟩
      case measure => simp [intOf]; omega
    · obtain rfl : c = 68 := by omega
      have htl := verT_length R i ds 68 (by rw [HLN.out]; omega) hRb
      have htb := verT_byte R i ds 68 (by rw [HLN.out]; omega) hRb
      have hG1 := hG.keep CQ
      have hLd := leaf_dgt (verT R i ds 68)
      have HST := Lib.hid (string_any bb bb wr bv _ hBld htb (fun e => by rw [e] at htl; simp at htl))
      have HLF := Lib.hid (fun w0 g => leaf_any (strOf (verT R i ds 68)) (by rw [strOf_size, htl]; omega) w0 g)
      rw [sb_strOf _ htb] at HLF
      generalize verT R i ds 68 = Y at HST HLF hLd HVR hBld htl htb
      generalize leafM Y = D0 at HLF hLd HVR
      have hvD : (bytesV D0).length = 16 := by rw [bytesV_length]; exact hLd.1
      rw [show ((68 : Nat) : Int) = 68 from rfl]
      clear htl htb KD
      go_wp2_with fail
      refine HST.out.mono ?_
      rintro e w8 ⟨rfl, hB8⟩
      have Ra4 := Q4.keepB (by omega) hB8
      have RaL := QL.keepB hltr hB8
      have CR : Below w.heap.size w w8 := CQ.trans (hB8.mono hbw)
      have hs8 : bb ≤ w8.heap.size := by have := hB8.size; have := hBld.2.1.choose_spec.2.lt; omega
      clear hBld Q4 QL CQ hB8 HST hG1
      go_wp2_with fail
      refine (HLF.out w8 (hG.keep CR)).mono ?_
      rintro e w9 ⟨rfl, hB9⟩
      go_upto_region 20 with (refine store_blk rfl 23 (.tmp 19) (.tmp 82) rfl (blk_new w9 23 (bytesV z16).toArray) rfl rfl (m := 16) (by kernel_rfl) hvD hz16 (bytesV_cells D0) ?_; intro x1 K19 O3)
      have hBx : Below w8.heap.size w8 x1 := O3.2.2 _ _ hB9.size (hB9.alloc hB9.size _)
      have Rb4 := Ra4.keep hBx
      have RbL := RaL.keep hBx
      have CRx := link CR hBx
      have hsn : bb ≤ w9.heap.size := by have := hB9.size; omega
      obtain ⟨nb, hnb⟩ : ∃ nb, w9.heap.size = nb := ⟨_, rfl⟩
      rw [hnb] at K19 hsn ⊢
      clear O3 hB9 hBx Ra4 RaL CR HLF hnb
      go_wp2
      go_loopw [84] (fun v wr => ∃ l : Nat, l ≤ h ∧ v = .int .i64 l ∧ Blk wr nb 23 (bytesV (verN R i D0 l)) ∧ Left wr r (R.drop (16 * (68 + l))) ∧ Blk wr w.heap.size 23 (bytesV P) ∧ Below w.heap.size w wr) (fun v _ => h - (intOf v).toNat)
      case atStart => exact ⟨0, by omega, rfl, K19, RbL, Rb4, CRx⟩
      case round =>
        clear K19 RbL Rb4 CRx
        obtain ⟨l, hl, rfl, K19, QL, Q4, CQ⟩ := hrel
        by_cases hlh : l < h
        · have hll : 16 ≤ (R.drop (16 * (68 + l))).length := by rw [List.length_drop, HLN.out]; omega
          have hpd : Dgt (piece R (68 + l)) := piece_dgt R (68 + l) (by rw [HLN.out]; omega) hRb
          have HNX := Lib.hid (fun w0 hl0 => next_any w0 r (R.drop (16 * (68 + l))) hl0 hll)
          rw [piece_drop, drop_next] at HNX
          have hVd := verN_dgt R i D0 hLd l
          have hst : verN R i D0 (l + 1) = if i / 2 ^ l % 2 = 1 then joinM (piece R (68 + l)) (verN R i D0 l) else joinM (verN R i D0 l) (piece R (68 + l)) := rfl
          have hb := bit_even i l
          have hlh' : (l : Int) < (h : Int) := by omega
          have l0 : (0 : Int) ≤ (l : Int) := by omega
          rw [Nat.add_assoc] at HNX
          generalize piece R (68 + l) = F at HNX hpd hst
          generalize verN R i D0 l = V at hVd hst K19
          have hvV : (bytesV V).length = 16 := by rw [bytesV_length]; exact hVd.1
          have hsV := size_dig V hVd.1
          by_cases hodd : i / 2 ^ l % 2 = 1
          · rw [if_pos hodd] at hst
            have hbit : (bits BinOp.and IntKind.i64 ((i : Int) / 2 ^ l) 1 == 0) = false := by rw [hb, hodd]; rfl
            have HJ := Lib.hid (fun w0 g => join_any F V hpd hVd w0 g)
            generalize hJ : joinM F V = Z at HJ hst
            have hZd : Dgt Z := by rw [← hJ]; exact dig_ofS _ _
            have HST := Lib.hid hst
            have hvZ : (bytesV Z).length = 16 := by rw [bytesV_length]; exact hZd.1
            clear hb hodd hst hJ
            go_upto_region 25 with (fail)
            have hHeld : True := trivial
            refine wp_region_held_drew (S := fun _ => True) (by kernel_rfl) trivial (fun _ => ?_)
            replace K19 := K19.drew
            replace QL : Left wr.drew r (R.drop (16 * (68 + l))) := QL
            replace Q4 := Q4.drew
            replace CQ := below_drew CQ
            generalize wr.drew = V0 at K19 QL Q4 CQ ⊢
            refine wpAnyH_take (i := 0) (oi := ⟨some 96, .move (.tmp 14), 69, "sign.go:164", #[], none⟩) (v := .func (.func 37) #[] #[.pointer (some ⟨r, 0, none⟩)]) rfl (by kernel_rfl) (by kernel_rfl) (by kernel_rfl) (fun _ _ _ h => h) (Or.inl ⟨by rfl, fun w' hSw => by go_simp⟩) hHeld ?_
            try simp only [Act.put, List.setIfInBounds_toArray, List.set_cons_zero, List.set_cons_succ]
            refine wpAnyH_ready (rs := [1, 2]) (by kernel_rfl) (by simp) ?_
            refine AllReadyH.cons (o := ⟨some 97, .call { callee := .value (.tmp 96), args := #[], argTypes := #[] }, 23, "sign.go:164", #[⟨0, .data⟩], none⟩) rfl (fun K hK => ?_) (AllReadyH.cons (o := ⟨some 98, .load 23 (.tmp 19), 23, "sign.go:164", #[], none⟩) rfl (fun K hK => ?_) AllReadyH.nil)
            rw [if_pos (by rfl)]
            go_simp
            refine (HNX.out V0 QL).mono ?_
            rintro e V1 ⟨rfl, NL, NO⟩
            replace QL := NL
            replace K19 := NO.2.1 _ _ _ (by omega) K19
            replace Q4 := NO.2.1 _ _ _ (by omega) Q4
            replace CQ := NO.2.2 _ _ hrw CQ
            clear NL NO
            dsimp only
            refine hK.out _ _ trivial (fun _ => ?_)
            clear hK K
            try simp only [Act.put, List.setIfInBounds_toArray, List.set_cons_zero, List.set_cons_succ]
            refine wpAnyH_ready (rs := [2]) (by kernel_rfl) (by simp) ?_
            refine AllReadyH.cons (o := ⟨some 98, .load 23 (.tmp 19), 23, "sign.go:164", #[], none⟩) rfl (fun K hK => ?_) AllReadyH.nil
            rw [if_pos (by rfl)]
            refine wp_load_mid _ _ rfl nb 0 rfl _ _ (rng_at K19) Tryd.underlying23 rfl hsV ?_
            try simp only [Act.put, List.setIfInBounds_toArray, List.set_cons_zero, List.set_cons_succ]
            refine hK.out _ _ trivial (fun _ => ?_)
            clear hK K
            try simp only [Act.put, List.setIfInBounds_toArray, List.set_cons_zero, List.set_cons_succ]
            rotate_left
            rw [if_pos (by rfl)]
            refine wp_load_mid _ _ rfl nb 0 rfl _ _ (rng_at K19) Tryd.underlying23 rfl hsV ?_
            try simp only [Act.put, List.setIfInBounds_toArray, List.set_cons_zero, List.set_cons_succ]
            refine hK.out _ _ trivial (fun _ => ?_)
            clear hK K
            try simp only [Act.put, List.setIfInBounds_toArray, List.set_cons_zero, List.set_cons_succ]
            refine wpAnyH_ready (rs := [1]) (by kernel_rfl) (by simp) ?_
            refine AllReadyH.cons (o := ⟨some 97, .call { callee := .value (.tmp 96), args := #[], argTypes := #[] }, 23, "sign.go:164", #[⟨0, .data⟩], none⟩) rfl (fun K hK => ?_) AllReadyH.nil
            rw [if_pos (by rfl)]
            go_simp
            refine (HNX.out V0 QL).mono ?_
            rintro e V1 ⟨rfl, NL, NO⟩
            replace QL := NL
            replace K19 := NO.2.1 _ _ _ (by omega) K19
            replace Q4 := NO.2.1 _ _ _ (by omega) Q4
            replace CQ := NO.2.2 _ _ hrw CQ
            clear NL NO
            dsimp only
            refine hK.out _ _ trivial (fun _ => ?_)
            clear hK K
            try simp only [Act.put, List.setIfInBounds_toArray, List.set_cons_zero, List.set_cons_succ]
            rotate_left
            all_goals
              refine wpAnyH_ready (rs := [3]) (by kernel_rfl) (by simp) ?_
              refine AllReadyH.cons (o := ⟨some 99, .call { callee := .value (.func 39), args := #[.tmp 97, .tmp 98], argTypes := #[23, 23] }, 23, "sign.go:164", #[⟨1, .data⟩, ⟨2, .data⟩, ⟨1, .chain⟩], none⟩) rfl (fun K hK => ?_) AllReadyH.nil
              rw [if_pos (by rfl)]
              go_simp
              refine (HJ.out V1 (hG.keep CQ)).mono ?_
              rintro e V2 ⟨rfl, hB2⟩
              replace K19 := K19.keep hB2
              replace QL := QL.keep hB2
              replace Q4 := Q4.keep hB2
              replace CQ := link CQ hB2
              clear hB2
              dsimp only
              refine hK.out _ _ trivial (fun _ => ?_)
              clear hK K
              try simp only [Act.put, List.setIfInBounds_toArray, List.set_cons_zero, List.set_cons_succ]
              have hst := K19.storeRun (vs := bytesV Z) (by rw [hvZ, hvV]) (bytesV_cells Z)
              refine wpAnyH_ready (rs := [4]) (by kernel_rfl) (by simp) ?_
              refine AllReadyH.cons (o := ⟨none, .store 23 (.tmp 19) (.tmp 99), 0, "sign.go:164", #[⟨3, .data⟩, ⟨3, .chain⟩, ⟨0, .phase⟩, ⟨1, .phase⟩, ⟨2, .phase⟩, ⟨3, .phase⟩], none⟩) rfl (fun K hK => ?_) AllReadyH.nil
              rw [if_pos (by rfl)]
              go_simp
              refine hK.out _ _ trivial (fun _ => ?_)
              clear hK K
              try simp only [Act.put, List.setIfInBounds_toArray, List.set_cons_zero, List.set_cons_succ]
              refine wpAnyH_done (by kernel_rfl) ?_ _
              have O3 := only_sets nb 0 V2 (bytesV Z)
              have N19 : Blk (V2.setCells nb 0 (bytesV Z)) nb 23 (bytesV Z) := K19.all (by rw [hvZ, hvV])
              clear hst K19
              have NL := QL.keepB (B := nb) (by omega) (O3.2.2 nb _ (Nat.le_refl _) (Below.refl _ _))
              have N4 := O3.2.1 _ _ _ (by omega) Q4
              have NQ := O3.2.2 _ _ (by omega) CQ
              generalize V2.setCells nb 0 (bytesV Z) = V3 at N19 NL N4 NQ ⊢
              rw [← HST.out] at N19
              clear O3 QL Q4 CQ
              go_wp2
              go_roundw
              case rel => exact ⟨l + 1, by omega, by go_num, N19, NL, N4, NQ⟩
              case measure => simp [intOf]; omega
          · rw [if_neg hodd] at hst
            have hbit : (bits BinOp.and IntKind.i64 ((i : Int) / 2 ^ l) 1 == 0) = true := by rw [hb, show i / 2 ^ l % 2 = 0 by omega]; rfl
            have HJ := Lib.hid (fun w0 g => join_any V F hVd hpd w0 g)
            generalize hJ : joinM V F = Z at HJ hst
            have hZd : Dgt Z := by rw [← hJ]; exact dig_ofS _ _
            have HST := Lib.hid hst
            have hvZ : (bytesV Z).length = 16 := by rw [bytesV_length]; exact hZd.1
            clear hb hodd hst hJ
            go_upto_region 24 with (fail)
            have hHeld : True := trivial
            refine wp_region_held_drew (S := fun _ => True) (by kernel_rfl) trivial (fun _ => ?_)
            replace K19 := K19.drew
            replace QL : Left wr.drew r (R.drop (16 * (68 + l))) := QL
            replace Q4 := Q4.drew
            replace CQ := below_drew CQ
            generalize wr.drew = V0 at K19 QL Q4 CQ ⊢
            refine wpAnyH_take (i := 1) (oi := ⟨some 93, .move (.tmp 14), 69, "sign.go:162", #[], none⟩) (v := .func (.func 37) #[] #[.pointer (some ⟨r, 0, none⟩)]) rfl (by kernel_rfl) (by kernel_rfl) (by kernel_rfl) (fun _ _ _ h => h) (Or.inl ⟨by rfl, fun w' hSw => by go_simp⟩) hHeld ?_
            try simp only [Act.put, List.setIfInBounds_toArray, List.set_cons_zero, List.set_cons_succ]
            refine wpAnyH_ready (rs := [0, 2]) (by kernel_rfl) (by simp) ?_
            refine AllReadyH.cons (o := ⟨some 92, .load 23 (.tmp 19), 23, "sign.go:162", #[], none⟩) rfl (fun K hK => ?_) (AllReadyH.cons (o := ⟨some 94, .call { callee := .value (.tmp 93), args := #[], argTypes := #[] }, 23, "sign.go:162", #[⟨1, .data⟩], none⟩) rfl (fun K hK => ?_) AllReadyH.nil)
            rw [if_pos (by rfl)]
            refine wp_load_mid _ _ rfl nb 0 rfl _ _ (rng_at K19) Tryd.underlying23 rfl hsV ?_
            try simp only [Act.put, List.setIfInBounds_toArray, List.set_cons_zero, List.set_cons_succ]
            refine hK.out _ _ trivial (fun _ => ?_)
            clear hK K
            try simp only [Act.put, List.setIfInBounds_toArray, List.set_cons_zero, List.set_cons_succ]
            refine wpAnyH_ready (rs := [2]) (by kernel_rfl) (by simp) ?_
            refine AllReadyH.cons (o := ⟨some 94, .call { callee := .value (.tmp 93), args := #[], argTypes := #[] }, 23, "sign.go:162", #[⟨1, .data⟩], none⟩) rfl (fun K hK => ?_) AllReadyH.nil
            rw [if_pos (by rfl)]
            go_simp
            refine (HNX.out V0 QL).mono ?_
            rintro e V1 ⟨rfl, NL, NO⟩
            replace QL := NL
            replace K19 := NO.2.1 _ _ _ (by omega) K19
            replace Q4 := NO.2.1 _ _ _ (by omega) Q4
            replace CQ := NO.2.2 _ _ hrw CQ
            clear NL NO
            dsimp only
            refine hK.out _ _ trivial (fun _ => ?_)
            clear hK K
            try simp only [Act.put, List.setIfInBounds_toArray, List.set_cons_zero, List.set_cons_succ]
            rotate_left
            rw [if_pos (by rfl)]
            go_simp
            refine (HNX.out V0 QL).mono ?_
            rintro e V1 ⟨rfl, NL, NO⟩
            replace QL := NL
            replace K19 := NO.2.1 _ _ _ (by omega) K19
            replace Q4 := NO.2.1 _ _ _ (by omega) Q4
            replace CQ := NO.2.2 _ _ hrw CQ
            clear NL NO
            dsimp only
            refine hK.out _ _ trivial (fun _ => ?_)
            clear hK K
            try simp only [Act.put, List.setIfInBounds_toArray, List.set_cons_zero, List.set_cons_succ]
            refine wpAnyH_ready (rs := [0]) (by kernel_rfl) (by simp) ?_
            refine AllReadyH.cons (o := ⟨some 92, .load 23 (.tmp 19), 23, "sign.go:162", #[], none⟩) rfl (fun K hK => ?_) AllReadyH.nil
            rw [if_pos (by rfl)]
            refine wp_load_mid _ _ rfl nb 0 rfl _ _ (rng_at K19) Tryd.underlying23 rfl hsV ?_
            try simp only [Act.put, List.setIfInBounds_toArray, List.set_cons_zero, List.set_cons_succ]
            refine hK.out _ _ trivial (fun _ => ?_)
            clear hK K
            try simp only [Act.put, List.setIfInBounds_toArray, List.set_cons_zero, List.set_cons_succ]
            rotate_left
            all_goals
              refine wpAnyH_ready (rs := [3]) (by kernel_rfl) (by simp) ?_
              refine AllReadyH.cons (o := ⟨some 95, .call { callee := .value (.func 39), args := #[.tmp 92, .tmp 94], argTypes := #[23, 23] }, 23, "sign.go:162", #[⟨0, .data⟩, ⟨2, .data⟩, ⟨2, .chain⟩], none⟩) rfl (fun K hK => ?_) AllReadyH.nil
              rw [if_pos (by rfl)]
              go_simp
              refine (HJ.out V1 (hG.keep CQ)).mono ?_
              rintro e V2 ⟨rfl, hB2⟩
              replace K19 := K19.keep hB2
              replace QL := QL.keep hB2
              replace Q4 := Q4.keep hB2
              replace CQ := link CQ hB2
              clear hB2
              dsimp only
              refine hK.out _ _ trivial (fun _ => ?_)
              clear hK K
              try simp only [Act.put, List.setIfInBounds_toArray, List.set_cons_zero, List.set_cons_succ]
              have hst := K19.storeRun (vs := bytesV Z) (by rw [hvZ, hvV]) (bytesV_cells Z)
              refine wpAnyH_ready (rs := [4]) (by kernel_rfl) (by simp) ?_
              refine AllReadyH.cons (o := ⟨none, .store 23 (.tmp 19) (.tmp 95), 0, "sign.go:162", #[⟨3, .data⟩, ⟨3, .chain⟩, ⟨0, .phase⟩, ⟨1, .phase⟩, ⟨2, .phase⟩, ⟨3, .phase⟩], none⟩) rfl (fun K hK => ?_) AllReadyH.nil
              rw [if_pos (by rfl)]
              go_simp
              refine hK.out _ _ trivial (fun _ => ?_)
              clear hK K
              try simp only [Act.put, List.setIfInBounds_toArray, List.set_cons_zero, List.set_cons_succ]
              refine wpAnyH_done (by kernel_rfl) ?_ _
              have O3 := only_sets nb 0 V2 (bytesV Z)
              have N19 : Blk (V2.setCells nb 0 (bytesV Z)) nb 23 (bytesV Z) := K19.all (by rw [hvZ, hvV])
              clear hst K19
              have NL := QL.keepB (B := nb) (by omega) (O3.2.2 nb _ (Nat.le_refl _) (Below.refl _ _))
              have N4 := O3.2.1 _ _ _ (by omega) Q4
              have NQ := O3.2.2 _ _ (by omega) CQ
              generalize V2.setCells nb 0 (bytesV Z) = V3 at N19 NL N4 NQ ⊢
              rw [← HST.out] at N19
              clear O3 QL Q4 CQ
              go_wp2
              go_roundw
              case rel => exact ⟨l + 1, by omega, by go_num, N19, NL, N4, NQ⟩
              case measure => simp [intOf]; omega
        · obtain rfl : l = h := by omega
          have hVd := verN_dgt R i D0 hLd l
          generalize verN R i D0 l = V at hVd K19 HVR
          have hvV : (bytesV V).length = 16 := by rw [bytesV_length]; exact hVd.1
          have heq := fun w0 => equal_16 w0 V P hVd hP
          by_cases hVP : V = P
          · have HC : Hid (verO P l i (sb msg) R = .tuple #[.int .i64 (i : Int), .int .i64 0]) := Lib.hid (by unfold verO; rw [HVR.out, if_pos hVP])
            rw [decide_eq_true hVP] at heq
            clear hVP QL
            go_wp2_with (first | (refine load_blk rfl 23 (.tmp 19) rfl K19 rfl Tryd.underlying23 (m := 16) (by kernel_rfl) hvV ?_) | (refine load_blk rfl 23 (.tmp 4) rfl Q4 rfl Tryd.underlying23 (m := 16) (by kernel_rfl) hvP ?_))
            go_ret2
            exact ⟨by rw [HC.out]; rfl, CQ⟩
          · have HC : Hid (verO P l i (sb msg) R = .tuple #[.int .i64 0, .int .i64 19]) := Lib.hid (by unfold verO; rw [HVR.out, if_neg hVP])
            rw [decide_eq_false hVP] at heq
            clear hVP QL
            go_wp2_with (first | (refine load_blk rfl 23 (.tmp 19) rfl K19 rfl Tryd.underlying23 (m := 16) (by kernel_rfl) hvV ?_) | (refine load_blk rfl 23 (.tmp 4) rfl Q4 rfl Tryd.underlying23 (m := 16) (by kernel_rfl) hvP ?_))
            go_ret2
            exact ⟨by rw [HC.out]; rfl, CQ⟩

theorem verify_any (P : List Nat) (hP : Dgt P) (h : Int) (msg sig : ByteArray) (hm : msg.size ≤ 1048576) (hs : sig.size ≤ 1000000) (w : World) (hG : Glob w) :
    Calls Tryd.prog 18 #[.agg (bytesV P).toArray, .int .i64 h, .string msg, .string sig] w fun e w' => e = .returned (.tuple #[.int .i64 (verM P h (sb msg) (sb sig)).1, .int .i64 ((verM P h (sb msg) (sb sig)).2 : Nat)]) ∧ Below w.heap.size w w' := by
  unfold verM
  by_cases hr : h < 0 ∨ 6 < h
  · rw [if_pos hr]
    exact verify_height P hP h msg sig hr w
  · rw [if_neg hr, if_neg (by rw [sb_length]; omega)]
    obtain ⟨n, rfl⟩ : ∃ n : Nat, h = (n : Int) := ⟨h.toNat, by omega⟩
    by_cases he : (dec (sb sig)).2.2 ≠ 0
    · rw [if_pos he]
      exact verify_dec P hP n (by omega) msg sig hm hs he w
    · rw [if_neg he]
      obtain ⟨x, u, hd⟩ : ∃ x u, dec (sb sig) = (x, u, 0) := ⟨(dec (sb sig)).1, (dec (sb sig)).2.1, by
        have : (dec (sb sig)).2.2 = 0 := by omega
        rw [← this]⟩
      rw [hd]
      simp only [Int.toNat_natCast]
      have hc : ((2 : Int) ^ n) = ((2 ^ n : Nat) : Int) := by simp
      rw [hc]
      by_cases hb : x < 0 ∨ ((2 ^ n : Nat) : Int) ≤ x ∨ ((sb sig).drop u).length ≠ (68 + n) * 16
      · rw [if_pos hb]
        exact verify_form P hP n (by omega) msg sig hm hs x u hd hb w
      · rw [if_neg hb]
        obtain ⟨i, rfl⟩ : ∃ i : Nat, x = (i : Int) := ⟨x.toNat, by omega⟩
        rw [Int.toNat_natCast]
        refine (verify_main P hP n (by omega) msg sig hm hs i u hd (by omega) (by omega) w hG).mono ?_
        rintro e w' ⟨rfl, hB⟩
        refine ⟨?_, hB⟩
        unfold verO
        by_cases hv : verR P n i (sb msg) ((sb sig).drop u) = P
        · rw [if_pos hv, if_neg (by simpa using hv)]
          rfl
        · rw [if_neg hv, if_pos hv]
          rfl

end Go.Proofs.YthffkbdecfjekaaDoor
