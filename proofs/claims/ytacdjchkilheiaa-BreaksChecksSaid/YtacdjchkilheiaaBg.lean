/-
  paragraphOf.
-/
import Derived.Test.YtacdjchkilheiaaBc
import Derived.Laws.OwnMore
namespace Go.Proofs.Ytacdjchkilheiaa
open Go.RowKit
set_option linter.unusedVariables false
set_option linter.unusedSimpArgs false

def zeroPg : List Value := [.slice none 0 0, .int .i64 0, .int .i64 0, .bool false]
/-- paragraphOf answers an error. -/
def ParBad (k : Int) (w : World) (e : Ending) (w' : World) : Prop := e = .returned (.tuple #[.agg #[.slice none 0 0, .int .i64 0, .int .i64 0, .bool false], .int .i64 k]) ∧ Below w.heap.size w w'
/-- paragraphOf answers a paragraph. -/
def ParOk (l : List Int) (n : Nat) (bl wd : Int) (w : World) (e : Ending) (w' : World) : Prop := ∃ b : Nat, e = .returned (.tuple #[pgV b n bl wd (wideT l wd), .int .i64 0]) ∧ SumsAt w' b l bl ∧ w.heap.size ≤ b ∧ Below w.heap.size w w'
theorem err_long {l : List Int} {bl wd : Int} (h : 256 < l.length) : errT l bl wd = 4 := by unfold errT; rw [if_pos h]
theorem err_arg {l : List Int} {bl wd : Int} (h : ¬ 256 < l.length) (hp : (prop bl && prop wd) = false) : errT l bl wd = 1 := by unfold errT; rw [if_neg h, hp, Bool.false_and, if_neg (by simp)]

set_option maxHeartbeats 4000000 in
set_option maxRecDepth 100000 in
theorem par_long (A : Option Addr) (l : List Int) (n c : Nat) (hl : l.length = n) (bl wd : Int) (h : 256 < n) (w : World) :
    Calls Try.prog 30 #[.slice A n c, .int .i64 bl, .int .i64 wd] w (ParBad 4 w) := by
  go_enter Try.func30, Try.ntmps30
  go_wp2_with (refine store_blk rfl 58 (.tmp 6) (.tmp 15) rfl (blk_new w 58 zeroPg.toArray) rfl rfl (vs := zeroPg) (m := 4) (by kernel_rfl) rfl rfl (by intro v hv; simp [zeroPg] at hv; rcases hv with rfl | rfl | rfl | rfl <;> rfl) ?_; intro W5 K5 O5)
  have B5 : Below w.heap.size w W5 := O5.2.2 _ _ (Nat.le_refl _) ((Below.refl _ _).alloc (Nat.le_refl _) _)
  exact bodyPost_ret (v := .tuple #[.agg zeroPg.toArray, .int .i64 4]) (results_and (by rfl) _ _ rfl rfl (K5.loadVarS Try.underlying58 (by kernel_rfl))) rfl ⟨rfl, B5⟩
theorem arg_way (bl wd : Int) (h : (prop bl && prop wd) = false) : prop bl = false ∨ (prop bl = true ∧ prop wd = false) := by
  rcases hb : prop bl with _ | _
  · exact Or.inl rfl
  · rw [hb, Bool.true_and] at h
    exact Or.inr ⟨rfl, h⟩
set_option maxHeartbeats 4000000 in
set_option maxRecDepth 100000 in
theorem par_arg (A : Option Addr) (l : List Int) (n c : Nat) (hl : l.length = n) (bl wd : Int) (h : n ≤ 256) (hp : (prop bl && prop wd) = false) (w : World) :
    Calls Try.prog 30 #[.slice A n c, .int .i64 bl, .int .i64 wd] w (ParBad 1 w) := by
  have HP := Lib.hid (fun (x : Int) (V : World) => proper_any x V)
  have hn : ¬ 256 < n := by omega
  rcases arg_way bl wd hp with h1 | ⟨h1, h2⟩
  · have HP1 := Lib.hid (fun V : World => (by have := HP.out bl V; rw [h1] at this; exact this : Calls Try.prog 40 #[.int .i64 bl] V fun e w' => e = .returned (.bool false) ∧ V = w'))
    clear h1 hp HP hl
    go_enter Try.func30, Try.ntmps30
    go_wp2_with (first
      | (go_at_call 40; refine (HP1.out _).mono ?_; rintro en w1 ⟨rfl, rfl⟩)
      | (refine store_blk rfl 58 (.tmp 6) (.tmp 26) rfl (blk_new w 58 zeroPg.toArray) rfl rfl (vs := zeroPg) (m := 4) (by kernel_rfl) rfl rfl (by intro v hv; simp [zeroPg] at hv; rcases hv with rfl | rfl | rfl | rfl <;> rfl) ?_; intro W5 K5 O5))
    have B5 : Below w.heap.size w W5 := O5.2.2 _ _ (Nat.le_refl _) ((Below.refl _ _).alloc (Nat.le_refl _) _)
    exact bodyPost_ret (v := .tuple #[.agg zeroPg.toArray, .int .i64 1]) (results_and (by rfl) _ _ rfl rfl (K5.loadVarS Try.underlying58 (by kernel_rfl))) rfl ⟨rfl, B5⟩
  · have HP1 := Lib.hid (fun V : World => (by have := HP.out bl V; rw [h1] at this; exact this : Calls Try.prog 40 #[.int .i64 bl] V fun e w' => e = .returned (.bool true) ∧ V = w'))
    have HP2 := Lib.hid (fun V : World => (by have := HP.out wd V; rw [h2] at this; exact this : Calls Try.prog 40 #[.int .i64 wd] V fun e w' => e = .returned (.bool false) ∧ V = w'))
    clear h1 h2 hp HP hl
    go_enter Try.func30, Try.ntmps30
    go_wp2_with (first
      | (go_at_call_of 40 (Value.int IntKind.i64 bl); refine (HP1.out _).mono ?_; rintro en w1 ⟨rfl, rfl⟩)
      | (go_at_call_of 40 (Value.int IntKind.i64 wd); refine (HP2.out _).mono ?_; rintro en w1 ⟨rfl, rfl⟩)
      | (refine store_blk rfl 58 (.tmp 6) (.tmp 26) rfl (blk_new w 58 zeroPg.toArray) rfl rfl (vs := zeroPg) (m := 4) (by kernel_rfl) rfl rfl (by intro v hv; simp [zeroPg] at hv; rcases hv with rfl | rfl | rfl | rfl <;> rfl) ?_; intro W5 K5 O5))
    have B5 : Below w.heap.size w W5 := O5.2.2 _ _ (Nat.le_refl _) ((Below.refl _ _).alloc (Nat.le_refl _) _)
    exact bodyPost_ret (v := .tuple #[.agg zeroPg.toArray, .int .i64 1]) (results_and (by rfl) _ _ rfl rfl (K5.loadVarS Try.underlying58 (by kernel_rfl))) rfl ⟨rfl, B5⟩

def zeros (n : Nat) : Array Value := (List.replicate n (.int .i64 0)).toArray
theorem mk_int (n : Nat) (hn : n ≤ 1000000) (w : World) : (Instr.makeSlice 22 (.int .i64 (n : Int)) (.int .i64 (n : Int))).run Try.prog w = .ok (.slice (some ⟨w.heap.size, 0, none⟩) n n) (w.alloc (.cells (zeros n) 3)) := by
  obtain ⟨i0, hi, hz0, hz1, hz2⟩ := info_parts intE.info
  have h := run_make (P := Try.prog) w 22 3 i0 (.int .i64 0) Try.underlying22 hi hz0 .i64 .i64 (n : Int) (n : Int) (by omega) (by omega) (by rw [hz2, show intE.bytes = 8 from rfl]; omega) (by omega)
  rw [hz1, Int.toNat_natCast] at h
  have e : madeCells (Value.int .i64 0).cells (n * intE.k) = zeros n := by
    rw [show intE.k = 1 from rfl, Nat.mul_one]
    apply Array.toList_inj.1
    rw [show (Value.int IntKind.i64 0).cells = #[.int .i64 0] from rfl, toList_madeCells_one]
    rfl
  rw [h, e]
theorem mk257 (w : World) : (Instr.makeSlice 22 (.int .i64 257) (.int .i64 257)).run Try.prog w = .ok (.slice (some ⟨w.heap.size, 0, none⟩) 257 257) (w.alloc (.cells (zeros 257) 3)) := mk_int 257 (by omega) w
theorem sumT_take_bound {l : List Int} {bl : Int} (hb : 0 ≤ bl) (hb2 : bl ≤ 4096) {k : Nat} (hl : ∀ x ∈ l.take k, 0 ≤ x ∧ x ≤ 4096) {n : Nat} (hk : k ≤ n) : 0 ≤ sumT l bl k ∧ sumT l bl k ≤ 8192 * (n : Int) := by
  have e : ∀ j, j ≤ k → sumT l bl j = sumT (l.take k) bl j := by
    intro j
    induction j with
    | zero => intro _; rfl
    | succ j ih =>
      intro hj
      show sumT l bl j + l.getD j 0 + bl = sumT (l.take k) bl j + (l.take k).getD j 0 + bl
      rw [ih (by omega), List.getD_eq_getElem?_getD, List.getD_eq_getElem?_getD, List.getElem?_take, if_pos (by omega)]
  rw [e k (Nat.le_refl _)]
  have := sumT_bound hb hb2 hl k
  omega
/-- What paragraphOf has done so far. -/
def ParRel (l : List Int) (bl wd : Int) (w : World) (pb rb rp m n : Nat) (v : Value) (wr : World) : Prop := ∃ k : Nat, v = .int .i64 (k : Int) ∧ k ≤ n ∧ (∀ j x, j < k → l[j]? = some x → prop x = true) ∧ ∃ cs : List Value, cs.length = 257 ∧ (∀ j, j ≤ k → cs[j]? = some (.int .i64 (sumT l bl j))) ∧ Blk wr rb 3 cs ∧ Blk wr pb 58 [.slice (some ⟨rb, 0, none⟩) m m, .int .i64 bl, .int .i64 wd, .bool ((l.take k).any fun y => decide (wd < y))] ∧ Blk wr rp 58 zeroPg ∧ Below w.heap.size w wr
set_option maxHeartbeats 4000000 in
set_option maxRecDepth 100000 in
theorem par_all (A : Option Addr) (l : List Int) (n c : Nat) (hl : l.length = n) (bl wd : Int) (h : n ≤ 256) (h1 : prop bl = true) (h2 : prop wd = true) (w : World) (hA : IntsAt w A l) :
    Calls Try.prog 30 #[.slice A n c, .int .i64 bl, .int .i64 wd] w (fun e w' => (l.all prop = true ∧ ParOk l n bl wd w e w') ∨ (l.all prop = false ∧ ParBad 1 w e w')) := by
  have HP := Lib.hid (fun (x : Int) (V : World) => proper_any x V)
  have HP1 := Lib.hid (fun V : World => (by have := HP.out bl V; rw [h1] at this; exact this : Calls Try.prog 40 #[.int .i64 bl] V fun e w' => e = .returned (.bool true) ∧ V = w'))
  have HP2 := Lib.hid (fun V : World => (by have := HP.out wd V; rw [h2] at this; exact this : Calls Try.prog 40 #[.int .i64 wd] V fun e w' => e = .returned (.bool true) ∧ V = w'))
  have hn : ¬ 256 < n := by omega
  have hn2 : (n : Int) + 1 ≤ 257 := by omega
  obtain ⟨b1, b2⟩ := prop_iff.1 h1
  obtain ⟨w1, w2⟩ := prop_iff.1 h2
  have HL := Lib.hid hl
  clear h1 h2 hl
  go_enter Try.func30, Try.ntmps30
  go_upto_region 6 with (first
    | (go_at_call_of 40 (Value.int IntKind.i64 bl); refine (HP1.out _).mono ?_; rintro en w1 ⟨rfl, rfl⟩)
    | (go_at_call_of 40 (Value.int IntKind.i64 wd); refine (HP2.out _).mono ?_; rintro en w1 ⟨rfl, rfl⟩))
  have K6 := blk_new w 58 zeroPg.toArray
  have X6 : Below w.heap.size w (w.alloc (.cells zeroPg.toArray 58)) := (Below.refl _ _).alloc (Nat.le_refl _) _
  obtain ⟨W1, hW1⟩ : ∃ W, w.alloc (.cells zeroPg.toArray 58) = W := ⟨_, rfl⟩
  rw [hW1] at K6 X6
  change Code.wp _ _ _ _ (w.alloc (.cells zeroPg.toArray 58))
  rw [hW1]
  clear hW1
  have hmk := mk257
  go_upto_region 8 with (refine store_blk rfl 58 (.tmp 9) (.tmp 29) rfl (blk_new W1 58 zeroPg.toArray) rfl rfl (vs := [.slice none 0 0, .int .i64 bl, .int .i64 wd, .bool false]) (m := 4) (by kernel_rfl) rfl rfl (by intro v hv; simp at hv; rcases hv with rfl | rfl | rfl | rfl <;> rfl) ?_; intro W5 K5 O5)
  have X7 : Below W5.heap.size W5 (W5.alloc (.cells (zeros 257) 3)) := (Below.refl _ _).alloc (Nat.le_refl _) _
  have Kr := blk_new W5 3 (zeros 257)
  have X15 : Below W1.heap.size W1 W5 := O5.2.2 _ _ (Nat.le_refl _) ((Below.refl _ _).alloc (Nat.le_refl _) _)
  have Kz := (K6.keep X15).keep X7
  have Kp := K5.keep X7
  have XW := link (link X6 X15) X7
  have hlt1 := K5.lt
  have hlt2 := K6.lt
  generalize World.alloc W5 _ = W7 at X7 Kr Kz Kp XW ⊢
  have hs1 := X6.size
  have hs2 := X15.size
  obtain ⟨rb, hrb⟩ : ∃ rb, W5.heap.size = rb := ⟨_, rfl⟩
  obtain ⟨pb, hpb⟩ : ∃ pb, W1.heap.size = pb := ⟨_, rfl⟩
  obtain ⟨rp, hrp⟩ : ∃ rp, w.heap.size = rp := ⟨_, rfl⟩
  rw [hrb] at Kr hlt1 hs2
  rw [hpb] at Kp hlt1 hlt2 hs1 hs2
  rw [hrp] at Kz hlt2 hs1
  rw [hrb, hpb, hrp]
  have hwp : w.heap.size ≤ pb := by omega
  have hwr : w.heap.size ≤ rb := by omega
  have hwrp : w.heap.size ≤ rp := by omega
  have hpr : pb ≠ rb := by omega
  have hzr : rp ≠ rb := by omega
  have hzp : rp ≠ pb := by omega
  clear K5 O5 K6 X6 X7 X15 hrb hpb hrp hs1 hs2 hlt1 hlt2 hmk
  have Kz : Blk W7 rp 58 zeroPg := Kz
  have Kp : Blk W7 pb 58 [.slice none 0 0, .int .i64 bl, .int .i64 wd, .bool false] := Kp
  have Kr : Blk W7 rb 3 (List.replicate 257 (.int .i64 0)) := Kr
  obtain ⟨m, hm⟩ : ∃ m, n + 1 = m := ⟨_, rfl⟩
  have hmi : (n : Int) + 1 = (m : Int) := by omega
  have hm9 : m ≤ 257 := by omega
  have HWM := Lib.hid (wrap_in (x := (m : Int)) (by omega) (by omega))
  have hwm := HWM.out
  have c0 := Kp.cell (j := 0) rfl
  have f0 := Kp.free 0
  go_upto_region 9 with (fail)
  clear c0 f0 hwm
  have Kp8 : Blk (W7.setCell ⟨pb, 0, none⟩ (.slice (some ⟨rb, 0, none⟩) m m)) pb 58 [.slice (some ⟨rb, 0, none⟩) m m, .int .i64 bl, .int .i64 wd, .bool false] := Kp.set 0 _
  have Kr8 := Kr.other (a := ⟨pb, 0, none⟩) (show rb ≠ pb from fun e => hpr e.symm) (.slice (some ⟨rb, 0, none⟩) m m)
  have Kz8 := Kz.other (a := ⟨pb, 0, none⟩) (show rp ≠ pb from hzp) (.slice (some ⟨rb, 0, none⟩) m m)
  have X8 : Below w.heap.size w (W7.setCell ⟨pb, 0, none⟩ (.slice (some ⟨rb, 0, none⟩) m m)) := XW.setCell hwp _
  generalize World.setCell W7 _ _ = W8 at Kp8 Kr8 Kz8 X8 ⊢
  clear Kp Kr Kz XW
  have HMN := Lib.hid hm
  clear hm
  go_wp2
  go_loopw [42] (fun v wr => ParRel l bl wd w pb rb rp m n v wr) (fun v _ => n - (intOf v).toNat)
  case atStart => exact ⟨0, rfl, Nat.zero_le _, fun j x hj => by omega, _, List.length_replicate, fun j hj => by rw [show j = 0 by omega]; rfl, Kr8, Kp8, Kz8, X8⟩
  case round =>
    clear Kp8 Kr8 Kz8 X8
    obtain ⟨k, rfl, hk, hpk, cs, hcl, hcs, hKr, hKp, hKz, hX⟩ := hrel
    have HPK := Lib.hid hpk
    clear hpk
    rcases Nat.lt_or_ge k n with hlt | hge
    · obtain ⟨x, hx⟩ : ∃ x, l[k]? = some x := ⟨_, List.getElem?_eq_getElem (by rw [HL.out]; exact hlt)⟩
      obtain ⟨ad, rfl, hadl, hc⟩ := hA (by intro e; rw [e] at hx; simp at hx)
      obtain ⟨hcx, hx1, hx2⟩ := hc k x hx
      have HX := Lib.hid (fun (w' : World) (h : Below w.heap.size w w') => ((h.cell (by rw [add_block]; exact hadl)).trans hcx : w'.cell? (ad.add k) = some (.int .i64 x)))
      have cx := HX.out wr hX
      have HXl := Lib.hid hx
      clear hc hcx hx hA
      rcases hpx : prop x with _ | _
      · have HPx := Lib.hid (fun V : World => (by have := HP.out x V; rw [hpx] at this; exact this : Calls Try.prog 40 #[.int .i64 x] V fun e w' => e = .returned (.bool false) ∧ V = w'))
        have HAll := Lib.hid (show l.all prop = false from by rw [List.all_eq_false]; exact ⟨x, List.mem_of_getElem? HXl.out, by rw [hpx]; simp⟩)
        clear hpx HP HP1 HP2
        go_wp2_with (first
          | (go_at_call 40; refine (HPx.out _).mono ?_; rintro en w3 ⟨rfl, rfl⟩)
          | (refine store_blk rfl 58 (.tmp 6) (.tmp 52) rfl hKz rfl rfl (vs := zeroPg) (m := 4) (by kernel_rfl) rfl rfl (by intro v hv; simp [zeroPg] at hv; rcases hv with rfl | rfl | rfl | rfl <;> rfl) ?_; intro W9 K9 O9))
        have B9 : Below w.heap.size w W9 := O9.2.2 _ _ hwrp hX
        exact bodyPost_ret (v := .tuple #[.agg zeroPg.toArray, .int .i64 1]) (results_and (by rfl) _ _ rfl rfl (K9.loadVarS Try.underlying58 (by kernel_rfl))) rfl (Or.inr ⟨HAll.out, rfl, B9⟩)
      · have HPx := Lib.hid (fun V : World => (by have := HP.out x V; rw [hpx] at this; exact this : Calls Try.prog 40 #[.int .i64 x] V fun e w' => e = .returned (.bool true) ∧ V = w'))
        obtain ⟨px1, px2⟩ := prop_iff.1 hpx
        have hHall : ∀ y ∈ l.take k, 0 ≤ y ∧ y ≤ 4096 := fun y hy => by
          obtain ⟨j, hj⟩ := List.getElem?_of_mem hy
          rw [List.getElem?_take] at hj
          split at hj
          · rename_i hjk
            exact prop_iff.1 (HPK.out j y hjk hj)
          · cases hj
        obtain ⟨k1, hk1⟩ : ∃ k1, k + 1 = k1 := ⟨_, rfl⟩
        have hsb := sumT_take_bound b1 b2 hHall hk
        have hsk := hcs k (Nat.le_refl _)
        have HNext := Lib.hid (fun (z' : Bool) (cs' : List Value) (V : World) (hz : ((l.take k).any (fun y => decide (wd < y)) || decide (wd < x)) = z') (hl : cs'.length = 257) (hc : ∀ j, j ≤ k1 → cs'[j]? = some (.int .i64 (sumT l bl j))) (h1 : Blk V rb 3 cs') (h2 : Blk V pb 58 [.slice (some ⟨rb, 0, none⟩) m m, .int .i64 bl, .int .i64 wd, .bool z']) (h3 : Blk V rp 58 zeroPg) (h4 : Below w.heap.size w V) => (show ParRel l bl wd w pb rb rp m n (.int .i64 ((k : Int) + 1)) V from ⟨k1, by rw [← hk1]; go_num, by omega, fun j y hj hy => by (rcases Nat.lt_or_ge j k with g | g; exact HPK.out j y g hy; rw [show j = k by omega, HXl.out] at hy; injection hy with hy; rw [← hy]; exact hpx), cs', hl, hc, h1, by rw [← hk1, List.take_add_one, HXl.out, Option.toList_some, List.any_append]; simp only [List.any_cons, List.any_nil, Bool.or_false]; rw [hz]; exact h2, h3, h4⟩))
        have HK1s := Lib.hid (show sumT l bl k1 = sumT l bl k + x + bl from by rw [← hk1]; show sumT l bl k + l.getD k 0 + bl = _; rw [List.getD_eq_getElem?_getD, HXl.out]; rfl)
        generalize sumT l bl k = sk at hsb hsk HK1s
        have HW1 := Lib.hid (wrap_in (x := sk + x) (by omega) (by omega))
        have HW2 := Lib.hid (wrap_in (x := sk + x + bl) (by omega) (by omega))
        have HK1 := Lib.hid (show (k : Int) + 1 = (k1 : Int) from by omega)
        have HWK := Lib.hid (wrap_in (x := (k1 : Int)) (by omega) (by omega))
        have hmn := HMN.out
        have hk1m : k1 < m := by omega
        have hkm : k < m := by omega
        have c3 := hKp.cell (j := 3) rfl
        have f3 := hKp.free 3
        clear hpx hHall hmn HP HP1 HP2 hsb
        rcases hz : (l.take k).any (fun y => decide (wd < y)) with _ | _
        · rw [hz] at c3 hKp HNext
          clear hz
          by_cases hwx : wd < x
          · rw [decide_eq_true hwx] at HNext
            go_upto_region 15 with (go_at_call 40; refine (HPx.out _).mono ?_; rintro en w3 ⟨rfl, rfl⟩)
            have hKp2 := hKp.set 3 (.bool true)
            have hKr2 := hKr.other (a := ⟨pb, 3, none⟩) (show rb ≠ pb from fun e => hpr e.symm) (.bool true)
            have hKz2 := hKz.other (a := ⟨pb, 3, none⟩) (show rp ≠ pb from hzp) (.bool true)
            have hX2 : Below w.heap.size w (wr.setCell ⟨pb, 3, none⟩ (.bool true)) := hX.setCell hwp _
            replace hKp2 : Blk _ pb 58 [.slice (some ⟨rb, 0, none⟩) m m, .int .i64 bl, .int .i64 wd, .bool true] := hKp2
            generalize World.setCell _ ⟨pb, 3, none⟩ (.bool true) = V2 at hKp2 hKr2 hKz2 hX2 ⊢
            refine wp_region_held_drew (S := fun w' => Blk w' pb 58 [.slice (some ⟨rb, 0, none⟩) m m, .int .i64 bl, .int .i64 wd, .bool true] ∧ w'.cell? ⟨rb, k, none⟩ = some (.int .i64 sk) ∧ Below w.heap.size w w') (by kernel_rfl) (⟨hKp2.drew, hKr2.cell hsk, below_drew hX2⟩) (fun _ => ?_)
            have hHeld : Blk V2.drew pb 58 [.slice (some ⟨rb, 0, none⟩) m m, .int .i64 bl, .int .i64 wd, .bool true] ∧ V2.drew.cell? ⟨rb, k, none⟩ = some (.int .i64 sk) ∧ Below w.heap.size w V2.drew := ⟨hKp2.drew, hKr2.cell hsk, below_drew hX2⟩
            replace hKr2 : Blk V2.drew rb 3 cs := hKr2
            replace hKz2 : Blk V2.drew rp 58 zeroPg := hKz2
            generalize V2.drew = V0 at hHeld hKr2 hKz2 ⊢
            refine wt (i := 0) (oi := ⟨some 64, .fieldAddr 58 (.tmp 9) 0, 0, "breaks.go:61", #[], none⟩) (v := .pointer (some ⟨pb, 0, none⟩)) (Or.inl ⟨by rfl, fun w' hSw => by go_simp⟩) hHeld ?_
            try simp only [zP, zQ, zS, zZ, zC]
            refine wt (i := 1) (oi := ⟨some 65, .load 22 (.tmp 64), 22, "breaks.go:61", #[⟨0, .data⟩], none⟩) (v := .slice (some ⟨rb, 0, none⟩) m m) (Or.inl ⟨by rfl, fun w' hSw => by have hc := hSw.1.cell (j := 0) rfl; go_simp⟩) hHeld ?_
            try simp only [zP, zQ, zS, zZ, zC]
            refine wt (i := 2) (oi := ⟨some 66, .move (.tmp 11), 3, "breaks.go:61", #[], none⟩) (v := .int .i64 (k : Int)) (Or.inl ⟨by rfl, fun w' hSw => by go_simp⟩) hHeld ?_
            try simp only [zP, zQ, zS, zZ, zC]
            refine wt (i := 3) (oi := ⟨some 67, .binOp .add 3 (.tmp 66) (.const (Value.int IntKind.i64 1)) 3, 3, "breaks.go:61", #[⟨2, .data⟩], none⟩) (v := .int .i64 (k1 : Int)) (Or.inl ⟨by rfl, fun w' hSw => by have hw := HK1.out; have hw2 := HWK.out; go_simp⟩) hHeld ?_
            try simp only [zP, zQ, zS, zZ, zC]
            refine wt (i := 4) (oi := ⟨some 68, .fieldAddr 58 (.tmp 9) 0, 0, "breaks.go:61", #[], none⟩) (v := .pointer (some ⟨pb, 0, none⟩)) (Or.inl ⟨by rfl, fun w' hSw => by go_simp⟩) hHeld ?_
            try simp only [zP, zQ, zS, zZ, zC]
            refine wt (i := 5) (oi := ⟨some 69, .load 22 (.tmp 68), 22, "breaks.go:61", #[⟨4, .data⟩], none⟩) (v := .slice (some ⟨rb, 0, none⟩) m m) (Or.inl ⟨by rfl, fun w' hSw => by have hc := hSw.1.cell (j := 0) rfl; go_simp⟩) hHeld ?_
            try simp only [zP, zQ, zS, zZ, zC]
            refine wt (i := 6) (oi := ⟨some 70, .move (.tmp 11), 3, "breaks.go:61", #[], none⟩) (v := .int .i64 (k : Int)) (Or.inl ⟨by rfl, fun w' hSw => by go_simp⟩) hHeld ?_
            try simp only [zP, zQ, zS, zZ, zC]
            refine wt (i := 7) (oi := ⟨some 71, .indexAddr 22 (.tmp 69) (.tmp 70), 0, "breaks.go:61", #[⟨5, .data⟩, ⟨6, .data⟩], none⟩) (v := .pointer (some ⟨rb, k, none⟩)) (Or.inl ⟨by rfl, fun w' hSw => by go_simp; try (intro hcm; exact absurd hcm (by omega))⟩) hHeld ?_
            try simp only [zP, zQ, zS, zZ, zC]
            refine wt (i := 8) (oi := ⟨some 72, .load 3 (.tmp 71), 3, "breaks.go:61", #[⟨7, .data⟩], none⟩) (v := .int .i64 sk) (Or.inl ⟨by rfl, fun w' hSw => by have hc := hSw.2.1; go_simp⟩) hHeld ?_
            try simp only [zP, zQ, zS, zZ, zC]
            refine wt (i := 9) (oi := ⟨some 73, .move (.tmp 0), 22, "breaks.go:61", #[], none⟩) (v := .slice (some ad) n c) (Or.inl ⟨by rfl, fun w' hSw => by go_simp⟩) hHeld ?_
            try simp only [zP, zQ, zS, zZ, zC]
            refine wt (i := 10) (oi := ⟨some 74, .move (.tmp 11), 3, "breaks.go:61", #[], none⟩) (v := .int .i64 (k : Int)) (Or.inl ⟨by rfl, fun w' hSw => by go_simp⟩) hHeld ?_
            try simp only [zP, zQ, zS, zZ, zC]
            refine wt (i := 11) (oi := ⟨some 75, .indexAddr 22 (.tmp 73) (.tmp 74), 0, "breaks.go:61", #[⟨9, .data⟩, ⟨10, .data⟩], none⟩) (v := .pointer (some (ad.add k))) (Or.inl ⟨by rfl, fun w' hSw => by go_simp; try (intro hcm; exact absurd hcm (by omega))⟩) hHeld ?_
            try simp only [zP, zQ, zS, zZ, zC]
            refine wt (i := 12) (oi := ⟨some 76, .load 3 (.tmp 75), 3, "breaks.go:61", #[⟨11, .data⟩], none⟩) (v := .int .i64 x) (Or.inl ⟨by rfl, fun w' hSw => by have hc := HX.out w' hSw.2.2; go_simp⟩) hHeld ?_
            try simp only [zP, zQ, zS, zZ, zC]
            refine wt (i := 13) (oi := ⟨some 77, .binOp .add 3 (.tmp 72) (.tmp 76) 3, 3, "breaks.go:61", #[⟨8, .data⟩, ⟨12, .data⟩], none⟩) (v := .int .i64 (sk + x)) (Or.inl ⟨by rfl, fun w' hSw => by have hw := HW1.out; go_simp⟩) hHeld ?_
            try simp only [zP, zQ, zS, zZ, zC]
            refine wt (i := 14) (oi := ⟨some 78, .move (.tmp 1), 3, "breaks.go:61", #[], none⟩) (v := .int .i64 bl) (Or.inl ⟨by rfl, fun w' hSw => by go_simp⟩) hHeld ?_
            try simp only [zP, zQ, zS, zZ, zC]
            refine wt (i := 15) (oi := ⟨some 79, .binOp .add 3 (.tmp 77) (.tmp 78) 3, 3, "breaks.go:61", #[⟨13, .data⟩, ⟨14, .data⟩], none⟩) (v := .int .i64 (sk + x + bl)) (Or.inl ⟨by rfl, fun w' hSw => by have hw := HW2.out; go_simp⟩) hHeld ?_
            try simp only [zP, zQ, zS, zZ, zC]
            refine wt (i := 16) (oi := ⟨some 80, .indexAddr 22 (.tmp 65) (.tmp 67), 0, "breaks.go:61", #[⟨1, .data⟩, ⟨3, .data⟩, ⟨0, .phase⟩, ⟨1, .phase⟩, ⟨2, .phase⟩, ⟨3, .phase⟩, ⟨4, .phase⟩, ⟨5, .phase⟩, ⟨6, .phase⟩, ⟨7, .phase⟩, ⟨8, .phase⟩, ⟨9, .phase⟩, ⟨10, .phase⟩, ⟨11, .phase⟩, ⟨12, .phase⟩, ⟨13, .phase⟩, ⟨14, .phase⟩, ⟨15, .phase⟩], none⟩) (v := .pointer (some ⟨rb, k1, none⟩)) (Or.inl ⟨by rfl, fun w' hSw => by go_simp; try (intro hcm; exact absurd hcm (by omega))⟩) hHeld ?_
            try simp only [zP, zQ, zS, zZ, zC]
            obtain ⟨yv, hyv⟩ : ∃ yv, cs[k1]? = some yv := ⟨_, List.getElem?_eq_getElem (by omega)⟩
            have hcq := hKr2.cell hyv
            have hfq := hKr2.free k1
            refine wpAnyH_ready (rs := [17]) (by kernel_rfl) (by simp) ?_
            refine AllReadyH.cons (o := ⟨none, .store 3 (.tmp 80) (.tmp 79), 0, "breaks.go:61", #[⟨16, .data⟩, ⟨15, .data⟩, ⟨0, .phase⟩, ⟨1, .phase⟩, ⟨2, .phase⟩, ⟨3, .phase⟩, ⟨4, .phase⟩, ⟨5, .phase⟩, ⟨6, .phase⟩, ⟨7, .phase⟩, ⟨8, .phase⟩, ⟨9, .phase⟩, ⟨10, .phase⟩, ⟨11, .phase⟩, ⟨12, .phase⟩, ⟨13, .phase⟩, ⟨14, .phase⟩, ⟨15, .phase⟩], none⟩) rfl (fun K hK => ?_) AllReadyH.nil
            go_simp
            have hKr3 := hKr2.set k1 (.int .i64 (sk + x + bl))
            have hKz3 := hKz2.other (a := ⟨rb, k1, none⟩) hzr (.int .i64 (sk + x + bl))
            refine hK.out _ _ (⟨hHeld.1.other (a := ⟨rb, k1, none⟩) hpr _, hKr3.cell (by rw [List.getElem?_set_ne (by omega)]; exact hsk), hHeld.2.2.setCell hwr _⟩) (fun hHeld => ?_)
            clear hK K
            try simp only [zP, zQ, zS, zZ, zC]
            refine wpAnyH_done (by kernel_rfl) ?_ _
            have hS3 := hHeld
            clear hHeld 
            obtain ⟨hKp3, _, hX3⟩ := hS3
            generalize World.setCell V0 ⟨rb, k1, none⟩ _ = V5 at hKr3 hKz3 hKp3 hX3 ⊢
            clear c3 f3
            go_wp2
            exact ⟨HNext.out true (cs.set k1 _) V5 (by rfl) (by rw [List.length_set]; exact hcl) (fun j hj => by by_cases e : k1 = j; (rw [← e, List.getElem?_set_self (by omega), HK1s.out]); (rw [List.getElem?_set_ne e]; exact hcs j (by omega))) hKr3 hKp3 hKz3 hX3, by simp [intOf]; omega⟩
          · rw [decide_eq_false hwx] at HNext
            have hdx : decide (wd < x) = false := decide_eq_false hwx
            go_upto_region 15 with (go_at_call 40; refine (HPx.out _).mono ?_; rintro en w3 ⟨rfl, rfl⟩)
            have hKp2 := hKp.set 3 (.bool false)
            have hKr2 := hKr.other (a := ⟨pb, 3, none⟩) (show rb ≠ pb from fun e => hpr e.symm) (.bool false)
            have hKz2 := hKz.other (a := ⟨pb, 3, none⟩) (show rp ≠ pb from hzp) (.bool false)
            have hX2 : Below w.heap.size w (wr.setCell ⟨pb, 3, none⟩ (.bool false)) := hX.setCell hwp _
            replace hKp2 : Blk _ pb 58 [.slice (some ⟨rb, 0, none⟩) m m, .int .i64 bl, .int .i64 wd, .bool false] := hKp2
            generalize World.setCell _ ⟨pb, 3, none⟩ (.bool false) = V2 at hKp2 hKr2 hKz2 hX2 ⊢
            refine wp_region_held_drew (S := fun w' => Blk w' pb 58 [.slice (some ⟨rb, 0, none⟩) m m, .int .i64 bl, .int .i64 wd, .bool false] ∧ w'.cell? ⟨rb, k, none⟩ = some (.int .i64 sk) ∧ Below w.heap.size w w') (by kernel_rfl) (⟨hKp2.drew, hKr2.cell hsk, below_drew hX2⟩) (fun _ => ?_)
            have hHeld : Blk V2.drew pb 58 [.slice (some ⟨rb, 0, none⟩) m m, .int .i64 bl, .int .i64 wd, .bool false] ∧ V2.drew.cell? ⟨rb, k, none⟩ = some (.int .i64 sk) ∧ Below w.heap.size w V2.drew := ⟨hKp2.drew, hKr2.cell hsk, below_drew hX2⟩
            replace hKr2 : Blk V2.drew rb 3 cs := hKr2
            replace hKz2 : Blk V2.drew rp 58 zeroPg := hKz2
            generalize V2.drew = V0 at hHeld hKr2 hKz2 ⊢
            refine wt (i := 0) (oi := ⟨some 64, .fieldAddr 58 (.tmp 9) 0, 0, "breaks.go:61", #[], none⟩) (v := .pointer (some ⟨pb, 0, none⟩)) (Or.inl ⟨by rfl, fun w' hSw => by go_simp⟩) hHeld ?_
            try simp only [zP, zQ, zS, zZ, zC]
            refine wt (i := 1) (oi := ⟨some 65, .load 22 (.tmp 64), 22, "breaks.go:61", #[⟨0, .data⟩], none⟩) (v := .slice (some ⟨rb, 0, none⟩) m m) (Or.inl ⟨by rfl, fun w' hSw => by have hc := hSw.1.cell (j := 0) rfl; go_simp⟩) hHeld ?_
            try simp only [zP, zQ, zS, zZ, zC]
            refine wt (i := 2) (oi := ⟨some 66, .move (.tmp 11), 3, "breaks.go:61", #[], none⟩) (v := .int .i64 (k : Int)) (Or.inl ⟨by rfl, fun w' hSw => by go_simp⟩) hHeld ?_
            try simp only [zP, zQ, zS, zZ, zC]
            refine wt (i := 3) (oi := ⟨some 67, .binOp .add 3 (.tmp 66) (.const (Value.int IntKind.i64 1)) 3, 3, "breaks.go:61", #[⟨2, .data⟩], none⟩) (v := .int .i64 (k1 : Int)) (Or.inl ⟨by rfl, fun w' hSw => by have hw := HK1.out; have hw2 := HWK.out; go_simp⟩) hHeld ?_
            try simp only [zP, zQ, zS, zZ, zC]
            refine wt (i := 4) (oi := ⟨some 68, .fieldAddr 58 (.tmp 9) 0, 0, "breaks.go:61", #[], none⟩) (v := .pointer (some ⟨pb, 0, none⟩)) (Or.inl ⟨by rfl, fun w' hSw => by go_simp⟩) hHeld ?_
            try simp only [zP, zQ, zS, zZ, zC]
            refine wt (i := 5) (oi := ⟨some 69, .load 22 (.tmp 68), 22, "breaks.go:61", #[⟨4, .data⟩], none⟩) (v := .slice (some ⟨rb, 0, none⟩) m m) (Or.inl ⟨by rfl, fun w' hSw => by have hc := hSw.1.cell (j := 0) rfl; go_simp⟩) hHeld ?_
            try simp only [zP, zQ, zS, zZ, zC]
            refine wt (i := 6) (oi := ⟨some 70, .move (.tmp 11), 3, "breaks.go:61", #[], none⟩) (v := .int .i64 (k : Int)) (Or.inl ⟨by rfl, fun w' hSw => by go_simp⟩) hHeld ?_
            try simp only [zP, zQ, zS, zZ, zC]
            refine wt (i := 7) (oi := ⟨some 71, .indexAddr 22 (.tmp 69) (.tmp 70), 0, "breaks.go:61", #[⟨5, .data⟩, ⟨6, .data⟩], none⟩) (v := .pointer (some ⟨rb, k, none⟩)) (Or.inl ⟨by rfl, fun w' hSw => by go_simp; try (intro hcm; exact absurd hcm (by omega))⟩) hHeld ?_
            try simp only [zP, zQ, zS, zZ, zC]
            refine wt (i := 8) (oi := ⟨some 72, .load 3 (.tmp 71), 3, "breaks.go:61", #[⟨7, .data⟩], none⟩) (v := .int .i64 sk) (Or.inl ⟨by rfl, fun w' hSw => by have hc := hSw.2.1; go_simp⟩) hHeld ?_
            try simp only [zP, zQ, zS, zZ, zC]
            refine wt (i := 9) (oi := ⟨some 73, .move (.tmp 0), 22, "breaks.go:61", #[], none⟩) (v := .slice (some ad) n c) (Or.inl ⟨by rfl, fun w' hSw => by go_simp⟩) hHeld ?_
            try simp only [zP, zQ, zS, zZ, zC]
            refine wt (i := 10) (oi := ⟨some 74, .move (.tmp 11), 3, "breaks.go:61", #[], none⟩) (v := .int .i64 (k : Int)) (Or.inl ⟨by rfl, fun w' hSw => by go_simp⟩) hHeld ?_
            try simp only [zP, zQ, zS, zZ, zC]
            refine wt (i := 11) (oi := ⟨some 75, .indexAddr 22 (.tmp 73) (.tmp 74), 0, "breaks.go:61", #[⟨9, .data⟩, ⟨10, .data⟩], none⟩) (v := .pointer (some (ad.add k))) (Or.inl ⟨by rfl, fun w' hSw => by go_simp; try (intro hcm; exact absurd hcm (by omega))⟩) hHeld ?_
            try simp only [zP, zQ, zS, zZ, zC]
            refine wt (i := 12) (oi := ⟨some 76, .load 3 (.tmp 75), 3, "breaks.go:61", #[⟨11, .data⟩], none⟩) (v := .int .i64 x) (Or.inl ⟨by rfl, fun w' hSw => by have hc := HX.out w' hSw.2.2; go_simp⟩) hHeld ?_
            try simp only [zP, zQ, zS, zZ, zC]
            refine wt (i := 13) (oi := ⟨some 77, .binOp .add 3 (.tmp 72) (.tmp 76) 3, 3, "breaks.go:61", #[⟨8, .data⟩, ⟨12, .data⟩], none⟩) (v := .int .i64 (sk + x)) (Or.inl ⟨by rfl, fun w' hSw => by have hw := HW1.out; go_simp⟩) hHeld ?_
            try simp only [zP, zQ, zS, zZ, zC]
            refine wt (i := 14) (oi := ⟨some 78, .move (.tmp 1), 3, "breaks.go:61", #[], none⟩) (v := .int .i64 bl) (Or.inl ⟨by rfl, fun w' hSw => by go_simp⟩) hHeld ?_
            try simp only [zP, zQ, zS, zZ, zC]
            refine wt (i := 15) (oi := ⟨some 79, .binOp .add 3 (.tmp 77) (.tmp 78) 3, 3, "breaks.go:61", #[⟨13, .data⟩, ⟨14, .data⟩], none⟩) (v := .int .i64 (sk + x + bl)) (Or.inl ⟨by rfl, fun w' hSw => by have hw := HW2.out; go_simp⟩) hHeld ?_
            try simp only [zP, zQ, zS, zZ, zC]
            refine wt (i := 16) (oi := ⟨some 80, .indexAddr 22 (.tmp 65) (.tmp 67), 0, "breaks.go:61", #[⟨1, .data⟩, ⟨3, .data⟩, ⟨0, .phase⟩, ⟨1, .phase⟩, ⟨2, .phase⟩, ⟨3, .phase⟩, ⟨4, .phase⟩, ⟨5, .phase⟩, ⟨6, .phase⟩, ⟨7, .phase⟩, ⟨8, .phase⟩, ⟨9, .phase⟩, ⟨10, .phase⟩, ⟨11, .phase⟩, ⟨12, .phase⟩, ⟨13, .phase⟩, ⟨14, .phase⟩, ⟨15, .phase⟩], none⟩) (v := .pointer (some ⟨rb, k1, none⟩)) (Or.inl ⟨by rfl, fun w' hSw => by go_simp; try (intro hcm; exact absurd hcm (by omega))⟩) hHeld ?_
            try simp only [zP, zQ, zS, zZ, zC]
            obtain ⟨yv, hyv⟩ : ∃ yv, cs[k1]? = some yv := ⟨_, List.getElem?_eq_getElem (by omega)⟩
            have hcq := hKr2.cell hyv
            have hfq := hKr2.free k1
            refine wpAnyH_ready (rs := [17]) (by kernel_rfl) (by simp) ?_
            refine AllReadyH.cons (o := ⟨none, .store 3 (.tmp 80) (.tmp 79), 0, "breaks.go:61", #[⟨16, .data⟩, ⟨15, .data⟩, ⟨0, .phase⟩, ⟨1, .phase⟩, ⟨2, .phase⟩, ⟨3, .phase⟩, ⟨4, .phase⟩, ⟨5, .phase⟩, ⟨6, .phase⟩, ⟨7, .phase⟩, ⟨8, .phase⟩, ⟨9, .phase⟩, ⟨10, .phase⟩, ⟨11, .phase⟩, ⟨12, .phase⟩, ⟨13, .phase⟩, ⟨14, .phase⟩, ⟨15, .phase⟩], none⟩) rfl (fun K hK => ?_) AllReadyH.nil
            go_simp
            have hKr3 := hKr2.set k1 (.int .i64 (sk + x + bl))
            have hKz3 := hKz2.other (a := ⟨rb, k1, none⟩) hzr (.int .i64 (sk + x + bl))
            refine hK.out _ _ (⟨hHeld.1.other (a := ⟨rb, k1, none⟩) hpr _, hKr3.cell (by rw [List.getElem?_set_ne (by omega)]; exact hsk), hHeld.2.2.setCell hwr _⟩) (fun hHeld => ?_)
            clear hK K
            try simp only [zP, zQ, zS, zZ, zC]
            refine wpAnyH_done (by kernel_rfl) ?_ _
            have hS3 := hHeld
            clear hHeld 
            obtain ⟨hKp3, _, hX3⟩ := hS3
            generalize World.setCell V0 ⟨rb, k1, none⟩ _ = V5 at hKr3 hKz3 hKp3 hX3 ⊢
            clear c3 f3
            go_wp2
            exact ⟨HNext.out false (cs.set k1 _) V5 (by rfl) (by rw [List.length_set]; exact hcl) (fun j hj => by by_cases e : k1 = j; (rw [← e, List.getElem?_set_self (by omega), HK1s.out]); (rw [List.getElem?_set_ne e]; exact hcs j (by omega))) hKr3 hKp3 hKz3 hX3, by simp [intOf]; omega⟩
        · rw [hz] at c3 hKp HNext
          clear hz
          go_upto_region 15 with (go_at_call 40; refine (HPx.out _).mono ?_; rintro en w3 ⟨rfl, rfl⟩)
          have hKp2 := hKp.set 3 (.bool true)
          have hKr2 := hKr.other (a := ⟨pb, 3, none⟩) (show rb ≠ pb from fun e => hpr e.symm) (.bool true)
          have hKz2 := hKz.other (a := ⟨pb, 3, none⟩) (show rp ≠ pb from hzp) (.bool true)
          have hX2 : Below w.heap.size w (wr.setCell ⟨pb, 3, none⟩ (.bool true)) := hX.setCell hwp _
          replace hKp2 : Blk _ pb 58 [.slice (some ⟨rb, 0, none⟩) m m, .int .i64 bl, .int .i64 wd, .bool true] := hKp2
          generalize World.setCell _ ⟨pb, 3, none⟩ (.bool true) = V2 at hKp2 hKr2 hKz2 hX2 ⊢
          refine wp_region_held_drew (S := fun w' => Blk w' pb 58 [.slice (some ⟨rb, 0, none⟩) m m, .int .i64 bl, .int .i64 wd, .bool true] ∧ w'.cell? ⟨rb, k, none⟩ = some (.int .i64 sk) ∧ Below w.heap.size w w') (by kernel_rfl) (⟨hKp2.drew, hKr2.cell hsk, below_drew hX2⟩) (fun _ => ?_)
          have hHeld : Blk V2.drew pb 58 [.slice (some ⟨rb, 0, none⟩) m m, .int .i64 bl, .int .i64 wd, .bool true] ∧ V2.drew.cell? ⟨rb, k, none⟩ = some (.int .i64 sk) ∧ Below w.heap.size w V2.drew := ⟨hKp2.drew, hKr2.cell hsk, below_drew hX2⟩
          replace hKr2 : Blk V2.drew rb 3 cs := hKr2
          replace hKz2 : Blk V2.drew rp 58 zeroPg := hKz2
          generalize V2.drew = V0 at hHeld hKr2 hKz2 ⊢
          refine wt (i := 0) (oi := ⟨some 64, .fieldAddr 58 (.tmp 9) 0, 0, "breaks.go:61", #[], none⟩) (v := .pointer (some ⟨pb, 0, none⟩)) (Or.inl ⟨by rfl, fun w' hSw => by go_simp⟩) hHeld ?_
          try simp only [zP, zQ, zS, zZ, zC]
          refine wt (i := 1) (oi := ⟨some 65, .load 22 (.tmp 64), 22, "breaks.go:61", #[⟨0, .data⟩], none⟩) (v := .slice (some ⟨rb, 0, none⟩) m m) (Or.inl ⟨by rfl, fun w' hSw => by have hc := hSw.1.cell (j := 0) rfl; go_simp⟩) hHeld ?_
          try simp only [zP, zQ, zS, zZ, zC]
          refine wt (i := 2) (oi := ⟨some 66, .move (.tmp 11), 3, "breaks.go:61", #[], none⟩) (v := .int .i64 (k : Int)) (Or.inl ⟨by rfl, fun w' hSw => by go_simp⟩) hHeld ?_
          try simp only [zP, zQ, zS, zZ, zC]
          refine wt (i := 3) (oi := ⟨some 67, .binOp .add 3 (.tmp 66) (.const (Value.int IntKind.i64 1)) 3, 3, "breaks.go:61", #[⟨2, .data⟩], none⟩) (v := .int .i64 (k1 : Int)) (Or.inl ⟨by rfl, fun w' hSw => by have hw := HK1.out; have hw2 := HWK.out; go_simp⟩) hHeld ?_
          try simp only [zP, zQ, zS, zZ, zC]
          refine wt (i := 4) (oi := ⟨some 68, .fieldAddr 58 (.tmp 9) 0, 0, "breaks.go:61", #[], none⟩) (v := .pointer (some ⟨pb, 0, none⟩)) (Or.inl ⟨by rfl, fun w' hSw => by go_simp⟩) hHeld ?_
          try simp only [zP, zQ, zS, zZ, zC]
          refine wt (i := 5) (oi := ⟨some 69, .load 22 (.tmp 68), 22, "breaks.go:61", #[⟨4, .data⟩], none⟩) (v := .slice (some ⟨rb, 0, none⟩) m m) (Or.inl ⟨by rfl, fun w' hSw => by have hc := hSw.1.cell (j := 0) rfl; go_simp⟩) hHeld ?_
          try simp only [zP, zQ, zS, zZ, zC]
          refine wt (i := 6) (oi := ⟨some 70, .move (.tmp 11), 3, "breaks.go:61", #[], none⟩) (v := .int .i64 (k : Int)) (Or.inl ⟨by rfl, fun w' hSw => by go_simp⟩) hHeld ?_
          try simp only [zP, zQ, zS, zZ, zC]
          refine wt (i := 7) (oi := ⟨some 71, .indexAddr 22 (.tmp 69) (.tmp 70), 0, "breaks.go:61", #[⟨5, .data⟩, ⟨6, .data⟩], none⟩) (v := .pointer (some ⟨rb, k, none⟩)) (Or.inl ⟨by rfl, fun w' hSw => by go_simp; try (intro hcm; exact absurd hcm (by omega))⟩) hHeld ?_
          try simp only [zP, zQ, zS, zZ, zC]
          refine wt (i := 8) (oi := ⟨some 72, .load 3 (.tmp 71), 3, "breaks.go:61", #[⟨7, .data⟩], none⟩) (v := .int .i64 sk) (Or.inl ⟨by rfl, fun w' hSw => by have hc := hSw.2.1; go_simp⟩) hHeld ?_
          try simp only [zP, zQ, zS, zZ, zC]
          refine wt (i := 9) (oi := ⟨some 73, .move (.tmp 0), 22, "breaks.go:61", #[], none⟩) (v := .slice (some ad) n c) (Or.inl ⟨by rfl, fun w' hSw => by go_simp⟩) hHeld ?_
          try simp only [zP, zQ, zS, zZ, zC]
          refine wt (i := 10) (oi := ⟨some 74, .move (.tmp 11), 3, "breaks.go:61", #[], none⟩) (v := .int .i64 (k : Int)) (Or.inl ⟨by rfl, fun w' hSw => by go_simp⟩) hHeld ?_
          try simp only [zP, zQ, zS, zZ, zC]
          refine wt (i := 11) (oi := ⟨some 75, .indexAddr 22 (.tmp 73) (.tmp 74), 0, "breaks.go:61", #[⟨9, .data⟩, ⟨10, .data⟩], none⟩) (v := .pointer (some (ad.add k))) (Or.inl ⟨by rfl, fun w' hSw => by go_simp; try (intro hcm; exact absurd hcm (by omega))⟩) hHeld ?_
          try simp only [zP, zQ, zS, zZ, zC]
          refine wt (i := 12) (oi := ⟨some 76, .load 3 (.tmp 75), 3, "breaks.go:61", #[⟨11, .data⟩], none⟩) (v := .int .i64 x) (Or.inl ⟨by rfl, fun w' hSw => by have hc := HX.out w' hSw.2.2; go_simp⟩) hHeld ?_
          try simp only [zP, zQ, zS, zZ, zC]
          refine wt (i := 13) (oi := ⟨some 77, .binOp .add 3 (.tmp 72) (.tmp 76) 3, 3, "breaks.go:61", #[⟨8, .data⟩, ⟨12, .data⟩], none⟩) (v := .int .i64 (sk + x)) (Or.inl ⟨by rfl, fun w' hSw => by have hw := HW1.out; go_simp⟩) hHeld ?_
          try simp only [zP, zQ, zS, zZ, zC]
          refine wt (i := 14) (oi := ⟨some 78, .move (.tmp 1), 3, "breaks.go:61", #[], none⟩) (v := .int .i64 bl) (Or.inl ⟨by rfl, fun w' hSw => by go_simp⟩) hHeld ?_
          try simp only [zP, zQ, zS, zZ, zC]
          refine wt (i := 15) (oi := ⟨some 79, .binOp .add 3 (.tmp 77) (.tmp 78) 3, 3, "breaks.go:61", #[⟨13, .data⟩, ⟨14, .data⟩], none⟩) (v := .int .i64 (sk + x + bl)) (Or.inl ⟨by rfl, fun w' hSw => by have hw := HW2.out; go_simp⟩) hHeld ?_
          try simp only [zP, zQ, zS, zZ, zC]
          refine wt (i := 16) (oi := ⟨some 80, .indexAddr 22 (.tmp 65) (.tmp 67), 0, "breaks.go:61", #[⟨1, .data⟩, ⟨3, .data⟩, ⟨0, .phase⟩, ⟨1, .phase⟩, ⟨2, .phase⟩, ⟨3, .phase⟩, ⟨4, .phase⟩, ⟨5, .phase⟩, ⟨6, .phase⟩, ⟨7, .phase⟩, ⟨8, .phase⟩, ⟨9, .phase⟩, ⟨10, .phase⟩, ⟨11, .phase⟩, ⟨12, .phase⟩, ⟨13, .phase⟩, ⟨14, .phase⟩, ⟨15, .phase⟩], none⟩) (v := .pointer (some ⟨rb, k1, none⟩)) (Or.inl ⟨by rfl, fun w' hSw => by go_simp; try (intro hcm; exact absurd hcm (by omega))⟩) hHeld ?_
          try simp only [zP, zQ, zS, zZ, zC]
          obtain ⟨yv, hyv⟩ : ∃ yv, cs[k1]? = some yv := ⟨_, List.getElem?_eq_getElem (by omega)⟩
          have hcq := hKr2.cell hyv
          have hfq := hKr2.free k1
          refine wpAnyH_ready (rs := [17]) (by kernel_rfl) (by simp) ?_
          refine AllReadyH.cons (o := ⟨none, .store 3 (.tmp 80) (.tmp 79), 0, "breaks.go:61", #[⟨16, .data⟩, ⟨15, .data⟩, ⟨0, .phase⟩, ⟨1, .phase⟩, ⟨2, .phase⟩, ⟨3, .phase⟩, ⟨4, .phase⟩, ⟨5, .phase⟩, ⟨6, .phase⟩, ⟨7, .phase⟩, ⟨8, .phase⟩, ⟨9, .phase⟩, ⟨10, .phase⟩, ⟨11, .phase⟩, ⟨12, .phase⟩, ⟨13, .phase⟩, ⟨14, .phase⟩, ⟨15, .phase⟩], none⟩) rfl (fun K hK => ?_) AllReadyH.nil
          go_simp
          have hKr3 := hKr2.set k1 (.int .i64 (sk + x + bl))
          have hKz3 := hKz2.other (a := ⟨rb, k1, none⟩) hzr (.int .i64 (sk + x + bl))
          refine hK.out _ _ (⟨hHeld.1.other (a := ⟨rb, k1, none⟩) hpr _, hKr3.cell (by rw [List.getElem?_set_ne (by omega)]; exact hsk), hHeld.2.2.setCell hwr _⟩) (fun hHeld => ?_)
          clear hK K
          try simp only [zP, zQ, zS, zZ, zC]
          refine wpAnyH_done (by kernel_rfl) ?_ _
          have hS3 := hHeld
          clear hHeld 
          obtain ⟨hKp3, _, hX3⟩ := hS3
          generalize World.setCell V0 ⟨rb, k1, none⟩ _ = V5 at hKr3 hKz3 hKp3 hX3 ⊢
          clear c3 f3
          go_wp2
          exact ⟨HNext.out true (cs.set k1 _) V5 (by rfl) (by rw [List.length_set]; exact hcl) (fun j hj => by by_cases e : k1 = j; (rw [← e, List.getElem?_set_self (by omega), HK1s.out]); (rw [List.getElem?_set_ne e]; exact hcs j (by omega))) hKr3 hKp3 hKz3 hX3, by simp [intOf]; omega⟩
    · obtain rfl : k = n := by omega
      have hlt : ¬ k < k := by omega
      have HAll := Lib.hid (show l.all prop = true from by rw [List.all_eq_true]; intro y hy; obtain ⟨j, hj⟩ := List.getElem?_of_mem hy; exact HPK.out j y (by have := (List.getElem?_eq_some_iff.1 hj).1; rw [HL.out] at this; exact this) hj)
      have hz : (l.take k).any (fun y => decide (wd < y)) = wideT l wd := by rw [List.take_of_length_le (by rw [HL.out]; exact Nat.le_refl _)]; rfl
      rw [hz] at hKp
      have hmk1 := HMN.out
      have hOk := Lib.hid (fun (V : World) (h : Only rp wr V) => (show SumsAt V rb l bl from ⟨(h.2.1 rb _ _ (fun e => hzr e.symm) hKr).lt, fun j hj => (h.2.1 rb _ _ (fun e => hzr e.symm) hKr).cell (hcs j (by rw [HL.out] at hj; exact hj))⟩))
      obtain ⟨zz, hzz⟩ : ∃ zz, wideT l wd = zz := ⟨_, rfl⟩
      rw [hzz] at hKp
      have HZZ := Lib.hid hzz
      clear hzz
      subst hmk1
      clear hz hlt HP HP1 HP2 hcs
      go_wp2_with (first
        | (refine wpList_load_mid rfl 58 (.tmp 9) rfl pb 0 rfl [.slice (some ⟨rb, 0, none⟩) (k + 1) (k + 1), .int .i64 bl, .int .i64 wd, .bool zz] _ (by have := hKp.range 0 4; exact this) Try.underlying58 rfl (by kernel_rfl) ?_)
        | (refine store_blk rfl 58 (.tmp 6) (.tmp 82) rfl hKz rfl rfl (vs := [.slice (some ⟨rb, 0, none⟩) (k + 1) (k + 1), .int .i64 bl, .int .i64 wd, .bool zz]) (m := 4) (by kernel_rfl) rfl rfl (by intro v hv; simp at hv; rcases hv with rfl | rfl | rfl | rfl <;> rfl) ?_; intro W9 K9 O9))
      try simp only [zP, zQ, zS, zZ, zC]
      go_wp2
      have B9 : Below w.heap.size w W9 := O9.2.2 _ _ hwrp hX
      exact bodyPost_ret (v := .tuple #[pgV rb k bl wd zz, .int .i64 0]) (results_and (by rfl) _ _ rfl rfl (K9.loadVarS Try.underlying58 (by kernel_rfl))) rfl (Or.inl ⟨HAll.out, rb, by rw [HZZ.out], hOk.out _ O9, hwr, B9⟩)
/-- What paragraphOf answers. -/
def ParR (l : List Int) (n : Nat) (bl wd : Int) (w : World) (e : Ending) (w' : World) : Prop := (errT l bl wd = 0 ∧ ParOk l n bl wd w e w') ∨ (errT l bl wd ≠ 0 ∧ ParBad (errT l bl wd) w e w')
theorem paragraphOf_any (A : Option Addr) (l : List Int) (n c : Nat) (hl : l.length = n) (bl wd : Int) (w : World) (hA : IntsAt w A l) :
    Calls Try.prog 30 #[.slice A n c, .int .i64 bl, .int .i64 wd] w (ParR l n bl wd w) := by
  by_cases h : 256 < n
  · refine (par_long A l n c hl bl wd h w).mono fun e w' he => Or.inr ?_
    rw [err_long (by omega)]
    exact ⟨by omega, he⟩
  · rcases hp : (prop bl && prop wd) with _ | _
    · refine (par_arg A l n c hl bl wd (by omega) hp w).mono fun e w' he => Or.inr ?_
      rw [err_arg (by omega) hp]
      exact ⟨by omega, he⟩
    · have hp2 := hp
      rw [Bool.and_eq_true] at hp2
      refine (par_all A l n c hl bl wd (by omega) hp2.1 hp2.2 w hA).mono fun e w' he => ?_
      rcases he with ⟨h1, h2⟩ | ⟨h1, h2⟩
      · refine Or.inl ⟨?_, h2⟩
        unfold errT
        rw [if_neg (by omega), hp, h1]
        rfl
      · have e1 : errT l bl wd = 1 := by
          unfold errT
          rw [if_neg (by omega), hp, h1]
          rfl
        refine Or.inr ?_
        rw [e1]
        exact ⟨by omega, h2⟩
end Go.Proofs.Ytacdjchkilheiaa
