/-
  passimlaw03.SignDigitsCross returns true. Conditions: the tables of the package hash and of its specification lie as the program lays them when the call begins (the card ties them to the text); no other.
-/
import Derived.Test.YthffkbdecfjekaaDoorMf
import Derived.Deep.QuietTactic
import Derived.BigQuiet

namespace Go.Proofs.YthffkbdecfjekaaDoor
open Go.RowKit
set_option linter.unusedVariables false
set_option linter.unusedSimpArgs false

/-- Whether one of the first k is so. -/
def anyB (f : Nat → Bool) : Nat → Bool
  | 0 => false
  | k + 1 => anyB f k || f k
theorem anyB_of (f : Nat → Bool) (i : Nat) (h : f i = true) : ∀ k, i < k → anyB f k = true
  | k + 1, hk => by
    by_cases e : i = k
    · subst e; simp [anyB, h]
    · simp [anyB, anyB_of f i h k (by omega)]
def lessB (a b : List Nat) (i : Nat) : Bool := decide (a.getD i 0 < b.getD i 0)
theorem num_cell {w : World} {b : Nat} {t : TypeId} {ds : List Nat} (h : Blk w b t (numsV ds)) {k : Nat} (hk : k < ds.length) : w.cell? ⟨b, k, none⟩ = some (.int .i64 ((ds.getD k 0 : Nat) : Int)) :=
  h.cell (by unfold numsV; rw [List.getElem?_map, List.getElem?_eq_getElem hk, List.getD_eq_getElem?_getD, List.getElem?_eq_getElem hk]; rfl)

set_option maxHeartbeats 4000000 in
set_option maxRecDepth 100000 in
theorem cross_law (x y : List Nat) (hx : Dgt x) (hy : Dgt y) (w : World) (hG : Glob w) :
    Calls Tryd.prog 7 #[.agg (bytesV x).toArray, .agg (bytesV y).toArray] w (Told w true) := by
  have hvx : (bytesV x).length = 16 := by rw [bytesV_length]; exact hx.1
  have hvy : (bytesV y).length = 16 := by rw [bytesV_length]; exact hy.1
  have H0 := Lib.hid (fun w0 g => sanity3_any w0 g)
  have HX := Lib.hid (fun w0 => digits_any x hx.1 hx.2 w0)
  have HY := Lib.hid (fun w0 => digits_any y hy.1 hy.2 w0)
  have hlx := digits_length x hx.1
  have hly := digits_length y hy.1
  have HLS : Hid (x ≠ y → anyB (lessB (digits x) (digits y)) 68 = true ∧ anyB (lessB (digits y) (digits x)) 68 = true) := Lib.hid (fun hne => by
    obtain ⟨i, hi, h1⟩ := some_less x y hx.1 hy.1 hx.2 hne
    obtain ⟨j, hj, h2⟩ := some_less y x hy.1 hx.1 hy.2 (fun e => hne e.symm)
    exact ⟨anyB_of _ i (by simpa [lessB] using h1) 68 hi, anyB_of _ j (by simpa [lessB] using h2) 68 hj⟩)
  generalize digits x = dx at HX hlx HLS
  generalize digits y = dy at HY hly HLS
  go_enter Tryd.func7, Tryd.ntmps7
  go_upto_region 1 with (fail)
  generalize hw1 : World.alloc _ _ = W0
  have K2 : Blk W0 w.heap.size 23 (bytesV x) := hw1 ▸ ((blk_new w _ _).alloc _)
  have K3 : Blk W0 (w.heap.size + 1) 23 (bytesV y) := hw1 ▸ (blk_new1 w _ _ _)
  have KB : Below w.heap.size w W0 := hw1 ▸ (((Below.refl _ _).alloc (Nat.le_refl _) _).alloc (by simp) _)
  clear hw1
  go_wp2_with fail
  refine (H0.out W0 (hG.keep KB)).mono ?_
  rintro e w1 ⟨rfl, hB1⟩
  replace K2 := K2.keep hB1
  replace K3 := K3.keep hB1
  have C1 := link KB hB1
  clear hB1 KB
  go_wp2_with (refine load_blk rfl 23 (.tmp 2) rfl K2 rfl Tryd.underlying23 (m := 16) (by kernel_rfl) hvx ?_)
  refine (HX.out w1).mono ?_
  rintro e w2 ⟨b1, rfl, _, KX, hB2⟩
  replace K2 := K2.keep hB2
  replace K3 := K3.keep hB2
  have C2 := link C1 hB2
  clear hB2 C1
  go_wp2_with (refine load_blk rfl 23 (.tmp 3) rfl K3 rfl Tryd.underlying23 (m := 16) (by kernel_rfl) hvy ?_)
  refine (HY.out w2).mono ?_
  rintro e w3 ⟨b2, rfl, _, KY, hB3⟩
  replace K2 := K2.keep hB3
  replace K3 := K3.keep hB3
  replace KX := KX.keep hB3
  have C3 := link C2 hB3
  clear hB3 C2 HX HY H0
  go_wp2
  go_loopw [8, 9, 10] (fun l m v wr => ∃ k : Nat, k ≤ 68 ∧ v = .int .i64 k ∧ l = .bool (anyB (lessB dx dy) k) ∧ m = .bool (anyB (lessB dy dx) k) ∧ Blk wr w.heap.size 23 (bytesV x) ∧ Blk wr (w.heap.size + 1) 23 (bytesV y) ∧ Blk wr b1 43 (numsV dx) ∧ Blk wr b2 43 (numsV dy) ∧ Below w.heap.size w wr) (fun _ _ v _ => 68 - (intOf v).toNat)
  case atStart => exact ⟨0, by omega, rfl, rfl, rfl, K2, K3, KX, KY, C3⟩
  case round =>
    clear K2 K3 KX KY C3
    obtain ⟨k, hk, rfl, rfl, rfl, K2, K3, KX, KY, CB⟩ := hrel
    by_cases h68 : k < 68
    · have l68 : (k : Int) < 68 := by omega
      have k0 : (0 : Int) ≤ (k : Int) := by omega
      have c1 := num_cell KX (k := k) (by omega)
      have c2 := num_cell KY (k := k) (by omega)
      have e1 : anyB (lessB dx dy) (k + 1) = (anyB (lessB dx dy) k || decide (dx.getD k 0 < dy.getD k 0)) := rfl
      have e2 : anyB (lessB dy dx) (k + 1) = (anyB (lessB dy dx) k || decide (dy.getD k 0 < dx.getD k 0)) := rfl
      obtain ⟨a, ha⟩ : ∃ a, dx.getD k 0 = a := ⟨_, rfl⟩
      obtain ⟨b, hb⟩ : ∃ b, dy.getD k 0 = b := ⟨_, rfl⟩
      rw [ha] at c1 e1 e2
      rw [hb] at c2 e1 e2
      have E1 := Lib.hid e1
      have E2 := Lib.hid e2
      generalize anyB (lessB dx dy) k = p at E1 ⊢
      generalize anyB (lessB dy dx) k = q at E2 ⊢
      clear e1 e2 ha hb
      cases p <;> cases q
      all_goals
        go_wp2
        go_quiet (fail)
        go_wp2
        go_quiet (fail)
        go_wp2
        go_roundw
        case rel => exact ⟨k + 1, by omega, by go_num, by rw [E1.out]; simp, by rw [E2.out]; simp, K2, K3, KX, KY, below_drewN CB _⟩
        case measure => simp [intOf]; omega
    · obtain rfl : k = 68 := by omega
      have heq := fun w0 => equal_16 w0 x y hx hy
      by_cases hxy : x = y
      · rw [decide_eq_true hxy] at heq
        clear hxy HLS
        go_wp2_with (first | (refine load_wanted (by rfl) 23 (.tmp 2) rfl K2 rfl Tryd.underlying23 (m := 16) (by kernel_rfl) hvx ?_) | (refine load_wanted (by rfl) 23 (.tmp 3) rfl K3 rfl Tryd.underlying23 (m := 16) (by kernel_rfl) hvy ?_))
        go_ret
        exact ⟨rfl, CB⟩
      · rw [decide_eq_false hxy] at heq
        obtain ⟨e1, e2⟩ := HLS.out hxy
        rw [e1, e2]
        clear hxy HLS e1 e2
        go_wp2_with (first | (refine load_wanted (by rfl) 23 (.tmp 2) rfl K2 rfl Tryd.underlying23 (m := 16) (by kernel_rfl) hvx ?_) | (refine load_wanted (by rfl) 23 (.tmp 3) rfl K3 rfl Tryd.underlying23 (m := 16) (by kernel_rfl) hvy ?_))
        go_ret
        exact ⟨rfl, CB⟩

namespace signDigitsCross
open Go.ChangeShapes Go.WideShapes Go.ChangeAt Go.RowKit

theorem contract (H : Type) (enc : TypeId × Value → H) (W : World) (base : Nat) (args : Array Value) (ds gs : List (DataW H)) (before : List MemPlace)
    (hval : ∀ (j : Nat) t v, Tryd.f7.params[j]? = some t → args[j]? = some v → Value.okWide Tryd.prog W .any base t v)
    (hW : DataW.Whole enc Tryd.prog Tryd.f7.params.toList Rows.signDigitsCrossSpec.vars false W args.toList ds gs before) (hL : laidMetH Tryd.prog Rows.signDigitsCrossRow.laid W) :
    Calls Tryd.prog 7 args W fun e W' => ∃ v, e = .returned v ∧ Rows.signDigitsCrossSpec.post enc Tryd.prog Tryd.f7 false true false false W args v W' := by
  have hW' := hW
  obtain ⟨p, q, hA0, hV, rfl, hfz, hnd⟩ := hW
  have hA : DataW.TrodAll enc Tryd.prog W 0 (fun _ => true) true Tryd.f7.params.toList args.toList ds p := hA0
  rw [Tryd.params7] at hA hval
  obtain ⟨rfl, rfl⟩ := trodVars_none hV
  have hlt : ∀ x ∈ p, x.block < W.heap.size := fun x hx => hW'.lt x (List.mem_append_left _ hx)
  have hA1 := hA
  obtain ⟨v0, v1, d0, d1, p0, p1, rfl, rfl, rfl, h0, h1⟩ := trodAll_two hA
  obtain ⟨x0, rfl, g0⟩ := open_dgt (hval 0 23 v0 rfl rfl) h0
  obtain ⟨x1, rfl, g1⟩ := open_dgt (hval 1 23 v1 rfl rfl) h1
  simp only [List.append_nil] at hW'
  have hG : Glob W := glob_of hL
  refine (cross_law x0 x1 g0 g1 W hG).mono fun e W' ⟨he, hB⟩ => ?_
  subst he
  refine ⟨_, rfl, _, _, _, [], _, [], hW', ?_, keepAll hB _ _ _ _ (by decide +kernel) hA1 hlt, rfl, hB.frame _, fun h => by cases h⟩
  exact trodAll_mk1 (shut_bool Tryd.underlying4 _)

theorem laid_met (os : Os) : laidMet Tryd.prog Rows.signDigitsCrossRow.laid ((laidWorld os).forCall (fun _ _ => 0) ⟨#[], #[.agg (bytesV z16).toArray, .agg (bytesV z16).toArray], []⟩).memory :=
  laidMet_of_run' 8 (by kernel_rfl) (by kernel_rfl)
theorem reads (os : Os) {H : Type} (enc : TypeId × Value → H) : ∃ ds places, DataW.whole enc Tryd.prog ((laidWorld os).forCall (fun _ _ => 0) ⟨#[], #[.agg (bytesV z16).toArray, .agg (bytesV z16).toArray], []⟩).memory Tryd.f7.params.toList Rows.signDigitsCrossSpec.vars false (#[.agg (bytesV z16).toArray, .agg (bytesV z16).toArray] : Array Value).toList 8 = some (ds, [], places) :=
  ⟨[.agg (List.replicate 16 (.lit (.int .u8 0))), .agg (List.replicate 16 (.lit (.int .u8 0)))], [], by kernel_rfl⟩

set_option maxRecDepth 100000 in
theorem lifted (os : Os) (started : os.Started) (H : Type) (enc : TypeId × Value → H) (F : Stop.Interp) :
    ReturnsInHanded {} Tryd.checked os 7 .any ((OpenSpec.ofChange Rows.signDigitsCrossSpec).preRow enc Tryd.prog Tryd.f7 Rows.signDigitsCrossRow.domain false Rows.signDigitsCrossRow.laid) (((OpenSpec.ofChange Rows.signDigitsCrossSpec).at F).post enc Tryd.prog Tryd.f7 false true false false) := by
  obtain ⟨ds, places, hx⟩ := reads os enc
  refine returnsInHanded_of_row (C := Tryd.checked) (s := OpenSpec.ofChange Rows.signDigitsCrossSpec) own started (by kernel_rfl) Tryd.func7
    (witness_row_at (enc := enc) (C := Tryd.checked) false (laidWorld os) #[.agg (bytesV z16).toArray, .agg (bytesV z16).toArray] rfl (by kernel_rfl) (by kernel_rfl) (by kernel_rfl)
      (OpenSpec.preRow_of_cond 8 hx (by kernel_rfl) (fun k hk => by cases hk) (by kernel_rfl) (laid_met os))) ?_
  intro W base args ds gs before hval hW _ _ _ hL _ _
  exact contract H enc W base args ds gs before hval hW hL

theorem said : Rows.SignDigitsCrossSaid :=
  OpenClaim.holds_of_cond 7 Tryd.f7 rfl rfl rfl rfl rfl rfl rfl ⟨rfl, rfl, rfl, rfl, rfl⟩ rfl rfl rfl rfl rfl (by kernel_rfl) Tryd.func7 (by kernel_rfl)
    (of_decide_eq_true (by kernel_rfl)) (by unfold Func.isWrapper; first | (rw [if_pos (by decide +kernel)]; kernel_rfl) | (rw [if_neg (by decide +kernel)]; exact ⟨rfl, rfl⟩))
    (fun os started H enc _ F => by rw [OpenClaim.pre_eq_preRow]; exact lifted os started H enc F)

theorem plain (f : FuncId) (fn : Func) (hf : Tryd.pinned.checked.prog.funcNamed "passim/passimlaw03.SignDigitsCross" = some f) (hfn : Tryd.pinned.checked.prog.funcs[f]? = some fn) :
    false = Tryd.pinned.checked.prog.looks [] ∧ ∀ (j : Nat) t, fn.params[j]? = some t → Tryd.pinned.checked.prog.wantsStandIn t = false := by
  obtain rfl : f = 7 := Option.some.inj ((show Tryd.prog.funcNamed "passim/passimlaw03.SignDigitsCross" = some 7 by kernel_rfl).symm.trans hf) |>.symm
  obtain rfl : fn = Tryd.f7 := (Option.some.inj (Tryd.func7.symm.trans hfn)).symm
  refine ⟨by kernel_rfl, fun j t ht => ?_⟩
  rw [Tryd.params7] at ht
  have hm := Array.mem_of_getElem? ht
  have hall : ∀ t ∈ ([23, 23] : List TypeId), Tryd.prog.wantsStandIn t = false := by decide +kernel
  exact hall t (by simpa using hm)

theorem proved : Rows.SignDigitsCrossCardSaid :=
  Claim7.holds_tied_plain_at .later [] _ _ _ _ said (fun _ h => by cases h) (by kernel_rfl) (fun _ h => by cases h) signDigitsCross_row_tie rfl ⟨rfl, rfl⟩ (by kernel_rfl) rfl plain (by kernel_rfl)
#print axioms proved
end signDigitsCross

end Go.Proofs.YthffkbdecfjekaaDoor
