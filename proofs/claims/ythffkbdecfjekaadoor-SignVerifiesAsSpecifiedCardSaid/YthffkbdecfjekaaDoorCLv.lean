/-
  passimlaw03.SignVerifiesAsSpecified returns true. Conditions: the tables of the package hash and of its specification lie as the program lays them when the call begins (the card ties them to the text); no other.
-/
import Derived.Test.YthffkbdecfjekaaDoorMf
import Derived.Test.YthffkbdecfjekaaDoorMg

namespace Go.Proofs.YthffkbdecfjekaaDoor
open Go.RowKit
set_option linter.unusedVariables false
set_option linter.unusedSimpArgs false

set_option maxHeartbeats 4000000 in
set_option maxRecDepth 100000 in
theorem verifies_law (P : List Nat) (hP : Dgt P) (h : Int) (msg sig : ByteArray) (w : World) (hG : Glob w) (hR : GlobR w) :
    Calls Tryd.prog 5 #[.agg (bytesV P).toArray, .int .i64 h, .string msg, .string sig] w (Told w true) := by
  have hvP : (bytesV P).length = 16 := by rw [bytesV_length]; exact hP.1
  have H0 := Lib.hid (fun w0 g => sanity3_any w0 g)
  by_cases hm : msg.size ≤ 200
  · have hmm : decide ((200 : Int) < (msg.size : Int)) = false := by simp only [decide_eq_false_iff_not]; omega
    by_cases hs : sig.size ≤ 1400
    · have hss : decide ((1400 : Int) < (sig.size : Int)) = false := by simp only [decide_eq_false_iff_not]; omega
      have H1 := Lib.hid (fun w0 g => verify_any P hP h msg sig (by omega) (by omega) w0 g)
      have H2 := Lib.hid (fun w0 g => rverify_any P hP h msg sig (by omega) (by omega) w0 g)
      generalize verM P h (sb msg) (sb sig) = r at H1 H2
      obtain ⟨n, er⟩ := r
      simp only at H1 H2
      go_enter Tryd.func5, Tryd.ntmps5
      go_upto_region 1 with (fail)
      generalize hw1 : World.alloc _ _ = W0
      have K4 : Blk W0 w.heap.size 23 (bytesV P) := hw1 ▸ (blk_new w _ _)
      have KB : Below w.heap.size w W0 := hw1 ▸ ((Below.refl _ _).alloc (Nat.le_refl _) _)
      clear hw1
      go_wp2_with fail
      refine (H0.out W0 (hG.keep KB)).mono ?_
      rintro e w1 ⟨rfl, hB1⟩
      have C1 := link KB hB1
      replace K4 := K4.keep hB1
      clear hB1 KB
      go_wp2_with (refine load_blk rfl 23 (.tmp 4) rfl K4 rfl Tryd.underlying23 (m := 16) (by kernel_rfl) hvP ?_)
      refine (H1.out w1 (hG.keep C1)).mono ?_
      rintro e w2 ⟨rfl, hB2⟩
      have C2 := link C1 hB2
      replace K4 := K4.keep hB2
      clear hB2 C1
      go_wp2_with (refine load_blk rfl 23 (.tmp 4) rfl K4 rfl Tryd.underlying23 (m := 16) (by kernel_rfl) hvP ?_)
      refine (H2.out w2 (hR.keep C2)).mono ?_
      rintro e w3 ⟨rfl, hB3⟩
      have C3 := link C2 hB3
      clear hB3 C2 K4
      go_wp2
      go_ret
      exact ⟨rfl, C3⟩
    · have hss : decide ((1400 : Int) < (sig.size : Int)) = true := by simp only [decide_eq_true_eq]; omega
      go_enter Tryd.func5, Tryd.ntmps5
      go_upto_region 1 with (fail)
      generalize hw1 : World.alloc _ _ = W0
      have KB : Below w.heap.size w W0 := hw1 ▸ ((Below.refl _ _).alloc (Nat.le_refl _) _)
      clear hw1
      go_wp2_with fail
      refine (H0.out W0 (hG.keep KB)).mono ?_
      rintro e w1 ⟨rfl, hB1⟩
      have C1 := link KB hB1
      go_wp2
      go_ret
      exact ⟨rfl, C1⟩
  · have hmm : decide ((200 : Int) < (msg.size : Int)) = true := by simp only [decide_eq_true_eq]; omega
    go_enter Tryd.func5, Tryd.ntmps5
    go_upto_region 1 with (fail)
    generalize hw1 : World.alloc _ _ = W0
    have KB : Below w.heap.size w W0 := hw1 ▸ ((Below.refl _ _).alloc (Nat.le_refl _) _)
    clear hw1
    go_wp2_with fail
    refine (H0.out W0 (hG.keep KB)).mono ?_
    rintro e w1 ⟨rfl, hB1⟩
    have C1 := link KB hB1
    go_wp2
    go_ret
    exact ⟨rfl, C1⟩

namespace signVerifiesAsSpecified
open Go.ChangeShapes Go.WideShapes Go.ChangeAt Go.RowKit

theorem contract (H : Type) (enc : TypeId × Value → H) (W : World) (base : Nat) (args : Array Value) (ds gs : List (DataW H)) (before : List MemPlace)
    (hval : ∀ (j : Nat) t v, Tryd.f5.params[j]? = some t → args[j]? = some v → Value.okWide Tryd.prog W .any base t v)
    (hW : DataW.Whole enc Tryd.prog Tryd.f5.params.toList Rows.signVerifiesAsSpecifiedSpec.vars false W args.toList ds gs before) (hL : laidMetH Tryd.prog Rows.signVerifiesAsSpecifiedRow.laid W) :
    Calls Tryd.prog 5 args W fun e W' => ∃ v, e = .returned v ∧ Rows.signVerifiesAsSpecifiedSpec.post enc Tryd.prog Tryd.f5 false true false false W args v W' := by
  have hW' := hW
  obtain ⟨p, q, hA0, hV, rfl, hfz, hnd⟩ := hW
  have hA : DataW.TrodAll enc Tryd.prog W 0 (fun _ => true) true Tryd.f5.params.toList args.toList ds p := hA0
  rw [Tryd.params5] at hA hval
  obtain ⟨rfl, rfl⟩ := trodVars_none hV
  have hlt : ∀ x ∈ p, x.block < W.heap.size := fun x hx => hW'.lt x (List.mem_append_left _ hx)
  have hA1 := hA
  obtain ⟨v0, v1, v2, v3, d0, d1, d2, d3, p0, p1, p2, p3, rfl, rfl, rfl, h0, h1, h2, h3⟩ := trodAll_four hA
  obtain ⟨x0, rfl, g0⟩ := open_dgt (hval 0 23 v0 rfl rfl) h0
  obtain ⟨x1, rfl, _, _, w1⟩ := open_int Tryd.underlying3 (hval 1 3 v1 rfl rfl) h1
  have g1 := w1
  simp [Lit.wf, IntKind.min, IntKind.max, IntKind.signed, IntKind.bits] at g1
  obtain ⟨x2, rfl, _, _, w2⟩ := Go.ChangeMaps.open_string Tryd.underlying9 (hval 2 9 v2 rfl rfl) h2
  obtain ⟨x3, rfl, _, _, w3⟩ := Go.ChangeMaps.open_string Tryd.underlying9 (hval 3 9 v3 rfl rfl) h3
  simp only [List.append_nil] at hW'
  obtain ⟨hR, hG⟩ := glob3_of hL
  refine (verifies_law x0 g0 x1 x2 x3 W hG hR).mono fun e W' ⟨he, hB⟩ => ?_
  subst he
  refine ⟨_, rfl, _, _, _, [], _, [], hW', ?_, keepAll hB _ _ _ _ (by decide +kernel) hA1 hlt, rfl, hB.frame _, fun h => by cases h⟩
  exact trodAll_mk1 (shut_bool Tryd.underlying4 _)

theorem laid_met (os : Os) : laidMet Tryd.prog Rows.signVerifiesAsSpecifiedRow.laid ((laidWorld3 os).forCall (fun _ _ => 0) ⟨#[], #[.agg (bytesV z16).toArray, .int .i64 0, .string ByteArray.empty, .string ByteArray.empty], []⟩).memory :=
  laidMet_of_run' 8 (by kernel_rfl) (by kernel_rfl)
theorem reads (os : Os) {H : Type} (enc : TypeId × Value → H) : ∃ ds places, DataW.whole enc Tryd.prog ((laidWorld3 os).forCall (fun _ _ => 0) ⟨#[], #[.agg (bytesV z16).toArray, .int .i64 0, .string ByteArray.empty, .string ByteArray.empty], []⟩).memory Tryd.f5.params.toList Rows.signVerifiesAsSpecifiedSpec.vars false (#[.agg (bytesV z16).toArray, .int .i64 0, .string ByteArray.empty, .string ByteArray.empty] : Array Value).toList 8 = some (ds, [], places) :=
  ⟨[.agg (List.replicate 16 (.lit (.int .u8 0))), .lit (.int .i64 0), .lit (.string []), .lit (.string [])], [], by kernel_rfl⟩

set_option maxRecDepth 100000 in
theorem lifted (os : Os) (started : os.Started) (H : Type) (enc : TypeId × Value → H) (F : Stop.Interp) :
    ReturnsInHanded {} Tryd.checked os 5 .any ((OpenSpec.ofChange Rows.signVerifiesAsSpecifiedSpec).preRow enc Tryd.prog Tryd.f5 Rows.signVerifiesAsSpecifiedRow.domain false Rows.signVerifiesAsSpecifiedRow.laid) (((OpenSpec.ofChange Rows.signVerifiesAsSpecifiedSpec).at F).post enc Tryd.prog Tryd.f5 false true false false) := by
  obtain ⟨ds, places, hx⟩ := reads os enc
  refine returnsInHanded_of_row (C := Tryd.checked) (s := OpenSpec.ofChange Rows.signVerifiesAsSpecifiedSpec) own started (by kernel_rfl) Tryd.func5
    (witness_row_at (enc := enc) (C := Tryd.checked) false (laidWorld3 os) #[.agg (bytesV z16).toArray, .int .i64 0, .string ByteArray.empty, .string ByteArray.empty] rfl (by kernel_rfl) (by kernel_rfl) (by kernel_rfl)
      (OpenSpec.preRow_of_cond 8 hx (by kernel_rfl) (fun k hk => by cases hk) (by kernel_rfl) (laid_met os))) ?_
  intro W base args ds gs before hval hW _ _ _ hL _ _
  exact contract H enc W base args ds gs before hval hW hL

theorem said : Rows.SignVerifiesAsSpecifiedSaid :=
  OpenClaim.holds_of_cond 5 Tryd.f5 rfl rfl rfl rfl rfl rfl rfl ⟨rfl, rfl, rfl, rfl, rfl⟩ rfl rfl rfl rfl rfl (by kernel_rfl) Tryd.func5 (by kernel_rfl)
    (of_decide_eq_true (by kernel_rfl)) (by unfold Func.isWrapper; first | (rw [if_pos (by decide +kernel)]; kernel_rfl) | (rw [if_neg (by decide +kernel)]; exact ⟨rfl, rfl⟩))
    (fun os started H enc _ F => by rw [OpenClaim.pre_eq_preRow]; exact lifted os started H enc F)

theorem plain (f : FuncId) (fn : Func) (hf : Tryd.pinned.checked.prog.funcNamed "passim/passimlaw03.SignVerifiesAsSpecified" = some f) (hfn : Tryd.pinned.checked.prog.funcs[f]? = some fn) :
    false = Tryd.pinned.checked.prog.looks [] ∧ ∀ (j : Nat) t, fn.params[j]? = some t → Tryd.pinned.checked.prog.wantsStandIn t = false := by
  obtain rfl : f = 5 := Option.some.inj ((show Tryd.prog.funcNamed "passim/passimlaw03.SignVerifiesAsSpecified" = some 5 by kernel_rfl).symm.trans hf) |>.symm
  obtain rfl : fn = Tryd.f5 := (Option.some.inj (Tryd.func5.symm.trans hfn)).symm
  refine ⟨by kernel_rfl, fun j t ht => ?_⟩
  rw [Tryd.params5] at ht
  have hm := Array.mem_of_getElem? ht
  have hall : ∀ t ∈ ([23, 3, 9, 9] : List TypeId), Tryd.prog.wantsStandIn t = false := by decide +kernel
  exact hall t (by simpa using hm)

theorem proved : Rows.SignVerifiesAsSpecifiedCardSaid :=
  Claim7.holds_tied_plain_at .later [] _ _ _ _ said (fun _ h => by cases h) (by kernel_rfl) (fun _ h => by cases h) signVerifiesAsSpecified_row_tie rfl ⟨rfl, rfl⟩ (by kernel_rfl) rfl plain (by kernel_rfl)
#print axioms proved
end signVerifiesAsSpecified

end Go.Proofs.YthffkbdecfjekaaDoor
