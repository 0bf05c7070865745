/-
  passimlaw03.SignDigitsMatchSpec returns true. Conditions: the tables of the package hash and of its specification lie as the program lays them when the call begins (the card ties them to the text); no other.
-/
import Derived.Test.YthffkbdecfjekaaDoorMf
import Derived.Test.YthffkbdecfjekaaDoorMd
import Derived.Deep.QuietTactic
import Derived.BigQuiet

namespace Go.Proofs.YthffkbdecfjekaaDoor
open Go.RowKit
set_option linter.unusedVariables false
set_option linter.unusedSimpArgs false

theorem num_cell' {w : World} {b : Nat} {t : TypeId} {ds : List Nat} (h : Blk w b t (numsV ds)) {k : Nat} (hk : k < ds.length) : w.cell? ⟨b, k, none⟩ = some (.int .i64 ((ds.getD k 0 : Nat) : Int)) :=
  h.cell (by unfold numsV; rw [List.getElem?_map, List.getElem?_eq_getElem hk, List.getD_eq_getElem?_getD, List.getElem?_eq_getElem hk]; rfl)

set_option maxHeartbeats 4000000 in
set_option maxRecDepth 100000 in
theorem match_law (x : List Nat) (hx : Dgt x) (w : World) (hG : Glob w) :
    Calls Tryd.prog 3 #[.agg (bytesV x).toArray] w (Told w true) := by
  have hvx : (bytesV x).length = 16 := by rw [bytesV_length]; exact hx.1
  have H0 := Lib.hid (fun w0 g => sanity3_any w0 g)
  have HX := Lib.hid (fun w0 => digits_any x hx.1 hx.2 w0)
  have HY := Lib.hid (fun w0 => rdigits_any x hx.1 hx.2 w0)
  have hlx := digits_length x hx.1
  have hd3 := digits_getD x hx
  generalize digits x = dx at HX HY hlx hd3
  go_enter Tryd.func3, Tryd.ntmps3
  go_upto_region 1 with (fail)
  generalize hw1 : World.alloc _ _ = W0
  have K2 : Blk W0 w.heap.size 23 (bytesV x) := hw1 ▸ (blk_new w _ _)
  have KB : Below w.heap.size w W0 := hw1 ▸ ((Below.refl _ _).alloc (Nat.le_refl _) _)
  clear hw1
  go_wp2_with fail
  refine (H0.out W0 (hG.keep KB)).mono ?_
  rintro e w1 ⟨rfl, hB1⟩
  replace K2 := K2.keep hB1
  have C1 := link KB hB1
  clear hB1 KB
  go_wp2_with (refine load_blk rfl 23 (.tmp 1) rfl K2 rfl Tryd.underlying23 (m := 16) (by kernel_rfl) hvx ?_)
  refine (HX.out w1).mono ?_
  rintro e w2 ⟨b1, rfl, _, KX, hB2⟩
  replace K2 := K2.keep hB2
  have C2 := link C1 hB2
  clear hB2 C1
  go_wp2_with (refine load_blk rfl 23 (.tmp 1) rfl K2 rfl Tryd.underlying23 (m := 16) (by kernel_rfl) hvx ?_)
  refine (HY.out w2).mono ?_
  rintro e w3 ⟨v2, rfl, hO⟩
  replace KX := KX.keep hO.2
  have C3 := link C2 hO.2
  obtain ⟨g, cap, rfl, hcy⟩ : ∃ g cap, v2 = .slice (some ⟨g, 0, none⟩) 68 cap ∧ ∀ k, k < 68 → w3.cell? ⟨g, k, none⟩ = some (.int .i64 ((dx.getD k 0 : Nat) : Int)) := by
    have hf := hO.1.form (by omega)
    obtain ⟨g, cap, rfl, _, _⟩ := hf
    refine ⟨g, cap, by rw [hlx], fun k hk => ?_⟩
    have := hO.1.cells (g := g) (by simp [Value.ownBlock]) k (.int .i64 ((dx.getD k 0 : Nat) : Int)) (by unfold numsV; rw [List.getElem?_map, List.getElem?_eq_getElem (by omega), List.getD_eq_getElem?_getD, List.getElem?_eq_getElem (by omega)]; rfl)
    rw [Addr.add_mid, Nat.zero_add] at this
    exact this
  have HCY := Lib.hid (fun (w' : World) (hb : Below w3.heap.size w3 w') k (hk : k < 68) => ((hb.cell (p := ⟨g, k, none⟩) (World.block_lt_of_cell? w3 ⟨g, k, none⟩ (hcy k hk))).trans (hcy k hk)))
  clear C2 K2 hO hcy HX HY H0
  go_wp2
  go_loopw [6] (fun v wr => ∃ k : Nat, k ≤ 68 ∧ v = .int .i64 k ∧ Below w3.heap.size w3 wr) (fun v _ => 68 - (intOf v).toNat)
  case atStart => exact ⟨0, by omega, rfl, Below.refl _ _⟩
  case round =>
    obtain ⟨k, hk, rfl, CB⟩ := hrel
    by_cases h68 : k < 68
    · have l68 : (k : Int) < 68 := by omega
      have k0 : (0 : Int) ≤ (k : Int) := by omega
      have c1 := num_cell' (KX.keep CB) (k := k) (by omega)
      have c2 := HCY.out wr CB k h68
      have hv3 := hd3 k
      generalize dx.getD k 0 = v at c1 c2 hv3
      have n0 : decide ((v : Int) < 0) = false := by simp only [decide_eq_false_iff_not]; omega
      have n3 : decide ((3 : Int) < (v : Int)) = false := by simp only [decide_eq_false_iff_not]; omega
      go_wp2
      go_quiet (fail)
      go_wp2
      go_roundw
      case rel => exact ⟨k + 1, by omega, by go_num, below_drewN CB _⟩
      case measure => simp [intOf]; omega
    · obtain rfl : k = 68 := by omega
      have CF := link C3 CB
      go_wp2
      go_ret
      exact ⟨rfl, CF⟩

namespace signDigitsMatchSpec
open Go.ChangeShapes Go.WideShapes Go.ChangeAt Go.RowKit

theorem contract (H : Type) (enc : TypeId × Value → H) (W : World) (base : Nat) (args : Array Value) (ds gs : List (DataW H)) (before : List MemPlace)
    (hval : ∀ (j : Nat) t v, Tryd.f3.params[j]? = some t → args[j]? = some v → Value.okWide Tryd.prog W .any base t v)
    (hW : DataW.Whole enc Tryd.prog Tryd.f3.params.toList Rows.signDigitsMatchSpecSpec.vars false W args.toList ds gs before) (hL : laidMetH Tryd.prog Rows.signDigitsMatchSpecRow.laid W) :
    Calls Tryd.prog 3 args W fun e W' => ∃ v, e = .returned v ∧ Rows.signDigitsMatchSpecSpec.post enc Tryd.prog Tryd.f3 false true false false W args v W' := by
  have hW' := hW
  obtain ⟨p, q, hA0, hV, rfl, hfz, hnd⟩ := hW
  have hA : DataW.TrodAll enc Tryd.prog W 0 (fun _ => true) true Tryd.f3.params.toList args.toList ds p := hA0
  rw [Tryd.params3] at hA hval
  obtain ⟨rfl, rfl⟩ := trodVars_none hV
  have hlt : ∀ x ∈ p, x.block < W.heap.size := fun x hx => hW'.lt x (List.mem_append_left _ hx)
  have hA1 := hA
  obtain ⟨v0, d0, rfl, rfl, h0⟩ := trodAll_one hA
  obtain ⟨x0, rfl, g0⟩ := open_dgt (hval 0 23 v0 rfl rfl) h0
  simp only [List.append_nil] at hW'
  have hG : Glob W := glob_of hL
  refine (match_law x0 g0 W hG).mono fun e W' ⟨he, hB⟩ => ?_
  subst he
  refine ⟨_, rfl, _, _, _, [], _, [], hW', ?_, keepAll hB _ _ _ _ (by decide +kernel) hA1 hlt, rfl, hB.frame _, fun h => by cases h⟩
  exact trodAll_mk1 (shut_bool Tryd.underlying4 _)

theorem laid_met (os : Os) : laidMet Tryd.prog Rows.signDigitsMatchSpecRow.laid ((laidWorld os).forCall (fun _ _ => 0) ⟨#[], #[.agg (bytesV z16).toArray], []⟩).memory :=
  laidMet_of_run' 8 (by kernel_rfl) (by kernel_rfl)
theorem reads (os : Os) {H : Type} (enc : TypeId × Value → H) : ∃ ds places, DataW.whole enc Tryd.prog ((laidWorld os).forCall (fun _ _ => 0) ⟨#[], #[.agg (bytesV z16).toArray], []⟩).memory Tryd.f3.params.toList Rows.signDigitsMatchSpecSpec.vars false (#[.agg (bytesV z16).toArray] : Array Value).toList 8 = some (ds, [], places) :=
  ⟨[.agg (List.replicate 16 (.lit (.int .u8 0)))], [], by kernel_rfl⟩

set_option maxRecDepth 100000 in
theorem lifted (os : Os) (started : os.Started) (H : Type) (enc : TypeId × Value → H) (F : Stop.Interp) :
    ReturnsInHanded {} Tryd.checked os 3 .any ((OpenSpec.ofChange Rows.signDigitsMatchSpecSpec).preRow enc Tryd.prog Tryd.f3 Rows.signDigitsMatchSpecRow.domain false Rows.signDigitsMatchSpecRow.laid) (((OpenSpec.ofChange Rows.signDigitsMatchSpecSpec).at F).post enc Tryd.prog Tryd.f3 false true false false) := by
  obtain ⟨ds, places, hx⟩ := reads os enc
  refine returnsInHanded_of_row (C := Tryd.checked) (s := OpenSpec.ofChange Rows.signDigitsMatchSpecSpec) own started (by kernel_rfl) Tryd.func3
    (witness_row_at (enc := enc) (C := Tryd.checked) false (laidWorld os) #[.agg (bytesV z16).toArray] rfl (by kernel_rfl) (by kernel_rfl) (by kernel_rfl)
      (OpenSpec.preRow_of_cond 8 hx (by kernel_rfl) (fun k hk => by cases hk) (by kernel_rfl) (laid_met os))) ?_
  intro W base args ds gs before hval hW _ _ _ hL _ _
  exact contract H enc W base args ds gs before hval hW hL

theorem said : Rows.SignDigitsMatchSpecSaid :=
  OpenClaim.holds_of_cond 3 Tryd.f3 rfl rfl rfl rfl rfl rfl rfl ⟨rfl, rfl, rfl, rfl, rfl⟩ rfl rfl rfl rfl rfl (by kernel_rfl) Tryd.func3 (by kernel_rfl)
    (of_decide_eq_true (by kernel_rfl)) (by unfold Func.isWrapper; first | (rw [if_pos (by decide +kernel)]; kernel_rfl) | (rw [if_neg (by decide +kernel)]; exact ⟨rfl, rfl⟩))
    (fun os started H enc _ F => by rw [OpenClaim.pre_eq_preRow]; exact lifted os started H enc F)

theorem plain (f : FuncId) (fn : Func) (hf : Tryd.pinned.checked.prog.funcNamed "passim/passimlaw03.SignDigitsMatchSpec" = some f) (hfn : Tryd.pinned.checked.prog.funcs[f]? = some fn) :
    false = Tryd.pinned.checked.prog.looks [] ∧ ∀ (j : Nat) t, fn.params[j]? = some t → Tryd.pinned.checked.prog.wantsStandIn t = false := by
  obtain rfl : f = 3 := Option.some.inj ((show Tryd.prog.funcNamed "passim/passimlaw03.SignDigitsMatchSpec" = some 3 by kernel_rfl).symm.trans hf) |>.symm
  obtain rfl : fn = Tryd.f3 := (Option.some.inj (Tryd.func3.symm.trans hfn)).symm
  refine ⟨by kernel_rfl, fun j t ht => ?_⟩
  rw [Tryd.params3] at ht
  have hm := Array.mem_of_getElem? ht
  have hall : ∀ t ∈ ([23] : List TypeId), Tryd.prog.wantsStandIn t = false := by decide +kernel
  exact hall t (by simpa using hm)

theorem proved : Rows.SignDigitsMatchSpecCardSaid :=
  Claim7.holds_tied_plain_at .later [] _ _ _ _ said (fun _ h => by cases h) (by kernel_rfl) (fun _ h => by cases h) signDigitsMatchSpec_row_tie rfl ⟨rfl, rfl⟩ (by kernel_rfl) rfl plain (by kernel_rfl)
#print axioms proved
end signDigitsMatchSpec

end Go.Proofs.YthffkbdecfjekaaDoor
