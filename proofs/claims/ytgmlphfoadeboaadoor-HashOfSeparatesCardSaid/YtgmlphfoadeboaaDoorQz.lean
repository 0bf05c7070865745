/-
  An argument of two bytes, opened.
-/
import Derived.Test.YtgmlphfoadeboaaDoorQv
namespace Go.Proofs.YtgmlphfoadeboaaDoor
open Go.RowKit
set_option linter.unusedVariables false
set_option linter.unusedSimpArgs false

theorem cells2 : Tryd.prog.cellsOf 48 = 2 := by kernel_rfl
theorem trod_u8 {H : Type} {enc : TypeId × Value → H} {W : World} {sp : Nat → Bool} {fuel : Nat} {c : Value} {x : DataW H × List MemPlace} (h : DataW.trod enc Tryd.prog W 0 sp true fuel 5 [c] = some x) : ∃ z : Nat, z < 256 ∧ c = .int .u8 (z : Int) ∧ x = (.lit (.int .u8 (z : Int)), []) := by
  cases fuel with
  | zero => simp [DataW.trod] at h
  | succ fuel =>
    cases c with
    | int k n =>
      simp only [DataW.trod, Tryd.underlying5] at h
      split at h
      · rename_i hk
        obtain ⟨rfl, hw⟩ := hk
        simp [Lit.wf, IntKind.min, IntKind.max, IntKind.signed, IntKind.bits] at hw
        obtain ⟨m, rfl⟩ : ∃ m : Nat, n = (m : Int) := ⟨n.toNat, by omega⟩
        exact ⟨m, by omega, rfl, (Option.some.inj h).symm⟩
      · cases h
    | _ => simp [DataW.trod, Tryd.underlying5] at h
theorem open_two {H : Type} {enc : TypeId × Value → H} {W : World} {v : Value} {d : DataW H} {ps : List MemPlace} {base : Nat} (hval : Value.okWide Tryd.prog W .any base 48 v) (h : DataW.Trod enc Tryd.prog W 0 (fun _ => true) true 48 v d ps) :
    ∃ S T : Nat, v = .agg #[.int .u8 (S : Int), .int .u8 (T : Int)] ∧ ps = [] ∧ S < 256 ∧ T < 256 ∧ ∀ (W' : World) (sp : Nat → Bool), DataW.Trod enc Tryd.prog W' 0 sp true 48 v d [] := by
  unfold Value.okWide at hval
  rw [Tryd.underlying48] at hval
  obtain ⟨cs, rfl, hsz, _⟩ := hval
  rw [cells2] at hsz
  obtain ⟨fuel, hf⟩ := h
  obtain ⟨a, b, rfl⟩ : ∃ a b, cs = #[a, b] := by
    rcases cs with ⟨l⟩
    match l, hsz with
    | [a, b], _ => exact ⟨a, b, rfl⟩
  cases fuel with
  | zero => simp [DataW.trod] at hf
  | succ fuel =>
    simp only [DataW.trod, Tryd.underlying48, Value.cells] at hf
    have hr : List.range 2 = [0, 1] := rfl
    rw [cells2, cells5, if_pos (by rfl), hr] at hf
    simp only [List.mapM_cons, List.mapM_nil, Nat.zero_mul, Nat.one_mul, List.drop_zero, List.drop_succ_cons, List.take_succ_cons, List.take_zero, bind_pure_comp, Option.pure_def, Option.bind_eq_bind, Option.map_eq_map] at hf
    obtain ⟨xs, hxs, hx⟩ := Option.map_eq_some_iff.1 hf
    obtain ⟨y0, h0, hxs⟩ := Option.bind_eq_some_iff.1 hxs
    obtain ⟨ys, hys, hxs⟩ := Option.bind_eq_some_iff.1 hxs
    obtain ⟨y1, h1, hys⟩ := Option.bind_eq_some_iff.1 hys
    obtain rfl : [y1] = ys := by simpa using hys
    obtain rfl : [y0, y1] = xs := by simpa using hxs
    obtain ⟨S, hS, rfl, rfl⟩ := trod_u8 h0
    obtain ⟨T, hT, rfl, rfl⟩ := trod_u8 h1
    simp only [Prod.mk.injEq] at hx
    obtain ⟨rfl, rfl⟩ := hx
    refine ⟨S, T, rfl, rfl, hS, hT, fun W' sp => ⟨2, ?_⟩⟩
    have w0 : (Lit.int .u8 (S : Int)).wf = true := by simp [Lit.wf, IntKind.min, IntKind.max, IntKind.signed, IntKind.bits]; omega
    have w1 : (Lit.int .u8 (T : Int)).wf = true := by simp [Lit.wf, IntKind.min, IntKind.max, IntKind.signed, IntKind.bits]; omega
    simp only [DataW.trod, Tryd.underlying48, Tryd.underlying5, Value.cells, cells2, cells5, hr]
    rw [if_pos (by rfl)]
    simp [w0, w1]

end Go.Proofs.YtgmlphfoadeboaaDoor
