/-
  A certificate as an argument, opened.
-/
import Derived.Test.YtacdjchkilheiaaDo
import Derived.Test.YtacdjchkilheiaaDq
import Derived.Lib.SmallJoins
namespace Go.Proofs.Ytacdjchkilheiaa
open Go.ChangeShapes Go.WideShapes Go.ChangeAt Go.RowKit
set_option linter.unusedVariables false
set_option linter.unusedSimpArgs false

set_option maxRecDepth 100000 in
theorem open_intsT {H : Type} {enc : TypeId × Value → H} {W : World} {v : Value} {n : Nat} {y : DataW H × List MemPlace} (h : DataW.trod enc Try.prog W 0 (fun _ => true) true n 22 [v] = some y)
    (hlt : ∀ x ∈ y.2, x.block < W.heap.size) : ∃ A n c, v = .slice A n c ∧ IntsX W (A, n, c) := by
  have cells3 : Try.prog.cellsOf 3 = 1 := by kernel_rfl
  rcases Go.ChangeShapes.open_ints Try.underlying22 Try.underlying3 cells3 h with ⟨hcs, hx⟩ | ⟨a, len, cap, zs, hcs, _, hl, hm, hz, hx, hcell, hwz⟩
  · injection hcs with hcs _
    subst hcs
    exact ⟨none, 0, 0, rfl, [], rfl, fun h => absurd rfl h, Nat.zero_le _⟩
  · injection hcs with hcs _
    subst hcs
    simp only [if_true] at hz
    subst hx
    refine ⟨some a, len, cap, rfl, zs.take len, by show (zs.take len).length = len; rw [List.length_take]; omega, ?_, by show len ≤ _; unfold maxLen at hm; omega⟩
    have hI : ∀ y ∈ zs.take len, I64 y := fun y hy => by
      have := hwz y (List.mem_of_mem_take hy)
      simp [Lit.wf, IntKind.min, IntKind.max, IntKind.signed, IntKind.bits] at this
      exact ⟨this.1, this.2⟩
    intro hne
    have h0 : 0 < zs.length := by
      rcases zs with _ | ⟨z, r⟩
      · exact absurd (by simp) hne
      · simp
    refine ⟨a, rfl, hlt (.cell a.block (a.off + 0)) (MemPlace.mem_row.2 ⟨0, h0, rfl⟩), fun i x hx => ?_⟩
    rw [List.getElem?_take] at hx
    split at hx
    · have hi := (List.getElem?_eq_some_iff.1 hx).1
      refine ⟨?_, hI x (List.mem_of_getElem? (i := i) (by rw [List.getElem?_take, if_pos (by assumption)]; exact hx))⟩
      rw [hcell i hi, List.getD_eq_getElem?_getD, hx]
      rfl
    · cases hx
set_option maxRecDepth 100000 in
theorem open_cert {H : Type} {enc : TypeId × Value → H} {W : World} {v : Value} {d : DataW H} {ps : List MemPlace} {base : Nat} (hval : Value.okWide Try.prog W .any base 28 v) (h : DataW.Trod enc Try.prog W 0 (fun _ => true) true 28 v d ps)
    (hlt : ∀ x ∈ ps, x.block < W.heap.size) : ∃ (re : Option Addr) (rne rce : Nat) (rl : Option Addr) (rnl rcl : Nat) (rc : Option Addr) (rnc rcc : Nat), v = .agg #[.slice re rne rce, .slice rl rnl rcl, .slice rc rnc rcc] ∧ CtX W ((re, rne, rce), (rl, rnl, rcl), (rc, rnc, rcc)) := by
  have cells : Try.prog.cellsOf 28 = 3 := by kernel_rfl
  obtain ⟨c0, c1, c2, y0, y1, y2, m, rfl, rfl, rfl, h0, h1, h2⟩ := Go.Joins.open_agg3 Try.underlying28 (by kernel_rfl) cells hval h
  obtain ⟨A0, n0, k0, rfl, i0⟩ := open_intsT h0 (fun x hx => hlt x (by simp [hx]))
  obtain ⟨A1, n1, k1, rfl, i1⟩ := open_intsT h1 (fun x hx => hlt x (by simp [hx]))
  obtain ⟨A2, n2, k2, rfl, i2⟩ := open_intsT h2 (fun x hx => hlt x (by simp [hx]))
  exact ⟨A0, n0, k0, A1, n1, k1, A2, n2, k2, rfl, i0, i1, i2⟩
end Go.Proofs.Ytacdjchkilheiaa
