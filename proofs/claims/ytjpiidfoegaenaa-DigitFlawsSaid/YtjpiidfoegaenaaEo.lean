/-
  The arguments of the laws of layer 18, opened; and read again behind the call.
-/
import Derived.Test.YtjpiidfoegaenaaEl
import Derived.OpenShut
import Derived.HandedShaped
import Derived.Deep.Slices
import Derived.ProofKit
namespace Go.Proofs.Ytjpiidfoegaenaa
open Go.ChangeShapes Go.WideShapes Go.ChangeAt Go.RowKit
set_option linter.unusedVariables false
set_option linter.unusedSimpArgs false
set_option maxRecDepth 100000

def intsV (l : List Int) : List Value := l.map (Value.int .i64)
set_option maxRecDepth 100000 in
theorem open_intsB {H : Type} {enc : TypeId × Value → H} {W : World} {v : Value} {d : DataW H} {ps : List MemPlace} {base : Nat} (hval : Value.okWide Try.prog W .any base 22 v) (h : DataW.Trod enc Try.prog W 0 (fun _ => true) true 22 v d ps)
    (hlt : ∀ x ∈ ps, x.block < W.heap.size) : ∃ A n c l, v = .slice A n c ∧ n = l.length ∧ (n ≤ c ∧ c ≤ 9223372036854775807) ∧ Cells W A (intsV l) ∧ (∀ x ∈ l, I64 x) ∧ (∃ e s, d = .slice (Go.ChangeShapes.lits .i64 e) (Go.ChangeShapes.lits .i64 s) ∧ e.length + s.length = c ∨ d = .nil ∧ c = 0) := by
  obtain ⟨A, n, c, rfl⟩ := Go.WideShapes.okWide_slice Try.underlying22 hval
  obtain ⟨fuel, hf⟩ := h
  have cells3 : Try.prog.cellsOf 3 = 1 := by kernel_rfl
  rcases Go.ChangeShapes.open_ints Try.underlying22 Try.underlying3 cells3 hf with ⟨hcs, hx⟩ | ⟨a, len, cap, zs, hcs, _, hl, hm, hz, hx, hcell, hwz⟩
  · simp [Value.cells] at hcs
    obtain ⟨rfl, rfl, rfl⟩ := hcs
    simp only [Prod.mk.injEq] at hx
    exact ⟨none, 0, 0, [], rfl, rfl, ⟨by omega, by omega⟩, fun k u hk => by simp [intsV] at hk, by simp, [], [], .inr ⟨hx.1, rfl⟩⟩
  · simp [Value.cells] at hcs
    obtain ⟨rfl, rfl, rfl⟩ := hcs
    simp only [if_true] at hz
    simp only [Prod.mk.injEq] at hx
    obtain ⟨rfl, rfl⟩ := hx
    refine ⟨some a, n, c, zs.take n, rfl, by simp; omega, ⟨hl, Nat.le_trans hm (by unfold maxLen; omega)⟩, fun k u hk => ?_, fun y hy => ?_, zs.take n, zs.drop n, .inl ⟨rfl, by simp; omega⟩⟩
    · have hkn : k < n := by
        have := (List.getElem?_eq_some_iff.1 hk).1
        simp [intsV] at this
        omega
      have hkz : k < zs.length := by omega
      refine ⟨a, rfl, hlt (.cell a.block (a.off + k)) (MemPlace.mem_row.2 ⟨k, hkz, rfl⟩), ?_⟩
      rw [hcell k hkz]
      simp only [intsV, List.getElem?_map, List.getElem?_take, hkn, if_true, List.getElem?_eq_getElem hkz, Option.map_some, Option.some.injEq] at hk
      rw [← hk]
      simp [List.getD, List.getElem?_eq_getElem hkz]
    · have := hwz y (List.mem_of_mem_take hy)
      simp [Lit.wf, IntKind.min, IntKind.max, IntKind.signed, IntKind.bits] at this
      exact ⟨this.1, this.2⟩

theorem ints_at {W : World} {A : Option Addr} {l : List Int} (h : Cells W A (intsV l)) (hi : ∀ x ∈ l, I64 x) : IntsAt W A l := by
  intro hn
  obtain ⟨x, r, rfl⟩ := List.exists_cons_of_ne_nil hn
  obtain ⟨ad, rfl, hb, _⟩ := h 0 (.int .i64 x) rfl
  refine ⟨ad, rfl, hb, fun i y hy => ?_⟩
  obtain ⟨ad', e, _, hc⟩ := h i (.int .i64 y) (by unfold intsV; rw [List.getElem?_map, hy]; rfl)
  injection e with e
  subst e
  exact ⟨hc, hi y (List.mem_of_getElem? hy)⟩
theorem own : ownKnob Try.prog.godebug = none := by kernel_rfl
theorem open_i64 {H : Type} {enc : TypeId × Value → H} {W : World} {v : Value} {d : DataW H} {ps : List MemPlace} {base : Nat} (hval : Value.okWide Try.prog W .any base 3 v) (h : DataW.Trod enc Try.prog W 0 (fun _ => true) true 3 v d ps) :
    ∃ x : Int, v = .int .i64 x ∧ -9223372036854775808 ≤ x ∧ x ≤ 9223372036854775807 := by
  obtain ⟨x, rfl, _, _, w0⟩ := open_int Try.underlying3 hval h
  simp [Lit.wf, IntKind.min, IntKind.max, IntKind.signed, IntKind.bits] at w0
  exact ⟨x, rfl, w0.1, w0.2⟩
theorem open_u8 {H : Type} {enc : TypeId × Value → H} {W : World} {v : Value} {d : DataW H} {ps : List MemPlace} {base : Nat} (hval : Value.okWide Try.prog W .any base 5 v) (h : DataW.Trod enc Try.prog W 0 (fun _ => true) true 5 v d ps) :
    ∃ b : Nat, v = .int .u8 (b : Int) ∧ b < 256 := by
  obtain ⟨x, rfl, _, _, w0⟩ := open_int Try.underlying5 hval h
  simp [Lit.wf, IntKind.min, IntKind.max, IntKind.signed, IntKind.bits] at w0
  exact ⟨x.toNat, by rw [Int.toNat_of_nonneg w0.1], by omega⟩
theorem open_str {H : Type} {enc : TypeId × Value → H} {W : World} {v : Value} {d : DataW H} {ps : List MemPlace} {base : Nat} (hval : Value.okWide Try.prog W .any base 9 v) (h : DataW.Trod enc Try.prog W 0 (fun _ => true) true 9 v d ps) :
    ∃ s : ByteArray, v = .string s := by
  obtain ⟨s, rfl, _⟩ := Go.ChangeMaps.open_string Try.underlying9 hval h
  exact ⟨s, rfl⟩
theorem laidOut : laidOutB Try.prog = true := by kernel_rfl
theorem keepAll {H : Type} {enc : TypeId × Value → H} {W W' : World} (hb : Below W.heap.size W W') : ∀ (ts : List TypeId) (vs : List Value) (ds : List (DataW H)) (ps : List MemPlace), (∀ t ∈ ts, Try.prog.readableRec t = true ∧ t < Try.prog.types.size) →
    DataW.TrodAll enc Try.prog W 0 (fun _ => true) true ts vs ds ps → (∀ x ∈ ps, x.block < W.heap.size) → DataW.TrodAll enc Try.prog W' 0 (fun b => decide (b < W.heap.size)) true ts vs ds ps
  | [], vs, ds, ps, _, h, _ => by
    obtain ⟨rfl, rfl, rfl⟩ := trodAll_nil h
    exact trodAll_mk0
  | t :: ts, vs, ds, ps, ht, h, hl => by
    obtain ⟨v, vs', d, ds', p, q, rfl, rfl, rfl, h1, h2⟩ := trodAll_cons h
    have hr := ht t List.mem_cons_self
    exact trodAll_cons_mk (Below.trod laidOut hr.1 hr.2 h1 hb (fun x hx => hl x (List.mem_append_left _ hx))) (keepAll hb ts vs' ds' q (fun t' h' => ht t' (List.mem_cons_of_mem _ h')) h2 (fun x hx => hl x (List.mem_append_right _ hx)))

end Go.Proofs.Ytjpiidfoegaenaa
