/-
  Arguments opened: lists of strings and of digests; what the second form's bound says of them.
-/
import Derived.Test.YtpglfjfgnmaipaaWSame
import Derived.SliceStrings
import Derived.OpenShut
import Derived.Deep.Slices
namespace Go.Proofs.Ytpglfjfgnmaipaa
open Go.RowKit

theorem bulk_strs {H : Type} (l : List ByteArray) : Rows.uptoBulkAll (Go.ChangeShapes.strs (H := H) l) = l.length + tot (sbs l) := by
  induction l with
  | nil => simp [Go.ChangeShapes.strs, Rows.uptoBulkAll, tot, sbs]
  | cons a l ih =>
    simp only [Go.ChangeShapes.strs, sbs, tot] at ih
    have e : a.data.toList.length = a.size := Array.length_toList
    simp only [Go.ChangeShapes.strs, List.map_cons, Rows.uptoBulkAll, Rows.uptoBulk, sbs, tot, List.foldr_cons, List.length_cons, sb_length]
    rw [ih, e]
    omega
theorem bulk_len {H : Type} (l : List (DataW H)) : l.length ≤ Rows.uptoBulkAll l := by
  induction l with
  | nil => simp
  | cons x r ih =>
    have h1 : 1 ≤ Rows.uptoBulk x := by
      unfold Rows.uptoBulk
      split <;> omega
    simp only [Rows.uptoBulkAll, List.length_cons]
    omega

/-- A []string argument, opened. -/
theorem open_textsV {H : Type} {enc : TypeId × Value → H} {W : World} {v : Value} {d : DataW H} {ps : List MemPlace} (hval : Value.okWide Try.prog W .any 0 23 v) (h : DataW.Trod enc Try.prog W 0 (fun _ => true) true 23 v d ps)
    (hlt : ∀ x ∈ ps, x.block < W.heap.size) : ∃ A n c l, v = .slice A n c ∧ n = l.length ∧ n ≤ c ∧ Cells W A (strsV l) ∧ (∀ s ∈ l, s.size ≤ 9223372036854775807) ∧
      (∃ ss, d = .slice (Go.ChangeShapes.strs l) (Go.ChangeShapes.strs ss) ∧ l.length + ss.length = c ∨ d = .nil ∧ c = 0) := by
  obtain ⟨A, n, c, rfl⟩ := Go.WideShapes.okWide_slice Try.underlying23 hval
  obtain ⟨fuel, hf⟩ := h
  have cells1 : Try.prog.cellsOf 9 = 1 := by kernel_rfl
  rcases Go.ChangeShapes.open_strings Try.underlying23 Try.underlying9 cells1 hf with ⟨hcs, hx⟩ | ⟨a, len, cap, ss, hcs, _, hl, hm, hz, hx, hcell, hwz⟩
  · simp [Value.cells] at hcs
    obtain ⟨rfl, rfl, rfl⟩ := hcs
    simp only [Prod.mk.injEq] at hx
    exact ⟨none, 0, 0, [], rfl, rfl, by omega, fun k u hk => by simp [strsV] at hk, by simp, [], .inr ⟨hx.1, rfl⟩⟩
  · simp [Value.cells] at hcs
    obtain ⟨rfl, rfl, rfl⟩ := hcs
    simp only [if_true] at hz
    simp only [Prod.mk.injEq] at hx
    obtain ⟨rfl, rfl⟩ := hx
    refine ⟨some a, n, c, ss.take n, rfl, by simp; omega, hl, fun k u hk => ?_, fun s hs => ?_, ss.drop n, .inl ⟨rfl, by simp; omega⟩⟩
    · have hkn : k < n := by
        have := (List.getElem?_eq_some_iff.1 hk).1
        simp [strsV] at this
        omega
      have hkz : k < ss.length := by omega
      refine ⟨a, rfl, hlt (.cell a.block (a.off + k)) (MemPlace.mem_row.2 ⟨k, hkz, rfl⟩), ?_⟩
      rw [hcell k hkz]
      simp only [strsV, List.getElem?_map, List.getElem?_take, hkn, if_true, List.getElem?_eq_getElem hkz, Option.map_some, Option.some.injEq] at hk
      rw [← hk]
      simp [List.getD, List.getElem?_eq_getElem hkz]
    · have := hwz s (List.mem_of_mem_take hs)
      unfold maxLen at this
      omega

theorem bytes_of_cells (cs : List Value) (h : ∀ j, j < cs.length → ∃ z : Int, 0 ≤ z ∧ z < 256 ∧ cs[j]? = some (.int .u8 z)) : bytesV (cs.map fun v => (intOf v).toNat) = cs ∧ ∀ y ∈ cs.map (fun v => (intOf v).toNat), y < 256 := by
  constructor
  · apply List.ext_getElem?
    intro j
    by_cases hj : j < cs.length
    · obtain ⟨z, h0, h1, h2⟩ := h j hj
      simp only [bytesV, List.map_map, List.getElem?_map, h2, Option.map_some, Function.comp, intOf, byteV, Option.some.injEq, Value.int.injEq, true_and]
      omega
    · rw [List.getElem?_eq_none (by simpa [bytesV] using hj), List.getElem?_eq_none (by omega)]
  · intro y hy
    obtain ⟨v, hv, rfl⟩ := List.mem_map.1 hy
    obtain ⟨j, hj, rfl⟩ := List.mem_iff_getElem.1 hv
    obtain ⟨z, h0, h1, h2⟩ := h j hj
    rw [List.getElem?_eq_getElem hj, Option.some.injEq] at h2
    rw [h2]
    simp only [intOf]
    omega

/-- A []api.Digest argument, opened. -/
theorem open_digsV {H : Type} {enc : TypeId × Value → H} {W : World} {v : Value} {d : DataW H} {ps : List MemPlace} (hval : Value.okWide Try.prog W .any 0 24 v) (h : DataW.Trod enc Try.prog W 0 (fun _ => true) true 24 v d ps)
    (hlt : ∀ x ∈ ps, x.block < W.heap.size) : ∃ A n c l, v = .slice A n c ∧ n = l.length ∧ n ≤ c ∧ DCells W A l ∧ (∀ x ∈ l, Dig x) ∧ (∃ es ss, d = .slice es ss ∧ es.length = l.length ∧ es.length + ss.length = c ∨ d = .nil ∧ c = 0) := by
  obtain ⟨A, n, c, rfl⟩ := Go.WideShapes.okWide_slice Try.underlying24 hval
  obtain ⟨fuel, hf⟩ := h
  have cells16 : Try.prog.cellsOf 57 = 16 := by kernel_rfl
  have cells1 : Try.prog.cellsOf 5 = 1 := by kernel_rfl
  rcases Go.Deep.open_slice Try.underlying24 hf with ⟨hcs, hx⟩ | ⟨a, len, cap, m, q, D, Pl, hcs, _, hl, hm, hmm, hx, hel⟩
  · simp [Value.cells] at hcs
    obtain ⟨rfl, rfl, rfl⟩ := hcs
    simp only [Prod.mk.injEq] at hx
    exact ⟨none, 0, 0, [], rfl, rfl, by omega, fun k u hk => by simp at hk, by simp, [], [], .inr ⟨hx.1, rfl⟩⟩
  · simp [Value.cells] at hcs
    obtain ⟨rfl, rfl, rfl⟩ := hcs
    simp only [if_true] at hmm
    subst hmm
    simp only [Prod.mk.injEq] at hx
    obtain ⟨rfl, rfl⟩ := hx
    have each : ∀ i, i < n → ∃ y : List Nat, Dig y ∧ ∀ j u, (bytesV y)[j]? = some u → W.cell? (a.add (i * 16 + j)) = some u := by
      intro i hi
      obtain ⟨cs', h1, h2⟩ := hel i (by omega)
      rw [cells16] at h1
      obtain ⟨_, hlen, hc⟩ := World.cells?_some h1
      obtain ⟨xs, m', _, _, _, hxl, hxx⟩ := DataW.trod_array Try.underlying57 h2
      have byte : ∀ j, j < cs'.length → ∃ z : Int, 0 ≤ z ∧ z < 256 ∧ cs'[j]? = some (.int .u8 z) := by
        intro j hj
        have e := hxx j (by omega)
        rw [cells1, Nat.mul_one, List.getElem?_eq_getElem (by omega)] at e
        obtain ⟨z, hz, _, hwf⟩ := DataW.trod_int Try.underlying5 e
        simp [Lit.wf, IntKind.min, IntKind.max, IntKind.signed, IntKind.bits] at hwf
        refine ⟨z, by omega, by omega, ?_⟩
        have := congrArg (fun l => l[0]?) hz
        simpa [List.getElem?_take, List.getElem?_drop] using this
      obtain ⟨hb, hb2⟩ := bytes_of_cells cs' byte
      refine ⟨_, ⟨by rw [List.length_map]; exact hlen, hb2⟩, fun j u hu => ?_⟩
      rw [hb] at hu
      have hj : j < 16 := by have := (List.getElem?_eq_some_iff.1 hu).1; omega
      rw [← add_add, hc j hj]
      exact hu
    obtain ⟨f, hF⟩ := Go.Deep.choose_lt each
    have hlen : ∀ k u, ((List.range n).map f)[k]? = some u → k < n ∧ u = f k := by
      intro k u hk
      rw [List.getElem?_map] at hk
      by_cases hkn : k < n
      · rw [List.getElem?_range hkn] at hk
        exact ⟨hkn, by simpa using hk.symm⟩
      · rw [List.getElem?_eq_none (by simpa using hkn)] at hk
        simp at hk
    refine ⟨some a, n, _, (List.range n).map f, rfl, by simp, hl, fun k u hk => ?_, fun y hy => ?_, _, _, .inl ⟨rfl, by simp, by simp; omega⟩⟩
    · obtain ⟨hkn, rfl⟩ := hlen k u hk
      refine ⟨(hF k hkn).1, a, rfl, ?_, (hF k hkn).2⟩
      refine hlt (.cell a.block (a.off + 0)) (List.mem_append_left _ (MemPlace.mem_row.2 ⟨0, ?_, rfl⟩))
      rw [cells16]
      omega
    · obtain ⟨k, hk⟩ := List.mem_iff_getElem?.1 hy
      obtain ⟨hkn, rfl⟩ := hlen k y hk
      exact (hF k hkn).1

end Go.Proofs.Ytpglfjfgnmaipaa
