/-
  An argument that is a list of sheets, opened; how many there are, by what the second form counts.
-/
import Derived.Test.YtahmpagolmodhaaKo
import Derived.Deep.Strs
import Derived.JoinedCond
namespace Go.Proofs.Ytahmpagolmodhaa
open Go.ChangeShapes Go.WideShapes Go.ChangeAt Go.RowKit
set_option linter.unusedVariables false
set_option linter.unusedSimpArgs false

theorem cellsI : Try.prog.cellsOf 3 = 1 := by kernel_rfl
theorem cellsP : Try.prog.cellsOf 25 = 2 := by kernel_rfl
theorem cellsSh : Try.prog.cellsOf 64 = 5 := by kernel_rfl
theorem trod_int {H : Type} {enc : TypeId × Value → H} {W : World} {sp : Nat → Bool} {hd : Bool} {fuel : Nat} {c : Value} {x : DataW H × List MemPlace} (h : DataW.trod enc Try.prog W 0 sp hd fuel 3 [c] = some x) : ∃ s, c = .int .i64 s := by
  cases fuel with
  | zero => simp [DataW.trod] at h
  | succ fuel =>
    cases c with
    | int k s =>
      simp [DataW.trod, Try.underlying3] at h
      obtain ⟨⟨rfl, _⟩, _⟩ := h
      exact ⟨s, rfl⟩
    | _ => simp [DataW.trod, Try.underlying3] at h
theorem trod_two {H : Type} {enc : TypeId × Value → H} {W : World} {sp : Nat → Bool} {hd : Bool} {fuel : Nat} {a b : Value} {x : DataW H × List MemPlace} (h : DataW.trod enc Try.prog W 0 sp hd fuel 25 [a, b] = some x) : ∃ s t, a = .int .i64 s ∧ b = .int .i64 t := by
  cases fuel with
  | zero => simp [DataW.trod] at h
  | succ fuel =>
    have hr : List.range 2 = [0, 1] := rfl
    simp only [DataW.trod, Try.underlying25] at h
    rw [cellsP, cellsI, if_pos (by rfl), hr] at h
    simp only [List.mapM_cons, List.mapM_nil, Nat.zero_mul, Nat.one_mul, List.drop_zero, List.drop_succ_cons, List.take_succ_cons, List.take_zero, bind_pure_comp, Option.pure_def, Option.bind_eq_bind, Option.map_eq_map] at h
    obtain ⟨xs, hxs, hx⟩ := Option.map_eq_some_iff.1 h
    obtain ⟨y0, h0, hxs⟩ := Option.bind_eq_some_iff.1 hxs
    obtain ⟨ys, hys, hxs⟩ := Option.bind_eq_some_iff.1 hxs
    obtain ⟨y1, h1, hys⟩ := Option.bind_eq_some_iff.1 hys
    obtain ⟨s, rfl⟩ := trod_int h0
    obtain ⟨t, rfl⟩ := trod_int h1
    exact ⟨s, t, rfl, rfl⟩
theorem trod_sheet {H : Type} {enc : TypeId × Value → H} {W : World} {sp : Nat → Bool} {hd : Bool} {fuel : Nat} {cs : List Value} {x : DataW H × List MemPlace} (h : DataW.trod enc Try.prog W 0 sp hd fuel 64 cs = some x) : ∃ s : Sh, cs = shV s := by
  obtain ⟨y0, y1, y2, n, _, hl, h0, h1, h2⟩ := Go.Deep.trod_struct3 Try.underlying64 h
  rw [cellsSh] at hl
  obtain ⟨u0, u1, u2, u3, u4, rfl⟩ : ∃ u0 u1 u2 u3 u4, cs = [u0, u1, u2, u3, u4] := by
    match cs, hl with
    | [a, b, c, d, e], _ => exact ⟨a, b, c, d, e, rfl⟩
  rw [cellsI] at h0
  rw [cellsP] at h1 h2
  obtain ⟨q, rfl⟩ := trod_int h0
  obtain ⟨fa, fb, rfl, rfl⟩ := trod_two h1
  obtain ⟨ba, bb, rfl, rfl⟩ := trod_two h2
  exact ⟨⟨q, fa, fb, ba, bb⟩, rfl⟩
set_option maxRecDepth 100000 in
theorem open_sheets {H : Type} {enc : TypeId × Value → H} {W : World} {v : Value} {d : DataW H} {ps : List MemPlace} {base : Nat} (hval : Value.okWide Try.prog W .any base 22 v) (h : DataW.Trod enc Try.prog W 0 (fun _ => true) true 22 v d ps)
    (hlt : ∀ x ∈ ps, x.block < W.heap.size) : ∃ A n c ls, v = .slice A n c ∧ ls.length = n ∧ n ≤ c ∧ n ≤ 9223372036854775807 ∧ At shE W A ls ∧ (n = 0 ∨ ∃ e s, d = .slice e s ∧ e.length = n) := by
  obtain ⟨A, n, c, rfl⟩ := Go.WideShapes.okWide_slice Try.underlying22 hval
  obtain ⟨fuel, hf⟩ := h
  rcases Go.Deep.open_slice Try.underlying22 hf with ⟨hcs, hx⟩ | ⟨a, len, cap, m, n0, D, Pl, hcs, _, hl, hm, hmm, hx, hall⟩
  · simp [Value.cells] at hcs
    obtain ⟨rfl, rfl, rfl⟩ := hcs
    exact ⟨none, 0, 0, [], rfl, rfl, by omega, by omega, fun h => absurd rfl h, .inl rfl⟩
  · simp [Value.cells] at hcs
    obtain ⟨rfl, rfl, rfl⟩ := hcs
    simp only [if_true] at hmm
    subst hmm
    simp only [Prod.mk.injEq] at hx
    obtain ⟨rfl, rfl⟩ := hx
    have hcell : ∀ i, i < n → ∃ s : Sh, ∀ j u, (shV s)[j]? = some u → W.cell? ((a.add (i * 5)).add j) = some u := by
      intro i hi
      obtain ⟨cs', h1, h2⟩ := hall i (by omega)
      rw [cellsSh] at h1
      obtain ⟨_, hlen, hc⟩ := World.cells?_some h1
      obtain ⟨s, rfl⟩ := trod_sheet h2
      refine ⟨s, fun j u hu => ?_⟩
      have hj : j < 5 := (List.getElem?_eq_some_iff.1 hu).1
      rw [hc j hj, hu]
    have hch : ∀ i, ∃ s : Sh, i < n → ∀ j u, (shV s)[j]? = some u → W.cell? ((a.add (i * 5)).add j) = some u := fun i => by
      rcases Nat.lt_or_ge i n with h | h
      · obtain ⟨s, hs⟩ := hcell i h
        exact ⟨s, fun _ => hs⟩
      · exact ⟨⟨0, 0, 0, 0, 0⟩, fun h' => absurd h' (by omega)⟩
    obtain ⟨f, hfs⟩ := Classical.axiomOfChoice hch
    refine ⟨some a, n, _, (List.range n).map f, rfl, by simp, hl, by unfold maxLen at hm; omega, fun hne => ?_, .inr ⟨_, _, rfl, by simp⟩⟩
    have hn0 : 0 < n := by
      rcases Nat.eq_zero_or_pos n with h0 | h0
      · rw [h0] at hne; exact absurd rfl hne
      · exact h0
    have hsp : a.spot = none := by
      have h1 := hfs 0 hn0 0 _ rfl
      rw [Nat.zero_mul] at h1
      unfold World.cell? Addr.add at h1
      rw [if_pos rfl] at h1
      simp only [↓reduceIte] at h1
      split at h1
      · split at h1
        · cases h1
        · rename_i hs
          simpa using hs
      · cases h1
    obtain ⟨b, o, sp⟩ := a
    dsimp only at hsp
    subst hsp
    have had : ∀ o k, Addr.add ⟨b, o, none⟩ k = ⟨b, o + k, none⟩ := fun o k => by
      unfold Addr.add
      split
      · rename_i h0; rw [h0, Nat.add_zero]
      · rfl
    have hbl : b < W.heap.size := hlt (.cell b o) (by
      refine List.mem_append_left _ ?_
      exact MemPlace.mem_row.2 ⟨0, by rw [cellsSh]; omega, by simp⟩)
    refine ⟨b, o, rfl, hbl, fun i x j u hx hu => ?_⟩
    rw [List.getElem?_map] at hx
    obtain ⟨i', hi', rfl⟩ := Option.map_eq_some_iff.1 hx
    have hin : i < n := by
      have := (List.getElem?_eq_some_iff.1 hi').1
      simpa using this
    obtain rfl : i = i' := by
      rw [List.getElem?_range hin] at hi'
      exact Option.some.inj hi'
    have := hfs i hin j u hu
    rw [had, had] at this
    exact this
end Go.Proofs.Ytahmpagolmodhaa
