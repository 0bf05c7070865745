/-
  passimref02.Joined returns the concatenation of pieces, and Few tells whether there are few of them.
-/
import Derived.Test.YtgmlphfoadeboaaDoorHo
namespace Go.Proofs.YtgmlphfoadeboaaDoor
open Go.RowKit
set_option linter.unusedVariables false
set_option linter.unusedSimpArgs false

theorem sb_cat (a b : ByteArray) : sb (a ++ b) = sb a ++ sb b := by
  simp [sb]
/-- The pieces' bytes before piece k. -/
def catK (ps : List ByteArray) (k : Nat) : List Nat := ((sbs ps).take k).flatten
theorem catK_zero (ps : List ByteArray) : catK ps 0 = [] := rfl
theorem catK_step (ps : List ByteArray) (k : Nat) (h : k < ps.length) : catK ps k ++ sb ps[k] = catK ps (k + 1) := by
  unfold catK
  have h' : k < (sbs ps).length := by simpa [sbs] using h
  rw [List.take_add_one, List.getElem?_eq_getElem h', List.flatten_append]
  simp [sbs]
theorem catK_len (ps : List ByteArray) (ht : ∀ s ∈ ps, s.size ≤ 1048576) : ∀ k, k ≤ ps.length → (catK ps k).length ≤ k * 1048576
  | 0, _ => by rw [catK_zero]; simp
  | k + 1, h => by
    rw [← catK_step ps k (by omega), List.length_append, sb_length]
    have h1 := catK_len ps ht k (by omega)
    have h2 := ht ps[k] (List.getElem_mem _)
    omega
theorem catK_all (ps : List ByteArray) : catK ps ps.length = (sbs ps).flatten := by
  unfold catK
  rw [List.take_of_length_le (by simp [sbs])]

set_option maxHeartbeats 1000000 in
set_option maxRecDepth 100000 in
theorem joined_any (A : Option Addr) (ps : List ByteArray) (n c : Nat) (w : World) (hn : n = ps.length) (hl : ps.length ≤ 1048576) (ht : ∀ s ∈ ps, s.size ≤ 1048576) (hr : Cells w A (strsV ps)) :
    Calls Tryd.prog 16 #[.slice A n c] w fun e w' => (∃ s, e = .returned (.string s) ∧ sb s = (sbs ps).flatten) ∧ Below w.heap.size w w' := by
  subst hn
  go_enter Tryd.func16, Tryd.ntmps16
  go_wp2
  go_loopw [3, 4] (fun v i wr => ∃ k : Nat, k ≤ ps.length ∧ i = .int .i64 k ∧ ∃ s, v = .string s ∧ Hid (sb s = catK ps k) ∧ Below w.heap.size w wr) (fun _ i _ => ps.length - (intOf i).toNat)
  case atStart => exact ⟨0, by omega, rfl, _, rfl, Lib.hid (by rw [catK_zero]; rfl), Below.refl _ _⟩
  case round =>
    obtain ⟨k, hk, rfl, s, rfl, HS, hB⟩ := hrel
    by_cases hlt : k < ps.length
    · obtain ⟨ad, e, hbl, hcell⟩ := (hr.keep hB) k (.string ps[k]) (by simp [strsV, List.getElem?_eq_getElem hlt])
      subst e
      have hst : sb (s ++ ps[k]) = catK ps (k + 1) := by rw [sb_cat, HS.out]; exact catK_step ps k hlt
      have hxs := ht ps[k] (List.getElem_mem hlt)
      have hss : s.size ≤ 1099511627776 := by
        have := catK_len ps ht k hk
        rw [← HS.out, sb_length] at this
        omega
      generalize ps[k] = x at hcell hst hxs
      have hcat : s.size + x.size ≤ 9223372036854775807 := by omega
      have HT := Lib.hid hst
      clear hst
      go_wp2
      go_roundw
      case rel => exact ⟨k + 1, by omega, by go_num, _, rfl, HT, hB⟩
      case measure => simp [intOf]; omega
    · obtain rfl : ps.length = k := by omega
      go_wp2
      go_ret
      exact ⟨⟨s, rfl, by rw [HS.out, catK_all]⟩, hB⟩

def fewB (ps : List ByteArray) : Bool := decide (ps.length ≤ 12) && ps.all fun s => decide (s.size ≤ 400)
theorem fewB_iff (ps : List ByteArray) : fewB ps = true ↔ ps.length ≤ 12 ∧ ∀ s ∈ ps, s.size ≤ 400 := by
  unfold fewB
  simp

set_option maxHeartbeats 1000000 in
set_option maxRecDepth 100000 in
theorem few_any (A : Option Addr) (ps : List ByteArray) (n c : Nat) (w : World) (hn : n = ps.length) (hr : Cells w A (strsV ps)) :
    Calls Tryd.prog 13 #[.slice A n c] w fun e w' => e = .returned (.bool (fewB ps)) ∧ Below w.heap.size w w' := by
  subst hn
  by_cases h12 : ps.length ≤ 12
  · have hd : decide ((12 : Int) < (ps.length : Int)) = false := by simp only [decide_eq_false_iff_not]; omega
    go_enter Tryd.func13, Tryd.ntmps13
    go_wp2
    go_loopw [3] (fun i wr => ∃ k : Nat, k ≤ ps.length ∧ i = .int .i64 k ∧ Hid (∀ j (h : j < ps.length), j < k → ps[j].size ≤ 400) ∧ Below w.heap.size w wr) (fun i _ => ps.length - (intOf i).toNat)
    case atStart => exact ⟨0, by omega, rfl, Lib.hid (fun j _ h => by omega), Below.refl _ _⟩
    case round =>
      obtain ⟨k, hk, rfl, HS, hB⟩ := hrel
      by_cases hlt : k < ps.length
      · obtain ⟨ad, e, hbl, hcell⟩ := (hr.keep hB) k (.string ps[k]) (by simp [strsV, List.getElem?_eq_getElem hlt])
        subst e
        have hmem := List.getElem_mem hlt
        by_cases hx : ps[k].size ≤ 400
        · have hst : ∀ j (h : j < ps.length), j < k + 1 → ps[j].size ≤ 400 := fun j h hj => by
            rcases Nat.lt_or_ge j k with h1 | h1
            · exact HS.out j h h1
            · obtain rfl : j = k := by omega
              exact hx
          have HT := Lib.hid hst
          clear hst hmem
          generalize ps[k] = x at hcell hx
          go_wp2
          go_roundw
          case rel => exact ⟨k + 1, by omega, by go_num, HT, hB⟩
          case measure => simp [intOf]; omega
        · have hf : fewB ps = false := by
            rw [Bool.eq_false_iff]
            intro h
            exact hx ((fewB_iff ps).1 h |>.2 _ hmem)
          have HF := Lib.hid hf
          clear hf hmem
          have hx2 : decide ((400 : Int) < (ps[k].size : Int)) = true := by simp; omega
          generalize ps[k] = x at hcell hx hx2
          go_wp2
          go_ret
          exact ⟨by rw [HF.out]; rfl, hB⟩
      · have hf : fewB ps = true := (fewB_iff ps).2 ⟨h12, fun s hs => by
          obtain ⟨j, hj, rfl⟩ := List.getElem_of_mem hs
          exact HS.out j hj (by omega)⟩
        have HF := Lib.hid hf
        clear hf
        obtain rfl : ps.length = k := by omega
        go_wp2
        go_ret
        exact ⟨by rw [HF.out]; rfl, hB⟩
  · have hd : decide ((12 : Int) < (ps.length : Int)) = true := by simp; omega
    have hf : fewB ps = false := by
      rw [Bool.eq_false_iff]
      intro h
      exact h12 ((fewB_iff ps).1 h).1
    have HF := Lib.hid hf
    clear hf
    go_enter Tryd.func13, Tryd.ntmps13
    go_wp2
    go_ret
    exact ⟨by rw [HF.out]; rfl, Below.refl _ _⟩

end Go.Proofs.YtgmlphfoadeboaaDoor
