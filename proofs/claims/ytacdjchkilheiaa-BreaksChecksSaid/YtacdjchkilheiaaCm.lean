/-
  Ends of the reference: some ends.
-/
import Derived.Test.YtacdjchkilheiaaCj
namespace Go.Proofs.Ytacdjchkilheiaa
open Go.RowKit
set_option linter.unusedVariables false
set_option linter.unusedSimpArgs false

def EnRelR (n B : Nat) (W : World) (v5 v6 : Value) (wr : World) : Prop := ∃ (k : Nat) (acc : List Int), v6 = .int .i64 (k : Int) ∧ 1 ≤ k ∧ (k ≤ n ∨ k = 1) ∧ acc.length ≤ k ∧ (∀ x ∈ acc, 0 ≤ x ∧ x ≤ (n : Int)) ∧ OwnR intE wr B v5 acc ∧ Below B W wr
def EndsR (n : Nat) (w : World) (e : Ending) (w' : World) : Prop := ∃ L : List Int, L.length ≤ n + 2 ∧ (∀ x ∈ L, 0 ≤ x ∧ x ≤ (n : Int)) ∧ MadeR intE L w e w'
theorem in_snoc {n : Nat} {acc : List Int} {x : Int} (h : ∀ x ∈ acc, 0 ≤ x ∧ x ≤ (n : Int)) (h1 : 0 ≤ x) (h2 : x ≤ (n : Int)) : ∀ y ∈ acc ++ [x], 0 ≤ y ∧ y ≤ (n : Int) := fun y hy => by
  rcases List.mem_append.1 hy with g | g
  · exact h y g
  · rw [List.mem_singleton.1 g]; exact ⟨h1, h2⟩

set_option maxHeartbeats 2000000 in
set_option maxRecDepth 100000 in
theorem ends_any (n : Nat) (hn : n ≤ 9) (bits : Int) (w : World) :
    Calls Try.prog 18 #[.int .i64 (n : Int), .int .i64 bits] w (EndsR n w) := by
  go_enter Try.func18, Try.ntmps18
  go_wp2
  go_loopw [5, 6] (fun v5 v6 wr => EnRelR n w.heap.size w v5 v6 wr) (fun _ v _ => n - (intOf v).toNat)
  case atStart => exact ⟨1, [], rfl, Nat.le_refl _, Or.inr rfl, Nat.zero_le _, fun x h => (by cases h), OwnR.nil _ _ _, Below.refl _ _⟩
  case round =>
    obtain ⟨k, acc, rfl, hk1, hk, hal, hIn, hO, hB⟩ := hrel
    have hz := hB.size
    rcases Nat.lt_or_ge k n with hlt | hge
    · have hm : ((k : Int).tmod 16) = (k : Int) := by rw [Int.tmod_eq_emod_of_nonneg (by omega)]; omega
      rcases hb : (Go.bits BinOp.and IntKind.i64 (bits / 2 ^ k) 1 == 1) with _ | _
      · go_wp2
        exact ⟨⟨k + 1, acc, by go_num, by omega, by omega, by omega, hIn, hO, hB⟩, by simp [intOf]; omega⟩
      · have hl6 : acc.length ≤ n := by omega
        go_wp2_with (at_builtin; refine push_el intE rfl (.tmp 18) (.tmp 20) rfl acc (k : Int) _ rfl hO hz _ rfl _ rfl (by omega) ?_; intro v6 W6 hO6 hB7 hR6)
        exact ⟨⟨k + 1, acc ++ [(k : Int)], by go_num, by omega, by omega, by rw [List.length_append]; simp; omega, in_snoc hIn (by omega) (by omega), hO6, hB.trans hB7⟩, by simp [intOf]; omega⟩
    · have hlt : ¬ (k : Int) < (n : Int) := by omega
      rcases Nat.eq_zero_or_pos n with h0 | h0
      · subst h0
        go_wp2
        go_ret
        exact ⟨acc, by omega, hIn, _, rfl, hO, hB⟩
      · have h00 : (0 : Int) < (n : Int) := by omega
        have hl6 : acc.length ≤ n := by omega
        go_wp2_with (at_builtin; refine push_el intE rfl (.tmp 24) (.tmp 26) rfl acc (n : Int) _ rfl hO hz _ rfl _ rfl (by omega) ?_; intro v6 W6 hO6 hB7 hR6)
        go_ret
        exact ⟨acc ++ [(n : Int)], by rw [List.length_append]; simp; omega, in_snoc hIn (by omega) (by omega), _, rfl, hO6, hB.trans hB7⟩
end Go.Proofs.Ytacdjchkilheiaa
