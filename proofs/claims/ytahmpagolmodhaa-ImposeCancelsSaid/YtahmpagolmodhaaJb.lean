/-
  The iterator over the sheets (under way).
-/
import Derived.Test.YtahmpagolmodhaaJa
import Derived.Sort.QuietIn
import Derived.Lib.QuietBelowIn
namespace Go.Proofs.Ytahmpagolmodhaa
open Go.RowKit Go.Shelf
set_option linter.unusedVariables false
set_option linter.unusedSimpArgs false

theorem count_in (F : Fence) (n : Nat) (hf : F.fn 38) (hro : F.round = none) (p h : Nat) (hp : p ≤ 999) (h1 : 1 ≤ h) (h8 : h ≤ 8) (w : World) :
    CallsIn F n Try.prog 38 #[.int .i64 (p : Int), .int .i64 ((2 * h : Nat) : Int)] w (IntR ((qnT p h : Nat) : Int) w) := by
  have HQ : Hid (wrap64 (((p + 4 * h - 1 : Nat) : Int) / ((4 * h : Nat) : Int)) = ((qnT p h : Nat) : Int)) := Lib.hid (quo_nat _ _ (by omega))
  obtain ⟨l, hl⟩ : ∃ l, 2 * h = l := ⟨_, rfl⟩
  rw [hl]
  obtain ⟨t, ht⟩ : ∃ t, 4 * h = t := ⟨_, rfl⟩
  obtain ⟨s, hs⟩ : ∃ s, p + 4 * h - 1 = s := ⟨_, rfl⟩
  rw [hs, ht] at HQ
  have e1 : 2 * (l : Int) = (t : Int) := by omega
  have e2 : (p : Int) + (t : Int) - 1 = (s : Int) := by omega
  have e3 : t ≤ 32 := by omega
  have e4 : 4 ≤ t := by omega
  have e5 : s ≤ 1031 := by omega
  clear hl ht hs
  refine callsIn_of_wp Try.func38 rfl hf ?_ hro
  simp only [Try.ntmps38, List.size_toArray, List.length_cons, List.length_nil, Nat.reduceAdd, Nat.reduceSub, Array.replicate_succ, Array.replicate_zero, List.push_toArray, List.append_toArray, List.nil_append, List.cons_append]
  gi_wp2
  go_ret
  exact ⟨by rw [HQ.out]; first | done | rfl, rfl⟩
end Go.Proofs.Ytahmpagolmodhaa
