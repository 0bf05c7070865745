/-
  passimlaw01.few tells whether strings have at most 2000 bytes and elements in all (lists whose sum is no greater than 2^61).
-/
import Derived.Test.YtpglfjfgnmaipaaWSame
import Derived.Test.YtpglfjfgnmaipaaWrt
namespace Go.Proofs.Ytpglfjfgnmaipaa
open Go.RowKit

theorem tot_step : ∀ (l : List ByteArray) (k : Nat) (h : k < l.length), tot ((sbs l).take (k + 1)) = tot ((sbs l).take k) + l[k].size
  | [], k, h => by simp at h
  | a :: l, 0, _ => by simp [sbs, tot, sb_length]
  | a :: l, k + 1, h => by
    have ih := tot_step l k (by simpa using h)
    simp only [sbs, tot, List.map_cons, List.take_succ_cons, List.foldr_cons, List.getElem_cons_succ] at ih ⊢
    omega

def Says (w : World) (b : Bool) (e : Ending) (w' : World) : Prop := e = .returned (.bool b) ∧ w = w'

set_option maxHeartbeats 400000 in
theorem few_any (A : Option Addr) (l : List ByteArray) (n c : Nat) (w : World) (hn : n = l.length) (hl : l.length ≤ 140737488355328) (ht : tot (sbs l) ≤ 2305843009213693952) (hr : Cells w A (strsV l)) :
    Calls Try.prog 11 #[.slice A n c] w (Says w (decide (l.length + tot (sbs l) ≤ 2000))) := by
  subst hn
  go_enter Try.func11, Try.ntmps11
  go_wp2
  go_loop [3, 10] (fun t i => ∃ k : Nat, k ≤ l.length ∧ i = .int .i64 k ∧ t = .int .i64 ((l.length + tot ((sbs l).take k) : Nat) : Int)) (fun _ i => l.length - (intOf i).toNat)
  case atStart => exact ⟨0, by omega, rfl, by simp [tot]⟩
  case round =>
    obtain ⟨k, hk, rfl, rfl⟩ := hrel
    have htk := tot_take (sbs l) k
    by_cases hlt : k < l.length
    · obtain ⟨ad, rfl, _, hc⟩ := hr k (.string l[k]) (by simp [strsV, hlt])
      have HS := Lib.hid (tot_step l k hlt)
      have hsz := size_tot l k hlt
      generalize l[k] = s at hc HS hsz
      go_wp2
      go_round
      case rel => exact ⟨k + 1, by omega, by go_num, by rw [HS.out]; go_num⟩
      case measure => simp [intOf]; omega
    · have e : (sbs l).take k = sbs l := by rw [List.take_of_length_le (by rw [sbs_length]; omega)]
      rw [e]
      have HE := Lib.hid e
      clear e
      go_wp2
      go_ret
      refine ⟨?_, rfl⟩
      congr 2
      simp
      omega

end Go.Proofs.Ytpglfjfgnmaipaa
