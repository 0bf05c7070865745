/-
  passimref01.GetBytes returns, for every byte slice, the string, the bytes used and the error.
-/
import Derived.Test.YtpglfjfgnmaipaaWrc
namespace Go.Proofs.Ytpglfjfgnmaipaa
open Go.RowKit

/-- The call returned these bytes as a string, and what was there is as it was. -/
def Gave3B (w : World) (r : List Nat × Nat × Nat) (e : Ending) (w' : World) : Prop := e = .returned (threeB r) ∧ Below w.heap.size w w'

set_option maxHeartbeats 400000 in
theorem rgetBytes_any (A : Option Addr) (l : List Nat) (n c : Nat) (w : World) (hn : n = l.length) (hc : n ≤ c) (hc2 : n ≤ 140737488355328) (hr : Has w A l) :
    Calls Try.prog 27 #[.slice A n c] w (Gave3B w (decB l)) := by
  have hd := lenD_ok l 1
  have C : Calls Try.prog 40 #[.slice A n c, .int .i64 (1 : Nat)] w (fun e w' => e = .returned (three (lenD l 1)) ∧ Below w.heap.size w w') := rcount_any A l n c 1 w hn hc hc2 hr (by omega) (by omega)
  unfold decB
  subst hn
  generalize lenD l 1 = r at hd C ⊢
  obtain ⟨x, u, er⟩ := r
  simp only [three] at C hd ⊢
  have H := Lib.hid C
  obtain ⟨h1, h2, h3, h4, h5⟩ := hd
  clear C
  by_cases h7 : er = 0
  · have he : ((er : Int) != 0) = false := by simp [h7]
    obtain ⟨k, rfl⟩ := Int.eq_ofNat_of_zero_le h3
    obtain ⟨h8, h9⟩ := h4 h7
    have hlen : 0 < l.length := by omega
    obtain ⟨_, ad, rfl, hb, _⟩ := hr.at 0 l[0] (List.getElem?_eq_getElem hlen)
    have hm : ((l.drop u).take k).length = k := by simp; simp at h9; omega
    have hcv : ∀ w1, Below w.heap.size w w1 → ∀ cap, (convert 28 9 (.slice (some (ad.add u)) k cap)).run Try.prog w1 = .ok (.string (strOf ((l.drop u).take k))) w1 := fun w1 hB cap => by
      have := conv_cells w1 (ad.add u) cap ((l.drop u).take k) (((hr.keep hB).drop u).take k).2 (((hr.keep hB).drop u).take k).cells
      rw [hm] at this
      exact this
    have hz : k = 0 → ∀ w1 cap, (convert 28 9 (.slice (some ad) k cap)).run Try.prog w1 = .ok (.string (strOf ((l.drop u).take k))) w1 := fun e w1 cap => by
      subst e
      exact conv_cells w1 ad cap [] (by simp) (by simp [bytesV])
    have hz' : c = u → ∀ w1 cap, (convert 28 9 (.slice (some ad) k cap)).run Try.prog w1 = .ok (.string (strOf ((l.drop u).take k))) w1 := fun e => hz (by simp at h9; omega)
    clear hz
    go_enter Try.func27, Try.ntmps27
    go_wp2_with fail
    refine H.out.mono ?_
    rintro e w1 ⟨rfl, hB⟩
    have k1 := hcv w1 hB
    have k2 := fun e => hz' e w1
    clear hcv hz'
    go_wp2
    all_goals go_ret3
    all_goals exact ⟨by simp [threeB], hB⟩
  · have he : ((er : Int) != 0) = true := by simp [h7]
    go_enter Try.func27, Try.ntmps27
    go_wp2_with fail
    refine H.out.mono ?_
    rintro e w1 ⟨rfl, hB⟩
    go_wp2
    go_ret3
    exact ⟨by simp [threeB, strOf], hB⟩

end Go.Proofs.Ytpglfjfgnmaipaa
