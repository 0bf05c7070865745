/-
  wire.GetBytes returns, for every byte slice, the string, the bytes used and the error.
-/
import Derived.Test.YtpglfjfgnmaipaaWl
namespace Go.Proofs.Ytpglfjfgnmaipaa
open Go.RowKit

/-- The results of GetBytes, as a value. -/
def threeB (r : List Nat × Nat × Nat) : Value := .tuple #[.string (strOf r.1), .int .i64 r.2.1, .int .i64 r.2.2]

set_option maxHeartbeats 400000 in
theorem getBytes_any (A : Option Addr) (l : List Nat) (n c : Nat) (w : World) (hn : n = l.length) (hc : n ≤ c) (hc2 : n ≤ 140737488355328) (hr : Has w A l) :
    Calls Try.prog 26 #[.slice A n c] w fun e w' => e = .returned (threeB (decB l)) ∧ w = w' := by
  have hd := lenD_ok l 1
  have C := length_any A l n c 1 w hn hc hc2 hr (by omega) (by omega)
  unfold decB
  subst hn
  generalize lenD l 1 = r at hd C ⊢
  obtain ⟨x, u, er⟩ := r
  simp only [three] at C hd ⊢
  have H := Lib.hid C
  obtain ⟨h1, h2, h3, h4, h5⟩ := hd
  clear C
  by_cases h7 : er = 0
  · have he : ((er : Int) != 0) = false := by simp [h7]
    obtain ⟨k, rfl⟩ := Int.eq_ofNat_of_zero_le h3
    obtain ⟨h8, h9⟩ := h4 h7
    have hlen : 0 < l.length := by omega
    obtain ⟨_, ad, rfl, hb, _⟩ := hr.at 0 l[0] (List.getElem?_eq_getElem hlen)
    have hm : ((l.drop u).take k).length = k := by simp; simp at h9; omega
    have hcv : ∀ cap, (convert 28 9 (.slice (some (ad.add u)) k cap)).run Try.prog w = .ok (.string (strOf ((l.drop u).take k))) w := fun cap => by
      have := conv_cells w (ad.add u) cap ((l.drop u).take k) ((hr.drop u).take k).2 ((hr.drop u).take k).cells
      rw [hm] at this
      exact this
    have hz : k = 0 → ∀ cap, (convert 28 9 (.slice (some ad) k cap)).run Try.prog w = .ok (.string (strOf ((l.drop u).take k))) w := fun e cap => by
      subst e
      exact conv_cells w ad cap [] (by simp) (by simp [bytesV])
    have hz' : c = u → ∀ cap, (convert 28 9 (.slice (some ad) k cap)).run Try.prog w = .ok (.string (strOf ((l.drop u).take k))) w := fun e => hz (by simp at h9; omega)
    clear hz
    go_enter Try.func26, Try.ntmps26
    go_wp2_with fail
    refine H.out.mono ?_
    rintro e w1 ⟨rfl, rfl⟩
    go_wp2
    all_goals go_ret3
    all_goals exact ⟨by simp [threeB], rfl⟩
  · have he : ((er : Int) != 0) = true := by simp [h7]
    go_enter Try.func26, Try.ntmps26
    go_wp2_with fail
    refine H.out.mono ?_
    rintro e w1 ⟨rfl, rfl⟩
    go_wp2
    go_ret3
    exact ⟨by simp [threeB, strOf], rfl⟩

end Go.Proofs.Ytpglfjfgnmaipaa
