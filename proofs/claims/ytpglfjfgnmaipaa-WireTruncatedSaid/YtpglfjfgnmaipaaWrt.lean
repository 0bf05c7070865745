/-
  passimref01.Digests: the encoding of a list of digests of bounded size.
-/
import Derived.Test.YtpglfjfgnmaipaaWrb
namespace Go.Proofs.Ytpglfjfgnmaipaa
open Go.RowKit

set_option maxHeartbeats 400000 in
theorem rdigests_any (A : Option Addr) (l : List (List Nat)) (n c : Nat) (w : World) (hn : n = l.length) (hl : l.length ≤ 2199023255552) (hr : DCells w A l) :
    Calls Try.prog 23 #[.slice A n c] w (Made w (encD l)) := by
  subst hn
  have hA : l.length ≤ 0 ∨ ∃ ad, A = some ad := by
    rcases Nat.eq_zero_or_pos l.length with h | h
    · exact .inl (by omega)
    · obtain ⟨_, ad, e, _⟩ := hr 0 l[0] (List.getElem?_eq_getElem h)
      exact .inr ⟨ad, e⟩
  rcases hA with hA | ⟨ad, rfl⟩
  all_goals
    go_enter Try.func23, Try.ntmps23
    go_wp2_with fail
    refine (rint_any _ (by omega) (by omega) _).mono ?_
    rintro e w1 ⟨g, cap, rfl, hO⟩
    go_wp2
    go_loopw [3, 4] (fun v i wr => ∃ k : Nat, k ≤ l.length ∧ i = .int .i64 k ∧ Own w wr v (partD l k)) (fun _ i _ => l.length - (intOf i).toNat)
    case atStart => exact ⟨0, by omega, rfl, by rw [partD_zero]; exact hO⟩
    case round =>
      obtain ⟨k, hk, rfl, hO2⟩ := hrel
      by_cases hlt : k < l.length
      · first
          | (exfalso; omega)
          | (obtain ⟨hdig, ad', e, hbl, hc⟩ := hr k l[k] (List.getElem?_eq_getElem hlt)
             obtain rfl : ad = ad' := by simpa using e
             have hpl := partD_length l k hr.dig hl
             have hps := Lib.hid (partD_step l k hlt)
             generalize l[k] = x at hc hdig hps
             have HC := Lib.hid hc
             clear hc e
             go_wp2
             go_loopw [3, 5] (fun v i wx => ∃ j : Nat, j ≤ 16 ∧ i = .int .i64 j ∧ Own w wx v (partD l k ++ x.take j)) (fun _ i _ => 16 - (intOf i).toNat)
             case atStart => exact ⟨0, by omega, rfl, by simpa using hO2⟩
             case round =>
               obtain ⟨j, hj, rfl, hO3⟩ := hrel
               by_cases hj16 : j < 16
               · have hjx : j < x.length := by rw [hdig.1]; exact hj16
                 have hc0 := HC.out j (byteV x[j]) (by simp [bytesV, List.getElem?_eq_getElem hjx])
                 have hc1 := (hO3.below.cell (p := ad.add (k * 16 + j)) (by rw [block_add]; exact hbl)).trans hc0
                 have hts := Lib.hid (take_snoc' x j hjx)
                 generalize x[j] = y at hc1 hts
                 unfold byteV at hc1
                 have hc2 : wr.cell? ((ad.add (k * 16)).add j) = some (.int .u8 y) := by rw [add_add]; exact hc1
                 clear hc0
                 have hlen : (partD l k ++ x.take j).length ≤ 70368744177664 := by rw [List.length_append, List.length_take]; omega
                 go_wp2_with (at_builtin; refine push_byte (W := w) rfl _ _ rfl (partD l k ++ x.take j) y _ rfl hO3 _ rfl ?y1 hlen ?_)
                 case y1 => rfl
                 intro v5 w5 hO5
                 clear hO3 hc1 hc2 hlen
                 go_wp2
                 go_roundw
                 case rel => exact ⟨j + 1, by omega, by go_num, by rw [hts.out]; simpa using hO5⟩
                 case measure => simp [intOf]; omega
               · obtain rfl : j = 16 := by omega
                 go_wp2
                 go_roundw
                 case rel => exact ⟨k + 1, by omega, by go_num, by rw [hps.out]; rwa [List.take_of_length_le (by rw [hdig.1]; omega)] at hO3⟩
                 case measure => simp [intOf]; omega)
      · obtain rfl : l.length = k := by omega
        go_wp2
        go_ret
        rw [partD_all] at hO2
        exact made_of (by simp [encD, enc_ne]) hO2

end Go.Proofs.Ytpglfjfgnmaipaa
