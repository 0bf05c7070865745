/-
  passimref01.Bytes, Ints: the encodings of strings and of lists of bounded size.
-/
import Derived.Test.YtpglfjfgnmaipaaWri
namespace Go.Proofs.Ytpglfjfgnmaipaa
open Go.RowKit

set_option maxHeartbeats 400000 in
theorem rints_any (A : Option Addr) (l : List Int) (n c : Nat) (w : World) (hn : n = l.length) (hl : l.length ≤ 4398046511104) (hi : ∀ x ∈ l, I64 x) (hr : Cells w A (intsV l)) :
    Calls Try.prog 19 #[.slice A n c] w (Made w (encL l)) := by
  subst hn
  have hA : l.length ≤ 0 ∨ ∃ ad, A = some ad := by
    rcases Nat.eq_zero_or_pos l.length with h | h
    · exact .inl (by omega)
    · obtain ⟨ad, e, _⟩ := hr 0 (.int .i64 l[0]) (by simp [intsV, List.getElem?_eq_getElem h])
      exact .inr ⟨ad, e⟩
  rcases hA with hA | ⟨ad, rfl⟩
  all_goals
    go_enter Try.func19, Try.ntmps19
    go_wp2_with fail
    refine (rint_any _ (by omega) (by omega) _).mono ?_
    rintro e w1 ⟨g, cap, rfl, hO⟩
    go_wp2
    go_loopw [3, 4] (fun v i wr => ∃ k : Nat, k ≤ l.length ∧ i = .int .i64 k ∧ Own w wr v (partI l k)) (fun _ i _ => l.length - (intOf i).toNat)
    case atStart => exact ⟨0, by omega, rfl, by rw [partI_zero]; exact hO⟩
    case round =>
      obtain ⟨k, hk, rfl, hO2⟩ := hrel
      by_cases hlt : k < l.length
      · first
          | (exfalso; omega)
          | (have hcell : wr.cell? (ad.add k) = some (.int .i64 l[k]) := by
               obtain ⟨ad', e, _, hc⟩ := (hr.keep hO2.below) k (.int .i64 l[k]) (by simp [intsV, List.getElem?_eq_getElem hlt])
               obtain rfl : ad = ad' := by simpa using e
               exact hc
             have hx := hi l[k] (List.getElem_mem hlt)
             have hpl := partI_length l k hi hl
             have hps := Lib.hid (partI_step l k hlt)
             generalize l[k] = x at hcell hx hps
             have hxl := enc_length x hx.1 hx.2
             go_wp2_with fail
             refine (rint_any x hx.1 hx.2 _).mono ?_
             rintro e w3 ⟨g3, cap3, rfl, hO3⟩
             have hO4 := hO2.keep hO3.below
             have hc3 := (hO3.has (enc_lt x hx.1 hx.2)).cells
             clear hO2 hcell
             go_wp2_with (at_builtin; refine push_row (W := w) rfl _ _ rfl (partI l k) (enc x) _ rfl hO4 ⟨g3, 0, none⟩ _ _ rfl rfl hc3 ?y1 ?_)
             case y1 => omega
             intro v5 w5 hO5
             clear hO4 hO3 hc3
             go_wp2
             go_roundw
             case rel => exact ⟨k + 1, by omega, by go_num, by rw [hps.out]; exact hO5⟩
             case measure => simp [intOf]; omega)
      · obtain rfl : l.length = k := by omega
        go_wp2
        go_ret
        rw [partI_all] at hO2
        exact made_of (by simp [encL, enc_ne]) hO2

end Go.Proofs.Ytpglfjfgnmaipaa
