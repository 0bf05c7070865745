/-
  passimref01.Int returns, for every int, a new slice with the bytes of its encoding.
-/
import Derived.Test.YtgmlphfoadeboaaDoorHh
import Derived.Test.YtgmlphfoadeboaaDoorHt
import Derived.Deep.AppendLies
namespace Go.Proofs.YtgmlphfoadeboaaDoor
set_option linter.unusedVariables false
set_option linter.unusedSimpArgs false
open Go.RowKit

/-- The first j digits, the smallest first. -/
def lo (n j : Nat) : List Nat := (List.range j).map (fun i => n / 256 ^ i % 256)
theorem lo_length (n j : Nat) : (lo n j).length = j := by simp [lo]
theorem lo_step (n j : Nat) : lo n (j + 1) = lo n j ++ [n / 256 ^ j % 256] := by simp [lo, List.range_succ]
theorem lo_get (n j i : Nat) (h : i < j) : (lo n j)[i]? = some (n / 256 ^ i % 256) := by simp [lo, h]
theorem lo_lt (n j : Nat) : ∀ d ∈ lo n j, d < 256 := by
  intro d hd
  obtain ⟨i, _, rfl⟩ := List.mem_map.1 hd
  omega

theorem own_cells {w : World} {B : Nat} {t : TypeId} {v : Value} {n : Nat} {xs : List Value} (h : w.ownsRow B t 1 v n xs) (hn : 0 < n) : ∃ g cap, v = .slice (some ⟨g, 0, none⟩) n cap ∧ Cells w (some ⟨g, 0, none⟩) xs := by
  obtain ⟨g, cap, rfl, hb, hlt⟩ := h.form hn
  exact ⟨g, cap, rfl, fun k u hk => ⟨_, rfl, hlt, h.cells (g := g) (by simp [Value.ownBlock]) k u hk⟩⟩
theorem own_form {w : World} {B : Nat} {t : TypeId} {v : Value} {n : Nat} {xs : List Value} (h : w.ownsRow B t 1 v n xs) : ∃ A c, v = .slice A n c ∧ Cells w A xs := by
  rcases Nat.eq_zero_or_pos n with h0 | h0
  · subst h0
    have hx : xs = [] := List.eq_nil_of_length_eq_zero (by simpa using h.1)
    subst hx
    rcases h.2 with ⟨rfl, _⟩ | ⟨g, cap, cur, rfl, _⟩
    · exact ⟨none, 0, rfl, fun k u hk => by simp at hk⟩
    · exact ⟨_, _, rfl, fun k u hk => by simp at hk⟩
  · obtain ⟨g, cap, rfl, hc⟩ := own_cells h h0
    exact ⟨_, _, rfl, hc⟩
theorem Own.widen {W W1 w : World} {v : Value} {l : List Nat} (h : Own W1 w v l) (hb : Below W.heap.size W W1) : Own W w v l := by
  refine ⟨⟨h.1.1, ?_⟩, hb.trans (h.2.mono hb.size)⟩
  rcases h.1.2 with h0 | ⟨g, cap, cur, hv, hg, rest⟩
  · exact .inl h0
  · exact .inr ⟨g, cap, cur, hv, Nat.le_trans hb.size hg, rest⟩

set_option maxHeartbeats 400000 in
theorem rint_pos (n : Nat) (hn : n < 9223372036854775808) (w : World) :
    Calls Tryd.prog 38 #[.int .i64 (n : Int)] w (Made w (enc (n : Int))) := by
  have hnb : n < big := by unfold big; omega
  have h8 := sz_le 8 n (by rw [← big_pow]; exact hnb)
  have hneg : decide ((n : Int) < 0) = false := by simp
  have hpos : decide (0 ≤ (n : Int)) = true := by simp
  go_enter Tryd.func38, Tryd.ntmps38
  go_wp2
  go_loopw [3, 4] (fun m v wr => ∃ j q : Nat, m = .int .i64 q ∧ q ≤ n ∧ Hid (q = n / 256 ^ j) ∧ Hid (j + sz q = sz n) ∧ Own w wr v (lo n j)) (fun m _ _ => (intOf m).toNat)
  case atStart => exact ⟨0, n, rfl, Nat.le_refl _, Lib.hid (by simp), Lib.hid (by simp), own_nil w⟩
  case round =>
    obtain ⟨j, q, rfl, hqn, HQ, HE, hO⟩ := hrel
    have hj8 : j ≤ 8 := by have := HE.out; omega
    by_cases h0 : q = 0
    · subst h0
      have hj : j = sz n := by have := HE.out; rw [sz_zero] at this; omega
      subst hj
      clear HE HQ hqn hj8
      obtain ⟨A, cA, rfl, hC⟩ := own_form hO.1
      have hBw := hO.2
      have hl : (lo n (sz n)).length = sz n := lo_length _ _
      clear hO
      go_wp2_with (at_builtin; refine push_byte (W := wr) rfl _ _ rfl [] (128 + sz n) _ rfl (own_nil wr) _ rfl ?x1 ?x2 ?_)
      case x1 => simp
      case x2 => simp
      intro v3 w3 hO3
      go_wp2
      go_loopw [6, 7] (fun v i wx => ∃ j : Nat, j ≤ sz n ∧ i = .int .i64 ((j : Int) - 1) ∧ Own wr wx v (partP n j)) (fun _ i _ => (intOf i + 1).toNat)
      case atStart => exact ⟨sz n, by omega, rfl, by unfold partP; simpa using hO3⟩
      case round =>
        obtain ⟨j, hj, rfl, hOx⟩ := hrel
        have hlen : (partP n j).length ≤ 70368744177664 := by simp [partP, be_length]; omega
        by_cases h0 : j = 0
        · subst h0
          have hd : decide ((0 : Int) ≤ ((0 : Nat) : Int) - 1) = false := by decide
          go_wp2
          go_ret
          exact made_of (by rw [enc_nat]; simp) (by rw [enc_nat, ← partP_zero]; exact hOx.widen hBw)
        · obtain ⟨i, rfl⟩ : ∃ i, j = i + 1 := ⟨j - 1, by omega⟩
          have e1 : (((i + 1 : Nat) : Int) - 1) = (i : Int) := by omega
          obtain ⟨ad, rfl, hbl, hc0⟩ := hC i (byteV (n / 256 ^ i % 256)) (by unfold bytesV; rw [List.getElem?_map, lo_get n (sz n) i (by omega)]; rfl)
          have hc1 := (hOx.below.cell (p := ad.add i) (by rw [block_add]; exact hbl)).trans hc0
          have HP := Lib.hid (partP_step (n := n) (j := i + 1) (by omega) hj)
          simp only [Nat.add_sub_cancel] at HP
          have hd256 : n / 256 ^ i % 256 < 256 := Nat.mod_lt _ (by omega)
          generalize n / 256 ^ i % 256 = d at hc1 HP hd256
          unfold byteV at hc1
          rw [e1]
          clear hc0 hC hO3
          go_wp2_with (at_builtin; refine push_byte (W := _) rfl _ _ rfl (partP n (i + 1)) d _ rfl hOx _ rfl ?y1 hlen ?_)
          case y1 => rfl
          intro v5 w5 hO5
          clear hOx hlen hc1
          go_wp2
          go_roundw
          case rel => exact ⟨i, by omega, rfl, by rw [HP.out]; exact hO5⟩
          case measure => simp [intOf]
    · have hd : decide ((0 : Int) < (q : Int)) = true := by simp; omega
      go_wp2_with (at_builtin; refine push_byte (W := w) rfl _ _ rfl (lo n j) (q % 256) _ rfl hO _ rfl ?x1 ?x2 ?_)
      case x1 => omega
      case x2 => rw [lo_length]; omega
      intro v3 w3 hO3
      clear hO
      have HS := HE.out
      rw [sz_pos h0] at HS
      go_wp2
      go_roundw
      case rel => exact ⟨j + 1, q / 256, by simp, by omega, Lib.hid (by rw [HQ.out, Nat.div_div_eq_div_mul, Nat.pow_succ]), Lib.hid (by omega), by rw [lo_step, ← HQ.out]; exact hO3⟩
      case measure => simp [intOf]; omega

set_option maxHeartbeats 400000 in
theorem rint_neg (n : Nat) (hn : n < 9223372036854775808) (w : World) :
    Calls Tryd.prog 38 #[.int .i64 (-1 - (n : Int))] w (Made w (enc (-1 - (n : Int)))) := by
  have hnb : n < big := by unfold big; omega
  have h8 := sz_le 8 n (by rw [← big_pow]; exact hnb)
  have hneg : decide (-1 - (n : Int) < 0) = true := by simp; omega
  have hpos : decide (0 ≤ -1 - (n : Int)) = false := by simp; omega
  have hneg2 : (-1 - (-1 - (n : Int))) = n := by omega
  go_enter Tryd.func38, Tryd.ntmps38
  go_wp2
  go_loopw [3, 4] (fun m v wr => ∃ j q : Nat, m = .int .i64 q ∧ q ≤ n ∧ Hid (q = n / 256 ^ j) ∧ Hid (j + sz q = sz n) ∧ Own w wr v (lo n j)) (fun m _ _ => (intOf m).toNat)
  case atStart => exact ⟨0, n, rfl, Nat.le_refl _, Lib.hid (by simp), Lib.hid (by simp), own_nil w⟩
  case round =>
    obtain ⟨j, q, rfl, hqn, HQ, HE, hO⟩ := hrel
    have hj8 : j ≤ 8 := by have := HE.out; omega
    by_cases h0 : q = 0
    · subst h0
      have hj : j = sz n := by have := HE.out; rw [sz_zero] at this; omega
      subst hj
      clear HE HQ hqn hj8
      obtain ⟨A, cA, rfl, hC⟩ := own_form hO.1
      have hBw := hO.2
      have hl : (lo n (sz n)).length = sz n := lo_length _ _
      clear hO
      go_wp2_with (at_builtin; refine push_byte (W := wr) rfl _ _ rfl [] (127 - sz n) _ rfl (own_nil wr) _ rfl ?x1 ?x2 ?_)
      case x1 => omega
      case x2 => simp
      intro v3 w3 hO3
      go_wp2
      go_loopw [6, 7] (fun v i wx => ∃ j : Nat, j ≤ sz n ∧ i = .int .i64 ((j : Int) - 1) ∧ Own wr wx v (partN n j)) (fun _ i _ => (intOf i + 1).toNat)
      case atStart => exact ⟨sz n, by omega, rfl, by unfold partN; simpa using hO3⟩
      case round =>
        obtain ⟨j, hj, rfl, hOx⟩ := hrel
        have hlen : (partN n j).length ≤ 70368744177664 := by simp [partN, be_length]; omega
        by_cases h0 : j = 0
        · subst h0
          have hd : decide ((0 : Int) ≤ ((0 : Nat) : Int) - 1) = false := by decide
          go_wp2
          go_ret
          exact made_of (by rw [enc_neg]; simp) (by rw [enc_neg, ← partN_zero]; exact hOx.widen hBw)
        · obtain ⟨i, rfl⟩ : ∃ i, j = i + 1 := ⟨j - 1, by omega⟩
          have e1 : (((i + 1 : Nat) : Int) - 1) = (i : Int) := by omega
          obtain ⟨ad, rfl, hbl, hc0⟩ := hC i (byteV (n / 256 ^ i % 256)) (by unfold bytesV; rw [List.getElem?_map, lo_get n (sz n) i (by omega)]; rfl)
          have hc1 := (hOx.below.cell (p := ad.add i) (by rw [block_add]; exact hbl)).trans hc0
          have HP := Lib.hid (partN_step (n := n) (j := i + 1) (by omega) hj)
          simp only [Nat.add_sub_cancel] at HP
          have hd256 : n / 256 ^ i % 256 < 256 := Nat.mod_lt _ (by omega)
          generalize n / 256 ^ i % 256 = d at hc1 HP hd256
          unfold byteV at hc1
          rw [e1]
          clear hc0 hC hO3
          go_wp2_with (at_builtin; refine push_byte (W := _) rfl _ _ rfl (partN n (i + 1)) (255 - d) _ rfl hOx _ rfl ?y1 hlen ?_)
          case y1 => omega
          intro v5 w5 hO5
          clear hOx hlen hc1
          go_wp2
          go_roundw
          case rel => exact ⟨i, by omega, rfl, by rw [HP.out]; exact hO5⟩
          case measure => simp [intOf]
    · have hd : decide ((0 : Int) < (q : Int)) = true := by simp; omega
      go_wp2_with (at_builtin; refine push_byte (W := w) rfl _ _ rfl (lo n j) (q % 256) _ rfl hO _ rfl ?x1 ?x2 ?_)
      case x1 => omega
      case x2 => rw [lo_length]; omega
      intro v3 w3 hO3
      clear hO
      have HS := HE.out
      rw [sz_pos h0] at HS
      go_wp2
      go_roundw
      case rel => exact ⟨j + 1, q / 256, by simp, by omega, Lib.hid (by rw [HQ.out, Nat.div_div_eq_div_mul, Nat.pow_succ]), Lib.hid (by omega), by rw [lo_step, ← HQ.out]; exact hO3⟩
      case measure => simp [intOf]; omega

theorem rint_any (n : Int) (h1 : -9223372036854775808 ≤ n) (h2 : n ≤ 9223372036854775807) (w : World) :
    Calls Tryd.prog 38 #[.int .i64 n] w (Made w (enc n)) := by
  rcases Int.lt_or_le n 0 with h | h
  · have e : n = -1 - ((-1 - n).toNat : Int) := by omega
    rw [e]
    exact rint_neg _ (by omega) w
  · have e : n = (n.toNat : Int) := by omega
    rw [e]
    exact rint_pos _ (by omega) w

end Go.Proofs.YtgmlphfoadeboaaDoor
