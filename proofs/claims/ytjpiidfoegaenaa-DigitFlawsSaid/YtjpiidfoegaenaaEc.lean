/-
  Check and Add of the program.
-/
import Derived.Test.YtjpiidfoegaenaaEb
namespace Go.Proofs.Ytjpiidfoegaenaa
open Go.RowKit
set_option linter.unusedVariables false
set_option linter.unusedSimpArgs false

set_option maxHeartbeats 2000000 in
set_option maxRecDepth 100000 in
theorem chk_any (s : ByteArray) (hs : s.size ≤ 1000000000000) (w : World) : Calls Try.prog 26 #[.string s] w (IntR (chkS (sb s)) w) := by
  have CV := Lib.hid (fun V => values_any s hs V)
  obtain ⟨n, hn⟩ : ∃ n, s.size = n := ⟨_, rfl⟩
  obtain ⟨bs, hbs⟩ : ∃ bs, sb s = bs := ⟨_, rfl⟩
  have HL : bs.length = n := by rw [← hbs, sb_length]; exact hn
  rw [hbs] at CV ⊢
  have hn6 : n ≤ 1000000000000 := by rw [← hn]; exact hs
  obtain ⟨R, hR⟩ : ∃ R, chkS bs = R := ⟨_, rfl⟩
  rw [hR]
  have hlen := valS_len bs
  have hin := valS_in bs
  clear hbs hs
  rcases hok : okS bs with _ | _
  · rw [hok] at CV hlen
    have hlen : (valS bs).length = 0 := hlen
    obtain rfl : 2 = R := by rw [← hR]; unfold chkS; rw [if_pos (Or.inr hok)]
    clear hR hok
    go_enter Try.func26, Try.ntmps26
    go_wp2_with (go_at_call 40; refine (CV.out _).mono ?_; intro _ w1 h1; obtain ⟨q1, c1, rfl, k1, A1, B1, _⟩ := h1.give hlen)
    go_ret
    exact ⟨rfl, B1⟩
  · rw [hok] at CV hlen
    have hlen : (valS bs).length = n := by rw [hlen, HL]; rfl
    have HV : valS bs = bs.map valT := by unfold valS; rw [hok]; rfl
    have CR := Lib.hid (fun q c V hA => rest_any (valS bs) q n c hlen hn6 hin V hA)
    rcases Nat.lt_or_ge n 2 with h2 | h2
    · have h2z : (n : Int) < 2 := by omega
      obtain rfl : 2 = R := by rw [← hR]; unfold chkS; rw [if_pos (Or.inl (by rw [HL]; exact h2))]
      clear hR hok HV CR
      go_enter Try.func26, Try.ntmps26
      go_wp2_with (go_at_call 40; refine (CV.out _).mono ?_; intro _ w1 h1; obtain ⟨q1, c1, rfl, k1, A1, B1, _⟩ := h1.give hlen)
      go_ret
      exact ⟨rfl, B1⟩
    · have h2z : ¬ (n : Int) < 2 := by omega
      rcases Nat.lt_or_ge 64 n with h3 | h3
      · have h3z : 64 < (n : Int) := by omega
        obtain rfl : 4 = R := by rw [← hR]; unfold chkS; rw [if_neg (by rw [HL, hok]; simp; omega), if_pos (by rw [HL]; exact h3)]
        clear hR hok HV CR
        go_enter Try.func26, Try.ntmps26
        go_wp2_with (go_at_call 40; refine (CV.out _).mono ?_; intro _ w1 h1; obtain ⟨q1, c1, rfl, k1, A1, B1, _⟩ := h1.give hlen)
        go_ret
        exact ⟨rfl, B1⟩
      · have h3z : ¬ 64 < (n : Int) := by omega
        have hR2 : R = if restT (bs.map valT) ≠ 0 then 9 else 0 := by rw [← hR]; unfold chkS; rw [if_neg (by rw [HL, hok]; simp; omega), if_neg (by rw [HL]; omega)]
        rw [← HV] at hR2
        generalize restT (valS bs) = t at *
        by_cases ht : t = 0
        · obtain rfl : 0 = R := by rw [hR2, if_neg (by simp [ht])]
          subst ht
          clear hR hok HV hR2
          go_enter Try.func26, Try.ntmps26
          go_wp2_with (first
            | (go_at_call 40; refine (CV.out _).mono ?_; intro _ w1 h1; obtain ⟨q1, c1, rfl, k1, A1, B1, _⟩ := h1.give hlen)
            | (go_at_call 41; refine (CR.out _ _ _ A1).mono ?_; rintro _ _ ⟨rfl, rfl⟩))
          go_ret
          exact ⟨rfl, B1⟩
        · obtain rfl : 9 = R := by rw [hR2, if_pos ht]
          clear hR hok HV hR2
          go_enter Try.func26, Try.ntmps26
          go_wp2_with (first
            | (go_at_call 40; refine (CV.out _).mono ?_; intro _ w1 h1; obtain ⟨q1, c1, rfl, k1, A1, B1, _⟩ := h1.give hlen)
            | (go_at_call 41; refine (CR.out _ _ _ A1).mono ?_; rintro _ _ ⟨rfl, rfl⟩))
          go_ret
          exact ⟨rfl, B1⟩
/-- The call answers a string and an error. -/
def StrR (x : ByteArray) (k : Int) (w : World) (e : Ending) (w' : World) : Prop := e = .returned (.tuple #[.string x, .int .i64 k]) ∧ Below w.heap.size w w'
/-- s with its check character. -/
def addB (s : ByteArray) : ByteArray := if addE (sb s) = 0 then s ++ alphB.extract (lastN (sb s)) (lastN (sb s) + 1) else ByteArray.empty
theorem addB_no {s : ByteArray} (h : addE (sb s) ≠ 0) : addB s = ByteArray.empty := if_neg h
theorem addB_yes {s : ByteArray} (h : addE (sb s) = 0) : addB s = s ++ alphB.extract (lastN (sb s)) (lastN (sb s) + 1) := if_pos h
set_option maxHeartbeats 2000000 in
set_option maxRecDepth 100000 in
theorem add_any (s : ByteArray) (hs : s.size ≤ 1000000000) (w : World) : Calls Try.prog 24 #[.string s] w (StrR (addB s) (addE (sb s)) w) := by
  have CV := Lib.hid (fun V => values_any s (by omega) V)
  obtain ⟨n, hn⟩ : ∃ n, s.size = n := ⟨_, rfl⟩
  obtain ⟨bs, hbs⟩ : ∃ bs, sb s = bs := ⟨_, rfl⟩
  have HL : bs.length = n := by rw [← hbs, sb_length]; exact hn
  have hn6 : n ≤ 1000000000 := by rw [← hn]; exact hs
  obtain ⟨R, hR⟩ : ∃ R, addE (sb s) = R := ⟨_, rfl⟩
  obtain ⟨T, hT⟩ : ∃ T, addB s = T := ⟨_, rfl⟩
  rw [hR, hT]
  rw [hbs] at CV hR
  have hlen := valS_len bs
  have hin := valS_in bs
  rcases hok : okS bs with _ | _
  · rw [hok] at CV hlen
    have hlen : (valS bs).length = 0 := hlen
    obtain rfl : 2 = R := by rw [← hR]; unfold addE; rw [if_pos (Or.inr hok)]
    obtain rfl : ByteArray.empty = T := by rw [← hT]; exact (addB_no (by rw [hbs, hR]; decide)).symm
    clear hR hok hT
    go_enter Try.func24, Try.ntmps24
    go_wp2_with (go_at_call 40; refine (CV.out _).mono ?_; intro _ w1 h1; obtain ⟨q1, c1, rfl, k1, A1, B1, _⟩ := h1.give hlen)
    go_ret2
    exact ⟨rfl, B1⟩
  · rw [hok] at CV hlen
    have hlen : (valS bs).length = n := by rw [hlen, HL]; rfl
    have HV : valS bs = bs.map valT := by unfold valS; rw [hok]; rfl
    rcases Nat.eq_zero_or_pos n with h0 | h0
    · obtain rfl : 2 = R := by rw [← hR]; unfold addE; rw [if_pos (Or.inl (by omega))]
      obtain rfl : ByteArray.empty = T := by rw [← hT]; exact (addB_no (by rw [hbs, hR]; decide)).symm
      have h0z : (n : Int) = 0 := by omega
      clear hR hok hT HV
      go_enter Try.func24, Try.ntmps24
      go_wp2_with (go_at_call 40; refine (CV.out _).mono ?_; intro _ w1 h1; obtain ⟨q1, c1, rfl, k1, A1, B1, _⟩ := h1.give hlen)
      go_ret2
      exact ⟨rfl, B1⟩
    · have h0z : ¬ (n : Int) = 0 := by omega
      rcases Nat.lt_or_ge n 64 with h4 | h4
      · have h4z : ¬ 64 ≤ (n : Int) := by omega
        have h4y : (n : Int) < 64 := by omega
        obtain rfl : 0 = R := by rw [← hR]; unfold addE; rw [if_neg (by rw [HL, hok]; simp; omega), if_neg (by rw [HL]; omega)]
        have hT2 : T = s ++ alphB.extract (lastN bs) (lastN bs + 1) := by rw [← hT, addB_yes (by rw [hbs, hR]), hbs]
        have hr := restT_in (valS bs ++ [0])
        have hl31 := lastN_in bs
        have CR := Lib.hid (fun q c V hA => rest_any (valS bs ++ [0]) q (n + 1) c (by rw [List.length_append, hlen]; rfl) (by omega) (fun x hx => by
          rcases List.mem_append.1 hx with h | h
          · exact hin x h
          · rw [List.mem_singleton.1 h]; omega) V hA)
        obtain ⟨r, hrr⟩ : ∃ r, restT (valS bs ++ [0]) = r := ⟨_, rfl⟩
        obtain ⟨k, hk⟩ : ∃ k, lastN bs = k := ⟨_, rfl⟩
        have hkz : (31 - r).tmod 31 = (k : Int) := by
          rw [← hk, ← hrr, HV]
          unfold lastN
          rw [Int.tmod_eq_emod_of_nonneg (by rw [← HV]; omega), Int.toNat_of_nonneg (Int.emod_nonneg _ (by omega))]
        rw [hrr] at CR hr
        rw [hk] at hT2 hl31
        have hT3 := Lib.hid hT2
        have hkz2 : (k : Int) + 1 = ((k + 1 : Nat) : Int) := by omega
        have hle : (valS bs).length ≤ 1000000000000 := by omega
        have HLN := Lib.hid hlen
        obtain ⟨n1, hn1⟩ : ∃ n1, n + 1 = n1 := ⟨_, rfl⟩
        rw [hn1] at CR
        have HN1 := Lib.hid hn1
        clear hR hok hT hT2 HV hrr hk hin hbs hkz2 hn1
        go_enter Try.func24, Try.ntmps24
        go_upto_region 7 with (first
          | (go_at_call 40; refine (CV.out _).mono ?_; intro _ w1 h1; obtain ⟨q1, c1, rfl, k1, A1, B1, O1⟩ := h1.give hlen)
          | (at_builtin; refine push_el intE rfl (.tmp 22) (.tmp 23) rfl (valS bs) 0 _ rfl O1 B1.size _ rfl _ rfl hle ?_; intro v6 W6 hO6 hB7 hR6; obtain ⟨q6, c6, e6, _, A6, _⟩ := hO6.form; rw [List.length_append, HLN.out, show [(0 : Int)].length = 1 from rfl, HN1.out] at e6; subst e6)
          | (go_at_call 41; refine (CR.out _ _ _ A6).mono ?_; rintro _ _ ⟨rfl, rfl⟩))
        have B7 := B1.trans hB7
        clear h1 O1 A1 hO6 hB7 hR6 A6 CV CR B1
        obtain ⟨K1, hK1⟩ : ∃ K1, k + 1 = K1 := ⟨_, rfl⟩
        have hK1z : (k : Int) + 1 = (K1 : Int) := by omega
        have hkn : ¬ (k : Int) < 0 := by omega
        have hkk : (k : Int) ≤ (K1 : Int) := by omega
        have hk31 : (K1 : Int) ≤ 31 := by omega
        rw [hK1] at hT3
        clear hK1 hkz
        go_wp2
        go_ret2
        exact ⟨by rw [hT3.out]; first | done | rfl, B7⟩
      · have h4z : 64 ≤ (n : Int) := by omega
        obtain rfl : 4 = R := by rw [← hR]; unfold addE; rw [if_neg (by rw [HL, hok]; simp; omega), if_pos (by rw [HL]; omega)]
        obtain rfl : ByteArray.empty = T := by rw [← hT]; exact (addB_no (by rw [hbs, hR]; decide)).symm
        clear hR hok hT HV
        go_enter Try.func24, Try.ntmps24
        go_wp2_with (go_at_call 40; refine (CV.out _).mono ?_; intro _ w1 h1; obtain ⟨q1, c1, rfl, k1, A1, B1, _⟩ := h1.give hlen)
        go_ret2
        exact ⟨rfl, B1⟩
end Go.Proofs.Ytjpiidfoegaenaa
