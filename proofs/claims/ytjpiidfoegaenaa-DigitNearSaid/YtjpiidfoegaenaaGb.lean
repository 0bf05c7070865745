/-
  Check and Add of the reference.
-/
import Derived.Test.YtjpiidfoegaenaaGa
import Derived.Test.YtjpiidfoegaenaaFh
import Derived.Test.YtjpiidfoegaenaaFe
namespace Go.Proofs.Ytjpiidfoegaenaa
open Go Go.RowKit
set_option linter.unusedVariables false
set_option linter.unusedSimpArgs false

set_option maxHeartbeats 2000000 in
set_option maxRecDepth 100000 in
theorem rchk_any (s : ByteArray) (hs : s.size ≤ 1000000000000) (w : World) : Calls Try.prog 27 #[.string s] w (IntR (chkS (sb s)) w) := by
  have CV := Lib.hid (fun V => rvalues_any s hs V)
  obtain ⟨n, hn⟩ : ∃ n, s.size = n := ⟨_, rfl⟩
  obtain ⟨bs, hbs⟩ : ∃ bs, sb s = bs := ⟨_, rfl⟩
  have HL : bs.length = n := by rw [← hbs, sb_length]; exact hn
  rw [hbs] at CV ⊢
  have hn6 : n ≤ 1000000000000 := by rw [← hn]; exact hs
  obtain ⟨R, hR⟩ : ∃ R, chkS bs = R := ⟨_, rfl⟩
  rw [hR]
  have hlen := valS_len bs
  have hin := valS_in bs
  clear hbs hs
  rcases hok : okS bs with _ | _
  · rw [hok] at CV hlen
    have hlen : (valS bs).length = 0 := hlen
    obtain rfl : 2 = R := by rw [← hR]; unfold chkS; rw [if_pos (Or.inr hok)]
    clear hR hok
    go_enter Try.func27, Try.ntmps27
    go_wp2_with (go_at_call 42; refine (CV.out _).mono ?_; intro _ w1 h1; obtain ⟨q1, c1, rfl, k1, A1, B1, _⟩ := h1.give hlen)
    go_ret
    exact ⟨rfl, B1⟩
  · rw [hok] at CV hlen
    have hlen : (valS bs).length = n := by rw [hlen, HL]; rfl
    have HV : valS bs = bs.map valT := by unfold valS; rw [hok]; rfl
    rcases Nat.lt_or_ge n 2 with h2 | h2
    · have h2z : (n : Int) < 2 := by omega
      obtain rfl : 2 = R := by rw [← hR]; unfold chkS; rw [if_pos (Or.inl (by rw [HL]; exact h2))]
      clear hR hok HV
      go_enter Try.func27, Try.ntmps27
      go_wp2_with (go_at_call 42; refine (CV.out _).mono ?_; intro _ w1 h1; obtain ⟨q1, c1, rfl, k1, A1, B1, _⟩ := h1.give hlen)
      go_ret
      exact ⟨rfl, B1⟩
    · have h2z : ¬ (n : Int) < 2 := by omega
      rcases Nat.lt_or_ge 64 n with h3 | h3
      · have h3z : 64 < (n : Int) := by omega
        obtain rfl : 4 = R := by rw [← hR]; unfold chkS; rw [if_neg (by rw [HL, hok]; simp; omega), if_pos (by rw [HL]; exact h3)]
        clear hR hok HV
        go_enter Try.func27, Try.ntmps27
        go_wp2_with (go_at_call 42; refine (CV.out _).mono ?_; intro _ w1 h1; obtain ⟨q1, c1, rfl, k1, A1, B1, _⟩ := h1.give hlen)
        go_ret
        exact ⟨rfl, B1⟩
      · have h3z : ¬ 64 < (n : Int) := by omega
        have hR2 : R = if restT (bs.map valT) ≠ 0 then 9 else 0 := by rw [← hR]; unfold chkS; rw [if_neg (by rw [HL, hok]; simp; omega), if_neg (by rw [HL]; omega)]
        rw [← HV] at hR2
        have hT := wts_rest hlen
        have hbv : belowT (valS bs) 1024 = true := belowT_of fun x hx => by have := hin x hx; omega
        have CT := Lib.hid (fun (q : Option Addr) (V : World) (q1 : Option Addr) (c1 : Nat) (hq : IntsAt V q (wtsT n)) (h1 : IntsAt V q1 (valS bs)) => (by
          have := rtotal_any (wtsT n) (valS bs) 31 (by omega) q n n (wts_len n) (by omega) q1 c1 hlen (wts_below n) hbv V hq h1
          rwa [hT] at this : Calls Try.prog 12 #[.slice q n n, .int .i64 31, .slice q1 n c1] V (IntR (restT (valS bs)) V)))
        have CW := Lib.hid (fun V => rweights_any n h3 V)
        have HIN := Lib.hid (fun (x : Int) (hx : x ∈ valS bs) => (by have := hin x hx; omega : -9223372036854775808 ≤ x ∧ x ≤ 9223372036854775807))
        clear hT hbv hin
        generalize restT (valS bs) = t at *
        by_cases ht : t = 0
        · obtain rfl : 0 = R := by rw [hR2, if_neg (by simp [ht])]
          subst ht
          clear hR hok HV hR2
          go_enter Try.func27, Try.ntmps27
          go_wp2_with (first
            | (go_at_call 12; refine (CT.out _ _ _ _ I2 I1).mono ?_; rintro _ w3 ⟨rfl, B3⟩)
            | (go_at_call 43; refine (CW.out _).mono ?_; rintro _ w2 ⟨q2, rfl, I2, B2⟩; have I1 := I1.keep B2)
            | (go_at_call 42; refine (CV.out _).mono ?_; intro _ w1 h1; obtain ⟨q1, c1, rfl, k1, A1, B1, _⟩ := h1.give hlen; have I1 := A1.ints HIN.out; clear h1 A1))
          go_ret
          exact ⟨rfl, link B1 (link B2 B3)⟩
        · obtain rfl : 9 = R := by rw [hR2, if_pos ht]
          clear hR hok HV hR2
          go_enter Try.func27, Try.ntmps27
          go_wp2_with (first
            | (go_at_call 12; refine (CT.out _ _ _ _ I2 I1).mono ?_; rintro _ w3 ⟨rfl, B3⟩)
            | (go_at_call 43; refine (CW.out _).mono ?_; rintro _ w2 ⟨q2, rfl, I2, B2⟩; have I1 := I1.keep B2)
            | (go_at_call 42; refine (CV.out _).mono ?_; intro _ w1 h1; obtain ⟨q1, c1, rfl, k1, A1, B1, _⟩ := h1.give hlen; have I1 := A1.ints HIN.out; clear h1 A1))
          go_ret
          exact ⟨rfl, link B1 (link B2 B3)⟩
/-- Just one character makes a string a checked one. -/
theorem add_only {bs : List Nat} (h : addE bs = 0) {k : Nat} (hk : k < 31) : chkS (bs ++ [alphN k]) = if k = lastN bs then 0 else 9 := by
  have hE := h
  unfold addE at hE
  split at hE
  · cases hE
  · split at hE
    · cases hE
    · rename_i h1 h2
      simp only [not_or] at h1
      have hok : okS bs = true := by simpa using h1.2
      have hl : (bs ++ [alphN k]).length = bs.length + 1 := by rw [List.length_append]; rfl
      have h0 := h1.1
      rw [chk_is (by omega) (by omega) (by rw [okS_app, hok, (alph_one k hk).2]; rfl), List.map_append, List.map_singleton, val_alph _ hk]
      have hin := restT_in (bs.map valT ++ [0])
      have h3 : (lastN bs : Int) = (31 - restT (bs.map valT ++ [0])) % 31 := by
        unfold lastN
        rw [Int.toNat_of_nonneg (Int.emod_nonneg _ (by omega))]
      unfold restT at *
      rw [restF_snoc] at *
      generalize restF (bs.map valT) 0 = r at *
      by_cases hkl : k = lastN bs
      · rw [if_pos hkl, if_neg (by omega)]
      · rw [if_neg hkl, if_pos (by omega)]
def AdRel (L : Nat) (w : World) (i : Value) (W : World) : Prop := ∃ k : Nat, k ≤ L ∧ i = .int .i64 (k : Int) ∧ Below w.heap.size w W
set_option maxHeartbeats 2000000 in
set_option maxRecDepth 100000 in
theorem radd_any (s : ByteArray) (hs : s.size ≤ 1000000000) (w : World) : Calls Try.prog 25 #[.string s] w (StrR (addB s) (addE (sb s)) w) := by
  have CV := Lib.hid (fun V => rvalues_any s (by omega) V)
  obtain ⟨n, hn⟩ : ∃ n, s.size = n := ⟨_, rfl⟩
  obtain ⟨bs, hbs⟩ : ∃ bs, sb s = bs := ⟨_, rfl⟩
  have HL : bs.length = n := by rw [← hbs, sb_length]; exact hn
  have hn6 : n ≤ 1000000000 := by rw [← hn]; exact hs
  obtain ⟨R, hR⟩ : ∃ R, addE (sb s) = R := ⟨_, rfl⟩
  obtain ⟨T, hT⟩ : ∃ T, addB s = T := ⟨_, rfl⟩
  rw [hR, hT]
  rw [hbs] at CV hR
  have hlen := valS_len bs
  rcases hok : okS bs with _ | _
  · rw [hok] at CV hlen
    have hlen : (valS bs).length = 0 := hlen
    obtain rfl : 2 = R := by rw [← hR]; unfold addE; rw [if_pos (Or.inr hok)]
    obtain rfl : ByteArray.empty = T := by rw [← hT]; exact (addB_no (by rw [hbs, hR]; decide)).symm
    clear hR hok hT
    go_enter Try.func25, Try.ntmps25
    go_wp2_with (go_at_call 42; refine (CV.out _).mono ?_; intro _ w1 h1; obtain ⟨q1, c1, rfl, k1, A1, B1, _⟩ := h1.give hlen)
    go_ret2
    exact ⟨rfl, B1⟩
  · rw [hok] at CV hlen
    have hlen : (valS bs).length = n := by rw [hlen, HL]; rfl
    rcases Nat.eq_zero_or_pos n with h0 | h0
    · obtain rfl : 2 = R := by rw [← hR]; unfold addE; rw [if_pos (Or.inl (by omega))]
      obtain rfl : ByteArray.empty = T := by rw [← hT]; exact (addB_no (by rw [hbs, hR]; decide)).symm
      have h0z : (n : Int) = 0 := by omega
      clear hR hok hT
      go_enter Try.func25, Try.ntmps25
      go_wp2_with (go_at_call 42; refine (CV.out _).mono ?_; intro _ w1 h1; obtain ⟨q1, c1, rfl, k1, A1, B1, _⟩ := h1.give hlen)
      go_ret2
      exact ⟨rfl, B1⟩
    · have h0z : ¬ (n : Int) = 0 := by omega
      rcases Nat.lt_or_ge n 64 with h4 | h4
      · have h4z : ¬ 63 < (n : Int) := by omega
        obtain rfl : 0 = R := by rw [← hR]; unfold addE; rw [if_neg (by rw [HL, hok]; simp; omega), if_neg (by rw [HL]; omega)]
        have hT2 : T = s ++ alphB.extract (lastN bs) (lastN bs + 1) := by rw [← hT, addB_yes (by rw [hbs, hR]), hbs]
        have HO := Lib.hid (fun k (hk : k < 31) => add_only hR hk)
        have hl31 := lastN_in bs
        obtain ⟨L, hL⟩ : ∃ L, lastN bs = L := ⟨_, rfl⟩
        rw [hL] at hT2 hl31 HO
        have HSB := Lib.hid hbs
        have CC := Lib.hid (fun k (hk : k < 31) V => (by
          have := rchk_any (s ++ alphB.extract k (k + 1)) (by
            have := congrArg List.length (alph_one k hk).1
            rw [sb_length] at this
            rw [ByteArray.size_append, this]; show s.size + 1 ≤ _; omega) V
          rwa [sb_app, (alph_one k hk).1, HSB.out, HO.out k hk] at this : Calls Try.prog 27 #[.string (s ++ alphB.extract k (k + 1))] V (IntR (if k = L then 0 else 9) V)))
        have HT := Lib.hid hT2
        clear hR hok hT hT2 hbs HO hL
        go_enter Try.func25, Try.ntmps25
        go_wp2_with (first
          | (go_at_call 37; refine (alphabet_any _).mono ?_; rintro _ _ ⟨rfl, rfl⟩)
          | (go_at_call 42; refine (CV.out _).mono ?_; intro _ w1 h1; obtain ⟨q1, c1, rfl, k1, A1, B1, _⟩ := h1.give hlen; clear h1 A1))
        go_loopw [7] (fun i W => AdRel L w i W) (fun i _ => 31 - (intOf i).toNat)
        case atStart => exact ⟨0, by omega, rfl, B1⟩
        case round =>
          obtain ⟨k, hk, rfl, hB⟩ := hrel
          have hk31' : k < 31 := by omega
          have hkz : (k : Int) < 31 := by omega
          obtain ⟨K1, hK1⟩ : ∃ K1, k + 1 = K1 := ⟨_, rfl⟩
          have CX := Lib.hid (CC.out k hk31')
          rw [hK1] at CX
          have hK1z : (k : Int) + 1 = (K1 : Int) := by omega
          have hkn : ¬ (k : Int) < 0 := by omega
          have hkk : (k : Int) ≤ (K1 : Int) := by omega
          have hk31 : (K1 : Int) ≤ 31 := by omega
          have hAs : K1 ≤ alphB.size := by show K1 ≤ 31; omega
          have hcat : ¬ 9223372036854775807 < s.size + (K1 - k) := by omega
          have HK := Lib.hid hK1
          by_cases hkL : k = L
          · rw [if_pos hkL] at CX
            have HKL := Lib.hid hkL
            clear hK1 hkL
            go_wp2_with (go_at_call 27; refine (CX.out _).mono ?_; rintro _ w2 ⟨rfl, B2⟩)
            go_ret2
            exact ⟨by rw [HT.out, ← HKL.out, HK.out]; first | done | rfl, link hB B2⟩
          · rw [if_neg hkL] at CX
            have HKL := Lib.hid hkL
            clear hK1 hkL
            go_wp2_with (go_at_call 27; refine (CX.out _).mono ?_; rintro _ w2 ⟨rfl, B2⟩)
            exact ⟨⟨K1, by have := HKL.out; have := HK.out; omega, by first | rfl | go_num, link hB B2⟩, by have := HK.out; simp [intOf]; omega⟩
      · have h4z : 63 < (n : Int) := by omega
        obtain rfl : 4 = R := by rw [← hR]; unfold addE; rw [if_neg (by rw [HL, hok]; simp; omega), if_pos (by rw [HL]; omega)]
        obtain rfl : ByteArray.empty = T := by rw [← hT]; exact (addB_no (by rw [hbs, hR]; decide)).symm
        clear hR hok hT
        go_enter Try.func25, Try.ntmps25
        go_wp2_with (go_at_call 42; refine (CV.out _).mono ?_; intro _ w1 h1; obtain ⟨q1, c1, rfl, k1, A1, B1, _⟩ := h1.give hlen)
        go_ret2
        exact ⟨rfl, B1⟩
end Go.Proofs.Ytjpiidfoegaenaa
