/-
  The reference's Valid.
-/
import Derived.Test.YtehkgpefmjfifaaKf
import Derived.Test.YtehkgpefmjfifaaKg
namespace Go.Proofs.Ytehkgpefmjfifaa
open Go.RowKit
set_option linter.unusedVariables false
set_option linter.unusedSimpArgs false

theorem twoB_at : ∀ {bs : List Nat} {j : Nat}, bs[j]? = some 32 → bs[j + 1]? = some 32 → twoB bs = true
  | [], j, h, _ => by simp at h
  | [x], j, h, g => by
    rw [List.getElem?_cons_succ] at g
    simp at g
  | x :: y :: r, 0, h, g => by
    simp at h g
    unfold twoB
    simp [h, g]
  | x :: y :: r, j + 1, h, g => by
    rw [List.getElem?_cons_succ] at h g
    have ih := twoB_at h g
    unfold twoB
    rw [ih, Bool.or_true]
theorem twoB_no : ∀ {bs : List Nat}, (∀ j, bs[j]? = some 32 → bs[j + 1]? = some 32 → False) → twoB bs = false
  | [], _ => rfl
  | [x], _ => rfl
  | x :: y :: r, h => by
    have ih := twoB_no (bs := y :: r) (fun j h1 h2 => h (j + 1) (by rw [List.getElem?_cons_succ]; exact h1) (by rw [List.getElem?_cons_succ]; exact h2))
    unfold twoB
    rw [ih, Bool.or_false]
    rcases hb : (x == 32 && y == 32) with _ | _
    · rfl
    · exfalso
      simp at hb
      exact h 0 (by simp [hb.1]) (by simp [hb.2])
/-- The reference's loop over the bytes has found nothing wrong so far. -/
def RCharRel (s : ByteArray) (n : Nat) (w : World) (v : Value) (wr : World) : Prop := ∃ i : Nat, i ≤ n ∧ v = .int .i64 (i : Int) ∧ (∀ (j c : Nat), j < i → (sb s)[j]? = some c → 32 ≤ c ∧ c ≤ 126) ∧ (∀ j, j + 1 < i → (sb s)[j]? = some 32 → (sb s)[j + 1]? = some 32 → False) ∧ wr = w
/-- What Valid answers of a text that is not too long, and neither begins nor ends with a blank. -/
def innerT (bs : List Nat) : Int := if twoB bs = true then 2 else charsT bs
theorem inner_bad {bs : List Nat} {i c : Nat} (h : bs[i]? = some c) (hc : ¬ (32 ≤ c ∧ c ≤ 126)) : innerT bs = 2 := by
  unfold innerT
  split
  · rfl
  · unfold charsT
    rw [if_neg (by rw [chars_bad h hc]; simp)]
theorem inner_two {bs : List Nat} {j : Nat} (h : bs[j]? = some 32) (g : bs[j + 1]? = some 32) : innerT bs = 2 := by
  unfold innerT
  rw [if_pos (twoB_at h g)]

set_option maxHeartbeats 4000000 in
set_option maxRecDepth 100000 in
theorem rvalid_any (s : ByteArray) (n : Nat) (hn : s.size = n) (hn6 : n ≤ 1000000000) (w : World) :
    Calls Try.prog 13 #[.string s] w fun e w' => e = .returned (.int .i64 (validT (sb s))) ∧ Below w.heap.size w w' := by
  have HSp := Lib.hid (fun (V : World) => rsplit_any s n hn hn6 V)
  have HN := Lib.hid hn
  have hbl : (sb s).length = n := by rw [sb_length, hn]
  have HBL := Lib.hid hbl
  clear hn
  have hsz := HN.out
  by_cases h4 : 4096 < n
  · have hv : validT (sb s) = 4 := by unfold validT; rw [if_pos (by rw [hbl]; exact h4)]
    rw [hv]
    clear hbl hv
    go_enter Try.func13, Try.ntmps13
    go_wp2
    go_ret
    exact ⟨rfl, Below.refl _ _⟩
  have h4n : ¬ (4096 : Int) < (n : Int) := by omega
  by_cases h0 : n = 0
  · have hv : validT (sb s) = 2 := by unfold validT; rw [if_neg (by rw [hbl]; exact h4), if_pos (Or.inl (List.eq_nil_of_length_eq_zero (by omega)))]
    rw [hv]
    clear hbl hv
    have hz : ((n : Int) == 0) = true := by simp [h0]
    clear h0
    go_enter Try.func13, Try.ntmps13
    go_wp2
    go_ret
    exact ⟨rfl, Below.refl _ _⟩
  have hzb : ((n : Int) == 0) = false := by simp [h0]
  have hn0 : 0 < n := by omega
  have his0 : 0 < s.size := by omega
  obtain ⟨hg0, hb0⟩ := sb_get his0
  have hl1 : n - 1 < s.size := by omega
  obtain ⟨hg1, hb1⟩ := sb_get hl1
  have hn4 : n ≤ 4096 := by omega
  have hsub : (n : Int) - 1 = ((n - 1 : Nat) : Int) := by omega
  by_cases c0 : (s[0]'his0).toNat = 32
  · have hv : validT (sb s) = 2 := by unfold validT; rw [if_neg (by rw [hbl]; exact h4), if_pos (Or.inr (Or.inl (by rw [hg0, c0])))]
    rw [hv]
    clear hv hbl hg0 hg1
    have hc0b : (((s[0]'his0).toNat : Int) == 32) = true := by simp [c0]
    clear c0
    go_enter Try.func13, Try.ntmps13
    go_wp2
    go_ret
    exact ⟨rfl, Below.refl _ _⟩
  have hc0b : (((s[0]'his0).toNat : Int) == 32) = false := by simp; omega
  by_cases c1 : (s[n - 1]'hl1).toNat = 32
  · have hv : validT (sb s) = 2 := by unfold validT; rw [if_neg (by rw [hbl]; exact h4), if_pos (Or.inr (Or.inr (Or.inl (by rw [hbl, hg1, c1]))))]
    rw [hv]
    clear hv hbl hg0 hg1
    have hc1b : (((s[n - 1]'hl1).toNat : Int) == 32) = true := by simp [c1]
    clear c0 c1
    go_enter Try.func13, Try.ntmps13
    go_wp2
    go_ret
    exact ⟨rfl, Below.refl _ _⟩
  have hc1b : (((s[n - 1]'hl1).toNat : Int) == 32) = false := by simp; omega
  have hV : validT (sb s) = innerT (sb s) := by
    unfold validT innerT charsT
    rw [if_neg (by rw [hbl]; exact h4)]
    by_cases ht : twoB (sb s) = true
    · rw [if_pos (Or.inr (Or.inr (Or.inr ht))), if_pos ht]
    · rw [if_neg, if_neg ht]
      rintro (h | h | h | h)
      · rw [h] at hbl; simp at hbl; omega
      · rw [hg0] at h; injection h with h; exact c0 h
      · rw [hbl, hg1] at h; injection h with h; exact c1 h
      · exact ht h
  rw [hV]
  have H0 := Lib.hid (show (sb s)[0]? ≠ some 32 from by rw [hg0]; intro h; injection h with h; exact c0 h)
  clear c0 c1 hg0 hg1 hV h0
  go_enter Try.func13, Try.ntmps13
  go_upto_region 5 with (fail)
  clear hc0b hc1b hzb hsub hb0 hb1
  go_wp2
  go_loopw [3] (fun v wr => RCharRel s n w v wr) (fun v _ => n - (intOf v).toNat)
  case atStart => exact ⟨0, Nat.zero_le _, rfl, fun j c h => by omega, fun j h => by omega, rfl⟩
  case round =>
    obtain ⟨i, hi, rfl, hall, htwo, hwr⟩ := hrel
    subst hwr
    have HA := Lib.hid hall
    have HT := Lib.hid htwo
    clear hall htwo
    rcases Nat.lt_or_ge i n with hlt | hge
    · have his : i < s.size := by omega
      obtain ⟨hg, hb⟩ := sb_get his
      by_cases c32 : (s[i]'his).toNat < 32
      · have hV := Lib.hid (inner_bad hg (by omega))
        clear hg
        have hcb : ((s[i]'his).toNat : Int) < 32 := by omega
        go_wp2
        go_ret
        exact ⟨by rw [hV.out]; rfl, Below.refl _ _⟩
      · have hcb : ¬ ((s[i]'his).toNat : Int) < 32 := by omega
        by_cases c126 : (s[i]'his).toNat ≤ 126
        · have hcb2 : ¬ (126 : Int) < ((s[i]'his).toNat : Int) := by omega
          have HG := Lib.hid hg
          have HN1 : Hid (∀ (j c : Nat), j < i + 1 → (sb s)[j]? = some c → 32 ≤ c ∧ c ≤ 126) := Lib.hid (fun j c h hc => by
            rcases Nat.lt_or_ge j i with g | g
            · exact HA.out j c g hc
            · obtain rfl : j = i := by omega
              rw [hg] at hc
              injection hc with hc
              rw [← hc]
              omega)
          clear hg
          rcases Nat.eq_zero_or_pos i with hi0 | hi0
          · have hib : ¬ 0 < i := by omega
            have HT1 : Hid (∀ j, j + 1 < i + 1 → (sb s)[j]? = some 32 → (sb s)[j + 1]? = some 32 → False) := Lib.hid (fun j h => by omega)
            clear hi0
            go_wp2
            exact ⟨⟨i + 1, by omega, by go_num, HN1.out, HT1.out, rfl⟩, by simp [intOf]; omega⟩
          · obtain ⟨i0, hi0e⟩ : ∃ i0, i = i0 + 1 := ⟨i - 1, by omega⟩
            have his0 : i0 < s.size := by omega
            obtain ⟨hg2, hb2⟩ := sb_get his0
            have hsub : (i : Int) - 1 = (i0 : Int) := by omega
            by_cases c3 : (s[i]'his).toNat = 32
            · have hc3 : (((s[i]'his).toNat : Int) == 32) = true := by simp [c3]
              by_cases c4 : (s[i0]'his0).toNat = 32
              · have hV := Lib.hid (inner_two (bs := sb s) (j := i0) (by rw [hg2, c4]) (by rw [← hi0e, HG.out, c3]))
                have hc4 : (((s[i0]'his0).toNat : Int) == 32) = true := by simp [c4]
                clear c3 c4 hg2 hi0e
                go_wp2
                go_ret
                exact ⟨by rw [hV.out]; rfl, Below.refl _ _⟩
              · have hc4 : (((s[i0]'his0).toNat : Int) == 32) = false := by simp; omega
                have HT1 : Hid (∀ j, j + 1 < i + 1 → (sb s)[j]? = some 32 → (sb s)[j + 1]? = some 32 → False) := Lib.hid (fun j h h1 h2 => by
                  rcases Nat.lt_or_ge (j + 1) i with g | g
                  · exact HT.out j g h1 h2
                  · obtain rfl : j = i0 := by omega
                    rw [hg2] at h1
                    injection h1 with h1
                    exact c4 h1)
                clear c3 c4 hg2 hi0e
                go_wp2
                exact ⟨⟨i + 1, by omega, by go_num, HN1.out, HT1.out, rfl⟩, by simp [intOf]; omega⟩
            · have hc3 : (((s[i]'his).toNat : Int) == 32) = false := by simp; omega
              have HT1 : Hid (∀ j, j + 1 < i + 1 → (sb s)[j]? = some 32 → (sb s)[j + 1]? = some 32 → False) := Lib.hid (fun j h h1 h2 => by
                rcases Nat.lt_or_ge (j + 1) i with g | g
                · exact HT.out j g h1 h2
                · have e : j + 1 = i := by omega
                  rw [e, HG.out] at h2
                  injection h2 with h2
                  exact c3 h2)
              clear c3 hg2 hi0e
              go_wp2
              exact ⟨⟨i + 1, by omega, by go_num, HN1.out, HT1.out, rfl⟩, by simp [intOf]; omega⟩
        · have hV := Lib.hid (inner_bad hg (by omega))
          clear hg
          have hcb2 : (126 : Int) < ((s[i]'his).toNat : Int) := by omega
          go_wp2
          go_ret
          exact ⟨by rw [hV.out]; rfl, Below.refl _ _⟩
    · have hlt : ¬ i < n := by omega
      have e : i = n := by omega
      have hV : innerT (sb s) = if 256 < (toks (sb s)).length then 4 else 0 := by
        unfold innerT charsT
        rw [twoB_no (fun j h1 h2 => HT.out j (by have := (List.getElem?_eq_some_iff.1 h2).1; rw [HBL.out] at this; omega) h1 h2)]
        rw [if_neg (by simp), if_pos (chars_good (fun j c hc => HA.out j c (by have := (List.getElem?_eq_some_iff.1 hc).1; rw [HBL.out] at this; omega) hc))]
      by_cases hbig : 256 < (toks (sb s)).length
      · rw [if_pos hbig] at hV
        have HV := Lib.hid hV
        clear hV HA HT e
        go_wp2_with (go_at_call 15; refine (HSp.out _).mono ?_; rintro en W2 ⟨v, rfl, hO, hB2⟩; obtain ⟨q, cap, rfl, _⟩ := hO.form)
        go_ret
        exact ⟨by rw [HV.out]; rfl, hB2⟩
      · rw [if_neg hbig] at hV
        have HV := Lib.hid hV
        clear hV HA HT e
        go_wp2_with (go_at_call 15; refine (HSp.out _).mono ?_; rintro en W2 ⟨v, rfl, hO, hB2⟩; obtain ⟨q, cap, rfl, _⟩ := hO.form)
        go_ret
        exact ⟨by rw [HV.out]; rfl, hB2⟩

end Go.Proofs.Ytehkgpefmjfifaa
