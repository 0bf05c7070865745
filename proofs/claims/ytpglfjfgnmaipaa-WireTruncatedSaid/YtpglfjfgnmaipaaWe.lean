/-
  wire.list over strings, for every byte slice of at most 10^9 bytes.
-/
import Derived.Test.YtpglfjfgnmaipaaWd
namespace Go.Proofs.Ytpglfjfgnmaipaa
open Go.RowKit

/-- The call gave the number of bytes and the error of r, and gathered its list. -/
def GaveT (W : World) (r : List (List Nat) × Nat × Nat) (e : Ending) (w' : World) : Prop :=
  e = .returned (.tuple #[.int .i64 r.2.1, .int .i64 r.2.2]) ∧ ∃ v', GotS W w' v' r.1

theorem gaveT_of {W w : World} {v : Value} {xs : List (List Nat)} {u er : Nat} {r : List (List Nat) × Nat × Nat} (h : r = (xs, u, er)) (hG : GotS W w v xs) : GaveT W r (.returned (.tuple #[.int .i64 u, .int .i64 er])) w := by
  subst h
  exact ⟨rfl, v, hG⟩

set_option maxHeartbeats 400000 in
theorem listS_any (W : World) (A : Option Addr) (l : List Nat) (n c : Nat) (v : Value) (w : World) (hn : n = l.length) (hc : n ≤ c) (hc2 : n ≤ 140737488355328) (hl : l.length ≤ 1000000000) (hr : Has W A l)
    (hG : GotS W w v []) :
    Calls Try.prog 41 #[.slice A n c, .int .i64 1, .func (.func 43) #[] #[.pointer (some ⟨W.heap.size, 0, none⟩)]] w (GaveT W (listD decB l 1)) := by
  have C := length_any A l n c 1 w hn hc hc2 (hr.keep hG.2.2) (by omega) (by omega)
  have hI := lenD_ok l 1
  subst hn
  unfold listD
  generalize lenD l 1 = r at C hI ⊢
  obtain ⟨x, u, er⟩ := r
  simp only [three] at C hI ⊢
  have H := Lib.hid C
  clear C
  obtain ⟨h1, h2, h3, h4, h5⟩ := hI
  by_cases h7 : er = 0
  · have he : ((er : Int) != 0) = false := by simp [h7]
    obtain ⟨k, rfl⟩ := Int.eq_ofNat_of_zero_le h3
    obtain ⟨h8, h9⟩ := h4 h7
    rw [if_neg (by simp [h7])]
    simp only [Int.toNat_natCast] at h9 ⊢
    have hlen : 0 < l.length := by omega
    obtain ⟨_, ad, rfl, _, _⟩ := hr.at 0 l[0] (List.getElem?_eq_getElem hlen)
    have HG := Lib.hid hG
    clear hG
    go_enter Try.func41, Try.ntmps41
    go_wp2_with fail
    refine H.out.mono ?_
    rintro e w1 ⟨rfl, rfl⟩
    go_wp2
    go_loopw [9, 24] (fun s9 s24 wr => ∃ (i used : Nat) (vv : Value) (xs : List (List Nat)), i ≤ k ∧ s24 = .int .i64 i ∧ s9 = .int .i64 used ∧ used ≤ l.length ∧ xs.length ≤ i ∧ GotS W wr vv xs ∧ Hid (loopD decB l (k - i) used xs = loopD decB l k u [])) (fun _ s24 _ => k - (intOf s24).toNat)
    case atStart => exact ⟨0, u, v, [], by omega, rfl, rfl, by omega, by simp, HG.out, Lib.hid rfl⟩
    case round =>
      obtain ⟨i, used, vv, xs, hi, rfl, rfl, hu, hxs, hG2, HL⟩ := hrel
      by_cases hik : i < k
      · have hI2 := decB_ok (l.drop used)
        have hHas : Has wr (some ad) l := hr.keep hG2.2.2
        obtain ⟨⟨x2, u2, er2⟩, hd2⟩ : ∃ r, decB (l.drop used) = r := ⟨_, rfl⟩
        rw [hd2] at hI2
        simp only [List.length_drop] at hI2
        obtain ⟨g1, g2, g3, g4, g5, g6⟩ := hI2
        have C1 : ∀ (B : Option Addr) (n' c' : Nat), n' = l.length - used → n' ≤ c' → n' ≤ 140737488355328 → Has wr B (l.drop used) → Calls Try.prog 43 #[.slice B n' c', .pointer (some ⟨W.heap.size, 0, none⟩)] wr (GaveS W xs (x2, u2, er2)) := fun B n' c' e1 e2 e3 e4 => by
          have := getStrings1_any W B (l.drop used) n' c' vv xs wr (by simpa using e1) e2 e3 e4 hG2 (by omega)
          rwa [hd2] at this
        have H1 := Lib.hid (C1 (some ad) 0 0)
        have H2 := Lib.hid (C1 (some (ad.add used)) (l.length - used) (c - used) rfl (by omega) (by omega) (hHas.drop used))
        have HLe : er2 ≠ 0 → loopD decB l (k - i) used xs = (xs ++ [x2], 0, er2) := fun h => loopD_err (by omega) hd2 h
        have HLo : er2 = 0 → loopD decB l (k - i) used xs = loopD decB l (k - (i + 1)) (used + u2) (xs ++ [x2]) := fun h => loopD_ok (by omega) hd2 h
        have HE := Lib.hid HLe
        have HO := Lib.hid HLo
        have HLast : used = l.length → l.drop used = [] := fun h => by rw [h]; simp
        have HL2 := Lib.hid HLast
        clear C1 hd2 HLe HLo HLast
        by_cases hcu : c = used
        · subst hcu
          by_cases h10 : er2 = 0
          · have he2 : ((er2 : Int) != 0) = false := by simp [h10]
            go_wp2_with fail
            refine (H1.out (by omega) (by omega) (by omega) (by rw [HL2.out (by omega)]; exact Has.none_ _ _)).mono ?_
            rintro e w3 ⟨rfl, v3, hG3⟩
            have HN := Lib.hid ((HO.out h10).symm.trans HL.out)
            clear HL HO HE H1 H2 hG2
            go_wp2
            go_roundw
            case rel => exact ⟨i + 1, c + u2, v3, xs ++ [x2], by omega, by go_num, by go_num, by omega, by simp; omega, hG3, HN⟩
            case measure => simp [intOf]; omega
          · have he2 : ((er2 : Int) != 0) = true := by simp [h10]
            go_wp2_with fail
            refine (H1.out (by omega) (by omega) (by omega) (by rw [HL2.out (by omega)]; exact Has.none_ _ _)).mono ?_
            rintro e w3 ⟨rfl, v3, hG3⟩
            have HN := Lib.hid (HL.out.symm.trans (HE.out h10))
            clear HL HO HE H1 H2 hG2
            go_wp2
            go_ret2
            exact gaveT_of HN.out hG3
        · skip
          by_cases h10 : er2 = 0
          · have he2 : ((er2 : Int) != 0) = false := by simp [h10]
            go_wp2_with fail
            refine H2.out.mono ?_
            rintro e w3 ⟨rfl, v3, hG3⟩
            have HN := Lib.hid ((HO.out h10).symm.trans HL.out)
            clear HL HO HE H1 H2 hG2
            go_wp2
            go_roundw
            case rel => exact ⟨i + 1, used + u2, v3, xs ++ [x2], by omega, by go_num, by go_num, by omega, by simp; omega, hG3, HN⟩
            case measure => simp [intOf]; omega
          · have he2 : ((er2 : Int) != 0) = true := by simp [h10]
            go_wp2_with fail
            refine H2.out.mono ?_
            rintro e w3 ⟨rfl, v3, hG3⟩
            have HN := Lib.hid (HL.out.symm.trans (HE.out h10))
            clear HL HO HE H1 H2 hG2
            go_wp2
            go_ret2
            exact gaveT_of HN.out hG3
      · obtain rfl : k = i := by omega
        go_wp2
        go_ret2
        have e := HL.out
        rw [Nat.sub_self, loopD_zero] at e
        exact gaveT_of e.symm hG2
  · have he : ((er : Int) != 0) = true := by simp [h7]
    rw [if_pos h7]
    have HG := Lib.hid hG
    clear hG
    go_enter Try.func41, Try.ntmps41
    go_wp2_with fail
    refine H.out.mono ?_
    rintro e w1 ⟨rfl, rfl⟩
    go_wp2
    go_ret2
    exact ⟨by simp, v, HG.out⟩

end Go.Proofs.Ytpglfjfgnmaipaa
