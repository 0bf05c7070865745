/-
  passimref01.GetStrings, for every byte slice of at most 10^9 bytes.
-/
import Derived.Test.YtpglfjfgnmaipaaWrl
namespace Go.Proofs.Ytpglfjfgnmaipaa
open Go.RowKit

/-- The strings that the reference has gathered. -/
def RowS (W w : World) (v : Value) (xs : List (List Nat)) : Prop := w.ownsRow W.heap.size 9 1 v xs.length (strL xs) ∧ Below W.heap.size W w
theorem RowS.keep {W w w' : World} {v : Value} {xs : List (List Nat)} (h : RowS W w v xs) (hb : Below w.heap.size w w') : RowS W w' v xs := ⟨owns_keep h.1 hb, h.2.trans (hb.mono h.2.size)⟩
/-- The call returned the list of strings, the number of bytes and the error of r; what is older has not changed. -/
def BackS (W : World) (r : List (List Nat) × Nat × Nat) (e : Ending) (w' : World) : Prop :=
  ∃ v, e = .returned (.tuple #[v, .int .i64 r.2.1, .int .i64 r.2.2]) ∧ RowS W w' v r.1
theorem backS_err {W w : World} {r : List (List Nat) × Nat × Nat} {er : Nat} (h : r = ([], 0, er)) (hB : Below W.heap.size W w) : BackS W r (.returned (.tuple #[.slice none 0 0, .int .i64 0, .int .i64 er])) w := by
  subst h
  exact ⟨_, rfl, World.ownsRow_nil _ _ _ _, hB⟩
theorem backS_ok {W w : World} {r : List (List Nat) × Nat × Nat} {v : Value} {xs : List (List Nat)} {u : Nat} (h : r = (xs, u, 0)) (hG : RowS W w v xs) : BackS W r (.returned (.tuple #[v, .int .i64 u, .int .i64 0])) w := by
  subst h
  exact ⟨v, rfl, hG⟩
set_option maxHeartbeats 400000 in
set_option maxRecDepth 100000 in
theorem rgetStrings_any (A : Option Addr) (l : List Nat) (n c : Nat) (w : World) (hn : n = l.length) (hc : n ≤ c) (hc2 : n ≤ 140737488355328) (hl : l.length ≤ 1000000000) (hr : Has w A l) :
    Calls Try.prog 32 #[.slice A n c] w (BackS w (listR (listD decB l 1))) := by
  have C : Calls Try.prog 40 #[.slice A n c, .int .i64 (1 : Nat)] w (fun e w' => e = .returned (three (lenD l 1)) ∧ Below w.heap.size w w') := rcount_any A l n c 1 w hn hc hc2 hr (by omega) (by omega)
  have hI := lenD_ok l 1
  subst hn
  unfold listD
  generalize lenD l 1 = r at C hI ⊢
  obtain ⟨x, u, er⟩ := r
  simp only [three] at C hI ⊢
  have H := Lib.hid C
  clear C
  obtain ⟨h1, h2, h3, h4, h5⟩ := hI
  by_cases h7 : er = 0
  · have he : ((er : Int) != 0) = false := by simp [h7]
    obtain ⟨k, rfl⟩ := Int.eq_ofNat_of_zero_le h3
    obtain ⟨h8, h9⟩ := h4 h7
    rw [if_neg (by simp [h7])]
    simp only [Int.toNat_natCast] at h9 ⊢
    have hlen : 0 < l.length := by omega
    obtain ⟨_, ad, rfl, _, _⟩ := hr.at 0 l[0] (List.getElem?_eq_getElem hlen)
    go_enter Try.func32, Try.ntmps32
    go_wp2_with fail
    refine H.out.mono ?_
    rintro e w1 ⟨rfl, hB1⟩
    have HG : RowS w w1 (.slice none 0 0) [] := ⟨World.ownsRow_nil _ _ _ _, hB1⟩
    clear H
    go_wp2
    go_loopw [6, 8, 9] (fun s6 s8 s9 wr => ∃ (i used : Nat) (vv : Value) (xs : List (List Nat)), s8 = vv ∧ i ≤ k ∧ s9 = .int .i64 i ∧ s6 = .int .i64 used ∧ used ≤ l.length ∧ xs.length ≤ i ∧ RowS w wr vv xs ∧ Hid (loopD decB l (k - i) used xs = loopD decB l k u [])) (fun _ _ s9 _ => k - (intOf s9).toNat)
    case atStart => exact ⟨0, u, _, [], rfl, by omega, rfl, rfl, by omega, by simp, HG, Lib.hid rfl⟩
    case round =>
      obtain ⟨i, used, vv, xs, hvv, hi, rfl, rfl, hu, hxs, hG2, HL⟩ := hrel
      have hv2 := hvv.symm
      clear hvv
      subst hv2
      by_cases hik : i < k
      · have hI2 := decB_ok (l.drop used)
        have hHas : Has wr (some ad) l := hr.keep hG2.2
        obtain ⟨⟨x2, u2, er2⟩, hd2⟩ : ∃ r, decB (l.drop used) = r := ⟨_, rfl⟩
        rw [hd2] at hI2
        simp only [List.length_drop] at hI2
        obtain ⟨g1, g2, g3, g4, g5, g6⟩ := hI2
        have C1 : ∀ (B : Option Addr) (n' c' : Nat), n' = l.length - used → n' ≤ c' → n' ≤ 140737488355328 → Has wr B (l.drop used) → Calls Try.prog 27 #[.slice B n' c'] wr (fun e w' => e = .returned (  .tuple #[.string (strOf x2), .int .i64 u2, .int .i64 er2]) ∧ Below wr.heap.size wr w') := fun B n' c' e1 e2 e3 e4 => by
          have := rgetBytes_any B (l.drop used) n' c' wr (by simpa using e1) e2 e3 e4
          rwa [hd2] at this
        have H1 := Lib.hid (C1 (some ad) 0 0)
        have H2 := Lib.hid (C1 (some (ad.add used)) (l.length - used) (c - used) rfl (by omega) (by omega) (hHas.drop used))
        have HLe : er2 ≠ 0 → loopD decB l (k - i) used xs = (xs ++ [x2], 0, er2) := fun h => loopD_err (by omega) hd2 h
        have HLo : er2 = 0 → loopD decB l (k - i) used xs = loopD decB l (k - (i + 1)) (used + u2) (xs ++ [x2]) := fun h => loopD_ok (by omega) hd2 h
        have HE := Lib.hid HLe
        have HO := Lib.hid HLo
        have HLast : used = l.length → l.drop used = [] := fun h => by rw [h]; simp
        have HL2 := Lib.hid HLast
        clear C1 hd2 HLe HLo HLast
        by_cases hcu : c = used
        · subst hcu
          by_cases h10 : er2 = 0
          · have := g6 h10
            omega
          · have he2 : ((er2 : Int) != 0) = true := by simp [h10]
            go_wp2_with fail
            refine (H1.out (by omega) (by omega) (by omega) (by rw [HL2.out (by omega)]; exact Has.none_ _ _)).mono ?_
            rintro e w3 ⟨rfl, hB3⟩
            have HN := Lib.hid (HL.out.symm.trans (HE.out h10))
            have hG3 := hG2.keep hB3
            clear HL HO HE H1 H2 hG2 hB3
            go_wp2
            go_ret3
            exact backS_err (by rw [HN.out]; exact listR_err h10) hG3.2
        · skip
          by_cases h10 : er2 = 0
          · have he2 : ((er2 : Int) != 0) = false := by simp [h10]
            go_wp2_with fail
            refine (H2.out).mono ?_
            rintro e w3 ⟨rfl, hB3⟩
            have HN := Lib.hid ((HO.out h10).symm.trans HL.out)
            have hG3 := hG2.keep hB3
            clear HL HO HE H1 H2 hG2 hB3
            go_wp2_with (at_builtin; refine push_strv (w := w3) (B := w.heap.size) rfl _ _ rfl xs x2 vv rfl hG3.1 hG3.2.size _ rfl ?b1 ?_)
            case b1 => omega
            intro v' w' hown' hgrow
            have hG4 : RowS w w' v' (xs ++ [x2]) := ⟨by rw [List.length_append]; exact hown', (hG3.2.alloc hG3.2.size _).grown hgrow (by have := hG3.2.size; simp; omega) (fun j hj => (hG3.1.lt j hj).1)⟩
            clear hG3 hown' hgrow
            go_wp2
            go_roundw
            case rel => exact ⟨i + 1, used + u2, _, xs ++ [x2], rfl, by omega, by go_num, by go_num, by omega, by simp; omega, hG4, HN⟩
            case measure => simp [intOf]; omega
          · have he2 : ((er2 : Int) != 0) = true := by simp [h10]
            go_wp2_with fail
            refine (H2.out).mono ?_
            rintro e w3 ⟨rfl, hB3⟩
            have HN := Lib.hid (HL.out.symm.trans (HE.out h10))
            have hG3 := hG2.keep hB3
            clear HL HO HE H1 H2 hG2 hB3
            go_wp2
            go_ret3
            exact backS_err (by rw [HN.out]; exact listR_err h10) hG3.2
      · obtain rfl : k = i := by omega
        go_wp2
        go_ret3
        have e := HL.out
        rw [Nat.sub_self, loopD_zero] at e
        exact backS_ok (by rw [← e]; exact listR_ok) hG2
  · have he : ((er : Int) != 0) = true := by simp [h7]
    rw [if_pos h7]
    go_enter Try.func32, Try.ntmps32
    go_wp2_with fail
    refine H.out.mono ?_
    rintro e w1 ⟨rfl, hB1⟩
    clear H
    go_wp2
    go_ret3
    exact backS_err (listR_err h7) hB1

end Go.Proofs.Ytpglfjfgnmaipaa
