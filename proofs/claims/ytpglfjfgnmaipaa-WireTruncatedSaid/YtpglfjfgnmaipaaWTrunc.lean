/-
  For every integer, string, and list of integers, strings and digests passimlaw01.WireTruncated returns true and leaves its arguments as they were. No condition but the form's own reach.
-/
import Derived.Test.YtpglfjfgnmaipaaWFew
import Derived.Test.YtpglfjfgnmaipaaWEncode
import Derived.Test.YtpglfjfgnmaipaaWTr
namespace Go.Proofs.Ytpglfjfgnmaipaa
open Go.RowKit

/-- The call returned the error 'more'; nothing that was there has changed. -/
def Err3 (W : World) (e : Ending) (w' : World) : Prop := ∃ v1 v2 : Value, e = .returned (.tuple #[v1, v2, .int .i64 3]) ∧ Below W.heap.size W w'

theorem tr1 (n : Int) (hn : I64 n) (A : Option Addr) (i c : Nat) (w : World) (hi : i < (enc n).length) (hc : i ≤ c) (h : Has w A (enc n)) : Calls Try.prog 24 #[.slice A i c] w (Err3 w) := by
  have hl := enc_length n hn.1 hn.2
  refine (getInt_any A ((enc n).take i) i c w (by simp; omega) hc (by omega) (h.take i)).mono fun e w2 ⟨he, hw⟩ => ?_
  have hp := dec_pref n hn i hi
  subst hw
  rw [he]
  unfold three
  rw [hp]
  exact ⟨_, _, rfl, Below.refl _ _⟩
theorem tr2 (s : ByteArray) (hs : s.size ≤ 2000) (A : Option Addr) (i c : Nat) (w : World) (hi : i < (encS (sb s)).length) (hc : i ≤ c) (h : Has w A (encS (sb s))) : Calls Try.prog 26 #[.slice A i c] w (Err3 w) := by
  have hl := encS_length (sb s) (by rw [sb_length]; omega)
  rw [sb_length] at hl
  refine (getBytes_any A ((encS (sb s)).take i) i c w (by simp; omega) hc (by omega) (h.take i)).mono fun e w2 ⟨he, hw⟩ => ?_
  have hp := decB_pref (sb s) i (by rw [sb_length]; omega) hi
  subst hw
  rw [he]
  unfold threeB
  rw [hp]
  exact ⟨_, _, rfl, Below.refl _ _⟩
theorem tr3 (l : List Int) (hl : l.length ≤ 2000) (hx : ∀ x ∈ l, I64 x) (A : Option Addr) (i c : Nat) (w : World) (hi : i < (encL l).length) (hc : i ≤ c) (h : Has w A (encL l)) : Calls Try.prog 28 #[.slice A i c] w (Err3 w) := by
  have he := partI_length l l.length hx (by omega)
  rw [partI_all] at he
  refine (getInts_any A ((encL l).take i) i c w (by simp; omega) hc (by omega) (by simp; omega) (h.take i)).mono fun e w2 ⟨v, he, _, hB⟩ => ?_
  have hp := ints_pref l i (by omega) hx hi
  rw [he, hp]
  exact ⟨_, _, rfl, hB⟩
theorem tr4 (x : List ByteArray) (hl : x.length ≤ 2000) (ht : tot (sbs x) ≤ 2000) (A : Option Addr) (i c : Nat) (w : World) (hi : i < (encT (sbs x)).length) (hc : i ≤ c) (h : Has w A (encT (sbs x))) : Calls Try.prog 31 #[.slice A i c] w (Err3 w) := by
  have he := partT_length (sbs x) (sbs x).length (by rw [sbs_length]; omega) (by omega)
  rw [partT_all, sbs_length] at he
  have hsx : ∀ y ∈ sbs x, y.length ≤ 9223372036854775807 := by
    intro y hy
    obtain ⟨z, hz, rfl⟩ := List.mem_map.1 hy
    obtain ⟨j, hj, rfl⟩ := List.mem_iff_getElem.1 hz
    have := size_tot x j hj
    rw [sb_length]
    omega
  refine (getStrings_any A ((encT (sbs x)).take i) i c w (by simp; omega) hc (by omega) (by simp; omega) (h.take i)).mono fun e w2 ⟨v, he, _, hB⟩ => ?_
  have hp := texts_pref (sbs x) i (by rw [sbs_length]; omega) hsx hi
  rw [he, hp]
  exact ⟨_, _, rfl, hB⟩
theorem tr5 (l : List (List Nat)) (hl : l.length ≤ 2000) (hx : ∀ x ∈ l, Dig x) (A : Option Addr) (i c : Nat) (w : World) (hi : i < (encD l).length) (hc : i ≤ c) (h : Has w A (encD l)) : Calls Try.prog 34 #[.slice A i c] w (Err3 w) := by
  have he := partD_length l l.length hx (by omega)
  rw [partD_all] at he
  refine (getDigests_any A ((encD l).take i) i c w (by simp; omega) hc (by omega) (by simp; omega) (h.take i)).mono fun e w2 ⟨v, he, _, hB⟩ => ?_
  have hp := digs_pref l i (by omega) hx hi
  rw [he, hp]
  exact ⟨_, _, rfl, hB⟩

/-- The row of the five encodings, in block b. -/
structure Five (w wk : World) (b g1 c1 g2 c2 g3 c3 g4 c4 g5 c5 : Nat) (E1 E2 E3 E4 E5 : List Nat) : Prop where
  a1 : Has wk (some ⟨g1, 0, none⟩) E1
  a2 : Has wk (some ⟨g2, 0, none⟩) E2
  a3 : Has wk (some ⟨g3, 0, none⟩) E3
  a4 : Has wk (some ⟨g4, 0, none⟩) E4
  a5 : Has wk (some ⟨g5, 0, none⟩) E5
  r1 : wk.cell? ⟨b, 0, none⟩ = some (.slice (some ⟨g1, 0, none⟩) E1.length c1)
  r2 : wk.cell? ⟨b, 1, none⟩ = some (.slice (some ⟨g2, 0, none⟩) E2.length c2)
  r3 : wk.cell? ⟨b, 2, none⟩ = some (.slice (some ⟨g3, 0, none⟩) E3.length c3)
  r4 : wk.cell? ⟨b, 3, none⟩ = some (.slice (some ⟨g4, 0, none⟩) E4.length c4)
  r5 : wk.cell? ⟨b, 4, none⟩ = some (.slice (some ⟨g5, 0, none⟩) E5.length c5)
  hb : b < wk.heap.size
  hB : Below w.heap.size w wk
theorem Five.keep {w wk w2 : World} {b g1 c1 g2 c2 g3 c3 g4 c4 g5 c5 : Nat} {E1 E2 E3 E4 E5 : List Nat} (h : Five w wk b g1 c1 g2 c2 g3 c3 g4 c4 g5 c5 E1 E2 E3 E4 E5) (hb : Below wk.heap.size wk w2) : Five w w2 b g1 c1 g2 c2 g3 c3 g4 c4 g5 c5 E1 E2 E3 E4 E5 :=
  ⟨h.a1.keep hb, h.a2.keep hb, h.a3.keep hb, h.a4.keep hb, h.a5.keep hb, (hb.cell (p := ⟨b, 0, none⟩) h.hb).trans h.r1, (hb.cell (p := ⟨b, 1, none⟩) h.hb).trans h.r2, (hb.cell (p := ⟨b, 2, none⟩) h.hb).trans h.r3, (hb.cell (p := ⟨b, 3, none⟩) h.hb).trans h.r4,
    (hb.cell (p := ⟨b, 4, none⟩) h.hb).trans h.r5, Nat.lt_of_lt_of_le h.hb hb.size, h.hB.trans (hb.mono h.hB.size)⟩

set_option maxHeartbeats 4000000 in
set_option maxRecDepth 100000 in
theorem truncated_any (a : Int) (s : ByteArray) (A : Option Addr) (l : List Int) (B : Option Addr) (x : List ByteArray) (C : Option Addr) (d : List (List Nat)) (n c n2 c2 n3 c3 : Nat) (w : World)
    (ha1 : -9223372036854775808 ≤ a) (ha2 : a ≤ 9223372036854775807) (hs : s.size ≤ 140737488355328) (hn : n = l.length) (hn2 : n2 = x.length) (hn3 : n3 = d.length) (hl : l.length ≤ 140737488355328) (hx : x.length ≤ 140737488355328) (hxt : ∀ y ∈ x, y.size ≤ 140737488355328) (hd : d.length ≤ 140737488355328)
    (hi : ∀ y ∈ l, I64 y) (hD : ∀ y ∈ d, Dig y) (h3 : Cells w A (intsV l)) (h4 : Cells w B (strsV x)) (h5 : DCells w C d) :
    Calls Try.prog 9 #[.int .i64 a, .string s, .slice A n c, .slice B n2 c2, .slice C n3 c3] w (Told w true) := by
  subst hn; subst hn2; subst hn3
  have X0 : Three w w A l B x C d := ⟨h3, h4, h5, Below.refl _ _⟩
  by_cases hm : 400 < s.size + 9 * l.length + 16 * d.length
  · have hd : decide ((400 : Int) < (s.size : Int) + 9 * (l.length : Int) + 16 * (d.length : Int)) = true := by simp; omega
    go_enter Try.func9, Try.ntmps9
    go_wp2_with fail
    refine (sanity_any _).mono ?_
    rintro e w1 ⟨rfl, hB1⟩
    go_wp2
    go_ret
    exact ⟨rfl, hB1⟩
  · have hd0 : decide ((400 : Int) < (s.size : Int) + 9 * (l.length : Int) + 16 * (d.length : Int)) = false := by simp; omega
    by_cases h40 : 40 < x.length
    · have hd1 : decide ((40 : Int) < (x.length : Int)) = true := by simp; omega
      go_enter Try.func9, Try.ntmps9
      go_wp2_with fail
      refine (sanity_any _).mono ?_
      rintro e w1 ⟨rfl, hB1⟩
      go_wp2
      go_ret
      exact ⟨rfl, hB1⟩
    · have hd1 : decide ((40 : Int) < (x.length : Int)) = false := by simp; omega
      have htot : tot (sbs x) ≤ 2305843009213693952 := by
        have h1 := tot_bound (sbs x) 140737488355328 (fun y hy => by
          obtain ⟨z, hz, rfl⟩ := List.mem_map.1 hy
          rw [sb_length]
          exact hxt z hz)
        rw [sbs_length] at h1
        omega
      have HF := Lib.hid (few_any B x x.length c2 w rfl (by omega) htot h4)
      clear h3 h4 h5 hxt
      by_cases hf : x.length + tot (sbs x) ≤ 2000
      · have hfb : decide (x.length + tot (sbs x) ≤ 2000) = true := by simp [hf]
        have HB := Lib.hid (EncB.mk ha1 ha2 (by omega) (by omega) hi (by omega) (by omega) (by omega) hD : EncB a s l x d)
        clear hi hD hf
        go_enter Try.func9, Try.ntmps9
        go_wp2_with fail
        refine HF.out.mono ?_
        rintro e wx ⟨rfl, rfl⟩
        clear HF
        go_wp2_with fail
        refine (int_any a HB.out.n1 HB.out.n2 w).mono ?_
        rintro e w1 ⟨g1, cap1, rfl, hO1⟩
        have hc1 := own_cap hO1
        have X1 := X0.keep hO1.below
        have Y1 := hO1.has HB.out.b1.2
        clear X0 hO1
        go_wp2_with fail
        refine (bytes_any s (Nat.le_trans HB.out.s1 (by omega)) w1).mono ?_
        rintro e w2 ⟨g2, cap2, rfl, hO2⟩
        have hc2 := own_cap hO2
        have X2 := X1.keep hO2.below
        have Y1' := Y1.keep hO2.below
        have Y2 := hO2.has HB.out.b2.2
        clear X1 hO2 Y1
        go_wp2_with fail
        refine (ints_any A l l.length c w2 rfl (Nat.le_trans HB.out.l1 (by omega)) HB.out.l2 X2.h3).mono ?_
        rintro e w3 ⟨g3, cap3, rfl, hO3⟩
        have hc3 := own_cap hO3
        have X3 := X2.keep hO3.below
        have Y1 := Y1'.keep hO3.below
        have Y2' := Y2.keep hO3.below
        have Y3 := hO3.has HB.out.b3.2
        clear X2 hO3 Y1' Y2
        go_wp2_with fail
        refine (strings_any B x x.length c2 w3 rfl (Nat.le_trans HB.out.x1 (by omega)) (Nat.le_trans HB.out.x2 (by omega)) X3.h4).mono ?_
        rintro e w4 ⟨g4, cap4, rfl, hO4⟩
        have hc4 := own_cap hO4
        have X4 := X3.keep hO4.below
        have Y1' := Y1.keep hO4.below
        have Y2 := Y2'.keep hO4.below
        have Y3' := Y3.keep hO4.below
        have Y4 := hO4.has HB.out.b4.2
        clear X3 hO4 Y1 Y2' Y3
        go_wp2_with fail
        refine (digests_any C d d.length c3 w4 rfl (Nat.le_trans HB.out.d1 (by omega)) X4.h5).mono ?_
        rintro e w5 ⟨g5, cap5, rfl, hO5⟩
        have hc5 := own_cap hO5
        have X5 := X4.keep hO5.below
        have Y1 := Y1'.keep hO5.below
        have Y2' := Y2.keep hO5.below
        have Y3 := Y3'.keep hO5.below
        have Y4' := Y4.keep hO5.below
        have Y5 := hO5.has HB.out.b5.2
        clear X4 hO5 Y1' Y2 Y3' Y4
        have T1 := Lib.hid (fun A i c w => tr1 a ⟨HB.out.n1, HB.out.n2⟩ A i c w)
        have T2 := Lib.hid (fun A i c w => tr2 s HB.out.s1 A i c w)
        have T3 := Lib.hid (fun A i c w => tr3 l HB.out.l1 HB.out.l2 A i c w)
        have T4 := Lib.hid (fun A i c w => tr4 x HB.out.x1 HB.out.x2 A i c w)
        have T5 := Lib.hid (fun A i c w => tr5 d HB.out.d1 HB.out.d2 A i c w)
        have m1 := HB.out.b1.1
        have m2 := HB.out.b2.1
        have m3 := HB.out.b3.1
        have m4 := HB.out.b4.1
        have m5 := HB.out.b5.1
        clear HB
        generalize enc a = E1 at *
        generalize encS (sb s) = E2 at *
        generalize encL l = E3 at *
        generalize encT (sbs x) = E4 at *
        generalize encD d = E5 at *
        go_wp2
        have hBn : Below w5.heap.size w5 (w5.alloc (.cells #[.slice (some ⟨g1, 0, none⟩) E1.length cap1, .slice (some ⟨g2, 0, none⟩) E2.length cap2, .slice (some ⟨g3, 0, none⟩) E3.length cap3, .slice (some ⟨g4, 0, none⟩) E4.length cap4, .slice (some ⟨g5, 0, none⟩) E5.length cap5] 28)) := (Below.refl _ _).alloc (Nat.le_refl _) _
        have X6 : Five w (w5.alloc (.cells #[.slice (some ⟨g1, 0, none⟩) E1.length cap1, .slice (some ⟨g2, 0, none⟩) E2.length cap2, .slice (some ⟨g3, 0, none⟩) E3.length cap3, .slice (some ⟨g4, 0, none⟩) E4.length cap4, .slice (some ⟨g5, 0, none⟩) E5.length cap5] 28)) w5.heap.size g1 cap1 g2 cap2 g3 cap3 g4 cap4 g5 cap5 E1 E2 E3 E4 E5 :=
          ⟨Y1.keep hBn, Y2'.keep hBn, Y3.keep hBn, Y4'.keep hBn, Y5.keep hBn, by rw [World.cell?_alloc_mark]; rfl, by rw [World.cell?_alloc_mark]; rfl, by rw [World.cell?_alloc_mark]; rfl, by rw [World.cell?_alloc_mark]; rfl, by rw [World.cell?_alloc_mark]; rfl, by simp, X5.hB.trans (hBn.mono X5.hB.size)⟩
        clear hBn Y1 Y2' Y3 Y4' Y5 X5
        go_loopw [49] (fun i wr => ∃ k : Nat, k ≤ 5 ∧ i = .int .i64 k ∧ Five w wr w5.heap.size g1 cap1 g2 cap2 g3 cap3 g4 cap4 g5 cap5 E1 E2 E3 E4 E5) (fun i _ => 5 - (intOf i).toNat)
        case atStart => exact ⟨0, by omega, rfl, X6⟩
        case round =>
          obtain ⟨k, hk, rfl, X⟩ := hrel
          obtain ⟨wo, rfl⟩ : ∃ wo : World, wo = wr := ⟨_, rfl⟩
          by_cases h5 : k < 5
          · obtain rfl | rfl | rfl | rfl | rfl : k = 0 ∨ k = 1 ∨ k = 2 ∨ k = 3 ∨ k = 4 := by omega
            · have r1 := X.r1
              go_wp2
              all_goals
                go_loopw [57] (fun i wr => ∃ j : Nat, j ≤ E1.length ∧ j ≤ 500 ∧ i = .int .i64 j ∧ Five w wr w5.heap.size g1 cap1 g2 cap2 g3 cap3 g4 cap4 g5 cap5 E1 E2 E3 E4 E5) (fun i _ => 500 - (intOf i).toNat)
                case atStart => exact ⟨0, by omega, by omega, rfl, X⟩
                case round =>
                  obtain ⟨j, hj1, hj2, rfl, Z⟩ := hrel
                  by_cases hlt : j < E1.length ∧ j < 500
                  · obtain ⟨h1, h2⟩ := hlt
                    have J := Lib.hid (T1.out (some ⟨g1, 0, none⟩) j cap1 _ h1 (by omega) Z.a1)
                    go_wp2_with fail
                    refine J.out.mono ?_
                    rintro e w7 ⟨v1, v2, rfl, hB7⟩
                    have Z' := Z.keep hB7
                    clear Z hB7 J
                    go_wp2
                    go_roundw
                    case rel => exact ⟨j + 1, by omega, by omega, by go_num, Z'⟩
                    case measure => simp [intOf]; omega
                  · have hex : ¬ j < E1.length ∨ ¬ j < 500 := by omega
                    rcases hex with hex | hex
                    all_goals first
                    | (exfalso; omega)
                    | go_wp2
                      go_roundw
                      case rel => exact ⟨1, by omega, rfl, Z⟩
                      case measure => simp [intOf]
            · have r1 := X.r2
              go_wp2
              all_goals
                go_loopw [57] (fun i wr => ∃ j : Nat, j ≤ E2.length ∧ j ≤ 500 ∧ i = .int .i64 j ∧ Five w wr w5.heap.size g1 cap1 g2 cap2 g3 cap3 g4 cap4 g5 cap5 E1 E2 E3 E4 E5) (fun i _ => 500 - (intOf i).toNat)
                case atStart => exact ⟨0, by omega, by omega, rfl, X⟩
                case round =>
                  obtain ⟨j, hj1, hj2, rfl, Z⟩ := hrel
                  by_cases hlt : j < E2.length ∧ j < 500
                  · obtain ⟨h1, h2⟩ := hlt
                    have J := Lib.hid (T2.out (some ⟨g2, 0, none⟩) j cap2 _ h1 (by omega) Z.a2)
                    go_wp2_with fail
                    refine J.out.mono ?_
                    rintro e w7 ⟨v1, v2, rfl, hB7⟩
                    have Z' := Z.keep hB7
                    clear Z hB7 J
                    go_wp2
                    go_roundw
                    case rel => exact ⟨j + 1, by omega, by omega, by go_num, Z'⟩
                    case measure => simp [intOf]; omega
                  · have hex : ¬ j < E2.length ∨ ¬ j < 500 := by omega
                    rcases hex with hex | hex
                    all_goals first
                    | (exfalso; omega)
                    | go_wp2
                      go_roundw
                      case rel => exact ⟨2, by omega, rfl, Z⟩
                      case measure => simp [intOf]
            · have r1 := X.r3
              go_wp2
              all_goals
                go_loopw [57] (fun i wr => ∃ j : Nat, j ≤ E3.length ∧ j ≤ 500 ∧ i = .int .i64 j ∧ Five w wr w5.heap.size g1 cap1 g2 cap2 g3 cap3 g4 cap4 g5 cap5 E1 E2 E3 E4 E5) (fun i _ => 500 - (intOf i).toNat)
                case atStart => exact ⟨0, by omega, by omega, rfl, X⟩
                case round =>
                  obtain ⟨j, hj1, hj2, rfl, Z⟩ := hrel
                  by_cases hlt : j < E3.length ∧ j < 500
                  · obtain ⟨h1, h2⟩ := hlt
                    have J := Lib.hid (T3.out (some ⟨g3, 0, none⟩) j cap3 _ h1 (by omega) Z.a3)
                    go_wp2_with fail
                    refine J.out.mono ?_
                    rintro e w7 ⟨v1, v2, rfl, hB7⟩
                    have Z' := Z.keep hB7
                    clear Z hB7 J
                    go_wp2
                    go_roundw
                    case rel => exact ⟨j + 1, by omega, by omega, by go_num, Z'⟩
                    case measure => simp [intOf]; omega
                  · have hex : ¬ j < E3.length ∨ ¬ j < 500 := by omega
                    rcases hex with hex | hex
                    all_goals first
                    | (exfalso; omega)
                    | go_wp2
                      go_roundw
                      case rel => exact ⟨3, by omega, rfl, Z⟩
                      case measure => simp [intOf]
            · have r1 := X.r4
              go_wp2
              all_goals
                go_loopw [57] (fun i wr => ∃ j : Nat, j ≤ E4.length ∧ j ≤ 500 ∧ i = .int .i64 j ∧ Five w wr w5.heap.size g1 cap1 g2 cap2 g3 cap3 g4 cap4 g5 cap5 E1 E2 E3 E4 E5) (fun i _ => 500 - (intOf i).toNat)
                case atStart => exact ⟨0, by omega, by omega, rfl, X⟩
                case round =>
                  obtain ⟨j, hj1, hj2, rfl, Z⟩ := hrel
                  by_cases hlt : j < E4.length ∧ j < 500
                  · obtain ⟨h1, h2⟩ := hlt
                    have J := Lib.hid (T4.out (some ⟨g4, 0, none⟩) j cap4 _ h1 (by omega) Z.a4)
                    go_wp2_with fail
                    refine J.out.mono ?_
                    rintro e w7 ⟨v1, v2, rfl, hB7⟩
                    have Z' := Z.keep hB7
                    clear Z hB7 J
                    go_wp2
                    go_roundw
                    case rel => exact ⟨j + 1, by omega, by omega, by go_num, Z'⟩
                    case measure => simp [intOf]; omega
                  · have hex : ¬ j < E4.length ∨ ¬ j < 500 := by omega
                    rcases hex with hex | hex
                    all_goals first
                    | (exfalso; omega)
                    | go_wp2
                      go_roundw
                      case rel => exact ⟨4, by omega, rfl, Z⟩
                      case measure => simp [intOf]
            · have r1 := X.r5
              go_wp2
              all_goals
                go_loopw [57] (fun i wr => ∃ j : Nat, j ≤ E5.length ∧ j ≤ 500 ∧ i = .int .i64 j ∧ Five w wr w5.heap.size g1 cap1 g2 cap2 g3 cap3 g4 cap4 g5 cap5 E1 E2 E3 E4 E5) (fun i _ => 500 - (intOf i).toNat)
                case atStart => exact ⟨0, by omega, by omega, rfl, X⟩
                case round =>
                  obtain ⟨j, hj1, hj2, rfl, Z⟩ := hrel
                  by_cases hlt : j < E5.length ∧ j < 500
                  · obtain ⟨h1, h2⟩ := hlt
                    have J := Lib.hid (T5.out (some ⟨g5, 0, none⟩) j cap5 _ h1 (by omega) Z.a5)
                    go_wp2_with fail
                    refine J.out.mono ?_
                    rintro e w7 ⟨v1, v2, rfl, hB7⟩
                    have Z' := Z.keep hB7
                    clear Z hB7 J
                    go_wp2
                    go_roundw
                    case rel => exact ⟨j + 1, by omega, by omega, by go_num, Z'⟩
                    case measure => simp [intOf]; omega
                  · have hex : ¬ j < E5.length ∨ ¬ j < 500 := by omega
                    rcases hex with hex | hex
                    all_goals first
                    | (exfalso; omega)
                    | go_wp2
                      go_roundw
                      case rel => exact ⟨5, by omega, rfl, Z⟩
                      case measure => simp [intOf]
          · obtain rfl : k = 5 := by omega
            go_wp2_with fail
            refine (sanity_any _).mono ?_
            rintro e w9 ⟨rfl, hB9⟩
            go_wp2
            go_ret
            exact ⟨rfl, X.hB.trans (hB9.mono X.hB.size)⟩
      · have hfb : decide (x.length + tot (sbs x) ≤ 2000) = false := by simp; omega
        clear hi hD hf
        go_enter Try.func9, Try.ntmps9
        go_wp2_with fail
        refine HF.out.mono ?_
        rintro e wx ⟨rfl, rfl⟩
        clear HF
        go_wp2_with fail
        refine (sanity_any _).mono ?_
        rintro e w1 ⟨rfl, hB1⟩
        go_wp2
        go_ret
        exact ⟨rfl, hB1⟩

theorem weights_strs {H : Type} (e : TypeId) (he : Try.prog.underlying e = some .string) : ∀ (l : List ByteArray), ∀ s ∈ l, s.size ∈ DataW.weightsAll Try.prog e (Go.ChangeShapes.strs (H := H) l)
  | a :: l, s, hs => by
    have e1 : a.data.toList.length = a.size := Array.length_toList
    simp only [Go.ChangeShapes.strs, List.map_cons, DataW.weightsAll, List.mem_append, DataW.weights, List.mem_singleton]
    rcases List.mem_cons.1 hs with rfl | h
    · left; exact e1.symm
    · right; exact weights_strs e he l s h
theorem sized_strs {H : Type} {ts : List TypeId} {ds : List (DataW H)} (h : (DataW.weightsEach Try.prog ts ds).all (· ≤ reachBytes) = true) {j : Nat} {l ss : List ByteArray} (ht : ts[j]? = some 23) (hd : ds[j]? = some (.slice (Go.ChangeShapes.strs l) (Go.ChangeShapes.strs ss))) :
    ∀ s ∈ l, s.size ≤ reachBytes := by
  intro s hs
  have := List.all_eq_true.1 h _ (DataW.weights_mem_each ht hd s.size (by
    simp only [DataW.weights, Try.underlying23]
    exact List.mem_cons_of_mem _ (List.mem_append_left _ (weights_strs _ Try.underlying9 l s hs))))
  simpa using this

namespace wireTruncated
open Go.ChangeShapes Go.WideShapes Go.ChangeAt Go.RowKit

set_option maxRecDepth 100000 in
theorem lifted (os : Os) (started : os.Started) (H : Type) (enc : TypeId × Value → H) :
    ReturnsInHanded {} Try.checked os 9 .any (Rows.wireTruncatedSpec.pre6 enc Try.prog Try.f9 Rows.wireTruncatedRow.domain false) (Rows.wireTruncatedSpec.post enc Try.prog Try.f9 false true false false) := by
  refine returnsInHanded_of_change_sized (C := Try.checked) own started (by kernel_rfl) Try.func9
    (ChangeSpec.witness6 (enc := enc) (C := Try.checked) false ⟨#[], #[.int .i64 0, .string ByteArray.empty, .slice none 0 0, .slice none 0 0, .slice none 0 0], []⟩ 8 (by kernel_rfl) (by kernel_rfl) (by kernel_rfl) (by kernel_rfl)) ?_
  intro W base args ds gs before hval0 hW hcnd hsz0 _
  have hsz : (DataW.weightsEach Try.prog (Try.f9.params.toList ++ Rows.wireTruncatedSpec.plain.varTypes Try.prog) (ds ++ gs)).all (· ≤ reachBytes) = true := hsz0
  clear hsz0
  have hval : ∀ (j : Nat) t v, Try.f9.params[j]? = some t → args[j]? = some v → Value.okWide Try.prog W .any base t v := hval0
  have hW' := hW
  obtain ⟨p, q, hA0, hV, rfl, hfz, hnd⟩ := hW
  have hA : DataW.TrodAll enc Try.prog W 0 (fun _ => true) true Try.f9.params.toList args.toList ds p := hA0
  rw [Try.params9] at hA hval hsz
  obtain ⟨v0, vs0, d0, ds0, p0, q0, hargs0, rfl, rfl, h0, r0⟩ := trodAll_cons hA
  obtain ⟨v1, vs1, d1, ds1, p1, q1, rfl, rfl, rfl, h1, r1⟩ := trodAll_cons r0
  obtain ⟨v2, vs2, d2, ds2, p2, q2, rfl, rfl, rfl, h2, r2⟩ := trodAll_cons r1
  obtain ⟨v3, vs3, d3, ds3, p3, q3, rfl, rfl, rfl, h3, r3⟩ := trodAll_cons r2
  obtain ⟨v4, vs4, d4, ds4, p4, q4, rfl, rfl, rfl, h4, r4⟩ := trodAll_cons r3
  obtain ⟨rfl, rfl, rfl⟩ := trodAll_nil r4
  obtain rfl : args = #[v0, v1, v2, v3, v4] := by cases args; simp_all
  obtain ⟨rfl, rfl⟩ := trodVars_none hV
  obtain ⟨a0, rfl, rfl, rfl, w0⟩ := open_int Try.underlying3 (hval 0 3 v0 rfl rfl) h0
  obtain ⟨s1, rfl, rfl, rfl, w1⟩ := Go.ChangeMaps.open_string Try.underlying9 (hval 1 9 v1 rfl rfl) h1
  clear hA0 hval0
  simp only [List.append_nil, List.nil_append] at hW'
  have hlt : ∀ x ∈ p2 ++ (p3 ++ p4), x.block < W.heap.size := fun x hx => by simpa using hW'.lt x (by simpa using hx)
  have hlt2 : ∀ x ∈ p2, x.block < W.heap.size := fun x hx => hlt x (by simp [hx])
  have hlt3 : ∀ x ∈ p3, x.block < W.heap.size := fun x hx => hlt x (by simp [hx])
  have hlt4 : ∀ x ∈ p4, x.block < W.heap.size := fun x hx => hlt x (by simp [hx])
  obtain ⟨A, n, c, l, rfl, hn, hnc, hr, hi, hcap⟩ := open_intsV (hval 2 22 v2 rfl rfl) h2 hlt2
  obtain ⟨A3, n3, c3, l3, rfl, hn3, hnc3, hr3, hi3, hcap3⟩ := open_textsV (hval 3 23 v3 rfl rfl) h3 hlt3
  obtain ⟨A4, n4, c4, l4, rfl, hn4, hnc4, hr4, hi4, hcap4⟩ := open_digsV (hval 4 24 v4 rfl rfl) h4 hlt4
  have b1 : s1.size ≤ 140737488355328 := by
    have := sized_string hsz (j := 1) (t := 9) rfl rfl
    have e : s1.data.toList.length = s1.size := Array.length_toList
    rw [e] at this
    unfold reachBytes at this
    omega
  have b2 : l.length ≤ 140737488355328 := by
    have hb8 : Try.prog.bytesOf 3 = 8 := by kernel_rfl
    obtain ⟨e1, e2, ⟨hd, hl⟩ | ⟨hd, hc0⟩⟩ := hcap
    · have := sized_slice hsz (j := 2) (t := 22) (e := 3) rfl (by rw [hd]; rfl) Try.underlying22
      rw [hb8] at this
      simp only [lits, List.length_map] at this
      unfold reachBytes at this
      omega
    · omega
  have b3 : l3.length ≤ 140737488355328 ∧ ∀ s ∈ l3, s.size ≤ 140737488355328 := by
    have hb16 : Try.prog.bytesOf 9 = 16 := by kernel_rfl
    obtain ⟨e2, ⟨hd, hl⟩ | ⟨hd, hc0⟩⟩ := hcap3
    · have h5 := sized_slice hsz (j := 3) (t := 23) (e := 9) rfl (by rw [hd]; rfl) Try.underlying23
      have h6 := sized_strs hsz (j := 3) (l := l3) (ss := e2) rfl (by rw [hd]; rfl)
      rw [hb16] at h5
      simp only [strs, List.length_map] at h5
      unfold reachBytes at h5 h6
      exact ⟨by omega, fun s hs => by have := h6 s hs; omega⟩
    · have : l3 = [] := List.eq_nil_of_length_eq_zero (by omega)
      subst this
      simp
  have b4 : l4.length ≤ 140737488355328 := by
    have hb16 : Try.prog.bytesOf 57 = 16 := by kernel_rfl
    obtain ⟨e1, e2, ⟨hd, he, hl⟩ | ⟨hd, hc0⟩⟩ := hcap4
    · have := sized_slice hsz (j := 4) (t := 24) (e := 57) rfl (by rw [hd]; rfl) Try.underlying24
      rw [hb16] at this
      unfold reachBytes at this
      omega
    · omega
  have k2 : ∀ (W' : World), Below W.heap.size W W' → DataW.Trod enc Try.prog W' 0 (fun b => decide (b < W.heap.size)) true 22 (.slice A n c) d2 p2 :=
    fun W' hB => Below.trod laidOut (by kernel_rfl) (of_decide_eq_true (by kernel_rfl)) h2 hB hlt2
  have k3 : ∀ (W' : World), Below W.heap.size W W' → DataW.Trod enc Try.prog W' 0 (fun b => decide (b < W.heap.size)) true 23 (.slice A3 n3 c3) d3 p3 :=
    fun W' hB => Below.trod laidOut (by kernel_rfl) (of_decide_eq_true (by kernel_rfl)) h3 hB hlt3
  have k4 : ∀ (W' : World), Below W.heap.size W W' → DataW.Trod enc Try.prog W' 0 (fun b => decide (b < W.heap.size)) true 24 (.slice A4 n4 c4) d4 p4 :=
    fun W' hB => Below.trod laidOut (by kernel_rfl) (of_decide_eq_true (by kernel_rfl)) h4 hB hlt4
  have hwf := w0
  simp [Lit.wf, IntKind.min, IntKind.max, IntKind.signed, IntKind.bits] at hwf
  refine (truncated_any a0 s1 A l A3 l3 A4 l4 n c n3 c3 n4 c4 W hwf.1 hwf.2 b1 hn hn3 hn4 b2 b3.1 b3.2 b4 hi hi4 hr hr3 hr4).mono fun e W' ⟨he, hB⟩ => ?_
  subst he
  have hpl : p2 ++ (p3 ++ p4) = [] ++ ([] ++ (p2 ++ (p3 ++ (p4 ++ [])))) := by simp
  rw [hpl] at hW'
  refine ⟨_, rfl, _, _, _, [], [] ++ ([] ++ (p2 ++ (p3 ++ (p4 ++ [])))), [], hW', ?_, ?_, rfl, hB.frame _, fun h => by cases h⟩
  · exact trodAll_mk1 (shut_bool Try.underlying4 _)
  · exact trodAll_cons_mk (shut_int Try.underlying3 w0) (trodAll_cons_mk (Go.ChangeMaps.shut_string Try.underlying9 w1) (trodAll_cons_mk (k2 _ hB) (trodAll_cons_mk (k3 _ hB) (trodAll_cons_mk (k4 _ hB) trodAll_mk0))))

theorem over : Rows.wireTruncatedRow.holds Try.pinned (OpenSpec.ofChange Rows.wireTruncatedSpec) :=
  OpenClaim.holds_of_wide 9 Try.f9 rfl rfl rfl rfl rfl rfl rfl ⟨rfl, rfl, rfl, rfl, rfl⟩ rfl rfl rfl rfl rfl (by kernel_rfl) Try.func9 (by kernel_rfl)
    (of_decide_eq_true (by kernel_rfl)) (by unfold Func.isWrapper; first | (rw [if_pos (by decide +kernel)]; kernel_rfl) | (rw [if_neg (by decide +kernel)]; exact ⟨rfl, rfl⟩))
    (fun os started H enc _ => lifted os started H enc)

theorem proved : Rows.WireTruncatedSaid := over
#print axioms proved
end wireTruncated
end Go.Proofs.Ytpglfjfgnmaipaa
