/-
  For every string, and every list of integers, strings and digests, with whatever bytes behind, that hold at most 2^20 values and letters, passimlaw01.WireListRoundTrip returns true and leaves its arguments as they were. Condition: that bound (the second form's own).
-/
import Derived.Test.YtpglfjfgnmaipaaWFew
import Derived.Test.YtpglfjfgnmaipaaWEncode
import Derived.Test.YtpglfjfgnmaipaaWDecode
import Derived.Test.YtpglfjfgnmaipaaWTr
namespace Go.Proofs.Ytpglfjfgnmaipaa
open Go.RowKit

theorem sbs_back (x : List ByteArray) : (sbs x).map strOf = x := by
  unfold sbs
  rw [List.map_map]
  conv => rhs; rw [← List.map_id x]
  apply List.map_congr_left
  intro s _
  exact strOf_sb s

/-- What lasts through the law: the arguments and the four encodings. -/
structure Lst (w wk : World) (A : Option Addr) (l : List Int) (B : Option Addr) (x : List ByteArray) (C : Option Addr) (d : List (List Nat)) (T : Option Addr) (t : List Nat) : Prop where
  h : Three w wk A l B x C d
  hT : Has wk T t
theorem Lst.keep {w wk w2 : World} {A B C T : Option Addr} {l : List Int} {x : List ByteArray} {d : List (List Nat)} {t : List Nat} (h : Lst w wk A l B x C d T t) (hb : Below wk.heap.size wk w2) : Lst w w2 A l B x C d T t :=
  ⟨h.h.keep hb, h.hT.keep hb⟩

/-- The encodings of what was handed in, and what decodes them. -/
structure Codes (s : ByteArray) (A : Option Addr) (l : List Int) (c : Nat) (B : Option Addr) (x : List ByteArray) (c2 : Nat) (C : Option Addr) (d : List (List Nat)) (c3 : Nat) (t : List Nat) (E1 E2 E3 E4 : List Nat) : Prop where
  H1 : ∀ w', Calls Try.prog 16 #[.string s] w' (Made w' E1)
  H2 : ∀ w', Cells w' A (intsV l) → Calls Try.prog 18 #[.slice A l.length c] w' (Made w' E2)
  H3 : ∀ w', DCells w' C d → Calls Try.prog 22 #[.slice C d.length c3] w' (Made w' E3)
  H4 : ∀ w', Cells w' B (strsV x) → Calls Try.prog 20 #[.slice B x.length c2] w' (Made w' E4)
  D1 : ∀ R n c' w', n = E1.length + t.length → n ≤ c' → Has w' R (E1 ++ t) → Calls Try.prog 26 #[.slice R n c'] w' (fun e w'' => e = .returned (.tuple #[.string s, .int .i64 E1.length, .int .i64 0]) ∧ w' = w'')
  D2 : ∀ R n c' w', n = E2.length + t.length → n ≤ c' → Has w' R (E2 ++ t) → Calls Try.prog 28 #[.slice R n c'] w' (RetI w' (l, E2.length, 0))
  D3 : ∀ R n c' w', n = E3.length + t.length → n ≤ c' → Has w' R (E3 ++ t) → Calls Try.prog 34 #[.slice R n c'] w' (RetG w' (d, E3.length, 0))
  D4 : ∀ R n c' w', n = E4.length + t.length → n ≤ c' → Has w' R (E4 ++ t) → Calls Try.prog 31 #[.slice R n c'] w' (RetS w' (sbs x, E4.length, 0))
  b1 : E1.length + t.length ≤ 1000000 ∧ ∀ y ∈ E1, y < 256
  b2 : E2.length + t.length ≤ 1000000 ∧ ∀ y ∈ E2, y < 256
  b3 : E3.length + t.length ≤ 1000000 ∧ ∀ y ∈ E3, y < 256
  b4 : E4.length + t.length ≤ 1000000 ∧ ∀ y ∈ E4, y < 256
theorem codes_of (s : ByteArray) (A : Option Addr) (l : List Int) (c : Nat) (B : Option Addr) (x : List ByteArray) (c2 : Nat) (C : Option Addr) (d : List (List Nat)) (c3 : Nat) (t : List Nat) (hb : EncB 0 s l x d) (ht : t.length ≤ 2000) :
    Codes s A l c B x c2 C d c3 t (encS (sb s)) (encL l) (encD d) (encT (sbs x)) := by
  have s1 := hb.s1
  have l1 := hb.l1
  have x1 := hb.x1
  have x2 := hb.x2
  have d1 := hb.d1
  have e1 : (encS (sb s)).length + t.length ≤ 1000000 := by have := encS_length (sb s) (by rw [sb_length]; omega); rw [sb_length] at this; omega
  have e2 : (encL l).length + t.length ≤ 1000000 := by have := partI_length l l.length hb.l2 (by omega); rw [partI_all] at this; omega
  have e3 : (encD d).length + t.length ≤ 1000000 := by have := partD_length d d.length hb.d2 (by omega); rw [partD_all] at this; omega
  have e4 : (encT (sbs x)).length + t.length ≤ 1000000 := by have := partT_length (sbs x) (sbs x).length (by rw [sbs_length]; omega) (by omega); rw [partT_all, sbs_length] at this; omega
  have hsx : ∀ y ∈ sbs x, y.length ≤ 2000 := by
    intro y hy
    obtain ⟨z, hz, rfl⟩ := List.mem_map.1 hy
    obtain ⟨j, hj, rfl⟩ := List.mem_iff_getElem.1 hz
    have := size_tot x j hj
    rw [sb_length]
    omega
  refine ⟨fun w' => bytes_any s (by omega) w', fun w' h => ints_any A l l.length c w' rfl (by omega) hb.l2 h, fun w' h => digests_any C d d.length c3 w' rfl (by omega) h, fun w' h => strings_any B x x.length c2 w' rfl (by omega) (by omega) h, ?_, ?_, ?_, ?_,
    ⟨e1, hb.b2.2⟩, ⟨e2, hb.b3.2⟩, ⟨e3, hb.b5.2⟩, ⟨e4, hb.b4.2⟩⟩
  · intro R n c' w' hn hc h
    have := getBytes_any R (encS (sb s) ++ t) n c' w' (by rw [List.length_append]; exact hn) hc (by omega) h
    rw [decB_encS (sb s) t (by rw [sb_length]; omega)] at this
    simp only [threeB, strOf_sb] at this
    exact this
  · intro R n c' w' hn hc h
    have := getInts_any R (encL l ++ t) n c' w' (by rw [List.length_append]; exact hn) hc (by omega) (by rw [List.length_append]; omega) h
    rwa [ints_back l t (by omega) hb.l2] at this
  · intro R n c' w' hn hc h
    have := getDigests_any R (encD d ++ t) n c' w' (by rw [List.length_append]; exact hn) hc (by omega) (by rw [List.length_append]; omega) h
    rwa [digs_back d t (by omega) hb.d2] at this
  · intro R n c' w' hn hc h
    have := getStrings_any R (encT (sbs x) ++ t) n c' w' (by rw [List.length_append]; exact hn) hc (by omega) (by rw [List.length_append]; omega) h
    rwa [texts_back (sbs x) t (by rw [sbs_length]; omega) (fun y hy => Nat.le_trans (hsx y hy) (by omega))] at this

set_option maxHeartbeats 4000000 in
set_option maxRecDepth 100000 in
theorem lists_any (s : ByteArray) (A : Option Addr) (l : List Int) (B : Option Addr) (x : List ByteArray) (C : Option Addr) (d : List (List Nat)) (T : Option Addr) (t : List Nat) (n c n2 c2 n3 c3 n4 c4 : Nat) (w : World)
    (hs : s.size ≤ 1048576) (hn : n = l.length) (hn2 : n2 = x.length) (hn3 : n3 = d.length) (hn4 : n4 = t.length) (hl : l.length ≤ 1048576) (hx : x.length ≤ 1048576) (hxt : tot (sbs x) ≤ 1048576) (hd : d.length ≤ 1048576) (ht : t.length ≤ 1048576)
    (hi : ∀ y ∈ l, I64 y) (hD : ∀ y ∈ d, Dig y) (h3 : Cells w A (intsV l)) (h4 : Cells w B (strsV x)) (h5 : DCells w C d) (h6 : Has w T t) :
    Calls Try.prog 8 #[.string s, .slice A n c, .slice B n2 c2, .slice C n3 c3, .slice T n4 c4] w (Told w true) := by
  subst hn; subst hn2; subst hn3; subst hn4
  have X0 : Lst w w A l B x C d T t := ⟨⟨h3, h4, h5, Below.refl _ _⟩, h6⟩
  have HF := Lib.hid (few_any B x x.length c2 w rfl (by omega) (by omega) h4)
  clear h3 h4 h5 h6
  by_cases hm : 2000 < s.size + l.length + d.length + t.length
  · have hd : decide ((2000 : Int) < (s.size : Int) + (l.length : Int) + (d.length : Int) + (t.length : Int)) = true := by simp; omega
    go_enter Try.func8, Try.ntmps8
    go_wp2_with fail
    refine (sanity_any _).mono ?_
    rintro e w1 ⟨rfl, hB1⟩
    go_wp2
    go_ret
    exact ⟨rfl, hB1⟩
  · have hd0 : decide ((2000 : Int) < (s.size : Int) + (l.length : Int) + (d.length : Int) + (t.length : Int)) = false := by simp; omega
    by_cases hf : x.length + tot (sbs x) ≤ 2000
    · have hfb : decide (x.length + tot (sbs x) ≤ 2000) = true := by simp [hf]
      have HB : EncB 0 s l x d := ⟨by omega, by omega, by omega, by omega, hi, by omega, by omega, by omega, hD⟩
      have K := Lib.hid (codes_of s A l c B x c2 C d c3 t HB (by omega))
      have bl := HB.l1
      have bx := HB.x1
      have bd := HB.d1
      generalize encS (sb s) = E1 at K
      generalize encL l = E2 at K
      generalize encD d = E3 at K
      generalize encT (sbs x) = E4 at K
      clear hi hD hf HB
      go_enter Try.func8, Try.ntmps8
      go_wp2_with fail
      refine HF.out.mono ?_
      rintro e wx ⟨rfl, rfl⟩
      clear HF
      go_wp2_with fail
      refine (K.out.H1 _).mono ?_
      rintro e w1 ⟨g1, cap1, rfl, hO1⟩
      have hc1 := own_cap hO1
      have X1 := X0.keep hO1.below
      have Y1 := hO1.has K.out.b1.2
      clear X0 hO1
      go_wp2_with fail
      refine (K.out.H2 _ X1.h.h3).mono ?_
      rintro e w2 ⟨g2, cap2, rfl, hO2⟩
      have hc2 := own_cap hO2
      have X2 := X1.keep hO2.below
      have Y1' := Y1.keep hO2.below
      have Y2 := hO2.has K.out.b2.2
      clear X1 hO2 Y1
      go_wp2_with fail
      refine (K.out.H3 _ X2.h.h5).mono ?_
      rintro e w3 ⟨g3, cap3, rfl, hO3⟩
      have hc3 := own_cap hO3
      have X3 := X2.keep hO3.below
      have Y1 := Y1'.keep hO3.below
      have Y2' := Y2.keep hO3.below
      have Y3 := hO3.has K.out.b3.2
      clear X2 hO3 Y1' Y2
      go_wp2_with fail
      refine (K.out.H4 _ X3.h.h4).mono ?_
      rintro e w4 ⟨g4, cap4, rfl, hO4⟩
      have hc4 := own_cap hO4
      have X4 := X3.keep hO4.below
      have Y1' := Y1.keep hO4.below
      have Y2 := Y2'.keep hO4.below
      have Y3' := Y3.keep hO4.below
      have Y4 := hO4.has K.out.b4.2
      clear X3 hO4 Y1 Y2' Y3
      have m1 := K.out.b1.1
      have m2 := K.out.b2.1
      have m3 := K.out.b3.1
      have m4 := K.out.b4.1
      go_wp2_with (at_builtin; refine push_full (W := w4) rfl _ _ rfl E1 t g1 E1.length t.length c4 rfl rfl (Below.refl _ _) Y1' T rfl rfl X4.hT (by omega) ?_)
      intro R1 r1 w5 hB5 hr1 hR1
      have X5 := X4.keep hB5
      have Y2' := Y2.keep hB5
      have Y3 := Y3'.keep hB5
      have Y4' := Y4.keep hB5
      have HD1 := Lib.hid (K.out.D1 R1 _ r1 w5 rfl hr1 hR1)
      clear X4 Y1' Y2 Y3' Y4 hB5 hr1 hR1
      go_wp2_with fail
      refine HD1.out.mono ?_
      rintro e wx ⟨rfl, rfl⟩
      clear HD1
      go_wp2_with (at_builtin; refine push_full (W := w5) rfl _ _ rfl E2 t g2 E2.length t.length c4 rfl rfl (Below.refl _ _) Y2' T rfl rfl X5.hT (by omega) ?_)
      intro R2 r2 w6 hB6 hr2 hR2
      have X6 := X5.keep hB6
      have Y3' := Y3.keep hB6
      have Y4 := Y4'.keep hB6
      have HD2 := Lib.hid (K.out.D2 R2 _ r2 w6 rfl hr2 hR2)
      clear X5 Y2' Y3 Y4' hB6 hr2 hR2
      go_wp2_with fail
      refine HD2.out.mono ?_
      rintro e w7 ⟨v7, rfl, ho7, hB7⟩
      simp only at ho7
      obtain ⟨A7, k7, rfl, hk7⟩ := own_form ho7
      have X7 := X6.keep hB7
      have Y3 := Y3'.keep hB7
      have Y4' := Y4.keep hB7
      clear X6 Y3' Y4 hB7 ho7 HD2
      go_wp2_with (at_builtin; refine push_full (W := w7) rfl _ _ rfl E3 t g3 E3.length t.length c4 rfl rfl (Below.refl _ _) Y3 T rfl rfl X7.hT (by omega) ?_)
      intro R3 r3 w8 hB8 hr3 hR3
      have X8 := X7.keep hB8
      have Y4 := Y4'.keep hB8
      have hk7' := hk7.keep hB8
      have HD3 := Lib.hid (K.out.D3 R3 _ r3 w8 rfl hr3 hR3)
      clear X7 Y3 Y4' hB8 hr3 hR3 hk7
      go_wp2_with fail
      refine HD3.out.mono ?_
      rintro e w9 ⟨v9, rfl, ho9, hB9⟩
      simp only at ho9
      obtain ⟨A9, k9, rfl, hk9⟩ := own_dcells ho9 rfl X8.h.h5.dig
      have X9 := X8.keep hB9
      have Y4' := Y4.keep hB9
      have hk7 := hk7'.keep hB9
      clear X8 Y4 hB9 ho9 HD3 hk7'
      go_wp2_with (at_builtin; refine push_full (W := w9) rfl _ _ rfl E4 t g4 E4.length t.length c4 rfl rfl (Below.refl _ _) Y4' T rfl rfl X9.hT (by omega) ?_)
      intro R4 r4 w10 hB10 hr4 hR4
      have X10 := X9.keep hB10
      have hk7' := hk7.keep hB10
      have hk9' := hk9.keep hB10
      have HD4 := Lib.hid (K.out.D4 R4 _ r4 w10 rfl hr4 hR4)
      clear X9 Y4' hB10 hr4 hR4 hk7 hk9
      go_wp2_with fail
      refine HD4.out.mono ?_
      rintro e w11 ⟨v11, rfl, ho11, hB11⟩
      simp only at ho11
      rw [sbs_length] at ho11
      obtain ⟨A11, k11, rfl, hk11'⟩ := own_form ho11
      have hk11 : Cells w11 A11 (strsV x) := by
        have := strs_cells hk11'
        rwa [sbs_back] at this
      have X11 := X10.keep hB11
      have hk7 := hk7'.keep hB11
      have hk9 := hk9'.keep hB11
      clear X10 hB11 ho11 HD4 hk7' hk9' hk11'
      go_wp2_with fail
      refine (sanity_any _).mono ?_
      rintro e w12 ⟨rfl, hB12⟩
      have X12 := X11.keep hB12
      have hk7' := hk7.keep hB12
      have hk9' := hk9.keep hB12
      have hk11' := hk11.keep hB12
      clear X11 hB12 hk7 hk9 hk11
      go_wp2_with fail
      refine (told_true (sameTexts_any A11 B x x x.length x.length k11 c2 w12 rfl rfl (by omega) (by omega) hk11' X12.h.h4) (by simp)).mono ?_
      rintro e w13 ⟨rfl, hB13⟩
      have X13 := X12.keep hB13
      have hk7 := hk7'.keep hB13
      have hk9 := hk9'.keep hB13
      clear X12 hB13 hk7' hk9' hk11'
      go_wp2_with fail
      refine (told_true (sameInts_any A7 A l l l.length l.length k7 c w13 rfl rfl (by omega) (by omega) hk7 X13.h.h3) (by simp)).mono ?_
      rintro e w14 ⟨rfl, hB14⟩
      have X14 := X13.keep hB14
      have hk9' := hk9.keep hB14
      clear X13 hB14 hk7 hk9
      go_wp2_with fail
      refine (sameDigests_self A9 C d d.length d.length k9 c3 w14 rfl rfl (by omega) hk9' X14.h.h5).mono ?_
      rintro e w15 ⟨rfl, hB15⟩
      have X15 := X14.keep hB15
      clear X14 hB15 hk9'
      go_wp2
      go_ret
      exact ⟨rfl, X15.h.hB⟩
    · have hfb : decide (x.length + tot (sbs x) ≤ 2000) = false := by simp; omega
      clear hi hD hf
      go_enter Try.func8, Try.ntmps8
      go_wp2_with fail
      refine HF.out.mono ?_
      rintro e wx ⟨rfl, rfl⟩
      clear HF
      go_wp2_with fail
      refine (sanity_any _).mono ?_
      rintro e w1 ⟨rfl, hB1⟩
      go_wp2
      go_ret
      exact ⟨rfl, hB1⟩

theorem bytes_bulk {H : Type} {enc : TypeId × Value → H} {W : World} {A : Option Addr} {n c : Nat} {d : DataW H} {ps : List MemPlace} (h : DataW.Trod enc Try.prog W 0 (fun _ => true) true 28 (.slice A n c) d ps) : n ≤ Rows.uptoBulk d := by
  obtain ⟨fuel, hf⟩ := h
  rcases Go.ChangeShapes.open_ints Try.underlying28 Try.underlying5 cells5 hf with ⟨hcs, _⟩ | ⟨a, len, cap, zs, hcs, _, hl, hm, hz, hx, hcell, hwz⟩
  · simp [Value.cells] at hcs
    obtain ⟨rfl, rfl, rfl⟩ := hcs
    omega
  · simp [Value.cells] at hcs
    obtain ⟨rfl, rfl, rfl⟩ := hcs
    simp only [if_true] at hz
    simp only [Prod.mk.injEq] at hx
    obtain ⟨rfl, rfl⟩ := hx
    have h5 := bulk_len (Go.ChangeShapes.lits (H := H) .u8 (zs.take n))
    simp only [Rows.uptoBulk]
    simp only [Go.ChangeShapes.lits, List.length_map, List.length_take] at h5 ⊢
    omega

namespace wireListRoundTrip
open Go.ChangeShapes Go.WideShapes Go.ChangeAt Go.RowKit

set_option maxRecDepth 100000 in
theorem lifted (os : Os) (started : os.Started) (H : Type) (enc : TypeId × Value → H) (F : Stop.Interp) :
    ReturnsInHanded {} Try.checked os 8 .any ((Rows.OpenSpec.upto Rows.wireListRoundTripSpec).pre6 enc Try.prog Try.f8 Rows.wireListRoundTripUptoRow.domain false) (((Rows.OpenSpec.upto Rows.wireListRoundTripSpec).at F).post enc Try.prog Try.f8 false true false false) := by
  refine returnsInHanded_of_cond (C := Try.checked) (s := Rows.OpenSpec.upto Rows.wireListRoundTripSpec) (k := Rows.uptoSmall) rfl own started (by kernel_rfl) Try.func8
    (OpenSpec.witness (enc := enc) (C := Try.checked) (s := Rows.OpenSpec.upto Rows.wireListRoundTripSpec) (k := Rows.uptoSmall) rfl false ⟨#[], #[.string ByteArray.empty, .slice none 0 0, .slice none 0 0, .slice none 0 0, .slice none 0 0], []⟩ 8 (by kernel_rfl) (by kernel_rfl) (by kernel_rfl)
      (x := ([.lit (.string []), .nil, .nil, .nil, .nil], [], [])) (by kernel_rfl) rfl (by kernel_rfl)) ?_
  intro W base args ds gs before hval0 hW0 hcnd hk _
  show Calls Try.prog 8 args W fun e W' => ∃ v, e = .returned v ∧ Rows.wireListRoundTripSpec.post enc Try.prog Try.f8 false true false false W args v W'
  have hW : DataW.Whole enc Try.prog Try.f8.params.toList Rows.wireListRoundTripSpec.vars false W args.toList ds gs before := hW0
  clear hW0
  have hval : ∀ (j : Nat) t v, Try.f8.params[j]? = some t → args[j]? = some v → Value.okWide Try.prog W .any base t v := hval0
  have hW' := hW
  obtain ⟨p, q, hA0, hV, rfl, hfz, hnd⟩ := hW
  have hA : DataW.TrodAll enc Try.prog W 0 (fun _ => true) true Try.f8.params.toList args.toList ds p := hA0
  rw [Try.params8] at hA hval
  obtain ⟨v0, vs0, d0, ds0, p0, q0, hargs0, rfl, rfl, h0, r0⟩ := trodAll_cons hA
  obtain ⟨v1, vs1, d1, ds1, p1, q1, rfl, rfl, rfl, h1, r1⟩ := trodAll_cons r0
  obtain ⟨v2, vs2, d2, ds2, p2, q2, rfl, rfl, rfl, h2, r2⟩ := trodAll_cons r1
  obtain ⟨v3, vs3, d3, ds3, p3, q3, rfl, rfl, rfl, h3, r3⟩ := trodAll_cons r2
  obtain ⟨v4, vs4, d4, ds4, p4, q4, rfl, rfl, rfl, h4, r4⟩ := trodAll_cons r3
  obtain ⟨rfl, rfl, rfl⟩ := trodAll_nil r4
  obtain rfl : args = #[v0, v1, v2, v3, v4] := by cases args; simp_all
  obtain ⟨rfl, rfl⟩ := trodVars_none hV
  obtain ⟨s1, rfl, rfl, rfl, w1⟩ := Go.ChangeMaps.open_string Try.underlying9 (hval 0 9 v0 rfl rfl) h0
  have hbulk : Rows.uptoBulkAll [DataW.lit (H := H) (.string s1.data.toList), d1, d2, d3, d4] ≤ 1048576 := of_decide_eq_true hk
  clear hA0 hval0 hk
  simp only [List.append_nil, List.nil_append] at hW'
  have hlt : ∀ x ∈ p1 ++ (p2 ++ (p3 ++ p4)), x.block < W.heap.size := fun x hx => by simpa using hW'.lt x (by simpa using hx)
  have hlt1 : ∀ x ∈ p1, x.block < W.heap.size := fun x hx => hlt x (by simp [hx])
  have hlt2 : ∀ x ∈ p2, x.block < W.heap.size := fun x hx => hlt x (by simp [hx])
  have hlt3 : ∀ x ∈ p3, x.block < W.heap.size := fun x hx => hlt x (by simp [hx])
  have hlt4 : ∀ x ∈ p4, x.block < W.heap.size := fun x hx => hlt x (by simp [hx])
  obtain ⟨A, n, c, l, rfl, hn, hnc, hr, hi, hcap⟩ := open_intsV (hval 1 22 v1 rfl rfl) h1 hlt1
  obtain ⟨A2, n2, c2, l2, rfl, hn2, hnc2, hr2, hi2, hcap2⟩ := open_textsV (hval 2 23 v2 rfl rfl) h2 hlt2
  obtain ⟨A3, n3, c3, l3, rfl, hn3, hnc3, hr3, hi3, hcap3⟩ := open_digsV (hval 3 24 v3 rfl rfl) h3 hlt3
  obtain ⟨A4, n4, c4, l4, rfl, hn4, hs4, hnc4, hr4⟩ := open_bytes (hval 4 28 v4 rfl rfl) h4 hlt4
  have hbig := bytes_bulk h4
  simp only [Rows.uptoBulkAll, Rows.uptoBulk] at hbulk
  have b1 : s1.size ≤ 1048576 := by
    have e : s1.data.toList.length = s1.size := Array.length_toList
    omega
  have b2 : l.length ≤ 1048576 := by
    obtain ⟨e1, e2, ⟨hd, hl⟩ | ⟨hd, hc0⟩⟩ := hcap
    · have h5 := bulk_len (lits (H := H) .i64 e1)
      have h6 := bulk_len (lits (H := H) .i64 e2)
      rw [hd] at hbulk
      simp only [Rows.uptoBulk] at hbulk
      simp only [lits, List.length_map] at h5 h6
      simp only [lits] at hbulk
      omega
    · omega
  have b3 : l2.length + tot (sbs l2) ≤ 1048576 := by
    obtain ⟨e2, ⟨hd, hl⟩ | ⟨hd, hc0⟩⟩ := hcap2
    · have h5 := bulk_strs (H := H) l2
      rw [hd] at hbulk
      simp only [Rows.uptoBulk] at hbulk
      omega
    · have : l2 = [] := List.eq_nil_of_length_eq_zero (by omega)
      subst this
      simp [tot, sbs]
  have b4 : l3.length ≤ 1048576 := by
    obtain ⟨e1, e2, ⟨hd, he, hl⟩ | ⟨hd, hc0⟩⟩ := hcap3
    · have h5 := bulk_len e1
      rw [hd] at hbulk
      simp only [Rows.uptoBulk] at hbulk
      omega
    · omega
  have k1 : ∀ (W' : World), Below W.heap.size W W' → DataW.Trod enc Try.prog W' 0 (fun b => decide (b < W.heap.size)) true 22 (.slice A n c) d1 p1 :=
    fun W' hB => Below.trod laidOut (by kernel_rfl) (of_decide_eq_true (by kernel_rfl)) h1 hB hlt1
  have k2 : ∀ (W' : World), Below W.heap.size W W' → DataW.Trod enc Try.prog W' 0 (fun b => decide (b < W.heap.size)) true 23 (.slice A2 n2 c2) d2 p2 :=
    fun W' hB => Below.trod laidOut (by kernel_rfl) (of_decide_eq_true (by kernel_rfl)) h2 hB hlt2
  have k3 : ∀ (W' : World), Below W.heap.size W W' → DataW.Trod enc Try.prog W' 0 (fun b => decide (b < W.heap.size)) true 24 (.slice A3 n3 c3) d3 p3 :=
    fun W' hB => Below.trod laidOut (by kernel_rfl) (of_decide_eq_true (by kernel_rfl)) h3 hB hlt3
  have k4 : ∀ (W' : World), Below W.heap.size W W' → DataW.Trod enc Try.prog W' 0 (fun b => decide (b < W.heap.size)) true 28 (.slice A4 n4 c4) d4 p4 :=
    fun W' hB => Below.trod laidOut (by kernel_rfl) (of_decide_eq_true (by kernel_rfl)) h4 hB hlt4
  refine (lists_any s1 A l A2 l2 A3 l3 A4 l4 n c n2 c2 n3 c3 n4 c4 W b1 hn hn2 hn3 hn4 b2 (by omega) (by omega) b4 (by omega) hi hi3 hr hr2 hr3 hr4).mono fun e W' ⟨he, hB⟩ => ?_
  subst he
  have hpl : p1 ++ (p2 ++ (p3 ++ p4)) = [] ++ (p1 ++ (p2 ++ (p3 ++ (p4 ++ [])))) := by simp
  rw [hpl] at hW'
  refine ⟨_, rfl, _, _, _, [], [] ++ (p1 ++ (p2 ++ (p3 ++ (p4 ++ [])))), [], hW', ?_, ?_, rfl, hB.frame _, fun h => by cases h⟩
  · exact trodAll_mk1 (shut_bool Try.underlying4 _)
  · exact trodAll_cons_mk (Go.ChangeMaps.shut_string Try.underlying9 w1) (trodAll_cons_mk (k1 _ hB) (trodAll_cons_mk (k2 _ hB) (trodAll_cons_mk (k3 _ hB) (trodAll_cons_mk (k4 _ hB) trodAll_mk0))))

theorem over : Rows.wireListRoundTripUptoRow.holds Try.pinned (Rows.OpenSpec.upto Rows.wireListRoundTripSpec) :=
  OpenClaim.holds_of_cond 8 Try.f8 rfl rfl rfl rfl rfl rfl rfl ⟨rfl, rfl, rfl, rfl, rfl⟩ rfl rfl rfl rfl rfl (by kernel_rfl) Try.func8 (by kernel_rfl)
    (of_decide_eq_true (by kernel_rfl)) (by unfold Func.isWrapper; first | (rw [if_pos (by decide +kernel)]; kernel_rfl) | (rw [if_neg (by decide +kernel)]; exact ⟨rfl, rfl⟩))
    (fun os started H enc _ F => lifted os started H enc F)

theorem proved : Rows.WireListRoundTripUptoSaid := over
#print axioms proved
end wireListRoundTrip
end Go.Proofs.Ytpglfjfgnmaipaa
