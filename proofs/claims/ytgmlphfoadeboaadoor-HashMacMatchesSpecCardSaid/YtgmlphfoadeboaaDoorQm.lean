/-
  passimref02.Mac returns the authentication code of a text.
-/
import Derived.Test.YtgmlphfoadeboaaDoorQk
namespace Go.Proofs.YtgmlphfoadeboaaDoor
open Go.RowKit
set_option linter.unusedVariables false
set_option linter.unusedSimpArgs false

theorem padX_length (k : List Nat) (x : Nat) : (xorL (padK (keyOf64 k)) x).length = 64 := by rw [xorL_length, padK_length _ (keyOf64_length _)]
theorem padX_byte (k : List Nat) (x : Nat) (hx : x < 256) (hk : ∀ y ∈ k, y < 256) : ∀ y ∈ xorL (padK (keyOf64 k)) x, y < 256 := xorL_byte _ _ hx (padK_byte _ (keyOf64_byte _ hk))

set_option maxHeartbeats 1000000 in
set_option maxRecDepth 100000 in
theorem rmac_any (key text : ByteArray) (hk : key.size ≤ 1048576) (ht : text.size ≤ 1048576) (w : World) (hR : GlobR w) :
    Calls Tryd.prog 19 #[.string key, .string text] w fun e w' => e = .returned (.string (strOf (hmac (sb key) (sb text)))) ∧ Below w.heap.size w w' := by
  have hP1 := padKey_any key hk 54 (by omega)
  have hP2 := padKey_any key hk 92 (by omega)
  have hl1 := padX_length (sb key) 54
  have hl2 := padX_length (sb key) 92
  have hb1 := padX_byte (sb key) 54 (by omega) (sb_lt key)
  have hb2 := padX_byte (sb key) 92 (by omega) (sb_lt key)
  have hm : hmac (sb key) (sb text) = sha (xorL (padK (keyOf64 (sb key))) 92 ++ sha (xorL (padK (keyOf64 (sb key))) 54 ++ sb text)) := rfl
  have HM := Lib.hid hm
  clear hm
  generalize xorL (padK (keyOf64 (sb key))) 54 = R1 at *
  generalize xorL (padK (keyOf64 (sb key))) 92 = R2 at *
  have HP1 := Lib.hid hP1
  have HP2 := Lib.hid hP2
  have HL1 := Lib.hid hl1
  have HL2 := Lib.hid hl2
  clear hP1 hP2 hl1 hl2
  go_enter Tryd.func19, Tryd.ntmps19
  go_wp2_with fail
  refine (HP1.out w hR).mono ?_
  rintro e w1 ⟨g1, c1, rfl, hO1⟩
  go_wp2_with (refine push_str (W := w) rfl _ _ rfl R1 _ rfl hO1 text rfl (by have := HL1.out; omega) ?_)
  intro v2 w2 hO2
  have hT : (R1 ++ sb text).length = 64 + text.size := by rw [List.length_append, HL1.out, sb_length]
  have hTb : ∀ y ∈ R1 ++ sb text, y < 256 := by
    intro y hy
    rcases List.mem_append.1 hy with h | h
    · exact hb1 y h
    · exact sb_lt text y h
  obtain ⟨T, hTe⟩ : ∃ T, R1 ++ sb text = T := ⟨_, rfl⟩
  rw [hTe] at hT hTb hO2
  have HTE := Lib.hid hTe
  have HT := Lib.hid hT
  obtain ⟨g2, cap2, rfl, _, _⟩ := hO2.1.form (by omega)
  clear hO1 hb1 hT hTe
  have hR2 := hR.keep hO2.below
  go_wp2_with fail
  refine (HP2.out w2 hR2).mono ?_
  rintro e w3 ⟨g3, c3, rfl, hO3⟩
  have hO2' := hO2.keep hO3.below
  have hH := hO2'.has hTb
  have hR3 := hR2.keep hO3.below
  go_wp2_with fail
  refine (rsum_any (some ⟨g2, 0, none⟩) T T.length cap2 _ rfl (by have := HT.out; omega) hH hR3).mono ?_
  rintro e w4 ⟨rfl, hB4⟩
  have hO3' := hO3.keep hB4
  have hR4 := hR3.keep hB4
  have hdl := sha_length T
  have hdb := sha_byte T
  obtain ⟨D, hDe⟩ : ∃ D, sha T = D := ⟨_, rfl⟩
  rw [hDe] at hdl hdb ⊢
  have HD := Lib.hid hDe
  clear hDe hH hO2'
  go_wp2_with fail
  refine (bytes32_any D hdl hdb _).mono ?_
  rintro e w5 ⟨rfl, hB5⟩
  have hO3'' := hO3'.keep hB5
  have hR5 := hR4.keep hB5
  have hsD : (strOf D).size = 32 := by rw [strOf_size, hdl]
  have hsb := sb_strOf D hdb
  have HSB := Lib.hid hsb
  have HSD := Lib.hid hsD
  clear hsb hsD hO3'
  generalize strOf D = sD at *
  go_wp2_with (refine push_str (W := w2) rfl _ _ rfl R2 _ rfl hO3'' sD rfl (by have := HL2.out; have := HSD.out; omega) ?_)
  intro v6 w6 hO6
  have hUb : ∀ y ∈ R2 ++ D, y < 256 := by
    intro y hy
    rcases List.mem_append.1 hy with h | h
    · exact hb2 y h
    · exact hdb y h
  have hU : (R2 ++ D).length = 96 := by rw [List.length_append, HL2.out, hdl]
  rw [HSB.out] at hO6
  obtain ⟨U, hUe⟩ : ∃ U, R2 ++ D = U := ⟨_, rfl⟩
  rw [hUe] at hO6 hUb hU
  have HU := Lib.hid hUe
  obtain ⟨g6, cap6, rfl, _, _⟩ := hO6.1.form (by omega)
  have HUL := Lib.hid hU
  have hB6 := hO6.below
  have hR6 := hR2.keep hB6
  have hH6 := hO6.has hUb
  clear hU hUe hO3'' hO3
  go_wp2_with fail
  refine (rsum_any (some ⟨g6, 0, none⟩) U U.length cap6 _ rfl (by have := HUL.out; omega) hH6 hR6).mono ?_
  rintro e w7 ⟨rfl, hB7⟩
  have hel := sha_length U
  have heb := sha_byte U
  obtain ⟨E, hEe⟩ : ∃ E, sha U = E := ⟨_, rfl⟩
  rw [hEe] at hel heb ⊢
  have HE := Lib.hid hEe
  clear hEe hH6
  go_wp2_with fail
  refine (bytes32_any E hel heb _).mono ?_
  rintro e w8 ⟨rfl, hB8⟩
  have hBz := link hO2.below (link hB6 (link hB7 hB8))
  go_wp2
  go_ret
  refine ⟨?_, hBz⟩
  rw [HM.out, HTE.out, HD.out, HU.out, HE.out]
  rfl

end Go.Proofs.YtgmlphfoadeboaaDoor
