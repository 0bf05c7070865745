/-
  For every byte slice passimlaw01.WireDecodeMatchesSpec returns true and leaves its argument as it was. No condition.
-/
import Derived.Test.YtpglfjfgnmaipaaWSame
import Derived.Test.YtpglfjfgnmaipaaWrd
namespace Go.Proofs.Ytpglfjfgnmaipaa
open Go.RowKit

/-- What lasts through the law: the argument's bytes. -/
def Lasts (w wk : World) (A : Option Addr) (l : List Nat) : Prop := Has wk A l ∧ Below w.heap.size w wk
theorem Lasts.keep {w wk w2 : World} {A : Option Addr} {l : List Nat} (h : Lasts w wk A l) (hb : Below wk.heap.size wk w2) : Lasts w w2 A l := ⟨h.1.keep hb, h.2.trans (hb.mono h.2.size)⟩

theorem strs_cells {w : World} {A : Option Addr} {l : List (List Nat)} (h : Cells w A (strL l)) : Cells w A (strsV (l.map strOf)) := by
  unfold strsV; rw [List.map_map]; exact h

set_option maxHeartbeats 4000000 in
set_option maxRecDepth 100000 in
theorem decode_any (A : Option Addr) (l : List Nat) (n c : Nat) (w : World) (hn : n = l.length) (hs : n ≤ 9223372036854775807) (hnc : n ≤ c) (hr : Has w A l) :
    Calls Try.prog 4 #[.slice A n c] w (Told w true) := by
  subst hn
  by_cases h2000 : 2000 < l.length
  · have hd : decide ((2000 : Int) < (l.length : Int)) = true := by simp; omega
    go_enter Try.func4, Try.ntmps4
    go_wp2_with fail
    refine (sanity_any _).mono ?_
    rintro e w1 ⟨rfl, hB1⟩
    go_wp2
    go_ret
    exact ⟨rfl, hB1⟩
  · have hd : decide ((2000 : Int) < (l.length : Int)) = false := by simp; omega
    have hlb := hr.2
    obtain ⟨⟨n1, u1, e1⟩, hc1⟩ : ∃ r, dec l = r := ⟨_, rfl⟩
    obtain ⟨⟨s2, u2, e2⟩, hc2⟩ : ∃ r, decB l = r := ⟨_, rfl⟩
    obtain ⟨⟨l3, u3, e3⟩, hc3⟩ : ∃ r, listR (listD dec l 1) = r := ⟨_, rfl⟩
    obtain ⟨⟨l4, u4, e4⟩, hc4⟩ : ∃ r, listR (listD decB l 1) = r := ⟨_, rfl⟩
    obtain ⟨⟨l5, u5, e5⟩, hc5⟩ : ∃ r, listR (listD decG l 16) = r := ⟨_, rfl⟩
    have X0 : Lasts w w A l := ⟨hr, Below.refl _ _⟩
    have C1 := fun w' (h : Has w' A l) => getInt_any A l l.length c w' rfl hnc (by omega) h
    have C2 := fun w' (h : Has w' A l) => getBytes_any A l l.length c w' rfl hnc (by omega) h
    have C3 := fun w' (h : Has w' A l) => getInts_any A l l.length c w' rfl hnc (by omega) (by omega) h
    have C4 := fun w' (h : Has w' A l) => getStrings_any A l l.length c w' rfl hnc (by omega) (by omega) h
    have C5 := fun w' (h : Has w' A l) => getDigests_any A l l.length c w' rfl hnc (by omega) (by omega) h
    have D1 := fun w' (h : Has w' A l) => rgetInt_any A l l.length c w' rfl hnc (by omega) h
    have D2 := fun w' (h : Has w' A l) => rgetBytes_any A l l.length c w' rfl hnc (by omega) h
    have D3 := fun w' (h : Has w' A l) => rgetInts_any A l l.length c w' rfl hnc (by omega) (by omega) h
    have D4 := fun w' (h : Has w' A l) => rgetStrings_any A l l.length c w' rfl hnc (by omega) (by omega) h
    have D5 := fun w' (h : Has w' A l) => rgetDigests_any A l l.length c w' rfl hnc (by omega) (by omega) h
    rw [hc1] at C1 D1
    rw [hc2] at C2 D2
    rw [hc3] at C3 D3
    rw [hc4] at C4 D4
    rw [hc5] at C5 D5
    unfold Gave3 at D1
    unfold Gave3B at D2
    simp only [three, threeB] at C1 C2 D1 D2
    have H1 := Lib.hid C1
    have H2 := Lib.hid C2
    have H3 := Lib.hid C3
    have H4 := Lib.hid C4
    have H5 := Lib.hid C5
    have K1 := Lib.hid D1
    have K2 := Lib.hid D2
    have K3 := Lib.hid D3
    have K4 := Lib.hid D4
    have K5 := Lib.hid D5
    clear C1 C2 C3 C4 C5 D1 D2 D3 D4 D5
    have HC := Lib.hid (canon_of l (by omega) hlb hc1 hc2 hc3 hc4 hc5)
    clear hc1 hc2 hc3 hc4 hc5 hr hlb
    go_enter Try.func4, Try.ntmps4
    go_wp2_with fail
    refine (H1.out _ X0.1).mono ?_
    rintro e wx ⟨rfl, rfl⟩
    go_wp2_with fail
    refine (K1.out _ X0.1).mono ?_
    rintro e w1 ⟨rfl, hB1⟩
    have X1 := X0.keep hB1
    clear X0 hB1 H1 K1
    go_wp2_with fail
    refine (H2.out _ X1.1).mono ?_
    rintro e wx ⟨rfl, rfl⟩
    go_wp2_with fail
    refine (K2.out _ X1.1).mono ?_
    rintro e w2 ⟨rfl, hB2⟩
    have X2 := X1.keep hB2
    clear X1 hB2 H2 K2
    go_wp2_with fail
    refine (H3.out _ X2.1).mono ?_
    rintro e w3 ⟨v3, rfl, ho3, hB3⟩
    simp only at ho3
    obtain ⟨A3, c3, rfl, hk3⟩ := own_form ho3
    have X3 := X2.keep hB3
    clear X2 hB3 ho3 H3
    go_wp2_with fail
    refine (K3.out _ X3.1).mono ?_
    rintro e w4 ⟨v4, rfl, ho4, hB4⟩
    simp only at ho4
    obtain ⟨A4, c4, rfl, hk4⟩ := own_form ho4
    have X4 := X3.keep hB4
    have hk3' := hk3.keep hB4
    clear X3 hB4 ho4 K3 hk3
    go_wp2_with fail
    refine (told_true (sameInts_any A3 A4 l3 l3 l3.length l3.length c3 c4 _ rfl rfl (Nat.le_trans HC.out.b3 (by omega)) (Nat.le_trans HC.out.b3 (by omega)) hk3' hk4) (by simp)).mono ?_
    rintro e w5 ⟨rfl, hB5⟩
    have X5 := X4.keep hB5
    clear X4 hB5 hk3' hk4
    go_wp2_with fail
    refine (H4.out _ X5.1).mono ?_
    rintro e w6 ⟨v6, rfl, ho6, hB6⟩
    simp only at ho6
    obtain ⟨A6, c6, rfl, hk6⟩ := own_form ho6
    have X6 := X5.keep hB6
    clear X5 hB6 ho6 H4
    go_wp2_with fail
    refine (K4.out _ X6.1).mono ?_
    rintro e w7 ⟨v7, rfl, ho7, hB7⟩
    simp only at ho7
    obtain ⟨A7, c7, rfl, hk7⟩ := own_form ho7
    have X7 := X6.keep hB7
    have hk6' := hk6.keep hB7
    clear X6 hB7 ho7 K4 hk6
    have hk6t := strs_cells hk6'
    have hk7t := strs_cells hk7
    clear hk6' hk7
    go_wp2_with fail
    refine (told_true (sameTexts_any A6 A7 (l4.map strOf) (l4.map strOf) l4.length l4.length c6 c7 _ (by simp) (by simp) (by rw [List.length_map]; exact Nat.le_trans HC.out.b4 (by omega)) (by rw [List.length_map]; exact Nat.le_trans HC.out.b4 (by omega)) hk6t hk7t) (by simp)).mono ?_
    rintro e w8 ⟨rfl, hB8⟩
    have X8 := X7.keep hB8
    clear X7 hB8 hk6t hk7t
    go_wp2_with fail
    refine (H5.out _ X8.1).mono ?_
    rintro e w9 ⟨v9, rfl, ho9, hB9⟩
    simp only at ho9
    obtain ⟨A9, c9, rfl, hk9⟩ := own_dcells ho9 rfl HC.out.c5
    have X9 := X8.keep hB9
    clear X8 hB9 ho9 H5
    go_wp2_with fail
    refine (K5.out _ X9.1).mono ?_
    rintro e w10 ⟨v10, rfl, ho10, hB10⟩
    simp only at ho10
    obtain ⟨A10, c10, rfl, hk10⟩ := own_dcells ho10 rfl HC.out.c5
    have X10 := X9.keep hB10
    have hk9' := hk9.keep hB10
    clear X9 hB10 ho10 K5 hk9
    go_wp2_with fail
    refine (sanity_any _).mono ?_
    rintro e w11 ⟨rfl, hB11⟩
    have X11 := X10.keep hB11
    have hk9t := hk9'.keep hB11
    have hk10t := hk10.keep hB11
    clear X10 hB11 hk9' hk10
    go_wp2_with fail
    refine (sameDigests_self A9 A10 l5 l5.length l5.length c9 c10 _ rfl rfl (Nat.le_trans HC.out.b5 (by omega)) hk9t hk10t).mono ?_
    rintro e w12 ⟨rfl, hB12⟩
    have X12 := X11.keep hB12
    clear X11 hB12 hk9t hk10t
    go_wp2
    go_ret
    exact ⟨rfl, X12.2⟩

namespace wireDecodeMatchesSpec
open Go.ChangeShapes Go.WideShapes Go.ChangeAt Go.RowKit

set_option maxRecDepth 100000 in
theorem lifted (os : Os) (started : os.Started) (H : Type) (enc : TypeId × Value → H) :
    ReturnsInHanded {} Try.checked os 4 .any (Rows.wireDecodeMatchesSpecSpec.pre6 enc Try.prog Try.f4 Rows.wireDecodeMatchesSpecRow.domain false) (Rows.wireDecodeMatchesSpecSpec.post enc Try.prog Try.f4 false true false false) := by
  refine returnsInHanded_of_change (C := Try.checked) own started (by kernel_rfl) Try.func4
    (ChangeSpec.witness6 (enc := enc) (C := Try.checked) false ⟨#[], #[.slice none 0 0], []⟩ 8 (by kernel_rfl) (by kernel_rfl) (by kernel_rfl) (by kernel_rfl)) ?_
  intro W base args ds gs before hval0 hW hcnd _
  have hval : ∀ (j : Nat) t v, Try.f4.params[j]? = some t → args[j]? = some v → Value.okWide Try.prog W .any base t v := hval0
  have hW' := hW
  obtain ⟨p, q, hA0, hV, rfl, hfz, hnd⟩ := hW
  have hA : DataW.TrodAll enc Try.prog W 0 (fun _ => true) true Try.f4.params.toList args.toList ds p := hA0
  rw [Try.params4] at hA hval
  obtain ⟨v0, d0, rfl, rfl, h0⟩ := trodAll_one hA
  obtain ⟨rfl, rfl⟩ := trodVars_none hV
  clear hA0 hval0
  simp only [List.append_nil] at hW'
  have hlt : ∀ x ∈ p, x.block < W.heap.size := fun x hx => by simpa using hW'.lt x (by simpa using hx)
  obtain ⟨A, n, c, l, rfl, hn, hs, hnc, hr⟩ := open_bytes (hval 0 28 v0 rfl rfl) h0 hlt
  have hargs : ∀ (W' : World), Below W.heap.size W W' → DataW.Trod enc Try.prog W' 0 (fun b => decide (b < W.heap.size)) true 28 (.slice A n c) d0 p :=
    fun W' hB => Below.trod laidOut (by kernel_rfl) (of_decide_eq_true (by kernel_rfl)) h0 hB hlt
  refine (decode_any A l n c W hn hs hnc hr).mono fun e W' ⟨he, hB⟩ => ?_
  subst he
  refine ⟨_, rfl, _, _, _, [], p, [], hW', ?_, ?_, rfl, hB.frame _, fun h => by cases h⟩
  · exact trodAll_mk1 (shut_bool Try.underlying4 _)
  · exact trodAll_mk1 (hargs _ hB)

theorem over : Rows.wireDecodeMatchesSpecRow.holds Try.pinned (OpenSpec.ofChange Rows.wireDecodeMatchesSpecSpec) :=
  OpenClaim.holds_of_wide 4 Try.f4 rfl rfl rfl rfl rfl rfl rfl ⟨rfl, rfl, rfl, rfl, rfl⟩ rfl rfl rfl rfl rfl (by kernel_rfl) Try.func4 (by kernel_rfl)
    (of_decide_eq_true (by kernel_rfl)) (by unfold Func.isWrapper; first | (rw [if_pos (by decide +kernel)]; kernel_rfl) | (rw [if_neg (by decide +kernel)]; exact ⟨rfl, rfl⟩))
    (fun os started H enc _ => lifted os started H enc)

theorem proved : Rows.WireDecodeMatchesSpecSaid := over
#print axioms proved
end wireDecodeMatchesSpec
end Go.Proofs.Ytpglfjfgnmaipaa
