/-
  For every integer, string, and list of integers, strings and digests that hold at most 2^20 values and letters, passimlaw01.WireEncodeMatchesSpec returns true and leaves its arguments as they were. Condition: that bound (the second form's own).
-/
import Derived.Test.YtpglfjfgnmaipaaWFew
import Derived.Test.YtpglfjfgnmaipaaWOpen
import Derived.JoinedCond
namespace Go.Proofs.Ytpglfjfgnmaipaa
open Go.RowKit

/-- What lasts through the law: the three lists. -/
structure Three (w wk : World) (A : Option Addr) (l : List Int) (B : Option Addr) (x : List ByteArray) (C : Option Addr) (d : List (List Nat)) : Prop where
  h3 : Cells wk A (intsV l)
  h4 : Cells wk B (strsV x)
  h5 : DCells wk C d
  hB : Below w.heap.size w wk
theorem Three.keep {w wk w2 : World} {A B C : Option Addr} {l : List Int} {x : List ByteArray} {d : List (List Nat)} (h : Three w wk A l B x C d) (hb : Below wk.heap.size wk w2) : Three w w2 A l B x C d :=
  ⟨h.h3.keep hb, h.h4.keep hb, h.h5.keep hb, h.hB.trans (hb.mono h.hB.size)⟩

/-- Same over two encodings, each made by a call. -/
theorem same_made {W1 w1 w2 : World} {g1 c1 g2 c2 : Nat} {E : List Nat} (h1 : Own W1 w1 (.slice (some ⟨g1, 0, none⟩) E.length c1) E) (h2 : Own w1 w2 (.slice (some ⟨g2, 0, none⟩) E.length c2) E) (hl : E.length ≤ 140737488355328) (hE : ∀ d ∈ E, d < 256) :
    Calls Try.prog 13 #[.slice (some ⟨g1, 0, none⟩) E.length c1, .slice (some ⟨g2, 0, none⟩) E.length c2] w2 (Told w2 true) :=
  told_true (same_any _ _ E E _ _ c1 c2 w2 rfl rfl hl hl ((h1.has hE).keep h2.below) (h2.has hE)) (by simp)

/-- The bounds of all that is encoded. -/
structure EncB (n : Int) (s : ByteArray) (l : List Int) (x : List ByteArray) (d : List (List Nat)) : Prop where
  n1 : -9223372036854775808 ≤ n
  n2 : n ≤ 9223372036854775807
  s1 : s.size ≤ 2000
  l1 : l.length ≤ 2000
  l2 : ∀ y ∈ l, I64 y
  x1 : x.length ≤ 2000
  x2 : tot (sbs x) ≤ 2000
  d1 : d.length ≤ 2000
  d2 : ∀ y ∈ d, Dig y
theorem EncB.b1 {n : Int} {s : ByteArray} {l : List Int} {x : List ByteArray} {d : List (List Nat)} (h : EncB n s l x d) : (enc n).length ≤ 140737488355328 ∧ ∀ y ∈ enc n, y < 256 :=
  ⟨by have := enc_length n h.n1 h.n2; omega, enc_lt n h.n1 h.n2⟩
theorem EncB.b2 {n : Int} {s : ByteArray} {l : List Int} {x : List ByteArray} {d : List (List Nat)} (h : EncB n s l x d) : (encS (sb s)).length ≤ 140737488355328 ∧ ∀ y ∈ encS (sb s), y < 256 :=
  ⟨by have := encS_length (sb s) (by rw [sb_length]; have := h.s1; omega); rw [sb_length] at this; have := h.s1; omega, encS_lt2 _ (by rw [sb_length]; have := h.s1; omega) (sb_lt s)⟩
theorem EncB.b3 {n : Int} {s : ByteArray} {l : List Int} {x : List ByteArray} {d : List (List Nat)} (h : EncB n s l x d) : (encL l).length ≤ 140737488355328 ∧ ∀ y ∈ encL l, y < 256 :=
  ⟨by have := partI_length l l.length h.l2 (by have := h.l1; omega); rw [partI_all] at this; have := h.l1; omega, encL_lt l (by have := h.l1; omega) h.l2⟩
theorem EncB.b4 {n : Int} {s : ByteArray} {l : List Int} {x : List ByteArray} {d : List (List Nat)} (h : EncB n s l x d) : (encT (sbs x)).length ≤ 140737488355328 ∧ ∀ y ∈ encT (sbs x), y < 256 := by
  have h1 := h.x1
  have h2 := h.x2
  refine ⟨?_, encT_lt _ (by rw [sbs_length]; omega) (fun y hy => ?_) (fun y hy => ?_)⟩
  · have := flatMap_encS_length (sbs x) (by omega)
    have e := enc_length ((sbs x).length : Int) (by omega) (by rw [sbs_length]; omega)
    unfold encT
    rw [List.length_append]
    rw [sbs_length] at this e
    rw [sbs_length]
    omega
  · obtain ⟨k, hk⟩ := List.mem_iff_getElem?.1 hy
    obtain ⟨z, hz, rfl⟩ := List.mem_map.1 hy
    obtain ⟨j, hj, rfl⟩ := List.mem_iff_getElem.1 hz
    have := size_tot x j hj
    rw [sb_length]
    omega
  · obtain ⟨z, hz, rfl⟩ := List.mem_map.1 hy
    exact sb_lt z
theorem EncB.b5 {n : Int} {s : ByteArray} {l : List Int} {x : List ByteArray} {d : List (List Nat)} (h : EncB n s l x d) : (encD d).length ≤ 140737488355328 ∧ ∀ y ∈ encD d, y < 256 := by
  have h1 := h.d1
  refine ⟨?_, encD_lt d (by omega) h.d2⟩
  have := flatten_length d h.d2
  have e := enc_length (d.length : Int) (by omega) (by omega)
  unfold encD
  rw [List.length_append]
  omega

set_option maxHeartbeats 4000000 in
set_option maxRecDepth 100000 in
theorem encode_any (a : Int) (s : ByteArray) (A : Option Addr) (l : List Int) (B : Option Addr) (x : List ByteArray) (C : Option Addr) (d : List (List Nat)) (n c n2 c2 n3 c3 : Nat) (w : World)
    (ha1 : -9223372036854775808 ≤ a) (ha2 : a ≤ 9223372036854775807) (hs : s.size ≤ 1048576) (hn : n = l.length) (hn2 : n2 = x.length) (hn3 : n3 = d.length) (hl : l.length ≤ 1048576) (hx : x.length ≤ 1048576) (hxt : tot (sbs x) ≤ 1048576) (hd : d.length ≤ 1048576)
    (hi : ∀ y ∈ l, I64 y) (hD : ∀ y ∈ d, Dig y) (h3 : Cells w A (intsV l)) (h4 : Cells w B (strsV x)) (h5 : DCells w C d) :
    Calls Try.prog 3 #[.int .i64 a, .string s, .slice A n c, .slice B n2 c2, .slice C n3 c3] w (Told w true) := by
  subst hn; subst hn2; subst hn3
  have X0 : Three w w A l B x C d := ⟨h3, h4, h5, Below.refl _ _⟩
  have HF := Lib.hid (few_any B x x.length c2 w rfl (by omega) (by omega) h4)
  clear h3 h4 h5
  by_cases hm : 2000 < s.size + l.length + d.length
  · have hd : decide ((2000 : Int) < (s.size : Int) + (l.length : Int) + (d.length : Int)) = true := by simp; omega
    go_enter Try.func3, Try.ntmps3
    go_wp2_with fail
    refine (sanity_any _).mono ?_
    rintro e w1 ⟨rfl, hB1⟩
    go_wp2
    go_ret
    exact ⟨rfl, hB1⟩
  · have hd0 : decide ((2000 : Int) < (s.size : Int) + (l.length : Int) + (d.length : Int)) = false := by simp; omega
    by_cases hf : x.length + tot (sbs x) ≤ 2000
    · have hfb : decide (x.length + tot (sbs x) ≤ 2000) = true := by simp [hf]
      have HB := Lib.hid (EncB.mk ha1 ha2 (by omega) (by omega) hi (by omega) (by omega) (by omega) hD : EncB a s l x d)
      clear hi hD hf
      go_enter Try.func3, Try.ntmps3
      go_wp2_with fail
      refine HF.out.mono ?_
      rintro e wx ⟨rfl, rfl⟩
      clear HF
      go_wp2_with fail
      refine (sanity_any _).mono ?_
      rintro e w1 ⟨rfl, hB1⟩
      have X1 := X0.keep hB1
      clear X0 hB1
      go_wp2_with fail
      refine (int_any a HB.out.n1 HB.out.n2 w1).mono ?_
      rintro e w2 ⟨g2, cap2, rfl, hO2⟩
      have X2 := X1.keep hO2.below
      clear X1
      go_wp2_with fail
      refine (rint_any a HB.out.n1 HB.out.n2 w2).mono ?_
      rintro e w3 ⟨g3, cap3, rfl, hO3⟩
      have X3 := X2.keep hO3.below
      have HS3 := Lib.hid (same_made hO2 hO3 HB.out.b1.1 HB.out.b1.2)
      clear X2 hO2 hO3
      go_wp2_with fail
      refine HS3.out.mono ?_
      rintro e w4 ⟨rfl, hB4⟩
      have X4 := X3.keep hB4
      clear X3 hB4 HS3
      go_wp2_with fail
      refine (bytes_any s (Nat.le_trans HB.out.s1 (by omega)) w4).mono ?_
      rintro e w5 ⟨g5, cap5, rfl, hO5⟩
      have X5 := X4.keep hO5.below
      clear X4
      go_wp2_with fail
      refine (rbytes_any s (Nat.le_trans HB.out.s1 (by omega)) w5).mono ?_
      rintro e w6 ⟨g6, cap6, rfl, hO6⟩
      have X6 := X5.keep hO6.below
      have HS6 := Lib.hid (same_made hO5 hO6 HB.out.b2.1 HB.out.b2.2)
      clear X5 hO5 hO6
      go_wp2_with fail
      refine HS6.out.mono ?_
      rintro e w7 ⟨rfl, hB7⟩
      have X7 := X6.keep hB7
      clear X6 hB7 HS6
      go_wp2_with fail
      refine (ints_any A l l.length c w7 rfl (Nat.le_trans HB.out.l1 (by omega)) HB.out.l2 X7.h3).mono ?_
      rintro e w8 ⟨g8, cap8, rfl, hO8⟩
      have X8 := X7.keep hO8.below
      clear X7
      go_wp2_with fail
      refine (rints_any A l l.length c w8 rfl (Nat.le_trans HB.out.l1 (by omega)) HB.out.l2 X8.h3).mono ?_
      rintro e w9 ⟨g9, cap9, rfl, hO9⟩
      have X9 := X8.keep hO9.below
      have HS9 := Lib.hid (same_made hO8 hO9 HB.out.b3.1 HB.out.b3.2)
      clear X8 hO8 hO9
      go_wp2_with fail
      refine HS9.out.mono ?_
      rintro e w10 ⟨rfl, hB10⟩
      have X10 := X9.keep hB10
      clear X9 hB10 HS9
      go_wp2_with fail
      refine (strings_any B x x.length c2 w10 rfl (Nat.le_trans HB.out.x1 (by omega)) (Nat.le_trans HB.out.x2 (by omega)) X10.h4).mono ?_
      rintro e w11 ⟨g11, cap11, rfl, hO11⟩
      have X11 := X10.keep hO11.below
      clear X10
      go_wp2_with fail
      refine (rstrings_any B x x.length c2 w11 rfl (Nat.le_trans HB.out.x1 (by omega)) (Nat.le_trans HB.out.x2 (by omega)) X11.h4).mono ?_
      rintro e w12 ⟨g12, cap12, rfl, hO12⟩
      have X12 := X11.keep hO12.below
      have HS12 := Lib.hid (same_made hO11 hO12 HB.out.b4.1 HB.out.b4.2)
      clear X11 hO11 hO12
      go_wp2_with fail
      refine HS12.out.mono ?_
      rintro e w13 ⟨rfl, hB13⟩
      have X13 := X12.keep hB13
      clear X12 hB13 HS12
      go_wp2_with fail
      refine (digests_any C d d.length c3 w13 rfl (Nat.le_trans HB.out.d1 (by omega)) X13.h5).mono ?_
      rintro e w14 ⟨g14, cap14, rfl, hO14⟩
      have X14 := X13.keep hO14.below
      clear X13
      go_wp2_with fail
      refine (rdigests_any C d d.length c3 w14 rfl (Nat.le_trans HB.out.d1 (by omega)) X14.h5).mono ?_
      rintro e w15 ⟨g15, cap15, rfl, hO15⟩
      have X15 := X14.keep hO15.below
      have HS15 := Lib.hid (same_made hO14 hO15 HB.out.b5.1 HB.out.b5.2)
      clear X14 hO14 hO15
      go_wp2_with fail
      refine HS15.out.mono ?_
      rintro e w16 ⟨rfl, hB16⟩
      have X16 := X15.keep hB16
      clear X15 hB16 HS15
      go_wp2
      go_ret
      exact ⟨rfl, X16.hB⟩
    · have hfb : decide (x.length + tot (sbs x) ≤ 2000) = false := by simp; omega
      clear hi hD hf
      go_enter Try.func3, Try.ntmps3
      go_wp2_with fail
      refine HF.out.mono ?_
      rintro e wx ⟨rfl, rfl⟩
      clear HF
      go_wp2_with fail
      refine (sanity_any _).mono ?_
      rintro e w1 ⟨rfl, hB1⟩
      go_wp2
      go_ret
      exact ⟨rfl, hB1⟩

namespace wireEncodeMatchesSpec
open Go.ChangeShapes Go.WideShapes Go.ChangeAt Go.RowKit

set_option maxRecDepth 100000 in
theorem lifted (os : Os) (started : os.Started) (H : Type) (enc : TypeId × Value → H) (F : Stop.Interp) :
    ReturnsInHanded {} Try.checked os 3 .any ((Rows.OpenSpec.upto Rows.wireEncodeMatchesSpecSpec).pre6 enc Try.prog Try.f3 Rows.wireEncodeMatchesSpecUptoRow.domain false) (((Rows.OpenSpec.upto Rows.wireEncodeMatchesSpecSpec).at F).post enc Try.prog Try.f3 false true false false) := by
  refine returnsInHanded_of_cond (C := Try.checked) (s := Rows.OpenSpec.upto Rows.wireEncodeMatchesSpecSpec) (k := Rows.uptoSmall) rfl own started (by kernel_rfl) Try.func3
    (OpenSpec.witness (enc := enc) (C := Try.checked) (s := Rows.OpenSpec.upto Rows.wireEncodeMatchesSpecSpec) (k := Rows.uptoSmall) rfl false ⟨#[], #[.int .i64 0, .string ByteArray.empty, .slice none 0 0, .slice none 0 0, .slice none 0 0], []⟩ 8 (by kernel_rfl) (by kernel_rfl) (by kernel_rfl)
      (x := ([.lit (.int .i64 0), .lit (.string []), .nil, .nil, .nil], [], [])) (by kernel_rfl) rfl (by kernel_rfl)) ?_
  intro W base args ds gs before hval0 hW0 hcnd hk _
  show Calls Try.prog 3 args W fun e W' => ∃ v, e = .returned v ∧ Rows.wireEncodeMatchesSpecSpec.post enc Try.prog Try.f3 false true false false W args v W'
  have hW : DataW.Whole enc Try.prog Try.f3.params.toList Rows.wireEncodeMatchesSpecSpec.vars false W args.toList ds gs before := hW0
  clear hW0
  have hval : ∀ (j : Nat) t v, Try.f3.params[j]? = some t → args[j]? = some v → Value.okWide Try.prog W .any base t v := hval0
  have hW' := hW
  obtain ⟨p, q, hA0, hV, rfl, hfz, hnd⟩ := hW
  have hA : DataW.TrodAll enc Try.prog W 0 (fun _ => true) true Try.f3.params.toList args.toList ds p := hA0
  rw [Try.params3] at hA hval
  obtain ⟨v0, vs0, d0, ds0, p0, q0, hargs0, rfl, rfl, h0, r0⟩ := trodAll_cons hA
  obtain ⟨v1, vs1, d1, ds1, p1, q1, rfl, rfl, rfl, h1, r1⟩ := trodAll_cons r0
  obtain ⟨v2, vs2, d2, ds2, p2, q2, rfl, rfl, rfl, h2, r2⟩ := trodAll_cons r1
  obtain ⟨v3, vs3, d3, ds3, p3, q3, rfl, rfl, rfl, h3, r3⟩ := trodAll_cons r2
  obtain ⟨v4, vs4, d4, ds4, p4, q4, rfl, rfl, rfl, h4, r4⟩ := trodAll_cons r3
  obtain ⟨rfl, rfl, rfl⟩ := trodAll_nil r4
  obtain rfl : args = #[v0, v1, v2, v3, v4] := by cases args; simp_all
  obtain ⟨rfl, rfl⟩ := trodVars_none hV
  obtain ⟨a0, rfl, rfl, rfl, w0⟩ := open_int Try.underlying3 (hval 0 3 v0 rfl rfl) h0
  obtain ⟨s1, rfl, rfl, rfl, w1⟩ := Go.ChangeMaps.open_string Try.underlying9 (hval 1 9 v1 rfl rfl) h1
  have hbulk : Rows.uptoBulkAll [DataW.lit (H := H) (.int .i64 a0), .lit (.string s1.data.toList), d2, d3, d4] ≤ 1048576 := of_decide_eq_true hk
  clear hA0 hval0 hk
  simp only [List.append_nil, List.nil_append] at hW'
  have hlt : ∀ x ∈ p2 ++ (p3 ++ p4), x.block < W.heap.size := fun x hx => by simpa using hW'.lt x (by simpa using hx)
  have hlt2 : ∀ x ∈ p2, x.block < W.heap.size := fun x hx => hlt x (by simp [hx])
  have hlt3 : ∀ x ∈ p3, x.block < W.heap.size := fun x hx => hlt x (by simp [hx])
  have hlt4 : ∀ x ∈ p4, x.block < W.heap.size := fun x hx => hlt x (by simp [hx])
  obtain ⟨A, n, c, l, rfl, hn, hnc, hr, hi, hcap⟩ := open_intsV (hval 2 22 v2 rfl rfl) h2 hlt2
  obtain ⟨A3, n3, c3, l3, rfl, hn3, hnc3, hr3, hi3, hcap3⟩ := open_textsV (hval 3 23 v3 rfl rfl) h3 hlt3
  obtain ⟨A4, n4, c4, l4, rfl, hn4, hnc4, hr4, hi4, hcap4⟩ := open_digsV (hval 4 24 v4 rfl rfl) h4 hlt4
  simp only [Rows.uptoBulkAll, Rows.uptoBulk] at hbulk
  have b1 : s1.size ≤ 1048576 := by
    have e : s1.data.toList.length = s1.size := Array.length_toList
    omega
  have b2 : l.length ≤ 1048576 := by
    obtain ⟨e1, e2, ⟨hd, hl⟩ | ⟨hd, hc0⟩⟩ := hcap
    · have h5 := bulk_len (lits (H := H) .i64 e1)
      have h6 := bulk_len (lits (H := H) .i64 e2)
      rw [hd] at hbulk
      simp only [Rows.uptoBulk] at hbulk
      simp only [lits, List.length_map] at h5 h6
      simp only [lits] at hbulk
      omega
    · omega
  have b3 : l3.length + tot (sbs l3) ≤ 1048576 := by
    obtain ⟨e2, ⟨hd, hl⟩ | ⟨hd, hc0⟩⟩ := hcap3
    · have h5 := bulk_strs (H := H) l3
      rw [hd] at hbulk
      simp only [Rows.uptoBulk] at hbulk
      omega
    · have : l3 = [] := List.eq_nil_of_length_eq_zero (by omega)
      subst this
      simp [tot, sbs]
  have b4 : l4.length ≤ 1048576 := by
    obtain ⟨e1, e2, ⟨hd, he, hl⟩ | ⟨hd, hc0⟩⟩ := hcap4
    · have h5 := bulk_len e1
      rw [hd] at hbulk
      simp only [Rows.uptoBulk] at hbulk
      omega
    · omega
  have k2 : ∀ (W' : World), Below W.heap.size W W' → DataW.Trod enc Try.prog W' 0 (fun b => decide (b < W.heap.size)) true 22 (.slice A n c) d2 p2 :=
    fun W' hB => Below.trod laidOut (by kernel_rfl) (of_decide_eq_true (by kernel_rfl)) h2 hB hlt2
  have k3 : ∀ (W' : World), Below W.heap.size W W' → DataW.Trod enc Try.prog W' 0 (fun b => decide (b < W.heap.size)) true 23 (.slice A3 n3 c3) d3 p3 :=
    fun W' hB => Below.trod laidOut (by kernel_rfl) (of_decide_eq_true (by kernel_rfl)) h3 hB hlt3
  have k4 : ∀ (W' : World), Below W.heap.size W W' → DataW.Trod enc Try.prog W' 0 (fun b => decide (b < W.heap.size)) true 24 (.slice A4 n4 c4) d4 p4 :=
    fun W' hB => Below.trod laidOut (by kernel_rfl) (of_decide_eq_true (by kernel_rfl)) h4 hB hlt4
  have hwf := w0
  simp [Lit.wf, IntKind.min, IntKind.max, IntKind.signed, IntKind.bits] at hwf
  refine (encode_any a0 s1 A l A3 l3 A4 l4 n c n3 c3 n4 c4 W hwf.1 hwf.2 b1 hn hn3 hn4 b2 (by omega) (by omega) b4 hi hi4 hr hr3 hr4).mono fun e W' ⟨he, hB⟩ => ?_
  subst he
  have hpl : p2 ++ (p3 ++ p4) = [] ++ ([] ++ (p2 ++ (p3 ++ (p4 ++ [])))) := by simp
  rw [hpl] at hW'
  refine ⟨_, rfl, _, _, _, [], [] ++ ([] ++ (p2 ++ (p3 ++ (p4 ++ [])))), [], hW', ?_, ?_, rfl, hB.frame _, fun h => by cases h⟩
  · exact trodAll_mk1 (shut_bool Try.underlying4 _)
  · exact trodAll_cons_mk (shut_int Try.underlying3 w0) (trodAll_cons_mk (Go.ChangeMaps.shut_string Try.underlying9 w1) (trodAll_cons_mk (k2 _ hB) (trodAll_cons_mk (k3 _ hB) (trodAll_cons_mk (k4 _ hB) trodAll_mk0))))

theorem over : Rows.wireEncodeMatchesSpecUptoRow.holds Try.pinned (Rows.OpenSpec.upto Rows.wireEncodeMatchesSpecSpec) :=
  OpenClaim.holds_of_cond 3 Try.f3 rfl rfl rfl rfl rfl rfl rfl ⟨rfl, rfl, rfl, rfl, rfl⟩ rfl rfl rfl rfl rfl (by kernel_rfl) Try.func3 (by kernel_rfl)
    (of_decide_eq_true (by kernel_rfl)) (by unfold Func.isWrapper; first | (rw [if_pos (by decide +kernel)]; kernel_rfl) | (rw [if_neg (by decide +kernel)]; exact ⟨rfl, rfl⟩))
    (fun os started H enc _ F => lifted os started H enc F)

theorem proved : Rows.WireEncodeMatchesSpecUptoSaid := over
#print axioms proved
end wireEncodeMatchesSpec
end Go.Proofs.Ytpglfjfgnmaipaa
