/-
  For every byte slice passimlaw01.WireCanonical returns true and leaves its argument as it was. No condition.
-/
import Derived.Test.YtpglfjfgnmaipaaWConcat
import Derived.Test.YtpglfjfgnmaipaaWCan
namespace Go.Proofs.Ytpglfjfgnmaipaa
open Go.RowKit

/-- The closure of WireCanonical: an error, or bytes that are the first ones of the captured slice. -/
theorem is_err (C : Value) (u er : Nat) (p : Addr) (w : World) (h : er ≠ 0) :
    Calls Try.prog 37 #[C, .int .i64 u, .int .i64 er, .pointer (some p)] w (Told w true) := by
  have he : ((er : Int) != 0) = true := by simp [h]
  go_enter Try.func37, Try.ntmps37
  go_wp2
  go_ret
  exact ⟨rfl, Below.refl _ _⟩

set_option maxHeartbeats 400000 in
theorem is_ok (C A : Option Addr) (u n c k cc B : Nat) (l : List Nat) (w : World) (hn : n = l.length) (hs : n ≤ 2000) (hnc : n ≤ c) (hu : u ≤ n) (hb : w.cell? ⟨B, 0, none⟩ = some (.slice A n c)) (hk : k = u) (hC : Has w C (l.take u)) (hA : Has w A l) :
    Calls Try.prog 37 #[.slice C k cc, .int .i64 u, .int .i64 0, .pointer (some ⟨B, 0, none⟩)] w (Told w true) := by
  subst hn
  obtain rfl : k = u := hk
  rcases Nat.eq_zero_or_pos k with h0 | h0
  · subst h0
    have S := told_true (same_any C A (l.take 0) (l.take 0) 0 0 cc c w (by simp) (by simp) (by simp) (by simp) hC (hA.take 0)) (by simp)
    have HS := Lib.hid S
    clear S hC hA
    go_enter Try.func37, Try.ntmps37
    go_wp2_with fail
    all_goals (refine HS.out.mono ?_)
    all_goals (rintro e w1 ⟨rfl, hB1⟩)
    all_goals go_wp2
    all_goals go_ret
    all_goals exact ⟨rfl, hB1⟩
  · have h1 : decide ((0 : Int) ≤ (k : Int)) = true := by simp
    have h2 : decide ((k : Int) ≤ (l.length : Int)) = true := by simp; omega
    have S := told_true (same_any C A (l.take k) (l.take k) k k cc c w (by simp; omega) (by simp; omega) (by simp; omega) (by simp; omega) hC (hA.take k)) (by simp)
    have HS := Lib.hid S
    clear S hC hA
    go_enter Try.func37, Try.ntmps37
    go_wp2_with fail
    refine HS.out.mono ?_
    rintro e w1 ⟨rfl, hB1⟩
    go_wp2
    go_ret
    exact ⟨rfl, hB1⟩

/-- The closure, at whatever was decoded and what its encoding is. -/
theorem is_any (C A : Option Addr) (u er n c k cc B : Nat) (l E : List Nat) (w : World) (hn : n = l.length) (hs : n ≤ 2000) (hnc : n ≤ c) (hb : w.cell? ⟨B, 0, none⟩ = some (.slice A n c)) (hk : k = E.length) (hC : Has w C E) (hA : Has w A l)
    (hE : er = 0 → E = l.take u ∧ u ≤ l.length) :
    Calls Try.prog 37 #[.slice C k cc, .int .i64 u, .int .i64 er, .pointer (some ⟨B, 0, none⟩)] w (Told w true) := by
  by_cases h : er = 0
  · obtain ⟨h1, h2⟩ := hE h
    subst h
    subst h1
    exact is_ok C A u n c k cc B l w hn hs hnc (by omega) hb (by rw [hk]; simp; omega) hC hA
  · exact is_err _ u er _ w h
theorem own_dcells {w : World} {B n : Nat} {v : Value} {xs : List (List Nat)} (h : w.ownsRow B 57 16 v n (xs.flatMap bytesV)) (hn : n = xs.length) (hd : ∀ x ∈ xs, Dig x) : ∃ A c, v = .slice A n c ∧ DCells w A xs := by
  rcases Nat.eq_zero_or_pos n with h0 | h0
  · have hx : xs = [] := List.eq_nil_of_length_eq_zero (by omega)
    subst hx
    rcases h.2 with ⟨rfl, hn0⟩ | ⟨g, cap, cur, rfl, _⟩
    · exact ⟨none, 0, by rw [hn0], fun k u hk => by simp at hk⟩
    · exact ⟨_, _, rfl, fun k u hk => by simp at hk⟩
  · obtain ⟨g, cap, rfl, hb, hlt⟩ := h.form h0
    refine ⟨_, _, rfl, fun k d hk => ⟨hd d (List.mem_iff_getElem?.2 ⟨k, hk⟩), _, rfl, hlt, fun j u hj => ?_⟩⟩
    have := flat_get bytesV xs (fun x hx => by rw [bytesV_length]; exact (hd x hx).1) k d hk j u hj
    exact h.cells (g := g) (by simp [Value.ownBlock]) _ u this
/-- The encoding of what was decoded, made by a call: what the closure asks. -/
theorem made_has {W w : World} {l : List Nat} {g cap : Nat} (h : Own W w (.slice (some ⟨g, 0, none⟩) l.length cap) l) (hl : ∀ d ∈ l, d < 256) : Has w (some ⟨g, 0, none⟩) l ∧ Below W.heap.size W w := ⟨h.has hl, h.2⟩

/-- What lasts through the law: the boxed argument, its bytes, and what was decoded from them. -/
structure Ctx (w wk : World) (A : Option Addr) (l : List Nat) (c : Nat) (A3 : Option Addr) (l3 : List Int) (A4 : Option Addr) (l4 : List (List Nat)) (A5 : Option Addr) (l5 : List (List Nat)) : Prop where
  hb : wk.cell? ⟨w.heap.size, 0, none⟩ = some (.slice A l.length c)
  hr : Has wk A l
  h3 : Cells wk A3 (intsV l3)
  h4 : Cells wk A4 (strsV (l4.map strOf))
  h5 : DCells wk A5 l5
  hB : Below w.heap.size w wk
  hlt : w.heap.size < wk.heap.size
theorem Ctx.keep {w wk w2 : World} {A A3 A4 A5 : Option Addr} {l : List Nat} {c : Nat} {l3 : List Int} {l4 l5 : List (List Nat)} (h : Ctx w wk A l c A3 l3 A4 l4 A5 l5) (hb : Below wk.heap.size wk w2) : Ctx w w2 A l c A3 l3 A4 l4 A5 l5 :=
  ⟨(hb.cell (p := ⟨w.heap.size, 0, none⟩) h.hlt).trans h.hb, h.hr.keep hb, h.h3.keep hb, h.h4.keep hb, h.h5.keep hb, h.hB.trans (hb.mono h.hB.size), Nat.lt_of_lt_of_le h.hlt hb.size⟩
theorem strs_back (l : List (List Nat)) (h : ∀ s ∈ l, ∀ d ∈ s, d < 256) : sbs (l.map strOf) = l := by
  unfold sbs
  rw [List.map_map]
  conv => rhs; rw [← List.map_id l]
  apply List.map_congr_left
  intro s hs
  exact sb_strOf s (h s hs)
theorem bytes_of (s : List Nat) (hs : s.length ≤ 2000) (h : ∀ d ∈ s, d < 256) (w : World) : Calls Try.prog 16 #[.string (strOf s)] w (Made w (encS s)) := by
  have := bytes_any (strOf s) (by rw [strOf_size]; omega) w
  rwa [sb_strOf s h] at this
theorem strings_of (A : Option Addr) (l : List (List Nat)) (n c : Nat) (w : World) (hn : n = l.length) (hl : l.length ≤ 2000) (h1 : ∀ s ∈ l, s.length ≤ 2000) (h2 : ∀ s ∈ l, ∀ d ∈ s, d < 256) (hr : Cells w A (strsV (l.map strOf))) :
    Calls Try.prog 20 #[.slice A n c] w (Made w (encT l)) := by
  have ht := tot_bound l 2000 h1
  have := strings_any A (l.map strOf) n c w (by simpa using hn) (by simp; omega) (by rw [strs_back l h2]; omega) hr
  rwa [strs_back l h2] at this

set_option maxHeartbeats 4000000 in
set_option maxRecDepth 100000 in
theorem canonical_any (A : Option Addr) (l : List Nat) (n c : Nat) (w : World) (hn : n = l.length) (hs : n ≤ 9223372036854775807) (hnc : n ≤ c) (hr : Has w A l) :
    Calls Try.prog 7 #[.slice A n c] w (Told w true) := by
  subst hn
  have hmf : ∀ (fn : Fn) (first cap : Array Value) (w : World), (Instr.makeFunc fn first cap).run Try.prog w = .ok (.func fn first cap) w := fun _ _ _ _ => rfl
  by_cases h2000 : 2000 < l.length
  · have hd : decide ((2000 : Int) < (l.length : Int)) = true := by simp; omega
    go_enter Try.func7, Try.ntmps7
    go_wp2_with fail
    refine (sanity_any _).mono ?_
    rintro e w1 ⟨rfl, hB1⟩
    go_wp2
    go_ret
    exact ⟨rfl, below_alloc hB1⟩
  · have hd : decide ((2000 : Int) < (l.length : Int)) = false := by simp; omega
    have hlb := hr.2
    obtain ⟨⟨n1, u1, e1⟩, hc1⟩ : ∃ r, dec l = r := ⟨_, rfl⟩
    obtain ⟨⟨s2, u2, e2⟩, hc2⟩ : ∃ r, decB l = r := ⟨_, rfl⟩
    obtain ⟨⟨l3, u3, e3⟩, hc3⟩ : ∃ r, listR (listD dec l 1) = r := ⟨_, rfl⟩
    obtain ⟨⟨l4, u4, e4⟩, hc4⟩ : ∃ r, listR (listD decB l 1) = r := ⟨_, rfl⟩
    obtain ⟨⟨l5, u5, e5⟩, hc5⟩ : ∃ r, listR (listD decG l 16) = r := ⟨_, rfl⟩
    have hr0 : Has (w.alloc (.cells #[.slice A l.length c] 28)) A l := hr.keep ((Below.refl _ _).alloc (Nat.le_refl _) _)
    have hb0 : (w.alloc (.cells #[.slice A l.length c] 28)).cell? ⟨w.heap.size, 0, none⟩ = some (.slice A l.length c) := cell_of_one (heap_alloc_new w _)
    have hBw : Below w.heap.size w (w.alloc (.cells #[.slice A l.length c] 28)) := (Below.refl _ _).alloc (Nat.le_refl _) _
    have hlt0 : w.heap.size < (w.alloc (.cells #[.slice A l.length c] 28)).heap.size := by simp
    have C1 := fun w' (h : Has w' A l) => getInt_any A l l.length c w' rfl hnc (by omega) h
    have C2 := fun w' (h : Has w' A l) => getBytes_any A l l.length c w' rfl hnc (by omega) h
    have C3 := fun w' (h : Has w' A l) => getInts_any A l l.length c w' rfl hnc (by omega) (by omega) h
    have C4 := fun w' (h : Has w' A l) => getStrings_any A l l.length c w' rfl hnc (by omega) (by omega) h
    have C5 := fun w' (h : Has w' A l) => getDigests_any A l l.length c w' rfl hnc (by omega) (by omega) h
    rw [hc1] at C1
    rw [hc2] at C2
    rw [hc3] at C3
    rw [hc4] at C4
    rw [hc5] at C5
    simp only [three, threeB] at C1 C2
    have H1 := Lib.hid C1
    have H2 := Lib.hid C2
    have H3 := Lib.hid C3
    have H4 := Lib.hid C4
    have H5 := Lib.hid C5
    clear C1 C2 C3 C4 C5
    have HC := Lib.hid (canon_of l (by omega) hlb hc1 hc2 hc3 hc4 hc5)
    clear hc1 hc2 hc3 hc4 hc5
    go_enter Try.func7, Try.ntmps7
    go_wp2_with fail
    refine (H1.out _ hr0).mono ?_
    rintro e wx ⟨rfl, rfl⟩
    go_wp2_with fail
    refine (H2.out _ hr0).mono ?_
    rintro e wx ⟨rfl, rfl⟩
    go_wp2_with fail
    refine (H3.out _ hr0).mono ?_
    rintro e w3 ⟨v3, rfl, ho3, hB3⟩
    have hB03 := hBw.trans (hB3.mono hBw.size)
    have hb3 := (hB3.cell (p := ⟨w.heap.size, 0, none⟩) hlt0).trans hb0
    have hr3 := hr0.keep hB3
    have hlt3 : w.heap.size < w3.heap.size := Nat.lt_of_lt_of_le hlt0 hB3.size
    obtain ⟨A3, c3, rfl, hk3⟩ := own_form ho3
    clear hr0 hb0 hBw hB3 hlt0 ho3
    go_wp2_with fail
    refine (H4.out _ hr3).mono ?_
    rintro e w4 ⟨v4, rfl, ho4, hB4⟩
    have hb4 := (hB4.cell (p := ⟨w.heap.size, 0, none⟩) hlt3).trans hb3
    have hr4 := hr3.keep hB4
    have hk34 := hk3.keep hB4
    have hlt4 : w.heap.size < w4.heap.size := Nat.lt_of_lt_of_le hlt3 hB4.size
    have hB04 := hB03.trans (hB4.mono hB03.size)
    simp only at ho4
    obtain ⟨A4, c4, rfl, hk4⟩ := own_form ho4
    clear hb3 hr3 hk3 hlt3 hB03 hB4 ho4
    go_wp2_with fail
    refine (H5.out _ hr4).mono ?_
    rintro e w5 ⟨v5, rfl, ho5, hB5⟩
    simp only at ho5
    obtain ⟨A5, c5, rfl, hk5⟩ := own_dcells ho5 rfl HC.out.c5
    have X5 : Ctx w w5 A l c A3 l3 A4 l4 A5 l5 :=
      ⟨(hB5.cell (p := ⟨w.heap.size, 0, none⟩) hlt4).trans hb4, hr4.keep hB5, hk34.keep hB5, by have := hk4.keep hB5; unfold strsV; rw [List.map_map]; exact this, hk5, hB04.trans (hB5.mono hB04.size), Nat.lt_of_lt_of_le hlt4 hB5.size⟩
    clear hb4 hr4 hk34 hlt4 hB04 hk4 hk5 ho5 hB5 H1 H2 H3 H4 H5
    go_wp2_with fail
    refine (sanity_any _).mono ?_
    rintro e w6 ⟨rfl, hB6⟩
    have X6 := X5.keep hB6
    clear X5 hB6
    go_wp2_with fail
    refine (int_any n1 HC.out.b1.1 HC.out.b1.2 w6).mono ?_
    rintro e w7 ⟨g7, cap7, rfl, hO7⟩
    have X7 := X6.keep hO7.below
    have hH7 := hO7.has (enc_lt n1 HC.out.b1.1 HC.out.b1.2)
    have J7 := Lib.hid (is_any (some ⟨g7, 0, none⟩) A u1 e1 l.length c (enc n1).length cap7 w.heap.size l (enc n1) w7 rfl (by omega) hnc X7.hb rfl hH7 X7.hr HC.out.a1)
    clear X6 hO7 hH7
    go_wp2_with fail
    refine J7.out.mono ?_
    rintro e w8 ⟨rfl, hB8⟩
    have X8 := X7.keep hB8
    clear X7 J7 hB8
    go_wp2_with fail
    refine (bytes_of s2 HC.out.b2 HC.out.c2 w8).mono ?_
    rintro e w9 ⟨g9, cap9, rfl, hO9⟩
    have X9 := X8.keep hO9.below
    have hH9 := hO9.has (encS_lt2 s2 (Nat.le_trans HC.out.b2 (by omega)) HC.out.c2)
    have J9 := Lib.hid (is_any (some ⟨g9, 0, none⟩) A u2 e2 l.length c (encS s2).length cap9 w.heap.size l (encS s2) w9 rfl (by omega) hnc X9.hb rfl hH9 X9.hr HC.out.a2)
    clear X8 hO9 hH9
    go_wp2_with fail
    refine J9.out.mono ?_
    rintro e w10 ⟨rfl, hB10⟩
    have X10 := X9.keep hB10
    clear X9 J9 hB10
    go_wp2_with fail
    refine (ints_any A3 l3 l3.length c3 w10 rfl (Nat.le_trans HC.out.b3 (by omega)) HC.out.c3 X10.h3).mono ?_
    rintro e w11 ⟨g11, cap11, rfl, hO11⟩
    have X11 := X10.keep hO11.below
    have hH11 := hO11.has (encL_lt l3 (Nat.le_trans HC.out.b3 (by omega)) HC.out.c3)
    have J11 := Lib.hid (is_any (some ⟨g11, 0, none⟩) A u3 e3 l.length c (encL l3).length cap11 w.heap.size l (encL l3) w11 rfl (by omega) hnc X11.hb rfl hH11 X11.hr HC.out.a3)
    clear X10 hO11 hH11
    go_wp2_with fail
    refine J11.out.mono ?_
    rintro e w12 ⟨rfl, hB12⟩
    have X12 := X11.keep hB12
    clear X11 J11 hB12
    go_wp2_with fail
    refine (strings_of A4 l4 l4.length c4 w12 rfl HC.out.b4 HC.out.c4 HC.out.d4 X12.h4).mono ?_
    rintro e w13 ⟨g13, cap13, rfl, hO13⟩
    have X13 := X12.keep hO13.below
    have hH13 := hO13.has (encT_lt l4 (Nat.le_trans HC.out.b4 (by omega)) (fun s hs => Nat.le_trans (HC.out.c4 s hs) (by omega)) HC.out.d4)
    have J13 := Lib.hid (is_any (some ⟨g13, 0, none⟩) A u4 e4 l.length c (encT l4).length cap13 w.heap.size l (encT l4) w13 rfl (by omega) hnc X13.hb rfl hH13 X13.hr HC.out.a4)
    clear X12 hO13 hH13
    go_wp2_with fail
    refine J13.out.mono ?_
    rintro e w14 ⟨rfl, hB14⟩
    have X14 := X13.keep hB14
    clear X13 J13 hB14
    go_wp2_with fail
    refine (digests_any A5 l5 l5.length c5 w14 rfl (Nat.le_trans HC.out.b5 (by omega)) X14.h5).mono ?_
    rintro e w15 ⟨g15, cap15, rfl, hO15⟩
    have X15 := X14.keep hO15.below
    have hH15 := hO15.has (encD_lt l5 (Nat.le_trans HC.out.b5 (by omega)) HC.out.c5)
    have J15 := Lib.hid (is_any (some ⟨g15, 0, none⟩) A u5 e5 l.length c (encD l5).length cap15 w.heap.size l (encD l5) w15 rfl (by omega) hnc X15.hb rfl hH15 X15.hr HC.out.a5)
    clear X14 hO15 hH15
    go_wp2_with fail
    refine J15.out.mono ?_
    rintro e w16 ⟨rfl, hB16⟩
    have X16 := X15.keep hB16
    clear X15 J15 hB16
    go_wp2
    go_ret
    exact ⟨rfl, X16.hB⟩

namespace wireCanonical
open Go.ChangeShapes Go.WideShapes Go.ChangeAt Go.RowKit

set_option maxRecDepth 100000 in
theorem lifted (os : Os) (started : os.Started) (H : Type) (enc : TypeId × Value → H) :
    ReturnsInHanded {} Try.checked os 7 .any (Rows.wireCanonicalSpec.pre6 enc Try.prog Try.f7 Rows.wireCanonicalRow.domain false) (Rows.wireCanonicalSpec.post enc Try.prog Try.f7 false true false false) := by
  refine returnsInHanded_of_change (C := Try.checked) own started (by kernel_rfl) Try.func7
    (ChangeSpec.witness6 (enc := enc) (C := Try.checked) false ⟨#[], #[.slice none 0 0], []⟩ 8 (by kernel_rfl) (by kernel_rfl) (by kernel_rfl) (by kernel_rfl)) ?_
  intro W base args ds gs before hval0 hW hcnd _
  have hval : ∀ (j : Nat) t v, Try.f7.params[j]? = some t → args[j]? = some v → Value.okWide Try.prog W .any base t v := hval0
  have hW' := hW
  obtain ⟨p, q, hA0, hV, rfl, hfz, hnd⟩ := hW
  have hA : DataW.TrodAll enc Try.prog W 0 (fun _ => true) true Try.f7.params.toList args.toList ds p := hA0
  rw [Try.params7] at hA hval
  obtain ⟨v0, d0, rfl, rfl, h0⟩ := trodAll_one hA
  obtain ⟨rfl, rfl⟩ := trodVars_none hV
  clear hA0 hval0
  simp only [List.append_nil] at hW'
  have hlt : ∀ x ∈ p, x.block < W.heap.size := fun x hx => by simpa using hW'.lt x (by simpa using hx)
  obtain ⟨A, n, c, l, rfl, hn, hs, hnc, hr⟩ := open_bytes (hval 0 28 v0 rfl rfl) h0 hlt
  have hargs : ∀ (W' : World), Below W.heap.size W W' → DataW.Trod enc Try.prog W' 0 (fun b => decide (b < W.heap.size)) true 28 (.slice A n c) d0 p :=
    fun W' hB => Below.trod laidOut (by kernel_rfl) (of_decide_eq_true (by kernel_rfl)) h0 hB hlt
  refine (canonical_any A l n c W hn hs hnc hr).mono fun e W' ⟨he, hB⟩ => ?_
  subst he
  refine ⟨_, rfl, _, _, _, [], p, [], hW', ?_, ?_, rfl, hB.frame _, fun h => by cases h⟩
  · exact trodAll_mk1 (shut_bool Try.underlying4 _)
  · exact trodAll_mk1 (hargs _ hB)

theorem over : Rows.wireCanonicalRow.holds Try.pinned (OpenSpec.ofChange Rows.wireCanonicalSpec) :=
  OpenClaim.holds_of_wide 7 Try.f7 rfl rfl rfl rfl rfl rfl rfl ⟨rfl, rfl, rfl, rfl, rfl⟩ rfl rfl rfl rfl rfl (by kernel_rfl) Try.func7 (by kernel_rfl)
    (of_decide_eq_true (by kernel_rfl)) (by unfold Func.isWrapper; first | (rw [if_pos (by decide +kernel)]; kernel_rfl) | (rw [if_neg (by decide +kernel)]; exact ⟨rfl, rfl⟩))
    (fun os started H enc _ => lifted os started H enc)

theorem proved : Rows.WireCanonicalSaid := over
#print axioms proved
end wireCanonical
end Go.Proofs.Ytpglfjfgnmaipaa
