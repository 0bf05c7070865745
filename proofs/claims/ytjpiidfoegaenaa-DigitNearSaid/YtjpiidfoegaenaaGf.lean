/-
  DigitNear, walked.
-/
import Derived.Test.YtjpiidfoegaenaaGe
import Derived.Test.YtjpiidfoegaenaaEj
namespace Go.Proofs.Ytjpiidfoegaenaa
open Go Go.RowKit
set_option linter.unusedVariables false
set_option linter.unusedSimpArgs false

theorem near_facts {s x : ByteArray} (h : x ∈ nearT s) : chkS (sb x) = 0 ∧ x.size ≤ 64 := by
  unfold nearT at h
  split at h
  · have h1 := (found_mem (Nat.le_refl _) (mem_comp.1 h)).1
    have h2 := (chk_zero h1).2.1
    rw [sb_length] at h2
    exact ⟨h1, h2⟩
  · cases h
theorem near_sorted (s : ByteArray) : Srt (nearT s) := by
  unfold nearT
  split
  · have := (comp_sort (foundT (sb s) (sb s).length)).1
    unfold bsL at this
    exact List.pairwise_map.1 this
  · exact List.Pairwise.nil
theorem near_len (s : ByteArray) : (nearT s).length ≤ 1000000 := by
  unfold nearT
  split
  · rename_i h
    have h1 := comp_len (foundT (sb s) (sb s).length)
    have h2 := foundT_len (sb s) (sb s).length
    have h3 := (chk_nine h).2
    omega
  · exact Nat.zero_le _
theorem srt_next {L : List ByteArray} (h : Srt L) {k : Nat} {x y : ByteArray} (hx : L[k]? = some x) (hy : L[k + 1]? = some y) : ltS x y = true := by
  obtain ⟨h1, e1⟩ := List.getElem?_eq_some_iff.1 hx
  obtain ⟨h2, e2⟩ := List.getElem?_eq_some_iff.1 hy
  have := List.pairwise_iff_getElem.1 h k (k + 1) h1 h2 (by omega)
  rw [e1, e2] at this
  exact sl_lt this
def ShR (w : World) (e : Ending) (w' : World) : Prop := ∃ t : ByteArray, e = .returned (.string t) ∧ t.size ≤ 70 ∧ w = w'
set_option maxHeartbeats 1000000 in
set_option maxRecDepth 100000 in
theorem short_any (s : ByteArray) (w : World) : Calls Try.prog 31 #[.string s, .int .i64 70] w (ShR w) := by
  rcases Nat.lt_or_ge 70 s.size with h | h
  · have hz : 70 < (s.size : Int) := by omega
    have hz2 : (70 : Int) ≤ (s.size : Int) := by omega
    have h70 : 70 ≤ s.size := by omega
    go_enter Try.func31, Try.ntmps31
    go_wp2
    go_ret
    exact ⟨s.extract 0 70, rfl, by rw [ByteArray.size_extract]; omega, rfl⟩
  · have hz : ¬ 70 < (s.size : Int) := by omega
    go_enter Try.func31, Try.ntmps31
    go_wp2
    go_ret
    exact ⟨s, rfl, h, rfl⟩
theorem lay_cellN {α : Type} {E : Elt α} {w : World} {g : Nat} {l : List α} (h : At E w (some ⟨g, 0, none⟩) l) {i : Nat} {x : α} {u : Value} (hx : l[i]? = some x) (hk : E.k = 1) (hu : (E.enc x)[0]? = some u) : w.cell? ⟨g, i, none⟩ = some u := by
  obtain ⟨b, o, e, hL⟩ := h.get (List.getElem?_eq_some_iff.1 hx).1
  injection e with e
  injection e with e1 e2 _
  subst e1 e2
  have := hL.2 i x 0 u hx hu
  rwa [hk, Nat.mul_one, Nat.add_zero, Nat.zero_add] at this
set_option maxHeartbeats 8000000 in
set_option maxRecDepth 100000 in
theorem digitNear_any (A0 : Option Addr) (l : List Int) (n0 c0 : Nat) (hl0 : l.length = n0) (hn0 : n0 ≤ 9223372036854775807) (raw : ByteArray) (A2 : Option Addr) (u : List Int) (n2 c2 : Nat) (hl2 : u.length = n2) (hn2 : n2 ≤ 9223372036854775807)
    (w : World) (h0 : IntsAt w A0 l) (h2 : IntsAt w A2 u) :
    Calls Try.prog 8 #[.slice A0 n0 c0, .string raw, .slice A2 n2 c2] w (Yes w) := by
  have CT0 := Lib.hid (text_any l A0 n0 c0 hl0 hn0 w h0)
  have CT2 := Lib.hid (text_any u A2 n2 c2 hl2 hn2 w h2)
  have CSH := Lib.hid (short_any raw w)
  have CL := Lib.hid (fun V => lives_any V)
  clear hl0 hn0 h0 hl2 hn2 h2
  go_enter Try.func8, Try.ntmps8
  go_upto_region 2 with (first
    | (have hx := hm12; go_at_call 23; refine CT0.out.mono ?_; rintro _ _ ⟨s3, rfl, h312, _, rfl⟩; have hcat : ¬ 9223372036854775807 < s2.size + s3.size := (by omega))
    | (have hx := h70; go_at_call 23; refine CT2.out.mono ?_; rintro _ _ ⟨s2, rfl, hm12, _, rfl⟩)
    | (go_at_call 31; refine CSH.out.mono ?_; rintro _ _ ⟨s1, rfl, h70, rfl⟩)
    | (go_at_call 23; refine CT0.out.mono ?_; rintro _ _ ⟨s0, rfl, h012, _, rfl⟩))
  have HP : (s2 ++ s3).size ≤ 24 := by rw [ByteArray.size_append]; omega
  generalize s2 ++ s3 = p at HP ⊢
  have X : Below w.heap.size w (w.alloc (.cells #[.string s0, .string s1, .string p, .string ⟨#[]⟩, .string ⟨#[48]⟩] 9)) := (Below.refl _ _).alloc (Nat.le_refl _) _
  have G : At strE (w.alloc (.cells #[.string s0, .string s1, .string p, .string ⟨#[]⟩, .string ⟨#[48]⟩] 9)) (some ⟨w.heap.size, 0, none⟩) [s0, s1, p, ⟨#[]⟩, ⟨#[48]⟩] := at_new strE w _ _ rfl
  generalize w.alloc _ = V2 at X G ⊢
  generalize hgl : w.heap.size = gl at G ⊢
  clear hgl
  obtain ⟨L, hL⟩ : ∃ L, [s0, s1, p, ⟨#[]⟩, ⟨#[48]⟩] = L := ⟨_, rfl⟩
  have HL5 : Hid (L.length = 5) := Lib.hid (by rw [← hL]; rfl)
  have HLS : Hid (∀ x ∈ L, x.size ≤ 1000) := Lib.hid (by
    rw [← hL]
    intro x hx
    simp only [List.mem_cons, List.not_mem_nil, or_false] at hx
    rcases hx with rfl | rfl | rfl | rfl | rfl <;> first | omega | (show 0 ≤ _; omega) | (show 1 ≤ _; omega))
  rw [hL] at G
  have BA := Lib.hid X
  clear hL HP X CT0 CT2 CSH hcat h312 hm12 h70 h012
  go_wp2
  go_loopw [8] (fun v V => NumRel V2 5 v V) (fun v _ => 5 - (intOf v).toNat)
  case atStart => exact ⟨0, Nat.zero_le _, rfl, Below.refl _ _⟩
  case round =>
  obtain ⟨i, hi, rfl, hB⟩ := hrel
  rcases Nat.lt_or_ge i 5 with hlt | hge
  · have hltz : (i : Int) < 5 := by omega
    obtain ⟨t, ht⟩ : ∃ t, L[i]? = some t := ⟨_, List.getElem?_eq_getElem (by rw [HL5.out]; exact hlt)⟩
    have hts := HLS.out t (List.mem_of_getElem? ht)
    have HC : Hid (∀ V, Below V2.heap.size V2 V → V.cell? ⟨gl, i, none⟩ = some (.string t)) := Lib.hid (fun V hV => lay_cellN (G.keep hV) ht rfl rfl)
    have CN := Lib.hid (fun V => near_any t (by omega) V)
    have CR := Lib.hid (fun V => rnear_any t hts V)
    have HF := Lib.hid (fun x (hx : x ∈ nearT t) => near_facts hx)
    have HS := Lib.hid (near_sorted t)
    have hn6 := near_len t
    generalize nearT t = N at CN CR HF HS hn6
    obtain ⟨n, hn⟩ : ∃ n, N.length = n := ⟨_, rfl⟩
    have HN := Lib.hid hn
    rw [hn] at hn6
    have CS := Lib.hid (fun (qa qb : Option Addr) (c m d : Nat) (hm : N.length = m) (V : World) (hA : At strE V qa N) (hB : At strE V qb N) => (by
      have := sameTexts_any N N qa qb n c m d HN.out hm (by omega) V hA hB
      have e : ∀ i : Decidable (N = N), @decide (N = N) i = true := fun i => decide_eq_true rfl
      rwa [e] at this : Calls Try.prog 32 #[.slice qa n c, .slice qb m d] V (Told V true)))
    have c9 := HC.out _ hB
    clear ht hts hn
    go_upto_region 6 with (go_at_call 28; refine (CN.out _).mono ?_; intro _ w4 h4; obtain ⟨q4, c4, rfl, _, A4, B4⟩ := h4.give HN.out)
    have hB4 := link hB B4
    clear c9 hB B4 h4 CN
    have c9 := HC.out _ hB4
    go_upto_region 8 with (first
      | (go_at_call 32; refine (CS.out _ _ _ _ _ hm5 _ A4 A5).mono ?_; rintro _ w6 ⟨rfl, B6⟩; have hB6 := link hB5 B6; have A4 := A4.keep B6; clear B6 hB5 A5)
      | (go_at_call 33; refine (CR.out _).mono ?_; rintro _ w5 ⟨q5, m5, c5, rfl, hm5, A5, B5⟩; have hB5 := link hB4 B5; have A4 := A4.keep B5; clear B5))
    clear c9 hB4 CR CS hm5
    go_wp2
    obtain ⟨wo, rfl⟩ : ∃ wo : World, wo = wr := ⟨_, rfl⟩
    go_loopw [10] (fun v V => NumRel w6 n v V) (fun v _ => n - (intOf v).toNat)
    case atStart => exact ⟨0, Nat.zero_le _, rfl, Below.refl _ _⟩
    case round =>
    obtain ⟨k, hk, rfl, hB1⟩ := hrel
    generalize wr = W1 at *
    rcases Nat.lt_or_ge k n with hlt2 | hge2
    · have hlt2z : (k : Int) < (n : Int) := by omega
      obtain ⟨y, hy⟩ : ∃ y, N[k]? = some y := ⟨_, List.getElem?_eq_getElem (by rw [HN.out]; exact hlt2)⟩
      obtain ⟨hy0, hys⟩ := HF.out y (List.mem_of_getElem? hy)
      have CC := Lib.hid (fun V => (by have := chk_any y (by omega) V; rwa [hy0] at this : Calls Try.prog 26 #[.string y] V (IntR 0 V)))
      obtain ⟨g4, o4, rfl, hLay⟩ := A4.get (i := k) (by rw [HN.out]; exact hlt2)
      have HC1 : Hid (∀ V, Below w6.heap.size w6 V → ∀ j x, N[j]? = some x → V.cell? ⟨g4, o4 + j, none⟩ = some (.string x)) := Lib.hid (fun V hV j x hx => by
        have := (hLay.keep hV).2 j x 0 _ hx rfl
        rwa [show o4 + j * strE.k + 0 = o4 + j by show o4 + j * 1 + 0 = o4 + j; omega] at this)
      have HC : Hid (∀ V, Below w6.heap.size w6 V → V.cell? ⟨g4, o4 + k, none⟩ = some (.string y)) := Lib.hid (fun V hV => HC1.out V hV k y hy)
      have HY := Lib.hid hy
      clear hy hLay hy0 hys
      rcases k with _ | k0
      · rw [Nat.add_zero] at HC
        clear HC1
        go_upto_region 11 with (fail)
        refine wp_region_held_drew (S := fun w' => Below w6.heap.size w6 w') (by kernel_rfl) (below_drew (hB1)) (fun _ => ?_)
        have hHeld : Below w6.heap.size w6 W1.drew := below_drew (hB1)
        generalize W1.drew = V0 at hHeld ⊢
        refine wt (i := 0) (oi := ⟨some 46, .move (.tmp 9), 49, "law.go:196", #[], none⟩) (v := .slice (some ⟨g4, o4, none⟩) n c4) (Or.inl ⟨by rfl, fun w' hSw => by go_simp⟩) hHeld ?_
        try simp only [zP, zQ, zS, zZ, zC]
        refine wt (i := 1) (oi := ⟨some 47, .move (.tmp 10), 3, "law.go:196", #[], none⟩) (v := .int .i64 0) (Or.inl ⟨by rfl, fun w' hSw => by go_simp⟩) hHeld ?_
        try simp only [zP, zQ, zS, zZ, zC]
        refine wt (i := 2) (oi := ⟨some 48, .indexAddr 49 (.tmp 46) (.tmp 47), 0, "law.go:196", #[⟨0, .data⟩, ⟨1, .data⟩], none⟩) (v := .pointer (some ⟨g4, o4, none⟩)) (Or.inl ⟨by rfl, fun w' hSw => by go_simp⟩) hHeld ?_
        try simp only [zP, zQ, zS, zZ, zC]
        refine wt (i := 3) (oi := ⟨some 49, .load 9 (.tmp 48), 9, "law.go:196", #[⟨2, .data⟩], none⟩) (v := .string y) (Or.inl ⟨by rfl, fun w' hSw => by have c9 := HC.out w' hSw; go_simp⟩) hHeld ?_
        try simp only [zP, zQ, zS, zZ, zC]
        refine wpAnyH_ready (rs := [4]) (by kernel_rfl) (by simp) ?_
        refine AllReadyH.cons (o := ⟨some 50, .call { callee := .value (.func 26), args := #[.tmp 49], argTypes := #[9] }, 26, "law.go:196", #[⟨3, .data⟩], none⟩) rfl (fun K hK => ?_) AllReadyH.nil
        rw [if_pos (by rfl)]
        go_simp
        refine (CC.out _).mono ?_
        rintro en V1 ⟨rfl, hB9⟩
        dsimp only
        refine hK.out _ _ (link hHeld hB9) (fun hHeld => ?_)
        clear hK K
        try simp only [zP, zQ, zS, zZ, zC]
        clear hB9
        refine wt (i := 5) (oi := ⟨some 51, .binOp .neq 26 (.tmp 50) (.const (Value.int IntKind.i64 0)) 26, 4, "law.go:196", #[⟨4, .data⟩], none⟩) (v := .bool false) (Or.inl ⟨by rfl, fun w' hSw => by go_simp⟩) hHeld ?_
        try simp only [zP, zQ, zS, zZ, zC]
        refine wt (i := 6) (oi := ⟨some 52, .move (.tmp 51), 4, "law.go:196", #[⟨5, .data⟩, ⟨4, .chain⟩], none⟩) (v := .bool false) (Or.inl ⟨by rfl, fun w' hSw => by go_simp⟩) hHeld ?_
        try simp only [zP, zQ, zS, zZ, zC]
        refine wt (i := 7) (oi := ⟨some 53, .move (.tmp 10), 3, "law.go:196", #[⟨6, .guard⟩], some (6, false)⟩) (v := .int .i64 0) (Or.inl ⟨by rfl, fun w' hSw => by go_simp⟩) hHeld ?_
        try simp only [zP, zQ, zS, zZ, zC]
        refine wt (i := 8) (oi := ⟨some 54, .binOp .gtr 3 (.tmp 53) (.const (Value.int IntKind.i64 0)) 3, 4, "law.go:196", #[⟨7, .data⟩, ⟨6, .guard⟩], some (6, false)⟩) (v := .bool false) (Or.inl ⟨by rfl, fun w' hSw => by go_simp⟩) hHeld ?_
        try simp only [zP, zQ, zS, zZ, zC]
        refine wt (i := 9) (oi := ⟨some 55, .move (.tmp 54), 4, "law.go:196", #[⟨8, .data⟩, ⟨6, .chain⟩, ⟨6, .guard⟩], some (6, false)⟩) (v := .bool false) (Or.inl ⟨by rfl, fun w' hSw => by go_simp⟩) hHeld ?_
        try simp only [zP, zQ, zS, zZ, zC]
        refine wt (i := 10) (oi := ⟨some 56, .move (.tmp 9), 49, "law.go:196", #[⟨9, .guard⟩], some (9, true)⟩) (v := undef) (Or.inr ⟨by rfl, rfl⟩) hHeld ?_
        try simp only [zP, zQ, zS, zZ, zC]
        refine wt (i := 11) (oi := ⟨some 57, .move (.tmp 10), 3, "law.go:196", #[⟨9, .guard⟩], some (9, true)⟩) (v := undef) (Or.inr ⟨by rfl, rfl⟩) hHeld ?_
        try simp only [zP, zQ, zS, zZ, zC]
        refine wt (i := 12) (oi := ⟨some 58, .binOp .sub 3 (.tmp 57) (.const (Value.int IntKind.i64 1)) 3, 3, "law.go:196", #[⟨11, .data⟩, ⟨9, .guard⟩], some (9, true)⟩) (v := undef) (Or.inr ⟨by rfl, rfl⟩) hHeld ?_
        try simp only [zP, zQ, zS, zZ, zC]
        refine wt (i := 13) (oi := ⟨some 59, .call { callee := .builtin .max, args := #[.tmp 58, .const (Value.int IntKind.i64 0)], argTypes := #[3, 3] }, 3, "law.go:196", #[⟨12, .data⟩, ⟨9, .guard⟩], some (9, true)⟩) (v := undef) (Or.inr ⟨by rfl, rfl⟩) hHeld ?_
        try simp only [zP, zQ, zS, zZ, zC]
        refine wt (i := 14) (oi := ⟨some 60, .indexAddr 49 (.tmp 56) (.tmp 59), 0, "law.go:196", #[⟨10, .data⟩, ⟨13, .data⟩, ⟨9, .guard⟩], some (9, true)⟩) (v := undef) (Or.inr ⟨by rfl, rfl⟩) hHeld ?_
        try simp only [zP, zQ, zS, zZ, zC]
        refine wt (i := 15) (oi := ⟨some 61, .load 9 (.tmp 60), 9, "law.go:196", #[⟨14, .data⟩, ⟨9, .guard⟩], some (9, true)⟩) (v := undef) (Or.inr ⟨by rfl, rfl⟩) hHeld ?_
        try simp only [zP, zQ, zS, zZ, zC]
        refine wt (i := 16) (oi := ⟨some 62, .move (.tmp 9), 49, "law.go:196", #[⟨9, .guard⟩], some (9, true)⟩) (v := undef) (Or.inr ⟨by rfl, rfl⟩) hHeld ?_
        try simp only [zP, zQ, zS, zZ, zC]
        refine wt (i := 17) (oi := ⟨some 63, .move (.tmp 10), 3, "law.go:196", #[⟨9, .guard⟩], some (9, true)⟩) (v := undef) (Or.inr ⟨by rfl, rfl⟩) hHeld ?_
        try simp only [zP, zQ, zS, zZ, zC]
        refine wt (i := 18) (oi := ⟨some 64, .indexAddr 49 (.tmp 62) (.tmp 63), 0, "law.go:196", #[⟨16, .data⟩, ⟨17, .data⟩, ⟨9, .guard⟩], some (9, true)⟩) (v := undef) (Or.inr ⟨by rfl, rfl⟩) hHeld ?_
        try simp only [zP, zQ, zS, zZ, zC]
        refine wt (i := 19) (oi := ⟨some 65, .load 9 (.tmp 64), 9, "law.go:196", #[⟨18, .data⟩, ⟨9, .guard⟩], some (9, true)⟩) (v := undef) (Or.inr ⟨by rfl, rfl⟩) hHeld ?_
        try simp only [zP, zQ, zS, zZ, zC]
        refine wt (i := 20) (oi := ⟨some 66, .binOp .geq 9 (.tmp 61) (.tmp 65) 9, 4, "law.go:196", #[⟨15, .data⟩, ⟨19, .data⟩, ⟨9, .guard⟩], some (9, true)⟩) (v := undef) (Or.inr ⟨by rfl, rfl⟩) hHeld ?_
        try simp only [zP, zQ, zS, zZ, zC]
        refine wt (i := 21) (oi := ⟨some 67, .pick (.tmp 55) (.tmp 66) (.const (Value.bool false)), 4, "law.go:196", #[⟨9, .data⟩, ⟨20, .data⟩, ⟨6, .guard⟩], some (6, false)⟩) (v := .bool false) (Or.inl ⟨by rfl, fun w' hSw => by go_simp⟩) hHeld ?_
        try simp only [zP, zQ, zS, zZ, zC]
        refine wt (i := 22) (oi := ⟨some 68, .pick (.tmp 52) (.const (Value.bool true)) (.tmp 67), 4, "law.go:196", #[⟨6, .data⟩, ⟨21, .data⟩], none⟩) (v := .bool false) (Or.inl ⟨by rfl, fun w' hSw => by go_simp⟩) hHeld ?_
        try simp only [zP, zQ, zS, zZ, zC]
        refine wpAnyH_done (by kernel_rfl) ?_ _
        have B4 := hHeld
        clear hHeld 
        go_wp2
        exact ⟨⟨1, by omega, by first | rfl | go_num, B4⟩, by simp [intOf]; omega⟩
      · obtain ⟨x, hx⟩ : ∃ x, N[k0]? = some x := ⟨_, List.getElem?_eq_getElem (by rw [HN.out]; omega)⟩
        have hlt9 := srt_next HS.out hx HY.out
        have hle9 : Op.bytesLess x.toList y.toList = true := by rw [less_eq]; exact hlt9
        have HC0 : Hid (∀ V, Below w6.heap.size w6 V → V.cell? ⟨g4, o4 + k0, none⟩ = some (.string x)) := Lib.hid (fun V hV => HC1.out V hV k0 x hx)
        obtain ⟨k, hk1⟩ : ∃ k, k0 + 1 = k := ⟨_, rfl⟩
        rw [hk1] at HC hlt2z hk hlt2 ⊢
        have hkz : (k : Int) - 1 = (k0 : Int) := by omega
        have hk0n : (k0 : Int) < (n : Int) := by omega
        have hkp : 0 < (k : Int) := by omega
        have hkp2 : 0 < k := by omega
        have HK1 := Lib.hid hk1
        clear HC1 hx hlt9 hk1
        go_upto_region 11 with (fail)
        refine wp_region_held_drew (S := fun w' => Below w6.heap.size w6 w') (by kernel_rfl) (below_drew (hB1)) (fun _ => ?_)
        have hHeld : Below w6.heap.size w6 W1.drew := below_drew (hB1)
        generalize W1.drew = V0 at hHeld ⊢
        refine wt (i := 0) (oi := ⟨some 46, .move (.tmp 9), 49, "law.go:196", #[], none⟩) (v := .slice (some ⟨g4, o4, none⟩) n c4) (Or.inl ⟨by rfl, fun w' hSw => by go_simp⟩) hHeld ?_
        try simp only [zP, zQ, zS, zZ, zC]
        refine wt (i := 1) (oi := ⟨some 47, .move (.tmp 10), 3, "law.go:196", #[], none⟩) (v := .int .i64 (k : Int)) (Or.inl ⟨by rfl, fun w' hSw => by go_simp⟩) hHeld ?_
        try simp only [zP, zQ, zS, zZ, zC]
        refine wt (i := 2) (oi := ⟨some 48, .indexAddr 49 (.tmp 46) (.tmp 47), 0, "law.go:196", #[⟨0, .data⟩, ⟨1, .data⟩], none⟩) (v := .pointer (some ⟨g4, o4 + k, none⟩)) (Or.inl ⟨by rfl, fun w' hSw => by go_simp⟩) hHeld ?_
        try simp only [zP, zQ, zS, zZ, zC]
        refine wt (i := 3) (oi := ⟨some 49, .load 9 (.tmp 48), 9, "law.go:196", #[⟨2, .data⟩], none⟩) (v := .string y) (Or.inl ⟨by rfl, fun w' hSw => by have c9 := HC.out w' hSw; go_simp⟩) hHeld ?_
        try simp only [zP, zQ, zS, zZ, zC]
        refine wpAnyH_ready (rs := [4]) (by kernel_rfl) (by simp) ?_
        refine AllReadyH.cons (o := ⟨some 50, .call { callee := .value (.func 26), args := #[.tmp 49], argTypes := #[9] }, 26, "law.go:196", #[⟨3, .data⟩], none⟩) rfl (fun K hK => ?_) AllReadyH.nil
        rw [if_pos (by rfl)]
        go_simp
        refine (CC.out _).mono ?_
        rintro en V1 ⟨rfl, hB9⟩
        dsimp only
        refine hK.out _ _ (link hHeld hB9) (fun hHeld => ?_)
        clear hK K
        try simp only [zP, zQ, zS, zZ, zC]
        clear hB9
        refine wt (i := 5) (oi := ⟨some 51, .binOp .neq 26 (.tmp 50) (.const (Value.int IntKind.i64 0)) 26, 4, "law.go:196", #[⟨4, .data⟩], none⟩) (v := .bool false) (Or.inl ⟨by rfl, fun w' hSw => by go_simp⟩) hHeld ?_
        try simp only [zP, zQ, zS, zZ, zC]
        refine wt (i := 6) (oi := ⟨some 52, .move (.tmp 51), 4, "law.go:196", #[⟨5, .data⟩, ⟨4, .chain⟩], none⟩) (v := .bool false) (Or.inl ⟨by rfl, fun w' hSw => by go_simp⟩) hHeld ?_
        try simp only [zP, zQ, zS, zZ, zC]
        refine wt (i := 7) (oi := ⟨some 53, .move (.tmp 10), 3, "law.go:196", #[⟨6, .guard⟩], some (6, false)⟩) (v := .int .i64 (k : Int)) (Or.inl ⟨by rfl, fun w' hSw => by go_simp⟩) hHeld ?_
        try simp only [zP, zQ, zS, zZ, zC]
        refine wt (i := 8) (oi := ⟨some 54, .binOp .gtr 3 (.tmp 53) (.const (Value.int IntKind.i64 0)) 3, 4, "law.go:196", #[⟨7, .data⟩, ⟨6, .guard⟩], some (6, false)⟩) (v := .bool true) (Or.inl ⟨by rfl, fun w' hSw => by go_simp⟩) hHeld ?_
        try simp only [zP, zQ, zS, zZ, zC]
        refine wt (i := 9) (oi := ⟨some 55, .move (.tmp 54), 4, "law.go:196", #[⟨8, .data⟩, ⟨6, .chain⟩, ⟨6, .guard⟩], some (6, false)⟩) (v := .bool true) (Or.inl ⟨by rfl, fun w' hSw => by go_simp⟩) hHeld ?_
        try simp only [zP, zQ, zS, zZ, zC]
        refine wt (i := 10) (oi := ⟨some 56, .move (.tmp 9), 49, "law.go:196", #[⟨9, .guard⟩], some (9, true)⟩) (v := .slice (some ⟨g4, o4, none⟩) n c4) (Or.inl ⟨by rfl, fun w' hSw => by go_simp⟩) hHeld ?_
        try simp only [zP, zQ, zS, zZ, zC]
        refine wt (i := 11) (oi := ⟨some 57, .move (.tmp 10), 3, "law.go:196", #[⟨9, .guard⟩], some (9, true)⟩) (v := .int .i64 (k : Int)) (Or.inl ⟨by rfl, fun w' hSw => by go_simp⟩) hHeld ?_
        try simp only [zP, zQ, zS, zZ, zC]
        refine wt (i := 12) (oi := ⟨some 58, .binOp .sub 3 (.tmp 57) (.const (Value.int IntKind.i64 1)) 3, 3, "law.go:196", #[⟨11, .data⟩, ⟨9, .guard⟩], some (9, true)⟩) (v := .int .i64 (k0 : Int)) (Or.inl ⟨by rfl, fun w' hSw => by go_simp; first | done | exact wrap_in (by omega) (by omega) | omega⟩) hHeld ?_
        try simp only [zP, zQ, zS, zZ, zC]
        refine wt (i := 13) (oi := ⟨some 59, .call { callee := .builtin .max, args := #[.tmp 58, .const (Value.int IntKind.i64 0)], argTypes := #[3, 3] }, 3, "law.go:196", #[⟨12, .data⟩, ⟨9, .guard⟩], some (9, true)⟩) (v := .int .i64 (k0 : Int)) (Or.inl ⟨by rfl, fun w' hSw => by go_simp; first | done | omega | (simp; omega)⟩) hHeld ?_
        try simp only [zP, zQ, zS, zZ, zC]
        refine wt (i := 14) (oi := ⟨some 60, .indexAddr 49 (.tmp 56) (.tmp 59), 0, "law.go:196", #[⟨10, .data⟩, ⟨13, .data⟩, ⟨9, .guard⟩], some (9, true)⟩) (v := .pointer (some ⟨g4, o4 + k0, none⟩)) (Or.inl ⟨by rfl, fun w' hSw => by go_simp⟩) hHeld ?_
        try simp only [zP, zQ, zS, zZ, zC]
        refine wt (i := 15) (oi := ⟨some 61, .load 9 (.tmp 60), 9, "law.go:196", #[⟨14, .data⟩, ⟨9, .guard⟩], some (9, true)⟩) (v := .string x) (Or.inl ⟨by rfl, fun w' hSw => by have c9 := HC0.out w' hSw; go_simp⟩) hHeld ?_
        try simp only [zP, zQ, zS, zZ, zC]
        refine wt (i := 16) (oi := ⟨some 62, .move (.tmp 9), 49, "law.go:196", #[⟨9, .guard⟩], some (9, true)⟩) (v := .slice (some ⟨g4, o4, none⟩) n c4) (Or.inl ⟨by rfl, fun w' hSw => by go_simp⟩) hHeld ?_
        try simp only [zP, zQ, zS, zZ, zC]
        refine wt (i := 17) (oi := ⟨some 63, .move (.tmp 10), 3, "law.go:196", #[⟨9, .guard⟩], some (9, true)⟩) (v := .int .i64 (k : Int)) (Or.inl ⟨by rfl, fun w' hSw => by go_simp⟩) hHeld ?_
        try simp only [zP, zQ, zS, zZ, zC]
        refine wt (i := 18) (oi := ⟨some 64, .indexAddr 49 (.tmp 62) (.tmp 63), 0, "law.go:196", #[⟨16, .data⟩, ⟨17, .data⟩, ⟨9, .guard⟩], some (9, true)⟩) (v := .pointer (some ⟨g4, o4 + k, none⟩)) (Or.inl ⟨by rfl, fun w' hSw => by go_simp⟩) hHeld ?_
        try simp only [zP, zQ, zS, zZ, zC]
        refine wt (i := 19) (oi := ⟨some 65, .load 9 (.tmp 64), 9, "law.go:196", #[⟨18, .data⟩, ⟨9, .guard⟩], some (9, true)⟩) (v := .string y) (Or.inl ⟨by rfl, fun w' hSw => by have c9 := HC.out w' hSw; go_simp⟩) hHeld ?_
        try simp only [zP, zQ, zS, zZ, zC]
        refine wt (i := 20) (oi := ⟨some 66, .binOp .geq 9 (.tmp 61) (.tmp 65) 9, 4, "law.go:196", #[⟨15, .data⟩, ⟨19, .data⟩, ⟨9, .guard⟩], some (9, true)⟩) (v := .bool false) (Or.inl ⟨by rfl, fun w' hSw => by go_simp⟩) hHeld ?_
        try simp only [zP, zQ, zS, zZ, zC]
        refine wt (i := 21) (oi := ⟨some 67, .pick (.tmp 55) (.tmp 66) (.const (Value.bool false)), 4, "law.go:196", #[⟨9, .data⟩, ⟨20, .data⟩, ⟨6, .guard⟩], some (6, false)⟩) (v := .bool false) (Or.inl ⟨by rfl, fun w' hSw => by go_simp⟩) hHeld ?_
        try simp only [zP, zQ, zS, zZ, zC]
        refine wt (i := 22) (oi := ⟨some 68, .pick (.tmp 52) (.const (Value.bool true)) (.tmp 67), 4, "law.go:196", #[⟨6, .data⟩, ⟨21, .data⟩], none⟩) (v := .bool false) (Or.inl ⟨by rfl, fun w' hSw => by go_simp⟩) hHeld ?_
        try simp only [zP, zQ, zS, zZ, zC]
        refine wpAnyH_done (by kernel_rfl) ?_ _
        have B4 := hHeld
        clear hHeld 
        go_wp2
        exact ⟨⟨k + 1, by omega, by first | rfl | go_num, B4⟩, by simp [intOf]; omega⟩
    · obtain rfl : k = n := by omega
      have hgez : ¬ (k : Int) < (k : Int) := by omega
      go_wp2
      exact ⟨⟨i + 1, by omega, by go_num, link hB6 hB1⟩, by simp [intOf]; omega⟩
  · obtain rfl : i = 5 := by omega
    go_wp2_with (go_at_call 16; refine (CL.out _).mono ?_; rintro _ w9 ⟨rfl, B9⟩)
    go_ret
    exact ⟨rfl, link BA.out (link hB B9)⟩
end Go.Proofs.Ytjpiidfoegaenaa
