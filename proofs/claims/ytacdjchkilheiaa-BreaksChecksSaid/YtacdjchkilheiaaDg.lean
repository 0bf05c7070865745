/-
  BreaksCosts: its walk.
-/
import Derived.Test.YtacdjchkilheiaaDe
import Derived.Test.YtacdjchkilheiaaDf
import Derived.Test.YtacdjchkilheiaaCm
import Derived.Test.YtacdjchkilheiaaCc
namespace Go.Proofs.Ytacdjchkilheiaa
open Go.RowKit
set_option linter.unusedVariables false
set_option linter.unusedSimpArgs false

/-- A slice of integers, of whatever length. -/
def IntsX (w : World) (s : Option Addr × Nat × Nat) : Prop := ∃ l : List Int, l.length = s.2.1 ∧ IntsAt w s.1 l ∧ s.2.1 ≤ 9223372036854775807
theorem six {w : World} {a b c d e f : Option Addr × Nat × Nat} (ha : IntsX w a) (hb : IntsX w b) (hc : IntsX w c) (hd : IntsX w d) (he : IntsX w e) (hf : IntsX w f) : ∀ s ∈ [a, b, c, d, e, f], IntsX w s := by
  intro s hs
  simp only [List.mem_cons, List.not_mem_nil, or_false] at hs
  rcases hs with rfl | rfl | rfl | rfl | rfl | rfl <;> assumption
theorem fld_ends (q : Option Addr) (n c : Nat) (b d : Value) (V : World) : (Instr.field 32 (Value.agg #[.slice q n c, b, d]) 0).run Try.prog V = .ok (.slice q n c) V := rfl
def LaidN (N : Nat) (W : World) (s : Value) (wx : World) : Prop := ∃ (g : Nat) (S : List (Option Addr × Nat × Nat)), s = .slice (some ⟨g, 0, none⟩) N N ∧ S.length = N ∧ At slE wx (some ⟨g, 0, none⟩) S ∧ (∀ s ∈ S, IntsX wx s) ∧ Below W.heap.size W wx
/-- The numbers of Fill are small. -/
theorem fill_few {L : List Int} (hT : Tens L) {bl wd : Int} {E Lf Cf : List Int} {k : Int} (h : fillA L bl wd = (E, Lf, Cf, k)) : Few E ∧ Few Lf ∧ Few Cf := by
  have nil : Few [] := fun x hx => by cases hx
  by_cases he : errT L bl wd = 0
  · rcases hw : wideT L wd with _ | _
    · have hF := fine_of he
      have hG := good_fill hF hw
      have h9 := hT.1
      rw [fillA_good hF hw] at h
      injection h with h1 h
      injection h with h2 h
      injection h with h3 _
      subst h1 h2 h3
      have hok := (fill_ok (best_fill hF hw) (N := (fillT L bl wd).2.2) (fun j hj => rfl) L.length 0 (Nat.zero_le _) (by omega)).1
      refine ⟨fun x hx => by have := ok_mem hok x hx; omega, fun x hx => ?_, fun x hx => ?_⟩
      · obtain ⟨j, hj⟩ := List.getElem?_of_mem hx
        have hjl := (List.getElem?_eq_some_iff.1 hj).1
        have := hG.2.2.2.1 j (by rw [hG.1] at hjl; omega)
        rw [List.getD_eq_getElem?_getD, hj] at this
        have h1 := this.1
        have h2 := this.2.1
        have h1 : 0 ≤ x := h1
        have h2 : x ≤ _ := h2
        omega
      · obtain ⟨j, hj⟩ := List.getElem?_of_mem hx
        have hjl := (List.getElem?_eq_some_iff.1 hj).1
        have := hG.2.2.2.1 j (by rw [hG.2.1] at hjl; omega)
        rw [List.getD_eq_getElem?_getD (l := (fillT L bl wd).2.1), hj] at this
        have h1 := this.2.2.1
        have h2 := this.2.2.2
        have h1 : 0 ≤ x := h1
        have h2 : x ≤ _ := h2
        omega
    · have e : fillA L bl wd = ([], [], [], 21) := by unfold fillA; rw [if_pos he, if_pos hw]
      rw [e] at h
      injection h with h1 h
      injection h with h2 h
      injection h with h3 _
      subst h1 h2 h3
      exact ⟨nil, nil, nil⟩
  · have e : fillA L bl wd = ([], [], [], errT L bl wd) := by unfold fillA; rw [if_neg he]
    rw [e] at h
    injection h with h1 h
    injection h with h2 h
    injection h with h3 _
    subst h1 h2 h3
    exact ⟨nil, nil, nil⟩
theorem rfill_g {q : Option Addr} {l : List Int} {n c : Nat} (hl : l.length = n) (hn : n ≤ 1000000000000) {bl wd : Int} {V : World} (hA : IntsAt V q l) {E L C : List Int} {k : Int} (h : fillA l bl wd = (E, L, C, k)) {ne nl nc : Nat} (h1 : E.length = ne) (h2 : L.length = nl) (h3 : C.length = nc) (g1 : ne ≤ 1000000000000) (g2 : nl ≤ 1000000000000) (g3 : nc ≤ 1000000000000) :
    Calls Try.prog 11 #[.slice q n c, .int .i64 bl, .int .i64 wd] V (CertG E L C ne nl nc k V) := by
  have := rfill_any q l n c hl hn bl wd V hA
  rw [h] at this
  exact this.mono (fun _ _ g => g.give h1 h2 h3 g1 g2 g3)

set_option maxHeartbeats 8000000 in
set_option maxRecDepth 100000 in
theorem breaksCosts_any (A : Option Addr) (l : List Int) (n0 c0 : Nat) (hl : l.length = n0) (n m0 bits : Int) (A2 : Option Addr) (l2 : List Int) (n2 c2 : Nat) (hl2 : l2.length = n2) (hn2 : n2 ≤ 9223372036854775807) (h1 : -9223372036854775808 ≤ n) (h2 : n ≤ 9223372036854775807) (h3 : -9223372036854775808 ≤ m0) (h4 : m0 ≤ 9223372036854775807) (h5 : -9223372036854775808 ≤ bits) (h6 : bits ≤ 9223372036854775807) (w : World) (hA : IntsAt w A l) (hA2 : IntsAt w A2 l2) :
    Calls Try.prog 4 #[.slice A n0 c0, .int .i64 n, .int .i64 m0, .int .i64 bits, .slice A2 n2 c2] w (Told w true) := by
  have HPg := Lib.hid (page_any n m0 h1 h2 h3 h4 w)
  have HWi := Lib.hid (fun (V : World) (h : Below w.heap.size w V) => (widths_any A l n0 c0 hl V (hA.keep h)))
  have HA2 := Lib.hid (fun (V : World) (h : Below w.heap.size w V) => hA2.keep h)
  have HLv := Lib.hid (fun V : World => lives_any V)
  have HN2 := Lib.hid hl2
  clear hl hl2 h3 h4 hA hA2
  go_enter Try.func4, Try.ntmps4
  go_upto_region 2 with (go_at_call 8; refine HPg.out.mono ?_; rintro en W1 ⟨bl, wd, rfl, hbl, hwd, hB⟩)
  have HWi := Lib.hid (HWi.out W1 hB)
  go_upto_region 3 with (go_at_call 9; refine HWi.out.mono ?_; rintro en W2 ⟨L, hT, v, rfl, hO, hB2⟩; obtain ⟨q, c, rfl, hc, hAt, _, _⟩ := hO.form)
  replace hB := link hB hB2
  obtain ⟨nw, hnw⟩ : ∃ nw, L.length = nw := ⟨_, rfl⟩
  rw [hnw] at hc
  rw [hnw]
  have hnw9 : nw ≤ 9 := by have := hT.1; omega
  obtain ⟨E, Lf, Cf, k0, hfi, hE9, hL9, hC9, _⟩ := fill_law hT bl wd
  obtain ⟨fE, fL, fC⟩ := fill_few hT hfi
  obtain ⟨ne, hne⟩ : ∃ ne, E.length = ne := ⟨_, rfl⟩
  obtain ⟨nl, hnl⟩ : ∃ ne, Lf.length = ne := ⟨_, rfl⟩
  obtain ⟨nc, hnc⟩ : ∃ ne, Cf.length = ne := ⟨_, rfl⟩
  have HFi := Lib.hid (rfill_g (c := c) hnw (by omega) (hAt.ints (tens_few hT)) hfi hne hnl hnc (by omega) (by omega) (by omega))
  have HAt := Lib.hid (fun (V : World) (h : Below W2.heap.size W2 V) => (hAt.keep h).ints (tens_few hT))
  clear hO hAt HPg HWi hB2 hfi hbl hwd
  go_upto_region 4 with (first
    | (go_at_call 11; refine HFi.out.mono ?_; rintro en W3 ⟨qe, ql, qc, ce, cl, cc, rfl, hCt3, hB3⟩)
    | (refine store_blk rfl 32 (.tmp 14) (.tmp 37) rfl (blk_new W3 32 zeroCt.toArray) rfl rfl (vs := [.slice qe ne ce, .slice ql nl cl, .slice qc nc cc]) (m := 3) (by kernel_rfl) rfl rfl (by intro v hv; simp at hv; rcases hv with rfl | rfl | rfl <;> rfl) ?_; intro W4 K2 O2))
  try simp only [zP, zQ, zS, zZ, zC]
  have X2 : Below W3.heap.size W3 W4 := O2.2.2 _ _ (Nat.le_refl _) ((Below.refl _ _).alloc (Nat.le_refl _) _)
  have XB := Lib.hid (link (link hB hB3) X2)
  have HAt := Lib.hid (fun (V : World) (h : Below W4.heap.size W4 V) => HAt.out V (link (link hB3 X2) h))
  have HA2 := Lib.hid (fun (V : World) (h : Below W4.heap.size W4 V) => HA2.out V (link XB.out h))
  obtain ⟨cb, hcb⟩ : ∃ cb, W3.heap.size = cb := ⟨_, rfl⟩
  rw [hcb] at K2
  rw [hcb]
  have hCt := hCt3.keep X2
  have HCR := Lib.hid (fun (V : World) (h : Below W4.heap.size W4 V) => (by have := (K2.keep h).range 0 3; exact this : V.rangeAt cb 0 [.slice qe ne ce, .slice ql nl cl, .slice qc nc cc]))
  have HC0 := Lib.hid (fun (V : World) (h : Below W4.heap.size W4 V) => (K2.keep h).cell (j := 0) rfl)
  have HE := Lib.hid (fun (V : World) (h : Below W4.heap.size W4 V) => hCt.2.2.2.2.2.2.1.keep h)
  have HEn := Lib.hid (fun V : World => ends_any nw hnw9 bits V)
  have HBt := Lib.hid (fun (V : World) (h : Below W4.heap.size W4 V) => bent_any qe ne ce ql nl cl qc nc cc E Lf Cf hne hnl hnc 10 (by omega) (by omega) (by omega) (by omega) fE fL fC bits n h5 h6 h1 h2 V (hCt.2.2.2.2.2.2.1.keep h) (hCt.2.2.2.2.2.2.2.1.keep h) (hCt.2.2.2.2.2.2.2.2.keep h))
  have HNe := Lib.hid hne
  have hne9 : ne ≤ 10 := by omega
  have HNw := Lib.hid hnw
  clear O2 X2 K2 hB hB3 hcb hCt3 hCt HFi h1 h2 h5 h6 hne hnl hnc hnw
  go_cut [16] from 16 to 55 (fun s wx => LaidN 6 W4 s wx)
  case first =>
    refine wp_region_held_drew (S := fun w' => Below W4.heap.size W4 w') (by kernel_rfl) (below_drew (Below.refl _ _)) (fun _ => ?_)
    have hHeld : Below W4.heap.size W4 W4.drew := below_drew (Below.refl _ _)
    generalize W4.drew = V0 at hHeld ⊢
    refine wt (i := 0) (oi := ⟨some 39, .fieldAddr 32 (.tmp 14) 0, 0, "law.go:69", #[], none⟩) (v := .pointer (some ⟨cb, 0, none⟩)) (Or.inl ⟨by rfl, fun w' hSw => by go_simp⟩) hHeld ?_
    try simp only [zP, zQ, zS, zZ, zC]
    refine wt (i := 1) (oi := ⟨some 40, .load 22 (.tmp 39), 22, "law.go:69", #[⟨0, .data⟩], none⟩) (v := .slice qe ne ce) (Or.inl ⟨by rfl, fun w' hSw => by have hc := HC0.out w' hSw; go_simp⟩) hHeld ?_
    try simp only [zP, zQ, zS, zZ, zC]
    refine wt (i := 2) (oi := ⟨some 41, .move (.tmp 13), 22, "law.go:69", #[], none⟩) (v := .slice q nw c) (Or.inl ⟨by rfl, fun w' hSw => by go_simp⟩) hHeld ?_
    try simp only [zP, zQ, zS, zZ, zC]
    refine wt (i := 3) (oi := ⟨some 42, .call { callee := .builtin .len, args := #[.tmp 41], argTypes := #[22] }, 3, "law.go:69", #[⟨2, .data⟩], none⟩) (v := .int .i64 (nw : Int)) (Or.inl ⟨by rfl, fun w' hSw => by go_simp⟩) hHeld ?_
    try simp only [zP, zQ, zS, zZ, zC]
    refine wt (i := 4) (oi := ⟨some 43, .move (.tmp 3), 3, "law.go:69", #[], none⟩) (v := .int .i64 bits) (Or.inl ⟨by rfl, fun w' hSw => by go_simp⟩) hHeld ?_
    try simp only [zP, zQ, zS, zZ, zC]
    refine wt (i := 6) (oi := ⟨some 45, .move (.tmp 4), 22, "law.go:69", #[], none⟩) (v := .slice A2 n2 c2) (Or.inl ⟨by rfl, fun w' hSw => by go_simp⟩) hHeld ?_
    try simp only [zP, zQ, zS, zZ, zC]
    refine wt (i := 7) (oi := ⟨some 46, .load 32 (.tmp 14), 32, "law.go:69", #[], none⟩) (v := _) (yieldsIf_load_mid (by rfl) _ _ rfl cb (0) rfl [.slice qe ne ce, .slice ql nl cl, .slice qc nc cc] _ (fun w' hSw => HCR.out w' hSw) Try.underlying32 rfl (by kernel_rfl)) hHeld ?_
    try simp only [zP, zQ, zS, zZ, zC]
    refine wt (i := 8) (oi := ⟨some 47, .move (.tmp 3), 3, "law.go:69", #[], none⟩) (v := .int .i64 bits) (Or.inl ⟨by rfl, fun w' hSw => by go_simp⟩) hHeld ?_
    try simp only [zP, zQ, zS, zZ, zC]
    refine wt (i := 9) (oi := ⟨some 48, .move (.tmp 1), 3, "law.go:69", #[], none⟩) (v := .int .i64 n) (Or.inl ⟨by rfl, fun w' hSw => by go_simp⟩) hHeld ?_
    try simp only [zP, zQ, zS, zZ, zC]
    refine wt (i := 12) (oi := ⟨some 51, .move (.tmp 13), 22, "law.go:69", #[], none⟩) (v := .slice q nw c) (Or.inl ⟨by rfl, fun w' hSw => by go_simp⟩) hHeld ?_
    try simp only [zP, zQ, zS, zZ, zC]
    refine wt (i := 13) (oi := ⟨some 52, .call { callee := .builtin .len, args := #[.tmp 51], argTypes := #[22] }, 3, "law.go:69", #[⟨12, .data⟩], none⟩) (v := .int .i64 (nw : Int)) (Or.inl ⟨by rfl, fun w' hSw => by go_simp⟩) hHeld ?_
    try simp only [zP, zQ, zS, zZ, zC]
    refine wpAnyH_ready (rs := [5, 14]) (by kernel_rfl) (by simp) ?_
    refine AllReadyH.cons (o := ⟨some 44, .call { callee := .value (.func 18), args := #[.tmp 42, .tmp 43], argTypes := #[3, 3] }, 22, "law.go:69", #[⟨3, .data⟩, ⟨4, .data⟩], none⟩) rfl (fun K hK => ?_) (AllReadyH.cons (o := ⟨some 53, .buildSlice 22 1 #[(0, .tmp 52)], 22, "law.go:69", #[⟨13, .data⟩], none⟩) rfl (fun K hK => ?_) AllReadyH.nil)
    · skip
      rw [if_pos (by rfl)]
      go_simp
      refine (HEn.out V0).mono ?_
      rintro en V1 ⟨L2, hL2, hL2b, v2, rfl, hO2, hB9⟩
      obtain ⟨q2, k2, rfl, _, F2, _, _⟩ := hO2.form
      obtain ⟨n3, hn3⟩ : ∃ n3, L2.length = n3 := ⟨_, rfl⟩
      rw [hn3] at hL2 ⊢
      clear hO2
      dsimp only
      refine hK.out _ _ (link hHeld hB9) (fun hHeld => ?_)
      clear hK K
      try simp only [zP, zQ, zS, zZ, zC]
      clear hB9
      refine wpAnyH_ready (rs := [10, 14]) (by kernel_rfl) (by simp) ?_
      refine AllReadyH.cons (o := ⟨some 49, .call { callee := .value (.func 19), args := #[.tmp 46, .tmp 47, .tmp 48], argTypes := #[32, 3, 3] }, 32, "law.go:69", #[⟨7, .data⟩, ⟨8, .data⟩, ⟨9, .data⟩, ⟨5, .chain⟩], none⟩) rfl (fun K hK => ?_) (AllReadyH.cons (o := ⟨some 53, .buildSlice 22 1 #[(0, .tmp 52)], 22, "law.go:69", #[⟨13, .data⟩], none⟩) rfl (fun K hK => ?_) AllReadyH.nil)
      · skip
        rw [if_pos (by rfl)]
        go_simp
        refine (HBt.out V1 hHeld).mono ?_
        rintro en V2 ⟨E5, L5, C5, qe5, ql5, qc5, ne5, nl5, nc5, ce5, cl5, cc5, rfl, hCt5, hm5, _, _, fE5, _, _, hB9⟩
        obtain ⟨hl5, _, _, _, _, _, F5, _, _⟩ := hCt5
        dsimp only
        replace F2 := F2.keep hB9
        refine hK.out _ _ (link hHeld hB9) (fun hHeld => ?_)
        clear hK K
        try simp only [zP, zQ, zS, zZ, zC]
        clear hB9
        refine wt (i := 11) (oi := ⟨some 50, .field 32 (.tmp 49) 0, 22, "law.go:69", #[⟨10, .data⟩], none⟩) (v := .slice qe5 ne5 ce5) (Or.inl ⟨by rfl, fun w' hSw => by have hf := fld_ends qe5 ne5 ce5 (.slice ql5 nl5 cl5) (.slice qc5 nc5 cc5) w'; go_simp⟩) hHeld ?_
        try simp only [zP, zQ, zS, zZ, zC]
        refine wpAnyH_ready (rs := [14]) (by kernel_rfl) (by simp) ?_
        refine AllReadyH.cons (o := ⟨some 53, .buildSlice 22 1 #[(0, .tmp 52)], 22, "law.go:69", #[⟨13, .data⟩], none⟩) rfl (fun K hK => ?_) AllReadyH.nil
        rw [if_pos (by rfl)]
        go_simp
        have F6 : At intE (World.alloc V2 (.cells #[.int .i64 (nw : Int)] 3)) (some ⟨V2.heap.size, 0, none⟩) [(nw : Int)] := at_new intE V2 _ _ rfl
        have X : Below V2.heap.size V2 (World.alloc V2 (.cells #[.int .i64 (nw : Int)] 3)) := (Below.refl _ _).alloc (Nat.le_refl _) _
        replace F2 := F2.keep X
        replace F5 := F5.keep X
        refine hK.out _ _ (link hHeld X) (fun hHeld => ?_)
        clear hK K
        try simp only [zP, zQ, zS, zZ, zC]
        clear X
        generalize World.alloc V2 _ = V3 at F6 F2 F5 hHeld ⊢
        generalize V2.heap.size = x6 at F6 ⊢
        refine wpAnyH_ready (rs := [15]) (by kernel_rfl) (by simp) ?_
        refine AllReadyH.cons (o := ⟨some 54, .buildSlice 26 6 #[(0, .tmp 40), (1, .tmp 44), (2, .tmp 45), (3, .tmp 50), (4, .const (Value.slice none 0 0)), (5, .tmp 53)], 26, "law.go:69", #[⟨1, .data⟩, ⟨5, .data⟩, ⟨6, .data⟩, ⟨11, .data⟩, ⟨14, .data⟩], none⟩) rfl (fun K hK => ?_) AllReadyH.nil
        rw [if_pos (by rfl)]
        go_simp
        have X : Below V3.heap.size V3 (World.alloc V3 (.cells #[.slice qe ne ce, .slice q2 n3 k2, .slice A2 n2 c2, .slice qe5 ne5 ce5, .slice none 0 0, .slice (some ⟨x6, 0, none⟩) 1 1] 22)) := (Below.refl _ _).alloc (Nat.le_refl _) _
        have G : At slE (World.alloc V3 (.cells #[.slice qe ne ce, .slice q2 n3 k2, .slice A2 n2 c2, .slice qe5 ne5 ce5, .slice none 0 0, .slice (some ⟨x6, 0, none⟩) 1 1] 22)) (some ⟨V3.heap.size, 0, none⟩) [(qe, ne, ce), (q2, n3, k2), (A2, n2, c2), (qe5, ne5, ce5), (none, 0, 0), (some ⟨x6, 0, none⟩, 1, 1)] := at_new slE V3 _ _ rfl
        have F1 := HE.out _ (link hHeld X)
        have F3 := HA2.out _ (link hHeld X)
        replace F2 := F2.keep X
        replace F5 := F5.keep X
        replace F6 := F6.keep X
        refine hK.out _ _ (link hHeld X) (fun hHeld => ?_)
        clear hK K
        try simp only [zP, zQ, zS, zZ, zC]
        clear X
        generalize World.alloc V3 _ = VF at G F1 F2 F3 F5 F6 hHeld ⊢
        refine wpAnyH_ready (rs := [16]) (by kernel_rfl) (by simp) ?_
        refine AllReadyH.cons (o := ⟨some 16, .assign (.tmp 54), 26, "law.go:69", #[⟨15, .data⟩, ⟨10, .chain⟩, ⟨0, .phase⟩, ⟨1, .phase⟩, ⟨2, .phase⟩, ⟨3, .phase⟩, ⟨4, .phase⟩, ⟨5, .phase⟩, ⟨6, .phase⟩, ⟨7, .phase⟩, ⟨8, .phase⟩, ⟨9, .phase⟩, ⟨10, .phase⟩, ⟨11, .phase⟩, ⟨12, .phase⟩, ⟨13, .phase⟩, ⟨14, .phase⟩, ⟨15, .phase⟩], none⟩) rfl (fun K hK => ?_) AllReadyH.nil
        go_simp
        refine hK.out _ _ (hHeld) (fun hHeld => ?_)
        clear hK K
        try simp only [zP, zQ, zS, zZ, zC]
        refine wpAnyH_done (by kernel_rfl) ?_ _
        go_wp2_with fail
        go_meet
        exact ⟨_, [(qe, ne, ce), (q2, n3, k2), (A2, n2, c2), (qe5, ne5, ce5), (none, 0, 0), (some ⟨x6, 0, none⟩, 1, 1)], rfl, rfl, G, six (a := (qe, ne, ce)) (b := (q2, n3, k2)) (c := (A2, n2, c2)) (d := (qe5, ne5, ce5)) (e := (none, 0, 0)) (f := (some ⟨x6, 0, none⟩, 1, 1)) ⟨E, HNe.out, F1.ints fE, by show ne ≤ 9223372036854775807; omega⟩ ⟨L2, hn3, F2.ints (fun x hx => by have := hL2b x hx; omega), by show n3 ≤ 9223372036854775807; omega⟩ ⟨l2, HN2.out, F3, hn2⟩ ⟨E5, hl5, F5.ints fE5, by show ne5 ≤ 9223372036854775807; omega⟩ ⟨[], rfl, fun h => absurd rfl h, by show 0 ≤ 9223372036854775807; omega⟩ ⟨[(nw : Int)], rfl, F6.ints (fun x hx => by rw [List.mem_singleton.1 hx]; omega), by show 1 ≤ 9223372036854775807; omega⟩, hHeld⟩
      · skip
        rw [if_pos (by rfl)]
        go_simp
        have F6 : At intE (World.alloc V1 (.cells #[.int .i64 (nw : Int)] 3)) (some ⟨V1.heap.size, 0, none⟩) [(nw : Int)] := at_new intE V1 _ _ rfl
        have X : Below V1.heap.size V1 (World.alloc V1 (.cells #[.int .i64 (nw : Int)] 3)) := (Below.refl _ _).alloc (Nat.le_refl _) _
        replace F2 := F2.keep X
        refine hK.out _ _ (link hHeld X) (fun hHeld => ?_)
        clear hK K
        try simp only [zP, zQ, zS, zZ, zC]
        clear X
        generalize World.alloc V1 _ = V2 at F6 F2 hHeld ⊢
        generalize V1.heap.size = x6 at F6 ⊢
        refine wpAnyH_ready (rs := [10]) (by kernel_rfl) (by simp) ?_
        refine AllReadyH.cons (o := ⟨some 49, .call { callee := .value (.func 19), args := #[.tmp 46, .tmp 47, .tmp 48], argTypes := #[32, 3, 3] }, 32, "law.go:69", #[⟨7, .data⟩, ⟨8, .data⟩, ⟨9, .data⟩, ⟨5, .chain⟩], none⟩) rfl (fun K hK => ?_) AllReadyH.nil
        rw [if_pos (by rfl)]
        go_simp
        refine (HBt.out V2 hHeld).mono ?_
        rintro en V3 ⟨E5, L5, C5, qe5, ql5, qc5, ne5, nl5, nc5, ce5, cl5, cc5, rfl, hCt5, hm5, _, _, fE5, _, _, hB9⟩
        obtain ⟨hl5, _, _, _, _, _, F5, _, _⟩ := hCt5
        dsimp only
        replace F2 := F2.keep hB9
        replace F6 := F6.keep hB9
        refine hK.out _ _ (link hHeld hB9) (fun hHeld => ?_)
        clear hK K
        try simp only [zP, zQ, zS, zZ, zC]
        clear hB9
        refine wt (i := 11) (oi := ⟨some 50, .field 32 (.tmp 49) 0, 22, "law.go:69", #[⟨10, .data⟩], none⟩) (v := .slice qe5 ne5 ce5) (Or.inl ⟨by rfl, fun w' hSw => by have hf := fld_ends qe5 ne5 ce5 (.slice ql5 nl5 cl5) (.slice qc5 nc5 cc5) w'; go_simp⟩) hHeld ?_
        try simp only [zP, zQ, zS, zZ, zC]
        refine wpAnyH_ready (rs := [15]) (by kernel_rfl) (by simp) ?_
        refine AllReadyH.cons (o := ⟨some 54, .buildSlice 26 6 #[(0, .tmp 40), (1, .tmp 44), (2, .tmp 45), (3, .tmp 50), (4, .const (Value.slice none 0 0)), (5, .tmp 53)], 26, "law.go:69", #[⟨1, .data⟩, ⟨5, .data⟩, ⟨6, .data⟩, ⟨11, .data⟩, ⟨14, .data⟩], none⟩) rfl (fun K hK => ?_) AllReadyH.nil
        rw [if_pos (by rfl)]
        go_simp
        have X : Below V3.heap.size V3 (World.alloc V3 (.cells #[.slice qe ne ce, .slice q2 n3 k2, .slice A2 n2 c2, .slice qe5 ne5 ce5, .slice none 0 0, .slice (some ⟨x6, 0, none⟩) 1 1] 22)) := (Below.refl _ _).alloc (Nat.le_refl _) _
        have G : At slE (World.alloc V3 (.cells #[.slice qe ne ce, .slice q2 n3 k2, .slice A2 n2 c2, .slice qe5 ne5 ce5, .slice none 0 0, .slice (some ⟨x6, 0, none⟩) 1 1] 22)) (some ⟨V3.heap.size, 0, none⟩) [(qe, ne, ce), (q2, n3, k2), (A2, n2, c2), (qe5, ne5, ce5), (none, 0, 0), (some ⟨x6, 0, none⟩, 1, 1)] := at_new slE V3 _ _ rfl
        have F1 := HE.out _ (link hHeld X)
        have F3 := HA2.out _ (link hHeld X)
        replace F2 := F2.keep X
        replace F5 := F5.keep X
        replace F6 := F6.keep X
        refine hK.out _ _ (link hHeld X) (fun hHeld => ?_)
        clear hK K
        try simp only [zP, zQ, zS, zZ, zC]
        clear X
        generalize World.alloc V3 _ = VF at G F1 F2 F3 F5 F6 hHeld ⊢
        refine wpAnyH_ready (rs := [16]) (by kernel_rfl) (by simp) ?_
        refine AllReadyH.cons (o := ⟨some 16, .assign (.tmp 54), 26, "law.go:69", #[⟨15, .data⟩, ⟨10, .chain⟩, ⟨0, .phase⟩, ⟨1, .phase⟩, ⟨2, .phase⟩, ⟨3, .phase⟩, ⟨4, .phase⟩, ⟨5, .phase⟩, ⟨6, .phase⟩, ⟨7, .phase⟩, ⟨8, .phase⟩, ⟨9, .phase⟩, ⟨10, .phase⟩, ⟨11, .phase⟩, ⟨12, .phase⟩, ⟨13, .phase⟩, ⟨14, .phase⟩, ⟨15, .phase⟩], none⟩) rfl (fun K hK => ?_) AllReadyH.nil
        go_simp
        refine hK.out _ _ (hHeld) (fun hHeld => ?_)
        clear hK K
        try simp only [zP, zQ, zS, zZ, zC]
        refine wpAnyH_done (by kernel_rfl) ?_ _
        go_wp2_with fail
        go_meet
        exact ⟨_, [(qe, ne, ce), (q2, n3, k2), (A2, n2, c2), (qe5, ne5, ce5), (none, 0, 0), (some ⟨x6, 0, none⟩, 1, 1)], rfl, rfl, G, six (a := (qe, ne, ce)) (b := (q2, n3, k2)) (c := (A2, n2, c2)) (d := (qe5, ne5, ce5)) (e := (none, 0, 0)) (f := (some ⟨x6, 0, none⟩, 1, 1)) ⟨E, HNe.out, F1.ints fE, by show ne ≤ 9223372036854775807; omega⟩ ⟨L2, hn3, F2.ints (fun x hx => by have := hL2b x hx; omega), by show n3 ≤ 9223372036854775807; omega⟩ ⟨l2, HN2.out, F3, hn2⟩ ⟨E5, hl5, F5.ints fE5, by show ne5 ≤ 9223372036854775807; omega⟩ ⟨[], rfl, fun h => absurd rfl h, by show 0 ≤ 9223372036854775807; omega⟩ ⟨[(nw : Int)], rfl, F6.ints (fun x hx => by rw [List.mem_singleton.1 hx]; omega), by show 1 ≤ 9223372036854775807; omega⟩, hHeld⟩
    · skip
      rw [if_pos (by rfl)]
      go_simp
      have F6 : At intE (World.alloc V0 (.cells #[.int .i64 (nw : Int)] 3)) (some ⟨V0.heap.size, 0, none⟩) [(nw : Int)] := at_new intE V0 _ _ rfl
      have X : Below V0.heap.size V0 (World.alloc V0 (.cells #[.int .i64 (nw : Int)] 3)) := (Below.refl _ _).alloc (Nat.le_refl _) _
      refine hK.out _ _ (link hHeld X) (fun hHeld => ?_)
      clear hK K
      try simp only [zP, zQ, zS, zZ, zC]
      clear X
      generalize World.alloc V0 _ = V1 at F6 hHeld ⊢
      generalize V0.heap.size = x6 at F6 ⊢
      refine wpAnyH_ready (rs := [5]) (by kernel_rfl) (by simp) ?_
      refine AllReadyH.cons (o := ⟨some 44, .call { callee := .value (.func 18), args := #[.tmp 42, .tmp 43], argTypes := #[3, 3] }, 22, "law.go:69", #[⟨3, .data⟩, ⟨4, .data⟩], none⟩) rfl (fun K hK => ?_) AllReadyH.nil
      rw [if_pos (by rfl)]
      go_simp
      refine (HEn.out V1).mono ?_
      rintro en V2 ⟨L2, hL2, hL2b, v2, rfl, hO2, hB9⟩
      obtain ⟨q2, k2, rfl, _, F2, _, _⟩ := hO2.form
      obtain ⟨n3, hn3⟩ : ∃ n3, L2.length = n3 := ⟨_, rfl⟩
      rw [hn3] at hL2 ⊢
      clear hO2
      dsimp only
      replace F6 := F6.keep hB9
      refine hK.out _ _ (link hHeld hB9) (fun hHeld => ?_)
      clear hK K
      try simp only [zP, zQ, zS, zZ, zC]
      clear hB9
      refine wpAnyH_ready (rs := [10]) (by kernel_rfl) (by simp) ?_
      refine AllReadyH.cons (o := ⟨some 49, .call { callee := .value (.func 19), args := #[.tmp 46, .tmp 47, .tmp 48], argTypes := #[32, 3, 3] }, 32, "law.go:69", #[⟨7, .data⟩, ⟨8, .data⟩, ⟨9, .data⟩, ⟨5, .chain⟩], none⟩) rfl (fun K hK => ?_) AllReadyH.nil
      rw [if_pos (by rfl)]
      go_simp
      refine (HBt.out V2 hHeld).mono ?_
      rintro en V3 ⟨E5, L5, C5, qe5, ql5, qc5, ne5, nl5, nc5, ce5, cl5, cc5, rfl, hCt5, hm5, _, _, fE5, _, _, hB9⟩
      obtain ⟨hl5, _, _, _, _, _, F5, _, _⟩ := hCt5
      dsimp only
      replace F2 := F2.keep hB9
      replace F6 := F6.keep hB9
      refine hK.out _ _ (link hHeld hB9) (fun hHeld => ?_)
      clear hK K
      try simp only [zP, zQ, zS, zZ, zC]
      clear hB9
      refine wt (i := 11) (oi := ⟨some 50, .field 32 (.tmp 49) 0, 22, "law.go:69", #[⟨10, .data⟩], none⟩) (v := .slice qe5 ne5 ce5) (Or.inl ⟨by rfl, fun w' hSw => by have hf := fld_ends qe5 ne5 ce5 (.slice ql5 nl5 cl5) (.slice qc5 nc5 cc5) w'; go_simp⟩) hHeld ?_
      try simp only [zP, zQ, zS, zZ, zC]
      refine wpAnyH_ready (rs := [15]) (by kernel_rfl) (by simp) ?_
      refine AllReadyH.cons (o := ⟨some 54, .buildSlice 26 6 #[(0, .tmp 40), (1, .tmp 44), (2, .tmp 45), (3, .tmp 50), (4, .const (Value.slice none 0 0)), (5, .tmp 53)], 26, "law.go:69", #[⟨1, .data⟩, ⟨5, .data⟩, ⟨6, .data⟩, ⟨11, .data⟩, ⟨14, .data⟩], none⟩) rfl (fun K hK => ?_) AllReadyH.nil
      rw [if_pos (by rfl)]
      go_simp
      have X : Below V3.heap.size V3 (World.alloc V3 (.cells #[.slice qe ne ce, .slice q2 n3 k2, .slice A2 n2 c2, .slice qe5 ne5 ce5, .slice none 0 0, .slice (some ⟨x6, 0, none⟩) 1 1] 22)) := (Below.refl _ _).alloc (Nat.le_refl _) _
      have G : At slE (World.alloc V3 (.cells #[.slice qe ne ce, .slice q2 n3 k2, .slice A2 n2 c2, .slice qe5 ne5 ce5, .slice none 0 0, .slice (some ⟨x6, 0, none⟩) 1 1] 22)) (some ⟨V3.heap.size, 0, none⟩) [(qe, ne, ce), (q2, n3, k2), (A2, n2, c2), (qe5, ne5, ce5), (none, 0, 0), (some ⟨x6, 0, none⟩, 1, 1)] := at_new slE V3 _ _ rfl
      have F1 := HE.out _ (link hHeld X)
      have F3 := HA2.out _ (link hHeld X)
      replace F2 := F2.keep X
      replace F5 := F5.keep X
      replace F6 := F6.keep X
      refine hK.out _ _ (link hHeld X) (fun hHeld => ?_)
      clear hK K
      try simp only [zP, zQ, zS, zZ, zC]
      clear X
      generalize World.alloc V3 _ = VF at G F1 F2 F3 F5 F6 hHeld ⊢
      refine wpAnyH_ready (rs := [16]) (by kernel_rfl) (by simp) ?_
      refine AllReadyH.cons (o := ⟨some 16, .assign (.tmp 54), 26, "law.go:69", #[⟨15, .data⟩, ⟨10, .chain⟩, ⟨0, .phase⟩, ⟨1, .phase⟩, ⟨2, .phase⟩, ⟨3, .phase⟩, ⟨4, .phase⟩, ⟨5, .phase⟩, ⟨6, .phase⟩, ⟨7, .phase⟩, ⟨8, .phase⟩, ⟨9, .phase⟩, ⟨10, .phase⟩, ⟨11, .phase⟩, ⟨12, .phase⟩, ⟨13, .phase⟩, ⟨14, .phase⟩, ⟨15, .phase⟩], none⟩) rfl (fun K hK => ?_) AllReadyH.nil
      go_simp
      refine hK.out _ _ (hHeld) (fun hHeld => ?_)
      clear hK K
      try simp only [zP, zQ, zS, zZ, zC]
      refine wpAnyH_done (by kernel_rfl) ?_ _
      go_wp2_with fail
      go_meet
      exact ⟨_, [(qe, ne, ce), (q2, n3, k2), (A2, n2, c2), (qe5, ne5, ce5), (none, 0, 0), (some ⟨x6, 0, none⟩, 1, 1)], rfl, rfl, G, six (a := (qe, ne, ce)) (b := (q2, n3, k2)) (c := (A2, n2, c2)) (d := (qe5, ne5, ce5)) (e := (none, 0, 0)) (f := (some ⟨x6, 0, none⟩, 1, 1)) ⟨E, HNe.out, F1.ints fE, by show ne ≤ 9223372036854775807; omega⟩ ⟨L2, hn3, F2.ints (fun x hx => by have := hL2b x hx; omega), by show n3 ≤ 9223372036854775807; omega⟩ ⟨l2, HN2.out, F3, hn2⟩ ⟨E5, hl5, F5.ints fE5, by show ne5 ≤ 9223372036854775807; omega⟩ ⟨[], rfl, fun h => absurd rfl h, by show 0 ≤ 9223372036854775807; omega⟩ ⟨[(nw : Int)], rfl, F6.ints (fun x hx => by rw [List.mem_singleton.1 hx]; omega), by show 1 ≤ 9223372036854775807; omega⟩, hHeld⟩
  case rest =>
  obtain ⟨g, S, rfl, hS5, hG, hI, hB⟩ := hcut
  generalize wc = W5 at *
  have XB := Lib.hid (link XB.out hB)
  have HAt := Lib.hid (fun (V : World) (h : Below W5.heap.size W5 V) => HAt.out V (link hB h))
  clear HEn HBt HE HCR HC0 hB
  go_wp2
  go_loopw [17] (fun v wr => NumRel W5 6 v wr) (fun v _ => 6 - (intOf v).toNat)
  case atStart => exact ⟨0, Nat.zero_le _, rfl, Below.refl _ _⟩
  case round =>
    obtain ⟨i, hi, rfl, hB⟩ := hrel
    rcases Nat.lt_or_ge i 6 with hlt | hge
    · obtain ⟨s, hs⟩ : ∃ s, S[i]? = some s := ⟨_, List.getElem?_eq_getElem (by omega)⟩
      obtain ⟨ls, hls, hAs, hs3⟩ := hI s (List.mem_of_getElem? hs)
      obtain ⟨qs, ns, cs⟩ := s
      obtain ⟨b_, o_, e_, lS⟩ := hG.get (i := i) (by omega)
      injection e_ with e_
      injection e_ with e1 e2 _
      subst e1 e2
      have HC := Lib.hid (fun (V : World) (h : Below W5.heap.size W5 V) => (by have := (lS.keep h).2 i _ 0 _ hs rfl; rwa [show slE.k = 1 from rfl, Nat.mul_one, Nat.add_zero, Nat.zero_add] at this : V.cell? ⟨g, i, none⟩ = some (.slice qs ns cs)))
      have hls : ls.length = ns := hls
      have hs3 : ns ≤ 9223372036854775807 := hs3
      have hlt5 : (i : Int) < 6 := by omega
      have HF1 := Lib.hid (fun (V : World) (h : Below W5.heap.size W5 V) => cost_any q L nw c HNw.out bl wd qs ls ns cs hls hs3 V (HAt.out V h) (hAs.keep h))
      have HF2 := Lib.hid (fun (V : World) (h : Below W5.heap.size W5 V) => rcost_any q L nw c HNw.out (by omega) bl wd qs ls ns cs hls hs3 V (HAt.out V h) (hAs.keep h))
      obtain ⟨⟨r1, r2, r3⟩, hr⟩ : ∃ r, costA L bl wd ls = r := ⟨_, rfl⟩
      rw [hr] at HF1 HF2
      unfold ThreeR at HF1 HF2
      have c0 := HC.out wr hB
      clear hs lS hAs hls hr hs3
      go_upto_region 9 with (go_at_call 20; refine (HF1.out wr hB).mono ?_; rintro en W6 ⟨rfl, hB6⟩)
      replace hB := link hB hB6
      have c0 := HC.out W6 hB
      try dsimp only
      have e1 : (r1 == r1) = true := by simp
      have e2 : (r2 == r2) = true := by simp
      have e3 : (r3 == r3) = true := by simp
      go_wp2_with (go_at_call 21; refine (HF2.out W6 hB).mono ?_; rintro en W7 ⟨rfl, hB7⟩)
      have BY := link hB hB7
      exact ⟨⟨i + 1, by omega, by go_num, BY⟩, by simp [intOf]; omega⟩
    · obtain rfl : i = 6 := by omega
      go_wp2_with (go_at_call 17; refine (HLv.out wr).mono ?_; rintro en W9 ⟨rfl, hB9⟩)
      go_ret
      exact ⟨rfl, link XB.out (link hB hB9)⟩
end Go.Proofs.Ytacdjchkilheiaa
