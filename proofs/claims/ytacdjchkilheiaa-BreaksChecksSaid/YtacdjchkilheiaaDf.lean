/-
  BreaksFills: its walk.
-/
import Derived.Test.YtacdjchkilheiaaDr
namespace Go.Proofs.Ytacdjchkilheiaa
open Go.RowKit
set_option linter.unusedVariables false
set_option linter.unusedSimpArgs false

/-- Slices of integers as elements. -/
def slE : Elt (Option Addr × Nat × Nat) where
  T := 22
  ST := 26
  k := 1
  bytes := 24
  zero := .slice none 0 0
  enc := fun s => [.slice s.1 s.2.1 s.2.2]
  info := by kernel_rfl
  und := Try.underlying26
  len := fun _ => rfl
  one := by intro s u hu; simp at hu; subst hu; rfl
  kpos := by decide
  zs := rfl
  bb := by decide
/-- A slice of at most 300 integers. -/
def Ints3 (w : World) (s : Option Addr × Nat × Nat) : Prop := ∃ l : List Int, l.length = s.2.1 ∧ IntsAt w s.1 l ∧ s.2.1 ≤ 300
theorem five {w : World} {a b c d e : Option Addr × Nat × Nat} (ha : Ints3 w a) (hb : Ints3 w b) (hc : Ints3 w c) (hd : Ints3 w d) (he : Ints3 w e) : ∀ s ∈ [a, b, c, d, e], Ints3 w s := by
  intro s hs
  simp only [List.mem_cons, List.not_mem_nil, or_false] at hs
  rcases hs with rfl | rfl | rfl | rfl | rfl <;> assumption
theorem rep_few {n : Nat} : ∀ x ∈ List.replicate n (0 : Int), -9223372036854775808 ≤ x ∧ x ≤ 9223372036854775807 := fun x hx => by rw [(List.mem_replicate.1 hx).2]; omega
theorem row_zeros (n : Nat) : intE.row (List.replicate n 0) = (zeros n).toList := by
  rw [row_iv]
  unfold iv zeros
  rw [List.map_replicate]
def LaidL (W : World) (s11 : Value) (wx : World) : Prop := ∃ (g : Nat) (S : List (Option Addr × Nat × Nat)), s11 = .slice (some ⟨g, 0, none⟩) 5 5 ∧ S.length = 5 ∧ At slE wx (some ⟨g, 0, none⟩) S ∧ (∀ s ∈ S, Ints3 wx s) ∧ Below W.heap.size W wx
theorem IntsAt.take {w : World} {A : Option Addr} {l : List Int} (h : IntsAt w A l) (k : Nat) : IntsAt w A (l.take k) := fun hn => by
  obtain ⟨ad, e, hb, hc⟩ := h (fun e => hn (by rw [e, List.take_nil]))
  refine ⟨ad, e, hb, fun i x hx => ?_⟩
  rw [List.getElem?_take] at hx
  split at hx
  · exact hc i x hx
  · cases hx
/-- How long the answers are. -/
theorem fillA_len (l : List Int) (bl wd : Int) : (fillA l bl wd).1.length ≤ 1000 ∧ (fillA l bl wd).2.1.length ≤ 1000 ∧ (fillA l bl wd).2.2.1.length ≤ 1000 := by
  unfold fillA
  split
  · rename_i he
    have hF := fine_of he
    have h9 := hF.len
    split
    · simp
    · rename_i hw
      have hw : wideT l wd = false := by simpa using hw
      have hG := good_fill hF hw
      have := endsT_len (N := (fillT l bl wd).2.2) (n := l.length) (fun j hj => hG.2.2.2.2 j (Nat.zero_le _) hj) l.length 0
      refine ⟨by show (endsT _ _ _ _).length ≤ 1000; omega, by show (fillT l bl wd).1.length ≤ 1000; rw [hG.1]; omega, by show (fillT l bl wd).2.1.length ≤ 1000; rw [hG.2.1]; omega⟩
  · simp
theorem greedyF_len {fr : Nat → Nat → Int} {n : Nat} : ∀ (m f j : Nat), (greedyF fr n m f j).length ≤ m + 1
  | 0, f, j => by unfold greedyF; split <;> simp
  | m + 1, f, j => by
    unfold greedyF
    split
    · have := greedyF_len (fr := fr) (n := n) m j (j + 1)
      rw [List.length_cons]
      omega
    · have := greedyF_len (fr := fr) (n := n) m f (j + 1)
      omega
theorem greedyA_len (l : List Int) (bl wd : Int) : (greedyA l bl wd).1.length ≤ 1000 := by
  unfold greedyA
  split
  · rename_i he
    have h9 := (fine_of he).len
    split
    · simp
    · have := greedyF_len (fr := frT l bl wd) (n := l.length) l.length 0 0
      show (greedyT l bl wd).length ≤ 1000
      unfold greedyT
      omega
  · simp

set_option maxHeartbeats 8000000 in
set_option maxRecDepth 100000 in
theorem breaksFills_any (A : Option Addr) (l : List Int) (n0 c0 : Nat) (hl : l.length = n0) (n m0 : Int) (A3 : Option Addr) (l3 : List Int) (n3 c3 : Nat) (hl3 : l3.length = n3) (hc3 : n3 ≤ c3) (hn3 : n3 ≤ 9223372036854775807) (h1 : -9223372036854775808 ≤ n) (h2 : n ≤ 9223372036854775807) (h3 : -9223372036854775808 ≤ m0) (h4 : m0 ≤ 9223372036854775807) (w : World) (hA : IntsAt w A l) (hA3 : IntsAt w A3 l3) :
    Calls Try.prog 3 #[.slice A n0 c0, .int .i64 n, .int .i64 m0, .slice A3 n3 c3] w (Told w true) := by
  have HPg := Lib.hid (page_any n m0 h1 h2 h3 h4 w)
  have HWi := Lib.hid (fun (V : World) (h : Below w.heap.size w V) => (widths_any A l n0 c0 hl V (hA.keep h)))
  have HLv := Lib.hid (fun V : World => lives_any V)
  obtain ⟨m3, hm3⟩ : ∃ m3, min n3 300 = m3 := ⟨_, rfl⟩
  have hm3n : m3 ≤ n3 := by omega
  have hm30 : m3 ≤ 300 := by omega
  have HM3 := Lib.hid (show (if 300 < (n3 : Int) then 300 else (n3 : Int)) = (m3 : Int) from by split <;> omega)
  have HA3 := Lib.hid (fun (V : World) (h : Below w.heap.size w V) => (hA3.keep h).take m3)
  clear hl h1 h2 h3 h4 hA hA3 hm3
  go_enter Try.func3, Try.ntmps3
  go_upto_region 2 with (go_at_call 8; refine HPg.out.mono ?_; rintro en W1 ⟨bl, wd, rfl, hbl, hwd, hB⟩)
  have HWi := Lib.hid (fun (V : World) (h : Below W1.heap.size W1 V) => HWi.out V (link hB h))
  have HA3 := Lib.hid (fun (V : World) (h : Below W1.heap.size W1 V) => HA3.out V (link hB h))
  have XB := Lib.hid hB
  have hmk6 := fun V : World => mk_int 256 (by omega) V
  have hmk7 := fun V : World => mk_int 257 (by omega) V
  have hmk6 : ∀ V : World, (Instr.makeSlice 22 (.int .i64 256) (.int .i64 256)).run Try.prog V = .ok (.slice (some ⟨V.heap.size, 0, none⟩) 256 256) (V.alloc (.cells (zeros 256) 3)) := hmk6
  have hmk7 : ∀ V : World, (Instr.makeSlice 22 (.int .i64 257) (.int .i64 257)).run Try.prog V = .ok (.slice (some ⟨V.heap.size, 0, none⟩) 257 257) (V.alloc (.cells (zeros 257) 3)) := hmk7
  clear HPg hB hbl hwd
  go_cut [11] from 11 to 37 (fun s11 wx => LaidL W1 s11 wx)
  case first =>
    refine wp_region_held_drew (S := fun w' => Below W1.heap.size W1 w') (by kernel_rfl) (below_drew (Below.refl _ _)) (fun _ => ?_)
    have hHeld : Below W1.heap.size W1 W1.drew := below_drew (Below.refl _ _)
    generalize W1.drew = V0 at hHeld ⊢
    refine wt (i := 0) (oi := ⟨some 27, .move (.tmp 0), 22, "law.go:51", #[], none⟩) (v := .slice A n0 c0) (Or.inl ⟨by rfl, fun w' hSw => by go_simp⟩) hHeld ?_
    try simp only [zP, zQ, zS, zZ, zC]
    refine wt (i := 2) (oi := ⟨some 29, .move (.tmp 3), 22, "law.go:51", #[], none⟩) (v := .slice A3 n3 c3) (Or.inl ⟨by rfl, fun w' hSw => by go_simp⟩) hHeld ?_
    try simp only [zP, zQ, zS, zZ, zC]
    refine wt (i := 3) (oi := ⟨some 30, .move (.tmp 3), 22, "law.go:51", #[], none⟩) (v := .slice A3 n3 c3) (Or.inl ⟨by rfl, fun w' hSw => by go_simp⟩) hHeld ?_
    try simp only [zP, zQ, zS, zZ, zC]
    refine wt (i := 4) (oi := ⟨some 31, .call { callee := .builtin .len, args := #[.tmp 30], argTypes := #[22] }, 3, "law.go:51", #[⟨3, .data⟩], none⟩) (v := .int .i64 (n3 : Int)) (Or.inl ⟨by rfl, fun w' hSw => by go_simp⟩) hHeld ?_
    try simp only [zP, zQ, zS, zZ, zC]
    refine wt (i := 5) (oi := ⟨some 32, .call { callee := .builtin .min, args := #[.tmp 31, .const (Value.int IntKind.i64 300)], argTypes := #[3, 3] }, 3, "law.go:51", #[⟨4, .data⟩], none⟩) (v := .int .i64 (m3 : Int)) (Or.inl ⟨by rfl, fun w' hSw => by have h := HM3.out; go_simp⟩) hHeld ?_
    try simp only [zP, zQ, zS, zZ, zC]
    refine wt (i := 6) (oi := ⟨some 33, .slice 22 (.tmp 29) none (some (.tmp 32)) none, 22, "law.go:51", #[⟨2, .data⟩, ⟨5, .data⟩], none⟩) (v := .slice A3 m3 c3) (Or.inl ⟨by rfl, fun w' hSw => by go_simp; try (intro hcm; exact absurd hcm (by omega))⟩) hHeld ?_
    try simp only [zP, zQ, zS, zZ, zC]
    refine wpAnyH_ready (rs := [1, 7, 8]) (by kernel_rfl) (by simp) ?_
    refine AllReadyH.cons (o := ⟨some 28, .call { callee := .value (.func 9), args := #[.tmp 27], argTypes := #[22] }, 22, "law.go:51", #[⟨0, .data⟩], none⟩) rfl (fun K hK => ?_) (AllReadyH.cons (o := ⟨some 34, .makeSlice 22 (.const (Value.int IntKind.i64 256)) (.const (Value.int IntKind.i64 256)), 22, "law.go:51", #[], none⟩) rfl (fun K hK => ?_) (AllReadyH.cons (o := ⟨some 35, .makeSlice 22 (.const (Value.int IntKind.i64 257)) (.const (Value.int IntKind.i64 257)), 22, "law.go:51", #[], none⟩) rfl (fun K hK => ?_) AllReadyH.nil))
    · skip
      rw [if_pos (by rfl)]
      go_simp
      refine (HWi.out V0 hHeld).mono ?_
      rintro en V1 ⟨L, hT, v, rfl, hO, hB9⟩
      obtain ⟨q, c, rfl, hc, hW, _, _⟩ := hO.form
      obtain ⟨nw, hnw⟩ : ∃ nw, L.length = nw := ⟨_, rfl⟩
      rw [hnw] at hc ⊢
      have hnw9 : nw ≤ 9 := by have := hT.1; omega
      clear hO
      dsimp only
      refine hK.out _ _ (link hHeld hB9) (fun hHeld => ?_)
      clear hK K
      try simp only [zP, zQ, zS, zZ, zC]
      clear hB9
      refine wpAnyH_ready (rs := [7, 8]) (by kernel_rfl) (by simp) ?_
      refine AllReadyH.cons (o := ⟨some 34, .makeSlice 22 (.const (Value.int IntKind.i64 256)) (.const (Value.int IntKind.i64 256)), 22, "law.go:51", #[], none⟩) rfl (fun K hK => ?_) (AllReadyH.cons (o := ⟨some 35, .makeSlice 22 (.const (Value.int IntKind.i64 257)) (.const (Value.int IntKind.i64 257)), 22, "law.go:51", #[], none⟩) rfl (fun K hK => ?_) AllReadyH.nil)
      · skip
        rw [if_pos (by rfl)]
        go_simp
        have h7 : At intE (World.alloc V1 (.cells (zeros 256) 3)) (some ⟨V1.heap.size, 0, none⟩) (List.replicate 256 0) := at_new intE V1 _ _ (row_zeros 256)
        have X : Below V1.heap.size V1 (World.alloc V1 (.cells (zeros 256) 3)) := (Below.refl _ _).alloc (Nat.le_refl _) _
        replace hW := hW.keep X
        refine hK.out _ _ (link hHeld X) (fun hHeld => ?_)
        clear hK K
        try simp only [zP, zQ, zS, zZ, zC]
        clear X
        generalize World.alloc V1 _ = V2 at h7 hW hHeld ⊢
        generalize V1.heap.size = x7 at h7 ⊢
        refine wpAnyH_ready (rs := [8]) (by kernel_rfl) (by simp) ?_
        refine AllReadyH.cons (o := ⟨some 35, .makeSlice 22 (.const (Value.int IntKind.i64 257)) (.const (Value.int IntKind.i64 257)), 22, "law.go:51", #[], none⟩) rfl (fun K hK => ?_) AllReadyH.nil
        rw [if_pos (by rfl)]
        go_simp
        have h8 : At intE (World.alloc V2 (.cells (zeros 257) 3)) (some ⟨V2.heap.size, 0, none⟩) (List.replicate 257 0) := at_new intE V2 _ _ (row_zeros 257)
        have X : Below V2.heap.size V2 (World.alloc V2 (.cells (zeros 257) 3)) := (Below.refl _ _).alloc (Nat.le_refl _) _
        replace hW := hW.keep X
        replace h7 := h7.keep X
        refine hK.out _ _ (link hHeld X) (fun hHeld => ?_)
        clear hK K
        try simp only [zP, zQ, zS, zZ, zC]
        clear X
        generalize World.alloc V2 _ = V3 at h8 hW h7 hHeld ⊢
        generalize V2.heap.size = x8 at h8 ⊢
        refine wpAnyH_ready (rs := [9]) (by kernel_rfl) (by simp) ?_
        refine AllReadyH.cons (o := ⟨some 36, .buildSlice 26 5 #[(0, .tmp 28), (1, .const (Value.slice none 0 0)), (2, .tmp 33), (3, .tmp 34), (4, .tmp 35)], 26, "law.go:51", #[⟨1, .data⟩, ⟨6, .data⟩, ⟨7, .data⟩, ⟨8, .data⟩], none⟩) rfl (fun K hK => ?_) AllReadyH.nil
        rw [if_pos (by rfl)]
        go_simp
        have X : Below V3.heap.size V3 (World.alloc V3 (.cells #[.slice q nw c, .slice none 0 0, .slice A3 m3 c3, .slice (some ⟨x7, 0, none⟩) 256 256, .slice (some ⟨x8, 0, none⟩) 257 257] 22)) := (Below.refl _ _).alloc (Nat.le_refl _) _
        have G : At slE (World.alloc V3 (.cells #[.slice q nw c, .slice none 0 0, .slice A3 m3 c3, .slice (some ⟨x7, 0, none⟩) 256 256, .slice (some ⟨x8, 0, none⟩) 257 257] 22)) (some ⟨V3.heap.size, 0, none⟩) [(q, nw, c), (none, 0, 0), (A3, m3, c3), (some ⟨x7, 0, none⟩, 256, 256), (some ⟨x8, 0, none⟩, 257, 257)] := at_new slE V3 _ _ rfl
        have F1 := hW.keep X
        have F7 := h7.keep X
        have F8 := h8.keep X
        have F3 := HA3.out _ (link hHeld X)
        refine hK.out _ _ (link hHeld X) (fun hHeld => ?_)
        clear hK K
        try simp only [zP, zQ, zS, zZ, zC]
        clear X
        generalize World.alloc V3 _ = VF at G F1 F7 F8 F3 hHeld ⊢
        refine wpAnyH_ready (rs := [10]) (by kernel_rfl) (by simp) ?_
        refine AllReadyH.cons (o := ⟨some 11, .assign (.tmp 36), 26, "law.go:51", #[⟨9, .data⟩, ⟨1, .chain⟩, ⟨0, .phase⟩, ⟨1, .phase⟩, ⟨2, .phase⟩, ⟨3, .phase⟩, ⟨4, .phase⟩, ⟨5, .phase⟩, ⟨6, .phase⟩, ⟨7, .phase⟩, ⟨8, .phase⟩, ⟨9, .phase⟩], none⟩) rfl (fun K hK => ?_) AllReadyH.nil
        go_simp
        refine hK.out _ _ (hHeld) (fun hHeld => ?_)
        clear hK K
        try simp only [zP, zQ, zS, zZ, zC]
        refine wpAnyH_done (by kernel_rfl) ?_ _
        go_wp2_with fail
        go_meet
        exact ⟨_, [(q, nw, c), (none, 0, 0), (A3, m3, c3), (some ⟨x7, 0, none⟩, 256, 256), (some ⟨x8, 0, none⟩, 257, 257)], rfl, rfl, G, five (a := (q, nw, c)) (b := (none, 0, 0)) (c := (A3, m3, c3)) (d := (some ⟨x7, 0, none⟩, 256, 256)) (e := (some ⟨x8, 0, none⟩, 257, 257)) ⟨L, hnw, F1.ints (tens_few hT), by show nw ≤ 300; omega⟩ ⟨[], rfl, fun h => absurd rfl h, by show 0 ≤ 300; omega⟩ ⟨l3.take m3, by rw [List.length_take]; show min m3 _ = m3; omega, F3, by show m3 ≤ 300; omega⟩ ⟨List.replicate 256 0, List.length_replicate, F7.ints rep_few, by show 256 ≤ 300; omega⟩ ⟨List.replicate 257 0, List.length_replicate, F8.ints rep_few, by show 257 ≤ 300; omega⟩, hHeld⟩
      · skip
        rw [if_pos (by rfl)]
        go_simp
        have h8 : At intE (World.alloc V1 (.cells (zeros 257) 3)) (some ⟨V1.heap.size, 0, none⟩) (List.replicate 257 0) := at_new intE V1 _ _ (row_zeros 257)
        have X : Below V1.heap.size V1 (World.alloc V1 (.cells (zeros 257) 3)) := (Below.refl _ _).alloc (Nat.le_refl _) _
        replace hW := hW.keep X
        refine hK.out _ _ (link hHeld X) (fun hHeld => ?_)
        clear hK K
        try simp only [zP, zQ, zS, zZ, zC]
        clear X
        generalize World.alloc V1 _ = V2 at h8 hW hHeld ⊢
        generalize V1.heap.size = x8 at h8 ⊢
        refine wpAnyH_ready (rs := [7]) (by kernel_rfl) (by simp) ?_
        refine AllReadyH.cons (o := ⟨some 34, .makeSlice 22 (.const (Value.int IntKind.i64 256)) (.const (Value.int IntKind.i64 256)), 22, "law.go:51", #[], none⟩) rfl (fun K hK => ?_) AllReadyH.nil
        rw [if_pos (by rfl)]
        go_simp
        have h7 : At intE (World.alloc V2 (.cells (zeros 256) 3)) (some ⟨V2.heap.size, 0, none⟩) (List.replicate 256 0) := at_new intE V2 _ _ (row_zeros 256)
        have X : Below V2.heap.size V2 (World.alloc V2 (.cells (zeros 256) 3)) := (Below.refl _ _).alloc (Nat.le_refl _) _
        replace hW := hW.keep X
        replace h8 := h8.keep X
        refine hK.out _ _ (link hHeld X) (fun hHeld => ?_)
        clear hK K
        try simp only [zP, zQ, zS, zZ, zC]
        clear X
        generalize World.alloc V2 _ = V3 at h7 hW h8 hHeld ⊢
        generalize V2.heap.size = x7 at h7 ⊢
        refine wpAnyH_ready (rs := [9]) (by kernel_rfl) (by simp) ?_
        refine AllReadyH.cons (o := ⟨some 36, .buildSlice 26 5 #[(0, .tmp 28), (1, .const (Value.slice none 0 0)), (2, .tmp 33), (3, .tmp 34), (4, .tmp 35)], 26, "law.go:51", #[⟨1, .data⟩, ⟨6, .data⟩, ⟨7, .data⟩, ⟨8, .data⟩], none⟩) rfl (fun K hK => ?_) AllReadyH.nil
        rw [if_pos (by rfl)]
        go_simp
        have X : Below V3.heap.size V3 (World.alloc V3 (.cells #[.slice q nw c, .slice none 0 0, .slice A3 m3 c3, .slice (some ⟨x7, 0, none⟩) 256 256, .slice (some ⟨x8, 0, none⟩) 257 257] 22)) := (Below.refl _ _).alloc (Nat.le_refl _) _
        have G : At slE (World.alloc V3 (.cells #[.slice q nw c, .slice none 0 0, .slice A3 m3 c3, .slice (some ⟨x7, 0, none⟩) 256 256, .slice (some ⟨x8, 0, none⟩) 257 257] 22)) (some ⟨V3.heap.size, 0, none⟩) [(q, nw, c), (none, 0, 0), (A3, m3, c3), (some ⟨x7, 0, none⟩, 256, 256), (some ⟨x8, 0, none⟩, 257, 257)] := at_new slE V3 _ _ rfl
        have F1 := hW.keep X
        have F7 := h7.keep X
        have F8 := h8.keep X
        have F3 := HA3.out _ (link hHeld X)
        refine hK.out _ _ (link hHeld X) (fun hHeld => ?_)
        clear hK K
        try simp only [zP, zQ, zS, zZ, zC]
        clear X
        generalize World.alloc V3 _ = VF at G F1 F7 F8 F3 hHeld ⊢
        refine wpAnyH_ready (rs := [10]) (by kernel_rfl) (by simp) ?_
        refine AllReadyH.cons (o := ⟨some 11, .assign (.tmp 36), 26, "law.go:51", #[⟨9, .data⟩, ⟨1, .chain⟩, ⟨0, .phase⟩, ⟨1, .phase⟩, ⟨2, .phase⟩, ⟨3, .phase⟩, ⟨4, .phase⟩, ⟨5, .phase⟩, ⟨6, .phase⟩, ⟨7, .phase⟩, ⟨8, .phase⟩, ⟨9, .phase⟩], none⟩) rfl (fun K hK => ?_) AllReadyH.nil
        go_simp
        refine hK.out _ _ (hHeld) (fun hHeld => ?_)
        clear hK K
        try simp only [zP, zQ, zS, zZ, zC]
        refine wpAnyH_done (by kernel_rfl) ?_ _
        go_wp2_with fail
        go_meet
        exact ⟨_, [(q, nw, c), (none, 0, 0), (A3, m3, c3), (some ⟨x7, 0, none⟩, 256, 256), (some ⟨x8, 0, none⟩, 257, 257)], rfl, rfl, G, five (a := (q, nw, c)) (b := (none, 0, 0)) (c := (A3, m3, c3)) (d := (some ⟨x7, 0, none⟩, 256, 256)) (e := (some ⟨x8, 0, none⟩, 257, 257)) ⟨L, hnw, F1.ints (tens_few hT), by show nw ≤ 300; omega⟩ ⟨[], rfl, fun h => absurd rfl h, by show 0 ≤ 300; omega⟩ ⟨l3.take m3, by rw [List.length_take]; show min m3 _ = m3; omega, F3, by show m3 ≤ 300; omega⟩ ⟨List.replicate 256 0, List.length_replicate, F7.ints rep_few, by show 256 ≤ 300; omega⟩ ⟨List.replicate 257 0, List.length_replicate, F8.ints rep_few, by show 257 ≤ 300; omega⟩, hHeld⟩
    · skip
      rw [if_pos (by rfl)]
      go_simp
      have h7 : At intE (World.alloc V0 (.cells (zeros 256) 3)) (some ⟨V0.heap.size, 0, none⟩) (List.replicate 256 0) := at_new intE V0 _ _ (row_zeros 256)
      have X : Below V0.heap.size V0 (World.alloc V0 (.cells (zeros 256) 3)) := (Below.refl _ _).alloc (Nat.le_refl _) _
      refine hK.out _ _ (link hHeld X) (fun hHeld => ?_)
      clear hK K
      try simp only [zP, zQ, zS, zZ, zC]
      clear X
      generalize World.alloc V0 _ = V1 at h7 hHeld ⊢
      generalize V0.heap.size = x7 at h7 ⊢
      refine wpAnyH_ready (rs := [1, 8]) (by kernel_rfl) (by simp) ?_
      refine AllReadyH.cons (o := ⟨some 28, .call { callee := .value (.func 9), args := #[.tmp 27], argTypes := #[22] }, 22, "law.go:51", #[⟨0, .data⟩], none⟩) rfl (fun K hK => ?_) (AllReadyH.cons (o := ⟨some 35, .makeSlice 22 (.const (Value.int IntKind.i64 257)) (.const (Value.int IntKind.i64 257)), 22, "law.go:51", #[], none⟩) rfl (fun K hK => ?_) AllReadyH.nil)
      · skip
        rw [if_pos (by rfl)]
        go_simp
        refine (HWi.out V1 hHeld).mono ?_
        rintro en V2 ⟨L, hT, v, rfl, hO, hB9⟩
        obtain ⟨q, c, rfl, hc, hW, _, _⟩ := hO.form
        obtain ⟨nw, hnw⟩ : ∃ nw, L.length = nw := ⟨_, rfl⟩
        rw [hnw] at hc ⊢
        have hnw9 : nw ≤ 9 := by have := hT.1; omega
        clear hO
        dsimp only
        replace h7 := h7.keep hB9
        refine hK.out _ _ (link hHeld hB9) (fun hHeld => ?_)
        clear hK K
        try simp only [zP, zQ, zS, zZ, zC]
        clear hB9
        refine wpAnyH_ready (rs := [8]) (by kernel_rfl) (by simp) ?_
        refine AllReadyH.cons (o := ⟨some 35, .makeSlice 22 (.const (Value.int IntKind.i64 257)) (.const (Value.int IntKind.i64 257)), 22, "law.go:51", #[], none⟩) rfl (fun K hK => ?_) AllReadyH.nil
        rw [if_pos (by rfl)]
        go_simp
        have h8 : At intE (World.alloc V2 (.cells (zeros 257) 3)) (some ⟨V2.heap.size, 0, none⟩) (List.replicate 257 0) := at_new intE V2 _ _ (row_zeros 257)
        have X : Below V2.heap.size V2 (World.alloc V2 (.cells (zeros 257) 3)) := (Below.refl _ _).alloc (Nat.le_refl _) _
        replace h7 := h7.keep X
        replace hW := hW.keep X
        refine hK.out _ _ (link hHeld X) (fun hHeld => ?_)
        clear hK K
        try simp only [zP, zQ, zS, zZ, zC]
        clear X
        generalize World.alloc V2 _ = V3 at h8 h7 hW hHeld ⊢
        generalize V2.heap.size = x8 at h8 ⊢
        refine wpAnyH_ready (rs := [9]) (by kernel_rfl) (by simp) ?_
        refine AllReadyH.cons (o := ⟨some 36, .buildSlice 26 5 #[(0, .tmp 28), (1, .const (Value.slice none 0 0)), (2, .tmp 33), (3, .tmp 34), (4, .tmp 35)], 26, "law.go:51", #[⟨1, .data⟩, ⟨6, .data⟩, ⟨7, .data⟩, ⟨8, .data⟩], none⟩) rfl (fun K hK => ?_) AllReadyH.nil
        rw [if_pos (by rfl)]
        go_simp
        have X : Below V3.heap.size V3 (World.alloc V3 (.cells #[.slice q nw c, .slice none 0 0, .slice A3 m3 c3, .slice (some ⟨x7, 0, none⟩) 256 256, .slice (some ⟨x8, 0, none⟩) 257 257] 22)) := (Below.refl _ _).alloc (Nat.le_refl _) _
        have G : At slE (World.alloc V3 (.cells #[.slice q nw c, .slice none 0 0, .slice A3 m3 c3, .slice (some ⟨x7, 0, none⟩) 256 256, .slice (some ⟨x8, 0, none⟩) 257 257] 22)) (some ⟨V3.heap.size, 0, none⟩) [(q, nw, c), (none, 0, 0), (A3, m3, c3), (some ⟨x7, 0, none⟩, 256, 256), (some ⟨x8, 0, none⟩, 257, 257)] := at_new slE V3 _ _ rfl
        have F1 := hW.keep X
        have F7 := h7.keep X
        have F8 := h8.keep X
        have F3 := HA3.out _ (link hHeld X)
        refine hK.out _ _ (link hHeld X) (fun hHeld => ?_)
        clear hK K
        try simp only [zP, zQ, zS, zZ, zC]
        clear X
        generalize World.alloc V3 _ = VF at G F1 F7 F8 F3 hHeld ⊢
        refine wpAnyH_ready (rs := [10]) (by kernel_rfl) (by simp) ?_
        refine AllReadyH.cons (o := ⟨some 11, .assign (.tmp 36), 26, "law.go:51", #[⟨9, .data⟩, ⟨1, .chain⟩, ⟨0, .phase⟩, ⟨1, .phase⟩, ⟨2, .phase⟩, ⟨3, .phase⟩, ⟨4, .phase⟩, ⟨5, .phase⟩, ⟨6, .phase⟩, ⟨7, .phase⟩, ⟨8, .phase⟩, ⟨9, .phase⟩], none⟩) rfl (fun K hK => ?_) AllReadyH.nil
        go_simp
        refine hK.out _ _ (hHeld) (fun hHeld => ?_)
        clear hK K
        try simp only [zP, zQ, zS, zZ, zC]
        refine wpAnyH_done (by kernel_rfl) ?_ _
        go_wp2_with fail
        go_meet
        exact ⟨_, [(q, nw, c), (none, 0, 0), (A3, m3, c3), (some ⟨x7, 0, none⟩, 256, 256), (some ⟨x8, 0, none⟩, 257, 257)], rfl, rfl, G, five (a := (q, nw, c)) (b := (none, 0, 0)) (c := (A3, m3, c3)) (d := (some ⟨x7, 0, none⟩, 256, 256)) (e := (some ⟨x8, 0, none⟩, 257, 257)) ⟨L, hnw, F1.ints (tens_few hT), by show nw ≤ 300; omega⟩ ⟨[], rfl, fun h => absurd rfl h, by show 0 ≤ 300; omega⟩ ⟨l3.take m3, by rw [List.length_take]; show min m3 _ = m3; omega, F3, by show m3 ≤ 300; omega⟩ ⟨List.replicate 256 0, List.length_replicate, F7.ints rep_few, by show 256 ≤ 300; omega⟩ ⟨List.replicate 257 0, List.length_replicate, F8.ints rep_few, by show 257 ≤ 300; omega⟩, hHeld⟩
      · skip
        rw [if_pos (by rfl)]
        go_simp
        have h8 : At intE (World.alloc V1 (.cells (zeros 257) 3)) (some ⟨V1.heap.size, 0, none⟩) (List.replicate 257 0) := at_new intE V1 _ _ (row_zeros 257)
        have X : Below V1.heap.size V1 (World.alloc V1 (.cells (zeros 257) 3)) := (Below.refl _ _).alloc (Nat.le_refl _) _
        replace h7 := h7.keep X
        refine hK.out _ _ (link hHeld X) (fun hHeld => ?_)
        clear hK K
        try simp only [zP, zQ, zS, zZ, zC]
        clear X
        generalize World.alloc V1 _ = V2 at h8 h7 hHeld ⊢
        generalize V1.heap.size = x8 at h8 ⊢
        refine wpAnyH_ready (rs := [1]) (by kernel_rfl) (by simp) ?_
        refine AllReadyH.cons (o := ⟨some 28, .call { callee := .value (.func 9), args := #[.tmp 27], argTypes := #[22] }, 22, "law.go:51", #[⟨0, .data⟩], none⟩) rfl (fun K hK => ?_) AllReadyH.nil
        rw [if_pos (by rfl)]
        go_simp
        refine (HWi.out V2 hHeld).mono ?_
        rintro en V3 ⟨L, hT, v, rfl, hO, hB9⟩
        obtain ⟨q, c, rfl, hc, hW, _, _⟩ := hO.form
        obtain ⟨nw, hnw⟩ : ∃ nw, L.length = nw := ⟨_, rfl⟩
        rw [hnw] at hc ⊢
        have hnw9 : nw ≤ 9 := by have := hT.1; omega
        clear hO
        dsimp only
        replace h7 := h7.keep hB9
        replace h8 := h8.keep hB9
        refine hK.out _ _ (link hHeld hB9) (fun hHeld => ?_)
        clear hK K
        try simp only [zP, zQ, zS, zZ, zC]
        clear hB9
        refine wpAnyH_ready (rs := [9]) (by kernel_rfl) (by simp) ?_
        refine AllReadyH.cons (o := ⟨some 36, .buildSlice 26 5 #[(0, .tmp 28), (1, .const (Value.slice none 0 0)), (2, .tmp 33), (3, .tmp 34), (4, .tmp 35)], 26, "law.go:51", #[⟨1, .data⟩, ⟨6, .data⟩, ⟨7, .data⟩, ⟨8, .data⟩], none⟩) rfl (fun K hK => ?_) AllReadyH.nil
        rw [if_pos (by rfl)]
        go_simp
        have X : Below V3.heap.size V3 (World.alloc V3 (.cells #[.slice q nw c, .slice none 0 0, .slice A3 m3 c3, .slice (some ⟨x7, 0, none⟩) 256 256, .slice (some ⟨x8, 0, none⟩) 257 257] 22)) := (Below.refl _ _).alloc (Nat.le_refl _) _
        have G : At slE (World.alloc V3 (.cells #[.slice q nw c, .slice none 0 0, .slice A3 m3 c3, .slice (some ⟨x7, 0, none⟩) 256 256, .slice (some ⟨x8, 0, none⟩) 257 257] 22)) (some ⟨V3.heap.size, 0, none⟩) [(q, nw, c), (none, 0, 0), (A3, m3, c3), (some ⟨x7, 0, none⟩, 256, 256), (some ⟨x8, 0, none⟩, 257, 257)] := at_new slE V3 _ _ rfl
        have F1 := hW.keep X
        have F7 := h7.keep X
        have F8 := h8.keep X
        have F3 := HA3.out _ (link hHeld X)
        refine hK.out _ _ (link hHeld X) (fun hHeld => ?_)
        clear hK K
        try simp only [zP, zQ, zS, zZ, zC]
        clear X
        generalize World.alloc V3 _ = VF at G F1 F7 F8 F3 hHeld ⊢
        refine wpAnyH_ready (rs := [10]) (by kernel_rfl) (by simp) ?_
        refine AllReadyH.cons (o := ⟨some 11, .assign (.tmp 36), 26, "law.go:51", #[⟨9, .data⟩, ⟨1, .chain⟩, ⟨0, .phase⟩, ⟨1, .phase⟩, ⟨2, .phase⟩, ⟨3, .phase⟩, ⟨4, .phase⟩, ⟨5, .phase⟩, ⟨6, .phase⟩, ⟨7, .phase⟩, ⟨8, .phase⟩, ⟨9, .phase⟩], none⟩) rfl (fun K hK => ?_) AllReadyH.nil
        go_simp
        refine hK.out _ _ (hHeld) (fun hHeld => ?_)
        clear hK K
        try simp only [zP, zQ, zS, zZ, zC]
        refine wpAnyH_done (by kernel_rfl) ?_ _
        go_wp2_with fail
        go_meet
        exact ⟨_, [(q, nw, c), (none, 0, 0), (A3, m3, c3), (some ⟨x7, 0, none⟩, 256, 256), (some ⟨x8, 0, none⟩, 257, 257)], rfl, rfl, G, five (a := (q, nw, c)) (b := (none, 0, 0)) (c := (A3, m3, c3)) (d := (some ⟨x7, 0, none⟩, 256, 256)) (e := (some ⟨x8, 0, none⟩, 257, 257)) ⟨L, hnw, F1.ints (tens_few hT), by show nw ≤ 300; omega⟩ ⟨[], rfl, fun h => absurd rfl h, by show 0 ≤ 300; omega⟩ ⟨l3.take m3, by rw [List.length_take]; show min m3 _ = m3; omega, F3, by show m3 ≤ 300; omega⟩ ⟨List.replicate 256 0, List.length_replicate, F7.ints rep_few, by show 256 ≤ 300; omega⟩ ⟨List.replicate 257 0, List.length_replicate, F8.ints rep_few, by show 257 ≤ 300; omega⟩, hHeld⟩
    · skip
      rw [if_pos (by rfl)]
      go_simp
      have h8 : At intE (World.alloc V0 (.cells (zeros 257) 3)) (some ⟨V0.heap.size, 0, none⟩) (List.replicate 257 0) := at_new intE V0 _ _ (row_zeros 257)
      have X : Below V0.heap.size V0 (World.alloc V0 (.cells (zeros 257) 3)) := (Below.refl _ _).alloc (Nat.le_refl _) _
      refine hK.out _ _ (link hHeld X) (fun hHeld => ?_)
      clear hK K
      try simp only [zP, zQ, zS, zZ, zC]
      clear X
      generalize World.alloc V0 _ = V1 at h8 hHeld ⊢
      generalize V0.heap.size = x8 at h8 ⊢
      refine wpAnyH_ready (rs := [1, 7]) (by kernel_rfl) (by simp) ?_
      refine AllReadyH.cons (o := ⟨some 28, .call { callee := .value (.func 9), args := #[.tmp 27], argTypes := #[22] }, 22, "law.go:51", #[⟨0, .data⟩], none⟩) rfl (fun K hK => ?_) (AllReadyH.cons (o := ⟨some 34, .makeSlice 22 (.const (Value.int IntKind.i64 256)) (.const (Value.int IntKind.i64 256)), 22, "law.go:51", #[], none⟩) rfl (fun K hK => ?_) AllReadyH.nil)
      · skip
        rw [if_pos (by rfl)]
        go_simp
        refine (HWi.out V1 hHeld).mono ?_
        rintro en V2 ⟨L, hT, v, rfl, hO, hB9⟩
        obtain ⟨q, c, rfl, hc, hW, _, _⟩ := hO.form
        obtain ⟨nw, hnw⟩ : ∃ nw, L.length = nw := ⟨_, rfl⟩
        rw [hnw] at hc ⊢
        have hnw9 : nw ≤ 9 := by have := hT.1; omega
        clear hO
        dsimp only
        replace h8 := h8.keep hB9
        refine hK.out _ _ (link hHeld hB9) (fun hHeld => ?_)
        clear hK K
        try simp only [zP, zQ, zS, zZ, zC]
        clear hB9
        refine wpAnyH_ready (rs := [7]) (by kernel_rfl) (by simp) ?_
        refine AllReadyH.cons (o := ⟨some 34, .makeSlice 22 (.const (Value.int IntKind.i64 256)) (.const (Value.int IntKind.i64 256)), 22, "law.go:51", #[], none⟩) rfl (fun K hK => ?_) AllReadyH.nil
        rw [if_pos (by rfl)]
        go_simp
        have h7 : At intE (World.alloc V2 (.cells (zeros 256) 3)) (some ⟨V2.heap.size, 0, none⟩) (List.replicate 256 0) := at_new intE V2 _ _ (row_zeros 256)
        have X : Below V2.heap.size V2 (World.alloc V2 (.cells (zeros 256) 3)) := (Below.refl _ _).alloc (Nat.le_refl _) _
        replace h8 := h8.keep X
        replace hW := hW.keep X
        refine hK.out _ _ (link hHeld X) (fun hHeld => ?_)
        clear hK K
        try simp only [zP, zQ, zS, zZ, zC]
        clear X
        generalize World.alloc V2 _ = V3 at h7 h8 hW hHeld ⊢
        generalize V2.heap.size = x7 at h7 ⊢
        refine wpAnyH_ready (rs := [9]) (by kernel_rfl) (by simp) ?_
        refine AllReadyH.cons (o := ⟨some 36, .buildSlice 26 5 #[(0, .tmp 28), (1, .const (Value.slice none 0 0)), (2, .tmp 33), (3, .tmp 34), (4, .tmp 35)], 26, "law.go:51", #[⟨1, .data⟩, ⟨6, .data⟩, ⟨7, .data⟩, ⟨8, .data⟩], none⟩) rfl (fun K hK => ?_) AllReadyH.nil
        rw [if_pos (by rfl)]
        go_simp
        have X : Below V3.heap.size V3 (World.alloc V3 (.cells #[.slice q nw c, .slice none 0 0, .slice A3 m3 c3, .slice (some ⟨x7, 0, none⟩) 256 256, .slice (some ⟨x8, 0, none⟩) 257 257] 22)) := (Below.refl _ _).alloc (Nat.le_refl _) _
        have G : At slE (World.alloc V3 (.cells #[.slice q nw c, .slice none 0 0, .slice A3 m3 c3, .slice (some ⟨x7, 0, none⟩) 256 256, .slice (some ⟨x8, 0, none⟩) 257 257] 22)) (some ⟨V3.heap.size, 0, none⟩) [(q, nw, c), (none, 0, 0), (A3, m3, c3), (some ⟨x7, 0, none⟩, 256, 256), (some ⟨x8, 0, none⟩, 257, 257)] := at_new slE V3 _ _ rfl
        have F1 := hW.keep X
        have F7 := h7.keep X
        have F8 := h8.keep X
        have F3 := HA3.out _ (link hHeld X)
        refine hK.out _ _ (link hHeld X) (fun hHeld => ?_)
        clear hK K
        try simp only [zP, zQ, zS, zZ, zC]
        clear X
        generalize World.alloc V3 _ = VF at G F1 F7 F8 F3 hHeld ⊢
        refine wpAnyH_ready (rs := [10]) (by kernel_rfl) (by simp) ?_
        refine AllReadyH.cons (o := ⟨some 11, .assign (.tmp 36), 26, "law.go:51", #[⟨9, .data⟩, ⟨1, .chain⟩, ⟨0, .phase⟩, ⟨1, .phase⟩, ⟨2, .phase⟩, ⟨3, .phase⟩, ⟨4, .phase⟩, ⟨5, .phase⟩, ⟨6, .phase⟩, ⟨7, .phase⟩, ⟨8, .phase⟩, ⟨9, .phase⟩], none⟩) rfl (fun K hK => ?_) AllReadyH.nil
        go_simp
        refine hK.out _ _ (hHeld) (fun hHeld => ?_)
        clear hK K
        try simp only [zP, zQ, zS, zZ, zC]
        refine wpAnyH_done (by kernel_rfl) ?_ _
        go_wp2_with fail
        go_meet
        exact ⟨_, [(q, nw, c), (none, 0, 0), (A3, m3, c3), (some ⟨x7, 0, none⟩, 256, 256), (some ⟨x8, 0, none⟩, 257, 257)], rfl, rfl, G, five (a := (q, nw, c)) (b := (none, 0, 0)) (c := (A3, m3, c3)) (d := (some ⟨x7, 0, none⟩, 256, 256)) (e := (some ⟨x8, 0, none⟩, 257, 257)) ⟨L, hnw, F1.ints (tens_few hT), by show nw ≤ 300; omega⟩ ⟨[], rfl, fun h => absurd rfl h, by show 0 ≤ 300; omega⟩ ⟨l3.take m3, by rw [List.length_take]; show min m3 _ = m3; omega, F3, by show m3 ≤ 300; omega⟩ ⟨List.replicate 256 0, List.length_replicate, F7.ints rep_few, by show 256 ≤ 300; omega⟩ ⟨List.replicate 257 0, List.length_replicate, F8.ints rep_few, by show 257 ≤ 300; omega⟩, hHeld⟩
      · skip
        rw [if_pos (by rfl)]
        go_simp
        have h7 : At intE (World.alloc V1 (.cells (zeros 256) 3)) (some ⟨V1.heap.size, 0, none⟩) (List.replicate 256 0) := at_new intE V1 _ _ (row_zeros 256)
        have X : Below V1.heap.size V1 (World.alloc V1 (.cells (zeros 256) 3)) := (Below.refl _ _).alloc (Nat.le_refl _) _
        replace h8 := h8.keep X
        refine hK.out _ _ (link hHeld X) (fun hHeld => ?_)
        clear hK K
        try simp only [zP, zQ, zS, zZ, zC]
        clear X
        generalize World.alloc V1 _ = V2 at h7 h8 hHeld ⊢
        generalize V1.heap.size = x7 at h7 ⊢
        refine wpAnyH_ready (rs := [1]) (by kernel_rfl) (by simp) ?_
        refine AllReadyH.cons (o := ⟨some 28, .call { callee := .value (.func 9), args := #[.tmp 27], argTypes := #[22] }, 22, "law.go:51", #[⟨0, .data⟩], none⟩) rfl (fun K hK => ?_) AllReadyH.nil
        rw [if_pos (by rfl)]
        go_simp
        refine (HWi.out V2 hHeld).mono ?_
        rintro en V3 ⟨L, hT, v, rfl, hO, hB9⟩
        obtain ⟨q, c, rfl, hc, hW, _, _⟩ := hO.form
        obtain ⟨nw, hnw⟩ : ∃ nw, L.length = nw := ⟨_, rfl⟩
        rw [hnw] at hc ⊢
        have hnw9 : nw ≤ 9 := by have := hT.1; omega
        clear hO
        dsimp only
        replace h8 := h8.keep hB9
        replace h7 := h7.keep hB9
        refine hK.out _ _ (link hHeld hB9) (fun hHeld => ?_)
        clear hK K
        try simp only [zP, zQ, zS, zZ, zC]
        clear hB9
        refine wpAnyH_ready (rs := [9]) (by kernel_rfl) (by simp) ?_
        refine AllReadyH.cons (o := ⟨some 36, .buildSlice 26 5 #[(0, .tmp 28), (1, .const (Value.slice none 0 0)), (2, .tmp 33), (3, .tmp 34), (4, .tmp 35)], 26, "law.go:51", #[⟨1, .data⟩, ⟨6, .data⟩, ⟨7, .data⟩, ⟨8, .data⟩], none⟩) rfl (fun K hK => ?_) AllReadyH.nil
        rw [if_pos (by rfl)]
        go_simp
        have X : Below V3.heap.size V3 (World.alloc V3 (.cells #[.slice q nw c, .slice none 0 0, .slice A3 m3 c3, .slice (some ⟨x7, 0, none⟩) 256 256, .slice (some ⟨x8, 0, none⟩) 257 257] 22)) := (Below.refl _ _).alloc (Nat.le_refl _) _
        have G : At slE (World.alloc V3 (.cells #[.slice q nw c, .slice none 0 0, .slice A3 m3 c3, .slice (some ⟨x7, 0, none⟩) 256 256, .slice (some ⟨x8, 0, none⟩) 257 257] 22)) (some ⟨V3.heap.size, 0, none⟩) [(q, nw, c), (none, 0, 0), (A3, m3, c3), (some ⟨x7, 0, none⟩, 256, 256), (some ⟨x8, 0, none⟩, 257, 257)] := at_new slE V3 _ _ rfl
        have F1 := hW.keep X
        have F7 := h7.keep X
        have F8 := h8.keep X
        have F3 := HA3.out _ (link hHeld X)
        refine hK.out _ _ (link hHeld X) (fun hHeld => ?_)
        clear hK K
        try simp only [zP, zQ, zS, zZ, zC]
        clear X
        generalize World.alloc V3 _ = VF at G F1 F7 F8 F3 hHeld ⊢
        refine wpAnyH_ready (rs := [10]) (by kernel_rfl) (by simp) ?_
        refine AllReadyH.cons (o := ⟨some 11, .assign (.tmp 36), 26, "law.go:51", #[⟨9, .data⟩, ⟨1, .chain⟩, ⟨0, .phase⟩, ⟨1, .phase⟩, ⟨2, .phase⟩, ⟨3, .phase⟩, ⟨4, .phase⟩, ⟨5, .phase⟩, ⟨6, .phase⟩, ⟨7, .phase⟩, ⟨8, .phase⟩, ⟨9, .phase⟩], none⟩) rfl (fun K hK => ?_) AllReadyH.nil
        go_simp
        refine hK.out _ _ (hHeld) (fun hHeld => ?_)
        clear hK K
        try simp only [zP, zQ, zS, zZ, zC]
        refine wpAnyH_done (by kernel_rfl) ?_ _
        go_wp2_with fail
        go_meet
        exact ⟨_, [(q, nw, c), (none, 0, 0), (A3, m3, c3), (some ⟨x7, 0, none⟩, 256, 256), (some ⟨x8, 0, none⟩, 257, 257)], rfl, rfl, G, five (a := (q, nw, c)) (b := (none, 0, 0)) (c := (A3, m3, c3)) (d := (some ⟨x7, 0, none⟩, 256, 256)) (e := (some ⟨x8, 0, none⟩, 257, 257)) ⟨L, hnw, F1.ints (tens_few hT), by show nw ≤ 300; omega⟩ ⟨[], rfl, fun h => absurd rfl h, by show 0 ≤ 300; omega⟩ ⟨l3.take m3, by rw [List.length_take]; show min m3 _ = m3; omega, F3, by show m3 ≤ 300; omega⟩ ⟨List.replicate 256 0, List.length_replicate, F7.ints rep_few, by show 256 ≤ 300; omega⟩ ⟨List.replicate 257 0, List.length_replicate, F8.ints rep_few, by show 257 ≤ 300; omega⟩, hHeld⟩
  case rest =>
  obtain ⟨g, S, rfl, hS5, hG, hI, hB⟩ := hcut
  generalize wc = W3 at *
  have XB := Lib.hid (link XB.out hB)
  clear hmk6 hmk7 HWi HA3 HM3 hB
  go_wp2
  go_loopw [12] (fun v wr => NumRel W3 5 v wr) (fun v _ => 5 - (intOf v).toNat)
  case atStart => exact ⟨0, Nat.zero_le _, rfl, Below.refl _ _⟩
  case round =>
    obtain ⟨i, hi, rfl, hB⟩ := hrel
    rcases Nat.lt_or_ge i 5 with hlt | hge
    · obtain ⟨s, hs⟩ : ∃ s, S[i]? = some s := ⟨_, List.getElem?_eq_getElem (by omega)⟩
      obtain ⟨ls, hls, hAs, hs3⟩ := hI s (List.mem_of_getElem? hs)
      obtain ⟨q, ns, cs⟩ := s
      obtain ⟨b_, o_, e_, lS⟩ := hG.get (i := i) (by omega)
      injection e_ with e_
      injection e_ with e1 e2 _
      subst e1 e2
      have HC := Lib.hid (fun (V : World) (h : Below W3.heap.size W3 V) => (by have := (lS.keep h).2 i _ 0 _ hs rfl; rwa [show slE.k = 1 from rfl, Nat.mul_one, Nat.add_zero, Nat.zero_add] at this : V.cell? ⟨g, i, none⟩ = some (.slice q ns cs)))
      have hls : ls.length = ns := hls
      have hs3 : ns ≤ 300 := hs3
      have hlt5 : (i : Int) < 5 := by omega
      obtain ⟨L1, L2, L3⟩ := fillA_len ls bl wd
      have L4 := greedyA_len ls bl wd
      have HA := Lib.hid (fun (V : World) (h : Below W3.heap.size W3 V) => (show IntsAt V q ls from hAs.keep h))
      obtain ⟨E, Lf, Cf, k, hfi⟩ : ∃ E Lf Cf k, fillA ls bl wd = (E, Lf, Cf, k) := ⟨_, _, _, _, rfl⟩
      obtain ⟨G, kg, hgr⟩ : ∃ G k, greedyA ls bl wd = (G, k) := ⟨_, _, rfl⟩
      rw [hfi] at L1 L2 L3
      rw [hgr] at L4
      have L1 : E.length ≤ 1000 := L1
      have L2 : Lf.length ≤ 1000 := L2
      have L3 : Cf.length ≤ 1000 := L3
      have L4 : G.length ≤ 1000 := L4
      obtain ⟨ne, hne⟩ : ∃ x, E.length = x := ⟨_, rfl⟩
      obtain ⟨nl, hnl⟩ : ∃ x, Lf.length = x := ⟨_, rfl⟩
      obtain ⟨nc, hnc⟩ : ∃ x, Cf.length = x := ⟨_, rfl⟩
      obtain ⟨ng, hng⟩ : ∃ x, G.length = x := ⟨_, rfl⟩
      have HF1 := Lib.hid (fun (V : World) (h : Below W3.heap.size W3 V) => fill_g (c := cs) hls (HA.out V h) hfi hne hnl hnc (by omega) (by omega) (by omega))
      have HF2 := Lib.hid (fun (V : World) (h : Below W3.heap.size W3 V) => (show Calls Try.prog 11 #[.slice q ns cs, .int .i64 bl, .int .i64 wd] V (CertG E Lf Cf ne nl nc k V) from by
        have := rfill_any q ls ns cs hls (by omega) bl wd V (HA.out V h)
        rw [hfi] at this
        exact this.mono (fun _ _ g => g.give hne hnl hnc (by omega) (by omega) (by omega))))
      have HG1 := Lib.hid (fun (V : World) (h : Below W3.heap.size W3 V) => (show Calls Try.prog 12 #[.slice q ns cs, .int .i64 bl, .int .i64 wd] V (ListG G ng kg V) from by
        have := greedy_any q ls ns cs hls bl wd V (HA.out V h)
        rw [hgr] at this
        exact this.mono (fun _ _ g => g.give hng)))
      have HG2 := Lib.hid (fun (V : World) (h : Below W3.heap.size W3 V) => (show Calls Try.prog 13 #[.slice q ns cs, .int .i64 bl, .int .i64 wd] V (ListG G ng kg V) from by
        have := rgreedy_any q ls ns cs hls (by omega) bl wd V (HA.out V h)
        rw [hgr] at this
        exact this.mono (fun _ _ g => g.give hng)))
      have HNg := Lib.hid hng
      have hng9 : ng ≤ 1000 := by omega
      have c0 := HC.out wr hB
      clear hs lS hAs hls hfi hgr hne hnl hnc hng L1 L2 L3 L4 hs3
      go_upto_region 7 with (first
        | (go_at_call 10; refine (HF1.out wr hB).mono ?_; rintro en W4 ⟨qe, ql, qc, ce, cl, cc, rfl, hCt1, hB4⟩)
        | (refine store_blk rfl 28 (.tmp 13) (.tmp 51) rfl (blk_new W4 28 zeroCt.toArray) rfl rfl (vs := [.slice qe ne ce, .slice ql nl cl, .slice qc nc cc]) (m := 3) (by kernel_rfl) rfl rfl (by intro v hv; simp at hv; rcases hv with rfl | rfl | rfl <;> rfl) ?_; intro W5 K2 O2))
      try simp only [zP, zQ, zS, zZ, zC]
      have X2 : Below W4.heap.size W4 W5 := O2.2.2 _ _ (Nat.le_refl _) ((Below.refl _ _).alloc (Nat.le_refl _) _)
      replace hB := link hB (link hB4 X2)
      obtain ⟨cb, hcb⟩ : ∃ cb, W4.heap.size = cb := ⟨_, rfl⟩
      rw [hcb] at K2
      rw [hcb]
      have KB := K2
      have hCt1 := hCt1.keep X2
      have c0 := HC.out W5 hB
      clear O2 X2 K2 hB4 hcb
      go_upto_region 8 with (first
        | (go_at_call 11; refine (HF2.out W5 hB).mono ?_; rintro en W6 ⟨qe2, ql2, qc2, ce2, cl2, cc2, rfl, hCt2, hB4⟩)
        | (refine store_blk rfl 32 (.tmp 15) (.tmp 61) rfl (blk_new W6 32 zeroCt.toArray) rfl rfl (vs := [.slice qe2 ne ce2, .slice ql2 nl cl2, .slice qc2 nc cc2]) (m := 3) (by kernel_rfl) rfl rfl (by intro v hv; simp at hv; rcases hv with rfl | rfl | rfl <;> rfl) ?_; intro W7 K2 O2))
      try simp only [zP, zQ, zS, zZ, zC]
      have X2 : Below W6.heap.size W6 W7 := O2.2.2 _ _ (Nat.le_refl _) ((Below.refl _ _).alloc (Nat.le_refl _) _)
      replace hB := link hB (link hB4 X2)
      obtain ⟨rb, hrb⟩ : ∃ cb, W6.heap.size = cb := ⟨_, rfl⟩
      rw [hrb] at K2
      rw [hrb]
      have KR := K2
      replace KB := KB.keep (link hB4 X2)
      replace hCt1 := hCt1.keep (link hB4 X2)
      replace hCt2 := hCt2.keep X2
      have c0 := HC.out W7 hB
      clear O2 X2 K2 hB4 hrb
      go_upto_region 9 with (go_at_call 12; refine (HG1.out W7 hB).mono ?_; rintro en W7a ⟨qg, cg, rfl, hAg, hB4⟩)
      replace hB := link hB hB4
      have c0 := HC.out W7a hB
      go_upto_region 10 with (go_at_call 13; refine (HG2.out W7a hB).mono ?_; rintro en W8 ⟨qh, ch, rfl, hAh, hB5⟩)
      replace hB := link hB hB5
      have hB6 := link hB4 hB5
      have KB : ∀ w', Below W8.heap.size W8 w' → w'.rangeAt cb 0 [.slice qe ne ce, .slice ql nl cl, .slice qc nc cc] := fun w' h => by have := ((KB.keep hB6).keep h).range 0 3; exact this
      have KR : ∀ w', Below W8.heap.size W8 w' → w'.rangeAt rb 0 [.slice qe2 ne ce2, .slice ql2 nl cl2, .slice qc2 nc cc2] := fun w' h => by have := ((KR.keep hB6).keep h).range 0 3; exact this
      have CT1 : ∀ w', Below W8.heap.size W8 w' → CtAt w' qe ne ql nl qc nc E Lf Cf := fun w' h => (hCt1.keep hB6).keep h
      have CT2 : ∀ w', Below W8.heap.size W8 w' → CtAt w' qe2 ne ql2 nl qc2 nc E Lf Cf := fun w' h => (hCt2.keep hB6).keep h
      have AG : ∀ w', Below W8.heap.size W8 w' → At intE w' qg G := fun w' h => (hAg.keep hB5).keep h
      have AH : ∀ w', Below W8.heap.size W8 w' → At intE w' qh G := fun w' h => hAh.keep h
      clear hB4 hB5 hB6 hCt1 hCt2 hAg hAh c0 HF1 HF2 HG1 HG2
      refine wp_region_held_drew (S := fun w' => Below W8.heap.size W8 w') (by kernel_rfl) (below_drew (Below.refl _ _)) (fun _ => ?_)
      have hHeld : Below W8.heap.size W8 W8.drew := below_drew (Below.refl _ _)
      generalize W8.drew = V0 at hHeld ⊢
      refine wt (i := 0) (oi := ⟨some 83, .move (.tmp 14), 29, "law.go:57", #[], none⟩) (v := .int .i64 k) (Or.inl ⟨by rfl, fun w' hSw => by go_simp⟩) hHeld ?_
      try simp only [zP, zQ, zS, zZ, zC]
      refine wt (i := 1) (oi := ⟨some 84, .move (.tmp 16), 29, "law.go:57", #[], none⟩) (v := .int .i64 k) (Or.inl ⟨by rfl, fun w' hSw => by go_simp⟩) hHeld ?_
      try simp only [zP, zQ, zS, zZ, zC]
      refine wt (i := 2) (oi := ⟨some 85, .binOp .neq 29 (.tmp 83) (.tmp 84) 29, 4, "law.go:57", #[⟨0, .data⟩, ⟨1, .data⟩], none⟩) (v := .bool false) (Or.inl ⟨by rfl, fun w' hSw => by go_simp⟩) hHeld ?_
      try simp only [zP, zQ, zS, zZ, zC]
      refine wt (i := 3) (oi := ⟨some 86, .move (.tmp 85), 4, "law.go:57", #[⟨2, .data⟩], none⟩) (v := .bool false) (Or.inl ⟨by rfl, fun w' hSw => by go_simp⟩) hHeld ?_
      try simp only [zP, zQ, zS, zZ, zC]
      refine wt (i := 4) (oi := ⟨some 87, .move (.tmp 18), 29, "law.go:57", #[⟨3, .guard⟩], some (3, false)⟩) (v := .int .i64 kg) (Or.inl ⟨by rfl, fun w' hSw => by go_simp⟩) hHeld ?_
      try simp only [zP, zQ, zS, zZ, zC]
      refine wt (i := 5) (oi := ⟨some 88, .move (.tmp 20), 29, "law.go:57", #[⟨3, .guard⟩], some (3, false)⟩) (v := .int .i64 kg) (Or.inl ⟨by rfl, fun w' hSw => by go_simp⟩) hHeld ?_
      try simp only [zP, zQ, zS, zZ, zC]
      refine wt (i := 6) (oi := ⟨some 89, .binOp .neq 29 (.tmp 87) (.tmp 88) 29, 4, "law.go:57", #[⟨4, .data⟩, ⟨5, .data⟩, ⟨3, .guard⟩], some (3, false)⟩) (v := .bool false) (Or.inl ⟨by rfl, fun w' hSw => by go_simp⟩) hHeld ?_
      try simp only [zP, zQ, zS, zZ, zC]
      refine wt (i := 7) (oi := ⟨some 90, .pick (.tmp 86) (.const (Value.bool true)) (.tmp 89), 4, "law.go:57", #[⟨3, .data⟩, ⟨6, .data⟩], none⟩) (v := .bool false) (Or.inl ⟨by rfl, fun w' hSw => by go_simp⟩) hHeld ?_
      try simp only [zP, zQ, zS, zZ, zC]
      refine wt (i := 8) (oi := ⟨some 91, .move (.tmp 90), 4, "law.go:57", #[⟨7, .data⟩, ⟨3, .chain⟩], none⟩) (v := .bool false) (Or.inl ⟨by rfl, fun w' hSw => by go_simp⟩) hHeld ?_
      try simp only [zP, zQ, zS, zZ, zC]
      refine wt (i := 9) (oi := ⟨some 92, .load 28 (.tmp 13), 28, "law.go:57", #[⟨8, .guard⟩], some (8, false)⟩) (v := _) (yieldsIf_load_mid (by rfl) _ _ rfl cb (0) rfl [.slice qe ne ce, .slice ql nl cl, .slice qc nc cc] _ (fun w' hSw => KB w' hSw) Try.underlying28 rfl (by kernel_rfl)) hHeld ?_
      try simp only [zP, zQ, zS, zZ, zC]
      refine wt (i := 11) (oi := ⟨some 94, .load 32 (.tmp 15), 32, "law.go:57", #[⟨8, .guard⟩], some (8, false)⟩) (v := _) (yieldsIf_load_mid (by rfl) _ _ rfl rb (0) rfl [.slice qe2 ne ce2, .slice ql2 nl cl2, .slice qc2 nc cc2] _ (fun w' hSw => KR w' hSw) Try.underlying32 rfl (by kernel_rfl)) hHeld ?_
      try simp only [zP, zQ, zS, zZ, zC]
      refine wpAnyH_ready (rs := [10]) (by kernel_rfl) (by simp) ?_
      refine AllReadyH.cons (o := ⟨some 93, .call { callee := .value (.func 15), args := #[.tmp 92], argTypes := #[28] }, 32, "law.go:57", #[⟨9, .data⟩, ⟨8, .chain⟩, ⟨8, .guard⟩], some (8, false)⟩) rfl (fun K hK => ?_) AllReadyH.nil
      rw [if_pos (by rfl)]
      go_simp
      refine (plain_any qe ne ce ql nl cl qc nc cc V0).mono ?_
      rintro en V1 ⟨rfl, hB9⟩
      dsimp only
      refine hK.out _ _ (link hHeld hB9) (fun hHeld => ?_)
      clear hK K
      try simp only [zP, zQ, zS, zZ, zC]
      clear hB9
      refine wpAnyH_ready (rs := [12]) (by kernel_rfl) (by simp) ?_
      refine AllReadyH.cons (o := ⟨some 95, .call { callee := .value (.func 14), args := #[.tmp 93, .tmp 94], argTypes := #[32, 32] }, 4, "law.go:57", #[⟨10, .data⟩, ⟨11, .data⟩, ⟨10, .chain⟩, ⟨8, .guard⟩], some (8, false)⟩) rfl (fun K hK => ?_) AllReadyH.nil
      rw [if_pos (by rfl)]
      go_simp
      refine (same_self qe ne ce ql nl cl qc nc cc qe2 ne ce2 ql2 nl cl2 qc2 nc cc2 _ _ _ V1 (CT1 V1 hHeld) (CT2 V1 hHeld)).mono ?_
      rintro en V2 ⟨rfl, hB9⟩
      dsimp only
      refine hK.out _ _ (link hHeld hB9) (fun hHeld => ?_)
      clear hK K
      try simp only [zP, zQ, zS, zZ, zC]
      clear hB9
      refine wt (i := 13) (oi := ⟨some 96, .unOp .not 4 (.tmp 95), 4, "law.go:57", #[⟨12, .data⟩, ⟨8, .guard⟩], some (8, false)⟩) (v := .bool false) (Or.inl ⟨by rfl, fun w' hSw => by go_simp⟩) hHeld ?_
      try simp only [zP, zQ, zS, zZ, zC]
      refine wt (i := 14) (oi := ⟨some 97, .pick (.tmp 91) (.const (Value.bool true)) (.tmp 96), 4, "law.go:57", #[⟨8, .data⟩, ⟨13, .data⟩], none⟩) (v := .bool false) (Or.inl ⟨by rfl, fun w' hSw => by go_simp⟩) hHeld ?_
      try simp only [zP, zQ, zS, zZ, zC]
      refine wt (i := 15) (oi := ⟨some 98, .move (.tmp 97), 4, "law.go:57", #[⟨14, .data⟩, ⟨12, .chain⟩], none⟩) (v := .bool false) (Or.inl ⟨by rfl, fun w' hSw => by go_simp⟩) hHeld ?_
      try simp only [zP, zQ, zS, zZ, zC]
      refine wt (i := 16) (oi := ⟨some 99, .move (.tmp 17), 22, "law.go:57", #[⟨15, .guard⟩], some (15, false)⟩) (v := .slice qg ng cg) (Or.inl ⟨by rfl, fun w' hSw => by go_simp⟩) hHeld ?_
      try simp only [zP, zQ, zS, zZ, zC]
      refine wt (i := 17) (oi := ⟨some 100, .move (.tmp 19), 22, "law.go:57", #[⟨15, .guard⟩], some (15, false)⟩) (v := .slice qh ng ch) (Or.inl ⟨by rfl, fun w' hSw => by go_simp⟩) hHeld ?_
      try simp only [zP, zQ, zS, zZ, zC]
      refine wpAnyH_ready (rs := [18]) (by kernel_rfl) (by simp) ?_
      refine AllReadyH.cons (o := ⟨some 101, .call { callee := .value (.func 16), args := #[.tmp 99, .tmp 100], argTypes := #[22, 22] }, 4, "law.go:57", #[⟨16, .data⟩, ⟨17, .data⟩, ⟨15, .chain⟩, ⟨15, .guard⟩], some (15, false)⟩) rfl (fun K hK => ?_) AllReadyH.nil
      rw [if_pos (by rfl)]
      go_simp
      refine (sameInts_refl G qg qh ng cg ch HNg.out (by omega) V2 (AG V2 hHeld) (AH V2 hHeld)).mono ?_
      rintro en V3 ⟨rfl, hB9⟩
      dsimp only
      refine hK.out _ _ (link hHeld hB9) (fun hHeld => ?_)
      clear hK K
      try simp only [zP, zQ, zS, zZ, zC]
      clear hB9
      refine wt (i := 19) (oi := ⟨some 102, .unOp .not 4 (.tmp 101), 4, "law.go:57", #[⟨18, .data⟩, ⟨15, .guard⟩], some (15, false)⟩) (v := .bool false) (Or.inl ⟨by rfl, fun w' hSw => by go_simp⟩) hHeld ?_
      try simp only [zP, zQ, zS, zZ, zC]
      refine wt (i := 20) (oi := ⟨some 103, .pick (.tmp 98) (.const (Value.bool true)) (.tmp 102), 4, "law.go:57", #[⟨15, .data⟩, ⟨19, .data⟩], none⟩) (v := .bool false) (Or.inl ⟨by rfl, fun w' hSw => by go_simp⟩) hHeld ?_
      try simp only [zP, zQ, zS, zZ, zC]
      refine wpAnyH_done (by kernel_rfl) ?_ _
      have BX := hHeld
      clear hHeld KB KR CT1 CT2 AG AH
      have BY := link hB BX
      go_wp2
      exact ⟨⟨i + 1, by omega, by go_num, BY⟩, by simp [intOf]; omega⟩
    · obtain rfl : i = 5 := by omega
      go_wp2_with (go_at_call 17; refine (HLv.out wr).mono ?_; rintro en W9 ⟨rfl, hB9⟩)
      go_ret
      exact ⟨rfl, link XB.out (link hB hB9)⟩
end Go.Proofs.Ytacdjchkilheiaa
