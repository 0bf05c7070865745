/-
  ImposeLeaves, walked.
-/
import Derived.Test.YtahmpagolmodhaaJo
import Derived.Test.YtahmpagolmodhaaRi
namespace Go.Proofs.Ytahmpagolmodhaa
open Go.RowKit
set_option linter.unusedVariables false
set_option linter.unusedSimpArgs false

theorem leaf_law (x : Int) : (leafT x > 0 → (frontT x = true → pagA (leafT x) = x) ∧ (frontT x = false → pagB (leafT x) = x)) ∧
    (pagA x > 0 → leafT (pagA x) = x ∧ frontT (pagA x) = true ∧ leafT (pagB x) = x ∧ frontT (pagB x) = false) := by
  unfold leafT frontT pagA pagB
  by_cases h1 : x < 1 ∨ 1024 < x
  · rw [if_pos h1, if_pos h1, if_pos (by omega : x < 1 ∨ 512 < x), if_pos (by omega : x < 1 ∨ 512 < x)]
    exact ⟨fun h => absurd h (by omega), fun h => absurd h (by omega)⟩
  · rw [if_neg h1, if_neg h1]
    refine ⟨fun _ => ⟨fun h => ?_, fun h => ?_⟩, fun h => ?_⟩
    · have h := of_decide_eq_true h
      rw [if_neg (by omega)]; omega
    · have h := of_decide_eq_false h
      rw [if_neg (by omega)]; omega
    · by_cases h2 : x < 1 ∨ 512 < x
      · rw [if_pos h2] at h; omega
      · rw [if_neg h2, if_neg h2, if_neg (by omega), if_neg (by omega), if_neg (by omega), if_neg (by omega)]
        exact ⟨by omega, decide_eq_true (by omega), by omega, decide_eq_false (by omega)⟩
theorem pag_in (x : Int) : 0 ≤ pagA x ∧ pagA x ≤ 1024 ∧ 0 ≤ pagB x ∧ pagB x ≤ 1024 := by
  unfold pagA pagB; split <;> omega
theorem leaf_in (x : Int) : 0 ≤ leafT x ∧ leafT x ≤ 512 := by
  unfold leafT; split <;> omega
theorem rng {w : World} {p : Nat} {x : Int × Int} (h : At prE w (some ⟨p, 0, none⟩) [x]) : w.rangeAt p 0 [.int .i64 x.1, .int .i64 x.2] := by
  obtain ⟨b', off, e, hL⟩ := h.get (i := 0) (by simp)
  injection e with e
  injection e with e e2
  subst e
  subst e2
  exact hL.range (i := 0) rfl
def LvRel (V : World) (v : Value) (wr : World) : Prop := ∃ i : Nat, v = .int .i64 (i : Int) ∧ i ≤ 10 ∧ Below V.heap.size V wr
set_option maxHeartbeats 4000000 in
set_option maxRecDepth 100000 in
theorem imposeLeaves_any (n m : Int) (n1 : -9223372036854775808 ≤ n) (n2 : n ≤ 9223372036854775807) (m1 : -9223372036854775808 ≤ m) (m2 : m ≤ 9223372036854775807) (w : World) :
    Calls Try.prog 5 #[.int .i64 n, .int .i64 m] w (Yes w) := by
  have CA := Lib.hid (arnd n n1 n2 1026 (by omega) (by omega))
  have CB := Lib.hid (arnd m m1 m2 514 (by omega) (by omega))
  have CL := Lib.hid (fun V => lives_any V)
  go_enter Try.func5, Try.ntmps5
  go_upto_region 2 with (first
    | (go_at_call_of 25 (Value.int IntKind.i64 1026); refine (CA.out _).mono ?_; rintro _ _ ⟨r, hr, rfl, rfl⟩)
    | (go_at_call_of 25 (Value.int IntKind.i64 514); refine (CB.out _).mono ?_; rintro _ w ⟨s, hs, rfl, rfl⟩))
  have AT := at_new intE w #[.int .i64 n, .int .i64 m, .int .i64 (r : Int), .int .i64 (s : Int), .int .i64 0, .int .i64 1, .int .i64 512, .int .i64 513, .int .i64 1024, .int .i64 1025] [n, m, (r : Int), (s : Int), 0, 1, 512, 513, 1024, 1025] rfl
  have XV : Below w.heap.size w (w.alloc (.cells #[.int .i64 n, .int .i64 m, .int .i64 (r : Int), .int .i64 (s : Int), .int .i64 0, .int .i64 1, .int .i64 512, .int .i64 513, .int .i64 1024, .int .i64 1025] 3)) := (Below.refl _ _).alloc (Nat.le_refl _) _
  have hbV : w.heap.size < (w.alloc (.cells #[.int .i64 n, .int .i64 m, .int .i64 (r : Int), .int .i64 (s : Int), .int .i64 0, .int .i64 1, .int .i64 512, .int .i64 513, .int .i64 1024, .int .i64 1025] 3)).heap.size := by rw [World.size_alloc]; omega
  change At intE (w.alloc (.cells #[.int .i64 n, .int .i64 m, .int .i64 (r : Int), .int .i64 (s : Int), .int .i64 0, .int .i64 1, .int .i64 512, .int .i64 513, .int .i64 1024, .int .i64 1025] 3)) _ _ at AT
  generalize w.alloc (.cells #[.int .i64 n, .int .i64 m, .int .i64 (r : Int), .int .i64 (s : Int), .int .i64 0, .int .i64 1, .int .i64 512, .int .i64 513, .int .i64 1024, .int .i64 1025] 3) = V at AT XV hbV ⊢
  have hxs : ∀ x ∈ [n, m, (r : Int), (s : Int), 0, 1, 512, 513, 1024, 1025], -9223372036854775808 ≤ x ∧ x ≤ 9223372036854775807 := by intro x hx; simp at hx; omega
  obtain ⟨b, hb⟩ : ∃ b, w.heap.size = b := ⟨_, rfl⟩
  obtain ⟨xs, hxl⟩ : ∃ xs, [n, m, (r : Int), (s : Int), 0, 1, 512, 513, 1024, 1025] = xs := ⟨_, rfl⟩
  rw [hxl] at AT hxs
  have hx6 : xs.length = 10 := by rw [← hxl]; rfl
  have X0 := Lib.hid XV
  rw [hb] at AT hbV ⊢
  have HX := Lib.hid hxs
  have HX6 := Lib.hid hx6
  clear hb hxl hxs hx6 XV CA CB
  go_wp2
  go_loopw [6] (fun v wr => LvRel V v wr) (fun v _ => 10 - (intOf v).toNat)
  case atStart => exact ⟨0, rfl, by omega, Below.refl _ _⟩
  case round =>
    obtain ⟨i, rfl, hi, hB⟩ := hrel
    rcases Nat.lt_or_ge i 10 with hlt | hge
    · have hltz : (i : Int) < 10 := by omega
      obtain ⟨x, hx⟩ : ∃ x, xs[i]? = some x := ⟨_, List.getElem?_eq_getElem (by rw [HX6.out]; exact hlt)⟩
      obtain ⟨hx1, hx2⟩ := HX.out x (List.mem_of_getElem? hx)
      have cx : ∀ W, Below V.heap.size V W → W.cell? ⟨b, i, none⟩ = some (.int .i64 x) := fun W hW => by
        obtain ⟨b', off, e, hL⟩ := (AT.keep hW).get (List.getElem?_eq_some_iff.1 hx).1
        injection e with e
        injection e with e e2
        subst e
        subst e2
        have := hL.2 i x 0 _ hx rfl
        rw [Nat.zero_add] at this
        have e9 : i * intE.k + 0 = i := by show i * 1 + 0 = i; omega
        rw [e9] at this
        exact this
      have c0 := cx wr hB
      have CX := Lib.hid cx
      clear cx hx
      have C1 := Lib.hid (leaf_any x hx1 hx2)
      have C2 := Lib.hid (rleaf_any x hx1 hx2)
      have C3 := Lib.hid (pages_any x)
      have C4 := Lib.hid (rpages_any x)
      have hl := leaf_law x
      have hp := pag_in x
      have hk := leaf_in x
      have C5 := Lib.hid (pages_any (leafT x))
      have C6 := Lib.hid (leaf_any (pagA x) (by omega) (by omega))
      have C7 := Lib.hid (leaf_any (pagB x) (by omega) (by omega))
      generalize leafT x = k at *
      generalize frontT x = f at *
      generalize pagA x = pa at *
      generalize pagB x = pb at *
      go_upto_region 8 with (first
        | (go_at_call 26; refine (C1.out _).mono ?_; rintro _ _ ⟨rfl, rfl⟩)
        | (go_at_call 27; refine (C2.out _).mono ?_; rintro _ _ ⟨rfl, rfl⟩)
        | (go_at_call 28; refine (C3.out _).mono ?_; rintro _ w3 ⟨rfl, B3⟩; have hB3 := hB.trans (B3.mono hB.size); have c3 := CX.out w3 hB3))
      -- MARK
      have A4 := at_new prE w3 #[.int .i64 pa, .int .i64 pb] [(pa, pb)] rfl
      have X4 : Below w3.heap.size w3 (w3.alloc (.cells #[.int .i64 pa, .int .i64 pb] 25)) := (Below.refl _ _).alloc (Nat.le_refl _) _
      have hs4 : w3.heap.size < (w3.alloc (.cells #[.int .i64 pa, .int .i64 pb] 25)).heap.size := by rw [World.size_alloc]; omega
      change At prE (w3.alloc (.cells #[.int .i64 pa, .int .i64 pb] 25)) _ _ at A4
      have hB4 := hB3.trans (X4.mono hB3.size)
      obtain ⟨p, hpe⟩ : ∃ p, w3.heap.size = p := ⟨_, rfl⟩
      generalize w3.alloc (.cells #[.int .i64 pa, .int .i64 pb] 25) = w4 at A4 X4 hB4 hs4 ⊢
      rw [hpe] at A4 hs4 ⊢
      have R4 := Lib.hid (fun (W : World) (hW : Below w4.heap.size w4 W) => rng (A4.keep hW))
      have hB4 := Lib.hid hB4
      have HEQ := Lib.hid (fun V : World => (equal_pr (pa, pb) (pa, pb) V).trans (by rw [decide_eq_true rfl]))
      clear A4 X4 hpe c3 hB3 B3 c0 C1 C2 C3
      refine wp_region_held_drew (S := fun w' => Below w4.heap.size w4 w') (by kernel_rfl) (below_drew (Below.refl _ _)) (fun _ => ?_)
      have hHeld : Below w4.heap.size w4 w4.drew := below_drew (Below.refl _ _)
      generalize w4.drew = V0 at hHeld ⊢
      refine wt (i := 0) (oi := ⟨some 51, .move (.tmp 7), 3, "law.go:113", #[], none⟩) (v := .int .i64 k) (Or.inl ⟨by rfl, fun w' hSw => by go_simp⟩) hHeld ?_
      try simp only [zP, zQ, zS, zZ, zC]
      refine wt (i := 1) (oi := ⟨some 52, .move (.tmp 9), 3, "law.go:113", #[], none⟩) (v := .int .i64 k) (Or.inl ⟨by rfl, fun w' hSw => by go_simp⟩) hHeld ?_
      try simp only [zP, zQ, zS, zZ, zC]
      refine wt (i := 2) (oi := ⟨some 53, .binOp .neq 3 (.tmp 51) (.tmp 52) 3, 4, "law.go:113", #[⟨0, .data⟩, ⟨1, .data⟩], none⟩) (v := .bool false) (Or.inl ⟨by rfl, fun w' hSw => by go_simp⟩) hHeld ?_
      try simp only [zP, zQ, zS, zZ, zC]
      refine wt (i := 3) (oi := ⟨some 54, .move (.tmp 53), 4, "law.go:113", #[⟨2, .data⟩], none⟩) (v := .bool false) (Or.inl ⟨by rfl, fun w' hSw => by go_simp⟩) hHeld ?_
      try simp only [zP, zQ, zS, zZ, zC]
      refine wt (i := 4) (oi := ⟨some 55, .move (.tmp 8), 4, "law.go:113", #[⟨3, .guard⟩], some (3, false)⟩) (v := .bool f) (Or.inl ⟨by rfl, fun w' hSw => by go_simp⟩) hHeld ?_
      try simp only [zP, zQ, zS, zZ, zC]
      refine wt (i := 5) (oi := ⟨some 56, .move (.tmp 10), 4, "law.go:113", #[⟨3, .guard⟩], some (3, false)⟩) (v := .bool f) (Or.inl ⟨by rfl, fun w' hSw => by go_simp⟩) hHeld ?_
      try simp only [zP, zQ, zS, zZ, zC]
      refine wt (i := 6) (oi := ⟨some 57, .binOp .neq 4 (.tmp 55) (.tmp 56) 4, 4, "law.go:113", #[⟨4, .data⟩, ⟨5, .data⟩, ⟨3, .guard⟩], some (3, false)⟩) (v := .bool false) (Or.inl ⟨by rfl, fun w' hSw => by go_simp⟩) hHeld ?_
      try simp only [zP, zQ, zS, zZ, zC]
      refine wt (i := 7) (oi := ⟨some 58, .pick (.tmp 54) (.const (Value.bool true)) (.tmp 57), 4, "law.go:113", #[⟨3, .data⟩, ⟨6, .data⟩], none⟩) (v := .bool false) (Or.inl ⟨by rfl, fun w' hSw => by go_simp⟩) hHeld ?_
      try simp only [zP, zQ, zS, zZ, zC]
      refine wt (i := 8) (oi := ⟨some 59, .move (.tmp 58), 4, "law.go:113", #[⟨7, .data⟩, ⟨3, .chain⟩], none⟩) (v := .bool false) (Or.inl ⟨by rfl, fun w' hSw => by go_simp⟩) hHeld ?_
      try simp only [zP, zQ, zS, zZ, zC]
      refine wt (i := 9) (oi := ⟨some 60, .load 25 (.tmp 11), 25, "law.go:113", #[⟨8, .guard⟩], some (8, false)⟩) (v := _) (yieldsIf_load_mid (by rfl) _ _ rfl p (0) rfl [.int .i64 pa, .int .i64 pb] _ (fun w' hSw => R4.out w' hSw) Try.underlying25 rfl (by kernel_rfl)) hHeld ?_
      try simp only [zP, zQ, zS, zZ, zC]
      refine wt (i := 10) (oi := ⟨some 61, .move (.tmp 5), 44, "law.go:113", #[⟨8, .guard⟩], some (8, false)⟩) (v := .slice (some ⟨b, 0, none⟩) 10 10) (Or.inl ⟨by rfl, fun w' hSw => by go_simp⟩) hHeld ?_
      try simp only [zP, zQ, zS, zZ, zC]
      refine wt (i := 11) (oi := ⟨some 62, .move (.tmp 6), 3, "law.go:113", #[⟨8, .guard⟩], some (8, false)⟩) (v := .int .i64 (i : Int)) (Or.inl ⟨by rfl, fun w' hSw => by go_simp⟩) hHeld ?_
      try simp only [zP, zQ, zS, zZ, zC]
      refine wt (i := 12) (oi := ⟨some 63, .indexAddr 44 (.tmp 61) (.tmp 62), 0, "law.go:113", #[⟨10, .data⟩, ⟨11, .data⟩, ⟨8, .guard⟩], some (8, false)⟩) (v := .pointer (some ⟨b, i, none⟩)) (Or.inl ⟨by rfl, fun w' hSw => by go_simp⟩) hHeld ?_
      try simp only [zP, zQ, zS, zZ, zC]
      refine wt (i := 13) (oi := ⟨some 64, .load 3 (.tmp 63), 3, "law.go:113", #[⟨12, .data⟩, ⟨8, .guard⟩], some (8, false)⟩) (v := .int .i64 x) (Or.inl ⟨by rfl, fun w' hSw => by have c9 := CX.out w' (hB4.out.trans (hSw.mono hB4.out.size)); go_simp⟩) hHeld ?_
      try simp only [zP, zQ, zS, zZ, zC]
      refine wpAnyH_ready (rs := [14]) (by kernel_rfl) (by simp) ?_
      refine AllReadyH.cons (o := ⟨some 65, .call { callee := .value (.func 29), args := #[.tmp 64], argTypes := #[3] }, 25, "law.go:113", #[⟨13, .data⟩, ⟨8, .chain⟩, ⟨8, .guard⟩], some (8, false)⟩) rfl (fun K hK => ?_) AllReadyH.nil
      rw [if_pos (by rfl)]
      go_simp
      refine (C4.out _).mono ?_
      rintro en V5 ⟨rfl, hB9⟩
      dsimp only
      refine hK.out _ _ (link hHeld hB9) (fun hHeld => ?_)
      clear hK K
      try simp only [zP, zQ, zS, zZ, zC]
      clear hB9
      refine wt (i := 15) (oi := ⟨some 66, .binOp .neq 25 (.tmp 60) (.tmp 65) 25, 4, "law.go:113", #[⟨9, .data⟩, ⟨14, .data⟩, ⟨8, .guard⟩], some (8, false)⟩) (v := .bool false) (Or.inl ⟨by rfl, fun w' hSw => by have hq := HEQ.out w'; go_simp⟩) hHeld ?_
      try simp only [zP, zQ, zS, zZ, zC]
      refine wt (i := 16) (oi := ⟨some 67, .pick (.tmp 59) (.const (Value.bool true)) (.tmp 66), 4, "law.go:113", #[⟨8, .data⟩, ⟨15, .data⟩], none⟩) (v := .bool false) (Or.inl ⟨by rfl, fun w' hSw => by go_simp⟩) hHeld ?_
      try simp only [zP, zQ, zS, zZ, zC]
      refine wpAnyH_done (by kernel_rfl) ?_ _
      have B5 := hHeld
      clear hHeld 
      have hB5 := hB4.out.trans (B5.mono hB4.out.size)
      have r5 := R4.out _ B5
      have r5a : V5.cell? ⟨p, 0, none⟩ = some (.int .i64 pa) := r5 0 _ rfl
      have r5b : V5.cell? ⟨p, 1, none⟩ = some (.int .i64 pb) := r5 1 _ rfl
      have c5 := CX.out _ hB5
      clear HEQ r5
      rcases Int.lt_or_le 0 k with hk0 | hk0
      · have hlk := hl.1 hk0
        have hkd : decide (k > 0) = true := decide_eq_true hk0
        go_upto_region 12 with (go_at_call 28; refine (C5.out _).mono ?_; rintro _ w6 ⟨rfl, B6⟩)
        have A7 := at_new prE w6 #[.int .i64 (pagA k), .int .i64 (pagB k)] [(pagA k, pagB k)] rfl
        have X7 : Below w6.heap.size w6 (w6.alloc (.cells #[.int .i64 (pagA k), .int .i64 (pagB k)] 25)) := (Below.refl _ _).alloc (Nat.le_refl _) _
        change At prE (w6.alloc (.cells #[.int .i64 (pagA k), .int .i64 (pagB k)] 25)) _ _ at A7
        have L6 := link B6 X7
        have hB7 := Lib.hid (hB5.trans (L6.mono hB5.size))
        have L7 := Lib.hid L6
        clear L6
        obtain ⟨g, hge⟩ : ∃ g, w6.heap.size = g := ⟨_, rfl⟩
        generalize w6.alloc (.cells #[.int .i64 (pagA k), .int .i64 (pagB k)] 25) = w7 at A7 X7 L7 hB7 ⊢
        rw [hge] at A7 ⊢
        have R7 := Lib.hid (fun (W : World) (hW : Below w7.heap.size w7 W) => rng (A7.keep hW))
        clear A7 X7 hge B6 C5 r5a r5b c5
        rcases f with _ | _
        · have hq := hlk.2 rfl
          rw [hq] at R7 ⊢
          clear hq
          generalize pagA k = z at *
          refine wp_region_held_drew (S := fun w' => Below w7.heap.size w7 w') (by kernel_rfl) (below_drew (Below.refl _ _)) (fun _ => ?_)
          have hHeld : Below w7.heap.size w7 w7.drew := below_drew (Below.refl _ _)
          generalize w7.drew = V0 at hHeld ⊢
          refine wt (i := 0) (oi := ⟨some 72, .move (.tmp 8), 4, "law.go:118", #[], none⟩) (v := .bool false) (Or.inl ⟨by rfl, fun w' hSw => by go_simp⟩) hHeld ?_
          try simp only [zP, zQ, zS, zZ, zC]
          refine wt (i := 1) (oi := ⟨some 73, .move (.tmp 72), 4, "law.go:118", #[⟨0, .data⟩], none⟩) (v := .bool false) (Or.inl ⟨by rfl, fun w' hSw => by go_simp⟩) hHeld ?_
          try simp only [zP, zQ, zS, zZ, zC]
          refine wt (i := 2) (oi := ⟨some 74, .indexAddr 25 (.tmp 12) (.const (Value.int IntKind.i64 0)), 0, "law.go:118", #[⟨1, .guard⟩], some (1, true)⟩) (v := undef) (Or.inr ⟨by rfl, rfl⟩) hHeld ?_
          try simp only [zP, zQ, zS, zZ, zC]
          refine wt (i := 3) (oi := ⟨some 75, .load 3 (.tmp 74), 3, "law.go:118", #[⟨2, .data⟩, ⟨1, .guard⟩], some (1, true)⟩) (v := undef) (Or.inr ⟨by rfl, rfl⟩) hHeld ?_
          try simp only [zP, zQ, zS, zZ, zC]
          refine wt (i := 4) (oi := ⟨some 76, .move (.tmp 5), 44, "law.go:118", #[⟨1, .guard⟩], some (1, true)⟩) (v := undef) (Or.inr ⟨by rfl, rfl⟩) hHeld ?_
          try simp only [zP, zQ, zS, zZ, zC]
          refine wt (i := 5) (oi := ⟨some 77, .move (.tmp 6), 3, "law.go:118", #[⟨1, .guard⟩], some (1, true)⟩) (v := undef) (Or.inr ⟨by rfl, rfl⟩) hHeld ?_
          try simp only [zP, zQ, zS, zZ, zC]
          refine wt (i := 6) (oi := ⟨some 78, .indexAddr 44 (.tmp 76) (.tmp 77), 0, "law.go:118", #[⟨4, .data⟩, ⟨5, .data⟩, ⟨1, .guard⟩], some (1, true)⟩) (v := undef) (Or.inr ⟨by rfl, rfl⟩) hHeld ?_
          try simp only [zP, zQ, zS, zZ, zC]
          refine wt (i := 7) (oi := ⟨some 79, .load 3 (.tmp 78), 3, "law.go:118", #[⟨6, .data⟩, ⟨1, .guard⟩], some (1, true)⟩) (v := undef) (Or.inr ⟨by rfl, rfl⟩) hHeld ?_
          try simp only [zP, zQ, zS, zZ, zC]
          refine wt (i := 8) (oi := ⟨some 80, .binOp .neq 3 (.tmp 75) (.tmp 79) 3, 4, "law.go:118", #[⟨3, .data⟩, ⟨7, .data⟩, ⟨1, .guard⟩], some (1, true)⟩) (v := undef) (Or.inr ⟨by rfl, rfl⟩) hHeld ?_
          try simp only [zP, zQ, zS, zZ, zC]
          refine wt (i := 9) (oi := ⟨some 81, .pick (.tmp 73) (.tmp 80) (.const (Value.bool false)), 4, "law.go:118", #[⟨1, .data⟩, ⟨8, .data⟩], none⟩) (v := .bool false) (Or.inl ⟨by rfl, fun w' hSw => by go_simp⟩) hHeld ?_
          try simp only [zP, zQ, zS, zZ, zC]
          refine wt (i := 10) (oi := ⟨some 82, .move (.tmp 81), 4, "law.go:118", #[⟨9, .data⟩, ⟨1, .chain⟩], none⟩) (v := .bool false) (Or.inl ⟨by rfl, fun w' hSw => by go_simp⟩) hHeld ?_
          try simp only [zP, zQ, zS, zZ, zC]
          refine wt (i := 11) (oi := ⟨some 83, .move (.tmp 8), 4, "law.go:118", #[⟨10, .guard⟩], some (10, false)⟩) (v := .bool false) (Or.inl ⟨by rfl, fun w' hSw => by go_simp⟩) hHeld ?_
          try simp only [zP, zQ, zS, zZ, zC]
          refine wt (i := 12) (oi := ⟨some 84, .unOp .not 4 (.tmp 83), 4, "law.go:118", #[⟨11, .data⟩, ⟨10, .guard⟩], some (10, false)⟩) (v := .bool true) (Or.inl ⟨by rfl, fun w' hSw => by go_simp⟩) hHeld ?_
          try simp only [zP, zQ, zS, zZ, zC]
          refine wt (i := 13) (oi := ⟨some 85, .move (.tmp 84), 4, "law.go:118", #[⟨12, .data⟩, ⟨10, .chain⟩, ⟨10, .guard⟩], some (10, false)⟩) (v := .bool true) (Or.inl ⟨by rfl, fun w' hSw => by go_simp⟩) hHeld ?_
          try simp only [zP, zQ, zS, zZ, zC]
          refine wt (i := 14) (oi := ⟨some 86, .indexAddr 25 (.tmp 12) (.const (Value.int IntKind.i64 1)), 0, "law.go:118", #[⟨13, .guard⟩], some (13, true)⟩) (v := .pointer (some ⟨g, 1, none⟩)) (Or.inl ⟨by rfl, fun w' hSw => by go_simp⟩) hHeld ?_
          try simp only [zP, zQ, zS, zZ, zC]
          refine wt (i := 15) (oi := ⟨some 87, .load 3 (.tmp 86), 3, "law.go:118", #[⟨14, .data⟩, ⟨13, .guard⟩], some (13, true)⟩) (v := .int .i64 x) (Or.inl ⟨by rfl, fun w' hSw => by have c8 := (R7.out w' hSw) 1 _ rfl; go_simp⟩) hHeld ?_
          try simp only [zP, zQ, zS, zZ, zC]
          refine wt (i := 16) (oi := ⟨some 88, .move (.tmp 5), 44, "law.go:118", #[⟨13, .guard⟩], some (13, true)⟩) (v := .slice (some ⟨b, 0, none⟩) 10 10) (Or.inl ⟨by rfl, fun w' hSw => by go_simp⟩) hHeld ?_
          try simp only [zP, zQ, zS, zZ, zC]
          refine wt (i := 17) (oi := ⟨some 89, .move (.tmp 6), 3, "law.go:118", #[⟨13, .guard⟩], some (13, true)⟩) (v := .int .i64 (i : Int)) (Or.inl ⟨by rfl, fun w' hSw => by go_simp⟩) hHeld ?_
          try simp only [zP, zQ, zS, zZ, zC]
          refine wt (i := 18) (oi := ⟨some 90, .indexAddr 44 (.tmp 88) (.tmp 89), 0, "law.go:118", #[⟨16, .data⟩, ⟨17, .data⟩, ⟨13, .guard⟩], some (13, true)⟩) (v := .pointer (some ⟨b, i, none⟩)) (Or.inl ⟨by rfl, fun w' hSw => by go_simp⟩) hHeld ?_
          try simp only [zP, zQ, zS, zZ, zC]
          refine wt (i := 19) (oi := ⟨some 91, .load 3 (.tmp 90), 3, "law.go:118", #[⟨18, .data⟩, ⟨13, .guard⟩], some (13, true)⟩) (v := .int .i64 x) (Or.inl ⟨by rfl, fun w' hSw => by have c9 := CX.out w' (hB7.out.trans (hSw.mono hB7.out.size)); go_simp⟩) hHeld ?_
          try simp only [zP, zQ, zS, zZ, zC]
          refine wt (i := 20) (oi := ⟨some 92, .binOp .neq 3 (.tmp 87) (.tmp 91) 3, 4, "law.go:118", #[⟨15, .data⟩, ⟨19, .data⟩, ⟨13, .guard⟩], some (13, true)⟩) (v := .bool false) (Or.inl ⟨by rfl, fun w' hSw => by go_simp⟩) hHeld ?_
          try simp only [zP, zQ, zS, zZ, zC]
          refine wt (i := 21) (oi := ⟨some 93, .pick (.tmp 85) (.tmp 92) (.const (Value.bool false)), 4, "law.go:118", #[⟨13, .data⟩, ⟨20, .data⟩, ⟨10, .guard⟩], some (10, false)⟩) (v := .bool false) (Or.inl ⟨by rfl, fun w' hSw => by go_simp⟩) hHeld ?_
          try simp only [zP, zQ, zS, zZ, zC]
          refine wt (i := 22) (oi := ⟨some 94, .pick (.tmp 82) (.const (Value.bool true)) (.tmp 93), 4, "law.go:118", #[⟨10, .data⟩, ⟨21, .data⟩], none⟩) (v := .bool false) (Or.inl ⟨by rfl, fun w' hSw => by go_simp⟩) hHeld ?_
          try simp only [zP, zQ, zS, zZ, zC]
          refine wpAnyH_done (by kernel_rfl) ?_ _
          have B8 := hHeld
          clear hHeld 
          have hB8 := hB7.out.trans (B8.mono hB7.out.size)
          have L8 := L7.out.trans (B8.mono L7.out.size)
          have r5 := R4.out _ (B5.trans (L8.mono B5.size))
          have r5a := r5 0 _ rfl
          have r5b := r5 1 _ rfl
          simp only [Nat.zero_add] at r5a r5b
          have c5 := CX.out _ hB8
          clear r5 R7 L8 B8
          rcases Int.lt_or_le 0 pa with hpa | hpa
          · obtain ⟨e1, e2, e3, e4⟩ := hl.2 hpa
            rw [e1, e2] at C6
            rw [e3, e4] at C7
            clear e1 e2 e3 e4
            go_wp2_with (first
              | (go_at_call_of 26 (Value.int IntKind.i64 pa); refine (C6.out _).mono ?_; rintro _ _ ⟨rfl, rfl⟩)
              | (go_at_call_of 26 (Value.int IntKind.i64 pb); refine (C7.out _).mono ?_; rintro _ _ ⟨rfl, rfl⟩))
            exact ⟨⟨i + 1, by go_num, by omega, hB8⟩, by simp [intOf]; omega⟩
          · have hpz : decide (pa > 0) = false := decide_eq_false (by omega)
            generalize leafT pa = la at *
            generalize frontT pa = fa at *
            generalize leafT pb = lb at *
            generalize frontT pb = fb at *
            go_wp2_with (first
              | (go_at_call_of 26 (Value.int IntKind.i64 pa); refine (C6.out _).mono ?_; rintro _ _ ⟨rfl, rfl⟩)
              | (go_at_call_of 26 (Value.int IntKind.i64 pb); refine (C7.out _).mono ?_; rintro _ _ ⟨rfl, rfl⟩))
            exact ⟨⟨i + 1, by go_num, by omega, hB8⟩, by simp [intOf]; omega⟩
        · have hq := hlk.1 rfl
          rw [hq] at R7 ⊢
          clear hq
          generalize pagB k = z at *
          refine wp_region_held_drew (S := fun w' => Below w7.heap.size w7 w') (by kernel_rfl) (below_drew (Below.refl _ _)) (fun _ => ?_)
          have hHeld : Below w7.heap.size w7 w7.drew := below_drew (Below.refl _ _)
          generalize w7.drew = V0 at hHeld ⊢
          refine wt (i := 0) (oi := ⟨some 72, .move (.tmp 8), 4, "law.go:118", #[], none⟩) (v := .bool true) (Or.inl ⟨by rfl, fun w' hSw => by go_simp⟩) hHeld ?_
          try simp only [zP, zQ, zS, zZ, zC]
          refine wt (i := 1) (oi := ⟨some 73, .move (.tmp 72), 4, "law.go:118", #[⟨0, .data⟩], none⟩) (v := .bool true) (Or.inl ⟨by rfl, fun w' hSw => by go_simp⟩) hHeld ?_
          try simp only [zP, zQ, zS, zZ, zC]
          refine wt (i := 2) (oi := ⟨some 74, .indexAddr 25 (.tmp 12) (.const (Value.int IntKind.i64 0)), 0, "law.go:118", #[⟨1, .guard⟩], some (1, true)⟩) (v := .pointer (some ⟨g, 0, none⟩)) (Or.inl ⟨by rfl, fun w' hSw => by go_simp⟩) hHeld ?_
          try simp only [zP, zQ, zS, zZ, zC]
          refine wt (i := 3) (oi := ⟨some 75, .load 3 (.tmp 74), 3, "law.go:118", #[⟨2, .data⟩, ⟨1, .guard⟩], some (1, true)⟩) (v := .int .i64 x) (Or.inl ⟨by rfl, fun w' hSw => by have c8 := (R7.out w' hSw) 0 _ rfl; go_simp⟩) hHeld ?_
          try simp only [zP, zQ, zS, zZ, zC]
          refine wt (i := 4) (oi := ⟨some 76, .move (.tmp 5), 44, "law.go:118", #[⟨1, .guard⟩], some (1, true)⟩) (v := .slice (some ⟨b, 0, none⟩) 10 10) (Or.inl ⟨by rfl, fun w' hSw => by go_simp⟩) hHeld ?_
          try simp only [zP, zQ, zS, zZ, zC]
          refine wt (i := 5) (oi := ⟨some 77, .move (.tmp 6), 3, "law.go:118", #[⟨1, .guard⟩], some (1, true)⟩) (v := .int .i64 (i : Int)) (Or.inl ⟨by rfl, fun w' hSw => by go_simp⟩) hHeld ?_
          try simp only [zP, zQ, zS, zZ, zC]
          refine wt (i := 6) (oi := ⟨some 78, .indexAddr 44 (.tmp 76) (.tmp 77), 0, "law.go:118", #[⟨4, .data⟩, ⟨5, .data⟩, ⟨1, .guard⟩], some (1, true)⟩) (v := .pointer (some ⟨b, i, none⟩)) (Or.inl ⟨by rfl, fun w' hSw => by go_simp⟩) hHeld ?_
          try simp only [zP, zQ, zS, zZ, zC]
          refine wt (i := 7) (oi := ⟨some 79, .load 3 (.tmp 78), 3, "law.go:118", #[⟨6, .data⟩, ⟨1, .guard⟩], some (1, true)⟩) (v := .int .i64 x) (Or.inl ⟨by rfl, fun w' hSw => by have c9 := CX.out w' (hB7.out.trans (hSw.mono hB7.out.size)); go_simp⟩) hHeld ?_
          try simp only [zP, zQ, zS, zZ, zC]
          refine wt (i := 8) (oi := ⟨some 80, .binOp .neq 3 (.tmp 75) (.tmp 79) 3, 4, "law.go:118", #[⟨3, .data⟩, ⟨7, .data⟩, ⟨1, .guard⟩], some (1, true)⟩) (v := .bool false) (Or.inl ⟨by rfl, fun w' hSw => by go_simp⟩) hHeld ?_
          try simp only [zP, zQ, zS, zZ, zC]
          refine wt (i := 9) (oi := ⟨some 81, .pick (.tmp 73) (.tmp 80) (.const (Value.bool false)), 4, "law.go:118", #[⟨1, .data⟩, ⟨8, .data⟩], none⟩) (v := .bool false) (Or.inl ⟨by rfl, fun w' hSw => by go_simp⟩) hHeld ?_
          try simp only [zP, zQ, zS, zZ, zC]
          refine wt (i := 10) (oi := ⟨some 82, .move (.tmp 81), 4, "law.go:118", #[⟨9, .data⟩, ⟨1, .chain⟩], none⟩) (v := .bool false) (Or.inl ⟨by rfl, fun w' hSw => by go_simp⟩) hHeld ?_
          try simp only [zP, zQ, zS, zZ, zC]
          refine wt (i := 11) (oi := ⟨some 83, .move (.tmp 8), 4, "law.go:118", #[⟨10, .guard⟩], some (10, false)⟩) (v := .bool true) (Or.inl ⟨by rfl, fun w' hSw => by go_simp⟩) hHeld ?_
          try simp only [zP, zQ, zS, zZ, zC]
          refine wt (i := 12) (oi := ⟨some 84, .unOp .not 4 (.tmp 83), 4, "law.go:118", #[⟨11, .data⟩, ⟨10, .guard⟩], some (10, false)⟩) (v := .bool false) (Or.inl ⟨by rfl, fun w' hSw => by go_simp⟩) hHeld ?_
          try simp only [zP, zQ, zS, zZ, zC]
          refine wt (i := 13) (oi := ⟨some 85, .move (.tmp 84), 4, "law.go:118", #[⟨12, .data⟩, ⟨10, .chain⟩, ⟨10, .guard⟩], some (10, false)⟩) (v := .bool false) (Or.inl ⟨by rfl, fun w' hSw => by go_simp⟩) hHeld ?_
          try simp only [zP, zQ, zS, zZ, zC]
          refine wt (i := 14) (oi := ⟨some 86, .indexAddr 25 (.tmp 12) (.const (Value.int IntKind.i64 1)), 0, "law.go:118", #[⟨13, .guard⟩], some (13, true)⟩) (v := undef) (Or.inr ⟨by rfl, rfl⟩) hHeld ?_
          try simp only [zP, zQ, zS, zZ, zC]
          refine wt (i := 15) (oi := ⟨some 87, .load 3 (.tmp 86), 3, "law.go:118", #[⟨14, .data⟩, ⟨13, .guard⟩], some (13, true)⟩) (v := undef) (Or.inr ⟨by rfl, rfl⟩) hHeld ?_
          try simp only [zP, zQ, zS, zZ, zC]
          refine wt (i := 16) (oi := ⟨some 88, .move (.tmp 5), 44, "law.go:118", #[⟨13, .guard⟩], some (13, true)⟩) (v := undef) (Or.inr ⟨by rfl, rfl⟩) hHeld ?_
          try simp only [zP, zQ, zS, zZ, zC]
          refine wt (i := 17) (oi := ⟨some 89, .move (.tmp 6), 3, "law.go:118", #[⟨13, .guard⟩], some (13, true)⟩) (v := undef) (Or.inr ⟨by rfl, rfl⟩) hHeld ?_
          try simp only [zP, zQ, zS, zZ, zC]
          refine wt (i := 18) (oi := ⟨some 90, .indexAddr 44 (.tmp 88) (.tmp 89), 0, "law.go:118", #[⟨16, .data⟩, ⟨17, .data⟩, ⟨13, .guard⟩], some (13, true)⟩) (v := undef) (Or.inr ⟨by rfl, rfl⟩) hHeld ?_
          try simp only [zP, zQ, zS, zZ, zC]
          refine wt (i := 19) (oi := ⟨some 91, .load 3 (.tmp 90), 3, "law.go:118", #[⟨18, .data⟩, ⟨13, .guard⟩], some (13, true)⟩) (v := undef) (Or.inr ⟨by rfl, rfl⟩) hHeld ?_
          try simp only [zP, zQ, zS, zZ, zC]
          refine wt (i := 20) (oi := ⟨some 92, .binOp .neq 3 (.tmp 87) (.tmp 91) 3, 4, "law.go:118", #[⟨15, .data⟩, ⟨19, .data⟩, ⟨13, .guard⟩], some (13, true)⟩) (v := undef) (Or.inr ⟨by rfl, rfl⟩) hHeld ?_
          try simp only [zP, zQ, zS, zZ, zC]
          refine wt (i := 21) (oi := ⟨some 93, .pick (.tmp 85) (.tmp 92) (.const (Value.bool false)), 4, "law.go:118", #[⟨13, .data⟩, ⟨20, .data⟩, ⟨10, .guard⟩], some (10, false)⟩) (v := .bool false) (Or.inl ⟨by rfl, fun w' hSw => by go_simp⟩) hHeld ?_
          try simp only [zP, zQ, zS, zZ, zC]
          refine wt (i := 22) (oi := ⟨some 94, .pick (.tmp 82) (.const (Value.bool true)) (.tmp 93), 4, "law.go:118", #[⟨10, .data⟩, ⟨21, .data⟩], none⟩) (v := .bool false) (Or.inl ⟨by rfl, fun w' hSw => by go_simp⟩) hHeld ?_
          try simp only [zP, zQ, zS, zZ, zC]
          refine wpAnyH_done (by kernel_rfl) ?_ _
          have B8 := hHeld
          clear hHeld 
          have hB8 := hB7.out.trans (B8.mono hB7.out.size)
          have L8 := L7.out.trans (B8.mono L7.out.size)
          have r5 := R4.out _ (B5.trans (L8.mono B5.size))
          have r5a := r5 0 _ rfl
          have r5b := r5 1 _ rfl
          simp only [Nat.zero_add] at r5a r5b
          have c5 := CX.out _ hB8
          clear r5 R7 L8 B8
          rcases Int.lt_or_le 0 pa with hpa | hpa
          · obtain ⟨e1, e2, e3, e4⟩ := hl.2 hpa
            rw [e1, e2] at C6
            rw [e3, e4] at C7
            clear e1 e2 e3 e4
            go_wp2_with (first
              | (go_at_call_of 26 (Value.int IntKind.i64 pa); refine (C6.out _).mono ?_; rintro _ _ ⟨rfl, rfl⟩)
              | (go_at_call_of 26 (Value.int IntKind.i64 pb); refine (C7.out _).mono ?_; rintro _ _ ⟨rfl, rfl⟩))
            exact ⟨⟨i + 1, by go_num, by omega, hB8⟩, by simp [intOf]; omega⟩
          · have hpz : decide (pa > 0) = false := decide_eq_false (by omega)
            generalize leafT pa = la at *
            generalize frontT pa = fa at *
            generalize leafT pb = lb at *
            generalize frontT pb = fb at *
            go_wp2_with (first
              | (go_at_call_of 26 (Value.int IntKind.i64 pa); refine (C6.out _).mono ?_; rintro _ _ ⟨rfl, rfl⟩)
              | (go_at_call_of 26 (Value.int IntKind.i64 pb); refine (C7.out _).mono ?_; rintro _ _ ⟨rfl, rfl⟩))
            exact ⟨⟨i + 1, by go_num, by omega, hB8⟩, by simp [intOf]; omega⟩
      · have hkd : decide (k > 0) = false := decide_eq_false (by omega)
        rcases Int.lt_or_le 0 pa with hpa | hpa
        · obtain ⟨e1, e2, e3, e4⟩ := hl.2 hpa
          rw [e1, e2] at C6
          rw [e3, e4] at C7
          clear e1 e2 e3 e4
          go_wp2_with (first
            | (go_at_call_of 26 (Value.int IntKind.i64 pa); refine (C6.out _).mono ?_; rintro _ _ ⟨rfl, rfl⟩)
            | (go_at_call_of 26 (Value.int IntKind.i64 pb); refine (C7.out _).mono ?_; rintro _ _ ⟨rfl, rfl⟩))
          exact ⟨⟨i + 1, by go_num, by omega, hB5⟩, by simp [intOf]; omega⟩
        · have hpz : decide (pa > 0) = false := decide_eq_false (by omega)
          generalize leafT pa = la at *
          generalize frontT pa = fa at *
          generalize leafT pb = lb at *
          generalize frontT pb = fb at *
          go_wp2_with (first
            | (go_at_call_of 26 (Value.int IntKind.i64 pa); refine (C6.out _).mono ?_; rintro _ _ ⟨rfl, rfl⟩)
            | (go_at_call_of 26 (Value.int IntKind.i64 pb); refine (C7.out _).mono ?_; rintro _ _ ⟨rfl, rfl⟩))
          exact ⟨⟨i + 1, by go_num, by omega, hB5⟩, by simp [intOf]; omega⟩
    · obtain rfl : i = 10 := by omega
      go_wp2_with (go_at_call 21; refine (CL.out _).mono ?_; rintro _ w9 ⟨rfl, B9⟩)
      go_ret
      exact ⟨rfl, (X0.out.trans (hB.mono X0.out.size)).trans (B9.mono (Nat.le_trans X0.out.size hB.size))⟩
end Go.Proofs.Ytahmpagolmodhaa
