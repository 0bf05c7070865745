/-
  The paragraph: the free width and the cost of a line.
-/
import Derived.Test.YtacdjchkilheiaaBp
namespace Go.Proofs.Ytacdjchkilheiaa
open Go.RowKit
set_option linter.unusedVariables false
set_option linter.unusedSimpArgs false

set_option maxHeartbeats 2000000 in
set_option maxRecDepth 100000 in
theorem pfree_any (b : Nat) (l : List Int) (n : Nat) (hn : l.length = n) (bl wd : Int) (z : Bool) (hF : Fine l bl wd) (i j : Nat) (hi : i ≤ n) (hj : j ≤ n) (w : World) (hS : SumsAt w b l bl) :
    Calls Try.prog 32 #[pgV b n bl wd z, .int .i64 (i : Int), .int .i64 (j : Int)] w (IntR (frT l bl wd i j) w) := by
  have hl := hF.len
  have b1 := sumT_bound hF.b0 hF.b1 hF.all i
  have b2 := sumT_bound hF.b0 hF.b1 hF.all j
  obtain ⟨h1, h2, h3, h4, _, _⟩ := hF
  have ki := hS.2 i (by omega)
  have kj := hS.2 j (by omega)
  have hb := hS.1
  have HR := Lib.hid (show frT l bl wd i j = wd + bl - (sumT l bl j - sumT l bl i) from rfl)
  generalize sumT l bl i = si at *
  generalize sumT l bl j = sj at *
  generalize frT l bl wd i j = fr at *
  unfold pgV
  obtain ⟨m, hm⟩ : ∃ m, n + 1 = m := ⟨_, rfl⟩
  rw [hm]
  have hin : i < m := by omega
  have hjn : j < m := by omega
  have HW1 := Lib.hid (wrap_in (x := wd + bl) (by omega) (by omega))
  have HW2 := Lib.hid (wrap_in (x := sj - si) (by omega) (by omega))
  have HW3 := Lib.hid (wrap_in (x := wd + bl - (sj - si)) (by omega) (by omega))
  clear hm hn hl hi hj b1 b2 hS
  go_enter Try.func32, Try.ntmps32
  go_upto_region 1 with (fail)
  have Kp := blk_new w 58 #[.slice (some ⟨b, 0, none⟩) m m, .int .i64 bl, .int .i64 wd, .bool z]
  have X0 : Below w.heap.size w (w.alloc (.cells #[.slice (some ⟨b, 0, none⟩) m m, .int .i64 bl, .int .i64 wd, .bool z] 58)) := (Below.refl _ _).alloc (Nat.le_refl _) _
  generalize World.alloc w _ = W1 at Kp X0 ⊢
  generalize w.heap.size = pb at Kp
  have C0 : ∀ w', Below W1.heap.size W1 w' → w'.cell? ⟨pb, 0, none⟩ = some (.slice (some ⟨b, 0, none⟩) m m) := fun w' h => (Kp.keep h).cell rfl
  have C1 : ∀ w', Below W1.heap.size W1 w' → w'.cell? ⟨pb, 1, none⟩ = some (.int .i64 bl) := fun w' h => (Kp.keep h).cell rfl
  have C2 : ∀ w', Below W1.heap.size W1 w' → w'.cell? ⟨pb, 2, none⟩ = some (.int .i64 wd) := fun w' h => (Kp.keep h).cell rfl
  have CI : ∀ w', Below W1.heap.size W1 w' → w'.cell? ⟨b, i, none⟩ = some (.int .i64 si) := fun w' h => ((link X0 h).cell (p := ⟨b, i, none⟩) hb).trans ki
  have CJ : ∀ w', Below W1.heap.size W1 w' → w'.cell? ⟨b, j, none⟩ = some (.int .i64 sj) := fun w' h => ((link X0 h).cell (p := ⟨b, j, none⟩) hb).trans kj
  clear Kp ki kj
  refine wp_region_held_drew (S := fun w' => Below W1.heap.size W1 w') (by kernel_rfl) (below_drew (Below.refl _ _)) (fun _ => ?_)
  have hHeld : Below W1.heap.size W1 W1.drew := below_drew (Below.refl _ _)
  generalize W1.drew = V0 at hHeld ⊢
  refine wt (i := 0) (oi := ⟨some 7, .fieldAddr 58 (.tmp 3) 2, 0, "breaks.go:33", #[], none⟩) (v := .pointer (some ⟨pb, 2, none⟩)) (Or.inl ⟨by rfl, fun w' hSw => by go_simp⟩) hHeld ?_
  try simp only [zP, zQ, zS, zZ, zC]
  refine wt (i := 1) (oi := ⟨some 8, .load 3 (.tmp 7), 3, "breaks.go:33", #[⟨0, .data⟩], none⟩) (v := .int .i64 wd) (Or.inl ⟨by rfl, fun w' hSw => by have hc := C2 w' hSw; go_simp⟩) hHeld ?_
  try simp only [zP, zQ, zS, zZ, zC]
  refine wt (i := 2) (oi := ⟨some 9, .fieldAddr 58 (.tmp 3) 1, 0, "breaks.go:33", #[], none⟩) (v := .pointer (some ⟨pb, 1, none⟩)) (Or.inl ⟨by rfl, fun w' hSw => by go_simp⟩) hHeld ?_
  try simp only [zP, zQ, zS, zZ, zC]
  refine wt (i := 3) (oi := ⟨some 10, .load 3 (.tmp 9), 3, "breaks.go:33", #[⟨2, .data⟩], none⟩) (v := .int .i64 bl) (Or.inl ⟨by rfl, fun w' hSw => by have hc := C1 w' hSw; go_simp⟩) hHeld ?_
  try simp only [zP, zQ, zS, zZ, zC]
  refine wt (i := 4) (oi := ⟨some 11, .binOp .add 3 (.tmp 8) (.tmp 10) 3, 3, "breaks.go:33", #[⟨1, .data⟩, ⟨3, .data⟩], none⟩) (v := .int .i64 (wd + bl)) (Or.inl ⟨by rfl, fun w' hSw => by have hw := HW1.out; go_simp⟩) hHeld ?_
  try simp only [zP, zQ, zS, zZ, zC]
  refine wt (i := 5) (oi := ⟨some 12, .fieldAddr 58 (.tmp 3) 0, 0, "breaks.go:33", #[], none⟩) (v := .pointer (some ⟨pb, 0, none⟩)) (Or.inl ⟨by rfl, fun w' hSw => by go_simp⟩) hHeld ?_
  try simp only [zP, zQ, zS, zZ, zC]
  refine wt (i := 6) (oi := ⟨some 13, .load 22 (.tmp 12), 22, "breaks.go:33", #[⟨5, .data⟩], none⟩) (v := .slice (some ⟨b, 0, none⟩) m m) (Or.inl ⟨by rfl, fun w' hSw => by have hc := C0 w' hSw; go_simp⟩) hHeld ?_
  try simp only [zP, zQ, zS, zZ, zC]
  refine wt (i := 7) (oi := ⟨some 14, .move (.tmp 2), 3, "breaks.go:33", #[], none⟩) (v := .int .i64 (j : Int)) (Or.inl ⟨by rfl, fun w' hSw => by go_simp⟩) hHeld ?_
  try simp only [zP, zQ, zS, zZ, zC]
  refine wt (i := 8) (oi := ⟨some 15, .indexAddr 22 (.tmp 13) (.tmp 14), 0, "breaks.go:33", #[⟨6, .data⟩, ⟨7, .data⟩], none⟩) (v := .pointer (some ⟨b, j, none⟩)) (Or.inl ⟨by rfl, fun w' hSw => by go_simp; try (intro hcm; exact absurd hcm (by omega))⟩) hHeld ?_
  try simp only [zP, zQ, zS, zZ, zC]
  refine wt (i := 9) (oi := ⟨some 16, .load 3 (.tmp 15), 3, "breaks.go:33", #[⟨8, .data⟩], none⟩) (v := .int .i64 sj) (Or.inl ⟨by rfl, fun w' hSw => by have hc := CJ w' hSw; go_simp⟩) hHeld ?_
  try simp only [zP, zQ, zS, zZ, zC]
  refine wt (i := 10) (oi := ⟨some 17, .fieldAddr 58 (.tmp 3) 0, 0, "breaks.go:33", #[], none⟩) (v := .pointer (some ⟨pb, 0, none⟩)) (Or.inl ⟨by rfl, fun w' hSw => by go_simp⟩) hHeld ?_
  try simp only [zP, zQ, zS, zZ, zC]
  refine wt (i := 11) (oi := ⟨some 18, .load 22 (.tmp 17), 22, "breaks.go:33", #[⟨10, .data⟩], none⟩) (v := .slice (some ⟨b, 0, none⟩) m m) (Or.inl ⟨by rfl, fun w' hSw => by have hc := C0 w' hSw; go_simp⟩) hHeld ?_
  try simp only [zP, zQ, zS, zZ, zC]
  refine wt (i := 12) (oi := ⟨some 19, .move (.tmp 1), 3, "breaks.go:33", #[], none⟩) (v := .int .i64 (i : Int)) (Or.inl ⟨by rfl, fun w' hSw => by go_simp⟩) hHeld ?_
  try simp only [zP, zQ, zS, zZ, zC]
  refine wt (i := 13) (oi := ⟨some 20, .indexAddr 22 (.tmp 18) (.tmp 19), 0, "breaks.go:33", #[⟨11, .data⟩, ⟨12, .data⟩], none⟩) (v := .pointer (some ⟨b, i, none⟩)) (Or.inl ⟨by rfl, fun w' hSw => by go_simp; try (intro hcm; exact absurd hcm (by omega))⟩) hHeld ?_
  try simp only [zP, zQ, zS, zZ, zC]
  refine wt (i := 14) (oi := ⟨some 21, .load 3 (.tmp 20), 3, "breaks.go:33", #[⟨13, .data⟩], none⟩) (v := .int .i64 si) (Or.inl ⟨by rfl, fun w' hSw => by have hc := CI w' hSw; go_simp⟩) hHeld ?_
  try simp only [zP, zQ, zS, zZ, zC]
  refine wt (i := 15) (oi := ⟨some 22, .binOp .sub 3 (.tmp 16) (.tmp 21) 3, 3, "breaks.go:33", #[⟨9, .data⟩, ⟨14, .data⟩], none⟩) (v := .int .i64 (sj - si)) (Or.inl ⟨by rfl, fun w' hSw => by have hw := HW2.out; go_simp⟩) hHeld ?_
  try simp only [zP, zQ, zS, zZ, zC]
  refine wt (i := 16) (oi := ⟨some 23, .binOp .sub 3 (.tmp 11) (.tmp 22) 3, 3, "breaks.go:33", #[⟨4, .data⟩, ⟨15, .data⟩], none⟩) (v := .int .i64 (wd + bl - (sj - si))) (Or.inl ⟨by rfl, fun w' hSw => by have hw := HW3.out; go_simp⟩) hHeld ?_
  try simp only [zP, zQ, zS, zZ, zC]
  refine wpAnyH_ready (rs := [17]) (by kernel_rfl) (by simp) ?_
  refine AllReadyH.cons (o := ⟨some 6, .assign (.tmp 23), 3, "breaks.go:33", #[⟨16, .data⟩, ⟨0, .phase⟩, ⟨1, .phase⟩, ⟨2, .phase⟩, ⟨3, .phase⟩, ⟨4, .phase⟩, ⟨5, .phase⟩, ⟨6, .phase⟩, ⟨7, .phase⟩, ⟨8, .phase⟩, ⟨9, .phase⟩, ⟨10, .phase⟩, ⟨11, .phase⟩, ⟨12, .phase⟩, ⟨13, .phase⟩, ⟨14, .phase⟩, ⟨15, .phase⟩, ⟨16, .phase⟩], none⟩) rfl (fun K hK => ?_) AllReadyH.nil
  go_simp
  refine hK.out _ _ (hHeld) (fun hHeld => ?_)
  clear hK K
  try simp only [zP, zQ, zS, zZ, zC]
  refine wpAnyH_done (by kernel_rfl) ?_ _
  have BX := hHeld
  clear hHeld C0 C1 C2 CI CJ
  go_wp2
  go_ret
  exact ⟨by rw [HR.out]; rfl, link X0 BX⟩

set_option maxHeartbeats 2000000 in
set_option maxRecDepth 100000 in
theorem pcost_any (b : Nat) (l : List Int) (n : Nat) (hn : l.length = n) (bl wd : Int) (z : Bool) (hF : Fine l bl wd) (i j : Nat) (hij : i ≤ j) (hj : j ≤ n) (hf : 0 ≤ frT l bl wd i j) (w : World) (hS : SumsAt w b l bl) :
    Calls Try.prog 33 #[pgV b n bl wd z, .int .i64 (i : Int), .int .i64 (j : Int)] w (IntR (prT l bl wd i j) w) := by
  have hl := hF.len
  have HWd := Lib.hid (fun V : World => (show Calls Try.prog 31 #[.agg #[.slice (some ⟨b, 0, none⟩) (n + 1) (n + 1), .int .i64 bl, .int .i64 wd, .bool z]] V (IntR (n : Int) V) from pwords_any b n bl wd z (by omega) V))
  have HFr0 := Lib.hid (fun (V : World) (h : Below w.heap.size w V) => (show Calls Try.prog 32 #[.agg #[.slice (some ⟨b, 0, none⟩) (n + 1) (n + 1), .int .i64 bl, .int .i64 wd, .bool z], .int .i64 (i : Int), .int .i64 (j : Int)] V (IntR (frT l bl wd i j) V) from pfree_any b l n hn bl wd z hF i j (by omega) hj V (hS.keep h)))
  have hle := frT_le hF.b0 hF.b1 hF.w1 hF.all hij
  have hsq := sq_bound hf hle
  have HPr := Lib.hid (show prT l bl wd i j = if j = n then 0 else frT l bl wd i j * frT l bl wd i j from by unfold prT; rw [hn])
  generalize prT l bl wd i j = pr at *
  generalize frT l bl wd i j = f at *
  have HWM := Lib.hid (show IntKind.i64.wrap (f * f) = f * f from wrap_in (by omega) (by omega))
  unfold pgV
  clear hn hF hS hsq hle
  go_enter Try.func33, Try.ntmps33
  go_upto_region 1 with (fail)
  have Kp := blk_new w 58 #[.slice (some ⟨b, 0, none⟩) (n + 1) (n + 1), .int .i64 bl, .int .i64 wd, .bool z]
  have X0 : Below w.heap.size w (w.alloc (.cells #[.slice (some ⟨b, 0, none⟩) (n + 1) (n + 1), .int .i64 bl, .int .i64 wd, .bool z] 58)) := (Below.refl _ _).alloc (Nat.le_refl _) _
  generalize World.alloc w _ = W1 at Kp X0 ⊢
  have hsz : w.heap.size ≤ W1.heap.size := X0.size
  obtain ⟨pb, hpb⟩ : ∃ pb, w.heap.size = pb := ⟨_, rfl⟩
  rw [hpb] at Kp HFr0 X0 hsz ⊢
  have HPB := Lib.hid hpb
  clear hpb
  have C : ∀ w', Below W1.heap.size W1 w' → w'.rangeAt pb 0 [.slice (some ⟨b, 0, none⟩) (n + 1) (n + 1), .int .i64 bl, .int .i64 wd, .bool z] := fun w' h => by have := (Kp.keep h).range 0 4; exact this
  have X1 : Below pb w W1 := X0
  have HFr := Lib.hid (fun (V : World) (h : Below W1.heap.size W1 V) => HFr0.out V (X1.trans (h.mono hsz)))
  by_cases hjn : j = n
  · have hne : ((j : Int) == (n : Int)) = true := by simp [hjn]
    have HR := Lib.hid (show pr = 0 from by rw [HPr.out, if_pos hjn])
    clear hjn
    go_wp2_with (first
      | (refine wpList_load_mid rfl 58 (.tmp 3) rfl pb 0 rfl [.slice (some ⟨b, 0, none⟩) (n + 1) (n + 1), .int .i64 bl, .int .i64 wd, .bool z] _ (C W1 (Below.refl _ _)) Try.underlying58 rfl (by kernel_rfl) ?_)
      | (go_at_call 31; refine (HWd.out W1).mono ?_; rintro en W2 ⟨rfl, hB2⟩))
    go_ret
    exact ⟨by rw [HR.out]; rfl, by rw [HPB.out]; exact X1.trans (hB2.mono hsz)⟩
  · have hne : ((j : Int) == (n : Int)) = false := by simp; omega
    have HR := Lib.hid (show pr = f * f from by rw [HPr.out, if_neg hjn])
    clear hjn
    go_upto_region 3 with (first
      | (refine wpList_load_mid rfl 58 (.tmp 3) rfl pb 0 rfl [.slice (some ⟨b, 0, none⟩) (n + 1) (n + 1), .int .i64 bl, .int .i64 wd, .bool z] _ (C W1 (Below.refl _ _)) Try.underlying58 rfl (by kernel_rfl) ?_)
      | (go_at_call 31; refine (HWd.out W1).mono ?_; rintro en W2 ⟨rfl, hB2⟩))
    refine wp_region_held_drew (S := fun w' => Below W1.heap.size W1 w') (by kernel_rfl) (below_drew (hB2)) (fun _ => ?_)
    have hHeld : Below W1.heap.size W1 W2.drew := below_drew (hB2)
    generalize W2.drew = V0 at hHeld ⊢
    refine wt (i := 0) (oi := ⟨some 11, .load 58 (.tmp 3), 58, "breaks.go:40", #[], none⟩) (v := _) (yieldsIf_load_mid (by rfl) _ _ rfl pb (0) rfl [.slice (some ⟨b, 0, none⟩) (n + 1) (n + 1), .int .i64 bl, .int .i64 wd, .bool z] _ (fun w' hSw => C w' hSw) Try.underlying58 rfl (by kernel_rfl)) hHeld ?_
    try simp only [zP, zQ, zS, zZ, zC]
    refine wt (i := 1) (oi := ⟨some 12, .move (.tmp 1), 3, "breaks.go:40", #[], none⟩) (v := .int .i64 (i : Int)) (Or.inl ⟨by rfl, fun w' hSw => by go_simp⟩) hHeld ?_
    try simp only [zP, zQ, zS, zZ, zC]
    refine wt (i := 2) (oi := ⟨some 13, .move (.tmp 2), 3, "breaks.go:40", #[], none⟩) (v := .int .i64 (j : Int)) (Or.inl ⟨by rfl, fun w' hSw => by go_simp⟩) hHeld ?_
    try simp only [zP, zQ, zS, zZ, zC]
    refine wt (i := 4) (oi := ⟨some 15, .load 58 (.tmp 3), 58, "breaks.go:40", #[], none⟩) (v := _) (yieldsIf_load_mid (by rfl) _ _ rfl pb (0) rfl [.slice (some ⟨b, 0, none⟩) (n + 1) (n + 1), .int .i64 bl, .int .i64 wd, .bool z] _ (fun w' hSw => C w' hSw) Try.underlying58 rfl (by kernel_rfl)) hHeld ?_
    try simp only [zP, zQ, zS, zZ, zC]
    refine wt (i := 5) (oi := ⟨some 16, .move (.tmp 1), 3, "breaks.go:40", #[], none⟩) (v := .int .i64 (i : Int)) (Or.inl ⟨by rfl, fun w' hSw => by go_simp⟩) hHeld ?_
    try simp only [zP, zQ, zS, zZ, zC]
    refine wt (i := 6) (oi := ⟨some 17, .move (.tmp 2), 3, "breaks.go:40", #[], none⟩) (v := .int .i64 (j : Int)) (Or.inl ⟨by rfl, fun w' hSw => by go_simp⟩) hHeld ?_
    try simp only [zP, zQ, zS, zZ, zC]
    refine wpAnyH_ready (rs := [3]) (by kernel_rfl) (by simp) ?_
    refine AllReadyH.cons (o := ⟨some 14, .call { callee := .value (.func 32), args := #[.tmp 11, .tmp 12, .tmp 13], argTypes := #[58, 3, 3] }, 3, "breaks.go:40", #[⟨0, .data⟩, ⟨1, .data⟩, ⟨2, .data⟩], none⟩) rfl (fun K hK => ?_) AllReadyH.nil
    rw [if_pos (by rfl)]
    go_simp
    refine (HFr.out V0 hHeld).mono ?_
    rintro en V1 ⟨rfl, hB3⟩
    dsimp only
    refine hK.out _ _ (link hHeld hB3) (fun hHeld => ?_)
    clear hK K
    try simp only [zP, zQ, zS, zZ, zC]
    refine wpAnyH_ready (rs := [7]) (by kernel_rfl) (by simp) ?_
    refine AllReadyH.cons (o := ⟨some 18, .call { callee := .value (.func 32), args := #[.tmp 15, .tmp 16, .tmp 17], argTypes := #[58, 3, 3] }, 3, "breaks.go:40", #[⟨4, .data⟩, ⟨5, .data⟩, ⟨6, .data⟩, ⟨3, .chain⟩], none⟩) rfl (fun K hK => ?_) AllReadyH.nil
    rw [if_pos (by rfl)]
    go_simp
    refine (HFr.out V1 hHeld).mono ?_
    rintro en V2 ⟨rfl, hB4⟩
    dsimp only
    refine hK.out _ _ (link hHeld hB4) (fun hHeld => ?_)
    clear hK K
    try simp only [zP, zQ, zS, zZ, zC]
    refine wt (i := 8) (oi := ⟨some 19, .binOp .mul 3 (.tmp 14) (.tmp 18) 3, 3, "breaks.go:40", #[⟨3, .data⟩, ⟨7, .data⟩], none⟩) (v := .int .i64 (f * f)) (Or.inl ⟨by rfl, fun w' hSw => by have hw := HWM.out; go_simp⟩) hHeld ?_
    try simp only [zP, zQ, zS, zZ, zC]
    refine wpAnyH_ready (rs := [9]) (by kernel_rfl) (by simp) ?_
    refine AllReadyH.cons (o := ⟨some 6, .assign (.tmp 19), 3, "breaks.go:40", #[⟨8, .data⟩, ⟨7, .chain⟩, ⟨0, .phase⟩, ⟨1, .phase⟩, ⟨2, .phase⟩, ⟨3, .phase⟩, ⟨4, .phase⟩, ⟨5, .phase⟩, ⟨6, .phase⟩, ⟨7, .phase⟩, ⟨8, .phase⟩], none⟩) rfl (fun K hK => ?_) AllReadyH.nil
    go_simp
    refine hK.out _ _ (hHeld) (fun hHeld => ?_)
    clear hK K
    try simp only [zP, zQ, zS, zZ, zC]
    refine wpAnyH_done (by kernel_rfl) ?_ _
    have BX := hHeld
    clear hHeld C
    go_wp2
    go_ret
    exact ⟨by rw [HR.out]; rfl, by rw [HPB.out]; exact X1.trans (BX.mono hsz)⟩
end Go.Proofs.Ytacdjchkilheiaa
