/-
  The two changes that Near tries.
-/
import Derived.Test.YtjpiidfoegaenaaEd
namespace Go.Proofs.Ytjpiidfoegaenaa
open Go.RowKit
set_option linter.unusedVariables false
set_option linter.unusedSimpArgs false

/-- All blocks but g are as they were. -/
def SB (g : Nat) (W w' : World) : Prop := SO g W w' ∧ Below g W w'
theorem SB.drew (g : Nat) (W : World) : SB g W W.drew := ⟨SO.drew g W, below_drew ⟨rfl, rfl, rfl, Nat.le_refl _, fun _ _ => rfl⟩⟩
theorem SO.set {g : Nat} {W V : World} (h : SO g W V) (i : Nat) (v : Value) : SO g W (V.setCell ⟨g, i, none⟩ v) := ⟨by simpa [World.setCell] using h.1, fun k h1 h2 => (Below.heap_setCell _ _ _ _ h1).trans (h.2 k h1 h2)⟩
theorem SB.set {g : Nat} {W V : World} (h : SB g W V) (i : Nat) (v : Value) : SB g W (V.setCell ⟨g, i, none⟩ v) := ⟨h.1.set i v, h.2.setCell (Nat.le_refl g) v⟩
set_option maxHeartbeats 1000000 in
set_option maxRecDepth 100000 in
theorem near2_any (bs : List Nat) (g n c bi bk i k : Nat) (y : Nat) (w : World) (hR : BRow w g bs) (hn : bs.length = n) (hi : bs[i]? = some y) (hk31 : k < 31) (hI : Blk w bi 3 [.int .i64 (i : Int)]) (hKb : Blk w bk 3 [.int .i64 (k : Int)]) (hbi : bi ≠ g) (hbk : bk ≠ g) (a : Nat) (ha : alph[k]? = some a) :
    Calls Try.prog 45 #[.slice (some ⟨g, 0, none⟩) n c, .pointer (some ⟨bk, 0, none⟩), .pointer (some ⟨bi, 0, none⟩)] w fun e w' => (∃ v, e = .returned v) ∧ BRow w' g (bs.set i a) ∧ SB g w w' := by
  have hin := (List.getElem?_eq_some_iff.1 hi).1
  have hinz : (i : Int) < (n : Int) := by omega
  have hk31z : (k : Int) < 31 := by omega
  have HA : Hid (∀ h, (alphB[k]'h).toNat = a) := Lib.hid (fun h => by have := alph_at k h; rw [ha] at this; injection this with this; exact this.symm)
  have hkn : k < alphB.size := hk31
  go_enter Try.func45, Try.ntmps45
  refine wp_region_held_drew (S := fun w' => SB g w w') (by kernel_rfl) (SB.drew g w) (fun _ => ?_)
  have hHeld : SB g w w.drew := SB.drew g w
  have R0 : BRow w.drew g bs := hR
  generalize w.drew = V0 at hHeld R0 ⊢
  refine wt (i := 0) (oi := ⟨some 4, .move (.tmp 0), 48, "digit.go:168", #[], none⟩) (v := .slice (some ⟨g, 0, none⟩) n c) (Or.inl ⟨by rfl, fun w' hSw => by go_simp⟩) hHeld ?_
  try simp only [zP, zQ, zS, zZ, zC]
  refine wt (i := 1) (oi := ⟨some 5, .load 3 (.tmp 2), 3, "digit.go:168", #[], none⟩) (v := .int .i64 (i : Int)) (Or.inl ⟨by rfl, fun w' hSw => by have c9 := (so_blk hI hSw.1 hbi).cell (j := 0) rfl; go_simp⟩) hHeld ?_
  try simp only [zP, zQ, zS, zZ, zC]
  refine wt (i := 2) (oi := ⟨some 6, .load 3 (.tmp 1), 3, "digit.go:168", #[], none⟩) (v := .int .i64 (k : Int)) (Or.inl ⟨by rfl, fun w' hSw => by have c9 := (so_blk hKb hSw.1 hbk).cell (j := 0) rfl; go_simp⟩) hHeld ?_
  try simp only [zP, zQ, zS, zZ, zC]
  refine wt (i := 3) (oi := ⟨some 7, .index 9 (.const (Value.string { data := #[48, 49, 50, 51, 52, 53, 54, 55, 56, 57, 65, 66, 67, 68, 69, 70, 71, 72, 74, 75, 76, 77, 78, 80, 81, 82, 83, 84, 85, 86, 88] })) (.tmp 6), 5, "digit.go:168", #[⟨2, .data⟩], none⟩) (v := .int .u8 (a : Int)) (Or.inl ⟨by rfl, fun w' hSw => by go_simp; exact congrArg (fun t : Nat => (t : Int)) (HA.out hkn)⟩) hHeld ?_
  try simp only [zP, zQ, zS, zZ, zC]
  refine wt (i := 4) (oi := ⟨some 8, .indexAddr 48 (.tmp 4) (.tmp 5), 0, "digit.go:168", #[⟨0, .data⟩, ⟨1, .data⟩, ⟨0, .phase⟩, ⟨1, .phase⟩, ⟨2, .phase⟩, ⟨3, .phase⟩], none⟩) (v := .pointer (some ⟨g, i, none⟩)) (Or.inl ⟨by rfl, fun w' hSw => by go_simp⟩) hHeld ?_
  try simp only [zP, zQ, zS, zZ, zC]
  refine wpAnyH_ready (rs := [5]) (by kernel_rfl) (by simp) ?_
  refine AllReadyH.cons (o := ⟨none, .store 5 (.tmp 8) (.tmp 7), 0, "digit.go:168", #[⟨4, .data⟩, ⟨3, .data⟩, ⟨0, .phase⟩, ⟨1, .phase⟩, ⟨2, .phase⟩, ⟨3, .phase⟩], none⟩) rfl (fun K hK => ?_) AllReadyH.nil
  rw [if_pos (by rfl)]
  have cS := R0.cell (j := i) hi
  have fS := R0.free (j := i) hin
  go_simp
  have S1 := hHeld.set i (.int .u8 (a : Int))
  have R1 := R0.set hin a
  clear hHeld
  generalize V0.setCell ⟨g, i, none⟩ (.int .u8 (a : Int)) = V1 at S1 R1 ⊢
  refine hK.out _ _ (S1) (fun hHeld => ?_)
  clear hK K
  try simp only [zP, zQ, zS, zZ, zC]
  refine wpAnyH_done (by kernel_rfl) ?_ _
  clear hHeld
  go_wp2
  go_end0
  exact ⟨⟨_, rfl⟩, R1, S1⟩
set_option maxHeartbeats 2000000 in
set_option maxRecDepth 100000 in
theorem near3_any (bs : List Nat) (g n c bi i i1 : Nat) (y0 y1 : Nat) (w : World) (hR : BRow w g bs) (hn : bs.length = n) (hn6 : n ≤ 1000000) (hi1 : i + 1 = i1) (hy0 : bs[i]? = some y0) (hy1 : bs[i1]? = some y1) (hI : Blk w bi 3 [.int .i64 (i : Int)]) (hbi : bi ≠ g) :
    Calls Try.prog 46 #[.slice (some ⟨g, 0, none⟩) n c, .pointer (some ⟨bi, 0, none⟩)] w fun e w' => (∃ v, e = .returned v) ∧ BRow w' g ((bs.set i y1).set i1 y0) ∧ SB g w w' := by
  have hin := (List.getElem?_eq_some_iff.1 hy0).1
  have hin1 := (List.getElem?_eq_some_iff.1 hy1).1
  have hin1s : i1 < (bs.set i y1).length := by rw [List.length_set]; exact hin1
  have hy1s : (bs.set i y1)[i1]? = some y1 := by rw [List.getElem?_set_ne (by omega)]; exact hy1
  have hinz : (i : Int) < (n : Int) := by omega
  have hin1z : (i1 : Int) < (n : Int) := by omega
  have hi1z : (i : Int) + 1 = (i1 : Int) := by omega
  have hi16 : IntKind.i64.wrap (i1 : Int) = (i1 : Int) := wrap_in (by omega) (by omega)
  go_enter Try.func46, Try.ntmps46
  refine wp_region_held_drew (S := fun w' => SB g w w') (by kernel_rfl) (SB.drew g w) (fun _ => ?_)
  have hHeld : SB g w w.drew := SB.drew g w
  have R0 : BRow w.drew g bs := hR
  generalize w.drew = V0 at hHeld R0 ⊢
  refine wt (i := 0) (oi := ⟨some 3, .move (.tmp 0), 48, "digit.go:171", #[], none⟩) (v := .slice (some ⟨g, 0, none⟩) n c) (Or.inl ⟨by rfl, fun w' hSw => by go_simp⟩) hHeld ?_
  try simp only [zP, zQ, zS, zZ, zC]
  refine wt (i := 1) (oi := ⟨some 4, .load 3 (.tmp 1), 3, "digit.go:171", #[], none⟩) (v := .int .i64 (i : Int)) (Or.inl ⟨by rfl, fun w' hSw => by have c9 := (so_blk hI hSw.1 hbi).cell (j := 0) rfl; go_simp⟩) hHeld ?_
  try simp only [zP, zQ, zS, zZ, zC]
  refine wt (i := 2) (oi := ⟨some 5, .move (.tmp 0), 48, "digit.go:171", #[{ on := 15, ground := Ground.gcOnly Departure.lateStores }], none⟩) (v := .slice (some ⟨g, 0, none⟩) n c) (Or.inl ⟨by rfl, fun w' hSw => by go_simp⟩) hHeld ?_
  try simp only [zP, zQ, zS, zZ, zC]
  refine wt (i := 3) (oi := ⟨some 6, .load 3 (.tmp 1), 3, "digit.go:171", #[], none⟩) (v := .int .i64 (i : Int)) (Or.inl ⟨by rfl, fun w' hSw => by have c9 := (so_blk hI hSw.1 hbi).cell (j := 0) rfl; go_simp⟩) hHeld ?_
  try simp only [zP, zQ, zS, zZ, zC]
  refine wt (i := 4) (oi := ⟨some 7, .binOp .add 3 (.tmp 6) (.const (Value.int IntKind.i64 1)) 3, 3, "digit.go:171", #[⟨3, .data⟩], none⟩) (v := .int .i64 (i1 : Int)) (Or.inl ⟨by rfl, fun w' hSw => by go_simp⟩) hHeld ?_
  try simp only [zP, zQ, zS, zZ, zC]
  refine wt (i := 5) (oi := ⟨some 8, .move (.tmp 0), 48, "digit.go:171", #[], none⟩) (v := .slice (some ⟨g, 0, none⟩) n c) (Or.inl ⟨by rfl, fun w' hSw => by go_simp⟩) hHeld ?_
  try simp only [zP, zQ, zS, zZ, zC]
  refine wt (i := 6) (oi := ⟨some 9, .load 3 (.tmp 1), 3, "digit.go:171", #[], none⟩) (v := .int .i64 (i : Int)) (Or.inl ⟨by rfl, fun w' hSw => by have c9 := (so_blk hI hSw.1 hbi).cell (j := 0) rfl; go_simp⟩) hHeld ?_
  try simp only [zP, zQ, zS, zZ, zC]
  refine wt (i := 7) (oi := ⟨some 10, .binOp .add 3 (.tmp 9) (.const (Value.int IntKind.i64 1)) 3, 3, "digit.go:171", #[⟨6, .data⟩], none⟩) (v := .int .i64 (i1 : Int)) (Or.inl ⟨by rfl, fun w' hSw => by go_simp⟩) hHeld ?_
  try simp only [zP, zQ, zS, zZ, zC]
  refine wt (i := 8) (oi := ⟨some 11, .indexAddr 48 (.tmp 8) (.tmp 10), 0, "digit.go:171", #[⟨5, .data⟩, ⟨7, .data⟩], none⟩) (v := .pointer (some ⟨g, i1, none⟩)) (Or.inl ⟨by rfl, fun w' hSw => by go_simp⟩) hHeld ?_
  try simp only [zP, zQ, zS, zZ, zC]
  refine wt (i := 10) (oi := ⟨some 13, .move (.tmp 0), 48, "digit.go:171", #[], none⟩) (v := .slice (some ⟨g, 0, none⟩) n c) (Or.inl ⟨by rfl, fun w' hSw => by go_simp⟩) hHeld ?_
  try simp only [zP, zQ, zS, zZ, zC]
  refine wt (i := 11) (oi := ⟨some 14, .load 3 (.tmp 1), 3, "digit.go:171", #[], none⟩) (v := .int .i64 (i : Int)) (Or.inl ⟨by rfl, fun w' hSw => by have c9 := (so_blk hI hSw.1 hbi).cell (j := 0) rfl; go_simp⟩) hHeld ?_
  try simp only [zP, zQ, zS, zZ, zC]
  refine wt (i := 12) (oi := ⟨some 15, .indexAddr 48 (.tmp 13) (.tmp 14), 0, "digit.go:171", #[⟨10, .data⟩, ⟨11, .data⟩], none⟩) (v := .pointer (some ⟨g, i, none⟩)) (Or.inl ⟨by rfl, fun w' hSw => by go_simp⟩) hHeld ?_
  try simp only [zP, zQ, zS, zZ, zC]
  refine wpAnyH_ready (rs := [9, 13]) (by kernel_rfl) (by simp) ?_
  refine AllReadyH.cons (o := ⟨some 12, .load 5 (.tmp 11), 5, "digit.go:171", #[⟨8, .data⟩], none⟩) rfl (fun K hK => ?_) (AllReadyH.cons (o := ⟨some 16, .load 5 (.tmp 15), 5, "digit.go:171", #[⟨12, .data⟩], none⟩) rfl (fun K hK => ?_) AllReadyH.nil)
  · skip
    rw [if_pos (by rfl)]
    have c9 := R0.cell (j := i1) hy1
    go_simp
    refine hK.out _ _ (hHeld) (fun hHeld => ?_)
    clear hK K
    try simp only [zP, zQ, zS, zZ, zC]
    clear c9
    refine wpAnyH_ready (rs := [13]) (by kernel_rfl) (by simp) ?_
    refine AllReadyH.cons (o := ⟨some 16, .load 5 (.tmp 15), 5, "digit.go:171", #[⟨12, .data⟩], none⟩) rfl (fun K hK => ?_) AllReadyH.nil
    rw [if_pos (by rfl)]
    have c9 := R0.cell (j := i) hy0
    go_simp
    refine hK.out _ _ (hHeld) (fun hHeld => ?_)
    clear hK K
    try simp only [zP, zQ, zS, zZ, zC]
    clear c9
    refine wt (i := 14) (oi := ⟨some 17, .indexAddr 48 (.tmp 3) (.tmp 4), 0, "digit.go:171", #[⟨0, .data⟩, ⟨1, .data⟩, ⟨0, .phase⟩, ⟨1, .phase⟩, { on := 2, ground := Ground.textOnly Departure.lateStores }, { on := 3, ground := Ground.textOnly Departure.inlinedCapture }, { on := 4, ground := Ground.textOnly Departure.inlinedCapture }, ⟨5, .phase⟩, ⟨6, .phase⟩, ⟨7, .phase⟩, ⟨8, .phase⟩, ⟨9, .phase⟩, { on := 10, ground := Ground.textOnly Departure.lateStores }, { on := 11, ground := Ground.textOnly Departure.inlinedCapture }, { on := 12, ground := Ground.textOnly Departure.lateStoresUnsure }, ⟨13, .phase⟩], none⟩) (v := .pointer (some ⟨g, i, none⟩)) (Or.inl ⟨by rfl, fun w' hSw => by go_simp⟩) hHeld ?_
    try simp only [zP, zQ, zS, zZ, zC]
    refine wpAnyH_ready (rs := [15]) (by kernel_rfl) (by simp) ?_
    refine AllReadyH.cons (o := ⟨none, .store 5 (.tmp 17) (.tmp 12), 0, "digit.go:171", #[⟨14, .data⟩, ⟨9, .data⟩, ⟨0, .phase⟩, ⟨1, .phase⟩, { on := 2, ground := Ground.textOnly Departure.lateStores }, { on := 3, ground := Ground.textOnly Departure.inlinedCapture }, { on := 4, ground := Ground.textOnly Departure.inlinedCapture }, ⟨5, .phase⟩, ⟨6, .phase⟩, ⟨7, .phase⟩, ⟨8, .phase⟩, ⟨9, .phase⟩, { on := 10, ground := Ground.textOnly Departure.lateStores }, { on := 11, ground := Ground.textOnly Departure.inlinedCapture }, { on := 12, ground := Ground.textOnly Departure.lateStoresUnsure }, ⟨13, .phase⟩], none⟩) rfl (fun K hK => ?_) AllReadyH.nil
    rw [if_pos (by rfl)]
    have cS := R0.cell (j := i) hy0
    have fS := R0.free (j := i) hin
    go_simp
    have S1 := hHeld.set i (.int .u8 (y1 : Int))
    have R1 := R0.set hin y1
    clear hHeld cS fS R0
    generalize V0.setCell ⟨g, i, none⟩ (.int .u8 (y1 : Int)) = V1 at S1 R1 ⊢
    refine hK.out _ _ (S1) (fun hHeld => ?_)
    clear hK K
    try simp only [zP, zQ, zS, zZ, zC]
    clear S1
    refine wt (i := 16) (oi := ⟨some 18, .indexAddr 48 (.tmp 5) (.tmp 7), 0, "digit.go:171", #[⟨2, .data⟩, ⟨4, .data⟩, ⟨0, .phase⟩, ⟨1, .phase⟩, ⟨2, .phase⟩, ⟨3, .phase⟩, ⟨4, .phase⟩, ⟨5, .phase⟩, ⟨6, .phase⟩, ⟨7, .phase⟩, ⟨8, .phase⟩, ⟨9, .phase⟩, ⟨10, .phase⟩, ⟨11, .phase⟩, ⟨12, .phase⟩, ⟨13, .phase⟩, ⟨14, .phase⟩, ⟨15, .phase⟩], none⟩) (v := .pointer (some ⟨g, i1, none⟩)) (Or.inl ⟨by rfl, fun w' hSw => by go_simp⟩) hHeld ?_
    try simp only [zP, zQ, zS, zZ, zC]
    refine wpAnyH_ready (rs := [17]) (by kernel_rfl) (by simp) ?_
    refine AllReadyH.cons (o := ⟨none, .store 5 (.tmp 18) (.tmp 16), 0, "digit.go:171", #[⟨16, .data⟩, ⟨13, .data⟩, ⟨15, .chain⟩, ⟨0, .phase⟩, ⟨1, .phase⟩, ⟨2, .phase⟩, ⟨3, .phase⟩, ⟨4, .phase⟩, ⟨5, .phase⟩, ⟨6, .phase⟩, ⟨7, .phase⟩, ⟨8, .phase⟩, ⟨9, .phase⟩, ⟨10, .phase⟩, ⟨11, .phase⟩, ⟨12, .phase⟩, ⟨13, .phase⟩, ⟨14, .phase⟩, ⟨15, .phase⟩], none⟩) rfl (fun K hK => ?_) AllReadyH.nil
    rw [if_pos (by rfl)]
    have cS := R1.cell (j := i1) hy1s
    have fS := R1.free (j := i1) hin1s
    go_simp
    have S2 := hHeld.set i1 (.int .u8 (y0 : Int))
    have R2 := R1.set hin1s y0
    clear hHeld cS fS R1
    generalize V1.setCell ⟨g, i1, none⟩ (.int .u8 (y0 : Int)) = V2 at S2 R2 ⊢
    refine hK.out _ _ (S2) (fun hHeld => ?_)
    clear hK K
    try simp only [zP, zQ, zS, zZ, zC]
    refine wpAnyH_done (by kernel_rfl) ?_ _
    clear hHeld
    go_wp2
    go_end0
    exact ⟨⟨_, rfl⟩, R2, S2⟩
  · skip
    rw [if_pos (by rfl)]
    have c9 := R0.cell (j := i) hy0
    go_simp
    refine hK.out _ _ (hHeld) (fun hHeld => ?_)
    clear hK K
    try simp only [zP, zQ, zS, zZ, zC]
    clear c9
    refine wpAnyH_ready (rs := [9]) (by kernel_rfl) (by simp) ?_
    refine AllReadyH.cons (o := ⟨some 12, .load 5 (.tmp 11), 5, "digit.go:171", #[⟨8, .data⟩], none⟩) rfl (fun K hK => ?_) AllReadyH.nil
    rw [if_pos (by rfl)]
    have c9 := R0.cell (j := i1) hy1
    go_simp
    refine hK.out _ _ (hHeld) (fun hHeld => ?_)
    clear hK K
    try simp only [zP, zQ, zS, zZ, zC]
    clear c9
    refine wt (i := 14) (oi := ⟨some 17, .indexAddr 48 (.tmp 3) (.tmp 4), 0, "digit.go:171", #[⟨0, .data⟩, ⟨1, .data⟩, ⟨0, .phase⟩, ⟨1, .phase⟩, { on := 2, ground := Ground.textOnly Departure.lateStores }, { on := 3, ground := Ground.textOnly Departure.inlinedCapture }, { on := 4, ground := Ground.textOnly Departure.inlinedCapture }, ⟨5, .phase⟩, ⟨6, .phase⟩, ⟨7, .phase⟩, ⟨8, .phase⟩, ⟨9, .phase⟩, { on := 10, ground := Ground.textOnly Departure.lateStores }, { on := 11, ground := Ground.textOnly Departure.inlinedCapture }, { on := 12, ground := Ground.textOnly Departure.lateStoresUnsure }, ⟨13, .phase⟩], none⟩) (v := .pointer (some ⟨g, i, none⟩)) (Or.inl ⟨by rfl, fun w' hSw => by go_simp⟩) hHeld ?_
    try simp only [zP, zQ, zS, zZ, zC]
    refine wpAnyH_ready (rs := [15]) (by kernel_rfl) (by simp) ?_
    refine AllReadyH.cons (o := ⟨none, .store 5 (.tmp 17) (.tmp 12), 0, "digit.go:171", #[⟨14, .data⟩, ⟨9, .data⟩, ⟨0, .phase⟩, ⟨1, .phase⟩, { on := 2, ground := Ground.textOnly Departure.lateStores }, { on := 3, ground := Ground.textOnly Departure.inlinedCapture }, { on := 4, ground := Ground.textOnly Departure.inlinedCapture }, ⟨5, .phase⟩, ⟨6, .phase⟩, ⟨7, .phase⟩, ⟨8, .phase⟩, ⟨9, .phase⟩, { on := 10, ground := Ground.textOnly Departure.lateStores }, { on := 11, ground := Ground.textOnly Departure.inlinedCapture }, { on := 12, ground := Ground.textOnly Departure.lateStoresUnsure }, ⟨13, .phase⟩], none⟩) rfl (fun K hK => ?_) AllReadyH.nil
    rw [if_pos (by rfl)]
    have cS := R0.cell (j := i) hy0
    have fS := R0.free (j := i) hin
    go_simp
    have S1 := hHeld.set i (.int .u8 (y1 : Int))
    have R1 := R0.set hin y1
    clear hHeld cS fS R0
    generalize V0.setCell ⟨g, i, none⟩ (.int .u8 (y1 : Int)) = V1 at S1 R1 ⊢
    refine hK.out _ _ (S1) (fun hHeld => ?_)
    clear hK K
    try simp only [zP, zQ, zS, zZ, zC]
    clear S1
    refine wt (i := 16) (oi := ⟨some 18, .indexAddr 48 (.tmp 5) (.tmp 7), 0, "digit.go:171", #[⟨2, .data⟩, ⟨4, .data⟩, ⟨0, .phase⟩, ⟨1, .phase⟩, ⟨2, .phase⟩, ⟨3, .phase⟩, ⟨4, .phase⟩, ⟨5, .phase⟩, ⟨6, .phase⟩, ⟨7, .phase⟩, ⟨8, .phase⟩, ⟨9, .phase⟩, ⟨10, .phase⟩, ⟨11, .phase⟩, ⟨12, .phase⟩, ⟨13, .phase⟩, ⟨14, .phase⟩, ⟨15, .phase⟩], none⟩) (v := .pointer (some ⟨g, i1, none⟩)) (Or.inl ⟨by rfl, fun w' hSw => by go_simp⟩) hHeld ?_
    try simp only [zP, zQ, zS, zZ, zC]
    refine wpAnyH_ready (rs := [17]) (by kernel_rfl) (by simp) ?_
    refine AllReadyH.cons (o := ⟨none, .store 5 (.tmp 18) (.tmp 16), 0, "digit.go:171", #[⟨16, .data⟩, ⟨13, .data⟩, ⟨15, .chain⟩, ⟨0, .phase⟩, ⟨1, .phase⟩, ⟨2, .phase⟩, ⟨3, .phase⟩, ⟨4, .phase⟩, ⟨5, .phase⟩, ⟨6, .phase⟩, ⟨7, .phase⟩, ⟨8, .phase⟩, ⟨9, .phase⟩, ⟨10, .phase⟩, ⟨11, .phase⟩, ⟨12, .phase⟩, ⟨13, .phase⟩, ⟨14, .phase⟩, ⟨15, .phase⟩], none⟩) rfl (fun K hK => ?_) AllReadyH.nil
    rw [if_pos (by rfl)]
    have cS := R1.cell (j := i1) hy1s
    have fS := R1.free (j := i1) hin1s
    go_simp
    have S2 := hHeld.set i1 (.int .u8 (y0 : Int))
    have R2 := R1.set hin1s y0
    clear hHeld cS fS R1
    generalize V1.setCell ⟨g, i1, none⟩ (.int .u8 (y0 : Int)) = V2 at S2 R2 ⊢
    refine hK.out _ _ (S2) (fun hHeld => ?_)
    clear hK K
    try simp only [zP, zQ, zS, zZ, zC]
    refine wpAnyH_done (by kernel_rfl) ?_ _
    clear hHeld
    go_wp2
    go_end0
    exact ⟨⟨_, rfl⟩, R2, S2⟩
end Go.Proofs.Ytjpiidfoegaenaa
