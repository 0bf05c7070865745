/-
  Sheets of one package's type as the other's.
-/
import Derived.Test.YtahmpagolmodhaaIh
namespace Go.Proofs.Ytahmpagolmodhaa
open Go.RowKit
set_option linter.unusedVariables false
set_option linter.unusedSimpArgs false

theorem two_at {w : World} {b o : Nat} {u v : Value} (h1 : w.cell? ⟨b, o, none⟩ = some u) (h2 : w.cell? ⟨b, o + 1, none⟩ = some v) : w.rangeAt b o [u, v] := fun j x hj => by
  rcases j with _ | _ | j
  · simp at hj; subst hj; exact h1
  · simp at hj; subst hj; exact h2
  · simp at hj
def plainRel (l : List Sh) (n : Nat) (w : World) (v3 v4 : Value) (wr : World) : Prop := ∃ i : Nat, i ≤ n ∧ v4 = .int .i64 (i : Int) ∧ OwnR srE wr w.heap.size v3 (l.take i) ∧ Below w.heap.size w wr
set_option maxHeartbeats 2000000 in
set_option maxRecDepth 100000 in
theorem plain_any (l : List Sh) (qa : Option Addr) (n c : Nat) (hl : l.length = n) (hn6 : n ≤ 1000000000000) (w : World) (hA : At shE w qa l) :
    Calls Try.prog 16 #[.slice qa n c] w (MadeR srE l w) := by
  have HN := Lib.hid hl
  clear hl
  go_enter Try.func16, Try.ntmps16
  go_wp2
  go_loopw [3, 4] (fun v3 v4 wr => plainRel l n w v3 v4 wr) (fun _ v _ => n - (intOf v).toNat)
  case atStart => exact ⟨0, Nat.zero_le _, rfl, OwnR.nil _ _ _, Below.refl _ _⟩
  case round =>
    obtain ⟨i, hi, rfl, hO, hB⟩ := hrel
    by_cases hlt : i < n
    · obtain ⟨x, hx⟩ : ∃ x, l[i]? = some x := ⟨_, List.getElem?_eq_getElem (by rw [HN.out]; exact hlt)⟩
      obtain ⟨b, off, rfl, hL⟩ := hA.get (i := i) (by rw [HN.out]; exact hlt)
      have R : ∀ w', Below w.heap.size w w' → w'.rangeAt b (off + i * 5) [.int .i64 x.q, .int .i64 x.fa, .int .i64 x.fb, .int .i64 x.ba, .int .i64 x.bb] := fun w' h => (hL.keep h).range hx
      have C0 : ∀ w', Below w.heap.size w w' → w'.cell? ⟨b, off + i * 5, none⟩ = some (.int .i64 x.q) := fun w' h => R w' h 0 _ rfl
      have C1 : ∀ w', Below w.heap.size w w' → w'.rangeAt b (off + i * 5 + 1) [.int .i64 x.fa, .int .i64 x.fb] := fun w' h => two_at (R w' h 1 _ rfl) (R w' h 2 _ rfl)
      have C2 : ∀ w', Below w.heap.size w w' → w'.rangeAt b (off + i * 5 + 3) [.int .i64 x.ba, .int .i64 x.bb] := fun w' h => two_at (R w' h 3 _ rfl) (R w' h 4 _ rfl)
      have HT := Lib.hid (show l.take (i + 1) = l.take i ++ [x] from by rw [List.take_add_one, hx]; rfl)
      clear hx hA hL R
      go_upto_region 5 with (fail)
      refine wp_region_held_drew (S := fun w' => Below w.heap.size w w') (by kernel_rfl) (below_drew (hB)) (fun _ => ?_)
      have hHeld : Below w.heap.size w wr.drew := below_drew (hB)
      replace hO : OwnR srE wr.drew w.heap.size u3 (l.take i) := hO
      generalize wr.drew = V0 at hHeld hO ⊢
      refine wt (i := 0) (oi := ⟨some 11, .move (.tmp 3), 32, "law.go:15", #[], none⟩) (v := u3) (Or.inl ⟨by rfl, fun w' hSw => by go_simp⟩) hHeld ?_
      try simp only [zP, zQ, zS, zZ, zC]
      refine wt (i := 1) (oi := ⟨some 12, .move (.tmp 0), 22, "law.go:15", #[], none⟩) (v := .slice (some ⟨b, off, none⟩) n c) (Or.inl ⟨by rfl, fun w' hSw => by go_simp⟩) hHeld ?_
      try simp only [zP, zQ, zS, zZ, zC]
      refine wt (i := 2) (oi := ⟨some 13, .move (.tmp 4), 3, "law.go:15", #[], none⟩) (v := .int .i64 (i : Int)) (Or.inl ⟨by rfl, fun w' hSw => by go_simp⟩) hHeld ?_
      try simp only [zP, zQ, zS, zZ, zC]
      refine wt (i := 3) (oi := ⟨some 14, .indexAddr 22 (.tmp 12) (.tmp 13), 0, "law.go:15", #[⟨1, .data⟩, ⟨2, .data⟩], none⟩) (v := .pointer (some ⟨b, off + i * 5, none⟩)) (Or.inl ⟨by rfl, fun w' hSw => by go_simp; try (intro hcm; exact absurd hcm (by omega))⟩) hHeld ?_
      try simp only [zP, zQ, zS, zZ, zC]
      refine wt (i := 4) (oi := ⟨some 15, .fieldAddr 64 (.tmp 14) 0, 0, "law.go:15", #[⟨3, .data⟩], none⟩) (v := .pointer (some ⟨b, off + i * 5, none⟩)) (Or.inl ⟨by rfl, fun w' hSw => by go_simp⟩) hHeld ?_
      try simp only [zP, zQ, zS, zZ, zC]
      refine wt (i := 5) (oi := ⟨some 16, .load 3 (.tmp 15), 3, "law.go:15", #[⟨4, .data⟩], none⟩) (v := .int .i64 x.q) (Or.inl ⟨by rfl, fun w' hSw => by have hc := C0 w' hSw; go_simp⟩) hHeld ?_
      try simp only [zP, zQ, zS, zZ, zC]
      refine wt (i := 6) (oi := ⟨some 17, .move (.tmp 0), 22, "law.go:15", #[], none⟩) (v := .slice (some ⟨b, off, none⟩) n c) (Or.inl ⟨by rfl, fun w' hSw => by go_simp⟩) hHeld ?_
      try simp only [zP, zQ, zS, zZ, zC]
      refine wt (i := 7) (oi := ⟨some 18, .move (.tmp 4), 3, "law.go:15", #[], none⟩) (v := .int .i64 (i : Int)) (Or.inl ⟨by rfl, fun w' hSw => by go_simp⟩) hHeld ?_
      try simp only [zP, zQ, zS, zZ, zC]
      refine wt (i := 8) (oi := ⟨some 19, .indexAddr 22 (.tmp 17) (.tmp 18), 0, "law.go:15", #[⟨6, .data⟩, ⟨7, .data⟩], none⟩) (v := .pointer (some ⟨b, off + i * 5, none⟩)) (Or.inl ⟨by rfl, fun w' hSw => by go_simp; try (intro hcm; exact absurd hcm (by omega))⟩) hHeld ?_
      try simp only [zP, zQ, zS, zZ, zC]
      refine wt (i := 9) (oi := ⟨some 20, .fieldAddr 64 (.tmp 19) 1, 0, "law.go:15", #[⟨8, .data⟩], none⟩) (v := .pointer (some ⟨b, off + i * 5 + 1, none⟩)) (Or.inl ⟨by rfl, fun w' hSw => by go_simp⟩) hHeld ?_
      try simp only [zP, zQ, zS, zZ, zC]
      refine wt (i := 10) (oi := ⟨some 21, .load 25 (.tmp 20), 25, "law.go:15", #[⟨9, .data⟩], none⟩) (v := _) (yieldsIf_load_mid (by rfl) _ _ rfl b (off + i * 5 + 1) rfl [.int .i64 x.fa, .int .i64 x.fb] _ (fun w' hSw => C1 w' hSw) Try.underlying25 rfl (by kernel_rfl)) hHeld ?_
      try simp only [zP, zQ, zS, zZ, zC]
      refine wt (i := 11) (oi := ⟨some 22, .move (.tmp 0), 22, "law.go:15", #[], none⟩) (v := .slice (some ⟨b, off, none⟩) n c) (Or.inl ⟨by rfl, fun w' hSw => by go_simp⟩) hHeld ?_
      try simp only [zP, zQ, zS, zZ, zC]
      refine wt (i := 12) (oi := ⟨some 23, .move (.tmp 4), 3, "law.go:15", #[], none⟩) (v := .int .i64 (i : Int)) (Or.inl ⟨by rfl, fun w' hSw => by go_simp⟩) hHeld ?_
      try simp only [zP, zQ, zS, zZ, zC]
      refine wt (i := 13) (oi := ⟨some 24, .indexAddr 22 (.tmp 22) (.tmp 23), 0, "law.go:15", #[⟨11, .data⟩, ⟨12, .data⟩], none⟩) (v := .pointer (some ⟨b, off + i * 5, none⟩)) (Or.inl ⟨by rfl, fun w' hSw => by go_simp; try (intro hcm; exact absurd hcm (by omega))⟩) hHeld ?_
      try simp only [zP, zQ, zS, zZ, zC]
      refine wt (i := 14) (oi := ⟨some 25, .fieldAddr 64 (.tmp 24) 2, 0, "law.go:15", #[⟨13, .data⟩], none⟩) (v := .pointer (some ⟨b, off + i * 5 + 3, none⟩)) (Or.inl ⟨by rfl, fun w' hSw => by go_simp⟩) hHeld ?_
      try simp only [zP, zQ, zS, zZ, zC]
      refine wt (i := 15) (oi := ⟨some 26, .load 25 (.tmp 25), 25, "law.go:15", #[⟨14, .data⟩], none⟩) (v := _) (yieldsIf_load_mid (by rfl) _ _ rfl b (off + i * 5 + 3) rfl [.int .i64 x.ba, .int .i64 x.bb] _ (fun w' hSw => C2 w' hSw) Try.underlying25 rfl (by kernel_rfl)) hHeld ?_
      try simp only [zP, zQ, zS, zZ, zC]
      refine wt (i := 16) (oi := ⟨some 27, .build 69 #[(0, .tmp 16), (1, .tmp 21), (2, .tmp 26)], 69, "law.go:15", #[⟨5, .data⟩, ⟨10, .data⟩, ⟨15, .data⟩], none⟩) (v := .agg #[.int .i64 x.q, .int .i64 x.fa, .int .i64 x.fb, .int .i64 x.ba, .int .i64 x.bb]) (Or.inl ⟨by rfl, fun w' hSw => by go_simp⟩) hHeld ?_
      try simp only [zP, zQ, zS, zZ, zC]
      refine wpAnyH_ready (rs := [17]) (by kernel_rfl) (by simp) ?_
      refine AllReadyH.cons (o := ⟨some 28, .buildSlice 32 1 #[(0, .tmp 27)], 32, "law.go:15", #[⟨16, .data⟩], none⟩) rfl (fun K hK => ?_) AllReadyH.nil
      go_simp
      have hz0 : w.heap.size ≤ V0.heap.size := hHeld.size
      have hH0 := hHeld
      refine hK.out _ _ (hHeld.alloc hz0 _) (fun hHeld => ?_)
      clear hK K
      try simp only [zP, zQ, zS, zZ, zC]
      refine wpAnyH_ready (rs := [18]) (by kernel_rfl) (by simp) ?_
      refine AllReadyH.cons (o := ⟨some 29, .call { callee := .builtin .append, args := #[.tmp 11, .tmp 28], argTypes := #[32, 32] }, 32, "law.go:15", #[⟨0, .data⟩, ⟨17, .data⟩], none⟩) rfl (fun K hK => ?_) AllReadyH.nil
      refine push_at srE (w := V0) (.tmp 11) (.tmp 28) rfl (l.take i) x u3 rfl hO hz0 _ rfl _ rfl (by rw [List.length_take]; omega) ?_
      intro v4 V2 hO4 hB4 hR4 hat
      refine hK.out _ _ (hH0.trans hB4) (fun hHeld => ?_)
      clear hK K
      try simp only [zP, zQ, zS, zZ, zC]
      refine wpAnyH_ready (rs := [19]) (by kernel_rfl) (by simp) ?_
      refine AllReadyH.cons (o := ⟨some 3, .assign (.tmp 29), 32, "law.go:15", #[⟨18, .data⟩, ⟨18, .chain⟩, ⟨0, .phase⟩, ⟨1, .phase⟩, ⟨2, .phase⟩, ⟨3, .phase⟩, ⟨4, .phase⟩, ⟨5, .phase⟩, ⟨6, .phase⟩, ⟨7, .phase⟩, ⟨8, .phase⟩, ⟨9, .phase⟩, ⟨10, .phase⟩, ⟨11, .phase⟩, ⟨12, .phase⟩, ⟨13, .phase⟩, ⟨14, .phase⟩, ⟨15, .phase⟩, ⟨16, .phase⟩, ⟨17, .phase⟩, ⟨18, .phase⟩], none⟩) rfl (fun K hK => ?_) AllReadyH.nil
      go_simp
      refine hK.out _ _ (hHeld) (fun hHeld => ?_)
      clear hK K
      try simp only [zP, zQ, zS, zZ, zC]
      refine wpAnyH_done (by kernel_rfl) ?_ _
      have BX := hHeld
      clear hHeld 
      clear C0 C1 C2
      go_wp2
      exact ⟨⟨i + 1, by omega, by go_num, by rw [HT.out]; exact hO4, BX⟩, by simp [intOf]; omega⟩
    · have HE := Lib.hid (show l.take i = l from List.take_of_length_le (by rw [HN.out]; omega))
      go_wp2
      go_ret
      exact ⟨_, rfl, by have := hO; rw [HE.out] at this; exact this, hB⟩
def ownRel (l : List Sh) (n : Nat) (w : World) (v3 v4 : Value) (wr : World) : Prop := ∃ i : Nat, i ≤ n ∧ v4 = .int .i64 (i : Int) ∧ OwnR shE wr w.heap.size v3 (l.take i) ∧ Below w.heap.size w wr
set_option maxHeartbeats 2000000 in
set_option maxRecDepth 100000 in
theorem own_any (l : List Sh) (qa : Option Addr) (n c : Nat) (hl : l.length = n) (hn6 : n ≤ 1000000000000) (w : World) (hA : At srE w qa l) :
    Calls Try.prog 19 #[.slice qa n c] w (MadeR shE l w) := by
  have HN := Lib.hid hl
  clear hl
  go_enter Try.func19, Try.ntmps19
  go_wp2
  go_loopw [3, 4] (fun v3 v4 wr => ownRel l n w v3 v4 wr) (fun _ v _ => n - (intOf v).toNat)
  case atStart => exact ⟨0, Nat.zero_le _, rfl, OwnR.nil _ _ _, Below.refl _ _⟩
  case round =>
    obtain ⟨i, hi, rfl, hO, hB⟩ := hrel
    by_cases hlt : i < n
    · obtain ⟨x, hx⟩ : ∃ x, l[i]? = some x := ⟨_, List.getElem?_eq_getElem (by rw [HN.out]; exact hlt)⟩
      obtain ⟨b, off, rfl, hL⟩ := hA.get (i := i) (by rw [HN.out]; exact hlt)
      have R : ∀ w', Below w.heap.size w w' → w'.rangeAt b (off + i * 5) [.int .i64 x.q, .int .i64 x.fa, .int .i64 x.fb, .int .i64 x.ba, .int .i64 x.bb] := fun w' h => (hL.keep h).range hx
      have C0 : ∀ w', Below w.heap.size w w' → w'.cell? ⟨b, off + i * 5, none⟩ = some (.int .i64 x.q) := fun w' h => R w' h 0 _ rfl
      have C1 : ∀ w', Below w.heap.size w w' → w'.rangeAt b (off + i * 5 + 1) [.int .i64 x.fa, .int .i64 x.fb] := fun w' h => two_at (R w' h 1 _ rfl) (R w' h 2 _ rfl)
      have C2 : ∀ w', Below w.heap.size w w' → w'.rangeAt b (off + i * 5 + 3) [.int .i64 x.ba, .int .i64 x.bb] := fun w' h => two_at (R w' h 3 _ rfl) (R w' h 4 _ rfl)
      have HT := Lib.hid (show l.take (i + 1) = l.take i ++ [x] from by rw [List.take_add_one, hx]; rfl)
      clear hx hA hL R
      go_upto_region 5 with (fail)
      refine wp_region_held_drew (S := fun w' => Below w.heap.size w w') (by kernel_rfl) (below_drew (hB)) (fun _ => ?_)
      have hHeld : Below w.heap.size w wr.drew := below_drew (hB)
      replace hO : OwnR shE wr.drew w.heap.size u3 (l.take i) := hO
      generalize wr.drew = V0 at hHeld hO ⊢
      refine wt (i := 0) (oi := ⟨some 11, .move (.tmp 3), 22, "law.go:24", #[], none⟩) (v := u3) (Or.inl ⟨by rfl, fun w' hSw => by go_simp⟩) hHeld ?_
      try simp only [zP, zQ, zS, zZ, zC]
      refine wt (i := 1) (oi := ⟨some 12, .move (.tmp 0), 32, "law.go:24", #[], none⟩) (v := .slice (some ⟨b, off, none⟩) n c) (Or.inl ⟨by rfl, fun w' hSw => by go_simp⟩) hHeld ?_
      try simp only [zP, zQ, zS, zZ, zC]
      refine wt (i := 2) (oi := ⟨some 13, .move (.tmp 4), 3, "law.go:24", #[], none⟩) (v := .int .i64 (i : Int)) (Or.inl ⟨by rfl, fun w' hSw => by go_simp⟩) hHeld ?_
      try simp only [zP, zQ, zS, zZ, zC]
      refine wt (i := 3) (oi := ⟨some 14, .indexAddr 32 (.tmp 12) (.tmp 13), 0, "law.go:24", #[⟨1, .data⟩, ⟨2, .data⟩], none⟩) (v := .pointer (some ⟨b, off + i * 5, none⟩)) (Or.inl ⟨by rfl, fun w' hSw => by go_simp; try (intro hcm; exact absurd hcm (by omega))⟩) hHeld ?_
      try simp only [zP, zQ, zS, zZ, zC]
      refine wt (i := 4) (oi := ⟨some 15, .fieldAddr 69 (.tmp 14) 0, 0, "law.go:24", #[⟨3, .data⟩], none⟩) (v := .pointer (some ⟨b, off + i * 5, none⟩)) (Or.inl ⟨by rfl, fun w' hSw => by go_simp⟩) hHeld ?_
      try simp only [zP, zQ, zS, zZ, zC]
      refine wt (i := 5) (oi := ⟨some 16, .load 3 (.tmp 15), 3, "law.go:24", #[⟨4, .data⟩], none⟩) (v := .int .i64 x.q) (Or.inl ⟨by rfl, fun w' hSw => by have hc := C0 w' hSw; go_simp⟩) hHeld ?_
      try simp only [zP, zQ, zS, zZ, zC]
      refine wt (i := 6) (oi := ⟨some 17, .move (.tmp 0), 32, "law.go:24", #[], none⟩) (v := .slice (some ⟨b, off, none⟩) n c) (Or.inl ⟨by rfl, fun w' hSw => by go_simp⟩) hHeld ?_
      try simp only [zP, zQ, zS, zZ, zC]
      refine wt (i := 7) (oi := ⟨some 18, .move (.tmp 4), 3, "law.go:24", #[], none⟩) (v := .int .i64 (i : Int)) (Or.inl ⟨by rfl, fun w' hSw => by go_simp⟩) hHeld ?_
      try simp only [zP, zQ, zS, zZ, zC]
      refine wt (i := 8) (oi := ⟨some 19, .indexAddr 32 (.tmp 17) (.tmp 18), 0, "law.go:24", #[⟨6, .data⟩, ⟨7, .data⟩], none⟩) (v := .pointer (some ⟨b, off + i * 5, none⟩)) (Or.inl ⟨by rfl, fun w' hSw => by go_simp; try (intro hcm; exact absurd hcm (by omega))⟩) hHeld ?_
      try simp only [zP, zQ, zS, zZ, zC]
      refine wt (i := 9) (oi := ⟨some 20, .fieldAddr 69 (.tmp 19) 1, 0, "law.go:24", #[⟨8, .data⟩], none⟩) (v := .pointer (some ⟨b, off + i * 5 + 1, none⟩)) (Or.inl ⟨by rfl, fun w' hSw => by go_simp⟩) hHeld ?_
      try simp only [zP, zQ, zS, zZ, zC]
      refine wt (i := 10) (oi := ⟨some 21, .load 25 (.tmp 20), 25, "law.go:24", #[⟨9, .data⟩], none⟩) (v := _) (yieldsIf_load_mid (by rfl) _ _ rfl b (off + i * 5 + 1) rfl [.int .i64 x.fa, .int .i64 x.fb] _ (fun w' hSw => C1 w' hSw) Try.underlying25 rfl (by kernel_rfl)) hHeld ?_
      try simp only [zP, zQ, zS, zZ, zC]
      refine wt (i := 11) (oi := ⟨some 22, .move (.tmp 0), 32, "law.go:24", #[], none⟩) (v := .slice (some ⟨b, off, none⟩) n c) (Or.inl ⟨by rfl, fun w' hSw => by go_simp⟩) hHeld ?_
      try simp only [zP, zQ, zS, zZ, zC]
      refine wt (i := 12) (oi := ⟨some 23, .move (.tmp 4), 3, "law.go:24", #[], none⟩) (v := .int .i64 (i : Int)) (Or.inl ⟨by rfl, fun w' hSw => by go_simp⟩) hHeld ?_
      try simp only [zP, zQ, zS, zZ, zC]
      refine wt (i := 13) (oi := ⟨some 24, .indexAddr 32 (.tmp 22) (.tmp 23), 0, "law.go:24", #[⟨11, .data⟩, ⟨12, .data⟩], none⟩) (v := .pointer (some ⟨b, off + i * 5, none⟩)) (Or.inl ⟨by rfl, fun w' hSw => by go_simp; try (intro hcm; exact absurd hcm (by omega))⟩) hHeld ?_
      try simp only [zP, zQ, zS, zZ, zC]
      refine wt (i := 14) (oi := ⟨some 25, .fieldAddr 69 (.tmp 24) 2, 0, "law.go:24", #[⟨13, .data⟩], none⟩) (v := .pointer (some ⟨b, off + i * 5 + 3, none⟩)) (Or.inl ⟨by rfl, fun w' hSw => by go_simp⟩) hHeld ?_
      try simp only [zP, zQ, zS, zZ, zC]
      refine wt (i := 15) (oi := ⟨some 26, .load 25 (.tmp 25), 25, "law.go:24", #[⟨14, .data⟩], none⟩) (v := _) (yieldsIf_load_mid (by rfl) _ _ rfl b (off + i * 5 + 3) rfl [.int .i64 x.ba, .int .i64 x.bb] _ (fun w' hSw => C2 w' hSw) Try.underlying25 rfl (by kernel_rfl)) hHeld ?_
      try simp only [zP, zQ, zS, zZ, zC]
      refine wt (i := 16) (oi := ⟨some 27, .build 64 #[(0, .tmp 16), (1, .tmp 21), (2, .tmp 26)], 64, "law.go:24", #[⟨5, .data⟩, ⟨10, .data⟩, ⟨15, .data⟩], none⟩) (v := .agg #[.int .i64 x.q, .int .i64 x.fa, .int .i64 x.fb, .int .i64 x.ba, .int .i64 x.bb]) (Or.inl ⟨by rfl, fun w' hSw => by go_simp⟩) hHeld ?_
      try simp only [zP, zQ, zS, zZ, zC]
      refine wpAnyH_ready (rs := [17]) (by kernel_rfl) (by simp) ?_
      refine AllReadyH.cons (o := ⟨some 28, .buildSlice 22 1 #[(0, .tmp 27)], 22, "law.go:24", #[⟨16, .data⟩], none⟩) rfl (fun K hK => ?_) AllReadyH.nil
      go_simp
      have hz0 : w.heap.size ≤ V0.heap.size := hHeld.size
      have hH0 := hHeld
      refine hK.out _ _ (hHeld.alloc hz0 _) (fun hHeld => ?_)
      clear hK K
      try simp only [zP, zQ, zS, zZ, zC]
      refine wpAnyH_ready (rs := [18]) (by kernel_rfl) (by simp) ?_
      refine AllReadyH.cons (o := ⟨some 29, .call { callee := .builtin .append, args := #[.tmp 11, .tmp 28], argTypes := #[22, 22] }, 22, "law.go:24", #[⟨0, .data⟩, ⟨17, .data⟩], none⟩) rfl (fun K hK => ?_) AllReadyH.nil
      refine push_at shE (w := V0) (.tmp 11) (.tmp 28) rfl (l.take i) x u3 rfl hO hz0 _ rfl _ rfl (by rw [List.length_take]; omega) ?_
      intro v4 V2 hO4 hB4 hR4 hat
      refine hK.out _ _ (hH0.trans hB4) (fun hHeld => ?_)
      clear hK K
      try simp only [zP, zQ, zS, zZ, zC]
      refine wpAnyH_ready (rs := [19]) (by kernel_rfl) (by simp) ?_
      refine AllReadyH.cons (o := ⟨some 3, .assign (.tmp 29), 22, "law.go:24", #[⟨18, .data⟩, ⟨18, .chain⟩, ⟨0, .phase⟩, ⟨1, .phase⟩, ⟨2, .phase⟩, ⟨3, .phase⟩, ⟨4, .phase⟩, ⟨5, .phase⟩, ⟨6, .phase⟩, ⟨7, .phase⟩, ⟨8, .phase⟩, ⟨9, .phase⟩, ⟨10, .phase⟩, ⟨11, .phase⟩, ⟨12, .phase⟩, ⟨13, .phase⟩, ⟨14, .phase⟩, ⟨15, .phase⟩, ⟨16, .phase⟩, ⟨17, .phase⟩, ⟨18, .phase⟩], none⟩) rfl (fun K hK => ?_) AllReadyH.nil
      go_simp
      refine hK.out _ _ (hHeld) (fun hHeld => ?_)
      clear hK K
      try simp only [zP, zQ, zS, zZ, zC]
      refine wpAnyH_done (by kernel_rfl) ?_ _
      have BX := hHeld
      clear hHeld 
      clear C0 C1 C2
      go_wp2
      exact ⟨⟨i + 1, by omega, by go_num, by rw [HT.out]; exact hO4, BX⟩, by simp [intOf]; omega⟩
    · have HE := Lib.hid (show l.take i = l from List.take_of_length_le (by rw [HN.out]; omega))
      go_wp2
      go_ret
      exact ⟨_, rfl, by have := hO; rw [HE.out] at this; exact this, hB⟩
end Go.Proofs.Ytahmpagolmodhaa
