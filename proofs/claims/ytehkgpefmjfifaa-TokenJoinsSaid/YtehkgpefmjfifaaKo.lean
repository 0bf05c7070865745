/-
  The reference's Last, First, Stop and Sentences.
-/
import Derived.Test.YtehkgpefmjfifaaKn
namespace Go.Proofs.Ytehkgpefmjfifaa
open Go.RowKit
set_option linter.unusedVariables false
set_option linter.unusedSimpArgs false

/-- Whether a token is the last one of its unit. -/
def endT (s : ByteArray) (t : Tk) : Bool := decide (t.2.1 = s.size) || decide (kdAt (sb s) t.2.1 = 4)
theorem endT_next {s : ByteArray} {i : Nat} {t u : Tk} (ht : (toks (sb s))[i]? = some t) (hu : (toks (sb s))[i + 1]? = some u) : endT s t = decide (t.2.1 < u.1) := by
  have h := unit_end ht
  rw [sb_length] at h
  unfold endT
  rw [Bool.eq_iff_iff, Bool.or_eq_true, decide_eq_true_eq, decide_eq_true_eq, decide_eq_true_eq, h]
  constructor
  · intro g; exact g u hu
  · intro g v hv
    rw [hu] at hv
    injection hv with hv
    rw [← hv]
    exact g
theorem endT_last {s : ByteArray} {i : Nat} {t : Tk} (ht : (toks (sb s))[i]? = some t) (hi : i + 1 = (toks (sb s)).length) : endT s t = true := by
  have h := unit_end ht
  rw [sb_length] at h
  unfold endT
  rw [Bool.or_eq_true, decide_eq_true_eq, decide_eq_true_eq, h]
  intro u hu
  have := (List.getElem?_eq_some_iff.1 hu).1
  omega

set_option maxHeartbeats 4000000 in
set_option maxRecDepth 100000 in
theorem rlast_any (s : ByteArray) (n : Nat) (hn : (toks (sb s)).length = n) (hn6 : n ≤ 1000000000) (q : Option Addr) (c i : Nat) (hi : i < n) (t : Tk) (ht : (toks (sb s))[i]? = some t) (w : World) (hA : At rtE w q (toks (sb s))) :
    Calls Try.prog 58 #[.slice q n c, .int .i64 (i : Int)] w (Told w (endT s t)) := by
  obtain ⟨b, off, rfl, hL⟩ := hA.get (i := i) (by omega)
  have hbl := hL.1
  obtain ⟨i1, hi1⟩ : ∃ i1, i + 1 = i1 := ⟨_, rfl⟩
  have hi1i : (i : Int) + 1 = (i1 : Int) := by omega
  have HW1 := Lib.hid (show IntKind.i64.wrap (i1 : Int) = (i1 : Int) from by simp [IntKind.wrap, IntKind.signed, IntKind.bits]; omega)
  by_cases hl : i1 < n
  · obtain ⟨⟨ua, ue, uk⟩, hu⟩ : ∃ u, (toks (sb s))[i + 1]? = some u := ⟨_, List.getElem?_eq_getElem (by omega)⟩
    have he := endT_next ht hu
    obtain ⟨ta, te, tk⟩ := t
    have L0 : w.cell? ⟨b, off + i1 * 3, none⟩ = some (.int .i64 (ua : Int)) := by rw [← hi1]; exact hL.2 (i + 1) (ua, ue, uk) 0 _ hu rfl
    have L1 : w.cell? ⟨b, off + i * 3 + 1, none⟩ = some (.int .i64 (te : Int)) := hL.2 i (ta, te, tk) 1 _ ht rfl
    have C0 : ∀ w', Below w.heap.size w w' → w'.cell? ⟨b, off + i1 * 3, none⟩ = some (.int .i64 (ua : Int)) := fun w' h => (h.cell (p := ⟨b, off + i1 * 3, none⟩) hbl).trans L0
    have C1 : ∀ w', Below w.heap.size w w' → w'.cell? ⟨b, off + i * 3 + 1, none⟩ = some (.int .i64 (te : Int)) := fun w' h => (h.cell (p := ⟨b, off + i * 3 + 1, none⟩) hbl).trans L1
    have hl2 : ¬ (n : Int) ≤ (i1 : Int) := by omega
    clear hn ht hu hL hA hi1 L0 L1
    go_enter Try.func58, Try.ntmps58
    go_upto_region 1 with (fail)
    by_cases hlt : te < ua
    · rw [decide_eq_true hlt] at he
      have HE := Lib.hid he
      clear he
      refine wp_region_held_drew (S := fun w' => Below w.heap.size w w') (by kernel_rfl) (below_drew (Below.refl _ _)) (fun _ => ?_)
      have hHeld : Below w.heap.size w w.drew := below_drew (Below.refl _ _)
      generalize w.drew = V0 at hHeld ⊢
      refine wt (i := 0) (oi := ⟨some 5, .move (.tmp 1), 3, "ref.go:103", #[], none⟩) (v := .int .i64 (i : Int)) (Or.inl ⟨by rfl, fun w' hSw => by go_simp⟩) hHeld ?_
      try simp only [zP, zQ, zS, zZ, zC]
      refine wt (i := 1) (oi := ⟨some 6, .binOp .add 3 (.tmp 5) (.const (Value.int IntKind.i64 1)) 3, 3, "ref.go:103", #[⟨0, .data⟩], none⟩) (v := .int .i64 (i1 : Int)) (Or.inl ⟨by rfl, fun w' hSw => by have hw := HW1.out; go_simp⟩) hHeld ?_
      try simp only [zP, zQ, zS, zZ, zC]
      refine wt (i := 2) (oi := ⟨some 7, .move (.tmp 0), 29, "ref.go:103", #[], none⟩) (v := .slice (some ⟨b, off, none⟩) n c) (Or.inl ⟨by rfl, fun w' hSw => by go_simp⟩) hHeld ?_
      try simp only [zP, zQ, zS, zZ, zC]
      refine wt (i := 3) (oi := ⟨some 8, .call { callee := .builtin .len, args := #[.tmp 7], argTypes := #[29] }, 3, "ref.go:103", #[⟨2, .data⟩], none⟩) (v := .int .i64 (n : Int)) (Or.inl ⟨by rfl, fun w' hSw => by go_simp⟩) hHeld ?_
      try simp only [zP, zQ, zS, zZ, zC]
      refine wt (i := 4) (oi := ⟨some 9, .binOp .geq 3 (.tmp 6) (.tmp 8) 3, 4, "ref.go:103", #[⟨1, .data⟩, ⟨3, .data⟩], none⟩) (v := .bool false) (Or.inl ⟨by rfl, fun w' hSw => by go_simp⟩) hHeld ?_
      try simp only [zP, zQ, zS, zZ, zC]
      refine wt (i := 5) (oi := ⟨some 10, .move (.tmp 9), 4, "ref.go:103", #[⟨4, .data⟩], none⟩) (v := .bool false) (Or.inl ⟨by rfl, fun w' hSw => by go_simp⟩) hHeld ?_
      try simp only [zP, zQ, zS, zZ, zC]
      refine wt (i := 6) (oi := ⟨some 11, .move (.tmp 0), 29, "ref.go:103", #[⟨5, .guard⟩], some (5, false)⟩) (v := .slice (some ⟨b, off, none⟩) n c) (Or.inl ⟨by rfl, fun w' hSw => by go_simp⟩) hHeld ?_
      try simp only [zP, zQ, zS, zZ, zC]
      refine wt (i := 7) (oi := ⟨some 12, .move (.tmp 1), 3, "ref.go:103", #[⟨5, .guard⟩], some (5, false)⟩) (v := .int .i64 (i : Int)) (Or.inl ⟨by rfl, fun w' hSw => by go_simp⟩) hHeld ?_
      try simp only [zP, zQ, zS, zZ, zC]
      refine wt (i := 8) (oi := ⟨some 13, .binOp .add 3 (.tmp 12) (.const (Value.int IntKind.i64 1)) 3, 3, "ref.go:103", #[⟨7, .data⟩, ⟨5, .guard⟩], some (5, false)⟩) (v := .int .i64 (i1 : Int)) (Or.inl ⟨by rfl, fun w' hSw => by have hw := HW1.out; go_simp⟩) hHeld ?_
      try simp only [zP, zQ, zS, zZ, zC]
      refine wt (i := 9) (oi := ⟨some 14, .indexAddr 29 (.tmp 11) (.tmp 13), 0, "ref.go:103", #[⟨6, .data⟩, ⟨8, .data⟩, ⟨5, .guard⟩], some (5, false)⟩) (v := .pointer (some ⟨b, off + i1 * 3, none⟩)) (Or.inl ⟨by rfl, fun w' hSw => by go_simp; try (intro hcm; exact absurd hcm (by omega))⟩) hHeld ?_
      try simp only [zP, zQ, zS, zZ, zC]
      refine wt (i := 10) (oi := ⟨some 15, .fieldAddr 63 (.tmp 14) 0, 0, "ref.go:103", #[⟨9, .data⟩, ⟨5, .guard⟩], some (5, false)⟩) (v := .pointer (some ⟨b, off + i1 * 3, none⟩)) (Or.inl ⟨by rfl, fun w' hSw => by go_simp⟩) hHeld ?_
      try simp only [zP, zQ, zS, zZ, zC]
      refine wt (i := 11) (oi := ⟨some 16, .load 3 (.tmp 15), 3, "ref.go:103", #[⟨10, .data⟩, ⟨5, .guard⟩], some (5, false)⟩) (v := .int .i64 (ua : Int)) (Or.inl ⟨by rfl, fun w' hSw => by have hc := C0 w' hSw; go_simp⟩) hHeld ?_
      try simp only [zP, zQ, zS, zZ, zC]
      refine wt (i := 12) (oi := ⟨some 17, .move (.tmp 0), 29, "ref.go:103", #[⟨5, .guard⟩], some (5, false)⟩) (v := .slice (some ⟨b, off, none⟩) n c) (Or.inl ⟨by rfl, fun w' hSw => by go_simp⟩) hHeld ?_
      try simp only [zP, zQ, zS, zZ, zC]
      refine wt (i := 13) (oi := ⟨some 18, .move (.tmp 1), 3, "ref.go:103", #[⟨5, .guard⟩], some (5, false)⟩) (v := .int .i64 (i : Int)) (Or.inl ⟨by rfl, fun w' hSw => by go_simp⟩) hHeld ?_
      try simp only [zP, zQ, zS, zZ, zC]
      refine wt (i := 14) (oi := ⟨some 19, .indexAddr 29 (.tmp 17) (.tmp 18), 0, "ref.go:103", #[⟨12, .data⟩, ⟨13, .data⟩, ⟨5, .guard⟩], some (5, false)⟩) (v := .pointer (some ⟨b, off + i * 3, none⟩)) (Or.inl ⟨by rfl, fun w' hSw => by go_simp; try (intro hcm; exact absurd hcm (by omega))⟩) hHeld ?_
      try simp only [zP, zQ, zS, zZ, zC]
      refine wt (i := 15) (oi := ⟨some 20, .fieldAddr 63 (.tmp 19) 1, 0, "ref.go:103", #[⟨14, .data⟩, ⟨5, .guard⟩], some (5, false)⟩) (v := .pointer (some ⟨b, off + i * 3 + 1, none⟩)) (Or.inl ⟨by rfl, fun w' hSw => by go_simp⟩) hHeld ?_
      try simp only [zP, zQ, zS, zZ, zC]
      refine wt (i := 16) (oi := ⟨some 21, .load 3 (.tmp 20), 3, "ref.go:103", #[⟨15, .data⟩, ⟨5, .guard⟩], some (5, false)⟩) (v := .int .i64 (te : Int)) (Or.inl ⟨by rfl, fun w' hSw => by have hc := C1 w' hSw; go_simp⟩) hHeld ?_
      try simp only [zP, zQ, zS, zZ, zC]
      refine wt (i := 17) (oi := ⟨some 22, .binOp .gtr 3 (.tmp 16) (.tmp 21) 3, 4, "ref.go:103", #[⟨11, .data⟩, ⟨16, .data⟩, ⟨5, .guard⟩], some (5, false)⟩) (v := .bool true) (Or.inl ⟨by rfl, fun w' hSw => by go_simp⟩) hHeld ?_
      try simp only [zP, zQ, zS, zZ, zC]
      refine wt (i := 18) (oi := ⟨some 23, .pick (.tmp 10) (.const (Value.bool true)) (.tmp 22), 4, "ref.go:103", #[⟨5, .data⟩, ⟨17, .data⟩], none⟩) (v := .bool true) (Or.inl ⟨by rfl, fun w' hSw => by go_simp⟩) hHeld ?_
      try simp only [zP, zQ, zS, zZ, zC]
      refine wpAnyH_ready (rs := [19]) (by kernel_rfl) (by simp) ?_
      refine AllReadyH.cons (o := ⟨some 4, .assign (.tmp 23), 4, "ref.go:103", #[⟨18, .data⟩, ⟨5, .chain⟩, ⟨0, .phase⟩, ⟨1, .phase⟩, ⟨2, .phase⟩, ⟨3, .phase⟩, ⟨4, .phase⟩, ⟨5, .phase⟩, ⟨6, .phase⟩, ⟨7, .phase⟩, ⟨8, .phase⟩, ⟨9, .phase⟩, ⟨10, .phase⟩, ⟨11, .phase⟩, ⟨12, .phase⟩, ⟨13, .phase⟩, ⟨14, .phase⟩, ⟨15, .phase⟩, ⟨16, .phase⟩, ⟨17, .phase⟩, ⟨18, .phase⟩], none⟩) rfl (fun K hK => ?_) AllReadyH.nil
      go_simp
      refine hK.out _ _ (hHeld) (fun hHeld => ?_)
      clear hK K
      try simp only [zP, zQ, zS, zZ, zC]
      refine wpAnyH_done (by kernel_rfl) ?_ _
      have BX := hHeld
      clear hHeld 
      go_wp2
      go_ret
      exact ⟨by rw [HE.out]; rfl, BX⟩
    · rw [decide_eq_false hlt] at he
      have HE := Lib.hid he
      clear he
      refine wp_region_held_drew (S := fun w' => Below w.heap.size w w') (by kernel_rfl) (below_drew (Below.refl _ _)) (fun _ => ?_)
      have hHeld : Below w.heap.size w w.drew := below_drew (Below.refl _ _)
      generalize w.drew = V0 at hHeld ⊢
      refine wt (i := 0) (oi := ⟨some 5, .move (.tmp 1), 3, "ref.go:103", #[], none⟩) (v := .int .i64 (i : Int)) (Or.inl ⟨by rfl, fun w' hSw => by go_simp⟩) hHeld ?_
      try simp only [zP, zQ, zS, zZ, zC]
      refine wt (i := 1) (oi := ⟨some 6, .binOp .add 3 (.tmp 5) (.const (Value.int IntKind.i64 1)) 3, 3, "ref.go:103", #[⟨0, .data⟩], none⟩) (v := .int .i64 (i1 : Int)) (Or.inl ⟨by rfl, fun w' hSw => by have hw := HW1.out; go_simp⟩) hHeld ?_
      try simp only [zP, zQ, zS, zZ, zC]
      refine wt (i := 2) (oi := ⟨some 7, .move (.tmp 0), 29, "ref.go:103", #[], none⟩) (v := .slice (some ⟨b, off, none⟩) n c) (Or.inl ⟨by rfl, fun w' hSw => by go_simp⟩) hHeld ?_
      try simp only [zP, zQ, zS, zZ, zC]
      refine wt (i := 3) (oi := ⟨some 8, .call { callee := .builtin .len, args := #[.tmp 7], argTypes := #[29] }, 3, "ref.go:103", #[⟨2, .data⟩], none⟩) (v := .int .i64 (n : Int)) (Or.inl ⟨by rfl, fun w' hSw => by go_simp⟩) hHeld ?_
      try simp only [zP, zQ, zS, zZ, zC]
      refine wt (i := 4) (oi := ⟨some 9, .binOp .geq 3 (.tmp 6) (.tmp 8) 3, 4, "ref.go:103", #[⟨1, .data⟩, ⟨3, .data⟩], none⟩) (v := .bool false) (Or.inl ⟨by rfl, fun w' hSw => by go_simp⟩) hHeld ?_
      try simp only [zP, zQ, zS, zZ, zC]
      refine wt (i := 5) (oi := ⟨some 10, .move (.tmp 9), 4, "ref.go:103", #[⟨4, .data⟩], none⟩) (v := .bool false) (Or.inl ⟨by rfl, fun w' hSw => by go_simp⟩) hHeld ?_
      try simp only [zP, zQ, zS, zZ, zC]
      refine wt (i := 6) (oi := ⟨some 11, .move (.tmp 0), 29, "ref.go:103", #[⟨5, .guard⟩], some (5, false)⟩) (v := .slice (some ⟨b, off, none⟩) n c) (Or.inl ⟨by rfl, fun w' hSw => by go_simp⟩) hHeld ?_
      try simp only [zP, zQ, zS, zZ, zC]
      refine wt (i := 7) (oi := ⟨some 12, .move (.tmp 1), 3, "ref.go:103", #[⟨5, .guard⟩], some (5, false)⟩) (v := .int .i64 (i : Int)) (Or.inl ⟨by rfl, fun w' hSw => by go_simp⟩) hHeld ?_
      try simp only [zP, zQ, zS, zZ, zC]
      refine wt (i := 8) (oi := ⟨some 13, .binOp .add 3 (.tmp 12) (.const (Value.int IntKind.i64 1)) 3, 3, "ref.go:103", #[⟨7, .data⟩, ⟨5, .guard⟩], some (5, false)⟩) (v := .int .i64 (i1 : Int)) (Or.inl ⟨by rfl, fun w' hSw => by have hw := HW1.out; go_simp⟩) hHeld ?_
      try simp only [zP, zQ, zS, zZ, zC]
      refine wt (i := 9) (oi := ⟨some 14, .indexAddr 29 (.tmp 11) (.tmp 13), 0, "ref.go:103", #[⟨6, .data⟩, ⟨8, .data⟩, ⟨5, .guard⟩], some (5, false)⟩) (v := .pointer (some ⟨b, off + i1 * 3, none⟩)) (Or.inl ⟨by rfl, fun w' hSw => by go_simp; try (intro hcm; exact absurd hcm (by omega))⟩) hHeld ?_
      try simp only [zP, zQ, zS, zZ, zC]
      refine wt (i := 10) (oi := ⟨some 15, .fieldAddr 63 (.tmp 14) 0, 0, "ref.go:103", #[⟨9, .data⟩, ⟨5, .guard⟩], some (5, false)⟩) (v := .pointer (some ⟨b, off + i1 * 3, none⟩)) (Or.inl ⟨by rfl, fun w' hSw => by go_simp⟩) hHeld ?_
      try simp only [zP, zQ, zS, zZ, zC]
      refine wt (i := 11) (oi := ⟨some 16, .load 3 (.tmp 15), 3, "ref.go:103", #[⟨10, .data⟩, ⟨5, .guard⟩], some (5, false)⟩) (v := .int .i64 (ua : Int)) (Or.inl ⟨by rfl, fun w' hSw => by have hc := C0 w' hSw; go_simp⟩) hHeld ?_
      try simp only [zP, zQ, zS, zZ, zC]
      refine wt (i := 12) (oi := ⟨some 17, .move (.tmp 0), 29, "ref.go:103", #[⟨5, .guard⟩], some (5, false)⟩) (v := .slice (some ⟨b, off, none⟩) n c) (Or.inl ⟨by rfl, fun w' hSw => by go_simp⟩) hHeld ?_
      try simp only [zP, zQ, zS, zZ, zC]
      refine wt (i := 13) (oi := ⟨some 18, .move (.tmp 1), 3, "ref.go:103", #[⟨5, .guard⟩], some (5, false)⟩) (v := .int .i64 (i : Int)) (Or.inl ⟨by rfl, fun w' hSw => by go_simp⟩) hHeld ?_
      try simp only [zP, zQ, zS, zZ, zC]
      refine wt (i := 14) (oi := ⟨some 19, .indexAddr 29 (.tmp 17) (.tmp 18), 0, "ref.go:103", #[⟨12, .data⟩, ⟨13, .data⟩, ⟨5, .guard⟩], some (5, false)⟩) (v := .pointer (some ⟨b, off + i * 3, none⟩)) (Or.inl ⟨by rfl, fun w' hSw => by go_simp; try (intro hcm; exact absurd hcm (by omega))⟩) hHeld ?_
      try simp only [zP, zQ, zS, zZ, zC]
      refine wt (i := 15) (oi := ⟨some 20, .fieldAddr 63 (.tmp 19) 1, 0, "ref.go:103", #[⟨14, .data⟩, ⟨5, .guard⟩], some (5, false)⟩) (v := .pointer (some ⟨b, off + i * 3 + 1, none⟩)) (Or.inl ⟨by rfl, fun w' hSw => by go_simp⟩) hHeld ?_
      try simp only [zP, zQ, zS, zZ, zC]
      refine wt (i := 16) (oi := ⟨some 21, .load 3 (.tmp 20), 3, "ref.go:103", #[⟨15, .data⟩, ⟨5, .guard⟩], some (5, false)⟩) (v := .int .i64 (te : Int)) (Or.inl ⟨by rfl, fun w' hSw => by have hc := C1 w' hSw; go_simp⟩) hHeld ?_
      try simp only [zP, zQ, zS, zZ, zC]
      refine wt (i := 17) (oi := ⟨some 22, .binOp .gtr 3 (.tmp 16) (.tmp 21) 3, 4, "ref.go:103", #[⟨11, .data⟩, ⟨16, .data⟩, ⟨5, .guard⟩], some (5, false)⟩) (v := .bool false) (Or.inl ⟨by rfl, fun w' hSw => by go_simp⟩) hHeld ?_
      try simp only [zP, zQ, zS, zZ, zC]
      refine wt (i := 18) (oi := ⟨some 23, .pick (.tmp 10) (.const (Value.bool true)) (.tmp 22), 4, "ref.go:103", #[⟨5, .data⟩, ⟨17, .data⟩], none⟩) (v := .bool false) (Or.inl ⟨by rfl, fun w' hSw => by go_simp⟩) hHeld ?_
      try simp only [zP, zQ, zS, zZ, zC]
      refine wpAnyH_ready (rs := [19]) (by kernel_rfl) (by simp) ?_
      refine AllReadyH.cons (o := ⟨some 4, .assign (.tmp 23), 4, "ref.go:103", #[⟨18, .data⟩, ⟨5, .chain⟩, ⟨0, .phase⟩, ⟨1, .phase⟩, ⟨2, .phase⟩, ⟨3, .phase⟩, ⟨4, .phase⟩, ⟨5, .phase⟩, ⟨6, .phase⟩, ⟨7, .phase⟩, ⟨8, .phase⟩, ⟨9, .phase⟩, ⟨10, .phase⟩, ⟨11, .phase⟩, ⟨12, .phase⟩, ⟨13, .phase⟩, ⟨14, .phase⟩, ⟨15, .phase⟩, ⟨16, .phase⟩, ⟨17, .phase⟩, ⟨18, .phase⟩], none⟩) rfl (fun K hK => ?_) AllReadyH.nil
      go_simp
      refine hK.out _ _ (hHeld) (fun hHeld => ?_)
      clear hK K
      try simp only [zP, zQ, zS, zZ, zC]
      refine wpAnyH_done (by kernel_rfl) ?_ _
      have BX := hHeld
      clear hHeld 
      go_wp2
      go_ret
      exact ⟨by rw [HE.out]; rfl, BX⟩
  · have HE := Lib.hid (endT_last ht (by omega))
    have hl2 : (n : Int) ≤ (i1 : Int) := by omega
    clear hn ht hL hA hi1
    go_enter Try.func58, Try.ntmps58
    go_upto_region 1 with (fail)
    refine wp_region_held_drew (S := fun w' => Below w.heap.size w w') (by kernel_rfl) (below_drew (Below.refl _ _)) (fun _ => ?_)
    have hHeld : Below w.heap.size w w.drew := below_drew (Below.refl _ _)
    generalize w.drew = V0 at hHeld ⊢
    refine wt (i := 0) (oi := ⟨some 5, .move (.tmp 1), 3, "ref.go:103", #[], none⟩) (v := .int .i64 (i : Int)) (Or.inl ⟨by rfl, fun w' hSw => by go_simp⟩) hHeld ?_
    try simp only [zP, zQ, zS, zZ, zC]
    refine wt (i := 1) (oi := ⟨some 6, .binOp .add 3 (.tmp 5) (.const (Value.int IntKind.i64 1)) 3, 3, "ref.go:103", #[⟨0, .data⟩], none⟩) (v := .int .i64 (i1 : Int)) (Or.inl ⟨by rfl, fun w' hSw => by have hw := HW1.out; go_simp⟩) hHeld ?_
    try simp only [zP, zQ, zS, zZ, zC]
    refine wt (i := 2) (oi := ⟨some 7, .move (.tmp 0), 29, "ref.go:103", #[], none⟩) (v := .slice (some ⟨b, off, none⟩) n c) (Or.inl ⟨by rfl, fun w' hSw => by go_simp⟩) hHeld ?_
    try simp only [zP, zQ, zS, zZ, zC]
    refine wt (i := 3) (oi := ⟨some 8, .call { callee := .builtin .len, args := #[.tmp 7], argTypes := #[29] }, 3, "ref.go:103", #[⟨2, .data⟩], none⟩) (v := .int .i64 (n : Int)) (Or.inl ⟨by rfl, fun w' hSw => by go_simp⟩) hHeld ?_
    try simp only [zP, zQ, zS, zZ, zC]
    refine wt (i := 4) (oi := ⟨some 9, .binOp .geq 3 (.tmp 6) (.tmp 8) 3, 4, "ref.go:103", #[⟨1, .data⟩, ⟨3, .data⟩], none⟩) (v := .bool true) (Or.inl ⟨by rfl, fun w' hSw => by go_simp⟩) hHeld ?_
    try simp only [zP, zQ, zS, zZ, zC]
    refine wt (i := 5) (oi := ⟨some 10, .move (.tmp 9), 4, "ref.go:103", #[⟨4, .data⟩], none⟩) (v := .bool true) (Or.inl ⟨by rfl, fun w' hSw => by go_simp⟩) hHeld ?_
    try simp only [zP, zQ, zS, zZ, zC]
    refine wt (i := 6) (oi := ⟨some 11, .move (.tmp 0), 29, "ref.go:103", #[⟨5, .guard⟩], some (5, false)⟩) (v := undef) (Or.inr ⟨by rfl, rfl⟩) hHeld ?_
    try simp only [zP, zQ, zS, zZ, zC]
    refine wt (i := 7) (oi := ⟨some 12, .move (.tmp 1), 3, "ref.go:103", #[⟨5, .guard⟩], some (5, false)⟩) (v := undef) (Or.inr ⟨by rfl, rfl⟩) hHeld ?_
    try simp only [zP, zQ, zS, zZ, zC]
    refine wt (i := 8) (oi := ⟨some 13, .binOp .add 3 (.tmp 12) (.const (Value.int IntKind.i64 1)) 3, 3, "ref.go:103", #[⟨7, .data⟩, ⟨5, .guard⟩], some (5, false)⟩) (v := undef) (Or.inr ⟨by rfl, rfl⟩) hHeld ?_
    try simp only [zP, zQ, zS, zZ, zC]
    refine wt (i := 9) (oi := ⟨some 14, .indexAddr 29 (.tmp 11) (.tmp 13), 0, "ref.go:103", #[⟨6, .data⟩, ⟨8, .data⟩, ⟨5, .guard⟩], some (5, false)⟩) (v := undef) (Or.inr ⟨by rfl, rfl⟩) hHeld ?_
    try simp only [zP, zQ, zS, zZ, zC]
    refine wt (i := 10) (oi := ⟨some 15, .fieldAddr 63 (.tmp 14) 0, 0, "ref.go:103", #[⟨9, .data⟩, ⟨5, .guard⟩], some (5, false)⟩) (v := undef) (Or.inr ⟨by rfl, rfl⟩) hHeld ?_
    try simp only [zP, zQ, zS, zZ, zC]
    refine wt (i := 11) (oi := ⟨some 16, .load 3 (.tmp 15), 3, "ref.go:103", #[⟨10, .data⟩, ⟨5, .guard⟩], some (5, false)⟩) (v := undef) (Or.inr ⟨by rfl, rfl⟩) hHeld ?_
    try simp only [zP, zQ, zS, zZ, zC]
    refine wt (i := 12) (oi := ⟨some 17, .move (.tmp 0), 29, "ref.go:103", #[⟨5, .guard⟩], some (5, false)⟩) (v := undef) (Or.inr ⟨by rfl, rfl⟩) hHeld ?_
    try simp only [zP, zQ, zS, zZ, zC]
    refine wt (i := 13) (oi := ⟨some 18, .move (.tmp 1), 3, "ref.go:103", #[⟨5, .guard⟩], some (5, false)⟩) (v := undef) (Or.inr ⟨by rfl, rfl⟩) hHeld ?_
    try simp only [zP, zQ, zS, zZ, zC]
    refine wt (i := 14) (oi := ⟨some 19, .indexAddr 29 (.tmp 17) (.tmp 18), 0, "ref.go:103", #[⟨12, .data⟩, ⟨13, .data⟩, ⟨5, .guard⟩], some (5, false)⟩) (v := undef) (Or.inr ⟨by rfl, rfl⟩) hHeld ?_
    try simp only [zP, zQ, zS, zZ, zC]
    refine wt (i := 15) (oi := ⟨some 20, .fieldAddr 63 (.tmp 19) 1, 0, "ref.go:103", #[⟨14, .data⟩, ⟨5, .guard⟩], some (5, false)⟩) (v := undef) (Or.inr ⟨by rfl, rfl⟩) hHeld ?_
    try simp only [zP, zQ, zS, zZ, zC]
    refine wt (i := 16) (oi := ⟨some 21, .load 3 (.tmp 20), 3, "ref.go:103", #[⟨15, .data⟩, ⟨5, .guard⟩], some (5, false)⟩) (v := undef) (Or.inr ⟨by rfl, rfl⟩) hHeld ?_
    try simp only [zP, zQ, zS, zZ, zC]
    refine wt (i := 17) (oi := ⟨some 22, .binOp .gtr 3 (.tmp 16) (.tmp 21) 3, 4, "ref.go:103", #[⟨11, .data⟩, ⟨16, .data⟩, ⟨5, .guard⟩], some (5, false)⟩) (v := undef) (Or.inr ⟨by rfl, rfl⟩) hHeld ?_
    try simp only [zP, zQ, zS, zZ, zC]
    refine wt (i := 18) (oi := ⟨some 23, .pick (.tmp 10) (.const (Value.bool true)) (.tmp 22), 4, "ref.go:103", #[⟨5, .data⟩, ⟨17, .data⟩], none⟩) (v := .bool true) (Or.inl ⟨by rfl, fun w' hSw => by go_simp⟩) hHeld ?_
    try simp only [zP, zQ, zS, zZ, zC]
    refine wpAnyH_ready (rs := [19]) (by kernel_rfl) (by simp) ?_
    refine AllReadyH.cons (o := ⟨some 4, .assign (.tmp 23), 4, "ref.go:103", #[⟨18, .data⟩, ⟨5, .chain⟩, ⟨0, .phase⟩, ⟨1, .phase⟩, ⟨2, .phase⟩, ⟨3, .phase⟩, ⟨4, .phase⟩, ⟨5, .phase⟩, ⟨6, .phase⟩, ⟨7, .phase⟩, ⟨8, .phase⟩, ⟨9, .phase⟩, ⟨10, .phase⟩, ⟨11, .phase⟩, ⟨12, .phase⟩, ⟨13, .phase⟩, ⟨14, .phase⟩, ⟨15, .phase⟩, ⟨16, .phase⟩, ⟨17, .phase⟩, ⟨18, .phase⟩], none⟩) rfl (fun K hK => ?_) AllReadyH.nil
    go_simp
    refine hK.out _ _ (hHeld) (fun hHeld => ?_)
    clear hK K
    try simp only [zP, zQ, zS, zZ, zC]
    refine wpAnyH_done (by kernel_rfl) ?_ _
    have BX := hHeld
    clear hHeld 
    go_wp2
    go_ret
    exact ⟨by rw [HE.out]; rfl, BX⟩

set_option maxHeartbeats 4000000 in
set_option maxRecDepth 100000 in
theorem rfirst_any (s : ByteArray) (n : Nat) (hn : (toks (sb s)).length = n) (hn6 : n ≤ 1000000000) (q : Option Addr) (c i i0 : Nat) (hi : i < n) (hi0 : i = i0 + 1) (t u : Tk) (ht : (toks (sb s))[i0]? = some t) (hu : (toks (sb s))[i]? = some u) (w : World) (hA : At rtE w q (toks (sb s))) :
    Calls Try.prog 49 #[.slice q n c, .int .i64 (i : Int)] w (Told w (decide (t.2.1 < u.1))) := by
  obtain ⟨b, off, rfl, hL⟩ := hA.get (i := i) (by omega)
  have hbl := hL.1
  obtain ⟨ta, te, tk⟩ := t
  obtain ⟨ua, ue, uk⟩ := u
  have L0 : w.cell? ⟨b, off + i * 3, none⟩ = some (.int .i64 (ua : Int)) := hL.2 i (ua, ue, uk) 0 _ hu rfl
  have L1 : w.cell? ⟨b, off + i0 * 3 + 1, none⟩ = some (.int .i64 (te : Int)) := hL.2 i0 (ta, te, tk) 1 _ ht rfl
  have C0 : ∀ w', Below w.heap.size w w' → w'.cell? ⟨b, off + i * 3, none⟩ = some (.int .i64 (ua : Int)) := fun w' h => (h.cell (p := ⟨b, off + i * 3, none⟩) hbl).trans L0
  have C1 : ∀ w', Below w.heap.size w w' → w'.cell? ⟨b, off + i0 * 3 + 1, none⟩ = some (.int .i64 (te : Int)) := fun w' h => (h.cell (p := ⟨b, off + i0 * 3 + 1, none⟩) hbl).trans L1
  have hsub : (i : Int) - 1 = (i0 : Int) := by omega
  have hpos : ¬ i = 0 := by omega
  have hi0n : i0 < n := by omega
  have HW := Lib.hid (show IntKind.i64.wrap (i0 : Int) = (i0 : Int) from by simp [IntKind.wrap, IntKind.signed, IntKind.bits]; omega)
  clear hn ht hu hL hA hi0 L0 L1
  show Calls _ _ _ _ (Told w (decide (te < ua)))
  by_cases hlt : te < ua
  · rw [decide_eq_true hlt]
    go_enter Try.func49, Try.ntmps49
    go_upto_region 1 with (fail)
    refine wp_region_held_drew (S := fun w' => Below w.heap.size w w') (by kernel_rfl) (below_drew (Below.refl _ _)) (fun _ => ?_)
    have hHeld : Below w.heap.size w w.drew := below_drew (Below.refl _ _)
    generalize w.drew = V0 at hHeld ⊢
    refine wt (i := 0) (oi := ⟨some 5, .move (.tmp 1), 3, "ref.go:106", #[], none⟩) (v := .int .i64 (i : Int)) (Or.inl ⟨by rfl, fun w' hSw => by go_simp⟩) hHeld ?_
    try simp only [zP, zQ, zS, zZ, zC]
    refine wt (i := 1) (oi := ⟨some 6, .binOp .leq 3 (.tmp 5) (.const (Value.int IntKind.i64 0)) 3, 4, "ref.go:106", #[⟨0, .data⟩], none⟩) (v := .bool false) (Or.inl ⟨by rfl, fun w' hSw => by go_simp⟩) hHeld ?_
    try simp only [zP, zQ, zS, zZ, zC]
    refine wt (i := 2) (oi := ⟨some 7, .move (.tmp 6), 4, "ref.go:106", #[⟨1, .data⟩], none⟩) (v := .bool false) (Or.inl ⟨by rfl, fun w' hSw => by go_simp⟩) hHeld ?_
    try simp only [zP, zQ, zS, zZ, zC]
    refine wt (i := 3) (oi := ⟨some 8, .move (.tmp 0), 29, "ref.go:106", #[⟨2, .guard⟩], some (2, false)⟩) (v := .slice (some ⟨b, off, none⟩) n c) (Or.inl ⟨by rfl, fun w' hSw => by go_simp⟩) hHeld ?_
    try simp only [zP, zQ, zS, zZ, zC]
    refine wt (i := 4) (oi := ⟨some 9, .move (.tmp 1), 3, "ref.go:106", #[⟨2, .guard⟩], some (2, false)⟩) (v := .int .i64 (i : Int)) (Or.inl ⟨by rfl, fun w' hSw => by go_simp⟩) hHeld ?_
    try simp only [zP, zQ, zS, zZ, zC]
    refine wt (i := 5) (oi := ⟨some 10, .indexAddr 29 (.tmp 8) (.tmp 9), 0, "ref.go:106", #[⟨3, .data⟩, ⟨4, .data⟩, ⟨2, .guard⟩], some (2, false)⟩) (v := .pointer (some ⟨b, off + i * 3, none⟩)) (Or.inl ⟨by rfl, fun w' hSw => by go_simp; try (intro hcm; exact absurd hcm (by omega))⟩) hHeld ?_
    try simp only [zP, zQ, zS, zZ, zC]
    refine wt (i := 6) (oi := ⟨some 11, .fieldAddr 63 (.tmp 10) 0, 0, "ref.go:106", #[⟨5, .data⟩, ⟨2, .guard⟩], some (2, false)⟩) (v := .pointer (some ⟨b, off + i * 3, none⟩)) (Or.inl ⟨by rfl, fun w' hSw => by go_simp⟩) hHeld ?_
    try simp only [zP, zQ, zS, zZ, zC]
    refine wt (i := 7) (oi := ⟨some 12, .load 3 (.tmp 11), 3, "ref.go:106", #[⟨6, .data⟩, ⟨2, .guard⟩], some (2, false)⟩) (v := .int .i64 (ua : Int)) (Or.inl ⟨by rfl, fun w' hSw => by have hc := C0 w' hSw; go_simp⟩) hHeld ?_
    try simp only [zP, zQ, zS, zZ, zC]
    refine wt (i := 8) (oi := ⟨some 13, .move (.tmp 0), 29, "ref.go:106", #[⟨2, .guard⟩], some (2, false)⟩) (v := .slice (some ⟨b, off, none⟩) n c) (Or.inl ⟨by rfl, fun w' hSw => by go_simp⟩) hHeld ?_
    try simp only [zP, zQ, zS, zZ, zC]
    refine wt (i := 9) (oi := ⟨some 14, .move (.tmp 1), 3, "ref.go:106", #[⟨2, .guard⟩], some (2, false)⟩) (v := .int .i64 (i : Int)) (Or.inl ⟨by rfl, fun w' hSw => by go_simp⟩) hHeld ?_
    try simp only [zP, zQ, zS, zZ, zC]
    refine wt (i := 10) (oi := ⟨some 15, .binOp .sub 3 (.tmp 14) (.const (Value.int IntKind.i64 1)) 3, 3, "ref.go:106", #[⟨9, .data⟩, ⟨2, .guard⟩], some (2, false)⟩) (v := .int .i64 (i0 : Int)) (Or.inl ⟨by rfl, fun w' hSw => by have hw := HW.out; go_simp⟩) hHeld ?_
    try simp only [zP, zQ, zS, zZ, zC]
    refine wt (i := 11) (oi := ⟨some 16, .indexAddr 29 (.tmp 13) (.tmp 15), 0, "ref.go:106", #[⟨8, .data⟩, ⟨10, .data⟩, ⟨2, .guard⟩], some (2, false)⟩) (v := .pointer (some ⟨b, off + i0 * 3, none⟩)) (Or.inl ⟨by rfl, fun w' hSw => by go_simp; try (intro hcm; exact absurd hcm (by omega))⟩) hHeld ?_
    try simp only [zP, zQ, zS, zZ, zC]
    refine wt (i := 12) (oi := ⟨some 17, .fieldAddr 63 (.tmp 16) 1, 0, "ref.go:106", #[⟨11, .data⟩, ⟨2, .guard⟩], some (2, false)⟩) (v := .pointer (some ⟨b, off + i0 * 3 + 1, none⟩)) (Or.inl ⟨by rfl, fun w' hSw => by go_simp⟩) hHeld ?_
    try simp only [zP, zQ, zS, zZ, zC]
    refine wt (i := 13) (oi := ⟨some 18, .load 3 (.tmp 17), 3, "ref.go:106", #[⟨12, .data⟩, ⟨2, .guard⟩], some (2, false)⟩) (v := .int .i64 (te : Int)) (Or.inl ⟨by rfl, fun w' hSw => by have hc := C1 w' hSw; go_simp⟩) hHeld ?_
    try simp only [zP, zQ, zS, zZ, zC]
    refine wt (i := 14) (oi := ⟨some 19, .binOp .gtr 3 (.tmp 12) (.tmp 18) 3, 4, "ref.go:106", #[⟨7, .data⟩, ⟨13, .data⟩, ⟨2, .guard⟩], some (2, false)⟩) (v := .bool true) (Or.inl ⟨by rfl, fun w' hSw => by go_simp⟩) hHeld ?_
    try simp only [zP, zQ, zS, zZ, zC]
    refine wt (i := 15) (oi := ⟨some 20, .pick (.tmp 7) (.const (Value.bool true)) (.tmp 19), 4, "ref.go:106", #[⟨2, .data⟩, ⟨14, .data⟩], none⟩) (v := .bool true) (Or.inl ⟨by rfl, fun w' hSw => by go_simp⟩) hHeld ?_
    try simp only [zP, zQ, zS, zZ, zC]
    refine wpAnyH_ready (rs := [16]) (by kernel_rfl) (by simp) ?_
    refine AllReadyH.cons (o := ⟨some 4, .assign (.tmp 20), 4, "ref.go:106", #[⟨15, .data⟩, ⟨2, .chain⟩, ⟨0, .phase⟩, ⟨1, .phase⟩, ⟨2, .phase⟩, ⟨3, .phase⟩, ⟨4, .phase⟩, ⟨5, .phase⟩, ⟨6, .phase⟩, ⟨7, .phase⟩, ⟨8, .phase⟩, ⟨9, .phase⟩, ⟨10, .phase⟩, ⟨11, .phase⟩, ⟨12, .phase⟩, ⟨13, .phase⟩, ⟨14, .phase⟩, ⟨15, .phase⟩], none⟩) rfl (fun K hK => ?_) AllReadyH.nil
    go_simp
    refine hK.out _ _ (hHeld) (fun hHeld => ?_)
    clear hK K
    try simp only [zP, zQ, zS, zZ, zC]
    refine wpAnyH_done (by kernel_rfl) ?_ _
    have BX := hHeld
    clear hHeld 
    go_wp2
    go_ret
    exact ⟨rfl, BX⟩
  · rw [decide_eq_false hlt]
    go_enter Try.func49, Try.ntmps49
    go_upto_region 1 with (fail)
    refine wp_region_held_drew (S := fun w' => Below w.heap.size w w') (by kernel_rfl) (below_drew (Below.refl _ _)) (fun _ => ?_)
    have hHeld : Below w.heap.size w w.drew := below_drew (Below.refl _ _)
    generalize w.drew = V0 at hHeld ⊢
    refine wt (i := 0) (oi := ⟨some 5, .move (.tmp 1), 3, "ref.go:106", #[], none⟩) (v := .int .i64 (i : Int)) (Or.inl ⟨by rfl, fun w' hSw => by go_simp⟩) hHeld ?_
    try simp only [zP, zQ, zS, zZ, zC]
    refine wt (i := 1) (oi := ⟨some 6, .binOp .leq 3 (.tmp 5) (.const (Value.int IntKind.i64 0)) 3, 4, "ref.go:106", #[⟨0, .data⟩], none⟩) (v := .bool false) (Or.inl ⟨by rfl, fun w' hSw => by go_simp⟩) hHeld ?_
    try simp only [zP, zQ, zS, zZ, zC]
    refine wt (i := 2) (oi := ⟨some 7, .move (.tmp 6), 4, "ref.go:106", #[⟨1, .data⟩], none⟩) (v := .bool false) (Or.inl ⟨by rfl, fun w' hSw => by go_simp⟩) hHeld ?_
    try simp only [zP, zQ, zS, zZ, zC]
    refine wt (i := 3) (oi := ⟨some 8, .move (.tmp 0), 29, "ref.go:106", #[⟨2, .guard⟩], some (2, false)⟩) (v := .slice (some ⟨b, off, none⟩) n c) (Or.inl ⟨by rfl, fun w' hSw => by go_simp⟩) hHeld ?_
    try simp only [zP, zQ, zS, zZ, zC]
    refine wt (i := 4) (oi := ⟨some 9, .move (.tmp 1), 3, "ref.go:106", #[⟨2, .guard⟩], some (2, false)⟩) (v := .int .i64 (i : Int)) (Or.inl ⟨by rfl, fun w' hSw => by go_simp⟩) hHeld ?_
    try simp only [zP, zQ, zS, zZ, zC]
    refine wt (i := 5) (oi := ⟨some 10, .indexAddr 29 (.tmp 8) (.tmp 9), 0, "ref.go:106", #[⟨3, .data⟩, ⟨4, .data⟩, ⟨2, .guard⟩], some (2, false)⟩) (v := .pointer (some ⟨b, off + i * 3, none⟩)) (Or.inl ⟨by rfl, fun w' hSw => by go_simp; try (intro hcm; exact absurd hcm (by omega))⟩) hHeld ?_
    try simp only [zP, zQ, zS, zZ, zC]
    refine wt (i := 6) (oi := ⟨some 11, .fieldAddr 63 (.tmp 10) 0, 0, "ref.go:106", #[⟨5, .data⟩, ⟨2, .guard⟩], some (2, false)⟩) (v := .pointer (some ⟨b, off + i * 3, none⟩)) (Or.inl ⟨by rfl, fun w' hSw => by go_simp⟩) hHeld ?_
    try simp only [zP, zQ, zS, zZ, zC]
    refine wt (i := 7) (oi := ⟨some 12, .load 3 (.tmp 11), 3, "ref.go:106", #[⟨6, .data⟩, ⟨2, .guard⟩], some (2, false)⟩) (v := .int .i64 (ua : Int)) (Or.inl ⟨by rfl, fun w' hSw => by have hc := C0 w' hSw; go_simp⟩) hHeld ?_
    try simp only [zP, zQ, zS, zZ, zC]
    refine wt (i := 8) (oi := ⟨some 13, .move (.tmp 0), 29, "ref.go:106", #[⟨2, .guard⟩], some (2, false)⟩) (v := .slice (some ⟨b, off, none⟩) n c) (Or.inl ⟨by rfl, fun w' hSw => by go_simp⟩) hHeld ?_
    try simp only [zP, zQ, zS, zZ, zC]
    refine wt (i := 9) (oi := ⟨some 14, .move (.tmp 1), 3, "ref.go:106", #[⟨2, .guard⟩], some (2, false)⟩) (v := .int .i64 (i : Int)) (Or.inl ⟨by rfl, fun w' hSw => by go_simp⟩) hHeld ?_
    try simp only [zP, zQ, zS, zZ, zC]
    refine wt (i := 10) (oi := ⟨some 15, .binOp .sub 3 (.tmp 14) (.const (Value.int IntKind.i64 1)) 3, 3, "ref.go:106", #[⟨9, .data⟩, ⟨2, .guard⟩], some (2, false)⟩) (v := .int .i64 (i0 : Int)) (Or.inl ⟨by rfl, fun w' hSw => by have hw := HW.out; go_simp⟩) hHeld ?_
    try simp only [zP, zQ, zS, zZ, zC]
    refine wt (i := 11) (oi := ⟨some 16, .indexAddr 29 (.tmp 13) (.tmp 15), 0, "ref.go:106", #[⟨8, .data⟩, ⟨10, .data⟩, ⟨2, .guard⟩], some (2, false)⟩) (v := .pointer (some ⟨b, off + i0 * 3, none⟩)) (Or.inl ⟨by rfl, fun w' hSw => by go_simp; try (intro hcm; exact absurd hcm (by omega))⟩) hHeld ?_
    try simp only [zP, zQ, zS, zZ, zC]
    refine wt (i := 12) (oi := ⟨some 17, .fieldAddr 63 (.tmp 16) 1, 0, "ref.go:106", #[⟨11, .data⟩, ⟨2, .guard⟩], some (2, false)⟩) (v := .pointer (some ⟨b, off + i0 * 3 + 1, none⟩)) (Or.inl ⟨by rfl, fun w' hSw => by go_simp⟩) hHeld ?_
    try simp only [zP, zQ, zS, zZ, zC]
    refine wt (i := 13) (oi := ⟨some 18, .load 3 (.tmp 17), 3, "ref.go:106", #[⟨12, .data⟩, ⟨2, .guard⟩], some (2, false)⟩) (v := .int .i64 (te : Int)) (Or.inl ⟨by rfl, fun w' hSw => by have hc := C1 w' hSw; go_simp⟩) hHeld ?_
    try simp only [zP, zQ, zS, zZ, zC]
    refine wt (i := 14) (oi := ⟨some 19, .binOp .gtr 3 (.tmp 12) (.tmp 18) 3, 4, "ref.go:106", #[⟨7, .data⟩, ⟨13, .data⟩, ⟨2, .guard⟩], some (2, false)⟩) (v := .bool false) (Or.inl ⟨by rfl, fun w' hSw => by go_simp⟩) hHeld ?_
    try simp only [zP, zQ, zS, zZ, zC]
    refine wt (i := 15) (oi := ⟨some 20, .pick (.tmp 7) (.const (Value.bool true)) (.tmp 19), 4, "ref.go:106", #[⟨2, .data⟩, ⟨14, .data⟩], none⟩) (v := .bool false) (Or.inl ⟨by rfl, fun w' hSw => by go_simp⟩) hHeld ?_
    try simp only [zP, zQ, zS, zZ, zC]
    refine wpAnyH_ready (rs := [16]) (by kernel_rfl) (by simp) ?_
    refine AllReadyH.cons (o := ⟨some 4, .assign (.tmp 20), 4, "ref.go:106", #[⟨15, .data⟩, ⟨2, .chain⟩, ⟨0, .phase⟩, ⟨1, .phase⟩, ⟨2, .phase⟩, ⟨3, .phase⟩, ⟨4, .phase⟩, ⟨5, .phase⟩, ⟨6, .phase⟩, ⟨7, .phase⟩, ⟨8, .phase⟩, ⟨9, .phase⟩, ⟨10, .phase⟩, ⟨11, .phase⟩, ⟨12, .phase⟩, ⟨13, .phase⟩, ⟨14, .phase⟩, ⟨15, .phase⟩], none⟩) rfl (fun K hK => ?_) AllReadyH.nil
    go_simp
    refine hK.out _ _ (hHeld) (fun hHeld => ?_)
    clear hK K
    try simp only [zP, zQ, zS, zZ, zC]
    refine wpAnyH_done (by kernel_rfl) ?_ _
    have BX := hHeld
    clear hHeld 
    go_wp2
    go_ret
    exact ⟨rfl, BX⟩

end Go.Proofs.Ytehkgpefmjfifaa
