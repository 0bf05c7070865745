/-
  The law's stop.
-/
import Derived.Test.YtehkgpefmjfifaaLj
namespace Go.Proofs.Ytehkgpefmjfifaa
open Go.RowKit
set_option linter.unusedVariables false
set_option linter.unusedSimpArgs false

theorem bytes_is (p : ByteArray) (c : UInt8) : (p.toList == ([c] : List UInt8)) = decide (sb p = [c.toNat]) := by
  rw [Lib.toList_data]
  unfold sb
  rcases p.data.toList with _ | ⟨x, _ | ⟨y, r⟩⟩
  · simp
  · rw [Bool.eq_iff_iff]
    simp [UInt8.toNat_inj]
  · simp
theorem stop_part {s : ByteArray} {i : Nat} {t : Tk} {c : Nat} (ht : (toks (sb s))[i]? = some t) (hc : (sb s)[t.1]? = some c) (d : Nat) (hd : kd d = 2) : sb (s.extract t.1 t.2.1) = [d] ↔ c = d := by
  obtain ⟨_, k2, k3, _, _, k6, _, k8⟩ := tok_here ht
  have hx : (sb (s.extract t.1 t.2.1))[0]? = some c := by
    rw [sb_extract, List.getElem?_drop, Nat.add_zero, List.getElem?_take, if_pos k2, hc]
  have hl : (sb (s.extract t.1 t.2.1)).length = t.2.1 - t.1 := by
    rw [sb_extract, List.length_drop, List.length_take, Nat.min_eq_left k3]
  constructor
  · intro h
    rw [h] at hx
    injection hx with hx
    exact hx.symm
  · intro h
    subst h
    rw [kdAt_get hc, hd] at k6
    have := k8 (by omega)
    rcases hp : sb (s.extract t.1 t.2.1) with _ | ⟨x, _ | ⟨y, r⟩⟩
    · rw [hp] at hx; cases hx
    · rw [hp] at hx
      injection hx with hx
      rw [hx]
    · rw [hp, List.length_cons, List.length_cons] at hl
      omega

set_option maxHeartbeats 8000000 in
set_option maxRecDepth 100000 in
theorem lstop_any (s : ByteArray) (hn6 : s.size ≤ 1000000000) (n : Nat) (hn : (toks (sb s)).length = n) (q : Option Addr) (c i : Nat) (hi : i < n) (t : Tk) (ht : (toks (sb s))[i]? = some t) (w : World) (hA : At tkE w q (toks (sb s))) :
    Calls Try.prog 39 #[.string s, .slice q n c, .int .i64 (i : Int)] w (Told w (stopT s t)) := by
  have hnb : n ≤ 1000000000 := by have := toks_len (sb s); rw [sb_length] at this; omega
  obtain ⟨i1, hi1⟩ : ∃ i1, i + 1 = i1 := ⟨_, rfl⟩
  have HPa := Lib.hid (fun (V : World) => by
    have h := part_any s hn6 (i : Int) (i1 : Int) (by omega) (by omega) (by omega) (by omega) V
    rw [show partS s (i : Int) (i1 : Int) = s.extract t.1 t.2.1 from by rw [← hi1]; exact part_one ht] at h
    exact h)
  obtain ⟨b, off, rfl, hL⟩ := hA.get (i := i) (by omega)
  obtain ⟨ta, te, tk⟩ := t
  have hbl := hL.1
  have C1 : ∀ w', Below w.heap.size w w' → w'.cell? ⟨b, off + i * 3 + 1, none⟩ = some (.int .i64 (te : Int)) := fun w' h => (h.cell (p := ⟨b, off + i * 3 + 1, none⟩) hbl).trans (hL.2 i (ta, te, tk) 1 _ ht rfl)
  have hin := toks_in ht
  rw [sb_length] at hin
  obtain ⟨hin1, hin2, hin3⟩ := hin
  have hin1 : ta < te := hin1
  have hin2 : te ≤ s.size := hin2
  have htas : ta < s.size := by omega
  obtain ⟨hg, hb⟩ := sb_get htas
  have hst := stop_at (t := (ta, te, tk)) hg
  rw [show (decide ((ta, te, tk).2.1 = s.size) || decide (kdAt (sb s) (ta, te, tk).2.1 = 4)) = endT s (ta, te, tk) from rfl] at hst
  have hp := fun d hd => stop_part ht hg d hd
  obtain ⟨e, he⟩ : ∃ e, endT s (ta, te, tk) = e := ⟨_, rfl⟩
  have hcase : (s[ta]'htas).toNat = 46 ∨ (s[ta]'htas).toNat = 63 ∨ (s[ta]'htas).toNat = 33 ∨ ((s[ta]'htas).toNat ≠ 46 ∧ (s[ta]'htas).toNat ≠ 63 ∧ (s[ta]'htas).toNat ≠ 33) := by omega
  generalize (s[ta]'htas).toNat = ch at hst hp hcase
  have HX := Lib.hid (show stopT s (ta, te, tk) = (isStop ch && e) ∧ ∀ d, kd d = 2 → (sb (s.extract ta te) = [d] ↔ ch = d) from ⟨by rw [hst, he], hp⟩)
  have HW1 := Lib.hid (show IntKind.i64.wrap (i1 : Int) = (i1 : Int) from by simp [IntKind.wrap, IntKind.signed, IntKind.bits]; omega)
  have hii : (i : Int) + 1 = (i1 : Int) := by omega
  clear hst hp hg hb
  rcases Nat.lt_or_ge i1 n with hlt | hge
  · obtain ⟨⟨ua, ue, uk⟩, hu⟩ : ∃ a, (toks (sb s))[i1]? = some a := ⟨_, List.getElem?_eq_getElem (by omega)⟩
    have C0 : ∀ w', Below w.heap.size w w' → w'.cell? ⟨b, off + i1 * 3, none⟩ = some (.int .i64 (ua : Int)) := fun w' h => (h.cell (p := ⟨b, off + i1 * 3, none⟩) hbl).trans (hL.2 i1 (ua, ue, uk) 0 _ hu rfl)
    rw [endT_next ht (hi1 ▸ hu)] at he
    have hne : ((i1 : Int) == (n : Int)) = false := by simp; omega
    clear hn ht hL hA hu hi1
    rcases Nat.lt_or_ge te ua with hlu | hlu
    · have he : e = true := by rw [← he]; exact decide_eq_true hlu
      subst he
      go_enter Try.func39, Try.ntmps39
      go_upto_region 3 with (fail)
      refine wp_region_held_drew (S := fun w' => Below w.heap.size w w') (by kernel_rfl) (below_drew (Below.refl _ _)) (fun _ => ?_)
      have hHeld : Below w.heap.size w w.drew := below_drew (Below.refl _ _)
      generalize w.drew = V0 at hHeld ⊢
      refine wt (i := 0) (oi := ⟨some 16, .move (.tmp 1), 33, "law.go:238", #[], none⟩) (v := .slice (some ⟨b, off, none⟩) n c) (Or.inl ⟨by rfl, fun w' hSw => by go_simp⟩) hHeld ?_
      try simp only [zP, zQ, zS, zZ, zC]
      refine wt (i := 1) (oi := ⟨some 17, .move (.tmp 2), 3, "law.go:238", #[], none⟩) (v := .int .i64 (i : Int)) (Or.inl ⟨by rfl, fun w' hSw => by go_simp⟩) hHeld ?_
      try simp only [zP, zQ, zS, zZ, zC]
      refine wt (i := 2) (oi := ⟨some 18, .binOp .add 3 (.tmp 17) (.const (Value.int IntKind.i64 1)) 3, 3, "law.go:238", #[⟨1, .data⟩], none⟩) (v := .int .i64 (i1 : Int)) (Or.inl ⟨by rfl, fun w' hSw => by have hw := HW1.out; go_simp⟩) hHeld ?_
      try simp only [zP, zQ, zS, zZ, zC]
      refine wt (i := 3) (oi := ⟨some 19, .indexAddr 33 (.tmp 16) (.tmp 18), 0, "law.go:238", #[⟨0, .data⟩, ⟨2, .data⟩], none⟩) (v := .pointer (some ⟨b, off + i1 * 3, none⟩)) (Or.inl ⟨by rfl, fun w' hSw => by go_simp; try (intro hcm; exact absurd hcm (by omega))⟩) hHeld ?_
      try simp only [zP, zQ, zS, zZ, zC]
      refine wt (i := 4) (oi := ⟨some 20, .fieldAddr 52 (.tmp 19) 0, 0, "law.go:238", #[⟨3, .data⟩], none⟩) (v := .pointer (some ⟨b, off + i1 * 3, none⟩)) (Or.inl ⟨by rfl, fun w' hSw => by go_simp⟩) hHeld ?_
      try simp only [zP, zQ, zS, zZ, zC]
      refine wt (i := 5) (oi := ⟨some 21, .load 3 (.tmp 20), 3, "law.go:238", #[⟨4, .data⟩], none⟩) (v := .int .i64 (ua : Int)) (Or.inl ⟨by rfl, fun w' hSw => by have hc := C0 w' hSw; go_simp⟩) hHeld ?_
      try simp only [zP, zQ, zS, zZ, zC]
      refine wt (i := 6) (oi := ⟨some 22, .move (.tmp 1), 33, "law.go:238", #[], none⟩) (v := .slice (some ⟨b, off, none⟩) n c) (Or.inl ⟨by rfl, fun w' hSw => by go_simp⟩) hHeld ?_
      try simp only [zP, zQ, zS, zZ, zC]
      refine wt (i := 7) (oi := ⟨some 23, .move (.tmp 2), 3, "law.go:238", #[], none⟩) (v := .int .i64 (i : Int)) (Or.inl ⟨by rfl, fun w' hSw => by go_simp⟩) hHeld ?_
      try simp only [zP, zQ, zS, zZ, zC]
      refine wt (i := 8) (oi := ⟨some 24, .indexAddr 33 (.tmp 22) (.tmp 23), 0, "law.go:238", #[⟨6, .data⟩, ⟨7, .data⟩], none⟩) (v := .pointer (some ⟨b, off + i * 3, none⟩)) (Or.inl ⟨by rfl, fun w' hSw => by go_simp; try (intro hcm; exact absurd hcm (by omega))⟩) hHeld ?_
      try simp only [zP, zQ, zS, zZ, zC]
      refine wt (i := 9) (oi := ⟨some 25, .fieldAddr 52 (.tmp 24) 1, 0, "law.go:238", #[⟨8, .data⟩], none⟩) (v := .pointer (some ⟨b, off + i * 3 + 1, none⟩)) (Or.inl ⟨by rfl, fun w' hSw => by go_simp⟩) hHeld ?_
      try simp only [zP, zQ, zS, zZ, zC]
      refine wt (i := 10) (oi := ⟨some 26, .load 3 (.tmp 25), 3, "law.go:238", #[⟨9, .data⟩], none⟩) (v := .int .i64 (te : Int)) (Or.inl ⟨by rfl, fun w' hSw => by have hc := C1 w' hSw; go_simp⟩) hHeld ?_
      try simp only [zP, zQ, zS, zZ, zC]
      refine wt (i := 11) (oi := ⟨some 27, .binOp .gtr 3 (.tmp 21) (.tmp 26) 3, 4, "law.go:238", #[⟨5, .data⟩, ⟨10, .data⟩], none⟩) (v := .bool true) (Or.inl ⟨by rfl, fun w' hSw => by go_simp⟩) hHeld ?_
      try simp only [zP, zQ, zS, zZ, zC]
      refine wpAnyH_ready (rs := [12]) (by kernel_rfl) (by simp) ?_
      refine AllReadyH.cons (o := ⟨some 7, .assign (.tmp 27), 4, "law.go:238", #[⟨11, .data⟩, ⟨0, .phase⟩, ⟨1, .phase⟩, ⟨2, .phase⟩, ⟨3, .phase⟩, ⟨4, .phase⟩, ⟨5, .phase⟩, ⟨6, .phase⟩, ⟨7, .phase⟩, ⟨8, .phase⟩, ⟨9, .phase⟩, ⟨10, .phase⟩, ⟨11, .phase⟩], none⟩) rfl (fun K hK => ?_) AllReadyH.nil
      go_simp
      refine hK.out _ _ (hHeld) (fun hHeld => ?_)
      clear hK K
      try simp only [zP, zQ, zS, zZ, zC]
      refine wpAnyH_done (by kernel_rfl) ?_ _
      have BX := hHeld
      clear hHeld 
      go_upto_region 5 with (go_at_call 20; refine (HPa.out _).mono ?_; rintro en w1 ⟨rfl, hB1⟩)
      rcases hcase with h | h | h | ⟨h1, h2, h3⟩
      · have HST := Lib.hid (show stopT s (ta, te, tk) = true from by rw [HX.out.1, h]; rfl)
        have b0 : ((s.extract ta te).toList == ([46] : List UInt8)) = true := by rw [bytes_is]; exact decide_eq_true (HX.out.2 46 (by decide) |>.2 h)
        clear h
        go_wp2
        go_ret
        exact ⟨by rw [HST.out]; rfl, link BX hB1⟩
      · have HST := Lib.hid (show stopT s (ta, te, tk) = true from by rw [HX.out.1, h]; rfl)
        have b0 : ((s.extract ta te).toList == ([46] : List UInt8)) = false := by rw [bytes_is]; exact decide_eq_false (fun g => absurd (HX.out.2 46 (by decide) |>.1 g) (by omega))
        have b1 : ((s.extract ta te).toList == ([63] : List UInt8)) = true := by rw [bytes_is]; exact decide_eq_true (HX.out.2 63 (by decide) |>.2 h)
        clear h
        go_wp2
        go_ret
        exact ⟨by rw [HST.out]; rfl, link BX hB1⟩
      · have HST := Lib.hid (show stopT s (ta, te, tk) = true from by rw [HX.out.1, h]; rfl)
        have b0 : ((s.extract ta te).toList == ([46] : List UInt8)) = false := by rw [bytes_is]; exact decide_eq_false (fun g => absurd (HX.out.2 46 (by decide) |>.1 g) (by omega))
        have b1 : ((s.extract ta te).toList == ([63] : List UInt8)) = false := by rw [bytes_is]; exact decide_eq_false (fun g => absurd (HX.out.2 63 (by decide) |>.1 g) (by omega))
        have b2 : ((s.extract ta te).toList == ([33] : List UInt8)) = true := by rw [bytes_is]; exact decide_eq_true (HX.out.2 33 (by decide) |>.2 h)
        clear h
        go_wp2
        go_ret
        exact ⟨by rw [HST.out]; rfl, link BX hB1⟩
      · have HST := Lib.hid (show stopT s (ta, te, tk) = false from by rw [HX.out.1]; unfold isStop; simp [h1, h2, h3])
        have b0 : ((s.extract ta te).toList == ([46] : List UInt8)) = false := by rw [bytes_is]; exact decide_eq_false (fun g => absurd (HX.out.2 46 (by decide) |>.1 g) (by omega))
        have b1 : ((s.extract ta te).toList == ([63] : List UInt8)) = false := by rw [bytes_is]; exact decide_eq_false (fun g => absurd (HX.out.2 63 (by decide) |>.1 g) (by omega))
        have b2 : ((s.extract ta te).toList == ([33] : List UInt8)) = false := by rw [bytes_is]; exact decide_eq_false (fun g => absurd (HX.out.2 33 (by decide) |>.1 g) (by omega))
        clear h1 h2 h3
        go_wp2
        go_ret
        exact ⟨by rw [HST.out]; rfl, link BX hB1⟩
    · have he : e = false := by rw [← he]; exact decide_eq_false (by show ¬ te < ua; omega)
      subst he
      have HST := Lib.hid (show stopT s (ta, te, tk) = false from by rw [HX.out.1, Bool.and_false])
      have hlu : ¬ te < ua := by omega
      clear hcase HX
      go_enter Try.func39, Try.ntmps39
      go_upto_region 3 with (fail)
      refine wp_region_held_drew (S := fun w' => Below w.heap.size w w') (by kernel_rfl) (below_drew (Below.refl _ _)) (fun _ => ?_)
      have hHeld : Below w.heap.size w w.drew := below_drew (Below.refl _ _)
      generalize w.drew = V0 at hHeld ⊢
      refine wt (i := 0) (oi := ⟨some 16, .move (.tmp 1), 33, "law.go:238", #[], none⟩) (v := .slice (some ⟨b, off, none⟩) n c) (Or.inl ⟨by rfl, fun w' hSw => by go_simp⟩) hHeld ?_
      try simp only [zP, zQ, zS, zZ, zC]
      refine wt (i := 1) (oi := ⟨some 17, .move (.tmp 2), 3, "law.go:238", #[], none⟩) (v := .int .i64 (i : Int)) (Or.inl ⟨by rfl, fun w' hSw => by go_simp⟩) hHeld ?_
      try simp only [zP, zQ, zS, zZ, zC]
      refine wt (i := 2) (oi := ⟨some 18, .binOp .add 3 (.tmp 17) (.const (Value.int IntKind.i64 1)) 3, 3, "law.go:238", #[⟨1, .data⟩], none⟩) (v := .int .i64 (i1 : Int)) (Or.inl ⟨by rfl, fun w' hSw => by have hw := HW1.out; go_simp⟩) hHeld ?_
      try simp only [zP, zQ, zS, zZ, zC]
      refine wt (i := 3) (oi := ⟨some 19, .indexAddr 33 (.tmp 16) (.tmp 18), 0, "law.go:238", #[⟨0, .data⟩, ⟨2, .data⟩], none⟩) (v := .pointer (some ⟨b, off + i1 * 3, none⟩)) (Or.inl ⟨by rfl, fun w' hSw => by go_simp; try (intro hcm; exact absurd hcm (by omega))⟩) hHeld ?_
      try simp only [zP, zQ, zS, zZ, zC]
      refine wt (i := 4) (oi := ⟨some 20, .fieldAddr 52 (.tmp 19) 0, 0, "law.go:238", #[⟨3, .data⟩], none⟩) (v := .pointer (some ⟨b, off + i1 * 3, none⟩)) (Or.inl ⟨by rfl, fun w' hSw => by go_simp⟩) hHeld ?_
      try simp only [zP, zQ, zS, zZ, zC]
      refine wt (i := 5) (oi := ⟨some 21, .load 3 (.tmp 20), 3, "law.go:238", #[⟨4, .data⟩], none⟩) (v := .int .i64 (ua : Int)) (Or.inl ⟨by rfl, fun w' hSw => by have hc := C0 w' hSw; go_simp⟩) hHeld ?_
      try simp only [zP, zQ, zS, zZ, zC]
      refine wt (i := 6) (oi := ⟨some 22, .move (.tmp 1), 33, "law.go:238", #[], none⟩) (v := .slice (some ⟨b, off, none⟩) n c) (Or.inl ⟨by rfl, fun w' hSw => by go_simp⟩) hHeld ?_
      try simp only [zP, zQ, zS, zZ, zC]
      refine wt (i := 7) (oi := ⟨some 23, .move (.tmp 2), 3, "law.go:238", #[], none⟩) (v := .int .i64 (i : Int)) (Or.inl ⟨by rfl, fun w' hSw => by go_simp⟩) hHeld ?_
      try simp only [zP, zQ, zS, zZ, zC]
      refine wt (i := 8) (oi := ⟨some 24, .indexAddr 33 (.tmp 22) (.tmp 23), 0, "law.go:238", #[⟨6, .data⟩, ⟨7, .data⟩], none⟩) (v := .pointer (some ⟨b, off + i * 3, none⟩)) (Or.inl ⟨by rfl, fun w' hSw => by go_simp; try (intro hcm; exact absurd hcm (by omega))⟩) hHeld ?_
      try simp only [zP, zQ, zS, zZ, zC]
      refine wt (i := 9) (oi := ⟨some 25, .fieldAddr 52 (.tmp 24) 1, 0, "law.go:238", #[⟨8, .data⟩], none⟩) (v := .pointer (some ⟨b, off + i * 3 + 1, none⟩)) (Or.inl ⟨by rfl, fun w' hSw => by go_simp⟩) hHeld ?_
      try simp only [zP, zQ, zS, zZ, zC]
      refine wt (i := 10) (oi := ⟨some 26, .load 3 (.tmp 25), 3, "law.go:238", #[⟨9, .data⟩], none⟩) (v := .int .i64 (te : Int)) (Or.inl ⟨by rfl, fun w' hSw => by have hc := C1 w' hSw; go_simp⟩) hHeld ?_
      try simp only [zP, zQ, zS, zZ, zC]
      refine wt (i := 11) (oi := ⟨some 27, .binOp .gtr 3 (.tmp 21) (.tmp 26) 3, 4, "law.go:238", #[⟨5, .data⟩, ⟨10, .data⟩], none⟩) (v := .bool false) (Or.inl ⟨by rfl, fun w' hSw => by go_simp⟩) hHeld ?_
      try simp only [zP, zQ, zS, zZ, zC]
      refine wpAnyH_ready (rs := [12]) (by kernel_rfl) (by simp) ?_
      refine AllReadyH.cons (o := ⟨some 7, .assign (.tmp 27), 4, "law.go:238", #[⟨11, .data⟩, ⟨0, .phase⟩, ⟨1, .phase⟩, ⟨2, .phase⟩, ⟨3, .phase⟩, ⟨4, .phase⟩, ⟨5, .phase⟩, ⟨6, .phase⟩, ⟨7, .phase⟩, ⟨8, .phase⟩, ⟨9, .phase⟩, ⟨10, .phase⟩, ⟨11, .phase⟩], none⟩) rfl (fun K hK => ?_) AllReadyH.nil
      go_simp
      refine hK.out _ _ (hHeld) (fun hHeld => ?_)
      clear hK K
      try simp only [zP, zQ, zS, zZ, zC]
      refine wpAnyH_done (by kernel_rfl) ?_ _
      have BX := hHeld
      clear hHeld 
      go_wp2_with (go_at_call 20; refine (HPa.out _).mono ?_; rintro en w1 ⟨rfl, hB1⟩)
      go_ret
      exact ⟨by rw [HST.out]; rfl, link BX hB1⟩
  · have hi2 : i1 = n := by omega
    rw [endT_last ht (by omega)] at he
    have he := he.symm
    subst he
    have hne : ((i1 : Int) == (n : Int)) = true := by simp; omega
    have hge : ¬ i1 < n := by omega
    clear hn ht hL hA hi1 hi2
    go_enter Try.func39, Try.ntmps39
    go_upto_region 5 with (go_at_call 20; refine (HPa.out _).mono ?_; rintro en w1 ⟨rfl, hB1⟩)
    rcases hcase with h | h | h | ⟨h1, h2, h3⟩
    · have HST := Lib.hid (show stopT s (ta, te, tk) = true from by rw [HX.out.1, h]; rfl)
      have b0 : ((s.extract ta te).toList == ([46] : List UInt8)) = true := by rw [bytes_is]; exact decide_eq_true (HX.out.2 46 (by decide) |>.2 h)
      clear h
      go_wp2
      go_ret
      exact ⟨by rw [HST.out]; rfl, hB1⟩
    · have HST := Lib.hid (show stopT s (ta, te, tk) = true from by rw [HX.out.1, h]; rfl)
      have b0 : ((s.extract ta te).toList == ([46] : List UInt8)) = false := by rw [bytes_is]; exact decide_eq_false (fun g => absurd (HX.out.2 46 (by decide) |>.1 g) (by omega))
      have b1 : ((s.extract ta te).toList == ([63] : List UInt8)) = true := by rw [bytes_is]; exact decide_eq_true (HX.out.2 63 (by decide) |>.2 h)
      clear h
      go_wp2
      go_ret
      exact ⟨by rw [HST.out]; rfl, hB1⟩
    · have HST := Lib.hid (show stopT s (ta, te, tk) = true from by rw [HX.out.1, h]; rfl)
      have b0 : ((s.extract ta te).toList == ([46] : List UInt8)) = false := by rw [bytes_is]; exact decide_eq_false (fun g => absurd (HX.out.2 46 (by decide) |>.1 g) (by omega))
      have b1 : ((s.extract ta te).toList == ([63] : List UInt8)) = false := by rw [bytes_is]; exact decide_eq_false (fun g => absurd (HX.out.2 63 (by decide) |>.1 g) (by omega))
      have b2 : ((s.extract ta te).toList == ([33] : List UInt8)) = true := by rw [bytes_is]; exact decide_eq_true (HX.out.2 33 (by decide) |>.2 h)
      clear h
      go_wp2
      go_ret
      exact ⟨by rw [HST.out]; rfl, hB1⟩
    · have HST := Lib.hid (show stopT s (ta, te, tk) = false from by rw [HX.out.1]; unfold isStop; simp [h1, h2, h3])
      have b0 : ((s.extract ta te).toList == ([46] : List UInt8)) = false := by rw [bytes_is]; exact decide_eq_false (fun g => absurd (HX.out.2 46 (by decide) |>.1 g) (by omega))
      have b1 : ((s.extract ta te).toList == ([63] : List UInt8)) = false := by rw [bytes_is]; exact decide_eq_false (fun g => absurd (HX.out.2 63 (by decide) |>.1 g) (by omega))
      have b2 : ((s.extract ta te).toList == ([33] : List UInt8)) = false := by rw [bytes_is]; exact decide_eq_false (fun g => absurd (HX.out.2 33 (by decide) |>.1 g) (by omega))
      clear h1 h2 h3
      go_wp2
      go_ret
      exact ⟨by rw [HST.out]; rfl, hB1⟩
end Go.Proofs.Ytehkgpefmjfifaa
