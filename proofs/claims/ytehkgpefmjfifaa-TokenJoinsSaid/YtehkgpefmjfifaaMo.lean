/-
  passimlaw06.model.
-/
import Derived.Test.YtehkgpefmjfifaaTv
namespace Go.Proofs.Ytehkgpefmjfifaa
open Go.RowKit
set_option linter.unusedVariables false
set_option linter.unusedSimpArgs false

set_option maxHeartbeats 4000000 in
set_option maxRecDepth 100000 in
theorem model_any (l : List Tk) (n c : Nat) (q : Option Addr) (hl : l.length = n) (hn6 : n ≤ 1000000000) (w : World) (hA : At tkE w q l) :
    Calls Try.prog 17 #[.slice q n c] w (MadeR rtE l w) := by
  have HN := Lib.hid hl
  go_enter Try.func17, Try.ntmps17
  go_wp2
  go_loopw [3, 4] (fun v3 v9 wr => TkRel rtE (fun i => l.take i) n w v3 v9 wr) (fun _ v _ => n - (intOf v).toNat)
  case atStart => exact ⟨0, rfl, Nat.zero_le _, by show OwnR rtE _ _ _ (l.take 0); rw [List.take_zero]; exact OwnR.nil _ _ _, Below.refl _ _⟩
  case round =>
    obtain ⟨i, rfl, hi, hR, hB⟩ := hrel
    rcases Nat.lt_or_ge i n with hlt | hge
    · obtain ⟨⟨ta, te, tk⟩, ht⟩ : ∃ a, l[i]? = some a := ⟨_, List.getElem?_eq_getElem (by omega)⟩
      obtain ⟨b, off, rfl, hL⟩ := hA.get (i := i) (by omega)
      have k0 : w.cell? ⟨b, off + i * 3, none⟩ = some (.int .i64 (ta : Int)) := hL.2 i (ta, te, tk) 0 _ ht rfl
      have k1 : w.cell? ⟨b, off + i * 3 + 1, none⟩ = some (.int .i64 (te : Int)) := hL.2 i (ta, te, tk) 1 _ ht rfl
      have k2 : w.cell? ⟨b, off + i * 3 + 2, none⟩ = some (.int .i64 (tk : Int)) := hL.2 i (ta, te, tk) 2 _ ht rfl
      have hbl := hL.1
      have C0 : ∀ w', Below w.heap.size w w' → w'.cell? ⟨b, off + i * 3, none⟩ = some (.int .i64 (ta : Int)) := fun w' h => (h.cell (p := ⟨b, off + i * 3, none⟩) hbl).trans k0
      have C1 : ∀ w', Below w.heap.size w w' → w'.cell? ⟨b, off + i * 3 + 1, none⟩ = some (.int .i64 (te : Int)) := fun w' h => (h.cell (p := ⟨b, off + i * 3 + 1, none⟩) hbl).trans k1
      have C2 : ∀ w', Below w.heap.size w w' → w'.cell? ⟨b, off + i * 3 + 2, none⟩ = some (.int .i64 (tk : Int)) := fun w' h => (h.cell (p := ⟨b, off + i * 3 + 2, none⟩) hbl).trans k2
      have HM := Lib.hid (show l.take (i + 1) = l.take i ++ [(ta, te, tk)] from by rw [List.take_add_one, ht]; rfl)
      have hR : OwnR rtE wr w.heap.size _ (l.take i) := hR
      obtain ⟨qo, co, hv, hco, _, _, _⟩ := hR.form
      rw [List.length_take, Nat.min_eq_left (by omega)] at hv hco
      subst hv
      clear k0 k1 k2 ht hL hA
      go_upto_region 5 with (fail)
      refine wp_region_held_drew (S := fun w' => Below w.heap.size w w') (by kernel_rfl) (below_drew (hB)) (fun _ => ?_)
      have hHeld : Below w.heap.size w wr.drew := below_drew (hB)
      replace hR : OwnR rtE wr.drew w.heap.size (.slice qo i co) (l.take i) := hR
      generalize wr.drew = V0 at hHeld hR ⊢
      refine wt (i := 0) (oi := ⟨some 11, .move (.tmp 3), 29, "law.go:18", #[], none⟩) (v := .slice qo i co) (Or.inl ⟨by rfl, fun w' hSw => by go_simp⟩) hHeld ?_
      try simp only [zP, zQ, zS, zZ, zC]
      refine wt (i := 1) (oi := ⟨some 12, .move (.tmp 0), 33, "law.go:18", #[], none⟩) (v := .slice (some ⟨b, off, none⟩) n c) (Or.inl ⟨by rfl, fun w' hSw => by go_simp⟩) hHeld ?_
      try simp only [zP, zQ, zS, zZ, zC]
      refine wt (i := 2) (oi := ⟨some 13, .move (.tmp 4), 3, "law.go:18", #[], none⟩) (v := .int .i64 (i : Int)) (Or.inl ⟨by rfl, fun w' hSw => by go_simp⟩) hHeld ?_
      try simp only [zP, zQ, zS, zZ, zC]
      refine wt (i := 3) (oi := ⟨some 14, .indexAddr 33 (.tmp 12) (.tmp 13), 0, "law.go:18", #[⟨1, .data⟩, ⟨2, .data⟩], none⟩) (v := .pointer (some ⟨b, off + i * 3, none⟩)) (Or.inl ⟨by rfl, fun w' hSw => by go_simp; try (intro hcm; exact absurd hcm (by omega))⟩) hHeld ?_
      try simp only [zP, zQ, zS, zZ, zC]
      refine wt (i := 4) (oi := ⟨some 15, .fieldAddr 52 (.tmp 14) 0, 0, "law.go:18", #[⟨3, .data⟩], none⟩) (v := .pointer (some ⟨b, off + i * 3, none⟩)) (Or.inl ⟨by rfl, fun w' hSw => by go_simp⟩) hHeld ?_
      try simp only [zP, zQ, zS, zZ, zC]
      refine wt (i := 5) (oi := ⟨some 16, .load 3 (.tmp 15), 3, "law.go:18", #[⟨4, .data⟩], none⟩) (v := .int .i64 (ta : Int)) (Or.inl ⟨by rfl, fun w' hSw => by have hc := C0 w' hSw; go_simp⟩) hHeld ?_
      try simp only [zP, zQ, zS, zZ, zC]
      refine wt (i := 6) (oi := ⟨some 17, .move (.tmp 0), 33, "law.go:18", #[], none⟩) (v := .slice (some ⟨b, off, none⟩) n c) (Or.inl ⟨by rfl, fun w' hSw => by go_simp⟩) hHeld ?_
      try simp only [zP, zQ, zS, zZ, zC]
      refine wt (i := 7) (oi := ⟨some 18, .move (.tmp 4), 3, "law.go:18", #[], none⟩) (v := .int .i64 (i : Int)) (Or.inl ⟨by rfl, fun w' hSw => by go_simp⟩) hHeld ?_
      try simp only [zP, zQ, zS, zZ, zC]
      refine wt (i := 8) (oi := ⟨some 19, .indexAddr 33 (.tmp 17) (.tmp 18), 0, "law.go:18", #[⟨6, .data⟩, ⟨7, .data⟩], none⟩) (v := .pointer (some ⟨b, off + i * 3, none⟩)) (Or.inl ⟨by rfl, fun w' hSw => by go_simp; try (intro hcm; exact absurd hcm (by omega))⟩) hHeld ?_
      try simp only [zP, zQ, zS, zZ, zC]
      refine wt (i := 9) (oi := ⟨some 20, .fieldAddr 52 (.tmp 19) 1, 0, "law.go:18", #[⟨8, .data⟩], none⟩) (v := .pointer (some ⟨b, off + i * 3 + 1, none⟩)) (Or.inl ⟨by rfl, fun w' hSw => by go_simp⟩) hHeld ?_
      try simp only [zP, zQ, zS, zZ, zC]
      refine wt (i := 10) (oi := ⟨some 21, .load 3 (.tmp 20), 3, "law.go:18", #[⟨9, .data⟩], none⟩) (v := .int .i64 (te : Int)) (Or.inl ⟨by rfl, fun w' hSw => by have hc := C1 w' hSw; go_simp⟩) hHeld ?_
      try simp only [zP, zQ, zS, zZ, zC]
      refine wt (i := 11) (oi := ⟨some 22, .move (.tmp 0), 33, "law.go:18", #[], none⟩) (v := .slice (some ⟨b, off, none⟩) n c) (Or.inl ⟨by rfl, fun w' hSw => by go_simp⟩) hHeld ?_
      try simp only [zP, zQ, zS, zZ, zC]
      refine wt (i := 12) (oi := ⟨some 23, .move (.tmp 4), 3, "law.go:18", #[], none⟩) (v := .int .i64 (i : Int)) (Or.inl ⟨by rfl, fun w' hSw => by go_simp⟩) hHeld ?_
      try simp only [zP, zQ, zS, zZ, zC]
      refine wt (i := 13) (oi := ⟨some 24, .indexAddr 33 (.tmp 22) (.tmp 23), 0, "law.go:18", #[⟨11, .data⟩, ⟨12, .data⟩], none⟩) (v := .pointer (some ⟨b, off + i * 3, none⟩)) (Or.inl ⟨by rfl, fun w' hSw => by go_simp; try (intro hcm; exact absurd hcm (by omega))⟩) hHeld ?_
      try simp only [zP, zQ, zS, zZ, zC]
      refine wt (i := 14) (oi := ⟨some 25, .fieldAddr 52 (.tmp 24) 2, 0, "law.go:18", #[⟨13, .data⟩], none⟩) (v := .pointer (some ⟨b, off + i * 3 + 2, none⟩)) (Or.inl ⟨by rfl, fun w' hSw => by go_simp⟩) hHeld ?_
      try simp only [zP, zQ, zS, zZ, zC]
      refine wt (i := 15) (oi := ⟨some 26, .load 3 (.tmp 25), 3, "law.go:18", #[⟨14, .data⟩], none⟩) (v := .int .i64 (tk : Int)) (Or.inl ⟨by rfl, fun w' hSw => by have hc := C2 w' hSw; go_simp⟩) hHeld ?_
      try simp only [zP, zQ, zS, zZ, zC]
      refine wt (i := 16) (oi := ⟨some 27, .build 63 #[(0, .tmp 16), (1, .tmp 21), (2, .tmp 26)], 63, "law.go:18", #[⟨5, .data⟩, ⟨10, .data⟩, ⟨15, .data⟩], none⟩) (v := .agg #[.int .i64 (ta : Int), .int .i64 (te : Int), .int .i64 (tk : Int)]) (Or.inl ⟨by rfl, fun w' hSw => by go_simp⟩) hHeld ?_
      try simp only [zP, zQ, zS, zZ, zC]
      refine wpAnyH_ready (rs := [17]) (by kernel_rfl) (by simp) ?_
      refine AllReadyH.cons (o := ⟨some 28, .buildSlice 29 1 #[(0, .tmp 27)], 29, "law.go:18", #[⟨16, .data⟩], none⟩) rfl (fun K hK => ?_) AllReadyH.nil
      go_simp
      have X0 : Below V0.heap.size V0 (V0.alloc (.cells #[.int .i64 (ta : Int), .int .i64 (te : Int), .int .i64 (tk : Int)] 63)) := (Below.refl _ _).alloc (Nat.le_refl _) _
      have hz1 : w.heap.size ≤ V0.heap.size := hHeld.size
      have hH1 := hHeld
      refine hK.out _ _ (link hHeld X0) (fun hHeld => ?_)
      clear hK K
      try simp only [zP, zQ, zS, zZ, zC]
      refine wpAnyH_ready (rs := [18]) (by kernel_rfl) (by simp) ?_
      refine AllReadyH.cons (o := ⟨some 29, .call { callee := .builtin .append, args := #[.tmp 11, .tmp 28], argTypes := #[29, 29] }, 29, "law.go:18", #[⟨0, .data⟩, ⟨17, .data⟩], none⟩) rfl (fun K hK => ?_) AllReadyH.nil
      refine push_wp rtE (w := V0) (.tmp 11) (.tmp 28) rfl (l.take i) (ta, te, tk) _ rfl hR hz1 _ rfl _ rfl (by rw [List.length_take]; omega) ?_
      intro v4 V2 hO4 hB4 hR4
      refine hK.out _ _ (hH1.trans hB4) (fun hHeld => ?_)
      clear hK K
      try simp only [zP, zQ, zS, zZ, zC]
      refine wpAnyH_ready (rs := [19]) (by kernel_rfl) (by simp) ?_
      refine AllReadyH.cons (o := ⟨some 3, .assign (.tmp 29), 29, "law.go:18", #[⟨18, .data⟩, ⟨18, .chain⟩, ⟨0, .phase⟩, ⟨1, .phase⟩, ⟨2, .phase⟩, ⟨3, .phase⟩, ⟨4, .phase⟩, ⟨5, .phase⟩, ⟨6, .phase⟩, ⟨7, .phase⟩, ⟨8, .phase⟩, ⟨9, .phase⟩, ⟨10, .phase⟩, ⟨11, .phase⟩, ⟨12, .phase⟩, ⟨13, .phase⟩, ⟨14, .phase⟩, ⟨15, .phase⟩, ⟨16, .phase⟩, ⟨17, .phase⟩, ⟨18, .phase⟩], none⟩) rfl (fun K hK => ?_) AllReadyH.nil
      go_simp
      refine hK.out _ _ (hHeld) (fun hHeld => ?_)
      clear hK K
      try simp only [zP, zQ, zS, zZ, zC]
      refine wpAnyH_done (by kernel_rfl) ?_ _
      have hB9 := hHeld
      clear hHeld C0 C1 C2
      go_wp2
      exact ⟨⟨i + 1, by go_num, by omega, by show OwnR rtE _ _ _ (l.take (i + 1)); rw [HM.out]; exact hO4, hB9⟩, by simp [intOf]; omega⟩
    · have hlt : ¬ i < n := by omega
      obtain rfl : i = n := by omega
      go_wp2
      go_ret
      refine ⟨_, rfl, ?_, hB⟩
      have hR : OwnR rtE wr w.heap.size _ (l.take i) := hR
      rwa [← HN.out, List.take_length] at hR
end Go.Proofs.Ytehkgpefmjfifaa
