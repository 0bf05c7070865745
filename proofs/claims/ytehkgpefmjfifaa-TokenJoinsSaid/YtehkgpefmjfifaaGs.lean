/-
  The reference's Spoilt: some text of a bounded length.
-/
import Derived.Test.YtehkgpefmjfifaaGb
namespace Go.Proofs.Ytehkgpefmjfifaa
open Go.RowKit
set_option linter.unusedVariables false
set_option linter.unusedSimpArgs false

set_option maxHeartbeats 4000000 in
set_option maxRecDepth 100000 in
theorem spoilt_any (s : ByteArray) (n : Nat) (hn : s.size = n) (hn6 : n ≤ 100000) (how by_ : Int) (h1 : -9223372036854775808 ≤ how) (h2 : how ≤ 9223372036854775807) (h3 : -9223372036854775808 ≤ by_) (h4 : by_ ≤ 9223372036854775807) (w : World) :
    Calls Try.prog 40 #[.string s, .int .i64 how, .int .i64 by_] w (Some (n + 4200) w) := by
  have HA := Lib.hid (fun (m : Nat) (hm : 0 < m) (hm2 : m ≤ 1000000) (V : World) => around_any by_ h3 h4 m hm hm2 V)
  have HH := Lib.hid (fun (V : World) => around_any how h1 h2 8 (by omega) (by omega) V)
  have HRe := Lib.hid (fun (j : Nat) (hj : j < 9) (V : World) => repeated_any ⟨#[108, 121, 114, 101]⟩ (by decide) (by decide) (4092 + j) (by omega) V)
  have HRd := Lib.hid (fun (j : Nat) (hj : j < 9) (V : World) => repeated_any ⟨#[46]⟩ (by decide) (by decide) (252 + j) (by omega) V)
  have hWW := words_new w [.string ⟨#[32]⟩, .string ⟨#[31]⟩, .string ⟨#[127]⟩, .string ⟨#[233]⟩, .string ⟨#[64]⟩, .string ⟨#[46]⟩, .string ⟨#[55]⟩, .string ⟨#[122]⟩] 8 rfl (by
    intro v hv
    simp only [List.mem_cons, List.not_mem_nil, or_false] at hv
    rcases hv with rfl | rfl | rfl | rfl | rfl | rfl | rfl | rfl <;> exact ⟨_, by decide, rfl⟩)
  have hB1 : Below w.heap.size w (w.alloc (.cells [.string ⟨#[32]⟩, .string ⟨#[31]⟩, .string ⟨#[127]⟩, .string ⟨#[233]⟩, .string ⟨#[64]⟩, .string ⟨#[46]⟩, .string ⟨#[55]⟩, .string ⟨#[122]⟩].toArray 9)) := (Below.refl _ _).alloc (Nat.le_refl _) _
  obtain ⟨W, hWd⟩ : ∃ W, w.alloc (.cells #[.string ⟨#[32]⟩, .string ⟨#[31]⟩, .string ⟨#[127]⟩, .string ⟨#[233]⟩, .string ⟨#[64]⟩, .string ⟨#[46]⟩, .string ⟨#[55]⟩, .string ⟨#[122]⟩] 9) = W := ⟨_, rfl⟩
  change WordsAt (w.alloc (.cells #[.string ⟨#[32]⟩, .string ⟨#[31]⟩, .string ⟨#[127]⟩, .string ⟨#[233]⟩, .string ⟨#[64]⟩, .string ⟨#[46]⟩, .string ⟨#[55]⟩, .string ⟨#[122]⟩] 9)) _ _ at hWW
  change Below _ w (w.alloc (.cells #[.string ⟨#[32]⟩, .string ⟨#[31]⟩, .string ⟨#[127]⟩, .string ⟨#[233]⟩, .string ⟨#[64]⟩, .string ⟨#[46]⟩, .string ⟨#[55]⟩, .string ⟨#[122]⟩] 9)) at hB1
  rw [hWd] at hWW hB1
  have HWd := Lib.hid hWd
  clear hWd h1 h2 h3 h4
  go_enter Try.func40, Try.ntmps40
  go_upto_region 2 with (go_at_call 19; refine (HA.out (n + 1) (by omega) (by omega) w).mono ?_; rintro en w2 ⟨k, hk, rfl, hw2⟩; rw [hw2])
  go_upto_region 3 with (go_at_call 19; rw [HWd.out]; refine (HA.out 8 (by omega) (by omega) W).mono ?_; rintro en w2 ⟨m, hm, rfl, hw2⟩; rw [hw2]; obtain ⟨x, hx, hcx⟩ := hWW m hm)
  go_upto_region 4 with (go_at_call 19; refine (HH.out W).mono ?_; rintro en w2 ⟨r, hr, rfl, hw2⟩; rw [hw2])
  obtain ⟨P, hP⟩ : ∃ P, s.extract 0 k = P := ⟨_, rfl⟩
  have hPs : P.size ≤ k := by rw [← hP, ByteArray.size_extract]; omega
  have HP := Lib.hid hP
  clear hP hWW HWd HH hcx hm
  have hkn : k ≤ n := by omega
  rcases (by omega : r = 0 ∨ r = 1 ∨ r = 2 ∨ r = 3 ∨ r = 4 ∨ r = 5 ∨ r = 6 ∨ r = 7) with rfl | rfl | rfl | rfl | rfl | rfl | rfl | rfl
  · go_upto_region 5 with (fail)
    · obtain ⟨R, hR⟩ : ∃ R, s.extract k n = R := ⟨_, rfl⟩
      have hRs : R.size ≤ n - k := by rw [← hR, ByteArray.size_extract]; omega
      have HR := Lib.hid hR
      have HZ1 := Lib.hid (show ¬ 9223372036854775807 < P.size + x.size by omega)
      have HZ2 := Lib.hid (show ¬ 9223372036854775807 < P.size + x.size + R.size by omega)
      clear hR
      refine wp_region_held_drew (S := fun w' => Below w.heap.size w w') (by kernel_rfl) (below_drew (hB1)) (fun _ => ?_)
      have hHeld : Below w.heap.size w W.drew := below_drew (hB1)
      generalize W.drew = V0 at hHeld ⊢
      refine wt (i := 0) (oi := ⟨some 23, .move (.tmp 0), 9, "ref.go:283", #[], none⟩) (v := .string s) (Or.inl ⟨by rfl, fun w' hSw => by go_simp⟩) hHeld ?_
      try simp only [zP, zQ, zS, zZ, zC]
      refine wt (i := 1) (oi := ⟨some 24, .move (.tmp 7), 3, "ref.go:283", #[], none⟩) (v := .int .i64 (k : Int)) (Or.inl ⟨by rfl, fun w' hSw => by go_simp⟩) hHeld ?_
      try simp only [zP, zQ, zS, zZ, zC]
      refine wt (i := 2) (oi := ⟨some 25, .slice 9 (.tmp 23) none (some (.tmp 24)) none, 9, "ref.go:283", #[⟨0, .data⟩, ⟨1, .data⟩], none⟩) (v := .string P) (Or.inl ⟨by rfl, fun w' hSw => by have hp := HP.out; go_simp⟩) hHeld ?_
      try simp only [zP, zQ, zS, zZ, zC]
      refine wt (i := 3) (oi := ⟨some 26, .move (.tmp 8), 9, "ref.go:283", #[], none⟩) (v := .string x) (Or.inl ⟨by rfl, fun w' hSw => by go_simp⟩) hHeld ?_
      try simp only [zP, zQ, zS, zZ, zC]
      refine wt (i := 4) (oi := ⟨some 27, .binOp .add 9 (.tmp 25) (.tmp 26) 9, 9, "ref.go:283", #[⟨2, .data⟩, ⟨3, .data⟩], none⟩) (v := .string (P ++ x)) (Or.inl ⟨by rfl, fun w' hSw => by have hp := HZ1.out; go_simp⟩) hHeld ?_
      try simp only [zP, zQ, zS, zZ, zC]
      refine wt (i := 5) (oi := ⟨some 28, .move (.tmp 0), 9, "ref.go:283", #[], none⟩) (v := .string s) (Or.inl ⟨by rfl, fun w' hSw => by go_simp⟩) hHeld ?_
      try simp only [zP, zQ, zS, zZ, zC]
      refine wt (i := 6) (oi := ⟨some 29, .move (.tmp 7), 3, "ref.go:283", #[], none⟩) (v := .int .i64 (k : Int)) (Or.inl ⟨by rfl, fun w' hSw => by go_simp⟩) hHeld ?_
      try simp only [zP, zQ, zS, zZ, zC]
      refine wt (i := 7) (oi := ⟨some 30, .slice 9 (.tmp 28) (some (.tmp 29)) none none, 9, "ref.go:283", #[⟨5, .data⟩, ⟨6, .data⟩], none⟩) (v := .string R) (Or.inl ⟨by rfl, fun w' hSw => by have hp := HR.out; go_simp⟩) hHeld ?_
      try simp only [zP, zQ, zS, zZ, zC]
      refine wt (i := 8) (oi := ⟨some 31, .binOp .add 9 (.tmp 27) (.tmp 30) 9, 9, "ref.go:283", #[⟨4, .data⟩, ⟨7, .data⟩], none⟩) (v := .string (P ++ x ++ R)) (Or.inl ⟨by rfl, fun w' hSw => by have hp := HZ2.out; go_simp⟩) hHeld ?_
      try simp only [zP, zQ, zS, zZ, zC]
      refine wpAnyH_ready (rs := [9]) (by kernel_rfl) (by simp) ?_
      refine AllReadyH.cons (o := ⟨some 6, .assign (.tmp 31), 9, "ref.go:283", #[⟨8, .data⟩, ⟨0, .phase⟩, ⟨1, .phase⟩, ⟨2, .phase⟩, ⟨3, .phase⟩, ⟨4, .phase⟩, ⟨5, .phase⟩, ⟨6, .phase⟩, ⟨7, .phase⟩, ⟨8, .phase⟩], none⟩) rfl (fun K hK => ?_) AllReadyH.nil
      go_simp
      refine hK.out _ _ (hHeld) (fun hHeld => ?_)
      clear hK K
      try simp only [zP, zQ, zS, zZ, zC]
      refine wpAnyH_done (by kernel_rfl) ?_ _
      have BX := hHeld
      clear hHeld 
      go_wp2
      go_ret
      exact ⟨_, by rw [size2, size2]; omega, rfl, BX⟩
  · go_upto_region 7 with (fail)
    · obtain ⟨m, hm⟩ : ∃ m, min (k + 1) n = m := ⟨_, rfl⟩
      have hmn : m ≤ n := by omega
      have HWr := Lib.hid (show IntKind.i64.wrap ((k : Int) + 1) = (k : Int) + 1 by simp [IntKind.wrap, IntKind.signed, IntKind.bits]; omega)
      have HM := Lib.hid (show min ((k : Int) + 1) (n : Int) = (m : Int) by omega)
      obtain ⟨R, hR⟩ : ∃ R, s.extract m n = R := ⟨_, rfl⟩
      have hRs : R.size ≤ n - k := by rw [← hR, ByteArray.size_extract]; omega
      have HR := Lib.hid hR
      have HZ1 := Lib.hid (show ¬ 9223372036854775807 < P.size + R.size by omega)
      clear hR hm
      refine wp_region_held_drew (S := fun w' => Below w.heap.size w w') (by kernel_rfl) (below_drew (hB1)) (fun _ => ?_)
      have hHeld : Below w.heap.size w W.drew := below_drew (hB1)
      generalize W.drew = V0 at hHeld ⊢
      refine wt (i := 0) (oi := ⟨some 34, .move (.tmp 0), 9, "ref.go:285", #[], none⟩) (v := .string s) (Or.inl ⟨by rfl, fun w' hSw => by go_simp⟩) hHeld ?_
      try simp only [zP, zQ, zS, zZ, zC]
      refine wt (i := 1) (oi := ⟨some 35, .move (.tmp 7), 3, "ref.go:285", #[], none⟩) (v := .int .i64 (k : Int)) (Or.inl ⟨by rfl, fun w' hSw => by go_simp⟩) hHeld ?_
      try simp only [zP, zQ, zS, zZ, zC]
      refine wt (i := 2) (oi := ⟨some 36, .slice 9 (.tmp 34) none (some (.tmp 35)) none, 9, "ref.go:285", #[⟨0, .data⟩, ⟨1, .data⟩], none⟩) (v := .string P) (Or.inl ⟨by rfl, fun w' hSw => by have hp := HP.out; go_simp⟩) hHeld ?_
      try simp only [zP, zQ, zS, zZ, zC]
      refine wt (i := 3) (oi := ⟨some 37, .move (.tmp 0), 9, "ref.go:285", #[], none⟩) (v := .string s) (Or.inl ⟨by rfl, fun w' hSw => by go_simp⟩) hHeld ?_
      try simp only [zP, zQ, zS, zZ, zC]
      refine wt (i := 4) (oi := ⟨some 38, .move (.tmp 7), 3, "ref.go:285", #[], none⟩) (v := .int .i64 (k : Int)) (Or.inl ⟨by rfl, fun w' hSw => by go_simp⟩) hHeld ?_
      try simp only [zP, zQ, zS, zZ, zC]
      refine wt (i := 5) (oi := ⟨some 39, .binOp .add 3 (.tmp 38) (.const (Value.int IntKind.i64 1)) 3, 3, "ref.go:285", #[⟨4, .data⟩], none⟩) (v := .int .i64 ((k : Int) + 1)) (Or.inl ⟨by rfl, fun w' hSw => by have hp := HWr.out; go_simp⟩) hHeld ?_
      try simp only [zP, zQ, zS, zZ, zC]
      refine wt (i := 6) (oi := ⟨some 40, .move (.tmp 0), 9, "ref.go:285", #[], none⟩) (v := .string s) (Or.inl ⟨by rfl, fun w' hSw => by go_simp⟩) hHeld ?_
      try simp only [zP, zQ, zS, zZ, zC]
      refine wt (i := 7) (oi := ⟨some 41, .call { callee := .builtin .len, args := #[.tmp 40], argTypes := #[9] }, 3, "ref.go:285", #[⟨6, .data⟩], none⟩) (v := .int .i64 (n : Int)) (Or.inl ⟨by rfl, fun w' hSw => by go_simp⟩) hHeld ?_
      try simp only [zP, zQ, zS, zZ, zC]
      refine wt (i := 8) (oi := ⟨some 42, .call { callee := .builtin .min, args := #[.tmp 39, .tmp 41], argTypes := #[3, 3] }, 3, "ref.go:285", #[⟨5, .data⟩, ⟨7, .data⟩], none⟩) (v := .int .i64 (m : Int)) (Or.inl ⟨by rfl, fun w' hSw => by have hp := HM.out; go_simp⟩) hHeld ?_
      try simp only [zP, zQ, zS, zZ, zC]
      refine wt (i := 9) (oi := ⟨some 43, .slice 9 (.tmp 37) (some (.tmp 42)) none none, 9, "ref.go:285", #[⟨3, .data⟩, ⟨8, .data⟩], none⟩) (v := .string R) (Or.inl ⟨by rfl, fun w' hSw => by have hp := HR.out; go_simp⟩) hHeld ?_
      try simp only [zP, zQ, zS, zZ, zC]
      refine wt (i := 10) (oi := ⟨some 44, .binOp .add 9 (.tmp 36) (.tmp 43) 9, 9, "ref.go:285", #[⟨2, .data⟩, ⟨9, .data⟩], none⟩) (v := .string (P ++ R)) (Or.inl ⟨by rfl, fun w' hSw => by have hp := HZ1.out; go_simp⟩) hHeld ?_
      try simp only [zP, zQ, zS, zZ, zC]
      refine wpAnyH_ready (rs := [11]) (by kernel_rfl) (by simp) ?_
      refine AllReadyH.cons (o := ⟨some 6, .assign (.tmp 44), 9, "ref.go:285", #[⟨10, .data⟩, ⟨0, .phase⟩, ⟨1, .phase⟩, ⟨2, .phase⟩, ⟨3, .phase⟩, ⟨4, .phase⟩, ⟨5, .phase⟩, ⟨6, .phase⟩, ⟨7, .phase⟩, ⟨8, .phase⟩, ⟨9, .phase⟩, ⟨10, .phase⟩], none⟩) rfl (fun K hK => ?_) AllReadyH.nil
      go_simp
      refine hK.out _ _ (hHeld) (fun hHeld => ?_)
      clear hK K
      try simp only [zP, zQ, zS, zZ, zC]
      refine wpAnyH_done (by kernel_rfl) ?_ _
      have BX := hHeld
      clear hHeld 
      go_wp2
      go_ret
      exact ⟨_, by rw [size2]; omega, rfl, BX⟩
  · have hz : ¬ 9223372036854775807 < 1 + n := by omega
    go_wp2
    go_ret
    exact ⟨_, by rw [size2, hn]; show 1 + n ≤ _; omega, rfl, hB1⟩
  · have hz : ¬ 9223372036854775807 < n + 1 := by omega
    go_wp2
    go_ret
    exact ⟨_, by rw [size2, hn]; show n + 1 ≤ _; omega, rfl, hB1⟩
  · go_wp2_with (first
      | (go_at_call 19; refine (HA.out 9 (by omega) (by omega) W).mono ?_; rintro en w2 ⟨j, hj, rfl, hw2⟩; rw [hw2])
      | (go_at_call 51; refine (HRe.out j hj W).mono ?_; rintro en w2 ⟨t, ht, rfl, hB2⟩))
    go_ret
    exact ⟨t, by omega, rfl, link hB1 hB2⟩
  · go_wp2_with (first
      | (go_at_call 19; refine (HA.out 9 (by omega) (by omega) W).mono ?_; rintro en w2 ⟨j, hj, rfl, hw2⟩; rw [hw2])
      | (go_at_call 51; refine (HRd.out j hj W).mono ?_; rintro en w2 ⟨t, ht, rfl, hB2⟩))
    go_ret
    exact ⟨t, by omega, rfl, link hB1 hB2⟩
  · go_wp2
    go_ret
    exact ⟨_, Nat.zero_le _, rfl, hB1⟩
  · have hz : ¬ 9223372036854775807 < n + x.size := by omega
    go_wp2
    go_ret
    exact ⟨_, by rw [size2, hn]; omega, rfl, hB1⟩
end Go.Proofs.Ytehkgpefmjfifaa
