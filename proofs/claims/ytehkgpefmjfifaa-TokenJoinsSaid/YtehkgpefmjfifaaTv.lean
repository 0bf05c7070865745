/-
  TokenValid.
-/
import Derived.Test.YtehkgpefmjfifaaLt
namespace Go.Proofs.Ytehkgpefmjfifaa
open Go.RowKit
set_option linter.unusedVariables false
set_option linter.unusedSimpArgs false

/-- The number of a round. -/
def NumRel (W : World) (n : Nat) (v : Value) (wr : World) : Prop := ∃ i : Nat, i ≤ n ∧ v = .int .i64 (i : Int) ∧ Below W.heap.size W wr

set_option maxHeartbeats 4000000 in
set_option maxRecDepth 100000 in
theorem tokenValid_any (A : Option Addr) (l : List Int) (n c : Nat) (hl : l.length = n) (how by_ : Int) (h1 : -9223372036854775808 ≤ how) (h2 : how ≤ 9223372036854775807) (h3 : -9223372036854775808 ≤ by_) (h4 : by_ ≤ 9223372036854775807) (raw : ByteArray) (w : World) (hA : IntsAt w A l) (hG : GM w) :
    Calls Try.prog 3 #[.slice A n c, .int .i64 how, .int .i64 by_, .string raw] w (Told w true) := by
  have HT := Lib.hid (texts_any A l n c hl how by_ h1 h2 h3 h4 raw _ rfl 6000 (by omega) w hA)
  have HLv := Lib.hid (fun (V : World) (h : GM V) => lives_any V h)
  clear hl h1 h2 h3 h4 hA
  go_enter Try.func3, Try.ntmps3
  go_wp2_with (go_at_call 11; refine HT.out.mono ?_; rintro en W1 ⟨L, k, q1, c1, hLk, hk5, hk6, hs, rfl, hc1, hAt, hB1⟩)
  have hG1 := Lib.hid (hG.keep hB1)
  have hLK := Lib.hid hLk
  clear HT hLk
  go_loopw [10] (fun v wr => NumRel W1 k v wr) (fun v _ => k - (intOf v).toNat)
  case atStart => exact ⟨0, Nat.zero_le _, rfl, Below.refl _ _⟩
  case round =>
    obtain ⟨i, hi, rfl, hB⟩ := hrel
    rcases Nat.lt_or_ge i k with hlt | hge
    · obtain ⟨x, hx⟩ : ∃ x, L[i]? = some x := ⟨_, List.getElem?_eq_getElem (by rw [hLK.out]; exact hlt)⟩
      have hxs := hs x (List.mem_of_getElem? hx)
      obtain ⟨b, off, rfl, hLy⟩ := hAt.get (i := i) (by rw [hLK.out]; exact hlt)
      have C0 : ∀ w', Below W1.heap.size W1 w' → w'.cell? ⟨b, off + i, none⟩ = some (.string x) := fun w' h => by
        have := (hLy.keep h).2 i x 0 _ hx rfl
        rwa [show strE.k = 1 from rfl, Nat.mul_one, Nat.add_zero] at this
      have HV := Lib.hid (fun (V : World) (h : GM V) => valid_any x _ rfl (by omega) V h)
      have HR := Lib.hid (fun (V : World) => rvalid_any x _ rfl (by omega) V)
      generalize validT (sb x) = z at HV HR
      clear hx hLy hxs
      go_upto_region 5 with (fail)
      refine wp_region_held_drew (S := fun w' => Below W1.heap.size W1 w') (by kernel_rfl) (below_drew (hB)) (fun _ => ?_)
      have hHeld : Below W1.heap.size W1 wr.drew := below_drew (hB)
      generalize wr.drew = V0 at hHeld ⊢
      refine wt (i := 0) (oi := ⟨some 22, .move (.tmp 9), 23, "law.go:52", #[], none⟩) (v := .slice (some ⟨b, off, none⟩) k c1) (Or.inl ⟨by rfl, fun w' hSw => by go_simp⟩) hHeld ?_
      try simp only [zP, zQ, zS, zZ, zC]
      refine wt (i := 1) (oi := ⟨some 23, .move (.tmp 10), 3, "law.go:52", #[], none⟩) (v := .int .i64 (i : Int)) (Or.inl ⟨by rfl, fun w' hSw => by go_simp⟩) hHeld ?_
      try simp only [zP, zQ, zS, zZ, zC]
      refine wt (i := 2) (oi := ⟨some 24, .indexAddr 23 (.tmp 22) (.tmp 23), 0, "law.go:52", #[⟨0, .data⟩, ⟨1, .data⟩], none⟩) (v := .pointer (some ⟨b, off + i, none⟩)) (Or.inl ⟨by rfl, fun w' hSw => by go_simp; try (intro hcm; exact absurd hcm (by omega))⟩) hHeld ?_
      try simp only [zP, zQ, zS, zZ, zC]
      refine wt (i := 3) (oi := ⟨some 25, .load 9 (.tmp 24), 9, "law.go:52", #[⟨2, .data⟩], none⟩) (v := .string x) (Or.inl ⟨by rfl, fun w' hSw => by have hc := C0 w' hSw; go_simp⟩) hHeld ?_
      try simp only [zP, zQ, zS, zZ, zC]
      refine wt (i := 5) (oi := ⟨some 27, .move (.tmp 9), 23, "law.go:52", #[], none⟩) (v := .slice (some ⟨b, off, none⟩) k c1) (Or.inl ⟨by rfl, fun w' hSw => by go_simp⟩) hHeld ?_
      try simp only [zP, zQ, zS, zZ, zC]
      refine wt (i := 6) (oi := ⟨some 28, .move (.tmp 10), 3, "law.go:52", #[], none⟩) (v := .int .i64 (i : Int)) (Or.inl ⟨by rfl, fun w' hSw => by go_simp⟩) hHeld ?_
      try simp only [zP, zQ, zS, zZ, zC]
      refine wt (i := 7) (oi := ⟨some 29, .indexAddr 23 (.tmp 27) (.tmp 28), 0, "law.go:52", #[⟨5, .data⟩, ⟨6, .data⟩], none⟩) (v := .pointer (some ⟨b, off + i, none⟩)) (Or.inl ⟨by rfl, fun w' hSw => by go_simp; try (intro hcm; exact absurd hcm (by omega))⟩) hHeld ?_
      try simp only [zP, zQ, zS, zZ, zC]
      refine wt (i := 8) (oi := ⟨some 30, .load 9 (.tmp 29), 9, "law.go:52", #[⟨7, .data⟩], none⟩) (v := .string x) (Or.inl ⟨by rfl, fun w' hSw => by have hc := C0 w' hSw; go_simp⟩) hHeld ?_
      try simp only [zP, zQ, zS, zZ, zC]
      refine wpAnyH_ready (rs := [4]) (by kernel_rfl) (by simp) ?_
      refine AllReadyH.cons (o := ⟨some 26, .call { callee := .value (.func 12), args := #[.tmp 25], argTypes := #[9] }, 25, "law.go:52", #[⟨3, .data⟩], none⟩) rfl (fun K hK => ?_) AllReadyH.nil
      rw [if_pos (by rfl)]
      go_simp
      refine (HV.out _ (hG1.out.keep hHeld)).mono ?_
      rintro en Wa ⟨rfl, hB2⟩
      dsimp only
      refine hK.out _ _ (link hHeld hB2) (fun hHeld => ?_)
      clear hK K
      try simp only [zP, zQ, zS, zZ, zC]
      refine wpAnyH_ready (rs := [9]) (by kernel_rfl) (by simp) ?_
      refine AllReadyH.cons (o := ⟨some 31, .call { callee := .value (.func 13), args := #[.tmp 30], argTypes := #[9] }, 25, "law.go:52", #[⟨8, .data⟩, ⟨4, .chain⟩], none⟩) rfl (fun K hK => ?_) AllReadyH.nil
      rw [if_pos (by rfl)]
      go_simp
      refine (HR.out _).mono ?_
      rintro en Wb ⟨rfl, hB3⟩
      dsimp only
      refine hK.out _ _ (link hHeld hB3) (fun hHeld => ?_)
      clear hK K
      try simp only [zP, zQ, zS, zZ, zC]
      refine wt (i := 10) (oi := ⟨some 32, .binOp .neq 25 (.tmp 26) (.tmp 31) 25, 4, "law.go:52", #[⟨4, .data⟩, ⟨9, .data⟩], none⟩) (v := .bool false) (Or.inl ⟨by rfl, fun w' hSw => by go_simp⟩) hHeld ?_
      try simp only [zP, zQ, zS, zZ, zC]
      refine wpAnyH_done (by kernel_rfl) ?_ _
      have BX := hHeld
      clear hHeld 
      trace_state
      go_wp2
      trace_state
      exact ⟨⟨i + 1, by omega, by go_num, BX⟩, by simp [intOf]; omega⟩
    · have hlt : ¬ i < k := by omega
      obtain rfl : i = k := by omega
      go_wp2_with (go_at_call 14; refine (HLv.out _ (hG1.out.keep hB)).mono ?_; rintro en W9 ⟨rfl, hB9⟩)
      go_ret
      exact ⟨rfl, link hB1 (link hB hB9)⟩
end Go.Proofs.Ytehkgpefmjfifaa
