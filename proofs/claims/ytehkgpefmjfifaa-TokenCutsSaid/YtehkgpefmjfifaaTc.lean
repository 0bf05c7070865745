/-
  TokenCuts.
-/
import Derived.Test.YtehkgpefmjfifaaTv
namespace Go.Proofs.Ytehkgpefmjfifaa
open Go.RowKit
set_option linter.unusedVariables false
set_option linter.unusedSimpArgs false

set_option maxHeartbeats 4000000 in
set_option maxRecDepth 100000 in
theorem tokenCuts_any (A : Option Addr) (l : List Int) (n c : Nat) (hl : l.length = n) (how by_ : Int) (h1 : -9223372036854775808 ≤ how) (h2 : how ≤ 9223372036854775807) (h3 : -9223372036854775808 ≤ by_) (h4 : by_ ≤ 9223372036854775807) (raw : ByteArray) (fr : Int) (h5 : -9223372036854775808 ≤ fr) (h6 : fr ≤ 9223372036854775807) (w : World) (hA : IntsAt w A l) (hG : GM w) :
    Calls Try.prog 6 #[.slice A n c, .int .i64 how, .int .i64 by_, .string raw, .int .i64 fr] w (Told w true) := by
  have HT := Lib.hid (texts_any A l n c hl how by_ h1 h2 h3 h4 raw _ rfl 600 (by omega) w hA)
  have HLv := Lib.hid (fun (V : World) (h : GM V) => lives_any V h)
  have HAf := Lib.hid (fun (m : Nat) (hm : 0 < m) (hm2 : m ≤ 1000000) (V : World) => around_any fr h5 h6 m hm hm2 V)
  have HF := Lib.hid h5
  have HF2 := Lib.hid h6
  clear hl h1 h2 h3 h4 h5 h6 hA
  go_enter Try.func6, Try.ntmps6
  go_wp2_with (go_at_call 11; refine HT.out.mono ?_; rintro en W1 ⟨L, k, q1, c1, hLk, hk5, hk6, hs, rfl, hc1, hAt, hB1⟩)
  have hG1 := Lib.hid (hG.keep hB1)
  have hLK := Lib.hid hLk
  clear HT hLk
  go_loopw [12] (fun v wr => NumRel W1 k v wr) (fun v _ => k - (intOf v).toNat)
  case atStart => exact ⟨0, Nat.zero_le _, rfl, Below.refl _ _⟩
  case round =>
    obtain ⟨i, hi, rfl, hB⟩ := hrel
    rcases Nat.lt_or_ge i k with hlt | hge
    · obtain ⟨x, hx⟩ : ∃ x, L[i]? = some x := ⟨_, List.getElem?_eq_getElem (by rw [hLK.out]; exact hlt)⟩
      obtain ⟨y, hy⟩ : ∃ x, L[0]? = some x := ⟨_, List.getElem?_eq_getElem (by rw [hLK.out]; omega)⟩
      have hxs := hs x (List.mem_of_getElem? hx)
      have hys := hs y (List.mem_of_getElem? hy)
      obtain ⟨b, off, rfl, hLy⟩ := hAt.get (i := i) (by rw [hLK.out]; exact hlt)
      have c0 : wr.cell? ⟨b, off + i, none⟩ = some (.string x) := by
        have := (hLy.keep hB).2 i x 0 _ hx rfl
        rwa [show strE.k = 1 from rfl, Nat.mul_one, Nat.add_zero] at this
      have D0 : ∀ w', Below W1.heap.size W1 w' → w'.cell? ⟨b, off, none⟩ = some (.string y) := fun w' h => by
        have := (hLy.keep h).2 0 y 0 _ hy rfl
        rwa [show strE.k = 1 from rfl, Nat.mul_one, Nat.add_zero] at this
      have hx9 : x.size ≤ 1000000000 := by omega
      have hy9 : y.size ≤ 1000000000 := by omega
      have htl := toks_len (sb x)
      rw [sb_length] at htl
      obtain ⟨m, hm⟩ : ∃ m, (toks (sb x)).length = m := ⟨_, rfl⟩
      have hm9 : m ≤ 100000 := by omega
      have HRS := Lib.hid (fun V : World => (rsplit_any x _ rfl hx9 V).mono (fun _ _ h => MadeR.give (E := rtE) h hm))
      have HJ1 := Lib.hid (fun V : World => join_any x y hx9 hy9 V)
      have HK1 := Lib.hid (fun V : World => rjoin_any x y hx9 hy9 V)
      have HJ2 := Lib.hid (fun V : World => join_any y x hy9 hx9 V)
      have HK2 := Lib.hid (fun V : World => rjoin_any y x hy9 hx9 V)
      have HC := Lib.hid (fun (f : Int) (g1 : -9223372036854775808 ≤ f) (g2 : f ≤ 9223372036854775807) (V : World) (h : GM V) => cut_any x hx9 f g1 g2 V h)
      have HRC := Lib.hid (fun (f : Int) (g1 : -9223372036854775808 ≤ f) (g2 : f ≤ 9223372036854775807) (V : World) => rcut_any x hx9 f g1 g2 V)
      generalize joinS x y = j1 at HJ1 HK1
      generalize joinS y x = j2 at HJ2 HK2
      have hm2 : ((m + 2 : Nat) : Int) = (m : Int) + 2 := by omega
      have HA1 := Lib.hid (fun V : World => by
        have h := HAf.out (m + 2) (by omega) (by omega) V
        rw [hm2] at h
        exact h)
      clear hx hy hLy hxs hys htl hx9 hy9 hm hm2
      go_upto_region 6 with (fail)
      refine wp_region_held_drew (S := fun w' => Below W1.heap.size W1 w') (by kernel_rfl) (below_drew (hB)) (fun _ => ?_)
      have hHeld : Below W1.heap.size W1 wr.drew := below_drew (hB)
      generalize wr.drew = V0 at hHeld ⊢
      refine wt (i := 0) (oi := ⟨some 38, .move (.tmp 13), 9, "law.go:96", #[], none⟩) (v := .string x) (Or.inl ⟨by rfl, fun w' hSw => by go_simp⟩) hHeld ?_
      try simp only [zP, zQ, zS, zZ, zC]
      refine wt (i := 1) (oi := ⟨some 39, .move (.tmp 11), 23, "law.go:96", #[], none⟩) (v := .slice (some ⟨b, off, none⟩) k c1) (Or.inl ⟨by rfl, fun w' hSw => by go_simp⟩) hHeld ?_
      try simp only [zP, zQ, zS, zZ, zC]
      refine wt (i := 2) (oi := ⟨some 40, .indexAddr 23 (.tmp 39) (.const (Value.int IntKind.i64 0)), 0, "law.go:96", #[⟨1, .data⟩], none⟩) (v := .pointer (some ⟨b, off, none⟩)) (Or.inl ⟨by rfl, fun w' hSw => by go_simp; try (intro hcm; exact absurd hcm (by omega))⟩) hHeld ?_
      try simp only [zP, zQ, zS, zZ, zC]
      refine wt (i := 3) (oi := ⟨some 41, .load 9 (.tmp 40), 9, "law.go:96", #[⟨2, .data⟩], none⟩) (v := .string y) (Or.inl ⟨by rfl, fun w' hSw => by have hc := D0 w' hSw; go_simp⟩) hHeld ?_
      try simp only [zP, zQ, zS, zZ, zC]
      refine wt (i := 5) (oi := ⟨some 43, .move (.tmp 13), 9, "law.go:96", #[], none⟩) (v := .string x) (Or.inl ⟨by rfl, fun w' hSw => by go_simp⟩) hHeld ?_
      try simp only [zP, zQ, zS, zZ, zC]
      refine wt (i := 6) (oi := ⟨some 44, .move (.tmp 11), 23, "law.go:96", #[], none⟩) (v := .slice (some ⟨b, off, none⟩) k c1) (Or.inl ⟨by rfl, fun w' hSw => by go_simp⟩) hHeld ?_
      try simp only [zP, zQ, zS, zZ, zC]
      refine wt (i := 7) (oi := ⟨some 45, .indexAddr 23 (.tmp 44) (.const (Value.int IntKind.i64 0)), 0, "law.go:96", #[⟨6, .data⟩], none⟩) (v := .pointer (some ⟨b, off, none⟩)) (Or.inl ⟨by rfl, fun w' hSw => by go_simp; try (intro hcm; exact absurd hcm (by omega))⟩) hHeld ?_
      try simp only [zP, zQ, zS, zZ, zC]
      refine wt (i := 8) (oi := ⟨some 46, .load 9 (.tmp 45), 9, "law.go:96", #[⟨7, .data⟩], none⟩) (v := .string y) (Or.inl ⟨by rfl, fun w' hSw => by have hc := D0 w' hSw; go_simp⟩) hHeld ?_
      try simp only [zP, zQ, zS, zZ, zC]
      refine wpAnyH_ready (rs := [4]) (by kernel_rfl) (by simp) ?_
      refine AllReadyH.cons (o := ⟨some 42, .call { callee := .value (.func 33), args := #[.tmp 38, .tmp 41], argTypes := #[9, 9] }, 9, "law.go:96", #[⟨0, .data⟩, ⟨3, .data⟩], none⟩) rfl (fun K hK => ?_) AllReadyH.nil
      rw [if_pos (by rfl)]
      go_simp
      refine (HJ1.out V0).mono ?_
      rintro en Va ⟨rfl, hB7⟩
      dsimp only
      refine hK.out _ _ (link hHeld hB7) (fun hHeld => ?_)
      clear hK K
      try simp only [zP, zQ, zS, zZ, zC]
      refine wpAnyH_ready (rs := [9]) (by kernel_rfl) (by simp) ?_
      refine AllReadyH.cons (o := ⟨some 47, .call { callee := .value (.func 34), args := #[.tmp 43, .tmp 46], argTypes := #[9, 9] }, 9, "law.go:96", #[⟨5, .data⟩, ⟨8, .data⟩, ⟨4, .chain⟩], none⟩) rfl (fun K hK => ?_) AllReadyH.nil
      rw [if_pos (by rfl)]
      go_simp
      refine (HK1.out Va).mono ?_
      rintro en Vb ⟨rfl, hB8⟩
      dsimp only
      refine hK.out _ _ (link hHeld hB8) (fun hHeld => ?_)
      clear hK K
      try simp only [zP, zQ, zS, zZ, zC]
      refine wt (i := 10) (oi := ⟨some 48, .binOp .neq 9 (.tmp 42) (.tmp 47) 9, 4, "law.go:96", #[⟨4, .data⟩, ⟨9, .data⟩], none⟩) (v := .bool false) (Or.inl ⟨by rfl, fun w' hSw => by go_simp⟩) hHeld ?_
      try simp only [zP, zQ, zS, zZ, zC]
      refine wt (i := 11) (oi := ⟨some 49, .move (.tmp 48), 4, "law.go:96", #[⟨10, .data⟩, ⟨9, .chain⟩], none⟩) (v := .bool false) (Or.inl ⟨by rfl, fun w' hSw => by go_simp⟩) hHeld ?_
      try simp only [zP, zQ, zS, zZ, zC]
      refine wt (i := 12) (oi := ⟨some 50, .move (.tmp 11), 23, "law.go:96", #[⟨11, .guard⟩], some (11, false)⟩) (v := .slice (some ⟨b, off, none⟩) k c1) (Or.inl ⟨by rfl, fun w' hSw => by go_simp⟩) hHeld ?_
      try simp only [zP, zQ, zS, zZ, zC]
      refine wt (i := 13) (oi := ⟨some 51, .indexAddr 23 (.tmp 50) (.const (Value.int IntKind.i64 0)), 0, "law.go:96", #[⟨12, .data⟩, ⟨11, .guard⟩], some (11, false)⟩) (v := .pointer (some ⟨b, off, none⟩)) (Or.inl ⟨by rfl, fun w' hSw => by go_simp; try (intro hcm; exact absurd hcm (by omega))⟩) hHeld ?_
      try simp only [zP, zQ, zS, zZ, zC]
      refine wt (i := 14) (oi := ⟨some 52, .load 9 (.tmp 51), 9, "law.go:96", #[⟨13, .data⟩, ⟨11, .guard⟩], some (11, false)⟩) (v := .string y) (Or.inl ⟨by rfl, fun w' hSw => by have hc := D0 w' hSw; go_simp⟩) hHeld ?_
      try simp only [zP, zQ, zS, zZ, zC]
      refine wt (i := 15) (oi := ⟨some 53, .move (.tmp 13), 9, "law.go:96", #[⟨11, .guard⟩], some (11, false)⟩) (v := .string x) (Or.inl ⟨by rfl, fun w' hSw => by go_simp⟩) hHeld ?_
      try simp only [zP, zQ, zS, zZ, zC]
      refine wt (i := 17) (oi := ⟨some 55, .move (.tmp 11), 23, "law.go:96", #[⟨11, .guard⟩], some (11, false)⟩) (v := .slice (some ⟨b, off, none⟩) k c1) (Or.inl ⟨by rfl, fun w' hSw => by go_simp⟩) hHeld ?_
      try simp only [zP, zQ, zS, zZ, zC]
      refine wt (i := 18) (oi := ⟨some 56, .indexAddr 23 (.tmp 55) (.const (Value.int IntKind.i64 0)), 0, "law.go:96", #[⟨17, .data⟩, ⟨11, .guard⟩], some (11, false)⟩) (v := .pointer (some ⟨b, off, none⟩)) (Or.inl ⟨by rfl, fun w' hSw => by go_simp; try (intro hcm; exact absurd hcm (by omega))⟩) hHeld ?_
      try simp only [zP, zQ, zS, zZ, zC]
      refine wt (i := 19) (oi := ⟨some 57, .load 9 (.tmp 56), 9, "law.go:96", #[⟨18, .data⟩, ⟨11, .guard⟩], some (11, false)⟩) (v := .string y) (Or.inl ⟨by rfl, fun w' hSw => by have hc := D0 w' hSw; go_simp⟩) hHeld ?_
      try simp only [zP, zQ, zS, zZ, zC]
      refine wt (i := 20) (oi := ⟨some 58, .move (.tmp 13), 9, "law.go:96", #[⟨11, .guard⟩], some (11, false)⟩) (v := .string x) (Or.inl ⟨by rfl, fun w' hSw => by go_simp⟩) hHeld ?_
      try simp only [zP, zQ, zS, zZ, zC]
      refine wpAnyH_ready (rs := [16]) (by kernel_rfl) (by simp) ?_
      refine AllReadyH.cons (o := ⟨some 54, .call { callee := .value (.func 33), args := #[.tmp 52, .tmp 53], argTypes := #[9, 9] }, 9, "law.go:96", #[⟨14, .data⟩, ⟨15, .data⟩, ⟨11, .chain⟩, ⟨11, .guard⟩], some (11, false)⟩) rfl (fun K hK => ?_) AllReadyH.nil
      rw [if_pos (by rfl)]
      go_simp
      refine (HJ2.out Vb).mono ?_
      rintro en Vc ⟨rfl, hB9⟩
      dsimp only
      refine hK.out _ _ (link hHeld hB9) (fun hHeld => ?_)
      clear hK K
      try simp only [zP, zQ, zS, zZ, zC]
      refine wpAnyH_ready (rs := [21]) (by kernel_rfl) (by simp) ?_
      refine AllReadyH.cons (o := ⟨some 59, .call { callee := .value (.func 34), args := #[.tmp 57, .tmp 58], argTypes := #[9, 9] }, 9, "law.go:96", #[⟨19, .data⟩, ⟨20, .data⟩, ⟨16, .chain⟩, ⟨11, .guard⟩], some (11, false)⟩) rfl (fun K hK => ?_) AllReadyH.nil
      rw [if_pos (by rfl)]
      go_simp
      refine (HK2.out Vc).mono ?_
      rintro en Vd ⟨rfl, hB10⟩
      dsimp only
      refine hK.out _ _ (link hHeld hB10) (fun hHeld => ?_)
      clear hK K
      try simp only [zP, zQ, zS, zZ, zC]
      refine wt (i := 22) (oi := ⟨some 60, .binOp .neq 9 (.tmp 54) (.tmp 59) 9, 4, "law.go:96", #[⟨16, .data⟩, ⟨21, .data⟩, ⟨11, .guard⟩], some (11, false)⟩) (v := .bool false) (Or.inl ⟨by rfl, fun w' hSw => by go_simp⟩) hHeld ?_
      try simp only [zP, zQ, zS, zZ, zC]
      refine wt (i := 23) (oi := ⟨some 61, .pick (.tmp 49) (.const (Value.bool true)) (.tmp 60), 4, "law.go:96", #[⟨11, .data⟩, ⟨22, .data⟩], none⟩) (v := .bool false) (Or.inl ⟨by rfl, fun w' hSw => by go_simp⟩) hHeld ?_
      try simp only [zP, zQ, zS, zZ, zC]
      refine wpAnyH_done (by kernel_rfl) ?_ _
      have BX := hHeld
      clear hHeld 
      clear c0 D0 HJ1 HJ2 HK1 HK2 hB
      have hB := BX
      go_upto_region 9 with (go_at_call 15; refine (HRS.out _).mono ?_; rintro en W2 ⟨q2, c2, rfl, hc2, hA2, hB2⟩; replace hB := link hB hB2)
      go_upto_region 10 with (go_at_call 19; refine (HA1.out W2).mono ?_; rintro en w2 ⟨r1, hr1, rfl, hw2⟩; rw [hw2])
      clear hA2 hc2
      have hAp := at_new intE W2 #[.int .i64 fr, .int .i64 ((r1 : Int) - 1), .int .i64 0, .int .i64 1, .int .i64 (m : Int)] [fr, (r1 : Int) - 1, 0, 1, (m : Int)] rfl
      have hB3 : Below W2.heap.size W2 (W2.alloc (.cells #[.int .i64 fr, .int .i64 ((r1 : Int) - 1), .int .i64 0, .int .i64 1, .int .i64 (m : Int)] 3)) := (Below.refl _ _).alloc (Nat.le_refl _) _
      change At intE (W2.alloc (.cells #[.int .i64 fr, .int .i64 ((r1 : Int) - 1), .int .i64 0, .int .i64 1, .int .i64 (m : Int)] 3)) _ _ at hAp
      have hin : ∀ p ∈ [fr, (r1 : Int) - 1, 0, 1, (m : Int)], -9223372036854775808 ≤ p ∧ p ≤ 9223372036854775807 := by
        have g1 := HF.out
        have g2 := HF2.out
        intro p hp
        simp only [List.mem_cons, List.not_mem_nil, or_false] at hp
        rcases hp with rfl | rfl | rfl | rfl | rfl <;> refine ⟨?_, ?_⟩ <;> omega
      generalize W2.alloc (.cells #[.int .i64 fr, .int .i64 ((r1 : Int) - 1), .int .i64 0, .int .i64 1, .int .i64 (m : Int)] 3) = W3 at hAp hB3 ⊢
      generalize hpl : [fr, (r1 : Int) - 1, 0, 1, (m : Int)] = pl at hAp hin
      have hpl5 : pl.length = 5 := by rw [← hpl]; rfl
      generalize (some (⟨W2.heap.size, 0, none⟩ : Addr)) = q5 at hAp ⊢
      replace hB := link hB hB3
      have hG3 := Lib.hid (hG1.out.keep hB)
      clear hpl hB3 HAf HF HF2 HA1
      obtain ⟨wo, rfl⟩ : ∃ wo, wo = wr := ⟨_, rfl⟩
      go_wp2
      go_loopw [16] (fun v wr => NumRel W3 5 v wr) (fun v _ => 5 - (intOf v).toNat)
      case atStart => exact ⟨0, Nat.zero_le _, rfl, Below.refl _ _⟩
      case round =>
        obtain ⟨j, hj, rfl, hB3⟩ := hrel
        rcases Nat.lt_or_ge j 5 with hlt5 | hge5
        · obtain ⟨f, hp⟩ : ∃ a, pl[j]? = some a := ⟨_, List.getElem?_eq_getElem (by omega)⟩
          obtain ⟨g1, g2⟩ := hin f (List.mem_of_getElem? hp)
          obtain ⟨b2, off2, rfl, hL2⟩ := hAp.get (i := j) (by omega)
          have C0 : ∀ w', Below W3.heap.size W3 w' → w'.cell? ⟨b2, off2 + j, none⟩ = some (.int .i64 f) := fun w' h => by
            have := (hL2.keep h).2 j f 0 _ hp rfl
            rwa [show intE.k = 1 from rfl, Nat.mul_one, Nat.add_zero] at this
          have c0 := C0 wr hB3
          have HP := Lib.hid (fun (V : World) (h : GM V) => HC.out f g1 g2 V h)
          have HRP := Lib.hid (fun V : World => HRC.out f g1 g2 V)
          generalize cutM x f = P at HP HRP
          obtain ⟨p1, p2, p3⟩ := P
          clear hL2 hp g1 g2
          go_upto_region 14 with (go_at_call 35; refine (HP.out wr (hG3.out.keep hB3)).mono ?_; rintro en W4 ⟨rfl, hB4⟩; unfold three; dsimp only; replace hB4 := link hB3 hB4; have c0 := C0 W4 hB4)
          go_wp2_with (go_at_call 36; refine (HRP.out W4).mono ?_; rintro en W5 ⟨rfl, hB5⟩; unfold three; dsimp only; replace hB5 := link hB4 hB5)
          exact ⟨⟨j + 1, by omega, by go_num, hB5⟩, by simp [intOf]; omega⟩
        · have hlt5 : ¬ j < 5 := by omega
          obtain rfl : j = 5 := by omega
          go_wp2
          exact ⟨⟨i + 1, by omega, by go_num, link hB hB3⟩, by simp [intOf]; omega⟩
    · have hlt : ¬ i < k := by omega
      obtain rfl : i = k := by omega
      go_wp2_with (go_at_call 14; refine (HLv.out _ (hG1.out.keep hB)).mono ?_; rintro en W9 ⟨rfl, hB9⟩)
      go_ret
      exact ⟨rfl, link hB1 (link hB hB9)⟩
end Go.Proofs.Ytehkgpefmjfifaa
