/-
  TokenSplits.
-/
import Derived.Test.YtehkgpefmjfifaaMo
namespace Go.Proofs.Ytehkgpefmjfifaa
open Go.RowKit
set_option linter.unusedVariables false
set_option linter.unusedSimpArgs false

set_option maxHeartbeats 4000000 in
set_option maxRecDepth 100000 in
theorem tokenSplits_any (A : Option Addr) (l : List Int) (n c : Nat) (hl : l.length = n) (how by_ : Int) (h1 : -9223372036854775808 ≤ how) (h2 : how ≤ 9223372036854775807) (h3 : -9223372036854775808 ≤ by_) (h4 : by_ ≤ 9223372036854775807) (raw : ByteArray) (fr to_ : Int) (h5 : -9223372036854775808 ≤ fr) (h6 : fr ≤ 9223372036854775807) (h7 : -9223372036854775808 ≤ to_) (h8 : to_ ≤ 9223372036854775807) (w : World) (hA : IntsAt w A l) (hG : GM w) :
    Calls Try.prog 4 #[.slice A n c, .int .i64 how, .int .i64 by_, .string raw, .int .i64 fr, .int .i64 to_] w (Told w true) := by
  have HT := Lib.hid (texts_any A l n c hl how by_ h1 h2 h3 h4 raw _ rfl 600 (by omega) w hA)
  have HLv := Lib.hid (fun (V : World) (h : GM V) => lives_any V h)
  have HAf := Lib.hid (fun (m : Nat) (hm : 0 < m) (hm2 : m ≤ 1000000) (V : World) => around_any fr h5 h6 m hm hm2 V)
  have HAt := Lib.hid (fun (m : Nat) (hm : 0 < m) (hm2 : m ≤ 1000000) (V : World) => around_any to_ h7 h8 m hm hm2 V)
  have HF := Lib.hid h5
  have HF2 := Lib.hid h6
  have HTo := Lib.hid h7
  have HTo2 := Lib.hid h8
  clear hl h1 h2 h3 h4 h5 h6 h7 h8 hA
  go_enter Try.func4, Try.ntmps4
  go_wp2_with (go_at_call 11; refine HT.out.mono ?_; rintro en W1 ⟨L, k, q1, c1, hLk, hk5, hk6, hs, rfl, hc1, hAt, hB1⟩)
  have hG1 := Lib.hid (hG.keep hB1)
  have hLK := Lib.hid hLk
  clear HT hLk
  go_loopw [14] (fun v wr => NumRel W1 k v wr) (fun v _ => k - (intOf v).toNat)
  case atStart => exact ⟨0, Nat.zero_le _, rfl, Below.refl _ _⟩
  case round =>
    obtain ⟨i, hi, rfl, hB⟩ := hrel
    rcases Nat.lt_or_ge i k with hlt | hge
    · obtain ⟨x, hx⟩ : ∃ x, L[i]? = some x := ⟨_, List.getElem?_eq_getElem (by rw [hLK.out]; exact hlt)⟩
      have hxs := hs x (List.mem_of_getElem? hx)
      obtain ⟨b, off, rfl, hLy⟩ := hAt.get (i := i) (by rw [hLK.out]; exact hlt)
      have c0 : wr.cell? ⟨b, off + i, none⟩ = some (.string x) := by
        have := (hLy.keep hB).2 i x 0 _ hx rfl
        rwa [show strE.k = 1 from rfl, Nat.mul_one, Nat.add_zero] at this
      have hx9 : x.size ≤ 1000000000 := by omega
      have htl := toks_len (sb x)
      rw [sb_length] at htl
      obtain ⟨m, hm⟩ : ∃ m, (toks (sb x)).length = m := ⟨_, rfl⟩
      have hm9 : m ≤ 100000 := by omega
      have HS := Lib.hid (fun V : World => (split_any x _ rfl hx9 V).mono (fun _ _ h => MadeR.give (E := tkE) h hm))
      have HRS := Lib.hid (fun V : World => (rsplit_any x _ rfl hx9 V).mono (fun _ _ h => MadeR.give (E := rtE) h hm))
      have HPa := Lib.hid (fun (f t : Int) (g1 : -9223372036854775808 ≤ f) (g2 : f ≤ 9223372036854775807) (g3 : -9223372036854775808 ≤ t) (g4 : t ≤ 9223372036854775807) (V : World) => part_any x hx9 f t g1 g2 g3 g4 V)
      have HRPa := Lib.hid (fun (f t : Int) (g1 : -9223372036854775808 ≤ f) (g2 : f ≤ 9223372036854775807) (g3 : -9223372036854775808 ≤ t) (g4 : t ≤ 9223372036854775807) (V : World) => rpart_any x hx9 f t g1 g2 g3 g4 V)
      obtain ⟨tl, htl2⟩ : ∃ t, toks (sb x) = t := ⟨_, rfl⟩
      rw [htl2] at HS HRS hm
      have HMo := Lib.hid (fun (q : Option Addr) (c : Nat) (V : World) (h : At tkE V q tl) => (model_any tl m c q hm (by omega) V h).mono (fun _ _ h => MadeR.give (E := rtE) h hm))
      have HTm := Lib.hid hm
      have hm2 : ((m + 2 : Nat) : Int) = (m : Int) + 2 := by omega
      have HA1 := Lib.hid (fun V : World => by
        have h := HAf.out (m + 2) (by omega) (by omega) V
        rw [hm2] at h
        exact h)
      have HA2 := Lib.hid (fun V : World => by
        have h := HAt.out (m + 2) (by omega) (by omega) V
        rw [hm2] at h
        exact h)
      clear hx hLy hxs htl hx9 htl2 hm hm2
      go_upto_region 7 with (go_at_call 15; refine (HRS.out wr).mono ?_; rintro en Wa ⟨q2, c2, rfl, hc2, hA2, hB2⟩; replace hB := link hB hB2)
      go_upto_region 9 with (first
        | (go_at_call 18; refine (HS.out Wa).mono ?_; rintro en Wb ⟨q3, c3, rfl, hc3, hA3, hB2⟩; replace hB := link hB hB2; replace hA2 := hA2.keep hB2)
        | (go_at_call 17; refine (HMo.out q3 c3 Wb hA3).mono ?_; rintro en Wc ⟨q4, c4, rfl, hc4, hA4, hB2⟩; replace hB := link hB hB2; replace hA2 := hA2.keep hB2)
        | (go_at_call 16; refine (same_refl tl q4 q2 m c4 c2 HTm.out (by omega) Wc hA4 hA2).mono ?_; rintro en W2 ⟨rfl, hB2⟩; replace hB := link hB hB2))
      clear hA2 hA3 hA4 HS HRS HMo hc2 hc3 hc4
      go_upto_region 11 with (first
        | (go_at_call_of 19 (Value.int IntKind.i64 fr); refine (HA1.out W2).mono ?_; rintro en w2 ⟨r1, hr1, rfl, hw2⟩; rw [hw2])
        | (go_at_call_of 19 (Value.int IntKind.i64 to_); refine (HA2.out W2).mono ?_; rintro en w2 ⟨r2, hr2, rfl, hw2⟩; rw [hw2]))
      have hAp := at_new prE W2 #[.int .i64 fr, .int .i64 to_, .int .i64 ((r1 : Int) - 1), .int .i64 (r2 : Int), .int .i64 0, .int .i64 (m : Int), .int .i64 ((m : Int) - 1), .int .i64 (m : Int), .int .i64 0, .int .i64 ((m : Int) + 1)] [(fr, to_), ((r1 : Int) - 1, (r2 : Int)), (0, (m : Int)), ((m : Int) - 1, (m : Int)), (0, (m : Int) + 1)] rfl
      have hB3 : Below W2.heap.size W2 (W2.alloc (.cells #[.int .i64 fr, .int .i64 to_, .int .i64 ((r1 : Int) - 1), .int .i64 (r2 : Int), .int .i64 0, .int .i64 (m : Int), .int .i64 ((m : Int) - 1), .int .i64 (m : Int), .int .i64 0, .int .i64 ((m : Int) + 1)] 35)) := (Below.refl _ _).alloc (Nat.le_refl _) _
      change At prE (W2.alloc (.cells #[.int .i64 fr, .int .i64 to_, .int .i64 ((r1 : Int) - 1), .int .i64 (r2 : Int), .int .i64 0, .int .i64 (m : Int), .int .i64 ((m : Int) - 1), .int .i64 (m : Int), .int .i64 0, .int .i64 ((m : Int) + 1)] 35)) _ _ at hAp
      have hin : ∀ p ∈ [(fr, to_), ((r1 : Int) - 1, (r2 : Int)), (0, (m : Int)), ((m : Int) - 1, (m : Int)), (0, (m : Int) + 1)], (-9223372036854775808 ≤ p.1 ∧ p.1 ≤ 9223372036854775807) ∧ (-9223372036854775808 ≤ p.2 ∧ p.2 ≤ 9223372036854775807) := by
        have g1 := HF.out
        have g2 := HF2.out
        have g3 := HTo.out
        have g4 := HTo2.out
        intro p hp
        simp only [List.mem_cons, List.not_mem_nil, or_false] at hp
        rcases hp with rfl | rfl | rfl | rfl | rfl <;> refine ⟨⟨?_, ?_⟩, ?_, ?_⟩ <;> dsimp only <;> omega
      generalize W2.alloc (.cells #[.int .i64 fr, .int .i64 to_, .int .i64 ((r1 : Int) - 1), .int .i64 (r2 : Int), .int .i64 0, .int .i64 (m : Int), .int .i64 ((m : Int) - 1), .int .i64 (m : Int), .int .i64 0, .int .i64 ((m : Int) + 1)] 35) = W3 at hAp hB3 ⊢
      generalize hpl : [(fr, to_), ((r1 : Int) - 1, (r2 : Int)), (0, (m : Int)), ((m : Int) - 1, (m : Int)), (0, (m : Int) + 1)] = pl at hAp hin
      have hpl5 : pl.length = 5 := by rw [← hpl]; rfl
      generalize (some (⟨W2.heap.size, 0, none⟩ : Addr)) = q5 at hAp ⊢
      replace hB := link hB hB3
      clear hpl hB3 HAf HAt HA1 HA2 HF HF2 HTo HTo2
      obtain ⟨wo, rfl⟩ : ∃ wo, wo = wr := ⟨_, rfl⟩
      go_wp2
      go_loopw [19] (fun v wr => NumRel W3 5 v wr) (fun v _ => 5 - (intOf v).toNat)
      case atStart => exact ⟨0, Nat.zero_le _, rfl, Below.refl _ _⟩
      case round =>
        obtain ⟨j, hj, rfl, hB3⟩ := hrel
        rcases Nat.lt_or_ge j 5 with hlt5 | hge5
        · obtain ⟨⟨f, t⟩, hp⟩ : ∃ a, pl[j]? = some a := ⟨_, List.getElem?_eq_getElem (by omega)⟩
          obtain ⟨⟨g1, g2⟩, g3, g4⟩ := hin (f, t) (List.mem_of_getElem? hp)
          obtain ⟨b2, off2, rfl, hL2⟩ := hAp.get (i := j) (by omega)
          have C0 : ∀ w', Below W3.heap.size W3 w' → w'.cell? ⟨b2, off2 + j * 2, none⟩ = some (.int .i64 f) := fun w' h => (h.cell (p := ⟨b2, off2 + j * 2, none⟩) hL2.1).trans (hL2.2 j (f, t) 0 _ hp rfl)
          have C1 : ∀ w', Below W3.heap.size W3 w' → w'.cell? ⟨b2, off2 + j * 2 + 1, none⟩ = some (.int .i64 t) := fun w' h => (h.cell (p := ⟨b2, off2 + j * 2 + 1, none⟩) hL2.1).trans (hL2.2 j (f, t) 1 _ hp rfl)
          have HP := Lib.hid (fun V : World => HPa.out f t g1 g2 g3 g4 V)
          have HRP := Lib.hid (fun V : World => HRPa.out f t g1 g2 g3 g4 V)
          generalize partS x f t = P at HP HRP
          clear hL2 hp g1 g2 g3 g4
          go_upto_region 14 with (fail)
          refine wp_region_held_drew (S := fun w' => Below W3.heap.size W3 w') (by kernel_rfl) (below_drew (hB3)) (fun _ => ?_)
          have hHeld : Below W3.heap.size W3 wr.drew := below_drew (hB3)
          generalize wr.drew = V0 at hHeld ⊢
          refine wt (i := 0) (oi := ⟨some 74, .move (.tmp 15), 9, "law.go:71", #[], none⟩) (v := .string x) (Or.inl ⟨by rfl, fun w' hSw => by go_simp⟩) hHeld ?_
          try simp only [zP, zQ, zS, zZ, zC]
          refine wt (i := 1) (oi := ⟨some 75, .move (.tmp 18), 37, "law.go:71", #[], none⟩) (v := .slice (some ⟨b2, off2, none⟩) 5 5) (Or.inl ⟨by rfl, fun w' hSw => by go_simp⟩) hHeld ?_
          try simp only [zP, zQ, zS, zZ, zC]
          refine wt (i := 2) (oi := ⟨some 76, .move (.tmp 19), 3, "law.go:71", #[], none⟩) (v := .int .i64 (j : Int)) (Or.inl ⟨by rfl, fun w' hSw => by go_simp⟩) hHeld ?_
          try simp only [zP, zQ, zS, zZ, zC]
          refine wt (i := 3) (oi := ⟨some 77, .indexAddr 37 (.tmp 75) (.tmp 76), 0, "law.go:71", #[⟨1, .data⟩, ⟨2, .data⟩], none⟩) (v := .pointer (some ⟨b2, off2 + j * 2, none⟩)) (Or.inl ⟨by rfl, fun w' hSw => by go_simp; try (intro hcm; exact absurd hcm (by omega))⟩) hHeld ?_
          try simp only [zP, zQ, zS, zZ, zC]
          refine wt (i := 4) (oi := ⟨some 78, .indexAddr 35 (.tmp 77) (.const (Value.int IntKind.i64 0)), 0, "law.go:71", #[⟨3, .data⟩], none⟩) (v := .pointer (some ⟨b2, off2 + j * 2, none⟩)) (Or.inl ⟨by rfl, fun w' hSw => by go_simp; try (intro hcm; exact absurd hcm (by omega))⟩) hHeld ?_
          try simp only [zP, zQ, zS, zZ, zC]
          refine wt (i := 5) (oi := ⟨some 79, .load 3 (.tmp 78), 3, "law.go:71", #[⟨4, .data⟩], none⟩) (v := .int .i64 f) (Or.inl ⟨by rfl, fun w' hSw => by have hc := C0 w' hSw; go_simp⟩) hHeld ?_
          try simp only [zP, zQ, zS, zZ, zC]
          refine wt (i := 6) (oi := ⟨some 80, .move (.tmp 18), 37, "law.go:71", #[], none⟩) (v := .slice (some ⟨b2, off2, none⟩) 5 5) (Or.inl ⟨by rfl, fun w' hSw => by go_simp⟩) hHeld ?_
          try simp only [zP, zQ, zS, zZ, zC]
          refine wt (i := 7) (oi := ⟨some 81, .move (.tmp 19), 3, "law.go:71", #[], none⟩) (v := .int .i64 (j : Int)) (Or.inl ⟨by rfl, fun w' hSw => by go_simp⟩) hHeld ?_
          try simp only [zP, zQ, zS, zZ, zC]
          refine wt (i := 8) (oi := ⟨some 82, .indexAddr 37 (.tmp 80) (.tmp 81), 0, "law.go:71", #[⟨6, .data⟩, ⟨7, .data⟩], none⟩) (v := .pointer (some ⟨b2, off2 + j * 2, none⟩)) (Or.inl ⟨by rfl, fun w' hSw => by go_simp; try (intro hcm; exact absurd hcm (by omega))⟩) hHeld ?_
          try simp only [zP, zQ, zS, zZ, zC]
          refine wt (i := 9) (oi := ⟨some 83, .indexAddr 35 (.tmp 82) (.const (Value.int IntKind.i64 1)), 0, "law.go:71", #[⟨8, .data⟩], none⟩) (v := .pointer (some ⟨b2, off2 + j * 2 + 1, none⟩)) (Or.inl ⟨by rfl, fun w' hSw => by go_simp; try (intro hcm; exact absurd hcm (by omega))⟩) hHeld ?_
          try simp only [zP, zQ, zS, zZ, zC]
          refine wt (i := 10) (oi := ⟨some 84, .load 3 (.tmp 83), 3, "law.go:71", #[⟨9, .data⟩], none⟩) (v := .int .i64 t) (Or.inl ⟨by rfl, fun w' hSw => by have hc := C1 w' hSw; go_simp⟩) hHeld ?_
          try simp only [zP, zQ, zS, zZ, zC]
          refine wt (i := 12) (oi := ⟨some 86, .move (.tmp 15), 9, "law.go:71", #[], none⟩) (v := .string x) (Or.inl ⟨by rfl, fun w' hSw => by go_simp⟩) hHeld ?_
          try simp only [zP, zQ, zS, zZ, zC]
          refine wt (i := 13) (oi := ⟨some 87, .move (.tmp 18), 37, "law.go:71", #[], none⟩) (v := .slice (some ⟨b2, off2, none⟩) 5 5) (Or.inl ⟨by rfl, fun w' hSw => by go_simp⟩) hHeld ?_
          try simp only [zP, zQ, zS, zZ, zC]
          refine wt (i := 14) (oi := ⟨some 88, .move (.tmp 19), 3, "law.go:71", #[], none⟩) (v := .int .i64 (j : Int)) (Or.inl ⟨by rfl, fun w' hSw => by go_simp⟩) hHeld ?_
          try simp only [zP, zQ, zS, zZ, zC]
          refine wt (i := 15) (oi := ⟨some 89, .indexAddr 37 (.tmp 87) (.tmp 88), 0, "law.go:71", #[⟨13, .data⟩, ⟨14, .data⟩], none⟩) (v := .pointer (some ⟨b2, off2 + j * 2, none⟩)) (Or.inl ⟨by rfl, fun w' hSw => by go_simp; try (intro hcm; exact absurd hcm (by omega))⟩) hHeld ?_
          try simp only [zP, zQ, zS, zZ, zC]
          refine wt (i := 16) (oi := ⟨some 90, .indexAddr 35 (.tmp 89) (.const (Value.int IntKind.i64 0)), 0, "law.go:71", #[⟨15, .data⟩], none⟩) (v := .pointer (some ⟨b2, off2 + j * 2, none⟩)) (Or.inl ⟨by rfl, fun w' hSw => by go_simp; try (intro hcm; exact absurd hcm (by omega))⟩) hHeld ?_
          try simp only [zP, zQ, zS, zZ, zC]
          refine wt (i := 17) (oi := ⟨some 91, .load 3 (.tmp 90), 3, "law.go:71", #[⟨16, .data⟩], none⟩) (v := .int .i64 f) (Or.inl ⟨by rfl, fun w' hSw => by have hc := C0 w' hSw; go_simp⟩) hHeld ?_
          try simp only [zP, zQ, zS, zZ, zC]
          refine wt (i := 18) (oi := ⟨some 92, .move (.tmp 18), 37, "law.go:71", #[], none⟩) (v := .slice (some ⟨b2, off2, none⟩) 5 5) (Or.inl ⟨by rfl, fun w' hSw => by go_simp⟩) hHeld ?_
          try simp only [zP, zQ, zS, zZ, zC]
          refine wt (i := 19) (oi := ⟨some 93, .move (.tmp 19), 3, "law.go:71", #[], none⟩) (v := .int .i64 (j : Int)) (Or.inl ⟨by rfl, fun w' hSw => by go_simp⟩) hHeld ?_
          try simp only [zP, zQ, zS, zZ, zC]
          refine wt (i := 20) (oi := ⟨some 94, .indexAddr 37 (.tmp 92) (.tmp 93), 0, "law.go:71", #[⟨18, .data⟩, ⟨19, .data⟩], none⟩) (v := .pointer (some ⟨b2, off2 + j * 2, none⟩)) (Or.inl ⟨by rfl, fun w' hSw => by go_simp; try (intro hcm; exact absurd hcm (by omega))⟩) hHeld ?_
          try simp only [zP, zQ, zS, zZ, zC]
          refine wt (i := 21) (oi := ⟨some 95, .indexAddr 35 (.tmp 94) (.const (Value.int IntKind.i64 1)), 0, "law.go:71", #[⟨20, .data⟩], none⟩) (v := .pointer (some ⟨b2, off2 + j * 2 + 1, none⟩)) (Or.inl ⟨by rfl, fun w' hSw => by go_simp; try (intro hcm; exact absurd hcm (by omega))⟩) hHeld ?_
          try simp only [zP, zQ, zS, zZ, zC]
          refine wt (i := 22) (oi := ⟨some 96, .load 3 (.tmp 95), 3, "law.go:71", #[⟨21, .data⟩], none⟩) (v := .int .i64 t) (Or.inl ⟨by rfl, fun w' hSw => by have hc := C1 w' hSw; go_simp⟩) hHeld ?_
          try simp only [zP, zQ, zS, zZ, zC]
          refine wpAnyH_ready (rs := [11]) (by kernel_rfl) (by simp) ?_
          refine AllReadyH.cons (o := ⟨some 85, .call { callee := .value (.func 20), args := #[.tmp 74, .tmp 79, .tmp 84], argTypes := #[9, 3, 3] }, 9, "law.go:71", #[⟨0, .data⟩, ⟨5, .data⟩, ⟨10, .data⟩], none⟩) rfl (fun K hK => ?_) AllReadyH.nil
          rw [if_pos (by rfl)]
          go_simp
          refine (HP.out V0).mono ?_
          rintro en Va ⟨rfl, hB7⟩
          dsimp only
          refine hK.out _ _ (link hHeld hB7) (fun hHeld => ?_)
          clear hK K
          try simp only [zP, zQ, zS, zZ, zC]
          refine wpAnyH_ready (rs := [23]) (by kernel_rfl) (by simp) ?_
          refine AllReadyH.cons (o := ⟨some 97, .call { callee := .value (.func 21), args := #[.tmp 86, .tmp 91, .tmp 96], argTypes := #[9, 3, 3] }, 9, "law.go:71", #[⟨12, .data⟩, ⟨17, .data⟩, ⟨22, .data⟩, ⟨11, .chain⟩], none⟩) rfl (fun K hK => ?_) AllReadyH.nil
          rw [if_pos (by rfl)]
          go_simp
          refine (HRP.out Va).mono ?_
          rintro en Vb ⟨rfl, hB8⟩
          dsimp only
          refine hK.out _ _ (link hHeld hB8) (fun hHeld => ?_)
          clear hK K
          try simp only [zP, zQ, zS, zZ, zC]
          refine wt (i := 24) (oi := ⟨some 98, .binOp .neq 9 (.tmp 85) (.tmp 97) 9, 4, "law.go:71", #[⟨11, .data⟩, ⟨23, .data⟩], none⟩) (v := .bool false) (Or.inl ⟨by rfl, fun w' hSw => by go_simp⟩) hHeld ?_
          try simp only [zP, zQ, zS, zZ, zC]
          refine wpAnyH_done (by kernel_rfl) ?_ _
          have BX := hHeld
          clear hHeld C0 C1
          go_wp2
          exact ⟨⟨j + 1, by omega, by go_num, BX⟩, by simp [intOf]; omega⟩
        · have hlt5 : ¬ j < 5 := by omega
          obtain rfl : j = 5 := by omega
          go_wp2
          exact ⟨⟨i + 1, by omega, by go_num, link hB hB3⟩, by simp [intOf]; omega⟩
    · have hlt : ¬ i < k := by omega
      obtain rfl : i = k := by omega
      go_wp2_with (go_at_call 14; refine (HLv.out _ (hG1.out.keep hB)).mono ?_; rintro en W9 ⟨rfl, hB9⟩)
      go_ret
      exact ⟨rfl, link hB1 (link hB hB9)⟩
end Go.Proofs.Ytehkgpefmjfifaa
