/-
  TokenCovers.
-/
import Derived.Test.YtehkgpefmjfifaaMo
import Derived.Test.YtehkgpefmjfifaaLc
namespace Go.Proofs.Ytehkgpefmjfifaa
open Go.RowKit
set_option linter.unusedVariables false
set_option linter.unusedSimpArgs false

/-- The number of a token, and where the one before ended. -/
def CovRel (l : List Tk) (m : Nat) (W : World) (v13 v14 : Value) (wr : World) : Prop := ∃ k : Nat, k ≤ m ∧ v13 = .int .i64 (prevEnd l k : Int) ∧ v14 = .int .i64 (k : Int) ∧ Below W.heap.size W wr
/-- A place between two; memory stands. -/
def BetRel (W : World) (a e : Nat) (v : Value) (wr : World) : Prop := ∃ j : Nat, a ≤ j ∧ j ≤ e ∧ v = .int .i64 (j : Int) ∧ wr = W
theorem prevEnd_le (bs : List Nat) : ∀ k, prevEnd (toks bs) k ≤ bs.length
  | 0 => Nat.zero_le _
  | k + 1 => by
    rcases h : (toks bs)[k]? with _ | t
    · show (match (toks bs)[k]? with | some t => t.2.1 | none => 0) ≤ _
      rw [h]; exact Nat.zero_le _
    · rw [prevEnd_next h]; exact (toks_in h).2.1
theorem wrap_small {x : Int} (h1 : 0 ≤ x) (h2 : x ≤ 1000000000) : IntKind.i64.wrap x = x := by simp [IntKind.wrap, IntKind.signed, IntKind.bits]; omega

set_option maxHeartbeats 8000000 in
set_option maxRecDepth 100000 in
theorem tokenCovers_any (A : Option Addr) (l : List Int) (n c : Nat) (hl : l.length = n) (how by_ : Int) (h1 : -9223372036854775808 ≤ how) (h2 : how ≤ 9223372036854775807) (h3 : -9223372036854775808 ≤ by_) (h4 : by_ ≤ 9223372036854775807) (raw : ByteArray) (w : World) (hA : IntsAt w A l) (hG : GM w) :
    Calls Try.prog 7 #[.slice A n c, .int .i64 how, .int .i64 by_, .string raw] w (Told w true) := by
  have HT := Lib.hid (texts_any A l n c hl how by_ h1 h2 h3 h4 raw _ rfl 600 (by omega) w hA)
  have HLv := Lib.hid (fun (V : World) (h : GM V) => lives_any V h)
  clear hl h1 h2 h3 h4 hA
  go_enter Try.func7, Try.ntmps7
  go_wp2_with (go_at_call 11; refine HT.out.mono ?_; rintro en W1 ⟨L, kk, q1, c1, hLk, hk5, hk6, hs, rfl, hc1, hAt, hB1⟩)
  have hG1 := Lib.hid (hG.keep hB1)
  have hLK := Lib.hid hLk
  clear HT hLk
  go_loopw [10] (fun v wr => NumRel W1 kk v wr) (fun v _ => kk - (intOf v).toNat)
  case atStart => exact ⟨0, Nat.zero_le _, rfl, Below.refl _ _⟩
  case round =>
    obtain ⟨i, hi, rfl, hB⟩ := hrel
    rcases Nat.lt_or_ge i kk with hlt | hge
    · obtain ⟨x, hx⟩ : ∃ x, L[i]? = some x := ⟨_, List.getElem?_eq_getElem (by rw [hLK.out]; exact hlt)⟩
      have hxs := hs x (List.mem_of_getElem? hx)
      obtain ⟨b1, off1, rfl, hLy⟩ := hAt.get (i := i) (by rw [hLK.out]; exact hlt)
      have c0 : wr.cell? ⟨b1, off1 + i, none⟩ = some (.string x) := by
        have := (hLy.keep hB).2 i x 0 _ hx rfl
        rwa [show strE.k = 1 from rfl, Nat.mul_one, Nat.add_zero] at this
      have hx9 : x.size ≤ 1000000000 := by omega
      have htl := toks_len (sb x)
      rw [sb_length] at htl
      obtain ⟨m, hm⟩ : ∃ m, (toks (sb x)).length = m := ⟨_, rfl⟩
      have hm9 : m ≤ 100000 := by omega
      have HS := Lib.hid (fun V : World => (split_any x _ rfl hx9 V).mono (fun _ _ h => MadeR.give (E := tkE) h hm))
      have HPa := Lib.hid (fun (f t : Int) (g1 : -9223372036854775808 ≤ f) (g2 : f ≤ 9223372036854775807) (g3 : -9223372036854775808 ≤ t) (g4 : t ≤ 9223372036854775807) (V : World) => part_any x hx9 f t g1 g2 g3 g4 V)
      have HVx := Lib.hid (fun (V : World) (h : GM V) => valid_any x _ rfl hx9 V h)
      have HN := Lib.hid hm
      clear hx hLy hx9 htl hm
      go_upto_region 7 with (go_at_call 18; refine (HS.out wr).mono ?_; rintro en W2 ⟨q2, c2, rfl, hc2, hA2, hB2⟩; replace hB := link hB hB2)
      have BW := Lib.hid (fun (V : World) (h : Below W2.heap.size W2 V) => link hB h)
      clear HS c0 hB
      obtain ⟨wo, rfl⟩ : ∃ wo, wo = wr := ⟨_, rfl⟩
      go_wp2
      go_loopw [13, 14] (fun v13 v14 wr => CovRel (toks (sb x)) m W2 v13 v14 wr) (fun _ v _ => m - (intOf v).toNat)
      case atStart => exact ⟨0, Nat.zero_le _, rfl, rfl, Below.refl _ _⟩
      case round =>
        obtain ⟨k, hk, rfl, rfl, hB2⟩ := hrel
        rcases Nat.lt_or_ge k m with hltk | hgek
        · obtain ⟨⟨ta, te, tk⟩, ht⟩ : ∃ a, (toks (sb x))[k]? = some a := ⟨_, List.getElem?_eq_getElem (by rw [HN.out]; exact hltk)⟩
          obtain ⟨b, off, rfl, hL⟩ := hA2.get (i := k) (by rw [HN.out]; exact hltk)
          have hT1 := tok_here ht
          obtain ⟨a, ha⟩ : ∃ a, prevEnd (toks (sb x)) k = a := ⟨_, rfl⟩
          rw [ha] at hT1 ⊢
          obtain ⟨t1, t2, t3, t4, t5, _, _, _⟩ := hT1
          have t1 : a ≤ ta := t1
          have t2 : ta < te := t2
          have t3 : te ≤ x.size := by rw [← sb_length]; exact t3
          have t4 : ∀ j, a ≤ j → j < ta → kdAt (sb x) j = 4 := t4
          have t5 : tk < 4 := t5
          have HBl := Lib.hid t4
          have HE := Lib.hid (show prevEnd (toks (sb x)) (k + 1) = te from prevEnd_next ht)
          have HLK := Lib.hid (fun h : ta + 1 < te => (show tk ≤ 1 from long_kind ht h))
          have HP := Lib.hid (fun V : World => by
            have h := HPa.out (k : Int) ((k : Int) + 1) (by omega) (by omega) (by omega) (by omega) V
            rw [show (k : Int) + 1 = ((k + 1 : Nat) : Int) from rfl, part_one ht] at h
            exact h)
          have HW1 := Lib.hid (wrap_small (x := (ta : Int) + 1) (by omega) (by omega))
          have HW2 := Lib.hid (wrap_small (x := (k : Int) + 1) (by omega) (by omega))
          have hbl := hL.1
          have C0 : ∀ w', Below W2.heap.size W2 w' → w'.cell? ⟨b, off + k * 3, none⟩ = some (.int .i64 (ta : Int)) := fun w' h => (h.cell (p := ⟨b, off + k * 3, none⟩) hbl).trans (hL.2 k (ta, te, tk) 0 _ ht rfl)
          have C1 : ∀ w', Below W2.heap.size W2 w' → w'.cell? ⟨b, off + k * 3 + 1, none⟩ = some (.int .i64 (te : Int)) := fun w' h => (h.cell (p := ⟨b, off + k * 3 + 1, none⟩) hbl).trans (hL.2 k (ta, te, tk) 1 _ ht rfl)
          have C2 : ∀ w', Below W2.heap.size W2 w' → w'.cell? ⟨b, off + k * 3 + 2, none⟩ = some (.int .i64 (tk : Int)) := fun w' h => (h.cell (p := ⟨b, off + k * 3 + 2, none⟩) hbl).trans (hL.2 k (ta, te, tk) 2 _ ht rfl)
          have C3' : ∀ (k0 pa pe pk : Nat), (toks (sb x))[k0]? = some (pa, pe, pk) → ∀ w', Below W2.heap.size W2 w' → w'.cell? ⟨b, off + k0 * 3 + 2, none⟩ = some (.int .i64 (pk : Int)) := fun k0 pa pe pk hp w' h => (h.cell (p := ⟨b, off + k0 * 3 + 2, none⟩) hbl).trans (hL.2 k0 (pa, pe, pk) 2 _ hp rfl)
          have HC3 := Lib.hid C3'
          have HHT := Lib.hid ht
          have HA := Lib.hid ha
          clear C3' hL ht t4 ha
          go_upto_region 11 with (fail)
          as_aux_lemma =>
            refine wp_region_held_drew (S := fun w' => Below W2.heap.size W2 w') (by kernel_rfl) (below_drew (hB2)) (fun _ => ?_)
            have hHeld : Below W2.heap.size W2 wr.drew := below_drew (hB2)
            generalize wr.drew = V0 at hHeld ⊢
            refine wt (i := 0) (oi := ⟨some 40, .move (.tmp 12), 33, "law.go:120", #[], none⟩) (v := .slice (some ⟨b, off, none⟩) m c2) (Or.inl ⟨by rfl, fun w' hSw => by go_simp⟩) hHeld ?_
            try simp only [zP, zQ, zS, zZ, zC]
            refine wt (i := 1) (oi := ⟨some 41, .move (.tmp 14), 3, "law.go:120", #[], none⟩) (v := .int .i64 (k : Int)) (Or.inl ⟨by rfl, fun w' hSw => by go_simp⟩) hHeld ?_
            try simp only [zP, zQ, zS, zZ, zC]
            refine wt (i := 2) (oi := ⟨some 42, .indexAddr 33 (.tmp 40) (.tmp 41), 0, "law.go:120", #[⟨0, .data⟩, ⟨1, .data⟩], none⟩) (v := .pointer (some ⟨b, off + k * 3, none⟩)) (Or.inl ⟨by rfl, fun w' hSw => by go_simp; try (intro hcm; exact absurd hcm (by omega))⟩) hHeld ?_
            try simp only [zP, zQ, zS, zZ, zC]
            refine wt (i := 3) (oi := ⟨some 43, .fieldAddr 52 (.tmp 42) 0, 0, "law.go:120", #[⟨2, .data⟩], none⟩) (v := .pointer (some ⟨b, off + k * 3, none⟩)) (Or.inl ⟨by rfl, fun w' hSw => by go_simp⟩) hHeld ?_
            try simp only [zP, zQ, zS, zZ, zC]
            refine wt (i := 4) (oi := ⟨some 44, .load 3 (.tmp 43), 3, "law.go:120", #[⟨3, .data⟩], none⟩) (v := .int .i64 (ta : Int)) (Or.inl ⟨by rfl, fun w' hSw => by have hc := C0 w' hSw; go_simp⟩) hHeld ?_
            try simp only [zP, zQ, zS, zZ, zC]
            refine wt (i := 5) (oi := ⟨some 45, .move (.tmp 13), 3, "law.go:120", #[], none⟩) (v := .int .i64 (a : Int)) (Or.inl ⟨by rfl, fun w' hSw => by go_simp⟩) hHeld ?_
            try simp only [zP, zQ, zS, zZ, zC]
            refine wt (i := 6) (oi := ⟨some 46, .binOp .lss 3 (.tmp 44) (.tmp 45) 3, 4, "law.go:120", #[⟨4, .data⟩, ⟨5, .data⟩], none⟩) (v := .bool false) (Or.inl ⟨by rfl, fun w' hSw => by go_simp⟩) hHeld ?_
            try simp only [zP, zQ, zS, zZ, zC]
            refine wt (i := 7) (oi := ⟨some 47, .move (.tmp 46), 4, "law.go:120", #[⟨6, .data⟩], none⟩) (v := .bool false) (Or.inl ⟨by rfl, fun w' hSw => by go_simp⟩) hHeld ?_
            try simp only [zP, zQ, zS, zZ, zC]
            refine wt (i := 8) (oi := ⟨some 48, .move (.tmp 12), 33, "law.go:120", #[⟨7, .guard⟩], some (7, false)⟩) (v := .slice (some ⟨b, off, none⟩) m c2) (Or.inl ⟨by rfl, fun w' hSw => by go_simp⟩) hHeld ?_
            try simp only [zP, zQ, zS, zZ, zC]
            refine wt (i := 9) (oi := ⟨some 49, .move (.tmp 14), 3, "law.go:120", #[⟨7, .guard⟩], some (7, false)⟩) (v := .int .i64 (k : Int)) (Or.inl ⟨by rfl, fun w' hSw => by go_simp⟩) hHeld ?_
            try simp only [zP, zQ, zS, zZ, zC]
            refine wt (i := 10) (oi := ⟨some 50, .indexAddr 33 (.tmp 48) (.tmp 49), 0, "law.go:120", #[⟨8, .data⟩, ⟨9, .data⟩, ⟨7, .guard⟩], some (7, false)⟩) (v := .pointer (some ⟨b, off + k * 3, none⟩)) (Or.inl ⟨by rfl, fun w' hSw => by go_simp; try (intro hcm; exact absurd hcm (by omega))⟩) hHeld ?_
            try simp only [zP, zQ, zS, zZ, zC]
            refine wt (i := 11) (oi := ⟨some 51, .fieldAddr 52 (.tmp 50) 1, 0, "law.go:120", #[⟨10, .data⟩, ⟨7, .guard⟩], some (7, false)⟩) (v := .pointer (some ⟨b, off + k * 3 + 1, none⟩)) (Or.inl ⟨by rfl, fun w' hSw => by go_simp⟩) hHeld ?_
            try simp only [zP, zQ, zS, zZ, zC]
            refine wt (i := 12) (oi := ⟨some 52, .load 3 (.tmp 51), 3, "law.go:120", #[⟨11, .data⟩, ⟨7, .guard⟩], some (7, false)⟩) (v := .int .i64 (te : Int)) (Or.inl ⟨by rfl, fun w' hSw => by have hc := C1 w' hSw; go_simp⟩) hHeld ?_
            try simp only [zP, zQ, zS, zZ, zC]
            refine wt (i := 13) (oi := ⟨some 53, .move (.tmp 12), 33, "law.go:120", #[⟨7, .guard⟩], some (7, false)⟩) (v := .slice (some ⟨b, off, none⟩) m c2) (Or.inl ⟨by rfl, fun w' hSw => by go_simp⟩) hHeld ?_
            try simp only [zP, zQ, zS, zZ, zC]
            refine wt (i := 14) (oi := ⟨some 54, .move (.tmp 14), 3, "law.go:120", #[⟨7, .guard⟩], some (7, false)⟩) (v := .int .i64 (k : Int)) (Or.inl ⟨by rfl, fun w' hSw => by go_simp⟩) hHeld ?_
            try simp only [zP, zQ, zS, zZ, zC]
            refine wt (i := 15) (oi := ⟨some 55, .indexAddr 33 (.tmp 53) (.tmp 54), 0, "law.go:120", #[⟨13, .data⟩, ⟨14, .data⟩, ⟨7, .guard⟩], some (7, false)⟩) (v := .pointer (some ⟨b, off + k * 3, none⟩)) (Or.inl ⟨by rfl, fun w' hSw => by go_simp; try (intro hcm; exact absurd hcm (by omega))⟩) hHeld ?_
            try simp only [zP, zQ, zS, zZ, zC]
            refine wt (i := 16) (oi := ⟨some 56, .fieldAddr 52 (.tmp 55) 0, 0, "law.go:120", #[⟨15, .data⟩, ⟨7, .guard⟩], some (7, false)⟩) (v := .pointer (some ⟨b, off + k * 3, none⟩)) (Or.inl ⟨by rfl, fun w' hSw => by go_simp⟩) hHeld ?_
            try simp only [zP, zQ, zS, zZ, zC]
            refine wt (i := 17) (oi := ⟨some 57, .load 3 (.tmp 56), 3, "law.go:120", #[⟨16, .data⟩, ⟨7, .guard⟩], some (7, false)⟩) (v := .int .i64 (ta : Int)) (Or.inl ⟨by rfl, fun w' hSw => by have hc := C0 w' hSw; go_simp⟩) hHeld ?_
            try simp only [zP, zQ, zS, zZ, zC]
            refine wt (i := 18) (oi := ⟨some 58, .binOp .leq 3 (.tmp 52) (.tmp 57) 3, 4, "law.go:120", #[⟨12, .data⟩, ⟨17, .data⟩, ⟨7, .guard⟩], some (7, false)⟩) (v := .bool false) (Or.inl ⟨by rfl, fun w' hSw => by go_simp⟩) hHeld ?_
            try simp only [zP, zQ, zS, zZ, zC]
            refine wt (i := 19) (oi := ⟨some 59, .pick (.tmp 47) (.const (Value.bool true)) (.tmp 58), 4, "law.go:120", #[⟨7, .data⟩, ⟨18, .data⟩], none⟩) (v := .bool false) (Or.inl ⟨by rfl, fun w' hSw => by go_simp⟩) hHeld ?_
            try simp only [zP, zQ, zS, zZ, zC]
            refine wt (i := 20) (oi := ⟨some 60, .move (.tmp 59), 4, "law.go:120", #[⟨19, .data⟩, ⟨7, .chain⟩], none⟩) (v := .bool false) (Or.inl ⟨by rfl, fun w' hSw => by go_simp⟩) hHeld ?_
            try simp only [zP, zQ, zS, zZ, zC]
            refine wt (i := 21) (oi := ⟨some 61, .move (.tmp 12), 33, "law.go:120", #[⟨20, .guard⟩], some (20, false)⟩) (v := .slice (some ⟨b, off, none⟩) m c2) (Or.inl ⟨by rfl, fun w' hSw => by go_simp⟩) hHeld ?_
            try simp only [zP, zQ, zS, zZ, zC]
            refine wt (i := 22) (oi := ⟨some 62, .move (.tmp 14), 3, "law.go:120", #[⟨20, .guard⟩], some (20, false)⟩) (v := .int .i64 (k : Int)) (Or.inl ⟨by rfl, fun w' hSw => by go_simp⟩) hHeld ?_
            try simp only [zP, zQ, zS, zZ, zC]
            refine wt (i := 23) (oi := ⟨some 63, .indexAddr 33 (.tmp 61) (.tmp 62), 0, "law.go:120", #[⟨21, .data⟩, ⟨22, .data⟩, ⟨20, .guard⟩], some (20, false)⟩) (v := .pointer (some ⟨b, off + k * 3, none⟩)) (Or.inl ⟨by rfl, fun w' hSw => by go_simp; try (intro hcm; exact absurd hcm (by omega))⟩) hHeld ?_
            try simp only [zP, zQ, zS, zZ, zC]
            refine wt (i := 24) (oi := ⟨some 64, .fieldAddr 52 (.tmp 63) 1, 0, "law.go:120", #[⟨23, .data⟩, ⟨20, .guard⟩], some (20, false)⟩) (v := .pointer (some ⟨b, off + k * 3 + 1, none⟩)) (Or.inl ⟨by rfl, fun w' hSw => by go_simp⟩) hHeld ?_
            try simp only [zP, zQ, zS, zZ, zC]
            refine wt (i := 25) (oi := ⟨some 65, .load 3 (.tmp 64), 3, "law.go:120", #[⟨24, .data⟩, ⟨20, .guard⟩], some (20, false)⟩) (v := .int .i64 (te : Int)) (Or.inl ⟨by rfl, fun w' hSw => by have hc := C1 w' hSw; go_simp⟩) hHeld ?_
            try simp only [zP, zQ, zS, zZ, zC]
            refine wt (i := 26) (oi := ⟨some 66, .move (.tmp 11), 9, "law.go:120", #[⟨20, .guard⟩], some (20, false)⟩) (v := .string x) (Or.inl ⟨by rfl, fun w' hSw => by go_simp⟩) hHeld ?_
            try simp only [zP, zQ, zS, zZ, zC]
            refine wt (i := 27) (oi := ⟨some 67, .call { callee := .builtin .len, args := #[.tmp 66], argTypes := #[9] }, 3, "law.go:120", #[⟨26, .data⟩, ⟨20, .guard⟩], some (20, false)⟩) (v := .int .i64 (x.size : Int)) (Or.inl ⟨by rfl, fun w' hSw => by go_simp⟩) hHeld ?_
            try simp only [zP, zQ, zS, zZ, zC]
            refine wt (i := 28) (oi := ⟨some 68, .binOp .gtr 3 (.tmp 65) (.tmp 67) 3, 4, "law.go:120", #[⟨25, .data⟩, ⟨27, .data⟩, ⟨20, .guard⟩], some (20, false)⟩) (v := .bool false) (Or.inl ⟨by rfl, fun w' hSw => by go_simp⟩) hHeld ?_
            try simp only [zP, zQ, zS, zZ, zC]
            refine wt (i := 29) (oi := ⟨some 69, .pick (.tmp 60) (.const (Value.bool true)) (.tmp 68), 4, "law.go:120", #[⟨20, .data⟩, ⟨28, .data⟩], none⟩) (v := .bool false) (Or.inl ⟨by rfl, fun w' hSw => by go_simp⟩) hHeld ?_
            try simp only [zP, zQ, zS, zZ, zC]
            refine wt (i := 30) (oi := ⟨some 70, .move (.tmp 69), 4, "law.go:120", #[⟨29, .data⟩, ⟨20, .chain⟩], none⟩) (v := .bool false) (Or.inl ⟨by rfl, fun w' hSw => by go_simp⟩) hHeld ?_
            try simp only [zP, zQ, zS, zZ, zC]
            refine wt (i := 31) (oi := ⟨some 71, .move (.tmp 12), 33, "law.go:120", #[⟨30, .guard⟩], some (30, false)⟩) (v := .slice (some ⟨b, off, none⟩) m c2) (Or.inl ⟨by rfl, fun w' hSw => by go_simp⟩) hHeld ?_
            try simp only [zP, zQ, zS, zZ, zC]
            refine wt (i := 32) (oi := ⟨some 72, .move (.tmp 14), 3, "law.go:120", #[⟨30, .guard⟩], some (30, false)⟩) (v := .int .i64 (k : Int)) (Or.inl ⟨by rfl, fun w' hSw => by go_simp⟩) hHeld ?_
            try simp only [zP, zQ, zS, zZ, zC]
            refine wt (i := 33) (oi := ⟨some 73, .indexAddr 33 (.tmp 71) (.tmp 72), 0, "law.go:120", #[⟨31, .data⟩, ⟨32, .data⟩, ⟨30, .guard⟩], some (30, false)⟩) (v := .pointer (some ⟨b, off + k * 3, none⟩)) (Or.inl ⟨by rfl, fun w' hSw => by go_simp; try (intro hcm; exact absurd hcm (by omega))⟩) hHeld ?_
            try simp only [zP, zQ, zS, zZ, zC]
            refine wt (i := 34) (oi := ⟨some 74, .fieldAddr 52 (.tmp 73) 2, 0, "law.go:120", #[⟨33, .data⟩, ⟨30, .guard⟩], some (30, false)⟩) (v := .pointer (some ⟨b, off + k * 3 + 2, none⟩)) (Or.inl ⟨by rfl, fun w' hSw => by go_simp⟩) hHeld ?_
            try simp only [zP, zQ, zS, zZ, zC]
            refine wt (i := 35) (oi := ⟨some 75, .load 3 (.tmp 74), 3, "law.go:120", #[⟨34, .data⟩, ⟨30, .guard⟩], some (30, false)⟩) (v := .int .i64 (tk : Int)) (Or.inl ⟨by rfl, fun w' hSw => by have hc := C2 w' hSw; go_simp⟩) hHeld ?_
            try simp only [zP, zQ, zS, zZ, zC]
            refine wt (i := 36) (oi := ⟨some 76, .binOp .lss 3 (.tmp 75) (.const (Value.int IntKind.i64 0)) 3, 4, "law.go:120", #[⟨35, .data⟩, ⟨30, .guard⟩], some (30, false)⟩) (v := .bool false) (Or.inl ⟨by rfl, fun w' hSw => by go_simp⟩) hHeld ?_
            try simp only [zP, zQ, zS, zZ, zC]
            refine wt (i := 37) (oi := ⟨some 77, .pick (.tmp 70) (.const (Value.bool true)) (.tmp 76), 4, "law.go:120", #[⟨30, .data⟩, ⟨36, .data⟩], none⟩) (v := .bool false) (Or.inl ⟨by rfl, fun w' hSw => by go_simp⟩) hHeld ?_
            try simp only [zP, zQ, zS, zZ, zC]
            refine wt (i := 38) (oi := ⟨some 78, .move (.tmp 77), 4, "law.go:120", #[⟨37, .data⟩, ⟨30, .chain⟩], none⟩) (v := .bool false) (Or.inl ⟨by rfl, fun w' hSw => by go_simp⟩) hHeld ?_
            try simp only [zP, zQ, zS, zZ, zC]
            refine wt (i := 39) (oi := ⟨some 79, .move (.tmp 12), 33, "law.go:120", #[⟨38, .guard⟩], some (38, false)⟩) (v := .slice (some ⟨b, off, none⟩) m c2) (Or.inl ⟨by rfl, fun w' hSw => by go_simp⟩) hHeld ?_
            try simp only [zP, zQ, zS, zZ, zC]
            refine wt (i := 40) (oi := ⟨some 80, .move (.tmp 14), 3, "law.go:120", #[⟨38, .guard⟩], some (38, false)⟩) (v := .int .i64 (k : Int)) (Or.inl ⟨by rfl, fun w' hSw => by go_simp⟩) hHeld ?_
            try simp only [zP, zQ, zS, zZ, zC]
            refine wt (i := 41) (oi := ⟨some 81, .indexAddr 33 (.tmp 79) (.tmp 80), 0, "law.go:120", #[⟨39, .data⟩, ⟨40, .data⟩, ⟨38, .guard⟩], some (38, false)⟩) (v := .pointer (some ⟨b, off + k * 3, none⟩)) (Or.inl ⟨by rfl, fun w' hSw => by go_simp; try (intro hcm; exact absurd hcm (by omega))⟩) hHeld ?_
            try simp only [zP, zQ, zS, zZ, zC]
            refine wt (i := 42) (oi := ⟨some 82, .fieldAddr 52 (.tmp 81) 2, 0, "law.go:120", #[⟨41, .data⟩, ⟨38, .guard⟩], some (38, false)⟩) (v := .pointer (some ⟨b, off + k * 3 + 2, none⟩)) (Or.inl ⟨by rfl, fun w' hSw => by go_simp⟩) hHeld ?_
            try simp only [zP, zQ, zS, zZ, zC]
            refine wt (i := 43) (oi := ⟨some 83, .load 3 (.tmp 82), 3, "law.go:120", #[⟨42, .data⟩, ⟨38, .guard⟩], some (38, false)⟩) (v := .int .i64 (tk : Int)) (Or.inl ⟨by rfl, fun w' hSw => by have hc := C2 w' hSw; go_simp⟩) hHeld ?_
            try simp only [zP, zQ, zS, zZ, zC]
            refine wt (i := 44) (oi := ⟨some 84, .binOp .geq 3 (.tmp 83) (.const (Value.int IntKind.i64 4)) 3, 4, "law.go:120", #[⟨43, .data⟩, ⟨38, .guard⟩], some (38, false)⟩) (v := .bool false) (Or.inl ⟨by rfl, fun w' hSw => by go_simp; omega⟩) hHeld ?_
            try simp only [zP, zQ, zS, zZ, zC]
            refine wt (i := 45) (oi := ⟨some 85, .pick (.tmp 78) (.const (Value.bool true)) (.tmp 84), 4, "law.go:120", #[⟨38, .data⟩, ⟨44, .data⟩], none⟩) (v := .bool false) (Or.inl ⟨by rfl, fun w' hSw => by go_simp⟩) hHeld ?_
            try simp only [zP, zQ, zS, zZ, zC]
            refine wpAnyH_done (by kernel_rfl) ?_ _
            have BX := hHeld
            clear hHeld 
            go_wp2
            obtain ⟨wa, rfl⟩ : ∃ wa, wa = wr := ⟨_, rfl⟩
            go_loopw [15] (fun v wr => BetRel V0 a ta v wr) (fun v _ => ta - (intOf v).toNat)
            case atStart => exact ⟨a, Nat.le_refl _, t1, rfl, rfl⟩
            case round =>
              obtain ⟨j, hja, hje, rfl, rfl⟩ := hrel
              rcases Nat.lt_or_ge j ta with hjt | hjt
              · have hjx : j < x.size := by omega
                have c0 := C0 wr BX
                have hby : (((x[j]'hjx).toNat : Int) != 32) = false := by
                  obtain ⟨hg, _⟩ := sb_get hjx
                  have e := kdAt_blank hg (HBl.out j hja hjt)
                  simp [e]
                go_wp2
                exact ⟨⟨j + 1, by omega, by omega, by go_num, rfl⟩, by simp [intOf]; omega⟩
              · have hjn : ¬ j < ta := by omega
                have c0 := C0 wr BX
                go_upto_region 18 with (fail)
                clear c0
                as_aux_lemma =>
                  obtain ⟨k0, pa, pe, pk, hpp⟩ : ∃ k0 pa pe pk : Nat, 0 < k → (k = k0 + 1 ∧ (toks (sb x))[k0]? = some (pa, pe, pk)) := by
                    rcases Nat.eq_zero_or_pos k with h | h
                    · exact ⟨0, 0, 0, 0, fun h' => by omega⟩
                    · obtain ⟨⟨pa, pe, pk⟩, hp⟩ : ∃ a, (toks (sb x))[k - 1]? = some a := ⟨_, List.getElem?_eq_getElem (by rw [HN.out]; omega)⟩
                      exact ⟨k - 1, pa, pe, pk, fun _ => ⟨by omega, hp⟩⟩
                  obtain ⟨b1, b1t, b1f⟩ : ∃ b1 : Bool, (b1 = true → 0 < k) ∧ (b1 = false → ¬ 0 < k) := ⟨decide (0 < k), of_decide_eq_true, of_decide_eq_false⟩
                  obtain ⟨b2, b2t, b2f⟩ : ∃ b2 : Bool, (b2 = true → (ta : Int) = (a : Int)) ∧ (b2 = false → ¬ (ta : Int) = (a : Int)) := ⟨decide ((ta : Int) = (a : Int)), of_decide_eq_true, of_decide_eq_false⟩
                  obtain ⟨b3, b3t, b3f⟩ : ∃ b3 : Bool, (b3 = true → (tk : Int) = (pk : Int)) ∧ (b3 = false → ¬ (tk : Int) = (pk : Int)) := ⟨decide ((tk : Int) = (pk : Int)), of_decide_eq_true, of_decide_eq_false⟩
                  obtain ⟨g, gt, gf⟩ : ∃ g : Bool, (g = true → ta + 1 < te) ∧ (g = false → ¬ ta + 1 < te) := ⟨decide (ta + 1 < te), of_decide_eq_true, of_decide_eq_false⟩
                  obtain ⟨p1, p1a, p1b, p1t⟩ : ∃ p1 : Bool, (b1 = false → p1 = false) ∧ (b1 = true → p1 = b2) ∧ (p1 = true → b1 = true ∧ b2 = true) := ⟨b1 && b2, by cases b1 <;> simp, by cases b1 <;> simp, by cases b1 <;> cases b2 <;> simp⟩
                  obtain ⟨p2, p2a, p2b, p2t⟩ : ∃ p2 : Bool, (p1 = false → p2 = false) ∧ (p1 = true → p2 = b3) ∧ (p2 = true → p1 = true ∧ b3 = true) := ⟨p1 && b3, by cases p1 <;> simp, by cases p1 <;> simp, by cases p1 <;> cases b3 <;> simp⟩
                  have HKK := Lib.hid (fun h : p1 = true => (show (k : Int) = (k0 : Int) + 1 from by have := (hpp (b1t (p1t h).1)).1; omega))
                  have HKW := Lib.hid (fun h : p1 = true => (show IntKind.i64.wrap (k0 : Int) = (k0 : Int) from wrap_small (by omega) (by have := (hpp (b1t (p1t h).1)).1; omega)))
                  have HKM := Lib.hid (fun h : p1 = true => (show k0 < m from by have := (hpp (b1t (p1t h).1)).1; omega))
                  have HC := Lib.hid (fun h : p1 = true => HC3.out k0 pa pe pk (hpp (b1t (p1t h).1)).2)
                  have HTK := Lib.hid (fun h : p2 = true => (show ¬ tk ≤ 1 from by
                    obtain ⟨e1, e2⟩ := hpp (b1t (p1t (p2t h).1).1)
                    have hpe : a = pe := by rw [← HA.out, e1]; exact prevEnd_next e2
                    have := touch_kind e2 (e1 ▸ HHT.out) ((Int.ofNat.inj (b2t (p1t (p2t h).1).2)).trans hpe) (Int.ofNat.inj (b3t (p2t h).2))
                    show ¬ tk ≤ 1
                    have : 1 < tk := this
                    omega))
                  have HLK1 := Lib.hid (fun h : g = true => (show ¬ 1 < tk from by have := HLK.out (gt h); omega))
                  have p1t := fun h : p1 = true => b1t (p1t h).1
                  clear hpp HC3 HHT HA p2t HLK
                  replace p1a := Lib.hid p1a
                  replace p1b := Lib.hid p1b
                  replace p1t := Lib.hid p1t
                  replace p2a := Lib.hid p2a
                  replace p2b := Lib.hid p2b
                  replace b1f := Lib.hid b1f
                  replace b1t := Lib.hid b1t
                  replace b2f := Lib.hid b2f
                  replace b2t := Lib.hid b2t
                  replace b3f := Lib.hid b3f
                  replace b3t := Lib.hid b3t
                  replace gf := Lib.hid gf
                  replace gt := Lib.hid gt
                  refine wp_region_held_drew (S := fun w' => Below W2.heap.size W2 w') (by kernel_rfl) (below_drew (BX)) (fun _ => ?_)
                  have hHeld : Below W2.heap.size W2 wr.drew := below_drew (BX)
                  generalize wr.drew = V1 at hHeld ⊢
                  refine wt (i := 0) (oi := ⟨some 100, .move (.tmp 14), 3, "law.go:128", #[], none⟩) (v := .int .i64 (k : Int)) (Or.inl ⟨by rfl, fun w' hSw => by go_simp⟩) hHeld ?_
                  try simp only [zP, zQ, zS, zZ, zC]
                  refine wt (i := 1) (oi := ⟨some 101, .binOp .gtr 3 (.tmp 100) (.const (Value.int IntKind.i64 0)) 3, 4, "law.go:128", #[⟨0, .data⟩], none⟩) (v := .bool b1) (by cases b1; (· (have hb := b1f.out rfl; exact Or.inl ⟨by rfl, fun w' hSw => by go_simp⟩)); (· (have hb := b1t.out rfl; exact Or.inl ⟨by rfl, fun w' hSw => by go_simp⟩))) hHeld ?_
                  try simp only [zP, zQ, zS, zZ, zC]
                  refine wt (i := 2) (oi := ⟨some 102, .move (.tmp 101), 4, "law.go:128", #[⟨1, .data⟩], none⟩) (v := .bool b1) (Or.inl ⟨by rfl, fun w' hSw => by go_simp⟩) hHeld ?_
                  try simp only [zP, zQ, zS, zZ, zC]
                  refine wt (i := 3) (oi := ⟨some 103, .move (.tmp 12), 33, "law.go:128", #[⟨2, .guard⟩], some (2, true)⟩) (v := bif b1 then .slice (some ⟨b, off, none⟩) m c2 else undef) (by cases b1; (· exact Or.inr ⟨by rfl, rfl⟩); (· (exact Or.inl ⟨by rfl, fun w' hSw => by go_simp⟩))) hHeld ?_
                  try simp only [zP, zQ, zS, zZ, zC]
                  refine wt (i := 4) (oi := ⟨some 104, .move (.tmp 14), 3, "law.go:128", #[⟨2, .guard⟩], some (2, true)⟩) (v := bif b1 then .int .i64 (k : Int) else undef) (by cases b1; (· exact Or.inr ⟨by rfl, rfl⟩); (· (exact Or.inl ⟨by rfl, fun w' hSw => by go_simp⟩))) hHeld ?_
                  try simp only [zP, zQ, zS, zZ, zC]
                  refine wt (i := 5) (oi := ⟨some 105, .indexAddr 33 (.tmp 103) (.tmp 104), 0, "law.go:128", #[⟨3, .data⟩, ⟨4, .data⟩, ⟨2, .guard⟩], some (2, true)⟩) (v := bif b1 then .pointer (some ⟨b, off + k * 3, none⟩) else undef) (by cases b1; (· exact Or.inr ⟨by rfl, rfl⟩); (· (have hb := b1t.out rfl; exact Or.inl ⟨by rfl, fun w' hSw => by go_simp; try (intro hcm; exact absurd hcm (by omega))⟩))) hHeld ?_
                  try simp only [zP, zQ, zS, zZ, zC]
                  refine wt (i := 6) (oi := ⟨some 106, .fieldAddr 52 (.tmp 105) 0, 0, "law.go:128", #[⟨5, .data⟩, ⟨2, .guard⟩], some (2, true)⟩) (v := bif b1 then .pointer (some ⟨b, off + k * 3, none⟩) else undef) (by cases b1; (· exact Or.inr ⟨by rfl, rfl⟩); (· (exact Or.inl ⟨by rfl, fun w' hSw => by go_simp⟩))) hHeld ?_
                  try simp only [zP, zQ, zS, zZ, zC]
                  refine wt (i := 7) (oi := ⟨some 107, .load 3 (.tmp 106), 3, "law.go:128", #[⟨6, .data⟩, ⟨2, .guard⟩], some (2, true)⟩) (v := bif b1 then .int .i64 (ta : Int) else undef) (by cases b1; (· exact Or.inr ⟨by rfl, rfl⟩); (· (exact Or.inl ⟨by rfl, fun w' hSw => by have hc := C0 w' hSw; go_simp⟩))) hHeld ?_
                  try simp only [zP, zQ, zS, zZ, zC]
                  refine wt (i := 8) (oi := ⟨some 108, .move (.tmp 13), 3, "law.go:128", #[⟨2, .guard⟩], some (2, true)⟩) (v := bif b1 then .int .i64 (a : Int) else undef) (by cases b1; (· exact Or.inr ⟨by rfl, rfl⟩); (· (exact Or.inl ⟨by rfl, fun w' hSw => by go_simp⟩))) hHeld ?_
                  try simp only [zP, zQ, zS, zZ, zC]
                  refine wt (i := 9) (oi := ⟨some 109, .binOp .eql 3 (.tmp 107) (.tmp 108) 3, 4, "law.go:128", #[⟨7, .data⟩, ⟨8, .data⟩, ⟨2, .guard⟩], some (2, true)⟩) (v := bif b1 then .bool b2 else undef) (by cases b1; (· exact Or.inr ⟨by rfl, rfl⟩); (· (cases b2; (· (have hb2 := b2f.out rfl; exact Or.inl ⟨by rfl, fun w' hSw => by go_simp⟩)); have hb2 := b2t.out rfl; exact Or.inl ⟨by rfl, fun w' hSw => by go_simp⟩))) hHeld ?_
                  try simp only [zP, zQ, zS, zZ, zC]
                  refine wt (i := 10) (oi := ⟨some 110, .pick (.tmp 102) (.tmp 109) (.const (Value.bool false)), 4, "law.go:128", #[⟨2, .data⟩, ⟨9, .data⟩], none⟩) (v := .bool p1) (by cases b1; (· (obtain rfl := p1a.out rfl; exact Or.inl ⟨by rfl, fun w' hSw => by go_simp⟩)); (· (obtain rfl := p1b.out rfl; exact Or.inl ⟨by rfl, fun w' hSw => by go_simp⟩))) hHeld ?_
                  try simp only [zP, zQ, zS, zZ, zC]
                  refine wt (i := 11) (oi := ⟨some 111, .move (.tmp 110), 4, "law.go:128", #[⟨10, .data⟩, ⟨2, .chain⟩], none⟩) (v := .bool p1) (Or.inl ⟨by rfl, fun w' hSw => by go_simp⟩) hHeld ?_
                  try simp only [zP, zQ, zS, zZ, zC]
                  refine wt (i := 12) (oi := ⟨some 112, .move (.tmp 12), 33, "law.go:128", #[⟨11, .guard⟩], some (11, true)⟩) (v := bif p1 then .slice (some ⟨b, off, none⟩) m c2 else undef) (by cases p1; (· exact Or.inr ⟨by rfl, rfl⟩); (· (exact Or.inl ⟨by rfl, fun w' hSw => by go_simp⟩))) hHeld ?_
                  try simp only [zP, zQ, zS, zZ, zC]
                  refine wt (i := 13) (oi := ⟨some 113, .move (.tmp 14), 3, "law.go:128", #[⟨11, .guard⟩], some (11, true)⟩) (v := bif p1 then .int .i64 (k : Int) else undef) (by cases p1; (· exact Or.inr ⟨by rfl, rfl⟩); (· (exact Or.inl ⟨by rfl, fun w' hSw => by go_simp⟩))) hHeld ?_
                  try simp only [zP, zQ, zS, zZ, zC]
                  refine wt (i := 14) (oi := ⟨some 114, .indexAddr 33 (.tmp 112) (.tmp 113), 0, "law.go:128", #[⟨12, .data⟩, ⟨13, .data⟩, ⟨11, .guard⟩], some (11, true)⟩) (v := bif p1 then .pointer (some ⟨b, off + k * 3, none⟩) else undef) (by cases p1; (· exact Or.inr ⟨by rfl, rfl⟩); (· (have hb := p1t.out rfl; exact Or.inl ⟨by rfl, fun w' hSw => by go_simp; try (intro hcm; exact absurd hcm (by omega))⟩))) hHeld ?_
                  try simp only [zP, zQ, zS, zZ, zC]
                  refine wt (i := 15) (oi := ⟨some 115, .fieldAddr 52 (.tmp 114) 2, 0, "law.go:128", #[⟨14, .data⟩, ⟨11, .guard⟩], some (11, true)⟩) (v := bif p1 then .pointer (some ⟨b, off + k * 3 + 2, none⟩) else undef) (by cases p1; (· exact Or.inr ⟨by rfl, rfl⟩); (· (exact Or.inl ⟨by rfl, fun w' hSw => by go_simp⟩))) hHeld ?_
                  try simp only [zP, zQ, zS, zZ, zC]
                  refine wt (i := 16) (oi := ⟨some 116, .load 3 (.tmp 115), 3, "law.go:128", #[⟨15, .data⟩, ⟨11, .guard⟩], some (11, true)⟩) (v := bif p1 then .int .i64 (tk : Int) else undef) (by cases p1; (· exact Or.inr ⟨by rfl, rfl⟩); (· (exact Or.inl ⟨by rfl, fun w' hSw => by have hc := C2 w' hSw; go_simp⟩))) hHeld ?_
                  try simp only [zP, zQ, zS, zZ, zC]
                  refine wt (i := 17) (oi := ⟨some 117, .move (.tmp 12), 33, "law.go:128", #[⟨11, .guard⟩], some (11, true)⟩) (v := bif p1 then .slice (some ⟨b, off, none⟩) m c2 else undef) (by cases p1; (· exact Or.inr ⟨by rfl, rfl⟩); (· (exact Or.inl ⟨by rfl, fun w' hSw => by go_simp⟩))) hHeld ?_
                  try simp only [zP, zQ, zS, zZ, zC]
                  refine wt (i := 18) (oi := ⟨some 118, .move (.tmp 14), 3, "law.go:128", #[⟨11, .guard⟩], some (11, true)⟩) (v := bif p1 then .int .i64 (k : Int) else undef) (by cases p1; (· exact Or.inr ⟨by rfl, rfl⟩); (· (exact Or.inl ⟨by rfl, fun w' hSw => by go_simp⟩))) hHeld ?_
                  try simp only [zP, zQ, zS, zZ, zC]
                  refine wt (i := 19) (oi := ⟨some 119, .binOp .sub 3 (.tmp 118) (.const (Value.int IntKind.i64 1)) 3, 3, "law.go:128", #[⟨18, .data⟩, ⟨11, .guard⟩], some (11, true)⟩) (v := bif p1 then .int .i64 (k0 : Int) else undef) (by cases p1; (· exact Or.inr ⟨by rfl, rfl⟩); (· (have hw := HKK.out rfl; have hw2 := HKW.out rfl; exact Or.inl ⟨by rfl, fun w' hSw => by go_simp⟩))) hHeld ?_
                  try simp only [zP, zQ, zS, zZ, zC]
                  refine wt (i := 20) (oi := ⟨some 120, .indexAddr 33 (.tmp 117) (.tmp 119), 0, "law.go:128", #[⟨17, .data⟩, ⟨19, .data⟩, ⟨11, .guard⟩], some (11, true)⟩) (v := bif p1 then .pointer (some ⟨b, off + k0 * 3, none⟩) else undef) (by cases p1; (· exact Or.inr ⟨by rfl, rfl⟩); (· (have hb := HKM.out rfl; exact Or.inl ⟨by rfl, fun w' hSw => by go_simp; try (intro hcm; exact absurd hcm (by omega))⟩))) hHeld ?_
                  try simp only [zP, zQ, zS, zZ, zC]
                  refine wt (i := 21) (oi := ⟨some 121, .fieldAddr 52 (.tmp 120) 2, 0, "law.go:128", #[⟨20, .data⟩, ⟨11, .guard⟩], some (11, true)⟩) (v := bif p1 then .pointer (some ⟨b, off + k0 * 3 + 2, none⟩) else undef) (by cases p1; (· exact Or.inr ⟨by rfl, rfl⟩); (· (exact Or.inl ⟨by rfl, fun w' hSw => by go_simp⟩))) hHeld ?_
                  try simp only [zP, zQ, zS, zZ, zC]
                  refine wt (i := 22) (oi := ⟨some 122, .load 3 (.tmp 121), 3, "law.go:128", #[⟨21, .data⟩, ⟨11, .guard⟩], some (11, true)⟩) (v := bif p1 then .int .i64 (pk : Int) else undef) (by cases p1; (· exact Or.inr ⟨by rfl, rfl⟩); (· (exact Or.inl ⟨by rfl, fun w' hSw => by have hc := HC.out rfl w' hSw; go_simp⟩))) hHeld ?_
                  try simp only [zP, zQ, zS, zZ, zC]
                  refine wt (i := 23) (oi := ⟨some 123, .binOp .eql 3 (.tmp 116) (.tmp 122) 3, 4, "law.go:128", #[⟨16, .data⟩, ⟨22, .data⟩, ⟨11, .guard⟩], some (11, true)⟩) (v := bif p1 then .bool b3 else undef) (by cases p1; (· exact Or.inr ⟨by rfl, rfl⟩); (· (cases b3; (· (have hb2 := b3f.out rfl; exact Or.inl ⟨by rfl, fun w' hSw => by go_simp⟩)); have hb2 := b3t.out rfl; exact Or.inl ⟨by rfl, fun w' hSw => by go_simp⟩))) hHeld ?_
                  try simp only [zP, zQ, zS, zZ, zC]
                  refine wt (i := 24) (oi := ⟨some 124, .pick (.tmp 111) (.tmp 123) (.const (Value.bool false)), 4, "law.go:128", #[⟨11, .data⟩, ⟨23, .data⟩], none⟩) (v := .bool p2) (by cases p1; (· (obtain rfl := p2a.out rfl; exact Or.inl ⟨by rfl, fun w' hSw => by go_simp⟩)); (· (obtain rfl := p2b.out rfl; exact Or.inl ⟨by rfl, fun w' hSw => by go_simp⟩))) hHeld ?_
                  try simp only [zP, zQ, zS, zZ, zC]
                  refine wt (i := 25) (oi := ⟨some 125, .move (.tmp 124), 4, "law.go:128", #[⟨24, .data⟩, ⟨11, .chain⟩], none⟩) (v := .bool p2) (Or.inl ⟨by rfl, fun w' hSw => by go_simp⟩) hHeld ?_
                  try simp only [zP, zQ, zS, zZ, zC]
                  refine wt (i := 26) (oi := ⟨some 126, .move (.tmp 12), 33, "law.go:128", #[⟨25, .guard⟩], some (25, true)⟩) (v := bif p2 then .slice (some ⟨b, off, none⟩) m c2 else undef) (by cases p2; (· exact Or.inr ⟨by rfl, rfl⟩); (· (exact Or.inl ⟨by rfl, fun w' hSw => by go_simp⟩))) hHeld ?_
                  try simp only [zP, zQ, zS, zZ, zC]
                  refine wt (i := 27) (oi := ⟨some 127, .move (.tmp 14), 3, "law.go:128", #[⟨25, .guard⟩], some (25, true)⟩) (v := bif p2 then .int .i64 (k : Int) else undef) (by cases p2; (· exact Or.inr ⟨by rfl, rfl⟩); (· (exact Or.inl ⟨by rfl, fun w' hSw => by go_simp⟩))) hHeld ?_
                  try simp only [zP, zQ, zS, zZ, zC]
                  refine wt (i := 28) (oi := ⟨some 128, .indexAddr 33 (.tmp 126) (.tmp 127), 0, "law.go:128", #[⟨26, .data⟩, ⟨27, .data⟩, ⟨25, .guard⟩], some (25, true)⟩) (v := bif p2 then .pointer (some ⟨b, off + k * 3, none⟩) else undef) (by cases p2; (· exact Or.inr ⟨by rfl, rfl⟩); (· (exact Or.inl ⟨by rfl, fun w' hSw => by go_simp; try (intro hcm; exact absurd hcm (by omega))⟩))) hHeld ?_
                  try simp only [zP, zQ, zS, zZ, zC]
                  refine wt (i := 29) (oi := ⟨some 129, .fieldAddr 52 (.tmp 128) 2, 0, "law.go:128", #[⟨28, .data⟩, ⟨25, .guard⟩], some (25, true)⟩) (v := bif p2 then .pointer (some ⟨b, off + k * 3 + 2, none⟩) else undef) (by cases p2; (· exact Or.inr ⟨by rfl, rfl⟩); (· (exact Or.inl ⟨by rfl, fun w' hSw => by go_simp⟩))) hHeld ?_
                  try simp only [zP, zQ, zS, zZ, zC]
                  refine wt (i := 30) (oi := ⟨some 130, .load 3 (.tmp 129), 3, "law.go:128", #[⟨29, .data⟩, ⟨25, .guard⟩], some (25, true)⟩) (v := bif p2 then .int .i64 (tk : Int) else undef) (by cases p2; (· exact Or.inr ⟨by rfl, rfl⟩); (· (exact Or.inl ⟨by rfl, fun w' hSw => by have hc := C2 w' hSw; go_simp⟩))) hHeld ?_
                  try simp only [zP, zQ, zS, zZ, zC]
                  refine wt (i := 31) (oi := ⟨some 131, .binOp .leq 3 (.tmp 130) (.const (Value.int IntKind.i64 1)) 3, 4, "law.go:128", #[⟨30, .data⟩, ⟨25, .guard⟩], some (25, true)⟩) (v := bif p2 then .bool false else undef) (by cases p2; (· exact Or.inr ⟨by rfl, rfl⟩); (· (have hb := HTK.out rfl; exact Or.inl ⟨by rfl, fun w' hSw => by go_simp; omega⟩))) hHeld ?_
                  try simp only [zP, zQ, zS, zZ, zC]
                  refine wt (i := 32) (oi := ⟨some 132, .pick (.tmp 125) (.tmp 131) (.const (Value.bool false)), 4, "law.go:128", #[⟨25, .data⟩, ⟨31, .data⟩], none⟩) (v := .bool false) (by cases p2; (· (exact Or.inl ⟨by rfl, fun w' hSw => by go_simp⟩)); (· (exact Or.inl ⟨by rfl, fun w' hSw => by go_simp⟩))) hHeld ?_
                  try simp only [zP, zQ, zS, zZ, zC]
                  refine wt (i := 33) (oi := ⟨some 133, .move (.tmp 132), 4, "law.go:128", #[⟨32, .data⟩, ⟨25, .chain⟩], none⟩) (v := .bool false) (Or.inl ⟨by rfl, fun w' hSw => by go_simp⟩) hHeld ?_
                  try simp only [zP, zQ, zS, zZ, zC]
                  refine wt (i := 34) (oi := ⟨some 134, .move (.tmp 12), 33, "law.go:128", #[⟨33, .guard⟩], some (33, false)⟩) (v := .slice (some ⟨b, off, none⟩) m c2) (Or.inl ⟨by rfl, fun w' hSw => by go_simp⟩) hHeld ?_
                  try simp only [zP, zQ, zS, zZ, zC]
                  refine wt (i := 35) (oi := ⟨some 135, .move (.tmp 14), 3, "law.go:128", #[⟨33, .guard⟩], some (33, false)⟩) (v := .int .i64 (k : Int)) (Or.inl ⟨by rfl, fun w' hSw => by go_simp⟩) hHeld ?_
                  try simp only [zP, zQ, zS, zZ, zC]
                  refine wt (i := 36) (oi := ⟨some 136, .indexAddr 33 (.tmp 134) (.tmp 135), 0, "law.go:128", #[⟨34, .data⟩, ⟨35, .data⟩, ⟨33, .guard⟩], some (33, false)⟩) (v := .pointer (some ⟨b, off + k * 3, none⟩)) (Or.inl ⟨by rfl, fun w' hSw => by go_simp; try (intro hcm; exact absurd hcm (by omega))⟩) hHeld ?_
                  try simp only [zP, zQ, zS, zZ, zC]
                  refine wt (i := 37) (oi := ⟨some 137, .fieldAddr 52 (.tmp 136) 1, 0, "law.go:128", #[⟨36, .data⟩, ⟨33, .guard⟩], some (33, false)⟩) (v := .pointer (some ⟨b, off + k * 3 + 1, none⟩)) (Or.inl ⟨by rfl, fun w' hSw => by go_simp⟩) hHeld ?_
                  try simp only [zP, zQ, zS, zZ, zC]
                  refine wt (i := 38) (oi := ⟨some 138, .load 3 (.tmp 137), 3, "law.go:128", #[⟨37, .data⟩, ⟨33, .guard⟩], some (33, false)⟩) (v := .int .i64 (te : Int)) (Or.inl ⟨by rfl, fun w' hSw => by have hc := C1 w' hSw; go_simp⟩) hHeld ?_
                  try simp only [zP, zQ, zS, zZ, zC]
                  refine wt (i := 39) (oi := ⟨some 139, .move (.tmp 12), 33, "law.go:128", #[⟨33, .guard⟩], some (33, false)⟩) (v := .slice (some ⟨b, off, none⟩) m c2) (Or.inl ⟨by rfl, fun w' hSw => by go_simp⟩) hHeld ?_
                  try simp only [zP, zQ, zS, zZ, zC]
                  refine wt (i := 40) (oi := ⟨some 140, .move (.tmp 14), 3, "law.go:128", #[⟨33, .guard⟩], some (33, false)⟩) (v := .int .i64 (k : Int)) (Or.inl ⟨by rfl, fun w' hSw => by go_simp⟩) hHeld ?_
                  try simp only [zP, zQ, zS, zZ, zC]
                  refine wt (i := 41) (oi := ⟨some 141, .indexAddr 33 (.tmp 139) (.tmp 140), 0, "law.go:128", #[⟨39, .data⟩, ⟨40, .data⟩, ⟨33, .guard⟩], some (33, false)⟩) (v := .pointer (some ⟨b, off + k * 3, none⟩)) (Or.inl ⟨by rfl, fun w' hSw => by go_simp; try (intro hcm; exact absurd hcm (by omega))⟩) hHeld ?_
                  try simp only [zP, zQ, zS, zZ, zC]
                  refine wt (i := 42) (oi := ⟨some 142, .fieldAddr 52 (.tmp 141) 0, 0, "law.go:128", #[⟨41, .data⟩, ⟨33, .guard⟩], some (33, false)⟩) (v := .pointer (some ⟨b, off + k * 3, none⟩)) (Or.inl ⟨by rfl, fun w' hSw => by go_simp⟩) hHeld ?_
                  try simp only [zP, zQ, zS, zZ, zC]
                  refine wt (i := 43) (oi := ⟨some 143, .load 3 (.tmp 142), 3, "law.go:128", #[⟨42, .data⟩, ⟨33, .guard⟩], some (33, false)⟩) (v := .int .i64 (ta : Int)) (Or.inl ⟨by rfl, fun w' hSw => by have hc := C0 w' hSw; go_simp⟩) hHeld ?_
                  try simp only [zP, zQ, zS, zZ, zC]
                  refine wt (i := 44) (oi := ⟨some 144, .binOp .add 3 (.tmp 143) (.const (Value.int IntKind.i64 1)) 3, 3, "law.go:128", #[⟨43, .data⟩, ⟨33, .guard⟩], some (33, false)⟩) (v := .int .i64 ((ta : Int) + 1)) (Or.inl ⟨by rfl, fun w' hSw => by have hw := HW1.out; go_simp⟩) hHeld ?_
                  try simp only [zP, zQ, zS, zZ, zC]
                  refine wt (i := 45) (oi := ⟨some 145, .binOp .gtr 3 (.tmp 138) (.tmp 144) 3, 4, "law.go:128", #[⟨38, .data⟩, ⟨44, .data⟩, ⟨33, .guard⟩], some (33, false)⟩) (v := .bool g) (by cases g; (· (have hb := gf.out rfl; exact Or.inl ⟨by rfl, fun w' hSw => by go_simp; omega⟩)); (· (have hb := gt.out rfl; exact Or.inl ⟨by rfl, fun w' hSw => by go_simp; omega⟩))) hHeld ?_
                  try simp only [zP, zQ, zS, zZ, zC]
                  refine wt (i := 46) (oi := ⟨some 146, .move (.tmp 145), 4, "law.go:128", #[⟨45, .data⟩, ⟨33, .chain⟩, ⟨33, .guard⟩], some (33, false)⟩) (v := .bool g) (Or.inl ⟨by rfl, fun w' hSw => by go_simp⟩) hHeld ?_
                  try simp only [zP, zQ, zS, zZ, zC]
                  refine wt (i := 47) (oi := ⟨some 147, .move (.tmp 12), 33, "law.go:128", #[⟨46, .guard⟩], some (46, true)⟩) (v := bif g then .slice (some ⟨b, off, none⟩) m c2 else undef) (by cases g; (· exact Or.inr ⟨by rfl, rfl⟩); (· (exact Or.inl ⟨by rfl, fun w' hSw => by go_simp⟩))) hHeld ?_
                  try simp only [zP, zQ, zS, zZ, zC]
                  refine wt (i := 48) (oi := ⟨some 148, .move (.tmp 14), 3, "law.go:128", #[⟨46, .guard⟩], some (46, true)⟩) (v := bif g then .int .i64 (k : Int) else undef) (by cases g; (· exact Or.inr ⟨by rfl, rfl⟩); (· (exact Or.inl ⟨by rfl, fun w' hSw => by go_simp⟩))) hHeld ?_
                  try simp only [zP, zQ, zS, zZ, zC]
                  refine wt (i := 49) (oi := ⟨some 149, .indexAddr 33 (.tmp 147) (.tmp 148), 0, "law.go:128", #[⟨47, .data⟩, ⟨48, .data⟩, ⟨46, .guard⟩], some (46, true)⟩) (v := bif g then .pointer (some ⟨b, off + k * 3, none⟩) else undef) (by cases g; (· exact Or.inr ⟨by rfl, rfl⟩); (· (exact Or.inl ⟨by rfl, fun w' hSw => by go_simp; try (intro hcm; exact absurd hcm (by omega))⟩))) hHeld ?_
                  try simp only [zP, zQ, zS, zZ, zC]
                  refine wt (i := 50) (oi := ⟨some 150, .fieldAddr 52 (.tmp 149) 2, 0, "law.go:128", #[⟨49, .data⟩, ⟨46, .guard⟩], some (46, true)⟩) (v := bif g then .pointer (some ⟨b, off + k * 3 + 2, none⟩) else undef) (by cases g; (· exact Or.inr ⟨by rfl, rfl⟩); (· (exact Or.inl ⟨by rfl, fun w' hSw => by go_simp⟩))) hHeld ?_
                  try simp only [zP, zQ, zS, zZ, zC]
                  refine wt (i := 51) (oi := ⟨some 151, .load 3 (.tmp 150), 3, "law.go:128", #[⟨50, .data⟩, ⟨46, .guard⟩], some (46, true)⟩) (v := bif g then .int .i64 (tk : Int) else undef) (by cases g; (· exact Or.inr ⟨by rfl, rfl⟩); (· (exact Or.inl ⟨by rfl, fun w' hSw => by have hc := C2 w' hSw; go_simp⟩))) hHeld ?_
                  try simp only [zP, zQ, zS, zZ, zC]
                  refine wt (i := 52) (oi := ⟨some 152, .binOp .gtr 3 (.tmp 151) (.const (Value.int IntKind.i64 1)) 3, 4, "law.go:128", #[⟨51, .data⟩, ⟨46, .guard⟩], some (46, true)⟩) (v := bif g then .bool false else undef) (by cases g; (· exact Or.inr ⟨by rfl, rfl⟩); (· (have hb := HLK1.out rfl; exact Or.inl ⟨by rfl, fun w' hSw => by go_simp; omega⟩))) hHeld ?_
                  try simp only [zP, zQ, zS, zZ, zC]
                  refine wt (i := 53) (oi := ⟨some 153, .pick (.tmp 146) (.tmp 152) (.const (Value.bool false)), 4, "law.go:128", #[⟨46, .data⟩, ⟨52, .data⟩, ⟨33, .guard⟩], some (33, false)⟩) (v := .bool false) (by cases g; (· (exact Or.inl ⟨by rfl, fun w' hSw => by go_simp⟩)); (· (exact Or.inl ⟨by rfl, fun w' hSw => by go_simp⟩))) hHeld ?_
                  try simp only [zP, zQ, zS, zZ, zC]
                  refine wt (i := 54) (oi := ⟨some 154, .pick (.tmp 133) (.const (Value.bool true)) (.tmp 153), 4, "law.go:128", #[⟨33, .data⟩, ⟨53, .data⟩], none⟩) (v := .bool false) (Or.inl ⟨by rfl, fun w' hSw => by go_simp⟩) hHeld ?_
                  try simp only [zP, zQ, zS, zZ, zC]
                  refine wpAnyH_done (by kernel_rfl) ?_ _
                  have BY := hHeld
                  clear hHeld 
                  go_upto_region 20 with (fail)
                  as_aux_lemma =>
                    refine wp_region_held_drew (S := fun w' => Below W2.heap.size W2 w') (by kernel_rfl) (below_drew (BY)) (fun _ => ?_)
                    have hHeld : Below W2.heap.size W2 V1.drew := below_drew (BY)
                    generalize V1.drew = V2 at hHeld ⊢
                    refine wt (i := 0) (oi := ⟨some 155, .move (.tmp 11), 9, "law.go:131", #[], none⟩) (v := .string x) (Or.inl ⟨by rfl, fun w' hSw => by go_simp⟩) hHeld ?_
                    try simp only [zP, zQ, zS, zZ, zC]
                    refine wt (i := 1) (oi := ⟨some 156, .move (.tmp 14), 3, "law.go:131", #[], none⟩) (v := .int .i64 (k : Int)) (Or.inl ⟨by rfl, fun w' hSw => by go_simp⟩) hHeld ?_
                    try simp only [zP, zQ, zS, zZ, zC]
                    refine wt (i := 2) (oi := ⟨some 157, .move (.tmp 14), 3, "law.go:131", #[], none⟩) (v := .int .i64 (k : Int)) (Or.inl ⟨by rfl, fun w' hSw => by go_simp⟩) hHeld ?_
                    try simp only [zP, zQ, zS, zZ, zC]
                    refine wt (i := 3) (oi := ⟨some 158, .binOp .add 3 (.tmp 157) (.const (Value.int IntKind.i64 1)) 3, 3, "law.go:131", #[⟨2, .data⟩], none⟩) (v := .int .i64 ((k : Int) + 1)) (Or.inl ⟨by rfl, fun w' hSw => by have hw := HW2.out; go_simp⟩) hHeld ?_
                    try simp only [zP, zQ, zS, zZ, zC]
                    refine wt (i := 5) (oi := ⟨some 160, .move (.tmp 11), 9, "law.go:131", #[], none⟩) (v := .string x) (Or.inl ⟨by rfl, fun w' hSw => by go_simp⟩) hHeld ?_
                    try simp only [zP, zQ, zS, zZ, zC]
                    refine wt (i := 6) (oi := ⟨some 161, .move (.tmp 12), 33, "law.go:131", #[], none⟩) (v := .slice (some ⟨b, off, none⟩) m c2) (Or.inl ⟨by rfl, fun w' hSw => by go_simp⟩) hHeld ?_
                    try simp only [zP, zQ, zS, zZ, zC]
                    refine wt (i := 7) (oi := ⟨some 162, .move (.tmp 14), 3, "law.go:131", #[], none⟩) (v := .int .i64 (k : Int)) (Or.inl ⟨by rfl, fun w' hSw => by go_simp⟩) hHeld ?_
                    try simp only [zP, zQ, zS, zZ, zC]
                    refine wt (i := 8) (oi := ⟨some 163, .indexAddr 33 (.tmp 161) (.tmp 162), 0, "law.go:131", #[⟨6, .data⟩, ⟨7, .data⟩], none⟩) (v := .pointer (some ⟨b, off + k * 3, none⟩)) (Or.inl ⟨by rfl, fun w' hSw => by go_simp; try (intro hcm; exact absurd hcm (by omega))⟩) hHeld ?_
                    try simp only [zP, zQ, zS, zZ, zC]
                    refine wt (i := 9) (oi := ⟨some 164, .fieldAddr 52 (.tmp 163) 0, 0, "law.go:131", #[⟨8, .data⟩], none⟩) (v := .pointer (some ⟨b, off + k * 3, none⟩)) (Or.inl ⟨by rfl, fun w' hSw => by go_simp⟩) hHeld ?_
                    try simp only [zP, zQ, zS, zZ, zC]
                    refine wt (i := 10) (oi := ⟨some 165, .load 3 (.tmp 164), 3, "law.go:131", #[⟨9, .data⟩], none⟩) (v := .int .i64 (ta : Int)) (Or.inl ⟨by rfl, fun w' hSw => by have hc := C0 w' hSw; go_simp⟩) hHeld ?_
                    try simp only [zP, zQ, zS, zZ, zC]
                    refine wt (i := 11) (oi := ⟨some 166, .move (.tmp 12), 33, "law.go:131", #[], none⟩) (v := .slice (some ⟨b, off, none⟩) m c2) (Or.inl ⟨by rfl, fun w' hSw => by go_simp⟩) hHeld ?_
                    try simp only [zP, zQ, zS, zZ, zC]
                    refine wt (i := 12) (oi := ⟨some 167, .move (.tmp 14), 3, "law.go:131", #[], none⟩) (v := .int .i64 (k : Int)) (Or.inl ⟨by rfl, fun w' hSw => by go_simp⟩) hHeld ?_
                    try simp only [zP, zQ, zS, zZ, zC]
                    refine wt (i := 13) (oi := ⟨some 168, .indexAddr 33 (.tmp 166) (.tmp 167), 0, "law.go:131", #[⟨11, .data⟩, ⟨12, .data⟩], none⟩) (v := .pointer (some ⟨b, off + k * 3, none⟩)) (Or.inl ⟨by rfl, fun w' hSw => by go_simp; try (intro hcm; exact absurd hcm (by omega))⟩) hHeld ?_
                    try simp only [zP, zQ, zS, zZ, zC]
                    refine wt (i := 14) (oi := ⟨some 169, .fieldAddr 52 (.tmp 168) 1, 0, "law.go:131", #[⟨13, .data⟩], none⟩) (v := .pointer (some ⟨b, off + k * 3 + 1, none⟩)) (Or.inl ⟨by rfl, fun w' hSw => by go_simp⟩) hHeld ?_
                    try simp only [zP, zQ, zS, zZ, zC]
                    refine wt (i := 15) (oi := ⟨some 170, .load 3 (.tmp 169), 3, "law.go:131", #[⟨14, .data⟩], none⟩) (v := .int .i64 (te : Int)) (Or.inl ⟨by rfl, fun w' hSw => by have hc := C1 w' hSw; go_simp⟩) hHeld ?_
                    try simp only [zP, zQ, zS, zZ, zC]
                    refine wt (i := 16) (oi := ⟨some 171, .slice 9 (.tmp 160) (some (.tmp 165)) (some (.tmp 170)) none, 9, "law.go:131", #[⟨5, .data⟩, ⟨10, .data⟩, ⟨15, .data⟩], none⟩) (v := .string (x.extract ta te)) (Or.inl ⟨by rfl, fun w' hSw => by go_simp; try (intro hcm; exact absurd hcm (by omega))⟩) hHeld ?_
                    try simp only [zP, zQ, zS, zZ, zC]
                    refine wpAnyH_ready (rs := [4]) (by kernel_rfl) (by simp) ?_
                    refine AllReadyH.cons (o := ⟨some 159, .call { callee := .value (.func 20), args := #[.tmp 155, .tmp 156, .tmp 158], argTypes := #[9, 3, 3] }, 9, "law.go:131", #[⟨0, .data⟩, ⟨1, .data⟩, ⟨3, .data⟩], none⟩) rfl (fun K hK => ?_) AllReadyH.nil
                    rw [if_pos (by rfl)]
                    go_simp
                    refine (HP.out V2).mono ?_
                    rintro en V3 ⟨rfl, hB9⟩
                    dsimp only
                    refine hK.out _ _ (link hHeld hB9) (fun hHeld => ?_)
                    clear hK K
                    try simp only [zP, zQ, zS, zZ, zC]
                    refine wt (i := 17) (oi := ⟨some 172, .binOp .neq 9 (.tmp 159) (.tmp 171) 9, 4, "law.go:131", #[⟨4, .data⟩, ⟨16, .data⟩], none⟩) (v := .bool false) (Or.inl ⟨by rfl, fun w' hSw => by go_simp⟩) hHeld ?_
                    try simp only [zP, zQ, zS, zZ, zC]
                    refine wpAnyH_done (by kernel_rfl) ?_ _
                    have BZ := hHeld
                    clear hHeld 
                    have c1 := C1 _ BZ
                    go_wp2
                    exact ⟨⟨k + 1, by omega, by rw [HE.out], by go_num, BZ⟩, by simp [intOf]; omega⟩
        · have hltk : ¬ k < m := by omega
          obtain rfl : k = m := by omega
          as_aux_lemma =>
            obtain ⟨a, ha⟩ : ∃ a, prevEnd (toks (sb x)) k = a := ⟨_, rfl⟩
            have hax : a ≤ x.size := by rw [← ha, ← sb_length]; exact prevEnd_le _ _
            have HTl := Lib.hid (show ∀ j, a ≤ j → j < x.size → kdAt (sb x) j = 4 from fun j h1 h2 => tail_blank (sb x) j (by rw [HN.out, ha]; exact h1) (by rw [sb_length]; exact h2))
            rw [ha]
            clear ha
            go_wp2
            obtain ⟨wb, rfl⟩ : ∃ wb, wb = wr := ⟨_, rfl⟩
            go_loopw [16] (fun v wr => BetRel wb a x.size v wr) (fun v _ => x.size - (intOf v).toNat)
            case atStart => exact ⟨a, Nat.le_refl _, hax, rfl, rfl⟩
            case round =>
              obtain ⟨j, hja, hje, rfl, rfl⟩ := hrel
              rcases Nat.lt_or_ge j x.size with hjt | hjt
              · have hby : (((x[j]'hjt).toNat : Int) != 32) = false := by
                  obtain ⟨hg, _⟩ := sb_get hjt
                  have e := kdAt_blank hg (HTl.out j hja hjt)
                  simp [e]
                go_wp2
                exact ⟨⟨j + 1, by omega, by omega, by go_num, rfl⟩, by simp [intOf]; omega⟩
              · have hjn : ¬ j < x.size := by omega
                have HV := HVx.out _ (hG1.out.keep (BW.out _ hB2))
                have HP := Lib.hid (fun V : World => HPa.out 0 (k : Int) (by omega) (by omega) (by omega) (by omega) V)
                have HVP := Lib.hid (fun h : validT (sb x) = 0 => (show partS x 0 (k : Int) = x from by rw [← HN.out]; exact valid_part h))
                generalize validT (sb x) = z at HV HVP
                generalize partS x 0 (k : Int) = pt at HP HVP
                have HV := Lib.hid HV
                by_cases hz : z = 0
                · have hpt := HVP.out hz
                  subst hz
                  subst hpt
                  clear HVP HVx HPa HTl HN
                  go_wp2_with (first
                    | (go_at_call 12; refine HV.out.mono ?_; rintro en W5 ⟨rfl, hB5⟩)
                    | (go_at_call 20; refine (HP.out W5).mono ?_; rintro en W6 ⟨rfl, hB6⟩))

                  exact ⟨⟨i + 1, by omega, by go_num, link (BW.out _ (link hB2 hB5)) hB6⟩, by simp [intOf]; omega⟩
                · clear HVP HVx HPa HTl HN HP
                  go_wp2_with (go_at_call 12; refine HV.out.mono ?_; rintro en W5 ⟨rfl, hB5⟩)

                  exact ⟨⟨i + 1, by omega, by go_num, BW.out _ (link hB2 hB5)⟩, by simp [intOf]; omega⟩
    · have hlt : ¬ i < kk := by omega
      obtain rfl : i = kk := by omega
      go_wp2_with (go_at_call 14; refine (HLv.out _ (hG1.out.keep hB)).mono ?_; rintro en W9 ⟨rfl, hB9⟩)
      go_ret
      exact ⟨rfl, link hB1 (link hB hB9)⟩
end Go.Proofs.Ytehkgpefmjfifaa
