/-
  token.Part, Marks, Words and Join.
-/
import Derived.Test.YtehkgpefmjfifaaKe
import Derived.Test.YtehkgpefmjfifaaKi
namespace Go.Proofs.Ytehkgpefmjfifaa
open Go.RowKit
set_option linter.unusedVariables false
set_option linter.unusedSimpArgs false

/-- The text of some tokens. -/
def partS (s : ByteArray) (f t : Int) : ByteArray :=
  if 0 ≤ f ∧ f < t ∧ t ≤ (toks (sb s)).length then
    (match (toks (sb s))[f.toNat]?, (toks (sb s))[(t - 1).toNat]? with
     | some a, some b => s.extract a.1 b.2.1
     | _, _ => ByteArray.empty)
  else ByteArray.empty
theorem part_no {s : ByteArray} {f t : Int} (h : ¬ (0 ≤ f ∧ f < t ∧ t ≤ (toks (sb s)).length)) : partS s f t = ByteArray.empty := by unfold partS; rw [if_neg h]
theorem part_yes {s : ByteArray} {f t : Nat} {a b : Tk} (h : f ≤ t) (ha : (toks (sb s))[f]? = some a) (hb : (toks (sb s))[t]? = some b) : partS s (f : Int) ((t + 1 : Nat) : Int) = s.extract a.1 b.2.1 := by
  have hlt := (List.getElem?_eq_some_iff.1 hb).1
  unfold partS
  rw [if_pos (by omega), Int.toNat_natCast, show (((t + 1 : Nat) : Int) - 1).toNat = t by omega, ha, hb]
theorem tok_mono {bs : List Nat} {i j : Nat} {a b : Tk} (h : i ≤ j) (ha : (toks bs)[i]? = some a) (hb : (toks bs)[j]? = some b) : a.1 < b.2.1 ∧ b.2.1 ≤ bs.length ∧ (i < j → a.2.1 ≤ b.1) := by
  have hbi := toks_in hb
  have hai := toks_in ha
  rcases Nat.eq_or_lt_of_le h with e | e
  · subst e
    rw [ha] at hb
    injection hb with hb
    subst hb
    exact ⟨hbi.1, hbi.2.1, fun h => by omega⟩
  · have hr := run_tail (toks_run bs) (i + 1)
    rw [if_neg (by omega), Nat.add_sub_cancel, ha] at hr
    have hm : b ∈ (toks bs).drop (i + 1) := by
      apply List.mem_of_getElem? (i := j - (i + 1))
      rw [List.getElem?_drop, show i + 1 + (j - (i + 1)) = j by omega]
      exact hb
    have := run_le (at_ := a.2.1) hr b hm
    exact ⟨by omega, by omega, fun _ => this.1⟩
set_option maxHeartbeats 2000000 in
set_option maxRecDepth 100000 in
theorem part_any (s : ByteArray) (hn6 : s.size ≤ 1000000000) (f t : Int) (hf1 : -9223372036854775808 ≤ f) (hf2 : f ≤ 9223372036854775807) (ht1 : -9223372036854775808 ≤ t) (ht2 : t ≤ 9223372036854775807) (w : World) :
    Calls Try.prog 20 #[.string s, .int .i64 f, .int .i64 t] w fun e w' => e = .returned (.string (partS s f t)) ∧ Below w.heap.size w w' := by
  have HS := Lib.hid (fun (V : World) => split_any s s.size rfl hn6 V)
  obtain ⟨n, hn⟩ : ∃ n, (toks (sb s)).length = n := ⟨_, rfl⟩
  have hnb : n ≤ 1000000000 := by have := toks_len (sb s); rw [sb_length] at this; omega
  have HN := Lib.hid hn
  by_cases hok : 0 ≤ f ∧ f < t ∧ t ≤ (n : Int)
  · obtain ⟨h1, h2, h3⟩ := hok
    obtain ⟨f, rfl⟩ : ∃ g : Nat, f = (g : Int) := ⟨f.toNat, by omega⟩
    obtain ⟨t1, rfl⟩ : ∃ g : Nat, t = (g : Int) := ⟨t.toNat, by omega⟩
    obtain ⟨t, ht⟩ : ∃ t, t1 = t + 1 := ⟨t1 - 1, by omega⟩
    have hft : f ≤ t := by omega
    have htn : t < n := by omega
    obtain ⟨⟨ta, tb, tc⟩, ha⟩ : ∃ a, (toks (sb s))[f]? = some a := ⟨_, List.getElem?_eq_getElem (by omega)⟩
    obtain ⟨⟨tx, te, tz⟩, hb⟩ : ∃ a, (toks (sb s))[t]? = some a := ⟨_, List.getElem?_eq_getElem (by omega)⟩
    have hp := part_yes hft ha hb
    rw [← ht] at hp
    rw [hp]
    obtain ⟨hm1, hm2, _⟩ := tok_mono hft ha hb
    rw [sb_length] at hm2
    have hm1 : ta ≤ te := Nat.le_of_lt hm1
    have hm2 : te ≤ s.size := hm2
    have hti : (t1 : Int) - 1 = (t : Int) := by omega
    have HW := Lib.hid (show IntKind.i64.wrap (t : Int) = (t : Int) from by simp [IntKind.wrap, IntKind.signed, IntKind.bits]; omega)
    have h3 : t1 ≤ n := by omega
    have h2 : f < t1 := by omega
    have hfn : f < n := by omega
    have HA := Lib.hid ha
    have HB := Lib.hid hb
    clear hn ha hb hp ht h1
    go_enter Try.func20, Try.ntmps20
    go_upto_region 4 with (go_at_call 18; refine (HS.out w).mono ?_; rintro en W1 ⟨v, rfl, hO, hB1⟩; obtain ⟨q, c, rfl, hc, hAt, _, _⟩ := hO.form; rw [HN.out] at hc ⊢)
    obtain ⟨b, off, rfl, hL⟩ := hAt.get (i := f) (by rw [HN.out]; exact hfn)
    have C1 : ∀ w', Below w.heap.size w w' → True := fun _ _ => trivial
    have L1 : W1.cell? ⟨b, off + f * 3, none⟩ = some (.int .i64 (ta : Int)) := hL.2 f (ta, tb, tc) 0 _ HA.out rfl
    have L2 : W1.cell? ⟨b, off + t * 3 + 1, none⟩ = some (.int .i64 (te : Int)) := hL.2 t (tx, te, tz) 1 _ HB.out rfl
    have hbl := hL.1
    clear hO hAt hL HS C1
    have hB9 := hB1
    have C1 : ∀ w', Below W1.heap.size W1 w' → w'.cell? ⟨b, off + f * 3, none⟩ = some (.int .i64 (ta : Int)) := fun w' h => (h.cell (p := ⟨b, off + f * 3, none⟩) hbl).trans L1
    have C2 : ∀ w', Below W1.heap.size W1 w' → w'.cell? ⟨b, off + t * 3 + 1, none⟩ = some (.int .i64 (te : Int)) := fun w' h => (h.cell (p := ⟨b, off + t * 3 + 1, none⟩) hbl).trans L2
    clear L1 L2
    refine wp_region_held_drew (S := fun w' => Below W1.heap.size W1 w') (by kernel_rfl) (below_drew (Below.refl _ _)) (fun _ => ?_)
    have hHeld : Below W1.heap.size W1 W1.drew := below_drew (Below.refl _ _)
    generalize W1.drew = V0 at hHeld ⊢
    refine wt (i := 0) (oi := ⟨some 23, .move (.tmp 0), 9, "token.go:93", #[], none⟩) (v := .string s) (Or.inl ⟨by rfl, fun w' hSw => by go_simp⟩) hHeld ?_
    try simp only [zP, zQ, zS, zZ, zC]
    refine wt (i := 1) (oi := ⟨some 24, .move (.tmp 7), 33, "token.go:93", #[], none⟩) (v := .slice (some ⟨b, off, none⟩) n c) (Or.inl ⟨by rfl, fun w' hSw => by go_simp⟩) hHeld ?_
    try simp only [zP, zQ, zS, zZ, zC]
    refine wt (i := 2) (oi := ⟨some 25, .move (.tmp 1), 3, "token.go:93", #[], none⟩) (v := .int .i64 (f : Int)) (Or.inl ⟨by rfl, fun w' hSw => by go_simp⟩) hHeld ?_
    try simp only [zP, zQ, zS, zZ, zC]
    refine wt (i := 3) (oi := ⟨some 26, .indexAddr 33 (.tmp 24) (.tmp 25), 0, "token.go:93", #[⟨1, .data⟩, ⟨2, .data⟩], none⟩) (v := .pointer (some ⟨b, off + f * 3, none⟩)) (Or.inl ⟨by rfl, fun w' hSw => by go_simp; try (intro hcm; exact absurd hcm (by omega))⟩) hHeld ?_
    try simp only [zP, zQ, zS, zZ, zC]
    refine wt (i := 4) (oi := ⟨some 27, .fieldAddr 52 (.tmp 26) 0, 0, "token.go:93", #[⟨3, .data⟩], none⟩) (v := .pointer (some ⟨b, off + f * 3, none⟩)) (Or.inl ⟨by rfl, fun w' hSw => by go_simp⟩) hHeld ?_
    try simp only [zP, zQ, zS, zZ, zC]
    refine wt (i := 5) (oi := ⟨some 28, .load 3 (.tmp 27), 3, "token.go:93", #[⟨4, .data⟩], none⟩) (v := .int .i64 (ta : Int)) (Or.inl ⟨by rfl, fun w' hSw => by have hc := C1 w' hSw; go_simp⟩) hHeld ?_
    try simp only [zP, zQ, zS, zZ, zC]
    refine wt (i := 6) (oi := ⟨some 29, .move (.tmp 7), 33, "token.go:93", #[], none⟩) (v := .slice (some ⟨b, off, none⟩) n c) (Or.inl ⟨by rfl, fun w' hSw => by go_simp⟩) hHeld ?_
    try simp only [zP, zQ, zS, zZ, zC]
    refine wt (i := 7) (oi := ⟨some 30, .move (.tmp 2), 3, "token.go:93", #[], none⟩) (v := .int .i64 (t1 : Int)) (Or.inl ⟨by rfl, fun w' hSw => by go_simp⟩) hHeld ?_
    try simp only [zP, zQ, zS, zZ, zC]
    refine wt (i := 8) (oi := ⟨some 31, .binOp .sub 3 (.tmp 30) (.const (Value.int IntKind.i64 1)) 3, 3, "token.go:93", #[⟨7, .data⟩], none⟩) (v := .int .i64 (t : Int)) (Or.inl ⟨by rfl, fun w' hSw => by have hw := HW.out; go_simp⟩) hHeld ?_
    try simp only [zP, zQ, zS, zZ, zC]
    refine wt (i := 9) (oi := ⟨some 32, .indexAddr 33 (.tmp 29) (.tmp 31), 0, "token.go:93", #[⟨6, .data⟩, ⟨8, .data⟩], none⟩) (v := .pointer (some ⟨b, off + t * 3, none⟩)) (Or.inl ⟨by rfl, fun w' hSw => by go_simp; try (intro hcm; exact absurd hcm (by omega))⟩) hHeld ?_
    try simp only [zP, zQ, zS, zZ, zC]
    refine wt (i := 10) (oi := ⟨some 33, .fieldAddr 52 (.tmp 32) 1, 0, "token.go:93", #[⟨9, .data⟩], none⟩) (v := .pointer (some ⟨b, off + t * 3 + 1, none⟩)) (Or.inl ⟨by rfl, fun w' hSw => by go_simp⟩) hHeld ?_
    try simp only [zP, zQ, zS, zZ, zC]
    refine wt (i := 11) (oi := ⟨some 34, .load 3 (.tmp 33), 3, "token.go:93", #[⟨10, .data⟩], none⟩) (v := .int .i64 (te : Int)) (Or.inl ⟨by rfl, fun w' hSw => by have hc := C2 w' hSw; go_simp⟩) hHeld ?_
    try simp only [zP, zQ, zS, zZ, zC]
    refine wt (i := 12) (oi := ⟨some 35, .slice 9 (.tmp 23) (some (.tmp 28)) (some (.tmp 34)) none, 9, "token.go:93", #[⟨0, .data⟩, ⟨5, .data⟩, ⟨11, .data⟩], none⟩) (v := .string (s.extract ta te)) (Or.inl ⟨by rfl, fun w' hSw => by go_simp⟩) hHeld ?_
    try simp only [zP, zQ, zS, zZ, zC]
    refine wpAnyH_ready (rs := [13]) (by kernel_rfl) (by simp) ?_
    refine AllReadyH.cons (o := ⟨some 6, .assign (.tmp 35), 9, "token.go:93", #[⟨12, .data⟩, ⟨0, .phase⟩, ⟨1, .phase⟩, ⟨2, .phase⟩, ⟨3, .phase⟩, ⟨4, .phase⟩, ⟨5, .phase⟩, ⟨6, .phase⟩, ⟨7, .phase⟩, ⟨8, .phase⟩, ⟨9, .phase⟩, ⟨10, .phase⟩, ⟨11, .phase⟩, ⟨12, .phase⟩], none⟩) rfl (fun K hK => ?_) AllReadyH.nil
    go_simp
    refine hK.out _ _ (hHeld) (fun hHeld => ?_)
    clear hK K
    try simp only [zP, zQ, zS, zZ, zC]
    refine wpAnyH_done (by kernel_rfl) ?_ _
    have BX := hHeld
    clear hHeld C1 C2
    go_wp2
    go_ret
    exact ⟨rfl, link hB9 BX⟩
  · rw [part_no (by rw [hn]; exact hok)]
    clear hn
    go_enter Try.func20, Try.ntmps20
    go_upto_region 2 with (go_at_call 18; refine (HS.out w).mono ?_; rintro en W1 ⟨v, rfl, hO, hB1⟩; obtain ⟨q, c, rfl, hc, hAt, _, _⟩ := hO.form; rw [HN.out] at hc ⊢)
    clear hO hAt
    by_cases h1 : f < 0
    · go_wp2
      go_ret
      exact ⟨rfl, hB1⟩
    · by_cases h2 : t ≤ f
      · go_wp2
        go_ret
        exact ⟨rfl, hB1⟩
      · have h3 : (n : Int) < t := by omega
        go_wp2
        go_ret
        exact ⟨rfl, hB1⟩

set_option maxHeartbeats 2000000 in
set_option maxRecDepth 100000 in
theorem rpart_any (s : ByteArray) (hn6 : s.size ≤ 1000000000) (f t : Int) (hf1 : -9223372036854775808 ≤ f) (hf2 : f ≤ 9223372036854775807) (ht1 : -9223372036854775808 ≤ t) (ht2 : t ≤ 9223372036854775807) (w : World) :
    Calls Try.prog 21 #[.string s, .int .i64 f, .int .i64 t] w fun e w' => e = .returned (.string (partS s f t)) ∧ Below w.heap.size w w' := by
  have HS := Lib.hid (fun (V : World) => rsplit_any s s.size rfl hn6 V)
  obtain ⟨n, hn⟩ : ∃ n, (toks (sb s)).length = n := ⟨_, rfl⟩
  have hnb : n ≤ 1000000000 := by have := toks_len (sb s); rw [sb_length] at this; omega
  have HN := Lib.hid hn
  by_cases hok : 0 ≤ f ∧ f < t ∧ t ≤ (n : Int)
  · obtain ⟨h1, h2, h3⟩ := hok
    obtain ⟨f, rfl⟩ : ∃ g : Nat, f = (g : Int) := ⟨f.toNat, by omega⟩
    obtain ⟨t1, rfl⟩ : ∃ g : Nat, t = (g : Int) := ⟨t.toNat, by omega⟩
    obtain ⟨t, ht⟩ : ∃ t, t1 = t + 1 := ⟨t1 - 1, by omega⟩
    have hft : f ≤ t := by omega
    have htn : t < n := by omega
    obtain ⟨⟨ta, tb, tc⟩, ha⟩ : ∃ a, (toks (sb s))[f]? = some a := ⟨_, List.getElem?_eq_getElem (by omega)⟩
    obtain ⟨⟨tx, te, tz⟩, hb⟩ : ∃ a, (toks (sb s))[t]? = some a := ⟨_, List.getElem?_eq_getElem (by omega)⟩
    have hp := part_yes hft ha hb
    rw [← ht] at hp
    rw [hp]
    obtain ⟨hm1, hm2, _⟩ := tok_mono hft ha hb
    rw [sb_length] at hm2
    have hm1 : ta ≤ te := Nat.le_of_lt hm1
    have hm2 : te ≤ s.size := hm2
    have hti : (t1 : Int) - 1 = (t : Int) := by omega
    have HW := Lib.hid (show IntKind.i64.wrap (t : Int) = (t : Int) from by simp [IntKind.wrap, IntKind.signed, IntKind.bits]; omega)
    have h3 : t1 ≤ n := by omega
    have h2 : f < t1 := by omega
    have hfn : f < n := by omega
    have HA := Lib.hid ha
    have HB := Lib.hid hb
    clear hn ha hb hp ht h1
    go_enter Try.func21, Try.ntmps21
    go_upto_region 4 with (go_at_call 15; refine (HS.out w).mono ?_; rintro en W1 ⟨v, rfl, hO, hB1⟩; obtain ⟨q, c, rfl, hc, hAt, _, _⟩ := hO.form; rw [HN.out] at hc ⊢)
    obtain ⟨b, off, rfl, hL⟩ := hAt.get (i := f) (by rw [HN.out]; exact hfn)
    have C1 : ∀ w', Below w.heap.size w w' → True := fun _ _ => trivial
    have L1 : W1.cell? ⟨b, off + f * 3, none⟩ = some (.int .i64 (ta : Int)) := hL.2 f (ta, tb, tc) 0 _ HA.out rfl
    have L2 : W1.cell? ⟨b, off + t * 3 + 1, none⟩ = some (.int .i64 (te : Int)) := hL.2 t (tx, te, tz) 1 _ HB.out rfl
    have hbl := hL.1
    clear hO hAt hL HS C1
    have hB9 := hB1
    have C1 : ∀ w', Below W1.heap.size W1 w' → w'.cell? ⟨b, off + f * 3, none⟩ = some (.int .i64 (ta : Int)) := fun w' h => (h.cell (p := ⟨b, off + f * 3, none⟩) hbl).trans L1
    have C2 : ∀ w', Below W1.heap.size W1 w' → w'.cell? ⟨b, off + t * 3 + 1, none⟩ = some (.int .i64 (te : Int)) := fun w' h => (h.cell (p := ⟨b, off + t * 3 + 1, none⟩) hbl).trans L2
    clear L1 L2
    refine wp_region_held_drew (S := fun w' => Below W1.heap.size W1 w') (by kernel_rfl) (below_drew (Below.refl _ _)) (fun _ => ?_)
    have hHeld : Below W1.heap.size W1 W1.drew := below_drew (Below.refl _ _)
    generalize W1.drew = V0 at hHeld ⊢
    refine wt (i := 0) (oi := ⟨some 23, .move (.tmp 0), 9, "ref.go:76", #[], none⟩) (v := .string s) (Or.inl ⟨by rfl, fun w' hSw => by go_simp⟩) hHeld ?_
    try simp only [zP, zQ, zS, zZ, zC]
    refine wt (i := 1) (oi := ⟨some 24, .move (.tmp 7), 29, "ref.go:76", #[], none⟩) (v := .slice (some ⟨b, off, none⟩) n c) (Or.inl ⟨by rfl, fun w' hSw => by go_simp⟩) hHeld ?_
    try simp only [zP, zQ, zS, zZ, zC]
    refine wt (i := 2) (oi := ⟨some 25, .move (.tmp 1), 3, "ref.go:76", #[], none⟩) (v := .int .i64 (f : Int)) (Or.inl ⟨by rfl, fun w' hSw => by go_simp⟩) hHeld ?_
    try simp only [zP, zQ, zS, zZ, zC]
    refine wt (i := 3) (oi := ⟨some 26, .indexAddr 29 (.tmp 24) (.tmp 25), 0, "ref.go:76", #[⟨1, .data⟩, ⟨2, .data⟩], none⟩) (v := .pointer (some ⟨b, off + f * 3, none⟩)) (Or.inl ⟨by rfl, fun w' hSw => by go_simp; try (intro hcm; exact absurd hcm (by omega))⟩) hHeld ?_
    try simp only [zP, zQ, zS, zZ, zC]
    refine wt (i := 4) (oi := ⟨some 27, .fieldAddr 63 (.tmp 26) 0, 0, "ref.go:76", #[⟨3, .data⟩], none⟩) (v := .pointer (some ⟨b, off + f * 3, none⟩)) (Or.inl ⟨by rfl, fun w' hSw => by go_simp⟩) hHeld ?_
    try simp only [zP, zQ, zS, zZ, zC]
    refine wt (i := 5) (oi := ⟨some 28, .load 3 (.tmp 27), 3, "ref.go:76", #[⟨4, .data⟩], none⟩) (v := .int .i64 (ta : Int)) (Or.inl ⟨by rfl, fun w' hSw => by have hc := C1 w' hSw; go_simp⟩) hHeld ?_
    try simp only [zP, zQ, zS, zZ, zC]
    refine wt (i := 6) (oi := ⟨some 29, .move (.tmp 7), 29, "ref.go:76", #[], none⟩) (v := .slice (some ⟨b, off, none⟩) n c) (Or.inl ⟨by rfl, fun w' hSw => by go_simp⟩) hHeld ?_
    try simp only [zP, zQ, zS, zZ, zC]
    refine wt (i := 7) (oi := ⟨some 30, .move (.tmp 2), 3, "ref.go:76", #[], none⟩) (v := .int .i64 (t1 : Int)) (Or.inl ⟨by rfl, fun w' hSw => by go_simp⟩) hHeld ?_
    try simp only [zP, zQ, zS, zZ, zC]
    refine wt (i := 8) (oi := ⟨some 31, .binOp .sub 3 (.tmp 30) (.const (Value.int IntKind.i64 1)) 3, 3, "ref.go:76", #[⟨7, .data⟩], none⟩) (v := .int .i64 (t : Int)) (Or.inl ⟨by rfl, fun w' hSw => by have hw := HW.out; go_simp⟩) hHeld ?_
    try simp only [zP, zQ, zS, zZ, zC]
    refine wt (i := 9) (oi := ⟨some 32, .indexAddr 29 (.tmp 29) (.tmp 31), 0, "ref.go:76", #[⟨6, .data⟩, ⟨8, .data⟩], none⟩) (v := .pointer (some ⟨b, off + t * 3, none⟩)) (Or.inl ⟨by rfl, fun w' hSw => by go_simp; try (intro hcm; exact absurd hcm (by omega))⟩) hHeld ?_
    try simp only [zP, zQ, zS, zZ, zC]
    refine wt (i := 10) (oi := ⟨some 33, .fieldAddr 63 (.tmp 32) 1, 0, "ref.go:76", #[⟨9, .data⟩], none⟩) (v := .pointer (some ⟨b, off + t * 3 + 1, none⟩)) (Or.inl ⟨by rfl, fun w' hSw => by go_simp⟩) hHeld ?_
    try simp only [zP, zQ, zS, zZ, zC]
    refine wt (i := 11) (oi := ⟨some 34, .load 3 (.tmp 33), 3, "ref.go:76", #[⟨10, .data⟩], none⟩) (v := .int .i64 (te : Int)) (Or.inl ⟨by rfl, fun w' hSw => by have hc := C2 w' hSw; go_simp⟩) hHeld ?_
    try simp only [zP, zQ, zS, zZ, zC]
    refine wt (i := 12) (oi := ⟨some 35, .slice 9 (.tmp 23) (some (.tmp 28)) (some (.tmp 34)) none, 9, "ref.go:76", #[⟨0, .data⟩, ⟨5, .data⟩, ⟨11, .data⟩], none⟩) (v := .string (s.extract ta te)) (Or.inl ⟨by rfl, fun w' hSw => by go_simp⟩) hHeld ?_
    try simp only [zP, zQ, zS, zZ, zC]
    refine wpAnyH_ready (rs := [13]) (by kernel_rfl) (by simp) ?_
    refine AllReadyH.cons (o := ⟨some 6, .assign (.tmp 35), 9, "ref.go:76", #[⟨12, .data⟩, ⟨0, .phase⟩, ⟨1, .phase⟩, ⟨2, .phase⟩, ⟨3, .phase⟩, ⟨4, .phase⟩, ⟨5, .phase⟩, ⟨6, .phase⟩, ⟨7, .phase⟩, ⟨8, .phase⟩, ⟨9, .phase⟩, ⟨10, .phase⟩, ⟨11, .phase⟩, ⟨12, .phase⟩], none⟩) rfl (fun K hK => ?_) AllReadyH.nil
    go_simp
    refine hK.out _ _ (hHeld) (fun hHeld => ?_)
    clear hK K
    try simp only [zP, zQ, zS, zZ, zC]
    refine wpAnyH_done (by kernel_rfl) ?_ _
    have BX := hHeld
    clear hHeld C1 C2
    go_wp2
    go_ret
    exact ⟨rfl, link hB9 BX⟩
  · rw [part_no (by rw [hn]; exact hok)]
    clear hn
    go_enter Try.func21, Try.ntmps21
    go_upto_region 2 with (go_at_call 15; refine (HS.out w).mono ?_; rintro en W1 ⟨v, rfl, hO, hB1⟩; obtain ⟨q, c, rfl, hc, hAt, _, _⟩ := hO.form; rw [HN.out] at hc ⊢)
    clear hO hAt
    by_cases h1 : f < 0
    · go_wp2
      go_ret
      exact ⟨rfl, hB1⟩
    · by_cases h2 : t ≤ f
      · go_wp2
        go_ret
        exact ⟨rfl, hB1⟩
      · have h3 : (n : Int) < t := by omega
        go_wp2
        go_ret
        exact ⟨rfl, hB1⟩

end Go.Proofs.Ytehkgpefmjfifaa
