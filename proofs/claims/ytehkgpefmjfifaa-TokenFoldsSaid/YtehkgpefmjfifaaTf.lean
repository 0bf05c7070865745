/-
  TokenFolds.
-/
import Derived.Test.YtehkgpefmjfifaaMo
import Derived.Test.YtehkgpefmjfifaaLf
namespace Go.Proofs.Ytehkgpefmjfifaa
open Go.RowKit
set_option linter.unusedVariables false
set_option linter.unusedSimpArgs false

/-- The number of a round; memory stands. -/
def StandRel (W : World) (n : Nat) (v : Value) (wr : World) : Prop := ∃ i : Nat, i ≤ n ∧ v = .int .i64 (i : Int) ∧ wr = W

set_option maxHeartbeats 4000000 in
set_option maxRecDepth 100000 in
theorem tokenFolds_any (A : Option Addr) (l : List Int) (n c : Nat) (hl : l.length = n) (how by_ : Int) (h1 : -9223372036854775808 ≤ how) (h2 : how ≤ 9223372036854775807) (h3 : -9223372036854775808 ≤ by_) (h4 : by_ ≤ 9223372036854775807) (raw : ByteArray) (w : World) (hA : IntsAt w A l) (hG : GM w) :
    Calls Try.prog 10 #[.slice A n c, .int .i64 how, .int .i64 by_, .string raw] w (Told w true) := by
  have HT := Lib.hid (texts_any A l n c hl how by_ h1 h2 h3 h4 raw _ rfl 600 (by omega) w hA)
  have HLv := Lib.hid (fun (V : World) (h : GM V) => lives_any V h)
  clear hl h1 h2 h3 h4 hA
  go_enter Try.func10, Try.ntmps10
  go_wp2_with (go_at_call 11; refine HT.out.mono ?_; rintro en W1 ⟨L, k, q1, c1, hLk, hk5, hk6, hs, rfl, hc1, hAt, hB1⟩)
  have hG1 := Lib.hid (hG.keep hB1)
  have hLK := Lib.hid hLk
  clear HT hLk
  go_loopw [10] (fun v wr => NumRel W1 k v wr) (fun v _ => k - (intOf v).toNat)
  case atStart => exact ⟨0, Nat.zero_le _, rfl, Below.refl _ _⟩
  case round =>
    obtain ⟨i, hi, rfl, hB⟩ := hrel
    rcases Nat.lt_or_ge i k with hlt | hge
    · obtain ⟨x, hx⟩ : ∃ x, L[i]? = some x := ⟨_, List.getElem?_eq_getElem (by rw [hLK.out]; exact hlt)⟩
      have hxs := hs x (List.mem_of_getElem? hx)
      obtain ⟨b, off, rfl, hLy⟩ := hAt.get (i := i) (by rw [hLK.out]; exact hlt)
      have C0 : ∀ w', Below W1.heap.size W1 w' → w'.cell? ⟨b, off + i, none⟩ = some (.string x) := fun w' h => by
        have := (hLy.keep h).2 i x 0 _ hx rfl
        rwa [show strE.k = 1 from rfl, Nat.mul_one, Nat.add_zero] at this
      have c0 := C0 wr hB
      have hx9 : x.size ≤ 1000000000 := by omega
      have hf9 : (foldS x).size ≤ 1000000000 := by rw [foldS_size]; omega
      have htl := toks_len (sb x)
      rw [sb_length] at htl
      obtain ⟨m, hm⟩ : ∃ m, (toks (sb x)).length = m := ⟨_, rfl⟩
      have hm9 : m ≤ 100000 := by omega
      obtain ⟨n1, hn1⟩ : ∃ m, (wordsM x).length = m := ⟨_, rfl⟩
      have hb1 : n1 ≤ 100000 := by have := words_len x (toks (sb x)) (toks (sb x)).length; unfold wordsM at hn1; omega
      have hsm : ∀ y ∈ wordsM x, Small y ∧ y.size ≤ 100000 := fun y h => ⟨words_small x _ y h, Nat.le_trans (words_le x _ _ y h) hxs⟩
      have HF := Lib.hid (fun V : World => fold_any x _ rfl hx9 V)
      have HF2 := Lib.hid (fun V : World => by
        have h := fold_any (foldS x) _ rfl hf9 V
        rw [fold_two] at h
        exact h)
      have hmF : (toks (sb (foldS x))).length = m := by rw [sb_fold, toks_fold, hm]
      have hnF : (wordsM (foldS x)).length = n1 := by rw [words_fold, hn1]
      have HSF := Lib.hid (fun V : World => by
        have h := (split_any (foldS x) _ rfl hf9 V).mono (fun _ _ h => MadeR.give (E := tkE) h hmF)
        rw [sb_fold, toks_fold] at h
        exact h)
      have HSx := Lib.hid (fun V : World => (split_any x _ rfl hx9 V).mono (fun _ _ h => MadeR.give (E := tkE) h hm))
      have HW := Lib.hid (fun V : World => (words_any x hx9 V).mono (fun _ _ h => h.give hn1))
      have HWF := Lib.hid (fun V : World => by
        have h := (words_any (foldS x) hf9 V).mono (fun _ _ h => h.give hnF)
        rw [words_fold] at h
        exact h)
      have HVx := Lib.hid (fun (V : World) (h : GM V) => valid_any x _ rfl hx9 V h)
      have HVF := Lib.hid (fun (V : World) (g : GM V) => by
        have h := valid_any (foldS x) _ rfl hf9 V g
        rw [sb_fold, valid_fold] at h
        exact h)
      generalize validT (sb x) = z at HVx HVF
      obtain ⟨tl, htl2⟩ : ∃ t, toks (sb x) = t := ⟨_, rfl⟩
      rw [htl2] at HSF HSx hm
      have HMo := Lib.hid (fun (q : Option Addr) (c : Nat) (V : World) (h : At tkE V q tl) => (model_any tl m c q hm (by omega) V h).mono (fun _ _ h => MadeR.give (E := rtE) h hm))
      have HTm := Lib.hid hm
      generalize wordsM x = wl at hn1 HW HWF hsm
      have HN1 := Lib.hid hn1
      generalize foldS x = F at HF HF2 HSF HWF HVF
      clear hx hLy hxs htl hx9 htl2 hm hmF hnF hf9 hn1
      go_upto_region 6 with (go_at_call 22; refine (HF.out wr).mono ?_; rintro en W2 ⟨rfl, hB9⟩; replace hB := link hB hB9; have c0 := C0 W2 hB)
      go_upto_region 7 with (go_at_call 25; refine (HW.out W2).mono ?_; rintro en W3 ⟨q5, c5, rfl, hc5, hA5, hB9⟩; replace hB := link hB hB9)
      have BW := Lib.hid (fun (V : World) (h : Below W3.heap.size W3 V) => link hB h)
      clear c0
      refine wp_region_held_drew (S := fun w' => Below W1.heap.size W1 w' ∧ Below W3.heap.size W3 w') (by kernel_rfl) ⟨below_drew hB, below_drew (Below.refl _ _)⟩ (fun _ => ?_)
      have hHeld : Below W1.heap.size W1 W3.drew ∧ Below W3.heap.size W3 W3.drew := ⟨below_drew hB, below_drew (Below.refl _ _)⟩
      generalize W3.drew = V0 at hHeld ⊢
      refine wt (i := 0) (oi := ⟨some 36, .move (.tmp 11), 9, "law.go:250", #[], none⟩) (v := .string F) (Or.inl ⟨by rfl, fun w' hSw => by go_simp⟩) hHeld ?_
      try simp only [zP, zQ, zS, zZ, zC]
      refine wt (i := 2) (oi := ⟨some 38, .move (.tmp 11), 9, "law.go:250", #[], none⟩) (v := .string F) (Or.inl ⟨by rfl, fun w' hSw => by go_simp⟩) hHeld ?_
      try simp only [zP, zQ, zS, zZ, zC]
      refine wpAnyH_ready (rs := [1]) (by kernel_rfl) (by simp) ?_
      refine AllReadyH.cons (o := ⟨some 37, .call { callee := .value (.func 22), args := #[.tmp 36], argTypes := #[9] }, 9, "law.go:250", #[⟨0, .data⟩], none⟩) rfl (fun K hK => ?_) AllReadyH.nil
      rw [if_pos (by rfl)]
      go_simp
      refine (HF2.out V0).mono ?_
      rintro en Va ⟨rfl, hB9⟩
      dsimp only
      refine hK.out _ _ (⟨link hHeld.1 hB9, link hHeld.2 hB9⟩) (fun hHeld => ?_)
      clear hK K
      try simp only [zP, zQ, zS, zZ, zC]
      clear hB9
      refine wt (i := 3) (oi := ⟨some 39, .binOp .neq 9 (.tmp 37) (.tmp 38) 9, 4, "law.go:250", #[⟨1, .data⟩, ⟨2, .data⟩], none⟩) (v := .bool false) (Or.inl ⟨by rfl, fun w' hSw => by go_simp⟩) hHeld ?_
      try simp only [zP, zQ, zS, zZ, zC]
      refine wt (i := 4) (oi := ⟨some 40, .move (.tmp 39), 4, "law.go:250", #[⟨3, .data⟩, ⟨1, .chain⟩], none⟩) (v := .bool false) (Or.inl ⟨by rfl, fun w' hSw => by go_simp⟩) hHeld ?_
      try simp only [zP, zQ, zS, zZ, zC]
      refine wt (i := 5) (oi := ⟨some 41, .move (.tmp 11), 9, "law.go:250", #[⟨4, .guard⟩], some (4, false)⟩) (v := .string F) (Or.inl ⟨by rfl, fun w' hSw => by go_simp⟩) hHeld ?_
      try simp only [zP, zQ, zS, zZ, zC]
      refine wt (i := 8) (oi := ⟨some 44, .move (.tmp 9), 23, "law.go:250", #[⟨4, .guard⟩], some (4, false)⟩) (v := .slice (some ⟨b, off, none⟩) k c1) (Or.inl ⟨by rfl, fun w' hSw => by go_simp⟩) hHeld ?_
      try simp only [zP, zQ, zS, zZ, zC]
      refine wt (i := 9) (oi := ⟨some 45, .move (.tmp 10), 3, "law.go:250", #[⟨4, .guard⟩], some (4, false)⟩) (v := .int .i64 (i : Int)) (Or.inl ⟨by rfl, fun w' hSw => by go_simp⟩) hHeld ?_
      try simp only [zP, zQ, zS, zZ, zC]
      refine wt (i := 10) (oi := ⟨some 46, .indexAddr 23 (.tmp 44) (.tmp 45), 0, "law.go:250", #[⟨8, .data⟩, ⟨9, .data⟩, ⟨4, .guard⟩], some (4, false)⟩) (v := .pointer (some ⟨b, off + i, none⟩)) (Or.inl ⟨by rfl, fun w' hSw => by go_simp; try (intro hcm; exact absurd hcm (by omega))⟩) hHeld ?_
      try simp only [zP, zQ, zS, zZ, zC]
      refine wt (i := 11) (oi := ⟨some 47, .load 9 (.tmp 46), 9, "law.go:250", #[⟨10, .data⟩, ⟨4, .guard⟩], some (4, false)⟩) (v := .string x) (Or.inl ⟨by rfl, fun w' hSw => by have hc := C0 w' hSw.1; go_simp⟩) hHeld ?_
      try simp only [zP, zQ, zS, zZ, zC]
      refine wpAnyH_ready (rs := [6]) (by kernel_rfl) (by simp) ?_
      refine AllReadyH.cons (o := ⟨some 42, .call { callee := .value (.func 18), args := #[.tmp 41], argTypes := #[9] }, 33, "law.go:250", #[⟨5, .data⟩, ⟨4, .chain⟩, ⟨4, .guard⟩], some (4, false)⟩) rfl (fun K hK => ?_) AllReadyH.nil
      rw [if_pos (by rfl)]
      go_simp
      refine (HSF.out Va).mono ?_
      rintro en Vb ⟨q6, c6, rfl, hc6, hA6, hB9⟩
      dsimp only
      refine hK.out _ _ (⟨link hHeld.1 hB9, link hHeld.2 hB9⟩) (fun hHeld => ?_)
      clear hK K
      try simp only [zP, zQ, zS, zZ, zC]
      clear hB9
      refine wpAnyH_ready (rs := [7]) (by kernel_rfl) (by simp) ?_
      refine AllReadyH.cons (o := ⟨some 43, .call { callee := .value (.func 17), args := #[.tmp 42], argTypes := #[33] }, 29, "law.go:250", #[⟨6, .data⟩, ⟨6, .chain⟩, ⟨4, .guard⟩], some (4, false)⟩) rfl (fun K hK => ?_) AllReadyH.nil
      rw [if_pos (by rfl)]
      go_simp
      refine (HMo.out q6 c6 Vb hA6).mono ?_
      rintro en Vc ⟨q7, c7, rfl, hc7, hA7, hB9⟩
      dsimp only
      refine hK.out _ _ (⟨link hHeld.1 hB9, link hHeld.2 hB9⟩) (fun hHeld => ?_)
      clear hK K
      try simp only [zP, zQ, zS, zZ, zC]
      clear hB9
      refine wpAnyH_ready (rs := [12]) (by kernel_rfl) (by simp) ?_
      refine AllReadyH.cons (o := ⟨some 48, .call { callee := .value (.func 18), args := #[.tmp 47], argTypes := #[9] }, 33, "law.go:250", #[⟨11, .data⟩, ⟨7, .chain⟩, ⟨4, .guard⟩], some (4, false)⟩) rfl (fun K hK => ?_) AllReadyH.nil
      rw [if_pos (by rfl)]
      go_simp
      refine (HSx.out Vc).mono ?_
      rintro en Vd ⟨q8, c8, rfl, hc8, hA8, hB9⟩
      dsimp only
      replace hA7 := hA7.keep hB9
      refine hK.out _ _ (⟨link hHeld.1 hB9, link hHeld.2 hB9⟩) (fun hHeld => ?_)
      clear hK K
      try simp only [zP, zQ, zS, zZ, zC]
      clear hB9
      refine wpAnyH_ready (rs := [13]) (by kernel_rfl) (by simp) ?_
      refine AllReadyH.cons (o := ⟨some 49, .call { callee := .value (.func 17), args := #[.tmp 48], argTypes := #[33] }, 29, "law.go:250", #[⟨12, .data⟩, ⟨12, .chain⟩, ⟨4, .guard⟩], some (4, false)⟩) rfl (fun K hK => ?_) AllReadyH.nil
      rw [if_pos (by rfl)]
      go_simp
      refine (HMo.out q8 c8 Vd hA8).mono ?_
      rintro en Ve ⟨q9, c9, rfl, hc9, hA9, hB9⟩
      dsimp only
      replace hA7 := hA7.keep hB9
      refine hK.out _ _ (⟨link hHeld.1 hB9, link hHeld.2 hB9⟩) (fun hHeld => ?_)
      clear hK K
      try simp only [zP, zQ, zS, zZ, zC]
      clear hB9
      refine wpAnyH_ready (rs := [14]) (by kernel_rfl) (by simp) ?_
      refine AllReadyH.cons (o := ⟨some 50, .call { callee := .value (.func 16), args := #[.tmp 43, .tmp 49], argTypes := #[29, 29] }, 4, "law.go:250", #[⟨7, .data⟩, ⟨13, .data⟩, ⟨13, .chain⟩, ⟨4, .guard⟩], some (4, false)⟩) rfl (fun K hK => ?_) AllReadyH.nil
      rw [if_pos (by rfl)]
      go_simp
      refine (same_refl tl q7 q9 m c7 c9 HTm.out (by omega) Ve hA7 hA9).mono ?_
      rintro en Vf ⟨rfl, hB9⟩
      dsimp only
      refine hK.out _ _ (⟨link hHeld.1 hB9, link hHeld.2 hB9⟩) (fun hHeld => ?_)
      clear hK K
      try simp only [zP, zQ, zS, zZ, zC]
      clear hB9
      refine wt (i := 15) (oi := ⟨some 51, .unOp .not 4 (.tmp 50), 4, "law.go:250", #[⟨14, .data⟩, ⟨4, .guard⟩], some (4, false)⟩) (v := .bool false) (Or.inl ⟨by rfl, fun w' hSw => by go_simp⟩) hHeld ?_
      try simp only [zP, zQ, zS, zZ, zC]
      refine wt (i := 16) (oi := ⟨some 52, .pick (.tmp 40) (.const (Value.bool true)) (.tmp 51), 4, "law.go:250", #[⟨4, .data⟩, ⟨15, .data⟩], none⟩) (v := .bool false) (Or.inl ⟨by rfl, fun w' hSw => by go_simp⟩) hHeld ?_
      try simp only [zP, zQ, zS, zZ, zC]
      refine wt (i := 17) (oi := ⟨some 53, .move (.tmp 52), 4, "law.go:250", #[⟨16, .data⟩, ⟨14, .chain⟩], none⟩) (v := .bool false) (Or.inl ⟨by rfl, fun w' hSw => by go_simp⟩) hHeld ?_
      try simp only [zP, zQ, zS, zZ, zC]
      refine wt (i := 18) (oi := ⟨some 54, .move (.tmp 11), 9, "law.go:250", #[⟨17, .guard⟩], some (17, false)⟩) (v := .string F) (Or.inl ⟨by rfl, fun w' hSw => by go_simp⟩) hHeld ?_
      try simp only [zP, zQ, zS, zZ, zC]
      refine wt (i := 20) (oi := ⟨some 56, .move (.tmp 12), 23, "law.go:250", #[⟨17, .guard⟩], some (17, false)⟩) (v := .slice q5 n1 c5) (Or.inl ⟨by rfl, fun w' hSw => by go_simp⟩) hHeld ?_
      try simp only [zP, zQ, zS, zZ, zC]
      refine wpAnyH_ready (rs := [19]) (by kernel_rfl) (by simp) ?_
      refine AllReadyH.cons (o := ⟨some 55, .call { callee := .value (.func 25), args := #[.tmp 54], argTypes := #[9] }, 23, "law.go:250", #[⟨18, .data⟩, ⟨17, .chain⟩, ⟨17, .guard⟩], some (17, false)⟩) rfl (fun K hK => ?_) AllReadyH.nil
      rw [if_pos (by rfl)]
      go_simp
      refine (HWF.out Vf).mono ?_
      rintro en Vg ⟨q10, c10, rfl, hc10, hA10, hB9⟩
      dsimp only
      refine hK.out _ _ (⟨link hHeld.1 hB9, link hHeld.2 hB9⟩) (fun hHeld => ?_)
      clear hK K
      try simp only [zP, zQ, zS, zZ, zC]
      clear hB9
      refine wpAnyH_ready (rs := [21]) (by kernel_rfl) (by simp) ?_
      refine AllReadyH.cons (o := ⟨some 57, .call { callee := .value (.func 24), args := #[.tmp 55, .tmp 56], argTypes := #[23, 23] }, 4, "law.go:250", #[⟨19, .data⟩, ⟨20, .data⟩, ⟨19, .chain⟩, ⟨17, .guard⟩], some (17, false)⟩) rfl (fun K hK => ?_) AllReadyH.nil
      rw [if_pos (by rfl)]
      go_simp
      refine (sameTexts_refl wl q10 q5 n1 c10 c5 HN1.out (by omega) Vg hA10 (hA5.keep hHeld.2)).mono ?_
      rintro en Vh ⟨rfl, hB9⟩
      dsimp only
      refine hK.out _ _ (⟨link hHeld.1 hB9, link hHeld.2 hB9⟩) (fun hHeld => ?_)
      clear hK K
      try simp only [zP, zQ, zS, zZ, zC]
      clear hB9
      refine wt (i := 22) (oi := ⟨some 58, .unOp .not 4 (.tmp 57), 4, "law.go:250", #[⟨21, .data⟩, ⟨17, .guard⟩], some (17, false)⟩) (v := .bool false) (Or.inl ⟨by rfl, fun w' hSw => by go_simp⟩) hHeld ?_
      try simp only [zP, zQ, zS, zZ, zC]
      refine wt (i := 23) (oi := ⟨some 59, .pick (.tmp 53) (.const (Value.bool true)) (.tmp 58), 4, "law.go:250", #[⟨17, .data⟩, ⟨22, .data⟩], none⟩) (v := .bool false) (Or.inl ⟨by rfl, fun w' hSw => by go_simp⟩) hHeld ?_
      try simp only [zP, zQ, zS, zZ, zC]
      refine wt (i := 24) (oi := ⟨some 60, .move (.tmp 59), 4, "law.go:250", #[⟨23, .data⟩, ⟨21, .chain⟩], none⟩) (v := .bool false) (Or.inl ⟨by rfl, fun w' hSw => by go_simp⟩) hHeld ?_
      try simp only [zP, zQ, zS, zZ, zC]
      refine wt (i := 25) (oi := ⟨some 61, .move (.tmp 11), 9, "law.go:250", #[⟨24, .guard⟩], some (24, false)⟩) (v := .string F) (Or.inl ⟨by rfl, fun w' hSw => by go_simp⟩) hHeld ?_
      try simp only [zP, zQ, zS, zZ, zC]
      refine wt (i := 27) (oi := ⟨some 63, .move (.tmp 9), 23, "law.go:250", #[⟨24, .guard⟩], some (24, false)⟩) (v := .slice (some ⟨b, off, none⟩) k c1) (Or.inl ⟨by rfl, fun w' hSw => by go_simp⟩) hHeld ?_
      try simp only [zP, zQ, zS, zZ, zC]
      refine wt (i := 28) (oi := ⟨some 64, .move (.tmp 10), 3, "law.go:250", #[⟨24, .guard⟩], some (24, false)⟩) (v := .int .i64 (i : Int)) (Or.inl ⟨by rfl, fun w' hSw => by go_simp⟩) hHeld ?_
      try simp only [zP, zQ, zS, zZ, zC]
      refine wt (i := 29) (oi := ⟨some 65, .indexAddr 23 (.tmp 63) (.tmp 64), 0, "law.go:250", #[⟨27, .data⟩, ⟨28, .data⟩, ⟨24, .guard⟩], some (24, false)⟩) (v := .pointer (some ⟨b, off + i, none⟩)) (Or.inl ⟨by rfl, fun w' hSw => by go_simp; try (intro hcm; exact absurd hcm (by omega))⟩) hHeld ?_
      try simp only [zP, zQ, zS, zZ, zC]
      refine wt (i := 30) (oi := ⟨some 66, .load 9 (.tmp 65), 9, "law.go:250", #[⟨29, .data⟩, ⟨24, .guard⟩], some (24, false)⟩) (v := .string x) (Or.inl ⟨by rfl, fun w' hSw => by have hc := C0 w' hSw.1; go_simp⟩) hHeld ?_
      try simp only [zP, zQ, zS, zZ, zC]
      refine wpAnyH_ready (rs := [26]) (by kernel_rfl) (by simp) ?_
      refine AllReadyH.cons (o := ⟨some 62, .call { callee := .value (.func 12), args := #[.tmp 61], argTypes := #[9] }, 25, "law.go:250", #[⟨25, .data⟩, ⟨24, .chain⟩, ⟨24, .guard⟩], some (24, false)⟩) rfl (fun K hK => ?_) AllReadyH.nil
      rw [if_pos (by rfl)]
      go_simp
      refine (HVF.out Vh (hG1.out.keep hHeld.1)).mono ?_
      rintro en Vi ⟨rfl, hB9⟩
      dsimp only
      refine hK.out _ _ (⟨link hHeld.1 hB9, link hHeld.2 hB9⟩) (fun hHeld => ?_)
      clear hK K
      try simp only [zP, zQ, zS, zZ, zC]
      clear hB9
      refine wpAnyH_ready (rs := [31]) (by kernel_rfl) (by simp) ?_
      refine AllReadyH.cons (o := ⟨some 67, .call { callee := .value (.func 12), args := #[.tmp 66], argTypes := #[9] }, 25, "law.go:250", #[⟨30, .data⟩, ⟨26, .chain⟩, ⟨24, .guard⟩], some (24, false)⟩) rfl (fun K hK => ?_) AllReadyH.nil
      rw [if_pos (by rfl)]
      go_simp
      refine (HVx.out Vi (hG1.out.keep hHeld.1)).mono ?_
      rintro en Vj ⟨rfl, hB9⟩
      dsimp only
      refine hK.out _ _ (⟨link hHeld.1 hB9, link hHeld.2 hB9⟩) (fun hHeld => ?_)
      clear hK K
      try simp only [zP, zQ, zS, zZ, zC]
      clear hB9
      refine wt (i := 32) (oi := ⟨some 68, .binOp .neq 25 (.tmp 62) (.tmp 67) 25, 4, "law.go:250", #[⟨26, .data⟩, ⟨31, .data⟩, ⟨24, .guard⟩], some (24, false)⟩) (v := .bool false) (Or.inl ⟨by rfl, fun w' hSw => by go_simp⟩) hHeld ?_
      try simp only [zP, zQ, zS, zZ, zC]
      refine wt (i := 33) (oi := ⟨some 69, .pick (.tmp 60) (.const (Value.bool true)) (.tmp 68), 4, "law.go:250", #[⟨24, .data⟩, ⟨32, .data⟩], none⟩) (v := .bool false) (Or.inl ⟨by rfl, fun w' hSw => by go_simp⟩) hHeld ?_
      try simp only [zP, zQ, zS, zZ, zC]
      refine wpAnyH_done (by kernel_rfl) ?_ _
      have BX := hHeld
      clear hHeld 
      obtain ⟨BX, BY⟩ := BX
      clear C0 HF HF2 HSF HSx HW HWF HVx HVF HMo hc6 hA6 hc7 hA7 hc8 hA8 hc9 hA9 hc10 hA10 hB
      obtain ⟨wo, rfl⟩ : ∃ wo, wo = wr := ⟨_, rfl⟩
      go_wp2
      go_loopw [13] (fun v wr => NumRel W3 n1 v wr) (fun v _ => n1 - (intOf v).toNat)
      case atStart => exact ⟨0, Nat.zero_le _, rfl, BY⟩
      case round =>
        obtain ⟨j, hj, rfl, hB3⟩ := hrel
        rcases Nat.lt_or_ge j n1 with hltj | hgej
        · obtain ⟨y, hy⟩ : ∃ a, wl[j]? = some a := ⟨_, List.getElem?_eq_getElem (by rw [HN1.out]; exact hltj)⟩
          obtain ⟨⟨hy0, hyc⟩, hy6⟩ := hsm y (List.mem_of_getElem? hy)
          obtain ⟨b2, off2, rfl, hL2⟩ := hA5.get (i := j) (by rw [HN1.out]; exact hltj)
          have c2 : wr.cell? ⟨b2, off2 + j, none⟩ = some (.string y) := by
            have := (hL2.keep hB3).2 j y 0 _ hy rfl
            rwa [show strE.k = 1 from rfl, Nat.mul_one, Nat.add_zero] at this
          have he : ((y.size : Int) == 0) = false := by rw [beq_eq_false_iff_ne]; omega
          have HYC := Lib.hid hyc
          clear hy0 hyc hL2 hy
          go_wp2
          obtain ⟨wm, rfl⟩ : ∃ wm, wm = wr := ⟨_, rfl⟩
          go_loopw [14] (fun v wr => StandRel wm y.size v wr) (fun v _ => y.size - (intOf v).toNat)
          case atStart => exact ⟨0, Nat.zero_le _, rfl, rfl⟩
          case round =>
            obtain ⟨g, hg, rfl, rfl⟩ := hrel
            rcases Nat.lt_or_ge g y.size with hgy | hgeg
            · skip
              obtain ⟨hbg, hb⟩ := sb_get hgy
              obtain ⟨hl1, hl2⟩ := HYC.out _ (List.mem_of_getElem? hbg)
              have hcb : ¬ (((y[g]'hgy).toNat : Nat) : Int) < 97 := by omega
              have hcb2 : ¬ (122 : Int) < (((y[g]'hgy).toNat : Nat) : Int) := by omega
              clear hbg hb hl1 hl2
              go_wp2
              exact ⟨⟨g + 1, by omega, by go_num, rfl⟩, by simp [intOf]; omega⟩
            · have hltg : ¬ g < y.size := by omega
              obtain rfl : g = y.size := by omega
              go_wp2
              exact ⟨⟨j + 1, by omega, by go_num, hB3⟩, by simp [intOf]; omega⟩
        · have hltj : ¬ j < n1 := by omega
          obtain rfl : j = n1 := by omega
          go_wp2
          exact ⟨⟨i + 1, by omega, by go_num, BW.out _ hB3⟩, by simp [intOf]; omega⟩
    · have hlt : ¬ i < k := by omega
      obtain rfl : i = k := by omega
      go_wp2_with (go_at_call 14; refine (HLv.out _ (hG1.out.keep hB)).mono ?_; rintro en W9 ⟨rfl, hB9⟩)
      go_ret
      exact ⟨rfl, link hB1 (link hB hB9)⟩
end Go.Proofs.Ytehkgpefmjfifaa
