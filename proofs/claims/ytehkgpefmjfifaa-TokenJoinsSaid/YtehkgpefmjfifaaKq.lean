/-
  token.Cut and the reference's.
-/
import Derived.Test.YtehkgpefmjfifaaKp
namespace Go.Proofs.Ytehkgpefmjfifaa
open Go.RowKit
set_option linter.unusedVariables false
set_option linter.unusedSimpArgs false

/-- What Cut answers. -/
def cutM (s : ByteArray) (k : Int) : ByteArray × ByteArray × Int :=
  if validT (sb s) = 0 then
    if 1 ≤ k then
      (match (toks (sb s))[k.toNat - 1]?, (toks (sb s))[k.toNat]? with
       | some t, some u => if t.2.1 < u.1 then (s.extract 0 (u.1 - 1), s.extract u.1 s.size, 0) else (⟨#[]⟩, ⟨#[]⟩, 5)
       | _, _ => (⟨#[]⟩, ⟨#[]⟩, 5))
    else (⟨#[]⟩, ⟨#[]⟩, 5)
  else (⟨#[]⟩, ⟨#[]⟩, validT (sb s))
theorem cut_bad {s : ByteArray} {k : Int} (h : validT (sb s) ≠ 0) : cutM s k = (⟨#[]⟩, ⟨#[]⟩, validT (sb s)) := by unfold cutM; rw [if_neg h]
theorem cut_low {s : ByteArray} {k : Int} (h : validT (sb s) = 0) (hk : ¬ 1 ≤ k) : cutM s k = (⟨#[]⟩, ⟨#[]⟩, 5) := by unfold cutM; rw [if_pos h, if_neg hk]
theorem cut_high {s : ByteArray} {k : Int} (h : validT (sb s) = 0) (hk : ((toks (sb s)).length : Int) ≤ k) : cutM s k = (⟨#[]⟩, ⟨#[]⟩, 5) := by
  unfold cutM
  rw [if_pos h]
  split
  · rw [List.getElem?_eq_none (l := toks (sb s)) (i := k.toNat) (by omega)]
    split
    · rename_i e; cases e
    · rfl
  · rfl
theorem cut_in {s : ByteArray} {i0 i : Nat} {t u : Tk} (h : validT (sb s) = 0) (hi : i = i0 + 1) (ht : (toks (sb s))[i0]? = some t) (hu : (toks (sb s))[i]? = some u) : cutM s (i : Int) = if t.2.1 < u.1 then (s.extract 0 (u.1 - 1), s.extract u.1 s.size, 0) else (⟨#[]⟩, ⟨#[]⟩, 5) := by
  subst hi
  unfold cutM
  rw [if_pos h, if_pos (by omega), show ((i0 + 1 : Nat) : Int).toNat = i0 + 1 from rfl, show i0 + 1 - 1 = i0 from rfl, ht, hu]
def three (r : ByteArray × ByteArray × Int) : Value := .tuple #[.string r.1, .string r.2.1, .int .i64 r.2.2]
def CutV (r : ByteArray × ByteArray × Int) (w : World) (e : Ending) (w' : World) : Prop := e = .returned (three r) ∧ Below w.heap.size w w'
theorem kd_blank {c : Nat} : kd c = 4 ↔ c = 32 := by
  unfold kd
  split
  · rename_i h; simp [h]
  · rename_i h
    constructor
    · intro g
      split at g
      · cases g
      · split at g
        · cases g
        · split at g <;> cases g
    · intro g; exact absurd g h

set_option maxHeartbeats 4000000 in
set_option maxRecDepth 100000 in
theorem cut_any (s : ByteArray) (hn6 : s.size ≤ 1000000000) (k : Int) (hk1 : -9223372036854775808 ≤ k) (hk2 : k ≤ 9223372036854775807) (w : World) (hG : GM w) :
    Calls Try.prog 35 #[.string s, .int .i64 k] w (CutV (cutM s k) w) := by
  have HV := Lib.hid (valid_any s s.size rfl hn6 w hG)
  have HS := Lib.hid (fun (V : World) => split_any s s.size rfl hn6 V)
  obtain ⟨n, hn⟩ : ∃ n, (toks (sb s)).length = n := ⟨_, rfl⟩
  have hnb : n ≤ 1000000000 := by have := toks_len (sb s); rw [sb_length] at this; omega
  have HN := Lib.hid hn
  obtain ⟨r, hr⟩ : ∃ r, cutM s k = r := ⟨_, rfl⟩
  rw [hr]
  obtain ⟨z, hz⟩ : ∃ z, validT (sb s) = z := ⟨_, rfl⟩
  rw [hz] at HV
  by_cases hz0 : z = 0
  · subst hz0
    by_cases hk : 1 ≤ k
    · by_cases hkn : (n : Int) ≤ k
      · have HR := Lib.hid (hr.symm.trans (cut_high hz (by rw [hn]; exact hkn)))
        have hk0 : ¬ k < 1 := by omega
        clear hr hn hz
        go_enter Try.func35, Try.ntmps35
        go_wp2_with (first | (go_at_call 12; refine HV.out.mono ?_; rintro en W0 ⟨rfl, hB0⟩) | (go_at_call 18; refine (HS.out W0).mono ?_; rintro en W1 ⟨v, rfl, hO, hB1⟩; replace hB1 := link hB0 hB1; obtain ⟨q, c, rfl, hc, hAt, _, _⟩ := hO.form; rw [HN.out] at hc ⊢))
        go_ret3
        exact ⟨by rw [HR.out]; rfl, hB1⟩
      · obtain ⟨i, rfl⟩ := Int.eq_ofNat_of_zero_le (show 0 ≤ k by omega)
        have hi : i < n := by omega
        obtain ⟨i0, hi0⟩ : ∃ i0, i = i0 + 1 := ⟨i - 1, by omega⟩
        obtain ⟨t, ht⟩ : ∃ a, (toks (sb s))[i0]? = some a := ⟨_, List.getElem?_eq_getElem (by omega)⟩
        obtain ⟨u, hu⟩ : ∃ a, (toks (sb s))[i]? = some a := ⟨_, List.getElem?_eq_getElem (by omega)⟩
        have hcv := hr.symm.trans (cut_in hz hi0 ht hu)
        clear hr hz
        obtain ⟨ua, ue, uk⟩ := u
        obtain ⟨u0, hu0⟩ : ∃ u0, ua = u0 + 1 := by
          have h := tok_mono (i := i0) (j := i) (by omega) ht hu
          have h2 := toks_in ht
          have h3 := h.2.2 (by omega)
          have h4 : t.2.1 ≤ ua := h3
          exact ⟨ua - 1, by omega⟩
        have hin := toks_in hu
        rw [sb_length] at hin
        have hua : ua < s.size := Nat.lt_of_lt_of_le hin.1 hin.2.1
        have hu0s : u0 < s.size := by omega
        obtain ⟨hg, hb⟩ := sb_get hu0s
        have hub := unit_begin ht (hi0 ▸ hu)
        have hub : kdAt (sb s) (ua - 1) = 4 ↔ t.2.1 < ua := hub
        rw [show ua - 1 = u0 from by omega, kdAt_get hg, kd_blank] at hub
        have hcv : r = if t.2.1 < ua then (s.extract 0 (ua - 1), s.extract ua s.size, 0) else (⟨#[]⟩, ⟨#[]⟩, 5) := hcv
        rw [show ua - 1 = u0 from by omega] at hcv
        have hsub : (ua : Int) - 1 = (u0 : Int) := by omega
        have HW := Lib.hid (show IntKind.i64.wrap (u0 : Int) = (u0 : Int) from by simp [IntKind.wrap, IntKind.signed, IntKind.bits]; omega)
        have HU := Lib.hid hu
        have hu0a : u0 ≤ ua := by omega
        clear hu0 hin hg ht hu hn hi0
        have hk0 : ¬ (i : Int) < 1 := by omega
        by_cases hgap : t.2.1 < ua
        · rw [if_pos hgap] at hcv
          have HR := Lib.hid hcv
          have hby : (((s[u0]'hu0s).toNat : Int) != 32) = false := by simp [hub.2 hgap]
          clear hcv hub hgap
          go_enter Try.func35, Try.ntmps35
          go_upto_region 5 with (first | (go_at_call 12; refine HV.out.mono ?_; rintro en W0 ⟨rfl, hB0⟩) | (go_at_call 18; refine (HS.out W0).mono ?_; rintro en W1 ⟨v, rfl, hO, hB1⟩; replace hB1 := link hB0 hB1; obtain ⟨q, c, rfl, hc, hAt, _, _⟩ := hO.form; rw [HN.out] at hc ⊢))
          obtain ⟨b, off, rfl, hL⟩ := hAt.get (i := i) (by rw [HN.out]; exact hi)
          have c0 : W1.cell? ⟨b, off + i * 3, none⟩ = some (.int .i64 (ua : Int)) := hL.2 i (ua, ue, uk) 0 _ HU.out rfl
          clear hL hAt hO
          go_upto_region 8 with (fail)
          refine wp_region_held_drew (S := fun w' => Below w.heap.size w w') (by kernel_rfl) (below_drew (hB1)) (fun _ => ?_)
          have hHeld : Below w.heap.size w W1.drew := below_drew (hB1)
          generalize W1.drew = V0 at hHeld ⊢
          refine wt (i := 0) (oi := ⟨some 41, .move (.tmp 0), 9, "token.go:160", #[], none⟩) (v := .string s) (Or.inl ⟨by rfl, fun w' hSw => by go_simp⟩) hHeld ?_
          try simp only [zP, zQ, zS, zZ, zC]
          refine wt (i := 1) (oi := ⟨some 42, .move (.tmp 9), 3, "token.go:160", #[], none⟩) (v := .int .i64 (ua : Int)) (Or.inl ⟨by rfl, fun w' hSw => by go_simp⟩) hHeld ?_
          try simp only [zP, zQ, zS, zZ, zC]
          refine wt (i := 2) (oi := ⟨some 43, .binOp .sub 3 (.tmp 42) (.const (Value.int IntKind.i64 1)) 3, 3, "token.go:160", #[⟨1, .data⟩], none⟩) (v := .int .i64 (u0 : Int)) (Or.inl ⟨by rfl, fun w' hSw => by have hw := HW.out; go_simp⟩) hHeld ?_
          try simp only [zP, zQ, zS, zZ, zC]
          refine wt (i := 3) (oi := ⟨some 44, .slice 9 (.tmp 41) none (some (.tmp 43)) none, 9, "token.go:160", #[⟨0, .data⟩, ⟨2, .data⟩], none⟩) (v := .string (s.extract 0 u0)) (Or.inl ⟨by rfl, fun w' hSw => by go_simp; try (intro hcm; exact absurd hcm (by omega))⟩) hHeld ?_
          try simp only [zP, zQ, zS, zZ, zC]
          refine wt (i := 4) (oi := ⟨some 45, .move (.tmp 0), 9, "token.go:160", #[], none⟩) (v := .string s) (Or.inl ⟨by rfl, fun w' hSw => by go_simp⟩) hHeld ?_
          try simp only [zP, zQ, zS, zZ, zC]
          refine wt (i := 5) (oi := ⟨some 46, .move (.tmp 9), 3, "token.go:160", #[], none⟩) (v := .int .i64 (ua : Int)) (Or.inl ⟨by rfl, fun w' hSw => by go_simp⟩) hHeld ?_
          try simp only [zP, zQ, zS, zZ, zC]
          refine wt (i := 6) (oi := ⟨some 47, .slice 9 (.tmp 45) (some (.tmp 46)) none none, 9, "token.go:160", #[⟨4, .data⟩, ⟨5, .data⟩], none⟩) (v := .string (s.extract ua s.size)) (Or.inl ⟨by rfl, fun w' hSw => by go_simp; try (intro hcm; exact absurd hcm (by omega))⟩) hHeld ?_
          try simp only [zP, zQ, zS, zZ, zC]
          refine wpAnyH_ready (rs := [7]) (by kernel_rfl) (by simp) ?_
          refine AllReadyH.cons (o := ⟨some 4, .assign (.tmp 44), 9, "token.go:160", #[⟨3, .data⟩, ⟨0, .phase⟩, ⟨1, .phase⟩, ⟨2, .phase⟩, ⟨3, .phase⟩, { on := 4, ground := Ground.textOnly Departure.lateStores }, { on := 5, ground := Ground.textOnly Departure.lateStores }, { on := 6, ground := Ground.textOnly Departure.lateStoresUnsure }], none⟩) rfl (fun K hK => ?_) AllReadyH.nil
          go_simp
          refine hK.out _ _ (hHeld) (fun hHeld => ?_)
          clear hK K
          try simp only [zP, zQ, zS, zZ, zC]
          refine wpAnyH_ready (rs := [8]) (by kernel_rfl) (by simp) ?_
          refine AllReadyH.cons (o := ⟨some 5, .assign (.tmp 47), 9, "token.go:160", #[⟨6, .data⟩, ⟨7, .chain⟩, ⟨0, .phase⟩, ⟨1, .phase⟩, ⟨2, .phase⟩, ⟨3, .phase⟩, ⟨4, .phase⟩, ⟨5, .phase⟩, ⟨6, .phase⟩, ⟨7, .phase⟩], none⟩) rfl (fun K hK => ?_) AllReadyH.nil
          go_simp
          refine hK.out _ _ (hHeld) (fun hHeld => ?_)
          clear hK K
          try simp only [zP, zQ, zS, zZ, zC]
          refine wpAnyH_ready (rs := [9]) (by kernel_rfl) (by simp) ?_
          refine AllReadyH.cons (o := ⟨some 6, .assign (.const (Value.int IntKind.i64 0)), 25, "token.go:160", #[⟨8, .chain⟩, ⟨0, .phase⟩, ⟨1, .phase⟩, ⟨2, .phase⟩, ⟨3, .phase⟩, ⟨4, .phase⟩, ⟨5, .phase⟩, ⟨6, .phase⟩, ⟨7, .phase⟩, ⟨8, .phase⟩], none⟩) rfl (fun K hK => ?_) AllReadyH.nil
          go_simp
          refine hK.out _ _ (hHeld) (fun hHeld => ?_)
          clear hK K
          try simp only [zP, zQ, zS, zZ, zC]
          refine wpAnyH_done (by kernel_rfl) ?_ _
          have BX := hHeld
          clear hHeld 
          go_wp2
          go_ret3
          exact ⟨by rw [HR.out]; rfl, BX⟩
        · rw [if_neg hgap] at hcv
          have HR := Lib.hid hcv
          have hby : (((s[u0]'hu0s).toNat : Int) != 32) = true := by simp; intro h; exact hgap (hub.1 (by omega))
          clear hcv hub hgap
          go_enter Try.func35, Try.ntmps35
          go_upto_region 5 with (first | (go_at_call 12; refine HV.out.mono ?_; rintro en W0 ⟨rfl, hB0⟩) | (go_at_call 18; refine (HS.out W0).mono ?_; rintro en W1 ⟨v, rfl, hO, hB1⟩; replace hB1 := link hB0 hB1; obtain ⟨q, c, rfl, hc, hAt, _, _⟩ := hO.form; rw [HN.out] at hc ⊢))
          obtain ⟨b, off, rfl, hL⟩ := hAt.get (i := i) (by rw [HN.out]; exact hi)
          have c0 : W1.cell? ⟨b, off + i * 3, none⟩ = some (.int .i64 (ua : Int)) := hL.2 i (ua, ue, uk) 0 _ HU.out rfl
          clear hL hAt hO
          go_wp2
          go_ret3
          exact ⟨by rw [HR.out]; rfl, hB1⟩
    · have HR := Lib.hid (hr.symm.trans (cut_low hz hk))
      have hk0 : k < 1 := by omega
      clear hr hn hz hk
      go_enter Try.func35, Try.ntmps35
      go_wp2_with (first | (go_at_call 12; refine HV.out.mono ?_; rintro en W0 ⟨rfl, hB0⟩) | (go_at_call 18; refine (HS.out W0).mono ?_; rintro en W1 ⟨v, rfl, hO, hB1⟩; replace hB1 := link hB0 hB1; obtain ⟨q, c, rfl, hc, hAt, _, _⟩ := hO.form; rw [HN.out] at hc ⊢))
      go_ret3
      exact ⟨by rw [HR.out]; rfl, hB1⟩
  · have HR := Lib.hid (hr.symm.trans (cut_bad (by rw [hz]; exact hz0)))
    rw [hz] at HR
    have hzb : (z != 0) = true := by simp [hz0]
    clear hr hn hz hz0
    go_enter Try.func35, Try.ntmps35
    go_wp2_with (go_at_call 12; refine HV.out.mono ?_; rintro en W0 ⟨rfl, hB0⟩)
    go_ret3
    exact ⟨by rw [HR.out]; rfl, hB0⟩

set_option maxHeartbeats 4000000 in
set_option maxRecDepth 100000 in
theorem rcut_any (s : ByteArray) (hn6 : s.size ≤ 1000000000) (k : Int) (hk1 : -9223372036854775808 ≤ k) (hk2 : k ≤ 9223372036854775807) (w : World) :
    Calls Try.prog 36 #[.string s, .int .i64 k] w (CutV (cutM s k) w) := by
  have HV := Lib.hid (rvalid_any s s.size rfl hn6 w)
  have HS := Lib.hid (fun (V : World) => rsplit_any s s.size rfl hn6 V)
  obtain ⟨n, hn⟩ : ∃ n, (toks (sb s)).length = n := ⟨_, rfl⟩
  have hnb : n ≤ 1000000000 := by have := toks_len (sb s); rw [sb_length] at this; omega
  have HN := Lib.hid hn
  obtain ⟨r, hr⟩ : ∃ r, cutM s k = r := ⟨_, rfl⟩
  rw [hr]
  obtain ⟨z, hz⟩ : ∃ z, validT (sb s) = z := ⟨_, rfl⟩
  rw [hz] at HV
  by_cases hz0 : z = 0
  · subst hz0
    by_cases hk : 1 ≤ k
    · by_cases hkn : (n : Int) ≤ k
      · have HR := Lib.hid (hr.symm.trans (cut_high hz (by rw [hn]; exact hkn)))
        have hk0 : ¬ k < 1 := by omega
        clear hr hn hz
        go_enter Try.func36, Try.ntmps36
        go_wp2_with (first | (go_at_call 13; refine HV.out.mono ?_; rintro en W0 ⟨rfl, hB0⟩) | (go_at_call 15; refine (HS.out W0).mono ?_; rintro en W1 ⟨v, rfl, hO, hB1⟩; replace hB1 := link hB0 hB1; obtain ⟨q, c, rfl, hc, hAt, _, _⟩ := hO.form; rw [HN.out] at hc ⊢))
        go_ret3
        exact ⟨by rw [HR.out]; rfl, hB1⟩
      · obtain ⟨i, rfl⟩ := Int.eq_ofNat_of_zero_le (show 0 ≤ k by omega)
        have hi : i < n := by omega
        obtain ⟨i0, hi0⟩ : ∃ i0, i = i0 + 1 := ⟨i - 1, by omega⟩
        obtain ⟨t, ht⟩ : ∃ a, (toks (sb s))[i0]? = some a := ⟨_, List.getElem?_eq_getElem (by omega)⟩
        obtain ⟨u, hu⟩ : ∃ a, (toks (sb s))[i]? = some a := ⟨_, List.getElem?_eq_getElem (by omega)⟩
        have hcv := hr.symm.trans (cut_in hz hi0 ht hu)
        clear hr hz
        have hsub0 := toks_in hu
        rw [sb_length] at hsub0
        have HF := Lib.hid (fun (q : Option Addr) (c : Nat) (V : World) (hA : At rtE V q (toks (sb s))) => rfirst_any s n hn hnb q c i i0 hi hi0 t u ht hu V hA)
        obtain ⟨ua, ue, uk⟩ := u
        obtain ⟨u0, hu0⟩ : ∃ u0, ua = u0 + 1 := by
          have h := tok_mono (i := i0) (j := i) (by omega) ht hu
          have h2 := toks_in ht
          have h3 := h.2.2 (by omega)
          have h4 : t.2.1 ≤ ua := h3
          exact ⟨ua - 1, by omega⟩
        have hua : ua < s.size := Nat.lt_of_lt_of_le hsub0.1 hsub0.2.1
        have hu0s : u0 < s.size := by omega
        have hcv : r = if t.2.1 < ua then (s.extract 0 (ua - 1), s.extract ua s.size, 0) else (⟨#[]⟩, ⟨#[]⟩, 5) := hcv
        rw [show ua - 1 = u0 from by omega] at hcv
        have hsub : (ua : Int) - 1 = (u0 : Int) := by omega
        have HW := Lib.hid (show IntKind.i64.wrap (u0 : Int) = (u0 : Int) from by simp [IntKind.wrap, IntKind.signed, IntKind.bits]; omega)
        have HU := Lib.hid hu
        have hu0a : u0 ≤ ua := by omega
        clear hu0 hsub0 ht hu hn hi0
        have hk0 : ¬ (i : Int) < 1 := by omega
        have HF : Hid (∀ (q : Option Addr) (c : Nat) (V : World), At rtE V q (toks (sb s)) → Calls Try.prog 49 #[.slice q n c, .int .i64 (i : Int)] V (Told V (decide (t.2.1 < ua)))) := HF
        by_cases hgap : t.2.1 < ua
        · rw [if_pos hgap] at hcv
          rw [decide_eq_true hgap] at HF
          have HR := Lib.hid hcv
          clear hcv hgap
          go_enter Try.func36, Try.ntmps36
          go_upto_region 7 with (first | (go_at_call 13; refine HV.out.mono ?_; rintro en W0 ⟨rfl, hB0⟩) | (go_at_call 15; refine (HS.out W0).mono ?_; rintro en W1 ⟨v, rfl, hO, hB1⟩; replace hB1 := link hB0 hB1; obtain ⟨q, c, rfl, hc, hAt, _, _⟩ := hO.form; rw [HN.out] at hc ⊢) | (go_at_call 49; refine (HF.out q c W1 hAt).mono ?_; rintro en W2 ⟨rfl, hB2⟩; replace hB1 := link hB1 hB2; replace hAt := hAt.keep hB2))
          obtain ⟨b, off, rfl, hL⟩ := hAt.get (i := i) (by rw [HN.out]; exact hi)
          have hbl := hL.1
          have C0 : ∀ w', Below W2.heap.size W2 w' → w'.cell? ⟨b, off + i * 3, none⟩ = some (.int .i64 (ua : Int)) := fun w' h => (h.cell (p := ⟨b, off + i * 3, none⟩) hbl).trans (hL.2 i (ua, ue, uk) 0 _ HU.out rfl)
          clear hL hAt hO
          refine wp_region_held_drew (S := fun w' => Below w.heap.size w w' ∧ Below W2.heap.size W2 w') (by kernel_rfl) ⟨below_drew hB1, below_drew (Below.refl _ _)⟩ (fun _ => ?_)
          have hHeld : Below w.heap.size w W2.drew ∧ Below W2.heap.size W2 W2.drew := ⟨below_drew hB1, below_drew (Below.refl _ _)⟩
          generalize W2.drew = V0 at hHeld ⊢
          refine wt (i := 0) (oi := ⟨some 30, .move (.tmp 0), 9, "ref.go:153", #[], none⟩) (v := .string s) (Or.inl ⟨by rfl, fun w' hSw => by go_simp⟩) hHeld ?_
          try simp only [zP, zQ, zS, zZ, zC]
          refine wt (i := 1) (oi := ⟨some 31, .move (.tmp 8), 29, "ref.go:153", #[], none⟩) (v := .slice (some ⟨b, off, none⟩) n c) (Or.inl ⟨by rfl, fun w' hSw => by go_simp⟩) hHeld ?_
          try simp only [zP, zQ, zS, zZ, zC]
          refine wt (i := 2) (oi := ⟨some 32, .move (.tmp 1), 3, "ref.go:153", #[], none⟩) (v := .int .i64 (i : Int)) (Or.inl ⟨by rfl, fun w' hSw => by go_simp⟩) hHeld ?_
          try simp only [zP, zQ, zS, zZ, zC]
          refine wt (i := 3) (oi := ⟨some 33, .indexAddr 29 (.tmp 31) (.tmp 32), 0, "ref.go:153", #[⟨1, .data⟩, ⟨2, .data⟩], none⟩) (v := .pointer (some ⟨b, off + i * 3, none⟩)) (Or.inl ⟨by rfl, fun w' hSw => by go_simp; try (intro hcm; exact absurd hcm (by omega))⟩) hHeld ?_
          try simp only [zP, zQ, zS, zZ, zC]
          refine wt (i := 4) (oi := ⟨some 34, .fieldAddr 63 (.tmp 33) 0, 0, "ref.go:153", #[⟨3, .data⟩], none⟩) (v := .pointer (some ⟨b, off + i * 3, none⟩)) (Or.inl ⟨by rfl, fun w' hSw => by go_simp⟩) hHeld ?_
          try simp only [zP, zQ, zS, zZ, zC]
          refine wt (i := 5) (oi := ⟨some 35, .load 3 (.tmp 34), 3, "ref.go:153", #[⟨4, .data⟩], none⟩) (v := .int .i64 (ua : Int)) (Or.inl ⟨by rfl, fun w' hSw => by have hc := C0 w' hSw.2; go_simp⟩) hHeld ?_
          try simp only [zP, zQ, zS, zZ, zC]
          refine wt (i := 6) (oi := ⟨some 36, .binOp .sub 3 (.tmp 35) (.const (Value.int IntKind.i64 1)) 3, 3, "ref.go:153", #[⟨5, .data⟩], none⟩) (v := .int .i64 (u0 : Int)) (Or.inl ⟨by rfl, fun w' hSw => by have hw := HW.out; go_simp⟩) hHeld ?_
          try simp only [zP, zQ, zS, zZ, zC]
          refine wt (i := 7) (oi := ⟨some 37, .slice 9 (.tmp 30) none (some (.tmp 36)) none, 9, "ref.go:153", #[⟨0, .data⟩, ⟨6, .data⟩], none⟩) (v := .string (s.extract 0 u0)) (Or.inl ⟨by rfl, fun w' hSw => by go_simp; try (intro hcm; exact absurd hcm (by omega))⟩) hHeld ?_
          try simp only [zP, zQ, zS, zZ, zC]
          refine wt (i := 8) (oi := ⟨some 38, .move (.tmp 0), 9, "ref.go:153", #[], none⟩) (v := .string s) (Or.inl ⟨by rfl, fun w' hSw => by go_simp⟩) hHeld ?_
          try simp only [zP, zQ, zS, zZ, zC]
          refine wt (i := 9) (oi := ⟨some 39, .move (.tmp 8), 29, "ref.go:153", #[], none⟩) (v := .slice (some ⟨b, off, none⟩) n c) (Or.inl ⟨by rfl, fun w' hSw => by go_simp⟩) hHeld ?_
          try simp only [zP, zQ, zS, zZ, zC]
          refine wt (i := 10) (oi := ⟨some 40, .move (.tmp 1), 3, "ref.go:153", #[], none⟩) (v := .int .i64 (i : Int)) (Or.inl ⟨by rfl, fun w' hSw => by go_simp⟩) hHeld ?_
          try simp only [zP, zQ, zS, zZ, zC]
          refine wt (i := 11) (oi := ⟨some 41, .indexAddr 29 (.tmp 39) (.tmp 40), 0, "ref.go:153", #[⟨9, .data⟩, ⟨10, .data⟩], none⟩) (v := .pointer (some ⟨b, off + i * 3, none⟩)) (Or.inl ⟨by rfl, fun w' hSw => by go_simp; try (intro hcm; exact absurd hcm (by omega))⟩) hHeld ?_
          try simp only [zP, zQ, zS, zZ, zC]
          refine wt (i := 12) (oi := ⟨some 42, .fieldAddr 63 (.tmp 41) 0, 0, "ref.go:153", #[⟨11, .data⟩], none⟩) (v := .pointer (some ⟨b, off + i * 3, none⟩)) (Or.inl ⟨by rfl, fun w' hSw => by go_simp⟩) hHeld ?_
          try simp only [zP, zQ, zS, zZ, zC]
          refine wt (i := 13) (oi := ⟨some 43, .load 3 (.tmp 42), 3, "ref.go:153", #[⟨12, .data⟩], none⟩) (v := .int .i64 (ua : Int)) (Or.inl ⟨by rfl, fun w' hSw => by have hc := C0 w' hSw.2; go_simp⟩) hHeld ?_
          try simp only [zP, zQ, zS, zZ, zC]
          refine wt (i := 14) (oi := ⟨some 44, .slice 9 (.tmp 38) (some (.tmp 43)) none none, 9, "ref.go:153", #[⟨8, .data⟩, ⟨13, .data⟩], none⟩) (v := .string (s.extract ua s.size)) (Or.inl ⟨by rfl, fun w' hSw => by go_simp; try (intro hcm; exact absurd hcm (by omega))⟩) hHeld ?_
          try simp only [zP, zQ, zS, zZ, zC]
          refine wpAnyH_ready (rs := [15]) (by kernel_rfl) (by simp) ?_
          refine AllReadyH.cons (o := ⟨some 4, .assign (.tmp 37), 9, "ref.go:153", #[⟨7, .data⟩, ⟨0, .phase⟩, ⟨1, .phase⟩, ⟨2, .phase⟩, ⟨3, .phase⟩, ⟨4, .phase⟩, ⟨5, .phase⟩, ⟨6, .phase⟩, ⟨7, .phase⟩, { on := 8, ground := Ground.textOnly Departure.lateStores }, { on := 9, ground := Ground.textOnly Departure.lateStores }, { on := 10, ground := Ground.textOnly Departure.lateStores }, { on := 11, ground := Ground.textOnly Departure.lateStores }, { on := 12, ground := Ground.textOnly Departure.lateStores }, { on := 13, ground := Ground.textOnly Departure.lateStores }, { on := 14, ground := Ground.textOnly Departure.lateStoresUnsure }], none⟩) rfl (fun K hK => ?_) AllReadyH.nil
          go_simp
          refine hK.out _ _ (hHeld) (fun hHeld => ?_)
          clear hK K
          try simp only [zP, zQ, zS, zZ, zC]
          refine wpAnyH_ready (rs := [16]) (by kernel_rfl) (by simp) ?_
          refine AllReadyH.cons (o := ⟨some 5, .assign (.tmp 44), 9, "ref.go:153", #[⟨14, .data⟩, ⟨15, .chain⟩, ⟨0, .phase⟩, ⟨1, .phase⟩, ⟨2, .phase⟩, ⟨3, .phase⟩, ⟨4, .phase⟩, ⟨5, .phase⟩, ⟨6, .phase⟩, ⟨7, .phase⟩, ⟨8, .phase⟩, ⟨9, .phase⟩, ⟨10, .phase⟩, ⟨11, .phase⟩, ⟨12, .phase⟩, ⟨13, .phase⟩, ⟨14, .phase⟩, ⟨15, .phase⟩], none⟩) rfl (fun K hK => ?_) AllReadyH.nil
          go_simp
          refine hK.out _ _ (hHeld) (fun hHeld => ?_)
          clear hK K
          try simp only [zP, zQ, zS, zZ, zC]
          refine wpAnyH_ready (rs := [17]) (by kernel_rfl) (by simp) ?_
          refine AllReadyH.cons (o := ⟨some 6, .assign (.const (Value.int IntKind.i64 0)), 25, "ref.go:153", #[⟨16, .chain⟩, ⟨0, .phase⟩, ⟨1, .phase⟩, ⟨2, .phase⟩, ⟨3, .phase⟩, ⟨4, .phase⟩, ⟨5, .phase⟩, ⟨6, .phase⟩, ⟨7, .phase⟩, ⟨8, .phase⟩, ⟨9, .phase⟩, ⟨10, .phase⟩, ⟨11, .phase⟩, ⟨12, .phase⟩, ⟨13, .phase⟩, ⟨14, .phase⟩, ⟨15, .phase⟩, ⟨16, .phase⟩], none⟩) rfl (fun K hK => ?_) AllReadyH.nil
          go_simp
          refine hK.out _ _ (hHeld) (fun hHeld => ?_)
          clear hK K
          try simp only [zP, zQ, zS, zZ, zC]
          refine wpAnyH_done (by kernel_rfl) ?_ _
          have BX := hHeld
          clear hHeld 
          go_wp2
          go_ret3
          exact ⟨by rw [HR.out]; rfl, BX.1⟩
        · rw [if_neg hgap] at hcv
          rw [decide_eq_false hgap] at HF
          have HR := Lib.hid hcv
          clear hcv hgap
          go_enter Try.func36, Try.ntmps36
          go_wp2_with (first | (go_at_call 13; refine HV.out.mono ?_; rintro en W0 ⟨rfl, hB0⟩) | (go_at_call 15; refine (HS.out W0).mono ?_; rintro en W1 ⟨v, rfl, hO, hB1⟩; replace hB1 := link hB0 hB1; obtain ⟨q, c, rfl, hc, hAt, _, _⟩ := hO.form; rw [HN.out] at hc ⊢) | (go_at_call 49; refine (HF.out q c W1 hAt).mono ?_; rintro en W2 ⟨rfl, hB2⟩; replace hB1 := link hB1 hB2; replace hAt := hAt.keep hB2))
          go_ret3
          exact ⟨by rw [HR.out]; rfl, hB1⟩
    · have HR := Lib.hid (hr.symm.trans (cut_low hz hk))
      have hk0 : k < 1 := by omega
      clear hr hn hz hk
      go_enter Try.func36, Try.ntmps36
      go_wp2_with (first | (go_at_call 13; refine HV.out.mono ?_; rintro en W0 ⟨rfl, hB0⟩) | (go_at_call 15; refine (HS.out W0).mono ?_; rintro en W1 ⟨v, rfl, hO, hB1⟩; replace hB1 := link hB0 hB1; obtain ⟨q, c, rfl, hc, hAt, _, _⟩ := hO.form; rw [HN.out] at hc ⊢))
      go_ret3
      exact ⟨by rw [HR.out]; rfl, hB1⟩
  · have HR := Lib.hid (hr.symm.trans (cut_bad (by rw [hz]; exact hz0)))
    rw [hz] at HR
    have hzb : (z != 0) = true := by simp [hz0]
    clear hr hn hz hz0
    go_enter Try.func36, Try.ntmps36
    go_wp2_with (go_at_call 13; refine HV.out.mono ?_; rintro en W0 ⟨rfl, hB0⟩)
    go_ret3
    exact ⟨by rw [HR.out]; rfl, hB0⟩

end Go.Proofs.Ytehkgpefmjfifaa
