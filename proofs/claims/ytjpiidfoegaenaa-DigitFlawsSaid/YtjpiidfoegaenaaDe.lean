/-
  Error, Total and Sum of the reference.
-/
import Derived.Test.YtjpiidfoegaenaaDd
namespace Go.Proofs.Ytjpiidfoegaenaa
open Go.RowKit
set_option linter.unusedVariables false
set_option linter.unusedSimpArgs false

set_option maxHeartbeats 1000000 in
set_option maxRecDepth 100000 in
theorem rerror_any (l : List Int) (m : Int) (A : Option Addr) (n c : Nat) (hl : l.length = n) (hn6 : n ≤ 9223372036854775807) (w : World) (hA : IntsAt w A l) :
    Calls Try.prog 36 #[.slice A n c, .int .i64 m] w (IntR (schE l m) w) := by
  obtain ⟨r, hr⟩ : ∃ r, schE l m = r := ⟨_, rfl⟩
  have HS : Hid (r = if 256 < n then 4 else if m < 2 ∨ 1024 < m ∨ belowT l m = false then 1 else 0) := Lib.hid (by rw [← hr]; unfold schE; rw [hl])
  rw [hr]
  have HN := Lib.hid hl
  clear hl hr
  go_enter Try.func36, Try.ntmps36
  rcases Nat.lt_or_ge 256 n with h | h
  · have hz : (256 : Int) < (n : Int) := by omega
    have HR := HS.out.trans (if_pos h)
    clear HS
    subst HR
    go_wp2
    go_ret
    exact ⟨rfl, Below.refl _ _⟩
  · have hz : ¬ (256 : Int) < (n : Int) := by omega
    have HS2 := Lib.hid (HS.out.trans (if_neg (by omega)))
    clear HS
    rcases Int.lt_or_le m 2 with h2 | h2
    · have HR := HS2.out.trans (if_pos (Or.inl h2))
      clear HS2
      subst HR
      go_wp2
      go_ret
      exact ⟨rfl, Below.refl _ _⟩
    · have h2z : ¬ m < 2 := by omega
      rcases Int.lt_or_le 1024 m with h3 | h3
      · have HR := HS2.out.trans (if_pos (Or.inr (Or.inl h3)))
        clear HS2
        subst HR
        go_wp2
        go_ret
        exact ⟨rfl, Below.refl _ _⟩
      · have h3z : ¬ 1024 < m := by omega
        go_wp2
        go_loopw [5] (fun v wr => BeRel l m n w v wr) (fun v _ => n - (intOf v).toNat)
        case atStart => exact ⟨0, by omega, rfl, rfl, rfl⟩
        case round =>
          obtain ⟨k, hk, rfl, hB, rfl⟩ := hrel
          rcases Nat.lt_or_ge k n with hlt | hge
          · have hltz : (k : Int) < (n : Int) := by omega
            obtain ⟨x, hx⟩ : ∃ x, l[k]? = some x := ⟨_, List.getElem?_eq_getElem (by rw [HN.out]; exact hlt)⟩
            obtain ⟨ad, rfl, hbl, hc⟩ := hA (by intro e; rw [e] at hx; simp at hx)
            have c0 := (hc k x hx).1
            rcases Int.lt_or_le x 0 with h4 | h4
            · have HR := HS2.out.trans (if_pos (Or.inr (Or.inr (belowT_no (List.mem_of_getElem? hx) (Or.inl h4)))))
              clear HS2 hx hB hc
              subst HR
              go_wp2
              go_ret
              exact ⟨rfl, Below.refl _ _⟩
            · have h4z : ¬ x < 0 := by omega
              rcases Int.lt_or_le x m with h5 | h5
              · have h5z : ¬ m ≤ x := by omega
                have HB : Hid (belowT (l.take (k + 1)) m = true) := Lib.hid (by
                  unfold belowT at hB ⊢
                  rw [List.take_add_one, hx, List.all_append, hB]
                  simp; omega)
                clear hx hB hc
                go_wp2
                exact ⟨⟨k + 1, by omega, by go_num, HB.out, rfl⟩, by simp [intOf]; omega⟩
              · have HR := HS2.out.trans (if_pos (Or.inr (Or.inr (belowT_no (List.mem_of_getElem? hx) (Or.inr h5)))))
                clear HS2 hx hB hc
                subst HR
                go_wp2
                go_ret
                exact ⟨rfl, Below.refl _ _⟩
          · have hge2 : ¬ (k : Int) < (n : Int) := by omega
            have hb : belowT l m = true := by rwa [List.take_of_length_le (by rw [HN.out]; omega)] at hB
            have HR := HS2.out.trans (if_neg (by simp [hb]; omega))
            clear HS2 hB hb
            subst HR
            go_wp2
            go_ret
            exact ⟨rfl, Below.refl _ _⟩
def ToRel (l v : List Int) (n : Nat) (R : Int) (w : World) (a i : Value) (wr : World) : Prop := ∃ (k : Nat) (s : Int), k ≤ n ∧ i = .int .i64 (k : Int) ∧ a = .int .i64 s ∧ s + dotT (l.drop k) (v.drop k) = R ∧ 0 ≤ s ∧ s ≤ 1048576 * (k : Int) ∧ Below w.heap.size w wr
set_option maxHeartbeats 2000000 in
set_option maxRecDepth 100000 in
theorem rtotal_any (l v : List Int) (m : Int) (hm : 2 ≤ m) (A : Option Addr) (n c : Nat) (hl : l.length = n) (hn6 : n ≤ 1000) (A2 : Option Addr) (c2 : Nat) (hv : v.length = n) (hbl : belowT l 1024 = true) (hbv : belowT v 1024 = true) (w : World) (hA : IntsAt w A l) (hA2 : IntsAt w A2 v) :
    Calls Try.prog 12 #[.slice A n c, .int .i64 m, .slice A2 n c2] w (IntR (dotT l v % m) w) := by
  obtain ⟨T, hT⟩ : ∃ T, dotT l v % m = T := ⟨_, rfl⟩
  obtain ⟨R, hR⟩ : ∃ R, dotT l v = R := ⟨_, rfl⟩
  have hR0 := (dotT_in (show (1024 : Int) ≤ 1024 by omega) hbl hbv).1
  rw [hT]
  rw [hR] at hT hR0
  have hmod : R.tmod m = T := by rw [← hT, Int.tmod_eq_emod_of_nonneg hR0]
  have hmz : ¬ m = 0 := by omega
  have HBL := Lib.hid (belowT_mem hbl)
  have HBV := Lib.hid (belowT_mem hbv)
  have HN := Lib.hid hl
  have HN2 := Lib.hid hv
  clear hT hl hv hbl hbv hR0
  go_enter Try.func12, Try.ntmps12
  go_wp2
  go_loopw [7, 8] (fun a i wr => ToRel l v n R w a i wr) (fun _ i _ => n - (intOf i).toNat)
  case atStart => exact ⟨0, 0, by omega, rfl, rfl, by rw [List.drop_zero, List.drop_zero, hR]; omega, by omega, by omega, Below.refl _ _⟩
  case round =>
    obtain ⟨k, s, hk, rfl, rfl, hsR, hs0, hs1, hB⟩ := hrel
    rcases Nat.lt_or_ge k n with hlt | hge
    · have hltz : (k : Int) < (n : Int) := by omega
      obtain ⟨x, hx⟩ : ∃ x, l[k]? = some x := ⟨_, List.getElem?_eq_getElem (by rw [HN.out]; exact hlt)⟩
      obtain ⟨y, hy⟩ : ∃ y, v[k]? = some y := ⟨_, List.getElem?_eq_getElem (by rw [HN2.out]; exact hlt)⟩
      obtain ⟨ad, rfl, hbl, hc⟩ := hA (by intro e; rw [e] at hx; simp at hx)
      obtain ⟨ad2, rfl, hbl2, hc2⟩ := hA2 (by intro e; rw [e] at hy; simp at hy)
      have CX := Lib.hid (fun W (hW : Below w.heap.size w W) => (hW.cell (p := ad.add k) (by rw [add_block]; exact hbl)).trans (hc k x hx).1)
      have CY := Lib.hid (fun W (hW : Below w.heap.size w W) => (hW.cell (p := ad2.add k) (by rw [add_block]; exact hbl2)).trans (hc2 k y hy).1)
      have hp := prod_in (HBL.out x (List.mem_of_getElem? hx)) (HBV.out y (List.mem_of_getElem? hy)) (show (1024 : Int) ≤ 1024 by omega)
      obtain ⟨z, hz⟩ : ∃ z, x * y = z := ⟨_, rfl⟩
      have hd := dotT_drop hx hy
      rw [hz] at hp hd
      obtain ⟨t, ht⟩ : ∃ t, s + z = t := ⟨_, rfl⟩
      have HS : Hid (t + dotT (l.drop (k + 1)) (v.drop (k + 1)) = R) := Lib.hid (by omega)
      have HT : Hid (0 ≤ t ∧ t ≤ 1048576 * ((k + 1 : Nat) : Int)) := Lib.hid (by omega)
      have q1 : IntKind.i64.wrap z = z := by simp [IntKind.wrap, IntKind.signed, IntKind.bits]; omega
      have q2 : IntKind.i64.wrap t = t := by simp [IntKind.wrap, IntKind.signed, IntKind.bits]; omega
      clear hx hy hc hc2 hd hsR hs0 hs1 hp
      go_upto_region 5 with (fail)
      refine wp_region_held_drew (S := fun w' => Below w.heap.size w w') (by kernel_rfl) (below_drew (hB)) (fun _ => ?_)
      have hHeld : Below w.heap.size w wr.drew := below_drew (hB)
      generalize wr.drew = V0 at hHeld ⊢
      refine wt (i := 0) (oi := ⟨some 21, .move (.tmp 7), 3, "ref.go:51", #[], none⟩) (v := .int .i64 s) (Or.inl ⟨by rfl, fun w' hSw => by go_simp⟩) hHeld ?_
      try simp only [zP, zQ, zS, zZ, zC]
      refine wt (i := 1) (oi := ⟨some 22, .move (.tmp 0), 22, "ref.go:51", #[], none⟩) (v := .slice (some ad) n c) (Or.inl ⟨by rfl, fun w' hSw => by go_simp⟩) hHeld ?_
      try simp only [zP, zQ, zS, zZ, zC]
      refine wt (i := 2) (oi := ⟨some 23, .move (.tmp 8), 3, "ref.go:51", #[], none⟩) (v := .int .i64 (k : Int)) (Or.inl ⟨by rfl, fun w' hSw => by go_simp⟩) hHeld ?_
      try simp only [zP, zQ, zS, zZ, zC]
      refine wt (i := 3) (oi := ⟨some 24, .indexAddr 22 (.tmp 22) (.tmp 23), 0, "ref.go:51", #[⟨1, .data⟩, ⟨2, .data⟩], none⟩) (v := .pointer (some (ad.add k))) (Or.inl ⟨by rfl, fun w' hSw => by go_simp⟩) hHeld ?_
      try simp only [zP, zQ, zS, zZ, zC]
      refine wt (i := 4) (oi := ⟨some 25, .load 3 (.tmp 24), 3, "ref.go:51", #[⟨3, .data⟩], none⟩) (v := .int .i64 x) (Or.inl ⟨by rfl, fun w' hSw => by have c9 := CX.out w' hSw; go_simp⟩) hHeld ?_
      try simp only [zP, zQ, zS, zZ, zC]
      refine wt (i := 5) (oi := ⟨some 26, .move (.tmp 2), 22, "ref.go:51", #[], none⟩) (v := .slice (some ad2) n c2) (Or.inl ⟨by rfl, fun w' hSw => by go_simp⟩) hHeld ?_
      try simp only [zP, zQ, zS, zZ, zC]
      refine wt (i := 6) (oi := ⟨some 27, .move (.tmp 8), 3, "ref.go:51", #[], none⟩) (v := .int .i64 (k : Int)) (Or.inl ⟨by rfl, fun w' hSw => by go_simp⟩) hHeld ?_
      try simp only [zP, zQ, zS, zZ, zC]
      refine wt (i := 7) (oi := ⟨some 28, .indexAddr 22 (.tmp 26) (.tmp 27), 0, "ref.go:51", #[⟨5, .data⟩, ⟨6, .data⟩], none⟩) (v := .pointer (some (ad2.add k))) (Or.inl ⟨by rfl, fun w' hSw => by go_simp⟩) hHeld ?_
      try simp only [zP, zQ, zS, zZ, zC]
      refine wt (i := 8) (oi := ⟨some 29, .load 3 (.tmp 28), 3, "ref.go:51", #[⟨7, .data⟩], none⟩) (v := .int .i64 y) (Or.inl ⟨by rfl, fun w' hSw => by have c9 := CY.out w' hSw; go_simp⟩) hHeld ?_
      try simp only [zP, zQ, zS, zZ, zC]
      refine wt (i := 9) (oi := ⟨some 30, .binOp .mul 3 (.tmp 25) (.tmp 29) 3, 3, "ref.go:51", #[⟨4, .data⟩, ⟨8, .data⟩], none⟩) (v := .int .i64 z) (Or.inl ⟨by rfl, fun w' hSw => by go_simp⟩) hHeld ?_
      try simp only [zP, zQ, zS, zZ, zC]
      refine wt (i := 10) (oi := ⟨some 31, .binOp .add 3 (.tmp 21) (.tmp 30) 3, 3, "ref.go:51", #[⟨0, .data⟩, ⟨9, .data⟩], none⟩) (v := .int .i64 t) (Or.inl ⟨by rfl, fun w' hSw => by go_simp⟩) hHeld ?_
      try simp only [zP, zQ, zS, zZ, zC]
      refine wpAnyH_ready (rs := [11]) (by kernel_rfl) (by simp) ?_
      refine AllReadyH.cons (o := ⟨some 7, .assign (.tmp 31), 3, "ref.go:51", #[⟨10, .data⟩, ⟨0, .phase⟩, ⟨1, .phase⟩, ⟨2, .phase⟩, ⟨3, .phase⟩, ⟨4, .phase⟩, ⟨5, .phase⟩, ⟨6, .phase⟩, ⟨7, .phase⟩, ⟨8, .phase⟩, ⟨9, .phase⟩, ⟨10, .phase⟩], none⟩) rfl (fun K hK => ?_) AllReadyH.nil
      go_simp
      refine hK.out _ _ (hHeld) (fun hHeld => ?_)
      clear hK K
      try simp only [zP, zQ, zS, zZ, zC]
      refine wpAnyH_done (by kernel_rfl) ?_ _
      have B5 := hHeld
      clear hHeld 
      go_wp2
      exact ⟨⟨k + 1, t, by omega, by go_num, rfl, HS.out, HT.out.1, HT.out.2, B5⟩, by simp [intOf]; omega⟩
    · have hge2 : ¬ (k : Int) < (n : Int) := by omega
      obtain rfl : k = n := by omega
      rw [List.drop_of_length_le (by rw [HN.out]; exact Nat.le_refl _), show dotT [] (v.drop k) = 0 from rfl] at hsR
      obtain rfl : s = R := by omega
      clear hsR hR
      go_wp2
      go_ret
      exact ⟨rfl, hB⟩
theorem belowT_le {l : List Int} {m : Int} (h : belowT l m = true) (hm : m ≤ 1024) : belowT l 1024 = true := belowT_of fun x hx => by have := belowT_mem h x hx; omega
set_option maxHeartbeats 2000000 in
set_option maxRecDepth 100000 in
theorem rsum_any (l v : List Int) (m : Int) (A : Option Addr) (n c : Nat) (hl : l.length = n) (hn6 : n ≤ 9223372036854775807) (A2 : Option Addr) (n2 c2 : Nat) (hv : v.length = n2) (hn26 : n2 ≤ 9223372036854775807) (w : World) (hA : IntsAt w A l) (hA2 : IntsAt w A2 v) :
    Calls Try.prog 13 #[.slice A n c, .int .i64 m, .slice A2 n2 c2] w (PairR (sumT l m v) (sumE l m v) w) := by
  have CC := Lib.hid (rerror_any l m A n c hl hn6 w hA)
  obtain ⟨E, hE⟩ : ∃ E, sumE l m v = E := ⟨_, rfl⟩
  obtain ⟨T, hT⟩ : ∃ T, sumT l m v = T := ⟨_, rfl⟩
  rw [hE, hT]
  have HN2 := Lib.hid hv
  rcases hs : decide (schE l m = 0) with _ | _
  · have hs := of_decide_eq_false hs
    obtain ⟨r, hr⟩ : ∃ r, schE l m = r := ⟨_, rfl⟩
    rw [hr] at hs CC
    obtain ⟨e1, e2⟩ := sumE_bad (v := v) hr hs
    obtain rfl : r = E := e1.symm.trans hE
    obtain rfl : 0 = T := e2.symm.trans hT
    have hrz : (r != 0) = true := by simp [hs]
    clear hr e1 e2 hE hT hs hl hv hA hA2
    go_enter Try.func13, Try.ntmps13
    go_wp2_with (go_at_call 36; refine CC.out.mono ?_; rintro _ w1 ⟨rfl, B1⟩)
    go_ret2
    exact ⟨rfl, B1⟩
  · have hs := of_decide_eq_true hs
    rw [hs] at CC
    obtain ⟨hl256, hm2, hm1024, hbl⟩ := schE_ok hs
    by_cases hlen : n2 = n
    · subst hlen
      have CT := Lib.hid (fun (h : belowT v m = true) V (hV : Below w.heap.size w V) => rtotal_any l v m hm2 A n2 c hl (by omega) A2 c2 hv (belowT_le hbl hm1024) (belowT_le h hm1024) V (hA.keep hV) (hA2.keep hV))
      have HY := Lib.hid (fun (h : belowT v m = true) => sumE_yes hs (hv.trans hl.symm) h)
      have HNO := Lib.hid (fun (h : belowT v m = false) => sumE_no hs (Or.inr h))
      rw [hE, hT] at HY HNO
      clear hs hl hv hl256 hbl hE hT
      go_enter Try.func13, Try.ntmps13
      go_upto_region 6 with (go_at_call 36; refine CC.out.mono ?_; rintro _ w1 ⟨rfl, B1⟩)
      have hA2 := hA2.keep B1
      clear CC
      go_wp2
      go_loopw [9] (fun a wr => BeRel v m n2 w1 a wr) (fun i _ => n2 - (intOf i).toNat)
      case atStart => exact ⟨0, by omega, rfl, rfl, rfl⟩
      case round =>
        obtain ⟨k, hk, rfl, hB, rfl⟩ := hrel
        rcases Nat.lt_or_ge k n2 with hlt | hge
        · have hltz : (k : Int) < (n2 : Int) := by omega
          obtain ⟨x, hx⟩ : ∃ x, v[k]? = some x := ⟨_, List.getElem?_eq_getElem (by rw [HN2.out]; exact hlt)⟩
          obtain ⟨ad, rfl, hbl, hc⟩ := hA2 (by intro e; rw [e] at hx; simp at hx)
          have c0 := (hc k x hx).1
          rcases Int.lt_or_le x 0 with h4 | h4
          · obtain ⟨e1, e2⟩ := HNO.out (belowT_no (List.mem_of_getElem? hx) (Or.inl h4))
            clear HNO HY CT hx hB hc
            subst e1
            subst e2
            go_wp2
            go_ret2
            exact ⟨rfl, B1⟩
          · have h4z : ¬ x < 0 := by omega
            rcases Int.lt_or_le x m with h5 | h5
            · have h5z : ¬ m ≤ x := by omega
              have HB : Hid (belowT (v.take (k + 1)) m = true) := Lib.hid (by
                unfold belowT at hB ⊢
                rw [List.take_add_one, hx, List.all_append, hB]
                simp; omega)
              clear hx hB hc
              go_wp2
              exact ⟨⟨k + 1, by omega, by go_num, HB.out, rfl⟩, by simp [intOf]; omega⟩
            · obtain ⟨e1, e2⟩ := HNO.out (belowT_no (List.mem_of_getElem? hx) (Or.inr h5))
              clear HNO HY CT hx hB hc
              subst e1
              subst e2
              go_wp2
              go_ret2
              exact ⟨rfl, B1⟩
        · have hge2 : ¬ (k : Int) < (n2 : Int) := by omega
          have hb : belowT v m = true := by rwa [List.take_of_length_le (by rw [HN2.out]; omega)] at hB
          obtain ⟨e1, e2⟩ := HY.out hb
          have CT := Lib.hid (CT.out hb)
          rw [← e2] at CT
          clear HNO HY hB hb
          subst e1
          clear e2
          go_wp2_with (go_at_call 12; refine (CT.out _ B1).mono ?_; rintro _ w2 ⟨rfl, B2⟩)
          go_ret2
          exact ⟨rfl, link B1 B2⟩
    · obtain ⟨e1, e2⟩ := sumE_no hs (Or.inl (by rw [hv, hl]; exact hlen))
      obtain rfl : 1 = E := e1.symm.trans hE
      obtain rfl : 0 = T := e2.symm.trans hT
      have hnz : ¬ (n2 : Int) = (n : Int) := by omega
      clear e1 e2 hE hT hs hl hv hA hA2
      go_enter Try.func13, Try.ntmps13
      go_wp2_with (go_at_call 36; refine CC.out.mono ?_; rintro _ w1 ⟨rfl, B1⟩)
      go_ret2
      exact ⟨rfl, B1⟩
end Go.Proofs.Ytjpiidfoegaenaa
