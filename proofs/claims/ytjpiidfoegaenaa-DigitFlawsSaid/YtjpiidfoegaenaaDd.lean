/-
  Sum of the program.
-/
import Derived.Test.YtjpiidfoegaenaaDc
namespace Go.Proofs.Ytjpiidfoegaenaa
open Go.RowKit
set_option linter.unusedVariables false
set_option linter.unusedSimpArgs false

/-- The call answers a number and an error. -/
def PairR (x k : Int) (w : World) (e : Ending) (w' : World) : Prop := e = .returned (.tuple #[.int .i64 x, .int .i64 k]) ∧ Below w.heap.size w w'
/-- What is summed up so far, and what is to come. -/
def SuRel (l v : List Int) (n : Nat) (R : Int) (w : World) (a i : Value) (wr : World) : Prop := ∃ (k : Nat) (s : Int), k ≤ n ∧ i = .int .i64 (k : Int) ∧ a = .int .i64 s ∧ s + dotT (l.drop k) (v.drop k) = R ∧ 0 ≤ s ∧ s ≤ 1048576 * (k : Int) ∧ w = wr
theorem sumE_bad {l v : List Int} {m r : Int} (h : schE l m = r) (hr : r ≠ 0) : sumE l m v = r ∧ sumT l m v = 0 := by
  have e : sumE l m v = r := by unfold sumE; rw [h, if_pos hr]
  exact ⟨e, by unfold sumT; rw [e, if_neg hr]⟩
theorem sumE_no {l v : List Int} {m : Int} (h : schE l m = 0) (hv : v.length ≠ l.length ∨ belowT v m = false) : sumE l m v = 1 ∧ sumT l m v = 0 := by
  have e : sumE l m v = 1 := by unfold sumE; rw [h, if_neg (by simp), if_pos hv]
  exact ⟨e, by unfold sumT; rw [e, if_neg (by decide)]⟩
theorem sumE_yes {l v : List Int} {m : Int} (h : schE l m = 0) (hv : v.length = l.length) (hb : belowT v m = true) : sumE l m v = 0 ∧ sumT l m v = dotT l v % m := by
  have e : sumE l m v = 0 := by unfold sumE; rw [h, if_neg (by simp), if_neg (by simp [hv, hb])]
  exact ⟨e, by unfold sumT; rw [e, if_pos rfl]⟩
set_option maxHeartbeats 2000000 in
set_option maxRecDepth 100000 in
theorem sum_any (l v : List Int) (m : Int) (A : Option Addr) (n c : Nat) (hl : l.length = n) (hn6 : n ≤ 9223372036854775807) (A2 : Option Addr) (n2 c2 : Nat) (hv : v.length = n2) (hn26 : n2 ≤ 9223372036854775807) (w : World) (hA : IntsAt w A l) (hA2 : IntsAt w A2 v) :
    Calls Try.prog 11 #[.slice A n c, .int .i64 m, .slice A2 n2 c2] w (PairR (sumT l m v) (sumE l m v) w) := by
  have CC := Lib.hid (check_any l m A n c hl hn6 w hA)
  have CB := Lib.hid (fun V (hV : Below w.heap.size w V) => below_any v m A2 n2 c2 hv hn26 V (hA2.keep hV))
  obtain ⟨E, hE⟩ : ∃ E, sumE l m v = E := ⟨_, rfl⟩
  obtain ⟨T, hT⟩ : ∃ T, sumT l m v = T := ⟨_, rfl⟩
  rw [hE, hT]
  have HN := Lib.hid hl
  have HN2 := Lib.hid hv
  rcases hs : decide (schE l m = 0) with _ | _
  · have hs := of_decide_eq_false hs
    obtain ⟨r, hr⟩ : ∃ r, schE l m = r := ⟨_, rfl⟩
    rw [hr] at hs CC
    obtain ⟨e1, e2⟩ := sumE_bad (v := v) hr hs
    obtain rfl : r = E := e1.symm.trans hE
    obtain rfl : 0 = T := e2.symm.trans hT
    have hrz : (r != 0) = true := by simp [hs]
    clear hr e1 e2 hE hT hs hl hv hA hA2 CB
    go_enter Try.func11, Try.ntmps11
    go_wp2_with (go_at_call 34; refine CC.out.mono ?_; rintro _ w1 ⟨rfl, B1⟩)
    go_ret2
    exact ⟨rfl, B1⟩
  · have hs := of_decide_eq_true hs
    rw [hs] at CC
    obtain ⟨hl256, hm2, hm1024, hbl⟩ := schE_ok hs
    by_cases hlen : n2 = n
    · rcases hbv : belowT v m with _ | _
      · obtain ⟨e1, e2⟩ := sumE_no hs (Or.inr hbv)
        obtain rfl : 1 = E := e1.symm.trans hE
        obtain rfl : 0 = T := e2.symm.trans hT
        rw [hbv] at CB
        have hnz : ¬ (n2 : Int) ≠ (n : Int) := by omega
        subst hlen
        clear e1 e2 hE hT hs hl hv hA hA2
        go_enter Try.func11, Try.ntmps11
        go_wp2_with (first
          | (go_at_call 34; refine CC.out.mono ?_; rintro _ w1 ⟨rfl, B1⟩)
          | (go_at_call 35; refine (CB.out _ B1).mono ?_; rintro _ w2 ⟨rfl, B2⟩))
        go_ret2
        exact ⟨rfl, link B1 B2⟩
      · obtain ⟨e1, e2⟩ := sumE_yes hs (by rw [hv, hl, hlen]) hbv
        obtain rfl : 0 = E := e1.symm.trans hE
        have hT := e2.symm.trans hT
        rw [hbv] at CB
        subst hlen
        obtain ⟨R, hR⟩ : ∃ R, dotT l v = R := ⟨_, rfl⟩
        have hR0 := (dotT_in hm1024 hbl hbv).1
        rw [hR] at hT hR0
        have hmod : R.tmod m = T := by rw [← hT, Int.tmod_eq_emod_of_nonneg hR0]
        have hmz : ¬ m = 0 := by omega
        have hn256 : n2 ≤ 256 := by rw [← hl]; exact hl256
        have HBL := Lib.hid (belowT_mem hbl)
        have HBV := Lib.hid (belowT_mem hbv)
        clear e1 e2 hE hT hs hl hv hl256 hbl hbv hR0
        go_enter Try.func11, Try.ntmps11
        go_upto_region 6 with (first
          | (go_at_call 34; refine CC.out.mono ?_; rintro _ w1 ⟨rfl, B1⟩)
          | (go_at_call 35; refine (CB.out _ B1).mono ?_; rintro _ w2 ⟨rfl, B2⟩))
        have W2 := link B1 B2
        have hA := hA.keep W2
        have hA2 := hA2.keep W2
        clear B1 B2 CC CB
        go_wp2
        go_loopw [9, 31] (fun a i wr => SuRel l v n2 R w2 a i wr) (fun _ i _ => n2 - (intOf i).toNat)
        case atStart => exact ⟨0, 0, by omega, rfl, rfl, by rw [List.drop_zero, List.drop_zero, hR]; omega, by omega, by omega, rfl⟩
        case round =>
          obtain ⟨k, s, hk, rfl, rfl, hsR, hs0, hs1, rfl⟩ := hrel
          rcases Nat.lt_or_ge k n2 with hlt | hge
          · have hltz : (k : Int) < (n2 : Int) := by omega
            obtain ⟨x, hx⟩ : ∃ x, l[k]? = some x := ⟨_, List.getElem?_eq_getElem (by rw [HN.out]; exact hlt)⟩
            obtain ⟨y, hy⟩ : ∃ y, v[k]? = some y := ⟨_, List.getElem?_eq_getElem (by rw [HN2.out]; exact hlt)⟩
            obtain ⟨ad, rfl, hbl, hc⟩ := hA (by intro e; rw [e] at hx; simp at hx)
            obtain ⟨ad2, rfl, hbl2, hc2⟩ := hA2 (by intro e; rw [e] at hy; simp at hy)
            have c0 := (hc k x hx).1
            have c1 := (hc2 k y hy).1
            have hp := prod_in (HBL.out x (List.mem_of_getElem? hx)) (HBV.out y (List.mem_of_getElem? hy)) hm1024
            obtain ⟨z, hz⟩ : ∃ z, x * y = z := ⟨_, rfl⟩
            have hd := dotT_drop hx hy
            rw [hz] at hp hd
            obtain ⟨t, ht⟩ : ∃ t, s + z = t := ⟨_, rfl⟩
            have HS : Hid (t + dotT (l.drop (k + 1)) (v.drop (k + 1)) = R) := Lib.hid (by omega)
            have HT : Hid (0 ≤ t ∧ t ≤ 1048576 * ((k + 1 : Nat) : Int)) := Lib.hid (by omega)
            have q1 : IntKind.i64.wrap z = z := by simp [IntKind.wrap, IntKind.signed, IntKind.bits]; omega
            have q2 : IntKind.i64.wrap t = t := by simp [IntKind.wrap, IntKind.signed, IntKind.bits]; omega
            clear hx hy hc hc2 hd hsR hs0 hs1 hp
            go_wp2
            exact ⟨⟨k + 1, t, by omega, by go_num, rfl, HS.out, HT.out.1, HT.out.2, rfl⟩, by simp [intOf]; omega⟩
          · have hge2 : ¬ (k : Int) < (n2 : Int) := by omega
            obtain rfl : k = n2 := by omega
            rw [List.drop_of_length_le (by rw [HN.out]; exact Nat.le_refl _), show dotT [] (v.drop k) = 0 from rfl] at hsR
            obtain rfl : s = R := by omega
            clear hsR hR
            go_wp2
            go_ret2
            exact ⟨rfl, W2⟩
    · obtain ⟨e1, e2⟩ := sumE_no hs (Or.inl (by rw [hv, hl]; exact hlen))
      obtain rfl : 1 = E := e1.symm.trans hE
      obtain rfl : 0 = T := e2.symm.trans hT
      have hnz : ¬ (n2 : Int) = (n : Int) := by omega
      clear e1 e2 hE hT hs hl hv hA hA2 CB
      go_enter Try.func11, Try.ntmps11
      go_wp2_with (go_at_call 34; refine CC.out.mono ?_; rintro _ w1 ⟨rfl, B1⟩)
      go_ret2
      exact ⟨rfl, B1⟩
end Go.Proofs.Ytjpiidfoegaenaa
