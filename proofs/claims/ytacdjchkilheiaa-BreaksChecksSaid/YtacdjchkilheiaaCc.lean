/-
  Cost of the reference.
-/
import Derived.Test.YtacdjchkilheiaaCb
namespace Go.Proofs.Ytacdjchkilheiaa
open Go.RowKit
set_option linter.unusedVariables false
set_option linter.unusedSimpArgs false

def Rc1 (n : Nat) (ends : List Int) (W : World) (v12 v13 : Value) (wr : World) : Prop := ∃ (k : Nat) (last : Int), v13 = .int .i64 (k : Int) ∧ v12 = .int .i64 last ∧ k ≤ ends.length ∧ badE (n : Int) last (ends.drop k) = badE (n : Int) 0 ends ∧ W = wr
def Rc2 (l : List Int) (bl wd : Int) (n : Nat) (ends : List Int) (W : World) (v12 v14 v15 : Value) (wr : World) : Prop := ∃ (k f : Nat) (c : Int), v15 = .int .i64 (k : Int) ∧ v12 = .int .i64 (f : Int) ∧ v14 = .int .i64 c ∧ k ≤ ends.length ∧ f ≤ n ∧ 0 ≤ c ∧ c ≤ 67108864 * (f : Int) ∧ badE (n : Int) (f : Int) (ends.drop k) = false ∧ measE l bl wd c f (ends.drop k) = measE l bl wd 0 0 ends ∧ W = wr

set_option maxHeartbeats 4000000 in
set_option maxRecDepth 100000 in
theorem rcost_any (A : Option Addr) (l : List Int) (n c : Nat) (hl : l.length = n) (hn9 : n ≤ 1000000000000) (bl wd : Int) (A2 : Option Addr) (ends : List Int) (m c2 : Nat) (hm : ends.length = m) (hm9 : m ≤ 9223372036854775807) (w : World) (hA : IntsAt w A l) (hA2 : IntsAt w A2 ends) :
    Calls Try.prog 21 #[.slice A n c, .int .i64 bl, .int .i64 wd, .slice A2 m c2] w (ThreeR (costA l bl wd ends) w) := by
  have HEr := Lib.hid (rerror_any A l n c hl hn9 bl wd w hA)
  by_cases he : errT l bl wd = 0
  · have hF := fine_of he
    have HR := Lib.hid (show costA l bl wd ends = if badE (n : Int) 0 ends = true then (0, 0, 5) else if (measE l bl wd 0 0 ends).2 = 0 then ((m : Int), (measE l bl wd 0 0 ends).1, 0) else (0, 0, 21) from by unfold costA; rw [if_pos he]; unfold measT; rw [hl, hm])
    rw [he] at HEr
    have HFr := Lib.hid (fun (i j : Nat) (hij : i < j) (hj : j ≤ n) => rfree_any A l n c hl bl wd hF i j hij hj w hA)
    have HPr := Lib.hid (fun (i j : Nat) (hij : i < j) (hj : j ≤ n) (hf : 0 ≤ frT l bl wd i j) => rprice_any A l n c hl bl wd hF i j hij hj hf w hA)
    have HPb := Lib.hid (fun (i j : Nat) (hi : i ≤ j) (hf : 0 ≤ frT l bl wd i j) => prT_bound hF.b0 hF.b1 hF.w1 hF.all hi hf)
    have HM := Lib.hid hm
    have hn6 : n ≤ 256 := by have := hF.len; omega
    generalize costA l bl wd ends = r0 at *
    clear hl hF he hA hm
    go_enter Try.func21, Try.ntmps21
    go_wp2_with (go_at_call 26; refine HEr.out.mono ?_; rintro en W1 ⟨rfl, rfl⟩)
    go_loopw [12, 13] (fun v12 v13 wr => Rc1 n ends w v12 v13 wr) (fun _ v _ => m - (intOf v).toNat)
    case atStart => exact ⟨0, 0, rfl, rfl, Nat.zero_le _, rfl, rfl⟩
    case round =>
      obtain ⟨k, last, rfl, rfl, hk, hbe, rfl⟩ := hrel
      rw [HM.out] at hk
      rcases Nat.lt_or_ge k m with hlt | hge
      · obtain ⟨x, hx⟩ : ∃ x, ends[k]? = some x := ⟨_, List.getElem?_eq_getElem (by rw [HM.out]; exact hlt)⟩
        obtain ⟨ad, rfl, _, hc⟩ := hA2 (by intro e; rw [e] at hx; simp at hx)
        obtain ⟨hcx, _, _⟩ := hc k x hx
        rw [drop_at hx] at hbe
        have HBE := Lib.hid hbe
        clear hc hx hbe
        by_cases hxl : x ≤ last
        · have HB5 := Lib.hid (show badE (n : Int) 0 ends = true from by rw [← HBE.out]; unfold badE; rw [decide_eq_true hxl, Bool.true_or])
          go_wp2
          go_ret3
          exact ⟨by rw [HR.out, if_pos HB5.out]; rfl, Below.refl _ _⟩
        · have HB5 := Lib.hid (show badE (n : Int) x (ends.drop (k + 1)) = badE (n : Int) 0 ends from by rw [← HBE.out]; conv => rhs; unfold badE; rw [decide_eq_false hxl, Bool.false_or])
          go_wp2
          exact ⟨⟨k + 1, x, by go_num, rfl, by rw [HM.out]; omega, HB5.out, rfl⟩, by simp [intOf]; omega⟩
      · obtain rfl : k = m := by omega
        have hlt : ¬ k < k := by omega
        rw [List.drop_of_length_le (by rw [HM.out]; exact Nat.le_refl _)] at hbe
        have HBE := Lib.hid hbe
        clear hbe
        by_cases hln : last = (n : Int)
        · have HB5 := Lib.hid (show badE (n : Int) 0 ends = false from by rw [← HBE.out]; unfold badE; rw [decide_eq_false (by omega)])
          subst hln
          go_wp2
          go_loopw [12, 14, 15] (fun v12 v14 v15 wr => Rc2 l bl wd n ends w v12 v14 v15 wr) (fun _ _ v _ => k - (intOf v).toNat)
          case atStart => exact ⟨0, 0, 0, rfl, rfl, rfl, Nat.zero_le _, Nat.zero_le _, Int.le_refl _, by omega, HB5.out, rfl, rfl⟩
          case round =>
            obtain ⟨i, f, c0, rfl, rfl, rfl, hi, hf, hc1, hc2, hbd, hme, rfl⟩ := hrel
            rw [HM.out] at hi
            rcases Nat.lt_or_ge i k with hlt | hge
            · obtain ⟨x, hx⟩ : ∃ x, ends[i]? = some x := ⟨_, List.getElem?_eq_getElem (by rw [HM.out]; exact hlt)⟩
              obtain ⟨ad, rfl, _, hc⟩ := hA2 (by intro e; rw [e] at hx; simp at hx)
              obtain ⟨hcx, _, _⟩ := hc i x hx
              rw [drop_at hx] at hbd hme
              obtain ⟨g1, g2, g3⟩ := badE_cons hbd
              obtain ⟨e, rfl⟩ : ∃ e : Nat, x = (e : Int) := ⟨x.toNat, by omega⟩
              have hfe : f < e := by omega
              have hen : e ≤ n := by omega
              have HF1 := Lib.hid (HFr.out f e hfe hen)
              have HC1 := Lib.hid (fun h0 : 0 ≤ frT l bl wd f e => HPr.out f e hfe hen h0)
              have HP1 := Lib.hid (fun h0 : 0 ≤ frT l bl wd f e => HPb.out f e (Nat.le_of_lt hfe) h0)
              have HMe := Lib.hid (show measE l bl wd 0 0 ends = if frT l bl wd f e < 0 then (0, 21) else measE l bl wd (c0 + prT l bl wd f e) e (ends.drop (i + 1)) from by rw [← hme]; rfl)
              have HBd := Lib.hid g3
              clear hc hx hbd hme g3
              generalize frT l bl wd f e = fr at *
              generalize prT l bl wd f e = pr at *
              by_cases hfr : fr < 0
              · have HNF := Lib.hid hfr
                go_wp2_with (go_at_call 35; refine HF1.out.mono ?_; rintro en W5 ⟨rfl, rfl⟩)
                go_ret3
                exact ⟨by rw [HR.out, if_neg (by rw [HB5.out]; simp), HMe.out, if_pos HNF.out]; rfl, Below.refl _ _⟩
              · have hf0 : 0 ≤ fr := by omega
                have HNF := Lib.hid hfr
                obtain ⟨p1, p2⟩ := HP1.out hf0
                have HC2 := Lib.hid (HC1.out hf0)
                have HW := Lib.hid (wrap_big (x := c0 + pr) (by omega) (by omega))
                have hw := HW.out
                clear HC1 HP1
                go_wp2_with (first
                  | (go_at_call 35; refine HF1.out.mono ?_; rintro en W5 ⟨rfl, rfl⟩)
                  | (go_at_call 36; refine HC2.out.mono ?_; rintro en W6 ⟨rfl, rfl⟩))
                exact ⟨⟨i + 1, e, c0 + pr, by go_num, rfl, rfl, by rw [HM.out]; omega, hen, by omega, by omega, HBd.out, by rw [HMe.out, if_neg (by have := HNF.out; omega)], rfl⟩, by simp [intOf]; omega⟩
            · obtain rfl : i = k := by omega
              have hlt : ¬ i < i := by omega
              rw [List.drop_of_length_le (by rw [HM.out]; exact Nat.le_refl _)] at hme
              have HMe := Lib.hid (show measE l bl wd 0 0 ends = (c0, 0) from hme.symm)
              clear hme hbd
              go_wp2
              go_ret3
              exact ⟨by rw [HR.out, if_neg (by rw [HB5.out]; simp), HMe.out, if_pos rfl]; rfl, Below.refl _ _⟩
        · have HB5 := Lib.hid (show badE (n : Int) 0 ends = true from by rw [← HBE.out]; unfold badE; rw [decide_eq_true (by omega)])
          have hne : (last == (n : Int)) = false := by simp; omega
          go_wp2
          go_ret3
          exact ⟨by rw [HR.out, if_pos HB5.out]; rfl, Below.refl _ _⟩
  · have HC := Lib.hid (show costA l bl wd ends = (0, 0, errT l bl wd) from by unfold costA; rw [if_neg he])
    generalize errT l bl wd = k at *
    generalize costA l bl wd ends = r0 at *
    have hk : (k == 0) = false := by simp; exact he
    clear hl he hA hA2 hm
    go_enter Try.func21, Try.ntmps21
    go_wp2_with (go_at_call 26; refine HEr.out.mono ?_; rintro en W1 ⟨rfl, rfl⟩)
    go_ret3
    exact ⟨by rw [HC.out]; rfl, Below.refl _ _⟩
end Go.Proofs.Ytacdjchkilheiaa
