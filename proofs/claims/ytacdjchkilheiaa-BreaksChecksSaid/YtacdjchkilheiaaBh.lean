/-
  measure.
-/
import Derived.Test.YtacdjchkilheiaaBf
import Derived.Test.YtacdjchkilheiaaBe
namespace Go.Proofs.Ytacdjchkilheiaa
open Go.RowKit
set_option linter.unusedVariables false
set_option linter.unusedSimpArgs false

/-- The call answers lines, a cost and an error. -/
def ThreeR (r : Int × Int × Int) (w : World) (e : Ending) (w' : World) : Prop := e = .returned (.tuple #[.int .i64 r.1, .int .i64 r.2.1, .int .i64 r.2.2]) ∧ Below w.heap.size w w'
theorem wrap_big {x : Int} (h1 : -1000000000000000 ≤ x) (h2 : x ≤ 1000000000000000) : IntKind.i64.wrap x = x := by simp [IntKind.wrap, IntKind.signed, IntKind.bits]; omega
def Me1 (n : Nat) (ends : List Int) (W : World) (v8 v19 : Value) (wr : World) : Prop := ∃ (k : Nat) (last : Int), v19 = .int .i64 (k : Int) ∧ v8 = .int .i64 last ∧ k ≤ ends.length ∧ badE (n : Int) last (ends.drop k) = badE (n : Int) 0 ends ∧ Below W.heap.size W wr
def Me2 (l : List Int) (bl wd : Int) (n : Nat) (ends : List Int) (W : World) (v11 v12 v33 : Value) (wr : World) : Prop := ∃ (k f : Nat) (c : Int), v33 = .int .i64 (k : Int) ∧ v12 = .int .i64 (f : Int) ∧ v11 = .int .i64 c ∧ k ≤ ends.length ∧ f ≤ n ∧ 0 ≤ c ∧ c ≤ 67108864 * (f : Int) ∧ badE (n : Int) (f : Int) (ends.drop k) = false ∧ measE l bl wd c f (ends.drop k) = measE l bl wd 0 0 ends ∧ Below W.heap.size W wr

set_option maxHeartbeats 4000000 in
set_option maxRecDepth 100000 in
theorem measure_any (b : Nat) (l : List Int) (n : Nat) (hn : l.length = n) (bl wd : Int) (z : Bool) (hF : Fine l bl wd) (A : Option Addr) (ends : List Int) (m c : Nat) (hm : ends.length = m) (hm9 : m ≤ 9223372036854775807) (w : World) (hS : SumsAt w b l bl) (hA : IntsAt w A ends) :
    Calls Try.prog 37 #[pgV b n bl wd z, .slice A m c] w (ThreeR (measT l bl wd ends) w) := by
  have hl := hF.len
  have HWd := Lib.hid (fun V : World => (show Calls Try.prog 31 #[.agg #[.slice (some ⟨b, 0, none⟩) (n + 1) (n + 1), .int .i64 bl, .int .i64 wd, .bool z]] V (IntR (n : Int) V) from pwords_any b n bl wd z (by omega) V))
  have HFr := Lib.hid (fun (i j : Nat) (hi : i ≤ n) (hj : j ≤ n) (V : World) (h : Below w.heap.size w V) => (show Calls Try.prog 32 #[.agg #[.slice (some ⟨b, 0, none⟩) (n + 1) (n + 1), .int .i64 bl, .int .i64 wd, .bool z], .int .i64 (i : Int), .int .i64 (j : Int)] V (IntR (frT l bl wd i j) V) from pfree_any b l n hn bl wd z hF i j hi hj V (hS.keep h)))
  have HCo := Lib.hid (fun (i j : Nat) (hi : i ≤ j) (hj : j ≤ n) (hf : 0 ≤ frT l bl wd i j) (V : World) (h : Below w.heap.size w V) => (show Calls Try.prog 33 #[.agg #[.slice (some ⟨b, 0, none⟩) (n + 1) (n + 1), .int .i64 bl, .int .i64 wd, .bool z], .int .i64 (i : Int), .int .i64 (j : Int)] V (IntR (prT l bl wd i j) V) from pcost_any b l n hn bl wd z hF i j hi hj hf V (hS.keep h)))
  have HPb := Lib.hid (fun (i j : Nat) (hi : i ≤ j) (hf : 0 ≤ frT l bl wd i j) => prT_bound hF.b0 hF.b1 hF.w1 hF.all hi hf)
  have HM := Lib.hid hm
  have HR := Lib.hid (show measT l bl wd ends = if badE (n : Int) 0 ends = true then (0, 0, 5) else if (measE l bl wd 0 0 ends).2 = 0 then ((m : Int), (measE l bl wd 0 0 ends).1, 0) else (0, 0, 21) from by unfold measT; rw [hn, hm])
  have hn9 : n ≤ 256 := by omega
  have HA := Lib.hid (fun (V : World) (h : Below w.heap.size w V) => hA.keep h)
  unfold pgV
  clear hn hF hS hl hm hA
  go_enter Try.func37, Try.ntmps37
  go_upto_region 1 with (fail)
  have Kp := blk_new w 58 #[.slice (some ⟨b, 0, none⟩) (n + 1) (n + 1), .int .i64 bl, .int .i64 wd, .bool z]
  have X0 : Below w.heap.size w (w.alloc (.cells #[.slice (some ⟨b, 0, none⟩) (n + 1) (n + 1), .int .i64 bl, .int .i64 wd, .bool z] 58)) := (Below.refl _ _).alloc (Nat.le_refl _) _
  generalize World.alloc w _ = W1 at Kp X0 ⊢
  obtain ⟨pb, hpb⟩ : ∃ pb, w.heap.size = pb := ⟨_, rfl⟩
  rw [hpb] at Kp
  rw [hpb]
  have C : ∀ w', Below W1.heap.size W1 w' → w'.rangeAt pb 0 [.slice (some ⟨b, 0, none⟩) (n + 1) (n + 1), .int .i64 bl, .int .i64 wd, .bool z] := fun w' h => by have := (Kp.keep h).range 0 4; exact this
  have C := Lib.hid C
  clear Kp hpb
  go_wp2_with (first
    | (refine wpList_load_mid rfl 58 (.tmp 2) rfl pb 0 rfl [.slice (some ⟨b, 0, none⟩) (n + 1) (n + 1), .int .i64 bl, .int .i64 wd, .bool z] _ (C.out W1 (Below.refl _ _)) Try.underlying58 rfl (by kernel_rfl) ?_)
    | (go_at_call 31; refine (HWd.out W1).mono ?_; rintro en W2 ⟨rfl, hB2⟩))
  go_loopw [8, 19] (fun v8 v19 wr => Me1 n ends W1 v8 v19 wr) (fun _ v _ => m - (intOf v).toNat)
  case atStart => exact ⟨0, 0, rfl, rfl, Nat.zero_le _, rfl, hB2⟩
  case round =>
    clear hB2
    obtain ⟨k, last, rfl, rfl, hk, hbe, hB⟩ := hrel
    rw [HM.out] at hk
    rcases Nat.lt_or_ge k m with hlt | hge
    · obtain ⟨x, hx⟩ : ∃ x, ends[k]? = some x := ⟨_, List.getElem?_eq_getElem (by rw [HM.out]; exact hlt)⟩
      obtain ⟨ad, rfl, _, hc⟩ := HA.out wr (link X0 hB) (by intro e; rw [e] at hx; simp at hx)
      obtain ⟨hcx, _, _⟩ := hc k x hx
      rw [drop_at hx] at hbe
      have HBE := Lib.hid hbe
      clear hc hx hbe
      by_cases hxl : x ≤ last
      · have HB5 := Lib.hid (show badE (n : Int) 0 ends = true from by rw [← HBE.out]; unfold badE; rw [decide_eq_true hxl, Bool.true_or])
        go_wp2
        go_ret3
        exact ⟨by rw [HR.out, if_pos HB5.out]; rfl, link X0 hB⟩
      · have HB5 := Lib.hid (show badE (n : Int) x (ends.drop (k + 1)) = badE (n : Int) 0 ends from by rw [← HBE.out]; conv => rhs; unfold badE; rw [decide_eq_false hxl, Bool.false_or])
        go_wp2
        exact ⟨⟨k + 1, x, by go_num, rfl, by rw [HM.out]; omega, HB5.out, hB⟩, by simp [intOf]; omega⟩
    · obtain rfl : k = m := by omega
      have hlt : ¬ k < k := by omega
      rw [List.drop_of_length_le (by rw [HM.out]; exact Nat.le_refl _)] at hbe
      have HBE := Lib.hid hbe
      clear hbe
      by_cases hln : last = (n : Int)
      · have HB5 := Lib.hid (show badE (n : Int) 0 ends = false from by rw [← HBE.out]; unfold badE; rw [decide_eq_false (by omega)])
        subst hln
        go_wp2
        obtain ⟨W3, rfl⟩ : ∃ W3, W3 = wr := ⟨_, rfl⟩
        go_loopw [11, 12, 33] (fun v11 v12 v33 wr => Me2 l bl wd n ends W1 v11 v12 v33 wr) (fun _ _ v _ => k - (intOf v).toNat)
        case atStart => exact ⟨0, 0, 0, rfl, rfl, rfl, Nat.zero_le _, Nat.zero_le _, Int.le_refl _, by omega, HB5.out, rfl, hB⟩
        case round =>
          clear hB
          obtain ⟨i, f, c0, rfl, rfl, rfl, hi, hf, hc1, hc2, hbd, hme, hB⟩ := hrel
          rw [HM.out] at hi
          rcases Nat.lt_or_ge i k with hlt | hge
          · obtain ⟨x, hx⟩ : ∃ x, ends[i]? = some x := ⟨_, List.getElem?_eq_getElem (by rw [HM.out]; exact hlt)⟩
            obtain ⟨ad, rfl, _, hc⟩ := HA.out wr (link X0 hB) (by intro e; rw [e] at hx; simp at hx)
            obtain ⟨hcx, _, _⟩ := hc i x hx
            rw [drop_at hx] at hbd hme
            obtain ⟨g1, g2, g3⟩ := badE_cons hbd
            obtain ⟨e, rfl⟩ : ∃ e : Nat, x = (e : Int) := ⟨x.toNat, by omega⟩
            have hfe : f ≤ e := by omega
            have hen : e ≤ n := by omega
            have HF1 := Lib.hid (fun (V : World) (h : Below W1.heap.size W1 V) => HFr.out f e (by omega) hen V (link X0 h))
            have HC1 := Lib.hid (fun (h0 : 0 ≤ frT l bl wd f e) (V : World) (h : Below W1.heap.size W1 V) => HCo.out f e hfe hen h0 V (link X0 h))
            have HP1 := Lib.hid (fun h0 : 0 ≤ frT l bl wd f e => HPb.out f e hfe h0)
            have HMe := Lib.hid (show measE l bl wd 0 0 ends = if frT l bl wd f e < 0 then (0, 21) else measE l bl wd (c0 + prT l bl wd f e) e (ends.drop (i + 1)) from by rw [← hme]; rfl)
            have HBd := Lib.hid g3
            have CW := C.out wr hB
            clear hc hx hbd hme g3
            generalize frT l bl wd f e = fr at *
            generalize prT l bl wd f e = pr at *
            by_cases hfr : fr < 0
            · have HNF := Lib.hid hfr
              go_wp2_with (first
                | (refine wpList_load_mid rfl 58 (.tmp 2) rfl pb 0 rfl [.slice (some ⟨b, 0, none⟩) (n + 1) (n + 1), .int .i64 bl, .int .i64 wd, .bool z] _ CW Try.underlying58 rfl (by kernel_rfl) ?_)
                | (go_at_call 32; refine (HF1.out wr hB).mono ?_; rintro en W5 ⟨rfl, hB5⟩))
              go_ret3
              exact ⟨by rw [HR.out, if_neg (by rw [HB5.out]; simp), HMe.out, if_pos HNF.out]; rfl, link X0 (link hB hB5)⟩
            · have hf0 : 0 ≤ fr := by omega
              have HNF := Lib.hid hfr
              obtain ⟨p1, p2⟩ := HP1.out hf0
              have HC2 := Lib.hid (HC1.out hf0)
              have HW := Lib.hid (wrap_big (x := c0 + pr) (by omega) (by omega))
              have hw := HW.out
              clear HC1 HP1
              go_wp2_with (first
                | (refine wpList_load_mid rfl 58 (.tmp 2) rfl pb 0 rfl [.slice (some ⟨b, 0, none⟩) (n + 1) (n + 1), .int .i64 bl, .int .i64 wd, .bool z] _ CW Try.underlying58 rfl (by kernel_rfl) ?_)
                | (go_at_call 32; refine (HF1.out wr hB).mono ?_; rintro en W5 ⟨rfl, hB5⟩; have CW5 := C.out W5 (link hB hB5))
                | (refine wpList_load_mid rfl 58 (.tmp 2) rfl pb 0 rfl [.slice (some ⟨b, 0, none⟩) (n + 1) (n + 1), .int .i64 bl, .int .i64 wd, .bool z] _ CW5 Try.underlying58 rfl (by kernel_rfl) ?_)
                | (go_at_call 33; refine (HC2.out W5 (link hB hB5)).mono ?_; rintro en W6 ⟨rfl, hB6⟩))
              exact ⟨⟨i + 1, e, c0 + pr, by go_num, rfl, rfl, by rw [HM.out]; omega, hen, by omega, by omega, HBd.out, by rw [HMe.out, if_neg (by have := HNF.out; omega)], link (link hB hB5) hB6⟩, by simp [intOf]; omega⟩
          · obtain rfl : i = k := by omega
            have hlt : ¬ i < i := by omega
            rw [List.drop_of_length_le (by rw [HM.out]; exact Nat.le_refl _)] at hme
            have HMe := Lib.hid (show measE l bl wd 0 0 ends = (c0, 0) from hme.symm)
            clear hme hbd
            go_wp2
            go_ret3
            exact ⟨by rw [HR.out, if_neg (by rw [HB5.out]; simp), HMe.out, if_pos rfl]; rfl, link X0 hB⟩
      · have HB5 := Lib.hid (show badE (n : Int) 0 ends = true from by rw [← HBE.out]; unfold badE; rw [decide_eq_true (by omega)])
        have hne : (last == (n : Int)) = false := by simp; omega
        go_wp2
        go_ret3
        exact ⟨by rw [HR.out, if_pos HB5.out]; rfl, link X0 hB⟩
end Go.Proofs.Ytacdjchkilheiaa
