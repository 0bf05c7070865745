/-
  The reference's is, Error, Free, Price and Wide.
-/
import Derived.Test.YtacdjchkilheiaaBh
namespace Go.Proofs.Ytacdjchkilheiaa
open Go.RowKit
set_option linter.unusedVariables false
set_option linter.unusedSimpArgs false

set_option maxHeartbeats 1000000 in
set_option maxRecDepth 100000 in
theorem ris_any (x : Int) (w : World) : Calls Try.prog 39 #[.int .i64 x] w fun e w' => e = .returned (.bool (prop x)) ∧ w = w' := by
  by_cases h1 : 0 ≤ x
  · by_cases h2 : x ≤ 4096
    · have HP := Lib.hid (prop_iff.2 ⟨h1, h2⟩)
      go_enter Try.func39, Try.ntmps39
      go_wp2
      go_ret
      exact ⟨by rw [HP.out]; rfl, rfl⟩
    · have HP := Lib.hid (show prop x = false from by rw [Bool.eq_false_iff]; intro h; exact h2 (prop_iff.1 h).2)
      go_enter Try.func39, Try.ntmps39
      go_wp2
      go_ret
      exact ⟨by rw [HP.out]; rfl, rfl⟩
  · have HP := Lib.hid (show prop x = false from by rw [Bool.eq_false_iff]; intro h; exact h1 (prop_iff.1 h).1)
    go_enter Try.func39, Try.ntmps39
    go_wp2
    go_ret
    exact ⟨by rw [HP.out]; rfl, rfl⟩
def ErRel (l : List Int) (b0 : Bool) (n : Nat) (w : World) (v7 v8 : Value) (wr : World) : Prop := ∃ k : Nat, v8 = .int .i64 (k : Int) ∧ k ≤ n ∧ v7 = .bool (b0 && (l.take k).all prop) ∧ w = wr
set_option maxHeartbeats 2000000 in
set_option maxRecDepth 100000 in
theorem rerror_any (A : Option Addr) (l : List Int) (n c : Nat) (hl : l.length = n) (hn9 : n ≤ 1000000000000) (bl wd : Int) (w : World) (hA : IntsAt w A l) :
    Calls Try.prog 26 #[.slice A n c, .int .i64 bl, .int .i64 wd] w fun e w' => e = .returned (.int .i64 (errT l bl wd)) ∧ w = w' := by
  have HI := Lib.hid (fun (x : Int) (V : World) => ris_any x V)
  have HL := Lib.hid hl
  by_cases h : 256 < n
  · have HE := Lib.hid (show errT l bl wd = 4 from by unfold errT; rw [if_pos (by omega)])
    clear hl hA
    go_enter Try.func26, Try.ntmps26
    go_wp2
    go_ret
    exact ⟨by rw [HE.out]; rfl, rfl⟩
  · have HE := Lib.hid (show errT l bl wd = if ((prop bl && prop wd) && l.all prop) = true then 0 else 1 from by unfold errT; rw [if_neg (by omega)])
    have hB := HI.out bl
    have hW := HI.out wd
    obtain ⟨b0, hb0⟩ : ∃ b0, (prop bl && prop wd) = b0 := ⟨_, rfl⟩
    rw [hb0] at HE
    have key : ∀ (Q : Prop), (prop bl = false → b0 = false → Q) → (prop bl = true → prop wd = b0 → Q) → Q := fun Q g1 g2 => by
      rcases hp : prop bl with _ | _
      · exact g1 hp (by rw [← hb0, hp]; rfl)
      · exact g2 hp (by rw [← hb0, hp]; rfl)
    clear hl
    refine key _ (fun p1 p2 => ?_) (fun p1 p2 => ?_)
    · rw [p1] at hB
      have HB := Lib.hid hB
      subst p2
      clear hB hW p1 key hb0
      go_enter Try.func26, Try.ntmps26
      go_wp2_with (go_at_call 39; refine (HB.out _).mono ?_; rintro en w1 ⟨rfl, rfl⟩)
      go_loopw [7, 8] (fun v7 v8 wr => ErRel l false n w v7 v8 wr) (fun _ v _ => n - (intOf v).toNat)
      case atStart => exact ⟨0, rfl, Nat.zero_le _, rfl, rfl⟩
      case round =>
        obtain ⟨k, rfl, hk, rfl, rfl⟩ := hrel
        rw [Bool.false_and]
        rcases Nat.lt_or_ge k n with hlt | hge
        · go_wp2
          exact ⟨⟨k + 1, by go_num, by omega, by rw [Bool.false_and], rfl⟩, by simp [intOf]; omega⟩
        · have hlt : ¬ k < n := by omega
          go_wp2
          go_ret
          exact ⟨by rw [HE.out, Bool.false_and]; rfl, rfl⟩
    · rw [p1] at hB
      rw [p2] at hW
      have HB := Lib.hid hB
      have HW := Lib.hid hW
      clear hB hW p1 p2 key hb0
      go_enter Try.func26, Try.ntmps26
      go_wp2_with (first
        | (go_at_call_of 39 (Value.int IntKind.i64 bl); refine (HB.out _).mono ?_; rintro en w1 ⟨rfl, rfl⟩)
        | (go_at_call_of 39 (Value.int IntKind.i64 wd); refine (HW.out _).mono ?_; rintro en w1 ⟨rfl, rfl⟩))
      go_loopw [7, 8] (fun v7 v8 wr => ErRel l b0 n w v7 v8 wr) (fun _ v _ => n - (intOf v).toNat)
      case atStart => exact ⟨0, rfl, Nat.zero_le _, by simp, rfl⟩
      case round =>
        obtain ⟨k, rfl, hk, rfl, rfl⟩ := hrel
        rcases Nat.lt_or_ge k n with hlt | hge
        · obtain ⟨x, hx⟩ : ∃ x, l[k]? = some x := ⟨_, List.getElem?_eq_getElem (by rw [HL.out]; exact hlt)⟩
          obtain ⟨ad, rfl, _, hc⟩ := hA (by intro e; rw [e] at hx; simp at hx)
          obtain ⟨hcx, _, _⟩ := hc k x hx
          have HT := Lib.hid (show (l.take (k + 1)).all prop = ((l.take k).all prop && prop x) from by rw [List.take_add_one, hx, Option.toList_some, List.all_append]; simp)
          have HX := Lib.hid (fun V : World => HI.out x V)
          generalize prop x = px at HX HT
          obtain ⟨b1, hb1⟩ : ∃ b1, (b0 && (l.take k).all prop) = b1 := ⟨_, rfl⟩
          rw [hb1]
          have HB1 := Lib.hid (show (b0 && (l.take (k + 1)).all prop) = (b1 && px) from by rw [HT.out, ← Bool.and_assoc, hb1])
          clear hc hx hb1
          rcases b1 with _ | _
          · go_wp2
            exact ⟨⟨k + 1, by go_num, by omega, by rw [HB1.out]; rfl, rfl⟩, by simp [intOf]; omega⟩
          · go_wp2_with (go_at_call 39; refine (HX.out _).mono ?_; rintro en w1 ⟨rfl, rfl⟩)
            exact ⟨⟨k + 1, by go_num, by omega, by rw [HB1.out]; rfl, rfl⟩, by simp [intOf]; omega⟩
        · obtain rfl : k = n := by omega
          have hlt : ¬ k < k := by omega
          rw [List.take_of_length_le (by rw [HL.out]; exact Nat.le_refl _)]
          generalize (b0 && l.all prop) = b1 at HE ⊢
          rcases b1 with _ | _
          · go_wp2
            go_ret
            exact ⟨by rw [HE.out]; rfl, rfl⟩
          · go_wp2
            go_ret
            exact ⟨by rw [HE.out]; rfl, rfl⟩
def WiRel (l : List Int) (wd : Int) (n : Nat) (w : World) (v5 : Value) (wr : World) : Prop := ∃ k : Nat, v5 = .int .i64 (k : Int) ∧ k ≤ n ∧ (∀ j x, j < k → l[j]? = some x → x ≤ wd) ∧ w = wr
set_option maxHeartbeats 2000000 in
set_option maxRecDepth 100000 in
theorem rwide_any (A : Option Addr) (l : List Int) (n c : Nat) (hl : l.length = n) (hn9 : n ≤ 1000000000000) (wd : Int) (w : World) (hA : IntsAt w A l) :
    Calls Try.prog 25 #[.slice A n c, .int .i64 wd] w fun e w' => e = .returned (.bool (wideT l wd)) ∧ w = w' := by
  have HL := Lib.hid hl
  clear hl
  go_enter Try.func25, Try.ntmps25
  go_wp2
  go_loopw [5] (fun v wr => WiRel l wd n w v wr) (fun v _ => n - (intOf v).toNat)
  case atStart => exact ⟨0, rfl, Nat.zero_le _, fun j x h => by omega, rfl⟩
  case round =>
    obtain ⟨k, rfl, hk, hall, rfl⟩ := hrel
    have HAll := Lib.hid hall
    clear hall
    rcases Nat.lt_or_ge k n with hlt | hge
    · obtain ⟨x, hx⟩ : ∃ x, l[k]? = some x := ⟨_, List.getElem?_eq_getElem (by rw [HL.out]; exact hlt)⟩
      obtain ⟨ad, rfl, _, hc⟩ := hA (by intro e; rw [e] at hx; simp at hx)
      obtain ⟨hcx, _, _⟩ := hc k x hx
      have HX := Lib.hid hx
      clear hc hx
      by_cases hw : wd < x
      · have HW := Lib.hid (show wideT l wd = true from by unfold wideT; rw [List.any_eq_true]; exact ⟨x, List.mem_of_getElem? HX.out, decide_eq_true hw⟩)
        go_wp2
        go_ret
        exact ⟨by rw [HW.out]; rfl, rfl⟩
      · have hw2 : x ≤ wd := by omega
        have HN := Lib.hid (show ∀ j y, j < k + 1 → l[j]? = some y → y ≤ wd from fun j y hj hy => by
          rcases Nat.lt_or_ge j k with g | g
          · exact HAll.out j y g hy
          · rw [show j = k by omega, HX.out] at hy
            injection hy with hy
            omega)
        go_wp2
        exact ⟨⟨k + 1, by go_num, by omega, HN.out, rfl⟩, by simp [intOf]; omega⟩
    · have hlt : ¬ k < n := by omega
      have HW := Lib.hid (show wideT l wd = false from by
        unfold wideT
        rw [List.any_eq_false]
        intro x hx
        obtain ⟨j, hj⟩ := List.getElem?_of_mem hx
        have := HAll.out j x (by have := (List.getElem?_eq_some_iff.1 hj).1; rw [HL.out] at this; omega) hj
        rw [decide_eq_true_eq]
        omega)
      go_wp2
      go_ret
      exact ⟨by rw [HW.out]; rfl, rfl⟩
/-- The free width so far. -/
def frS (l : List Int) (bl wd : Int) (i k : Nat) : Int := if k = i then wd else frT l bl wd i k
def FrRel (l : List Int) (bl wd : Int) (i j : Nat) (w : World) (v2 v11 : Value) (wr : World) : Prop := ∃ k : Nat, v11 = .int .i64 (k : Int) ∧ i ≤ k ∧ k ≤ j ∧ v2 = .int .i64 (frS l bl wd i k) ∧ w = wr
set_option maxHeartbeats 2000000 in
set_option maxRecDepth 100000 in
theorem rfree_any (A : Option Addr) (l : List Int) (n c : Nat) (hl : l.length = n) (bl wd : Int) (hF : Fine l bl wd) (i j : Nat) (hij : i < j) (hj : j ≤ n) (w : World) (hA : IntsAt w A l) :
    Calls Try.prog 35 #[.slice A n c, .int .i64 bl, .int .i64 wd, .int .i64 (i : Int), .int .i64 (j : Int)] w fun e w' => e = .returned (.int .i64 (frT l bl wd i j)) ∧ w = w' := by
  have HL := Lib.hid hl
  have hn9 := hF.len
  have hn9 : n ≤ 256 := by omega
  have HFi := Lib.hid hF
  have h1 := hF.b0
  have h2 := hF.b1
  have h3 := hF.w0
  have h4 := hF.w1
  clear hl hF
  go_enter Try.func35, Try.ntmps35
  go_wp2
  go_loopw [2, 11] (fun v2 v11 wr => FrRel l bl wd i j w v2 v11 wr) (fun _ v _ => j - (intOf v).toNat)
  case atStart => exact ⟨i, rfl, Nat.le_refl _, Nat.le_of_lt hij, by unfold frS; rw [if_pos rfl], rfl⟩
  case round =>
    obtain ⟨k, rfl, hik, hkj, rfl, rfl⟩ := hrel
    rcases Nat.lt_or_ge k j with hlt | hge
    · obtain ⟨x, hx⟩ : ∃ x, l[k]? = some x := ⟨_, List.getElem?_eq_getElem (by rw [HL.out]; omega)⟩
      obtain ⟨ad, rfl, _, hc⟩ := hA (by intro e; rw [e] at hx; simp at hx)
      obtain ⟨hcx, _, _⟩ := hc k x hx
      obtain ⟨x1, x2⟩ := HFi.out.all x (List.mem_of_getElem? hx)
      have hkn : k < n := by omega
      have g1 := frT_ge (bl := bl) (wd := wd) h1 h2 h3 HFi.out.all (i := i) (j := k) (by omega)
      have g2 := frT_le h1 h2 h4 HFi.out.all hik
      have hst : frT l bl wd i (k + 1) = frT l bl wd i k - x - bl := by
        unfold frT
        show wd + bl - (sumT l bl k + l.getD k 0 + bl - sumT l bl i) = _
        rw [List.getD_eq_getElem?_getD, hx]
        show wd + bl - (sumT l bl k + x + bl - sumT l bl i) = _
        omega
      have hnx : frS l bl wd i (k + 1) = frT l bl wd i (k + 1) := by unfold frS; rw [if_neg (by omega)]
      by_cases hki : k = i
      · subst hki
        have hfs : frS l bl wd k k = wd := by unfold frS; rw [if_pos rfl]
        have hf1 := frT_one (l := l) (bl := bl) (wd := wd) hx
        have HN := Lib.hid (show frS l bl wd k (k + 1) = wd - x from by rw [hnx, hf1])
        rw [hfs]
        clear hc hx hst hnx hfs hf1 g1 g2
        go_wp2
        exact ⟨⟨k + 1, by go_num, by omega, by omega, by rw [HN.out], rfl⟩, by simp [intOf]; omega⟩
      · have hfs : frS l bl wd i k = frT l bl wd i k := by unfold frS; rw [if_neg hki]
        have HN := Lib.hid (show frS l bl wd i (k + 1) = frT l bl wd i k - x - bl from by rw [hnx, hst])
        rw [hfs]
        have hik2 : i < k := by omega
        clear hc hx hst hnx hfs
        generalize frT l bl wd i k = f at *
        go_wp2
        exact ⟨⟨k + 1, by go_num, by omega, by omega, by rw [HN.out], rfl⟩, by simp [intOf]; omega⟩
    · obtain rfl : k = j := by omega
      have hlt : ¬ k < k := by omega
      have HE := Lib.hid (show frS l bl wd i k = frT l bl wd i k from by unfold frS; rw [if_neg (by omega)])
      go_wp2
      go_ret
      exact ⟨by rw [HE.out]; rfl, rfl⟩
set_option maxHeartbeats 2000000 in
set_option maxRecDepth 100000 in
theorem rprice_any (A : Option Addr) (l : List Int) (n c : Nat) (hl : l.length = n) (bl wd : Int) (hF : Fine l bl wd) (i j : Nat) (hij : i < j) (hj : j ≤ n) (hf : 0 ≤ frT l bl wd i j) (w : World) (hA : IntsAt w A l) :
    Calls Try.prog 36 #[.slice A n c, .int .i64 bl, .int .i64 wd, .int .i64 (i : Int), .int .i64 (j : Int)] w fun e w' => e = .returned (.int .i64 (prT l bl wd i j)) ∧ w = w' := by
  have HR := Lib.hid (rfree_any A l n c hl bl wd hF i j hij hj w hA)
  have hsq := sq_bound hf (frT_le hF.b0 hF.b1 hF.w1 hF.all (Nat.le_of_lt hij))
  have HP := Lib.hid (show prT l bl wd i j = if j = n then 0 else frT l bl wd i j * frT l bl wd i j from by unfold prT; rw [hl])
  clear hl hF hA
  generalize prT l bl wd i j = pr at *
  generalize frT l bl wd i j = f at *
  have HW := Lib.hid (show IntKind.i64.wrap (f * f) = f * f from wrap_in (by omega) (by omega))
  by_cases hjn : j = n
  · have hne : ((j : Int) == (n : Int)) = true := by simp [hjn]
    have HE := Lib.hid (show pr = 0 from by rw [HP.out, if_pos hjn])
    clear hjn
    go_enter Try.func36, Try.ntmps36
    go_wp2
    go_ret
    exact ⟨by rw [HE.out]; rfl, rfl⟩
  · have hne : ((j : Int) == (n : Int)) = false := by simp; omega
    have HE := Lib.hid (show pr = f * f from by rw [HP.out, if_neg hjn])
    clear hjn hsq
    have hw := HW.out
    go_enter Try.func36, Try.ntmps36
    go_wp2_with (go_at_call 35; refine HR.out.mono ?_; rintro en w1 ⟨rfl, rfl⟩)
    go_ret
    exact ⟨by rw [HE.out]; rfl, rfl⟩
end Go.Proofs.Ytacdjchkilheiaa
