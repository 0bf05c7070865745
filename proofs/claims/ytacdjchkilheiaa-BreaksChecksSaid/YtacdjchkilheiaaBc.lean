/-
  The comparison of two pairs of numbers.
-/
import Derived.Test.YtacdjchkilheiaaBf
namespace Go.Proofs.Ytacdjchkilheiaa
open Go.RowKit
set_option linter.unusedVariables false
set_option linter.unusedSimpArgs false

def cmpI (x y : Int) : Int := if x < y then -1 else if y < x then 1 else 0
set_option maxHeartbeats 1000000 in
set_option maxRecDepth 100000 in
theorem isNaN_any (x : Int) (w : World) : Calls Try.prog 43 #[.int .i64 x] w fun e w' => e = .returned (.bool false) ∧ w = w' := by
  go_enter Try.func43, Try.ntmps43
  go_wp2
  go_ret
  exact ⟨rfl, rfl⟩
set_option maxHeartbeats 1000000 in
set_option maxRecDepth 100000 in
theorem icmp_any (x y : Int) (w : World) : Calls Try.prog 42 #[.int .i64 x, .int .i64 y] w fun e w' => e = .returned (.int .i64 (cmpI x y)) ∧ w = w' := by
  have HX := Lib.hid (fun (z : Int) (V : World) => isNaN_any z V)
  rcases Int.lt_trichotomy x y with h | h | h
  · have HC := Lib.hid (show cmpI x y = -1 from if_pos h)
    go_enter Try.func42, Try.ntmps42
    go_wp2_with (go_at_call 43; refine (HX.out _ _).mono ?_; rintro en w1 ⟨rfl, rfl⟩)
    go_ret
    exact ⟨by rw [HC.out]; rfl, rfl⟩
  · have HC := Lib.hid (show cmpI x y = 0 from by unfold cmpI; rw [if_neg (by omega), if_neg (by omega)])
    have h1 : ¬ x < y := by omega
    have h2 : ¬ y < x := by omega
    clear h
    go_enter Try.func42, Try.ntmps42
    go_wp2_with (go_at_call 43; refine (HX.out _ _).mono ?_; rintro en w1 ⟨rfl, rfl⟩)
    go_ret
    exact ⟨by rw [HC.out]; rfl, rfl⟩
  · have HC := Lib.hid (show cmpI x y = 1 from by unfold cmpI; rw [if_neg (by omega), if_pos h])
    have h1 : ¬ x < y := by omega
    go_enter Try.func42, Try.ntmps42
    go_wp2_with (go_at_call 43; refine (HX.out _ _).mono ?_; rintro en w1 ⟨rfl, rfl⟩)
    go_ret
    exact ⟨by rw [HC.out]; rfl, rfl⟩
/-- Two pairs. -/
def cmp2 (a b c d : Int) : Int := if cmpI a c = 0 then cmpI b d else cmpI a c
theorem cmp_better (a b c d : Int) : decide (cmp2 a b c d < 0) = better a b c d := by
  unfold cmp2 cmpI better
  rw [Bool.eq_iff_iff]
  simp only [decide_eq_true_eq, Bool.or_eq_true, Bool.and_eq_true]
  by_cases h1 : a < c
  · simp [h1]
  · by_cases h2 : c < a
    · simp [h1, h2]; omega
    · have : a = c := by omega
      subst this
      by_cases h3 : b < d
      · simp [h3]
      · by_cases h4 : d < b
        · simp [h3, h4]
        · simp [h3, h4]
def CmpRel (a b c d : Int) (v : Value) (w wr : World) : Prop := (v = .int .i64 0 ∨ (v = .int .i64 1 ∧ cmpI a c = 0) ∨ (v = .int .i64 2 ∧ cmpI a c = 0 ∧ cmpI b d = 0)) ∧ Below w.heap.size w wr
set_option maxHeartbeats 2000000 in
set_option maxRecDepth 100000 in
theorem compare_any (p q ca cb : Nat) (a b c d : Int) (w : World) (hp : p < w.heap.size) (hq : q < w.heap.size) (k0 : w.cell? ⟨p, 0, none⟩ = some (.int .i64 a)) (k1 : w.cell? ⟨p, 1, none⟩ = some (.int .i64 b)) (k2 : w.cell? ⟨q, 0, none⟩ = some (.int .i64 c)) (k3 : w.cell? ⟨q, 1, none⟩ = some (.int .i64 d)) :
    Calls Try.prog 41 #[.slice (some ⟨p, 0, none⟩) 2 ca, .slice (some ⟨q, 0, none⟩) 2 cb] w (IntR (cmp2 a b c d) w) := by
  have H0 := Lib.hid (fun (V : World) (h : Below w.heap.size w V) => ((h.cell (p := ⟨p, 0, none⟩) hp).trans k0 : V.cell? ⟨p, 0, none⟩ = some (.int .i64 a)))
  have H1 := Lib.hid (fun (V : World) (h : Below w.heap.size w V) => ((h.cell (p := ⟨p, 1, none⟩) hp).trans k1 : V.cell? ⟨p, 1, none⟩ = some (.int .i64 b)))
  have H2 := Lib.hid (fun (V : World) (h : Below w.heap.size w V) => ((h.cell (p := ⟨q, 0, none⟩) hq).trans k2 : V.cell? ⟨q, 0, none⟩ = some (.int .i64 c)))
  have H3 := Lib.hid (fun (V : World) (h : Below w.heap.size w V) => ((h.cell (p := ⟨q, 1, none⟩) hq).trans k3 : V.cell? ⟨q, 1, none⟩ = some (.int .i64 d)))
  have HC := Lib.hid (fun (x y : Int) (V : World) => icmp_any x y V)
  have HR := Lib.hid (show cmp2 a b c d = if cmpI a c = 0 then cmpI b d else cmpI a c from rfl)
  clear k0 k1 k2 k3 hp hq
  generalize cmp2 a b c d = r at *
  go_enter Try.func41, Try.ntmps41
  go_wp2
  go_loopw [11] (fun v wr => CmpRel a b c d v w wr) (fun v _ => 2 - (intOf v).toNat)
  case atStart => exact ⟨Or.inl rfl, Below.refl _ _⟩
  case round =>
    obtain ⟨hv, hB⟩ := hrel
    have c0 := H0.out _ hB
    have c1 := H1.out _ hB
    have c2 := H2.out _ hB
    have c3 := H3.out _ hB
    rcases hv with rfl | ⟨rfl, e1⟩ | ⟨rfl, e1, e2⟩
    · by_cases hz : cmpI a c = 0
      · have HZ := Lib.hid hz
        have HC1 := Lib.hid (fun V : World => (by have := HC.out a c V; rw [hz] at this; exact this : Calls Try.prog 42 #[.int .i64 a, .int .i64 c] V fun e w' => e = .returned (.int .i64 0) ∧ V = w'))
        clear hz HC
        go_wp2_with (go_at_call 42; refine (HC1.out _).mono ?_; rintro en w1 ⟨rfl, rfl⟩)
        exact ⟨⟨Or.inr (Or.inl ⟨rfl, HZ.out⟩), hB⟩, by simp [intOf]⟩
      · have HZ := Lib.hid (show r = cmpI a c from by rw [HR.out, if_neg hz])
        have HC1 := Lib.hid (fun V : World => HC.out a c V)
        generalize cmpI a c = k at HC1 HZ hz
        have hk : (k == 0) = false := by simp; exact hz
        clear HC HR
        go_wp2_with (go_at_call 42; refine (HC1.out _).mono ?_; rintro en w1 ⟨rfl, rfl⟩)
        go_ret
        exact ⟨by rw [HZ.out]; rfl, hB⟩
    · have HE1 := Lib.hid e1
      clear e1
      by_cases hz : cmpI b d = 0
      · have HZ := Lib.hid hz
        have HC1 := Lib.hid (fun V : World => (by have := HC.out b d V; rw [hz] at this; exact this : Calls Try.prog 42 #[.int .i64 b, .int .i64 d] V fun e w' => e = .returned (.int .i64 0) ∧ V = w'))
        clear hz HC
        go_wp2_with (go_at_call 42; refine (HC1.out _).mono ?_; rintro en w1 ⟨rfl, rfl⟩)
        exact ⟨⟨Or.inr (Or.inr ⟨rfl, HE1.out, HZ.out⟩), hB⟩, by simp [intOf]⟩
      · have HZ := Lib.hid (show r = cmpI b d from by rw [HR.out, if_pos HE1.out])
        have HC1 := Lib.hid (fun V : World => HC.out b d V)
        generalize cmpI b d = k at HC1 HZ hz
        have hk : (k == 0) = false := by simp; exact hz
        clear HC HR
        go_wp2_with (go_at_call 42; refine (HC1.out _).mono ?_; rintro en w1 ⟨rfl, rfl⟩)
        go_ret
        exact ⟨by rw [HZ.out]; rfl, hB⟩
    · have HZ := Lib.hid (show r = 0 from by rw [HR.out, if_pos e1, e2])
      clear e1 e2 HR HC
      go_wp2
      go_ret
      exact ⟨by rw [HZ.out]; rfl, hB⟩
set_option maxHeartbeats 1000000 in
set_option maxRecDepth 100000 in
theorem better_any (p q ca cb : Nat) (a b c d : Int) (w : World) (hp : p < w.heap.size) (hq : q < w.heap.size) (k0 : w.cell? ⟨p, 0, none⟩ = some (.int .i64 a)) (k1 : w.cell? ⟨p, 1, none⟩ = some (.int .i64 b)) (k2 : w.cell? ⟨q, 0, none⟩ = some (.int .i64 c)) (k3 : w.cell? ⟨q, 1, none⟩ = some (.int .i64 d)) :
    Calls Try.prog 34 #[.slice (some ⟨p, 0, none⟩) 2 ca, .slice (some ⟨q, 0, none⟩) 2 cb] w fun e w' => e = .returned (.bool (better a b c d)) ∧ Below w.heap.size w w' := by
  have HC := Lib.hid (compare_any p q ca cb a b c d w hp hq k0 k1 k2 k3)
  have HB := Lib.hid (cmp_better a b c d).symm
  clear k0 k1 k2 k3 hp hq
  generalize cmp2 a b c d = r at *
  generalize better a b c d = bb at *
  go_enter Try.func34, Try.ntmps34
  go_wp2_with (go_at_call 41; refine HC.out.mono ?_; rintro en w1 ⟨rfl, hB1⟩)
  go_ret
  exact ⟨by rw [HB.out]; rfl, hB1⟩
end Go.Proofs.Ytacdjchkilheiaa
