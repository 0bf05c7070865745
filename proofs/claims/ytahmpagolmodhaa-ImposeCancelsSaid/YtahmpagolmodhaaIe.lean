/-
  Pairs and sheets as elements; Quires, of the program and of the reference.
-/
import Derived.Test.YtahmpagolmodhaaIc
namespace Go.Proofs.Ytahmpagolmodhaa
open Go.RowKit
set_option linter.unusedVariables false
set_option linter.unusedSimpArgs false

/-- Pairs of numbers as elements. -/
def prE : Elt (Int × Int) where
  T := 25
  ST := 26
  k := 2
  bytes := 16
  zero := .agg #[.int .i64 0, .int .i64 0]
  enc := fun s => [.int .i64 s.1, .int .i64 s.2]
  info := by kernel_rfl
  und := Try.underlying26
  len := fun _ => rfl
  one := by intro s u hu; simp at hu; rcases hu with rfl | rfl <;> rfl
  kpos := by decide
  zs := rfl
  bb := by decide
/-- The cells of a sheet. -/
def shV (s : Sh) : List Value := [.int .i64 s.q, .int .i64 s.fa, .int .i64 s.fb, .int .i64 s.ba, .int .i64 s.bb]
/-- Sheets as elements: the program's, the reference's. -/
def shE : Elt Sh where
  T := 64
  ST := 22
  k := 5
  bytes := 40
  zero := .agg #[.int .i64 0, .int .i64 0, .int .i64 0, .int .i64 0, .int .i64 0]
  enc := shV
  info := by kernel_rfl
  und := Try.underlying22
  len := fun _ => rfl
  one := by intro s u hu; simp [shV] at hu; rcases hu with rfl | rfl | rfl | rfl | rfl <;> rfl
  kpos := by decide
  zs := rfl
  bb := by decide
def srE : Elt Sh where
  T := 69
  ST := 32
  k := 5
  bytes := 40
  zero := .agg #[.int .i64 0, .int .i64 0, .int .i64 0, .int .i64 0, .int .i64 0]
  enc := shV
  info := by kernel_rfl
  und := Try.underlying32
  len := fun _ => rfl
  one := by intro s u hu; simp [shV] at hu; rcases hu with rfl | rfl | rfl | rfl | rfl <;> rfl
  kpos := by decide
  zs := rfl
  bb := by decide
/-- The call answers a list of its own and an error. -/
def LstR {α : Type} (E : Elt α) (l : List α) (x : Int) (w : World) (e : Ending) (w' : World) : Prop := ∃ v, e = .returned (.tuple #[v, .int .i64 x]) ∧ OwnR E w' w.heap.size v l ∧ Below w.heap.size w w'
def qPair (l q : Nat) : Int × Int := (((q * l + 1 : Nat) : Int), (((q + 1) * l : Nat) : Int))
/-- What Quires answers. -/
def quiT (p h : Nat) : List (Int × Int) := (List.range (qnT p h)).map (qPair (2 * h))
def QuRel (l Q : Nat) (w : World) (v7 v8 : Value) (wr : World) : Prop := ∃ q : Nat, q ≤ Q ∧ v8 = .int .i64 (q : Int) ∧ OwnR prE wr w.heap.size v7 ((List.range q).map (qPair l)) ∧ Below w.heap.size w wr
theorem range_snoc {α : Type} (f : Nat → α) (k : Nat) : (List.range (k + 1)).map f = (List.range k).map f ++ [f k] := by rw [List.range_succ, List.map_append]; rfl

set_option maxHeartbeats 2000000 in
set_option maxRecDepth 100000 in
theorem rquires_bad (p l : Int) (hv : volE p l ≠ 0) (w : World) : Calls Try.prog 11 #[.int .i64 p, .int .i64 l] w (LstR prE [] (volE p l) w) := by
  have C := Lib.hid (rerror_any p l)
  generalize volE p l = v at *
  go_enter Try.func11, Try.ntmps11
  go_wp2_with (first | (go_at_call 39; refine (C.out _).mono ?_; rintro _ w2 ⟨rfl, rfl⟩))
  go_ret2
  exact ⟨_, rfl, OwnR.nil _ _ _, Below.refl _ _⟩
set_option maxHeartbeats 2000000 in
set_option maxRecDepth 100000 in
theorem quires_bad (p l : Int) (hv : volE p l ≠ 0) (w : World) : Calls Try.prog 10 #[.int .i64 p, .int .i64 l] w (LstR prE [] (volE p l) w) := by
  have C := Lib.hid (check_any p l)
  generalize volE p l = v at *
  go_enter Try.func10, Try.ntmps10
  go_wp2_with (first | (go_at_call 37; refine (C.out _).mono ?_; rintro _ w2 ⟨rfl, rfl⟩))
  go_ret2
  exact ⟨_, rfl, OwnR.nil _ _ _, Below.refl _ _⟩
set_option maxHeartbeats 2000000 in
set_option maxRecDepth 100000 in
theorem rquires_any (p h : Nat) (hp : p ≤ 999) (h1 : 1 ≤ h) (h8 : h ≤ 8) (w : World) : Calls Try.prog 11 #[.int .i64 (p : Int), .int .i64 ((2 * h : Nat) : Int)] w (LstR prE (quiT p h) 0 w) := by
  have hv : volE (p : Int) ((2 * h : Nat) : Int) = 0 := by unfold volE; rw [if_neg (by omega), if_neg (by omega)]
  have C := Lib.hid (rerror_any (p : Int) ((2 * h : Nat) : Int))
  rw [hv] at C
  have G := Lib.hid (rcount_any p h hp h1 h8)
  unfold quiT
  have hq9 := qnT_le p h hp h1 h8
  have h6 := qnT_leaves p h hp h1 h8
  obtain ⟨Q, hQ⟩ : ∃ Q, qnT p h = Q := ⟨_, rfl⟩
  obtain ⟨l, hl⟩ : ∃ l, 2 * h = l := ⟨_, rfl⟩
  have e3 : l ≤ 16 := by omega
  rw [hQ] at G hq9 h6 ⊢
  rw [hl] at C G h6 ⊢
  have H6 := Lib.hid h6
  clear hv hQ hl h6
  go_enter Try.func11, Try.ntmps11
  go_wp2_with (first | (go_at_call 39; refine (C.out _).mono ?_; rintro _ w2 ⟨rfl, rfl⟩))
  go_loopw [7, 8] (fun v7 v8 wr => QuRel l Q w v7 v8 wr) (fun _ v _ => Q - (intOf v).toNat)
  case atStart => exact ⟨0, Nat.zero_le _, rfl, OwnR.nil _ _ _, Below.refl _ _⟩
  case round =>
    obtain ⟨q, hq, rfl, hO, hB⟩ := hrel
    have hz := hB.size
    rcases Nat.lt_or_ge q Q with hlt | hge
    · have hltz : (q : Int) < (Q : Int) := by omega
      obtain ⟨a, ha⟩ : ∃ a, q * l = a := ⟨_, rfl⟩
      have e1 : (q : Int) * (l : Int) = (a : Int) := by rw [← ha]; exact (Int.natCast_mul q l).symm
      have ha6 : a ≤ 600 := by rw [← ha]; exact Nat.le_trans (Nat.mul_le_mul_right l hq) H6.out
      have HS := Lib.hid (show (List.range (q + 1)).map (qPair l) = (List.range q).map (qPair l) ++ [((a : Int) + 1, (a : Int) + (l : Int))] from by rw [range_snoc]; unfold qPair; rw [Nat.succ_mul, ha]; rfl)
      have hln : ((List.range q).map (qPair l)).length = q := by simp
      have hle : ((List.range q).map (qPair l)).length ≤ 1000000000000 := by omega
      have HL := Lib.hid hln
      generalize (List.range q).map (qPair l) = acc at *
      clear ha hln
      go_wp2_with (first
        | (go_at_call 33; refine (G.out _).mono ?_; rintro _ w2 ⟨rfl, rfl⟩)
        | (at_builtin; refine push_el prE rfl (.tmp 22) (.tmp 33) rfl acc ((a : Int) + 1, (a : Int) + (l : Int)) _ rfl hO hz _ rfl _ rfl hle ?_; intro v6 W6 hO6 hB7 hR6))
      exact ⟨⟨q + 1, by omega, by go_num, by rw [HS.out]; exact hO6, hB.trans hB7⟩, by simp [intOf]; omega⟩
    · obtain rfl : q = Q := by omega
      have hltz : ¬ (q : Int) < (q : Int) := by omega
      go_wp2_with (first | (go_at_call 33; refine (G.out _).mono ?_; rintro _ w2 ⟨rfl, rfl⟩))
      go_ret2
      exact ⟨_, rfl, hO, hB⟩
set_option maxHeartbeats 2000000 in
set_option maxRecDepth 100000 in
theorem quires_any (p h : Nat) (hp : p ≤ 999) (h1 : 1 ≤ h) (h8 : h ≤ 8) (w : World) : Calls Try.prog 10 #[.int .i64 (p : Int), .int .i64 ((2 * h : Nat) : Int)] w (LstR prE (quiT p h) 0 w) := by
  have hv : volE (p : Int) ((2 * h : Nat) : Int) = 0 := by unfold volE; rw [if_neg (by omega), if_neg (by omega)]
  have C := Lib.hid (check_any (p : Int) ((2 * h : Nat) : Int))
  rw [hv] at C
  have G := Lib.hid (count_any p h hp h1 h8)
  unfold quiT
  have hq9 := qnT_le p h hp h1 h8
  have h6 := qnT_leaves p h hp h1 h8
  obtain ⟨Q, hQ⟩ : ∃ Q, qnT p h = Q := ⟨_, rfl⟩
  obtain ⟨l, hl⟩ : ∃ l, 2 * h = l := ⟨_, rfl⟩
  have e3 : l ≤ 16 := by omega
  rw [hQ] at G hq9 h6 ⊢
  rw [hl] at C G h6 ⊢
  have H6 := Lib.hid h6
  clear hv hQ hl h6
  go_enter Try.func10, Try.ntmps10
  go_wp2_with (first | (go_at_call 37; refine (C.out _).mono ?_; rintro _ w2 ⟨rfl, rfl⟩) | (go_at_call 38; refine (G.out _).mono ?_; rintro _ w2 ⟨rfl, rfl⟩))
  go_loopw [7, 18] (fun v7 v8 wr => QuRel l Q w v7 v8 wr) (fun _ v _ => Q - (intOf v).toNat)
  case atStart => exact ⟨0, Nat.zero_le _, rfl, OwnR.nil _ _ _, Below.refl _ _⟩
  case round =>
    obtain ⟨q, hq, rfl, hO, hB⟩ := hrel
    have hz := hB.size
    rcases Nat.lt_or_ge q Q with hlt | hge
    · have hltz : (q : Int) < (Q : Int) := by omega
      obtain ⟨a, ha⟩ : ∃ a, q * l = a := ⟨_, rfl⟩
      have e1 : (q : Int) * (l : Int) = (a : Int) := by rw [← ha]; exact (Int.natCast_mul q l).symm
      obtain ⟨c, hc⟩ : ∃ c, (q + 1) * l = c := ⟨_, rfl⟩
      obtain ⟨q1, hq1⟩ : ∃ q1, q + 1 = q1 := ⟨_, rfl⟩
      have e5 : (q : Int) + 1 = (q1 : Int) := by omega
      have e6 : (q1 : Int) * (l : Int) = (c : Int) := by rw [← hc, hq1]; exact (Int.natCast_mul q1 l).symm
      have hc6 : c ≤ 600 := by rw [← hc]; exact Nat.le_trans (Nat.mul_le_mul_right l (by omega)) H6.out
      have ha6 : a ≤ 600 := by rw [← ha]; exact Nat.le_trans (Nat.mul_le_mul_right l hq) H6.out
      have HS := Lib.hid (show (List.range (q + 1)).map (qPair l) = (List.range q).map (qPair l) ++ [((a : Int) + 1, (c : Int))] from by rw [range_snoc]; unfold qPair; rw [hc, ha]; rfl)
      have hln : ((List.range q).map (qPair l)).length = q := by simp
      have hle : ((List.range q).map (qPair l)).length ≤ 1000000000000 := by omega
      have HL := Lib.hid hln
      generalize (List.range q).map (qPair l) = acc at *
      have HQ1 := Lib.hid hq1
      clear ha hln hc hq1
      go_wp2_with (first
        | (at_builtin; refine push_el prE rfl (.tmp 21) (.tmp 31) rfl acc ((a : Int) + 1, (c : Int)) _ rfl hO hz _ rfl _ rfl hle ?_; intro v6 W6 hO6 hB7 hR6))
      exact ⟨⟨q + 1, by omega, by have := HQ1.out; go_num, by rw [HS.out]; exact hO6, hB.trans hB7⟩, by simp [intOf]; omega⟩
    · obtain rfl : q = Q := by omega
      have hltz : ¬ (q : Int) < (q : Int) := by omega
      go_wp2
      go_ret2
      exact ⟨_, rfl, hO, hB⟩
end Go.Proofs.Ytahmpagolmodhaa
