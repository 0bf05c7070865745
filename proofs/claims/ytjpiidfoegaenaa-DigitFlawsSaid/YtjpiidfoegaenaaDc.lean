/-
  below, check and Sum of the program.
-/
import Derived.Test.YtjpiidfoegaenaaDb
namespace Go.Proofs.Ytjpiidfoegaenaa
open Go.RowKit
set_option linter.unusedVariables false
set_option linter.unusedSimpArgs false

theorem below1_any (x m : Int) (z : Bool) (hz : (decide (0 ≤ x) && decide (x < m)) = z) (b : Nat) (w : World) (hb : w.cell? ⟨b, 0, none⟩ = some (.int .i64 m)) :
    Calls Try.prog 51 #[.int .i64 x, .pointer (some ⟨b, 0, none⟩)] w fun e w' => e = .returned (.bool (!z)) ∧ w = w' := by
  go_enter Try.func51, Try.ntmps51
  rcases Int.lt_or_le x 0 with h | h
  · obtain rfl : z = false := by rw [← hz]; simp; omega
    clear hz
    go_wp2
    go_ret
    exact ⟨rfl, rfl⟩
  · have h1 : ¬ x < 0 := by omega
    rcases Int.lt_or_le x m with h2 | h2
    · have h3 : ¬ m ≤ x := by omega
      obtain rfl : z = true := by rw [← hz]; simp; omega
      clear hz
      go_wp2
      go_ret
      exact ⟨rfl, rfl⟩
    · obtain rfl : z = false := by rw [← hz]; simp; omega
      clear hz
      go_wp2
      go_ret
      exact ⟨rfl, rfl⟩
def BeRel (l : List Int) (m : Int) (n : Nat) (w : World) (v : Value) (wr : World) : Prop := ∃ k : Nat, k ≤ n ∧ v = .int .i64 (k : Int) ∧ belowT (l.take k) m = true ∧ w = wr
/-- The call answers a number that is not negative just if b. -/
def SignR (b : Bool) (w : World) (e : Ending) (w' : World) : Prop := ∃ r : Int, e = .returned (.int .i64 r) ∧ decide (0 ≤ r) = b ∧ w = w'
set_option maxHeartbeats 1000000 in
set_option maxRecDepth 100000 in
theorem index_any (l : List Int) (m : Int) (A : Option Addr) (n c : Nat) (hl : l.length = n) (hn6 : n ≤ 9223372036854775807) (b : Nat) (w : World) (hb : w.cell? ⟨b, 0, none⟩ = some (.int .i64 m)) (hA : IntsAt w A l) :
    Calls Try.prog 55 #[.slice A n c, .func (.func 51) #[] #[.pointer (some ⟨b, 0, none⟩)]] w (SignR (!belowT l m) w) := by
  have C1 := Lib.hid (fun x z hz => below1_any x m z hz b w hb)
  have HN := Lib.hid hl
  clear hl hb
  go_enter Try.func55, Try.ntmps55
  go_wp2
  go_loopw [8] (fun v wr => BeRel l m n w v wr) (fun v _ => n - (intOf v).toNat)
  case atStart => exact ⟨0, by omega, rfl, rfl, rfl⟩
  case round =>
    obtain ⟨k, hk, rfl, hB, rfl⟩ := hrel
    rcases Nat.lt_or_ge k n with hlt | hge
    · have hltz : (k : Int) < (n : Int) := by omega
      obtain ⟨x, hx⟩ : ∃ x, l[k]? = some x := ⟨_, List.getElem?_eq_getElem (by rw [HN.out]; exact hlt)⟩
      obtain ⟨ad, rfl, hbl, hc⟩ := hA (by intro e; rw [e] at hx; simp at hx)
      have c0 := (hc k x hx).1
      rcases hv : (decide (0 ≤ x) && decide (x < m)) with _ | _
      · have HR : Hid (belowT l m = false) := Lib.hid (belowT_no (List.mem_of_getElem? hx) (by simp at hv; omega))
        have CX := Lib.hid (C1.out x _ hv)
        clear hx hB hc hv C1
        go_wp2_with (go_at_call 51; refine CX.out.mono ?_; rintro _ _ ⟨rfl, rfl⟩)
        go_ret
        exact ⟨(k : Int), rfl, by rw [HR.out]; simp, rfl⟩
      · have HB : Hid (belowT (l.take (k + 1)) m = true) := Lib.hid (by
          unfold belowT at hB ⊢
          rw [List.take_add_one, hx, List.all_append, hB]
          simpa using hv)
        have CX := Lib.hid (C1.out x _ hv)
        clear hx hB hc hv C1
        go_wp2_with (go_at_call 51; refine CX.out.mono ?_; rintro _ _ ⟨rfl, rfl⟩)
        exact ⟨⟨k + 1, by omega, by go_num, HB.out, rfl⟩, by simp [intOf]; omega⟩
    · have hge2 : ¬ (k : Int) < (n : Int) := by omega
      have HR : Hid (belowT l m = true) := Lib.hid (by rwa [List.take_of_length_le (by rw [HN.out]; omega)] at hB)
      clear hB
      go_wp2
      go_ret
      exact ⟨-1, rfl, by rw [HR.out]; rfl, rfl⟩
theorem contains_any (l : List Int) (m : Int) (A : Option Addr) (n c : Nat) (hl : l.length = n) (hn6 : n ≤ 9223372036854775807) (b : Nat) (w : World) (hb : w.cell? ⟨b, 0, none⟩ = some (.int .i64 m)) (hA : IntsAt w A l) :
    Calls Try.prog 50 #[.slice A n c, .func (.func 51) #[] #[.pointer (some ⟨b, 0, none⟩)]] w (fun e w' => e = .returned (.bool (!belowT l m)) ∧ w = w') := by
  have CI := Lib.hid (index_any l m A n c hl hn6 b w hb hA)
  generalize (!belowT l m) = z at *
  clear hl hb hA
  go_enter Try.func50, Try.ntmps50
  go_wp2_with (go_at_call 55; refine CI.out.mono ?_; rintro _ _ ⟨r, rfl, hr, rfl⟩)
  go_ret
  exact ⟨by rw [← hr]; simp, rfl⟩
theorem below_any (l : List Int) (m : Int) (A : Option Addr) (n c : Nat) (hl : l.length = n) (hn6 : n ≤ 9223372036854775807) (w : World) (hA : IntsAt w A l) :
    Calls Try.prog 35 #[.slice A n c, .int .i64 m] w (Told w (belowT l m)) := by
  have X : Below w.heap.size w (w.alloc (.cells #[.int .i64 m] 3)) := (Below.refl _ _).alloc (Nat.le_refl _) _
  have CC := Lib.hid (contains_any l m A n c hl hn6 w.heap.size (w.alloc (.cells #[.int .i64 m] 3)) ((blk_new w 3 #[.int .i64 m]).cell (j := 0) rfl) (hA.keep X))
  clear hl hA
  go_enter Try.func35, Try.ntmps35
  go_wp2_with (go_at_call 50; refine CC.out.mono ?_; rintro _ _ ⟨rfl, rfl⟩)
  go_ret
  exact ⟨by simp, X⟩
set_option maxHeartbeats 1000000 in
theorem check_any (l : List Int) (m : Int) (A : Option Addr) (n c : Nat) (hl : l.length = n) (hn6 : n ≤ 9223372036854775807) (w : World) (hA : IntsAt w A l) :
    Calls Try.prog 34 #[.slice A n c, .int .i64 m] w (IntR (schE l m) w) := by
  obtain ⟨r, hr⟩ : ∃ r, schE l m = r := ⟨_, rfl⟩
  have CB := Lib.hid (below_any l m A n c hl hn6 w hA)
  have HS : Hid (r = if 256 < n then 4 else if m < 2 ∨ 1024 < m ∨ belowT l m = false then 1 else 0) := Lib.hid (by rw [← hr]; unfold schE; rw [hl])
  rw [hr]
  clear hr
  generalize belowT l m = z at *
  clear hl hA
  go_enter Try.func34, Try.ntmps34
  rcases Nat.lt_or_ge 256 n with h | h
  · have hz : (256 : Int) < (n : Int) := by omega
    have HR := HS.out.trans (if_pos h)
    clear HS
    subst HR
    go_wp2
    go_ret
    exact ⟨rfl, Below.refl _ _⟩
  · have hz : ¬ (256 : Int) < (n : Int) := by omega
    have HS2 := Lib.hid (HS.out.trans (if_neg (by omega)))
    clear HS
    rcases Int.lt_or_le m 2 with h2 | h2
    · have HR := HS2.out.trans (if_pos (Or.inl h2))
      clear HS2
      subst HR
      go_wp2
      go_ret
      exact ⟨rfl, Below.refl _ _⟩
    · have h2z : ¬ m < 2 := by omega
      rcases Int.lt_or_le 1024 m with h3 | h3
      · have HR := HS2.out.trans (if_pos (Or.inr (Or.inl h3)))
        clear HS2
        subst HR
        go_wp2
        go_ret
        exact ⟨rfl, Below.refl _ _⟩
      · have h3z : ¬ 1024 < m := by omega
        rcases z with _ | _
        · have HR := HS2.out.trans (if_pos (Or.inr (Or.inr rfl)))
          clear HS2
          subst HR
          go_wp2_with (go_at_call 35; refine CB.out.mono ?_; rintro _ w1 ⟨rfl, B1⟩)
          go_ret
          exact ⟨rfl, B1⟩
        · have HR := HS2.out.trans (if_neg (by simp; omega))
          clear HS2
          subst HR
          go_wp2_with (go_at_call 35; refine CB.out.mono ?_; rintro _ w1 ⟨rfl, B1⟩)
          go_ret
          exact ⟨rfl, B1⟩
end Go.Proofs.Ytjpiidfoegaenaa
