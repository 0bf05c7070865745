/-
  passimref01.Same, SameInts and SameTexts tell whether two lists are equal.
-/
import Derived.Test.YtpglfjfgnmaipaaWf
import Derived.Deep.QuietTactic
import Derived.BigQuiet
import Derived.Lib.Strings
namespace Go.Proofs.Ytpglfjfgnmaipaa
open Go.RowKit

theorem take_eq_step {α : Type} {l m : List α} {k : Nat} (h1 : k < l.length) (h2 : k < m.length) (h : l.take k = m.take k) (e : l[k] = m[k]) : l.take (k + 1) = m.take (k + 1) := by
  rw [List.take_add_one, List.take_add_one, List.getElem?_eq_getElem h1, List.getElem?_eq_getElem h2, h, e]

/-- The call told whether two lists are equal; nothing that was there has changed. -/
def Told (w : World) (b : Bool) (e : Ending) (w' : World) : Prop := e = .returned (.bool b) ∧ Below w.heap.size w w'

theorem told_of {α : Type} [DecidableEq α] {W w : World} {l m : List α} {b : Bool} (h : decide (l = m) = b) (hB : Below W.heap.size W w) : Told W (decide (l = m)) (.returned (.bool b)) w := ⟨by rw [h], hB⟩
theorem below_drewN {B : Nat} {a w : World} (h : Below B a w) (q : Nat) : Below B a (w.drewN q) := ⟨h.os, h.tape, h.output, h.size, h.block⟩

theorem bytes_ext {x y : ByteArray} (h : x.toList = y.toList) : x = y := by
  rw [Lib.toList_data, Lib.toList_data] at h
  cases x; cases y
  congr 1
  exact Array.toList_inj.1 h

set_option maxHeartbeats 400000 in
theorem same_any (A B : Option Addr) (l m : List Nat) (n1 n2 c d : Nat) (w : World) (h1 : n1 = l.length) (h2 : n2 = m.length) (hl : l.length ≤ 140737488355328) (hm : m.length ≤ 140737488355328) (ha : Has w A l) (hb : Has w B m) :
    Calls Try.prog 13 #[.slice A n1 c, .slice B n2 d] w (Told w (decide (l = m))) := by
  subst h1; subst h2
  by_cases hlen : l.length = m.length
  · have hne : ((l.length : Int) != (m.length : Int)) = false := by simp [hlen]
    have HLEN := Lib.hid hlen
    clear hlen
    go_enter Try.func13, Try.ntmps13
    go_wp2
    go_loopw [5] (fun i wr => ∃ k : Nat, k ≤ l.length ∧ i = .int .i64 k ∧ Hid (l.take k = m.take k) ∧ Below w.heap.size w wr) (fun i _ => l.length - (intOf i).toNat)
    case atStart => exact ⟨0, by omega, rfl, Lib.hid (by simp), Below.refl _ _⟩
    case round =>
      obtain ⟨k, hk, rfl, HT, hB⟩ := hrel
      by_cases hlt : k < l.length
      · have hlt2 : k < m.length := by rw [← HLEN.out]; exact hlt
        obtain ⟨_, ad, rfl, _, hc1⟩ := (ha.keep hB).at k l[k] (List.getElem?_eq_getElem hlt)
        obtain ⟨_, bd, rfl, _, hc2⟩ := (hb.keep hB).at k m[k] (List.getElem?_eq_getElem hlt2)
        have hc1' : wr.cell? (ad.add k) = some (.int .u8 (l[k] : Int)) := hc1
        have hc2' : wr.cell? (bd.add k) = some (.int .u8 (m[k] : Int)) := hc2
        have HS : Hid (l[k] = m[k] → l.take (k + 1) = m.take (k + 1)) := fun e => take_eq_step hlt hlt2 HT.out e
        have HN : Hid (l[k] ≠ m[k] → l ≠ m) := fun e1 e2 => e1 (by subst e2; rfl)
        generalize l[k] = x at hc1' HS HN
        generalize m[k] = y at hc2' HS HN
        clear hc1 hc2
        by_cases hxy : x = y
        · have hb1 : ((x : Int) != (y : Int)) = false := by simp [hxy]
          have HT2 := Lib.hid (HS.out hxy)
          clear HS HN hxy
          go_wp2
          go_quiet (fail)
          go_wp2
          go_roundw
          case rel => exact ⟨k + 1, by omega, by go_num, HT2, below_drewN hB _⟩
          case measure => simp [intOf]; omega
        · have hb1 : ((x : Int) != (y : Int)) = true := by simp; omega
          go_wp2
          go_quiet (fail)
          go_wp2
          go_ret
          exact told_of (decide_eq_false (HN.out hxy)) (below_drewN hB _)
      · have HT3 : Hid (l = m) := by
          have e := HT.out
          rw [List.take_of_length_le (by omega), List.take_of_length_le (by rw [← HLEN.out]; omega)] at e
          exact e
        go_wp2
        go_ret
        exact told_of (decide_eq_true HT3.out) hB
  · have hne : ((l.length : Int) != (m.length : Int)) = true := by simp; omega
    go_enter Try.func13, Try.ntmps13
    go_wp2
    go_ret
    exact told_of (decide_eq_false (fun e => hlen (by rw [e]))) (Below.refl _ _)

set_option maxHeartbeats 400000 in
theorem sameInts_any (A B : Option Addr) (l m : List Int) (n1 n2 c d : Nat) (w : World) (h1 : n1 = l.length) (h2 : n2 = m.length) (hl : l.length ≤ 140737488355328) (hm : m.length ≤ 140737488355328) (ha : Cells w A (intsV l)) (hb : Cells w B (intsV m)) :
    Calls Try.prog 30 #[.slice A n1 c, .slice B n2 d] w (Told w (decide (l = m))) := by
  subst h1; subst h2
  by_cases hlen : l.length = m.length
  · have hne : ((l.length : Int) != (m.length : Int)) = false := by simp [hlen]
    have HLEN := Lib.hid hlen
    clear hlen
    go_enter Try.func30, Try.ntmps30
    go_wp2
    go_loopw [5] (fun i wr => ∃ k : Nat, k ≤ l.length ∧ i = .int .i64 k ∧ Hid (l.take k = m.take k) ∧ Below w.heap.size w wr) (fun i _ => l.length - (intOf i).toNat)
    case atStart => exact ⟨0, by omega, rfl, Lib.hid (by simp), Below.refl _ _⟩
    case round =>
      obtain ⟨k, hk, rfl, HT, hB⟩ := hrel
      by_cases hlt : k < l.length
      · have hlt2 : k < m.length := by rw [← HLEN.out]; exact hlt
        obtain ⟨ad, rfl, _, hc1⟩ := (ha.keep hB) k (.int .i64 l[k]) (by simp [intsV, List.getElem?_eq_getElem hlt])
        obtain ⟨bd, rfl, _, hc2⟩ := (hb.keep hB) k (.int .i64 m[k]) (by simp [intsV, List.getElem?_eq_getElem hlt2])
        have hc1' : wr.cell? (ad.add k) = some (.int .i64 l[k]) := hc1
        have hc2' : wr.cell? (bd.add k) = some (.int .i64 m[k]) := hc2
        have HS : Hid (l[k] = m[k] → l.take (k + 1) = m.take (k + 1)) := fun e => take_eq_step hlt hlt2 HT.out e
        have HN : Hid (l[k] ≠ m[k] → l ≠ m) := fun e1 e2 => e1 (by subst e2; rfl)
        generalize l[k] = x at hc1' HS HN
        generalize m[k] = y at hc2' HS HN
        clear hc1 hc2
        by_cases hxy : x = y
        · have hb1 : (x != y) = false := by simp [hxy]
          have HT2 := Lib.hid (HS.out hxy)
          clear HS HN hxy
          go_wp2
          go_quiet (fail)
          go_wp2
          go_roundw
          case rel => exact ⟨k + 1, by omega, by go_num, HT2, below_drewN hB _⟩
          case measure => simp [intOf]; omega
        · have hb1 : (x != y) = true := by simp [hxy]
          go_wp2
          go_quiet (fail)
          go_wp2
          go_ret
          exact told_of (decide_eq_false (HN.out hxy)) (below_drewN hB _)
      · have HT3 : Hid (l = m) := by
          have e := HT.out
          rw [List.take_of_length_le (by omega), List.take_of_length_le (by rw [← HLEN.out]; omega)] at e
          exact e
        go_wp2
        go_ret
        exact told_of (decide_eq_true HT3.out) hB
  · have hne : ((l.length : Int) != (m.length : Int)) = true := by simp; omega
    go_enter Try.func30, Try.ntmps30
    go_wp2
    go_ret
    exact told_of (decide_eq_false (fun e => hlen (by rw [e]))) (Below.refl _ _)

set_option maxHeartbeats 400000 in
theorem sameTexts_any (A B : Option Addr) (l m : List ByteArray) (n1 n2 c d : Nat) (w : World) (h1 : n1 = l.length) (h2 : n2 = m.length) (hl : l.length ≤ 140737488355328) (hm : m.length ≤ 140737488355328) (ha : Cells w A (strsV l)) (hb : Cells w B (strsV m)) :
    Calls Try.prog 33 #[.slice A n1 c, .slice B n2 d] w (Told w (decide (l = m))) := by
  subst h1; subst h2
  by_cases hlen : l.length = m.length
  · have hne : ((l.length : Int) != (m.length : Int)) = false := by simp [hlen]
    have HLEN := Lib.hid hlen
    clear hlen
    go_enter Try.func33, Try.ntmps33
    go_wp2
    go_loopw [5] (fun i wr => ∃ k : Nat, k ≤ l.length ∧ i = .int .i64 k ∧ Hid (l.take k = m.take k) ∧ Below w.heap.size w wr) (fun i _ => l.length - (intOf i).toNat)
    case atStart => exact ⟨0, by omega, rfl, Lib.hid (by simp), Below.refl _ _⟩
    case round =>
      obtain ⟨k, hk, rfl, HT, hB⟩ := hrel
      by_cases hlt : k < l.length
      · have hlt2 : k < m.length := by rw [← HLEN.out]; exact hlt
        obtain ⟨ad, rfl, _, hc1⟩ := (ha.keep hB) k (.string l[k]) (by simp [strsV, List.getElem?_eq_getElem hlt])
        obtain ⟨bd, rfl, _, hc2⟩ := (hb.keep hB) k (.string m[k]) (by simp [strsV, List.getElem?_eq_getElem hlt2])
        have hc1' : wr.cell? (ad.add k) = some (.string l[k]) := hc1
        have hc2' : wr.cell? (bd.add k) = some (.string m[k]) := hc2
        have HS : Hid (l[k] = m[k] → l.take (k + 1) = m.take (k + 1)) := fun e => take_eq_step hlt hlt2 HT.out e
        have HN : Hid (l[k] ≠ m[k] → l ≠ m) := fun e1 e2 => e1 (by subst e2; rfl)
        generalize l[k] = x at hc1' HS HN
        generalize m[k] = y at hc2' HS HN
        clear hc1 hc2
        by_cases hxy : x = y
        · have hb1 : (!x.toList == y.toList) = false := by simp [hxy]
          have HT2 := Lib.hid (HS.out hxy)
          clear HS HN hxy
          go_wp2
          go_quiet (fail)
          go_wp2
          go_roundw
          case rel => exact ⟨k + 1, by omega, by go_num, HT2, below_drewN hB _⟩
          case measure => simp [intOf]; omega
        · have hb1 : (!x.toList == y.toList) = true := by simp; exact fun e => hxy (bytes_ext e)
          go_wp2
          go_quiet (fail)
          go_wp2
          go_ret
          exact told_of (decide_eq_false (HN.out hxy)) (below_drewN hB _)
      · have HT3 : Hid (l = m) := by
          have e := HT.out
          rw [List.take_of_length_le (by omega), List.take_of_length_le (by rw [← HLEN.out]; omega)] at e
          exact e
        go_wp2
        go_ret
        exact told_of (decide_eq_true HT3.out) hB
  · have hne : ((l.length : Int) != (m.length : Int)) = true := by simp; omega
    go_enter Try.func33, Try.ntmps33
    go_wp2
    go_ret
    exact told_of (decide_eq_false (fun e => hlen (by rw [e]))) (Below.refl _ _)

end Go.Proofs.Ytpglfjfgnmaipaa
