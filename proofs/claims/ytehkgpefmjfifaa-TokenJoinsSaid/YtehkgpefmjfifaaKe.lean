/-
  token.Fold and the reference's Fold.
-/
import Derived.Test.YtehkgpefmjfifaaKd
import Derived.Test.YtehkgpefmjfifaaBy
namespace Go.Proofs.Ytehkgpefmjfifaa
open Go.RowKit
set_option linter.unusedVariables false
set_option linter.unusedSimpArgs false

def foldB (c : Nat) : Nat := if 65 ≤ c ∧ c ≤ 90 then c + 32 else c
theorem foldB_lt {c : Nat} (h : c < 256) : foldB c < 256 := by unfold foldB; split <;> omega
/-- The first i bytes are folded. -/
def foldTo (l : List Nat) (i : Nat) : List Nat := (l.take i).map foldB ++ l.drop i
theorem foldTo_len (l : List Nat) (i : Nat) : (foldTo l i).length = l.length := by
  unfold foldTo
  rw [List.length_append, List.length_map, List.length_take, List.length_drop]
  omega
theorem foldTo_at {l : List Nat} {i : Nat} (h : i < l.length) : (foldTo l i)[i]? = l[i]? := by
  unfold foldTo
  have e : ((l.take i).map foldB).length = i := by rw [List.length_map, List.length_take]; omega
  rw [List.getElem?_append_right (by omega), e, Nat.sub_self, List.getElem?_drop, Nat.add_zero]
theorem foldTo_set {l : List Nat} {i c : Nat} (h : l[i]? = some c) : (foldTo l i).set i (foldB c) = foldTo l (i + 1) := by
  have hi := (List.getElem?_eq_some_iff.1 h).1
  unfold foldTo
  have e : ((l.take i).map foldB).length = i := by rw [List.length_map, List.length_take]; omega
  rw [List.set_append_right _ _ (by omega), e, Nat.sub_self, List.take_add_one, h]
  have hd : l.drop i = c :: l.drop (i + 1) := by
    rw [List.drop_eq_getElem_cons hi]
    rw [List.getElem?_eq_getElem hi] at h
    injection h with h
    rw [h]
  rw [hd]
  simp
theorem foldTo_same {l : List Nat} {i c : Nat} (h : l[i]? = some c) (hc : foldB c = c) : foldTo l i = foldTo l (i + 1) := by
  rw [← foldTo_set h, hc]
  apply List.ext_getElem?
  intro j
  rw [List.getElem?_set]
  split
  · rename_i e
    subst e
    rw [foldTo_at (List.getElem?_eq_some_iff.1 h).1, h, if_pos (by rw [foldTo_len]; exact (List.getElem?_eq_some_iff.1 h).1)]
  · rfl
theorem foldTo_zero (l : List Nat) : foldTo l 0 = l := by simp [foldTo]
theorem foldTo_all (l : List Nat) : foldTo l l.length = l.map foldB := by simp [foldTo]
/-- A text with small letters. -/
def foldS (s : ByteArray) : ByteArray := strOf ((sb s).map foldB)
theorem map_fold_lt (s : ByteArray) : ∀ y ∈ (sb s).map foldB, y < 256 := by
  intro y hy
  obtain ⟨c, hc, rfl⟩ := List.mem_map.1 hy
  exact foldB_lt (sb_lt s c hc)
def FoldRel (s : ByteArray) (n g : Nat) (W : World) (v : Value) (wr : World) : Prop := ∃ i : Nat, i ≤ n ∧ v = .int .i64 (i : Int) ∧ BRow wr g (foldTo (sb s) i) ∧ Below W.heap.size W wr
theorem below_row {B g : Nat} {W w : World} (h : Below B W w) (hg : B ≤ g) (j : Nat) (v : Value) : Below B W (w.setCell ⟨g, j, none⟩ v) := h.setCell hg v

set_option maxHeartbeats 4000000 in
set_option maxRecDepth 100000 in
theorem fold_any (s : ByteArray) (n : Nat) (hn : s.size = n) (hn6 : n ≤ 1000000000) (w : World) :
    Calls Try.prog 22 #[.string s] w fun e w' => e = .returned (.string (foldS s)) ∧ Below w.heap.size w w' := by
  obtain ⟨W1, cap, hcv, hB1, hR1⟩ := conv_str w s
  rw [hn] at hcv
  have HN := Lib.hid (show (sb s).length = n from by rw [sb_length, hn])
  obtain ⟨g, hg⟩ : ∃ g, w.heap.size = g := ⟨_, rfl⟩
  rw [hg] at hcv hR1
  have hgw : w.heap.size ≤ g := by omega
  have hl8 := Lib.hid (sb_lt s)
  have hfl := Lib.hid (map_fold_lt s)
  clear hn hg
  go_enter Try.func22, Try.ntmps22
  go_wp2
  clear hcv
  go_loopw [9] (fun v wr => FoldRel s n g w v wr) (fun v _ => n - (intOf v).toNat)
  case atStart => exact ⟨0, Nat.zero_le _, rfl, by rw [foldTo_zero]; exact hR1, hB1⟩
  case round =>
    obtain ⟨i, hi, rfl, hR, hB⟩ := hrel
    rcases Nat.lt_or_ge i n with hlt | hge
    · obtain ⟨c, hc⟩ : ∃ c, (sb s)[i]? = some c := ⟨_, List.getElem?_eq_getElem (by rw [HN.out]; exact hlt)⟩
      have hcl := hl8.out c (List.mem_of_getElem? hc)
      have c1 := hR.cell (j := i) (y := c) (by rw [foldTo_at (by rw [HN.out]; exact hlt)]; exact hc)
      have f1 := hR.free (j := i) (by rw [foldTo_len, HN.out]; exact hlt)
      have HC := Lib.hid hc
      clear hc
      by_cases h65 : 65 ≤ c
      · by_cases h90 : c ≤ 90
        · have hS := hR.set (j := i) (by rw [foldTo_len, HN.out]; exact hlt) (foldB c)
          rw [foldTo_set HC.out] at hS
          have hfc : (.int .u8 ((foldB c : Nat) : Int) : Value) = .int .u8 ((c : Int) + 32) := by unfold foldB; rw [if_pos ⟨h65, h90⟩]; first | rfl | (congr 1; omega)
          have HS := Lib.hid hS
          have HF := Lib.hid hfc
          clear hS hfc
          go_wp2
          refine ⟨⟨i + 1, by omega, by go_num, ?_, below_row hB hgw _ _⟩, by simp [intOf]; omega⟩
          have := HS.out
          rw [HF.out] at this
          exact this
        · have HS := Lib.hid (foldTo_same HC.out (show foldB c = c from by unfold foldB; rw [if_neg (by omega)]))
          go_wp2
          exact ⟨⟨i + 1, by omega, by go_num, HS.out ▸ hR, hB⟩, by simp [intOf]; omega⟩
      · have HS := Lib.hid (foldTo_same HC.out (show foldB c = c from by unfold foldB; rw [if_neg (by omega)]))
        go_wp2
        exact ⟨⟨i + 1, by omega, by go_num, HS.out ▸ hR, hB⟩, by simp [intOf]; omega⟩
    · have hlt : ¬ i < n := by omega
      obtain rfl : i = n := by omega
      rw [← HN.out, foldTo_all] at hR
      have hcv := conv_back hR hfl.out (by rw [List.length_map, HN.out]) cap
      go_wp2
      go_ret
      exact ⟨rfl, hB⟩

set_option maxHeartbeats 4000000 in
set_option maxRecDepth 100000 in
theorem rfold_any (s : ByteArray) (n : Nat) (hn : s.size = n) (hn6 : n ≤ 1000000000) (w : World) :
    Calls Try.prog 23 #[.string s] w fun e w' => e = .returned (.string (foldS s)) ∧ Below w.heap.size w w' := by
  obtain ⟨W1, cap, hcv, hB1, hR1⟩ := conv_str w s
  rw [hn] at hcv
  have HN := Lib.hid (show (sb s).length = n from by rw [sb_length, hn])
  obtain ⟨g, hg⟩ : ∃ g, w.heap.size = g := ⟨_, rfl⟩
  rw [hg] at hcv hR1
  have hgw : w.heap.size ≤ g := by omega
  have hl8 := Lib.hid (sb_lt s)
  have hfl := Lib.hid (map_fold_lt s)
  clear hn hg
  go_enter Try.func23, Try.ntmps23
  go_wp2
  clear hcv
  go_loopw [4] (fun v wr => FoldRel s n g w v wr) (fun v _ => n - (intOf v).toNat)
  case atStart => exact ⟨0, Nat.zero_le _, rfl, by rw [foldTo_zero]; exact hR1, hB1⟩
  case round =>
    obtain ⟨i, hi, rfl, hR, hB⟩ := hrel
    rcases Nat.lt_or_ge i n with hlt | hge
    · obtain ⟨c, hc⟩ : ∃ c, (sb s)[i]? = some c := ⟨_, List.getElem?_eq_getElem (by rw [HN.out]; exact hlt)⟩
      have hcl := hl8.out c (List.mem_of_getElem? hc)
      have c1 := hR.cell (j := i) (y := c) (by rw [foldTo_at (by rw [HN.out]; exact hlt)]; exact hc)
      have f1 := hR.free (j := i) (by rw [foldTo_len, HN.out]; exact hlt)
      have HC := Lib.hid hc
      clear hc
      by_cases h65 : 65 ≤ c
      · by_cases h90 : c ≤ 90
        · have hS := hR.set (j := i) (by rw [foldTo_len, HN.out]; exact hlt) (foldB c)
          rw [foldTo_set HC.out] at hS
          have hfc : (.int .u8 ((foldB c : Nat) : Int) : Value) = .int .u8 ((c : Int) - 65 + 97) := by unfold foldB; rw [if_pos ⟨h65, h90⟩]; first | rfl | (congr 1; omega)
          have HS := Lib.hid hS
          have HF := Lib.hid hfc
          clear hS hfc
          go_wp2
          refine ⟨⟨i + 1, by omega, by go_num, ?_, below_row hB hgw _ _⟩, by simp [intOf]; omega⟩
          have := HS.out
          rw [HF.out] at this
          exact this
        · have HS := Lib.hid (foldTo_same HC.out (show foldB c = c from by unfold foldB; rw [if_neg (by omega)]))
          go_wp2
          exact ⟨⟨i + 1, by omega, by go_num, HS.out ▸ hR, hB⟩, by simp [intOf]; omega⟩
      · have HS := Lib.hid (foldTo_same HC.out (show foldB c = c from by unfold foldB; rw [if_neg (by omega)]))
        go_wp2
        exact ⟨⟨i + 1, by omega, by go_num, HS.out ▸ hR, hB⟩, by simp [intOf]; omega⟩
    · have hlt : ¬ i < n := by omega
      obtain rfl : i = n := by omega
      rw [← HN.out, foldTo_all] at hR
      have hcv := conv_back hR hfl.out (by rw [List.length_map, HN.out]) cap
      go_wp2
      go_ret
      exact ⟨rfl, hB⟩

end Go.Proofs.Ytehkgpefmjfifaa
