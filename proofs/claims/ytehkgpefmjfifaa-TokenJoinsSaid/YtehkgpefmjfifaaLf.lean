/-
  Folding, by the plain specification: folded once or twice is one; tokens, words and Valid do not change; words have small letters.
-/
import Derived.Test.YtehkgpefmjfifaaLt
namespace Go.Proofs.Ytehkgpefmjfifaa
open Go.RowKit
set_option linter.unusedVariables false
set_option linter.unusedSimpArgs false

theorem foldB_two (c : Nat) : foldB (foldB c) = foldB c := by
  unfold foldB
  by_cases h : 65 ≤ c ∧ c ≤ 90
  · rw [if_pos h, if_neg (by omega)]
  · rw [if_neg h, if_neg h]
theorem foldB_kd (c : Nat) : kd (foldB c) = kd c := by
  unfold foldB
  split
  · rename_i h
    have h1 : isL c = true := by unfold isL; simp; omega
    have h2 : isL (c + 32) = true := by unfold isL; simp; omega
    unfold kd
    rw [if_neg (show ¬ c + 32 = 32 by omega), if_pos h2, if_neg (show ¬ c = 32 by omega), if_pos h1]
  · rfl
theorem sb_fold (s : ByteArray) : sb (foldS s) = (sb s).map foldB := sb_strOf _ (map_fold_lt s)
theorem fold_two (s : ByteArray) : foldS (foldS s) = foldS s := by
  show strOf ((sb (foldS s)).map foldB) = strOf ((sb s).map foldB)
  rw [sb_fold, List.map_map]
  congr 1
  apply List.map_congr_left
  intro c _
  exact foldB_two c
theorem kdAt_fold (l : List Nat) : kdAt (l.map foldB) = kdAt l := by
  funext i
  unfold kdAt
  rw [List.getElem?_map]
  rcases l[i]? with _ | c
  · rfl
  · exact foldB_kd c
theorem toks_fold (l : List Nat) : toks (l.map foldB) = toks l := by
  unfold toks
  rw [kdAt_fold, List.length_map]
theorem foldS_size (s : ByteArray) : (foldS s).size = s.size := by
  rw [← sb_length, sb_fold, List.length_map, sb_length]
theorem sb_inj {a b : ByteArray} (h : sb a = sb b) : a = b := by rw [← strOf_sb a, ← strOf_sb b, h]
theorem sb_extract (s : ByteArray) (a b : Nat) : sb (s.extract a b) = ((sb s).take b).drop a := by
  unfold sb
  rw [ByteArray.data_extract, Array.toList_extract, List.extract_eq_drop_take', List.map_drop, List.map_take]
theorem fold_extract (s : ByteArray) (a b : Nat) : foldS ((foldS s).extract a b) = foldS (s.extract a b) := by
  show strOf ((sb ((foldS s).extract a b)).map foldB) = strOf ((sb (s.extract a b)).map foldB)
  rw [sb_extract, sb_extract, sb_fold, ← List.map_take, ← List.map_drop, List.map_map]
  congr 1
  apply List.map_congr_left
  intro c _
  exact foldB_two c
theorem wordsTo_fold (s : ByteArray) (l : List Tk) : ∀ i, wordsTo (foldS s) l i = wordsTo s l i
  | 0 => rfl
  | i + 1 => by
    show wordsTo (foldS s) l i ++ _ = wordsTo s l i ++ _
    rw [wordsTo_fold s l i]
    congr 1
    split
    · rename_i t _
      rw [fold_extract]
    · rfl
theorem words_fold (s : ByteArray) : wordsM (foldS s) = wordsM s := by
  unfold wordsM
  rw [sb_fold, toks_fold, wordsTo_fold]
theorem foldB_blank (c : Nat) : (foldB c == 32) = (c == 32) := by
  unfold foldB
  split
  · rename_i h
    rw [beq_eq_false_iff_ne.2 (by omega), beq_eq_false_iff_ne.2 (by omega)]
  · rfl
theorem foldB_some (o : Option Nat) : (o.map foldB = some 32) = (o = some 32) := by
  rcases o with _ | c
  · rfl
  · have := foldB_blank c
    simp only [Option.map_some, Option.some.injEq]
    rw [Bool.eq_iff_iff, beq_iff_eq, beq_iff_eq] at this
    exact propext this
theorem twoB_fold : ∀ l : List Nat, twoB (l.map foldB) = twoB l
  | [] => rfl
  | [a] => rfl
  | a :: b :: r => by
    show ((foldB a == 32 && foldB b == 32) || twoB ((b :: r).map foldB)) = ((a == 32 && b == 32) || twoB (b :: r))
    rw [twoB_fold (b :: r), foldB_blank, foldB_blank]
theorem foldB_in (c : Nat) : (decide (32 ≤ foldB c) && decide (foldB c ≤ 126)) = (decide (32 ≤ c) && decide (c ≤ 126)) := by
  unfold foldB
  split
  · rename_i h
    rw [decide_eq_true (show 32 ≤ c + 32 by omega), decide_eq_true (show c + 32 ≤ 126 by omega), decide_eq_true (show 32 ≤ c by omega), decide_eq_true (show c ≤ 126 by omega)]
  · rfl
theorem valid_fold (l : List Nat) : validT (l.map foldB) = validT l := by
  unfold validT
  simp only [List.length_map, toks_fold, twoB_fold, List.getElem?_map, foldB_some, List.map_eq_nil_iff, List.all_map, Function.comp_def, foldB_in]
/-- Small letters only, and not none. -/
def Small (s : ByteArray) : Prop := 0 < s.size ∧ ∀ c ∈ sb s, 97 ≤ c ∧ c ≤ 122
theorem run_mem {K : Nat → Nat} {n : Nat} : ∀ {l : List Tk} {at_ : Nat}, Run K n at_ l → ∀ t ∈ l, ∃ a, Tok1 K n a t
  | [], _, _, t, h => by cases h
  | u :: r, at_, h, t, ht => by
    rcases List.mem_cons.1 ht with rfl | h2
    · exact ⟨at_, h.1⟩
    · exact run_mem h.2 t h2
theorem isL_fold {c : Nat} (h : isL c = true) : 97 ≤ foldB c ∧ foldB c ≤ 122 := by
  unfold isL at h
  simp at h
  unfold foldB
  split <;> omega
theorem word_small (s : ByteArray) (t : Tk) (ht : t ∈ toks (sb s)) (hk : t.2.2 = 0) : Small (foldS (s.extract t.1 t.2.1)) := by
  obtain ⟨a, h1, h2, h3, h4, h5, h6, h7, h8⟩ := run_mem (toks_run (sb s)) t ht
  rw [sb_length] at h3
  refine ⟨by rw [foldS_size, ByteArray.size_extract]; omega, fun c hc => ?_⟩
  rw [sb_fold] at hc
  obtain ⟨d, hd, rfl⟩ := List.mem_map.1 hc
  rw [sb_extract] at hd
  obtain ⟨j, hj⟩ := List.getElem?_of_mem hd
  rw [List.getElem?_drop, List.getElem?_take] at hj
  split at hj
  · rename_i hlt
    have hK := (h7 (by omega)).1 (t.1 + j) (by omega) hlt
    rw [kdAt_get hj, hk] at hK
    apply isL_fold
    unfold kd at hK
    split at hK
    · cases hK
    · split at hK
      · assumption
      · split at hK
        · cases hK
        · split at hK <;> cases hK
  · cases hj
theorem words_small (s : ByteArray) : ∀ i, ∀ x ∈ wordsTo s (toks (sb s)) i, Small x
  | 0, x, h => by cases h
  | i + 1, x, h => by
    have h : x ∈ wordsTo s (toks (sb s)) i ++ (match (toks (sb s))[i]? with | some t => if t.2.2 = 0 then [foldS (s.extract t.1 t.2.1)] else [] | none => []) := h
    rcases List.mem_append.1 h with h | h
    · exact words_small s i x h
    · split at h
      · rename_i t ht
        split at h
        · rename_i hk
          rw [List.mem_singleton.1 h]
          exact word_small s t (List.mem_of_getElem? ht) hk
        · cases h
      · cases h
theorem words_le (s : ByteArray) (l : List Tk) : ∀ i, ∀ x ∈ wordsTo s l i, x.size ≤ s.size
  | 0, x, h => by cases h
  | i + 1, x, h => by
    have h : x ∈ wordsTo s l i ++ (match l[i]? with | some t => if t.2.2 = 0 then [foldS (s.extract t.1 t.2.1)] else [] | none => []) := h
    rcases List.mem_append.1 h with h | h
    · exact words_le s l i x h
    · split at h
      · split at h
        · rw [List.mem_singleton.1 h, foldS_size, ByteArray.size_extract]
          omega
        · cases h
      · cases h
end Go.Proofs.Ytehkgpefmjfifaa
