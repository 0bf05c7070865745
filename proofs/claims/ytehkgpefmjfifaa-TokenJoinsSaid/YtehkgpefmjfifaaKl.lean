/-
  token.Marks, token.Words and the reference's.
-/
import Derived.Test.YtehkgpefmjfifaaKj
namespace Go.Proofs.Ytehkgpefmjfifaa
open Go.RowKit
set_option linter.unusedVariables false
set_option linter.unusedSimpArgs false

/-- The numbers of the marks among the first tokens. -/
def marksTo (l : List Tk) : Nat → List Int
  | 0 => []
  | i + 1 => marksTo l i ++ (match l[i]? with | some t => if t.2.2 = 3 then [(i : Int)] else [] | none => [])
theorem marks_yes {l : List Tk} {i : Nat} {t : Tk} (h : l[i]? = some t) (hk : t.2.2 = 3) : marksTo l (i + 1) = marksTo l i ++ [(i : Int)] := by
  show marksTo l i ++ (match l[i]? with | some t => if t.2.2 = 3 then [(i : Int)] else [] | none => []) = _
  rw [h]
  dsimp only
  rw [if_pos hk]
theorem marks_no {l : List Tk} {i : Nat} {t : Tk} (h : l[i]? = some t) (hk : t.2.2 ≠ 3) : marksTo l (i + 1) = marksTo l i := by
  show marksTo l i ++ (match l[i]? with | some t => if t.2.2 = 3 then [(i : Int)] else [] | none => []) = _
  rw [h]
  dsimp only
  rw [if_neg hk, List.append_nil]
theorem marks_len (l : List Tk) : ∀ i, (marksTo l i).length ≤ i
  | 0 => Nat.le_refl _
  | i + 1 => by
    have ih := marks_len l i
    unfold marksTo
    rw [List.length_append]
    split
    · split <;> simp <;> omega
    · simp; omega
/-- The numbers of the marks of a text. -/
def marksM (s : ByteArray) : List Int := marksTo (toks (sb s)) (toks (sb s)).length
/-- The words among the first tokens. -/
def wordsTo (s : ByteArray) (l : List Tk) : Nat → List ByteArray
  | 0 => []
  | i + 1 => wordsTo s l i ++ (match l[i]? with | some t => if t.2.2 = 0 then [foldS (s.extract t.1 t.2.1)] else [] | none => [])
theorem words_yes {s : ByteArray} {l : List Tk} {i : Nat} {t : Tk} (h : l[i]? = some t) (hk : t.2.2 = 0) : wordsTo s l (i + 1) = wordsTo s l i ++ [foldS (s.extract t.1 t.2.1)] := by
  show wordsTo s l i ++ (match l[i]? with | some t => if t.2.2 = 0 then [foldS (s.extract t.1 t.2.1)] else [] | none => []) = _
  rw [h]
  dsimp only
  rw [if_pos hk]
theorem words_no {s : ByteArray} {l : List Tk} {i : Nat} {t : Tk} (h : l[i]? = some t) (hk : t.2.2 ≠ 0) : wordsTo s l (i + 1) = wordsTo s l i := by
  show wordsTo s l i ++ (match l[i]? with | some t => if t.2.2 = 0 then [foldS (s.extract t.1 t.2.1)] else [] | none => []) = _
  rw [h]
  dsimp only
  rw [if_neg hk, List.append_nil]
theorem words_len (s : ByteArray) (l : List Tk) : ∀ i, (wordsTo s l i).length ≤ i
  | 0 => Nat.le_refl _
  | i + 1 => by
    have ih := words_len s l i
    unfold wordsTo
    rw [List.length_append]
    split
    · split <;> simp <;> omega
    · simp; omega
def wordsM (s : ByteArray) : List ByteArray := wordsTo s (toks (sb s)) (toks (sb s)).length
/-- What a loop over tokens has made so far: a slice of its own. -/
def TkRel {α : Type} (E : Elt α) (M : Nat → List α) (n : Nat) (W : World) (v3 v9 : Value) (wr : World) : Prop := ∃ i : Nat, v9 = .int .i64 (i : Int) ∧ i ≤ n ∧ OwnR E wr W.heap.size v3 (M i) ∧ Below W.heap.size W wr
/-- A slice of one's own as an answer. -/
def MadeR {α : Type} (E : Elt α) (l : List α) (w : World) (e : Ending) (w' : World) : Prop := ∃ v, e = .returned v ∧ OwnR E w' w.heap.size v l ∧ Below w.heap.size w w'

set_option maxHeartbeats 4000000 in
set_option maxRecDepth 100000 in
theorem marks_any (s : ByteArray) (hn6 : s.size ≤ 1000000000) (w : World) :
    Calls Try.prog 31 #[.string s] w (MadeR intE (marksM s) w) := by
  have HS := Lib.hid (fun (V : World) => split_any s s.size rfl hn6 V)
  obtain ⟨n, hn⟩ : ∃ n, (toks (sb s)).length = n := ⟨_, rfl⟩
  have hnb : n ≤ 1000000000 := by have := toks_len (sb s); rw [sb_length] at this; omega
  have HN := Lib.hid hn
  clear hn
  go_enter Try.func31, Try.ntmps31
  go_wp2_with (go_at_call 18; refine (HS.out w).mono ?_; rintro en W1 ⟨v, rfl, hO, hB1⟩; obtain ⟨q, c, rfl, hc, hAt, _, _⟩ := hO.form; rw [HN.out] at hc ⊢)
  go_loopw [3, 9] (fun v3 v9 wr => TkRel intE (marksTo (toks (sb s))) n W1 v3 v9 wr) (fun _ v _ => n - (intOf v).toNat)
  case atStart => exact ⟨0, rfl, Nat.zero_le _, OwnR.nil _ _ _, Below.refl _ _⟩
  case round =>
    obtain ⟨i, rfl, hi, hR, hB⟩ := hrel
    rcases Nat.lt_or_ge i n with hlt | hge
    · obtain ⟨⟨ta, te, tk⟩, ht⟩ : ∃ a, (toks (sb s))[i]? = some a := ⟨_, List.getElem?_eq_getElem (by rw [HN.out]; exact hlt)⟩
      obtain ⟨b, off, rfl, hL⟩ := hAt.get (i := i) (by rw [HN.out]; exact hlt)
      have hL2 := (hL.keep hB).range ht
      have hll := marks_len (toks (sb s)) i
      have HT := Lib.hid ht
      clear ht hL
      rw [show tkE.k = 3 from rfl] at hL2
      replace hL2 : wr.rangeAt b (off + i * 3) [.int .i64 (ta : Int), .int .i64 (te : Int), .int .i64 (tk : Int)] := hL2
      go_upto_region 5 with (first
        | (refine wpList_load_mid rfl 52 (.tmp 12) rfl b (off + i * 3) rfl [.int .i64 (ta : Int), .int .i64 (te : Int), .int .i64 (tk : Int)] _ hL2 Try.underlying52 rfl (by kernel_rfl) ?_)
        | (refine store_blk rfl 52 (.tmp 5) (.tmp 13) rfl (blk_new wr 52 #[.int .i64 0, .int .i64 0, .int .i64 0]) rfl rfl (m := 3) (by kernel_rfl) rfl rfl (by intro v hv; simp at hv; rcases hv with rfl | rfl | rfl <;> rfl) ?_; intro W5 K5 O5))
      have B5 : Below wr.heap.size wr W5 := O5.2.2 _ _ (Nat.le_refl _) ((Below.refl _ _).alloc (Nat.le_refl _) _)
      replace hR := hR.keep B5
      have hB5 : Below W1.heap.size W1 W5 := link hB B5
      clear hL2 O5 B5 hB
      generalize wr.heap.size = t5 at K5 ⊢
      have c5 := K5.cell (j := 2) rfl
      by_cases hk : tk = 3
      · have hkb : ((tk : Int) == 3) = true := by simp [hk]
        have HM := Lib.hid (marks_yes HT.out hk)
        clear hk
        go_wp2_with (at_builtin; refine push_el intE rfl (.tmp 17) (.tmp 19) rfl _ (i : Int) _ rfl hR hB5.size _ rfl _ rfl (by omega) ?_; intro v4 w4 hO4 hB4 hR4)
        exact ⟨⟨i + 1, by go_num, by omega, by rw [HM.out]; exact hO4, hB5.trans hB4⟩, by simp [intOf]; omega⟩
      · have hkb : ((tk : Int) == 3) = false := by simp; omega
        have HM := Lib.hid (marks_no HT.out hk)
        clear hk
        go_wp2
        exact ⟨⟨i + 1, by go_num, by omega, by rw [HM.out]; exact hR, hB5⟩, by simp [intOf]; omega⟩
    · have hlt : ¬ i < n := by omega
      obtain rfl : i = n := by omega
      go_wp2
      go_ret
      exact ⟨_, rfl, by unfold marksM; rw [HN.out]; exact hR.mono hB1.size, link hB1 hB⟩

set_option maxHeartbeats 4000000 in
set_option maxRecDepth 100000 in
theorem words_any (s : ByteArray) (hn6 : s.size ≤ 1000000000) (w : World) :
    Calls Try.prog 25 #[.string s] w (MadeR strE (wordsM s) w) := by
  have HS := Lib.hid (fun (V : World) => split_any s s.size rfl hn6 V)
  obtain ⟨n, hn⟩ : ∃ n, (toks (sb s)).length = n := ⟨_, rfl⟩
  have hnb : n ≤ 1000000000 := by have := toks_len (sb s); rw [sb_length] at this; omega
  have HN := Lib.hid hn
  clear hn
  go_enter Try.func25, Try.ntmps25
  go_wp2_with (go_at_call 18; refine (HS.out w).mono ?_; rintro en W1 ⟨v, rfl, hO, hB1⟩; obtain ⟨q, c, rfl, hc, hAt, _, _⟩ := hO.form; rw [HN.out] at hc ⊢)
  go_loopw [3, 9] (fun v3 v9 wr => TkRel strE (wordsTo s (toks (sb s))) n W1 v3 v9 wr) (fun _ v _ => n - (intOf v).toNat)
  case atStart => exact ⟨0, rfl, Nat.zero_le _, OwnR.nil _ _ _, Below.refl _ _⟩
  case round =>
    obtain ⟨i, rfl, hi, hR, hB⟩ := hrel
    rcases Nat.lt_or_ge i n with hlt | hge
    · obtain ⟨⟨ta, te, tk⟩, ht⟩ : ∃ a, (toks (sb s))[i]? = some a := ⟨_, List.getElem?_eq_getElem (by rw [HN.out]; exact hlt)⟩
      obtain ⟨b, off, rfl, hL⟩ := hAt.get (i := i) (by rw [HN.out]; exact hlt)
      have hL2 := (hL.keep hB).range ht
      have hll := words_len s (toks (sb s)) i
      have HT := Lib.hid ht
      clear ht hL
      rw [show tkE.k = 3 from rfl] at hL2
      replace hL2 : wr.rangeAt b (off + i * 3) [.int .i64 (ta : Int), .int .i64 (te : Int), .int .i64 (tk : Int)] := hL2
      go_upto_region 5 with (first
        | (refine wpList_load_mid rfl 52 (.tmp 11) rfl b (off + i * 3) rfl [.int .i64 (ta : Int), .int .i64 (te : Int), .int .i64 (tk : Int)] _ hL2 Try.underlying52 rfl (by kernel_rfl) ?_)
        | (refine store_blk rfl 52 (.tmp 5) (.tmp 12) rfl (blk_new wr 52 #[.int .i64 0, .int .i64 0, .int .i64 0]) rfl rfl (m := 3) (by kernel_rfl) rfl rfl (by intro v hv; simp at hv; rcases hv with rfl | rfl | rfl <;> rfl) ?_; intro W5 K5 O5))
      have B5 : Below wr.heap.size wr W5 := O5.2.2 _ _ (Nat.le_refl _) ((Below.refl _ _).alloc (Nat.le_refl _) _)
      replace hR := hR.keep B5
      have hB5 : Below W1.heap.size W1 W5 := link hB B5
      clear hL2 O5 B5 hB
      generalize wr.heap.size = t5 at K5 ⊢
      have c5 := K5.cell (j := 2) rfl
      have c3 := K5.cell (j := 0) rfl
      have c4 := K5.cell (j := 1) rfl
      obtain ⟨hin1, hin2, _⟩ := toks_in HT.out
      rw [sb_length] at hin2
      have hin1 : ta ≤ te := Nat.le_of_lt hin1
      have hin2 : te ≤ s.size := hin2
      have HF := Lib.hid (fun (V : World) => fold_any (s.extract ta te) _ rfl (by rw [ByteArray.size_extract]; omega) V)
      by_cases hk : tk = 0
      · have hkb : ((tk : Int) == 0) = true := by simp [hk]
        have HM := Lib.hid (words_yes (s := s) HT.out hk)
        clear hk
        go_wp2_with (first
          | (go_at_call 22; refine (HF.out _).mono ?_; rintro en W6 ⟨rfl, hB6⟩; have hB7 := link hB5 hB6; replace hR := hR.keep hB6)
          | (at_builtin; refine push_el strE rfl (.tmp 16) (.tmp 24) rfl _ (foldS (s.extract ta te)) _ rfl hR hB7.size _ rfl _ rfl (by omega) ?_; intro v4 w4 hO4 hB4 hR4))
        exact ⟨⟨i + 1, by go_num, by omega, by rw [HM.out]; exact hO4, hB7.trans hB4⟩, by simp [intOf]; omega⟩
      · have hkb : ((tk : Int) == 0) = false := by simp; omega
        have HM := Lib.hid (words_no (s := s) HT.out hk)
        clear hk
        go_wp2
        exact ⟨⟨i + 1, by go_num, by omega, by rw [HM.out]; exact hR, hB5⟩, by simp [intOf]; omega⟩
    · have hlt : ¬ i < n := by omega
      obtain rfl : i = n := by omega
      go_wp2
      go_ret
      exact ⟨_, rfl, by unfold wordsM; rw [HN.out]; exact hR.mono hB1.size, link hB1 hB⟩

set_option maxHeartbeats 4000000 in
set_option maxRecDepth 100000 in
theorem rmarks_any (s : ByteArray) (hn6 : s.size ≤ 1000000000) (w : World) :
    Calls Try.prog 32 #[.string s] w (MadeR intE (marksM s) w) := by
  have HS := Lib.hid (fun (V : World) => rsplit_any s s.size rfl hn6 V)
  obtain ⟨n, hn⟩ : ∃ n, (toks (sb s)).length = n := ⟨_, rfl⟩
  have hnb : n ≤ 1000000000 := by have := toks_len (sb s); rw [sb_length] at this; omega
  have HN := Lib.hid hn
  clear hn
  go_enter Try.func32, Try.ntmps32
  go_wp2_with (go_at_call 15; refine (HS.out w).mono ?_; rintro en W1 ⟨v, rfl, hO, hB1⟩; obtain ⟨q, c, rfl, hc, hAt, _, _⟩ := hO.form; rw [HN.out] at hc ⊢)
  go_loopw [4, 5] (fun v3 v9 wr => TkRel intE (marksTo (toks (sb s))) n W1 v3 v9 wr) (fun _ v _ => n - (intOf v).toNat)
  case atStart => exact ⟨0, rfl, Nat.zero_le _, OwnR.nil _ _ _, Below.refl _ _⟩
  case round =>
    obtain ⟨i, rfl, hi, hR, hB⟩ := hrel
    rcases Nat.lt_or_ge i n with hlt | hge
    · obtain ⟨⟨ta, te, tk⟩, ht⟩ : ∃ a, (toks (sb s))[i]? = some a := ⟨_, List.getElem?_eq_getElem (by rw [HN.out]; exact hlt)⟩
      obtain ⟨b, off, rfl, hL⟩ := hAt.get (i := i) (by rw [HN.out]; exact hlt)
      have hLk := hL.keep hB
      have c5 : wr.cell? ⟨b, off + i * 3 + 2, none⟩ = some (.int .i64 (tk : Int)) := hLk.2 i (ta, te, tk) 2 _ ht rfl
      have c3 : wr.cell? ⟨b, off + i * 3, none⟩ = some (.int .i64 (ta : Int)) := hLk.2 i (ta, te, tk) 0 _ ht rfl
      have c4 : wr.cell? ⟨b, off + i * 3 + 1, none⟩ = some (.int .i64 (te : Int)) := hLk.2 i (ta, te, tk) 1 _ ht rfl
      have hbl := hLk.1
      have hll := marks_len (toks (sb s)) i
      have HT := Lib.hid ht
      clear ht hL hLk
      by_cases hk : tk = 3
      · have hkb : ((tk : Int) == 3) = true := by simp [hk]
        have HM := Lib.hid (marks_yes HT.out hk)
        clear hk
        clear c3 c4
        have hB5 := hB
        go_wp2_with (at_builtin; refine push_el intE rfl (.tmp 20) (.tmp 22) rfl _ (i : Int) _ rfl hR hB5.size _ rfl _ rfl (by omega) ?_; intro v4 w4 hO4 hB4 hR4)
        exact ⟨⟨i + 1, by go_num, by omega, by rw [HM.out]; exact hO4, hB5.trans hB4⟩, by simp [intOf]; omega⟩
      · have hkb : ((tk : Int) == 3) = false := by simp; omega
        have HM := Lib.hid (marks_no HT.out hk)
        clear hk c3 c4
        go_wp2
        exact ⟨⟨i + 1, by go_num, by omega, by rw [HM.out]; exact hR, hB⟩, by simp [intOf]; omega⟩
    · have hlt : ¬ i < n := by omega
      obtain rfl : i = n := by omega
      go_wp2
      go_ret
      exact ⟨_, rfl, by unfold marksM; rw [HN.out]; exact hR.mono hB1.size, link hB1 hB⟩

set_option maxHeartbeats 4000000 in
set_option maxRecDepth 100000 in
theorem rwords_any (s : ByteArray) (hn6 : s.size ≤ 1000000000) (w : World) :
    Calls Try.prog 26 #[.string s] w (MadeR strE (wordsM s) w) := by
  have HS := Lib.hid (fun (V : World) => rsplit_any s s.size rfl hn6 V)
  obtain ⟨n, hn⟩ : ∃ n, (toks (sb s)).length = n := ⟨_, rfl⟩
  have hnb : n ≤ 1000000000 := by have := toks_len (sb s); rw [sb_length] at this; omega
  have HN := Lib.hid hn
  clear hn
  go_enter Try.func26, Try.ntmps26
  go_wp2_with (go_at_call 15; refine (HS.out w).mono ?_; rintro en W1 ⟨v, rfl, hO, hB1⟩; obtain ⟨q, c, rfl, hc, hAt, _, _⟩ := hO.form; rw [HN.out] at hc ⊢)
  go_loopw [4, 5] (fun v3 v9 wr => TkRel strE (wordsTo s (toks (sb s))) n W1 v3 v9 wr) (fun _ v _ => n - (intOf v).toNat)
  case atStart => exact ⟨0, rfl, Nat.zero_le _, OwnR.nil _ _ _, Below.refl _ _⟩
  case round =>
    obtain ⟨i, rfl, hi, hR, hB⟩ := hrel
    rcases Nat.lt_or_ge i n with hlt | hge
    · obtain ⟨⟨ta, te, tk⟩, ht⟩ : ∃ a, (toks (sb s))[i]? = some a := ⟨_, List.getElem?_eq_getElem (by rw [HN.out]; exact hlt)⟩
      obtain ⟨b, off, rfl, hL⟩ := hAt.get (i := i) (by rw [HN.out]; exact hlt)
      have hLk := hL.keep hB
      have c5 : wr.cell? ⟨b, off + i * 3 + 2, none⟩ = some (.int .i64 (tk : Int)) := hLk.2 i (ta, te, tk) 2 _ ht rfl
      have c3 : wr.cell? ⟨b, off + i * 3, none⟩ = some (.int .i64 (ta : Int)) := hLk.2 i (ta, te, tk) 0 _ ht rfl
      have c4 : wr.cell? ⟨b, off + i * 3 + 1, none⟩ = some (.int .i64 (te : Int)) := hLk.2 i (ta, te, tk) 1 _ ht rfl
      have hbl := hL.1
      have k3 : W1.cell? ⟨b, off + i * 3, none⟩ = some (.int .i64 (ta : Int)) := hL.2 i (ta, te, tk) 0 _ ht rfl
      have k4 : W1.cell? ⟨b, off + i * 3 + 1, none⟩ = some (.int .i64 (te : Int)) := hL.2 i (ta, te, tk) 1 _ ht rfl
      have hll := words_len s (toks (sb s)) i
      have HT := Lib.hid ht
      clear ht hL hLk
      by_cases hk : tk = 0
      · have hkb : ((tk : Int) == 0) = true := by simp [hk]
        have HM := Lib.hid (words_yes (s := s) HT.out hk)
        clear hk
        obtain ⟨hin1, hin2, _⟩ := toks_in HT.out
        rw [sb_length] at hin2
        have hin1 : ta ≤ te := Nat.le_of_lt hin1
        have hin2 : te ≤ s.size := hin2
        have HF := Lib.hid (fun (V : World) => rfold_any (s.extract ta te) _ rfl (by rw [ByteArray.size_extract]; omega) V)
        go_upto_region 7 with (fail)
        obtain ⟨qo, co, rfl, hco, _, _, _⟩ := hR.form
        skip
        refine wp_region_held_drew (S := fun w' => Below W1.heap.size W1 w') (by kernel_rfl) (below_drew (hB)) (fun _ => ?_)
        have hHeld : Below W1.heap.size W1 wr.drew := below_drew (hB)
        replace hR : OwnR strE wr.drew W1.heap.size (.slice qo _ co) _ := hR
        generalize wr.drew = V0 at hHeld hR ⊢
        have C0 : ∀ w', Below W1.heap.size W1 w' → w'.cell? ⟨b, off + i * 3, none⟩ = some (.int .i64 (ta : Int)) := fun w' h => (h.cell (p := ⟨b, off + i * 3, none⟩) hbl).trans k3
        have C1 : ∀ w', Below W1.heap.size W1 w' → w'.cell? ⟨b, off + i * 3 + 1, none⟩ = some (.int .i64 (te : Int)) := fun w' h => (h.cell (p := ⟨b, off + i * 3 + 1, none⟩) hbl).trans k4
        clear c3 c4 c5 k3 k4
        refine wt (i := 0) (oi := ⟨some 20, .move (.tmp 4), 23, "ref.go:96", #[], none⟩) (v := .slice qo (wordsTo s (toks (sb s)) i).length co) (Or.inl ⟨by rfl, fun w' hSw => by go_simp⟩) hHeld ?_
        try simp only [zP, zQ, zS, zZ, zC]
        refine wt (i := 1) (oi := ⟨some 21, .move (.tmp 0), 9, "ref.go:96", #[], none⟩) (v := .string s) (Or.inl ⟨by rfl, fun w' hSw => by go_simp⟩) hHeld ?_
        try simp only [zP, zQ, zS, zZ, zC]
        refine wt (i := 2) (oi := ⟨some 22, .move (.tmp 3), 29, "ref.go:96", #[], none⟩) (v := .slice (some ⟨b, off, none⟩) n c) (Or.inl ⟨by rfl, fun w' hSw => by go_simp⟩) hHeld ?_
        try simp only [zP, zQ, zS, zZ, zC]
        refine wt (i := 3) (oi := ⟨some 23, .move (.tmp 5), 3, "ref.go:96", #[], none⟩) (v := .int .i64 (i : Int)) (Or.inl ⟨by rfl, fun w' hSw => by go_simp⟩) hHeld ?_
        try simp only [zP, zQ, zS, zZ, zC]
        refine wt (i := 4) (oi := ⟨some 24, .indexAddr 29 (.tmp 22) (.tmp 23), 0, "ref.go:96", #[⟨2, .data⟩, ⟨3, .data⟩], none⟩) (v := .pointer (some ⟨b, off + i * 3, none⟩)) (Or.inl ⟨by rfl, fun w' hSw => by go_simp; try (intro hcm; exact absurd hcm (by omega))⟩) hHeld ?_
        try simp only [zP, zQ, zS, zZ, zC]
        refine wt (i := 5) (oi := ⟨some 25, .fieldAddr 63 (.tmp 24) 0, 0, "ref.go:96", #[⟨4, .data⟩], none⟩) (v := .pointer (some ⟨b, off + i * 3, none⟩)) (Or.inl ⟨by rfl, fun w' hSw => by go_simp⟩) hHeld ?_
        try simp only [zP, zQ, zS, zZ, zC]
        refine wt (i := 6) (oi := ⟨some 26, .load 3 (.tmp 25), 3, "ref.go:96", #[⟨5, .data⟩], none⟩) (v := .int .i64 (ta : Int)) (Or.inl ⟨by rfl, fun w' hSw => by have hc := C0 w' hSw; go_simp⟩) hHeld ?_
        try simp only [zP, zQ, zS, zZ, zC]
        refine wt (i := 7) (oi := ⟨some 27, .move (.tmp 3), 29, "ref.go:96", #[], none⟩) (v := .slice (some ⟨b, off, none⟩) n c) (Or.inl ⟨by rfl, fun w' hSw => by go_simp⟩) hHeld ?_
        try simp only [zP, zQ, zS, zZ, zC]
        refine wt (i := 8) (oi := ⟨some 28, .move (.tmp 5), 3, "ref.go:96", #[], none⟩) (v := .int .i64 (i : Int)) (Or.inl ⟨by rfl, fun w' hSw => by go_simp⟩) hHeld ?_
        try simp only [zP, zQ, zS, zZ, zC]
        refine wt (i := 9) (oi := ⟨some 29, .indexAddr 29 (.tmp 27) (.tmp 28), 0, "ref.go:96", #[⟨7, .data⟩, ⟨8, .data⟩], none⟩) (v := .pointer (some ⟨b, off + i * 3, none⟩)) (Or.inl ⟨by rfl, fun w' hSw => by go_simp; try (intro hcm; exact absurd hcm (by omega))⟩) hHeld ?_
        try simp only [zP, zQ, zS, zZ, zC]
        refine wt (i := 10) (oi := ⟨some 30, .fieldAddr 63 (.tmp 29) 1, 0, "ref.go:96", #[⟨9, .data⟩], none⟩) (v := .pointer (some ⟨b, off + i * 3 + 1, none⟩)) (Or.inl ⟨by rfl, fun w' hSw => by go_simp⟩) hHeld ?_
        try simp only [zP, zQ, zS, zZ, zC]
        refine wt (i := 11) (oi := ⟨some 31, .load 3 (.tmp 30), 3, "ref.go:96", #[⟨10, .data⟩], none⟩) (v := .int .i64 (te : Int)) (Or.inl ⟨by rfl, fun w' hSw => by have hc := C1 w' hSw; go_simp⟩) hHeld ?_
        try simp only [zP, zQ, zS, zZ, zC]
        refine wt (i := 12) (oi := ⟨some 32, .slice 9 (.tmp 21) (some (.tmp 26)) (some (.tmp 31)) none, 9, "ref.go:96", #[⟨1, .data⟩, ⟨6, .data⟩, ⟨11, .data⟩], none⟩) (v := .string (s.extract ta te)) (Or.inl ⟨by rfl, fun w' hSw => by go_simp⟩) hHeld ?_
        try simp only [zP, zQ, zS, zZ, zC]
        refine wpAnyH_ready (rs := [13]) (by kernel_rfl) (by simp) ?_
        refine AllReadyH.cons (o := ⟨some 33, .call { callee := .value (.func 23), args := #[.tmp 32], argTypes := #[9] }, 9, "ref.go:96", #[⟨12, .data⟩], none⟩) rfl (fun K hK => ?_) AllReadyH.nil
        rw [if_pos (by rfl)]
        go_simp
        refine (HF.out V0).mono ?_
        rintro en V1 ⟨rfl, hB6⟩
        dsimp only
        replace hR := hR.keep hB6
        refine hK.out _ _ (link hHeld hB6) (fun hHeld => ?_)
        clear hK K
        try simp only [zP, zQ, zS, zZ, zC]
        refine wpAnyH_ready (rs := [14]) (by kernel_rfl) (by simp) ?_
        refine AllReadyH.cons (o := ⟨some 34, .buildSlice 23 1 #[(0, .tmp 33)], 23, "ref.go:96", #[⟨13, .data⟩], none⟩) rfl (fun K hK => ?_) AllReadyH.nil
        rw [if_pos (by rfl)]
        go_simp
        have X0 : Below V1.heap.size V1 (V1.alloc (.cells #[.string (foldS (s.extract ta te))] 9)) := (Below.refl _ _).alloc (Nat.le_refl _) _
        have hz1 : W1.heap.size ≤ V1.heap.size := hHeld.size
        have hH1 := hHeld
        refine hK.out _ _ (link hHeld X0) (fun hHeld => ?_)
        clear hK K
        try simp only [zP, zQ, zS, zZ, zC]
        refine wpAnyH_ready (rs := [15]) (by kernel_rfl) (by simp) ?_
        refine AllReadyH.cons (o := ⟨some 35, .call { callee := .builtin .append, args := #[.tmp 20, .tmp 34], argTypes := #[23, 23] }, 23, "ref.go:96", #[⟨0, .data⟩, ⟨14, .data⟩, ⟨13, .chain⟩], none⟩) rfl (fun K hK => ?_) AllReadyH.nil
        rw [if_pos (by rfl)]
        refine push_wp strE (w := V1) (.tmp 20) (.tmp 34) rfl _ (foldS (s.extract ta te)) _ rfl hR hz1 _ rfl _ rfl (by omega) ?_
        intro v4 V2 hO4 hB4 hR4
        refine hK.out _ _ (hH1.trans hB4) (fun hHeld => ?_)
        clear hK K
        try simp only [zP, zQ, zS, zZ, zC]
        refine wpAnyH_ready (rs := [16]) (by kernel_rfl) (by simp) ?_
        refine AllReadyH.cons (o := ⟨some 4, .assign (.tmp 35), 23, "ref.go:96", #[⟨15, .data⟩, ⟨15, .chain⟩, ⟨0, .phase⟩, ⟨1, .phase⟩, ⟨2, .phase⟩, ⟨3, .phase⟩, ⟨4, .phase⟩, ⟨5, .phase⟩, ⟨6, .phase⟩, ⟨7, .phase⟩, ⟨8, .phase⟩, ⟨9, .phase⟩, ⟨10, .phase⟩, ⟨11, .phase⟩, ⟨12, .phase⟩, ⟨13, .phase⟩, ⟨14, .phase⟩, ⟨15, .phase⟩], none⟩) rfl (fun K hK => ?_) AllReadyH.nil
        go_simp
        refine hK.out _ _ (hHeld) (fun hHeld => ?_)
        clear hK K
        try simp only [zP, zQ, zS, zZ, zC]
        refine wpAnyH_done (by kernel_rfl) ?_ _
        have hB9 := hHeld
        clear hHeld C0 C1
        go_wp2
        exact ⟨⟨i + 1, by go_num, by omega, by rw [HM.out]; exact hO4, hB9⟩, by simp [intOf]; omega⟩
      · have hkb : ((tk : Int) == 0) = false := by simp; omega
        have HM := Lib.hid (words_no (s := s) HT.out hk)
        clear hk c3 c4 k3 k4
        go_wp2
        exact ⟨⟨i + 1, by go_num, by omega, by rw [HM.out]; exact hR, hB⟩, by simp [intOf]; omega⟩
    · have hlt : ¬ i < n := by omega
      obtain rfl : i = n := by omega
      go_wp2
      go_ret
      exact ⟨_, rfl, by unfold wordsM; rw [HN.out]; exact hR.mono hB1.size, link hB1 hB⟩

end Go.Proofs.Ytehkgpefmjfifaa
