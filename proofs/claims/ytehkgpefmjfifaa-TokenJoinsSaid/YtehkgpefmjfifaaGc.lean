/-
  The reference's Text and Marked: a good text of a bounded length.
-/
import Derived.Test.YtehkgpefmjfifaaGs
import Derived.Test.YtehkgpefmjfifaaLj
namespace Go.Proofs.Ytehkgpefmjfifaa
open Go.RowKit
set_option linter.unusedVariables false
set_option linter.unusedSimpArgs false

/-- Printable bytes whose blanks stand alone, none at the end; the Bool: a blank stands before. -/
def gd : Bool → List Nat → Bool
  | b, [] => !b
  | b, c :: r => (if c = 32 then !b else decide (32 ≤ c) && decide (c ≤ 126)) && gd (decide (c = 32)) r
theorem gd_weak : ∀ {l : List Nat}, gd true l = true → gd false l = true
  | [], h => by cases h
  | c :: r, h => by
    unfold gd at h ⊢
    by_cases hc : c = 32
    · rw [if_pos hc] at h; cases h
    · rw [if_neg hc] at h ⊢; exact h
theorem gd_app {m : List Nat} (hm : gd true m = true) : ∀ {l : List Nat} {b : Bool}, gd b l = true → gd b (l ++ m) = true
  | [], b, h => by
    unfold gd at h
    have hb : b = false := by cases b <;> simp_all
    subst hb
    exact gd_weak hm
  | c :: r, b, h => by
    rw [List.cons_append]
    unfold gd at h ⊢
    rw [Bool.and_eq_true] at h ⊢
    exact ⟨h.1, gd_app hm h.2⟩
theorem gd_blank {m : List Nat} (hm : gd true m = true) : gd false (32 :: m) = true := by
  unfold gd
  rw [if_pos rfl, decide_eq_true rfl, hm]
  rfl
theorem gd_tail {m : List Nat} (hm : gd false m = true) : ∀ {l : List Nat} {b : Bool}, gd b l = true → gd b (l ++ m) = true
  | [], b, h => by
    unfold gd at h
    have hb : b = false := by cases b <;> simp_all
    subst hb
    exact hm
  | c :: r, b, h => by
    rw [List.cons_append]
    unfold gd at h ⊢
    rw [Bool.and_eq_true] at h ⊢
    exact ⟨h.1, gd_tail hm h.2⟩
theorem gd_join {l m : List Nat} (hl : gd true l = true) (hm : gd true m = true) : gd true (l ++ 32 :: m) = true := gd_tail (gd_blank hm) hl
/-- What goods means. -/
theorem gd_range : ∀ {l : List Nat} {b : Bool}, gd b l = true → ∀ c ∈ l, 32 ≤ c ∧ c ≤ 126
  | [], b, h, c, hc => by cases hc
  | d :: r, b, h, c, hc => by
    unfold gd at h
    rw [Bool.and_eq_true] at h
    rcases List.mem_cons.1 hc with e | e
    · subst e
      by_cases h3 : c = 32
      · omega
      · rw [if_neg h3, Bool.and_eq_true, decide_eq_true_eq, decide_eq_true_eq] at h; exact h.1
    · exact gd_range h.2 c e
theorem gd_two : ∀ {l : List Nat} {b : Bool}, gd b l = true → twoB l = false
  | [], b, h => rfl
  | [x], b, h => rfl
  | x :: y :: r, b, h => by
    unfold gd at h
    rw [Bool.and_eq_true] at h
    unfold twoB
    rw [gd_two h.2, Bool.or_false]
    by_cases hx : x = 32
    · rw [decide_eq_true hx] at h
      by_cases hy : y = 32
      · have := h.2
        unfold gd at this
        rw [if_pos hy] at this
        cases this
      · simp [hy]
    · simp [hx]
theorem gd_last : ∀ {l : List Nat} {b : Bool}, gd b l = true → l[l.length - 1]? = some 32 → False
  | [], b, h, g => by simp at g
  | [x], b, h, g => by
    unfold gd at h
    rw [Bool.and_eq_true] at h
    have g : some x = some 32 := g
    injection g with g
    rw [decide_eq_true g] at h
    cases h.2
  | x :: y :: r, b, h, g => by
    unfold gd at h
    rw [Bool.and_eq_true] at h
    exact gd_last h.2 (by simpa using g)
theorem gd_first {l : List Nat} (h : gd true l = true) : ∃ c, l[0]? = some c ∧ c ≠ 32 := by
  rcases l with _ | ⟨c, r⟩
  · cases h
  · refine ⟨c, rfl, fun e => ?_⟩
    unfold gd at h
    rw [if_pos e] at h
    cases h
theorem gd_valid {l : List Nat} (h : gd true l = true) (hs : l.length ≤ 256) : validT l = 0 := by
  obtain ⟨c, hc, hn⟩ := gd_first h
  unfold validT
  rw [if_neg (by omega), if_neg, if_pos, if_neg]
  · have := toks_len l; omega
  · rw [List.all_eq_true]
    intro d hd
    have := gd_range h d hd
    rw [Bool.and_eq_true, decide_eq_true_eq, decide_eq_true_eq]
    exact this
  · rintro (e | e | e | e)
    · rw [e] at hc; cases hc
    · rw [hc] at e; injection e with e; exact hn e
    · exact gd_last h e
    · rw [gd_two h] at e; cases e
theorem gd_toks {l : List Nat} (h : gd true l = true) : toks l ≠ [] := by
  obtain ⟨c, hc, hn⟩ := gd_first h
  intro e
  have hr := toks_run l
  rw [e] at hr
  have hlt := (List.getElem?_eq_some_iff.1 hc).1
  exact hn (kdAt_blank hc (hr 0 (Nat.zero_le _) hlt))
theorem gd_set {c d : Nat} {r : List Nat} {b : Bool} (h : gd b (c :: r) = true) (hc : c ≠ 32) (hd : d ≠ 32) (h1 : 32 ≤ d) (h2 : d ≤ 126) : gd b (d :: r) = true := by
  unfold gd at h ⊢
  rw [if_neg hd, decide_eq_true h1, decide_eq_true h2]
  rw [Bool.and_eq_true] at h
  rw [decide_eq_false hc] at h
  rw [decide_eq_false hd, h.2]
  rfl
/-- A call that answers with some good text of at most so many bytes. -/
def SomeG (n : Nat) (w : World) (e : Ending) (w' : World) : Prop := ∃ s : ByteArray, (gd true (sb s) = true ∧ s.size ≤ n) ∧ e = .returned (.string s) ∧ Below w.heap.size w w'

set_option maxHeartbeats 2000000 in
set_option maxRecDepth 100000 in
theorem capitalG (s : ByteArray) (n : Nat) (hn : s.size = n) (hn6 : n ≤ 1000000000) (hgd : gd true (sb s) = true) (w : World) :
    Calls Try.prog 59 #[.string s] w (SomeG n w) := by
  obtain ⟨W1, cap, hcv, hB1, hR1⟩ := conv_str w s
  rw [hn] at hcv
  have HN := Lib.hid (show (sb s).length = n from by rw [sb_length, hn])
  obtain ⟨g, hg⟩ : ∃ g, w.heap.size = g := ⟨_, rfl⟩
  rw [hg] at hcv hR1
  have hgw : w.heap.size ≤ g := by omega
  have hl8 := sb_lt s
  have hsz : ∀ l : List Nat, l.length = n → (strOf l).size ≤ n := fun l h => by simp [ByteArray.size, strOf, h]
  have HGD := Lib.hid hgd
  have HST := Lib.hid (fun l : List Nat => fun h : ∀ d ∈ l, d < 256 => sb_strOf l h)
  clear hgd
  generalize sb s = m at HN hR1 hl8 HGD
  have hcv2 := conv_back hR1 hl8 HN.out cap
  rcases Nat.eq_zero_or_pos n with h0 | h0
  · subst h0
    have hs0 := hsz m HN.out
    have HG := Lib.hid (show gd true (sb (strOf m)) = true from by rw [HST.out m hl8]; exact HGD.out)
    clear hg hsz
    go_enter Try.func59, Try.ntmps59
    go_wp2
    go_ret
    exact ⟨_, ⟨HG.out, hs0⟩, rfl, hB1⟩
  · obtain ⟨c, hc⟩ : ∃ c, m[0]? = some c := ⟨_, List.getElem?_eq_getElem (by rw [HN.out]; exact h0)⟩
    have hcl := hl8 c (List.mem_of_getElem? hc)
    have c1 := hR1.cell hc
    have f1 := hR1.free (j := 0) (by rw [HN.out]; exact h0)
    by_cases h97 : 97 ≤ c
    · by_cases h122 : c ≤ 122
      · have hS := hR1.set (j := 0) (by rw [HN.out]; exact h0) (c - 97 + 65)
        have hfc : (.int .u8 ((c - 97 + 65 : Nat) : Int) : Value) = .int .u8 ((c : Int) - 97 + 65) := by congr 1; omega
        rw [hfc] at hS
        have hB2 : Below w.heap.size w (W1.setCell ⟨g, 0, none⟩ (.int .u8 ((c : Int) - 97 + 65))) := below_row hB1 hgw _ _
        have hcv3 := conv_back hS (by intro y hy; rcases List.mem_or_eq_of_mem_set hy with h | rfl; exact hl8 y h; omega) (by rw [List.length_set, HN.out]) cap
        have hs1 := hsz (m.set 0 (c - 97 + 65)) (by rw [List.length_set, HN.out])
        have HG := Lib.hid (show gd true (sb (strOf (m.set 0 (c - 97 + 65)))) = true from by
          rw [HST.out _ (by intro y hy; rcases List.mem_or_eq_of_mem_set hy with h | rfl; exact hl8 y h; omega)]
          have hG := HGD.out
          rcases m with _ | ⟨d, r⟩
          · cases hc
          · have hc : some d = some c := hc
            injection hc with hc
            subst hc
            exact gd_set hG (by omega) (by omega) (by omega) (by omega))
        clear hS hfc hR1 hcv2 hg hsz hc
        go_enter Try.func59, Try.ntmps59
        go_wp2
        go_ret
        exact ⟨_, ⟨HG.out, hs1⟩, rfl, hB2⟩
      · have hs0 := hsz m HN.out
        have HG := Lib.hid (show gd true (sb (strOf m)) = true from by rw [HST.out m hl8]; exact HGD.out)
        clear hg hsz
        go_enter Try.func59, Try.ntmps59
        go_wp2
        go_ret
        exact ⟨_, ⟨HG.out, hs0⟩, rfl, hB1⟩
    · have hs0 := hsz m HN.out
      have HG := Lib.hid (show gd true (sb (strOf m)) = true from by rw [HST.out m hl8]; exact HGD.out)
      clear hg hsz
      go_enter Try.func59, Try.ntmps59
      go_wp2
      go_ret
      exact ⟨_, ⟨HG.out, hs0⟩, rfl, hB1⟩

set_option maxHeartbeats 4000000 in
set_option maxRecDepth 100000 in
theorem dressedG (s : ByteArray) (n : Nat) (hn : s.size = n) (hn6 : n ≤ 1000000) (hgd : gd true (sb s) = true) (k : Nat) (hk : k < 12) (w : World) :
    Calls Try.prog 52 #[.string s, .int .i64 (k : Int)] w (SomeG (n + 2) w) := by
  have HC := Lib.hid (capitalG s n hn (by omega) hgd w)
  have HG := Lib.hid hgd
  clear hgd
  have hz1 : ¬ 9223372036854775807 < n + 1 := by omega
  have hz2 : ¬ 9223372036854775807 < 1 + n := by omega
  have hz3 : ¬ 9223372036854775807 < 1 + n + 1 := by omega
  have hc1 : (⟨#[46]⟩ : ByteArray).size = 1 := rfl
  by_cases h6 : k = 6
  · subst h6
    go_enter Try.func52, Try.ntmps52
    go_wp2_with (go_at_call 59; refine HC.out.mono ?_; rintro en w1 ⟨t, ⟨hgt, ht⟩, rfl, hB⟩)
    go_ret
    exact ⟨t, ⟨hgt, by omega⟩, rfl, hB⟩
  by_cases h7 : k = 7
  · subst h7
    go_enter Try.func52, Try.ntmps52
    go_wp2
    go_ret
    exact ⟨_, ⟨by rw [sb_app]; exact gd_app (by decide) HG.out, by rw [size2, hn]; show n + 1 ≤ n + 2; omega⟩, rfl, Below.refl _ _⟩
  by_cases h8 : k = 8
  · subst h8
    go_enter Try.func52, Try.ntmps52
    go_wp2
    go_ret
    exact ⟨_, ⟨by rw [sb_app]; exact gd_app (by decide) HG.out, by rw [size2, hn]; show n + 1 ≤ n + 2; omega⟩, rfl, Below.refl _ _⟩
  by_cases h9 : k = 9
  · subst h9
    go_enter Try.func52, Try.ntmps52
    go_wp2_with (go_at_call 59; refine HC.out.mono ?_; rintro en w1 ⟨t, ⟨hgt, ht⟩, rfl, hB⟩; have hz4 : ¬ 9223372036854775807 < t.size + 1 := by omega)
    go_ret
    exact ⟨_, ⟨by rw [sb_app]; exact gd_app (by decide) hgt, by rw [size2]; show t.size + 1 ≤ n + 2; omega⟩, rfl, hB⟩
  by_cases h10 : k = 10
  · subst h10
    go_enter Try.func52, Try.ntmps52
    go_wp2
    go_ret
    exact ⟨_, ⟨by rw [sb_app, sb_app]; exact gd_app (by decide) (gd_app HG.out (by decide)), by rw [size2, size2, hn]; show 1 + n + 1 ≤ n + 2; omega⟩, rfl, Below.refl _ _⟩
  by_cases h11 : k = 11
  · subst h11
    go_enter Try.func52, Try.ntmps52
    go_wp2
    go_ret
    exact ⟨_, ⟨by rw [sb_app]; exact gd_app (by decide) HG.out, by rw [size2, hn]; show n + 1 ≤ n + 2; omega⟩, rfl, Below.refl _ _⟩
  have b6 : ((k : Int) == 6) = false := by simp; omega
  have b7 : ((k : Int) == 7) = false := by simp; omega
  have b8 : ((k : Int) == 8) = false := by simp; omega
  have b9 : ((k : Int) == 9) = false := by simp; omega
  have b10 : ((k : Int) == 10) = false := by simp; omega
  have b11 : ((k : Int) == 11) = false := by simp; omega
  clear h6 h7 h8 h9 h10 h11
  go_enter Try.func52, Try.ntmps52
  go_wp2
  go_ret
  exact ⟨s, ⟨HG.out, by omega⟩, rfl, Below.refl _ _⟩

/-- So many short texts lie there. -/
def WordsG (b : Bool) (w : World) (g n : Nat) : Prop := ∀ m < n, ∃ x : ByteArray, (gd b (sb x) = true ∧ x.size ≤ 7) ∧ w.cell? ⟨g, m, none⟩ = some (.string x)
theorem WordsG.keep {b : Bool} {w w' : World} {g n : Nat} (h : WordsG b w g n) (hg : g < w.heap.size) (hb : Below w.heap.size w w') : WordsG b w' g n := fun m hm => by
  obtain ⟨x, hx, hc⟩ := h m hm
  exact ⟨x, hx, (hb.cell hg).trans hc⟩
theorem words_newG (b : Bool) (w : World) (cs : List Value) (n : Nat) (hn : cs.length = n) (h : ∀ v ∈ cs, ∃ x : ByteArray, (gd b (sb x) = true ∧ x.size ≤ 7) ∧ v = .string x) : WordsG b (w.alloc (.cells cs.toArray 9)) w.heap.size n := fun m hm => by
  subst hn
  obtain ⟨x, hx, he⟩ := h _ (List.getElem_mem hm)
  exact ⟨x, hx, (blk_new w 9 cs.toArray).cell (by rw [show (cs.toArray).toList = cs from rfl, List.getElem?_eq_getElem hm, he])⟩
/-- What Text has made so far. -/
def TextG (w : World) (g : Nat) (v6 v7 : Value) (wr : World) : Prop := ∃ (s : ByteArray) (i : Nat), v6 = .string s ∧ v7 = .int .i64 (i : Int) ∧ i ≤ 9 ∧ s.size ≤ 10 * i ∧ (0 < i → gd true (sb s) = true) ∧ WordsG true wr g 9 ∧ g < wr.heap.size ∧ Below w.heap.size w wr

set_option maxHeartbeats 4000000 in
set_option maxRecDepth 100000 in
theorem textG (A : Option Addr) (l : List Int) (n c : Nat) (hl : l.length = n) (k : Nat) (hk : k ≤ 1000) (w : World) (hA : IntsAt w A l) :
    Calls Try.prog 41 #[.slice A n c, .int .i64 (k : Int)] w (SomeG 90 w) := by
  have HA := Lib.hid (fun (i k : Nat) (hk : 0 < k) (hk2 : k ≤ 1000000) (V : World) (h : IntsAt V A l) => at_any A l n c hl i k hk hk2 V h)
  have HD := Lib.hid (fun (x : ByteArray) (hgx : gd true (sb x) = true) (hx : x.size ≤ 7) (j : Nat) (hj : j < 12) (V : World) => dressedG x _ rfl (by omega) hgx j hj V)
  have hW := words_newG true w [.string ⟨#[97, 110, 110, 97]⟩, .string ⟨#[114, 111, 109, 101]⟩, .string ⟨#[107, 105, 110, 103]⟩, .string ⟨#[116, 104, 101]⟩, .string ⟨#[111, 102]⟩, .string ⟨#[111, 100, 101]⟩, .string ⟨#[108, 121, 114, 101]⟩, .string ⟨#[120]⟩, .string ⟨#[49, 50]⟩] 9 rfl (by
    intro v hv
    simp only [List.mem_cons, List.not_mem_nil, or_false] at hv
    rcases hv with rfl | rfl | rfl | rfl | rfl | rfl | rfl | rfl | rfl <;> exact ⟨_, ⟨by decide, by decide⟩, rfl⟩)
  clear hl
  go_enter Try.func41, Try.ntmps41
  go_wp2
  go_loopw [6, 7] (fun v6 v7 wr => TextG w w.heap.size v6 v7 wr) (fun _ v _ => 10 - (intOf v).toNat)
  case atStart => exact ⟨_, 0, rfl, rfl, by omega, Nat.le_refl _, fun h => (by omega), hW, (blk_new w 9 _).lt, (Below.refl _ _).alloc (Nat.le_refl _) _⟩
  case round =>
    clear hW
    obtain ⟨s, i, rfl, rfl, hi, hs, hgs, hW, hg, hB⟩ := hrel
    have HGS := Lib.hid hgs
    clear hgs
    have hA1 := hA.keep hB
    generalize hgg : w.heap.size = g at hW hg
    clear hgg
    go_upto_region 5 with (go_at_call 50; refine (HA.out k 9 (by omega) (by omega) wr hA1).mono ?_; rintro en w1 ⟨r, hr, rfl, rfl⟩)
    rotate_left
    · rename_i hlt
      have hip : 0 < i := by omega
      go_ret
      exact ⟨s, ⟨HGS.out hip, by omega⟩, rfl, hB⟩
    · rename_i hlt
      have hi9 : i < 9 := by omega
      go_upto_region 7 with (go_at_call 50; refine (HA.out (k + 1 + i) 108 (by omega) (by omega) w1 hA1).mono ?_; rintro en w1 ⟨r1, hr1, rfl, rfl⟩)
      obtain ⟨m, hm⟩ : ∃ m, r1 % 9 = m := ⟨_, rfl⟩
      obtain ⟨d, hd⟩ : ∃ d, r1 / 9 = d := ⟨_, rfl⟩
      have hq1 : (r1 : Int) % 9 = (m : Int) := by omega
      have hq2 : (r1 : Int) / 9 = (d : Int) := by omega
      have hm9 : m < 9 := by omega
      obtain ⟨x, ⟨hgx, hx⟩, hcx⟩ := hW m hm9
      have hd12 : d < 12 := by omega
      have hWW := Lib.hid hW
      clear hW hm hd hr1 hr
      go_upto_region 8 with (go_at_call 52; refine (HD.out x hgx hx d hd12 w1).mono ?_; rintro en w2 ⟨t, ⟨hgt, ht⟩, rfl, hB2⟩)
      have hz1 : ¬ 9223372036854775807 < s.size + 1 := by omega
      have hz2 : ¬ 9223372036854775807 < s.size + 1 + t.size := by omega
      have hz3 : ¬ 9223372036854775807 < s.size + t.size := by omega
      rcases Nat.eq_zero_or_pos i with h0 | h0
      · subst h0
        have HS0 := Lib.hid (show sb s = [] from List.eq_nil_of_length_eq_zero (by rw [sb_length]; omega))
        go_wp2
        exact ⟨⟨_, 1, rfl, rfl, by omega, by rw [size2]; omega, fun _ => (by rw [sb_app, HS0.out]; exact hgt), hWW.out.keep hg hB2, Nat.lt_of_lt_of_le hg hB2.size, link hB hB2⟩, by simp [intOf]⟩
      · have hi0 : (0 : Int) < (i : Int) := by omega
        go_wp2
        exact ⟨⟨_, i + 1, rfl, by go_num, by omega, by rw [size2, size2]; show s.size + 1 + t.size ≤ _; omega, fun _ => (by rw [sb_app, sb_app, List.append_assoc]; exact gd_join (HGS.out h0) hgt), hWW.out.keep hg hB2, Nat.lt_of_lt_of_le hg hB2.size, link hB hB2⟩, by simp [intOf]; omega⟩

/-- What Marked has made so far. -/
def MarkG (w : World) (v5 v6 : Value) (wr : World) : Prop := ∃ (s : ByteArray) (i : Nat), v5 = .string s ∧ v6 = .int .i64 (i : Int) ∧ i ≤ 3 ∧ s.size ≤ 90 + 7 * i ∧ gd true (sb s) = true ∧ Below w.heap.size w wr

set_option maxHeartbeats 4000000 in
set_option maxRecDepth 100000 in
theorem markedG (A : Option Addr) (l : List Int) (n c : Nat) (hl : l.length = n) (k : Nat) (hk : k ≤ 900) (w : World) (hA : IntsAt w A l) :
    Calls Try.prog 37 #[.slice A n c, .int .i64 (k : Int)] w (SomeG 120 w) := by
  have HA := Lib.hid (fun (i k : Nat) (hk : 0 < k) (hk2 : k ≤ 1000000) (V : World) (h : IntsAt V A l) => at_any A l n c hl i k hk hk2 V h)
  have HT := Lib.hid (textG A l n c hl k (by omega) w hA)
  have HW := Lib.hid (fun V : World => words_newG false V [.string ⟨#[32, 64]⟩, .string ⟨#[32, 40, 64, 41]⟩, .string ⟨#[32, 115, 101, 101, 32, 64, 46]⟩, .string ⟨#[32, 64, 44, 32, 64]⟩] 4 rfl (by
    intro v hv
    simp only [List.mem_cons, List.not_mem_nil, or_false] at hv
    rcases hv with rfl | rfl | rfl | rfl <;> exact ⟨_, ⟨by decide, by decide⟩, rfl⟩))
  clear hl
  go_enter Try.func37, Try.ntmps37
  go_wp2_with (go_at_call 41; refine HT.out.mono ?_; rintro en w1 ⟨s0, ⟨hg0, hs0⟩, rfl, hB0⟩)
  go_loopw [5, 6] (fun v5 v6 wr => MarkG w v5 v6 wr) (fun _ v _ => 10 - (intOf v).toNat)
  case atStart => exact ⟨_, 0, rfl, rfl, by omega, by omega, hg0, hB0⟩
  case round =>
    obtain ⟨s, i, rfl, rfl, hi, hs, hgs, hB⟩ := hrel
    have HGS := Lib.hid hgs
    clear hgs
    have hA1 := hA.keep hB
    go_upto_region 5 with (go_at_call 50; refine (HA.out (k + 10) 3 (by omega) (by omega) wr hA1).mono ?_; rintro en w1 ⟨r, hr, rfl, rfl⟩)
    rotate_left
    · go_ret
      exact ⟨s, ⟨HGS.out, by omega⟩, rfl, hB⟩
    · rename_i hlt
      have hi9 : i < 3 := by omega
      obtain ⟨W, hWd⟩ : ∃ W, w1.alloc (.cells #[.string ⟨#[32, 64]⟩, .string ⟨#[32, 40, 64, 41]⟩, .string ⟨#[32, 115, 101, 101, 32, 64, 46]⟩, .string ⟨#[32, 64, 44, 32, 64]⟩] 9) = W := ⟨_, rfl⟩
      have hWW := HW.out w1
      change WordsG false (w1.alloc (.cells #[.string ⟨#[32, 64]⟩, .string ⟨#[32, 40, 64, 41]⟩, .string ⟨#[32, 115, 101, 101, 32, 64, 46]⟩, .string ⟨#[32, 64, 44, 32, 64]⟩] 9)) _ _ at hWW
      have hB1 : Below w1.heap.size w1 W := by rw [← hWd]; exact (Below.refl _ _).alloc (Nat.le_refl _) _
      rw [hWd] at hWW
      have hA2 := hA1.keep hB1
      have HWd := Lib.hid hWd
      clear hWd
      go_wp2_with (go_at_call 50; first | rw [HWd.out] | skip; refine (HA.out (k + 11 + i) 4 (by omega) (by omega) W hA2).mono ?_; rintro en w2 ⟨m, hm, rfl, hw2⟩; rw [hw2]; obtain ⟨x, ⟨hgx, hx⟩, hcx⟩ := hWW m hm; have hz1 : ¬ 9223372036854775807 < s.size + x.size := by omega)
      exact ⟨⟨_, i + 1, rfl, by go_num, by omega, by rw [size2]; omega, by rw [sb_app]; exact gd_tail hgx HGS.out, link hB hB1⟩, by simp [intOf]; omega⟩

end Go.Proofs.Ytehkgpefmjfifaa
