/-
  The reference's Text, Marked and Wild: some text of a bounded length.
-/
import Derived.Test.YtehkgpefmjfifaaGa
namespace Go.Proofs.Ytehkgpefmjfifaa
open Go.RowKit
set_option linter.unusedVariables false
set_option linter.unusedSimpArgs false

/-- So many short texts lie there. -/
def WordsAt (w : World) (g n : Nat) : Prop := ∀ m < n, ∃ x : ByteArray, x.size ≤ 7 ∧ w.cell? ⟨g, m, none⟩ = some (.string x)
theorem WordsAt.keep {w w' : World} {g n : Nat} (h : WordsAt w g n) (hg : g < w.heap.size) (hb : Below w.heap.size w w') : WordsAt w' g n := fun m hm => by
  obtain ⟨x, hx, hc⟩ := h m hm
  exact ⟨x, hx, (hb.cell hg).trans hc⟩
theorem words_new (w : World) (cs : List Value) (n : Nat) (hn : cs.length = n) (h : ∀ v ∈ cs, ∃ x : ByteArray, x.size ≤ 7 ∧ v = .string x) : WordsAt (w.alloc (.cells cs.toArray 9)) w.heap.size n := fun m hm => by
  subst hn
  obtain ⟨x, hx, he⟩ := h _ (List.getElem_mem hm)
  exact ⟨x, hx, (blk_new w 9 cs.toArray).cell (by rw [show (cs.toArray).toList = cs from rfl, List.getElem?_eq_getElem hm, he])⟩
/-- What Text has made so far. -/
def TextRel (w : World) (g : Nat) (v6 v7 : Value) (wr : World) : Prop := ∃ (s : ByteArray) (i : Nat), v6 = .string s ∧ v7 = .int .i64 (i : Int) ∧ i ≤ 9 ∧ s.size ≤ 10 * i ∧ WordsAt wr g 9 ∧ g < wr.heap.size ∧ Below w.heap.size w wr

set_option maxHeartbeats 4000000 in
set_option maxRecDepth 100000 in
theorem text_any (A : Option Addr) (l : List Int) (n c : Nat) (hl : l.length = n) (k : Nat) (hk : k ≤ 1000) (w : World) (hA : IntsAt w A l) :
    Calls Try.prog 41 #[.slice A n c, .int .i64 (k : Int)] w (Some 90 w) := by
  have HA := Lib.hid (fun (i k : Nat) (hk : 0 < k) (hk2 : k ≤ 1000000) (V : World) (h : IntsAt V A l) => at_any A l n c hl i k hk hk2 V h)
  have HD := Lib.hid (fun (x : ByteArray) (hx : x.size ≤ 7) (j : Nat) (hj : j < 12) (V : World) => dressed_any x _ rfl (by omega) j hj V)
  have hW := words_new w [.string ⟨#[97, 110, 110, 97]⟩, .string ⟨#[114, 111, 109, 101]⟩, .string ⟨#[107, 105, 110, 103]⟩, .string ⟨#[116, 104, 101]⟩, .string ⟨#[111, 102]⟩, .string ⟨#[111, 100, 101]⟩, .string ⟨#[108, 121, 114, 101]⟩, .string ⟨#[120]⟩, .string ⟨#[49, 50]⟩] 9 rfl (by
    intro v hv
    simp only [List.mem_cons, List.not_mem_nil, or_false] at hv
    rcases hv with rfl | rfl | rfl | rfl | rfl | rfl | rfl | rfl | rfl <;> exact ⟨_, by decide, rfl⟩)
  clear hl
  go_enter Try.func41, Try.ntmps41
  go_wp2
  go_loopw [6, 7] (fun v6 v7 wr => TextRel w w.heap.size v6 v7 wr) (fun _ v _ => 10 - (intOf v).toNat)
  case atStart => exact ⟨_, 0, rfl, rfl, by omega, Nat.le_refl _, hW, (blk_new w 9 _).lt, (Below.refl _ _).alloc (Nat.le_refl _) _⟩
  case round =>
    clear hW
    obtain ⟨s, i, rfl, rfl, hi, hs, hW, hg, hB⟩ := hrel
    have hA1 := hA.keep hB
    generalize hgg : w.heap.size = g at hW hg
    clear hgg
    go_upto_region 5 with (go_at_call 50; refine (HA.out k 9 (by omega) (by omega) wr hA1).mono ?_; rintro en w1 ⟨r, hr, rfl, rfl⟩)
    rotate_left
    · go_ret
      exact ⟨s, by omega, rfl, hB⟩
    · rename_i hlt
      have hi9 : i < 9 := by omega
      go_upto_region 7 with (go_at_call 50; refine (HA.out (k + 1 + i) 108 (by omega) (by omega) w1 hA1).mono ?_; rintro en w1 ⟨r1, hr1, rfl, rfl⟩)
      obtain ⟨m, hm⟩ : ∃ m, r1 % 9 = m := ⟨_, rfl⟩
      obtain ⟨d, hd⟩ : ∃ d, r1 / 9 = d := ⟨_, rfl⟩
      have hq1 : (r1 : Int) % 9 = (m : Int) := by omega
      have hq2 : (r1 : Int) / 9 = (d : Int) := by omega
      have hm9 : m < 9 := by omega
      obtain ⟨x, hx, hcx⟩ := hW m hm9
      have hd12 : d < 12 := by omega
      have hWW := Lib.hid hW
      clear hW hm hd hr1 hr
      go_upto_region 8 with (go_at_call 52; refine (HD.out x hx d hd12 w1).mono ?_; rintro en w2 ⟨t, ht, rfl, hB2⟩)
      have hz1 : ¬ 9223372036854775807 < s.size + 1 := by omega
      have hz2 : ¬ 9223372036854775807 < s.size + 1 + t.size := by omega
      have hz3 : ¬ 9223372036854775807 < s.size + t.size := by omega
      rcases Nat.eq_zero_or_pos i with h0 | h0
      · subst h0
        go_wp2
        exact ⟨⟨_, 1, rfl, rfl, by omega, by rw [size2]; omega, hWW.out.keep hg hB2, Nat.lt_of_lt_of_le hg hB2.size, link hB hB2⟩, by simp [intOf]⟩
      · have hi0 : (0 : Int) < (i : Int) := by omega
        go_wp2
        exact ⟨⟨_, i + 1, rfl, by go_num, by omega, by rw [size2, size2]; show s.size + 1 + t.size ≤ _; omega, hWW.out.keep hg hB2, Nat.lt_of_lt_of_le hg hB2.size, link hB hB2⟩, by simp [intOf]; omega⟩

/-- What Marked has made so far. -/
def MarkRel (w : World) (v5 v6 : Value) (wr : World) : Prop := ∃ (s : ByteArray) (i : Nat), v5 = .string s ∧ v6 = .int .i64 (i : Int) ∧ i ≤ 3 ∧ s.size ≤ 90 + 7 * i ∧ Below w.heap.size w wr

set_option maxHeartbeats 4000000 in
set_option maxRecDepth 100000 in
theorem marked_any (A : Option Addr) (l : List Int) (n c : Nat) (hl : l.length = n) (k : Nat) (hk : k ≤ 900) (w : World) (hA : IntsAt w A l) :
    Calls Try.prog 37 #[.slice A n c, .int .i64 (k : Int)] w (Some 120 w) := by
  have HA := Lib.hid (fun (i k : Nat) (hk : 0 < k) (hk2 : k ≤ 1000000) (V : World) (h : IntsAt V A l) => at_any A l n c hl i k hk hk2 V h)
  have HT := Lib.hid (text_any A l n c hl k (by omega) w hA)
  have HW := Lib.hid (fun V : World => words_new V [.string ⟨#[32, 64]⟩, .string ⟨#[32, 40, 64, 41]⟩, .string ⟨#[32, 115, 101, 101, 32, 64, 46]⟩, .string ⟨#[32, 64, 44, 32, 64]⟩] 4 rfl (by
    intro v hv
    simp only [List.mem_cons, List.not_mem_nil, or_false] at hv
    rcases hv with rfl | rfl | rfl | rfl <;> exact ⟨_, by decide, rfl⟩))
  clear hl
  go_enter Try.func37, Try.ntmps37
  go_wp2_with (go_at_call 41; refine HT.out.mono ?_; rintro en w1 ⟨s0, hs0, rfl, hB0⟩)
  go_loopw [5, 6] (fun v5 v6 wr => MarkRel w v5 v6 wr) (fun _ v _ => 10 - (intOf v).toNat)
  case atStart => exact ⟨_, 0, rfl, rfl, by omega, by omega, hB0⟩
  case round =>
    obtain ⟨s, i, rfl, rfl, hi, hs, hB⟩ := hrel
    have hA1 := hA.keep hB
    go_upto_region 5 with (go_at_call 50; refine (HA.out (k + 10) 3 (by omega) (by omega) wr hA1).mono ?_; rintro en w1 ⟨r, hr, rfl, rfl⟩)
    rotate_left
    · go_ret
      exact ⟨s, by omega, rfl, hB⟩
    · rename_i hlt
      have hi9 : i < 3 := by omega
      obtain ⟨W, hWd⟩ : ∃ W, w1.alloc (.cells #[.string ⟨#[32, 64]⟩, .string ⟨#[32, 40, 64, 41]⟩, .string ⟨#[32, 115, 101, 101, 32, 64, 46]⟩, .string ⟨#[32, 64, 44, 32, 64]⟩] 9) = W := ⟨_, rfl⟩
      have hWW := HW.out w1
      change WordsAt (w1.alloc (.cells #[.string ⟨#[32, 64]⟩, .string ⟨#[32, 40, 64, 41]⟩, .string ⟨#[32, 115, 101, 101, 32, 64, 46]⟩, .string ⟨#[32, 64, 44, 32, 64]⟩] 9)) _ _ at hWW
      have hB1 : Below w1.heap.size w1 W := by rw [← hWd]; exact (Below.refl _ _).alloc (Nat.le_refl _) _
      rw [hWd] at hWW
      have hA2 := hA1.keep hB1
      have HWd := Lib.hid hWd
      clear hWd
      go_wp2_with (go_at_call 50; first | rw [HWd.out] | skip; refine (HA.out (k + 11 + i) 4 (by omega) (by omega) W hA2).mono ?_; rintro en w2 ⟨m, hm, rfl, hw2⟩; rw [hw2]; obtain ⟨x, hx, hcx⟩ := hWW m hm; have hz1 : ¬ 9223372036854775807 < s.size + x.size := by omega)
      exact ⟨⟨_, i + 1, rfl, by go_num, by omega, by rw [size2]; omega, link hB hB1⟩, by simp [intOf]; omega⟩

/-- What Wild has made so far. -/
def WildRel (w : World) (v4 v5 : Value) (wr : World) : Prop := ∃ (s : ByteArray) (i : Nat), v4 = .string s ∧ v5 = .int .i64 (i : Int) ∧ i ≤ 40 ∧ s.size ≤ i ∧ wr = w
theorem lit_size (l : List UInt8) (n : Nat) (h : l.length = n) : (⟨l.toArray⟩ : ByteArray).size = n := by subst h; rfl

set_option maxHeartbeats 4000000 in
set_option maxRecDepth 100000 in
theorem wild_any (A : Option Addr) (l : List Int) (n c : Nat) (hl : l.length = n) (w : World) (hA : IntsAt w A l) :
    Calls Try.prog 42 #[.slice A n c] w (Some 40 w) := by
  have HR := Lib.hid (fun (x : Int) (h1 : -9223372036854775808 ≤ x) (h2 : x ≤ 9223372036854775807) (V : World) => around_any x h1 h2 22 (by omega) (by omega) V)
  obtain ⟨L, hL⟩ : ∃ L : ByteArray, (⟨#[32, 32, 97, 90, 107, 48, 57, 64, 46, 44, 63, 33, 45, 32, 0, 31, 127, 195, 169, 126, 98, 98]⟩ : ByteArray) = L := ⟨_, rfl⟩
  have hL2 : L.size = 22 := by rw [← hL]; rfl
  go_enter Try.func42, Try.ntmps42
  rw [hL]
  clear hL
  go_wp2
  go_loopw [4, 5] (fun v4 v5 wr => WildRel w v4 v5 wr) (fun _ v _ => 41 - (intOf v).toNat)
  case atStart => exact ⟨_, 0, rfl, rfl, by omega, Nat.le_refl _, rfl⟩
  case round =>
    obtain ⟨s, i, rfl, rfl, hi, hs, rfl⟩ := hrel
    by_cases hn : i < n
    · by_cases h40 : i < 40
      · obtain ⟨x, hx⟩ : ∃ x, l[i]? = some x := ⟨_, List.getElem?_eq_getElem (by omega)⟩
        obtain ⟨ad, rfl, hlt, hc⟩ := hA (by intro h; rw [h] at hx; simp at hx)
        obtain ⟨hcx, hx1, hx2⟩ := hc i x hx
        have HX := Lib.hid (HR.out x hx1 hx2 wr)
        clear hc hx hx1 hx2 hA hl
        go_wp2_with (go_at_call 19; refine HX.out.mono ?_; rintro en w2 ⟨m, hm, rfl, hw2⟩; rw [hw2]; have hm1 : m ≤ m + 1 := (by omega); have hm2 : m + 1 ≤ 22 := (by omega); have he : (L.extract m (m + 1)).size = 1 := (by rw [ByteArray.size_extract]; omega); have hz : ¬ 9223372036854775807 < s.size + 1 := (by omega))
        exact ⟨⟨_, i + 1, rfl, by go_num, by omega, by rw [size2, ByteArray.size_extract]; omega, rfl⟩, by simp [intOf]; omega⟩
      · go_wp2
        go_ret
        exact ⟨s, by omega, rfl, Below.refl _ _⟩
    · go_wp2
      go_ret
      exact ⟨s, by omega, rfl, Below.refl _ _⟩
end Go.Proofs.Ytehkgpefmjfifaa
