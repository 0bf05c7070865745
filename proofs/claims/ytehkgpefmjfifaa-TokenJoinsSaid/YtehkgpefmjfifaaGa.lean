/-
  The reference's small helpers and its generators of texts: some text of a bounded length.
-/
import Derived.Test.YtehkgpefmjfifaaKp
namespace Go.Proofs.Ytehkgpefmjfifaa
open Go.RowKit
set_option linter.unusedVariables false
set_option linter.unusedSimpArgs false

set_option maxHeartbeats 1000000 in
set_option maxRecDepth 100000 in
theorem around_any (n : Int) (h1 : -9223372036854775808 ≤ n) (h2 : n ≤ 9223372036854775807) (k : Nat) (hk : 0 < k) (hk2 : k ≤ 1000000) (w : World) :
    Calls Try.prog 19 #[.int .i64 n, .int .i64 (k : Int)] w fun e w' => ∃ r : Nat, r < k ∧ e = .returned (.int .i64 (r : Int)) ∧ w' = w := by
  have hp : ∀ x : Int, 0 ≤ x → ∃ r : Nat, r < k ∧ x.tmod (k : Int) = (r : Int) := by
    intro x hx
    obtain ⟨m, rfl⟩ := Int.eq_ofNat_of_zero_le hx
    exact ⟨m % k, Nat.mod_lt _ hk, by rw [Int.tmod_eq_emod_of_nonneg hx]; simp⟩
  go_enter Try.func19, Try.ntmps19
  by_cases h0 : n < 0
  · obtain ⟨r, hr, he⟩ := hp (-(n + 1)) (by omega)
    go_wp2
    go_ret
    refine ⟨r, hr, ?_, rfl⟩
    rw [← he]
    simp
  · obtain ⟨r, hr, he⟩ := hp n (by omega)
    go_wp2
    go_ret
    refine ⟨r, hr, ?_, rfl⟩
    rw [← he, Int.tmod_eq_emod_of_nonneg (by omega)]
    rfl

/-- Integers in memory. -/
def IntsAt (w : World) (A : Option Addr) (l : List Int) : Prop := l ≠ [] → ∃ ad : Addr, A = some ad ∧ ad.block < w.heap.size ∧ ∀ (i : Nat) (x : Int), l[i]? = some x → w.cell? (ad.add i) = some (.int .i64 x) ∧ -9223372036854775808 ≤ x ∧ x ≤ 9223372036854775807
theorem add_block (ad : Addr) (i : Nat) : (ad.add i).block = ad.block := by unfold Addr.add; split <;> rfl
theorem IntsAt.keep {w w' : World} {A : Option Addr} {l : List Int} (h : IntsAt w A l) (hb : Below w.heap.size w w') : IntsAt w' A l := fun hn => by
  obtain ⟨ad, e, hlt, hc⟩ := h hn
  exact ⟨ad, e, Nat.lt_of_lt_of_le hlt hb.size, fun i x hx => ⟨(hb.cell (by rw [add_block]; exact hlt)).trans (hc i x hx).1, (hc i x hx).2⟩⟩

set_option maxHeartbeats 1000000 in
set_option maxRecDepth 100000 in
theorem at_any (A : Option Addr) (l : List Int) (n c : Nat) (hl : l.length = n) (i : Nat) (k : Nat) (hk : 0 < k) (hk2 : k ≤ 1000000) (w : World) (hA : IntsAt w A l) :
    Calls Try.prog 50 #[.slice A n c, .int .i64 (i : Int), .int .i64 (k : Int)] w fun e w' => ∃ r : Nat, r < k ∧ e = .returned (.int .i64 (r : Int)) ∧ w' = w := by
  by_cases hi : i < n
  · obtain ⟨x, hx⟩ : ∃ x, l[i]? = some x := ⟨_, List.getElem?_eq_getElem (by omega)⟩
    obtain ⟨ad, rfl, hlt, hc⟩ := hA (by intro h; rw [h] at hx; simp at hx)
    obtain ⟨h0, h1, h2⟩ := hc i x hx
    have HR := Lib.hid (fun (V : World) => around_any x h1 h2 k hk hk2 V)
    clear hx hc hA hl h1 h2
    go_enter Try.func50, Try.ntmps50
    go_wp2_with (go_at_call 19; refine (HR.out _).mono ?_; rintro e w1 ⟨r, hr, rfl, hw1⟩; rw [hw1])
    go_ret
    exact ⟨r, hr, rfl, rfl⟩
  · go_enter Try.func50, Try.ntmps50
    go_wp2
    go_ret
    exact ⟨0, hk, rfl, rfl⟩


/-- A call that answers with some text of at most so many bytes. -/
def Some (n : Nat) (w : World) (e : Ending) (w' : World) : Prop := ∃ s : ByteArray, s.size ≤ n ∧ e = .returned (.string s) ∧ Below w.heap.size w w'

set_option maxHeartbeats 2000000 in
set_option maxRecDepth 100000 in
theorem capital_any (s : ByteArray) (n : Nat) (hn : s.size = n) (hn6 : n ≤ 1000000000) (w : World) :
    Calls Try.prog 59 #[.string s] w (Some n w) := by
  obtain ⟨W1, cap, hcv, hB1, hR1⟩ := conv_str w s
  rw [hn] at hcv
  have HN := Lib.hid (show (sb s).length = n from by rw [sb_length, hn])
  obtain ⟨g, hg⟩ : ∃ g, w.heap.size = g := ⟨_, rfl⟩
  rw [hg] at hcv hR1
  have hgw : w.heap.size ≤ g := by omega
  have hl8 := sb_lt s
  have hsz : ∀ l : List Nat, l.length = n → (strOf l).size ≤ n := fun l h => by simp [ByteArray.size, strOf, h]
  generalize sb s = m at HN hR1 hl8
  have hcv2 := conv_back hR1 hl8 HN.out cap
  rcases Nat.eq_zero_or_pos n with h0 | h0
  · subst h0
    have hs0 := hsz m HN.out
    clear hg hsz
    go_enter Try.func59, Try.ntmps59
    go_wp2
    go_ret
    exact ⟨_, hs0, rfl, hB1⟩
  · obtain ⟨c, hc⟩ : ∃ c, m[0]? = some c := ⟨_, List.getElem?_eq_getElem (by rw [HN.out]; exact h0)⟩
    have hcl := hl8 c (List.mem_of_getElem? hc)
    have c1 := hR1.cell hc
    have f1 := hR1.free (j := 0) (by rw [HN.out]; exact h0)
    by_cases h97 : 97 ≤ c
    · by_cases h122 : c ≤ 122
      · have hS := hR1.set (j := 0) (by rw [HN.out]; exact h0) (c - 97 + 65)
        have hfc : (.int .u8 ((c - 97 + 65 : Nat) : Int) : Value) = .int .u8 ((c : Int) - 97 + 65) := by congr 1; omega
        rw [hfc] at hS
        have hB2 : Below w.heap.size w (W1.setCell ⟨g, 0, none⟩ (.int .u8 ((c : Int) - 97 + 65))) := below_row hB1 hgw _ _
        have hcv3 := conv_back hS (by intro y hy; rcases List.mem_or_eq_of_mem_set hy with h | rfl; exact hl8 y h; omega) (by rw [List.length_set, HN.out]) cap
        have hs1 := hsz (m.set 0 (c - 97 + 65)) (by rw [List.length_set, HN.out])
        clear hS hfc hR1 hcv2 hg hsz hc
        go_enter Try.func59, Try.ntmps59
        go_wp2
        go_ret
        exact ⟨_, hs1, rfl, hB2⟩
      · have hs0 := hsz m HN.out
        clear hg hsz
        go_enter Try.func59, Try.ntmps59
        go_wp2
        go_ret
        exact ⟨_, hs0, rfl, hB1⟩
    · have hs0 := hsz m HN.out
      clear hg hsz
      go_enter Try.func59, Try.ntmps59
      go_wp2
      go_ret
      exact ⟨_, hs0, rfl, hB1⟩

theorem size2 (a b : ByteArray) : (a ++ b).size = a.size + b.size := ByteArray.size_append

set_option maxHeartbeats 4000000 in
set_option maxRecDepth 100000 in
theorem dressed_any (s : ByteArray) (n : Nat) (hn : s.size = n) (hn6 : n ≤ 1000000) (k : Nat) (hk : k < 12) (w : World) :
    Calls Try.prog 52 #[.string s, .int .i64 (k : Int)] w (Some (n + 2) w) := by
  have HC := Lib.hid (capital_any s n hn (by omega) w)
  have hz1 : ¬ 9223372036854775807 < n + 1 := by omega
  have hz2 : ¬ 9223372036854775807 < 1 + n := by omega
  have hz3 : ¬ 9223372036854775807 < 1 + n + 1 := by omega
  have hc1 : (⟨#[46]⟩ : ByteArray).size = 1 := rfl
  by_cases h6 : k = 6
  · subst h6
    go_enter Try.func52, Try.ntmps52
    go_wp2_with (go_at_call 59; refine HC.out.mono ?_; rintro en w1 ⟨t, ht, rfl, hB⟩)
    go_ret
    exact ⟨t, by omega, rfl, hB⟩
  by_cases h7 : k = 7
  · subst h7
    go_enter Try.func52, Try.ntmps52
    go_wp2
    go_ret
    exact ⟨_, by rw [size2, hn]; show n + 1 ≤ n + 2; omega, rfl, Below.refl _ _⟩
  by_cases h8 : k = 8
  · subst h8
    go_enter Try.func52, Try.ntmps52
    go_wp2
    go_ret
    exact ⟨_, by rw [size2, hn]; show n + 1 ≤ n + 2; omega, rfl, Below.refl _ _⟩
  by_cases h9 : k = 9
  · subst h9
    go_enter Try.func52, Try.ntmps52
    go_wp2_with (go_at_call 59; refine HC.out.mono ?_; rintro en w1 ⟨t, ht, rfl, hB⟩; have hz4 : ¬ 9223372036854775807 < t.size + 1 := by omega)
    go_ret
    exact ⟨_, by rw [size2]; show t.size + 1 ≤ n + 2; omega, rfl, hB⟩
  by_cases h10 : k = 10
  · subst h10
    go_enter Try.func52, Try.ntmps52
    go_wp2
    go_ret
    exact ⟨_, by rw [size2, size2, hn]; show 1 + n + 1 ≤ n + 2; omega, rfl, Below.refl _ _⟩
  by_cases h11 : k = 11
  · subst h11
    go_enter Try.func52, Try.ntmps52
    go_wp2
    go_ret
    exact ⟨_, by rw [size2, hn]; show n + 1 ≤ n + 2; omega, rfl, Below.refl _ _⟩
  have b6 : ((k : Int) == 6) = false := by simp; omega
  have b7 : ((k : Int) == 7) = false := by simp; omega
  have b8 : ((k : Int) == 8) = false := by simp; omega
  have b9 : ((k : Int) == 9) = false := by simp; omega
  have b10 : ((k : Int) == 10) = false := by simp; omega
  have b11 : ((k : Int) == 11) = false := by simp; omega
  clear h6 h7 h8 h9 h10 h11
  go_enter Try.func52, Try.ntmps52
  go_wp2
  go_ret
  exact ⟨s, by omega, rfl, Below.refl _ _⟩

/-- A text that grows by doubling. -/
def DblRel (w : World) (v : Value) (wr : World) : Prop := ∃ t : ByteArray, v = .string t ∧ 1 ≤ t.size ∧ t.size ≤ 100000 ∧ wr = w
/-- The length of a text value. -/
def lenOf : Value → Nat
  | .string s => s.size
  | _ => 0

set_option maxHeartbeats 4000000 in
set_option maxRecDepth 100000 in
theorem repeated_any (s : ByteArray) (hs1 : 1 ≤ s.size) (hs2 : s.size ≤ 50000) (n : Nat) (hn : n ≤ 50000) (w : World) :
    Calls Try.prog 51 #[.string s, .int .i64 (n : Int)] w (Some n w) := by
  go_enter Try.func51, Try.ntmps51
  go_wp2
  go_loopw [5] (fun v wr => DblRel w v wr) (fun v _ => n - lenOf v)
  case atStart => exact ⟨s, rfl, hs1, by omega, rfl⟩
  case round =>
    obtain ⟨t, rfl, h1, h2, rfl⟩ := hrel
    obtain ⟨m, hm⟩ : ∃ m, t.size = m := ⟨_, rfl⟩
    rcases Nat.lt_or_ge m n with hlt | hge
    · have hz : ¬ 9223372036854775807 < m + m := by omega
      go_wp2
      exact ⟨⟨t ++ t, rfl, by rw [size2]; omega, by rw [size2]; omega, rfl⟩, by show n - (t ++ t).size < n - t.size; rw [size2]; omega⟩
    · have hlt : ¬ m < n := by omega
      go_wp2
      go_ret
      exact ⟨_, by rw [ByteArray.size_extract]; omega, rfl, Below.refl _ _⟩
end Go.Proofs.Ytehkgpefmjfifaa
