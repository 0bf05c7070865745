/-
  At and Scheme of the reference.
-/
import Derived.Test.YtjpiidfoegaenaaEj
namespace Go.Proofs.Ytjpiidfoegaenaa
open Go Go.RowKit
set_option linter.unusedVariables false
set_option linter.unusedSimpArgs false

theorem arnd (n : Int) (h1 : -9223372036854775808 ≤ n) (h2 : n ≤ 9223372036854775807) (k : Nat) (hk : 0 < k) (hk2 : k ≤ 1000000) (w : World) :
    Calls Try.prog 21 #[.int .i64 n, .int .i64 (k : Int)] w fun e w' => ∃ r : Nat, r < k ∧ e = .returned (.int .i64 (r : Int)) ∧ w = w' :=
  (around_any n h1 h2 k hk hk2 w).mono fun e w' ⟨r, a, b, c⟩ => ⟨r, a, b, c.symm⟩
theorem at_any (l : List Int) (A : Option Addr) (n c : Nat) (hl : l.length = n) (hn6 : n ≤ 9223372036854775807) (i k : Nat) (hi6 : i ≤ 1000000) (hk : 0 < k) (hk2 : k ≤ 1000000) (w : World) (hA : IntsAt w A l) :
    Calls Try.prog 10 #[.slice A n c, .int .i64 (i : Int), .int .i64 (k : Int)] w fun e w' => ∃ r : Nat, r < k ∧ e = .returned (.int .i64 (r : Int)) ∧ w = w' := by
  have hi0 : ¬ (i : Int) < 0 := by omega
  go_enter Try.func10, Try.ntmps10
  rcases Nat.lt_or_ge i n with hlt | hge
  · have hltz : ¬ (n : Int) ≤ (i : Int) := by omega
    have hltz2 : (i : Int) < (n : Int) := by omega
    obtain ⟨x, hx⟩ : ∃ x, l[i]? = some x := ⟨_, List.getElem?_eq_getElem (by rw [hl]; exact hlt)⟩
    obtain ⟨ad, rfl, hb, hc⟩ := hA (by intro e; rw [e] at hx; simp at hx)
    obtain ⟨c0, b1, b2⟩ := hc i x hx
    have CA := Lib.hid (arnd x b1 b2 k hk hk2 w)
    clear hx hc hl
    go_wp2_with (go_at_call 21; refine CA.out.mono ?_; rintro _ _ ⟨r, hr, rfl, rfl⟩)
    go_ret
    exact ⟨r, hr, rfl, rfl⟩
  · have hltz : (n : Int) ≤ (i : Int) := by omega
    clear hl
    go_wp2
    go_ret
    exact ⟨0, hk, rfl, rfl⟩
/-- A proper scheme of at most eight weights. -/
def SchR (w : World) (e : Ending) (w' : World) : Prop := ∃ (W : List Int) (m k : Nat) (q : Option Addr) (c : Nat), e = .returned (.tuple #[.slice q k c, .int .i64 (m : Int)]) ∧ W.length = k ∧ k ≤ 8 ∧ 2 ≤ m ∧ m ≤ 1024 ∧ belowT W (m : Int) = true ∧ At intE w' q W ∧ Below w.heap.size w w'
def mods : List Nat := [10, 11, 31, 2, 12, 97, 30, 1024]
def ScRel (B : Nat) (w : World) (n : Nat) (m : Nat) (v i : Value) (W : World) : Prop := ∃ (k : Nat) (L : List Int), k ≤ n ∧ k ≤ 8 ∧ i = .int .i64 (k : Int) ∧ L.length = k ∧ belowT L (m : Int) = true ∧ OwnR intE W B v L ∧ Below w.heap.size w W
set_option maxHeartbeats 2000000 in
set_option maxRecDepth 100000 in
theorem scheme_any (l : List Int) (A : Option Addr) (n c : Nat) (hl : l.length = n) (hn6 : n ≤ 9223372036854775807) (x : Int) (hx1 : -9223372036854775808 ≤ x) (hx2 : x ≤ 9223372036854775807) (w : World) (hA : IntsAt w A l) :
    Calls Try.prog 9 #[.slice A n c, .int .i64 x] w (SchR w) := by
  have X0 : Below w.heap.size w (w.alloc (.cells #[.int .i64 10, .int .i64 11, .int .i64 31, .int .i64 2, .int .i64 12, .int .i64 97, .int .i64 30, .int .i64 1024] 3)) := (Below.refl _ _).alloc (Nat.le_refl _) _
  have N0 := blk_new w 3 #[.int .i64 10, .int .i64 11, .int .i64 31, .int .i64 2, .int .i64 12, .int .i64 97, .int .i64 30, .int .i64 1024]
  have HM : Hid (∀ r < 8, ∃ m : Nat, 2 ≤ m ∧ m ≤ 1024 ∧ (w.alloc (.cells #[.int .i64 10, .int .i64 11, .int .i64 31, .int .i64 2, .int .i64 12, .int .i64 97, .int .i64 30, .int .i64 1024] 3)).cell? ⟨w.heap.size, r, none⟩ = some (.int .i64 (m : Int))) := Lib.hid (by
    intro r hr
    have : r = 0 ∨ r = 1 ∨ r = 2 ∨ r = 3 ∨ r = 4 ∨ r = 5 ∨ r = 6 ∨ r = 7 := by omega
    rcases this with rfl | rfl | rfl | rfl | rfl | rfl | rfl | rfl
    · exact ⟨10, by omega, by omega, N0.cell (j := 0) rfl⟩
    · exact ⟨11, by omega, by omega, N0.cell (j := 1) rfl⟩
    · exact ⟨31, by omega, by omega, N0.cell (j := 2) rfl⟩
    · exact ⟨2, by omega, by omega, N0.cell (j := 3) rfl⟩
    · exact ⟨12, by omega, by omega, N0.cell (j := 4) rfl⟩
    · exact ⟨97, by omega, by omega, N0.cell (j := 5) rfl⟩
    · exact ⟨30, by omega, by omega, N0.cell (j := 6) rfl⟩
    · exact ⟨1024, by omega, by omega, N0.cell (j := 7) rfl⟩)
  have CA := Lib.hid (fun V => arnd x hx1 hx2 8 (by omega) (by omega) V)
  have hA0 := hA.keep X0
  have HN := Lib.hid hl
  clear hl N0 hA
  go_enter Try.func9, Try.ntmps9
  go_upto_region 2 with (go_at_call 21; refine (CA.out _).mono ?_; rintro _ _ ⟨r, hr, rfl, rfl⟩; obtain ⟨m, hm1, hm2, cm⟩ := HM.out r hr; have hrz : (r : Int) < 8 := by omega)
  generalize w.alloc (.cells #[.int .i64 10, .int .i64 11, .int .i64 31, .int .i64 2, .int .i64 12, .int .i64 97, .int .i64 30, .int .i64 1024] 3) = w1 at *
  clear CA HM cm
  go_wp2
  go_loopw [7, 8] (fun v i W => ScRel w1.heap.size w1 n m v i W) (fun _ i _ => n - (intOf i).toNat)
  case atStart => exact ⟨0, [], by omega, by omega, rfl, rfl, rfl, OwnR.nil _ _ _, Below.refl _ _⟩
  case round =>
    obtain ⟨k, L, hk, hk8, rfl, hL, hbl, hO, hB⟩ := hrel
    by_cases hgo : k < n ∧ k < 8
    · obtain ⟨hkn, hk8'⟩ := hgo
      have hz1 : (k : Int) < (n : Int) := by omega
      have hz2 : (k : Int) < 8 := by omega
      obtain ⟨y, hy⟩ : ∃ y, l[k]? = some y := ⟨_, List.getElem?_eq_getElem (by rw [HN.out]; exact hkn)⟩
      obtain ⟨ad, rfl, hb, hc⟩ := (hA0.keep hB) (by intro e; rw [e] at hy; simp at hy)
      obtain ⟨c0, b1, b2⟩ := hc k y hy
      have CY := Lib.hid (fun V => arnd y b1 b2 m (by omega) (by omega) V)
      have hle : L.length ≤ 1000000000000 := by omega
      have HBL := Lib.hid hbl
      have HL := Lib.hid hL
      clear hy hc hbl hL
      go_wp2_with (first
        | (go_at_call 21; refine (CY.out _).mono ?_; rintro _ _ ⟨z, hz, rfl, rfl⟩)
        | (at_builtin; refine push_el intE rfl (.tmp 24) (.tmp 31) rfl L (z : Int) _ rfl hO hB.size _ rfl _ rfl hle ?_; intro v6 W6 hO6 hB7 hR6))
      exact ⟨⟨k + 1, L ++ [(z : Int)], by omega, by omega, by go_num, by rw [List.length_append, HL.out]; rfl, belowT_of (fun q hq => by
        rcases List.mem_append.1 hq with h | h
        · exact belowT_mem HBL.out q h
        · rw [List.mem_singleton.1 h]; omega), hO6, hB.trans hB7⟩, by simp [intOf]; omega⟩
    · obtain ⟨q, c', e, _, hAL, _⟩ := hO.form
      rw [hL] at e
      subst e
      have HR := Lib.hid (⟨L, m, k, q, c', rfl, hL, hk8, hm1, hm2, hbl, hAL, link X0 hB⟩ : SchR w (.returned (.tuple #[.slice q k c', .int .i64 (m : Int)])) wr)
      rcases (show ¬ (k < n) ∨ (k < n ∧ k = 8) by omega) with hx | hx
      · have hz1 : ¬ (k : Int) < (n : Int) := by omega
        clear hgo hO hL hbl
        go_wp2
        go_ret2
        exact HR.out
      · have hz1 : (k : Int) < (n : Int) := by omega
        have hz2 : ¬ (k : Int) < 8 := by omega
        clear hgo hO hL hbl hx
        go_wp2
        go_ret2
        exact HR.out
end Go.Proofs.Ytjpiidfoegaenaa
