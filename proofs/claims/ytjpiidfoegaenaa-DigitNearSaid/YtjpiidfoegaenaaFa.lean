/-
  Text of the reference: a string of at most twelve characters of the alphabet.
-/
import Derived.Test.YtjpiidfoegaenaaEk
import Derived.Test.YtjpiidfoegaenaaEh
namespace Go.Proofs.Ytjpiidfoegaenaa
open Go Go.RowKit
set_option linter.unusedVariables false
set_option linter.unusedSimpArgs false

theorem sb_app (s t : ByteArray) : sb (s ++ t) = sb s ++ sb t := by
  unfold sb
  rw [← List.map_append]
  congr 1
  first | done | simp [ByteArray.data_append]
theorem alph_one : ∀ k, k < 31 → sb (alphB.extract k (k + 1)) = [alphN k] ∧ okS [alphN k] = true := by decide +kernel
theorem okS_app (a b : List Nat) : okS (a ++ b) = (okS a && okS b) := by unfold okS; rw [List.all_append]
def TxtR (w : World) (e : Ending) (w' : World) : Prop := ∃ s : ByteArray, e = .returned (.string s) ∧ s.size ≤ 12 ∧ okS (sb s) = true ∧ w = w'
def TeRel (n : Nat) (w : World) (s i : Value) (W : World) : Prop := ∃ (k : Nat) (t : ByteArray), k ≤ n ∧ k ≤ 12 ∧ i = .int .i64 (k : Int) ∧ s = .string t ∧ t.size = k ∧ okS (sb t) = true ∧ w = W
set_option maxHeartbeats 4000000 in
set_option maxRecDepth 100000 in
theorem text_any (l : List Int) (A : Option Addr) (n c : Nat) (hl : l.length = n) (hn6 : n ≤ 9223372036854775807) (w : World) (hA : IntsAt w A l) :
    Calls Try.prog 23 #[.slice A n c] w (TxtR w) := by
  have HN := Lib.hid hl
  go_enter Try.func23, Try.ntmps23
  go_wp2_with (go_at_call 37; refine (alphabet_any _).mono ?_; rintro _ _ ⟨rfl, rfl⟩)
  go_loopw [4, 5] (fun s i W => TeRel n w s i W) (fun _ i _ => n - (intOf i).toNat)
  case atStart => exact ⟨0, ByteArray.empty, by omega, by omega, rfl, rfl, rfl, rfl, rfl⟩
  case round =>
    obtain ⟨k, t, hk, hk8, rfl, rfl, hs, hok, rfl⟩ := hrel
    by_cases hgo : k < n ∧ k < 12
    · obtain ⟨hkn, hk8'⟩ := hgo
      have hz1 : (k : Int) < (n : Int) := by omega
      have hz2 : (k : Int) < 12 := by omega
      obtain ⟨y, hy⟩ : ∃ y, l[k]? = some y := ⟨_, List.getElem?_eq_getElem (by rw [HN.out]; exact hkn)⟩
      obtain ⟨ad, rfl, hb, hc⟩ := hA (by intro e; rw [e] at hy; simp at hy)
      obtain ⟨c0, b1, b2⟩ := hc k y hy
      have CY := Lib.hid (fun V => arnd y b1 b2 31 (by omega) (by omega) V)
      have HS := Lib.hid hs
      have HOK := Lib.hid hok
      have hts : t.size ≤ 12 := by omega
      clear hy hc hs hok
      go_upto_region 7 with (go_at_call 21; refine (CY.out _).mono ?_; rintro _ _ ⟨z, hz, rfl, rfl⟩)
      obtain ⟨Z1, hZ1⟩ : ∃ Z1, z + 1 = Z1 := ⟨_, rfl⟩
      have hZ1z : (z : Int) + 1 = (Z1 : Int) := by omega
      have hzn : ¬ (z : Int) < 0 := by omega
      have hzz : (z : Int) ≤ (Z1 : Int) := by omega
      have hz31 : (Z1 : Int) ≤ 31 := by omega
      have hAs : Z1 ≤ alphB.size := by show Z1 ≤ 31; omega
      have hcat : ¬ 9223372036854775807 < t.size + (Z1 - z) := by omega
      have HO := Lib.hid (alph_one z hz)
      rw [hZ1] at HO
      have HZ := Lib.hid hZ1
      clear hZ1
      go_wp2
      exact ⟨⟨k + 1, t ++ alphB.extract z Z1, by omega, by omega, by go_num, rfl, by
        have := congrArg List.length HO.out.1
        rw [ByteArray.size_append, HS.out]
        rw [sb_length] at this
        rw [this]; rfl, by rw [sb_app, okS_app, HOK.out, HO.out.1, HO.out.2]; rfl, rfl⟩, by simp [intOf]; omega⟩
    · have HS := Lib.hid hs
      have HOK := Lib.hid hok
      rcases Nat.lt_or_ge k n with h1 | h1
      · have hz1 : (k : Int) < (n : Int) := by omega
        have hz2 : ¬ (k : Int) < 12 := by omega
        clear hgo hs hok
        go_wp2
        go_ret
        exact ⟨t, rfl, by rw [HS.out]; exact hk8, HOK.out, rfl⟩
      · have hz1 : ¬ (k : Int) < (n : Int) := by omega
        clear hgo hs hok
        go_wp2
        go_ret
        exact ⟨t, rfl, by rw [HS.out]; exact hk8, HOK.out, rfl⟩
end Go.Proofs.Ytjpiidfoegaenaa
