/-
  passimref02.padKey returns the key of a code, combined with a byte.
-/
import Derived.Test.YtgmlphfoadeboaaDoorQu
import Derived.Deep.Cut
namespace Go.Proofs.YtgmlphfoadeboaaDoor
open Go.RowKit
set_option linter.unusedVariables false
set_option linter.unusedSimpArgs false

theorem own_nil_at {w wx : World} (h : Below w.heap.size w wx) : Own w wx (.slice none 0 0) [] := by
  refine ⟨?_, h⟩
  have := World.ownsRow_nil wx w.heap.size 5 1
  simpa [bytesV] using this
theorem padX_get (k : List Nat) (x i : Nat) (hk : k.length ≤ 64) (h : i < 64) : (xorL (padK k) x)[i]? = some (k.getD i 0 ^^^ x) := by
  unfold xorL padK
  rw [List.getElem?_map]
  by_cases hi : i < k.length
  · rw [List.getElem?_append_left hi, List.getElem?_eq_getElem hi]
    simp [hi]
  · rw [List.getElem?_append_right (by omega), List.getElem?_replicate, if_pos (by omega)]
    simp [hi]
theorem xor_lt8 (y x : Nat) (hy : y < 256) (hx : x < 256) : y ^^^ x < 256 := xor_lt hy hx

set_option maxHeartbeats 1000000 in
set_option maxRecDepth 100000 in
theorem padKey_any (key : ByteArray) (hk : key.size ≤ 1048576) (x : Nat) (hx : x < 256) (w : World) (hR : GlobR w) :
    Calls Tryd.prog 31 #[.string key, .int .u8 (x : Int)] w (Made w (xorL (padK (keyOf64 (sb key))) x)) := by
  go_enter Tryd.func31, Tryd.ntmps31
  go_upto_if 12 with (fail)
  go_cut [5] from 10 (fun s5 wx => ∃ K : ByteArray, s5 = .string K ∧ Hid (sb K = keyOf64 (sb key)) ∧ K.size ≤ 64 ∧ Below w.heap.size w wx)
  case first =>
    by_cases h64 : 64 < key.size
    · have hd : decide ((64 : Int) < (key.size : Int)) = true := by simp; omega
      obtain ⟨cap, wb, hcb, hBb, hHb⟩ := to_bytes_has key w
      go_wp2_with fail
      refine (rsum_any _ (sb key) key.size cap _ (sb_length key).symm (by rw [sb_length]; omega) hHb (hR.keep hBb)).mono ?_
      rintro e w1 ⟨rfl, hB1⟩
      have hdl := sha_length (sb key)
      have hdb := sha_byte (sb key)
      have hko : keyOf64 (sb key) = sha (sb key) := by unfold keyOf64; rw [if_pos (by rw [sb_length]; exact h64)]
      have HKO := Lib.hid hko
      clear hko
      generalize sha (sb key) = D at hdl hdb HKO ⊢
      go_wp2_with fail
      refine (bytes32_any D hdl hdb _).mono ?_
      rintro e w2 ⟨rfl, hB2⟩
      have hB := link hBb (link hB1 hB2)
      have hsD : (strOf D).size ≤ 64 := by rw [strOf_size, hdl]; omega
      have hsb : sb (strOf D) = keyOf64 (sb key) := by rw [sb_strOf _ hdb, HKO.out]
      have HSB := Lib.hid hsb
      clear hsb hcb
      generalize strOf D = KK at hsD HSB ⊢
      go_wp2
      go_meet
      case rel => exact ⟨KK, rfl, HSB, hsD, hB⟩
    · have hd : decide ((64 : Int) < (key.size : Int)) = false := by simp only [decide_eq_false_iff_not]; omega
      go_wp2
      go_meet
      case rel => exact ⟨key, rfl, Lib.hid (by unfold keyOf64; rw [if_neg (by rw [sb_length]; exact h64)]), by omega, Below.refl _ _⟩
  case rest =>
    obtain ⟨K, rfl, HK, hK, hBx⟩ := hcut
    have hP : (xorL (padK (keyOf64 (sb key))) x).length = 64 := by rw [xorL_length, padK_length _ (keyOf64_length _)]
    have hget : ∀ i, i < 64 → (xorL (padK (keyOf64 (sb key))) x)[i]? = some ((keyOf64 (sb key)).getD i 0 ^^^ x) := fun i hi => padX_get _ x i (keyOf64_length _) hi
    obtain ⟨R, hRx⟩ : ∃ R, xorL (padK (keyOf64 (sb key))) x = R := ⟨_, rfl⟩
    rw [hRx] at hP hget
    have HRX := Lib.hid hRx
    clear hRx
    rw [← HK.out] at hget
    have HG := Lib.hid hget
    have HPL := Lib.hid hP
    clear hget HK hP
    have hO0 := own_nil_at hBx
    go_wp2
    go_loopw [6, 7] (fun v i wr => ∃ k : Nat, k ≤ 64 ∧ i = .int .i64 k ∧ Own w wr v (R.take k)) (fun _ i _ => 64 - (intOf i).toNat)
    case atStart => exact ⟨0, by omega, rfl, hO0⟩
    case round =>
      clear hO0 hBx
      obtain ⟨k, hk, rfl, hO⟩ := hrel
      by_cases h64 : k < 64
      · have hlen : (R.take k).length ≤ 70368744177664 := by rw [List.length_take]; omega
        have hst : R.take k ++ [(sb K).getD k 0 ^^^ x] = R.take (k + 1) := by rw [List.take_add_one, HG.out k h64]; rfl
        obtain ⟨r, hr⟩ : ∃ r, R.take (k + 1) = r := ⟨_, rfl⟩
        rw [hr] at hst
        have HRR := Lib.hid hr
        clear hr
        by_cases hlt : k < K.size
        · obtain ⟨y, hy⟩ : ∃ y, K[k].toNat = y := ⟨_, rfl⟩
          have hy256 : y < 256 := by rw [← hy]; exact K[k].toNat_lt
          have hyg : (sb K).getD k 0 = y := by rw [← hy]; simp [sb, hlt]; rfl
          rw [hyg] at hst
          have HST := Lib.hid hst
          have hxr := xor_u8 y x hy256 hx
          have hlk : (k : Int) < (K.size : Int) := by omega
          clear hst hyg
          go_wp2_with (at_builtin; refine push_byteR (W := w) rfl _ _ rfl (R.take k) (y ^^^ x) r HST.out _ rfl hO _ rfl ?hx hlen ?_)
          case hx => rfl
          intro v5 w5 hO5
          clear hO hxr hy hlk
          go_wp2
          go_roundw
          case rel => exact ⟨k + 1, by omega, by go_num, by rw [HRR.out]; exact hO5⟩
          case measure => simp [intOf]; omega
        · have hyg : (sb K).getD k 0 = 0 := by rw [List.getD_eq_getElem?_getD, List.getElem?_eq_none (by rw [sb_length]; omega)]; rfl
          rw [hyg, Nat.zero_xor] at hst
          have HST := Lib.hid hst
          have hxr := xor_u8 0 x (by omega) hx
          rw [Nat.zero_xor] at hxr
          have hxr2 : bits BinOp.xor IntKind.u8 0 (x : Int) = (x : Int) := hxr
          have hlk : ¬ (k : Int) < (K.size : Int) := by omega
          clear hst hyg hxr
          go_wp2_with (at_builtin; refine push_byteR (W := w) rfl _ _ rfl (R.take k) x r HST.out _ rfl hO _ rfl ?hx hlen ?_)
          case hx => rfl
          intro v5 w5 hO5
          clear hO hxr2 hlk
          go_wp2
          go_roundw
          case rel => exact ⟨k + 1, by omega, by go_num, by rw [HRR.out]; exact hO5⟩
          case measure => simp [intOf]; omega
      · obtain rfl : k = 64 := by omega
        rw [List.take_of_length_le (by rw [HPL.out]; omega)] at hO
        go_wp2
        go_ret
        rw [HRX.out]
        exact made_of (by intro h; have := HPL.out; rw [h] at this; cases this) hO

end Go.Proofs.YtgmlphfoadeboaaDoor
