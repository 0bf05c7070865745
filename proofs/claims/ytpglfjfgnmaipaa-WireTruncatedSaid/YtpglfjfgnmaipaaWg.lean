/-
  wire.GetInt returns, for every byte slice, what the encoding says, and changes nothing.
-/
import Derived.Test.YtpglfjfgnmaipaaWi
namespace Go.Proofs.Ytpglfjfgnmaipaa
open Go.RowKit

/-- The results of GetInt, as a value. -/
def three (r : Int × Nat × Nat) : Value := .tuple #[.int .i64 r.1, .int .i64 r.2.1, .int .i64 r.2.2]

theorem has_lt {w : World} {A : Option Addr} {l : List Nat} (h : Has w A l) {d : Nat} (hd : d ∈ l) : d < 256 := h.2 d hd
theorem take_snoc' {α : Type} (t : List α) (j : Nat) (h : j < t.length) : t.take (j + 1) = t.take j ++ [t[j]] := by
  rw [List.take_add_one, List.getElem?_eq_getElem h]; rfl
theorem val_lt7 (t : List Nat) (j : Nat) (hj : j ≤ 7) (h : ∀ d ∈ t, d < 256) : val (t.take j) < 72057594037927936 := by
  have := val_lt (t.take j) (fun d hd => h d (List.mem_of_mem_take hd))
  have e : (t.take j).length ≤ 7 := by simp; omega
  have : val (t.take j) < 256 ^ 7 := Nat.lt_of_lt_of_le this (Nat.pow_le_pow_right (by omega) e)
  simpa using this
theorem cell_add2 (w : World) (ad : Addr) (j : Nat) : w.cell? ((ad.add 1).add j) = w.cell? ⟨ad.block, ad.off + 1 + j, none⟩ := by
  unfold Addr.add
  by_cases h : j = 0 <;> simp [h]
theorem or_step (m y : Nat) (hm : m < 72057594037927936) (hy : y < 256) : bits BinOp.or IntKind.u64 (IntKind.u64.wrap ((m : Int) * 256)) (y : Int) = ((256 * m + y : Nat) : Int) := by
  have h1 : IntKind.u64.wrap ((m : Int) * 256) = ((m * 256 : Nat) : Int) := by simp [IntKind.wrap, IntKind.signed, IntKind.bits]; omega
  rw [h1, u64_or_nat _ _ (by omega) (by omega)]
  have := Nat.shiftLeft_add_eq_or_of_lt (i := 8) (b := y) (by simpa using hy) m
  rw [Nat.shiftLeft_eq] at this
  have e : m * 256 ||| y = 256 * m + y := by rw [show m * 256 = m * 2 ^ 8 from rfl, ← this]; omega
  rw [e]

theorem map_lt (t : List Nat) : ∀ d ∈ t.map (255 - ·), d < 256 := by
  intro d hd
  obtain ⟨y, _, rfl⟩ := List.mem_map.1 hd
  omega
theorem val_lt7n (t : List Nat) (j : Nat) (hj : j ≤ 7) : nv t j < 72057594037927936 := by
  unfold nv
  rw [List.map_take]
  exact val_lt7 _ j hj (map_lt t)
theorem not_wrap (m : Nat) (hm : m < 9223372036854775808) : wrap64 (bits BinOp.xor IntKind.u64 IntKind.u64.max (m : Int)) = -1 - (m : Int) := by
  have hM : IntKind.u64.max = ((18446744073709551615 : Nat) : Int) := by decide
  have h1 : (BitVec.allOnes 64 ^^^ BitVec.ofNat 64 m).toNat = 18446744073709551615 - m := by
    rw [BitVec.allOnes_xor, BitVec.toNat_not, BitVec.toNat_ofNat]
    omega
  rw [BitVec.toNat_xor, BitVec.toNat_allOnes, BitVec.toNat_ofNat, Nat.mod_eq_of_lt (by omega)] at h1
  rw [hM, bits_xor_u64_nat _ _ (by omega) (by omega)]
  have h2 : 18446744073709551615 ^^^ m = 18446744073709551615 - m := h1
  rw [h2]
  unfold wrap64
  omega
theorem or_stepn (m y : Nat) (hm : m < 72057594037927936) (hy : y < 256) : bits BinOp.or IntKind.u64 (IntKind.u64.wrap ((m : Int) * 256)) (255 - (y : Int)) = ((256 * m + (255 - y) : Nat) : Int) := by
  rw [← or_step m (255 - y) hm (by omega), Int.ofNat_sub (by omega)]
  rfl

set_option maxHeartbeats 400000 in
set_option maxRecDepth 100000 in
theorem getInt_nil (A : Option Addr) (c : Nat) (w : World) :
    Calls Try.prog 24 #[.slice A 0 c] w fun e w' => e = .returned (three (dec [])) ∧ w = w' := by
  go_enter Try.func24, Try.ntmps24
  go_wp2
  go_ret3
  exact ⟨rfl, rfl⟩

set_option maxHeartbeats 400000 in
set_option maxRecDepth 100000 in
theorem getInt_pos (ad : Addr) (x : Nat) (t : List Nat) (n c : Nat) (w : World) (hn : n = t.length + 1) (hc : n ≤ c) (hc2 : n ≤ 140737488355328)
    (h0 : w.cell? ad = some (.int .u8 x)) (hr : Has w (some (ad.add 1)) t) (hp : 128 ≤ x) (hh : x < 256) :
    Calls Try.prog 24 #[.slice (some ad) n c] w fun e w' => e = .returned (three (dec (x :: t))) ∧ w = w' := by
  subst hn
  have hlt : decide ((x : Int) - 128 < 0) = false := by simp; omega
  by_cases hk : 8 < x - 128
  · go_enter Try.func24, Try.ntmps24
    go_wp2
    go_ret3
    exact ⟨by simp [three, dec, hp, hk], rfl⟩
  · by_cases hk2 : t.length < x - 128
    · go_enter Try.func24, Try.ntmps24
      go_wp2
      go_ret3
      exact ⟨by simp [three, dec, hp, hk, hk2], rfl⟩
    · go_enter Try.func24, Try.ntmps24
      go_wp2
      all_goals
        go_loop [7, 34] (fun m i => ∃ j : Nat, j ≤ x - 128 ∧ i = .int .i64 j ∧ m = .int .u64 (val (t.take j))) (fun _ i => x - 128 - (intOf i).toNat)
        case atStart => exact ⟨0, by omega, rfl, rfl⟩
        case round =>
          obtain ⟨j, hj, rfl, rfl⟩ := hrel
          by_cases hjk : j < x - 128
          · first
              | (exfalso; omega)
              | (have hjt : j < t.length := by omega
                 obtain ⟨hy, ad', e, hbb, hcell⟩ := hr.at j t[j] (List.getElem?_eq_getElem hjt)
                 obtain rfl : ad.add 1 = ad' := by simpa using e
                 have hts := take_snoc' t j hjt
                 have hvs : val (t.take (j + 1)) = 256 * val (t.take j) + t[j] := by rw [hts, val_snoc]
                 have HV := Lib.hid hvs
                 have hv1 := val_lt7 t j (by omega) (fun d hd => has_lt hr hd)
                 generalize t[j] = y at hy hcell HV
                 have hc0 : w.cell? ⟨ad.block, ad.off + 1 + j, none⟩ = some (.int .u8 y) := by rw [← cell_add2]; exact hcell
                 have hx0 : bits BinOp.xor IntKind.u8 (y : Int) 0 = y := xor_zero _ (by omega) (by omega)
                 have ho := or_step _ y hv1 hy
                 clear hts hvs hcell e hv1
                 go_wp2
                 exact ⟨⟨j + 1, by omega, by simp, by rw [HV.out]; simp⟩, by simp [intOf]; omega⟩)
          · obtain rfl : x - 128 = j := by omega
            have hmb : val (t.take (x - 128)) < big := by
              have := val_lt (t.take (x - 128)) (fun d hd => has_lt hr (List.mem_of_mem_take hd))
              have e : (t.take (x - 128)).length ≤ 8 := by simp; omega
              rw [big_pow]
              exact Nat.lt_of_lt_of_le this (Nat.pow_le_pow_right (by omega) e)
            go_wp2_with fail
            refine (size_any _ hmb _).mono ?_
            rintro e w1 ⟨rfl, rfl⟩
            by_cases hs : sz (val (t.take (x - 128))) = x - 128
            · have hsb : ((sz (val (t.take (x - 128))) : Int) != (x : Int) - 128) = false := by simp; omega
              by_cases hm : 9223372036854775808 ≤ val (t.take (x - 128))
              · have hmd : decide ((9223372036854775807 : Int) < (val (t.take (x - 128)) : Int)) = true := by simp; omega
                go_wp2
                go_ret3
                exact ⟨by simp [three, dec, hp, hk, hk2, hs, hm], rfl⟩
              · have hmd : decide ((9223372036854775807 : Int) < (val (t.take (x - 128)) : Int)) = false := by simp; omega
                go_wp2
                go_ret3
                exact ⟨by simp [three, dec, hp, hk, hk2, hs, hm]; omega, rfl⟩
            · have hsb : ((sz (val (t.take (x - 128))) : Int) != (x : Int) - 128) = true := by simp; omega
              go_wp2
              go_ret3
              exact ⟨by simp [three, dec, hp, hk, hk2, hs], rfl⟩

set_option maxHeartbeats 400000 in
set_option maxRecDepth 100000 in
theorem getInt_neg (ad : Addr) (x : Nat) (t : List Nat) (n c : Nat) (w : World) (hn : n = t.length + 1) (hc : n ≤ c) (hc2 : n ≤ 140737488355328)
    (h0 : w.cell? ad = some (.int .u8 x)) (hr : Has w (some (ad.add 1)) t) (hp : ¬ 128 ≤ x) :
    Calls Try.prog 24 #[.slice (some ad) n c] w fun e w' => e = .returned (three (dec (x :: t))) ∧ w = w' := by
  subst hn
  have hlt : decide ((x : Int) - 128 < 0) = true := by simp; omega
  by_cases hk : 8 < 127 - x
  · go_enter Try.func24, Try.ntmps24
    go_wp2
    go_ret3
    exact ⟨by simp [three, dec, hp, hk], rfl⟩
  · by_cases hk2 : t.length < 127 - x
    · go_enter Try.func24, Try.ntmps24
      go_wp2
      go_ret3
      exact ⟨by simp [three, dec, hp, hk, hk2], rfl⟩
    · go_enter Try.func24, Try.ntmps24
      go_wp2
      all_goals
        go_loop [7, 34] (fun m i => ∃ j : Nat, j ≤ 127 - x ∧ i = .int .i64 j ∧ m = .int .u64 (nv t j)) (fun _ i => 127 - x - (intOf i).toNat)
        case atStart => exact ⟨0, by omega, rfl, rfl⟩
        case round =>
          obtain ⟨j, hj, rfl, rfl⟩ := hrel
          by_cases hjk : j < 127 - x
          · first
              | (exfalso; omega)
              | (have hjt : j < t.length := by omega
                 obtain ⟨hy, ad', e, hbb, hcell⟩ := hr.at j t[j] (List.getElem?_eq_getElem hjt)
                 obtain rfl : ad.add 1 = ad' := by simpa using e
                 have hts := take_snoc' t j hjt
                 have hvs : nv t (j + 1) = 256 * nv t j + (255 - t[j]) := by unfold nv; rw [hts, List.map_append, List.map_cons, List.map_nil, val_snoc]
                 have HV := Lib.hid hvs
                 have hv1 := val_lt7n t j (by omega)
                 generalize t[j] = y at hy hcell HV
                 have hc0 : w.cell? ⟨ad.block, ad.off + 1 + j, none⟩ = some (.int .u8 y) := by rw [← cell_add2]; exact hcell
                 have hx0 : bits BinOp.xor IntKind.u8 (y : Int) 255 = 255 - y := xor_ones _ (by omega) (by omega)
                 have ho := or_stepn _ y hv1 hy
                 clear hts hvs hcell e hv1
                 go_wp2
                 exact ⟨⟨j + 1, by omega, by simp, by rw [HV.out]; simp⟩, by simp [intOf]; omega⟩)
          · obtain rfl : 127 - x = j := by omega
            have hmb : nv t (127 - x) < big := by
              unfold nv
              have := val_lt ((t.take (127 - x)).map (255 - ·)) (map_lt _)
              have e : ((t.take (127 - x)).map (255 - ·)).length ≤ 8 := by simp; omega
              rw [big_pow]
              exact Nat.lt_of_lt_of_le this (Nat.pow_le_pow_right (by omega) e)
            go_wp2_with fail
            refine (size_any _ hmb _).mono ?_
            rintro e w1 ⟨rfl, rfl⟩
            by_cases hs : sz (nv t (127 - x)) = 127 - x
            · have hsb : ((sz (nv t (127 - x)) : Int) != -1 - ((x : Int) - 128)) = false := by simp; omega
              by_cases hm : 9223372036854775808 ≤ nv t (127 - x)
              · have hmd : decide ((9223372036854775807 : Int) < (nv t (127 - x) : Int)) = true := by simp; omega
                go_wp2
                go_ret3
                exact ⟨by simp [three, dec, hp, hk, hk2, hs, hm], rfl⟩
              · have hmd : decide ((9223372036854775807 : Int) < (nv t (127 - x) : Int)) = false := by simp; omega
                go_wp2
                go_ret3
                have hw := not_wrap _ (by omega : nv t (127 - x) < 9223372036854775808)
                exact ⟨by simp [three, dec, hp, hk, hk2, hs, hm, hw]; omega, rfl⟩
            · have hsb : ((sz (nv t (127 - x)) : Int) != -1 - ((x : Int) - 128)) = true := by simp; omega
              go_wp2
              go_ret3
              exact ⟨by simp [three, dec, hp, hk, hk2, hs], rfl⟩

theorem has_tail {w : World} {ad : Addr} {x : Nat} {t : List Nat} (h : Has w (some ad) (x :: t)) : Has w (some (ad.add 1)) t := by
  refine ⟨fun k u hk => ?_, fun d hd => h.2 d (by simp [hd])⟩
  obtain ⟨ad', e, hb, hc⟩ := h.1 (k + 1) u (by simpa [bytesV] using hk)
  obtain rfl : ad = ad' := by simpa using e
  refine ⟨ad.add 1, rfl, by simpa [Addr.add] using hb, ?_⟩
  rw [cell_add2, ← hc]
  have e2 : ad.off + (k + 1) = ad.off + 1 + k := by omega
  simp [Addr.add, e2]

/-- GetInt of a slice that has the bytes l. -/
theorem getInt_any (A : Option Addr) (l : List Nat) (n c : Nat) (w : World) (hn : n = l.length) (hc : n ≤ c) (hc2 : n ≤ 140737488355328) (hr : Has w A l) :
    Calls Try.prog 24 #[.slice A n c] w fun e w' => e = .returned (three (dec l)) ∧ w = w' := by
  match l, hn, hr with
  | [], hn, _ =>
    subst hn
    exact getInt_nil A c w
  | x :: t, hn, hr =>
    obtain ⟨hx, ad, rfl, hb, h0⟩ := hr.at 0 x rfl
    have h0' : w.cell? ad = some (.int .u8 x) := h0
    by_cases hp : 128 ≤ x
    · exact getInt_pos ad x t n c w (by simpa using hn) hc hc2 h0' (has_tail hr) hp hx
    · exact getInt_neg ad x t n c w (by simpa using hn) hc hc2 h0' (has_tail hr) hp

end Go.Proofs.Ytpglfjfgnmaipaa
