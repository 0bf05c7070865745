/-
  The specification of hashes by its contracts. Conditions: as each theorem states them; no axiom beyond propext, Classical.choice, Quot.sound.
-/
import Derived.Test.YtfhfmdnimebegaaDoorE1
import Derived.Test.YtfhfmdnimebegaaDoorE0
import Derived.Deep.AppendLies
import Derived.Deep.QuietTactic
import Derived.Deep.RegionLaw
import Derived.Deep.RegionHeld
import Derived.BigQuiet
import Derived.Lib.Strings

/-
  passimref01.Int returns, for every int, a new slice with the bytes of its encoding.
-/
namespace Go.Proofs.YtfhfmdnimebegaaDoor
set_option linter.unusedVariables false
set_option linter.unusedSimpArgs false
open Go.RowKit

/-- The first j digits, the smallest first. -/
def lo (n j : Nat) : List Nat := (List.range j).map (fun i => n / 256 ^ i % 256)
theorem lo_length (n j : Nat) : (lo n j).length = j := by simp [lo]
theorem lo_step (n j : Nat) : lo n (j + 1) = lo n j ++ [n / 256 ^ j % 256] := by simp [lo, List.range_succ]
theorem lo_get (n j i : Nat) (h : i < j) : (lo n j)[i]? = some (n / 256 ^ i % 256) := by simp [lo, h]
theorem lo_lt (n j : Nat) : ∀ d ∈ lo n j, d < 256 := by
  intro d hd
  obtain ⟨i, _, rfl⟩ := List.mem_map.1 hd
  omega

theorem own_cells {w : World} {B : Nat} {t : TypeId} {v : Value} {n : Nat} {xs : List Value} (h : w.ownsRow B t 1 v n xs) (hn : 0 < n) : ∃ g cap, v = .slice (some ⟨g, 0, none⟩) n cap ∧ Cells w (some ⟨g, 0, none⟩) xs := by
  obtain ⟨g, cap, rfl, hb, hlt⟩ := h.form hn
  exact ⟨g, cap, rfl, fun k u hk => ⟨_, rfl, hlt, h.cells (g := g) (by simp [Value.ownBlock]) k u hk⟩⟩
theorem own_form {w : World} {B : Nat} {t : TypeId} {v : Value} {n : Nat} {xs : List Value} (h : w.ownsRow B t 1 v n xs) : ∃ A c, v = .slice A n c ∧ Cells w A xs := by
  rcases Nat.eq_zero_or_pos n with h0 | h0
  · subst h0
    have hx : xs = [] := List.eq_nil_of_length_eq_zero (by simpa using h.1)
    subst hx
    rcases h.2 with ⟨rfl, _⟩ | ⟨g, cap, cur, rfl, _⟩
    · exact ⟨none, 0, rfl, fun k u hk => by simp at hk⟩
    · exact ⟨_, _, rfl, fun k u hk => by simp at hk⟩
  · obtain ⟨g, cap, rfl, hc⟩ := own_cells h h0
    exact ⟨_, _, rfl, hc⟩
theorem Own.widen {W W1 w : World} {v : Value} {l : List Nat} (h : Own W1 w v l) (hb : Below W.heap.size W W1) : Own W w v l := by
  refine ⟨⟨h.1.1, ?_⟩, hb.trans (h.2.mono hb.size)⟩
  rcases h.1.2 with h0 | ⟨g, cap, cur, hv, hg, rest⟩
  · exact .inl h0
  · exact .inr ⟨g, cap, cur, hv, Nat.le_trans hb.size hg, rest⟩

set_option maxHeartbeats 400000 in
set_option maxRecDepth 100000 in
theorem rint_pos (n : Nat) (hn : n < 9223372036854775808) (w : World) :
    Calls Tryd.prog 60 #[.int .i64 (n : Int)] w (Made w (enc (n : Int))) := by
  have hnb : n < big := by unfold big; omega
  have h8 := sz_le 8 n (by rw [← big_pow]; exact hnb)
  have hneg : decide ((n : Int) < 0) = false := by simp
  have hpos : decide (0 ≤ (n : Int)) = true := by simp
  go_enter Tryd.func60, Tryd.ntmps60
  go_wp2
  go_loopw [3, 4] (fun m v wr => ∃ j q : Nat, m = .int .i64 q ∧ q ≤ n ∧ Hid (q = n / 256 ^ j) ∧ Hid (j + sz q = sz n) ∧ Own w wr v (lo n j)) (fun m _ _ => (intOf m).toNat)
  case atStart => exact ⟨0, n, rfl, Nat.le_refl _, Lib.hid (by simp), Lib.hid (by simp), own_nil w⟩
  case round =>
    obtain ⟨j, q, rfl, hqn, HQ, HE, hO⟩ := hrel
    have hj8 : j ≤ 8 := by have := HE.out; omega
    by_cases h0 : q = 0
    · subst h0
      have hj : j = sz n := by have := HE.out; rw [sz_zero] at this; omega
      subst hj
      clear HE HQ hqn hj8
      obtain ⟨A, cA, rfl, hC⟩ := own_form hO.1
      have hBw := hO.2
      have hl : (lo n (sz n)).length = sz n := lo_length _ _
      clear hO
      go_wp2_with (at_builtin; refine push_byte (W := wr) rfl _ _ rfl [] (128 + sz n) _ rfl (own_nil wr) _ rfl ?x1 ?x2 ?_)
      case x1 => simp
      case x2 => simp
      intro v3 w3 hO3
      go_wp2
      go_loopw [6, 7] (fun v i wx => ∃ j : Nat, j ≤ sz n ∧ i = .int .i64 ((j : Int) - 1) ∧ Own wr wx v (partP n j)) (fun _ i _ => (intOf i + 1).toNat)
      case atStart => exact ⟨sz n, by omega, rfl, by unfold partP; simpa using hO3⟩
      case round =>
        obtain ⟨j, hj, rfl, hOx⟩ := hrel
        have hlen : (partP n j).length ≤ 70368744177664 := by simp [partP, be_length]; omega
        by_cases h0 : j = 0
        · subst h0
          have hd : decide ((0 : Int) ≤ ((0 : Nat) : Int) - 1) = false := by decide
          go_wp2
          go_ret
          exact made_of (by rw [enc_nat]; simp) (by rw [enc_nat, ← partP_zero]; exact hOx.widen hBw)
        · obtain ⟨i, rfl⟩ : ∃ i, j = i + 1 := ⟨j - 1, by omega⟩
          have e1 : (((i + 1 : Nat) : Int) - 1) = (i : Int) := by omega
          obtain ⟨ad, rfl, hbl, hc0⟩ := hC i (byteV (n / 256 ^ i % 256)) (by unfold bytesV; rw [List.getElem?_map, lo_get n (sz n) i (by omega)]; rfl)
          have hc1 := (hOx.below.cell (p := ad.add i) (by rw [block_add]; exact hbl)).trans hc0
          have HP := Lib.hid (partP_step (n := n) (j := i + 1) (by omega) hj)
          simp only [Nat.add_sub_cancel] at HP
          have hd256 : n / 256 ^ i % 256 < 256 := Nat.mod_lt _ (by omega)
          generalize n / 256 ^ i % 256 = d at hc1 HP hd256
          unfold byteV at hc1
          rw [e1]
          clear hc0 hC hO3
          go_wp2_with (at_builtin; refine push_byte (W := _) rfl _ _ rfl (partP n (i + 1)) d _ rfl hOx _ rfl ?y1 hlen ?_)
          case y1 => rfl
          intro v5 w5 hO5
          clear hOx hlen hc1
          go_wp2
          go_roundw
          case rel => exact ⟨i, by omega, rfl, by rw [HP.out]; exact hO5⟩
          case measure => simp [intOf]
    · have hd : decide ((0 : Int) < (q : Int)) = true := by simp; omega
      go_wp2_with (at_builtin; refine push_byte (W := w) rfl _ _ rfl (lo n j) (q % 256) _ rfl hO _ rfl ?x1 ?x2 ?_)
      case x1 => omega
      case x2 => rw [lo_length]; omega
      intro v3 w3 hO3
      clear hO
      have HS := HE.out
      rw [sz_pos h0] at HS
      go_wp2
      go_roundw
      case rel => exact ⟨j + 1, q / 256, by simp, by omega, Lib.hid (by rw [HQ.out, Nat.div_div_eq_div_mul, Nat.pow_succ]), Lib.hid (by omega), by rw [lo_step, ← HQ.out]; exact hO3⟩
      case measure => simp [intOf]; omega

set_option maxHeartbeats 400000 in
set_option maxRecDepth 100000 in
theorem rint_neg (n : Nat) (hn : n < 9223372036854775808) (w : World) :
    Calls Tryd.prog 60 #[.int .i64 (-1 - (n : Int))] w (Made w (enc (-1 - (n : Int)))) := by
  have hnb : n < big := by unfold big; omega
  have h8 := sz_le 8 n (by rw [← big_pow]; exact hnb)
  have hneg : decide (-1 - (n : Int) < 0) = true := by simp; omega
  have hpos : decide (0 ≤ -1 - (n : Int)) = false := by simp; omega
  have hneg2 : (-1 - (-1 - (n : Int))) = n := by omega
  go_enter Tryd.func60, Tryd.ntmps60
  go_wp2
  go_loopw [3, 4] (fun m v wr => ∃ j q : Nat, m = .int .i64 q ∧ q ≤ n ∧ Hid (q = n / 256 ^ j) ∧ Hid (j + sz q = sz n) ∧ Own w wr v (lo n j)) (fun m _ _ => (intOf m).toNat)
  case atStart => exact ⟨0, n, rfl, Nat.le_refl _, Lib.hid (by simp), Lib.hid (by simp), own_nil w⟩
  case round =>
    obtain ⟨j, q, rfl, hqn, HQ, HE, hO⟩ := hrel
    have hj8 : j ≤ 8 := by have := HE.out; omega
    by_cases h0 : q = 0
    · subst h0
      have hj : j = sz n := by have := HE.out; rw [sz_zero] at this; omega
      subst hj
      clear HE HQ hqn hj8
      obtain ⟨A, cA, rfl, hC⟩ := own_form hO.1
      have hBw := hO.2
      have hl : (lo n (sz n)).length = sz n := lo_length _ _
      clear hO
      go_wp2_with (at_builtin; refine push_byte (W := wr) rfl _ _ rfl [] (127 - sz n) _ rfl (own_nil wr) _ rfl ?x1 ?x2 ?_)
      case x1 => omega
      case x2 => simp
      intro v3 w3 hO3
      go_wp2
      go_loopw [6, 7] (fun v i wx => ∃ j : Nat, j ≤ sz n ∧ i = .int .i64 ((j : Int) - 1) ∧ Own wr wx v (partN n j)) (fun _ i _ => (intOf i + 1).toNat)
      case atStart => exact ⟨sz n, by omega, rfl, by unfold partN; simpa using hO3⟩
      case round =>
        obtain ⟨j, hj, rfl, hOx⟩ := hrel
        have hlen : (partN n j).length ≤ 70368744177664 := by simp [partN, be_length]; omega
        by_cases h0 : j = 0
        · subst h0
          have hd : decide ((0 : Int) ≤ ((0 : Nat) : Int) - 1) = false := by decide
          go_wp2
          go_ret
          exact made_of (by rw [enc_neg]; simp) (by rw [enc_neg, ← partN_zero]; exact hOx.widen hBw)
        · obtain ⟨i, rfl⟩ : ∃ i, j = i + 1 := ⟨j - 1, by omega⟩
          have e1 : (((i + 1 : Nat) : Int) - 1) = (i : Int) := by omega
          obtain ⟨ad, rfl, hbl, hc0⟩ := hC i (byteV (n / 256 ^ i % 256)) (by unfold bytesV; rw [List.getElem?_map, lo_get n (sz n) i (by omega)]; rfl)
          have hc1 := (hOx.below.cell (p := ad.add i) (by rw [block_add]; exact hbl)).trans hc0
          have HP := Lib.hid (partN_step (n := n) (j := i + 1) (by omega) hj)
          simp only [Nat.add_sub_cancel] at HP
          have hd256 : n / 256 ^ i % 256 < 256 := Nat.mod_lt _ (by omega)
          generalize n / 256 ^ i % 256 = d at hc1 HP hd256
          unfold byteV at hc1
          rw [e1]
          clear hc0 hC hO3
          go_wp2_with (at_builtin; refine push_byte (W := _) rfl _ _ rfl (partN n (i + 1)) (255 - d) _ rfl hOx _ rfl ?y1 hlen ?_)
          case y1 => omega
          intro v5 w5 hO5
          clear hOx hlen hc1
          go_wp2
          go_roundw
          case rel => exact ⟨i, by omega, rfl, by rw [HP.out]; exact hO5⟩
          case measure => simp [intOf]
    · have hd : decide ((0 : Int) < (q : Int)) = true := by simp; omega
      go_wp2_with (at_builtin; refine push_byte (W := w) rfl _ _ rfl (lo n j) (q % 256) _ rfl hO _ rfl ?x1 ?x2 ?_)
      case x1 => omega
      case x2 => rw [lo_length]; omega
      intro v3 w3 hO3
      clear hO
      have HS := HE.out
      rw [sz_pos h0] at HS
      go_wp2
      go_roundw
      case rel => exact ⟨j + 1, q / 256, by simp, by omega, Lib.hid (by rw [HQ.out, Nat.div_div_eq_div_mul, Nat.pow_succ]), Lib.hid (by omega), by rw [lo_step, ← HQ.out]; exact hO3⟩
      case measure => simp [intOf]; omega

theorem rint_any (n : Int) (h1 : -9223372036854775808 ≤ n) (h2 : n ≤ 9223372036854775807) (w : World) :
    Calls Tryd.prog 60 #[.int .i64 n] w (Made w (enc n)) := by
  rcases Int.lt_or_le n 0 with h | h
  · have e : n = -1 - ((-1 - n).toNat : Int) := by omega
    rw [e]
    exact rint_neg _ (by omega) w
  · have e : n = (n.toNat : Int) := by omega
    rw [e]
    exact rint_pos _ (by omega) w

end Go.Proofs.YtfhfmdnimebegaaDoor

/-
  passimref01.Bytes: the encoding of a string of at most 2^45 bytes.
-/
namespace Go.Proofs.YtfhfmdnimebegaaDoor
open Go.RowKit
set_option linter.unusedVariables false
set_option linter.unusedSimpArgs false

set_option maxHeartbeats 400000 in
set_option maxRecDepth 100000 in
theorem rbytes_any (s : ByteArray) (hs : s.size ≤ 35184372088832) (w : World) :
    Calls Tryd.prog 70 #[.string s] w (Made w (encS (sb s))) := by
  go_enter Tryd.func70, Tryd.ntmps70
  go_wp2_with fail
  refine (rint_any _ (by omega) (by omega) _).mono ?_
  rintro e w1 ⟨g, cap, rfl, hO⟩
  have hl := enc_length (s.size : Int) (by omega) (by omega)
  obtain ⟨cap2, w2, hcv, hB2, hc2⟩ := to_bytes s w1
  have hO2 := hO.keep hB2
  clear hB2
  go_wp2_with (at_builtin; refine push_row (W := w) rfl _ _ rfl (enc (s.size : Int)) (sb s) _ rfl hO2 ⟨w1.heap.size, 0, none⟩ _ _ rfl (sb_length s).symm hc2 ?x1 ?_)
  case x1 => rw [sb_length]; omega
  intro v3 w3 hO3
  go_wp2
  go_ret
  exact made_of (by unfold encS; simp [enc_ne]) (by unfold encS; rw [sb_length]; exact hO3)

end Go.Proofs.YtfhfmdnimebegaaDoor

/-
  passimref02.Input returns the input that Of hashes.
-/
namespace Go.Proofs.YtfhfmdnimebegaaDoor
open Go.RowKit
set_option linter.unusedVariables false
set_option linter.unusedSimpArgs false

theorem own_one (w : World) (y : Nat) : Own w (w.alloc (.cells #[.int .u8 (y : Int)] 5)) (.slice (some ⟨w.heap.size, 0, none⟩) 1 1) [y] := by
  refine ⟨?_, (Below.refl _ _).alloc (Nat.le_refl _) _⟩
  have := World.ownsRow_lit (e := 5) (size := 1) w #[.int .u8 (y : Int)] 1 (Nat.le_refl _) (by unfold maxLen; omega) rfl
  simpa [bytesV, byteV] using this
theorem ofM_ne (T : Nat) (ps : List ByteArray) (k : Nat) : 0 < (ofM T ps k).length := by simp [ofM]

set_option maxHeartbeats 1000000 in
set_option maxRecDepth 100000 in
theorem input_any (tag : Int) (T : Nat) (hT : T < 256) (hTt : IntKind.u8.wrap tag = (T : Int)) (A : Option Addr) (ps : List ByteArray) (n c : Nat) (w : World) (hn : n = ps.length) (hl : ps.length ≤ 1048576) (ht : ∀ s ∈ ps, s.size ≤ 1048576) (hr : Cells w A (strsV ps)) :
    Calls Tryd.prog 55 #[.int .i64 tag, .slice A n c] w (Made w (ofIn T (sbs ps))) := by
  subst hn
  have hO0 := own_one w T
  go_enter Tryd.func55, Tryd.ntmps55
  go_wp2
  go_loopw [5, 6] (fun v i wr => ∃ k : Nat, k ≤ ps.length ∧ i = .int .i64 k ∧ Own w wr v (ofM T ps k)) (fun _ i _ => ps.length - (intOf i).toNat)
  case atStart => exact ⟨0, by omega, rfl, by rw [ofM_zero]; exact hO0⟩
  case round =>
    clear hO0
    obtain ⟨k, hk, rfl, hO⟩ := hrel
    by_cases hlt : k < ps.length
    · obtain ⟨ad, e, hbl, hcell⟩ := (hr.keep hO.below) k (.string ps[k]) (by simp [strsV, List.getElem?_eq_getElem hlt])
      subst e
      have hx := ht ps[k] (List.getElem_mem hlt)
      have hps := ofM_step T ps k hlt
      have hml := ofM_len T ps ht k hk
      generalize ps[k] = x at hcell hx hps
      have hdl := encS_le x hx
      have hdb := encS_byte x hx
      have HBy := Lib.hid (fun w1 => rbytes_any x (by omega) w1)
      generalize encS (sb x) = d at *
      generalize ofM T ps k = m at *
      generalize hMe : ofM T ps (k + 1) = M at *
      have HME := Lib.hid hMe
      have HPS := Lib.hid hps
      clear hMe hps
      go_wp2_with fail
      refine (HBy.out _).mono ?_
      rintro e w3 ⟨g3, cap3, rfl, hO3⟩
      have hO4 := hO.keep hO3.below
      have hc3 := (hO3.has hdb).cells
      clear hO hcell
      go_wp2_with (at_builtin; refine push_row (W := w) rfl _ _ rfl m d _ rfl hO4 ⟨g3, 0, none⟩ _ _ rfl rfl hc3 (by omega) ?_; rw [HPS.out])
      intro v5 w5 hO5
      clear hO4 hO3 hc3
      go_wp2
      go_roundw
      case rel => exact ⟨k + 1, by omega, by go_num, by rw [HME.out]; exact hO5⟩
      case measure => simp [intOf]; omega
    · obtain rfl : k = ps.length := by omega
      rw [ofM_all] at hO
      go_wp2
      go_ret
      exact made_of (by unfold ofIn; simp) hO

end Go.Proofs.YtfhfmdnimebegaaDoor

/-
  passimref02.rotr rotates a word right.
-/
namespace Go.Proofs.YtfhfmdnimebegaaDoor
set_option linter.unusedVariables false
set_option linter.unusedSimpArgs false
open Go.RowKit

set_option maxHeartbeats 400000 in
theorem rotr_any (x : BitVec 32) (k : Nat) (hk1 : 1 ≤ k) (hk : k ≤ 31) (w : World) :
    Calls Tryd.prog 79 #[.int .u32 (u x), .int .i64 (k : Int)] w fun e w' => e = .returned (.int .u32 (u (rot x k))) ∧ ∃ m, w' = w.drewN m := by
  obtain ⟨j, hj⟩ : ∃ j : Nat, k + j = 32 := ⟨32 - k, by omega⟩
  have e2 : (32 : Int) - (k : Int) = (j : Int) := by omega
  have h1 := u_shl x j
  have h2 := u_shr x k
  have h3 := u_or (x >>> k) (x <<< j)
  have he : rot x k = x >>> k ||| x <<< j := by unfold rot; rw [show 32 - k = j by omega]
  have HE := Lib.hid he
  clear he
  go_enter Tryd.func79, Tryd.ntmps79
  go_wp2
  go_quiet (fail)
  go_wp2
  go_ret
  refine ⟨?_, nq, rfl⟩
  rw [HE.out]
  rfl

theorem rotr2 (x : BitVec 32) (w : World) : Calls Tryd.prog 79 #[.int .u32 (u x), .int .i64 2] w fun e w' => e = .returned (.int .u32 (u (rot x 2))) ∧ ∃ m, w' = w.drewN m := rotr_any x 2 (by omega) (by omega) w
theorem rotr6 (x : BitVec 32) (w : World) : Calls Tryd.prog 79 #[.int .u32 (u x), .int .i64 6] w fun e w' => e = .returned (.int .u32 (u (rot x 6))) ∧ ∃ m, w' = w.drewN m := rotr_any x 6 (by omega) (by omega) w
theorem rotr7 (x : BitVec 32) (w : World) : Calls Tryd.prog 79 #[.int .u32 (u x), .int .i64 7] w fun e w' => e = .returned (.int .u32 (u (rot x 7))) ∧ ∃ m, w' = w.drewN m := rotr_any x 7 (by omega) (by omega) w
theorem rotr11 (x : BitVec 32) (w : World) : Calls Tryd.prog 79 #[.int .u32 (u x), .int .i64 11] w fun e w' => e = .returned (.int .u32 (u (rot x 11))) ∧ ∃ m, w' = w.drewN m := rotr_any x 11 (by omega) (by omega) w
theorem rotr13 (x : BitVec 32) (w : World) : Calls Tryd.prog 79 #[.int .u32 (u x), .int .i64 13] w fun e w' => e = .returned (.int .u32 (u (rot x 13))) ∧ ∃ m, w' = w.drewN m := rotr_any x 13 (by omega) (by omega) w
theorem rotr17 (x : BitVec 32) (w : World) : Calls Tryd.prog 79 #[.int .u32 (u x), .int .i64 17] w fun e w' => e = .returned (.int .u32 (u (rot x 17))) ∧ ∃ m, w' = w.drewN m := rotr_any x 17 (by omega) (by omega) w
theorem rotr18 (x : BitVec 32) (w : World) : Calls Tryd.prog 79 #[.int .u32 (u x), .int .i64 18] w fun e w' => e = .returned (.int .u32 (u (rot x 18))) ∧ ∃ m, w' = w.drewN m := rotr_any x 18 (by omega) (by omega) w
theorem rotr19 (x : BitVec 32) (w : World) : Calls Tryd.prog 79 #[.int .u32 (u x), .int .i64 19] w fun e w' => e = .returned (.int .u32 (u (rot x 19))) ∧ ∃ m, w' = w.drewN m := rotr_any x 19 (by omega) (by omega) w
theorem rotr22 (x : BitVec 32) (w : World) : Calls Tryd.prog 79 #[.int .u32 (u x), .int .i64 22] w fun e w' => e = .returned (.int .u32 (u (rot x 22))) ∧ ∃ m, w' = w.drewN m := rotr_any x 22 (by omega) (by omega) w
theorem rotr25 (x : BitVec 32) (w : World) : Calls Tryd.prog 79 #[.int .u32 (u x), .int .i64 25] w fun e w' => e = .returned (.int .u32 (u (rot x 25))) ∧ ∃ m, w' = w.drewN m := rotr_any x 25 (by omega) (by omega) w

end Go.Proofs.YtfhfmdnimebegaaDoor

/-
  passimref02.words returns the words of all rounds.
-/
namespace Go.Proofs.YtfhfmdnimebegaaDoor
set_option linter.unusedVariables false
set_option linter.unusedSimpArgs false
open Go.RowKit

/-- What holds at each round's head of both loops. -/
def WrdRel (w : World) (A : Addr) (b : List Nat) (t : Nat) (wr : World) : Prop :=
  Has wr (some A) b ∧ Blk wr w.heap.size 129 (List.replicate 64 (wordV 0)) ∧ Blk wr (w.heap.size + 1) 129 (arrW b t) ∧ Below w.heap.size w wr

theorem Has.cell {w : World} {ad : Addr} {l : List Nat} (h : Has w (some ad) l) (k : Nat) (hk : k < l.length) : ∃ y : Nat, y < 256 ∧ l.getD k 0 = y ∧ w.cell? (ad.add k) = some (.int .u8 (y : Int)) := by
  have h1 := h.at k l[k] (List.getElem?_eq_getElem hk)
  obtain ⟨ad', e, _, hc⟩ := h1.2
  obtain rfl : ad = ad' := by simpa using e
  exact ⟨l[k], h1.1, by simp [hk], hc⟩
theorem add_pos (ad : Addr) (k : Nat) : ad.add (k + 1) = ⟨ad.block, ad.off + (k + 1), none⟩ := by simp [Addr.add]
theorem Has.drewN {w : World} {A : Option Addr} {l : List Nat} (h : Has w A l) (q : Nat) : Has (w.drewN q) A l := h
theorem Has.drew {w : World} {A : Option Addr} {l : List Nat} (h : Has w A l) : Has w.drew A l := h

set_option maxHeartbeats 2000000 in
set_option maxRecDepth 100000 in
theorem words_any (ad : Addr) (b : List Nat) (hb : Byts b) (c : Nat) (w : World) (hr : Has w (some ad) b) :
    Calls Tryd.prog 78 #[.slice (some ad) 64 c] w fun e w' => e = .returned (.agg (wordsV (sched b 64)).toArray) ∧ Below w.heap.size w w' := by
  go_enter Tryd.func78, Tryd.ntmps78
  go_wp2
  generalize hw0 : World.alloc _ _ = W0
  have K1 : Blk W0 w.heap.size 129 (List.replicate 64 (wordV 0)) := hw0 ▸ ((blk_new w 129 (List.replicate 64 (wordV 0)).toArray).alloc _)
  have K2 : Blk W0 (w.heap.size + 1) 129 (arrW b 0) := hw0 ▸ (blk_new1 w _ 129 (List.replicate 64 (wordV 0)).toArray)
  have KB : Below w.heap.size w W0 := hw0 ▸ (((Below.refl _ _).alloc (Nat.le_refl _) _).alloc (by simp) _)
  have hr0 := hr.keep KB
  clear hw0
  go_loopw [4] (fun i wr => ∃ t : Nat, t ≤ 16 ∧ i = .int .i64 t ∧ Hid (WrdRel w ad b t wr)) (fun i _ => 16 - (intOf i).toNat)
  case atStart => exact ⟨0, by omega, rfl, Lib.hid ⟨hr0, K1, K2, KB⟩⟩
  case round =>
    clear K1 K2 KB hr0
    obtain ⟨t, ht, rfl, hR⟩ := hrel
    obtain ⟨HR, H1, H2, hB⟩ := hR.out
    clear hR
    by_cases h16 : t < 16
    · have hg : ∀ j, j < 64 → ∃ y : Nat, y < 256 ∧ b.getD j 0 = y ∧ wr.cell? (ad.add j) = some (.int .u8 (y : Int)) := fun j hj => HR.cell j (by rw [hb.1]; exact hj)
      obtain ⟨p, hp⟩ : ∃ p, p = 4 * t := ⟨_, rfl⟩
      obtain ⟨y0, z0, e0, c0⟩ := hg p (by omega)
      obtain ⟨y1, z1, e1, c1⟩ := hg (p + 1) (by omega)
      obtain ⟨y2, z2, e2, c2⟩ := hg (p + 2) (by omega)
      obtain ⟨y3, z3, e3, c3⟩ := hg (p + 3) (by omega)
      rw [hp] at e0 e1 e2 e3
      rw [add_pos] at c1 c2 c3
      have HE : Hid (b.getD (4 * t) 0 = y0 ∧ b.getD (4 * t + 1) 0 = y1 ∧ b.getD (4 * t + 2) 0 = y2 ∧ b.getD (4 * t + 3) 0 = y3) := Lib.hid ⟨e0, e1, e2, e3⟩
      have cs : wr.cell? ⟨w.heap.size + 1, t, none⟩ = some ((arrW b t)[t]'(by rw [arrW_length b t (by omega)]; omega)) := H2.cell (List.getElem?_eq_getElem _)
      have fs := H2.free t
      have s0 : IntKind.i64.wrap (4 * (t : Int)) = (p : Int) := by rw [IntWalk.i64_in _ (by omega)]; omega
      have s1 : IntKind.i64.wrap ((p : Int) + 1) = (p : Int) + 1 := IntWalk.i64_in _ (by omega)
      have s2 : IntKind.i64.wrap ((p : Int) + 2) = (p : Int) + 2 := IntWalk.i64_in _ (by omega)
      have s3 : IntKind.i64.wrap ((p : Int) + 3) = (p : Int) + 3 := IntWalk.i64_in _ (by omega)
      have n1 : ((p : Int) + 1).toNat = p + 1 := by omega
      have n2 : ((p : Int) + 2).toNat = p + 2 := by omega
      have n3 : ((p : Int) + 3).toNat = p + 3 := by omega
      have g0 : (p : Int) < 64 := by omega
      have g1 : (p : Int) + 1 < 64 := by omega
      have g2 : (p : Int) + 2 < 64 := by omega
      have g3 : (p : Int) + 3 < 64 := by omega
      have i0 : 0 ≤ (p : Int) := by omega
      have i1 : 0 ≤ (p : Int) + 1 := by omega
      have i2 : 0 ≤ (p : Int) + 2 := by omega
      have i3 : 0 ≤ (p : Int) + 3 := by omega
      have HV := Lib.hid (word_raw2 y0 y1 y2 y3 z0 z1 z2 z3)
      have HH := Lib.hid HR
      clear hg e0 e1 e2 e3 hp HR
      go_wp2
      go_still_tail 34, (by kernel_rfl)
      change wpList _ _ _ _ _ wr.drew
      have H1' := H1.drew
      have H2' := H2.drew
      have hB' := below_drew hB
      have HH' : Hid (Has wr.drew (some ad) b) := HH
      have cs' : wr.drew.cell? ⟨w.heap.size + 1, t, none⟩ = some ((arrW b t)[t]'(by rw [arrW_length b t (by omega)]; omega)) := cs
      have fs' : wr.drew.frozen? ⟨w.heap.size + 1, t, none⟩ = false := fs
      clear H1 H2 hB cs fs c0 c1 c2 c3 s0 s1 s2 s3 n1 n2 n3 HH
      generalize wr.drew = wd at *
      go_wp2
      go_roundw
      case rel =>
        have hB2 : Below w.heap.size w (wd.setCell ⟨w.heap.size + 1, t, none⟩ (.int .u32 (bits BinOp.or IntKind.u32 (bits BinOp.or IntKind.u32 (bits BinOp.or IntKind.u32 ((y0 : Int) * 16777216) ((y1 : Int) * 65536)) ((y2 : Int) * 256)) (y3 : Int)))) := hB'.setCell (by simp) _
        refine ⟨t + 1, by omega, by go_num, Lib.hid ⟨hr.keep hB2, H1'.other (by simp) _, ?_, hB2⟩⟩
        have := H2'.set t (wordV (nextW b (sched b t)))
        rw [arrW_set b t (by omega)] at this
        have e : nextW b (sched b t) = BitVec.ofNat 32 y0 <<< 24 ||| BitVec.ofNat 32 y1 <<< 16 ||| BitVec.ofNat 32 y2 <<< 8 ||| BitVec.ofNat 32 y3 := by
          unfold nextW
          rw [sched_length, if_pos h16]
          unfold word
          rw [HE.out.1, HE.out.2.1, HE.out.2.2.1, HE.out.2.2.2]
        rw [e] at this
        unfold wordV at this
        rw [← HV.out] at this
        exact this
      case measure => simp [intOf]; omega
    · have d16 : decide ((t : Int) < 16) = false := by simp only [decide_eq_false_iff_not]; omega
      have et : t = 16 := by omega
      have ET := Lib.hid et
      clear h16 et
      have HH := Lib.hid HR
      clear HR
      go_wp2
      go_loopw [5] (fun i wr => ∃ t : Nat, 16 ≤ t ∧ t ≤ 64 ∧ i = .int .i64 t ∧ Hid (WrdRel w ad b t wr)) (fun i _ => 64 - (intOf i).toNat)
      case atStart => exact ⟨16, by omega, by omega, rfl, Lib.hid (ET.out ▸ ⟨HH.out, H1, H2, hB⟩)⟩
      case round =>
        clear H1 H2 hB HH d16 ET ht
        obtain ⟨t, h16, ht2, rfl, hR⟩ := hrel
        obtain ⟨HR, H1, H2, hB⟩ := hR.out
        clear hR HR
        by_cases h64 : t < 64
        · have hg : ∀ j, j < t → wr.cell? ⟨w.heap.size + 1, j, none⟩ = some (.int .u32 (u ((sched b t).getD j 0))) := fun j hj => H2.cell (arrW_get b t j hj)
          obtain ⟨x16, e16⟩ : ∃ x, (sched b t).getD (t - 16) 0 = x := ⟨_, rfl⟩
          obtain ⟨x15, e15⟩ : ∃ x, (sched b t).getD (t - 15) 0 = x := ⟨_, rfl⟩
          obtain ⟨x7, e7⟩ : ∃ x, (sched b t).getD (t - 7) 0 = x := ⟨_, rfl⟩
          obtain ⟨x2, e2⟩ : ∃ x, (sched b t).getD (t - 2) 0 = x := ⟨_, rfl⟩
          have c16 := hg (t - 16) (by omega)
          have c15 := hg (t - 15) (by omega)
          have c7 := hg (t - 7) (by omega)
          have c2 := hg (t - 2) (by omega)
          rw [e16] at c16
          rw [e15] at c15
          rw [e7] at c7
          rw [e2] at c2
          have HX : Hid (nextW b (sched b t) = x16 + sig0 x15 + x7 + sig1 x2) := by
            have e : nextW b (sched b t) = x16 + sig0 x15 + x7 + sig1 x2 := by
              unfold nextW
              rw [sched_length, if_neg (by omega), e16, e15, e7, e2]
            exact Lib.hid e
          obtain ⟨q16, k16⟩ : ∃ q, q + 16 = t := ⟨t - 16, by omega⟩
          obtain ⟨q15, k15⟩ : ∃ q, q + 15 = t := ⟨t - 15, by omega⟩
          obtain ⟨q7, k7⟩ : ∃ q, q + 7 = t := ⟨t - 7, by omega⟩
          obtain ⟨q2, k2⟩ : ∃ q, q + 2 = t := ⟨t - 2, by omega⟩
          rw [show t - 16 = q16 by omega] at c16
          rw [show t - 15 = q15 by omega] at c15
          rw [show t - 7 = q7 by omega] at c7
          rw [show t - 2 = q2 by omega] at c2
          have s16 : IntKind.i64.wrap ((t : Int) - 16) = (q16 : Int) := by rw [IntWalk.i64_in _ (by omega)]; omega
          have s15 : IntKind.i64.wrap ((t : Int) - 15) = (q15 : Int) := by rw [IntWalk.i64_in _ (by omega)]; omega
          have s7 : IntKind.i64.wrap ((t : Int) - 7) = (q7 : Int) := by rw [IntWalk.i64_in _ (by omega)]; omega
          have s2 : IntKind.i64.wrap ((t : Int) - 2) = (q2 : Int) := by rw [IntWalk.i64_in _ (by omega)]; omega
          have l16 : (q16 : Int) < 64 := by omega
          have l15 : (q15 : Int) < 64 := by omega
          have l7 : (q7 : Int) < 64 := by omega
          have l2 : (q2 : Int) < 64 := by omega
          have l64 : (t : Int) < 64 := by omega
          have cs : wr.cell? ⟨w.heap.size + 1, t, none⟩ = some ((arrW b t)[t]'(by rw [arrW_length b t ht2]; omega)) := H2.cell (List.getElem?_eq_getElem _)
          have fs := H2.free t
          clear hg e16 e15 e7 e2 k16 k15 k7 k2
          go_wp2
          go_quiet ((first | (go_at_call 79; with_reducible exact Calls.quiet_of (rotr7 x15 _)) | (go_at_call 79; with_reducible exact Calls.quiet_of (rotr18 x15 _))))
          generalize hwq : wr.drewN nq = wq
          replace H1 : Blk wq _ _ _ := hwq ▸ H1.drewN nq
          replace H2 : Blk wq _ _ _ := hwq ▸ H2.drewN nq
          replace hB : Below w.heap.size w wq := hwq ▸ below_drewN hB nq
          replace c16 : wq.cell? ⟨w.heap.size + 1, q16, none⟩ = some (.int .u32 (u x16)) := hwq ▸ c16
          replace c7 : wq.cell? ⟨w.heap.size + 1, q7, none⟩ = some (.int .u32 (u x7)) := hwq ▸ c7
          replace c2 : wq.cell? ⟨w.heap.size + 1, q2, none⟩ = some (.int .u32 (u x2)) := hwq ▸ c2
          replace cs : wq.cell? ⟨w.heap.size + 1, t, none⟩ = some ((arrW b t)[t]'(by rw [arrW_length b t ht2]; omega)) := hwq ▸ cs
          replace fs : wq.frozen? ⟨w.heap.size + 1, t, none⟩ = false := hwq ▸ fs
          clear c15 s15 hwq nq
          rw [sig0_raw]
          generalize hS0 : sig0 x15 = S0 at HX ⊢
          clear hS0
          go_wp2
          go_quiet ((first | (go_at_call 79; with_reducible exact Calls.quiet_of (rotr17 x2 _)) | (go_at_call 79; with_reducible exact Calls.quiet_of (rotr19 x2 _))))
          generalize hwq2 : wq.drewN nq = wp
          replace H1 : Blk wp _ _ _ := hwq2 ▸ H1.drewN nq
          replace H2 : Blk wp _ _ _ := hwq2 ▸ H2.drewN nq
          replace hB : Below w.heap.size w wp := hwq2 ▸ below_drewN hB nq
          replace c16 : wp.cell? ⟨w.heap.size + 1, q16, none⟩ = some (.int .u32 (u x16)) := hwq2 ▸ c16
          replace c7 : wp.cell? ⟨w.heap.size + 1, q7, none⟩ = some (.int .u32 (u x7)) := hwq2 ▸ c7
          replace cs : wp.cell? ⟨w.heap.size + 1, t, none⟩ = some ((arrW b t)[t]'(by rw [arrW_length b t ht2]; omega)) := hwq2 ▸ cs
          replace fs : wp.frozen? ⟨w.heap.size + 1, t, none⟩ = false := hwq2 ▸ fs
          clear c2 s2 hwq2 nq
          rw [sig1_raw]
          generalize hS1 : sig1 x2 = S1 at HX ⊢
          clear hS1
          go_wp2
          go_still_tail 15, (by kernel_rfl)
          change wpList _ _ _ _ _ wp.drew
          have H1' := H1.drew
          have H2' := H2.drew
          have hB' := below_drew hB
          have cs' : wp.drew.cell? ⟨w.heap.size + 1, t, none⟩ = some ((arrW b t)[t]'(by rw [arrW_length b t ht2]; omega)) := cs
          have fs' : wp.drew.frozen? ⟨w.heap.size + 1, t, none⟩ = false := fs
          clear H1 H2 hB cs fs c16 c7 s16 s7
          generalize wp.drew = wd at *
          go_wp2
          go_roundw
          case rel =>
            have hB2 : Below w.heap.size w (wd.setCell ⟨w.heap.size + 1, t, none⟩ (.int .u32 ((u x16 + u S0 + u x7 + u S1) % 4294967296))) := hB'.setCell (by simp) _
            refine ⟨t + 1, by omega, by omega, by go_num, Lib.hid ⟨hr.keep hB2, H1'.other (by simp) _, ?_, hB2⟩⟩
            have := H2'.set t (wordV (nextW b (sched b t)))
            rw [arrW_set b t h64, HX.out] at this
            unfold wordV at this
            rw [← add4] at this
            exact this
          case measure => simp [intOf]; omega
        · obtain rfl : t = 64 := by omega
          rw [arrW_all] at H2
          have hl : (wordsV (sched b 64)).length = 64 := by rw [wordsV_length, sched_length]
          have h1 : ∀ v ∈ wordsV (sched b 64), v.oneCell' = true := fun v hv => by obtain ⟨y, _, rfl⟩ := List.mem_map.1 hv; rfl
          go_wp2_with (first | (refine load_blk rfl 129 (.tmp 3) rfl H2 rfl Tryd.underlying129 (m := 64) (by kernel_rfl) hl ?_) | (refine store_blk rfl 129 (.tmp 2) (.tmp 100) rfl H1 rfl rfl (m := 64) (by kernel_rfl) hl (by simp) h1 ?_))
          intro w' hb' ho'
          go_wp2
          exact bodyPost_ret (v := .agg (wordsV (sched b 64)).toArray) (hb'.result (p := 2) (ty := 129) rfl _ rfl Tryd.underlying129 (by rw [hl]; kernel_rfl)) rfl ⟨rfl, ho'.2.2 _ _ (by omega) hB⟩

end Go.Proofs.YtfhfmdnimebegaaDoor

/-
  passimref02.padded returns the padded message.
-/
namespace Go.Proofs.YtfhfmdnimebegaaDoor
set_option linter.unusedVariables false
set_option linter.unusedSimpArgs false
open Go.RowKit

/-- append(b, c...): b the call's own bytes, c bytes that lie somewhere, perhaps none. -/
theorem push_any {W w : World} {ops : Array Oper} {rest : List Oper} {o : Oper} {a : Act} {Q : Exit → Act → World → Prop} (hgd : o.guard = none) (s x : Operand)
    (ho : o.op = .call { callee := .builtin .append, args := #[s, x], argTypes := #[39, 39] })
    (l m : List Nat) (v : Value) (hs : a.eval s = v) (hO : Own W w v l)
    (A : Option Addr) (k c : Nat) (hx : a.eval x = .slice A k c) (hk : k = m.length) (hm : Has w A m) (hl : l.length + m.length ≤ 70368744177664)
    (h : ∀ v' w', Own W w' v' (l ++ m) → wpList Tryd.prog ops Q rest (a.put o.dst v') w') :
    wpList Tryd.prog ops Q (o :: rest) a w := by
  subst hk
  rcases Nat.eq_zero_or_pos m.length with h0 | h0
  · have hm0 : m = [] := List.eq_nil_of_length_eq_zero h0
    subst hm0
    obtain ⟨i0, hi, hz0, hz1, hz2⟩ := info_parts u8info
    have hrun : (Builtin.append_ #[39, 39] o.type #[v, .slice A 0 c]).run Tryd.prog w = .ok v w := by
      rcases hO.1.2 with ⟨rfl, _⟩ | ⟨g, cap, cur, rfl, _, _, hc, _⟩ <;> cases A <;> simp [Builtin.append_, run_underlying Tryd.underlying39, sizeOf, typeInfo, hi, Builtin.lenOf, Builtin.firstCells, loadCells, loadCellsFrom, storeCells] <;> omega
    refine wpList_plain hgd fun _ hK => ?_
    unfold Oper.wp execOp
    have hs' : a.eval x = .slice A 0 c := hx
    simp only [ho, resolve, invoke, builtin, Sem.run_bind, Sem.run_pure, Result.andThen_ok, List.map_toArray, List.map_cons, List.map_nil, hs, hs', hrun]
    exact hK _ _ (h v w (by simpa using hO))
  · obtain ⟨_, ad, rfl, _, _⟩ := hm.at 0 m[0] (List.getElem?_eq_getElem h0)
    exact push_row hgd s x ho l m v hs hO ad m.length c hx rfl hm.cells hl h
/-- push_byte, the longer list under a name. -/
theorem push_byteR {W w : World} {ops : Array Oper} {rest : List Oper} {o : Oper} {a : Act} {Q : Exit → Act → World → Prop} (hgd : o.guard = none) (s x : Operand)
    (ho : o.op = .call { callee := .builtin .append, args := #[s, x], argTypes := #[39, 39] })
    (l : List Nat) (y : Nat) (r : List Nat) (hr : l ++ [y] = r) (v : Value) (hs : a.eval s = v) (hO : Own W w v l)
    (c : Nat) (hx : a.eval x = .slice (some ⟨w.heap.size, 0, none⟩) 1 c) {X : Int} (hX : X = y) (hl : l.length ≤ 70368744177664)
    (h : ∀ v' w', Own W w' v' r → wpList Tryd.prog ops Q rest (a.put o.dst v') w') :
    wpList Tryd.prog ops Q (o :: rest) a (w.alloc (.cells #[.int .u8 X] 5)) := by
  subst hr
  exact push_byte hgd s x ho l y v hs hO c hx hX hl h
/-- A slice that was just made of no elements. -/
theorem own_empty (w : World) : Own w (w.alloc (.cells #[] 5)) (.slice (some ⟨w.heap.size, 0, none⟩) 0 0) [] := by
  refine ⟨?_, (Below.refl _ _).alloc (Nat.le_refl _) _⟩
  have := World.ownsRow_lit (e := 5) (size := 1) w #[] 0 (Nat.le_refl _) (by unfold maxLen; omega) rfl
  simpa [bytesV] using this

/-- What holds while zero bytes are laid. -/
def sliceLen : Value → Nat
  | .slice _ n _ => n
  | _ => 0
def ZerRel (w : World) (l : List Nat) (v : Value) (wr : World) : Prop := ∃ j : Nat, j ≤ zeros l.length ∧ Own w wr v (l ++ 128 :: List.replicate j 0)

set_option maxHeartbeats 1000000 in
set_option maxRecDepth 100000 in
theorem padded_any (A : Option Addr) (l : List Nat) (n c : Nat) (w : World) (hn : n = l.length) (hl : l.length ≤ 1099511627776) (hr : Has w A l) :
    Calls Tryd.prog 77 #[.slice A n c] w (Made w (pad l)) := by
  subst hn
  go_enter Tryd.func77, Tryd.ntmps77
  have KB : Below w.heap.size w (w.alloc (.cells #[] 5)) := (Below.refl _ _).alloc (Nat.le_refl _) _
  have hr0 := hr.keep KB
  have hO0 := own_empty w
  go_wp2_with (first | (at_builtin; refine push_any (W := w) rfl _ _ rfl [] l _ rfl hO0 A l.length c rfl rfl hr0 (by simp; omega) ?_; intro v3 w3 hO3) | (at_builtin; refine push_byte (W := w) rfl _ _ rfl l 128 _ rfl hO3 _ rfl rfl (by omega) ?_; intro v4 w4 hO4))
  clear hO0 hO3 hr0 KB hr
  have hzl := zeros_lt l.length
  go_loopw [3] (fun v wr => ZerRel w l v wr) (fun v _ => l.length + 65 - sliceLen v)
  case atStart => exact ⟨0, by omega, by simpa using hO4⟩
  case round =>
    clear hO4
    obtain ⟨j, hj, hO⟩ := hrel
    obtain ⟨m, hm⟩ : ∃ m, l.length + 1 + j = m := ⟨_, rfl⟩
    have hlen : (l ++ 128 :: List.replicate j 0).length = m := by simp; omega
    obtain ⟨g, cap, rfl, _, _⟩ := hO.1.form (by omega)
    rw [hlen] at hO ⊢
    by_cases hz : j < zeros l.length
    · have hne : ¬ (m : Int) % 64 = 56 := by unfold zeros at hz hj; omega
      obtain ⟨r, hr⟩ : ∃ r, l ++ 128 :: List.replicate (j + 1) 0 = r := ⟨_, rfl⟩
      have hlen5 : r.length = m + 1 := by rw [← hr]; simp; omega
      have hq : l ++ 128 :: List.replicate j 0 ++ [0] = r := by rw [List.append_assoc, List.cons_append, ← List.replicate_succ']; exact hr
      have HR := Lib.hid hr
      have HQ := Lib.hid hq
      clear hr hq
      go_wp2_with (at_builtin; refine push_byteR (W := w) rfl _ _ rfl (l ++ 128 :: List.replicate j 0) 0 r HQ.out _ rfl hO _ rfl rfl (by omega) ?_)
      intro v5 w5 hO5
      obtain ⟨g5, cap5, rfl, _, _⟩ := hO5.1.form (by omega)
      rw [hlen5] at hO5 ⊢
      clear hO
      go_wp2
      go_roundw
      case rel => exact ⟨j + 1, by omega, by rw [HR.out]; exact hO5⟩
      case measure => show l.length + 65 - (m + 1) < l.length + 65 - m; omega
    · obtain rfl : j = zeros l.length := by omega
      have he : (m : Int) % 64 = 56 := by have := zeros_mod l.length; omega
      obtain ⟨N, hN⟩ : ∃ N : Nat, N = 8 * l.length := ⟨_, rfl⟩
      have HN := Lib.hid hN
      clear hN
      have hw1 : IntKind.u64.wrap (l.length : Int) = (l.length : Int) := IntWalk.u64_in _ (by omega)
      have hw2 : IntKind.u64.wrap (8 * (l.length : Int)) = 8 * (l.length : Int) := IntWalk.u64_in _ (by omega)
      generalize hP : l ++ 128 :: List.replicate (zeros l.length) 0 = P at hO hlen
      have HP := Lib.hid hP
      clear hP
      go_upto_region 6 with (fail)
      clear hw1 hw2 he
      go_wp2
      go_loopw [3, 5] (fun v i wr => ∃ k : Nat, k ≤ 8 ∧ i = .int .i64 k ∧ Own w wr v (P ++ (be 8 N).take k)) (fun _ i _ => 8 - (intOf i).toNat)
      case atStart => exact ⟨0, by omega, rfl, by simpa using hO⟩
      case round =>
        clear hO
        obtain ⟨k, hk, rfl, hO⟩ := hrel
        obtain ⟨q, hq⟩ : ∃ q, m + k = q := ⟨_, rfl⟩
        have hlen2 : (P ++ (be 8 N).take k).length = q := by rw [List.length_append, List.length_take, be_length]; omega
        obtain ⟨g2, cap2, rfl, _, _⟩ := hO.1.form (by omega)
        rw [hlen2] at hO ⊢
        obtain ⟨r, hr⟩ : ∃ r, P ++ (be 8 N).take (k + 1) = r := ⟨_, rfl⟩
        have hbt : k < 8 → P ++ (be 8 N).take k ++ [N / 256 ^ (8 - 1 - k) % 256] = r := fun h => by rw [← hr, List.take_add_one, be_get 8 N k h, List.append_assoc]; rfl
        have HBT := Lib.hid hbt
        have HR := Lib.hid hr
        clear hbt hr
        generalize hLk : P ++ (be 8 N).take k = Lk at hO hlen2 HBT
        have HLk := Lib.hid hLk
        clear hLk
        obtain rfl | rfl | rfl | rfl | rfl | rfl | rfl | rfl | rfl : k = 0 ∨ k = 1 ∨ k = 2 ∨ k = 3 ∨ k = 4 ∨ k = 5 ∨ k = 6 ∨ k = 7 ∨ k = 8 := by omega
        · go_wp2_with (at_builtin; refine push_byteR (W := w) rfl _ _ rfl Lk (N / 256 ^ (8 - 1 - 0) % 256) r (HBT.out (by omega)) _ rfl hO _ rfl ?hx (by omega) ?_)
          case hx => rw [HN.out, show (256 : Nat) ^ (8 - 1 - 0) = 72057594037927936 by decide]; omega
          intro v5 w5 hO5
          clear hO
          go_wp2
          go_roundw
          case rel => exact ⟨1, by omega, rfl, (congrArg (Own w w5 v5) HR.out).mpr hO5⟩
          case measure => simp [intOf]
        · go_wp2_with (at_builtin; refine push_byteR (W := w) rfl _ _ rfl Lk (N / 256 ^ (8 - 1 - 1) % 256) r (HBT.out (by omega)) _ rfl hO _ rfl ?hx (by omega) ?_)
          case hx => rw [HN.out, show (256 : Nat) ^ (8 - 1 - 1) = 281474976710656 by decide]; omega
          intro v5 w5 hO5
          clear hO
          go_wp2
          go_roundw
          case rel => exact ⟨2, by omega, rfl, (congrArg (Own w w5 v5) HR.out).mpr hO5⟩
          case measure => simp [intOf]
        · go_wp2_with (at_builtin; refine push_byteR (W := w) rfl _ _ rfl Lk (N / 256 ^ (8 - 1 - 2) % 256) r (HBT.out (by omega)) _ rfl hO _ rfl ?hx (by omega) ?_)
          case hx => rw [HN.out, show (256 : Nat) ^ (8 - 1 - 2) = 1099511627776 by decide]; omega
          intro v5 w5 hO5
          clear hO
          go_wp2
          go_roundw
          case rel => exact ⟨3, by omega, rfl, (congrArg (Own w w5 v5) HR.out).mpr hO5⟩
          case measure => simp [intOf]
        · go_wp2_with (at_builtin; refine push_byteR (W := w) rfl _ _ rfl Lk (N / 256 ^ (8 - 1 - 3) % 256) r (HBT.out (by omega)) _ rfl hO _ rfl ?hx (by omega) ?_)
          case hx => rw [HN.out, show (256 : Nat) ^ (8 - 1 - 3) = 4294967296 by decide]; omega
          intro v5 w5 hO5
          clear hO
          go_wp2
          go_roundw
          case rel => exact ⟨4, by omega, rfl, (congrArg (Own w w5 v5) HR.out).mpr hO5⟩
          case measure => simp [intOf]
        · go_wp2_with (at_builtin; refine push_byteR (W := w) rfl _ _ rfl Lk (N / 256 ^ (8 - 1 - 4) % 256) r (HBT.out (by omega)) _ rfl hO _ rfl ?hx (by omega) ?_)
          case hx => rw [HN.out, show (256 : Nat) ^ (8 - 1 - 4) = 16777216 by decide]; omega
          intro v5 w5 hO5
          clear hO
          go_wp2
          go_roundw
          case rel => exact ⟨5, by omega, rfl, (congrArg (Own w w5 v5) HR.out).mpr hO5⟩
          case measure => simp [intOf]
        · go_wp2_with (at_builtin; refine push_byteR (W := w) rfl _ _ rfl Lk (N / 256 ^ (8 - 1 - 5) % 256) r (HBT.out (by omega)) _ rfl hO _ rfl ?hx (by omega) ?_)
          case hx => rw [HN.out, show (256 : Nat) ^ (8 - 1 - 5) = 65536 by decide]; omega
          intro v5 w5 hO5
          clear hO
          go_wp2
          go_roundw
          case rel => exact ⟨6, by omega, rfl, (congrArg (Own w w5 v5) HR.out).mpr hO5⟩
          case measure => simp [intOf]
        · go_wp2_with (at_builtin; refine push_byteR (W := w) rfl _ _ rfl Lk (N / 256 ^ (8 - 1 - 6) % 256) r (HBT.out (by omega)) _ rfl hO _ rfl ?hx (by omega) ?_)
          case hx => rw [HN.out, show (256 : Nat) ^ (8 - 1 - 6) = 256 by decide]; omega
          intro v5 w5 hO5
          clear hO
          go_wp2
          go_roundw
          case rel => exact ⟨7, by omega, rfl, (congrArg (Own w w5 v5) HR.out).mpr hO5⟩
          case measure => simp [intOf]
        · go_wp2_with (at_builtin; refine push_byteR (W := w) rfl _ _ rfl Lk (N / 256 ^ (8 - 1 - 7) % 256) r (HBT.out (by omega)) _ rfl hO _ rfl ?hx (by omega) ?_)
          case hx => rw [HN.out, show (256 : Nat) ^ (8 - 1 - 7) = 1 by decide]; omega
          intro v5 w5 hO5
          clear hO
          go_wp2
          go_roundw
          case rel => exact ⟨8, by omega, rfl, (congrArg (Own w w5 v5) HR.out).mpr hO5⟩
          case measure => simp [intOf]
        · rw [← HLk.out, List.take_of_length_le (by rw [be_length]; omega), ← HP.out, HN.out, List.append_assoc] at hO
          go_wp2
          go_ret
          have hpad : l ++ 128 :: (List.replicate (zeros l.length) 0 ++ be 8 (8 * l.length)) = pad l := rfl
          rw [List.cons_append, hpad] at hO
          exact made_of (by unfold pad tail; simp) hO

end Go.Proofs.YtfhfmdnimebegaaDoor

/-
  passimref02.Sum returns the hash of the bytes.
-/
namespace Go.Proofs.YtfhfmdnimebegaaDoor
set_option linter.unusedVariables false
set_option linter.unusedSimpArgs false
open Go.RowKit

/-- The specification's table lies where it was laid. -/
def GlobR (w : World) : Prop := w.rangeAt 0 0 (wordsV kk) ∧ 0 < w.heap.size
theorem GlobR.keep {w w' : World} (h : GlobR w) (hb : Below w.heap.size w w') : GlobR w' :=
  ⟨fun j v hj => (hb.cell (p := ⟨_, _, none⟩) h.2).trans (h.1 j v hj), Nat.lt_of_lt_of_le h.2 hb.size⟩
theorem GlobR.round {w : World} (h : GlobR w) (k : Nat) (hk : k < 64) : w.cell? ⟨0, k, none⟩ = some (.int .u32 (u (kk.getD k 0))) := by
  have := h.1 k _ (words_get (by rw [kk_length]; exact hk))
  rwa [Nat.zero_add] at this
theorem pad_byte (l : List Nat) (h : ∀ y ∈ l, y < 256) : ∀ y ∈ pad l, y < 256 := by
  intro y hy
  rcases List.mem_append.1 hy with h1 | h1
  · exact h y h1
  · exact tail_byte _ y h1
theorem wordsV_cells (l : List (BitVec 32)) : ∀ v ∈ wordsV l, v.oneCell' = true := fun v hv => by obtain ⟨y, _, rfl⟩ := List.mem_map.1 hv; rfl
theorem blk_bytes (l : List Nat) (hb : ∀ y ∈ l, y < 256) (p : Nat) (h : p + 64 ≤ l.length) : Byts ((l.drop p).take 64) :=
  ⟨by rw [List.length_take, List.length_drop]; omega, fun y hy => hb y (List.mem_of_mem_drop (List.mem_of_mem_take hy))⟩
theorem x_rawR (a b c d e f g h k x : BitVec 32) :
    (u h + bits BinOp.xor IntKind.u32 (bits BinOp.xor IntKind.u32 (u (rot e 6)) (u (rot e 11))) (u (rot e 25)) +
      bits BinOp.xor IntKind.u32 (bits BinOp.and IntKind.u32 (u e) (u f)) (bits BinOp.and IntKind.u32 (bits BinOp.xor IntKind.u32 (u e) 4294967295) (u g)) + u k + u x) % 4294967296 =
      u (rx ⟨a, b, c, d, e, f, g, h⟩ k x) := by
  have hn : bits BinOp.xor IntKind.u32 (u e) 4294967295 = u (~~~e) := by
    have h1 : (4294967295 : Int) = u (BitVec.allOnes 32) := by decide
    rw [h1, u_xor, BitVec.xor_allOnes]
  rw [hn, u_xor, u_xor, u_and, u_and, u_xor, add5]
  rfl
theorem has_of_blk {w : World} {g : Nat} {t : TypeId} {cs : List Value} {l : List Nat} (h : Blk w g t cs) (hc : cs.take l.length = bytesV l) (hb : ∀ y ∈ l, y < 256) (p k : Nat) : Has w (some ⟨g, p, none⟩) ((l.drop p).take k) := by
  refine ⟨fun j v hj => ⟨_, rfl, h.lt, ?_⟩, fun y hy => hb y (List.mem_of_mem_drop (List.mem_of_mem_take hy))⟩
  rw [Addr.add_mid]
  apply h.cell
  have h1 : (bytesV l)[p + j]? = some v := by
    unfold bytesV at hj ⊢
    rw [List.getElem?_map, List.getElem?_take] at hj
    split at hj
    · rw [List.getElem?_drop] at hj
      rw [List.getElem?_map]
      exact hj
    · cases hj
  rw [← hc, List.getElem?_take] at h1
  split at h1
  · exact h1
  · cases h1
/-- What holds at each round's head: k blocks have been taken in. -/
def RsRel (w : World) (g : Nat) (cs : List Value) (m : List Nat) (k : Nat) (wr : World) : Prop :=
  Blk wr w.heap.size 114 (bytesV z32) ∧ Blk wr (w.heap.size + 1) 119 (wordsV (stL (hst m k))) ∧ Blk wr g 5 cs ∧ GlobR wr ∧ Below w.heap.size w wr
def RoRel (w : World) (s : St) (b6 : Nat) (v : Value) (wr : World) : Prop :=
  ∃ i : Nat, i ≤ 32 ∧ v = .int .i64 i ∧ Blk wr (w.heap.size + 1) 119 (wordsV (stL s)) ∧ Blk wr w.heap.size 114 (bytesV z32) ∧ Blk wr b6 114 (bytesV (outA s i)) ∧ Below w.heap.size w wr

set_option maxHeartbeats 4000000 in
set_option maxRecDepth 100000 in
theorem rsum_any (A : Option Addr) (l : List Nat) (n c : Nat) (w : World) (hn : n = l.length) (hl : l.length ≤ 1099511627776) (hr : Has w A l) (hG : GlobR w) :
    Calls Tryd.prog 69 #[.slice A n c] w fun e w' => e = .returned (.agg (bytesV (sha l)).toArray) ∧ Below w.heap.size w w' := by
  subst hn
  have hz2 := zero_32
  go_enter Tryd.func69, Tryd.ntmps69
  go_upto_region 2 with (fail)
  have hs0 : #[Value.int IntKind.u32 1779033703, Value.int IntKind.u32 3144134277, Value.int IntKind.u32 1013904242, Value.int IntKind.u32 2773480762, Value.int IntKind.u32 1359893119, Value.int IntKind.u32 2600822924, Value.int IntKind.u32 528734635, Value.int IntKind.u32 1541459225] = (wordsV (stL st0)).toArray := by kernel_rfl
  rw [hs0]
  clear hs0
  generalize hw0 : World.alloc _ _ = W0
  have K0 : Blk W0 w.heap.size 114 (bytesV z32) := hw0 ▸ ((blk_new w _ _).alloc _)
  have K1 : Blk W0 (w.heap.size + 1) 119 (wordsV (stL st0)) := hw0 ▸ (blk_new1 w _ _ (wordsV (stL st0)).toArray)
  have KB : Below w.heap.size w W0 := hw0 ▸ (((Below.refl _ _).alloc (Nat.le_refl _) _).alloc (by simp) _)
  clear hw0 hz2
  have hr0 := hr.keep KB
  obtain ⟨L, hL⟩ : ∃ L, (pad l).length = L := ⟨_, rfl⟩
  have hL64 : L % 64 = 0 := by rw [← hL]; exact pad_length l
  have hLl : L ≤ l.length + 73 := by have := zeros_lt l.length; rw [← hL]; unfold pad; rw [List.length_append, tail_length]; omega
  have HL := Lib.hid hL
  have hP := padded_any A l l.length c W0 rfl hl hr0
  go_wp2_with (go_at_call 77; refine hP.mono ?_; rintro e w1 ⟨g, cap, rfl, hO1⟩)
  have M0 := K0.keep hO1.below
  have M1 := K1.keep hO1.below
  have MB := KB.trans (hO1.below.mono KB.size)
  have MG := hG.keep MB
  obtain ⟨cs, M2, hcs, hcap, hgw⟩ : ∃ cs, Blk w1 g 5 cs ∧ cs.take (pad l).length = bytesV (pad l) ∧ L ≤ cap ∧ w.heap.size + 1 < g := by
    have hz1 := K1.lt
    rcases hO1.1.2 with ⟨e0, h0⟩ | ⟨g', cap', cur, hv, hg, hh, hnc, _, _, htk⟩
    · cases e0
    · cases hv
      exact ⟨cur.toList, by unfold Blk; simpa using hh, by simpa using htk, by rw [← hL]; exact hnc, by omega⟩
  clear K0 K1 KB hr0 hP hO1
  have hpb := pad_byte l hr.2
  have HPL := Lib.hid (show sha l = outB (hst (pad l) ((pad l).length / 64)) from rfl)
  rw [hL] at HPL hcs
  generalize pad l = m at *
  clear HL
  have HM := Lib.hid hL
  have HC := Lib.hid hcs
  have HB := Lib.hid hpb
  clear hL hcs hpb
  go_loopw [5] (fun i wr => ∃ k p : Nat, p = 64 * k ∧ p ≤ L ∧ i = .int .i64 p ∧ Hid (RsRel w g cs m k wr)) (fun i _ => L - (intOf i).toNat)
  case atStart => exact ⟨0, 0, rfl, by omega, rfl, Lib.hid ⟨M0, M1, M2, MG, MB⟩⟩
  case round =>
    clear M0 M1 M2 MG MB
    obtain ⟨k, p, hpk, hpL, rfl, hR⟩ := hrel
    obtain ⟨K0, K1, K2, KG, KB⟩ := hR.out
    clear hR
    by_cases hlt : p < L
    · have hp64 : p + 64 ≤ L := by omega
      have hbb : Byts ((m.drop p).take 64) := blk_bytes m HB.out p (by rw [HM.out]; exact hp64)
      have hh := has_of_blk K2 (by rw [HM.out]; exact HC.out) HB.out p 64
      have hst1 : hst m (k + 1) = comp (hst m k) ((m.drop p).take 64) := by rw [hst, hpk]
      generalize hbk : (m.drop p).take 64 = b at hbb hh hst1
      have HST := Lib.hid hst1
      have HPK := Lib.hid hpk
      clear hbk hst1 hpk
      obtain ⟨st, hste⟩ : ∃ x, hst m k = x := ⟨_, rfl⟩
      rw [hste] at K1
      have HSK := Lib.hid hste
      clear hste
      obtain ⟨sa, sb', sc, sd, se, sf, sg, sh⟩ := st
      go_upto_region 6 with (fail)
      have e64 : IntKind.i64.wrap ((p : Int) + 64) = ((p + 64 : Nat) : Int) := by rw [IntWalk.i64_in _ (by omega)]; omega
      have hcp : p + 64 ≤ cap := by omega
      have HWD := Lib.hid (fun c' => words_any ⟨g, p, none⟩ b hbb c' wr hh)
      clear hh
      go_upto_region 7 with (first | (go_at_call 78; refine (HWD.out _).mono ?_; rintro e w1 ⟨rfl, hB1⟩) | (refine store_blk rfl 129 (.tmp 6) (.tmp 34) rfl (blk_new w1 _ _) rfl rfl (m := 64) (by kernel_rfl) (by rw [wordsV_length, sched_length]) rfl (wordsV_cells _) ?_; intro w2 H5 hO))
      have hs1 := hB1.size
      have hb1 := K1.lt
      have hb2 := K2.lt
      have J0 := hO.2.1 _ _ _ (by omega) ((K0.keep hB1).alloc (.cells (List.replicate 64 (wordV 0)).toArray 129))
      have J1 := hO.2.1 _ _ _ (by omega) ((K1.keep hB1).alloc (.cells (List.replicate 64 (wordV 0)).toArray 129))
      have J2 := hO.2.1 _ _ _ (by omega) ((K2.keep hB1).alloc (.cells (List.replicate 64 (wordV 0)).toArray 129))
      have JB : Below w.heap.size w w2 := hO.2.2 _ _ (by omega) ((KB.trans (hB1.mono (by omega))).alloc (by omega) _)
      have JG := hG.keep JB
      have hb5 : w.heap.size + 1 < w1.heap.size := by omega
      have hg5 : g < w1.heap.size := by omega
      clear K0 K1 K2 KG KB hB1 hO hs1 hb1 hb2 HWD e64
      generalize w1.heap.size = B5 at *
      have a0 : w2.cell? ⟨w.heap.size + 1, 0, none⟩ = some (.int .u32 (u sa)) := J1.cell rfl
      have a1 : w2.cell? ⟨w.heap.size + 1, 1, none⟩ = some (.int .u32 (u sb')) := J1.cell rfl
      have a2 : w2.cell? ⟨w.heap.size + 1, 2, none⟩ = some (.int .u32 (u sc)) := J1.cell rfl
      have a3 : w2.cell? ⟨w.heap.size + 1, 3, none⟩ = some (.int .u32 (u sd)) := J1.cell rfl
      have a4 : w2.cell? ⟨w.heap.size + 1, 4, none⟩ = some (.int .u32 (u se)) := J1.cell rfl
      have a5 : w2.cell? ⟨w.heap.size + 1, 5, none⟩ = some (.int .u32 (u sf)) := J1.cell rfl
      have a6 : w2.cell? ⟨w.heap.size + 1, 6, none⟩ = some (.int .u32 (u sg)) := J1.cell rfl
      have a7 : w2.cell? ⟨w.heap.size + 1, 7, none⟩ = some (.int .u32 (u sh)) := J1.cell rfl
      go_quiet (fail)
      clear a0 a1 a2 a3 a4 a5 a6 a7
      replace J0 := J0.drewN nq
      replace J1 := J1.drewN nq
      replace J2 := J2.drewN nq
      replace H5 := H5.drewN nq
      replace JB := below_drewN JB nq
      replace JG : GlobR (w2.drewN nq) := JG
      generalize w2.drewN nq = w4 at *
      go_wp2
      go_loopw [7, 8, 9, 10, 11, 12, 13, 14, 15] (fun va vb vc vd ve vf vg vh i wr => ∃ k : Nat, k ≤ 64 ∧ i = .int .i64 k ∧ ∃ ra rb rc rd re rf rg rh, Hid ((⟨ra, rb, rc, rd, re, rf, rg, rh⟩ : St) = rnds kk (sched b 64) ⟨sa, sb', sc, sd, se, sf, sg, sh⟩ k) ∧ va = .int .u32 (u ra) ∧ vb = .int .u32 (u rb) ∧ vc = .int .u32 (u rc) ∧ vd = .int .u32 (u rd) ∧ ve = .int .u32 (u re) ∧ vf = .int .u32 (u rf) ∧ vg = .int .u32 (u rg) ∧ vh = .int .u32 (u rh) ∧
        Blk wr w.heap.size 114 (bytesV z32) ∧ Blk wr (w.heap.size + 1) 119 (wordsV (stL ⟨sa, sb', sc, sd, se, sf, sg, sh⟩)) ∧ Blk wr g 5 cs ∧ Blk wr B5 129 (wordsV (sched b 64)) ∧ GlobR wr ∧ Below w.heap.size w wr) (fun _ _ _ _ _ _ _ _ i _ => 64 - (intOf i).toNat)
      case atStart => exact ⟨0, by omega, rfl, sa, sb', sc, sd, se, sf, sg, sh, Lib.hid rfl, rfl, rfl, rfl, rfl, rfl, rfl, rfl, rfl, J0, J1, J2, H5, JG, JB⟩
      case round =>
        clear J0 J1 J2 H5 JG JB
        obtain ⟨q, hq, rfl, ra, rb, rc, rd, re, rf, rg, rh, HR, rfl, rfl, rfl, rfl, rfl, rfl, rfl, rfl, K0, K1, K2, H5, KG, KB⟩ := hrel
        by_cases h64 : q < 64
        · have ck := KG.round q h64
          have cw : wr.cell? ⟨B5, q, none⟩ = some (.int .u32 (u ((sched b 64).getD q 0))) := H5.cell (words_get (by rw [sched_length]; exact h64))
          have HN : Hid (rnd ⟨ra, rb, rc, rd, re, rf, rg, rh⟩ (kk.getD q 0) ((sched b 64).getD q 0) = rnds kk (sched b 64) ⟨sa, sb', sc, sd, se, sf, sg, sh⟩ (q + 1)) := by
            have e : rnd ⟨ra, rb, rc, rd, re, rf, rg, rh⟩ (kk.getD q 0) ((sched b 64).getD q 0) = rnds kk (sched b 64) ⟨sa, sb', sc, sd, se, sf, sg, sh⟩ (q + 1) := by
              rw [rnds, ← HR.out]
            exact Lib.hid e
          generalize kk.getD q 0 = xk at ck HN
          generalize (sched b 64).getD q 0 = xw at cw HN
          clear HR
          go_upto_region 11 with (fail)
          go_quiet ((first | (go_at_call 79; with_reducible exact Calls.quiet_of (rotr6 re _)) | (go_at_call 79; with_reducible exact Calls.quiet_of (rotr11 re _)) | (go_at_call 79; with_reducible exact Calls.quiet_of (rotr25 re _))))
          generalize hwq : wr.drewN nq = wq
          replace K0 : Blk wq _ _ _ := hwq ▸ K0.drewN nq
          replace K1 : Blk wq _ _ _ := hwq ▸ K1.drewN nq
          replace K2 : Blk wq _ _ _ := hwq ▸ K2.drewN nq
          replace H5 : Blk wq _ _ _ := hwq ▸ H5.drewN nq
          replace KB : Below w.heap.size w wq := hwq ▸ below_drewN KB nq
          replace KG : GlobR wq := hwq ▸ KG
          clear ck cw hwq
          go_wp2_with (first | (go_at_call 79; (with_reducible refine (rotr2 ra _).mono ?_); rintro e w3 ⟨rfl, q3, rfl⟩) | (go_at_call 79; (with_reducible refine (rotr13 ra _).mono ?_); rintro e w3 ⟨rfl, q3, rfl⟩) | (go_at_call 79; (with_reducible refine (rotr22 ra _).mono ?_); rintro e w3 ⟨rfl, q3, rfl⟩))
          go_roundw
          case rel =>
            have hx := x_rawR ra rb rc rd re rf rg rh xk xw
            have hy := y_raw ra rb rc rd re rf rg rh
            exact ⟨q + 1, by omega, by go_num, rx ⟨ra, rb, rc, rd, re, rf, rg, rh⟩ xk xw + ry ⟨ra, rb, rc, rd, re, rf, rg, rh⟩, ra, rb, rc, rd + rx ⟨ra, rb, rc, rd, re, rf, rg, rh⟩ xk xw, re, rf, rg, HN, by rw [hx, hy, add_u], rfl, rfl, rfl, by rw [hx, add_u], rfl, rfl, rfl, K0, K1, K2, H5, KG, below_drewN KB _⟩
          case measure => simp [intOf]; omega
        · obtain rfl : q = 64 := by omega
          have hcomp : hst m (k + 1) = ⟨sa + ra, sb' + rb, sc + rc, sd + rd, se + re, sf + rf, sg + rg, sh + rh⟩ := by
            rw [HST.out, HSK.out]
            unfold comp
            rw [← HR.out]
            rfl
          have HCP := Lib.hid hcomp
          clear hcomp HR H5 HST HSK
          have a0 : wr.cell? ⟨w.heap.size + 1, 0, none⟩ = some (.int .u32 (u sa)) := K1.cell rfl
          have a1 : wr.cell? ⟨w.heap.size + 1, 1, none⟩ = some (.int .u32 (u sb')) := K1.cell rfl
          have a2 : wr.cell? ⟨w.heap.size + 1, 2, none⟩ = some (.int .u32 (u sc)) := K1.cell rfl
          have a3 : wr.cell? ⟨w.heap.size + 1, 3, none⟩ = some (.int .u32 (u sd)) := K1.cell rfl
          have a4 : wr.cell? ⟨w.heap.size + 1, 4, none⟩ = some (.int .u32 (u se)) := K1.cell rfl
          have a5 : wr.cell? ⟨w.heap.size + 1, 5, none⟩ = some (.int .u32 (u sf)) := K1.cell rfl
          have a6 : wr.cell? ⟨w.heap.size + 1, 6, none⟩ = some (.int .u32 (u sg)) := K1.cell rfl
          have a7 : wr.cell? ⟨w.heap.size + 1, 7, none⟩ = some (.int .u32 (u sh)) := K1.cell rfl
          have r0 := add_u sa ra
          have r1 := add_u sb' rb
          have r2 := add_u sc rc
          have r3 := add_u sd rd
          have r4 := add_u se re
          have r5 := add_u sf rf
          have r6 := add_u sg rg
          have r7 := add_u sh rh
          go_upto_region 5 with (refine store_blk rfl 119 (.tmp 3) (.tmp 146) rfl (vs := wordsV [sa + ra, sb' + rb, sc + rc, sd + rd, se + re, sf + rf, sg + rg, sh + rh]) K1 rfl rfl (m := 8) (by kernel_rfl) rfl rfl (wordsV_cells _) ?_; intro w5 M1 hO5)
          clear a0 a1 a2 a3 a4 a5 a6 a7 r0 r1 r2 r3 r4 r5 r6 r7
          have M0 := hO5.2.1 _ _ _ (by omega) K0
          have M2 := hO5.2.1 _ _ _ (by omega) K2
          have MB : Below w.heap.size w w5 := hO5.2.2 _ _ (by omega) KB
          have MG := hG.keep MB
          clear K0 K1 K2 KG KB hO5
          go_wp2
          go_roundw
          case rel => exact ⟨k + 1, p + 64, by have := HPK.out; omega, by omega, by go_num, Lib.hid ⟨M0, by rw [HCP.out]; exact M1, M2, MG, MB⟩⟩
          case measure => simp [intOf]; omega
    · obtain rfl : p = L := by omega
      have HFIN : Hid (sha l = outB (hst m k)) := by
        have e : sha l = outB (hst m k) := by rw [HPL.out, hpk, Nat.mul_div_cancel_left _ (by omega)]
        exact Lib.hid e
      clear hpk HPL K2 KG
      generalize hst m k = ss at K1 HFIN
      have hz2 := zero_32
      have hsw := K1.lt
      go_upto_region 23 with (fail)
      have L0 := K0.alloc (.cells (bytesV z32).toArray 114)
      have L1 := K1.alloc (.cells (bytesV z32).toArray 114)
      have L6 : Blk (wr.alloc (.cells (bytesV z32).toArray 114)) wr.heap.size 114 (bytesV (outA ss 0)) := blk_new _ _ _
      have LB := KB.alloc (by omega) (.cells (bytesV z32).toArray 114)
      clear K0 K1 KB hz2
      generalize World.alloc wr _ = wy at L0 L1 L6 LB ⊢
      generalize wr.heap.size = b6 at *
      go_wp2
      go_loopw [19] (fun v wr => RoRel w ss b6 v wr) (fun v _ => 32 - (intOf v).toNat)
      case atStart => exact ⟨0, by omega, rfl, L1, L0, L6, LB⟩
      case round =>
        clear L0 L1 L6 LB
        obtain ⟨i, hi, rfl, N1, N0, N6, NB⟩ := hrel
        by_cases h32 : i < 32
        · obtain ⟨q, hq⟩ : ∃ q, i / 4 = q := ⟨_, rfl⟩
          have hqi : ((i : Int) / 4) = (q : Int) := by omega
          have hq8 : q < 8 := by omega
          have cw : wr.cell? ⟨w.heap.size + 1, q, none⟩ = some (.int .u32 (u ((stL ss).getD q 0))) := N1.cell (words_get hq8)
          have c6 : wr.cell? ⟨b6, i, none⟩ = some ((bytesV (outA ss i))[i]'(by rw [bytesV_length, outA_length _ _ hi]; exact h32)) := N6.cell (List.getElem?_eq_getElem _)
          have f6 := N6.free i
          have hqr : i / 4 = q := hq
          clear hq
          generalize hxw : (stL ss).getD q 0 = xw at cw
          have x0 := u_lo xw
          have x1 := u_hi xw
          have HX := Lib.hid hxw
          clear hxw
          obtain hr4 | hr4 | hr4 | hr4 : i % 4 = 0 ∨ i % 4 = 1 ∨ i % 4 = 2 ∨ i % 4 = 3 := by omega
          · have hri : ((i : Int) % 4) = 0 := by omega
            go_wp2
            go_roundw
            case rel => exact ⟨i + 1, by omega, by go_num, N1.other (by simp; omega) _, N0.other (by simp; omega) _, out_step (q := q) (r := 0) N6 hq8 (by omega) (by omega) HX.out 16777216 (by decide) (by unfold u; omega), NB.setCell (by simp; omega) _⟩
            case measure => simp [intOf]; omega
          · have hri : ((i : Int) % 4) = 1 := by omega
            go_wp2
            go_roundw
            case rel => exact ⟨i + 1, by omega, by go_num, N1.other (by simp; omega) _, N0.other (by simp; omega) _, out_step (q := q) (r := 1) N6 hq8 (by omega) (by omega) HX.out 65536 (by decide) (by unfold u; omega), NB.setCell (by simp; omega) _⟩
            case measure => simp [intOf]; omega
          · have hri : ((i : Int) % 4) = 2 := by omega
            go_wp2
            go_roundw
            case rel => exact ⟨i + 1, by omega, by go_num, N1.other (by simp; omega) _, N0.other (by simp; omega) _, out_step (q := q) (r := 2) N6 hq8 (by omega) (by omega) HX.out 256 (by decide) (by unfold u; omega), NB.setCell (by simp; omega) _⟩
            case measure => simp [intOf]; omega
          · have hri : ((i : Int) % 4) = 3 := by omega
            go_wp2
            go_roundw
            case rel => exact ⟨i + 1, by omega, by go_num, N1.other (by simp; omega) _, N0.other (by simp; omega) _, out_step (q := q) (r := 3) N6 hq8 (by omega) (by omega) HX.out 1 (by decide) (by unfold u; omega), NB.setCell (by simp; omega) _⟩
            case measure => simp [intOf]; omega
        · obtain rfl : i = 32 := by omega
          rw [outA_full, ← HFIN.out] at N6
          have hsl : (bytesV (sha l)).length = 32 := by rw [bytesV_length]; exact sha_length l
          clear HFIN
          go_wp2_with (first | (refine load_blk rfl 114 (.tmp 18) rfl N6 rfl Tryd.underlying114 (m := 32) (by kernel_rfl) hsl ?_) | (refine store_blk rfl 114 (.tmp 2) (.tmp 163) rfl N0 rfl rfl (m := 32) (by kernel_rfl) hsl (by rw [bytesV_length]; rfl) (bytesV_cells _) ?_; intro w5 hb5 ho5))
          exact bodyPost_ret (v := .agg (bytesV (sha l)).toArray) (hb5.result (p := 2) (ty := 114) rfl _ rfl Tryd.underlying114 (by rw [hsl]; kernel_rfl)) rfl ⟨rfl, ho5.2.2 _ _ (by omega) NB⟩

end Go.Proofs.YtfhfmdnimebegaaDoor

/-
  The three tables, of the package hash and of its specification, as the rows list them.
-/
namespace Go.Proofs.YtfhfmdnimebegaaDoor
open Go.ChangeShapes Go.WideShapes Go.ChangeAt Go.RowKit
set_option linter.unusedVariables false
set_option linter.unusedSimpArgs false

theorem gConst : Tryd.prog.globalNamed "passim/passimref02.constants" = some 0 := by kernel_rfl
theorem gConstType : (Tryd.prog.globals[0]?).map (·.type) = some 129 := by kernel_rfl
theorem glob3_of {W : World} {rest : List (String × DataW Unit)} (h : laidMet Tryd.prog (("passim/passimref02.constants", Lib.tabData .u32 roundsZ) :: ("passim/hash.start", Lib.tabData .u32 startZ) :: ("passim/hash.rounds", Lib.tabData .u32 roundsZ) :: rest) W) : GlobR W ∧ Glob W := by
  have h1 := Lib.tabIs_of_head gConst gConstType Tryd.underlying129 Tryd.underlying118 cells1 cells64 h
  refine ⟨⟨?_, lt_of_cell (h1.cell gConst 0 (by decide))⟩, glob_of (laid_tail h)⟩
  rw [rounds_words]
  exact range_tab h1 gConst

/-- A world in which the three tables are laid. -/
noncomputable def laidWorld3 (os : Os) : World :=
  { World.holding Tryd.prog os ⟨#[], #[], []⟩ with heap := ((((World.holding Tryd.prog os ⟨#[], #[], []⟩).heap.modify 1 (fun
      | .cells _ t frozen => .cells (startZ.map fun z => Value.int .u32 z).toArray t frozen
      | o => o)).modify 2 (fun
      | .cells _ t frozen => .cells (roundsZ.map fun z => Value.int .u32 z).toArray t frozen
      | o => o)).modify 0 (fun
      | .cells _ t frozen => .cells (roundsZ.map fun z => Value.int .u32 z).toArray t frozen
      | o => o)) }

end Go.Proofs.YtfhfmdnimebegaaDoor

/-
  Words for regions that are walked by hand.
-/
namespace Go.Proofs.YtfhfmdnimebegaaDoor
open Go.RowKit
set_option linter.unusedVariables false
set_option linter.unusedSimpArgs false

theorem rng_blk {x : World} {b : Nat} {t : TypeId} {cs : List Value} (h : Blk x b t cs) (w' : World) (hB : Below x.heap.size x w') : w'.rangeAt b 0 cs := by
  have hr := (h.keep hB).range 0 cs.length
  rwa [List.drop_zero, List.take_length] at hr
theorem to_bytes_has (s : ByteArray) (w : World) : ∃ cap w2, (convert 9 39 (.string s)).run Tryd.prog w = .ok (.slice (some ⟨w.heap.size, 0, none⟩) s.size cap) w2 ∧ Below w.heap.size w w2 ∧ Has w2 (some ⟨w.heap.size, 0, none⟩) (sb s) := by
  obtain ⟨cap, w2, h1, h2, h3⟩ := to_bytes s w
  refine ⟨cap, w2, h1, h2, fun j u hj => ⟨_, rfl, ?_, h3 j u hj⟩, sb_lt s⟩
  have := h3 j u hj
  rw [Addr.add_mid] at this
  exact (show w.heap.size < w2.heap.size from World.block_lt_of_cell? w2 ⟨w.heap.size, 0 + j, none⟩ this)
theorem size_blk32 (D : List Nat) (h : D.length = 32) : (Tryd.prog.info? 114).map (·.size) = some (bytesV D).length := by
  rw [bytesV_length, h]
  kernel_rfl
theorem equal_self (D : List Nat) (h : D.length = 32) (hb : ∀ y ∈ D, y < 256) (w : World) : (Op.equalIn 10000 114 (.agg (bytesV D).toArray) (.agg (bytesV D).toArray)).run Tryd.prog w = .ok true w := by rw [equal_32 w D D h h hb hb]; simp

end Go.Proofs.YtfhfmdnimebegaaDoor

/-
  passimref02.Short returns the first 16 bytes of the hash of an input, and Of the digest of a tag and of parts.
-/
namespace Go.Proofs.YtfhfmdnimebegaaDoor
open Go.RowKit
set_option linter.unusedVariables false
set_option linter.unusedSimpArgs false

/-- The digest when its first i bytes have been laid. -/
def shA (D : List Nat) (i : Nat) : List Nat := D.take i ++ List.replicate (16 - i) 0
theorem shA_zero (D : List Nat) : shA D 0 = z16 := rfl
theorem shA_length (D : List Nat) (i : Nat) (h : i ≤ 16) (hD : D.length = 32) : (shA D i).length = 16 := by simp [shA, hD]; omega
theorem shA_full (D : List Nat) : shA D 16 = D.take 16 := by simp [shA]
theorem shA_set (D : List Nat) (i : Nat) (h : i < 16) (hD : D.length = 32) : (shA D i).set i (D[i]'(by omega)) = shA D (i + 1) := by
  have hl : (D.take i).length = i := by rw [List.length_take]; omega
  unfold shA
  rw [List.set_append_right _ _ (by omega), hl, Nat.sub_self]
  obtain ⟨k, hk⟩ : ∃ k, 16 - i = k + 1 := ⟨15 - i, by omega⟩
  rw [hk, List.replicate_succ, List.set_cons_zero, show 16 - (i + 1) = k by omega, List.take_add_one, List.getElem?_eq_getElem (by omega)]
  simp only [Option.toList_some, List.append_assoc, List.cons_append, List.nil_append]

set_option maxHeartbeats 1000000 in
set_option maxRecDepth 100000 in
theorem short_any (A : Option Addr) (l : List Nat) (n c : Nat) (w : World) (hn : n = l.length) (hl : l.length ≤ 1099511627776) (hr : Has w A l) (hR : GlobR w) :
    Calls Tryd.prog 54 #[.slice A n c] w fun e w' => e = .returned (.agg (bytesV ((sha l).take 16)).toArray) ∧ Below w.heap.size w w' := by
  subst hn
  have hz1 := zero_dig'
  have hz2 := zero_32
  go_enter Tryd.func54, Tryd.ntmps54
  go_upto_region 1 with (fail)
  generalize hw0 : World.alloc _ _ = W0
  have K0 : Blk W0 w.heap.size 29 (bytesV z16) := hw0 ▸ blk_new w _ _
  have KB : Below w.heap.size w W0 := hw0 ▸ ((Below.refl _ _).alloc (Nat.le_refl _) _)
  clear hw0
  have HS := Lib.hid (rsum_any A l l.length c W0 rfl hl (hr.keep KB) (hR.keep KB))
  obtain ⟨D, hDe⟩ : ∃ D, sha l = D := ⟨_, rfl⟩
  have hDl : D.length = 32 := by rw [← hDe]; exact sha_length _
  have hDv : (bytesV D).length = 32 := by rw [bytesV_length]; exact hDl
  have hzv : (bytesV z32).toArray.toList.length = 32 := by rw [List.toList_toArray, bytesV_length]; rfl
  rw [hDe] at HS
  have HD := Lib.hid hDe
  clear hDe
  go_upto_region 2 with (first | (go_at_call 69; refine HS.out.mono ?_; rintro e w1 ⟨rfl, hB1⟩) | (refine store_blk rfl 114 (.tmp 3) (.tmp 7) rfl (blk_new w1 _ (bytesV z32).toArray) rfl rfl (m := 32) (by kernel_rfl) hDv hzv (bytesV_cells D) ?_; intro w2 K3 O3))
  have hs1 := hB1.size
  have hk0 := K0.lt
  have L0 := O3.2.1 _ _ _ (by omega) ((K0.keep hB1).alloc (.cells (bytesV z32).toArray 114))
  have LB : Below w.heap.size w w2 := O3.2.2 _ _ (by have := KB.size; omega) ((KB.trans (hB1.mono KB.size)).alloc (by have := KB.size; omega) _)
  have hb3 : w.heap.size < w1.heap.size := by omega
  clear K0 KB hB1 O3 hs1 hk0 HS
  generalize w1.heap.size = b3 at *
  have hz16 : (bytesV z16).length = 16 := rfl
  have hzw : (bytesV z16).toArray.toList.length = 16 := rfl
  go_upto_region 3 with (refine store_blk rfl 29 (.tmp 4) (.tmp 8) rfl (blk_new w2 29 (bytesV z16).toArray) rfl rfl (m := 16) (by kernel_rfl) hz16 hzw (bytesV_cells z16) ?_; intro w3 K4 O4)
  have hl0 := L0.lt
  have hl3 := K3.lt
  have M0 := O4.2.1 _ _ _ (by omega) (L0.alloc (.cells (bytesV z16).toArray 29))
  have M3 := O4.2.1 _ _ _ (by omega) (K3.alloc (.cells (bytesV z16).toArray 29))
  have MB : Below w.heap.size w w3 := O4.2.2 _ _ LB.size (LB.alloc LB.size _)
  have hb4 : b3 < w2.heap.size := by omega
  have M4 : Blk w3 w2.heap.size 29 (bytesV (shA D 0)) := K4
  clear L0 K3 LB K4 O4 hl0 hl3 hz1 hz2
  generalize w2.heap.size = b4 at *
  go_wp2
  go_loopw [5] (fun v wr => ∃ i : Nat, i ≤ 16 ∧ v = .int .i64 i ∧ Blk wr w.heap.size 29 (bytesV z16) ∧ Blk wr b3 114 (bytesV D) ∧ Blk wr b4 29 (bytesV (shA D i)) ∧ Below w.heap.size w wr) (fun v _ => 16 - (intOf v).toNat)
  case atStart => exact ⟨0, by omega, rfl, M0, M3, M4, MB⟩
  case round =>
    clear M0 M3 M4 MB
    obtain ⟨i, hi, rfl, N0, N3, N4, NB⟩ := hrel
    by_cases h16 : i < 16
    · obtain ⟨y, hy⟩ : ∃ y, D[i]'(by omega) = y := ⟨_, rfl⟩
      have cy : wr.cell? ⟨b3, i, none⟩ = some (.int .u8 (y : Int)) := N3.cell (by simp [bytesV, byteV, show i < D.length by omega, hy])
      have c4 : wr.cell? ⟨b4, i, none⟩ = some ((bytesV (shA D i))[i]'(by rw [bytesV_length, shA_length _ _ hi hDl]; exact h16)) := N4.cell (List.getElem?_eq_getElem _)
      have f4 := N4.free i
      have hset := N4.set i (byteV y)
      have e : (bytesV (shA D i)).set i (byteV y) = bytesV (shA D (i + 1)) := by
        rw [← shA_set D i h16 hDl, hy]
        unfold bytesV
        rw [List.map_set]
      rw [e] at hset
      have l32 : (i : Int) < 32 := by omega
      clear e
      go_wp2
      go_roundw
      case rel => exact ⟨i + 1, by omega, by go_num, N0.other (by simp; omega) _, N3.other (by simp; omega) _, hset, NB.setCell (by simp; omega) _⟩
      case measure => simp [intOf]; omega
    · obtain rfl : i = 16 := by omega
      rw [shA_full] at N4
      have hsl : (bytesV (D.take 16)).length = 16 := by rw [bytesV_length, List.length_take]; omega
      go_wp2_with (first | (refine load_blk rfl 29 (.tmp 4) rfl N4 rfl Tryd.underlying29 (m := 16) (by kernel_rfl) hsl ?_) | (refine store_blk rfl 29 (.tmp 2) (.tmp 18) rfl N0 rfl rfl (m := 16) (by kernel_rfl) hsl hz16 (bytesV_cells _) ?_; intro w5 hb5 ho5))
      exact bodyPost_ret (v := .agg (bytesV (D.take 16)).toArray) (hb5.result (p := 2) (ty := 29) rfl _ rfl Tryd.underlying29 (by rw [hsl]; kernel_rfl)) rfl ⟨by rw [HD.out], ho5.2.2 _ _ (by omega) NB⟩

set_option maxHeartbeats 1000000 in
set_option maxRecDepth 100000 in
theorem rof_any (tag : Int) (T : Nat) (hT : T < 256) (hTt : IntKind.u8.wrap tag = (T : Int)) (A : Option Addr) (ps : List ByteArray) (n c : Nat) (w : World) (hn : n = ps.length) (hl : ps.length ≤ 1024) (ht : ∀ s ∈ ps, s.size ≤ 1048576) (hr : Cells w A (strsV ps)) (hR : GlobR w) :
    Calls Tryd.prog 37 #[.int .i64 tag, .slice A n c] w fun e w' => e = .returned (.agg (bytesV ((sha (ofIn T (sbs ps))).take 16)).toArray) ∧ Below w.heap.size w w' := by
  subst hn
  have hlen := ofM_len T ps ht ps.length (Nat.le_refl _)
  rw [ofM_all] at hlen
  have hbt : ∀ y ∈ ofIn T (sbs ps), y < 256 := by
    intro y hy
    unfold ofIn at hy
    rcases List.mem_cons.1 hy with rfl | h
    · exact hT
    · obtain ⟨d, hd, hyd⟩ := List.mem_flatMap.1 h
      obtain ⟨s, hs, rfl⟩ := List.mem_map.1 hd
      exact encS_byte s (ht s hs) y hyd
  have HI := Lib.hid (fun w0 h => input_any tag T hT hTt A ps ps.length c w0 rfl (by omega) ht h)
  obtain ⟨m, hm⟩ : ∃ m, ofIn T (sbs ps) = m := ⟨_, rfl⟩
  have hm0 : 0 < m.length := by rw [← hm]; simp [ofIn]
  rw [hm] at HI hlen hbt ⊢
  clear hm
  have hz1 := zero_dig'
  go_enter Tryd.func37, Tryd.ntmps37
  go_upto_region 1 with (fail)
  generalize hw0 : World.alloc _ _ = W0
  have K0 : Blk W0 w.heap.size 29 (bytesV z16) := hw0 ▸ blk_new w _ _
  have KB : Below w.heap.size w W0 := hw0 ▸ ((Below.refl _ _).alloc (Nat.le_refl _) _)
  clear hw0 hz1
  have hr0 := hr.keep KB
  have hR0 := hR.keep KB
  go_wp2_with fail
  refine (HI.out _ hr0).mono ?_
  rintro e w1 ⟨g, cap, rfl, hO⟩
  have hH := hO.has hbt
  have hR1 := hR0.keep hO.below
  have K1 := K0.keep hO.below
  have KB1 := KB.trans (hO.below.mono KB.size)
  go_wp2_with fail
  refine (short_any (some ⟨g, 0, none⟩) m m.length cap _ rfl (by omega) hH hR1).mono ?_
  rintro e w2 ⟨rfl, hB2⟩
  have K2 := K1.keep hB2
  have KB2 := KB1.trans (hB2.mono KB1.size)
  obtain ⟨D, hD⟩ : ∃ D, (sha m).take 16 = D := ⟨_, rfl⟩
  have hDl : (bytesV D).length = 16 := by rw [← hD, bytesV_length, List.length_take, sha_length]; rfl
  have hz16 : (bytesV z16).length = 16 := rfl
  rw [hD]
  have HD := Lib.hid hD
  clear K0 KB K1 KB1 hO hH hB2 hD
  go_wp2_with (refine store_blk rfl 29 (.tmp 4) (.tmp 8) rfl K2 rfl rfl (m := 16) (by kernel_rfl) hDl hz16 (bytesV_cells _) ?_; intro w5 hb5 ho5)
  exact bodyPost_ret (v := .agg (bytesV D).toArray) (hb5.result (p := 4) (ty := 29) rfl _ rfl Tryd.underlying29 (by rw [hDl]; kernel_rfl)) rfl ⟨by rw [HD.out], ho5.2.2 _ _ (Nat.le_refl _) KB2⟩

end Go.Proofs.YtfhfmdnimebegaaDoor

/-
  passimref01.Same, SameInts and SameTexts tell whether two lists are equal.
-/
namespace Go.Proofs.YtfhfmdnimebegaaDoor
open Go.RowKit

theorem take_eq_step {α : Type} {l m : List α} {k : Nat} (h1 : k < l.length) (h2 : k < m.length) (h : l.take k = m.take k) (e : l[k] = m[k]) : l.take (k + 1) = m.take (k + 1) := by
  rw [List.take_add_one, List.take_add_one, List.getElem?_eq_getElem h1, List.getElem?_eq_getElem h2, h, e]

/-- The call told whether two lists are equal; nothing that was there has changed. -/

theorem told_of {α : Type} [DecidableEq α] {W w : World} {l m : List α} {b : Bool} (h : decide (l = m) = b) (hB : Below W.heap.size W w) : Told W (decide (l = m)) (.returned (.bool b)) w := ⟨by rw [h], hB⟩

theorem bytes_ext {x y : ByteArray} (h : x.toList = y.toList) : x = y := by
  rw [Lib.toList_data, Lib.toList_data] at h
  cases x; cases y
  congr 1
  exact Array.toList_inj.1 h

end Go.Proofs.YtfhfmdnimebegaaDoor
