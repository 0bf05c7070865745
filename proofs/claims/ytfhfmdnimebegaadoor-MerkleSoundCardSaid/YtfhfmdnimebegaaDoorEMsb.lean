/-
  SameDigests of two lists of sides: the same.
  Conditions: the tables of the packages hash and passimref02 lie as the program lays them when the call begins (the card ties them to the text); no other.
-/
import Derived.Test.YtfhfmdnimebegaaDoorE9
import Derived.Test.YtfhfmdnimebegaaDoorE7
import Derived.Test.YtfhfmdnimebegaaDoorE2
import Derived.Stop.BytesEq

namespace Go.Proofs.YtfhfmdnimebegaaDoor
open Go.RowKit
set_option linter.unusedVariables false
set_option linter.unusedSimpArgs false
namespace Sdg

theorem cell_bytes (d : List Nat) (h : ∀ y ∈ d, y < 256) : ((d.map UInt8.ofNat).map Extern.Stop.cell) = bytesV d := by
  rw [List.map_map]
  unfold bytesV
  apply List.map_congr_left
  intro y hy
  have := h y hy
  show Value.int .u8 ((UInt8.ofNat y).toNat : Int) = byteV y
  rw [show (UInt8.ofNat y).toNat = y from Nat.mod_eq_of_lt this]
  rfl
theorem ofNat_inj {x y : List Nat} (hx : ∀ d ∈ x, d < 256) (hy : ∀ d ∈ y, d < 256) (h : x.map UInt8.ofNat = y.map UInt8.ofNat) : x = y := by
  have e := congrArg (fun l => l.map (·.toNat)) h
  simp only [List.map_map] at e
  have k : ∀ l : List Nat, (∀ d ∈ l, d < 256) → l.map ((fun x : UInt8 => x.toNat) ∘ UInt8.ofNat) = l := by
    intro l hl
    conv => rhs; rw [← List.map_id l]
    apply List.map_congr_left
    intro d hd
    exact Nat.mod_eq_of_lt (hl d hd)
  rwa [k x hx, k y hy] at e
theorem run_neq_dig (w : World) (x y : List Nat) (hx : Dig x) (hy : Dig y) : (binOp .neq 29 (.agg (bytesV x).toArray) (.agg (bytesV y).toArray)).run Tryd.prog w = .ok (.bool (!decide (x = y))) w := by
  have hsz : ∀ w, (sizeOf 5).run Tryd.prog w = .ok 1 w := fun w => by
    obtain ⟨i0, hi, hz0, hz1, hz2⟩ := info_parts u8info
    simp [sizeOf, typeInfo, hi, hz1]
  rw [run_neq_struct, ← cell_bytes x hx.2, ← cell_bytes y hy.2]
  rw [run_equalIn_bytes w 9998 29 5 16 Tryd.underlying29 Tryd.underlying5 hsz _ _ (by simp [hx.1]) (by simp [hy.1])]
  simp only [Result.andThen_ok]
  congr 3
  rw [Bool.eq_iff_iff]
  simp only [beq_iff_eq, decide_eq_true_eq]
  exact ⟨fun h => ofNat_inj hx.2 hy.2 h, fun h => by rw [h]⟩

/-- Digests from offset o of block b on. -/
def DRow (w : World) (b o : Nat) (l : List (List Nat)) : Prop := ∀ k d, l[k]? = some d → Dig d ∧ b < w.heap.size ∧ w.rangeAt b (o + k * 16) (bytesV d)
theorem DRow.keep {w w' : World} {b o : Nat} {l : List (List Nat)} (h : DRow w b o l) (hb : Below w.heap.size w w') : DRow w' b o l := by
  intro k d hk
  obtain ⟨h1, h2, h3⟩ := h k d hk
  exact ⟨h1, Nat.lt_of_lt_of_le h2 hb.size, fun j u hu => (hb.cell h2).trans (h3 j u hu)⟩

set_option maxHeartbeats 400000 in
theorem sameDigests_any (b1 o1 b2 o2 : Nat) (l m : List (List Nat)) (n1 n2 c d : Nat) (w : World) (h1 : n1 = l.length) (h2 : n2 = m.length) (hl : l.length ≤ 1000000000) (hm : m.length ≤ 1000000000) (ha : DRow w b1 o1 l) (hb : DRow w b2 o2 m) :
    Calls Tryd.prog 49 #[.slice (some ⟨b1, o1, none⟩) n1 c, .slice (some ⟨b2, o2, none⟩) n2 d] w (Told w (decide (l = m))) := by
  subst h1; subst h2
  by_cases hlen : l.length = m.length
  · have hne : ((l.length : Int) != (m.length : Int)) = false := by simp [hlen]
    have HLEN := Lib.hid hlen
    clear hlen
    go_enter Tryd.func49, Tryd.ntmps49
    go_wp2
    go_loopw [5] (fun i wr => ∃ k : Nat, k ≤ l.length ∧ i = .int .i64 k ∧ Hid (l.take k = m.take k) ∧ Below w.heap.size w wr) (fun i _ => l.length - (intOf i).toNat)
    case atStart => exact ⟨0, by omega, rfl, Lib.hid (by simp), Below.refl _ _⟩
    case round =>
      obtain ⟨k, hk, rfl, HT, hB⟩ := hrel
      by_cases hlt : k < l.length
      · have hlt2 : k < m.length := by rw [← HLEN.out]; exact hlt
        obtain ⟨hx, _, hc1⟩ := (ha.keep hB) k l[k] (List.getElem?_eq_getElem hlt)
        obtain ⟨hy, _, hc2⟩ := (hb.keep hB) k m[k] (List.getElem?_eq_getElem hlt2)
        have HS : Hid (l[k] = m[k] → l.take (k + 1) = m.take (k + 1)) := fun e => take_eq_step hlt hlt2 HT.out e
        have HN : Hid (l[k] ≠ m[k] → l ≠ m) := fun e1 e2 => e1 (by subst e2; rfl)
        generalize l[k] = x at hc1 hx HS HN
        generalize m[k] = y at hc2 hy HS HN
        have hneq : ∀ w', (binOp .neq 29 (.agg (bytesV x).toArray) (.agg (bytesV y).toArray)).run Tryd.prog w' = .ok (.bool (!decide (x = y))) w' := fun w' => run_neq_dig w' x y hx hy
        obtain ⟨x0, x1, x2, x3, x4, x5, x6, x7, x8, x9, x10, x11, x12, x13, x14, x15, ex⟩ := ex16 x hx.1
        obtain ⟨y0, y1, y2, y3, y4, y5, y6, y7, y8, y9, y10, y11, y12, y13, y14, y15, ey⟩ := ex16 y hy.1
        have hneq2 : ∀ w', (binOp .neq 29 (.agg #[.int .u8 (x0 : Int), .int .u8 (x1 : Int), .int .u8 (x2 : Int), .int .u8 (x3 : Int), .int .u8 (x4 : Int), .int .u8 (x5 : Int), .int .u8 (x6 : Int), .int .u8 (x7 : Int), .int .u8 (x8 : Int), .int .u8 (x9 : Int), .int .u8 (x10 : Int), .int .u8 (x11 : Int), .int .u8 (x12 : Int), .int .u8 (x13 : Int), .int .u8 (x14 : Int), .int .u8 (x15 : Int)]) (.agg #[.int .u8 (y0 : Int), .int .u8 (y1 : Int), .int .u8 (y2 : Int), .int .u8 (y3 : Int), .int .u8 (y4 : Int), .int .u8 (y5 : Int), .int .u8 (y6 : Int), .int .u8 (y7 : Int), .int .u8 (y8 : Int), .int .u8 (y9 : Int), .int .u8 (y10 : Int), .int .u8 (y11 : Int), .int .u8 (y12 : Int), .int .u8 (y13 : Int), .int .u8 (y14 : Int), .int .u8 (y15 : Int)])).run Tryd.prog w' = .ok (.bool (!decide (x = y))) w' := by
          rw [ex, ey] at hneq ⊢
          exact hneq
        rw [ex] at hc1
        rw [ey] at hc2
        have x0c : wr.cell? ⟨b1, o1 + k * 16, none⟩ = some (.int .u8 x0) := hc1 0 _ rfl
        have x1c : wr.cell? ⟨b1, o1 + k * 16 + 1, none⟩ = some (.int .u8 x1) := hc1 1 _ rfl
        have x2c : wr.cell? ⟨b1, o1 + k * 16 + 2, none⟩ = some (.int .u8 x2) := hc1 2 _ rfl
        have x3c : wr.cell? ⟨b1, o1 + k * 16 + 3, none⟩ = some (.int .u8 x3) := hc1 3 _ rfl
        have x4c : wr.cell? ⟨b1, o1 + k * 16 + 4, none⟩ = some (.int .u8 x4) := hc1 4 _ rfl
        have x5c : wr.cell? ⟨b1, o1 + k * 16 + 5, none⟩ = some (.int .u8 x5) := hc1 5 _ rfl
        have x6c : wr.cell? ⟨b1, o1 + k * 16 + 6, none⟩ = some (.int .u8 x6) := hc1 6 _ rfl
        have x7c : wr.cell? ⟨b1, o1 + k * 16 + 7, none⟩ = some (.int .u8 x7) := hc1 7 _ rfl
        have x8c : wr.cell? ⟨b1, o1 + k * 16 + 8, none⟩ = some (.int .u8 x8) := hc1 8 _ rfl
        have x9c : wr.cell? ⟨b1, o1 + k * 16 + 9, none⟩ = some (.int .u8 x9) := hc1 9 _ rfl
        have x10c : wr.cell? ⟨b1, o1 + k * 16 + 10, none⟩ = some (.int .u8 x10) := hc1 10 _ rfl
        have x11c : wr.cell? ⟨b1, o1 + k * 16 + 11, none⟩ = some (.int .u8 x11) := hc1 11 _ rfl
        have x12c : wr.cell? ⟨b1, o1 + k * 16 + 12, none⟩ = some (.int .u8 x12) := hc1 12 _ rfl
        have x13c : wr.cell? ⟨b1, o1 + k * 16 + 13, none⟩ = some (.int .u8 x13) := hc1 13 _ rfl
        have x14c : wr.cell? ⟨b1, o1 + k * 16 + 14, none⟩ = some (.int .u8 x14) := hc1 14 _ rfl
        have x15c : wr.cell? ⟨b1, o1 + k * 16 + 15, none⟩ = some (.int .u8 x15) := hc1 15 _ rfl
        have y0c : wr.cell? ⟨b2, o2 + k * 16, none⟩ = some (.int .u8 y0) := hc2 0 _ rfl
        have y1c : wr.cell? ⟨b2, o2 + k * 16 + 1, none⟩ = some (.int .u8 y1) := hc2 1 _ rfl
        have y2c : wr.cell? ⟨b2, o2 + k * 16 + 2, none⟩ = some (.int .u8 y2) := hc2 2 _ rfl
        have y3c : wr.cell? ⟨b2, o2 + k * 16 + 3, none⟩ = some (.int .u8 y3) := hc2 3 _ rfl
        have y4c : wr.cell? ⟨b2, o2 + k * 16 + 4, none⟩ = some (.int .u8 y4) := hc2 4 _ rfl
        have y5c : wr.cell? ⟨b2, o2 + k * 16 + 5, none⟩ = some (.int .u8 y5) := hc2 5 _ rfl
        have y6c : wr.cell? ⟨b2, o2 + k * 16 + 6, none⟩ = some (.int .u8 y6) := hc2 6 _ rfl
        have y7c : wr.cell? ⟨b2, o2 + k * 16 + 7, none⟩ = some (.int .u8 y7) := hc2 7 _ rfl
        have y8c : wr.cell? ⟨b2, o2 + k * 16 + 8, none⟩ = some (.int .u8 y8) := hc2 8 _ rfl
        have y9c : wr.cell? ⟨b2, o2 + k * 16 + 9, none⟩ = some (.int .u8 y9) := hc2 9 _ rfl
        have y10c : wr.cell? ⟨b2, o2 + k * 16 + 10, none⟩ = some (.int .u8 y10) := hc2 10 _ rfl
        have y11c : wr.cell? ⟨b2, o2 + k * 16 + 11, none⟩ = some (.int .u8 y11) := hc2 11 _ rfl
        have y12c : wr.cell? ⟨b2, o2 + k * 16 + 12, none⟩ = some (.int .u8 y12) := hc2 12 _ rfl
        have y13c : wr.cell? ⟨b2, o2 + k * 16 + 13, none⟩ = some (.int .u8 y13) := hc2 13 _ rfl
        have y14c : wr.cell? ⟨b2, o2 + k * 16 + 14, none⟩ = some (.int .u8 y14) := hc2 14 _ rfl
        have y15c : wr.cell? ⟨b2, o2 + k * 16 + 15, none⟩ = some (.int .u8 y15) := hc2 15 _ rfl
        clear hneq hc1 hc2 ex ey hx hy
        by_cases hxy : x = y
        · have hb1 : decide (x = y) = true := by simp [hxy]
          have HT2 := Lib.hid (HS.out hxy)
          clear HS HN hxy
          go_wp2
          go_quiet (fail)
          go_wp2
          go_roundw
          case rel => exact ⟨k + 1, by omega, by go_num, HT2, below_drewN hB _⟩
          case measure => simp [intOf]; omega
        · have hb1 : decide (x = y) = false := by simp [hxy]
          have HN2 := Lib.hid (HN.out hxy)
          clear HS HN hxy
          go_wp2
          go_quiet (fail)
          go_wp2
          go_ret
          exact told_of (decide_eq_false HN2.out) (below_drewN hB _)
      · have HT3 : Hid (l = m) := by
          have e := HT.out
          rw [List.take_of_length_le (by omega), List.take_of_length_le (by rw [← HLEN.out]; omega)] at e
          exact e
        go_wp2
        go_ret
        exact told_of (decide_eq_true HT3.out) hB
  · have hne : ((l.length : Int) != (m.length : Int)) = true := by simp; omega
    go_enter Tryd.func49, Tryd.ntmps49
    go_wp2
    go_ret
    exact told_of (decide_eq_false (fun e => hlen (by rw [e]))) (Below.refl _ _)

theorem sameDigests_empty (A B : Option Addr) (c d : Nat) (w : World) : Calls Tryd.prog 49 #[.slice A 0 c, .slice B 0 d] w (Told w true) := by
  go_enter Tryd.func49, Tryd.ntmps49
  go_wp2
  go_loopw [5] (fun i wr => i = .int .i64 0 ∧ Below w.heap.size w wr) (fun _ _ => 0)
  case atStart => exact ⟨rfl, Below.refl _ _⟩
  case round =>
    obtain ⟨rfl, hB⟩ := hrel
    go_wp2
    go_ret
    exact ⟨rfl, hB⟩

/-- Sides that are the same. -/
theorem sides_self {w : World} {B1 B2 : Nat} {A B : Option Addr} {l : List (List Nat)} {c d : Nat} (hl : l.length ≤ 1000000000) (hd : ∀ x ∈ l, Dig x) (ha : OwnD w B1 (.slice A l.length c) l) (hb : OwnD w B2 (.slice B l.length d) l) :
    Calls Tryd.prog 49 #[.slice A l.length c, .slice B l.length d] w (Told w true) := by
  rcases Nat.eq_zero_or_pos l.length with h0 | h0
  · rw [h0]
    exact sameDigests_empty A B c d w
  · have row : ∀ (B1 : Nat) (A : Option Addr) (c : Nat), OwnD w B1 (.slice A l.length c) l → ∃ b, A = some ⟨b, 0, none⟩ ∧ DRow w b 0 l := by
      intro B1 A c ha
      rcases ha.2 with ⟨_, h⟩ | ⟨g, cap, cur, e, hB, hg, hc, _, _, ht⟩
      · omega
      · injection e with e1 e2 e3
        refine ⟨g, e1, fun k x hx => ⟨hd x (List.mem_of_getElem? hx), (Array.getElem?_eq_some_iff.1 hg).1, fun j u hu => ?_⟩⟩
        have hj : (bytesV l.flatten)[k * 16 + j]? = some u := by
          have hk := (List.getElem?_eq_some_iff.1 hx).1
          have hxl : x.length = 16 := (hd x (List.mem_of_getElem? hx)).1
          have hj := (List.getElem?_eq_some_iff.1 hu).1
          rw [bytesV_length, hxl] at hj
          have hs : l = l.take k ++ x :: l.drop (k + 1) := by
            rw [List.getElem?_eq_getElem hk] at hx
            injection hx with hx
            rw [← hx, List.getElem_cons_drop hk, List.take_append_drop]
          have hf : (l.take k).flatten.length = k * 16 := by
            rw [List.length_flatten]
            have : (l.take k).map List.length = List.replicate k 16 := by
              rw [List.eq_replicate_iff]
              refine ⟨by simp; omega, fun y hy => ?_⟩
              obtain ⟨z, hz, rfl⟩ := List.mem_map.1 hy
              exact (hd z (List.mem_of_mem_take hz)).1
            rw [this, List.sum_replicate_nat]
          rw [hs]
          unfold bytesV at hu ⊢
          rw [List.flatten_append, List.flatten_cons, List.map_append, List.map_append, List.getElem?_append_right (by rw [List.length_map, hf]; omega), List.length_map, hf, Nat.add_sub_cancel_left, List.getElem?_append_left (by simp [hxl]; omega)]
          exact hu
        rw [← ht, List.getElem?_take] at hj
        split at hj
        · rw [Nat.zero_add]
          exact Blk.cell (w := w) (b := g) (t := 29) (cs := cur.toList) hg hj
        · cases hj
    obtain ⟨b1, rfl, ra⟩ := row B1 A c ha
    obtain ⟨b2, rfl, rb⟩ := row B2 B d hb
    have h := sameDigests_any b1 0 b2 0 l l l.length l.length c d w rfl rfl hl hl ra rb
    rwa [decide_eq_true rfl] at h

end Sdg
end Go.Proofs.YtfhfmdnimebegaaDoor
