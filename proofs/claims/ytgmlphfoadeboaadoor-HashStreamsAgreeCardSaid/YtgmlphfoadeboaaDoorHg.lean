/-
  The law's hex: the hexadecimal digits of a string.
-/
import Derived.Test.YtgmlphfoadeboaaDoorHh
namespace Go.Proofs.YtgmlphfoadeboaaDoor
open Go.RowKit
set_option linter.unusedVariables false
set_option linter.unusedSimpArgs false

def dg (q : Nat) : Nat := if q < 10 then 48 + q else 87 + q
def hexL (l : List Nat) : List Nat := l.flatMap fun y => [dg (y / 16), dg (y % 16)]
theorem dig_val (q : Nat) (hq : q < 16) (h : q < (⟨#[48, 49, 50, 51, 52, 53, 54, 55, 56, 57, 97, 98, 99, 100, 101, 102]⟩ : ByteArray).size) : ((⟨#[48, 49, 50, 51, 52, 53, 54, 55, 56, 57, 97, 98, 99, 100, 101, 102]⟩ : ByteArray)[q]'h).toNat = dg q := by
  obtain rfl | rfl | rfl | rfl | rfl | rfl | rfl | rfl | rfl | rfl | rfl | rfl | rfl | rfl | rfl | rfl : q = 0 ∨ q = 1 ∨ q = 2 ∨ q = 3 ∨ q = 4 ∨ q = 5 ∨ q = 6 ∨ q = 7 ∨ q = 8 ∨ q = 9 ∨ q = 10 ∨ q = 11 ∨ q = 12 ∨ q = 13 ∨ q = 14 ∨ q = 15 := by omega
  all_goals rfl
theorem wrap_u8 (q : Nat) (h : q < 256) : IntKind.u8.wrap (q : Int) = (q : Int) := by
  simp [IntKind.wrap, IntKind.signed, IntKind.bits]
  omega
theorem dg_lt (q : Nat) (h : q < 16) : dg q < 256 := by unfold dg; split <;> omega
theorem hexL_byte (l : List Nat) (h : ∀ y ∈ l, y < 256) : ∀ z ∈ hexL l, z < 256 := by
  intro z hz
  obtain ⟨y, hy, h1⟩ := List.mem_flatMap.1 hz
  have := h y hy
  simp only [List.mem_cons, List.not_mem_nil, or_false] at h1
  rcases h1 with rfl | rfl
  · exact dg_lt _ (by omega)
  · exact dg_lt _ (by omega)
theorem hexL_length (l : List Nat) : (hexL l).length = 2 * l.length := by
  induction l with
  | nil => rfl
  | cons a l ih =>
    simp only [hexL, List.flatMap_cons, List.length_append, List.length_cons, List.length_nil] at ih ⊢
    omega

/-- append(out, x, y) inside the statement that draws its order. -/
theorem step_push_two {ops : Array Oper} {o : Oper} {a : Act} {K : Act → World → Prop} {Q : Exit → Act → World → Prop} {E : Prop} (hgd : o.guard = none) (s x : Operand)
    (ho : o.op = .call { callee := .builtin .append, args := #[s, x], argTypes := #[22, 22] })
    (W w0 : World) (l : List Nat) (v : Value) (hs : a.eval s = v) (hO : Own W w0 v l) (hn : l.length ≤ 70368744177664) (y z : Nat) (hx : a.eval x = .slice (some ⟨w0.heap.size, 0, none⟩) 2 2)
    (h : ∀ v' w', Own W w' v' (l ++ [y, z]) → K (a.put o.dst v') w') :
    if Region.wanted o (yielded ops a.tmps) = true then Oper.wp Tryd.prog o a (w0.alloc (.cells #[.int .u8 (y : Int), .int .u8 (z : Int)] 5)).drew K Q else E := by
  obtain ⟨hown, hb⟩ := hO
  obtain ⟨i0, hi, hz0, hz1, hz2⟩ := info_parts u8info
  refine step_append_lies _ hgd s x 22 ho W.heap.size 5 i0 (.int .u8 0) 1 1 Tryd.underlying22 hi hz0 hz1 hz2 rfl (by omega) v l.length (bytesV l) hs ((hown.alloc _).drew) ⟨w0.heap.size, 0, none⟩ 2 2 (bytesV [y, z]) hx rfl (World.news_of_block (heap_alloc_new w0 _)) (fun u hu => by obtain ⟨q, _, rfl⟩ := List.mem_map.1 hu; rfl) (by omega) (by unfold maxLen; omega) (by omega) (by have := hb.size; simp; omega) _ rfl ?_
  intro g cap w' ho' hg' _ _
  refine h _ w' ⟨by rw [bytesV_append]; simpa using ho', ((hb.alloc hb.size _).drew).grown hg' (by have := hb.size; simp; omega) (fun j hj => (hown.lt j hj).1)⟩

/-- What holds while the digits are gathered. -/
def HexRel (w : World) (s : ByteArray) (v i : Value) (wr : World) : Prop :=
  ∃ k : Nat, k ≤ s.size ∧ i = .int .i64 k ∧ Own w wr v (hexL ((sb s).take k))

set_option maxHeartbeats 1000000 in
set_option maxRecDepth 100000 in
theorem hex_any (s : ByteArray) (hs0 : 0 < s.size) (hs : s.size ≤ 1048576) (w : World) :
    Calls Tryd.prog 25 #[.string s] w fun e w' => e = .returned (.string (strOf (hexL (sb s)))) ∧ Below w.heap.size w w' := by
  go_enter Tryd.func25, Tryd.ntmps25
  go_wp2
  go_loopw [4, 5] (fun v i wr => HexRel w s v i wr) (fun _ i _ => s.size - (intOf i).toNat)
  case atStart => exact ⟨0, by omega, rfl, own_nil w⟩
  case round =>
    obtain ⟨k, hk, rfl, hO⟩ := hrel
    by_cases hlt : k < s.size
    · obtain ⟨y, hy⟩ : ∃ y, s[k].toNat = y := ⟨_, rfl⟩
      obtain ⟨q1, h1⟩ : ∃ q, y / 16 = q := ⟨_, rfl⟩
      obtain ⟨q2, h2⟩ : ∃ q, y % 16 = q := ⟨_, rfl⟩
      have hy256 : y < 256 := by rw [← hy]; exact s[k].toNat_lt
      have HT : Hid (hexL ((sb s).take (k + 1)) = hexL ((sb s).take k) ++ [dg q1, dg q2]) := by
        have e : hexL ((sb s).take (k + 1)) = hexL ((sb s).take k) ++ [dg q1, dg q2] := by
          rw [take_succ' _ k (by rw [sb_length]; exact hlt)]
          have e2 : (sb s)[k]'(by rw [sb_length]; exact hlt) = y := by rw [← hy]; simp [sb]; rfl
          rw [e2]
          unfold hexL
          rw [List.flatMap_append]
          simp [h1, h2]
        exact Lib.hid e
      have e1 : ((y : Int) / 16) = (q1 : Int) := by omega
      have e2 : ((y : Int) % 16) = (q2 : Int) := by omega
      have e3 : (y : Int).tmod 16 = (q2 : Int) := by rw [Int.tmod_eq_emod_of_nonneg (by omega)]; exact e2
      have k1 := dig_val q1 (by omega)
      have k2 := dig_val q2 (by omega)
      have g1 := wrap_u8 q1 (by omega)
      have g2 := wrap_u8 q2 (by omega)
      have l1 : (q1 : Int) < 16 := by omega
      have l2 : (q2 : Int) < 16 := by omega
      have hlk : (k : Int) < (s.size : Int) := by omega
      have hlen : (hexL ((sb s).take k)).length ≤ 70368744177664 := by rw [hexL_length, List.length_take]; omega
      clear h1 h2
      go_upto_region 6 with (fail)
      go_region_law (refine step_push_two (by rfl) _ _ (by rfl) w wr (hexL ((sb s).take k)) _ (by rfl) hO hlen (dg q1) (dg q2) (by rfl) ?_; intro v5 w5 hO5)
      all_goals clear k1 k2 g1 g2 e1 e2 e3 hO hy
      all_goals go_wp2
      all_goals
        go_roundw
        case rel => exact ⟨k + 1, by omega, by go_num, by rw [HT.out]; exact hO5⟩
        case measure => simp [intOf]; omega
    · have hx : (sb s).take k = sb s := List.take_of_length_le (by rw [sb_length]; omega)
      rw [hx] at hO
      have hcv := own_conv hO (by rw [hexL_length, sb_length]; omega) (hexL_byte _ (sb_lt s))
      clear hx
      go_wp2
      go_ret
      exact ⟨rfl, hO.below⟩

end Go.Proofs.YtgmlphfoadeboaaDoor
