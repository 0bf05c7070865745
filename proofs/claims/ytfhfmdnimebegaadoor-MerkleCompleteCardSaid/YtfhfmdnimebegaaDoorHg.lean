/-
  The law's hex: the hexadecimal digits of a string.
-/
import Derived.Test.YtfhfmdnimebegaaDoorHh
namespace Go.Proofs.YtfhfmdnimebegaaDoor
open Go.RowKit
set_option linter.unusedVariables false
set_option linter.unusedSimpArgs false

def dg (q : Nat) : Nat := if q < 10 then 48 + q else 87 + q
def hexL (l : List Nat) : List Nat := l.flatMap fun y => [dg (y / 16), dg (y % 16)]
theorem dig_val (q : Nat) (hq : q < 16) (h : q < (⟨#[48, 49, 50, 51, 52, 53, 54, 55, 56, 57, 97, 98, 99, 100, 101, 102]⟩ : ByteArray).size) : ((⟨#[48, 49, 50, 51, 52, 53, 54, 55, 56, 57, 97, 98, 99, 100, 101, 102]⟩ : ByteArray)[q]'h).toNat = dg q := by
  obtain rfl | rfl | rfl | rfl | rfl | rfl | rfl | rfl | rfl | rfl | rfl | rfl | rfl | rfl | rfl | rfl : q = 0 ∨ q = 1 ∨ q = 2 ∨ q = 3 ∨ q = 4 ∨ q = 5 ∨ q = 6 ∨ q = 7 ∨ q = 8 ∨ q = 9 ∨ q = 10 ∨ q = 11 ∨ q = 12 ∨ q = 13 ∨ q = 14 ∨ q = 15 := by omega
  all_goals rfl
theorem wrap_u8 (q : Nat) (h : q < 256) : IntKind.u8.wrap (q : Int) = (q : Int) := by
  simp [IntKind.wrap, IntKind.signed, IntKind.bits]
  omega
theorem dg_lt (q : Nat) (h : q < 16) : dg q < 256 := by unfold dg; split <;> omega
theorem hexL_byte (l : List Nat) (h : ∀ y ∈ l, y < 256) : ∀ z ∈ hexL l, z < 256 := by
  intro z hz
  obtain ⟨y, hy, h1⟩ := List.mem_flatMap.1 hz
  have := h y hy
  simp only [List.mem_cons, List.not_mem_nil, or_false] at h1
  rcases h1 with rfl | rfl
  · exact dg_lt _ (by omega)
  · exact dg_lt _ (by omega)
theorem hexL_length (l : List Nat) : (hexL l).length = 2 * l.length := by
  induction l with
  | nil => rfl
  | cons a l ih =>
    simp only [hexL, List.flatMap_cons, List.length_append, List.length_cons, List.length_nil] at ih ⊢
    omega

/-- append(out, x, y) inside the statement that draws its order. -/
theorem step_push_two {ops : Array Oper} {o : Oper} {a : Act} {K : Act → World → Prop} {Q : Exit → Act → World → Prop} {E : Prop} (hgd : o.guard = none) (s x : Operand)
    (ho : o.op = .call { callee := .builtin .append, args := #[s, x], argTypes := #[39, 39] })
    (W w0 : World) (l : List Nat) (v : Value) (hs : a.eval s = v) (hO : Own W w0 v l) (hn : l.length ≤ 70368744177664) (y z : Nat) (hx : a.eval x = .slice (some ⟨w0.heap.size, 0, none⟩) 2 2)
    (h : ∀ v' w', Own W w' v' (l ++ [y, z]) → K (a.put o.dst v') w') :
    if Region.wanted o (yielded ops a.tmps) = true then Oper.wp Tryd.prog o a (w0.alloc (.cells #[.int .u8 (y : Int), .int .u8 (z : Int)] 5)).drew K Q else E := by
  obtain ⟨hown, hb⟩ := hO
  obtain ⟨i0, hi, hz0, hz1, hz2⟩ := info_parts u8info
  refine step_append_lies _ hgd s x 39 ho W.heap.size 5 i0 (.int .u8 0) 1 1 Tryd.underlying39 hi hz0 hz1 hz2 rfl (by omega) v l.length (bytesV l) hs ((hown.alloc _).drew) ⟨w0.heap.size, 0, none⟩ 2 2 (bytesV [y, z]) hx rfl (World.news_of_block (heap_alloc_new w0 _)) (fun u hu => by obtain ⟨q, _, rfl⟩ := List.mem_map.1 hu; rfl) (by omega) (by unfold maxLen; omega) (by omega) (by have := hb.size; simp; omega) _ rfl ?_
  intro g cap w' ho' hg' _ _
  refine h _ w' ⟨by rw [bytesV_append]; simpa using ho', ((hb.alloc hb.size _).drew).grown hg' (by have := hb.size; simp; omega) (fun j hj => (hown.lt j hj).1)⟩

/-- What holds while the digits are gathered. -/
def HexRel (w : World) (s : ByteArray) (v i : Value) (wr : World) : Prop :=
  ∃ k : Nat, k ≤ s.size ∧ i = .int .i64 k ∧ Own w wr v (hexL ((sb s).take k))

end Go.Proofs.YtfhfmdnimebegaaDoor
