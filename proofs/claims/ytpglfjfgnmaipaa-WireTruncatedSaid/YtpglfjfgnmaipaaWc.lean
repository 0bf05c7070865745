/-
  The element function of wire.GetInts gathers one integer.
-/
import Derived.Test.YtpglfjfgnmaipaaWn
namespace Go.Proofs.Ytpglfjfgnmaipaa
open Go.RowKit

theorem intinfo : (Try.prog.info? 3).map (fun i => (i.zero, i.size, i.bytes)) = some (some (.int .i64 0), 1, 8) := by kernel_rfl

/-- append(l, x): l a row of the call's own of int values, x an int that was laid just before. -/
theorem push_int {w : World} {B : Nat} {ops : Array Oper} {rest : List Oper} {o : Oper} {a : Act} {Q : Exit → Act → World → Prop} (hgd : o.guard = none) (s x : Operand)
    (ho : o.op = .call { callee := .builtin .append, args := #[s, x], argTypes := #[22, 22] })
    (l : List Int) (y : Int) (v : Value) (hs : a.eval s = v) (hown : w.ownsRow B 3 1 v l.length (intsV l)) (hB : B ≤ w.heap.size)
    (c : Nat) (hx : a.eval x = .slice (some ⟨w.heap.size, 0, none⟩) 1 c) (hl : l.length ≤ 140737488355)
    (h : ∀ v' w', w'.ownsRow B 3 1 v' (l ++ [y]).length (intsV (l ++ [y])) → (w.alloc (.cells #[.int .i64 y] 3)).grownBy w' v.ownBlock → wpList Try.prog ops Q rest (a.put o.dst v') w') :
    wpList Try.prog ops Q (o :: rest) a (w.alloc (.cells #[.int .i64 y] 3)) := by
  obtain ⟨i0, hi, hz0, hz1, hz2⟩ := info_parts intinfo
  refine wpList_append_own _ hgd s x 22 ho B 3 i0 (.int .i64 0) 1 8 Try.underlying22 hi hz0 hz1 hz2 rfl (by decide) v l.length (intsV l) hs (hown.alloc _) ⟨w.heap.size, 0, none⟩ 1 c [.int .i64 y] hx rfl ?c1 ?c2 ?c3 ?c4 ?c5 ?_
  case c1 => exact cell_one_new _ _ _
  case c2 => intro u hu; simp at hu; subst hu; rfl
  case c3 => unfold maxLen; omega
  case c4 => omega
  case c5 => simp; omega
  intro v' w' hown' hgrow _
  refine h v' w' (by simpa [intsV] using hown') hgrow

/-- The list of integers that a call gathers: a variable in a block of its own, the first new one; what is older has not changed. -/
def GotI (W w : World) (v : Value) (xs : List Int) : Prop :=
  w.heap[W.heap.size]? = some (.cells #[v] 22 (0, 0)) ∧ w.ownsRow (W.heap.size + 1) 3 1 v xs.length (intsV xs) ∧ Below W.heap.size W w

theorem gotI_step {W w w' : World} {v v' : Value} {xs ys : List Int} {o : Obj} (hb : w.heap[W.heap.size]? = some (.cells #[v] 22 (0, 0))) (hown : w.ownsRow (W.heap.size + 1) 3 1 v xs.length (intsV xs))
    (hB : Below W.heap.size W w) (hown' : w'.ownsRow (W.heap.size + 1) 3 1 v' ys.length (intsV ys)) (hg : (w.alloc o).grownBy w' v.ownBlock) :
    w'.heap[W.heap.size]? = some (.cells #[v] 22 (0, 0)) ∧ GotI W (w'.setCell ⟨W.heap.size, 0, none⟩ v') v' ys := by
  have hlt := lt_of_block hb
  have hb' : w'.heap[W.heap.size]? = some (.cells #[v] 22 (0, 0)) := by
    rw [hg.block W.heap.size (by simp; omega) (fun e => by have := hown.lt _ e.symm; omega)]
    exact (Below.heap_alloc w o _ hlt).trans hb
  refine ⟨hb', one_setCell hb', ownsRow_setCell_other hown' (fun e => by have := hown'.lt _ e; simp at this; omega) v', ?_⟩
  exact ((hB.alloc hB.size o).grown hg (by simp; omega) (fun k hk => by have := hown.lt k hk; omega)).setCell (Nat.le_refl _) v'

/-- The call gave the number of bytes and the error of r, and gathered its integer. -/
def GaveI (W : World) (xs : List Int) (r : Int × Nat × Nat) (e : Ending) (w' : World) : Prop :=
  e = .returned (.tuple #[.int .i64 r.2.1, .int .i64 r.2.2]) ∧ ∃ v', GotI W w' v' (xs ++ [r.1])

set_option maxHeartbeats 400000 in
theorem getInts1_any (W : World) (A : Option Addr) (l : List Nat) (n c : Nat) (v : Value) (xs : List Int) (w : World) (hn : n = l.length) (hc : n ≤ c) (hc2 : n ≤ 140737488355328) (hr : Has w A l)
    (hG : GotI W w v xs) (hx : xs.length ≤ 140737488355) :
    Calls Try.prog 42 #[.slice A n c, .pointer (some ⟨W.heap.size, 0, none⟩)] w (GaveI W xs (dec l)) := by
  have C := getInt_any A l n c w hn hc hc2 hr
  have hI := dec_ok l
  subst hn
  generalize dec l = r at C hI ⊢
  obtain ⟨x, u, er⟩ := r
  simp only [three] at C hI
  have H := Lib.hid C
  obtain ⟨hb, hown, hB⟩ := hG
  have hcell : w.cell? ⟨W.heap.size, 0, none⟩ = some v := cell_of_one hb
  have hfree : w.frozen? ⟨W.heap.size, 0, none⟩ = false := free_of_one hb
  have Hb := Lib.hid hb
  clear C hb
  go_enter Try.func42, Try.ntmps42
  go_wp2_with fail
  refine H.out.mono ?_
  rintro e w1 ⟨rfl, rfl⟩
  go_wp2_with (at_builtin; refine push_int rfl _ _ rfl xs x v rfl hown ?b1 _ rfl hx ?_)
  case b1 => have := lt_of_block Hb.out; omega
  intro v' w' hown' hgrow
  obtain ⟨g, cap, rfl, _, _⟩ := hown'.form (by omega)
  obtain ⟨hb', hG'⟩ := gotI_step (ys := xs ++ [x]) Hb.out hown hB (by rw [List.length_append]; exact hown') hgrow
  have hcell' : w'.cell? ⟨W.heap.size, 0, none⟩ = some v := cell_of_one hb'
  have hfree' : w'.frozen? ⟨W.heap.size, 0, none⟩ = false := free_of_one hb'
  clear hb' hown hown' hgrow hcell hfree
  go_wp2
  go_ret2
  exact ⟨rfl, _, hG'⟩

end Go.Proofs.Ytpglfjfgnmaipaa
