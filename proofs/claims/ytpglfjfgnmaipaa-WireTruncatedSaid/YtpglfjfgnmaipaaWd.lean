/-
  The element function of wire.GetStrings gathers one string.
-/
import Derived.Test.YtpglfjfgnmaipaaWj
namespace Go.Proofs.Ytpglfjfgnmaipaa
open Go.RowKit

/-- The strings with these bytes, as values. -/
def strL (l : List (List Nat)) : List Value := l.map fun s => Value.string (strOf s)

theorem strinfo : (Try.prog.info? 9).map (fun i => (i.zero, i.size, i.bytes)) = some (some (.string ByteArray.empty), 1, 16) := by kernel_rfl

/-- append(l, x): l a row of the call's own of int values, x an int that was laid just before. -/
theorem push_strv {w : World} {B : Nat} {ops : Array Oper} {rest : List Oper} {o : Oper} {a : Act} {Q : Exit → Act → World → Prop} (hgd : o.guard = none) (s x : Operand)
    (ho : o.op = .call { callee := .builtin .append, args := #[s, x], argTypes := #[23, 23] })
    (l : List (List Nat)) (y : List Nat) (v : Value) (hs : a.eval s = v) (hown : w.ownsRow B 9 1 v l.length (strL l)) (hB : B ≤ w.heap.size)
    (c : Nat) (hx : a.eval x = .slice (some ⟨w.heap.size, 0, none⟩) 1 c) (hl : l.length ≤ 1000000000)
    (h : ∀ v' w', w'.ownsRow B 9 1 v' (l ++ [y]).length (strL (l ++ [y])) → (w.alloc (.cells #[.string (strOf y)] 9)).grownBy w' v.ownBlock → wpList Try.prog ops Q rest (a.put o.dst v') w') :
    wpList Try.prog ops Q (o :: rest) a (w.alloc (.cells #[.string (strOf y)] 9)) := by
  obtain ⟨i0, hi, hz0, hz1, hz2⟩ := info_parts strinfo
  refine wpList_append_own _ hgd s x 23 ho B 9 i0 (.string ByteArray.empty) 1 16 Try.underlying23 hi hz0 hz1 hz2 rfl (by decide) v l.length (strL l) hs (hown.alloc _) ⟨w.heap.size, 0, none⟩ 1 c [.string (strOf y)] hx rfl ?c1 ?c2 ?c3 ?c4 ?c5 ?_
  case c1 => exact cell_one_new _ _ _
  case c2 => intro u hu; simp at hu; subst hu; rfl
  case c3 => unfold maxLen; omega
  case c4 => omega
  case c5 => simp; omega
  intro v' w' hown' hgrow _
  refine h v' w' (by simpa [strL] using hown') hgrow

/-- The list of integers that a call gathers: a variable in a block of its own, the first new one; what is older has not changed. -/
def GotS (W w : World) (v : Value) (xs : List (List Nat)) : Prop :=
  w.heap[W.heap.size]? = some (.cells #[v] 23 (0, 0)) ∧ w.ownsRow (W.heap.size + 1) 9 1 v xs.length (strL xs) ∧ Below W.heap.size W w

theorem gotS_step {W w w' : World} {v v' : Value} {xs ys : List (List Nat)} {o : Obj} (hb : w.heap[W.heap.size]? = some (.cells #[v] 23 (0, 0))) (hown : w.ownsRow (W.heap.size + 1) 9 1 v xs.length (strL xs))
    (hB : Below W.heap.size W w) (hown' : w'.ownsRow (W.heap.size + 1) 9 1 v' ys.length (strL ys)) (hg : (w.alloc o).grownBy w' v.ownBlock) :
    w'.heap[W.heap.size]? = some (.cells #[v] 23 (0, 0)) ∧ GotS W (w'.setCell ⟨W.heap.size, 0, none⟩ v') v' ys := by
  have hlt := lt_of_block hb
  have hb' : w'.heap[W.heap.size]? = some (.cells #[v] 23 (0, 0)) := by
    rw [hg.block W.heap.size (by simp; omega) (fun e => by have := hown.lt _ e.symm; omega)]
    exact (Below.heap_alloc w o _ hlt).trans hb
  refine ⟨hb', one_setCell hb', ownsRow_setCell_other hown' (fun e => by have := hown'.lt _ e; simp at this; omega) v', ?_⟩
  exact ((hB.alloc hB.size o).grown hg (by simp; omega) (fun k hk => by have := hown.lt k hk; omega)).setCell (Nat.le_refl _) v'

/-- The call gave the number of bytes and the error of r, and gathered its integer. -/
def GaveS (W : World) (xs : List (List Nat)) (r : List Nat × Nat × Nat) (e : Ending) (w' : World) : Prop :=
  e = .returned (.tuple #[.int .i64 r.2.1, .int .i64 r.2.2]) ∧ ∃ v', GotS W w' v' (xs ++ [r.1])

set_option maxHeartbeats 400000 in
theorem getStrings1_any (W : World) (A : Option Addr) (l : List Nat) (n c : Nat) (v : Value) (xs : List (List Nat)) (w : World) (hn : n = l.length) (hc : n ≤ c) (hc2 : n ≤ 140737488355328) (hr : Has w A l)
    (hG : GotS W w v xs) (hx : xs.length ≤ 1000000000) :
    Calls Try.prog 43 #[.slice A n c, .pointer (some ⟨W.heap.size, 0, none⟩)] w (GaveS W xs (decB l)) := by
  have C := getBytes_any A l n c w hn hc hc2 hr
  have hI := decB_ok l
  subst hn
  generalize decB l = r at C hI ⊢
  obtain ⟨x, u, er⟩ := r
  simp only [threeB] at C hI
  have H := Lib.hid C
  obtain ⟨hb, hown, hB⟩ := hG
  have hcell : w.cell? ⟨W.heap.size, 0, none⟩ = some v := cell_of_one hb
  have hfree : w.frozen? ⟨W.heap.size, 0, none⟩ = false := free_of_one hb
  have Hb := Lib.hid hb
  clear C hb
  go_enter Try.func43, Try.ntmps43
  go_wp2_with fail
  refine H.out.mono ?_
  rintro e w1 ⟨rfl, rfl⟩
  go_wp2_with (at_builtin; refine push_strv rfl _ _ rfl xs x v rfl hown ?b1 _ rfl hx ?_)
  case b1 => have := lt_of_block Hb.out; omega
  intro v' w' hown' hgrow
  obtain ⟨g, cap, rfl, _, _⟩ := hown'.form (by omega)
  obtain ⟨hb', hG'⟩ := gotS_step (ys := xs ++ [x]) Hb.out hown hB (by rw [List.length_append]; exact hown') hgrow
  have hcell' : w'.cell? ⟨W.heap.size, 0, none⟩ = some v := cell_of_one hb'
  have hfree' : w'.frozen? ⟨W.heap.size, 0, none⟩ = false := free_of_one hb'
  clear hb' hown hown' hgrow hcell hfree
  go_wp2
  go_ret2
  exact ⟨rfl, _, hG'⟩

end Go.Proofs.Ytpglfjfgnmaipaa
