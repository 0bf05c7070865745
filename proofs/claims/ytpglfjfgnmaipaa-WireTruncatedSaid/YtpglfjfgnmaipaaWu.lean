/-
  The element function of wire.GetDigests gathers one digest.
-/
import Derived.Test.YtpglfjfgnmaipaaWv
import Derived.Deep.RegionLaw
import Derived.Deep.AppendLies
namespace Go.Proofs.Ytpglfjfgnmaipaa
open Go.RowKit

def zeroDig : Value := .agg #[.int .u8 0, .int .u8 0, .int .u8 0, .int .u8 0, .int .u8 0, .int .u8 0, .int .u8 0, .int .u8 0, .int .u8 0, .int .u8 0, .int .u8 0, .int .u8 0, .int .u8 0, .int .u8 0, .int .u8 0, .int .u8 0]
theorem diginfo : (Try.prog.info? 57).map (fun i => (i.zero, i.size, i.bytes)) = some (some zeroDig, 16, 16) := by kernel_rfl

/-- The list of digests that a call gathers. -/
def GotD (W w : World) (v : Value) (xs : List (List Nat)) : Prop :=
  w.heap[W.heap.size]? = some (.cells #[v] 24 (0, 0)) ∧ w.ownsRow (W.heap.size + 1) 57 16 v xs.length (xs.flatMap bytesV) ∧ Below W.heap.size W w
def GaveD (W : World) (xs : List (List Nat)) (d : List Nat) (e : Ending) (w' : World) : Prop :=
  e = .returned (.tuple #[.int .i64 16, .int .i64 0]) ∧ ∃ v', GotD W w' v' (xs ++ [d])

/-- append(l, d) inside the statement that draws its order: l the call's own digests, d a digest that was laid just before. -/
theorem step_push_dig {ops : Array Oper} {o : Oper} {a : Act} {K : Act → World → Prop} {Q : Exit → Act → World → Prop} {E : Prop} (hgd : o.guard = none) (s x : Operand)
    (ho : o.op = .call { callee := .builtin .append, args := #[s, x], argTypes := #[24, 24] })
    (w0 : World) (B n : Nat) (v : Value) (xs : List Value) (hs : a.eval s = v) (hown : w0.ownsRow B 57 16 v n xs) (hB : B ≤ w0.heap.size) (hn : n ≤ 1000000000)
    (C : Array Value) (hC : C.size = 16) (h1 : ∀ u ∈ C.toList, u.oneCell' = true) (hx : a.eval x = .slice (some ⟨w0.heap.size, 0, none⟩) 1 1)
    (h : ∀ g cap w', w'.ownsRow B 57 16 (.slice (some ⟨g, 0, none⟩) (n + 1) cap) (n + 1) (xs ++ C.toList) → (w0.alloc (.cells C 57)).drew.grownBy w' v.ownBlock → K (a.put o.dst (.slice (some ⟨g, 0, none⟩) (n + 1) cap)) w') :
    if Region.wanted o (yielded ops a.tmps) = true then Oper.wp Try.prog o a (w0.alloc (.cells C 57)).drew K Q else E := by
  obtain ⟨i0, hi, hz0, hz1, hz2⟩ := info_parts diginfo
  have hzs : zeroDig.cells.size = 16 := by rfl
  refine step_append_lies _ hgd s x 24 ho B 57 i0 zeroDig 16 16 Try.underlying24 hi hz0 hz1 hz2 hzs (by omega) v n xs hs ((hown.alloc _).drew) ⟨w0.heap.size, 0, none⟩ 1 1 C.toList hx (by simp [hC]) (World.news_of_block (heap_alloc_new w0 _)) h1 (by omega) (by unfold maxLen; omega) (by omega) (by simp; omega) _ rfl ?_
  intro g cap w' ho' hg' _ _
  exact h g cap w' ho' hg'

theorem dig_snoc {w : World} {B n : Nat} {v : Value} (xs : List (List Nat)) (d : List Nat) (hn : n = xs.length + 1) (vs : List Value) (hv : vs = bytesV d) (h : w.ownsRow B 57 16 v n (xs.flatMap bytesV ++ vs)) :
    w.ownsRow B 57 16 v (xs ++ [d]).length ((xs ++ [d]).flatMap bytesV) := by
  subst hn; subst hv
  simpa [List.flatMap_append] using h
theorem gotD_step {W w w' : World} {v v' : Value} {n : Nat} {ys : List (List Nat)} {vs : List Value} {o : Obj} (hb : w.heap[W.heap.size]? = some (.cells #[v] 24 (0, 0))) (hown : w.ownsRow (W.heap.size + 1) 57 16 v n vs)
    (hB : Below W.heap.size W w) (hown' : w'.ownsRow (W.heap.size + 1) 57 16 v' ys.length (ys.flatMap bytesV)) (hg : (w.alloc o).drew.grownBy w' v.ownBlock) :
    w'.cell? ⟨W.heap.size, 0, none⟩ = some v ∧ w'.frozen? ⟨W.heap.size, 0, none⟩ = false ∧ GotD W (w'.setCell ⟨W.heap.size, 0, none⟩ v') v' ys := by
  have hlt := lt_of_block hb
  have hb' : w'.heap[W.heap.size]? = some (.cells #[v] 24 (0, 0)) := by
    rw [hg.block W.heap.size (by simp; omega) (fun e => by have := hown.lt _ e.symm; omega)]
    exact (Below.heap_alloc w o _ hlt).trans hb
  refine ⟨cell_of_one hb', free_of_one hb', one_setCell hb', ownsRow_setCell_other hown' (fun e => by have := hown'.lt _ e; simp at this; omega) v', ?_⟩
  exact (((hB.alloc hB.size o).drew).grown hg (by simp; omega) (fun k hk => by have := hown.lt k hk; omega)).setCell (Nat.le_refl _) v'

set_option maxHeartbeats 400000 in
theorem getDigests1_any (W : World) (b o : Nat) (x0 x1 x2 x3 x4 x5 x6 x7 x8 x9 x10 x11 x12 x13 x14 x15 : Nat) (l : List Nat) (n c : Nat) (v : Value) (xs : List (List Nat)) (w : World) (hn : n = l.length) (h16 : 16 ≤ l.length) (hc : n ≤ c) (hc2 : n ≤ 140737488355328) (hr : Has w (some ⟨b, o, none⟩) l)
    (hd : l.take 16 = [x0, x1, x2, x3, x4, x5, x6, x7, x8, x9, x10, x11, x12, x13, x14, x15]) (hG : GotD W w v xs) (hx : xs.length ≤ 1000000000) :
    Calls Try.prog 44 #[.slice (some ⟨b, o, none⟩) n c, .pointer (some ⟨W.heap.size, 0, none⟩)] w (GaveD W xs (l.take 16)) := by
  subst hn
  have hcs := (hr.take 16).cells
  rw [hd] at hcs ⊢
  have hcc : ∀ j u, (bytesV [x0, x1, x2, x3, x4, x5, x6, x7, x8, x9, x10, x11, x12, x13, x14, x15])[j]? = some u → w.cell? ⟨b, o + j, none⟩ = some u := fun j u hu => by rw [← Addr.add_mid]; exact hcs j u hu
  have c0 : w.cell? ⟨b, o, none⟩ = some (.int .u8 x0) := hcc 0 _ rfl
  have c1 : w.cell? ⟨b, o + 1, none⟩ = some (.int .u8 x1) := hcc 1 _ rfl
  have c2 : w.cell? ⟨b, o + 2, none⟩ = some (.int .u8 x2) := hcc 2 _ rfl
  have c3 : w.cell? ⟨b, o + 3, none⟩ = some (.int .u8 x3) := hcc 3 _ rfl
  have c4 : w.cell? ⟨b, o + 4, none⟩ = some (.int .u8 x4) := hcc 4 _ rfl
  have c5 : w.cell? ⟨b, o + 5, none⟩ = some (.int .u8 x5) := hcc 5 _ rfl
  have c6 : w.cell? ⟨b, o + 6, none⟩ = some (.int .u8 x6) := hcc 6 _ rfl
  have c7 : w.cell? ⟨b, o + 7, none⟩ = some (.int .u8 x7) := hcc 7 _ rfl
  have c8 : w.cell? ⟨b, o + 8, none⟩ = some (.int .u8 x8) := hcc 8 _ rfl
  have c9 : w.cell? ⟨b, o + 9, none⟩ = some (.int .u8 x9) := hcc 9 _ rfl
  have c10 : w.cell? ⟨b, o + 10, none⟩ = some (.int .u8 x10) := hcc 10 _ rfl
  have c11 : w.cell? ⟨b, o + 11, none⟩ = some (.int .u8 x11) := hcc 11 _ rfl
  have c12 : w.cell? ⟨b, o + 12, none⟩ = some (.int .u8 x12) := hcc 12 _ rfl
  have c13 : w.cell? ⟨b, o + 13, none⟩ = some (.int .u8 x13) := hcc 13 _ rfl
  have c14 : w.cell? ⟨b, o + 14, none⟩ = some (.int .u8 x14) := hcc 14 _ rfl
  have c15 : w.cell? ⟨b, o + 15, none⟩ = some (.int .u8 x15) := hcc 15 _ rfl
  obtain ⟨hb, hown, hB⟩ := hG
  have hlt := lt_of_block hb
  have hcell : w.cell? ⟨W.heap.size, 0, none⟩ = some v := cell_of_one hb
  have hfree : w.frozen? ⟨W.heap.size, 0, none⟩ = false := free_of_one hb
  have Hb := Lib.hid hb
  clear hb hcs hcc hd
  have harr : ∀ (c' : Nat) (w' : World), (Instr.arrayAt 57 (.slice (some ⟨b, o, none⟩) 16 c')).run Try.prog w' = .ok (.pointer (some ⟨b, o, none⟩)) w' := fun c' w' => by
    unfold Instr.arrayAt
    rw [Sem.run_bind, run_underlying Try.underlying57 w']
    simp [Sem.run_pure]
  have hi16 : (16 : Int) ≤ (c : Int) := by omega
  have hl2 : (16 : Int) ≤ (l.length : Int) := by omega
  go_enter Try.func44, Try.ntmps44
  go_wp2_with fail
  go_region_law (refine step_push_dig (by rfl) _ _ (by rfl) w (W.heap.size + 1) xs.length v (xs.flatMap bytesV) (by rfl) hown (by omega) hx #[.int .u8 (x0 : Int), .int .u8 (x1 : Int), .int .u8 (x2 : Int), .int .u8 (x3 : Int), .int .u8 (x4 : Int), .int .u8 (x5 : Int), .int .u8 (x6 : Int), .int .u8 (x7 : Int), .int .u8 (x8 : Int), .int .u8 (x9 : Int), .int .u8 (x10 : Int), .int .u8 (x11 : Int), .int .u8 (x12 : Int), .int .u8 (x13 : Int), .int .u8 (x14 : Int), .int .u8 (x15 : Int)] (by rfl) (by simp [Value.oneCell']) (by rfl) ?_; intro gg cap w1 hown1 hgrow; obtain ⟨hc1, hf1, hG1⟩ := gotD_step Hb.out hown hB (dig_snoc xs [x0, x1, x2, x3, x4, x5, x6, x7, x8, x9, x10, x11, x12, x13, x14, x15] rfl _ rfl hown1) hgrow; clear hgrow hown1)
  all_goals go_wp2
  all_goals go_ret2
  all_goals exact ⟨rfl, _, hG1⟩

end Go.Proofs.Ytpglfjfgnmaipaa
