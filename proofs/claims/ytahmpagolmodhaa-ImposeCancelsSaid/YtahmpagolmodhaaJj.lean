/-
  Read of the reference.
-/
import Derived.Test.YtahmpagolmodhaaIo
import Derived.Test.YtahmpagolmodhaaJg
import Derived.Test.YtahmpagolmodhaaIj
namespace Go.Proofs.Ytahmpagolmodhaa
open Go.RowKit
set_option linter.unusedVariables false
set_option linter.unusedSimpArgs false

/-- append of two numbers, which lie in a block made for them. -/
theorem push2_wp {w : World} {B : Nat} {o : Oper} {a : Act} {K : Act → World → Prop} {Q : Exit → Act → World → Prop} (s x : Operand)
    (ho : o.op = .call { callee := .builtin .append, args := #[s, x], argTypes := #[intE.ST, intE.ST] })
    (l : List Int) (y z : Int) (v : Value) (hs : a.eval s = v) (hown : OwnR intE w B v l) (hB : B ≤ w.heap.size)
    (c : Nat) (hx : a.eval x = .slice (some ⟨w.heap.size, 0, none⟩) 2 c) (hl : l.length ≤ 1000000000000)
    (h : ∀ v' w', OwnR intE w' B v' (l ++ [y, z]) → w.grownBy w' v.ownBlock → K (a.put o.dst v') w') :
    o.wp Try.prog a (w.alloc (.cells #[.int .i64 y, .int .i64 z] 3)) K Q := by
  obtain ⟨i0, hi, hz0, hz1, hz2⟩ := info_parts intE.info
  refine wp_append_own _ s x intE.ST ho B intE.T i0 intE.zero intE.k intE.bytes intE.und hi hz0 hz1 hz2 intE.zs intE.kpos v l.length (intE.row l) hs (World.ownsRow.alloc hown _) ⟨w.heap.size, 0, none⟩ 2 c [.int .i64 y, .int .i64 z] hx rfl ?c1 ?c2 ?c3 ?c4 ?c5 ?_
  case c1 => intro j u hj; rw [Addr.add_mid, Nat.zero_add]; exact (blk_new w intE.T #[.int .i64 y, .int .i64 z]).cell (by simpa using hj)
  case c2 => intro u hu; simp at hu; rcases hu with rfl | rfl <;> rfl
  case c3 => unfold maxLen; omega
  case c4 => exact Nat.le_trans (Nat.mul_le_mul (show l.length + 2 ≤ 1099511627776 by omega) intE.bb) (by decide)
  case c5 => simp; omega
  intro v' w' hown' hgrow hne
  refine h v' w' ?_ ⟨hgrow.os, hgrow.tape, hgrow.output, by have := hgrow.size; rw [World.size_alloc] at this; omega, fun k hk hkr => ?_⟩
  · unfold OwnR
    rw [intE.row_append, List.length_append]
    exact hown'
  · rw [hgrow.block k (by rw [World.size_alloc]; omega) hkr]
    exact Below.heap_alloc _ _ _ hk
theorem readF_nil (f : Nat) (q : Int) : readF f q [] = some [] := by cases f <;> rfl
theorem readF_no {f : Nat} {q : Int} {x : Sh} {l : List Sh} (hx : x.q ≠ q) : readF f q (x :: l) = none := by
  have hb : (x.q == q) = false := by simpa using hx
  cases f with
  | zero => rfl
  | succ f => simp [readF, List.takeWhile_cons, hb]
theorem readF_yes {f : Nat} {q : Int} {x : Sh} {l : List Sh} (hx : x.q = q) : readF (f + 1) q (x :: l) = (readF f (q + 1) ((x :: l).drop ((x :: l).takeWhile (fun s => s.q == q)).length)).map (pass ((x :: l).takeWhile (fun s => s.q == q)) ++ ·) := by
  have hb : (x.q == q) = true := by simpa using hx
  simp [readF, List.takeWhile_cons, hb]
/-- How far the sheets of one quire go. -/
def twE (l : List Sh) (q0 : Int) (e : Nat) : Nat := e + ((l.drop e).takeWhile (fun s => s.q == q0)).length
theorem twE_yes {l : List Sh} {q0 : Int} {e : Nat} {y : Sh} (hy : l[e]? = some y) (h : y.q = q0) : twE l q0 (e + 1) = twE l q0 e := by
  unfold twE
  have hlt := (List.getElem?_eq_some_iff.1 hy).1
  have e1 : l.drop e = y :: l.drop (e + 1) := by rw [List.drop_eq_getElem_cons hlt]; congr 1; exact (List.getElem?_eq_some_iff.1 hy).2
  rw [e1, List.takeWhile_cons, if_pos (by simpa using h), List.length_cons]
  omega
theorem twE_no {l : List Sh} {q0 : Int} {e : Nat} {y : Sh} (hy : l[e]? = some y) (h : y.q ≠ q0) : twE l q0 e = e := by
  unfold twE
  have hlt := (List.getElem?_eq_some_iff.1 hy).1
  have e1 : l.drop e = y :: l.drop (e + 1) := by rw [List.drop_eq_getElem_cons hlt]; congr 1; exact (List.getElem?_eq_some_iff.1 hy).2
  rw [e1, List.takeWhile_cons, if_neg (by simpa using h)]
  rfl
theorem twE_end {l : List Sh} {q0 : Int} {e : Nat} (h : l.length ≤ e) : twE l q0 e = e := by
  unfold twE; rw [List.drop_eq_nil_of_le h]; rfl
theorem twE_le {l : List Sh} {q0 : Int} {e : Nat} (h : e ≤ l.length) : e ≤ twE l q0 e ∧ twE l q0 e ≤ l.length := by
  unfold twE
  have := (List.takeWhile_prefix (l := l.drop e) (fun s => s.q == q0)).length_le
  rw [List.length_drop] at this
  omega
/-- The sheets from a to e; what they still give, forwards and backwards. -/
def segT (l : List Sh) (a e : Nat) : List Sh := (l.drop a).take (e - a)
def fwT (g : List Sh) : List Int := g.flatMap (fun s => [s.fb, s.ba])
def bwT (g : List Sh) : List Int := g.reverse.flatMap (fun s => [s.bb, s.fa])
theorem seg_end (l : List Sh) (a : Nat) : segT l a a = [] := by unfold segT; simp
theorem seg_fw {l : List Sh} {a e : Nat} {y : Sh} (hy : l[a]? = some y) (h : a < e) : segT l a e = y :: segT l (a + 1) e := by
  unfold segT
  have hlt := (List.getElem?_eq_some_iff.1 hy).1
  rw [List.drop_eq_getElem_cons hlt, (List.getElem?_eq_some_iff.1 hy).2, show e - a = (e - (a + 1)) + 1 by omega, List.take_succ_cons]
theorem seg_bw {l : List Sh} {a i : Nat} {y : Sh} (hy : l[i]? = some y) (h : a ≤ i) : segT l a (i + 1) = segT l a i ++ [y] := by
  unfold segT
  rw [show i + 1 - a = (i - a) + 1 by omega, List.take_add_one, List.getElem?_drop, show a + (i - a) = i by omega, hy]
  rfl
theorem seg_tw {l : List Sh} {q0 : Int} {a : Nat} : (l.drop a).takeWhile (fun s => s.q == q0) = segT l a (twE l q0 a) := by
  unfold segT twE
  rw [Nat.add_sub_cancel_left]
  exact (List.prefix_iff_eq_take.1 (List.takeWhile_prefix _))
theorem fw_step {acc r : List Int} {g : List Sh} {y : Sh} (h : acc ++ fwT (y :: g) = r) : (acc ++ [y.fb, y.ba]) ++ fwT g = r := by
  rw [← h]; unfold fwT; rw [List.flatMap_cons, List.append_assoc]
theorem bw_step {acc r : List Int} {g : List Sh} {y : Sh} (h : acc ++ bwT (g ++ [y]) = r) : (acc ++ [y.bb, y.fa]) ++ bwT g = r := by
  rw [← h]; unfold bwT; rw [List.reverse_append, List.reverse_singleton, List.singleton_append, List.flatMap_cons, List.append_assoc]
theorem read_step {l : List Sh} {a f q : Nat} {x : Sh} {acc : List Int} {R : Option (List Int)} (hx : l[a]? = some x) (hf : 1 ≤ f) (hq : x.q = (q : Int)) (h : (readF f (q : Int) (l.drop a)).map (acc ++ ·) = R) {E : Nat} (hE : twE l x.q a = E) :
    (readF (f - 1) ((q + 1 : Nat) : Int) (l.drop E)).map (((acc ++ fwT (segT l a E)) ++ bwT (segT l a E)) ++ ·) = R := by
  have hlt := (List.getElem?_eq_some_iff.1 hx).1
  have e1 : l.drop a = x :: l.drop (a + 1) := by rw [List.drop_eq_getElem_cons hlt]; congr 1; exact (List.getElem?_eq_some_iff.1 hx).2
  obtain ⟨f, rfl⟩ : ∃ g, f = g + 1 := ⟨f - 1, by omega⟩
  rw [← h, e1, readF_yes hq, ← e1, Nat.add_sub_cancel, ← hq, seg_tw, hE, List.drop_drop]
  have e2 : a + (segT l a E).length = E := by
    rw [← hE, ← seg_tw]
    rfl
  rw [e2, hq]
  show Option.map _ (readF f ((q : Int) + 1) (l.drop E)) = _
  rw [Option.map_map]
  congr 1
  funext r
  show _ = acc ++ (pass (segT l a E) ++ r)
  rw [show pass (segT l a E) = fwT (segT l a E) ++ bwT (segT l a E) from rfl, List.append_assoc, List.append_assoc, List.append_assoc]
theorem read_bad {l : List Sh} {a f q : Nat} {x : Sh} {acc : List Int} {R : Option (List Int)} (hx : l[a]? = some x) (hq : x.q ≠ (q : Int)) (h : (readF f (q : Int) (l.drop a)).map (acc ++ ·) = R) : R = none := by
  have hlt := (List.getElem?_eq_some_iff.1 hx).1
  have e1 : l.drop a = x :: l.drop (a + 1) := by rw [List.drop_eq_getElem_cons hlt]; congr 1; exact (List.getElem?_eq_some_iff.1 hx).2
  rw [← h, e1, readF_no hq]
  rfl
/-- What is answered: the pages, or none and an error. -/
def rdL (l : List Sh) : List Int := (readT l).getD []
def rdE (l : List Sh) : Int := if (readT l).isSome then 0 else 2
def RdO (l : List Sh) (n : Nat) (w : World) (v4 v5 v6 : Value) (wr : World) : Prop := ∃ (a : Nat) (q : Nat) (f : Nat) (acc : List Int), a ≤ n ∧ v6 = .int .i64 (a : Int) ∧ v5 = .int .i64 ((q : Int) - 1) ∧ q ≤ a ∧ n - a ≤ f ∧ acc.length ≤ 4 * a ∧ (readF f (q : Int) (l.drop a)).map (acc ++ ·) = readT l ∧ OwnR intE wr w.heap.size v4 acc ∧ Below w.heap.size w wr
def RdE (l : List Sh) (n a : Nat) (q0 : Int) (w : World) (v4 : Value) (acc : List Int) (v7 : Value) (wr : World) : Prop := ∃ e : Nat, v7 = .int .i64 (e : Int) ∧ a ≤ e ∧ e ≤ n ∧ twE l q0 e = twE l q0 a ∧ OwnR intE wr w.heap.size v4 acc ∧ Below w.heap.size w wr
def RdF (l : List Sh) (E a : Nat) (R : List Int) (w : World) (v4 v8 : Value) (wr : World) : Prop := ∃ (i : Nat) (acc : List Int), v8 = .int .i64 (i : Int) ∧ a ≤ i ∧ i ≤ E ∧ acc.length ≤ 2 * i + 2 * a ∧ acc ++ fwT (segT l i E) = R ∧ OwnR intE wr w.heap.size v4 acc ∧ Below w.heap.size w wr
def RdB (l : List Sh) (E a : Nat) (R : List Int) (w : World) (v4 v9 : Value) (wr : World) : Prop := ∃ (i : Nat) (z : Int) (acc : List Int), v9 = .int .i64 z ∧ z = (i : Int) - 1 ∧ a ≤ i ∧ i ≤ E ∧ acc.length + 2 * i ≤ 4 * E + 2 * a ∧ acc ++ bwT (segT l a i) = R ∧ OwnR intE wr w.heap.size v4 acc ∧ Below w.heap.size w wr
set_option maxHeartbeats 4000000 in
set_option maxRecDepth 100000 in
theorem rread_any (l : List Sh) (qa : Option Addr) (n c : Nat) (hl : l.length = n) (hn6 : n ≤ 100000000000) (w : World) (hA : At srE w qa l) :
    Calls Try.prog 23 #[.slice qa n c] w (LstR intE (rdL l) (rdE l) w) := by
  have HN := Lib.hid hl
  clear hl
  go_enter Try.func23, Try.ntmps23
  go_wp2
  go_loopw [4, 5, 6] (fun v4 v5 v6 wr => RdO l n w v4 v5 v6 wr) (fun _ _ v _ => n - (intOf v).toNat)
  case atStart => exact ⟨0, 0, n, [], Nat.zero_le _, rfl, rfl, Nat.le_refl _, by omega, Nat.zero_le _, by rw [List.drop_zero]; unfold readT; rw [HN.out]; cases readF n 0 l <;> rfl, OwnR.nil _ _ _, Below.refl _ _⟩
  case round =>
    obtain ⟨at_, q, f, acc, ha, rfl, rfl, hqa, hf, hla, hR, hO, hB⟩ := hrel
    rcases Nat.lt_or_ge at_ n with hlt | hge
    · obtain ⟨x, hx⟩ : ∃ x, l[at_]? = some x := ⟨_, List.getElem?_eq_getElem (by rw [HN.out]; exact hlt)⟩
      obtain ⟨b, off, rfl, hL⟩ := hA.get (i := at_) (by rw [HN.out]; exact hlt)
      have RA := Lib.hid (fun (i : Nat) (y : Sh) (hy : l[i]? = some y) w' (h : Below w.heap.size w w') => show w'.rangeAt b (off + i * 5) [.int .i64 y.q, .int .i64 y.fa, .int .i64 y.fb, .int .i64 y.ba, .int .i64 y.bb] from (hL.keep h).range hy)
      have hltz : (at_ : Int) < (n : Int) := by omega
      have HX := Lib.hid hx
      have HR := Lib.hid hR
      have RX := Lib.hid (fun w' h => RA.out at_ x hx w' h)
      obtain ⟨E, hE⟩ : ∃ E, twE l x.q at_ = E := ⟨_, rfl⟩
      have hEE := twE_le (l := l) (q0 := x.q) (e := at_) (by rw [HN.out]; omega)
      have hE1 : at_ + 1 ≤ E := by rw [← hE, ← twE_yes hx rfl]; exact (twE_le (by rw [HN.out]; omega)).1
      rw [hE, HN.out] at hEE
      have HEE := Lib.hid hE
      clear hR hx hL hE
      go_wp2
      generalize u4 = v4 at *
      go_loopw [7] (fun v7 wr => RdE l n at_ x.q w v4 acc v7 wr) (fun v _ => n - (intOf v).toNat)
      case atStart => exact ⟨at_, rfl, Nat.le_refl _, Nat.le_of_lt hlt, rfl, hO, hB⟩
      case round =>
        clear hO hB
        obtain ⟨e, rfl, hae, hen, hte, hO, hB⟩ := hrel
        rcases Nat.lt_or_ge e n with hltE | hgeE
        · obtain ⟨y, hy⟩ : ∃ y, l[e]? = some y := ⟨_, List.getElem?_eq_getElem (by rw [HN.out]; exact hltE)⟩
          have RY := Lib.hid (fun w' h => RA.out e y hy w' h)
          have hltEz : (e : Int) < (n : Int) := by omega
          by_cases hyq : y.q = x.q
          · have HT := Lib.hid ((twE_yes hy hyq).trans hte)
            clear hy hte
            go_upto_region 6 with (fail)
            refine wp_region_held_drew (S := fun w' => Below w.heap.size w w') (by kernel_rfl) (below_drew (hB)) (fun _ => ?_)
            have hHeld : Below w.heap.size w wr.drew := below_drew (hB)
            replace hO : OwnR intE wr.drew w.heap.size v4 acc := hO
            generalize wr.drew = V0 at hHeld hO ⊢
            refine wt (i := 0) (oi := ⟨some 15, .move (.tmp 7), 3, "ref.go:81", #[], none⟩) (v := .int .i64 (e : Int)) (Or.inl ⟨by rfl, fun w' hSw => by go_simp⟩) hHeld ?_
            try simp only [zP, zQ, zS, zZ, zC]
            refine wt (i := 1) (oi := ⟨some 16, .move (.tmp 0), 32, "ref.go:81", #[], none⟩) (v := .slice (some ⟨b, off, none⟩) n c) (Or.inl ⟨by rfl, fun w' hSw => by go_simp⟩) hHeld ?_
            try simp only [zP, zQ, zS, zZ, zC]
            refine wt (i := 2) (oi := ⟨some 17, .call { callee := .builtin .len, args := #[.tmp 16], argTypes := #[32] }, 3, "ref.go:81", #[⟨1, .data⟩], none⟩) (v := .int .i64 (n : Int)) (Or.inl ⟨by rfl, fun w' hSw => by go_simp⟩) hHeld ?_
            try simp only [zP, zQ, zS, zZ, zC]
            refine wt (i := 3) (oi := ⟨some 18, .binOp .lss 3 (.tmp 15) (.tmp 17) 3, 4, "ref.go:81", #[⟨0, .data⟩, ⟨2, .data⟩], none⟩) (v := .bool true) (Or.inl ⟨by rfl, fun w' hSw => by go_simp⟩) hHeld ?_
            try simp only [zP, zQ, zS, zZ, zC]
            refine wt (i := 4) (oi := ⟨some 19, .move (.tmp 18), 4, "ref.go:81", #[⟨3, .data⟩], none⟩) (v := .bool true) (Or.inl ⟨by rfl, fun w' hSw => by go_simp⟩) hHeld ?_
            try simp only [zP, zQ, zS, zZ, zC]
            refine wt (i := 5) (oi := ⟨some 20, .move (.tmp 0), 32, "ref.go:81", #[⟨4, .guard⟩], some (4, true)⟩) (v := .slice (some ⟨b, off, none⟩) n c) (Or.inl ⟨by rfl, fun w' hSw => by go_simp⟩) hHeld ?_
            try simp only [zP, zQ, zS, zZ, zC]
            refine wt (i := 6) (oi := ⟨some 21, .move (.tmp 7), 3, "ref.go:81", #[⟨4, .guard⟩], some (4, true)⟩) (v := .int .i64 (e : Int)) (Or.inl ⟨by rfl, fun w' hSw => by go_simp⟩) hHeld ?_
            try simp only [zP, zQ, zS, zZ, zC]
            refine wt (i := 7) (oi := ⟨some 22, .indexAddr 32 (.tmp 20) (.tmp 21), 0, "ref.go:81", #[⟨5, .data⟩, ⟨6, .data⟩, ⟨4, .guard⟩], some (4, true)⟩) (v := .pointer (some ⟨b, off + e * 5, none⟩)) (Or.inl ⟨by rfl, fun w' hSw => by go_simp; try (intro hcm; exact absurd hcm (by omega))⟩) hHeld ?_
            try simp only [zP, zQ, zS, zZ, zC]
            refine wt (i := 8) (oi := ⟨some 23, .fieldAddr 69 (.tmp 22) 0, 0, "ref.go:81", #[⟨7, .data⟩, ⟨4, .guard⟩], some (4, true)⟩) (v := .pointer (some ⟨b, off + e * 5, none⟩)) (Or.inl ⟨by rfl, fun w' hSw => by go_simp⟩) hHeld ?_
            try simp only [zP, zQ, zS, zZ, zC]
            refine wt (i := 9) (oi := ⟨some 24, .load 3 (.tmp 23), 3, "ref.go:81", #[⟨8, .data⟩, ⟨4, .guard⟩], some (4, true)⟩) (v := .int .i64 y.q) (Or.inl ⟨by rfl, fun w' hSw => by have hc : w'.cell? ⟨b, off + e * 5, none⟩ = some (.int .i64 y.q) := RY.out w' hSw 0 _ rfl; go_simp⟩) hHeld ?_
            try simp only [zP, zQ, zS, zZ, zC]
            refine wt (i := 10) (oi := ⟨some 25, .move (.tmp 0), 32, "ref.go:81", #[⟨4, .guard⟩], some (4, true)⟩) (v := .slice (some ⟨b, off, none⟩) n c) (Or.inl ⟨by rfl, fun w' hSw => by go_simp⟩) hHeld ?_
            try simp only [zP, zQ, zS, zZ, zC]
            refine wt (i := 11) (oi := ⟨some 26, .move (.tmp 6), 3, "ref.go:81", #[⟨4, .guard⟩], some (4, true)⟩) (v := .int .i64 (at_ : Int)) (Or.inl ⟨by rfl, fun w' hSw => by go_simp⟩) hHeld ?_
            try simp only [zP, zQ, zS, zZ, zC]
            refine wt (i := 12) (oi := ⟨some 27, .indexAddr 32 (.tmp 25) (.tmp 26), 0, "ref.go:81", #[⟨10, .data⟩, ⟨11, .data⟩, ⟨4, .guard⟩], some (4, true)⟩) (v := .pointer (some ⟨b, off + at_ * 5, none⟩)) (Or.inl ⟨by rfl, fun w' hSw => by go_simp; try (intro hcm; exact absurd hcm (by omega))⟩) hHeld ?_
            try simp only [zP, zQ, zS, zZ, zC]
            refine wt (i := 13) (oi := ⟨some 28, .fieldAddr 69 (.tmp 27) 0, 0, "ref.go:81", #[⟨12, .data⟩, ⟨4, .guard⟩], some (4, true)⟩) (v := .pointer (some ⟨b, off + at_ * 5, none⟩)) (Or.inl ⟨by rfl, fun w' hSw => by go_simp⟩) hHeld ?_
            try simp only [zP, zQ, zS, zZ, zC]
            refine wt (i := 14) (oi := ⟨some 29, .load 3 (.tmp 28), 3, "ref.go:81", #[⟨13, .data⟩, ⟨4, .guard⟩], some (4, true)⟩) (v := .int .i64 x.q) (Or.inl ⟨by rfl, fun w' hSw => by have hc : w'.cell? ⟨b, off + at_ * 5, none⟩ = some (.int .i64 x.q) := RX.out w' hSw 0 _ rfl; go_simp⟩) hHeld ?_
            try simp only [zP, zQ, zS, zZ, zC]
            refine wt (i := 15) (oi := ⟨some 30, .binOp .eql 3 (.tmp 24) (.tmp 29) 3, 4, "ref.go:81", #[⟨9, .data⟩, ⟨14, .data⟩, ⟨4, .guard⟩], some (4, true)⟩) (v := .bool true) (Or.inl ⟨by rfl, fun w' hSw => by go_simp⟩) hHeld ?_
            try simp only [zP, zQ, zS, zZ, zC]
            refine wt (i := 16) (oi := ⟨some 31, .pick (.tmp 19) (.tmp 30) (.const (Value.bool false)), 4, "ref.go:81", #[⟨4, .data⟩, ⟨15, .data⟩], none⟩) (v := .bool true) (Or.inl ⟨by rfl, fun w' hSw => by go_simp⟩) hHeld ?_
            try simp only [zP, zQ, zS, zZ, zC]
            refine wpAnyH_done (by kernel_rfl) ?_ _
            have BX := hHeld
            clear hHeld 
            go_wp2
            exact ⟨⟨e + 1, by go_num, by omega, by omega, HT.out, hO, BX⟩, by simp [intOf]; omega⟩
          · have HT := Lib.hid ((twE_no hy hyq).symm.trans hte)
            clear hy hte
            go_upto_region 6 with (fail)
            refine wp_region_held_drew (S := fun w' => Below w.heap.size w w') (by kernel_rfl) (below_drew (hB)) (fun _ => ?_)
            have hHeld : Below w.heap.size w wr.drew := below_drew (hB)
            replace hO : OwnR intE wr.drew w.heap.size v4 acc := hO
            generalize wr.drew = V0 at hHeld hO ⊢
            refine wt (i := 0) (oi := ⟨some 15, .move (.tmp 7), 3, "ref.go:81", #[], none⟩) (v := .int .i64 (e : Int)) (Or.inl ⟨by rfl, fun w' hSw => by go_simp⟩) hHeld ?_
            try simp only [zP, zQ, zS, zZ, zC]
            refine wt (i := 1) (oi := ⟨some 16, .move (.tmp 0), 32, "ref.go:81", #[], none⟩) (v := .slice (some ⟨b, off, none⟩) n c) (Or.inl ⟨by rfl, fun w' hSw => by go_simp⟩) hHeld ?_
            try simp only [zP, zQ, zS, zZ, zC]
            refine wt (i := 2) (oi := ⟨some 17, .call { callee := .builtin .len, args := #[.tmp 16], argTypes := #[32] }, 3, "ref.go:81", #[⟨1, .data⟩], none⟩) (v := .int .i64 (n : Int)) (Or.inl ⟨by rfl, fun w' hSw => by go_simp⟩) hHeld ?_
            try simp only [zP, zQ, zS, zZ, zC]
            refine wt (i := 3) (oi := ⟨some 18, .binOp .lss 3 (.tmp 15) (.tmp 17) 3, 4, "ref.go:81", #[⟨0, .data⟩, ⟨2, .data⟩], none⟩) (v := .bool true) (Or.inl ⟨by rfl, fun w' hSw => by go_simp⟩) hHeld ?_
            try simp only [zP, zQ, zS, zZ, zC]
            refine wt (i := 4) (oi := ⟨some 19, .move (.tmp 18), 4, "ref.go:81", #[⟨3, .data⟩], none⟩) (v := .bool true) (Or.inl ⟨by rfl, fun w' hSw => by go_simp⟩) hHeld ?_
            try simp only [zP, zQ, zS, zZ, zC]
            refine wt (i := 5) (oi := ⟨some 20, .move (.tmp 0), 32, "ref.go:81", #[⟨4, .guard⟩], some (4, true)⟩) (v := .slice (some ⟨b, off, none⟩) n c) (Or.inl ⟨by rfl, fun w' hSw => by go_simp⟩) hHeld ?_
            try simp only [zP, zQ, zS, zZ, zC]
            refine wt (i := 6) (oi := ⟨some 21, .move (.tmp 7), 3, "ref.go:81", #[⟨4, .guard⟩], some (4, true)⟩) (v := .int .i64 (e : Int)) (Or.inl ⟨by rfl, fun w' hSw => by go_simp⟩) hHeld ?_
            try simp only [zP, zQ, zS, zZ, zC]
            refine wt (i := 7) (oi := ⟨some 22, .indexAddr 32 (.tmp 20) (.tmp 21), 0, "ref.go:81", #[⟨5, .data⟩, ⟨6, .data⟩, ⟨4, .guard⟩], some (4, true)⟩) (v := .pointer (some ⟨b, off + e * 5, none⟩)) (Or.inl ⟨by rfl, fun w' hSw => by go_simp; try (intro hcm; exact absurd hcm (by omega))⟩) hHeld ?_
            try simp only [zP, zQ, zS, zZ, zC]
            refine wt (i := 8) (oi := ⟨some 23, .fieldAddr 69 (.tmp 22) 0, 0, "ref.go:81", #[⟨7, .data⟩, ⟨4, .guard⟩], some (4, true)⟩) (v := .pointer (some ⟨b, off + e * 5, none⟩)) (Or.inl ⟨by rfl, fun w' hSw => by go_simp⟩) hHeld ?_
            try simp only [zP, zQ, zS, zZ, zC]
            refine wt (i := 9) (oi := ⟨some 24, .load 3 (.tmp 23), 3, "ref.go:81", #[⟨8, .data⟩, ⟨4, .guard⟩], some (4, true)⟩) (v := .int .i64 y.q) (Or.inl ⟨by rfl, fun w' hSw => by have hc : w'.cell? ⟨b, off + e * 5, none⟩ = some (.int .i64 y.q) := RY.out w' hSw 0 _ rfl; go_simp⟩) hHeld ?_
            try simp only [zP, zQ, zS, zZ, zC]
            refine wt (i := 10) (oi := ⟨some 25, .move (.tmp 0), 32, "ref.go:81", #[⟨4, .guard⟩], some (4, true)⟩) (v := .slice (some ⟨b, off, none⟩) n c) (Or.inl ⟨by rfl, fun w' hSw => by go_simp⟩) hHeld ?_
            try simp only [zP, zQ, zS, zZ, zC]
            refine wt (i := 11) (oi := ⟨some 26, .move (.tmp 6), 3, "ref.go:81", #[⟨4, .guard⟩], some (4, true)⟩) (v := .int .i64 (at_ : Int)) (Or.inl ⟨by rfl, fun w' hSw => by go_simp⟩) hHeld ?_
            try simp only [zP, zQ, zS, zZ, zC]
            refine wt (i := 12) (oi := ⟨some 27, .indexAddr 32 (.tmp 25) (.tmp 26), 0, "ref.go:81", #[⟨10, .data⟩, ⟨11, .data⟩, ⟨4, .guard⟩], some (4, true)⟩) (v := .pointer (some ⟨b, off + at_ * 5, none⟩)) (Or.inl ⟨by rfl, fun w' hSw => by go_simp; try (intro hcm; exact absurd hcm (by omega))⟩) hHeld ?_
            try simp only [zP, zQ, zS, zZ, zC]
            refine wt (i := 13) (oi := ⟨some 28, .fieldAddr 69 (.tmp 27) 0, 0, "ref.go:81", #[⟨12, .data⟩, ⟨4, .guard⟩], some (4, true)⟩) (v := .pointer (some ⟨b, off + at_ * 5, none⟩)) (Or.inl ⟨by rfl, fun w' hSw => by go_simp⟩) hHeld ?_
            try simp only [zP, zQ, zS, zZ, zC]
            refine wt (i := 14) (oi := ⟨some 29, .load 3 (.tmp 28), 3, "ref.go:81", #[⟨13, .data⟩, ⟨4, .guard⟩], some (4, true)⟩) (v := .int .i64 x.q) (Or.inl ⟨by rfl, fun w' hSw => by have hc : w'.cell? ⟨b, off + at_ * 5, none⟩ = some (.int .i64 x.q) := RX.out w' hSw 0 _ rfl; go_simp⟩) hHeld ?_
            try simp only [zP, zQ, zS, zZ, zC]
            refine wt (i := 15) (oi := ⟨some 30, .binOp .eql 3 (.tmp 24) (.tmp 29) 3, 4, "ref.go:81", #[⟨9, .data⟩, ⟨14, .data⟩, ⟨4, .guard⟩], some (4, true)⟩) (v := .bool false) (Or.inl ⟨by rfl, fun w' hSw => by go_simp⟩) hHeld ?_
            try simp only [zP, zQ, zS, zZ, zC]
            refine wt (i := 16) (oi := ⟨some 31, .pick (.tmp 19) (.tmp 30) (.const (Value.bool false)), 4, "ref.go:81", #[⟨4, .data⟩, ⟨15, .data⟩], none⟩) (v := .bool false) (Or.inl ⟨by rfl, fun w' hSw => by go_simp⟩) hHeld ?_
            try simp only [zP, zQ, zS, zZ, zC]
            refine wpAnyH_done (by kernel_rfl) ?_ _
            have BX := hHeld
            clear hHeld 
            have heE : e = E := HT.out.trans HEE.out
            subst heE
            have hB : Below w.heap.size w V0 := BX
            clear HT
            obtain ⟨qm, hqm⟩ : ∃ qm : Int, (q : Int) - 1 = qm := ⟨_, rfl⟩
            rw [hqm]
            have hq1 : qm + 1 = (q : Int) := by omega
            have hq2 : qm + 1 ≤ 100000000000 := by omega
            have hq3 : -1 ≤ qm := by omega
            have hc0 : ∀ w', Below w.heap.size w w' → w'.cell? ⟨b, off + at_ * 5, none⟩ = some (.int .i64 x.q) := fun w' h => RX.out w' h 0 _ rfl
            have hc1 := hc0 V0 hB
            by_cases hxq : x.q = (q : Int)
            · have HS := Lib.hid (read_step HX.out (by omega) hxq HR.out HEE.out)
              have hbq : (x.q != (q : Int)) = false := by simp [hxq]
              have HC := Lib.hid hqm
              clear hqm hc0 hxq
              go_wp2
              have hla2 : acc.length ≤ 2 * at_ + 2 * at_ := by omega
              go_loopw [4, 8] (fun v4 v8 wr => RdF l e at_ (acc ++ fwT (segT l at_ e)) w v4 v8 wr) (fun _ v _ => e - (intOf v).toNat)
              case atStart => exact ⟨at_, acc, rfl, Nat.le_refl _, hae, hla2, rfl, hO, hB⟩
              case round =>
                clear hO hB hc1
                obtain ⟨R1, hR1⟩ : ∃ R1, acc ++ fwT (segT l at_ e) = R1 := ⟨_, rfl⟩
                rw [hR1] at hrel HS ⊢
                clear hR1 hla hla2
                obtain ⟨i, acc, rfl, hai, hiE, hlen, hr1, hO, hB⟩ := hrel
                generalize u4 = v4 at *
                rcases Nat.lt_or_ge i e with hie | hie
                · have hiez : (i : Int) < (e : Int) := by omega
                  have hinz : (i : Int) < (n : Int) := by omega
                  obtain ⟨y, hy⟩ : ∃ y, l[i]? = some y := ⟨_, List.getElem?_eq_getElem (by rw [HN.out]; omega)⟩
                  have RY := Lib.hid (fun w' h => RA.out i y hy w' h)
                  rw [seg_fw hy hie] at hr1
                  have HF := Lib.hid (fw_step hr1)
                  have hle : acc.length ≤ 1000000000000 := by omega
                  have hlz : (acc ++ [y.fb, y.ba]).length = acc.length + 2 := by rw [List.length_append]; rfl
                  clear hy hr1
                  go_upto_region 14 with (fail)
                  refine wp_region_held_drew (S := fun w' => Below w.heap.size w w') (by kernel_rfl) (below_drew (hB)) (fun _ => ?_)
                  have hHeld : Below w.heap.size w wr.drew := below_drew (hB)
                  replace hO : OwnR intE wr.drew w.heap.size v4 acc := hO
                  generalize wr.drew = V0 at hHeld hO ⊢
                  refine wt (i := 0) (oi := ⟨some 49, .move (.tmp 4), 44, "ref.go:89", #[], none⟩) (v := v4) (Or.inl ⟨by rfl, fun w' hSw => by go_simp⟩) hHeld ?_
                  try simp only [zP, zQ, zS, zZ, zC]
                  refine wt (i := 1) (oi := ⟨some 50, .move (.tmp 0), 32, "ref.go:89", #[], none⟩) (v := .slice (some ⟨b, off, none⟩) n c) (Or.inl ⟨by rfl, fun w' hSw => by go_simp⟩) hHeld ?_
                  try simp only [zP, zQ, zS, zZ, zC]
                  refine wt (i := 2) (oi := ⟨some 51, .move (.tmp 8), 3, "ref.go:89", #[], none⟩) (v := .int .i64 (i : Int)) (Or.inl ⟨by rfl, fun w' hSw => by go_simp⟩) hHeld ?_
                  try simp only [zP, zQ, zS, zZ, zC]
                  refine wt (i := 3) (oi := ⟨some 52, .indexAddr 32 (.tmp 50) (.tmp 51), 0, "ref.go:89", #[⟨1, .data⟩, ⟨2, .data⟩], none⟩) (v := .pointer (some ⟨b, off + i * 5, none⟩)) (Or.inl ⟨by rfl, fun w' hSw => by go_simp; try (intro hcm; exact absurd hcm (by omega))⟩) hHeld ?_
                  try simp only [zP, zQ, zS, zZ, zC]
                  refine wt (i := 4) (oi := ⟨some 53, .fieldAddr 69 (.tmp 52) 1, 0, "ref.go:89", #[⟨3, .data⟩], none⟩) (v := .pointer (some ⟨b, off + i * 5 + 1, none⟩)) (Or.inl ⟨by rfl, fun w' hSw => by go_simp⟩) hHeld ?_
                  try simp only [zP, zQ, zS, zZ, zC]
                  refine wt (i := 5) (oi := ⟨some 54, .indexAddr 25 (.tmp 53) (.const (Value.int IntKind.i64 1)), 0, "ref.go:89", #[⟨4, .data⟩], none⟩) (v := .pointer (some ⟨b, off + i * 5 + 1 + 1, none⟩)) (Or.inl ⟨by rfl, fun w' hSw => by go_simp⟩) hHeld ?_
                  try simp only [zP, zQ, zS, zZ, zC]
                  refine wt (i := 6) (oi := ⟨some 55, .load 3 (.tmp 54), 3, "ref.go:89", #[⟨5, .data⟩], none⟩) (v := .int .i64 y.fb) (Or.inl ⟨by rfl, fun w' hSw => by have hc := RY.out w' hSw 2 _ rfl; go_simp⟩) hHeld ?_
                  try simp only [zP, zQ, zS, zZ, zC]
                  refine wt (i := 7) (oi := ⟨some 56, .move (.tmp 0), 32, "ref.go:89", #[], none⟩) (v := .slice (some ⟨b, off, none⟩) n c) (Or.inl ⟨by rfl, fun w' hSw => by go_simp⟩) hHeld ?_
                  try simp only [zP, zQ, zS, zZ, zC]
                  refine wt (i := 8) (oi := ⟨some 57, .move (.tmp 8), 3, "ref.go:89", #[], none⟩) (v := .int .i64 (i : Int)) (Or.inl ⟨by rfl, fun w' hSw => by go_simp⟩) hHeld ?_
                  try simp only [zP, zQ, zS, zZ, zC]
                  refine wt (i := 9) (oi := ⟨some 58, .indexAddr 32 (.tmp 56) (.tmp 57), 0, "ref.go:89", #[⟨7, .data⟩, ⟨8, .data⟩], none⟩) (v := .pointer (some ⟨b, off + i * 5, none⟩)) (Or.inl ⟨by rfl, fun w' hSw => by go_simp; try (intro hcm; exact absurd hcm (by omega))⟩) hHeld ?_
                  try simp only [zP, zQ, zS, zZ, zC]
                  refine wt (i := 10) (oi := ⟨some 59, .fieldAddr 69 (.tmp 58) 2, 0, "ref.go:89", #[⟨9, .data⟩], none⟩) (v := .pointer (some ⟨b, off + i * 5 + 3, none⟩)) (Or.inl ⟨by rfl, fun w' hSw => by go_simp⟩) hHeld ?_
                  try simp only [zP, zQ, zS, zZ, zC]
                  refine wt (i := 11) (oi := ⟨some 60, .indexAddr 25 (.tmp 59) (.const (Value.int IntKind.i64 0)), 0, "ref.go:89", #[⟨10, .data⟩], none⟩) (v := .pointer (some ⟨b, off + i * 5 + 3, none⟩)) (Or.inl ⟨by rfl, fun w' hSw => by go_simp⟩) hHeld ?_
                  try simp only [zP, zQ, zS, zZ, zC]
                  refine wt (i := 12) (oi := ⟨some 61, .load 3 (.tmp 60), 3, "ref.go:89", #[⟨11, .data⟩], none⟩) (v := .int .i64 y.ba) (Or.inl ⟨by rfl, fun w' hSw => by have hc := RY.out w' hSw 3 _ rfl; go_simp⟩) hHeld ?_
                  try simp only [zP, zQ, zS, zZ, zC]
                  refine wpAnyH_ready (rs := [13]) (by kernel_rfl) (by simp) ?_
                  refine AllReadyH.cons (o := ⟨some 62, .buildSlice 44 2 #[(0, .tmp 55), (1, .tmp 61)], 44, "ref.go:89", #[⟨6, .data⟩, ⟨12, .data⟩], none⟩) rfl (fun K hK => ?_) AllReadyH.nil
                  rw [if_pos (by rfl)]
                  go_simp
                  have hz0 : w.heap.size ≤ V0.heap.size := hHeld.size
                  have hH0 := hHeld
                  refine hK.out _ _ (hHeld.alloc hz0 _) (fun hHeld => ?_)
                  clear hK K
                  try simp only [zP, zQ, zS, zZ, zC]
                  refine wpAnyH_ready (rs := [14]) (by kernel_rfl) (by simp) ?_
                  refine AllReadyH.cons (o := ⟨some 63, .call { callee := .builtin .append, args := #[.tmp 49, .tmp 62], argTypes := #[44, 44] }, 44, "ref.go:89", #[⟨0, .data⟩, ⟨13, .data⟩], none⟩) rfl (fun K hK => ?_) AllReadyH.nil
                  refine push2_wp (w := V0) (.tmp 49) (.tmp 62) rfl acc y.fb y.ba v4 rfl hO hz0 _ rfl hle ?_
                  intro v5 V2 hO5 hG5
                  have hB5 : Below w.heap.size w V2 := hH0.grown hG5 hz0 (fun j e => (own_cells hO e).1)
                  refine hK.out _ _ (hB5) (fun hHeld => ?_)
                  clear hK K
                  try simp only [zP, zQ, zS, zZ, zC]
                  refine wpAnyH_ready (rs := [15]) (by kernel_rfl) (by simp) ?_
                  refine AllReadyH.cons (o := ⟨some 4, .assign (.tmp 63), 44, "ref.go:89", #[⟨14, .data⟩, ⟨14, .chain⟩, ⟨0, .phase⟩, ⟨1, .phase⟩, ⟨2, .phase⟩, ⟨3, .phase⟩, ⟨4, .phase⟩, ⟨5, .phase⟩, ⟨6, .phase⟩, ⟨7, .phase⟩, ⟨8, .phase⟩, ⟨9, .phase⟩, ⟨10, .phase⟩, ⟨11, .phase⟩, ⟨12, .phase⟩, ⟨13, .phase⟩, ⟨14, .phase⟩], none⟩) rfl (fun K hK => ?_) AllReadyH.nil
                  go_simp
                  refine hK.out _ _ (hHeld) (fun hHeld => ?_)
                  clear hK K
                  try simp only [zP, zQ, zS, zZ, zC]
                  refine wpAnyH_done (by kernel_rfl) ?_ _
                  have BX := hHeld
                  clear hHeld 
                  go_wp2
                  exact ⟨⟨i + 1, _, by go_num, by omega, by omega, by rw [hlz]; omega, HF.out, hO5, BX⟩, by simp [intOf]; omega⟩
                · obtain rfl : i = e := by omega
                  rw [seg_end] at hr1
                  have hr1 : acc = R1 := by rw [← hr1]; exact (List.append_nil _).symm
                  subst hr1
                  have hiez : ¬ (i : Int) < (i : Int) := by omega
                  go_wp2
                  go_loopw [4, 9] (fun v4 v9 wr => RdB l i at_ (acc ++ bwT (segT l at_ i)) w v4 v9 wr) (fun _ v _ => (intOf v + 1 - (at_ : Int)).toNat)
                  case atStart => exact ⟨i, _, acc, rfl, rfl, hai, Nat.le_refl _, by omega, rfl, hO, hB⟩
                  case round =>
                    clear hO hB
                    obtain ⟨R2, hR2⟩ : ∃ R2, acc ++ bwT (segT l at_ i) = R2 := ⟨_, rfl⟩
                    rw [hR2] at hrel HS ⊢
                    clear hR2 hlen
                    obtain ⟨j, z, acc, rfl, hz, haj, hji, hlen, hr1, hO, hB⟩ := hrel
                    generalize u4 = v4 at *
                    rcases Nat.lt_or_ge at_ j with hlj | hlj
                    · obtain ⟨k, rfl⟩ : ∃ k, j = k + 1 := ⟨j - 1, by omega⟩
                      obtain rfl : z = (k : Int) := by omega
                      have hkz : (at_ : Int) ≤ (k : Int) := by omega
                      have hknz : (k : Int) < (n : Int) := by omega
                      obtain ⟨y, hy⟩ : ∃ y, l[k]? = some y := ⟨_, List.getElem?_eq_getElem (by rw [HN.out]; omega)⟩
                      have RY := Lib.hid (fun w' h => RA.out k y hy w' h)
                      rw [seg_bw hy (by omega)] at hr1
                      have HF := Lib.hid (bw_step hr1)
                      have hle : acc.length ≤ 1000000000000 := by omega
                      have hlz : (acc ++ [y.bb, y.fa]).length = acc.length + 2 := by rw [List.length_append]; rfl
                      clear hy hr1 hz
                      go_upto_region 18 with (fail)
                      refine wp_region_held_drew (S := fun w' => Below w.heap.size w w') (by kernel_rfl) (below_drew (hB)) (fun _ => ?_)
                      have hHeld : Below w.heap.size w wr.drew := below_drew (hB)
                      replace hO : OwnR intE wr.drew w.heap.size v4 acc := hO
                      generalize wr.drew = V0 at hHeld hO ⊢
                      refine wt (i := 0) (oi := ⟨some 71, .move (.tmp 4), 44, "ref.go:92", #[], none⟩) (v := v4) (Or.inl ⟨by rfl, fun w' hSw => by go_simp⟩) hHeld ?_
                      try simp only [zP, zQ, zS, zZ, zC]
                      refine wt (i := 1) (oi := ⟨some 72, .move (.tmp 0), 32, "ref.go:92", #[], none⟩) (v := .slice (some ⟨b, off, none⟩) n c) (Or.inl ⟨by rfl, fun w' hSw => by go_simp⟩) hHeld ?_
                      try simp only [zP, zQ, zS, zZ, zC]
                      refine wt (i := 2) (oi := ⟨some 73, .move (.tmp 9), 3, "ref.go:92", #[], none⟩) (v := .int .i64 (k : Int)) (Or.inl ⟨by rfl, fun w' hSw => by go_simp⟩) hHeld ?_
                      try simp only [zP, zQ, zS, zZ, zC]
                      refine wt (i := 3) (oi := ⟨some 74, .indexAddr 32 (.tmp 72) (.tmp 73), 0, "ref.go:92", #[⟨1, .data⟩, ⟨2, .data⟩], none⟩) (v := .pointer (some ⟨b, off + k * 5, none⟩)) (Or.inl ⟨by rfl, fun w' hSw => by go_simp; try (intro hcm; exact absurd hcm (by omega))⟩) hHeld ?_
                      try simp only [zP, zQ, zS, zZ, zC]
                      refine wt (i := 4) (oi := ⟨some 75, .fieldAddr 69 (.tmp 74) 2, 0, "ref.go:92", #[⟨3, .data⟩], none⟩) (v := .pointer (some ⟨b, off + k * 5 + 3, none⟩)) (Or.inl ⟨by rfl, fun w' hSw => by go_simp⟩) hHeld ?_
                      try simp only [zP, zQ, zS, zZ, zC]
                      refine wt (i := 5) (oi := ⟨some 76, .indexAddr 25 (.tmp 75) (.const (Value.int IntKind.i64 1)), 0, "ref.go:92", #[⟨4, .data⟩], none⟩) (v := .pointer (some ⟨b, off + k * 5 + 3 + 1, none⟩)) (Or.inl ⟨by rfl, fun w' hSw => by go_simp⟩) hHeld ?_
                      try simp only [zP, zQ, zS, zZ, zC]
                      refine wt (i := 6) (oi := ⟨some 77, .load 3 (.tmp 76), 3, "ref.go:92", #[⟨5, .data⟩], none⟩) (v := .int .i64 y.bb) (Or.inl ⟨by rfl, fun w' hSw => by have hc := RY.out w' hSw 4 _ rfl; go_simp⟩) hHeld ?_
                      try simp only [zP, zQ, zS, zZ, zC]
                      refine wt (i := 7) (oi := ⟨some 78, .move (.tmp 0), 32, "ref.go:92", #[], none⟩) (v := .slice (some ⟨b, off, none⟩) n c) (Or.inl ⟨by rfl, fun w' hSw => by go_simp⟩) hHeld ?_
                      try simp only [zP, zQ, zS, zZ, zC]
                      refine wt (i := 8) (oi := ⟨some 79, .move (.tmp 9), 3, "ref.go:92", #[], none⟩) (v := .int .i64 (k : Int)) (Or.inl ⟨by rfl, fun w' hSw => by go_simp⟩) hHeld ?_
                      try simp only [zP, zQ, zS, zZ, zC]
                      refine wt (i := 9) (oi := ⟨some 80, .indexAddr 32 (.tmp 78) (.tmp 79), 0, "ref.go:92", #[⟨7, .data⟩, ⟨8, .data⟩], none⟩) (v := .pointer (some ⟨b, off + k * 5, none⟩)) (Or.inl ⟨by rfl, fun w' hSw => by go_simp; try (intro hcm; exact absurd hcm (by omega))⟩) hHeld ?_
                      try simp only [zP, zQ, zS, zZ, zC]
                      refine wt (i := 10) (oi := ⟨some 81, .fieldAddr 69 (.tmp 80) 1, 0, "ref.go:92", #[⟨9, .data⟩], none⟩) (v := .pointer (some ⟨b, off + k * 5 + 1, none⟩)) (Or.inl ⟨by rfl, fun w' hSw => by go_simp⟩) hHeld ?_
                      try simp only [zP, zQ, zS, zZ, zC]
                      refine wt (i := 11) (oi := ⟨some 82, .indexAddr 25 (.tmp 81) (.const (Value.int IntKind.i64 0)), 0, "ref.go:92", #[⟨10, .data⟩], none⟩) (v := .pointer (some ⟨b, off + k * 5 + 1, none⟩)) (Or.inl ⟨by rfl, fun w' hSw => by go_simp⟩) hHeld ?_
                      try simp only [zP, zQ, zS, zZ, zC]
                      refine wt (i := 12) (oi := ⟨some 83, .load 3 (.tmp 82), 3, "ref.go:92", #[⟨11, .data⟩], none⟩) (v := .int .i64 y.fa) (Or.inl ⟨by rfl, fun w' hSw => by have hc := RY.out w' hSw 1 _ rfl; go_simp⟩) hHeld ?_
                      try simp only [zP, zQ, zS, zZ, zC]
                      refine wpAnyH_ready (rs := [13]) (by kernel_rfl) (by simp) ?_
                      refine AllReadyH.cons (o := ⟨some 84, .buildSlice 44 2 #[(0, .tmp 77), (1, .tmp 83)], 44, "ref.go:92", #[⟨6, .data⟩, ⟨12, .data⟩], none⟩) rfl (fun K hK => ?_) AllReadyH.nil
                      rw [if_pos (by rfl)]
                      go_simp
                      have hz0 : w.heap.size ≤ V0.heap.size := hHeld.size
                      have hH0 := hHeld
                      refine hK.out _ _ (hHeld.alloc hz0 _) (fun hHeld => ?_)
                      clear hK K
                      try simp only [zP, zQ, zS, zZ, zC]
                      refine wpAnyH_ready (rs := [14]) (by kernel_rfl) (by simp) ?_
                      refine AllReadyH.cons (o := ⟨some 85, .call { callee := .builtin .append, args := #[.tmp 71, .tmp 84], argTypes := #[44, 44] }, 44, "ref.go:92", #[⟨0, .data⟩, ⟨13, .data⟩], none⟩) rfl (fun K hK => ?_) AllReadyH.nil
                      refine push2_wp (w := V0) (.tmp 71) (.tmp 84) rfl acc y.bb y.fa v4 rfl hO hz0 _ rfl hle ?_
                      intro v5 V2 hO5 hG5
                      have hB5 : Below w.heap.size w V2 := hH0.grown hG5 hz0 (fun j e => (own_cells hO e).1)
                      refine hK.out _ _ (hB5) (fun hHeld => ?_)
                      clear hK K
                      try simp only [zP, zQ, zS, zZ, zC]
                      refine wpAnyH_ready (rs := [15]) (by kernel_rfl) (by simp) ?_
                      refine AllReadyH.cons (o := ⟨some 4, .assign (.tmp 85), 44, "ref.go:92", #[⟨14, .data⟩, ⟨14, .chain⟩, ⟨0, .phase⟩, ⟨1, .phase⟩, ⟨2, .phase⟩, ⟨3, .phase⟩, ⟨4, .phase⟩, ⟨5, .phase⟩, ⟨6, .phase⟩, ⟨7, .phase⟩, ⟨8, .phase⟩, ⟨9, .phase⟩, ⟨10, .phase⟩, ⟨11, .phase⟩, ⟨12, .phase⟩, ⟨13, .phase⟩, ⟨14, .phase⟩], none⟩) rfl (fun K hK => ?_) AllReadyH.nil
                      go_simp
                      refine hK.out _ _ (hHeld) (fun hHeld => ?_)
                      clear hK K
                      try simp only [zP, zQ, zS, zZ, zC]
                      refine wpAnyH_done (by kernel_rfl) ?_ _
                      have BX := hHeld
                      clear hHeld 
                      go_wp2
                      exact ⟨⟨k, _, _, rfl, by go_num, by omega, by omega, by rw [hlz]; omega, HF.out, hO5, BX⟩, by simp [intOf]; omega⟩
                    · obtain rfl : at_ = j := by omega
                      rw [seg_end] at hr1
                      have hr1 : acc = R2 := by rw [← hr1]; exact (List.append_nil _).symm
                      subst hr1
                      have hkz : ¬ (at_ : Int) ≤ z := by omega
                      go_wp2
                      exact ⟨⟨i, q + 1, f - 1, acc, by omega, rfl, by go_num, by omega, by omega, by omega, HS.out, hO, hB⟩, by simp [intOf]; omega⟩
            · have HF := Lib.hid (show rdL l = [] ∧ rdE l = 2 from by unfold rdL rdE; rw [read_bad HX.out hxq HR.out]; exact ⟨rfl, rfl⟩)
              have hbq : (x.q != (q : Int)) = true := by simp [hxq]
              clear hqm hc0
              go_wp2
              go_ret2
              exact ⟨_, by rw [HF.out.2]; rfl, by rw [HF.out.1]; exact OwnR.nil _ _ _, hB⟩
        · obtain rfl : e = n := by omega
          have hltEz : ¬ (e : Int) < (e : Int) := by omega
          have HT := Lib.hid ((twE_end (by rw [HN.out]; omega)).symm.trans hte)
          clear hte
          go_upto_region 6 with (fail)
          refine wp_region_held_drew (S := fun w' => Below w.heap.size w w') (by kernel_rfl) (below_drew (hB)) (fun _ => ?_)
          have hHeld : Below w.heap.size w wr.drew := below_drew (hB)
          replace hO : OwnR intE wr.drew w.heap.size v4 acc := hO
          generalize wr.drew = V0 at hHeld hO ⊢
          refine wt (i := 0) (oi := ⟨some 15, .move (.tmp 7), 3, "ref.go:81", #[], none⟩) (v := .int .i64 (e : Int)) (Or.inl ⟨by rfl, fun w' hSw => by go_simp⟩) hHeld ?_
          try simp only [zP, zQ, zS, zZ, zC]
          refine wt (i := 1) (oi := ⟨some 16, .move (.tmp 0), 32, "ref.go:81", #[], none⟩) (v := .slice (some ⟨b, off, none⟩) e c) (Or.inl ⟨by rfl, fun w' hSw => by go_simp⟩) hHeld ?_
          try simp only [zP, zQ, zS, zZ, zC]
          refine wt (i := 2) (oi := ⟨some 17, .call { callee := .builtin .len, args := #[.tmp 16], argTypes := #[32] }, 3, "ref.go:81", #[⟨1, .data⟩], none⟩) (v := .int .i64 (e : Int)) (Or.inl ⟨by rfl, fun w' hSw => by go_simp⟩) hHeld ?_
          try simp only [zP, zQ, zS, zZ, zC]
          refine wt (i := 3) (oi := ⟨some 18, .binOp .lss 3 (.tmp 15) (.tmp 17) 3, 4, "ref.go:81", #[⟨0, .data⟩, ⟨2, .data⟩], none⟩) (v := .bool false) (Or.inl ⟨by rfl, fun w' hSw => by go_simp⟩) hHeld ?_
          try simp only [zP, zQ, zS, zZ, zC]
          refine wt (i := 4) (oi := ⟨some 19, .move (.tmp 18), 4, "ref.go:81", #[⟨3, .data⟩], none⟩) (v := .bool false) (Or.inl ⟨by rfl, fun w' hSw => by go_simp⟩) hHeld ?_
          try simp only [zP, zQ, zS, zZ, zC]
          refine wt (i := 5) (oi := ⟨some 20, .move (.tmp 0), 32, "ref.go:81", #[⟨4, .guard⟩], some (4, true)⟩) (v := undef) (Or.inr ⟨by rfl, rfl⟩) hHeld ?_
          try simp only [zP, zQ, zS, zZ, zC]
          refine wt (i := 6) (oi := ⟨some 21, .move (.tmp 7), 3, "ref.go:81", #[⟨4, .guard⟩], some (4, true)⟩) (v := undef) (Or.inr ⟨by rfl, rfl⟩) hHeld ?_
          try simp only [zP, zQ, zS, zZ, zC]
          refine wt (i := 7) (oi := ⟨some 22, .indexAddr 32 (.tmp 20) (.tmp 21), 0, "ref.go:81", #[⟨5, .data⟩, ⟨6, .data⟩, ⟨4, .guard⟩], some (4, true)⟩) (v := undef) (Or.inr ⟨by rfl, rfl⟩) hHeld ?_
          try simp only [zP, zQ, zS, zZ, zC]
          refine wt (i := 8) (oi := ⟨some 23, .fieldAddr 69 (.tmp 22) 0, 0, "ref.go:81", #[⟨7, .data⟩, ⟨4, .guard⟩], some (4, true)⟩) (v := undef) (Or.inr ⟨by rfl, rfl⟩) hHeld ?_
          try simp only [zP, zQ, zS, zZ, zC]
          refine wt (i := 9) (oi := ⟨some 24, .load 3 (.tmp 23), 3, "ref.go:81", #[⟨8, .data⟩, ⟨4, .guard⟩], some (4, true)⟩) (v := undef) (Or.inr ⟨by rfl, rfl⟩) hHeld ?_
          try simp only [zP, zQ, zS, zZ, zC]
          refine wt (i := 10) (oi := ⟨some 25, .move (.tmp 0), 32, "ref.go:81", #[⟨4, .guard⟩], some (4, true)⟩) (v := undef) (Or.inr ⟨by rfl, rfl⟩) hHeld ?_
          try simp only [zP, zQ, zS, zZ, zC]
          refine wt (i := 11) (oi := ⟨some 26, .move (.tmp 6), 3, "ref.go:81", #[⟨4, .guard⟩], some (4, true)⟩) (v := undef) (Or.inr ⟨by rfl, rfl⟩) hHeld ?_
          try simp only [zP, zQ, zS, zZ, zC]
          refine wt (i := 12) (oi := ⟨some 27, .indexAddr 32 (.tmp 25) (.tmp 26), 0, "ref.go:81", #[⟨10, .data⟩, ⟨11, .data⟩, ⟨4, .guard⟩], some (4, true)⟩) (v := undef) (Or.inr ⟨by rfl, rfl⟩) hHeld ?_
          try simp only [zP, zQ, zS, zZ, zC]
          refine wt (i := 13) (oi := ⟨some 28, .fieldAddr 69 (.tmp 27) 0, 0, "ref.go:81", #[⟨12, .data⟩, ⟨4, .guard⟩], some (4, true)⟩) (v := undef) (Or.inr ⟨by rfl, rfl⟩) hHeld ?_
          try simp only [zP, zQ, zS, zZ, zC]
          refine wt (i := 14) (oi := ⟨some 29, .load 3 (.tmp 28), 3, "ref.go:81", #[⟨13, .data⟩, ⟨4, .guard⟩], some (4, true)⟩) (v := undef) (Or.inr ⟨by rfl, rfl⟩) hHeld ?_
          try simp only [zP, zQ, zS, zZ, zC]
          refine wt (i := 15) (oi := ⟨some 30, .binOp .eql 3 (.tmp 24) (.tmp 29) 3, 4, "ref.go:81", #[⟨9, .data⟩, ⟨14, .data⟩, ⟨4, .guard⟩], some (4, true)⟩) (v := undef) (Or.inr ⟨by rfl, rfl⟩) hHeld ?_
          try simp only [zP, zQ, zS, zZ, zC]
          refine wt (i := 16) (oi := ⟨some 31, .pick (.tmp 19) (.tmp 30) (.const (Value.bool false)), 4, "ref.go:81", #[⟨4, .data⟩, ⟨15, .data⟩], none⟩) (v := .bool false) (Or.inl ⟨by rfl, fun w' hSw => by go_simp⟩) hHeld ?_
          try simp only [zP, zQ, zS, zZ, zC]
          refine wpAnyH_done (by kernel_rfl) ?_ _
          have BX := hHeld
          clear hHeld 
          have heE : e = E := HT.out.trans HEE.out
          subst heE
          have hB : Below w.heap.size w V0 := BX
          clear HT
          obtain ⟨qm, hqm⟩ : ∃ qm : Int, (q : Int) - 1 = qm := ⟨_, rfl⟩
          rw [hqm]
          have hq1 : qm + 1 = (q : Int) := by omega
          have hq2 : qm + 1 ≤ 100000000000 := by omega
          have hq3 : -1 ≤ qm := by omega
          have hc0 : ∀ w', Below w.heap.size w w' → w'.cell? ⟨b, off + at_ * 5, none⟩ = some (.int .i64 x.q) := fun w' h => RX.out w' h 0 _ rfl
          have hc1 := hc0 V0 hB
          by_cases hxq : x.q = (q : Int)
          · have HS := Lib.hid (read_step HX.out (by omega) hxq HR.out HEE.out)
            have hbq : (x.q != (q : Int)) = false := by simp [hxq]
            have HC := Lib.hid hqm
            clear hqm hc0 hxq
            go_wp2
            have hla2 : acc.length ≤ 2 * at_ + 2 * at_ := by omega
            go_loopw [4, 8] (fun v4 v8 wr => RdF l e at_ (acc ++ fwT (segT l at_ e)) w v4 v8 wr) (fun _ v _ => e - (intOf v).toNat)
            case atStart => exact ⟨at_, acc, rfl, Nat.le_refl _, hae, hla2, rfl, hO, hB⟩
            case round =>
              clear hO hB hc1
              obtain ⟨R1, hR1⟩ : ∃ R1, acc ++ fwT (segT l at_ e) = R1 := ⟨_, rfl⟩
              rw [hR1] at hrel HS ⊢
              clear hR1 hla hla2
              obtain ⟨i, acc, rfl, hai, hiE, hlen, hr1, hO, hB⟩ := hrel
              generalize u4 = v4 at *
              rcases Nat.lt_or_ge i e with hie | hie
              · have hiez : (i : Int) < (e : Int) := by omega
                have hinz : (i : Int) < (e : Int) := by omega
                obtain ⟨y, hy⟩ : ∃ y, l[i]? = some y := ⟨_, List.getElem?_eq_getElem (by rw [HN.out]; omega)⟩
                have RY := Lib.hid (fun w' h => RA.out i y hy w' h)
                rw [seg_fw hy hie] at hr1
                have HF := Lib.hid (fw_step hr1)
                have hle : acc.length ≤ 1000000000000 := by omega
                have hlz : (acc ++ [y.fb, y.ba]).length = acc.length + 2 := by rw [List.length_append]; rfl
                clear hy hr1
                go_upto_region 14 with (fail)
                refine wp_region_held_drew (S := fun w' => Below w.heap.size w w') (by kernel_rfl) (below_drew (hB)) (fun _ => ?_)
                have hHeld : Below w.heap.size w wr.drew := below_drew (hB)
                replace hO : OwnR intE wr.drew w.heap.size v4 acc := hO
                generalize wr.drew = V0 at hHeld hO ⊢
                refine wt (i := 0) (oi := ⟨some 49, .move (.tmp 4), 44, "ref.go:89", #[], none⟩) (v := v4) (Or.inl ⟨by rfl, fun w' hSw => by go_simp⟩) hHeld ?_
                try simp only [zP, zQ, zS, zZ, zC]
                refine wt (i := 1) (oi := ⟨some 50, .move (.tmp 0), 32, "ref.go:89", #[], none⟩) (v := .slice (some ⟨b, off, none⟩) e c) (Or.inl ⟨by rfl, fun w' hSw => by go_simp⟩) hHeld ?_
                try simp only [zP, zQ, zS, zZ, zC]
                refine wt (i := 2) (oi := ⟨some 51, .move (.tmp 8), 3, "ref.go:89", #[], none⟩) (v := .int .i64 (i : Int)) (Or.inl ⟨by rfl, fun w' hSw => by go_simp⟩) hHeld ?_
                try simp only [zP, zQ, zS, zZ, zC]
                refine wt (i := 3) (oi := ⟨some 52, .indexAddr 32 (.tmp 50) (.tmp 51), 0, "ref.go:89", #[⟨1, .data⟩, ⟨2, .data⟩], none⟩) (v := .pointer (some ⟨b, off + i * 5, none⟩)) (Or.inl ⟨by rfl, fun w' hSw => by go_simp; try (intro hcm; exact absurd hcm (by omega))⟩) hHeld ?_
                try simp only [zP, zQ, zS, zZ, zC]
                refine wt (i := 4) (oi := ⟨some 53, .fieldAddr 69 (.tmp 52) 1, 0, "ref.go:89", #[⟨3, .data⟩], none⟩) (v := .pointer (some ⟨b, off + i * 5 + 1, none⟩)) (Or.inl ⟨by rfl, fun w' hSw => by go_simp⟩) hHeld ?_
                try simp only [zP, zQ, zS, zZ, zC]
                refine wt (i := 5) (oi := ⟨some 54, .indexAddr 25 (.tmp 53) (.const (Value.int IntKind.i64 1)), 0, "ref.go:89", #[⟨4, .data⟩], none⟩) (v := .pointer (some ⟨b, off + i * 5 + 1 + 1, none⟩)) (Or.inl ⟨by rfl, fun w' hSw => by go_simp⟩) hHeld ?_
                try simp only [zP, zQ, zS, zZ, zC]
                refine wt (i := 6) (oi := ⟨some 55, .load 3 (.tmp 54), 3, "ref.go:89", #[⟨5, .data⟩], none⟩) (v := .int .i64 y.fb) (Or.inl ⟨by rfl, fun w' hSw => by have hc := RY.out w' hSw 2 _ rfl; go_simp⟩) hHeld ?_
                try simp only [zP, zQ, zS, zZ, zC]
                refine wt (i := 7) (oi := ⟨some 56, .move (.tmp 0), 32, "ref.go:89", #[], none⟩) (v := .slice (some ⟨b, off, none⟩) e c) (Or.inl ⟨by rfl, fun w' hSw => by go_simp⟩) hHeld ?_
                try simp only [zP, zQ, zS, zZ, zC]
                refine wt (i := 8) (oi := ⟨some 57, .move (.tmp 8), 3, "ref.go:89", #[], none⟩) (v := .int .i64 (i : Int)) (Or.inl ⟨by rfl, fun w' hSw => by go_simp⟩) hHeld ?_
                try simp only [zP, zQ, zS, zZ, zC]
                refine wt (i := 9) (oi := ⟨some 58, .indexAddr 32 (.tmp 56) (.tmp 57), 0, "ref.go:89", #[⟨7, .data⟩, ⟨8, .data⟩], none⟩) (v := .pointer (some ⟨b, off + i * 5, none⟩)) (Or.inl ⟨by rfl, fun w' hSw => by go_simp; try (intro hcm; exact absurd hcm (by omega))⟩) hHeld ?_
                try simp only [zP, zQ, zS, zZ, zC]
                refine wt (i := 10) (oi := ⟨some 59, .fieldAddr 69 (.tmp 58) 2, 0, "ref.go:89", #[⟨9, .data⟩], none⟩) (v := .pointer (some ⟨b, off + i * 5 + 3, none⟩)) (Or.inl ⟨by rfl, fun w' hSw => by go_simp⟩) hHeld ?_
                try simp only [zP, zQ, zS, zZ, zC]
                refine wt (i := 11) (oi := ⟨some 60, .indexAddr 25 (.tmp 59) (.const (Value.int IntKind.i64 0)), 0, "ref.go:89", #[⟨10, .data⟩], none⟩) (v := .pointer (some ⟨b, off + i * 5 + 3, none⟩)) (Or.inl ⟨by rfl, fun w' hSw => by go_simp⟩) hHeld ?_
                try simp only [zP, zQ, zS, zZ, zC]
                refine wt (i := 12) (oi := ⟨some 61, .load 3 (.tmp 60), 3, "ref.go:89", #[⟨11, .data⟩], none⟩) (v := .int .i64 y.ba) (Or.inl ⟨by rfl, fun w' hSw => by have hc := RY.out w' hSw 3 _ rfl; go_simp⟩) hHeld ?_
                try simp only [zP, zQ, zS, zZ, zC]
                refine wpAnyH_ready (rs := [13]) (by kernel_rfl) (by simp) ?_
                refine AllReadyH.cons (o := ⟨some 62, .buildSlice 44 2 #[(0, .tmp 55), (1, .tmp 61)], 44, "ref.go:89", #[⟨6, .data⟩, ⟨12, .data⟩], none⟩) rfl (fun K hK => ?_) AllReadyH.nil
                rw [if_pos (by rfl)]
                go_simp
                have hz0 : w.heap.size ≤ V0.heap.size := hHeld.size
                have hH0 := hHeld
                refine hK.out _ _ (hHeld.alloc hz0 _) (fun hHeld => ?_)
                clear hK K
                try simp only [zP, zQ, zS, zZ, zC]
                refine wpAnyH_ready (rs := [14]) (by kernel_rfl) (by simp) ?_
                refine AllReadyH.cons (o := ⟨some 63, .call { callee := .builtin .append, args := #[.tmp 49, .tmp 62], argTypes := #[44, 44] }, 44, "ref.go:89", #[⟨0, .data⟩, ⟨13, .data⟩], none⟩) rfl (fun K hK => ?_) AllReadyH.nil
                refine push2_wp (w := V0) (.tmp 49) (.tmp 62) rfl acc y.fb y.ba v4 rfl hO hz0 _ rfl hle ?_
                intro v5 V2 hO5 hG5
                have hB5 : Below w.heap.size w V2 := hH0.grown hG5 hz0 (fun j e => (own_cells hO e).1)
                refine hK.out _ _ (hB5) (fun hHeld => ?_)
                clear hK K
                try simp only [zP, zQ, zS, zZ, zC]
                refine wpAnyH_ready (rs := [15]) (by kernel_rfl) (by simp) ?_
                refine AllReadyH.cons (o := ⟨some 4, .assign (.tmp 63), 44, "ref.go:89", #[⟨14, .data⟩, ⟨14, .chain⟩, ⟨0, .phase⟩, ⟨1, .phase⟩, ⟨2, .phase⟩, ⟨3, .phase⟩, ⟨4, .phase⟩, ⟨5, .phase⟩, ⟨6, .phase⟩, ⟨7, .phase⟩, ⟨8, .phase⟩, ⟨9, .phase⟩, ⟨10, .phase⟩, ⟨11, .phase⟩, ⟨12, .phase⟩, ⟨13, .phase⟩, ⟨14, .phase⟩], none⟩) rfl (fun K hK => ?_) AllReadyH.nil
                go_simp
                refine hK.out _ _ (hHeld) (fun hHeld => ?_)
                clear hK K
                try simp only [zP, zQ, zS, zZ, zC]
                refine wpAnyH_done (by kernel_rfl) ?_ _
                have BX := hHeld
                clear hHeld 
                go_wp2
                exact ⟨⟨i + 1, _, by go_num, by omega, by omega, by rw [hlz]; omega, HF.out, hO5, BX⟩, by simp [intOf]; omega⟩
              · obtain rfl : i = e := by omega
                rw [seg_end] at hr1
                have hr1 : acc = R1 := by rw [← hr1]; exact (List.append_nil _).symm
                subst hr1
                have hiez : ¬ (i : Int) < (i : Int) := by omega
                go_wp2
                go_loopw [4, 9] (fun v4 v9 wr => RdB l i at_ (acc ++ bwT (segT l at_ i)) w v4 v9 wr) (fun _ v _ => (intOf v + 1 - (at_ : Int)).toNat)
                case atStart => exact ⟨i, _, acc, rfl, rfl, hai, Nat.le_refl _, by omega, rfl, hO, hB⟩
                case round =>
                  clear hO hB
                  obtain ⟨R2, hR2⟩ : ∃ R2, acc ++ bwT (segT l at_ i) = R2 := ⟨_, rfl⟩
                  rw [hR2] at hrel HS ⊢
                  clear hR2 hlen
                  obtain ⟨j, z, acc, rfl, hz, haj, hji, hlen, hr1, hO, hB⟩ := hrel
                  generalize u4 = v4 at *
                  rcases Nat.lt_or_ge at_ j with hlj | hlj
                  · obtain ⟨k, rfl⟩ : ∃ k, j = k + 1 := ⟨j - 1, by omega⟩
                    obtain rfl : z = (k : Int) := by omega
                    have hkz : (at_ : Int) ≤ (k : Int) := by omega
                    have hknz : (k : Int) < (i : Int) := by omega
                    obtain ⟨y, hy⟩ : ∃ y, l[k]? = some y := ⟨_, List.getElem?_eq_getElem (by rw [HN.out]; omega)⟩
                    have RY := Lib.hid (fun w' h => RA.out k y hy w' h)
                    rw [seg_bw hy (by omega)] at hr1
                    have HF := Lib.hid (bw_step hr1)
                    have hle : acc.length ≤ 1000000000000 := by omega
                    have hlz : (acc ++ [y.bb, y.fa]).length = acc.length + 2 := by rw [List.length_append]; rfl
                    clear hy hr1 hz
                    go_upto_region 18 with (fail)
                    refine wp_region_held_drew (S := fun w' => Below w.heap.size w w') (by kernel_rfl) (below_drew (hB)) (fun _ => ?_)
                    have hHeld : Below w.heap.size w wr.drew := below_drew (hB)
                    replace hO : OwnR intE wr.drew w.heap.size v4 acc := hO
                    generalize wr.drew = V0 at hHeld hO ⊢
                    refine wt (i := 0) (oi := ⟨some 71, .move (.tmp 4), 44, "ref.go:92", #[], none⟩) (v := v4) (Or.inl ⟨by rfl, fun w' hSw => by go_simp⟩) hHeld ?_
                    try simp only [zP, zQ, zS, zZ, zC]
                    refine wt (i := 1) (oi := ⟨some 72, .move (.tmp 0), 32, "ref.go:92", #[], none⟩) (v := .slice (some ⟨b, off, none⟩) i c) (Or.inl ⟨by rfl, fun w' hSw => by go_simp⟩) hHeld ?_
                    try simp only [zP, zQ, zS, zZ, zC]
                    refine wt (i := 2) (oi := ⟨some 73, .move (.tmp 9), 3, "ref.go:92", #[], none⟩) (v := .int .i64 (k : Int)) (Or.inl ⟨by rfl, fun w' hSw => by go_simp⟩) hHeld ?_
                    try simp only [zP, zQ, zS, zZ, zC]
                    refine wt (i := 3) (oi := ⟨some 74, .indexAddr 32 (.tmp 72) (.tmp 73), 0, "ref.go:92", #[⟨1, .data⟩, ⟨2, .data⟩], none⟩) (v := .pointer (some ⟨b, off + k * 5, none⟩)) (Or.inl ⟨by rfl, fun w' hSw => by go_simp; try (intro hcm; exact absurd hcm (by omega))⟩) hHeld ?_
                    try simp only [zP, zQ, zS, zZ, zC]
                    refine wt (i := 4) (oi := ⟨some 75, .fieldAddr 69 (.tmp 74) 2, 0, "ref.go:92", #[⟨3, .data⟩], none⟩) (v := .pointer (some ⟨b, off + k * 5 + 3, none⟩)) (Or.inl ⟨by rfl, fun w' hSw => by go_simp⟩) hHeld ?_
                    try simp only [zP, zQ, zS, zZ, zC]
                    refine wt (i := 5) (oi := ⟨some 76, .indexAddr 25 (.tmp 75) (.const (Value.int IntKind.i64 1)), 0, "ref.go:92", #[⟨4, .data⟩], none⟩) (v := .pointer (some ⟨b, off + k * 5 + 3 + 1, none⟩)) (Or.inl ⟨by rfl, fun w' hSw => by go_simp⟩) hHeld ?_
                    try simp only [zP, zQ, zS, zZ, zC]
                    refine wt (i := 6) (oi := ⟨some 77, .load 3 (.tmp 76), 3, "ref.go:92", #[⟨5, .data⟩], none⟩) (v := .int .i64 y.bb) (Or.inl ⟨by rfl, fun w' hSw => by have hc := RY.out w' hSw 4 _ rfl; go_simp⟩) hHeld ?_
                    try simp only [zP, zQ, zS, zZ, zC]
                    refine wt (i := 7) (oi := ⟨some 78, .move (.tmp 0), 32, "ref.go:92", #[], none⟩) (v := .slice (some ⟨b, off, none⟩) i c) (Or.inl ⟨by rfl, fun w' hSw => by go_simp⟩) hHeld ?_
                    try simp only [zP, zQ, zS, zZ, zC]
                    refine wt (i := 8) (oi := ⟨some 79, .move (.tmp 9), 3, "ref.go:92", #[], none⟩) (v := .int .i64 (k : Int)) (Or.inl ⟨by rfl, fun w' hSw => by go_simp⟩) hHeld ?_
                    try simp only [zP, zQ, zS, zZ, zC]
                    refine wt (i := 9) (oi := ⟨some 80, .indexAddr 32 (.tmp 78) (.tmp 79), 0, "ref.go:92", #[⟨7, .data⟩, ⟨8, .data⟩], none⟩) (v := .pointer (some ⟨b, off + k * 5, none⟩)) (Or.inl ⟨by rfl, fun w' hSw => by go_simp; try (intro hcm; exact absurd hcm (by omega))⟩) hHeld ?_
                    try simp only [zP, zQ, zS, zZ, zC]
                    refine wt (i := 10) (oi := ⟨some 81, .fieldAddr 69 (.tmp 80) 1, 0, "ref.go:92", #[⟨9, .data⟩], none⟩) (v := .pointer (some ⟨b, off + k * 5 + 1, none⟩)) (Or.inl ⟨by rfl, fun w' hSw => by go_simp⟩) hHeld ?_
                    try simp only [zP, zQ, zS, zZ, zC]
                    refine wt (i := 11) (oi := ⟨some 82, .indexAddr 25 (.tmp 81) (.const (Value.int IntKind.i64 0)), 0, "ref.go:92", #[⟨10, .data⟩], none⟩) (v := .pointer (some ⟨b, off + k * 5 + 1, none⟩)) (Or.inl ⟨by rfl, fun w' hSw => by go_simp⟩) hHeld ?_
                    try simp only [zP, zQ, zS, zZ, zC]
                    refine wt (i := 12) (oi := ⟨some 83, .load 3 (.tmp 82), 3, "ref.go:92", #[⟨11, .data⟩], none⟩) (v := .int .i64 y.fa) (Or.inl ⟨by rfl, fun w' hSw => by have hc := RY.out w' hSw 1 _ rfl; go_simp⟩) hHeld ?_
                    try simp only [zP, zQ, zS, zZ, zC]
                    refine wpAnyH_ready (rs := [13]) (by kernel_rfl) (by simp) ?_
                    refine AllReadyH.cons (o := ⟨some 84, .buildSlice 44 2 #[(0, .tmp 77), (1, .tmp 83)], 44, "ref.go:92", #[⟨6, .data⟩, ⟨12, .data⟩], none⟩) rfl (fun K hK => ?_) AllReadyH.nil
                    rw [if_pos (by rfl)]
                    go_simp
                    have hz0 : w.heap.size ≤ V0.heap.size := hHeld.size
                    have hH0 := hHeld
                    refine hK.out _ _ (hHeld.alloc hz0 _) (fun hHeld => ?_)
                    clear hK K
                    try simp only [zP, zQ, zS, zZ, zC]
                    refine wpAnyH_ready (rs := [14]) (by kernel_rfl) (by simp) ?_
                    refine AllReadyH.cons (o := ⟨some 85, .call { callee := .builtin .append, args := #[.tmp 71, .tmp 84], argTypes := #[44, 44] }, 44, "ref.go:92", #[⟨0, .data⟩, ⟨13, .data⟩], none⟩) rfl (fun K hK => ?_) AllReadyH.nil
                    refine push2_wp (w := V0) (.tmp 71) (.tmp 84) rfl acc y.bb y.fa v4 rfl hO hz0 _ rfl hle ?_
                    intro v5 V2 hO5 hG5
                    have hB5 : Below w.heap.size w V2 := hH0.grown hG5 hz0 (fun j e => (own_cells hO e).1)
                    refine hK.out _ _ (hB5) (fun hHeld => ?_)
                    clear hK K
                    try simp only [zP, zQ, zS, zZ, zC]
                    refine wpAnyH_ready (rs := [15]) (by kernel_rfl) (by simp) ?_
                    refine AllReadyH.cons (o := ⟨some 4, .assign (.tmp 85), 44, "ref.go:92", #[⟨14, .data⟩, ⟨14, .chain⟩, ⟨0, .phase⟩, ⟨1, .phase⟩, ⟨2, .phase⟩, ⟨3, .phase⟩, ⟨4, .phase⟩, ⟨5, .phase⟩, ⟨6, .phase⟩, ⟨7, .phase⟩, ⟨8, .phase⟩, ⟨9, .phase⟩, ⟨10, .phase⟩, ⟨11, .phase⟩, ⟨12, .phase⟩, ⟨13, .phase⟩, ⟨14, .phase⟩], none⟩) rfl (fun K hK => ?_) AllReadyH.nil
                    go_simp
                    refine hK.out _ _ (hHeld) (fun hHeld => ?_)
                    clear hK K
                    try simp only [zP, zQ, zS, zZ, zC]
                    refine wpAnyH_done (by kernel_rfl) ?_ _
                    have BX := hHeld
                    clear hHeld 
                    go_wp2
                    exact ⟨⟨k, _, _, rfl, by go_num, by omega, by omega, by rw [hlz]; omega, HF.out, hO5, BX⟩, by simp [intOf]; omega⟩
                  · obtain rfl : at_ = j := by omega
                    rw [seg_end] at hr1
                    have hr1 : acc = R2 := by rw [← hr1]; exact (List.append_nil _).symm
                    subst hr1
                    have hkz : ¬ (at_ : Int) ≤ z := by omega
                    go_wp2
                    exact ⟨⟨i, q + 1, f - 1, acc, by omega, rfl, by go_num, by omega, by omega, by omega, HS.out, hO, hB⟩, by simp [intOf]; omega⟩
          · have HF := Lib.hid (show rdL l = [] ∧ rdE l = 2 from by unfold rdL rdE; rw [read_bad HX.out hxq HR.out]; exact ⟨rfl, rfl⟩)
            have hbq : (x.q != (q : Int)) = true := by simp [hxq]
            clear hqm hc0
            go_wp2
            go_ret2
            exact ⟨_, by rw [HF.out.2]; rfl, by rw [HF.out.1]; exact OwnR.nil _ _ _, hB⟩
    · obtain rfl : at_ = n := by omega
      have hlt : ¬ (at_ : Int) < (at_ : Int) := by omega
      have HF : readT l = some acc := by rw [← hR, List.drop_eq_nil_of_le (by rw [HN.out]; exact Nat.le_refl _), readF_nil]; simp
      have HF2 := Lib.hid (show rdL l = acc ∧ rdE l = 0 from by unfold rdL rdE; rw [HF]; exact ⟨rfl, rfl⟩)
      clear hR HF
      go_wp2
      go_ret2
      exact ⟨_, by rw [HF2.out.2]; rfl, by rw [HF2.out.1]; exact hO, hB⟩
end Go.Proofs.Ytahmpagolmodhaa
