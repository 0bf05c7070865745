/-
  ImposeSides, walked.
-/
import Derived.Test.YtahmpagolmodhaaJo
import Derived.Test.YtahmpagolmodhaaIr
import Derived.StillTailTactics
namespace Go.Proofs.Ytahmpagolmodhaa
open Go.RowKit
set_option linter.unusedVariables false
set_option linter.unusedSimpArgs false

def zeros (n : Nat) : Array Value := (List.replicate n (.int .i64 0)).toArray
theorem mk_int (n : Nat) (hn : n ≤ 1000000) (w : World) : (Instr.makeSlice 44 (.int .i64 (n : Int)) (.int .i64 (n : Int))).run Try.prog w = .ok (.slice (some ⟨w.heap.size, 0, none⟩) n n) (w.alloc (.cells (zeros n) 3)) := by
  obtain ⟨i0, hi, hz0, hz1, hz2⟩ := info_parts intE.info
  have h := run_make (P := Try.prog) w 44 3 i0 (.int .i64 0) Try.underlying44 hi hz0 .i64 .i64 (n : Int) (n : Int) (by omega) (by omega) (by rw [hz2, show intE.bytes = 8 from rfl]; omega) (by omega)
  rw [hz1, Int.toNat_natCast] at h
  have e : madeCells (Value.int .i64 0).cells (n * intE.k) = zeros n := by
    rw [show intE.k = 1 from rfl, Nat.mul_one]
    apply Array.toList_inj.1
    rw [show (Value.int IntKind.i64 0).cells = #[.int .i64 0] from rfl, toList_madeCells_one]
    rfl
  rw [h, e]
theorem mk1001 (w : World) : (Instr.makeSlice 44 (.int .i64 1001) (.int .i64 1001)).run Try.prog w = .ok (.slice (some ⟨w.heap.size, 0, none⟩) 1001 1001) (w.alloc (.cells (zeros 1001) 3)) := mk_int 1001 (by omega) w
theorem next_any (a b : Int) (ha : 0 ≤ a ∧ a ≤ 1000) (hb : 0 ≤ b ∧ b ≤ 1000) (hy : nextT a b = true) (w : World) : Calls Try.prog 36 #[.int .i64 a, .int .i64 b] w (fun e w' => e = .returned (.bool true) ∧ w = w') := by
  have hy2 := nextT_iff.1 hy
  clear hy
  rcases hy2 with rfl | rfl | h | h
  · go_enter Try.func36, Try.ntmps36
    go_wp2
    go_ret
    exact ⟨rfl, rfl⟩
  · by_cases ha0 : a = 0 <;> go_enter Try.func36, Try.ntmps36 <;> go_wp2 <;> go_ret <;> exact ⟨rfl, rfl⟩
  · by_cases ha0 : a = 0 <;> by_cases hb0 : b = 0 <;> go_enter Try.func36, Try.ntmps36 <;> go_wp2 <;> go_ret <;> exact ⟨rfl, rfl⟩
  · by_cases ha0 : a = 0 <;> by_cases hb0 : b = 0 <;> by_cases hab : a + 1 = b <;> go_enter Try.func36, Try.ntmps36 <;> go_wp2 <;> go_ret <;> exact ⟨rfl, rfl⟩
/-- How often the numbers up to 1000 were met. -/
def Met (W : World) (B g : Nat) (L : List Int) : Prop := ∃ M : List Int, OwnR intE W B (.slice (some ⟨g, 0, none⟩) 1001 1001) M ∧ M.length = 1001 ∧ ∀ z : Nat, z < 1001 → M[z]? = some ((L.count (z : Int) : Nat) : Int)
theorem row_zeros (n : Nat) : intE.row (List.replicate n 0) = (zeros n).toList := by
  unfold zeros
  induction n with
  | zero => rfl
  | succ n ih => rw [List.replicate_succ, List.replicate_succ]; show Value.int .i64 0 :: intE.row (List.replicate n 0) = _; rw [ih]
theorem Met.new (w : World) : Met (w.alloc (.cells (zeros 1001) 3)) w.heap.size w.heap.size [] := by
  refine ⟨List.replicate 1001 0, own_new intE w (zeros 1001) _ 1001 (List.length_replicate) (by omega) (row_zeros 1001), List.length_replicate, fun z hz => by rw [List.getElem?_replicate, if_pos hz]; rfl⟩
theorem Met.keep {W W' : World} {B g : Nat} {L : List Int} (h : Met W B g L) (hb : Below W.heap.size W W') : Met W' B g L := let ⟨M, h1, h2, h3⟩ := h; ⟨M, h1.keep hb, h2, h3⟩
theorem Met.at {W : World} {B g : Nat} {L : List Int} (h : Met W B g L) {z : Nat} (hz : z < 1001) : B ≤ g ∧ W.cell? ⟨g, z, none⟩ = some (.int .i64 ((L.count (z : Int) : Nat) : Int)) ∧ W.frozen? ⟨g, z, none⟩ = false ∧
    Met (W.setCell ⟨g, z, none⟩ (.int .i64 ((L.count (z : Int) : Nat) + 1 : Int))) B g (L ++ [(z : Int)]) := by
  obtain ⟨M, h1, h2, h3⟩ := h
  have hx := h3 z hz
  obtain ⟨g', e, hB, s1, f1, hO⟩ := h1.put (j := 0) (y := ((L.count (z : Int) : Nat) + 1 : Int)) (u := .int .i64 ((L.count (z : Int) : Nat) + 1 : Int)) hx rfl (by decide)
  injection e with e; injection e with e; subst e
  have e9 : z * intE.k + 0 = z := by show z * 1 + 0 = z; omega
  rw [e9] at s1 f1 hO
  refine ⟨hB, ?_, f1, M.set z ((L.count (z : Int) : Nat) + 1 : Int), hO, by rw [List.length_set]; exact h2, fun y hy => ?_⟩
  · obtain ⟨q, c', e, _, hA, _⟩ := h1.form
    obtain ⟨b, off, e2, hL⟩ := hA.get (List.getElem?_eq_some_iff.1 hx).1
    injection e with e3 _ _
    rw [← e3] at e2
    injection e2 with e2; injection e2 with e2 e4
    subst e2
    subst e4
    have := hL.2 z _ 0 _ hx rfl
    rwa [Nat.zero_add, e9] at this
  · by_cases hyz : z = y
    · subst hyz
      rw [List.getElem?_set_self (by omega), List.count_append, List.count_singleton_self]
      rfl
    · rw [List.getElem?_set_ne hyz, h3 y hy, List.count_append, List.count_singleton, if_neg (by simp; omega), Nat.add_zero]
theorem Met.lt {W : World} {B g : Nat} {L : List Int} (h : Met W B g L) : B ≤ g ∧ g < W.heap.size := by
  obtain ⟨M, h1, h2, h3⟩ := h
  exact World.ownsRow.lt h1 g rfl
def posT (l : List Int) : Bool := l.all fun y => decide (y > 0)
theorem posT_snoc (l : List Int) (z : Int) : posT (l ++ [z]) = (posT l && decide (z > 0)) := by unfold posT; rw [List.all_append]; simp
theorem pos_all {a b c d : Int} (h : posT [a, b, c, d] = true) : a > 0 ∧ b > 0 ∧ c > 0 ∧ d > 0 := by
  unfold posT at h
  simp only [List.all_cons, List.all_nil, Bool.and_true, Bool.and_eq_true, decide_eq_true_eq] at h
  exact ⟨h.1, h.2.1, h.2.2.1, h.2.2.2⟩
theorem leaf_odd {f a : Nat} (h : (f : Int) = 2 * (a : Int) - 1) (ha : a ≤ 500) (h1 : 1 ≤ a) : leafT (f : Int) = (a : Int) := by unfold leafT; rw [if_neg (by omega)]; omega
theorem up_four (p h i : Nat) : (upTo p h (i + 1)).flatMap four = (upTo p h i).flatMap four ++ four (shT p h i) := by
  have : upTo p h (i + 1) = upTo p h i ++ [shT p h i] := range_snoc _ _
  rw [this, List.flatMap_append]
  simp
theorem count_small (p h i : Nat) (l : List Int) (z : Int) (hi : i ≤ 600) (hl : l.length ≤ 4) : ((upTo p h i).flatMap four ++ l).count z ≤ 5000 := by
  have h1 := List.count_le_length (a := z) (l := (upTo p h i).flatMap four ++ l)
  have h2 : ((upTo p h i).flatMap four).length = i * 4 := by
    induction i with
    | zero => rfl
    | succ i ih => rw [up_four, List.length_append, ih (by omega) (by have := List.count_le_length (a := z) (l := (upTo p h i).flatMap four ++ l); exact this)]; show i * 4 + 4 = _; omega
  rw [List.length_append, h2] at h1
  omega
def OneAt (g P : Nat) (w : World) : Prop := ∀ k : Nat, 1 ≤ k → k ≤ P → w.cell? ⟨g, k, none⟩ = some (.int .i64 1)
def OnRel (w2 : World) (g P : Nat) (v : Value) (w' : World) : Prop := ∃ k : Nat, v = .int .i64 (k : Int) ∧ 1 ≤ k ∧ k ≤ P + 1 ∧ OneAt g P w' ∧ Below w2.heap.size w2 w'
def SdRel (w2 : World) (g P H N : Nat) (v : Value) (wr : World) : Prop := ∃ i : Nat, v = .int .i64 (i : Int) ∧ i ≤ N ∧ Met wr w2.heap.size g ((upTo P H i).flatMap four) ∧ Below w2.heap.size w2 wr
def InRel (w2 : World) (g sb ab : Nat) (L fo : List Int) (cs : List Value) (v f : Value) (wr : World) : Prop := ∃ (j : Nat) (b : Bool), v = .int .i64 (j : Int) ∧ j ≤ 4 ∧ f = .bool b ∧ Hid (b = posT (fo.take j)) ∧ Met wr w2.heap.size g (L ++ fo.take j) ∧ Below w2.heap.size w2 wr ∧ Blk wr sb 64 cs ∧ Blk wr ab 3 (fo.map (Value.int .i64))
set_option maxHeartbeats 4000000 in
set_option maxRecDepth 100000 in
theorem imposeSides_any (n m : Int) (n1 : -9223372036854775808 ≤ n) (n2 : n ≤ 9223372036854775807) (m1 : -9223372036854775808 ≤ m) (m2 : m ≤ 9223372036854775807) (w : World) :
    Calls Try.prog 8 #[.int .i64 n, .int .i64 m] w (Yes w) := by
  have CV := Lib.hid (volume_any n m n1 n2 m1 m2)
  have CL := Lib.hid (fun V => lives_any V)
  go_enter Try.func8, Try.ntmps8
  go_upto_region 2 with (go_at_call 9; refine (CV.out _).mono ?_; rintro _ w1 ⟨p, l, rfl, hp1, hp2, hl1, hl2, B1⟩)
  rcases hv : decide (volE p l = 0) with _ | _
  · have hv := of_decide_eq_false hv
    have CF := Lib.hid (fold_bad p l hv)
    have hvz : (volE p l != 0) = true := by simp [hv]
    generalize volE p l = e at *
    go_wp2_with (first
      | (go_at_call 12; refine (CF.out _).mono ?_; intro _ w2 h2; obtain ⟨q, c, rfl, _, A2, B2⟩ := h2.give (n := 0) rfl)
      | (go_at_call 21; refine (CL.out _).mono ?_; rintro _ w9 ⟨rfl, B9⟩))
    go_ret
    exact ⟨rfl, link (link B1 B2) B9⟩
  · have hv := of_decide_eq_true hv
    obtain ⟨P, H, rfl, rfl, hP, hH1, hH8⟩ := vol_ok hv
    have CF := Lib.hid (fold_any P H hP hH1 hH8)
    have CC := Lib.hid (fun y h1 h2 => conj_any P H y hP hH1 hH8 h1 h2)
    have CN := Lib.hid (fun a b ha hb hy V => next_any a b ha hb hy V)
    have CE := Lib.hid (fun y h1 h2 => leaf_any y h1 h2)
    have hmk := mk1001
    obtain ⟨N, hN⟩ : ∃ N, qnT P H * H = N := ⟨_, rfl⟩
    have hN6 : N ≤ 600 := by
      have h6 := qnT_leaves P H hP hH1 hH8
      have h7 : qnT P H * (2 * H) = 2 * (qnT P H * H) := Nat.mul_left_comm _ _ _
      omega
    have hlen : (foldM P H).length = N := by unfold foldM; rw [List.length_map, List.length_range]; exact hN
    obtain ⟨K, hK⟩ : ∃ K, 2 * H = K := ⟨_, rfl⟩
    rw [hK] at CF CC
    rw [hK]
    clear hv CV
    go_upto_region 5 with (go_at_call 12; refine (CF.out _).mono ?_; intro _ w2 h2; obtain ⟨q, c, rfl, hnc, A2, B2⟩ := h2.give (n := N) hlen)
    have hw2 : Below w.heap.size w w2 := link B1 B2
    clear CF B1 B2 h2
    go_upto_region 6 with (fail)
    have M0 := Met.new w2
    have B3 : Below w2.heap.size w2 (w2.alloc (.cells (zeros 1001) 3)) := (Below.refl _ _).alloc (Nat.le_refl _) _
    generalize w2.alloc (.cells (zeros 1001) 3) = w3 at M0 B3 ⊢
    obtain ⟨g, hg⟩ : ∃ g, w2.heap.size = g := ⟨_, rfl⟩
    have hg2 : (.slice (some ⟨w2.heap.size, 0, none⟩) 1001 1001 : Value) = .slice (some ⟨g, 0, none⟩) 1001 1001 := by rw [hg]
    rw [hg2]
    have M0 : Met w3 w2.heap.size g [] := hg ▸ M0
    clear hmk hg2
    go_wp2
    go_loopw [10] (fun v wr => SdRel w2 g P H N v wr) (fun v _ => N - (intOf v).toNat)
    case atStart => exact ⟨0, rfl, by omega, M0, B3⟩
    case round =>
      obtain ⟨i, rfl, hi, hM, hB⟩ := hrel
      rcases Nat.lt_or_ge i N with hlt | hge
      · have hltz : (i : Int) < (N : Int) := by omega
        obtain ⟨x, hx⟩ : ∃ x, shT P H i = x := ⟨_, rfl⟩
        have hf : (foldM P H)[i]? = some x := by
          unfold foldM
          rw [List.getElem?_map, List.getElem?_range (by omega), ← hx]; rfl
        obtain ⟨lb, lo, rfl, hL⟩ := A2.get (i := i) (by rw [hlen]; exact hlt)
        have R := (hL.keep hB).range hf
        have SD := sides (p := P) hH1 hH8 (k := i) (by omega)
        rw [hx] at SD
        have UP := up_four P H i
        rw [hx] at UP
        have LF := lf_all H hH1 hH8 i (qnT P H) (by omega)
        have LS := lf_small P H i hP hH1 hH8 (by omega)
        obtain ⟨a, ha⟩ : ∃ a, lfA H i = a := ⟨_, rfl⟩
        obtain ⟨b, hb⟩ : ∃ b, lfB H i = b := ⟨_, rfl⟩
        rw [ha, hb] at SD LF LS
        obtain ⟨xq, fa, fb, ba, bb⟩ := x
        obtain ⟨SD1, s1, s2, s3, s4, s5⟩ := SD
        have q1 := SD1 fa (by simp [four])
        have q2 := SD1 fb (by simp [four])
        have q3 := SD1 ba (by simp [four])
        have q4 := SD1 bb (by simp [four])
        dsimp only at s1 s2 s3 s4 s5
        obtain ⟨f1, rfl⟩ : ∃ f : Nat, fa = (f : Int) := ⟨fa.toNat, by omega⟩
        obtain ⟨f2, rfl⟩ : ∃ f : Nat, fb = (f : Int) := ⟨fb.toNat, by omega⟩
        obtain ⟨f3, rfl⟩ : ∃ f : Nat, ba = (f : Int) := ⟨ba.toNat, by omega⟩
        obtain ⟨f4, rfl⟩ : ∃ f : Nat, bb = (f : Int) := ⟨bb.toNat, by omega⟩
        obtain ⟨X, hX⟩ : ∃ X : Sh, X = ⟨xq, (f1 : Int), (f2 : Int), (f3 : Int), (f4 : Int)⟩ := ⟨_, rfl⟩
        obtain ⟨L, hLe⟩ : ∃ L, (upTo P H i).flatMap four = L := ⟨_, rfl⟩
        have CS := Lib.hid (fun (l : List Int) (z : Int) (h4 : l.length ≤ 4) => hLe ▸ count_small P H i l z (by omega) h4)
        rw [hLe] at hM UP
        have Z2 := blk_new wr 64 #[.int .i64 xq, .int .i64 (f1 : Int), .int .i64 (f2 : Int), .int .i64 (f3 : Int), .int .i64 (f4 : Int)]
        have Z1 : Below wr.heap.size wr (wr.alloc (.cells #[.int .i64 xq, .int .i64 (f1 : Int), .int .i64 (f2 : Int), .int .i64 (f3 : Int), .int .i64 (f4 : Int)] 64)) := (Below.refl _ _).alloc (Nat.le_refl _) _
        have HU := Lib.hid UP
        have HF := Lib.hid hf
        have HS := Lib.hid (And.intro s3 (And.intro s4 s5))
        have HL := Lib.hid LF
        have C1 := Lib.hid (CN.out (f1 : Int) (f4 : Int) (by omega) (by omega) s1)
        have C2 := Lib.hid (CN.out (f2 : Int) (f3 : Int) (by omega) (by omega) s2)
        have R : wr.rangeAt lb (lo + i * 5) [.int .i64 xq, .int .i64 (f1 : Int), .int .i64 (f2 : Int), .int .i64 (f3 : Int), .int .i64 (f4 : Int)] := R
        clear hf UP s1 s2 s3 s4 s5 LF hLe hx ha hb
        go_upto_region 10 with (first
          | (refine wpList_load_mid rfl 64 (.tmp 51) rfl lb (lo + i * 5) rfl _ _ R rfl rfl rfl ?_))
        generalize wr.alloc (.cells #[.int .i64 xq, .int .i64 (f1 : Int), .int .i64 (f2 : Int), .int .i64 (f3 : Int), .int .i64 (f4 : Int)] 64) = W3 at Z1 Z2 ⊢
        clear R
        have hM3 := hM.keep Z1
        have hB3 := hB.trans (Z1.mono hB.size)
        have hgl := hM.lt.2
        have Zs := Z2.lt
        generalize wr.heap.size = sb at *
        have z1 := Z2.cell (j := 1) rfl
        have z2 := Z2.cell (j := 2) rfl
        have z3 := Z2.cell (j := 3) rfl
        have z4 := Z2.cell (j := 4) rfl
        go_upto_region 12 with (fail)
        have X4 := blk_new W3 3 #[.int .i64 (f1 : Int), .int .i64 (f2 : Int), .int .i64 (f3 : Int), .int .i64 (f4 : Int)]
        have Y4 : Below W3.heap.size W3 (W3.alloc (.cells #[.int .i64 (f1 : Int), .int .i64 (f2 : Int), .int .i64 (f3 : Int), .int .i64 (f4 : Int)] 3)) := (Below.refl _ _).alloc (Nat.le_refl _) _
        generalize W3.alloc (.cells #[.int .i64 (f1 : Int), .int .i64 (f2 : Int), .int .i64 (f3 : Int), .int .i64 (f4 : Int)] 3) = W4 at X4 Y4 ⊢
        have hM4 := hM3.keep Y4
        have hB4 := hB3.trans (Y4.mono hB3.size)
        have Z4 := Z2.keep Y4
        have hsg : sb ≠ g := by omega
        have hag : W3.heap.size ≠ g := by omega
        generalize W3.heap.size = ab at *
        clear hM3 hB3 Z1 Z2 Y4 z1 z2 z3 z4 hM hB hgl Zs
        obtain ⟨B0, hB0⟩ : ∃ B0, w2.heap.size = B0 := ⟨_, rfl⟩
        have HSG := Lib.hid (And.intro hsg hag)
        have SD1 : ∀ y ∈ [(f1 : Int), (f2 : Int), (f3 : Int), (f4 : Int)], 0 ≤ y ∧ y ≤ (P : Int) := SD1
        have HU2 : four ⟨xq, (f1 : Int), (f2 : Int), (f3 : Int), (f4 : Int)⟩ = [(f1 : Int), (f2 : Int), (f3 : Int), (f4 : Int)] := rfl
        rw [HU2] at HU
        have HSD := Lib.hid SD1
        obtain ⟨fo, hfo⟩ : ∃ fo, [(f1 : Int), (f2 : Int), (f3 : Int), (f4 : Int)] = fo := ⟨_, rfl⟩
        have HFO := Lib.hid hfo
        have X5 : Blk W4 ab 3 (fo.map (Value.int .i64)) := by rw [← hfo]; exact X4
        rw [hfo] at HSD HU
        have hf4 : fo.length = 4 := by rw [← hfo]; rfl
        have HF4 := Lib.hid hf4
        have hM5 : Met W4 w2.heap.size g (L ++ fo.take 0) := by rw [List.take_zero, List.append_nil]; exact hM4
        clear hfo SD1 HU2 hM4 X4 hf4 hsg hag hB0
        go_wp2
        go_loopw [14, 13] (fun v f wr => InRel w2 g sb ab L fo [.int .i64 xq, .int .i64 (f1 : Int), .int .i64 (f2 : Int), .int .i64 (f3 : Int), .int .i64 (f4 : Int)] v f wr) (fun v _ _ => 4 - (intOf v).toNat)
        case atStart => exact ⟨0, true, rfl, by omega, rfl, Lib.hid rfl, hM5, hB4, Z4, X5⟩
        case round =>
          obtain ⟨j, t, rfl, hj, rfl, HT, hM6, hB6, Z6, X6⟩ := hrel
          rcases Nat.lt_or_ge j 4 with hlt4 | hge4
          · have hltj : (j : Int) < 4 := by omega
            obtain ⟨y, hy⟩ : ∃ y, fo[j]? = some y := ⟨_, List.getElem?_eq_getElem (by rw [HF4.out]; exact hlt4)⟩
            obtain ⟨hy0, hyP⟩ := HSD.out y (List.mem_of_getElem? hy)
            obtain ⟨z, rfl⟩ : ∃ z : Nat, y = (z : Int) := ⟨y.toNat, by omega⟩
            have hz1001 : (z : Int) < 1001 := by omega
            have hzP : ¬ (z : Int) > (P : Int) := by omega
            obtain ⟨hgB, cm, fm, M7⟩ := hM6.at (z := z) (by omega)
            have tk : fo.take (j + 1) = fo.take j ++ [(z : Int)] := by rw [List.take_add_one, hy]; rfl
            rw [List.append_assoc, ← tk] at M7
            have hc5 := CS.out (fo.take j) (z : Int) (by rw [List.length_take]; omega)
            have cay := X6.cell (j := j) (v := .int .i64 (z : Int)) (by rw [List.getElem?_map, hy]; rfl)
            have HP := Lib.hid (posT_snoc (fo.take j) (z : Int))
            rw [← tk, ← HT.out] at HP
            generalize (L ++ fo.take j).count (z : Int) = cn at *
            have HB7 := Lib.hid (hB6.setCell (p := ⟨g, z, none⟩) hgB (.int .i64 ((cn : Int) + 1)))
            have HZ7 := Lib.hid (Z6.other (a := ⟨g, z, none⟩) HSG.out.1 (.int .i64 ((cn : Int) + 1)))
            have HX7 := Lib.hid (X6.other (a := ⟨g, z, none⟩) HSG.out.2 (.int .i64 ((cn : Int) + 1)))
            have HM7 := Lib.hid M7
            clear tk hy M7 Z6 X6 hM6 HT
            rcases Nat.eq_zero_or_pos z with hz | hz
            · rw [decide_eq_false (by omega)] at HP
              have hzd : (decide ((z : Int) > 0)) = false := decide_eq_false (by omega)
              have hzn : ¬ (0 < z) := by omega
              clear hz
              rcases t with _ | _
              · go_wp2
                exact ⟨⟨j + 1, false, by go_num, by omega, rfl, Lib.hid HP.out.symm, HM7.out, HB7.out, HZ7.out, HX7.out⟩, by simp [intOf]; omega⟩
              · go_wp2
                exact ⟨⟨j + 1, false, by go_num, by omega, rfl, Lib.hid HP.out.symm, HM7.out, HB7.out, HZ7.out, HX7.out⟩, by simp [intOf]; omega⟩
            · rw [decide_eq_true (by omega)] at HP
              have hzd : (decide ((z : Int) > 0)) = true := decide_eq_true (by omega)
              rcases t with _ | _
              · go_wp2
                exact ⟨⟨j + 1, false, by go_num, by omega, rfl, Lib.hid HP.out.symm, HM7.out, HB7.out, HZ7.out, HX7.out⟩, by simp [intOf]; omega⟩
              · go_wp2
                exact ⟨⟨j + 1, true, by go_num, by omega, rfl, Lib.hid HP.out.symm, HM7.out, HB7.out, HZ7.out, HX7.out⟩, by simp [intOf]; omega⟩
          · obtain rfl : j = 4 := by omega
            have hL4 : fo.take 4 = fo := List.take_of_length_le (by rw [HF4.out]; omega)
            rw [hL4] at HT hM6
            rw [← HFO.out] at HT
            rw [← HU.out] at hM6
            have HM8 := Lib.hid hM6
            have HB8 := Lib.hid hB6
            have z1 := Z6.cell (j := 1) (v := .int .i64 (f1 : Int)) rfl
            have z2 := Z6.cell (j := 2) (v := .int .i64 (f2 : Int)) rfl
            have z3 := Z6.cell (j := 3) (v := .int .i64 (f3 : Int)) rfl
            have z4 := Z6.cell (j := 4) (v := .int .i64 (f4 : Int)) rfl
            obtain ⟨sm, sa, sb2⟩ := HS.out
            obtain ⟨l1, l2, l3, _, l5, _⟩ := HL.out
            have hia : inT P H (a : Int) = true := by unfold inT; rw [Bool.and_eq_true, decide_eq_true_eq, decide_eq_true_eq]; omega
            have ec : conjN P H (a : Int) = (b : Int) := by unfold conjN; rw [if_pos hia]; show ((conjT H a : Nat) : Int) = _; rw [l5]
            have ee : conjE P H (a : Int) = 0 := by unfold conjE; rw [if_pos hia]
            have CJ := Lib.hid (CC.out (a : Int) (by omega) (by omega))
            rw [ec, ee] at CJ
            have E2 := Lib.hid (CE.out (f2 : Int) (by omega) (by omega))
            have E4 := Lib.hid (CE.out (f4 : Int) (by omega) (by omega))
            clear hM6 hB6 hL4 Z6 X6 hia ec ee l5 X5 Z4 hM5 hB4
            generalize frontT (f2 : Int) = fr2 at *
            generalize frontT (f4 : Int) = fr4 at *
            rcases t with _ | _
            · clear HT
              rcases Nat.eq_zero_or_pos f2 with hz2 | hz2
              · have d2 : ¬ ((f2 : Int) > 0) := by omega
                have d2n : ¬ (0 < f2) := by omega
                clear hz2
                go_wp2_with (first
              | (go_at_call_of 36 (Value.int IntKind.i64 (f1 : Int)); refine (C1.out _).mono ?_; rintro _ _ ⟨rfl, rfl⟩)
              | (go_at_call_of 36 (Value.int IntKind.i64 (f2 : Int)); refine (C2.out _).mono ?_; rintro _ _ ⟨rfl, rfl⟩)
              | (go_at_call_of 26 (Value.int IntKind.i64 (f2 : Int)); refine (E2.out _).mono ?_; rintro _ _ ⟨rfl, rfl⟩)
              | (go_at_call_of 26 (Value.int IntKind.i64 (f4 : Int)); refine (E4.out _).mono ?_; rintro _ _ ⟨rfl, rfl⟩)
              | (go_at_call 30; refine (CJ.out _).mono ?_; rintro _ _ ⟨rfl, rfl⟩))
                exact ⟨⟨i + 1, by go_num, by omega, HM8.out, HB8.out⟩, by simp [intOf]; omega⟩
              · have d2 : (f2 : Int) > 0 := by omega
                rw [leaf_odd (sa d2) (by have := sa d2; omega) (by omega)] at E2
                rcases Nat.eq_zero_or_pos f4 with hz4 | hz4
                · have d4 : ¬ ((f4 : Int) > 0) := by omega
                  have d4n : ¬ (0 < f4) := by omega
                  clear hz4
                  go_wp2_with (first
              | (go_at_call_of 36 (Value.int IntKind.i64 (f1 : Int)); refine (C1.out _).mono ?_; rintro _ _ ⟨rfl, rfl⟩)
              | (go_at_call_of 36 (Value.int IntKind.i64 (f2 : Int)); refine (C2.out _).mono ?_; rintro _ _ ⟨rfl, rfl⟩)
              | (go_at_call_of 26 (Value.int IntKind.i64 (f2 : Int)); refine (E2.out _).mono ?_; rintro _ _ ⟨rfl, rfl⟩)
              | (go_at_call_of 26 (Value.int IntKind.i64 (f4 : Int)); refine (E4.out _).mono ?_; rintro _ _ ⟨rfl, rfl⟩)
              | (go_at_call 30; refine (CJ.out _).mono ?_; rintro _ _ ⟨rfl, rfl⟩))
                  exact ⟨⟨i + 1, by go_num, by omega, HM8.out, HB8.out⟩, by simp [intOf]; omega⟩
                · have d4 : (f4 : Int) > 0 := by omega
                  rw [leaf_odd (sb2 d4) (by have := sb2 d4; omega) (by omega)] at E4
                  go_wp2_with (first
              | (go_at_call_of 36 (Value.int IntKind.i64 (f1 : Int)); refine (C1.out _).mono ?_; rintro _ _ ⟨rfl, rfl⟩)
              | (go_at_call_of 36 (Value.int IntKind.i64 (f2 : Int)); refine (C2.out _).mono ?_; rintro _ _ ⟨rfl, rfl⟩)
              | (go_at_call_of 26 (Value.int IntKind.i64 (f2 : Int)); refine (E2.out _).mono ?_; rintro _ _ ⟨rfl, rfl⟩)
              | (go_at_call_of 26 (Value.int IntKind.i64 (f4 : Int)); refine (E4.out _).mono ?_; rintro _ _ ⟨rfl, rfl⟩)
              | (go_at_call 30; refine (CJ.out _).mono ?_; rintro _ _ ⟨rfl, rfl⟩))
                  exact ⟨⟨i + 1, by go_num, by omega, HM8.out, HB8.out⟩, by simp [intOf]; omega⟩
            · obtain ⟨d1, d2, d3, d4⟩ := pos_all HT.out.symm
              have hsum := sm d1 d2 d3 d4
              rw [leaf_odd (sa d2) (by have := sa d2; omega) (by omega)] at E2
              rw [leaf_odd (sb2 d4) (by have := sb2 d4; omega) (by omega)] at E4
              clear HT
              go_wp2_with (first
              | (go_at_call_of 36 (Value.int IntKind.i64 (f1 : Int)); refine (C1.out _).mono ?_; rintro _ _ ⟨rfl, rfl⟩)
              | (go_at_call_of 36 (Value.int IntKind.i64 (f2 : Int)); refine (C2.out _).mono ?_; rintro _ _ ⟨rfl, rfl⟩)
              | (go_at_call_of 26 (Value.int IntKind.i64 (f2 : Int)); refine (E2.out _).mono ?_; rintro _ _ ⟨rfl, rfl⟩)
              | (go_at_call_of 26 (Value.int IntKind.i64 (f4 : Int)); refine (E4.out _).mono ?_; rintro _ _ ⟨rfl, rfl⟩)
              | (go_at_call 30; refine (CJ.out _).mono ?_; rintro _ _ ⟨rfl, rfl⟩))
              exact ⟨⟨i + 1, by go_num, by omega, HM8.out, HB8.out⟩, by simp [intOf]; omega⟩
      · obtain rfl : i = N := by omega
        have hON : OneAt g P wr := fun k h1 hk => by
          have := (hM.at (z := k) (by omega)).2.1
          have e : upTo P H i = foldM P H := by unfold upTo foldM; rw [hN]
          rw [e, page_once hH1 hH8 k h1 hk] at this
          exact this
        clear hM
        go_wp2
        go_loopw [21] (fun v w' => OnRel w2 g P v w') (fun v _ => P + 1 - (intOf v).toNat)
        case atStart => exact ⟨1, rfl, by omega, by omega, hON, hB⟩
        case round =>
          obtain ⟨k, rfl, hk1, hkP, hON2, hB2⟩ := hrel
          rcases Nat.lt_or_ge P k with hlt | hge
          · have hkz : ¬ (k : Int) ≤ (P : Int) := by omega
            have HB2 := Lib.hid hB2
            go_wp2_with (go_at_call 21; refine (CL.out _).mono ?_; rintro _ w9 ⟨rfl, B9⟩)
            go_ret
            exact ⟨rfl, link (link hw2 HB2.out) B9⟩
          · have hkz : (k : Int) ≤ (P : Int) := by omega
            have hk1001 : (k : Int) < 1001 := by omega
            have c1 := hON2 k hk1 hge
            have HO := Lib.hid hON2
            have HB2 := Lib.hid hB2
            clear hON2 hB2
            go_wp2
            exact ⟨⟨k + 1, by go_num, by omega, by omega, HO.out, HB2.out⟩, by simp [intOf]; omega⟩
end Go.Proofs.Ytahmpagolmodhaa
