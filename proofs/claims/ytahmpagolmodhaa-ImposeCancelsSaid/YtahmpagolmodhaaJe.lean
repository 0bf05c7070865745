/-
  The iterator over the sheets (under way).
-/
import Derived.Test.YtahmpagolmodhaaJb
import Derived.Test.YtahmpagolmodhaaRk
namespace Go.Proofs.Ytahmpagolmodhaa
open Go.RowKit Go.Shelf
set_option linter.unusedVariables false
set_option linter.unusedSimpArgs false

/-- The three blocks from B on are as they were. -/
def Kept (B : Nat) (W W' : World) : Prop := W.heap.size ≤ W'.heap.size ∧ ∀ k, B ≤ k → k < B + 3 → W'.heap[k]? = W.heap[k]?
theorem Kept.refl (B : Nat) (W : World) : Kept B W W := ⟨Nat.le_refl _, fun _ _ _ => rfl⟩
theorem Kept.size {B : Nat} {W W' : World} (h : Kept B W W') : W.heap.size ≤ W'.heap.size := h.1
theorem Kept.trans {B : Nat} {a b c : World} (h : Kept B a b) (k : Kept B b c) : Kept B a c := ⟨Nat.le_trans h.1 k.1, fun j h1 h2 => (k.2 j h1 h2).trans (h.2 j h1 h2)⟩
theorem Kept.of {B n : Nat} {W W' : World} (h : Below n W W') (hn : B + 3 ≤ n) : Kept B W W' := ⟨h.size, fun k _ h2 => h.block k (by omega)⟩
theorem Kept.cell {B : Nat} {W W' : World} (h : Kept B W W') {p : Addr} (ha : B ≤ p.block ∧ p.block < B + 3) : W'.cell? p = W.cell? p := World.cell?_of_block (w := W) (h.2 p.block ha.1 ha.2)
abbrev It := Sh × Int × Int
def itT (p h k : Nat) : It := (shT p h k, ((lfA h k : Nat) : Int), ((lfB h k : Nat) : Int))
def itV (x : It) : Array Value := #[.agg #[.int .i64 x.1.q, .int .i64 x.1.fa, .int .i64 x.1.fb, .int .i64 x.1.ba, .int .i64 x.1.bb], .agg #[.int .i64 x.2.1, .int .i64 x.2.2]]
def itU (p h k : Nat) : List It := (List.range k).map (itT p h)
def ItO (p h Q n₀ : Nat) (J : List It → World → Prop) (W : World) (v : Value) (wr : World) : Prop := ∃ q : Nat, q ≤ Q ∧ v = .int .i64 (q : Int) ∧ J (itU p h (q * h)) wr ∧ Kept n₀ W wr
def ItI (p h q n₀ : Nat) (J : List It → World → Prop) (W : World) (v : Value) (wr : World) : Prop := ∃ i : Nat, i ≤ h ∧ v = .int .i64 (i : Int) ∧ J (itU p h (q * h + i)) wr ∧ Kept n₀ W wr
set_option maxHeartbeats 2000000 in
set_option maxRecDepth 100000 in
theorem iter_in (F : Fence) (n : Nat) (hf2 : F.fn 46) (hf1 : F.fn 45) (hfc : F.fn 38) (hro : F.round = none) (hn : 3 ≤ n) (l bp bl bn n₀ p h : Nat) (hp : p ≤ 999) (h1 : 1 ≤ h) (h8 : h ≤ 8)
    (hbp : n₀ ≤ bp ∧ bp < n₀ + 3) (hbl : n₀ ≤ bl ∧ bl < n₀ + 3) (hbn : n₀ ≤ bn ∧ bn < n₀ + 3) (J Jx : List It → World → Prop)
    (hY : ∀ k W, k < qnT p h * h → J (itU p h k) W → YieldAt F (n - 1) Try.prog l (itV (itT p h k)) W fun e W' =>
      (e = .returned (.bool true) ∧ J (itU p h k ++ [itT p h k]) W' ∧ Kept n₀ W W') ∨ (e = .returned (.bool false) ∧ Jx (itU p h k ++ [itT p h k]) W'))
    (W : World) (hJ : AbidesFrom W.heap.size J) (hn₀ : n₀ + 3 ≤ W.heap.size) (h0 : J [] W) (cp : W.cell? ⟨bp, 0, none⟩ = some (.int .i64 (p : Int))) (cl : W.cell? ⟨bl, 0, none⟩ = some (.int .i64 ((2 * h : Nat) : Int)))
    (cn : W.cell? ⟨bn, 0, none⟩ = some (.func (.func 45) #[] #[.pointer (some ⟨bp, 0, none⟩)])) :
    CallsIn F n Try.prog 46 #[.func (.yield l) #[] #[], .pointer (some ⟨bp, 0, none⟩), .pointer (some ⟨bl, 0, none⟩), .pointer (some ⟨bn, 0, none⟩)] W fun e W' => (∃ v, e = .returned v) ∧
      ((∃ ys, ys = itU p h (qnT p h * h) ∧ J ys W') ∨ (∃ pre, (∃ k, k ≤ qnT p h * h ∧ pre = itU p h k) ∧ Jx pre W')) := by
  have C := Lib.hid (fun V => count_in F (n - 1) hfc hro p h hp h1 h8 V)
  have h1n : 1 ≤ n := by omega
  have h6 := qnT_leaves p h hp h1 h8
  have hq9 := qnT_le p h hp h1 h8
  obtain ⟨Q, hQ⟩ : ∃ Q, qnT p h = Q := ⟨_, rfl⟩
  obtain ⟨L, hL⟩ : ∃ L, 2 * h = L := ⟨_, rfl⟩
  have e4 : (L : Int) / 2 = (h : Int) := by omega
  have e3 : L ≤ 16 := by omega
  rw [hQ] at C hY h6 hq9 ⊢
  rw [hL] at C cl h6
  have H6 := Lib.hid h6
  have HL := Lib.hid hL
  clear hQ hL h6
  refine callsIn_of_wp Try.func46 rfl hf2 ?_ hro
  simp only [Try.ntmps46, List.size_toArray, List.length_cons, List.length_nil, Nat.reduceAdd, Nat.reduceSub, Array.replicate_succ, Array.replicate_zero, List.push_toArray, List.append_toArray, List.nil_append, List.cons_append]
  gi_wp2_with (gi_at_call 38; refine (C.out _).mono ?_; rintro _ w2 ⟨rfl, rfl⟩)
  gi_loopw [13] (fun v wr => ItO p h Q n₀ J W v wr) (fun v _ => Q - (intOf v).toNat)
  case atStart => exact ⟨0, Nat.zero_le _, rfl, by rw [Nat.zero_mul]; exact h0, Kept.refl _ _⟩
  case round =>
    obtain ⟨q, hq, rfl, hJq, hB⟩ := hrel
    have cl1 := (hB.cell (p := ⟨bl, 0, none⟩) hbl).trans cl
    by_cases hlt : q < Q
    · have hltz : (q : Int) < (Q : Int) := by omega
      obtain ⟨u, hu⟩ : ∃ u, q * L = u := ⟨_, rfl⟩
      have e5 : (q : Int) * (L : Int) = (u : Int) := by rw [← hu]; exact (Int.natCast_mul q L).symm
      have hu6 : u ≤ 600 := by rw [← hu]; exact Nat.le_trans (Nat.mul_le_mul_right L hq) H6.out
      obtain ⟨q1, hq1⟩ : ∃ q1, q + 1 = q1 := ⟨_, rfl⟩
      have e6 : (q : Int) + 1 = (q1 : Int) := by omega
      obtain ⟨u1, hu1⟩ : ∃ u1, q1 * L = u1 := ⟨_, rfl⟩
      have e7 : (q1 : Int) * (L : Int) = (u1 : Int) := by rw [← hu1]; exact (Int.natCast_mul q1 L).symm
      have hu16 : u1 ≤ 600 := by rw [← hu1, ← hq1]; exact Nat.le_trans (Nat.mul_le_mul_right L (by omega)) H6.out
      have hq19 : q1 ≤ 250 := by omega
      have HU := Lib.hid hu
      have HU1 := Lib.hid hu1
      have HQ1 := Lib.hid hq1
      clear hu hu1 hq1
      gi_wp2
      obtain ⟨wo, rfl⟩ : ∃ wo, wo = wr := ⟨_, rfl⟩
      gi_loopw [18] (fun v wr => ItI p h q n₀ J W v wr) (fun v _ => h - (intOf v).toNat)
      case atStart => exact ⟨0, Nat.zero_le _, rfl, hJq, hB⟩
      case round =>
        clear hJq hB cl1
        obtain ⟨i, hi, rfl, hJi, hB⟩ := hrel
        have cl1 := (hB.cell (p := ⟨bl, 0, none⟩) hbl).trans cl
        have cp1 := (hB.cell (p := ⟨bp, 0, none⟩) hbp).trans cp
        have cn1 := (hB.cell (p := ⟨bn, 0, none⟩) hbn).trans cn
        by_cases hlt2 : i < h
        · have hlt2z : (i : Int) < (h : Int) := by omega
          obtain ⟨a, ha⟩ : ∃ a, u + 1 + i = a := ⟨_, rfl⟩
          obtain ⟨b, hb⟩ : ∃ b, u1 - i = b := ⟨_, rfl⟩
          have f1 : (u : Int) + 1 + (i : Int) = (a : Int) := by omega
          have f2 : (u1 : Int) - (i : Int) = (b : Int) := by have := HL.out; have := HU1.out; have := HU.out; have := HQ1.out; subst_vars; rw [Nat.succ_mul] at *; omega
          have g0 : L ≤ u1 := by rw [← HU1.out, ← HQ1.out]; exact Nat.le_mul_of_pos_left _ (by omega)
          have g1 := HL.out
          have f0 : h ≤ u1 := by omega
          clear g0 g1
          have f3 : a ≤ 700 := by omega
          have f4 : b ≤ 700 := by omega
          have HAe := Lib.hid ha
          have HBe := Lib.hid hb
          obtain ⟨b2, hb2⟩ : ∃ b2, 2 * b = b2 := ⟨_, rfl⟩
          obtain ⟨a2, ha2⟩ : ∃ a2, 2 * a = a2 := ⟨_, rfl⟩
          obtain ⟨b1, hb1⟩ : ∃ b1, b2 - 1 = b1 := ⟨_, rfl⟩
          obtain ⟨a1, ha1⟩ : ∃ a1, a2 - 1 = a1 := ⟨_, rfl⟩
          have hb0 : 1 ≤ b := by omega
          have f5 : 2 * (b : Int) = (b2 : Int) := by omega
          have f6 : 2 * (a : Int) = (a2 : Int) := by omega
          have f7 : (b2 : Int) - 1 = (b1 : Int) := by omega
          have f8 : (a2 : Int) - 1 = (a1 : Int) := by omega
          have f9 : b2 ≤ 1400 := by omega
          have f10 : a2 ≤ 1400 := by omega
          have HN := Lib.hid (And.intro (And.intro hb2 ha2) (And.intro hb1 ha1))
          clear ha hb hb2 ha2 hb1 ha1
          gi_wp2
          refine wpIn_region_quiet_lit hro (by kernel_rfl) (by kernel_rfl) ?_
          repeat (gi_big_quiet_step (fail))
          refine wpQuietIn_nil ?_
          intro _ hw'
          obtain ⟨nq, hw2⟩ := hw'
          subst hw2
          gi_wp2
          have cn2 : ((wr.drewN nq).cell? ⟨bn, 0, none⟩) = _ := cn1
          have hbpV : bp < (wr.drewN nq).drew.heap.size := Nat.lt_of_lt_of_le hbp.2 (Nat.le_trans hn₀ hB.size)
          have hbnV : bn < (wr.drewN nq).drew.heap.size := Nat.lt_of_lt_of_le hbn.2 (Nat.le_trans hn₀ hB.size)
          have cpV : (wr.drewN nq).drew.cell? ⟨bp, 0, none⟩ = _ := cp1
          have cnV : (wr.drewN nq).drew.cell? ⟨bn, 0, none⟩ = _ := cn1
          have hBV : Kept n₀ W (wr.drewN nq).drew := hB.trans (Kept.of (below_drew (below_drewN (Below.refl wr.heap.size wr) nq)) (Nat.le_trans hn₀ hB.size))
          have hWV : Below wr.heap.size wr (wr.drewN nq).drew := below_drew (below_drewN (Below.refl _ _) nq)
          clear cn2
          refine wpIn_region_inv (by kernel_rfl) (fun J aa w => ∃ x33 x34 x35 x36 x37 x38 x39 x40 x41 x42 x43 x44 x45 x46 x47 x48 x49 x50 x51 x52 x53 x54 x9 : Value, aa = ⟨List.toArray (.func (.yield l) #[] #[] :: .pointer (some ⟨bp, 0, none⟩) :: .pointer (some ⟨bl, 0, none⟩) :: .pointer (some ⟨bn, 0, none⟩) :: undef :: .int .i64 (q : Int) :: .int .i64 (i : Int) :: .int .i64 (a : Int) :: .int .i64 (b : Int) :: x9 :: .int .i64 (p : Int) :: .int .i64 (L : Int) :: .int .i64 (Q : Int) :: .int .i64 (q : Int) :: .bool true :: .int .i64 (q : Int) :: .int .i64 (L : Int) :: .int .i64 (h : Int) :: .int .i64 (i : Int) :: .bool true :: .int .i64 (i : Int) :: .int .i64 (q : Int) :: .int .i64 (L : Int) :: .int .i64 (u : Int) :: .int .i64 ((u : Int) + 1) :: .int .i64 (i : Int) :: .int .i64 (a : Int) :: .int .i64 (q : Int) :: .int .i64 (q1 : Int) :: .int .i64 (L : Int) :: .int .i64 (u1 : Int) :: .int .i64 (i : Int) :: .int .i64 (b : Int) :: x33 :: x34 :: x35 :: x36 :: x37 :: x38 :: x39 :: x40 :: x41 :: x42 :: x43 :: x44 :: x45 :: x46 :: x47 :: x48 :: x49 :: x50 :: x51 :: x52 :: x53 :: x54 :: u55 :: u56 :: u57 :: u58 :: u59 :: u60 :: u61 :: u62 :: u63 :: []), []⟩ ∧ Below (wr.drewN nq).drew.heap.size (wr.drewN nq).drew w ∧ (J 0 → x33 = .int .i64 (q : Int)) ∧ (J 1 → x34 = .func (.func 45) #[] #[.pointer (some ⟨bp, 0, none⟩)]) ∧ (J 2 → x35 = .int .i64 (b : Int)) ∧ (J 3 → x36 = .int .i64 (b2 : Int)) ∧ (J 4 → x37 = .int .i64 ((numT p b2 : Nat) : Int)) ∧ (J 5 → x38 = .func (.func 45) #[] #[.pointer (some ⟨bp, 0, none⟩)]) ∧ (J 6 → x39 = .int .i64 (a : Int)) ∧ (J 7 → x40 = .int .i64 (a2 : Int)) ∧ (J 8 → x41 = .int .i64 (a1 : Int)) ∧ (J 9 → x42 = .int .i64 ((numT p a1 : Nat) : Int)) ∧ (J 10 → x43 = .agg #[.int .i64 ((numT p b2 : Nat) : Int), .int .i64 ((numT p a1 : Nat) : Int)]) ∧ (J 11 → x44 = .func (.func 45) #[] #[.pointer (some ⟨bp, 0, none⟩)]) ∧ (J 12 → x45 = .int .i64 (a : Int)) ∧ (J 13 → x46 = .int .i64 (a2 : Int)) ∧ (J 14 → x47 = .int .i64 ((numT p a2 : Nat) : Int)) ∧ (J 15 → x48 = .func (.func 45) #[] #[.pointer (some ⟨bp, 0, none⟩)]) ∧ (J 16 → x49 = .int .i64 (b : Int)) ∧ (J 17 → x50 = .int .i64 (b2 : Int)) ∧ (J 18 → x51 = .int .i64 (b1 : Int)) ∧ (J 19 → x52 = .int .i64 ((numT p b1 : Nat) : Int)) ∧ (J 20 → x53 = .agg #[.int .i64 ((numT p a2 : Nat) : Int), .int .i64 ((numT p b1 : Nat) : Int)]) ∧ (J 21 → x54 = .agg #[.int .i64 (q : Int), .int .i64 ((numT p b2 : Nat) : Int), .int .i64 ((numT p a1 : Nat) : Int), .int .i64 ((numT p a2 : Nat) : Int), .int .i64 ((numT p b1 : Nat) : Int)]) ∧ (¬ J 22 → w = (wr.drewN nq).drew) ∧ (J 22 → x9 = .pointer (some ⟨(wr.drewN nq).drew.heap.size, 0, none⟩) ∧ (¬ J 23 → Blk w (wr.drewN nq).drew.heap.size 64 [.int .i64 0, .int .i64 0, .int .i64 0, .int .i64 0, .int .i64 0]) ∧ (J 23 → Blk w (wr.drewN nq).drew.heap.size 64 [.int .i64 (q : Int), .int .i64 ((numT p b2 : Nat) : Int), .int .i64 ((numT p a1 : Nat) : Int), .int .i64 ((numT p a2 : Nat) : Int), .int .i64 ((numT p b1 : Nat) : Int)])) ∧ (J 23 → J 22)) (by kernel_rfl) ?_ ?_ ?_
          · exact ⟨u33, u34, u35, u36, u37, u38, u39, u40, u41, u42, u43, u44, u45, u46, u47, u48, u49, u50, u51, u52, u53, u54, u9, rfl, Below.refl _ _, fun h => absurd h (by decide), fun h => absurd h (by decide), fun h => absurd h (by decide), fun h => absurd h (by decide), fun h => absurd h (by decide), fun h => absurd h (by decide), fun h => absurd h (by decide), fun h => absurd h (by decide), fun h => absurd h (by decide), fun h => absurd h (by decide), fun h => absurd h (by decide), fun h => absurd h (by decide), fun h => absurd h (by decide), fun h => absurd h (by decide), fun h => absurd h (by decide), fun h => absurd h (by decide), fun h => absurd h (by decide), fun h => absurd h (by decide), fun h => absurd h (by decide), fun h => absurd h (by decide), fun h => absurd h (by decide), fun h => absurd h (by decide), fun _ => rfl, fun h => absurd h (by decide), fun h => absurd h (by decide)⟩
          all_goals (generalize (wr.drewN nq).drew = V at hbpV hbnV cpV cnV hBV hWV ⊢)
          · intro J0 a0 w hI hall
            obtain ⟨x33, x34, x35, x36, x37, x38, x39, x40, x41, x42, x43, x44, x45, x46, x47, x48, x49, x50, x51, x52, x53, x54, x9, rfl, hB2, g0, g1, g2, g3, g4, g5, g6, g7, g8, g9, g10, g11, g12, g13, g14, g15, g16, g17, g18, g19, g20, g21, g22, g23, g24⟩ := hI
            obtain ⟨rfl, _, K2⟩ := g23 (hall 22)
            have K2 := K2 (hall 23)
            clear g0 g1 g2 g3 g4 g5 g6 g7 g8 g9 g10 g11 g12 g13 g14 g15 g16 g17 g18 g19 g20 g21 g22 g23 g24 hall
            have hJw : J (itU p h (q * h + i)) w := hJ _ _ _ none hJi ⟨(hWV.trans (hB2.mono hWV.size)).os, (hWV.trans (hB2.mono hWV.size)).tape, (hWV.trans (hB2.mono hWV.size)).output, (hWV.trans (hB2.mono hWV.size)).size, fun k hk _ => (hWV.trans (hB2.mono hWV.size)).block k hk⟩ (fun r e => by cases e)
            have hBw : Kept n₀ W w := hBV.trans (Kept.of hB2 (Nat.le_trans hn₀ hBV.size))
            obtain ⟨fn, tm, asg, bd, hy, hR⟩ := hY (q * h + i) w (Nat.lt_of_lt_of_le (Nat.add_lt_add_left hlt2 _) (by rw [← Nat.succ_mul]; exact Nat.mul_le_mul_right h hlt)) hJw
            have hr5 : w.rangeAt V.heap.size 0 [.int .i64 (q : Int), .int .i64 ((numT p b2 : Nat) : Int), .int .i64 ((numT p a1 : Nat) : Int), .int .i64 ((numT p a2 : Nat) : Int), .int .i64 ((numT p b1 : Nat) : Int)] := K2.range 0 5
            have Hy : itV (itT p h (q * h + i)) = #[.agg #[.int .i64 (q : Int), .int .i64 ((numT p b2 : Nat) : Int), .int .i64 ((numT p a1 : Nat) : Int), .int .i64 ((numT p a2 : Nat) : Int), .int .i64 ((numT p b1 : Nat) : Int)], .agg #[.int .i64 (a : Int), .int .i64 (b : Int)]] := by
              have e1 : (q * h + i) / h = q := by rw [Nat.mul_comm, Nat.mul_add_div (by omega), Nat.div_eq_of_lt hlt2, Nat.add_zero]
              have e2 : (q * h + i) % h = i := by rw [Nat.mul_comm, Nat.mul_add_mod, Nat.mod_eq_of_lt hlt2]
              have e3 : lfA h (q * h + i) = a := by unfold lfA; rw [e1, e2, HL.out, HU.out]; exact HAe.out
              have e4 : lfB h (q * h + i) = b := by unfold lfB; rw [e1, e2, HL.out, HQ1.out, HU1.out]; exact HBe.out
              have := HN.out
              unfold itV itT shT
              dsimp only
              rw [e1, e3, e4, this.1.1, this.1.2, this.2.1, this.2.2]
            rw [Hy] at hy
            gi_wp2_with (refine wpListIn_load_mid rfl 64 (.tmp 9) rfl V.heap.size 0 rfl _ _ hr5 rfl rfl rfl ?_)
            have Hs : itU p h (q * h + i) ++ [itT p h (q * h + i)] = itU p h (q * h + (i + 1)) := by rw [show q * h + (i + 1) = q * h + i + 1 from rfl]; unfold itU; rw [List.range_succ, List.map_append, List.map_singleton]
            have Hle : q * h + (i + 1) ≤ Q * h := Nat.le_trans (Nat.add_le_add_left hlt2 _) (by rw [← Nat.succ_mul]; exact Nat.mul_le_mul_right h hlt)
            obtain ⟨i1, hi1⟩ : ∃ i1, i + 1 = i1 := ⟨_, rfl⟩
            have e8 : (i : Int) + 1 = (i1 : Int) := by omega
            have hi18 : i1 ≤ 8 := by omega
            have HI1 := Lib.hid hi1
            rw [hi1] at Hs Hle
            clear hi1
            refine hR.mono ?_
            rintro e W3 (⟨rfl, hJ3, hk3⟩ | ⟨rfl, hJx3⟩)
            · rw [Hs] at hJ3
              gi_wp2
              exact ⟨⟨i1, by have := HI1.out; omega, rfl, hJ3, hBw.trans hk3⟩, by have := HI1.out; simp [intOf]; omega⟩
            · rw [Hs] at hJx3
              gi_wp2
              refine bodyPost_ret (results_none rfl _ _ _) rfl ?_
              exact ⟨⟨_, rfl⟩, .inr ⟨_, ⟨_, Hle, rfl⟩, hJx3⟩⟩
          · refine ⟨?_, ?_, ?_, ?_, ?_, ?_, ?_, ?_, ?_, ?_, ?_, ?_, ?_, ?_, ?_, ?_, ?_, ?_, ?_, ?_, ?_, ?_, ?_, ?_, trivial⟩
            · intro J a0 w hI hnl hd K hK
              obtain ⟨x33, x34, x35, x36, x37, x38, x39, x40, x41, x42, x43, x44, x45, x46, x47, x48, x49, x50, x51, x52, x53, x54, x9, rfl, hB, g0, g1, g2, g3, g4, g5, g6, g7, g8, g9, g10, g11, g12, g13, g14, g15, g16, g17, g18, g19, g20, g21, g22, g23, g24⟩ := hI
              rw [if_pos (by rfl)]
              go_simp
              try simp only [zP, zQ, zS, zZ, zC]
              exact hK.out _ _ ⟨.int .i64 (q : Int), x34, x35, x36, x37, x38, x39, x40, x41, x42, x43, x44, x45, x46, x47, x48, x49, x50, x51, x52, x53, x54, x9, rfl, hB,
                fun _ => rfl,
                fun h => g1 (h.resolve_left (by decide)),
                fun h => g2 (h.resolve_left (by decide)),
                fun h => g3 (h.resolve_left (by decide)),
                fun h => g4 (h.resolve_left (by decide)),
                fun h => g5 (h.resolve_left (by decide)),
                fun h => g6 (h.resolve_left (by decide)),
                fun h => g7 (h.resolve_left (by decide)),
                fun h => g8 (h.resolve_left (by decide)),
                fun h => g9 (h.resolve_left (by decide)),
                fun h => g10 (h.resolve_left (by decide)),
                fun h => g11 (h.resolve_left (by decide)),
                fun h => g12 (h.resolve_left (by decide)),
                fun h => g13 (h.resolve_left (by decide)),
                fun h => g14 (h.resolve_left (by decide)),
                fun h => g15 (h.resolve_left (by decide)),
                fun h => g16 (h.resolve_left (by decide)),
                fun h => g17 (h.resolve_left (by decide)),
                fun h => g18 (h.resolve_left (by decide)),
                fun h => g19 (h.resolve_left (by decide)),
                fun h => g20 (h.resolve_left (by decide)),
                fun h => g21 (h.resolve_left (by decide)),
                fun h => g22 (fun h2 => h (Or.inr h2)),
                fun h => ⟨(g23 (h.resolve_left (by decide))).1, fun h2 => (g23 (h.resolve_left (by decide))).2.1 (fun h3 => h2 (Or.inr h3)), fun h2 => (g23 (h.resolve_left (by decide))).2.2 (h2.resolve_left (by decide))⟩,
                fun h => Or.inr (g24 (h.resolve_left (by decide)))⟩
            · intro J a0 w hI hnl hd K hK
              obtain ⟨x33, x34, x35, x36, x37, x38, x39, x40, x41, x42, x43, x44, x45, x46, x47, x48, x49, x50, x51, x52, x53, x54, x9, rfl, hB, g0, g1, g2, g3, g4, g5, g6, g7, g8, g9, g10, g11, g12, g13, g14, g15, g16, g17, g18, g19, g20, g21, g22, g23, g24⟩ := hI
              rw [if_pos (by rfl)]
              have c := (hB.cell (p := ⟨bn, 0, none⟩) hbnV).trans cnV
              go_simp
              try simp only [zP, zQ, zS, zZ, zC]
              exact hK.out _ _ ⟨x33, .func (.func 45) #[] #[.pointer (some ⟨bp, 0, none⟩)], x35, x36, x37, x38, x39, x40, x41, x42, x43, x44, x45, x46, x47, x48, x49, x50, x51, x52, x53, x54, x9, rfl, hB,
                fun h => g0 (h.resolve_left (by decide)),
                fun _ => rfl,
                fun h => g2 (h.resolve_left (by decide)),
                fun h => g3 (h.resolve_left (by decide)),
                fun h => g4 (h.resolve_left (by decide)),
                fun h => g5 (h.resolve_left (by decide)),
                fun h => g6 (h.resolve_left (by decide)),
                fun h => g7 (h.resolve_left (by decide)),
                fun h => g8 (h.resolve_left (by decide)),
                fun h => g9 (h.resolve_left (by decide)),
                fun h => g10 (h.resolve_left (by decide)),
                fun h => g11 (h.resolve_left (by decide)),
                fun h => g12 (h.resolve_left (by decide)),
                fun h => g13 (h.resolve_left (by decide)),
                fun h => g14 (h.resolve_left (by decide)),
                fun h => g15 (h.resolve_left (by decide)),
                fun h => g16 (h.resolve_left (by decide)),
                fun h => g17 (h.resolve_left (by decide)),
                fun h => g18 (h.resolve_left (by decide)),
                fun h => g19 (h.resolve_left (by decide)),
                fun h => g20 (h.resolve_left (by decide)),
                fun h => g21 (h.resolve_left (by decide)),
                fun h => g22 (fun h2 => h (Or.inr h2)),
                fun h => ⟨(g23 (h.resolve_left (by decide))).1, fun h2 => (g23 (h.resolve_left (by decide))).2.1 (fun h3 => h2 (Or.inr h3)), fun h2 => (g23 (h.resolve_left (by decide))).2.2 (h2.resolve_left (by decide))⟩,
                fun h => Or.inr (g24 (h.resolve_left (by decide)))⟩
            · intro J a0 w hI hnl hd K hK
              obtain ⟨x33, x34, x35, x36, x37, x38, x39, x40, x41, x42, x43, x44, x45, x46, x47, x48, x49, x50, x51, x52, x53, x54, x9, rfl, hB, g0, g1, g2, g3, g4, g5, g6, g7, g8, g9, g10, g11, g12, g13, g14, g15, g16, g17, g18, g19, g20, g21, g22, g23, g24⟩ := hI
              rw [if_pos (by rfl)]
              go_simp
              try simp only [zP, zQ, zS, zZ, zC]
              exact hK.out _ _ ⟨x33, x34, .int .i64 (b : Int), x36, x37, x38, x39, x40, x41, x42, x43, x44, x45, x46, x47, x48, x49, x50, x51, x52, x53, x54, x9, rfl, hB,
                fun h => g0 (h.resolve_left (by decide)),
                fun h => g1 (h.resolve_left (by decide)),
                fun _ => rfl,
                fun h => g3 (h.resolve_left (by decide)),
                fun h => g4 (h.resolve_left (by decide)),
                fun h => g5 (h.resolve_left (by decide)),
                fun h => g6 (h.resolve_left (by decide)),
                fun h => g7 (h.resolve_left (by decide)),
                fun h => g8 (h.resolve_left (by decide)),
                fun h => g9 (h.resolve_left (by decide)),
                fun h => g10 (h.resolve_left (by decide)),
                fun h => g11 (h.resolve_left (by decide)),
                fun h => g12 (h.resolve_left (by decide)),
                fun h => g13 (h.resolve_left (by decide)),
                fun h => g14 (h.resolve_left (by decide)),
                fun h => g15 (h.resolve_left (by decide)),
                fun h => g16 (h.resolve_left (by decide)),
                fun h => g17 (h.resolve_left (by decide)),
                fun h => g18 (h.resolve_left (by decide)),
                fun h => g19 (h.resolve_left (by decide)),
                fun h => g20 (h.resolve_left (by decide)),
                fun h => g21 (h.resolve_left (by decide)),
                fun h => g22 (fun h2 => h (Or.inr h2)),
                fun h => ⟨(g23 (h.resolve_left (by decide))).1, fun h2 => (g23 (h.resolve_left (by decide))).2.1 (fun h3 => h2 (Or.inr h3)), fun h2 => (g23 (h.resolve_left (by decide))).2.2 (h2.resolve_left (by decide))⟩,
                fun h => Or.inr (g24 (h.resolve_left (by decide)))⟩
            · intro J a0 w hI hnl hd K hK
              obtain ⟨x33, x34, x35, x36, x37, x38, x39, x40, x41, x42, x43, x44, x45, x46, x47, x48, x49, x50, x51, x52, x53, x54, x9, rfl, hB, g0, g1, g2, g3, g4, g5, g6, g7, g8, g9, g10, g11, g12, g13, g14, g15, g16, g17, g18, g19, g20, g21, g22, g23, g24⟩ := hI
              rw [if_pos (by rfl)]
              obtain rfl := g2 (hd ⟨2, .data⟩ (by simp) (by rfl))
              go_simp
              try simp only [zP, zQ, zS, zZ, zC]
              rw [show IntKind.i64.wrap (b2 : Int) = (b2 : Int) from IntWalk.i64_in _ (by omega)]
              exact hK.out _ _ ⟨x33, x34, .int .i64 (b : Int), .int .i64 (b2 : Int), x37, x38, x39, x40, x41, x42, x43, x44, x45, x46, x47, x48, x49, x50, x51, x52, x53, x54, x9, rfl, hB,
                fun h => g0 (h.resolve_left (by decide)),
                fun h => g1 (h.resolve_left (by decide)),
                fun _ => rfl,
                fun _ => rfl,
                fun h => g4 (h.resolve_left (by decide)),
                fun h => g5 (h.resolve_left (by decide)),
                fun h => g6 (h.resolve_left (by decide)),
                fun h => g7 (h.resolve_left (by decide)),
                fun h => g8 (h.resolve_left (by decide)),
                fun h => g9 (h.resolve_left (by decide)),
                fun h => g10 (h.resolve_left (by decide)),
                fun h => g11 (h.resolve_left (by decide)),
                fun h => g12 (h.resolve_left (by decide)),
                fun h => g13 (h.resolve_left (by decide)),
                fun h => g14 (h.resolve_left (by decide)),
                fun h => g15 (h.resolve_left (by decide)),
                fun h => g16 (h.resolve_left (by decide)),
                fun h => g17 (h.resolve_left (by decide)),
                fun h => g18 (h.resolve_left (by decide)),
                fun h => g19 (h.resolve_left (by decide)),
                fun h => g20 (h.resolve_left (by decide)),
                fun h => g21 (h.resolve_left (by decide)),
                fun h => g22 (fun h2 => h (Or.inr h2)),
                fun h => ⟨(g23 (h.resolve_left (by decide))).1, fun h2 => (g23 (h.resolve_left (by decide))).2.1 (fun h3 => h2 (Or.inr h3)), fun h2 => (g23 (h.resolve_left (by decide))).2.2 (h2.resolve_left (by decide))⟩,
                fun h => Or.inr (g24 (h.resolve_left (by decide)))⟩
            · intro J a0 w hI hnl hd K hK
              obtain ⟨x33, x34, x35, x36, x37, x38, x39, x40, x41, x42, x43, x44, x45, x46, x47, x48, x49, x50, x51, x52, x53, x54, x9, rfl, hB, g0, g1, g2, g3, g4, g5, g6, g7, g8, g9, g10, g11, g12, g13, g14, g15, g16, g17, g18, g19, g20, g21, g22, g23, g24⟩ := hI
              rw [if_pos (by rfl)]
              obtain rfl := g1 (hd ⟨1, .data⟩ (by simp) (by rfl))
              obtain rfl := g3 (hd ⟨3, .data⟩ (by simp) (by rfl))
              go_simp
              have c := (hB.cell (p := ⟨bp, 0, none⟩) hbpV).trans cpV
              refine (number_in F (n - 1) hf1 hro p b2 bp w c).mono ?_
              rintro _ w' ⟨rfl, rfl⟩
              try simp only [zP, zQ, zS, zZ, zC]
              exact hK.out _ _ ⟨x33, .func (.func 45) #[] #[.pointer (some ⟨bp, 0, none⟩)], x35, .int .i64 (b2 : Int), .int .i64 ((numT p b2 : Nat) : Int), x38, x39, x40, x41, x42, x43, x44, x45, x46, x47, x48, x49, x50, x51, x52, x53, x54, x9, rfl, hB,
                fun h => g0 (h.resolve_left (by decide)),
                fun _ => rfl,
                fun h => g2 (h.resolve_left (by decide)),
                fun _ => rfl,
                fun _ => rfl,
                fun h => g5 (h.resolve_left (by decide)),
                fun h => g6 (h.resolve_left (by decide)),
                fun h => g7 (h.resolve_left (by decide)),
                fun h => g8 (h.resolve_left (by decide)),
                fun h => g9 (h.resolve_left (by decide)),
                fun h => g10 (h.resolve_left (by decide)),
                fun h => g11 (h.resolve_left (by decide)),
                fun h => g12 (h.resolve_left (by decide)),
                fun h => g13 (h.resolve_left (by decide)),
                fun h => g14 (h.resolve_left (by decide)),
                fun h => g15 (h.resolve_left (by decide)),
                fun h => g16 (h.resolve_left (by decide)),
                fun h => g17 (h.resolve_left (by decide)),
                fun h => g18 (h.resolve_left (by decide)),
                fun h => g19 (h.resolve_left (by decide)),
                fun h => g20 (h.resolve_left (by decide)),
                fun h => g21 (h.resolve_left (by decide)),
                fun h => g22 (fun h2 => h (Or.inr h2)),
                fun h => ⟨(g23 (h.resolve_left (by decide))).1, fun h2 => (g23 (h.resolve_left (by decide))).2.1 (fun h3 => h2 (Or.inr h3)), fun h2 => (g23 (h.resolve_left (by decide))).2.2 (h2.resolve_left (by decide))⟩,
                fun h => Or.inr (g24 (h.resolve_left (by decide)))⟩
            · intro J a0 w hI hnl hd K hK
              obtain ⟨x33, x34, x35, x36, x37, x38, x39, x40, x41, x42, x43, x44, x45, x46, x47, x48, x49, x50, x51, x52, x53, x54, x9, rfl, hB, g0, g1, g2, g3, g4, g5, g6, g7, g8, g9, g10, g11, g12, g13, g14, g15, g16, g17, g18, g19, g20, g21, g22, g23, g24⟩ := hI
              rw [if_pos (by rfl)]
              have c := (hB.cell (p := ⟨bn, 0, none⟩) hbnV).trans cnV
              go_simp
              try simp only [zP, zQ, zS, zZ, zC]
              exact hK.out _ _ ⟨x33, x34, x35, x36, x37, .func (.func 45) #[] #[.pointer (some ⟨bp, 0, none⟩)], x39, x40, x41, x42, x43, x44, x45, x46, x47, x48, x49, x50, x51, x52, x53, x54, x9, rfl, hB,
                fun h => g0 (h.resolve_left (by decide)),
                fun h => g1 (h.resolve_left (by decide)),
                fun h => g2 (h.resolve_left (by decide)),
                fun h => g3 (h.resolve_left (by decide)),
                fun h => g4 (h.resolve_left (by decide)),
                fun _ => rfl,
                fun h => g6 (h.resolve_left (by decide)),
                fun h => g7 (h.resolve_left (by decide)),
                fun h => g8 (h.resolve_left (by decide)),
                fun h => g9 (h.resolve_left (by decide)),
                fun h => g10 (h.resolve_left (by decide)),
                fun h => g11 (h.resolve_left (by decide)),
                fun h => g12 (h.resolve_left (by decide)),
                fun h => g13 (h.resolve_left (by decide)),
                fun h => g14 (h.resolve_left (by decide)),
                fun h => g15 (h.resolve_left (by decide)),
                fun h => g16 (h.resolve_left (by decide)),
                fun h => g17 (h.resolve_left (by decide)),
                fun h => g18 (h.resolve_left (by decide)),
                fun h => g19 (h.resolve_left (by decide)),
                fun h => g20 (h.resolve_left (by decide)),
                fun h => g21 (h.resolve_left (by decide)),
                fun h => g22 (fun h2 => h (Or.inr h2)),
                fun h => ⟨(g23 (h.resolve_left (by decide))).1, fun h2 => (g23 (h.resolve_left (by decide))).2.1 (fun h3 => h2 (Or.inr h3)), fun h2 => (g23 (h.resolve_left (by decide))).2.2 (h2.resolve_left (by decide))⟩,
                fun h => Or.inr (g24 (h.resolve_left (by decide)))⟩
            · intro J a0 w hI hnl hd K hK
              obtain ⟨x33, x34, x35, x36, x37, x38, x39, x40, x41, x42, x43, x44, x45, x46, x47, x48, x49, x50, x51, x52, x53, x54, x9, rfl, hB, g0, g1, g2, g3, g4, g5, g6, g7, g8, g9, g10, g11, g12, g13, g14, g15, g16, g17, g18, g19, g20, g21, g22, g23, g24⟩ := hI
              rw [if_pos (by rfl)]
              go_simp
              try simp only [zP, zQ, zS, zZ, zC]
              exact hK.out _ _ ⟨x33, x34, x35, x36, x37, x38, .int .i64 (a : Int), x40, x41, x42, x43, x44, x45, x46, x47, x48, x49, x50, x51, x52, x53, x54, x9, rfl, hB,
                fun h => g0 (h.resolve_left (by decide)),
                fun h => g1 (h.resolve_left (by decide)),
                fun h => g2 (h.resolve_left (by decide)),
                fun h => g3 (h.resolve_left (by decide)),
                fun h => g4 (h.resolve_left (by decide)),
                fun h => g5 (h.resolve_left (by decide)),
                fun _ => rfl,
                fun h => g7 (h.resolve_left (by decide)),
                fun h => g8 (h.resolve_left (by decide)),
                fun h => g9 (h.resolve_left (by decide)),
                fun h => g10 (h.resolve_left (by decide)),
                fun h => g11 (h.resolve_left (by decide)),
                fun h => g12 (h.resolve_left (by decide)),
                fun h => g13 (h.resolve_left (by decide)),
                fun h => g14 (h.resolve_left (by decide)),
                fun h => g15 (h.resolve_left (by decide)),
                fun h => g16 (h.resolve_left (by decide)),
                fun h => g17 (h.resolve_left (by decide)),
                fun h => g18 (h.resolve_left (by decide)),
                fun h => g19 (h.resolve_left (by decide)),
                fun h => g20 (h.resolve_left (by decide)),
                fun h => g21 (h.resolve_left (by decide)),
                fun h => g22 (fun h2 => h (Or.inr h2)),
                fun h => ⟨(g23 (h.resolve_left (by decide))).1, fun h2 => (g23 (h.resolve_left (by decide))).2.1 (fun h3 => h2 (Or.inr h3)), fun h2 => (g23 (h.resolve_left (by decide))).2.2 (h2.resolve_left (by decide))⟩,
                fun h => Or.inr (g24 (h.resolve_left (by decide)))⟩
            · intro J a0 w hI hnl hd K hK
              obtain ⟨x33, x34, x35, x36, x37, x38, x39, x40, x41, x42, x43, x44, x45, x46, x47, x48, x49, x50, x51, x52, x53, x54, x9, rfl, hB, g0, g1, g2, g3, g4, g5, g6, g7, g8, g9, g10, g11, g12, g13, g14, g15, g16, g17, g18, g19, g20, g21, g22, g23, g24⟩ := hI
              rw [if_pos (by rfl)]
              obtain rfl := g6 (hd ⟨6, .data⟩ (by simp) (by rfl))
              go_simp
              try simp only [zP, zQ, zS, zZ, zC]
              rw [show IntKind.i64.wrap (a2 : Int) = (a2 : Int) from IntWalk.i64_in _ (by omega)]
              exact hK.out _ _ ⟨x33, x34, x35, x36, x37, x38, .int .i64 (a : Int), .int .i64 (a2 : Int), x41, x42, x43, x44, x45, x46, x47, x48, x49, x50, x51, x52, x53, x54, x9, rfl, hB,
                fun h => g0 (h.resolve_left (by decide)),
                fun h => g1 (h.resolve_left (by decide)),
                fun h => g2 (h.resolve_left (by decide)),
                fun h => g3 (h.resolve_left (by decide)),
                fun h => g4 (h.resolve_left (by decide)),
                fun h => g5 (h.resolve_left (by decide)),
                fun _ => rfl,
                fun _ => rfl,
                fun h => g8 (h.resolve_left (by decide)),
                fun h => g9 (h.resolve_left (by decide)),
                fun h => g10 (h.resolve_left (by decide)),
                fun h => g11 (h.resolve_left (by decide)),
                fun h => g12 (h.resolve_left (by decide)),
                fun h => g13 (h.resolve_left (by decide)),
                fun h => g14 (h.resolve_left (by decide)),
                fun h => g15 (h.resolve_left (by decide)),
                fun h => g16 (h.resolve_left (by decide)),
                fun h => g17 (h.resolve_left (by decide)),
                fun h => g18 (h.resolve_left (by decide)),
                fun h => g19 (h.resolve_left (by decide)),
                fun h => g20 (h.resolve_left (by decide)),
                fun h => g21 (h.resolve_left (by decide)),
                fun h => g22 (fun h2 => h (Or.inr h2)),
                fun h => ⟨(g23 (h.resolve_left (by decide))).1, fun h2 => (g23 (h.resolve_left (by decide))).2.1 (fun h3 => h2 (Or.inr h3)), fun h2 => (g23 (h.resolve_left (by decide))).2.2 (h2.resolve_left (by decide))⟩,
                fun h => Or.inr (g24 (h.resolve_left (by decide)))⟩
            · intro J a0 w hI hnl hd K hK
              obtain ⟨x33, x34, x35, x36, x37, x38, x39, x40, x41, x42, x43, x44, x45, x46, x47, x48, x49, x50, x51, x52, x53, x54, x9, rfl, hB, g0, g1, g2, g3, g4, g5, g6, g7, g8, g9, g10, g11, g12, g13, g14, g15, g16, g17, g18, g19, g20, g21, g22, g23, g24⟩ := hI
              rw [if_pos (by rfl)]
              obtain rfl := g7 (hd ⟨7, .data⟩ (by simp) (by rfl))
              go_simp
              try simp only [zP, zQ, zS, zZ, zC]
              rw [show IntKind.i64.wrap (a1 : Int) = (a1 : Int) from IntWalk.i64_in _ (by omega)]
              exact hK.out _ _ ⟨x33, x34, x35, x36, x37, x38, x39, .int .i64 (a2 : Int), .int .i64 (a1 : Int), x42, x43, x44, x45, x46, x47, x48, x49, x50, x51, x52, x53, x54, x9, rfl, hB,
                fun h => g0 (h.resolve_left (by decide)),
                fun h => g1 (h.resolve_left (by decide)),
                fun h => g2 (h.resolve_left (by decide)),
                fun h => g3 (h.resolve_left (by decide)),
                fun h => g4 (h.resolve_left (by decide)),
                fun h => g5 (h.resolve_left (by decide)),
                fun h => g6 (h.resolve_left (by decide)),
                fun _ => rfl,
                fun _ => rfl,
                fun h => g9 (h.resolve_left (by decide)),
                fun h => g10 (h.resolve_left (by decide)),
                fun h => g11 (h.resolve_left (by decide)),
                fun h => g12 (h.resolve_left (by decide)),
                fun h => g13 (h.resolve_left (by decide)),
                fun h => g14 (h.resolve_left (by decide)),
                fun h => g15 (h.resolve_left (by decide)),
                fun h => g16 (h.resolve_left (by decide)),
                fun h => g17 (h.resolve_left (by decide)),
                fun h => g18 (h.resolve_left (by decide)),
                fun h => g19 (h.resolve_left (by decide)),
                fun h => g20 (h.resolve_left (by decide)),
                fun h => g21 (h.resolve_left (by decide)),
                fun h => g22 (fun h2 => h (Or.inr h2)),
                fun h => ⟨(g23 (h.resolve_left (by decide))).1, fun h2 => (g23 (h.resolve_left (by decide))).2.1 (fun h3 => h2 (Or.inr h3)), fun h2 => (g23 (h.resolve_left (by decide))).2.2 (h2.resolve_left (by decide))⟩,
                fun h => Or.inr (g24 (h.resolve_left (by decide)))⟩
            · intro J a0 w hI hnl hd K hK
              obtain ⟨x33, x34, x35, x36, x37, x38, x39, x40, x41, x42, x43, x44, x45, x46, x47, x48, x49, x50, x51, x52, x53, x54, x9, rfl, hB, g0, g1, g2, g3, g4, g5, g6, g7, g8, g9, g10, g11, g12, g13, g14, g15, g16, g17, g18, g19, g20, g21, g22, g23, g24⟩ := hI
              rw [if_pos (by rfl)]
              obtain rfl := g5 (hd ⟨5, .data⟩ (by simp) (by rfl))
              obtain rfl := g8 (hd ⟨8, .data⟩ (by simp) (by rfl))
              go_simp
              have c := (hB.cell (p := ⟨bp, 0, none⟩) hbpV).trans cpV
              refine (number_in F (n - 1) hf1 hro p a1 bp w c).mono ?_
              rintro _ w' ⟨rfl, rfl⟩
              try simp only [zP, zQ, zS, zZ, zC]
              exact hK.out _ _ ⟨x33, x34, x35, x36, x37, .func (.func 45) #[] #[.pointer (some ⟨bp, 0, none⟩)], x39, x40, .int .i64 (a1 : Int), .int .i64 ((numT p a1 : Nat) : Int), x43, x44, x45, x46, x47, x48, x49, x50, x51, x52, x53, x54, x9, rfl, hB,
                fun h => g0 (h.resolve_left (by decide)),
                fun h => g1 (h.resolve_left (by decide)),
                fun h => g2 (h.resolve_left (by decide)),
                fun h => g3 (h.resolve_left (by decide)),
                fun h => g4 (h.resolve_left (by decide)),
                fun _ => rfl,
                fun h => g6 (h.resolve_left (by decide)),
                fun h => g7 (h.resolve_left (by decide)),
                fun _ => rfl,
                fun _ => rfl,
                fun h => g10 (h.resolve_left (by decide)),
                fun h => g11 (h.resolve_left (by decide)),
                fun h => g12 (h.resolve_left (by decide)),
                fun h => g13 (h.resolve_left (by decide)),
                fun h => g14 (h.resolve_left (by decide)),
                fun h => g15 (h.resolve_left (by decide)),
                fun h => g16 (h.resolve_left (by decide)),
                fun h => g17 (h.resolve_left (by decide)),
                fun h => g18 (h.resolve_left (by decide)),
                fun h => g19 (h.resolve_left (by decide)),
                fun h => g20 (h.resolve_left (by decide)),
                fun h => g21 (h.resolve_left (by decide)),
                fun h => g22 (fun h2 => h (Or.inr h2)),
                fun h => ⟨(g23 (h.resolve_left (by decide))).1, fun h2 => (g23 (h.resolve_left (by decide))).2.1 (fun h3 => h2 (Or.inr h3)), fun h2 => (g23 (h.resolve_left (by decide))).2.2 (h2.resolve_left (by decide))⟩,
                fun h => Or.inr (g24 (h.resolve_left (by decide)))⟩
            · intro J a0 w hI hnl hd K hK
              obtain ⟨x33, x34, x35, x36, x37, x38, x39, x40, x41, x42, x43, x44, x45, x46, x47, x48, x49, x50, x51, x52, x53, x54, x9, rfl, hB, g0, g1, g2, g3, g4, g5, g6, g7, g8, g9, g10, g11, g12, g13, g14, g15, g16, g17, g18, g19, g20, g21, g22, g23, g24⟩ := hI
              rw [if_pos (by rfl)]
              obtain rfl := g4 (hd ⟨4, .data⟩ (by simp) (by rfl))
              obtain rfl := g9 (hd ⟨9, .data⟩ (by simp) (by rfl))
              go_simp
              try simp only [zP, zQ, zS, zZ, zC]
              exact hK.out _ _ ⟨x33, x34, x35, x36, .int .i64 ((numT p b2 : Nat) : Int), x38, x39, x40, x41, .int .i64 ((numT p a1 : Nat) : Int), .agg #[.int .i64 ((numT p b2 : Nat) : Int), .int .i64 ((numT p a1 : Nat) : Int)], x44, x45, x46, x47, x48, x49, x50, x51, x52, x53, x54, x9, rfl, hB,
                fun h => g0 (h.resolve_left (by decide)),
                fun h => g1 (h.resolve_left (by decide)),
                fun h => g2 (h.resolve_left (by decide)),
                fun h => g3 (h.resolve_left (by decide)),
                fun _ => rfl,
                fun h => g5 (h.resolve_left (by decide)),
                fun h => g6 (h.resolve_left (by decide)),
                fun h => g7 (h.resolve_left (by decide)),
                fun h => g8 (h.resolve_left (by decide)),
                fun _ => rfl,
                fun _ => rfl,
                fun h => g11 (h.resolve_left (by decide)),
                fun h => g12 (h.resolve_left (by decide)),
                fun h => g13 (h.resolve_left (by decide)),
                fun h => g14 (h.resolve_left (by decide)),
                fun h => g15 (h.resolve_left (by decide)),
                fun h => g16 (h.resolve_left (by decide)),
                fun h => g17 (h.resolve_left (by decide)),
                fun h => g18 (h.resolve_left (by decide)),
                fun h => g19 (h.resolve_left (by decide)),
                fun h => g20 (h.resolve_left (by decide)),
                fun h => g21 (h.resolve_left (by decide)),
                fun h => g22 (fun h2 => h (Or.inr h2)),
                fun h => ⟨(g23 (h.resolve_left (by decide))).1, fun h2 => (g23 (h.resolve_left (by decide))).2.1 (fun h3 => h2 (Or.inr h3)), fun h2 => (g23 (h.resolve_left (by decide))).2.2 (h2.resolve_left (by decide))⟩,
                fun h => Or.inr (g24 (h.resolve_left (by decide)))⟩
            · intro J a0 w hI hnl hd K hK
              obtain ⟨x33, x34, x35, x36, x37, x38, x39, x40, x41, x42, x43, x44, x45, x46, x47, x48, x49, x50, x51, x52, x53, x54, x9, rfl, hB, g0, g1, g2, g3, g4, g5, g6, g7, g8, g9, g10, g11, g12, g13, g14, g15, g16, g17, g18, g19, g20, g21, g22, g23, g24⟩ := hI
              rw [if_pos (by rfl)]
              have c := (hB.cell (p := ⟨bn, 0, none⟩) hbnV).trans cnV
              go_simp
              try simp only [zP, zQ, zS, zZ, zC]
              exact hK.out _ _ ⟨x33, x34, x35, x36, x37, x38, x39, x40, x41, x42, x43, .func (.func 45) #[] #[.pointer (some ⟨bp, 0, none⟩)], x45, x46, x47, x48, x49, x50, x51, x52, x53, x54, x9, rfl, hB,
                fun h => g0 (h.resolve_left (by decide)),
                fun h => g1 (h.resolve_left (by decide)),
                fun h => g2 (h.resolve_left (by decide)),
                fun h => g3 (h.resolve_left (by decide)),
                fun h => g4 (h.resolve_left (by decide)),
                fun h => g5 (h.resolve_left (by decide)),
                fun h => g6 (h.resolve_left (by decide)),
                fun h => g7 (h.resolve_left (by decide)),
                fun h => g8 (h.resolve_left (by decide)),
                fun h => g9 (h.resolve_left (by decide)),
                fun h => g10 (h.resolve_left (by decide)),
                fun _ => rfl,
                fun h => g12 (h.resolve_left (by decide)),
                fun h => g13 (h.resolve_left (by decide)),
                fun h => g14 (h.resolve_left (by decide)),
                fun h => g15 (h.resolve_left (by decide)),
                fun h => g16 (h.resolve_left (by decide)),
                fun h => g17 (h.resolve_left (by decide)),
                fun h => g18 (h.resolve_left (by decide)),
                fun h => g19 (h.resolve_left (by decide)),
                fun h => g20 (h.resolve_left (by decide)),
                fun h => g21 (h.resolve_left (by decide)),
                fun h => g22 (fun h2 => h (Or.inr h2)),
                fun h => ⟨(g23 (h.resolve_left (by decide))).1, fun h2 => (g23 (h.resolve_left (by decide))).2.1 (fun h3 => h2 (Or.inr h3)), fun h2 => (g23 (h.resolve_left (by decide))).2.2 (h2.resolve_left (by decide))⟩,
                fun h => Or.inr (g24 (h.resolve_left (by decide)))⟩
            · intro J a0 w hI hnl hd K hK
              obtain ⟨x33, x34, x35, x36, x37, x38, x39, x40, x41, x42, x43, x44, x45, x46, x47, x48, x49, x50, x51, x52, x53, x54, x9, rfl, hB, g0, g1, g2, g3, g4, g5, g6, g7, g8, g9, g10, g11, g12, g13, g14, g15, g16, g17, g18, g19, g20, g21, g22, g23, g24⟩ := hI
              rw [if_pos (by rfl)]
              go_simp
              try simp only [zP, zQ, zS, zZ, zC]
              exact hK.out _ _ ⟨x33, x34, x35, x36, x37, x38, x39, x40, x41, x42, x43, x44, .int .i64 (a : Int), x46, x47, x48, x49, x50, x51, x52, x53, x54, x9, rfl, hB,
                fun h => g0 (h.resolve_left (by decide)),
                fun h => g1 (h.resolve_left (by decide)),
                fun h => g2 (h.resolve_left (by decide)),
                fun h => g3 (h.resolve_left (by decide)),
                fun h => g4 (h.resolve_left (by decide)),
                fun h => g5 (h.resolve_left (by decide)),
                fun h => g6 (h.resolve_left (by decide)),
                fun h => g7 (h.resolve_left (by decide)),
                fun h => g8 (h.resolve_left (by decide)),
                fun h => g9 (h.resolve_left (by decide)),
                fun h => g10 (h.resolve_left (by decide)),
                fun h => g11 (h.resolve_left (by decide)),
                fun _ => rfl,
                fun h => g13 (h.resolve_left (by decide)),
                fun h => g14 (h.resolve_left (by decide)),
                fun h => g15 (h.resolve_left (by decide)),
                fun h => g16 (h.resolve_left (by decide)),
                fun h => g17 (h.resolve_left (by decide)),
                fun h => g18 (h.resolve_left (by decide)),
                fun h => g19 (h.resolve_left (by decide)),
                fun h => g20 (h.resolve_left (by decide)),
                fun h => g21 (h.resolve_left (by decide)),
                fun h => g22 (fun h2 => h (Or.inr h2)),
                fun h => ⟨(g23 (h.resolve_left (by decide))).1, fun h2 => (g23 (h.resolve_left (by decide))).2.1 (fun h3 => h2 (Or.inr h3)), fun h2 => (g23 (h.resolve_left (by decide))).2.2 (h2.resolve_left (by decide))⟩,
                fun h => Or.inr (g24 (h.resolve_left (by decide)))⟩
            · intro J a0 w hI hnl hd K hK
              obtain ⟨x33, x34, x35, x36, x37, x38, x39, x40, x41, x42, x43, x44, x45, x46, x47, x48, x49, x50, x51, x52, x53, x54, x9, rfl, hB, g0, g1, g2, g3, g4, g5, g6, g7, g8, g9, g10, g11, g12, g13, g14, g15, g16, g17, g18, g19, g20, g21, g22, g23, g24⟩ := hI
              rw [if_pos (by rfl)]
              obtain rfl := g12 (hd ⟨12, .data⟩ (by simp) (by rfl))
              go_simp
              try simp only [zP, zQ, zS, zZ, zC]
              rw [show IntKind.i64.wrap (a2 : Int) = (a2 : Int) from IntWalk.i64_in _ (by omega)]
              exact hK.out _ _ ⟨x33, x34, x35, x36, x37, x38, x39, x40, x41, x42, x43, x44, .int .i64 (a : Int), .int .i64 (a2 : Int), x47, x48, x49, x50, x51, x52, x53, x54, x9, rfl, hB,
                fun h => g0 (h.resolve_left (by decide)),
                fun h => g1 (h.resolve_left (by decide)),
                fun h => g2 (h.resolve_left (by decide)),
                fun h => g3 (h.resolve_left (by decide)),
                fun h => g4 (h.resolve_left (by decide)),
                fun h => g5 (h.resolve_left (by decide)),
                fun h => g6 (h.resolve_left (by decide)),
                fun h => g7 (h.resolve_left (by decide)),
                fun h => g8 (h.resolve_left (by decide)),
                fun h => g9 (h.resolve_left (by decide)),
                fun h => g10 (h.resolve_left (by decide)),
                fun h => g11 (h.resolve_left (by decide)),
                fun _ => rfl,
                fun _ => rfl,
                fun h => g14 (h.resolve_left (by decide)),
                fun h => g15 (h.resolve_left (by decide)),
                fun h => g16 (h.resolve_left (by decide)),
                fun h => g17 (h.resolve_left (by decide)),
                fun h => g18 (h.resolve_left (by decide)),
                fun h => g19 (h.resolve_left (by decide)),
                fun h => g20 (h.resolve_left (by decide)),
                fun h => g21 (h.resolve_left (by decide)),
                fun h => g22 (fun h2 => h (Or.inr h2)),
                fun h => ⟨(g23 (h.resolve_left (by decide))).1, fun h2 => (g23 (h.resolve_left (by decide))).2.1 (fun h3 => h2 (Or.inr h3)), fun h2 => (g23 (h.resolve_left (by decide))).2.2 (h2.resolve_left (by decide))⟩,
                fun h => Or.inr (g24 (h.resolve_left (by decide)))⟩
            · intro J a0 w hI hnl hd K hK
              obtain ⟨x33, x34, x35, x36, x37, x38, x39, x40, x41, x42, x43, x44, x45, x46, x47, x48, x49, x50, x51, x52, x53, x54, x9, rfl, hB, g0, g1, g2, g3, g4, g5, g6, g7, g8, g9, g10, g11, g12, g13, g14, g15, g16, g17, g18, g19, g20, g21, g22, g23, g24⟩ := hI
              rw [if_pos (by rfl)]
              obtain rfl := g11 (hd ⟨11, .data⟩ (by simp) (by rfl))
              obtain rfl := g13 (hd ⟨13, .data⟩ (by simp) (by rfl))
              go_simp
              have c := (hB.cell (p := ⟨bp, 0, none⟩) hbpV).trans cpV
              refine (number_in F (n - 1) hf1 hro p a2 bp w c).mono ?_
              rintro _ w' ⟨rfl, rfl⟩
              try simp only [zP, zQ, zS, zZ, zC]
              exact hK.out _ _ ⟨x33, x34, x35, x36, x37, x38, x39, x40, x41, x42, x43, .func (.func 45) #[] #[.pointer (some ⟨bp, 0, none⟩)], x45, .int .i64 (a2 : Int), .int .i64 ((numT p a2 : Nat) : Int), x48, x49, x50, x51, x52, x53, x54, x9, rfl, hB,
                fun h => g0 (h.resolve_left (by decide)),
                fun h => g1 (h.resolve_left (by decide)),
                fun h => g2 (h.resolve_left (by decide)),
                fun h => g3 (h.resolve_left (by decide)),
                fun h => g4 (h.resolve_left (by decide)),
                fun h => g5 (h.resolve_left (by decide)),
                fun h => g6 (h.resolve_left (by decide)),
                fun h => g7 (h.resolve_left (by decide)),
                fun h => g8 (h.resolve_left (by decide)),
                fun h => g9 (h.resolve_left (by decide)),
                fun h => g10 (h.resolve_left (by decide)),
                fun _ => rfl,
                fun h => g12 (h.resolve_left (by decide)),
                fun _ => rfl,
                fun _ => rfl,
                fun h => g15 (h.resolve_left (by decide)),
                fun h => g16 (h.resolve_left (by decide)),
                fun h => g17 (h.resolve_left (by decide)),
                fun h => g18 (h.resolve_left (by decide)),
                fun h => g19 (h.resolve_left (by decide)),
                fun h => g20 (h.resolve_left (by decide)),
                fun h => g21 (h.resolve_left (by decide)),
                fun h => g22 (fun h2 => h (Or.inr h2)),
                fun h => ⟨(g23 (h.resolve_left (by decide))).1, fun h2 => (g23 (h.resolve_left (by decide))).2.1 (fun h3 => h2 (Or.inr h3)), fun h2 => (g23 (h.resolve_left (by decide))).2.2 (h2.resolve_left (by decide))⟩,
                fun h => Or.inr (g24 (h.resolve_left (by decide)))⟩
            · intro J a0 w hI hnl hd K hK
              obtain ⟨x33, x34, x35, x36, x37, x38, x39, x40, x41, x42, x43, x44, x45, x46, x47, x48, x49, x50, x51, x52, x53, x54, x9, rfl, hB, g0, g1, g2, g3, g4, g5, g6, g7, g8, g9, g10, g11, g12, g13, g14, g15, g16, g17, g18, g19, g20, g21, g22, g23, g24⟩ := hI
              rw [if_pos (by rfl)]
              have c := (hB.cell (p := ⟨bn, 0, none⟩) hbnV).trans cnV
              go_simp
              try simp only [zP, zQ, zS, zZ, zC]
              exact hK.out _ _ ⟨x33, x34, x35, x36, x37, x38, x39, x40, x41, x42, x43, x44, x45, x46, x47, .func (.func 45) #[] #[.pointer (some ⟨bp, 0, none⟩)], x49, x50, x51, x52, x53, x54, x9, rfl, hB,
                fun h => g0 (h.resolve_left (by decide)),
                fun h => g1 (h.resolve_left (by decide)),
                fun h => g2 (h.resolve_left (by decide)),
                fun h => g3 (h.resolve_left (by decide)),
                fun h => g4 (h.resolve_left (by decide)),
                fun h => g5 (h.resolve_left (by decide)),
                fun h => g6 (h.resolve_left (by decide)),
                fun h => g7 (h.resolve_left (by decide)),
                fun h => g8 (h.resolve_left (by decide)),
                fun h => g9 (h.resolve_left (by decide)),
                fun h => g10 (h.resolve_left (by decide)),
                fun h => g11 (h.resolve_left (by decide)),
                fun h => g12 (h.resolve_left (by decide)),
                fun h => g13 (h.resolve_left (by decide)),
                fun h => g14 (h.resolve_left (by decide)),
                fun _ => rfl,
                fun h => g16 (h.resolve_left (by decide)),
                fun h => g17 (h.resolve_left (by decide)),
                fun h => g18 (h.resolve_left (by decide)),
                fun h => g19 (h.resolve_left (by decide)),
                fun h => g20 (h.resolve_left (by decide)),
                fun h => g21 (h.resolve_left (by decide)),
                fun h => g22 (fun h2 => h (Or.inr h2)),
                fun h => ⟨(g23 (h.resolve_left (by decide))).1, fun h2 => (g23 (h.resolve_left (by decide))).2.1 (fun h3 => h2 (Or.inr h3)), fun h2 => (g23 (h.resolve_left (by decide))).2.2 (h2.resolve_left (by decide))⟩,
                fun h => Or.inr (g24 (h.resolve_left (by decide)))⟩
            · intro J a0 w hI hnl hd K hK
              obtain ⟨x33, x34, x35, x36, x37, x38, x39, x40, x41, x42, x43, x44, x45, x46, x47, x48, x49, x50, x51, x52, x53, x54, x9, rfl, hB, g0, g1, g2, g3, g4, g5, g6, g7, g8, g9, g10, g11, g12, g13, g14, g15, g16, g17, g18, g19, g20, g21, g22, g23, g24⟩ := hI
              rw [if_pos (by rfl)]
              go_simp
              try simp only [zP, zQ, zS, zZ, zC]
              exact hK.out _ _ ⟨x33, x34, x35, x36, x37, x38, x39, x40, x41, x42, x43, x44, x45, x46, x47, x48, .int .i64 (b : Int), x50, x51, x52, x53, x54, x9, rfl, hB,
                fun h => g0 (h.resolve_left (by decide)),
                fun h => g1 (h.resolve_left (by decide)),
                fun h => g2 (h.resolve_left (by decide)),
                fun h => g3 (h.resolve_left (by decide)),
                fun h => g4 (h.resolve_left (by decide)),
                fun h => g5 (h.resolve_left (by decide)),
                fun h => g6 (h.resolve_left (by decide)),
                fun h => g7 (h.resolve_left (by decide)),
                fun h => g8 (h.resolve_left (by decide)),
                fun h => g9 (h.resolve_left (by decide)),
                fun h => g10 (h.resolve_left (by decide)),
                fun h => g11 (h.resolve_left (by decide)),
                fun h => g12 (h.resolve_left (by decide)),
                fun h => g13 (h.resolve_left (by decide)),
                fun h => g14 (h.resolve_left (by decide)),
                fun h => g15 (h.resolve_left (by decide)),
                fun _ => rfl,
                fun h => g17 (h.resolve_left (by decide)),
                fun h => g18 (h.resolve_left (by decide)),
                fun h => g19 (h.resolve_left (by decide)),
                fun h => g20 (h.resolve_left (by decide)),
                fun h => g21 (h.resolve_left (by decide)),
                fun h => g22 (fun h2 => h (Or.inr h2)),
                fun h => ⟨(g23 (h.resolve_left (by decide))).1, fun h2 => (g23 (h.resolve_left (by decide))).2.1 (fun h3 => h2 (Or.inr h3)), fun h2 => (g23 (h.resolve_left (by decide))).2.2 (h2.resolve_left (by decide))⟩,
                fun h => Or.inr (g24 (h.resolve_left (by decide)))⟩
            · intro J a0 w hI hnl hd K hK
              obtain ⟨x33, x34, x35, x36, x37, x38, x39, x40, x41, x42, x43, x44, x45, x46, x47, x48, x49, x50, x51, x52, x53, x54, x9, rfl, hB, g0, g1, g2, g3, g4, g5, g6, g7, g8, g9, g10, g11, g12, g13, g14, g15, g16, g17, g18, g19, g20, g21, g22, g23, g24⟩ := hI
              rw [if_pos (by rfl)]
              obtain rfl := g16 (hd ⟨16, .data⟩ (by simp) (by rfl))
              go_simp
              try simp only [zP, zQ, zS, zZ, zC]
              rw [show IntKind.i64.wrap (b2 : Int) = (b2 : Int) from IntWalk.i64_in _ (by omega)]
              exact hK.out _ _ ⟨x33, x34, x35, x36, x37, x38, x39, x40, x41, x42, x43, x44, x45, x46, x47, x48, .int .i64 (b : Int), .int .i64 (b2 : Int), x51, x52, x53, x54, x9, rfl, hB,
                fun h => g0 (h.resolve_left (by decide)),
                fun h => g1 (h.resolve_left (by decide)),
                fun h => g2 (h.resolve_left (by decide)),
                fun h => g3 (h.resolve_left (by decide)),
                fun h => g4 (h.resolve_left (by decide)),
                fun h => g5 (h.resolve_left (by decide)),
                fun h => g6 (h.resolve_left (by decide)),
                fun h => g7 (h.resolve_left (by decide)),
                fun h => g8 (h.resolve_left (by decide)),
                fun h => g9 (h.resolve_left (by decide)),
                fun h => g10 (h.resolve_left (by decide)),
                fun h => g11 (h.resolve_left (by decide)),
                fun h => g12 (h.resolve_left (by decide)),
                fun h => g13 (h.resolve_left (by decide)),
                fun h => g14 (h.resolve_left (by decide)),
                fun h => g15 (h.resolve_left (by decide)),
                fun _ => rfl,
                fun _ => rfl,
                fun h => g18 (h.resolve_left (by decide)),
                fun h => g19 (h.resolve_left (by decide)),
                fun h => g20 (h.resolve_left (by decide)),
                fun h => g21 (h.resolve_left (by decide)),
                fun h => g22 (fun h2 => h (Or.inr h2)),
                fun h => ⟨(g23 (h.resolve_left (by decide))).1, fun h2 => (g23 (h.resolve_left (by decide))).2.1 (fun h3 => h2 (Or.inr h3)), fun h2 => (g23 (h.resolve_left (by decide))).2.2 (h2.resolve_left (by decide))⟩,
                fun h => Or.inr (g24 (h.resolve_left (by decide)))⟩
            · intro J a0 w hI hnl hd K hK
              obtain ⟨x33, x34, x35, x36, x37, x38, x39, x40, x41, x42, x43, x44, x45, x46, x47, x48, x49, x50, x51, x52, x53, x54, x9, rfl, hB, g0, g1, g2, g3, g4, g5, g6, g7, g8, g9, g10, g11, g12, g13, g14, g15, g16, g17, g18, g19, g20, g21, g22, g23, g24⟩ := hI
              rw [if_pos (by rfl)]
              obtain rfl := g17 (hd ⟨17, .data⟩ (by simp) (by rfl))
              go_simp
              try simp only [zP, zQ, zS, zZ, zC]
              rw [show IntKind.i64.wrap (b1 : Int) = (b1 : Int) from IntWalk.i64_in _ (by omega)]
              exact hK.out _ _ ⟨x33, x34, x35, x36, x37, x38, x39, x40, x41, x42, x43, x44, x45, x46, x47, x48, x49, .int .i64 (b2 : Int), .int .i64 (b1 : Int), x52, x53, x54, x9, rfl, hB,
                fun h => g0 (h.resolve_left (by decide)),
                fun h => g1 (h.resolve_left (by decide)),
                fun h => g2 (h.resolve_left (by decide)),
                fun h => g3 (h.resolve_left (by decide)),
                fun h => g4 (h.resolve_left (by decide)),
                fun h => g5 (h.resolve_left (by decide)),
                fun h => g6 (h.resolve_left (by decide)),
                fun h => g7 (h.resolve_left (by decide)),
                fun h => g8 (h.resolve_left (by decide)),
                fun h => g9 (h.resolve_left (by decide)),
                fun h => g10 (h.resolve_left (by decide)),
                fun h => g11 (h.resolve_left (by decide)),
                fun h => g12 (h.resolve_left (by decide)),
                fun h => g13 (h.resolve_left (by decide)),
                fun h => g14 (h.resolve_left (by decide)),
                fun h => g15 (h.resolve_left (by decide)),
                fun h => g16 (h.resolve_left (by decide)),
                fun _ => rfl,
                fun _ => rfl,
                fun h => g19 (h.resolve_left (by decide)),
                fun h => g20 (h.resolve_left (by decide)),
                fun h => g21 (h.resolve_left (by decide)),
                fun h => g22 (fun h2 => h (Or.inr h2)),
                fun h => ⟨(g23 (h.resolve_left (by decide))).1, fun h2 => (g23 (h.resolve_left (by decide))).2.1 (fun h3 => h2 (Or.inr h3)), fun h2 => (g23 (h.resolve_left (by decide))).2.2 (h2.resolve_left (by decide))⟩,
                fun h => Or.inr (g24 (h.resolve_left (by decide)))⟩
            · intro J a0 w hI hnl hd K hK
              obtain ⟨x33, x34, x35, x36, x37, x38, x39, x40, x41, x42, x43, x44, x45, x46, x47, x48, x49, x50, x51, x52, x53, x54, x9, rfl, hB, g0, g1, g2, g3, g4, g5, g6, g7, g8, g9, g10, g11, g12, g13, g14, g15, g16, g17, g18, g19, g20, g21, g22, g23, g24⟩ := hI
              rw [if_pos (by rfl)]
              obtain rfl := g15 (hd ⟨15, .data⟩ (by simp) (by rfl))
              obtain rfl := g18 (hd ⟨18, .data⟩ (by simp) (by rfl))
              go_simp
              have c := (hB.cell (p := ⟨bp, 0, none⟩) hbpV).trans cpV
              refine (number_in F (n - 1) hf1 hro p b1 bp w c).mono ?_
              rintro _ w' ⟨rfl, rfl⟩
              try simp only [zP, zQ, zS, zZ, zC]
              exact hK.out _ _ ⟨x33, x34, x35, x36, x37, x38, x39, x40, x41, x42, x43, x44, x45, x46, x47, .func (.func 45) #[] #[.pointer (some ⟨bp, 0, none⟩)], x49, x50, .int .i64 (b1 : Int), .int .i64 ((numT p b1 : Nat) : Int), x53, x54, x9, rfl, hB,
                fun h => g0 (h.resolve_left (by decide)),
                fun h => g1 (h.resolve_left (by decide)),
                fun h => g2 (h.resolve_left (by decide)),
                fun h => g3 (h.resolve_left (by decide)),
                fun h => g4 (h.resolve_left (by decide)),
                fun h => g5 (h.resolve_left (by decide)),
                fun h => g6 (h.resolve_left (by decide)),
                fun h => g7 (h.resolve_left (by decide)),
                fun h => g8 (h.resolve_left (by decide)),
                fun h => g9 (h.resolve_left (by decide)),
                fun h => g10 (h.resolve_left (by decide)),
                fun h => g11 (h.resolve_left (by decide)),
                fun h => g12 (h.resolve_left (by decide)),
                fun h => g13 (h.resolve_left (by decide)),
                fun h => g14 (h.resolve_left (by decide)),
                fun _ => rfl,
                fun h => g16 (h.resolve_left (by decide)),
                fun h => g17 (h.resolve_left (by decide)),
                fun _ => rfl,
                fun _ => rfl,
                fun h => g20 (h.resolve_left (by decide)),
                fun h => g21 (h.resolve_left (by decide)),
                fun h => g22 (fun h2 => h (Or.inr h2)),
                fun h => ⟨(g23 (h.resolve_left (by decide))).1, fun h2 => (g23 (h.resolve_left (by decide))).2.1 (fun h3 => h2 (Or.inr h3)), fun h2 => (g23 (h.resolve_left (by decide))).2.2 (h2.resolve_left (by decide))⟩,
                fun h => Or.inr (g24 (h.resolve_left (by decide)))⟩
            · intro J a0 w hI hnl hd K hK
              obtain ⟨x33, x34, x35, x36, x37, x38, x39, x40, x41, x42, x43, x44, x45, x46, x47, x48, x49, x50, x51, x52, x53, x54, x9, rfl, hB, g0, g1, g2, g3, g4, g5, g6, g7, g8, g9, g10, g11, g12, g13, g14, g15, g16, g17, g18, g19, g20, g21, g22, g23, g24⟩ := hI
              rw [if_pos (by rfl)]
              obtain rfl := g14 (hd ⟨14, .data⟩ (by simp) (by rfl))
              obtain rfl := g19 (hd ⟨19, .data⟩ (by simp) (by rfl))
              go_simp
              try simp only [zP, zQ, zS, zZ, zC]
              exact hK.out _ _ ⟨x33, x34, x35, x36, x37, x38, x39, x40, x41, x42, x43, x44, x45, x46, .int .i64 ((numT p a2 : Nat) : Int), x48, x49, x50, x51, .int .i64 ((numT p b1 : Nat) : Int), .agg #[.int .i64 ((numT p a2 : Nat) : Int), .int .i64 ((numT p b1 : Nat) : Int)], x54, x9, rfl, hB,
                fun h => g0 (h.resolve_left (by decide)),
                fun h => g1 (h.resolve_left (by decide)),
                fun h => g2 (h.resolve_left (by decide)),
                fun h => g3 (h.resolve_left (by decide)),
                fun h => g4 (h.resolve_left (by decide)),
                fun h => g5 (h.resolve_left (by decide)),
                fun h => g6 (h.resolve_left (by decide)),
                fun h => g7 (h.resolve_left (by decide)),
                fun h => g8 (h.resolve_left (by decide)),
                fun h => g9 (h.resolve_left (by decide)),
                fun h => g10 (h.resolve_left (by decide)),
                fun h => g11 (h.resolve_left (by decide)),
                fun h => g12 (h.resolve_left (by decide)),
                fun h => g13 (h.resolve_left (by decide)),
                fun _ => rfl,
                fun h => g15 (h.resolve_left (by decide)),
                fun h => g16 (h.resolve_left (by decide)),
                fun h => g17 (h.resolve_left (by decide)),
                fun h => g18 (h.resolve_left (by decide)),
                fun _ => rfl,
                fun _ => rfl,
                fun h => g21 (h.resolve_left (by decide)),
                fun h => g22 (fun h2 => h (Or.inr h2)),
                fun h => ⟨(g23 (h.resolve_left (by decide))).1, fun h2 => (g23 (h.resolve_left (by decide))).2.1 (fun h3 => h2 (Or.inr h3)), fun h2 => (g23 (h.resolve_left (by decide))).2.2 (h2.resolve_left (by decide))⟩,
                fun h => Or.inr (g24 (h.resolve_left (by decide)))⟩
            · intro J a0 w hI hnl hd K hK
              obtain ⟨x33, x34, x35, x36, x37, x38, x39, x40, x41, x42, x43, x44, x45, x46, x47, x48, x49, x50, x51, x52, x53, x54, x9, rfl, hB, g0, g1, g2, g3, g4, g5, g6, g7, g8, g9, g10, g11, g12, g13, g14, g15, g16, g17, g18, g19, g20, g21, g22, g23, g24⟩ := hI
              rw [if_pos (by rfl)]
              obtain rfl := g0 (hd ⟨0, .data⟩ (by simp) (by rfl))
              obtain rfl := g10 (hd ⟨10, .data⟩ (by simp) (by rfl))
              obtain rfl := g20 (hd ⟨20, .data⟩ (by simp) (by rfl))
              go_simp
              try simp only [zP, zQ, zS, zZ, zC]
              exact hK.out _ _ ⟨.int .i64 (q : Int), x34, x35, x36, x37, x38, x39, x40, x41, x42, .agg #[.int .i64 ((numT p b2 : Nat) : Int), .int .i64 ((numT p a1 : Nat) : Int)], x44, x45, x46, x47, x48, x49, x50, x51, x52, .agg #[.int .i64 ((numT p a2 : Nat) : Int), .int .i64 ((numT p b1 : Nat) : Int)], .agg #[.int .i64 (q : Int), .int .i64 ((numT p b2 : Nat) : Int), .int .i64 ((numT p a1 : Nat) : Int), .int .i64 ((numT p a2 : Nat) : Int), .int .i64 ((numT p b1 : Nat) : Int)], x9, rfl, hB,
                fun _ => rfl,
                fun h => g1 (h.resolve_left (by decide)),
                fun h => g2 (h.resolve_left (by decide)),
                fun h => g3 (h.resolve_left (by decide)),
                fun h => g4 (h.resolve_left (by decide)),
                fun h => g5 (h.resolve_left (by decide)),
                fun h => g6 (h.resolve_left (by decide)),
                fun h => g7 (h.resolve_left (by decide)),
                fun h => g8 (h.resolve_left (by decide)),
                fun h => g9 (h.resolve_left (by decide)),
                fun _ => rfl,
                fun h => g11 (h.resolve_left (by decide)),
                fun h => g12 (h.resolve_left (by decide)),
                fun h => g13 (h.resolve_left (by decide)),
                fun h => g14 (h.resolve_left (by decide)),
                fun h => g15 (h.resolve_left (by decide)),
                fun h => g16 (h.resolve_left (by decide)),
                fun h => g17 (h.resolve_left (by decide)),
                fun h => g18 (h.resolve_left (by decide)),
                fun h => g19 (h.resolve_left (by decide)),
                fun _ => rfl,
                fun _ => rfl,
                fun h => g22 (fun h2 => h (Or.inr h2)),
                fun h => ⟨(g23 (h.resolve_left (by decide))).1, fun h2 => (g23 (h.resolve_left (by decide))).2.1 (fun h3 => h2 (Or.inr h3)), fun h2 => (g23 (h.resolve_left (by decide))).2.2 (h2.resolve_left (by decide))⟩,
                fun h => Or.inr (g24 (h.resolve_left (by decide)))⟩
            · intro J a0 w hI hnl hd K hK
              obtain ⟨x33, x34, x35, x36, x37, x38, x39, x40, x41, x42, x43, x44, x45, x46, x47, x48, x49, x50, x51, x52, x53, x54, x9, rfl, hB, g0, g1, g2, g3, g4, g5, g6, g7, g8, g9, g10, g11, g12, g13, g14, g15, g16, g17, g18, g19, g20, g21, g22, g23, g24⟩ := hI
              rw [if_pos (by rfl)]
              obtain rfl := g22 hnl
              go_simp
              try simp only [zP, zQ, zS, zZ, zC]
              have Z : Below w.heap.size w (w.alloc (.cells #[.int .i64 0, .int .i64 0, .int .i64 0, .int .i64 0, .int .i64 0] 64)) := (Below.refl _ _).alloc (Nat.le_refl _) _
              have N : Blk (w.alloc (.cells #[.int .i64 0, .int .i64 0, .int .i64 0, .int .i64 0, .int .i64 0] 64)) w.heap.size 64 [.int .i64 0, .int .i64 0, .int .i64 0, .int .i64 0, .int .i64 0] := blk_new w _ _
              have n23 : ¬ J 23 := fun h => hnl (g24 h)
              exact hK.out _ _ ⟨x33, x34, x35, x36, x37, x38, x39, x40, x41, x42, x43, x44, x45, x46, x47, x48, x49, x50, x51, x52, x53, x54, .pointer (some ⟨w.heap.size, 0, none⟩), rfl, Z,
                fun h => g0 (h.resolve_left (by decide)),
                fun h => g1 (h.resolve_left (by decide)),
                fun h => g2 (h.resolve_left (by decide)),
                fun h => g3 (h.resolve_left (by decide)),
                fun h => g4 (h.resolve_left (by decide)),
                fun h => g5 (h.resolve_left (by decide)),
                fun h => g6 (h.resolve_left (by decide)),
                fun h => g7 (h.resolve_left (by decide)),
                fun h => g8 (h.resolve_left (by decide)),
                fun h => g9 (h.resolve_left (by decide)),
                fun h => g10 (h.resolve_left (by decide)),
                fun h => g11 (h.resolve_left (by decide)),
                fun h => g12 (h.resolve_left (by decide)),
                fun h => g13 (h.resolve_left (by decide)),
                fun h => g14 (h.resolve_left (by decide)),
                fun h => g15 (h.resolve_left (by decide)),
                fun h => g16 (h.resolve_left (by decide)),
                fun h => g17 (h.resolve_left (by decide)),
                fun h => g18 (h.resolve_left (by decide)),
                fun h => g19 (h.resolve_left (by decide)),
                fun h => g20 (h.resolve_left (by decide)),
                fun h => g21 (h.resolve_left (by decide)),
                fun h => absurd (Or.inl rfl) h,
                fun _ => ⟨rfl, fun _ => N, fun h => absurd (h.resolve_left (by decide)) n23⟩,
                fun h => absurd (h.resolve_left (by decide)) n23⟩
            · intro J a0 w hI hnl hd K hK
              obtain ⟨x33, x34, x35, x36, x37, x38, x39, x40, x41, x42, x43, x44, x45, x46, x47, x48, x49, x50, x51, x52, x53, x54, x9, rfl, hB, g0, g1, g2, g3, g4, g5, g6, g7, g8, g9, g10, g11, g12, g13, g14, g15, g16, g17, g18, g19, g20, g21, g22, g23, g24⟩ := hI
              rw [if_pos (by rfl)]
              obtain ⟨rfl, hz, _⟩ := g23 (hd ⟨22, .data⟩ (by simp) (by rfl))
              obtain rfl := g21 (hd ⟨21, .data⟩ (by simp) (by rfl))
              have KX := hz hnl
              refine wpIn_store_mid 64 (.tmp 9) (.tmp 54) rfl V.heap.size 0 (List.toArray [.int .i64 (q : Int), .int .i64 ((numT p b2 : Nat) : Int), .int .i64 ((numT p a1 : Nat) : Int), .int .i64 ((numT p a2 : Nat) : Int), .int .i64 ((numT p b1 : Nat) : Int)]) rfl rfl (by simpa using KX.there 0 5 (by simp)) (by kernel_rfl) (all_oneCell_toArray (by intro v hv; simp at hv; rcases hv with rfl | rfl | rfl | rfl | rfl <;> rfl)) ?_
              have K2 : Blk (w.setCells V.heap.size 0 [.int .i64 (q : Int), .int .i64 ((numT p b2 : Nat) : Int), .int .i64 ((numT p a1 : Nat) : Int), .int .i64 ((numT p a2 : Nat) : Int), .int .i64 ((numT p b1 : Nat) : Int)]) V.heap.size 64 [.int .i64 (q : Int), .int .i64 ((numT p b2 : Nat) : Int), .int .i64 ((numT p a1 : Nat) : Int), .int .i64 ((numT p a2 : Nat) : Int), .int .i64 ((numT p b1 : Nat) : Int)] := KX.all rfl
              have O := only_sets V.heap.size 0 w [.int .i64 (q : Int), .int .i64 ((numT p b2 : Nat) : Int), .int .i64 ((numT p a1 : Nat) : Int), .int .i64 ((numT p a2 : Nat) : Int), .int .i64 ((numT p b1 : Nat) : Int)]
              have X2 := O.2.2 _ _ (Nat.le_refl _) hB
              dsimp only
              generalize World.setCells w V.heap.size 0 [.int .i64 (q : Int), .int .i64 ((numT p b2 : Nat) : Int), .int .i64 ((numT p a1 : Nat) : Int), .int .i64 ((numT p a2 : Nat) : Int), .int .i64 ((numT p b1 : Nat) : Int)] = w' at K2 O X2 ⊢
              try simp only [zP, zQ, zS, zZ, zC]
              exact hK.out _ _ ⟨x33, x34, x35, x36, x37, x38, x39, x40, x41, x42, x43, x44, x45, x46, x47, x48, x49, x50, x51, x52, x53, .agg #[.int .i64 (q : Int), .int .i64 ((numT p b2 : Nat) : Int), .int .i64 ((numT p a1 : Nat) : Int), .int .i64 ((numT p a2 : Nat) : Int), .int .i64 ((numT p b1 : Nat) : Int)], .pointer (some ⟨V.heap.size, 0, none⟩), rfl, X2,
                fun h => g0 (h.resolve_left (by decide)),
                fun h => g1 (h.resolve_left (by decide)),
                fun h => g2 (h.resolve_left (by decide)),
                fun h => g3 (h.resolve_left (by decide)),
                fun h => g4 (h.resolve_left (by decide)),
                fun h => g5 (h.resolve_left (by decide)),
                fun h => g6 (h.resolve_left (by decide)),
                fun h => g7 (h.resolve_left (by decide)),
                fun h => g8 (h.resolve_left (by decide)),
                fun h => g9 (h.resolve_left (by decide)),
                fun h => g10 (h.resolve_left (by decide)),
                fun h => g11 (h.resolve_left (by decide)),
                fun h => g12 (h.resolve_left (by decide)),
                fun h => g13 (h.resolve_left (by decide)),
                fun h => g14 (h.resolve_left (by decide)),
                fun h => g15 (h.resolve_left (by decide)),
                fun h => g16 (h.resolve_left (by decide)),
                fun h => g17 (h.resolve_left (by decide)),
                fun h => g18 (h.resolve_left (by decide)),
                fun h => g19 (h.resolve_left (by decide)),
                fun h => g20 (h.resolve_left (by decide)),
                fun _ => rfl,
                fun h => absurd (Or.inr (hd ⟨22, .data⟩ (by simp) (by rfl))) h,
                fun _ => ⟨rfl, fun h => absurd (Or.inl rfl) h, fun _ => K2⟩,
                fun _ => Or.inr (hd ⟨22, .data⟩ (by simp) (by rfl))⟩
        · obtain rfl : i = h := by omega
          have hlt2z : ¬ (i : Int) < (i : Int) := by omega
          gi_wp2
          exact ⟨⟨q1, by have := HQ1.out; omega, rfl, by rw [← HQ1.out, Nat.succ_mul]; exact hJi, hB⟩, by have := HQ1.out; simp [intOf]; omega⟩
    · obtain rfl : q = Q := by omega
      have hltz : ¬ (q : Int) < (q : Int) := by omega
      gi_wp2
      go_end0
      exact ⟨⟨_, rfl⟩, .inl hJq⟩
end Go.Proofs.Ytahmpagolmodhaa
