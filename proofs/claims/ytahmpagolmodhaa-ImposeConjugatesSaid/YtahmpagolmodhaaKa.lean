/-
  ImposeConjugates, walked.
-/
import Derived.Test.YtahmpagolmodhaaJo
import Derived.Test.YtahmpagolmodhaaIq
namespace Go.Proofs.Ytahmpagolmodhaa
open Go.RowKit
set_option linter.unusedVariables false
set_option linter.unusedSimpArgs false

theorem conj_law {p h : Nat} (h1 : 1 ≤ h) (h8 : h ≤ 8) {x : Int} (hx : inT p h x = true) : ∃ m b j : Nat, x = (m : Int) ∧ conjN p h x = (b : Int) ∧ conjE p h x = 0 ∧ conjN p h (b : Int) = (m : Int) ∧ conjE p h (b : Int) = 0 ∧
    shsL p h [x] = [(j : Int)] ∧ shsE p h [x] = 0 ∧ shsL p h [(b : Int), x] = [(j : Int)] ∧ shsE p h [(b : Int), x] = 0 ∧ (b + m) % 2 = 1 ∧ m ≤ qnT p h * (2 * h) ∧ b ≤ qnT p h * (2 * h) := by
  have hx2 := hx
  unfold inT at hx2
  rw [Bool.and_eq_true, decide_eq_true_eq, decide_eq_true_eq] at hx2
  obtain ⟨m, rfl⟩ : ∃ m : Nat, x = (m : Int) := ⟨x.toNat, by omega⟩
  have hm1 : 1 ≤ m := by omega
  have hm2 : m ≤ qnT p h * (2 * h) := by omega
  have ho := of_all h h1 h8 m (qnT p h) hm1 hm2
  obtain ⟨b, hb⟩ : ∃ b, conjT h m = b := ⟨_, rfl⟩
  rw [hb] at ho
  have hbin : inT p h (b : Int) = true := by unfold inT; rw [Bool.and_eq_true, decide_eq_true_eq, decide_eq_true_eq]; omega
  have s1 := shsT_one (p := p) h1 h8 hm1 hm2
  have s2 := shsT_one (p := p) h1 h8 ho.2.2.1 ho.2.2.2.1
  rw [ho.2.2.2.2.2.2] at s2
  have a1 : ([(m : Int)] : List Int).all (inT p h) = true := by rw [List.all_cons, hx]; rfl
  have a2 : ([(b : Int), (m : Int)] : List Int).all (inT p h) = true := by rw [List.all_cons, List.all_cons, hx, hbin]; rfl
  have s3 : shsT p h [(b : Int), (m : Int)] = [ofLeaf h m] := by
    rw [← s1]
    unfold shsT
    apply List.filter_congr
    intro k hk
    rw [show [(b : Int), (m : Int)] = [(b : Int)] ++ [(m : Int)] from rfl, hasT_append]
    have e1 : hasT [(b : Int)] h k = true ↔ k ∈ [ofLeaf h m] := by rw [← s2]; unfold shsT; rw [List.mem_filter]; exact ⟨fun g => ⟨hk, g⟩, fun g => g.2⟩
    have e2 : hasT [(m : Int)] h k = true ↔ k ∈ [ofLeaf h m] := by rw [← s1]; unfold shsT; rw [List.mem_filter]; exact ⟨fun g => ⟨hk, g⟩, fun g => g.2⟩
    have e3 := e1.trans e2.symm
    rcases g1 : hasT [(b : Int)] h k with _ | _
    · rfl
    · rw [e3.1 g1]; rfl
  refine ⟨m, b, ofLeaf h m, rfl, ?_, ?_, ?_, ?_, ?_, ?_, ?_, ?_, ho.2.2.2.2.2.1, hm2, ho.2.2.2.1⟩
  · unfold conjN; rw [if_pos hx]; show ((conjT h m : Nat) : Int) = _; rw [hb]
  · unfold conjE; rw [if_pos hx]
  · unfold conjN; rw [if_pos hbin]; show ((conjT h b : Nat) : Int) = _; rw [ho.2.2.2.2.1]
  · unfold conjE; rw [if_pos hbin]
  · unfold shsL; rw [if_pos a1, s1]; rfl
  · unfold shsE; rw [if_pos a1]
  · unfold shsL; rw [if_pos a2, s3]; rfl
  · unfold shsE; rw [if_pos a2]
theorem conj_no {p h : Nat} {x : Int} (hx : inT p h x = false) : conjN p h x = 0 ∧ conjE p h x = 5 := by
  unfold conjN conjE
  rw [hx]
  exact ⟨rfl, rfl⟩
def CjRel (V : World) (v : Value) (wr : World) : Prop := ∃ i : Nat, v = .int .i64 (i : Int) ∧ i ≤ 6 ∧ Below V.heap.size V wr
set_option maxHeartbeats 4000000 in
set_option maxRecDepth 100000 in
theorem imposeConjugates_any (n m leaf : Int) (n1 : -9223372036854775808 ≤ n) (n2 : n ≤ 9223372036854775807) (m1 : -9223372036854775808 ≤ m) (m2 : m ≤ 9223372036854775807) (l1 : -9223372036854775808 ≤ leaf) (l2 : leaf ≤ 9223372036854775807) (w : World) :
    Calls Try.prog 6 #[.int .i64 n, .int .i64 m, .int .i64 leaf] w (Yes w) := by
  have CV := Lib.hid (volume_any n m n1 n2 m1 m2)
  have CA := Lib.hid (arnd leaf l1 l2 80 (by omega) (by omega))
  have CL := Lib.hid (fun V => lives_any V)
  go_enter Try.func6, Try.ntmps6
  go_upto_region 2 with (go_at_call 9; refine (CV.out _).mono ?_; rintro _ w1 ⟨p, l, rfl, hp1, hp2, hl1, hl2, B1⟩)
  go_upto_region 3 with (go_at_call 25; refine (CA.out _).mono ?_; rintro _ _ ⟨r, hr, rfl, rfl⟩)
  have AT := at_new intE w1 #[.int .i64 leaf, .int .i64 (r : Int), .int .i64 0, .int .i64 1, .int .i64 l, .int .i64 (l + 1)] [leaf, (r : Int), 0, 1, l, l + 1] rfl
  have XV : Below w1.heap.size w1 (w1.alloc (.cells #[.int .i64 leaf, .int .i64 (r : Int), .int .i64 0, .int .i64 1, .int .i64 l, .int .i64 (l + 1)] 3)) := (Below.refl _ _).alloc (Nat.le_refl _) _
  have X0 := link B1 XV
  have hbV : w1.heap.size < (w1.alloc (.cells #[.int .i64 leaf, .int .i64 (r : Int), .int .i64 0, .int .i64 1, .int .i64 l, .int .i64 (l + 1)] 3)).heap.size := by rw [World.size_alloc]; omega
  change At intE (w1.alloc (.cells #[.int .i64 leaf, .int .i64 (r : Int), .int .i64 0, .int .i64 1, .int .i64 l, .int .i64 (l + 1)] 3)) _ _ at AT
  generalize w1.alloc (.cells #[.int .i64 leaf, .int .i64 (r : Int), .int .i64 0, .int .i64 1, .int .i64 l, .int .i64 (l + 1)] 3) = V at AT XV X0 hbV ⊢
  have hxs : ∀ x ∈ [leaf, (r : Int), 0, 1, l, l + 1], -9223372036854775808 ≤ x ∧ x ≤ 9223372036854775807 := by intro x hx; simp at hx; omega
  obtain ⟨b, hb⟩ : ∃ b, w1.heap.size = b := ⟨_, rfl⟩
  obtain ⟨xs, hxl⟩ : ∃ xs, [leaf, (r : Int), 0, 1, l, l + 1] = xs := ⟨_, rfl⟩
  rw [hb] at AT hbV ⊢
  rw [hxl] at AT hxs
  have hx6 : xs.length = 6 := by rw [← hxl]; rfl
  have HX := Lib.hid hxs
  have HX6 := Lib.hid hx6
  clear hb hxl hxs hx6 XV B1 CV CA
  go_wp2
  go_loopw [10] (fun v wr => CjRel V v wr) (fun v _ => 6 - (intOf v).toNat)
  case atStart => exact ⟨0, rfl, by omega, Below.refl _ _⟩
  case round =>
    obtain ⟨i, rfl, hi, hB⟩ := hrel
    rcases Nat.lt_or_ge i 6 with hlt | hge
    · have hltz : (i : Int) < 6 := by omega
      obtain ⟨x, hx⟩ : ∃ x, xs[i]? = some x := ⟨_, List.getElem?_eq_getElem (by rw [HX6.out]; exact hlt)⟩
      obtain ⟨hx1, hx2⟩ := HX.out x (List.mem_of_getElem? hx)
      have cx : ∀ W, Below V.heap.size V W → W.cell? ⟨b, i, none⟩ = some (.int .i64 x) := fun W hW => by
        obtain ⟨b', off, e, hL⟩ := (AT.keep hW).get (List.getElem?_eq_some_iff.1 hx).1
        injection e with e
        injection e with e e2
        subst e
        subst e2
        have := hL.2 i x 0 _ hx rfl
        rw [Nat.zero_add] at this
        have e9 : i * intE.k + 0 = i := by show i * 1 + 0 = i; omega
        rw [e9] at this
        exact this
      have c0 := cx wr hB
      have CX := Lib.hid cx
      clear cx hx
      rcases hv : decide (volE p l = 0) with _ | _
      · have hv := of_decide_eq_false hv
        have CC := Lib.hid (conj_bad p l x hv)
        have CR := Lib.hid (rconj_bad p l x hv)
        have hvz : (volE p l != 0) = true := by simp [hv]
        generalize volE p l = e at *
        go_wp2_with (first
          | (go_at_call 30; refine (CC.out _).mono ?_; rintro _ _ ⟨rfl, rfl⟩)
          | (go_at_call 31; refine (CR.out _).mono ?_; rintro _ _ ⟨rfl, rfl⟩))
        exact ⟨⟨i + 1, by go_num, by omega, hB⟩, by simp [intOf]; omega⟩
      · have hv := of_decide_eq_true hv
        obtain ⟨P, H, rfl, rfl, hP, hH1, hH8⟩ := vol_ok hv
        have CC := Lib.hid (fun y h1 h2 => conj_any P H y hP hH1 hH8 h1 h2)
        have CR := Lib.hid (rconj_any P H x hP hH1 hH8 hx1 hx2)
        have CS := Lib.hid (fun c A n m h1 h2 h3 V hA => sheets_any P H hP hH1 hH8 c A n m h1 h2 h3 V hA)
        have hQ6 := qnT_leaves P H hP hH1 hH8
        rcases hin : inT P H x with _ | _
        · obtain ⟨e1, e2⟩ := conj_no hin
          have CX2 := Lib.hid (CC.out x hx1 hx2)
          rw [e1, e2] at CX2 CR
          clear CC CS
          obtain ⟨L, hL⟩ : ∃ L, 2 * H = L := ⟨_, rfl⟩
          rw [hL] at CX2 CR ⊢
          go_wp2_with (first
            | (go_at_call 30; refine (CX2.out _).mono ?_; rintro _ _ ⟨rfl, rfl⟩)
            | (go_at_call 31; refine (CR.out _).mono ?_; rintro _ _ ⟨rfl, rfl⟩))
          exact ⟨⟨i + 1, by go_num, by omega, hB⟩, by simp [intOf]; omega⟩
        · obtain ⟨xm, b2, j, rfl, e1, e2, e3, e4, e5, e6, e7, e8, e9, hm9, hb9⟩ := conj_law (p := P) hH1 hH8 hin
          have CX2 := Lib.hid (CC.out (xm : Int) hx1 hx2)
          have CB := Lib.hid (CC.out (b2 : Int) (by omega) (by omega))
          rw [e1, e2] at CX2 CR
          rw [e3, e4] at CB
          obtain ⟨sm, hsm⟩ : ∃ sm, b2 + xm = sm := ⟨_, rfl⟩
          have hs1 : (b2 : Int) + (xm : Int) = (sm : Int) := by omega
          have hs2 : (sm : Int).tmod 2 = 1 := by rw [Int.tmod_eq_emod_of_nonneg (by omega)]; omega
          have hs3 : sm ≤ 1200 := by omega
          have XA : Below wr.heap.size wr (wr.alloc (.cells #[.int .i64 (xm : Int)] 3)) := (Below.refl _ _).alloc (Nat.le_refl _) _
          have IA := (at_new intE wr #[.int .i64 (xm : Int)] [(xm : Int)] rfl).ints (by intro y hy; rw [List.mem_singleton.1 hy]; omega)
          have S1 := CS.out [(xm : Int)] _ 1 1 rfl (by omega) (by intro y hy; rw [List.mem_singleton.1 hy]; omega) _ IA
          rw [e5, e6] at S1
          have CI := Lib.hid (fun q c q' c' V (hA : At intE V q [(j : Int)]) (hB : At intE V q' [(j : Int)]) => sameInts_any [(j : Int)] [(j : Int)] q q' 1 c 1 c' rfl rfl (by omega) V hA hB)
          rw [decide_eq_true (show [(j : Int)] = [(j : Int)] from rfl)] at CI
          have E9 := Lib.hid (And.intro e7 e8)
          obtain ⟨L, hL⟩ : ∃ L, 2 * H = L := ⟨_, rfl⟩
          rw [hL] at CX2 CR CB S1 CS ⊢
          clear CC e1 e2 e3 e4 e5 e6 e7 e8 e9 hsm hin hv hQ6 hm9 hb9 IA
          go_upto_region 13 with (first
            | (go_at_call_of 30 (Value.int IntKind.i64 (b2 : Int)); refine (CB.out _).mono ?_; rintro _ _ ⟨rfl, rfl⟩)
            | (go_at_call 30; refine (CX2.out _).mono ?_; rintro _ _ ⟨rfl, rfl⟩)
            | (go_at_call 31; refine (CR.out _).mono ?_; rintro _ _ ⟨rfl, rfl⟩)
            | (go_at_call 32; refine S1.mono ?_; intro _ w5 h5; obtain ⟨q5, c5, rfl, _, A5, B5⟩ := h5.give (n := 1) rfl))
          have XB := link XA B5
          have hB5 : Below V.heap.size V w5 := hB.trans (XB.mono hB.size)
          have c5x := CX.out w5 hB5
          have XC : Below w5.heap.size w5 (w5.alloc (.cells #[.int .i64 (b2 : Int), .int .i64 (xm : Int)] 3)) := (Below.refl _ _).alloc (Nat.le_refl _) _
          have IC := (at_new intE w5 #[.int .i64 (b2 : Int), .int .i64 (xm : Int)] [(b2 : Int), (xm : Int)] rfl).ints (by intro y hy; simp at hy; omega)
          have S2 := CS.out [(b2 : Int), (xm : Int)] _ 2 2 rfl (by omega) (by intro y hy; simp at hy; omega) _ IC
          rw [E9.out.1, E9.out.2] at S2
          have A5 := A5.keep XC
          clear S1 CS IC XA B5 h5
          go_wp2_with (first
            | (go_at_call 32; refine S2.mono ?_; intro _ w6 h6; obtain ⟨q6, c6, rfl, _, A6, B6⟩ := h6.give (n := 1) rfl; have A5 := A5.keep B6; have hB6 := hB5.trans ((link XC B6).mono hB5.size); have c6x := CX.out w6 hB6)
            | (go_at_call 24; refine (CI.out _ _ _ _ _ A5 A6).mono ?_; rintro _ w7 ⟨rfl, B7⟩; have hB7 := hB6.trans (B7.mono hB6.size); have c7x := CX.out w7 hB7))
          exact ⟨⟨i + 1, by go_num, by omega, hB7⟩, by simp [intOf]; omega⟩
    · obtain rfl : i = 6 := by omega
      go_wp2_with (go_at_call 21; refine (CL.out _).mono ?_; rintro _ w9 ⟨rfl, B9⟩)
      go_ret
      exact ⟨rfl, (X0.trans (hB.mono X0.size)).trans (B9.mono (Nat.le_trans X0.size hB.size))⟩
end Go.Proofs.Ytahmpagolmodhaa
