/-
  ImposeCancels, walked.
-/
import Derived.Test.YtahmpagolmodhaaKh
namespace Go.Proofs.Ytahmpagolmodhaa
open Go.RowKit
set_option linter.unusedVariables false
set_option linter.unusedSimpArgs false

set_option maxHeartbeats 40000000 in
set_option maxRecDepth 100000 in
theorem imposeCancels_few (n m : Int) (n1 : -9223372036854775808 ≤ n) (n2 : n ≤ 9223372036854775807) (m1 : -9223372036854775808 ≤ m) (m2 : m ≤ 9223372036854775807)
    (A : Option Addr) (l : List Int) (ln lc : Nat) (hl : l.length = ln) (hlc : ln ≤ lc ∧ lc ≤ 9223372036854775807) (hli : ∀ x ∈ l, -9223372036854775808 ≤ x ∧ x ≤ 9223372036854775807)
    (at_ : Int) (t1 : -9223372036854775808 ≤ at_) (t2 : at_ ≤ 9223372036854775807)
    (R : Option Addr) (raw : List Int) (rn rc : Nat) (hr : raw.length = rn) (hrc : rn ≤ rc ∧ rc ≤ 9223372036854775807) (hri : ∀ x ∈ raw, -9223372036854775808 ≤ x ∧ x ≤ 9223372036854775807)
    (hln : ln ≤ 9) (w : World) (hA : IntsAt w A l) (hR : IntsAt w R raw) :
    Calls Try.prog 7 #[.int .i64 n, .int .i64 m, .slice A ln lc, .int .i64 at_, .slice R rn rc] w (Yes w) := by
  have CV := Lib.hid (volume_any n m n1 n2 m1 m2)
  have CL := Lib.hid (fun V => lives_any V)
  have CR := Lib.hid (fun x (hx : x ∈ l) k h1 h2 V => arnd x (hli x hx).1 (hli x hx).2 k h1 h2 V)
  have CT := Lib.hid (fun k h1 h2 V => arnd at_ t1 t2 k h1 h2 V)
  have HLX := Lib.hid hln
  clear hln
  have HLN := Lib.hid hl
  have HRN := Lib.hid hr
  have HRI := Lib.hid hri
  have HLI := Lib.hid hli
  clear hl hr hri hli
  go_enter Try.func7, Try.ntmps7
  go_upto_region 2 with (go_at_call 9; refine (CV.out _).mono ?_; rintro _ w1 ⟨p, K, rfl, hp1, hp2, hl1, hl2, B1⟩)
  have hA1 := hA.keep B1
  have hR1 := hR.keep B1
  clear CV hA hR
  obtain ⟨x0, hx0⟩ : ∃ x0, (if p < 0 then (0 : Int) else p) = x0 := ⟨_, rfl⟩
  have hx1 : 0 ≤ x0 := by rw [← hx0]; split <;> omega
  obtain ⟨q0, hq0⟩ : ∃ q : Nat, (if (999 : Int) < x0 then (999 : Int) else x0) = (q : Int) := ⟨(if (999 : Int) < x0 then (999 : Int) else x0).toNat, by split <;> omega⟩
  have hq9 : q0 ≤ 999 := by split at hq0 <;> omega
  have hq2 : (if x0 < 999 then x0 else (999 : Int)) = (q0 : Int) := by rw [← hq0]; split <;> split <;> omega
  have CC := Lib.hid (rcount_any q0 1 hq9 (by omega) (by omega))
  have hqn := qnT_leaves q0 1 hq9 (by omega) (by omega)
  generalize qnT q0 1 = qn at *
  go_upto_region 3 with (fail)
  go_upto_region 4 with (go_at_call 33; refine (CC.out _).mono ?_; rintro _ _ ⟨rfl, rfl⟩)
  obtain ⟨mst, hmst⟩ : ∃ mst, qn * 2 = mst := ⟨_, rfl⟩
  have hmz : (qn : Int) * 2 = (mst : Int) := by rw [← hmst]; omega
  have hm6 : mst ≤ 600 := by omega
  rw [hmz]
  clear CC hqn hmst hmz hq0 hq2 hx0 hx1 hq9
  go_wp2
  go_loopw [13, 15] (fun v i wr => SmRel w1 ln v i wr) (fun _ i _ => 9 - (intOf i).toNat)
  case atStart => exact ⟨0, [], rfl, by omega, by omega, rfl, by simp, OwnR.nil _ _ _, Below.refl _ _⟩
  case round =>
    obtain ⟨k, S, rfl, hk9, hkl, hS, hS2, hO, hB⟩ := hrel
    by_cases hgo : k < ln ∧ k < 9
    · obtain ⟨hkn, hk8⟩ := hgo
      have hkz : (k : Int) < (ln : Int) := by omega
      have hkz9 : (k : Int) < 9 := by omega
      obtain ⟨x, hx⟩ : ∃ x, l[k]? = some x := ⟨_, List.getElem?_eq_getElem (by rw [HLN.out]; exact hkn)⟩
      obtain ⟨ad, rfl, hlt, hc⟩ := (hA1.keep hB) (by intro e; rw [e] at hx; simp at hx)
      have c0 := (hc k x hx).1
      obtain ⟨m2, hm2⟩ : ∃ m2, mst + 2 = m2 := ⟨_, rfl⟩
      have hm2z : (mst : Int) + 2 = (m2 : Int) := by omega
      have CX := Lib.hid (CR.out x (List.mem_of_getElem? hx) m2 (by omega) (by omega))
      have HM2 := Lib.hid (show m2 ≤ 602 by omega)
      have HS := Lib.hid hS
      have hle : S.length ≤ 1000000000000 := by omega
      clear hx hc hm2 hA1 hR1 hS
      go_wp2_with (first
        | (go_at_call 25; refine (CX.out _).mono ?_; rintro _ _ ⟨r, hr, rfl, rfl⟩)
        | (at_builtin; refine push_el intE rfl (.tmp 53) (.tmp 61) rfl S (r : Int) _ rfl hO hB.size _ rfl _ rfl hle ?_; intro v6 W6 hO6 hB7 hR6))
      exact ⟨⟨k + 1, S ++ [(r : Int)], by go_num, by omega, by omega, by rw [List.length_append, HS.out]; rfl, by
        intro y hy
        rcases List.mem_append.1 hy with h | h
        · exact hS2 y h
        · rw [List.mem_singleton.1 h]; have := HM2.out; omega, hO6, hB.trans hB7⟩, by simp [intOf]; omega⟩
    · obtain ⟨q, c, e, hqc, hAS, hqn, _⟩ := hO.form
      have HSH : Hid ((q = none ∧ k = 0 ∧ c = 0) ∨ ∃ g, q = some ⟨g, 0, none⟩ ∧ k ≤ c ∧ c ≤ 9223372036854775807) := Lib.hid (by
        rcases own_shape hO with ⟨e1, e2⟩ | ⟨g, c', e1, h2, h3⟩
        · rw [e1] at e; injection e with a b d; exact Or.inl ⟨a.symm, by rw [← hS, e2]; rfl, d.symm⟩
        · rw [e1] at e; injection e with a b d; subst d; exact Or.inr ⟨g, a.symm, by rw [← hS]; exact h2, h3⟩)
      rw [hS] at e hqc
      subst e
      have HA11 : At intE (wr.alloc (.cells #[.int .i64 1, .int .i64 1] 3)) (some ⟨wr.heap.size, 0, none⟩) [1, 1] := at_new intE wr #[.int .i64 1, .int .i64 1] [1, 1] rfl
      have X2 : Below wr.heap.size wr (wr.alloc (.cells #[.int .i64 1, .int .i64 1] 3)) := (Below.refl _ _).alloc (Nat.le_refl _) _
      have hAS2 := hAS.keep X2
      have hS9 : k ≤ 9 := hk9
      have HS2 := Lib.hid hS2
      have HQN := Lib.hid hqn
      clear hqn hS2
      have hgo2 : (k : Int) = 9 ∨ (k : Int) = (ln : Int) := by omega
      rcases (show ¬ (k < ln) ∨ (k < ln ∧ k = 9) by omega) with hx | hx
      · have hkz : ¬ (k : Int) < (ln : Int) := by omega
        clear hgo hgo2
        go_upto_region 9 with (at_builtin; refine tail_el intE rfl (.tmp 65) (.tmp 66) rfl [1, 1] wr.heap.size 2 rfl rfl HA11 S q k c rfl hS hAS2 (by omega) ?_; intro g5 c5 W5 hA5 hc5 hB5)
        have G : At slE (World.alloc W5 (.cells #[.slice q k c, .slice R rn rc, .slice none 0 0, .slice (some ⟨g5, 0, none⟩) (2 + k) c5] 44)) (some ⟨W5.heap.size, 0, none⟩) [(q, k, c), (R, rn, rc), (none, 0, 0), (some ⟨g5, 0, none⟩, 2 + k, c5)] := at_new slE W5 _ _ rfl
        have X6 : Below W5.heap.size W5 (World.alloc W5 (.cells #[.slice q k c, .slice R rn rc, .slice none 0 0, .slice (some ⟨g5, 0, none⟩) (2 + k) c5] 44)) := (Below.refl _ _).alloc (Nat.le_refl _) _
        have I1 : IntsN W5 (q, k, c) := ⟨S, hS, (hAS2.keep hB5).ints (fun x hx => by have := HS2.out x hx; omega), by show k ≤ 9223372036854775807; omega, fun x hx => by have := HS2.out x hx; omega⟩
        have hB15 : Below w1.heap.size w1 W5 := (hB.trans (X2.mono hB.size)).trans (hB5.mono (Nat.le_trans hB.size X2.size))
        have I2 : IntsN W5 (R, rn, rc) := ⟨raw, HRN.out, hR1.keep hB15, by show rn ≤ 9223372036854775807; omega, HRI.out⟩
        have I4 : IntsN W5 (some ⟨g5, 0, none⟩, 2 + k, c5) := ⟨[1, 1] ++ S, by rw [List.length_append, hS]; rfl, hA5.ints (fun x hx => by
          rcases List.mem_append.1 hx with h | h
          · simp at h; omega
          · have := HS2.out x h; omega), by show 2 + k ≤ 9223372036854775807; omega, fun x hx => by
          rcases List.mem_append.1 hx with h | h
          · simp at h; omega
          · have := HS2.out x h; omega⟩
        generalize World.alloc W5 (.cells #[.slice q k c, .slice R rn rc, .slice none 0 0, .slice (some ⟨g5, 0, none⟩) (2 + k) c5] 44) = W6 at G X6 ⊢
        have HIS : Hid (∀ s ∈ [(q, k, c), (R, rn, rc), (none, 0, 0), (some ⟨g5, 0, none⟩, 2 + k, c5)], IntsN W6 s) := Lib.hid (by
          intro s hs
          simp only [List.mem_cons, List.not_mem_nil, or_false] at hs
          rcases hs with rfl | rfl | rfl | rfl
          · exact I1.keep X6
          · exact I2.keep X6
          · exact ⟨[], rfl, fun h => absurd rfl h, by show 0 ≤ 9223372036854775807; omega, by simp⟩
          · exact I4.keep X6)
        obtain ⟨lb, hlb⟩ : ∃ lb, W5.heap.size = lb := ⟨_, rfl⟩
        obtain ⟨ss, hss⟩ : ∃ ss, [(q, k, c), (R, rn, rc), (none, 0, 0), (some ⟨g5, 0, none⟩, 2 + k, c5)] = ss := ⟨_, rfl⟩
        have hs4 : ss.length = 4 := by rw [← hss]; rfl
        have HB6 : Hid (Below w1.heap.size w1 W6) := Lib.hid (hB15.trans (X6.mono hB15.size))
        have HAS6 : Hid (At intE W6 q S) := Lib.hid ((hAS2.keep hB5).keep X6)
        rw [hss] at G HIS
        rw [hlb] at G ⊢
        have HS4 := Lib.hid hs4
        have HK := Lib.hid hS
        clear hlb hss hs4 I1 I2 I4 X6 hB15 hB5 hA5 HA11 X2 hAS2 hAS hO hB hA1 hR1 hS CR
        rcases hv : decide (volE p K = 0) with _ | _
        · have hv := of_decide_eq_false hv
          have CS := Lib.hid (fun q n c V => sheets_bad p K hv q n c V)
          have CQ := Lib.hid (fun q n c V => rsheets_bad p K hv q n c V)
          have CI := Lib.hid (fun q c q' c' V => sameInts_any [] [] q q' 0 c 0 c' rfl rfl (by omega) V (fun h => absurd rfl h) (fun h => absurd rfl h))
          rw [decide_eq_true (show ([] : List Int) = [] from rfl)] at CI
          have hvz : (volE p K != 0) = true := by simp [hv]
          have hve : (volE p K == 0) = false := by simp [hv]
          generalize volE p K = e at *
          go_wp2
          go_loopw [17] (fun v wx => LsRel W6 v wx) (fun v _ => 4 - (intOf v).toNat)
          case atStart => exact ⟨0, rfl, by omega, Below.refl _ _⟩
          case round =>
            obtain ⟨i, rfl, hi, hBx⟩ := hrel
            rcases Nat.lt_or_ge i 4 with hlt | hge
            · have hltz : (i : Int) < 4 := by omega
              obtain ⟨⟨sq, sn, sc⟩, hs⟩ : ∃ s, ss[i]? = some s := ⟨_, List.getElem?_eq_getElem (by rw [HS4.out]; exact hlt)⟩
              have HC : Hid (∀ V, Below W6.heap.size W6 V → V.cell? ⟨lb, i, none⟩ = some (.slice sq sn sc)) := Lib.hid (fun V hV => by
                obtain ⟨b', off, e, hL⟩ := (G.keep hV).get (List.getElem?_eq_some_iff.1 hs).1
                injection e with e
                injection e with e e2
                subst e
                subst e2
                have := hL.2 i _ 0 _ hs rfl
                rwa [show slE.k = 1 from rfl, Nat.mul_one, Nat.add_zero, Nat.zero_add] at this)
              have c0 := HC.out _ hBx
              obtain ⟨L, _, _, hsn, _⟩ := HIS.out _ (List.mem_of_getElem? hs)
              have hsn : sn ≤ 9223372036854775807 := hsn
              have hnn : ¬ (sn : Int) < 0 := by omega
              clear hs G
              go_wp2_with (first
                | (go_at_call 32; refine (CS.out _ _ _ _).mono ?_; intro _ w5 h5; obtain ⟨q5, c5, rfl, _, A5, B5⟩ := h5.give (n := 0) rfl; have hB5 := hBx.trans (B5.mono hBx.size); have c5x := HC.out w5 hB5)
                | (go_at_call 34; refine (CQ.out _ _ _ _).mono ?_; intro _ w6 h6; obtain ⟨q6, c6, rfl, _, A6, B6⟩ := h6.give (n := 0) rfl; have hB6 := hB5.trans (B6.mono hB5.size); have c6x := HC.out w6 hB6)
                | (go_at_call 24; refine (CI.out _ _ _ _ _).mono ?_; rintro _ w7 ⟨rfl, B7⟩; have hB7 := hB6.trans (B7.mono hB6.size); have c7x := HC.out w7 hB7))
              exact ⟨⟨i + 1, by go_num, by omega, hB7⟩, by simp [intOf]; omega⟩
            · obtain rfl : i = 4 := by omega
              obtain ⟨k1, hk1⟩ : ∃ k1, k + 1 = k1 := ⟨_, rfl⟩
              have hk1z : (k : Int) + 1 = (k1 : Int) := by omega
              have CA := Lib.hid (CT.out k1 (by omega) (by omega))
              have HK1 := Lib.hid hk1
              have HBX := Lib.hid hBx
              clear G hk1 hBx
              go_upto_region 17 with (go_at_call 25; refine (CA.out _).mono ?_; rintro _ _ ⟨j, hj, rfl, rfl⟩)
              clear CA CT
              rcases HSH.out with ⟨rfl, rfl, rfl⟩ | ⟨g, rfl, hgc, hgc2⟩
              · obtain rfl : j = 0 := by have := HK1.out; omega
                go_wp2_with (first
                  | (go_at_call 32; refine (CS.out _ _ _ _).mono ?_; intro _ w7 h7; obtain ⟨q7, c7, rfl, _, A7, B7⟩ := h7.give (n := 0) rfl; have hB7 := HBX.out.trans (B7.mono HBX.out.size))
                  | (go_at_call 32; refine (CS.out _ _ _ _).mono ?_; intro _ w8 h8; obtain ⟨q8, c8, rfl, _, A8, B8⟩ := h8.give (n := 0) rfl; have hB8 := hB7.trans (B8.mono hB7.size))
                  | (go_at_call 32; refine (CS.out _ _ _ _).mono ?_; intro _ w10 h10; obtain ⟨q10, c10, rfl, _, A10, B10⟩ := h10.give (n := 0) rfl; have hB10 := hB8.trans (B10.mono hB8.size))
                  | (go_at_call 21; refine (CL.out _).mono ?_; rintro _ w9 ⟨rfl, B9⟩))
                go_ret
                exact ⟨rfl, link (link (link B1 HB6.out) hB10) B9⟩
              · have hjk : j ≤ k := by have := HK1.out; omega
                have hjc : j ≤ c := by omega
                have hjkz : (j : Int) ≤ (k : Int) := by omega
                have hjcz : (j : Int) ≤ (c : Int) := by omega
                have hkcz : (k : Int) ≤ (c : Int) := by omega
                obtain ⟨nj, hnj⟩ : ∃ nj, k - j = nj := ⟨_, rfl⟩
                obtain ⟨cj, hcj⟩ : ∃ cj, c - j = cj := ⟨_, rfl⟩
                rcases Nat.lt_or_ge j c with hjl | hjl
                · have hne : ¬ (j : Int) = (c : Int) := by omega
                  have hne2 : ¬ j = c := by omega
                  go_wp2_with (first
                    | (go_at_call 32; refine (CS.out _ _ _ _).mono ?_; intro _ w7 h7; obtain ⟨q7, c7, rfl, _, A7, B7⟩ := h7.give (n := 0) rfl; have hB7 := HBX.out.trans (B7.mono HBX.out.size))
                    | (go_at_call 32; refine (CS.out _ _ _ _).mono ?_; intro _ w8 h8; obtain ⟨q8, c8, rfl, _, A8, B8⟩ := h8.give (n := 0) rfl; have hB8 := hB7.trans (B8.mono hB7.size))
                    | (go_at_call 32; refine (CS.out _ _ _ _).mono ?_; intro _ w10 h10; obtain ⟨q10, c10, rfl, _, A10, B10⟩ := h10.give (n := 0) rfl; have hB10 := hB8.trans (B10.mono hB8.size))
                    | (go_at_call 21; refine (CL.out _).mono ?_; rintro _ w9 ⟨rfl, B9⟩))
                  go_ret
                  exact ⟨rfl, link (link (link B1 HB6.out) hB10) B9⟩
                · obtain rfl : j = c := by omega
                  go_wp2_with (first
                    | (go_at_call 32; refine (CS.out _ _ _ _).mono ?_; intro _ w7 h7; obtain ⟨q7, c7, rfl, _, A7, B7⟩ := h7.give (n := 0) rfl; have hB7 := HBX.out.trans (B7.mono HBX.out.size))
                    | (go_at_call 32; refine (CS.out _ _ _ _).mono ?_; intro _ w8 h8; obtain ⟨q8, c8, rfl, _, A8, B8⟩ := h8.give (n := 0) rfl; have hB8 := hB7.trans (B8.mono hB7.size))
                    | (go_at_call 32; refine (CS.out _ _ _ _).mono ?_; intro _ w10 h10; obtain ⟨q10, c10, rfl, _, A10, B10⟩ := h10.give (n := 0) rfl; have hB10 := hB8.trans (B10.mono hB8.size))
                    | (go_at_call 21; refine (CL.out _).mono ?_; rintro _ w9 ⟨rfl, B9⟩))
                  go_ret
                  exact ⟨rfl, link (link (link B1 HB6.out) hB10) B9⟩
        · have hv := of_decide_eq_true hv
          obtain ⟨P, H, rfl, rfl, hP, hH1, hH8⟩ := vol_ok hv
          have CS := Lib.hid (fun c A n m h1 h2 h3 V hA => sheets_any P H hP hH1 hH8 c A n m h1 h2 h3 V hA)
          have CQ := Lib.hid (fun c A n m h1 h2 h3 V hA => rsheets_any P H hP hH1 hH8 c A n m h1 h2 h3 V hA)
          have HF := Lib.hid (fun c => shsL_few hP hH1 hH8 c)
          have HL := Lib.hid (fun c => shsL_len (p := P) hH1 hH8 c)
          obtain ⟨K2, hK2⟩ : ∃ K2, 2 * H = K2 := ⟨_, rfl⟩
          rw [hK2] at CS CQ ⊢
          have HK2 := Lib.hid hK2
          clear hv hK2
          go_wp2
          go_loopw [17] (fun v wx => LsRel W6 v wx) (fun v _ => 4 - (intOf v).toNat)
          case atStart => exact ⟨0, rfl, by omega, Below.refl _ _⟩
          case round =>
            obtain ⟨i, rfl, hi, hBx⟩ := hrel
            rcases Nat.lt_or_ge i 4 with hlt | hge
            · have hltz : (i : Int) < 4 := by omega
              obtain ⟨⟨sq, sn, sc⟩, hs⟩ : ∃ s, ss[i]? = some s := ⟨_, List.getElem?_eq_getElem (by rw [HS4.out]; exact hlt)⟩
              have HC : Hid (∀ V, Below W6.heap.size W6 V → V.cell? ⟨lb, i, none⟩ = some (.slice sq sn sc)) := Lib.hid (fun V hV => by
                obtain ⟨b', off, e, hL⟩ := (G.keep hV).get (List.getElem?_eq_some_iff.1 hs).1
                injection e with e
                injection e with e e2
                subst e
                subst e2
                have := hL.2 i _ 0 _ hs rfl
                rwa [show slE.k = 1 from rfl, Nat.mul_one, Nat.add_zero, Nat.zero_add] at this)
              have c0 := HC.out _ hBx
              obtain ⟨L, hLn, hLA, hsn, hLi⟩ := HIS.out _ (List.mem_of_getElem? hs)
              have hLn : L.length = sn := hLn
              have hLA : IntsAt W6 sq L := hLA
              have hsn : sn ≤ 9223372036854775807 := hsn
              have hMf := HF.out L
              have hMl := HL.out L
              have S1 := Lib.hid (fun V (hB : Below W6.heap.size W6 V) => CS.out L sq sn sc hLn hsn hLi V (hLA.keep hB))
              have S2 := Lib.hid (fun V (hB : Below W6.heap.size W6 V) => CQ.out L sq sn sc hLn hsn hLi V (hLA.keep hB))
              generalize shsE P H L = E at *
              generalize shsL P H L = M at *
              obtain ⟨N, hN⟩ : ∃ N, M.length = N := ⟨_, rfl⟩
              have HN := Lib.hid hN
              have CI := Lib.hid (fun q c q' c' V hA hB => sameInts_any M M q q' N c N c' hN hN (by omega) V hA hB)
              rw [decide_eq_true (show M = M from rfl)] at CI
              have hNs : ¬ (N : Int) > (sn : Int) := by omega
              clear hs G hLA hLi hLn hMf hMl hN CS CQ
              go_wp2_with (first
                | (go_at_call 32; refine (S1.out _ hBx).mono ?_; intro _ w5 h5; obtain ⟨q5, c5, rfl, _, A5, B5⟩ := h5.give HN.out; have hB5 := hBx.trans (B5.mono hBx.size); have c5x := HC.out w5 hB5)
                | (go_at_call 34; refine (S2.out _ hB5).mono ?_; intro _ w6 h6; obtain ⟨q6, c6, rfl, _, A6, B6⟩ := h6.give HN.out; have hB6 := hB5.trans (B6.mono hB5.size); have c6x := HC.out w6 hB6)
                | (go_at_call 24; refine (CI.out _ _ _ _ _ (A5.keep B6) A6).mono ?_; rintro _ w7 ⟨rfl, B7⟩; have hB7 := hB6.trans (B7.mono hB6.size); have c7x := HC.out w7 hB7))
              exact ⟨⟨i + 1, by go_num, by omega, hB7⟩, by simp [intOf]; omega⟩
            · obtain rfl : i = 4 := by omega
              obtain ⟨k1, hk1⟩ : ∃ k1, k + 1 = k1 := ⟨_, rfl⟩
              have hk1z : (k : Int) + 1 = (k1 : Int) := by omega
              have CA := Lib.hid (CT.out k1 (by omega) (by omega))
              have HK1 := Lib.hid hk1
              have HBX := Lib.hid hBx
              clear G hk1 hBx
              go_upto_region 17 with (go_at_call 25; refine (CA.out _).mono ?_; rintro _ _ ⟨j, hj, rfl, rfl⟩)
              clear CA CT
              rcases HSH.out with ⟨rfl, rfl, rfl⟩ | ⟨g, rfl, hgc, hgc2⟩
              · obtain rfl : j = 0 := by have := HK1.out; omega
                have CE0 := Lib.hid (fun V => CS.out [] none 0 0 rfl (by omega) (by simp) V (fun h => absurd rfl h))
                rw [show shsE P H [] = 0 from rfl, List.eq_nil_of_length_eq_zero (Nat.le_zero.1 (HL.out []))] at CE0
                clear CS CQ HF HL
                go_upto_region 22 with (first
                  | (go_at_call 32; refine (CE0.out _).mono ?_; intro _ w7 h7; obtain ⟨q7, c7, rfl, _, A7, B7⟩ := h7.give (n := 0) rfl; have hB7 := HBX.out.trans (B7.mono HBX.out.size))
                  | (go_at_call 32; refine (CE0.out _).mono ?_; intro _ w8 h8; obtain ⟨q8, c8, rfl, _, A8, B8⟩ := h8.give (n := 0) rfl; have hB8 := hB7.trans (B8.mono hB7.size))
                  | (go_at_call 32; refine (CE0.out _).mono ?_; intro _ w10 h10; obtain ⟨q10, c10, rfl, _, A10, B10⟩ := h10.give (n := 0) rfl; have hB10 := hB8.trans (B10.mono hB8.size)))
                have HB10 := Lib.hid hB10
                clear CE0 A7 A8 A10 B7 B8 B10 hB7 hB8 hB10 h7 h8 h10
                go_wp2
                go_loopw [29] (fun v wx => ZRel w10 v wx) (fun _ _ => 0)
                case atStart => exact ⟨rfl, Below.refl _ _⟩
                case round =>
                  obtain ⟨rfl, hBy⟩ := hrel
                  have XE := (Below.refl wr.heap.size wr).alloc (Nat.le_refl _) (.cells #[] 3)
                  go_upto_region 28 with (first
                    | (at_builtin; refine none_el intE rfl (.tmp 205) (.tmp 206) rfl wr.heap.size 0 rfl q7 c7 rfl ?_)
                    | (at_builtin; refine none_el intE rfl (.tmp 207) (.tmp 208) rfl wr.heap.size 0 rfl q8 c8 rfl ?_))
                  have XY := hBy.trans (XE.mono hBy.size)
                  generalize World.alloc wr (.cells #[] 3) = wz at XY ⊢
                  generalize wr.heap.size = gz
                  clear XE hBy
                  go_wp2
                  go_loopw [31] (fun v wx => ZRel w10 v wx) (fun _ _ => 0)
                  case atStart => exact ⟨rfl, XY⟩
                  case round =>
                    obtain ⟨rfl, hBz⟩ := hrel
                    have HBZ := Lib.hid hBz
                    go_wp2_with (go_at_call 21; refine (CL.out _).mono ?_; rintro _ w9 ⟨rfl, B9⟩)
                    go_ret
                    exact ⟨rfl, link (link (link (link B1 HB6.out) HB10.out) HBZ.out) B9⟩
              · have hjk : j ≤ k := by have := HK1.out; omega
                have hjc : j ≤ c := by omega
                have hjkz : (j : Int) ≤ (k : Int) := by omega
                have hjcz : (j : Int) ≤ (c : Int) := by omega
                have hkcz : (k : Int) ≤ (c : Int) := by omega
                obtain ⟨nj, hnj⟩ : ∃ nj, k - j = nj := ⟨_, rfl⟩
                obtain ⟨cj, hcj⟩ : ∃ cj, c - j = cj := ⟨_, rfl⟩
                have HSI : ∀ x ∈ S, -9223372036854775808 ≤ x ∧ x ≤ 9223372036854775807 := fun x hx => by have := HS2.out x hx; omega
                have HSA : ∀ V, Below W6.heap.size W6 V → IntsAt V (some ⟨g, 0, none⟩) S := fun V hV => (HAS6.out.keep hV).ints HSI
                have T1 := Lib.hid (fun V hV => CS.out (S.take j) (some ⟨g, 0, none⟩) j c (by rw [List.length_take, HK.out]; omega) (by omega) (fun x hx => HSI x (List.mem_of_mem_take hx)) V (ints_take (HSA V hV) j))
                have T3 := Lib.hid (fun V hV => CS.out S (some ⟨g, 0, none⟩) k c HK.out (by omega) HSI V (HSA V hV))
                have HE := Lib.hid (shsE_append P H (S.take j) (S.drop j))
                rw [List.take_append_drop] at HE
                have hEt := Lib.hid (shsE_or P H (S.take j))
                have hEd := Lib.hid (shsE_or P H (S.drop j))
                have hEs := Lib.hid (shsE_or P H S)
                rcases Nat.lt_or_ge j c with hjl | hjl
                · skip
                  have hne : ¬ (j : Int) = (c : Int) := by omega
                  have hne2 : ¬ j = c := by omega
                  have T2 := Lib.hid (fun V hV => CS.out (S.drop j) (some ⟨g, j, none⟩) nj cj (by rw [List.length_drop, HK.out]; exact hnj) (by omega) (fun x hx => HSI x (List.mem_of_mem_drop hx)) V (ints_drop (HSA V hV) j))
                  clear CS CQ
                  have HMB := Lib.hid (fun (e1 : shsE P H (S.take j) = 0) (e2 : shsE P H (S.drop j) = 0) (z : Int) => mem_both e1 e2 (z := z))
                  rw [List.take_append_drop] at HMB
                  have HUP := Lib.hid (fun (i : Nat) (x y : Int) (hx : (shsL P H S)[i]? = some x) (hy : (shsL P H S)[i + 1]? = some y) => shsL_up hx hy)
                  have l1 := HF.out (S.take j)
                  have l2 := HF.out (S.drop j)
                  have l3 := HF.out S
                  obtain ⟨Nt, hNt⟩ : ∃ N, (shsL P H (S.take j)).length = N := ⟨_, rfl⟩
                  obtain ⟨Nd, hNd⟩ : ∃ N, (shsL P H (S.drop j)).length = N := ⟨_, rfl⟩
                  obtain ⟨Ns, hNs⟩ : ∃ N, (shsL P H S).length = N := ⟨_, rfl⟩
                  rw [hNt] at l1
                  rw [hNd] at l2
                  rw [hNs] at l3
                  have HNt := Lib.hid hNt
                  have HNd := Lib.hid hNd
                  have HNs := Lib.hid hNs
                  clear hNt hNd hNs HSI HSA HF HL
                  generalize shsE P H (S.take j) = Et at *
                  generalize shsE P H (S.drop j) = Ed at *
                  generalize shsE P H S = Es at *
                  generalize shsL P H (S.take j) = Mt at *
                  generalize shsL P H (S.drop j) = Md at *
                  generalize shsL P H S = Ms at *
                  go_upto_region 18 with (go_at_call 32; refine (T1.out _ HBX.out).mono ?_; intro _ w7 h7; obtain ⟨q7, c7, rfl, k7, A7, B7⟩ := h7.give HNt.out; have hB7 := HBX.out.trans (B7.mono HBX.out.size))
                  clear T1 h7
                  go_upto_region 19 with (go_at_call 32; refine (T2.out _ hB7).mono ?_; intro _ w8 h8; obtain ⟨q8, c8, rfl, k8, A8, B8⟩ := h8.give HNd.out; have hB8 := hB7.trans (B8.mono hB7.size))
                  clear T2 h8
                  go_upto_region 20 with (go_at_call 32; refine (T3.out _ hB8).mono ?_; intro _ w10 h10; obtain ⟨q10, c10, rfl, k10, A10, B10⟩ := h10.give HNs.out; have hB10 := hB8.trans (B10.mono hB8.size))
                  clear T3 h10 hjc hjcz hkcz hcj hnj hjk hjkz
                  rcases hEt.out with rfl | rfl
                  · rcases hEd.out with rfl | rfl
                    · obtain rfl : Es = 0 := HE.out.2 ⟨rfl, rfl⟩
                      have HMZ := Lib.hid (HMB.out rfl rfl)
                      clear HE hEt hEd hEs HMB
                      have A7 := (A7.keep B8).keep B10
                      have A8 := A8.keep B10
                      have HB10 := Lib.hid hB10
                      have HA7 := Lib.hid A7
                      have HA8 := Lib.hid A8
                      have HA10 := Lib.hid A10
                      clear A7 A8 A10 B7 B8 B10 hB7 hB8 hB10
                      go_wp2
                      go_loopw [29] (fun v wx => ARel w10 Ns v wx) (fun v _ => Ns - (intOf v).toNat)
                      case atStart => exact ⟨0, rfl, Nat.zero_le _, Below.refl _ _⟩
                      case round =>
                        obtain ⟨i, rfl, hi, hBy⟩ := hrel
                        rcases Nat.lt_or_ge i Ns with hlt | hge
                        · have hltz : (i : Int) < (Ns : Int) := by omega
                          obtain ⟨x, hx⟩ : ∃ x, Ms[i]? = some x := ⟨_, List.getElem?_eq_getElem (by rw [HNs.out]; exact hlt)⟩
                          obtain ⟨b, off, rfl, hL⟩ := HA10.out.get (i := i) (by rw [HNs.out]; exact hlt)
                          have CX := Lib.hid (fun (W : World) (hW : Below w10.heap.size w10 W) => lay_int (hL.keep hW) hx)
                          have HT := Lib.hid (fun V (hV : Below w10.heap.size w10 V) => has_any Mt x q7 Nt c7 HNt.out (by omega) V (HA7.out.keep hV))
                          have HD := Lib.hid (fun V (hV : Below w10.heap.size w10 V) => has_any Md x q8 Nd c8 HNd.out (by omega) V (HA8.out.keep hV))
                          have hm := (HMZ.out x).1 (List.mem_of_getElem? hx)
                          have hm : decide (x ∈ Mt) = true ∨ decide (x ∈ Md) = true := by simpa using hm
                          generalize decide (x ∈ Mt) = f1 at HT hm
                          generalize decide (x ∈ Md) = f2 at HD hm
                          rcases Nat.eq_zero_or_pos i with hi0 | hi0
                          · have hgt : ¬ (i : Int) > 0 := by omega
                            clear hL hx hi0
                            go_upto_region 25 with (fail)
                            rcases f1 with _ | _
                            · obtain rfl : f2 = true := by rcases hm with h | h; exact absurd h (by decide); exact h
                              clear hm
                              refine wp_region_held_drew (S := fun w' => Below w10.heap.size w10 w') (by kernel_rfl) (below_drew (hBy)) (fun _ => ?_)
                              have hHeld : Below w10.heap.size w10 wr.drew := below_drew (hBy)
                              generalize wr.drew = V0 at hHeld ⊢
                              refine wt (i := 0) (oi := ⟨some 172, .move (.tmp 23), 44, "law.go:178", #[], none⟩) (v := .slice q7 Nt c7) (Or.inl ⟨by rfl, fun w' hSw => by go_simp⟩) hHeld ?_
                              try simp only [zP, zQ, zS, zZ, zC]
                              refine wt (i := 1) (oi := ⟨some 173, .move (.tmp 27), 44, "law.go:178", #[], none⟩) (v := .slice (some ⟨b, off, none⟩) Ns c10) (Or.inl ⟨by rfl, fun w' hSw => by go_simp⟩) hHeld ?_
                              try simp only [zP, zQ, zS, zZ, zC]
                              refine wt (i := 2) (oi := ⟨some 174, .move (.tmp 29), 3, "law.go:178", #[], none⟩) (v := .int .i64 (i : Int)) (Or.inl ⟨by rfl, fun w' hSw => by go_simp⟩) hHeld ?_
                              try simp only [zP, zQ, zS, zZ, zC]
                              refine wt (i := 3) (oi := ⟨some 175, .indexAddr 44 (.tmp 173) (.tmp 174), 0, "law.go:178", #[⟨1, .data⟩, ⟨2, .data⟩], none⟩) (v := .pointer (some ⟨b, off + i, none⟩)) (Or.inl ⟨by rfl, fun w' hSw => by go_simp⟩) hHeld ?_
                              try simp only [zP, zQ, zS, zZ, zC]
                              refine wt (i := 4) (oi := ⟨some 176, .load 3 (.tmp 175), 3, "law.go:178", #[⟨3, .data⟩], none⟩) (v := .int .i64 x) (Or.inl ⟨by rfl, fun w' hSw => by have c9 := CX.out w' hSw; go_simp⟩) hHeld ?_
                              try simp only [zP, zQ, zS, zZ, zC]
                              refine wpAnyH_ready (rs := [5]) (by kernel_rfl) (by simp) ?_
                              refine AllReadyH.cons (o := ⟨some 177, .call { callee := .value (.func 35), args := #[.tmp 172, .tmp 176], argTypes := #[44, 3] }, 4, "law.go:178", #[⟨0, .data⟩, ⟨4, .data⟩], none⟩) rfl (fun K hK => ?_) AllReadyH.nil
                              rw [if_pos (by rfl)]
                              go_simp
                              refine (HT.out _ hHeld).mono ?_
                              rintro _ _ ⟨rfl, rfl⟩
                              dsimp only
                              refine hK.out _ _ (hHeld) (fun hHeld => ?_)
                              clear hK K
                              try simp only [zP, zQ, zS, zZ, zC]
                              refine wt (i := 6) (oi := ⟨some 178, .unOp .not 4 (.tmp 177), 4, "law.go:178", #[⟨5, .data⟩], none⟩) (v := .bool true) (Or.inl ⟨by rfl, fun w' hSw => by go_simp⟩) hHeld ?_
                              try simp only [zP, zQ, zS, zZ, zC]
                              refine wt (i := 7) (oi := ⟨some 179, .move (.tmp 178), 4, "law.go:178", #[⟨6, .data⟩, ⟨5, .chain⟩], none⟩) (v := .bool true) (Or.inl ⟨by rfl, fun w' hSw => by go_simp⟩) hHeld ?_
                              try simp only [zP, zQ, zS, zZ, zC]
                              refine wt (i := 8) (oi := ⟨some 180, .move (.tmp 25), 44, "law.go:178", #[⟨7, .guard⟩], some (7, true)⟩) (v := .slice q8 Nd c8) (Or.inl ⟨by rfl, fun w' hSw => by go_simp⟩) hHeld ?_
                              try simp only [zP, zQ, zS, zZ, zC]
                              refine wt (i := 9) (oi := ⟨some 181, .move (.tmp 27), 44, "law.go:178", #[⟨7, .guard⟩], some (7, true)⟩) (v := .slice (some ⟨b, off, none⟩) Ns c10) (Or.inl ⟨by rfl, fun w' hSw => by go_simp⟩) hHeld ?_
                              try simp only [zP, zQ, zS, zZ, zC]
                              refine wt (i := 10) (oi := ⟨some 182, .move (.tmp 29), 3, "law.go:178", #[⟨7, .guard⟩], some (7, true)⟩) (v := .int .i64 (i : Int)) (Or.inl ⟨by rfl, fun w' hSw => by go_simp⟩) hHeld ?_
                              try simp only [zP, zQ, zS, zZ, zC]
                              refine wt (i := 11) (oi := ⟨some 183, .indexAddr 44 (.tmp 181) (.tmp 182), 0, "law.go:178", #[⟨9, .data⟩, ⟨10, .data⟩, ⟨7, .guard⟩], some (7, true)⟩) (v := .pointer (some ⟨b, off + i, none⟩)) (Or.inl ⟨by rfl, fun w' hSw => by go_simp⟩) hHeld ?_
                              try simp only [zP, zQ, zS, zZ, zC]
                              refine wt (i := 12) (oi := ⟨some 184, .load 3 (.tmp 183), 3, "law.go:178", #[⟨11, .data⟩, ⟨7, .guard⟩], some (7, true)⟩) (v := .int .i64 x) (Or.inl ⟨by rfl, fun w' hSw => by have c9 := CX.out w' hSw; go_simp⟩) hHeld ?_
                              try simp only [zP, zQ, zS, zZ, zC]
                              refine wpAnyH_ready (rs := [13]) (by kernel_rfl) (by simp) ?_
                              refine AllReadyH.cons (o := ⟨some 185, .call { callee := .value (.func 35), args := #[.tmp 180, .tmp 184], argTypes := #[44, 3] }, 4, "law.go:178", #[⟨8, .data⟩, ⟨12, .data⟩, ⟨7, .chain⟩, ⟨7, .guard⟩], some (7, true)⟩) rfl (fun K hK => ?_) AllReadyH.nil
                              rw [if_pos (by rfl)]
                              go_simp
                              refine (HD.out _ hHeld).mono ?_
                              rintro _ _ ⟨rfl, rfl⟩
                              dsimp only
                              refine hK.out _ _ (hHeld) (fun hHeld => ?_)
                              clear hK K
                              try simp only [zP, zQ, zS, zZ, zC]
                              refine wt (i := 14) (oi := ⟨some 186, .unOp .not 4 (.tmp 185), 4, "law.go:178", #[⟨13, .data⟩, ⟨7, .guard⟩], some (7, true)⟩) (v := .bool false) (Or.inl ⟨by rfl, fun w' hSw => by go_simp⟩) hHeld ?_
                              try simp only [zP, zQ, zS, zZ, zC]
                              refine wt (i := 15) (oi := ⟨some 187, .pick (.tmp 179) (.tmp 186) (.const (Value.bool false)), 4, "law.go:178", #[⟨7, .data⟩, ⟨14, .data⟩], none⟩) (v := .bool false) (Or.inl ⟨by rfl, fun w' hSw => by go_simp⟩) hHeld ?_
                              try simp only [zP, zQ, zS, zZ, zC]
                              refine wt (i := 16) (oi := ⟨some 188, .move (.tmp 187), 4, "law.go:178", #[⟨15, .data⟩, ⟨13, .chain⟩], none⟩) (v := .bool false) (Or.inl ⟨by rfl, fun w' hSw => by go_simp⟩) hHeld ?_
                              try simp only [zP, zQ, zS, zZ, zC]
                              refine wt (i := 17) (oi := ⟨some 189, .move (.tmp 29), 3, "law.go:178", #[⟨16, .guard⟩], some (16, false)⟩) (v := .int .i64 (i : Int)) (Or.inl ⟨by rfl, fun w' hSw => by go_simp⟩) hHeld ?_
                              try simp only [zP, zQ, zS, zZ, zC]
                              refine wt (i := 18) (oi := ⟨some 190, .binOp .gtr 3 (.tmp 189) (.const (Value.int IntKind.i64 0)) 3, 4, "law.go:178", #[⟨17, .data⟩, ⟨16, .guard⟩], some (16, false)⟩) (v := .bool false) (Or.inl ⟨by rfl, fun w' hSw => by go_simp; omega⟩) hHeld ?_
                              try simp only [zP, zQ, zS, zZ, zC]
                              refine wt (i := 19) (oi := ⟨some 191, .move (.tmp 190), 4, "law.go:178", #[⟨18, .data⟩, ⟨16, .chain⟩, ⟨16, .guard⟩], some (16, false)⟩) (v := .bool false) (Or.inl ⟨by rfl, fun w' hSw => by go_simp⟩) hHeld ?_
                              try simp only [zP, zQ, zS, zZ, zC]
                              refine wt (i := 20) (oi := ⟨some 192, .move (.tmp 27), 44, "law.go:178", #[⟨19, .guard⟩], some (19, true)⟩) (v := undef) (Or.inr ⟨by rfl, rfl⟩) hHeld ?_
                              try simp only [zP, zQ, zS, zZ, zC]
                              refine wt (i := 21) (oi := ⟨some 193, .move (.tmp 29), 3, "law.go:178", #[⟨19, .guard⟩], some (19, true)⟩) (v := undef) (Or.inr ⟨by rfl, rfl⟩) hHeld ?_
                              try simp only [zP, zQ, zS, zZ, zC]
                              refine wt (i := 22) (oi := ⟨some 194, .binOp .sub 3 (.tmp 193) (.const (Value.int IntKind.i64 1)) 3, 3, "law.go:178", #[⟨21, .data⟩, ⟨19, .guard⟩], some (19, true)⟩) (v := undef) (Or.inr ⟨by rfl, rfl⟩) hHeld ?_
                              try simp only [zP, zQ, zS, zZ, zC]
                              refine wt (i := 23) (oi := ⟨some 195, .call { callee := .builtin .max, args := #[.tmp 194, .const (Value.int IntKind.i64 0)], argTypes := #[3, 3] }, 3, "law.go:178", #[⟨22, .data⟩, ⟨19, .guard⟩], some (19, true)⟩) (v := undef) (Or.inr ⟨by rfl, rfl⟩) hHeld ?_
                              try simp only [zP, zQ, zS, zZ, zC]
                              refine wt (i := 24) (oi := ⟨some 196, .indexAddr 44 (.tmp 192) (.tmp 195), 0, "law.go:178", #[⟨20, .data⟩, ⟨23, .data⟩, ⟨19, .guard⟩], some (19, true)⟩) (v := undef) (Or.inr ⟨by rfl, rfl⟩) hHeld ?_
                              try simp only [zP, zQ, zS, zZ, zC]
                              refine wt (i := 25) (oi := ⟨some 197, .load 3 (.tmp 196), 3, "law.go:178", #[⟨24, .data⟩, ⟨19, .guard⟩], some (19, true)⟩) (v := undef) (Or.inr ⟨by rfl, rfl⟩) hHeld ?_
                              try simp only [zP, zQ, zS, zZ, zC]
                              refine wt (i := 26) (oi := ⟨some 198, .move (.tmp 27), 44, "law.go:178", #[⟨19, .guard⟩], some (19, true)⟩) (v := undef) (Or.inr ⟨by rfl, rfl⟩) hHeld ?_
                              try simp only [zP, zQ, zS, zZ, zC]
                              refine wt (i := 27) (oi := ⟨some 199, .move (.tmp 29), 3, "law.go:178", #[⟨19, .guard⟩], some (19, true)⟩) (v := undef) (Or.inr ⟨by rfl, rfl⟩) hHeld ?_
                              try simp only [zP, zQ, zS, zZ, zC]
                              refine wt (i := 28) (oi := ⟨some 200, .indexAddr 44 (.tmp 198) (.tmp 199), 0, "law.go:178", #[⟨26, .data⟩, ⟨27, .data⟩, ⟨19, .guard⟩], some (19, true)⟩) (v := undef) (Or.inr ⟨by rfl, rfl⟩) hHeld ?_
                              try simp only [zP, zQ, zS, zZ, zC]
                              refine wt (i := 29) (oi := ⟨some 201, .load 3 (.tmp 200), 3, "law.go:178", #[⟨28, .data⟩, ⟨19, .guard⟩], some (19, true)⟩) (v := undef) (Or.inr ⟨by rfl, rfl⟩) hHeld ?_
                              try simp only [zP, zQ, zS, zZ, zC]
                              refine wt (i := 30) (oi := ⟨some 202, .binOp .geq 3 (.tmp 197) (.tmp 201) 3, 4, "law.go:178", #[⟨25, .data⟩, ⟨29, .data⟩, ⟨19, .guard⟩], some (19, true)⟩) (v := undef) (Or.inr ⟨by rfl, rfl⟩) hHeld ?_
                              try simp only [zP, zQ, zS, zZ, zC]
                              refine wt (i := 31) (oi := ⟨some 203, .pick (.tmp 191) (.tmp 202) (.const (Value.bool false)), 4, "law.go:178", #[⟨19, .data⟩, ⟨30, .data⟩, ⟨16, .guard⟩], some (16, false)⟩) (v := .bool false) (Or.inl ⟨by rfl, fun w' hSw => by go_simp⟩) hHeld ?_
                              try simp only [zP, zQ, zS, zZ, zC]
                              refine wt (i := 32) (oi := ⟨some 204, .pick (.tmp 188) (.const (Value.bool true)) (.tmp 203), 4, "law.go:178", #[⟨16, .data⟩, ⟨31, .data⟩], none⟩) (v := .bool false) (Or.inl ⟨by rfl, fun w' hSw => by go_simp⟩) hHeld ?_
                              try simp only [zP, zQ, zS, zZ, zC]
                              refine wpAnyH_done (by kernel_rfl) ?_ _
                              have B5 := hHeld
                              clear hHeld 
                              have hB5 := B5
                              clear B5 HT HD CX
                              go_wp2
                              exact ⟨⟨i + 1, by go_num, by omega, hB5⟩, by simp [intOf]; omega⟩
                            · clear hm HD
                              refine wp_region_held_drew (S := fun w' => Below w10.heap.size w10 w') (by kernel_rfl) (below_drew (hBy)) (fun _ => ?_)
                              have hHeld : Below w10.heap.size w10 wr.drew := below_drew (hBy)
                              generalize wr.drew = V0 at hHeld ⊢
                              refine wt (i := 0) (oi := ⟨some 172, .move (.tmp 23), 44, "law.go:178", #[], none⟩) (v := .slice q7 Nt c7) (Or.inl ⟨by rfl, fun w' hSw => by go_simp⟩) hHeld ?_
                              try simp only [zP, zQ, zS, zZ, zC]
                              refine wt (i := 1) (oi := ⟨some 173, .move (.tmp 27), 44, "law.go:178", #[], none⟩) (v := .slice (some ⟨b, off, none⟩) Ns c10) (Or.inl ⟨by rfl, fun w' hSw => by go_simp⟩) hHeld ?_
                              try simp only [zP, zQ, zS, zZ, zC]
                              refine wt (i := 2) (oi := ⟨some 174, .move (.tmp 29), 3, "law.go:178", #[], none⟩) (v := .int .i64 (i : Int)) (Or.inl ⟨by rfl, fun w' hSw => by go_simp⟩) hHeld ?_
                              try simp only [zP, zQ, zS, zZ, zC]
                              refine wt (i := 3) (oi := ⟨some 175, .indexAddr 44 (.tmp 173) (.tmp 174), 0, "law.go:178", #[⟨1, .data⟩, ⟨2, .data⟩], none⟩) (v := .pointer (some ⟨b, off + i, none⟩)) (Or.inl ⟨by rfl, fun w' hSw => by go_simp⟩) hHeld ?_
                              try simp only [zP, zQ, zS, zZ, zC]
                              refine wt (i := 4) (oi := ⟨some 176, .load 3 (.tmp 175), 3, "law.go:178", #[⟨3, .data⟩], none⟩) (v := .int .i64 x) (Or.inl ⟨by rfl, fun w' hSw => by have c9 := CX.out w' hSw; go_simp⟩) hHeld ?_
                              try simp only [zP, zQ, zS, zZ, zC]
                              refine wpAnyH_ready (rs := [5]) (by kernel_rfl) (by simp) ?_
                              refine AllReadyH.cons (o := ⟨some 177, .call { callee := .value (.func 35), args := #[.tmp 172, .tmp 176], argTypes := #[44, 3] }, 4, "law.go:178", #[⟨0, .data⟩, ⟨4, .data⟩], none⟩) rfl (fun K hK => ?_) AllReadyH.nil
                              rw [if_pos (by rfl)]
                              go_simp
                              refine (HT.out _ hHeld).mono ?_
                              rintro _ _ ⟨rfl, rfl⟩
                              dsimp only
                              refine hK.out _ _ (hHeld) (fun hHeld => ?_)
                              clear hK K
                              try simp only [zP, zQ, zS, zZ, zC]
                              refine wt (i := 6) (oi := ⟨some 178, .unOp .not 4 (.tmp 177), 4, "law.go:178", #[⟨5, .data⟩], none⟩) (v := .bool false) (Or.inl ⟨by rfl, fun w' hSw => by go_simp⟩) hHeld ?_
                              try simp only [zP, zQ, zS, zZ, zC]
                              refine wt (i := 7) (oi := ⟨some 179, .move (.tmp 178), 4, "law.go:178", #[⟨6, .data⟩, ⟨5, .chain⟩], none⟩) (v := .bool false) (Or.inl ⟨by rfl, fun w' hSw => by go_simp⟩) hHeld ?_
                              try simp only [zP, zQ, zS, zZ, zC]
                              refine wt (i := 8) (oi := ⟨some 180, .move (.tmp 25), 44, "law.go:178", #[⟨7, .guard⟩], some (7, true)⟩) (v := undef) (Or.inr ⟨by rfl, rfl⟩) hHeld ?_
                              try simp only [zP, zQ, zS, zZ, zC]
                              refine wt (i := 9) (oi := ⟨some 181, .move (.tmp 27), 44, "law.go:178", #[⟨7, .guard⟩], some (7, true)⟩) (v := undef) (Or.inr ⟨by rfl, rfl⟩) hHeld ?_
                              try simp only [zP, zQ, zS, zZ, zC]
                              refine wt (i := 10) (oi := ⟨some 182, .move (.tmp 29), 3, "law.go:178", #[⟨7, .guard⟩], some (7, true)⟩) (v := undef) (Or.inr ⟨by rfl, rfl⟩) hHeld ?_
                              try simp only [zP, zQ, zS, zZ, zC]
                              refine wt (i := 11) (oi := ⟨some 183, .indexAddr 44 (.tmp 181) (.tmp 182), 0, "law.go:178", #[⟨9, .data⟩, ⟨10, .data⟩, ⟨7, .guard⟩], some (7, true)⟩) (v := undef) (Or.inr ⟨by rfl, rfl⟩) hHeld ?_
                              try simp only [zP, zQ, zS, zZ, zC]
                              refine wt (i := 12) (oi := ⟨some 184, .load 3 (.tmp 183), 3, "law.go:178", #[⟨11, .data⟩, ⟨7, .guard⟩], some (7, true)⟩) (v := undef) (Or.inr ⟨by rfl, rfl⟩) hHeld ?_
                              try simp only [zP, zQ, zS, zZ, zC]
                              refine wt (i := 13) (oi := ⟨some 185, .call { callee := .value (.func 35), args := #[.tmp 180, .tmp 184], argTypes := #[44, 3] }, 4, "law.go:178", #[⟨8, .data⟩, ⟨12, .data⟩, ⟨7, .chain⟩, ⟨7, .guard⟩], some (7, true)⟩) (v := undef) (Or.inr ⟨by rfl, rfl⟩) hHeld ?_
                              try simp only [zP, zQ, zS, zZ, zC]
                              refine wt (i := 14) (oi := ⟨some 186, .unOp .not 4 (.tmp 185), 4, "law.go:178", #[⟨13, .data⟩, ⟨7, .guard⟩], some (7, true)⟩) (v := undef) (Or.inr ⟨by rfl, rfl⟩) hHeld ?_
                              try simp only [zP, zQ, zS, zZ, zC]
                              refine wt (i := 15) (oi := ⟨some 187, .pick (.tmp 179) (.tmp 186) (.const (Value.bool false)), 4, "law.go:178", #[⟨7, .data⟩, ⟨14, .data⟩], none⟩) (v := .bool false) (Or.inl ⟨by rfl, fun w' hSw => by go_simp⟩) hHeld ?_
                              try simp only [zP, zQ, zS, zZ, zC]
                              refine wt (i := 16) (oi := ⟨some 188, .move (.tmp 187), 4, "law.go:178", #[⟨15, .data⟩, ⟨13, .chain⟩], none⟩) (v := .bool false) (Or.inl ⟨by rfl, fun w' hSw => by go_simp⟩) hHeld ?_
                              try simp only [zP, zQ, zS, zZ, zC]
                              refine wt (i := 17) (oi := ⟨some 189, .move (.tmp 29), 3, "law.go:178", #[⟨16, .guard⟩], some (16, false)⟩) (v := .int .i64 (i : Int)) (Or.inl ⟨by rfl, fun w' hSw => by go_simp⟩) hHeld ?_
                              try simp only [zP, zQ, zS, zZ, zC]
                              refine wt (i := 18) (oi := ⟨some 190, .binOp .gtr 3 (.tmp 189) (.const (Value.int IntKind.i64 0)) 3, 4, "law.go:178", #[⟨17, .data⟩, ⟨16, .guard⟩], some (16, false)⟩) (v := .bool false) (Or.inl ⟨by rfl, fun w' hSw => by go_simp; omega⟩) hHeld ?_
                              try simp only [zP, zQ, zS, zZ, zC]
                              refine wt (i := 19) (oi := ⟨some 191, .move (.tmp 190), 4, "law.go:178", #[⟨18, .data⟩, ⟨16, .chain⟩, ⟨16, .guard⟩], some (16, false)⟩) (v := .bool false) (Or.inl ⟨by rfl, fun w' hSw => by go_simp⟩) hHeld ?_
                              try simp only [zP, zQ, zS, zZ, zC]
                              refine wt (i := 20) (oi := ⟨some 192, .move (.tmp 27), 44, "law.go:178", #[⟨19, .guard⟩], some (19, true)⟩) (v := undef) (Or.inr ⟨by rfl, rfl⟩) hHeld ?_
                              try simp only [zP, zQ, zS, zZ, zC]
                              refine wt (i := 21) (oi := ⟨some 193, .move (.tmp 29), 3, "law.go:178", #[⟨19, .guard⟩], some (19, true)⟩) (v := undef) (Or.inr ⟨by rfl, rfl⟩) hHeld ?_
                              try simp only [zP, zQ, zS, zZ, zC]
                              refine wt (i := 22) (oi := ⟨some 194, .binOp .sub 3 (.tmp 193) (.const (Value.int IntKind.i64 1)) 3, 3, "law.go:178", #[⟨21, .data⟩, ⟨19, .guard⟩], some (19, true)⟩) (v := undef) (Or.inr ⟨by rfl, rfl⟩) hHeld ?_
                              try simp only [zP, zQ, zS, zZ, zC]
                              refine wt (i := 23) (oi := ⟨some 195, .call { callee := .builtin .max, args := #[.tmp 194, .const (Value.int IntKind.i64 0)], argTypes := #[3, 3] }, 3, "law.go:178", #[⟨22, .data⟩, ⟨19, .guard⟩], some (19, true)⟩) (v := undef) (Or.inr ⟨by rfl, rfl⟩) hHeld ?_
                              try simp only [zP, zQ, zS, zZ, zC]
                              refine wt (i := 24) (oi := ⟨some 196, .indexAddr 44 (.tmp 192) (.tmp 195), 0, "law.go:178", #[⟨20, .data⟩, ⟨23, .data⟩, ⟨19, .guard⟩], some (19, true)⟩) (v := undef) (Or.inr ⟨by rfl, rfl⟩) hHeld ?_
                              try simp only [zP, zQ, zS, zZ, zC]
                              refine wt (i := 25) (oi := ⟨some 197, .load 3 (.tmp 196), 3, "law.go:178", #[⟨24, .data⟩, ⟨19, .guard⟩], some (19, true)⟩) (v := undef) (Or.inr ⟨by rfl, rfl⟩) hHeld ?_
                              try simp only [zP, zQ, zS, zZ, zC]
                              refine wt (i := 26) (oi := ⟨some 198, .move (.tmp 27), 44, "law.go:178", #[⟨19, .guard⟩], some (19, true)⟩) (v := undef) (Or.inr ⟨by rfl, rfl⟩) hHeld ?_
                              try simp only [zP, zQ, zS, zZ, zC]
                              refine wt (i := 27) (oi := ⟨some 199, .move (.tmp 29), 3, "law.go:178", #[⟨19, .guard⟩], some (19, true)⟩) (v := undef) (Or.inr ⟨by rfl, rfl⟩) hHeld ?_
                              try simp only [zP, zQ, zS, zZ, zC]
                              refine wt (i := 28) (oi := ⟨some 200, .indexAddr 44 (.tmp 198) (.tmp 199), 0, "law.go:178", #[⟨26, .data⟩, ⟨27, .data⟩, ⟨19, .guard⟩], some (19, true)⟩) (v := undef) (Or.inr ⟨by rfl, rfl⟩) hHeld ?_
                              try simp only [zP, zQ, zS, zZ, zC]
                              refine wt (i := 29) (oi := ⟨some 201, .load 3 (.tmp 200), 3, "law.go:178", #[⟨28, .data⟩, ⟨19, .guard⟩], some (19, true)⟩) (v := undef) (Or.inr ⟨by rfl, rfl⟩) hHeld ?_
                              try simp only [zP, zQ, zS, zZ, zC]
                              refine wt (i := 30) (oi := ⟨some 202, .binOp .geq 3 (.tmp 197) (.tmp 201) 3, 4, "law.go:178", #[⟨25, .data⟩, ⟨29, .data⟩, ⟨19, .guard⟩], some (19, true)⟩) (v := undef) (Or.inr ⟨by rfl, rfl⟩) hHeld ?_
                              try simp only [zP, zQ, zS, zZ, zC]
                              refine wt (i := 31) (oi := ⟨some 203, .pick (.tmp 191) (.tmp 202) (.const (Value.bool false)), 4, "law.go:178", #[⟨19, .data⟩, ⟨30, .data⟩, ⟨16, .guard⟩], some (16, false)⟩) (v := .bool false) (Or.inl ⟨by rfl, fun w' hSw => by go_simp⟩) hHeld ?_
                              try simp only [zP, zQ, zS, zZ, zC]
                              refine wt (i := 32) (oi := ⟨some 204, .pick (.tmp 188) (.const (Value.bool true)) (.tmp 203), 4, "law.go:178", #[⟨16, .data⟩, ⟨31, .data⟩], none⟩) (v := .bool false) (Or.inl ⟨by rfl, fun w' hSw => by go_simp⟩) hHeld ?_
                              try simp only [zP, zQ, zS, zZ, zC]
                              refine wpAnyH_done (by kernel_rfl) ?_ _
                              have B5 := hHeld
                              clear hHeld 
                              have hB5 := B5
                              clear B5 HT CX
                              go_wp2
                              exact ⟨⟨i + 1, by go_num, by omega, hB5⟩, by simp [intOf]; omega⟩
                          · have hgt : (i : Int) > 0 := by omega
                            obtain ⟨i1, hi1⟩ : ∃ i1, i1 + 1 = i := ⟨i - 1, by omega⟩
                            obtain ⟨y, hy⟩ : ∃ y, Ms[i1]? = some y := ⟨_, List.getElem?_eq_getElem (by rw [HNs.out]; omega)⟩
                            have CY := Lib.hid (fun (W : World) (hW : Below w10.heap.size w10 W) => lay_int (hL.keep hW) hy)
                            have hyx : ¬ y ≥ x := by
                              have := HUP.out i1 y x hy (by rw [hi1]; exact hx)
                              omega
                            have hs1 : IntKind.i64.wrap ((i : Int) - 1) = (i1 : Int) := wrap_in (by omega) (by omega)|>.trans (by omega)
                            have hs2 : ¬ (i1 : Int) < 0 := by omega
                            have hs3 : (if (i1 : Int) < 0 then (0 : Int) else (i1 : Int)) = (i1 : Int) := if_neg hs2
                            have hs4 : (i1 : Int) < (Ns : Int) := by omega
                            clear hL hx hy hi0
                            go_upto_region 25 with (fail)
                            rcases f1 with _ | _
                            · obtain rfl : f2 = true := by rcases hm with h | h; exact absurd h (by decide); exact h
                              clear hm
                              refine wp_region_held_drew (S := fun w' => Below w10.heap.size w10 w') (by kernel_rfl) (below_drew (hBy)) (fun _ => ?_)
                              have hHeld : Below w10.heap.size w10 wr.drew := below_drew (hBy)
                              generalize wr.drew = V0 at hHeld ⊢
                              refine wt (i := 0) (oi := ⟨some 172, .move (.tmp 23), 44, "law.go:178", #[], none⟩) (v := .slice q7 Nt c7) (Or.inl ⟨by rfl, fun w' hSw => by go_simp⟩) hHeld ?_
                              try simp only [zP, zQ, zS, zZ, zC]
                              refine wt (i := 1) (oi := ⟨some 173, .move (.tmp 27), 44, "law.go:178", #[], none⟩) (v := .slice (some ⟨b, off, none⟩) Ns c10) (Or.inl ⟨by rfl, fun w' hSw => by go_simp⟩) hHeld ?_
                              try simp only [zP, zQ, zS, zZ, zC]
                              refine wt (i := 2) (oi := ⟨some 174, .move (.tmp 29), 3, "law.go:178", #[], none⟩) (v := .int .i64 (i : Int)) (Or.inl ⟨by rfl, fun w' hSw => by go_simp⟩) hHeld ?_
                              try simp only [zP, zQ, zS, zZ, zC]
                              refine wt (i := 3) (oi := ⟨some 175, .indexAddr 44 (.tmp 173) (.tmp 174), 0, "law.go:178", #[⟨1, .data⟩, ⟨2, .data⟩], none⟩) (v := .pointer (some ⟨b, off + i, none⟩)) (Or.inl ⟨by rfl, fun w' hSw => by go_simp⟩) hHeld ?_
                              try simp only [zP, zQ, zS, zZ, zC]
                              refine wt (i := 4) (oi := ⟨some 176, .load 3 (.tmp 175), 3, "law.go:178", #[⟨3, .data⟩], none⟩) (v := .int .i64 x) (Or.inl ⟨by rfl, fun w' hSw => by have c9 := CX.out w' hSw; go_simp⟩) hHeld ?_
                              try simp only [zP, zQ, zS, zZ, zC]
                              refine wpAnyH_ready (rs := [5]) (by kernel_rfl) (by simp) ?_
                              refine AllReadyH.cons (o := ⟨some 177, .call { callee := .value (.func 35), args := #[.tmp 172, .tmp 176], argTypes := #[44, 3] }, 4, "law.go:178", #[⟨0, .data⟩, ⟨4, .data⟩], none⟩) rfl (fun K hK => ?_) AllReadyH.nil
                              rw [if_pos (by rfl)]
                              go_simp
                              refine (HT.out _ hHeld).mono ?_
                              rintro _ _ ⟨rfl, rfl⟩
                              dsimp only
                              refine hK.out _ _ (hHeld) (fun hHeld => ?_)
                              clear hK K
                              try simp only [zP, zQ, zS, zZ, zC]
                              refine wt (i := 6) (oi := ⟨some 178, .unOp .not 4 (.tmp 177), 4, "law.go:178", #[⟨5, .data⟩], none⟩) (v := .bool true) (Or.inl ⟨by rfl, fun w' hSw => by go_simp⟩) hHeld ?_
                              try simp only [zP, zQ, zS, zZ, zC]
                              refine wt (i := 7) (oi := ⟨some 179, .move (.tmp 178), 4, "law.go:178", #[⟨6, .data⟩, ⟨5, .chain⟩], none⟩) (v := .bool true) (Or.inl ⟨by rfl, fun w' hSw => by go_simp⟩) hHeld ?_
                              try simp only [zP, zQ, zS, zZ, zC]
                              refine wt (i := 8) (oi := ⟨some 180, .move (.tmp 25), 44, "law.go:178", #[⟨7, .guard⟩], some (7, true)⟩) (v := .slice q8 Nd c8) (Or.inl ⟨by rfl, fun w' hSw => by go_simp⟩) hHeld ?_
                              try simp only [zP, zQ, zS, zZ, zC]
                              refine wt (i := 9) (oi := ⟨some 181, .move (.tmp 27), 44, "law.go:178", #[⟨7, .guard⟩], some (7, true)⟩) (v := .slice (some ⟨b, off, none⟩) Ns c10) (Or.inl ⟨by rfl, fun w' hSw => by go_simp⟩) hHeld ?_
                              try simp only [zP, zQ, zS, zZ, zC]
                              refine wt (i := 10) (oi := ⟨some 182, .move (.tmp 29), 3, "law.go:178", #[⟨7, .guard⟩], some (7, true)⟩) (v := .int .i64 (i : Int)) (Or.inl ⟨by rfl, fun w' hSw => by go_simp⟩) hHeld ?_
                              try simp only [zP, zQ, zS, zZ, zC]
                              refine wt (i := 11) (oi := ⟨some 183, .indexAddr 44 (.tmp 181) (.tmp 182), 0, "law.go:178", #[⟨9, .data⟩, ⟨10, .data⟩, ⟨7, .guard⟩], some (7, true)⟩) (v := .pointer (some ⟨b, off + i, none⟩)) (Or.inl ⟨by rfl, fun w' hSw => by go_simp⟩) hHeld ?_
                              try simp only [zP, zQ, zS, zZ, zC]
                              refine wt (i := 12) (oi := ⟨some 184, .load 3 (.tmp 183), 3, "law.go:178", #[⟨11, .data⟩, ⟨7, .guard⟩], some (7, true)⟩) (v := .int .i64 x) (Or.inl ⟨by rfl, fun w' hSw => by have c9 := CX.out w' hSw; go_simp⟩) hHeld ?_
                              try simp only [zP, zQ, zS, zZ, zC]
                              refine wpAnyH_ready (rs := [13]) (by kernel_rfl) (by simp) ?_
                              refine AllReadyH.cons (o := ⟨some 185, .call { callee := .value (.func 35), args := #[.tmp 180, .tmp 184], argTypes := #[44, 3] }, 4, "law.go:178", #[⟨8, .data⟩, ⟨12, .data⟩, ⟨7, .chain⟩, ⟨7, .guard⟩], some (7, true)⟩) rfl (fun K hK => ?_) AllReadyH.nil
                              rw [if_pos (by rfl)]
                              go_simp
                              refine (HD.out _ hHeld).mono ?_
                              rintro _ _ ⟨rfl, rfl⟩
                              dsimp only
                              refine hK.out _ _ (hHeld) (fun hHeld => ?_)
                              clear hK K
                              try simp only [zP, zQ, zS, zZ, zC]
                              refine wt (i := 14) (oi := ⟨some 186, .unOp .not 4 (.tmp 185), 4, "law.go:178", #[⟨13, .data⟩, ⟨7, .guard⟩], some (7, true)⟩) (v := .bool false) (Or.inl ⟨by rfl, fun w' hSw => by go_simp⟩) hHeld ?_
                              try simp only [zP, zQ, zS, zZ, zC]
                              refine wt (i := 15) (oi := ⟨some 187, .pick (.tmp 179) (.tmp 186) (.const (Value.bool false)), 4, "law.go:178", #[⟨7, .data⟩, ⟨14, .data⟩], none⟩) (v := .bool false) (Or.inl ⟨by rfl, fun w' hSw => by go_simp⟩) hHeld ?_
                              try simp only [zP, zQ, zS, zZ, zC]
                              refine wt (i := 16) (oi := ⟨some 188, .move (.tmp 187), 4, "law.go:178", #[⟨15, .data⟩, ⟨13, .chain⟩], none⟩) (v := .bool false) (Or.inl ⟨by rfl, fun w' hSw => by go_simp⟩) hHeld ?_
                              try simp only [zP, zQ, zS, zZ, zC]
                              refine wt (i := 17) (oi := ⟨some 189, .move (.tmp 29), 3, "law.go:178", #[⟨16, .guard⟩], some (16, false)⟩) (v := .int .i64 (i : Int)) (Or.inl ⟨by rfl, fun w' hSw => by go_simp⟩) hHeld ?_
                              try simp only [zP, zQ, zS, zZ, zC]
                              refine wt (i := 18) (oi := ⟨some 190, .binOp .gtr 3 (.tmp 189) (.const (Value.int IntKind.i64 0)) 3, 4, "law.go:178", #[⟨17, .data⟩, ⟨16, .guard⟩], some (16, false)⟩) (v := .bool true) (Or.inl ⟨by rfl, fun w' hSw => by go_simp; omega⟩) hHeld ?_
                              try simp only [zP, zQ, zS, zZ, zC]
                              refine wt (i := 19) (oi := ⟨some 191, .move (.tmp 190), 4, "law.go:178", #[⟨18, .data⟩, ⟨16, .chain⟩, ⟨16, .guard⟩], some (16, false)⟩) (v := .bool true) (Or.inl ⟨by rfl, fun w' hSw => by go_simp⟩) hHeld ?_
                              try simp only [zP, zQ, zS, zZ, zC]
                              refine wt (i := 20) (oi := ⟨some 192, .move (.tmp 27), 44, "law.go:178", #[⟨19, .guard⟩], some (19, true)⟩) (v := .slice (some ⟨b, off, none⟩) Ns c10) (Or.inl ⟨by rfl, fun w' hSw => by go_simp⟩) hHeld ?_
                              try simp only [zP, zQ, zS, zZ, zC]
                              refine wt (i := 21) (oi := ⟨some 193, .move (.tmp 29), 3, "law.go:178", #[⟨19, .guard⟩], some (19, true)⟩) (v := .int .i64 (i : Int)) (Or.inl ⟨by rfl, fun w' hSw => by go_simp⟩) hHeld ?_
                              try simp only [zP, zQ, zS, zZ, zC]
                              refine wt (i := 22) (oi := ⟨some 194, .binOp .sub 3 (.tmp 193) (.const (Value.int IntKind.i64 1)) 3, 3, "law.go:178", #[⟨21, .data⟩, ⟨19, .guard⟩], some (19, true)⟩) (v := .int .i64 (i1 : Int)) (Or.inl ⟨by rfl, fun w' hSw => by go_simp⟩) hHeld ?_
                              try simp only [zP, zQ, zS, zZ, zC]
                              refine wt (i := 23) (oi := ⟨some 195, .call { callee := .builtin .max, args := #[.tmp 194, .const (Value.int IntKind.i64 0)], argTypes := #[3, 3] }, 3, "law.go:178", #[⟨22, .data⟩, ⟨19, .guard⟩], some (19, true)⟩) (v := .int .i64 (i1 : Int)) (Or.inl ⟨by rfl, fun w' hSw => by go_simp⟩) hHeld ?_
                              try simp only [zP, zQ, zS, zZ, zC]
                              refine wt (i := 24) (oi := ⟨some 196, .indexAddr 44 (.tmp 192) (.tmp 195), 0, "law.go:178", #[⟨20, .data⟩, ⟨23, .data⟩, ⟨19, .guard⟩], some (19, true)⟩) (v := .pointer (some ⟨b, off + i1, none⟩)) (Or.inl ⟨by rfl, fun w' hSw => by go_simp⟩) hHeld ?_
                              try simp only [zP, zQ, zS, zZ, zC]
                              refine wt (i := 25) (oi := ⟨some 197, .load 3 (.tmp 196), 3, "law.go:178", #[⟨24, .data⟩, ⟨19, .guard⟩], some (19, true)⟩) (v := .int .i64 y) (Or.inl ⟨by rfl, fun w' hSw => by have c8 := CY.out w' hSw; go_simp⟩) hHeld ?_
                              try simp only [zP, zQ, zS, zZ, zC]
                              refine wt (i := 26) (oi := ⟨some 198, .move (.tmp 27), 44, "law.go:178", #[⟨19, .guard⟩], some (19, true)⟩) (v := .slice (some ⟨b, off, none⟩) Ns c10) (Or.inl ⟨by rfl, fun w' hSw => by go_simp⟩) hHeld ?_
                              try simp only [zP, zQ, zS, zZ, zC]
                              refine wt (i := 27) (oi := ⟨some 199, .move (.tmp 29), 3, "law.go:178", #[⟨19, .guard⟩], some (19, true)⟩) (v := .int .i64 (i : Int)) (Or.inl ⟨by rfl, fun w' hSw => by go_simp⟩) hHeld ?_
                              try simp only [zP, zQ, zS, zZ, zC]
                              refine wt (i := 28) (oi := ⟨some 200, .indexAddr 44 (.tmp 198) (.tmp 199), 0, "law.go:178", #[⟨26, .data⟩, ⟨27, .data⟩, ⟨19, .guard⟩], some (19, true)⟩) (v := .pointer (some ⟨b, off + i, none⟩)) (Or.inl ⟨by rfl, fun w' hSw => by go_simp⟩) hHeld ?_
                              try simp only [zP, zQ, zS, zZ, zC]
                              refine wt (i := 29) (oi := ⟨some 201, .load 3 (.tmp 200), 3, "law.go:178", #[⟨28, .data⟩, ⟨19, .guard⟩], some (19, true)⟩) (v := .int .i64 x) (Or.inl ⟨by rfl, fun w' hSw => by have c9 := CX.out w' hSw; go_simp⟩) hHeld ?_
                              try simp only [zP, zQ, zS, zZ, zC]
                              refine wt (i := 30) (oi := ⟨some 202, .binOp .geq 3 (.tmp 197) (.tmp 201) 3, 4, "law.go:178", #[⟨25, .data⟩, ⟨29, .data⟩, ⟨19, .guard⟩], some (19, true)⟩) (v := .bool false) (Or.inl ⟨by rfl, fun w' hSw => by go_simp⟩) hHeld ?_
                              try simp only [zP, zQ, zS, zZ, zC]
                              refine wt (i := 31) (oi := ⟨some 203, .pick (.tmp 191) (.tmp 202) (.const (Value.bool false)), 4, "law.go:178", #[⟨19, .data⟩, ⟨30, .data⟩, ⟨16, .guard⟩], some (16, false)⟩) (v := .bool false) (Or.inl ⟨by rfl, fun w' hSw => by go_simp⟩) hHeld ?_
                              try simp only [zP, zQ, zS, zZ, zC]
                              refine wt (i := 32) (oi := ⟨some 204, .pick (.tmp 188) (.const (Value.bool true)) (.tmp 203), 4, "law.go:178", #[⟨16, .data⟩, ⟨31, .data⟩], none⟩) (v := .bool false) (Or.inl ⟨by rfl, fun w' hSw => by go_simp⟩) hHeld ?_
                              try simp only [zP, zQ, zS, zZ, zC]
                              refine wpAnyH_done (by kernel_rfl) ?_ _
                              have B5 := hHeld
                              clear hHeld 
                              have hB5 := B5
                              clear B5 HT HD CX CY
                              go_wp2
                              exact ⟨⟨i + 1, by go_num, by omega, hB5⟩, by simp [intOf]; omega⟩
                            · clear hm HD
                              refine wp_region_held_drew (S := fun w' => Below w10.heap.size w10 w') (by kernel_rfl) (below_drew (hBy)) (fun _ => ?_)
                              have hHeld : Below w10.heap.size w10 wr.drew := below_drew (hBy)
                              generalize wr.drew = V0 at hHeld ⊢
                              refine wt (i := 0) (oi := ⟨some 172, .move (.tmp 23), 44, "law.go:178", #[], none⟩) (v := .slice q7 Nt c7) (Or.inl ⟨by rfl, fun w' hSw => by go_simp⟩) hHeld ?_
                              try simp only [zP, zQ, zS, zZ, zC]
                              refine wt (i := 1) (oi := ⟨some 173, .move (.tmp 27), 44, "law.go:178", #[], none⟩) (v := .slice (some ⟨b, off, none⟩) Ns c10) (Or.inl ⟨by rfl, fun w' hSw => by go_simp⟩) hHeld ?_
                              try simp only [zP, zQ, zS, zZ, zC]
                              refine wt (i := 2) (oi := ⟨some 174, .move (.tmp 29), 3, "law.go:178", #[], none⟩) (v := .int .i64 (i : Int)) (Or.inl ⟨by rfl, fun w' hSw => by go_simp⟩) hHeld ?_
                              try simp only [zP, zQ, zS, zZ, zC]
                              refine wt (i := 3) (oi := ⟨some 175, .indexAddr 44 (.tmp 173) (.tmp 174), 0, "law.go:178", #[⟨1, .data⟩, ⟨2, .data⟩], none⟩) (v := .pointer (some ⟨b, off + i, none⟩)) (Or.inl ⟨by rfl, fun w' hSw => by go_simp⟩) hHeld ?_
                              try simp only [zP, zQ, zS, zZ, zC]
                              refine wt (i := 4) (oi := ⟨some 176, .load 3 (.tmp 175), 3, "law.go:178", #[⟨3, .data⟩], none⟩) (v := .int .i64 x) (Or.inl ⟨by rfl, fun w' hSw => by have c9 := CX.out w' hSw; go_simp⟩) hHeld ?_
                              try simp only [zP, zQ, zS, zZ, zC]
                              refine wpAnyH_ready (rs := [5]) (by kernel_rfl) (by simp) ?_
                              refine AllReadyH.cons (o := ⟨some 177, .call { callee := .value (.func 35), args := #[.tmp 172, .tmp 176], argTypes := #[44, 3] }, 4, "law.go:178", #[⟨0, .data⟩, ⟨4, .data⟩], none⟩) rfl (fun K hK => ?_) AllReadyH.nil
                              rw [if_pos (by rfl)]
                              go_simp
                              refine (HT.out _ hHeld).mono ?_
                              rintro _ _ ⟨rfl, rfl⟩
                              dsimp only
                              refine hK.out _ _ (hHeld) (fun hHeld => ?_)
                              clear hK K
                              try simp only [zP, zQ, zS, zZ, zC]
                              refine wt (i := 6) (oi := ⟨some 178, .unOp .not 4 (.tmp 177), 4, "law.go:178", #[⟨5, .data⟩], none⟩) (v := .bool false) (Or.inl ⟨by rfl, fun w' hSw => by go_simp⟩) hHeld ?_
                              try simp only [zP, zQ, zS, zZ, zC]
                              refine wt (i := 7) (oi := ⟨some 179, .move (.tmp 178), 4, "law.go:178", #[⟨6, .data⟩, ⟨5, .chain⟩], none⟩) (v := .bool false) (Or.inl ⟨by rfl, fun w' hSw => by go_simp⟩) hHeld ?_
                              try simp only [zP, zQ, zS, zZ, zC]
                              refine wt (i := 8) (oi := ⟨some 180, .move (.tmp 25), 44, "law.go:178", #[⟨7, .guard⟩], some (7, true)⟩) (v := undef) (Or.inr ⟨by rfl, rfl⟩) hHeld ?_
                              try simp only [zP, zQ, zS, zZ, zC]
                              refine wt (i := 9) (oi := ⟨some 181, .move (.tmp 27), 44, "law.go:178", #[⟨7, .guard⟩], some (7, true)⟩) (v := undef) (Or.inr ⟨by rfl, rfl⟩) hHeld ?_
                              try simp only [zP, zQ, zS, zZ, zC]
                              refine wt (i := 10) (oi := ⟨some 182, .move (.tmp 29), 3, "law.go:178", #[⟨7, .guard⟩], some (7, true)⟩) (v := undef) (Or.inr ⟨by rfl, rfl⟩) hHeld ?_
                              try simp only [zP, zQ, zS, zZ, zC]
                              refine wt (i := 11) (oi := ⟨some 183, .indexAddr 44 (.tmp 181) (.tmp 182), 0, "law.go:178", #[⟨9, .data⟩, ⟨10, .data⟩, ⟨7, .guard⟩], some (7, true)⟩) (v := undef) (Or.inr ⟨by rfl, rfl⟩) hHeld ?_
                              try simp only [zP, zQ, zS, zZ, zC]
                              refine wt (i := 12) (oi := ⟨some 184, .load 3 (.tmp 183), 3, "law.go:178", #[⟨11, .data⟩, ⟨7, .guard⟩], some (7, true)⟩) (v := undef) (Or.inr ⟨by rfl, rfl⟩) hHeld ?_
                              try simp only [zP, zQ, zS, zZ, zC]
                              refine wt (i := 13) (oi := ⟨some 185, .call { callee := .value (.func 35), args := #[.tmp 180, .tmp 184], argTypes := #[44, 3] }, 4, "law.go:178", #[⟨8, .data⟩, ⟨12, .data⟩, ⟨7, .chain⟩, ⟨7, .guard⟩], some (7, true)⟩) (v := undef) (Or.inr ⟨by rfl, rfl⟩) hHeld ?_
                              try simp only [zP, zQ, zS, zZ, zC]
                              refine wt (i := 14) (oi := ⟨some 186, .unOp .not 4 (.tmp 185), 4, "law.go:178", #[⟨13, .data⟩, ⟨7, .guard⟩], some (7, true)⟩) (v := undef) (Or.inr ⟨by rfl, rfl⟩) hHeld ?_
                              try simp only [zP, zQ, zS, zZ, zC]
                              refine wt (i := 15) (oi := ⟨some 187, .pick (.tmp 179) (.tmp 186) (.const (Value.bool false)), 4, "law.go:178", #[⟨7, .data⟩, ⟨14, .data⟩], none⟩) (v := .bool false) (Or.inl ⟨by rfl, fun w' hSw => by go_simp⟩) hHeld ?_
                              try simp only [zP, zQ, zS, zZ, zC]
                              refine wt (i := 16) (oi := ⟨some 188, .move (.tmp 187), 4, "law.go:178", #[⟨15, .data⟩, ⟨13, .chain⟩], none⟩) (v := .bool false) (Or.inl ⟨by rfl, fun w' hSw => by go_simp⟩) hHeld ?_
                              try simp only [zP, zQ, zS, zZ, zC]
                              refine wt (i := 17) (oi := ⟨some 189, .move (.tmp 29), 3, "law.go:178", #[⟨16, .guard⟩], some (16, false)⟩) (v := .int .i64 (i : Int)) (Or.inl ⟨by rfl, fun w' hSw => by go_simp⟩) hHeld ?_
                              try simp only [zP, zQ, zS, zZ, zC]
                              refine wt (i := 18) (oi := ⟨some 190, .binOp .gtr 3 (.tmp 189) (.const (Value.int IntKind.i64 0)) 3, 4, "law.go:178", #[⟨17, .data⟩, ⟨16, .guard⟩], some (16, false)⟩) (v := .bool true) (Or.inl ⟨by rfl, fun w' hSw => by go_simp; omega⟩) hHeld ?_
                              try simp only [zP, zQ, zS, zZ, zC]
                              refine wt (i := 19) (oi := ⟨some 191, .move (.tmp 190), 4, "law.go:178", #[⟨18, .data⟩, ⟨16, .chain⟩, ⟨16, .guard⟩], some (16, false)⟩) (v := .bool true) (Or.inl ⟨by rfl, fun w' hSw => by go_simp⟩) hHeld ?_
                              try simp only [zP, zQ, zS, zZ, zC]
                              refine wt (i := 20) (oi := ⟨some 192, .move (.tmp 27), 44, "law.go:178", #[⟨19, .guard⟩], some (19, true)⟩) (v := .slice (some ⟨b, off, none⟩) Ns c10) (Or.inl ⟨by rfl, fun w' hSw => by go_simp⟩) hHeld ?_
                              try simp only [zP, zQ, zS, zZ, zC]
                              refine wt (i := 21) (oi := ⟨some 193, .move (.tmp 29), 3, "law.go:178", #[⟨19, .guard⟩], some (19, true)⟩) (v := .int .i64 (i : Int)) (Or.inl ⟨by rfl, fun w' hSw => by go_simp⟩) hHeld ?_
                              try simp only [zP, zQ, zS, zZ, zC]
                              refine wt (i := 22) (oi := ⟨some 194, .binOp .sub 3 (.tmp 193) (.const (Value.int IntKind.i64 1)) 3, 3, "law.go:178", #[⟨21, .data⟩, ⟨19, .guard⟩], some (19, true)⟩) (v := .int .i64 (i1 : Int)) (Or.inl ⟨by rfl, fun w' hSw => by go_simp⟩) hHeld ?_
                              try simp only [zP, zQ, zS, zZ, zC]
                              refine wt (i := 23) (oi := ⟨some 195, .call { callee := .builtin .max, args := #[.tmp 194, .const (Value.int IntKind.i64 0)], argTypes := #[3, 3] }, 3, "law.go:178", #[⟨22, .data⟩, ⟨19, .guard⟩], some (19, true)⟩) (v := .int .i64 (i1 : Int)) (Or.inl ⟨by rfl, fun w' hSw => by go_simp⟩) hHeld ?_
                              try simp only [zP, zQ, zS, zZ, zC]
                              refine wt (i := 24) (oi := ⟨some 196, .indexAddr 44 (.tmp 192) (.tmp 195), 0, "law.go:178", #[⟨20, .data⟩, ⟨23, .data⟩, ⟨19, .guard⟩], some (19, true)⟩) (v := .pointer (some ⟨b, off + i1, none⟩)) (Or.inl ⟨by rfl, fun w' hSw => by go_simp⟩) hHeld ?_
                              try simp only [zP, zQ, zS, zZ, zC]
                              refine wt (i := 25) (oi := ⟨some 197, .load 3 (.tmp 196), 3, "law.go:178", #[⟨24, .data⟩, ⟨19, .guard⟩], some (19, true)⟩) (v := .int .i64 y) (Or.inl ⟨by rfl, fun w' hSw => by have c8 := CY.out w' hSw; go_simp⟩) hHeld ?_
                              try simp only [zP, zQ, zS, zZ, zC]
                              refine wt (i := 26) (oi := ⟨some 198, .move (.tmp 27), 44, "law.go:178", #[⟨19, .guard⟩], some (19, true)⟩) (v := .slice (some ⟨b, off, none⟩) Ns c10) (Or.inl ⟨by rfl, fun w' hSw => by go_simp⟩) hHeld ?_
                              try simp only [zP, zQ, zS, zZ, zC]
                              refine wt (i := 27) (oi := ⟨some 199, .move (.tmp 29), 3, "law.go:178", #[⟨19, .guard⟩], some (19, true)⟩) (v := .int .i64 (i : Int)) (Or.inl ⟨by rfl, fun w' hSw => by go_simp⟩) hHeld ?_
                              try simp only [zP, zQ, zS, zZ, zC]
                              refine wt (i := 28) (oi := ⟨some 200, .indexAddr 44 (.tmp 198) (.tmp 199), 0, "law.go:178", #[⟨26, .data⟩, ⟨27, .data⟩, ⟨19, .guard⟩], some (19, true)⟩) (v := .pointer (some ⟨b, off + i, none⟩)) (Or.inl ⟨by rfl, fun w' hSw => by go_simp⟩) hHeld ?_
                              try simp only [zP, zQ, zS, zZ, zC]
                              refine wt (i := 29) (oi := ⟨some 201, .load 3 (.tmp 200), 3, "law.go:178", #[⟨28, .data⟩, ⟨19, .guard⟩], some (19, true)⟩) (v := .int .i64 x) (Or.inl ⟨by rfl, fun w' hSw => by have c9 := CX.out w' hSw; go_simp⟩) hHeld ?_
                              try simp only [zP, zQ, zS, zZ, zC]
                              refine wt (i := 30) (oi := ⟨some 202, .binOp .geq 3 (.tmp 197) (.tmp 201) 3, 4, "law.go:178", #[⟨25, .data⟩, ⟨29, .data⟩, ⟨19, .guard⟩], some (19, true)⟩) (v := .bool false) (Or.inl ⟨by rfl, fun w' hSw => by go_simp⟩) hHeld ?_
                              try simp only [zP, zQ, zS, zZ, zC]
                              refine wt (i := 31) (oi := ⟨some 203, .pick (.tmp 191) (.tmp 202) (.const (Value.bool false)), 4, "law.go:178", #[⟨19, .data⟩, ⟨30, .data⟩, ⟨16, .guard⟩], some (16, false)⟩) (v := .bool false) (Or.inl ⟨by rfl, fun w' hSw => by go_simp⟩) hHeld ?_
                              try simp only [zP, zQ, zS, zZ, zC]
                              refine wt (i := 32) (oi := ⟨some 204, .pick (.tmp 188) (.const (Value.bool true)) (.tmp 203), 4, "law.go:178", #[⟨16, .data⟩, ⟨31, .data⟩], none⟩) (v := .bool false) (Or.inl ⟨by rfl, fun w' hSw => by go_simp⟩) hHeld ?_
                              try simp only [zP, zQ, zS, zZ, zC]
                              refine wpAnyH_done (by kernel_rfl) ?_ _
                              have B5 := hHeld
                              clear hHeld 
                              have hB5 := B5
                              clear B5 HT CX CY
                              go_wp2
                              exact ⟨⟨i + 1, by go_num, by omega, hB5⟩, by simp [intOf]; omega⟩
                        · have hge2 : ¬ (i : Int) < (Ns : Int) := by omega
                          obtain rfl : i = Ns := by omega
                          clear hi hge
                          have XE := (Below.refl wr.heap.size wr).alloc (Nat.le_refl _) (.cells #[] 3)
                          have XO : OwnR intE (World.alloc wr (.cells #[] 3)) wr.heap.size (.slice (some ⟨wr.heap.size, 0, none⟩) 0 0) [] := own_new intE wr _ _ 0 rfl (by decide) rfl
                          have A7 := (HA7.out.keep hBy).keep XE
                          have A8 := (HA8.out.keep hBy).keep XE
                          have XS : wr.heap.size ≤ (World.alloc wr (.cells #[] 3)).heap.size := XE.size
                          go_upto_region 28 with (first
                            | (at_builtin; refine clone_el intE rfl (.tmp 205) (.tmp 206) rfl Mt wr.heap.size Nt c7 rfl XO XS q7 rfl HNt.out A7 (by omega) ?_; intro g' c' W8 hO8 _ _ hB8)
                            | (at_builtin; refine any_el intE rfl (.tmp 207) (.tmp 208) rfl Mt Md _ rfl hO8 (Nat.le_trans XS hB8.size) q8 Nd c8 rfl HNd.out (A8.keep hB8) (by rw [HNt.out]; omega) (by omega) ?_; intro v9 W9 hO9 hB9))
                          obtain ⟨Nb, hNb⟩ : ∃ Nb, (Mt ++ Md).length = Nb := ⟨_, rfl⟩
                          obtain ⟨q9, c9, e9, _, A9, _⟩ := hO9.form
                          rw [hNb] at e9
                          subst e9
                          have HNb := Lib.hid hNb
                          have hNb6 : Nb ≤ 1200 := by rw [← hNb, List.length_append, HNt.out, HNd.out]; omega
                          have XY := hBy.trans (((XE.trans (hB8.mono XS)).trans hB9).mono hBy.size)
                          have HA9 := Lib.hid A9
                          have HNE := Lib.hid (fun z (hz : z ∈ Mt ++ Md) => (HMZ.out z).2 (List.mem_append.1 hz))
                          clear hNb A9 hO9 hO8 XE XO A7 A8 XS hB8 hB9 hBy HMZ HUP
                          obtain ⟨wo, rfl⟩ : ∃ wo, wo = wr := ⟨_, rfl⟩
                          go_wp2
                          go_loopw [31] (fun v wx => BRel w10 W9 Nb v wx) (fun v _ => Nb - (intOf v).toNat)
                          case atStart => exact ⟨0, rfl, Nat.zero_le _, XY, Below.refl _ _⟩
                          case round =>
                            obtain ⟨i2, rfl, hi2, hBz, hBz'⟩ := hrel
                            rcases Nat.lt_or_ge i2 Nb with hlt | hge
                            · have hltz : (i2 : Int) < (Nb : Int) := by omega
                              obtain ⟨x, hx⟩ : ∃ x, (Mt ++ Md)[i2]? = some x := ⟨_, List.getElem?_eq_getElem (by rw [HNb.out]; exact hlt)⟩
                              obtain ⟨b, off, rfl, hL⟩ := HA9.out.get (i := i2) (by rw [HNb.out]; exact hlt)
                              have c0 := lay_int (hL.keep hBz') hx
                              have HT := Lib.hid (has_any Ms x q10 i c10 HNs.out (by omega) wr (HA10.out.keep hBz))
                              rw [decide_eq_true (HNE.out x (List.mem_of_getElem? hx))] at HT
                              clear hL hx
                              go_wp2_with (go_at_call 35; refine HT.out.mono ?_; rintro _ _ ⟨rfl, rfl⟩)
                              exact ⟨⟨i2 + 1, by go_num, by omega, hBz, hBz'⟩, by simp [intOf]; omega⟩
                            · have hge2 : ¬ (i2 : Int) < (Nb : Int) := by omega
                              have HBZ := Lib.hid hBz
                              clear HNE HA9
                              go_wp2_with (go_at_call 21; refine (CL.out _).mono ?_; rintro _ w9 ⟨rfl, B9⟩)
                              go_ret
                              exact ⟨rfl, link (link (link (link B1 HB6.out) HB10.out) HBZ.out) B9⟩
                    · obtain rfl : Es = 5 := by have := hEs.out; have := HE.out; omega
                      clear HE hEt hEd hEs HMB HUP
                      go_wp2_with (go_at_call 21; refine (CL.out _).mono ?_; rintro _ w9 ⟨rfl, B9⟩)
                      go_ret
                      exact ⟨rfl, link (link (link B1 HB6.out) hB10) B9⟩
                  · obtain rfl : Es = 5 := by have := hEs.out; have := HE.out; omega
                    clear HE hEt hEs HMB HUP
                    rcases hEd.out with rfl | rfl
                    · clear hEd
                      go_wp2_with (go_at_call 21; refine (CL.out _).mono ?_; rintro _ w9 ⟨rfl, B9⟩)
                      go_ret
                      exact ⟨rfl, link (link (link B1 HB6.out) hB10) B9⟩
                    · clear hEd
                      go_wp2_with (go_at_call 21; refine (CL.out _).mono ?_; rintro _ w9 ⟨rfl, B9⟩)
                      go_ret
                      exact ⟨rfl, link (link (link B1 HB6.out) hB10) B9⟩
                · skip
                  obtain rfl : j = c := by omega
                  have T2 := Lib.hid (fun V (hV : Below W6.heap.size W6 V) => CS.out (S.drop j) (some ⟨g, 0, none⟩) nj cj (by rw [List.length_drop, HK.out]; exact hnj) (by omega) (fun x hx => HSI x (List.mem_of_mem_drop hx)) V (fun h => absurd (List.drop_eq_nil_of_le (by rw [HK.out]; omega)) h))
                  clear CS CQ
                  have HMB := Lib.hid (fun (e1 : shsE P H (S.take j) = 0) (e2 : shsE P H (S.drop j) = 0) (z : Int) => mem_both e1 e2 (z := z))
                  rw [List.take_append_drop] at HMB
                  have HUP := Lib.hid (fun (i : Nat) (x y : Int) (hx : (shsL P H S)[i]? = some x) (hy : (shsL P H S)[i + 1]? = some y) => shsL_up hx hy)
                  have l1 := HF.out (S.take j)
                  have l2 := HF.out (S.drop j)
                  have l3 := HF.out S
                  obtain ⟨Nt, hNt⟩ : ∃ N, (shsL P H (S.take j)).length = N := ⟨_, rfl⟩
                  obtain ⟨Nd, hNd⟩ : ∃ N, (shsL P H (S.drop j)).length = N := ⟨_, rfl⟩
                  obtain ⟨Ns, hNs⟩ : ∃ N, (shsL P H S).length = N := ⟨_, rfl⟩
                  rw [hNt] at l1
                  rw [hNd] at l2
                  rw [hNs] at l3
                  have HNt := Lib.hid hNt
                  have HNd := Lib.hid hNd
                  have HNs := Lib.hid hNs
                  clear hNt hNd hNs HSI HSA HF HL
                  generalize shsE P H (S.take j) = Et at *
                  generalize shsE P H (S.drop j) = Ed at *
                  generalize shsE P H S = Es at *
                  generalize shsL P H (S.take j) = Mt at *
                  generalize shsL P H (S.drop j) = Md at *
                  generalize shsL P H S = Ms at *
                  go_upto_region 18 with (go_at_call 32; refine (T1.out _ HBX.out).mono ?_; intro _ w7 h7; obtain ⟨q7, c7, rfl, k7, A7, B7⟩ := h7.give HNt.out; have hB7 := HBX.out.trans (B7.mono HBX.out.size))
                  clear T1 h7
                  go_upto_region 19 with (go_at_call 32; refine (T2.out _ hB7).mono ?_; intro _ w8 h8; obtain ⟨q8, c8, rfl, k8, A8, B8⟩ := h8.give HNd.out; have hB8 := hB7.trans (B8.mono hB7.size))
                  clear T2 h8
                  go_upto_region 20 with (go_at_call 32; refine (T3.out _ hB8).mono ?_; intro _ w10 h10; obtain ⟨q10, c10, rfl, k10, A10, B10⟩ := h10.give HNs.out; have hB10 := hB8.trans (B10.mono hB8.size))
                  clear T3 h10 hjc hjcz hkcz hcj hnj hjk hjkz
                  rcases hEt.out with rfl | rfl
                  · rcases hEd.out with rfl | rfl
                    · obtain rfl : Es = 0 := HE.out.2 ⟨rfl, rfl⟩
                      have HMZ := Lib.hid (HMB.out rfl rfl)
                      clear HE hEt hEd hEs HMB
                      have A7 := (A7.keep B8).keep B10
                      have A8 := A8.keep B10
                      have HB10 := Lib.hid hB10
                      have HA7 := Lib.hid A7
                      have HA8 := Lib.hid A8
                      have HA10 := Lib.hid A10
                      clear A7 A8 A10 B7 B8 B10 hB7 hB8 hB10
                      go_wp2
                      go_loopw [29] (fun v wx => ARel w10 Ns v wx) (fun v _ => Ns - (intOf v).toNat)
                      case atStart => exact ⟨0, rfl, Nat.zero_le _, Below.refl _ _⟩
                      case round =>
                        obtain ⟨i, rfl, hi, hBy⟩ := hrel
                        rcases Nat.lt_or_ge i Ns with hlt | hge
                        · have hltz : (i : Int) < (Ns : Int) := by omega
                          obtain ⟨x, hx⟩ : ∃ x, Ms[i]? = some x := ⟨_, List.getElem?_eq_getElem (by rw [HNs.out]; exact hlt)⟩
                          obtain ⟨b, off, rfl, hL⟩ := HA10.out.get (i := i) (by rw [HNs.out]; exact hlt)
                          have CX := Lib.hid (fun (W : World) (hW : Below w10.heap.size w10 W) => lay_int (hL.keep hW) hx)
                          have HT := Lib.hid (fun V (hV : Below w10.heap.size w10 V) => has_any Mt x q7 Nt c7 HNt.out (by omega) V (HA7.out.keep hV))
                          have HD := Lib.hid (fun V (hV : Below w10.heap.size w10 V) => has_any Md x q8 Nd c8 HNd.out (by omega) V (HA8.out.keep hV))
                          have hm := (HMZ.out x).1 (List.mem_of_getElem? hx)
                          have hm : decide (x ∈ Mt) = true ∨ decide (x ∈ Md) = true := by simpa using hm
                          generalize decide (x ∈ Mt) = f1 at HT hm
                          generalize decide (x ∈ Md) = f2 at HD hm
                          rcases Nat.eq_zero_or_pos i with hi0 | hi0
                          · have hgt : ¬ (i : Int) > 0 := by omega
                            clear hL hx hi0
                            go_upto_region 25 with (fail)
                            rcases f1 with _ | _
                            · obtain rfl : f2 = true := by rcases hm with h | h; exact absurd h (by decide); exact h
                              clear hm
                              refine wp_region_held_drew (S := fun w' => Below w10.heap.size w10 w') (by kernel_rfl) (below_drew (hBy)) (fun _ => ?_)
                              have hHeld : Below w10.heap.size w10 wr.drew := below_drew (hBy)
                              generalize wr.drew = V0 at hHeld ⊢
                              refine wt (i := 0) (oi := ⟨some 172, .move (.tmp 23), 44, "law.go:178", #[], none⟩) (v := .slice q7 Nt c7) (Or.inl ⟨by rfl, fun w' hSw => by go_simp⟩) hHeld ?_
                              try simp only [zP, zQ, zS, zZ, zC]
                              refine wt (i := 1) (oi := ⟨some 173, .move (.tmp 27), 44, "law.go:178", #[], none⟩) (v := .slice (some ⟨b, off, none⟩) Ns c10) (Or.inl ⟨by rfl, fun w' hSw => by go_simp⟩) hHeld ?_
                              try simp only [zP, zQ, zS, zZ, zC]
                              refine wt (i := 2) (oi := ⟨some 174, .move (.tmp 29), 3, "law.go:178", #[], none⟩) (v := .int .i64 (i : Int)) (Or.inl ⟨by rfl, fun w' hSw => by go_simp⟩) hHeld ?_
                              try simp only [zP, zQ, zS, zZ, zC]
                              refine wt (i := 3) (oi := ⟨some 175, .indexAddr 44 (.tmp 173) (.tmp 174), 0, "law.go:178", #[⟨1, .data⟩, ⟨2, .data⟩], none⟩) (v := .pointer (some ⟨b, off + i, none⟩)) (Or.inl ⟨by rfl, fun w' hSw => by go_simp⟩) hHeld ?_
                              try simp only [zP, zQ, zS, zZ, zC]
                              refine wt (i := 4) (oi := ⟨some 176, .load 3 (.tmp 175), 3, "law.go:178", #[⟨3, .data⟩], none⟩) (v := .int .i64 x) (Or.inl ⟨by rfl, fun w' hSw => by have c9 := CX.out w' hSw; go_simp⟩) hHeld ?_
                              try simp only [zP, zQ, zS, zZ, zC]
                              refine wpAnyH_ready (rs := [5]) (by kernel_rfl) (by simp) ?_
                              refine AllReadyH.cons (o := ⟨some 177, .call { callee := .value (.func 35), args := #[.tmp 172, .tmp 176], argTypes := #[44, 3] }, 4, "law.go:178", #[⟨0, .data⟩, ⟨4, .data⟩], none⟩) rfl (fun K hK => ?_) AllReadyH.nil
                              rw [if_pos (by rfl)]
                              go_simp
                              refine (HT.out _ hHeld).mono ?_
                              rintro _ _ ⟨rfl, rfl⟩
                              dsimp only
                              refine hK.out _ _ (hHeld) (fun hHeld => ?_)
                              clear hK K
                              try simp only [zP, zQ, zS, zZ, zC]
                              refine wt (i := 6) (oi := ⟨some 178, .unOp .not 4 (.tmp 177), 4, "law.go:178", #[⟨5, .data⟩], none⟩) (v := .bool true) (Or.inl ⟨by rfl, fun w' hSw => by go_simp⟩) hHeld ?_
                              try simp only [zP, zQ, zS, zZ, zC]
                              refine wt (i := 7) (oi := ⟨some 179, .move (.tmp 178), 4, "law.go:178", #[⟨6, .data⟩, ⟨5, .chain⟩], none⟩) (v := .bool true) (Or.inl ⟨by rfl, fun w' hSw => by go_simp⟩) hHeld ?_
                              try simp only [zP, zQ, zS, zZ, zC]
                              refine wt (i := 8) (oi := ⟨some 180, .move (.tmp 25), 44, "law.go:178", #[⟨7, .guard⟩], some (7, true)⟩) (v := .slice q8 Nd c8) (Or.inl ⟨by rfl, fun w' hSw => by go_simp⟩) hHeld ?_
                              try simp only [zP, zQ, zS, zZ, zC]
                              refine wt (i := 9) (oi := ⟨some 181, .move (.tmp 27), 44, "law.go:178", #[⟨7, .guard⟩], some (7, true)⟩) (v := .slice (some ⟨b, off, none⟩) Ns c10) (Or.inl ⟨by rfl, fun w' hSw => by go_simp⟩) hHeld ?_
                              try simp only [zP, zQ, zS, zZ, zC]
                              refine wt (i := 10) (oi := ⟨some 182, .move (.tmp 29), 3, "law.go:178", #[⟨7, .guard⟩], some (7, true)⟩) (v := .int .i64 (i : Int)) (Or.inl ⟨by rfl, fun w' hSw => by go_simp⟩) hHeld ?_
                              try simp only [zP, zQ, zS, zZ, zC]
                              refine wt (i := 11) (oi := ⟨some 183, .indexAddr 44 (.tmp 181) (.tmp 182), 0, "law.go:178", #[⟨9, .data⟩, ⟨10, .data⟩, ⟨7, .guard⟩], some (7, true)⟩) (v := .pointer (some ⟨b, off + i, none⟩)) (Or.inl ⟨by rfl, fun w' hSw => by go_simp⟩) hHeld ?_
                              try simp only [zP, zQ, zS, zZ, zC]
                              refine wt (i := 12) (oi := ⟨some 184, .load 3 (.tmp 183), 3, "law.go:178", #[⟨11, .data⟩, ⟨7, .guard⟩], some (7, true)⟩) (v := .int .i64 x) (Or.inl ⟨by rfl, fun w' hSw => by have c9 := CX.out w' hSw; go_simp⟩) hHeld ?_
                              try simp only [zP, zQ, zS, zZ, zC]
                              refine wpAnyH_ready (rs := [13]) (by kernel_rfl) (by simp) ?_
                              refine AllReadyH.cons (o := ⟨some 185, .call { callee := .value (.func 35), args := #[.tmp 180, .tmp 184], argTypes := #[44, 3] }, 4, "law.go:178", #[⟨8, .data⟩, ⟨12, .data⟩, ⟨7, .chain⟩, ⟨7, .guard⟩], some (7, true)⟩) rfl (fun K hK => ?_) AllReadyH.nil
                              rw [if_pos (by rfl)]
                              go_simp
                              refine (HD.out _ hHeld).mono ?_
                              rintro _ _ ⟨rfl, rfl⟩
                              dsimp only
                              refine hK.out _ _ (hHeld) (fun hHeld => ?_)
                              clear hK K
                              try simp only [zP, zQ, zS, zZ, zC]
                              refine wt (i := 14) (oi := ⟨some 186, .unOp .not 4 (.tmp 185), 4, "law.go:178", #[⟨13, .data⟩, ⟨7, .guard⟩], some (7, true)⟩) (v := .bool false) (Or.inl ⟨by rfl, fun w' hSw => by go_simp⟩) hHeld ?_
                              try simp only [zP, zQ, zS, zZ, zC]
                              refine wt (i := 15) (oi := ⟨some 187, .pick (.tmp 179) (.tmp 186) (.const (Value.bool false)), 4, "law.go:178", #[⟨7, .data⟩, ⟨14, .data⟩], none⟩) (v := .bool false) (Or.inl ⟨by rfl, fun w' hSw => by go_simp⟩) hHeld ?_
                              try simp only [zP, zQ, zS, zZ, zC]
                              refine wt (i := 16) (oi := ⟨some 188, .move (.tmp 187), 4, "law.go:178", #[⟨15, .data⟩, ⟨13, .chain⟩], none⟩) (v := .bool false) (Or.inl ⟨by rfl, fun w' hSw => by go_simp⟩) hHeld ?_
                              try simp only [zP, zQ, zS, zZ, zC]
                              refine wt (i := 17) (oi := ⟨some 189, .move (.tmp 29), 3, "law.go:178", #[⟨16, .guard⟩], some (16, false)⟩) (v := .int .i64 (i : Int)) (Or.inl ⟨by rfl, fun w' hSw => by go_simp⟩) hHeld ?_
                              try simp only [zP, zQ, zS, zZ, zC]
                              refine wt (i := 18) (oi := ⟨some 190, .binOp .gtr 3 (.tmp 189) (.const (Value.int IntKind.i64 0)) 3, 4, "law.go:178", #[⟨17, .data⟩, ⟨16, .guard⟩], some (16, false)⟩) (v := .bool false) (Or.inl ⟨by rfl, fun w' hSw => by go_simp; omega⟩) hHeld ?_
                              try simp only [zP, zQ, zS, zZ, zC]
                              refine wt (i := 19) (oi := ⟨some 191, .move (.tmp 190), 4, "law.go:178", #[⟨18, .data⟩, ⟨16, .chain⟩, ⟨16, .guard⟩], some (16, false)⟩) (v := .bool false) (Or.inl ⟨by rfl, fun w' hSw => by go_simp⟩) hHeld ?_
                              try simp only [zP, zQ, zS, zZ, zC]
                              refine wt (i := 20) (oi := ⟨some 192, .move (.tmp 27), 44, "law.go:178", #[⟨19, .guard⟩], some (19, true)⟩) (v := undef) (Or.inr ⟨by rfl, rfl⟩) hHeld ?_
                              try simp only [zP, zQ, zS, zZ, zC]
                              refine wt (i := 21) (oi := ⟨some 193, .move (.tmp 29), 3, "law.go:178", #[⟨19, .guard⟩], some (19, true)⟩) (v := undef) (Or.inr ⟨by rfl, rfl⟩) hHeld ?_
                              try simp only [zP, zQ, zS, zZ, zC]
                              refine wt (i := 22) (oi := ⟨some 194, .binOp .sub 3 (.tmp 193) (.const (Value.int IntKind.i64 1)) 3, 3, "law.go:178", #[⟨21, .data⟩, ⟨19, .guard⟩], some (19, true)⟩) (v := undef) (Or.inr ⟨by rfl, rfl⟩) hHeld ?_
                              try simp only [zP, zQ, zS, zZ, zC]
                              refine wt (i := 23) (oi := ⟨some 195, .call { callee := .builtin .max, args := #[.tmp 194, .const (Value.int IntKind.i64 0)], argTypes := #[3, 3] }, 3, "law.go:178", #[⟨22, .data⟩, ⟨19, .guard⟩], some (19, true)⟩) (v := undef) (Or.inr ⟨by rfl, rfl⟩) hHeld ?_
                              try simp only [zP, zQ, zS, zZ, zC]
                              refine wt (i := 24) (oi := ⟨some 196, .indexAddr 44 (.tmp 192) (.tmp 195), 0, "law.go:178", #[⟨20, .data⟩, ⟨23, .data⟩, ⟨19, .guard⟩], some (19, true)⟩) (v := undef) (Or.inr ⟨by rfl, rfl⟩) hHeld ?_
                              try simp only [zP, zQ, zS, zZ, zC]
                              refine wt (i := 25) (oi := ⟨some 197, .load 3 (.tmp 196), 3, "law.go:178", #[⟨24, .data⟩, ⟨19, .guard⟩], some (19, true)⟩) (v := undef) (Or.inr ⟨by rfl, rfl⟩) hHeld ?_
                              try simp only [zP, zQ, zS, zZ, zC]
                              refine wt (i := 26) (oi := ⟨some 198, .move (.tmp 27), 44, "law.go:178", #[⟨19, .guard⟩], some (19, true)⟩) (v := undef) (Or.inr ⟨by rfl, rfl⟩) hHeld ?_
                              try simp only [zP, zQ, zS, zZ, zC]
                              refine wt (i := 27) (oi := ⟨some 199, .move (.tmp 29), 3, "law.go:178", #[⟨19, .guard⟩], some (19, true)⟩) (v := undef) (Or.inr ⟨by rfl, rfl⟩) hHeld ?_
                              try simp only [zP, zQ, zS, zZ, zC]
                              refine wt (i := 28) (oi := ⟨some 200, .indexAddr 44 (.tmp 198) (.tmp 199), 0, "law.go:178", #[⟨26, .data⟩, ⟨27, .data⟩, ⟨19, .guard⟩], some (19, true)⟩) (v := undef) (Or.inr ⟨by rfl, rfl⟩) hHeld ?_
                              try simp only [zP, zQ, zS, zZ, zC]
                              refine wt (i := 29) (oi := ⟨some 201, .load 3 (.tmp 200), 3, "law.go:178", #[⟨28, .data⟩, ⟨19, .guard⟩], some (19, true)⟩) (v := undef) (Or.inr ⟨by rfl, rfl⟩) hHeld ?_
                              try simp only [zP, zQ, zS, zZ, zC]
                              refine wt (i := 30) (oi := ⟨some 202, .binOp .geq 3 (.tmp 197) (.tmp 201) 3, 4, "law.go:178", #[⟨25, .data⟩, ⟨29, .data⟩, ⟨19, .guard⟩], some (19, true)⟩) (v := undef) (Or.inr ⟨by rfl, rfl⟩) hHeld ?_
                              try simp only [zP, zQ, zS, zZ, zC]
                              refine wt (i := 31) (oi := ⟨some 203, .pick (.tmp 191) (.tmp 202) (.const (Value.bool false)), 4, "law.go:178", #[⟨19, .data⟩, ⟨30, .data⟩, ⟨16, .guard⟩], some (16, false)⟩) (v := .bool false) (Or.inl ⟨by rfl, fun w' hSw => by go_simp⟩) hHeld ?_
                              try simp only [zP, zQ, zS, zZ, zC]
                              refine wt (i := 32) (oi := ⟨some 204, .pick (.tmp 188) (.const (Value.bool true)) (.tmp 203), 4, "law.go:178", #[⟨16, .data⟩, ⟨31, .data⟩], none⟩) (v := .bool false) (Or.inl ⟨by rfl, fun w' hSw => by go_simp⟩) hHeld ?_
                              try simp only [zP, zQ, zS, zZ, zC]
                              refine wpAnyH_done (by kernel_rfl) ?_ _
                              have B5 := hHeld
                              clear hHeld 
                              have hB5 := B5
                              clear B5 HT HD CX
                              go_wp2
                              exact ⟨⟨i + 1, by go_num, by omega, hB5⟩, by simp [intOf]; omega⟩
                            · clear hm HD
                              refine wp_region_held_drew (S := fun w' => Below w10.heap.size w10 w') (by kernel_rfl) (below_drew (hBy)) (fun _ => ?_)
                              have hHeld : Below w10.heap.size w10 wr.drew := below_drew (hBy)
                              generalize wr.drew = V0 at hHeld ⊢
                              refine wt (i := 0) (oi := ⟨some 172, .move (.tmp 23), 44, "law.go:178", #[], none⟩) (v := .slice q7 Nt c7) (Or.inl ⟨by rfl, fun w' hSw => by go_simp⟩) hHeld ?_
                              try simp only [zP, zQ, zS, zZ, zC]
                              refine wt (i := 1) (oi := ⟨some 173, .move (.tmp 27), 44, "law.go:178", #[], none⟩) (v := .slice (some ⟨b, off, none⟩) Ns c10) (Or.inl ⟨by rfl, fun w' hSw => by go_simp⟩) hHeld ?_
                              try simp only [zP, zQ, zS, zZ, zC]
                              refine wt (i := 2) (oi := ⟨some 174, .move (.tmp 29), 3, "law.go:178", #[], none⟩) (v := .int .i64 (i : Int)) (Or.inl ⟨by rfl, fun w' hSw => by go_simp⟩) hHeld ?_
                              try simp only [zP, zQ, zS, zZ, zC]
                              refine wt (i := 3) (oi := ⟨some 175, .indexAddr 44 (.tmp 173) (.tmp 174), 0, "law.go:178", #[⟨1, .data⟩, ⟨2, .data⟩], none⟩) (v := .pointer (some ⟨b, off + i, none⟩)) (Or.inl ⟨by rfl, fun w' hSw => by go_simp⟩) hHeld ?_
                              try simp only [zP, zQ, zS, zZ, zC]
                              refine wt (i := 4) (oi := ⟨some 176, .load 3 (.tmp 175), 3, "law.go:178", #[⟨3, .data⟩], none⟩) (v := .int .i64 x) (Or.inl ⟨by rfl, fun w' hSw => by have c9 := CX.out w' hSw; go_simp⟩) hHeld ?_
                              try simp only [zP, zQ, zS, zZ, zC]
                              refine wpAnyH_ready (rs := [5]) (by kernel_rfl) (by simp) ?_
                              refine AllReadyH.cons (o := ⟨some 177, .call { callee := .value (.func 35), args := #[.tmp 172, .tmp 176], argTypes := #[44, 3] }, 4, "law.go:178", #[⟨0, .data⟩, ⟨4, .data⟩], none⟩) rfl (fun K hK => ?_) AllReadyH.nil
                              rw [if_pos (by rfl)]
                              go_simp
                              refine (HT.out _ hHeld).mono ?_
                              rintro _ _ ⟨rfl, rfl⟩
                              dsimp only
                              refine hK.out _ _ (hHeld) (fun hHeld => ?_)
                              clear hK K
                              try simp only [zP, zQ, zS, zZ, zC]
                              refine wt (i := 6) (oi := ⟨some 178, .unOp .not 4 (.tmp 177), 4, "law.go:178", #[⟨5, .data⟩], none⟩) (v := .bool false) (Or.inl ⟨by rfl, fun w' hSw => by go_simp⟩) hHeld ?_
                              try simp only [zP, zQ, zS, zZ, zC]
                              refine wt (i := 7) (oi := ⟨some 179, .move (.tmp 178), 4, "law.go:178", #[⟨6, .data⟩, ⟨5, .chain⟩], none⟩) (v := .bool false) (Or.inl ⟨by rfl, fun w' hSw => by go_simp⟩) hHeld ?_
                              try simp only [zP, zQ, zS, zZ, zC]
                              refine wt (i := 8) (oi := ⟨some 180, .move (.tmp 25), 44, "law.go:178", #[⟨7, .guard⟩], some (7, true)⟩) (v := undef) (Or.inr ⟨by rfl, rfl⟩) hHeld ?_
                              try simp only [zP, zQ, zS, zZ, zC]
                              refine wt (i := 9) (oi := ⟨some 181, .move (.tmp 27), 44, "law.go:178", #[⟨7, .guard⟩], some (7, true)⟩) (v := undef) (Or.inr ⟨by rfl, rfl⟩) hHeld ?_
                              try simp only [zP, zQ, zS, zZ, zC]
                              refine wt (i := 10) (oi := ⟨some 182, .move (.tmp 29), 3, "law.go:178", #[⟨7, .guard⟩], some (7, true)⟩) (v := undef) (Or.inr ⟨by rfl, rfl⟩) hHeld ?_
                              try simp only [zP, zQ, zS, zZ, zC]
                              refine wt (i := 11) (oi := ⟨some 183, .indexAddr 44 (.tmp 181) (.tmp 182), 0, "law.go:178", #[⟨9, .data⟩, ⟨10, .data⟩, ⟨7, .guard⟩], some (7, true)⟩) (v := undef) (Or.inr ⟨by rfl, rfl⟩) hHeld ?_
                              try simp only [zP, zQ, zS, zZ, zC]
                              refine wt (i := 12) (oi := ⟨some 184, .load 3 (.tmp 183), 3, "law.go:178", #[⟨11, .data⟩, ⟨7, .guard⟩], some (7, true)⟩) (v := undef) (Or.inr ⟨by rfl, rfl⟩) hHeld ?_
                              try simp only [zP, zQ, zS, zZ, zC]
                              refine wt (i := 13) (oi := ⟨some 185, .call { callee := .value (.func 35), args := #[.tmp 180, .tmp 184], argTypes := #[44, 3] }, 4, "law.go:178", #[⟨8, .data⟩, ⟨12, .data⟩, ⟨7, .chain⟩, ⟨7, .guard⟩], some (7, true)⟩) (v := undef) (Or.inr ⟨by rfl, rfl⟩) hHeld ?_
                              try simp only [zP, zQ, zS, zZ, zC]
                              refine wt (i := 14) (oi := ⟨some 186, .unOp .not 4 (.tmp 185), 4, "law.go:178", #[⟨13, .data⟩, ⟨7, .guard⟩], some (7, true)⟩) (v := undef) (Or.inr ⟨by rfl, rfl⟩) hHeld ?_
                              try simp only [zP, zQ, zS, zZ, zC]
                              refine wt (i := 15) (oi := ⟨some 187, .pick (.tmp 179) (.tmp 186) (.const (Value.bool false)), 4, "law.go:178", #[⟨7, .data⟩, ⟨14, .data⟩], none⟩) (v := .bool false) (Or.inl ⟨by rfl, fun w' hSw => by go_simp⟩) hHeld ?_
                              try simp only [zP, zQ, zS, zZ, zC]
                              refine wt (i := 16) (oi := ⟨some 188, .move (.tmp 187), 4, "law.go:178", #[⟨15, .data⟩, ⟨13, .chain⟩], none⟩) (v := .bool false) (Or.inl ⟨by rfl, fun w' hSw => by go_simp⟩) hHeld ?_
                              try simp only [zP, zQ, zS, zZ, zC]
                              refine wt (i := 17) (oi := ⟨some 189, .move (.tmp 29), 3, "law.go:178", #[⟨16, .guard⟩], some (16, false)⟩) (v := .int .i64 (i : Int)) (Or.inl ⟨by rfl, fun w' hSw => by go_simp⟩) hHeld ?_
                              try simp only [zP, zQ, zS, zZ, zC]
                              refine wt (i := 18) (oi := ⟨some 190, .binOp .gtr 3 (.tmp 189) (.const (Value.int IntKind.i64 0)) 3, 4, "law.go:178", #[⟨17, .data⟩, ⟨16, .guard⟩], some (16, false)⟩) (v := .bool false) (Or.inl ⟨by rfl, fun w' hSw => by go_simp; omega⟩) hHeld ?_
                              try simp only [zP, zQ, zS, zZ, zC]
                              refine wt (i := 19) (oi := ⟨some 191, .move (.tmp 190), 4, "law.go:178", #[⟨18, .data⟩, ⟨16, .chain⟩, ⟨16, .guard⟩], some (16, false)⟩) (v := .bool false) (Or.inl ⟨by rfl, fun w' hSw => by go_simp⟩) hHeld ?_
                              try simp only [zP, zQ, zS, zZ, zC]
                              refine wt (i := 20) (oi := ⟨some 192, .move (.tmp 27), 44, "law.go:178", #[⟨19, .guard⟩], some (19, true)⟩) (v := undef) (Or.inr ⟨by rfl, rfl⟩) hHeld ?_
                              try simp only [zP, zQ, zS, zZ, zC]
                              refine wt (i := 21) (oi := ⟨some 193, .move (.tmp 29), 3, "law.go:178", #[⟨19, .guard⟩], some (19, true)⟩) (v := undef) (Or.inr ⟨by rfl, rfl⟩) hHeld ?_
                              try simp only [zP, zQ, zS, zZ, zC]
                              refine wt (i := 22) (oi := ⟨some 194, .binOp .sub 3 (.tmp 193) (.const (Value.int IntKind.i64 1)) 3, 3, "law.go:178", #[⟨21, .data⟩, ⟨19, .guard⟩], some (19, true)⟩) (v := undef) (Or.inr ⟨by rfl, rfl⟩) hHeld ?_
                              try simp only [zP, zQ, zS, zZ, zC]
                              refine wt (i := 23) (oi := ⟨some 195, .call { callee := .builtin .max, args := #[.tmp 194, .const (Value.int IntKind.i64 0)], argTypes := #[3, 3] }, 3, "law.go:178", #[⟨22, .data⟩, ⟨19, .guard⟩], some (19, true)⟩) (v := undef) (Or.inr ⟨by rfl, rfl⟩) hHeld ?_
                              try simp only [zP, zQ, zS, zZ, zC]
                              refine wt (i := 24) (oi := ⟨some 196, .indexAddr 44 (.tmp 192) (.tmp 195), 0, "law.go:178", #[⟨20, .data⟩, ⟨23, .data⟩, ⟨19, .guard⟩], some (19, true)⟩) (v := undef) (Or.inr ⟨by rfl, rfl⟩) hHeld ?_
                              try simp only [zP, zQ, zS, zZ, zC]
                              refine wt (i := 25) (oi := ⟨some 197, .load 3 (.tmp 196), 3, "law.go:178", #[⟨24, .data⟩, ⟨19, .guard⟩], some (19, true)⟩) (v := undef) (Or.inr ⟨by rfl, rfl⟩) hHeld ?_
                              try simp only [zP, zQ, zS, zZ, zC]
                              refine wt (i := 26) (oi := ⟨some 198, .move (.tmp 27), 44, "law.go:178", #[⟨19, .guard⟩], some (19, true)⟩) (v := undef) (Or.inr ⟨by rfl, rfl⟩) hHeld ?_
                              try simp only [zP, zQ, zS, zZ, zC]
                              refine wt (i := 27) (oi := ⟨some 199, .move (.tmp 29), 3, "law.go:178", #[⟨19, .guard⟩], some (19, true)⟩) (v := undef) (Or.inr ⟨by rfl, rfl⟩) hHeld ?_
                              try simp only [zP, zQ, zS, zZ, zC]
                              refine wt (i := 28) (oi := ⟨some 200, .indexAddr 44 (.tmp 198) (.tmp 199), 0, "law.go:178", #[⟨26, .data⟩, ⟨27, .data⟩, ⟨19, .guard⟩], some (19, true)⟩) (v := undef) (Or.inr ⟨by rfl, rfl⟩) hHeld ?_
                              try simp only [zP, zQ, zS, zZ, zC]
                              refine wt (i := 29) (oi := ⟨some 201, .load 3 (.tmp 200), 3, "law.go:178", #[⟨28, .data⟩, ⟨19, .guard⟩], some (19, true)⟩) (v := undef) (Or.inr ⟨by rfl, rfl⟩) hHeld ?_
                              try simp only [zP, zQ, zS, zZ, zC]
                              refine wt (i := 30) (oi := ⟨some 202, .binOp .geq 3 (.tmp 197) (.tmp 201) 3, 4, "law.go:178", #[⟨25, .data⟩, ⟨29, .data⟩, ⟨19, .guard⟩], some (19, true)⟩) (v := undef) (Or.inr ⟨by rfl, rfl⟩) hHeld ?_
                              try simp only [zP, zQ, zS, zZ, zC]
                              refine wt (i := 31) (oi := ⟨some 203, .pick (.tmp 191) (.tmp 202) (.const (Value.bool false)), 4, "law.go:178", #[⟨19, .data⟩, ⟨30, .data⟩, ⟨16, .guard⟩], some (16, false)⟩) (v := .bool false) (Or.inl ⟨by rfl, fun w' hSw => by go_simp⟩) hHeld ?_
                              try simp only [zP, zQ, zS, zZ, zC]
                              refine wt (i := 32) (oi := ⟨some 204, .pick (.tmp 188) (.const (Value.bool true)) (.tmp 203), 4, "law.go:178", #[⟨16, .data⟩, ⟨31, .data⟩], none⟩) (v := .bool false) (Or.inl ⟨by rfl, fun w' hSw => by go_simp⟩) hHeld ?_
                              try simp only [zP, zQ, zS, zZ, zC]
                              refine wpAnyH_done (by kernel_rfl) ?_ _
                              have B5 := hHeld
                              clear hHeld 
                              have hB5 := B5
                              clear B5 HT CX
                              go_wp2
                              exact ⟨⟨i + 1, by go_num, by omega, hB5⟩, by simp [intOf]; omega⟩
                          · have hgt : (i : Int) > 0 := by omega
                            obtain ⟨i1, hi1⟩ : ∃ i1, i1 + 1 = i := ⟨i - 1, by omega⟩
                            obtain ⟨y, hy⟩ : ∃ y, Ms[i1]? = some y := ⟨_, List.getElem?_eq_getElem (by rw [HNs.out]; omega)⟩
                            have CY := Lib.hid (fun (W : World) (hW : Below w10.heap.size w10 W) => lay_int (hL.keep hW) hy)
                            have hyx : ¬ y ≥ x := by
                              have := HUP.out i1 y x hy (by rw [hi1]; exact hx)
                              omega
                            have hs1 : IntKind.i64.wrap ((i : Int) - 1) = (i1 : Int) := wrap_in (by omega) (by omega)|>.trans (by omega)
                            have hs2 : ¬ (i1 : Int) < 0 := by omega
                            have hs3 : (if (i1 : Int) < 0 then (0 : Int) else (i1 : Int)) = (i1 : Int) := if_neg hs2
                            have hs4 : (i1 : Int) < (Ns : Int) := by omega
                            clear hL hx hy hi0
                            go_upto_region 25 with (fail)
                            rcases f1 with _ | _
                            · obtain rfl : f2 = true := by rcases hm with h | h; exact absurd h (by decide); exact h
                              clear hm
                              refine wp_region_held_drew (S := fun w' => Below w10.heap.size w10 w') (by kernel_rfl) (below_drew (hBy)) (fun _ => ?_)
                              have hHeld : Below w10.heap.size w10 wr.drew := below_drew (hBy)
                              generalize wr.drew = V0 at hHeld ⊢
                              refine wt (i := 0) (oi := ⟨some 172, .move (.tmp 23), 44, "law.go:178", #[], none⟩) (v := .slice q7 Nt c7) (Or.inl ⟨by rfl, fun w' hSw => by go_simp⟩) hHeld ?_
                              try simp only [zP, zQ, zS, zZ, zC]
                              refine wt (i := 1) (oi := ⟨some 173, .move (.tmp 27), 44, "law.go:178", #[], none⟩) (v := .slice (some ⟨b, off, none⟩) Ns c10) (Or.inl ⟨by rfl, fun w' hSw => by go_simp⟩) hHeld ?_
                              try simp only [zP, zQ, zS, zZ, zC]
                              refine wt (i := 2) (oi := ⟨some 174, .move (.tmp 29), 3, "law.go:178", #[], none⟩) (v := .int .i64 (i : Int)) (Or.inl ⟨by rfl, fun w' hSw => by go_simp⟩) hHeld ?_
                              try simp only [zP, zQ, zS, zZ, zC]
                              refine wt (i := 3) (oi := ⟨some 175, .indexAddr 44 (.tmp 173) (.tmp 174), 0, "law.go:178", #[⟨1, .data⟩, ⟨2, .data⟩], none⟩) (v := .pointer (some ⟨b, off + i, none⟩)) (Or.inl ⟨by rfl, fun w' hSw => by go_simp⟩) hHeld ?_
                              try simp only [zP, zQ, zS, zZ, zC]
                              refine wt (i := 4) (oi := ⟨some 176, .load 3 (.tmp 175), 3, "law.go:178", #[⟨3, .data⟩], none⟩) (v := .int .i64 x) (Or.inl ⟨by rfl, fun w' hSw => by have c9 := CX.out w' hSw; go_simp⟩) hHeld ?_
                              try simp only [zP, zQ, zS, zZ, zC]
                              refine wpAnyH_ready (rs := [5]) (by kernel_rfl) (by simp) ?_
                              refine AllReadyH.cons (o := ⟨some 177, .call { callee := .value (.func 35), args := #[.tmp 172, .tmp 176], argTypes := #[44, 3] }, 4, "law.go:178", #[⟨0, .data⟩, ⟨4, .data⟩], none⟩) rfl (fun K hK => ?_) AllReadyH.nil
                              rw [if_pos (by rfl)]
                              go_simp
                              refine (HT.out _ hHeld).mono ?_
                              rintro _ _ ⟨rfl, rfl⟩
                              dsimp only
                              refine hK.out _ _ (hHeld) (fun hHeld => ?_)
                              clear hK K
                              try simp only [zP, zQ, zS, zZ, zC]
                              refine wt (i := 6) (oi := ⟨some 178, .unOp .not 4 (.tmp 177), 4, "law.go:178", #[⟨5, .data⟩], none⟩) (v := .bool true) (Or.inl ⟨by rfl, fun w' hSw => by go_simp⟩) hHeld ?_
                              try simp only [zP, zQ, zS, zZ, zC]
                              refine wt (i := 7) (oi := ⟨some 179, .move (.tmp 178), 4, "law.go:178", #[⟨6, .data⟩, ⟨5, .chain⟩], none⟩) (v := .bool true) (Or.inl ⟨by rfl, fun w' hSw => by go_simp⟩) hHeld ?_
                              try simp only [zP, zQ, zS, zZ, zC]
                              refine wt (i := 8) (oi := ⟨some 180, .move (.tmp 25), 44, "law.go:178", #[⟨7, .guard⟩], some (7, true)⟩) (v := .slice q8 Nd c8) (Or.inl ⟨by rfl, fun w' hSw => by go_simp⟩) hHeld ?_
                              try simp only [zP, zQ, zS, zZ, zC]
                              refine wt (i := 9) (oi := ⟨some 181, .move (.tmp 27), 44, "law.go:178", #[⟨7, .guard⟩], some (7, true)⟩) (v := .slice (some ⟨b, off, none⟩) Ns c10) (Or.inl ⟨by rfl, fun w' hSw => by go_simp⟩) hHeld ?_
                              try simp only [zP, zQ, zS, zZ, zC]
                              refine wt (i := 10) (oi := ⟨some 182, .move (.tmp 29), 3, "law.go:178", #[⟨7, .guard⟩], some (7, true)⟩) (v := .int .i64 (i : Int)) (Or.inl ⟨by rfl, fun w' hSw => by go_simp⟩) hHeld ?_
                              try simp only [zP, zQ, zS, zZ, zC]
                              refine wt (i := 11) (oi := ⟨some 183, .indexAddr 44 (.tmp 181) (.tmp 182), 0, "law.go:178", #[⟨9, .data⟩, ⟨10, .data⟩, ⟨7, .guard⟩], some (7, true)⟩) (v := .pointer (some ⟨b, off + i, none⟩)) (Or.inl ⟨by rfl, fun w' hSw => by go_simp⟩) hHeld ?_
                              try simp only [zP, zQ, zS, zZ, zC]
                              refine wt (i := 12) (oi := ⟨some 184, .load 3 (.tmp 183), 3, "law.go:178", #[⟨11, .data⟩, ⟨7, .guard⟩], some (7, true)⟩) (v := .int .i64 x) (Or.inl ⟨by rfl, fun w' hSw => by have c9 := CX.out w' hSw; go_simp⟩) hHeld ?_
                              try simp only [zP, zQ, zS, zZ, zC]
                              refine wpAnyH_ready (rs := [13]) (by kernel_rfl) (by simp) ?_
                              refine AllReadyH.cons (o := ⟨some 185, .call { callee := .value (.func 35), args := #[.tmp 180, .tmp 184], argTypes := #[44, 3] }, 4, "law.go:178", #[⟨8, .data⟩, ⟨12, .data⟩, ⟨7, .chain⟩, ⟨7, .guard⟩], some (7, true)⟩) rfl (fun K hK => ?_) AllReadyH.nil
                              rw [if_pos (by rfl)]
                              go_simp
                              refine (HD.out _ hHeld).mono ?_
                              rintro _ _ ⟨rfl, rfl⟩
                              dsimp only
                              refine hK.out _ _ (hHeld) (fun hHeld => ?_)
                              clear hK K
                              try simp only [zP, zQ, zS, zZ, zC]
                              refine wt (i := 14) (oi := ⟨some 186, .unOp .not 4 (.tmp 185), 4, "law.go:178", #[⟨13, .data⟩, ⟨7, .guard⟩], some (7, true)⟩) (v := .bool false) (Or.inl ⟨by rfl, fun w' hSw => by go_simp⟩) hHeld ?_
                              try simp only [zP, zQ, zS, zZ, zC]
                              refine wt (i := 15) (oi := ⟨some 187, .pick (.tmp 179) (.tmp 186) (.const (Value.bool false)), 4, "law.go:178", #[⟨7, .data⟩, ⟨14, .data⟩], none⟩) (v := .bool false) (Or.inl ⟨by rfl, fun w' hSw => by go_simp⟩) hHeld ?_
                              try simp only [zP, zQ, zS, zZ, zC]
                              refine wt (i := 16) (oi := ⟨some 188, .move (.tmp 187), 4, "law.go:178", #[⟨15, .data⟩, ⟨13, .chain⟩], none⟩) (v := .bool false) (Or.inl ⟨by rfl, fun w' hSw => by go_simp⟩) hHeld ?_
                              try simp only [zP, zQ, zS, zZ, zC]
                              refine wt (i := 17) (oi := ⟨some 189, .move (.tmp 29), 3, "law.go:178", #[⟨16, .guard⟩], some (16, false)⟩) (v := .int .i64 (i : Int)) (Or.inl ⟨by rfl, fun w' hSw => by go_simp⟩) hHeld ?_
                              try simp only [zP, zQ, zS, zZ, zC]
                              refine wt (i := 18) (oi := ⟨some 190, .binOp .gtr 3 (.tmp 189) (.const (Value.int IntKind.i64 0)) 3, 4, "law.go:178", #[⟨17, .data⟩, ⟨16, .guard⟩], some (16, false)⟩) (v := .bool true) (Or.inl ⟨by rfl, fun w' hSw => by go_simp; omega⟩) hHeld ?_
                              try simp only [zP, zQ, zS, zZ, zC]
                              refine wt (i := 19) (oi := ⟨some 191, .move (.tmp 190), 4, "law.go:178", #[⟨18, .data⟩, ⟨16, .chain⟩, ⟨16, .guard⟩], some (16, false)⟩) (v := .bool true) (Or.inl ⟨by rfl, fun w' hSw => by go_simp⟩) hHeld ?_
                              try simp only [zP, zQ, zS, zZ, zC]
                              refine wt (i := 20) (oi := ⟨some 192, .move (.tmp 27), 44, "law.go:178", #[⟨19, .guard⟩], some (19, true)⟩) (v := .slice (some ⟨b, off, none⟩) Ns c10) (Or.inl ⟨by rfl, fun w' hSw => by go_simp⟩) hHeld ?_
                              try simp only [zP, zQ, zS, zZ, zC]
                              refine wt (i := 21) (oi := ⟨some 193, .move (.tmp 29), 3, "law.go:178", #[⟨19, .guard⟩], some (19, true)⟩) (v := .int .i64 (i : Int)) (Or.inl ⟨by rfl, fun w' hSw => by go_simp⟩) hHeld ?_
                              try simp only [zP, zQ, zS, zZ, zC]
                              refine wt (i := 22) (oi := ⟨some 194, .binOp .sub 3 (.tmp 193) (.const (Value.int IntKind.i64 1)) 3, 3, "law.go:178", #[⟨21, .data⟩, ⟨19, .guard⟩], some (19, true)⟩) (v := .int .i64 (i1 : Int)) (Or.inl ⟨by rfl, fun w' hSw => by go_simp⟩) hHeld ?_
                              try simp only [zP, zQ, zS, zZ, zC]
                              refine wt (i := 23) (oi := ⟨some 195, .call { callee := .builtin .max, args := #[.tmp 194, .const (Value.int IntKind.i64 0)], argTypes := #[3, 3] }, 3, "law.go:178", #[⟨22, .data⟩, ⟨19, .guard⟩], some (19, true)⟩) (v := .int .i64 (i1 : Int)) (Or.inl ⟨by rfl, fun w' hSw => by go_simp⟩) hHeld ?_
                              try simp only [zP, zQ, zS, zZ, zC]
                              refine wt (i := 24) (oi := ⟨some 196, .indexAddr 44 (.tmp 192) (.tmp 195), 0, "law.go:178", #[⟨20, .data⟩, ⟨23, .data⟩, ⟨19, .guard⟩], some (19, true)⟩) (v := .pointer (some ⟨b, off + i1, none⟩)) (Or.inl ⟨by rfl, fun w' hSw => by go_simp⟩) hHeld ?_
                              try simp only [zP, zQ, zS, zZ, zC]
                              refine wt (i := 25) (oi := ⟨some 197, .load 3 (.tmp 196), 3, "law.go:178", #[⟨24, .data⟩, ⟨19, .guard⟩], some (19, true)⟩) (v := .int .i64 y) (Or.inl ⟨by rfl, fun w' hSw => by have c8 := CY.out w' hSw; go_simp⟩) hHeld ?_
                              try simp only [zP, zQ, zS, zZ, zC]
                              refine wt (i := 26) (oi := ⟨some 198, .move (.tmp 27), 44, "law.go:178", #[⟨19, .guard⟩], some (19, true)⟩) (v := .slice (some ⟨b, off, none⟩) Ns c10) (Or.inl ⟨by rfl, fun w' hSw => by go_simp⟩) hHeld ?_
                              try simp only [zP, zQ, zS, zZ, zC]
                              refine wt (i := 27) (oi := ⟨some 199, .move (.tmp 29), 3, "law.go:178", #[⟨19, .guard⟩], some (19, true)⟩) (v := .int .i64 (i : Int)) (Or.inl ⟨by rfl, fun w' hSw => by go_simp⟩) hHeld ?_
                              try simp only [zP, zQ, zS, zZ, zC]
                              refine wt (i := 28) (oi := ⟨some 200, .indexAddr 44 (.tmp 198) (.tmp 199), 0, "law.go:178", #[⟨26, .data⟩, ⟨27, .data⟩, ⟨19, .guard⟩], some (19, true)⟩) (v := .pointer (some ⟨b, off + i, none⟩)) (Or.inl ⟨by rfl, fun w' hSw => by go_simp⟩) hHeld ?_
                              try simp only [zP, zQ, zS, zZ, zC]
                              refine wt (i := 29) (oi := ⟨some 201, .load 3 (.tmp 200), 3, "law.go:178", #[⟨28, .data⟩, ⟨19, .guard⟩], some (19, true)⟩) (v := .int .i64 x) (Or.inl ⟨by rfl, fun w' hSw => by have c9 := CX.out w' hSw; go_simp⟩) hHeld ?_
                              try simp only [zP, zQ, zS, zZ, zC]
                              refine wt (i := 30) (oi := ⟨some 202, .binOp .geq 3 (.tmp 197) (.tmp 201) 3, 4, "law.go:178", #[⟨25, .data⟩, ⟨29, .data⟩, ⟨19, .guard⟩], some (19, true)⟩) (v := .bool false) (Or.inl ⟨by rfl, fun w' hSw => by go_simp⟩) hHeld ?_
                              try simp only [zP, zQ, zS, zZ, zC]
                              refine wt (i := 31) (oi := ⟨some 203, .pick (.tmp 191) (.tmp 202) (.const (Value.bool false)), 4, "law.go:178", #[⟨19, .data⟩, ⟨30, .data⟩, ⟨16, .guard⟩], some (16, false)⟩) (v := .bool false) (Or.inl ⟨by rfl, fun w' hSw => by go_simp⟩) hHeld ?_
                              try simp only [zP, zQ, zS, zZ, zC]
                              refine wt (i := 32) (oi := ⟨some 204, .pick (.tmp 188) (.const (Value.bool true)) (.tmp 203), 4, "law.go:178", #[⟨16, .data⟩, ⟨31, .data⟩], none⟩) (v := .bool false) (Or.inl ⟨by rfl, fun w' hSw => by go_simp⟩) hHeld ?_
                              try simp only [zP, zQ, zS, zZ, zC]
                              refine wpAnyH_done (by kernel_rfl) ?_ _
                              have B5 := hHeld
                              clear hHeld 
                              have hB5 := B5
                              clear B5 HT HD CX CY
                              go_wp2
                              exact ⟨⟨i + 1, by go_num, by omega, hB5⟩, by simp [intOf]; omega⟩
                            · clear hm HD
                              refine wp_region_held_drew (S := fun w' => Below w10.heap.size w10 w') (by kernel_rfl) (below_drew (hBy)) (fun _ => ?_)
                              have hHeld : Below w10.heap.size w10 wr.drew := below_drew (hBy)
                              generalize wr.drew = V0 at hHeld ⊢
                              refine wt (i := 0) (oi := ⟨some 172, .move (.tmp 23), 44, "law.go:178", #[], none⟩) (v := .slice q7 Nt c7) (Or.inl ⟨by rfl, fun w' hSw => by go_simp⟩) hHeld ?_
                              try simp only [zP, zQ, zS, zZ, zC]
                              refine wt (i := 1) (oi := ⟨some 173, .move (.tmp 27), 44, "law.go:178", #[], none⟩) (v := .slice (some ⟨b, off, none⟩) Ns c10) (Or.inl ⟨by rfl, fun w' hSw => by go_simp⟩) hHeld ?_
                              try simp only [zP, zQ, zS, zZ, zC]
                              refine wt (i := 2) (oi := ⟨some 174, .move (.tmp 29), 3, "law.go:178", #[], none⟩) (v := .int .i64 (i : Int)) (Or.inl ⟨by rfl, fun w' hSw => by go_simp⟩) hHeld ?_
                              try simp only [zP, zQ, zS, zZ, zC]
                              refine wt (i := 3) (oi := ⟨some 175, .indexAddr 44 (.tmp 173) (.tmp 174), 0, "law.go:178", #[⟨1, .data⟩, ⟨2, .data⟩], none⟩) (v := .pointer (some ⟨b, off + i, none⟩)) (Or.inl ⟨by rfl, fun w' hSw => by go_simp⟩) hHeld ?_
                              try simp only [zP, zQ, zS, zZ, zC]
                              refine wt (i := 4) (oi := ⟨some 176, .load 3 (.tmp 175), 3, "law.go:178", #[⟨3, .data⟩], none⟩) (v := .int .i64 x) (Or.inl ⟨by rfl, fun w' hSw => by have c9 := CX.out w' hSw; go_simp⟩) hHeld ?_
                              try simp only [zP, zQ, zS, zZ, zC]
                              refine wpAnyH_ready (rs := [5]) (by kernel_rfl) (by simp) ?_
                              refine AllReadyH.cons (o := ⟨some 177, .call { callee := .value (.func 35), args := #[.tmp 172, .tmp 176], argTypes := #[44, 3] }, 4, "law.go:178", #[⟨0, .data⟩, ⟨4, .data⟩], none⟩) rfl (fun K hK => ?_) AllReadyH.nil
                              rw [if_pos (by rfl)]
                              go_simp
                              refine (HT.out _ hHeld).mono ?_
                              rintro _ _ ⟨rfl, rfl⟩
                              dsimp only
                              refine hK.out _ _ (hHeld) (fun hHeld => ?_)
                              clear hK K
                              try simp only [zP, zQ, zS, zZ, zC]
                              refine wt (i := 6) (oi := ⟨some 178, .unOp .not 4 (.tmp 177), 4, "law.go:178", #[⟨5, .data⟩], none⟩) (v := .bool false) (Or.inl ⟨by rfl, fun w' hSw => by go_simp⟩) hHeld ?_
                              try simp only [zP, zQ, zS, zZ, zC]
                              refine wt (i := 7) (oi := ⟨some 179, .move (.tmp 178), 4, "law.go:178", #[⟨6, .data⟩, ⟨5, .chain⟩], none⟩) (v := .bool false) (Or.inl ⟨by rfl, fun w' hSw => by go_simp⟩) hHeld ?_
                              try simp only [zP, zQ, zS, zZ, zC]
                              refine wt (i := 8) (oi := ⟨some 180, .move (.tmp 25), 44, "law.go:178", #[⟨7, .guard⟩], some (7, true)⟩) (v := undef) (Or.inr ⟨by rfl, rfl⟩) hHeld ?_
                              try simp only [zP, zQ, zS, zZ, zC]
                              refine wt (i := 9) (oi := ⟨some 181, .move (.tmp 27), 44, "law.go:178", #[⟨7, .guard⟩], some (7, true)⟩) (v := undef) (Or.inr ⟨by rfl, rfl⟩) hHeld ?_
                              try simp only [zP, zQ, zS, zZ, zC]
                              refine wt (i := 10) (oi := ⟨some 182, .move (.tmp 29), 3, "law.go:178", #[⟨7, .guard⟩], some (7, true)⟩) (v := undef) (Or.inr ⟨by rfl, rfl⟩) hHeld ?_
                              try simp only [zP, zQ, zS, zZ, zC]
                              refine wt (i := 11) (oi := ⟨some 183, .indexAddr 44 (.tmp 181) (.tmp 182), 0, "law.go:178", #[⟨9, .data⟩, ⟨10, .data⟩, ⟨7, .guard⟩], some (7, true)⟩) (v := undef) (Or.inr ⟨by rfl, rfl⟩) hHeld ?_
                              try simp only [zP, zQ, zS, zZ, zC]
                              refine wt (i := 12) (oi := ⟨some 184, .load 3 (.tmp 183), 3, "law.go:178", #[⟨11, .data⟩, ⟨7, .guard⟩], some (7, true)⟩) (v := undef) (Or.inr ⟨by rfl, rfl⟩) hHeld ?_
                              try simp only [zP, zQ, zS, zZ, zC]
                              refine wt (i := 13) (oi := ⟨some 185, .call { callee := .value (.func 35), args := #[.tmp 180, .tmp 184], argTypes := #[44, 3] }, 4, "law.go:178", #[⟨8, .data⟩, ⟨12, .data⟩, ⟨7, .chain⟩, ⟨7, .guard⟩], some (7, true)⟩) (v := undef) (Or.inr ⟨by rfl, rfl⟩) hHeld ?_
                              try simp only [zP, zQ, zS, zZ, zC]
                              refine wt (i := 14) (oi := ⟨some 186, .unOp .not 4 (.tmp 185), 4, "law.go:178", #[⟨13, .data⟩, ⟨7, .guard⟩], some (7, true)⟩) (v := undef) (Or.inr ⟨by rfl, rfl⟩) hHeld ?_
                              try simp only [zP, zQ, zS, zZ, zC]
                              refine wt (i := 15) (oi := ⟨some 187, .pick (.tmp 179) (.tmp 186) (.const (Value.bool false)), 4, "law.go:178", #[⟨7, .data⟩, ⟨14, .data⟩], none⟩) (v := .bool false) (Or.inl ⟨by rfl, fun w' hSw => by go_simp⟩) hHeld ?_
                              try simp only [zP, zQ, zS, zZ, zC]
                              refine wt (i := 16) (oi := ⟨some 188, .move (.tmp 187), 4, "law.go:178", #[⟨15, .data⟩, ⟨13, .chain⟩], none⟩) (v := .bool false) (Or.inl ⟨by rfl, fun w' hSw => by go_simp⟩) hHeld ?_
                              try simp only [zP, zQ, zS, zZ, zC]
                              refine wt (i := 17) (oi := ⟨some 189, .move (.tmp 29), 3, "law.go:178", #[⟨16, .guard⟩], some (16, false)⟩) (v := .int .i64 (i : Int)) (Or.inl ⟨by rfl, fun w' hSw => by go_simp⟩) hHeld ?_
                              try simp only [zP, zQ, zS, zZ, zC]
                              refine wt (i := 18) (oi := ⟨some 190, .binOp .gtr 3 (.tmp 189) (.const (Value.int IntKind.i64 0)) 3, 4, "law.go:178", #[⟨17, .data⟩, ⟨16, .guard⟩], some (16, false)⟩) (v := .bool true) (Or.inl ⟨by rfl, fun w' hSw => by go_simp; omega⟩) hHeld ?_
                              try simp only [zP, zQ, zS, zZ, zC]
                              refine wt (i := 19) (oi := ⟨some 191, .move (.tmp 190), 4, "law.go:178", #[⟨18, .data⟩, ⟨16, .chain⟩, ⟨16, .guard⟩], some (16, false)⟩) (v := .bool true) (Or.inl ⟨by rfl, fun w' hSw => by go_simp⟩) hHeld ?_
                              try simp only [zP, zQ, zS, zZ, zC]
                              refine wt (i := 20) (oi := ⟨some 192, .move (.tmp 27), 44, "law.go:178", #[⟨19, .guard⟩], some (19, true)⟩) (v := .slice (some ⟨b, off, none⟩) Ns c10) (Or.inl ⟨by rfl, fun w' hSw => by go_simp⟩) hHeld ?_
                              try simp only [zP, zQ, zS, zZ, zC]
                              refine wt (i := 21) (oi := ⟨some 193, .move (.tmp 29), 3, "law.go:178", #[⟨19, .guard⟩], some (19, true)⟩) (v := .int .i64 (i : Int)) (Or.inl ⟨by rfl, fun w' hSw => by go_simp⟩) hHeld ?_
                              try simp only [zP, zQ, zS, zZ, zC]
                              refine wt (i := 22) (oi := ⟨some 194, .binOp .sub 3 (.tmp 193) (.const (Value.int IntKind.i64 1)) 3, 3, "law.go:178", #[⟨21, .data⟩, ⟨19, .guard⟩], some (19, true)⟩) (v := .int .i64 (i1 : Int)) (Or.inl ⟨by rfl, fun w' hSw => by go_simp⟩) hHeld ?_
                              try simp only [zP, zQ, zS, zZ, zC]
                              refine wt (i := 23) (oi := ⟨some 195, .call { callee := .builtin .max, args := #[.tmp 194, .const (Value.int IntKind.i64 0)], argTypes := #[3, 3] }, 3, "law.go:178", #[⟨22, .data⟩, ⟨19, .guard⟩], some (19, true)⟩) (v := .int .i64 (i1 : Int)) (Or.inl ⟨by rfl, fun w' hSw => by go_simp⟩) hHeld ?_
                              try simp only [zP, zQ, zS, zZ, zC]
                              refine wt (i := 24) (oi := ⟨some 196, .indexAddr 44 (.tmp 192) (.tmp 195), 0, "law.go:178", #[⟨20, .data⟩, ⟨23, .data⟩, ⟨19, .guard⟩], some (19, true)⟩) (v := .pointer (some ⟨b, off + i1, none⟩)) (Or.inl ⟨by rfl, fun w' hSw => by go_simp⟩) hHeld ?_
                              try simp only [zP, zQ, zS, zZ, zC]
                              refine wt (i := 25) (oi := ⟨some 197, .load 3 (.tmp 196), 3, "law.go:178", #[⟨24, .data⟩, ⟨19, .guard⟩], some (19, true)⟩) (v := .int .i64 y) (Or.inl ⟨by rfl, fun w' hSw => by have c8 := CY.out w' hSw; go_simp⟩) hHeld ?_
                              try simp only [zP, zQ, zS, zZ, zC]
                              refine wt (i := 26) (oi := ⟨some 198, .move (.tmp 27), 44, "law.go:178", #[⟨19, .guard⟩], some (19, true)⟩) (v := .slice (some ⟨b, off, none⟩) Ns c10) (Or.inl ⟨by rfl, fun w' hSw => by go_simp⟩) hHeld ?_
                              try simp only [zP, zQ, zS, zZ, zC]
                              refine wt (i := 27) (oi := ⟨some 199, .move (.tmp 29), 3, "law.go:178", #[⟨19, .guard⟩], some (19, true)⟩) (v := .int .i64 (i : Int)) (Or.inl ⟨by rfl, fun w' hSw => by go_simp⟩) hHeld ?_
                              try simp only [zP, zQ, zS, zZ, zC]
                              refine wt (i := 28) (oi := ⟨some 200, .indexAddr 44 (.tmp 198) (.tmp 199), 0, "law.go:178", #[⟨26, .data⟩, ⟨27, .data⟩, ⟨19, .guard⟩], some (19, true)⟩) (v := .pointer (some ⟨b, off + i, none⟩)) (Or.inl ⟨by rfl, fun w' hSw => by go_simp⟩) hHeld ?_
                              try simp only [zP, zQ, zS, zZ, zC]
                              refine wt (i := 29) (oi := ⟨some 201, .load 3 (.tmp 200), 3, "law.go:178", #[⟨28, .data⟩, ⟨19, .guard⟩], some (19, true)⟩) (v := .int .i64 x) (Or.inl ⟨by rfl, fun w' hSw => by have c9 := CX.out w' hSw; go_simp⟩) hHeld ?_
                              try simp only [zP, zQ, zS, zZ, zC]
                              refine wt (i := 30) (oi := ⟨some 202, .binOp .geq 3 (.tmp 197) (.tmp 201) 3, 4, "law.go:178", #[⟨25, .data⟩, ⟨29, .data⟩, ⟨19, .guard⟩], some (19, true)⟩) (v := .bool false) (Or.inl ⟨by rfl, fun w' hSw => by go_simp⟩) hHeld ?_
                              try simp only [zP, zQ, zS, zZ, zC]
                              refine wt (i := 31) (oi := ⟨some 203, .pick (.tmp 191) (.tmp 202) (.const (Value.bool false)), 4, "law.go:178", #[⟨19, .data⟩, ⟨30, .data⟩, ⟨16, .guard⟩], some (16, false)⟩) (v := .bool false) (Or.inl ⟨by rfl, fun w' hSw => by go_simp⟩) hHeld ?_
                              try simp only [zP, zQ, zS, zZ, zC]
                              refine wt (i := 32) (oi := ⟨some 204, .pick (.tmp 188) (.const (Value.bool true)) (.tmp 203), 4, "law.go:178", #[⟨16, .data⟩, ⟨31, .data⟩], none⟩) (v := .bool false) (Or.inl ⟨by rfl, fun w' hSw => by go_simp⟩) hHeld ?_
                              try simp only [zP, zQ, zS, zZ, zC]
                              refine wpAnyH_done (by kernel_rfl) ?_ _
                              have B5 := hHeld
                              clear hHeld 
                              have hB5 := B5
                              clear B5 HT CX CY
                              go_wp2
                              exact ⟨⟨i + 1, by go_num, by omega, hB5⟩, by simp [intOf]; omega⟩
                        · have hge2 : ¬ (i : Int) < (Ns : Int) := by omega
                          obtain rfl : i = Ns := by omega
                          clear hi hge
                          have XE := (Below.refl wr.heap.size wr).alloc (Nat.le_refl _) (.cells #[] 3)
                          have XO : OwnR intE (World.alloc wr (.cells #[] 3)) wr.heap.size (.slice (some ⟨wr.heap.size, 0, none⟩) 0 0) [] := own_new intE wr _ _ 0 rfl (by decide) rfl
                          have A7 := (HA7.out.keep hBy).keep XE
                          have A8 := (HA8.out.keep hBy).keep XE
                          have XS : wr.heap.size ≤ (World.alloc wr (.cells #[] 3)).heap.size := XE.size
                          go_upto_region 28 with (first
                            | (at_builtin; refine clone_el intE rfl (.tmp 205) (.tmp 206) rfl Mt wr.heap.size Nt c7 rfl XO XS q7 rfl HNt.out A7 (by omega) ?_; intro g' c' W8 hO8 _ _ hB8)
                            | (at_builtin; refine any_el intE rfl (.tmp 207) (.tmp 208) rfl Mt Md _ rfl hO8 (Nat.le_trans XS hB8.size) q8 Nd c8 rfl HNd.out (A8.keep hB8) (by rw [HNt.out]; omega) (by omega) ?_; intro v9 W9 hO9 hB9))
                          obtain ⟨Nb, hNb⟩ : ∃ Nb, (Mt ++ Md).length = Nb := ⟨_, rfl⟩
                          obtain ⟨q9, c9, e9, _, A9, _⟩ := hO9.form
                          rw [hNb] at e9
                          subst e9
                          have HNb := Lib.hid hNb
                          have hNb6 : Nb ≤ 1200 := by rw [← hNb, List.length_append, HNt.out, HNd.out]; omega
                          have XY := hBy.trans (((XE.trans (hB8.mono XS)).trans hB9).mono hBy.size)
                          have HA9 := Lib.hid A9
                          have HNE := Lib.hid (fun z (hz : z ∈ Mt ++ Md) => (HMZ.out z).2 (List.mem_append.1 hz))
                          clear hNb A9 hO9 hO8 XE XO A7 A8 XS hB8 hB9 hBy HMZ HUP
                          obtain ⟨wo, rfl⟩ : ∃ wo, wo = wr := ⟨_, rfl⟩
                          go_wp2
                          go_loopw [31] (fun v wx => BRel w10 W9 Nb v wx) (fun v _ => Nb - (intOf v).toNat)
                          case atStart => exact ⟨0, rfl, Nat.zero_le _, XY, Below.refl _ _⟩
                          case round =>
                            obtain ⟨i2, rfl, hi2, hBz, hBz'⟩ := hrel
                            rcases Nat.lt_or_ge i2 Nb with hlt | hge
                            · have hltz : (i2 : Int) < (Nb : Int) := by omega
                              obtain ⟨x, hx⟩ : ∃ x, (Mt ++ Md)[i2]? = some x := ⟨_, List.getElem?_eq_getElem (by rw [HNb.out]; exact hlt)⟩
                              obtain ⟨b, off, rfl, hL⟩ := HA9.out.get (i := i2) (by rw [HNb.out]; exact hlt)
                              have c0 := lay_int (hL.keep hBz') hx
                              have HT := Lib.hid (has_any Ms x q10 i c10 HNs.out (by omega) wr (HA10.out.keep hBz))
                              rw [decide_eq_true (HNE.out x (List.mem_of_getElem? hx))] at HT
                              clear hL hx
                              go_wp2_with (go_at_call 35; refine HT.out.mono ?_; rintro _ _ ⟨rfl, rfl⟩)
                              exact ⟨⟨i2 + 1, by go_num, by omega, hBz, hBz'⟩, by simp [intOf]; omega⟩
                            · have hge2 : ¬ (i2 : Int) < (Nb : Int) := by omega
                              have HBZ := Lib.hid hBz
                              clear HNE HA9
                              go_wp2_with (go_at_call 21; refine (CL.out _).mono ?_; rintro _ w9 ⟨rfl, B9⟩)
                              go_ret
                              exact ⟨rfl, link (link (link (link B1 HB6.out) HB10.out) HBZ.out) B9⟩
                    · obtain rfl : Es = 5 := by have := hEs.out; have := HE.out; omega
                      clear HE hEt hEd hEs HMB HUP
                      go_wp2_with (go_at_call 21; refine (CL.out _).mono ?_; rintro _ w9 ⟨rfl, B9⟩)
                      go_ret
                      exact ⟨rfl, link (link (link B1 HB6.out) hB10) B9⟩
                  · obtain rfl : Es = 5 := by have := hEs.out; have := HE.out; omega
                    clear HE hEt hEs HMB HUP
                    rcases hEd.out with rfl | rfl
                    · clear hEd
                      go_wp2_with (go_at_call 21; refine (CL.out _).mono ?_; rintro _ w9 ⟨rfl, B9⟩)
                      go_ret
                      exact ⟨rfl, link (link (link B1 HB6.out) hB10) B9⟩
                    · clear hEd
                      go_wp2_with (go_at_call 21; refine (CL.out _).mono ?_; rintro _ w9 ⟨rfl, B9⟩)
                      go_ret
                      exact ⟨rfl, link (link (link B1 HB6.out) hB10) B9⟩
      · exact absurd HLX.out (by omega)
end Go.Proofs.Ytahmpagolmodhaa
