/-
  ImposeReads, walked.
-/
import Derived.Test.YtahmpagolmodhaaJo
import Derived.Test.YtahmpagolmodhaaJk
import Derived.Test.YtahmpagolmodhaaIq
namespace Go.Proofs.Ytahmpagolmodhaa
open Go.RowKit
set_option linter.unusedVariables false
set_option linter.unusedSimpArgs false

theorem lay_num {w : World} {b off : Nat} {l : List Int} (h : Lay intE w b off l) {i : Nat} {x : Int} (hx : l[i]? = some x) : w.cell? ⟨b, off + i, none⟩ = some (.int .i64 x) := by
  have := h.2 i x 0 _ hx rfl
  rwa [show off + i * intE.k + 0 = off + i by show off + i * 1 + 0 = off + i; omega] at this
theorem tdiv3_in {x : Int} (h1 : -9223372036854775808 ≤ x) (h2 : x ≤ 9223372036854775807) : -9223372036854775808 ≤ x.tdiv 3 ∧ x.tdiv 3 ≤ 9223372036854775807 := by
  rcases Int.le_total 0 x with h | h
  · rw [Int.tdiv_eq_ediv_of_nonneg h]; omega
  · have e : x.tdiv 3 = -((-x).tdiv 3) := by rw [Int.neg_tdiv, Int.neg_neg]
    rw [e, Int.tdiv_eq_ediv_of_nonneg (by omega)]; omega
theorem pass_len (g : List Sh) : (pass g).length = 4 * g.length := by
  unfold pass
  rw [List.length_append, List.length_flatMap, List.length_flatMap]
  simp only [List.length_cons, List.length_nil, List.map_const', List.length_reverse, List.sum_replicate_nat]
  omega
theorem readF_len : ∀ (f : Nat) (q : Int) (l : List Sh) (r : List Int), readF f q l = some r → r.length ≤ 4 * l.length
  | 0, q, l, r, h => by
    unfold readF at h
    split at h
    · injection h with h; rw [← h]; exact Nat.zero_le _
    · cases h
  | f + 1, q, l, r, h => by
    unfold readF at h
    split at h
    · injection h with h; rw [← h]; exact Nat.zero_le _
    · dsimp only at h
      split at h
      · cases h
      · obtain ⟨r', h', rfl⟩ := Option.map_eq_some_iff.1 h
        have := readF_len f (q + 1) _ r' h'
        have h3 : (l.takeWhile (fun s => s.q == q)).length ≤ l.length := (List.takeWhile_sublist _).length_le
        rw [List.length_drop] at this
        rw [List.length_append, pass_len]
        omega
theorem rdL_len (l : List Sh) : (rdL l).length ≤ 4 * l.length := by
  unfold rdL
  rcases h : readT l with _ | r
  · exact Nat.zero_le _
  · exact readF_len _ _ _ _ h
/-- The pages as they are read: in order, and then empty ones. -/
def pgs (P N : Nat) : List Int := (List.range N).map fun j => ((numT P (1 + j) : Nat) : Int)
theorem pgs_get {P N i : Nat} (h : i < N) : (pgs P N)[i]? = some ((numT P (1 + i) : Nat) : Int) := by
  unfold pgs
  rw [List.getElem?_map, List.getElem?_range h]
  rfl
/-- Slices of sheets as elements. -/
def ssE : Elt (Option Addr × Nat × Nat) where
  T := 32
  ST := 47
  k := 1
  bytes := 24
  zero := .slice none 0 0
  enc := fun s => [.slice s.1 s.2.1 s.2.2]
  info := by kernel_rfl
  und := Try.underlying47
  len := fun _ => rfl
  one := by intro s u hu; simp at hu; subst hu; rfl
  kpos := by decide
  zs := rfl
  bb := by decide
def ShN (w : World) (s : Option Addr × Nat × Nat) : Prop := ∃ l : List Sh, l.length = s.2.1 ∧ At srE w s.1 l ∧ s.2.1 ≤ 100000000000
theorem ShN.keep {w w' : World} {s : Option Addr × Nat × Nat} (h : ShN w s) (hb : Below w.heap.size w w') : ShN w' s := by
  obtain ⟨l, e, hA, hn⟩ := h
  exact ⟨l, e, hA.keep hb, hn⟩
def ReRel (N : Nat) (w2 : World) (v : Value) (wx : World) : Prop := ∃ i : Nat, v = .int .i64 (i : Int) ∧ i ≤ N ∧ Below w2.heap.size w2 wx
set_option maxHeartbeats 40000000 in
set_option maxRecDepth 100000 in
theorem imposeReads_any (n m how by_ also : Int) (n1 : -9223372036854775808 ≤ n) (n2 : n ≤ 9223372036854775807) (m1 : -9223372036854775808 ≤ m) (m2 : m ≤ 9223372036854775807)
    (h1 : -9223372036854775808 ≤ how) (h2 : how ≤ 9223372036854775807) (h3 : -9223372036854775808 ≤ by_) (h4 : by_ ≤ 9223372036854775807) (h5 : -9223372036854775808 ≤ also) (h6 : also ≤ 9223372036854775807)
    (R : Option Addr) (raw : List Sh) (rn rc : Nat) (hr : raw.length = rn) (hr6 : rn ≤ 100000000000) (w : World) (hR : At shE w R raw) :
    Calls Try.prog 4 #[.int .i64 n, .int .i64 m, .int .i64 how, .int .i64 by_, .int .i64 also, .slice R rn rc] w (Yes w) := by
  have CV := Lib.hid (volume_any n m n1 n2 m1 m2)
  have CL := Lib.hid (fun V => lives_any V)
  have b3 := tdiv3_in h3 h4
  have CB1 := Lib.hid (fun (l : List Sh) qa n c0 (hl : l.length = n) (hn : n ≤ 100000) V hA => bent_any l qa n c0 hl hn how by_ h1 h2 h3 h4 V hA)
  have CB2 := Lib.hid (fun (l : List Sh) qa n c0 (hl : l.length = n) (hn : n ≤ 100000) V hA => bent_any l qa n c0 hl hn also (by_.tdiv 3) h5 h6 b3.1 b3.2 V hA)
  have hw3 : IntKind.i64.wrap (by_.tdiv 3) = by_.tdiv 3 := by have := b3.1; have := b3.2; simp [IntKind.wrap, IntKind.signed, IntKind.bits]; omega
  obtain ⟨b9, hb9⟩ : ∃ b9, by_.tdiv 3 = b9 := ⟨_, rfl⟩
  rw [hb9] at CB2 hw3 b3
  have PR := Lib.hid (fun q c V hA => plain_any raw q rn c hr (by omega) V hA)
  have HR := Lib.hid hr
  clear hr h1 h2 h3 h4 h5 h6 n1 n2 m1 m2
  go_enter Try.func4, Try.ntmps4
  go_upto_region 2 with (go_at_call 9; refine (CV.out _).mono ?_; rintro _ w1 ⟨p, K, rfl, hp1, hp2, hl1, hl2, B1⟩)
  clear CV hp1 hp2 hl1 hl2
  rcases hv : decide (volE p K = 0) with _ | _
  · have hv := of_decide_eq_false hv
    have CF := Lib.hid (fold_bad p K hv)
    have hvz : (volE p K == 0) = false := by simp [hv]
    generalize volE p K = e at *
    obtain ⟨Ls, hLs⟩ : ∃ Ls : List Sh, ([] : List Sh) = Ls := ⟨_, rfl⟩
    obtain ⟨Ns, hNs⟩ : ∃ Ns : Nat, Ls.length = Ns := ⟨_, rfl⟩
    have hNs6 : Ns ≤ 2000 := by rw [← hNs, ← hLs]; exact Nat.zero_le _
    have HNs := Lib.hid hNs
    rw [hLs] at CF
    clear hNs hLs hv
    go_upto_region 12 with (go_at_call 12; refine (CF.out _).mono ?_; intro _ w2 h2; obtain ⟨q2, c2, rfl, _, A2, B2⟩ := h2.give HNs.out)
    have W0 := link B1 B2
    have A2 := Lib.hid A2
    clear CF B1 B2 h2 hvz
    have PL1 := Lib.hid (fun V hA => plain_any Ls q2 Ns c2 HNs.out (by omega) V hA)
    have CB3 := Lib.hid (fun q c V hA => CB1.out Ls q Ns c HNs.out (by omega) V hA)
    clear CB1
    go_upto_region 13 with (first
      | (go_at_call 16; refine (PL1.out _ A2.out).mono ?_; intro _ w8 h8; obtain ⟨q8, c8, rfl, k8, A8, B8⟩ := h8.give HNs.out)
      | (go_at_call 17; refine (CB3.out _ _ _ A8).mono ?_; rintro _ w9 ⟨Lb, q9, n9, c9, rfl, e9, f9, A9, B9⟩))
    have W9 := link (link W0 B8) B9
    clear PL1 CB3 A2 A8 B8 B9 h8
    have CB4 := Lib.hid (fun V hA => CB2.out Lb q9 n9 c9 e9 (by omega) V hA)
    have A9 := Lib.hid A9
    have R9 := Lib.hid (hR.keep W9)
    have PR2 := Lib.hid (fun V hA => PR.out R rc V hA)
    clear CB2 PR hR
    go_upto_region 14 with (first
      | (go_at_call 17; refine (CB4.out _ A9.out).mono ?_; rintro _ w10 ⟨Lc, q10, n10, c10, rfl, e10, f10, A10, B10⟩)
      | (go_at_call 16; refine (PR2.out _ (R9.out.keep B10)).mono ?_; intro _ w11 h11; obtain ⟨q11, c11, rfl, k11, A11, B11⟩ := h11.give HR.out))
    have G := at_new ssE w11 #[.slice q9 n9 c9, .slice q10 n10 c10, .slice q11 rn c11, .slice none 0 0] [(q9, n9, c9), (q10, n10, c10), (q11, rn, c11), (none, 0, 0)] rfl
    have X12 : Below w11.heap.size w11 (w11.alloc (.cells #[.slice q9 n9 c9, .slice q10 n10 c10, .slice q11 rn c11, .slice none 0 0] 32)) := (Below.refl _ _).alloc (Nat.le_refl _) _
    change At ssE (w11.alloc (.cells #[.slice q9 n9 c9, .slice q10 n10 c10, .slice q11 rn c11, .slice none 0 0] 32)) _ _ at G
    have I9 : ShN w11 (q9, n9, c9) := ⟨Lb, e9, (A9.out.keep B10).keep B11, by show n9 ≤ 100000000000; omega⟩
    have I10 : ShN w11 (q10, n10, c10) := ⟨Lc, e10, A10.keep B11, by show n10 ≤ 100000000000; omega⟩
    have I11 : ShN w11 (q11, rn, c11) := ⟨raw, HR.out, A11, hr6⟩
    have W12 := link (link (link W9 B10) B11) X12
    generalize w11.alloc (.cells #[.slice q9 n9 c9, .slice q10 n10 c10, .slice q11 rn c11, .slice none 0 0] 32) = w12 at G X12 W12 ⊢
    have HIS : Hid (∀ s ∈ [(q9, n9, c9), (q10, n10, c10), (q11, rn, c11), (none, 0, 0)], ShN w12 s) := Lib.hid (by
      intro s hs
      simp only [List.mem_cons, List.not_mem_nil, or_false] at hs
      rcases hs with rfl | rfl | rfl | rfl
      · exact I9.keep X12
      · exact I10.keep X12
      · exact I11.keep X12
      · exact ⟨[], rfl, fun h => absurd rfl h, by show 0 ≤ 100000000000; omega⟩)
    obtain ⟨lb, hlb⟩ : ∃ lb, w11.heap.size = lb := ⟨_, rfl⟩
    obtain ⟨ss, hss⟩ : ∃ ss, [(q9, n9, c9), (q10, n10, c10), (q11, rn, c11), (none, 0, 0)] = ss := ⟨_, rfl⟩
    have HS4 : Hid (ss.length = 4) := Lib.hid (by rw [← hss]; rfl)
    rw [hss] at G HIS
    rw [hlb] at G ⊢
    have G := Lib.hid G
    clear hlb hss I9 I10 I11 X12 A9 A10 A11 B10 B11 W9 CB4 PR2 R9 h11 e9 e10
    go_wp2
    go_loopw [22] (fun v wx => ReRel 4 w12 v wx) (fun v _ => 4 - (intOf v).toNat)
    case atStart => exact ⟨0, rfl, by omega, Below.refl _ _⟩
    case round =>
      obtain ⟨i, rfl, hi, hB⟩ := hrel
      rcases Nat.lt_or_ge i 4 with hlt | hge
      · have hltz : (i : Int) < 4 := by omega
        obtain ⟨⟨sq, sn, sc⟩, hs⟩ : ∃ s, ss[i]? = some s := ⟨_, List.getElem?_eq_getElem (by rw [HS4.out]; exact hlt)⟩
        have HC : Hid (∀ V, Below w12.heap.size w12 V → V.cell? ⟨lb, i, none⟩ = some (.slice sq sn sc)) := Lib.hid (fun V hV => by
          obtain ⟨b', off, e, hL⟩ := (G.out.keep hV).get (List.getElem?_eq_some_iff.1 hs).1
          injection e with e
          injection e with e e2
          subst e
          subst e2
          have := hL.2 i _ 0 _ hs rfl
          rwa [show ssE.k = 1 from rfl, Nat.mul_one, Nat.add_zero, Nat.zero_add] at this)
        have c0 := HC.out _ hB
        obtain ⟨L, hLn, hLA, hsn⟩ := HIS.out _ (List.mem_of_getElem? hs)
        have hLn : L.length = sn := hLn
        have hLA : At srE w12 sq L := hLA
        have hsn : sn ≤ 100000000000 := hsn
        have HLn := Lib.hid hLn
        have OW := Lib.hid (fun V (hV : Below w12.heap.size w12 V) => own_any L sq sn sc hLn (by omega) V (hLA.keep hV))
        have RR := Lib.hid (fun V (hV : Below w12.heap.size w12 V) => rread_any L sq sn sc hLn hsn V (hLA.keep hV))
        have RD := Lib.hid (fun q c (hc : sn ≤ c) V hA => read_any L q sn c hLn hc hsn V hA)
        have hM4 := rdL_len L
        rw [hLn] at hM4
        generalize rdL L = M at *
        generalize rdE L = e at *
        obtain ⟨N, hN⟩ : ∃ N, M.length = N := ⟨_, rfl⟩
        rw [hN] at hM4
        have HN := Lib.hid hN
        have CI := Lib.hid (fun q c q' c' V hA hB => sameInts_any M M q q' N c N c' hN hN (by omega) V hA hB)
        rw [decide_eq_true (show M = M from rfl)] at CI
        clear hs hLA hLn hN
        go_wp2_with (first
          | (go_at_call 19; refine (OW.out _ hB).mono ?_; intro _ w13 h13; obtain ⟨q13, c13, rfl, k13, A13, B13⟩ := h13.give HLn.out; have hB13 := hB.trans (B13.mono hB.size); have c13x := HC.out w13 hB13)
          | (go_at_call 22; refine (RD.out _ _ k13 _ A13).mono ?_; intro _ w14 h14; obtain ⟨q14, c14, rfl, k14, A14, B14⟩ := h14.give HN.out; have hB14 := hB13.trans (B14.mono hB13.size); have c14x := HC.out w14 hB14)
          | (go_at_call 23; refine (RR.out _ hB14).mono ?_; intro _ w15 h15; obtain ⟨q15, c15, rfl, k15, A15, B15⟩ := h15.give HN.out; have hB15 := hB14.trans (B15.mono hB14.size); have c15x := HC.out w15 hB15)
          | (go_at_call 24; refine (CI.out _ _ _ _ _ (A14.keep B15) A15).mono ?_; rintro _ w16 ⟨rfl, B16⟩; have hB16 := hB15.trans (B16.mono hB15.size)))
        exact ⟨⟨i + 1, by go_num, by omega, hB16⟩, by simp [intOf]; omega⟩
      · obtain rfl : i = 4 := by omega
        go_wp2_with (go_at_call 21; refine (CL.out _).mono ?_; rintro _ w17 ⟨rfl, B17⟩)
        go_ret
        exact ⟨rfl, link (link W12 hB) B17⟩
  · have hv := of_decide_eq_true hv
    obtain ⟨P, H, rfl, rfl, hP, hH1, hH8⟩ := vol_ok hv
    have CF := Lib.hid (fold_any P H hP hH1 hH8)
    have hrd := read_fold (p := P) hH1
    have hen := qn_enough H hH1 hH8 P
    have h6 := qnT_leaves P H hP hH1 hH8
    have h7 : qnT P H * (2 * H) = 2 * (qnT P H * H) := Nat.mul_left_comm _ _ _
    have h9 : 4 * H * qnT P H = 4 * (qnT P H * H) := by rw [Nat.mul_assoc, Nat.mul_comm H]
    obtain ⟨Ns, hNs⟩ : ∃ Ns, qnT P H * H = Ns := ⟨_, rfl⟩
    obtain ⟨Ls, hLs⟩ : ∃ Ls, foldM P H = Ls := ⟨_, rfl⟩
    have HNs : Hid (Ls.length = Ns) := Lib.hid (by rw [← hLs]; unfold foldM; rw [List.length_map, List.length_range]; exact hNs)
    obtain ⟨Nr, hNr⟩ : ∃ Nr, 4 * H * qnT P H = Nr := ⟨_, rfl⟩
    rw [hNr] at hen hrd
    have hL1 : rdL (foldM P H) = pgs P Nr := by unfold rdL; rw [hrd]; rfl
    have hL2 : rdE (foldM P H) = 0 := by unfold rdE; rw [hrd]; rfl
    have hNs6 : Ns ≤ 2000 := by rw [← hNs]; omega
    have hNr6 : Nr ≤ 4000 := by rw [← hNr]; omega
    have CR := Lib.hid (fun q c hc V hA => read_any Ls q Ns c HNs.out hc (by omega) V hA)
    rw [hLs] at hL1 hL2 CF
    rw [hL1, hL2] at CR
    obtain ⟨K2, hK2⟩ : ∃ K2, 2 * H = K2 := ⟨_, rfl⟩
    obtain ⟨K4, hK4⟩ : ∃ K4, 4 * H = K4 := ⟨_, rfl⟩
    have hdvd : K4 ∣ Nr := by rw [← hNr, hK4]; exact Nat.dvd_mul_right _ _
    have hmod : ((Nr : Int)).tmod (K4 : Int) = 0 := Int.tmod_eq_zero_of_dvd (Int.natCast_dvd_natCast.2 hdvd)
    have m1 : (2 : Int) * (K2 : Int) = (K4 : Int) := by omega
    obtain ⟨S4, hS4⟩ : ∃ S4, P + K4 = S4 := ⟨_, rfl⟩
    have m2 : (P : Int) + (K4 : Int) = (S4 : Int) := by omega
    have m3 : ¬ (K4 : Int) = 0 := by omega
    have g1 : ¬ (Nr : Int) < (P : Int) := by omega
    have g2 : ¬ (S4 : Int) ≤ (Nr : Int) := by rw [hK4] at hen; omega
    have hK4b : K4 ≤ 40 := by omega
    have hK2b : K2 ≤ 20 := by omega
    have hS4b : S4 ≤ 2000 := by omega
    have HNr : Hid ((pgs P Nr).length = Nr) := Lib.hid (by unfold pgs; rw [List.length_map, List.length_range])
    rw [hK2] at CF ⊢
    clear hv hrd hen h6 h7 h9 hNs hNr hL1 hL2 hLs hdvd hS4 hK4 hK2
    go_upto_region 4 with (go_at_call 12; refine (CF.out _).mono ?_; intro _ w2 h2; obtain ⟨q2, c2, rfl, k2, A2, B2⟩ := h2.give HNs.out)
    clear CF h2
    go_upto_region 5 with (go_at_call 22; refine (CR.out _ _ k2 _ A2).mono ?_; intro _ w3 h3; obtain ⟨q3, c3, rfl, k3, A3, B3⟩ := h3.give HNr.out)
    have W3 := link (link B1 B2) B3
    have A2 := Lib.hid (A2.keep B3)
    have A3 := Lib.hid A3
    clear CR h3 B1 B2 B3
    go_upto_region 7 with (fail)
    clear g1 g2 m1 m2 m3 hmod
    go_wp2
    go_loopw [19] (fun v wx => ReRel Nr w3 v wx) (fun v _ => Nr - (intOf v).toNat)
    case atStart => exact ⟨0, rfl, by omega, Below.refl _ _⟩
    case round =>
      obtain ⟨i, rfl, hi, hB⟩ := hrel
      rcases Nat.lt_or_ge i Nr with hlt | hge
      · have hltz : (i : Int) < (Nr : Int) := by omega
        have hx := pgs_get (P := P) hlt
        obtain ⟨b, off, rfl, hL⟩ := (A3.out.keep hB).get (i := i) (by rw [HNr.out]; exact hlt)
        have c0 := lay_num hL hx
        obtain ⟨i1, hi1⟩ : ∃ i1, i + 1 = i1 := ⟨_, rfl⟩
        have hi1z : (i : Int) + 1 = (i1 : Int) := by omega
        rcases Nat.lt_or_ge i P with hp | hp
        · have hpz : (i : Int) < (P : Int) := by omega
          have hpz2 : ¬ (P : Int) ≤ (i : Int) := by omega
          rw [show numT P (1 + i) = i1 by unfold numT; rw [if_neg (by omega)]; omega] at c0
          clear hL hx hi1
          go_wp2
          exact ⟨⟨i + 1, by go_num, by omega, hB⟩, by simp [intOf]; omega⟩
        · have hpz : ¬ (i : Int) < (P : Int) := by omega
          have hpz2 : (P : Int) ≤ (i : Int) := by omega
          rw [show numT P (1 + i) = 0 by unfold numT; rw [if_pos (by omega)]] at c0
          clear hL hx hi1 hi1z
          go_wp2
          exact ⟨⟨i + 1, by go_num, by omega, hB⟩, by simp [intOf]; omega⟩
      · have hge2 : ¬ (i : Int) < (Nr : Int) := by omega
        have W0 := link W3 hB
        have A2 := Lib.hid (A2.out.keep hB)
        clear W3 hB A3 HNr
        obtain ⟨wo, rfl⟩ : ∃ wo, wo = wr := ⟨_, rfl⟩
        have PL1 := Lib.hid (fun V hA => plain_any Ls q2 Ns c2 HNs.out (by omega) V hA)
        have CB3 := Lib.hid (fun q c V hA => CB1.out Ls q Ns c HNs.out (by omega) V hA)
        clear CB1
        go_upto_region 13 with (first
          | (go_at_call 16; refine (PL1.out _ A2.out).mono ?_; intro _ w8 h8; obtain ⟨q8, c8, rfl, k8, A8, B8⟩ := h8.give HNs.out)
          | (go_at_call 17; refine (CB3.out _ _ _ A8).mono ?_; rintro _ w9 ⟨Lb, q9, n9, c9, rfl, e9, f9, A9, B9⟩))
        have W9 := link (link W0 B8) B9
        clear PL1 CB3 A2 A8 B8 B9 h8
        have CB4 := Lib.hid (fun V hA => CB2.out Lb q9 n9 c9 e9 (by omega) V hA)
        have A9 := Lib.hid A9
        have R9 := Lib.hid (hR.keep W9)
        have PR2 := Lib.hid (fun V hA => PR.out R rc V hA)
        clear CB2 PR hR
        go_upto_region 14 with (first
          | (go_at_call 17; refine (CB4.out _ A9.out).mono ?_; rintro _ w10 ⟨Lc, q10, n10, c10, rfl, e10, f10, A10, B10⟩)
          | (go_at_call 16; refine (PR2.out _ (R9.out.keep B10)).mono ?_; intro _ w11 h11; obtain ⟨q11, c11, rfl, k11, A11, B11⟩ := h11.give HR.out))
        have G := at_new ssE w11 #[.slice q9 n9 c9, .slice q10 n10 c10, .slice q11 rn c11, .slice none 0 0] [(q9, n9, c9), (q10, n10, c10), (q11, rn, c11), (none, 0, 0)] rfl
        have X12 : Below w11.heap.size w11 (w11.alloc (.cells #[.slice q9 n9 c9, .slice q10 n10 c10, .slice q11 rn c11, .slice none 0 0] 32)) := (Below.refl _ _).alloc (Nat.le_refl _) _
        change At ssE (w11.alloc (.cells #[.slice q9 n9 c9, .slice q10 n10 c10, .slice q11 rn c11, .slice none 0 0] 32)) _ _ at G
        have I9 : ShN w11 (q9, n9, c9) := ⟨Lb, e9, (A9.out.keep B10).keep B11, by show n9 ≤ 100000000000; omega⟩
        have I10 : ShN w11 (q10, n10, c10) := ⟨Lc, e10, A10.keep B11, by show n10 ≤ 100000000000; omega⟩
        have I11 : ShN w11 (q11, rn, c11) := ⟨raw, HR.out, A11, hr6⟩
        have W12 := link (link (link W9 B10) B11) X12
        generalize w11.alloc (.cells #[.slice q9 n9 c9, .slice q10 n10 c10, .slice q11 rn c11, .slice none 0 0] 32) = w12 at G X12 W12 ⊢
        have HIS : Hid (∀ s ∈ [(q9, n9, c9), (q10, n10, c10), (q11, rn, c11), (none, 0, 0)], ShN w12 s) := Lib.hid (by
          intro s hs
          simp only [List.mem_cons, List.not_mem_nil, or_false] at hs
          rcases hs with rfl | rfl | rfl | rfl
          · exact I9.keep X12
          · exact I10.keep X12
          · exact I11.keep X12
          · exact ⟨[], rfl, fun h => absurd rfl h, by show 0 ≤ 100000000000; omega⟩)
        obtain ⟨lb, hlb⟩ : ∃ lb, w11.heap.size = lb := ⟨_, rfl⟩
        obtain ⟨ss, hss⟩ : ∃ ss, [(q9, n9, c9), (q10, n10, c10), (q11, rn, c11), (none, 0, 0)] = ss := ⟨_, rfl⟩
        have HS4 : Hid (ss.length = 4) := Lib.hid (by rw [← hss]; rfl)
        rw [hss] at G HIS
        rw [hlb] at G ⊢
        have G := Lib.hid G
        clear hlb hss I9 I10 I11 X12 A9 A10 A11 B10 B11 W9 CB4 PR2 R9 h11 e9 e10
        go_wp2
        go_loopw [22] (fun v wx => ReRel 4 w12 v wx) (fun v _ => 4 - (intOf v).toNat)
        case atStart => exact ⟨0, rfl, by omega, Below.refl _ _⟩
        case round =>
          obtain ⟨i, rfl, hi, hB⟩ := hrel
          rcases Nat.lt_or_ge i 4 with hlt | hge
          · have hltz : (i : Int) < 4 := by omega
            obtain ⟨⟨sq, sn, sc⟩, hs⟩ : ∃ s, ss[i]? = some s := ⟨_, List.getElem?_eq_getElem (by rw [HS4.out]; exact hlt)⟩
            have HC : Hid (∀ V, Below w12.heap.size w12 V → V.cell? ⟨lb, i, none⟩ = some (.slice sq sn sc)) := Lib.hid (fun V hV => by
              obtain ⟨b', off, e, hL⟩ := (G.out.keep hV).get (List.getElem?_eq_some_iff.1 hs).1
              injection e with e
              injection e with e e2
              subst e
              subst e2
              have := hL.2 i _ 0 _ hs rfl
              rwa [show ssE.k = 1 from rfl, Nat.mul_one, Nat.add_zero, Nat.zero_add] at this)
            have c0 := HC.out _ hB
            obtain ⟨L, hLn, hLA, hsn⟩ := HIS.out _ (List.mem_of_getElem? hs)
            have hLn : L.length = sn := hLn
            have hLA : At srE w12 sq L := hLA
            have hsn : sn ≤ 100000000000 := hsn
            have HLn := Lib.hid hLn
            have OW := Lib.hid (fun V (hV : Below w12.heap.size w12 V) => own_any L sq sn sc hLn (by omega) V (hLA.keep hV))
            have RR := Lib.hid (fun V (hV : Below w12.heap.size w12 V) => rread_any L sq sn sc hLn hsn V (hLA.keep hV))
            have RD := Lib.hid (fun q c (hc : sn ≤ c) V hA => read_any L q sn c hLn hc hsn V hA)
            have hM4 := rdL_len L
            rw [hLn] at hM4
            generalize rdL L = M at *
            generalize rdE L = e at *
            obtain ⟨N, hN⟩ : ∃ N, M.length = N := ⟨_, rfl⟩
            rw [hN] at hM4
            have HN := Lib.hid hN
            have CI := Lib.hid (fun q c q' c' V hA hB => sameInts_any M M q q' N c N c' hN hN (by omega) V hA hB)
            rw [decide_eq_true (show M = M from rfl)] at CI
            clear hs hLA hLn hN
            go_wp2_with (first
              | (go_at_call 19; refine (OW.out _ hB).mono ?_; intro _ w13 h13; obtain ⟨q13, c13, rfl, k13, A13, B13⟩ := h13.give HLn.out; have hB13 := hB.trans (B13.mono hB.size); have c13x := HC.out w13 hB13)
              | (go_at_call 22; refine (RD.out _ _ k13 _ A13).mono ?_; intro _ w14 h14; obtain ⟨q14, c14, rfl, k14, A14, B14⟩ := h14.give HN.out; have hB14 := hB13.trans (B14.mono hB13.size); have c14x := HC.out w14 hB14)
              | (go_at_call 23; refine (RR.out _ hB14).mono ?_; intro _ w15 h15; obtain ⟨q15, c15, rfl, k15, A15, B15⟩ := h15.give HN.out; have hB15 := hB14.trans (B15.mono hB14.size); have c15x := HC.out w15 hB15)
              | (go_at_call 24; refine (CI.out _ _ _ _ _ (A14.keep B15) A15).mono ?_; rintro _ w16 ⟨rfl, B16⟩; have hB16 := hB15.trans (B16.mono hB15.size)))
            exact ⟨⟨i + 1, by go_num, by omega, hB16⟩, by simp [intOf]; omega⟩
          · obtain rfl : i = 4 := by omega
            go_wp2_with (go_at_call 21; refine (CL.out _).mono ?_; rintro _ w17 ⟨rfl, B17⟩)
            go_ret
            exact ⟨rfl, link (link W12 hB) B17⟩
end Go.Proofs.Ytahmpagolmodhaa
