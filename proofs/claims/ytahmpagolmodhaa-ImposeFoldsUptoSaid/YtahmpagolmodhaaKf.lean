/-
  ImposeFolds, walked.
-/
import Derived.Test.YtahmpagolmodhaaJo
import Derived.Test.YtahmpagolmodhaaJk
namespace Go.Proofs.Ytahmpagolmodhaa
open Go.RowKit
set_option linter.unusedVariables false
set_option linter.unusedSimpArgs false

/-- What the calls about a volume answer, right or not. -/
structure TwoV (a b : Int) (Lq : List (Int × Int)) (Ls : List Sh) (E : Int) (chk : List Sh → Int) : Prop where
  cq : ∀ V, Calls Try.prog 10 #[.int .i64 a, .int .i64 b] V (LstR prE Lq E V)
  cx : ∀ V, Calls Try.prog 11 #[.int .i64 a, .int .i64 b] V (LstR prE Lq E V)
  cl : ∀ V, Calls Try.prog 12 #[.int .i64 a, .int .i64 b] V (LstR shE Ls E V)
  cy : ∀ V, Calls Try.prog 13 #[.int .i64 a, .int .i64 b] V (LstR srE Ls E V)
  cc : ∀ (lst : List Sh) q n c, lst.length = n → n ≤ 1000000000000 → ∀ V, At shE V q lst → Calls Try.prog 18 #[.int .i64 a, .int .i64 b, .slice q n c] V (SaysI (chk lst) V)
  cd : ∀ (lst : List Sh) q n c, lst.length = n → ∀ V, At srE V q lst → Calls Try.prog 20 #[.int .i64 a, .int .i64 b, .slice q n c] V (SaysI (chk lst) V)
  same : chk Ls = E
  few : Lq.length ≤ 1000
  few2 : Ls.length ≤ 1000
theorem vol_two (a b : Int) : ∃ Lq Ls E chk, TwoV a b Lq Ls E chk := by
  by_cases hv : volE a b = 0
  · obtain ⟨P, H, rfl, rfl, hP, hH1, hH8⟩ := vol_ok hv
    have h6 := qnT_leaves P H hP hH1 hH8
    have h7 : qnT P H * (2 * H) = 2 * (qnT P H * H) := Nat.mul_left_comm _ _ _
    have h8 : qnT P H ≤ qnT P H * H := Nat.le_mul_of_pos_right _ hH1
    exact ⟨quiT P H, foldM P H, 0, chkT P H, ⟨quires_any P H hP hH1 hH8, rquires_any P H hP hH1 hH8, fold_any P H hP hH1 hH8, rfold_any P H hP hH1 hH8,
      fun lst q n c hl hn V hA => check_yes P H hP hH1 hH8 lst q n c hl hn V hA,
      fun lst q n c hl V hA => (rcheck_any P H hP hH1 hH8 lst q n c hl V hA).mono fun e W ⟨h1, h2⟩ => ⟨by rw [h1]; unfold chkT; by_cases h : foldM P H = lst <;> simp [h, Ne.symm, eq_comm], h2⟩,
      by unfold chkT; rw [if_pos rfl], by unfold quiT; rw [List.length_map, List.length_range]; omega, by unfold foldM; rw [List.length_map, List.length_range]; omega⟩⟩
  · exact ⟨[], [], volE a b, fun _ => volE a b, ⟨quires_bad a b hv, rquires_bad a b hv, fold_bad a b hv, rfold_bad a b hv,
      fun lst q n c _ _ V _ => check_no a b q n c hv V, fun lst q n c _ V _ => rcheck_bad a b hv q n c V, rfl, Nat.zero_le _, Nat.zero_le _⟩⟩
def FoRel (w2 : World) (v : Value) (wx : World) : Prop := ∃ i : Nat, v = .int .i64 (i : Int) ∧ i ≤ 4 ∧ Below w2.heap.size w2 wx
set_option maxHeartbeats 40000000 in
set_option maxRecDepth 100000 in
theorem imposeFolds_any (n m how by_ pages leaves : Int) (n1 : -9223372036854775808 ≤ n) (n2 : n ≤ 9223372036854775807) (m1 : -9223372036854775808 ≤ m) (m2 : m ≤ 9223372036854775807)
    (h1 : -9223372036854775808 ≤ how) (h2 : how ≤ 9223372036854775807) (h3 : -9223372036854775808 ≤ by_) (h4 : by_ ≤ 9223372036854775807)
    (R : Option Addr) (raw : List Sh) (rn rc : Nat) (hr : raw.length = rn) (hr6 : rn ≤ 1000000000000) (w : World) (hR : At shE w R raw) :
    Calls Try.prog 3 #[.int .i64 n, .int .i64 m, .int .i64 how, .int .i64 by_, .int .i64 pages, .int .i64 leaves, .slice R rn rc] w (Yes w) := by
  have CV := Lib.hid (volume_any n m n1 n2 m1 m2)
  have CL := Lib.hid (fun V => lives_any V)
  have CB := Lib.hid (fun (l : List Sh) qa n c0 (hl : l.length = n) (hn : n ≤ 100000) V hA => bent_any l qa n c0 hl hn how by_ h1 h2 h3 h4 V hA)
  have HR := Lib.hid hr
  clear hr h1 h2 h3 h4 n1 n2 m1 m2
  go_enter Try.func3, Try.ntmps3
  go_upto_region 3 with (go_at_call 9; refine (CV.out _).mono ?_; rintro _ w1 ⟨p, K, rfl, hp1, hp2, hl1, hl2, B1⟩)
  clear CV hp1 hp2 hl1 hl2
  have A2 := at_new prE w1 #[.int .i64 p, .int .i64 K, .int .i64 pages, .int .i64 leaves, .int .i64 p, .int .i64 leaves, .int .i64 pages, .int .i64 K] [(p, K), (pages, leaves), (p, leaves), (pages, K)] rfl
  have X2 : Below w1.heap.size w1 (w1.alloc (.cells #[.int .i64 p, .int .i64 K, .int .i64 pages, .int .i64 leaves, .int .i64 p, .int .i64 leaves, .int .i64 pages, .int .i64 K] 25)) := (Below.refl _ _).alloc (Nat.le_refl _) _
  change At prE (w1.alloc (.cells #[.int .i64 p, .int .i64 K, .int .i64 pages, .int .i64 leaves, .int .i64 p, .int .i64 leaves, .int .i64 pages, .int .i64 K] 25)) _ _ at A2
  obtain ⟨lb, hlb⟩ : ∃ g, w1.heap.size = g := ⟨_, rfl⟩
  have W12 := link B1 X2
  generalize w1.alloc (.cells #[.int .i64 p, .int .i64 K, .int .i64 pages, .int .i64 leaves, .int .i64 p, .int .i64 leaves, .int .i64 pages, .int .i64 K] 25) = w2 at A2 X2 W12 ⊢
  rw [hlb] at A2 ⊢
  obtain ⟨L4, hL4⟩ : ∃ L, [(p, K), (pages, leaves), (p, leaves), (pages, K)] = L := ⟨_, rfl⟩
  have HL4 : Hid (L4.length = 4) := Lib.hid (by rw [← hL4]; rfl)
  rw [hL4] at A2
  clear hL4 X2 hlb B1
  have HR2 := Lib.hid (hR.keep W12)
  have HA2 := Lib.hid A2
  clear hR A2
  go_wp2
  go_loopw [18] (fun v wx => FoRel w2 v wx) (fun v _ => 4 - (intOf v).toNat)
  case atStart => exact ⟨0, rfl, by omega, Below.refl _ _⟩
  case round =>
    obtain ⟨i, rfl, hi, hB⟩ := hrel
    rcases Nat.lt_or_ge i 4 with hlt | hge
    · have hltz : (i : Int) < 4 := by omega
      obtain ⟨⟨a, b⟩, hx⟩ : ∃ x, L4[i]? = some x := ⟨_, List.getElem?_eq_getElem (by rw [HL4.out]; exact hlt)⟩
      obtain ⟨b', off, e, hL⟩ := (HA2.out.keep hB).get (i := i) (by rw [HL4.out]; exact hlt)
      injection e with e
      injection e with e e2
      subst e
      subst e2
      have c0 := hL.2 i _ 0 _ hx rfl
      have c1 := hL.2 i _ 1 _ hx rfl
      rw [show prE.k = 2 from rfl, Nat.zero_add] at c0 c1
      rw [Nat.add_zero] at c0
      obtain ⟨Lq, Ls, E, chk, T⟩ := vol_two a b
      have HT := Lib.hid T
      have f1 := T.few
      have f2 := T.few2
      obtain ⟨Nq, hNq⟩ : ∃ N, Lq.length = N := ⟨_, rfl⟩
      obtain ⟨Ns, hNs⟩ : ∃ N, Ls.length = N := ⟨_, rfl⟩
      rw [hNq] at f1
      rw [hNs] at f2
      have HNq := Lib.hid hNq
      have HNs := Lib.hid hNs
      have SP := Lib.hid (fun q c q' c' V hA hB => samePairs_any Lq Lq q q' Nq c Nq c' hNq hNq (by omega) V hA hB)
      have SS := Lib.hid (fun q c q' c' V hA hB => sameSheets_any Ls Ls q q' Ns c Ns c' hNs hNs (by omega) V hA hB)
      rw [decide_eq_true (show Lq = Lq from rfl)] at SP
      rw [decide_eq_true (show Ls = Ls from rfl)] at SS
      have PL := Lib.hid (fun q c V hA => plain_any Ls q Ns c hNs (by omega) V hA)
      have OW := Lib.hid (fun q c V hA => own_any Ls q Ns c hNs (by omega) V hA)
      have CC1 := Lib.hid (fun q c V hA => T.cc Ls q Ns c hNs (by omega) V hA)
      rw [T.same] at CC1
      have CB1 := Lib.hid (fun q c V hA => CB.out Ls q Ns c hNs (by omega) V hA)
      clear hNq hNs T hx hL
      go_upto_region 12 with (first
        | (go_at_call 10; refine (HT.out.cq _).mono ?_; intro _ w3 h3; obtain ⟨q3, c3, rfl, k3, A3, B3⟩ := h3.give HNq.out)
        | (go_at_call 11; refine (HT.out.cx _).mono ?_; intro _ w4 h4; obtain ⟨q4, c4, rfl, k4, A4, B4⟩ := h4.give HNq.out)
        | (go_at_call 12; refine (HT.out.cl _).mono ?_; intro _ w5 h5; obtain ⟨q5, c5, rfl, k5, A5, B5⟩ := h5.give HNs.out)
        | (go_at_call 13; refine (HT.out.cy _).mono ?_; intro _ w6 h6; obtain ⟨q6, c6, rfl, k6, A6, B6⟩ := h6.give HNs.out))
      have A3 := Lib.hid (((A3.keep B4).keep B5).keep B6)
      have A4 := Lib.hid ((A4.keep B5).keep B6)
      have A5 := Lib.hid (A5.keep B6)
      have A6 := Lib.hid A6
      have hB6 := Lib.hid (hB.trans ((link (link (link B3 B4) B5) B6).mono hB.size))
      clear c0 c1 B3 B4 B5 B6 h3 h4 h5 h6 hB
      go_upto_region 14 with (first
        | (go_at_call 14; refine (SP.out _ _ _ _ _ A3.out A4.out).mono ?_; rintro _ w7 ⟨rfl, B7⟩)
        | (go_at_call 16; refine (PL.out _ _ _ (A5.out.keep B7)).mono ?_; intro _ w8 h8; obtain ⟨q8, c8, rfl, k8, A8, B8⟩ := h8.give HNs.out)
        | (go_at_call 15; refine (SS.out _ _ _ _ _ A8 ((A6.out.keep B7).keep B8)).mono ?_; rintro _ w9 ⟨rfl, B9⟩))
      have A6 := Lib.hid (((A6.out.keep B7).keep B8).keep B9)
      have hB9 := Lib.hid (hB6.out.trans ((link (link B7 B8) B9).mono hB6.out.size))
      clear A3 A4 A5 A8 SP SS PL B7 B8 B9 h8 hB6
      go_upto_region 15 with (go_at_call 17; refine (CB1.out _ _ _ A6.out).mono ?_; rintro _ w14 ⟨Lb, q14, n14, c14, rfl, hb1, hb2, A14, B14⟩)
      have OW2 := Lib.hid (fun q c V hA => own_any Lb q n14 c hb1 (by omega) V hA)
      have CC2 := Lib.hid (fun q c V hA => HT.out.cc Lb q n14 c hb1 (by omega) V hA)
      have CD2 := Lib.hid (fun q c V hA => HT.out.cd Lb q n14 c hb1 V hA)
      have CC3 := Lib.hid (fun q c V hA => HT.out.cc raw q rn c HR.out hr6 V hA)
      have CD3 := Lib.hid (fun q c V hA => HT.out.cd raw q rn c HR.out V hA)
      have PL3 := Lib.hid (fun q c V hA => plain_any raw q rn c HR.out hr6 V hA)
      have HB1 := Lib.hid hb1
      generalize chk Lb = x1 at *
      generalize chk raw = x2 at *
      have A6 := Lib.hid (A6.out.keep B14)
      have hB14 := Lib.hid (hB9.out.trans (B14.mono hB9.out.size))
      have A14 := Lib.hid A14
      have R14 := Lib.hid (HR2.out.keep hB14.out)
      clear hb1 hB9 B14 CB1 HT
      go_wp2_with (first
        | (go_at_call_of 19 (Value.slice q6 Ns c6); refine (OW.out _ _ _ A6.out).mono ?_; intro _ w16 h16; obtain ⟨q16, c16, rfl, k16, A16, B16⟩ := h16.give HNs.out)
        | (go_at_call_of 18 (Value.slice q16 Ns c16); refine (CC1.out _ _ _ A16).mono ?_; rintro _ w17 ⟨rfl, B17⟩; have L17 := link B16 B17)
        | (go_at_call_of 19 (Value.slice q14 n14 c14); refine (OW2.out _ _ _ (A14.out.keep L17)).mono ?_; intro _ w18 h18; obtain ⟨q18, c18, rfl, k18, A18, B18⟩ := h18.give HB1.out; have L18 := link L17 B18)
        | (go_at_call_of 18 (Value.slice q18 n14 c18); refine (CC2.out _ _ _ A18).mono ?_; rintro _ w19 ⟨rfl, B19⟩; have L19 := link L18 B19)
        | (go_at_call_of 20 (Value.slice q14 n14 c14); refine (CD2.out _ _ _ (A14.out.keep L19)).mono ?_; rintro _ w20 ⟨rfl, B20⟩; have L20 := link L19 B20)
        | (go_at_call_of 18 (Value.slice R rn rc); refine (CC3.out _ _ _ (R14.out.keep L20)).mono ?_; rintro _ w21 ⟨rfl, B21⟩; have L21 := link L20 B21)
        | (go_at_call_of 16 (Value.slice R rn rc); refine (PL3.out _ _ _ (R14.out.keep L21)).mono ?_; intro _ w22 h22; obtain ⟨q22, c22, rfl, k22, A22, B22⟩ := h22.give HR.out; have L22 := link L21 B22)
        | (go_at_call_of 20 (Value.slice q22 rn c22); refine (CD3.out _ _ _ A22).mono ?_; rintro _ w23 ⟨rfl, B23⟩; have L23 := link L22 B23))
      exact ⟨⟨i + 1, by go_num, by omega, hB14.out.trans (L23.mono hB14.out.size)⟩, by simp [intOf]; omega⟩
    · obtain rfl : i = 4 := by omega
      go_wp2_with (go_at_call 21; refine (CL.out _).mono ?_; rintro _ w9 ⟨rfl, B9⟩)
      go_ret
      exact ⟨rfl, link (link W12 hB) B9⟩
end Go.Proofs.Ytahmpagolmodhaa
