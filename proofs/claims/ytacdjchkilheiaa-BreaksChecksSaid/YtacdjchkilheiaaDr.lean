/-
  BreaksRest: its walk.
-/
import Derived.Test.YtacdjchkilheiaaDl
import Derived.Test.YtacdjchkilheiaaDn
import Derived.Test.YtacdjchkilheiaaCj
namespace Go.Proofs.Ytacdjchkilheiaa
open Go.RowKit
set_option linter.unusedVariables false
set_option linter.unusedSimpArgs false

/-- Fill for elements at a place. -/
theorem fill_g {q : Option Addr} {l : List Int} {n c : Nat} (hl : l.length = n) {bl wd : Int} {V : World} (hA : IntsAt V q l) {E L C : List Int} {k : Int} (h : fillA l bl wd = (E, L, C, k)) {ne nl nc : Nat} (h1 : E.length = ne) (h2 : L.length = nl) (h3 : C.length = nc) (g1 : ne ≤ 1000000000000) (g2 : nl ≤ 1000000000000) (g3 : nc ≤ 1000000000000) :
    Calls Try.prog 10 #[.slice q n c, .int .i64 bl, .int .i64 wd] V (CertG E L C ne nl nc k V) := by
  have := fill_any q l n c hl bl wd V hA
  rw [h] at this
  exact this.mono (fun _ _ g => g.give h1 h2 h3 g1 g2 g3)
theorem fillA_good {l : List Int} {bl wd : Int} (hF : Fine l bl wd) (hw : wideT l wd = false) : fillA l bl wd = (endsT (fillT l bl wd).2.2 l.length l.length 0, (fillT l bl wd).1, (fillT l bl wd).2.1, 0) := by unfold fillA; rw [if_pos (err_fine hF), if_neg (by rw [hw]; simp)]
theorem tens_few {L : List Int} (h : Tens L) : ∀ x ∈ L, -9223372036854775808 ≤ x ∧ x ≤ 9223372036854775807 := fun x hx => by have := h.2 x hx; omega
/-- What Fill answers for a law's words, whatever the page. -/
theorem fill_law {L : List Int} (hT : Tens L) (bl wd : Int) : ∃ E Lf Cf k, fillA L bl wd = (E, Lf, Cf, k) ∧ E.length ≤ 10 ∧ Lf.length ≤ 10 ∧ Cf.length ≤ 10 ∧ ((k ≠ 0 ∧ E = [] ∧ Lf = [] ∧ Cf = []) ∨ (k = 0 ∧ Fine L bl wd ∧ wideT L wd = false ∧ E = endsT (fillT L bl wd).2.2 L.length L.length 0 ∧ Lf = (fillT L bl wd).1 ∧ Cf = (fillT L bl wd).2.1)) := by
  by_cases he : errT L bl wd = 0
  · rcases hw : wideT L wd with _ | _
    · have hF := fine_of he
      have hG := good_fill hF hw
      have h9 := hT.1
      refine ⟨_, _, _, _, fillA_good hF hw, ?_, ?_, ?_, Or.inr ⟨rfl, hF, rfl, rfl, rfl, rfl⟩⟩
      · have := endsT_len (N := (fillT L bl wd).2.2) (n := L.length) (fun j hj => hG.2.2.2.2 j (Nat.zero_le _) hj) L.length 0
        omega
      · rw [hG.1]; omega
      · rw [hG.2.1]; omega
    · exact ⟨[], [], [], 21, by unfold fillA; rw [if_pos he, if_pos hw], by simp, by simp, by simp, Or.inl ⟨by omega, rfl, rfl, rfl⟩⟩
  · exact ⟨[], [], [], errT L bl wd, by unfold fillA; rw [if_neg he], by simp, by simp, by simp, Or.inl ⟨he, rfl, rfl, rfl⟩⟩

theorem ok_mem {fr : Nat → Nat → Int} {n : Nat} : ∀ {E : List Int} {f : Nat}, okE fr n f E → ∀ x ∈ E, 0 ≤ x ∧ x ≤ (n : Int)
  | [], f, h, x, hx => by cases hx
  | e :: r, f, h, x, hx => by
    rcases List.mem_cons.1 hx with g | g
    · rw [g]; exact ⟨by have := h.1; omega, h.2.1⟩
    · exact ok_mem h.2.2.2 x g
theorem mul_in {a b A B : Int} (a0 : 0 ≤ a) (a1 : a ≤ A) (b0 : 0 ≤ b) (b1 : b ≤ B) : 0 ≤ a * b ∧ a * b ≤ A * B := ⟨Int.mul_nonneg a0 b0, Int.mul_le_mul a1 b1 b0 (by omega)⟩
def LaidR (R : List Int) (r a : Nat) (W : World) (s17 s18 : Value) (wx : World) : Prop := ∃ (rb : Nat) (qr q2 q3 : Option Addr) (cr c2 c3 : Nat), s17 = .pointer (some ⟨rb, 0, none⟩) ∧ s18 = .int .i64 0 ∧ Blk wx rb 28 [.slice qr r cr, .slice q2 a c2, .slice q3 a c3] ∧ At intE wx qr R ∧ Below W.heap.size W wx
def WiderR (Lf : List Int) (m : Nat) (w : World) (e : Ending) (w' : World) : Prop := ∃ (Ey Ly Cy : List Int) (ney : Nat), Ly.getD 0 0 ≤ Lf.getD 0 0 ∧ Ly.length = m ∧ CertG Ey Ly Cy ney m m 0 w e w'
def BgRel (t : Int) (L : List Int) (n : Nat) (W : World) (v21 v22 : Value) (wr : World) : Prop := ∃ i : Nat, v22 = .int .i64 (i : Int) ∧ i ≤ n ∧ OwnR intE wr W.heap.size v21 ((L.take i).map (t * ·)) ∧ Below W.heap.size W wr

set_option maxHeartbeats 8000000 in
set_option maxRecDepth 100000 in
theorem breaksRest_any (A : Option Addr) (l : List Int) (n0 c0 : Nat) (hl : l.length = n0) (n m0 times wider : Int) (h1 : -9223372036854775808 ≤ n) (h2 : n ≤ 9223372036854775807) (h3 : -9223372036854775808 ≤ m0) (h4 : m0 ≤ 9223372036854775807) (h5 : -9223372036854775808 ≤ times) (h6 : times ≤ 9223372036854775807) (h7 : -9223372036854775808 ≤ wider) (h8 : wider ≤ 9223372036854775807) (w : World) (hA : IntsAt w A l) :
    Calls Try.prog 7 #[.slice A n0 c0, .int .i64 n, .int .i64 m0, .int .i64 times, .int .i64 wider] w (Told w true) := by
  have HPg := Lib.hid (page_any n m0 h1 h2 h3 h4 w)
  have HWi := Lib.hid (fun (V : World) (h : Below w.heap.size w V) => (widths_any A l n0 c0 hl V (hA.keep h)))
  have HT := Lib.hid (fun V : World => around_any times h5 h6 50 (by omega) (by omega) V)
  have HR := Lib.hid (fun V : World => around_any wider h7 h8 40 (by omega) (by omega) V)
  have HLv := Lib.hid (fun V : World => lives_any V)
  clear hl h1 h2 h3 h4 h5 h6 h7 h8 hA
  go_enter Try.func7, Try.ntmps7
  go_upto_region 2 with (go_at_call 8; refine HPg.out.mono ?_; rintro en W1 ⟨bl, wd, rfl, hbl, hwd, hB⟩)
  have HWi := Lib.hid (HWi.out W1 hB)
  go_upto_region 3 with (go_at_call 9; refine HWi.out.mono ?_; rintro en W2 ⟨L, hT, v, rfl, hO, hB2⟩; obtain ⟨q, c, rfl, hc, hAt, _, _⟩ := hO.form)
  replace hB := link hB hB2
  obtain ⟨nw, hnw⟩ : ∃ nw, L.length = nw := ⟨_, rfl⟩
  rw [hnw] at hc
  rw [hnw]
  have hnw9 : nw ≤ 9 := by have := hT.1; omega
  obtain ⟨E, Lf, Cf, k0, hfi, hE9, hL9, hC9, hk⟩ := fill_law hT bl wd
  obtain ⟨ne, hne⟩ : ∃ ne, E.length = ne := ⟨_, rfl⟩
  obtain ⟨nl, hnl⟩ : ∃ ne, Lf.length = ne := ⟨_, rfl⟩
  obtain ⟨nc, hnc⟩ : ∃ ne, Cf.length = ne := ⟨_, rfl⟩
  have HFi := Lib.hid (fill_g (c := c) hnw (hAt.ints (tens_few hT)) hfi hne hnl hnc (by omega) (by omega) (by omega))
  have HAt := Lib.hid (fun (V : World) (h : Below W2.heap.size W2 V) => hAt.keep h)
  clear hO hAt HPg HWi hB2 hfi
  go_upto_region 4 with (first
    | (go_at_call 10; refine (HFi.out).mono ?_; rintro en W3 ⟨qe, ql, qc, ce, cl, cc, rfl, hCt3, hB3⟩)
    | (refine store_blk rfl 28 (.tmp 14) (.tmp 40) rfl (blk_new W3 28 zeroCt.toArray) rfl rfl (vs := [.slice qe ne ce, .slice ql nl cl, .slice qc nc cc]) (m := 3) (by kernel_rfl) rfl rfl (by intro v hv; simp at hv; rcases hv with rfl | rfl | rfl <;> rfl) ?_; intro W4 K2 O2))
  try simp only [zP, zQ, zS, zZ, zC]
  have X2 : Below W3.heap.size W3 W4 := O2.2.2 _ _ (Nat.le_refl _) ((Below.refl _ _).alloc (Nat.le_refl _) _)
  have XB := Lib.hid (link (link hB hB3) X2)
  have HX2 := Lib.hid (link hB3 X2)
  obtain ⟨cb, hcb⟩ : ∃ cb, W3.heap.size = cb := ⟨_, rfl⟩
  rw [hcb] at K2
  rw [hcb]
  have hCt := hCt3.keep X2
  have KC := Lib.hid (fun (V : World) (h : Below W4.heap.size W4 V) => K2.keep h)
  clear O2 X2 K2 hB hB3 hcb hCt3 HFi
  have hlv : ∀ V : World, Below W4.heap.size W4 V → True := fun _ _ => trivial
  clear hlv
  rcases hk with ⟨hk, _⟩ | ⟨rfl, hF, hw, hEe, hLe, hCe⟩
  · have hkb : (k0 == 0) = false := beq_eq_false_iff_ne.2 hk
    clear hbl hwd hne hnl hnc hc hE9 hL9 hC9 hnw hT
    go_wp2_with (go_at_call 17; refine (HLv.out W4).mono ?_; rintro en W9 ⟨rfl, hB9⟩)
    go_ret
    exact ⟨rfl, link XB.out hB9⟩
  rcases Nat.eq_zero_or_pos nw with h0 | h0
  · subst h0
    clear hbl hwd hne hnl hnc hc hE9 hL9 hC9 hnw hF hw hEe hLe hCe hT
    go_wp2_with (go_at_call 17; refine (HLv.out W4).mono ?_; rintro en W9 ⟨rfl, hB9⟩)
    go_ret
    exact ⟨rfl, link XB.out hB9⟩
  have h00 : ((nw : Int) == 0) = false := beq_eq_false_iff_ne.2 (by omega)
  have h01 : ¬ (nw : Int) = 0 := by omega
  by_cases hd : 40 < wd
  · clear hbl hwd hne hnl hnc hc hE9 hL9 hC9 hnw hF hw hEe hLe hCe hT
    go_wp2_with (go_at_call 17; refine (HLv.out W4).mono ?_; rintro en W9 ⟨rfl, hB9⟩)
    go_ret
    exact ⟨rfl, link XB.out hB9⟩
  by_cases hb : 40 < bl
  · clear hbl hwd hne hnl hnc hc hE9 hL9 hC9 hnw hF hw hEe hLe hCe hT
    go_wp2_with (go_at_call 17; refine (HLv.out W4).mono ?_; rintro en W9 ⟨rfl, hB9⟩)
    go_ret
    exact ⟨rfl, link XB.out hB9⟩
  obtain ⟨k, hk1, hk2, hE⟩ := rest_ends hF hw (by omega)
  rw [← hEe] at hE
  have hFd := hF.drop k
  have hwd' := wide_drop hw k
  have hG := good_fill hF hw
  have hGd := good_fill hFd hwd'
  have hfd := fillA_good hFd hwd'
  generalize endsT (fillT (L.drop k) bl wd).2.2 (L.drop k).length (L.drop k).length 0 = R at hE hfd
  obtain ⟨r, hr⟩ : ∃ r, R.length = r := ⟨_, rfl⟩
  have hner : ne = r + 1 := by rw [← hne, hE, List.length_cons, List.length_map, hr]
  obtain ⟨m, hm⟩ : ∃ m, nw + 1 = m := ⟨_, rfl⟩
  have hnlm : nl = m := by rw [← hnl, hLe, hG.1]; omega
  have hncm : nc = m := by rw [← hnc, hCe, hG.2.1]; omega
  subst hnlm hncm
  have e1 : ((ne : Int) == 0) = false := beq_eq_false_iff_ne.2 (by omega)
  have e2 : ((nc : Int) == 0) = false := beq_eq_false_iff_ne.2 (by omega)
  have e1' : ¬ (ne : Int) = 0 := by omega
  have e2' : ¬ (nc : Int) = 0 := by omega
  obtain ⟨_, _, _, _, _, _, aE, aL, aC⟩ := hCt
  obtain ⟨be, oe, rfl, lE⟩ := aE.get (i := 0) (by omega)
  obtain ⟨bl_, ol, rfl, lL⟩ := aL.get (i := 0) (by omega)
  obtain ⟨bc, oc, rfl, lC⟩ := aC.get (i := 0) (by omega)
  have HCE := Lib.hid (fun (V : World) (h : Below W4.heap.size W4 V) (i : Nat) (x : Int) (hx : E[i]? = some x) => (by have := (lE.keep h).2 i x 0 _ hx rfl; rwa [show intE.k = 1 from rfl, Nat.mul_one, Nat.add_zero] at this : V.cell? ⟨be, oe + i, none⟩ = some (.int .i64 x)))
  have HCL := Lib.hid (fun (V : World) (h : Below W4.heap.size W4 V) (i : Nat) (x : Int) (hx : Lf[i]? = some x) => (by have := (lL.keep h).2 i x 0 _ hx rfl; rwa [show intE.k = 1 from rfl, Nat.mul_one, Nat.add_zero] at this : V.cell? ⟨bl_, ol + i, none⟩ = some (.int .i64 x)))
  have HCC := Lib.hid (fun (V : World) (h : Below W4.heap.size W4 V) (i : Nat) (x : Int) (hx : Cf[i]? = some x) => (by have := (lC.keep h).2 i x 0 _ hx rfl; rwa [show intE.k = 1 from rfl, Nat.mul_one, Nat.add_zero] at this : V.cell? ⟨bc, oc + i, none⟩ = some (.int .i64 x)))
  have HEAt := Lib.hid (fun (V : World) (h : Below W4.heap.size W4 V) => aE.keep h)
  have c0 := (KC.out W4 (Below.refl _ _)).cell (j := 0) rfl
  have c1 := (KC.out W4 (Below.refl _ _)).cell (j := 1) rfl
  have c2 := (KC.out W4 (Below.refl _ _)).cell (j := 2) rfl
  have ck : W4.cell? ⟨be, oe, none⟩ = some (.int .i64 (k : Int)) := HCE.out W4 (Below.refl _ _) 0 k (by rw [hE]; rfl)
  have hk1' : ¬ (k : Int) < 1 := by omega
  have hk2' : ¬ (nw : Int) < (k : Int) := by omega
  have hkn : k ≤ nw := by omega
  have hFw := Lib.hid hF
  have hww := Lib.hid hw
  have hEe := Lib.hid hEe
  have hLe := Lib.hid hLe
  have hCe := Lib.hid hCe
  have hE := Lib.hid hE
  have hri : (r : Int) + 1 = (ne : Int) := by omega
  have HNer := Lib.hid hner
  have HNe := Lib.hid hne
  have HM := Lib.hid hm
  have HNl := Lib.hid hnl
  have HNc := Lib.hid hnc
  clear aE aL aC lE lL lC hF hw hG hGd hner hne hm hnl hnc
  go_upto_region 11 with (fail)
  clear c0 c1 c2 ck
  obtain ⟨bq, oq, rfl, lQ⟩ := (HAt.out W4 HX2.out).get (i := 0) (by omega)
  have hDb : IntsAt W4 (some ⟨bq, oq + k, none⟩) (L.drop k) := fun _ => ⟨⟨bq, oq + k, none⟩, rfl, lQ.1, fun i x hx => by
    rw [List.getElem?_drop] at hx
    refine ⟨?_, tens_few hT x (List.mem_of_getElem? hx)⟩
    have := lQ.2 (k + i) x 0 _ hx rfl
    rw [show intE.k = 1 from rfl, Nat.mul_one, Nat.add_zero, ← Nat.add_assoc] at this
    rwa [Addr.add_mid]⟩
  have hDa : nw ≤ k → IntsAt W4 (some ⟨bq, oq, none⟩) (L.drop k) := fun h h2 => absurd (List.drop_of_length_le (by omega)) h2
  have hld : (L.drop k).length = nw - k := by rw [List.length_drop, hnw]
  obtain ⟨a, ha⟩ : ∃ a, nw - k + 1 = a := ⟨_, rfl⟩
  have hGl := good_fill hFd hwd'
  have HFd := Lib.hid (fun (q' : Option Addr) (c' : Nat) (V : World) (h : IntsAt V q' (L.drop k)) => fill_g (c := c') hld h hfd hr (hGl.1.trans (by rw [hld, ha])) (hGl.2.1.trans (by rw [hld, ha])) (by omega) (by omega) (by omega))
  have hRb : ∀ x ∈ R, 0 ≤ x ∧ x ≤ 9 := fun x hx => by
    have hEx : x + (k : Int) ∈ E := by rw [hE.out]; exact List.mem_cons_of_mem _ (List.mem_map.2 ⟨x, hx, rfl⟩)
    have hok := (fill_ok (best_fill hFd hwd') (N := (fillT (L.drop k) bl wd).2.2) (fun j hj => rfl) (L.drop k).length 0 (Nat.zero_le _) (by omega)).1
    have e : endsT (fillT (L.drop k) bl wd).2.2 (L.drop k).length (L.drop k).length 0 = R := by
      have := fillA_good hFd hwd'
      rw [hfd] at this
      exact (congrArg Prod.fst this).symm
    rw [e] at hok
    have := ok_mem hok x hx
    omega
  have lQw := lQ
  clear lQ hld hGl hfd ha HAt
  have hc' := hc
  go_cut [17, 18] from 17 to 95 (fun s17 s18 wx => LaidR R r a W4 s17 s18 wx)
  case first =>
    go_wp2_with (first
      | (go_at_call 10; refine (HFd.out _ _ W4 (by first | exact hDb | exact hDa (by first | exact hc' | omega))).mono ?_; rintro en W5 ⟨qr, q2, q3, cr, c2, c3, rfl, hCt5, hB5⟩)
      | (refine store_blk rfl 28 (.tmp 17) (.tmp 93) rfl (blk_new W5 28 zeroCt.toArray) rfl rfl (vs := [.slice qr r cr, .slice q2 a c2, .slice q3 a c3]) (m := 3) (by kernel_rfl) rfl rfl (by intro v hv; simp at hv; rcases hv with rfl | rfl | rfl <;> rfl) ?_; intro W6 K2 O2))
    · obtain rfl : c = k := by omega
      try simp only [zP, zQ, zS, zZ, zC]
      try go_wp2
      have X2 : Below W5.heap.size W5 W6 := O2.2.2 _ _ (Nat.le_refl _) ((Below.refl _ _).alloc (Nat.le_refl _) _)
      go_meet
      exact ⟨_, qr, q2, q3, cr, c2, c3, rfl, rfl, K2, hCt5.2.2.2.2.2.2.1.keep X2, link hB5 X2⟩
    · skip
      try simp only [zP, zQ, zS, zZ, zC]
      try go_wp2
      have X2 : Below W5.heap.size W5 W6 := O2.2.2 _ _ (Nat.le_refl _) ((Below.refl _ _).alloc (Nat.le_refl _) _)
      go_meet
      exact ⟨_, qr, q2, q3, cr, c2, c3, rfl, rfl, K2, hCt5.2.2.2.2.2.2.1.keep X2, link hB5 X2⟩
  case rest =>
  obtain ⟨rb, qr, q2, q3, cr, c2, c3, rfl, rfl, KR, aR, hB6⟩ := hcut
  generalize wc = W6 at *
  clear HFd hDa hDb hc' hFd hwd'
  have e3 : ((ne : Int) == (ne : Int)) = true := by simp
  have d0 := KR.cell (j := 0) rfl
  have c0 := (KC.out W6 hB6).cell (j := 0) rfl
  go_upto_region 14 with (fail)
  clear d0 c0 e3
  go_wp2
  go_loopw [19] (fun v wr => NumRel W6 r v wr) (fun v _ => r - (intOf v).toNat)
  case atStart => exact ⟨0, Nat.zero_le _, rfl, Below.refl _ _⟩
  case round =>
    obtain ⟨i, hi, rfl, hB⟩ := hrel
    have d0 := (KR.keep hB).cell (j := 0) rfl
    rcases Nat.lt_or_ge i r with hlt | hge
    · obtain ⟨x, hx⟩ : ∃ x, R[i]? = some x := ⟨_, List.getElem?_eq_getElem (by omega)⟩
      obtain ⟨x1, x2⟩ := hRb x (List.mem_of_getElem? hx)
      obtain ⟨y, hy⟩ : ∃ y, x + (k : Int) = y := ⟨_, rfl⟩
      obtain ⟨i1, hi1⟩ : ∃ i1, i + 1 = i1 := ⟨_, rfl⟩
      have hEy : E[i1]? = some y := by rw [hE.out, ← hi1, List.getElem?_cons_succ, List.getElem?_map, hx, ← hy]; rfl
      obtain ⟨br, fr, rfl, lR⟩ := aR.get (i := i) (by omega)
      have D0 : ∀ w', Below W6.heap.size W6 w' → w'.cell? ⟨rb, 0, none⟩ = some (.slice (some ⟨br, fr, none⟩) r cr) := fun w' h => (KR.keep h).cell rfl
      have E0 : ∀ w', Below W6.heap.size W6 w' → w'.cell? ⟨cb, 0, none⟩ = some (.slice (some ⟨be, oe, none⟩) ne ce) := fun w' h => (KC.out w' (link hB6 h)).cell rfl
      have CR : ∀ w', Below W6.heap.size W6 w' → w'.cell? ⟨br, fr + i, none⟩ = some (.int .i64 x) := fun w' h => by have := (lR.keep h).2 i x 0 _ hx rfl; rwa [show intE.k = 1 from rfl, Nat.mul_one, Nat.add_zero] at this
      have CE : ∀ w', Below W6.heap.size W6 w' → w'.cell? ⟨be, oe + i1, none⟩ = some (.int .i64 y) := fun w' h => HCE.out w' (link hB6 h) i1 y hEy
      have HWx := Lib.hid (show IntKind.i64.wrap (x + (k : Int)) = y from by rw [hy]; exact wrap_in (by omega) (by omega))
      have HWi1 := Lib.hid (show IntKind.i64.wrap ((i : Int) + 1) = (i1 : Int) from by rw [show (i : Int) + 1 = (i1 : Int) by omega]; exact wrap_in (by omega) (by omega))
      have hi1n : i1 < ne := by have := HNer.out; omega
      have hyy : (y != y) = false := by simp
      clear hx hEy lR hy
      go_upto_region 17 with (fail)
      clear d0
      refine wp_region_held_drew (S := fun w' => Below W6.heap.size W6 w') (by kernel_rfl) (below_drew (hB)) (fun _ => ?_)
      have hHeld : Below W6.heap.size W6 wr.drew := below_drew (hB)
      generalize wr.drew = V0 at hHeld ⊢
      refine wt (i := 0) (oi := ⟨some 114, .fieldAddr 28 (.tmp 17) 0, 0, "law.go:163", #[], none⟩) (v := .pointer (some ⟨rb, 0, none⟩)) (Or.inl ⟨by rfl, fun w' hSw => by go_simp⟩) hHeld ?_
      try simp only [zP, zQ, zS, zZ, zC]
      refine wt (i := 1) (oi := ⟨some 115, .load 22 (.tmp 114), 22, "law.go:163", #[⟨0, .data⟩], none⟩) (v := .slice (some ⟨br, fr, none⟩) r cr) (Or.inl ⟨by rfl, fun w' hSw => by have hc := D0 w' hSw; go_simp⟩) hHeld ?_
      try simp only [zP, zQ, zS, zZ, zC]
      refine wt (i := 2) (oi := ⟨some 116, .move (.tmp 19), 3, "law.go:163", #[], none⟩) (v := .int .i64 (i : Int)) (Or.inl ⟨by rfl, fun w' hSw => by go_simp⟩) hHeld ?_
      try simp only [zP, zQ, zS, zZ, zC]
      refine wt (i := 3) (oi := ⟨some 117, .indexAddr 22 (.tmp 115) (.tmp 116), 0, "law.go:163", #[⟨1, .data⟩, ⟨2, .data⟩], none⟩) (v := .pointer (some ⟨br, fr + i, none⟩)) (Or.inl ⟨by rfl, fun w' hSw => by go_simp; try (intro hcm; exact absurd hcm (by omega))⟩) hHeld ?_
      try simp only [zP, zQ, zS, zZ, zC]
      refine wt (i := 4) (oi := ⟨some 118, .load 3 (.tmp 117), 3, "law.go:163", #[⟨3, .data⟩], none⟩) (v := .int .i64 x) (Or.inl ⟨by rfl, fun w' hSw => by have hc := CR w' hSw; go_simp⟩) hHeld ?_
      try simp only [zP, zQ, zS, zZ, zC]
      refine wt (i := 5) (oi := ⟨some 119, .move (.tmp 16), 3, "law.go:163", #[], none⟩) (v := .int .i64 (k : Int)) (Or.inl ⟨by rfl, fun w' hSw => by go_simp⟩) hHeld ?_
      try simp only [zP, zQ, zS, zZ, zC]
      refine wt (i := 6) (oi := ⟨some 120, .binOp .add 3 (.tmp 118) (.tmp 119) 3, 3, "law.go:163", #[⟨4, .data⟩, ⟨5, .data⟩], none⟩) (v := .int .i64 y) (Or.inl ⟨by rfl, fun w' hSw => by have hw := HWx.out; go_simp⟩) hHeld ?_
      try simp only [zP, zQ, zS, zZ, zC]
      refine wt (i := 7) (oi := ⟨some 121, .fieldAddr 28 (.tmp 14) 0, 0, "law.go:163", #[], none⟩) (v := .pointer (some ⟨cb, 0, none⟩)) (Or.inl ⟨by rfl, fun w' hSw => by go_simp⟩) hHeld ?_
      try simp only [zP, zQ, zS, zZ, zC]
      refine wt (i := 8) (oi := ⟨some 122, .load 22 (.tmp 121), 22, "law.go:163", #[⟨7, .data⟩], none⟩) (v := .slice (some ⟨be, oe, none⟩) ne ce) (Or.inl ⟨by rfl, fun w' hSw => by have hc := E0 w' hSw; go_simp⟩) hHeld ?_
      try simp only [zP, zQ, zS, zZ, zC]
      refine wt (i := 9) (oi := ⟨some 123, .move (.tmp 19), 3, "law.go:163", #[], none⟩) (v := .int .i64 (i : Int)) (Or.inl ⟨by rfl, fun w' hSw => by go_simp⟩) hHeld ?_
      try simp only [zP, zQ, zS, zZ, zC]
      refine wt (i := 10) (oi := ⟨some 124, .binOp .add 3 (.tmp 123) (.const (Value.int IntKind.i64 1)) 3, 3, "law.go:163", #[⟨9, .data⟩], none⟩) (v := .int .i64 (i1 : Int)) (Or.inl ⟨by rfl, fun w' hSw => by have hw := HWi1.out; go_simp⟩) hHeld ?_
      try simp only [zP, zQ, zS, zZ, zC]
      refine wt (i := 11) (oi := ⟨some 125, .indexAddr 22 (.tmp 122) (.tmp 124), 0, "law.go:163", #[⟨8, .data⟩, ⟨10, .data⟩], none⟩) (v := .pointer (some ⟨be, oe + i1, none⟩)) (Or.inl ⟨by rfl, fun w' hSw => by go_simp; try (intro hcm; exact absurd hcm (by omega))⟩) hHeld ?_
      try simp only [zP, zQ, zS, zZ, zC]
      refine wt (i := 12) (oi := ⟨some 126, .load 3 (.tmp 125), 3, "law.go:163", #[⟨11, .data⟩], none⟩) (v := .int .i64 y) (Or.inl ⟨by rfl, fun w' hSw => by have hc := CE w' hSw; go_simp⟩) hHeld ?_
      try simp only [zP, zQ, zS, zZ, zC]
      refine wt (i := 13) (oi := ⟨some 127, .binOp .neq 3 (.tmp 120) (.tmp 126) 3, 4, "law.go:163", #[⟨6, .data⟩, ⟨12, .data⟩], none⟩) (v := .bool false) (Or.inl ⟨by rfl, fun w' hSw => by have hyy := hyy; go_simp⟩) hHeld ?_
      try simp only [zP, zQ, zS, zZ, zC]
      refine wpAnyH_done (by kernel_rfl) ?_ _
      have BX := hHeld
      clear hHeld D0 E0 CR CE
      go_wp2
      exact ⟨⟨i + 1, by omega, by go_num, BX⟩, by simp [intOf]; omega⟩
    · obtain rfl : i = r := by omega
      have hlt : ¬ i < i := by omega
      clear aR hRb
      go_upto_region 20 with (go_at_call 29; refine (HT.out wr).mono ?_; rintro en W7 ⟨s, hs, rfl, rfl⟩)
      obtain ⟨t, ht⟩ : ∃ t : Int, 1 + (s : Int) = t := ⟨_, rfl⟩
      have ht1 : 1 ≤ t := by omega
      have ht2 : t ≤ 50 := by omega
      rw [ht]
      clear ht d0
      replace hB := link hB6 hB
      have HAt2 := Lib.hid (fun (V : World) (h : Below W4.heap.size W4 V) => lQw.keep h)
      clear lQw
      go_wp2
      go_loopw [21, 22] (fun v21 v22 wr => BgRel t L nw W7 v21 v22 wr) (fun _ v _ => nw - (intOf v).toNat)
      case atStart => exact ⟨0, rfl, Nat.zero_le _, OwnR.nil _ _ _, Below.refl _ _⟩
      case round =>
        obtain ⟨j, rfl, hj, hO, hB8⟩ := hrel
        rcases Nat.lt_or_ge j nw with hltj | hgej
        · obtain ⟨x, hx⟩ : ∃ x, L[j]? = some x := ⟨_, List.getElem?_eq_getElem (by omega)⟩
          obtain ⟨x1, x2⟩ := hT.2 x (List.mem_of_getElem? hx)
          have hcx : wr.cell? ⟨bq, oq + j, none⟩ = some (.int .i64 x) := by have := (HAt2.out wr (link hB hB8)).2 j x 0 _ hx rfl; rwa [show intE.k = 1 from rfl, Nat.mul_one, Nat.add_zero] at this
          obtain ⟨acc, hacc⟩ : ∃ acc, (L.take j).map (t * ·) = acc := ⟨_, rfl⟩
          have hal : acc.length ≤ 9 := by rw [← hacc, List.length_map, List.length_take]; omega
          have HAcc := Lib.hid (show (L.take (j + 1)).map (t * ·) = acc ++ [t * x] from by rw [List.take_add_one, hx, List.map_append, hacc]; rfl)
          rw [hacc] at hO
          have hm := mul_in (show 0 ≤ t by omega) ht2 x1 x2
          have hwx : IntKind.i64.wrap (t * x) = t * x := wrap_in (by omega) (by omega)
          have hz := hB8.size
          clear hx hacc hm
          go_wp2_with (at_builtin; refine push_el intE rfl (.tmp 137) (.tmp 144) rfl acc (t * x) _ rfl hO hz _ rfl _ rfl (by omega) ?_; intro v6 W8 hO6 hB9 hR6)
          exact ⟨⟨j + 1, by go_num, by omega, by rw [HAcc.out]; exact hO6, hB8.trans hB9⟩, by simp [intOf]; omega⟩
        · obtain rfl : j = nw := by omega
          have hlt2 : ¬ j < j := by omega
          have hF := hFw.out
          have hw := hww.out
          have hlm : (L.map (t * ·)).length = j := by rw [List.length_map, hnw]
          rw [List.take_of_length_le (by omega)] at hO
          obtain ⟨qg, cg, rfl, hcg, aG, _, _⟩ := hO.form
          rw [hlm] at hcg
          rw [hlm]
          have m1 := mul_in (show 0 ≤ t by omega) ht2 hF.b0 (show bl ≤ 40 by omega)
          have m2 := mul_in (show 0 ≤ t by omega) ht2 hF.w0 (show wd ≤ 40 by omega)
          have hel : ∀ x ∈ L.map (t * ·), 0 ≤ x ∧ x ≤ 450 := fun x hx => by
            obtain ⟨y, hy, rfl⟩ := List.mem_map.1 hx
            have := hT.2 y hy
            have := mul_in (show 0 ≤ t by omega) ht2 this.1 this.2
            show 0 ≤ t * y ∧ t * y ≤ 450
            omega
          have hFt : Fine (L.map (t * ·)) (t * bl) (t * wd) := ⟨m1.1, by omega, m2.1, by omega, fun x hx => by have := hel x hx; omega, by omega⟩
          have hwt := wide_mul (t := t) (by omega) hw
          obtain ⟨s1, s2_⟩ := mul_fill (t := t) (by omega) hF hw hFt
          have hft := fillA_good hFt hwt
          have hGt := good_fill hFt hwt
          rw [hlm, ← hnw, s1, ← hEe.out] at hft
          rw [← hCe.out] at s2_
          obtain ⟨Lx, hLx⟩ : ∃ X, (fillT (L.map (t * ·)) (t * bl) (t * wd)).1 = X := ⟨_, rfl⟩
          obtain ⟨Cx, hCx⟩ : ∃ X, (fillT (L.map (t * ·)) (t * bl) (t * wd)).2.1 = X := ⟨_, rfl⟩
          rw [hLx, hCx] at hft
          rw [hCx] at s2_
          have hxl : Lx.length = nc := by rw [← hLx, hGt.1, hlm]; exact HM.out
          have hxc : Cx.length = nc := by rw [← hCx, hGt.2.1, hlm]; exact HM.out
          have HFx := Lib.hid (fill_g (c := cg) hlm (aG.ints (fun x hx => by have := hel x hx; omega)) hft HNe.out hxl hxc (by omega) (by omega) (by omega))
          have HFy := Lib.hid (fun (s : Nat) (hs : s < 40) (V : World) (h : Below W4.heap.size W4 V) => (show Calls Try.prog 10 #[.slice (some ⟨bq, oq, none⟩) j c, .int .i64 bl, .int .i64 (wd + (s : Int))] V (WiderR Lf nc V) from by
            have hFs : Fine L bl (wd + (s : Int)) := ⟨hF.b0, hF.b1, by have := hF.w0; omega, by omega, hF.all, hF.len⟩
            have hws := wide_more (show wd ≤ wd + (s : Int) by omega) hw
            have hGs := good_fill hFs hws
            have hm := wider_fill (show wd ≤ wd + (s : Int) by omega) hF hw hFs hws
            have h10 := endsT_len (N := (fillT L bl (wd + (s : Int))).2.2) (n := L.length) (fun j hj => hGs.2.2.2.2 j (Nat.zero_le _) hj) L.length 0
            have g := fill_g (c := c) (nl := nc) (nc := nc) hnw (At.ints (q := some ⟨bq, oq, none⟩) (fun _ => ⟨bq, oq, rfl, HAt2.out V h⟩) (tens_few hT)) (fillA_good hFs hws) rfl (hGs.1.trans (by rw [hnw]; exact HM.out)) (hGs.2.1.trans (by rw [hnw]; exact HM.out)) (by omega) (by omega) (by omega)
            exact g.mono (fun _ _ h => ⟨_, _, _, _, by rw [hLe.out]; exact hm, hGs.1.trans (by rw [hnw]; exact HM.out), h⟩)))
          have hwb : IntKind.i64.wrap (t * bl) = t * bl := wrap_in (by omega) (by omega)
          have hwd2 : IntKind.i64.wrap (t * wd) = t * wd := wrap_in (by omega) (by omega)
          have hwd9 := hF.w0
          have hCf0 : 0 ≤ Cf.getD 0 0 ∧ Cf.getD 0 0 ≤ 1000000000 := by
            have := (good_fill hF hw).2.2.2.1 0 (Nat.zero_le _)
            rw [← hCe.out] at this
            have := this.2.2
            omega
          replace hB8 := link hB hB8
          clear hO aG hel hFt hwt hft hGt hLx hCx s1 m1 m2 hT hF hw hB
          go_upto_region 26 with (first
            | (go_at_call 10; refine (HFx.out).mono ?_; rintro en W9 ⟨qx, qx2, qx3, cx, cx2, cx3, rfl, hCtx9, hB9⟩)
            | (refine store_blk rfl 28 (.tmp 23) (.tmp 155) rfl (blk_new W9 28 zeroCt.toArray) rfl rfl (vs := [.slice qx ne cx, .slice qx2 nc cx2, .slice qx3 nc cx3]) (m := 3) (by kernel_rfl) rfl rfl (by intro v hv; simp at hv; rcases hv with rfl | rfl | rfl <;> rfl) ?_; intro W10 K2 O2))
          try simp only [zP, zQ, zS, zZ, zC]
          have X2 : Below W9.heap.size W9 W10 := O2.2.2 _ _ (Nat.le_refl _) ((Below.refl _ _).alloc (Nat.le_refl _) _)
          replace hB8 := link hB8 (link hB9 X2)
          obtain ⟨xb, hxb⟩ : ∃ xb, W9.heap.size = xb := ⟨_, rfl⟩
          rw [hxb] at K2
          rw [hxb]
          have KX := K2
          have hCtx := hCtx9.keep X2
          clear O2 X2 K2 hB9 hxb hCtx9 hwb hwd2
          go_upto_region 27 with (first
            | (go_at_call 29; refine (HR.out W10).mono ?_; rintro en W10a ⟨s2, hs2, rfl, rfl⟩)
            | (go_at_call 10; refine (HFy.out s2 hs2 W10a hB8).mono ?_; rintro en W11 ⟨Ey, Ly, Cy, ney, hyl, hyn, qy, qy2, qy3, cy, cy2, cy3, rfl, hCty11, hB10⟩)
            | (refine store_blk rfl 28 (.tmp 25) (.tmp 165) rfl (blk_new W11 28 zeroCt.toArray) rfl rfl (vs := [.slice qy ney cy, .slice qy2 nc cy2, .slice qy3 nc cy3]) (m := 3) (by kernel_rfl) rfl rfl (by intro v hv; simp at hv; rcases hv with rfl | rfl | rfl <;> rfl) ?_; intro W12 K2 O2))
          try simp only [zP, zQ, zS, zZ, zC]
          have X2 : Below W11.heap.size W11 W12 := O2.2.2 _ _ (Nat.le_refl _) ((Below.refl _ _).alloc (Nat.le_refl _) _)
          replace hB8 := link hB8 (link hB10 X2)
          obtain ⟨yb, hyb⟩ : ∃ yb, W11.heap.size = yb := ⟨_, rfl⟩
          rw [hyb] at K2
          rw [hyb]
          have KY := K2
          replace KX := KX.keep (link hB10 X2)
          replace hCtx := hCtx.keep (link hB10 X2)
          have hCty := hCty11.keep X2
          clear O2 X2 K2 hB10 hyb hCty11
          have f1 := KX.cell (j := 2) rfl
          have f2 := (KC.out W12 hB8).cell (j := 2) rfl
          have f3 := KY.cell (j := 1) rfl
          have e5 : ((nc : Int) == (nc : Int)) = true := by simp
          go_upto_region 29 with (fail)
          clear f1 f2 f3 e5
          obtain ⟨c0, hc0⟩ : ∃ x, Cf[0]? = some x := ⟨_, List.getElem?_eq_getElem (by have := HNc.out; omega)⟩
          obtain ⟨l0, hl0⟩ : ∃ x, Lf[0]? = some x := ⟨_, List.getElem?_eq_getElem (by have := HNl.out; omega)⟩
          obtain ⟨y0, hy0⟩ : ∃ x, Ly[0]? = some x := ⟨_, List.getElem?_eq_getElem (by omega)⟩
          obtain ⟨x0, hx0⟩ : ∃ x, Cx[0]? = some x := ⟨_, List.getElem?_eq_getElem (by omega)⟩
          have dc : Cf.getD 0 0 = c0 := by rw [List.getD_eq_getElem?_getD, hc0]; rfl
          have dl : Lf.getD 0 0 = l0 := by rw [List.getD_eq_getElem?_getD, hl0]; rfl
          have dy : Ly.getD 0 0 = y0 := by rw [List.getD_eq_getElem?_getD, hy0]; rfl
          have dx : Cx.getD 0 0 = x0 := by rw [List.getD_eq_getElem?_getD, hx0]; rfl
          rw [dx, dc] at s2_
          rw [dy, dl] at hyl
          rw [dc] at hCf0
          subst s2_
          obtain ⟨_, _, _, _, _, _, aEx, _, aCx⟩ := hCtx
          obtain ⟨_, _, _, _, _, _, _, aLy, _⟩ := hCty
          obtain ⟨bx, ox, rfl, lCx⟩ := aCx.get (i := 0) (by omega)
          obtain ⟨by_, oy, rfl, lLy⟩ := aLy.get (i := 0) (by omega)
          have FX0 : ∀ w', Below W12.heap.size W12 w' → w'.cell? ⟨xb, 0, none⟩ = some (.slice qx ne cx) := fun w' h => (KX.keep h).cell rfl
          have FX2 : ∀ w', Below W12.heap.size W12 w' → w'.cell? ⟨xb, 2, none⟩ = some (.slice (some ⟨bx, ox, none⟩) nc cx3) := fun w' h => (KX.keep h).cell rfl
          have FXc : ∀ w', Below W12.heap.size W12 w' → w'.cell? ⟨bx, ox, none⟩ = some (.int .i64 (t * t * c0)) := fun w' h => (lCx.keep h).2 0 _ 0 _ hx0 rfl
          have FC0 : ∀ w', Below W12.heap.size W12 w' → w'.cell? ⟨cb, 0, none⟩ = some (.slice (some ⟨be, oe, none⟩) ne ce) := fun w' h => (KC.out w' (link hB8 h)).cell rfl
          have FC1 : ∀ w', Below W12.heap.size W12 w' → w'.cell? ⟨cb, 1, none⟩ = some (.slice (some ⟨bl_, ol, none⟩) nc cl) := fun w' h => (KC.out w' (link hB8 h)).cell rfl
          have FC2 : ∀ w', Below W12.heap.size W12 w' → w'.cell? ⟨cb, 2, none⟩ = some (.slice (some ⟨bc, oc, none⟩) nc cc) := fun w' h => (KC.out w' (link hB8 h)).cell rfl
          have FCc : ∀ w', Below W12.heap.size W12 w' → w'.cell? ⟨bc, oc, none⟩ = some (.int .i64 c0) := fun w' h => HCC.out w' (link hB8 h) 0 c0 hc0
          have FCl : ∀ w', Below W12.heap.size W12 w' → w'.cell? ⟨bl_, ol, none⟩ = some (.int .i64 l0) := fun w' h => HCL.out w' (link hB8 h) 0 l0 hl0
          have FY1 : ∀ w', Below W12.heap.size W12 w' → w'.cell? ⟨yb, 1, none⟩ = some (.slice (some ⟨by_, oy, none⟩) nc cy2) := fun w' h => (KY.keep h).cell rfl
          have FYc : ∀ w', Below W12.heap.size W12 w' → w'.cell? ⟨by_, oy, none⟩ = some (.int .i64 y0) := fun w' h => (lLy.keep h).2 0 _ 0 _ hy0 rfl
          have FEx : ∀ w', Below W12.heap.size W12 w' → At intE w' qx E := fun w' h => aEx.keep h
          have FEc : ∀ w', Below W12.heap.size W12 w' → At intE w' (some ⟨be, oe, none⟩) E := fun w' h => HEAt.out w' (link hB8 h)
          have mt := mul_in (show 0 ≤ t by omega) ht2 (show 0 ≤ t by omega) ht2
          have mc := mul_in mt.1 mt.2 hCf0.1 hCf0.2
          have HWt := Lib.hid (show IntKind.i64.wrap (t * t) = t * t from wrap_in (by omega) (by omega))
          have HWc := Lib.hid (wrap_big (x := t * t * c0) (by omega) (by omega))
          have hnc0 : 0 < nc := by omega
          clear hc0 hl0 hy0 hx0 dc dl dy dx hCf0 mt mc aEx aCx aLy lCx lLy HFx HFy KX KY
          refine wp_region_held_drew (S := fun w' => Below W12.heap.size W12 w') (by kernel_rfl) (below_drew (Below.refl _ _)) (fun _ => ?_)
          have hHeld : Below W12.heap.size W12 W12.drew := below_drew (Below.refl _ _)
          generalize W12.drew = V0 at hHeld ⊢
          refine wt (i := 0) (oi := ⟨some 188, .fieldAddr 28 (.tmp 23) 0, 0, "law.go:177", #[], none⟩) (v := .pointer (some ⟨xb, 0, none⟩)) (Or.inl ⟨by rfl, fun w' hSw => by go_simp⟩) hHeld ?_
          try simp only [zP, zQ, zS, zZ, zC]
          refine wt (i := 1) (oi := ⟨some 189, .load 22 (.tmp 188), 22, "law.go:177", #[⟨0, .data⟩], none⟩) (v := .slice qx ne cx) (Or.inl ⟨by rfl, fun w' hSw => by have hc := FX0 w' hSw; go_simp⟩) hHeld ?_
          try simp only [zP, zQ, zS, zZ, zC]
          refine wt (i := 2) (oi := ⟨some 190, .fieldAddr 28 (.tmp 14) 0, 0, "law.go:177", #[], none⟩) (v := .pointer (some ⟨cb, 0, none⟩)) (Or.inl ⟨by rfl, fun w' hSw => by go_simp⟩) hHeld ?_
          try simp only [zP, zQ, zS, zZ, zC]
          refine wt (i := 3) (oi := ⟨some 191, .load 22 (.tmp 190), 22, "law.go:177", #[⟨2, .data⟩], none⟩) (v := .slice (some ⟨be, oe, none⟩) ne ce) (Or.inl ⟨by rfl, fun w' hSw => by have hc := FC0 w' hSw; go_simp⟩) hHeld ?_
          try simp only [zP, zQ, zS, zZ, zC]
          refine wpAnyH_ready (rs := [4]) (by kernel_rfl) (by simp) ?_
          refine AllReadyH.cons (o := ⟨some 192, .call { callee := .value (.func 16), args := #[.tmp 189, .tmp 191], argTypes := #[22, 22] }, 4, "law.go:177", #[⟨1, .data⟩, ⟨3, .data⟩], none⟩) rfl (fun K hK => ?_) AllReadyH.nil
          rw [if_pos (by rfl)]
          go_simp
          refine (sameInts_refl E qx (some ⟨be, oe, none⟩) ne cx ce HNe.out (by omega) V0 (FEx V0 hHeld) (FEc V0 hHeld)).mono ?_
          rintro en V1 ⟨rfl, hB9⟩
          dsimp only
          refine hK.out _ _ (link hHeld hB9) (fun hHeld => ?_)
          clear hK K
          try simp only [zP, zQ, zS, zZ, zC]
          clear hB9
          refine wt (i := 5) (oi := ⟨some 193, .move (.tmp 192), 4, "law.go:177", #[⟨4, .data⟩, ⟨4, .chain⟩], none⟩) (v := .bool true) (Or.inl ⟨by rfl, fun w' hSw => by go_simp⟩) hHeld ?_
          try simp only [zP, zQ, zS, zZ, zC]
          refine wt (i := 6) (oi := ⟨some 194, .fieldAddr 28 (.tmp 23) 2, 0, "law.go:177", #[⟨5, .guard⟩], some (5, true)⟩) (v := .pointer (some ⟨xb, 2, none⟩)) (Or.inl ⟨by rfl, fun w' hSw => by go_simp⟩) hHeld ?_
          try simp only [zP, zQ, zS, zZ, zC]
          refine wt (i := 7) (oi := ⟨some 195, .load 22 (.tmp 194), 22, "law.go:177", #[⟨6, .data⟩, ⟨5, .guard⟩], some (5, true)⟩) (v := .slice (some ⟨bx, ox, none⟩) nc cx3) (Or.inl ⟨by rfl, fun w' hSw => by have hc := FX2 w' hSw; go_simp⟩) hHeld ?_
          try simp only [zP, zQ, zS, zZ, zC]
          refine wt (i := 8) (oi := ⟨some 196, .indexAddr 22 (.tmp 195) (.const (Value.int IntKind.i64 0)), 0, "law.go:177", #[⟨7, .data⟩, ⟨5, .guard⟩], some (5, true)⟩) (v := .pointer (some ⟨bx, ox, none⟩)) (Or.inl ⟨by rfl, fun w' hSw => by go_simp; try (intro hcm; exact absurd hcm (by omega))⟩) hHeld ?_
          try simp only [zP, zQ, zS, zZ, zC]
          refine wt (i := 9) (oi := ⟨some 197, .load 3 (.tmp 196), 3, "law.go:177", #[⟨8, .data⟩, ⟨5, .guard⟩], some (5, true)⟩) (v := .int .i64 (t * t * c0)) (Or.inl ⟨by rfl, fun w' hSw => by have hc := FXc w' hSw; go_simp⟩) hHeld ?_
          try simp only [zP, zQ, zS, zZ, zC]
          refine wt (i := 10) (oi := ⟨some 198, .move (.tmp 20), 3, "law.go:177", #[⟨5, .guard⟩], some (5, true)⟩) (v := .int .i64 t) (Or.inl ⟨by rfl, fun w' hSw => by go_simp⟩) hHeld ?_
          try simp only [zP, zQ, zS, zZ, zC]
          refine wt (i := 11) (oi := ⟨some 199, .move (.tmp 20), 3, "law.go:177", #[⟨5, .guard⟩], some (5, true)⟩) (v := .int .i64 t) (Or.inl ⟨by rfl, fun w' hSw => by go_simp⟩) hHeld ?_
          try simp only [zP, zQ, zS, zZ, zC]
          refine wt (i := 12) (oi := ⟨some 200, .binOp .mul 3 (.tmp 198) (.tmp 199) 3, 3, "law.go:177", #[⟨10, .data⟩, ⟨11, .data⟩, ⟨5, .guard⟩], some (5, true)⟩) (v := .int .i64 (t * t)) (Or.inl ⟨by rfl, fun w' hSw => by have hw := HWt.out; go_simp⟩) hHeld ?_
          try simp only [zP, zQ, zS, zZ, zC]
          refine wt (i := 13) (oi := ⟨some 201, .fieldAddr 28 (.tmp 14) 2, 0, "law.go:177", #[⟨5, .guard⟩], some (5, true)⟩) (v := .pointer (some ⟨cb, 2, none⟩)) (Or.inl ⟨by rfl, fun w' hSw => by go_simp⟩) hHeld ?_
          try simp only [zP, zQ, zS, zZ, zC]
          refine wt (i := 14) (oi := ⟨some 202, .load 22 (.tmp 201), 22, "law.go:177", #[⟨13, .data⟩, ⟨5, .guard⟩], some (5, true)⟩) (v := .slice (some ⟨bc, oc, none⟩) nc cc) (Or.inl ⟨by rfl, fun w' hSw => by have hc := FC2 w' hSw; go_simp⟩) hHeld ?_
          try simp only [zP, zQ, zS, zZ, zC]
          refine wt (i := 15) (oi := ⟨some 203, .indexAddr 22 (.tmp 202) (.const (Value.int IntKind.i64 0)), 0, "law.go:177", #[⟨14, .data⟩, ⟨5, .guard⟩], some (5, true)⟩) (v := .pointer (some ⟨bc, oc, none⟩)) (Or.inl ⟨by rfl, fun w' hSw => by go_simp; try (intro hcm; exact absurd hcm (by omega))⟩) hHeld ?_
          try simp only [zP, zQ, zS, zZ, zC]
          refine wt (i := 16) (oi := ⟨some 204, .load 3 (.tmp 203), 3, "law.go:177", #[⟨15, .data⟩, ⟨5, .guard⟩], some (5, true)⟩) (v := .int .i64 c0) (Or.inl ⟨by rfl, fun w' hSw => by have hc := FCc w' hSw; go_simp⟩) hHeld ?_
          try simp only [zP, zQ, zS, zZ, zC]
          refine wt (i := 17) (oi := ⟨some 205, .binOp .mul 3 (.tmp 200) (.tmp 204) 3, 3, "law.go:177", #[⟨12, .data⟩, ⟨16, .data⟩, ⟨5, .guard⟩], some (5, true)⟩) (v := .int .i64 (t * t * c0)) (Or.inl ⟨by rfl, fun w' hSw => by have hw := HWc.out; go_simp⟩) hHeld ?_
          try simp only [zP, zQ, zS, zZ, zC]
          refine wt (i := 18) (oi := ⟨some 206, .binOp .eql 3 (.tmp 197) (.tmp 205) 3, 4, "law.go:177", #[⟨9, .data⟩, ⟨17, .data⟩, ⟨5, .guard⟩], some (5, true)⟩) (v := .bool true) (Or.inl ⟨by rfl, fun w' hSw => by go_simp⟩) hHeld ?_
          try simp only [zP, zQ, zS, zZ, zC]
          refine wt (i := 19) (oi := ⟨some 207, .pick (.tmp 193) (.tmp 206) (.const (Value.bool false)), 4, "law.go:177", #[⟨5, .data⟩, ⟨18, .data⟩], none⟩) (v := .bool true) (Or.inl ⟨by rfl, fun w' hSw => by go_simp⟩) hHeld ?_
          try simp only [zP, zQ, zS, zZ, zC]
          refine wt (i := 20) (oi := ⟨some 208, .move (.tmp 207), 4, "law.go:177", #[⟨19, .data⟩, ⟨5, .chain⟩], none⟩) (v := .bool true) (Or.inl ⟨by rfl, fun w' hSw => by go_simp⟩) hHeld ?_
          try simp only [zP, zQ, zS, zZ, zC]
          refine wt (i := 21) (oi := ⟨some 209, .fieldAddr 28 (.tmp 25) 1, 0, "law.go:177", #[⟨20, .guard⟩], some (20, true)⟩) (v := .pointer (some ⟨yb, 1, none⟩)) (Or.inl ⟨by rfl, fun w' hSw => by go_simp⟩) hHeld ?_
          try simp only [zP, zQ, zS, zZ, zC]
          refine wt (i := 22) (oi := ⟨some 210, .load 22 (.tmp 209), 22, "law.go:177", #[⟨21, .data⟩, ⟨20, .guard⟩], some (20, true)⟩) (v := .slice (some ⟨by_, oy, none⟩) nc cy2) (Or.inl ⟨by rfl, fun w' hSw => by have hc := FY1 w' hSw; go_simp⟩) hHeld ?_
          try simp only [zP, zQ, zS, zZ, zC]
          refine wt (i := 23) (oi := ⟨some 211, .indexAddr 22 (.tmp 210) (.const (Value.int IntKind.i64 0)), 0, "law.go:177", #[⟨22, .data⟩, ⟨20, .guard⟩], some (20, true)⟩) (v := .pointer (some ⟨by_, oy, none⟩)) (Or.inl ⟨by rfl, fun w' hSw => by go_simp; try (intro hcm; exact absurd hcm (by omega))⟩) hHeld ?_
          try simp only [zP, zQ, zS, zZ, zC]
          refine wt (i := 24) (oi := ⟨some 212, .load 3 (.tmp 211), 3, "law.go:177", #[⟨23, .data⟩, ⟨20, .guard⟩], some (20, true)⟩) (v := .int .i64 y0) (Or.inl ⟨by rfl, fun w' hSw => by have hc := FYc w' hSw; go_simp⟩) hHeld ?_
          try simp only [zP, zQ, zS, zZ, zC]
          refine wt (i := 25) (oi := ⟨some 213, .fieldAddr 28 (.tmp 14) 1, 0, "law.go:177", #[⟨20, .guard⟩], some (20, true)⟩) (v := .pointer (some ⟨cb, 1, none⟩)) (Or.inl ⟨by rfl, fun w' hSw => by go_simp⟩) hHeld ?_
          try simp only [zP, zQ, zS, zZ, zC]
          refine wt (i := 26) (oi := ⟨some 214, .load 22 (.tmp 213), 22, "law.go:177", #[⟨25, .data⟩, ⟨20, .guard⟩], some (20, true)⟩) (v := .slice (some ⟨bl_, ol, none⟩) nc cl) (Or.inl ⟨by rfl, fun w' hSw => by have hc := FC1 w' hSw; go_simp⟩) hHeld ?_
          try simp only [zP, zQ, zS, zZ, zC]
          refine wt (i := 27) (oi := ⟨some 215, .indexAddr 22 (.tmp 214) (.const (Value.int IntKind.i64 0)), 0, "law.go:177", #[⟨26, .data⟩, ⟨20, .guard⟩], some (20, true)⟩) (v := .pointer (some ⟨bl_, ol, none⟩)) (Or.inl ⟨by rfl, fun w' hSw => by go_simp; try (intro hcm; exact absurd hcm (by omega))⟩) hHeld ?_
          try simp only [zP, zQ, zS, zZ, zC]
          refine wt (i := 28) (oi := ⟨some 216, .load 3 (.tmp 215), 3, "law.go:177", #[⟨27, .data⟩, ⟨20, .guard⟩], some (20, true)⟩) (v := .int .i64 l0) (Or.inl ⟨by rfl, fun w' hSw => by have hc := FCl w' hSw; go_simp⟩) hHeld ?_
          try simp only [zP, zQ, zS, zZ, zC]
          refine wt (i := 29) (oi := ⟨some 217, .binOp .leq 3 (.tmp 212) (.tmp 216) 3, 4, "law.go:177", #[⟨24, .data⟩, ⟨28, .data⟩, ⟨20, .guard⟩], some (20, true)⟩) (v := .bool true) (Or.inl ⟨by rfl, fun w' hSw => by have hyl := hyl; go_simp⟩) hHeld ?_
          try simp only [zP, zQ, zS, zZ, zC]
          refine wt (i := 30) (oi := ⟨some 218, .pick (.tmp 208) (.tmp 217) (.const (Value.bool false)), 4, "law.go:177", #[⟨20, .data⟩, ⟨29, .data⟩], none⟩) (v := .bool true) (Or.inl ⟨by rfl, fun w' hSw => by go_simp⟩) hHeld ?_
          try simp only [zP, zQ, zS, zZ, zC]
          refine wt (i := 31) (oi := ⟨some 219, .move (.tmp 218), 4, "law.go:177", #[⟨30, .data⟩, ⟨20, .chain⟩], none⟩) (v := .bool true) (Or.inl ⟨by rfl, fun w' hSw => by go_simp⟩) hHeld ?_
          try simp only [zP, zQ, zS, zZ, zC]
          refine wpAnyH_ready (rs := [32]) (by kernel_rfl) (by simp) ?_
          refine AllReadyH.cons (o := ⟨some 220, .call { callee := .value (.func 17), args := #[], argTypes := #[] }, 4, "law.go:177", #[⟨31, .chain⟩, ⟨31, .guard⟩], some (31, true)⟩) rfl (fun K hK => ?_) AllReadyH.nil
          rw [if_pos (by rfl)]
          go_simp
          refine (HLv.out V1).mono ?_
          rintro en V2 ⟨rfl, hB9⟩
          dsimp only
          refine hK.out _ _ (link hHeld hB9) (fun hHeld => ?_)
          clear hK K
          try simp only [zP, zQ, zS, zZ, zC]
          clear hB9
          refine wt (i := 33) (oi := ⟨some 221, .pick (.tmp 219) (.tmp 220) (.const (Value.bool false)), 4, "law.go:177", #[⟨31, .data⟩, ⟨32, .data⟩], none⟩) (v := .bool true) (Or.inl ⟨by rfl, fun w' hSw => by go_simp⟩) hHeld ?_
          try simp only [zP, zQ, zS, zZ, zC]
          refine wpAnyH_ready (rs := [34]) (by kernel_rfl) (by simp) ?_
          refine AllReadyH.cons (o := ⟨some 10, .assign (.tmp 221), 4, "law.go:177", #[⟨33, .data⟩, ⟨32, .chain⟩, ⟨0, .phase⟩, ⟨1, .phase⟩, ⟨2, .phase⟩, ⟨3, .phase⟩, ⟨4, .phase⟩, ⟨5, .phase⟩, ⟨6, .phase⟩, ⟨7, .phase⟩, ⟨8, .phase⟩, ⟨9, .phase⟩, ⟨10, .phase⟩, ⟨11, .phase⟩, ⟨12, .phase⟩, ⟨13, .phase⟩, ⟨14, .phase⟩, ⟨15, .phase⟩, ⟨16, .phase⟩, ⟨17, .phase⟩, ⟨18, .phase⟩, ⟨19, .phase⟩, ⟨20, .phase⟩, ⟨21, .phase⟩, ⟨22, .phase⟩, ⟨23, .phase⟩, ⟨24, .phase⟩, ⟨25, .phase⟩, ⟨26, .phase⟩, ⟨27, .phase⟩, ⟨28, .phase⟩, ⟨29, .phase⟩, ⟨30, .phase⟩, ⟨31, .phase⟩, ⟨32, .phase⟩, ⟨33, .phase⟩], none⟩) rfl (fun K hK => ?_) AllReadyH.nil
          go_simp
          refine hK.out _ _ (hHeld) (fun hHeld => ?_)
          clear hK K
          try simp only [zP, zQ, zS, zZ, zC]
          refine wpAnyH_done (by kernel_rfl) ?_ _
          have BX := hHeld
          clear hHeld 
          go_wp2
          go_ret
          exact ⟨rfl, link XB.out (link hB8 BX)⟩
end Go.Proofs.Ytacdjchkilheiaa
