/-
  passimlaw03.SignBindsTheIndex returns true. Conditions: the tables of the package hash and of its specification lie as the program lays them when the call begins (the card ties them to the text); no other.
-/
import Derived.Test.YthffkbdecfjekaaDoorCLa
import Derived.Test.YthffkbdecfjekaaDoorMg

namespace Go.Proofs.YthffkbdecfjekaaDoor
open Go.RowKit
set_option linter.unusedVariables false
set_option linter.unusedSimpArgs false

theorem trodAll_five {H : Type} {enc : TypeId × Value → H} {P : Program} {w : World} {base : Nat} {spare : Nat → Bool} {held : Bool} {t t' t'' t3 t4 : TypeId} {args : Array Value} {ds : List (DataW H)} {ps : List MemPlace} (h : DataW.TrodAll enc P w base spare held [t, t', t'', t3, t4] args.toList ds ps) :
    ∃ v v' v'' v3 v4 d d' d'' d3 d4 p p' p'' p3 p4, args = #[v, v', v'', v3, v4] ∧ ds = [d, d', d'', d3, d4] ∧ ps = p ++ (p' ++ (p'' ++ (p3 ++ p4))) ∧ DataW.Trod enc P w base spare held t v d p ∧ DataW.Trod enc P w base spare held t' v' d' p' ∧ DataW.Trod enc P w base spare held t'' v'' d'' p'' ∧ DataW.Trod enc P w base spare held t3 v3 d3 p3 ∧ DataW.Trod enc P w base spare held t4 v4 d4 p4 := by
  obtain ⟨v, vs, d, ds1, p, q, ha, rfl, rfl, h0, r0⟩ := ChangeShapes.trodAll_cons h
  obtain ⟨v', vs', d', ds2, p', q', rfl, rfl, rfl, h1, r1⟩ := ChangeShapes.trodAll_cons r0
  obtain ⟨v'', vs'', d'', ds3, p'', q'', rfl, rfl, rfl, h2, r2⟩ := ChangeShapes.trodAll_cons r1
  obtain ⟨v3, vs3, d3, ds4, p3, q3, rfl, rfl, rfl, h3, r3⟩ := ChangeShapes.trodAll_cons r2
  obtain ⟨v4, vs4, d4, ds5, p4, q4, rfl, rfl, rfl, h4, r4⟩ := ChangeShapes.trodAll_cons r3
  obtain ⟨rfl, rfl, rfl⟩ := ChangeShapes.trodAll_nil r4
  refine ⟨v, v', v'', v3, v4, d, d', d'', d3, d4, p, p', p'', p3, p4, ?_, rfl, by simp, h0, h1, h2, h3, h4⟩
  rw [← Array.toArray_toList (xs := args), ha]
theorem cut_join (l : List Nat) (n : Nat) : l.take n ++ l.drop n = l := List.take_append_drop n l

set_option maxHeartbeats 8000000 in
set_option maxRecDepth 100000 in
theorem binds_law (c height index other : Nat) (hc : c < 256) (hh : height < 256) (hi : index < 256) (ho : other < 256) (msg : ByteArray) (w : World) (hG : Glob w) (hR : GlobR w) :
    Calls Tryd.prog 8 #[.int .u8 (c : Int), .int .u8 (height : Int), .int .u8 (index : Int), .int .u8 (other : Int), .string msg] w (Told w true) := by
  by_cases hm : msg.size ≤ 200
  · have hmm : decide ((200 : Int) < (msg.size : Int)) = false := by simp only [decide_eq_false_iff_not]; omega
    have H0 := Lib.hid (fun w0 g => sanity3_any w0 g)
    obtain ⟨h, hh3⟩ : ∃ h, height % 3 = h := ⟨_, rfl⟩
    have h6 : h ≤ 2 := by omega
    have e1 : (height : Int) % 3 = (h : Int) := by omega
    have e2 := shl_in h (by omega)
    obtain ⟨m, hme⟩ : ∃ m, 2 ^ h = m := ⟨_, rfl⟩
    have hm1 : 1 ≤ m := by rw [← hme]; exact Nat.two_pow_pos h
    have hm4 : m ≤ 4 := by rw [← hme]; exact Nat.le_trans (Nat.pow_le_pow_right (by omega) h6) (by decide)
    rw [hme] at e2
    obtain ⟨i, hie⟩ : ∃ i, index % m = i := ⟨_, rfl⟩
    have him : i < m := by rw [← hie]; exact Nat.mod_lt _ (by omega)
    have e3 : (index : Int) % (m : Int) = (i : Int) := by rw [← hie]; simp
    obtain ⟨k, hke⟩ : ∃ k, other % m = k := ⟨_, rfl⟩
    have hkm : k < m := by rw [← hke]; exact Nat.mod_lt _ (by omega)
    have e4 : (other : Int) % (m : Int) = (k : Int) := by rw [← hke]; simp
    have m0 : (1 : Int) ≤ (m : Int) := by omega
    have HMI : Hid (i < 2 ^ h) := Lib.hid (by rw [hme]; exact him)
    have HMK : Hid (k < 2 ^ h) := Lib.hid (by rw [hme]; exact hkm)
    clear hh3 hie hke hme
    have HSD := Lib.hid (fun w0 => seed_any c hc w0)
    have HPB := Lib.hid (fun w0 g => public_yes (strOf (seedL c)) h (size_seed c) (by omega) w0 g)
    have HSG := Lib.hid (fun w0 g => sign_yes (strOf (seedL c)) msg h i (size_seed c) (by omega) HMI.out (by omega) w0 g)
    have HSK := Lib.hid (fun w0 g => sign_yes (strOf (seedL c)) msg h k (size_seed c) (by omega) HMK.out (by omega) w0 g)
    have hP : Dgt (rootM (seedL c) h) := node_dgt _ _ _
    have hA1 := sign_accepted (seedL c) h i (by omega) HMI.out (sb msg) (by rw [sb_length]; omega)
    have hsl := sig_length (seedL c) h i (sb msg)
    have hsk := sig_length (seedL c) h k (sb msg)
    have hel := (enc_length (i : Int) (by omega) (by omega)).2
    have hek := (enc_length (k : Int) (by omega) (by omega)).2
    have hsb := sig_byte (seedL c) h i (by omega) (sb msg)
    have hsbk := sig_byte (seedL c) h k (by omega) (sb msg)
    rw [sb_seed hc] at HPB HSG HSK
    have hik : i = k → sigM (seedL c) h k (sb msg) = sigM (seedL c) h i (sb msg) := fun e => by rw [e]
    generalize rootM (seedL c) h = P at HPB hP hA1
    generalize sigM (seedL c) h i (sb msg) = SL at HSG hA1 hsl hsb hik
    generalize sigM (seedL c) h k (sb msg) = TL at HSK hsk hsbk hik
    obtain ⟨SS, hSS⟩ : ∃ SS, strOf SL = SS := ⟨_, rfl⟩
    obtain ⟨TS, hTS⟩ : ∃ TS, strOf TL = TS := ⟨_, rfl⟩
    have hSL : SL = sb SS := by rw [← hSS, sb_strOf SL hsb]
    have hTL : TL = sb TS := by rw [← hTS, sb_strOf TL hsbk]
    rw [hSS] at HSG
    rw [hTS] at HSK
    rw [hSL] at hA1 hsl hik
    rw [hTL] at hsk hik
    rw [sb_length] at hsl hsk
    generalize (enc (i : Int)).length = en at hsl hel
    generalize (enc (k : Int)).length = ek at hsk hek
    obtain ⟨n, hn⟩ : ∃ n, (68 + h) * 16 = n := ⟨_, rfl⟩
    rw [hn] at hsl hsk
    have hnI : (68 + (h : Int)) * 16 = (n : Int) := by omega
    have hS1 : decide ((SS.size : Int) < 1088) = false := by simp only [decide_eq_false_iff_not]; omega
    have hS2 : decide (SS.size < n) = false := by simp only [decide_eq_false_iff_not]; omega
    have hT2 : decide (TS.size < n) = false := by simp only [decide_eq_false_iff_not]; omega
    obtain ⟨a, ha⟩ : ∃ a, TS.size - n = a := ⟨_, rfl⟩
    obtain ⟨b, hb⟩ : ∃ b, SS.size - n = b := ⟨_, rfl⟩
    have hwA : IntKind.i64.wrap ((TS.size : Int) - (n : Int)) = (a : Int) := (IntWalk.i64_in _ (by omega)).trans (by omega)
    have hwB : IntKind.i64.wrap ((SS.size : Int) - (n : Int)) = (b : Int) := (IntWalk.i64_in _ (by omega)).trans (by omega)
    have ha0 : (0 : Int) ≤ (a : Int) := by omega
    have hb0 : (0 : Int) ≤ (b : Int) := by omega
    have haT : (a : Int) ≤ (TS.size : Int) := by omega
    have hbS : (b : Int) ≤ (SS.size : Int) := by omega
    have hMX : sb (TS.extract 0 a ++ SS.extract b SS.size) = (sb TS).take a ++ (sb SS).drop b := by rw [sb_app, sb_to, sb_from]
    have hMZ : (TS.extract 0 a ++ SS.extract b SS.size).size ≤ 4000 := by
      rw [← sb_length, hMX, List.length_append, List.length_take, List.length_drop, sb_length, sb_length]
      omega
    have hZA : (TS.extract 0 a).size + (SS.extract b SS.size).size ≤ 9223372036854775807 := by
      rw [← sb_length, ← sb_length, sb_to, sb_from, List.length_take, List.length_drop, sb_length, sb_length]
      omega
    have hZB : min a TS.size + (SS.size - b) ≤ 9223372036854775807 := by omega
    have hV1 := fun w0 g => verify_any P hP (h : Int) msg (TS.extract 0 a ++ SS.extract b SS.size) (by omega) (by omega) w0 g
    have hV2 := fun w0 g => rverify_any P hP (h : Int) msg (TS.extract 0 a ++ SS.extract b SS.size) (by omega) (by omega) w0 g
    have hsame : i = k → verM P (h : Int) (sb msg) (sb (TS.extract 0 a ++ SS.extract b SS.size)) = ((i : Int), 0) := by
      intro e
      have e' := hik e
      have el : TS.size = SS.size := by rw [← sb_length, ← sb_length, e']
      have eab : a = b := by omega
      rw [hMX, e', eab, cut_join]
      exact hA1
    generalize verM P (h : Int) (sb msg) (sb (TS.extract 0 a ++ SS.extract b SS.size)) = r at hV1 hV2 hsame
    obtain ⟨x, f⟩ := r
    simp only at hV1 hV2
    have HV1 := Lib.hid hV1
    have HV2 := Lib.hid hV2
    have HSM := Lib.hid hsame
    have hz1 := zero_dig'
    have hz16 : (bytesV z16).toArray.toList.length = 16 := rfl
    have hvP : (bytesV P).length = 16 := by rw [bytesV_length]; exact hP.1
    clear hA1 hsl hsk hel hek hsb hsbk hSS hTS hSL hTL HMI HMK hik hV1 hV2 hsame hMX hMZ ha hb hn
    generalize strOf (seedL c) = SD at HSD HPB HSG HSK
    go_enter Tryd.func8, Tryd.ntmps8
    go_wp2_with fail
    refine (H0.out w hG).mono ?_
    rintro e w1 ⟨rfl, hB1⟩
    go_upto_region 7 with (fail)
    go_wp2_with fail
    refine (HSD.out w1).mono ?_
    rintro e w2 ⟨rfl, hB2⟩
    have C2 := link hB1 hB2
    go_wp2_with fail
    refine (HPB.out w2 (hG.keep C2)).mono ?_
    rintro e w3 ⟨rfl, hB3⟩
    have C3 := link C2 hB3
    go_upto_region 8 with (refine store_blk rfl 23 (.tmp 15) (.tmp 50) rfl (blk_new w3 23 (bytesV z16).toArray) rfl rfl (m := 16) (by kernel_rfl) hvP hz16 (bytesV_cells P) ?_; intro x1 KP O3)
    have C4 : Below w.heap.size w x1 := O3.2.2 _ _ C3.size (C3.alloc C3.size _)
    obtain ⟨pb, hpb⟩ : ∃ pb, w3.heap.size = pb := ⟨_, rfl⟩
    rw [hpb] at KP ⊢
    clear O3 hB1 hB2 hB3 C2 C3 hpb
    go_wp2_with fail
    refine (HSD.out x1).mono ?_
    rintro e w5 ⟨rfl, hB5⟩
    have C5 := link C4 hB5
    have K5 := KP.keep hB5
    go_wp2_with fail
    refine (HSG.out w5 (hG.keep C5)).mono ?_
    rintro e w6 ⟨rfl, hB6⟩
    have C6 := link C5 hB6
    have K6 := K5.keep hB6
    clear hB5 hB6 C4 C5 KP K5
    go_wp2_with fail
    refine (HSD.out w6).mono ?_
    rintro e w7 ⟨rfl, hB7⟩
    have C7 := link C6 hB7
    have K7 := K6.keep hB7
    go_wp2_with fail
    refine (HSK.out w7 (hG.keep C7)).mono ?_
    rintro e w8 ⟨rfl, hB8⟩
    have C8 := link C7 hB8
    have K8 := K7.keep hB8
    clear hB7 hB8 C6 C7 K6 K7
    go_upto_region 15 with (fail)
    refine wp_region_held_drew (S := fun w' => Below w8.heap.size w8 w') (by kernel_rfl) (below_drew (Below.refl _ _)) (fun hHeld => ?_)
    generalize w8.drew = V0 at hHeld ⊢
    refine wpAnyH_take (i := 0) (oi := ⟨some 90, .move (.tmp 19), 9, "law.go:130", #[], none⟩) (v := .string TS) rfl (by kernel_rfl) (by kernel_rfl) (by kernel_rfl) (fun _ _ _ h => h) (Or.inl ⟨by rfl, fun w' hSw => by go_simp⟩) hHeld ?_
    try simp only [Act.put, List.setIfInBounds_toArray, List.set_cons_zero, List.set_cons_succ]
    refine wpAnyH_take (i := 1) (oi := ⟨some 91, .move (.tmp 19), 9, "law.go:130", #[], none⟩) (v := .string TS) rfl (by kernel_rfl) (by kernel_rfl) (by kernel_rfl) (fun _ _ _ h => h) (Or.inl ⟨by rfl, fun w' hSw => by go_simp⟩) hHeld ?_
    try simp only [Act.put, List.setIfInBounds_toArray, List.set_cons_zero, List.set_cons_succ]
    refine wpAnyH_take (i := 2) (oi := ⟨some 92, .call { callee := .builtin .len, args := #[.tmp 91], argTypes := #[9] }, 3, "law.go:130", #[⟨1, .data⟩], none⟩) (v := .int .i64 (TS.size : Int)) rfl (by kernel_rfl) (by kernel_rfl) (by kernel_rfl) (fun _ _ _ h => h) (Or.inl ⟨by rfl, fun w' hSw => by go_simp⟩) hHeld ?_
    try simp only [Act.put, List.setIfInBounds_toArray, List.set_cons_zero, List.set_cons_succ]
    refine wpAnyH_take (i := 3) (oi := ⟨some 93, .move (.tmp 21), 3, "law.go:130", #[], none⟩) (v := .int .i64 (n : Int)) rfl (by kernel_rfl) (by kernel_rfl) (by kernel_rfl) (fun _ _ _ h => h) (Or.inl ⟨by rfl, fun w' hSw => by go_simp⟩) hHeld ?_
    try simp only [Act.put, List.setIfInBounds_toArray, List.set_cons_zero, List.set_cons_succ]
    refine wpAnyH_take (i := 4) (oi := ⟨some 94, .binOp .sub 3 (.tmp 92) (.tmp 93) 3, 3, "law.go:130", #[⟨2, .data⟩, ⟨3, .data⟩], none⟩) (v := .int .i64 (a : Int)) rfl (by kernel_rfl) (by kernel_rfl) (by kernel_rfl) (fun _ _ _ h => h) (Or.inl ⟨by rfl, fun w' hSw => by go_simp⟩) hHeld ?_
    try simp only [Act.put, List.setIfInBounds_toArray, List.set_cons_zero, List.set_cons_succ]
    refine wpAnyH_take (i := 5) (oi := ⟨some 95, .slice 9 (.tmp 90) none (some (.tmp 94)) none, 9, "law.go:130", #[⟨0, .data⟩, ⟨4, .data⟩], none⟩) (v := .string (TS.extract 0 a)) rfl (by kernel_rfl) (by kernel_rfl) (by kernel_rfl) (fun _ _ _ h => h) (Or.inl ⟨by rfl, fun w' hSw => by go_simp⟩) hHeld ?_
    try simp only [Act.put, List.setIfInBounds_toArray, List.set_cons_zero, List.set_cons_succ]
    refine wpAnyH_take (i := 6) (oi := ⟨some 96, .move (.tmp 17), 9, "law.go:130", #[], none⟩) (v := .string SS) rfl (by kernel_rfl) (by kernel_rfl) (by kernel_rfl) (fun _ _ _ h => h) (Or.inl ⟨by rfl, fun w' hSw => by go_simp⟩) hHeld ?_
    try simp only [Act.put, List.setIfInBounds_toArray, List.set_cons_zero, List.set_cons_succ]
    refine wpAnyH_take (i := 7) (oi := ⟨some 97, .move (.tmp 17), 9, "law.go:130", #[], none⟩) (v := .string SS) rfl (by kernel_rfl) (by kernel_rfl) (by kernel_rfl) (fun _ _ _ h => h) (Or.inl ⟨by rfl, fun w' hSw => by go_simp⟩) hHeld ?_
    try simp only [Act.put, List.setIfInBounds_toArray, List.set_cons_zero, List.set_cons_succ]
    refine wpAnyH_take (i := 8) (oi := ⟨some 98, .call { callee := .builtin .len, args := #[.tmp 97], argTypes := #[9] }, 3, "law.go:130", #[⟨7, .data⟩], none⟩) (v := .int .i64 (SS.size : Int)) rfl (by kernel_rfl) (by kernel_rfl) (by kernel_rfl) (fun _ _ _ h => h) (Or.inl ⟨by rfl, fun w' hSw => by go_simp⟩) hHeld ?_
    try simp only [Act.put, List.setIfInBounds_toArray, List.set_cons_zero, List.set_cons_succ]
    refine wpAnyH_take (i := 9) (oi := ⟨some 99, .move (.tmp 21), 3, "law.go:130", #[], none⟩) (v := .int .i64 (n : Int)) rfl (by kernel_rfl) (by kernel_rfl) (by kernel_rfl) (fun _ _ _ h => h) (Or.inl ⟨by rfl, fun w' hSw => by go_simp⟩) hHeld ?_
    try simp only [Act.put, List.setIfInBounds_toArray, List.set_cons_zero, List.set_cons_succ]
    refine wpAnyH_take (i := 10) (oi := ⟨some 100, .binOp .sub 3 (.tmp 98) (.tmp 99) 3, 3, "law.go:130", #[⟨8, .data⟩, ⟨9, .data⟩], none⟩) (v := .int .i64 (b : Int)) rfl (by kernel_rfl) (by kernel_rfl) (by kernel_rfl) (fun _ _ _ h => h) (Or.inl ⟨by rfl, fun w' hSw => by go_simp⟩) hHeld ?_
    try simp only [Act.put, List.setIfInBounds_toArray, List.set_cons_zero, List.set_cons_succ]
    refine wpAnyH_take (i := 11) (oi := ⟨some 101, .slice 9 (.tmp 96) (some (.tmp 100)) none none, 9, "law.go:130", #[⟨6, .data⟩, ⟨10, .data⟩], none⟩) (v := .string (SS.extract b SS.size)) rfl (by kernel_rfl) (by kernel_rfl) (by kernel_rfl) (fun _ _ _ h => h) (Or.inl ⟨by rfl, fun w' hSw => by go_simp⟩) hHeld ?_
    try simp only [Act.put, List.setIfInBounds_toArray, List.set_cons_zero, List.set_cons_succ]
    refine wpAnyH_take (i := 12) (oi := ⟨some 102, .binOp .add 9 (.tmp 95) (.tmp 101) 9, 9, "law.go:130", #[⟨5, .data⟩, ⟨11, .data⟩], none⟩) (v := .string (TS.extract 0 a ++ SS.extract b SS.size)) rfl (by kernel_rfl) (by kernel_rfl) (by kernel_rfl) (fun _ _ _ h => h) (Or.inl ⟨by rfl, fun w' hSw => by go_simp⟩) hHeld ?_
    try simp only [Act.put, List.setIfInBounds_toArray, List.set_cons_zero, List.set_cons_succ]
    refine wpAnyH_ready (rs := [13]) (by kernel_rfl) (by simp) ?_
    refine AllReadyH.cons (o := ⟨some 22, .assign (.tmp 102), 9, "law.go:130", #[⟨12, .data⟩, ⟨0, .phase⟩, ⟨1, .phase⟩, ⟨2, .phase⟩, ⟨3, .phase⟩, ⟨4, .phase⟩, ⟨5, .phase⟩, ⟨6, .phase⟩, ⟨7, .phase⟩, ⟨8, .phase⟩, ⟨9, .phase⟩, ⟨10, .phase⟩, ⟨11, .phase⟩, ⟨12, .phase⟩], none⟩) rfl (fun K hK => ?_) AllReadyH.nil
    rw [if_pos (by rfl)]
    go_simp
    refine hK.out _ _ (hHeld) (fun hHeld => ?_)
    clear hK K
    try simp only [Act.put, List.setIfInBounds_toArray, List.set_cons_zero, List.set_cons_succ]
    refine wpAnyH_done (by kernel_rfl) ?_ _
    replace K8 := K8.keep hHeld
    have C9 := link C8 hHeld
    clear hHeld hwA hwB hZA C8
    generalize TS.extract 0 a ++ SS.extract b SS.size = MX at HV1 HV2 ⊢
    go_wp2_with (refine load_blk rfl 23 (.tmp 15) rfl K8 rfl Tryd.underlying23 (m := 16) (by kernel_rfl) hvP ?_)
    refine (HV1.out V0 (hG.keep C9)).mono ?_
    rintro e w10 ⟨rfl, hB10⟩
    replace K8 := K8.keep hB10
    have C10 := link C9 hB10
    clear hB10 C9
    go_wp2_with (refine load_blk rfl 23 (.tmp 15) rfl K8 rfl Tryd.underlying23 (m := 16) (by kernel_rfl) hvP ?_)
    refine (HV2.out w10 (hR.keep C10)).mono ?_
    rintro e w11 ⟨rfl, hB11⟩
    have C11 := link C10 hB11
    clear hB11 C10 K8
    by_cases hik : i = k
    · have hf := HSM.out hik
      injection hf with hf1 hf2
      subst hik
      subst hf2
      clear hf1 HSM HV1 HV2
      go_wp2
      go_ret
      exact ⟨rfl, C11⟩
    · have hne : (i != k) = true := by simp [hik]
      have hne2 : ((i : Int) != (k : Int)) = true := by simp; omega
      clear HSM HV1 HV2 hik
      go_wp2
      go_ret
      exact ⟨rfl, C11⟩
  · have hmm : decide ((200 : Int) < (msg.size : Int)) = true := by simp only [decide_eq_true_eq]; omega
    go_enter Tryd.func8, Tryd.ntmps8
    go_wp2_with fail
    refine (sanity3_any w hG).mono ?_
    rintro e w1 ⟨rfl, hB1⟩
    go_wp2
    go_ret
    exact ⟨rfl, hB1⟩

namespace signBindsTheIndex
open Go.ChangeShapes Go.WideShapes Go.ChangeAt Go.RowKit

theorem contract (H : Type) (enc : TypeId × Value → H) (W : World) (base : Nat) (args : Array Value) (ds gs : List (DataW H)) (before : List MemPlace)
    (hval : ∀ (j : Nat) t v, Tryd.f8.params[j]? = some t → args[j]? = some v → Value.okWide Tryd.prog W .any base t v)
    (hW : DataW.Whole enc Tryd.prog Tryd.f8.params.toList Rows.signBindsTheIndexSpec.vars false W args.toList ds gs before) (hL : laidMetH Tryd.prog Rows.signBindsTheIndexRow.laid W) :
    Calls Tryd.prog 8 args W fun e W' => ∃ v, e = .returned v ∧ Rows.signBindsTheIndexSpec.post enc Tryd.prog Tryd.f8 false true false false W args v W' := by
  have hW' := hW
  obtain ⟨p, q, hA0, hV, rfl, hfz, hnd⟩ := hW
  have hA : DataW.TrodAll enc Tryd.prog W 0 (fun _ => true) true Tryd.f8.params.toList args.toList ds p := hA0
  rw [Tryd.params8] at hA hval
  obtain ⟨rfl, rfl⟩ := trodVars_none hV
  have hlt : ∀ x ∈ p, x.block < W.heap.size := fun x hx => hW'.lt x (List.mem_append_left _ hx)
  have hA1 := hA
  obtain ⟨v0, v1, v2, v3, v4, d0, d1, d2, d3, d4, p0, p1, p2, p3, p4, rfl, rfl, rfl, h0, h1, h2, h3, h4⟩ := trodAll_five hA
  obtain ⟨x0z, rfl, _, _, w0⟩ := open_int Tryd.underlying5 (hval 0 5 v0 rfl rfl) h0
  have g0 := w0
  simp [Lit.wf, IntKind.min, IntKind.max, IntKind.signed, IntKind.bits] at g0
  obtain ⟨x0, rfl⟩ : ∃ m : Nat, x0z = (m : Int) := ⟨x0z.toNat, by omega⟩
  obtain ⟨x1z, rfl, _, _, w1⟩ := open_int Tryd.underlying5 (hval 1 5 v1 rfl rfl) h1
  have g1 := w1
  simp [Lit.wf, IntKind.min, IntKind.max, IntKind.signed, IntKind.bits] at g1
  obtain ⟨x1, rfl⟩ : ∃ m : Nat, x1z = (m : Int) := ⟨x1z.toNat, by omega⟩
  obtain ⟨x2z, rfl, _, _, w2⟩ := open_int Tryd.underlying5 (hval 2 5 v2 rfl rfl) h2
  have g2 := w2
  simp [Lit.wf, IntKind.min, IntKind.max, IntKind.signed, IntKind.bits] at g2
  obtain ⟨x2, rfl⟩ : ∃ m : Nat, x2z = (m : Int) := ⟨x2z.toNat, by omega⟩
  obtain ⟨x3z, rfl, _, _, w3⟩ := open_int Tryd.underlying5 (hval 3 5 v3 rfl rfl) h3
  have g3 := w3
  simp [Lit.wf, IntKind.min, IntKind.max, IntKind.signed, IntKind.bits] at g3
  obtain ⟨x3, rfl⟩ : ∃ m : Nat, x3z = (m : Int) := ⟨x3z.toNat, by omega⟩
  obtain ⟨x4, rfl, _, _, w4⟩ := Go.ChangeMaps.open_string Tryd.underlying9 (hval 4 9 v4 rfl rfl) h4
  simp only [List.append_nil] at hW'
  obtain ⟨hR, hG⟩ := glob3_of hL
  refine (binds_law x0 x1 x2 x3 (by omega) (by omega) (by omega) (by omega) x4 W hG hR).mono fun e W' ⟨he, hB⟩ => ?_
  subst he
  refine ⟨_, rfl, _, _, _, [], _, [], hW', ?_, keepAll hB _ _ _ _ (by decide +kernel) hA1 hlt, rfl, hB.frame _, fun h => by cases h⟩
  exact trodAll_mk1 (shut_bool Tryd.underlying4 _)

theorem laid_met (os : Os) : laidMet Tryd.prog Rows.signBindsTheIndexRow.laid ((laidWorld3 os).forCall (fun _ _ => 0) ⟨#[], #[.int .u8 0, .int .u8 0, .int .u8 0, .int .u8 0, .string ByteArray.empty], []⟩).memory :=
  laidMet_of_run' 8 (by kernel_rfl) (by kernel_rfl)
theorem reads (os : Os) {H : Type} (enc : TypeId × Value → H) : ∃ ds places, DataW.whole enc Tryd.prog ((laidWorld3 os).forCall (fun _ _ => 0) ⟨#[], #[.int .u8 0, .int .u8 0, .int .u8 0, .int .u8 0, .string ByteArray.empty], []⟩).memory Tryd.f8.params.toList Rows.signBindsTheIndexSpec.vars false (#[.int .u8 0, .int .u8 0, .int .u8 0, .int .u8 0, .string ByteArray.empty] : Array Value).toList 8 = some (ds, [], places) :=
  ⟨[.lit (.int .u8 0), .lit (.int .u8 0), .lit (.int .u8 0), .lit (.int .u8 0), .lit (.string [])], [], by kernel_rfl⟩

set_option maxRecDepth 100000 in
theorem lifted (os : Os) (started : os.Started) (H : Type) (enc : TypeId × Value → H) (F : Stop.Interp) :
    ReturnsInHanded {} Tryd.checked os 8 .any ((OpenSpec.ofChange Rows.signBindsTheIndexSpec).preRow enc Tryd.prog Tryd.f8 Rows.signBindsTheIndexRow.domain false Rows.signBindsTheIndexRow.laid) (((OpenSpec.ofChange Rows.signBindsTheIndexSpec).at F).post enc Tryd.prog Tryd.f8 false true false false) := by
  obtain ⟨ds, places, hx⟩ := reads os enc
  refine returnsInHanded_of_row (C := Tryd.checked) (s := OpenSpec.ofChange Rows.signBindsTheIndexSpec) own started (by kernel_rfl) Tryd.func8
    (witness_row_at (enc := enc) (C := Tryd.checked) false (laidWorld3 os) #[.int .u8 0, .int .u8 0, .int .u8 0, .int .u8 0, .string ByteArray.empty] rfl (by kernel_rfl) (by kernel_rfl) (by kernel_rfl)
      (OpenSpec.preRow_of_cond 8 hx (by kernel_rfl) (fun k hk => by cases hk) (by kernel_rfl) (laid_met os))) ?_
  intro W base args ds gs before hval hW _ _ _ hL _ _
  exact contract H enc W base args ds gs before hval hW hL

theorem said : Rows.SignBindsTheIndexSaid :=
  OpenClaim.holds_of_cond 8 Tryd.f8 rfl rfl rfl rfl rfl rfl rfl ⟨rfl, rfl, rfl, rfl, rfl⟩ rfl rfl rfl rfl rfl (by kernel_rfl) Tryd.func8 (by kernel_rfl)
    (of_decide_eq_true (by kernel_rfl)) (by unfold Func.isWrapper; first | (rw [if_pos (by decide +kernel)]; kernel_rfl) | (rw [if_neg (by decide +kernel)]; exact ⟨rfl, rfl⟩))
    (fun os started H enc _ F => by rw [OpenClaim.pre_eq_preRow]; exact lifted os started H enc F)

theorem plain (f : FuncId) (fn : Func) (hf : Tryd.pinned.checked.prog.funcNamed "passim/passimlaw03.SignBindsTheIndex" = some f) (hfn : Tryd.pinned.checked.prog.funcs[f]? = some fn) :
    false = Tryd.pinned.checked.prog.looks [] ∧ ∀ (j : Nat) t, fn.params[j]? = some t → Tryd.pinned.checked.prog.wantsStandIn t = false := by
  obtain rfl : f = 8 := Option.some.inj ((show Tryd.prog.funcNamed "passim/passimlaw03.SignBindsTheIndex" = some 8 by kernel_rfl).symm.trans hf) |>.symm
  obtain rfl : fn = Tryd.f8 := (Option.some.inj (Tryd.func8.symm.trans hfn)).symm
  refine ⟨by kernel_rfl, fun j t ht => ?_⟩
  rw [Tryd.params8] at ht
  have hm := Array.mem_of_getElem? ht
  have hall : ∀ t ∈ ([5, 5, 5, 5, 9] : List TypeId), Tryd.prog.wantsStandIn t = false := by decide +kernel
  exact hall t (by simpa using hm)

theorem proved : Rows.SignBindsTheIndexCardSaid :=
  Claim7.holds_tied_plain_at .later [] _ _ _ _ said (fun _ h => by cases h) (by kernel_rfl) (fun _ h => by cases h) signBindsTheIndex_row_tie rfl ⟨rfl, rfl⟩ (by kernel_rfl) rfl plain (by kernel_rfl)
#print axioms proved
end signBindsTheIndex

end Go.Proofs.YthffkbdecfjekaaDoor
