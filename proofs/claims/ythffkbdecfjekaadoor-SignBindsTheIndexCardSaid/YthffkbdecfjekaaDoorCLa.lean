/-
  passimlaw03.SignIsAccepted returns true. Conditions: the tables of the package hash and of its specification lie as the program lays them when the call begins (the card ties them to the text); no other.
-/
import Derived.Test.YthffkbdecfjekaaDoorMf

namespace Go.Proofs.YthffkbdecfjekaaDoor
open Go.RowKit
set_option linter.unusedVariables false
set_option linter.unusedSimpArgs false

theorem seedL_byte {c : Nat} (hc : c < 256) : ∀ y ∈ seedL c, y < 256 := fun y hy => by rw [List.eq_of_mem_replicate (n := 32) (a := c) hy]; exact hc
theorem sb_seed {c : Nat} (hc : c < 256) : sb (strOf (seedL c)) = seedL c := sb_strOf _ (seedL_byte hc)
theorem size_seed (c : Nat) : (strOf (seedL c)).size = 32 := by rw [strOf_size]; simp [seedL]
theorem sig_byte (seed : List Nat) (h i : Nat) (hi : i ≤ 1000000) (m : List Nat) : ∀ y ∈ sigM seed h i m, y < 256 := by
  unfold sigM
  intro y hy
  rcases List.mem_append.1 hy with h1 | h1
  · exact enc_lt _ (by omega) (by omega) y h1
  · rcases List.mem_append.1 h1 with h2 | h2
    · exact sigC_byte _ _ _ _ y h2
    · exact sigS_byte _ _ _ y h2
theorem sb_to (s : ByteArray) (k : Nat) : sb (s.extract 0 k) = (sb s).take k := by
  unfold sb
  have e : (s.extract 0 k).data = s.data.extract 0 k := ByteArray.data_extract
  rw [e, Array.toList_extract, List.extract_eq_take_drop, List.drop_zero, Nat.sub_zero, List.map_take]

set_option maxHeartbeats 4000000 in
set_option maxRecDepth 100000 in
theorem accepted_law (c height index : Nat) (hc : c < 256) (hh : height < 256) (hi : index < 256) (msg : ByteArray) (w : World) (hG : Glob w) :
    Calls Tryd.prog 6 #[.int .u8 (c : Int), .int .u8 (height : Int), .int .u8 (index : Int), .string msg] w (Told w true) := by
  by_cases hm : msg.size ≤ 200
  · have hmm : decide ((200 : Int) < (msg.size : Int)) = false := by simp only [decide_eq_false_iff_not]; omega
    have H0 := Lib.hid (fun w0 g => sanity3_any w0 g)
    obtain ⟨h, hh3⟩ : ∃ h, height % 3 = h := ⟨_, rfl⟩
    have h6 : h ≤ 2 := by omega
    have e1 : (height : Int) % 3 = (h : Int) := by omega
    have e2 := shl_in h (by omega)
    obtain ⟨m, hme⟩ : ∃ m, 2 ^ h = m := ⟨_, rfl⟩
    have hm1 : 1 ≤ m := by rw [← hme]; exact Nat.two_pow_pos h
    have hm4 : m ≤ 4 := by rw [← hme]; exact Nat.le_trans (Nat.pow_le_pow_right (by omega) h6) (by decide)
    rw [hme] at e2
    obtain ⟨i, hie⟩ : ∃ i, index % m = i := ⟨_, rfl⟩
    have him : i < m := by rw [← hie]; exact Nat.mod_lt _ (by omega)
    have e3 : (index : Int) % (m : Int) = (i : Int) := by rw [← hie]; simp
    have m0 : (1 : Int) ≤ (m : Int) := by omega
    have HMI : Hid (i < 2 ^ h) := Lib.hid (by rw [hme]; exact him)
    clear hh3 hie hme
    have HSD := Lib.hid (fun w0 => seed_any c hc w0)
    have HPB := Lib.hid (fun w0 g => public_yes (strOf (seedL c)) h (size_seed c) (by omega) w0 g)
    have HSG := Lib.hid (fun w0 g => sign_yes (strOf (seedL c)) msg h i (size_seed c) (by omega) HMI.out (by omega) w0 g)
    have hP : Dgt (rootM (seedL c) h) := node_dgt _ _ _
    have hA1 := sign_accepted (seedL c) h i (by omega) HMI.out (sb msg) (by rw [sb_length]; omega)
    have hA2 := sign_long (seedL c) h i (by omega) HMI.out (sb msg) (by rw [sb_length]; omega) (rootM (seedL c) h) [120] (by simp)
    have hA3 := sign_less (seedL c) h i (by omega) HMI.out (sb msg) (by rw [sb_length]; omega) (rootM (seedL c) h)
    have hsl := sig_length (seedL c) h i (sb msg)
    have hel := (enc_length (i : Int) (by omega) (by omega)).2
    have hsb := sig_byte (seedL c) h i (by omega) (sb msg)
    rw [sb_seed hc] at HPB HSG
    generalize rootM (seedL c) h = P at HPB hP hA1 hA2 hA3
    generalize sigM (seedL c) h i (sb msg) = SL at HSG hA1 hA2 hA3 hsl hsb
    obtain ⟨SG, hSG⟩ : ∃ SG, strOf SL = SG := ⟨_, rfl⟩
    have hSL : SL = sb SG := by rw [← hSG, sb_strOf SL hsb]
    rw [hSG] at HSG
    rw [hSL] at hA1 hA2 hA3 hsl
    rw [sb_length] at hsl hA3
    generalize (enc (i : Int)).length = en at hsl hel
    have hSz : SG.size ≤ 1200 := by omega
    have hS2 : 2 ≤ SG.size := by omega
    have hS2' : decide ((SG.size : Int) < 2) = false := by simp only [decide_eq_false_iff_not]; omega
    have HV1 := Lib.hid (fun w0 g => verify_any P hP (h : Int) msg SG (by omega) (by omega) w0 g)
    rw [hA1] at HV1
    have hcat : sb (SG ++ (⟨#[120]⟩ : ByteArray)) = sb SG ++ [120] := by simp [sb]
    have HV2 := Lib.hid (fun w0 g => verify_any P hP (h : Int) msg (SG ++ (⟨#[120]⟩ : ByteArray)) (by omega) (by rw [← sb_length, hcat, List.length_append, sb_length]; simp; omega) w0 g)
    rw [hcat, hA2] at HV2
    obtain ⟨n1, hn1⟩ : ∃ n1, SG.size - 1 = n1 := ⟨_, rfl⟩
    rw [hn1] at hA3
    have HV3 := Lib.hid (fun w0 g => verify_any P hP (h : Int) msg (SG.extract 0 n1) (by omega) (by rw [← sb_length, sb_to, List.length_take, sb_length]; omega) w0 g)
    rw [sb_to, hA3] at HV3
    have hw1 : IntKind.i64.wrap ((SG.size : Int) - 1) = (n1 : Int) := (IntWalk.i64_in _ (by omega)).trans (by omega)
    have hn0 : (0 : Int) ≤ (n1 : Int) := by omega
    have hn2 : (n1 : Int) ≤ (SG.size : Int) := by omega
    have hsum : (SG.size : Int) + 1 ≤ 9223372036854775807 := by omega
    have hz1 := zero_dig'
    have hz16 : (bytesV z16).toArray.toList.length = 16 := rfl
    have hvP : (bytesV P).length = 16 := by rw [bytesV_length]; exact hP.1
    clear hA1 hA2 hA3 hsl hel hsb hSG hSL hcat HMI
    generalize strOf (seedL c) = SD at HSD HPB HSG
    go_enter Tryd.func6, Tryd.ntmps6
    go_wp2_with fail
    refine (H0.out w hG).mono ?_
    rintro e w1 ⟨rfl, hB1⟩
    go_upto_region 6 with (fail)
    go_wp2_with fail
    refine (HSD.out w1).mono ?_
    rintro e w2 ⟨rfl, hB2⟩
    have C2 := link hB1 hB2
    go_wp2_with fail
    refine (HPB.out w2 (hG.keep C2)).mono ?_
    rintro e w3 ⟨rfl, hB3⟩
    have C3 := link C2 hB3
    go_upto_region 7 with (refine store_blk rfl 23 (.tmp 12) (.tmp 40) rfl (blk_new w3 23 (bytesV z16).toArray) rfl rfl (m := 16) (by kernel_rfl) hvP hz16 (bytesV_cells P) ?_; intro x1 KP O3)
    have C4 : Below w.heap.size w x1 := O3.2.2 _ _ C3.size (C3.alloc C3.size _)
    obtain ⟨pb, hpb⟩ : ∃ pb, w3.heap.size = pb := ⟨_, rfl⟩
    rw [hpb] at KP ⊢
    clear O3 hB1 hB2 hB3 C2 C3 hpb
    go_wp2_with fail
    refine (HSD.out x1).mono ?_
    rintro e w5 ⟨rfl, hB5⟩
    have C5 := link C4 hB5
    have K5 := KP.keep hB5
    go_wp2_with fail
    refine (HSG.out w5 (hG.keep C5)).mono ?_
    rintro e w6 ⟨rfl, hB6⟩
    have C6 := link C5 hB6
    have K6 := K5.keep hB6
    clear hB5 hB6 C4 C5 KP K5
    go_wp2_with (refine load_blk rfl 23 (.tmp 12) rfl K6 rfl Tryd.underlying23 (m := 16) (by kernel_rfl) hvP ?_)
    refine (HV1.out w6 (hG.keep C6)).mono ?_
    rintro e w7 ⟨rfl, hB7⟩
    have C7 := link C6 hB7
    have K7 := K6.keep hB7
    clear hB7 C6 K6
    go_upto_region 11 with (fail)
    go_wp2_with (refine load_blk rfl 23 (.tmp 12) rfl K7 rfl Tryd.underlying23 (m := 16) (by kernel_rfl) hvP ?_)
    refine (HV2.out w7 (hG.keep C7)).mono ?_
    rintro e w8 ⟨rfl, hB8⟩
    have C8 := link C7 hB8
    have K8 := K7.keep hB8
    clear hB8 C7 K7
    go_upto_region 12 with (fail)
    have HV3' : ∀ w0, Glob w0 → Calls Tryd.prog 18 #[.agg (bytesV P).toArray, .int .i64 (h : Int), .string msg, .string (SG.extract 0 n1)] w0 fun e w' => e = .returned (.tuple #[.int .i64 0, .int .i64 2]) ∧ Below w0.heap.size w0 w' := fun w0 g => HV3.out w0 g
    have H3 := Lib.hid HV3'
    clear HV3 HV3'
    have hsP := size_dig P hP.1
    refine wp_region_held_drew (S := fun w' => Below w8.heap.size w8 w') (by kernel_rfl) (below_drew (Below.refl _ _)) (fun hHeld => ?_)
    generalize w8.drew = V0 at hHeld ⊢
    refine wpAnyH_take (i := 0) (oi := ⟨some 84, .load 23 (.tmp 12), 23, "law.go:90", #[], none⟩) (v := _) rfl (by kernel_rfl) (by kernel_rfl) (by kernel_rfl) (fun _ _ _ h => h) (yieldsIf_load_mid (by rfl) _ _ rfl _ 0 rfl _ _ (fun w' hSw => rng_blk (K8) w' hSw) Tryd.underlying23 rfl hsP) hHeld ?_
    try simp only [Act.put, List.setIfInBounds_toArray, List.set_cons_zero, List.set_cons_succ]
    refine wpAnyH_take (i := 1) (oi := ⟨some 85, .move (.tmp 10), 3, "law.go:90", #[], none⟩) (v := .int .i64 (h : Int)) rfl (by kernel_rfl) (by kernel_rfl) (by kernel_rfl) (fun _ _ _ h => h) (Or.inl ⟨by rfl, fun w' hSw => by go_simp⟩) hHeld ?_
    try simp only [Act.put, List.setIfInBounds_toArray, List.set_cons_zero, List.set_cons_succ]
    refine wpAnyH_take (i := 2) (oi := ⟨some 86, .move (.tmp 3), 9, "law.go:90", #[], none⟩) (v := .string msg) rfl (by kernel_rfl) (by kernel_rfl) (by kernel_rfl) (fun _ _ _ h => h) (Or.inl ⟨by rfl, fun w' hSw => by go_simp⟩) hHeld ?_
    try simp only [Act.put, List.setIfInBounds_toArray, List.set_cons_zero, List.set_cons_succ]
    refine wpAnyH_take (i := 3) (oi := ⟨some 87, .move (.tmp 14), 9, "law.go:90", #[], none⟩) (v := .string SG) rfl (by kernel_rfl) (by kernel_rfl) (by kernel_rfl) (fun _ _ _ h => h) (Or.inl ⟨by rfl, fun w' hSw => by go_simp⟩) hHeld ?_
    try simp only [Act.put, List.setIfInBounds_toArray, List.set_cons_zero, List.set_cons_succ]
    refine wpAnyH_take (i := 4) (oi := ⟨some 88, .move (.tmp 14), 9, "law.go:90", #[], none⟩) (v := .string SG) rfl (by kernel_rfl) (by kernel_rfl) (by kernel_rfl) (fun _ _ _ h => h) (Or.inl ⟨by rfl, fun w' hSw => by go_simp⟩) hHeld ?_
    try simp only [Act.put, List.setIfInBounds_toArray, List.set_cons_zero, List.set_cons_succ]
    refine wpAnyH_take (i := 5) (oi := ⟨some 89, .call { callee := .builtin .len, args := #[.tmp 88], argTypes := #[9] }, 3, "law.go:90", #[⟨4, .data⟩], none⟩) (v := .int .i64 (SG.size : Int)) rfl (by kernel_rfl) (by kernel_rfl) (by kernel_rfl) (fun _ _ _ h => h) (Or.inl ⟨by rfl, fun w' hSw => by go_simp⟩) hHeld ?_
    try simp only [Act.put, List.setIfInBounds_toArray, List.set_cons_zero, List.set_cons_succ]
    refine wpAnyH_take (i := 6) (oi := ⟨some 90, .binOp .sub 3 (.tmp 89) (.const (Value.int IntKind.i64 1)) 3, 3, "law.go:90", #[⟨5, .data⟩], none⟩) (v := .int .i64 (n1 : Int)) rfl (by kernel_rfl) (by kernel_rfl) (by kernel_rfl) (fun _ _ _ h => h) (Or.inl ⟨by rfl, fun w' hSw => by go_simp⟩) hHeld ?_
    try simp only [Act.put, List.setIfInBounds_toArray, List.set_cons_zero, List.set_cons_succ]
    refine wpAnyH_take (i := 7) (oi := ⟨some 91, .slice 9 (.tmp 87) none (some (.tmp 90)) none, 9, "law.go:90", #[⟨3, .data⟩, ⟨6, .data⟩], none⟩) (v := .string (SG.extract 0 n1)) rfl (by kernel_rfl) (by kernel_rfl) (by kernel_rfl) (fun _ _ _ h => h) (Or.inl ⟨by rfl, fun w' hSw => by go_simp⟩) hHeld ?_
    try simp only [Act.put, List.setIfInBounds_toArray, List.set_cons_zero, List.set_cons_succ]
    refine wpAnyH_ready (rs := [8]) (by kernel_rfl) (by simp) ?_
    refine AllReadyH.cons (o := ⟨some 92, .call { callee := .value (.func 18), args := #[.tmp 84, .tmp 85, .tmp 86, .tmp 91], argTypes := #[23, 3, 9, 9] }, 36, "law.go:90", #[⟨0, .data⟩, ⟨1, .data⟩, ⟨2, .data⟩, ⟨7, .data⟩], none⟩) rfl (fun K hK => ?_) AllReadyH.nil
    rw [if_pos (by rfl)]
    go_simp
    refine (H3.out _ (hG.keep (link C8 hHeld))).mono ?_
    rintro e V1 ⟨rfl, hB1⟩
    dsimp only
    refine hK.out _ _ (link hHeld hB1) (fun hHeld => ?_)
    clear hK K
    try simp only [Act.put, List.setIfInBounds_toArray, List.set_cons_zero, List.set_cons_succ]
    clear hB1
    refine wpAnyH_take (i := 9) (oi := ⟨some 83, .move (.tmp 92), 36, "law.go:90", #[⟨8, .data⟩], none⟩) (v := .tuple #[.int .i64 0, .int .i64 2]) rfl (by kernel_rfl) (by kernel_rfl) (by kernel_rfl) (fun _ _ _ h => h) (Or.inl ⟨by rfl, fun w' hSw => by go_simp⟩) hHeld ?_
    try simp only [Act.put, List.setIfInBounds_toArray, List.set_cons_zero, List.set_cons_succ]
    refine wpAnyH_take (i := 10) (oi := ⟨some 93, .extract (.tmp 83) 0, 3, "law.go:90", #[⟨9, .data⟩], none⟩) (v := .int .i64 0) rfl (by kernel_rfl) (by kernel_rfl) (by kernel_rfl) (fun _ _ _ h => h) (Or.inl ⟨by rfl, fun w' hSw => by go_simp⟩) hHeld ?_
    try simp only [Act.put, List.setIfInBounds_toArray, List.set_cons_zero, List.set_cons_succ]
    refine wpAnyH_take (i := 11) (oi := ⟨some 94, .extract (.tmp 83) 1, 29, "law.go:90", #[⟨9, .data⟩, { on := 12, ground := Ground.gcOnly Departure.lateStores }], none⟩) (v := .int .i64 2) rfl (by kernel_rfl) (by kernel_rfl) (by kernel_rfl) (fun _ _ _ h => h) (Or.inl ⟨by rfl, fun w' hSw => by go_simp⟩) hHeld ?_
    try simp only [Act.put, List.setIfInBounds_toArray, List.set_cons_zero, List.set_cons_succ]
    refine wpAnyH_ready (rs := [12]) (by kernel_rfl) (by simp) ?_
    refine AllReadyH.cons (o := ⟨some 20, .assign (.tmp 93), 3, "law.go:90", #[⟨10, .data⟩, ⟨8, .chain⟩, ⟨0, .phase⟩, ⟨1, .phase⟩, ⟨2, .phase⟩, ⟨3, .phase⟩, ⟨4, .phase⟩, ⟨5, .phase⟩, ⟨6, .phase⟩, ⟨7, .phase⟩, ⟨8, .phase⟩, ⟨9, .phase⟩, ⟨10, .phase⟩, { on := 11, ground := Ground.textOnly Departure.lateStores }], none⟩) rfl (fun K hK => ?_) AllReadyH.nil
    rw [if_pos (by rfl)]
    go_simp
    refine hK.out _ _ (hHeld) (fun hHeld => ?_)
    clear hK K
    try simp only [Act.put, List.setIfInBounds_toArray, List.set_cons_zero, List.set_cons_succ]
    refine wpAnyH_ready (rs := [13]) (by kernel_rfl) (by simp) ?_
    refine AllReadyH.cons (o := ⟨some 21, .assign (.tmp 94), 29, "law.go:90", #[⟨11, .data⟩, ⟨12, .chain⟩, ⟨0, .phase⟩, ⟨1, .phase⟩, ⟨2, .phase⟩, ⟨3, .phase⟩, ⟨4, .phase⟩, ⟨5, .phase⟩, ⟨6, .phase⟩, ⟨7, .phase⟩, ⟨8, .phase⟩, ⟨9, .phase⟩, ⟨10, .phase⟩, ⟨11, .phase⟩, ⟨12, .phase⟩], none⟩) rfl (fun K hK => ?_) AllReadyH.nil
    rw [if_pos (by rfl)]
    go_simp
    refine hK.out _ _ (hHeld) (fun hHeld => ?_)
    clear hK K
    try simp only [Act.put, List.setIfInBounds_toArray, List.set_cons_zero, List.set_cons_succ]
    refine wpAnyH_done (by kernel_rfl) ?_ _
    go_wp2
    go_ret
    exact ⟨rfl, link C8 hHeld⟩
  · have hmm : decide ((200 : Int) < (msg.size : Int)) = true := by simp only [decide_eq_true_eq]; omega
    go_enter Tryd.func6, Tryd.ntmps6
    go_wp2_with fail
    refine (sanity3_any w hG).mono ?_
    rintro e w1 ⟨rfl, hB1⟩
    go_wp2
    go_ret
    exact ⟨rfl, hB1⟩

namespace signIsAccepted
open Go.ChangeShapes Go.WideShapes Go.ChangeAt Go.RowKit

theorem contract (H : Type) (enc : TypeId × Value → H) (W : World) (base : Nat) (args : Array Value) (ds gs : List (DataW H)) (before : List MemPlace)
    (hval : ∀ (j : Nat) t v, Tryd.f6.params[j]? = some t → args[j]? = some v → Value.okWide Tryd.prog W .any base t v)
    (hW : DataW.Whole enc Tryd.prog Tryd.f6.params.toList Rows.signIsAcceptedSpec.vars false W args.toList ds gs before) (hL : laidMetH Tryd.prog Rows.signIsAcceptedRow.laid W) :
    Calls Tryd.prog 6 args W fun e W' => ∃ v, e = .returned v ∧ Rows.signIsAcceptedSpec.post enc Tryd.prog Tryd.f6 false true false false W args v W' := by
  have hW' := hW
  obtain ⟨p, q, hA0, hV, rfl, hfz, hnd⟩ := hW
  have hA : DataW.TrodAll enc Tryd.prog W 0 (fun _ => true) true Tryd.f6.params.toList args.toList ds p := hA0
  rw [Tryd.params6] at hA hval
  obtain ⟨rfl, rfl⟩ := trodVars_none hV
  have hlt : ∀ x ∈ p, x.block < W.heap.size := fun x hx => hW'.lt x (List.mem_append_left _ hx)
  have hA1 := hA
  obtain ⟨v0, v1, v2, v3, d0, d1, d2, d3, p0, p1, p2, p3, rfl, rfl, rfl, h0, h1, h2, h3⟩ := trodAll_four hA
  obtain ⟨x0z, rfl, _, _, w0⟩ := open_int Tryd.underlying5 (hval 0 5 v0 rfl rfl) h0
  have g0 := w0
  simp [Lit.wf, IntKind.min, IntKind.max, IntKind.signed, IntKind.bits] at g0
  obtain ⟨x0, rfl⟩ : ∃ m : Nat, x0z = (m : Int) := ⟨x0z.toNat, by omega⟩
  obtain ⟨x1z, rfl, _, _, w1⟩ := open_int Tryd.underlying5 (hval 1 5 v1 rfl rfl) h1
  have g1 := w1
  simp [Lit.wf, IntKind.min, IntKind.max, IntKind.signed, IntKind.bits] at g1
  obtain ⟨x1, rfl⟩ : ∃ m : Nat, x1z = (m : Int) := ⟨x1z.toNat, by omega⟩
  obtain ⟨x2z, rfl, _, _, w2⟩ := open_int Tryd.underlying5 (hval 2 5 v2 rfl rfl) h2
  have g2 := w2
  simp [Lit.wf, IntKind.min, IntKind.max, IntKind.signed, IntKind.bits] at g2
  obtain ⟨x2, rfl⟩ : ∃ m : Nat, x2z = (m : Int) := ⟨x2z.toNat, by omega⟩
  obtain ⟨x3, rfl, _, _, w3⟩ := Go.ChangeMaps.open_string Tryd.underlying9 (hval 3 9 v3 rfl rfl) h3
  simp only [List.append_nil] at hW'
  have hG : Glob W := glob_of hL
  refine (accepted_law x0 x1 x2 (by omega) (by omega) (by omega) x3 W hG).mono fun e W' ⟨he, hB⟩ => ?_
  subst he
  refine ⟨_, rfl, _, _, _, [], _, [], hW', ?_, keepAll hB _ _ _ _ (by decide +kernel) hA1 hlt, rfl, hB.frame _, fun h => by cases h⟩
  exact trodAll_mk1 (shut_bool Tryd.underlying4 _)

theorem laid_met (os : Os) : laidMet Tryd.prog Rows.signIsAcceptedRow.laid ((laidWorld os).forCall (fun _ _ => 0) ⟨#[], #[.int .u8 0, .int .u8 0, .int .u8 0, .string ByteArray.empty], []⟩).memory :=
  laidMet_of_run' 8 (by kernel_rfl) (by kernel_rfl)
theorem reads (os : Os) {H : Type} (enc : TypeId × Value → H) : ∃ ds places, DataW.whole enc Tryd.prog ((laidWorld os).forCall (fun _ _ => 0) ⟨#[], #[.int .u8 0, .int .u8 0, .int .u8 0, .string ByteArray.empty], []⟩).memory Tryd.f6.params.toList Rows.signIsAcceptedSpec.vars false (#[.int .u8 0, .int .u8 0, .int .u8 0, .string ByteArray.empty] : Array Value).toList 8 = some (ds, [], places) :=
  ⟨[.lit (.int .u8 0), .lit (.int .u8 0), .lit (.int .u8 0), .lit (.string [])], [], by kernel_rfl⟩

set_option maxRecDepth 100000 in
theorem lifted (os : Os) (started : os.Started) (H : Type) (enc : TypeId × Value → H) (F : Stop.Interp) :
    ReturnsInHanded {} Tryd.checked os 6 .any ((OpenSpec.ofChange Rows.signIsAcceptedSpec).preRow enc Tryd.prog Tryd.f6 Rows.signIsAcceptedRow.domain false Rows.signIsAcceptedRow.laid) (((OpenSpec.ofChange Rows.signIsAcceptedSpec).at F).post enc Tryd.prog Tryd.f6 false true false false) := by
  obtain ⟨ds, places, hx⟩ := reads os enc
  refine returnsInHanded_of_row (C := Tryd.checked) (s := OpenSpec.ofChange Rows.signIsAcceptedSpec) own started (by kernel_rfl) Tryd.func6
    (witness_row_at (enc := enc) (C := Tryd.checked) false (laidWorld os) #[.int .u8 0, .int .u8 0, .int .u8 0, .string ByteArray.empty] rfl (by kernel_rfl) (by kernel_rfl) (by kernel_rfl)
      (OpenSpec.preRow_of_cond 8 hx (by kernel_rfl) (fun k hk => by cases hk) (by kernel_rfl) (laid_met os))) ?_
  intro W base args ds gs before hval hW _ _ _ hL _ _
  exact contract H enc W base args ds gs before hval hW hL

theorem said : Rows.SignIsAcceptedSaid :=
  OpenClaim.holds_of_cond 6 Tryd.f6 rfl rfl rfl rfl rfl rfl rfl ⟨rfl, rfl, rfl, rfl, rfl⟩ rfl rfl rfl rfl rfl (by kernel_rfl) Tryd.func6 (by kernel_rfl)
    (of_decide_eq_true (by kernel_rfl)) (by unfold Func.isWrapper; first | (rw [if_pos (by decide +kernel)]; kernel_rfl) | (rw [if_neg (by decide +kernel)]; exact ⟨rfl, rfl⟩))
    (fun os started H enc _ F => by rw [OpenClaim.pre_eq_preRow]; exact lifted os started H enc F)

theorem plain (f : FuncId) (fn : Func) (hf : Tryd.pinned.checked.prog.funcNamed "passim/passimlaw03.SignIsAccepted" = some f) (hfn : Tryd.pinned.checked.prog.funcs[f]? = some fn) :
    false = Tryd.pinned.checked.prog.looks [] ∧ ∀ (j : Nat) t, fn.params[j]? = some t → Tryd.pinned.checked.prog.wantsStandIn t = false := by
  obtain rfl : f = 6 := Option.some.inj ((show Tryd.prog.funcNamed "passim/passimlaw03.SignIsAccepted" = some 6 by kernel_rfl).symm.trans hf) |>.symm
  obtain rfl : fn = Tryd.f6 := (Option.some.inj (Tryd.func6.symm.trans hfn)).symm
  refine ⟨by kernel_rfl, fun j t ht => ?_⟩
  rw [Tryd.params6] at ht
  have hm := Array.mem_of_getElem? ht
  have hall : ∀ t ∈ ([5, 5, 5, 9] : List TypeId), Tryd.prog.wantsStandIn t = false := by decide +kernel
  exact hall t (by simpa using hm)

theorem proved : Rows.SignIsAcceptedCardSaid :=
  Claim7.holds_tied_plain_at .later [] _ _ _ _ said (fun _ h => by cases h) (by kernel_rfl) (fun _ h => by cases h) signIsAccepted_row_tie rfl ⟨rfl, rfl⟩ (by kernel_rfl) rfl plain (by kernel_rfl)
#print axioms proved
end signIsAccepted

end Go.Proofs.YthffkbdecfjekaaDoor
