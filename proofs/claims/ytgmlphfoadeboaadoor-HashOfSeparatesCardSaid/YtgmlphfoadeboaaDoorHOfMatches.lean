/-
  passimlaw02.HashOfMatchesSpec returns true.
-/
import Derived.Test.YtgmlphfoadeboaaDoorQh
import Derived.Test.YtgmlphfoadeboaaDoorQj
import Derived.Test.YtgmlphfoadeboaaDoorQv
import Derived.Test.YtgmlphfoadeboaaDoorHEqual
namespace Go.Proofs.YtgmlphfoadeboaaDoor
open Go.RowKit
set_option linter.unusedVariables false
set_option linter.unusedSimpArgs false

theorem equal_16 (w : World) (x y : List Nat) (hx : x.length = 16) (hy : y.length = 16) (hxb : ∀ d ∈ x, d < 256) (hyb : ∀ d ∈ y, d < 256) : (Op.equalIn 10000 44 (.agg (bytesV x).toArray) (.agg (bytesV y).toArray)).run Tryd.prog w = .ok (decide (x = y)) w := by
  have hsz : ∀ w, (sizeOf 5).run Tryd.prog w = .ok 1 w := fun w => by
    obtain ⟨i0, hi, hz0, hz1, hz2⟩ := info_parts u8info
    simp [sizeOf, typeInfo, hi, hz1]
  rw [← cell_bytes x hxb, ← cell_bytes y hyb]
  rw [run_equalIn_bytes w 9998 44 5 16 Tryd.underlying44 Tryd.underlying5 hsz _ _ (by simp [hx]) (by simp [hy])]
  congr 1
  rw [Bool.eq_iff_iff]
  simp only [beq_iff_eq, decide_eq_true_eq]
  exact ⟨fun h => ofNat_inj hxb hyb h, fun h => by rw [h]⟩
theorem equal_self16 (D : List Nat) (h : D.length = 16) (hb : ∀ y ∈ D, y < 256) (w : World) : (Op.equalIn 10000 44 (.agg (bytesV D).toArray) (.agg (bytesV D).toArray)).run Tryd.prog w = .ok true w := by rw [equal_16 w D D h h hb hb]; simp
theorem size_blk16 (D : List Nat) (h : D.length = 16) : (Tryd.prog.info? 44).map (·.size) = some (bytesV D).length := by
  rw [bytesV_length, h]
  kernel_rfl
theorem wrap_u8_mod (z : Int) : IntKind.u8.wrap z = z % 256 := by
  simp [IntKind.wrap, IntKind.signed, IntKind.bits]
theorem and_255 (z : Int) : bits BinOp.and IntKind.i64 z 255 = z % 256 := by
  have e : ((BitVec.ofInt 64 z &&& BitVec.ofInt 64 255).toNat : Int) = z % 256 := by
    rw [BitVec.toNat_and, show (BitVec.ofInt 64 255).toNat = 2 ^ 8 - 1 by decide, Nat.and_two_pow_sub_one_eq_mod, BitVec.toNat_ofInt]
    omega
  show IntKind.i64.wrap ((BitVec.ofInt 64 z &&& BitVec.ofInt 64 255).toNat : Int) = _
  rw [e]
  exact IntWalk.i64_in _ (by omega)

set_option maxHeartbeats 2000000 in
set_option maxRecDepth 100000 in
theorem ofMatches_any (tag : Int) (A : Option Addr) (ps : List ByteArray) (n c : Nat) (w : World) (hn : n = ps.length) (hr : Cells w A (strsV ps)) (hG : Glob w) (hR : GlobR w) :
    Calls Tryd.prog 7 #[.int .i64 tag, .slice A n c] w (Told w true) := by
  subst hn
  by_cases hf : fewB ps = true
  · obtain ⟨h12, h400⟩ := (fewB_iff ps).1 hf
    have HF := fun w0 h => few_any A ps ps.length c w0 rfl h
    have HB := Lib.hid hf
    obtain ⟨T, hTe⟩ : ∃ T : Nat, IntKind.u8.wrap tag = (T : Int) := ⟨(tag % 256).toNat, by rw [wrap_u8_mod]; omega⟩
    have hT : T < 256 := by rw [wrap_u8_mod] at hTe; omega
    have hand : bits BinOp.and IntKind.i64 tag 255 = (T : Int) := by rw [and_255, ← wrap_u8_mod]; exact hTe
    have hTT : IntKind.u8.wrap (T : Int) = (T : Int) := by rw [wrap_u8_mod]; omega
    have ht : ∀ s ∈ ps, s.size ≤ 1048576 := fun s h => by have := h400 s h; omega
    have H1 := Lib.hid (fun w0 h g => of_any tag T hT hTe A ps ps.length c w0 rfl (by omega) ht h g)
    have H2 := Lib.hid (fun w0 h g => of_any (T : Int) T hT hTT A ps ps.length c w0 rfl (by omega) ht h g)
    have H3 := Lib.hid (fun w0 h g => rof_any tag T hT hTe A ps ps.length c w0 rfl (by omega) ht h g)
    have hDl : ((sha (ofIn T (sbs ps))).take 16).length = 16 := by rw [List.length_take, sha_length]; rfl
    have hDb : ∀ y ∈ (sha (ofIn T (sbs ps))).take 16, y < 256 := fun y hy => sha_byte _ y (List.mem_of_mem_take hy)
    generalize (sha (ofIn T (sbs ps))).take 16 = D at H1 H2 H3 hDl hDb
    have hDv : (bytesV D).length = 16 := by rw [bytesV_length]; exact hDl
    have hzw : (bytesV z16).toArray.toList.length = 16 := rfl
    have HFF := Lib.hid HF
    have HT := Lib.hid hTe
    have hz1 := zero_dig'
    clear HF hTe hf
    go_enter Tryd.func7, Tryd.ntmps7
    go_wp2_with fail
    refine (sanity_any w hG).mono ?_
    rintro e w1 ⟨rfl, hB1⟩
    go_wp2_with fail
    refine (HFF.out w1 (hr.keep hB1)).mono ?_
    rintro e w2 ⟨rfl, hB2⟩
    rw [HB.out]
    have hB12 := link hB1 hB2
    have hr2 := hr.keep hB12
    have hG2 := hG.keep hB12
    go_wp2_with fail
    refine (H1.out w2 hr2 hG2).mono ?_
    rintro e w3 ⟨rfl, hB3⟩
    have hC3 := link hB12 hB3
    go_wp2_with (refine store_blk rfl 44 (.tmp 6) (.tmp 14) rfl (blk_new w3 44 (bytesV z16).toArray) rfl rfl (m := 16) (by kernel_rfl) hDv hzw (bytesV_cells D) ?_; intro x3 KA OA)
    have hC4 : Below w.heap.size w x3 := OA.2.2 _ _ hC3.size (hC3.alloc hC3.size (.cells (bytesV z16).toArray 44))
    have hr4 := hr.keep hC4
    have hG4 := hG.keep hC4
    have hR4 := hR.keep hC4
    have heq := fun w0 => equal_self16 D hDl hDb w0
    have hsz := size_blk16 D hDl
    clear OA hzw hz1 hr2 hG2 hB1 hB2 hB12 hB3 hC3
    refine wp_region_held_drew (S := fun w' => Below x3.heap.size x3 w') (by kernel_rfl) (below_drew (Below.refl _ _)) (fun hHeld => ?_)
    generalize x3.drew = V0 at hHeld ⊢
    refine wpAnyH_take (i := 0) (oi := ⟨some 15, .move (.tmp 5), 4, "law.go:95", #[], none⟩) (v := .bool true) rfl (by kernel_rfl) (by kernel_rfl) (by kernel_rfl) (fun _ _ _ h => h) (Or.inl ⟨by rfl, fun w' hSw => by go_simp⟩) hHeld ?_
    try simp only [Act.put, List.setIfInBounds_toArray, List.set_cons_zero, List.set_cons_succ]
    refine wpAnyH_take (i := 1) (oi := ⟨some 16, .move (.tmp 15), 4, "law.go:95", #[⟨0, .data⟩], none⟩) (v := .bool true) rfl (by kernel_rfl) (by kernel_rfl) (by kernel_rfl) (fun _ _ _ h => h) (Or.inl ⟨by rfl, fun w' hSw => by go_simp⟩) hHeld ?_
    try simp only [Act.put, List.setIfInBounds_toArray, List.set_cons_zero, List.set_cons_succ]
    refine wpAnyH_take (i := 2) (oi := ⟨some 17, .load 44 (.tmp 6), 44, "law.go:95", #[⟨1, .guard⟩], some (1, true)⟩) (v := _) rfl (by kernel_rfl) (by kernel_rfl) (by kernel_rfl) (fun _ _ _ h => h) (yieldsIf_load_mid (by rfl) _ _ rfl _ 0 rfl _ _ (fun w' hSw => rng_blk (KA) w' hSw) Tryd.underlying44 rfl hsz) hHeld ?_
    try simp only [Act.put, List.setIfInBounds_toArray, List.set_cons_zero, List.set_cons_succ]
    refine wpAnyH_take (i := 3) (oi := ⟨some 18, .move (.tmp 0), 3, "law.go:95", #[⟨1, .guard⟩], some (1, true)⟩) (v := .int .i64 tag) rfl (by kernel_rfl) (by kernel_rfl) (by kernel_rfl) (fun _ _ _ h => h) (Or.inl ⟨by rfl, fun w' hSw => by go_simp⟩) hHeld ?_
    try simp only [Act.put, List.setIfInBounds_toArray, List.set_cons_zero, List.set_cons_succ]
    refine wpAnyH_take (i := 4) (oi := ⟨some 19, .move (.tmp 1), 27, "law.go:95", #[⟨1, .guard⟩], some (1, true)⟩) (v := .slice A ps.length c) rfl (by kernel_rfl) (by kernel_rfl) (by kernel_rfl) (fun _ _ _ h => h) (Or.inl ⟨by rfl, fun w' hSw => by go_simp⟩) hHeld ?_
    try simp only [Act.put, List.setIfInBounds_toArray, List.set_cons_zero, List.set_cons_succ]
    refine wpAnyH_ready (rs := [5]) (by kernel_rfl) (by simp) ?_
    refine AllReadyH.cons (o := ⟨some 20, .call { callee := .value (.func 22), args := #[.tmp 18, .tmp 19], argTypes := #[3, 27] }, 44, "law.go:95", #[⟨3, .data⟩, ⟨4, .data⟩, ⟨1, .chain⟩, ⟨1, .guard⟩], some (1, true)⟩) rfl (fun K hK => ?_) AllReadyH.nil
    rw [if_pos (by rfl)]
    go_simp
    refine (H3.out _ (hr4.keep hHeld) (hR4.keep hHeld)).mono ?_
    rintro e V4 ⟨rfl, hB4⟩
    dsimp only
    refine hK.out _ _ (link hHeld hB4) (fun hHeld => ?_)
    clear hK K
    try simp only [Act.put, List.setIfInBounds_toArray, List.set_cons_zero, List.set_cons_succ]
    refine wpAnyH_take (i := 6) (oi := ⟨some 21, .binOp .eql 44 (.tmp 17) (.tmp 20) 44, 4, "law.go:95", #[⟨2, .data⟩, ⟨5, .data⟩, ⟨1, .guard⟩], some (1, true)⟩) (v := .bool true) rfl (by kernel_rfl) (by kernel_rfl) (by kernel_rfl) (fun _ _ _ h => h) (Or.inl ⟨by rfl, fun w' hSw => by go_simp⟩) hHeld ?_
    try simp only [Act.put, List.setIfInBounds_toArray, List.set_cons_zero, List.set_cons_succ]
    refine wpAnyH_take (i := 7) (oi := ⟨some 22, .pick (.tmp 16) (.tmp 21) (.const (Value.bool false)), 4, "law.go:95", #[⟨1, .data⟩, ⟨6, .data⟩], none⟩) (v := .bool true) rfl (by kernel_rfl) (by kernel_rfl) (by kernel_rfl) (fun _ _ _ h => h) (Or.inl ⟨by rfl, fun w' hSw => by go_simp⟩) hHeld ?_
    try simp only [Act.put, List.setIfInBounds_toArray, List.set_cons_zero, List.set_cons_succ]
    refine wpAnyH_take (i := 8) (oi := ⟨some 23, .move (.tmp 22), 4, "law.go:95", #[⟨7, .data⟩, ⟨5, .chain⟩], none⟩) (v := .bool true) rfl (by kernel_rfl) (by kernel_rfl) (by kernel_rfl) (fun _ _ _ h => h) (Or.inl ⟨by rfl, fun w' hSw => by go_simp⟩) hHeld ?_
    try simp only [Act.put, List.setIfInBounds_toArray, List.set_cons_zero, List.set_cons_succ]
    refine wpAnyH_take (i := 9) (oi := ⟨some 24, .load 44 (.tmp 6), 44, "law.go:95", #[⟨8, .guard⟩], some (8, true)⟩) (v := _) rfl (by kernel_rfl) (by kernel_rfl) (by kernel_rfl) (fun _ _ _ h => h) (yieldsIf_load_mid (by rfl) _ _ rfl _ 0 rfl _ _ (fun w' hSw => rng_blk (KA) w' hSw) Tryd.underlying44 rfl hsz) hHeld ?_
    try simp only [Act.put, List.setIfInBounds_toArray, List.set_cons_zero, List.set_cons_succ]
    refine wpAnyH_take (i := 10) (oi := ⟨some 25, .move (.tmp 0), 3, "law.go:95", #[⟨8, .guard⟩], some (8, true)⟩) (v := .int .i64 tag) rfl (by kernel_rfl) (by kernel_rfl) (by kernel_rfl) (fun _ _ _ h => h) (Or.inl ⟨by rfl, fun w' hSw => by go_simp⟩) hHeld ?_
    try simp only [Act.put, List.setIfInBounds_toArray, List.set_cons_zero, List.set_cons_succ]
    refine wpAnyH_take (i := 11) (oi := ⟨some 26, .binOp .and 3 (.tmp 25) (.const (Value.int IntKind.i64 255)) 3, 3, "law.go:95", #[⟨10, .data⟩, ⟨8, .guard⟩], some (8, true)⟩) (v := .int .i64 (T : Int)) rfl (by kernel_rfl) (by kernel_rfl) (by kernel_rfl) (fun _ _ _ h => h) (Or.inl ⟨by rfl, fun w' hSw => by go_simp⟩) hHeld ?_
    try simp only [Act.put, List.setIfInBounds_toArray, List.set_cons_zero, List.set_cons_succ]
    refine wpAnyH_take (i := 12) (oi := ⟨some 27, .move (.tmp 1), 27, "law.go:95", #[⟨8, .guard⟩], some (8, true)⟩) (v := .slice A ps.length c) rfl (by kernel_rfl) (by kernel_rfl) (by kernel_rfl) (fun _ _ _ h => h) (Or.inl ⟨by rfl, fun w' hSw => by go_simp⟩) hHeld ?_
    try simp only [Act.put, List.setIfInBounds_toArray, List.set_cons_zero, List.set_cons_succ]
    refine wpAnyH_ready (rs := [13]) (by kernel_rfl) (by simp) ?_
    refine AllReadyH.cons (o := ⟨some 28, .call { callee := .value (.func 21), args := #[.tmp 26, .tmp 27], argTypes := #[3, 27] }, 44, "law.go:95", #[⟨11, .data⟩, ⟨12, .data⟩, ⟨8, .chain⟩, ⟨8, .guard⟩], some (8, true)⟩) rfl (fun K hK => ?_) AllReadyH.nil
    rw [if_pos (by rfl)]
    go_simp
    refine (H2.out _ (hr4.keep hHeld) (hG4.keep hHeld)).mono ?_
    rintro e V5 ⟨rfl, hB5⟩
    dsimp only
    refine hK.out _ _ (link hHeld hB5) (fun hHeld => ?_)
    clear hK K
    try simp only [Act.put, List.setIfInBounds_toArray, List.set_cons_zero, List.set_cons_succ]
    refine wpAnyH_take (i := 14) (oi := ⟨some 29, .binOp .eql 44 (.tmp 24) (.tmp 28) 44, 4, "law.go:95", #[⟨9, .data⟩, ⟨13, .data⟩, ⟨8, .guard⟩], some (8, true)⟩) (v := .bool true) rfl (by kernel_rfl) (by kernel_rfl) (by kernel_rfl) (fun _ _ _ h => h) (Or.inl ⟨by rfl, fun w' hSw => by go_simp⟩) hHeld ?_
    try simp only [Act.put, List.setIfInBounds_toArray, List.set_cons_zero, List.set_cons_succ]
    refine wpAnyH_take (i := 15) (oi := ⟨some 30, .pick (.tmp 23) (.tmp 29) (.const (Value.bool false)), 4, "law.go:95", #[⟨8, .data⟩, ⟨14, .data⟩], none⟩) (v := .bool true) rfl (by kernel_rfl) (by kernel_rfl) (by kernel_rfl) (fun _ _ _ h => h) (Or.inl ⟨by rfl, fun w' hSw => by go_simp⟩) hHeld ?_
    try simp only [Act.put, List.setIfInBounds_toArray, List.set_cons_zero, List.set_cons_succ]
    refine wpAnyH_ready (rs := [16]) (by kernel_rfl) (by simp) ?_
    refine AllReadyH.cons (o := ⟨some 4, .assign (.tmp 30), 4, "law.go:95", #[⟨15, .data⟩, ⟨13, .chain⟩, ⟨0, .phase⟩, ⟨1, .phase⟩, ⟨2, .phase⟩, ⟨3, .phase⟩, ⟨4, .phase⟩, ⟨5, .phase⟩, ⟨6, .phase⟩, ⟨7, .phase⟩, ⟨8, .phase⟩, ⟨9, .phase⟩, ⟨10, .phase⟩, ⟨11, .phase⟩, ⟨12, .phase⟩, ⟨13, .phase⟩, ⟨14, .phase⟩, ⟨15, .phase⟩], none⟩) rfl (fun K hK => ?_) AllReadyH.nil
    go_simp
    refine hK.out _ _ (hHeld) (fun hHeld => ?_)
    clear hK K
    try simp only [Act.put, List.setIfInBounds_toArray, List.set_cons_zero, List.set_cons_succ]
    refine wpAnyH_done (by kernel_rfl) ?_ _
    go_wp2
    go_ret
    exact ⟨rfl, link hC4 hHeld⟩
  · have HF := fun w0 h => few_any A ps ps.length c w0 rfl h
    have HB := Lib.hid (Bool.eq_false_iff.2 hf)
    clear hf
    go_enter Tryd.func7, Tryd.ntmps7
    go_wp2_with fail
    refine (sanity_any w hG).mono ?_
    rintro e w1 ⟨rfl, hB1⟩
    go_wp2_with fail
    refine (HF w1 (hr.keep hB1)).mono ?_
    rintro e w2 ⟨rfl, hB2⟩
    rw [HB.out]
    go_wp2
    go_ret
    exact ⟨rfl, link hB1 hB2⟩

namespace hashOfMatchesSpec
open Go.ChangeShapes Go.WideShapes Go.ChangeAt Go.RowKit

theorem contract (H : Type) (enc : TypeId × Value → H) (W : World) (base : Nat) (args : Array Value) (ds gs : List (DataW H)) (before : List MemPlace)
    (hval : ∀ (j : Nat) t v, Tryd.f7.params[j]? = some t → args[j]? = some v → Value.okWide Tryd.prog W .any base t v)
    (hW : DataW.Whole enc Tryd.prog Tryd.f7.params.toList Rows.hashOfMatchesSpecSpec.vars false W args.toList ds gs before) (hL : laidMetH Tryd.prog Rows.hashOfMatchesSpecRow.laid W) :
    Calls Tryd.prog 7 args W fun e W' => ∃ v, e = .returned v ∧ Rows.hashOfMatchesSpecSpec.post enc Tryd.prog Tryd.f7 false true false false W args v W' := by
  have hW' := hW
  obtain ⟨p, q, hA0, hV, rfl, hfz, hnd⟩ := hW
  have hA : DataW.TrodAll enc Tryd.prog W 0 (fun _ => true) true Tryd.f7.params.toList args.toList ds p := hA0
  rw [Tryd.params7] at hA hval
  obtain ⟨v0, v1, d0, d1, p0, p1, rfl, rfl, rfl, h0, h1⟩ := trodAll_two hA
  obtain ⟨rfl, rfl⟩ := trodVars_none hV
  obtain ⟨a, rfl, rfl, rfl, w0⟩ := open_int Tryd.underlying3 (hval 0 3 v0 rfl rfl) h0
  have hwf0 := w0
  simp [Lit.wf, IntKind.min, IntKind.max, IntKind.signed, IntKind.bits] at hwf0
  clear hA0
  simp only [List.append_nil] at hW'
  have hlt1 : ∀ x ∈ p1, x.block < W.heap.size := fun x hx => by simpa using hW'.lt x (by simpa using hx)
  obtain ⟨A, n1, c1, l1, rfl, hn1, _, hr1, hst1, _⟩ := open_textsV (hval 1 27 v1 rfl rfl) h1 hlt1
  obtain ⟨hR, hG⟩ := glob3_of hL
  refine (ofMatches_any a A l1 n1 c1 W hn1 hr1 hG hR).mono fun e W' ⟨he, hB⟩ => ?_
  subst he
  refine ⟨_, rfl, _, _, _, [], [] ++ p1, [], hW', ?_, ?_, rfl, hB.frame _, fun h => by cases h⟩
  · exact trodAll_mk1 (shut_bool Tryd.underlying4 _)
  · exact trodAll_mk2 (shut_int Tryd.underlying3 w0) (Below.trod laidOut (by kernel_rfl) (of_decide_eq_true (by kernel_rfl)) h1 hB hlt1)

theorem laid_met (os : Os) : laidMet Tryd.prog Rows.hashOfMatchesSpecRow.laid ((laidWorld3 os).forCall (fun _ _ => 0) ⟨#[], #[.int .i64 0, .slice none 0 0], []⟩).memory :=
  laidMet_of_run' 8 (by kernel_rfl) (by kernel_rfl)
theorem reads (os : Os) {H : Type} (enc : TypeId × Value → H) : ∃ ds places, DataW.whole enc Tryd.prog ((laidWorld3 os).forCall (fun _ _ => 0) ⟨#[], #[.int .i64 0, .slice none 0 0], []⟩).memory Tryd.f7.params.toList Rows.hashOfMatchesSpecSpec.vars false (#[.int .i64 0, .slice none 0 0] : Array Value).toList 8 = some (ds, [], places) :=
  ⟨[.lit (.int .i64 0), .nil], [], by kernel_rfl⟩

set_option maxRecDepth 100000 in
theorem lifted (os : Os) (started : os.Started) (H : Type) (enc : TypeId × Value → H) (F : Stop.Interp) :
    ReturnsInHanded {} Tryd.checked os 7 .any ((OpenSpec.ofChange Rows.hashOfMatchesSpecSpec).preRow enc Tryd.prog Tryd.f7 Rows.hashOfMatchesSpecRow.domain false Rows.hashOfMatchesSpecRow.laid) (((OpenSpec.ofChange Rows.hashOfMatchesSpecSpec).at F).post enc Tryd.prog Tryd.f7 false true false false) := by
  obtain ⟨ds, places, hx⟩ := reads os enc
  refine returnsInHanded_of_row (C := Tryd.checked) (s := OpenSpec.ofChange Rows.hashOfMatchesSpecSpec) own started (by kernel_rfl) Tryd.func7
    (witness_row_at (enc := enc) (C := Tryd.checked) false (laidWorld3 os) #[.int .i64 0, .slice none 0 0] rfl (by kernel_rfl) (by kernel_rfl) (by kernel_rfl)
      (OpenSpec.preRow_of_cond 8 hx (by kernel_rfl) (fun k hk => by cases hk) (by kernel_rfl) (laid_met os))) ?_
  intro W base args ds gs before hval hW _ _ _ hL _ _
  exact contract H enc W base args ds gs before hval hW hL

theorem said : Rows.HashOfMatchesSpecSaid :=
  OpenClaim.holds_of_cond 7 Tryd.f7 rfl rfl rfl rfl rfl rfl rfl ⟨rfl, rfl, rfl, rfl, rfl⟩ rfl rfl rfl rfl rfl (by kernel_rfl) Tryd.func7 (by kernel_rfl)
    (of_decide_eq_true (by kernel_rfl)) (by unfold Func.isWrapper; first | (rw [if_pos (by decide +kernel)]; kernel_rfl) | (rw [if_neg (by decide +kernel)]; exact ⟨rfl, rfl⟩))
    (fun os started H enc _ F => by rw [OpenClaim.pre_eq_preRow]; exact lifted os started H enc F)

theorem plain (f : FuncId) (fn : Func) (hf : Tryd.pinned.checked.prog.funcNamed "passim/passimlaw02.HashOfMatchesSpec" = some f) (hfn : Tryd.pinned.checked.prog.funcs[f]? = some fn) :
    false = Tryd.pinned.checked.prog.looks [] ∧ ∀ (j : Nat) t, fn.params[j]? = some t → Tryd.pinned.checked.prog.wantsStandIn t = false := by
  obtain rfl : f = 7 := Option.some.inj ((show Tryd.prog.funcNamed "passim/passimlaw02.HashOfMatchesSpec" = some 7 by kernel_rfl).symm.trans hf) |>.symm
  obtain rfl : fn = Tryd.f7 := (Option.some.inj (Tryd.func7.symm.trans hfn)).symm
  refine ⟨by kernel_rfl, fun j t ht => ?_⟩
  rw [Tryd.params7] at ht
  have hm := Array.mem_of_getElem? ht
  simp at hm
  rcases hm with rfl | rfl
  all_goals first | exact (show Tryd.prog.wantsStandIn 27 = false by kernel_rfl) | exact (show Tryd.prog.wantsStandIn 3 = false by kernel_rfl)

theorem proved : Rows.HashOfMatchesSpecCardSaid :=
  Claim7.holds_tied_plain_at .later [] _ _ _ _ said (fun _ h => by cases h) (by kernel_rfl) (fun _ h => by cases h) hashOfMatchesSpec_row_tie rfl ⟨rfl, rfl⟩ (by kernel_rfl) rfl plain (by kernel_rfl)
#print axioms proved
end hashOfMatchesSpec

end Go.Proofs.YtgmlphfoadeboaaDoor
