/-
  passimlaw02.sanity returns true.
-/
import Derived.Test.YtgmlphfoadeboaaDoorHo
import Derived.Test.YtgmlphfoadeboaaDoorHe
import Derived.Lib.SlBytesConst
import Derived.Stop.BytesEq
namespace Go.Proofs.YtgmlphfoadeboaaDoor
open Go.RowKit
set_option linter.unusedVariables false
set_option linter.unusedSimpArgs false

theorem cell_bytes (d : List Nat) (h : ∀ y ∈ d, y < 256) : ((d.map UInt8.ofNat).map Extern.Stop.cell) = bytesV d := by
  rw [List.map_map]
  unfold bytesV
  apply List.map_congr_left
  intro y hy
  have := h y hy
  show Value.int .u8 ((UInt8.ofNat y).toNat : Int) = byteV y
  rw [show (UInt8.ofNat y).toNat = y from Nat.mod_eq_of_lt this]
  rfl
theorem ofNat_inj {x y : List Nat} (hx : ∀ d ∈ x, d < 256) (hy : ∀ d ∈ y, d < 256) (h : x.map UInt8.ofNat = y.map UInt8.ofNat) : x = y := by
  have e := congrArg (fun l => l.map (·.toNat)) h
  simp only [List.map_map] at e
  have k : ∀ l : List Nat, (∀ d ∈ l, d < 256) → l.map ((fun x : UInt8 => x.toNat) ∘ UInt8.ofNat) = l := by
    intro l hl
    conv => rhs; rw [← List.map_id l]
    apply List.map_congr_left
    intro d hd
    exact Nat.mod_eq_of_lt (hl d hd)
  rwa [k x hx, k y hy] at e
theorem equal_32 (w : World) (x y : List Nat) (hx : x.length = 32) (hy : y.length = 32) (hxb : ∀ d ∈ x, d < 256) (hyb : ∀ d ∈ y, d < 256) : (Op.equalIn 10000 24 (.agg (bytesV x).toArray) (.agg (bytesV y).toArray)).run Tryd.prog w = .ok (decide (x = y)) w := by
  have hsz : ∀ w, (sizeOf 5).run Tryd.prog w = .ok 1 w := fun w => by
    obtain ⟨i0, hi, hz0, hz1, hz2⟩ := info_parts u8info
    simp [sizeOf, typeInfo, hi, hz1]
  rw [← cell_bytes x hxb, ← cell_bytes y hyb]
  rw [run_equalIn_bytes w 9998 24 5 32 Tryd.underlying24 Tryd.underlying5 hsz _ _ (by simp [hx]) (by simp [hy])]
  congr 1
  rw [Bool.eq_iff_iff]
  simp only [beq_iff_eq, decide_eq_true_eq]
  exact ⟨fun h => ofNat_inj hxb hyb h, fun h => by rw [h]⟩
theorem conv_lit (w : World) (C : Array Value) (n c : Nat) : (convert 22 22 (.slice (some ⟨w.heap.size, 0, none⟩) n c)).run Tryd.prog (w.alloc (.cells C 5)) = .ok (.slice (some ⟨w.heap.size, 0, none⟩) n c) (w.alloc (.cells C 5 (C.size, C.size + 1))) :=
  Lib.run_convert_bytes_const w 22 5 C n c Tryd.underlying22 Tryd.underlying5
theorem has_lit (w : World) (l : List Nat) (f : Nat × Nat) (hl : ∀ y ∈ l, y < 256) : Has (w.alloc (.cells (bytesV l).toArray 5 f)) (some ⟨w.heap.size, 0, none⟩) l := by
  refine ⟨fun k u hk => ⟨_, rfl, by simp, ?_⟩, hl⟩
  rw [Addr.add_mid, Nat.zero_add, cell_of_row _ _ k _ 5 f (heap_alloc_last w _)]
  simpa using hk

theorem cells_lit (w : World) (xs : Array Value) (t : TypeId) : Cells (w.alloc (.cells xs t)) (some ⟨w.heap.size, 0, none⟩) xs.toList := by
  refine fun k u hk => ⟨_, rfl, by simp, ?_⟩
  rw [Addr.add_mid, Nat.zero_add, cell_of_row _ _ k _ t (0, 0) (heap_alloc_last w _)]
  simpa using hk
theorem hex_abc : strOf (hexL (sb (strOf (sha [97, 98, 99])))) = ⟨#[98, 97, 55, 56, 49, 54, 98, 102, 56, 102, 48, 49, 99, 102, 101, 97, 52, 49, 52, 49, 52, 48, 100, 101, 53, 100, 97, 101, 50, 50, 50, 51, 98, 48, 48, 51, 54, 49, 97, 51, 57, 54, 49, 55, 55, 97, 57, 99, 98, 52, 49, 48, 102, 102, 54, 49, 102, 50, 48, 48, 49, 53, 97, 100]⟩ := by decide +kernel
theorem hex_jefe : strOf (hexL (sb (strOf (hmac (sb ⟨#[74, 101, 102, 101]⟩) (sb ⟨#[119, 104, 97, 116, 32, 100, 111, 32, 121, 97, 32, 119, 97, 110, 116, 32, 102, 111, 114, 32, 110, 111, 116, 104, 105, 110, 103, 63]⟩))))) = ⟨#[53, 98, 100, 99, 99, 49, 52, 54, 98, 102, 54, 48, 55, 53, 52, 101, 54, 97, 48, 52, 50, 52, 50, 54, 48, 56, 57, 53, 55, 53, 99, 55, 53, 97, 48, 48, 51, 102, 48, 56, 57, 100, 50, 55, 51, 57, 56, 51, 57, 100, 101, 99, 53, 56, 98, 57, 54, 52, 101, 99, 51, 56, 52, 51]⟩ := by decide +kernel
theorem hex_of : strOf (hexL (sb (strOf ((sha (ofIn 8 (sbs [⟨#[97]⟩, ⟨#[]⟩]))).take 16)))) = ⟨#[51, 54, 99, 100, 53, 48, 56, 53, 48, 51, 50, 57, 102, 56, 56, 52, 48, 54, 101, 51, 49, 98, 98, 56, 97, 55, 100, 56, 102, 98, 54, 50]⟩ := by decide +kernel
/-- A block is read, by an operation with a guard that says yes. -/
theorem load_wanted {w : World} {ops : Array Oper} {rest : List Oper} {o : Oper} {a : Act} {Q : Exit → Act → World → Prop} (hw : Region.wanted o (yielded ops a.tmps) = true) (ty : TypeId) (x : Operand) (ho : o.op = .load ty x)
    {b : Nat} {t : TypeId} {cs : List Value} (h : Blk w b t cs) (hx : a.eval x = .pointer (some ⟨b, 0, none⟩)) {n m : Nat} {e : TypeId} (hu : Tryd.prog.underlying ty = some (.array n e)) (hi : (Tryd.prog.info? ty).map (·.size) = some m) (hl : cs.length = m)
    (K : wpList Tryd.prog ops Q rest (a.put o.dst (.agg cs.toArray)) w) : wpList Tryd.prog ops Q (o :: rest) a w := by
  subst hl
  have hr := h.range 0 cs.length
  rw [List.drop_zero, List.take_length] at hr
  refine wpList_step fun K' hK => ?_
  rw [if_pos hw]
  exact wp_load_mid ty x ho b 0 hx cs (.array n e) hr hu rfl hi (hK _ _ K)
theorem below_alloc {w w' : World} {o : Obj} (h : Below (w.alloc o).heap.size (w.alloc o) w') : Below w.heap.size w w' := ((Below.refl _ _).alloc (Nat.le_refl _) o).trans (h.mono (by simp))

set_option maxHeartbeats 2000000 in
set_option maxRecDepth 100000 in
theorem sanity_any (w : World) (hG : Glob w) : Calls Tryd.prog 10 #[] w (Told w true) := by
  have hz2 := zero_32
  have hcs := conv_lit
  go_enter Tryd.func10, Tryd.ntmps10
  go_wp2_with fail
  refine (sum_any (some ⟨w.heap.size, 0, none⟩) [97, 98, 99] 3 3 _ rfl (by decide) (has_lit w [97, 98, 99] _ (by decide)) (hG.keep ((Below.refl _ _).alloc (Nat.le_refl _) _))).mono ?_
  rintro e w1 ⟨rfl, hB1⟩
  have hB1' := below_alloc hB1
  clear hB1
  generalize hD1 : sha [97, 98, 99] = D1
  have hD1v : (bytesV D1).length = 32 := by rw [bytesV_length, ← hD1, sha_length]
  have hzv : (bytesV z32).toArray.toList.length = 32 := by rw [List.toList_toArray, bytesV_length]; rfl
  go_wp2_with (refine store_blk rfl 24 (.tmp 1) (.tmp 9) rfl (blk_new w1 24 (bytesV z32).toArray) rfl rfl (m := 32) (by kernel_rfl) hD1v hzv (bytesV_cells D1) ?_; intro x1 KA OA)
  have hB1'' := OA.2.2 _ _ hB1'.size (hB1'.alloc hB1'.size (.cells (bytesV z32).toArray 24))
  have hG1 := hG.keep hB1''
  clear hB1' OA
  refine (begin_str _ hG1).mono ?_
  rintro e w2 ⟨B2, hS2, rfl, hB2⟩
  have hG2 := hG1.keep hB2
  go_wp2_with fail
  refine (add_any [] B2 hS2 ⟨#[97]⟩ (by decide) _ hG2).mono ?_
  rintro e w3 ⟨B3, hS3, rfl, hB3⟩
  have hG3 := hG2.keep hB3
  go_wp2_with fail
  refine (add_any [97] B3 hS3 ⟨#[98, 99]⟩ (by decide) _ hG3).mono ?_
  rintro e w4 ⟨B4, hS4, rfl, hB4⟩
  have hG4 := hG3.keep hB4
  go_wp2_with fail
  refine (sum_at hD1 B4 hS4 (by decide) _ hG4).mono ?_
  rintro e w5 ⟨rfl, hB5⟩
  have hG5 := hG4.keep hB5
  have hL := link hB2 (link hB3 (link hB4 hB5))
  have KA5 := KA.keep hL
  have hC1 := chain hB1'' hB1''.size hL
  clear hB1'' hB2 hB3 hB4 hB5 hG1 hG2 hG3 hG4 hG5 hL KA
  go_wp2_with (refine store_blk rfl 24 (.tmp 2) (.tmp 13) rfl (blk_new w5 24 (bytesV z32).toArray) rfl rfl (m := 32) (by kernel_rfl) hD1v hzv (bytesV_cells D1) ?_; intro x5 KB OB)
  have hLt := KA5.lt
  have KA := OB.2.1 _ _ _ (by omega) (KA5.alloc (.cells (bytesV z32).toArray 24))
  have hC2 := OB.2.2 _ _ hC1.size (hC1.alloc hC1.size (.cells (bytesV z32).toArray 24))
  have hGb := hG.keep hC2
  clear hC1 KA5 hLt OB
  refine (of_any 8 8 (by omega) rfl (some ⟨x5.heap.size, 0, none⟩) [⟨#[97]⟩, ⟨#[]⟩] 2 2 _ rfl (by decide) (by intro y hy; simp at hy; rcases hy with rfl | rfl <;> decide) (cells_lit x5 #[.string ⟨#[97]⟩, .string ⟨#[]⟩] 9) (hG.keep (hC2.alloc hC2.size _))).mono ?_
  rintro e w6 ⟨rfl, hB6⟩
  have hB6' := below_alloc hB6
  have KA6 := KA.keep hB6'
  have KB6 := KB.keep hB6'
  have hC3 := chain hC2 hC2.size hB6'
  have hG6 := hG.keep hC3
  generalize hD2 : (sha (ofIn 8 (sbs [⟨#[97]⟩, ⟨#[]⟩]))).take 16 = D2
  have hD2l : D2.length = 16 := by rw [← hD2, List.length_take, sha_length]; rfl
  have hD2v : (bytesV D2).length = 16 := by rw [bytesV_length, hD2l]
  have hz1 := zero_dig'
  have hzw : (bytesV z16).toArray.toList.length = 16 := by rw [List.toList_toArray, bytesV_length]; rfl
  clear hB6 hB6' hC2 KA KB
  go_wp2_with (refine store_blk rfl 44 (.tmp 3) (.tmp 15) rfl (blk_new w6 44 (bytesV z16).toArray) rfl rfl (m := 16) (by kernel_rfl) hD2v hzw (bytesV_cells D2) ?_; intro x6 KD OD)
  have hLa := KA6.lt
  have hLb := KB6.lt
  have KA := OD.2.1 _ _ _ (by omega) (KA6.alloc (.cells (bytesV z16).toArray 44))
  have KB := OD.2.1 _ _ _ (by omega) (KB6.alloc (.cells (bytesV z16).toArray 44))
  have hC4 := OD.2.2 _ _ hC3.size (hC3.alloc hC3.size (.cells (bytesV z16).toArray 44))
  have hG7 := hG.keep hC4
  clear hC3 KA6 KB6 hLa hLb OD hG6 hGb
  refine (mac_any _ _ (by decide) (by decide) _ hG7).mono ?_
  rintro e w7 ⟨rfl, hB7⟩
  generalize hM : strOf (hmac _ _) = M
  go_wp2_with fail
  refine (equal_any _ _ (by decide) (by decide) _).mono ?_
  rintro e w8 ⟨rfl, hB8⟩
  have hL8 := link hB7 hB8
  clear hB7 hB8
  go_wp2_with fail
  refine (equal_any _ _ (by decide) (by decide) _).mono ?_
  rintro e w9 ⟨rfl, hB9⟩
  go_wp2_with fail
  refine (equal_any _ _ (by decide) (by decide) _).mono ?_
  rintro e w10 ⟨rfl, hB10⟩
  have hL10 := link hL8 (link hB9 hB10)
  have KA10 := KA.keep hL10
  have KB10 := KB.keep hL10
  have KD10 := KD.keep hL10
  have hC5 := chain hC4 hC4.size hL10
  clear hL8 hB9 hB10 hL10 KA KB KD hC4 hG7
  have hD1l : D1.length = 32 := by rw [← hD1, sha_length]
  have hD1b : ∀ y ∈ D1, y < 256 := by rw [← hD1]; exact sha_byte _
  go_wp2_with (refine load_part rfl 24 (.tmp 1) rfl KA10 rfl Tryd.underlying24 (m := 32) (by kernel_rfl) (ps := bytesV D1) (by rw [List.drop_zero, List.take_of_length_le (by omega)]) hD1v ?_)
  refine (bytes32_any D1 hD1l hD1b _).mono ?_
  rintro e w11 ⟨rfl, hB11⟩
  go_wp2_with fail
  refine (hex_any _ (by rw [strOf_size, hD1l]; omega) (by rw [strOf_size, hD1l]; omega) _).mono ?_
  rintro e w12 ⟨rfl, hB12⟩
  have hX1 := hex_abc
  rw [hD1] at hX1
  rw [hX1]
  have hL12 := link hB11 hB12
  have KA12 := KA10.keep hL12
  have KB12 := KB10.keep hL12
  have KD12 := KD10.keep hL12
  have hC6 := chain hC5 hC5.size hL12
  clear hX1 hL12 hB11 hB12 KA10 KB10 KD10 hC5
  have heq : ∀ w, (Op.equalIn 10000 24 (.agg (bytesV D1).toArray) (.agg (bytesV D1).toArray)).run Tryd.prog w = .ok true w := fun w => by rw [equal_32 w D1 D1 hD1l hD1l hD1b hD1b]; simp
  go_wp2_with (first
    | (refine load_wanted (by rfl) 24 (.tmp 1) rfl KA12 rfl Tryd.underlying24 (m := 32) (by kernel_rfl) hD1v ?_)
    | (refine load_wanted (by rfl) 24 (.tmp 2) rfl KB12 rfl Tryd.underlying24 (m := 32) (by kernel_rfl) hD1v ?_))
  have hMs : M.size = 32 := by rw [← hM, strOf_size]; unfold hmac; exact sha_length _
  refine (hex_any M (by omega) (by omega) _).mono ?_
  rintro e w13 ⟨rfl, hB13⟩
  have hX2 := hex_jefe
  rw [hM] at hX2
  rw [hX2]
  have KD13 := KD12.keep hB13
  have hC7 := chain hC6 hC6.size hB13
  have hD2b : ∀ y ∈ D2, y < 256 := by rw [← hD2]; exact fun y hy => sha_byte _ y (List.mem_of_mem_take hy)
  clear hX2 hB13 KA12 KB12 KD12 hC6
  go_wp2_with (refine load_wanted (by rfl) 44 (.tmp 3) rfl KD13 rfl Tryd.underlying44 (m := 16) (by kernel_rfl) hD2v ?_)
  refine (text_any D2 hD2l hD2b _).mono ?_
  rintro e w14 ⟨rfl, hB14⟩
  go_wp2_with fail
  refine (hex_any _ (by rw [strOf_size, hD2l]; omega) (by rw [strOf_size, hD2l]; omega) _).mono ?_
  rintro e w15 ⟨rfl, hB15⟩
  have hX3 := hex_of
  rw [hD2] at hX3
  rw [hX3]
  have hC8 := chain hC7 hC7.size (link hB14 hB15)
  clear hX3 hB14 hB15 KD13 hC7
  go_wp2
  go_ret
  exact ⟨rfl, hC8⟩

end Go.Proofs.YtgmlphfoadeboaaDoor
