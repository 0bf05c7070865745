/-
  passimref02.Short returns the first 16 bytes of the hash of an input, and Of the digest of a tag and of parts.
-/
import Derived.Test.YtgmlphfoadeboaaDoorQi
import Derived.Test.YtgmlphfoadeboaaDoorQu
namespace Go.Proofs.YtgmlphfoadeboaaDoor
open Go.RowKit
set_option linter.unusedVariables false
set_option linter.unusedSimpArgs false

/-- The digest when its first i bytes have been laid. -/
def shA (D : List Nat) (i : Nat) : List Nat := D.take i ++ List.replicate (16 - i) 0
theorem shA_zero (D : List Nat) : shA D 0 = z16 := rfl
theorem shA_length (D : List Nat) (i : Nat) (h : i ≤ 16) (hD : D.length = 32) : (shA D i).length = 16 := by simp [shA, hD]; omega
theorem shA_full (D : List Nat) : shA D 16 = D.take 16 := by simp [shA]
theorem shA_set (D : List Nat) (i : Nat) (h : i < 16) (hD : D.length = 32) : (shA D i).set i (D[i]'(by omega)) = shA D (i + 1) := by
  have hl : (D.take i).length = i := by rw [List.length_take]; omega
  unfold shA
  rw [List.set_append_right _ _ (by omega), hl, Nat.sub_self]
  obtain ⟨k, hk⟩ : ∃ k, 16 - i = k + 1 := ⟨15 - i, by omega⟩
  rw [hk, List.replicate_succ, List.set_cons_zero, show 16 - (i + 1) = k by omega, List.take_add_one, List.getElem?_eq_getElem (by omega)]
  simp only [Option.toList_some, List.append_assoc, List.cons_append, List.nil_append]

set_option maxHeartbeats 1000000 in
set_option maxRecDepth 100000 in
theorem short_any (A : Option Addr) (l : List Nat) (n c : Nat) (w : World) (hn : n = l.length) (hl : l.length ≤ 1099511627776) (hr : Has w A l) (hR : GlobR w) :
    Calls Tryd.prog 33 #[.slice A n c] w fun e w' => e = .returned (.agg (bytesV ((sha l).take 16)).toArray) ∧ Below w.heap.size w w' := by
  subst hn
  have hz1 := zero_dig'
  have hz2 := zero_32
  go_enter Tryd.func33, Tryd.ntmps33
  go_upto_region 1 with (fail)
  generalize hw0 : World.alloc _ _ = W0
  have K0 : Blk W0 w.heap.size 44 (bytesV z16) := hw0 ▸ blk_new w _ _
  have KB : Below w.heap.size w W0 := hw0 ▸ ((Below.refl _ _).alloc (Nat.le_refl _) _)
  clear hw0
  have HS := Lib.hid (rsum_any A l l.length c W0 rfl hl (hr.keep KB) (hR.keep KB))
  obtain ⟨D, hDe⟩ : ∃ D, sha l = D := ⟨_, rfl⟩
  have hDl : D.length = 32 := by rw [← hDe]; exact sha_length _
  have hDv : (bytesV D).length = 32 := by rw [bytesV_length]; exact hDl
  have hzv : (bytesV z32).toArray.toList.length = 32 := by rw [List.toList_toArray, bytesV_length]; rfl
  rw [hDe] at HS
  have HD := Lib.hid hDe
  clear hDe
  go_upto_region 2 with (first | (go_at_call 12; refine HS.out.mono ?_; rintro e w1 ⟨rfl, hB1⟩) | (refine store_blk rfl 24 (.tmp 3) (.tmp 7) rfl (blk_new w1 _ (bytesV z32).toArray) rfl rfl (m := 32) (by kernel_rfl) hDv hzv (bytesV_cells D) ?_; intro w2 K3 O3))
  have hs1 := hB1.size
  have hk0 := K0.lt
  have L0 := O3.2.1 _ _ _ (by omega) ((K0.keep hB1).alloc (.cells (bytesV z32).toArray 24))
  have LB : Below w.heap.size w w2 := O3.2.2 _ _ (by have := KB.size; omega) ((KB.trans (hB1.mono KB.size)).alloc (by have := KB.size; omega) _)
  have hb3 : w.heap.size < w1.heap.size := by omega
  clear K0 KB hB1 O3 hs1 hk0 HS
  generalize w1.heap.size = b3 at *
  have hz16 : (bytesV z16).length = 16 := rfl
  have hzw : (bytesV z16).toArray.toList.length = 16 := rfl
  go_upto_region 3 with (refine store_blk rfl 44 (.tmp 4) (.tmp 8) rfl (blk_new w2 44 (bytesV z16).toArray) rfl rfl (m := 16) (by kernel_rfl) hz16 hzw (bytesV_cells z16) ?_; intro w3 K4 O4)
  have hl0 := L0.lt
  have hl3 := K3.lt
  have M0 := O4.2.1 _ _ _ (by omega) (L0.alloc (.cells (bytesV z16).toArray 44))
  have M3 := O4.2.1 _ _ _ (by omega) (K3.alloc (.cells (bytesV z16).toArray 44))
  have MB : Below w.heap.size w w3 := O4.2.2 _ _ LB.size (LB.alloc LB.size _)
  have hb4 : b3 < w2.heap.size := by omega
  have M4 : Blk w3 w2.heap.size 44 (bytesV (shA D 0)) := K4
  clear L0 K3 LB K4 O4 hl0 hl3 hz1 hz2
  generalize w2.heap.size = b4 at *
  go_wp2
  go_loopw [5] (fun v wr => ∃ i : Nat, i ≤ 16 ∧ v = .int .i64 i ∧ Blk wr w.heap.size 44 (bytesV z16) ∧ Blk wr b3 24 (bytesV D) ∧ Blk wr b4 44 (bytesV (shA D i)) ∧ Below w.heap.size w wr) (fun v _ => 16 - (intOf v).toNat)
  case atStart => exact ⟨0, by omega, rfl, M0, M3, M4, MB⟩
  case round =>
    clear M0 M3 M4 MB
    obtain ⟨i, hi, rfl, N0, N3, N4, NB⟩ := hrel
    by_cases h16 : i < 16
    · obtain ⟨y, hy⟩ : ∃ y, D[i]'(by omega) = y := ⟨_, rfl⟩
      have cy : wr.cell? ⟨b3, i, none⟩ = some (.int .u8 (y : Int)) := N3.cell (by simp [bytesV, byteV, show i < D.length by omega, hy])
      have c4 : wr.cell? ⟨b4, i, none⟩ = some ((bytesV (shA D i))[i]'(by rw [bytesV_length, shA_length _ _ hi hDl]; exact h16)) := N4.cell (List.getElem?_eq_getElem _)
      have f4 := N4.free i
      have hset := N4.set i (byteV y)
      have e : (bytesV (shA D i)).set i (byteV y) = bytesV (shA D (i + 1)) := by
        rw [← shA_set D i h16 hDl, hy]
        unfold bytesV
        rw [List.map_set]
      rw [e] at hset
      have l32 : (i : Int) < 32 := by omega
      clear e
      go_wp2
      go_roundw
      case rel => exact ⟨i + 1, by omega, by go_num, N0.other (by simp; omega) _, N3.other (by simp; omega) _, hset, NB.setCell (by simp; omega) _⟩
      case measure => simp [intOf]; omega
    · obtain rfl : i = 16 := by omega
      rw [shA_full] at N4
      have hsl : (bytesV (D.take 16)).length = 16 := by rw [bytesV_length, List.length_take]; omega
      go_wp2_with (first | (refine load_blk rfl 44 (.tmp 4) rfl N4 rfl Tryd.underlying44 (m := 16) (by kernel_rfl) hsl ?_) | (refine store_blk rfl 44 (.tmp 2) (.tmp 18) rfl N0 rfl rfl (m := 16) (by kernel_rfl) hsl hz16 (bytesV_cells _) ?_; intro w5 hb5 ho5))
      exact bodyPost_ret (v := .agg (bytesV (D.take 16)).toArray) (hb5.result (p := 2) (ty := 44) rfl _ rfl Tryd.underlying44 (by rw [hsl]; kernel_rfl)) rfl ⟨by rw [HD.out], ho5.2.2 _ _ (by omega) NB⟩

set_option maxHeartbeats 1000000 in
set_option maxRecDepth 100000 in
theorem rof_any (tag : Int) (T : Nat) (hT : T < 256) (hTt : IntKind.u8.wrap tag = (T : Int)) (A : Option Addr) (ps : List ByteArray) (n c : Nat) (w : World) (hn : n = ps.length) (hl : ps.length ≤ 1024) (ht : ∀ s ∈ ps, s.size ≤ 1048576) (hr : Cells w A (strsV ps)) (hR : GlobR w) :
    Calls Tryd.prog 22 #[.int .i64 tag, .slice A n c] w fun e w' => e = .returned (.agg (bytesV ((sha (ofIn T (sbs ps))).take 16)).toArray) ∧ Below w.heap.size w w' := by
  subst hn
  have hlen := ofM_len T ps ht ps.length (Nat.le_refl _)
  rw [ofM_all] at hlen
  have hbt : ∀ y ∈ ofIn T (sbs ps), y < 256 := by
    intro y hy
    unfold ofIn at hy
    rcases List.mem_cons.1 hy with rfl | h
    · exact hT
    · obtain ⟨d, hd, hyd⟩ := List.mem_flatMap.1 h
      obtain ⟨s, hs, rfl⟩ := List.mem_map.1 hd
      exact encS_byte s (ht s hs) y hyd
  have HI := Lib.hid (fun w0 h => input_any tag T hT hTt A ps ps.length c w0 rfl (by omega) ht h)
  obtain ⟨m, hm⟩ : ∃ m, ofIn T (sbs ps) = m := ⟨_, rfl⟩
  have hm0 : 0 < m.length := by rw [← hm]; simp [ofIn]
  rw [hm] at HI hlen hbt ⊢
  clear hm
  have hz1 := zero_dig'
  go_enter Tryd.func22, Tryd.ntmps22
  go_upto_region 1 with (fail)
  generalize hw0 : World.alloc _ _ = W0
  have K0 : Blk W0 w.heap.size 44 (bytesV z16) := hw0 ▸ blk_new w _ _
  have KB : Below w.heap.size w W0 := hw0 ▸ ((Below.refl _ _).alloc (Nat.le_refl _) _)
  clear hw0 hz1
  have hr0 := hr.keep KB
  have hR0 := hR.keep KB
  go_wp2_with fail
  refine (HI.out _ hr0).mono ?_
  rintro e w1 ⟨g, cap, rfl, hO⟩
  have hH := hO.has hbt
  have hR1 := hR0.keep hO.below
  have K1 := K0.keep hO.below
  have KB1 := KB.trans (hO.below.mono KB.size)
  go_wp2_with fail
  refine (short_any (some ⟨g, 0, none⟩) m m.length cap _ rfl (by omega) hH hR1).mono ?_
  rintro e w2 ⟨rfl, hB2⟩
  have K2 := K1.keep hB2
  have KB2 := KB1.trans (hB2.mono KB1.size)
  obtain ⟨D, hD⟩ : ∃ D, (sha m).take 16 = D := ⟨_, rfl⟩
  have hDl : (bytesV D).length = 16 := by rw [← hD, bytesV_length, List.length_take, sha_length]; rfl
  have hz16 : (bytesV z16).length = 16 := rfl
  rw [hD]
  have HD := Lib.hid hD
  clear K0 KB K1 KB1 hO hH hB2 hD
  go_wp2_with (refine store_blk rfl 44 (.tmp 4) (.tmp 8) rfl K2 rfl rfl (m := 16) (by kernel_rfl) hDl hz16 (bytesV_cells _) ?_; intro w5 hb5 ho5)
  exact bodyPost_ret (v := .agg (bytesV D).toArray) (hb5.result (p := 4) (ty := 44) rfl _ rfl Tryd.underlying44 (by rw [hDl]; kernel_rfl)) rfl ⟨by rw [HD.out], ho5.2.2 _ _ (Nat.le_refl _) KB2⟩

end Go.Proofs.YtgmlphfoadeboaaDoor
