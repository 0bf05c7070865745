/-
  passimlaw01.sanity returns true.
-/
import Derived.Test.YtpglfjfgnmaipaaWo
namespace Go.Proofs.Ytpglfjfgnmaipaa
open Go.RowKit

set_option maxHeartbeats 2000000 in
set_option maxRecDepth 100000 in
theorem sanity_any (w : World) : Calls Try.prog 12 #[] w (Told w true) := by
  go_enter Try.func12, Try.ntmps12
  go_wp2_with fail
  refine (getInt_lit w [130, 1, 0, 9] (by simp) _ rfl 4 rfl (by omega) _ _ _ dec1).mono ?_
  rintro e w1 ⟨rfl, hB1⟩
  go_wp2_with fail
  refine (getInt_lit w1 [130, 1] (by simp) _ rfl 2 rfl (by omega) _ _ _ dec2).mono ?_
  rintro e w2 ⟨rfl, hB2⟩
  go_wp2_with fail
  refine (getInt_lit w2 [129, 0] (by simp) _ rfl 2 rfl (by omega) _ _ _ dec3).mono ?_
  rintro e w3 ⟨rfl, hB3⟩
  go_wp2_with fail
  refine (getBytes_lit w3 [129, 2, 97, 98, 7] (by simp) _ rfl 5 rfl (by omega) _ _ _ decB4 ⟨#[97, 98]⟩ rfl).mono ?_
  rintro e w4 ⟨rfl, hB4⟩
  go_wp2_with fail
  refine (getInts_lit w4 [129, 2, 129, 1, 127] (by simp) _ rfl 5 rfl (by omega) [1, -1] (by simp) 5 list5).mono ?_
  rintro e w5 ⟨g5, cap5, rfl, hc5, hB5⟩
  go_wp2_with fail
  refine (digests_lit (w5.alloc _) _ (by simp) _ rfl).mono ?_
  rintro e w7 ⟨g7, cap7, rfl, hcap7, hc7, hB7⟩
  have hd7 : Cells w7 (some ⟨w5.heap.size, 0, none⟩) (bytesV D0) := (cells_new w5 (bytesV D0) _ _ rfl).keep hB7
  have hB7' := below_alloc hB7
  clear hB7
  go_wp2_with fail
  refine (getDigests_lit w7 g7 cap7 hcap7 hc7).mono ?_
  rintro e w8 ⟨g8, cap8, rfl, hc8, hB8⟩
  go_wp2_with fail
  refine (getStrings_lit w8 [129, 2, 128, 129, 1, 97, 5] (by simp) _ rfl 7 rfl (by omega) [[], [97]] (by simp) 6 list6).mono ?_
  rintro e w9 ⟨g9, cap9, rfl, hc9, hB9⟩
  have hd9 := (hd7.keep hB8).keep hB9
  have hc8' := hc8.keep hB9
  have hc5' := ((hc5.keep hB7').keep hB8).keep hB9
  have hB : Below w.heap.size w w9 := chain hB1 (chain hB2 (chain hB3 (chain hB4 (chain hB5 (chain hB7' (chain hB8 hB9))))))
  clear hd7 hc8 hc5 hB1 hB2 hB3 hB4 hB5 hB7' hB8 hB9 hc7 hcap7
  go_wp2_with fail
  refine (told_true (sameTexts_lit w9 (some ⟨g9, 0, none⟩) ([[], [97]].map strOf) [⟨#[]⟩, ⟨#[97]⟩] 2 cap9 rfl (by simp) hc9 _ rfl 2 rfl (by omega)) (by decide)).mono ?_
  rintro e w10 ⟨rfl, hB10⟩
  go_wp2_with fail
  refine (strings_lit w10 _ rfl).mono ?_
  rintro e w11 ⟨g11, cap11, rfl, _, hc11, hB11⟩
  go_wp2_with fail
  refine (told_true (same_lit w11 (some ⟨g11, 0, none⟩) [129, 2, 128, 129, 1, 97] [129, 2, 128, 129, 1, 97] 6 cap11 rfl (by simp) hc11 (by simp) _ rfl 6 rfl (by omega)) (by decide)).mono ?_
  rintro e w12 ⟨rfl, hB12⟩
  clear hc9 hc11
  go_wp2_with fail
  refine (int_lit w12).mono ?_
  rintro e w13 ⟨g13, cap13, rfl, _, hc13, hB13⟩
  go_wp2_with fail
  refine (told_true (same_lit w13 (some ⟨g13, 0, none⟩) [125, 254, 255] [125, 254, 255] 3 cap13 rfl (by simp) hc13 (by simp) _ rfl 3 rfl (by omega)) (by decide)).mono ?_
  rintro e w14 ⟨rfl, hB14⟩
  clear hc13
  have hB' := chain hB10 (chain hB11 (chain hB12 (chain hB13 hB14)))
  have hc5'' := hc5'.keep hB'
  have hd14 := hd9.keep hB'
  have hc8'' := hc8'.keep hB'
  have hBB := chain hB hB'
  clear hB10 hB11 hB12 hB13 hB14 hB' hc5' hd9 hc8' hB
  go_wp2_with fail
  refine (told_true (sameInts_lit w14 (some ⟨g5, 0, none⟩) [1, -1] [1, -1] 2 cap5 rfl (by simp) hc5'' _ rfl 2 rfl (by omega)) (by decide)).mono ?_
  rintro e w15 ⟨rfl, hB15⟩
  go_wp2_with fail
  refine (bytes_lit w15).mono ?_
  rintro e w16 ⟨g16, cap16, rfl, _, hc16, hB16⟩
  go_wp2_with fail
  refine (told_true (same_lit w16 (some ⟨g16, 0, none⟩) [129, 2, 97, 98] [129, 2, 97, 98] 4 cap16 rfl (by simp) hc16 (by simp) _ rfl 4 rfl (by omega)) (by decide)).mono ?_
  rintro e w17 ⟨rfl, hB17⟩
  clear hc5'' hc16
  go_wp2_with fail
  refine (ints_lit w17 _ rfl).mono ?_
  rintro e w18 ⟨g18, cap18, rfl, _, hc18, hB18⟩
  go_wp2_with fail
  refine (told_true (same_lit w18 (some ⟨g18, 0, none⟩) [129, 2, 129, 1, 127] [129, 2, 129, 1, 127] 5 cap18 rfl (by simp) hc18 (by simp) _ rfl 5 rfl (by omega)) (by decide)).mono ?_
  rintro e w19 ⟨rfl, hB19⟩
  clear hc18
  have hB' := chain hB15 (chain hB16 (chain hB17 (chain hB18 hB19)))
  have hd19 := hd14.keep hB'
  have hc19 := hc8''.keep hB'
  have hB2 := chain hBB hB'
  clear hB15 hB16 hB17 hB18 hB19 hB' hd14 hc8'' hBB
  have hdc : ∀ j u, (bytesV D0)[j]? = some u → w19.cell? ((⟨w5.heap.size, 0, none⟩ : Addr).add j) = some u := fun j u hj => by
    obtain ⟨ad, e, _, hc⟩ := hd19 j u hj
    obtain rfl : (⟨w5.heap.size, 0, none⟩ : Addr) = ad := by simpa using e
    exact hc
  have hdk : ∀ j u, (bytesV D0)[j]? = some u → w19.cell? ⟨w5.heap.size, j, none⟩ = some u := fun j u hj => by
    have := hdc j u hj
    rwa [Addr.add_mid, Nat.zero_add] at this
  have d0 : w19.cell? ⟨w5.heap.size, 0, none⟩ = some (.int .u8 1) := hdk 0 _ rfl
  have d1 : w19.cell? ⟨w5.heap.size, 1, none⟩ = some (.int .u8 2) := hdk 1 _ rfl
  have d2 : w19.cell? ⟨w5.heap.size, 2, none⟩ = some (.int .u8 0) := hdk 2 _ rfl
  have d3 : w19.cell? ⟨w5.heap.size, 3, none⟩ = some (.int .u8 0) := hdk 3 _ rfl
  have d4 : w19.cell? ⟨w5.heap.size, 4, none⟩ = some (.int .u8 0) := hdk 4 _ rfl
  have d5 : w19.cell? ⟨w5.heap.size, 5, none⟩ = some (.int .u8 0) := hdk 5 _ rfl
  have d6 : w19.cell? ⟨w5.heap.size, 6, none⟩ = some (.int .u8 0) := hdk 6 _ rfl
  have d7 : w19.cell? ⟨w5.heap.size, 7, none⟩ = some (.int .u8 0) := hdk 7 _ rfl
  have d8 : w19.cell? ⟨w5.heap.size, 8, none⟩ = some (.int .u8 0) := hdk 8 _ rfl
  have d9 : w19.cell? ⟨w5.heap.size, 9, none⟩ = some (.int .u8 0) := hdk 9 _ rfl
  have d10 : w19.cell? ⟨w5.heap.size, 10, none⟩ = some (.int .u8 0) := hdk 10 _ rfl
  have d11 : w19.cell? ⟨w5.heap.size, 11, none⟩ = some (.int .u8 0) := hdk 11 _ rfl
  have d12 : w19.cell? ⟨w5.heap.size, 12, none⟩ = some (.int .u8 0) := hdk 12 _ rfl
  have d13 : w19.cell? ⟨w5.heap.size, 13, none⟩ = some (.int .u8 0) := hdk 13 _ rfl
  have d14 : w19.cell? ⟨w5.heap.size, 14, none⟩ = some (.int .u8 0) := hdk 14 _ rfl
  have d15 : w19.cell? ⟨w5.heap.size, 15, none⟩ = some (.int .u8 0) := hdk 15 _ rfl
  clear hdc hd19 hdk
  go_wp2_with fail
  refine (sameDigests_lit w19 g8 1 cap8 rfl hc19 _ rfl).mono ?_
  rintro e w20 ⟨rfl, hB20⟩
  go_wp2
  go_ret
  exact ⟨rfl, chain hB2 hB20⟩

end Go.Proofs.Ytpglfjfgnmaipaa
