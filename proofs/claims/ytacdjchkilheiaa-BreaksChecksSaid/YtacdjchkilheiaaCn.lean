/-
  Fill of the reference: its refusals.
-/
import Derived.Test.YtacdjchkilheiaaCf
import Derived.Test.YtacdjchkilheiaaCa
namespace Go.Proofs.Ytacdjchkilheiaa
open Go.RowKit
set_option linter.unusedVariables false
set_option linter.unusedSimpArgs false

set_option maxHeartbeats 4000000 in
set_option maxRecDepth 100000 in
theorem rfill_bad (A : Option Addr) (l : List Int) (n c : Nat) (hl : l.length = n) (hn9 : n ≤ 1000000000000) (bl wd : Int) (he : errT l bl wd ≠ 0) (w : World) (hA : IntsAt w A l) :
    Calls Try.prog 11 #[.slice A n c, .int .i64 bl, .int .i64 wd] w (CertR 32 [] [] [] (errT l bl wd) w) := by
  have HEr := Lib.hid (fun (V : World) (h : Below w.heap.size w V) => rerror_any A l n c hl hn9 bl wd V (hA.keep h))
  generalize errT l bl wd = k at *
  have hk : (k == 0) = false := by simp; exact he
  clear hl he hA
  go_enter Try.func11, Try.ntmps11
  go_upto_region 1 with (fail)
  have Kr := blk_new w 32 zeroCt.toArray
  have Xr : Below w.heap.size w (w.alloc (.cells zeroCt.toArray 32)) := (Below.refl _ _).alloc (Nat.le_refl _) _
  obtain ⟨W0, hW0⟩ : ∃ W, w.alloc (.cells zeroCt.toArray 32) = W := ⟨_, rfl⟩
  change Code.wp _ _ _ _ (w.alloc (.cells zeroCt.toArray 32))
  rw [hW0] at Kr Xr ⊢
  obtain ⟨rp, hrp⟩ : ∃ rp, w.heap.size = rp := ⟨_, rfl⟩
  rw [hrp] at Kr ⊢
  have hwrp : w.heap.size ≤ rp := by omega
  clear hW0 hrp
  have HE0 := Lib.hid (HEr.out W0 Xr)
  go_wp2_with (first
    | (go_at_call 26; refine HE0.out.mono ?_; rintro en W1 ⟨rfl, rfl⟩)
    | (refine store_blk rfl 32 (.tmp 6) (.tmp 30) rfl Kr rfl rfl (vs := zeroCt) (m := 3) (by kernel_rfl) rfl rfl (by intro v hv; simp [zeroCt] at hv; rcases hv with rfl | rfl | rfl <;> rfl) ?_; intro W9 K9 O9))
  try simp only [zP, zQ, zS, zZ, zC]
  try go_wp2
  exact bodyPost_ret (v := .tuple #[.agg zeroCt.toArray, .int .i64 k]) (results_and (by rfl) _ _ rfl rfl (K9.loadVarS Try.underlying32 (by kernel_rfl))) rfl (cert_none rfl (O9.2.2 _ _ hwrp Xr))
set_option maxHeartbeats 4000000 in
set_option maxRecDepth 100000 in
theorem rfill_wide (A : Option Addr) (l : List Int) (n c : Nat) (hl : l.length = n) (hn9 : n ≤ 1000000000000) (bl wd : Int) (he : errT l bl wd = 0) (hz : wideT l wd = true) (w : World) (hA : IntsAt w A l) :
    Calls Try.prog 11 #[.slice A n c, .int .i64 bl, .int .i64 wd] w (CertR 32 [] [] [] 21 w) := by
  have HEr := Lib.hid (fun (V : World) (h : Below w.heap.size w V) => rerror_any A l n c hl hn9 bl wd V (hA.keep h))
  have HWi := Lib.hid (fun (V : World) (h : Below w.heap.size w V) => rwide_any A l n c hl hn9 wd V (hA.keep h))
  rw [he] at HEr
  rw [hz] at HWi
  clear hl he hA hz
  go_enter Try.func11, Try.ntmps11
  go_upto_region 1 with (fail)
  have Kr := blk_new w 32 zeroCt.toArray
  have Xr : Below w.heap.size w (w.alloc (.cells zeroCt.toArray 32)) := (Below.refl _ _).alloc (Nat.le_refl _) _
  obtain ⟨W0, hW0⟩ : ∃ W, w.alloc (.cells zeroCt.toArray 32) = W := ⟨_, rfl⟩
  change Code.wp _ _ _ _ (w.alloc (.cells zeroCt.toArray 32))
  rw [hW0] at Kr Xr ⊢
  obtain ⟨rp, hrp⟩ : ∃ rp, w.heap.size = rp := ⟨_, rfl⟩
  rw [hrp] at Kr ⊢
  have hwrp : w.heap.size ≤ rp := by omega
  clear hW0 hrp
  have HE0 := Lib.hid (HEr.out W0 Xr)
  have HW0 := Lib.hid (HWi.out W0 Xr)
  go_wp2_with (first
    | (go_at_call 26; refine HE0.out.mono ?_; rintro en W1 ⟨rfl, rfl⟩)
    | (go_at_call 25; refine HW0.out.mono ?_; rintro en W2 ⟨rfl, rfl⟩)
    | (refine store_blk rfl 32 (.tmp 6) (.tmp 30) rfl Kr rfl rfl (vs := zeroCt) (m := 3) (by kernel_rfl) rfl rfl (by intro v hv; simp [zeroCt] at hv; rcases hv with rfl | rfl | rfl <;> rfl) ?_; intro W9 K9 O9))
  try simp only [zP, zQ, zS, zZ, zC]
  try go_wp2
  exact bodyPost_ret (v := .tuple #[.agg zeroCt.toArray, .int .i64 21]) (results_and (by rfl) _ _ rfl rfl (K9.loadVarS Try.underlying32 (by kernel_rfl))) rfl (cert_none rfl (O9.2.2 _ _ hwrp Xr))
end Go.Proofs.Ytacdjchkilheiaa
