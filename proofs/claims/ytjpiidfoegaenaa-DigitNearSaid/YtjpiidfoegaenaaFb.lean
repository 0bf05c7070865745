/-
  Changed and Exchanged of the reference.
-/
import Derived.Test.YtjpiidfoegaenaaFa
namespace Go.Proofs.Ytjpiidfoegaenaa
open Go Go.RowKit
set_option linter.unusedVariables false
set_option linter.unusedSimpArgs false

def StB (x : ByteArray) (w : World) (e : Ending) (w' : World) : Prop := e = .returned (.string x) ∧ Below w.heap.size w w'
set_option maxHeartbeats 4000000 in
set_option maxRecDepth 100000 in
theorem changed_any (s : ByteArray) (hs : s.size ≤ 1000) (k v : Nat) (hk : k < s.size) (hv : v < 31) (w : World) :
    Calls Try.prog 29 #[.string s, .int .i64 (k : Int), .int .i64 (v : Int)] w (StB (s.extract 0 k ++ alphB.extract v (v + 1) ++ s.extract (k + 1) s.size) w) := by
  obtain ⟨V1, hV1⟩ : ∃ V1, v + 1 = V1 := ⟨_, rfl⟩
  obtain ⟨K1, hK1⟩ : ∃ K1, k + 1 = K1 := ⟨_, rfl⟩
  have z1 : (v : Int) + 1 = (V1 : Int) := by omega
  have z2 : (k : Int) + 1 = (K1 : Int) := by omega
  have z3 : ¬ (v : Int) < 0 := by omega
  have z4 : ¬ (k : Int) < 0 := by omega
  have z5 : (v : Int) ≤ (V1 : Int) := by omega
  have z6 : V1 ≤ alphB.size := by show V1 ≤ 31; omega
  have z7 : K1 ≤ s.size := by omega
  have z8 : k ≤ s.size := by omega
  have z9 : (k : Int) ≤ (s.size : Int) := by omega
  have z10 : (K1 : Int) ≤ (s.size : Int) := by omega
  have z11 : ¬ (K1 : Int) < 0 := by omega
  have z12 : v ≤ V1 := by omega
  have z15 : V1 ≤ 31 := by omega
  have z13 : (V1 : Int) ≤ (alphB.size : Int) := by omega
  have HC1 := Lib.hid (show ¬ 9223372036854775807 < min k s.size + (min V1 alphB.size - v) by have : alphB.size = 31 := rfl; omega)
  have HC2 := Lib.hid (show ¬ 9223372036854775807 < min k s.size + (min V1 alphB.size - v) + (s.size - K1) by have : alphB.size = 31 := rfl; omega)
  rw [hV1, hK1]
  clear hV1 hK1 hv hk
  go_enter Try.func29, Try.ntmps29
  go_upto_region 2 with (go_at_call 37; refine (alphabet_any _).mono ?_; rintro _ _ ⟨rfl, rfl⟩)
  refine wp_region_held_drew (S := fun w' => Below w.heap.size w w') (by kernel_rfl) (below_drew (Below.refl _ _)) (fun _ => ?_)
  have hHeld : Below w.heap.size w w.drew := below_drew (Below.refl _ _)
  generalize w.drew = V0 at hHeld ⊢
  refine wt (i := 0) (oi := ⟨some 9, .move (.tmp 0), 9, "ref.go:189", #[], none⟩) (v := .string (s)) (Or.inl ⟨by rfl, fun w' hSw => by go_simp⟩) hHeld ?_
  try simp only [zP, zQ, zS, zZ, zC]
  refine wt (i := 1) (oi := ⟨some 10, .move (.tmp 1), 3, "ref.go:189", #[], none⟩) (v := .int .i64 (k : Int)) (Or.inl ⟨by rfl, fun w' hSw => by go_simp⟩) hHeld ?_
  try simp only [zP, zQ, zS, zZ, zC]
  refine wt (i := 2) (oi := ⟨some 11, .slice 9 (.tmp 9) none (some (.tmp 10)) none, 9, "ref.go:189", #[⟨0, .data⟩, ⟨1, .data⟩], none⟩) (v := .string (s.extract 0 k)) (Or.inl ⟨by rfl, fun w' hSw => by go_simp⟩) hHeld ?_
  try simp only [zP, zQ, zS, zZ, zC]
  refine wt (i := 3) (oi := ⟨some 12, .move (.tmp 7), 9, "ref.go:189", #[], none⟩) (v := .string (alphB)) (Or.inl ⟨by rfl, fun w' hSw => by go_simp⟩) hHeld ?_
  try simp only [zP, zQ, zS, zZ, zC]
  refine wt (i := 4) (oi := ⟨some 13, .move (.tmp 2), 3, "ref.go:189", #[], none⟩) (v := .int .i64 (v : Int)) (Or.inl ⟨by rfl, fun w' hSw => by go_simp⟩) hHeld ?_
  try simp only [zP, zQ, zS, zZ, zC]
  refine wt (i := 5) (oi := ⟨some 14, .move (.tmp 2), 3, "ref.go:189", #[], none⟩) (v := .int .i64 (v : Int)) (Or.inl ⟨by rfl, fun w' hSw => by go_simp⟩) hHeld ?_
  try simp only [zP, zQ, zS, zZ, zC]
  refine wt (i := 6) (oi := ⟨some 15, .binOp .add 3 (.tmp 14) (.const (Value.int IntKind.i64 1)) 3, 3, "ref.go:189", #[⟨5, .data⟩], none⟩) (v := .int .i64 (V1 : Int)) (Or.inl ⟨by rfl, fun w' hSw => by go_simp; first | done | exact wrap_in (by omega) (by omega) | omega⟩) hHeld ?_
  try simp only [zP, zQ, zS, zZ, zC]
  refine wt (i := 7) (oi := ⟨some 16, .slice 9 (.tmp 12) (some (.tmp 13)) (some (.tmp 15)) none, 9, "ref.go:189", #[⟨3, .data⟩, ⟨4, .data⟩, ⟨6, .data⟩], none⟩) (v := .string (alphB.extract v V1)) (Or.inl ⟨by rfl, fun w' hSw => by go_simp⟩) hHeld ?_
  try simp only [zP, zQ, zS, zZ, zC]
  refine wt (i := 8) (oi := ⟨some 17, .binOp .add 9 (.tmp 11) (.tmp 16) 9, 9, "ref.go:189", #[⟨2, .data⟩, ⟨7, .data⟩], none⟩) (v := .string (s.extract 0 k ++ alphB.extract v V1)) (Or.inl ⟨by rfl, fun w' hSw => by go_simp; first | done | exact wrap_in (by omega) (by omega) | omega⟩) hHeld ?_
  try simp only [zP, zQ, zS, zZ, zC]
  refine wt (i := 9) (oi := ⟨some 18, .move (.tmp 0), 9, "ref.go:189", #[], none⟩) (v := .string (s)) (Or.inl ⟨by rfl, fun w' hSw => by go_simp⟩) hHeld ?_
  try simp only [zP, zQ, zS, zZ, zC]
  refine wt (i := 10) (oi := ⟨some 19, .move (.tmp 1), 3, "ref.go:189", #[], none⟩) (v := .int .i64 (k : Int)) (Or.inl ⟨by rfl, fun w' hSw => by go_simp⟩) hHeld ?_
  try simp only [zP, zQ, zS, zZ, zC]
  refine wt (i := 11) (oi := ⟨some 20, .binOp .add 3 (.tmp 19) (.const (Value.int IntKind.i64 1)) 3, 3, "ref.go:189", #[⟨10, .data⟩], none⟩) (v := .int .i64 (K1 : Int)) (Or.inl ⟨by rfl, fun w' hSw => by go_simp; first | done | exact wrap_in (by omega) (by omega) | omega⟩) hHeld ?_
  try simp only [zP, zQ, zS, zZ, zC]
  refine wt (i := 12) (oi := ⟨some 21, .slice 9 (.tmp 18) (some (.tmp 20)) none none, 9, "ref.go:189", #[⟨9, .data⟩, ⟨11, .data⟩], none⟩) (v := .string (s.extract K1 s.size)) (Or.inl ⟨by rfl, fun w' hSw => by go_simp⟩) hHeld ?_
  try simp only [zP, zQ, zS, zZ, zC]
  refine wt (i := 13) (oi := ⟨some 22, .binOp .add 9 (.tmp 17) (.tmp 21) 9, 9, "ref.go:189", #[⟨8, .data⟩, ⟨12, .data⟩], none⟩) (v := .string (s.extract 0 k ++ alphB.extract v V1 ++ s.extract K1 s.size)) (Or.inl ⟨by rfl, fun w' hSw => by go_simp; first | done | exact wrap_in (by omega) (by omega) | omega⟩) hHeld ?_
  try simp only [zP, zQ, zS, zZ, zC]
  refine wpAnyH_ready (rs := [14]) (by kernel_rfl) (by simp) ?_
  refine AllReadyH.cons (o := ⟨some 6, .assign (.tmp 22), 9, "ref.go:189", #[⟨13, .data⟩, ⟨0, .phase⟩, ⟨1, .phase⟩, ⟨2, .phase⟩, ⟨3, .phase⟩, ⟨4, .phase⟩, ⟨5, .phase⟩, ⟨6, .phase⟩, ⟨7, .phase⟩, ⟨8, .phase⟩, ⟨9, .phase⟩, ⟨10, .phase⟩, ⟨11, .phase⟩, ⟨12, .phase⟩, ⟨13, .phase⟩], none⟩) rfl (fun K hK => ?_) AllReadyH.nil
  go_simp
  refine hK.out _ _ (hHeld) (fun hHeld => ?_)
  clear hK K
  try simp only [zP, zQ, zS, zZ, zC]
  refine wpAnyH_done (by kernel_rfl) ?_ _
  have BX := hHeld
  clear hHeld 
  go_wp2
  go_ret
  exact ⟨rfl, BX⟩
set_option maxHeartbeats 4000000 in
set_option maxRecDepth 100000 in
theorem exchanged_any (s : ByteArray) (hs : s.size ≤ 1000) (k : Nat) (hk : k + 1 < s.size) (w : World) :
    Calls Try.prog 30 #[.string s, .int .i64 (k : Int)] w (StB (s.extract 0 k ++ s.extract (k + 1) (k + 2) ++ s.extract k (k + 1) ++ s.extract (k + 2) s.size) w) := by
  obtain ⟨K2, hK2⟩ : ∃ K2, k + 2 = K2 := ⟨_, rfl⟩
  obtain ⟨K1, hK1⟩ : ∃ K1, k + 1 = K1 := ⟨_, rfl⟩
  have z1 : (k : Int) + 2 = (K2 : Int) := by omega
  have z2 : (k : Int) + 1 = (K1 : Int) := by omega
  have z3 : ¬ (K2 : Int) < 0 := by omega
  have z4 : ¬ (k : Int) < 0 := by omega
  have z5 : (K1 : Int) ≤ (K2 : Int) := by omega
  have z6 : (k : Int) ≤ (K1 : Int) := by omega
  have z7 : K1 ≤ s.size := by omega
  have z8 : k ≤ s.size := by omega
  have z14 : K2 ≤ s.size := by omega
  have z9 : (k : Int) ≤ (s.size : Int) := by omega
  have z10 : (K1 : Int) ≤ (s.size : Int) := by omega
  have z13 : (K2 : Int) ≤ (s.size : Int) := by omega
  have z11 : ¬ (K1 : Int) < 0 := by omega
  have HC1 := Lib.hid (show ¬ 9223372036854775807 < min k s.size + (min K2 s.size - K1) by omega)
  have HC2 := Lib.hid (show ¬ 9223372036854775807 < min k s.size + (min K2 s.size - K1) + (min K1 s.size - k) by omega)
  have HC3 := Lib.hid (show ¬ 9223372036854775807 < min k s.size + (min K2 s.size - K1) + (min K1 s.size - k) + (s.size - K2) by omega)
  rw [hK1, hK2]
  clear hK2 hK1 hk
  go_enter Try.func30, Try.ntmps30
  go_upto_region 1 with (fail)
  refine wp_region_held_drew (S := fun w' => Below w.heap.size w w') (by kernel_rfl) (below_drew (Below.refl _ _)) (fun _ => ?_)
  have hHeld : Below w.heap.size w w.drew := below_drew (Below.refl _ _)
  generalize w.drew = V0 at hHeld ⊢
  refine wt (i := 0) (oi := ⟨some 5, .move (.tmp 0), 9, "ref.go:194", #[], none⟩) (v := .string (s)) (Or.inl ⟨by rfl, fun w' hSw => by go_simp⟩) hHeld ?_
  try simp only [zP, zQ, zS, zZ, zC]
  refine wt (i := 1) (oi := ⟨some 6, .move (.tmp 1), 3, "ref.go:194", #[], none⟩) (v := .int .i64 (k : Int)) (Or.inl ⟨by rfl, fun w' hSw => by go_simp⟩) hHeld ?_
  try simp only [zP, zQ, zS, zZ, zC]
  refine wt (i := 2) (oi := ⟨some 7, .slice 9 (.tmp 5) none (some (.tmp 6)) none, 9, "ref.go:194", #[⟨0, .data⟩, ⟨1, .data⟩], none⟩) (v := .string (s.extract 0 k)) (Or.inl ⟨by rfl, fun w' hSw => by go_simp⟩) hHeld ?_
  try simp only [zP, zQ, zS, zZ, zC]
  refine wt (i := 3) (oi := ⟨some 8, .move (.tmp 0), 9, "ref.go:194", #[], none⟩) (v := .string (s)) (Or.inl ⟨by rfl, fun w' hSw => by go_simp⟩) hHeld ?_
  try simp only [zP, zQ, zS, zZ, zC]
  refine wt (i := 4) (oi := ⟨some 9, .move (.tmp 1), 3, "ref.go:194", #[], none⟩) (v := .int .i64 (k : Int)) (Or.inl ⟨by rfl, fun w' hSw => by go_simp⟩) hHeld ?_
  try simp only [zP, zQ, zS, zZ, zC]
  refine wt (i := 5) (oi := ⟨some 10, .binOp .add 3 (.tmp 9) (.const (Value.int IntKind.i64 1)) 3, 3, "ref.go:194", #[⟨4, .data⟩], none⟩) (v := .int .i64 (K1 : Int)) (Or.inl ⟨by rfl, fun w' hSw => by go_simp; first | done | exact wrap_in (by omega) (by omega) | omega⟩) hHeld ?_
  try simp only [zP, zQ, zS, zZ, zC]
  refine wt (i := 6) (oi := ⟨some 11, .move (.tmp 1), 3, "ref.go:194", #[], none⟩) (v := .int .i64 (k : Int)) (Or.inl ⟨by rfl, fun w' hSw => by go_simp⟩) hHeld ?_
  try simp only [zP, zQ, zS, zZ, zC]
  refine wt (i := 7) (oi := ⟨some 12, .binOp .add 3 (.tmp 11) (.const (Value.int IntKind.i64 2)) 3, 3, "ref.go:194", #[⟨6, .data⟩], none⟩) (v := .int .i64 (K2 : Int)) (Or.inl ⟨by rfl, fun w' hSw => by go_simp; first | done | exact wrap_in (by omega) (by omega) | omega⟩) hHeld ?_
  try simp only [zP, zQ, zS, zZ, zC]
  refine wt (i := 8) (oi := ⟨some 13, .slice 9 (.tmp 8) (some (.tmp 10)) (some (.tmp 12)) none, 9, "ref.go:194", #[⟨3, .data⟩, ⟨5, .data⟩, ⟨7, .data⟩], none⟩) (v := .string (s.extract K1 K2)) (Or.inl ⟨by rfl, fun w' hSw => by go_simp⟩) hHeld ?_
  try simp only [zP, zQ, zS, zZ, zC]
  refine wt (i := 9) (oi := ⟨some 14, .binOp .add 9 (.tmp 7) (.tmp 13) 9, 9, "ref.go:194", #[⟨2, .data⟩, ⟨8, .data⟩], none⟩) (v := .string (s.extract 0 k ++ s.extract K1 K2)) (Or.inl ⟨by rfl, fun w' hSw => by go_simp; first | done | exact wrap_in (by omega) (by omega) | omega⟩) hHeld ?_
  try simp only [zP, zQ, zS, zZ, zC]
  refine wt (i := 10) (oi := ⟨some 15, .move (.tmp 0), 9, "ref.go:194", #[], none⟩) (v := .string (s)) (Or.inl ⟨by rfl, fun w' hSw => by go_simp⟩) hHeld ?_
  try simp only [zP, zQ, zS, zZ, zC]
  refine wt (i := 11) (oi := ⟨some 16, .move (.tmp 1), 3, "ref.go:194", #[], none⟩) (v := .int .i64 (k : Int)) (Or.inl ⟨by rfl, fun w' hSw => by go_simp⟩) hHeld ?_
  try simp only [zP, zQ, zS, zZ, zC]
  refine wt (i := 12) (oi := ⟨some 17, .move (.tmp 1), 3, "ref.go:194", #[], none⟩) (v := .int .i64 (k : Int)) (Or.inl ⟨by rfl, fun w' hSw => by go_simp⟩) hHeld ?_
  try simp only [zP, zQ, zS, zZ, zC]
  refine wt (i := 13) (oi := ⟨some 18, .binOp .add 3 (.tmp 17) (.const (Value.int IntKind.i64 1)) 3, 3, "ref.go:194", #[⟨12, .data⟩], none⟩) (v := .int .i64 (K1 : Int)) (Or.inl ⟨by rfl, fun w' hSw => by go_simp; first | done | exact wrap_in (by omega) (by omega) | omega⟩) hHeld ?_
  try simp only [zP, zQ, zS, zZ, zC]
  refine wt (i := 14) (oi := ⟨some 19, .slice 9 (.tmp 15) (some (.tmp 16)) (some (.tmp 18)) none, 9, "ref.go:194", #[⟨10, .data⟩, ⟨11, .data⟩, ⟨13, .data⟩], none⟩) (v := .string (s.extract k K1)) (Or.inl ⟨by rfl, fun w' hSw => by go_simp⟩) hHeld ?_
  try simp only [zP, zQ, zS, zZ, zC]
  refine wt (i := 15) (oi := ⟨some 20, .binOp .add 9 (.tmp 14) (.tmp 19) 9, 9, "ref.go:194", #[⟨9, .data⟩, ⟨14, .data⟩], none⟩) (v := .string (s.extract 0 k ++ s.extract K1 K2 ++ s.extract k K1)) (Or.inl ⟨by rfl, fun w' hSw => by go_simp; first | done | exact wrap_in (by omega) (by omega) | omega⟩) hHeld ?_
  try simp only [zP, zQ, zS, zZ, zC]
  refine wt (i := 16) (oi := ⟨some 21, .move (.tmp 0), 9, "ref.go:194", #[], none⟩) (v := .string (s)) (Or.inl ⟨by rfl, fun w' hSw => by go_simp⟩) hHeld ?_
  try simp only [zP, zQ, zS, zZ, zC]
  refine wt (i := 17) (oi := ⟨some 22, .move (.tmp 1), 3, "ref.go:194", #[], none⟩) (v := .int .i64 (k : Int)) (Or.inl ⟨by rfl, fun w' hSw => by go_simp⟩) hHeld ?_
  try simp only [zP, zQ, zS, zZ, zC]
  refine wt (i := 18) (oi := ⟨some 23, .binOp .add 3 (.tmp 22) (.const (Value.int IntKind.i64 2)) 3, 3, "ref.go:194", #[⟨17, .data⟩], none⟩) (v := .int .i64 (K2 : Int)) (Or.inl ⟨by rfl, fun w' hSw => by go_simp; first | done | exact wrap_in (by omega) (by omega) | omega⟩) hHeld ?_
  try simp only [zP, zQ, zS, zZ, zC]
  refine wt (i := 19) (oi := ⟨some 24, .slice 9 (.tmp 21) (some (.tmp 23)) none none, 9, "ref.go:194", #[⟨16, .data⟩, ⟨18, .data⟩], none⟩) (v := .string (s.extract K2 s.size)) (Or.inl ⟨by rfl, fun w' hSw => by go_simp⟩) hHeld ?_
  try simp only [zP, zQ, zS, zZ, zC]
  refine wt (i := 20) (oi := ⟨some 25, .binOp .add 9 (.tmp 20) (.tmp 24) 9, 9, "ref.go:194", #[⟨15, .data⟩, ⟨19, .data⟩], none⟩) (v := .string (s.extract 0 k ++ s.extract K1 K2 ++ s.extract k K1 ++ s.extract K2 s.size)) (Or.inl ⟨by rfl, fun w' hSw => by go_simp; first | done | exact wrap_in (by omega) (by omega) | omega⟩) hHeld ?_
  try simp only [zP, zQ, zS, zZ, zC]
  refine wpAnyH_ready (rs := [21]) (by kernel_rfl) (by simp) ?_
  refine AllReadyH.cons (o := ⟨some 4, .assign (.tmp 25), 9, "ref.go:194", #[⟨20, .data⟩, ⟨0, .phase⟩, ⟨1, .phase⟩, ⟨2, .phase⟩, ⟨3, .phase⟩, ⟨4, .phase⟩, ⟨5, .phase⟩, ⟨6, .phase⟩, ⟨7, .phase⟩, ⟨8, .phase⟩, ⟨9, .phase⟩, ⟨10, .phase⟩, ⟨11, .phase⟩, ⟨12, .phase⟩, ⟨13, .phase⟩, ⟨14, .phase⟩, ⟨15, .phase⟩, ⟨16, .phase⟩, ⟨17, .phase⟩, ⟨18, .phase⟩, ⟨19, .phase⟩, ⟨20, .phase⟩], none⟩) rfl (fun K hK => ?_) AllReadyH.nil
  go_simp
  refine hK.out _ _ (hHeld) (fun hHeld => ?_)
  clear hK K
  try simp only [zP, zQ, zS, zZ, zC]
  refine wpAnyH_done (by kernel_rfl) ?_ _
  have BX := hHeld
  clear hHeld 
  go_wp2
  go_ret
  exact ⟨rfl, BX⟩
end Go.Proofs.Ytjpiidfoegaenaa
