/-
  The law's shifted, where it says yes.
-/
import Derived.Test.YtehkgpefmjfifaaLk
import Derived.Test.YtehkgpefmjfifaaMo
namespace Go.Proofs.Ytehkgpefmjfifaa
open Go.RowKit
set_option linter.unusedVariables false
set_option linter.unusedSimpArgs false

theorem wrapI_in {x : Int} (h1 : -1000000000 ≤ x) (h2 : x ≤ 1000000000) : IntKind.i64.wrap x = x := by simp [IntKind.wrap, IntKind.signed, IntKind.bits]; omega
set_option maxHeartbeats 8000000 in
set_option maxRecDepth 100000 in
theorem shifted_yes (la lb : List Int) (ql qa qb : Option Addr) (na nb m cl ca cb : Nat) (hm : na + nb = m) (hla : la.length = na) (hlb : lb.length = nb) (n : Int) (hn1 : 0 ≤ n) (hn2 : n ≤ 1000000) (ha9 : na ≤ 1000000) (hb9 : nb ≤ 1000000) (hx : ∀ x ∈ lb, 0 ≤ x ∧ x ≤ 1000000)
    (w : World) (hL : At intE w ql (la ++ lb.map (· + n))) (hA : At intE w qa la) (hBb : At intE w qb lb) :
    Calls Try.prog 38 #[.slice ql m cl, .slice qa na ca, .slice qb nb cb, .int .i64 n] w (Told w true) := by
  have HLA := Lib.hid hla
  have HLB := Lib.hid hlb
  have HX := Lib.hid hx
  have HLL := Lib.hid (show (la ++ lb.map (· + n)).length = m from by rw [List.length_append, List.length_map, hla, hlb, hm])
  clear hla hlb hx
  have hs1 : (na : Int) + (nb : Int) = (m : Int) := by omega
  have hm9 : m ≤ 2000000 := by omega
  have HMM := Lib.hid hm
  clear hm
  go_enter Try.func38, Try.ntmps38
  go_wp2
  go_loopw [9] (fun v wr => NumRel w m v wr) (fun v _ => m - (intOf v).toNat)
  case atStart => exact ⟨0, Nat.zero_le _, rfl, Below.refl _ _⟩
  case round =>
    obtain ⟨i, hi, rfl, hB⟩ := hrel
    clear hs1
    rcases Nat.lt_or_ge i m with hlt | hge
    · obtain ⟨bl, ol, rfl, hl⟩ := hL.get (i := i) (by rw [HLL.out]; exact hlt)
      have hmm := HMM.out
      rcases Nat.lt_or_ge i na with hlo | hlo
      · obtain ⟨x, hxa⟩ : ∃ x, la[i]? = some x := ⟨_, List.getElem?_eq_getElem (by rw [HLA.out]; exact hlo)⟩
        obtain ⟨ba, oa, rfl, hla⟩ := hA.get (i := i) (by rw [HLA.out]; exact hlo)
        have C0 : ∀ w', Below w.heap.size w w' → w'.cell? ⟨bl, ol + i, none⟩ = some (.int .i64 x) := fun w' h => (h.cell (p := ⟨bl, ol + i, none⟩) hl.1).trans (by have := hl.2 i x 0 _ (by rw [List.getElem?_append_left (by rw [HLA.out]; exact hlo), hxa]) rfl; rwa [show intE.k = 1 from rfl, Nat.mul_one, Nat.add_zero] at this)
        have C1 : ∀ w', Below w.heap.size w w' → w'.cell? ⟨ba, oa + i, none⟩ = some (.int .i64 x) := fun w' h => (h.cell (p := ⟨ba, oa + i, none⟩) hla.1).trans (by have := hla.2 i x 0 _ hxa rfl; rwa [show intE.k = 1 from rfl, Nat.mul_one, Nat.add_zero] at this)
        clear hl hla hxa hL hA hBb hmm
        go_upto_region 6 with (fail)
        refine wp_region_held_drew (S := fun w' => Below w.heap.size w w') (by kernel_rfl) (below_drew (hB)) (fun _ => ?_)
        have hHeld : Below w.heap.size w wr.drew := below_drew (hB)
        generalize wr.drew = V0 at hHeld ⊢
        refine wt (i := 0) (oi := ⟨some 24, .move (.tmp 9), 3, "law.go:154", #[], none⟩) (v := .int .i64 (i : Int)) (Or.inl ⟨by rfl, fun w' hSw => by go_simp⟩) hHeld ?_
        try simp only [zP, zQ, zS, zZ, zC]
        refine wt (i := 1) (oi := ⟨some 25, .move (.tmp 1), 22, "law.go:154", #[], none⟩) (v := .slice (some ⟨ba, oa, none⟩) na ca) (Or.inl ⟨by rfl, fun w' hSw => by go_simp⟩) hHeld ?_
        try simp only [zP, zQ, zS, zZ, zC]
        refine wt (i := 2) (oi := ⟨some 26, .call { callee := .builtin .len, args := #[.tmp 25], argTypes := #[22] }, 3, "law.go:154", #[⟨1, .data⟩], none⟩) (v := .int .i64 (na : Int)) (Or.inl ⟨by rfl, fun w' hSw => by go_simp⟩) hHeld ?_
        try simp only [zP, zQ, zS, zZ, zC]
        refine wt (i := 3) (oi := ⟨some 27, .binOp .lss 3 (.tmp 24) (.tmp 26) 3, 4, "law.go:154", #[⟨0, .data⟩, ⟨2, .data⟩], none⟩) (v := .bool true) (Or.inl ⟨by rfl, fun w' hSw => by go_simp⟩) hHeld ?_
        try simp only [zP, zQ, zS, zZ, zC]
        refine wt (i := 4) (oi := ⟨some 28, .move (.tmp 27), 4, "law.go:154", #[⟨3, .data⟩], none⟩) (v := .bool true) (Or.inl ⟨by rfl, fun w' hSw => by go_simp⟩) hHeld ?_
        try simp only [zP, zQ, zS, zZ, zC]
        refine wt (i := 5) (oi := ⟨some 29, .move (.tmp 0), 22, "law.go:154", #[⟨4, .guard⟩], some (4, true)⟩) (v := .slice (some ⟨bl, ol, none⟩) m cl) (Or.inl ⟨by rfl, fun w' hSw => by go_simp⟩) hHeld ?_
        try simp only [zP, zQ, zS, zZ, zC]
        refine wt (i := 6) (oi := ⟨some 30, .move (.tmp 9), 3, "law.go:154", #[⟨4, .guard⟩], some (4, true)⟩) (v := .int .i64 (i : Int)) (Or.inl ⟨by rfl, fun w' hSw => by go_simp⟩) hHeld ?_
        try simp only [zP, zQ, zS, zZ, zC]
        refine wt (i := 7) (oi := ⟨some 31, .indexAddr 22 (.tmp 29) (.tmp 30), 0, "law.go:154", #[⟨5, .data⟩, ⟨6, .data⟩, ⟨4, .guard⟩], some (4, true)⟩) (v := .pointer (some ⟨bl, ol + i, none⟩)) (Or.inl ⟨by rfl, fun w' hSw => by go_simp; try (intro hcm; exact absurd hcm (by omega))⟩) hHeld ?_
        try simp only [zP, zQ, zS, zZ, zC]
        refine wt (i := 8) (oi := ⟨some 32, .load 3 (.tmp 31), 3, "law.go:154", #[⟨7, .data⟩, ⟨4, .guard⟩], some (4, true)⟩) (v := .int .i64 x) (Or.inl ⟨by rfl, fun w' hSw => by have hc := C0 w' hSw; go_simp⟩) hHeld ?_
        try simp only [zP, zQ, zS, zZ, zC]
        refine wt (i := 9) (oi := ⟨some 33, .move (.tmp 1), 22, "law.go:154", #[⟨4, .guard⟩], some (4, true)⟩) (v := .slice (some ⟨ba, oa, none⟩) na ca) (Or.inl ⟨by rfl, fun w' hSw => by go_simp⟩) hHeld ?_
        try simp only [zP, zQ, zS, zZ, zC]
        refine wt (i := 10) (oi := ⟨some 34, .move (.tmp 9), 3, "law.go:154", #[⟨4, .guard⟩], some (4, true)⟩) (v := .int .i64 (i : Int)) (Or.inl ⟨by rfl, fun w' hSw => by go_simp⟩) hHeld ?_
        try simp only [zP, zQ, zS, zZ, zC]
        refine wt (i := 11) (oi := ⟨some 35, .indexAddr 22 (.tmp 33) (.tmp 34), 0, "law.go:154", #[⟨9, .data⟩, ⟨10, .data⟩, ⟨4, .guard⟩], some (4, true)⟩) (v := .pointer (some ⟨ba, oa + i, none⟩)) (Or.inl ⟨by rfl, fun w' hSw => by go_simp; try (intro hcm; exact absurd hcm (by omega))⟩) hHeld ?_
        try simp only [zP, zQ, zS, zZ, zC]
        refine wt (i := 12) (oi := ⟨some 36, .load 3 (.tmp 35), 3, "law.go:154", #[⟨11, .data⟩, ⟨4, .guard⟩], some (4, true)⟩) (v := .int .i64 x) (Or.inl ⟨by rfl, fun w' hSw => by have hc := C1 w' hSw; go_simp⟩) hHeld ?_
        try simp only [zP, zQ, zS, zZ, zC]
        refine wt (i := 13) (oi := ⟨some 37, .binOp .neq 3 (.tmp 32) (.tmp 36) 3, 4, "law.go:154", #[⟨8, .data⟩, ⟨12, .data⟩, ⟨4, .guard⟩], some (4, true)⟩) (v := .bool false) (Or.inl ⟨by rfl, fun w' hSw => by go_simp⟩) hHeld ?_
        try simp only [zP, zQ, zS, zZ, zC]
        refine wt (i := 14) (oi := ⟨some 38, .pick (.tmp 28) (.tmp 37) (.const (Value.bool false)), 4, "law.go:154", #[⟨4, .data⟩, ⟨13, .data⟩], none⟩) (v := .bool false) (Or.inl ⟨by rfl, fun w' hSw => by go_simp⟩) hHeld ?_
        try simp only [zP, zQ, zS, zZ, zC]
        refine wt (i := 15) (oi := ⟨some 39, .move (.tmp 38), 4, "law.go:154", #[⟨14, .data⟩, ⟨4, .chain⟩], none⟩) (v := .bool false) (Or.inl ⟨by rfl, fun w' hSw => by go_simp⟩) hHeld ?_
        try simp only [zP, zQ, zS, zZ, zC]
        refine wt (i := 16) (oi := ⟨some 40, .move (.tmp 9), 3, "law.go:154", #[⟨15, .guard⟩], some (15, false)⟩) (v := .int .i64 (i : Int)) (Or.inl ⟨by rfl, fun w' hSw => by go_simp⟩) hHeld ?_
        try simp only [zP, zQ, zS, zZ, zC]
        refine wt (i := 17) (oi := ⟨some 41, .move (.tmp 1), 22, "law.go:154", #[⟨15, .guard⟩], some (15, false)⟩) (v := .slice (some ⟨ba, oa, none⟩) na ca) (Or.inl ⟨by rfl, fun w' hSw => by go_simp⟩) hHeld ?_
        try simp only [zP, zQ, zS, zZ, zC]
        refine wt (i := 18) (oi := ⟨some 42, .call { callee := .builtin .len, args := #[.tmp 41], argTypes := #[22] }, 3, "law.go:154", #[⟨17, .data⟩, ⟨15, .guard⟩], some (15, false)⟩) (v := .int .i64 (na : Int)) (Or.inl ⟨by rfl, fun w' hSw => by go_simp⟩) hHeld ?_
        try simp only [zP, zQ, zS, zZ, zC]
        refine wt (i := 19) (oi := ⟨some 43, .binOp .geq 3 (.tmp 40) (.tmp 42) 3, 4, "law.go:154", #[⟨16, .data⟩, ⟨18, .data⟩, ⟨15, .guard⟩], some (15, false)⟩) (v := .bool false) (Or.inl ⟨by rfl, fun w' hSw => by go_simp⟩) hHeld ?_
        try simp only [zP, zQ, zS, zZ, zC]
        refine wt (i := 20) (oi := ⟨some 44, .move (.tmp 43), 4, "law.go:154", #[⟨19, .data⟩, ⟨15, .chain⟩, ⟨15, .guard⟩], some (15, false)⟩) (v := .bool false) (Or.inl ⟨by rfl, fun w' hSw => by go_simp⟩) hHeld ?_
        try simp only [zP, zQ, zS, zZ, zC]
        refine wt (i := 21) (oi := ⟨some 45, .move (.tmp 0), 22, "law.go:154", #[⟨20, .guard⟩], some (20, true)⟩) (v := undef) (Or.inr ⟨by rfl, rfl⟩) hHeld ?_
        try simp only [zP, zQ, zS, zZ, zC]
        refine wt (i := 22) (oi := ⟨some 46, .move (.tmp 9), 3, "law.go:154", #[⟨20, .guard⟩], some (20, true)⟩) (v := undef) (Or.inr ⟨by rfl, rfl⟩) hHeld ?_
        try simp only [zP, zQ, zS, zZ, zC]
        refine wt (i := 23) (oi := ⟨some 47, .indexAddr 22 (.tmp 45) (.tmp 46), 0, "law.go:154", #[⟨21, .data⟩, ⟨22, .data⟩, ⟨20, .guard⟩], some (20, true)⟩) (v := undef) (Or.inr ⟨by rfl, rfl⟩) hHeld ?_
        try simp only [zP, zQ, zS, zZ, zC]
        refine wt (i := 24) (oi := ⟨some 48, .load 3 (.tmp 47), 3, "law.go:154", #[⟨23, .data⟩, ⟨20, .guard⟩], some (20, true)⟩) (v := undef) (Or.inr ⟨by rfl, rfl⟩) hHeld ?_
        try simp only [zP, zQ, zS, zZ, zC]
        refine wt (i := 25) (oi := ⟨some 49, .move (.tmp 2), 22, "law.go:154", #[⟨20, .guard⟩], some (20, true)⟩) (v := undef) (Or.inr ⟨by rfl, rfl⟩) hHeld ?_
        try simp only [zP, zQ, zS, zZ, zC]
        refine wt (i := 26) (oi := ⟨some 50, .move (.tmp 9), 3, "law.go:154", #[⟨20, .guard⟩], some (20, true)⟩) (v := undef) (Or.inr ⟨by rfl, rfl⟩) hHeld ?_
        try simp only [zP, zQ, zS, zZ, zC]
        refine wt (i := 27) (oi := ⟨some 51, .move (.tmp 1), 22, "law.go:154", #[⟨20, .guard⟩], some (20, true)⟩) (v := undef) (Or.inr ⟨by rfl, rfl⟩) hHeld ?_
        try simp only [zP, zQ, zS, zZ, zC]
        refine wt (i := 28) (oi := ⟨some 52, .call { callee := .builtin .len, args := #[.tmp 51], argTypes := #[22] }, 3, "law.go:154", #[⟨27, .data⟩, ⟨20, .guard⟩], some (20, true)⟩) (v := undef) (Or.inr ⟨by rfl, rfl⟩) hHeld ?_
        try simp only [zP, zQ, zS, zZ, zC]
        refine wt (i := 29) (oi := ⟨some 53, .binOp .sub 3 (.tmp 50) (.tmp 52) 3, 3, "law.go:154", #[⟨26, .data⟩, ⟨28, .data⟩, ⟨20, .guard⟩], some (20, true)⟩) (v := undef) (Or.inr ⟨by rfl, rfl⟩) hHeld ?_
        try simp only [zP, zQ, zS, zZ, zC]
        refine wt (i := 30) (oi := ⟨some 54, .indexAddr 22 (.tmp 49) (.tmp 53), 0, "law.go:154", #[⟨25, .data⟩, ⟨29, .data⟩, ⟨20, .guard⟩], some (20, true)⟩) (v := undef) (Or.inr ⟨by rfl, rfl⟩) hHeld ?_
        try simp only [zP, zQ, zS, zZ, zC]
        refine wt (i := 31) (oi := ⟨some 55, .load 3 (.tmp 54), 3, "law.go:154", #[⟨30, .data⟩, ⟨20, .guard⟩], some (20, true)⟩) (v := undef) (Or.inr ⟨by rfl, rfl⟩) hHeld ?_
        try simp only [zP, zQ, zS, zZ, zC]
        refine wt (i := 32) (oi := ⟨some 56, .move (.tmp 3), 3, "law.go:154", #[⟨20, .guard⟩], some (20, true)⟩) (v := undef) (Or.inr ⟨by rfl, rfl⟩) hHeld ?_
        try simp only [zP, zQ, zS, zZ, zC]
        refine wt (i := 33) (oi := ⟨some 57, .binOp .add 3 (.tmp 55) (.tmp 56) 3, 3, "law.go:154", #[⟨31, .data⟩, ⟨32, .data⟩, ⟨20, .guard⟩], some (20, true)⟩) (v := undef) (Or.inr ⟨by rfl, rfl⟩) hHeld ?_
        try simp only [zP, zQ, zS, zZ, zC]
        refine wt (i := 34) (oi := ⟨some 58, .binOp .neq 3 (.tmp 48) (.tmp 57) 3, 4, "law.go:154", #[⟨24, .data⟩, ⟨33, .data⟩, ⟨20, .guard⟩], some (20, true)⟩) (v := undef) (Or.inr ⟨by rfl, rfl⟩) hHeld ?_
        try simp only [zP, zQ, zS, zZ, zC]
        refine wt (i := 35) (oi := ⟨some 59, .pick (.tmp 44) (.tmp 58) (.const (Value.bool false)), 4, "law.go:154", #[⟨20, .data⟩, ⟨34, .data⟩, ⟨15, .guard⟩], some (15, false)⟩) (v := .bool false) (Or.inl ⟨by rfl, fun w' hSw => by go_simp⟩) hHeld ?_
        try simp only [zP, zQ, zS, zZ, zC]
        refine wt (i := 36) (oi := ⟨some 60, .pick (.tmp 39) (.const (Value.bool true)) (.tmp 59), 4, "law.go:154", #[⟨15, .data⟩, ⟨35, .data⟩], none⟩) (v := .bool false) (Or.inl ⟨by rfl, fun w' hSw => by go_simp⟩) hHeld ?_
        try simp only [zP, zQ, zS, zZ, zC]
        refine wpAnyH_done (by kernel_rfl) ?_ _
        have BX := hHeld
        clear hHeld 
        clear C0 C1
        go_wp2
        exact ⟨⟨i + 1, by omega, by go_num, BX⟩, by simp [intOf]; omega⟩
      · obtain ⟨i1, rfl⟩ : ∃ i1, i = na + i1 := ⟨i - na, by omega⟩
        obtain ⟨x, hxb⟩ : ∃ x, lb[i1]? = some x := ⟨_, List.getElem?_eq_getElem (by rw [HLB.out]; omega)⟩
        obtain ⟨hx1, hx2⟩ := HX.out x (List.mem_of_getElem? hxb)
        obtain ⟨bb, ob, rfl, hlb⟩ := hBb.get (i := i1) (by rw [HLB.out]; omega)
        obtain ⟨i, hie⟩ : ∃ i, na + i1 = i := ⟨_, rfl⟩
        have hxi : (la ++ lb.map (· + n))[na + i1]? = some (x + n) := by rw [List.getElem?_append_right (by rw [HLA.out]; omega), HLA.out, Nat.add_sub_cancel_left, List.getElem?_map, hxb]; rfl
        rw [hie] at hlt hi hlo hxi ⊢
        have hi1b : i1 < nb := by omega
        have HI := Lib.hid (show (i : Int) - (na : Int) = (i1 : Int) from by omega)
        have HW1 := Lib.hid (wrapI_in (x := (i1 : Int)) (by omega) (by omega))
        have HW2 := Lib.hid (wrapI_in (x := x + n) (by omega) (by omega))
        have C0 : ∀ w', Below w.heap.size w w' → w'.cell? ⟨bl, ol + i, none⟩ = some (.int .i64 (x + n)) := fun w' h => (h.cell (p := ⟨bl, ol + i, none⟩) hl.1).trans (by have := hl.2 i (x + n) 0 _ hxi rfl; rwa [show intE.k = 1 from rfl, Nat.mul_one, Nat.add_zero] at this)
        have C1 : ∀ w', Below w.heap.size w w' → w'.cell? ⟨bb, ob + i1, none⟩ = some (.int .i64 x) := fun w' h => (h.cell (p := ⟨bb, ob + i1, none⟩) hlb.1).trans (by have := hlb.2 i1 x 0 _ hxb rfl; rwa [show intE.k = 1 from rfl, Nat.mul_one, Nat.add_zero] at this)
        clear hl hlb hxb hxi hL hA hBb hie hmm
        have hlo2 : ¬ i < na := by omega
        go_upto_region 6 with (fail)
        refine wp_region_held_drew (S := fun w' => Below w.heap.size w w') (by kernel_rfl) (below_drew (hB)) (fun _ => ?_)
        have hHeld : Below w.heap.size w wr.drew := below_drew (hB)
        generalize wr.drew = V0 at hHeld ⊢
        refine wt (i := 0) (oi := ⟨some 24, .move (.tmp 9), 3, "law.go:154", #[], none⟩) (v := .int .i64 (i : Int)) (Or.inl ⟨by rfl, fun w' hSw => by go_simp⟩) hHeld ?_
        try simp only [zP, zQ, zS, zZ, zC]
        refine wt (i := 1) (oi := ⟨some 25, .move (.tmp 1), 22, "law.go:154", #[], none⟩) (v := .slice qa na ca) (Or.inl ⟨by rfl, fun w' hSw => by go_simp⟩) hHeld ?_
        try simp only [zP, zQ, zS, zZ, zC]
        refine wt (i := 2) (oi := ⟨some 26, .call { callee := .builtin .len, args := #[.tmp 25], argTypes := #[22] }, 3, "law.go:154", #[⟨1, .data⟩], none⟩) (v := .int .i64 (na : Int)) (Or.inl ⟨by rfl, fun w' hSw => by go_simp⟩) hHeld ?_
        try simp only [zP, zQ, zS, zZ, zC]
        refine wt (i := 3) (oi := ⟨some 27, .binOp .lss 3 (.tmp 24) (.tmp 26) 3, 4, "law.go:154", #[⟨0, .data⟩, ⟨2, .data⟩], none⟩) (v := .bool false) (Or.inl ⟨by rfl, fun w' hSw => by go_simp⟩) hHeld ?_
        try simp only [zP, zQ, zS, zZ, zC]
        refine wt (i := 4) (oi := ⟨some 28, .move (.tmp 27), 4, "law.go:154", #[⟨3, .data⟩], none⟩) (v := .bool false) (Or.inl ⟨by rfl, fun w' hSw => by go_simp⟩) hHeld ?_
        try simp only [zP, zQ, zS, zZ, zC]
        refine wt (i := 5) (oi := ⟨some 29, .move (.tmp 0), 22, "law.go:154", #[⟨4, .guard⟩], some (4, true)⟩) (v := undef) (Or.inr ⟨by rfl, rfl⟩) hHeld ?_
        try simp only [zP, zQ, zS, zZ, zC]
        refine wt (i := 6) (oi := ⟨some 30, .move (.tmp 9), 3, "law.go:154", #[⟨4, .guard⟩], some (4, true)⟩) (v := undef) (Or.inr ⟨by rfl, rfl⟩) hHeld ?_
        try simp only [zP, zQ, zS, zZ, zC]
        refine wt (i := 7) (oi := ⟨some 31, .indexAddr 22 (.tmp 29) (.tmp 30), 0, "law.go:154", #[⟨5, .data⟩, ⟨6, .data⟩, ⟨4, .guard⟩], some (4, true)⟩) (v := undef) (Or.inr ⟨by rfl, rfl⟩) hHeld ?_
        try simp only [zP, zQ, zS, zZ, zC]
        refine wt (i := 8) (oi := ⟨some 32, .load 3 (.tmp 31), 3, "law.go:154", #[⟨7, .data⟩, ⟨4, .guard⟩], some (4, true)⟩) (v := undef) (Or.inr ⟨by rfl, rfl⟩) hHeld ?_
        try simp only [zP, zQ, zS, zZ, zC]
        refine wt (i := 9) (oi := ⟨some 33, .move (.tmp 1), 22, "law.go:154", #[⟨4, .guard⟩], some (4, true)⟩) (v := undef) (Or.inr ⟨by rfl, rfl⟩) hHeld ?_
        try simp only [zP, zQ, zS, zZ, zC]
        refine wt (i := 10) (oi := ⟨some 34, .move (.tmp 9), 3, "law.go:154", #[⟨4, .guard⟩], some (4, true)⟩) (v := undef) (Or.inr ⟨by rfl, rfl⟩) hHeld ?_
        try simp only [zP, zQ, zS, zZ, zC]
        refine wt (i := 11) (oi := ⟨some 35, .indexAddr 22 (.tmp 33) (.tmp 34), 0, "law.go:154", #[⟨9, .data⟩, ⟨10, .data⟩, ⟨4, .guard⟩], some (4, true)⟩) (v := undef) (Or.inr ⟨by rfl, rfl⟩) hHeld ?_
        try simp only [zP, zQ, zS, zZ, zC]
        refine wt (i := 12) (oi := ⟨some 36, .load 3 (.tmp 35), 3, "law.go:154", #[⟨11, .data⟩, ⟨4, .guard⟩], some (4, true)⟩) (v := undef) (Or.inr ⟨by rfl, rfl⟩) hHeld ?_
        try simp only [zP, zQ, zS, zZ, zC]
        refine wt (i := 13) (oi := ⟨some 37, .binOp .neq 3 (.tmp 32) (.tmp 36) 3, 4, "law.go:154", #[⟨8, .data⟩, ⟨12, .data⟩, ⟨4, .guard⟩], some (4, true)⟩) (v := undef) (Or.inr ⟨by rfl, rfl⟩) hHeld ?_
        try simp only [zP, zQ, zS, zZ, zC]
        refine wt (i := 14) (oi := ⟨some 38, .pick (.tmp 28) (.tmp 37) (.const (Value.bool false)), 4, "law.go:154", #[⟨4, .data⟩, ⟨13, .data⟩], none⟩) (v := .bool false) (Or.inl ⟨by rfl, fun w' hSw => by go_simp⟩) hHeld ?_
        try simp only [zP, zQ, zS, zZ, zC]
        refine wt (i := 15) (oi := ⟨some 39, .move (.tmp 38), 4, "law.go:154", #[⟨14, .data⟩, ⟨4, .chain⟩], none⟩) (v := .bool false) (Or.inl ⟨by rfl, fun w' hSw => by go_simp⟩) hHeld ?_
        try simp only [zP, zQ, zS, zZ, zC]
        refine wt (i := 16) (oi := ⟨some 40, .move (.tmp 9), 3, "law.go:154", #[⟨15, .guard⟩], some (15, false)⟩) (v := .int .i64 (i : Int)) (Or.inl ⟨by rfl, fun w' hSw => by go_simp⟩) hHeld ?_
        try simp only [zP, zQ, zS, zZ, zC]
        refine wt (i := 17) (oi := ⟨some 41, .move (.tmp 1), 22, "law.go:154", #[⟨15, .guard⟩], some (15, false)⟩) (v := .slice qa na ca) (Or.inl ⟨by rfl, fun w' hSw => by go_simp⟩) hHeld ?_
        try simp only [zP, zQ, zS, zZ, zC]
        refine wt (i := 18) (oi := ⟨some 42, .call { callee := .builtin .len, args := #[.tmp 41], argTypes := #[22] }, 3, "law.go:154", #[⟨17, .data⟩, ⟨15, .guard⟩], some (15, false)⟩) (v := .int .i64 (na : Int)) (Or.inl ⟨by rfl, fun w' hSw => by go_simp⟩) hHeld ?_
        try simp only [zP, zQ, zS, zZ, zC]
        refine wt (i := 19) (oi := ⟨some 43, .binOp .geq 3 (.tmp 40) (.tmp 42) 3, 4, "law.go:154", #[⟨16, .data⟩, ⟨18, .data⟩, ⟨15, .guard⟩], some (15, false)⟩) (v := .bool true) (Or.inl ⟨by rfl, fun w' hSw => by go_simp⟩) hHeld ?_
        try simp only [zP, zQ, zS, zZ, zC]
        refine wt (i := 20) (oi := ⟨some 44, .move (.tmp 43), 4, "law.go:154", #[⟨19, .data⟩, ⟨15, .chain⟩, ⟨15, .guard⟩], some (15, false)⟩) (v := .bool true) (Or.inl ⟨by rfl, fun w' hSw => by go_simp⟩) hHeld ?_
        try simp only [zP, zQ, zS, zZ, zC]
        refine wt (i := 21) (oi := ⟨some 45, .move (.tmp 0), 22, "law.go:154", #[⟨20, .guard⟩], some (20, true)⟩) (v := .slice (some ⟨bl, ol, none⟩) m cl) (Or.inl ⟨by rfl, fun w' hSw => by go_simp⟩) hHeld ?_
        try simp only [zP, zQ, zS, zZ, zC]
        refine wt (i := 22) (oi := ⟨some 46, .move (.tmp 9), 3, "law.go:154", #[⟨20, .guard⟩], some (20, true)⟩) (v := .int .i64 (i : Int)) (Or.inl ⟨by rfl, fun w' hSw => by go_simp⟩) hHeld ?_
        try simp only [zP, zQ, zS, zZ, zC]
        refine wt (i := 23) (oi := ⟨some 47, .indexAddr 22 (.tmp 45) (.tmp 46), 0, "law.go:154", #[⟨21, .data⟩, ⟨22, .data⟩, ⟨20, .guard⟩], some (20, true)⟩) (v := .pointer (some ⟨bl, ol + i, none⟩)) (Or.inl ⟨by rfl, fun w' hSw => by go_simp; try (intro hcm; exact absurd hcm (by omega))⟩) hHeld ?_
        try simp only [zP, zQ, zS, zZ, zC]
        refine wt (i := 24) (oi := ⟨some 48, .load 3 (.tmp 47), 3, "law.go:154", #[⟨23, .data⟩, ⟨20, .guard⟩], some (20, true)⟩) (v := .int .i64 (x + n)) (Or.inl ⟨by rfl, fun w' hSw => by have hc := C0 w' hSw; go_simp⟩) hHeld ?_
        try simp only [zP, zQ, zS, zZ, zC]
        refine wt (i := 25) (oi := ⟨some 49, .move (.tmp 2), 22, "law.go:154", #[⟨20, .guard⟩], some (20, true)⟩) (v := .slice (some ⟨bb, ob, none⟩) nb cb) (Or.inl ⟨by rfl, fun w' hSw => by go_simp⟩) hHeld ?_
        try simp only [zP, zQ, zS, zZ, zC]
        refine wt (i := 26) (oi := ⟨some 50, .move (.tmp 9), 3, "law.go:154", #[⟨20, .guard⟩], some (20, true)⟩) (v := .int .i64 (i : Int)) (Or.inl ⟨by rfl, fun w' hSw => by go_simp⟩) hHeld ?_
        try simp only [zP, zQ, zS, zZ, zC]
        refine wt (i := 27) (oi := ⟨some 51, .move (.tmp 1), 22, "law.go:154", #[⟨20, .guard⟩], some (20, true)⟩) (v := .slice qa na ca) (Or.inl ⟨by rfl, fun w' hSw => by go_simp⟩) hHeld ?_
        try simp only [zP, zQ, zS, zZ, zC]
        refine wt (i := 28) (oi := ⟨some 52, .call { callee := .builtin .len, args := #[.tmp 51], argTypes := #[22] }, 3, "law.go:154", #[⟨27, .data⟩, ⟨20, .guard⟩], some (20, true)⟩) (v := .int .i64 (na : Int)) (Or.inl ⟨by rfl, fun w' hSw => by go_simp⟩) hHeld ?_
        try simp only [zP, zQ, zS, zZ, zC]
        refine wt (i := 29) (oi := ⟨some 53, .binOp .sub 3 (.tmp 50) (.tmp 52) 3, 3, "law.go:154", #[⟨26, .data⟩, ⟨28, .data⟩, ⟨20, .guard⟩], some (20, true)⟩) (v := .int .i64 (i1 : Int)) (Or.inl ⟨by rfl, fun w' hSw => by have hw := HI.out; have hw2 := HW1.out; go_simp⟩) hHeld ?_
        try simp only [zP, zQ, zS, zZ, zC]
        refine wt (i := 30) (oi := ⟨some 54, .indexAddr 22 (.tmp 49) (.tmp 53), 0, "law.go:154", #[⟨25, .data⟩, ⟨29, .data⟩, ⟨20, .guard⟩], some (20, true)⟩) (v := .pointer (some ⟨bb, ob + i1, none⟩)) (Or.inl ⟨by rfl, fun w' hSw => by go_simp; try (intro hcm; exact absurd hcm (by omega))⟩) hHeld ?_
        try simp only [zP, zQ, zS, zZ, zC]
        refine wt (i := 31) (oi := ⟨some 55, .load 3 (.tmp 54), 3, "law.go:154", #[⟨30, .data⟩, ⟨20, .guard⟩], some (20, true)⟩) (v := .int .i64 x) (Or.inl ⟨by rfl, fun w' hSw => by have hc := C1 w' hSw; go_simp⟩) hHeld ?_
        try simp only [zP, zQ, zS, zZ, zC]
        refine wt (i := 32) (oi := ⟨some 56, .move (.tmp 3), 3, "law.go:154", #[⟨20, .guard⟩], some (20, true)⟩) (v := .int .i64 n) (Or.inl ⟨by rfl, fun w' hSw => by go_simp⟩) hHeld ?_
        try simp only [zP, zQ, zS, zZ, zC]
        refine wt (i := 33) (oi := ⟨some 57, .binOp .add 3 (.tmp 55) (.tmp 56) 3, 3, "law.go:154", #[⟨31, .data⟩, ⟨32, .data⟩, ⟨20, .guard⟩], some (20, true)⟩) (v := .int .i64 (x + n)) (Or.inl ⟨by rfl, fun w' hSw => by have hw := HW2.out; go_simp⟩) hHeld ?_
        try simp only [zP, zQ, zS, zZ, zC]
        refine wt (i := 34) (oi := ⟨some 58, .binOp .neq 3 (.tmp 48) (.tmp 57) 3, 4, "law.go:154", #[⟨24, .data⟩, ⟨33, .data⟩, ⟨20, .guard⟩], some (20, true)⟩) (v := .bool false) (Or.inl ⟨by rfl, fun w' hSw => by go_simp⟩) hHeld ?_
        try simp only [zP, zQ, zS, zZ, zC]
        refine wt (i := 35) (oi := ⟨some 59, .pick (.tmp 44) (.tmp 58) (.const (Value.bool false)), 4, "law.go:154", #[⟨20, .data⟩, ⟨34, .data⟩, ⟨15, .guard⟩], some (15, false)⟩) (v := .bool false) (Or.inl ⟨by rfl, fun w' hSw => by go_simp⟩) hHeld ?_
        try simp only [zP, zQ, zS, zZ, zC]
        refine wt (i := 36) (oi := ⟨some 60, .pick (.tmp 39) (.const (Value.bool true)) (.tmp 59), 4, "law.go:154", #[⟨15, .data⟩, ⟨35, .data⟩], none⟩) (v := .bool false) (Or.inl ⟨by rfl, fun w' hSw => by go_simp⟩) hHeld ?_
        try simp only [zP, zQ, zS, zZ, zC]
        refine wpAnyH_done (by kernel_rfl) ?_ _
        have BX := hHeld
        clear hHeld 
        clear C0 C1
        go_wp2
        exact ⟨⟨i + 1, by omega, by go_num, BX⟩, by simp [intOf]; omega⟩
    · have hlt : ¬ i < m := by omega
      go_wp2
      go_ret
      exact ⟨rfl, hB⟩
end Go.Proofs.Ytehkgpefmjfifaa
