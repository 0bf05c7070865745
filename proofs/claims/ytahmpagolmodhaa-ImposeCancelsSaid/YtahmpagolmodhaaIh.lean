/-
  samePairs and SameSheets.
-/
import Derived.Test.YtahmpagolmodhaaIg
namespace Go.Proofs.Ytahmpagolmodhaa
open Go.RowKit
set_option linter.unusedVariables false
set_option linter.unusedSimpArgs false

theorem equal_pr (x y : Int × Int) (w : World) : (Op.equalIn 10000 25 (.agg #[.int .i64 x.1, .int .i64 x.2]) (.agg #[.int .i64 y.1, .int .i64 y.2])).run Try.prog w = .ok (decide (x = y)) w := by
  rw [← pair_dec]; exact equal_pair 9998 x.1 x.2 y.1 y.2 w
theorem equal_sh (x y : Sh) (w : World) : (Op.equalIn 10000 69 (.agg #[.int .i64 x.q, .int .i64 x.fa, .int .i64 x.fb, .int .i64 x.ba, .int .i64 x.bb]) (.agg #[.int .i64 y.q, .int .i64 y.fa, .int .i64 y.fb, .int .i64 y.ba, .int .i64 y.bb])).run Try.prog w = .ok (decide (x = y)) w := equal_sheet x y w
theorem eq9 (a b c d : Int) (w : World) : (Op.equalIn 9999 25 (.agg #[.int .i64 a, .int .i64 b]) (.agg #[.int .i64 c, .int .i64 d])).run Try.prog w = .ok (a == c && b == d) w := equal_pair 9997 a b c d w
theorem sh_ext {x y : Sh} (h1 : x.q = y.q) (h2 : x.fa = y.fa) (h3 : x.fb = y.fb) (h4 : x.ba = y.ba) (h5 : x.bb = y.bb) : x = y := by
  obtain ⟨a, b, c, d, e⟩ := x
  obtain ⟨a', b', c', d', e'⟩ := y
  simp only at h1 h2 h3 h4 h5
  rw [h1, h2, h3, h4, h5]
set_option maxHeartbeats 2000000 in
set_option maxRecDepth 100000 in
theorem samePairs_any (la lb : List (Int × Int)) (qa qb : Option Addr) (n c m d : Nat) (hla : la.length = n) (hlb : lb.length = m) (hn6 : n ≤ 1000000000000) (w : World) (hA : At prE w qa la) (hB0 : At prE w qb lb) :
    Calls Try.prog 14 #[.slice qa n c, .slice qb m d] w (Told w (decide (la = lb))) := by
  have HN := Lib.hid hla
  have HM := Lib.hid hlb
  by_cases hnm : n = m
  · subst hnm
    clear hla hlb
    have hneb : ((n : Int) != (n : Int)) = false := by simp
    go_enter Try.func14, Try.ntmps14
    go_wp2
    go_loopw [5] (fun v wr => SRel la lb n w v wr) (fun v _ => n - (intOf v).toNat)
    case atStart => exact ⟨0, by omega, rfl, SameTo.zero _ _, Below.refl _ _⟩
    case round =>
      obtain ⟨k, hk, rfl, hF, hB⟩ := hrel
      by_cases hlt : k < n
      · obtain ⟨x, hx⟩ : ∃ x, la[k]? = some x := ⟨_, List.getElem?_eq_getElem (by rw [HN.out]; exact hlt)⟩
        obtain ⟨y, hy⟩ : ∃ y, lb[k]? = some y := ⟨_, List.getElem?_eq_getElem (by rw [HM.out]; exact hlt)⟩
        obtain ⟨b, off, rfl, hL2⟩ := hA.get (i := k) (by rw [HN.out]; exact hlt)
        obtain ⟨g, o2, rfl, hM2⟩ := hB0.get (i := k) (by rw [HM.out]; exact hlt)
        have C1 : ∀ w', Below w.heap.size w w' → w'.rangeAt b (off + k * 2) [.int .i64 x.1, .int .i64 x.2] := fun w' h => (hL2.keep h).range hx
        have C2 : ∀ w', Below w.heap.size w w' → w'.rangeAt g (o2 + k * 2) [.int .i64 y.1, .int .i64 y.2] := fun w' h => (hM2.keep h).range hy
        have HEQ := Lib.hid (fun V : World => equal_pr x y V)
        have HS := Lib.hid (fun e => hF.step hx hy e)
        have HD := Lib.hid (fun e => differ hx hy e)
        clear hx hy hF hA hB0 hL2 hM2
        go_upto_region 6 with (fail)
        by_cases hxy : x = y
        · rw [decide_eq_true hxy] at HEQ
          have HS2 := Lib.hid (HS.out hxy)
          clear HS HD hxy
          refine wp_region_held_drew (S := fun w' => Below w.heap.size w w') (by kernel_rfl) (below_drew (hB)) (fun _ => ?_)
          have hHeld : Below w.heap.size w wr.drew := below_drew (hB)
          generalize wr.drew = V0 at hHeld ⊢
          refine wt (i := 0) (oi := ⟨some 17, .move (.tmp 0), 26, "law.go:35", #[], none⟩) (v := .slice (some ⟨b, off, none⟩) n c) (Or.inl ⟨by rfl, fun w' hSw => by go_simp⟩) hHeld ?_
          try simp only [zP, zQ, zS, zZ, zC]
          refine wt (i := 1) (oi := ⟨some 18, .move (.tmp 5), 3, "law.go:35", #[], none⟩) (v := .int .i64 (k : Int)) (Or.inl ⟨by rfl, fun w' hSw => by go_simp⟩) hHeld ?_
          try simp only [zP, zQ, zS, zZ, zC]
          refine wt (i := 2) (oi := ⟨some 19, .indexAddr 26 (.tmp 17) (.tmp 18), 0, "law.go:35", #[⟨0, .data⟩, ⟨1, .data⟩], none⟩) (v := .pointer (some ⟨b, off + k * 2, none⟩)) (Or.inl ⟨by rfl, fun w' hSw => by go_simp; try (intro hcm; exact absurd hcm (by omega))⟩) hHeld ?_
          try simp only [zP, zQ, zS, zZ, zC]
          refine wt (i := 3) (oi := ⟨some 20, .load 25 (.tmp 19), 25, "law.go:35", #[⟨2, .data⟩], none⟩) (v := _) (yieldsIf_load_mid (by rfl) _ _ rfl b (off + k * 2) rfl [.int .i64 x.1, .int .i64 x.2] _ (fun w' hSw => C1 w' hSw) Try.underlying25 rfl (by kernel_rfl)) hHeld ?_
          try simp only [zP, zQ, zS, zZ, zC]
          refine wt (i := 4) (oi := ⟨some 21, .move (.tmp 1), 26, "law.go:35", #[], none⟩) (v := .slice (some ⟨g, o2, none⟩) n d) (Or.inl ⟨by rfl, fun w' hSw => by go_simp⟩) hHeld ?_
          try simp only [zP, zQ, zS, zZ, zC]
          refine wt (i := 5) (oi := ⟨some 22, .move (.tmp 5), 3, "law.go:35", #[], none⟩) (v := .int .i64 (k : Int)) (Or.inl ⟨by rfl, fun w' hSw => by go_simp⟩) hHeld ?_
          try simp only [zP, zQ, zS, zZ, zC]
          refine wt (i := 6) (oi := ⟨some 23, .indexAddr 26 (.tmp 21) (.tmp 22), 0, "law.go:35", #[⟨4, .data⟩, ⟨5, .data⟩], none⟩) (v := .pointer (some ⟨g, o2 + k * 2, none⟩)) (Or.inl ⟨by rfl, fun w' hSw => by go_simp; try (intro hcm; exact absurd hcm (by omega))⟩) hHeld ?_
          try simp only [zP, zQ, zS, zZ, zC]
          refine wt (i := 7) (oi := ⟨some 24, .load 25 (.tmp 23), 25, "law.go:35", #[⟨6, .data⟩], none⟩) (v := _) (yieldsIf_load_mid (by rfl) _ _ rfl g (o2 + k * 2) rfl [.int .i64 y.1, .int .i64 y.2] _ (fun w' hSw => C2 w' hSw) Try.underlying25 rfl (by kernel_rfl)) hHeld ?_
          try simp only [zP, zQ, zS, zZ, zC]
          refine wt (i := 8) (oi := ⟨some 25, .binOp .neq 25 (.tmp 20) (.tmp 24) 25, 4, "law.go:35", #[⟨3, .data⟩, ⟨7, .data⟩], none⟩) (v := .bool false) (Or.inl ⟨by rfl, fun w' hSw => by have hq := HEQ.out w'; go_simp⟩) hHeld ?_
          try simp only [zP, zQ, zS, zZ, zC]
          refine wpAnyH_done (by kernel_rfl) ?_ _
          have BX := hHeld
          clear hHeld 
          clear C1 C2
          go_wp2
          exact ⟨⟨k + 1, by omega, by go_num, HS2.out, BX⟩, by simp [intOf]; omega⟩
        · rw [decide_eq_false hxy] at HEQ
          have HD2 := Lib.hid (HD.out hxy)
          have HNE := Lib.hid hxy
          clear HS HD hxy
          refine wp_region_held_drew (S := fun w' => Below w.heap.size w w') (by kernel_rfl) (below_drew (hB)) (fun _ => ?_)
          have hHeld : Below w.heap.size w wr.drew := below_drew (hB)
          generalize wr.drew = V0 at hHeld ⊢
          refine wt (i := 0) (oi := ⟨some 17, .move (.tmp 0), 26, "law.go:35", #[], none⟩) (v := .slice (some ⟨b, off, none⟩) n c) (Or.inl ⟨by rfl, fun w' hSw => by go_simp⟩) hHeld ?_
          try simp only [zP, zQ, zS, zZ, zC]
          refine wt (i := 1) (oi := ⟨some 18, .move (.tmp 5), 3, "law.go:35", #[], none⟩) (v := .int .i64 (k : Int)) (Or.inl ⟨by rfl, fun w' hSw => by go_simp⟩) hHeld ?_
          try simp only [zP, zQ, zS, zZ, zC]
          refine wt (i := 2) (oi := ⟨some 19, .indexAddr 26 (.tmp 17) (.tmp 18), 0, "law.go:35", #[⟨0, .data⟩, ⟨1, .data⟩], none⟩) (v := .pointer (some ⟨b, off + k * 2, none⟩)) (Or.inl ⟨by rfl, fun w' hSw => by go_simp; try (intro hcm; exact absurd hcm (by omega))⟩) hHeld ?_
          try simp only [zP, zQ, zS, zZ, zC]
          refine wt (i := 3) (oi := ⟨some 20, .load 25 (.tmp 19), 25, "law.go:35", #[⟨2, .data⟩], none⟩) (v := _) (yieldsIf_load_mid (by rfl) _ _ rfl b (off + k * 2) rfl [.int .i64 x.1, .int .i64 x.2] _ (fun w' hSw => C1 w' hSw) Try.underlying25 rfl (by kernel_rfl)) hHeld ?_
          try simp only [zP, zQ, zS, zZ, zC]
          refine wt (i := 4) (oi := ⟨some 21, .move (.tmp 1), 26, "law.go:35", #[], none⟩) (v := .slice (some ⟨g, o2, none⟩) n d) (Or.inl ⟨by rfl, fun w' hSw => by go_simp⟩) hHeld ?_
          try simp only [zP, zQ, zS, zZ, zC]
          refine wt (i := 5) (oi := ⟨some 22, .move (.tmp 5), 3, "law.go:35", #[], none⟩) (v := .int .i64 (k : Int)) (Or.inl ⟨by rfl, fun w' hSw => by go_simp⟩) hHeld ?_
          try simp only [zP, zQ, zS, zZ, zC]
          refine wt (i := 6) (oi := ⟨some 23, .indexAddr 26 (.tmp 21) (.tmp 22), 0, "law.go:35", #[⟨4, .data⟩, ⟨5, .data⟩], none⟩) (v := .pointer (some ⟨g, o2 + k * 2, none⟩)) (Or.inl ⟨by rfl, fun w' hSw => by go_simp; try (intro hcm; exact absurd hcm (by omega))⟩) hHeld ?_
          try simp only [zP, zQ, zS, zZ, zC]
          refine wt (i := 7) (oi := ⟨some 24, .load 25 (.tmp 23), 25, "law.go:35", #[⟨6, .data⟩], none⟩) (v := _) (yieldsIf_load_mid (by rfl) _ _ rfl g (o2 + k * 2) rfl [.int .i64 y.1, .int .i64 y.2] _ (fun w' hSw => C2 w' hSw) Try.underlying25 rfl (by kernel_rfl)) hHeld ?_
          try simp only [zP, zQ, zS, zZ, zC]
          refine wt (i := 8) (oi := ⟨some 25, .binOp .neq 25 (.tmp 20) (.tmp 24) 25, 4, "law.go:35", #[⟨3, .data⟩, ⟨7, .data⟩], none⟩) (v := .bool true) (Or.inl ⟨by rfl, fun w' hSw => by have hq := HEQ.out w'; go_simp⟩) hHeld ?_
          try simp only [zP, zQ, zS, zZ, zC]
          refine wpAnyH_done (by kernel_rfl) ?_ _
          have BX := hHeld
          clear hHeld 
          clear C1 C2
          go_wp2
          go_ret
          exact ⟨by rw [decide_eq_false HD2.out]; rfl, BX⟩
      · have HE := Lib.hid (hF.all (by rw [HN.out]; omega) (by rw [HM.out]; omega))
        go_wp2
        go_ret
        exact ⟨by rw [decide_eq_true HE.out]; rfl, hB⟩
  · have hneb : ((n : Int) != (m : Int)) = true := by simp; omega
    have HD := Lib.hid (show la ≠ lb from fun e => hnm (by rw [← hla, ← hlb, e]))
    go_enter Try.func14, Try.ntmps14
    go_wp2
    go_ret
    exact ⟨by rw [decide_eq_false HD.out]; rfl, Below.refl _ _⟩
set_option maxHeartbeats 2000000 in
set_option maxRecDepth 100000 in
theorem sameSheets_any (la lb : List Sh) (qa qb : Option Addr) (n c m d : Nat) (hla : la.length = n) (hlb : lb.length = m) (hn6 : n ≤ 1000000000000) (w : World) (hA : At srE w qa la) (hB0 : At srE w qb lb) :
    Calls Try.prog 15 #[.slice qa n c, .slice qb m d] w (Told w (decide (la = lb))) := by
  have HN := Lib.hid hla
  have HM := Lib.hid hlb
  by_cases hnm : n = m
  · subst hnm
    clear hla hlb
    have hneb : ((n : Int) != (n : Int)) = false := by simp
    go_enter Try.func15, Try.ntmps15
    go_wp2
    go_loopw [5] (fun v wr => SRel la lb n w v wr) (fun v _ => n - (intOf v).toNat)
    case atStart => exact ⟨0, by omega, rfl, SameTo.zero _ _, Below.refl _ _⟩
    case round =>
      obtain ⟨k, hk, rfl, hF, hB⟩ := hrel
      by_cases hlt : k < n
      · obtain ⟨x, hx⟩ : ∃ x, la[k]? = some x := ⟨_, List.getElem?_eq_getElem (by rw [HN.out]; exact hlt)⟩
        obtain ⟨y, hy⟩ : ∃ y, lb[k]? = some y := ⟨_, List.getElem?_eq_getElem (by rw [HM.out]; exact hlt)⟩
        obtain ⟨b, off, rfl, hL2⟩ := hA.get (i := k) (by rw [HN.out]; exact hlt)
        obtain ⟨g, o2, rfl, hM2⟩ := hB0.get (i := k) (by rw [HM.out]; exact hlt)
        have C1 : ∀ w', Below w.heap.size w w' → w'.rangeAt b (off + k * 5) [.int .i64 x.q, .int .i64 x.fa, .int .i64 x.fb, .int .i64 x.ba, .int .i64 x.bb] := fun w' h => (hL2.keep h).range hx
        have C2 : ∀ w', Below w.heap.size w w' → w'.rangeAt g (o2 + k * 5) [.int .i64 y.q, .int .i64 y.fa, .int .i64 y.fb, .int .i64 y.ba, .int .i64 y.bb] := fun w' h => (hM2.keep h).range hy
        have HEQ := Lib.hid (fun V : World => equal_sh x y V)
        have HS := Lib.hid (fun e => hF.step hx hy e)
        have HD := Lib.hid (fun e => differ hx hy e)
        clear hx hy hF hA hB0 hL2 hM2
        go_upto_region 6 with (fail)
        by_cases hxy : x = y
        · subst hxy; rw [decide_eq_true rfl] at HEQ
          have HS2 := Lib.hid (HS.out rfl)
          clear HS HD
          refine wp_region_held_drew (S := fun w' => Below w.heap.size w w') (by kernel_rfl) (below_drew (hB)) (fun _ => ?_)
          have hHeld : Below w.heap.size w wr.drew := below_drew (hB)
          generalize wr.drew = V0 at hHeld ⊢
          refine wt (i := 0) (oi := ⟨some 17, .move (.tmp 0), 32, "ref.go:105", #[], none⟩) (v := .slice (some ⟨b, off, none⟩) n c) (Or.inl ⟨by rfl, fun w' hSw => by go_simp⟩) hHeld ?_
          try simp only [zP, zQ, zS, zZ, zC]
          refine wt (i := 1) (oi := ⟨some 18, .move (.tmp 5), 3, "ref.go:105", #[], none⟩) (v := .int .i64 (k : Int)) (Or.inl ⟨by rfl, fun w' hSw => by go_simp⟩) hHeld ?_
          try simp only [zP, zQ, zS, zZ, zC]
          refine wt (i := 2) (oi := ⟨some 19, .indexAddr 32 (.tmp 17) (.tmp 18), 0, "ref.go:105", #[⟨0, .data⟩, ⟨1, .data⟩], none⟩) (v := .pointer (some ⟨b, off + k * 5, none⟩)) (Or.inl ⟨by rfl, fun w' hSw => by go_simp; try (intro hcm; exact absurd hcm (by omega))⟩) hHeld ?_
          try simp only [zP, zQ, zS, zZ, zC]
          refine wt (i := 3) (oi := ⟨some 20, .load 69 (.tmp 19), 69, "ref.go:105", #[⟨2, .data⟩], none⟩) (v := _) (yieldsIf_load_mid (by rfl) _ _ rfl b (off + k * 5) rfl [.int .i64 x.q, .int .i64 x.fa, .int .i64 x.fb, .int .i64 x.ba, .int .i64 x.bb] _ (fun w' hSw => C1 w' hSw) Try.underlying69 rfl (by kernel_rfl)) hHeld ?_
          try simp only [zP, zQ, zS, zZ, zC]
          refine wt (i := 4) (oi := ⟨some 21, .move (.tmp 1), 32, "ref.go:105", #[], none⟩) (v := .slice (some ⟨g, o2, none⟩) n d) (Or.inl ⟨by rfl, fun w' hSw => by go_simp⟩) hHeld ?_
          try simp only [zP, zQ, zS, zZ, zC]
          refine wt (i := 5) (oi := ⟨some 22, .move (.tmp 5), 3, "ref.go:105", #[], none⟩) (v := .int .i64 (k : Int)) (Or.inl ⟨by rfl, fun w' hSw => by go_simp⟩) hHeld ?_
          try simp only [zP, zQ, zS, zZ, zC]
          refine wt (i := 6) (oi := ⟨some 23, .indexAddr 32 (.tmp 21) (.tmp 22), 0, "ref.go:105", #[⟨4, .data⟩, ⟨5, .data⟩], none⟩) (v := .pointer (some ⟨g, o2 + k * 5, none⟩)) (Or.inl ⟨by rfl, fun w' hSw => by go_simp; try (intro hcm; exact absurd hcm (by omega))⟩) hHeld ?_
          try simp only [zP, zQ, zS, zZ, zC]
          refine wt (i := 7) (oi := ⟨some 24, .load 69 (.tmp 23), 69, "ref.go:105", #[⟨6, .data⟩], none⟩) (v := _) (yieldsIf_load_mid (by rfl) _ _ rfl g (o2 + k * 5) rfl [.int .i64 x.q, .int .i64 x.fa, .int .i64 x.fb, .int .i64 x.ba, .int .i64 x.bb] _ (fun w' hSw => C2 w' hSw) Try.underlying69 rfl (by kernel_rfl)) hHeld ?_
          try simp only [zP, zQ, zS, zZ, zC]
          refine wt (i := 8) (oi := ⟨some 25, .binOp .neq 69 (.tmp 20) (.tmp 24) 69, 4, "ref.go:105", #[⟨3, .data⟩, ⟨7, .data⟩], none⟩) (v := .bool false) (Or.inl ⟨by rfl, fun w' hSw => by have e1 := eq9 x.fa x.fb x.fa x.fb w'; have e2 := eq9 x.ba x.bb x.ba x.bb w'; go_simp⟩) hHeld ?_
          try simp only [zP, zQ, zS, zZ, zC]
          refine wpAnyH_done (by kernel_rfl) ?_ _
          have BX := hHeld
          clear hHeld 
          clear C1 C2
          go_wp2
          exact ⟨⟨k + 1, by omega, by go_num, HS2.out, BX⟩, by simp [intOf]; omega⟩
        · rw [decide_eq_false hxy] at HEQ
          have HD2 := Lib.hid (HD.out hxy)
          have HNE := Lib.hid hxy
          clear HS HD hxy
          refine wp_region_held_drew (S := fun w' => Below w.heap.size w w') (by kernel_rfl) (below_drew (hB)) (fun _ => ?_)
          have hHeld : Below w.heap.size w wr.drew := below_drew (hB)
          generalize wr.drew = V0 at hHeld ⊢
          refine wt (i := 0) (oi := ⟨some 17, .move (.tmp 0), 32, "ref.go:105", #[], none⟩) (v := .slice (some ⟨b, off, none⟩) n c) (Or.inl ⟨by rfl, fun w' hSw => by go_simp⟩) hHeld ?_
          try simp only [zP, zQ, zS, zZ, zC]
          refine wt (i := 1) (oi := ⟨some 18, .move (.tmp 5), 3, "ref.go:105", #[], none⟩) (v := .int .i64 (k : Int)) (Or.inl ⟨by rfl, fun w' hSw => by go_simp⟩) hHeld ?_
          try simp only [zP, zQ, zS, zZ, zC]
          refine wt (i := 2) (oi := ⟨some 19, .indexAddr 32 (.tmp 17) (.tmp 18), 0, "ref.go:105", #[⟨0, .data⟩, ⟨1, .data⟩], none⟩) (v := .pointer (some ⟨b, off + k * 5, none⟩)) (Or.inl ⟨by rfl, fun w' hSw => by go_simp; try (intro hcm; exact absurd hcm (by omega))⟩) hHeld ?_
          try simp only [zP, zQ, zS, zZ, zC]
          refine wt (i := 3) (oi := ⟨some 20, .load 69 (.tmp 19), 69, "ref.go:105", #[⟨2, .data⟩], none⟩) (v := _) (yieldsIf_load_mid (by rfl) _ _ rfl b (off + k * 5) rfl [.int .i64 x.q, .int .i64 x.fa, .int .i64 x.fb, .int .i64 x.ba, .int .i64 x.bb] _ (fun w' hSw => C1 w' hSw) Try.underlying69 rfl (by kernel_rfl)) hHeld ?_
          try simp only [zP, zQ, zS, zZ, zC]
          refine wt (i := 4) (oi := ⟨some 21, .move (.tmp 1), 32, "ref.go:105", #[], none⟩) (v := .slice (some ⟨g, o2, none⟩) n d) (Or.inl ⟨by rfl, fun w' hSw => by go_simp⟩) hHeld ?_
          try simp only [zP, zQ, zS, zZ, zC]
          refine wt (i := 5) (oi := ⟨some 22, .move (.tmp 5), 3, "ref.go:105", #[], none⟩) (v := .int .i64 (k : Int)) (Or.inl ⟨by rfl, fun w' hSw => by go_simp⟩) hHeld ?_
          try simp only [zP, zQ, zS, zZ, zC]
          refine wt (i := 6) (oi := ⟨some 23, .indexAddr 32 (.tmp 21) (.tmp 22), 0, "ref.go:105", #[⟨4, .data⟩, ⟨5, .data⟩], none⟩) (v := .pointer (some ⟨g, o2 + k * 5, none⟩)) (Or.inl ⟨by rfl, fun w' hSw => by go_simp; try (intro hcm; exact absurd hcm (by omega))⟩) hHeld ?_
          try simp only [zP, zQ, zS, zZ, zC]
          refine wt (i := 7) (oi := ⟨some 24, .load 69 (.tmp 23), 69, "ref.go:105", #[⟨6, .data⟩], none⟩) (v := _) (yieldsIf_load_mid (by rfl) _ _ rfl g (o2 + k * 5) rfl [.int .i64 y.q, .int .i64 y.fa, .int .i64 y.fb, .int .i64 y.ba, .int .i64 y.bb] _ (fun w' hSw => C2 w' hSw) Try.underlying69 rfl (by kernel_rfl)) hHeld ?_
          try simp only [zP, zQ, zS, zZ, zC]
          refine wt (i := 8) (oi := ⟨some 25, .binOp .neq 69 (.tmp 20) (.tmp 24) 69, 4, "ref.go:105", #[⟨3, .data⟩, ⟨7, .data⟩], none⟩) (v := .bool true) (Or.inl ⟨by rfl, fun w' hSw => by have e1 := eq9 x.fa x.fb y.fa y.fb w'; have e2 := eq9 x.ba x.bb y.ba y.bb w'; go_simp; by_cases g1 : x.q = y.q <;> by_cases g2 : x.fa = y.fa <;> by_cases g3 : x.fb = y.fb <;> by_cases g4 : x.ba = y.ba <;> by_cases g5 : x.bb = y.bb <;> first | (simp [g1, g2, g3, g4, g5]; done) | exact absurd (sh_ext g1 g2 g3 g4 g5) HNE.out⟩) hHeld ?_
          try simp only [zP, zQ, zS, zZ, zC]
          refine wpAnyH_done (by kernel_rfl) ?_ _
          have BX := hHeld
          clear hHeld 
          clear C1 C2
          go_wp2
          go_ret
          exact ⟨by rw [decide_eq_false HD2.out]; rfl, BX⟩
      · have HE := Lib.hid (hF.all (by rw [HN.out]; omega) (by rw [HM.out]; omega))
        go_wp2
        go_ret
        exact ⟨by rw [decide_eq_true HE.out]; rfl, hB⟩
  · have hneb : ((n : Int) != (m : Int)) = true := by simp; omega
    have HD := Lib.hid (show la ≠ lb from fun e => hnm (by rw [← hla, ← hlb, e]))
    go_enter Try.func15, Try.ntmps15
    go_wp2
    go_ret
    exact ⟨by rw [decide_eq_false HD.out]; rfl, Below.refl _ _⟩
end Go.Proofs.Ytahmpagolmodhaa
