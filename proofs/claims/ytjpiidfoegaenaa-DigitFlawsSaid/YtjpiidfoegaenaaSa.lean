/-
  Strings in memory; whether two lists of strings are the same.
-/
import Derived.Test.YtjpiidfoegaenaaBa
import Derived.Test.YtjpiidfoegaenaaBy
import Derived.BigQuiet
import Derived.Lib.Strings
namespace Go.Proofs.Ytjpiidfoegaenaa
open Go.RowKit
set_option linter.unusedVariables false
set_option linter.unusedSimpArgs false

/-- Strings as elements. -/
def strE : Elt ByteArray where
  T := 9
  ST := 49
  k := 1
  bytes := 16
  zero := .string ByteArray.empty
  enc := fun s => [.string s]
  info := by kernel_rfl
  und := Try.underlying49
  len := fun _ => rfl
  one := by intro s u hu; simp at hu; subst hu; rfl
  kpos := by decide
  zs := rfl
  bb := by decide
theorem bytes_ext {x y : ByteArray} (h : x.toList = y.toList) : x = y := by
  rw [Lib.toList_data, Lib.toList_data] at h
  cases x; cases y
  simpa using h
theorem bytes_ne {x y : ByteArray} (h : x ≠ y) : (x.toList == y.toList) = false := by
  rcases hb : (x.toList == y.toList) with _ | _
  · rfl
  · exact absurd (bytes_ext (by simpa using hb)) h
set_option maxHeartbeats 2000000 in
set_option maxRecDepth 100000 in
theorem sameTexts_any (la lb : List ByteArray) (qa qb : Option Addr) (n c m d : Nat) (hla : la.length = n) (hlb : lb.length = m) (hn6 : n ≤ 1000000000000) (w : World) (hA : At strE w qa la) (hB0 : At strE w qb lb) :
    Calls Try.prog 32 #[.slice qa n c, .slice qb m d] w (Told w (decide (la = lb))) := by
  have HN := Lib.hid hla
  have HM := Lib.hid hlb
  by_cases hnm : n = m
  · subst hnm
    clear hla hlb
    have hneb : ((n : Int) != (n : Int)) = false := by simp
    go_enter Try.func32, Try.ntmps32
    go_wp2
    go_loopw [5] (fun v wr => SRel la lb n w v wr) (fun v _ => n - (intOf v).toNat)
    case atStart => exact ⟨0, by omega, rfl, SameTo.zero _ _, Below.refl _ _⟩
    case round =>
      obtain ⟨k, hk, rfl, hF, hB⟩ := hrel
      by_cases hlt : k < n
      · obtain ⟨x, hx⟩ : ∃ x, la[k]? = some x := ⟨_, List.getElem?_eq_getElem (by rw [HN.out]; exact hlt)⟩
        obtain ⟨y, hy⟩ : ∃ y, lb[k]? = some y := ⟨_, List.getElem?_eq_getElem (by rw [HM.out]; exact hlt)⟩
        obtain ⟨b, off, rfl, hL2⟩ := hA.get (i := k) (by rw [HN.out]; exact hlt)
        obtain ⟨g, o2, rfl, hM2⟩ := hB0.get (i := k) (by rw [HM.out]; exact hlt)
        have C1 : ∀ w', Below w.heap.size w w' → w'.cell? ⟨b, off + k, none⟩ = some (.string x) := fun w' h => (h.cell hL2.1).trans (by have := hL2.2 k x 0 _ hx rfl; rwa [show off + k * strE.k + 0 = off + k from by rw [show strE.k = 1 from rfl]; omega] at this)
        have C2 : ∀ w', Below w.heap.size w w' → w'.cell? ⟨g, o2 + k, none⟩ = some (.string y) := fun w' h => (h.cell hM2.1).trans (by have := hM2.2 k y 0 _ hy rfl; rwa [show o2 + k * strE.k + 0 = o2 + k from by rw [show strE.k = 1 from rfl]; omega] at this)
        have HS := Lib.hid (fun e => hF.step hx hy e)
        have HD := Lib.hid (fun e => differ hx hy e)
        clear hx hy hF hA hB0 hL2 hM2
        go_upto_region 6 with (fail)
        by_cases hxy : x = y
        · have hb1 : (x.toList == y.toList) = true := by simp [hxy]
          have HS2 := Lib.hid (HS.out hxy)
          clear HS HD hxy
          refine wp_region_held_drew (S := fun w' => Below w.heap.size w w') (by kernel_rfl) (below_drew (hB)) (fun _ => ?_)
          have hHeld : Below w.heap.size w wr.drew := below_drew (hB)
          generalize wr.drew = V0 at hHeld ⊢
          refine wt (i := 0) (oi := ⟨some 17, .move (.tmp 0), 49, "ref.go:215", #[], none⟩) (v := .slice (some ⟨b, off, none⟩) n c) (Or.inl ⟨by rfl, fun w' hSw => by go_simp⟩) hHeld ?_
          try simp only [zP, zQ, zS, zZ, zC]
          refine wt (i := 1) (oi := ⟨some 18, .move (.tmp 5), 3, "ref.go:215", #[], none⟩) (v := .int .i64 (k : Int)) (Or.inl ⟨by rfl, fun w' hSw => by go_simp⟩) hHeld ?_
          try simp only [zP, zQ, zS, zZ, zC]
          refine wt (i := 2) (oi := ⟨some 19, .indexAddr 49 (.tmp 17) (.tmp 18), 0, "ref.go:215", #[⟨0, .data⟩, ⟨1, .data⟩], none⟩) (v := .pointer (some ⟨b, off + k, none⟩)) (Or.inl ⟨by rfl, fun w' hSw => by go_simp; try (intro hcm; exact absurd hcm (by omega))⟩) hHeld ?_
          try simp only [zP, zQ, zS, zZ, zC]
          refine wt (i := 3) (oi := ⟨some 20, .load 9 (.tmp 19), 9, "ref.go:215", #[⟨2, .data⟩], none⟩) (v := .string x) (Or.inl ⟨by rfl, fun w' hSw => by have hc := C1 w' hSw; go_simp⟩) hHeld ?_
          try simp only [zP, zQ, zS, zZ, zC]
          refine wt (i := 4) (oi := ⟨some 21, .move (.tmp 1), 49, "ref.go:215", #[], none⟩) (v := .slice (some ⟨g, o2, none⟩) n d) (Or.inl ⟨by rfl, fun w' hSw => by go_simp⟩) hHeld ?_
          try simp only [zP, zQ, zS, zZ, zC]
          refine wt (i := 5) (oi := ⟨some 22, .move (.tmp 5), 3, "ref.go:215", #[], none⟩) (v := .int .i64 (k : Int)) (Or.inl ⟨by rfl, fun w' hSw => by go_simp⟩) hHeld ?_
          try simp only [zP, zQ, zS, zZ, zC]
          refine wt (i := 6) (oi := ⟨some 23, .indexAddr 49 (.tmp 21) (.tmp 22), 0, "ref.go:215", #[⟨4, .data⟩, ⟨5, .data⟩], none⟩) (v := .pointer (some ⟨g, o2 + k, none⟩)) (Or.inl ⟨by rfl, fun w' hSw => by go_simp; try (intro hcm; exact absurd hcm (by omega))⟩) hHeld ?_
          try simp only [zP, zQ, zS, zZ, zC]
          refine wt (i := 7) (oi := ⟨some 24, .load 9 (.tmp 23), 9, "ref.go:215", #[⟨6, .data⟩], none⟩) (v := .string y) (Or.inl ⟨by rfl, fun w' hSw => by have hc := C2 w' hSw; go_simp⟩) hHeld ?_
          try simp only [zP, zQ, zS, zZ, zC]
          refine wt (i := 8) (oi := ⟨some 25, .binOp .neq 9 (.tmp 20) (.tmp 24) 9, 4, "ref.go:215", #[⟨3, .data⟩, ⟨7, .data⟩], none⟩) (v := .bool false) (Or.inl ⟨by rfl, fun w' hSw => by go_simp⟩) hHeld ?_
          try simp only [zP, zQ, zS, zZ, zC]
          refine wpAnyH_done (by kernel_rfl) ?_ _
          have BX := hHeld
          clear hHeld C1 C2
          go_wp2
          exact ⟨⟨k + 1, by omega, by go_num, HS2.out, BX⟩, by simp [intOf]; omega⟩
        · have hb1 : (x.toList == y.toList) = false := bytes_ne hxy
          have HD2 := Lib.hid (HD.out hxy)
          clear HS HD hxy
          refine wp_region_held_drew (S := fun w' => Below w.heap.size w w') (by kernel_rfl) (below_drew (hB)) (fun _ => ?_)
          have hHeld : Below w.heap.size w wr.drew := below_drew (hB)
          generalize wr.drew = V0 at hHeld ⊢
          refine wt (i := 0) (oi := ⟨some 17, .move (.tmp 0), 49, "ref.go:215", #[], none⟩) (v := .slice (some ⟨b, off, none⟩) n c) (Or.inl ⟨by rfl, fun w' hSw => by go_simp⟩) hHeld ?_
          try simp only [zP, zQ, zS, zZ, zC]
          refine wt (i := 1) (oi := ⟨some 18, .move (.tmp 5), 3, "ref.go:215", #[], none⟩) (v := .int .i64 (k : Int)) (Or.inl ⟨by rfl, fun w' hSw => by go_simp⟩) hHeld ?_
          try simp only [zP, zQ, zS, zZ, zC]
          refine wt (i := 2) (oi := ⟨some 19, .indexAddr 49 (.tmp 17) (.tmp 18), 0, "ref.go:215", #[⟨0, .data⟩, ⟨1, .data⟩], none⟩) (v := .pointer (some ⟨b, off + k, none⟩)) (Or.inl ⟨by rfl, fun w' hSw => by go_simp; try (intro hcm; exact absurd hcm (by omega))⟩) hHeld ?_
          try simp only [zP, zQ, zS, zZ, zC]
          refine wt (i := 3) (oi := ⟨some 20, .load 9 (.tmp 19), 9, "ref.go:215", #[⟨2, .data⟩], none⟩) (v := .string x) (Or.inl ⟨by rfl, fun w' hSw => by have hc := C1 w' hSw; go_simp⟩) hHeld ?_
          try simp only [zP, zQ, zS, zZ, zC]
          refine wt (i := 4) (oi := ⟨some 21, .move (.tmp 1), 49, "ref.go:215", #[], none⟩) (v := .slice (some ⟨g, o2, none⟩) n d) (Or.inl ⟨by rfl, fun w' hSw => by go_simp⟩) hHeld ?_
          try simp only [zP, zQ, zS, zZ, zC]
          refine wt (i := 5) (oi := ⟨some 22, .move (.tmp 5), 3, "ref.go:215", #[], none⟩) (v := .int .i64 (k : Int)) (Or.inl ⟨by rfl, fun w' hSw => by go_simp⟩) hHeld ?_
          try simp only [zP, zQ, zS, zZ, zC]
          refine wt (i := 6) (oi := ⟨some 23, .indexAddr 49 (.tmp 21) (.tmp 22), 0, "ref.go:215", #[⟨4, .data⟩, ⟨5, .data⟩], none⟩) (v := .pointer (some ⟨g, o2 + k, none⟩)) (Or.inl ⟨by rfl, fun w' hSw => by go_simp; try (intro hcm; exact absurd hcm (by omega))⟩) hHeld ?_
          try simp only [zP, zQ, zS, zZ, zC]
          refine wt (i := 7) (oi := ⟨some 24, .load 9 (.tmp 23), 9, "ref.go:215", #[⟨6, .data⟩], none⟩) (v := .string y) (Or.inl ⟨by rfl, fun w' hSw => by have hc := C2 w' hSw; go_simp⟩) hHeld ?_
          try simp only [zP, zQ, zS, zZ, zC]
          refine wt (i := 8) (oi := ⟨some 25, .binOp .neq 9 (.tmp 20) (.tmp 24) 9, 4, "ref.go:215", #[⟨3, .data⟩, ⟨7, .data⟩], none⟩) (v := .bool true) (Or.inl ⟨by rfl, fun w' hSw => by go_simp⟩) hHeld ?_
          try simp only [zP, zQ, zS, zZ, zC]
          refine wpAnyH_done (by kernel_rfl) ?_ _
          have BX := hHeld
          clear hHeld C1 C2
          go_wp2
          go_ret
          exact ⟨by rw [decide_eq_false HD2.out]; rfl, BX⟩
      · have HE := Lib.hid (hF.all (by rw [HN.out]; omega) (by rw [HM.out]; omega))
        go_wp2
        go_ret
        exact ⟨by rw [decide_eq_true HE.out]; rfl, hB⟩
  · have hneb : ((n : Int) != (m : Int)) = true := by simp; omega
    have HD := Lib.hid (show la ≠ lb from fun e => hnm (by rw [← hla, ← hlb, e]))
    go_enter Try.func32, Try.ntmps32
    go_wp2
    go_ret
    exact ⟨by rw [decide_eq_false HD.out]; rfl, Below.refl _ _⟩

/-- A byte of a string. -/
theorem sb_get {s : ByteArray} {i : Nat} (h : i < s.size) : (sb s)[i]? = some (s[i]'h).toNat ∧ (s[i]'h).toNat < 256 := by
  refine ⟨?_, UInt8.toNat_lt _⟩
  have h2 : i < s.data.size := h
  unfold sb
  rw [List.getElem?_map, Array.getElem?_toList, Array.getElem?_eq_getElem h2]
  rfl
end Go.Proofs.Ytjpiidfoegaenaa
