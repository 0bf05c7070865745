/-
  merkle.Valid.
-/
import Derived.Test.YtfhfmdnimebegaaDoorMr
import Derived.WalkLawsBesides
import Derived.Deep.Cut
namespace Go.Proofs.YtfhfmdnimebegaaDoor
open Go.RowKit
set_option linter.unusedVariables false
set_option linter.unusedSimpArgs false

/-- A key and a value that are not longer than allowed. -/
def fits (x : Lf) : Bool := decide (x.1.size ≤ 65536) && decide (x.2.size ≤ 65536)
def sless (a b : ByteArray) : Bool := Op.bytesLess a.toList b.toList
/-- Keys in strictly increasing order. -/
def ordered : List Lf → Bool
  | x :: y :: r => sless x.1 y.1 && ordered (y :: r)
  | _ => true
/-- What Valid answers. -/
def validM (ls : List Lf) : Int := if 4096 < ls.length then 4 else if ls.all fits then (if ordered ls then 0 else 1) else 4
def FitTo (ls : List Lf) (k : Nat) : Prop := ∀ j x, j < k → ls[j]? = some x → fits x = true
def OrdTo (ls : List Lf) (k : Nat) : Prop := ∀ j x y, j + 1 < k → ls[j]? = some x → ls[j + 1]? = some y → sless x.1 y.1 = true
theorem fit_zero (ls : List Lf) : FitTo ls 0 := fun j x h => by omega
theorem FitTo.step {ls : List Lf} {k : Nat} {x : Lf} (h : FitTo ls k) (hx : ls[k]? = some x) (hf : fits x = true) : FitTo ls (k + 1) := by
  intro j y hj hy
  rcases Nat.lt_or_ge j k with h1 | h1
  · exact h j y h1 hy
  · obtain rfl : j = k := by omega
    obtain rfl : x = y := by rw [hx] at hy; injection hy
    exact hf
theorem FitTo.all {ls : List Lf} (h : FitTo ls ls.length) : ls.all fits = true := by
  rw [List.all_eq_true]
  intro x hx
  obtain ⟨j, hj⟩ := List.mem_iff_getElem?.1 hx
  exact h j x (List.getElem?_eq_some_iff.1 hj).1 hj
theorem not_fit {ls : List Lf} {k : Nat} {x : Lf} (hx : ls[k]? = some x) (hf : fits x = false) : ls.all fits = false := by
  rw [List.all_eq_false]
  exact ⟨x, List.mem_of_getElem? hx, by simp [hf]⟩
theorem ord_one (ls : List Lf) : OrdTo ls 1 := fun j x y h => by omega
theorem OrdTo.step {ls : List Lf} {k : Nat} {x y : Lf} (h : OrdTo ls (k + 1)) (hx : ls[k]? = some x) (hy : ls[k + 1]? = some y) (hs : sless x.1 y.1 = true) : OrdTo ls (k + 1 + 1) := by
  intro j u v hj hu hv
  rcases Nat.lt_or_ge j k with h1 | h1
  · exact h j u v (by omega) hu hv
  · obtain rfl : j = k := by omega
    obtain rfl : x = u := by rw [hx] at hu; injection hu
    obtain rfl : y = v := by rw [hy] at hv; injection hv
    exact hs
theorem OrdTo.all : ∀ {ls : List Lf} {k : Nat}, OrdTo ls k → ls.length ≤ k → ordered ls = true
  | [], _, _, _ => rfl
  | [x], _, _, _ => rfl
  | x :: y :: r, k, h, hk => by
    simp only [List.length_cons] at hk
    unfold ordered
    rw [h 0 x y (by omega) rfl rfl, OrdTo.all (ls := y :: r) (k := k - 1) (fun j u v hj hu hv => h (j + 1) u v (by omega) hu hv) (by simp only [List.length_cons]; omega)]
    rfl
theorem not_ord : ∀ {ls : List Lf} {k : Nat} {x y : Lf}, ls[k]? = some x → ls[k + 1]? = some y → sless x.1 y.1 = false → ordered ls = false
  | [], k, x, y, hx, _, _ => by simp at hx
  | [u], k, x, y, hx, hy, _ => by simp at hy
  | u :: v :: r, 0, x, y, hx, hy, hs => by
    obtain rfl : u = x := by simpa using hx
    obtain rfl : v = y := by simpa using hy
    unfold ordered
    rw [hs]
    rfl
  | u :: v :: r, k + 1, x, y, hx, hy, hs => by
    unfold ordered
    rw [not_ord (ls := v :: r) (k := k) (by simpa using hx) (by simpa using hy) hs, Bool.and_false]
theorem valid_long {ls : List Lf} (h : 4096 < ls.length) : validM ls = 4 := by unfold validM; rw [if_pos h]
theorem valid_fat {ls : List Lf} {k : Nat} {x : Lf} (h : ls.length ≤ 4096) (hx : ls[k]? = some x) (hf : fits x = false) : validM ls = 4 := by
  unfold validM
  rw [if_neg (by omega), not_fit hx hf]
  rfl
theorem valid_bad {ls : List Lf} {k : Nat} {x y : Lf} (h : ls.length ≤ 4096) (ha : FitTo ls ls.length) (hx : ls[k]? = some x) (hy : ls[k + 1]? = some y) (hs : sless x.1 y.1 = false) : validM ls = 1 := by
  unfold validM
  rw [if_neg (by omega), if_pos ha.all, not_ord hx hy hs]
  rfl
theorem valid_ok {ls : List Lf} {k : Nat} (h : ls.length ≤ 4096) (ha : FitTo ls ls.length) (ho : OrdTo ls k) (hk : ls.length ≤ k) : validM ls = 0 := by
  unfold validM
  rw [if_neg (by omega), if_pos ha.all, if_pos (ho.all hk)]
/-- A slice of leaves, also an empty one. -/
def OwnL (w : World) (p : Option Addr) (ls : List Lf) : Prop := ls ≠ [] → ∃ b off, p = some ⟨b, off, none⟩ ∧ Lvs w b off ls
theorem OwnL.keep {w w' : World} {p : Option Addr} {ls : List Lf} (h : OwnL w p ls) (hb : Below w.heap.size w w') : OwnL w' p ls := fun hn => by
  obtain ⟨b, off, e, hL⟩ := h hn
  exact ⟨b, off, e, hL.keep hb⟩
theorem Lvs.at {w : World} {b off : Nat} {ls : List Lf} (h : Lvs w b off ls) {k : Nat} {x : Lf} (hx : ls[k]? = some x) : w.cell? ⟨b, off + k * 2, none⟩ = some (.string x.1) ∧ w.cell? ⟨b, off + k * 2 + 1, none⟩ = some (.string x.2) := by
  have := h.2 k x hx
  rw [show off + k * 2 = off + 2 * k by omega]
  exact this

set_option maxHeartbeats 2000000 in
set_option maxRecDepth 100000 in
theorem valid_any (ls : List Lf) (p : Option Addr) (n c : Nat) (hl : ls.length = n) (w : World) (hL : OwnL w p ls) :
    Calls Tryd.prog 14 #[.slice p n c] w fun e w' => e = .returned (.int .i64 (validM ls)) ∧ Below w.heap.size w w' := by
  have HN := Lib.hid hl
  clear hl
  by_cases h : 4096 < n
  · rw [valid_long (by rw [HN.out]; exact h)]
    go_enter Tryd.func14, Tryd.ntmps14
    go_wp2
    go_ret
    exact ⟨rfl, Below.refl _ _⟩
  · go_enter Tryd.func14, Tryd.ntmps14
    go_wp2
    go_loopw [11] (fun v wr => ∃ k : Nat, k ≤ n ∧ v = .int .i64 k ∧ FitTo ls k ∧ Below w.heap.size w wr) (fun v _ => n - (intOf v).toNat)
    case atStart => exact ⟨0, by omega, rfl, fit_zero _, Below.refl _ _⟩
    case round =>
      obtain ⟨k, hk, rfl, hF, hB⟩ := hrel
      by_cases hlt : k < n
      · obtain ⟨x, hx⟩ : ∃ x, ls[k]? = some x := ⟨_, List.getElem?_eq_getElem (by rw [HN.out]; exact hlt)⟩
        obtain ⟨b, off, rfl, hL2⟩ := hL (by intro h0; rw [h0] at hx; simp at hx)
        have hb := hL2.1
        have h1 := (hB.cell hb).trans (hL2.at hx).1
        have h2 := (hB.cell hb).trans (hL2.at hx).2
        have hF1 := Lib.hid (fun hf => hF.step hx hf)
        have hV := Lib.hid (fun hf => valid_fat (by rw [HN.out]; omega) hx hf)
        clear hx hL hL2 hF
        go_upto_region 6 with (fail)
        have hB2 : Below w.heap.size w (wr.alloc (.cells #[.string x.1, .string x.2] 41)) := hB.alloc hB.size _
        have c1 : (wr.alloc (.cells #[.string x.1, .string x.2] 41)).cell? ⟨wr.heap.size, 0, none⟩ = some (.string x.1) := by simp
        have c2 : (wr.alloc (.cells #[.string x.1, .string x.2] 41)).cell? ⟨wr.heap.size, 1, none⟩ = some (.string x.2) := by simp
        generalize World.alloc _ _ = wx at hB2 c1 c2 ⊢
        by_cases s1 : x.1.size ≤ 65536
        · by_cases s2 : x.2.size ≤ 65536
          · have hf : fits x = true := by simp [fits, s1, s2]
            have hF2 := hF1.out hf
            go_wp2
            go_roundw
            case rel => exact ⟨k + 1, by omega, by go_num, hF2, hB2⟩
            case measure => simp [intOf]; omega
          · have hf : fits x = false := by simp [fits, s2]
            go_wp2
            go_ret
            exact ⟨by rw [hV.out hf]; rfl, hB2⟩
        · have hf : fits x = false := by simp [fits, s1]
          go_wp2
          go_ret
          exact ⟨by rw [hV.out hf]; rfl, hB2⟩
      · obtain rfl : n = k := by omega
        have hF0 : FitTo ls ls.length := by rw [HN.out]; exact hF
        have HF := Lib.hid hF0
        clear hF hF0
        go_upto_region 9 with (fail)
        obtain ⟨wo, rfl⟩ : ∃ wo : World, wo = wr := ⟨_, rfl⟩
        go_wp2
        go_loopw [5] (fun v wr => ∃ k t : Nat, k + 1 = t ∧ (t ≤ n ∨ k = 0) ∧ v = .int .i64 (t : Int) ∧ OrdTo ls t ∧ Below w.heap.size w wr) (fun v _ => n - (intOf v).toNat)
        case atStart => exact ⟨0, 1, rfl, Or.inr rfl, rfl, ord_one _, hB⟩
        case round =>
          clear hB
          obtain ⟨k, t, hkt, hk, rfl, hO, hB⟩ := hrel
          by_cases hlt : t < n
          · obtain ⟨x, hx⟩ : ∃ x, ls[k]? = some x := ⟨_, List.getElem?_eq_getElem (by rw [HN.out]; omega)⟩
            obtain ⟨y, hy⟩ : ∃ y, ls[t]? = some y := ⟨_, List.getElem?_eq_getElem (by rw [HN.out]; omega)⟩
            obtain ⟨b, off, rfl, hL2⟩ := hL (by intro h0; rw [h0] at hx; simp at hx)
            have hb := hL2.1
            have h1 := (hB.cell hb).trans (hL2.at hx).1
            have h2 := (hB.cell hb).trans (hL2.at hy).1
            have hO1 := Lib.hid (fun hs => (show OrdTo ls (t + 1) from by subst hkt; exact hO.step hx hy hs))
            have hV := Lib.hid (fun hs => valid_bad (k := k) (by rw [HN.out]; omega) HF.out hx (by rw [hkt]; exact hy) hs)
            have hwt : IntKind.i64.wrap ((t : Int) - 1) = (k : Int) := by
              rw [show ((t : Int) - 1) = (k : Int) by omega]
              simp [IntKind.wrap, IntKind.signed, IntKind.bits]
              omega
            clear hx hy hL hL2 hO HF
            go_upto_region 12 with (fail)
            have hHeld : True := trivial
            refine wp_region_held_drew (S := fun w' => Below wr.drew.heap.size wr.drew w') (by kernel_rfl) (Below.refl _ _) (fun _ => ?_)
            have CB : Below w.heap.size w wr.drew := below_drew hB
            have C0 : ∀ w', Below wr.drew.heap.size wr.drew w' → w'.cell? ⟨b, off + k * 2, none⟩ = some (.string x.1) := fun w' h => (h.cell (Nat.lt_of_lt_of_le hb CB.size)).trans h1
            have C1 : ∀ w', Below wr.drew.heap.size wr.drew w' → w'.cell? ⟨b, off + t * 2, none⟩ = some (.string y.1) := fun w' h => (h.cell (Nat.lt_of_lt_of_le hb CB.size)).trans h2
            clear h1 h2 hB
            have hHeld : Below wr.drew.heap.size wr.drew wr.drew := Below.refl _ _
            generalize wr.drew = V0 at CB C0 C1 hHeld ⊢
            refine wpAnyH_take (i := 0) (oi := ⟨some 32, .move (.tmp 0), 33, "merkle.go:38", #[], none⟩) (v := .slice (some ⟨b, off, none⟩) n c) rfl (by kernel_rfl) (by kernel_rfl) (by kernel_rfl) (fun _ _ _ h => h) (Or.inl ⟨by rfl, fun w' hSw => by go_simp⟩) hHeld ?_
            try simp only [Act.put, List.setIfInBounds_toArray, List.set_cons_zero, List.set_cons_succ]
            refine wpAnyH_take (i := 1) (oi := ⟨some 33, .move (.tmp 5), 3, "merkle.go:38", #[], none⟩) (v := .int .i64 (t : Int)) rfl (by kernel_rfl) (by kernel_rfl) (by kernel_rfl) (fun _ _ _ h => h) (Or.inl ⟨by rfl, fun w' hSw => by go_simp⟩) hHeld ?_
            try simp only [Act.put, List.setIfInBounds_toArray, List.set_cons_zero, List.set_cons_succ]
            refine wpAnyH_take (i := 2) (oi := ⟨some 34, .binOp .sub 3 (.tmp 33) (.const (Value.int IntKind.i64 1)) 3, 3, "merkle.go:38", #[⟨1, .data⟩], none⟩) (v := .int .i64 (k : Int)) rfl (by kernel_rfl) (by kernel_rfl) (by kernel_rfl) (fun _ _ _ h => h) (Or.inl ⟨by rfl, fun w' hSw => by go_simp⟩) hHeld ?_
            try simp only [Act.put, List.setIfInBounds_toArray, List.set_cons_zero, List.set_cons_succ]
            refine wpAnyH_take (i := 3) (oi := ⟨some 35, .indexAddr 33 (.tmp 32) (.tmp 34), 0, "merkle.go:38", #[⟨0, .data⟩, ⟨2, .data⟩], none⟩) (v := .pointer (some ⟨b, off + k * 2, none⟩)) rfl (by kernel_rfl) (by kernel_rfl) (by kernel_rfl) (fun _ _ _ h => h) (Or.inl ⟨by rfl, fun w' hSw => by go_simp; try (intro hcm; exact absurd hcm (by omega))⟩) hHeld ?_
            try simp only [Act.put, List.setIfInBounds_toArray, List.set_cons_zero, List.set_cons_succ]
            refine wpAnyH_take (i := 4) (oi := ⟨some 36, .fieldAddr 41 (.tmp 35) 0, 0, "merkle.go:38", #[⟨3, .data⟩], none⟩) (v := .pointer (some ⟨b, off + k * 2, none⟩)) rfl (by kernel_rfl) (by kernel_rfl) (by kernel_rfl) (fun _ _ _ h => h) (Or.inl ⟨by rfl, fun w' hSw => by go_simp⟩) hHeld ?_
            try simp only [Act.put, List.setIfInBounds_toArray, List.set_cons_zero, List.set_cons_succ]
            refine wpAnyH_take (i := 5) (oi := ⟨some 37, .load 9 (.tmp 36), 9, "merkle.go:38", #[⟨4, .data⟩], none⟩) (v := .string x.1) rfl (by kernel_rfl) (by kernel_rfl) (by kernel_rfl) (fun _ _ _ h => h) (Or.inl ⟨by rfl, fun w' hSw => by have hc := C0 w' hSw; go_simp⟩) hHeld ?_
            try simp only [Act.put, List.setIfInBounds_toArray, List.set_cons_zero, List.set_cons_succ]
            refine wpAnyH_take (i := 6) (oi := ⟨some 38, .move (.tmp 0), 33, "merkle.go:38", #[], none⟩) (v := .slice (some ⟨b, off, none⟩) n c) rfl (by kernel_rfl) (by kernel_rfl) (by kernel_rfl) (fun _ _ _ h => h) (Or.inl ⟨by rfl, fun w' hSw => by go_simp⟩) hHeld ?_
            try simp only [Act.put, List.setIfInBounds_toArray, List.set_cons_zero, List.set_cons_succ]
            refine wpAnyH_take (i := 7) (oi := ⟨some 39, .move (.tmp 5), 3, "merkle.go:38", #[], none⟩) (v := .int .i64 (t : Int)) rfl (by kernel_rfl) (by kernel_rfl) (by kernel_rfl) (fun _ _ _ h => h) (Or.inl ⟨by rfl, fun w' hSw => by go_simp⟩) hHeld ?_
            try simp only [Act.put, List.setIfInBounds_toArray, List.set_cons_zero, List.set_cons_succ]
            refine wpAnyH_take (i := 8) (oi := ⟨some 40, .indexAddr 33 (.tmp 38) (.tmp 39), 0, "merkle.go:38", #[⟨6, .data⟩, ⟨7, .data⟩], none⟩) (v := .pointer (some ⟨b, off + t * 2, none⟩)) rfl (by kernel_rfl) (by kernel_rfl) (by kernel_rfl) (fun _ _ _ h => h) (Or.inl ⟨by rfl, fun w' hSw => by go_simp; try (intro hcm; exact absurd hcm (by omega))⟩) hHeld ?_
            try simp only [Act.put, List.setIfInBounds_toArray, List.set_cons_zero, List.set_cons_succ]
            refine wpAnyH_take (i := 9) (oi := ⟨some 41, .fieldAddr 41 (.tmp 40) 0, 0, "merkle.go:38", #[⟨8, .data⟩], none⟩) (v := .pointer (some ⟨b, off + t * 2, none⟩)) rfl (by kernel_rfl) (by kernel_rfl) (by kernel_rfl) (fun _ _ _ h => h) (Or.inl ⟨by rfl, fun w' hSw => by go_simp⟩) hHeld ?_
            try simp only [Act.put, List.setIfInBounds_toArray, List.set_cons_zero, List.set_cons_succ]
            refine wpAnyH_take (i := 10) (oi := ⟨some 42, .load 9 (.tmp 41), 9, "merkle.go:38", #[⟨9, .data⟩], none⟩) (v := .string y.1) rfl (by kernel_rfl) (by kernel_rfl) (by kernel_rfl) (fun _ _ _ h => h) (Or.inl ⟨by rfl, fun w' hSw => by have hc := C1 w' hSw; go_simp⟩) hHeld ?_
            try simp only [Act.put, List.setIfInBounds_toArray, List.set_cons_zero, List.set_cons_succ]
            refine wpAnyH_take (i := 11) (oi := ⟨some 43, .binOp .geq 9 (.tmp 37) (.tmp 42) 9, 4, "merkle.go:38", #[⟨5, .data⟩, ⟨10, .data⟩], none⟩) (v := .bool (!Op.bytesLess x.1.toList y.1.toList)) rfl (by kernel_rfl) (by kernel_rfl) (by kernel_rfl) (fun _ _ _ h => h) (Or.inl ⟨by rfl, fun w' hSw => by go_simp⟩) hHeld ?_
            try simp only [Act.put, List.setIfInBounds_toArray, List.set_cons_zero, List.set_cons_succ]
            refine wpAnyH_done (by kernel_rfl) ?_ _
            by_cases hs : Op.bytesLess x.1.toList y.1.toList
            · have hO2 := hO1.out hs
              rw [hs]
              go_wp2
              go_roundw
              case rel => exact ⟨t, t + 1, rfl, Or.inl (by omega), by go_num, hO2, CB⟩
              case measure => simp [intOf]; omega
            · have hs' : Op.bytesLess x.1.toList y.1.toList = false := by simpa using hs
              rw [hs']
              go_wp2
              go_ret
              exact ⟨by rw [hV.out hs']; rfl, CB⟩
          · have hV := valid_ok (k := t) (by rw [HN.out]; omega) HF.out hO (by rw [HN.out]; omega)
            go_wp2
            go_ret
            exact ⟨by rw [hV]; rfl, hB⟩

end Go.Proofs.YtfhfmdnimebegaaDoor
