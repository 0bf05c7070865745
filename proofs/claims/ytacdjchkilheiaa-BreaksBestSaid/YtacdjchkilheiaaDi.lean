/-
  BreaksBest: its walk.
-/
import Derived.Test.YtacdjchkilheiaaDg
namespace Go.Proofs.Ytacdjchkilheiaa
open Go.RowKit
set_option linter.unusedVariables false
set_option linter.unusedSimpArgs false

set_option maxHeartbeats 1000000 in
set_option maxRecDepth 100000 in
theorem before_any (a b c d : Int) (w : World) : Calls Try.prog 27 #[.int .i64 a, .int .i64 b, .int .i64 c, .int .i64 d] w fun e w' => e = .returned (.bool (better a b c d)) ∧ w = w' := by
  by_cases h1 : a < c
  · have HR := Lib.hid (better_iff.2 (Or.inl h1) : better a b c d = true)
    go_enter Try.func27, Try.ntmps27
    go_wp2
    go_ret
    exact ⟨by rw [HR.out]; rfl, rfl⟩
  by_cases h2 : a = c
  · subst h2
    have e1 : (a == a) = true := by simp
    by_cases h3 : b < d
    · have HR := Lib.hid (better_iff.2 (Or.inr ⟨rfl, h3⟩) : better a b a d = true)
      go_enter Try.func27, Try.ntmps27
      go_wp2
      go_ret
      exact ⟨by rw [HR.out]; rfl, rfl⟩
    · have HR := Lib.hid (show better a b a d = false from by rw [better_not]; exact Or.inr ⟨rfl, by omega⟩)
      go_enter Try.func27, Try.ntmps27
      go_wp2
      go_ret
      exact ⟨by rw [HR.out]; rfl, rfl⟩
  · have HR := Lib.hid (show better a b c d = false from by rw [better_not]; exact Or.inl (by omega))
    have e1 : (a == c) = false := by simp; exact h2
    go_enter Try.func27, Try.ntmps27
    go_wp2
    go_ret
    exact ⟨by rw [HR.out]; rfl, rfl⟩
theorem small_step {l m : List Int} {k : Nat} {x : Int} (hx : l[k]? = some x) (hy : m[k]? = some x) : smallT (l.drop k) (m.drop k) = smallT (l.drop (k + 1)) (m.drop (k + 1)) := by
  rw [drop_at hx, drop_at hy]
  show (if x = x then _ else _) = _
  rw [if_pos rfl]
theorem small_diff {l m : List Int} {k : Nat} {x y : Int} (hx : l[k]? = some x) (hy : m[k]? = some y) (h : x ≠ y) : smallT (l.drop k) (m.drop k) = decide (x < y) := by
  rw [drop_at hx, drop_at hy]
  show (if x = y then _ else _) = _
  rw [if_neg h]
theorem small_end {l m : List Int} {k : Nat} (h : ¬ k < l.length ∨ ¬ k < m.length) (hk : k ≤ l.length) (hk2 : k ≤ m.length) : smallT (l.drop k) (m.drop k) = decide (l.length < m.length) := by
  have e1 : (l.drop k).length = l.length - k := List.length_drop
  have e2 : (m.drop k).length = m.length - k := List.length_drop
  rcases hl : l.drop k with _ | ⟨x, a⟩
  · rw [hl] at e1
    have e1 : 0 = l.length - k := e1
    show decide ((0 : Nat) < (m.drop k).length) = _
    rw [e2]
    congr 1
    apply propext
    omega
  · rcases hm : m.drop k with _ | ⟨y, b⟩
    · rw [hm] at e2
      have e2 : 0 = m.length - k := e2
      rw [hl] at e1
      show decide ((x :: a).length < 0) = _
      rw [e1]
      congr 1
      apply propext
      omega
    · exfalso
      rw [hl] at e1
      rw [hm] at e2
      rw [List.length_cons] at e1 e2
      omega
def SmRel (l m : List Int) (W : World) (v : Value) (wr : World) : Prop := ∃ k : Nat, v = .int .i64 (k : Int) ∧ k ≤ l.length ∧ k ≤ m.length ∧ smallT (l.drop k) (m.drop k) = smallT l m ∧ Below W.heap.size W wr
set_option maxHeartbeats 2000000 in
set_option maxRecDepth 100000 in
theorem smaller_any (qa qb : Option Addr) (la lb : List Int) (n c m d : Nat) (hla : la.length = n) (hlb : lb.length = m) (hn9 : n ≤ 1000000) (w : World) (hA : At intE w qa la) (hA2 : At intE w qb lb) :
    Calls Try.prog 28 #[.slice qa n c, .slice qb m d] w (Told w (smallT la lb)) := by
  have HN := Lib.hid hla
  have HM := Lib.hid hlb
  clear hla hlb
  generalize hr : smallT la lb = R
  have HR := Lib.hid hr
  clear hr
  go_enter Try.func28, Try.ntmps28
  go_wp2
  go_loopw [5] (fun v wr => SmRel la lb w v wr) (fun v _ => n - (intOf v).toNat)
  case atStart => exact ⟨0, rfl, Nat.zero_le _, Nat.zero_le _, rfl, Below.refl _ _⟩
  case round =>
    obtain ⟨k, rfl, hk1, hk2, hS, hB⟩ := hrel
    rw [HR.out] at hS
    rw [HN.out] at hk1
    rw [HM.out] at hk2
    by_cases h1 : k < n
    · by_cases h2 : k < m
      · obtain ⟨x, hx⟩ : ∃ x, la[k]? = some x := ⟨_, List.getElem?_eq_getElem (by rw [HN.out]; exact h1)⟩
        obtain ⟨y, hy⟩ : ∃ y, lb[k]? = some y := ⟨_, List.getElem?_eq_getElem (by rw [HM.out]; exact h2)⟩
        obtain ⟨b1, o1, rfl, hL⟩ := hA.get (i := k) (by rw [HN.out]; exact h1)
        obtain ⟨b2, o2, rfl, hM⟩ := hA2.get (i := k) (by rw [HM.out]; exact h2)
        have C1 : ∀ w', Below w.heap.size w w' → w'.cell? ⟨b1, o1 + k, none⟩ = some (.int .i64 x) := fun w' h => by have := (hL.keep h).2 k x 0 _ hx rfl; rwa [show intE.k = 1 from rfl, Nat.mul_one, Nat.add_zero] at this
        have C2 : ∀ w', Below w.heap.size w w' → w'.cell? ⟨b2, o2 + k, none⟩ = some (.int .i64 y) := fun w' h => by have := (hM.keep h).2 k y 0 _ hy rfl; rwa [show intE.k = 1 from rfl, Nat.mul_one, Nat.add_zero] at this
        have HE := Lib.hid (fun h : x = y => (by subst h; rw [← small_step hx hy]; exact hS : smallT (la.drop (k + 1)) (lb.drop (k + 1)) = R))
        have HD := Lib.hid (fun h : x ≠ y => (by rw [← hS]; exact small_diff hx hy h : R = decide (x < y)))
        clear hx hy hL hM hS
        go_upto_region 4 with (fail)
        refine wp_region_held_drew (S := fun w' => Below w.heap.size w w') (by kernel_rfl) (below_drew hB) (fun _ => ?_)
        have hHeld : Below w.heap.size w wr.drew := below_drew hB
        generalize wr.drew = V0 at hHeld ⊢
        refine wt (i := 0) (oi := ⟨some 18, .move (.tmp 0), 22, "law.go:136", #[], none⟩) (v := .slice (some ⟨b1, o1, none⟩) n c) (Or.inl ⟨by rfl, fun w' hSw => by go_simp⟩) hHeld ?_
        try simp only [zP, zQ, zS, zZ, zC]
        refine wt (i := 1) (oi := ⟨some 19, .move (.tmp 5), 3, "law.go:136", #[], none⟩) (v := .int .i64 (k : Int)) (Or.inl ⟨by rfl, fun w' hSw => by go_simp⟩) hHeld ?_
        try simp only [zP, zQ, zS, zZ, zC]
        refine wt (i := 2) (oi := ⟨some 20, .indexAddr 22 (.tmp 18) (.tmp 19), 0, "law.go:136", #[⟨0, .data⟩, ⟨1, .data⟩], none⟩) (v := .pointer (some ⟨b1, o1 + k, none⟩)) (Or.inl ⟨by rfl, fun w' hSw => by go_simp; try (intro hcm; exact absurd hcm (by omega))⟩) hHeld ?_
        try simp only [zP, zQ, zS, zZ, zC]
        refine wt (i := 3) (oi := ⟨some 21, .load 3 (.tmp 20), 3, "law.go:136", #[⟨2, .data⟩], none⟩) (v := .int .i64 x) (Or.inl ⟨by rfl, fun w' hSw => by have hc := C1 w' hSw; go_simp⟩) hHeld ?_
        try simp only [zP, zQ, zS, zZ, zC]
        refine wt (i := 4) (oi := ⟨some 22, .move (.tmp 1), 22, "law.go:136", #[], none⟩) (v := .slice (some ⟨b2, o2, none⟩) m d) (Or.inl ⟨by rfl, fun w' hSw => by go_simp⟩) hHeld ?_
        try simp only [zP, zQ, zS, zZ, zC]
        refine wt (i := 5) (oi := ⟨some 23, .move (.tmp 5), 3, "law.go:136", #[], none⟩) (v := .int .i64 (k : Int)) (Or.inl ⟨by rfl, fun w' hSw => by go_simp⟩) hHeld ?_
        try simp only [zP, zQ, zS, zZ, zC]
        refine wt (i := 6) (oi := ⟨some 24, .indexAddr 22 (.tmp 22) (.tmp 23), 0, "law.go:136", #[⟨4, .data⟩, ⟨5, .data⟩], none⟩) (v := .pointer (some ⟨b2, o2 + k, none⟩)) (Or.inl ⟨by rfl, fun w' hSw => by go_simp; try (intro hcm; exact absurd hcm (by omega))⟩) hHeld ?_
        try simp only [zP, zQ, zS, zZ, zC]
        refine wt (i := 7) (oi := ⟨some 25, .load 3 (.tmp 24), 3, "law.go:136", #[⟨6, .data⟩], none⟩) (v := .int .i64 y) (Or.inl ⟨by rfl, fun w' hSw => by have hc := C2 w' hSw; go_simp⟩) hHeld ?_
        try simp only [zP, zQ, zS, zZ, zC]
        refine wt (i := 8) (oi := ⟨some 26, .binOp .neq 3 (.tmp 21) (.tmp 25) 3, 4, "law.go:136", #[⟨3, .data⟩, ⟨7, .data⟩], none⟩) (v := .bool (x != y)) (Or.inl ⟨by rfl, fun w' hSw => by go_simp⟩) hHeld ?_
        try simp only [zP, zQ, zS, zZ, zC]
        refine wpAnyH_done (by kernel_rfl) ?_ _
        have BX := hHeld
        clear hHeld 
        by_cases hxy : x = y
        · have HE2 := Lib.hid (HE.out hxy)
          have e1 : (x != y) = false := by simp [hxy]
          clear HE HD hxy
          go_wp2
          exact ⟨⟨k + 1, by go_num, by rw [HN.out]; omega, by rw [HM.out]; omega, by rw [HR.out]; exact HE2.out, BX⟩, by simp [intOf]; omega⟩
        · have HD2 := Lib.hid (HD.out hxy)
          have e1 : (x != y) = true := by simp [hxy]
          have g1 := C1 V0 BX
          have g2 := C2 V0 BX
          by_cases hlt : x < y
          · clear HE HD hxy
            go_upto_region 5 with (fail)
            refine wp_region_held_drew (S := fun w' => Below w.heap.size w w') (by kernel_rfl) (below_drew BX) (fun _ => ?_)
            have hHeld : Below w.heap.size w V0.drew := below_drew BX
            generalize V0.drew = V1 at hHeld ⊢
            refine wt (i := 0) (oi := ⟨some 27, .move (.tmp 0), 22, "law.go:137", #[], none⟩) (v := .slice (some ⟨b1, o1, none⟩) n c) (Or.inl ⟨by rfl, fun w' hSw => by go_simp⟩) hHeld ?_
            try simp only [zP, zQ, zS, zZ, zC]
            refine wt (i := 1) (oi := ⟨some 28, .move (.tmp 5), 3, "law.go:137", #[], none⟩) (v := .int .i64 (k : Int)) (Or.inl ⟨by rfl, fun w' hSw => by go_simp⟩) hHeld ?_
            try simp only [zP, zQ, zS, zZ, zC]
            refine wt (i := 2) (oi := ⟨some 29, .indexAddr 22 (.tmp 27) (.tmp 28), 0, "law.go:137", #[⟨0, .data⟩, ⟨1, .data⟩], none⟩) (v := .pointer (some ⟨b1, o1 + k, none⟩)) (Or.inl ⟨by rfl, fun w' hSw => by go_simp; try (intro hcm; exact absurd hcm (by omega))⟩) hHeld ?_
            try simp only [zP, zQ, zS, zZ, zC]
            refine wt (i := 3) (oi := ⟨some 30, .load 3 (.tmp 29), 3, "law.go:137", #[⟨2, .data⟩], none⟩) (v := .int .i64 x) (Or.inl ⟨by rfl, fun w' hSw => by have hc := C1 w' hSw; go_simp⟩) hHeld ?_
            try simp only [zP, zQ, zS, zZ, zC]
            refine wt (i := 4) (oi := ⟨some 31, .move (.tmp 1), 22, "law.go:137", #[], none⟩) (v := .slice (some ⟨b2, o2, none⟩) m d) (Or.inl ⟨by rfl, fun w' hSw => by go_simp⟩) hHeld ?_
            try simp only [zP, zQ, zS, zZ, zC]
            refine wt (i := 5) (oi := ⟨some 32, .move (.tmp 5), 3, "law.go:137", #[], none⟩) (v := .int .i64 (k : Int)) (Or.inl ⟨by rfl, fun w' hSw => by go_simp⟩) hHeld ?_
            try simp only [zP, zQ, zS, zZ, zC]
            refine wt (i := 6) (oi := ⟨some 33, .indexAddr 22 (.tmp 31) (.tmp 32), 0, "law.go:137", #[⟨4, .data⟩, ⟨5, .data⟩], none⟩) (v := .pointer (some ⟨b2, o2 + k, none⟩)) (Or.inl ⟨by rfl, fun w' hSw => by go_simp; try (intro hcm; exact absurd hcm (by omega))⟩) hHeld ?_
            try simp only [zP, zQ, zS, zZ, zC]
            refine wt (i := 7) (oi := ⟨some 34, .load 3 (.tmp 33), 3, "law.go:137", #[⟨6, .data⟩], none⟩) (v := .int .i64 y) (Or.inl ⟨by rfl, fun w' hSw => by have hc := C2 w' hSw; go_simp⟩) hHeld ?_
            try simp only [zP, zQ, zS, zZ, zC]
            refine wt (i := 8) (oi := ⟨some 35, .binOp .lss 3 (.tmp 30) (.tmp 34) 3, 4, "law.go:137", #[⟨3, .data⟩, ⟨7, .data⟩], none⟩) (v := .bool true) (Or.inl ⟨by rfl, fun w' hSw => by have h := hlt; go_simp⟩) hHeld ?_
            try simp only [zP, zQ, zS, zZ, zC]
            refine wpAnyH_ready (rs := [9]) (by kernel_rfl) (by simp) ?_
            refine AllReadyH.cons (o := ⟨some 4, .assign (.tmp 35), 4, "law.go:137", #[⟨8, .data⟩, ⟨0, .phase⟩, ⟨1, .phase⟩, ⟨2, .phase⟩, ⟨3, .phase⟩, ⟨4, .phase⟩, ⟨5, .phase⟩, ⟨6, .phase⟩, ⟨7, .phase⟩, ⟨8, .phase⟩], none⟩) rfl (fun K hK => ?_) AllReadyH.nil
            go_simp
            refine hK.out _ _ (hHeld) (fun hHeld => ?_)
            clear hK K
            try simp only [zP, zQ, zS, zZ, zC]
            refine wpAnyH_done (by kernel_rfl) ?_ _
            have BY := hHeld
            clear hHeld 
            go_wp2
            go_ret
            exact ⟨by rw [HD2.out, decide_eq_true hlt]; rfl, BY⟩
          · clear HE HD hxy
            go_upto_region 5 with (fail)
            refine wp_region_held_drew (S := fun w' => Below w.heap.size w w') (by kernel_rfl) (below_drew BX) (fun _ => ?_)
            have hHeld : Below w.heap.size w V0.drew := below_drew BX
            generalize V0.drew = V1 at hHeld ⊢
            refine wt (i := 0) (oi := ⟨some 27, .move (.tmp 0), 22, "law.go:137", #[], none⟩) (v := .slice (some ⟨b1, o1, none⟩) n c) (Or.inl ⟨by rfl, fun w' hSw => by go_simp⟩) hHeld ?_
            try simp only [zP, zQ, zS, zZ, zC]
            refine wt (i := 1) (oi := ⟨some 28, .move (.tmp 5), 3, "law.go:137", #[], none⟩) (v := .int .i64 (k : Int)) (Or.inl ⟨by rfl, fun w' hSw => by go_simp⟩) hHeld ?_
            try simp only [zP, zQ, zS, zZ, zC]
            refine wt (i := 2) (oi := ⟨some 29, .indexAddr 22 (.tmp 27) (.tmp 28), 0, "law.go:137", #[⟨0, .data⟩, ⟨1, .data⟩], none⟩) (v := .pointer (some ⟨b1, o1 + k, none⟩)) (Or.inl ⟨by rfl, fun w' hSw => by go_simp; try (intro hcm; exact absurd hcm (by omega))⟩) hHeld ?_
            try simp only [zP, zQ, zS, zZ, zC]
            refine wt (i := 3) (oi := ⟨some 30, .load 3 (.tmp 29), 3, "law.go:137", #[⟨2, .data⟩], none⟩) (v := .int .i64 x) (Or.inl ⟨by rfl, fun w' hSw => by have hc := C1 w' hSw; go_simp⟩) hHeld ?_
            try simp only [zP, zQ, zS, zZ, zC]
            refine wt (i := 4) (oi := ⟨some 31, .move (.tmp 1), 22, "law.go:137", #[], none⟩) (v := .slice (some ⟨b2, o2, none⟩) m d) (Or.inl ⟨by rfl, fun w' hSw => by go_simp⟩) hHeld ?_
            try simp only [zP, zQ, zS, zZ, zC]
            refine wt (i := 5) (oi := ⟨some 32, .move (.tmp 5), 3, "law.go:137", #[], none⟩) (v := .int .i64 (k : Int)) (Or.inl ⟨by rfl, fun w' hSw => by go_simp⟩) hHeld ?_
            try simp only [zP, zQ, zS, zZ, zC]
            refine wt (i := 6) (oi := ⟨some 33, .indexAddr 22 (.tmp 31) (.tmp 32), 0, "law.go:137", #[⟨4, .data⟩, ⟨5, .data⟩], none⟩) (v := .pointer (some ⟨b2, o2 + k, none⟩)) (Or.inl ⟨by rfl, fun w' hSw => by go_simp; try (intro hcm; exact absurd hcm (by omega))⟩) hHeld ?_
            try simp only [zP, zQ, zS, zZ, zC]
            refine wt (i := 7) (oi := ⟨some 34, .load 3 (.tmp 33), 3, "law.go:137", #[⟨6, .data⟩], none⟩) (v := .int .i64 y) (Or.inl ⟨by rfl, fun w' hSw => by have hc := C2 w' hSw; go_simp⟩) hHeld ?_
            try simp only [zP, zQ, zS, zZ, zC]
            refine wt (i := 8) (oi := ⟨some 35, .binOp .lss 3 (.tmp 30) (.tmp 34) 3, 4, "law.go:137", #[⟨3, .data⟩, ⟨7, .data⟩], none⟩) (v := .bool false) (Or.inl ⟨by rfl, fun w' hSw => by have h := hlt; go_simp⟩) hHeld ?_
            try simp only [zP, zQ, zS, zZ, zC]
            refine wpAnyH_ready (rs := [9]) (by kernel_rfl) (by simp) ?_
            refine AllReadyH.cons (o := ⟨some 4, .assign (.tmp 35), 4, "law.go:137", #[⟨8, .data⟩, ⟨0, .phase⟩, ⟨1, .phase⟩, ⟨2, .phase⟩, ⟨3, .phase⟩, ⟨4, .phase⟩, ⟨5, .phase⟩, ⟨6, .phase⟩, ⟨7, .phase⟩, ⟨8, .phase⟩], none⟩) rfl (fun K hK => ?_) AllReadyH.nil
            go_simp
            refine hK.out _ _ (hHeld) (fun hHeld => ?_)
            clear hK K
            try simp only [zP, zQ, zS, zZ, zC]
            refine wpAnyH_done (by kernel_rfl) ?_ _
            have BY := hHeld
            clear hHeld 
            go_wp2
            go_ret
            exact ⟨by rw [HD2.out, decide_eq_false (by omega)]; rfl, BY⟩
      · have HS := Lib.hid (show R = decide (n < m) from by rw [← hS, small_end (Or.inr (by rw [HM.out]; exact h2)) (by rw [HN.out]; exact hk1) (by rw [HM.out]; exact hk2), HN.out, HM.out])
        have hnm : ¬ n < m := by omega
        clear hS
        go_wp2
        go_ret
        exact ⟨by rw [HS.out, decide_eq_false hnm]; rfl, hB⟩
    · have HS := Lib.hid (show R = decide (n < m) from by rw [← hS, small_end (Or.inl (by rw [HN.out]; exact h1)) (by rw [HN.out]; exact hk1) (by rw [HM.out]; exact hk2), HN.out, HM.out])
      by_cases hnm : n < m
      · clear hS
        go_wp2
        go_ret
        exact ⟨by rw [HS.out, decide_eq_true hnm]; rfl, hB⟩
      · clear hS
        go_wp2
        go_ret
        exact ⟨by rw [HS.out, decide_eq_false hnm]; rfl, hB⟩
def BiRel (W : World) (v : Value) (wr : World) : Prop := ∃ j : Nat, j ≤ 256 ∧ v = .int .i64 ((2 * j : Nat) : Int) ∧ Below W.heap.size W wr
/-- What a law of the best division asks of some ends. -/
theorem worse_no {L : List Int} {bl wd : Int} (hF : Fine L bl wd) {D E Lp Cp : List Int} {a0 b0 a b : Int} (hD : measT L bl wd D = (a, b, 0)) (hE : okE (frT L bl wd) L.length 0 E) (ha : (E.length : Int) = a0) (hb : coE (prT L bl wd) 0 E = b0) (h : better a0 b0 a b = true) : chkT L bl wd D Lp Cp ≠ 0 := by
  unfold chkT
  rw [if_pos (err_fine hF)]
  split
  · rename_i ho
    have := ok_low hF ho hE
    rw [hD, ha, hb] at this
    have this : Le2 a b a0 b0 := this
    rw [better_iff] at h
    unfold Le2 Lt2 at *
    omega
  · omega

set_option maxHeartbeats 8000000 in
set_option maxRecDepth 100000 in
theorem breaksBest_any (A : Option Addr) (l : List Int) (n0 c0 : Nat) (hl : l.length = n0) (n m0 how by_ : Int) (h1 : -9223372036854775808 ≤ n) (h2 : n ≤ 9223372036854775807) (h3 : -9223372036854775808 ≤ m0) (h4 : m0 ≤ 9223372036854775807) (h5 : -9223372036854775808 ≤ how) (h6 : how ≤ 9223372036854775807) (h7 : -9223372036854775808 ≤ by_) (h8 : by_ ≤ 9223372036854775807) (w : World) (hA : IntsAt w A l) :
    Calls Try.prog 6 #[.slice A n0 c0, .int .i64 n, .int .i64 m0, .int .i64 how, .int .i64 by_] w (Told w true) := by
  have HPg := Lib.hid (page_any n m0 h1 h2 h3 h4 w)
  have HWi := Lib.hid (fun (V : World) (h : Below w.heap.size w V) => (widths_any A l n0 c0 hl V (hA.keep h)))
  have HLv := Lib.hid (fun V : World => lives_any V)
  clear hl h1 h2 h3 h4 hA
  go_enter Try.func6, Try.ntmps6
  go_upto_region 2 with (go_at_call 8; refine HPg.out.mono ?_; rintro en W1 ⟨bl, wd, rfl, hbl, hwd, hB⟩)
  have HWi := Lib.hid (HWi.out W1 hB)
  go_upto_region 3 with (go_at_call 9; refine HWi.out.mono ?_; rintro en W2 ⟨L, hT, v, rfl, hO, hB2⟩; obtain ⟨q, c, rfl, hc, hAt, _, _⟩ := hO.form)
  replace hB := link hB hB2
  obtain ⟨nw, hnw⟩ : ∃ nw, L.length = nw := ⟨_, rfl⟩
  rw [hnw] at hc
  rw [hnw]
  have hnw9 : nw ≤ 9 := by have := hT.1; omega
  obtain ⟨E, Lf, Cf, k0, hfi, hE9, hL9, hC9, hk⟩ := fill_law hT bl wd
  obtain ⟨fE, fL, fC⟩ := fill_few hT hfi
  obtain ⟨ne, hne⟩ : ∃ ne, E.length = ne := ⟨_, rfl⟩
  obtain ⟨nl, hnl⟩ : ∃ ne, Lf.length = ne := ⟨_, rfl⟩
  obtain ⟨nc, hnc⟩ : ∃ ne, Cf.length = ne := ⟨_, rfl⟩
  have HFi := Lib.hid (fill_g (c := c) hnw (hAt.ints (tens_few hT)) hfi hne hnl hnc (by omega) (by omega) (by omega))
  have HAt := Lib.hid (fun (V : World) (h : Below W2.heap.size W2 V) => (hAt.keep h).ints (tens_few hT))
  have HKw := Lib.hid (fun h : k0 ≠ 0 => (show wideT L wd = true ∨ errT L bl wd ≠ 0 from by
    by_cases he : errT L bl wd = 0
    · rcases hw : wideT L wd with _ | _
      · rw [fillA_good (fine_of he) hw] at hfi
        exfalso
        injection hfi with _ hfi
        injection hfi with _ hfi
        injection hfi with _ hfi
        exact h hfi.symm
      · exact Or.inl rfl
    · exact Or.inr he))
  clear hO hAt HPg HWi hB2 hfi hbl hwd
  go_upto_region 4 with (first
    | (go_at_call 10; refine HFi.out.mono ?_; rintro en W3 ⟨qe, ql, qc, ce, cl, cc, rfl, hCt3, hB3⟩)
    | (refine store_blk rfl 28 (.tmp 14) (.tmp 45) rfl (blk_new W3 28 zeroCt.toArray) rfl rfl (vs := [.slice qe ne ce, .slice ql nl cl, .slice qc nc cc]) (m := 3) (by kernel_rfl) rfl rfl (by intro v hv; simp at hv; rcases hv with rfl | rfl | rfl <;> rfl) ?_; intro W4 K2 O2))
  try simp only [zP, zQ, zS, zZ, zC]
  have X2 : Below W3.heap.size W3 W4 := O2.2.2 _ _ (Nat.le_refl _) ((Below.refl _ _).alloc (Nat.le_refl _) _)
  have XB := Lib.hid (link (link hB hB3) X2)
  have HAt := Lib.hid (fun (V : World) (h : Below W4.heap.size W4 V) => HAt.out V (link (link hB3 X2) h))
  obtain ⟨cb, hcb⟩ : ∃ cb, W3.heap.size = cb := ⟨_, rfl⟩
  rw [hcb] at K2
  rw [hcb]
  have hCt := hCt3.keep X2
  have HNw := Lib.hid hnw
  clear O2 X2 hB hB3 hcb hCt3 HFi
  rcases hk with ⟨hk, _⟩ | ⟨rfl, hF, hw, hEe, hLe, hCe⟩
  · have hkb : (k0 == 0) = false := beq_eq_false_iff_ne.2 hk
    have HWd := Lib.hid (fun V : World => (fun h : Below W4.heap.size W4 V => rwide_any q L nw c HNw.out (by omega) wd V (HAt.out V h)))
    have HEr := Lib.hid (fun V : World => (fun h : Below W4.heap.size W4 V => rerror_any q L nw c HNw.out (by omega) bl wd V (HAt.out V h)))
    have hkw := HKw.out hk
    clear HKw K2 hCt fE fL fC hne hnl hnc hE9 hL9 hC9 hT hnw
    have hrf := Below.refl W4.heap.size W4
    have HW4 := Lib.hid (HWd.out W4 hrf)
    have HE4 := Lib.hid (HEr.out W4 hrf)
    clear HWd HEr hrf
    generalize wideT L wd = z at *
    generalize errT L bl wd = er at *
    rcases z with _ | _
    · have her : er ≠ 0 := hkw.resolve_left (by simp)
      have herb : (er == 0) = false := beq_eq_false_iff_ne.2 her
      have herc : (er != 0) = true := by simp; exact her
      clear hkw
      go_wp2_with (first
        | (go_at_call 25; refine HW4.out.mono ?_; rintro en W5 ⟨rfl, rfl⟩)
        | (go_at_call 26; refine HE4.out.mono ?_; rintro en W6 ⟨rfl, rfl⟩)
        | (go_at_call 17; refine (HLv.out _).mono ?_; rintro en W9 ⟨rfl, hB9⟩))
      go_ret
      exact ⟨rfl, link XB.out hB9⟩
    · clear hkw
      go_wp2_with (go_at_call 25; refine HW4.out.mono ?_; rintro en W5 ⟨rfl, rfl⟩)
      go_ret
      exact ⟨rfl, XB.out⟩
  have hB0 := best_fill hF hw
  obtain ⟨hok, hlen, hco⟩ := fill_ok hB0 (N := (fillT L bl wd).2.2) (fun j hj => rfl) L.length 0 (Nat.zero_le _) (by omega)
  rw [← hEe] at hok hlen hco
  have hms := ok_measT hok
  have hcost : costA L bl wd E = ((E.length : Int), coE (prT L bl wd) 0 E, 0) := by unfold costA; rw [if_pos (err_fine hF), hms]
  have hchk : chkT L bl wd E Lf Cf = 0 := by
    have := fill_shows hF hw (by omega)
    rw [← hEe, ← hLe, ← hCe] at this
    exact chk_yes (err_fine hF) this
  obtain ⟨a0, ha0⟩ : ∃ a0 : Int, (E.length : Int) = a0 := ⟨_, rfl⟩
  obtain ⟨b0, hb0⟩ : ∃ b0 : Int, coE (prT L bl wd) 0 E = b0 := ⟨_, rfl⟩
  rw [ha0] at hlen
  rw [hb0] at hco
  rw [ha0, hb0] at hcost
  have HCo := Lib.hid (fun (qs : Option Addr) (ls : List Int) (ns cs : Nat) (hls : ls.length = ns) (hs : ns ≤ 1000) (V : World) (h : Below W4.heap.size W4 V) (hA : IntsAt V qs ls) => cost_any q L nw c HNw.out bl wd qs ls ns cs hls (by omega) V (HAt.out V h) hA)
  have HCk := Lib.hid (fun (qs : Option Addr) (D Lp Cp : List Int) (ns cs : Nat) (hls : D.length = ns) (hs : ns ≤ 1000) (qp qr : Option Addr) (np cp nr cr : Nat) (hp : Lp.length = np) (hr : Cp.length = nr) (V : World) (h : Below W4.heap.size W4 V) (hA : IntsAt V qs D) (hA1 : IntsAt V qp Lp) (hA2 : IntsAt V qr Cp) => chk_any q L nw c HNw.out bl wd qs D Lp Cp ns cs hls (by omega) qp np cp qr nr cr hp hr V (HAt.out V h) hA hA1 hA2)
  have hrf := Below.refl W4.heap.size W4
  have HC4 := Lib.hid (by have := HCo.out qe E ne ce hne (by omega) W4 hrf (hCt.2.2.2.2.2.2.1.ints fE); rw [hcost] at this; exact this)
  have HK5 := Lib.hid (fun (V : World) (h : Below W4.heap.size W4 V) => (by have := HCk.out qe E Lf Cf ne ce hne (by omega) ql qc nl cl nc cc hnl hnc V h ((hCt.keep h).2.2.2.2.2.2.1.ints fE) ((hCt.keep h).2.2.2.2.2.2.2.1.ints fL) ((hCt.keep h).2.2.2.2.2.2.2.2.ints fC); rw [hchk] at this; exact this))
  have HBt := Lib.hid (fun (V : World) (h : Below W4.heap.size W4 V) => bent_any qe ne ce ql nl cl qc nc cc E Lf Cf hne hnl hnc 10 (by omega) (by omega) (by omega) (by omega) fE fL fC how by_ h5 h6 h7 h8 V ((hCt.keep h).2.2.2.2.2.2.1) ((hCt.keep h).2.2.2.2.2.2.2.1) ((hCt.keep h).2.2.2.2.2.2.2.2))
  have HE := Lib.hid (fun (V : World) (h : Below W4.heap.size W4 V) => (hCt.keep h).2.2.2.2.2.2.1)
  have HCR := Lib.hid (fun (V : World) (h : Below W4.heap.size W4 V) => (by have := (K2.keep h).range 0 3; exact this : V.rangeAt cb 0 [.slice qe ne ce, .slice ql nl cl, .slice qc nc cc]))
  have HC0 := Lib.hid (fun (V : World) (h : Below W4.heap.size W4 V) => (K2.keep h).cell (j := 0) rfl)
  have d0 := HC0.out W4 hrf
  unfold ThreeR at HC4
  have HMath := Lib.hid (show ∀ D : List Int, ∀ a b : Int, measT L bl wd D = (a, b, 0) → better a b a0 b0 = false ∧ (a = a0 → b = b0 → smallT D E = false) ∧ ∀ Lp Cp, better a0 b0 a b = true → chkT L bl wd D Lp Cp ≠ 0 from fun D a b hD => by
    have hokD := measT_ok (E := D) (by rw [hD])
    have hmD := ok_measT hokD
    rw [hD] at hmD
    injection hmD with ea hmD
    injection hmD with eb _
    have hlow := low_ok (by rw [hB0.ln]; exact Int.le_refl _) (by rw [hB0.cn]; exact Int.le_refl _) (fun k hk e a b c => (hB0.low k hk e a b c).1) D 0 hokD
    rw [← ea, ← eb, ← hlen, ← hco] at hlow
    refine ⟨by rw [better_not]; exact hlow, fun e1 e2 => ?_, fun Lp Cp h => worse_no hF hD hok ha0 hb0 h⟩
    rw [hEe]
    exact low_first hB0 (N := (fillT L bl wd).2.2) (fun j hj => rfl) D L.length 0 (Nat.zero_le _) (by omega) hokD (by rw [← ea, e1]; exact hlen) (by rw [← eb, e2]; exact hco))
  obtain ⟨hgo, hgl⟩ := greedyT_ok hF hw
  have hgA : greedyA L bl wd = (greedyT L bl wd, 0) := by unfold greedyA; rw [if_pos (err_fine hF), if_neg (by rw [hw]; simp)]
  have hgm := ok_measT hgo
  have hglow := low_ok (by rw [hB0.ln]; exact Int.le_refl _) (by rw [hB0.cn]; exact Int.le_refl _) (fun k hk e a b c => (hB0.low k hk e a b c).1) _ 0 hgo
  have hgn := greedyA_len L bl wd
  rw [hgA] at hgn
  have hgn : (greedyT L bl wd).length ≤ 1000 := hgn
  rw [← hlen, ← hco] at hglow
  rw [← hlen] at hgl
  obtain ⟨ng, hng⟩ : ∃ ng, (greedyT L bl wd).length = ng := ⟨_, rfl⟩
  obtain ⟨bg, hbg⟩ : ∃ bg, coE (prT L bl wd) 0 (greedyT L bl wd) = bg := ⟨_, rfl⟩
  have hbb : b0 ≤ bg := by
    rw [hgl, hbg] at hglow
    rcases hglow with h | h
    · omega
    · exact h.2
  have hgc : costA L bl wd (greedyT L bl wd) = (a0, bg, 0) := by unfold costA; rw [if_pos (err_fine hF), hgm, hgl, hbg]
  have hgf : Few (greedyT L bl wd) := fun x hx => by have := ok_mem hgo x hx; omega
  have HG := Lib.hid (fun (V : World) (h : Below W4.heap.size W4 V) => (show Calls Try.prog 12 #[.slice q nw c, .int .i64 bl, .int .i64 wd] V (ListG (greedyT L bl wd) ng 0 V) from by
    have := greedy_any q L nw c HNw.out bl wd V (HAt.out V h)
    rw [hgA] at this
    exact this.mono (fun _ _ g => g.give hng)))
  have HGc := Lib.hid (fun (qs : Option Addr) (cs : Nat) (V : World) (h : Below W4.heap.size W4 V) (hA : At intE V qs (greedyT L bl wd)) => (by have := HCo.out qs (greedyT L bl wd) ng cs hng (by omega) V h (hA.ints hgf); rw [hgc] at this; exact this))
  unfold ThreeR at HGc
  generalize greedyT L bl wd = G at *
  have HErr := Lib.hid (err_fine hF)
  have HNe := Lib.hid hne
  clear hB0 hok hlen hco hms hcost hchk hEe hLe hCe hgo hgA hgm hglow hgl hgc hgf hF hw hne hnl hnc hnw hT fE fL fC hCt K2 HKw
  go_upto_region 7 with (go_at_call 20; refine HC4.out.mono ?_; rintro en W5 ⟨rfl, hB5⟩)
  try dsimp only
  have g1 := HCR.out W5 hB5
  have HK5 := Lib.hid (HK5.out W5 hB5)
  clear d0 HC4 hrf
  go_upto_region 9 with (first
    | (refine load_wanted3 (by rfl) 28 (.tmp 14) rfl cb 0 rfl [.slice qe ne ce, .slice ql nl cl, .slice qc nc cc] _ g1 Try.underlying28 rfl (by kernel_rfl) ?_)
    | (go_at_call 22; refine HK5.out.mono ?_; rintro en W6 ⟨rfl, hB6⟩))
  replace hB5 := link hB5 hB6
  have g1 := HCR.out W6 hB5
  go_upto_region 10 with (first
    | (refine load_wanted3 (by rfl) 28 (.tmp 14) rfl cb 0 rfl [.slice qe ne ce, .slice ql nl cl, .slice qc nc cc] _ g1 Try.underlying28 rfl (by kernel_rfl) ?_)
    | (go_at_call 15; refine (plain_any qe ne ce ql nl cl qc nc cc W6).mono ?_; rintro en W7 ⟨rfl, hB7⟩; have hB8 := link hB5 hB7)
    | (go_at_call 19; refine (HBt.out W7 hB8).mono ?_; rintro en W8 ⟨E5, L5, C5, qe5, ql5, qc5, ne5, nl5, nc5, ce5, cl5, cc5, rfl, hCt5, hm5, hm6, hm7, fE5, fL5, fC5, hB9⟩)
    | (refine store_blk rfl 32 (.tmp 19) (.tmp 86) rfl (blk_new W8 32 zeroCt.toArray) rfl rfl (vs := [.slice qe5 ne5 ce5, .slice ql5 nl5 cl5, .slice qc5 nc5 cc5]) (m := 3) (by kernel_rfl) rfl rfl (by intro v hv; simp at hv; rcases hv with rfl | rfl | rfl <;> rfl) ?_; intro W9 K2 O2))
  try simp only [zP, zQ, zS, zZ, zC]
  have X2 : Below W8.heap.size W8 W9 := O2.2.2 _ _ (Nat.le_refl _) ((Below.refl _ _).alloc (Nat.le_refl _) _)
  have HB9 := Lib.hid (link (link hB8 hB9) X2)
  obtain ⟨pb, hpb⟩ : ∃ pb, W8.heap.size = pb := ⟨_, rfl⟩
  rw [hpb] at K2
  rw [hpb]
  have hCp := hCt5.keep X2
  have HP1 := Lib.hid (fun (V : World) (h : Below W9.heap.size W9 V) => (K2.keep h).cell (j := 1) rfl)
  have HP2 := Lib.hid (fun (V : World) (h : Below W9.heap.size W9 V) => (K2.keep h).cell (j := 2) rfl)
  have HPc := Lib.hid (fun (V : World) (h : Below W9.heap.size W9 V) => hCp.keep h)
  have HEn := Lib.hid (fun (j : Int) (V : World) => ends_any nw hnw9 j V)
  clear g1 K2 O2 X2 hB5 hB6 hB7 hB8 hB9 hCt5 hpb hCp HK5 HBt HCR
  go_wp2
  go_loopw [20] (fun v wr => BiRel W9 v wr) (fun v _ => 512 - (intOf v).toNat)
  case atStart => exact ⟨0, Nat.zero_le _, rfl, Below.refl _ _⟩
  case round =>
    obtain ⟨j, hj, rfl, hB⟩ := hrel
    rcases Nat.lt_or_ge j 256 with hlt | hge
    · obtain ⟨jj, hjj⟩ : ∃ jj : Nat, 2 * j = jj := ⟨_, rfl⟩
      rw [hjj]
      have hj5 : (jj : Int) < 512 := by omega
      have HJ := Lib.hid hjj
      clear hjj
      go_upto_region 14 with (go_at_call 18; refine (HEn.out (jj : Int) wr).mono ?_; rintro en W10 ⟨Ds, hD1, hD2, v, rfl, hO, hB1⟩; obtain ⟨qd, cd, rfl, _, hAd, _, _⟩ := hO.form)
      obtain ⟨nd, hnd⟩ : ∃ nd, Ds.length = nd := ⟨_, rfl⟩
      rw [hnd]
      replace hB := link hB hB1
      have hB4 := link HB9.out hB
      have fD : Few Ds := fun x hx => by have := hD2 x hx; omega
      have HCd := Lib.hid (HCo.out qd Ds nd cd hnd (by omega) W10 hB4 (hAd.ints fD))
      obtain ⟨⟨a, b, k⟩, hr⟩ : ∃ r, costA L bl wd Ds = r := ⟨_, rfl⟩
      have hr2 : measT L bl wd Ds = (a, b, k) := by rw [← hr]; unfold costA; rw [if_pos HErr.out]
      rw [hr] at HCd
      unfold ThreeR at HCd
      clear hO hB1 hr
      go_upto_region 15 with (go_at_call 20; refine HCd.out.mono ?_; rintro en W11 ⟨rfl, hB2⟩)
      try dsimp only
      replace hB := link hB hB2
      have hAd := hAd.keep hB2
      clear hB4 HCd
      by_cases hk : k = 0
      case neg =>
        have hkb : (k == 0) = false := beq_eq_false_iff_ne.2 hk
        clear hr2
        go_wp2
        exact ⟨⟨j + 1, by omega, by have := HJ.out; rw [show 2 * (j + 1) = jj + 2 by omega]; go_num, hB⟩, by have := HJ.out; simp [intOf]; omega⟩
      subst hk
      obtain ⟨m1, m2, m3⟩ := HMath.out Ds a b hr2
      have HM2 := Lib.hid m2
      have HM3 := Lib.hid m3
      have HLess := Lib.hid (fun V : World => (by have := before_any a b a0 b0 V; rw [m1] at this; exact this : Calls Try.prog 27 #[.int .i64 a, .int .i64 b, .int .i64 a0, .int .i64 b0] V fun e w' => e = .returned (.bool false) ∧ V = w'))
      clear m1 m2 m3 hr2
      go_upto_region 17 with (go_at_call 27; refine (HLess.out W11).mono ?_; rintro en W12 ⟨rfl, rfl⟩)
      have hB4 := link HB9.out hB
      have d0 := HC0.out W11 hB4
      by_cases ha : a = a0
      · have e1 : (a == a0) = true := by simp [ha]
        by_cases hb : b = b0
        · have e2 : (b == b0) = true := by simp [hb]
          have hsm := HM2.out ha hb
          have HS := Lib.hid (by have := smaller_any qd qe Ds E nd cd ne ce hnd HNe.out (by omega) W11 hAd (HE.out W11 hB4); rw [hsm] at this; exact this)
          have HBf := Lib.hid (fun V : World => (by have := before_any a0 b0 a b V; rw [ha, hb, show better a0 b0 a0 b0 = false from by rw [better_not]; exact Or.inr ⟨rfl, Int.le_refl _⟩] at this; rw [ha, hb]; exact this : Calls Try.prog 27 #[.int .i64 a0, .int .i64 b0, .int .i64 a, .int .i64 b] V fun e w' => e = .returned (.bool false) ∧ V = w'))
          clear ha hb hsm
          go_wp2_with (first
            | (go_at_call 28; refine HS.out.mono ?_; rintro en W12 ⟨rfl, hB12⟩)
            | (go_at_call 27; refine (HBf.out W12).mono ?_; rintro en W13 ⟨rfl, rfl⟩))
          exact ⟨⟨j + 1, by omega, by have := HJ.out; rw [show 2 * (j + 1) = jj + 2 by omega]; go_num, link hB hB12⟩, by have := HJ.out; simp [intOf]; omega⟩
        · have e2 : (b == b0) = false := beq_eq_false_iff_ne.2 hb
          clear ha hb
          obtain ⟨z, hz⟩ : ∃ z, better a0 b0 a b = z := ⟨_, rfl⟩
          have HBf := Lib.hid (fun V : World => (by have := before_any a0 b0 a b V; rw [hz] at this; exact this : Calls Try.prog 27 #[.int .i64 a0, .int .i64 b0, .int .i64 a, .int .i64 b] V fun e w' => e = .returned (.bool z) ∧ V = w'))
          rcases z with _ | _
          · clear hz
            go_wp2_with (go_at_call 27; refine (HBf.out W11).mono ?_; rintro en W13 ⟨rfl, rfl⟩)
            exact ⟨⟨j + 1, by omega, by have := HJ.out; rw [show 2 * (j + 1) = jj + 2 by omega]; go_num, hB⟩, by have := HJ.out; simp [intOf]; omega⟩
          · have hc := HM3.out L5 C5 hz
            have f1 := HP1.out W11 hB
            have f2 := HP2.out W11 hB
            have hCp := HPc.out W11 hB
            have HCc := Lib.hid (HCk.out qd Ds L5 C5 nd cd hnd (by omega) ql5 qc5 nl5 cl5 nc5 cc5 hCp.2.1 hCp.2.2.1 W11 hB4 (hAd.ints fD) (hCp.2.2.2.2.2.2.2.1.ints fL5) (hCp.2.2.2.2.2.2.2.2.ints fC5))
            generalize chkT L bl wd Ds L5 C5 = r at hc HCc
            have hr0 : (r == 0) = false := beq_eq_false_iff_ne.2 hc
            clear hz hCp hc
            go_wp2_with (first
              | (go_at_call 27; refine (HBf.out W11).mono ?_; rintro en W13 ⟨rfl, rfl⟩)
              | (go_at_call 22; refine HCc.out.mono ?_; rintro en W14 ⟨rfl, hB14⟩))
            exact ⟨⟨j + 1, by omega, by have := HJ.out; rw [show 2 * (j + 1) = jj + 2 by omega]; go_num, link hB hB14⟩, by have := HJ.out; simp [intOf]; omega⟩
      · have e1 : (a == a0) = false := beq_eq_false_iff_ne.2 ha
        clear ha
        obtain ⟨z, hz⟩ : ∃ z, better a0 b0 a b = z := ⟨_, rfl⟩
        have HBf := Lib.hid (fun V : World => (by have := before_any a0 b0 a b V; rw [hz] at this; exact this : Calls Try.prog 27 #[.int .i64 a0, .int .i64 b0, .int .i64 a, .int .i64 b] V fun e w' => e = .returned (.bool z) ∧ V = w'))
        rcases z with _ | _
        · clear hz
          go_wp2_with (go_at_call 27; refine (HBf.out W11).mono ?_; rintro en W13 ⟨rfl, rfl⟩)
          exact ⟨⟨j + 1, by omega, by have := HJ.out; rw [show 2 * (j + 1) = jj + 2 by omega]; go_num, hB⟩, by have := HJ.out; simp [intOf]; omega⟩
        · have hc := HM3.out L5 C5 hz
          have f1 := HP1.out W11 hB
          have f2 := HP2.out W11 hB
          have hCp := HPc.out W11 hB
          have HCc := Lib.hid (HCk.out qd Ds L5 C5 nd cd hnd (by omega) ql5 qc5 nl5 cl5 nc5 cc5 hCp.2.1 hCp.2.2.1 W11 hB4 (hAd.ints fD) (hCp.2.2.2.2.2.2.2.1.ints fL5) (hCp.2.2.2.2.2.2.2.2.ints fC5))
          generalize chkT L bl wd Ds L5 C5 = r at hc HCc
          have hr0 : (r == 0) = false := beq_eq_false_iff_ne.2 hc
          clear hz hCp hc
          go_wp2_with (first
            | (go_at_call 27; refine (HBf.out W11).mono ?_; rintro en W13 ⟨rfl, rfl⟩)
            | (go_at_call 22; refine HCc.out.mono ?_; rintro en W14 ⟨rfl, hB14⟩))
          exact ⟨⟨j + 1, by omega, by have := HJ.out; rw [show 2 * (j + 1) = jj + 2 by omega]; go_num, link hB hB14⟩, by have := HJ.out; simp [intOf]; omega⟩
    · obtain rfl : j = 256 := by omega
      have hB4 := link HB9.out hB
      have e1 : (a0 == a0) = true := by simp
      go_upto_region 23 with (go_at_call 12; refine (HG.out wr hB4).mono ?_; rintro en W10 ⟨qg, cg, rfl, hAg, hB1⟩)
      have HGc := Lib.hid (HGc.out qg cg W10 (link hB4 hB1) hAg)
      go_wp2_with (first
        | (go_at_call 20; refine HGc.out.mono ?_; rintro en W11 ⟨rfl, hB2⟩)
        | (go_at_call 17; refine (HLv.out _).mono ?_; rintro en W12 ⟨rfl, hB3⟩))
      go_ret
      exact ⟨rfl, link XB.out (link hB4 (link hB1 (link hB2 hB3)))⟩
end Go.Proofs.Ytacdjchkilheiaa
