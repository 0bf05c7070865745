/-
  Lists of texts, numbers and pairs: elements; whether two lists are the same.
-/
import Derived.Test.YtehkgpefmjfifaaKf
import Derived.BigQuiet
import Derived.Lib.Strings
namespace Go.Proofs.Ytehkgpefmjfifaa
open Go.RowKit
set_option linter.unusedVariables false
set_option linter.unusedSimpArgs false

/-- Strings as elements. -/
def strE : Elt ByteArray where
  T := 9
  ST := 23
  k := 1
  bytes := 16
  zero := .string ByteArray.empty
  enc := fun s => [.string s]
  info := by kernel_rfl
  und := Try.underlying23
  len := fun _ => rfl
  one := by intro s u hu; simp at hu; subst hu; rfl
  kpos := by decide
  zs := rfl
  bb := by decide
/-- Numbers as elements. -/
def intE : Elt Int where
  T := 3
  ST := 22
  k := 1
  bytes := 8
  zero := .int .i64 0
  enc := fun s => [.int .i64 s]
  info := by kernel_rfl
  und := Try.underlying22
  len := fun _ => rfl
  one := by intro s u hu; simp at hu; subst hu; rfl
  kpos := by decide
  zs := rfl
  bb := by decide
/-- Pairs of numbers as elements. -/
def prE : Elt (Int × Int) where
  T := 35
  ST := 37
  k := 2
  bytes := 16
  zero := .agg #[.int .i64 0, .int .i64 0]
  enc := fun s => [.int .i64 s.1, .int .i64 s.2]
  info := by kernel_rfl
  und := Try.underlying37
  len := fun _ => rfl
  one := by intro s u hu; simp at hu; rcases hu with rfl | rfl <;> rfl
  kpos := by decide
  zs := rfl
  bb := by decide
/-- The first k elements of two lists are the same. -/
def SameTo {α : Type} (l m : List α) (k : Nat) : Prop := l.take k = m.take k
theorem SameTo.zero {α : Type} (l m : List α) : SameTo l m 0 := by unfold SameTo; simp
theorem SameTo.step {α : Type} {l m : List α} {k : Nat} {x y : α} (h : SameTo l m k) (hx : l[k]? = some x) (hy : m[k]? = some y) (e : x = y) : SameTo l m (k + 1) := by
  unfold SameTo at *
  rw [List.take_add_one, List.take_add_one, h, hx, hy, e]
theorem SameTo.all {α : Type} {l m : List α} {k : Nat} (h : SameTo l m k) (hl : l.length ≤ k) (hm : m.length ≤ k) : l = m := by
  unfold SameTo at h
  rwa [List.take_of_length_le hl, List.take_of_length_le hm] at h
theorem differ {α : Type} {l m : List α} {k : Nat} {x y : α} (hx : l[k]? = some x) (hy : m[k]? = some y) (e : x ≠ y) : l ≠ m := by
  intro h
  rw [h, hy] at hx
  injection hx with hx
  exact e hx.symm
theorem bytes_ext {x y : ByteArray} (h : x.toList = y.toList) : x = y := by
  rw [Lib.toList_data, Lib.toList_data] at h
  cases x; cases y
  simpa using h
theorem bytes_ne {x y : ByteArray} (h : x ≠ y) : (x.toList == y.toList) = false := by
  rcases hb : (x.toList == y.toList) with _ | _
  · rfl
  · exact absurd (bytes_ext (by simpa using hb)) h
def SRel {α : Type} (la lb : List α) (n : Nat) (w : World) (v : Value) (wr : World) : Prop := ∃ k : Nat, k ≤ n ∧ v = .int .i64 (k : Int) ∧ SameTo la lb k ∧ Below w.heap.size w wr
theorem equal_pair (w : World) (a b c d : Int) : (Op.equalIn 10000 35 (.agg #[.int .i64 a, .int .i64 b]) (.agg #[.int .i64 c, .int .i64 d])).run Try.prog w = .ok (decide ((a, b) = (c, d))) w := by
  have hsz : ∀ w, (sizeOf 3).run Try.prog w = .ok 1 w := fun w => by kernel_rfl
  have hu := Try.underlying35
  have hi := Try.underlying3
  rw [show (10000 : Nat) = 9998 + 2 from rfl, Op.equalIn]
  simp only [Sem.run_bind, run_underlying hu, Result.andThen_ok, hsz, Std.Legacy.Range.forIn_eq_forIn_range', Std.Legacy.Range.size, Nat.sub_zero, Nat.add_sub_cancel, Nat.div_one]
  have e : List.range' 0 2 1 = [0, 1] := rfl
  rw [e]
  have p0 : ∀ x y : Int, (part 3 #[.int .i64 x, .int .i64 y] (0 * 1)).run Try.prog w = .ok (.int .i64 x) w := fun x y => by simp [part, isAgg, run_underlying hi]
  have p1 : ∀ x y : Int, (part 3 #[.int .i64 x, .int .i64 y] 1).run Try.prog w = .ok (.int .i64 y) w := fun x y => by simp [part, isAgg, run_underlying hi]
  have q : ∀ x y : Int, (Op.equalIn (9998 + 1) 3 (.int .i64 x) (.int .i64 y)).run Try.prog w = .ok (x == y) w := fun x y => run_equalIn_int w 9998 3 .i64 .i64 x y hi
  have q9 : ∀ x y : Int, (Op.equalIn 9999 3 (.int .i64 x) (.int .i64 y)).run Try.prog w = .ok (x == y) w := q
  simp only [List.forIn_cons, Sem.run_bind, p0, p1, q, Result.andThen_ok]
  by_cases h1 : a = c
  · by_cases h2 : b = d
    · simp [h1, h2, p1, q9]
    · simp [h1, h2, p1, q9]
  · simp [h1]
theorem pair_eq {x y : Int × Int} (h : x = y) (w : World) : (Op.equalIn 10000 35 (.agg #[.int .i64 x.1, .int .i64 x.2]) (.agg #[.int .i64 y.1, .int .i64 y.2])).run Try.prog w = .ok true w := by
  rw [equal_pair, decide_eq_true (by rw [h])]
theorem pair_ne {x y : Int × Int} (h : x ≠ y) (w : World) : (Op.equalIn 10000 35 (.agg #[.int .i64 x.1, .int .i64 x.2]) (.agg #[.int .i64 y.1, .int .i64 y.2])).run Try.prog w = .ok false w := by
  rw [equal_pair, decide_eq_false (fun e => h (by rw [Prod.ext_iff] at e ⊢; exact e))]
theorem equal_tk (w : World) (x y : Tk) : (Op.equalIn 10000 63 (.agg (tkV x).toArray) (.agg (tkV y).toArray)).run Try.prog w = .ok (decide (x = y)) w := by
  obtain ⟨a, b, c⟩ := x
  obtain ⟨d, e, f⟩ := y
  unfold tkV
  go_simp
  by_cases h1 : a = d
  · by_cases h2 : b = e
    · by_cases h3 : c = f
      · simp [h1, h2, h3]
      · simp [h1, h2, h3]; omega
    · simp [h1, h2]; omega
  · simp [h1]; omega
theorem tk_eq {x y : Tk} (h : x = y) (w : World) : (Op.equalIn 10000 63 (.agg (tkV x).toArray) (.agg (tkV y).toArray)).run Try.prog w = .ok true w := by
  rw [equal_tk, decide_eq_true h]
theorem tk_ne {x y : Tk} (h : x ≠ y) (w : World) : (Op.equalIn 10000 63 (.agg (tkV x).toArray) (.agg (tkV y).toArray)).run Try.prog w = .ok false w := by
  rw [equal_tk, decide_eq_false h]
set_option maxHeartbeats 2000000 in
set_option maxRecDepth 100000 in
theorem sameTexts_any (la lb : List ByteArray) (qa qb : Option Addr) (n c m d : Nat) (hla : la.length = n) (hlb : lb.length = m) (hn6 : n ≤ 1000000000000) (w : World) (hA : At strE w qa la) (hB0 : At strE w qb lb) :
    Calls Try.prog 24 #[.slice qa n c, .slice qb m d] w (Told w (decide (la = lb))) := by
  have HN := Lib.hid hla
  have HM := Lib.hid hlb
  by_cases hnm : n = m
  · subst hnm
    clear hla hlb
    have hneb : ((n : Int) != (n : Int)) = false := by simp
    go_enter Try.func24, Try.ntmps24
    go_wp2
    go_loopw [5] (fun v wr => SRel la lb n w v wr) (fun v _ => n - (intOf v).toNat)
    case atStart => exact ⟨0, by omega, rfl, SameTo.zero _ _, Below.refl _ _⟩
    case round =>
      obtain ⟨k, hk, rfl, hF, hB⟩ := hrel
      by_cases hlt : k < n
      · obtain ⟨x, hx⟩ : ∃ x, la[k]? = some x := ⟨_, List.getElem?_eq_getElem (by rw [HN.out]; exact hlt)⟩
        obtain ⟨y, hy⟩ : ∃ y, lb[k]? = some y := ⟨_, List.getElem?_eq_getElem (by rw [HM.out]; exact hlt)⟩
        obtain ⟨b, off, rfl, hL2⟩ := hA.get (i := k) (by rw [HN.out]; exact hlt)
        obtain ⟨g, o2, rfl, hM2⟩ := hB0.get (i := k) (by rw [HM.out]; exact hlt)
        have C1 : ∀ w', Below w.heap.size w w' → w'.cell? ⟨b, off + k, none⟩ = some (.string x) := fun w' h => (h.cell hL2.1).trans (by have := hL2.2 k x 0 _ hx rfl; rwa [show off + k * strE.k + 0 = off + k from by rw [show strE.k = 1 from rfl]; omega] at this)
        have C2 : ∀ w', Below w.heap.size w w' → w'.cell? ⟨g, o2 + k, none⟩ = some (.string y) := fun w' h => (h.cell hM2.1).trans (by have := hM2.2 k y 0 _ hy rfl; rwa [show o2 + k * strE.k + 0 = o2 + k from by rw [show strE.k = 1 from rfl]; omega] at this)
        have HS := Lib.hid (fun e => hF.step hx hy e)
        have HD := Lib.hid (fun e => differ hx hy e)
        clear hx hy hF hA hB0 hL2 hM2
        go_upto_region 6 with (fail)
        by_cases hxy : x = y
        · have hb1 : (x.toList == y.toList) = true := by simp [hxy]
          have HS2 := Lib.hid (HS.out hxy)
          clear HS HD hxy
          refine wp_region_held_drew (S := fun w' => Below w.heap.size w w') (by kernel_rfl) (below_drew (hB)) (fun _ => ?_)
          have hHeld : Below w.heap.size w wr.drew := below_drew (hB)
          generalize wr.drew = V0 at hHeld ⊢
          refine wt (i := 0) (oi := ⟨some 17, .move (.tmp 0), 23, "ref.go:215", #[], none⟩) (v := .slice (some ⟨b, off, none⟩) n c) (Or.inl ⟨by rfl, fun w' hSw => by go_simp⟩) hHeld ?_
          try simp only [zP, zQ, zS, zZ, zC]
          refine wt (i := 1) (oi := ⟨some 18, .move (.tmp 5), 3, "ref.go:215", #[], none⟩) (v := .int .i64 (k : Int)) (Or.inl ⟨by rfl, fun w' hSw => by go_simp⟩) hHeld ?_
          try simp only [zP, zQ, zS, zZ, zC]
          refine wt (i := 2) (oi := ⟨some 19, .indexAddr 23 (.tmp 17) (.tmp 18), 0, "ref.go:215", #[⟨0, .data⟩, ⟨1, .data⟩], none⟩) (v := .pointer (some ⟨b, off + k, none⟩)) (Or.inl ⟨by rfl, fun w' hSw => by go_simp; try (intro hcm; exact absurd hcm (by omega))⟩) hHeld ?_
          try simp only [zP, zQ, zS, zZ, zC]
          refine wt (i := 3) (oi := ⟨some 20, .load 9 (.tmp 19), 9, "ref.go:215", #[⟨2, .data⟩], none⟩) (v := .string x) (Or.inl ⟨by rfl, fun w' hSw => by have hc := C1 w' hSw; go_simp⟩) hHeld ?_
          try simp only [zP, zQ, zS, zZ, zC]
          refine wt (i := 4) (oi := ⟨some 21, .move (.tmp 1), 23, "ref.go:215", #[], none⟩) (v := .slice (some ⟨g, o2, none⟩) n d) (Or.inl ⟨by rfl, fun w' hSw => by go_simp⟩) hHeld ?_
          try simp only [zP, zQ, zS, zZ, zC]
          refine wt (i := 5) (oi := ⟨some 22, .move (.tmp 5), 3, "ref.go:215", #[], none⟩) (v := .int .i64 (k : Int)) (Or.inl ⟨by rfl, fun w' hSw => by go_simp⟩) hHeld ?_
          try simp only [zP, zQ, zS, zZ, zC]
          refine wt (i := 6) (oi := ⟨some 23, .indexAddr 23 (.tmp 21) (.tmp 22), 0, "ref.go:215", #[⟨4, .data⟩, ⟨5, .data⟩], none⟩) (v := .pointer (some ⟨g, o2 + k, none⟩)) (Or.inl ⟨by rfl, fun w' hSw => by go_simp; try (intro hcm; exact absurd hcm (by omega))⟩) hHeld ?_
          try simp only [zP, zQ, zS, zZ, zC]
          refine wt (i := 7) (oi := ⟨some 24, .load 9 (.tmp 23), 9, "ref.go:215", #[⟨6, .data⟩], none⟩) (v := .string y) (Or.inl ⟨by rfl, fun w' hSw => by have hc := C2 w' hSw; go_simp⟩) hHeld ?_
          try simp only [zP, zQ, zS, zZ, zC]
          refine wt (i := 8) (oi := ⟨some 25, .binOp .neq 9 (.tmp 20) (.tmp 24) 9, 4, "ref.go:215", #[⟨3, .data⟩, ⟨7, .data⟩], none⟩) (v := .bool false) (Or.inl ⟨by rfl, fun w' hSw => by go_simp⟩) hHeld ?_
          try simp only [zP, zQ, zS, zZ, zC]
          refine wpAnyH_done (by kernel_rfl) ?_ _
          have BX := hHeld
          clear hHeld C1 C2
          go_wp2
          exact ⟨⟨k + 1, by omega, by go_num, HS2.out, BX⟩, by simp [intOf]; omega⟩
        · have hb1 : (x.toList == y.toList) = false := bytes_ne hxy
          have HD2 := Lib.hid (HD.out hxy)
          clear HS HD hxy
          refine wp_region_held_drew (S := fun w' => Below w.heap.size w w') (by kernel_rfl) (below_drew (hB)) (fun _ => ?_)
          have hHeld : Below w.heap.size w wr.drew := below_drew (hB)
          generalize wr.drew = V0 at hHeld ⊢
          refine wt (i := 0) (oi := ⟨some 17, .move (.tmp 0), 23, "ref.go:215", #[], none⟩) (v := .slice (some ⟨b, off, none⟩) n c) (Or.inl ⟨by rfl, fun w' hSw => by go_simp⟩) hHeld ?_
          try simp only [zP, zQ, zS, zZ, zC]
          refine wt (i := 1) (oi := ⟨some 18, .move (.tmp 5), 3, "ref.go:215", #[], none⟩) (v := .int .i64 (k : Int)) (Or.inl ⟨by rfl, fun w' hSw => by go_simp⟩) hHeld ?_
          try simp only [zP, zQ, zS, zZ, zC]
          refine wt (i := 2) (oi := ⟨some 19, .indexAddr 23 (.tmp 17) (.tmp 18), 0, "ref.go:215", #[⟨0, .data⟩, ⟨1, .data⟩], none⟩) (v := .pointer (some ⟨b, off + k, none⟩)) (Or.inl ⟨by rfl, fun w' hSw => by go_simp; try (intro hcm; exact absurd hcm (by omega))⟩) hHeld ?_
          try simp only [zP, zQ, zS, zZ, zC]
          refine wt (i := 3) (oi := ⟨some 20, .load 9 (.tmp 19), 9, "ref.go:215", #[⟨2, .data⟩], none⟩) (v := .string x) (Or.inl ⟨by rfl, fun w' hSw => by have hc := C1 w' hSw; go_simp⟩) hHeld ?_
          try simp only [zP, zQ, zS, zZ, zC]
          refine wt (i := 4) (oi := ⟨some 21, .move (.tmp 1), 23, "ref.go:215", #[], none⟩) (v := .slice (some ⟨g, o2, none⟩) n d) (Or.inl ⟨by rfl, fun w' hSw => by go_simp⟩) hHeld ?_
          try simp only [zP, zQ, zS, zZ, zC]
          refine wt (i := 5) (oi := ⟨some 22, .move (.tmp 5), 3, "ref.go:215", #[], none⟩) (v := .int .i64 (k : Int)) (Or.inl ⟨by rfl, fun w' hSw => by go_simp⟩) hHeld ?_
          try simp only [zP, zQ, zS, zZ, zC]
          refine wt (i := 6) (oi := ⟨some 23, .indexAddr 23 (.tmp 21) (.tmp 22), 0, "ref.go:215", #[⟨4, .data⟩, ⟨5, .data⟩], none⟩) (v := .pointer (some ⟨g, o2 + k, none⟩)) (Or.inl ⟨by rfl, fun w' hSw => by go_simp; try (intro hcm; exact absurd hcm (by omega))⟩) hHeld ?_
          try simp only [zP, zQ, zS, zZ, zC]
          refine wt (i := 7) (oi := ⟨some 24, .load 9 (.tmp 23), 9, "ref.go:215", #[⟨6, .data⟩], none⟩) (v := .string y) (Or.inl ⟨by rfl, fun w' hSw => by have hc := C2 w' hSw; go_simp⟩) hHeld ?_
          try simp only [zP, zQ, zS, zZ, zC]
          refine wt (i := 8) (oi := ⟨some 25, .binOp .neq 9 (.tmp 20) (.tmp 24) 9, 4, "ref.go:215", #[⟨3, .data⟩, ⟨7, .data⟩], none⟩) (v := .bool true) (Or.inl ⟨by rfl, fun w' hSw => by go_simp⟩) hHeld ?_
          try simp only [zP, zQ, zS, zZ, zC]
          refine wpAnyH_done (by kernel_rfl) ?_ _
          have BX := hHeld
          clear hHeld C1 C2
          go_wp2
          go_ret
          exact ⟨by rw [decide_eq_false HD2.out]; rfl, BX⟩
      · have HE := Lib.hid (hF.all (by rw [HN.out]; omega) (by rw [HM.out]; omega))
        go_wp2
        go_ret
        exact ⟨by rw [decide_eq_true HE.out]; rfl, hB⟩
  · have hneb : ((n : Int) != (m : Int)) = true := by simp; omega
    have HD := Lib.hid (show la ≠ lb from fun e => hnm (by rw [← hla, ← hlb, e]))
    go_enter Try.func24, Try.ntmps24
    go_wp2
    go_ret
    exact ⟨by rw [decide_eq_false HD.out]; rfl, Below.refl _ _⟩

set_option maxHeartbeats 2000000 in
set_option maxRecDepth 100000 in
theorem sameInts_any (la lb : List Int) (qa qb : Option Addr) (n c m d : Nat) (hla : la.length = n) (hlb : lb.length = m) (hn6 : n ≤ 1000000000000) (w : World) (hA : At intE w qa la) (hB0 : At intE w qb lb) :
    Calls Try.prog 30 #[.slice qa n c, .slice qb m d] w (Told w (decide (la = lb))) := by
  have HN := Lib.hid hla
  have HM := Lib.hid hlb
  by_cases hnm : n = m
  · subst hnm
    clear hla hlb
    have hneb : ((n : Int) != (n : Int)) = false := by simp
    go_enter Try.func30, Try.ntmps30
    go_wp2
    go_loopw [5] (fun v wr => SRel la lb n w v wr) (fun v _ => n - (intOf v).toNat)
    case atStart => exact ⟨0, by omega, rfl, SameTo.zero _ _, Below.refl _ _⟩
    case round =>
      obtain ⟨k, hk, rfl, hF, hB⟩ := hrel
      by_cases hlt : k < n
      · obtain ⟨x, hx⟩ : ∃ x, la[k]? = some x := ⟨_, List.getElem?_eq_getElem (by rw [HN.out]; exact hlt)⟩
        obtain ⟨y, hy⟩ : ∃ y, lb[k]? = some y := ⟨_, List.getElem?_eq_getElem (by rw [HM.out]; exact hlt)⟩
        obtain ⟨b, off, rfl, hL2⟩ := hA.get (i := k) (by rw [HN.out]; exact hlt)
        obtain ⟨g, o2, rfl, hM2⟩ := hB0.get (i := k) (by rw [HM.out]; exact hlt)
        have C1 : ∀ w', Below w.heap.size w w' → w'.cell? ⟨b, off + k, none⟩ = some (.int .i64 x) := fun w' h => (h.cell hL2.1).trans (by have := hL2.2 k x 0 _ hx rfl; rwa [show off + k * intE.k + 0 = off + k from by rw [show intE.k = 1 from rfl]; omega] at this)
        have C2 : ∀ w', Below w.heap.size w w' → w'.cell? ⟨g, o2 + k, none⟩ = some (.int .i64 y) := fun w' h => (h.cell hM2.1).trans (by have := hM2.2 k y 0 _ hy rfl; rwa [show o2 + k * intE.k + 0 = o2 + k from by rw [show intE.k = 1 from rfl]; omega] at this)
        have HS := Lib.hid (fun e => hF.step hx hy e)
        have HD := Lib.hid (fun e => differ hx hy e)
        clear hx hy hF hA hB0 hL2 hM2
        go_upto_region 6 with (fail)
        by_cases hxy : x = y
        · have hb1 : (x != y) = false := by simp [hxy]
          have HS2 := Lib.hid (HS.out hxy)
          clear HS HD hxy
          refine wp_region_held_drew (S := fun w' => Below w.heap.size w w') (by kernel_rfl) (below_drew (hB)) (fun _ => ?_)
          have hHeld : Below w.heap.size w wr.drew := below_drew (hB)
          generalize wr.drew = V0 at hHeld ⊢
          refine wt (i := 0) (oi := ⟨some 17, .move (.tmp 0), 22, "ref.go:202", #[], none⟩) (v := .slice (some ⟨b, off, none⟩) n c) (Or.inl ⟨by rfl, fun w' hSw => by go_simp⟩) hHeld ?_
          try simp only [zP, zQ, zS, zZ, zC]
          refine wt (i := 1) (oi := ⟨some 18, .move (.tmp 5), 3, "ref.go:202", #[], none⟩) (v := .int .i64 (k : Int)) (Or.inl ⟨by rfl, fun w' hSw => by go_simp⟩) hHeld ?_
          try simp only [zP, zQ, zS, zZ, zC]
          refine wt (i := 2) (oi := ⟨some 19, .indexAddr 22 (.tmp 17) (.tmp 18), 0, "ref.go:202", #[⟨0, .data⟩, ⟨1, .data⟩], none⟩) (v := .pointer (some ⟨b, off + k, none⟩)) (Or.inl ⟨by rfl, fun w' hSw => by go_simp; try (intro hcm; exact absurd hcm (by omega))⟩) hHeld ?_
          try simp only [zP, zQ, zS, zZ, zC]
          refine wt (i := 3) (oi := ⟨some 20, .load 3 (.tmp 19), 3, "ref.go:202", #[⟨2, .data⟩], none⟩) (v := .int .i64 x) (Or.inl ⟨by rfl, fun w' hSw => by have hc := C1 w' hSw; go_simp⟩) hHeld ?_
          try simp only [zP, zQ, zS, zZ, zC]
          refine wt (i := 4) (oi := ⟨some 21, .move (.tmp 1), 22, "ref.go:202", #[], none⟩) (v := .slice (some ⟨g, o2, none⟩) n d) (Or.inl ⟨by rfl, fun w' hSw => by go_simp⟩) hHeld ?_
          try simp only [zP, zQ, zS, zZ, zC]
          refine wt (i := 5) (oi := ⟨some 22, .move (.tmp 5), 3, "ref.go:202", #[], none⟩) (v := .int .i64 (k : Int)) (Or.inl ⟨by rfl, fun w' hSw => by go_simp⟩) hHeld ?_
          try simp only [zP, zQ, zS, zZ, zC]
          refine wt (i := 6) (oi := ⟨some 23, .indexAddr 22 (.tmp 21) (.tmp 22), 0, "ref.go:202", #[⟨4, .data⟩, ⟨5, .data⟩], none⟩) (v := .pointer (some ⟨g, o2 + k, none⟩)) (Or.inl ⟨by rfl, fun w' hSw => by go_simp; try (intro hcm; exact absurd hcm (by omega))⟩) hHeld ?_
          try simp only [zP, zQ, zS, zZ, zC]
          refine wt (i := 7) (oi := ⟨some 24, .load 3 (.tmp 23), 3, "ref.go:202", #[⟨6, .data⟩], none⟩) (v := .int .i64 y) (Or.inl ⟨by rfl, fun w' hSw => by have hc := C2 w' hSw; go_simp⟩) hHeld ?_
          try simp only [zP, zQ, zS, zZ, zC]
          refine wt (i := 8) (oi := ⟨some 25, .binOp .neq 3 (.tmp 20) (.tmp 24) 3, 4, "ref.go:202", #[⟨3, .data⟩, ⟨7, .data⟩], none⟩) (v := .bool false) (Or.inl ⟨by rfl, fun w' hSw => by go_simp⟩) hHeld ?_
          try simp only [zP, zQ, zS, zZ, zC]
          refine wpAnyH_done (by kernel_rfl) ?_ _
          have BX := hHeld
          clear hHeld C1 C2
          go_wp2
          exact ⟨⟨k + 1, by omega, by go_num, HS2.out, BX⟩, by simp [intOf]; omega⟩
        · have hb1 : (x != y) = true := by simp [hxy]
          have HD2 := Lib.hid (HD.out hxy)
          clear HS HD hxy
          refine wp_region_held_drew (S := fun w' => Below w.heap.size w w') (by kernel_rfl) (below_drew (hB)) (fun _ => ?_)
          have hHeld : Below w.heap.size w wr.drew := below_drew (hB)
          generalize wr.drew = V0 at hHeld ⊢
          refine wt (i := 0) (oi := ⟨some 17, .move (.tmp 0), 22, "ref.go:202", #[], none⟩) (v := .slice (some ⟨b, off, none⟩) n c) (Or.inl ⟨by rfl, fun w' hSw => by go_simp⟩) hHeld ?_
          try simp only [zP, zQ, zS, zZ, zC]
          refine wt (i := 1) (oi := ⟨some 18, .move (.tmp 5), 3, "ref.go:202", #[], none⟩) (v := .int .i64 (k : Int)) (Or.inl ⟨by rfl, fun w' hSw => by go_simp⟩) hHeld ?_
          try simp only [zP, zQ, zS, zZ, zC]
          refine wt (i := 2) (oi := ⟨some 19, .indexAddr 22 (.tmp 17) (.tmp 18), 0, "ref.go:202", #[⟨0, .data⟩, ⟨1, .data⟩], none⟩) (v := .pointer (some ⟨b, off + k, none⟩)) (Or.inl ⟨by rfl, fun w' hSw => by go_simp; try (intro hcm; exact absurd hcm (by omega))⟩) hHeld ?_
          try simp only [zP, zQ, zS, zZ, zC]
          refine wt (i := 3) (oi := ⟨some 20, .load 3 (.tmp 19), 3, "ref.go:202", #[⟨2, .data⟩], none⟩) (v := .int .i64 x) (Or.inl ⟨by rfl, fun w' hSw => by have hc := C1 w' hSw; go_simp⟩) hHeld ?_
          try simp only [zP, zQ, zS, zZ, zC]
          refine wt (i := 4) (oi := ⟨some 21, .move (.tmp 1), 22, "ref.go:202", #[], none⟩) (v := .slice (some ⟨g, o2, none⟩) n d) (Or.inl ⟨by rfl, fun w' hSw => by go_simp⟩) hHeld ?_
          try simp only [zP, zQ, zS, zZ, zC]
          refine wt (i := 5) (oi := ⟨some 22, .move (.tmp 5), 3, "ref.go:202", #[], none⟩) (v := .int .i64 (k : Int)) (Or.inl ⟨by rfl, fun w' hSw => by go_simp⟩) hHeld ?_
          try simp only [zP, zQ, zS, zZ, zC]
          refine wt (i := 6) (oi := ⟨some 23, .indexAddr 22 (.tmp 21) (.tmp 22), 0, "ref.go:202", #[⟨4, .data⟩, ⟨5, .data⟩], none⟩) (v := .pointer (some ⟨g, o2 + k, none⟩)) (Or.inl ⟨by rfl, fun w' hSw => by go_simp; try (intro hcm; exact absurd hcm (by omega))⟩) hHeld ?_
          try simp only [zP, zQ, zS, zZ, zC]
          refine wt (i := 7) (oi := ⟨some 24, .load 3 (.tmp 23), 3, "ref.go:202", #[⟨6, .data⟩], none⟩) (v := .int .i64 y) (Or.inl ⟨by rfl, fun w' hSw => by have hc := C2 w' hSw; go_simp⟩) hHeld ?_
          try simp only [zP, zQ, zS, zZ, zC]
          refine wt (i := 8) (oi := ⟨some 25, .binOp .neq 3 (.tmp 20) (.tmp 24) 3, 4, "ref.go:202", #[⟨3, .data⟩, ⟨7, .data⟩], none⟩) (v := .bool true) (Or.inl ⟨by rfl, fun w' hSw => by go_simp⟩) hHeld ?_
          try simp only [zP, zQ, zS, zZ, zC]
          refine wpAnyH_done (by kernel_rfl) ?_ _
          have BX := hHeld
          clear hHeld C1 C2
          go_wp2
          go_ret
          exact ⟨by rw [decide_eq_false HD2.out]; rfl, BX⟩
      · have HE := Lib.hid (hF.all (by rw [HN.out]; omega) (by rw [HM.out]; omega))
        go_wp2
        go_ret
        exact ⟨by rw [decide_eq_true HE.out]; rfl, hB⟩
  · have hneb : ((n : Int) != (m : Int)) = true := by simp; omega
    have HD := Lib.hid (show la ≠ lb from fun e => hnm (by rw [← hla, ← hlb, e]))
    go_enter Try.func30, Try.ntmps30
    go_wp2
    go_ret
    exact ⟨by rw [decide_eq_false HD.out]; rfl, Below.refl _ _⟩

set_option maxHeartbeats 2000000 in
set_option maxRecDepth 100000 in
theorem samePairs_any (la lb : List (Int × Int)) (qa qb : Option Addr) (n c m d : Nat) (hla : la.length = n) (hlb : lb.length = m) (hn6 : n ≤ 1000000000000) (w : World) (hA : At prE w qa la) (hB0 : At prE w qb lb) :
    Calls Try.prog 27 #[.slice qa n c, .slice qb m d] w (Told w (decide (la = lb))) := by
  have HN := Lib.hid hla
  have HM := Lib.hid hlb
  by_cases hnm : n = m
  · subst hnm
    clear hla hlb
    have hneb : ((n : Int) != (n : Int)) = false := by simp
    go_enter Try.func27, Try.ntmps27
    go_wp2
    go_loopw [5] (fun v wr => SRel la lb n w v wr) (fun v _ => n - (intOf v).toNat)
    case atStart => exact ⟨0, by omega, rfl, SameTo.zero _ _, Below.refl _ _⟩
    case round =>
      obtain ⟨k, hk, rfl, hF, hB⟩ := hrel
      by_cases hlt : k < n
      · obtain ⟨x, hx⟩ : ∃ x, la[k]? = some x := ⟨_, List.getElem?_eq_getElem (by rw [HN.out]; exact hlt)⟩
        obtain ⟨y, hy⟩ : ∃ y, lb[k]? = some y := ⟨_, List.getElem?_eq_getElem (by rw [HM.out]; exact hlt)⟩
        obtain ⟨b, off, rfl, hL2⟩ := hA.get (i := k) (by rw [HN.out]; exact hlt)
        obtain ⟨g, o2, rfl, hM2⟩ := hB0.get (i := k) (by rw [HM.out]; exact hlt)
        have C1 : ∀ w', Below w.heap.size w w' → w'.rangeAt b (off + k * 2) [.int .i64 x.1, .int .i64 x.2] := fun w' h => (hL2.keep h).range hx
        have C2 : ∀ w', Below w.heap.size w w' → w'.rangeAt g (o2 + k * 2) [.int .i64 y.1, .int .i64 y.2] := fun w' h => (hM2.keep h).range hy
        have HS := Lib.hid (fun e => hF.step hx hy e)
        have HD := Lib.hid (fun e => differ hx hy e)
        clear hx hy hF hA hB0 hL2 hM2
        go_upto_region 6 with (fail)
        by_cases hxy : x = y
        · have hb1 := pair_eq hxy
          have HS2 := Lib.hid (HS.out hxy)
          clear HS HD hxy
          refine wp_region_held_drew (S := fun w' => Below w.heap.size w w') (by kernel_rfl) (below_drew (hB)) (fun _ => ?_)
          have hHeld : Below w.heap.size w wr.drew := below_drew (hB)
          generalize wr.drew = V0 at hHeld ⊢
          refine wt (i := 0) (oi := ⟨some 17, .move (.tmp 0), 37, "ref.go:189", #[], none⟩) (v := .slice (some ⟨b, off, none⟩) n c) (Or.inl ⟨by rfl, fun w' hSw => by go_simp⟩) hHeld ?_
          try simp only [zP, zQ, zS, zZ, zC]
          refine wt (i := 1) (oi := ⟨some 18, .move (.tmp 5), 3, "ref.go:189", #[], none⟩) (v := .int .i64 (k : Int)) (Or.inl ⟨by rfl, fun w' hSw => by go_simp⟩) hHeld ?_
          try simp only [zP, zQ, zS, zZ, zC]
          refine wt (i := 2) (oi := ⟨some 19, .indexAddr 37 (.tmp 17) (.tmp 18), 0, "ref.go:189", #[⟨0, .data⟩, ⟨1, .data⟩], none⟩) (v := .pointer (some ⟨b, off + k * 2, none⟩)) (Or.inl ⟨by rfl, fun w' hSw => by go_simp; try (intro hcm; exact absurd hcm (by omega))⟩) hHeld ?_
          try simp only [zP, zQ, zS, zZ, zC]
          refine wt (i := 3) (oi := ⟨some 20, .load 35 (.tmp 19), 35, "ref.go:189", #[⟨2, .data⟩], none⟩) (v := _) (yieldsIf_load_mid (by rfl) _ _ rfl b (off + k * 2) rfl [.int .i64 x.1, .int .i64 x.2] _ (fun w' hSw => C1 w' hSw) Try.underlying35 rfl (by kernel_rfl)) hHeld ?_
          try simp only [zP, zQ, zS, zZ, zC]
          refine wt (i := 4) (oi := ⟨some 21, .move (.tmp 1), 37, "ref.go:189", #[], none⟩) (v := .slice (some ⟨g, o2, none⟩) n d) (Or.inl ⟨by rfl, fun w' hSw => by go_simp⟩) hHeld ?_
          try simp only [zP, zQ, zS, zZ, zC]
          refine wt (i := 5) (oi := ⟨some 22, .move (.tmp 5), 3, "ref.go:189", #[], none⟩) (v := .int .i64 (k : Int)) (Or.inl ⟨by rfl, fun w' hSw => by go_simp⟩) hHeld ?_
          try simp only [zP, zQ, zS, zZ, zC]
          refine wt (i := 6) (oi := ⟨some 23, .indexAddr 37 (.tmp 21) (.tmp 22), 0, "ref.go:189", #[⟨4, .data⟩, ⟨5, .data⟩], none⟩) (v := .pointer (some ⟨g, o2 + k * 2, none⟩)) (Or.inl ⟨by rfl, fun w' hSw => by go_simp; try (intro hcm; exact absurd hcm (by omega))⟩) hHeld ?_
          try simp only [zP, zQ, zS, zZ, zC]
          refine wt (i := 7) (oi := ⟨some 24, .load 35 (.tmp 23), 35, "ref.go:189", #[⟨6, .data⟩], none⟩) (v := _) (yieldsIf_load_mid (by rfl) _ _ rfl g (o2 + k * 2) rfl [.int .i64 y.1, .int .i64 y.2] _ (fun w' hSw => C2 w' hSw) Try.underlying35 rfl (by kernel_rfl)) hHeld ?_
          try simp only [zP, zQ, zS, zZ, zC]
          refine wt (i := 8) (oi := ⟨some 25, .binOp .neq 35 (.tmp 20) (.tmp 24) 35, 4, "ref.go:189", #[⟨3, .data⟩, ⟨7, .data⟩], none⟩) (v := .bool false) (Or.inl ⟨by rfl, fun w' hSw => by have kd := hb1 w'; go_simp⟩) hHeld ?_
          try simp only [zP, zQ, zS, zZ, zC]
          refine wpAnyH_done (by kernel_rfl) ?_ _
          have BX := hHeld
          clear hHeld C1 C2
          go_wp2
          exact ⟨⟨k + 1, by omega, by go_num, HS2.out, BX⟩, by simp [intOf]; omega⟩
        · have hb1 := pair_ne hxy
          have HD2 := Lib.hid (HD.out hxy)
          clear HS HD hxy
          refine wp_region_held_drew (S := fun w' => Below w.heap.size w w') (by kernel_rfl) (below_drew (hB)) (fun _ => ?_)
          have hHeld : Below w.heap.size w wr.drew := below_drew (hB)
          generalize wr.drew = V0 at hHeld ⊢
          refine wt (i := 0) (oi := ⟨some 17, .move (.tmp 0), 37, "ref.go:189", #[], none⟩) (v := .slice (some ⟨b, off, none⟩) n c) (Or.inl ⟨by rfl, fun w' hSw => by go_simp⟩) hHeld ?_
          try simp only [zP, zQ, zS, zZ, zC]
          refine wt (i := 1) (oi := ⟨some 18, .move (.tmp 5), 3, "ref.go:189", #[], none⟩) (v := .int .i64 (k : Int)) (Or.inl ⟨by rfl, fun w' hSw => by go_simp⟩) hHeld ?_
          try simp only [zP, zQ, zS, zZ, zC]
          refine wt (i := 2) (oi := ⟨some 19, .indexAddr 37 (.tmp 17) (.tmp 18), 0, "ref.go:189", #[⟨0, .data⟩, ⟨1, .data⟩], none⟩) (v := .pointer (some ⟨b, off + k * 2, none⟩)) (Or.inl ⟨by rfl, fun w' hSw => by go_simp; try (intro hcm; exact absurd hcm (by omega))⟩) hHeld ?_
          try simp only [zP, zQ, zS, zZ, zC]
          refine wt (i := 3) (oi := ⟨some 20, .load 35 (.tmp 19), 35, "ref.go:189", #[⟨2, .data⟩], none⟩) (v := _) (yieldsIf_load_mid (by rfl) _ _ rfl b (off + k * 2) rfl [.int .i64 x.1, .int .i64 x.2] _ (fun w' hSw => C1 w' hSw) Try.underlying35 rfl (by kernel_rfl)) hHeld ?_
          try simp only [zP, zQ, zS, zZ, zC]
          refine wt (i := 4) (oi := ⟨some 21, .move (.tmp 1), 37, "ref.go:189", #[], none⟩) (v := .slice (some ⟨g, o2, none⟩) n d) (Or.inl ⟨by rfl, fun w' hSw => by go_simp⟩) hHeld ?_
          try simp only [zP, zQ, zS, zZ, zC]
          refine wt (i := 5) (oi := ⟨some 22, .move (.tmp 5), 3, "ref.go:189", #[], none⟩) (v := .int .i64 (k : Int)) (Or.inl ⟨by rfl, fun w' hSw => by go_simp⟩) hHeld ?_
          try simp only [zP, zQ, zS, zZ, zC]
          refine wt (i := 6) (oi := ⟨some 23, .indexAddr 37 (.tmp 21) (.tmp 22), 0, "ref.go:189", #[⟨4, .data⟩, ⟨5, .data⟩], none⟩) (v := .pointer (some ⟨g, o2 + k * 2, none⟩)) (Or.inl ⟨by rfl, fun w' hSw => by go_simp; try (intro hcm; exact absurd hcm (by omega))⟩) hHeld ?_
          try simp only [zP, zQ, zS, zZ, zC]
          refine wt (i := 7) (oi := ⟨some 24, .load 35 (.tmp 23), 35, "ref.go:189", #[⟨6, .data⟩], none⟩) (v := _) (yieldsIf_load_mid (by rfl) _ _ rfl g (o2 + k * 2) rfl [.int .i64 y.1, .int .i64 y.2] _ (fun w' hSw => C2 w' hSw) Try.underlying35 rfl (by kernel_rfl)) hHeld ?_
          try simp only [zP, zQ, zS, zZ, zC]
          refine wt (i := 8) (oi := ⟨some 25, .binOp .neq 35 (.tmp 20) (.tmp 24) 35, 4, "ref.go:189", #[⟨3, .data⟩, ⟨7, .data⟩], none⟩) (v := .bool true) (Or.inl ⟨by rfl, fun w' hSw => by have kd := hb1 w'; go_simp⟩) hHeld ?_
          try simp only [zP, zQ, zS, zZ, zC]
          refine wpAnyH_done (by kernel_rfl) ?_ _
          have BX := hHeld
          clear hHeld C1 C2
          go_wp2
          go_ret
          exact ⟨by rw [decide_eq_false HD2.out]; rfl, BX⟩
      · have HE := Lib.hid (hF.all (by rw [HN.out]; omega) (by rw [HM.out]; omega))
        go_wp2
        go_ret
        exact ⟨by rw [decide_eq_true HE.out]; rfl, hB⟩
  · have hneb : ((n : Int) != (m : Int)) = true := by simp; omega
    have HD := Lib.hid (show la ≠ lb from fun e => hnm (by rw [← hla, ← hlb, e]))
    go_enter Try.func27, Try.ntmps27
    go_wp2
    go_ret
    exact ⟨by rw [decide_eq_false HD.out]; rfl, Below.refl _ _⟩

set_option maxHeartbeats 2000000 in
set_option maxRecDepth 100000 in
theorem same_any (la lb : List Tk) (qa qb : Option Addr) (n c m d : Nat) (hla : la.length = n) (hlb : lb.length = m) (hn6 : n ≤ 1000000000000) (w : World) (hA : At rtE w qa la) (hB0 : At rtE w qb lb) :
    Calls Try.prog 16 #[.slice qa n c, .slice qb m d] w (Told w (decide (la = lb))) := by
  have HN := Lib.hid hla
  have HM := Lib.hid hlb
  by_cases hnm : n = m
  · subst hnm
    clear hla hlb
    have hneb : ((n : Int) != (n : Int)) = false := by simp
    go_enter Try.func16, Try.ntmps16
    go_wp2
    go_loopw [5] (fun v wr => SRel la lb n w v wr) (fun v _ => n - (intOf v).toNat)
    case atStart => exact ⟨0, by omega, rfl, SameTo.zero _ _, Below.refl _ _⟩
    case round =>
      obtain ⟨k, hk, rfl, hF, hB⟩ := hrel
      by_cases hlt : k < n
      · obtain ⟨x, hx⟩ : ∃ x, la[k]? = some x := ⟨_, List.getElem?_eq_getElem (by rw [HN.out]; exact hlt)⟩
        obtain ⟨y, hy⟩ : ∃ y, lb[k]? = some y := ⟨_, List.getElem?_eq_getElem (by rw [HM.out]; exact hlt)⟩
        obtain ⟨b, off, rfl, hL2⟩ := hA.get (i := k) (by rw [HN.out]; exact hlt)
        obtain ⟨g, o2, rfl, hM2⟩ := hB0.get (i := k) (by rw [HM.out]; exact hlt)
        have C1 : ∀ w', Below w.heap.size w w' → w'.rangeAt b (off + k * 3) (tkV x) := fun w' h => (hL2.keep h).range hx
        have C2 : ∀ w', Below w.heap.size w w' → w'.rangeAt g (o2 + k * 3) (tkV y) := fun w' h => (hM2.keep h).range hy
        have HS := Lib.hid (fun e => hF.step hx hy e)
        have HD := Lib.hid (fun e => differ hx hy e)
        clear hx hy hF hA hB0 hL2 hM2
        go_upto_region 6 with (fail)
        by_cases hxy : x = y
        · have hb1 := tk_eq hxy
          have HS2 := Lib.hid (HS.out hxy)
          clear HS HD hxy
          refine wp_region_held_drew (S := fun w' => Below w.heap.size w w') (by kernel_rfl) (below_drew (hB)) (fun _ => ?_)
          have hHeld : Below w.heap.size w wr.drew := below_drew (hB)
          generalize wr.drew = V0 at hHeld ⊢
          refine wt (i := 0) (oi := ⟨some 17, .move (.tmp 0), 29, "ref.go:176", #[], none⟩) (v := .slice (some ⟨b, off, none⟩) n c) (Or.inl ⟨by rfl, fun w' hSw => by go_simp⟩) hHeld ?_
          try simp only [zP, zQ, zS, zZ, zC]
          refine wt (i := 1) (oi := ⟨some 18, .move (.tmp 5), 3, "ref.go:176", #[], none⟩) (v := .int .i64 (k : Int)) (Or.inl ⟨by rfl, fun w' hSw => by go_simp⟩) hHeld ?_
          try simp only [zP, zQ, zS, zZ, zC]
          refine wt (i := 2) (oi := ⟨some 19, .indexAddr 29 (.tmp 17) (.tmp 18), 0, "ref.go:176", #[⟨0, .data⟩, ⟨1, .data⟩], none⟩) (v := .pointer (some ⟨b, off + k * 3, none⟩)) (Or.inl ⟨by rfl, fun w' hSw => by go_simp; try (intro hcm; exact absurd hcm (by omega))⟩) hHeld ?_
          try simp only [zP, zQ, zS, zZ, zC]
          refine wt (i := 3) (oi := ⟨some 20, .load 63 (.tmp 19), 63, "ref.go:176", #[⟨2, .data⟩], none⟩) (v := _) (yieldsIf_load_mid (by rfl) _ _ rfl b (off + k * 3) rfl (tkV x) _ (fun w' hSw => C1 w' hSw) Try.underlying63 rfl (by kernel_rfl)) hHeld ?_
          try simp only [zP, zQ, zS, zZ, zC]
          refine wt (i := 4) (oi := ⟨some 21, .move (.tmp 1), 29, "ref.go:176", #[], none⟩) (v := .slice (some ⟨g, o2, none⟩) n d) (Or.inl ⟨by rfl, fun w' hSw => by go_simp⟩) hHeld ?_
          try simp only [zP, zQ, zS, zZ, zC]
          refine wt (i := 5) (oi := ⟨some 22, .move (.tmp 5), 3, "ref.go:176", #[], none⟩) (v := .int .i64 (k : Int)) (Or.inl ⟨by rfl, fun w' hSw => by go_simp⟩) hHeld ?_
          try simp only [zP, zQ, zS, zZ, zC]
          refine wt (i := 6) (oi := ⟨some 23, .indexAddr 29 (.tmp 21) (.tmp 22), 0, "ref.go:176", #[⟨4, .data⟩, ⟨5, .data⟩], none⟩) (v := .pointer (some ⟨g, o2 + k * 3, none⟩)) (Or.inl ⟨by rfl, fun w' hSw => by go_simp; try (intro hcm; exact absurd hcm (by omega))⟩) hHeld ?_
          try simp only [zP, zQ, zS, zZ, zC]
          refine wt (i := 7) (oi := ⟨some 24, .load 63 (.tmp 23), 63, "ref.go:176", #[⟨6, .data⟩], none⟩) (v := _) (yieldsIf_load_mid (by rfl) _ _ rfl g (o2 + k * 3) rfl (tkV y) _ (fun w' hSw => C2 w' hSw) Try.underlying63 rfl (by kernel_rfl)) hHeld ?_
          try simp only [zP, zQ, zS, zZ, zC]
          refine wt (i := 8) (oi := ⟨some 25, .binOp .neq 63 (.tmp 20) (.tmp 24) 63, 4, "ref.go:176", #[⟨3, .data⟩, ⟨7, .data⟩], none⟩) (v := .bool false) (Or.inl ⟨by rfl, fun w' hSw => by have kd := hb1 w'; go_simp⟩) hHeld ?_
          try simp only [zP, zQ, zS, zZ, zC]
          refine wpAnyH_done (by kernel_rfl) ?_ _
          have BX := hHeld
          clear hHeld C1 C2
          go_wp2
          exact ⟨⟨k + 1, by omega, by go_num, HS2.out, BX⟩, by simp [intOf]; omega⟩
        · have hb1 := tk_ne hxy
          have HD2 := Lib.hid (HD.out hxy)
          clear HS HD hxy
          refine wp_region_held_drew (S := fun w' => Below w.heap.size w w') (by kernel_rfl) (below_drew (hB)) (fun _ => ?_)
          have hHeld : Below w.heap.size w wr.drew := below_drew (hB)
          generalize wr.drew = V0 at hHeld ⊢
          refine wt (i := 0) (oi := ⟨some 17, .move (.tmp 0), 29, "ref.go:176", #[], none⟩) (v := .slice (some ⟨b, off, none⟩) n c) (Or.inl ⟨by rfl, fun w' hSw => by go_simp⟩) hHeld ?_
          try simp only [zP, zQ, zS, zZ, zC]
          refine wt (i := 1) (oi := ⟨some 18, .move (.tmp 5), 3, "ref.go:176", #[], none⟩) (v := .int .i64 (k : Int)) (Or.inl ⟨by rfl, fun w' hSw => by go_simp⟩) hHeld ?_
          try simp only [zP, zQ, zS, zZ, zC]
          refine wt (i := 2) (oi := ⟨some 19, .indexAddr 29 (.tmp 17) (.tmp 18), 0, "ref.go:176", #[⟨0, .data⟩, ⟨1, .data⟩], none⟩) (v := .pointer (some ⟨b, off + k * 3, none⟩)) (Or.inl ⟨by rfl, fun w' hSw => by go_simp; try (intro hcm; exact absurd hcm (by omega))⟩) hHeld ?_
          try simp only [zP, zQ, zS, zZ, zC]
          refine wt (i := 3) (oi := ⟨some 20, .load 63 (.tmp 19), 63, "ref.go:176", #[⟨2, .data⟩], none⟩) (v := _) (yieldsIf_load_mid (by rfl) _ _ rfl b (off + k * 3) rfl (tkV x) _ (fun w' hSw => C1 w' hSw) Try.underlying63 rfl (by kernel_rfl)) hHeld ?_
          try simp only [zP, zQ, zS, zZ, zC]
          refine wt (i := 4) (oi := ⟨some 21, .move (.tmp 1), 29, "ref.go:176", #[], none⟩) (v := .slice (some ⟨g, o2, none⟩) n d) (Or.inl ⟨by rfl, fun w' hSw => by go_simp⟩) hHeld ?_
          try simp only [zP, zQ, zS, zZ, zC]
          refine wt (i := 5) (oi := ⟨some 22, .move (.tmp 5), 3, "ref.go:176", #[], none⟩) (v := .int .i64 (k : Int)) (Or.inl ⟨by rfl, fun w' hSw => by go_simp⟩) hHeld ?_
          try simp only [zP, zQ, zS, zZ, zC]
          refine wt (i := 6) (oi := ⟨some 23, .indexAddr 29 (.tmp 21) (.tmp 22), 0, "ref.go:176", #[⟨4, .data⟩, ⟨5, .data⟩], none⟩) (v := .pointer (some ⟨g, o2 + k * 3, none⟩)) (Or.inl ⟨by rfl, fun w' hSw => by go_simp; try (intro hcm; exact absurd hcm (by omega))⟩) hHeld ?_
          try simp only [zP, zQ, zS, zZ, zC]
          refine wt (i := 7) (oi := ⟨some 24, .load 63 (.tmp 23), 63, "ref.go:176", #[⟨6, .data⟩], none⟩) (v := _) (yieldsIf_load_mid (by rfl) _ _ rfl g (o2 + k * 3) rfl (tkV y) _ (fun w' hSw => C2 w' hSw) Try.underlying63 rfl (by kernel_rfl)) hHeld ?_
          try simp only [zP, zQ, zS, zZ, zC]
          refine wt (i := 8) (oi := ⟨some 25, .binOp .neq 63 (.tmp 20) (.tmp 24) 63, 4, "ref.go:176", #[⟨3, .data⟩, ⟨7, .data⟩], none⟩) (v := .bool true) (Or.inl ⟨by rfl, fun w' hSw => by have kd := hb1 w'; go_simp⟩) hHeld ?_
          try simp only [zP, zQ, zS, zZ, zC]
          refine wpAnyH_done (by kernel_rfl) ?_ _
          have BX := hHeld
          clear hHeld C1 C2
          go_wp2
          go_ret
          exact ⟨by rw [decide_eq_false HD2.out]; rfl, BX⟩
      · have HE := Lib.hid (hF.all (by rw [HN.out]; omega) (by rw [HM.out]; omega))
        go_wp2
        go_ret
        exact ⟨by rw [decide_eq_true HE.out]; rfl, hB⟩
  · have hneb : ((n : Int) != (m : Int)) = true := by simp; omega
    have HD := Lib.hid (show la ≠ lb from fun e => hnm (by rw [← hla, ← hlb, e]))
    go_enter Try.func16, Try.ntmps16
    go_wp2
    go_ret
    exact ⟨by rw [decide_eq_false HD.out]; rfl, Below.refl _ _⟩


end Go.Proofs.Ytehkgpefmjfifaa
