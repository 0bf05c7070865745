/-
  Check of the program.
-/
import Derived.Test.YtahmpagolmodhaaJg
import Derived.Test.YtahmpagolmodhaaRl
import Derived.Test.YtahmpagolmodhaaIj
namespace Go.Proofs.Ytahmpagolmodhaa
open Go.RowKit Go.Shelf
set_option linter.unusedVariables false
set_option linter.unusedSimpArgs false
attribute [local go_sem] Oper.semAt_some

/-- What Check answers for a volume that is right. -/
def chkT (p h : Nat) (l : List Sh) : Int := if l = foldM p h then 0 else 17
def SaysI (x : Int) (w : World) (e : Ending) (w' : World) : Prop := e = .returned (.int .i64 x) ∧ Below w.heap.size w w'
theorem not_pre {pre : List It} {x : It} {lst : List Sh} {m : Nat} (hm : pre.length = m) (h : lst[m]? ≠ some x.1) : ¬ (pre ++ [x]).map (·.1) <+: lst := by
  rintro ⟨t, rfl⟩
  apply h
  rw [List.map_append, List.append_assoc, List.getElem?_append_right (by rw [List.length_map, hm]; exact Nat.le_refl _), List.length_map, hm, Nat.sub_self]
  rfl
theorem itU_pre (p h k N : Nat) (hk : k ≤ N) : (itU p h k).map (·.1) <+: (itU p h N).map (·.1) := by
  unfold itU
  obtain ⟨d, rfl⟩ := Nat.le.dest hk
  rw [List.range_add, List.map_append, List.map_append]
  exact List.prefix_append _ _
set_option maxHeartbeats 2000000 in
set_option maxRecDepth 100000 in
theorem check_no (p l : Int) (q : Option Addr) (n c : Nat) (hv : volE p l ≠ 0) (w : World) : Calls Try.prog 18 #[.int .i64 p, .int .i64 l, .slice q n c] w (SaysI (volE p l) w) := by
  have C := Lib.hid (check_any p l)
  generalize volE p l = v at *
  go_enter Try.func18, Try.ntmps18
  go_wp2_with (first | (go_at_call 37; refine (C.out _).mono ?_; rintro _ w2 ⟨rfl, rfl⟩))
  have N := blk_new (w.alloc (.cells #[.slice q n c] 22)) 27 #[.int .i64 v]
  rw [World.size_alloc] at N
  have cN := N.cell (j := 0) rfl
  refine bodyPost_ret (v := .int .i64 v) (by simp [results, Try.f18, go_sem, cN]) rfl ?_
  exact ⟨rfl, ((Below.refl _ w).alloc (Nat.le_refl _) _).alloc (by simp) _⟩
set_option maxHeartbeats 4000000 in
set_option maxRecDepth 100000 in
theorem check_yes (p h : Nat) (hp : p ≤ 999) (h1 : 1 ≤ h) (h8 : h ≤ 8) (lst : List Sh) (q : Option Addr) (n c : Nat) (hl : lst.length = n) (hn6 : n ≤ 1000000000000) (w : World) (hA : At shE w q lst) :
    Calls Try.prog 18 #[.int .i64 (p : Int), .int .i64 ((2 * h : Nat) : Int), .slice q n c] w (SaysI (chkT p h lst) w) := by
  have hv : volE (p : Int) ((2 * h : Nat) : Int) = 0 := by unfold volE; rw [if_neg (by omega), if_neg (by omega)]
  have C := Lib.hid (check_any (p : Int) ((2 * h : Nat) : Int))
  rw [hv] at C
  have S := Lib.hid (fun V => sheets_in Fence.wide 4 trivial rfl p h V)
  have fc : Fence.wide.fn 37 := trivial
  have fs : Fence.wide.fn 40 := trivial
  obtain ⟨L, hL⟩ : ∃ L, 2 * h = L := ⟨_, rfl⟩
  rw [hL] at C S ⊢
  have HN := Lib.hid hl
  have hNN := qnT_leaves p h hp h1 h8
  have hNN : qnT p h * h ≤ 300 := by have : qnT p h * (2 * h) = 2 * (qnT p h * h) := Nat.mul_left_comm _ _ _; omega
  clear hv hL hl
  refine (callsIn_wide (n := 5)).1 ?_
  refine callsIn_of_wp_marks Try.func18 rfl trivial ?_ rfl
  simp only [Try.ntmps18, List.size_toArray, List.length_cons, List.length_nil, Nat.reduceAdd, Nat.reduceSub, Array.replicate_succ, Array.replicate_zero, List.push_toArray, List.append_toArray, List.nil_append, List.cons_append]
  gi_wp2_with (first | (gi_at_call 37; refine CallsIn.mono (callsIn_wide.2 (C.out _)) ?_; rintro _ w2 ⟨rfl, rfl⟩) | (gi_at_call 40; refine (S.out _).mono ?_; rintro _ w3 ⟨rfl, hB3, hX3⟩))
  have b5 := ((blk_new w 22 #[.slice q n c]).alloc (.cells #[.int .i64 0] 27)).alloc (.cells #[.int .i64 0] 3)
  have b6 := (blk_new (w.alloc (.cells #[.slice q n c] 22)) 27 #[.int .i64 0]).alloc (.cells #[.int .i64 0] 3)
  have b8 := blk_new ((w.alloc (.cells #[.slice q n c] 22)).alloc (.cells #[.int .i64 0] 27)) 3 #[.int .i64 0]
  have hBA : Below w.heap.size w (((w.alloc (.cells #[.slice q n c] 22)).alloc (.cells #[.int .i64 0] 27)).alloc (.cells #[.int .i64 0] 3)) := (((Below.refl _ w).alloc (Nat.le_refl _) _).alloc (by simp) _).alloc (by simp; omega) _
  have b5 := b5.keep hB3
  have b6 := b6.keep hB3
  have b8 := b8.keep hB3
  simp only [World.size_alloc] at b6 b8 hX3
  have hB0 : Below w.heap.size w w3 := hBA.trans (hB3.mono hBA.size)
  clear hB3 hBA
  have hs3 := hX3.1
  refine wpIn_rangeFunc_ownH rfl (by omega) (gf := 46) (lb := itF (w.heap.size + 1 + 1 + 1)) rfl trivial (enters_of Try.func46 (by kernel_rfl) rfl)
    (iter_stops 4 (by omega) (w.heap.size + 1 + 1 + 1) p h hp h1 h8 w3 hX3) kept_t (kept_b hs3) (Below.refl _ _) (fun _ => rfl)
    (fun pre W => Blk W w.heap.size 22 [.slice q n c] ∧ Blk W (w.heap.size + 1) 27 [.int .i64 0] ∧ Blk W (w.heap.size + 1 + 1) 3 [.int .i64 (pre.length : Int)] ∧ Below w.heap.size w W ∧ w3.heap.size ≤ W.heap.size ∧ pre.map (·.1) = lst.take pre.length ∧ pre.length ≤ n)
    (fun c pre W => c = .ret ∧ Blk W (w.heap.size + 1) 27 [.int .i64 17] ∧ Below w.heap.size w W ∧ ¬ pre.map (·.1) <+: lst ∧ w3.heap.size ≤ W.heap.size)
    (fun pre W W' row hs hg hr => by
      obtain ⟨k5, k6, k8, kB, kz, kp⟩ := hs
      exact ⟨blk_grown k5 hg (fun r e => (hr r e).2), blk_grown k6 hg (fun r e => (hr r e).2), blk_grown k8 hg (fun r e => (hr r e).2), kB.grown hg kB.size (fun r e => Nat.le_trans hB0.size (hr r e).1), Nat.le_trans kz hg.size, kp⟩)
    (fun c pre W W' row hs hg hr => by
      obtain ⟨kc, k6, kB, kn, kz⟩ := hs
      exact ⟨kc, blk_grown k6 hg (fun r e => (hr r e).2), kB.grown hg kB.size (fun r e => Nat.le_trans hB0.size (hr r e).1), kn, Nat.le_trans kz hg.size⟩)
    ⟨b5, b6, b8, hB0, Nat.le_refl _, rfl, Nat.zero_le _⟩
    (fun x a' W => ∃ b9, a' = { tmps := #[.int .i64 (p : Int), .int .i64 (L : Int), .slice q n c, undef, undef, .pointer (some ⟨w.heap.size, 0, none⟩), .pointer (some ⟨w.heap.size + 1, 0, none⟩), .int .i64 0, .pointer (some ⟨w.heap.size + 1 + 1, 0, none⟩), .pointer (some ⟨b9, 0, none⟩), .int .i64 (p : Int), .int .i64 (L : Int), .int .i64 0, .int .i64 0, .bool false, undef, .int .i64 (p : Int), .int .i64 (L : Int), .func (.func 46) #[] (itF (w.heap.size + 1 + 1 + 1)), .agg #[.int .i64 x.1.q, .int .i64 x.1.fa, .int .i64 x.1.fb, .int .i64 x.1.ba, .int .i64 x.1.bb], .agg #[.int .i64 x.2.1, .int .i64 x.2.2], undef, undef, undef, undef, undef, undef, undef, undef, undef, undef, undef, undef, undef, undef, undef, undef, undef, undef, undef, undef, undef, undef, undef, undef, undef, undef, undef, undef, undef, undef, undef, undef, undef, undef, undef, undef, undef, undef, undef, undef], defers := [] } ∧ Blk W b9 64 (shV x.1) ∧ w3.heap.size ≤ b9)
    (fun x a' _ W W' row hs hg hr => by
      obtain ⟨b9, e, k1, k2⟩ := hs
      exact ⟨b9, e, blk_grown k1 hg (fun r e => (hr r e).2), k2⟩)
    ?assign ?body ?done ?stop
  case assign =>
    intro l pre x W K hI hK
    unfold itV
    have N := blk_new W 64 #[.int .i64 0, .int .i64 0, .int .i64 0, .int .i64 0, .int .i64 0]
    have X := new_struct W #[.int .i64 0, .int .i64 0, .int .i64 0, .int .i64 0, .int .i64 0] 64 (shV x.1) rfl
    gi_wp2_with (refine wpListIn_store_mid rfl 64 (.tmp 9) (.tmp 19) rfl W.heap.size 0 (shV x.1).toArray rfl rfl (by simpa [shV] using N.there 0 5 (by simp)) (by kernel_rfl) (all_oneCell_toArray (shE.one x.1)) ?_)
    generalize ((W.alloc (.cells #[.int .i64 0, .int .i64 0, .int .i64 0, .int .i64 0, .int .i64 0] 64)).setCells W.heap.size 0 (shV x.1)) = W2 at X ⊢
    obtain ⟨k5, k6, k8, kB, kz, kp⟩ := hI
    exact hK _ _ (kf_below X.1) (Kept.of X.1 (by omega)) ⟨k5.keep X.1, k6.keep X.1, k8.keep X.1, kB.trans (X.1.mono kB.size), Nat.le_trans kz X.1.size, kp⟩ ⟨_, rfl, X.2, kz⟩
  case body =>
    rintro l pre x a' W hl hr ⟨k5, k6, k8, kB, kz, kp, kn⟩ ⟨b9, rfl, k9, hb9⟩ hlen
    obtain ⟨m, hm⟩ : ∃ m, pre.length = m := ⟨_, rfl⟩
    rw [hm] at k8 kp kn hlen
    have HM := Lib.hid hm
    clear hm hr
    have hm3 : m ≤ 300 := by omega
    have C5 := Lib.hid (fun w' (h : Below W.heap.size W w') => (k5.keep h).cell (j := 0) rfl)
    have C8 := Lib.hid (fun w' (h : Below W.heap.size W w') => (k8.keep h).cell (j := 0) rfl)
    have RX := Lib.hid (fun w' (h : Below W.heap.size W w') => show w'.rangeAt b9 0 [.int .i64 x.1.q, .int .i64 x.1.fa, .int .i64 x.1.fb, .int .i64 x.1.ba, .int .i64 x.1.bb] from (k9.keep h).range 0 5)
    rcases Nat.lt_or_ge m n with hlt | hge
    · have hne : ¬ (m : Int) = (n : Int) := by omega
      have hltz : (m : Int) < (n : Int) := by omega
      obtain ⟨y, hy⟩ : ∃ y, lst[m]? = some y := ⟨_, List.getElem?_eq_getElem (by rw [HN.out]; exact hlt)⟩
      obtain ⟨b, off, rfl, hLay⟩ := hA.get (i := m) (by rw [HN.out]; exact hlt)
      have RY := Lib.hid (fun w' (h : Below W.heap.size W w') => show w'.rangeAt b (off + m * 5) [.int .i64 y.q, .int .i64 y.fa, .int .i64 y.fb, .int .i64 y.ba, .int .i64 y.bb] from (hLay.keep (kB.trans (h.mono kB.size))).range hy)
      have HY := Lib.hid hy
      clear hy hA hLay
      have E1 := fun w' => equal_pair 9998 y.fa y.fb x.1.fa x.1.fb w'
      have E2 := fun w' => equal_pair 9998 y.ba y.bb x.1.ba x.1.bb w'
      by_cases hq0 : y.q = x.1.q
      · by_cases hf0 : (y.fa, y.fb) = (x.1.fa, x.1.fb)
        · injection hf0 with hf1 hf2
          by_cases hb0 : (y.ba, y.bb) = (x.1.ba, x.1.bb)
          · injection hb0 with hb1 hb2
            have HXY := Lib.hid (show y = x.1 from by cases y; cases hx : x.1; rw [hx] at hq0 hf1 hf2 hb1 hb2; simp_all)
            have HE1 := Lib.hid (fun w' => show _ = Result.ok true w' from (E1 w').trans (by rw [hf1, hf2]; simp))
            have HE2 := Lib.hid (fun w' => show _ = Result.ok true w' from (E2 w').trans (by rw [hb1, hb2]; simp))
            clear E1 E2 hf1 hf2 hb1 hb2
            have e9 : (m : Int) + 1 = (m : Int) + 1 := rfl
            clear e9
            gi_wp2
            refine wpIn_round_held (S := fun w' => Below W.heap.size W w') (by kernel_rfl) (by kernel_rfl) (by rintro ⟨a9, w9, h9⟩; exact h9) (below_drew (Below.refl _ _)) (fun hHeld => ?_)
            generalize W.drew = V0 at hHeld ⊢
            refine wt (i := 0) (oi := ⟨some 21, .load 3 (.tmp 8), 3, "impose.go:108", #[], none⟩) (v := .int .i64 (m : Int)) (Or.inl ⟨by rfl, fun w' hSw => by have hc := C8.out w' hSw; go_simp⟩) hHeld ?_
            try simp only [zP, zQ, zS, zZ, zC]
            refine wt (i := 1) (oi := ⟨some 22, .load 22 (.tmp 5), 22, "impose.go:108", #[], none⟩) (v := .slice (some ⟨b, off, none⟩) n c) (Or.inl ⟨by rfl, fun w' hSw => by have hc := C5.out w' hSw; go_simp⟩) hHeld ?_
            try simp only [zP, zQ, zS, zZ, zC]
            refine wt (i := 2) (oi := ⟨some 23, .call { callee := .builtin .len, args := #[.tmp 22], argTypes := #[22] }, 3, "impose.go:108", #[⟨1, .data⟩], none⟩) (v := .int .i64 (n : Int)) (Or.inl ⟨by rfl, fun w' hSw => by go_simp⟩) hHeld ?_
            try simp only [zP, zQ, zS, zZ, zC]
            refine wt (i := 3) (oi := ⟨some 24, .binOp .eql 3 (.tmp 21) (.tmp 23) 3, 4, "impose.go:108", #[⟨0, .data⟩, ⟨2, .data⟩], none⟩) (v := .bool false) (Or.inl ⟨by rfl, fun w' hSw => by go_simp⟩) hHeld ?_
            try simp only [zP, zQ, zS, zZ, zC]
            refine wt (i := 4) (oi := ⟨some 25, .move (.tmp 24), 4, "impose.go:108", #[⟨3, .data⟩], none⟩) (v := .bool false) (Or.inl ⟨by rfl, fun w' hSw => by go_simp⟩) hHeld ?_
            try simp only [zP, zQ, zS, zZ, zC]
            refine wt (i := 5) (oi := ⟨some 26, .load 22 (.tmp 5), 22, "impose.go:108", #[⟨4, .guard⟩], some (4, false)⟩) (v := .slice (some ⟨b, off, none⟩) n c) (Or.inl ⟨by rfl, fun w' hSw => by have hc := C5.out w' hSw; go_simp⟩) hHeld ?_
            try simp only [zP, zQ, zS, zZ, zC]
            refine wt (i := 6) (oi := ⟨some 27, .load 3 (.tmp 8), 3, "impose.go:108", #[⟨4, .guard⟩], some (4, false)⟩) (v := .int .i64 (m : Int)) (Or.inl ⟨by rfl, fun w' hSw => by have hc := C8.out w' hSw; go_simp⟩) hHeld ?_
            try simp only [zP, zQ, zS, zZ, zC]
            refine wt (i := 7) (oi := ⟨some 28, .indexAddr 22 (.tmp 26) (.tmp 27), 0, "impose.go:108", #[⟨5, .data⟩, ⟨6, .data⟩, ⟨4, .guard⟩], some (4, false)⟩) (v := .pointer (some ⟨b, off + m * 5, none⟩)) (Or.inl ⟨by rfl, fun w' hSw => by go_simp; try (intro hcm; exact absurd hcm (by omega))⟩) hHeld ?_
            try simp only [zP, zQ, zS, zZ, zC]
            refine wt (i := 8) (oi := ⟨some 29, .fieldAddr 64 (.tmp 28) 0, 0, "impose.go:108", #[⟨7, .data⟩, ⟨4, .guard⟩], some (4, false)⟩) (v := .pointer (some ⟨b, off + m * 5, none⟩)) (Or.inl ⟨by rfl, fun w' hSw => by go_simp⟩) hHeld ?_
            try simp only [zP, zQ, zS, zZ, zC]
            refine wt (i := 9) (oi := ⟨some 30, .load 3 (.tmp 29), 3, "impose.go:108", #[⟨8, .data⟩, ⟨4, .guard⟩], some (4, false)⟩) (v := .int .i64 y.q) (Or.inl ⟨by rfl, fun w' hSw => by have hc : w'.cell? ⟨b, off + m * 5, none⟩ = some (.int .i64 y.q) := RY.out w' hSw 0 _ rfl; go_simp⟩) hHeld ?_
            try simp only [zP, zQ, zS, zZ, zC]
            refine wt (i := 10) (oi := ⟨some 31, .fieldAddr 64 (.tmp 9) 0, 0, "impose.go:108", #[⟨4, .guard⟩], some (4, false)⟩) (v := .pointer (some ⟨b9, 0, none⟩)) (Or.inl ⟨by rfl, fun w' hSw => by go_simp⟩) hHeld ?_
            try simp only [zP, zQ, zS, zZ, zC]
            refine wt (i := 11) (oi := ⟨some 32, .load 3 (.tmp 31), 3, "impose.go:108", #[⟨10, .data⟩, ⟨4, .guard⟩], some (4, false)⟩) (v := .int .i64 x.1.q) (Or.inl ⟨by rfl, fun w' hSw => by have hc : w'.cell? ⟨b9, 0, none⟩ = some (.int .i64 x.1.q) := RX.out w' hSw 0 _ rfl; go_simp⟩) hHeld ?_
            try simp only [zP, zQ, zS, zZ, zC]
            refine wt (i := 12) (oi := ⟨some 33, .binOp .neq 3 (.tmp 30) (.tmp 32) 3, 4, "impose.go:108", #[⟨9, .data⟩, ⟨11, .data⟩, ⟨4, .guard⟩], some (4, false)⟩) (v := .bool false) (Or.inl ⟨by rfl, fun w' hSw => by go_simp⟩) hHeld ?_
            try simp only [zP, zQ, zS, zZ, zC]
            refine wt (i := 13) (oi := ⟨some 34, .pick (.tmp 25) (.const (Value.bool true)) (.tmp 33), 4, "impose.go:108", #[⟨4, .data⟩, ⟨12, .data⟩], none⟩) (v := .bool false) (Or.inl ⟨by rfl, fun w' hSw => by go_simp⟩) hHeld ?_
            try simp only [zP, zQ, zS, zZ, zC]
            refine wt (i := 14) (oi := ⟨some 35, .move (.tmp 34), 4, "impose.go:108", #[⟨13, .data⟩, ⟨4, .chain⟩], none⟩) (v := .bool false) (Or.inl ⟨by rfl, fun w' hSw => by go_simp⟩) hHeld ?_
            try simp only [zP, zQ, zS, zZ, zC]
            refine wt (i := 15) (oi := ⟨some 36, .load 22 (.tmp 5), 22, "impose.go:108", #[⟨14, .guard⟩], some (14, false)⟩) (v := .slice (some ⟨b, off, none⟩) n c) (Or.inl ⟨by rfl, fun w' hSw => by have hc := C5.out w' hSw; go_simp⟩) hHeld ?_
            try simp only [zP, zQ, zS, zZ, zC]
            refine wt (i := 16) (oi := ⟨some 37, .load 3 (.tmp 8), 3, "impose.go:108", #[⟨14, .guard⟩], some (14, false)⟩) (v := .int .i64 (m : Int)) (Or.inl ⟨by rfl, fun w' hSw => by have hc := C8.out w' hSw; go_simp⟩) hHeld ?_
            try simp only [zP, zQ, zS, zZ, zC]
            refine wt (i := 17) (oi := ⟨some 38, .indexAddr 22 (.tmp 36) (.tmp 37), 0, "impose.go:108", #[⟨15, .data⟩, ⟨16, .data⟩, ⟨14, .guard⟩], some (14, false)⟩) (v := .pointer (some ⟨b, off + m * 5, none⟩)) (Or.inl ⟨by rfl, fun w' hSw => by go_simp; try (intro hcm; exact absurd hcm (by omega))⟩) hHeld ?_
            try simp only [zP, zQ, zS, zZ, zC]
            refine wt (i := 18) (oi := ⟨some 39, .fieldAddr 64 (.tmp 38) 1, 0, "impose.go:108", #[⟨17, .data⟩, ⟨14, .guard⟩], some (14, false)⟩) (v := .pointer (some ⟨b, off + m * 5 + 1, none⟩)) (Or.inl ⟨by rfl, fun w' hSw => by go_simp⟩) hHeld ?_
            try simp only [zP, zQ, zS, zZ, zC]
            refine wt (i := 19) (oi := ⟨some 40, .load 25 (.tmp 39), 25, "impose.go:108", #[⟨18, .data⟩, ⟨14, .guard⟩], some (14, false)⟩) (v := _) (yieldsIf_load_mid (by rfl) _ _ rfl b (off + m * 5 + 1) rfl [.int .i64 y.fa, .int .i64 y.fb] _ (fun w' hSw => two_at (RY.out w' hSw 1 _ rfl) (RY.out w' hSw 2 _ rfl)) Try.underlying25 rfl (by kernel_rfl)) hHeld ?_
            try simp only [zP, zQ, zS, zZ, zC]
            refine wt (i := 20) (oi := ⟨some 41, .fieldAddr 64 (.tmp 9) 1, 0, "impose.go:108", #[⟨14, .guard⟩], some (14, false)⟩) (v := .pointer (some ⟨b9, 1, none⟩)) (Or.inl ⟨by rfl, fun w' hSw => by go_simp⟩) hHeld ?_
            try simp only [zP, zQ, zS, zZ, zC]
            refine wt (i := 21) (oi := ⟨some 42, .load 25 (.tmp 41), 25, "impose.go:108", #[⟨20, .data⟩, ⟨14, .guard⟩], some (14, false)⟩) (v := _) (yieldsIf_load_mid (by rfl) _ _ rfl b9 (1) rfl [.int .i64 x.1.fa, .int .i64 x.1.fb] _ (fun w' hSw => two_at (RX.out w' hSw 1 _ rfl) (RX.out w' hSw 2 _ rfl)) Try.underlying25 rfl (by kernel_rfl)) hHeld ?_
            try simp only [zP, zQ, zS, zZ, zC]
            refine wt (i := 22) (oi := ⟨some 43, .binOp .neq 25 (.tmp 40) (.tmp 42) 25, 4, "impose.go:108", #[⟨19, .data⟩, ⟨21, .data⟩, ⟨14, .guard⟩], some (14, false)⟩) (v := .bool false) (Or.inl ⟨by rfl, fun w' hSw => by have hq := HE1.out w'; go_simp⟩) hHeld ?_
            try simp only [zP, zQ, zS, zZ, zC]
            refine wt (i := 23) (oi := ⟨some 44, .pick (.tmp 35) (.const (Value.bool true)) (.tmp 43), 4, "impose.go:108", #[⟨14, .data⟩, ⟨22, .data⟩], none⟩) (v := .bool false) (Or.inl ⟨by rfl, fun w' hSw => by go_simp⟩) hHeld ?_
            try simp only [zP, zQ, zS, zZ, zC]
            refine wt (i := 24) (oi := ⟨some 45, .move (.tmp 44), 4, "impose.go:108", #[⟨23, .data⟩, ⟨14, .chain⟩], none⟩) (v := .bool false) (Or.inl ⟨by rfl, fun w' hSw => by go_simp⟩) hHeld ?_
            try simp only [zP, zQ, zS, zZ, zC]
            refine wt (i := 25) (oi := ⟨some 46, .load 22 (.tmp 5), 22, "impose.go:108", #[⟨24, .guard⟩], some (24, false)⟩) (v := .slice (some ⟨b, off, none⟩) n c) (Or.inl ⟨by rfl, fun w' hSw => by have hc := C5.out w' hSw; go_simp⟩) hHeld ?_
            try simp only [zP, zQ, zS, zZ, zC]
            refine wt (i := 26) (oi := ⟨some 47, .load 3 (.tmp 8), 3, "impose.go:108", #[⟨24, .guard⟩], some (24, false)⟩) (v := .int .i64 (m : Int)) (Or.inl ⟨by rfl, fun w' hSw => by have hc := C8.out w' hSw; go_simp⟩) hHeld ?_
            try simp only [zP, zQ, zS, zZ, zC]
            refine wt (i := 27) (oi := ⟨some 48, .indexAddr 22 (.tmp 46) (.tmp 47), 0, "impose.go:108", #[⟨25, .data⟩, ⟨26, .data⟩, ⟨24, .guard⟩], some (24, false)⟩) (v := .pointer (some ⟨b, off + m * 5, none⟩)) (Or.inl ⟨by rfl, fun w' hSw => by go_simp; try (intro hcm; exact absurd hcm (by omega))⟩) hHeld ?_
            try simp only [zP, zQ, zS, zZ, zC]
            refine wt (i := 28) (oi := ⟨some 49, .fieldAddr 64 (.tmp 48) 2, 0, "impose.go:108", #[⟨27, .data⟩, ⟨24, .guard⟩], some (24, false)⟩) (v := .pointer (some ⟨b, off + m * 5 + 3, none⟩)) (Or.inl ⟨by rfl, fun w' hSw => by go_simp⟩) hHeld ?_
            try simp only [zP, zQ, zS, zZ, zC]
            refine wt (i := 29) (oi := ⟨some 50, .load 25 (.tmp 49), 25, "impose.go:108", #[⟨28, .data⟩, ⟨24, .guard⟩], some (24, false)⟩) (v := _) (yieldsIf_load_mid (by rfl) _ _ rfl b (off + m * 5 + 3) rfl [.int .i64 y.ba, .int .i64 y.bb] _ (fun w' hSw => two_at (RY.out w' hSw 3 _ rfl) (RY.out w' hSw 4 _ rfl)) Try.underlying25 rfl (by kernel_rfl)) hHeld ?_
            try simp only [zP, zQ, zS, zZ, zC]
            refine wt (i := 30) (oi := ⟨some 51, .fieldAddr 64 (.tmp 9) 2, 0, "impose.go:108", #[⟨24, .guard⟩], some (24, false)⟩) (v := .pointer (some ⟨b9, 3, none⟩)) (Or.inl ⟨by rfl, fun w' hSw => by go_simp⟩) hHeld ?_
            try simp only [zP, zQ, zS, zZ, zC]
            refine wt (i := 31) (oi := ⟨some 52, .load 25 (.tmp 51), 25, "impose.go:108", #[⟨30, .data⟩, ⟨24, .guard⟩], some (24, false)⟩) (v := _) (yieldsIf_load_mid (by rfl) _ _ rfl b9 (3) rfl [.int .i64 x.1.ba, .int .i64 x.1.bb] _ (fun w' hSw => two_at (RX.out w' hSw 3 _ rfl) (RX.out w' hSw 4 _ rfl)) Try.underlying25 rfl (by kernel_rfl)) hHeld ?_
            try simp only [zP, zQ, zS, zZ, zC]
            refine wt (i := 32) (oi := ⟨some 53, .binOp .neq 25 (.tmp 50) (.tmp 52) 25, 4, "impose.go:108", #[⟨29, .data⟩, ⟨31, .data⟩, ⟨24, .guard⟩], some (24, false)⟩) (v := .bool false) (Or.inl ⟨by rfl, fun w' hSw => by have hq := HE2.out w'; go_simp⟩) hHeld ?_
            try simp only [zP, zQ, zS, zZ, zC]
            refine wt (i := 33) (oi := ⟨some 54, .pick (.tmp 45) (.const (Value.bool true)) (.tmp 53), 4, "impose.go:108", #[⟨24, .data⟩, ⟨32, .data⟩], none⟩) (v := .bool false) (Or.inl ⟨by rfl, fun w' hSw => by go_simp⟩) hHeld ?_
            try simp only [zP, zQ, zS, zZ, zC]
            refine wpAnyH_done (by kernel_rfl) ?_ _
            have BX := hHeld
            clear hHeld
            have K6 := k6.keep BX
            have K8 := k8.keep BX
            have c6 := K6.cell (j := 0) rfl
            have f6 := K6.free 0
            have c8 := K8.cell (j := 0) rfl
            have f8 := K8.free 0
            clear RX RY C5 C8 HE1 HE2
            gi_wp2
            exact ⟨(kf_below BX).trans ((KeepsOthers.setCell _ _ _).from _), (Kept.of BX (by omega)).trans ⟨by simp [World.setCell], fun k h1 h2 => Below.heap_setCell _ _ _ _ (by show k ≠ w.heap.size + 1 + 1; omega)⟩, (k5.keep BX).other (by show w.heap.size ≠ w.heap.size + 1 + 1; omega) _, K6.other (by show w.heap.size + 1 ≠ w.heap.size + 1 + 1; omega) _, by have := K8.set 0 (.int .i64 ((m : Int) + 1)); rw [show ((pre ++ [x]).length : Int) = (m : Int) + 1 from by rw [List.length_append, HM.out]; rfl]; exact this, (kB.trans (BX.mono kB.size)).setCell (by show w.heap.size ≤ w.heap.size + 1 + 1; omega) _, by have := BX.size; simp [World.setCell]; omega, by rw [List.map_append, List.length_append, kp, HM.out]; show _ = lst.take (m + 1); rw [List.take_add_one, HY.out, HXY.out]; rfl, by rw [List.length_append, HM.out]; show m + 1 ≤ n; omega⟩
          · have HE1 := Lib.hid (fun w' => show _ = Result.ok true w' from (E1 w').trans (by rw [hf1, hf2]; simp))
            have HE2 := Lib.hid (fun w' => show _ = Result.ok false w' from (E2 w').trans (by congr 1; rw [Bool.and_eq_false_iff]; by_cases g : y.ba = x.1.ba; exact Or.inr (by simpa using fun g2 => hb0 (by rw [g, g2])); exact Or.inl (by simpa using g)))
            replace hb0 : y ≠ x.1 := fun e => hb0 (by rw [e])
            clear E1 E2 hf1 hf2
            gi_wp2
            refine wpIn_round_held (S := fun w' => Below W.heap.size W w') (by kernel_rfl) (by kernel_rfl) (by rintro ⟨a9, w9, h9⟩; exact h9) (below_drew (Below.refl _ _)) (fun hHeld => ?_)
            generalize W.drew = V0 at hHeld ⊢
            refine wt (i := 0) (oi := ⟨some 21, .load 3 (.tmp 8), 3, "impose.go:108", #[], none⟩) (v := .int .i64 (m : Int)) (Or.inl ⟨by rfl, fun w' hSw => by have hc := C8.out w' hSw; go_simp⟩) hHeld ?_
            try simp only [zP, zQ, zS, zZ, zC]
            refine wt (i := 1) (oi := ⟨some 22, .load 22 (.tmp 5), 22, "impose.go:108", #[], none⟩) (v := .slice (some ⟨b, off, none⟩) n c) (Or.inl ⟨by rfl, fun w' hSw => by have hc := C5.out w' hSw; go_simp⟩) hHeld ?_
            try simp only [zP, zQ, zS, zZ, zC]
            refine wt (i := 2) (oi := ⟨some 23, .call { callee := .builtin .len, args := #[.tmp 22], argTypes := #[22] }, 3, "impose.go:108", #[⟨1, .data⟩], none⟩) (v := .int .i64 (n : Int)) (Or.inl ⟨by rfl, fun w' hSw => by go_simp⟩) hHeld ?_
            try simp only [zP, zQ, zS, zZ, zC]
            refine wt (i := 3) (oi := ⟨some 24, .binOp .eql 3 (.tmp 21) (.tmp 23) 3, 4, "impose.go:108", #[⟨0, .data⟩, ⟨2, .data⟩], none⟩) (v := .bool false) (Or.inl ⟨by rfl, fun w' hSw => by go_simp⟩) hHeld ?_
            try simp only [zP, zQ, zS, zZ, zC]
            refine wt (i := 4) (oi := ⟨some 25, .move (.tmp 24), 4, "impose.go:108", #[⟨3, .data⟩], none⟩) (v := .bool false) (Or.inl ⟨by rfl, fun w' hSw => by go_simp⟩) hHeld ?_
            try simp only [zP, zQ, zS, zZ, zC]
            refine wt (i := 5) (oi := ⟨some 26, .load 22 (.tmp 5), 22, "impose.go:108", #[⟨4, .guard⟩], some (4, false)⟩) (v := .slice (some ⟨b, off, none⟩) n c) (Or.inl ⟨by rfl, fun w' hSw => by have hc := C5.out w' hSw; go_simp⟩) hHeld ?_
            try simp only [zP, zQ, zS, zZ, zC]
            refine wt (i := 6) (oi := ⟨some 27, .load 3 (.tmp 8), 3, "impose.go:108", #[⟨4, .guard⟩], some (4, false)⟩) (v := .int .i64 (m : Int)) (Or.inl ⟨by rfl, fun w' hSw => by have hc := C8.out w' hSw; go_simp⟩) hHeld ?_
            try simp only [zP, zQ, zS, zZ, zC]
            refine wt (i := 7) (oi := ⟨some 28, .indexAddr 22 (.tmp 26) (.tmp 27), 0, "impose.go:108", #[⟨5, .data⟩, ⟨6, .data⟩, ⟨4, .guard⟩], some (4, false)⟩) (v := .pointer (some ⟨b, off + m * 5, none⟩)) (Or.inl ⟨by rfl, fun w' hSw => by go_simp; try (intro hcm; exact absurd hcm (by omega))⟩) hHeld ?_
            try simp only [zP, zQ, zS, zZ, zC]
            refine wt (i := 8) (oi := ⟨some 29, .fieldAddr 64 (.tmp 28) 0, 0, "impose.go:108", #[⟨7, .data⟩, ⟨4, .guard⟩], some (4, false)⟩) (v := .pointer (some ⟨b, off + m * 5, none⟩)) (Or.inl ⟨by rfl, fun w' hSw => by go_simp⟩) hHeld ?_
            try simp only [zP, zQ, zS, zZ, zC]
            refine wt (i := 9) (oi := ⟨some 30, .load 3 (.tmp 29), 3, "impose.go:108", #[⟨8, .data⟩, ⟨4, .guard⟩], some (4, false)⟩) (v := .int .i64 y.q) (Or.inl ⟨by rfl, fun w' hSw => by have hc : w'.cell? ⟨b, off + m * 5, none⟩ = some (.int .i64 y.q) := RY.out w' hSw 0 _ rfl; go_simp⟩) hHeld ?_
            try simp only [zP, zQ, zS, zZ, zC]
            refine wt (i := 10) (oi := ⟨some 31, .fieldAddr 64 (.tmp 9) 0, 0, "impose.go:108", #[⟨4, .guard⟩], some (4, false)⟩) (v := .pointer (some ⟨b9, 0, none⟩)) (Or.inl ⟨by rfl, fun w' hSw => by go_simp⟩) hHeld ?_
            try simp only [zP, zQ, zS, zZ, zC]
            refine wt (i := 11) (oi := ⟨some 32, .load 3 (.tmp 31), 3, "impose.go:108", #[⟨10, .data⟩, ⟨4, .guard⟩], some (4, false)⟩) (v := .int .i64 x.1.q) (Or.inl ⟨by rfl, fun w' hSw => by have hc : w'.cell? ⟨b9, 0, none⟩ = some (.int .i64 x.1.q) := RX.out w' hSw 0 _ rfl; go_simp⟩) hHeld ?_
            try simp only [zP, zQ, zS, zZ, zC]
            refine wt (i := 12) (oi := ⟨some 33, .binOp .neq 3 (.tmp 30) (.tmp 32) 3, 4, "impose.go:108", #[⟨9, .data⟩, ⟨11, .data⟩, ⟨4, .guard⟩], some (4, false)⟩) (v := .bool false) (Or.inl ⟨by rfl, fun w' hSw => by go_simp⟩) hHeld ?_
            try simp only [zP, zQ, zS, zZ, zC]
            refine wt (i := 13) (oi := ⟨some 34, .pick (.tmp 25) (.const (Value.bool true)) (.tmp 33), 4, "impose.go:108", #[⟨4, .data⟩, ⟨12, .data⟩], none⟩) (v := .bool false) (Or.inl ⟨by rfl, fun w' hSw => by go_simp⟩) hHeld ?_
            try simp only [zP, zQ, zS, zZ, zC]
            refine wt (i := 14) (oi := ⟨some 35, .move (.tmp 34), 4, "impose.go:108", #[⟨13, .data⟩, ⟨4, .chain⟩], none⟩) (v := .bool false) (Or.inl ⟨by rfl, fun w' hSw => by go_simp⟩) hHeld ?_
            try simp only [zP, zQ, zS, zZ, zC]
            refine wt (i := 15) (oi := ⟨some 36, .load 22 (.tmp 5), 22, "impose.go:108", #[⟨14, .guard⟩], some (14, false)⟩) (v := .slice (some ⟨b, off, none⟩) n c) (Or.inl ⟨by rfl, fun w' hSw => by have hc := C5.out w' hSw; go_simp⟩) hHeld ?_
            try simp only [zP, zQ, zS, zZ, zC]
            refine wt (i := 16) (oi := ⟨some 37, .load 3 (.tmp 8), 3, "impose.go:108", #[⟨14, .guard⟩], some (14, false)⟩) (v := .int .i64 (m : Int)) (Or.inl ⟨by rfl, fun w' hSw => by have hc := C8.out w' hSw; go_simp⟩) hHeld ?_
            try simp only [zP, zQ, zS, zZ, zC]
            refine wt (i := 17) (oi := ⟨some 38, .indexAddr 22 (.tmp 36) (.tmp 37), 0, "impose.go:108", #[⟨15, .data⟩, ⟨16, .data⟩, ⟨14, .guard⟩], some (14, false)⟩) (v := .pointer (some ⟨b, off + m * 5, none⟩)) (Or.inl ⟨by rfl, fun w' hSw => by go_simp; try (intro hcm; exact absurd hcm (by omega))⟩) hHeld ?_
            try simp only [zP, zQ, zS, zZ, zC]
            refine wt (i := 18) (oi := ⟨some 39, .fieldAddr 64 (.tmp 38) 1, 0, "impose.go:108", #[⟨17, .data⟩, ⟨14, .guard⟩], some (14, false)⟩) (v := .pointer (some ⟨b, off + m * 5 + 1, none⟩)) (Or.inl ⟨by rfl, fun w' hSw => by go_simp⟩) hHeld ?_
            try simp only [zP, zQ, zS, zZ, zC]
            refine wt (i := 19) (oi := ⟨some 40, .load 25 (.tmp 39), 25, "impose.go:108", #[⟨18, .data⟩, ⟨14, .guard⟩], some (14, false)⟩) (v := _) (yieldsIf_load_mid (by rfl) _ _ rfl b (off + m * 5 + 1) rfl [.int .i64 y.fa, .int .i64 y.fb] _ (fun w' hSw => two_at (RY.out w' hSw 1 _ rfl) (RY.out w' hSw 2 _ rfl)) Try.underlying25 rfl (by kernel_rfl)) hHeld ?_
            try simp only [zP, zQ, zS, zZ, zC]
            refine wt (i := 20) (oi := ⟨some 41, .fieldAddr 64 (.tmp 9) 1, 0, "impose.go:108", #[⟨14, .guard⟩], some (14, false)⟩) (v := .pointer (some ⟨b9, 1, none⟩)) (Or.inl ⟨by rfl, fun w' hSw => by go_simp⟩) hHeld ?_
            try simp only [zP, zQ, zS, zZ, zC]
            refine wt (i := 21) (oi := ⟨some 42, .load 25 (.tmp 41), 25, "impose.go:108", #[⟨20, .data⟩, ⟨14, .guard⟩], some (14, false)⟩) (v := _) (yieldsIf_load_mid (by rfl) _ _ rfl b9 (1) rfl [.int .i64 x.1.fa, .int .i64 x.1.fb] _ (fun w' hSw => two_at (RX.out w' hSw 1 _ rfl) (RX.out w' hSw 2 _ rfl)) Try.underlying25 rfl (by kernel_rfl)) hHeld ?_
            try simp only [zP, zQ, zS, zZ, zC]
            refine wt (i := 22) (oi := ⟨some 43, .binOp .neq 25 (.tmp 40) (.tmp 42) 25, 4, "impose.go:108", #[⟨19, .data⟩, ⟨21, .data⟩, ⟨14, .guard⟩], some (14, false)⟩) (v := .bool false) (Or.inl ⟨by rfl, fun w' hSw => by have hq := HE1.out w'; go_simp⟩) hHeld ?_
            try simp only [zP, zQ, zS, zZ, zC]
            refine wt (i := 23) (oi := ⟨some 44, .pick (.tmp 35) (.const (Value.bool true)) (.tmp 43), 4, "impose.go:108", #[⟨14, .data⟩, ⟨22, .data⟩], none⟩) (v := .bool false) (Or.inl ⟨by rfl, fun w' hSw => by go_simp⟩) hHeld ?_
            try simp only [zP, zQ, zS, zZ, zC]
            refine wt (i := 24) (oi := ⟨some 45, .move (.tmp 44), 4, "impose.go:108", #[⟨23, .data⟩, ⟨14, .chain⟩], none⟩) (v := .bool false) (Or.inl ⟨by rfl, fun w' hSw => by go_simp⟩) hHeld ?_
            try simp only [zP, zQ, zS, zZ, zC]
            refine wt (i := 25) (oi := ⟨some 46, .load 22 (.tmp 5), 22, "impose.go:108", #[⟨24, .guard⟩], some (24, false)⟩) (v := .slice (some ⟨b, off, none⟩) n c) (Or.inl ⟨by rfl, fun w' hSw => by have hc := C5.out w' hSw; go_simp⟩) hHeld ?_
            try simp only [zP, zQ, zS, zZ, zC]
            refine wt (i := 26) (oi := ⟨some 47, .load 3 (.tmp 8), 3, "impose.go:108", #[⟨24, .guard⟩], some (24, false)⟩) (v := .int .i64 (m : Int)) (Or.inl ⟨by rfl, fun w' hSw => by have hc := C8.out w' hSw; go_simp⟩) hHeld ?_
            try simp only [zP, zQ, zS, zZ, zC]
            refine wt (i := 27) (oi := ⟨some 48, .indexAddr 22 (.tmp 46) (.tmp 47), 0, "impose.go:108", #[⟨25, .data⟩, ⟨26, .data⟩, ⟨24, .guard⟩], some (24, false)⟩) (v := .pointer (some ⟨b, off + m * 5, none⟩)) (Or.inl ⟨by rfl, fun w' hSw => by go_simp; try (intro hcm; exact absurd hcm (by omega))⟩) hHeld ?_
            try simp only [zP, zQ, zS, zZ, zC]
            refine wt (i := 28) (oi := ⟨some 49, .fieldAddr 64 (.tmp 48) 2, 0, "impose.go:108", #[⟨27, .data⟩, ⟨24, .guard⟩], some (24, false)⟩) (v := .pointer (some ⟨b, off + m * 5 + 3, none⟩)) (Or.inl ⟨by rfl, fun w' hSw => by go_simp⟩) hHeld ?_
            try simp only [zP, zQ, zS, zZ, zC]
            refine wt (i := 29) (oi := ⟨some 50, .load 25 (.tmp 49), 25, "impose.go:108", #[⟨28, .data⟩, ⟨24, .guard⟩], some (24, false)⟩) (v := _) (yieldsIf_load_mid (by rfl) _ _ rfl b (off + m * 5 + 3) rfl [.int .i64 y.ba, .int .i64 y.bb] _ (fun w' hSw => two_at (RY.out w' hSw 3 _ rfl) (RY.out w' hSw 4 _ rfl)) Try.underlying25 rfl (by kernel_rfl)) hHeld ?_
            try simp only [zP, zQ, zS, zZ, zC]
            refine wt (i := 30) (oi := ⟨some 51, .fieldAddr 64 (.tmp 9) 2, 0, "impose.go:108", #[⟨24, .guard⟩], some (24, false)⟩) (v := .pointer (some ⟨b9, 3, none⟩)) (Or.inl ⟨by rfl, fun w' hSw => by go_simp⟩) hHeld ?_
            try simp only [zP, zQ, zS, zZ, zC]
            refine wt (i := 31) (oi := ⟨some 52, .load 25 (.tmp 51), 25, "impose.go:108", #[⟨30, .data⟩, ⟨24, .guard⟩], some (24, false)⟩) (v := _) (yieldsIf_load_mid (by rfl) _ _ rfl b9 (3) rfl [.int .i64 x.1.ba, .int .i64 x.1.bb] _ (fun w' hSw => two_at (RX.out w' hSw 3 _ rfl) (RX.out w' hSw 4 _ rfl)) Try.underlying25 rfl (by kernel_rfl)) hHeld ?_
            try simp only [zP, zQ, zS, zZ, zC]
            refine wt (i := 32) (oi := ⟨some 53, .binOp .neq 25 (.tmp 50) (.tmp 52) 25, 4, "impose.go:108", #[⟨29, .data⟩, ⟨31, .data⟩, ⟨24, .guard⟩], some (24, false)⟩) (v := .bool true) (Or.inl ⟨by rfl, fun w' hSw => by have hq := HE2.out w'; go_simp⟩) hHeld ?_
            try simp only [zP, zQ, zS, zZ, zC]
            refine wt (i := 33) (oi := ⟨some 54, .pick (.tmp 45) (.const (Value.bool true)) (.tmp 53), 4, "impose.go:108", #[⟨24, .data⟩, ⟨32, .data⟩], none⟩) (v := .bool true) (Or.inl ⟨by rfl, fun w' hSw => by go_simp⟩) hHeld ?_
            try simp only [zP, zQ, zS, zZ, zC]
            refine wpAnyH_done (by kernel_rfl) ?_ _
            have BX := hHeld
            clear hHeld
            have K6 := k6.keep BX
            have K8 := k8.keep BX
            have c6 := K6.cell (j := 0) rfl
            have f6 := K6.free 0
            have c8 := K8.cell (j := 0) rfl
            have f8 := K8.free 0
            clear RX RY C5 C8
            gi_wp2
            exact ⟨(kf_below BX).trans ((KeepsOthers.setCell _ _ _).from _), rfl, K6.set 0 _, (kB.trans (BX.mono kB.size)).setCell (by show w.heap.size ≤ w.heap.size + 1; omega) _, not_pre HM.out (by rw [HY.out]; intro h; injection h with h; exact hb0 (by rw [h])), by have := BX.size; simp [World.setCell]; omega⟩
        · have HE1 := Lib.hid (fun w' => show _ = Result.ok false w' from (E1 w').trans (by congr 1; rw [Bool.and_eq_false_iff]; by_cases g : y.fa = x.1.fa; exact Or.inr (by simpa using fun g2 => hf0 (by rw [g, g2])); exact Or.inl (by simpa using g)))
          replace hf0 : y ≠ x.1 := fun e => hf0 (by rw [e])
          clear E1 E2
          gi_wp2
          refine wpIn_round_held (S := fun w' => Below W.heap.size W w') (by kernel_rfl) (by kernel_rfl) (by rintro ⟨a9, w9, h9⟩; exact h9) (below_drew (Below.refl _ _)) (fun hHeld => ?_)
          generalize W.drew = V0 at hHeld ⊢
          refine wt (i := 0) (oi := ⟨some 21, .load 3 (.tmp 8), 3, "impose.go:108", #[], none⟩) (v := .int .i64 (m : Int)) (Or.inl ⟨by rfl, fun w' hSw => by have hc := C8.out w' hSw; go_simp⟩) hHeld ?_
          try simp only [zP, zQ, zS, zZ, zC]
          refine wt (i := 1) (oi := ⟨some 22, .load 22 (.tmp 5), 22, "impose.go:108", #[], none⟩) (v := .slice (some ⟨b, off, none⟩) n c) (Or.inl ⟨by rfl, fun w' hSw => by have hc := C5.out w' hSw; go_simp⟩) hHeld ?_
          try simp only [zP, zQ, zS, zZ, zC]
          refine wt (i := 2) (oi := ⟨some 23, .call { callee := .builtin .len, args := #[.tmp 22], argTypes := #[22] }, 3, "impose.go:108", #[⟨1, .data⟩], none⟩) (v := .int .i64 (n : Int)) (Or.inl ⟨by rfl, fun w' hSw => by go_simp⟩) hHeld ?_
          try simp only [zP, zQ, zS, zZ, zC]
          refine wt (i := 3) (oi := ⟨some 24, .binOp .eql 3 (.tmp 21) (.tmp 23) 3, 4, "impose.go:108", #[⟨0, .data⟩, ⟨2, .data⟩], none⟩) (v := .bool false) (Or.inl ⟨by rfl, fun w' hSw => by go_simp⟩) hHeld ?_
          try simp only [zP, zQ, zS, zZ, zC]
          refine wt (i := 4) (oi := ⟨some 25, .move (.tmp 24), 4, "impose.go:108", #[⟨3, .data⟩], none⟩) (v := .bool false) (Or.inl ⟨by rfl, fun w' hSw => by go_simp⟩) hHeld ?_
          try simp only [zP, zQ, zS, zZ, zC]
          refine wt (i := 5) (oi := ⟨some 26, .load 22 (.tmp 5), 22, "impose.go:108", #[⟨4, .guard⟩], some (4, false)⟩) (v := .slice (some ⟨b, off, none⟩) n c) (Or.inl ⟨by rfl, fun w' hSw => by have hc := C5.out w' hSw; go_simp⟩) hHeld ?_
          try simp only [zP, zQ, zS, zZ, zC]
          refine wt (i := 6) (oi := ⟨some 27, .load 3 (.tmp 8), 3, "impose.go:108", #[⟨4, .guard⟩], some (4, false)⟩) (v := .int .i64 (m : Int)) (Or.inl ⟨by rfl, fun w' hSw => by have hc := C8.out w' hSw; go_simp⟩) hHeld ?_
          try simp only [zP, zQ, zS, zZ, zC]
          refine wt (i := 7) (oi := ⟨some 28, .indexAddr 22 (.tmp 26) (.tmp 27), 0, "impose.go:108", #[⟨5, .data⟩, ⟨6, .data⟩, ⟨4, .guard⟩], some (4, false)⟩) (v := .pointer (some ⟨b, off + m * 5, none⟩)) (Or.inl ⟨by rfl, fun w' hSw => by go_simp; try (intro hcm; exact absurd hcm (by omega))⟩) hHeld ?_
          try simp only [zP, zQ, zS, zZ, zC]
          refine wt (i := 8) (oi := ⟨some 29, .fieldAddr 64 (.tmp 28) 0, 0, "impose.go:108", #[⟨7, .data⟩, ⟨4, .guard⟩], some (4, false)⟩) (v := .pointer (some ⟨b, off + m * 5, none⟩)) (Or.inl ⟨by rfl, fun w' hSw => by go_simp⟩) hHeld ?_
          try simp only [zP, zQ, zS, zZ, zC]
          refine wt (i := 9) (oi := ⟨some 30, .load 3 (.tmp 29), 3, "impose.go:108", #[⟨8, .data⟩, ⟨4, .guard⟩], some (4, false)⟩) (v := .int .i64 y.q) (Or.inl ⟨by rfl, fun w' hSw => by have hc : w'.cell? ⟨b, off + m * 5, none⟩ = some (.int .i64 y.q) := RY.out w' hSw 0 _ rfl; go_simp⟩) hHeld ?_
          try simp only [zP, zQ, zS, zZ, zC]
          refine wt (i := 10) (oi := ⟨some 31, .fieldAddr 64 (.tmp 9) 0, 0, "impose.go:108", #[⟨4, .guard⟩], some (4, false)⟩) (v := .pointer (some ⟨b9, 0, none⟩)) (Or.inl ⟨by rfl, fun w' hSw => by go_simp⟩) hHeld ?_
          try simp only [zP, zQ, zS, zZ, zC]
          refine wt (i := 11) (oi := ⟨some 32, .load 3 (.tmp 31), 3, "impose.go:108", #[⟨10, .data⟩, ⟨4, .guard⟩], some (4, false)⟩) (v := .int .i64 x.1.q) (Or.inl ⟨by rfl, fun w' hSw => by have hc : w'.cell? ⟨b9, 0, none⟩ = some (.int .i64 x.1.q) := RX.out w' hSw 0 _ rfl; go_simp⟩) hHeld ?_
          try simp only [zP, zQ, zS, zZ, zC]
          refine wt (i := 12) (oi := ⟨some 33, .binOp .neq 3 (.tmp 30) (.tmp 32) 3, 4, "impose.go:108", #[⟨9, .data⟩, ⟨11, .data⟩, ⟨4, .guard⟩], some (4, false)⟩) (v := .bool false) (Or.inl ⟨by rfl, fun w' hSw => by go_simp⟩) hHeld ?_
          try simp only [zP, zQ, zS, zZ, zC]
          refine wt (i := 13) (oi := ⟨some 34, .pick (.tmp 25) (.const (Value.bool true)) (.tmp 33), 4, "impose.go:108", #[⟨4, .data⟩, ⟨12, .data⟩], none⟩) (v := .bool false) (Or.inl ⟨by rfl, fun w' hSw => by go_simp⟩) hHeld ?_
          try simp only [zP, zQ, zS, zZ, zC]
          refine wt (i := 14) (oi := ⟨some 35, .move (.tmp 34), 4, "impose.go:108", #[⟨13, .data⟩, ⟨4, .chain⟩], none⟩) (v := .bool false) (Or.inl ⟨by rfl, fun w' hSw => by go_simp⟩) hHeld ?_
          try simp only [zP, zQ, zS, zZ, zC]
          refine wt (i := 15) (oi := ⟨some 36, .load 22 (.tmp 5), 22, "impose.go:108", #[⟨14, .guard⟩], some (14, false)⟩) (v := .slice (some ⟨b, off, none⟩) n c) (Or.inl ⟨by rfl, fun w' hSw => by have hc := C5.out w' hSw; go_simp⟩) hHeld ?_
          try simp only [zP, zQ, zS, zZ, zC]
          refine wt (i := 16) (oi := ⟨some 37, .load 3 (.tmp 8), 3, "impose.go:108", #[⟨14, .guard⟩], some (14, false)⟩) (v := .int .i64 (m : Int)) (Or.inl ⟨by rfl, fun w' hSw => by have hc := C8.out w' hSw; go_simp⟩) hHeld ?_
          try simp only [zP, zQ, zS, zZ, zC]
          refine wt (i := 17) (oi := ⟨some 38, .indexAddr 22 (.tmp 36) (.tmp 37), 0, "impose.go:108", #[⟨15, .data⟩, ⟨16, .data⟩, ⟨14, .guard⟩], some (14, false)⟩) (v := .pointer (some ⟨b, off + m * 5, none⟩)) (Or.inl ⟨by rfl, fun w' hSw => by go_simp; try (intro hcm; exact absurd hcm (by omega))⟩) hHeld ?_
          try simp only [zP, zQ, zS, zZ, zC]
          refine wt (i := 18) (oi := ⟨some 39, .fieldAddr 64 (.tmp 38) 1, 0, "impose.go:108", #[⟨17, .data⟩, ⟨14, .guard⟩], some (14, false)⟩) (v := .pointer (some ⟨b, off + m * 5 + 1, none⟩)) (Or.inl ⟨by rfl, fun w' hSw => by go_simp⟩) hHeld ?_
          try simp only [zP, zQ, zS, zZ, zC]
          refine wt (i := 19) (oi := ⟨some 40, .load 25 (.tmp 39), 25, "impose.go:108", #[⟨18, .data⟩, ⟨14, .guard⟩], some (14, false)⟩) (v := _) (yieldsIf_load_mid (by rfl) _ _ rfl b (off + m * 5 + 1) rfl [.int .i64 y.fa, .int .i64 y.fb] _ (fun w' hSw => two_at (RY.out w' hSw 1 _ rfl) (RY.out w' hSw 2 _ rfl)) Try.underlying25 rfl (by kernel_rfl)) hHeld ?_
          try simp only [zP, zQ, zS, zZ, zC]
          refine wt (i := 20) (oi := ⟨some 41, .fieldAddr 64 (.tmp 9) 1, 0, "impose.go:108", #[⟨14, .guard⟩], some (14, false)⟩) (v := .pointer (some ⟨b9, 1, none⟩)) (Or.inl ⟨by rfl, fun w' hSw => by go_simp⟩) hHeld ?_
          try simp only [zP, zQ, zS, zZ, zC]
          refine wt (i := 21) (oi := ⟨some 42, .load 25 (.tmp 41), 25, "impose.go:108", #[⟨20, .data⟩, ⟨14, .guard⟩], some (14, false)⟩) (v := _) (yieldsIf_load_mid (by rfl) _ _ rfl b9 (1) rfl [.int .i64 x.1.fa, .int .i64 x.1.fb] _ (fun w' hSw => two_at (RX.out w' hSw 1 _ rfl) (RX.out w' hSw 2 _ rfl)) Try.underlying25 rfl (by kernel_rfl)) hHeld ?_
          try simp only [zP, zQ, zS, zZ, zC]
          refine wt (i := 22) (oi := ⟨some 43, .binOp .neq 25 (.tmp 40) (.tmp 42) 25, 4, "impose.go:108", #[⟨19, .data⟩, ⟨21, .data⟩, ⟨14, .guard⟩], some (14, false)⟩) (v := .bool true) (Or.inl ⟨by rfl, fun w' hSw => by have hq := HE1.out w'; go_simp⟩) hHeld ?_
          try simp only [zP, zQ, zS, zZ, zC]
          refine wt (i := 23) (oi := ⟨some 44, .pick (.tmp 35) (.const (Value.bool true)) (.tmp 43), 4, "impose.go:108", #[⟨14, .data⟩, ⟨22, .data⟩], none⟩) (v := .bool true) (Or.inl ⟨by rfl, fun w' hSw => by go_simp⟩) hHeld ?_
          try simp only [zP, zQ, zS, zZ, zC]
          refine wt (i := 24) (oi := ⟨some 45, .move (.tmp 44), 4, "impose.go:108", #[⟨23, .data⟩, ⟨14, .chain⟩], none⟩) (v := .bool true) (Or.inl ⟨by rfl, fun w' hSw => by go_simp⟩) hHeld ?_
          try simp only [zP, zQ, zS, zZ, zC]
          refine wt (i := 25) (oi := ⟨some 46, .load 22 (.tmp 5), 22, "impose.go:108", #[⟨24, .guard⟩], some (24, false)⟩) (v := undef) (Or.inr ⟨by rfl, rfl⟩) hHeld ?_
          try simp only [zP, zQ, zS, zZ, zC]
          refine wt (i := 26) (oi := ⟨some 47, .load 3 (.tmp 8), 3, "impose.go:108", #[⟨24, .guard⟩], some (24, false)⟩) (v := undef) (Or.inr ⟨by rfl, rfl⟩) hHeld ?_
          try simp only [zP, zQ, zS, zZ, zC]
          refine wt (i := 27) (oi := ⟨some 48, .indexAddr 22 (.tmp 46) (.tmp 47), 0, "impose.go:108", #[⟨25, .data⟩, ⟨26, .data⟩, ⟨24, .guard⟩], some (24, false)⟩) (v := undef) (Or.inr ⟨by rfl, rfl⟩) hHeld ?_
          try simp only [zP, zQ, zS, zZ, zC]
          refine wt (i := 28) (oi := ⟨some 49, .fieldAddr 64 (.tmp 48) 2, 0, "impose.go:108", #[⟨27, .data⟩, ⟨24, .guard⟩], some (24, false)⟩) (v := undef) (Or.inr ⟨by rfl, rfl⟩) hHeld ?_
          try simp only [zP, zQ, zS, zZ, zC]
          refine wt (i := 29) (oi := ⟨some 50, .load 25 (.tmp 49), 25, "impose.go:108", #[⟨28, .data⟩, ⟨24, .guard⟩], some (24, false)⟩) (v := undef) (Or.inr ⟨by rfl, rfl⟩) hHeld ?_
          try simp only [zP, zQ, zS, zZ, zC]
          refine wt (i := 30) (oi := ⟨some 51, .fieldAddr 64 (.tmp 9) 2, 0, "impose.go:108", #[⟨24, .guard⟩], some (24, false)⟩) (v := undef) (Or.inr ⟨by rfl, rfl⟩) hHeld ?_
          try simp only [zP, zQ, zS, zZ, zC]
          refine wt (i := 31) (oi := ⟨some 52, .load 25 (.tmp 51), 25, "impose.go:108", #[⟨30, .data⟩, ⟨24, .guard⟩], some (24, false)⟩) (v := undef) (Or.inr ⟨by rfl, rfl⟩) hHeld ?_
          try simp only [zP, zQ, zS, zZ, zC]
          refine wt (i := 32) (oi := ⟨some 53, .binOp .neq 25 (.tmp 50) (.tmp 52) 25, 4, "impose.go:108", #[⟨29, .data⟩, ⟨31, .data⟩, ⟨24, .guard⟩], some (24, false)⟩) (v := undef) (Or.inr ⟨by rfl, rfl⟩) hHeld ?_
          try simp only [zP, zQ, zS, zZ, zC]
          refine wt (i := 33) (oi := ⟨some 54, .pick (.tmp 45) (.const (Value.bool true)) (.tmp 53), 4, "impose.go:108", #[⟨24, .data⟩, ⟨32, .data⟩], none⟩) (v := .bool true) (Or.inl ⟨by rfl, fun w' hSw => by go_simp⟩) hHeld ?_
          try simp only [zP, zQ, zS, zZ, zC]
          refine wpAnyH_done (by kernel_rfl) ?_ _
          have BX := hHeld
          clear hHeld
          have K6 := k6.keep BX
          have K8 := k8.keep BX
          have c6 := K6.cell (j := 0) rfl
          have f6 := K6.free 0
          have c8 := K8.cell (j := 0) rfl
          have f8 := K8.free 0
          clear RX RY C5 C8
          gi_wp2
          exact ⟨(kf_below BX).trans ((KeepsOthers.setCell _ _ _).from _), rfl, K6.set 0 _, (kB.trans (BX.mono kB.size)).setCell (by show w.heap.size ≤ w.heap.size + 1; omega) _, not_pre HM.out (by rw [HY.out]; intro h; injection h with h; exact hf0 (by rw [h])), by have := BX.size; simp [World.setCell]; omega⟩
      · clear E1 E2
        gi_wp2
        refine wpIn_round_held (S := fun w' => Below W.heap.size W w') (by kernel_rfl) (by kernel_rfl) (by rintro ⟨a9, w9, h9⟩; exact h9) (below_drew (Below.refl _ _)) (fun hHeld => ?_)
        generalize W.drew = V0 at hHeld ⊢
        refine wt (i := 0) (oi := ⟨some 21, .load 3 (.tmp 8), 3, "impose.go:108", #[], none⟩) (v := .int .i64 (m : Int)) (Or.inl ⟨by rfl, fun w' hSw => by have hc := C8.out w' hSw; go_simp⟩) hHeld ?_
        try simp only [zP, zQ, zS, zZ, zC]
        refine wt (i := 1) (oi := ⟨some 22, .load 22 (.tmp 5), 22, "impose.go:108", #[], none⟩) (v := .slice (some ⟨b, off, none⟩) n c) (Or.inl ⟨by rfl, fun w' hSw => by have hc := C5.out w' hSw; go_simp⟩) hHeld ?_
        try simp only [zP, zQ, zS, zZ, zC]
        refine wt (i := 2) (oi := ⟨some 23, .call { callee := .builtin .len, args := #[.tmp 22], argTypes := #[22] }, 3, "impose.go:108", #[⟨1, .data⟩], none⟩) (v := .int .i64 (n : Int)) (Or.inl ⟨by rfl, fun w' hSw => by go_simp⟩) hHeld ?_
        try simp only [zP, zQ, zS, zZ, zC]
        refine wt (i := 3) (oi := ⟨some 24, .binOp .eql 3 (.tmp 21) (.tmp 23) 3, 4, "impose.go:108", #[⟨0, .data⟩, ⟨2, .data⟩], none⟩) (v := .bool false) (Or.inl ⟨by rfl, fun w' hSw => by go_simp⟩) hHeld ?_
        try simp only [zP, zQ, zS, zZ, zC]
        refine wt (i := 4) (oi := ⟨some 25, .move (.tmp 24), 4, "impose.go:108", #[⟨3, .data⟩], none⟩) (v := .bool false) (Or.inl ⟨by rfl, fun w' hSw => by go_simp⟩) hHeld ?_
        try simp only [zP, zQ, zS, zZ, zC]
        refine wt (i := 5) (oi := ⟨some 26, .load 22 (.tmp 5), 22, "impose.go:108", #[⟨4, .guard⟩], some (4, false)⟩) (v := .slice (some ⟨b, off, none⟩) n c) (Or.inl ⟨by rfl, fun w' hSw => by have hc := C5.out w' hSw; go_simp⟩) hHeld ?_
        try simp only [zP, zQ, zS, zZ, zC]
        refine wt (i := 6) (oi := ⟨some 27, .load 3 (.tmp 8), 3, "impose.go:108", #[⟨4, .guard⟩], some (4, false)⟩) (v := .int .i64 (m : Int)) (Or.inl ⟨by rfl, fun w' hSw => by have hc := C8.out w' hSw; go_simp⟩) hHeld ?_
        try simp only [zP, zQ, zS, zZ, zC]
        refine wt (i := 7) (oi := ⟨some 28, .indexAddr 22 (.tmp 26) (.tmp 27), 0, "impose.go:108", #[⟨5, .data⟩, ⟨6, .data⟩, ⟨4, .guard⟩], some (4, false)⟩) (v := .pointer (some ⟨b, off + m * 5, none⟩)) (Or.inl ⟨by rfl, fun w' hSw => by go_simp; try (intro hcm; exact absurd hcm (by omega))⟩) hHeld ?_
        try simp only [zP, zQ, zS, zZ, zC]
        refine wt (i := 8) (oi := ⟨some 29, .fieldAddr 64 (.tmp 28) 0, 0, "impose.go:108", #[⟨7, .data⟩, ⟨4, .guard⟩], some (4, false)⟩) (v := .pointer (some ⟨b, off + m * 5, none⟩)) (Or.inl ⟨by rfl, fun w' hSw => by go_simp⟩) hHeld ?_
        try simp only [zP, zQ, zS, zZ, zC]
        refine wt (i := 9) (oi := ⟨some 30, .load 3 (.tmp 29), 3, "impose.go:108", #[⟨8, .data⟩, ⟨4, .guard⟩], some (4, false)⟩) (v := .int .i64 y.q) (Or.inl ⟨by rfl, fun w' hSw => by have hc : w'.cell? ⟨b, off + m * 5, none⟩ = some (.int .i64 y.q) := RY.out w' hSw 0 _ rfl; go_simp⟩) hHeld ?_
        try simp only [zP, zQ, zS, zZ, zC]
        refine wt (i := 10) (oi := ⟨some 31, .fieldAddr 64 (.tmp 9) 0, 0, "impose.go:108", #[⟨4, .guard⟩], some (4, false)⟩) (v := .pointer (some ⟨b9, 0, none⟩)) (Or.inl ⟨by rfl, fun w' hSw => by go_simp⟩) hHeld ?_
        try simp only [zP, zQ, zS, zZ, zC]
        refine wt (i := 11) (oi := ⟨some 32, .load 3 (.tmp 31), 3, "impose.go:108", #[⟨10, .data⟩, ⟨4, .guard⟩], some (4, false)⟩) (v := .int .i64 x.1.q) (Or.inl ⟨by rfl, fun w' hSw => by have hc : w'.cell? ⟨b9, 0, none⟩ = some (.int .i64 x.1.q) := RX.out w' hSw 0 _ rfl; go_simp⟩) hHeld ?_
        try simp only [zP, zQ, zS, zZ, zC]
        refine wt (i := 12) (oi := ⟨some 33, .binOp .neq 3 (.tmp 30) (.tmp 32) 3, 4, "impose.go:108", #[⟨9, .data⟩, ⟨11, .data⟩, ⟨4, .guard⟩], some (4, false)⟩) (v := .bool true) (Or.inl ⟨by rfl, fun w' hSw => by go_simp⟩) hHeld ?_
        try simp only [zP, zQ, zS, zZ, zC]
        refine wt (i := 13) (oi := ⟨some 34, .pick (.tmp 25) (.const (Value.bool true)) (.tmp 33), 4, "impose.go:108", #[⟨4, .data⟩, ⟨12, .data⟩], none⟩) (v := .bool true) (Or.inl ⟨by rfl, fun w' hSw => by go_simp⟩) hHeld ?_
        try simp only [zP, zQ, zS, zZ, zC]
        refine wt (i := 14) (oi := ⟨some 35, .move (.tmp 34), 4, "impose.go:108", #[⟨13, .data⟩, ⟨4, .chain⟩], none⟩) (v := .bool true) (Or.inl ⟨by rfl, fun w' hSw => by go_simp⟩) hHeld ?_
        try simp only [zP, zQ, zS, zZ, zC]
        refine wt (i := 15) (oi := ⟨some 36, .load 22 (.tmp 5), 22, "impose.go:108", #[⟨14, .guard⟩], some (14, false)⟩) (v := undef) (Or.inr ⟨by rfl, rfl⟩) hHeld ?_
        try simp only [zP, zQ, zS, zZ, zC]
        refine wt (i := 16) (oi := ⟨some 37, .load 3 (.tmp 8), 3, "impose.go:108", #[⟨14, .guard⟩], some (14, false)⟩) (v := undef) (Or.inr ⟨by rfl, rfl⟩) hHeld ?_
        try simp only [zP, zQ, zS, zZ, zC]
        refine wt (i := 17) (oi := ⟨some 38, .indexAddr 22 (.tmp 36) (.tmp 37), 0, "impose.go:108", #[⟨15, .data⟩, ⟨16, .data⟩, ⟨14, .guard⟩], some (14, false)⟩) (v := undef) (Or.inr ⟨by rfl, rfl⟩) hHeld ?_
        try simp only [zP, zQ, zS, zZ, zC]
        refine wt (i := 18) (oi := ⟨some 39, .fieldAddr 64 (.tmp 38) 1, 0, "impose.go:108", #[⟨17, .data⟩, ⟨14, .guard⟩], some (14, false)⟩) (v := undef) (Or.inr ⟨by rfl, rfl⟩) hHeld ?_
        try simp only [zP, zQ, zS, zZ, zC]
        refine wt (i := 19) (oi := ⟨some 40, .load 25 (.tmp 39), 25, "impose.go:108", #[⟨18, .data⟩, ⟨14, .guard⟩], some (14, false)⟩) (v := undef) (Or.inr ⟨by rfl, rfl⟩) hHeld ?_
        try simp only [zP, zQ, zS, zZ, zC]
        refine wt (i := 20) (oi := ⟨some 41, .fieldAddr 64 (.tmp 9) 1, 0, "impose.go:108", #[⟨14, .guard⟩], some (14, false)⟩) (v := undef) (Or.inr ⟨by rfl, rfl⟩) hHeld ?_
        try simp only [zP, zQ, zS, zZ, zC]
        refine wt (i := 21) (oi := ⟨some 42, .load 25 (.tmp 41), 25, "impose.go:108", #[⟨20, .data⟩, ⟨14, .guard⟩], some (14, false)⟩) (v := undef) (Or.inr ⟨by rfl, rfl⟩) hHeld ?_
        try simp only [zP, zQ, zS, zZ, zC]
        refine wt (i := 22) (oi := ⟨some 43, .binOp .neq 25 (.tmp 40) (.tmp 42) 25, 4, "impose.go:108", #[⟨19, .data⟩, ⟨21, .data⟩, ⟨14, .guard⟩], some (14, false)⟩) (v := undef) (Or.inr ⟨by rfl, rfl⟩) hHeld ?_
        try simp only [zP, zQ, zS, zZ, zC]
        refine wt (i := 23) (oi := ⟨some 44, .pick (.tmp 35) (.const (Value.bool true)) (.tmp 43), 4, "impose.go:108", #[⟨14, .data⟩, ⟨22, .data⟩], none⟩) (v := .bool true) (Or.inl ⟨by rfl, fun w' hSw => by go_simp⟩) hHeld ?_
        try simp only [zP, zQ, zS, zZ, zC]
        refine wt (i := 24) (oi := ⟨some 45, .move (.tmp 44), 4, "impose.go:108", #[⟨23, .data⟩, ⟨14, .chain⟩], none⟩) (v := .bool true) (Or.inl ⟨by rfl, fun w' hSw => by go_simp⟩) hHeld ?_
        try simp only [zP, zQ, zS, zZ, zC]
        refine wt (i := 25) (oi := ⟨some 46, .load 22 (.tmp 5), 22, "impose.go:108", #[⟨24, .guard⟩], some (24, false)⟩) (v := undef) (Or.inr ⟨by rfl, rfl⟩) hHeld ?_
        try simp only [zP, zQ, zS, zZ, zC]
        refine wt (i := 26) (oi := ⟨some 47, .load 3 (.tmp 8), 3, "impose.go:108", #[⟨24, .guard⟩], some (24, false)⟩) (v := undef) (Or.inr ⟨by rfl, rfl⟩) hHeld ?_
        try simp only [zP, zQ, zS, zZ, zC]
        refine wt (i := 27) (oi := ⟨some 48, .indexAddr 22 (.tmp 46) (.tmp 47), 0, "impose.go:108", #[⟨25, .data⟩, ⟨26, .data⟩, ⟨24, .guard⟩], some (24, false)⟩) (v := undef) (Or.inr ⟨by rfl, rfl⟩) hHeld ?_
        try simp only [zP, zQ, zS, zZ, zC]
        refine wt (i := 28) (oi := ⟨some 49, .fieldAddr 64 (.tmp 48) 2, 0, "impose.go:108", #[⟨27, .data⟩, ⟨24, .guard⟩], some (24, false)⟩) (v := undef) (Or.inr ⟨by rfl, rfl⟩) hHeld ?_
        try simp only [zP, zQ, zS, zZ, zC]
        refine wt (i := 29) (oi := ⟨some 50, .load 25 (.tmp 49), 25, "impose.go:108", #[⟨28, .data⟩, ⟨24, .guard⟩], some (24, false)⟩) (v := undef) (Or.inr ⟨by rfl, rfl⟩) hHeld ?_
        try simp only [zP, zQ, zS, zZ, zC]
        refine wt (i := 30) (oi := ⟨some 51, .fieldAddr 64 (.tmp 9) 2, 0, "impose.go:108", #[⟨24, .guard⟩], some (24, false)⟩) (v := undef) (Or.inr ⟨by rfl, rfl⟩) hHeld ?_
        try simp only [zP, zQ, zS, zZ, zC]
        refine wt (i := 31) (oi := ⟨some 52, .load 25 (.tmp 51), 25, "impose.go:108", #[⟨30, .data⟩, ⟨24, .guard⟩], some (24, false)⟩) (v := undef) (Or.inr ⟨by rfl, rfl⟩) hHeld ?_
        try simp only [zP, zQ, zS, zZ, zC]
        refine wt (i := 32) (oi := ⟨some 53, .binOp .neq 25 (.tmp 50) (.tmp 52) 25, 4, "impose.go:108", #[⟨29, .data⟩, ⟨31, .data⟩, ⟨24, .guard⟩], some (24, false)⟩) (v := undef) (Or.inr ⟨by rfl, rfl⟩) hHeld ?_
        try simp only [zP, zQ, zS, zZ, zC]
        refine wt (i := 33) (oi := ⟨some 54, .pick (.tmp 45) (.const (Value.bool true)) (.tmp 53), 4, "impose.go:108", #[⟨24, .data⟩, ⟨32, .data⟩], none⟩) (v := .bool true) (Or.inl ⟨by rfl, fun w' hSw => by go_simp⟩) hHeld ?_
        try simp only [zP, zQ, zS, zZ, zC]
        refine wpAnyH_done (by kernel_rfl) ?_ _
        have BX := hHeld
        clear hHeld
        have K6 := k6.keep BX
        have K8 := k8.keep BX
        have c6 := K6.cell (j := 0) rfl
        have f6 := K6.free 0
        have c8 := K8.cell (j := 0) rfl
        have f8 := K8.free 0
        clear RX RY C5 C8
        gi_wp2
        exact ⟨(kf_below BX).trans ((KeepsOthers.setCell _ _ _).from _), rfl, K6.set 0 _, (kB.trans (BX.mono kB.size)).setCell (by show w.heap.size ≤ w.heap.size + 1; omega) _, not_pre HM.out (by rw [HY.out]; intro h; injection h with h; exact hq0 (by rw [h])), by have := BX.size; simp [World.setCell]; omega⟩
    · obtain rfl : m = n := by omega
      clear hA
      gi_wp2
      refine wpIn_round_held (S := fun w' => Below W.heap.size W w') (by kernel_rfl) (by kernel_rfl) (by rintro ⟨a9, w9, h9⟩; exact h9) (below_drew (Below.refl _ _)) (fun hHeld => ?_)
      generalize W.drew = V0 at hHeld ⊢
      refine wt (i := 0) (oi := ⟨some 21, .load 3 (.tmp 8), 3, "impose.go:108", #[], none⟩) (v := .int .i64 (m : Int)) (Or.inl ⟨by rfl, fun w' hSw => by have hc := C8.out w' hSw; go_simp⟩) hHeld ?_
      try simp only [zP, zQ, zS, zZ, zC]
      refine wt (i := 1) (oi := ⟨some 22, .load 22 (.tmp 5), 22, "impose.go:108", #[], none⟩) (v := .slice q m c) (Or.inl ⟨by rfl, fun w' hSw => by have hc := C5.out w' hSw; go_simp⟩) hHeld ?_
      try simp only [zP, zQ, zS, zZ, zC]
      refine wt (i := 2) (oi := ⟨some 23, .call { callee := .builtin .len, args := #[.tmp 22], argTypes := #[22] }, 3, "impose.go:108", #[⟨1, .data⟩], none⟩) (v := .int .i64 (m : Int)) (Or.inl ⟨by rfl, fun w' hSw => by go_simp⟩) hHeld ?_
      try simp only [zP, zQ, zS, zZ, zC]
      refine wt (i := 3) (oi := ⟨some 24, .binOp .eql 3 (.tmp 21) (.tmp 23) 3, 4, "impose.go:108", #[⟨0, .data⟩, ⟨2, .data⟩], none⟩) (v := .bool true) (Or.inl ⟨by rfl, fun w' hSw => by go_simp⟩) hHeld ?_
      try simp only [zP, zQ, zS, zZ, zC]
      refine wt (i := 4) (oi := ⟨some 25, .move (.tmp 24), 4, "impose.go:108", #[⟨3, .data⟩], none⟩) (v := .bool true) (Or.inl ⟨by rfl, fun w' hSw => by go_simp⟩) hHeld ?_
      try simp only [zP, zQ, zS, zZ, zC]
      refine wt (i := 5) (oi := ⟨some 26, .load 22 (.tmp 5), 22, "impose.go:108", #[⟨4, .guard⟩], some (4, false)⟩) (v := undef) (Or.inr ⟨by rfl, rfl⟩) hHeld ?_
      try simp only [zP, zQ, zS, zZ, zC]
      refine wt (i := 6) (oi := ⟨some 27, .load 3 (.tmp 8), 3, "impose.go:108", #[⟨4, .guard⟩], some (4, false)⟩) (v := undef) (Or.inr ⟨by rfl, rfl⟩) hHeld ?_
      try simp only [zP, zQ, zS, zZ, zC]
      refine wt (i := 7) (oi := ⟨some 28, .indexAddr 22 (.tmp 26) (.tmp 27), 0, "impose.go:108", #[⟨5, .data⟩, ⟨6, .data⟩, ⟨4, .guard⟩], some (4, false)⟩) (v := undef) (Or.inr ⟨by rfl, rfl⟩) hHeld ?_
      try simp only [zP, zQ, zS, zZ, zC]
      refine wt (i := 8) (oi := ⟨some 29, .fieldAddr 64 (.tmp 28) 0, 0, "impose.go:108", #[⟨7, .data⟩, ⟨4, .guard⟩], some (4, false)⟩) (v := undef) (Or.inr ⟨by rfl, rfl⟩) hHeld ?_
      try simp only [zP, zQ, zS, zZ, zC]
      refine wt (i := 9) (oi := ⟨some 30, .load 3 (.tmp 29), 3, "impose.go:108", #[⟨8, .data⟩, ⟨4, .guard⟩], some (4, false)⟩) (v := undef) (Or.inr ⟨by rfl, rfl⟩) hHeld ?_
      try simp only [zP, zQ, zS, zZ, zC]
      refine wt (i := 10) (oi := ⟨some 31, .fieldAddr 64 (.tmp 9) 0, 0, "impose.go:108", #[⟨4, .guard⟩], some (4, false)⟩) (v := undef) (Or.inr ⟨by rfl, rfl⟩) hHeld ?_
      try simp only [zP, zQ, zS, zZ, zC]
      refine wt (i := 11) (oi := ⟨some 32, .load 3 (.tmp 31), 3, "impose.go:108", #[⟨10, .data⟩, ⟨4, .guard⟩], some (4, false)⟩) (v := undef) (Or.inr ⟨by rfl, rfl⟩) hHeld ?_
      try simp only [zP, zQ, zS, zZ, zC]
      refine wt (i := 12) (oi := ⟨some 33, .binOp .neq 3 (.tmp 30) (.tmp 32) 3, 4, "impose.go:108", #[⟨9, .data⟩, ⟨11, .data⟩, ⟨4, .guard⟩], some (4, false)⟩) (v := undef) (Or.inr ⟨by rfl, rfl⟩) hHeld ?_
      try simp only [zP, zQ, zS, zZ, zC]
      refine wt (i := 13) (oi := ⟨some 34, .pick (.tmp 25) (.const (Value.bool true)) (.tmp 33), 4, "impose.go:108", #[⟨4, .data⟩, ⟨12, .data⟩], none⟩) (v := .bool true) (Or.inl ⟨by rfl, fun w' hSw => by go_simp⟩) hHeld ?_
      try simp only [zP, zQ, zS, zZ, zC]
      refine wt (i := 14) (oi := ⟨some 35, .move (.tmp 34), 4, "impose.go:108", #[⟨13, .data⟩, ⟨4, .chain⟩], none⟩) (v := .bool true) (Or.inl ⟨by rfl, fun w' hSw => by go_simp⟩) hHeld ?_
      try simp only [zP, zQ, zS, zZ, zC]
      refine wt (i := 15) (oi := ⟨some 36, .load 22 (.tmp 5), 22, "impose.go:108", #[⟨14, .guard⟩], some (14, false)⟩) (v := undef) (Or.inr ⟨by rfl, rfl⟩) hHeld ?_
      try simp only [zP, zQ, zS, zZ, zC]
      refine wt (i := 16) (oi := ⟨some 37, .load 3 (.tmp 8), 3, "impose.go:108", #[⟨14, .guard⟩], some (14, false)⟩) (v := undef) (Or.inr ⟨by rfl, rfl⟩) hHeld ?_
      try simp only [zP, zQ, zS, zZ, zC]
      refine wt (i := 17) (oi := ⟨some 38, .indexAddr 22 (.tmp 36) (.tmp 37), 0, "impose.go:108", #[⟨15, .data⟩, ⟨16, .data⟩, ⟨14, .guard⟩], some (14, false)⟩) (v := undef) (Or.inr ⟨by rfl, rfl⟩) hHeld ?_
      try simp only [zP, zQ, zS, zZ, zC]
      refine wt (i := 18) (oi := ⟨some 39, .fieldAddr 64 (.tmp 38) 1, 0, "impose.go:108", #[⟨17, .data⟩, ⟨14, .guard⟩], some (14, false)⟩) (v := undef) (Or.inr ⟨by rfl, rfl⟩) hHeld ?_
      try simp only [zP, zQ, zS, zZ, zC]
      refine wt (i := 19) (oi := ⟨some 40, .load 25 (.tmp 39), 25, "impose.go:108", #[⟨18, .data⟩, ⟨14, .guard⟩], some (14, false)⟩) (v := undef) (Or.inr ⟨by rfl, rfl⟩) hHeld ?_
      try simp only [zP, zQ, zS, zZ, zC]
      refine wt (i := 20) (oi := ⟨some 41, .fieldAddr 64 (.tmp 9) 1, 0, "impose.go:108", #[⟨14, .guard⟩], some (14, false)⟩) (v := undef) (Or.inr ⟨by rfl, rfl⟩) hHeld ?_
      try simp only [zP, zQ, zS, zZ, zC]
      refine wt (i := 21) (oi := ⟨some 42, .load 25 (.tmp 41), 25, "impose.go:108", #[⟨20, .data⟩, ⟨14, .guard⟩], some (14, false)⟩) (v := undef) (Or.inr ⟨by rfl, rfl⟩) hHeld ?_
      try simp only [zP, zQ, zS, zZ, zC]
      refine wt (i := 22) (oi := ⟨some 43, .binOp .neq 25 (.tmp 40) (.tmp 42) 25, 4, "impose.go:108", #[⟨19, .data⟩, ⟨21, .data⟩, ⟨14, .guard⟩], some (14, false)⟩) (v := undef) (Or.inr ⟨by rfl, rfl⟩) hHeld ?_
      try simp only [zP, zQ, zS, zZ, zC]
      refine wt (i := 23) (oi := ⟨some 44, .pick (.tmp 35) (.const (Value.bool true)) (.tmp 43), 4, "impose.go:108", #[⟨14, .data⟩, ⟨22, .data⟩], none⟩) (v := .bool true) (Or.inl ⟨by rfl, fun w' hSw => by go_simp⟩) hHeld ?_
      try simp only [zP, zQ, zS, zZ, zC]
      refine wt (i := 24) (oi := ⟨some 45, .move (.tmp 44), 4, "impose.go:108", #[⟨23, .data⟩, ⟨14, .chain⟩], none⟩) (v := .bool true) (Or.inl ⟨by rfl, fun w' hSw => by go_simp⟩) hHeld ?_
      try simp only [zP, zQ, zS, zZ, zC]
      refine wt (i := 25) (oi := ⟨some 46, .load 22 (.tmp 5), 22, "impose.go:108", #[⟨24, .guard⟩], some (24, false)⟩) (v := undef) (Or.inr ⟨by rfl, rfl⟩) hHeld ?_
      try simp only [zP, zQ, zS, zZ, zC]
      refine wt (i := 26) (oi := ⟨some 47, .load 3 (.tmp 8), 3, "impose.go:108", #[⟨24, .guard⟩], some (24, false)⟩) (v := undef) (Or.inr ⟨by rfl, rfl⟩) hHeld ?_
      try simp only [zP, zQ, zS, zZ, zC]
      refine wt (i := 27) (oi := ⟨some 48, .indexAddr 22 (.tmp 46) (.tmp 47), 0, "impose.go:108", #[⟨25, .data⟩, ⟨26, .data⟩, ⟨24, .guard⟩], some (24, false)⟩) (v := undef) (Or.inr ⟨by rfl, rfl⟩) hHeld ?_
      try simp only [zP, zQ, zS, zZ, zC]
      refine wt (i := 28) (oi := ⟨some 49, .fieldAddr 64 (.tmp 48) 2, 0, "impose.go:108", #[⟨27, .data⟩, ⟨24, .guard⟩], some (24, false)⟩) (v := undef) (Or.inr ⟨by rfl, rfl⟩) hHeld ?_
      try simp only [zP, zQ, zS, zZ, zC]
      refine wt (i := 29) (oi := ⟨some 50, .load 25 (.tmp 49), 25, "impose.go:108", #[⟨28, .data⟩, ⟨24, .guard⟩], some (24, false)⟩) (v := undef) (Or.inr ⟨by rfl, rfl⟩) hHeld ?_
      try simp only [zP, zQ, zS, zZ, zC]
      refine wt (i := 30) (oi := ⟨some 51, .fieldAddr 64 (.tmp 9) 2, 0, "impose.go:108", #[⟨24, .guard⟩], some (24, false)⟩) (v := undef) (Or.inr ⟨by rfl, rfl⟩) hHeld ?_
      try simp only [zP, zQ, zS, zZ, zC]
      refine wt (i := 31) (oi := ⟨some 52, .load 25 (.tmp 51), 25, "impose.go:108", #[⟨30, .data⟩, ⟨24, .guard⟩], some (24, false)⟩) (v := undef) (Or.inr ⟨by rfl, rfl⟩) hHeld ?_
      try simp only [zP, zQ, zS, zZ, zC]
      refine wt (i := 32) (oi := ⟨some 53, .binOp .neq 25 (.tmp 50) (.tmp 52) 25, 4, "impose.go:108", #[⟨29, .data⟩, ⟨31, .data⟩, ⟨24, .guard⟩], some (24, false)⟩) (v := undef) (Or.inr ⟨by rfl, rfl⟩) hHeld ?_
      try simp only [zP, zQ, zS, zZ, zC]
      refine wt (i := 33) (oi := ⟨some 54, .pick (.tmp 45) (.const (Value.bool true)) (.tmp 53), 4, "impose.go:108", #[⟨24, .data⟩, ⟨32, .data⟩], none⟩) (v := .bool true) (Or.inl ⟨by rfl, fun w' hSw => by go_simp⟩) hHeld ?_
      try simp only [zP, zQ, zS, zZ, zC]
      refine wpAnyH_done (by kernel_rfl) ?_ _
      have BX := hHeld
      clear hHeld
      have K6 := k6.keep BX
      have K8 := k8.keep BX
      have c6 := K6.cell (j := 0) rfl
      have f6 := K6.free 0
      have c8 := K8.cell (j := 0) rfl
      have f8 := K8.free 0
      clear RX C5 C8
      gi_wp2
      exact ⟨(kf_below BX).trans ((KeepsOthers.setCell _ _ _).from _), rfl, K6.set 0 _, (kB.trans (BX.mono kB.size)).setCell (by show w.heap.size ≤ w.heap.size + 1; omega) _, not_pre HM.out (by rw [List.getElem?_eq_none (by rw [HN.out]; omega)]; exact fun h => by cases h), by have := BX.size; simp [World.setCell]; omega⟩
  case done =>
    rintro D ys W hD rfl ⟨k5, k6, k8, kB, kz, kp, kn⟩ hK
    have hB9 := belowK_b (n₀ := w.heap.size) (w := w3) hB0.size W D (.deferred (some [])) (.deferred none) hD hK rfl rfl
    have hg9 := grownBy_putObj' W D (.deferred none)
    have hf : foldM p h = (itU p h (qnT p h * h)).map (·.1) := by unfold foldM itU; rw [List.map_map]; rfl
    have hlen : (itU p h (qnT p h * h)).length = qnT p h * h := by unfold itU; simp
    rw [← hf] at kp
    have hfl : (foldM p h).length = qnT p h * h := by unfold foldM; simp
    rw [hlen] at k8 kp kn
    obtain ⟨m, hm⟩ : ∃ m, qnT p h * h = m := ⟨_, rfl⟩
    rw [hm] at k8 kp kn hfl hNN
    have hX : chkT p h lst = if m = n then 0 else 17 := by
      unfold chkT
      by_cases e : m = n
      · rw [if_pos e, if_pos]
        rw [kp, e, List.take_of_length_le (by rw [HN.out]; exact Nat.le_refl _)]
      · rw [if_neg e, if_neg]
        intro g
        apply e
        rw [← hfl, ← g, HN.out]
    clear hm hf hlen hfl kp
    have HX := Lib.hid hX
    clear hX
    have c5 := k5.cell (j := 0) rfl
    have c6 := k6.cell (j := 0) rfl
    have f6 := k6.free 0
    have c8 := k8.cell (j := 0) rfl
    by_cases e : m = n
    · subst e
      gi_wp2
      have hK2 := (KeepsOthers.setCell W ⟨w.heap.size + 1, 0, none⟩ (.int .i64 0)).same D _ hK rfl
      have c9 := (blk_grown (k6.set 0 (.int .i64 0)) (grownBy_putObj' (W.setCell ⟨w.heap.size + 1, 0, none⟩ (.int .i64 0)) D (.deferred none)) (fun r e => by cases e; exact ⟨_, hK2, rfl⟩)).cell (j := 0) rfl
      refine ⟨by simp, .inl ⟨_, _, rfl, run_takeDeferred hK2, ?_⟩⟩
      exact ⟨.int .i64 0, by simp [results, Try.f18, go_sem, c9], by rw [HX.out]; simp_all, (kB.setCell (by show w.heap.size ≤ w.heap.size + 1; omega) _).trans (belowK_b (n₀ := w.heap.size) (w := w3) hB0.size _ D (.deferred (some [])) (.deferred none) hD hK2 rfl rfl)⟩
    · have hne : ¬ (m : Int) = (n : Int) := by omega
      gi_wp2
      have hK2 := (KeepsOthers.setCell W ⟨w.heap.size + 1, 0, none⟩ (.int .i64 17)).same D _ hK rfl
      have c9 := (blk_grown (k6.set 0 (.int .i64 17)) (grownBy_putObj' (W.setCell ⟨w.heap.size + 1, 0, none⟩ (.int .i64 17)) D (.deferred none)) (fun r e => by cases e; exact ⟨_, hK2, rfl⟩)).cell (j := 0) rfl
      refine ⟨by simp, .inl ⟨_, _, rfl, run_takeDeferred hK2, ?_⟩⟩
      exact ⟨.int .i64 17, by simp [results, Try.f18, go_sem, c9], by rw [HX.out]; simp_all, (kB.setCell (by show w.heap.size ≤ w.heap.size + 1; omega) _).trans (belowK_b (n₀ := w.heap.size) (w := w3) hB0.size _ D (.deferred (some [])) (.deferred none) hD hK2 rfl rfl)⟩
  case stop =>
    rintro D c pre W hD ⟨k, hk, rfl⟩ ⟨rfl, k6, kB, kn, kz⟩ hK
    have hB9 := belowK_b (n₀ := w.heap.size) (w := w3) hB0.size W D (.deferred (some [])) (.deferred none) hD hK rfl rfl
    have hg9 := grownBy_putObj' W D (.deferred none)
    have hX : chkT p h lst = 17 := by
      unfold chkT
      rw [if_neg]
      rintro rfl
      exact kn (by rw [show foldM p h = (itU p h (qnT p h * h)).map (·.1) from by unfold foldM itU; rw [List.map_map]; rfl]; exact itU_pre p h k _ hk)
    rw [hX]
    gi_wp2
    have c9 := (blk_grown k6 hg9 (fun r e => by cases e; exact ⟨_, hK, rfl⟩)).cell (j := 0) rfl
    refine ⟨by simp, .inl ⟨_, _, rfl, run_takeDeferred hK, ?_⟩⟩
    exact ⟨.int .i64 17, by simp [results, Try.f18, go_sem, c9], rfl, kB.trans hB9⟩
end Go.Proofs.Ytahmpagolmodhaa
