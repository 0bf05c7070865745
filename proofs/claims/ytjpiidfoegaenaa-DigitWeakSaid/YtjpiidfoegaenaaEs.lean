/-
  DigitWeak, walked.
-/
import Derived.Test.YtjpiidfoegaenaaEr
import Derived.Deep.CutRange
namespace Go.Proofs.Ytjpiidfoegaenaa
open Go Go.RowKit
set_option linter.unusedVariables false
set_option linter.unusedSimpArgs false

theorem fiveN {w : World} {a b c d e : Option Addr × Nat × Nat} (ha : IntsN w a) (hb : IntsN w b) (hc : IntsN w c) (hd : IntsN w d) (he : IntsN w e) : ∀ s ∈ [a, b, c, d, e], IntsN w s := by
  intro s hs
  simp only [List.mem_cons, List.not_mem_nil, or_false] at hs
  rcases hs with rfl | rfl | rfl | rfl | rfl <;> assumption
theorem lay_cellW {α : Type} {E : Elt α} {w : World} {g : Nat} {l : List α} (h : At E w (some ⟨g, 0, none⟩) l) {i : Nat} {x : α} {u : Value} (hx : l[i]? = some x) (hk : E.k = 1) (hu : (E.enc x)[0]? = some u) : w.cell? ⟨g, i, none⟩ = some u := by
  obtain ⟨b, o, e, hL⟩ := h.get (List.getElem?_eq_some_iff.1 hx).1
  injection e with e
  injection e with e1 e2 _
  subst e1 e2
  have := hL.2 i x 0 u hx hu
  rwa [hk, Nat.mul_one, Nat.add_zero, Nat.zero_add] at this
def FlB (T : TypeId) (fa fo fd fw : Int) (z : Bool) (E : Int) (W : World) (p b e : Value) (wx : World) : Prop := ∃ cb : Nat, p = .pointer (some ⟨cb, 0, none⟩) ∧ b = .bool z ∧ e = .int .i64 E ∧ Blk wx cb T [.int .i64 fa, .int .i64 fo, .int .i64 fd, .int .i64 fw] ∧ Below W.heap.size W wx
set_option maxHeartbeats 8000000 in
set_option maxRecDepth 100000 in
theorem digitWeak_any (A0 : Option Addr) (l : List Int) (n0 c0 : Nat) (hl0 : l.length = n0) (hn0 : n0 ≤ 9223372036854775807) (x1 : Int) (x1a : -9223372036854775808 ≤ x1) (x1b : x1 ≤ 9223372036854775807)
    (A2 : Option Addr) (raw : List Int) (n2 c2 : Nat) (hl2 : raw.length = n2) (hn2 : n2 ≤ 9223372036854775807) (md : Int) (mda : -9223372036854775808 ≤ md) (mdb : md ≤ 9223372036854775807)
    (w : World) (h0 : IntsAt w A0 l) (h2 : IntsAt w A2 raw) :
    Calls Try.prog 4 #[.slice A0 n0 c0, .int .i64 x1, .slice A2 n2 c2, .int .i64 md] w (Yes w) := by
  have CSC := Lib.hid (scheme_any l A0 n0 c0 hl0 hn0 x1 x1a x1b w h0)
  have CL := Lib.hid (fun V => lives_any V)
  have HL2 := Lib.hid hl2
  clear hl0 hn0 x1a x1b h0 hl2
  go_enter Try.func4, Try.ntmps4
  go_upto_region 2 with (go_at_call 9; refine CSC.out.mono ?_; rintro _ w1 ⟨W, m, n, qw, cw, rfl, hW, hn8, hm2, hm1024, hbW, hAW, B1⟩)
  have NW := Lib.hid (fun V (hV : Below w1.heap.size w1 V) => (⟨W, hW, (hAW.ints (fun x hx => by have := belowT_mem hbW x hx; omega)).keep hV, by show n ≤ _; omega⟩ : IntsN V (qw, n, cw)))
  have N4 := Lib.hid (fun V (hV : Below w1.heap.size w1 V) => (⟨raw, HL2.out, h2.keep (link B1 hV), hn2⟩ : IntsN V (A2, n2, c2)))
  have hmk7 : ∀ V : World, (Instr.makeSlice 22 (.int .i64 257) (.int .i64 257)).run Try.prog V = .ok (.slice (some ⟨V.heap.size, 0, none⟩) 257 257) (V.alloc (.cells (zeros 257) 3)) := fun V => mk257 V
  have BR := Lib.hid B1
  clear CSC B1 hW hbW hAW h2 hm2 hm1024
  go_upto_region 3 with (fail)
  obtain ⟨V1, hV1⟩ : ∃ V1, w1.alloc (.cells (zeros 257) 3) = V1 := ⟨_, rfl⟩
  have Z6 := ints_zeros w1 257 (by omega)
  have X1 : Below w1.heap.size w1 (w1.alloc (.cells (zeros 257) 3)) := (Below.refl _ _).alloc (Nat.le_refl _) _
  have sz : V1.heap.size = w1.heap.size + 1 := by rw [← hV1]; exact Array.size_push _
  rw [hV1] at Z6 X1 ⊢
  rw [← sz]
  clear hV1 sz
  generalize w1.heap.size = x2 at Z6 ⊢
  have X2 : Below V1.heap.size V1 (V1.alloc (.cells #[.slice qw n cw, .slice A2 n2 c2, .slice A2 n2 c2, .slice none 0 0, .slice (some ⟨x2, 0, none⟩) 257 257] 22)) := (Below.refl _ _).alloc (Nat.le_refl _) _
  have G : At slE (V1.alloc (.cells #[.slice qw n cw, .slice A2 n2 c2, .slice A2 n2 c2, .slice none 0 0, .slice (some ⟨x2, 0, none⟩) 257 257] 22)) (some ⟨V1.heap.size, 0, none⟩) [(qw, n, cw), (A2, n2, c2), (A2, n2, c2), (none, 0, 0), (some ⟨x2, 0, none⟩, 257, 257)] := at_new slE V1 _ _ rfl
  have BA := link X1 X2
  have F0 := NW.out _ BA
  have F1 := N4.out _ BA
  have hI := fiveN F0 F1 F1 (⟨[], rfl, fun h => absurd rfl h, by show 0 ≤ _; omega⟩ : IntsN _ (none, 0, 0)) (Z6.keep X2)
  generalize V1.alloc _ = VF at G hI BA ⊢
  generalize V1.heap.size = gl at G ⊢
  clear X1 X2 Z6 F0 F1
  obtain ⟨S1, hS1, hl1⟩ : ∃ S1 : List (Option Addr × Nat × Nat), [(qw, n, cw), (A2, n2, c2), (A2, n2, c2), (none, 0, 0), (some ⟨x2, 0, none⟩, 257, 257)] = S1 ∧ S1.length = 5 := ⟨_, rfl, rfl⟩
  rw [hS1] at G hI
  clear hS1 hmk7 NW N4
  have BR := Lib.hid (link BR.out BA)
  clear BA
  go_upto_region 4 with (fail)
  have X1 : Below VF.heap.size VF (VF.alloc (.cells #[.int .i64 (m : Int), .int .i64 md, .int .i64 (m : Int), .int .i64 (m : Int), .int .i64 9] 3)) := (Below.refl _ _).alloc (Nat.le_refl _) _
  have G3 : At intE (VF.alloc (.cells #[.int .i64 (m : Int), .int .i64 md, .int .i64 (m : Int), .int .i64 (m : Int), .int .i64 9] 3)) (some ⟨VF.heap.size, 0, none⟩) [(m : Int), md, m, m, 9] := at_new intE VF _ _ rfl
  obtain ⟨M, hM, hl3⟩ : ∃ M : List Int, [(m : Int), md, m, m, 9] = M ∧ M.length = 5 := ⟨_, rfl, rfl⟩
  rw [hM] at G3
  have hG := G.keep X1
  have hI : ∀ s ∈ S1, IntsN _ s := fun s hs => (hI s hs).keep X1
  generalize VF.alloc _ = W3 at G3 hG hI X1 ⊢
  generalize VF.heap.size = gm at G3 ⊢
  have BR := Lib.hid (link BR.out X1)
  clear X1 hM G
  go_wp2
  go_loopw [13] (fun v V => NumRel W3 5 v V) (fun v _ => 5 - (intOf v).toNat)
  case atStart => exact ⟨0, Nat.zero_le _, rfl, Below.refl _ _⟩
  case round =>
    obtain ⟨i, hi, rfl, hB⟩ := hrel
    rcases Nat.lt_or_ge i 5 with hlt | hge
    · have hlt5 : (i : Int) < 5 := by omega
      obtain ⟨⟨q1, n1, c1⟩, hs1⟩ : ∃ s, S1[i]? = some s := ⟨_, List.getElem?_eq_getElem (by omega)⟩
      have HL : Hid (∀ V, Below W3.heap.size W3 V → V.cell? ⟨gl, i, none⟩ = some (.slice q1 n1 c1)) := Lib.hid (fun V hV => lay_cellW (hG.keep hV) hs1 rfl rfl)
      obtain ⟨l1, hle1, hA1, hn1⟩ := hI _ (List.mem_of_getElem? hs1)
      have hle1 : l1.length = n1 := hle1
      have hn1 : n1 ≤ 9223372036854775807 := hn1
      have hA1 : IntsAt W3 q1 l1 := hA1
      obtain ⟨y, hy⟩ : ∃ y, M[i]? = some y := ⟨_, List.getElem?_eq_getElem (by omega)⟩
      have HM : Hid (∀ V, Below W3.heap.size W3 V → V.cell? ⟨gm, i, none⟩ = some (.int .i64 y)) := Lib.hid (fun V hV => lay_cellW (G3.keep hV) hy rfl rfl)
      obtain ⟨f, hf⟩ : ∃ f, weakF l1 y = f := ⟨_, rfl⟩
      obtain ⟨z, hz⟩ : ∃ z, weakB l1 y = z := ⟨_, rfl⟩
      obtain ⟨E, hE⟩ : ∃ E, schE l1 y = E := ⟨_, rfl⟩
      obtain ⟨fa, fo, fd, fw⟩ := f
      have CP := Lib.hid (fun V (hV : Below W3.heap.size W3 V) => (by have := weak_any l1 y q1 n1 c1 hle1 hn1 V (hA1.keep hV); rwa [hf, hz, hE] at this : Calls Try.prog 17 #[.slice q1 n1 c1, .int .i64 y] V (WeakR ⟨fa, fo, fd, fw⟩ z E V)))
      have CR := Lib.hid (fun V (hV : Below W3.heap.size W3 V) => (by have := rweak_any l1 y q1 n1 c1 hle1 hn1 V (hA1.keep hV); rwa [hf, hz, hE] at this : Calls Try.prog 18 #[.slice q1 n1 c1, .int .i64 y] V (WeakR ⟨fa, fo, fd, fw⟩ z E V)))
      clear hf hz hE hy hs1 hle1 hA1
      have c9 := HL.out wr hB
      have c10 := HM.out wr hB
      go_upto_region 7 with (fail)
      go_cut [77] from 42 to 78 (fun v wx => (∃ b, v = .bool b) ∧ wr = wx)
      case first =>
        by_cases a1 : (20 : Int) < (n1 : Int)
        · by_cases a2 : (n1 : Int) < 257
          · go_wp2
            go_meet
            exact ⟨⟨_, rfl⟩, rfl⟩
          · by_cases a3 : (100 : Int) < y
            · by_cases a4 : y ≤ 1024
              · by_cases a5 : (4 : Int) < (n1 : Int)
                · go_wp2
                  go_meet
                  exact ⟨⟨_, rfl⟩, rfl⟩
                · go_wp2
                  go_meet
                  exact ⟨⟨_, rfl⟩, rfl⟩
              · go_wp2
                go_meet
                exact ⟨⟨_, rfl⟩, rfl⟩
            · go_wp2
              go_meet
              exact ⟨⟨_, rfl⟩, rfl⟩
        · by_cases a3 : (100 : Int) < y
          · by_cases a4 : y ≤ 1024
            · by_cases a5 : (4 : Int) < (n1 : Int)
              · go_wp2
                go_meet
                exact ⟨⟨_, rfl⟩, rfl⟩
              · go_wp2
                go_meet
                exact ⟨⟨_, rfl⟩, rfl⟩
            · go_wp2
              go_meet
              exact ⟨⟨_, rfl⟩, rfl⟩
          · go_wp2
            go_meet
            exact ⟨⟨_, rfl⟩, rfl⟩
      case rest =>
      obtain ⟨⟨b, rfl⟩, rfl⟩ := hcut
      clear c9 c10
      cases b
      case true =>
        go_wp2
        exact ⟨⟨i + 1, by omega, by go_num, hB⟩, by simp [intOf]; omega⟩
      case false =>
      go_upto_region 8 with (fail)
      go_cut [14, 15, 16] from 78 to 91 (fun p b e wx => FlB 35 fa fo fd fw z E wr p b e wx)
      case first =>
        refine wp_region_held_drew (S := fun w' => Below wr.heap.size wr w') (by kernel_rfl) (below_drew (Below.refl _ _)) (fun _ => ?_)
        have hHeld : Below wr.heap.size wr wr.drew := below_drew (Below.refl _ _)
        generalize wr.drew = V0 at hHeld ⊢
        refine wt (i := 0) (oi := ⟨some 79, .move (.tmp 11), 30, "law.go:73", #[], none⟩) (v := .slice (some ⟨gl, 0, none⟩) 5 5) (Or.inl ⟨by rfl, fun w' hSw => by go_simp⟩) hHeld ?_
        try simp only [zP, zQ, zS, zZ, zC]
        refine wt (i := 1) (oi := ⟨some 80, .move (.tmp 13), 3, "law.go:73", #[], none⟩) (v := .int .i64 (i : Int)) (Or.inl ⟨by rfl, fun w' hSw => by go_simp⟩) hHeld ?_
        try simp only [zP, zQ, zS, zZ, zC]
        refine wt (i := 2) (oi := ⟨some 81, .indexAddr 30 (.tmp 79) (.tmp 80), 0, "law.go:73", #[⟨0, .data⟩, ⟨1, .data⟩], none⟩) (v := .pointer (some ⟨gl, i, none⟩)) (Or.inl ⟨by rfl, fun w' hSw => by go_simp⟩) hHeld ?_
        try simp only [zP, zQ, zS, zZ, zC]
        refine wt (i := 3) (oi := ⟨some 82, .load 22 (.tmp 81), 22, "law.go:73", #[⟨2, .data⟩], none⟩) (v := .slice q1 n1 c1) (Or.inl ⟨by rfl, fun w' hSw => by have c9 := HL.out w' (link hB hSw); go_simp⟩) hHeld ?_
        try simp only [zP, zQ, zS, zZ, zC]
        refine wt (i := 4) (oi := ⟨some 83, .move (.tmp 12), 22, "law.go:73", #[], none⟩) (v := .slice (some ⟨gm, 0, none⟩) 5 5) (Or.inl ⟨by rfl, fun w' hSw => by go_simp⟩) hHeld ?_
        try simp only [zP, zQ, zS, zZ, zC]
        refine wt (i := 5) (oi := ⟨some 84, .move (.tmp 13), 3, "law.go:73", #[], none⟩) (v := .int .i64 (i : Int)) (Or.inl ⟨by rfl, fun w' hSw => by go_simp⟩) hHeld ?_
        try simp only [zP, zQ, zS, zZ, zC]
        refine wt (i := 6) (oi := ⟨some 85, .indexAddr 22 (.tmp 83) (.tmp 84), 0, "law.go:73", #[⟨4, .data⟩, ⟨5, .data⟩], none⟩) (v := .pointer (some ⟨gm, i, none⟩)) (Or.inl ⟨by rfl, fun w' hSw => by go_simp⟩) hHeld ?_
        try simp only [zP, zQ, zS, zZ, zC]
        refine wt (i := 7) (oi := ⟨some 86, .load 3 (.tmp 85), 3, "law.go:73", #[⟨6, .data⟩], none⟩) (v := .int .i64 y) (Or.inl ⟨by rfl, fun w' hSw => by have c9 := HM.out w' (link hB hSw); go_simp⟩) hHeld ?_
        try simp only [zP, zQ, zS, zZ, zC]
        refine wpAnyH_ready (rs := [8, 13]) (by kernel_rfl) (by simp) ?_
        refine AllReadyH.cons (o := ⟨some 87, .call { callee := .value (.func 17), args := #[.tmp 82, .tmp 86], argTypes := #[22, 3] }, 36, "law.go:73", #[⟨3, .data⟩, ⟨7, .data⟩], none⟩) rfl (fun K hK => ?_) (AllReadyH.cons (o := ⟨some 14, .alloc 35, 0, "law.go:73", #[], none⟩) rfl (fun K hK => ?_) AllReadyH.nil)
        · skip
          rw [if_pos (by rfl)]
          go_simp
          refine (CP.out _ (link hB hHeld)).mono ?_
          rintro en V1 ⟨rfl, hB9⟩
          dsimp only
          refine hK.out _ _ (link hHeld hB9) (fun hHeld => ?_)
          clear hK K
          try simp only [zP, zQ, zS, zZ, zC]
          clear hB9
          refine wt (i := 9) (oi := ⟨some 78, .move (.tmp 87), 36, "law.go:73", #[⟨8, .data⟩], none⟩) (v := .tuple #[.agg #[.int .i64 fa, .int .i64 fo, .int .i64 fd, .int .i64 fw], .bool z, .int .i64 E]) (Or.inl ⟨by rfl, fun w' hSw => by go_simp⟩) hHeld ?_
          try simp only [zP, zQ, zS, zZ, zC]
          refine wt (i := 10) (oi := ⟨some 88, .extract (.tmp 78) 0, 35, "law.go:73", #[⟨9, .data⟩], none⟩) (v := .agg #[.int .i64 fa, .int .i64 fo, .int .i64 fd, .int .i64 fw]) (Or.inl ⟨by rfl, fun w' hSw => by go_simp⟩) hHeld ?_
          try simp only [zP, zQ, zS, zZ, zC]
          refine wt (i := 11) (oi := ⟨some 89, .extract (.tmp 78) 1, 4, "law.go:73", #[⟨9, .data⟩, { on := 14, ground := Ground.gcOnly Departure.lateStores }], none⟩) (v := .bool z) (Or.inl ⟨by rfl, fun w' hSw => by go_simp⟩) hHeld ?_
          try simp only [zP, zQ, zS, zZ, zC]
          refine wt (i := 12) (oi := ⟨some 90, .extract (.tmp 78) 2, 26, "law.go:73", #[⟨9, .data⟩, { on := 15, ground := Ground.gcOnly Departure.lateStores }], none⟩) (v := .int .i64 E) (Or.inl ⟨by rfl, fun w' hSw => by go_simp⟩) hHeld ?_
          try simp only [zP, zQ, zS, zZ, zC]
          refine wpAnyH_ready (rs := [13]) (by kernel_rfl) (by simp) ?_
          refine AllReadyH.cons (o := ⟨some 14, .alloc 35, 0, "law.go:73", #[], none⟩) rfl (fun K hK => ?_) AllReadyH.nil
          rw [if_pos (by rfl)]
          go_simp
          have KF : Blk (World.alloc V1 (.cells #[.int .i64 0, .int .i64 0, .int .i64 0, .int .i64 0] 35)) V1.heap.size 35 [.int .i64 0, .int .i64 0, .int .i64 0, .int .i64 0] := blk_new V1 _ _
          have X : Below V1.heap.size V1 (World.alloc V1 (.cells #[.int .i64 0, .int .i64 0, .int .i64 0, .int .i64 0] 35)) := (Below.refl _ _).alloc (Nat.le_refl _) _
          have hcb : wr.heap.size ≤ V1.heap.size := hHeld.size
          refine hK.out _ _ (link hHeld X) (fun hHeld => ?_)
          clear hK K
          try simp only [zP, zQ, zS, zZ, zC]
          clear X
          generalize World.alloc V1 _ = V2 at KF hHeld ⊢
          generalize V1.heap.size = cb at KF hcb ⊢
          refine wpAnyH_ready (rs := [14]) (by kernel_rfl) (by simp) ?_
          refine AllReadyH.cons (o := ⟨none, .store 35 (.tmp 14) (.tmp 88), 0, "law.go:73", #[⟨13, .data⟩, ⟨10, .data⟩, ⟨8, .chain⟩, ⟨0, .phase⟩, ⟨1, .phase⟩, ⟨2, .phase⟩, ⟨3, .phase⟩, ⟨4, .phase⟩, ⟨5, .phase⟩, ⟨6, .phase⟩, ⟨7, .phase⟩, ⟨8, .phase⟩, ⟨9, .phase⟩, ⟨10, .phase⟩, { on := 11, ground := Ground.textOnly Departure.lateStores }, { on := 12, ground := Ground.textOnly Departure.lateStores }, ⟨13, .phase⟩], none⟩) rfl (fun K hK => ?_) AllReadyH.nil
          rw [if_pos (by rfl)]
          refine wp_store_mid 35 (.tmp 14) (.tmp 88) rfl cb 0 #[.int .i64 fa, .int .i64 fo, .int .i64 fd, .int .i64 fw] rfl rfl (by simpa using KF.there 0 4 (by simp)) (by kernel_rfl) (all_oneCell_toArray (by intro v hv; simp at hv; rcases hv with rfl | rfl | rfl | rfl <;> rfl)) ?_
          have K2 : Blk (V2.setCells cb 0 [.int .i64 fa, .int .i64 fo, .int .i64 fd, .int .i64 fw]) cb 35 [.int .i64 fa, .int .i64 fo, .int .i64 fd, .int .i64 fw] := KF.all rfl
          have H := (only_sets cb 0 V2 [.int .i64 fa, .int .i64 fo, .int .i64 fd, .int .i64 fw]).2.2 _ _ hcb hHeld
          dsimp only
          generalize World.setCells V2 cb 0 [.int .i64 fa, .int .i64 fo, .int .i64 fd, .int .i64 fw] = VF at K2 H ⊢
          refine hK.out _ _ (H) (fun hHeld => ?_)
          clear hK K
          try simp only [zP, zQ, zS, zZ, zC]
          refine wpAnyH_ready (rs := [15]) (by kernel_rfl) (by simp) ?_
          refine AllReadyH.cons (o := ⟨some 15, .assign (.tmp 89), 4, "law.go:73", #[⟨11, .data⟩, ⟨14, .chain⟩, ⟨0, .phase⟩, ⟨1, .phase⟩, ⟨2, .phase⟩, ⟨3, .phase⟩, ⟨4, .phase⟩, ⟨5, .phase⟩, ⟨6, .phase⟩, ⟨7, .phase⟩, ⟨8, .phase⟩, ⟨9, .phase⟩, ⟨10, .phase⟩, ⟨11, .phase⟩, { on := 12, ground := Ground.textOnly Departure.lateStores }, ⟨13, .phase⟩, ⟨14, .phase⟩], none⟩) rfl (fun K hK => ?_) AllReadyH.nil
          go_simp
          refine hK.out _ _ (hHeld) (fun hHeld => ?_)
          clear hK K
          try simp only [zP, zQ, zS, zZ, zC]
          refine wpAnyH_ready (rs := [16]) (by kernel_rfl) (by simp) ?_
          refine AllReadyH.cons (o := ⟨some 16, .assign (.tmp 90), 26, "law.go:73", #[⟨12, .data⟩, ⟨15, .chain⟩, ⟨0, .phase⟩, ⟨1, .phase⟩, ⟨2, .phase⟩, ⟨3, .phase⟩, ⟨4, .phase⟩, ⟨5, .phase⟩, ⟨6, .phase⟩, ⟨7, .phase⟩, ⟨8, .phase⟩, ⟨9, .phase⟩, ⟨10, .phase⟩, ⟨11, .phase⟩, ⟨12, .phase⟩, ⟨13, .phase⟩, ⟨14, .phase⟩, ⟨15, .phase⟩], none⟩) rfl (fun K hK => ?_) AllReadyH.nil
          go_simp
          refine hK.out _ _ (hHeld) (fun hHeld => ?_)
          clear hK K
          try simp only [zP, zQ, zS, zZ, zC]
          refine wpAnyH_done (by kernel_rfl) ?_ _
          clear hHeld
          go_wp2_with fail
          go_meet
          exact ⟨cb, rfl, rfl, rfl, K2, H⟩
        · skip
          rw [if_pos (by rfl)]
          go_simp
          have KF : Blk (World.alloc V0 (.cells #[.int .i64 0, .int .i64 0, .int .i64 0, .int .i64 0] 35)) V0.heap.size 35 [.int .i64 0, .int .i64 0, .int .i64 0, .int .i64 0] := blk_new V0 _ _
          have X : Below V0.heap.size V0 (World.alloc V0 (.cells #[.int .i64 0, .int .i64 0, .int .i64 0, .int .i64 0] 35)) := (Below.refl _ _).alloc (Nat.le_refl _) _
          have hcb : wr.heap.size ≤ V0.heap.size := hHeld.size
          refine hK.out _ _ (link hHeld X) (fun hHeld => ?_)
          clear hK K
          try simp only [zP, zQ, zS, zZ, zC]
          clear X
          generalize World.alloc V0 _ = V1 at KF hHeld ⊢
          generalize V0.heap.size = cb at KF hcb ⊢
          refine wpAnyH_ready (rs := [8]) (by kernel_rfl) (by simp) ?_
          refine AllReadyH.cons (o := ⟨some 87, .call { callee := .value (.func 17), args := #[.tmp 82, .tmp 86], argTypes := #[22, 3] }, 36, "law.go:73", #[⟨3, .data⟩, ⟨7, .data⟩], none⟩) rfl (fun K hK => ?_) AllReadyH.nil
          rw [if_pos (by rfl)]
          go_simp
          refine (CP.out _ (link hB hHeld)).mono ?_
          rintro en V2 ⟨rfl, hB9⟩
          dsimp only
          have KF := KF.keep hB9
          refine hK.out _ _ (link hHeld hB9) (fun hHeld => ?_)
          clear hK K
          try simp only [zP, zQ, zS, zZ, zC]
          clear hB9
          refine wt (i := 9) (oi := ⟨some 78, .move (.tmp 87), 36, "law.go:73", #[⟨8, .data⟩], none⟩) (v := .tuple #[.agg #[.int .i64 fa, .int .i64 fo, .int .i64 fd, .int .i64 fw], .bool z, .int .i64 E]) (Or.inl ⟨by rfl, fun w' hSw => by go_simp⟩) hHeld ?_
          try simp only [zP, zQ, zS, zZ, zC]
          refine wt (i := 10) (oi := ⟨some 88, .extract (.tmp 78) 0, 35, "law.go:73", #[⟨9, .data⟩], none⟩) (v := .agg #[.int .i64 fa, .int .i64 fo, .int .i64 fd, .int .i64 fw]) (Or.inl ⟨by rfl, fun w' hSw => by go_simp⟩) hHeld ?_
          try simp only [zP, zQ, zS, zZ, zC]
          refine wt (i := 11) (oi := ⟨some 89, .extract (.tmp 78) 1, 4, "law.go:73", #[⟨9, .data⟩, { on := 14, ground := Ground.gcOnly Departure.lateStores }], none⟩) (v := .bool z) (Or.inl ⟨by rfl, fun w' hSw => by go_simp⟩) hHeld ?_
          try simp only [zP, zQ, zS, zZ, zC]
          refine wt (i := 12) (oi := ⟨some 90, .extract (.tmp 78) 2, 26, "law.go:73", #[⟨9, .data⟩, { on := 15, ground := Ground.gcOnly Departure.lateStores }], none⟩) (v := .int .i64 E) (Or.inl ⟨by rfl, fun w' hSw => by go_simp⟩) hHeld ?_
          try simp only [zP, zQ, zS, zZ, zC]
          refine wpAnyH_ready (rs := [14]) (by kernel_rfl) (by simp) ?_
          refine AllReadyH.cons (o := ⟨none, .store 35 (.tmp 14) (.tmp 88), 0, "law.go:73", #[⟨13, .data⟩, ⟨10, .data⟩, ⟨8, .chain⟩, ⟨0, .phase⟩, ⟨1, .phase⟩, ⟨2, .phase⟩, ⟨3, .phase⟩, ⟨4, .phase⟩, ⟨5, .phase⟩, ⟨6, .phase⟩, ⟨7, .phase⟩, ⟨8, .phase⟩, ⟨9, .phase⟩, ⟨10, .phase⟩, { on := 11, ground := Ground.textOnly Departure.lateStores }, { on := 12, ground := Ground.textOnly Departure.lateStores }, ⟨13, .phase⟩], none⟩) rfl (fun K hK => ?_) AllReadyH.nil
          rw [if_pos (by rfl)]
          refine wp_store_mid 35 (.tmp 14) (.tmp 88) rfl cb 0 #[.int .i64 fa, .int .i64 fo, .int .i64 fd, .int .i64 fw] rfl rfl (by simpa using KF.there 0 4 (by simp)) (by kernel_rfl) (all_oneCell_toArray (by intro v hv; simp at hv; rcases hv with rfl | rfl | rfl | rfl <;> rfl)) ?_
          have K2 : Blk (V2.setCells cb 0 [.int .i64 fa, .int .i64 fo, .int .i64 fd, .int .i64 fw]) cb 35 [.int .i64 fa, .int .i64 fo, .int .i64 fd, .int .i64 fw] := KF.all rfl
          have H := (only_sets cb 0 V2 [.int .i64 fa, .int .i64 fo, .int .i64 fd, .int .i64 fw]).2.2 _ _ hcb hHeld
          dsimp only
          generalize World.setCells V2 cb 0 [.int .i64 fa, .int .i64 fo, .int .i64 fd, .int .i64 fw] = VF at K2 H ⊢
          refine hK.out _ _ (H) (fun hHeld => ?_)
          clear hK K
          try simp only [zP, zQ, zS, zZ, zC]
          refine wpAnyH_ready (rs := [15]) (by kernel_rfl) (by simp) ?_
          refine AllReadyH.cons (o := ⟨some 15, .assign (.tmp 89), 4, "law.go:73", #[⟨11, .data⟩, ⟨14, .chain⟩, ⟨0, .phase⟩, ⟨1, .phase⟩, ⟨2, .phase⟩, ⟨3, .phase⟩, ⟨4, .phase⟩, ⟨5, .phase⟩, ⟨6, .phase⟩, ⟨7, .phase⟩, ⟨8, .phase⟩, ⟨9, .phase⟩, ⟨10, .phase⟩, ⟨11, .phase⟩, { on := 12, ground := Ground.textOnly Departure.lateStores }, ⟨13, .phase⟩, ⟨14, .phase⟩], none⟩) rfl (fun K hK => ?_) AllReadyH.nil
          go_simp
          refine hK.out _ _ (hHeld) (fun hHeld => ?_)
          clear hK K
          try simp only [zP, zQ, zS, zZ, zC]
          refine wpAnyH_ready (rs := [16]) (by kernel_rfl) (by simp) ?_
          refine AllReadyH.cons (o := ⟨some 16, .assign (.tmp 90), 26, "law.go:73", #[⟨12, .data⟩, ⟨15, .chain⟩, ⟨0, .phase⟩, ⟨1, .phase⟩, ⟨2, .phase⟩, ⟨3, .phase⟩, ⟨4, .phase⟩, ⟨5, .phase⟩, ⟨6, .phase⟩, ⟨7, .phase⟩, ⟨8, .phase⟩, ⟨9, .phase⟩, ⟨10, .phase⟩, ⟨11, .phase⟩, ⟨12, .phase⟩, ⟨13, .phase⟩, ⟨14, .phase⟩, ⟨15, .phase⟩], none⟩) rfl (fun K hK => ?_) AllReadyH.nil
          go_simp
          refine hK.out _ _ (hHeld) (fun hHeld => ?_)
          clear hK K
          try simp only [zP, zQ, zS, zZ, zC]
          refine wpAnyH_done (by kernel_rfl) ?_ _
          clear hHeld
          go_wp2_with fail
          go_meet
          exact ⟨cb, rfl, rfl, rfl, K2, H⟩
      case rest =>
      obtain ⟨b14, rfl, rfl, rfl, K14, hB8⟩ := hcut
      generalize wc = W8 at *
      have hBx := link hB hB8
      go_upto_region 9 with (fail)
      go_cut [17, 18, 19] from 91 to 104 (fun p b e wx => FlB 38 fa fo fd fw z E W8 p b e wx)
      case first =>
        refine wp_region_held_drew (S := fun w' => Below W8.heap.size W8 w') (by kernel_rfl) (below_drew (Below.refl _ _)) (fun _ => ?_)
        have hHeld : Below W8.heap.size W8 W8.drew := below_drew (Below.refl _ _)
        generalize W8.drew = V0 at hHeld ⊢
        refine wt (i := 0) (oi := ⟨some 92, .move (.tmp 11), 30, "law.go:74", #[], none⟩) (v := .slice (some ⟨gl, 0, none⟩) 5 5) (Or.inl ⟨by rfl, fun w' hSw => by go_simp⟩) hHeld ?_
        try simp only [zP, zQ, zS, zZ, zC]
        refine wt (i := 1) (oi := ⟨some 93, .move (.tmp 13), 3, "law.go:74", #[], none⟩) (v := .int .i64 (i : Int)) (Or.inl ⟨by rfl, fun w' hSw => by go_simp⟩) hHeld ?_
        try simp only [zP, zQ, zS, zZ, zC]
        refine wt (i := 2) (oi := ⟨some 94, .indexAddr 30 (.tmp 92) (.tmp 93), 0, "law.go:74", #[⟨0, .data⟩, ⟨1, .data⟩], none⟩) (v := .pointer (some ⟨gl, i, none⟩)) (Or.inl ⟨by rfl, fun w' hSw => by go_simp⟩) hHeld ?_
        try simp only [zP, zQ, zS, zZ, zC]
        refine wt (i := 3) (oi := ⟨some 95, .load 22 (.tmp 94), 22, "law.go:74", #[⟨2, .data⟩], none⟩) (v := .slice q1 n1 c1) (Or.inl ⟨by rfl, fun w' hSw => by have c9 := HL.out w' (link hBx hSw); go_simp⟩) hHeld ?_
        try simp only [zP, zQ, zS, zZ, zC]
        refine wt (i := 4) (oi := ⟨some 96, .move (.tmp 12), 22, "law.go:74", #[], none⟩) (v := .slice (some ⟨gm, 0, none⟩) 5 5) (Or.inl ⟨by rfl, fun w' hSw => by go_simp⟩) hHeld ?_
        try simp only [zP, zQ, zS, zZ, zC]
        refine wt (i := 5) (oi := ⟨some 97, .move (.tmp 13), 3, "law.go:74", #[], none⟩) (v := .int .i64 (i : Int)) (Or.inl ⟨by rfl, fun w' hSw => by go_simp⟩) hHeld ?_
        try simp only [zP, zQ, zS, zZ, zC]
        refine wt (i := 6) (oi := ⟨some 98, .indexAddr 22 (.tmp 96) (.tmp 97), 0, "law.go:74", #[⟨4, .data⟩, ⟨5, .data⟩], none⟩) (v := .pointer (some ⟨gm, i, none⟩)) (Or.inl ⟨by rfl, fun w' hSw => by go_simp⟩) hHeld ?_
        try simp only [zP, zQ, zS, zZ, zC]
        refine wt (i := 7) (oi := ⟨some 99, .load 3 (.tmp 98), 3, "law.go:74", #[⟨6, .data⟩], none⟩) (v := .int .i64 y) (Or.inl ⟨by rfl, fun w' hSw => by have c9 := HM.out w' (link hBx hSw); go_simp⟩) hHeld ?_
        try simp only [zP, zQ, zS, zZ, zC]
        refine wpAnyH_ready (rs := [8, 13]) (by kernel_rfl) (by simp) ?_
        refine AllReadyH.cons (o := ⟨some 100, .call { callee := .value (.func 18), args := #[.tmp 95, .tmp 99], argTypes := #[22, 3] }, 39, "law.go:74", #[⟨3, .data⟩, ⟨7, .data⟩], none⟩) rfl (fun K hK => ?_) (AllReadyH.cons (o := ⟨some 17, .alloc 38, 0, "law.go:74", #[], none⟩) rfl (fun K hK => ?_) AllReadyH.nil)
        · skip
          rw [if_pos (by rfl)]
          go_simp
          refine (CR.out _ (link hBx hHeld)).mono ?_
          rintro en V1 ⟨rfl, hB9⟩
          dsimp only
          refine hK.out _ _ (link hHeld hB9) (fun hHeld => ?_)
          clear hK K
          try simp only [zP, zQ, zS, zZ, zC]
          clear hB9
          refine wt (i := 9) (oi := ⟨some 91, .move (.tmp 100), 39, "law.go:74", #[⟨8, .data⟩], none⟩) (v := .tuple #[.agg #[.int .i64 fa, .int .i64 fo, .int .i64 fd, .int .i64 fw], .bool z, .int .i64 E]) (Or.inl ⟨by rfl, fun w' hSw => by go_simp⟩) hHeld ?_
          try simp only [zP, zQ, zS, zZ, zC]
          refine wt (i := 10) (oi := ⟨some 101, .extract (.tmp 91) 0, 38, "law.go:74", #[⟨9, .data⟩], none⟩) (v := .agg #[.int .i64 fa, .int .i64 fo, .int .i64 fd, .int .i64 fw]) (Or.inl ⟨by rfl, fun w' hSw => by go_simp⟩) hHeld ?_
          try simp only [zP, zQ, zS, zZ, zC]
          refine wt (i := 11) (oi := ⟨some 102, .extract (.tmp 91) 1, 4, "law.go:74", #[⟨9, .data⟩, { on := 14, ground := Ground.gcOnly Departure.lateStores }], none⟩) (v := .bool z) (Or.inl ⟨by rfl, fun w' hSw => by go_simp⟩) hHeld ?_
          try simp only [zP, zQ, zS, zZ, zC]
          refine wt (i := 12) (oi := ⟨some 103, .extract (.tmp 91) 2, 26, "law.go:74", #[⟨9, .data⟩, { on := 15, ground := Ground.gcOnly Departure.lateStores }], none⟩) (v := .int .i64 E) (Or.inl ⟨by rfl, fun w' hSw => by go_simp⟩) hHeld ?_
          try simp only [zP, zQ, zS, zZ, zC]
          refine wpAnyH_ready (rs := [13]) (by kernel_rfl) (by simp) ?_
          refine AllReadyH.cons (o := ⟨some 17, .alloc 38, 0, "law.go:74", #[], none⟩) rfl (fun K hK => ?_) AllReadyH.nil
          rw [if_pos (by rfl)]
          go_simp
          have KF : Blk (World.alloc V1 (.cells #[.int .i64 0, .int .i64 0, .int .i64 0, .int .i64 0] 38)) V1.heap.size 38 [.int .i64 0, .int .i64 0, .int .i64 0, .int .i64 0] := blk_new V1 _ _
          have X : Below V1.heap.size V1 (World.alloc V1 (.cells #[.int .i64 0, .int .i64 0, .int .i64 0, .int .i64 0] 38)) := (Below.refl _ _).alloc (Nat.le_refl _) _
          have hcb : W8.heap.size ≤ V1.heap.size := hHeld.size
          refine hK.out _ _ (link hHeld X) (fun hHeld => ?_)
          clear hK K
          try simp only [zP, zQ, zS, zZ, zC]
          clear X
          generalize World.alloc V1 _ = V2 at KF hHeld ⊢
          generalize V1.heap.size = cb at KF hcb ⊢
          refine wpAnyH_ready (rs := [14]) (by kernel_rfl) (by simp) ?_
          refine AllReadyH.cons (o := ⟨none, .store 38 (.tmp 17) (.tmp 101), 0, "law.go:74", #[⟨13, .data⟩, ⟨10, .data⟩, ⟨8, .chain⟩, ⟨0, .phase⟩, ⟨1, .phase⟩, ⟨2, .phase⟩, ⟨3, .phase⟩, ⟨4, .phase⟩, ⟨5, .phase⟩, ⟨6, .phase⟩, ⟨7, .phase⟩, ⟨8, .phase⟩, ⟨9, .phase⟩, ⟨10, .phase⟩, { on := 11, ground := Ground.textOnly Departure.lateStores }, { on := 12, ground := Ground.textOnly Departure.lateStores }, ⟨13, .phase⟩], none⟩) rfl (fun K hK => ?_) AllReadyH.nil
          rw [if_pos (by rfl)]
          refine wp_store_mid 38 (.tmp 17) (.tmp 101) rfl cb 0 #[.int .i64 fa, .int .i64 fo, .int .i64 fd, .int .i64 fw] rfl rfl (by simpa using KF.there 0 4 (by simp)) (by kernel_rfl) (all_oneCell_toArray (by intro v hv; simp at hv; rcases hv with rfl | rfl | rfl | rfl <;> rfl)) ?_
          have K2 : Blk (V2.setCells cb 0 [.int .i64 fa, .int .i64 fo, .int .i64 fd, .int .i64 fw]) cb 38 [.int .i64 fa, .int .i64 fo, .int .i64 fd, .int .i64 fw] := KF.all rfl
          have H := (only_sets cb 0 V2 [.int .i64 fa, .int .i64 fo, .int .i64 fd, .int .i64 fw]).2.2 _ _ hcb hHeld
          dsimp only
          generalize World.setCells V2 cb 0 [.int .i64 fa, .int .i64 fo, .int .i64 fd, .int .i64 fw] = VF at K2 H ⊢
          refine hK.out _ _ (H) (fun hHeld => ?_)
          clear hK K
          try simp only [zP, zQ, zS, zZ, zC]
          refine wpAnyH_ready (rs := [15]) (by kernel_rfl) (by simp) ?_
          refine AllReadyH.cons (o := ⟨some 18, .assign (.tmp 102), 4, "law.go:74", #[⟨11, .data⟩, ⟨14, .chain⟩, ⟨0, .phase⟩, ⟨1, .phase⟩, ⟨2, .phase⟩, ⟨3, .phase⟩, ⟨4, .phase⟩, ⟨5, .phase⟩, ⟨6, .phase⟩, ⟨7, .phase⟩, ⟨8, .phase⟩, ⟨9, .phase⟩, ⟨10, .phase⟩, ⟨11, .phase⟩, { on := 12, ground := Ground.textOnly Departure.lateStores }, ⟨13, .phase⟩, ⟨14, .phase⟩], none⟩) rfl (fun K hK => ?_) AllReadyH.nil
          go_simp
          refine hK.out _ _ (hHeld) (fun hHeld => ?_)
          clear hK K
          try simp only [zP, zQ, zS, zZ, zC]
          refine wpAnyH_ready (rs := [16]) (by kernel_rfl) (by simp) ?_
          refine AllReadyH.cons (o := ⟨some 19, .assign (.tmp 103), 26, "law.go:74", #[⟨12, .data⟩, ⟨15, .chain⟩, ⟨0, .phase⟩, ⟨1, .phase⟩, ⟨2, .phase⟩, ⟨3, .phase⟩, ⟨4, .phase⟩, ⟨5, .phase⟩, ⟨6, .phase⟩, ⟨7, .phase⟩, ⟨8, .phase⟩, ⟨9, .phase⟩, ⟨10, .phase⟩, ⟨11, .phase⟩, ⟨12, .phase⟩, ⟨13, .phase⟩, ⟨14, .phase⟩, ⟨15, .phase⟩], none⟩) rfl (fun K hK => ?_) AllReadyH.nil
          go_simp
          refine hK.out _ _ (hHeld) (fun hHeld => ?_)
          clear hK K
          try simp only [zP, zQ, zS, zZ, zC]
          refine wpAnyH_done (by kernel_rfl) ?_ _
          clear hHeld
          go_wp2_with fail
          go_meet
          exact ⟨cb, rfl, rfl, rfl, K2, H⟩
        · skip
          rw [if_pos (by rfl)]
          go_simp
          have KF : Blk (World.alloc V0 (.cells #[.int .i64 0, .int .i64 0, .int .i64 0, .int .i64 0] 38)) V0.heap.size 38 [.int .i64 0, .int .i64 0, .int .i64 0, .int .i64 0] := blk_new V0 _ _
          have X : Below V0.heap.size V0 (World.alloc V0 (.cells #[.int .i64 0, .int .i64 0, .int .i64 0, .int .i64 0] 38)) := (Below.refl _ _).alloc (Nat.le_refl _) _
          have hcb : W8.heap.size ≤ V0.heap.size := hHeld.size
          refine hK.out _ _ (link hHeld X) (fun hHeld => ?_)
          clear hK K
          try simp only [zP, zQ, zS, zZ, zC]
          clear X
          generalize World.alloc V0 _ = V1 at KF hHeld ⊢
          generalize V0.heap.size = cb at KF hcb ⊢
          refine wpAnyH_ready (rs := [8]) (by kernel_rfl) (by simp) ?_
          refine AllReadyH.cons (o := ⟨some 100, .call { callee := .value (.func 18), args := #[.tmp 95, .tmp 99], argTypes := #[22, 3] }, 39, "law.go:74", #[⟨3, .data⟩, ⟨7, .data⟩], none⟩) rfl (fun K hK => ?_) AllReadyH.nil
          rw [if_pos (by rfl)]
          go_simp
          refine (CR.out _ (link hBx hHeld)).mono ?_
          rintro en V2 ⟨rfl, hB9⟩
          dsimp only
          have KF := KF.keep hB9
          refine hK.out _ _ (link hHeld hB9) (fun hHeld => ?_)
          clear hK K
          try simp only [zP, zQ, zS, zZ, zC]
          clear hB9
          refine wt (i := 9) (oi := ⟨some 91, .move (.tmp 100), 39, "law.go:74", #[⟨8, .data⟩], none⟩) (v := .tuple #[.agg #[.int .i64 fa, .int .i64 fo, .int .i64 fd, .int .i64 fw], .bool z, .int .i64 E]) (Or.inl ⟨by rfl, fun w' hSw => by go_simp⟩) hHeld ?_
          try simp only [zP, zQ, zS, zZ, zC]
          refine wt (i := 10) (oi := ⟨some 101, .extract (.tmp 91) 0, 38, "law.go:74", #[⟨9, .data⟩], none⟩) (v := .agg #[.int .i64 fa, .int .i64 fo, .int .i64 fd, .int .i64 fw]) (Or.inl ⟨by rfl, fun w' hSw => by go_simp⟩) hHeld ?_
          try simp only [zP, zQ, zS, zZ, zC]
          refine wt (i := 11) (oi := ⟨some 102, .extract (.tmp 91) 1, 4, "law.go:74", #[⟨9, .data⟩, { on := 14, ground := Ground.gcOnly Departure.lateStores }], none⟩) (v := .bool z) (Or.inl ⟨by rfl, fun w' hSw => by go_simp⟩) hHeld ?_
          try simp only [zP, zQ, zS, zZ, zC]
          refine wt (i := 12) (oi := ⟨some 103, .extract (.tmp 91) 2, 26, "law.go:74", #[⟨9, .data⟩, { on := 15, ground := Ground.gcOnly Departure.lateStores }], none⟩) (v := .int .i64 E) (Or.inl ⟨by rfl, fun w' hSw => by go_simp⟩) hHeld ?_
          try simp only [zP, zQ, zS, zZ, zC]
          refine wpAnyH_ready (rs := [14]) (by kernel_rfl) (by simp) ?_
          refine AllReadyH.cons (o := ⟨none, .store 38 (.tmp 17) (.tmp 101), 0, "law.go:74", #[⟨13, .data⟩, ⟨10, .data⟩, ⟨8, .chain⟩, ⟨0, .phase⟩, ⟨1, .phase⟩, ⟨2, .phase⟩, ⟨3, .phase⟩, ⟨4, .phase⟩, ⟨5, .phase⟩, ⟨6, .phase⟩, ⟨7, .phase⟩, ⟨8, .phase⟩, ⟨9, .phase⟩, ⟨10, .phase⟩, { on := 11, ground := Ground.textOnly Departure.lateStores }, { on := 12, ground := Ground.textOnly Departure.lateStores }, ⟨13, .phase⟩], none⟩) rfl (fun K hK => ?_) AllReadyH.nil
          rw [if_pos (by rfl)]
          refine wp_store_mid 38 (.tmp 17) (.tmp 101) rfl cb 0 #[.int .i64 fa, .int .i64 fo, .int .i64 fd, .int .i64 fw] rfl rfl (by simpa using KF.there 0 4 (by simp)) (by kernel_rfl) (all_oneCell_toArray (by intro v hv; simp at hv; rcases hv with rfl | rfl | rfl | rfl <;> rfl)) ?_
          have K2 : Blk (V2.setCells cb 0 [.int .i64 fa, .int .i64 fo, .int .i64 fd, .int .i64 fw]) cb 38 [.int .i64 fa, .int .i64 fo, .int .i64 fd, .int .i64 fw] := KF.all rfl
          have H := (only_sets cb 0 V2 [.int .i64 fa, .int .i64 fo, .int .i64 fd, .int .i64 fw]).2.2 _ _ hcb hHeld
          dsimp only
          generalize World.setCells V2 cb 0 [.int .i64 fa, .int .i64 fo, .int .i64 fd, .int .i64 fw] = VF at K2 H ⊢
          refine hK.out _ _ (H) (fun hHeld => ?_)
          clear hK K
          try simp only [zP, zQ, zS, zZ, zC]
          refine wpAnyH_ready (rs := [15]) (by kernel_rfl) (by simp) ?_
          refine AllReadyH.cons (o := ⟨some 18, .assign (.tmp 102), 4, "law.go:74", #[⟨11, .data⟩, ⟨14, .chain⟩, ⟨0, .phase⟩, ⟨1, .phase⟩, ⟨2, .phase⟩, ⟨3, .phase⟩, ⟨4, .phase⟩, ⟨5, .phase⟩, ⟨6, .phase⟩, ⟨7, .phase⟩, ⟨8, .phase⟩, ⟨9, .phase⟩, ⟨10, .phase⟩, ⟨11, .phase⟩, { on := 12, ground := Ground.textOnly Departure.lateStores }, ⟨13, .phase⟩, ⟨14, .phase⟩], none⟩) rfl (fun K hK => ?_) AllReadyH.nil
          go_simp
          refine hK.out _ _ (hHeld) (fun hHeld => ?_)
          clear hK K
          try simp only [zP, zQ, zS, zZ, zC]
          refine wpAnyH_ready (rs := [16]) (by kernel_rfl) (by simp) ?_
          refine AllReadyH.cons (o := ⟨some 19, .assign (.tmp 103), 26, "law.go:74", #[⟨12, .data⟩, ⟨15, .chain⟩, ⟨0, .phase⟩, ⟨1, .phase⟩, ⟨2, .phase⟩, ⟨3, .phase⟩, ⟨4, .phase⟩, ⟨5, .phase⟩, ⟨6, .phase⟩, ⟨7, .phase⟩, ⟨8, .phase⟩, ⟨9, .phase⟩, ⟨10, .phase⟩, ⟨11, .phase⟩, ⟨12, .phase⟩, ⟨13, .phase⟩, ⟨14, .phase⟩, ⟨15, .phase⟩], none⟩) rfl (fun K hK => ?_) AllReadyH.nil
          go_simp
          refine hK.out _ _ (hHeld) (fun hHeld => ?_)
          clear hK K
          try simp only [zP, zQ, zS, zZ, zC]
          refine wpAnyH_done (by kernel_rfl) ?_ _
          clear hHeld
          go_wp2_with fail
          go_meet
          exact ⟨cb, rfl, rfl, rfl, K2, H⟩
      case rest =>
      obtain ⟨b17, rfl, rfl, rfl, K17, hB9⟩ := hcut
      generalize wc = W9 at *
      have K14 := K14.keep hB9
      have hBy := link hBx hB9
      go_upto_region 10 with (fail)
      refine wp_region_held_drew (S := fun w' => Below W9.heap.size W9 w') (by kernel_rfl) (below_drew (Below.refl _ _)) (fun _ => ?_)
      have hHeld : Below W9.heap.size W9 W9.drew := below_drew (Below.refl _ _)
      generalize W9.drew = V0 at hHeld ⊢
      refine wt (i := 0) (oi := ⟨some 104, .move (.tmp 16), 26, "law.go:75", #[], none⟩) (v := .int .i64 E) (Or.inl ⟨by rfl, fun w' hSw => by go_simp⟩) hHeld ?_
      try simp only [zP, zQ, zS, zZ, zC]
      refine wt (i := 1) (oi := ⟨some 105, .move (.tmp 19), 26, "law.go:75", #[], none⟩) (v := .int .i64 E) (Or.inl ⟨by rfl, fun w' hSw => by go_simp⟩) hHeld ?_
      try simp only [zP, zQ, zS, zZ, zC]
      refine wt (i := 2) (oi := ⟨some 106, .binOp .neq 26 (.tmp 104) (.tmp 105) 26, 4, "law.go:75", #[⟨0, .data⟩, ⟨1, .data⟩], none⟩) (v := .bool false) (Or.inl ⟨by rfl, fun w' hSw => by go_simp⟩) hHeld ?_
      try simp only [zP, zQ, zS, zZ, zC]
      refine wt (i := 3) (oi := ⟨some 107, .move (.tmp 106), 4, "law.go:75", #[⟨2, .data⟩], none⟩) (v := .bool false) (Or.inl ⟨by rfl, fun w' hSw => by go_simp⟩) hHeld ?_
      try simp only [zP, zQ, zS, zZ, zC]
      refine wt (i := 4) (oi := ⟨some 108, .move (.tmp 15), 4, "law.go:75", #[⟨3, .guard⟩], some (3, false)⟩) (v := .bool z) (Or.inl ⟨by rfl, fun w' hSw => by go_simp⟩) hHeld ?_
      try simp only [zP, zQ, zS, zZ, zC]
      refine wt (i := 5) (oi := ⟨some 109, .move (.tmp 18), 4, "law.go:75", #[⟨3, .guard⟩], some (3, false)⟩) (v := .bool z) (Or.inl ⟨by rfl, fun w' hSw => by go_simp⟩) hHeld ?_
      try simp only [zP, zQ, zS, zZ, zC]
      refine wt (i := 6) (oi := ⟨some 110, .binOp .neq 4 (.tmp 108) (.tmp 109) 4, 4, "law.go:75", #[⟨4, .data⟩, ⟨5, .data⟩, ⟨3, .guard⟩], some (3, false)⟩) (v := .bool false) (Or.inl ⟨by rfl, fun w' hSw => by cases z <;> go_simp⟩) hHeld ?_
      try simp only [zP, zQ, zS, zZ, zC]
      refine wt (i := 7) (oi := ⟨some 111, .pick (.tmp 107) (.const (Value.bool true)) (.tmp 110), 4, "law.go:75", #[⟨3, .data⟩, ⟨6, .data⟩], none⟩) (v := .bool false) (Or.inl ⟨by rfl, fun w' hSw => by go_simp⟩) hHeld ?_
      try simp only [zP, zQ, zS, zZ, zC]
      refine wt (i := 8) (oi := ⟨some 112, .move (.tmp 111), 4, "law.go:75", #[⟨7, .data⟩, ⟨3, .chain⟩], none⟩) (v := .bool false) (Or.inl ⟨by rfl, fun w' hSw => by go_simp⟩) hHeld ?_
      try simp only [zP, zQ, zS, zZ, zC]
      refine wt (i := 9) (oi := ⟨some 113, .load 35 (.tmp 14), 35, "law.go:75", #[⟨8, .guard⟩], some (8, false)⟩) (v := _) (yieldsIf_load_mid (by rfl) _ _ rfl b14 (0) rfl [.int .i64 fa, .int .i64 fo, .int .i64 fd, .int .i64 fw] _ (fun w' hSw => by have := (K14.keep hSw).range 0 4; exact this) Try.underlying35 rfl (by kernel_rfl)) hHeld ?_
      try simp only [zP, zQ, zS, zZ, zC]
      refine wt (i := 11) (oi := ⟨some 115, .load 38 (.tmp 17), 38, "law.go:75", #[⟨8, .guard⟩], some (8, false)⟩) (v := _) (yieldsIf_load_mid (by rfl) _ _ rfl b17 (0) rfl [.int .i64 fa, .int .i64 fo, .int .i64 fd, .int .i64 fw] _ (fun w' hSw => by have := (K17.keep hSw).range 0 4; exact this) Try.underlying38 rfl (by kernel_rfl)) hHeld ?_
      try simp only [zP, zQ, zS, zZ, zC]
      refine wpAnyH_ready (rs := [10]) (by kernel_rfl) (by simp) ?_
      refine AllReadyH.cons (o := ⟨some 114, .call { callee := .value (.func 19), args := #[.tmp 113], argTypes := #[35] }, 38, "law.go:75", #[⟨9, .data⟩, ⟨8, .chain⟩, ⟨8, .guard⟩], some (8, false)⟩) rfl (fun K hK => ?_) AllReadyH.nil
      rw [if_pos (by rfl)]
      go_simp
      refine (plain_any fa fo fd fw V0).mono ?_
      rintro en V1 ⟨rfl, hB9⟩
      dsimp only
      refine hK.out _ _ (link hHeld hB9) (fun hHeld => ?_)
      clear hK K
      try simp only [zP, zQ, zS, zZ, zC]
      clear hB9
      refine wt (i := 12) (oi := ⟨some 116, .binOp .neq 38 (.tmp 114) (.tmp 115) 38, 4, "law.go:75", #[⟨10, .data⟩, ⟨11, .data⟩, ⟨8, .guard⟩], some (8, false)⟩) (v := .bool false) (Or.inl ⟨by rfl, fun w' hSw => by have eq := equal_rf w' fa fo fd fw; go_simp⟩) hHeld ?_
      try simp only [zP, zQ, zS, zZ, zC]
      refine wt (i := 13) (oi := ⟨some 117, .pick (.tmp 112) (.const (Value.bool true)) (.tmp 116), 4, "law.go:75", #[⟨8, .data⟩, ⟨12, .data⟩], none⟩) (v := .bool false) (Or.inl ⟨by rfl, fun w' hSw => by go_simp⟩) hHeld ?_
      try simp only [zP, zQ, zS, zZ, zC]
      refine wpAnyH_done (by kernel_rfl) ?_ _
      have BY := hHeld
      clear hHeld 
      have BQ := link hBy BY
      go_wp2
      exact ⟨⟨i + 1, by omega, by go_num, BQ⟩, by simp [intOf]; omega⟩
    · obtain rfl : i = 5 := by omega
      go_wp2_with (go_at_call 16; refine (CL.out _).mono ?_; rintro _ w9 ⟨rfl, B9⟩)
      go_ret
      exact ⟨rfl, link BR.out (link hB B9)⟩
end Go.Proofs.Ytjpiidfoegaenaa
