/-
  passimlaw02.HashStreamsAgree returns true.
-/
import Derived.Test.YtgmlphfoadeboaaDoorQj
import Derived.Test.YtgmlphfoadeboaaDoorQv
import Derived.Test.YtgmlphfoadeboaaDoorHEqual
namespace Go.Proofs.YtgmlphfoadeboaaDoor
open Go.RowKit
set_option linter.unusedVariables false
set_option linter.unusedSimpArgs false

/-- A stream with the message m lies in block b. -/
def StAt (wx : World) (b : Nat) (m : List Nat) : Prop := ∃ B, Stm m B ∧ Blk wx b 34 (strV (sth m) B m.length)
theorem StAt.keep {w w' : World} {b : Nat} {m : List Nat} (h : StAt w b m) (hB : Below w.heap.size w w') : StAt w' b m := by
  obtain ⟨B, h1, h2⟩ := h
  exact ⟨B, h1, h2.keep hB⟩
theorem StAt.drewN {w : World} {b : Nat} {m : List Nat} (h : StAt w b m) (q : Nat) : StAt (w.drewN q) b m := h
theorem StAt.lt {w : World} {b : Nat} {m : List Nat} (h : StAt w b m) : b < w.heap.size := by
  obtain ⟨B, h1, h2⟩ := h
  exact h2.lt

/-- A struct that fills a block is read, by an operation with a guard that says yes. -/
theorem load_wantedS {w : World} {ops : Array Oper} {rest : List Oper} {o : Oper} {a : Act} {Q : Exit → Act → World → Prop} (hw : Region.wanted o (yielded ops a.tmps) = true) (ty : TypeId) (x : Operand) (ho : o.op = .load ty x)
    {b : Nat} {t : TypeId} {cs : List Value} (h : Blk w b t cs) (hx : a.eval x = .pointer (some ⟨b, 0, none⟩)) {m : Nat} {fs : Array Field} (hu : Tryd.prog.underlying ty = some (.struct fs)) (hi : (Tryd.prog.info? ty).map (·.size) = some m) (hl : cs.length = m)
    (K : wpList Tryd.prog ops Q rest (a.put o.dst (.agg cs.toArray)) w) : wpList Tryd.prog ops Q (o :: rest) a w := by
  subst hl
  have hr := h.range 0 cs.length
  rw [List.drop_zero, List.take_length] at hr
  refine wpList_step fun K' hK => ?_
  rw [if_pos hw]
  exact wp_load_mid ty x ho b 0 hx cs (.struct fs) hr hu rfl hi (hK _ _ K)
theorem strsV_take (l : List ByteArray) (k : Nat) : strsV (l.take k) = (strsV l).take k := by simp [strsV]
theorem sbs_take (l : List ByteArray) (k : Nat) : sbs (l.take k) = (sbs l).take k := by simp [sbs]

set_option maxHeartbeats 4000000 in
set_option maxRecDepth 100000 in
theorem streams_any (A : Option Addr) (ps : List ByteArray) (o : ByteArray) (at_ : Nat) (hat : at_ < 256) (n c : Nat) (w : World) (hn : n = ps.length) (hc : n ≤ c) (hp : Cells w A (strsV ps)) (hG : Glob w) (hR : GlobR w) :
    Calls Tryd.prog 4 #[.slice A n c, .string o, .int .u8 (at_ : Int)] w (Told w true) := by
  subst hn
  have HF := fun w0 h => few_any A ps ps.length c w0 rfl h
  by_cases hf : fewB ps = true
  · by_cases ho : o.size ≤ 400
    · obtain ⟨h12, h400⟩ := (fewB_iff ps).1 hf
      have HB := Lib.hid hf
      have ht : ∀ s ∈ ps, s.size ≤ 1048576 := fun s h => by have := h400 s h; omega
      have hlen := catK_len ps ht
      obtain ⟨K, hK⟩ : ∃ K, at_ % (ps.length + 1) = K := ⟨_, rfl⟩
      have hKl : K ≤ ps.length := by have := Nat.mod_lt at_ (show 0 < ps.length + 1 by omega); omega
      have hz := zero_stream
      have hat6 : IntKind.i64.wrap (at_ : Int) = (at_ : Int) := IntWalk.i64_in _ (by omega)
      have hl6 : IntKind.i64.wrap ((ps.length : Int) + 1) = (ps.length : Int) + 1 := IntWalk.i64_in _ (by omega)
      have hmod : ((at_ : Int) % ((ps.length : Int) + 1)) = (K : Int) := by rw [← hK]; simp
      have HK := Lib.hid hK
      clear hf hK
      go_enter Tryd.func4, Tryd.ntmps4
      go_wp2_with fail
      refine (sanity_any w hG).mono ?_
      rintro e w1 ⟨rfl, hB1⟩
      go_wp2_with fail
      refine (HF w1 (hp.keep hB1)).mono ?_
      rintro e w2 ⟨rfl, hB2⟩
      rw [HB.out]
      have C2 := link hB1 hB2
      clear hB1 hB2 HF
      go_upto_region 5 with (fail)
      have hG2 := hG.keep C2
      go_upto_region 6 with (first | (go_at_call 14; refine (begin_str _ hG2).mono ?_; rintro e w3 ⟨B0, hS0, rfl, hB3⟩) | (refine store_blk rfl 34 (.tmp 9) (.tmp 32) rfl (blk_new w3 34 zeroStr.toArray) rfl rfl (m := 73) (by kernel_rfl) (strV_length _ _ _ hS0.1.1) zeroStr_length (strV_cells _ _ _) ?_; intro x3 KS OS))
      have C3 := link C2 hB3
      have L9 : StAt x3 w3.heap.size (catK ps 0) := ⟨B0, hS0, KS⟩
      have C3' : Below w.heap.size w x3 := OS.2.2 _ _ C3.size (C3.alloc C3.size _)
      have hb9 : w.heap.size ≤ w3.heap.size := C3.size
      clear C2 hB3 C3 KS OS hG2 hz hat6 hl6 hmod hS0
      generalize w3.heap.size = b9 at *
      go_wp2
      go_loopw [10] (fun i wr => ∃ k : Nat, k ≤ K ∧ i = .int .i64 k ∧ StAt wr b9 (catK ps k) ∧ Below w.heap.size w wr) (fun i _ => K - (intOf i).toNat)
      case atStart => exact ⟨0, by omega, rfl, L9, C3'⟩
      case round =>
        clear L9 C3'
        obtain ⟨k, hk, rfl, ⟨B1, hS1, KS⟩, CB⟩ := hrel
        by_cases hlt : k < K
        · have hltp : k < ps.length := by omega
          obtain ⟨ad, e, hbl, hcell⟩ := (hp.keep CB) k (.string ps[k]) (by simp [strsV, List.getElem?_eq_getElem hltp])
          subst e
          have hxs := ht ps[k] (List.getElem_mem hltp)
          have hps := catK_step ps k hltp
          have hml := hlen k (by omega)
          generalize ps[k] = x at hcell hxs hps
          have hkl : (k : Int) < (ps.length : Int) := by omega
          obtain ⟨M, hM⟩ : ∃ M, catK ps (k + 1) = M := ⟨_, rfl⟩
          rw [hM] at hps
          generalize catK ps k = m at KS hps hml hS1
          have hB64 := hS1.1.1
          have HME := Lib.hid hM
          have HA := Lib.hid (fun w1 g => show Calls Tryd.prog 15 #[.agg (strV (sth m) B1 m.length).toArray, .string x] w1 (AddTo w1 M) by have h := add_any m B1 hS1 x (by omega) w1 g; rwa [hps] at h)
          have hi73 := info_str (m := m) (k := m.length) hB64
          clear hM hps
          go_upto_region 9 with (fail)
          have hHeld : True := trivial
          have KS0 := KS.drew
          have CB0 := below_drew CB
          have hc0 : wr.drew.cell? (ad.add k) = some (.string x) := hcell
          refine wp_region_held_drew (S := fun _ => True) (by kernel_rfl) trivial (fun _ => ?_)
          clear KS CB hcell
          generalize wr.drew = V0 at KS0 CB0 hc0 ⊢
          refine wpAnyH_take (i := 1) (oi := ⟨some 39, .move (.tmp 0), 27, "law.go:50", #[], none⟩) (v := .slice (some ad) ps.length c) rfl (by kernel_rfl) (by kernel_rfl) (by kernel_rfl) (fun _ _ _ h => h) (Or.inl ⟨by rfl, fun w' hSw => by go_simp⟩) hHeld ?_
          try simp only [Act.put, List.setIfInBounds_toArray, List.set_cons_zero, List.set_cons_succ]
          refine wpAnyH_take (i := 2) (oi := ⟨some 40, .move (.tmp 10), 3, "law.go:50", #[], none⟩) (v := .int .i64 (k : Int)) rfl (by kernel_rfl) (by kernel_rfl) (by kernel_rfl) (fun _ _ _ h => h) (Or.inl ⟨by rfl, fun w' hSw => by go_simp⟩) hHeld ?_
          try simp only [Act.put, List.setIfInBounds_toArray, List.set_cons_zero, List.set_cons_succ]
          refine wpAnyH_take (i := 3) (oi := ⟨some 41, .indexAddr 27 (.tmp 39) (.tmp 40), 0, "law.go:50", #[⟨1, .data⟩, ⟨2, .data⟩], none⟩) (v := .pointer (some (ad.add k))) rfl (by kernel_rfl) (by kernel_rfl) (by kernel_rfl) (fun _ _ _ h => h) (Or.inl ⟨by rfl, fun w' hSw => by go_simp⟩) hHeld ?_
          try simp only [Act.put, List.setIfInBounds_toArray, List.set_cons_zero, List.set_cons_succ]
          refine wpAnyH_ready (rs := [0, 4]) (by kernel_rfl) (by simp) ?_
          refine AllReadyH.cons (o := ⟨some 38, .load 34 (.tmp 9), 34, "law.go:50", #[], none⟩) rfl (fun K hK => ?_) (AllReadyH.cons (o := ⟨some 42, .load 9 (.tmp 41), 9, "law.go:50", #[⟨3, .data⟩], none⟩) rfl (fun K hK => ?_) AllReadyH.nil)
          rw [if_pos (by rfl)]
          refine wp_load_mid _ _ rfl b9 0 rfl _ _ (rng_str KS0) Tryd.underlying34 rfl hi73 ?_
          try simp only [Act.put, List.setIfInBounds_toArray, List.set_cons_zero, List.set_cons_succ]
          refine hK.out _ _ trivial (fun _ => ?_)
          clear hK K
          try simp only [Act.put, List.setIfInBounds_toArray, List.set_cons_zero, List.set_cons_succ]
          refine wpAnyH_ready (rs := [4]) (by kernel_rfl) (by simp) ?_
          refine AllReadyH.cons (o := ⟨some 42, .load 9 (.tmp 41), 9, "law.go:50", #[⟨3, .data⟩], none⟩) rfl (fun K hK => ?_) AllReadyH.nil
          rw [if_pos (by rfl)]
          go_simp
          refine hK.out _ _ trivial (fun _ => ?_)
          clear hK K
          try simp only [Act.put, List.setIfInBounds_toArray, List.set_cons_zero, List.set_cons_succ]
          rotate_left
          rw [if_pos (by rfl)]
          go_simp
          refine hK.out _ _ trivial (fun _ => ?_)
          clear hK K
          try simp only [Act.put, List.setIfInBounds_toArray, List.set_cons_zero, List.set_cons_succ]
          refine wpAnyH_ready (rs := [0]) (by kernel_rfl) (by simp) ?_
          refine AllReadyH.cons (o := ⟨some 38, .load 34 (.tmp 9), 34, "law.go:50", #[], none⟩) rfl (fun K hK => ?_) AllReadyH.nil
          rw [if_pos (by rfl)]
          refine wp_load_mid _ _ rfl b9 0 rfl _ _ (rng_str KS0) Tryd.underlying34 rfl hi73 ?_
          try simp only [Act.put, List.setIfInBounds_toArray, List.set_cons_zero, List.set_cons_succ]
          refine hK.out _ _ trivial (fun _ => ?_)
          clear hK K
          try simp only [Act.put, List.setIfInBounds_toArray, List.set_cons_zero, List.set_cons_succ]
          all_goals
            refine wpAnyH_ready (rs := [5]) (by kernel_rfl) (by simp) ?_
            refine AllReadyH.cons (o := ⟨some 43, .call { callee := .value (.func 15), args := #[.tmp 38, .tmp 42], argTypes := #[34, 9] }, 34, "law.go:50", #[⟨0, .data⟩, ⟨4, .data⟩], none⟩) rfl (fun K hK => ?_) AllReadyH.nil
            go_simp
            refine (HA.out V0 (hG.keep CB0)).mono ?_
            rintro e V1 ⟨B2, hS2, rfl, hB2⟩
            dsimp only
            refine hK.out _ _ trivial (fun _ => ?_)
            clear hK K
            try simp only [Act.put, List.setIfInBounds_toArray, List.set_cons_zero, List.set_cons_succ]
            have hSt := str_store (m := M) (k := M.length) (KS0.keep hB2) (strV_length _ _ _ hB64) hS2.1.1
            have hst1 := hSt.1
            have hln := strV_length (sth M) B2 M.length hS2.1.1
            refine wpAnyH_ready (rs := [6]) (by kernel_rfl) (by simp) ?_
            refine AllReadyH.cons (o := ⟨none, .store 34 (.tmp 9) (.tmp 43), 0, "law.go:50", #[⟨5, .data⟩, ⟨5, .chain⟩, ⟨0, .phase⟩, ⟨1, .phase⟩, ⟨2, .phase⟩, ⟨3, .phase⟩, ⟨4, .phase⟩, ⟨5, .phase⟩], none⟩) rfl (fun K hK => ?_) AllReadyH.nil
            go_simp
            refine hK.out _ _ trivial (fun _ => ?_)
            clear hK K
            try simp only [Act.put, List.setIfInBounds_toArray, List.set_cons_zero, List.set_cons_succ]
            refine wpAnyH_done (by kernel_rfl) ?_ _
            have hB3 := (only_sets b9 0 V1 (strV (sth M) B2 M.length)).2.2 _ _ hb9 (link CB0 hB2)
            have hS3 : StAt (V1.setCells b9 0 (strV (sth M) B2 M.length)) b9 M := ⟨B2, hS2, hSt.2⟩
            clear hSt hst1 hln KS0 CB0 hc0 hS2 hB2
            generalize World.setCells _ _ _ _ = wy at hB3 hS3 ⊢
            go_wp2
            go_roundw
            case rel => exact ⟨k + 1, by omega, by go_num, by rw [HME.out]; exact hS3, hB3⟩
            case measure => simp [intOf]; omega
        · have hkK : k = K := by omega
          subst hkK
          have hz := zero_stream
          have hB64 := hS1.1.1
          have hln := strV_length (sth (catK ps k)) B1 (catK ps k).length hB64
          have hkl2 := hlen k hKl
          obtain ⟨EM, hEM⟩ : ∃ m, catK ps k = m := ⟨_, rfl⟩
          rw [hEM] at hS1 KS hln hkl2
          have HEM := Lib.hid hEM
          clear hEM
          go_upto_region 11 with (first | (refine load_struct rfl 34 (.tmp 9) rfl KS rfl Tryd.underlying34 (m := 73) (by kernel_rfl) hln ?_) | (refine store_blk rfl 34 (.tmp 11) (.tmp 44) rfl (blk_new wr 34 zeroStr.toArray) rfl rfl (m := 73) (by kernel_rfl) hln zeroStr_length (strV_cells _ _ _) ?_; intro x4 KE OE))
          have hlt9 := KS.lt
          have L9 : StAt x4 b9 EM := ⟨B1, hS1, OE.2.1 _ _ _ (by omega) (KS.alloc _)⟩
          have L11 : StAt x4 wr.heap.size EM := ⟨B1, hS1, KE⟩
          have C4 : Below w.heap.size w x4 := OE.2.2 _ _ CB.size (CB.alloc CB.size _)
          have hb911 : wr.heap.size ≠ b9 := by omega
          have hb11 : w.heap.size ≤ wr.heap.size := CB.size
          clear KS KE OE CB hS1 hln hz hlt9 hB64
          generalize wr.heap.size = b11 at *
          go_wp2
          go_loopw [12] (fun i wr => ∃ j : Nat, k ≤ j ∧ j ≤ ps.length ∧ i = .int .i64 j ∧ StAt wr b9 (catK ps j) ∧ StAt wr b11 EM ∧ Below w.heap.size w wr) (fun i _ => ps.length - (intOf i).toNat)
          case atStart => exact ⟨k, by omega, by omega, rfl, by rw [HEM.out]; exact L9, L11, C4⟩
          case round =>
            clear L9 L11 C4
            obtain ⟨j, hkj, hj, rfl, ⟨B1, hS1, KS⟩, LE, CB⟩ := hrel
            by_cases hlt : j < ps.length
            · have hltp : j < ps.length := hlt
              obtain ⟨ad, e, hbl, hcell⟩ := (hp.keep CB) j (.string ps[j]) (by simp [strsV, List.getElem?_eq_getElem hltp])
              subst e
              have hxs := ht ps[j] (List.getElem_mem hltp)
              have hps := catK_step ps j hltp
              have hml := hlen j (by omega)
              generalize ps[j] = x at hcell hxs hps
              have hkl : (j : Int) < (ps.length : Int) := by omega
              obtain ⟨M, hM⟩ : ∃ M, catK ps (j + 1) = M := ⟨_, rfl⟩
              rw [hM] at hps
              generalize catK ps j = m at KS hps hml hS1
              have hB64 := hS1.1.1
              have HME := Lib.hid hM
              have HA := Lib.hid (fun w1 g => show Calls Tryd.prog 15 #[.agg (strV (sth m) B1 m.length).toArray, .string x] w1 (AddTo w1 M) by have h := add_any m B1 hS1 x (by omega) w1 g; rwa [hps] at h)
              have hi73 := info_str (m := m) (k := m.length) hB64
              clear hM hps
              go_upto_region 14 with (fail)
              have hHeld : True := trivial
              have KS0 := KS.drew
              have CB0 := below_drew CB
              have hc0 : wr.drew.cell? (ad.add j) = some (.string x) := hcell
              have LE0 : StAt wr.drew b11 EM := LE
              refine wp_region_held_drew (S := fun _ => True) (by kernel_rfl) trivial (fun _ => ?_)
              clear KS CB hcell LE
              generalize wr.drew = V0 at KS0 CB0 hc0 LE0 ⊢
              refine wpAnyH_take (i := 1) (oi := ⟨some 53, .move (.tmp 0), 27, "law.go:54", #[], none⟩) (v := .slice (some ad) ps.length c) rfl (by kernel_rfl) (by kernel_rfl) (by kernel_rfl) (fun _ _ _ h => h) (Or.inl ⟨by rfl, fun w' hSw => by go_simp⟩) hHeld ?_
              try simp only [Act.put, List.setIfInBounds_toArray, List.set_cons_zero, List.set_cons_succ]
              refine wpAnyH_take (i := 2) (oi := ⟨some 54, .move (.tmp 12), 3, "law.go:54", #[], none⟩) (v := .int .i64 (j : Int)) rfl (by kernel_rfl) (by kernel_rfl) (by kernel_rfl) (fun _ _ _ h => h) (Or.inl ⟨by rfl, fun w' hSw => by go_simp⟩) hHeld ?_
              try simp only [Act.put, List.setIfInBounds_toArray, List.set_cons_zero, List.set_cons_succ]
              refine wpAnyH_take (i := 3) (oi := ⟨some 55, .indexAddr 27 (.tmp 53) (.tmp 54), 0, "law.go:54", #[⟨1, .data⟩, ⟨2, .data⟩], none⟩) (v := .pointer (some (ad.add j))) rfl (by kernel_rfl) (by kernel_rfl) (by kernel_rfl) (fun _ _ _ h => h) (Or.inl ⟨by rfl, fun w' hSw => by go_simp⟩) hHeld ?_
              try simp only [Act.put, List.setIfInBounds_toArray, List.set_cons_zero, List.set_cons_succ]
              refine wpAnyH_ready (rs := [0, 4]) (by kernel_rfl) (by simp) ?_
              refine AllReadyH.cons (o := ⟨some 52, .load 34 (.tmp 9), 34, "law.go:54", #[], none⟩) rfl (fun K hK => ?_) (AllReadyH.cons (o := ⟨some 56, .load 9 (.tmp 55), 9, "law.go:54", #[⟨3, .data⟩], none⟩) rfl (fun K hK => ?_) AllReadyH.nil)
              rw [if_pos (by rfl)]
              refine wp_load_mid _ _ rfl b9 0 rfl _ _ (rng_str KS0) Tryd.underlying34 rfl hi73 ?_
              try simp only [Act.put, List.setIfInBounds_toArray, List.set_cons_zero, List.set_cons_succ]
              refine hK.out _ _ trivial (fun _ => ?_)
              clear hK K
              try simp only [Act.put, List.setIfInBounds_toArray, List.set_cons_zero, List.set_cons_succ]
              refine wpAnyH_ready (rs := [4]) (by kernel_rfl) (by simp) ?_
              refine AllReadyH.cons (o := ⟨some 56, .load 9 (.tmp 55), 9, "law.go:54", #[⟨3, .data⟩], none⟩) rfl (fun K hK => ?_) AllReadyH.nil
              rw [if_pos (by rfl)]
              go_simp
              refine hK.out _ _ trivial (fun _ => ?_)
              clear hK K
              try simp only [Act.put, List.setIfInBounds_toArray, List.set_cons_zero, List.set_cons_succ]
              rotate_left
              rw [if_pos (by rfl)]
              go_simp
              refine hK.out _ _ trivial (fun _ => ?_)
              clear hK K
              try simp only [Act.put, List.setIfInBounds_toArray, List.set_cons_zero, List.set_cons_succ]
              refine wpAnyH_ready (rs := [0]) (by kernel_rfl) (by simp) ?_
              refine AllReadyH.cons (o := ⟨some 52, .load 34 (.tmp 9), 34, "law.go:54", #[], none⟩) rfl (fun K hK => ?_) AllReadyH.nil
              rw [if_pos (by rfl)]
              refine wp_load_mid _ _ rfl b9 0 rfl _ _ (rng_str KS0) Tryd.underlying34 rfl hi73 ?_
              try simp only [Act.put, List.setIfInBounds_toArray, List.set_cons_zero, List.set_cons_succ]
              refine hK.out _ _ trivial (fun _ => ?_)
              clear hK K
              try simp only [Act.put, List.setIfInBounds_toArray, List.set_cons_zero, List.set_cons_succ]
              all_goals
                refine wpAnyH_ready (rs := [5]) (by kernel_rfl) (by simp) ?_
                refine AllReadyH.cons (o := ⟨some 57, .call { callee := .value (.func 15), args := #[.tmp 52, .tmp 56], argTypes := #[34, 9] }, 34, "law.go:54", #[⟨0, .data⟩, ⟨4, .data⟩], none⟩) rfl (fun K hK => ?_) AllReadyH.nil
                go_simp
                refine (HA.out V0 (hG.keep CB0)).mono ?_
                rintro e V1 ⟨B2, hS2, rfl, hB2⟩
                dsimp only
                refine hK.out _ _ trivial (fun _ => ?_)
                clear hK K
                try simp only [Act.put, List.setIfInBounds_toArray, List.set_cons_zero, List.set_cons_succ]
                have hSt := str_store (m := M) (k := M.length) (KS0.keep hB2) (strV_length _ _ _ hB64) hS2.1.1
                have hst1 := hSt.1
                have hln := strV_length (sth M) B2 M.length hS2.1.1
                refine wpAnyH_ready (rs := [6]) (by kernel_rfl) (by simp) ?_
                refine AllReadyH.cons (o := ⟨none, .store 34 (.tmp 9) (.tmp 57), 0, "law.go:54", #[⟨5, .data⟩, ⟨5, .chain⟩, ⟨0, .phase⟩, ⟨1, .phase⟩, ⟨2, .phase⟩, ⟨3, .phase⟩, ⟨4, .phase⟩, ⟨5, .phase⟩], none⟩) rfl (fun K hK => ?_) AllReadyH.nil
                go_simp
                refine hK.out _ _ trivial (fun _ => ?_)
                clear hK K
                try simp only [Act.put, List.setIfInBounds_toArray, List.set_cons_zero, List.set_cons_succ]
                refine wpAnyH_done (by kernel_rfl) ?_ _
                have hB3 := (only_sets b9 0 V1 (strV (sth M) B2 M.length)).2.2 _ _ hb9 (link CB0 hB2)
                have hS3 : StAt (V1.setCells b9 0 (strV (sth M) B2 M.length)) b9 M := ⟨B2, hS2, hSt.2⟩
                have hE3 : StAt (V1.setCells b9 0 (strV (sth M) B2 M.length)) b11 EM := by
                  obtain ⟨B5, h5, h6⟩ := LE0.keep hB2
                  exact ⟨B5, h5, (only_sets b9 0 V1 _).2.1 _ _ _ hb911 h6⟩
                clear hSt hst1 hln KS0 CB0 hc0 hS2 hB2 LE0
                generalize World.setCells _ _ _ _ = wy at hB3 hS3 hE3 ⊢
                go_wp2
                go_roundw
                case rel => exact ⟨j + 1, by omega, by omega, by go_num, by rw [HME.out]; exact hS3, hE3, hB3⟩
                case measure => simp [intOf]; omega
            · obtain rfl : j = ps.length := by omega
              rw [catK_all] at hS1 KS
              have hwl := hlen ps.length (Nat.le_refl _)
              rw [catK_all] at hwl
              obtain ⟨WM, hWM⟩ : ∃ m, (sbs ps).flatten = m := ⟨_, rfl⟩
              rw [hWM] at hS1 KS hwl
              have HWM := Lib.hid hWM
              obtain ⟨B5, hS5, KE⟩ := LE
              have hz := zero_stream
              have hB5 := hS5.1.1
              have hln5 := strV_length (sth EM) B5 EM.length hB5
              have hnl : ¬ (ps.length : Int) < (ps.length : Int) := by omega
              have HAo := Lib.hid (add_any EM B5 hS5 o (by omega) wr (hG.keep CB))
              clear hWM
              go_upto_region 16 with (first | (refine load_struct rfl 34 (.tmp 11) rfl KE rfl Tryd.underlying34 (m := 73) (by kernel_rfl) hln5 ?_) | (go_at_call 15; refine HAo.out.mono ?_; rintro e w5 ⟨B6, hS6, rfl, hBo⟩) | (refine store_blk rfl 34 (.tmp 13) (.tmp 60) rfl (blk_new w5 34 zeroStr.toArray) rfl rfl (m := 73) (by kernel_rfl) (strV_length _ _ _ hS6.1.1) zeroStr_length (strV_cells _ _ _) ?_; intro x5 KF OF))
              have C5 := link CB hBo
              have Z5 : Below wr.heap.size wr x5 := OF.2.2 _ _ hBo.size (hBo.alloc hBo.size _)
              have C6 := link CB Z5
              have L9 := KS.keep Z5
              have L11 := KE.keep Z5
              clear KS KE OF hBo CB Z5 C5 hz HAo hln5
              generalize w5.heap.size = b13 at KF ⊢
              rw [← List.length_append] at KF
              go_wp2_with fail
              refine (joined_any A ps ps.length c x5 rfl (by omega) ht (hp.keep C6)).mono ?_
              rintro e w6 ⟨⟨sw, rfl, hsw⟩, hB6⟩
              rw [HWM.out] at hsw
              have C7 := link C6 hB6
              have N9 := L9.keep hB6
              have N11 := L11.keep hB6
              have N13 := KF.keep hB6
              clear L9 L11 KF hB6 C6
              go_wp2_with fail
              have hpk : Cells w6 A (strsV (ps.take k)) := by rw [strsV_take]; exact (hp.keep C7).take k
              refine (joined_any A (ps.take k) k c w6 (by rw [List.length_take]; omega) (by rw [List.length_take]; omega) (fun s h => ht s (List.mem_of_mem_take h)) hpk).mono ?_
              rintro e w7 ⟨⟨sh, rfl, hsh⟩, hB7⟩
              have hsh2 : sb sh = EM := by rw [hsh, sbs_take, ← HEM.out]; rfl
              have C8 := link C7 hB7
              have P9 := N9.keep hB7
              have P11 := N11.keep hB7
              have P13 := N13.keep hB7
              have hFM : sb (sh ++ o) = EM ++ sb o := by rw [sb_cat, hsh2]
              have hFl : (EM ++ sb o).length ≤ 1099511627776 := by rw [List.length_append, sb_length]; omega
              obtain ⟨FM, hFe⟩ : ∃ m, EM ++ sb o = m := ⟨_, rfl⟩
              rw [hFe] at hFM hFl hS6 P13
              have hshs : sh.size + o.size ≤ 9223372036854775807 := by have := sb_length sh; rw [hsh2] at this; omega
              have hHW := sha_length WM
              have hHE := sha_length EM
              have hHF := sha_length FM
              have hbW := sha_byte WM
              have hbE := sha_byte EM
              have hbF := sha_byte FM
              have qW := fun w0 => equal_self (sha WM) hHW hbW w0
              have qE := fun w0 => equal_self (sha EM) hHE hbE w0
              have qF := fun w0 => equal_self (sha FM) hHF hbF w0
              have HSW := Lib.hid hsw
              have HSH := Lib.hid hsh2
              have HSF := Lib.hid hFM
              have l9 := strV_length (sth WM) B1 WM.length hS1.1.1
              have l11 := strV_length (sth EM) B5 EM.length hB5
              have l13 := strV_length (sth FM) B6 FM.length hS6.1.1
              have hszW : sw.size = WM.length := by rw [← hsw, sb_length]
              have hszE : sh.size = EM.length := by rw [← hsh2, sb_length]
              have hszF : sh.size + o.size = FM.length := by rw [← hFM, sb_length]; simp
              have HZW := Lib.hid hszW
              have HZE := Lib.hid hszE
              have HZF := Lib.hid hszF
              have HSumW := Lib.hid (fun w0 g => strsum_any WM B1 hS1 (by omega) w0 g)
              have HSumE := Lib.hid (fun w0 g => strsum_any EM B5 hS5 (by omega) w0 g)
              have HSumF := Lib.hid (fun w0 g => strsum_any FM B6 hS6 (by omega) w0 g)
              have HRefW := Lib.hid (fun b cap w0 h g => rsum_any (some ⟨b, 0, none⟩) WM sw.size cap w0 hszW (by omega) h g)
              have HRefE := Lib.hid (fun b cap w0 h g => rsum_any (some ⟨b, 0, none⟩) EM sh.size cap w0 hszE (by omega) h g)
              have HRefF := Lib.hid (fun b cap w0 h g => rsum_any (some ⟨b, 0, none⟩) FM (sh.size + o.size) cap w0 hszF hFl h g)
              have HOwnW := Lib.hid (fun b cap w0 h g => sum_any (some ⟨b, 0, none⟩) WM sw.size cap w0 hszW (by omega) h g)
              generalize sha WM = DW at *
              generalize sha EM = DE at *
              generalize sha FM = DF at *
              clear hsw hsh hsh2 hFM hFe hszW hszE hszF hFl hpk N9 N11 N13 hB7 C7 hS1 hS5 hS6 hHW hHE hHF hbW hbE hbF
              go_wp2_with (refine load_wantedS (by rfl) 34 (.tmp 9) rfl P9 rfl Tryd.underlying34 (m := 73) (by kernel_rfl) l9 ?_)
              refine (HSumW.out _ (hG.keep C8)).mono ?_
              rintro e y1a ⟨rfl, g1a⟩
              have D1a := link C8 g1a
              obtain ⟨cap1, y1b, hcb1, g1b, hH1⟩ := to_bytes_has sw y1a
              rw [HSW.out] at hH1
              have D1b := link D1a g1b
              go_wp2_with fail
              refine (HRefW.out y1a.heap.size cap1 y1b hH1 (hR.keep D1b)).mono ?_
              rintro e y1c ⟨rfl, g1c⟩
              have D1c := link D1b g1c
              have G1 := link g1a (link g1b g1c)
              clear hcb1 hH1 g1a g1b g1c D1a D1b
              have R9 := P9.keep G1
              have R11 := P11.keep G1
              have R13 := P13.keep G1
              clear P9 P11 P13 G1
              go_wp2_with (refine load_wantedS (by rfl) 34 (.tmp 11) rfl R11 rfl Tryd.underlying34 (m := 73) (by kernel_rfl) l11 ?_)
              refine (HSumE.out _ (hG.keep D1c)).mono ?_
              rintro e y2a ⟨rfl, g2a⟩
              have D2a := link D1c g2a
              obtain ⟨cap2, y2b, hcb2, g2b, hH2⟩ := to_bytes_has sh y2a
              rw [HSH.out] at hH2
              have D2b := link D2a g2b
              go_wp2_with fail
              refine (HRefE.out y2a.heap.size cap2 y2b hH2 (hR.keep D2b)).mono ?_
              rintro e y2c ⟨rfl, g2c⟩
              have D2c := link D2b g2c
              have G2 := link g2a (link g2b g2c)
              clear hcb2 hH2 g2a g2b g2c D2a D2b
              have S9 := R9.keep G2
              have S13 := R13.keep G2
              clear R9 R11 R13 G2 D1c
              go_wp2_with (refine load_wantedS (by rfl) 34 (.tmp 13) rfl S13 rfl Tryd.underlying34 (m := 73) (by kernel_rfl) l13 ?_)
              refine (HSumF.out _ (hG.keep D2c)).mono ?_
              rintro e y3a ⟨rfl, g3a⟩
              have D3a := link D2c g3a
              obtain ⟨cap3, y3b, hcb3, g3b, hH3⟩ := to_bytes_has (sh ++ o) y3a
              rw [HSF.out] at hH3
              have D3b := link D3a g3b
              go_wp2_with fail
              refine (HRefF.out y3a.heap.size cap3 y3b hH3 (hR.keep D3b)).mono ?_
              rintro e y3c ⟨rfl, g3c⟩
              have D3c := link D3b g3c
              have G3 := link g3a (link g3b g3c)
              clear hcb3 hH3 g3a g3b g3c D3a D3b
              have T9 := S9.keep G3
              clear S9 S13 G3 D2c
              go_wp2_with (refine load_wantedS (by rfl) 34 (.tmp 9) rfl T9 rfl Tryd.underlying34 (m := 73) (by kernel_rfl) l9 ?_)
              refine (HSumW.out _ (hG.keep D3c)).mono ?_
              rintro e y4a ⟨rfl, g4a⟩
              have D4a := link D3c g4a
              obtain ⟨cap4, y4b, hcb4, g4b, hH4⟩ := to_bytes_has sw y4a
              rw [HSW.out] at hH4
              have D4b := link D4a g4b
              go_wp2_with fail
              refine (HOwnW.out y4a.heap.size cap4 y4b hH4 (hG.keep D4b)).mono ?_
              rintro e y4c ⟨rfl, g4c⟩
              have D4c := link D4b g4c
              have G4 := link g4a (link g4b g4c)
              clear hcb4 hH4 g4a g4b g4c D4a D4b
              go_wp2
              go_ret
              exact ⟨rfl, D4c⟩
    · have h1 : decide ((400 : Int) < (o.size : Int)) = true := by simp; omega
      have HB := Lib.hid hf
      clear hf
      go_enter Tryd.func4, Tryd.ntmps4
      go_wp2_with fail
      refine (sanity_any w hG).mono ?_
      rintro e w1 ⟨rfl, hB1⟩
      go_wp2_with fail
      refine (HF w1 (hp.keep hB1)).mono ?_
      rintro e w2 ⟨rfl, hB2⟩
      rw [HB.out]
      go_wp2
      go_ret
      exact ⟨rfl, link hB1 hB2⟩
  · have HB := Lib.hid (Bool.eq_false_iff.2 hf)
    clear hf
    go_enter Tryd.func4, Tryd.ntmps4
    go_wp2_with fail
    refine (sanity_any w hG).mono ?_
    rintro e w1 ⟨rfl, hB1⟩
    go_wp2_with fail
    refine (HF w1 (hp.keep hB1)).mono ?_
    rintro e w2 ⟨rfl, hB2⟩
    rw [HB.out]
    go_wp2
    go_ret
    exact ⟨rfl, link hB1 hB2⟩

namespace hashStreamsAgree
open Go.ChangeShapes Go.WideShapes Go.ChangeAt Go.RowKit

theorem contract (H : Type) (enc : TypeId × Value → H) (W : World) (base : Nat) (args : Array Value) (ds gs : List (DataW H)) (before : List MemPlace)
    (hval : ∀ (j : Nat) t v, Tryd.f4.params[j]? = some t → args[j]? = some v → Value.okWide Tryd.prog W .any base t v)
    (hW : DataW.Whole enc Tryd.prog Tryd.f4.params.toList Rows.hashStreamsAgreeSpec.vars false W args.toList ds gs before) (hL : laidMetH Tryd.prog Rows.hashStreamsAgreeRow.laid W) :
    Calls Tryd.prog 4 args W fun e W' => ∃ v, e = .returned v ∧ Rows.hashStreamsAgreeSpec.post enc Tryd.prog Tryd.f4 false true false false W args v W' := by
  have hW' := hW
  obtain ⟨p, q, hA0, hV, rfl, hfz, hnd⟩ := hW
  have hA : DataW.TrodAll enc Tryd.prog W 0 (fun _ => true) true Tryd.f4.params.toList args.toList ds p := hA0
  rw [Tryd.params4] at hA hval
  obtain ⟨v0, v1, v2, d0, d1, d2, p0, p1, p2, rfl, rfl, rfl, h0, h1, h2⟩ := trodAll_three hA
  obtain ⟨rfl, rfl⟩ := trodVars_none hV
  obtain ⟨b, rfl, rfl, rfl, w1⟩ := Go.ChangeMaps.open_string Tryd.underlying9 (hval 1 9 v1 rfl rfl) h1
  obtain ⟨z, rfl, rfl, rfl, w2⟩ := open_int Tryd.underlying5 (hval 2 5 v2 rfl rfl) h2
  have hwf2 := w2
  simp [Lit.wf, IntKind.min, IntKind.max, IntKind.signed, IntKind.bits] at hwf2
  obtain ⟨zn, rfl⟩ : ∃ m : Nat, z = (m : Int) := ⟨z.toNat, by omega⟩
  clear hA0
  simp only [List.append_nil] at hW'
  have hlt0 : ∀ x ∈ p0, x.block < W.heap.size := fun x hx => by simpa using hW'.lt x (by simp [hx])
  obtain ⟨A, n0, c0, l0, rfl, hn0, hcap0, hr0, hst0, _⟩ := open_textsV (hval 0 27 v0 rfl rfl) h0 hlt0
  obtain ⟨hR, hG⟩ := glob3_of hL
  refine (streams_any A l0 b zn (by omega) n0 c0 W hn0 hcap0 hr0 hG hR).mono fun e W' ⟨he, hB⟩ => ?_
  subst he
  refine ⟨_, rfl, _, _, _, [], p0 ++ ([] ++ []), [], hW', ?_, ?_, rfl, hB.frame _, fun h => by cases h⟩
  · exact trodAll_mk1 (shut_bool Tryd.underlying4 _)
  · exact trodAll_mk3 (Below.trod laidOut (by kernel_rfl) (of_decide_eq_true (by kernel_rfl)) h0 hB hlt0) (Go.ChangeMaps.shut_string Tryd.underlying9 w1) (shut_int Tryd.underlying5 w2)

theorem laid_met (os : Os) : laidMet Tryd.prog Rows.hashStreamsAgreeRow.laid ((laidWorld3 os).forCall (fun _ _ => 0) ⟨#[], #[.slice none 0 0, .string ByteArray.empty, .int .u8 0], []⟩).memory :=
  laidMet_of_run' 8 (by kernel_rfl) (by kernel_rfl)
theorem reads (os : Os) {H : Type} (enc : TypeId × Value → H) : ∃ ds places, DataW.whole enc Tryd.prog ((laidWorld3 os).forCall (fun _ _ => 0) ⟨#[], #[.slice none 0 0, .string ByteArray.empty, .int .u8 0], []⟩).memory Tryd.f4.params.toList Rows.hashStreamsAgreeSpec.vars false (#[.slice none 0 0, .string ByteArray.empty, .int .u8 0] : Array Value).toList 8 = some (ds, [], places) :=
  ⟨[.nil, .lit (.string []), .lit (.int .u8 0)], [], by kernel_rfl⟩

set_option maxRecDepth 100000 in
theorem lifted (os : Os) (started : os.Started) (H : Type) (enc : TypeId × Value → H) (F : Stop.Interp) :
    ReturnsInHanded {} Tryd.checked os 4 .any ((OpenSpec.ofChange Rows.hashStreamsAgreeSpec).preRow enc Tryd.prog Tryd.f4 Rows.hashStreamsAgreeRow.domain false Rows.hashStreamsAgreeRow.laid) (((OpenSpec.ofChange Rows.hashStreamsAgreeSpec).at F).post enc Tryd.prog Tryd.f4 false true false false) := by
  obtain ⟨ds, places, hx⟩ := reads os enc
  refine returnsInHanded_of_row (C := Tryd.checked) (s := OpenSpec.ofChange Rows.hashStreamsAgreeSpec) own started (by kernel_rfl) Tryd.func4
    (witness_row_at (enc := enc) (C := Tryd.checked) false (laidWorld3 os) #[.slice none 0 0, .string ByteArray.empty, .int .u8 0] rfl (by kernel_rfl) (by kernel_rfl) (by kernel_rfl)
      (OpenSpec.preRow_of_cond 8 hx (by kernel_rfl) (fun k hk => by cases hk) (by kernel_rfl) (laid_met os))) ?_
  intro W base args ds gs before hval hW _ _ _ hL _ _
  exact contract H enc W base args ds gs before hval hW hL

theorem said : Rows.HashStreamsAgreeSaid :=
  OpenClaim.holds_of_cond 4 Tryd.f4 rfl rfl rfl rfl rfl rfl rfl ⟨rfl, rfl, rfl, rfl, rfl⟩ rfl rfl rfl rfl rfl (by kernel_rfl) Tryd.func4 (by kernel_rfl)
    (of_decide_eq_true (by kernel_rfl)) (by unfold Func.isWrapper; first | (rw [if_pos (by decide +kernel)]; kernel_rfl) | (rw [if_neg (by decide +kernel)]; exact ⟨rfl, rfl⟩))
    (fun os started H enc _ F => by rw [OpenClaim.pre_eq_preRow]; exact lifted os started H enc F)

theorem plain (f : FuncId) (fn : Func) (hf : Tryd.pinned.checked.prog.funcNamed "passim/passimlaw02.HashStreamsAgree" = some f) (hfn : Tryd.pinned.checked.prog.funcs[f]? = some fn) :
    false = Tryd.pinned.checked.prog.looks [] ∧ ∀ (j : Nat) t, fn.params[j]? = some t → Tryd.pinned.checked.prog.wantsStandIn t = false := by
  obtain rfl : f = 4 := Option.some.inj ((show Tryd.prog.funcNamed "passim/passimlaw02.HashStreamsAgree" = some 4 by kernel_rfl).symm.trans hf) |>.symm
  obtain rfl : fn = Tryd.f4 := (Option.some.inj (Tryd.func4.symm.trans hfn)).symm
  refine ⟨by kernel_rfl, fun j t ht => ?_⟩
  rw [Tryd.params4] at ht
  have hm := Array.mem_of_getElem? ht
  simp at hm
  rcases hm with rfl | rfl | rfl
  all_goals first | exact (show Tryd.prog.wantsStandIn 27 = false by kernel_rfl) | exact (show Tryd.prog.wantsStandIn 9 = false by kernel_rfl) | exact (show Tryd.prog.wantsStandIn 5 = false by kernel_rfl)

theorem proved : Rows.HashStreamsAgreeCardSaid :=
  Claim7.holds_tied_plain_at .later [] _ _ _ _ said (fun _ h => by cases h) (by kernel_rfl) (fun _ h => by cases h) hashStreamsAgree_row_tie rfl ⟨rfl, rfl⟩ (by kernel_rfl) rfl plain (by kernel_rfl)
#print axioms proved
end hashStreamsAgree

end Go.Proofs.YtgmlphfoadeboaaDoor
