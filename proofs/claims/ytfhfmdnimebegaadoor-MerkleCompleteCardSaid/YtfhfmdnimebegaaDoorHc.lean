/-
  hash.compress returns the hash value after one more block.
-/
import Derived.Test.YtfhfmdnimebegaaDoorHs
import Derived.Deep.Cut
namespace Go.Proofs.YtfhfmdnimebegaaDoor
set_option linter.unusedVariables false
set_option linter.unusedSimpArgs false
open Go.RowKit

def stL (s : St) : List (BitVec 32) := [s.a, s.b, s.c, s.d, s.e, s.f, s.g, s.h]
/-- The package's tables lie where they were laid. -/
def Glob (w : World) : Prop := w.rangeAt 2 0 (wordsV kk) ∧ w.rangeAt 1 0 (wordsV (stL st0)) ∧ 2 < w.heap.size ∧ 1 < w.heap.size
theorem Glob.keep {w w' : World} (h : Glob w) (hb : Below w.heap.size w w') : Glob w' :=
  ⟨fun j v hj => (hb.cell (p := ⟨_, _, none⟩) h.2.2.1).trans (h.1 j v hj), fun j v hj => (hb.cell (p := ⟨_, _, none⟩) h.2.2.2).trans (h.2.1 j v hj), Nat.lt_of_lt_of_le h.2.2.1 hb.size, Nat.lt_of_lt_of_le h.2.2.2 hb.size⟩
theorem words_get {l : List (BitVec 32)} {k : Nat} (h : k < l.length) : (wordsV l)[k]? = some (.int .u32 (u (l.getD k 0))) := by
  unfold wordsV
  rw [List.getElem?_map, List.getElem?_eq_getElem h]
  simp [wordV, h]
theorem kk_length : kk.length = 64 := by decide +kernel
theorem Glob.round {w : World} (h : Glob w) (k : Nat) (hk : k < 64) : w.cell? ⟨2, k, none⟩ = some (.int .u32 (u (kk.getD k 0))) := by
  have := h.1 k _ (words_get (by rw [kk_length]; exact hk))
  rwa [Nat.zero_add] at this

theorem rotq2 (x : BitVec 32) (w : World) : Calls Tryd.prog 84 #[.int .u32 (u x), .int .i64 (-2)] w fun e w' => e = .returned (.int .u32 (u (rot x 2))) ∧ w' = w := (rotl2 x w).mono fun _ _ h => ⟨h.1, h.2.symm⟩
theorem rotq6 (x : BitVec 32) (w : World) : Calls Tryd.prog 84 #[.int .u32 (u x), .int .i64 (-6)] w fun e w' => e = .returned (.int .u32 (u (rot x 6))) ∧ w' = w := (rotl6 x w).mono fun _ _ h => ⟨h.1, h.2.symm⟩
theorem rotq7 (x : BitVec 32) (w : World) : Calls Tryd.prog 84 #[.int .u32 (u x), .int .i64 (-7)] w fun e w' => e = .returned (.int .u32 (u (rot x 7))) ∧ w' = w := (rotl7 x w).mono fun _ _ h => ⟨h.1, h.2.symm⟩
theorem rotq11 (x : BitVec 32) (w : World) : Calls Tryd.prog 84 #[.int .u32 (u x), .int .i64 (-11)] w fun e w' => e = .returned (.int .u32 (u (rot x 11))) ∧ w' = w := (rotl11 x w).mono fun _ _ h => ⟨h.1, h.2.symm⟩
theorem rotq13 (x : BitVec 32) (w : World) : Calls Tryd.prog 84 #[.int .u32 (u x), .int .i64 (-13)] w fun e w' => e = .returned (.int .u32 (u (rot x 13))) ∧ w' = w := (rotl13 x w).mono fun _ _ h => ⟨h.1, h.2.symm⟩
theorem rotq17 (x : BitVec 32) (w : World) : Calls Tryd.prog 84 #[.int .u32 (u x), .int .i64 (-17)] w fun e w' => e = .returned (.int .u32 (u (rot x 17))) ∧ w' = w := (rotl17 x w).mono fun _ _ h => ⟨h.1, h.2.symm⟩
theorem rotq18 (x : BitVec 32) (w : World) : Calls Tryd.prog 84 #[.int .u32 (u x), .int .i64 (-18)] w fun e w' => e = .returned (.int .u32 (u (rot x 18))) ∧ w' = w := (rotl18 x w).mono fun _ _ h => ⟨h.1, h.2.symm⟩
theorem rotq19 (x : BitVec 32) (w : World) : Calls Tryd.prog 84 #[.int .u32 (u x), .int .i64 (-19)] w fun e w' => e = .returned (.int .u32 (u (rot x 19))) ∧ w' = w := (rotl19 x w).mono fun _ _ h => ⟨h.1, h.2.symm⟩
theorem rotq22 (x : BitVec 32) (w : World) : Calls Tryd.prog 84 #[.int .u32 (u x), .int .i64 (-22)] w fun e w' => e = .returned (.int .u32 (u (rot x 22))) ∧ w' = w := (rotl22 x w).mono fun _ _ h => ⟨h.1, h.2.symm⟩
theorem rotq25 (x : BitVec 32) (w : World) : Calls Tryd.prog 84 #[.int .u32 (u x), .int .i64 (-25)] w fun e w' => e = .returned (.int .u32 (u (rot x 25))) ∧ w' = w := (rotl25 x w).mono fun _ _ h => ⟨h.1, h.2.symm⟩

theorem not_raw (x : BitVec 32) : bits BinOp.xor IntKind.u32 (if IntKind.u32.signed = true then -1 else IntKind.u32.max) (u x) = u (~~~x) := by
  have h : (if IntKind.u32.signed = true then -1 else IntKind.u32.max) = u (BitVec.allOnes 32) := by decide
  rw [h, u_xor, BitVec.allOnes_xor]
theorem add5 (a b c d e : BitVec 32) : (u a + u b + u c + u d + u e) % 4294967296 = u (a + b + c + d + e) := by
  rw [← add_u (a + b + c + d) e, ← add_u (a + b + c) d, ← add_u (a + b) c, ← add_u a b]
  omega
theorem x_raw (a b c d e f g h k x : BitVec 32) :
    (u h + bits BinOp.xor IntKind.u32 (bits BinOp.xor IntKind.u32 (u (rot e 6)) (u (rot e 11))) (u (rot e 25)) +
      bits BinOp.xor IntKind.u32 (bits BinOp.and IntKind.u32 (u e) (u f)) (bits BinOp.and IntKind.u32 (bits BinOp.xor IntKind.u32 (if IntKind.u32.signed = true then -1 else IntKind.u32.max) (u e)) (u g)) + u k + u x) % 4294967296 =
      u (rx ⟨a, b, c, d, e, f, g, h⟩ k x) := by
  rw [not_raw, u_xor, u_xor, u_and, u_and, u_xor, add5]
  rfl
theorem y_raw (a b c d e f g h : BitVec 32) :
    (bits BinOp.xor IntKind.u32 (bits BinOp.xor IntKind.u32 (u (rot a 2)) (u (rot a 13))) (u (rot a 22)) +
      bits BinOp.xor IntKind.u32 (bits BinOp.xor IntKind.u32 (bits BinOp.and IntKind.u32 (u a) (u b)) (bits BinOp.and IntKind.u32 (u a) (u c))) (bits BinOp.and IntKind.u32 (u b) (u c))) % 4294967296 =
      u (ry ⟨a, b, c, d, e, f, g, h⟩) := by
  rw [u_xor, u_xor, u_and, u_and, u_and, u_xor, u_xor, add_u]
  rfl

set_option maxHeartbeats 4000000 in
set_option maxRecDepth 100000 in
theorem compress_any (s : St) (b : List Nat) (hb : Byts b) (w : World) (hG : Glob w) :
    Calls Tryd.prog 80 #[.agg (wordsV (stL s)).toArray, .agg (bytesV b).toArray] w fun e w' => e = .returned (.agg (wordsV (stL (comp s b))).toArray) ∧ Below w.heap.size w w' := by
  have hbl : (bytesV b).length = 64 := by rw [bytesV_length]; exact hb.1
  obtain ⟨sa, sb', sc, sd, se, sf, sg, sh⟩ := s
  go_enter Tryd.func80, Tryd.ntmps80
  go_upto_region 1 with (fail)
  generalize hw0 : World.alloc _ _ = W0
  have H0 : Blk W0 w.heap.size 119 (wordsV [sa, sb', sc, sd, se, sf, sg, sh]) := hw0 ▸ ((blk_new w _ _).alloc _).alloc _
  have H1 : Blk W0 (w.heap.size + 1) 120 (bytesV b) := hw0 ▸ (blk_new1 w _ _ _).alloc _
  have H2 : Blk W0 (w.heap.size + 1 + 1) 119 (List.replicate 8 (wordV 0)) := hw0 ▸ blk_new2 w _ _ _ _
  have hB0 : Below w.heap.size w W0 := hw0 ▸ (((Below.refl _ _).alloc (Nat.le_refl _) _).alloc (by simp) _).alloc (by simp; omega) _
  have hz0 : w.heap.size + 2 < W0.heap.size := by rw [← hw0]; simp
  clear hw0
  go_upto_region 2 with (first | (refine load_blk rfl 120 (.tmp 3) rfl H1 rfl Tryd.underlying120 (m := 64) (by kernel_rfl) hbl ?_) | (go_at_call 83; refine (schedule_any b hb _).mono ?_; rintro e w1 ⟨rfl, hB1⟩) | (refine store_blk rfl 129 (.tmp 5) (.tmp 20) rfl (blk_new w1 _ _) rfl rfl (m := 64) (by kernel_rfl) (by rw [wordsV_length, sched_length]) rfl (fun v hv => by obtain ⟨y, _, rfl⟩ := List.mem_map.1 hv; rfl) ?_; intro w2 H5 hO))
  have hs1 := hB1.size
  have K0 : Blk w2 w.heap.size 119 (wordsV [sa, sb', sc, sd, se, sf, sg, sh]) := hO.2.1 _ _ _ (by omega) ((H0.keep hB1).alloc _)
  have K2 : Blk w2 (w.heap.size + 1 + 1) 119 (List.replicate 8 (wordV 0)) := hO.2.1 _ _ _ (by omega) ((H2.keep hB1).alloc _)
  have KB : Below w.heap.size w w2 := hO.2.2 _ _ (by omega) ((hB0.trans (hB1.mono (by omega))).alloc (by omega) _)
  have KG := hG.keep KB
  have hb5 : w.heap.size + 2 < w1.heap.size := by omega
  clear H0 H1 H2 hB0 hB1 hO hG hs1 hz0
  generalize w1.heap.size = B5 at *
  have a0 : w2.cell? ⟨w.heap.size, 0, none⟩ = some (.int .u32 (u sa)) := K0.cell rfl
  have a1 : w2.cell? ⟨w.heap.size, 1, none⟩ = some (.int .u32 (u sb')) := K0.cell rfl
  have a2 : w2.cell? ⟨w.heap.size, 2, none⟩ = some (.int .u32 (u sc)) := K0.cell rfl
  have a3 : w2.cell? ⟨w.heap.size, 3, none⟩ = some (.int .u32 (u sd)) := K0.cell rfl
  have a4 : w2.cell? ⟨w.heap.size, 4, none⟩ = some (.int .u32 (u se)) := K0.cell rfl
  have a5 : w2.cell? ⟨w.heap.size, 5, none⟩ = some (.int .u32 (u sf)) := K0.cell rfl
  have a6 : w2.cell? ⟨w.heap.size, 6, none⟩ = some (.int .u32 (u sg)) := K0.cell rfl
  have a7 : w2.cell? ⟨w.heap.size, 7, none⟩ = some (.int .u32 (u sh)) := K0.cell rfl
  go_quiet (fail)
  clear a0 a1 a2 a3 a4 a5 a6 a7
  replace K0 := K0.drewN nq
  replace K2 := K2.drewN nq
  replace H5 := H5.drewN nq
  replace KB := below_drewN KB nq
  replace KG : Glob (w2.drewN nq) := KG
  generalize w2.drewN nq = w4 at *
  go_wp2
  go_loopw [6, 7, 8, 9, 10, 11, 12, 13, 37] (fun va vb vc vd ve vf vg vh i wr => ∃ k : Nat, k ≤ 64 ∧ i = .int .i64 k ∧ ∃ ra rb rc rd re rf rg rh, Hid ((⟨ra, rb, rc, rd, re, rf, rg, rh⟩ : St) = rnds kk (sched b 64) ⟨sa, sb', sc, sd, se, sf, sg, sh⟩ k) ∧ va = .int .u32 (u ra) ∧ vb = .int .u32 (u rb) ∧ vc = .int .u32 (u rc) ∧ vd = .int .u32 (u rd) ∧ ve = .int .u32 (u re) ∧ vf = .int .u32 (u rf) ∧ vg = .int .u32 (u rg) ∧ vh = .int .u32 (u rh) ∧
    Blk wr w.heap.size 119 (wordsV [sa, sb', sc, sd, se, sf, sg, sh]) ∧ Blk wr (w.heap.size + 1 + 1) 119 (List.replicate 8 (wordV 0)) ∧ Blk wr B5 129 (wordsV (sched b 64)) ∧ Glob wr ∧ Below w.heap.size w wr) (fun _ _ _ _ _ _ _ _ i _ => 64 - (intOf i).toNat)
  case atStart => exact ⟨0, by omega, rfl, sa, sb', sc, sd, se, sf, sg, sh, Lib.hid rfl, rfl, rfl, rfl, rfl, rfl, rfl, rfl, rfl, K0, K2, H5, KG, KB⟩
  case round =>
    clear K0 K2 H5 KG KB
    obtain ⟨k, hk, rfl, ra, rb, rc, rd, re, rf, rg, rh, HR, rfl, rfl, rfl, rfl, rfl, rfl, rfl, rfl, K0, K2, H5, KG, KB⟩ := hrel
    by_cases h64 : k < 64
    · have ck := KG.round k h64
      have cw : wr.cell? ⟨B5, k, none⟩ = some (.int .u32 (u ((sched b 64).getD k 0))) := H5.cell (words_get (by rw [sched_length]; exact h64))
      have HN : Hid (rnd ⟨ra, rb, rc, rd, re, rf, rg, rh⟩ (kk.getD k 0) ((sched b 64).getD k 0) = rnds kk (sched b 64) ⟨sa, sb', sc, sd, se, sf, sg, sh⟩ (k + 1)) := by
        have e : rnd ⟨ra, rb, rc, rd, re, rf, rg, rh⟩ (kk.getD k 0) ((sched b 64).getD k 0) = rnds kk (sched b 64) ⟨sa, sb', sc, sd, se, sf, sg, sh⟩ (k + 1) := by
          rw [rnds, ← HR.out]
        exact Lib.hid e
      generalize kk.getD k 0 = xk at ck HN
      generalize (sched b 64).getD k 0 = xw at cw HN
      clear HR
      go_upto_region 6 with (fail)
      go_quiet ((first | (go_at_call 84; with_reducible exact Calls.quiet_of_same (rotq6 re _)) | (go_at_call 84; with_reducible exact Calls.quiet_of_same (rotq11 re _)) | (go_at_call 84; with_reducible exact Calls.quiet_of_same (rotq25 re _))))
      generalize hwq : wr.drewN nq = wq
      replace K0 : Blk wq _ _ _ := hwq ▸ K0.drewN nq
      replace K2 : Blk wq _ _ _ := hwq ▸ K2.drewN nq
      replace H5 : Blk wq _ _ _ := hwq ▸ H5.drewN nq
      replace KB : Below w.heap.size w wq := hwq ▸ below_drewN KB nq
      replace KG : Glob wq := hwq ▸ KG
      clear ck cw hwq
      go_wp2_with (first | (go_at_call 84; (with_reducible refine (rotl2 ra _).mono ?_); rintro e w3 ⟨rfl, rfl⟩) | (go_at_call 84; (with_reducible refine (rotl13 ra _).mono ?_); rintro e w3 ⟨rfl, rfl⟩) | (go_at_call 84; (with_reducible refine (rotl22 ra _).mono ?_); rintro e w3 ⟨rfl, rfl⟩))
      go_roundw
      case rel =>
        have hx := x_raw ra rb rc rd re rf rg rh xk xw
        have hy := y_raw ra rb rc rd re rf rg rh
        exact ⟨k + 1, by omega, by go_num, rx ⟨ra, rb, rc, rd, re, rf, rg, rh⟩ xk xw + ry ⟨ra, rb, rc, rd, re, rf, rg, rh⟩, ra, rb, rc, rd + rx ⟨ra, rb, rc, rd, re, rf, rg, rh⟩ xk xw, re, rf, rg, HN, by rw [hx, hy, add_u], rfl, rfl, rfl, by rw [hx, add_u], rfl, rfl, rfl, K0, K2, H5, KG, KB⟩
      case measure => simp [intOf]; omega
    · obtain rfl : k = 64 := by omega
      clear H5 KG
      go_wp2
      go_loopw [109] (fun i wz => ∃ j : Nat, j ≤ 8 ∧ i = .int .i64 j ∧ Blk wz w.heap.size 119 (wordsV ([sa + ra, sb' + rb, sc + rc, sd + rd, se + re, sf + rf, sg + rg, sh + rh].take j ++ [sa, sb', sc, sd, se, sf, sg, sh].drop j)) ∧ Blk wz (w.heap.size + 1 + 1) 119 (List.replicate 8 (wordV 0)) ∧ Below w.heap.size w wz) (fun i _ => 8 - (intOf i).toNat)
      case atStart => exact ⟨0, by omega, rfl, K0, K2, KB⟩
      case round =>
        clear K0 K2 KB
        obtain ⟨j, hj, rfl, M0, M2, MB⟩ := hrel
        obtain rfl | rfl | rfl | rfl | rfl | rfl | rfl | rfl | rfl : j = 0 ∨ j = 1 ∨ j = 2 ∨ j = 3 ∨ j = 4 ∨ j = 5 ∨ j = 6 ∨ j = 7 ∨ j = 8 := by omega
        · have c0 : wr.cell? ⟨w.heap.size, 0, none⟩ = some (.int .u32 (u sa)) := M0.cell rfl
          have f0 := M0.free 0
          have i0 : ∀ w' : World, (Instr.index 119 (.agg #[.int .u32 (u ra), .int .u32 (u rb), .int .u32 (u rc), .int .u32 (u rd), .int .u32 (u re), .int .u32 (u rf), .int .u32 (u rg), .int .u32 (u rh)]) (.int .i64 0)).run Tryd.prog w' = .ok (.int .u32 (u ra)) w' := fun _ => rfl
          have hr := add_u sa ra
          go_wp2
          go_roundw
          case rel => exact ⟨1, by omega, rfl, M0.set 0 (.int .u32 (u (sa + ra))), M2.other (by simp; omega) _, MB.setCell (by simp) _⟩
          case measure => simp [intOf]
        · have c0 : wr.cell? ⟨w.heap.size, 1, none⟩ = some (.int .u32 (u sb')) := M0.cell rfl
          have f0 := M0.free 1
          have i0 : ∀ w' : World, (Instr.index 119 (.agg #[.int .u32 (u ra), .int .u32 (u rb), .int .u32 (u rc), .int .u32 (u rd), .int .u32 (u re), .int .u32 (u rf), .int .u32 (u rg), .int .u32 (u rh)]) (.int .i64 1)).run Tryd.prog w' = .ok (.int .u32 (u rb)) w' := fun _ => rfl
          have hr := add_u sb' rb
          go_wp2
          go_roundw
          case rel => exact ⟨2, by omega, rfl, M0.set 1 (.int .u32 (u (sb' + rb))), M2.other (by simp; omega) _, MB.setCell (by simp) _⟩
          case measure => simp [intOf]
        · have c0 : wr.cell? ⟨w.heap.size, 2, none⟩ = some (.int .u32 (u sc)) := M0.cell rfl
          have f0 := M0.free 2
          have i0 : ∀ w' : World, (Instr.index 119 (.agg #[.int .u32 (u ra), .int .u32 (u rb), .int .u32 (u rc), .int .u32 (u rd), .int .u32 (u re), .int .u32 (u rf), .int .u32 (u rg), .int .u32 (u rh)]) (.int .i64 2)).run Tryd.prog w' = .ok (.int .u32 (u rc)) w' := fun _ => rfl
          have hr := add_u sc rc
          go_wp2
          go_roundw
          case rel => exact ⟨3, by omega, rfl, M0.set 2 (.int .u32 (u (sc + rc))), M2.other (by simp; omega) _, MB.setCell (by simp) _⟩
          case measure => simp [intOf]
        · have c0 : wr.cell? ⟨w.heap.size, 3, none⟩ = some (.int .u32 (u sd)) := M0.cell rfl
          have f0 := M0.free 3
          have i0 : ∀ w' : World, (Instr.index 119 (.agg #[.int .u32 (u ra), .int .u32 (u rb), .int .u32 (u rc), .int .u32 (u rd), .int .u32 (u re), .int .u32 (u rf), .int .u32 (u rg), .int .u32 (u rh)]) (.int .i64 3)).run Tryd.prog w' = .ok (.int .u32 (u rd)) w' := fun _ => rfl
          have hr := add_u sd rd
          go_wp2
          go_roundw
          case rel => exact ⟨4, by omega, rfl, M0.set 3 (.int .u32 (u (sd + rd))), M2.other (by simp; omega) _, MB.setCell (by simp) _⟩
          case measure => simp [intOf]
        · have c0 : wr.cell? ⟨w.heap.size, 4, none⟩ = some (.int .u32 (u se)) := M0.cell rfl
          have f0 := M0.free 4
          have i0 : ∀ w' : World, (Instr.index 119 (.agg #[.int .u32 (u ra), .int .u32 (u rb), .int .u32 (u rc), .int .u32 (u rd), .int .u32 (u re), .int .u32 (u rf), .int .u32 (u rg), .int .u32 (u rh)]) (.int .i64 4)).run Tryd.prog w' = .ok (.int .u32 (u re)) w' := fun _ => rfl
          have hr := add_u se re
          go_wp2
          go_roundw
          case rel => exact ⟨5, by omega, rfl, M0.set 4 (.int .u32 (u (se + re))), M2.other (by simp; omega) _, MB.setCell (by simp) _⟩
          case measure => simp [intOf]
        · have c0 : wr.cell? ⟨w.heap.size, 5, none⟩ = some (.int .u32 (u sf)) := M0.cell rfl
          have f0 := M0.free 5
          have i0 : ∀ w' : World, (Instr.index 119 (.agg #[.int .u32 (u ra), .int .u32 (u rb), .int .u32 (u rc), .int .u32 (u rd), .int .u32 (u re), .int .u32 (u rf), .int .u32 (u rg), .int .u32 (u rh)]) (.int .i64 5)).run Tryd.prog w' = .ok (.int .u32 (u rf)) w' := fun _ => rfl
          have hr := add_u sf rf
          go_wp2
          go_roundw
          case rel => exact ⟨6, by omega, rfl, M0.set 5 (.int .u32 (u (sf + rf))), M2.other (by simp; omega) _, MB.setCell (by simp) _⟩
          case measure => simp [intOf]
        · have c0 : wr.cell? ⟨w.heap.size, 6, none⟩ = some (.int .u32 (u sg)) := M0.cell rfl
          have f0 := M0.free 6
          have i0 : ∀ w' : World, (Instr.index 119 (.agg #[.int .u32 (u ra), .int .u32 (u rb), .int .u32 (u rc), .int .u32 (u rd), .int .u32 (u re), .int .u32 (u rf), .int .u32 (u rg), .int .u32 (u rh)]) (.int .i64 6)).run Tryd.prog w' = .ok (.int .u32 (u rg)) w' := fun _ => rfl
          have hr := add_u sg rg
          go_wp2
          go_roundw
          case rel => exact ⟨7, by omega, rfl, M0.set 6 (.int .u32 (u (sg + rg))), M2.other (by simp; omega) _, MB.setCell (by simp) _⟩
          case measure => simp [intOf]
        · have c0 : wr.cell? ⟨w.heap.size, 7, none⟩ = some (.int .u32 (u sh)) := M0.cell rfl
          have f0 := M0.free 7
          have i0 : ∀ w' : World, (Instr.index 119 (.agg #[.int .u32 (u ra), .int .u32 (u rb), .int .u32 (u rc), .int .u32 (u rd), .int .u32 (u re), .int .u32 (u rf), .int .u32 (u rg), .int .u32 (u rh)]) (.int .i64 7)).run Tryd.prog w' = .ok (.int .u32 (u rh)) w' := fun _ => rfl
          have hr := add_u sh rh
          go_wp2
          go_roundw
          case rel => exact ⟨8, by omega, rfl, M0.set 7 (.int .u32 (u (sh + rh))), M2.other (by simp; omega) _, MB.setCell (by simp) _⟩
          case measure => simp [intOf]
        · have HV : Blk wr w.heap.size 119 (wordsV [sa + ra, sb' + rb, sc + rc, sd + rd, se + re, sf + rf, sg + rg, sh + rh]) := M0
          have he : stL (comp ⟨sa, sb', sc, sd, se, sf, sg, sh⟩ b) = [sa + ra, sb' + rb, sc + rc, sd + rd, se + re, sf + rf, sg + rg, sh + rh] := by
            unfold comp
            rw [← HR.out]
            rfl
          clear M0 HR
          go_wp2_with (first | (refine load_blk rfl 119 (.tmp 2) rfl HV rfl Tryd.underlying119 (m := 8) (by kernel_rfl) rfl ?_) | (refine store_blk rfl 119 (.tmp 4) (.tmp 120) rfl M2 rfl rfl (m := 8) (by kernel_rfl) rfl (by simp) (fun v hv => by obtain ⟨y, _, rfl⟩ := List.mem_map.1 hv; rfl) ?_))
          intro w5 hb5' ho'
          go_wp2
          rw [← he] at hb5'
          exact bodyPost_ret (v := .agg (wordsV (stL (comp ⟨sa, sb', sc, sd, se, sf, sg, sh⟩ b))).toArray) (hb5'.result (p := 4) (ty := 119) rfl _ rfl Tryd.underlying119 (by kernel_rfl)) rfl ⟨rfl, ho'.2.2 _ _ (by omega) MB⟩

end Go.Proofs.YtfhfmdnimebegaaDoor
