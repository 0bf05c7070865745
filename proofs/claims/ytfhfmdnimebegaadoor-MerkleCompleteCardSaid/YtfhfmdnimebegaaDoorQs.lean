/-
  passimref02.Sum returns the hash of the bytes.
-/
import Derived.Test.YtfhfmdnimebegaaDoorQw
import Derived.Test.YtfhfmdnimebegaaDoorQp
import Derived.Deep.RegionLaw
namespace Go.Proofs.YtfhfmdnimebegaaDoor
set_option linter.unusedVariables false
set_option linter.unusedSimpArgs false
open Go.RowKit

/-- The specification's table lies where it was laid. -/
def GlobR (w : World) : Prop := w.rangeAt 0 0 (wordsV kk) ∧ 0 < w.heap.size
theorem GlobR.keep {w w' : World} (h : GlobR w) (hb : Below w.heap.size w w') : GlobR w' :=
  ⟨fun j v hj => (hb.cell (p := ⟨_, _, none⟩) h.2).trans (h.1 j v hj), Nat.lt_of_lt_of_le h.2 hb.size⟩
theorem GlobR.round {w : World} (h : GlobR w) (k : Nat) (hk : k < 64) : w.cell? ⟨0, k, none⟩ = some (.int .u32 (u (kk.getD k 0))) := by
  have := h.1 k _ (words_get (by rw [kk_length]; exact hk))
  rwa [Nat.zero_add] at this
theorem pad_byte (l : List Nat) (h : ∀ y ∈ l, y < 256) : ∀ y ∈ pad l, y < 256 := by
  intro y hy
  rcases List.mem_append.1 hy with h1 | h1
  · exact h y h1
  · exact tail_byte _ y h1
theorem wordsV_cells (l : List (BitVec 32)) : ∀ v ∈ wordsV l, v.oneCell' = true := fun v hv => by obtain ⟨y, _, rfl⟩ := List.mem_map.1 hv; rfl
theorem blk_bytes (l : List Nat) (hb : ∀ y ∈ l, y < 256) (p : Nat) (h : p + 64 ≤ l.length) : Byts ((l.drop p).take 64) :=
  ⟨by rw [List.length_take, List.length_drop]; omega, fun y hy => hb y (List.mem_of_mem_drop (List.mem_of_mem_take hy))⟩
theorem x_rawR (a b c d e f g h k x : BitVec 32) :
    (u h + bits BinOp.xor IntKind.u32 (bits BinOp.xor IntKind.u32 (u (rot e 6)) (u (rot e 11))) (u (rot e 25)) +
      bits BinOp.xor IntKind.u32 (bits BinOp.and IntKind.u32 (u e) (u f)) (bits BinOp.and IntKind.u32 (bits BinOp.xor IntKind.u32 (u e) 4294967295) (u g)) + u k + u x) % 4294967296 =
      u (rx ⟨a, b, c, d, e, f, g, h⟩ k x) := by
  have hn : bits BinOp.xor IntKind.u32 (u e) 4294967295 = u (~~~e) := by
    have h1 : (4294967295 : Int) = u (BitVec.allOnes 32) := by decide
    rw [h1, u_xor, BitVec.xor_allOnes]
  rw [hn, u_xor, u_xor, u_and, u_and, u_xor, add5]
  rfl
theorem has_of_blk {w : World} {g : Nat} {t : TypeId} {cs : List Value} {l : List Nat} (h : Blk w g t cs) (hc : cs.take l.length = bytesV l) (hb : ∀ y ∈ l, y < 256) (p k : Nat) : Has w (some ⟨g, p, none⟩) ((l.drop p).take k) := by
  refine ⟨fun j v hj => ⟨_, rfl, h.lt, ?_⟩, fun y hy => hb y (List.mem_of_mem_drop (List.mem_of_mem_take hy))⟩
  rw [Addr.add_mid]
  apply h.cell
  have h1 : (bytesV l)[p + j]? = some v := by
    unfold bytesV at hj ⊢
    rw [List.getElem?_map, List.getElem?_take] at hj
    split at hj
    · rw [List.getElem?_drop] at hj
      rw [List.getElem?_map]
      exact hj
    · cases hj
  rw [← hc, List.getElem?_take] at h1
  split at h1
  · exact h1
  · cases h1
/-- What holds at each round's head: k blocks have been taken in. -/
def RsRel (w : World) (g : Nat) (cs : List Value) (m : List Nat) (k : Nat) (wr : World) : Prop :=
  Blk wr w.heap.size 114 (bytesV z32) ∧ Blk wr (w.heap.size + 1) 119 (wordsV (stL (hst m k))) ∧ Blk wr g 5 cs ∧ GlobR wr ∧ Below w.heap.size w wr
def RoRel (w : World) (s : St) (b6 : Nat) (v : Value) (wr : World) : Prop :=
  ∃ i : Nat, i ≤ 32 ∧ v = .int .i64 i ∧ Blk wr (w.heap.size + 1) 119 (wordsV (stL s)) ∧ Blk wr w.heap.size 114 (bytesV z32) ∧ Blk wr b6 114 (bytesV (outA s i)) ∧ Below w.heap.size w wr

set_option maxHeartbeats 4000000 in
set_option maxRecDepth 100000 in
theorem rsum_any (A : Option Addr) (l : List Nat) (n c : Nat) (w : World) (hn : n = l.length) (hl : l.length ≤ 1099511627776) (hr : Has w A l) (hG : GlobR w) :
    Calls Tryd.prog 69 #[.slice A n c] w fun e w' => e = .returned (.agg (bytesV (sha l)).toArray) ∧ Below w.heap.size w w' := by
  subst hn
  have hz2 := zero_32
  go_enter Tryd.func69, Tryd.ntmps69
  go_upto_region 2 with (fail)
  have hs0 : #[Value.int IntKind.u32 1779033703, Value.int IntKind.u32 3144134277, Value.int IntKind.u32 1013904242, Value.int IntKind.u32 2773480762, Value.int IntKind.u32 1359893119, Value.int IntKind.u32 2600822924, Value.int IntKind.u32 528734635, Value.int IntKind.u32 1541459225] = (wordsV (stL st0)).toArray := by kernel_rfl
  rw [hs0]
  clear hs0
  generalize hw0 : World.alloc _ _ = W0
  have K0 : Blk W0 w.heap.size 114 (bytesV z32) := hw0 ▸ ((blk_new w _ _).alloc _)
  have K1 : Blk W0 (w.heap.size + 1) 119 (wordsV (stL st0)) := hw0 ▸ (blk_new1 w _ _ (wordsV (stL st0)).toArray)
  have KB : Below w.heap.size w W0 := hw0 ▸ (((Below.refl _ _).alloc (Nat.le_refl _) _).alloc (by simp) _)
  clear hw0 hz2
  have hr0 := hr.keep KB
  obtain ⟨L, hL⟩ : ∃ L, (pad l).length = L := ⟨_, rfl⟩
  have hL64 : L % 64 = 0 := by rw [← hL]; exact pad_length l
  have hLl : L ≤ l.length + 73 := by have := zeros_lt l.length; rw [← hL]; unfold pad; rw [List.length_append, tail_length]; omega
  have HL := Lib.hid hL
  have hP := padded_any A l l.length c W0 rfl hl hr0
  go_wp2_with (go_at_call 77; refine hP.mono ?_; rintro e w1 ⟨g, cap, rfl, hO1⟩)
  have M0 := K0.keep hO1.below
  have M1 := K1.keep hO1.below
  have MB := KB.trans (hO1.below.mono KB.size)
  have MG := hG.keep MB
  obtain ⟨cs, M2, hcs, hcap, hgw⟩ : ∃ cs, Blk w1 g 5 cs ∧ cs.take (pad l).length = bytesV (pad l) ∧ L ≤ cap ∧ w.heap.size + 1 < g := by
    have hz1 := K1.lt
    rcases hO1.1.2 with ⟨e0, h0⟩ | ⟨g', cap', cur, hv, hg, hh, hnc, _, _, htk⟩
    · cases e0
    · cases hv
      exact ⟨cur.toList, by unfold Blk; simpa using hh, by simpa using htk, by rw [← hL]; exact hnc, by omega⟩
  clear K0 K1 KB hr0 hP hO1
  have hpb := pad_byte l hr.2
  have HPL := Lib.hid (show sha l = outB (hst (pad l) ((pad l).length / 64)) from rfl)
  rw [hL] at HPL hcs
  generalize pad l = m at *
  clear HL
  have HM := Lib.hid hL
  have HC := Lib.hid hcs
  have HB := Lib.hid hpb
  clear hL hcs hpb
  go_loopw [5] (fun i wr => ∃ k p : Nat, p = 64 * k ∧ p ≤ L ∧ i = .int .i64 p ∧ Hid (RsRel w g cs m k wr)) (fun i _ => L - (intOf i).toNat)
  case atStart => exact ⟨0, 0, rfl, by omega, rfl, Lib.hid ⟨M0, M1, M2, MG, MB⟩⟩
  case round =>
    clear M0 M1 M2 MG MB
    obtain ⟨k, p, hpk, hpL, rfl, hR⟩ := hrel
    obtain ⟨K0, K1, K2, KG, KB⟩ := hR.out
    clear hR
    by_cases hlt : p < L
    · have hp64 : p + 64 ≤ L := by omega
      have hbb : Byts ((m.drop p).take 64) := blk_bytes m HB.out p (by rw [HM.out]; exact hp64)
      have hh := has_of_blk K2 (by rw [HM.out]; exact HC.out) HB.out p 64
      have hst1 : hst m (k + 1) = comp (hst m k) ((m.drop p).take 64) := by rw [hst, hpk]
      generalize hbk : (m.drop p).take 64 = b at hbb hh hst1
      have HST := Lib.hid hst1
      have HPK := Lib.hid hpk
      clear hbk hst1 hpk
      obtain ⟨st, hste⟩ : ∃ x, hst m k = x := ⟨_, rfl⟩
      rw [hste] at K1
      have HSK := Lib.hid hste
      clear hste
      obtain ⟨sa, sb', sc, sd, se, sf, sg, sh⟩ := st
      go_upto_region 6 with (fail)
      have e64 : IntKind.i64.wrap ((p : Int) + 64) = ((p + 64 : Nat) : Int) := by rw [IntWalk.i64_in _ (by omega)]; omega
      have hcp : p + 64 ≤ cap := by omega
      have HWD := Lib.hid (fun c' => words_any ⟨g, p, none⟩ b hbb c' wr hh)
      clear hh
      go_upto_region 7 with (first | (go_at_call 78; refine (HWD.out _).mono ?_; rintro e w1 ⟨rfl, hB1⟩) | (refine store_blk rfl 129 (.tmp 6) (.tmp 34) rfl (blk_new w1 _ _) rfl rfl (m := 64) (by kernel_rfl) (by rw [wordsV_length, sched_length]) rfl (wordsV_cells _) ?_; intro w2 H5 hO))
      have hs1 := hB1.size
      have hb1 := K1.lt
      have hb2 := K2.lt
      have J0 := hO.2.1 _ _ _ (by omega) ((K0.keep hB1).alloc (.cells (List.replicate 64 (wordV 0)).toArray 129))
      have J1 := hO.2.1 _ _ _ (by omega) ((K1.keep hB1).alloc (.cells (List.replicate 64 (wordV 0)).toArray 129))
      have J2 := hO.2.1 _ _ _ (by omega) ((K2.keep hB1).alloc (.cells (List.replicate 64 (wordV 0)).toArray 129))
      have JB : Below w.heap.size w w2 := hO.2.2 _ _ (by omega) ((KB.trans (hB1.mono (by omega))).alloc (by omega) _)
      have JG := hG.keep JB
      have hb5 : w.heap.size + 1 < w1.heap.size := by omega
      have hg5 : g < w1.heap.size := by omega
      clear K0 K1 K2 KG KB hB1 hO hs1 hb1 hb2 HWD e64
      generalize w1.heap.size = B5 at *
      have a0 : w2.cell? ⟨w.heap.size + 1, 0, none⟩ = some (.int .u32 (u sa)) := J1.cell rfl
      have a1 : w2.cell? ⟨w.heap.size + 1, 1, none⟩ = some (.int .u32 (u sb')) := J1.cell rfl
      have a2 : w2.cell? ⟨w.heap.size + 1, 2, none⟩ = some (.int .u32 (u sc)) := J1.cell rfl
      have a3 : w2.cell? ⟨w.heap.size + 1, 3, none⟩ = some (.int .u32 (u sd)) := J1.cell rfl
      have a4 : w2.cell? ⟨w.heap.size + 1, 4, none⟩ = some (.int .u32 (u se)) := J1.cell rfl
      have a5 : w2.cell? ⟨w.heap.size + 1, 5, none⟩ = some (.int .u32 (u sf)) := J1.cell rfl
      have a6 : w2.cell? ⟨w.heap.size + 1, 6, none⟩ = some (.int .u32 (u sg)) := J1.cell rfl
      have a7 : w2.cell? ⟨w.heap.size + 1, 7, none⟩ = some (.int .u32 (u sh)) := J1.cell rfl
      go_quiet (fail)
      clear a0 a1 a2 a3 a4 a5 a6 a7
      replace J0 := J0.drewN nq
      replace J1 := J1.drewN nq
      replace J2 := J2.drewN nq
      replace H5 := H5.drewN nq
      replace JB := below_drewN JB nq
      replace JG : GlobR (w2.drewN nq) := JG
      generalize w2.drewN nq = w4 at *
      go_wp2
      go_loopw [7, 8, 9, 10, 11, 12, 13, 14, 15] (fun va vb vc vd ve vf vg vh i wr => ∃ k : Nat, k ≤ 64 ∧ i = .int .i64 k ∧ ∃ ra rb rc rd re rf rg rh, Hid ((⟨ra, rb, rc, rd, re, rf, rg, rh⟩ : St) = rnds kk (sched b 64) ⟨sa, sb', sc, sd, se, sf, sg, sh⟩ k) ∧ va = .int .u32 (u ra) ∧ vb = .int .u32 (u rb) ∧ vc = .int .u32 (u rc) ∧ vd = .int .u32 (u rd) ∧ ve = .int .u32 (u re) ∧ vf = .int .u32 (u rf) ∧ vg = .int .u32 (u rg) ∧ vh = .int .u32 (u rh) ∧
        Blk wr w.heap.size 114 (bytesV z32) ∧ Blk wr (w.heap.size + 1) 119 (wordsV (stL ⟨sa, sb', sc, sd, se, sf, sg, sh⟩)) ∧ Blk wr g 5 cs ∧ Blk wr B5 129 (wordsV (sched b 64)) ∧ GlobR wr ∧ Below w.heap.size w wr) (fun _ _ _ _ _ _ _ _ i _ => 64 - (intOf i).toNat)
      case atStart => exact ⟨0, by omega, rfl, sa, sb', sc, sd, se, sf, sg, sh, Lib.hid rfl, rfl, rfl, rfl, rfl, rfl, rfl, rfl, rfl, J0, J1, J2, H5, JG, JB⟩
      case round =>
        clear J0 J1 J2 H5 JG JB
        obtain ⟨q, hq, rfl, ra, rb, rc, rd, re, rf, rg, rh, HR, rfl, rfl, rfl, rfl, rfl, rfl, rfl, rfl, K0, K1, K2, H5, KG, KB⟩ := hrel
        by_cases h64 : q < 64
        · have ck := KG.round q h64
          have cw : wr.cell? ⟨B5, q, none⟩ = some (.int .u32 (u ((sched b 64).getD q 0))) := H5.cell (words_get (by rw [sched_length]; exact h64))
          have HN : Hid (rnd ⟨ra, rb, rc, rd, re, rf, rg, rh⟩ (kk.getD q 0) ((sched b 64).getD q 0) = rnds kk (sched b 64) ⟨sa, sb', sc, sd, se, sf, sg, sh⟩ (q + 1)) := by
            have e : rnd ⟨ra, rb, rc, rd, re, rf, rg, rh⟩ (kk.getD q 0) ((sched b 64).getD q 0) = rnds kk (sched b 64) ⟨sa, sb', sc, sd, se, sf, sg, sh⟩ (q + 1) := by
              rw [rnds, ← HR.out]
            exact Lib.hid e
          generalize kk.getD q 0 = xk at ck HN
          generalize (sched b 64).getD q 0 = xw at cw HN
          clear HR
          go_upto_region 11 with (fail)
          go_quiet ((first | (go_at_call 79; with_reducible exact Calls.quiet_of (rotr6 re _)) | (go_at_call 79; with_reducible exact Calls.quiet_of (rotr11 re _)) | (go_at_call 79; with_reducible exact Calls.quiet_of (rotr25 re _))))
          generalize hwq : wr.drewN nq = wq
          replace K0 : Blk wq _ _ _ := hwq ▸ K0.drewN nq
          replace K1 : Blk wq _ _ _ := hwq ▸ K1.drewN nq
          replace K2 : Blk wq _ _ _ := hwq ▸ K2.drewN nq
          replace H5 : Blk wq _ _ _ := hwq ▸ H5.drewN nq
          replace KB : Below w.heap.size w wq := hwq ▸ below_drewN KB nq
          replace KG : GlobR wq := hwq ▸ KG
          clear ck cw hwq
          go_wp2_with (first | (go_at_call 79; (with_reducible refine (rotr2 ra _).mono ?_); rintro e w3 ⟨rfl, q3, rfl⟩) | (go_at_call 79; (with_reducible refine (rotr13 ra _).mono ?_); rintro e w3 ⟨rfl, q3, rfl⟩) | (go_at_call 79; (with_reducible refine (rotr22 ra _).mono ?_); rintro e w3 ⟨rfl, q3, rfl⟩))
          go_roundw
          case rel =>
            have hx := x_rawR ra rb rc rd re rf rg rh xk xw
            have hy := y_raw ra rb rc rd re rf rg rh
            exact ⟨q + 1, by omega, by go_num, rx ⟨ra, rb, rc, rd, re, rf, rg, rh⟩ xk xw + ry ⟨ra, rb, rc, rd, re, rf, rg, rh⟩, ra, rb, rc, rd + rx ⟨ra, rb, rc, rd, re, rf, rg, rh⟩ xk xw, re, rf, rg, HN, by rw [hx, hy, add_u], rfl, rfl, rfl, by rw [hx, add_u], rfl, rfl, rfl, K0, K1, K2, H5, KG, below_drewN KB _⟩
          case measure => simp [intOf]; omega
        · obtain rfl : q = 64 := by omega
          have hcomp : hst m (k + 1) = ⟨sa + ra, sb' + rb, sc + rc, sd + rd, se + re, sf + rf, sg + rg, sh + rh⟩ := by
            rw [HST.out, HSK.out]
            unfold comp
            rw [← HR.out]
            rfl
          have HCP := Lib.hid hcomp
          clear hcomp HR H5 HST HSK
          have a0 : wr.cell? ⟨w.heap.size + 1, 0, none⟩ = some (.int .u32 (u sa)) := K1.cell rfl
          have a1 : wr.cell? ⟨w.heap.size + 1, 1, none⟩ = some (.int .u32 (u sb')) := K1.cell rfl
          have a2 : wr.cell? ⟨w.heap.size + 1, 2, none⟩ = some (.int .u32 (u sc)) := K1.cell rfl
          have a3 : wr.cell? ⟨w.heap.size + 1, 3, none⟩ = some (.int .u32 (u sd)) := K1.cell rfl
          have a4 : wr.cell? ⟨w.heap.size + 1, 4, none⟩ = some (.int .u32 (u se)) := K1.cell rfl
          have a5 : wr.cell? ⟨w.heap.size + 1, 5, none⟩ = some (.int .u32 (u sf)) := K1.cell rfl
          have a6 : wr.cell? ⟨w.heap.size + 1, 6, none⟩ = some (.int .u32 (u sg)) := K1.cell rfl
          have a7 : wr.cell? ⟨w.heap.size + 1, 7, none⟩ = some (.int .u32 (u sh)) := K1.cell rfl
          have r0 := add_u sa ra
          have r1 := add_u sb' rb
          have r2 := add_u sc rc
          have r3 := add_u sd rd
          have r4 := add_u se re
          have r5 := add_u sf rf
          have r6 := add_u sg rg
          have r7 := add_u sh rh
          go_upto_region 5 with (refine store_blk rfl 119 (.tmp 3) (.tmp 146) rfl (vs := wordsV [sa + ra, sb' + rb, sc + rc, sd + rd, se + re, sf + rf, sg + rg, sh + rh]) K1 rfl rfl (m := 8) (by kernel_rfl) rfl rfl (wordsV_cells _) ?_; intro w5 M1 hO5)
          clear a0 a1 a2 a3 a4 a5 a6 a7 r0 r1 r2 r3 r4 r5 r6 r7
          have M0 := hO5.2.1 _ _ _ (by omega) K0
          have M2 := hO5.2.1 _ _ _ (by omega) K2
          have MB : Below w.heap.size w w5 := hO5.2.2 _ _ (by omega) KB
          have MG := hG.keep MB
          clear K0 K1 K2 KG KB hO5
          go_wp2
          go_roundw
          case rel => exact ⟨k + 1, p + 64, by have := HPK.out; omega, by omega, by go_num, Lib.hid ⟨M0, by rw [HCP.out]; exact M1, M2, MG, MB⟩⟩
          case measure => simp [intOf]; omega
    · obtain rfl : p = L := by omega
      have HFIN : Hid (sha l = outB (hst m k)) := by
        have e : sha l = outB (hst m k) := by rw [HPL.out, hpk, Nat.mul_div_cancel_left _ (by omega)]
        exact Lib.hid e
      clear hpk HPL K2 KG
      generalize hst m k = ss at K1 HFIN
      have hz2 := zero_32
      have hsw := K1.lt
      go_upto_region 23 with (fail)
      have L0 := K0.alloc (.cells (bytesV z32).toArray 114)
      have L1 := K1.alloc (.cells (bytesV z32).toArray 114)
      have L6 : Blk (wr.alloc (.cells (bytesV z32).toArray 114)) wr.heap.size 114 (bytesV (outA ss 0)) := blk_new _ _ _
      have LB := KB.alloc (by omega) (.cells (bytesV z32).toArray 114)
      clear K0 K1 KB hz2
      generalize World.alloc wr _ = wy at L0 L1 L6 LB ⊢
      generalize wr.heap.size = b6 at *
      go_wp2
      go_loopw [19] (fun v wr => RoRel w ss b6 v wr) (fun v _ => 32 - (intOf v).toNat)
      case atStart => exact ⟨0, by omega, rfl, L1, L0, L6, LB⟩
      case round =>
        clear L0 L1 L6 LB
        obtain ⟨i, hi, rfl, N1, N0, N6, NB⟩ := hrel
        by_cases h32 : i < 32
        · obtain ⟨q, hq⟩ : ∃ q, i / 4 = q := ⟨_, rfl⟩
          have hqi : ((i : Int) / 4) = (q : Int) := by omega
          have hq8 : q < 8 := by omega
          have cw : wr.cell? ⟨w.heap.size + 1, q, none⟩ = some (.int .u32 (u ((stL ss).getD q 0))) := N1.cell (words_get hq8)
          have c6 : wr.cell? ⟨b6, i, none⟩ = some ((bytesV (outA ss i))[i]'(by rw [bytesV_length, outA_length _ _ hi]; exact h32)) := N6.cell (List.getElem?_eq_getElem _)
          have f6 := N6.free i
          have hqr : i / 4 = q := hq
          clear hq
          generalize hxw : (stL ss).getD q 0 = xw at cw
          have x0 := u_lo xw
          have x1 := u_hi xw
          have HX := Lib.hid hxw
          clear hxw
          obtain hr4 | hr4 | hr4 | hr4 : i % 4 = 0 ∨ i % 4 = 1 ∨ i % 4 = 2 ∨ i % 4 = 3 := by omega
          · have hri : ((i : Int) % 4) = 0 := by omega
            go_wp2
            go_roundw
            case rel => exact ⟨i + 1, by omega, by go_num, N1.other (by simp; omega) _, N0.other (by simp; omega) _, out_step (q := q) (r := 0) N6 hq8 (by omega) (by omega) HX.out 16777216 (by decide) (by unfold u; omega), NB.setCell (by simp; omega) _⟩
            case measure => simp [intOf]; omega
          · have hri : ((i : Int) % 4) = 1 := by omega
            go_wp2
            go_roundw
            case rel => exact ⟨i + 1, by omega, by go_num, N1.other (by simp; omega) _, N0.other (by simp; omega) _, out_step (q := q) (r := 1) N6 hq8 (by omega) (by omega) HX.out 65536 (by decide) (by unfold u; omega), NB.setCell (by simp; omega) _⟩
            case measure => simp [intOf]; omega
          · have hri : ((i : Int) % 4) = 2 := by omega
            go_wp2
            go_roundw
            case rel => exact ⟨i + 1, by omega, by go_num, N1.other (by simp; omega) _, N0.other (by simp; omega) _, out_step (q := q) (r := 2) N6 hq8 (by omega) (by omega) HX.out 256 (by decide) (by unfold u; omega), NB.setCell (by simp; omega) _⟩
            case measure => simp [intOf]; omega
          · have hri : ((i : Int) % 4) = 3 := by omega
            go_wp2
            go_roundw
            case rel => exact ⟨i + 1, by omega, by go_num, N1.other (by simp; omega) _, N0.other (by simp; omega) _, out_step (q := q) (r := 3) N6 hq8 (by omega) (by omega) HX.out 1 (by decide) (by unfold u; omega), NB.setCell (by simp; omega) _⟩
            case measure => simp [intOf]; omega
        · obtain rfl : i = 32 := by omega
          rw [outA_full, ← HFIN.out] at N6
          have hsl : (bytesV (sha l)).length = 32 := by rw [bytesV_length]; exact sha_length l
          clear HFIN
          go_wp2_with (first | (refine load_blk rfl 114 (.tmp 18) rfl N6 rfl Tryd.underlying114 (m := 32) (by kernel_rfl) hsl ?_) | (refine store_blk rfl 114 (.tmp 2) (.tmp 163) rfl N0 rfl rfl (m := 32) (by kernel_rfl) hsl (by rw [bytesV_length]; rfl) (bytesV_cells _) ?_; intro w5 hb5 ho5))
          exact bodyPost_ret (v := .agg (bytesV (sha l)).toArray) (hb5.result (p := 2) (ty := 114) rfl _ rfl Tryd.underlying114 (by rw [hsl]; kernel_rfl)) rfl ⟨rfl, ho5.2.2 _ _ (by omega) NB⟩

end Go.Proofs.YtfhfmdnimebegaaDoor
