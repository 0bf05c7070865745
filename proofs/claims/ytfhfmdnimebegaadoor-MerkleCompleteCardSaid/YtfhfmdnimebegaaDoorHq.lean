/-
  hash.Stream.Sum returns the hash of the message.
-/
import Derived.Test.YtfhfmdnimebegaaDoorHp
namespace Go.Proofs.YtfhfmdnimebegaaDoor
open Go.RowKit
set_option linter.unusedVariables false
set_option linter.unusedSimpArgs false

def z72 : List Nat := List.replicate 72 0
def z32 : List Nat := List.replicate 32 0
theorem zero_72 (w : World) : (zeroValue 133).run Tryd.prog w = .ok (.agg (bytesV z72).toArray) w := by kernel_rfl
theorem zero_32 (w : World) : (zeroValue 114).run Tryd.prog w = .ok (.agg (bytesV z32).toArray) w := by kernel_rfl
theorem z72_set (L : Nat) : (bytesV z72).set 0 (.int .u8 128) = bytesV (padA L 0) := by
  rw [padA_zero]
  rfl
theorem bytesV_cells (l : List Nat) : ∀ v ∈ bytesV l, v.oneCell' = true := fun v hv => by obtain ⟨y, _, rfl⟩ := List.mem_map.1 hv; rfl

/-- A struct that fills a block is read in a region of reads. -/
theorem still_load {w : World} {ops : Array Oper} {rest : List Oper} {o : Oper} {a : Act} {Q : Act → Prop} (hgd : o.guard = none) (ty : TypeId) (x : Operand) (ho : o.op = .load ty x)
    {b : Nat} {t : TypeId} {cs : List Value} (h : Blk w b t cs) (hx : a.eval x = .pointer (some ⟨b, 0, none⟩)) {m : Nat} {d : TypeDesc} (hu : Tryd.prog.underlying ty = some d) (hd : d.isRow = true) (hi : (Tryd.prog.info? ty).map (·.size) = some m) (hl : cs.length = m)
    (K : wpStill Tryd.prog ops w Q rest (a.put o.dst (.agg cs.toArray))) : wpStill Tryd.prog ops w Q (o :: rest) a := by
  subst hl
  have hr := h.range 0 cs.length
  rw [List.drop_zero, List.take_length] at hr
  refine wpStill_step fun K' hK => ?_
  have hw : Region.wanted o (yielded ops a.tmps) = true := by simp [Region.wanted, hgd]
  rw [if_pos hw]
  unfold Oper.still execOp
  simp only [ho, hx, Instr.loadAt, Instr.sureAddr, Sem.run_bind, Sem.run_pure, Result.andThen_ok, run_loadVar_mid w b 0 ty cs d hr hu hd hi, Oper.stillUpon_value]
  exact hK _ K

/-- A conversion in a region of reads. -/
theorem still_convert {w : World} {ops : Array Oper} {rest : List Oper} {o : Oper} {a : Act} {Q : Act → Prop} (hgd : o.guard = none) (t1 t2 : TypeId) (x : Operand) (ho : o.op = .convert t1 t2 x) {v v' : Value} (hx : a.eval x = v) (hrun : (convert t1 t2 v).run Tryd.prog w = .ok v' w)
    (K : wpStill Tryd.prog ops w Q rest (a.put o.dst v')) : wpStill Tryd.prog ops w Q (o :: rest) a := by
  refine wpStill_step fun K' hK => ?_
  have hw : Region.wanted o (yielded ops a.tmps) = true := by simp [Region.wanted, hgd]
  rw [if_pos hw]
  unfold Oper.still execOp
  simp only [ho, hx, Sem.run_bind, Sem.run_pure, Result.andThen_ok, hrun, Oper.stillUpon_value]
  exact hK _ K

/-- What holds while the length is laid. -/
def PadRel (w : World) (m B : List Nat) (v : Value) (wr : World) : Prop :=
  ∃ i : Nat, i ≤ 8 ∧ v = .int .i64 i ∧ Blk wr w.heap.size 122 (strV (sth m) B m.length) ∧ Blk wr (w.heap.size + 1) 114 (bytesV z32) ∧ Blk wr (w.heap.size + 2) 133 (bytesV (padA m.length i)) ∧ Below w.heap.size w wr

theorem pad_step {wr : World} {b i : Nat} {t : TypeId} {L : Nat} (H : Blk wr b t (bytesV (padA L i))) (h : i < 8) (P : Nat) (hP : 256 ^ (7 - i) = P) (V : Int) (hV : V = ((8 * L / P % 256 : Nat) : Int)) (off : Nat) (ho : off = 1 + zeros L + i) :
    Blk (wr.setCell ⟨b, off, none⟩ (.int .u8 V)) b t (bytesV (padA L (i + 1))) := by
  subst ho; subst hP; subst hV
  have := H.set (1 + zeros L + i) (byteV (8 * L / 256 ^ (7 - i) % 256))
  rw [← padA_set L i h]
  unfold bytesV at this ⊢
  rw [List.map_set]
  exact this

/-- What holds while the bytes of the hash are laid. -/
def SumRel (w : World) (s : St) (B : List Nat) (n b6 : Nat) (v : Value) (wr : World) : Prop :=
  ∃ i : Nat, i ≤ 32 ∧ v = .int .i64 i ∧ Blk wr w.heap.size 122 (strV s B n) ∧ Blk wr (w.heap.size + 1) 114 (bytesV z32) ∧ Blk wr b6 114 (bytesV (outA s i)) ∧ Below w.heap.size w wr
theorem out_step {wr : World} {b i q r : Nat} {t : TypeId} {s : St} {x : BitVec 32} (H : Blk wr b t (bytesV (outA s i))) (hq : q < 8) (hr : r < 4) (hi : i = 4 * q + r) (hx : (stL s).getD q 0 = x) (P : Nat) (hP : 256 ^ (3 - r) = P) {V : Int} (hV : V = ((x.toNat / P % 256 : Nat) : Int)) :
    Blk (wr.setCell ⟨b, i, none⟩ (.int .u8 V)) b t (bytesV (outA s (i + 1))) := by
  subst hi; subst hx; subst hP; subst hV
  have := H.set (4 * q + r) (byteV (((stL s).getD q 0).toNat / 256 ^ (3 - r) % 256))
  rw [← outA_set s q r hq hr]
  unfold bytesV at this ⊢
  rw [List.map_set]
  exact this

set_option maxHeartbeats 4000000 in
set_option maxRecDepth 100000 in
theorem strsum_any (m B : List Nat) (hS : Stm m B) (hl : m.length ≤ 1152921504606846000) (w : World) (hG : Glob w) :
    Calls Tryd.prog 74 #[.agg (strV (sth m) B m.length).toArray] w fun e w' => e = .returned (.agg (bytesV (sha m)).toArray) ∧ Below w.heap.size w w' := by
  have hB64 := hS.1.1
  have hz1 := zero_72
  have hz2 := zero_32
  have hzl := zeros_lt m.length
  go_enter Tryd.func74, Tryd.ntmps74
  go_upto_region 1 with (fail)
  generalize hw0 : World.alloc _ _ = W0
  have K0 : Blk W0 w.heap.size 122 (strV (sth m) B m.length) := hw0 ▸ (blk_new w _ _).alloc _
  have K1 : Blk W0 (w.heap.size + 1) 114 (bytesV z32) := hw0 ▸ blk_new1 w _ _ _
  have KB : Below w.heap.size w W0 := hw0 ▸ (((Below.refl _ _).alloc (Nat.le_refl _) _).alloc (by simp) _)
  have hsz : W0.heap.size = w.heap.size + 2 := by rw [← hw0]; simp
  clear hw0
  have hset := z72_set m.length
  have hpl := padA_length m.length 0 (by omega)
  go_upto_region 2 with (refine store_blk rfl 133 (.tmp 3) (.tmp 8) rfl (blk_new W0 _ (bytesV z72).toArray) (by rw [hsz]; rfl) (vs := bytesV (padA m.length 0)) rfl (m := 72) (by kernel_rfl) (by rw [bytesV_length, hpl]) (by rw [bytesV_length]; rfl) (bytesV_cells _) ?_; intro w1 H3 hO1)
  rw [hsz] at H3 hO1
  have L0 : Blk w1 w.heap.size 122 (strV (sth m) B m.length) := hO1.2.1 _ _ _ (by omega) (K0.alloc _)
  have L1 : Blk w1 (w.heap.size + 1) 114 (bytesV z32) := hO1.2.1 _ _ _ (by omega) (K1.alloc _)
  have LB : Below w.heap.size w w1 := hO1.2.2 _ _ (by omega) (KB.alloc (by omega) _)
  obtain ⟨z, hz⟩ : ∃ z, zeros m.length = z := ⟨_, rfl⟩
  have hzi : ((119 : Int) - (m.length : Int) % 64) % 64 = (z : Int) := by
    have : zeros m.length = (119 - m.length % 64) % 64 := rfl
    omega
  rw [hz] at hzl
  have HZ := Lib.hid hz
  have c72 : w1.cell? ⟨w.heap.size, 72, none⟩ = some (.int .u64 (m.length : Int)) := L0.cell (strV_count _ _ _ hB64)
  clear K0 K1 KB hO1 hset hpl hsz hz1 hz2 hz
  go_upto_region 3 with (fail)
  clear hzi c72
  go_wp2
  go_loopw [16] (fun v wr => PadRel w m B v wr) (fun v _ => 8 - (intOf v).toNat)
  case atStart => exact ⟨0, by omega, rfl, L0, L1, H3, LB⟩
  case round =>
    clear L0 L1 H3 LB
    obtain ⟨i, hi, rfl, L0, L1, H3, LB⟩ := hrel
    have c72 : wr.cell? ⟨w.heap.size, 72, none⟩ = some (.int .u64 (m.length : Int)) := L0.cell (strV_count _ _ _ hB64)
    by_cases h8 : i < 8
    · have hz2 : zeros m.length = z := HZ.out
      obtain rfl | rfl | rfl | rfl | rfl | rfl | rfl | rfl : i = 0 ∨ i = 1 ∨ i = 2 ∨ i = 3 ∨ i = 4 ∨ i = 5 ∨ i = 6 ∨ i = 7 := by omega
      · have c0 : wr.cell? ⟨w.heap.size + 2, 1 + z, none⟩ = some ((bytesV (padA m.length 0))[1 + z + 0]'(by rw [bytesV_length, padA_length _ _ (by omega)]; omega)) := H3.cell (List.getElem?_eq_getElem _)
        have f0 := H3.free (1 + z)
        have g0 : 1 + (z : Int) + 0 < 72 := by omega
        go_wp2
        go_roundw
        case rel => exact ⟨1, by omega, rfl, L0.other (by simp) _, L1.other (by simp) _, pad_step H3 (by omega) 72057594037927936 (by decide) _ (by omega) _ (by omega), LB.setCell (by simp) _⟩
        case measure => simp [intOf]
      · have c0 : wr.cell? ⟨w.heap.size + 2, 1 + z + 1, none⟩ = some ((bytesV (padA m.length 1))[1 + z + 1]'(by rw [bytesV_length, padA_length _ _ (by omega)]; omega)) := H3.cell (List.getElem?_eq_getElem _)
        have f0 := H3.free (1 + z + 1)
        have g0 : 1 + (z : Int) + 1 < 72 := by omega
        go_wp2
        go_roundw
        case rel => exact ⟨2, by omega, rfl, L0.other (by simp) _, L1.other (by simp) _, pad_step H3 (by omega) 281474976710656 (by decide) _ (by omega) _ (by omega), LB.setCell (by simp) _⟩
        case measure => simp [intOf]
      · have c0 : wr.cell? ⟨w.heap.size + 2, 1 + z + 2, none⟩ = some ((bytesV (padA m.length 2))[1 + z + 2]'(by rw [bytesV_length, padA_length _ _ (by omega)]; omega)) := H3.cell (List.getElem?_eq_getElem _)
        have f0 := H3.free (1 + z + 2)
        have g0 : 1 + (z : Int) + 2 < 72 := by omega
        go_wp2
        go_roundw
        case rel => exact ⟨3, by omega, rfl, L0.other (by simp) _, L1.other (by simp) _, pad_step H3 (by omega) 1099511627776 (by decide) _ (by omega) _ (by omega), LB.setCell (by simp) _⟩
        case measure => simp [intOf]
      · have c0 : wr.cell? ⟨w.heap.size + 2, 1 + z + 3, none⟩ = some ((bytesV (padA m.length 3))[1 + z + 3]'(by rw [bytesV_length, padA_length _ _ (by omega)]; omega)) := H3.cell (List.getElem?_eq_getElem _)
        have f0 := H3.free (1 + z + 3)
        have g0 : 1 + (z : Int) + 3 < 72 := by omega
        go_wp2
        go_roundw
        case rel => exact ⟨4, by omega, rfl, L0.other (by simp) _, L1.other (by simp) _, pad_step H3 (by omega) 4294967296 (by decide) _ (by omega) _ (by omega), LB.setCell (by simp) _⟩
        case measure => simp [intOf]
      · have c0 : wr.cell? ⟨w.heap.size + 2, 1 + z + 4, none⟩ = some ((bytesV (padA m.length 4))[1 + z + 4]'(by rw [bytesV_length, padA_length _ _ (by omega)]; omega)) := H3.cell (List.getElem?_eq_getElem _)
        have f0 := H3.free (1 + z + 4)
        have g0 : 1 + (z : Int) + 4 < 72 := by omega
        go_wp2
        go_roundw
        case rel => exact ⟨5, by omega, rfl, L0.other (by simp) _, L1.other (by simp) _, pad_step H3 (by omega) 16777216 (by decide) _ (by omega) _ (by omega), LB.setCell (by simp) _⟩
        case measure => simp [intOf]
      · have c0 : wr.cell? ⟨w.heap.size + 2, 1 + z + 5, none⟩ = some ((bytesV (padA m.length 5))[1 + z + 5]'(by rw [bytesV_length, padA_length _ _ (by omega)]; omega)) := H3.cell (List.getElem?_eq_getElem _)
        have f0 := H3.free (1 + z + 5)
        have g0 : 1 + (z : Int) + 5 < 72 := by omega
        go_wp2
        go_roundw
        case rel => exact ⟨6, by omega, rfl, L0.other (by simp) _, L1.other (by simp) _, pad_step H3 (by omega) 65536 (by decide) _ (by omega) _ (by omega), LB.setCell (by simp) _⟩
        case measure => simp [intOf]
      · have c0 : wr.cell? ⟨w.heap.size + 2, 1 + z + 6, none⟩ = some ((bytesV (padA m.length 6))[1 + z + 6]'(by rw [bytesV_length, padA_length _ _ (by omega)]; omega)) := H3.cell (List.getElem?_eq_getElem _)
        have f0 := H3.free (1 + z + 6)
        have g0 : 1 + (z : Int) + 6 < 72 := by omega
        go_wp2
        go_roundw
        case rel => exact ⟨7, by omega, rfl, L0.other (by simp) _, L1.other (by simp) _, pad_step H3 (by omega) 256 (by decide) _ (by omega) _ (by omega), LB.setCell (by simp) _⟩
        case measure => simp [intOf]
      · have c0 : wr.cell? ⟨w.heap.size + 2, 1 + z + 7, none⟩ = some ((bytesV (padA m.length 7))[1 + z + 7]'(by rw [bytesV_length, padA_length _ _ (by omega)]; omega)) := H3.cell (List.getElem?_eq_getElem _)
        have f0 := H3.free (1 + z + 7)
        have g0 : 1 + (z : Int) + 7 < 72 := by omega
        go_wp2
        go_roundw
        case rel => exact ⟨8, by omega, rfl, L0.other (by simp) _, L1.other (by simp) _, pad_step H3 (by omega) 1 (by decide) _ (by omega) _ (by omega), LB.setCell (by simp) _⟩
        case measure => simp [intOf]
    · obtain rfl : i = 8 := by omega
      clear h8 hi c72
      go_upto_region 8 with (fail)
      obtain ⟨h9, hh⟩ : ∃ h9, 9 + z = h9 := ⟨_, rfl⟩
      have s9 : IntKind.i64.wrap (1 + (z : Int) + 8) = (h9 : Int) := by rw [IntWalk.i64_in _ (by omega)]; omega
      have hln := strV_length (sth m) B m.length hB64
      have hsl : ∀ w' : World, (Instr.sliceAt 133 (.pointer (some ⟨w.heap.size + 2, 0, none⟩)) none (some (.int .i64 (h9 : Int))) none).run Tryd.prog w' = .ok (.slice (some ⟨w.heap.size + 2, 0, none⟩) h9 72) w' := fun w' => slice_upto w' _ _ _ (by omega)
      have htl : (tail m.length).length = h9 := by rw [tail_length, HZ.out]; exact hh
      have hcv : ∀ q, (convert 39 9 (.slice (some ⟨w.heap.size + 2, 0, none⟩) h9 72)).run Tryd.prog (wr.drewN q) = .ok (.string (strOf (tail m.length))) (wr.drewN q) := fun q => by
        have := conv_cells (wr.drewN q) ⟨w.heap.size + 2, 0, none⟩ 72 (tail m.length) (tail_byte _) (fun j u hj => by
          rw [Addr.add_mid, Nat.zero_add]
          apply (H3.drewN q).cell
          have e : bytesV (tail m.length) = (bytesV (padA m.length 8)).take h9 := by
            rw [← padA_full, HZ.out, hh]
            simp [bytesV]
          rw [e, List.getElem?_take] at hj
          split at hj
          · exact hj
          · cases hj)
        rwa [htl] at this
      clear hh htl
      have HCV := Lib.hid (hcv 1)
      clear hcv
      refine wp_region_still_tail 5 (by kernel_rfl) (by kernel_rfl) ?_
      simp only [List.take_succ_cons, List.take_zero, List.drop_succ_cons, List.drop_zero]
      refine still_load rfl 122 (.tmp 1) rfl (L0.drewN 1) rfl Tryd.underlying122 rfl (m := 73) (by kernel_rfl) hln ?_
      still_step
      still_step
      still_step
      refine still_convert rfl 39 9 (.tmp 35) rfl rfl HCV.out ?_
      refine wpStill_nil ?_
      clear HCV s9 hsl
      have M0 : Blk (World.mk wr.heap wr.tape (wr.drawn + 1) wr.os wr.output) w.heap.size 122 (strV (sth m) B m.length) := L0
      have M1 : Blk (World.mk wr.heap wr.tape (wr.drawn + 1) wr.os wr.output) (w.heap.size + 1) 114 (bytesV z32) := L1
      have MB : Below w.heap.size w (World.mk wr.heap wr.tape (wr.drawn + 1) wr.os wr.output) := below_drewN LB 1
      have hsz : w.heap.size + 1 < (World.mk wr.heap wr.tape (wr.drawn + 1) wr.os wr.output).heap.size := L1.lt
      clear L0 L1 H3 LB
      generalize World.mk _ _ _ _ _ = wq at *
      have HADD := add_any m B hS (strOf (tail m.length)) (by rw [strOf_size, tail_length, HZ.out]; omega) wq (hG.keep MB)
      rw [sb_strOf _ (tail_byte _)] at HADD
      have HA := Lib.hid HADD
      clear HADD
      go_upto_region 9 with (first | (go_at_call 72; refine HA.out.mono ?_; rintro e w2 ⟨B2, hS2, rfl, hB2⟩; have P0 := M0.keep hB2) | (refine store_blk rfl 122 (.tmp 1) (.tmp 37) rfl P0 rfl rfl (m := 73) (by kernel_rfl) (strV_length _ _ _ hS2.1.1) hln (strV_cells _ _ _) ?_; intro w3 N0 hO3))
      have N1 := hO3.2.1 _ _ _ (by omega) (M1.keep hB2)
      have NB := hO3.2.2 _ _ (Nat.le_refl _) (MB.trans (hB2.mono MB.size))
      have hsz3 : w.heap.size + 2 ≤ w3.heap.size := by have h1 := hO3.1; have h2 := hB2.size; omega
      clear M0 M1 MB hB2 hO3 P0 HA hsz hln
      have hz2 := zero_32
      generalize m.length + (tail m.length).length = n3 at N0
      obtain ⟨ss, hss⟩ : ∃ x, sth (m ++ tail m.length) = x := ⟨_, rfl⟩
      rw [hss] at N0
      have HSS := Lib.hid hss
      clear hss
      go_upto_region 10 with (fail)
      have L0 : Blk (w3.alloc (.cells (bytesV z32).toArray 114)) w.heap.size 122 (strV ss B2 n3) := N0.alloc _
      have L1 : Blk (w3.alloc (.cells (bytesV z32).toArray 114)) (w.heap.size + 1) 114 (bytesV z32) := N1.alloc _
      have L6 : Blk (w3.alloc (.cells (bytesV z32).toArray 114)) w3.heap.size 114 (bytesV (outA ss 0)) := blk_new _ _ _
      have LB := NB.alloc (by omega) (.cells (bytesV z32).toArray 114)
      clear N0 N1 NB hz2
      generalize w3.heap.size = b6 at *
      go_wp2
      go_loopw [38] (fun v wr => SumRel w ss B2 n3 b6 v wr) (fun v _ => 32 - (intOf v).toNat)
      case atStart => exact ⟨0, by omega, rfl, L0, L1, L6, LB⟩
      case round =>
        clear L0 L1 L6 LB
        obtain ⟨i, hi, rfl, N0, N1, N6, NB⟩ := hrel
        by_cases h32 : i < 32
        · obtain ⟨q, hq⟩ : ∃ q, i / 4 = q := ⟨_, rfl⟩
          have hqi : ((i : Int) / 4) = (q : Int) := by omega
          have hq8 : q < 8 := by omega
          have cw : wr.cell? ⟨w.heap.size, q, none⟩ = some (.int .u32 (u ((stL ss).getD q 0))) := N0.cell (by
            unfold strV
            rw [List.getElem?_append_left (by rw [stL_length]; exact hq8)]
            exact words_get hq8)
          have c6 : wr.cell? ⟨b6, i, none⟩ = some ((bytesV (outA ss i))[i]'(by rw [bytesV_length, outA_length _ _ hi]; exact h32)) := N6.cell (List.getElem?_eq_getElem _)
          have f6 := N6.free i
          have hqr : i / 4 = q := hq
          clear hq
          generalize hxw : (stL ss).getD q 0 = xw at cw
          have x0 := u_lo xw
          have x1 := u_hi xw
          have HX := Lib.hid hxw
          clear hxw
          obtain hr4 | hr4 | hr4 | hr4 : i % 4 = 0 ∨ i % 4 = 1 ∨ i % 4 = 2 ∨ i % 4 = 3 := by omega
          · have hri : ((i : Int) % 4) = 0 := by omega
            go_wp2
            go_roundw
            case rel => exact ⟨i + 1, by omega, by go_num, N0.other (by simp; omega) _, N1.other (by simp; omega) _, out_step (q := q) (r := 0) N6 hq8 (by omega) (by omega) HX.out 16777216 (by decide) (by unfold u; omega), NB.setCell (by simp; omega) _⟩
            case measure => simp [intOf]; omega
          · have hri : ((i : Int) % 4) = 1 := by omega
            go_wp2
            go_roundw
            case rel => exact ⟨i + 1, by omega, by go_num, N0.other (by simp; omega) _, N1.other (by simp; omega) _, out_step (q := q) (r := 1) N6 hq8 (by omega) (by omega) HX.out 65536 (by decide) (by unfold u; omega), NB.setCell (by simp; omega) _⟩
            case measure => simp [intOf]; omega
          · have hri : ((i : Int) % 4) = 2 := by omega
            go_wp2
            go_roundw
            case rel => exact ⟨i + 1, by omega, by go_num, N0.other (by simp; omega) _, N1.other (by simp; omega) _, out_step (q := q) (r := 2) N6 hq8 (by omega) (by omega) HX.out 256 (by decide) (by unfold u; omega), NB.setCell (by simp; omega) _⟩
            case measure => simp [intOf]; omega
          · have hri : ((i : Int) % 4) = 3 := by omega
            go_wp2
            go_roundw
            case rel => exact ⟨i + 1, by omega, by go_num, N0.other (by simp; omega) _, N1.other (by simp; omega) _, out_step (q := q) (r := 3) N6 hq8 (by omega) (by omega) HX.out 1 (by decide) (by unfold u; omega), NB.setCell (by simp; omega) _⟩
            case measure => simp [intOf]; omega
        · obtain rfl : i = 32 := by omega
          have hout : outA ss 32 = sha m := by
            rw [outA_full, ← HSS.out]
            exact sth_pad m
          rw [hout] at N6
          have hsl : (bytesV (sha m)).length = 32 := by rw [bytesV_length, ← hout, outA_length _ _ (Nat.le_refl _)]
          clear hout HSS
          go_wp2_with (first | (refine load_blk rfl 114 (.tmp 6) rfl N6 rfl Tryd.underlying114 (m := 32) (by kernel_rfl) hsl ?_) | (refine store_blk rfl 114 (.tmp 2) (.tmp 55) rfl N1 rfl rfl (m := 32) (by kernel_rfl) hsl (by rw [bytesV_length]; rfl) (bytesV_cells _) ?_; intro w5 hb5 ho5))
          exact bodyPost_ret (v := .agg (bytesV (sha m)).toArray) (hb5.result (p := 2) (ty := 114) rfl _ rfl Tryd.underlying114 (by rw [hsl]; kernel_rfl)) rfl ⟨rfl, ho5.2.2 _ _ (by omega) NB⟩

end Go.Proofs.YtfhfmdnimebegaaDoor
