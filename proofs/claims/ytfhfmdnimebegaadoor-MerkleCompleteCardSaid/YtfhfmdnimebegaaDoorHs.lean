/-
  hash.schedule returns the words of all rounds.
-/
import Derived.Test.YtfhfmdnimebegaaDoorHb
import Derived.Deep.QuietTactic
import Derived.BigQuiet
import Derived.IntWalk
import Derived.StillTailTactics
namespace Go.Proofs.YtfhfmdnimebegaaDoor
set_option linter.unusedVariables false
set_option linter.unusedSimpArgs false
open Go.RowKit

def wordV (x : BitVec 32) : Value := .int .u32 (u x)
def wordsV (l : List (BitVec 32)) : List Value := l.map wordV
theorem wordsV_length (l : List (BitVec 32)) : (wordsV l).length = l.length := by simp [wordsV]
/-- A block of 64 bytes. -/
def Byts (b : List Nat) : Prop := b.length = 64 ∧ ∀ y ∈ b, y < 256
/-- The array of the words, when the first t of them have been found. -/
def arrW (b : List Nat) (t : Nat) : List Value := wordsV (sched b t) ++ List.replicate (64 - t) (wordV 0)
theorem arrW_length (b : List Nat) (t : Nat) (h : t ≤ 64) : (arrW b t).length = 64 := by
  simp [arrW, wordsV, sched_length]; omega
theorem arrW_set (b : List Nat) (t : Nat) (h : t < 64) : (arrW b t).set t (wordV (nextW b (sched b t))) = arrW b (t + 1) := by
  have hl : (wordsV (sched b t)).length = t := by rw [wordsV_length, sched_length]
  unfold arrW
  rw [List.set_append_right _ _ (by omega), hl, Nat.sub_self, sched]
  obtain ⟨k, hk⟩ : ∃ k, 64 - t = k + 1 := ⟨63 - t, by omega⟩
  rw [hk, List.replicate_succ, List.set_cons_zero, show 64 - (t + 1) = k by omega]
  simp [wordsV]
theorem arrW_get (b : List Nat) (t i : Nat) (h : i < t) : (arrW b t)[i]? = some (.int .u32 (u ((sched b t).getD i 0))) := by
  have hl : i < (sched b t).length := by rw [sched_length]; exact h
  unfold arrW wordsV
  rw [List.getElem?_append_left (by simpa using hl), List.getElem?_map, List.getElem?_eq_getElem hl]
  simp [wordV, hl]
theorem arrW_all (b : List Nat) : arrW b 64 = wordsV (sched b 64) := by simp [arrW]

theorem u_byte (y : Nat) (h : y < 256) : IntKind.u32.wrap (y : Int) = u (BitVec.ofNat 32 y) := by
  rw [wrap_u32]
  unfold u
  rw [BitVec.toNat_ofNat]
theorem u_shl24 (x : BitVec 32) : IntKind.u32.wrap (u x * 16777216) = u (x <<< 24) := u_shl x 24
theorem u_shl16 (x : BitVec 32) : IntKind.u32.wrap (u x * 65536) = u (x <<< 16) := u_shl x 16
theorem u_shl8 (x : BitVec 32) : IntKind.u32.wrap (u x * 256) = u (x <<< 8) := u_shl x 8

theorem word_raw (y0 y1 y2 y3 : Nat) (h0 : y0 < 256) (h1 : y1 < 256) (h2 : y2 < 256) (h3 : y3 < 256) :
    bits BinOp.or IntKind.u32 (bits BinOp.or IntKind.u32 (bits BinOp.or IntKind.u32 (IntKind.u32.wrap (IntKind.u32.wrap (y0 : Int) * 16777216)) (IntKind.u32.wrap (IntKind.u32.wrap (y1 : Int) * 65536))) (IntKind.u32.wrap (IntKind.u32.wrap (y2 : Int) * 256))) (IntKind.u32.wrap (y3 : Int)) =
      u (BitVec.ofNat 32 y0 <<< 24 ||| BitVec.ofNat 32 y1 <<< 16 ||| BitVec.ofNat 32 y2 <<< 8 ||| BitVec.ofNat 32 y3) := by
  rw [u_byte y0 h0, u_byte y1 h1, u_byte y2 h2, u_byte y3 h3, u_shl24, u_shl16, u_shl8, u_or, u_or, u_or]
theorem wrap_small (z : Int) (h0 : 0 ≤ z) (h1 : z < 4294967296) : IntKind.u32.wrap z = z := by
  simp [IntKind.wrap, IntKind.signed, IntKind.bits]
  omega
theorem word_raw2 (y0 y1 y2 y3 : Nat) (h0 : y0 < 256) (h1 : y1 < 256) (h2 : y2 < 256) (h3 : y3 < 256) :
    bits BinOp.or IntKind.u32 (bits BinOp.or IntKind.u32 (bits BinOp.or IntKind.u32 ((y0 : Int) * 16777216) ((y1 : Int) * 65536)) ((y2 : Int) * 256)) (y3 : Int) =
      u (BitVec.ofNat 32 y0 <<< 24 ||| BitVec.ofNat 32 y1 <<< 16 ||| BitVec.ofNat 32 y2 <<< 8 ||| BitVec.ofNat 32 y3) := by
  have := word_raw y0 y1 y2 y3 h0 h1 h2 h3
  rw [wrap_small (y0 : Int) (by omega) (by omega), wrap_small (y1 : Int) (by omega) (by omega), wrap_small (y2 : Int) (by omega) (by omega), wrap_small (y3 : Int) (by omega) (by omega), wrap_small ((y0 : Int) * 16777216) (by omega) (by omega),
    wrap_small ((y1 : Int) * 65536) (by omega) (by omega), wrap_small ((y2 : Int) * 256) (by omega) (by omega)] at this
  exact this

theorem sig0_raw (x : BitVec 32) : bits BinOp.xor IntKind.u32 (bits BinOp.xor IntKind.u32 (u (rot x 7)) (u (rot x 18))) (u x / 8) = u (sig0 x) := by
  have h := u_shr x 3
  rw [show (2 : Int) ^ 3 = 8 by decide] at h
  rw [h, u_xor, u_xor]; rfl
theorem sig1_raw (x : BitVec 32) : bits BinOp.xor IntKind.u32 (bits BinOp.xor IntKind.u32 (u (rot x 17)) (u (rot x 19))) (u x / 1024) = u (sig1 x) := by
  have h := u_shr x 10
  rw [show (2 : Int) ^ 10 = 1024 by decide] at h
  rw [h, u_xor, u_xor]; rfl
theorem add_u (a b : BitVec 32) : (u a + u b) % 4294967296 = u (a + b) := by
  unfold u
  rw [BitVec.toNat_add]
  omega
theorem add4 (a b c d : BitVec 32) : (u a + u b + u c + u d) % 4294967296 = u (a + b + c + d) := by
  rw [← add_u (a + b + c) d, ← add_u (a + b) c, ← add_u a b]
  omega

set_option maxHeartbeats 2000000 in
set_option maxRecDepth 100000 in
theorem schedule_any (b : List Nat) (hb : Byts b) (w : World) :
    Calls Tryd.prog 83 #[.agg (bytesV b).toArray] w fun e w' => e = .returned (.agg (wordsV (sched b 64)).toArray) ∧ Below w.heap.size w w' := by
  go_enter Tryd.func83, Tryd.ntmps83
  go_wp2
  go_loopw [9] (fun i wr => ∃ t : Nat, t ≤ 64 ∧ i = .int .i64 t ∧ Blk wr w.heap.size 120 (bytesV b) ∧ Blk wr (w.heap.size + 1) 129 (List.replicate 64 (wordV 0)) ∧ Blk wr (w.heap.size + 1 + 1) 129 (arrW b t) ∧ Below w.heap.size w wr) (fun i _ => 64 - (intOf i).toNat)
  case atStart =>
    refine ⟨0, by omega, rfl, ?_, ?_, ?_, ?_⟩
    · have := (blk_new w 120 (bytesV b).toArray).alloc
      exact (((blk_new w 120 (bytesV b).toArray).alloc _).alloc _)
    · have := blk_new (w.alloc (.cells (bytesV b).toArray 120)) 129 (List.replicate 64 (wordV 0)).toArray
      rw [World.size_alloc] at this
      exact this.alloc _
    · have := blk_new ((w.alloc (.cells (bytesV b).toArray 120)).alloc (.cells (List.replicate 64 (wordV 0)).toArray 129)) 129 (List.replicate 64 (wordV 0)).toArray
      rw [World.size_alloc, World.size_alloc] at this
      exact this
    · exact (((Below.refl _ _).alloc (Nat.le_refl _) _).alloc (by simp) _).alloc (by simp; omega) _
  case round =>
    obtain ⟨t, ht, rfl, H0, H1, H2, hB⟩ := hrel
    by_cases h64 : t < 64
    · by_cases h16 : t < 16
      · have hg : ∀ j, j < 64 → ∃ y : Nat, y < 256 ∧ b.getD j 0 = y ∧ wr.cell? ⟨w.heap.size, j, none⟩ = some (.int .u8 (y : Int)) := by
          intro j hj
          have hjl : j < b.length := by have := hb.1; omega
          refine ⟨b[j], hb.2 _ (List.getElem_mem hjl), by simp [hjl], H0.cell ?_⟩
          simp [bytesV, byteV, hjl]
        obtain ⟨p, hp⟩ : ∃ p, p = 4 * t := ⟨_, rfl⟩
        obtain ⟨y0, z0, e0, c0⟩ := hg p (by omega)
        obtain ⟨y1, z1, e1, c1⟩ := hg (p + 1) (by omega)
        obtain ⟨y2, z2, e2, c2⟩ := hg (p + 2) (by omega)
        obtain ⟨y3, z3, e3, c3⟩ := hg (p + 3) (by omega)
        rw [hp] at e0 e1 e2 e3
        have HE : Hid (b.getD (4 * t) 0 = y0 ∧ b.getD (4 * t + 1) 0 = y1 ∧ b.getD (4 * t + 2) 0 = y2 ∧ b.getD (4 * t + 3) 0 = y3) := Lib.hid ⟨e0, e1, e2, e3⟩
        have cs : wr.cell? ⟨w.heap.size + 1 + 1, t, none⟩ = some ((arrW b t)[t]'(by rw [arrW_length b t ht]; omega)) := H2.cell (List.getElem?_eq_getElem _)
        have fs := H2.free t
        have s0 : IntKind.i64.wrap (4 * (t : Int)) = (p : Int) := by rw [IntWalk.i64_in _ (by omega)]; omega
        have s1 : IntKind.i64.wrap ((p : Int) + 1) = (p : Int) + 1 := IntWalk.i64_in _ (by omega)
        have s2 : IntKind.i64.wrap ((p : Int) + 2) = (p : Int) + 2 := IntWalk.i64_in _ (by omega)
        have s3 : IntKind.i64.wrap ((p : Int) + 3) = (p : Int) + 3 := IntWalk.i64_in _ (by omega)
        have n1 : ((p : Int) + 1).toNat = p + 1 := by omega
        have n2 : ((p : Int) + 2).toNat = p + 2 := by omega
        have n3 : ((p : Int) + 3).toNat = p + 3 := by omega
        have g0 : (p : Int) < 64 := by omega
        have g1 : (p : Int) + 1 < 64 := by omega
        have g2 : (p : Int) + 2 < 64 := by omega
        have g3 : (p : Int) + 3 < 64 := by omega
        have i0 : 0 ≤ (p : Int) := by omega
        have i1 : 0 ≤ (p : Int) + 1 := by omega
        have i2 : 0 ≤ (p : Int) + 2 := by omega
        have i3 : 0 ≤ (p : Int) + 3 := by omega
        have HV := Lib.hid (word_raw2 y0 y1 y2 y3 z0 z1 z2 z3)
        clear hg e0 e1 e2 e3 hp
        go_wp2
        go_still_tail 31, (by kernel_rfl)
        change wpList _ _ _ _ _ wr.drew
        have H0' := H0.drew
        have H1' := H1.drew
        have H2' := H2.drew
        have hB' := below_drew hB
        have cs' : wr.drew.cell? ⟨w.heap.size + 1 + 1, t, none⟩ = some ((arrW b t)[t]'(by rw [arrW_length b t ht]; omega)) := cs
        have fs' : wr.drew.frozen? ⟨w.heap.size + 1 + 1, t, none⟩ = false := fs
        clear H0 H1 H2 hB cs fs c0 c1 c2 c3 s0 s1 s2 s3 n1 n2 n3
        generalize wr.drew = wd at *
        go_wp2
        go_roundw
        case rel =>
          refine ⟨t + 1, by omega, by go_num, H0'.other (by simp; omega) _, H1'.other (by simp) _, ?_, hB'.setCell (by simp; omega) _⟩
          have := H2'.set t (wordV (nextW b (sched b t)))
          rw [arrW_set b t h64] at this
          have e : nextW b (sched b t) = BitVec.ofNat 32 y0 <<< 24 ||| BitVec.ofNat 32 y1 <<< 16 ||| BitVec.ofNat 32 y2 <<< 8 ||| BitVec.ofNat 32 y3 := by
            unfold nextW
            rw [sched_length, if_pos h16]
            unfold word
            rw [HE.out.1, HE.out.2.1, HE.out.2.2.1, HE.out.2.2.2]
          rw [e] at this
          unfold wordV at this
          rw [← HV.out] at this
          exact this
        case measure => simp [intOf]; omega
      · have hg : ∀ j, j < t → wr.cell? ⟨w.heap.size + 1 + 1, j, none⟩ = some (.int .u32 (u ((sched b t).getD j 0))) := fun j hj => H2.cell (arrW_get b t j hj)
        obtain ⟨x16, e16⟩ : ∃ x, (sched b t).getD (t - 16) 0 = x := ⟨_, rfl⟩
        obtain ⟨x15, e15⟩ : ∃ x, (sched b t).getD (t - 15) 0 = x := ⟨_, rfl⟩
        obtain ⟨x7, e7⟩ : ∃ x, (sched b t).getD (t - 7) 0 = x := ⟨_, rfl⟩
        obtain ⟨x2, e2⟩ : ∃ x, (sched b t).getD (t - 2) 0 = x := ⟨_, rfl⟩
        have c16 := hg (t - 16) (by omega)
        have c15 := hg (t - 15) (by omega)
        have c7 := hg (t - 7) (by omega)
        have c2 := hg (t - 2) (by omega)
        rw [e16] at c16
        rw [e15] at c15
        rw [e7] at c7
        rw [e2] at c2
        have HX : Hid (nextW b (sched b t) = x16 + sig0 x15 + x7 + sig1 x2) := by
          have e : nextW b (sched b t) = x16 + sig0 x15 + x7 + sig1 x2 := by
            unfold nextW
            rw [sched_length, if_neg h16, e16, e15, e7, e2]
          exact Lib.hid e
        obtain ⟨q16, k16⟩ : ∃ q, q + 16 = t := ⟨t - 16, by omega⟩
        obtain ⟨q15, k15⟩ : ∃ q, q + 15 = t := ⟨t - 15, by omega⟩
        obtain ⟨q7, k7⟩ : ∃ q, q + 7 = t := ⟨t - 7, by omega⟩
        obtain ⟨q2, k2⟩ : ∃ q, q + 2 = t := ⟨t - 2, by omega⟩
        rw [show t - 16 = q16 by omega] at c16
        rw [show t - 15 = q15 by omega] at c15
        rw [show t - 7 = q7 by omega] at c7
        rw [show t - 2 = q2 by omega] at c2
        have s16 : IntKind.i64.wrap ((t : Int) - 16) = (q16 : Int) := by rw [IntWalk.i64_in _ (by omega)]; omega
        have s15 : IntKind.i64.wrap ((t : Int) - 15) = (q15 : Int) := by rw [IntWalk.i64_in _ (by omega)]; omega
        have s7 : IntKind.i64.wrap ((t : Int) - 7) = (q7 : Int) := by rw [IntWalk.i64_in _ (by omega)]; omega
        have s2 : IntKind.i64.wrap ((t : Int) - 2) = (q2 : Int) := by rw [IntWalk.i64_in _ (by omega)]; omega
        have l16 : (q16 : Int) < 64 := by omega
        have l15 : (q15 : Int) < 64 := by omega
        have l7 : (q7 : Int) < 64 := by omega
        have l2 : (q2 : Int) < 64 := by omega
        have cs : wr.cell? ⟨w.heap.size + 1 + 1, t, none⟩ = some ((arrW b t)[t]'(by rw [arrW_length b t ht]; omega)) := H2.cell (List.getElem?_eq_getElem _)
        have fs := H2.free t
        have d16 : decide ((t : Int) < 16) = false := by simp; omega
        clear hg e16 e15 e7 e2 k16 k15 k7 k2
        go_wp2
        go_quiet (fail)
        generalize hwq : wr.drewN nq = wq
        have H0' : Blk wq _ _ _ := hwq ▸ H0.drewN nq
        have H1' : Blk wq _ _ _ := hwq ▸ H1.drewN nq
        have H2' : Blk wq _ _ _ := hwq ▸ H2.drewN nq
        have hB' : Below w.heap.size w wq := hwq ▸ below_drewN hB nq
        have c16' : wq.cell? ⟨w.heap.size + 1 + 1, q16, none⟩ = some (.int .u32 (u x16)) := hwq ▸ c16
        have c7' : wq.cell? ⟨w.heap.size + 1 + 1, q7, none⟩ = some (.int .u32 (u x7)) := hwq ▸ c7
        have cs' : wq.cell? ⟨w.heap.size + 1 + 1, t, none⟩ = some ((arrW b t)[t]'(by rw [arrW_length b t ht]; omega)) := hwq ▸ cs
        have fs' : wq.frozen? ⟨w.heap.size + 1 + 1, t, none⟩ = false := hwq ▸ fs
        clear H0 H1 H2 hB c16 c15 c7 c2 cs fs s15 s2 hwq
        go_wp2_with (first | (go_at_call 84; (with_reducible refine (rotl7 x15 _).mono ?_); rintro e w' ⟨rfl, rfl⟩) | (go_at_call 84; (with_reducible refine (rotl18 x15 _).mono ?_); rintro e w' ⟨rfl, rfl⟩) | (go_at_call 84; (with_reducible refine (rotl17 x2 _).mono ?_); rintro e w' ⟨rfl, rfl⟩) | (go_at_call 84; (with_reducible refine (rotl19 x2 _).mono ?_); rintro e w' ⟨rfl, rfl⟩))
        rw [sig0_raw, sig1_raw]
        go_still_tail 15, (by kernel_rfl)
        change wpList _ _ _ _ _ wq.drew
        have H0 := H0'.drew
        have H1 := H1'.drew
        have H2 := H2'.drew
        have hB := below_drew hB'
        have cs : wq.drew.cell? ⟨w.heap.size + 1 + 1, t, none⟩ = some ((arrW b t)[t]'(by rw [arrW_length b t ht]; omega)) := cs'
        have fs : wq.drew.frozen? ⟨w.heap.size + 1 + 1, t, none⟩ = false := fs'
        clear H0' H1' H2' hB' cs' fs' c16' c7' s16 s7
        generalize wq.drew = wd at *
        go_wp2
        go_roundw
        case rel =>
          refine ⟨t + 1, by omega, by go_num, H0.other (by simp; omega) _, H1.other (by simp) _, ?_, hB.setCell (by simp; omega) _⟩
          have := H2.set t (wordV (nextW b (sched b t)))
          rw [arrW_set b t h64, HX.out] at this
          unfold wordV at this
          rw [← add4] at this
          exact this
        case measure => simp [intOf]; omega
    · obtain rfl : t = 64 := by omega
      rw [arrW_all] at H2
      have hl : (wordsV (sched b 64)).length = 64 := by rw [wordsV_length, sched_length]
      have h1 : ∀ v ∈ wordsV (sched b 64), v.oneCell' = true := fun v hv => by obtain ⟨y, _, rfl⟩ := List.mem_map.1 hv; rfl
      go_wp2_with (first | (refine load_blk rfl 129 (.tmp 3) rfl H2 rfl Tryd.underlying129 (m := 64) (by kernel_rfl) hl ?_) | (refine store_blk rfl 129 (.tmp 2) (.tmp 85) rfl H1 rfl rfl (m := 64) (by kernel_rfl) hl (by simp) h1 ?_))
      intro w' hb' ho'
      go_wp2
      exact bodyPost_ret (v := .agg (wordsV (sched b 64)).toArray) (hb'.result (p := 2) (ty := 129) rfl _ rfl Tryd.underlying129 (by rw [hl]; kernel_rfl)) rfl ⟨rfl, ho'.2.2 _ _ (by omega) hB⟩

end Go.Proofs.YtfhfmdnimebegaaDoor
