/-
  The package hash by its contracts. Conditions: as each theorem states them; no axiom beyond propext, Classical.choice, Quot.sound.
-/
import Derived.Test.YtfhfmdnimebegaaDoorEw
import Derived.Test.YtfhfmdnimebegaaDoorE0
import Derived.Deep.QuietTactic
import Derived.BigQuiet
import Derived.IntWalk
import Derived.StillTailTactics
import Derived.Deep.Cut
import Derived.Lib.LazyBuf
import Derived.Lib.Strings
import Derived.Deep.CutBlock
import Derived.Deep.RegionWith
import Derived.Deep.RegionHeld3
import Derived.Deep.DeepCutAuto
import Derived.Deep.RegionLaw
import Derived.Deep.AppendLies
import Derived.Lib.SlBytesConst
import Derived.Stop.BytesEq
import Derived.Test.YtfhfmdnimebegaaDoorCards
import Derived.Test.YtfhfmdnimebegaaDoorTie
import Derived.WalkKit
import Derived.ProofKit
import Derived.OpenShut
import Derived.Deep.DeepHandedRow
import Derived.Lib.LaidTab

/-
  hash.schedule returns the words of all rounds.
-/
namespace Go.Proofs.YtfhfmdnimebegaaDoor
set_option linter.unusedVariables false
set_option linter.unusedSimpArgs false
open Go.RowKit

def wordV (x : BitVec 32) : Value := .int .u32 (u x)
def wordsV (l : List (BitVec 32)) : List Value := l.map wordV
theorem wordsV_length (l : List (BitVec 32)) : (wordsV l).length = l.length := by simp [wordsV]
/-- A block of 64 bytes. -/
def Byts (b : List Nat) : Prop := b.length = 64 ∧ ∀ y ∈ b, y < 256
/-- The array of the words, when the first t of them have been found. -/
def arrW (b : List Nat) (t : Nat) : List Value := wordsV (sched b t) ++ List.replicate (64 - t) (wordV 0)
theorem arrW_length (b : List Nat) (t : Nat) (h : t ≤ 64) : (arrW b t).length = 64 := by
  simp [arrW, wordsV, sched_length]; omega
theorem arrW_set (b : List Nat) (t : Nat) (h : t < 64) : (arrW b t).set t (wordV (nextW b (sched b t))) = arrW b (t + 1) := by
  have hl : (wordsV (sched b t)).length = t := by rw [wordsV_length, sched_length]
  unfold arrW
  rw [List.set_append_right _ _ (by omega), hl, Nat.sub_self, sched]
  obtain ⟨k, hk⟩ : ∃ k, 64 - t = k + 1 := ⟨63 - t, by omega⟩
  rw [hk, List.replicate_succ, List.set_cons_zero, show 64 - (t + 1) = k by omega]
  simp [wordsV]
theorem arrW_get (b : List Nat) (t i : Nat) (h : i < t) : (arrW b t)[i]? = some (.int .u32 (u ((sched b t).getD i 0))) := by
  have hl : i < (sched b t).length := by rw [sched_length]; exact h
  unfold arrW wordsV
  rw [List.getElem?_append_left (by simpa using hl), List.getElem?_map, List.getElem?_eq_getElem hl]
  simp [wordV, hl]
theorem arrW_all (b : List Nat) : arrW b 64 = wordsV (sched b 64) := by simp [arrW]

theorem u_byte (y : Nat) (h : y < 256) : IntKind.u32.wrap (y : Int) = u (BitVec.ofNat 32 y) := by
  rw [wrap_u32]
  unfold u
  rw [BitVec.toNat_ofNat]
theorem u_shl24 (x : BitVec 32) : IntKind.u32.wrap (u x * 16777216) = u (x <<< 24) := u_shl x 24
theorem u_shl16 (x : BitVec 32) : IntKind.u32.wrap (u x * 65536) = u (x <<< 16) := u_shl x 16
theorem u_shl8 (x : BitVec 32) : IntKind.u32.wrap (u x * 256) = u (x <<< 8) := u_shl x 8

theorem word_raw (y0 y1 y2 y3 : Nat) (h0 : y0 < 256) (h1 : y1 < 256) (h2 : y2 < 256) (h3 : y3 < 256) :
    bits BinOp.or IntKind.u32 (bits BinOp.or IntKind.u32 (bits BinOp.or IntKind.u32 (IntKind.u32.wrap (IntKind.u32.wrap (y0 : Int) * 16777216)) (IntKind.u32.wrap (IntKind.u32.wrap (y1 : Int) * 65536))) (IntKind.u32.wrap (IntKind.u32.wrap (y2 : Int) * 256))) (IntKind.u32.wrap (y3 : Int)) =
      u (BitVec.ofNat 32 y0 <<< 24 ||| BitVec.ofNat 32 y1 <<< 16 ||| BitVec.ofNat 32 y2 <<< 8 ||| BitVec.ofNat 32 y3) := by
  rw [u_byte y0 h0, u_byte y1 h1, u_byte y2 h2, u_byte y3 h3, u_shl24, u_shl16, u_shl8, u_or, u_or, u_or]
theorem wrap_small (z : Int) (h0 : 0 ≤ z) (h1 : z < 4294967296) : IntKind.u32.wrap z = z := by
  simp [IntKind.wrap, IntKind.signed, IntKind.bits]
  omega
theorem word_raw2 (y0 y1 y2 y3 : Nat) (h0 : y0 < 256) (h1 : y1 < 256) (h2 : y2 < 256) (h3 : y3 < 256) :
    bits BinOp.or IntKind.u32 (bits BinOp.or IntKind.u32 (bits BinOp.or IntKind.u32 ((y0 : Int) * 16777216) ((y1 : Int) * 65536)) ((y2 : Int) * 256)) (y3 : Int) =
      u (BitVec.ofNat 32 y0 <<< 24 ||| BitVec.ofNat 32 y1 <<< 16 ||| BitVec.ofNat 32 y2 <<< 8 ||| BitVec.ofNat 32 y3) := by
  have := word_raw y0 y1 y2 y3 h0 h1 h2 h3
  rw [wrap_small (y0 : Int) (by omega) (by omega), wrap_small (y1 : Int) (by omega) (by omega), wrap_small (y2 : Int) (by omega) (by omega), wrap_small (y3 : Int) (by omega) (by omega), wrap_small ((y0 : Int) * 16777216) (by omega) (by omega),
    wrap_small ((y1 : Int) * 65536) (by omega) (by omega), wrap_small ((y2 : Int) * 256) (by omega) (by omega)] at this
  exact this

theorem sig0_raw (x : BitVec 32) : bits BinOp.xor IntKind.u32 (bits BinOp.xor IntKind.u32 (u (rot x 7)) (u (rot x 18))) (u x / 8) = u (sig0 x) := by
  have h := u_shr x 3
  rw [show (2 : Int) ^ 3 = 8 by decide] at h
  rw [h, u_xor, u_xor]; rfl
theorem sig1_raw (x : BitVec 32) : bits BinOp.xor IntKind.u32 (bits BinOp.xor IntKind.u32 (u (rot x 17)) (u (rot x 19))) (u x / 1024) = u (sig1 x) := by
  have h := u_shr x 10
  rw [show (2 : Int) ^ 10 = 1024 by decide] at h
  rw [h, u_xor, u_xor]; rfl
theorem add_u (a b : BitVec 32) : (u a + u b) % 4294967296 = u (a + b) := by
  unfold u
  rw [BitVec.toNat_add]
  omega
theorem add4 (a b c d : BitVec 32) : (u a + u b + u c + u d) % 4294967296 = u (a + b + c + d) := by
  rw [← add_u (a + b + c) d, ← add_u (a + b) c, ← add_u a b]
  omega

set_option maxHeartbeats 2000000 in
set_option maxRecDepth 100000 in
theorem schedule_any (b : List Nat) (hb : Byts b) (w : World) :
    Calls Tryd.prog 83 #[.agg (bytesV b).toArray] w fun e w' => e = .returned (.agg (wordsV (sched b 64)).toArray) ∧ Below w.heap.size w w' := by
  go_enter Tryd.func83, Tryd.ntmps83
  go_wp2
  go_loopw [9] (fun i wr => ∃ t : Nat, t ≤ 64 ∧ i = .int .i64 t ∧ Blk wr w.heap.size 120 (bytesV b) ∧ Blk wr (w.heap.size + 1) 129 (List.replicate 64 (wordV 0)) ∧ Blk wr (w.heap.size + 1 + 1) 129 (arrW b t) ∧ Below w.heap.size w wr) (fun i _ => 64 - (intOf i).toNat)
  case atStart =>
    refine ⟨0, by omega, rfl, ?_, ?_, ?_, ?_⟩
    · have := (blk_new w 120 (bytesV b).toArray).alloc
      exact (((blk_new w 120 (bytesV b).toArray).alloc _).alloc _)
    · have := blk_new (w.alloc (.cells (bytesV b).toArray 120)) 129 (List.replicate 64 (wordV 0)).toArray
      rw [World.size_alloc] at this
      exact this.alloc _
    · have := blk_new ((w.alloc (.cells (bytesV b).toArray 120)).alloc (.cells (List.replicate 64 (wordV 0)).toArray 129)) 129 (List.replicate 64 (wordV 0)).toArray
      rw [World.size_alloc, World.size_alloc] at this
      exact this
    · exact (((Below.refl _ _).alloc (Nat.le_refl _) _).alloc (by simp) _).alloc (by simp; omega) _
  case round =>
    obtain ⟨t, ht, rfl, H0, H1, H2, hB⟩ := hrel
    by_cases h64 : t < 64
    · by_cases h16 : t < 16
      · have hg : ∀ j, j < 64 → ∃ y : Nat, y < 256 ∧ b.getD j 0 = y ∧ wr.cell? ⟨w.heap.size, j, none⟩ = some (.int .u8 (y : Int)) := by
          intro j hj
          have hjl : j < b.length := by have := hb.1; omega
          refine ⟨b[j], hb.2 _ (List.getElem_mem hjl), by simp [hjl], H0.cell ?_⟩
          simp [bytesV, byteV, hjl]
        obtain ⟨p, hp⟩ : ∃ p, p = 4 * t := ⟨_, rfl⟩
        obtain ⟨y0, z0, e0, c0⟩ := hg p (by omega)
        obtain ⟨y1, z1, e1, c1⟩ := hg (p + 1) (by omega)
        obtain ⟨y2, z2, e2, c2⟩ := hg (p + 2) (by omega)
        obtain ⟨y3, z3, e3, c3⟩ := hg (p + 3) (by omega)
        rw [hp] at e0 e1 e2 e3
        have HE : Hid (b.getD (4 * t) 0 = y0 ∧ b.getD (4 * t + 1) 0 = y1 ∧ b.getD (4 * t + 2) 0 = y2 ∧ b.getD (4 * t + 3) 0 = y3) := Lib.hid ⟨e0, e1, e2, e3⟩
        have cs : wr.cell? ⟨w.heap.size + 1 + 1, t, none⟩ = some ((arrW b t)[t]'(by rw [arrW_length b t ht]; omega)) := H2.cell (List.getElem?_eq_getElem _)
        have fs := H2.free t
        have s0 : IntKind.i64.wrap (4 * (t : Int)) = (p : Int) := by rw [IntWalk.i64_in _ (by omega)]; omega
        have s1 : IntKind.i64.wrap ((p : Int) + 1) = (p : Int) + 1 := IntWalk.i64_in _ (by omega)
        have s2 : IntKind.i64.wrap ((p : Int) + 2) = (p : Int) + 2 := IntWalk.i64_in _ (by omega)
        have s3 : IntKind.i64.wrap ((p : Int) + 3) = (p : Int) + 3 := IntWalk.i64_in _ (by omega)
        have n1 : ((p : Int) + 1).toNat = p + 1 := by omega
        have n2 : ((p : Int) + 2).toNat = p + 2 := by omega
        have n3 : ((p : Int) + 3).toNat = p + 3 := by omega
        have g0 : (p : Int) < 64 := by omega
        have g1 : (p : Int) + 1 < 64 := by omega
        have g2 : (p : Int) + 2 < 64 := by omega
        have g3 : (p : Int) + 3 < 64 := by omega
        have i0 : 0 ≤ (p : Int) := by omega
        have i1 : 0 ≤ (p : Int) + 1 := by omega
        have i2 : 0 ≤ (p : Int) + 2 := by omega
        have i3 : 0 ≤ (p : Int) + 3 := by omega
        have HV := Lib.hid (word_raw2 y0 y1 y2 y3 z0 z1 z2 z3)
        clear hg e0 e1 e2 e3 hp
        go_wp2
        go_still_tail 31, (by kernel_rfl)
        change wpList _ _ _ _ _ wr.drew
        have H0' := H0.drew
        have H1' := H1.drew
        have H2' := H2.drew
        have hB' := below_drew hB
        have cs' : wr.drew.cell? ⟨w.heap.size + 1 + 1, t, none⟩ = some ((arrW b t)[t]'(by rw [arrW_length b t ht]; omega)) := cs
        have fs' : wr.drew.frozen? ⟨w.heap.size + 1 + 1, t, none⟩ = false := fs
        clear H0 H1 H2 hB cs fs c0 c1 c2 c3 s0 s1 s2 s3 n1 n2 n3
        generalize wr.drew = wd at *
        go_wp2
        go_roundw
        case rel =>
          refine ⟨t + 1, by omega, by go_num, H0'.other (by simp; omega) _, H1'.other (by simp) _, ?_, hB'.setCell (by simp; omega) _⟩
          have := H2'.set t (wordV (nextW b (sched b t)))
          rw [arrW_set b t h64] at this
          have e : nextW b (sched b t) = BitVec.ofNat 32 y0 <<< 24 ||| BitVec.ofNat 32 y1 <<< 16 ||| BitVec.ofNat 32 y2 <<< 8 ||| BitVec.ofNat 32 y3 := by
            unfold nextW
            rw [sched_length, if_pos h16]
            unfold word
            rw [HE.out.1, HE.out.2.1, HE.out.2.2.1, HE.out.2.2.2]
          rw [e] at this
          unfold wordV at this
          rw [← HV.out] at this
          exact this
        case measure => simp [intOf]; omega
      · have hg : ∀ j, j < t → wr.cell? ⟨w.heap.size + 1 + 1, j, none⟩ = some (.int .u32 (u ((sched b t).getD j 0))) := fun j hj => H2.cell (arrW_get b t j hj)
        obtain ⟨x16, e16⟩ : ∃ x, (sched b t).getD (t - 16) 0 = x := ⟨_, rfl⟩
        obtain ⟨x15, e15⟩ : ∃ x, (sched b t).getD (t - 15) 0 = x := ⟨_, rfl⟩
        obtain ⟨x7, e7⟩ : ∃ x, (sched b t).getD (t - 7) 0 = x := ⟨_, rfl⟩
        obtain ⟨x2, e2⟩ : ∃ x, (sched b t).getD (t - 2) 0 = x := ⟨_, rfl⟩
        have c16 := hg (t - 16) (by omega)
        have c15 := hg (t - 15) (by omega)
        have c7 := hg (t - 7) (by omega)
        have c2 := hg (t - 2) (by omega)
        rw [e16] at c16
        rw [e15] at c15
        rw [e7] at c7
        rw [e2] at c2
        have HX : Hid (nextW b (sched b t) = x16 + sig0 x15 + x7 + sig1 x2) := by
          have e : nextW b (sched b t) = x16 + sig0 x15 + x7 + sig1 x2 := by
            unfold nextW
            rw [sched_length, if_neg h16, e16, e15, e7, e2]
          exact Lib.hid e
        obtain ⟨q16, k16⟩ : ∃ q, q + 16 = t := ⟨t - 16, by omega⟩
        obtain ⟨q15, k15⟩ : ∃ q, q + 15 = t := ⟨t - 15, by omega⟩
        obtain ⟨q7, k7⟩ : ∃ q, q + 7 = t := ⟨t - 7, by omega⟩
        obtain ⟨q2, k2⟩ : ∃ q, q + 2 = t := ⟨t - 2, by omega⟩
        rw [show t - 16 = q16 by omega] at c16
        rw [show t - 15 = q15 by omega] at c15
        rw [show t - 7 = q7 by omega] at c7
        rw [show t - 2 = q2 by omega] at c2
        have s16 : IntKind.i64.wrap ((t : Int) - 16) = (q16 : Int) := by rw [IntWalk.i64_in _ (by omega)]; omega
        have s15 : IntKind.i64.wrap ((t : Int) - 15) = (q15 : Int) := by rw [IntWalk.i64_in _ (by omega)]; omega
        have s7 : IntKind.i64.wrap ((t : Int) - 7) = (q7 : Int) := by rw [IntWalk.i64_in _ (by omega)]; omega
        have s2 : IntKind.i64.wrap ((t : Int) - 2) = (q2 : Int) := by rw [IntWalk.i64_in _ (by omega)]; omega
        have l16 : (q16 : Int) < 64 := by omega
        have l15 : (q15 : Int) < 64 := by omega
        have l7 : (q7 : Int) < 64 := by omega
        have l2 : (q2 : Int) < 64 := by omega
        have cs : wr.cell? ⟨w.heap.size + 1 + 1, t, none⟩ = some ((arrW b t)[t]'(by rw [arrW_length b t ht]; omega)) := H2.cell (List.getElem?_eq_getElem _)
        have fs := H2.free t
        have d16 : decide ((t : Int) < 16) = false := by simp; omega
        clear hg e16 e15 e7 e2 k16 k15 k7 k2
        go_wp2
        go_quiet (fail)
        generalize hwq : wr.drewN nq = wq
        have H0' : Blk wq _ _ _ := hwq ▸ H0.drewN nq
        have H1' : Blk wq _ _ _ := hwq ▸ H1.drewN nq
        have H2' : Blk wq _ _ _ := hwq ▸ H2.drewN nq
        have hB' : Below w.heap.size w wq := hwq ▸ below_drewN hB nq
        have c16' : wq.cell? ⟨w.heap.size + 1 + 1, q16, none⟩ = some (.int .u32 (u x16)) := hwq ▸ c16
        have c7' : wq.cell? ⟨w.heap.size + 1 + 1, q7, none⟩ = some (.int .u32 (u x7)) := hwq ▸ c7
        have cs' : wq.cell? ⟨w.heap.size + 1 + 1, t, none⟩ = some ((arrW b t)[t]'(by rw [arrW_length b t ht]; omega)) := hwq ▸ cs
        have fs' : wq.frozen? ⟨w.heap.size + 1 + 1, t, none⟩ = false := hwq ▸ fs
        clear H0 H1 H2 hB c16 c15 c7 c2 cs fs s15 s2 hwq
        go_wp2_with (first | (go_at_call 84; (with_reducible refine (rotl7 x15 _).mono ?_); rintro e w' ⟨rfl, rfl⟩) | (go_at_call 84; (with_reducible refine (rotl18 x15 _).mono ?_); rintro e w' ⟨rfl, rfl⟩) | (go_at_call 84; (with_reducible refine (rotl17 x2 _).mono ?_); rintro e w' ⟨rfl, rfl⟩) | (go_at_call 84; (with_reducible refine (rotl19 x2 _).mono ?_); rintro e w' ⟨rfl, rfl⟩))
        rw [sig0_raw, sig1_raw]
        go_still_tail 15, (by kernel_rfl)
        change wpList _ _ _ _ _ wq.drew
        have H0 := H0'.drew
        have H1 := H1'.drew
        have H2 := H2'.drew
        have hB := below_drew hB'
        have cs : wq.drew.cell? ⟨w.heap.size + 1 + 1, t, none⟩ = some ((arrW b t)[t]'(by rw [arrW_length b t ht]; omega)) := cs'
        have fs : wq.drew.frozen? ⟨w.heap.size + 1 + 1, t, none⟩ = false := fs'
        clear H0' H1' H2' hB' cs' fs' c16' c7' s16 s7
        generalize wq.drew = wd at *
        go_wp2
        go_roundw
        case rel =>
          refine ⟨t + 1, by omega, by go_num, H0.other (by simp; omega) _, H1.other (by simp) _, ?_, hB.setCell (by simp; omega) _⟩
          have := H2.set t (wordV (nextW b (sched b t)))
          rw [arrW_set b t h64, HX.out] at this
          unfold wordV at this
          rw [← add4] at this
          exact this
        case measure => simp [intOf]; omega
    · obtain rfl : t = 64 := by omega
      rw [arrW_all] at H2
      have hl : (wordsV (sched b 64)).length = 64 := by rw [wordsV_length, sched_length]
      have h1 : ∀ v ∈ wordsV (sched b 64), v.oneCell' = true := fun v hv => by obtain ⟨y, _, rfl⟩ := List.mem_map.1 hv; rfl
      go_wp2_with (first | (refine load_blk rfl 129 (.tmp 3) rfl H2 rfl Tryd.underlying129 (m := 64) (by kernel_rfl) hl ?_) | (refine store_blk rfl 129 (.tmp 2) (.tmp 85) rfl H1 rfl rfl (m := 64) (by kernel_rfl) hl (by simp) h1 ?_))
      intro w' hb' ho'
      go_wp2
      exact bodyPost_ret (v := .agg (wordsV (sched b 64)).toArray) (hb'.result (p := 2) (ty := 129) rfl _ rfl Tryd.underlying129 (by rw [hl]; kernel_rfl)) rfl ⟨rfl, ho'.2.2 _ _ (by omega) hB⟩

end Go.Proofs.YtfhfmdnimebegaaDoor

/-
  hash.compress returns the hash value after one more block.
-/
namespace Go.Proofs.YtfhfmdnimebegaaDoor
set_option linter.unusedVariables false
set_option linter.unusedSimpArgs false
open Go.RowKit

def stL (s : St) : List (BitVec 32) := [s.a, s.b, s.c, s.d, s.e, s.f, s.g, s.h]
/-- The package's tables lie where they were laid. -/
def Glob (w : World) : Prop := w.rangeAt 2 0 (wordsV kk) ∧ w.rangeAt 1 0 (wordsV (stL st0)) ∧ 2 < w.heap.size ∧ 1 < w.heap.size
theorem Glob.keep {w w' : World} (h : Glob w) (hb : Below w.heap.size w w') : Glob w' :=
  ⟨fun j v hj => (hb.cell (p := ⟨_, _, none⟩) h.2.2.1).trans (h.1 j v hj), fun j v hj => (hb.cell (p := ⟨_, _, none⟩) h.2.2.2).trans (h.2.1 j v hj), Nat.lt_of_lt_of_le h.2.2.1 hb.size, Nat.lt_of_lt_of_le h.2.2.2 hb.size⟩
theorem words_get {l : List (BitVec 32)} {k : Nat} (h : k < l.length) : (wordsV l)[k]? = some (.int .u32 (u (l.getD k 0))) := by
  unfold wordsV
  rw [List.getElem?_map, List.getElem?_eq_getElem h]
  simp [wordV, h]
theorem kk_length : kk.length = 64 := by decide +kernel
theorem Glob.round {w : World} (h : Glob w) (k : Nat) (hk : k < 64) : w.cell? ⟨2, k, none⟩ = some (.int .u32 (u (kk.getD k 0))) := by
  have := h.1 k _ (words_get (by rw [kk_length]; exact hk))
  rwa [Nat.zero_add] at this

theorem rotq2 (x : BitVec 32) (w : World) : Calls Tryd.prog 84 #[.int .u32 (u x), .int .i64 (-2)] w fun e w' => e = .returned (.int .u32 (u (rot x 2))) ∧ w' = w := (rotl2 x w).mono fun _ _ h => ⟨h.1, h.2.symm⟩
theorem rotq6 (x : BitVec 32) (w : World) : Calls Tryd.prog 84 #[.int .u32 (u x), .int .i64 (-6)] w fun e w' => e = .returned (.int .u32 (u (rot x 6))) ∧ w' = w := (rotl6 x w).mono fun _ _ h => ⟨h.1, h.2.symm⟩
theorem rotq7 (x : BitVec 32) (w : World) : Calls Tryd.prog 84 #[.int .u32 (u x), .int .i64 (-7)] w fun e w' => e = .returned (.int .u32 (u (rot x 7))) ∧ w' = w := (rotl7 x w).mono fun _ _ h => ⟨h.1, h.2.symm⟩
theorem rotq11 (x : BitVec 32) (w : World) : Calls Tryd.prog 84 #[.int .u32 (u x), .int .i64 (-11)] w fun e w' => e = .returned (.int .u32 (u (rot x 11))) ∧ w' = w := (rotl11 x w).mono fun _ _ h => ⟨h.1, h.2.symm⟩
theorem rotq13 (x : BitVec 32) (w : World) : Calls Tryd.prog 84 #[.int .u32 (u x), .int .i64 (-13)] w fun e w' => e = .returned (.int .u32 (u (rot x 13))) ∧ w' = w := (rotl13 x w).mono fun _ _ h => ⟨h.1, h.2.symm⟩
theorem rotq17 (x : BitVec 32) (w : World) : Calls Tryd.prog 84 #[.int .u32 (u x), .int .i64 (-17)] w fun e w' => e = .returned (.int .u32 (u (rot x 17))) ∧ w' = w := (rotl17 x w).mono fun _ _ h => ⟨h.1, h.2.symm⟩
theorem rotq18 (x : BitVec 32) (w : World) : Calls Tryd.prog 84 #[.int .u32 (u x), .int .i64 (-18)] w fun e w' => e = .returned (.int .u32 (u (rot x 18))) ∧ w' = w := (rotl18 x w).mono fun _ _ h => ⟨h.1, h.2.symm⟩
theorem rotq19 (x : BitVec 32) (w : World) : Calls Tryd.prog 84 #[.int .u32 (u x), .int .i64 (-19)] w fun e w' => e = .returned (.int .u32 (u (rot x 19))) ∧ w' = w := (rotl19 x w).mono fun _ _ h => ⟨h.1, h.2.symm⟩
theorem rotq22 (x : BitVec 32) (w : World) : Calls Tryd.prog 84 #[.int .u32 (u x), .int .i64 (-22)] w fun e w' => e = .returned (.int .u32 (u (rot x 22))) ∧ w' = w := (rotl22 x w).mono fun _ _ h => ⟨h.1, h.2.symm⟩
theorem rotq25 (x : BitVec 32) (w : World) : Calls Tryd.prog 84 #[.int .u32 (u x), .int .i64 (-25)] w fun e w' => e = .returned (.int .u32 (u (rot x 25))) ∧ w' = w := (rotl25 x w).mono fun _ _ h => ⟨h.1, h.2.symm⟩

theorem not_raw (x : BitVec 32) : bits BinOp.xor IntKind.u32 (if IntKind.u32.signed = true then -1 else IntKind.u32.max) (u x) = u (~~~x) := by
  have h : (if IntKind.u32.signed = true then -1 else IntKind.u32.max) = u (BitVec.allOnes 32) := by decide
  rw [h, u_xor, BitVec.allOnes_xor]
theorem add5 (a b c d e : BitVec 32) : (u a + u b + u c + u d + u e) % 4294967296 = u (a + b + c + d + e) := by
  rw [← add_u (a + b + c + d) e, ← add_u (a + b + c) d, ← add_u (a + b) c, ← add_u a b]
  omega
theorem x_raw (a b c d e f g h k x : BitVec 32) :
    (u h + bits BinOp.xor IntKind.u32 (bits BinOp.xor IntKind.u32 (u (rot e 6)) (u (rot e 11))) (u (rot e 25)) +
      bits BinOp.xor IntKind.u32 (bits BinOp.and IntKind.u32 (u e) (u f)) (bits BinOp.and IntKind.u32 (bits BinOp.xor IntKind.u32 (if IntKind.u32.signed = true then -1 else IntKind.u32.max) (u e)) (u g)) + u k + u x) % 4294967296 =
      u (rx ⟨a, b, c, d, e, f, g, h⟩ k x) := by
  rw [not_raw, u_xor, u_xor, u_and, u_and, u_xor, add5]
  rfl
theorem y_raw (a b c d e f g h : BitVec 32) :
    (bits BinOp.xor IntKind.u32 (bits BinOp.xor IntKind.u32 (u (rot a 2)) (u (rot a 13))) (u (rot a 22)) +
      bits BinOp.xor IntKind.u32 (bits BinOp.xor IntKind.u32 (bits BinOp.and IntKind.u32 (u a) (u b)) (bits BinOp.and IntKind.u32 (u a) (u c))) (bits BinOp.and IntKind.u32 (u b) (u c))) % 4294967296 =
      u (ry ⟨a, b, c, d, e, f, g, h⟩) := by
  rw [u_xor, u_xor, u_and, u_and, u_and, u_xor, u_xor, add_u]
  rfl

set_option maxHeartbeats 4000000 in
set_option maxRecDepth 100000 in
theorem compress_any (s : St) (b : List Nat) (hb : Byts b) (w : World) (hG : Glob w) :
    Calls Tryd.prog 80 #[.agg (wordsV (stL s)).toArray, .agg (bytesV b).toArray] w fun e w' => e = .returned (.agg (wordsV (stL (comp s b))).toArray) ∧ Below w.heap.size w w' := by
  have hbl : (bytesV b).length = 64 := by rw [bytesV_length]; exact hb.1
  obtain ⟨sa, sb', sc, sd, se, sf, sg, sh⟩ := s
  go_enter Tryd.func80, Tryd.ntmps80
  go_upto_region 1 with (fail)
  generalize hw0 : World.alloc _ _ = W0
  have H0 : Blk W0 w.heap.size 119 (wordsV [sa, sb', sc, sd, se, sf, sg, sh]) := hw0 ▸ ((blk_new w _ _).alloc _).alloc _
  have H1 : Blk W0 (w.heap.size + 1) 120 (bytesV b) := hw0 ▸ (blk_new1 w _ _ _).alloc _
  have H2 : Blk W0 (w.heap.size + 1 + 1) 119 (List.replicate 8 (wordV 0)) := hw0 ▸ blk_new2 w _ _ _ _
  have hB0 : Below w.heap.size w W0 := hw0 ▸ (((Below.refl _ _).alloc (Nat.le_refl _) _).alloc (by simp) _).alloc (by simp; omega) _
  have hz0 : w.heap.size + 2 < W0.heap.size := by rw [← hw0]; simp
  clear hw0
  go_upto_region 2 with (first | (refine load_blk rfl 120 (.tmp 3) rfl H1 rfl Tryd.underlying120 (m := 64) (by kernel_rfl) hbl ?_) | (go_at_call 83; refine (schedule_any b hb _).mono ?_; rintro e w1 ⟨rfl, hB1⟩) | (refine store_blk rfl 129 (.tmp 5) (.tmp 20) rfl (blk_new w1 _ _) rfl rfl (m := 64) (by kernel_rfl) (by rw [wordsV_length, sched_length]) rfl (fun v hv => by obtain ⟨y, _, rfl⟩ := List.mem_map.1 hv; rfl) ?_; intro w2 H5 hO))
  have hs1 := hB1.size
  have K0 : Blk w2 w.heap.size 119 (wordsV [sa, sb', sc, sd, se, sf, sg, sh]) := hO.2.1 _ _ _ (by omega) ((H0.keep hB1).alloc _)
  have K2 : Blk w2 (w.heap.size + 1 + 1) 119 (List.replicate 8 (wordV 0)) := hO.2.1 _ _ _ (by omega) ((H2.keep hB1).alloc _)
  have KB : Below w.heap.size w w2 := hO.2.2 _ _ (by omega) ((hB0.trans (hB1.mono (by omega))).alloc (by omega) _)
  have KG := hG.keep KB
  have hb5 : w.heap.size + 2 < w1.heap.size := by omega
  clear H0 H1 H2 hB0 hB1 hO hG hs1 hz0
  generalize w1.heap.size = B5 at *
  have a0 : w2.cell? ⟨w.heap.size, 0, none⟩ = some (.int .u32 (u sa)) := K0.cell rfl
  have a1 : w2.cell? ⟨w.heap.size, 1, none⟩ = some (.int .u32 (u sb')) := K0.cell rfl
  have a2 : w2.cell? ⟨w.heap.size, 2, none⟩ = some (.int .u32 (u sc)) := K0.cell rfl
  have a3 : w2.cell? ⟨w.heap.size, 3, none⟩ = some (.int .u32 (u sd)) := K0.cell rfl
  have a4 : w2.cell? ⟨w.heap.size, 4, none⟩ = some (.int .u32 (u se)) := K0.cell rfl
  have a5 : w2.cell? ⟨w.heap.size, 5, none⟩ = some (.int .u32 (u sf)) := K0.cell rfl
  have a6 : w2.cell? ⟨w.heap.size, 6, none⟩ = some (.int .u32 (u sg)) := K0.cell rfl
  have a7 : w2.cell? ⟨w.heap.size, 7, none⟩ = some (.int .u32 (u sh)) := K0.cell rfl
  go_quiet (fail)
  clear a0 a1 a2 a3 a4 a5 a6 a7
  replace K0 := K0.drewN nq
  replace K2 := K2.drewN nq
  replace H5 := H5.drewN nq
  replace KB := below_drewN KB nq
  replace KG : Glob (w2.drewN nq) := KG
  generalize w2.drewN nq = w4 at *
  go_wp2
  go_loopw [6, 7, 8, 9, 10, 11, 12, 13, 37] (fun va vb vc vd ve vf vg vh i wr => ∃ k : Nat, k ≤ 64 ∧ i = .int .i64 k ∧ ∃ ra rb rc rd re rf rg rh, Hid ((⟨ra, rb, rc, rd, re, rf, rg, rh⟩ : St) = rnds kk (sched b 64) ⟨sa, sb', sc, sd, se, sf, sg, sh⟩ k) ∧ va = .int .u32 (u ra) ∧ vb = .int .u32 (u rb) ∧ vc = .int .u32 (u rc) ∧ vd = .int .u32 (u rd) ∧ ve = .int .u32 (u re) ∧ vf = .int .u32 (u rf) ∧ vg = .int .u32 (u rg) ∧ vh = .int .u32 (u rh) ∧
    Blk wr w.heap.size 119 (wordsV [sa, sb', sc, sd, se, sf, sg, sh]) ∧ Blk wr (w.heap.size + 1 + 1) 119 (List.replicate 8 (wordV 0)) ∧ Blk wr B5 129 (wordsV (sched b 64)) ∧ Glob wr ∧ Below w.heap.size w wr) (fun _ _ _ _ _ _ _ _ i _ => 64 - (intOf i).toNat)
  case atStart => exact ⟨0, by omega, rfl, sa, sb', sc, sd, se, sf, sg, sh, Lib.hid rfl, rfl, rfl, rfl, rfl, rfl, rfl, rfl, rfl, K0, K2, H5, KG, KB⟩
  case round =>
    clear K0 K2 H5 KG KB
    obtain ⟨k, hk, rfl, ra, rb, rc, rd, re, rf, rg, rh, HR, rfl, rfl, rfl, rfl, rfl, rfl, rfl, rfl, K0, K2, H5, KG, KB⟩ := hrel
    by_cases h64 : k < 64
    · have ck := KG.round k h64
      have cw : wr.cell? ⟨B5, k, none⟩ = some (.int .u32 (u ((sched b 64).getD k 0))) := H5.cell (words_get (by rw [sched_length]; exact h64))
      have HN : Hid (rnd ⟨ra, rb, rc, rd, re, rf, rg, rh⟩ (kk.getD k 0) ((sched b 64).getD k 0) = rnds kk (sched b 64) ⟨sa, sb', sc, sd, se, sf, sg, sh⟩ (k + 1)) := by
        have e : rnd ⟨ra, rb, rc, rd, re, rf, rg, rh⟩ (kk.getD k 0) ((sched b 64).getD k 0) = rnds kk (sched b 64) ⟨sa, sb', sc, sd, se, sf, sg, sh⟩ (k + 1) := by
          rw [rnds, ← HR.out]
        exact Lib.hid e
      generalize kk.getD k 0 = xk at ck HN
      generalize (sched b 64).getD k 0 = xw at cw HN
      clear HR
      go_upto_region 6 with (fail)
      go_quiet ((first | (go_at_call 84; with_reducible exact Calls.quiet_of_same (rotq6 re _)) | (go_at_call 84; with_reducible exact Calls.quiet_of_same (rotq11 re _)) | (go_at_call 84; with_reducible exact Calls.quiet_of_same (rotq25 re _))))
      generalize hwq : wr.drewN nq = wq
      replace K0 : Blk wq _ _ _ := hwq ▸ K0.drewN nq
      replace K2 : Blk wq _ _ _ := hwq ▸ K2.drewN nq
      replace H5 : Blk wq _ _ _ := hwq ▸ H5.drewN nq
      replace KB : Below w.heap.size w wq := hwq ▸ below_drewN KB nq
      replace KG : Glob wq := hwq ▸ KG
      clear ck cw hwq
      go_wp2_with (first | (go_at_call 84; (with_reducible refine (rotl2 ra _).mono ?_); rintro e w3 ⟨rfl, rfl⟩) | (go_at_call 84; (with_reducible refine (rotl13 ra _).mono ?_); rintro e w3 ⟨rfl, rfl⟩) | (go_at_call 84; (with_reducible refine (rotl22 ra _).mono ?_); rintro e w3 ⟨rfl, rfl⟩))
      go_roundw
      case rel =>
        have hx := x_raw ra rb rc rd re rf rg rh xk xw
        have hy := y_raw ra rb rc rd re rf rg rh
        exact ⟨k + 1, by omega, by go_num, rx ⟨ra, rb, rc, rd, re, rf, rg, rh⟩ xk xw + ry ⟨ra, rb, rc, rd, re, rf, rg, rh⟩, ra, rb, rc, rd + rx ⟨ra, rb, rc, rd, re, rf, rg, rh⟩ xk xw, re, rf, rg, HN, by rw [hx, hy, add_u], rfl, rfl, rfl, by rw [hx, add_u], rfl, rfl, rfl, K0, K2, H5, KG, KB⟩
      case measure => simp [intOf]; omega
    · obtain rfl : k = 64 := by omega
      clear H5 KG
      go_wp2
      go_loopw [109] (fun i wz => ∃ j : Nat, j ≤ 8 ∧ i = .int .i64 j ∧ Blk wz w.heap.size 119 (wordsV ([sa + ra, sb' + rb, sc + rc, sd + rd, se + re, sf + rf, sg + rg, sh + rh].take j ++ [sa, sb', sc, sd, se, sf, sg, sh].drop j)) ∧ Blk wz (w.heap.size + 1 + 1) 119 (List.replicate 8 (wordV 0)) ∧ Below w.heap.size w wz) (fun i _ => 8 - (intOf i).toNat)
      case atStart => exact ⟨0, by omega, rfl, K0, K2, KB⟩
      case round =>
        clear K0 K2 KB
        obtain ⟨j, hj, rfl, M0, M2, MB⟩ := hrel
        obtain rfl | rfl | rfl | rfl | rfl | rfl | rfl | rfl | rfl : j = 0 ∨ j = 1 ∨ j = 2 ∨ j = 3 ∨ j = 4 ∨ j = 5 ∨ j = 6 ∨ j = 7 ∨ j = 8 := by omega
        · have c0 : wr.cell? ⟨w.heap.size, 0, none⟩ = some (.int .u32 (u sa)) := M0.cell rfl
          have f0 := M0.free 0
          have i0 : ∀ w' : World, (Instr.index 119 (.agg #[.int .u32 (u ra), .int .u32 (u rb), .int .u32 (u rc), .int .u32 (u rd), .int .u32 (u re), .int .u32 (u rf), .int .u32 (u rg), .int .u32 (u rh)]) (.int .i64 0)).run Tryd.prog w' = .ok (.int .u32 (u ra)) w' := fun _ => rfl
          have hr := add_u sa ra
          go_wp2
          go_roundw
          case rel => exact ⟨1, by omega, rfl, M0.set 0 (.int .u32 (u (sa + ra))), M2.other (by simp; omega) _, MB.setCell (by simp) _⟩
          case measure => simp [intOf]
        · have c0 : wr.cell? ⟨w.heap.size, 1, none⟩ = some (.int .u32 (u sb')) := M0.cell rfl
          have f0 := M0.free 1
          have i0 : ∀ w' : World, (Instr.index 119 (.agg #[.int .u32 (u ra), .int .u32 (u rb), .int .u32 (u rc), .int .u32 (u rd), .int .u32 (u re), .int .u32 (u rf), .int .u32 (u rg), .int .u32 (u rh)]) (.int .i64 1)).run Tryd.prog w' = .ok (.int .u32 (u rb)) w' := fun _ => rfl
          have hr := add_u sb' rb
          go_wp2
          go_roundw
          case rel => exact ⟨2, by omega, rfl, M0.set 1 (.int .u32 (u (sb' + rb))), M2.other (by simp; omega) _, MB.setCell (by simp) _⟩
          case measure => simp [intOf]
        · have c0 : wr.cell? ⟨w.heap.size, 2, none⟩ = some (.int .u32 (u sc)) := M0.cell rfl
          have f0 := M0.free 2
          have i0 : ∀ w' : World, (Instr.index 119 (.agg #[.int .u32 (u ra), .int .u32 (u rb), .int .u32 (u rc), .int .u32 (u rd), .int .u32 (u re), .int .u32 (u rf), .int .u32 (u rg), .int .u32 (u rh)]) (.int .i64 2)).run Tryd.prog w' = .ok (.int .u32 (u rc)) w' := fun _ => rfl
          have hr := add_u sc rc
          go_wp2
          go_roundw
          case rel => exact ⟨3, by omega, rfl, M0.set 2 (.int .u32 (u (sc + rc))), M2.other (by simp; omega) _, MB.setCell (by simp) _⟩
          case measure => simp [intOf]
        · have c0 : wr.cell? ⟨w.heap.size, 3, none⟩ = some (.int .u32 (u sd)) := M0.cell rfl
          have f0 := M0.free 3
          have i0 : ∀ w' : World, (Instr.index 119 (.agg #[.int .u32 (u ra), .int .u32 (u rb), .int .u32 (u rc), .int .u32 (u rd), .int .u32 (u re), .int .u32 (u rf), .int .u32 (u rg), .int .u32 (u rh)]) (.int .i64 3)).run Tryd.prog w' = .ok (.int .u32 (u rd)) w' := fun _ => rfl
          have hr := add_u sd rd
          go_wp2
          go_roundw
          case rel => exact ⟨4, by omega, rfl, M0.set 3 (.int .u32 (u (sd + rd))), M2.other (by simp; omega) _, MB.setCell (by simp) _⟩
          case measure => simp [intOf]
        · have c0 : wr.cell? ⟨w.heap.size, 4, none⟩ = some (.int .u32 (u se)) := M0.cell rfl
          have f0 := M0.free 4
          have i0 : ∀ w' : World, (Instr.index 119 (.agg #[.int .u32 (u ra), .int .u32 (u rb), .int .u32 (u rc), .int .u32 (u rd), .int .u32 (u re), .int .u32 (u rf), .int .u32 (u rg), .int .u32 (u rh)]) (.int .i64 4)).run Tryd.prog w' = .ok (.int .u32 (u re)) w' := fun _ => rfl
          have hr := add_u se re
          go_wp2
          go_roundw
          case rel => exact ⟨5, by omega, rfl, M0.set 4 (.int .u32 (u (se + re))), M2.other (by simp; omega) _, MB.setCell (by simp) _⟩
          case measure => simp [intOf]
        · have c0 : wr.cell? ⟨w.heap.size, 5, none⟩ = some (.int .u32 (u sf)) := M0.cell rfl
          have f0 := M0.free 5
          have i0 : ∀ w' : World, (Instr.index 119 (.agg #[.int .u32 (u ra), .int .u32 (u rb), .int .u32 (u rc), .int .u32 (u rd), .int .u32 (u re), .int .u32 (u rf), .int .u32 (u rg), .int .u32 (u rh)]) (.int .i64 5)).run Tryd.prog w' = .ok (.int .u32 (u rf)) w' := fun _ => rfl
          have hr := add_u sf rf
          go_wp2
          go_roundw
          case rel => exact ⟨6, by omega, rfl, M0.set 5 (.int .u32 (u (sf + rf))), M2.other (by simp; omega) _, MB.setCell (by simp) _⟩
          case measure => simp [intOf]
        · have c0 : wr.cell? ⟨w.heap.size, 6, none⟩ = some (.int .u32 (u sg)) := M0.cell rfl
          have f0 := M0.free 6
          have i0 : ∀ w' : World, (Instr.index 119 (.agg #[.int .u32 (u ra), .int .u32 (u rb), .int .u32 (u rc), .int .u32 (u rd), .int .u32 (u re), .int .u32 (u rf), .int .u32 (u rg), .int .u32 (u rh)]) (.int .i64 6)).run Tryd.prog w' = .ok (.int .u32 (u rg)) w' := fun _ => rfl
          have hr := add_u sg rg
          go_wp2
          go_roundw
          case rel => exact ⟨7, by omega, rfl, M0.set 6 (.int .u32 (u (sg + rg))), M2.other (by simp; omega) _, MB.setCell (by simp) _⟩
          case measure => simp [intOf]
        · have c0 : wr.cell? ⟨w.heap.size, 7, none⟩ = some (.int .u32 (u sh)) := M0.cell rfl
          have f0 := M0.free 7
          have i0 : ∀ w' : World, (Instr.index 119 (.agg #[.int .u32 (u ra), .int .u32 (u rb), .int .u32 (u rc), .int .u32 (u rd), .int .u32 (u re), .int .u32 (u rf), .int .u32 (u rg), .int .u32 (u rh)]) (.int .i64 7)).run Tryd.prog w' = .ok (.int .u32 (u rh)) w' := fun _ => rfl
          have hr := add_u sh rh
          go_wp2
          go_roundw
          case rel => exact ⟨8, by omega, rfl, M0.set 7 (.int .u32 (u (sh + rh))), M2.other (by simp; omega) _, MB.setCell (by simp) _⟩
          case measure => simp [intOf]
        · have HV : Blk wr w.heap.size 119 (wordsV [sa + ra, sb' + rb, sc + rc, sd + rd, se + re, sf + rf, sg + rg, sh + rh]) := M0
          have he : stL (comp ⟨sa, sb', sc, sd, se, sf, sg, sh⟩ b) = [sa + ra, sb' + rb, sc + rc, sd + rd, se + re, sf + rf, sg + rg, sh + rh] := by
            unfold comp
            rw [← HR.out]
            rfl
          clear M0 HR
          go_wp2_with (first | (refine load_blk rfl 119 (.tmp 2) rfl HV rfl Tryd.underlying119 (m := 8) (by kernel_rfl) rfl ?_) | (refine store_blk rfl 119 (.tmp 4) (.tmp 120) rfl M2 rfl rfl (m := 8) (by kernel_rfl) rfl (by simp) (fun v hv => by obtain ⟨y, _, rfl⟩ := List.mem_map.1 hv; rfl) ?_))
          intro w5 hb5' ho'
          go_wp2
          rw [← he] at hb5'
          exact bodyPost_ret (v := .agg (wordsV (stL (comp ⟨sa, sb', sc, sd, se, sf, sg, sh⟩ b))).toArray) (hb5'.result (p := 4) (ty := 119) rfl _ rfl Tryd.underlying119 (by kernel_rfl)) rfl ⟨rfl, ho'.2.2 _ _ (by omega) MB⟩

end Go.Proofs.YtfhfmdnimebegaaDoor

/-
  Streams: what their cells are, how they grow; the laws for parts of a block, and for a copy out of a string.
-/
namespace Go.Proofs.YtfhfmdnimebegaaDoor
open Go.RowKit
set_option linter.unusedVariables false
set_option linter.unusedSimpArgs false

/-- The buffer B of a stream with the message m. -/
def Stm (m B : List Nat) : Prop := Byts B ∧ B.take (m.length % 64) = m.drop (64 * (m.length / 64)) ∧ ∀ y ∈ m, y < 256
def sth (m : List Nat) : St := hst m (m.length / 64)
/-- The buffer with x from place a on. -/
def put (B : List Nat) (a : Nat) (x : List Nat) : List Nat := B.take a ++ x ++ B.drop (a + x.length)
theorem stm_nil (B : List Nat) (h : Byts B) : Stm [] B := ⟨h, by simp, by simp⟩
theorem put_byts {B x : List Nat} {a : Nat} (hB : Byts B) (hx : ∀ y ∈ x, y < 256) (h : a + x.length ≤ 64) : Byts (put B a x) := by
  refine ⟨?_, fun y hy => ?_⟩
  · have := hB.1
    simp [put]
    omega
  · rcases List.mem_append.1 hy with h1 | h1
    · rcases List.mem_append.1 h1 with h2 | h2
      · exact hB.2 y (List.mem_of_mem_take h2)
      · exact hx y h2
    · exact hB.2 y (List.mem_of_mem_drop h1)
theorem put_take {m B x : List Nat} (hS : Stm m B) (h : m.length % 64 + x.length ≤ 64) : (put B (m.length % 64) x).take (m.length % 64 + x.length) = (m ++ x).drop (64 * (m.length / 64)) := by
  have hl : (B.take (m.length % 64)).length = m.length % 64 := by
    have := hS.1.1
    rw [List.length_take]
    omega
  unfold put
  rw [List.append_assoc, List.take_append, List.take_of_length_le (by omega), hl, show m.length % 64 + x.length - m.length % 64 = x.length by omega, List.take_left, hS.2.1, List.drop_append_of_le_length (by omega)]
theorem stm_part {m B x : List Nat} (hS : Stm m B) (hx : ∀ y ∈ x, y < 256) (h : m.length % 64 + x.length < 64) : Stm (m ++ x) (put B (m.length % 64) x) ∧ sth (m ++ x) = sth m := by
  have e1 : (m ++ x).length / 64 = m.length / 64 := by rw [List.length_append]; omega
  have e2 : (m ++ x).length % 64 = m.length % 64 + x.length := by rw [List.length_append]; omega
  refine ⟨⟨put_byts hS.1 hx (by omega), ?_, fun y hy => ?_⟩, ?_⟩
  · rw [e1, e2]
    exact put_take hS (by omega)
  · rcases List.mem_append.1 hy with h1 | h1
    · exact hS.2.2 y h1
    · exact hx y h1
  · unfold sth
    rw [e1]
    exact hst_append m x _ (by omega)
theorem stm_full {m B x : List Nat} (hS : Stm m B) (hx : ∀ y ∈ x, y < 256) (h : m.length % 64 + x.length = 64) : Stm (m ++ x) (put B (m.length % 64) x) ∧ sth (m ++ x) = comp (sth m) (put B (m.length % 64) x) := by
  have e1 : (m ++ x).length / 64 = m.length / 64 + 1 := by rw [List.length_append]; omega
  have e2 : (m ++ x).length % 64 = 0 := by rw [List.length_append]; omega
  have hP : Byts (put B (m.length % 64) x) := put_byts hS.1 hx (by omega)
  refine ⟨⟨hP, ?_, fun y hy => ?_⟩, ?_⟩
  · rw [e2, List.take_zero]
    symm
    apply List.drop_eq_nil_of_le
    rw [e1, List.length_append]
    omega
  · rcases List.mem_append.1 hy with h1 | h1
    · exact hS.2.2 y h1
    · exact hx y h1
  · unfold sth
    rw [e1, hst, hst_append m x _ (by omega)]
    congr 1
    have := put_take hS (x := x) (by omega)
    rw [h, List.take_of_length_le (by rw [hP.1]; omega)] at this
    rw [this, List.take_of_length_le]
    rw [List.length_drop, List.length_append]
    omega

/-- The cells of a stream. -/
def strV (s : St) (B : List Nat) (n : Nat) : List Value := wordsV (stL s) ++ (bytesV B ++ [.int .u64 (n : Int)])
theorem stL_length (s : St) : (wordsV (stL s)).length = 8 := by simp [wordsV, stL]
theorem strV_length (s : St) (B : List Nat) (n : Nat) (h : B.length = 64) : (strV s B n).length = 73 := by
  simp [strV, stL_length, bytesV_length, h]
theorem strV_cells (s : St) (B : List Nat) (n : Nat) : ∀ v ∈ strV s B n, v.oneCell' = true := by
  intro v hv
  rcases List.mem_append.1 hv with h | h
  · obtain ⟨y, _, rfl⟩ := List.mem_map.1 h; rfl
  · rcases List.mem_append.1 h with h | h
    · obtain ⟨y, _, rfl⟩ := List.mem_map.1 h; rfl
    · rw [List.mem_singleton.1 h]; rfl
theorem strV_state (s : St) (B : List Nat) (n : Nat) : ((strV s B n).drop 0).take 8 = wordsV (stL s) := by
  unfold strV
  rw [List.drop_zero, List.take_left' (stL_length s)]
theorem strV_block (s : St) (B : List Nat) (n : Nat) (h : B.length = 64) : ((strV s B n).drop 8).take 64 = bytesV B := by
  unfold strV
  rw [List.drop_left' (stL_length s), List.take_left' (by rw [bytesV_length]; exact h)]
theorem strV_count (s : St) (B : List Nat) (n : Nat) (h : B.length = 64) : (strV s B n)[72]? = some (.int .u64 (n : Int)) := by
  unfold strV
  rw [List.getElem?_append_right (by rw [stL_length]; omega), stL_length, List.getElem?_append_right (by rw [bytesV_length, h]; omega), bytesV_length, h]
  rfl
theorem strV_setCount (s : St) (B : List Nat) (n k : Nat) (h : B.length = 64) : (strV s B n).set 72 (.int .u64 (k : Int)) = strV s B k := by
  unfold strV
  rw [List.set_append_right _ _ (by rw [stL_length]; omega), stL_length, List.set_append_right _ _ (by rw [bytesV_length, h]; omega), bytesV_length, h]
  rfl
theorem strV_setState (s s' : St) (B : List Nat) (n : Nat) : splice (strV s B n) 0 (wordsV (stL s')) = strV s' B n := by
  unfold splice strV
  rw [List.take_zero, List.nil_append, Nat.zero_add, stL_length, List.drop_left' (stL_length s)]
theorem strV_put (s : St) (B x : List Nat) (n a : Nat) (h : B.length = 64) (ha : a + x.length ≤ 64) : splice (strV s B n) (8 + a) (bytesV x) = strV s (put B a x) n := by
  have h8 := stL_length s
  have hb : (bytesV B).length = 64 := by rw [bytesV_length]; exact h
  have e1 : (strV s B n).take (8 + a) = wordsV (stL s) ++ bytesV (B.take a) := by
    unfold strV
    rw [List.take_append, List.take_of_length_le (by omega), h8, show 8 + a - 8 = a by omega, List.take_append_of_le_length (by omega)]
    simp [bytesV]
  have e2 : (strV s B n).drop (8 + a + (bytesV x).length) = bytesV (B.drop (a + x.length)) ++ [.int .u64 (n : Int)] := by
    unfold strV
    rw [List.drop_append, List.drop_eq_nil_of_le (by omega), h8, List.nil_append, bytesV_length, show 8 + a + x.length - 8 = a + x.length by omega, List.drop_append_of_le_length (by omega)]
    simp [bytesV]
  unfold splice
  rw [e1, e2]
  unfold strV put
  simp [bytesV]

/-- A part of a block is read. -/
theorem load_part {w : World} {ops : Array Oper} {rest : List Oper} {o : Oper} {a : Act} {Q : Exit → Act → World → Prop} (hgd : o.guard = none) (ty : TypeId) (x : Operand) (ho : o.op = .load ty x)
    {b k : Nat} {t : TypeId} {cs ps : List Value} (h : Blk w b t cs) (hx : a.eval x = .pointer (some ⟨b, k, none⟩)) {n m : Nat} {e : TypeId} (hu : Tryd.prog.underlying ty = some (.array n e)) (hi : (Tryd.prog.info? ty).map (·.size) = some m) (hp : (cs.drop k).take m = ps) (hl : ps.length = m)
    (K : wpList Tryd.prog ops Q rest (a.put o.dst (.agg ps.toArray)) w) : wpList Tryd.prog ops Q (o :: rest) a w := by
  subst hl
  have hr := h.range k ps.length
  rw [hp] at hr
  exact wpList_load_mid hgd ty x ho b k hx ps (.array n e) hr hu rfl hi K
/-- A part of a block is written. -/
theorem store_part {w : World} {ops : Array Oper} {rest : List Oper} {o : Oper} {a : Act} {Q : Exit → Act → World → Prop} (hgd : o.guard = none) (ty : TypeId) (x y : Operand) (ho : o.op = .store ty x y)
    {b k : Nat} {t : TypeId} {cs vs : List Value} (h : Blk w b t cs) (hx : a.eval x = .pointer (some ⟨b, k, none⟩)) (hy : a.eval y = .agg vs.toArray) {m : Nat} (hi : (Tryd.prog.info? ty).map (·.size) = some m) (hl : vs.length = m) (hl2 : k + m ≤ cs.length) (h1 : ∀ v ∈ vs, v.oneCell' = true)
    (K : ∀ w', Blk w' b t (splice cs k vs) → Only b w w' → wpList Tryd.prog ops Q rest (a.put o.dst undef) w') : wpList Tryd.prog ops Q (o :: rest) a w := by
  subst hl
  refine wpList_store_mid hgd ty x y ho b k vs.toArray hx hy (by simpa using h.there k vs.length (by omega)) (by simpa using hi) (all_oneCell_toArray h1) (K _ ?_ (only_sets _ _ _ _))
  simpa using h.sets vs k (by omega)
/-- A struct that fills a block is read. -/
theorem load_struct {w : World} {ops : Array Oper} {rest : List Oper} {o : Oper} {a : Act} {Q : Exit → Act → World → Prop} (hgd : o.guard = none) (ty : TypeId) (x : Operand) (ho : o.op = .load ty x)
    {b : Nat} {t : TypeId} {cs : List Value} (h : Blk w b t cs) (hx : a.eval x = .pointer (some ⟨b, 0, none⟩)) {m : Nat} {fs : Array Field} (hu : Tryd.prog.underlying ty = some (.struct fs)) (hi : (Tryd.prog.info? ty).map (·.size) = some m) (hl : cs.length = m)
    (K : wpList Tryd.prog ops Q rest (a.put o.dst (.agg cs.toArray)) w) : wpList Tryd.prog ops Q (o :: rest) a w := by
  subst hl
  have hr := h.range 0 cs.length
  rw [List.drop_zero, List.take_length] at hr
  exact wpList_load_mid hgd ty x ho b 0 hx cs (.struct fs) hr hu rfl hi K
theorem Blk.resultS {w : World} {b : Nat} {t : TypeId} {cs : List Value} (h : Blk w b t cs) {fn : Func} {p : Tmp} {ty : TypeId} {fs : Array Field} (hr : fn.results = #[.cell p ty]) (tmps : Array Value) (hp : tmps.getD p undef = .pointer (some ⟨b, 0, none⟩))
    (hu : Tryd.prog.underlying ty = some (.struct fs)) (hi : (Tryd.prog.info? ty).map (·.size) = some cs.length) : (results fn tmps).run Tryd.prog w = .ok (.agg cs.toArray) w :=
  results_cell_row hr tmps w b t cs.toArray (0, 0) (.struct fs) hp h hu rfl (by simpa using hi)

theorem run_copy_str (w : World) (ty : TypeId) (b o dLen dCap n : Nat) (t : ByteArray) (hn : Nat.min t.size dLen = n)
    (hc : ∀ j, j < n → (w.cell? ⟨b, o + j, none⟩).isSome = true) (hf : ∀ j, j < n → w.frozen? ⟨b, o + j, none⟩ = false) :
    (Builtin.copy_ #[39, 9] ty #[.slice (some ⟨b, o, none⟩) dLen dCap, .string t]).run Tryd.prog w = .ok (goInt n) (w.setCells b o (bytesV ((sb t).take n))) := by
  have hz : ∀ w, (Go.sizeOf 5).run Tryd.prog w = .ok 1 w := fun w => by
    obtain ⟨i0, hi, hz0, hz1, hz2⟩ := info_parts u8info
    simp [sizeOf, typeInfo, hi, hz1]
  have hle : n ≤ t.size := by rw [← hn]; exact Nat.min_le_left _ _
  have hl : (bytesV ((sb t).take n)).length = n := by rw [bytesV_length, List.length_take, sb_length]; omega
  have hst := run_storeCells_cells (P := Tryd.prog) b o (bytesV ((sb t).take n)) 0 w (by rw [hl]; simpa using hc) (by rw [hl]; simpa using hf) (by
    intro v hv
    obtain ⟨x, _, rfl⟩ := List.mem_map.1 hv
    rfl)
  have e : List.take n (List.map (fun b : UInt8 => Value.int IntKind.u8 (b.toNat : Int)) t.data.toList) = bytesV ((sb t).take n) := by
    simp only [bytesV, sb, List.map_take, List.map_map]
    rfl
  simp [Builtin.copy_, run_underlying Tryd.underlying39, Builtin.lenOf, Builtin.firstCells, hz, hn]
  rw [e, hst]
  rfl
/-- copy(b[o:], t), t a string. -/
theorem copy_str {w : World} {ops : Array Oper} {rest : List Oper} {op : Oper} {a : Act} {Q : Exit → Act → World → Prop} (hgd : op.guard = none) (d x : Operand)
    (ho : op.op = .call { callee := .builtin .copy, args := #[d, x], argTypes := #[39, 9] }) {b o dLen dCap n : Nat} {T : TypeId} {cs : List Value} {t : ByteArray} (h : Blk w b T cs)
    (hd : a.eval d = .slice (some ⟨b, o, none⟩) dLen dCap) (hx : a.eval x = .string t) (hn : Nat.min t.size dLen = n) (hl : o + n ≤ cs.length)
    (K : ∀ w', Blk w' b T (splice cs o (bytesV ((sb t).take n))) → Only b w w' → wpList Tryd.prog ops Q rest (a.put op.dst (.int .i64 (n : Int))) w') : wpList Tryd.prog ops Q (op :: rest) a w := by
  have hle : n ≤ t.size := by rw [← hn]; exact Nat.min_le_left _ _
  have hlen : (bytesV ((sb t).take n)).length = n := by rw [bytesV_length, List.length_take, sb_length]; omega
  have hrun := run_copy_str w op.type b o dLen dCap n t hn (fun j hj => (h.there o n hl j hj).1) (fun j hj => (h.there o n hl j hj).2)
  refine wpList_plain hgd fun _ hK => ?_
  unfold Oper.wp
  simp [execOp, ho, resolve, invoke, builtin, hd, hx, hrun, Result.andThen]
  exact hK _ _ (K _ (h.sets _ o (by rw [hlen]; exact hl)) (only_sets _ _ _ _))

theorem size_u8 (w : World) : (Go.sizeOf 5).run Tryd.prog w = .ok 1 w := by
  obtain ⟨i0, hi, hz0, hz1, hz2⟩ := info_parts u8info
  simp [sizeOf, typeInfo, hi, hz1]
/-- x[a:], x an array of 64 bytes. -/
theorem slice_from (w : World) (b o a : Nat) (h : a < 64) : (Instr.sliceAt 120 (.pointer (some ⟨b, o, none⟩)) (some (.int .i64 (a : Int))) none none).run Tryd.prog w = .ok (.slice (some ⟨b, o + a, none⟩) (64 - a) (64 - a)) w := by
  have hL : Tryd.prog.arrayLen 120 = 64 := by kernel_rfl
  have hE : Tryd.prog.elem 120 = 5 := by kernel_rfl
  have ht : Tryd.prog.underlying 120 = some (.array (Tryd.prog.arrayLen 120) (Tryd.prog.elem 120)) := by rw [hL, hE]; exact Tryd.underlying120
  rw [run_sliceAt_array_l w _ _ ht .i64 (a : Int) (by omega) (by rw [hL]; omega), hE, size_u8, hL]
  simp only [Result.andThen_ok, slicedAt, Int.toNat_natCast, Nat.mul_one, Addr.add_mid, if_neg (show ¬ 64 = a by omega)]
/-- x[:], x an array of 64 bytes, or of 32. -/
theorem slice_all (w : World) (b o : Nat) : (Instr.sliceAt 120 (.pointer (some ⟨b, o, none⟩)) none none none).run Tryd.prog w = .ok (.slice (some ⟨b, o, none⟩) 64 64) w := by
  have hL : Tryd.prog.arrayLen 120 = 64 := by kernel_rfl
  have hE : Tryd.prog.elem 120 = 5 := by kernel_rfl
  have ht : Tryd.prog.underlying 120 = some (.array (Tryd.prog.arrayLen 120) (Tryd.prog.elem 120)) := by rw [hL, hE]; exact Tryd.underlying120
  rw [run_sliceAt_array_all w _ _ ht, hE, size_u8, hL]
  simp [Result.andThen_ok, slicedAt, Addr.add_mid]
theorem slice_all32 (w : World) (b o : Nat) : (Instr.sliceAt 114 (.pointer (some ⟨b, o, none⟩)) none none none).run Tryd.prog w = .ok (.slice (some ⟨b, o, none⟩) 32 32) w := by
  have hL : Tryd.prog.arrayLen 114 = 32 := by kernel_rfl
  have hE : Tryd.prog.elem 114 = 5 := by kernel_rfl
  have ht : Tryd.prog.underlying 114 = some (.array (Tryd.prog.arrayLen 114) (Tryd.prog.elem 114)) := by rw [hL, hE]; exact Tryd.underlying114
  rw [run_sliceAt_array_all w _ _ ht, hE, size_u8, hL]
  simp [Result.andThen_ok, slicedAt, Addr.add_mid]
/-- x[:h], x an array of 72 bytes. -/
theorem slice_upto (w : World) (b o h : Nat) (hh : h ≤ 72) : (Instr.sliceAt 133 (.pointer (some ⟨b, o, none⟩)) none (some (.int .i64 (h : Int))) none).run Tryd.prog w = .ok (.slice (some ⟨b, o, none⟩) h 72) w := by
  have hL : Tryd.prog.arrayLen 133 = 72 := by kernel_rfl
  have hE : Tryd.prog.elem 133 = 5 := by kernel_rfl
  have ht : Tryd.prog.underlying 133 = some (.array (Tryd.prog.arrayLen 133) (Tryd.prog.elem 133)) := by rw [hL, hE]; exact Tryd.underlying133
  rw [run_sliceAt_array_h w _ _ ht .i64 (h : Int) (by omega) (by rw [hL]; omega), hE, size_u8, hL]
  simp [Result.andThen_ok, slicedAt, Addr.add_mid]

theorem sb_tail (t : ByteArray) (k : Nat) (hk : k ≤ t.size) : sb (t.extract k t.size) = (sb t).drop k := by
  unfold sb
  rw [Lib.extract_data, List.take_of_length_le (by rw [List.length_drop, ← Lib.size_eq]; exact Nat.le_refl _), List.map_drop]
theorem size_tail (t : ByteArray) (k : Nat) (hk : k ≤ t.size) : (t.extract k t.size).size = t.size - k := by
  rw [← sb_length, sb_tail t k hk, List.length_drop, sb_length]

end Go.Proofs.YtfhfmdnimebegaaDoor

/-
  hash.Begin and Add: streams whose message is empty, or longer.
-/
namespace Go.Proofs.YtfhfmdnimebegaaDoor
open Go.RowKit
set_option linter.unusedVariables false
set_option linter.unusedSimpArgs false

def stZ : St := ⟨0, 0, 0, 0, 0, 0, 0, 0⟩
def zeroStr : List Value := strV stZ (List.replicate 64 0) 0
theorem zero_stream (w : World) : (zeroValue 122).run Tryd.prog w = .ok (.agg zeroStr.toArray) w := by kernel_rfl
theorem glob_start (w w' : World) (h : Glob w) (hb : Below w.heap.size w w') : w'.rangeAt 1 0 (wordsV (stL st0)) := (h.keep hb).2.1

set_option maxHeartbeats 1000000 in
set_option maxRecDepth 100000 in
theorem begin_any (w : World) (hG : Glob w) :
    Calls Tryd.prog 71 #[] w fun e w' => e = .returned (.agg (strV st0 (List.replicate 64 0) 0).toArray) ∧ Below w.heap.size w w' := by
  go_enter Tryd.func71, Tryd.ntmps71
  have hz := zero_stream
  go_upto_region 1 with (fail)
  generalize hw0 : World.alloc _ _ = W0
  have hB0 : Below w.heap.size w W0 := hw0 ▸ ((Below.refl _ _).alloc (Nat.le_refl _) _)
  have hR := glob_start w W0 hG hB0
  have HZ : Blk W0 w.heap.size 122 zeroStr := hw0 ▸ blk_new w _ _
  have hf : List.foldl (fun (cs : Array Value) (x : Value × Nat) => cs.setIfInBounds x.snd x.fst) zeroStr.toArray (wordsV (stL st0)).zipIdx = (strV st0 (List.replicate 64 0) 0).toArray := by kernel_rfl
  clear hw0 hG
  go_wp2_with (first | (refine wpList_load_mid rfl 119 (.global 1) rfl 1 0 rfl (wordsV (stL st0)) _ hR Tryd.underlying119 rfl (by kernel_rfl) ?_) | (refine store_blk rfl 122 (.tmp 0) (.tmp 2) rfl HZ rfl rfl (m := 73) (by kernel_rfl) (strV_length _ _ _ (by simp)) (strV_length _ _ _ (by simp)) (strV_cells _ _ _) ?_))
  intro w2 hb2 ho2
  go_wp2
  exact bodyPost_ret (v := .agg (strV st0 (List.replicate 64 0) 0).toArray) (hb2.resultS (p := 0) (ty := 122) rfl _ rfl Tryd.underlying122 (by rw [strV_length _ _ _ (by simp)]; kernel_rfl)) rfl ⟨rfl, ho2.2.2 _ _ (by omega) hB0⟩

/-- The call returned a stream with the message m. -/
def AddTo (w : World) (m : List Nat) (e : Ending) (w' : World) : Prop := ∃ B, Stm m B ∧ e = .returned (.agg (strV (sth m) B m.length).toArray) ∧ Below w.heap.size w w'
/-- What holds at each round's head: m' has been taken in, t' is still to come. -/
def AddRel (w : World) (M : List Nat) (v : Value) (wr : World) : Prop :=
  ∃ (m' B' : List Nat) (t' : ByteArray), v = .string t' ∧ Hid (m' ++ sb t' = M) ∧ m'.length + t'.size ≤ 1152921504606846975 ∧ Stm m' B' ∧ Blk wr w.heap.size 122 (strV (sth m') B' m'.length) ∧ Blk wr (w.heap.size + 1) 122 zeroStr ∧ Below w.heap.size w wr
def strSize : Value → Nat
  | .string s => s.size
  | _ => 0

set_option maxHeartbeats 2000000 in
set_option maxRecDepth 100000 in
theorem add_any (m B : List Nat) (hS : Stm m B) (t : ByteArray) (hl : m.length + t.size ≤ 1152921504606846975) (w : World) (hG : Glob w) :
    Calls Tryd.prog 72 #[.agg (strV (sth m) B m.length).toArray, .string t] w (AddTo w (m ++ sb t)) := by
  have hz := zero_stream
  go_enter Tryd.func72, Tryd.ntmps72
  go_wp2_with fail
  generalize hw0 : World.alloc _ _ = W0
  have K0 : Blk W0 w.heap.size 122 (strV (sth m) B m.length) := hw0 ▸ (blk_new w _ _).alloc _
  have K1 : Blk W0 (w.heap.size + 1) 122 zeroStr := hw0 ▸ blk_new1 w _ _ _
  have KB : Below w.heap.size w W0 := hw0 ▸ (((Below.refl _ _).alloc (Nat.le_refl _) _).alloc (by simp) _)
  clear hw0 hz
  go_loopw [1] (fun v wr => AddRel w (m ++ sb t) v wr) (fun v _ => strSize v)
  case atStart => exact ⟨m, B, t, rfl, Lib.hid rfl, hl, hS, K0, K1, KB⟩
  case round =>
    clear K0 K1 KB hS hl
    obtain ⟨m', B', t', rfl, HM, hl, hS, K0, K1, KB⟩ := hrel
    have hB64 := hS.1.1
    by_cases h0 : 0 < t'.size
    · obtain ⟨a, ha⟩ : ∃ a, m'.length % 64 = a := ⟨_, rfl⟩
      obtain ⟨k, hk⟩ : ∃ k, Nat.min t'.size (64 - a) = k := ⟨_, rfl⟩
      have hk1 : k ≤ t'.size := by rw [← hk]; exact Nat.min_le_left _ _
      have hk2 : k ≤ 64 - a := by rw [← hk]; exact Nat.min_le_right _ _
      have hk3 : 0 < k := by rw [← hk]; exact Nat.lt_min.2 ⟨h0, by omega⟩
      have ha2 : a < 64 := by omega
      have hai : ((m'.length : Int) % 64) = (a : Int) := by omega
      have c72 : wr.cell? ⟨w.heap.size, 72, none⟩ = some (.int .u64 (m'.length : Int)) := K0.cell (strV_count _ _ _ hB64)
      have HA := Lib.hid ha
      have HK := Lib.hid hk
      clear ha hk
      go_upto_region 3 with (fail)
      clear c72 hai
      have hsl := slice_from
      have hle : 8 + a + k ≤ (strV (sth m') B' m'.length).length := by rw [strV_length _ _ _ hB64]; omega
      go_upto_region 4 with (refine copy_str rfl (.tmp 16) (.tmp 17) rfl K0 rfl rfl HK.out hle ?_; intro w1 H1 hO1)
      have hxl : ((sb t').take k).length = k := by rw [List.length_take, sb_length]; omega
      have hxb : ∀ y ∈ (sb t').take k, y < 256 := fun y hy => sb_lt t' y (List.mem_of_mem_take hy)
      rw [strV_put _ _ _ _ _ hB64 (by omega)] at H1
      have L1 := hO1.2.1 _ _ _ (by omega) K1
      have LB := hO1.2.2 _ _ (Nat.le_refl _) KB
      have hbB : Byts (put B' a ((sb t').take k)) := put_byts hS.1 hxb (by omega)
      clear K0 K1 KB hO1 hsl hle
      have hB64' := hbB.1
      have c72 : w1.cell? ⟨w.heap.size, 72, none⟩ = some (.int .u64 (m'.length : Int)) := H1.cell (strV_count _ _ _ hB64')
      have f72 := H1.free 72
      have HL : Hid ((m' ++ (sb t').take k).length = m'.length + k) := by
        have e : (m' ++ (sb t').take k).length = m'.length + k := by rw [List.length_append, hxl]
        exact Lib.hid e
      have HT : Hid (m' ++ (sb t').take k ++ sb (t'.extract k t'.size) = m ++ sb t) := by
        have e : m' ++ (sb t').take k ++ sb (t'.extract k t'.size) = m ++ sb t := by
          rw [sb_tail t' k hk1, List.append_assoc, List.take_append_drop]
          exact HM.out
        exact Lib.hid e
      by_cases hfull : a + k = 64
      · have HF : Hid (Stm (m' ++ (sb t').take k) (put B' a ((sb t').take k)) ∧ sth (m' ++ (sb t').take k) = comp (sth m') (put B' a ((sb t').take k))) := by
          have := stm_full hS hxb (by rw [hxl, HA.out]; exact hfull)
          rw [HA.out] at this
          exact Lib.hid this
        have ht : decide ((a : Int) + (k : Int) = 64) = true := by simp; omega
        go_upto_region 7 with (fail)
        generalize hw2 : w1.setCell _ _ = w2
        have M0 : Blk w2 w.heap.size 122 (strV (sth m') (put B' a ((sb t').take k)) (m'.length + k)) := by
          have := H1.set 72 (.int .u64 ((m'.length + k : Nat) : Int))
          rw [strV_setCount _ _ _ _ hB64', Int.natCast_add, hw2] at this
          exact this
        have M1 : Blk w2 (w.heap.size + 1) 122 zeroStr := hw2 ▸ L1.other (by simp) _
        have MB : Below w.heap.size w w2 := hw2 ▸ LB.setCell (by simp) _
        have MG := hG.keep MB
        have hcb := stL_length (comp (sth m') (put B' a ((sb t').take k)))
        clear H1 L1 LB hw2 c72 f72 ht
        go_upto_block 99 with (first | (refine load_part rfl 119 (.tmp 32) rfl M0 rfl Tryd.underlying119 (m := 8) (by kernel_rfl) (strV_state _ _ _) (stL_length _) ?_) | (refine load_part rfl 120 (.tmp 34) rfl M0 rfl Tryd.underlying120 (m := 64) (by kernel_rfl) (strV_block _ _ _ hB64') (by rw [bytesV_length]; exact hB64') ?_) | (go_at_call 80; refine (compress_any _ _ hbB w2 MG).mono ?_; rintro e w3 ⟨rfl, hB3⟩; have M3 := M0.keep hB3) | (refine store_part rfl 119 (.tmp 37) (.tmp 36) rfl M3 rfl rfl (m := 8) (by kernel_rfl) hcb (by rw [strV_length _ _ _ hB64']; omega) (fun v hv => by obtain ⟨y, _, rfl⟩ := List.mem_map.1 hv; rfl) ?_; intro w4 M4 hO4))
        have N1 := hO4.2.1 _ _ _ (by omega) (M1.keep hB3)
        have NB := hO4.2.2 _ _ (Nat.le_refl _) (MB.trans (hB3.mono MB.size))
        rw [strV_setState, ← HF.out.2, ← HL.out] at M4
        clear M0 M1 MB MG M3 hB3 hO4
        go_simp
        go_roundw
        case rel => exact ⟨m' ++ (sb t').take k, put B' a ((sb t').take k), t'.extract k t'.size, rfl, HT, by rw [size_tail t' k hk1, HL.out]; omega, HF.out.1, M4, N1, NB⟩
        case measure =>
          show (t'.extract k t'.size).size < t'.size
          rw [size_tail t' k hk1]
          omega
      · have HF : Hid (Stm (m' ++ (sb t').take k) (put B' a ((sb t').take k)) ∧ sth (m' ++ (sb t').take k) = sth m') := by
          have := stm_part hS hxb (by rw [hxl, HA.out]; omega)
          rw [HA.out] at this
          exact Lib.hid this
        go_upto_region 99 with (fail)
        generalize hw2 : w1.setCell _ _ = w2
        have M0 : Blk w2 w.heap.size 122 (strV (sth m') (put B' a ((sb t').take k)) (m'.length + k)) := by
          have := H1.set 72 (.int .u64 ((m'.length + k : Nat) : Int))
          rw [strV_setCount _ _ _ _ hB64', Int.natCast_add, hw2] at this
          exact this
        have M1 : Blk w2 (w.heap.size + 1) 122 zeroStr := hw2 ▸ L1.other (by simp) _
        have MB : Below w.heap.size w w2 := hw2 ▸ LB.setCell (by simp) _
        rw [← HF.out.2, ← HL.out] at M0
        clear H1 L1 LB hw2 c72 f72
        go_roundw
        case rel => exact ⟨m' ++ (sb t').take k, put B' a ((sb t').take k), t'.extract k t'.size, rfl, HT, by rw [size_tail t' k hk1, HL.out]; omega, HF.out.1, M0, M1, MB⟩
        case measure =>
          show (t'.extract k t'.size).size < t'.size
          rw [size_tail t' k hk1]
          omega
    · have he : m' = m ++ sb t := by
        have h1 := HM.out
        have h2 : sb t' = [] := List.eq_nil_of_length_eq_zero (by rw [sb_length]; omega)
        rw [h2, List.append_nil] at h1
        exact h1
      subst he
      have hln := strV_length (sth (m ++ sb t)) B' (m ++ sb t).length hB64
      clear HM
      go_wp2_with (first | (refine load_struct rfl 122 (.tmp 2) rfl K0 rfl Tryd.underlying122 (m := 73) (by kernel_rfl) hln ?_) | (refine store_blk rfl 122 (.tmp 4) (.tmp 38) rfl K1 rfl rfl (m := 73) (by kernel_rfl) hln (strV_length _ _ _ (by simp)) (strV_cells _ _ _) ?_; intro w2 hb2 ho2))
      exact bodyPost_ret (v := .agg (strV (sth (m ++ sb t)) B' (m ++ sb t).length).toArray) (hb2.resultS (p := 4) (ty := 122) rfl _ rfl Tryd.underlying122 (by rw [hln]; kernel_rfl)) rfl ⟨B', hS, rfl, ho2.2.2 _ _ (by omega) KB⟩

theorem begin_str (w : World) (hG : Glob w) : Calls Tryd.prog 71 #[] w (AddTo w []) :=
  (begin_any w hG).mono fun _ _ ⟨he, hB⟩ => ⟨List.replicate 64 0, stm_nil _ ⟨by simp, fun y hy => by rw [(List.mem_replicate.1 hy).2]; omega⟩, he, hB⟩

end Go.Proofs.YtfhfmdnimebegaaDoor

/-
  The padding of a message and the bytes of a hash value, as arrays that are filled byte by byte.
-/
namespace Go.Proofs.YtfhfmdnimebegaaDoor
open Go.RowKit
set_option linter.unusedVariables false
set_option linter.unusedSimpArgs false

/-- The padding array when i bytes of the length L have been laid behind z zeros. -/
def padA (L i : Nat) : List Nat := 128 :: (List.replicate (zeros L) 0 ++ (be 8 (8 * L)).take i ++ List.replicate (71 - zeros L - i) 0)
theorem padA_length (L i : Nat) (h : i ≤ 8) : (padA L i).length = 72 := by
  have := zeros_lt L
  simp [padA, be_length]
  omega
theorem padA_zero (L : Nat) : padA L 0 = 128 :: List.replicate 71 0 := by
  have := zeros_lt L
  unfold padA
  rw [List.take_zero, List.append_nil, List.replicate_append_replicate]
  congr 2
  omega
theorem padA_set (L i : Nat) (h : i < 8) : (padA L i).set (1 + zeros L + i) (8 * L / 256 ^ (7 - i) % 256) = padA L (i + 1) := by
  have hz := zeros_lt L
  have hl : (List.replicate (zeros L) 0 ++ (be 8 (8 * L)).take i).length = zeros L + i := by simp [be_length]; omega
  have hb := be_get 8 (8 * L) i h
  unfold padA
  rw [show 1 + zeros L + i = (zeros L + i) + 1 by omega, List.set_cons_succ, List.set_append_right _ _ (by omega), hl, Nat.sub_self]
  obtain ⟨k, hk⟩ : ∃ k, 71 - zeros L - i = k + 1 := ⟨70 - zeros L - i, by omega⟩
  rw [hk, List.replicate_succ, List.set_cons_zero, show 71 - zeros L - (i + 1) = k by omega, List.take_add_one, hb]
  simp
theorem padA_full (L : Nat) : (padA L 8).take (9 + zeros L) = tail L := by
  have hz := zeros_lt L
  have hl : (128 :: (List.replicate (zeros L) 0 ++ be 8 (8 * L))).length = 9 + zeros L := by simp [be_length]; omega
  unfold padA tail
  rw [List.take_of_length_le (l := be 8 (8 * L)) (by rw [be_length]; omega), ← List.cons_append, List.take_left' hl]
theorem padA_byte (L i : Nat) : ∀ y ∈ padA L i, y < 256 := by
  intro y hy
  unfold padA at hy
  rcases List.mem_cons.1 hy with rfl | h
  · omega
  · rcases List.mem_append.1 h with h | h
    · rcases List.mem_append.1 h with h | h
      · rw [(List.mem_replicate.1 h).2]; omega
      · exact be_lt _ _ y (List.mem_of_mem_take h)
    · rw [(List.mem_replicate.1 h).2]; omega
theorem tail_byte (L : Nat) : ∀ y ∈ tail L, y < 256 := by
  intro y hy
  rw [← padA_full] at hy
  exact padA_byte L 8 y (List.mem_of_mem_take hy)

theorem be4 (x : Nat) : be 4 x = [x / 256 ^ 3 % 256, x / 256 ^ 2 % 256, x / 256 ^ 1 % 256, x / 256 ^ 0 % 256] := rfl
theorem outB_eq (s : St) : outB s = (stL s).flatMap fun w => be 4 w.toNat := rfl
theorem outB_length (s : St) : (outB s).length = 32 := by simp [outB, be_length]
theorem outB_get (s : St) (q r : Nat) (hq : q < 8) (hr : r < 4) : (outB s)[4 * q + r]? = some (((stL s).getD q 0).toNat / 256 ^ (3 - r) % 256) := by
  obtain rfl | rfl | rfl | rfl : r = 0 ∨ r = 1 ∨ r = 2 ∨ r = 3 := by omega
  all_goals obtain rfl | rfl | rfl | rfl | rfl | rfl | rfl | rfl : q = 0 ∨ q = 1 ∨ q = 2 ∨ q = 3 ∨ q = 4 ∨ q = 5 ∨ q = 6 ∨ q = 7 := by omega
  all_goals rfl
theorem outB_byte (s : St) : ∀ y ∈ outB s, y < 256 := by
  intro y hy
  rw [outB_eq] at hy
  obtain ⟨x, _, hx⟩ := List.mem_flatMap.1 hy
  exact be_lt _ _ y hx
/-- The array of the hash when its first i bytes have been laid. -/
def outA (s : St) (i : Nat) : List Nat := (outB s).take i ++ List.replicate (32 - i) 0
theorem outA_length (s : St) (i : Nat) (h : i ≤ 32) : (outA s i).length = 32 := by simp [outA, outB_length]; omega
theorem outA_full (s : St) : outA s 32 = outB s := by
  unfold outA
  rw [List.take_of_length_le (by rw [outB_length]; omega)]
  simp
theorem outA_set (s : St) (q r : Nat) (hq : q < 8) (hr : r < 4) : (outA s (4 * q + r)).set (4 * q + r) (((stL s).getD q 0).toNat / 256 ^ (3 - r) % 256) = outA s (4 * q + r + 1) := by
  have hl : ((outB s).take (4 * q + r)).length = 4 * q + r := by rw [List.length_take, outB_length]; omega
  unfold outA
  rw [List.set_append_right _ _ (by omega), hl, Nat.sub_self]
  obtain ⟨k, hk⟩ : ∃ k, 32 - (4 * q + r) = k + 1 := ⟨31 - (4 * q + r), by omega⟩
  rw [hk, List.replicate_succ, List.set_cons_zero, show 32 - (4 * q + r + 1) = k by omega, List.take_add_one, outB_get s q r hq hr]
  simp
theorem sth_pad (m : List Nat) : outB (sth (pad m)) = sha m := rfl

end Go.Proofs.YtfhfmdnimebegaaDoor

/-
  hash.Stream.Sum returns the hash of the message.
-/
namespace Go.Proofs.YtfhfmdnimebegaaDoor
open Go.RowKit
set_option linter.unusedVariables false
set_option linter.unusedSimpArgs false

def z72 : List Nat := List.replicate 72 0
def z32 : List Nat := List.replicate 32 0
theorem zero_72 (w : World) : (zeroValue 133).run Tryd.prog w = .ok (.agg (bytesV z72).toArray) w := by kernel_rfl
theorem zero_32 (w : World) : (zeroValue 114).run Tryd.prog w = .ok (.agg (bytesV z32).toArray) w := by kernel_rfl
theorem z72_set (L : Nat) : (bytesV z72).set 0 (.int .u8 128) = bytesV (padA L 0) := by
  rw [padA_zero]
  rfl
theorem bytesV_cells (l : List Nat) : ∀ v ∈ bytesV l, v.oneCell' = true := fun v hv => by obtain ⟨y, _, rfl⟩ := List.mem_map.1 hv; rfl

/-- A struct that fills a block is read in a region of reads. -/
theorem still_load {w : World} {ops : Array Oper} {rest : List Oper} {o : Oper} {a : Act} {Q : Act → Prop} (hgd : o.guard = none) (ty : TypeId) (x : Operand) (ho : o.op = .load ty x)
    {b : Nat} {t : TypeId} {cs : List Value} (h : Blk w b t cs) (hx : a.eval x = .pointer (some ⟨b, 0, none⟩)) {m : Nat} {d : TypeDesc} (hu : Tryd.prog.underlying ty = some d) (hd : d.isRow = true) (hi : (Tryd.prog.info? ty).map (·.size) = some m) (hl : cs.length = m)
    (K : wpStill Tryd.prog ops w Q rest (a.put o.dst (.agg cs.toArray))) : wpStill Tryd.prog ops w Q (o :: rest) a := by
  subst hl
  have hr := h.range 0 cs.length
  rw [List.drop_zero, List.take_length] at hr
  refine wpStill_step fun K' hK => ?_
  have hw : Region.wanted o (yielded ops a.tmps) = true := by simp [Region.wanted, hgd]
  rw [if_pos hw]
  unfold Oper.still execOp
  simp only [ho, hx, Instr.loadAt, Instr.sureAddr, Sem.run_bind, Sem.run_pure, Result.andThen_ok, run_loadVar_mid w b 0 ty cs d hr hu hd hi, Oper.stillUpon_value]
  exact hK _ K

/-- A conversion in a region of reads. -/
theorem still_convert {w : World} {ops : Array Oper} {rest : List Oper} {o : Oper} {a : Act} {Q : Act → Prop} (hgd : o.guard = none) (t1 t2 : TypeId) (x : Operand) (ho : o.op = .convert t1 t2 x) {v v' : Value} (hx : a.eval x = v) (hrun : (convert t1 t2 v).run Tryd.prog w = .ok v' w)
    (K : wpStill Tryd.prog ops w Q rest (a.put o.dst v')) : wpStill Tryd.prog ops w Q (o :: rest) a := by
  refine wpStill_step fun K' hK => ?_
  have hw : Region.wanted o (yielded ops a.tmps) = true := by simp [Region.wanted, hgd]
  rw [if_pos hw]
  unfold Oper.still execOp
  simp only [ho, hx, Sem.run_bind, Sem.run_pure, Result.andThen_ok, hrun, Oper.stillUpon_value]
  exact hK _ K

/-- What holds while the length is laid. -/
def PadRel (w : World) (m B : List Nat) (v : Value) (wr : World) : Prop :=
  ∃ i : Nat, i ≤ 8 ∧ v = .int .i64 i ∧ Blk wr w.heap.size 122 (strV (sth m) B m.length) ∧ Blk wr (w.heap.size + 1) 114 (bytesV z32) ∧ Blk wr (w.heap.size + 2) 133 (bytesV (padA m.length i)) ∧ Below w.heap.size w wr

theorem pad_step {wr : World} {b i : Nat} {t : TypeId} {L : Nat} (H : Blk wr b t (bytesV (padA L i))) (h : i < 8) (P : Nat) (hP : 256 ^ (7 - i) = P) (V : Int) (hV : V = ((8 * L / P % 256 : Nat) : Int)) (off : Nat) (ho : off = 1 + zeros L + i) :
    Blk (wr.setCell ⟨b, off, none⟩ (.int .u8 V)) b t (bytesV (padA L (i + 1))) := by
  subst ho; subst hP; subst hV
  have := H.set (1 + zeros L + i) (byteV (8 * L / 256 ^ (7 - i) % 256))
  rw [← padA_set L i h]
  unfold bytesV at this ⊢
  rw [List.map_set]
  exact this

/-- What holds while the bytes of the hash are laid. -/
def SumRel (w : World) (s : St) (B : List Nat) (n b6 : Nat) (v : Value) (wr : World) : Prop :=
  ∃ i : Nat, i ≤ 32 ∧ v = .int .i64 i ∧ Blk wr w.heap.size 122 (strV s B n) ∧ Blk wr (w.heap.size + 1) 114 (bytesV z32) ∧ Blk wr b6 114 (bytesV (outA s i)) ∧ Below w.heap.size w wr
theorem out_step {wr : World} {b i q r : Nat} {t : TypeId} {s : St} {x : BitVec 32} (H : Blk wr b t (bytesV (outA s i))) (hq : q < 8) (hr : r < 4) (hi : i = 4 * q + r) (hx : (stL s).getD q 0 = x) (P : Nat) (hP : 256 ^ (3 - r) = P) {V : Int} (hV : V = ((x.toNat / P % 256 : Nat) : Int)) :
    Blk (wr.setCell ⟨b, i, none⟩ (.int .u8 V)) b t (bytesV (outA s (i + 1))) := by
  subst hi; subst hx; subst hP; subst hV
  have := H.set (4 * q + r) (byteV (((stL s).getD q 0).toNat / 256 ^ (3 - r) % 256))
  rw [← outA_set s q r hq hr]
  unfold bytesV at this ⊢
  rw [List.map_set]
  exact this

set_option maxHeartbeats 4000000 in
set_option maxRecDepth 100000 in
theorem strsum_any (m B : List Nat) (hS : Stm m B) (hl : m.length ≤ 1152921504606846000) (w : World) (hG : Glob w) :
    Calls Tryd.prog 74 #[.agg (strV (sth m) B m.length).toArray] w fun e w' => e = .returned (.agg (bytesV (sha m)).toArray) ∧ Below w.heap.size w w' := by
  have hB64 := hS.1.1
  have hz1 := zero_72
  have hz2 := zero_32
  have hzl := zeros_lt m.length
  go_enter Tryd.func74, Tryd.ntmps74
  go_upto_region 1 with (fail)
  generalize hw0 : World.alloc _ _ = W0
  have K0 : Blk W0 w.heap.size 122 (strV (sth m) B m.length) := hw0 ▸ (blk_new w _ _).alloc _
  have K1 : Blk W0 (w.heap.size + 1) 114 (bytesV z32) := hw0 ▸ blk_new1 w _ _ _
  have KB : Below w.heap.size w W0 := hw0 ▸ (((Below.refl _ _).alloc (Nat.le_refl _) _).alloc (by simp) _)
  have hsz : W0.heap.size = w.heap.size + 2 := by rw [← hw0]; simp
  clear hw0
  have hset := z72_set m.length
  have hpl := padA_length m.length 0 (by omega)
  go_upto_region 2 with (refine store_blk rfl 133 (.tmp 3) (.tmp 8) rfl (blk_new W0 _ (bytesV z72).toArray) (by rw [hsz]; rfl) (vs := bytesV (padA m.length 0)) rfl (m := 72) (by kernel_rfl) (by rw [bytesV_length, hpl]) (by rw [bytesV_length]; rfl) (bytesV_cells _) ?_; intro w1 H3 hO1)
  rw [hsz] at H3 hO1
  have L0 : Blk w1 w.heap.size 122 (strV (sth m) B m.length) := hO1.2.1 _ _ _ (by omega) (K0.alloc _)
  have L1 : Blk w1 (w.heap.size + 1) 114 (bytesV z32) := hO1.2.1 _ _ _ (by omega) (K1.alloc _)
  have LB : Below w.heap.size w w1 := hO1.2.2 _ _ (by omega) (KB.alloc (by omega) _)
  obtain ⟨z, hz⟩ : ∃ z, zeros m.length = z := ⟨_, rfl⟩
  have hzi : ((119 : Int) - (m.length : Int) % 64) % 64 = (z : Int) := by
    have : zeros m.length = (119 - m.length % 64) % 64 := rfl
    omega
  rw [hz] at hzl
  have HZ := Lib.hid hz
  have c72 : w1.cell? ⟨w.heap.size, 72, none⟩ = some (.int .u64 (m.length : Int)) := L0.cell (strV_count _ _ _ hB64)
  clear K0 K1 KB hO1 hset hpl hsz hz1 hz2 hz
  go_upto_region 3 with (fail)
  clear hzi c72
  go_wp2
  go_loopw [16] (fun v wr => PadRel w m B v wr) (fun v _ => 8 - (intOf v).toNat)
  case atStart => exact ⟨0, by omega, rfl, L0, L1, H3, LB⟩
  case round =>
    clear L0 L1 H3 LB
    obtain ⟨i, hi, rfl, L0, L1, H3, LB⟩ := hrel
    have c72 : wr.cell? ⟨w.heap.size, 72, none⟩ = some (.int .u64 (m.length : Int)) := L0.cell (strV_count _ _ _ hB64)
    by_cases h8 : i < 8
    · have hz2 : zeros m.length = z := HZ.out
      obtain rfl | rfl | rfl | rfl | rfl | rfl | rfl | rfl : i = 0 ∨ i = 1 ∨ i = 2 ∨ i = 3 ∨ i = 4 ∨ i = 5 ∨ i = 6 ∨ i = 7 := by omega
      · have c0 : wr.cell? ⟨w.heap.size + 2, 1 + z, none⟩ = some ((bytesV (padA m.length 0))[1 + z + 0]'(by rw [bytesV_length, padA_length _ _ (by omega)]; omega)) := H3.cell (List.getElem?_eq_getElem _)
        have f0 := H3.free (1 + z)
        have g0 : 1 + (z : Int) + 0 < 72 := by omega
        go_wp2
        go_roundw
        case rel => exact ⟨1, by omega, rfl, L0.other (by simp) _, L1.other (by simp) _, pad_step H3 (by omega) 72057594037927936 (by decide) _ (by omega) _ (by omega), LB.setCell (by simp) _⟩
        case measure => simp [intOf]
      · have c0 : wr.cell? ⟨w.heap.size + 2, 1 + z + 1, none⟩ = some ((bytesV (padA m.length 1))[1 + z + 1]'(by rw [bytesV_length, padA_length _ _ (by omega)]; omega)) := H3.cell (List.getElem?_eq_getElem _)
        have f0 := H3.free (1 + z + 1)
        have g0 : 1 + (z : Int) + 1 < 72 := by omega
        go_wp2
        go_roundw
        case rel => exact ⟨2, by omega, rfl, L0.other (by simp) _, L1.other (by simp) _, pad_step H3 (by omega) 281474976710656 (by decide) _ (by omega) _ (by omega), LB.setCell (by simp) _⟩
        case measure => simp [intOf]
      · have c0 : wr.cell? ⟨w.heap.size + 2, 1 + z + 2, none⟩ = some ((bytesV (padA m.length 2))[1 + z + 2]'(by rw [bytesV_length, padA_length _ _ (by omega)]; omega)) := H3.cell (List.getElem?_eq_getElem _)
        have f0 := H3.free (1 + z + 2)
        have g0 : 1 + (z : Int) + 2 < 72 := by omega
        go_wp2
        go_roundw
        case rel => exact ⟨3, by omega, rfl, L0.other (by simp) _, L1.other (by simp) _, pad_step H3 (by omega) 1099511627776 (by decide) _ (by omega) _ (by omega), LB.setCell (by simp) _⟩
        case measure => simp [intOf]
      · have c0 : wr.cell? ⟨w.heap.size + 2, 1 + z + 3, none⟩ = some ((bytesV (padA m.length 3))[1 + z + 3]'(by rw [bytesV_length, padA_length _ _ (by omega)]; omega)) := H3.cell (List.getElem?_eq_getElem _)
        have f0 := H3.free (1 + z + 3)
        have g0 : 1 + (z : Int) + 3 < 72 := by omega
        go_wp2
        go_roundw
        case rel => exact ⟨4, by omega, rfl, L0.other (by simp) _, L1.other (by simp) _, pad_step H3 (by omega) 4294967296 (by decide) _ (by omega) _ (by omega), LB.setCell (by simp) _⟩
        case measure => simp [intOf]
      · have c0 : wr.cell? ⟨w.heap.size + 2, 1 + z + 4, none⟩ = some ((bytesV (padA m.length 4))[1 + z + 4]'(by rw [bytesV_length, padA_length _ _ (by omega)]; omega)) := H3.cell (List.getElem?_eq_getElem _)
        have f0 := H3.free (1 + z + 4)
        have g0 : 1 + (z : Int) + 4 < 72 := by omega
        go_wp2
        go_roundw
        case rel => exact ⟨5, by omega, rfl, L0.other (by simp) _, L1.other (by simp) _, pad_step H3 (by omega) 16777216 (by decide) _ (by omega) _ (by omega), LB.setCell (by simp) _⟩
        case measure => simp [intOf]
      · have c0 : wr.cell? ⟨w.heap.size + 2, 1 + z + 5, none⟩ = some ((bytesV (padA m.length 5))[1 + z + 5]'(by rw [bytesV_length, padA_length _ _ (by omega)]; omega)) := H3.cell (List.getElem?_eq_getElem _)
        have f0 := H3.free (1 + z + 5)
        have g0 : 1 + (z : Int) + 5 < 72 := by omega
        go_wp2
        go_roundw
        case rel => exact ⟨6, by omega, rfl, L0.other (by simp) _, L1.other (by simp) _, pad_step H3 (by omega) 65536 (by decide) _ (by omega) _ (by omega), LB.setCell (by simp) _⟩
        case measure => simp [intOf]
      · have c0 : wr.cell? ⟨w.heap.size + 2, 1 + z + 6, none⟩ = some ((bytesV (padA m.length 6))[1 + z + 6]'(by rw [bytesV_length, padA_length _ _ (by omega)]; omega)) := H3.cell (List.getElem?_eq_getElem _)
        have f0 := H3.free (1 + z + 6)
        have g0 : 1 + (z : Int) + 6 < 72 := by omega
        go_wp2
        go_roundw
        case rel => exact ⟨7, by omega, rfl, L0.other (by simp) _, L1.other (by simp) _, pad_step H3 (by omega) 256 (by decide) _ (by omega) _ (by omega), LB.setCell (by simp) _⟩
        case measure => simp [intOf]
      · have c0 : wr.cell? ⟨w.heap.size + 2, 1 + z + 7, none⟩ = some ((bytesV (padA m.length 7))[1 + z + 7]'(by rw [bytesV_length, padA_length _ _ (by omega)]; omega)) := H3.cell (List.getElem?_eq_getElem _)
        have f0 := H3.free (1 + z + 7)
        have g0 : 1 + (z : Int) + 7 < 72 := by omega
        go_wp2
        go_roundw
        case rel => exact ⟨8, by omega, rfl, L0.other (by simp) _, L1.other (by simp) _, pad_step H3 (by omega) 1 (by decide) _ (by omega) _ (by omega), LB.setCell (by simp) _⟩
        case measure => simp [intOf]
    · obtain rfl : i = 8 := by omega
      clear h8 hi c72
      go_upto_region 8 with (fail)
      obtain ⟨h9, hh⟩ : ∃ h9, 9 + z = h9 := ⟨_, rfl⟩
      have s9 : IntKind.i64.wrap (1 + (z : Int) + 8) = (h9 : Int) := by rw [IntWalk.i64_in _ (by omega)]; omega
      have hln := strV_length (sth m) B m.length hB64
      have hsl : ∀ w' : World, (Instr.sliceAt 133 (.pointer (some ⟨w.heap.size + 2, 0, none⟩)) none (some (.int .i64 (h9 : Int))) none).run Tryd.prog w' = .ok (.slice (some ⟨w.heap.size + 2, 0, none⟩) h9 72) w' := fun w' => slice_upto w' _ _ _ (by omega)
      have htl : (tail m.length).length = h9 := by rw [tail_length, HZ.out]; exact hh
      have hcv : ∀ q, (convert 39 9 (.slice (some ⟨w.heap.size + 2, 0, none⟩) h9 72)).run Tryd.prog (wr.drewN q) = .ok (.string (strOf (tail m.length))) (wr.drewN q) := fun q => by
        have := conv_cells (wr.drewN q) ⟨w.heap.size + 2, 0, none⟩ 72 (tail m.length) (tail_byte _) (fun j u hj => by
          rw [Addr.add_mid, Nat.zero_add]
          apply (H3.drewN q).cell
          have e : bytesV (tail m.length) = (bytesV (padA m.length 8)).take h9 := by
            rw [← padA_full, HZ.out, hh]
            simp [bytesV]
          rw [e, List.getElem?_take] at hj
          split at hj
          · exact hj
          · cases hj)
        rwa [htl] at this
      clear hh htl
      have HCV := Lib.hid (hcv 1)
      clear hcv
      refine wp_region_still_tail 5 (by kernel_rfl) (by kernel_rfl) ?_
      simp only [List.take_succ_cons, List.take_zero, List.drop_succ_cons, List.drop_zero]
      refine still_load rfl 122 (.tmp 1) rfl (L0.drewN 1) rfl Tryd.underlying122 rfl (m := 73) (by kernel_rfl) hln ?_
      still_step
      still_step
      still_step
      refine still_convert rfl 39 9 (.tmp 35) rfl rfl HCV.out ?_
      refine wpStill_nil ?_
      clear HCV s9 hsl
      have M0 : Blk (World.mk wr.heap wr.tape (wr.drawn + 1) wr.os wr.output) w.heap.size 122 (strV (sth m) B m.length) := L0
      have M1 : Blk (World.mk wr.heap wr.tape (wr.drawn + 1) wr.os wr.output) (w.heap.size + 1) 114 (bytesV z32) := L1
      have MB : Below w.heap.size w (World.mk wr.heap wr.tape (wr.drawn + 1) wr.os wr.output) := below_drewN LB 1
      have hsz : w.heap.size + 1 < (World.mk wr.heap wr.tape (wr.drawn + 1) wr.os wr.output).heap.size := L1.lt
      clear L0 L1 H3 LB
      generalize World.mk _ _ _ _ _ = wq at *
      have HADD := add_any m B hS (strOf (tail m.length)) (by rw [strOf_size, tail_length, HZ.out]; omega) wq (hG.keep MB)
      rw [sb_strOf _ (tail_byte _)] at HADD
      have HA := Lib.hid HADD
      clear HADD
      go_upto_region 9 with (first | (go_at_call 72; refine HA.out.mono ?_; rintro e w2 ⟨B2, hS2, rfl, hB2⟩; have P0 := M0.keep hB2) | (refine store_blk rfl 122 (.tmp 1) (.tmp 37) rfl P0 rfl rfl (m := 73) (by kernel_rfl) (strV_length _ _ _ hS2.1.1) hln (strV_cells _ _ _) ?_; intro w3 N0 hO3))
      have N1 := hO3.2.1 _ _ _ (by omega) (M1.keep hB2)
      have NB := hO3.2.2 _ _ (Nat.le_refl _) (MB.trans (hB2.mono MB.size))
      have hsz3 : w.heap.size + 2 ≤ w3.heap.size := by have h1 := hO3.1; have h2 := hB2.size; omega
      clear M0 M1 MB hB2 hO3 P0 HA hsz hln
      have hz2 := zero_32
      generalize m.length + (tail m.length).length = n3 at N0
      obtain ⟨ss, hss⟩ : ∃ x, sth (m ++ tail m.length) = x := ⟨_, rfl⟩
      rw [hss] at N0
      have HSS := Lib.hid hss
      clear hss
      go_upto_region 10 with (fail)
      have L0 : Blk (w3.alloc (.cells (bytesV z32).toArray 114)) w.heap.size 122 (strV ss B2 n3) := N0.alloc _
      have L1 : Blk (w3.alloc (.cells (bytesV z32).toArray 114)) (w.heap.size + 1) 114 (bytesV z32) := N1.alloc _
      have L6 : Blk (w3.alloc (.cells (bytesV z32).toArray 114)) w3.heap.size 114 (bytesV (outA ss 0)) := blk_new _ _ _
      have LB := NB.alloc (by omega) (.cells (bytesV z32).toArray 114)
      clear N0 N1 NB hz2
      generalize w3.heap.size = b6 at *
      go_wp2
      go_loopw [38] (fun v wr => SumRel w ss B2 n3 b6 v wr) (fun v _ => 32 - (intOf v).toNat)
      case atStart => exact ⟨0, by omega, rfl, L0, L1, L6, LB⟩
      case round =>
        clear L0 L1 L6 LB
        obtain ⟨i, hi, rfl, N0, N1, N6, NB⟩ := hrel
        by_cases h32 : i < 32
        · obtain ⟨q, hq⟩ : ∃ q, i / 4 = q := ⟨_, rfl⟩
          have hqi : ((i : Int) / 4) = (q : Int) := by omega
          have hq8 : q < 8 := by omega
          have cw : wr.cell? ⟨w.heap.size, q, none⟩ = some (.int .u32 (u ((stL ss).getD q 0))) := N0.cell (by
            unfold strV
            rw [List.getElem?_append_left (by rw [stL_length]; exact hq8)]
            exact words_get hq8)
          have c6 : wr.cell? ⟨b6, i, none⟩ = some ((bytesV (outA ss i))[i]'(by rw [bytesV_length, outA_length _ _ hi]; exact h32)) := N6.cell (List.getElem?_eq_getElem _)
          have f6 := N6.free i
          have hqr : i / 4 = q := hq
          clear hq
          generalize hxw : (stL ss).getD q 0 = xw at cw
          have x0 := u_lo xw
          have x1 := u_hi xw
          have HX := Lib.hid hxw
          clear hxw
          obtain hr4 | hr4 | hr4 | hr4 : i % 4 = 0 ∨ i % 4 = 1 ∨ i % 4 = 2 ∨ i % 4 = 3 := by omega
          · have hri : ((i : Int) % 4) = 0 := by omega
            go_wp2
            go_roundw
            case rel => exact ⟨i + 1, by omega, by go_num, N0.other (by simp; omega) _, N1.other (by simp; omega) _, out_step (q := q) (r := 0) N6 hq8 (by omega) (by omega) HX.out 16777216 (by decide) (by unfold u; omega), NB.setCell (by simp; omega) _⟩
            case measure => simp [intOf]; omega
          · have hri : ((i : Int) % 4) = 1 := by omega
            go_wp2
            go_roundw
            case rel => exact ⟨i + 1, by omega, by go_num, N0.other (by simp; omega) _, N1.other (by simp; omega) _, out_step (q := q) (r := 1) N6 hq8 (by omega) (by omega) HX.out 65536 (by decide) (by unfold u; omega), NB.setCell (by simp; omega) _⟩
            case measure => simp [intOf]; omega
          · have hri : ((i : Int) % 4) = 2 := by omega
            go_wp2
            go_roundw
            case rel => exact ⟨i + 1, by omega, by go_num, N0.other (by simp; omega) _, N1.other (by simp; omega) _, out_step (q := q) (r := 2) N6 hq8 (by omega) (by omega) HX.out 256 (by decide) (by unfold u; omega), NB.setCell (by simp; omega) _⟩
            case measure => simp [intOf]; omega
          · have hri : ((i : Int) % 4) = 3 := by omega
            go_wp2
            go_roundw
            case rel => exact ⟨i + 1, by omega, by go_num, N0.other (by simp; omega) _, N1.other (by simp; omega) _, out_step (q := q) (r := 3) N6 hq8 (by omega) (by omega) HX.out 1 (by decide) (by unfold u; omega), NB.setCell (by simp; omega) _⟩
            case measure => simp [intOf]; omega
        · obtain rfl : i = 32 := by omega
          have hout : outA ss 32 = sha m := by
            rw [outA_full, ← HSS.out]
            exact sth_pad m
          rw [hout] at N6
          have hsl : (bytesV (sha m)).length = 32 := by rw [bytesV_length, ← hout, outA_length _ _ (Nat.le_refl _)]
          clear hout HSS
          go_wp2_with (first | (refine load_blk rfl 114 (.tmp 6) rfl N6 rfl Tryd.underlying114 (m := 32) (by kernel_rfl) hsl ?_) | (refine store_blk rfl 114 (.tmp 2) (.tmp 55) rfl N1 rfl rfl (m := 32) (by kernel_rfl) hsl (by rw [bytesV_length]; rfl) (bytesV_cells _) ?_; intro w5 hb5 ho5))
          exact bodyPost_ret (v := .agg (bytesV (sha m)).toArray) (hb5.result (p := 2) (ty := 114) rfl _ rfl Tryd.underlying114 (by rw [hsl]; kernel_rfl)) rfl ⟨rfl, ho5.2.2 _ _ (by omega) NB⟩

end Go.Proofs.YtfhfmdnimebegaaDoor

/-
  hash.Sum returns the hash of the bytes.
-/
namespace Go.Proofs.YtfhfmdnimebegaaDoor
open Go.RowKit
set_option linter.unusedVariables false
set_option linter.unusedSimpArgs false

theorem sha_length (m : List Nat) : (sha m).length = 32 := outB_length _
theorem sha_byte (m : List Nat) : ∀ y ∈ sha m, y < 256 := outB_byte _
theorem conv_none (c : Nat) (w : World) : (convert 39 9 (.slice none 0 c)).run Tryd.prog w = .ok (.string (strOf [])) w := by kernel_rfl
theorem conv_any (A : Option Addr) (l : List Nat) (n c : Nat) (w : World) (hn : n = l.length) (hr : Has w A l) : (convert 39 9 (.slice A n c)).run Tryd.prog w = .ok (.string (strOf l)) w := by
  subst hn
  cases A with
  | some ad => exact conv_cells w ad c l hr.2 hr.cells
  | none =>
    have : l = [] := by
      rcases Nat.eq_zero_or_pos l.length with h | h
      · exact List.eq_nil_of_length_eq_zero h
      · obtain ⟨_, ad, e, _⟩ := hr.at 0 l[0] (List.getElem?_eq_getElem h)
        cases e
    subst this
    exact conv_none c w

end Go.Proofs.YtfhfmdnimebegaaDoor

/-
  Authentication codes, as mathematics; the laws for keys.
-/
namespace Go.Proofs.YtfhfmdnimebegaaDoor
open Go.RowKit
set_option linter.unusedVariables false
set_option linter.unusedSimpArgs false

/-- The key of at most 64 bytes. -/
def keyOf64 (k : List Nat) : List Nat := if 64 < k.length then sha k else k
def padK (k : List Nat) : List Nat := k ++ List.replicate (64 - k.length) 0
def xorL (k : List Nat) (x : Nat) : List Nat := k.map (· ^^^ x)
def hmac (key text : List Nat) : List Nat := sha (xorL (padK (keyOf64 key)) 92 ++ sha (xorL (padK (keyOf64 key)) 54 ++ text))
theorem xor_lt {x y : Nat} (hx : x < 256) (hy : y < 256) : x ^^^ y < 256 := Nat.xor_lt_two_pow (n := 8) hx hy
theorem keyOf64_length (k : List Nat) : (keyOf64 k).length ≤ 64 := by
  unfold keyOf64
  split
  · rw [sha_length]; omega
  · omega
theorem keyOf64_byte (k : List Nat) (h : ∀ y ∈ k, y < 256) : ∀ y ∈ keyOf64 k, y < 256 := by
  unfold keyOf64
  split
  · exact sha_byte k
  · exact h
theorem padK_length (k : List Nat) (h : k.length ≤ 64) : (padK k).length = 64 := by simp [padK]; omega
theorem padK_byte (k : List Nat) (h : ∀ y ∈ k, y < 256) : ∀ y ∈ padK k, y < 256 := by
  intro y hy
  rcases List.mem_append.1 hy with h1 | h1
  · exact h y h1
  · rw [(List.mem_replicate.1 h1).2]; omega
theorem xorL_byte (k : List Nat) (x : Nat) (hx : x < 256) (h : ∀ y ∈ k, y < 256) : ∀ y ∈ xorL k x, y < 256 := by
  intro y hy
  obtain ⟨z, hz, rfl⟩ := List.mem_map.1 hy
  exact xor_lt (h z hz) hx
theorem xorL_length (k : List Nat) (x : Nat) : (xorL k x).length = k.length := by simp [xorL]
/-- The first i bytes have been changed. -/
def xorA (k : List Nat) (x i : Nat) : List Nat := xorL (k.take i) x ++ k.drop i
theorem xorA_length (k : List Nat) (x i : Nat) : (xorA k x i).length = k.length := by simp [xorA, xorL]; omega
theorem xorA_zero (k : List Nat) (x : Nat) : xorA k x 0 = k := by simp [xorA, xorL]
theorem xorA_full (k : List Nat) (x : Nat) : xorA k x k.length = xorL k x := by simp [xorA]
theorem xorA_get (k : List Nat) (x i : Nat) (h : i < k.length) : (xorA k x i)[i]? = some k[i] := by
  unfold xorA
  rw [List.getElem?_append_right (by rw [xorL_length, List.length_take]; omega), xorL_length, List.length_take, Nat.min_eq_left (by omega), Nat.sub_self, List.getElem?_drop, Nat.add_zero, List.getElem?_eq_getElem h]
theorem xorA_set (k : List Nat) (x i : Nat) (h : i < k.length) : (xorA k x i).set i (k[i] ^^^ x) = xorA k x (i + 1) := by
  have hl : (xorL (k.take i) x).length = i := by rw [xorL_length, List.length_take]; omega
  unfold xorA
  rw [List.set_append_right _ _ (by omega), hl, Nat.sub_self, List.drop_eq_getElem_cons h, List.set_cons_zero, List.take_add_one, List.getElem?_eq_getElem h]
  simp only [Option.toList_some, xorL, List.map_append, List.map_cons, List.map_nil, List.append_assoc, List.cons_append, List.nil_append]
theorem xor_u8 (y x : Nat) (hy : y < 256) (hx : x < 256) : bits BinOp.xor IntKind.u8 (y : Int) (x : Int) = ((y ^^^ x : Nat) : Int) := by
  have h := xor_lt hy hx
  show IntKind.u8.wrap ((BitVec.ofInt 8 (y : Int) ^^^ BitVec.ofInt 8 (x : Int)).toNat : Int) = _
  rw [BitVec.ofInt_natCast, BitVec.ofInt_natCast, BitVec.toNat_xor, BitVec.toNat_ofNat, BitVec.toNat_ofNat, Nat.mod_eq_of_lt hy, Nat.mod_eq_of_lt hx]
  simp [IntKind.wrap, IntKind.signed, IntKind.bits]
  omega

end Go.Proofs.YtfhfmdnimebegaaDoor

/-
  hash.Mac returns the authentication code of a text.
-/
namespace Go.Proofs.YtfhfmdnimebegaaDoor
open Go.RowKit
set_option linter.unusedVariables false
set_option linter.unusedSimpArgs false

theorem to_bytes (s : ByteArray) (w : World) : ∃ cap w2, (convert 9 39 (.string s)).run Tryd.prog w = .ok (.slice (some ⟨w.heap.size, 0, none⟩) s.size cap) w2 ∧ Below w.heap.size w w2 ∧ ∀ j u, (bytesV (sb s))[j]? = some u → w2.cell? ((⟨w.heap.size, 0, none⟩ : Addr).add j) = some u := by
  refine ⟨_, _, run_bytes_of_string w 9 39 5 s Tryd.underlying9 Tryd.underlying39 Tryd.underlying5, (Below.refl _ _).drew.alloc (Nat.le_refl _) _, ?_⟩
  intro j u hj
  rw [Addr.add_mid, Nat.zero_add]
  have h := World.cell?_alloc_mark w.drew (bytesRow s (grownCap w s.size 0 5)) 5 ((bytesRow s (grownCap w s.size 0 5)).size, (bytesRow s (grownCap w s.size 0 5)).size + 1) j
  have hlt : j < s.data.size := by
    have := (List.getElem?_eq_some_iff.1 hj).1
    rw [bytesV_length, sb_length] at this
    exact this
  rw [bytesRow_at s _ j hlt] at h
  refine h.trans ?_
  rw [← hj]
  simp only [bytesV, sb, List.getElem?_map, Array.getElem?_toList, Array.getElem?_eq_getElem hlt, Option.map_some, byteV]
def z64 : List Nat := List.replicate 64 0
theorem zero_64 (w : World) : (zeroValue 120).run Tryd.prog w = .ok (.agg (bytesV z64).toArray) w := by kernel_rfl
theorem z64_length : (bytesV z64).length = 64 := rfl
theorem put_z64 (k : List Nat) (h : k.length ≤ 64) : splice (bytesV z64) 0 (bytesV k) = bytesV (padK k) := by
  unfold splice padK z64
  rw [List.take_zero, List.nil_append, Nat.zero_add, bytesV_length, bytesV_append]
  congr 1
  unfold bytesV
  rw [← List.map_drop, List.drop_replicate]

theorem chain {B : Nat} {a b c : World} (h1 : Below B a b) (hB : B ≤ b.heap.size) (h2 : Below b.heap.size b c) : Below B a c := h1.trans (h2.mono hB)
theorem link {a b c : World} (h1 : Below a.heap.size a b) (h2 : Below b.heap.size b c) : Below a.heap.size a c := h1.trans (h2.mono h1.size)
theorem first_le {B : Nat} {a b : World} (h : Below B a b) : a.heap.size ≤ b.heap.size := h.size
/-- A hash has been laid into a block of its own, not below lo. -/
def LaidAt (wr : World) (d : List Nat) (v : Value) (wx : World) : Prop := ∃ b, v = .pointer (some ⟨b, 0, none⟩) ∧ Blk wx b 114 (bytesV d) ∧ Below wr.heap.size wr wx
theorem laid_at {wr w4 : World} {b : Nat} {d : List Nat} (N : Blk w4 b 114 (bytesV z32)) (hd : d.length = 32) (hb : wr.heap.size ≤ b) (hB : Below wr.heap.size wr w4) : LaidAt wr d (.pointer (some ⟨b, 0, none⟩)) (w4.setCells b 0 (bytesV d)) :=
  ⟨b, rfl, N.all (by rw [bytesV_length, bytesV_length, hd]; rfl), (only_sets b 0 w4 (bytesV d)).2.2 _ _ hb hB⟩
/-- What holds while the two keys are changed. -/
def XorRel (V w : World) (k : List Nat) (v : Value) (wr : World) : Prop :=
  ∃ i : Nat, i ≤ 64 ∧ v = .int .i64 i ∧ Blk wr w.heap.size 120 (bytesV (xorA k 54 i)) ∧ Blk wr (w.heap.size + 1) 120 (bytesV (xorA k 92 i)) ∧ Below w.heap.size w wr
theorem xor_step {wr : World} {b i : Nat} {t : TypeId} {k : List Nat} {x y : Nat} (H : Blk wr b t (bytesV (xorA k x i))) (h : i < k.length) (hy : k[i] = y) (hyb : y < 256) (hx : x < 256) {V : Int} (hV : V = bits BinOp.xor IntKind.u8 (y : Int) (x : Int)) :
    Blk (wr.setCell ⟨b, i, none⟩ (.int .u8 V)) b t (bytesV (xorA k x (i + 1))) := by
  subst hV; subst hy
  rw [xor_u8 _ _ hyb hx]
  have := H.set i (byteV (k[i] ^^^ x))
  rw [← xorA_set k x i h]
  unfold bytesV at this ⊢
  rw [List.map_set]
  exact this

theorem add_key (l : List Nat) (hb : ∀ y ∈ l, y < 256) (hl : l.length ≤ 1048576) (B : List Nat) (hS : Stm [] B) (w1 : World) (hG : Glob w1) :
    Calls Tryd.prog 72 #[.agg (strV (sth []) B 0).toArray, .string (strOf l)] w1 (AddTo w1 l) := by
  have := add_any [] B hS (strOf l) (by rw [strOf_size, List.length_nil]; omega) w1 hG
  rwa [sb_strOf l hb, List.nil_append] at this

theorem conv_blk {w : World} {b n : Nat} {t : TypeId} {l : List Nat} (h : Blk w b t (bytesV l)) (hb : ∀ y ∈ l, y < 256) (hl : l.length = n) : (convert 39 9 (.slice (some ⟨b, 0, none⟩) n n)).run Tryd.prog w = .ok (.string (strOf l)) w := by
  subst hl
  exact conv_cells w ⟨b, 0, none⟩ l.length l hb (fun j u hj => by rw [Addr.add_mid, Nat.zero_add]; exact h.cell hj)
theorem add_text {m M : List Nat} {t : ByteArray} (hM : m ++ sb t = M) (hl : m.length + t.size ≤ 1152921504606846975) (B : List Nat) (hS : Stm m B) (w1 : World) (hG : Glob w1) :
    Calls Tryd.prog 72 #[.agg (strV (sth m) B m.length).toArray, .string t] w1 (AddTo w1 M) := by
  subst hM
  exact add_any m B hS t hl w1 hG
theorem add_more {m M d : List Nat} (hM : m ++ d = M) (hd : ∀ y ∈ d, y < 256) (hl : m.length + d.length ≤ 1152921504606846975) (B : List Nat) (hS : Stm m B) (w1 : World) (hG : Glob w1) :
    Calls Tryd.prog 72 #[.agg (strV (sth m) B m.length).toArray, .string (strOf d)] w1 (AddTo w1 M) := by
  subst hM
  have := add_any m B hS (strOf d) (by rw [strOf_size]; exact hl) w1 hG
  rwa [sb_strOf d hd] at this
theorem sum_at {M D : List Nat} (hD : sha M = D) (B : List Nat) (hS : Stm M B) (hl : M.length ≤ 1152921504606846000) (w1 : World) (hG : Glob w1) :
    Calls Tryd.prog 74 #[.agg (strV (sth M) B M.length).toArray] w1 fun e w' => e = .returned (.agg (bytesV D).toArray) ∧ Below w1.heap.size w1 w' := by
  subst hD
  exact strsum_any M B hS hl w1 hG

end Go.Proofs.YtfhfmdnimebegaaDoor

/-
  hash.Equal tells whether two strings are equal.
-/
namespace Go.Proofs.YtfhfmdnimebegaaDoor
open Go.RowKit
set_option linter.unusedVariables false
set_option linter.unusedSimpArgs false

theorem or_u8 (y x : Nat) (hy : y < 256) (hx : x < 256) : bits BinOp.or IntKind.u8 (y : Int) (x : Int) = ((y ||| x : Nat) : Int) := by
  have h : y ||| x < 256 := Nat.or_lt_two_pow (n := 8) hy hx
  show IntKind.u8.wrap ((BitVec.ofInt 8 (y : Int) ||| BitVec.ofInt 8 (x : Int)).toNat : Int) = _
  rw [BitVec.ofInt_natCast, BitVec.ofInt_natCast, BitVec.toNat_or, BitVec.toNat_ofNat, BitVec.toNat_ofNat, Nat.mod_eq_of_lt hy, Nat.mod_eq_of_lt hx]
  simp [IntKind.wrap, IntKind.signed, IntKind.bits]
  omega
theorem or_raw (d x y : Nat) (hd : d < 256) (hx : x < 256) (hy : y < 256) : bits BinOp.or IntKind.u8 (d : Int) (bits BinOp.xor IntKind.u8 (x : Int) (y : Int)) = ((d ||| (x ^^^ y) : Nat) : Int) := by
  rw [xor_u8 x y hx hy, or_u8 d _ hd (xor_lt hx hy)]
theorem or_zero (d x y : Nat) : d ||| (x ^^^ y) = 0 ↔ d = 0 ∧ x = y := by
  constructor
  · intro h
    have h1 := Nat.or_eq_zero_iff.1 h
    refine ⟨h1.1, ?_⟩
    have e : (x ^^^ y) ^^^ y = x := by rw [Nat.xor_assoc, Nat.xor_self, Nat.xor_zero]
    rw [h1.2, Nat.zero_xor] at e
    exact e.symm
  · rintro ⟨rfl, rfl⟩
    simp
theorem sb_inj {a b : ByteArray} (h : sb a = sb b) : a = b := by rw [← strOf_sb a, ← strOf_sb b, h]
/-- What holds at each round's head: d is zero exactly if the first k bytes are the same. -/
def EqRel (w : World) (a b : ByteArray) (v d : Value) (wr : World) : Prop :=
  ∃ k n : Nat, k ≤ a.size ∧ v = .int .i64 k ∧ d = .int .u8 n ∧ n < 256 ∧ Hid (n = 0 ↔ (sb a).take k = (sb b).take k) ∧ Below w.heap.size w wr
/-- The call said so; what was there is as it was. -/
def Told (w : World) (b : Bool) (e : Ending) (w' : World) : Prop := e = .returned (.bool b) ∧ Below w.heap.size w w'
theorem told_bool {w w' : World} {b c : Bool} (h : c = b) (hB : Below w.heap.size w w') : Told w b (.returned (.bool c)) w' := ⟨by rw [h], hB⟩

end Go.Proofs.YtfhfmdnimebegaaDoor

/-
  The specification's Bytes32 and Text, and the law's hex: bytes as strings.
-/
namespace Go.Proofs.YtfhfmdnimebegaaDoor
open Go.RowKit
set_option linter.unusedVariables false
set_option linter.unusedSimpArgs false

theorem own_nil (w : World) : Own w w (.slice none 0 0) [] := by
  refine ⟨?_, Below.refl _ _⟩
  have := World.ownsRow_nil w w.heap.size 5 1
  simpa [bytesV] using this
/-- What holds while the bytes h of a boxed array are gathered. -/
def GatRel (W0 : World) (h : List Nat) (v i : Value) (wr : World) : Prop :=
  ∃ k : Nat, k ≤ h.length ∧ i = .int .i64 k ∧ Own W0 wr v (h.take k)
theorem take_succ' (h : List Nat) (k : Nat) (hk : k < h.length) : h.take (k + 1) = h.take k ++ [h[k]] := by
  rw [List.take_add_one, List.getElem?_eq_getElem hk]
  rfl
theorem own_conv {W w : World} {v : Value} {l : List Nat} (h : Own W w v l) (h0 : 0 < l.length) (hb : ∀ y ∈ l, y < 256) : (convert 39 9 v).run Tryd.prog w = .ok (.string (strOf l)) w := by
  obtain ⟨g, cap, rfl, _, _⟩ := h.1.form h0
  have hh := h.has hb
  exact conv_cells w ⟨g, 0, none⟩ cap l hb hh.cells

set_option maxHeartbeats 1000000 in
set_option maxRecDepth 100000 in
theorem text_any (h : List Nat) (hl : h.length = 16) (hb : ∀ y ∈ h, y < 256) (w : World) :
    Calls Tryd.prog 61 #[.agg (bytesV h).toArray] w fun e w' => e = .returned (.string (strOf h)) ∧ Below w.heap.size w w' := by
  go_enter Tryd.func61, Tryd.ntmps61
  go_upto_region 1 with (fail)
  generalize hw0 : World.alloc _ _ = W0
  have K0 : Blk W0 w.heap.size 29 (bytesV h) := hw0 ▸ blk_new w _ _
  have KB : Below w.heap.size w W0 := hw0 ▸ ((Below.refl _ _).alloc (Nat.le_refl _) _)
  clear hw0
  have HL := Lib.hid hl
  clear hl
  have h32 : h.length ≤ 16 := by rw [HL.out]; omega
  have h32' : 16 ≤ h.length := by rw [HL.out]; omega
  go_wp2
  go_loopw [3, 4] (fun v i wr => GatRel W0 h v i wr) (fun _ i _ => 16 - (intOf i).toNat)
  case atStart => exact ⟨0, by omega, rfl, own_nil W0⟩
  case round =>
    obtain ⟨k, hk, rfl, hO⟩ := hrel
    by_cases hlt : k < h.length
    · obtain ⟨y, hy⟩ : ∃ y, h[k] = y := ⟨_, rfl⟩
      have c0 : wr.cell? ⟨w.heap.size, k, none⟩ = some (.int .u8 (y : Int)) := (K0.keep hO.below).cell (by simp [bytesV, byteV, hlt, hy])
      have hlen : (h.take k).length ≤ 70368744177664 := by rw [List.length_take]; omega
      have hts := take_succ' h k hlt
      rw [hy] at hts
      have HT := Lib.hid hts
      clear hts hy
      have hk32 : (k : Int) < 16 := by omega
      go_wp2_with (at_builtin; refine push_byte (W := W0) rfl _ _ rfl (h.take k) y _ rfl hO _ rfl rfl hlen ?_)
      intro v5 w5 hO5
      clear hO c0
      go_wp2
      go_roundw
      case rel => exact ⟨k + 1, by omega, by go_num, by rw [HT.out]; exact hO5⟩
      case measure => simp [intOf]; omega
    · have hx : (h.take k) = h := List.take_of_length_le (by omega)
      rw [hx] at hO
      have hcv := own_conv hO (by omega) hb
      have hf : decide ((k : Int) < 16) = false := by simp; omega
      clear hx
      go_wp2
      go_ret
      exact ⟨rfl, chain KB KB.size hO.below⟩


end Go.Proofs.YtfhfmdnimebegaaDoor

/-
  The law's hex: the hexadecimal digits of a string.
-/
namespace Go.Proofs.YtfhfmdnimebegaaDoor
open Go.RowKit
set_option linter.unusedVariables false
set_option linter.unusedSimpArgs false

def dg (q : Nat) : Nat := if q < 10 then 48 + q else 87 + q
def hexL (l : List Nat) : List Nat := l.flatMap fun y => [dg (y / 16), dg (y % 16)]
theorem dig_val (q : Nat) (hq : q < 16) (h : q < (⟨#[48, 49, 50, 51, 52, 53, 54, 55, 56, 57, 97, 98, 99, 100, 101, 102]⟩ : ByteArray).size) : ((⟨#[48, 49, 50, 51, 52, 53, 54, 55, 56, 57, 97, 98, 99, 100, 101, 102]⟩ : ByteArray)[q]'h).toNat = dg q := by
  obtain rfl | rfl | rfl | rfl | rfl | rfl | rfl | rfl | rfl | rfl | rfl | rfl | rfl | rfl | rfl | rfl : q = 0 ∨ q = 1 ∨ q = 2 ∨ q = 3 ∨ q = 4 ∨ q = 5 ∨ q = 6 ∨ q = 7 ∨ q = 8 ∨ q = 9 ∨ q = 10 ∨ q = 11 ∨ q = 12 ∨ q = 13 ∨ q = 14 ∨ q = 15 := by omega
  all_goals rfl
theorem wrap_u8 (q : Nat) (h : q < 256) : IntKind.u8.wrap (q : Int) = (q : Int) := by
  simp [IntKind.wrap, IntKind.signed, IntKind.bits]
  omega
theorem dg_lt (q : Nat) (h : q < 16) : dg q < 256 := by unfold dg; split <;> omega
theorem hexL_byte (l : List Nat) (h : ∀ y ∈ l, y < 256) : ∀ z ∈ hexL l, z < 256 := by
  intro z hz
  obtain ⟨y, hy, h1⟩ := List.mem_flatMap.1 hz
  have := h y hy
  simp only [List.mem_cons, List.not_mem_nil, or_false] at h1
  rcases h1 with rfl | rfl
  · exact dg_lt _ (by omega)
  · exact dg_lt _ (by omega)
theorem hexL_length (l : List Nat) : (hexL l).length = 2 * l.length := by
  induction l with
  | nil => rfl
  | cons a l ih =>
    simp only [hexL, List.flatMap_cons, List.length_append, List.length_cons, List.length_nil] at ih ⊢
    omega

/-- append(out, x, y) inside the statement that draws its order. -/
theorem step_push_two {ops : Array Oper} {o : Oper} {a : Act} {K : Act → World → Prop} {Q : Exit → Act → World → Prop} {E : Prop} (hgd : o.guard = none) (s x : Operand)
    (ho : o.op = .call { callee := .builtin .append, args := #[s, x], argTypes := #[39, 39] })
    (W w0 : World) (l : List Nat) (v : Value) (hs : a.eval s = v) (hO : Own W w0 v l) (hn : l.length ≤ 70368744177664) (y z : Nat) (hx : a.eval x = .slice (some ⟨w0.heap.size, 0, none⟩) 2 2)
    (h : ∀ v' w', Own W w' v' (l ++ [y, z]) → K (a.put o.dst v') w') :
    if Region.wanted o (yielded ops a.tmps) = true then Oper.wp Tryd.prog o a (w0.alloc (.cells #[.int .u8 (y : Int), .int .u8 (z : Int)] 5)).drew K Q else E := by
  obtain ⟨hown, hb⟩ := hO
  obtain ⟨i0, hi, hz0, hz1, hz2⟩ := info_parts u8info
  refine step_append_lies _ hgd s x 39 ho W.heap.size 5 i0 (.int .u8 0) 1 1 Tryd.underlying39 hi hz0 hz1 hz2 rfl (by omega) v l.length (bytesV l) hs ((hown.alloc _).drew) ⟨w0.heap.size, 0, none⟩ 2 2 (bytesV [y, z]) hx rfl (World.news_of_block (heap_alloc_new w0 _)) (fun u hu => by obtain ⟨q, _, rfl⟩ := List.mem_map.1 hu; rfl) (by omega) (by unfold maxLen; omega) (by omega) (by have := hb.size; simp; omega) _ rfl ?_
  intro g cap w' ho' hg' _ _
  refine h _ w' ⟨by rw [bytesV_append]; simpa using ho', ((hb.alloc hb.size _).drew).grown hg' (by have := hb.size; simp; omega) (fun j hj => (hown.lt j hj).1)⟩

/-- What holds while the digits are gathered. -/
def HexRel (w : World) (s : ByteArray) (v i : Value) (wr : World) : Prop :=
  ∃ k : Nat, k ≤ s.size ∧ i = .int .i64 k ∧ Own w wr v (hexL ((sb s).take k))

end Go.Proofs.YtfhfmdnimebegaaDoor

/-
  hash.Of returns the digest of a tag and of parts.
-/
namespace Go.Proofs.YtfhfmdnimebegaaDoor
open Go.RowKit
set_option linter.unusedVariables false
set_option linter.unusedSimpArgs false

/-- The input that Of hashes. -/
def ofIn (T : Nat) (ps : List (List Nat)) : List Nat := T :: ps.flatMap encS
theorem zero_dig (w : World) : (zeroValue 29).run Tryd.prog w = .ok (.agg (bytesV (List.replicate 16 0)).toArray) w := by kernel_rfl
def z16 : List Nat := List.replicate 16 0
theorem zero_dig' (w : World) : (zeroValue 29).run Tryd.prog w = .ok (.agg (bytesV z16).toArray) w := by kernel_rfl
theorem conv_one (T : Nat) (hT : T < 256) (b : Nat) (w : World) (h : w.cell? ⟨b, 0, none⟩ = some (.int .u8 (T : Int))) : (convert 39 9 (.slice (some ⟨b, 0, none⟩) 1 1)).run Tryd.prog w = .ok (.string (strOf [T])) w :=
  conv_cells w ⟨b, 0, none⟩ 1 [T] (fun y hy => by rw [List.mem_singleton.1 hy]; exact hT) (fun j u hj => by
    match j, hj with
    | 0, hj =>
      obtain rfl : byteV T = u := by simpa [bytesV] using hj
      rw [Addr.add_mid]
      exact h
    | j + 1, hj => simp [bytesV] at hj)

/-- A stream with the message m lies in a block of its own, not below wr. -/
def LaidS (wr : World) (m : List Nat) (v : Value) (wx : World) : Prop := ∃ b B, v = .pointer (some ⟨b, 0, none⟩) ∧ wr.heap.size ≤ b ∧ Stm m B ∧ Blk wx b 122 (strV (sth m) B m.length) ∧ Below wr.heap.size wr wx
theorem kc_of {w : World} {b : Nat} {t : TypeId} {v : Value} (h : Blk w b t [v]) : w.cell? ⟨b, 0, none⟩ = some v := h.cell rfl
theorem zeroStr_length : zeroStr.length = 73 := strV_length _ _ _ (by simp)
theorem str_run {w : World} {b : Nat} {m B : List Nat} {k : Nat} (h : Blk w b 122 zeroStr.toArray.toList) (hS : Stm m B) : (storeCells ⟨b, 0, none⟩ (strV (sth m) B k)).run Tryd.prog w = .ok () (w.setCells b 0 (strV (sth m) B k)) :=
  h.storeRun (by rw [strV_length _ _ _ hS.1.1]; exact zeroStr_length.symm) (strV_cells _ _ _)
theorem laid_str {wr w : World} {b : Nat} {m B : List Nat} {k : Nat} (h : Blk w b 122 zeroStr.toArray.toList) (hS : Stm m B) (hk : k = m.length) (hb : wr.heap.size ≤ b) (hB : Below wr.heap.size wr (w.setCells b 0 (strV (sth m) B k))) : LaidS wr m (.pointer (some ⟨b, 0, none⟩)) (w.setCells b 0 (strV (sth m) B k)) := by
  subst hk
  exact ⟨b, B, rfl, hb, hS, h.all (by rw [strV_length _ _ _ hS.1.1]; exact zeroStr_length.symm), hB⟩

/-- The bytes that have been taken in before part k. -/
def ofM (T : Nat) (ps : List ByteArray) (k : Nat) : List Nat := T :: ((sbs ps).take k).flatMap encS
theorem ofM_zero (T : Nat) (ps : List ByteArray) : ofM T ps 0 = [T] := by simp [ofM]
theorem ofM_all (T : Nat) (ps : List ByteArray) : ofM T ps ps.length = ofIn T (sbs ps) := by
  unfold ofM ofIn
  rw [List.take_of_length_le (by simp [sbs])]
theorem ofM_step (T : Nat) (ps : List ByteArray) (k : Nat) (h : k < ps.length) : ofM T ps k ++ encS (sb ps[k]) = ofM T ps (k + 1) := by
  unfold ofM
  have h' : k < (sbs ps).length := by simpa [sbs] using h
  rw [List.take_add_one, List.getElem?_eq_getElem h', List.flatMap_append]
  simp [sbs]
theorem encS_le (s : ByteArray) (h : s.size ≤ 1048576) : (encS (sb s)).length ≤ 1048585 := by
  have := encS_length (sb s) (by rw [sb_length]; omega)
  rw [sb_length] at this
  omega
theorem ofM_len (T : Nat) (ps : List ByteArray) (ht : ∀ s ∈ ps, s.size ≤ 1048576) : ∀ k, k ≤ ps.length → (ofM T ps k).length ≤ 1 + k * 1048585
  | 0, _ => by rw [ofM_zero]; simp
  | k + 1, h => by
    rw [← ofM_step T ps k (by omega), List.length_append]
    have h1 := ofM_len T ps ht k (by omega)
    have h2 := encS_le ps[k] (ht _ (List.getElem_mem _))
    omega
theorem encS_byte (s : ByteArray) (h : s.size ≤ 1048576) : ∀ d ∈ encS (sb s), d < 256 := by
  intro d hd
  unfold encS at hd
  rcases List.mem_append.1 hd with h1 | h1
  · rw [sb_length] at h1
    exact enc_lt _ (by omega) (by omega) d h1
  · exact sb_lt s d h1
/-- What holds at each round's head. -/
def OfRel (wr : World) (b : Nat) (m : List Nat) (wx : World) : Prop := ∃ B, Stm m B ∧ Blk wx b 122 (strV (sth m) B m.length) ∧ Below wr.heap.size wr wx
theorem rng_str {w : World} {b : Nat} {cs : List Value} (h : Blk w b 122 cs) : w.rangeAt b 0 cs := by
  have hr := h.range 0 cs.length
  rwa [List.drop_zero, List.take_length] at hr
theorem info_str {m B : List Nat} {k : Nat} (hB : B.length = 64) : (Tryd.prog.info? 122).map (·.size) = some (strV (sth m) B k).length := by
  rw [strV_length _ _ _ hB]
  kernel_rfl
theorem str_store {w : World} {b : Nat} {cs : List Value} {m B : List Nat} {k : Nat} (h : Blk w b 122 cs) (hl : cs.length = 73) (hB : B.length = 64) : (storeCells ⟨b, 0, none⟩ (strV (sth m) B k)).run Tryd.prog w = .ok () (w.setCells b 0 (strV (sth m) B k)) ∧ Blk (w.setCells b 0 (strV (sth m) B k)) b 122 (strV (sth m) B k) :=
  ⟨h.storeRun (by rw [strV_length _ _ _ hB, hl]) (strV_cells _ _ _), h.all (by rw [strV_length _ _ _ hB, hl])⟩

theorem slice_16 (w : World) (b : Nat) : (Instr.sliceAt 114 (.pointer (some ⟨b, 0, none⟩)) none (some (.int .i64 16)) none).run Tryd.prog w = .ok (.slice (some ⟨b, 0, none⟩) 16 32) w := by
  have hL : Tryd.prog.arrayLen 114 = 32 := by kernel_rfl
  have hE : Tryd.prog.elem 114 = 5 := by kernel_rfl
  have ht : Tryd.prog.underlying 114 = some (.array (Tryd.prog.arrayLen 114) (Tryd.prog.elem 114)) := by rw [hL, hE]; exact Tryd.underlying114
  rw [run_sliceAt_array_h w _ _ ht .i64 16 (by omega) (by rw [hL]; omega), hE, size_u8, hL]
  simp [Result.andThen_ok, slicedAt, Addr.add_mid]

theorem array_16 (w : World) (b : Nat) : (Instr.arrayAt 29 (.slice (some ⟨b, 0, none⟩) 16 32)).run Tryd.prog w = .ok (.pointer (some ⟨b, 0, none⟩)) w := by
  simp [Instr.arrayAt, run_underlying Tryd.underlying29]

attribute [local irreducible] zeroStr strV
set_option maxHeartbeats 4000000 in
set_option maxRecDepth 100000 in
theorem of_any (tag : Int) (T : Nat) (hT : T < 256) (hTt : IntKind.u8.wrap tag = (T : Int)) (A : Option Addr) (ps : List ByteArray) (n c : Nat) (w : World) (hn : n = ps.length) (hl : ps.length ≤ 1048576) (ht : ∀ s ∈ ps, s.size ≤ 1048576) (hr : Cells w A (strsV ps)) (hG : Glob w) :
    Calls Tryd.prog 57 #[.int .i64 tag, .slice A n c] w fun e w' => e = .returned (.agg (bytesV ((sha (ofIn T (sbs ps))).take 16)).toArray) ∧ Below w.heap.size w w' := by
  subst hn
  have hz := zero_stream
  have hz1 := zero_dig'
  have hz2 := zero_32
  go_enter Tryd.func57, Tryd.ntmps57
  go_upto_region 1 with (fail)
  generalize hw0 : World.alloc _ _ = W0
  have K0 : Blk W0 w.heap.size 29 (bytesV z16) := hw0 ▸ blk_new w _ _
  have KB : Below w.heap.size w W0 := hw0 ▸ ((Below.refl _ _).alloc (Nat.le_refl _) _)
  clear hw0
  have hr0 := hr.keep KB
  have hGr := hG.keep KB
  have hcv := conv_one T hT
  have HA1 := Lib.hid (fun (B : List Nat) (hS : Stm [] B) (w1 : World) (hG : Glob w1) => add_key [T] (fun y hy => by rw [List.mem_singleton.1 hy]; exact hT) (by simp) B hS w1 hG)
  go_cut [5] (fun s5 wx => LaidS W0 [T] s5 wx)
  case first =>
    refine wp_region_held_drew (S := fun _ => True) (by kernel_rfl) trivial (fun _ => ?_)
    have hB : Below W0.heap.size W0 W0.drew := below_drew (Below.refl _ _)
    generalize W0.drew = V0 at hB ⊢
    refine wpAnyH_take (i := 1) (oi := ⟨some 10, .move (.tmp 0), 3, "hash.go:124", #[], none⟩) (v := .int .i64 tag) rfl (by kernel_rfl) (by kernel_rfl) (by kernel_rfl) (fun _ _ _ h => h) (Or.inl ⟨by rfl, fun w' _ => by go_simp⟩) trivial ?_
    try simp only [zP, zQ, zS, zZ, zC]
    refine wpAnyH_take (i := 2) (oi := ⟨some 11, .convert 3 5 (.tmp 10), 5, "hash.go:124", #[⟨1, .data⟩], none⟩) (v := .int .u8 (T : Int)) rfl (by kernel_rfl) (by kernel_rfl) (by kernel_rfl) (fun _ _ _ h => h) (Or.inl ⟨by rfl, fun w' _ => by go_simp⟩) trivial ?_
    try simp only [zP, zQ, zS, zZ, zC]
    refine wpAnyH_ready (rs := [0, 3, 6]) (by kernel_rfl) (by simp) ?_
    refine AllReadyH.cons (o := ⟨some 9, .call { callee := .value (.func 71), args := #[], argTypes := #[] }, 122, "hash.go:124", #[], none⟩) rfl (fun K hK => ?_) (AllReadyH.cons (o := ⟨some 12, .buildSlice 39 1 #[(0, .tmp 11)], 39, "hash.go:124", #[⟨2, .data⟩], none⟩) rfl (fun K hK => ?_) (AllReadyH.cons (o := ⟨some 5, .alloc 122, 0, "hash.go:124", #[], none⟩) rfl (fun K hK => ?_) AllReadyH.nil))
    rw [if_pos (by rfl)]
    go_simp
    refine (begin_str _ (hGr.keep hB)).mono ?_
    rintro e V1 ⟨B1, hS1, rfl, hC⟩
    replace hB := link hB hC
    clear hC
    dsimp only
    refine hK.out _ _ trivial (fun _ => ?_)
    clear hK K
    try simp only [zP, zQ, zS, zZ, zC]
    refine wpAnyH_ready (rs := [3, 6]) (by kernel_rfl) (by simp) ?_
    refine AllReadyH.cons (o := ⟨some 12, .buildSlice 39 1 #[(0, .tmp 11)], 39, "hash.go:124", #[⟨2, .data⟩], none⟩) rfl (fun K hK => ?_) (AllReadyH.cons (o := ⟨some 5, .alloc 122, 0, "hash.go:124", #[], none⟩) rfl (fun K hK => ?_) AllReadyH.nil)
    rw [if_pos (by rfl)]
    go_simp
    refine hK.out _ _ trivial (fun _ => ?_)
    clear hK K
    try simp only [zP, zQ, zS, zZ, zC]
    have kb := blk_new V1 5 #[.int .u8 (T : Int)]
    replace hB := hB.alloc hB.size (.cells #[.int .u8 (T : Int)] 5)
    generalize World.alloc V1 _ = V2 at kb hB ⊢
    refine wpAnyH_ready (rs := [4, 6]) (by kernel_rfl) (by simp) ?_
    refine AllReadyH.cons (o := ⟨some 13, .convert 39 9 (.tmp 12), 9, "hash.go:124", #[⟨3, .data⟩], none⟩) rfl (fun K hK => ?_) (AllReadyH.cons (o := ⟨some 5, .alloc 122, 0, "hash.go:124", #[], none⟩) rfl (fun K hK => ?_) AllReadyH.nil)
    have kv := hcv _ _ (kc_of kb)
    rw [if_pos (by rfl)]
    go_simp
    clear kv kb
    refine hK.out _ _ trivial (fun _ => ?_)
    clear hK K
    try simp only [zP, zQ, zS, zZ, zC]
    refine wpAnyH_ready (rs := [5, 6]) (by kernel_rfl) (by simp) ?_
    refine AllReadyH.cons (o := ⟨some 14, .call { callee := .value (.func 72), args := #[.tmp 9, .tmp 13], argTypes := #[122, 9] }, 122, "hash.go:124", #[⟨0, .data⟩, ⟨4, .data⟩, ⟨0, .chain⟩], none⟩) rfl (fun K hK => ?_) (AllReadyH.cons (o := ⟨some 5, .alloc 122, 0, "hash.go:124", #[], none⟩) rfl (fun K hK => ?_) AllReadyH.nil)
    focus
      rw [if_pos (by rfl)]
      go_simp
      refine (HA1.out _ hS1 _ (hGr.keep hB)).mono ?_
      rintro e V3 ⟨B2, hS2, rfl, hC⟩
      replace hB := link hB hC
      clear hC
      have hln := strV_length (sth [T]) B2 1 hS2.1.1
      dsimp only
      refine hK.out _ _ trivial (fun _ => ?_)
      clear hK K
      try simp only [zP, zQ, zS, zZ, zC]
      refine wpAnyH_ready (rs := [6]) (by kernel_rfl) (by simp) ?_
      refine AllReadyH.cons (o := ⟨some 5, .alloc 122, 0, "hash.go:124", #[], none⟩) rfl (fun K hK => ?_) AllReadyH.nil
      rw [if_pos (by rfl)]
      go_simp
      refine hK.out _ _ trivial (fun _ => ?_)
      clear hK K
      try simp only [zP, zQ, zS, zZ, zC]
      have kn := blk_new V3 122 zeroStr.toArray
      have hb5 := hB.size
      replace hB := hB.alloc hB.size (.cells zeroStr.toArray 122)
      generalize World.alloc V3 _ = V4 at kn hB ⊢
      generalize V3.heap.size = b5 at kn hb5 ⊢
      refine wpAnyH_ready (rs := [7]) (by kernel_rfl) (by simp) ?_
      refine AllReadyH.cons (o := ⟨none, .store 122 (.tmp 5) (.tmp 14), 0, "hash.go:124", #[⟨6, .data⟩, ⟨5, .data⟩, ⟨5, .chain⟩, ⟨0, .phase⟩, ⟨1, .phase⟩, ⟨2, .phase⟩, ⟨3, .phase⟩, ⟨4, .phase⟩, ⟨5, .phase⟩, ⟨6, .phase⟩], none⟩) rfl (fun K hK => ?_) AllReadyH.nil
      have kst := str_run (k := 1) kn hS2
      rw [if_pos (by rfl)]
      go_simp
      clear kst
      refine hK.out _ _ trivial (fun _ => ?_)
      clear hK K
      try simp only [zP, zQ, zS, zZ, zC]
      refine wpAnyH_done (by kernel_rfl) ?_ _
      have hcut := laid_str (k := 1) kn hS2 rfl hb5 (below_sets hb5 _ _ hB)
      generalize World.setCells _ _ _ _ = wy at hcut ⊢
      clear kn hB hS1 hS2 hb5 hln HA1 hcv hGr hG hr hr0 K0 KB
      go_wp2_with fail
      go_meet
      exact hcut
    rw [if_pos (by rfl)]
    go_simp
    refine hK.out _ _ trivial (fun _ => ?_)
    clear hK K
    try simp only [zP, zQ, zS, zZ, zC]
    have kn := blk_new V2 122 zeroStr.toArray
    have hb5 := hB.size
    replace hB := hB.alloc hB.size (.cells zeroStr.toArray 122)
    generalize World.alloc V2 _ = V3 at kn hB ⊢
    generalize V2.heap.size = b5 at kn hb5 ⊢
    rotate_left
    rw [if_pos (by rfl)]
    go_simp
    refine hK.out _ _ trivial (fun _ => ?_)
    clear hK K
    try simp only [zP, zQ, zS, zZ, zC]
    have kn := blk_new V2 122 zeroStr.toArray
    have hb5 := hB.size
    replace kb := kb.alloc (.cells zeroStr.toArray 122)
    replace hB := hB.alloc hB.size (.cells zeroStr.toArray 122)
    generalize World.alloc V2 _ = V3 at kn hB kb ⊢
    generalize V2.heap.size = b5 at kn hb5 ⊢
    refine wpAnyH_ready (rs := [4]) (by kernel_rfl) (by simp) ?_
    refine AllReadyH.cons (o := ⟨some 13, .convert 39 9 (.tmp 12), 9, "hash.go:124", #[⟨3, .data⟩], none⟩) rfl (fun K hK => ?_) AllReadyH.nil
    have kv := hcv _ _ (kc_of kb)
    rw [if_pos (by rfl)]
    go_simp
    clear kv kb
    refine hK.out _ _ trivial (fun _ => ?_)
    clear hK K
    try simp only [zP, zQ, zS, zZ, zC]
    rotate_left
    rw [if_pos (by rfl)]
    go_simp
    refine hK.out _ _ trivial (fun _ => ?_)
    clear hK K
    try simp only [zP, zQ, zS, zZ, zC]
    have kn := blk_new V1 122 zeroStr.toArray
    have hb5 := hB.size
    replace hB := hB.alloc hB.size (.cells zeroStr.toArray 122)
    generalize World.alloc V1 _ = V2 at kn hB ⊢
    generalize V1.heap.size = b5 at kn hb5 ⊢
    refine wpAnyH_ready (rs := [3]) (by kernel_rfl) (by simp) ?_
    refine AllReadyH.cons (o := ⟨some 12, .buildSlice 39 1 #[(0, .tmp 11)], 39, "hash.go:124", #[⟨2, .data⟩], none⟩) rfl (fun K hK => ?_) AllReadyH.nil
    rw [if_pos (by rfl)]
    go_simp
    refine hK.out _ _ trivial (fun _ => ?_)
    clear hK K
    try simp only [zP, zQ, zS, zZ, zC]
    have kb := blk_new V2 5 #[.int .u8 (T : Int)]
    replace kn := kn.alloc (.cells #[.int .u8 (T : Int)] 5)
    replace hB := hB.alloc hB.size (.cells #[.int .u8 (T : Int)] 5)
    generalize World.alloc V2 _ = V3 at kb hB kn ⊢
    refine wpAnyH_ready (rs := [4]) (by kernel_rfl) (by simp) ?_
    refine AllReadyH.cons (o := ⟨some 13, .convert 39 9 (.tmp 12), 9, "hash.go:124", #[⟨3, .data⟩], none⟩) rfl (fun K hK => ?_) AllReadyH.nil
    have kv := hcv _ _ (kc_of kb)
    rw [if_pos (by rfl)]
    go_simp
    clear kv kb
    refine hK.out _ _ trivial (fun _ => ?_)
    clear hK K
    try simp only [zP, zQ, zS, zZ, zC]
    rotate_left
    rw [if_pos (by rfl)]
    go_simp
    refine hK.out _ _ trivial (fun _ => ?_)
    clear hK K
    try simp only [zP, zQ, zS, zZ, zC]
    have kb := blk_new V0 5 #[.int .u8 (T : Int)]
    replace hB := hB.alloc hB.size (.cells #[.int .u8 (T : Int)] 5)
    generalize World.alloc V0 _ = V1 at kb hB ⊢
    refine wpAnyH_ready (rs := [0, 4, 6]) (by kernel_rfl) (by simp) ?_
    refine AllReadyH.cons (o := ⟨some 9, .call { callee := .value (.func 71), args := #[], argTypes := #[] }, 122, "hash.go:124", #[], none⟩) rfl (fun K hK => ?_) (AllReadyH.cons (o := ⟨some 13, .convert 39 9 (.tmp 12), 9, "hash.go:124", #[⟨3, .data⟩], none⟩) rfl (fun K hK => ?_) (AllReadyH.cons (o := ⟨some 5, .alloc 122, 0, "hash.go:124", #[], none⟩) rfl (fun K hK => ?_) AllReadyH.nil))
    rw [if_pos (by rfl)]
    go_simp
    refine (begin_str _ (hGr.keep hB)).mono ?_
    rintro e V2 ⟨B1, hS1, rfl, hC⟩
    replace kb := kb.keep hC
    replace hB := link hB hC
    clear hC
    dsimp only
    refine hK.out _ _ trivial (fun _ => ?_)
    clear hK K
    try simp only [zP, zQ, zS, zZ, zC]
    refine wpAnyH_ready (rs := [4, 6]) (by kernel_rfl) (by simp) ?_
    refine AllReadyH.cons (o := ⟨some 13, .convert 39 9 (.tmp 12), 9, "hash.go:124", #[⟨3, .data⟩], none⟩) rfl (fun K hK => ?_) (AllReadyH.cons (o := ⟨some 5, .alloc 122, 0, "hash.go:124", #[], none⟩) rfl (fun K hK => ?_) AllReadyH.nil)
    have kv := hcv _ _ (kc_of kb)
    rw [if_pos (by rfl)]
    go_simp
    clear kv kb
    refine hK.out _ _ trivial (fun _ => ?_)
    clear hK K
    try simp only [zP, zQ, zS, zZ, zC]
    refine wpAnyH_ready (rs := [5, 6]) (by kernel_rfl) (by simp) ?_
    refine AllReadyH.cons (o := ⟨some 14, .call { callee := .value (.func 72), args := #[.tmp 9, .tmp 13], argTypes := #[122, 9] }, 122, "hash.go:124", #[⟨0, .data⟩, ⟨4, .data⟩, ⟨0, .chain⟩], none⟩) rfl (fun K hK => ?_) (AllReadyH.cons (o := ⟨some 5, .alloc 122, 0, "hash.go:124", #[], none⟩) rfl (fun K hK => ?_) AllReadyH.nil)
    focus
      rw [if_pos (by rfl)]
      go_simp
      refine (HA1.out _ hS1 _ (hGr.keep hB)).mono ?_
      rintro e V3 ⟨B2, hS2, rfl, hC⟩
      replace hB := link hB hC
      clear hC
      have hln := strV_length (sth [T]) B2 1 hS2.1.1
      dsimp only
      refine hK.out _ _ trivial (fun _ => ?_)
      clear hK K
      try simp only [zP, zQ, zS, zZ, zC]
      refine wpAnyH_ready (rs := [6]) (by kernel_rfl) (by simp) ?_
      refine AllReadyH.cons (o := ⟨some 5, .alloc 122, 0, "hash.go:124", #[], none⟩) rfl (fun K hK => ?_) AllReadyH.nil
      rw [if_pos (by rfl)]
      go_simp
      refine hK.out _ _ trivial (fun _ => ?_)
      clear hK K
      try simp only [zP, zQ, zS, zZ, zC]
      have kn := blk_new V3 122 zeroStr.toArray
      have hb5 := hB.size
      replace hB := hB.alloc hB.size (.cells zeroStr.toArray 122)
      generalize World.alloc V3 _ = V4 at kn hB ⊢
      generalize V3.heap.size = b5 at kn hb5 ⊢
      refine wpAnyH_ready (rs := [7]) (by kernel_rfl) (by simp) ?_
      refine AllReadyH.cons (o := ⟨none, .store 122 (.tmp 5) (.tmp 14), 0, "hash.go:124", #[⟨6, .data⟩, ⟨5, .data⟩, ⟨5, .chain⟩, ⟨0, .phase⟩, ⟨1, .phase⟩, ⟨2, .phase⟩, ⟨3, .phase⟩, ⟨4, .phase⟩, ⟨5, .phase⟩, ⟨6, .phase⟩], none⟩) rfl (fun K hK => ?_) AllReadyH.nil
      have kst := str_run (k := 1) kn hS2
      rw [if_pos (by rfl)]
      go_simp
      clear kst
      refine hK.out _ _ trivial (fun _ => ?_)
      clear hK K
      try simp only [zP, zQ, zS, zZ, zC]
      refine wpAnyH_done (by kernel_rfl) ?_ _
      have hcut := laid_str (k := 1) kn hS2 rfl hb5 (below_sets hb5 _ _ hB)
      generalize World.setCells _ _ _ _ = wy at hcut ⊢
      clear kn hB hS1 hS2 hb5 hln HA1 hcv hGr hG hr hr0 K0 KB
      go_wp2_with fail
      go_meet
      exact hcut
    rw [if_pos (by rfl)]
    go_simp
    refine hK.out _ _ trivial (fun _ => ?_)
    clear hK K
    try simp only [zP, zQ, zS, zZ, zC]
    have kn := blk_new V2 122 zeroStr.toArray
    have hb5 := hB.size
    replace hB := hB.alloc hB.size (.cells zeroStr.toArray 122)
    generalize World.alloc V2 _ = V3 at kn hB ⊢
    generalize V2.heap.size = b5 at kn hb5 ⊢
    rotate_left
    rw [if_pos (by rfl)]
    go_simp
    refine hK.out _ _ trivial (fun _ => ?_)
    clear hK K
    try simp only [zP, zQ, zS, zZ, zC]
    have kn := blk_new V2 122 zeroStr.toArray
    have hb5 := hB.size
    replace kb := kb.alloc (.cells zeroStr.toArray 122)
    replace hB := hB.alloc hB.size (.cells zeroStr.toArray 122)
    generalize World.alloc V2 _ = V3 at kn hB kb ⊢
    generalize V2.heap.size = b5 at kn hb5 ⊢
    refine wpAnyH_ready (rs := [4]) (by kernel_rfl) (by simp) ?_
    refine AllReadyH.cons (o := ⟨some 13, .convert 39 9 (.tmp 12), 9, "hash.go:124", #[⟨3, .data⟩], none⟩) rfl (fun K hK => ?_) AllReadyH.nil
    have kv := hcv _ _ (kc_of kb)
    rw [if_pos (by rfl)]
    go_simp
    clear kv kb
    refine hK.out _ _ trivial (fun _ => ?_)
    clear hK K
    try simp only [zP, zQ, zS, zZ, zC]
    rotate_left
    have kv := hcv _ _ (kc_of kb)
    rw [if_pos (by rfl)]
    go_simp
    clear kv kb
    refine hK.out _ _ trivial (fun _ => ?_)
    clear hK K
    try simp only [zP, zQ, zS, zZ, zC]
    refine wpAnyH_ready (rs := [0, 6]) (by kernel_rfl) (by simp) ?_
    refine AllReadyH.cons (o := ⟨some 9, .call { callee := .value (.func 71), args := #[], argTypes := #[] }, 122, "hash.go:124", #[], none⟩) rfl (fun K hK => ?_) (AllReadyH.cons (o := ⟨some 5, .alloc 122, 0, "hash.go:124", #[], none⟩) rfl (fun K hK => ?_) AllReadyH.nil)
    rw [if_pos (by rfl)]
    go_simp
    refine (begin_str _ (hGr.keep hB)).mono ?_
    rintro e V2 ⟨B1, hS1, rfl, hC⟩
    replace hB := link hB hC
    clear hC
    dsimp only
    refine hK.out _ _ trivial (fun _ => ?_)
    clear hK K
    try simp only [zP, zQ, zS, zZ, zC]
    refine wpAnyH_ready (rs := [5, 6]) (by kernel_rfl) (by simp) ?_
    refine AllReadyH.cons (o := ⟨some 14, .call { callee := .value (.func 72), args := #[.tmp 9, .tmp 13], argTypes := #[122, 9] }, 122, "hash.go:124", #[⟨0, .data⟩, ⟨4, .data⟩, ⟨0, .chain⟩], none⟩) rfl (fun K hK => ?_) (AllReadyH.cons (o := ⟨some 5, .alloc 122, 0, "hash.go:124", #[], none⟩) rfl (fun K hK => ?_) AllReadyH.nil)
    focus
      rw [if_pos (by rfl)]
      go_simp
      refine (HA1.out _ hS1 _ (hGr.keep hB)).mono ?_
      rintro e V3 ⟨B2, hS2, rfl, hC⟩
      replace hB := link hB hC
      clear hC
      have hln := strV_length (sth [T]) B2 1 hS2.1.1
      dsimp only
      refine hK.out _ _ trivial (fun _ => ?_)
      clear hK K
      try simp only [zP, zQ, zS, zZ, zC]
      refine wpAnyH_ready (rs := [6]) (by kernel_rfl) (by simp) ?_
      refine AllReadyH.cons (o := ⟨some 5, .alloc 122, 0, "hash.go:124", #[], none⟩) rfl (fun K hK => ?_) AllReadyH.nil
      rw [if_pos (by rfl)]
      go_simp
      refine hK.out _ _ trivial (fun _ => ?_)
      clear hK K
      try simp only [zP, zQ, zS, zZ, zC]
      have kn := blk_new V3 122 zeroStr.toArray
      have hb5 := hB.size
      replace hB := hB.alloc hB.size (.cells zeroStr.toArray 122)
      generalize World.alloc V3 _ = V4 at kn hB ⊢
      generalize V3.heap.size = b5 at kn hb5 ⊢
      refine wpAnyH_ready (rs := [7]) (by kernel_rfl) (by simp) ?_
      refine AllReadyH.cons (o := ⟨none, .store 122 (.tmp 5) (.tmp 14), 0, "hash.go:124", #[⟨6, .data⟩, ⟨5, .data⟩, ⟨5, .chain⟩, ⟨0, .phase⟩, ⟨1, .phase⟩, ⟨2, .phase⟩, ⟨3, .phase⟩, ⟨4, .phase⟩, ⟨5, .phase⟩, ⟨6, .phase⟩], none⟩) rfl (fun K hK => ?_) AllReadyH.nil
      have kst := str_run (k := 1) kn hS2
      rw [if_pos (by rfl)]
      go_simp
      clear kst
      refine hK.out _ _ trivial (fun _ => ?_)
      clear hK K
      try simp only [zP, zQ, zS, zZ, zC]
      refine wpAnyH_done (by kernel_rfl) ?_ _
      have hcut := laid_str (k := 1) kn hS2 rfl hb5 (below_sets hb5 _ _ hB)
      generalize World.setCells _ _ _ _ = wy at hcut ⊢
      clear kn hB hS1 hS2 hb5 hln HA1 hcv hGr hG hr hr0 K0 KB
      go_wp2_with fail
      go_meet
      exact hcut
    rw [if_pos (by rfl)]
    go_simp
    refine hK.out _ _ trivial (fun _ => ?_)
    clear hK K
    try simp only [zP, zQ, zS, zZ, zC]
    have kn := blk_new V2 122 zeroStr.toArray
    have hb5 := hB.size
    replace hB := hB.alloc hB.size (.cells zeroStr.toArray 122)
    generalize World.alloc V2 _ = V3 at kn hB ⊢
    generalize V2.heap.size = b5 at kn hb5 ⊢
    rotate_left
    rw [if_pos (by rfl)]
    go_simp
    refine hK.out _ _ trivial (fun _ => ?_)
    clear hK K
    try simp only [zP, zQ, zS, zZ, zC]
    have kn := blk_new V1 122 zeroStr.toArray
    have hb5 := hB.size
    replace hB := hB.alloc hB.size (.cells zeroStr.toArray 122)
    generalize World.alloc V1 _ = V2 at kn hB ⊢
    generalize V1.heap.size = b5 at kn hb5 ⊢
    refine wpAnyH_ready (rs := [0]) (by kernel_rfl) (by simp) ?_
    refine AllReadyH.cons (o := ⟨some 9, .call { callee := .value (.func 71), args := #[], argTypes := #[] }, 122, "hash.go:124", #[], none⟩) rfl (fun K hK => ?_) AllReadyH.nil
    rw [if_pos (by rfl)]
    go_simp
    refine (begin_str _ (hGr.keep hB)).mono ?_
    rintro e V3 ⟨B1, hS1, rfl, hC⟩
    replace kn := kn.keep hC
    replace hB := link hB hC
    clear hC
    dsimp only
    refine hK.out _ _ trivial (fun _ => ?_)
    clear hK K
    try simp only [zP, zQ, zS, zZ, zC]
    rotate_left
    rw [if_pos (by rfl)]
    go_simp
    refine hK.out _ _ trivial (fun _ => ?_)
    clear hK K
    try simp only [zP, zQ, zS, zZ, zC]
    have kn := blk_new V1 122 zeroStr.toArray
    have hb5 := hB.size
    replace kb := kb.alloc (.cells zeroStr.toArray 122)
    replace hB := hB.alloc hB.size (.cells zeroStr.toArray 122)
    generalize World.alloc V1 _ = V2 at kn hB kb ⊢
    generalize V1.heap.size = b5 at kn hb5 ⊢
    refine wpAnyH_ready (rs := [0, 4]) (by kernel_rfl) (by simp) ?_
    refine AllReadyH.cons (o := ⟨some 9, .call { callee := .value (.func 71), args := #[], argTypes := #[] }, 122, "hash.go:124", #[], none⟩) rfl (fun K hK => ?_) (AllReadyH.cons (o := ⟨some 13, .convert 39 9 (.tmp 12), 9, "hash.go:124", #[⟨3, .data⟩], none⟩) rfl (fun K hK => ?_) AllReadyH.nil)
    rw [if_pos (by rfl)]
    go_simp
    refine (begin_str _ (hGr.keep hB)).mono ?_
    rintro e V3 ⟨B1, hS1, rfl, hC⟩
    replace kb := kb.keep hC
    replace kn := kn.keep hC
    replace hB := link hB hC
    clear hC
    dsimp only
    refine hK.out _ _ trivial (fun _ => ?_)
    clear hK K
    try simp only [zP, zQ, zS, zZ, zC]
    refine wpAnyH_ready (rs := [4]) (by kernel_rfl) (by simp) ?_
    refine AllReadyH.cons (o := ⟨some 13, .convert 39 9 (.tmp 12), 9, "hash.go:124", #[⟨3, .data⟩], none⟩) rfl (fun K hK => ?_) AllReadyH.nil
    have kv := hcv _ _ (kc_of kb)
    rw [if_pos (by rfl)]
    go_simp
    clear kv kb
    refine hK.out _ _ trivial (fun _ => ?_)
    clear hK K
    try simp only [zP, zQ, zS, zZ, zC]
    rotate_left
    have kv := hcv _ _ (kc_of kb)
    rw [if_pos (by rfl)]
    go_simp
    clear kv kb
    refine hK.out _ _ trivial (fun _ => ?_)
    clear hK K
    try simp only [zP, zQ, zS, zZ, zC]
    refine wpAnyH_ready (rs := [0]) (by kernel_rfl) (by simp) ?_
    refine AllReadyH.cons (o := ⟨some 9, .call { callee := .value (.func 71), args := #[], argTypes := #[] }, 122, "hash.go:124", #[], none⟩) rfl (fun K hK => ?_) AllReadyH.nil
    rw [if_pos (by rfl)]
    go_simp
    refine (begin_str _ (hGr.keep hB)).mono ?_
    rintro e V3 ⟨B1, hS1, rfl, hC⟩
    replace kn := kn.keep hC
    replace hB := link hB hC
    clear hC
    dsimp only
    refine hK.out _ _ trivial (fun _ => ?_)
    clear hK K
    try simp only [zP, zQ, zS, zZ, zC]
    rotate_left
    rw [if_pos (by rfl)]
    go_simp
    refine hK.out _ _ trivial (fun _ => ?_)
    clear hK K
    try simp only [zP, zQ, zS, zZ, zC]
    have kn := blk_new V0 122 zeroStr.toArray
    have hb5 := hB.size
    replace hB := hB.alloc hB.size (.cells zeroStr.toArray 122)
    generalize World.alloc V0 _ = V1 at kn hB ⊢
    generalize V0.heap.size = b5 at kn hb5 ⊢
    refine wpAnyH_ready (rs := [0, 3]) (by kernel_rfl) (by simp) ?_
    refine AllReadyH.cons (o := ⟨some 9, .call { callee := .value (.func 71), args := #[], argTypes := #[] }, 122, "hash.go:124", #[], none⟩) rfl (fun K hK => ?_) (AllReadyH.cons (o := ⟨some 12, .buildSlice 39 1 #[(0, .tmp 11)], 39, "hash.go:124", #[⟨2, .data⟩], none⟩) rfl (fun K hK => ?_) AllReadyH.nil)
    rw [if_pos (by rfl)]
    go_simp
    refine (begin_str _ (hGr.keep hB)).mono ?_
    rintro e V2 ⟨B1, hS1, rfl, hC⟩
    replace kn := kn.keep hC
    replace hB := link hB hC
    clear hC
    dsimp only
    refine hK.out _ _ trivial (fun _ => ?_)
    clear hK K
    try simp only [zP, zQ, zS, zZ, zC]
    refine wpAnyH_ready (rs := [3]) (by kernel_rfl) (by simp) ?_
    refine AllReadyH.cons (o := ⟨some 12, .buildSlice 39 1 #[(0, .tmp 11)], 39, "hash.go:124", #[⟨2, .data⟩], none⟩) rfl (fun K hK => ?_) AllReadyH.nil
    rw [if_pos (by rfl)]
    go_simp
    refine hK.out _ _ trivial (fun _ => ?_)
    clear hK K
    try simp only [zP, zQ, zS, zZ, zC]
    have kb := blk_new V2 5 #[.int .u8 (T : Int)]
    replace kn := kn.alloc (.cells #[.int .u8 (T : Int)] 5)
    replace hB := hB.alloc hB.size (.cells #[.int .u8 (T : Int)] 5)
    generalize World.alloc V2 _ = V3 at kb hB kn ⊢
    refine wpAnyH_ready (rs := [4]) (by kernel_rfl) (by simp) ?_
    refine AllReadyH.cons (o := ⟨some 13, .convert 39 9 (.tmp 12), 9, "hash.go:124", #[⟨3, .data⟩], none⟩) rfl (fun K hK => ?_) AllReadyH.nil
    have kv := hcv _ _ (kc_of kb)
    rw [if_pos (by rfl)]
    go_simp
    clear kv kb
    refine hK.out _ _ trivial (fun _ => ?_)
    clear hK K
    try simp only [zP, zQ, zS, zZ, zC]
    rotate_left
    rw [if_pos (by rfl)]
    go_simp
    refine hK.out _ _ trivial (fun _ => ?_)
    clear hK K
    try simp only [zP, zQ, zS, zZ, zC]
    have kb := blk_new V1 5 #[.int .u8 (T : Int)]
    replace kn := kn.alloc (.cells #[.int .u8 (T : Int)] 5)
    replace hB := hB.alloc hB.size (.cells #[.int .u8 (T : Int)] 5)
    generalize World.alloc V1 _ = V2 at kb hB kn ⊢
    refine wpAnyH_ready (rs := [0, 4]) (by kernel_rfl) (by simp) ?_
    refine AllReadyH.cons (o := ⟨some 9, .call { callee := .value (.func 71), args := #[], argTypes := #[] }, 122, "hash.go:124", #[], none⟩) rfl (fun K hK => ?_) (AllReadyH.cons (o := ⟨some 13, .convert 39 9 (.tmp 12), 9, "hash.go:124", #[⟨3, .data⟩], none⟩) rfl (fun K hK => ?_) AllReadyH.nil)
    rw [if_pos (by rfl)]
    go_simp
    refine (begin_str _ (hGr.keep hB)).mono ?_
    rintro e V3 ⟨B1, hS1, rfl, hC⟩
    replace kb := kb.keep hC
    replace kn := kn.keep hC
    replace hB := link hB hC
    clear hC
    dsimp only
    refine hK.out _ _ trivial (fun _ => ?_)
    clear hK K
    try simp only [zP, zQ, zS, zZ, zC]
    refine wpAnyH_ready (rs := [4]) (by kernel_rfl) (by simp) ?_
    refine AllReadyH.cons (o := ⟨some 13, .convert 39 9 (.tmp 12), 9, "hash.go:124", #[⟨3, .data⟩], none⟩) rfl (fun K hK => ?_) AllReadyH.nil
    have kv := hcv _ _ (kc_of kb)
    rw [if_pos (by rfl)]
    go_simp
    clear kv kb
    refine hK.out _ _ trivial (fun _ => ?_)
    clear hK K
    try simp only [zP, zQ, zS, zZ, zC]
    rotate_left
    have kv := hcv _ _ (kc_of kb)
    rw [if_pos (by rfl)]
    go_simp
    clear kv kb
    refine hK.out _ _ trivial (fun _ => ?_)
    clear hK K
    try simp only [zP, zQ, zS, zZ, zC]
    refine wpAnyH_ready (rs := [0]) (by kernel_rfl) (by simp) ?_
    refine AllReadyH.cons (o := ⟨some 9, .call { callee := .value (.func 71), args := #[], argTypes := #[] }, 122, "hash.go:124", #[], none⟩) rfl (fun K hK => ?_) AllReadyH.nil
    rw [if_pos (by rfl)]
    go_simp
    refine (begin_str _ (hGr.keep hB)).mono ?_
    rintro e V3 ⟨B1, hS1, rfl, hC⟩
    replace kn := kn.keep hC
    replace hB := link hB hC
    clear hC
    dsimp only
    refine hK.out _ _ trivial (fun _ => ?_)
    clear hK K
    try simp only [zP, zQ, zS, zZ, zC]
    rotate_left
    all_goals
      refine wpAnyH_ready (rs := [5]) (by kernel_rfl) (by simp) ?_
      refine AllReadyH.cons (o := ⟨some 14, .call { callee := .value (.func 72), args := #[.tmp 9, .tmp 13], argTypes := #[122, 9] }, 122, "hash.go:124", #[⟨0, .data⟩, ⟨4, .data⟩, ⟨0, .chain⟩], none⟩) rfl (fun K hK => ?_) AllReadyH.nil
      rw [if_pos (by rfl)]
      go_simp
      refine (HA1.out _ hS1 _ (hGr.keep hB)).mono ?_
      rintro e V4 ⟨B2, hS2, rfl, hC⟩
      replace kn := kn.keep hC
      replace hB := link hB hC
      clear hC
      have hln := strV_length (sth [T]) B2 1 hS2.1.1
      dsimp only
      refine hK.out _ _ trivial (fun _ => ?_)
      clear hK K
      try simp only [zP, zQ, zS, zZ, zC]
      refine wpAnyH_ready (rs := [7]) (by kernel_rfl) (by simp) ?_
      refine AllReadyH.cons (o := ⟨none, .store 122 (.tmp 5) (.tmp 14), 0, "hash.go:124", #[⟨6, .data⟩, ⟨5, .data⟩, ⟨5, .chain⟩, ⟨0, .phase⟩, ⟨1, .phase⟩, ⟨2, .phase⟩, ⟨3, .phase⟩, ⟨4, .phase⟩, ⟨5, .phase⟩, ⟨6, .phase⟩], none⟩) rfl (fun K hK => ?_) AllReadyH.nil
      have kst := str_run (k := 1) kn hS2
      rw [if_pos (by rfl)]
      go_simp
      clear kst
      refine hK.out _ _ trivial (fun _ => ?_)
      clear hK K
      try simp only [zP, zQ, zS, zZ, zC]
      refine wpAnyH_done (by kernel_rfl) ?_ _
      have hcut := laid_str (k := 1) kn hS2 rfl hb5 (below_sets hb5 _ _ hB)
      generalize World.setCells _ _ _ _ = wy at hcut ⊢
      clear kn hB hS1 hS2 hb5 hln HA1 hcv hGr hG hr hr0 K0 KB
      go_wp2_with fail
      go_meet
      exact hcut
  case rest =>
    obtain ⟨b, B, rfl, hbw, hS, Kb, CB⟩ := hcut
    clear HA1 hcv
    go_wp2_with fail
    have hr1 := hr0.keep CB
    have hG1 := hGr.keep CB
    go_loopw [17] (fun i wx => ∃ k : Nat, k ≤ ps.length ∧ i = .int .i64 k ∧ OfRel W0 b (ofM T ps k) wx) (fun i _ => ps.length - (intOf i).toNat)
    case atStart => exact ⟨0, by omega, rfl, B, by rw [ofM_zero]; exact hS, by rw [ofM_zero]; exact Kb, CB⟩
    case round =>
      clear Kb CB hS
      obtain ⟨k, hk, rfl, B, hS, Kb, CB⟩ := hrel
      have hr2 := hr0.keep CB
      have hGx := hGr.keep CB
      have hB64 := hS.1.1
      by_cases hlt : k < ps.length
      · obtain ⟨ad, e, hbl, hcell⟩ := hr2 k (.string ps[k]) (by simp [strsV, List.getElem?_eq_getElem hlt])
        subst e
        have hx := ht ps[k] (List.getElem_mem hlt)
        have hps := ofM_step T ps k hlt
        have hml := ofM_len T ps ht k hk
        generalize ps[k] = x at hcell hx hps
        have hdl := encS_le x hx
        have hdb := encS_byte x hx
        have HBy := Lib.hid (fun w1 => bytes_any x (by omega) w1)
        generalize encS (sb x) = d at *
        generalize ofM T ps k = m at *
        have hMl : m.length + d.length ≤ 1152921504606846975 := by omega
        generalize hMe : ofM T ps (k + 1) = M at *
        have HME := Lib.hid hMe
        clear hMe
        have HA := Lib.hid (fun (B : List Nat) (hS : Stm m B) (w1 : World) (hG : Glob w1) => add_more hps hdb hMl B hS w1 hG)
        have hrg : ∀ w', Below wr.heap.size wr w' → w'.rangeAt b 0 (strV (sth m) B m.length) := fun w' h => rng_str (Kb.keep h)
        have hi73 := info_str (m := m) (k := m.length) hB64
        clear hps hml hMl
        go_upto_region 5 with (fail)
        have hst := fun (B2 : List Nat) (hS2 : Stm M B2) (w' : World) (h : Below wr.heap.size wr w') => str_store (m := M) (k := M.length) (Kb.keep h) (strV_length _ _ _ hB64) hS2.1.1
        have Hst := Lib.hid hst
        clear hst
        have hconv := Lib.hid (fun (g cap : Nat) (w1 w2 : World) (hO : Own w1 w2 (.slice (some ⟨g, 0, none⟩) d.length cap) d) (w' : World) (h : Below w2.heap.size w2 w') => conv_any (some ⟨g, 0, none⟩) d d.length cap w' rfl ((hO.has hdb).keep h))
        have hHeld : Below wr.heap.size wr wr.drew := below_drew (Below.refl _ _)
        refine wp_region_held_drew (S := fun _ => True) (by kernel_rfl) trivial (fun _ => ?_)
        refine wpAnyH_take (i := 1) (oi := ⟨some 22, .move (.tmp 7), 9, "hash.go:126", #[], none⟩) (v := .string x) rfl (by kernel_rfl) (by kernel_rfl) (by kernel_rfl) (fun _ _ _ h => h) (Or.inl ⟨by rfl, fun w' _ => by go_simp⟩) trivial ?_
        try simp only [zP, zQ, zS, zZ, zC]
        refine wpAnyH_ready (rs := [0, 2]) (by kernel_rfl) (by simp) ?_
        refine AllReadyH.cons (o := ⟨some 21, .load 122 (.tmp 5), 122, "hash.go:126", #[], none⟩) rfl (fun K hK => ?_) (AllReadyH.cons (o := ⟨some 23, .call { callee := .value (.func 73), args := #[.tmp 22], argTypes := #[9] }, 39, "hash.go:126", #[⟨1, .data⟩], none⟩) rfl (fun K hK => ?_) AllReadyH.nil)
        rw [if_pos (by rfl)]
        refine wp_load_mid _ _ rfl b 0 rfl _ _ (hrg _ (by assumption)) Tryd.underlying122 rfl hi73 ?_
        try simp only [zP, zQ, zS, zZ, zC]
        refine hK.out _ _ trivial (fun _ => ?_)
        clear hK K
        try simp only [zP, zQ, zS, zZ, zC]
        refine wpAnyH_ready (rs := [2]) (by kernel_rfl) (by simp) ?_
        refine AllReadyH.cons (o := ⟨some 23, .call { callee := .value (.func 73), args := #[.tmp 22], argTypes := #[9] }, 39, "hash.go:126", #[⟨1, .data⟩], none⟩) rfl (fun K hK => ?_) AllReadyH.nil
        go_simp
        refine (HBy.out _).mono ?_
        rintro e w1 ⟨g, cap, rfl, hO1⟩
        have hB1 := link hHeld hO1.below
        have hcv := hconv.out g cap _ _ hO1 _ (Below.refl _ _)
        go_wp2_with fail
        refine hK.out _ _ trivial (fun _ => ?_)
        clear hK K
        try simp only [zP, zQ, zS, zZ, zC]
        refine wpAnyH_ready (rs := [3]) (by kernel_rfl) (by simp) ?_
        refine AllReadyH.cons (o := ⟨some 24, .convert 39 9 (.tmp 23), 9, "hash.go:126", #[⟨2, .data⟩], none⟩) rfl (fun K hK => ?_) AllReadyH.nil
        go_simp
        refine hK.out _ _ trivial (fun _ => ?_)
        clear hK K
        try simp only [zP, zQ, zS, zZ, zC]
        rotate_left
        go_simp
        refine (HBy.out _).mono ?_
        rintro e w1 ⟨g, cap, rfl, hO1⟩
        have hB1 := link hHeld hO1.below
        have hcv := hconv.out g cap _ _ hO1 _ (Below.refl _ _)
        go_wp2_with fail
        refine hK.out _ _ trivial (fun _ => ?_)
        clear hK K
        try simp only [zP, zQ, zS, zZ, zC]
        refine wpAnyH_ready (rs := [0, 3]) (by kernel_rfl) (by simp) ?_
        refine AllReadyH.cons (o := ⟨some 21, .load 122 (.tmp 5), 122, "hash.go:126", #[], none⟩) rfl (fun K hK => ?_) (AllReadyH.cons (o := ⟨some 24, .convert 39 9 (.tmp 23), 9, "hash.go:126", #[⟨2, .data⟩], none⟩) rfl (fun K hK => ?_) AllReadyH.nil)
        rw [if_pos (by rfl)]
        refine wp_load_mid _ _ rfl b 0 rfl _ _ (hrg _ (by assumption)) Tryd.underlying122 rfl hi73 ?_
        try simp only [zP, zQ, zS, zZ, zC]
        refine hK.out _ _ trivial (fun _ => ?_)
        clear hK K
        try simp only [zP, zQ, zS, zZ, zC]
        refine wpAnyH_ready (rs := [3]) (by kernel_rfl) (by simp) ?_
        refine AllReadyH.cons (o := ⟨some 24, .convert 39 9 (.tmp 23), 9, "hash.go:126", #[⟨2, .data⟩], none⟩) rfl (fun K hK => ?_) AllReadyH.nil
        go_simp
        refine hK.out _ _ trivial (fun _ => ?_)
        clear hK K
        try simp only [zP, zQ, zS, zZ, zC]
        rotate_left
        go_simp
        refine hK.out _ _ trivial (fun _ => ?_)
        clear hK K
        try simp only [zP, zQ, zS, zZ, zC]
        refine wpAnyH_ready (rs := [0]) (by kernel_rfl) (by simp) ?_
        refine AllReadyH.cons (o := ⟨some 21, .load 122 (.tmp 5), 122, "hash.go:126", #[], none⟩) rfl (fun K hK => ?_) AllReadyH.nil
        rw [if_pos (by rfl)]
        refine wp_load_mid _ _ rfl b 0 rfl _ _ (hrg _ (by assumption)) Tryd.underlying122 rfl hi73 ?_
        try simp only [zP, zQ, zS, zZ, zC]
        refine hK.out _ _ trivial (fun _ => ?_)
        clear hK K
        try simp only [zP, zQ, zS, zZ, zC]
        all_goals
          refine wpAnyH_ready (rs := [4]) (by kernel_rfl) (by simp) ?_
          refine AllReadyH.cons (o := ⟨some 25, .call { callee := .value (.func 72), args := #[.tmp 21, .tmp 24], argTypes := #[122, 9] }, 122, "hash.go:126", #[⟨0, .data⟩, ⟨3, .data⟩, ⟨2, .chain⟩], none⟩) rfl (fun K hK => ?_) AllReadyH.nil
          go_simp
          refine (HA.out _ hS _ (hGx.keep hB1)).mono ?_
          rintro e w2 ⟨B2, hS2, rfl, hB2⟩
          have hB3 := link hB1 hB2
          have hSt := Hst.out B2 hS2 _ hB3
          have hst1 := hSt.1
          have hln := strV_length (sth M) B2 M.length hS2.1.1
          go_wp2_with fail
          refine hK.out _ _ trivial (fun _ => ?_)
          clear hK K
          try simp only [zP, zQ, zS, zZ, zC]
          refine wpAnyH_ready (rs := [5]) (by kernel_rfl) (by simp) ?_
          refine AllReadyH.cons (o := ⟨none, .store 122 (.tmp 5) (.tmp 25), 0, "hash.go:126", #[⟨4, .data⟩, ⟨4, .chain⟩, ⟨0, .phase⟩, ⟨1, .phase⟩, ⟨2, .phase⟩, ⟨3, .phase⟩, ⟨4, .phase⟩], none⟩) rfl (fun K hK => ?_) AllReadyH.nil
          go_simp
          refine hK.out _ _ trivial (fun _ => ?_)
          clear hK K
          try simp only [zP, zQ, zS, zZ, zC]
          refine wpAnyH_done (by kernel_rfl) ?_ _
          have hrel1 : OfRel W0 b M _ := ⟨B2, hS2, hSt.2, (only_sets b 0 w2 _).2.2 _ _ hbw (chain CB CB.size hB3)⟩
          generalize World.setCells _ _ _ _ = wy at hrel1 ⊢
          go_wp2
          go_roundw
          case rel => exact ⟨k + 1, by omega, by go_num, by rw [HME.out]; exact hrel1⟩
          case measure => simp [intOf]; omega
      · obtain rfl : ps.length = k := by omega
        rw [ofM_all] at hS Kb
        have hml := ofM_len T ps ht _ hk
        rw [ofM_all] at hml
        obtain ⟨m, hm⟩ : ∃ m, ofIn T (sbs ps) = m := ⟨_, rfl⟩
        rw [hm] at hS Kb hml
        have HMm := Lib.hid hm
        obtain ⟨D, hD⟩ : ∃ D, sha m = D := ⟨_, rfl⟩
        have HD := Lib.hid hD
        have hDl : D.length = 32 := by rw [← hD, sha_length]
        have HA := Lib.hid (fun (B : List Nat) (hS : Stm m B) (w1 : World) (hG : Glob w1) => sum_at hD B hS (by omega) w1 hG)
        have hrg : ∀ w', Below wr.heap.size wr w' → w'.rangeAt b 0 (strV (sth m) B m.length) := fun w' h => rng_str (Kb.keep h)
        have hi73 := info_str (m := m) (k := m.length) hB64
        clear hD hm
        have hln := strV_length (sth m) B m.length hB64
        have hDv : (bytesV D).length = 32 := by rw [bytesV_length]; exact hDl
        have hzv : (bytesV z32).toArray.toList.length = 32 := by rw [List.toList_toArray, bytesV_length]; rfl
        go_upto_region 8 with (first
          | (refine load_struct rfl 122 (.tmp 5) rfl Kb rfl Tryd.underlying122 (m := 73) (by kernel_rfl) hln ?_)
          | (go_at_call 74; refine (HA.out B hS _ hGx).mono ?_; rintro e w1 ⟨rfl, hB1⟩)
          | (refine store_blk rfl 114 (.tmp 8) (.tmp 28) rfl (blk_new w1 114 (bytesV z32).toArray) rfl rfl (m := 32) (by kernel_rfl) hDv hzv (bytesV_cells D) ?_; intro w8 K8 hO8))
        have L0 : Blk w1 w.heap.size 29 (bytesV z16) := (K0.keep CB).keep hB1
        have z1 := L0.lt
        have z2 : w.heap.size ≤ w1.heap.size := Nat.le_of_lt z1
        have L8 := hO8.2.1 w.heap.size _ _ (by omega) (L0.alloc (.cells (bytesV z32).toArray 114))
        have B1 := chain (chain KB KB.size CB) (Nat.le_trans KB.size CB.size) hB1
        have B8 := hO8.2.2 _ _ z2 (B1.alloc z2 (.cells (bytesV z32).toArray 114))
        clear hO8 B1 z1 z2 L0 hB1 CB KB K0 Kb hS hrg
        have hsl := slice_16
        have hap := array_16
        have hp16 : ((bytesV D).drop 0).take 16 = bytesV (D.take 16) := by simp [bytesV]
        have hl16 : (bytesV (D.take 16)).length = 16 := by rw [bytesV_length, List.length_take]; omega
        have hz16 : (bytesV z16).length = 16 := by rw [bytesV_length]; rfl
        go_wp2_with (first
          | (refine load_part rfl 29 (.tmp 30) rfl K8 rfl Tryd.underlying29 (m := 16) (by kernel_rfl) hp16 hl16 ?_)
          | (refine store_blk rfl 29 (.tmp 4) (.tmp 31) rfl L8 rfl rfl (m := 16) (by kernel_rfl) hl16 hz16 (bytesV_cells _) ?_; intro w9 K9 hO9))
        exact bodyPost_ret (v := .agg (bytesV (D.take 16)).toArray) (K9.result (p := 4) (ty := 29) rfl _ rfl Tryd.underlying29 (by rw [hl16]; kernel_rfl)) rfl ⟨by rw [HMm.out, HD.out], hO9.2.2 _ _ (Nat.le_refl _) B8⟩

end Go.Proofs.YtfhfmdnimebegaaDoor

/-
  passimlaw02.sanity returns true.
-/
namespace Go.Proofs.YtfhfmdnimebegaaDoor
open Go.RowKit
set_option linter.unusedVariables false
set_option linter.unusedSimpArgs false

theorem cell_bytes (d : List Nat) (h : ∀ y ∈ d, y < 256) : ((d.map UInt8.ofNat).map Extern.Stop.cell) = bytesV d := by
  rw [List.map_map]
  unfold bytesV
  apply List.map_congr_left
  intro y hy
  have := h y hy
  show Value.int .u8 ((UInt8.ofNat y).toNat : Int) = byteV y
  rw [show (UInt8.ofNat y).toNat = y from Nat.mod_eq_of_lt this]
  rfl
theorem ofNat_inj {x y : List Nat} (hx : ∀ d ∈ x, d < 256) (hy : ∀ d ∈ y, d < 256) (h : x.map UInt8.ofNat = y.map UInt8.ofNat) : x = y := by
  have e := congrArg (fun l => l.map (·.toNat)) h
  simp only [List.map_map] at e
  have k : ∀ l : List Nat, (∀ d ∈ l, d < 256) → l.map ((fun x : UInt8 => x.toNat) ∘ UInt8.ofNat) = l := by
    intro l hl
    conv => rhs; rw [← List.map_id l]
    apply List.map_congr_left
    intro d hd
    exact Nat.mod_eq_of_lt (hl d hd)
  rwa [k x hx, k y hy] at e
theorem equal_32 (w : World) (x y : List Nat) (hx : x.length = 32) (hy : y.length = 32) (hxb : ∀ d ∈ x, d < 256) (hyb : ∀ d ∈ y, d < 256) : (Op.equalIn 10000 114 (.agg (bytesV x).toArray) (.agg (bytesV y).toArray)).run Tryd.prog w = .ok (decide (x = y)) w := by
  have hsz : ∀ w, (sizeOf 5).run Tryd.prog w = .ok 1 w := fun w => by
    obtain ⟨i0, hi, hz0, hz1, hz2⟩ := info_parts u8info
    simp [sizeOf, typeInfo, hi, hz1]
  rw [← cell_bytes x hxb, ← cell_bytes y hyb]
  rw [run_equalIn_bytes w 9998 114 5 32 Tryd.underlying114 Tryd.underlying5 hsz _ _ (by simp [hx]) (by simp [hy])]
  congr 1
  rw [Bool.eq_iff_iff]
  simp only [beq_iff_eq, decide_eq_true_eq]
  exact ⟨fun h => ofNat_inj hxb hyb h, fun h => by rw [h]⟩
theorem conv_lit (w : World) (C : Array Value) (n c : Nat) : (convert 39 39 (.slice (some ⟨w.heap.size, 0, none⟩) n c)).run Tryd.prog (w.alloc (.cells C 5)) = .ok (.slice (some ⟨w.heap.size, 0, none⟩) n c) (w.alloc (.cells C 5 (C.size, C.size + 1))) :=
  Lib.run_convert_bytes_const w 39 5 C n c Tryd.underlying39 Tryd.underlying5
theorem has_lit (w : World) (l : List Nat) (f : Nat × Nat) (hl : ∀ y ∈ l, y < 256) : Has (w.alloc (.cells (bytesV l).toArray 5 f)) (some ⟨w.heap.size, 0, none⟩) l := by
  refine ⟨fun k u hk => ⟨_, rfl, by simp, ?_⟩, hl⟩
  rw [Addr.add_mid, Nat.zero_add, cell_of_row _ _ k _ 5 f (heap_alloc_last w _)]
  simpa using hk

theorem cells_lit (w : World) (xs : Array Value) (t : TypeId) : Cells (w.alloc (.cells xs t)) (some ⟨w.heap.size, 0, none⟩) xs.toList := by
  refine fun k u hk => ⟨_, rfl, by simp, ?_⟩
  rw [Addr.add_mid, Nat.zero_add, cell_of_row _ _ k _ t (0, 0) (heap_alloc_last w _)]
  simpa using hk
/-- A block is read, by an operation with a guard that says yes. -/
theorem load_wanted {w : World} {ops : Array Oper} {rest : List Oper} {o : Oper} {a : Act} {Q : Exit → Act → World → Prop} (hw : Region.wanted o (yielded ops a.tmps) = true) (ty : TypeId) (x : Operand) (ho : o.op = .load ty x)
    {b : Nat} {t : TypeId} {cs : List Value} (h : Blk w b t cs) (hx : a.eval x = .pointer (some ⟨b, 0, none⟩)) {n m : Nat} {e : TypeId} (hu : Tryd.prog.underlying ty = some (.array n e)) (hi : (Tryd.prog.info? ty).map (·.size) = some m) (hl : cs.length = m)
    (K : wpList Tryd.prog ops Q rest (a.put o.dst (.agg cs.toArray)) w) : wpList Tryd.prog ops Q (o :: rest) a w := by
  subst hl
  have hr := h.range 0 cs.length
  rw [List.drop_zero, List.take_length] at hr
  refine wpList_step fun K' hK => ?_
  rw [if_pos hw]
  exact wp_load_mid ty x ho b 0 hx cs (.array n e) hr hu rfl hi (hK _ _ K)
theorem below_alloc {w w' : World} {o : Obj} (h : Below (w.alloc o).heap.size (w.alloc o) w') : Below w.heap.size w w' := ((Below.refl _ _).alloc (Nat.le_refl _) o).trans (h.mono (by simp))

end Go.Proofs.YtfhfmdnimebegaaDoor

/-
  The tables of the package hash, as the rows list them.
-/
namespace Go.Proofs.YtfhfmdnimebegaaDoor
open Go.ChangeShapes Go.WideShapes Go.ChangeAt Go.RowKit
set_option linter.unusedVariables false
set_option linter.unusedSimpArgs false

theorem own : ownKnob Tryd.prog.godebug = none := by kernel_rfl
def startZ : List Int := [1779033703, 3144134277, 1013904242, 2773480762, 1359893119, 2600822924, 528734635, 1541459225]
def roundsZ : List Int := [1116352408, 1899447441, 3049323471, 3921009573, 961987163, 1508970993, 2453635748, 2870763221, 3624381080, 310598401, 607225278, 1426881987, 1925078388, 2162078206, 2614888103, 3248222580, 3835390401, 4022224774, 264347078, 604807628, 770255983, 1249150122, 1555081692, 1996064986, 2554220882, 2821834349, 2952996808, 3210313671, 3336571891, 3584528711, 113926993, 338241895, 666307205, 773529912, 1294757372, 1396182291, 1695183700, 1986661051, 2177026350, 2456956037, 2730485921, 2820302411, 3259730800, 3345764771, 3516065817, 3600352804, 4094571909, 275423344, 430227734, 506948616, 659060556, 883997877, 958139571, 1322822218, 1537002063, 1747873779, 1955562222, 2024104815, 2227730452, 2361852424, 2428436474, 2756734187, 3204031479, 3329325298]
theorem gStart : Tryd.prog.globalNamed "passim/hash.start" = some 1 := by kernel_rfl
theorem gRounds : Tryd.prog.globalNamed "passim/hash.rounds" = some 2 := by kernel_rfl
theorem gStartType : (Tryd.prog.globals[1]?).map (·.type) = some 119 := by kernel_rfl
theorem gRoundsType : (Tryd.prog.globals[2]?).map (·.type) = some 129 := by kernel_rfl
theorem cells8 : Tryd.prog.cellsOf 119 = 8 := by kernel_rfl
theorem cells64 : Tryd.prog.cellsOf 129 = 64 := by kernel_rfl
theorem cells1 : Tryd.prog.cellsOf 118 = 1 := by kernel_rfl
theorem start_words : wordsV (stL st0) = startZ.map fun z => Value.int .u32 z := by kernel_rfl
theorem rounds_words : wordsV kk = roundsZ.map fun z => Value.int .u32 z := by kernel_rfl
theorem range_tab {W : World} {name : String} {zs : List Int} {g : Nat} (h : Lib.TabIs Tryd.prog W name .u32 zs) (hg : Tryd.prog.globalNamed name = some g) : W.rangeAt g 0 (zs.map fun z => Value.int .u32 z) := by
  intro j v hj
  rw [List.getElem?_map] at hj
  obtain ⟨z, hz, rfl⟩ := Option.map_eq_some_iff.1 hj
  have hlt := (List.getElem?_eq_some_iff.1 hz).1
  have := h.cell hg j hlt
  rw [Nat.zero_add, this]
  simp [List.getD, hz]
theorem laid_tail {P : Program} {x : String × DataW Unit} {rest : List (String × DataW Unit)} {W : World} (h : laidMet P (x :: rest) W) : laidMet P rest W := by
  obtain ⟨ps, ⟨g', t', cs, fuel, p, q, hg', ht', hvar, hd, hq, e⟩, hnd, hr⟩ := h
  subst e
  exact ⟨q, hq, (List.nodup_append.1 hnd).2.1, fun b off hm => hr b off (List.mem_append_right _ hm)⟩
theorem lt_of_cell {W : World} {b : Nat} {v : Value} (h : W.cell? ⟨b, 0, none⟩ = some v) : b < W.heap.size := by
  rcases Nat.lt_or_ge b W.heap.size with h' | h'
  · exact h'
  · simp [World.cell?, Array.getElem?_eq_none h'] at h
/-- The two tables of the package hash, in the rows' order. -/
theorem glob_of {W : World} {rest : List (String × DataW Unit)} (h : laidMet Tryd.prog (("passim/hash.start", Lib.tabData .u32 startZ) :: ("passim/hash.rounds", Lib.tabData .u32 roundsZ) :: rest) W) : Glob W := by
  have h1 := Lib.tabIs_of_head gStart gStartType Tryd.underlying119 Tryd.underlying118 cells1 cells8 h
  have h2 := Lib.tabIs_of_head gRounds gRoundsType Tryd.underlying129 Tryd.underlying118 cells1 cells64 (laid_tail h)
  refine ⟨?_, ?_, lt_of_cell (h2.cell gRounds 0 (by decide)), lt_of_cell (h1.cell gStart 0 (by decide))⟩
  · rw [rounds_words]
    exact range_tab h2 gRounds
  · rw [start_words]
    exact range_tab h1 gStart

/-- A world in which the two tables are laid. -/
noncomputable def laidWorld (os : Os) : World :=
  { World.holding Tryd.prog os ⟨#[], #[], []⟩ with heap := (((World.holding Tryd.prog os ⟨#[], #[], []⟩).heap.modify 1 (fun
      | .cells _ t frozen => .cells (startZ.map fun z => Value.int .u32 z).toArray t frozen
      | o => o)).modify 2 (fun
      | .cells _ t frozen => .cells (roundsZ.map fun z => Value.int .u32 z).toArray t frozen
      | o => o)) }

end Go.Proofs.YtfhfmdnimebegaaDoor
