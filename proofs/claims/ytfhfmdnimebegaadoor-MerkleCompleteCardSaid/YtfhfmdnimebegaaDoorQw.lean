/-
  passimref02.words returns the words of all rounds.
-/
import Derived.Test.YtfhfmdnimebegaaDoorQr
namespace Go.Proofs.YtfhfmdnimebegaaDoor
set_option linter.unusedVariables false
set_option linter.unusedSimpArgs false
open Go.RowKit

/-- What holds at each round's head of both loops. -/
def WrdRel (w : World) (A : Addr) (b : List Nat) (t : Nat) (wr : World) : Prop :=
  Has wr (some A) b ∧ Blk wr w.heap.size 129 (List.replicate 64 (wordV 0)) ∧ Blk wr (w.heap.size + 1) 129 (arrW b t) ∧ Below w.heap.size w wr

theorem Has.cell {w : World} {ad : Addr} {l : List Nat} (h : Has w (some ad) l) (k : Nat) (hk : k < l.length) : ∃ y : Nat, y < 256 ∧ l.getD k 0 = y ∧ w.cell? (ad.add k) = some (.int .u8 (y : Int)) := by
  have h1 := h.at k l[k] (List.getElem?_eq_getElem hk)
  obtain ⟨ad', e, _, hc⟩ := h1.2
  obtain rfl : ad = ad' := by simpa using e
  exact ⟨l[k], h1.1, by simp [hk], hc⟩
theorem add_pos (ad : Addr) (k : Nat) : ad.add (k + 1) = ⟨ad.block, ad.off + (k + 1), none⟩ := by simp [Addr.add]
theorem Has.drewN {w : World} {A : Option Addr} {l : List Nat} (h : Has w A l) (q : Nat) : Has (w.drewN q) A l := h
theorem Has.drew {w : World} {A : Option Addr} {l : List Nat} (h : Has w A l) : Has w.drew A l := h

set_option maxHeartbeats 2000000 in
set_option maxRecDepth 100000 in
theorem words_any (ad : Addr) (b : List Nat) (hb : Byts b) (c : Nat) (w : World) (hr : Has w (some ad) b) :
    Calls Tryd.prog 78 #[.slice (some ad) 64 c] w fun e w' => e = .returned (.agg (wordsV (sched b 64)).toArray) ∧ Below w.heap.size w w' := by
  go_enter Tryd.func78, Tryd.ntmps78
  go_wp2
  generalize hw0 : World.alloc _ _ = W0
  have K1 : Blk W0 w.heap.size 129 (List.replicate 64 (wordV 0)) := hw0 ▸ ((blk_new w 129 (List.replicate 64 (wordV 0)).toArray).alloc _)
  have K2 : Blk W0 (w.heap.size + 1) 129 (arrW b 0) := hw0 ▸ (blk_new1 w _ 129 (List.replicate 64 (wordV 0)).toArray)
  have KB : Below w.heap.size w W0 := hw0 ▸ (((Below.refl _ _).alloc (Nat.le_refl _) _).alloc (by simp) _)
  have hr0 := hr.keep KB
  clear hw0
  go_loopw [4] (fun i wr => ∃ t : Nat, t ≤ 16 ∧ i = .int .i64 t ∧ Hid (WrdRel w ad b t wr)) (fun i _ => 16 - (intOf i).toNat)
  case atStart => exact ⟨0, by omega, rfl, Lib.hid ⟨hr0, K1, K2, KB⟩⟩
  case round =>
    clear K1 K2 KB hr0
    obtain ⟨t, ht, rfl, hR⟩ := hrel
    obtain ⟨HR, H1, H2, hB⟩ := hR.out
    clear hR
    by_cases h16 : t < 16
    · have hg : ∀ j, j < 64 → ∃ y : Nat, y < 256 ∧ b.getD j 0 = y ∧ wr.cell? (ad.add j) = some (.int .u8 (y : Int)) := fun j hj => HR.cell j (by rw [hb.1]; exact hj)
      obtain ⟨p, hp⟩ : ∃ p, p = 4 * t := ⟨_, rfl⟩
      obtain ⟨y0, z0, e0, c0⟩ := hg p (by omega)
      obtain ⟨y1, z1, e1, c1⟩ := hg (p + 1) (by omega)
      obtain ⟨y2, z2, e2, c2⟩ := hg (p + 2) (by omega)
      obtain ⟨y3, z3, e3, c3⟩ := hg (p + 3) (by omega)
      rw [hp] at e0 e1 e2 e3
      rw [add_pos] at c1 c2 c3
      have HE : Hid (b.getD (4 * t) 0 = y0 ∧ b.getD (4 * t + 1) 0 = y1 ∧ b.getD (4 * t + 2) 0 = y2 ∧ b.getD (4 * t + 3) 0 = y3) := Lib.hid ⟨e0, e1, e2, e3⟩
      have cs : wr.cell? ⟨w.heap.size + 1, t, none⟩ = some ((arrW b t)[t]'(by rw [arrW_length b t (by omega)]; omega)) := H2.cell (List.getElem?_eq_getElem _)
      have fs := H2.free t
      have s0 : IntKind.i64.wrap (4 * (t : Int)) = (p : Int) := by rw [IntWalk.i64_in _ (by omega)]; omega
      have s1 : IntKind.i64.wrap ((p : Int) + 1) = (p : Int) + 1 := IntWalk.i64_in _ (by omega)
      have s2 : IntKind.i64.wrap ((p : Int) + 2) = (p : Int) + 2 := IntWalk.i64_in _ (by omega)
      have s3 : IntKind.i64.wrap ((p : Int) + 3) = (p : Int) + 3 := IntWalk.i64_in _ (by omega)
      have n1 : ((p : Int) + 1).toNat = p + 1 := by omega
      have n2 : ((p : Int) + 2).toNat = p + 2 := by omega
      have n3 : ((p : Int) + 3).toNat = p + 3 := by omega
      have g0 : (p : Int) < 64 := by omega
      have g1 : (p : Int) + 1 < 64 := by omega
      have g2 : (p : Int) + 2 < 64 := by omega
      have g3 : (p : Int) + 3 < 64 := by omega
      have i0 : 0 ≤ (p : Int) := by omega
      have i1 : 0 ≤ (p : Int) + 1 := by omega
      have i2 : 0 ≤ (p : Int) + 2 := by omega
      have i3 : 0 ≤ (p : Int) + 3 := by omega
      have HV := Lib.hid (word_raw2 y0 y1 y2 y3 z0 z1 z2 z3)
      have HH := Lib.hid HR
      clear hg e0 e1 e2 e3 hp HR
      go_wp2
      go_still_tail 34, (by kernel_rfl)
      change wpList _ _ _ _ _ wr.drew
      have H1' := H1.drew
      have H2' := H2.drew
      have hB' := below_drew hB
      have HH' : Hid (Has wr.drew (some ad) b) := HH
      have cs' : wr.drew.cell? ⟨w.heap.size + 1, t, none⟩ = some ((arrW b t)[t]'(by rw [arrW_length b t (by omega)]; omega)) := cs
      have fs' : wr.drew.frozen? ⟨w.heap.size + 1, t, none⟩ = false := fs
      clear H1 H2 hB cs fs c0 c1 c2 c3 s0 s1 s2 s3 n1 n2 n3 HH
      generalize wr.drew = wd at *
      go_wp2
      go_roundw
      case rel =>
        have hB2 : Below w.heap.size w (wd.setCell ⟨w.heap.size + 1, t, none⟩ (.int .u32 (bits BinOp.or IntKind.u32 (bits BinOp.or IntKind.u32 (bits BinOp.or IntKind.u32 ((y0 : Int) * 16777216) ((y1 : Int) * 65536)) ((y2 : Int) * 256)) (y3 : Int)))) := hB'.setCell (by simp) _
        refine ⟨t + 1, by omega, by go_num, Lib.hid ⟨hr.keep hB2, H1'.other (by simp) _, ?_, hB2⟩⟩
        have := H2'.set t (wordV (nextW b (sched b t)))
        rw [arrW_set b t (by omega)] at this
        have e : nextW b (sched b t) = BitVec.ofNat 32 y0 <<< 24 ||| BitVec.ofNat 32 y1 <<< 16 ||| BitVec.ofNat 32 y2 <<< 8 ||| BitVec.ofNat 32 y3 := by
          unfold nextW
          rw [sched_length, if_pos h16]
          unfold word
          rw [HE.out.1, HE.out.2.1, HE.out.2.2.1, HE.out.2.2.2]
        rw [e] at this
        unfold wordV at this
        rw [← HV.out] at this
        exact this
      case measure => simp [intOf]; omega
    · have d16 : decide ((t : Int) < 16) = false := by simp only [decide_eq_false_iff_not]; omega
      have et : t = 16 := by omega
      have ET := Lib.hid et
      clear h16 et
      have HH := Lib.hid HR
      clear HR
      go_wp2
      go_loopw [5] (fun i wr => ∃ t : Nat, 16 ≤ t ∧ t ≤ 64 ∧ i = .int .i64 t ∧ Hid (WrdRel w ad b t wr)) (fun i _ => 64 - (intOf i).toNat)
      case atStart => exact ⟨16, by omega, by omega, rfl, Lib.hid (ET.out ▸ ⟨HH.out, H1, H2, hB⟩)⟩
      case round =>
        clear H1 H2 hB HH d16 ET ht
        obtain ⟨t, h16, ht2, rfl, hR⟩ := hrel
        obtain ⟨HR, H1, H2, hB⟩ := hR.out
        clear hR HR
        by_cases h64 : t < 64
        · have hg : ∀ j, j < t → wr.cell? ⟨w.heap.size + 1, j, none⟩ = some (.int .u32 (u ((sched b t).getD j 0))) := fun j hj => H2.cell (arrW_get b t j hj)
          obtain ⟨x16, e16⟩ : ∃ x, (sched b t).getD (t - 16) 0 = x := ⟨_, rfl⟩
          obtain ⟨x15, e15⟩ : ∃ x, (sched b t).getD (t - 15) 0 = x := ⟨_, rfl⟩
          obtain ⟨x7, e7⟩ : ∃ x, (sched b t).getD (t - 7) 0 = x := ⟨_, rfl⟩
          obtain ⟨x2, e2⟩ : ∃ x, (sched b t).getD (t - 2) 0 = x := ⟨_, rfl⟩
          have c16 := hg (t - 16) (by omega)
          have c15 := hg (t - 15) (by omega)
          have c7 := hg (t - 7) (by omega)
          have c2 := hg (t - 2) (by omega)
          rw [e16] at c16
          rw [e15] at c15
          rw [e7] at c7
          rw [e2] at c2
          have HX : Hid (nextW b (sched b t) = x16 + sig0 x15 + x7 + sig1 x2) := by
            have e : nextW b (sched b t) = x16 + sig0 x15 + x7 + sig1 x2 := by
              unfold nextW
              rw [sched_length, if_neg (by omega), e16, e15, e7, e2]
            exact Lib.hid e
          obtain ⟨q16, k16⟩ : ∃ q, q + 16 = t := ⟨t - 16, by omega⟩
          obtain ⟨q15, k15⟩ : ∃ q, q + 15 = t := ⟨t - 15, by omega⟩
          obtain ⟨q7, k7⟩ : ∃ q, q + 7 = t := ⟨t - 7, by omega⟩
          obtain ⟨q2, k2⟩ : ∃ q, q + 2 = t := ⟨t - 2, by omega⟩
          rw [show t - 16 = q16 by omega] at c16
          rw [show t - 15 = q15 by omega] at c15
          rw [show t - 7 = q7 by omega] at c7
          rw [show t - 2 = q2 by omega] at c2
          have s16 : IntKind.i64.wrap ((t : Int) - 16) = (q16 : Int) := by rw [IntWalk.i64_in _ (by omega)]; omega
          have s15 : IntKind.i64.wrap ((t : Int) - 15) = (q15 : Int) := by rw [IntWalk.i64_in _ (by omega)]; omega
          have s7 : IntKind.i64.wrap ((t : Int) - 7) = (q7 : Int) := by rw [IntWalk.i64_in _ (by omega)]; omega
          have s2 : IntKind.i64.wrap ((t : Int) - 2) = (q2 : Int) := by rw [IntWalk.i64_in _ (by omega)]; omega
          have l16 : (q16 : Int) < 64 := by omega
          have l15 : (q15 : Int) < 64 := by omega
          have l7 : (q7 : Int) < 64 := by omega
          have l2 : (q2 : Int) < 64 := by omega
          have l64 : (t : Int) < 64 := by omega
          have cs : wr.cell? ⟨w.heap.size + 1, t, none⟩ = some ((arrW b t)[t]'(by rw [arrW_length b t ht2]; omega)) := H2.cell (List.getElem?_eq_getElem _)
          have fs := H2.free t
          clear hg e16 e15 e7 e2 k16 k15 k7 k2
          go_wp2
          go_quiet ((first | (go_at_call 79; with_reducible exact Calls.quiet_of (rotr7 x15 _)) | (go_at_call 79; with_reducible exact Calls.quiet_of (rotr18 x15 _))))
          generalize hwq : wr.drewN nq = wq
          replace H1 : Blk wq _ _ _ := hwq ▸ H1.drewN nq
          replace H2 : Blk wq _ _ _ := hwq ▸ H2.drewN nq
          replace hB : Below w.heap.size w wq := hwq ▸ below_drewN hB nq
          replace c16 : wq.cell? ⟨w.heap.size + 1, q16, none⟩ = some (.int .u32 (u x16)) := hwq ▸ c16
          replace c7 : wq.cell? ⟨w.heap.size + 1, q7, none⟩ = some (.int .u32 (u x7)) := hwq ▸ c7
          replace c2 : wq.cell? ⟨w.heap.size + 1, q2, none⟩ = some (.int .u32 (u x2)) := hwq ▸ c2
          replace cs : wq.cell? ⟨w.heap.size + 1, t, none⟩ = some ((arrW b t)[t]'(by rw [arrW_length b t ht2]; omega)) := hwq ▸ cs
          replace fs : wq.frozen? ⟨w.heap.size + 1, t, none⟩ = false := hwq ▸ fs
          clear c15 s15 hwq nq
          rw [sig0_raw]
          generalize hS0 : sig0 x15 = S0 at HX ⊢
          clear hS0
          go_wp2
          go_quiet ((first | (go_at_call 79; with_reducible exact Calls.quiet_of (rotr17 x2 _)) | (go_at_call 79; with_reducible exact Calls.quiet_of (rotr19 x2 _))))
          generalize hwq2 : wq.drewN nq = wp
          replace H1 : Blk wp _ _ _ := hwq2 ▸ H1.drewN nq
          replace H2 : Blk wp _ _ _ := hwq2 ▸ H2.drewN nq
          replace hB : Below w.heap.size w wp := hwq2 ▸ below_drewN hB nq
          replace c16 : wp.cell? ⟨w.heap.size + 1, q16, none⟩ = some (.int .u32 (u x16)) := hwq2 ▸ c16
          replace c7 : wp.cell? ⟨w.heap.size + 1, q7, none⟩ = some (.int .u32 (u x7)) := hwq2 ▸ c7
          replace cs : wp.cell? ⟨w.heap.size + 1, t, none⟩ = some ((arrW b t)[t]'(by rw [arrW_length b t ht2]; omega)) := hwq2 ▸ cs
          replace fs : wp.frozen? ⟨w.heap.size + 1, t, none⟩ = false := hwq2 ▸ fs
          clear c2 s2 hwq2 nq
          rw [sig1_raw]
          generalize hS1 : sig1 x2 = S1 at HX ⊢
          clear hS1
          go_wp2
          go_still_tail 15, (by kernel_rfl)
          change wpList _ _ _ _ _ wp.drew
          have H1' := H1.drew
          have H2' := H2.drew
          have hB' := below_drew hB
          have cs' : wp.drew.cell? ⟨w.heap.size + 1, t, none⟩ = some ((arrW b t)[t]'(by rw [arrW_length b t ht2]; omega)) := cs
          have fs' : wp.drew.frozen? ⟨w.heap.size + 1, t, none⟩ = false := fs
          clear H1 H2 hB cs fs c16 c7 s16 s7
          generalize wp.drew = wd at *
          go_wp2
          go_roundw
          case rel =>
            have hB2 : Below w.heap.size w (wd.setCell ⟨w.heap.size + 1, t, none⟩ (.int .u32 ((u x16 + u S0 + u x7 + u S1) % 4294967296))) := hB'.setCell (by simp) _
            refine ⟨t + 1, by omega, by omega, by go_num, Lib.hid ⟨hr.keep hB2, H1'.other (by simp) _, ?_, hB2⟩⟩
            have := H2'.set t (wordV (nextW b (sched b t)))
            rw [arrW_set b t h64, HX.out] at this
            unfold wordV at this
            rw [← add4] at this
            exact this
          case measure => simp [intOf]; omega
        · obtain rfl : t = 64 := by omega
          rw [arrW_all] at H2
          have hl : (wordsV (sched b 64)).length = 64 := by rw [wordsV_length, sched_length]
          have h1 : ∀ v ∈ wordsV (sched b 64), v.oneCell' = true := fun v hv => by obtain ⟨y, _, rfl⟩ := List.mem_map.1 hv; rfl
          go_wp2_with (first | (refine load_blk rfl 129 (.tmp 3) rfl H2 rfl Tryd.underlying129 (m := 64) (by kernel_rfl) hl ?_) | (refine store_blk rfl 129 (.tmp 2) (.tmp 100) rfl H1 rfl rfl (m := 64) (by kernel_rfl) hl (by simp) h1 ?_))
          intro w' hb' ho'
          go_wp2
          exact bodyPost_ret (v := .agg (wordsV (sched b 64)).toArray) (hb'.result (p := 2) (ty := 129) rfl _ rfl Tryd.underlying129 (by rw [hl]; kernel_rfl)) rfl ⟨rfl, ho'.2.2 _ _ (by omega) hB⟩

end Go.Proofs.YtfhfmdnimebegaaDoor
