/-
  hash.Begin and Add: streams whose message is empty, or longer.
-/
import Derived.Test.YtfhfmdnimebegaaDoorHn
import Derived.Deep.CutBlock
namespace Go.Proofs.YtfhfmdnimebegaaDoor
open Go.RowKit
set_option linter.unusedVariables false
set_option linter.unusedSimpArgs false

def stZ : St := ⟨0, 0, 0, 0, 0, 0, 0, 0⟩
def zeroStr : List Value := strV stZ (List.replicate 64 0) 0
theorem zero_stream (w : World) : (zeroValue 122).run Tryd.prog w = .ok (.agg zeroStr.toArray) w := by kernel_rfl
theorem glob_start (w w' : World) (h : Glob w) (hb : Below w.heap.size w w') : w'.rangeAt 1 0 (wordsV (stL st0)) := (h.keep hb).2.1

set_option maxHeartbeats 1000000 in
set_option maxRecDepth 100000 in
theorem begin_any (w : World) (hG : Glob w) :
    Calls Tryd.prog 71 #[] w fun e w' => e = .returned (.agg (strV st0 (List.replicate 64 0) 0).toArray) ∧ Below w.heap.size w w' := by
  go_enter Tryd.func71, Tryd.ntmps71
  have hz := zero_stream
  go_upto_region 1 with (fail)
  generalize hw0 : World.alloc _ _ = W0
  have hB0 : Below w.heap.size w W0 := hw0 ▸ ((Below.refl _ _).alloc (Nat.le_refl _) _)
  have hR := glob_start w W0 hG hB0
  have HZ : Blk W0 w.heap.size 122 zeroStr := hw0 ▸ blk_new w _ _
  have hf : List.foldl (fun (cs : Array Value) (x : Value × Nat) => cs.setIfInBounds x.snd x.fst) zeroStr.toArray (wordsV (stL st0)).zipIdx = (strV st0 (List.replicate 64 0) 0).toArray := by kernel_rfl
  clear hw0 hG
  go_wp2_with (first | (refine wpList_load_mid rfl 119 (.global 1) rfl 1 0 rfl (wordsV (stL st0)) _ hR Tryd.underlying119 rfl (by kernel_rfl) ?_) | (refine store_blk rfl 122 (.tmp 0) (.tmp 2) rfl HZ rfl rfl (m := 73) (by kernel_rfl) (strV_length _ _ _ (by simp)) (strV_length _ _ _ (by simp)) (strV_cells _ _ _) ?_))
  intro w2 hb2 ho2
  go_wp2
  exact bodyPost_ret (v := .agg (strV st0 (List.replicate 64 0) 0).toArray) (hb2.resultS (p := 0) (ty := 122) rfl _ rfl Tryd.underlying122 (by rw [strV_length _ _ _ (by simp)]; kernel_rfl)) rfl ⟨rfl, ho2.2.2 _ _ (by omega) hB0⟩

/-- The call returned a stream with the message m. -/
def AddTo (w : World) (m : List Nat) (e : Ending) (w' : World) : Prop := ∃ B, Stm m B ∧ e = .returned (.agg (strV (sth m) B m.length).toArray) ∧ Below w.heap.size w w'
/-- What holds at each round's head: m' has been taken in, t' is still to come. -/
def AddRel (w : World) (M : List Nat) (v : Value) (wr : World) : Prop :=
  ∃ (m' B' : List Nat) (t' : ByteArray), v = .string t' ∧ Hid (m' ++ sb t' = M) ∧ m'.length + t'.size ≤ 1152921504606846975 ∧ Stm m' B' ∧ Blk wr w.heap.size 122 (strV (sth m') B' m'.length) ∧ Blk wr (w.heap.size + 1) 122 zeroStr ∧ Below w.heap.size w wr
def strSize : Value → Nat
  | .string s => s.size
  | _ => 0

set_option maxHeartbeats 2000000 in
set_option maxRecDepth 100000 in
theorem add_any (m B : List Nat) (hS : Stm m B) (t : ByteArray) (hl : m.length + t.size ≤ 1152921504606846975) (w : World) (hG : Glob w) :
    Calls Tryd.prog 72 #[.agg (strV (sth m) B m.length).toArray, .string t] w (AddTo w (m ++ sb t)) := by
  have hz := zero_stream
  go_enter Tryd.func72, Tryd.ntmps72
  go_wp2_with fail
  generalize hw0 : World.alloc _ _ = W0
  have K0 : Blk W0 w.heap.size 122 (strV (sth m) B m.length) := hw0 ▸ (blk_new w _ _).alloc _
  have K1 : Blk W0 (w.heap.size + 1) 122 zeroStr := hw0 ▸ blk_new1 w _ _ _
  have KB : Below w.heap.size w W0 := hw0 ▸ (((Below.refl _ _).alloc (Nat.le_refl _) _).alloc (by simp) _)
  clear hw0 hz
  go_loopw [1] (fun v wr => AddRel w (m ++ sb t) v wr) (fun v _ => strSize v)
  case atStart => exact ⟨m, B, t, rfl, Lib.hid rfl, hl, hS, K0, K1, KB⟩
  case round =>
    clear K0 K1 KB hS hl
    obtain ⟨m', B', t', rfl, HM, hl, hS, K0, K1, KB⟩ := hrel
    have hB64 := hS.1.1
    by_cases h0 : 0 < t'.size
    · obtain ⟨a, ha⟩ : ∃ a, m'.length % 64 = a := ⟨_, rfl⟩
      obtain ⟨k, hk⟩ : ∃ k, Nat.min t'.size (64 - a) = k := ⟨_, rfl⟩
      have hk1 : k ≤ t'.size := by rw [← hk]; exact Nat.min_le_left _ _
      have hk2 : k ≤ 64 - a := by rw [← hk]; exact Nat.min_le_right _ _
      have hk3 : 0 < k := by rw [← hk]; exact Nat.lt_min.2 ⟨h0, by omega⟩
      have ha2 : a < 64 := by omega
      have hai : ((m'.length : Int) % 64) = (a : Int) := by omega
      have c72 : wr.cell? ⟨w.heap.size, 72, none⟩ = some (.int .u64 (m'.length : Int)) := K0.cell (strV_count _ _ _ hB64)
      have HA := Lib.hid ha
      have HK := Lib.hid hk
      clear ha hk
      go_upto_region 3 with (fail)
      clear c72 hai
      have hsl := slice_from
      have hle : 8 + a + k ≤ (strV (sth m') B' m'.length).length := by rw [strV_length _ _ _ hB64]; omega
      go_upto_region 4 with (refine copy_str rfl (.tmp 16) (.tmp 17) rfl K0 rfl rfl HK.out hle ?_; intro w1 H1 hO1)
      have hxl : ((sb t').take k).length = k := by rw [List.length_take, sb_length]; omega
      have hxb : ∀ y ∈ (sb t').take k, y < 256 := fun y hy => sb_lt t' y (List.mem_of_mem_take hy)
      rw [strV_put _ _ _ _ _ hB64 (by omega)] at H1
      have L1 := hO1.2.1 _ _ _ (by omega) K1
      have LB := hO1.2.2 _ _ (Nat.le_refl _) KB
      have hbB : Byts (put B' a ((sb t').take k)) := put_byts hS.1 hxb (by omega)
      clear K0 K1 KB hO1 hsl hle
      have hB64' := hbB.1
      have c72 : w1.cell? ⟨w.heap.size, 72, none⟩ = some (.int .u64 (m'.length : Int)) := H1.cell (strV_count _ _ _ hB64')
      have f72 := H1.free 72
      have HL : Hid ((m' ++ (sb t').take k).length = m'.length + k) := by
        have e : (m' ++ (sb t').take k).length = m'.length + k := by rw [List.length_append, hxl]
        exact Lib.hid e
      have HT : Hid (m' ++ (sb t').take k ++ sb (t'.extract k t'.size) = m ++ sb t) := by
        have e : m' ++ (sb t').take k ++ sb (t'.extract k t'.size) = m ++ sb t := by
          rw [sb_tail t' k hk1, List.append_assoc, List.take_append_drop]
          exact HM.out
        exact Lib.hid e
      by_cases hfull : a + k = 64
      · have HF : Hid (Stm (m' ++ (sb t').take k) (put B' a ((sb t').take k)) ∧ sth (m' ++ (sb t').take k) = comp (sth m') (put B' a ((sb t').take k))) := by
          have := stm_full hS hxb (by rw [hxl, HA.out]; exact hfull)
          rw [HA.out] at this
          exact Lib.hid this
        have ht : decide ((a : Int) + (k : Int) = 64) = true := by simp; omega
        go_upto_region 7 with (fail)
        generalize hw2 : w1.setCell _ _ = w2
        have M0 : Blk w2 w.heap.size 122 (strV (sth m') (put B' a ((sb t').take k)) (m'.length + k)) := by
          have := H1.set 72 (.int .u64 ((m'.length + k : Nat) : Int))
          rw [strV_setCount _ _ _ _ hB64', Int.natCast_add, hw2] at this
          exact this
        have M1 : Blk w2 (w.heap.size + 1) 122 zeroStr := hw2 ▸ L1.other (by simp) _
        have MB : Below w.heap.size w w2 := hw2 ▸ LB.setCell (by simp) _
        have MG := hG.keep MB
        have hcb := stL_length (comp (sth m') (put B' a ((sb t').take k)))
        clear H1 L1 LB hw2 c72 f72 ht
        go_upto_block 99 with (first | (refine load_part rfl 119 (.tmp 32) rfl M0 rfl Tryd.underlying119 (m := 8) (by kernel_rfl) (strV_state _ _ _) (stL_length _) ?_) | (refine load_part rfl 120 (.tmp 34) rfl M0 rfl Tryd.underlying120 (m := 64) (by kernel_rfl) (strV_block _ _ _ hB64') (by rw [bytesV_length]; exact hB64') ?_) | (go_at_call 80; refine (compress_any _ _ hbB w2 MG).mono ?_; rintro e w3 ⟨rfl, hB3⟩; have M3 := M0.keep hB3) | (refine store_part rfl 119 (.tmp 37) (.tmp 36) rfl M3 rfl rfl (m := 8) (by kernel_rfl) hcb (by rw [strV_length _ _ _ hB64']; omega) (fun v hv => by obtain ⟨y, _, rfl⟩ := List.mem_map.1 hv; rfl) ?_; intro w4 M4 hO4))
        have N1 := hO4.2.1 _ _ _ (by omega) (M1.keep hB3)
        have NB := hO4.2.2 _ _ (Nat.le_refl _) (MB.trans (hB3.mono MB.size))
        rw [strV_setState, ← HF.out.2, ← HL.out] at M4
        clear M0 M1 MB MG M3 hB3 hO4
        go_simp
        go_roundw
        case rel => exact ⟨m' ++ (sb t').take k, put B' a ((sb t').take k), t'.extract k t'.size, rfl, HT, by rw [size_tail t' k hk1, HL.out]; omega, HF.out.1, M4, N1, NB⟩
        case measure =>
          show (t'.extract k t'.size).size < t'.size
          rw [size_tail t' k hk1]
          omega
      · have HF : Hid (Stm (m' ++ (sb t').take k) (put B' a ((sb t').take k)) ∧ sth (m' ++ (sb t').take k) = sth m') := by
          have := stm_part hS hxb (by rw [hxl, HA.out]; omega)
          rw [HA.out] at this
          exact Lib.hid this
        go_upto_region 99 with (fail)
        generalize hw2 : w1.setCell _ _ = w2
        have M0 : Blk w2 w.heap.size 122 (strV (sth m') (put B' a ((sb t').take k)) (m'.length + k)) := by
          have := H1.set 72 (.int .u64 ((m'.length + k : Nat) : Int))
          rw [strV_setCount _ _ _ _ hB64', Int.natCast_add, hw2] at this
          exact this
        have M1 : Blk w2 (w.heap.size + 1) 122 zeroStr := hw2 ▸ L1.other (by simp) _
        have MB : Below w.heap.size w w2 := hw2 ▸ LB.setCell (by simp) _
        rw [← HF.out.2, ← HL.out] at M0
        clear H1 L1 LB hw2 c72 f72
        go_roundw
        case rel => exact ⟨m' ++ (sb t').take k, put B' a ((sb t').take k), t'.extract k t'.size, rfl, HT, by rw [size_tail t' k hk1, HL.out]; omega, HF.out.1, M0, M1, MB⟩
        case measure =>
          show (t'.extract k t'.size).size < t'.size
          rw [size_tail t' k hk1]
          omega
    · have he : m' = m ++ sb t := by
        have h1 := HM.out
        have h2 : sb t' = [] := List.eq_nil_of_length_eq_zero (by rw [sb_length]; omega)
        rw [h2, List.append_nil] at h1
        exact h1
      subst he
      have hln := strV_length (sth (m ++ sb t)) B' (m ++ sb t).length hB64
      clear HM
      go_wp2_with (first | (refine load_struct rfl 122 (.tmp 2) rfl K0 rfl Tryd.underlying122 (m := 73) (by kernel_rfl) hln ?_) | (refine store_blk rfl 122 (.tmp 4) (.tmp 38) rfl K1 rfl rfl (m := 73) (by kernel_rfl) hln (strV_length _ _ _ (by simp)) (strV_cells _ _ _) ?_; intro w2 hb2 ho2))
      exact bodyPost_ret (v := .agg (strV (sth (m ++ sb t)) B' (m ++ sb t).length).toArray) (hb2.resultS (p := 4) (ty := 122) rfl _ rfl Tryd.underlying122 (by rw [hln]; kernel_rfl)) rfl ⟨B', hS, rfl, ho2.2.2 _ _ (by omega) KB⟩

theorem begin_str (w : World) (hG : Glob w) : Calls Tryd.prog 71 #[] w (AddTo w []) :=
  (begin_any w hG).mono fun _ _ ⟨he, hB⟩ => ⟨List.replicate 64 0, stm_nil _ ⟨by simp, fun y hy => by rw [(List.mem_replicate.1 hy).2]; omega⟩, he, hB⟩

end Go.Proofs.YtfhfmdnimebegaaDoor
