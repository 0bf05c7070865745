/-
  merkle.Root.
-/
import Derived.Test.YtfhfmdnimebegaaDoorMv
import Derived.Test.YtfhfmdnimebegaaDoorMt
namespace Go.Proofs.YtfhfmdnimebegaaDoor
open Go.RowKit
set_option linter.unusedVariables false
set_option linter.unusedSimpArgs false

theorem Blk.loadVar {w : World} {b : Nat} {t ty : TypeId} {cs : List Value} (h : Blk w b t cs) {n : Nat} {e : TypeId} (hu : Tryd.prog.underlying ty = some (.array n e)) (hi : (Tryd.prog.info? ty).map (·.size) = some cs.length) : (Go.loadVar ty ⟨b, 0, none⟩).run Tryd.prog w = .ok (.agg cs.toArray) w :=
  run_loadVar_row w b t ty cs.toArray (0, 0) (.array n e) h hu rfl (by simpa using hi)
theorem results_two {fn : Func} {p q : Tmp} {ty ty' : TypeId} (h : fn.results = #[.cell p ty, .cell q ty']) (tmps : Array Value) (w : World) {b b' : Nat} {v v' : Value}
    (hp : tmps.getD p undef = .pointer (some ⟨b, 0, none⟩)) (hq : tmps.getD q undef = .pointer (some ⟨b', 0, none⟩)) (hv : (Go.loadVar ty ⟨b, 0, none⟩).run Tryd.prog w = .ok v w) (hv' : (Go.loadVar ty' ⟨b', 0, none⟩).run Tryd.prog w = .ok v' w) :
    (results fn tmps).run Tryd.prog w = .ok (.tuple #[v, v']) w := by
  have hp' : tmps[p]?.getD undef = .pointer (some ⟨b, 0, none⟩) := by simpa using hp
  have hq' : tmps[q]?.getD undef = .pointer (some ⟨b', 0, none⟩) := by simpa using hq
  simp [results, h, hp', hq', asAddr, hv, hv', Sem.run_bind]
theorem results_and {fn : Func} {p q : Tmp} {ty : TypeId} (h : fn.results = #[.cell p ty, .tmp q]) (tmps : Array Value) (w : World) {b : Nat} {v v' : Value}
    (hp : tmps.getD p undef = .pointer (some ⟨b, 0, none⟩)) (hq : tmps.getD q undef = v') (hv : (Go.loadVar ty ⟨b, 0, none⟩).run Tryd.prog w = .ok v w) :
    (results fn tmps).run Tryd.prog w = .ok (.tuple #[v, v']) w := by
  have hp' : tmps[p]?.getD undef = .pointer (some ⟨b, 0, none⟩) := by simpa using hp
  have hq' : tmps[q]?.getD undef = v' := by simpa using hq
  simp [results, h, hp', hq', asAddr, hv, Sem.run_bind]
theorem build_zero (w : World) : (Instr.build 29 #[]).run Tryd.prog w = .ok (.agg (bytesV z16).toArray) w := by kernel_rfl

/-- The root of leaves. -/
def rootL (ls : List Lf) : List Nat := topD ls.length (rowM ls)
theorem rootL_dgt (ls : List Lf) : Dgt (rootL ls) := topD_dgt _ _
theorem valid_zero {ls : List Lf} (h : validM ls = 0) : ls.length ≤ 4096 ∧ ls.all fits = true ∧ ordered ls = true := by
  unfold validM at h
  split at h
  · omega
  · rename_i h1
    split at h
    · rename_i h2
      split at h
      · rename_i h3
        exact ⟨by omega, h2, h3⟩
      · omega
    · omega
theorem small_of {ls : List Lf} (h : ls.all fits = true) : Small ls := by
  intro x hx
  have := List.all_eq_true.1 h x hx
  simp [fits] at this
  exact ⟨by omega, by omega⟩

set_option maxHeartbeats 2000000 in
set_option maxRecDepth 100000 in
theorem root_no (ls : List Lf) (p : Option Addr) (n c : Nat) (hl : ls.length = n) (hv : validM ls ≠ 0) (w : World) (hL : OwnL w p ls) :
    Calls Tryd.prog 11 #[.slice p n c] w fun e w' => e = .returned (.tuple #[.agg (bytesV z16).toArray, .int .i64 (validM ls)]) ∧ Below w.heap.size w w' := by
  have hz1 := zero_dig'
  have hz2 := build_zero
  have hvz : (bytesV z16).length = 16 := rfl
  have hz16 : (bytesV z16).toArray.toList.length = 16 := rfl
  have HV := Lib.hid (fun w0 (hB : Below w.heap.size w w0) => valid_any ls p n c hl w0 (hL.keep hB))
  clear hl hL
  generalize validM ls = v at hv HV ⊢
  go_enter Tryd.func11, Tryd.ntmps11
  go_upto_region 1 with (fail)
  generalize hw1 : World.alloc _ _ = W0
  have K2 : Blk W0 w.heap.size 29 (bytesV z16) := hw1 ▸ (blk_new w _ _)
  have KB : Below w.heap.size w W0 := hw1 ▸ ((Below.refl _ _).alloc (Nat.le_refl _) _)
  clear hw1 hz1
  go_wp2_with (first
    | (go_at_call 14; refine (HV.out _ KB).mono ?_; rintro e W1 ⟨rfl, hB1⟩)
    | (refine store_blk rfl 29 (.tmp 2) (.tmp 9) rfl (K2.keep hB1) rfl rfl (m := 16) (by kernel_rfl) hvz hz16 (bytesV_cells z16) ?_; intro W2 K3 O3))
  exact bodyPost_ret (v := .tuple #[.agg (bytesV z16).toArray, .int .i64 v]) (results_and (p := 2) (q := 3) (ty := 29) rfl _ _ rfl rfl (K3.loadVar Tryd.underlying29 (by kernel_rfl))) rfl ⟨rfl, O3.2.2 _ _ (Nat.le_refl _) (link KB hB1)⟩

set_option maxHeartbeats 2000000 in
set_option maxRecDepth 100000 in
theorem root_nil (p : Option Addr) (c : Nat) (w : World) (hG : Glob w) :
    Calls Tryd.prog 11 #[.slice p 0 c] w fun e w' => e = .returned (.tuple #[.agg (bytesV (rootL [])).toArray, .int .i64 0]) ∧ Below w.heap.size w w' := by
  have hz1 := zero_dig'
  have hz2 := build_zero
  have hvz : (bytesV z16).length = 16 := rfl
  have hz16 : (bytesV z16).toArray.toList.length = 16 := rfl
  have HV := Lib.hid (fun w0 => valid_any [] p 0 c rfl w0 (fun h => absurd rfl h))
  have HT := Lib.hid (fun w0 (g : Glob w0) => (show _ from top_zero z16 ⟨rfl, by decide⟩ w0 g : Calls Tryd.prog 41 #[.int .i64 0, .agg (bytesV z16).toArray] w0 fun e w' => e = .returned (.agg (bytesV (rootL [])).toArray) ∧ Below w0.heap.size w0 w'))
  have hMd := rootL_dgt []
  rw [show validM [] = 0 from rfl] at HV
  generalize rootL [] = D at HT hMd ⊢
  have hvD : (bytesV D).length = 16 := by rw [bytesV_length]; exact hMd.1
  go_enter Tryd.func11, Tryd.ntmps11
  go_upto_region 1 with (fail)
  generalize hw1 : World.alloc _ _ = W0
  have K2 : Blk W0 w.heap.size 29 (bytesV z16) := hw1 ▸ (blk_new w _ _)
  have KB : Below w.heap.size w W0 := hw1 ▸ ((Below.refl _ _).alloc (Nat.le_refl _) _)
  clear hw1 hz1
  go_wp2_with (first
    | (go_at_call 14; refine (HV.out _).mono ?_; rintro e W1 ⟨rfl, hB1⟩)
    | (go_at_call 41; refine (HT.out _ (hG.keep (link KB hB1))).mono ?_; rintro e W2 ⟨rfl, hB2⟩)
    | (refine store_blk rfl 29 (.tmp 2) (.tmp 15) rfl ((K2.keep hB1).keep hB2) rfl rfl (m := 16) (by kernel_rfl) hvD hz16 (bytesV_cells D) ?_; intro W3 K3 O3))
  exact bodyPost_ret (v := .tuple #[.agg (bytesV D).toArray, .int .i64 0]) (results_and (p := 2) (q := 3) (ty := 29) rfl _ _ rfl rfl (K3.loadVar Tryd.underlying29 (by rw [hvD]; kernel_rfl))) rfl ⟨rfl, O3.2.2 _ _ (Nat.le_refl _) (link (link KB hB1) hB2)⟩

set_option maxHeartbeats 2000000 in
set_option maxRecDepth 100000 in
theorem root_yes (ls : List Lf) (p : Option Addr) (n c : Nat) (hl : ls.length = n) (hc : n ≤ c) (h0 : validM ls = 0) (w : World) (hG : Glob w) (hL : OwnL w p ls) :
    Calls Tryd.prog 11 #[.slice p n c] w fun e w' => e = .returned (.tuple #[.agg (bytesV (rootL ls)).toArray, .int .i64 0]) ∧ Below w.heap.size w w' := by
  rcases Nat.eq_zero_or_pos n with hn | hn
  · subst hn
    obtain rfl := List.eq_nil_of_length_eq_zero hl
    exact root_nil p c w hG
  obtain ⟨hn4, hfit, _⟩ := valid_zero h0
  have hS := small_of hfit
  have hz1 := zero_dig'
  have hz16 : (bytesV z16).toArray.toList.length = 16 := rfl
  obtain ⟨b, off, rfl, hL2⟩ := hL (by intro h; rw [h] at hl; simp at hl; omega)
  have HV := Lib.hid (fun w0 (hB : Below w.heap.size w w0) => valid_any ls (some ⟨b, off, none⟩) n c hl w0 (hL.keep hB))
  have hd : Dgt (rowM ls) := rowM_dgt _ _ (Nat.le_refl _) (by omega)
  have HR := Lib.hid (fun w0 (hB : Below w.heap.size w w0) => mrow_any n hn (by omega) ls b off c w0 hl hc (hG.keep hB) (hL2.keep hB) hS)
  have HT := Lib.hid (fun w0 (g : Glob w0) => top_many n hn (by omega) (rowM ls) hd w0 g)
  have hMd := rootL_dgt ls
  have HE : Hid (topD n (rowM ls) = rootL ls) := Lib.hid (by unfold rootL; rw [hl])
  rw [h0] at HV
  generalize rowM ls = R at HR HT HE hd
  rw [HE.out] at HT
  generalize rootL ls = D at HT hMd HE ⊢
  clear hl hL hL2 hS hfit h0 HE
  have hne : ¬ n = 0 := by omega
  have hvD : (bytesV D).length = 16 := by rw [bytesV_length]; exact hMd.1
  go_enter Tryd.func11, Tryd.ntmps11
  go_upto_region 1 with (fail)
  generalize hw1 : World.alloc _ _ = W0
  have K2 : Blk W0 w.heap.size 29 (bytesV z16) := hw1 ▸ (blk_new w _ _)
  have KB : Below w.heap.size w W0 := hw1 ▸ ((Below.refl _ _).alloc (Nat.le_refl _) _)
  clear hw1 hz1
  go_wp2_with (first
    | (go_at_call 14; refine (HV.out _ KB).mono ?_; rintro e W1 ⟨rfl, hB1⟩)
    | (go_at_call 42; refine (HR.out _ (link KB hB1)).mono ?_; rintro e W2 ⟨rfl, hB2⟩)
    | (go_at_call 41; refine (HT.out _ (hG.keep (link (link KB hB1) hB2))).mono ?_; rintro e W4 ⟨rfl, hB4⟩)
    | (refine store_blk rfl 29 (.tmp 2) (.tmp 20) rfl (((K2.keep hB1).keep hB2).keep hB4) rfl rfl (m := 16) (by kernel_rfl) hvD hz16 (bytesV_cells D) ?_; intro W3 K3 O3))
  exact bodyPost_ret (v := .tuple #[.agg (bytesV D).toArray, .int .i64 0]) (results_and (p := 2) (q := 3) (ty := 29) rfl _ _ rfl rfl (K3.loadVar Tryd.underlying29 (by rw [hvD]; kernel_rfl))) rfl ⟨rfl, O3.2.2 _ _ (Nat.le_refl _) (link (link (link KB hB1) hB2) hB4)⟩

end Go.Proofs.YtfhfmdnimebegaaDoor
