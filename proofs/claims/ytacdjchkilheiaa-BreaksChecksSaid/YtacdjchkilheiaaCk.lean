/-
  A certificate from one package's type into the other's.
-/
import Derived.Test.YtacdjchkilheiaaCe
namespace Go.Proofs.Ytacdjchkilheiaa
open Go.RowKit
set_option linter.unusedVariables false
set_option linter.unusedSimpArgs false

theorem results_one {fn : Func} {p : Tmp} {ty : TypeId} (h : fn.results = #[.cell p ty]) (tmps : Array Value) (w : World) {b : Nat} {v : Value}
    (hp : tmps.getD p undef = .pointer (some ⟨b, 0, none⟩)) (hv : (Go.loadVar ty ⟨b, 0, none⟩).run Try.prog w = .ok v w) :
    (results fn tmps).run Try.prog w = .ok v w := by
  have hp' : tmps[p]?.getD undef = .pointer (some ⟨b, 0, none⟩) := by simpa using hp
  simp [results, h, hp', asAddr, hv, Sem.run_bind]
/-- The value of a certificate. -/
def ctV (qe : Option Addr) (ne ce : Nat) (ql : Option Addr) (nl cl : Nat) (qc : Option Addr) (nc cc : Nat) : List Value := [.slice qe ne ce, .slice ql nl cl, .slice qc nc cc]

set_option maxHeartbeats 1000000 in
set_option maxRecDepth 100000 in
theorem plain_any (qe : Option Addr) (ne ce : Nat) (ql : Option Addr) (nl cl : Nat) (qc : Option Addr) (nc cc : Nat) (w : World) :
    Calls Try.prog 15 #[.agg #[.slice qe ne ce, .slice ql nl cl, .slice qc nc cc]] w fun e w' => e = .returned (.agg #[.slice qe ne ce, .slice ql nl cl, .slice qc nc cc]) ∧ Below w.heap.size w w' := by
  go_enter Try.func15, Try.ntmps15
  go_upto_region 1 with (fail)
  have Kb := blk_new w 28 #[.slice qe ne ce, .slice ql nl cl, .slice qc nc cc]
  have X0 : Below w.heap.size w (w.alloc (.cells #[.slice qe ne ce, .slice ql nl cl, .slice qc nc cc] 28)) := (Below.refl _ _).alloc (Nat.le_refl _) _
  obtain ⟨W0, hW0⟩ : ∃ W, w.alloc (.cells #[.slice qe ne ce, .slice ql nl cl, .slice qc nc cc] 28) = W := ⟨_, rfl⟩
  have hs0 : w.heap.size + 1 = W0.heap.size := by rw [← hW0, World.size_alloc]
  rw [hW0] at Kb X0
  change Code.wp _ _ _ _ ((w.alloc (.cells #[.slice qe ne ce, .slice ql nl cl, .slice qc nc cc] 28)).alloc (.cells zeroCt.toArray 32))
  rw [hW0]
  have Kr := blk_new W0 32 zeroCt.toArray
  have X1 : Below W0.heap.size W0 (W0.alloc (.cells zeroCt.toArray 32)) := (Below.refl _ _).alloc (Nat.le_refl _) _
  replace Kb := Kb.keep X1
  have X2 := link X0 X1
  generalize World.alloc W0 _ = W1 at Kb Kr X2 ⊢
  try rw [hs0]
  obtain ⟨pb, hpb⟩ : ∃ p, w.heap.size = p := ⟨_, rfl⟩
  obtain ⟨rb, hrb⟩ : ∃ p, W0.heap.size = p := ⟨_, rfl⟩
  rw [hpb] at Kb ⊢
  rw [hrb] at Kr ⊢
  have hwr : w.heap.size ≤ rb := by omega
  have c0 := Kb.cell (j := 0) rfl
  have c1 := Kb.cell (j := 1) rfl
  have c2 := Kb.cell (j := 2) rfl
  clear hW0 hs0 X0 X1 hpb hrb Kb
  go_wp2_with (refine store_blk rfl 32 (.tmp 2) (.tmp 9) rfl Kr rfl rfl (vs := [.slice qe ne ce, .slice ql nl cl, .slice qc nc cc]) (m := 3) (by kernel_rfl) rfl rfl (by intro v hv; simp at hv; rcases hv with rfl | rfl | rfl <;> rfl) ?_; intro W9 K9 O9)
  try simp only [zP, zQ, zS, zZ, zC]
  try go_wp2
  exact bodyPost_ret (v := .agg #[.slice qe ne ce, .slice ql nl cl, .slice qc nc cc]) (results_one (by rfl) _ _ rfl (K9.loadVarS Try.underlying32 (by kernel_rfl))) rfl ⟨rfl, O9.2.2 _ _ hwr X2⟩

set_option maxHeartbeats 1000000 in
set_option maxRecDepth 100000 in
theorem own_any (qe : Option Addr) (ne ce : Nat) (ql : Option Addr) (nl cl : Nat) (qc : Option Addr) (nc cc : Nat) (w : World) :
    Calls Try.prog 23 #[.agg #[.slice qe ne ce, .slice ql nl cl, .slice qc nc cc]] w fun e w' => e = .returned (.agg #[.slice qe ne ce, .slice ql nl cl, .slice qc nc cc]) ∧ Below w.heap.size w w' := by
  go_enter Try.func23, Try.ntmps23
  go_upto_region 1 with (fail)
  have Kb := blk_new w 32 #[.slice qe ne ce, .slice ql nl cl, .slice qc nc cc]
  have X0 : Below w.heap.size w (w.alloc (.cells #[.slice qe ne ce, .slice ql nl cl, .slice qc nc cc] 32)) := (Below.refl _ _).alloc (Nat.le_refl _) _
  obtain ⟨W0, hW0⟩ : ∃ W, w.alloc (.cells #[.slice qe ne ce, .slice ql nl cl, .slice qc nc cc] 32) = W := ⟨_, rfl⟩
  have hs0 : w.heap.size + 1 = W0.heap.size := by rw [← hW0, World.size_alloc]
  rw [hW0] at Kb X0
  change Code.wp _ _ _ _ ((w.alloc (.cells #[.slice qe ne ce, .slice ql nl cl, .slice qc nc cc] 32)).alloc (.cells zeroCt.toArray 28))
  rw [hW0]
  have Kr := blk_new W0 28 zeroCt.toArray
  have X1 : Below W0.heap.size W0 (W0.alloc (.cells zeroCt.toArray 28)) := (Below.refl _ _).alloc (Nat.le_refl _) _
  replace Kb := Kb.keep X1
  have X2 := link X0 X1
  generalize World.alloc W0 _ = W1 at Kb Kr X2 ⊢
  try rw [hs0]
  obtain ⟨pb, hpb⟩ : ∃ p, w.heap.size = p := ⟨_, rfl⟩
  obtain ⟨rb, hrb⟩ : ∃ p, W0.heap.size = p := ⟨_, rfl⟩
  rw [hpb] at Kb ⊢
  rw [hrb] at Kr ⊢
  have hwr : w.heap.size ≤ rb := by omega
  have c0 := Kb.cell (j := 0) rfl
  have c1 := Kb.cell (j := 1) rfl
  have c2 := Kb.cell (j := 2) rfl
  clear hW0 hs0 X0 X1 hpb hrb Kb
  go_wp2_with (refine store_blk rfl 28 (.tmp 2) (.tmp 9) rfl Kr rfl rfl (vs := [.slice qe ne ce, .slice ql nl cl, .slice qc nc cc]) (m := 3) (by kernel_rfl) rfl rfl (by intro v hv; simp at hv; rcases hv with rfl | rfl | rfl <;> rfl) ?_; intro W9 K9 O9)
  try simp only [zP, zQ, zS, zZ, zC]
  try go_wp2
  exact bodyPost_ret (v := .agg #[.slice qe ne ce, .slice ql nl cl, .slice qc nc cc]) (results_one (by rfl) _ _ rfl (K9.loadVarS Try.underlying28 (by kernel_rfl))) rfl ⟨rfl, O9.2.2 _ _ hwr X2⟩
end Go.Proofs.Ytacdjchkilheiaa
