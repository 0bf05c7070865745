/-
  The specification's Same; the law's model and leaves; one answer of Prove and Range for both. Conditions: as each theorem states them; no axiom beyond propext, Classical.choice, Quot.sound.
-/
import Derived.Test.YtfhfmdnimebegaaDoorEw
import Derived.Test.YtfhfmdnimebegaaDoorEMsb
import Derived.Test.YtfhfmdnimebegaaDoorE7
import Derived.Test.YtfhfmdnimebegaaDoorE9
import Derived.Test.YtfhfmdnimebegaaDoorE8
import Derived.Laws.OwnMore

/-
  The reference's Same of two proofs that hold the same.
-/
namespace Go.Proofs.YtfhfmdnimebegaaDoor
open Go.RowKit
set_option linter.unusedVariables false
set_option linter.unusedSimpArgs false

set_option maxHeartbeats 2000000 in
set_option maxRecDepth 100000 in
theorem rsame_self (F n : Nat) (lf : List Lf) (sd : List (List Nat)) (hlf : lf.length ≤ 1000000) (hsl : sd.length ≤ 1000000000) (hd : ∀ x ∈ sd, Dig x) (B1 B2 : Nat) (va vb : Value) (w : World) (hA : RPrf w B1 F n lf sd va) (hB : RPrf w B2 F n lf sd vb) :
    Calls Tryd.prog 25 #[va, vb] w fun e w' => e = .returned (.bool true) ∧ Below w.heap.size w w' := by
  obtain ⟨qa, ca, sva, rfl, hLa, hca, hOa⟩ := hA
  obtain ⟨sa, sca, rfl, _⟩ := hOa.sdv
  obtain ⟨qb, cb, svb, rfl, hLb, hcb, hOb⟩ := hB
  obtain ⟨sb, scb, rfl, _⟩ := hOb.sdv
  have OLa : OwnL w qa lf := fun h => by obtain ⟨b, off, e, _, hL⟩ := hLa h; exact ⟨b, off, e, hL⟩
  have OLb : OwnL w qb lf := fun h => by obtain ⟨b, off, e, _, hL⟩ := hLb h; exact ⟨b, off, e, hL⟩
  have HS := Lib.hid (fun (w0 : World) (hB : Below w.heap.size w w0) => (by
    have h := sameLeaves_any lf lf qa qb lf.length ca lf.length cb rfl rfl hlf hlf w0 (OLa.keep hB) (OLb.keep hB)
    rwa [decide_eq_true rfl] at h :
    Calls Tryd.prog 33 #[.slice qa lf.length ca, .slice qb lf.length cb] w0 fun e w' => e = .returned (.bool true) ∧ Below w0.heap.size w0 w'))
  have HD := Lib.hid (fun (w0 : World) (hB : Below w.heap.size w w0) => (Sdg.sides_self hsl hd (hOa.keep hB) (hOb.keep hB) :
    Calls Tryd.prog 49 #[.slice sa sd.length sca, .slice sb sd.length scb] w0 fun e w' => e = .returned (.bool true) ∧ Below w0.heap.size w0 w'))
  clear hLa hLb OLa OLb hOa hOb hca hcb hd hlf hsl
  generalize lf.length = k1 at HS ⊢
  generalize sd.length = k2 at HD ⊢
  go_enter Tryd.func25, Tryd.ntmps25
  go_upto_region 1 with (fail)
  generalize hw1 : World.alloc _ _ = W0
  have Kb : Blk W0 (w.heap.size + 1) 54 [.int .i64 (F : Int), .int .i64 (n : Int), .slice qb k1 cb, .slice sb k2 scb] := hw1 ▸ blk_new1 w _ _ _
  have Ka : Blk W0 w.heap.size 54 [.int .i64 (F : Int), .int .i64 (n : Int), .slice qa k1 ca, .slice sa k2 sca] := hw1 ▸ ((blk_new w _ _).alloc _)
  have KB : Below w.heap.size w W0 := hw1 ▸ (((Below.refl _ _).alloc (Nat.le_refl _) _).alloc (by simp) _)
  clear hw1
  have a0 := Ka.cell (j := 0) rfl
  have a1 := Ka.cell (j := 1) rfl
  have a2 := Ka.cell (j := 2) rfl
  have b0 := Kb.cell (j := 0) rfl
  have b1 := Kb.cell (j := 1) rfl
  have b2 := Kb.cell (j := 2) rfl
  go_wp2_with (first
    | (go_at_call 33; refine (HS.out _ KB).mono ?_; rintro en W2 ⟨rfl, hB2⟩; have a3 := (Ka.keep hB2).cell (j := 3) rfl; have b3 := (Kb.keep hB2).cell (j := 3) rfl)
    | (go_at_call 49; refine (HD.out _ (link KB hB2)).mono ?_; rintro en W3 ⟨rfl, hB3⟩))
  go_ret
  exact ⟨rfl, link (link KB hB2) hB3⟩

end Go.Proofs.YtfhfmdnimebegaaDoor

/-
  Short: a string cut.
-/
namespace Go.Proofs.YtfhfmdnimebegaaDoor
open Go.RowKit
set_option linter.unusedVariables false
set_option linter.unusedSimpArgs false

/-- The first k bytes of a string. -/
def shortM (s : ByteArray) (k : Nat) : ByteArray := if k < s.size then s.extract 0 k else s
theorem shortM_size (s : ByteArray) (k : Nat) : (shortM s k).size ≤ k := by
  unfold shortM
  split
  · rw [ByteArray.size_extract]; omega
  · omega

set_option maxHeartbeats 1000000 in
set_option maxRecDepth 100000 in
theorem shortS_any (s : ByteArray) (k : Nat) (hk : k ≤ 1000000) (w : World) :
    Calls Tryd.prog 20 #[.string s, .int .i64 (k : Int)] w fun e w' => e = .returned (.string (shortM s k)) ∧ Below w.heap.size w w' := by
  unfold shortM
  by_cases h : k < s.size
  · rw [if_pos h]
    go_enter Tryd.func20, Tryd.ntmps20
    go_wp2
    go_ret
    exact ⟨by simp, Below.refl _ _⟩
  · rw [if_neg h]
    go_enter Tryd.func20, Tryd.ntmps20
    go_wp2
    go_ret
    exact ⟨rfl, Below.refl _ _⟩

end Go.Proofs.YtfhfmdnimebegaaDoor

/-
  The law's model: a proof as the reference's.
-/
namespace Go.Proofs.YtfhfmdnimebegaaDoor
open Go.RowKit
set_option linter.unusedVariables false
set_option linter.unusedSimpArgs false

theorem RL_none {w : World} {B : Nat} {n c : Nat} {l : List Lf} (h : OwnRL w B (.slice none n c) l) : c = 0 := by
  rcases h.2 with ⟨e, _⟩ | ⟨g, cap, cur, e, _⟩
  · injection e with _ _ e3
  · injection e with e1 _ _
    cases e1
theorem LR {w : World} {B : Nat} {q : Option Addr} {n c : Nat} {l : List Lf} (h : OwnRL w B (.slice q n c) l) (hne : l ≠ []) : ∃ b off, q = some ⟨b, off, none⟩ ∧ B ≤ b ∧ Lvs w b off l := by
  obtain ⟨⟨p1, c1, e1, _, hL⟩, _, _⟩ := RL_lvs h
  obtain ⟨b, off, hp, hL2⟩ := hL hne
  injection e1 with e1 _ _
  rcases h.2 with ⟨_, h0⟩ | ⟨g, cap, cur, e, hB, _⟩
  · exact absurd (List.eq_nil_of_length_eq_zero h0) hne
  · injection e with e _ _
    rw [e1, hp] at e
    injection e with e
    injection e with e e' _
    exact ⟨b, off, by rw [e1, hp], by rw [e]; exact hB, hL2⟩

set_option maxHeartbeats 2000000 in
set_option maxRecDepth 100000 in
theorem model_any (F n : Nat) (lf : List Lf) (sd : List (List Nat)) (v : Value) (B : Nat) (w : World) (hBw : B ≤ w.heap.size) (hlf : lf.length ≤ 1000000) (h : PrfV w B F n lf sd v) :
    Calls Tryd.prog 26 #[v] w fun e w' => ∃ v', e = .returned v' ∧ RPrf w' B F n lf sd v' ∧ Below w.heap.size w w' := by
  obtain ⟨q, c, sv, rfl, hL, hc, hb, hz, hO1⟩ := h
  obtain ⟨sa, sc, rfl, _⟩ := hO1.sdv
  have HP := Lib.hid (fun (w0 : World) (hB : Below w.heap.size w w0) => plain_any lf q lf.length c rfl hlf w0 (hL.keep hB))
  have hO := Lib.hid (fun (w0 : World) (hB : Below w.heap.size w w0) => (hO1.keep hB : OwnD w0 B _ sd))
  clear hL hO1 hz hb hlf
  go_enter Tryd.func26, Tryd.ntmps26
  go_upto_region 1 with (fail)
  generalize hw1 : World.alloc _ _ = W0
  have Kr : Blk W0 (w.heap.size + 1) 54 zeroPrf := hw1 ▸ blk_new1 w _ _ _
  have Ka : Blk W0 w.heap.size 50 [.int .i64 (F : Int), .int .i64 (n : Int), .slice q lf.length c, .slice sa sd.length sc] := hw1 ▸ ((blk_new w _ _).alloc _)
  have KB : Below w.heap.size w W0 := hw1 ▸ (((Below.refl _ _).alloc (Nat.le_refl _) _).alloc (by simp) _)
  clear hw1
  have hHeld : True := trivial
  refine wp_region_held_drew (S := fun w' => Below (w.heap.size + 1) W0.drew w') (by kernel_rfl) (Below.refl _ _) (fun _ => ?_)
  have hHeld : Below (w.heap.size + 1) W0.drew W0.drew := Below.refl _ _
  replace KB : Below w.heap.size w W0.drew := below_drew KB
  replace Ka := Ka.drew
  replace Kr := Kr.drew
  generalize W0.drew = V0 at hHeld KB Ka Kr ⊢
  have C0 : ∀ w', Below (w.heap.size + 1) V0 w' → w'.cell? ⟨w.heap.size, 0, none⟩ = some (.int .i64 (F : Int)) := fun w' h => (h.cell (Nat.lt_succ_self _)).trans (Ka.cell (j := 0) rfl)
  have C1 : ∀ w', Below (w.heap.size + 1) V0 w' → w'.cell? ⟨w.heap.size, 1, none⟩ = some (.int .i64 (n : Int)) := fun w' h => (h.cell (Nat.lt_succ_self _)).trans (Ka.cell (j := 1) rfl)
  have C2 : ∀ w', Below (w.heap.size + 1) V0 w' → w'.cell? ⟨w.heap.size, 2, none⟩ = some (.slice q lf.length c) := fun w' h => (h.cell (Nat.lt_succ_self _)).trans (Ka.cell (j := 2) rfl)
  have C3 : ∀ w', Below (w.heap.size + 1) V0 w' → w'.cell? ⟨w.heap.size, 3, none⟩ = some (.slice sa sd.length sc) := fun w' h => (h.cell (Nat.lt_succ_self _)).trans (Ka.cell (j := 3) rfl)
  refine wt (i := 0) (oi := ⟨some 3, .fieldAddr 50 (.tmp 1) 0, 0, "law.go:65", #[], none⟩) (v := .pointer (some ⟨w.heap.size, 0, none⟩)) (Or.inl ⟨by rfl, fun w' hSw => by go_simp⟩) hHeld ?_
  try simp only [zP, zQ, zS, zZ, zC]
  refine wt (i := 1) (oi := ⟨some 4, .load 3 (.tmp 3), 3, "law.go:65", #[⟨0, .data⟩], none⟩) (v := .int .i64 (F : Int)) (Or.inl ⟨by rfl, fun w' hSw => by have hc := C0 w' hSw; go_simp⟩) hHeld ?_
  try simp only [zP, zQ, zS, zZ, zC]
  refine wt (i := 2) (oi := ⟨some 5, .fieldAddr 50 (.tmp 1) 1, 0, "law.go:65", #[], none⟩) (v := .pointer (some ⟨w.heap.size, 1, none⟩)) (Or.inl ⟨by rfl, fun w' hSw => by go_simp⟩) hHeld ?_
  try simp only [zP, zQ, zS, zZ, zC]
  refine wt (i := 3) (oi := ⟨some 6, .load 3 (.tmp 5), 3, "law.go:65", #[⟨2, .data⟩], none⟩) (v := .int .i64 (n : Int)) (Or.inl ⟨by rfl, fun w' hSw => by have hc := C1 w' hSw; go_simp⟩) hHeld ?_
  try simp only [zP, zQ, zS, zZ, zC]
  refine wt (i := 4) (oi := ⟨some 7, .fieldAddr 50 (.tmp 1) 2, 0, "law.go:65", #[], none⟩) (v := .pointer (some ⟨w.heap.size, 2, none⟩)) (Or.inl ⟨by rfl, fun w' hSw => by go_simp⟩) hHeld ?_
  try simp only [zP, zQ, zS, zZ, zC]
  refine wt (i := 5) (oi := ⟨some 8, .load 33 (.tmp 7), 33, "law.go:65", #[⟨4, .data⟩], none⟩) (v := .slice q lf.length c) (Or.inl ⟨by rfl, fun w' hSw => by have hc := C2 w' hSw; go_simp⟩) hHeld ?_
  try simp only [zP, zQ, zS, zZ, zC]
  refine wt (i := 7) (oi := ⟨some 10, .fieldAddr 50 (.tmp 1) 3, 0, "law.go:65", #[], none⟩) (v := .pointer (some ⟨w.heap.size, 3, none⟩)) (Or.inl ⟨by rfl, fun w' hSw => by go_simp⟩) hHeld ?_
  try simp only [zP, zQ, zS, zZ, zC]
  refine wt (i := 8) (oi := ⟨some 11, .load 48 (.tmp 10), 48, "law.go:65", #[⟨7, .data⟩], none⟩) (v := .slice sa sd.length sc) (Or.inl ⟨by rfl, fun w' hSw => by have hc := C3 w' hSw; go_simp⟩) hHeld ?_
  try simp only [zP, zQ, zS, zZ, zC]
  refine wpAnyH_ready (rs := [6]) (by kernel_rfl) (by simp) ?_
  refine AllReadyH.cons (o := ⟨some 9, .call { callee := .value (.func 17), args := #[.tmp 8], argTypes := #[33] }, 24, "law.go:65", #[⟨5, .data⟩], none⟩) rfl (fun K hK => ?_) AllReadyH.nil
  rw [if_pos (by rfl)]
  go_simp
  refine (HP.out V0 KB).mono ?_
  rintro en V1 ⟨v1, rfl, hR1, _, hB1⟩
  obtain ⟨⟨p1, c1, rfl, hc1, hL1⟩, hn1, _⟩ := RL_lvs hR1
  dsimp only
  have H1 : Below (w.heap.size + 1) V0 V1 := hB1.mono (by have := Kr.lt; omega)
  have Kr1 := Kr.keep hB1
  refine hK.out _ _ (hHeld.trans H1) (fun hHeld => ?_)
  clear hK K
  try simp only [zP, zQ, zS, zZ, zC]
  refine wt (i := 9) (oi := ⟨some 12, .build 54 #[(0, .tmp 4), (1, .tmp 6), (2, .tmp 9), (3, .tmp 11)], 54, "law.go:65", #[⟨1, .data⟩, ⟨3, .data⟩, ⟨6, .data⟩, ⟨8, .data⟩], none⟩) (v := .agg #[.int .i64 (F : Int), .int .i64 (n : Int), .slice p1 lf.length c1, .slice sa sd.length sc]) (Or.inl ⟨by rfl, fun w' hSw => by go_simp⟩) hHeld ?_
  try simp only [zP, zQ, zS, zZ, zC]
  refine wpAnyH_ready (rs := [10]) (by kernel_rfl) (by simp) ?_
  refine AllReadyH.cons (o := ⟨none, .store 54 (.tmp 2) (.tmp 12), 0, "law.go:65", #[⟨9, .data⟩, ⟨6, .chain⟩, ⟨0, .phase⟩, ⟨1, .phase⟩, ⟨2, .phase⟩, ⟨3, .phase⟩, ⟨4, .phase⟩, ⟨5, .phase⟩, ⟨6, .phase⟩, ⟨7, .phase⟩, ⟨8, .phase⟩, ⟨9, .phase⟩], none⟩) rfl (fun K hK => ?_) AllReadyH.nil
  rw [if_pos (by rfl)]
  refine wp_store_mid 54 (.tmp 2) (.tmp 12) rfl (w.heap.size + 1) 0 #[.int .i64 (F : Int), .int .i64 (n : Int), .slice p1 lf.length c1, .slice sa sd.length sc] rfl rfl (by simpa using Kr1.there 0 4 (by simp)) (by kernel_rfl) (all_oneCell_toArray (by intro v hv; simp at hv; rcases hv with rfl | rfl | rfl | rfl <;> rfl)) ?_
  have O := only_sets (w.heap.size + 1) 0 V1 [.int .i64 (F : Int), .int .i64 (n : Int), .slice p1 lf.length c1, .slice sa sd.length sc]
  have Kq : Blk (V1.setCells (w.heap.size + 1) 0 [.int .i64 (F : Int), .int .i64 (n : Int), .slice p1 lf.length c1, .slice sa sd.length sc]) (w.heap.size + 1) 54 [.int .i64 (F : Int), .int .i64 (n : Int), .slice p1 lf.length c1, .slice sa sd.length sc] := Kr1.all rfl
  have H3 := O.2.2 _ _ (Nat.le_refl _) hHeld
  have B3 := O.2.2 _ _ (Nat.le_succ w.heap.size) (link KB hB1)
  have LL : lf ≠ [] → ∃ b off, p1 = some ⟨b, off, none⟩ ∧ B ≤ b ∧ Lvs (V1.setCells (w.heap.size + 1) 0 [.int .i64 (F : Int), .int .i64 (n : Int), .slice p1 lf.length c1, .slice sa sd.length sc]) b off lf := fun hne => by
      obtain ⟨b, off, hp, hb1, hL2⟩ := LR hR1 hne
      exact ⟨b, off, hp, by have := Kr.lt; omega, hL2.heap (heap_sets (w.heap.size + 1) [.int .i64 (F : Int), .int .i64 (n : Int), .slice p1 lf.length c1, .slice sa sd.length sc] V1 0 b (by have := Kr.lt; omega)) (Nat.le_of_eq O.1.symm)⟩
  dsimp only
  generalize World.setCells V1 (w.heap.size + 1) 0 [.int .i64 (F : Int), .int .i64 (n : Int), .slice p1 lf.length c1, .slice sa sd.length sc] = V3 at Kq H3 B3 LL ⊢
  refine hK.out _ _ (H3) (fun hHeld => ?_)
  clear hK K
  try simp only [zP, zQ, zS, zZ, zC]
  refine wpAnyH_done (by kernel_rfl) ?_ _
  clear hHeld
  go_wp2
  exact bodyPost_ret (v := .agg #[.int .i64 (F : Int), .int .i64 (n : Int), .slice p1 lf.length c1, .slice sa sd.length sc]) (Kq.resultS (p := 2) (ty := 54) rfl _ rfl Tryd.underlying54 (by kernel_rfl)) rfl ⟨_, rfl, ⟨p1, c1, _, rfl, LL, ⟨hc1, fun h => RL_none (h ▸ hR1)⟩, hO.out V3 B3⟩, B3⟩

end Go.Proofs.YtfhfmdnimebegaaDoor

/-
  The law's leaves.
-/
namespace Go.Proofs.YtfhfmdnimebegaaDoor
open Go.RowKit
set_option linter.unusedVariables false
set_option linter.unusedSimpArgs false

/-- A leaf cut short. -/
def cutL (x : Lf) : Lf := (shortM x.1 40, shortM x.2 40)
def rawM (ls : List Lf) : List Lf := (ls.take 8).map cutL
theorem rawM_len (ls : List Lf) : (rawM ls).length ≤ 8 := by unfold rawM; rw [List.length_map, List.length_take]; omega
theorem raw_end {ls : List Lf} {n k : Nat} (hl : ls.length = n) (hk : k ≤ n) (h8 : k ≤ 8) (h : ¬ k < n ∨ ¬ k < 8) : (ls.take k).map cutL = rawM ls := by
  unfold rawM
  rcases h with h | h
  · rw [List.take_of_length_le (by omega), List.take_of_length_le (by omega)]
  · rw [show k = 8 by omega]

set_option maxHeartbeats 2000000 in
set_option maxRecDepth 100000 in
theorem raw_any (ls : List Lf) (q : Option Addr) (n c : Nat) (hl : ls.length = n) (hn : n ≤ 9223372036854775807) (w : World) (hL : OwnL w q ls) :
    Calls Tryd.prog 10 #[.slice q n c] w fun e w' => ∃ v, e = .returned v ∧ OwnRL w' w.heap.size v (rawM ls) ∧ (ls = [] → v = .slice none 0 0) ∧ Below w.heap.size w w' := by
  have HN := Lib.hid hl
  clear hl
  go_enter Tryd.func10, Tryd.ntmps10
  go_wp2
  go_loopw [3, 4] (fun u v wr => ∃ k : Nat, k ≤ n ∧ k ≤ 8 ∧ v = .int .i64 k ∧ OwnRL wr w.heap.size u ((ls.take k).map cutL) ∧ (k = 0 → u = .slice none 0 0) ∧ Below w.heap.size w wr) (fun _ v _ => 9 - (intOf v).toNat)
  case atStart => exact ⟨0, by omega, by omega, rfl, RL_nil _ _, fun _ => rfl, Below.refl _ _⟩
  case round =>
    obtain ⟨k, hk, h8, rfl, hO, hz, hB⟩ := hrel
    by_cases hgo : k < n ∧ k < 8
    · obtain ⟨hlt, hlt8⟩ := hgo
      clear hz
      obtain ⟨x, hx⟩ : ∃ x, ls[k]? = some x := ⟨_, List.getElem?_eq_getElem (by rw [HN.out]; exact hlt)⟩
      obtain ⟨b, off, rfl, hL2⟩ := hL (by intro h0; rw [h0] at hx; simp at hx)
      have hT := Lib.hid (show (ls.take (k + 1)).map cutL = (ls.take k).map cutL ++ [cutL x] from by rw [take_snoc hx, List.map_append]; rfl)
      have hlen : ((ls.take k).map cutL).length ≤ 1000000000 := by rw [List.length_map, List.length_take]; omega
      have hbw := hL2.1
      have h1 := (hL2.at hx).1
      have h2 := (hL2.at hx).2
      generalize (ls.take k).map cutL = pre at hO hT hlen
      clear hx hL hL2
      go_upto_region 5 with (fail)
      have hHeld : True := trivial
      refine wp_region_held_drew (S := fun w' => Below w.heap.size w w') (by kernel_rfl) (below_drew hB) (fun _ => ?_)
      have hHeld : Below w.heap.size w wr.drew := below_drew hB
      have CB : Below w.heap.size w wr.drew := below_drew hB
      have C0 : ∀ w', Below w.heap.size w w' → w'.cell? ⟨b, off + k * 2, none⟩ = some (.string x.1) := fun w' h => (h.cell hbw).trans h1
      have C1 : ∀ w', Below w.heap.size w w' → w'.cell? ⟨b, off + k * 2 + 1, none⟩ = some (.string x.2) := fun w' h => (h.cell hbw).trans h2
      replace hO : OwnRL wr.drew w.heap.size u3 pre := hO
      clear h1 h2 hB
      generalize wr.drew = V0 at hHeld CB C0 C1 hO ⊢
      refine wt (i := 0) (oi := ⟨some 15, .move (.tmp 3), 24, "law.go:72", #[], none⟩) (v := u3) (Or.inl ⟨by rfl, fun w' hSw => by go_simp⟩) hHeld ?_
      try simp only [zP, zQ, zS, zZ, zC]
      refine wt (i := 1) (oi := ⟨some 16, .move (.tmp 0), 23, "law.go:72", #[], none⟩) (v := .slice (some ⟨b, off, none⟩) n c) (Or.inl ⟨by rfl, fun w' hSw => by go_simp⟩) hHeld ?_
      try simp only [zP, zQ, zS, zZ, zC]
      refine wt (i := 2) (oi := ⟨some 17, .move (.tmp 4), 3, "law.go:72", #[], none⟩) (v := .int .i64 (k : Int)) (Or.inl ⟨by rfl, fun w' hSw => by go_simp⟩) hHeld ?_
      try simp only [zP, zQ, zS, zZ, zC]
      refine wt (i := 3) (oi := ⟨some 18, .indexAddr 23 (.tmp 16) (.tmp 17), 0, "law.go:72", #[⟨1, .data⟩, ⟨2, .data⟩], none⟩) (v := .pointer (some ⟨b, off + k * 2, none⟩)) (Or.inl ⟨by rfl, fun w' hSw => by go_simp; try (intro hcm; exact absurd hcm (by omega))⟩) hHeld ?_
      try simp only [zP, zQ, zS, zZ, zC]
      refine wt (i := 4) (oi := ⟨some 19, .indexAddr 85 (.tmp 18) (.const (Value.int IntKind.i64 0)), 0, "law.go:72", #[⟨3, .data⟩], none⟩) (v := .pointer (some ⟨b, off + k * 2, none⟩)) (Or.inl ⟨by rfl, fun w' hSw => by go_simp; try (intro hcm; exact absurd hcm (by omega))⟩) hHeld ?_
      try simp only [zP, zQ, zS, zZ, zC]
      refine wt (i := 5) (oi := ⟨some 20, .load 9 (.tmp 19), 9, "law.go:72", #[⟨4, .data⟩], none⟩) (v := .string x.1) (Or.inl ⟨by rfl, fun w' hSw => by have hc := C0 w' hSw; go_simp⟩) hHeld ?_
      try simp only [zP, zQ, zS, zZ, zC]
      refine wt (i := 7) (oi := ⟨some 22, .move (.tmp 0), 23, "law.go:72", #[], none⟩) (v := .slice (some ⟨b, off, none⟩) n c) (Or.inl ⟨by rfl, fun w' hSw => by go_simp⟩) hHeld ?_
      try simp only [zP, zQ, zS, zZ, zC]
      refine wt (i := 8) (oi := ⟨some 23, .move (.tmp 4), 3, "law.go:72", #[], none⟩) (v := .int .i64 (k : Int)) (Or.inl ⟨by rfl, fun w' hSw => by go_simp⟩) hHeld ?_
      try simp only [zP, zQ, zS, zZ, zC]
      refine wt (i := 9) (oi := ⟨some 24, .indexAddr 23 (.tmp 22) (.tmp 23), 0, "law.go:72", #[⟨7, .data⟩, ⟨8, .data⟩], none⟩) (v := .pointer (some ⟨b, off + k * 2, none⟩)) (Or.inl ⟨by rfl, fun w' hSw => by go_simp; try (intro hcm; exact absurd hcm (by omega))⟩) hHeld ?_
      try simp only [zP, zQ, zS, zZ, zC]
      refine wt (i := 10) (oi := ⟨some 25, .indexAddr 85 (.tmp 24) (.const (Value.int IntKind.i64 1)), 0, "law.go:72", #[⟨9, .data⟩], none⟩) (v := .pointer (some ⟨b, off + k * 2 + 1, none⟩)) (Or.inl ⟨by rfl, fun w' hSw => by go_simp; try (intro hcm; exact absurd hcm (by omega))⟩) hHeld ?_
      try simp only [zP, zQ, zS, zZ, zC]
      refine wt (i := 11) (oi := ⟨some 26, .load 9 (.tmp 25), 9, "law.go:72", #[⟨10, .data⟩], none⟩) (v := .string x.2) (Or.inl ⟨by rfl, fun w' hSw => by have hc := C1 w' hSw; go_simp⟩) hHeld ?_
      try simp only [zP, zQ, zS, zZ, zC]
      refine wpAnyH_ready (rs := [6]) (by kernel_rfl) (by simp) ?_
      refine AllReadyH.cons (o := ⟨some 21, .call { callee := .value (.func 20), args := #[.tmp 20, .const (Value.int IntKind.i64 40)], argTypes := #[9, 3] }, 9, "law.go:72", #[⟨5, .data⟩], none⟩) rfl (fun K hK => ?_) AllReadyH.nil
      rw [if_pos (by rfl)]
      go_simp
      refine (shortS_any x.1 40 (by omega) V0).mono ?_
      rintro en V1 ⟨rfl, hB1⟩
      dsimp only
      refine hK.out _ _ (hHeld.trans (hB1.mono hHeld.size)) (fun hHeld => ?_)
      clear hK K
      try simp only [zP, zQ, zS, zZ, zC]
      refine wpAnyH_ready (rs := [12]) (by kernel_rfl) (by simp) ?_
      refine AllReadyH.cons (o := ⟨some 27, .call { callee := .value (.func 20), args := #[.tmp 26, .const (Value.int IntKind.i64 40)], argTypes := #[9, 3] }, 9, "law.go:72", #[⟨11, .data⟩, ⟨6, .chain⟩], none⟩) rfl (fun K hK => ?_) AllReadyH.nil
      rw [if_pos (by rfl)]
      go_simp
      refine (shortS_any x.2 40 (by omega) V1).mono ?_
      rintro en V2 ⟨rfl, hB2⟩
      dsimp only
      have hO2 := (hO.keep hB1).keep hB2
      replace CB := (CB.trans (hB1.mono CB.size)).trans (hB2.mono (CB.trans (hB1.mono CB.size)).size)
      refine hK.out _ _ (CB) (fun hHeld => ?_)
      clear hK K
      try simp only [zP, zQ, zS, zZ, zC]
      refine wt (i := 13) (oi := ⟨some 28, .build 75 #[(0, .tmp 21), (1, .tmp 27)], 75, "law.go:72", #[⟨6, .data⟩, ⟨12, .data⟩], none⟩) (v := .agg #[.string (shortM x.1 40), .string (shortM x.2 40)]) (Or.inl ⟨by rfl, fun w' hSw => by go_simp⟩) hHeld ?_
      try simp only [zP, zQ, zS, zZ, zC]
      refine wpAnyH_ready (rs := [14]) (by kernel_rfl) (by simp) ?_
      refine AllReadyH.cons (o := ⟨some 29, .buildSlice 24 1 #[(0, .tmp 28)], 24, "law.go:72", #[⟨13, .data⟩], none⟩) rfl (fun K hK => ?_) AllReadyH.nil
      rw [if_pos (by rfl)]
      go_simp
      refine hK.out _ _ (hHeld.alloc hHeld.size _) (fun hHeld => ?_)
      clear hK K
      try simp only [zP, zQ, zS, zZ, zC]
      refine wpAnyH_ready (rs := [15]) (by kernel_rfl) (by simp) ?_
      refine AllReadyH.cons (o := ⟨some 30, .call { callee := .builtin .append, args := #[.tmp 15, .tmp 29], argTypes := #[24, 24] }, 24, "law.go:72", #[⟨0, .data⟩, ⟨14, .data⟩, ⟨12, .chain⟩], none⟩) rfl (fun K hK => ?_) AllReadyH.nil
      rw [if_pos (by rfl)]
      refine push_RL_wp (w := V2) (B := w.heap.size) (.tmp 15) (.tmp 29) rfl pre (cutL x) _ rfl hO2 CB.size 1 rfl hlen ?_
      intro v2 w2 hO3 hg2 _
      have CB2 : Below w.heap.size w w2 := CB.trans hg2
      refine hK.out _ _ (CB2) (fun hHeld => ?_)
      clear hK K
      try simp only [zP, zQ, zS, zZ, zC]
      refine wpAnyH_ready (rs := [16]) (by kernel_rfl) (by simp) ?_
      refine AllReadyH.cons (o := ⟨some 3, .assign (.tmp 30), 24, "law.go:72", #[⟨15, .data⟩, ⟨15, .chain⟩, ⟨0, .phase⟩, ⟨1, .phase⟩, ⟨2, .phase⟩, ⟨3, .phase⟩, ⟨4, .phase⟩, ⟨5, .phase⟩, ⟨6, .phase⟩, ⟨7, .phase⟩, ⟨8, .phase⟩, ⟨9, .phase⟩, ⟨10, .phase⟩, ⟨11, .phase⟩, ⟨12, .phase⟩, ⟨13, .phase⟩, ⟨14, .phase⟩, ⟨15, .phase⟩], none⟩) rfl (fun K hK => ?_) AllReadyH.nil
      go_simp
      refine hK.out _ _ (hHeld) (fun hHeld => ?_)
      clear hK K
      try simp only [zP, zQ, zS, zZ, zC]
      refine wpAnyH_done (by kernel_rfl) ?_ _
      go_wp2
      go_roundw
      case rel => exact ⟨k + 1, by omega, by omega, by go_num, by rw [hT.out]; exact hO3, fun h => absurd h (by omega), CB2⟩
      case measure => simp [intOf]; omega
    · have hR := raw_end HN.out hk h8 (by omega)
      rw [hR] at hO
      have hz' : ls = [] → u3 = .slice none 0 0 := fun h => hz (by have := HN.out; rw [h] at this; simp at this; omega)
      have HG := Lib.hid hgo
      clear hgo hR hz
      by_cases hlt : k < n
      · have hlt8 : ¬ k < 8 := fun h => HG.out ⟨hlt, h⟩
        go_wp2
        go_ret
        exact ⟨_, rfl, hO, hz', hB⟩
      · go_wp2
        go_ret
        exact ⟨_, rfl, hO, hz', hB⟩

end Go.Proofs.YtfhfmdnimebegaaDoor

/-
  What Prove and Range answer, those of the package and those of the reference, for all leaves: one answer for both.
-/
namespace Go.Proofs.YtfhfmdnimebegaaDoor
open Go.RowKit
set_option linter.unusedVariables false
set_option linter.unusedSimpArgs false

/-- An answer: first, size, leaves, sides, and the code. -/
abbrev Ans := Nat × Nat × List Lf × List (List Nat) × Int
def noA (E : Int) : Ans := (0, 0, [], [], E)
def rngA (ls : List Lf) (r : Nat × Nat) : Ans := (r.1, ls.length, (ls.drop r.1).take (r.2 - r.1), sidesM ls r.1 r.2 0 ls.length, 0)
def proveA (ls : List Lf) (key : ByteArray) : Ans := if validM ls = 0 then rngA ls (proveR ls key) else noA (validM ls)
def rangeA (ls : List Lf) (low hik : ByteArray) : Ans := if validM ls = 0 then (if sless hik low = true then noA 5 else rngA ls (rangeR ls low hik)) else noA (validM ls)
def PrfW (w : World) (B : Nat) (A : Ans) (v : Value) : Prop := PrfV w B A.1 A.2.1 A.2.2.1 A.2.2.2.1 v
def RPrfW (w : World) (B : Nat) (A : Ans) (v : Value) : Prop := RPrf w B A.1 A.2.1 A.2.2.1 A.2.2.2.1 v
/-- Few leaves and sides, and the sides are digests. -/
def FewA (A : Ans) : Prop := A.2.2.1.length ≤ 11 ∧ A.2.2.2.1.length ≤ 11 ∧ Dgts A.2.2.2.1
theorem few_no (E : Int) : FewA (noA E) := ⟨by simp [noA], by simp [noA], fun d hd => by simp [noA] at hd⟩
theorem few_rng (ls : List Lf) (h : ls.length ≤ 11) (r : Nat × Nat) : FewA (rngA ls r) := by
  refine ⟨?_, sides_few ls r.1 r.2 h, sides_dgts2 ls r.1 r.2⟩
  show ((ls.drop r.1).take (r.2 - r.1)).length ≤ 11
  rw [List.length_take, List.length_drop]
  omega
theorem few_prove (ls : List Lf) (h : ls.length ≤ 11) (key : ByteArray) : FewA (proveA ls key) := by
  unfold proveA
  split
  · exact few_rng ls h _
  · exact few_no _
theorem few_range (ls : List Lf) (h : ls.length ≤ 11) (low hik : ByteArray) : FewA (rangeA ls low hik) := by
  unfold rangeA
  split
  · split
    · exact few_no _
    · exact few_rng ls h _
  · exact few_no _
def GivesP (w : World) (A : Ans) (e : Ending) (w' : World) : Prop := ∃ v, e = .returned (.tuple #[v, .int .i64 A.2.2.2.2]) ∧ PrfW w' w.heap.size A v ∧ Below w.heap.size w w'
def GivesR (w : World) (A : Ans) (e : Ending) (w' : World) : Prop := ∃ v, e = .returned (.tuple #[v, .int .i64 A.2.2.2.2]) ∧ RPrfW w' w.heap.size A v ∧ Below w.heap.size w w'
theorem noP (w : World) (B : Nat) (E : Int) : PrfW w B (noA E) (.agg zeroPrf.toArray) := PrfV.nil w B
theorem noR (w : World) (B : Nat) (E : Int) : RPrfW w B (noA E) (.agg zeroPrf.toArray) := (PrfV.nil w B).rprf

theorem prove_all (ls : List Lf) (p : Option Addr) (n c : Nat) (hl : ls.length = n) (hc : n ≤ c) (hq : n = 0 → p = none ∧ c = 0) (key : ByteArray) (w : World) (hG : Glob w) (hL : OwnL w p ls) :
    Calls Tryd.prog 21 #[.slice p n c, .string key] w (GivesP w (proveA ls key)) := by
  unfold proveA
  split
  · rename_i h0
    have := prove_yes ls p n c hl hc hq h0 key w hG hL
    subst hl
    exact this
  · rename_i h0
    refine (prove_no ls p n c hl h0 key w hL).mono ?_
    rintro e w' ⟨rfl, hB⟩
    exact ⟨_, rfl, noP _ _ _, hB⟩
theorem rprove_all (ls : List Lf) (p : Option Addr) (n c : Nat) (hl : ls.length = n) (hc : n ≤ c) (hq : n = 0 → p = none ∧ c = 0) (key : ByteArray) (w : World) (hG : GlobR w) (hL : OwnL w p ls) :
    Calls Tryd.prog 22 #[.slice p n c, .string key] w (GivesR w (proveA ls key)) := by
  unfold proveA
  split
  · rename_i h0
    have := rprove_yes ls p n c hl hc hq h0 key w hG hL
    subst hl
    exact this
  · rename_i h0
    refine (rprove_no ls p n c hl h0 key w hL).mono ?_
    rintro e w' ⟨rfl, hB⟩
    exact ⟨_, rfl, noR _ _ _, hB⟩
theorem range_all (ls : List Lf) (p : Option Addr) (n c : Nat) (hl : ls.length = n) (hc : n ≤ c) (hq : n = 0 → p = none ∧ c = 0) (low hik : ByteArray) (w : World) (hG : Glob w) (hL : OwnL w p ls) :
    Calls Tryd.prog 23 #[.slice p n c, .string low, .string hik] w (GivesP w (rangeA ls low hik)) := by
  unfold rangeA
  split
  · rename_i h0
    split
    · rename_i hs
      refine (range_bad ls p n c hl h0 low hik hs w hL).mono ?_
      rintro e w' ⟨rfl, hB⟩
      exact ⟨_, rfl, noP _ _ _, hB⟩
    · rename_i hs
      have := range_yes ls p n c hl hc hq h0 low hik (by simpa using hs) w hG hL
      subst hl
      exact this
  · rename_i h0
    refine (range_no ls p n c hl h0 low hik w hL).mono ?_
    rintro e w' ⟨rfl, hB⟩
    exact ⟨_, rfl, noP _ _ _, hB⟩
theorem rrange_all (ls : List Lf) (p : Option Addr) (n c : Nat) (hl : ls.length = n) (hc : n ≤ c) (hq : n = 0 → p = none ∧ c = 0) (low hik : ByteArray) (w : World) (hG : GlobR w) (hL : OwnL w p ls) :
    Calls Tryd.prog 24 #[.slice p n c, .string low, .string hik] w (GivesR w (rangeA ls low hik)) := by
  unfold rangeA
  split
  · rename_i h0
    split
    · rename_i hs
      refine (rrange_bad ls p n c hl h0 low hik hs w hL).mono ?_
      rintro e w' ⟨rfl, hB⟩
      exact ⟨_, rfl, noR _ _ _, hB⟩
    · rename_i hs
      have := rrange_yes ls p n c hl hc hq h0 low hik (by simpa using hs) w hG hL
      subst hl
      exact this
  · rename_i h0
    refine (rrange_no ls p n c hl h0 low hik w hL).mono ?_
    rintro e w' ⟨rfl, hB⟩
    exact ⟨_, rfl, noR _ _ _, hB⟩
theorem PrfW.keep {w w' : World} {B : Nat} {A : Ans} {v : Value} (h : PrfW w B A v) (hB : Below w.heap.size w w') : PrfW w' B A v := by
  obtain ⟨q, c, sv, e, hL, hc, hb, hz, hO⟩ := h
  exact ⟨q, c, sv, e, hL.keep hB, hc, hb, hz, hO.keep hB⟩
theorem RPrfW.keep {w w' : World} {B : Nat} {A : Ans} {v : Value} (h : RPrfW w B A v) (hB : Below w.heap.size w w') : RPrfW w' B A v := by
  obtain ⟨q, c, sv, e, hL, hc, hO⟩ := h
  refine ⟨q, c, sv, e, fun hne => ?_, hc, hO.keep hB⟩
  obtain ⟨b, off, hq, hb, hL2⟩ := hL hne
  exact ⟨b, off, hq, hb, hL2.keep hB⟩
theorem PrfW.low {w : World} {B : Nat} {A : Ans} {v : Value} (h : PrfW w B A v) : PrfW w 0 A v := PrfV.heap h (fun _ _ => rfl) (Nat.le_refl _) (Nat.zero_le _)
theorem RPrfW.low {w : World} {B : Nat} {A : Ans} {v : Value} (h : RPrfW w B A v) : RPrfW w 0 A v := RPrf.heap h (fun _ _ => rfl) (Nat.le_refl _) (Nat.zero_le _)
theorem PrfW.put {w : World} {B tp : Nat} {A : Ans} {v : Value} (h : PrfW w B A v) (ht : tp < B) (cs : List Value) : PrfW (w.setCells tp 0 cs) 0 A v :=
  PrfV.heap h (fun j hj => heap_sets tp cs w 0 j (by omega)) (Nat.le_of_eq (sets_size tp cs w 0).symm) (Nat.zero_le _)
theorem RPrfW.put {w : World} {B tp : Nat} {A : Ans} {v : Value} (h : RPrfW w B A v) (ht : tp < B) (cs : List Value) : RPrfW (w.setCells tp 0 cs) 0 A v :=
  RPrf.heap h (fun j hj => heap_sets tp cs w 0 j (by omega)) (Nat.le_of_eq (sets_size tp cs w 0).symm) (Nat.zero_le _)
theorem PrfW.four {w : World} {B : Nat} {A : Ans} {v : Value} (h : PrfW w B A v) : ∃ x0 x1 x2 x3 : Value, v = .agg #[x0, x1, x2, x3] ∧ ∀ v ∈ [x0, x1, x2, x3], v.oneCell' = true := by
  obtain ⟨cs, rfl, hl, h1⟩ := PrfV.one h
  match cs, hl, h1 with
  | [a, b, c, d], _, h1 => exact ⟨a, b, c, d, rfl, h1⟩
theorem RPrfW.four {w : World} {B : Nat} {A : Ans} {v : Value} (h : RPrfW w B A v) : ∃ x0 x1 x2 x3 : Value, v = .agg #[x0, x1, x2, x3] ∧ ∀ v ∈ [x0, x1, x2, x3], v.oneCell' = true := by
  obtain ⟨cs, rfl, hl, h1⟩ := RPrf.one h
  match cs, hl, h1 with
  | [a, b, c, d], _, h1 => exact ⟨a, b, c, d, rfl, h1⟩
theorem modelW (A : Ans) (hf : FewA A) (v : Value) (w : World) (h : PrfW w 0 A v) :
    Calls Tryd.prog 26 #[v] w fun e w' => ∃ v', e = .returned v' ∧ RPrfW w' 0 A v' ∧ Below w.heap.size w w' :=
  model_any A.1 A.2.1 A.2.2.1 A.2.2.2.1 v 0 w (Nat.zero_le _) (by have := hf.1; omega) h
theorem sameW (A : Ans) (hf : FewA A) (va vb : Value) (w : World) (h1 : RPrfW w 0 A va) (h2 : RPrfW w 0 A vb) :
    Calls Tryd.prog 25 #[va, vb] w fun e w' => e = .returned (.bool true) ∧ Below w.heap.size w w' :=
  rsame_self A.1 A.2.1 A.2.2.1 A.2.2.2.1 (by have := hf.1; omega) (by have := hf.2.1; omega) hf.2.2 0 0 va vb w h1 h2
/-- A proof in a variable of its own, and the code beside it. -/
def LaidP (w : World) (A : Ans) (s e : Value) (w' : World) : Prop := ∃ tp x0 x1 x2 x3, s = .pointer (some ⟨tp, 0, none⟩) ∧ e = .int .i64 A.2.2.2.2 ∧ Blk w' tp 50 [x0, x1, x2, x3] ∧ PrfW w' 0 A (.agg #[x0, x1, x2, x3]) ∧ Below w.heap.size w w'
def LaidR (w : World) (A : Ans) (s e : Value) (w' : World) : Prop := ∃ tp x0 x1 x2 x3, s = .pointer (some ⟨tp, 0, none⟩) ∧ e = .int .i64 A.2.2.2.2 ∧ Blk w' tp 54 [x0, x1, x2, x3] ∧ RPrfW w' 0 A (.agg #[x0, x1, x2, x3]) ∧ Below w.heap.size w w'
/-- A list of leaves as the law holds it: few, small. -/
def LstOk (w : World) (q : Option Addr) (n c : Nat) (ls : List Lf) : Prop := ls.length = n ∧ n ≤ 11 ∧ n ≤ c ∧ (n = 0 → q = none ∧ c = 0) ∧ Small ls ∧ OwnL w q ls
theorem LstOk.keep {w w' : World} {q : Option Addr} {n c : Nat} {ls : List Lf} (h : LstOk w q n c ls) (hB : Below w.heap.size w w') : LstOk w' q n c ls := ⟨h.1, h.2.1, h.2.2.1, h.2.2.2.1, h.2.2.2.2.1, h.2.2.2.2.2.keep hB⟩
theorem LstOk.of {w : World} {B : Nat} {v : Value} {ls : List Lf} (h : OwnRL w B v ls) (hl : ls.length ≤ 11) (hS : Small ls) (hz : ls = [] → v = .slice none 0 0) : ∃ q n c, v = .slice q n c ∧ LstOk w q n c ls := by
  obtain ⟨⟨q, c, rfl, hc, hL⟩, _, _⟩ := RL_lvs h
  refine ⟨q, ls.length, c, rfl, rfl, hl, hc, fun h0 => ?_, hS, hL⟩
  have e := hz (List.eq_nil_of_length_eq_zero h0)
  injection e with e1 _ e3
  exact ⟨e1, e3⟩
theorem LstOk.nil (w : World) : LstOk w none 0 0 [] := ⟨rfl, by omega, by omega, fun _ => ⟨rfl, rfl⟩, fun x hx => by simp at hx, fun h => absurd rfl h⟩
theorem small_raw (ls : List Lf) : Small (rawM ls) := by
  intro x hx
  obtain ⟨y, _, rfl⟩ := List.mem_map.1 hx
  have h1 := shortM_size y.1 40
  have h2 := shortM_size y.2 40
  exact ⟨by show (shortM y.1 40).size ≤ _; omega, by show (shortM y.2 40).size ≤ _; omega⟩
theorem raw_nil {ls : List Lf} (h : rawM ls = []) : ls = [] := by
  unfold rawM at h
  rcases ls with _ | ⟨x, r⟩
  · rfl
  · simp at h

end Go.Proofs.YtfhfmdnimebegaaDoor

/-
  Slices made with zero values: of leaves and of bytes.
-/
namespace Go.Proofs.YtfhfmdnimebegaaDoor
open Go.RowKit
set_option linter.unusedVariables false
set_option linter.unusedSimpArgs false

theorem equal_self16 (x : List Nat) (hx : Dgt x) (w : World) : (Op.equalIn 10000 29 (.agg (bytesV x).toArray) (.agg (bytesV x).toArray)).run Tryd.prog w = .ok true w := by
  have hsz : ∀ w, (sizeOf 5).run Tryd.prog w = .ok 1 w := fun w => by
    obtain ⟨i0, hi, hz0, hz1, hz2⟩ := info_parts u8info
    simp [sizeOf, typeInfo, hi, hz1]
  rw [← cell_bytes x hx.2]
  rw [run_equalIn_bytes w 9998 29 5 16 Tryd.underlying29 Tryd.underlying5 hsz _ _ (by simp [hx.1]) (by simp [hx.1])]
  congr 1
  simp
/-- The zero leaf. -/
def zlf : Lf := (⟨#[]⟩, ⟨#[]⟩)
/-- The cells of made leaves. -/
def zcells (m : Nat) : Array Value := madeCells zeroLeaf.cells (m * 2)
theorem made_at (n j : Nat) (hj : j < n) : (madeCells zeroLeaf.cells n)[j]? = some (.string ⟨#[]⟩) := by
  have hz : ∀ r, r < 2 → zeroLeaf.cells[r]! = .string ⟨#[]⟩ := by
    intro r hr
    match r, hr with
    | 0, _ => rfl
    | 1, _ => rfl
  have hs : zeroLeaf.cells.size = 2 := rfl
  unfold madeCells
  rw [Array.getElem?_map, Array.getElem?_range, if_pos hj, Option.map_some, hs, hz _ (Nat.mod_lt _ (by omega))]
theorem lvs_made (w : World) (t : TypeId) (n : Nat) : Lvs (w.alloc (.cells (zcells n) t)) w.heap.size 0 (List.replicate n zlf) := by
  have hb := blk_new w t (zcells n)
  refine ⟨hb.lt, fun i x hx => ?_⟩
  have hi : i < n := by
    have := (List.getElem?_eq_some_iff.1 hx).1
    simpa using this
  rw [List.getElem?_replicate, if_pos hi] at hx
  injection hx with hx
  subst hx
  rw [Nat.zero_add, Nat.zero_add]
  constructor
  · refine hb.cell (j := 2 * i) ?_
    rw [Array.getElem?_toList]
    exact made_at _ _ (by omega)
  · refine hb.cell (j := 2 * i + 1) ?_
    rw [Array.getElem?_toList]
    exact made_at _ _ (by omega)
theorem mk_ml (n : Nat) (hn : n ≤ 100000) (w : World) : (Instr.makeSlice 33 (.int .i64 (n : Int)) (.int .i64 (n : Int))).run Tryd.prog w = .ok (.slice (some ⟨w.heap.size, 0, none⟩) n n) (w.alloc (.cells (zcells n) 41)) := by
  obtain ⟨i0, hi, hz0, hz1, hz2⟩ := info_parts MLinfo
  have h := run_make (P := Tryd.prog) w 33 41 i0 zeroLeaf Tryd.underlying33 hi hz0 .i64 .i64 (n : Int) (n : Int) (by omega) (by omega) (by rw [hz2]; omega) (by omega)
  rw [hz1, Int.toNat_natCast] at h
  exact h
theorem mk_rl (n : Nat) (hn : n ≤ 100000) (w : World) : (Instr.makeSlice 24 (.int .i64 (n : Int)) (.int .i64 (n : Int))).run Tryd.prog w = .ok (.slice (some ⟨w.heap.size, 0, none⟩) n n) (w.alloc (.cells (zcells n) 75)) := by
  obtain ⟨i0, hi, hz0, hz1, hz2⟩ := info_parts RLinfo
  have h := run_make (P := Tryd.prog) w 24 75 i0 zeroLeaf Tryd.underlying24 hi hz0 .i64 .i64 (n : Int) (n : Int) (by omega) (by omega) (by rw [hz2]; omega) (by omega)
  rw [hz1, Int.toNat_natCast] at h
  exact h
theorem mk_by (n : Nat) (hn : n ≤ 1000000) (w : World) : (Instr.makeSlice 39 (.int .i64 (n : Int)) (.int .i64 (n : Int))).run Tryd.prog w = .ok (.slice (some ⟨w.heap.size, 0, none⟩) n n) (w.alloc (.cells (bytesV (List.replicate n 0)).toArray 5)) := by
  obtain ⟨i0, hi, hz0, hz1, hz2⟩ := info_parts u8info
  have h := run_make (P := Tryd.prog) w 39 5 i0 (.int .u8 0) Tryd.underlying39 hi hz0 .i64 .i64 (n : Int) (n : Int) (by omega) (by omega) (by rw [hz2]; omega) (by omega)
  rw [hz1, Int.toNat_natCast, Nat.mul_one] at h
  have e : madeCells (Value.int .u8 0).cells n = (bytesV (List.replicate n 0)).toArray := by
    apply Array.toList_inj.1
    rw [show (Value.int IntKind.u8 0).cells = #[.int .u8 0] from rfl, toList_madeCells_one]
    unfold bytesV
    rw [List.map_replicate]
    rfl
  rw [h, e]
theorem conv_zero (n : Nat) (w : World) (t : TypeId) : (convert 39 9 (.slice (some ⟨w.heap.size, 0, none⟩) n n)).run Tryd.prog (w.alloc (.cells (bytesV (List.replicate n 0)).toArray t)) = .ok (.string (strOf (List.replicate n 0))) (w.alloc (.cells (bytesV (List.replicate n 0)).toArray t)) := by
  have hb := blk_new w t (bytesV (List.replicate n 0)).toArray
  have h := conv_cells (w.alloc (.cells (bytesV (List.replicate n 0)).toArray t)) ⟨w.heap.size, 0, none⟩ n (List.replicate n 0) (fun d hd => by rw [List.eq_of_mem_replicate hd]; omega) (fun j u hj => by rw [Addr.add_mid, Nat.zero_add]; exact hb.cell hj)
  rwa [List.length_replicate] at h
/-- What Root answers for all leaves. -/
def rootA (ls : List Lf) : List Nat × Int := if validM ls = 0 then (rootL ls, 0) else (z16, validM ls)
theorem rootA_dgt (ls : List Lf) : Dgt (rootA ls).1 := by
  unfold rootA
  split
  · exact rootL_dgt _
  · exact ⟨by show z16.length = 16; decide +kernel, by show ∀ y ∈ z16, y < 256; decide +kernel⟩
theorem root_all (ls : List Lf) (p : Option Addr) (n c : Nat) (hl : ls.length = n) (hc : n ≤ c) (w : World) (hG : Glob w) (hL : OwnL w p ls) :
    Calls Tryd.prog 11 #[.slice p n c] w fun e w' => e = .returned (.tuple #[.agg (bytesV (rootA ls).1).toArray, .int .i64 (rootA ls).2]) ∧ Below w.heap.size w w' := by
  unfold rootA
  split
  · rename_i h0; exact root_yes ls p n c hl hc h0 w hG hL
  · rename_i h0; exact root_no ls p n c hl h0 w hL
theorem rroot_all (ls : List Lf) (p : Option Addr) (n c : Nat) (hl : ls.length = n) (w : World) (hR : GlobR w) (hL : OwnL w p ls) :
    Calls Tryd.prog 13 #[.slice p n c] w fun e w' => e = .returned (.tuple #[.agg (bytesV (rootA ls).1).toArray, .int .i64 (rootA ls).2]) ∧ Below w.heap.size w w' := by
  unfold rootA
  split
  · rename_i h0; exact rroot_yes ls p n c hl h0 w hR hL
  · rename_i h0; exact rroot_no ls p n c hl h0 w hL
/-- Two leaves, the first with a long value. -/
def wideL (S : ByteArray) : List Lf := [(⟨#[97]⟩, S), (⟨#[98]⟩, ⟨#[]⟩)]
theorem lvs_wide (w : World) (t : TypeId) (S : ByteArray) : Lvs (w.alloc (.cells #[.string ⟨#[97]⟩, .string S, .string ⟨#[98]⟩, .string ⟨#[]⟩] t)) w.heap.size 0 (wideL S) := by
  have hb := blk_new w t #[.string ⟨#[97]⟩, .string S, .string ⟨#[98]⟩, .string ⟨#[]⟩]
  refine ⟨hb.lt, fun i x hx => ?_⟩
  match i, hx with
  | 0, hx => injection hx with hx; subst hx; exact ⟨hb.cell (j := 0) rfl, hb.cell (j := 1) rfl⟩
  | 1, hx => injection hx with hx; subst hx; exact ⟨hb.cell (j := 2) rfl, hb.cell (j := 3) rfl⟩

end Go.Proofs.YtfhfmdnimebegaaDoor
