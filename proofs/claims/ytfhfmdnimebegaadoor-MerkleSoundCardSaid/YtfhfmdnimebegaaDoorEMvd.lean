/-
  The reference's Collide: false means that no two different texts of the two roots have the same digest.
  Conditions: the tables of the packages hash and passimref02 lie as the program lays them when the call begins (the card ties them to the text); no other.
-/
import Derived.Test.YtfhfmdnimebegaaDoorEw
import Derived.Test.YtfhfmdnimebegaaDoorEMvb
import Derived.Deep.CutRange

namespace Go.Proofs.YtfhfmdnimebegaaDoor
open Go.RowKit
set_option linter.unusedVariables false
set_option linter.unusedSimpArgs false

theorem shT_dgt (t : ByteArray) : Dgt (shT t) := ⟨by unfold shT; rw [List.length_take, sha_length]; rfl, fun y hy => sha_byte _ y (List.mem_of_mem_take hy)⟩
/-- The texts of a proof, if its tree is built. -/
def proofX (F S : Int) (lf : List Lf) (sd : List (List Nat)) : List ByteArray := if 0 ≤ S ∧ S ≤ 4096 ∧ 0 ≤ F ∧ F ≤ S ∧ (lf.length : Int) ≤ S - F then rootX lf F.toNat sd S.toNat else []

theorem dg_range {V : World} {M g n cap : Nat} {L : List (List Nat)} (h : V.ownsRow M 29 16 (.slice (some ⟨g, 0, none⟩) n cap) n (bytesV L.flatten)) (hd : Dgts L) (k : Nat) {D : List Nat} (hD : L[k]? = some D) : V.rangeAt g (k * 16) (bytesV D) := by
  intro j v hj
  have hdd := hd D (List.mem_of_getElem? hD)
  have hj16 : j < 16 := by
    have := (List.getElem?_eq_some_iff.1 hj).1
    rw [bytesV_length, hdd.1] at this
    exact this
  obtain ⟨x, hx1, hx2⟩ := (flat_set L hd k j 0 D hD hj16).2
  have e : (bytesV D)[j]? = some (.int .u8 (x : Int)) := by
    unfold bytesV
    rw [List.getElem?_map, hx1]
    rfl
  rw [e] at hj
  injection hj with hj
  subst hj
  exact row_cell h _ _ hx2
/-- What the outer loop has found so far. -/
def CRel (V : World) (Z : List ByteArray) (n0 : Nat) (d v : Value) (wr : World) : Prop := ∃ i : Nat, i ≤ n0 ∧ v = .int .i64 i ∧ OwnD wr V.heap.size d ((Z.take i).map shT) ∧ NoColl (Z.take i) ∧ Below V.heap.size V wr
def IRel (Z : List ByteArray) (xi : ByteArray) (i : Nat) (w4 : World) (v : Value) (wx : World) : Prop := ∃ k : Nat, k ≤ i ∧ v = .int .i64 k ∧ (∀ k' y, k' < k → Z[k']? = some y → shT xi = shT y → xi = y) ∧ Below w4.heap.size w4 wx
theorem take_snocB {Z : List ByteArray} {i : Nat} {x : ByteArray} (hx : Z[i]? = some x) : Z.take (i + 1) = Z.take i ++ [x] := by
  rw [List.take_add_one, hx]
  rfl
theorem nocoll_snoc {Z : List ByteArray} {i : Nat} {x : ByteArray} (h : NoColl (Z.take i)) (hx : Z[i]? = some x) (hf : ∀ k' y, k' < i → Z[k']? = some y → shT x = shT y → x = y) : NoColl (Z.take (i + 1)) := by
  rw [take_snocB hx]
  have old : ∀ v ∈ Z.take i, shT x = shT v → x = v := fun v hv he => by
    obtain ⟨k', hk'⟩ := List.mem_iff_getElem?.1 hv
    rw [List.getElem?_take] at hk'
    split at hk'
    · rename_i hlt
      exact hf k' v hlt hk' he
    · cases hk'
  intro u hu v hv he
  rcases List.mem_append.1 hu with hu | hu <;> rcases List.mem_append.1 hv with hv | hv
  · exact h u hu v hv he
  · rw [List.mem_singleton.1 hv] at he ⊢
    exact (old u hu he.symm).symm
  · rw [List.mem_singleton.1 hu] at he ⊢
    exact old v hv he
  · rw [List.mem_singleton.1 hu, List.mem_singleton.1 hv]

set_option maxHeartbeats 16000000 in
set_option maxRecDepth 100000 in
theorem collide_any (l : List Lf) (q0 : Option Addr) (n c0' : Nat) (hl : l.length = n) (hn : n ≤ 4096) (hSl : Small l) (F S : Int) (lf : List Lf) (sd : List (List Nat)) (hSm : Small lf) (hd : Dgts sd) (q : Option Addr) (m c : Nat) (hm : lf.length = m) (hm6 : m ≤ 1000000) (sa : Option Addr) (k0 sc : Nat) (hk6 : k0 ≤ 1000000) (w : World) (hG : GlobR w) (hL0 : OwnL w q0 l) (hL : OwnL w q lf) (hS : SdV w w.heap.size (.slice sa k0 sc) sd) :
    Calls Tryd.prog 36 #[.slice q0 n c0', .agg #[.int .i64 F, .int .i64 S, .slice q m c, .slice sa k0 sc]] w
      fun e w' => ∃ b : Bool, e = .returned (.bool b) ∧ (b = false → NoColl (rootX l 0 [] n ++ proofX F S lf sd)) ∧ Below w.heap.size w w' := by
  have HR1 := Lib.hid (fun (V : World) (tb : Nat) (hB : Below w.heap.size w V) (htw : w.heap.size ≤ tb) (hT : Blk V tb 90 [.slice none 0 0, .slice none 0 0, .int .i64 0, .bool false]) =>
    troot_any tb l 0 n hn [] (fun d h => by cases h) q0 n c0' hl hSl (by omega) none 0 0 (by omega) V hT (fun w' h => hG.keep (h.lower hB htw hB.size)) (hL0.keep hB) (fun hne b off i e => by obtain ⟨b', off', e', hL2⟩ := hL0 hne; rw [e] at e'; injection e' with e'; injection e' with e1 _ _; have := hL2.1; omega) w.heap.size htw hB.size ⟨none, 0, rfl, Nat.le_refl _, fun h => absurd rfl h⟩)
  obtain ⟨YY, hYY⟩ : ∃ Y, proofX F S lf sd = Y := ⟨_, rfl⟩
  go_enter Tryd.func36, Tryd.ntmps36
  go_upto_region 1 with (fail)
  generalize hw1 : World.alloc _ _ = W0
  have Kp : Blk W0 w.heap.size 54 [.int .i64 F, .int .i64 S, .slice q m c, .slice sa k0 sc] := hw1 ▸ blk_new w _ _
  have KW : Below w.heap.size w W0 := hw1 ▸ ((Below.refl _ _).alloc (Nat.le_refl _) _)
  clear hw1
  go_upto_region 2 with (fail)
  generalize hw2 : World.alloc _ _ = V2
  have KA0 : Blk V2 W0.heap.size 90 [.slice none 0 0, .slice none 0 0, .int .i64 0, .bool false] := hw2 ▸ blk_new W0 _ _
  have XA : Below W0.heap.size W0 V2 := hw2 ▸ ((Below.refl _ _).alloc (Nat.le_refl _) _)
  clear hw2
  have B2 := link KW XA
  have Kp2 := Kp.keep XA
  have hta : w.heap.size < W0.heap.size := Kp.lt
  generalize W0.heap.size = ta at KA0 hta ⊢
  clear XA KW Kp
  go_upto_region 3 with (go_at_call 43; refine (HR1.out V2 ta B2 (Nat.le_of_lt hta) KA0).mono ?_; rintro e V3 ⟨⟨v, rfl⟩, hS3, u1, sh1, hT3⟩)
  have B3 : Below w.heap.size w V3 := hS3.lower B2 (Nat.le_of_lt hta) B2.size
  have Kp3 := hS3.blk _ _ _ (by omega) (by decide) Kp2
  have c4 := Kp3.cell (j := 3) rfl
  go_upto_region 4 with (fail)
  clear c4
  generalize hw4 : World.alloc _ _ = V4
  have KB0 : Blk V4 V3.heap.size 90 [.slice none 0 0, .slice sa k0 sc, .int .i64 0, .bool false] := hw4 ▸ blk_new V3 _ _
  have XB : Below V3.heap.size V3 V4 := hw4 ▸ ((Below.refl _ _).alloc (Nat.le_refl _) _)
  clear hw4
  have B4 := link B3 XB
  have Kp4 := Kp3.keep XB
  have hT4 := hT3.keep XB
  have htb : ta < V3.heap.size := by obtain ⟨tv, h1, _⟩ := hT3; exact h1.lt
  generalize V3.heap.size = tb at KB0 htb ⊢
  clear XB B3 Kp3 hT3 hS3 KA0 B2 Kp2 HR1
  have c0 := Kp4.cell (j := 0) rfl
  have c1 := Kp4.cell (j := 1) rfl
  have c2 := Kp4.cell (j := 2) rfl
  have keyC : S < 0 ∨ (0 ≤ S ∧ 4096 < S) ∨ (0 ≤ S ∧ S ≤ 4096 ∧ F < 0) ∨ (0 ≤ S ∧ S ≤ 4096 ∧ 0 ≤ F ∧ S < F) ∨ (0 ≤ S ∧ S ≤ 4096 ∧ 0 ≤ F ∧ F ≤ S ∧ ¬ (m : Int) ≤ S - F) ∨ (0 ≤ S ∧ S ≤ 4096 ∧ 0 ≤ F ∧ F ≤ S ∧ (m : Int) ≤ S - F) := by omega
  go_cut [52] from 22 (fun s52 wx => s52 = .bool (decide (0 ≤ S ∧ S ≤ 4096 ∧ 0 ≤ F ∧ F ≤ S ∧ (m : Int) ≤ S - F)) ∧ wx = V4)
  case first =>
    rcases keyC with h1 | ⟨h1, h2⟩ | ⟨h1, h2, h3⟩ | ⟨h1, h2, h3, h4⟩ | ⟨h1, h2, h3, h4, h5⟩ | ⟨h1, h2, h3, h4, h5⟩
    · have HD := Lib.hid (show decide (0 ≤ S ∧ S ≤ 4096 ∧ 0 ≤ F ∧ F ≤ S ∧ (m : Int) ≤ S - F) = false from decide_eq_false (by omega))
      go_wp2_with fail
      go_meet
      exact ⟨by rw [HD.out], rfl⟩
    · have HD := Lib.hid (show decide (0 ≤ S ∧ S ≤ 4096 ∧ 0 ≤ F ∧ F ≤ S ∧ (m : Int) ≤ S - F) = false from decide_eq_false (by omega))
      go_wp2_with fail
      go_meet
      exact ⟨by rw [HD.out], rfl⟩
    · have HD := Lib.hid (show decide (0 ≤ S ∧ S ≤ 4096 ∧ 0 ≤ F ∧ F ≤ S ∧ (m : Int) ≤ S - F) = false from decide_eq_false (by omega))
      go_wp2_with fail
      go_meet
      exact ⟨by rw [HD.out], rfl⟩
    · have HD := Lib.hid (show decide (0 ≤ S ∧ S ≤ 4096 ∧ 0 ≤ F ∧ F ≤ S ∧ (m : Int) ≤ S - F) = false from decide_eq_false (by omega))
      go_wp2_with fail
      go_meet
      exact ⟨by rw [HD.out], rfl⟩
    · have HD := Lib.hid (show decide (0 ≤ S ∧ S ≤ 4096 ∧ 0 ≤ F ∧ F ≤ S ∧ (m : Int) ≤ S - F) = false from decide_eq_false (by omega))
      go_wp2_with fail
      go_meet
      exact ⟨by rw [HD.out], rfl⟩
    · have HD := Lib.hid (show decide (0 ≤ S ∧ S ≤ 4096 ∧ 0 ≤ F ∧ F ≤ S ∧ (m : Int) ≤ S - F) = true from decide_eq_true ⟨h1, h2, h3, h4, h5⟩)
      go_wp2_with fail
      go_meet
      exact ⟨by rw [HD.out], rfl⟩
  case rest =>
    obtain ⟨hs52, hw52⟩ := hcut
    subst hs52
    rw [hw52]
    clear hw52 c0 c1 c2
    have c0 := Kp4.cell (j := 0) rfl
    have c1 := Kp4.cell (j := 1) rfl
    have c2 := Kp4.cell (j := 2) rfl
    go_upto_if 52 with (fail)
    go_cut [] from 52 (fun wx => Below w.heap.size w wx ∧ (∃ (u : Int) (sh : Bool) (M : Nat), TW wx ta M (rootX l 0 [] n) (.slice none 0 0) u sh) ∧ ∃ (sv : Value) (u : Int) (sh : Bool) (M : Nat), TW wx tb M YY sv u sh)
    case first =>
      by_cases hok : 0 ≤ S ∧ S ≤ 4096 ∧ 0 ≤ F ∧ F ≤ S ∧ (m : Int) ≤ S - F
      · rw [decide_eq_true hok]
        have hYo := hYY
        unfold proofX at hYo
        rw [if_pos (by rw [hm]; exact hok)] at hYo
        obtain ⟨g1, g2, g3, g4, g5⟩ := hok
        clear keyC hYY
        obtain ⟨F1, rfl⟩ : ∃ a : Nat, F = (a : Int) := ⟨F.toNat, by omega⟩
        obtain ⟨S1, rfl⟩ : ∃ a : Nat, S = (a : Int) := ⟨S.toNat, by omega⟩
        rw [Int.toNat_natCast, Int.toNat_natCast] at hYo
        have hBw := B4.size
        have HR2 := Lib.hid (troot_any tb lf F1 S1 (by omega) sd hd q m c hm hSm (by omega) sa k0 sc hk6 V4 KB0 (fun w' h => hG.keep (h.lower B4 (by omega) hBw)) (hL.keep B4) (fun hne b off i e => by obtain ⟨b', off', e', hL2⟩ := hL hne; rw [e] at e'; injection e' with e'; injection e' with e1 _ _; have := hL2.1; omega) w.heap.size (by omega) hBw (hS.keep B4))
        rw [hYo] at HR2
        go_wp2_with (go_at_call 43; refine HR2.out.mono ?_; rintro e V5 ⟨⟨v2, rfl⟩, hS5, u2, sh2, hT5⟩)
        go_meet
        exact ⟨hS5.lower B4 (by omega) hBw, ⟨u1, sh1, _, hT4.stays hS5 (by omega) KB0⟩, _, u2, sh2, _, hT5⟩
      · rw [decide_eq_false hok]
        obtain rfl : YY = [] := by rw [← hYY]; unfold proofX; rw [if_neg (by rw [hm]; exact hok)]
        go_wp2_with fail
        go_meet
        exact ⟨B4, ⟨u1, sh1, _, hT4⟩, _, 0, false, 0, _, KB0, World.ownsRow_nil _ _ _ _⟩
    case rest =>
      obtain ⟨B5, ⟨uA, shA, MA, va, KA, OA⟩, svB, uB, shB, MB, vb, KB, OB⟩ := hcut
      obtain ⟨Vq, rfl⟩ : ∃ V : World, V = wc := ⟨_, rfl⟩
      have hXl : (rootX l 0 [] n).length ≤ 9000 := rootX_len l 0 [] n hn
      have hXp : 0 < (rootX l 0 [] n).length := by unfold rootX; split <;> simp
      have hXs := rootX_sz l hSl 0 [] (fun d h => by cases h) n hn
      have hYp : YY.length ≤ 9000 ∧ ∀ t ∈ YY, t.size ≤ 3000000 := by
        rw [← hYY]
        unfold proofX
        split
        · rename_i h
          exact ⟨rootX_len lf _ sd _ (by omega), rootX_sz lf hSm _ sd hd _ (by omega)⟩
        · exact ⟨Nat.zero_le _, fun t h => by cases h⟩
      generalize hXe : rootX l 0 [] n = X at OA hXl hXp hXs
      unfold OwnS at OA OB
      clear c0 c1 c2 hT4 KB0 B4 Kp4 hL hS hL0
      go_upto_region 6 with (fail)
      refine wp_region_held_drew (S := fun w' => Below Vq.heap.size Vq w') (by kernel_rfl) (below_drew (Below.refl _ _)) (fun _ => ?_)
      have hHeld : Below Vq.heap.size Vq Vq.drew := below_drew (Below.refl _ _)
      have CA : ∀ w', Below Vq.heap.size Vq w' → w'.cell? ⟨ta, 0, none⟩ = some va := fun w' h => (h.cell KA.lt).trans (KA.cell (j := 0) rfl)
      have CB : ∀ w', Below Vq.heap.size Vq w' → w'.cell? ⟨tb, 0, none⟩ = some vb := fun w' h => (h.cell KB.lt).trans (KB.cell (j := 0) rfl)
      generalize Vq.drew = Vr at hHeld ⊢
      refine wt (i := 1) (oi := ⟨some 62, .move (.tmp 5), 88, "ref.go:277", #[], none⟩) (v := .pointer (some ⟨ta, 0, none⟩)) (Or.inl ⟨by rfl, fun w' hSw => by go_simp⟩) hHeld ?_
      try simp only [zP, zQ, zS, zZ, zC]
      refine wt (i := 2) (oi := ⟨some 63, .nilCheck (.tmp 62), 0, "ref.go:277", #[⟨1, .data⟩], none⟩) (v := .pointer (some ⟨ta, 0, none⟩)) (Or.inl ⟨by rfl, fun w' hSw => by go_simp⟩) hHeld ?_
      try simp only [zP, zQ, zS, zZ, zC]
      refine wt (i := 3) (oi := ⟨some 64, .fieldAddr 90 (.tmp 63) 0, 0, "ref.go:277", #[⟨2, .data⟩], none⟩) (v := .pointer (some ⟨ta, 0, none⟩)) (Or.inl ⟨by rfl, fun w' hSw => by go_simp⟩) hHeld ?_
      try simp only [zP, zQ, zS, zZ, zC]
      refine wt (i := 4) (oi := ⟨some 65, .load 47 (.tmp 64), 47, "ref.go:277", #[⟨3, .data⟩], none⟩) (v := va) (Or.inl ⟨by rfl, fun w' hSw => by have hc := CA w' hSw; go_simp⟩) hHeld ?_
      try simp only [zP, zQ, zS, zZ, zC]
      refine wt (i := 6) (oi := ⟨some 67, .move (.tmp 6), 88, "ref.go:277", #[], none⟩) (v := .pointer (some ⟨tb, 0, none⟩)) (Or.inl ⟨by rfl, fun w' hSw => by go_simp⟩) hHeld ?_
      try simp only [zP, zQ, zS, zZ, zC]
      refine wt (i := 7) (oi := ⟨some 68, .nilCheck (.tmp 67), 0, "ref.go:277", #[⟨6, .data⟩], none⟩) (v := .pointer (some ⟨tb, 0, none⟩)) (Or.inl ⟨by rfl, fun w' hSw => by go_simp⟩) hHeld ?_
      try simp only [zP, zQ, zS, zZ, zC]
      refine wt (i := 8) (oi := ⟨some 69, .fieldAddr 90 (.tmp 68) 0, 0, "ref.go:277", #[⟨7, .data⟩], none⟩) (v := .pointer (some ⟨tb, 0, none⟩)) (Or.inl ⟨by rfl, fun w' hSw => by go_simp⟩) hHeld ?_
      try simp only [zP, zQ, zS, zZ, zC]
      refine wt (i := 9) (oi := ⟨some 70, .load 47 (.tmp 69), 47, "ref.go:277", #[⟨8, .data⟩], none⟩) (v := vb) (Or.inl ⟨by rfl, fun w' hSw => by have hc := CB w' hSw; go_simp⟩) hHeld ?_
      try simp only [zP, zQ, zS, zZ, zC]
      refine wpAnyH_ready (rs := [0]) (by kernel_rfl) (by simp) ?_
      refine AllReadyH.cons (o := ⟨some 61, .buildSlice 47 0 #[], 47, "ref.go:277", #[], none⟩) rfl (fun K hK => ?_) AllReadyH.nil
      rw [if_pos (by rfl)]
      go_simp
      have X0 : Below Vr.heap.size Vr (World.alloc Vr (.cells #[] 9)) := (Below.refl _ _).alloc (Nat.le_refl _) _
      have O0 : (World.alloc Vr (.cells #[] 9)).ownsRow Vq.heap.size 9 1 (.slice (some ⟨Vr.heap.size, 0, none⟩) 0 0) ([] : List ByteArray).length (strsV []) := World.ownsRow_made Vr #[] 0 hHeld.size (Nat.zero_le _) rfl
      refine hK.out _ _ (link hHeld X0) (fun hHeld => ?_)
      clear hK K
      try simp only [zP, zQ, zS, zZ, zC]
      generalize World.alloc Vr _ = Vs at O0 X0 hHeld ⊢
      generalize Vr.heap.size = ge at O0 ⊢
      refine wpAnyH_ready (rs := [5]) (by kernel_rfl) (by simp) ?_
      refine AllReadyH.cons (o := ⟨some 66, .call { callee := .builtin .append, args := #[.tmp 61, .tmp 65], argTypes := #[47, 47] }, 47, "ref.go:277", #[⟨0, .data⟩, ⟨4, .data⟩], none⟩) rfl (fun K hK => ?_) AllReadyH.nil
      rw [if_pos (by rfl)]
      refine app_strs (w := Vs) (.tmp 61) (.tmp 65) rfl Vq.heap.size MA _ va [] X rfl O0 rfl (row_keep OA hHeld) (by simp; omega) hHeld.size ?_
      intro v7 Vt O7 hB7
      refine hK.out _ _ (hHeld.trans hB7) (fun hHeld => ?_)
      clear hK K
      try simp only [zP, zQ, zS, zZ, zC]
      refine wpAnyH_ready (rs := [10]) (by kernel_rfl) (by simp) ?_
      refine AllReadyH.cons (o := ⟨some 71, .call { callee := .builtin .append, args := #[.tmp 66, .tmp 70], argTypes := #[47, 47] }, 47, "ref.go:277", #[⟨5, .data⟩, ⟨9, .data⟩, ⟨5, .chain⟩], none⟩) rfl (fun K hK => ?_) AllReadyH.nil
      rw [if_pos (by rfl)]
      refine app_strs (w := Vt) (.tmp 66) (.tmp 70) rfl Vq.heap.size MB v7 vb _ YY rfl O7 rfl (row_keep OB hHeld) (by simp; omega) hHeld.size ?_
      intro v8 Vu O8 hB8
      refine hK.out _ _ (hHeld.trans hB8) (fun hHeld => ?_)
      clear hK K
      try simp only [zP, zQ, zS, zZ, zC]
      refine wpAnyH_ready (rs := [11]) (by kernel_rfl) (by simp) ?_
      refine AllReadyH.cons (o := ⟨some 7, .assign (.tmp 71), 47, "ref.go:277", #[⟨10, .data⟩, ⟨10, .chain⟩, ⟨0, .phase⟩, ⟨1, .phase⟩, ⟨2, .phase⟩, ⟨3, .phase⟩, ⟨4, .phase⟩, ⟨5, .phase⟩, ⟨6, .phase⟩, ⟨7, .phase⟩, ⟨8, .phase⟩, ⟨9, .phase⟩, ⟨10, .phase⟩], none⟩) rfl (fun K hK => ?_) AllReadyH.nil
      go_simp
      refine hK.out _ _ (hHeld) (fun hHeld => ?_)
      clear hK K
      try simp only [zP, zQ, zS, zZ, zC]
      refine wpAnyH_done (by kernel_rfl) ?_ _
      rw [List.nil_append] at O8
      have B8 := B5.trans (hHeld.mono B5.size)
      have HZs : Hid (∀ t ∈ X ++ YY, t.size ≤ 3000000) := Lib.hid (fun t ht => by rcases List.mem_append.1 ht with h | h; exact hXs t h; exact hYp.2 t h)
      have hZp : 0 < (X ++ YY).length := by rw [List.length_append]; omega
      have hZl : (X ++ YY).length ≤ 18000 := by rw [List.length_append]; omega
      generalize hZ : X ++ YY = Z at O8 HZs hZp hZl ⊢
      obtain ⟨n0, hn0⟩ : ∃ m, Z.length = m := ⟨_, rfl⟩
      rw [hn0] at O8 hZp hZl
      have HZ0 : Hid (rootX l 0 [] n ++ proofX F S lf sd = Z) := Lib.hid (by rw [hYY, hXe]; exact hZ)
      clear hYY hXe hZ
      obtain ⟨px, cx, rfl⟩ := row_form O8
      obtain ⟨gx, rfl, _, hgx, hncx, _⟩ := row_some O8 hZp
      have HC : Hid (∀ i x, Z[i]? = some x → Vu.cell? ⟨gx, i, none⟩ = some (.string x)) := Lib.hid (fun i x hx => row_cell O8 i _ (by unfold strsV; rw [List.getElem?_map, hx]; rfl))
      have HN := Lib.hid hn0
      have GU := hG.keep B8
      clear hHeld O0 O7 hB7 hB8 O8 OA OB KA KB B5 CA CB hXl hXp hXs hYp hn0 X0 hG
      go_wp2
      go_loopw [8, 9] (fun d v wr => CRel Vu Z n0 d v wr) (fun _ v _ => n0 - (intOf v).toNat)
      case atStart => exact ⟨0, by omega, rfl, World.ownsRow_nil _ _ _ _, (fun u hu => by simp at hu), Below.refl _ _⟩
      case round =>
        obtain ⟨i, hi, rfl, hO, hNC, hB⟩ := hrel
        by_cases hlt : i < n0
        · obtain ⟨xi, hxi⟩ : ∃ x, Z[i]? = some x := ⟨_, List.getElem?_eq_getElem (by rw [HN.out]; exact hlt)⟩
          have hci := HC.out i xi hxi
          have hcr := (hB.cell (p := ⟨gx, i, none⟩) hgx).trans hci
          have hszx := HZs.out xi (List.mem_of_getElem? hxi)
          have hin : (i : Int) < (n0 : Int) := by omega
          obtain ⟨cap, w2, hcv, hB2, hH2⟩ := to_bytes_has xi wr
          have C2 := link hB hB2
          obtain ⟨Dx, hDx⟩ : ∃ D, shT xi = D := ⟨_, rfl⟩
          have hDd : Dgt Dx := hDx ▸ shT_dgt xi
          have HSh : Hid (Calls Tryd.prog 54 #[.slice (some ⟨wr.heap.size, 0, none⟩) xi.size cap] w2 fun e w' => e = .returned (.agg (bytesV Dx).toArray) ∧ Below w2.heap.size w2 w') := Lib.hid (by rw [← hDx]; exact short_any (some ⟨wr.heap.size, 0, none⟩) (sb xi) xi.size cap w2 (sb_length xi).symm (by rw [sb_length]; omega) hH2 (GU.keep C2))
          have hfd := fold_dig Dx hDd.1
          have hvx : (bytesV Dx).length = 16 := by rw [bytesV_length]; exact hDd.1
          have HT := Lib.hid (show (Z.take (i + 1)).map shT = (Z.take i).map shT ++ [Dx] from by rw [take_snocB hxi, List.map_append, ← hDx]; rfl)
          have HDx := Lib.hid hDx
          clear hDx
          have hlb : ((Z.take i).map shT).length ≤ 1000000000 := by rw [List.length_map, List.length_take, HN.out]; omega
          have HXi := Lib.hid hxi
          have HNC := Lib.hid hNC
          clear hxi hNC
          have hO2 := hO.keep hB2
          clear hO hH2
          go_upto_region 12 with (first
            | (go_at_call 54; refine HSh.out.mono ?_; rintro e w3 ⟨rfl, hB3⟩; have hO3 := hO2.keep hB3)
            | (at_builtin; refine push_dig (w := w3) (B := Vu.heap.size) rfl (.tmp 78) (.tmp 85) rfl ((Z.take i).map shT) Dx hDd.1 _ rfl hO3 (link C2 hB3).size 1 rfl hlb ?_; intro d2 w4 hO4 hg4))
          have C3 := link C2 hB3
          have C4 : Below Vu.heap.size Vu w4 := (C3.alloc C3.size _).grown hg4 (by have := C3.size; simp; omega) (fun j hj => (World.ownsRow.lt hO3 j hj).1)
          rw [← HT.out] at hO4
          unfold OwnD at hO4
          have hln2 : ((Z.take (i + 1)).map shT).length = i + 1 := by rw [List.length_map, List.length_take, HN.out]; omega
          rw [hln2] at hO4
          obtain ⟨pd, cd, rfl⟩ := row_form hO4
          obtain ⟨gd, rfl, _, hgd4, hncd, _⟩ := row_some hO4 (Nat.succ_pos _)
          have HR : Hid (∀ k x, k ≤ i → Z[k]? = some x → w4.rangeAt gd (k * 16) (bytesV (shT x))) := Lib.hid (fun k x hk hx => dg_range hO4 (fun d hd => by obtain ⟨t, _, rfl⟩ := List.mem_map.1 hd; exact shT_dgt t) k (by rw [List.getElem?_map, List.getElem?_take, if_pos (by omega), hx]; rfl))
          have HO4 := Lib.hid hO4
          obtain ⟨wo, rfl⟩ : ∃ wo : World, wo = wr := ⟨_, rfl⟩
          clear hO2 hO3 hO4 hg4 hB2 hB3 hcv HSh hfd C2 C3 hcr hlb hln2 HT
          go_wp2
          go_loopw [10] (fun v wx => IRel Z xi i w4 v wx) (fun v _ => i - (intOf v).toNat)
          case atStart => exact ⟨0, by omega, rfl, fun k' y h => absurd h (by omega), Below.refl _ _⟩
          case round =>
            obtain ⟨k, hk, rfl, hfine, hX⟩ := hrel
            by_cases hkl : k < i
            · obtain ⟨xk, hxk⟩ : ∃ x, Z[k]? = some x := ⟨_, List.getElem?_eq_getElem (by rw [HN.out]; omega)⟩
              have hck := HC.out k xk hxk
              have hki : (k : Int) < (i : Int) := by omega
              have hkn : (k : Int) < (n0 : Int) := by omega
              have hki1 : (k : Int) < (i : Int) + 1 := by omega
              have hBx := link C4 hX
              have hgd : gd < wr.heap.size := Nat.lt_of_lt_of_le hgd4 hX.size
              obtain ⟨Dk, hDk⟩ : ∃ D, shT xk = D := ⟨_, rfl⟩
              have hDkd : Dgt Dk := hDk ▸ shT_dgt xk
              have hri : wr.rangeAt gd (i * 16) (bytesV Dx) := HDx.out ▸ range_keep (HR.out i xi (Nat.le_refl _) HXi.out) hgd4 hX
              have hrk : wr.rangeAt gd (k * 16) (bytesV Dk) := hDk ▸ range_keep (HR.out k xk (by omega) hxk) hgd4 hX
              have hsi := size_dgR Dx hDd.1
              have hsk := size_dgR Dk hDkd.1
              have hfine2 : (xi = xk ∨ Dx ≠ Dk) → ∀ k' y, k' < k + 1 → Z[k']? = some y → shT xi = shT y → xi = y := fun hor k' y h hy he => by
                rcases Nat.lt_or_ge k' k with h1 | h1
                · exact hfine k' y h1 hy he
                · obtain rfl : k' = k := by omega
                  rw [hxk] at hy
                  injection hy with hy
                  subst hy
                  rcases hor with h2 | h2
                  · exact h2
                  · exact absurd (by rw [← HDx.out, ← hDk]; exact he) h2
              have HF := Lib.hid hfine2
              clear hfine2 hfine hxk hDk
              go_upto_region 15 with (fail)
              by_cases hs : xi = xk
              · have hne : (xi.toList != xk.toList) = false := by rw [hs]; simp
                refine wp_region_held_drew (S := fun w' => Below wr.heap.size wr w') (by kernel_rfl) (below_drew (Below.refl _ _)) (fun _ => ?_)
                have hHeld : Below wr.heap.size wr wr.drew := below_drew (Below.refl _ _)
                have CI : ∀ w', Below wr.heap.size wr w' → w'.cell? ⟨gx, i, none⟩ = some (.string xi) := fun w' h => (link hBx h).cell (p := ⟨gx, i, none⟩) hgx |>.trans hci
                have CK : ∀ w', Below wr.heap.size wr w' → w'.cell? ⟨gx, k, none⟩ = some (.string xk) := fun w' h => (link hBx h).cell (p := ⟨gx, k, none⟩) hgx |>.trans hck
                generalize wr.drew = Va at hHeld ⊢
                refine wt (i := 0) (oi := ⟨some 92, .move (.tmp 7), 47, "ref.go:282", #[], none⟩) (v := .slice (some ⟨gx, 0, none⟩) n0 cx) (Or.inl ⟨by rfl, fun w' hSw => by go_simp⟩) hHeld ?_
                try simp only [zP, zQ, zS, zZ, zC]
                refine wt (i := 1) (oi := ⟨some 93, .move (.tmp 9), 3, "ref.go:282", #[], none⟩) (v := .int .i64 (i : Int)) (Or.inl ⟨by rfl, fun w' hSw => by go_simp⟩) hHeld ?_
                try simp only [zP, zQ, zS, zZ, zC]
                refine wt (i := 2) (oi := ⟨some 94, .indexAddr 47 (.tmp 92) (.tmp 93), 0, "ref.go:282", #[⟨0, .data⟩, ⟨1, .data⟩], none⟩) (v := .pointer (some ⟨gx, i, none⟩)) (Or.inl ⟨by rfl, fun w' hSw => by go_simp; try (intro hcm; exact absurd hcm (by omega))⟩) hHeld ?_
                try simp only [zP, zQ, zS, zZ, zC]
                refine wt (i := 3) (oi := ⟨some 95, .load 9 (.tmp 94), 9, "ref.go:282", #[⟨2, .data⟩], none⟩) (v := .string xi) (Or.inl ⟨by rfl, fun w' hSw => by have hc := CI w' hSw; go_simp⟩) hHeld ?_
                try simp only [zP, zQ, zS, zZ, zC]
                refine wt (i := 4) (oi := ⟨some 96, .move (.tmp 7), 47, "ref.go:282", #[], none⟩) (v := .slice (some ⟨gx, 0, none⟩) n0 cx) (Or.inl ⟨by rfl, fun w' hSw => by go_simp⟩) hHeld ?_
                try simp only [zP, zQ, zS, zZ, zC]
                refine wt (i := 5) (oi := ⟨some 97, .move (.tmp 10), 3, "ref.go:282", #[], none⟩) (v := .int .i64 (k : Int)) (Or.inl ⟨by rfl, fun w' hSw => by go_simp⟩) hHeld ?_
                try simp only [zP, zQ, zS, zZ, zC]
                refine wt (i := 6) (oi := ⟨some 98, .indexAddr 47 (.tmp 96) (.tmp 97), 0, "ref.go:282", #[⟨4, .data⟩, ⟨5, .data⟩], none⟩) (v := .pointer (some ⟨gx, k, none⟩)) (Or.inl ⟨by rfl, fun w' hSw => by go_simp; try (intro hcm; exact absurd hcm (by omega))⟩) hHeld ?_
                try simp only [zP, zQ, zS, zZ, zC]
                refine wt (i := 7) (oi := ⟨some 99, .load 9 (.tmp 98), 9, "ref.go:282", #[⟨6, .data⟩], none⟩) (v := .string xk) (Or.inl ⟨by rfl, fun w' hSw => by have hc := CK w' hSw; go_simp⟩) hHeld ?_
                try simp only [zP, zQ, zS, zZ, zC]
                refine wt (i := 8) (oi := ⟨some 100, .binOp .neq 9 (.tmp 95) (.tmp 99) 9, 4, "ref.go:282", #[⟨3, .data⟩, ⟨7, .data⟩], none⟩) (v := .bool false) (Or.inl ⟨by rfl, fun w' hSw => by go_simp⟩) hHeld ?_
                try simp only [zP, zQ, zS, zZ, zC]
                refine wt (i := 9) (oi := ⟨some 101, .move (.tmp 100), 4, "ref.go:282", #[⟨8, .data⟩], none⟩) (v := .bool false) (Or.inl ⟨by rfl, fun w' hSw => by go_simp⟩) hHeld ?_
                try simp only [zP, zQ, zS, zZ, zC]
                refine wt (i := 10) (oi := ⟨some 102, .move (.tmp 8), 48, "ref.go:282", #[⟨9, .guard⟩], some (9, true)⟩) (v := undef) (Or.inr ⟨by rfl, rfl⟩) hHeld ?_
                try simp only [zP, zQ, zS, zZ, zC]
                refine wt (i := 11) (oi := ⟨some 103, .move (.tmp 9), 3, "ref.go:282", #[⟨9, .guard⟩], some (9, true)⟩) (v := undef) (Or.inr ⟨by rfl, rfl⟩) hHeld ?_
                try simp only [zP, zQ, zS, zZ, zC]
                refine wt (i := 12) (oi := ⟨some 104, .indexAddr 48 (.tmp 102) (.tmp 103), 0, "ref.go:282", #[⟨10, .data⟩, ⟨11, .data⟩, ⟨9, .guard⟩], some (9, true)⟩) (v := undef) (Or.inr ⟨by rfl, rfl⟩) hHeld ?_
                try simp only [zP, zQ, zS, zZ, zC]
                refine wt (i := 13) (oi := ⟨some 105, .load 29 (.tmp 104), 29, "ref.go:282", #[⟨12, .data⟩, ⟨9, .guard⟩], some (9, true)⟩) (v := undef) (Or.inr ⟨by rfl, rfl⟩) hHeld ?_
                try simp only [zP, zQ, zS, zZ, zC]
                refine wt (i := 14) (oi := ⟨some 106, .move (.tmp 8), 48, "ref.go:282", #[⟨9, .guard⟩], some (9, true)⟩) (v := undef) (Or.inr ⟨by rfl, rfl⟩) hHeld ?_
                try simp only [zP, zQ, zS, zZ, zC]
                refine wt (i := 15) (oi := ⟨some 107, .move (.tmp 10), 3, "ref.go:282", #[⟨9, .guard⟩], some (9, true)⟩) (v := undef) (Or.inr ⟨by rfl, rfl⟩) hHeld ?_
                try simp only [zP, zQ, zS, zZ, zC]
                refine wt (i := 16) (oi := ⟨some 108, .indexAddr 48 (.tmp 106) (.tmp 107), 0, "ref.go:282", #[⟨14, .data⟩, ⟨15, .data⟩, ⟨9, .guard⟩], some (9, true)⟩) (v := undef) (Or.inr ⟨by rfl, rfl⟩) hHeld ?_
                try simp only [zP, zQ, zS, zZ, zC]
                refine wt (i := 17) (oi := ⟨some 109, .load 29 (.tmp 108), 29, "ref.go:282", #[⟨16, .data⟩, ⟨9, .guard⟩], some (9, true)⟩) (v := undef) (Or.inr ⟨by rfl, rfl⟩) hHeld ?_
                try simp only [zP, zQ, zS, zZ, zC]
                refine wt (i := 18) (oi := ⟨some 110, .binOp .eql 29 (.tmp 105) (.tmp 109) 29, 4, "ref.go:282", #[⟨13, .data⟩, ⟨17, .data⟩, ⟨9, .guard⟩], some (9, true)⟩) (v := undef) (Or.inr ⟨by rfl, rfl⟩) hHeld ?_
                try simp only [zP, zQ, zS, zZ, zC]
                refine wt (i := 19) (oi := ⟨some 111, .pick (.tmp 101) (.tmp 110) (.const (Value.bool false)), 4, "ref.go:282", #[⟨9, .data⟩, ⟨18, .data⟩], none⟩) (v := .bool false) (Or.inl ⟨by rfl, fun w' hSw => by go_simp⟩) hHeld ?_
                try simp only [zP, zQ, zS, zZ, zC]
                refine wpAnyH_done (by kernel_rfl) ?_ _
                have CX := hX.trans (hHeld.mono hX.size)
                clear hHeld CI CK
                go_wp2
                go_roundw
                case rel => exact ⟨k + 1, by omega, by go_num, HF.out (Or.inl hs), CX⟩
                case measure => simp [intOf]; omega
              · have hnl : ¬ xi.toList = xk.toList := fun h => hs (list_eq (by simpa using h))
                have hne : (xi.toList != xk.toList) = true := by rw [bne_iff_ne]; exact hnl
                refine wp_region_held_drew (S := fun w' => Below wr.heap.size wr w') (by kernel_rfl) (below_drew (Below.refl _ _)) (fun _ => ?_)
                have hHeld : Below wr.heap.size wr wr.drew := below_drew (Below.refl _ _)
                have CI : ∀ w', Below wr.heap.size wr w' → w'.cell? ⟨gx, i, none⟩ = some (.string xi) := fun w' h => (link hBx h).cell (p := ⟨gx, i, none⟩) hgx |>.trans hci
                have CK : ∀ w', Below wr.heap.size wr w' → w'.cell? ⟨gx, k, none⟩ = some (.string xk) := fun w' h => (link hBx h).cell (p := ⟨gx, k, none⟩) hgx |>.trans hck
                generalize wr.drew = Va at hHeld ⊢
                refine wt (i := 0) (oi := ⟨some 92, .move (.tmp 7), 47, "ref.go:282", #[], none⟩) (v := .slice (some ⟨gx, 0, none⟩) n0 cx) (Or.inl ⟨by rfl, fun w' hSw => by go_simp⟩) hHeld ?_
                try simp only [zP, zQ, zS, zZ, zC]
                refine wt (i := 1) (oi := ⟨some 93, .move (.tmp 9), 3, "ref.go:282", #[], none⟩) (v := .int .i64 (i : Int)) (Or.inl ⟨by rfl, fun w' hSw => by go_simp⟩) hHeld ?_
                try simp only [zP, zQ, zS, zZ, zC]
                refine wt (i := 2) (oi := ⟨some 94, .indexAddr 47 (.tmp 92) (.tmp 93), 0, "ref.go:282", #[⟨0, .data⟩, ⟨1, .data⟩], none⟩) (v := .pointer (some ⟨gx, i, none⟩)) (Or.inl ⟨by rfl, fun w' hSw => by go_simp; try (intro hcm; exact absurd hcm (by omega))⟩) hHeld ?_
                try simp only [zP, zQ, zS, zZ, zC]
                refine wt (i := 3) (oi := ⟨some 95, .load 9 (.tmp 94), 9, "ref.go:282", #[⟨2, .data⟩], none⟩) (v := .string xi) (Or.inl ⟨by rfl, fun w' hSw => by have hc := CI w' hSw; go_simp⟩) hHeld ?_
                try simp only [zP, zQ, zS, zZ, zC]
                refine wt (i := 4) (oi := ⟨some 96, .move (.tmp 7), 47, "ref.go:282", #[], none⟩) (v := .slice (some ⟨gx, 0, none⟩) n0 cx) (Or.inl ⟨by rfl, fun w' hSw => by go_simp⟩) hHeld ?_
                try simp only [zP, zQ, zS, zZ, zC]
                refine wt (i := 5) (oi := ⟨some 97, .move (.tmp 10), 3, "ref.go:282", #[], none⟩) (v := .int .i64 (k : Int)) (Or.inl ⟨by rfl, fun w' hSw => by go_simp⟩) hHeld ?_
                try simp only [zP, zQ, zS, zZ, zC]
                refine wt (i := 6) (oi := ⟨some 98, .indexAddr 47 (.tmp 96) (.tmp 97), 0, "ref.go:282", #[⟨4, .data⟩, ⟨5, .data⟩], none⟩) (v := .pointer (some ⟨gx, k, none⟩)) (Or.inl ⟨by rfl, fun w' hSw => by go_simp; try (intro hcm; exact absurd hcm (by omega))⟩) hHeld ?_
                try simp only [zP, zQ, zS, zZ, zC]
                refine wt (i := 7) (oi := ⟨some 99, .load 9 (.tmp 98), 9, "ref.go:282", #[⟨6, .data⟩], none⟩) (v := .string xk) (Or.inl ⟨by rfl, fun w' hSw => by have hc := CK w' hSw; go_simp⟩) hHeld ?_
                try simp only [zP, zQ, zS, zZ, zC]
                refine wt (i := 8) (oi := ⟨some 100, .binOp .neq 9 (.tmp 95) (.tmp 99) 9, 4, "ref.go:282", #[⟨3, .data⟩, ⟨7, .data⟩], none⟩) (v := .bool true) (Or.inl ⟨by rfl, fun w' hSw => by go_simp; try exact hnl⟩) hHeld ?_
                try simp only [zP, zQ, zS, zZ, zC]
                refine wt (i := 9) (oi := ⟨some 101, .move (.tmp 100), 4, "ref.go:282", #[⟨8, .data⟩], none⟩) (v := .bool true) (Or.inl ⟨by rfl, fun w' hSw => by go_simp⟩) hHeld ?_
                try simp only [zP, zQ, zS, zZ, zC]
                refine wt (i := 10) (oi := ⟨some 102, .move (.tmp 8), 48, "ref.go:282", #[⟨9, .guard⟩], some (9, true)⟩) (v := .slice (some ⟨gd, 0, none⟩) (i + 1) cd) (Or.inl ⟨by rfl, fun w' hSw => by go_simp⟩) hHeld ?_
                try simp only [zP, zQ, zS, zZ, zC]
                refine wt (i := 11) (oi := ⟨some 103, .move (.tmp 9), 3, "ref.go:282", #[⟨9, .guard⟩], some (9, true)⟩) (v := .int .i64 (i : Int)) (Or.inl ⟨by rfl, fun w' hSw => by go_simp⟩) hHeld ?_
                try simp only [zP, zQ, zS, zZ, zC]
                refine wt (i := 12) (oi := ⟨some 104, .indexAddr 48 (.tmp 102) (.tmp 103), 0, "ref.go:282", #[⟨10, .data⟩, ⟨11, .data⟩, ⟨9, .guard⟩], some (9, true)⟩) (v := .pointer (some ⟨gd, i * 16, none⟩)) (Or.inl ⟨by rfl, fun w' hSw => by go_simp; try (intro hcm; exact absurd hcm (by omega))⟩) hHeld ?_
                try simp only [zP, zQ, zS, zZ, zC]
                refine wt (i := 13) (oi := ⟨some 105, .load 29 (.tmp 104), 29, "ref.go:282", #[⟨12, .data⟩, ⟨9, .guard⟩], some (9, true)⟩) (v := _) (yieldsIf_load_mid (by rfl) _ _ rfl gd (i * 16) rfl _ _ (fun w' hSw => range_keep hri hgd hSw) Tryd.underlying29 rfl hsi) hHeld ?_
                try simp only [zP, zQ, zS, zZ, zC]
                refine wt (i := 14) (oi := ⟨some 106, .move (.tmp 8), 48, "ref.go:282", #[⟨9, .guard⟩], some (9, true)⟩) (v := .slice (some ⟨gd, 0, none⟩) (i + 1) cd) (Or.inl ⟨by rfl, fun w' hSw => by go_simp⟩) hHeld ?_
                try simp only [zP, zQ, zS, zZ, zC]
                refine wt (i := 15) (oi := ⟨some 107, .move (.tmp 10), 3, "ref.go:282", #[⟨9, .guard⟩], some (9, true)⟩) (v := .int .i64 (k : Int)) (Or.inl ⟨by rfl, fun w' hSw => by go_simp⟩) hHeld ?_
                try simp only [zP, zQ, zS, zZ, zC]
                refine wt (i := 16) (oi := ⟨some 108, .indexAddr 48 (.tmp 106) (.tmp 107), 0, "ref.go:282", #[⟨14, .data⟩, ⟨15, .data⟩, ⟨9, .guard⟩], some (9, true)⟩) (v := .pointer (some ⟨gd, k * 16, none⟩)) (Or.inl ⟨by rfl, fun w' hSw => by go_simp; try (intro hcm; exact absurd hcm (by omega))⟩) hHeld ?_
                try simp only [zP, zQ, zS, zZ, zC]
                refine wt (i := 17) (oi := ⟨some 109, .load 29 (.tmp 108), 29, "ref.go:282", #[⟨16, .data⟩, ⟨9, .guard⟩], some (9, true)⟩) (v := _) (yieldsIf_load_mid (by rfl) _ _ rfl gd (k * 16) rfl _ _ (fun w' hSw => range_keep hrk hgd hSw) Tryd.underlying29 rfl hsk) hHeld ?_
                try simp only [zP, zQ, zS, zZ, zC]
                refine wt (i := 18) (oi := ⟨some 110, .binOp .eql 29 (.tmp 105) (.tmp 109) 29, 4, "ref.go:282", #[⟨13, .data⟩, ⟨17, .data⟩, ⟨9, .guard⟩], some (9, true)⟩) (v := .bool (decide (Dx = Dk))) (Or.inl ⟨by rfl, fun w' hSw => by have kd := equal_16 w' Dx Dk hDd hDkd; go_simp⟩) hHeld ?_
                try simp only [zP, zQ, zS, zZ, zC]
                refine wt (i := 19) (oi := ⟨some 111, .pick (.tmp 101) (.tmp 110) (.const (Value.bool false)), 4, "ref.go:282", #[⟨9, .data⟩, ⟨18, .data⟩], none⟩) (v := .bool (decide (Dx = Dk))) (Or.inl ⟨by rfl, fun w' hSw => by go_simp⟩) hHeld ?_
                try simp only [zP, zQ, zS, zZ, zC]
                refine wpAnyH_done (by kernel_rfl) ?_ _
                have CX := hX.trans (hHeld.mono hX.size)
                clear hHeld CI CK
                by_cases hd2 : Dx = Dk
                · rw [decide_eq_true hd2]
                  go_wp2
                  go_ret
                  exact ⟨true, rfl, (fun h => nomatch h), link B8 (link C4 CX)⟩
                · rw [decide_eq_false hd2]
                  go_wp2
                  go_roundw
                  case rel => exact ⟨k + 1, by omega, by go_num, HF.out (Or.inr hd2), CX⟩
                  case measure => simp [intOf]; omega
            · obtain rfl : k = i := by omega
              have HFi := Lib.hid hfine
              clear hfine
              go_wp2
              go_roundw
              case rel => exact ⟨k + 1, by omega, by go_num, by unfold OwnD; rw [show ((Z.take (k + 1)).map shT).length = k + 1 by rw [List.length_map, List.length_take, HN.out]; omega]; exact row_keep HO4.out hX, nocoll_snoc HNC.out HXi.out HFi.out, link C4 hX⟩
              case measure => simp [intOf]; omega
        · obtain rfl : i = n0 := by omega
          have HE := Lib.hid (show NoColl Z from by rw [List.take_of_length_le (by rw [HN.out]; omega)] at hNC; exact hNC)
          go_wp2
          go_ret
          exact ⟨false, rfl, (fun _ => by rw [HZ0.out]; exact HE.out), link B8 hB⟩

end Go.Proofs.YtfhfmdnimebegaaDoor
