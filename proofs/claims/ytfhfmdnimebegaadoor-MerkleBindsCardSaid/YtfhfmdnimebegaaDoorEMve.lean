/-
  MerkleBinds, for all arguments.
  Conditions: the tables of the packages hash and passimref02 lie as the program lays them when the call begins (the card ties them to the text); no other.
-/
import Derived.Test.YtfhfmdnimebegaaDoorEe
import Derived.Test.YtfhfmdnimebegaaDoorEa
import Derived.Test.YtfhfmdnimebegaaDoorEMvc
import Derived.Test.YtfhfmdnimebegaaDoorEMvd
import Derived.Deep.CutRange

namespace Go.Proofs.YtfhfmdnimebegaaDoor
open Go.RowKit
set_option linter.unusedVariables false
set_option linter.unusedSimpArgs false

theorem own_at2 (ls : List Lf) (q : Option Addr) (n c : Nat) (hl : ls.length = n) (hn : n ≤ 900) (w : World) (hL : OwnL w q ls) :
    Calls Tryd.prog 12 #[.slice q n c] w fun e w' => ∃ q2 c2, e = .returned (.slice q2 n c2) ∧ n ≤ c2 ∧ OwnL w' q2 ls ∧ Below w.heap.size w w' := by
  refine (own_any ls q n c hl (by omega) w hL).mono ?_
  rintro e w' ⟨v, rfl, hO, hz, hB⟩
  obtain ⟨⟨q2, c2, rfl, hc, hL2⟩, _, _⟩ := ML_lvs hO
  exact ⟨q2, c2, by rw [hl], by rw [← hl]; exact hc, hL2, hB⟩
/-- A list of at most 900 leaves, where it lies. -/
def LstB (w : World) (q : Option Addr) (n c : Nat) (ls : List Lf) : Prop := ls.length = n ∧ n ≤ 900 ∧ n ≤ c ∧ Small ls ∧ OwnL w q ls
theorem LstB.keep {w w' : World} {q : Option Addr} {n c : Nat} {ls : List Lf} (h : LstB w q n c ls) (hB : Below w.heap.size w w') : LstB w' q n c ls := ⟨h.1, h.2.1, h.2.2.1, h.2.2.2.1, h.2.2.2.2.keep hB⟩
theorem LstOk.b {w : World} {q : Option Addr} {n c : Nat} {ls : List Lf} (h : LstOk w q n c ls) : LstB w q n c ls := ⟨h.1, by have := h.2.1; omega, h.2.2.1, h.2.2.2.2.1, h.2.2.2.2.2⟩
theorem rootA_zero {ls : List Lf} (h : (rootA ls).2 = 0) : validM ls = 0 ∧ (rootA ls).1 = rootL ls := by
  unfold rootA at h ⊢
  split at h
  · rename_i hv; exact ⟨hv, by rw [if_pos hv]⟩
  · rename_i hv; exact absurd h hv
/-- Different leaves with one root: among the texts of their trees two collide. -/
theorem binds_b (ls lj : List Lf) (n m : Nat) (hl : ls.length = n) (hm : lj.length = m) (hn4 : n ≤ 4096) (hm4 : m ≤ 4096) : (rootA ls).2 = 0 → (rootA lj).2 = 0 → ls ≠ lj → (rootA ls).1 = (rootA lj).1 → ∀ b : Bool, (b = false → NoColl (rootX ls 0 [] n ++ proofX 0 (m : Int) lj [])) → b = true := by
  intro h1 h2 hne hR b hb
  obtain ⟨v1, r1⟩ := rootA_zero h1
  obtain ⟨v2, r2⟩ := rootA_zero h2
  cases b with
  | true => rfl
  | false =>
    exfalso
    have hN := hb rfl
    have e : proofX 0 (m : Int) lj [] = rootX lj 0 [] lj.length := by
      unfold proofX
      rw [if_pos (by omega)]
      simp [hm]
    rw [e, ← hl] at hN
    exact hne (binds_plain ls lj v1 v2 hN (by rw [← r1, ← r2, hR]))
theorem rootA_nil : rootA [] = (ofS 4 [enc 0], 0) := by
  unfold rootA
  rw [if_pos (show validM [] = 0 from rfl)]
  rfl

theorem pk_leaves {w : World} {q : Option Addr} {n c : Nat} {ls : List Lf} (h : LstOk w q n c ls) (hz : Sz 65536 ls) : PK w 65536 11 (.agg #[.int .i64 0, .int .i64 0, .slice q n c, .slice none 0 0]) := by
  obtain ⟨h1, h2, h3, h4, h5, h6⟩ := h
  subst h1
  refine ⟨0, 0, ls, [], ⟨q, c, none, 0, rfl, h6, fun hq => ?_, ⟨none, 0, rfl, Nat.le_refl _, fun h => absurd rfl h⟩, fun _ => rfl, h3⟩, hz, h2, Nat.zero_le _, fun x hx => by simp at hx⟩
  by_cases h0 : ls = []
  · exact (h4 (by rw [h0]; rfl)).2
  · obtain ⟨b, off, e, _⟩ := h6 h0
    rw [hq] at e
    cases e

set_option maxHeartbeats 16000000 in
set_option maxRecDepth 100000 in
theorem binds_law (hLv : ∀ V, Glob V → Calls Tryd.prog 18 #[] V (Told V true)) (A : Option Addr) (l : List Int) (n c : Nat) (hl : l.length = n) (A2 : Option Addr) (l2 : List Int) (n2 c2 : Nat) (hl2 : l2.length = n2) (xh xb : Int) (hxh1 : -9223372036854775808 ≤ xh) (hxh2 : xh ≤ 9223372036854775807) (hxb1 : -9223372036854775808 ≤ xb) (hxb2 : xb ≤ 9223372036854775807) (w : World) (hG : Glob w) (hGR : GlobR w) (hA : IntsAt w A l) (hA2 : IntsAt w A2 l2) :
    Calls Tryd.prog 8 #[.slice A n c, .slice A2 n2 c2, .int .i64 xh, .int .i64 xb] w (Told w true) := by
  have hz1 := zero_dig'
  have hz16 : (bytesV z16).toArray.toList.length = 16 := rfl
  have HLv := Lib.hid (fun (V : World) (g : Glob V) => hLv V g)
  have HLe := Lib.hid (leaves_any2 A l n c hl w hA)
  have HLf := Lib.hid (fun (V : World) (hB : Below w.heap.size w V) => leaves_any2 A2 l2 n2 c2 hl2 V (hA2.keep hB))
  have HAr := Lib.hid (fun (V : World) => around_any xh hxh1 hxh2 4 (by omega) (by omega) V)
  have HBt := Lib.hid (fun (m : Nat) (hm : m < 8) (V : World) (v : Value) (h : PK V 65536 11 v) => bent_at 65536 11 (by omega) (by omega) (by omega) (m : Int) xb (by omega) (by omega) hxb1 hxb2 v V h)
  have hbt : ∀ y ∈ enc 0, y < 256 := enc_lt 0 (by omega) (by omega)
  have hen : (enc 0).length ≤ 100 := by have := enc_length 0 (by omega) (by omega); omega
  have HI := Lib.hid (fun (V : World) => int_any 0 (by omega) (by omega) V)
  have HO := Lib.hid (fun (V : World) (A : Option Addr) (g : GlobR V) (hr : Cells V A (strsV [strOf (enc 0)])) => (show Calls Tryd.prog 37 #[.int .i64 4, .slice A 1 1] V fun e w' => e = .returned (.agg (bytesV (ofS 4 [enc 0])).toArray) ∧ Below V.heap.size V w' from
    by have := rof_any 4 4 (by omega) rfl A [strOf (enc 0)] 1 1 V rfl (by simp) (one_size hen) hr g; rw [one_sb hbt] at this; exact this))
  have root_nil : ∀ (V : World) (g : Glob V), Calls Tryd.prog 11 #[.slice none 0 0] V fun e w' => e = .returned (.tuple #[.agg (bytesV (ofS 4 [enc 0])).toArray, .int .i64 0]) ∧ Below V.heap.size V w' := fun V g => by
    have := root_all [] none 0 0 rfl (Nat.le_refl _) V g (fun h => absurd rfl h)
    rw [rootA_nil] at this
    exact this
  have root_nil := Lib.hid root_nil
  have hZd : Dgt (ofS 4 [enc 0]) := dig_ofS _ _
  generalize ofS 4 [enc 0] = ZD at HO root_nil hZd
  have hvZ : (bytesV ZD).length = 16 := by rw [bytesV_length]; exact hZd.1
  have hsZ : (Tryd.prog.info? 29).map (fun x => x.size) = some (bytesV ZD).length := by rw [hvZ]; kernel_rfl
  clear hl hA hl2 hA2 hLv
  go_enter Tryd.func8, Tryd.ntmps8
  go_upto_region 2 with (go_at_call 9; refine HLe.out.mono ?_; rintro e W1 ⟨v1, ls1, rfl, hO1, hv1, h11, hB1, hn1⟩; obtain ⟨q1, n1, c1, rfl, T1⟩ := LstOk.of hO1 h11 (small_of (valid_zero hv1).2.1) hn1)
  have PK1 := pk_leaves T1 (sz_fit (valid_zero hv1).2.1)
  clear hO1 hv1 h11 hn1 HLe
  go_upto_region 3 with (fail)
  refine (HAr.out _).mono ?_
  rintro e w1 ⟨r, hr, rfl, hw1⟩
  rw [hw1]
  obtain ⟨m, hm⟩ : ∃ m, 4 + r = m := ⟨_, rfl⟩
  have hm8 : m < 8 := by omega
  have hmi : (4 : Int) + (r : Int) = (m : Int) := by omega
  clear hm hr hw1
  dsimp only
  go_upto_region 3 with (first
    | (go_at_call 27; refine (HBt.out m hm8 W1 _ PK1).mono ?_; rintro e W2 ⟨v, rfl, hP, hB2⟩; obtain ⟨a0, a1, a2, a3, rfl, ho⟩ := hP.four)
    | (refine wpList_store_mid rfl 54 (.tmp 10) (.tmp 29) rfl W2.heap.size 0 #[a0, a1, a2, a3] rfl rfl (by simpa using (blk_new W2 54 #[.int .i64 0, .int .i64 0, .slice none 0 0, .slice none 0 0]).there 0 4 (by simp)) (by kernel_rfl) (all_oneCell_toArray ho) ?_))
  have N0 := new_struct W2 #[.int .i64 0, .int .i64 0, .slice none 0 0, .slice none 0 0] 54 [a0, a1, a2, a3] rfl
  have Y0 := N0.1
  have K1 := N0.2
  clear N0
  try dsimp only
  generalize World.setCells (World.alloc W2 _) W2.heap.size 0 _ = V3 at Y0 K1 ⊢
  have P1 := hP.keep Y0
  have X3 := link hB2 Y0
  replace T1 := T1.keep X3
  have BW := link hB1 X3
  generalize W2.heap.size = t1 at K1 ⊢
  clear hP Y0 X3 hB2 ho PK1 HBt HAr hB1
  obtain ⟨F, S, lf, sd, hPI, hz, hlf, _, _⟩ := P1
  obtain ⟨q3, c3, sa, sc, ev, hL3, hq3, _, _, hc3⟩ := hPI
  obtain ⟨n3, hn3⟩ : ∃ n, lf.length = n := ⟨_, rfl⟩
  rw [hn3] at ev hlf hc3
  have ev2 : a0 = .int .i64 F ∧ a1 = .int .i64 S ∧ a2 = .slice q3 n3 c3 ∧ a3 = .slice sa sd.length sc := by simpa using ev
  obtain ⟨rfl, rfl, rfl, rfl⟩ := ev2
  clear ev
  have T3 : LstB V3 q3 n3 c3 lf := ⟨hn3, by omega, hc3, fun x hx => by have := hz x hx; omega, hL3⟩
  clear hn3 hlf hc3 hL3 hz hq3
  refine wp_region_held_drew (S := fun w' => Below V3.heap.size V3 w') (by kernel_rfl) (below_drew (Below.refl _ _)) (fun _ => ?_)
  have hHeld : Below V3.heap.size V3 V3.drew := below_drew (Below.refl _ _)
  have C2 : ∀ w', Below V3.heap.size V3 w' → w'.cell? ⟨t1, 2, none⟩ = some (.slice q3 n3 c3) := fun w' h => (h.cell (p := ⟨t1, 2, none⟩) K1.lt).trans (K1.cell (j := 2) rfl)
  generalize V3.drew = V4 at hHeld ⊢
  refine wpAnyH_take (i := 0) (oi := ⟨some 30, .move (.tmp 9), 24, "law.go:246", #[], none⟩) (v := .slice q1 n1 c1) rfl (by kernel_rfl) (by kernel_rfl) (by kernel_rfl) (fun _ _ _ h => h) (Or.inl ⟨by rfl, fun w' hSw => by go_simp⟩) hHeld ?_
  try simp only [Act.put, List.setIfInBounds_toArray, List.set_cons_zero, List.set_cons_succ]
  refine wpAnyH_take (i := 1) (oi := ⟨some 31, .move (.tmp 1), 22, "law.go:246", #[], none⟩) (v := .slice A2 n2 c2) rfl (by kernel_rfl) (by kernel_rfl) (by kernel_rfl) (fun _ _ _ h => h) (Or.inl ⟨by rfl, fun w' hSw => by go_simp⟩) hHeld ?_
  try simp only [Act.put, List.setIfInBounds_toArray, List.set_cons_zero, List.set_cons_succ]
  refine wpAnyH_take (i := 3) (oi := ⟨some 33, .fieldAddr 54 (.tmp 10) 2, 0, "law.go:246", #[], none⟩) (v := .pointer (some ⟨t1, 2, none⟩)) rfl (by kernel_rfl) (by kernel_rfl) (by kernel_rfl) (fun _ _ _ h => h) (Or.inl ⟨by rfl, fun w' hSw => by go_simp⟩) hHeld ?_
  try simp only [Act.put, List.setIfInBounds_toArray, List.set_cons_zero, List.set_cons_succ]
  refine wpAnyH_take (i := 4) (oi := ⟨some 34, .load 24 (.tmp 33), 24, "law.go:246", #[⟨3, .data⟩], none⟩) (v := .slice q3 n3 c3) rfl (by kernel_rfl) (by kernel_rfl) (by kernel_rfl) (fun _ _ _ h => h) (Or.inl ⟨by rfl, fun w' hSw => by have hc := C2 w' hSw; go_simp⟩) hHeld ?_
  try simp only [Act.put, List.setIfInBounds_toArray, List.set_cons_zero, List.set_cons_succ]
  refine wpAnyH_ready (rs := [2]) (by kernel_rfl) (by simp) ?_
  refine AllReadyH.cons (o := ⟨some 32, .call { callee := .value (.func 9), args := #[.tmp 31], argTypes := #[22] }, 24, "law.go:246", #[⟨1, .data⟩], none⟩) rfl (fun K hK => ?_) AllReadyH.nil
  rw [if_pos (by rfl)]
  go_simp
  refine (HLf.out V4 (link BW hHeld)).mono ?_
  rintro e V5 ⟨v2, ls2, rfl, hO2, hv2, h12, hB5, hn2z⟩
  obtain ⟨q2, m2, d2, rfl, T2'⟩ := LstOk.of hO2 h12 (small_of (valid_zero hv2).2.1) hn2z
  have T2 := T2'.b
  clear T2' hO2 hv2 h12 hn2z
  dsimp only
  refine hK.out _ _ (link hHeld hB5) (fun hHeld => ?_)
  clear hK K
  try simp only [Act.put, List.setIfInBounds_toArray, List.set_cons_zero, List.set_cons_succ]
  clear hB5
  refine wpAnyH_ready (rs := [5]) (by kernel_rfl) (by simp) ?_
  refine AllReadyH.cons (o := ⟨some 35, .buildSlice 27 3 #[(0, .tmp 30), (1, .tmp 32), (2, .tmp 34)], 27, "law.go:246", #[⟨0, .data⟩, ⟨2, .data⟩, ⟨4, .data⟩], none⟩) rfl (fun K hK => ?_) AllReadyH.nil
  rw [if_pos (by rfl)]
  go_simp
  have hKB := blk_new V5 24 #[.slice q1 n1 c1, .slice q2 m2 d2, .slice q3 n3 c3]
  have X0 : Below V5.heap.size V5 (V5.alloc (.cells #[.slice q1 n1 c1, .slice q2 m2 d2, .slice q3 n3 c3] 24)) := (Below.refl _ _).alloc (Nat.le_refl _) _
  refine hK.out _ _ (link hHeld X0) (fun hHeld => ?_)
  clear hK K
  try simp only [Act.put, List.setIfInBounds_toArray, List.set_cons_zero, List.set_cons_succ]
  replace T2 := T2.keep X0
  generalize World.alloc V5 _ = V6 at hKB hHeld T2 ⊢
  generalize V5.heap.size = tb at hKB ⊢
  clear X0
  refine wpAnyH_ready (rs := [6]) (by kernel_rfl) (by simp) ?_
  refine AllReadyH.cons (o := ⟨some 11, .assign (.tmp 35), 27, "law.go:246", #[⟨5, .data⟩, ⟨2, .chain⟩, ⟨0, .phase⟩, ⟨1, .phase⟩, ⟨2, .phase⟩, ⟨3, .phase⟩, ⟨4, .phase⟩, ⟨5, .phase⟩], none⟩) rfl (fun K hK => ?_) AllReadyH.nil
  go_simp
  refine hK.out _ _ (hHeld) (fun hHeld => ?_)
  clear hK K
  try simp only [Act.put, List.setIfInBounds_toArray, List.set_cons_zero, List.set_cons_succ]
  refine wpAnyH_done (by kernel_rfl) ?_ _
  have T1 := T1.b.keep hHeld
  replace T3 := T3.keep hHeld
  have B6 := link BW hHeld
  clear hHeld BW K1 C2 HLf
  have TB : Hid (∀ k, k < 3 → ∃ q n c ls, V6.cell? ⟨tb, k, none⟩ = some (.slice q n c) ∧ LstB V6 q n c ls) := Lib.hid (by
    intro k hk
    match k, hk with
    | 0, _ => exact ⟨_, _, _, _, hKB.cell (j := 0) rfl, T1⟩
    | 1, _ => exact ⟨_, _, _, _, hKB.cell (j := 1) rfl, T2⟩
    | 2, _ => exact ⟨_, _, _, _, hKB.cell (j := 2) rfl, T3⟩)
  have htb := hKB.lt
  clear hKB T1 T2 T3
  have G6 := hG.keep B6
  have GR6 := hGR.keep B6
  clear hG hGR
  go_wp2
  go_loopw [12] (fun v wr => ∃ i : Nat, i ≤ 3 ∧ v = .int .i64 i ∧ Below V6.heap.size V6 wr) (fun v _ => 3 - (intOf v).toNat)
  case atStart => exact ⟨0, by omega, rfl, Below.refl _ _⟩
  case round =>
    obtain ⟨i, hi, rfl, hB⟩ := hrel
    by_cases hlt : i < 3
    · obtain ⟨q, n0, c0, ls, hcell, hLs⟩ := TB.out i hlt
      have hi3 : (i : Int) < 3 := by omega
      have HOw := Lib.hid (fun (V : World) (hB : Below V6.heap.size V6 V) => own_at2 ls q n0 c0 hLs.1 hLs.2.1 V (hLs.2.2.2.2.keep hB))
      have HRt := Lib.hid (fun (V : World) (q : Option Addr) (cc : Nat) (g : Glob V) (hc : n0 ≤ cc) (hL : OwnL V q ls) => root_all ls q n0 cc hLs.1 hc V g hL)
      have hrd := rootA_dgt ls
      have HZ0 := Lib.hid (binds_b ls)
      have HE0 : Hid (∀ lj, ls = lj → (rootA ls).1 = (rootA lj).1) := Lib.hid (fun lj h => by rw [h])
      generalize (rootA ls).1 = RT at HRt hrd HZ0 HE0
      generalize (rootA ls).2 = E1 at HRt HZ0
      have hvR : (bytesV RT).length = 16 := by rw [bytesV_length]; exact hrd.1
      have hsz : (Tryd.prog.info? 29).map (fun x => x.size) = some (bytesV RT).length := by rw [hvR]; kernel_rfl
      obtain ⟨wo, rfl⟩ : ∃ wo : World, wo = wr := ⟨_, rfl⟩
      go_wp2
      go_loopw [13] (fun v wx => ∃ j : Nat, j ≤ i ∧ v = .int .i64 j ∧ Below V6.heap.size V6 wx) (fun v _ => i - (intOf v).toNat)
      case atStart => exact ⟨0, by omega, rfl, hB⟩
      case round =>
        obtain ⟨j, hj, rfl, BX⟩ := hrel
        by_cases hjl : j < i
        · obtain ⟨qj, nj, cj, lj, hcellj, hLj⟩ := TB.out j (by omega)
          have hji : (j : Int) < (i : Int) := by omega
          have hj3 : (j : Int) < 3 := by omega
          have HOj := Lib.hid (fun (V : World) (hB : Below V6.heap.size V6 V) => own_at2 lj qj nj cj hLj.1 hLj.2.1 V (hLj.2.2.2.2.keep hB))
          have HRj := Lib.hid (fun (V : World) (q : Option Addr) (cc : Nat) (g : Glob V) (hc : nj ≤ cc) (hL : OwnL V q lj) => root_all lj q nj cc hLj.1 hc V g hL)
          have hrj := rootA_dgt lj
          have HZ := Lib.hid (HZ0.out lj n0 nj hLs.1 hLj.1 (by have := hLs.2.1; omega) (by have := hLj.2.1; omega))
          have HE := Lib.hid (HE0.out lj)
          generalize (rootA lj).1 = RJ at HRj hrj HZ HE
          generalize (rootA lj).2 = E2 at HRj HZ
          clear HZ0 HE0
          have hvJ : (bytesV RJ).length = 16 := by rw [bytesV_length]; exact hrj.1
          have hsj : (Tryd.prog.info? 29).map (fun x => x.size) = some (bytesV RJ).length := by rw [hvJ]; kernel_rfl
          have hc := (BX.cell (p := ⟨tb, i, none⟩) htb).trans hcell
          go_upto_region 11 with (first
            | (go_at_call 12; refine (HOw.out _ BX).mono ?_; rintro e W8 ⟨q8, c8, rfl, hc8, hL8, hB8⟩)
            | (go_at_call 11; refine (HRt.out _ q8 c8 (G6.keep (link BX hB8)) hc8 hL8).mono ?_; rintro e W9 ⟨rfl, hB9⟩)
            | (refine store_blk rfl 29 (.tmp 14) (.tmp 52) rfl (blk_new W9 29 (bytesV z16).toArray) rfl rfl (m := 16) (by kernel_rfl) hvR hz16 (bytesV_cells RT) ?_; intro w5 K5 O9))
          have B5 : Below V6.heap.size V6 w5 := link BX (link (link hB8 hB9) (O9.2.2 _ _ (Nat.le_refl _) ((Below.refl _ _).alloc (Nat.le_refl _) _)))
          generalize W9.heap.size = ta at K5 ⊢
          clear hB8 hB9 O9 hL8 hc8 BX hc
          have hc := (B5.cell (p := ⟨tb, j, none⟩) htb).trans hcellj
          go_upto_region 12 with (first
            | (go_at_call 12; refine (HOj.out _ B5).mono ?_; rintro e W8 ⟨q8, c8, rfl, hc8, hL8, hB8⟩)
            | (go_at_call 11; refine (HRj.out _ q8 c8 (G6.keep (link B5 hB8)) hc8 hL8).mono ?_; rintro e W9 ⟨rfl, hB9⟩)
            | (refine store_blk rfl 29 (.tmp 16) (.tmp 61) rfl (blk_new W9 29 (bytesV z16).toArray) rfl rfl (m := 16) (by kernel_rfl) hvJ hz16 (bytesV_cells RJ) ?_; intro w6 K6 O9))
          have X6 : Below w5.heap.size w5 w6 := link (link hB8 hB9) (O9.2.2 _ _ (Nat.le_refl _) ((Below.refl _ _).alloc (Nat.le_refl _) _))
          have B6' := link B5 X6
          replace K5 := K5.keep X6
          generalize W9.heap.size = tc at K6 ⊢
          clear hB8 hB9 O9 X6 hL8 hc8 B5 hc HOw HOj HRt HRj
          by_cases he1 : E1 = 0
          · by_cases he2 : E2 = 0
            · subst he1
              subst he2
              go_upto_region 13 with (fail)
              refine wp_region_held_drew (S := fun w' => Below w6.heap.size w6 w') (by kernel_rfl) (below_drew (Below.refl _ _)) (fun _ => ?_)
              have hHeld : Below w6.heap.size w6 w6.drew := below_drew (Below.refl _ _)
              have CJ : ∀ w', Below w6.heap.size w6 w' → w'.cell? ⟨tb, j, none⟩ = some (.slice qj nj cj) := fun w' h => ((link B6' h).cell (p := ⟨tb, j, none⟩) htb).trans hcellj
              generalize w6.drew = Y0 at hHeld ⊢
              refine wpAnyH_take (i := 0) (oi := ⟨some 69, .move (.tmp 11), 27, "law.go:254", #[], none⟩) (v := .slice (some ⟨tb, 0, none⟩) 3 3) rfl (by kernel_rfl) (by kernel_rfl) (by kernel_rfl) (fun _ _ _ h => h) (Or.inl ⟨by rfl, fun w' hSw => by go_simp⟩) hHeld ?_
              try simp only [Act.put, List.setIfInBounds_toArray, List.set_cons_zero, List.set_cons_succ]
              refine wpAnyH_take (i := 1) (oi := ⟨some 70, .move (.tmp 13), 3, "law.go:254", #[], none⟩) (v := .int .i64 (j : Int)) rfl (by kernel_rfl) (by kernel_rfl) (by kernel_rfl) (fun _ _ _ h => h) (Or.inl ⟨by rfl, fun w' hSw => by go_simp⟩) hHeld ?_
              try simp only [Act.put, List.setIfInBounds_toArray, List.set_cons_zero, List.set_cons_succ]
              refine wpAnyH_take (i := 2) (oi := ⟨some 71, .indexAddr 27 (.tmp 69) (.tmp 70), 0, "law.go:254", #[⟨0, .data⟩, ⟨1, .data⟩], none⟩) (v := .pointer (some ⟨tb, j, none⟩)) rfl (by kernel_rfl) (by kernel_rfl) (by kernel_rfl) (fun _ _ _ h => h) (Or.inl ⟨by rfl, fun w' hSw => by go_simp; try (intro hcm; exact absurd hcm (by omega))⟩) hHeld ?_
              try simp only [Act.put, List.setIfInBounds_toArray, List.set_cons_zero, List.set_cons_succ]
              refine wpAnyH_take (i := 3) (oi := ⟨some 72, .load 24 (.tmp 71), 24, "law.go:254", #[⟨2, .data⟩], none⟩) (v := .slice qj nj cj) rfl (by kernel_rfl) (by kernel_rfl) (by kernel_rfl) (fun _ _ _ h => h) (Or.inl ⟨by rfl, fun w' hSw => by have hc := CJ w' hSw; go_simp⟩) hHeld ?_
              try simp only [Act.put, List.setIfInBounds_toArray, List.set_cons_zero, List.set_cons_succ]
              refine wpAnyH_take (i := 5) (oi := ⟨some 74, .move (.tmp 11), 27, "law.go:254", #[], none⟩) (v := .slice (some ⟨tb, 0, none⟩) 3 3) rfl (by kernel_rfl) (by kernel_rfl) (by kernel_rfl) (fun _ _ _ h => h) (Or.inl ⟨by rfl, fun w' hSw => by go_simp⟩) hHeld ?_
              try simp only [Act.put, List.setIfInBounds_toArray, List.set_cons_zero, List.set_cons_succ]
              refine wpAnyH_take (i := 6) (oi := ⟨some 75, .move (.tmp 13), 3, "law.go:254", #[], none⟩) (v := .int .i64 (j : Int)) rfl (by kernel_rfl) (by kernel_rfl) (by kernel_rfl) (fun _ _ _ h => h) (Or.inl ⟨by rfl, fun w' hSw => by go_simp⟩) hHeld ?_
              try simp only [Act.put, List.setIfInBounds_toArray, List.set_cons_zero, List.set_cons_succ]
              refine wpAnyH_take (i := 7) (oi := ⟨some 76, .indexAddr 27 (.tmp 74) (.tmp 75), 0, "law.go:254", #[⟨5, .data⟩, ⟨6, .data⟩], none⟩) (v := .pointer (some ⟨tb, j, none⟩)) rfl (by kernel_rfl) (by kernel_rfl) (by kernel_rfl) (fun _ _ _ h => h) (Or.inl ⟨by rfl, fun w' hSw => by go_simp; try (intro hcm; exact absurd hcm (by omega))⟩) hHeld ?_
              try simp only [Act.put, List.setIfInBounds_toArray, List.set_cons_zero, List.set_cons_succ]
              refine wpAnyH_take (i := 8) (oi := ⟨some 77, .load 24 (.tmp 76), 24, "law.go:254", #[⟨7, .data⟩], none⟩) (v := .slice qj nj cj) rfl (by kernel_rfl) (by kernel_rfl) (by kernel_rfl) (fun _ _ _ h => h) (Or.inl ⟨by rfl, fun w' hSw => by have hc := CJ w' hSw; go_simp⟩) hHeld ?_
              try simp only [Act.put, List.setIfInBounds_toArray, List.set_cons_zero, List.set_cons_succ]
              refine wpAnyH_take (i := 4) (oi := ⟨some 73, .call { callee := .builtin .len, args := #[.tmp 72], argTypes := #[24] }, 3, "law.go:254", #[⟨3, .data⟩], none⟩) (v := .int .i64 (nj : Int)) rfl (by kernel_rfl) (by kernel_rfl) (by kernel_rfl) (fun _ _ _ h => h) (Or.inl ⟨by rfl, fun w' hSw => by go_simp⟩) hHeld ?_
              try simp only [Act.put, List.setIfInBounds_toArray, List.set_cons_zero, List.set_cons_succ]
              refine wpAnyH_take (i := 9) (oi := ⟨some 78, .build 54 #[(1, .tmp 73), (2, .tmp 77)], 54, "law.go:254", #[⟨4, .data⟩, ⟨8, .data⟩], none⟩) (v := .agg #[.int .i64 0, .int .i64 (nj : Int), .slice qj nj cj, .slice none 0 0]) rfl (by kernel_rfl) (by kernel_rfl) (by kernel_rfl) (fun _ _ _ h => h) (Or.inl ⟨by rfl, fun w' hSw => by go_simp⟩) hHeld ?_
              try simp only [Act.put, List.setIfInBounds_toArray, List.set_cons_zero, List.set_cons_succ]
              refine wpAnyH_ready (rs := [10]) (by kernel_rfl) (by simp) ?_
              refine AllReadyH.cons (o := ⟨some 18, .alloc 54, 0, "law.go:254", #[], none⟩) rfl (fun K hK => ?_) AllReadyH.nil
              rw [if_pos (by rfl)]
              go_simp
              have Kb := blk_new Y0 54 zeroPrf.toArray
              have X : Below Y0.heap.size Y0 (Y0.alloc (.cells zeroPrf.toArray 54)) := (Below.refl _ _).alloc (Nat.le_refl _) _
              have htp : w6.heap.size ≤ Y0.heap.size := hHeld.size
              refine hK.out _ _ (link hHeld X) (fun hHeld => ?_)
              clear hK K
              try simp only [Act.put, List.setIfInBounds_toArray, List.set_cons_zero, List.set_cons_succ]
              clear X
              generalize World.alloc Y0 _ = Y1 at Kb hHeld ⊢
              generalize Y0.heap.size = tp at Kb htp ⊢
              refine wpAnyH_ready (rs := [11]) (by kernel_rfl) (by simp) ?_
              refine AllReadyH.cons (o := ⟨none, .store 54 (.tmp 18) (.tmp 78), 0, "law.go:254", #[⟨10, .data⟩, ⟨9, .data⟩, ⟨0, .phase⟩, ⟨1, .phase⟩, ⟨2, .phase⟩, ⟨3, .phase⟩, ⟨4, .phase⟩, ⟨5, .phase⟩, ⟨6, .phase⟩, ⟨7, .phase⟩, ⟨8, .phase⟩, ⟨9, .phase⟩, ⟨10, .phase⟩], none⟩) rfl (fun K hK => ?_) AllReadyH.nil
              rw [if_pos (by rfl)]
              refine wp_store_mid 54 (.tmp 18) (.tmp 78) rfl tp 0 #[.int .i64 0, .int .i64 (nj : Int), .slice qj nj cj, .slice none 0 0] rfl rfl (by simpa using Kb.there 0 4 (by simp [zeroPrf])) (by kernel_rfl) (all_oneCell_toArray (by intro v hv; simp at hv; rcases hv with rfl | rfl | rfl | rfl <;> rfl)) ?_
              have Kq : Blk (Y1.setCells tp 0 [.int .i64 0, .int .i64 (nj : Int), .slice qj nj cj, .slice none 0 0]) tp 54 [.int .i64 0, .int .i64 (nj : Int), .slice qj nj cj, .slice none 0 0] := Kb.all rfl
              have H := (only_sets tp 0 Y1 [.int .i64 0, .int .i64 (nj : Int), .slice qj nj cj, .slice none 0 0]).2.2 _ _ htp hHeld
              dsimp only
              generalize World.setCells Y1 tp 0 [.int .i64 0, .int .i64 (nj : Int), .slice qj nj cj, .slice none 0 0] = Y2 at Kq H ⊢
              refine hK.out _ _ (H) (fun hHeld => ?_)
              clear hK K
              try simp only [Act.put, List.setIfInBounds_toArray, List.set_cons_zero, List.set_cons_succ]
              refine wpAnyH_done (by kernel_rfl) ?_ _
              have B7 := link B6' hHeld
              replace K5 := K5.keep hHeld
              replace K6 := K6.keep hHeld
              clear hHeld CJ Kb htp B6' H
              obtain ⟨bx, hbx⟩ : ∃ b, decide (RT = RJ) = b := ⟨_, rfl⟩
              obtain ⟨bs, hbs⟩ : ∃ b, decide (ls = lj) = b := ⟨_, rfl⟩
              have KD : ∀ w, (Op.equalIn 10000 29 (.agg (bytesV RT).toArray) (.agg (bytesV RJ).toArray)).run Tryd.prog w = .ok bx w := fun w => by rw [equal_16 w RT RJ hrd hrj, hbx]
              have KD := Lib.hid KD
              have HSm := Lib.hid (fun (V : World) (hB : Below V6.heap.size V6 V) => (show Calls Tryd.prog 33 #[.slice q n0 c0, .slice qj nj cj] V fun e w' => e = .returned (.bool bs) ∧ Below V.heap.size V w' from hbs ▸ sameLeaves_any ls lj q qj n0 c0 nj cj hLs.1 hLj.1 (by have := hLs.2.1; omega) (by have := hLj.2.1; omega) V (hLs.2.2.2.2.keep hB) (hLj.2.2.2.2.keep hB)))
              have HCo := Lib.hid (fun (V : World) (hB : Below V6.heap.size V6 V) => collide_any ls q n0 c0 hLs.1 (by have := hLs.2.1; omega) hLs.2.2.2.1 0 (nj : Int) lj [] hLj.2.2.2.1 (fun d h => by cases h) qj nj cj hLj.1 (by have := hLj.2.1; omega) none 0 0 (by omega) V (GR6.keep hB) (hLs.2.2.2.2.keep hB) (hLj.2.2.2.2.keep hB) ⟨none, 0, rfl, Nat.le_refl _, fun h => absurd rfl h⟩)
              have HT : bx ≠ bs → bx = true ∧ bs = false := fun hne => by
                cases bs with
                | true => exact absurd (by rw [<- hbx]; exact decide_eq_true (HE.out (of_decide_eq_true hbs))) hne
                | false => cases bx with
                  | true => exact ⟨rfl, rfl⟩
                  | false => exact absurd rfl hne
              have HW : bx = true → bs = false → ∀ b : Bool, (b = false → NoColl (rootX ls 0 [] n0 ++ proofX 0 (nj : Int) lj [])) → b = true := fun h1 h2 => HZ.out rfl rfl (of_decide_eq_false (by rw [hbs, h2])) (of_decide_eq_true (by rw [hbx, h1]))
              have HW := Lib.hid HW
              clear hbx hbs HZ HE hLj
              go_upto_region 14 with (fail)
              by_cases hq : bx = bs
              · subst hq
                refine wp_region_held_drew (S := fun w' => Below Y2.heap.size Y2 w') (by kernel_rfl) (below_drew (Below.refl _ _)) (fun _ => ?_)
                have hHeld : Below Y2.heap.size Y2 Y2.drew := below_drew (Below.refl _ _)
                have CJ : ∀ w', Below Y2.heap.size Y2 w' → w'.cell? ⟨tb, j, none⟩ = some (.slice qj nj cj) := fun w' h => ((link B7 h).cell (p := ⟨tb, j, none⟩) htb).trans hcellj
                have CI : ∀ w', Below Y2.heap.size Y2 w' → w'.cell? ⟨tb, i, none⟩ = some (.slice q n0 c0) := fun w' h => ((link B7 h).cell (p := ⟨tb, i, none⟩) htb).trans hcell
                generalize Y2.drew = Y3 at hHeld ⊢
                refine wpAnyH_take (i := 0) (oi := ⟨some 79, .load 29 (.tmp 14), 29, "law.go:255", #[], none⟩) (v := _) rfl (by kernel_rfl) (by kernel_rfl) (by kernel_rfl) (fun _ _ _ h => h) (yieldsIf_load_mid (by rfl) _ _ rfl _ 0 rfl _ _ (fun w' hSw => rng_blk (K5) w' hSw) Tryd.underlying29 rfl hsz) hHeld ?_
                try simp only [Act.put, List.setIfInBounds_toArray, List.set_cons_zero, List.set_cons_succ]
                refine wpAnyH_take (i := 1) (oi := ⟨some 80, .load 29 (.tmp 16), 29, "law.go:255", #[], none⟩) (v := _) rfl (by kernel_rfl) (by kernel_rfl) (by kernel_rfl) (fun _ _ _ h => h) (yieldsIf_load_mid (by rfl) _ _ rfl _ 0 rfl _ _ (fun w' hSw => rng_blk (K6) w' hSw) Tryd.underlying29 rfl hsj) hHeld ?_
                try simp only [Act.put, List.setIfInBounds_toArray, List.set_cons_zero, List.set_cons_succ]
                refine wpAnyH_take (i := 2) (oi := ⟨some 81, .binOp .eql 29 (.tmp 79) (.tmp 80) 29, 4, "law.go:255", #[⟨0, .data⟩, ⟨1, .data⟩], none⟩) (v := .bool bx) rfl (by kernel_rfl) (by kernel_rfl) (by kernel_rfl) (fun _ _ _ h => h) (Or.inl ⟨by rfl, fun w' hSw => by have kd := KD.out w'; go_simp⟩) hHeld ?_
                try simp only [Act.put, List.setIfInBounds_toArray, List.set_cons_zero, List.set_cons_succ]
                refine wpAnyH_take (i := 3) (oi := ⟨some 82, .move (.tmp 11), 27, "law.go:255", #[], none⟩) (v := .slice (some ⟨tb, 0, none⟩) 3 3) rfl (by kernel_rfl) (by kernel_rfl) (by kernel_rfl) (fun _ _ _ h => h) (Or.inl ⟨by rfl, fun w' hSw => by go_simp⟩) hHeld ?_
                try simp only [Act.put, List.setIfInBounds_toArray, List.set_cons_zero, List.set_cons_succ]
                refine wpAnyH_take (i := 4) (oi := ⟨some 83, .move (.tmp 12), 3, "law.go:255", #[], none⟩) (v := .int .i64 (i : Int)) rfl (by kernel_rfl) (by kernel_rfl) (by kernel_rfl) (fun _ _ _ h => h) (Or.inl ⟨by rfl, fun w' hSw => by go_simp⟩) hHeld ?_
                try simp only [Act.put, List.setIfInBounds_toArray, List.set_cons_zero, List.set_cons_succ]
                refine wpAnyH_take (i := 5) (oi := ⟨some 84, .indexAddr 27 (.tmp 82) (.tmp 83), 0, "law.go:255", #[⟨3, .data⟩, ⟨4, .data⟩], none⟩) (v := .pointer (some ⟨tb, i, none⟩)) rfl (by kernel_rfl) (by kernel_rfl) (by kernel_rfl) (fun _ _ _ h => h) (Or.inl ⟨by rfl, fun w' hSw => by go_simp; try (intro hcm; exact absurd hcm (by omega))⟩) hHeld ?_
                try simp only [Act.put, List.setIfInBounds_toArray, List.set_cons_zero, List.set_cons_succ]
                refine wpAnyH_take (i := 6) (oi := ⟨some 85, .load 24 (.tmp 84), 24, "law.go:255", #[⟨5, .data⟩], none⟩) (v := .slice q n0 c0) rfl (by kernel_rfl) (by kernel_rfl) (by kernel_rfl) (fun _ _ _ h => h) (Or.inl ⟨by rfl, fun w' hSw => by have hc := CI w' hSw; go_simp⟩) hHeld ?_
                try simp only [Act.put, List.setIfInBounds_toArray, List.set_cons_zero, List.set_cons_succ]
                refine wpAnyH_take (i := 7) (oi := ⟨some 86, .move (.tmp 11), 27, "law.go:255", #[], none⟩) (v := .slice (some ⟨tb, 0, none⟩) 3 3) rfl (by kernel_rfl) (by kernel_rfl) (by kernel_rfl) (fun _ _ _ h => h) (Or.inl ⟨by rfl, fun w' hSw => by go_simp⟩) hHeld ?_
                try simp only [Act.put, List.setIfInBounds_toArray, List.set_cons_zero, List.set_cons_succ]
                refine wpAnyH_take (i := 8) (oi := ⟨some 87, .move (.tmp 13), 3, "law.go:255", #[], none⟩) (v := .int .i64 (j : Int)) rfl (by kernel_rfl) (by kernel_rfl) (by kernel_rfl) (fun _ _ _ h => h) (Or.inl ⟨by rfl, fun w' hSw => by go_simp⟩) hHeld ?_
                try simp only [Act.put, List.setIfInBounds_toArray, List.set_cons_zero, List.set_cons_succ]
                refine wpAnyH_take (i := 9) (oi := ⟨some 88, .indexAddr 27 (.tmp 86) (.tmp 87), 0, "law.go:255", #[⟨7, .data⟩, ⟨8, .data⟩], none⟩) (v := .pointer (some ⟨tb, j, none⟩)) rfl (by kernel_rfl) (by kernel_rfl) (by kernel_rfl) (fun _ _ _ h => h) (Or.inl ⟨by rfl, fun w' hSw => by go_simp; try (intro hcm; exact absurd hcm (by omega))⟩) hHeld ?_
                try simp only [Act.put, List.setIfInBounds_toArray, List.set_cons_zero, List.set_cons_succ]
                refine wpAnyH_take (i := 10) (oi := ⟨some 89, .load 24 (.tmp 88), 24, "law.go:255", #[⟨9, .data⟩], none⟩) (v := .slice qj nj cj) rfl (by kernel_rfl) (by kernel_rfl) (by kernel_rfl) (fun _ _ _ h => h) (Or.inl ⟨by rfl, fun w' hSw => by have hc := CJ w' hSw; go_simp⟩) hHeld ?_
                try simp only [Act.put, List.setIfInBounds_toArray, List.set_cons_zero, List.set_cons_succ]
                refine wpAnyH_ready (rs := [11]) (by kernel_rfl) (by simp) ?_
                refine AllReadyH.cons (o := ⟨some 90, .call { callee := .value (.func 33), args := #[.tmp 85, .tmp 89], argTypes := #[24, 24] }, 4, "law.go:255", #[⟨6, .data⟩, ⟨10, .data⟩], none⟩) rfl (fun K hK => ?_) AllReadyH.nil
                rw [if_pos (by rfl)]
                go_simp
                refine (HSm.out Y3 (link B7 hHeld)).mono ?_
                rintro e Y4 ⟨rfl, hB4⟩
                dsimp only
                refine hK.out _ _ (link hHeld hB4) (fun hHeld => ?_)
                clear hK K
                try simp only [Act.put, List.setIfInBounds_toArray, List.set_cons_zero, List.set_cons_succ]
                clear hB4
                refine wpAnyH_take (i := 12) (oi := ⟨some 91, .binOp .neq 4 (.tmp 81) (.tmp 90) 4, 4, "law.go:255", #[⟨2, .data⟩, ⟨11, .data⟩], none⟩) (v := .bool false) rfl (by kernel_rfl) (by kernel_rfl) (by kernel_rfl) (fun _ _ _ h => h) (Or.inl ⟨by rfl, fun w' hSw => by go_simp⟩) hHeld ?_
                try simp only [Act.put, List.setIfInBounds_toArray, List.set_cons_zero, List.set_cons_succ]
                refine wpAnyH_take (i := 13) (oi := ⟨some 92, .move (.tmp 91), 4, "law.go:255", #[⟨12, .data⟩, ⟨11, .chain⟩], none⟩) (v := .bool false) rfl (by kernel_rfl) (by kernel_rfl) (by kernel_rfl) (fun _ _ _ h => h) (Or.inl ⟨by rfl, fun w' hSw => by go_simp⟩) hHeld ?_
                try simp only [Act.put, List.setIfInBounds_toArray, List.set_cons_zero, List.set_cons_succ]
                refine wpAnyH_take (i := 14) (oi := ⟨some 93, .move (.tmp 11), 27, "law.go:255", #[⟨13, .guard⟩], some (13, true)⟩) (v := undef) rfl (by kernel_rfl) (by kernel_rfl) (by kernel_rfl) (fun _ _ _ h => h) (Or.inr ⟨by rfl, rfl⟩) hHeld ?_
                try simp only [Act.put, List.setIfInBounds_toArray, List.set_cons_zero, List.set_cons_succ]
                refine wpAnyH_take (i := 15) (oi := ⟨some 94, .move (.tmp 12), 3, "law.go:255", #[⟨13, .guard⟩], some (13, true)⟩) (v := undef) rfl (by kernel_rfl) (by kernel_rfl) (by kernel_rfl) (fun _ _ _ h => h) (Or.inr ⟨by rfl, rfl⟩) hHeld ?_
                try simp only [Act.put, List.setIfInBounds_toArray, List.set_cons_zero, List.set_cons_succ]
                refine wpAnyH_take (i := 16) (oi := ⟨some 95, .indexAddr 27 (.tmp 93) (.tmp 94), 0, "law.go:255", #[⟨14, .data⟩, ⟨15, .data⟩, ⟨13, .guard⟩], some (13, true)⟩) (v := undef) rfl (by kernel_rfl) (by kernel_rfl) (by kernel_rfl) (fun _ _ _ h => h) (Or.inr ⟨by rfl, rfl⟩) hHeld ?_
                try simp only [Act.put, List.setIfInBounds_toArray, List.set_cons_zero, List.set_cons_succ]
                refine wpAnyH_take (i := 17) (oi := ⟨some 96, .load 24 (.tmp 95), 24, "law.go:255", #[⟨16, .data⟩, ⟨13, .guard⟩], some (13, true)⟩) (v := undef) rfl (by kernel_rfl) (by kernel_rfl) (by kernel_rfl) (fun _ _ _ h => h) (Or.inr ⟨by rfl, rfl⟩) hHeld ?_
                try simp only [Act.put, List.setIfInBounds_toArray, List.set_cons_zero, List.set_cons_succ]
                refine wpAnyH_take (i := 18) (oi := ⟨some 97, .load 54 (.tmp 18), 54, "law.go:255", #[⟨13, .guard⟩], some (13, true)⟩) (v := undef) rfl (by kernel_rfl) (by kernel_rfl) (by kernel_rfl) (fun _ _ _ h => h) (Or.inr ⟨by rfl, rfl⟩) hHeld ?_
                try simp only [Act.put, List.setIfInBounds_toArray, List.set_cons_zero, List.set_cons_succ]
                refine wpAnyH_take (i := 19) (oi := ⟨some 98, .call { callee := .value (.func 36), args := #[.tmp 96, .tmp 97], argTypes := #[24, 54] }, 4, "law.go:255", #[⟨17, .data⟩, ⟨18, .data⟩, ⟨13, .chain⟩, ⟨13, .guard⟩], some (13, true)⟩) (v := undef) rfl (by kernel_rfl) (by kernel_rfl) (by kernel_rfl) (fun _ _ _ h => h) (Or.inr ⟨by rfl, rfl⟩) hHeld ?_
                try simp only [Act.put, List.setIfInBounds_toArray, List.set_cons_zero, List.set_cons_succ]
                refine wpAnyH_take (i := 20) (oi := ⟨some 99, .unOp .not 4 (.tmp 98), 4, "law.go:255", #[⟨19, .data⟩, ⟨13, .guard⟩], some (13, true)⟩) (v := undef) rfl (by kernel_rfl) (by kernel_rfl) (by kernel_rfl) (fun _ _ _ h => h) (Or.inr ⟨by rfl, rfl⟩) hHeld ?_
                try simp only [Act.put, List.setIfInBounds_toArray, List.set_cons_zero, List.set_cons_succ]
                refine wpAnyH_take (i := 21) (oi := ⟨some 100, .pick (.tmp 92) (.tmp 99) (.const (Value.bool false)), 4, "law.go:255", #[⟨13, .data⟩, ⟨20, .data⟩], none⟩) (v := .bool false) rfl (by kernel_rfl) (by kernel_rfl) (by kernel_rfl) (fun _ _ _ h => h) (Or.inl ⟨by rfl, fun w' hSw => by go_simp⟩) hHeld ?_
                try simp only [Act.put, List.setIfInBounds_toArray, List.set_cons_zero, List.set_cons_succ]
                refine wpAnyH_done (by kernel_rfl) ?_ _
                have B8 := link B7 hHeld
                clear hHeld CI CJ
                go_wp2
                go_roundw
                case rel => exact ⟨j + 1, by omega, by go_num, B8⟩
                case measure => simp [intOf]; omega
              · obtain ⟨rfl, rfl⟩ := HT hq
                clear hq
                refine wp_region_held_drew (S := fun w' => Below Y2.heap.size Y2 w') (by kernel_rfl) (below_drew (Below.refl _ _)) (fun _ => ?_)
                have hHeld : Below Y2.heap.size Y2 Y2.drew := below_drew (Below.refl _ _)
                have CJ : ∀ w', Below Y2.heap.size Y2 w' → w'.cell? ⟨tb, j, none⟩ = some (.slice qj nj cj) := fun w' h => ((link B7 h).cell (p := ⟨tb, j, none⟩) htb).trans hcellj
                have CI : ∀ w', Below Y2.heap.size Y2 w' → w'.cell? ⟨tb, i, none⟩ = some (.slice q n0 c0) := fun w' h => ((link B7 h).cell (p := ⟨tb, i, none⟩) htb).trans hcell
                generalize Y2.drew = Y3 at hHeld ⊢
                refine wpAnyH_take (i := 0) (oi := ⟨some 79, .load 29 (.tmp 14), 29, "law.go:255", #[], none⟩) (v := _) rfl (by kernel_rfl) (by kernel_rfl) (by kernel_rfl) (fun _ _ _ h => h) (yieldsIf_load_mid (by rfl) _ _ rfl _ 0 rfl _ _ (fun w' hSw => rng_blk (K5) w' hSw) Tryd.underlying29 rfl hsz) hHeld ?_
                try simp only [Act.put, List.setIfInBounds_toArray, List.set_cons_zero, List.set_cons_succ]
                refine wpAnyH_take (i := 1) (oi := ⟨some 80, .load 29 (.tmp 16), 29, "law.go:255", #[], none⟩) (v := _) rfl (by kernel_rfl) (by kernel_rfl) (by kernel_rfl) (fun _ _ _ h => h) (yieldsIf_load_mid (by rfl) _ _ rfl _ 0 rfl _ _ (fun w' hSw => rng_blk (K6) w' hSw) Tryd.underlying29 rfl hsj) hHeld ?_
                try simp only [Act.put, List.setIfInBounds_toArray, List.set_cons_zero, List.set_cons_succ]
                refine wpAnyH_take (i := 2) (oi := ⟨some 81, .binOp .eql 29 (.tmp 79) (.tmp 80) 29, 4, "law.go:255", #[⟨0, .data⟩, ⟨1, .data⟩], none⟩) (v := .bool true) rfl (by kernel_rfl) (by kernel_rfl) (by kernel_rfl) (fun _ _ _ h => h) (Or.inl ⟨by rfl, fun w' hSw => by have kd := KD.out w'; go_simp⟩) hHeld ?_
                try simp only [Act.put, List.setIfInBounds_toArray, List.set_cons_zero, List.set_cons_succ]
                refine wpAnyH_take (i := 3) (oi := ⟨some 82, .move (.tmp 11), 27, "law.go:255", #[], none⟩) (v := .slice (some ⟨tb, 0, none⟩) 3 3) rfl (by kernel_rfl) (by kernel_rfl) (by kernel_rfl) (fun _ _ _ h => h) (Or.inl ⟨by rfl, fun w' hSw => by go_simp⟩) hHeld ?_
                try simp only [Act.put, List.setIfInBounds_toArray, List.set_cons_zero, List.set_cons_succ]
                refine wpAnyH_take (i := 4) (oi := ⟨some 83, .move (.tmp 12), 3, "law.go:255", #[], none⟩) (v := .int .i64 (i : Int)) rfl (by kernel_rfl) (by kernel_rfl) (by kernel_rfl) (fun _ _ _ h => h) (Or.inl ⟨by rfl, fun w' hSw => by go_simp⟩) hHeld ?_
                try simp only [Act.put, List.setIfInBounds_toArray, List.set_cons_zero, List.set_cons_succ]
                refine wpAnyH_take (i := 5) (oi := ⟨some 84, .indexAddr 27 (.tmp 82) (.tmp 83), 0, "law.go:255", #[⟨3, .data⟩, ⟨4, .data⟩], none⟩) (v := .pointer (some ⟨tb, i, none⟩)) rfl (by kernel_rfl) (by kernel_rfl) (by kernel_rfl) (fun _ _ _ h => h) (Or.inl ⟨by rfl, fun w' hSw => by go_simp; try (intro hcm; exact absurd hcm (by omega))⟩) hHeld ?_
                try simp only [Act.put, List.setIfInBounds_toArray, List.set_cons_zero, List.set_cons_succ]
                refine wpAnyH_take (i := 6) (oi := ⟨some 85, .load 24 (.tmp 84), 24, "law.go:255", #[⟨5, .data⟩], none⟩) (v := .slice q n0 c0) rfl (by kernel_rfl) (by kernel_rfl) (by kernel_rfl) (fun _ _ _ h => h) (Or.inl ⟨by rfl, fun w' hSw => by have hc := CI w' hSw; go_simp⟩) hHeld ?_
                try simp only [Act.put, List.setIfInBounds_toArray, List.set_cons_zero, List.set_cons_succ]
                refine wpAnyH_take (i := 7) (oi := ⟨some 86, .move (.tmp 11), 27, "law.go:255", #[], none⟩) (v := .slice (some ⟨tb, 0, none⟩) 3 3) rfl (by kernel_rfl) (by kernel_rfl) (by kernel_rfl) (fun _ _ _ h => h) (Or.inl ⟨by rfl, fun w' hSw => by go_simp⟩) hHeld ?_
                try simp only [Act.put, List.setIfInBounds_toArray, List.set_cons_zero, List.set_cons_succ]
                refine wpAnyH_take (i := 8) (oi := ⟨some 87, .move (.tmp 13), 3, "law.go:255", #[], none⟩) (v := .int .i64 (j : Int)) rfl (by kernel_rfl) (by kernel_rfl) (by kernel_rfl) (fun _ _ _ h => h) (Or.inl ⟨by rfl, fun w' hSw => by go_simp⟩) hHeld ?_
                try simp only [Act.put, List.setIfInBounds_toArray, List.set_cons_zero, List.set_cons_succ]
                refine wpAnyH_take (i := 9) (oi := ⟨some 88, .indexAddr 27 (.tmp 86) (.tmp 87), 0, "law.go:255", #[⟨7, .data⟩, ⟨8, .data⟩], none⟩) (v := .pointer (some ⟨tb, j, none⟩)) rfl (by kernel_rfl) (by kernel_rfl) (by kernel_rfl) (fun _ _ _ h => h) (Or.inl ⟨by rfl, fun w' hSw => by go_simp; try (intro hcm; exact absurd hcm (by omega))⟩) hHeld ?_
                try simp only [Act.put, List.setIfInBounds_toArray, List.set_cons_zero, List.set_cons_succ]
                refine wpAnyH_take (i := 10) (oi := ⟨some 89, .load 24 (.tmp 88), 24, "law.go:255", #[⟨9, .data⟩], none⟩) (v := .slice qj nj cj) rfl (by kernel_rfl) (by kernel_rfl) (by kernel_rfl) (fun _ _ _ h => h) (Or.inl ⟨by rfl, fun w' hSw => by have hc := CJ w' hSw; go_simp⟩) hHeld ?_
                try simp only [Act.put, List.setIfInBounds_toArray, List.set_cons_zero, List.set_cons_succ]
                refine wpAnyH_ready (rs := [11]) (by kernel_rfl) (by simp) ?_
                refine AllReadyH.cons (o := ⟨some 90, .call { callee := .value (.func 33), args := #[.tmp 85, .tmp 89], argTypes := #[24, 24] }, 4, "law.go:255", #[⟨6, .data⟩, ⟨10, .data⟩], none⟩) rfl (fun K hK => ?_) AllReadyH.nil
                rw [if_pos (by rfl)]
                go_simp
                refine (HSm.out Y3 (link B7 hHeld)).mono ?_
                rintro e Y4 ⟨rfl, hB4⟩
                dsimp only
                refine hK.out _ _ (link hHeld hB4) (fun hHeld => ?_)
                clear hK K
                try simp only [Act.put, List.setIfInBounds_toArray, List.set_cons_zero, List.set_cons_succ]
                clear hB4
                refine wpAnyH_take (i := 12) (oi := ⟨some 91, .binOp .neq 4 (.tmp 81) (.tmp 90) 4, 4, "law.go:255", #[⟨2, .data⟩, ⟨11, .data⟩], none⟩) (v := .bool true) rfl (by kernel_rfl) (by kernel_rfl) (by kernel_rfl) (fun _ _ _ h => h) (Or.inl ⟨by rfl, fun w' hSw => by go_simp⟩) hHeld ?_
                try simp only [Act.put, List.setIfInBounds_toArray, List.set_cons_zero, List.set_cons_succ]
                refine wpAnyH_take (i := 13) (oi := ⟨some 92, .move (.tmp 91), 4, "law.go:255", #[⟨12, .data⟩, ⟨11, .chain⟩], none⟩) (v := .bool true) rfl (by kernel_rfl) (by kernel_rfl) (by kernel_rfl) (fun _ _ _ h => h) (Or.inl ⟨by rfl, fun w' hSw => by go_simp⟩) hHeld ?_
                try simp only [Act.put, List.setIfInBounds_toArray, List.set_cons_zero, List.set_cons_succ]
                refine wpAnyH_take (i := 14) (oi := ⟨some 93, .move (.tmp 11), 27, "law.go:255", #[⟨13, .guard⟩], some (13, true)⟩) (v := .slice (some ⟨tb, 0, none⟩) 3 3) rfl (by kernel_rfl) (by kernel_rfl) (by kernel_rfl) (fun _ _ _ h => h) (Or.inl ⟨by rfl, fun w' hSw => by go_simp⟩) hHeld ?_
                try simp only [Act.put, List.setIfInBounds_toArray, List.set_cons_zero, List.set_cons_succ]
                refine wpAnyH_take (i := 15) (oi := ⟨some 94, .move (.tmp 12), 3, "law.go:255", #[⟨13, .guard⟩], some (13, true)⟩) (v := .int .i64 (i : Int)) rfl (by kernel_rfl) (by kernel_rfl) (by kernel_rfl) (fun _ _ _ h => h) (Or.inl ⟨by rfl, fun w' hSw => by go_simp⟩) hHeld ?_
                try simp only [Act.put, List.setIfInBounds_toArray, List.set_cons_zero, List.set_cons_succ]
                refine wpAnyH_take (i := 16) (oi := ⟨some 95, .indexAddr 27 (.tmp 93) (.tmp 94), 0, "law.go:255", #[⟨14, .data⟩, ⟨15, .data⟩, ⟨13, .guard⟩], some (13, true)⟩) (v := .pointer (some ⟨tb, i, none⟩)) rfl (by kernel_rfl) (by kernel_rfl) (by kernel_rfl) (fun _ _ _ h => h) (Or.inl ⟨by rfl, fun w' hSw => by go_simp; try (intro hcm; exact absurd hcm (by omega))⟩) hHeld ?_
                try simp only [Act.put, List.setIfInBounds_toArray, List.set_cons_zero, List.set_cons_succ]
                refine wpAnyH_take (i := 17) (oi := ⟨some 96, .load 24 (.tmp 95), 24, "law.go:255", #[⟨16, .data⟩, ⟨13, .guard⟩], some (13, true)⟩) (v := .slice q n0 c0) rfl (by kernel_rfl) (by kernel_rfl) (by kernel_rfl) (fun _ _ _ h => h) (Or.inl ⟨by rfl, fun w' hSw => by have hc := CI w' hSw; go_simp⟩) hHeld ?_
                try simp only [Act.put, List.setIfInBounds_toArray, List.set_cons_zero, List.set_cons_succ]
                refine wpAnyH_take (i := 18) (oi := ⟨some 97, .load 54 (.tmp 18), 54, "law.go:255", #[⟨13, .guard⟩], some (13, true)⟩) (v := _) rfl (by kernel_rfl) (by kernel_rfl) (by kernel_rfl) (fun _ _ _ h => h) (yieldsIf_load_mid (by rfl) _ _ rfl _ 0 rfl _ _ (fun w' hSw => rng_blk (Kq) w' hSw) Tryd.underlying54 rfl (by kernel_rfl)) hHeld ?_
                try simp only [Act.put, List.setIfInBounds_toArray, List.set_cons_zero, List.set_cons_succ]
                refine wpAnyH_ready (rs := [19]) (by kernel_rfl) (by simp) ?_
                refine AllReadyH.cons (o := ⟨some 98, .call { callee := .value (.func 36), args := #[.tmp 96, .tmp 97], argTypes := #[24, 54] }, 4, "law.go:255", #[⟨17, .data⟩, ⟨18, .data⟩, ⟨13, .chain⟩, ⟨13, .guard⟩], some (13, true)⟩) rfl (fun K hK => ?_) AllReadyH.nil
                rw [if_pos (by rfl)]
                go_simp
                refine (HCo.out Y4 (link B7 hHeld)).mono ?_
                rintro e Y5 ⟨b, rfl, hb, hB5⟩
                obtain rfl : b = true := HW.out rfl rfl b hb
                dsimp only
                refine hK.out _ _ (link hHeld hB5) (fun hHeld => ?_)
                clear hK K
                try simp only [Act.put, List.setIfInBounds_toArray, List.set_cons_zero, List.set_cons_succ]
                clear hB5 hb
                refine wpAnyH_take (i := 20) (oi := ⟨some 99, .unOp .not 4 (.tmp 98), 4, "law.go:255", #[⟨19, .data⟩, ⟨13, .guard⟩], some (13, true)⟩) (v := .bool false) rfl (by kernel_rfl) (by kernel_rfl) (by kernel_rfl) (fun _ _ _ h => h) (Or.inl ⟨by rfl, fun w' hSw => by go_simp⟩) hHeld ?_
                try simp only [Act.put, List.setIfInBounds_toArray, List.set_cons_zero, List.set_cons_succ]
                refine wpAnyH_take (i := 21) (oi := ⟨some 100, .pick (.tmp 92) (.tmp 99) (.const (Value.bool false)), 4, "law.go:255", #[⟨13, .data⟩, ⟨20, .data⟩], none⟩) (v := .bool false) rfl (by kernel_rfl) (by kernel_rfl) (by kernel_rfl) (fun _ _ _ h => h) (Or.inl ⟨by rfl, fun w' hSw => by go_simp⟩) hHeld ?_
                try simp only [Act.put, List.setIfInBounds_toArray, List.set_cons_zero, List.set_cons_succ]
                refine wpAnyH_done (by kernel_rfl) ?_ _
                have B8 := link B7 hHeld
                clear hHeld CI CJ
                go_wp2
                go_roundw
                case rel => exact ⟨j + 1, by omega, by go_num, B8⟩
                case measure => simp [intOf]; omega
            · go_wp2
              go_roundw
              case rel => exact ⟨j + 1, by omega, by go_num, B6'⟩
              case measure => simp [intOf]; omega
          · go_wp2
            go_roundw
            case rel => exact ⟨j + 1, by omega, by go_num, B6'⟩
            case measure => simp [intOf]; omega
        · go_wp2
          go_roundw
          case rel => exact ⟨i + 1, by omega, by go_num, BX⟩
          case measure => simp [intOf]; omega
    · go_upto_region 17 with (first
      | (go_at_call 11; refine (root_nil.out _ (G6.keep hB)).mono ?_; rintro e W9 ⟨rfl, hB9⟩)
      | (refine store_blk rfl 29 (.tmp 19) (.tmp 103) rfl (blk_new W9 29 (bytesV z16).toArray) rfl rfl (m := 16) (by kernel_rfl) hvZ hz16 (bytesV_cells ZD) ?_; intro U0 KZ O9))
      have BU : Below V6.heap.size V6 U0 := link hB (link hB9 (O9.2.2 _ _ (Nat.le_refl _) ((Below.refl _ _).alloc (Nat.le_refl _) _)))
      generalize W9.heap.size = tz at KZ ⊢
      clear hB9 O9 hB
      refine wp_region_held_drew (S := fun w' => Below U0.heap.size U0 w') (by kernel_rfl) (below_drew (Below.refl _ _)) (fun _ => ?_)
      have hHeld : Below U0.heap.size U0 U0.drew := below_drew (Below.refl _ _)
      generalize U0.drew = U1 at hHeld ⊢
      refine wpAnyH_take (i := 0) (oi := ⟨some 105, .move (.tmp 20), 30, "law.go:261", #[], none⟩) (v := .int .i64 0) rfl (by kernel_rfl) (by kernel_rfl) (by kernel_rfl) (fun _ _ _ h => h) (Or.inl ⟨by rfl, fun w' hSw => by go_simp⟩) hHeld ?_
      try simp only [Act.put, List.setIfInBounds_toArray, List.set_cons_zero, List.set_cons_succ]
      refine wpAnyH_take (i := 1) (oi := ⟨some 106, .binOp .eql 30 (.tmp 105) (.const (Value.int IntKind.i64 0)) 30, 4, "law.go:261", #[⟨0, .data⟩], none⟩) (v := .bool true) rfl (by kernel_rfl) (by kernel_rfl) (by kernel_rfl) (fun _ _ _ h => h) (Or.inl ⟨by rfl, fun w' hSw => by go_simp⟩) hHeld ?_
      try simp only [Act.put, List.setIfInBounds_toArray, List.set_cons_zero, List.set_cons_succ]
      refine wpAnyH_take (i := 2) (oi := ⟨some 107, .move (.tmp 106), 4, "law.go:261", #[⟨1, .data⟩], none⟩) (v := .bool true) rfl (by kernel_rfl) (by kernel_rfl) (by kernel_rfl) (fun _ _ _ h => h) (Or.inl ⟨by rfl, fun w' hSw => by go_simp⟩) hHeld ?_
      try simp only [Act.put, List.setIfInBounds_toArray, List.set_cons_zero, List.set_cons_succ]
      refine wpAnyH_take (i := 3) (oi := ⟨some 108, .load 29 (.tmp 19), 29, "law.go:261", #[⟨2, .guard⟩], some (2, true)⟩) (v := _) rfl (by kernel_rfl) (by kernel_rfl) (by kernel_rfl) (fun _ _ _ h => h) (yieldsIf_load_mid (by rfl) _ _ rfl _ 0 rfl _ _ (fun w' hSw => rng_blk (KZ) w' hSw) Tryd.underlying29 rfl hsZ) hHeld ?_
      try simp only [Act.put, List.setIfInBounds_toArray, List.set_cons_zero, List.set_cons_succ]
      refine wpAnyH_ready (rs := [4]) (by kernel_rfl) (by simp) ?_
      refine AllReadyH.cons (o := ⟨some 109, .call { callee := .value (.func 38), args := #[.const (Value.int IntKind.i64 0)], argTypes := #[3] }, 39, "law.go:261", #[⟨2, .chain⟩, ⟨2, .guard⟩], some (2, true)⟩) rfl (fun K hK => ?_) AllReadyH.nil
      rw [if_pos (by rfl)]
      go_simp
      refine (HI.out U1).mono ?_
      rintro e U2 ⟨g, cap, rfl, hOw⟩
      have hcv := conv_cells U2 ⟨g, 0, none⟩ cap (enc 0) hbt (hOw.has hbt).cells
      dsimp only
      refine hK.out _ _ (link hHeld hOw.below) (fun hHeld => ?_)
      clear hK K
      try simp only [Act.put, List.setIfInBounds_toArray, List.set_cons_zero, List.set_cons_succ]
      refine wpAnyH_ready (rs := [5]) (by kernel_rfl) (by simp) ?_
      refine AllReadyH.cons (o := ⟨some 110, .convert 39 9 (.tmp 109), 9, "law.go:261", #[⟨4, .data⟩, ⟨2, .guard⟩], some (2, true)⟩) rfl (fun K hK => ?_) AllReadyH.nil
      rw [if_pos (by rfl)]
      go_simp
      refine hK.out _ _ (hHeld) (fun hHeld => ?_)
      clear hK K
      try simp only [Act.put, List.setIfInBounds_toArray, List.set_cons_zero, List.set_cons_succ]
      clear hcv hOw
      refine wpAnyH_ready (rs := [6]) (by kernel_rfl) (by simp) ?_
      refine AllReadyH.cons (o := ⟨some 111, .buildSlice 47 1 #[(0, .tmp 110)], 47, "law.go:261", #[⟨5, .data⟩, ⟨2, .guard⟩], some (2, true)⟩) rfl (fun K hK => ?_) AllReadyH.nil
      rw [if_pos (by rfl)]
      go_simp
      have hcl := cells_strs U2 [strOf (enc 0)]
      have XA := (Below.refl U2.heap.size U2).alloc (Nat.le_refl _) (.cells #[.string (strOf (enc 0))] 9)
      change Cells (U2.alloc (.cells #[.string (strOf (enc 0))] 9)) _ _ at hcl
      refine hK.out _ _ (link hHeld XA) (fun hHeld => ?_)
      clear hK K
      try simp only [Act.put, List.setIfInBounds_toArray, List.set_cons_zero, List.set_cons_succ]
      clear XA
      generalize U2.alloc (.cells #[.string (strOf (enc 0))] 9) = U3 at hcl hHeld ⊢
      refine wpAnyH_ready (rs := [7]) (by kernel_rfl) (by simp) ?_
      refine AllReadyH.cons (o := ⟨some 112, .call { callee := .value (.func 37), args := #[.const (Value.int IntKind.i64 4), .tmp 111], argTypes := #[3, 47] }, 29, "law.go:261", #[⟨6, .data⟩, ⟨4, .chain⟩, ⟨2, .guard⟩], some (2, true)⟩) rfl (fun K hK => ?_) AllReadyH.nil
      rw [if_pos (by rfl)]
      go_simp
      refine (HO.out U3 _ (GR6.keep (link BU hHeld)) hcl).mono ?_
      rintro e U4 ⟨rfl, hB4⟩
      dsimp only
      refine hK.out _ _ (link hHeld hB4) (fun hHeld => ?_)
      clear hK K
      try simp only [Act.put, List.setIfInBounds_toArray, List.set_cons_zero, List.set_cons_succ]
      clear hB4
      refine wpAnyH_take (i := 8) (oi := ⟨some 113, .binOp .eql 29 (.tmp 108) (.tmp 112) 29, 4, "law.go:261", #[⟨3, .data⟩, ⟨7, .data⟩, ⟨2, .guard⟩], some (2, true)⟩) (v := .bool true) rfl (by kernel_rfl) (by kernel_rfl) (by kernel_rfl) (fun _ _ _ h => h) (Or.inl ⟨by rfl, fun w' hSw => by have kd := equal_self16 ZD hZd w'; go_simp⟩) hHeld ?_
      try simp only [Act.put, List.setIfInBounds_toArray, List.set_cons_zero, List.set_cons_succ]
      refine wpAnyH_take (i := 9) (oi := ⟨some 114, .pick (.tmp 107) (.tmp 113) (.const (Value.bool false)), 4, "law.go:261", #[⟨2, .data⟩, ⟨8, .data⟩], none⟩) (v := .bool true) rfl (by kernel_rfl) (by kernel_rfl) (by kernel_rfl) (fun _ _ _ h => h) (Or.inl ⟨by rfl, fun w' hSw => by go_simp⟩) hHeld ?_
      try simp only [Act.put, List.setIfInBounds_toArray, List.set_cons_zero, List.set_cons_succ]
      refine wpAnyH_take (i := 10) (oi := ⟨some 115, .move (.tmp 114), 4, "law.go:261", #[⟨9, .data⟩, ⟨7, .chain⟩], none⟩) (v := .bool true) rfl (by kernel_rfl) (by kernel_rfl) (by kernel_rfl) (fun _ _ _ h => h) (Or.inl ⟨by rfl, fun w' hSw => by go_simp⟩) hHeld ?_
      try simp only [Act.put, List.setIfInBounds_toArray, List.set_cons_zero, List.set_cons_succ]
      refine wpAnyH_ready (rs := [11]) (by kernel_rfl) (by simp) ?_
      refine AllReadyH.cons (o := ⟨some 116, .call { callee := .value (.func 18), args := #[], argTypes := #[] }, 4, "law.go:261", #[⟨10, .chain⟩, ⟨10, .guard⟩], some (10, true)⟩) rfl (fun K hK => ?_) AllReadyH.nil
      rw [if_pos (by rfl)]
      go_simp
      refine (HLv.out U4 (G6.keep (link BU hHeld))).mono ?_
      rintro e U5 ⟨rfl, hB5⟩
      dsimp only
      refine hK.out _ _ (link hHeld hB5) (fun hHeld => ?_)
      clear hK K
      try simp only [Act.put, List.setIfInBounds_toArray, List.set_cons_zero, List.set_cons_succ]
      clear hB5
      refine wpAnyH_take (i := 12) (oi := ⟨some 117, .pick (.tmp 115) (.tmp 116) (.const (Value.bool false)), 4, "law.go:261", #[⟨10, .data⟩, ⟨11, .data⟩], none⟩) (v := .bool true) rfl (by kernel_rfl) (by kernel_rfl) (by kernel_rfl) (fun _ _ _ h => h) (Or.inl ⟨by rfl, fun w' hSw => by go_simp⟩) hHeld ?_
      try simp only [Act.put, List.setIfInBounds_toArray, List.set_cons_zero, List.set_cons_succ]
      refine wpAnyH_ready (rs := [13]) (by kernel_rfl) (by simp) ?_
      refine AllReadyH.cons (o := ⟨some 8, .assign (.tmp 117), 4, "law.go:261", #[⟨12, .data⟩, ⟨11, .chain⟩, ⟨0, .phase⟩, ⟨1, .phase⟩, ⟨2, .phase⟩, ⟨3, .phase⟩, ⟨4, .phase⟩, ⟨5, .phase⟩, ⟨6, .phase⟩, ⟨7, .phase⟩, ⟨8, .phase⟩, ⟨9, .phase⟩, ⟨10, .phase⟩, ⟨11, .phase⟩, ⟨12, .phase⟩], none⟩) rfl (fun K hK => ?_) AllReadyH.nil
      go_simp
      refine hK.out _ _ (hHeld) (fun hHeld => ?_)
      clear hK K
      try simp only [Act.put, List.setIfInBounds_toArray, List.set_cons_zero, List.set_cons_succ]
      refine wpAnyH_done (by kernel_rfl) ?_ _
      have BV := link BU hHeld
      clear hHeld
      go_wp2
      go_ret
      exact ⟨rfl, link B6 BV⟩

end Go.Proofs.YtfhfmdnimebegaaDoor
