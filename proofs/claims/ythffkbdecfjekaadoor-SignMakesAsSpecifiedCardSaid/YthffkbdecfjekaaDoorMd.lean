/-
  signatures as mathematics; what the package sign and its specification call. Conditions: as each theorem states them; no axiom beyond propext, Classical.choice, Quot.sound.
-/
import Derived.Test.YthffkbdecfjekaaDoorMb
import Derived.Test.YthffkbdecfjekaaDoorMc
import Derived.Test.YthffkbdecfjekaaDoorMa
import Derived.Deep.RegionHeld
import Derived.Lib.SlBytesConst
import Derived.Deep.Cut
import Derived.ArgAppend
import Derived.Deep.DeepAppendRoom
import Derived.Deep.Onto

/-
  sign.leaf and sign.join: the nodes of the tree.
-/
namespace Go.Proofs.YthffkbdecfjekaaDoor
open Go.RowKit
set_option linter.unusedVariables false
set_option linter.unusedSimpArgs false

/-- The digest of parts, as the package hash makes it. -/
def ofS (T : Nat) (ps : List (List Nat)) : List Nat := (sha (ofIn T ps)).take 16
theorem ofS_length (T : Nat) (ps : List (List Nat)) : (ofS T ps).length = 16 := by unfold ofS; rw [List.length_take, sha_length]; rfl
theorem ofS_byte (T : Nat) (ps : List (List Nat)) : ∀ y ∈ ofS T ps, y < 256 := fun y hy => sha_byte _ y (List.mem_of_mem_take hy)
def leafM (tops : List Nat) : List Nat := ofS 3 [ofS 2 [tops]]
def joinM (a b : List Nat) : List Nat := ofS 4 [a, b]
theorem has_blk {w : World} {b : Nat} {t : TypeId} {D : List Nat} (h : Blk w b t (bytesV D)) (hb : ∀ y ∈ D, y < 256) : Has w (some ⟨b, 0, none⟩) D := by
  have := has_of_blk (l := D) h (by rw [List.take_of_length_le (by rw [bytesV_length]; omega)]) hb 0 D.length
  rwa [List.drop_zero, List.take_length] at this
theorem conv_dig {w : World} {b : Nat} {t : TypeId} {D : List Nat} (h : Blk w b t (bytesV D)) (hl : D.length = 16) (hb : ∀ y ∈ D, y < 256) : (convert 52 9 (.slice (some ⟨b, 0, none⟩) 16 16)).run Tryd.prog w = .ok (.string (strOf D)) w :=
  conv_any (some ⟨b, 0, none⟩) D 16 16 w hl.symm (has_blk h hb)
theorem slice_dig (w : World) (b : Nat) : (Instr.sliceAt 23 (.pointer (some ⟨b, 0, none⟩)) none none none).run Tryd.prog w = .ok (.slice (some ⟨b, 0, none⟩) 16 16) w := by
  have hL : Tryd.prog.arrayLen 23 = 16 := by kernel_rfl
  have hE : Tryd.prog.elem 23 = 5 := by kernel_rfl
  have ht : Tryd.prog.underlying 23 = some (.array (Tryd.prog.arrayLen 23) (Tryd.prog.elem 23)) := by rw [hL, hE]; exact Tryd.underlying23
  rw [run_sliceAt_array_all w _ _ ht, hE, size_u8, hL]
  simp [Result.andThen_ok, slicedAt, Addr.add_mid]
/-- hash.Of at a list of strings that was just laid. -/
theorem of_lit (T : Nat) (hT : T < 256) (xs : List ByteArray) (hl : xs.length ≤ 1024) (ht : ∀ s ∈ xs, s.size ≤ 1048576) (C : Array Value) (hC : C = (strsV xs).toArray) (n : Nat) (hn : n = xs.length) (w : World) (hG : Glob w) :
    Calls Tryd.prog 34 #[.int .i64 (T : Int), .slice (some ⟨w.heap.size, 0, none⟩) n n] (w.alloc (.cells C 9)) fun e w' => e = .returned (.agg (bytesV (ofS T (sbs xs))).toArray) ∧ Below w.heap.size w w' := by
  subst hC; subst hn
  have hB : Below w.heap.size w (w.alloc (.cells (strsV xs).toArray 9)) := (Below.refl _ _).alloc (Nat.le_refl _) _
  refine (of_any (T : Int) T hT ?_ (some ⟨w.heap.size, 0, none⟩) xs xs.length xs.length _ rfl (by omega) ht (cells_lit w (strsV xs).toArray 9) (hG.keep hB)).mono ?_
  · simp [IntKind.wrap, IntKind.signed, IntKind.bits]
    omega
  · rintro e w' ⟨rfl, h⟩
    exact ⟨rfl, hB.trans (h.mono hB.size)⟩

set_option maxHeartbeats 1000000 in
set_option maxRecDepth 100000 in
theorem leaf_any (s : ByteArray) (hs : s.size ≤ 1048576) (w : World) (hG : Glob w) :
    Calls Tryd.prog 38 #[.string s] w fun e w' => e = .returned (.agg (bytesV (leafM (sb s))).toArray) ∧ Below w.heap.size w w' := by
  have hz1 := zero_dig'
  have hz16 : (bytesV z16).toArray.toList.length = 16 := rfl
  go_enter Tryd.func38, Tryd.ntmps38
  go_upto_region 1 with (fail)
  generalize hw0 : World.alloc _ _ = W0
  have K0 : Blk W0 w.heap.size 23 (bytesV z16) := hw0 ▸ blk_new w _ _
  have KB : Below w.heap.size w W0 := hw0 ▸ ((Below.refl _ _).alloc (Nat.le_refl _) _)
  clear hw0
  have H1 := Lib.hid (of_lit 2 (by omega) [s] (by simp) (by intro x hx; rw [List.mem_singleton.1 hx]; exact hs) #[.string s] rfl 1 rfl W0 (hG.keep KB))
  have hl1 := ofS_length 2 (sbs [s])
  have hb1 := ofS_byte 2 (sbs [s])
  have hE : leafM (sb s) = ofS 3 [ofS 2 (sbs [s])] := rfl
  have HE := Lib.hid hE
  clear hE
  generalize ofS 2 (sbs [s]) = D at H1 hl1 hb1 HE
  have hv1 : (bytesV D).length = 16 := by rw [bytesV_length]; exact hl1
  go_upto_region 2 with (first | (go_at_call 34; refine H1.out.mono ?_; rintro e w1 ⟨rfl, hB1⟩) | (refine store_blk rfl 23 (.tmp 3) (.tmp 6) rfl (blk_new w1 23 (bytesV z16).toArray) rfl rfl (m := 16) (by kernel_rfl) hv1 hz16 (bytesV_cells D) ?_; intro x1 K3 O3))
  have hk0 := K0.lt
  have hs1 := hB1.size
  have L0 := O3.2.1 _ _ _ (by omega) ((K0.keep hB1).alloc (.cells (bytesV z16).toArray 23))
  have Z1 : Below W0.heap.size W0 x1 := O3.2.2 _ _ hB1.size (hB1.alloc hB1.size _)
  have LB := link KB Z1
  have hsl := slice_dig
  have hcv := conv_dig K3 hl1 hb1
  have hsz : (strOf D).size ≤ 1048576 := by rw [strOf_size, hl1]; omega
  have H2 := of_lit 3 (by omega) [strOf D] (by simp) (by intro x hx; rw [List.mem_singleton.1 hx]; exact hsz) #[.string (strOf D)] rfl 1 rfl x1 (hG.keep LB)
  have hsb : sbs [strOf D] = [D] := by simp [sbs, sb_strOf D hb1]
  rw [hsb, ← HE.out] at H2
  have H2' := Lib.hid H2
  have hl2 : (leafM (sb s)).length = 16 := ofS_length _ _
  have hv2 : (bytesV (leafM (sb s))).length = 16 := by rw [bytesV_length]; exact hl2
  have hzz : (bytesV z16).length = 16 := rfl
  clear H1 H2 hB1 O3 K0 hk0 hs1 hz1 hz16 K3
  obtain ⟨E, hEe⟩ : ∃ E, leafM (sb s) = E := ⟨_, rfl⟩
  rw [hEe] at H2' hl2 hv2
  have HEE := Lib.hid hEe
  clear hEe
  go_wp2_with (first | (go_at_call 34; refine H2'.out.mono ?_; rintro e w2 ⟨rfl, hB2⟩) | (refine store_blk rfl 23 (.tmp 2) (.tmp 10) rfl (L0.keep hB2) rfl rfl (m := 16) (by kernel_rfl) hv2 hzz (bytesV_cells E) ?_; intro x2 K5 O5))
  exact bodyPost_ret (v := .agg (bytesV E).toArray) (K5.result (p := 2) (ty := 23) rfl _ rfl Tryd.underlying23 (by rw [hv2]; kernel_rfl)) rfl ⟨by rw [HEE.out], O5.2.2 _ _ (Nat.le_refl _) (link LB hB2)⟩

end Go.Proofs.YthffkbdecfjekaaDoor

/-
  sign.advance: the values of a chain.
-/
namespace Go.Proofs.YthffkbdecfjekaaDoor
open Go.RowKit
set_option linter.unusedVariables false
set_option linter.unusedSimpArgs false

/-- The number of key, chain and height, encoded. -/
def encC (key chain t : Nat) : List Nat := encL [(key : Int), (chain : Int), (t : Int)]
/-- The value of a chain that is n heights above the value v at height a. -/
def advM (key chain a : Nat) (v : List Nat) : Nat → List Nat
  | 0 => v
  | n + 1 => ofS 1 [encC key chain (a + n), advM key chain a v n]
/-- A digest's bytes. -/
def Dgt (d : List Nat) : Prop := d.length = 16 ∧ ∀ y ∈ d, y < 256
theorem dig_ofS (T : Nat) (ps : List (List Nat)) : Dgt (ofS T ps) := ⟨ofS_length T ps, ofS_byte T ps⟩
theorem advM_dig (key chain a : Nat) (v : List Nat) (hv : Dgt v) : ∀ n, Dgt (advM key chain a v n)
  | 0 => hv
  | n + 1 => dig_ofS _ _

theorem ints3 (w : World) (a b c : Nat) : Cells (w.alloc (.cells #[.int .i64 (a : Int), .int .i64 (b : Int), .int .i64 (c : Int)] 3)) (some ⟨w.heap.size, 0, none⟩) (intsV [(a : Int), (b : Int), (c : Int)]) := cells_lit w #[.int .i64 (a : Int), .int .i64 (b : Int), .int .i64 (c : Int)] 3
theorem encC_ok (a b c : Nat) (ha : a ≤ 1000000) (hb : b ≤ 1000000) (hc : c ≤ 1000000) : ∀ x ∈ [(a : Int), (b : Int), (c : Int)], I64 x := by
  intro x hx
  simp only [List.mem_cons, List.mem_nil_iff, or_false] at hx
  unfold I64
  omega
theorem encC_byte (a b c : Nat) (ha : a ≤ 1000000) (hb : b ≤ 1000000) (hc : c ≤ 1000000) : ∀ y ∈ encC a b c, y < 256 := by
  intro y hy
  unfold encC encL at hy
  rcases List.mem_append.1 hy with h | h
  · exact enc_lt _ (by simp) (by simp) y h
  · obtain ⟨x, hx, h2⟩ := List.mem_flatMap.1 h
    have := encC_ok a b c ha hb hc x hx
    exact enc_lt x this.1 this.2 y h2
theorem encC_length (a b c : Nat) (ha : a ≤ 1000000) (hb : b ≤ 1000000) (hc : c ≤ 1000000) : (encC a b c).length ≤ 100 := by
  have h0 := enc_length (([(a : Int), (b : Int), (c : Int)].length : Nat) : Int) (by simp) (by simp)
  have h1 := enc_length (a : Int) (by omega) (by omega)
  have h2 := enc_length (b : Int) (by omega) (by omega)
  have h3 := enc_length (c : Int) (by omega) (by omega)
  unfold encC encL
  simp only [List.length_append, List.flatMap_cons, List.flatMap_nil, List.length_nil]
  omega
theorem two_size {l m : List Nat} (hl : l.length ≤ 100) (hm : m.length = 16) : ∀ s ∈ [strOf l, strOf m], s.size ≤ 1048576 := by
  intro s hs
  simp only [List.mem_cons, List.mem_nil_iff, or_false] at hs
  rcases hs with rfl | rfl
  · rw [strOf_size]; omega
  · rw [strOf_size]; omega
theorem two_sbs {l m : List Nat} (hl : ∀ y ∈ l, y < 256) (hm : ∀ y ∈ m, y < 256) : sbs [strOf l, strOf m] = [l, m] := by
  simp [sbs, sb_strOf l hl, sb_strOf m hm]

set_option maxHeartbeats 2000000 in
set_option maxRecDepth 100000 in
theorem advance_any (key chain a b : Nat) (hk : key ≤ 1000000) (hc : chain ≤ 1000000) (hab : a ≤ b) (hb : b ≤ 1000000) (v : List Nat) (hv : Dgt v) (w : World) (hG : Glob w) :
    Calls Tryd.prog 27 #[.int .i64 (key : Int), .int .i64 (chain : Int), .int .i64 (a : Int), .int .i64 (b : Int), .agg (bytesV v).toArray] w fun e w' => e = .returned (.agg (bytesV (advM key chain a v (b - a))).toArray) ∧ Below w.heap.size w w' := by
  have hz1 := zero_dig'
  go_enter Tryd.func27, Tryd.ntmps27
  go_upto_region 1 with (fail)
  generalize hw0 : World.alloc _ _ = W0
  have K9 : Blk W0 w.heap.size 23 (bytesV v) := hw0 ▸ ((blk_new w _ _).alloc _)
  have K10 : Blk W0 (w.heap.size + 1) 23 (bytesV z16) := hw0 ▸ blk_new1 w _ _ _
  have KB : Below w.heap.size w W0 := hw0 ▸ (((Below.refl _ _).alloc (Nat.le_refl _) _).alloc (by simp) _)
  clear hw0 hz1
  go_wp2
  go_loopw [11] (fun i wr => ∃ t n : Nat, t = a + n ∧ t ≤ b ∧ i = .int .i64 t ∧ Blk wr w.heap.size 23 (bytesV (advM key chain a v n)) ∧ Blk wr (w.heap.size + 1) 23 (bytesV z16) ∧ Below w.heap.size w wr) (fun i _ => b - (intOf i).toNat)
  case atStart => exact ⟨a, 0, rfl, hab, rfl, K9, K10, KB⟩
  case round =>
    clear K9 K10 KB
    obtain ⟨t, n, htn, htb, rfl, KS, KZ, CB⟩ := hrel
    by_cases hlt : t < b
    · have hD := advM_dig key chain a v hv n
      have hstep : advM key chain a v (n + 1) = ofS 1 [encC key chain t, advM key chain a v n] := by rw [htn]; rfl
      obtain ⟨M, hM⟩ : ∃ M, advM key chain a v (n + 1) = M := ⟨_, rfl⟩
      rw [hM] at hstep
      generalize advM key chain a v n = m at KS hD hstep
      have HST := Lib.hid hstep
      have HM := Lib.hid hM
      have HTN := Lib.hid htn
      have hMd : Dgt M := by rw [hstep]; exact dig_ofS _ _
      clear hstep hM htn
      go_upto_region 4 with (fail)
      have hsl := slice_dig
      have HI := Lib.hid (fun (bi : Nat) (w0 : World) h => show Calls Tryd.prog 47 #[.slice (some ⟨bi, 0, none⟩) 3 3] w0 (Made w0 (encC key chain t)) from ints_any (some ⟨bi, 0, none⟩) [(key : Int), (chain : Int), (t : Int)] 3 3 w0 rfl (by simp) (encC_ok key chain t (by omega) (by omega) (by omega)) h)
      have hEb := encC_byte key chain t (by omega) (by omega) (by omega)
      have hEl := encC_length key chain t (by omega) (by omega) (by omega)
      refine wp_region_held_drew (S := fun _ => True) (by kernel_rfl) trivial (fun _ => ?_)
      have hHeld : True := trivial
      replace KS := KS.drew
      have KZ0 : Blk wr.drew (w.heap.size + 1) 23 (bytesV z16) := KZ
      have CB0 := below_drew CB
      have hB : Below wr.drew.heap.size wr.drew wr.drew := Below.refl _ _
      clear CB KZ
      generalize hV : wr.drew = V0 at KS KZ0 CB0 hB ⊢
      clear hV
      refine wpAnyH_take (i := 0) (oi := ⟨some 18, .move (.tmp 0), 3, "sign.go:49", #[], none⟩) (v := .int .i64 (key : Int)) rfl (by kernel_rfl) (by kernel_rfl) (by kernel_rfl) (fun _ _ _ h => h) (Or.inl ⟨by rfl, fun w' hSw => by go_simp⟩) hHeld ?_
      try simp only [Act.put, List.setIfInBounds_toArray, List.set_cons_zero, List.set_cons_succ]
      refine wpAnyH_take (i := 1) (oi := ⟨some 19, .move (.tmp 1), 3, "sign.go:49", #[], none⟩) (v := .int .i64 (chain : Int)) rfl (by kernel_rfl) (by kernel_rfl) (by kernel_rfl) (fun _ _ _ h => h) (Or.inl ⟨by rfl, fun w' hSw => by go_simp⟩) hHeld ?_
      try simp only [Act.put, List.setIfInBounds_toArray, List.set_cons_zero, List.set_cons_succ]
      refine wpAnyH_take (i := 2) (oi := ⟨some 20, .move (.tmp 11), 3, "sign.go:49", #[], none⟩) (v := .int .i64 (t : Int)) rfl (by kernel_rfl) (by kernel_rfl) (by kernel_rfl) (fun _ _ _ h => h) (Or.inl ⟨by rfl, fun w' hSw => by go_simp⟩) hHeld ?_
      try simp only [Act.put, List.setIfInBounds_toArray, List.set_cons_zero, List.set_cons_succ]
      refine wpAnyH_take (i := 6) (oi := ⟨some 24, .slice 23 (.tmp 9) none none none, 52, "sign.go:49", #[], none⟩) (v := .slice (some ⟨w.heap.size, 0, none⟩) 16 16) rfl (by kernel_rfl) (by kernel_rfl) (by kernel_rfl) (fun _ _ _ h => h) (Or.inl ⟨by rfl, fun w' hSw => by go_simp⟩) hHeld ?_
      try simp only [Act.put, List.setIfInBounds_toArray, List.set_cons_zero, List.set_cons_succ]
      refine wpAnyH_ready (rs := [3, 7]) (by kernel_rfl) (by simp) ?_
      refine AllReadyH.cons (o := ⟨some 21, .buildSlice 25 3 #[(0, .tmp 18), (1, .tmp 19), (2, .tmp 20)], 25, "sign.go:49", #[⟨0, .data⟩, ⟨1, .data⟩, ⟨2, .data⟩], none⟩) rfl (fun K hK => ?_) (AllReadyH.cons (o := ⟨some 25, .convert 52 9 (.tmp 24), 9, "sign.go:49", #[⟨6, .data⟩], none⟩) rfl (fun K hK => ?_) AllReadyH.nil)
      rw [if_pos (by rfl)]
      go_simp
      refine hK.out _ _ trivial (fun _ => ?_)
      clear hK K
      try simp only [Act.put, List.setIfInBounds_toArray, List.set_cons_zero, List.set_cons_succ]
      have hC := ints3 V0 key chain t
      replace KS := KS.alloc (.cells #[.int .i64 (key : Int), .int .i64 (chain : Int), .int .i64 (t : Int)] 3)
      replace hB := hB.alloc hB.size (.cells #[.int .i64 (key : Int), .int .i64 (chain : Int), .int .i64 (t : Int)] 3)
      generalize World.alloc V0 _ = V1 at KS hB hC ⊢
      generalize V0.heap.size = bi at hC ⊢
      refine wpAnyH_ready (rs := [4, 7]) (by kernel_rfl) (by simp) ?_
      refine AllReadyH.cons (o := ⟨some 22, .call { callee := .value (.func 47), args := #[.tmp 21], argTypes := #[25] }, 52, "sign.go:49", #[⟨3, .data⟩], none⟩) rfl (fun K hK => ?_) (AllReadyH.cons (o := ⟨some 25, .convert 52 9 (.tmp 24), 9, "sign.go:49", #[⟨6, .data⟩], none⟩) rfl (fun K hK => ?_) AllReadyH.nil)
      rw [if_pos (by rfl)]
      go_simp
      refine (HI.out _ _ hC).mono ?_
      rintro e V2 ⟨gi, ci, rfl, hOi⟩
      replace KS := KS.keep hOi.below
      replace hB := link hB hOi.below
      have hI := hOi.has hEb
      clear hC hOi
      dsimp only
      refine hK.out _ _ trivial (fun _ => ?_)
      clear hK K
      try simp only [Act.put, List.setIfInBounds_toArray, List.set_cons_zero, List.set_cons_succ]
      refine wpAnyH_ready (rs := [5, 7]) (by kernel_rfl) (by simp) ?_
      refine AllReadyH.cons (o := ⟨some 23, .convert 52 9 (.tmp 22), 9, "sign.go:49", #[⟨4, .data⟩], none⟩) rfl (fun K hK => ?_) (AllReadyH.cons (o := ⟨some 25, .convert 52 9 (.tmp 24), 9, "sign.go:49", #[⟨6, .data⟩], none⟩) rfl (fun K hK => ?_) AllReadyH.nil)
      rw [if_pos (by rfl)]
      have kv := conv_any (some ⟨gi, 0, none⟩) (encC key chain t) (encC key chain t).length ci _ rfl hI
      go_simp
      clear kv hI
      refine hK.out _ _ trivial (fun _ => ?_)
      clear hK K
      try simp only [Act.put, List.setIfInBounds_toArray, List.set_cons_zero, List.set_cons_succ]
      refine wpAnyH_ready (rs := [7]) (by kernel_rfl) (by simp) ?_
      refine AllReadyH.cons (o := ⟨some 25, .convert 52 9 (.tmp 24), 9, "sign.go:49", #[⟨6, .data⟩], none⟩) rfl (fun K hK => ?_) AllReadyH.nil
      rw [if_pos (by rfl)]
      have kv := conv_dig KS hD.1 hD.2
      go_simp
      clear kv
      refine hK.out _ _ trivial (fun _ => ?_)
      clear hK K
      try simp only [Act.put, List.setIfInBounds_toArray, List.set_cons_zero, List.set_cons_succ]
      rotate_left
      rw [if_pos (by rfl)]
      have kv := conv_dig KS hD.1 hD.2
      go_simp
      clear kv
      refine hK.out _ _ trivial (fun _ => ?_)
      clear hK K
      try simp only [Act.put, List.setIfInBounds_toArray, List.set_cons_zero, List.set_cons_succ]
      refine wpAnyH_ready (rs := [5]) (by kernel_rfl) (by simp) ?_
      refine AllReadyH.cons (o := ⟨some 23, .convert 52 9 (.tmp 22), 9, "sign.go:49", #[⟨4, .data⟩], none⟩) rfl (fun K hK => ?_) AllReadyH.nil
      rw [if_pos (by rfl)]
      have kv := conv_any (some ⟨gi, 0, none⟩) (encC key chain t) (encC key chain t).length ci _ rfl hI
      go_simp
      clear kv hI
      refine hK.out _ _ trivial (fun _ => ?_)
      clear hK K
      try simp only [Act.put, List.setIfInBounds_toArray, List.set_cons_zero, List.set_cons_succ]
      rotate_left
      rw [if_pos (by rfl)]
      have kv := conv_dig KS hD.1 hD.2
      go_simp
      clear kv
      refine hK.out _ _ trivial (fun _ => ?_)
      clear hK K
      try simp only [Act.put, List.setIfInBounds_toArray, List.set_cons_zero, List.set_cons_succ]
      refine wpAnyH_ready (rs := [4]) (by kernel_rfl) (by simp) ?_
      refine AllReadyH.cons (o := ⟨some 22, .call { callee := .value (.func 47), args := #[.tmp 21], argTypes := #[25] }, 52, "sign.go:49", #[⟨3, .data⟩], none⟩) rfl (fun K hK => ?_) AllReadyH.nil
      rw [if_pos (by rfl)]
      go_simp
      refine (HI.out _ _ hC).mono ?_
      rintro e V2 ⟨gi, ci, rfl, hOi⟩
      replace KS := KS.keep hOi.below
      replace hB := link hB hOi.below
      have hI := hOi.has hEb
      clear hC hOi
      dsimp only
      refine hK.out _ _ trivial (fun _ => ?_)
      clear hK K
      try simp only [Act.put, List.setIfInBounds_toArray, List.set_cons_zero, List.set_cons_succ]
      refine wpAnyH_ready (rs := [5]) (by kernel_rfl) (by simp) ?_
      refine AllReadyH.cons (o := ⟨some 23, .convert 52 9 (.tmp 22), 9, "sign.go:49", #[⟨4, .data⟩], none⟩) rfl (fun K hK => ?_) AllReadyH.nil
      rw [if_pos (by rfl)]
      have kv := conv_any (some ⟨gi, 0, none⟩) (encC key chain t) (encC key chain t).length ci _ rfl hI
      go_simp
      clear kv hI
      refine hK.out _ _ trivial (fun _ => ?_)
      clear hK K
      try simp only [Act.put, List.setIfInBounds_toArray, List.set_cons_zero, List.set_cons_succ]
      rotate_left
      rw [if_pos (by rfl)]
      have kv := conv_dig KS hD.1 hD.2
      go_simp
      clear kv
      refine hK.out _ _ trivial (fun _ => ?_)
      clear hK K
      try simp only [Act.put, List.setIfInBounds_toArray, List.set_cons_zero, List.set_cons_succ]
      refine wpAnyH_ready (rs := [3]) (by kernel_rfl) (by simp) ?_
      refine AllReadyH.cons (o := ⟨some 21, .buildSlice 25 3 #[(0, .tmp 18), (1, .tmp 19), (2, .tmp 20)], 25, "sign.go:49", #[⟨0, .data⟩, ⟨1, .data⟩, ⟨2, .data⟩], none⟩) rfl (fun K hK => ?_) AllReadyH.nil
      rw [if_pos (by rfl)]
      go_simp
      refine hK.out _ _ trivial (fun _ => ?_)
      clear hK K
      try simp only [Act.put, List.setIfInBounds_toArray, List.set_cons_zero, List.set_cons_succ]
      have hC := ints3 V0 key chain t
      replace KS := KS.alloc (.cells #[.int .i64 (key : Int), .int .i64 (chain : Int), .int .i64 (t : Int)] 3)
      replace hB := hB.alloc hB.size (.cells #[.int .i64 (key : Int), .int .i64 (chain : Int), .int .i64 (t : Int)] 3)
      generalize World.alloc V0 _ = V1 at KS hB hC ⊢
      generalize V0.heap.size = bi at hC ⊢
      refine wpAnyH_ready (rs := [4]) (by kernel_rfl) (by simp) ?_
      refine AllReadyH.cons (o := ⟨some 22, .call { callee := .value (.func 47), args := #[.tmp 21], argTypes := #[25] }, 52, "sign.go:49", #[⟨3, .data⟩], none⟩) rfl (fun K hK => ?_) AllReadyH.nil
      rw [if_pos (by rfl)]
      go_simp
      refine (HI.out _ _ hC).mono ?_
      rintro e V2 ⟨gi, ci, rfl, hOi⟩
      replace KS := KS.keep hOi.below
      replace hB := link hB hOi.below
      have hI := hOi.has hEb
      clear hC hOi
      dsimp only
      refine hK.out _ _ trivial (fun _ => ?_)
      clear hK K
      try simp only [Act.put, List.setIfInBounds_toArray, List.set_cons_zero, List.set_cons_succ]
      refine wpAnyH_ready (rs := [5]) (by kernel_rfl) (by simp) ?_
      refine AllReadyH.cons (o := ⟨some 23, .convert 52 9 (.tmp 22), 9, "sign.go:49", #[⟨4, .data⟩], none⟩) rfl (fun K hK => ?_) AllReadyH.nil
      rw [if_pos (by rfl)]
      have kv := conv_any (some ⟨gi, 0, none⟩) (encC key chain t) (encC key chain t).length ci _ rfl hI
      go_simp
      clear kv hI
      refine hK.out _ _ trivial (fun _ => ?_)
      clear hK K
      try simp only [Act.put, List.setIfInBounds_toArray, List.set_cons_zero, List.set_cons_succ]
      rotate_left
      all_goals
        refine wpAnyH_ready (rs := [8]) (by kernel_rfl) (by simp) ?_
        refine AllReadyH.cons (o := ⟨some 26, .buildSlice 66 2 #[(0, .tmp 23), (1, .tmp 25)], 66, "sign.go:49", #[⟨5, .data⟩, ⟨7, .data⟩], none⟩) rfl (fun K hK => ?_) AllReadyH.nil
        rw [if_pos (by rfl)]
        go_simp
        refine hK.out _ _ trivial (fun _ => ?_)
        clear hK K
        try simp only [Act.put, List.setIfInBounds_toArray, List.set_cons_zero, List.set_cons_succ]
        refine wpAnyH_ready (rs := [9]) (by kernel_rfl) (by simp) ?_
        refine AllReadyH.cons (o := ⟨some 27, .call { callee := .value (.func 34), args := #[.const (Value.int IntKind.i64 1), .tmp 26], argTypes := #[3, 66] }, 23, "sign.go:49", #[⟨8, .data⟩, ⟨4, .chain⟩], none⟩) rfl (fun K hK => ?_) AllReadyH.nil
        rw [if_pos (by rfl)]
        go_simp
        refine (of_lit 1 (by omega) [strOf (encC key chain t), strOf m] (by simp) (two_size hEl hD.1) _ rfl 2 rfl V2 (hG.keep (link CB0 hB))).mono ?_
        rintro e V3 ⟨rfl, hB3⟩
        rw [two_sbs hEb hD.2, ← HST.out]
        replace KS := KS.keep hB3
        replace hB := link hB hB3
        clear hB3
        dsimp only
        refine hK.out _ _ trivial (fun _ => ?_)
        clear hK K
        try simp only [Act.put, List.setIfInBounds_toArray, List.set_cons_zero, List.set_cons_succ]
        have hvM : (bytesV M).length = 16 := by rw [bytesV_length]; exact hMd.1
        have hvm : (bytesV m).length = 16 := by rw [bytesV_length]; exact hD.1
        have hst := KS.storeRun (vs := bytesV M) (by rw [hvM, hvm]) (bytesV_cells M)
        refine wpAnyH_ready (rs := [10]) (by kernel_rfl) (by simp) ?_
        refine AllReadyH.cons (o := ⟨none, .store 23 (.tmp 9) (.tmp 27), 0, "sign.go:49", #[⟨9, .data⟩, ⟨9, .chain⟩, ⟨0, .phase⟩, ⟨1, .phase⟩, ⟨2, .phase⟩, ⟨3, .phase⟩, ⟨4, .phase⟩, ⟨5, .phase⟩, ⟨6, .phase⟩, ⟨7, .phase⟩, ⟨8, .phase⟩, ⟨9, .phase⟩], none⟩) rfl (fun K hK => ?_) AllReadyH.nil
        rw [if_pos (by rfl)]
        go_simp
        refine hK.out _ _ trivial (fun _ => ?_)
        clear hK K
        try simp only [Act.put, List.setIfInBounds_toArray, List.set_cons_zero, List.set_cons_succ]
        refine wpAnyH_done (by kernel_rfl) ?_ _
        have K9 : Blk (V3.setCells w.heap.size 0 (bytesV M)) w.heap.size 23 (bytesV M) := KS.all (by rw [hvM, hvm])
        have hO := only_sets w.heap.size 0 V3 (bytesV M)
        have KZ1 := hO.2.1 _ _ _ (by omega) (KZ0.keep hB)
        have CB1 := hO.2.2 _ _ (Nat.le_refl _) (link CB0 hB)
        clear hst hO KS KZ0 CB0 hB HI hsl hvM hvm
        generalize World.setCells _ _ _ _ = wy at K9 KZ1 CB1 ⊢
        go_wp2
        go_roundw
        case rel => exact ⟨t + 1, n + 1, by have := HTN.out; omega, by omega, by go_num, by rw [HM.out]; exact K9, KZ1, CB1⟩
        case measure => simp [intOf]; omega
    · have htb2 : t = b := by omega
      have hnb : b - a = n := by omega
      have hD := advM_dig key chain a v hv n
      have hE : advM key chain a v (b - a) = advM key chain a v n := by rw [hnb]
      obtain ⟨m, hm⟩ : ∃ m, advM key chain a v n = m := ⟨_, rfl⟩
      rw [hm] at KS hD hE
      have HE := Lib.hid hE
      have hnl : ¬ (t : Int) < (b : Int) := by omega
      have hvm : (bytesV m).length = 16 := by rw [bytesV_length]; exact hD.1
      have hvz : (bytesV z16).length = 16 := rfl
      clear hE hm htn htb2 hnb
      go_wp2_with (first | (refine load_blk rfl 23 (.tmp 9) rfl KS rfl Tryd.underlying23 (m := 16) (by kernel_rfl) hvm ?_) | (refine store_blk rfl 23 (.tmp 10) (.tmp 28) rfl KZ rfl rfl (m := 16) (by kernel_rfl) hvm hvz (bytesV_cells m) ?_; intro w5 hb5 ho5))
      exact bodyPost_ret (v := .agg (bytesV m).toArray) (hb5.result (p := 10) (ty := 23) rfl _ rfl Tryd.underlying23 (by rw [hvm]; kernel_rfl)) rfl ⟨by rw [HE.out], ho5.2.2 _ _ (by omega) CB⟩

end Go.Proofs.YthffkbdecfjekaaDoor

/-
  sign.join and passimref03.node: the node over two nodes.
-/
namespace Go.Proofs.YthffkbdecfjekaaDoor
open Go.RowKit
set_option linter.unusedVariables false
set_option linter.unusedSimpArgs false

theorem two_dig {l m : List Nat} (hl : l.length = 16) (hm : m.length = 16) : ∀ s ∈ [strOf l, strOf m], s.size ≤ 1048576 := two_size (by omega) hm

set_option maxHeartbeats 2000000 in
set_option maxRecDepth 100000 in
theorem join_any (x y : List Nat) (hx : Dgt x) (hy : Dgt y) (w : World) (hG : Glob w) :
    Calls Tryd.prog 39 #[.agg (bytesV x).toArray, .agg (bytesV y).toArray] w fun e w' => e = .returned (.agg (bytesV (joinM x y)).toArray) ∧ Below w.heap.size w w' := by
  have hz1 := zero_dig'
  obtain ⟨M, hM⟩ : ∃ M, joinM x y = M := ⟨_, rfl⟩
  have hMd : Dgt M := by rw [← hM]; exact dig_ofS _ _
  have HM := Lib.hid hM
  clear hM
  go_enter Tryd.func39, Tryd.ntmps39
  go_upto_region 1 with (fail)
  generalize hw0 : World.alloc _ _ = W0
  have K2 : Blk W0 w.heap.size 23 (bytesV x) := hw0 ▸ (((blk_new w _ _).alloc _).alloc _)
  have K3 : Blk W0 (w.heap.size + 1) 23 (bytesV y) := hw0 ▸ ((blk_new1 w _ _ _).alloc _)
  have K4 : Blk W0 (w.heap.size + 1 + 1) 23 (bytesV z16) := hw0 ▸ blk_new2 w _ _ _ _
  have KB : Below w.heap.size w W0 := hw0 ▸ ((((Below.refl _ _).alloc (Nat.le_refl _) _).alloc (by simp) _).alloc (by simp; omega) _)
  clear hw0 hz1
  have hsl := slice_dig
  have hHeld : True := trivial
  refine wp_region_held_drew (S := fun _ => True) (by kernel_rfl) trivial (fun _ => ?_)
  have L2 : Blk W0.drew w.heap.size 23 (bytesV x) := K2
  have L3 : Blk W0.drew (w.heap.size + 1) 23 (bytesV y) := K3
  have L4 : Blk W0.drew (w.heap.size + 1 + 1) 23 (bytesV z16) := K4
  have CB : Below w.heap.size w W0.drew := below_drew KB
  have hB : Below W0.drew.heap.size W0.drew W0.drew := Below.refl _ _
  clear K2 K3 K4 KB
  generalize W0.drew = V0 at hB L2 L3 L4 CB ⊢
  refine wpAnyH_take (i := 0) (oi := ⟨some 5, .slice 23 (.tmp 2) none none none, 52, "sign.go:62", #[], none⟩) (v := .slice (some ⟨w.heap.size, 0, none⟩) 16 16) rfl (by kernel_rfl) (by kernel_rfl) (by kernel_rfl) (fun _ _ _ h => h) (Or.inl ⟨by rfl, fun w' hSw => by go_simp⟩) hHeld ?_
  try simp only [Act.put, List.setIfInBounds_toArray, List.set_cons_zero, List.set_cons_succ]
  refine wpAnyH_take (i := 2) (oi := ⟨some 7, .slice 23 (.tmp 3) none none none, 52, "sign.go:62", #[], none⟩) (v := .slice (some ⟨w.heap.size + 1, 0, none⟩) 16 16) rfl (by kernel_rfl) (by kernel_rfl) (by kernel_rfl) (fun _ _ _ h => h) (Or.inl ⟨by rfl, fun w' hSw => by go_simp⟩) hHeld ?_
  try simp only [Act.put, List.setIfInBounds_toArray, List.set_cons_zero, List.set_cons_succ]
  refine wpAnyH_ready (rs := [1, 3]) (by kernel_rfl) (by simp) ?_
  refine AllReadyH.cons (o := ⟨some 6, .convert 52 9 (.tmp 5), 9, "sign.go:62", #[⟨0, .data⟩], none⟩) rfl (fun K hK => ?_) (AllReadyH.cons (o := ⟨some 8, .convert 52 9 (.tmp 7), 9, "sign.go:62", #[⟨2, .data⟩], none⟩) rfl (fun K hK => ?_) AllReadyH.nil)
  rw [if_pos (by rfl)]
  have kv := conv_dig L2 hx.1 hx.2
  go_simp
  clear kv
  refine hK.out _ _ trivial (fun _ => ?_)
  clear hK K
  try simp only [Act.put, List.setIfInBounds_toArray, List.set_cons_zero, List.set_cons_succ]
  refine wpAnyH_ready (rs := [3]) (by kernel_rfl) (by simp) ?_
  refine AllReadyH.cons (o := ⟨some 8, .convert 52 9 (.tmp 7), 9, "sign.go:62", #[⟨2, .data⟩], none⟩) rfl (fun K hK => ?_) AllReadyH.nil
  rw [if_pos (by rfl)]
  have kv := conv_dig L3 hy.1 hy.2
  go_simp
  clear kv
  refine hK.out _ _ trivial (fun _ => ?_)
  clear hK K
  try simp only [Act.put, List.setIfInBounds_toArray, List.set_cons_zero, List.set_cons_succ]
  rotate_left
  rw [if_pos (by rfl)]
  have kv := conv_dig L3 hy.1 hy.2
  go_simp
  clear kv
  refine hK.out _ _ trivial (fun _ => ?_)
  clear hK K
  try simp only [Act.put, List.setIfInBounds_toArray, List.set_cons_zero, List.set_cons_succ]
  refine wpAnyH_ready (rs := [1]) (by kernel_rfl) (by simp) ?_
  refine AllReadyH.cons (o := ⟨some 6, .convert 52 9 (.tmp 5), 9, "sign.go:62", #[⟨0, .data⟩], none⟩) rfl (fun K hK => ?_) AllReadyH.nil
  rw [if_pos (by rfl)]
  have kv := conv_dig L2 hx.1 hx.2
  go_simp
  clear kv
  refine hK.out _ _ trivial (fun _ => ?_)
  clear hK K
  try simp only [Act.put, List.setIfInBounds_toArray, List.set_cons_zero, List.set_cons_succ]
  rotate_left
  all_goals
    refine wpAnyH_ready (rs := [4]) (by kernel_rfl) (by simp) ?_
    refine AllReadyH.cons (o := ⟨some 9, .buildSlice 66 2 #[(0, .tmp 6), (1, .tmp 8)], 66, "sign.go:62", #[⟨1, .data⟩, ⟨3, .data⟩], none⟩) rfl (fun K hK => ?_) AllReadyH.nil
    rw [if_pos (by rfl)]
    go_simp
    refine hK.out _ _ trivial (fun _ => ?_)
    clear hK K
    try simp only [Act.put, List.setIfInBounds_toArray, List.set_cons_zero, List.set_cons_succ]
    refine wpAnyH_ready (rs := [5]) (by kernel_rfl) (by simp) ?_
    refine AllReadyH.cons (o := ⟨some 10, .call { callee := .value (.func 34), args := #[.const (Value.int IntKind.i64 4), .tmp 9], argTypes := #[3, 66] }, 23, "sign.go:62", #[⟨4, .data⟩], none⟩) rfl (fun K hK => ?_) AllReadyH.nil
    rw [if_pos (by rfl)]
    go_simp
    refine (of_lit 4 (by omega) [strOf x, strOf y] (by simp) (two_dig hx.1 hy.1) _ rfl 2 rfl V0 (hG.keep CB)).mono ?_
    rintro e V1 ⟨rfl, hB1⟩
    rw [two_sbs hx.2 hy.2, show ofS 4 [x, y] = M from HM.out]
    dsimp only
    refine hK.out _ _ trivial (fun _ => ?_)
    clear hK K
    try simp only [Act.put, List.setIfInBounds_toArray, List.set_cons_zero, List.set_cons_succ]
    have hvM : (bytesV M).length = 16 := by rw [bytesV_length]; exact hMd.1
    have hvz : (bytesV z16).length = 16 := rfl
    have K4 := L4.keep hB1
    have hst := K4.storeRun (vs := bytesV M) (by rw [hvM, hvz]) (bytesV_cells M)
    refine wpAnyH_ready (rs := [6]) (by kernel_rfl) (by simp) ?_
    refine AllReadyH.cons (o := ⟨none, .store 23 (.tmp 4) (.tmp 10), 0, "sign.go:62", #[⟨5, .data⟩, ⟨5, .chain⟩, ⟨0, .phase⟩, ⟨1, .phase⟩, ⟨2, .phase⟩, ⟨3, .phase⟩, ⟨4, .phase⟩, ⟨5, .phase⟩], none⟩) rfl (fun K hK => ?_) AllReadyH.nil
    rw [if_pos (by rfl)]
    go_simp
    refine hK.out _ _ trivial (fun _ => ?_)
    clear hK K
    try simp only [Act.put, List.setIfInBounds_toArray, List.set_cons_zero, List.set_cons_succ]
    refine wpAnyH_done (by kernel_rfl) ?_ _
    have K9 : Blk (V1.setCells (w.heap.size + 1 + 1) 0 (bytesV M)) (w.heap.size + 1 + 1) 23 (bytesV M) := K4.all (by rw [hvM, hvz])
    have CB1 := (only_sets (w.heap.size + 1 + 1) 0 V1 (bytesV M)).2.2 _ _ (by omega : w.heap.size ≤ w.heap.size + 1 + 1) (link CB hB1)
    clear hst K4 L2 L3 L4 CB hB hsl
    generalize World.setCells _ _ _ _ = wy at K9 CB1 ⊢
    go_wp2
    exact bodyPost_ret (v := .agg (bytesV M).toArray) (K9.result (p := 4) (ty := 23) rfl _ rfl Tryd.underlying23 (by rw [hvM]; kernel_rfl)) rfl ⟨by rw [HM.out], CB1⟩

end Go.Proofs.YthffkbdecfjekaaDoor

/-
  passimref03.node: the parent of two nodes.
-/
namespace Go.Proofs.YthffkbdecfjekaaDoor
open Go.RowKit
set_option linter.unusedVariables false
set_option linter.unusedSimpArgs false

theorem size_dig (D : List Nat) (h : D.length = 16) : (Tryd.prog.info? 23).map (·.size) = some (bytesV D).length := by
  rw [bytesV_length, h]
  kernel_rfl
theorem rng_at {w : World} {b : Nat} {t : TypeId} {cs : List Value} (h : Blk w b t cs) : w.rangeAt b 0 cs := rng_blk h w (Below.refl _ _)
/-- passimref02.Of at a list of strings that was just laid. -/
theorem rof_lit (T : Nat) (hT : T < 256) (xs : List ByteArray) (hl : xs.length ≤ 1024) (ht : ∀ s ∈ xs, s.size ≤ 1048576) (C : Array Value) (hC : C = (strsV xs).toArray) (n : Nat) (hn : n = xs.length) (w : World) (hR : GlobR w) :
    Calls Tryd.prog 35 #[.int .i64 (T : Int), .slice (some ⟨w.heap.size, 0, none⟩) n n] (w.alloc (.cells C 9)) fun e w' => e = .returned (.agg (bytesV (ofS T (sbs xs))).toArray) ∧ Below w.heap.size w w' := by
  subst hC; subst hn
  have hB : Below w.heap.size w (w.alloc (.cells (strsV xs).toArray 9)) := (Below.refl _ _).alloc (Nat.le_refl _) _
  refine (rof_any (T : Int) T hT ?_ (some ⟨w.heap.size, 0, none⟩) xs xs.length xs.length _ rfl (by omega) ht (cells_lit w (strsV xs).toArray 9) (hR.keep hB)).mono ?_
  · simp [IntKind.wrap, IntKind.signed, IntKind.bits]
    omega
  · rintro e w' ⟨rfl, h⟩
    exact ⟨rfl, hB.trans (h.mono hB.size)⟩

set_option maxHeartbeats 2000000 in
set_option maxRecDepth 100000 in
theorem node_any (x y : List Nat) (hx : Dgt x) (hy : Dgt y) (w : World) (hR : GlobR w) :
    Calls Tryd.prog 42 #[.agg (bytesV x).toArray, .agg (bytesV y).toArray] w fun e w' => e = .returned (.agg (bytesV (joinM x y)).toArray) ∧ Below w.heap.size w w' := by
  have hz1 := zero_dig'
  obtain ⟨M, hM⟩ : ∃ M, joinM x y = M := ⟨_, rfl⟩
  have hMd : Dgt M := by rw [← hM]; exact dig_ofS _ _
  have HM := Lib.hid hM
  clear hM
  go_enter Tryd.func42, Tryd.ntmps42
  go_upto_region 1 with (fail)
  generalize hw0 : World.alloc _ _ = W0
  have K2 : Blk W0 w.heap.size 23 (bytesV x) := hw0 ▸ (((blk_new w _ _).alloc _).alloc _)
  have K3 : Blk W0 (w.heap.size + 1) 23 (bytesV y) := hw0 ▸ ((blk_new1 w _ _ _).alloc _)
  have K4 : Blk W0 (w.heap.size + 1 + 1) 23 (bytesV z16) := hw0 ▸ blk_new2 w _ _ _ _
  have KB : Below w.heap.size w W0 := hw0 ▸ ((((Below.refl _ _).alloc (Nat.le_refl _) _).alloc (by simp) _).alloc (by simp; omega) _)
  clear hw0 hz1
  have hHeld : True := trivial
  refine wp_region_held_drew (S := fun _ => True) (by kernel_rfl) trivial (fun _ => ?_)
  have L2 : Blk W0.drew w.heap.size 23 (bytesV x) := K2
  have L3 : Blk W0.drew (w.heap.size + 1) 23 (bytesV y) := K3
  have L4 : Blk W0.drew (w.heap.size + 1 + 1) 23 (bytesV z16) := K4
  have CB : Below w.heap.size w W0.drew := below_drew KB
  have hB : Below W0.drew.heap.size W0.drew W0.drew := Below.refl _ _
  clear K2 K3 K4 KB
  generalize W0.drew = V0 at hB L2 L3 L4 CB ⊢
  refine wpAnyH_ready (rs := [0, 2]) (by kernel_rfl) (by simp) ?_
  refine AllReadyH.cons (o := ⟨some 5, .load 23 (.tmp 2), 23, "ref.go:62", #[], none⟩) rfl (fun K hK => ?_) (AllReadyH.cons (o := ⟨some 7, .load 23 (.tmp 3), 23, "ref.go:62", #[], none⟩) rfl (fun K hK => ?_) AllReadyH.nil)
  rw [if_pos (by rfl)]
  refine wp_load_mid _ _ rfl (w.heap.size) 0 rfl _ _ (rng_at L2) Tryd.underlying23 rfl (size_dig _ hx.1) ?_
  try simp only [Act.put, List.setIfInBounds_toArray, List.set_cons_zero, List.set_cons_succ]
  refine hK.out _ _ trivial (fun _ => ?_)
  clear hK K
  try simp only [Act.put, List.setIfInBounds_toArray, List.set_cons_zero, List.set_cons_succ]
  refine wpAnyH_ready (rs := [1, 2]) (by kernel_rfl) (by simp) ?_
  refine AllReadyH.cons (o := ⟨some 6, .call { callee := .value (.func 31), args := #[.tmp 5], argTypes := #[23] }, 9, "ref.go:62", #[⟨0, .data⟩], none⟩) rfl (fun K hK => ?_) (AllReadyH.cons (o := ⟨some 7, .load 23 (.tmp 3), 23, "ref.go:62", #[], none⟩) rfl (fun K hK => ?_) AllReadyH.nil)
  rw [if_pos (by rfl)]
  go_simp
  refine (text_any x hx.1 hx.2 _).mono ?_
  rintro e V1 ⟨rfl, hC⟩
  replace L2 := L2.keep hC
  replace L3 := L3.keep hC
  replace L4 := L4.keep hC
  replace hB := link hB hC
  clear hC
  dsimp only
  refine hK.out _ _ trivial (fun _ => ?_)
  clear hK K
  try simp only [Act.put, List.setIfInBounds_toArray, List.set_cons_zero, List.set_cons_succ]
  refine wpAnyH_ready (rs := [2]) (by kernel_rfl) (by simp) ?_
  refine AllReadyH.cons (o := ⟨some 7, .load 23 (.tmp 3), 23, "ref.go:62", #[], none⟩) rfl (fun K hK => ?_) AllReadyH.nil
  rw [if_pos (by rfl)]
  refine wp_load_mid _ _ rfl (w.heap.size + 1) 0 rfl _ _ (rng_at L3) Tryd.underlying23 rfl (size_dig _ hy.1) ?_
  try simp only [Act.put, List.setIfInBounds_toArray, List.set_cons_zero, List.set_cons_succ]
  refine hK.out _ _ trivial (fun _ => ?_)
  clear hK K
  try simp only [Act.put, List.setIfInBounds_toArray, List.set_cons_zero, List.set_cons_succ]
  refine wpAnyH_ready (rs := [3]) (by kernel_rfl) (by simp) ?_
  refine AllReadyH.cons (o := ⟨some 8, .call { callee := .value (.func 31), args := #[.tmp 7], argTypes := #[23] }, 9, "ref.go:62", #[⟨2, .data⟩, ⟨1, .chain⟩], none⟩) rfl (fun K hK => ?_) AllReadyH.nil
  rw [if_pos (by rfl)]
  go_simp
  refine (text_any y hy.1 hy.2 _).mono ?_
  rintro e V2 ⟨rfl, hC⟩
  replace L2 := L2.keep hC
  replace L3 := L3.keep hC
  replace L4 := L4.keep hC
  replace hB := link hB hC
  clear hC
  dsimp only
  refine hK.out _ _ trivial (fun _ => ?_)
  clear hK K
  try simp only [Act.put, List.setIfInBounds_toArray, List.set_cons_zero, List.set_cons_succ]
  rotate_left
  rw [if_pos (by rfl)]
  refine wp_load_mid _ _ rfl (w.heap.size + 1) 0 rfl _ _ (rng_at L3) Tryd.underlying23 rfl (size_dig _ hy.1) ?_
  try simp only [Act.put, List.setIfInBounds_toArray, List.set_cons_zero, List.set_cons_succ]
  refine hK.out _ _ trivial (fun _ => ?_)
  clear hK K
  try simp only [Act.put, List.setIfInBounds_toArray, List.set_cons_zero, List.set_cons_succ]
  refine wpAnyH_ready (rs := [1]) (by kernel_rfl) (by simp) ?_
  refine AllReadyH.cons (o := ⟨some 6, .call { callee := .value (.func 31), args := #[.tmp 5], argTypes := #[23] }, 9, "ref.go:62", #[⟨0, .data⟩], none⟩) rfl (fun K hK => ?_) AllReadyH.nil
  rw [if_pos (by rfl)]
  go_simp
  refine (text_any x hx.1 hx.2 _).mono ?_
  rintro e V1 ⟨rfl, hC⟩
  replace L2 := L2.keep hC
  replace L3 := L3.keep hC
  replace L4 := L4.keep hC
  replace hB := link hB hC
  clear hC
  dsimp only
  refine hK.out _ _ trivial (fun _ => ?_)
  clear hK K
  try simp only [Act.put, List.setIfInBounds_toArray, List.set_cons_zero, List.set_cons_succ]
  refine wpAnyH_ready (rs := [3]) (by kernel_rfl) (by simp) ?_
  refine AllReadyH.cons (o := ⟨some 8, .call { callee := .value (.func 31), args := #[.tmp 7], argTypes := #[23] }, 9, "ref.go:62", #[⟨2, .data⟩, ⟨1, .chain⟩], none⟩) rfl (fun K hK => ?_) AllReadyH.nil
  rw [if_pos (by rfl)]
  go_simp
  refine (text_any y hy.1 hy.2 _).mono ?_
  rintro e V2 ⟨rfl, hC⟩
  replace L2 := L2.keep hC
  replace L3 := L3.keep hC
  replace L4 := L4.keep hC
  replace hB := link hB hC
  clear hC
  dsimp only
  refine hK.out _ _ trivial (fun _ => ?_)
  clear hK K
  try simp only [Act.put, List.setIfInBounds_toArray, List.set_cons_zero, List.set_cons_succ]
  rotate_left
  rw [if_pos (by rfl)]
  refine wp_load_mid _ _ rfl (w.heap.size + 1) 0 rfl _ _ (rng_at L3) Tryd.underlying23 rfl (size_dig _ hy.1) ?_
  try simp only [Act.put, List.setIfInBounds_toArray, List.set_cons_zero, List.set_cons_succ]
  refine hK.out _ _ trivial (fun _ => ?_)
  clear hK K
  try simp only [Act.put, List.setIfInBounds_toArray, List.set_cons_zero, List.set_cons_succ]
  refine wpAnyH_ready (rs := [0]) (by kernel_rfl) (by simp) ?_
  refine AllReadyH.cons (o := ⟨some 5, .load 23 (.tmp 2), 23, "ref.go:62", #[], none⟩) rfl (fun K hK => ?_) AllReadyH.nil
  rw [if_pos (by rfl)]
  refine wp_load_mid _ _ rfl (w.heap.size) 0 rfl _ _ (rng_at L2) Tryd.underlying23 rfl (size_dig _ hx.1) ?_
  try simp only [Act.put, List.setIfInBounds_toArray, List.set_cons_zero, List.set_cons_succ]
  refine hK.out _ _ trivial (fun _ => ?_)
  clear hK K
  try simp only [Act.put, List.setIfInBounds_toArray, List.set_cons_zero, List.set_cons_succ]
  refine wpAnyH_ready (rs := [1]) (by kernel_rfl) (by simp) ?_
  refine AllReadyH.cons (o := ⟨some 6, .call { callee := .value (.func 31), args := #[.tmp 5], argTypes := #[23] }, 9, "ref.go:62", #[⟨0, .data⟩], none⟩) rfl (fun K hK => ?_) AllReadyH.nil
  rw [if_pos (by rfl)]
  go_simp
  refine (text_any x hx.1 hx.2 _).mono ?_
  rintro e V1 ⟨rfl, hC⟩
  replace L2 := L2.keep hC
  replace L3 := L3.keep hC
  replace L4 := L4.keep hC
  replace hB := link hB hC
  clear hC
  dsimp only
  refine hK.out _ _ trivial (fun _ => ?_)
  clear hK K
  try simp only [Act.put, List.setIfInBounds_toArray, List.set_cons_zero, List.set_cons_succ]
  refine wpAnyH_ready (rs := [3]) (by kernel_rfl) (by simp) ?_
  refine AllReadyH.cons (o := ⟨some 8, .call { callee := .value (.func 31), args := #[.tmp 7], argTypes := #[23] }, 9, "ref.go:62", #[⟨2, .data⟩, ⟨1, .chain⟩], none⟩) rfl (fun K hK => ?_) AllReadyH.nil
  rw [if_pos (by rfl)]
  go_simp
  refine (text_any y hy.1 hy.2 _).mono ?_
  rintro e V2 ⟨rfl, hC⟩
  replace L2 := L2.keep hC
  replace L3 := L3.keep hC
  replace L4 := L4.keep hC
  replace hB := link hB hC
  clear hC
  dsimp only
  refine hK.out _ _ trivial (fun _ => ?_)
  clear hK K
  try simp only [Act.put, List.setIfInBounds_toArray, List.set_cons_zero, List.set_cons_succ]
  rotate_left
  all_goals
    refine wpAnyH_ready (rs := [4]) (by kernel_rfl) (by simp) ?_
    refine AllReadyH.cons (o := ⟨some 9, .buildSlice 66 2 #[(0, .tmp 6), (1, .tmp 8)], 66, "ref.go:62", #[⟨1, .data⟩, ⟨3, .data⟩], none⟩) rfl (fun K hK => ?_) AllReadyH.nil
    rw [if_pos (by rfl)]
    go_simp
    refine hK.out _ _ trivial (fun _ => ?_)
    clear hK K
    try simp only [Act.put, List.setIfInBounds_toArray, List.set_cons_zero, List.set_cons_succ]
    refine wpAnyH_ready (rs := [5]) (by kernel_rfl) (by simp) ?_
    refine AllReadyH.cons (o := ⟨some 10, .call { callee := .value (.func 35), args := #[.const (Value.int IntKind.i64 4), .tmp 9], argTypes := #[3, 66] }, 23, "ref.go:62", #[⟨4, .data⟩, ⟨3, .chain⟩], none⟩) rfl (fun K hK => ?_) AllReadyH.nil
    rw [if_pos (by rfl)]
    go_simp
    refine (rof_lit 4 (by omega) [strOf x, strOf y] (by simp) (two_dig hx.1 hy.1) _ rfl 2 rfl V2 (hR.keep (link CB hB))).mono ?_
    rintro e V3 ⟨rfl, hB1⟩
    rw [two_sbs hx.2 hy.2, show ofS 4 [x, y] = M from HM.out]
    dsimp only
    refine hK.out _ _ trivial (fun _ => ?_)
    clear hK K
    try simp only [Act.put, List.setIfInBounds_toArray, List.set_cons_zero, List.set_cons_succ]
    have hvM : (bytesV M).length = 16 := by rw [bytesV_length]; exact hMd.1
    have hvz : (bytesV z16).length = 16 := rfl
    have K4 := L4.keep hB1
    have hst := K4.storeRun (vs := bytesV M) (by rw [hvM, hvz]) (bytesV_cells M)
    refine wpAnyH_ready (rs := [6]) (by kernel_rfl) (by simp) ?_
    refine AllReadyH.cons (o := ⟨none, .store 23 (.tmp 4) (.tmp 10), 0, "ref.go:62", #[⟨5, .data⟩, ⟨5, .chain⟩, ⟨0, .phase⟩, ⟨1, .phase⟩, ⟨2, .phase⟩, ⟨3, .phase⟩, ⟨4, .phase⟩, ⟨5, .phase⟩], none⟩) rfl (fun K hK => ?_) AllReadyH.nil
    rw [if_pos (by rfl)]
    go_simp
    refine hK.out _ _ trivial (fun _ => ?_)
    clear hK K
    try simp only [Act.put, List.setIfInBounds_toArray, List.set_cons_zero, List.set_cons_succ]
    refine wpAnyH_done (by kernel_rfl) ?_ _
    have K9 : Blk (V3.setCells (w.heap.size + 1 + 1) 0 (bytesV M)) (w.heap.size + 1 + 1) 23 (bytesV M) := K4.all (by rw [hvM, hvz])
    have CB1 := (only_sets (w.heap.size + 1 + 1) 0 V3 (bytesV M)).2.2 _ _ (by omega : w.heap.size ≤ w.heap.size + 1 + 1) (link CB (link hB hB1))
    clear hst K4 L2 L3 L4 CB hB hB1
    generalize World.setCells _ _ _ _ = wy at K9 CB1 ⊢
    go_wp2
    exact bodyPost_ret (v := .agg (bytesV M).toArray) (K9.result (p := 4) (ty := 23) rfl _ rfl Tryd.underlying23 (by rw [hvM]; kernel_rfl)) rfl ⟨by rw [HM.out], CB1⟩

end Go.Proofs.YthffkbdecfjekaaDoor

/-
  passimref03.digest, ints and start; fits and sign.possible.
-/
namespace Go.Proofs.YthffkbdecfjekaaDoor
open Go.RowKit
set_option linter.unusedVariables false
set_option linter.unusedSimpArgs false

set_option maxHeartbeats 1000000 in
set_option maxRecDepth 100000 in
theorem digest_any (s : ByteArray) (hs : 16 ≤ s.size) (w : World) :
    Calls Tryd.prog 41 #[.string s] w fun e w' => e = .returned (.agg (bytesV ((sb s).take 16)).toArray) ∧ Below w.heap.size w w' := by
  have hz1 := zero_dig'
  have hz16 : (bytesV z16).length = 16 := rfl
  go_enter Tryd.func41, Tryd.ntmps41
  go_upto_region 2 with (fail)
  generalize hw0 : World.alloc _ _ = W0
  have M0 : Blk W0 w.heap.size 23 (bytesV z16) := hw0 ▸ ((blk_new w _ _).alloc _)
  have M4 : Blk W0 (w.heap.size + 1) 23 (bytesV (shA (sb s) 0)) := hw0 ▸ blk_new1 w _ _ _
  have MB : Below w.heap.size w W0 := hw0 ▸ (((Below.refl _ _).alloc (Nat.le_refl _) _).alloc (by simp) _)
  clear hw0 hz1
  go_wp2
  go_loopw [4] (fun v wr => ∃ i : Nat, i ≤ 16 ∧ v = .int .i64 i ∧ Blk wr w.heap.size 23 (bytesV z16) ∧ Blk wr (w.heap.size + 1) 23 (bytesV (shA (sb s) i)) ∧ Below w.heap.size w wr) (fun v _ => 16 - (intOf v).toNat)
  case atStart => exact ⟨0, by omega, rfl, M0, M4, MB⟩
  case round =>
    clear M0 M4 MB
    obtain ⟨i, hi, rfl, N0, N4, NB⟩ := hrel
    have hbl : (shA (sb s) i).length = 16 := by unfold shA; rw [List.length_append, List.length_take, List.length_replicate, sb_length]; omega
    by_cases h16 : i < 16
    · have hisz : i < s.size := by omega
      obtain ⟨y, hy⟩ : ∃ y, s[i].toNat = y := ⟨_, rfl⟩
      have c4 : wr.cell? ⟨w.heap.size + 1, i, none⟩ = some ((bytesV (shA (sb s) i))[i]'(by rw [bytesV_length, hbl]; exact h16)) := N4.cell (List.getElem?_eq_getElem _)
      have f4 := N4.free i
      have hset := N4.set i (byteV y)
      have hgi : (sb s)[i]? = some y := by rw [← hy]; simp [sb, hisz]; rfl
      have e : (bytesV (shA (sb s) i)).set i (byteV y) = bytesV (shA (sb s) (i + 1)) := by
        unfold bytesV
        rw [← List.map_set]
        congr 1
        have hl : ((sb s).take i).length = i := by rw [List.length_take, sb_length]; omega
        unfold shA
        rw [List.set_append_right _ _ (by omega), hl, Nat.sub_self]
        obtain ⟨k, hk⟩ : ∃ k, 16 - i = k + 1 := ⟨15 - i, by omega⟩
        rw [hk, List.replicate_succ, List.set_cons_zero, show 16 - (i + 1) = k by omega, List.take_add_one, hgi]
        simp only [Option.toList_some, List.append_assoc, List.cons_append, List.nil_append]
      rw [e] at hset
      have l16 : (i : Int) < 16 := by omega
      have lsz : (i : Int) < (s.size : Int) := by omega
      clear e hgi
      go_wp2
      go_roundw
      case rel => exact ⟨i + 1, by omega, by go_num, N0.other (by simp) _, hset, NB.setCell (by simp) _⟩
      case measure => simp [intOf]; omega
    · obtain rfl : i = 16 := by omega
      rw [shA_full] at N4
      have hsl : (bytesV ((sb s).take 16)).length = 16 := by rw [bytesV_length, List.length_take, sb_length]; omega
      obtain ⟨E, hE⟩ : ∃ E, (sb s).take 16 = E := ⟨_, rfl⟩
      rw [hE] at N4 hsl
      have HE := Lib.hid hE
      clear hE hbl
      go_wp2_with (first | (refine load_blk rfl 23 (.tmp 3) rfl N4 rfl Tryd.underlying23 (m := 16) (by kernel_rfl) hsl ?_) | (refine store_blk rfl 23 (.tmp 2) (.tmp 14) rfl N0 rfl rfl (m := 16) (by kernel_rfl) hsl hz16 (bytesV_cells _) ?_; intro w5 hb5 ho5))
      exact bodyPost_ret (v := .agg (bytesV E).toArray) (hb5.result (p := 2) (ty := 23) rfl _ rfl Tryd.underlying23 (by rw [hsl]; kernel_rfl)) rfl ⟨by rw [HE.out], ho5.2.2 _ _ (by omega) NB⟩

set_option maxHeartbeats 1000000 in
set_option maxRecDepth 100000 in
theorem ints_str (A : Option Addr) (l : List Int) (n c : Nat) (w : World) (hn : n = l.length) (hl : l.length ≤ 1000) (hi : ∀ x ∈ l, I64 x) (hb : ∀ y ∈ encL l, y < 256) (hr : Cells w A (intsV l)) :
    Calls Tryd.prog 49 #[.slice A n c] w fun e w' => e = .returned (.string (strOf (encL l))) ∧ Below w.heap.size w w' := by
  have HR := Lib.hid (rints_any A l n c w hn (by omega) hi hr)
  obtain ⟨E, hE⟩ : ∃ E, encL l = E := ⟨_, rfl⟩
  clear hn
  rw [hE] at HR hb ⊢
  go_enter Tryd.func49, Tryd.ntmps49
  go_wp2_with fail
  refine HR.out.mono ?_
  rintro e w1 ⟨g, cap, rfl, hO⟩
  have hH := hO.has hb
  have hcv := conv_any (some ⟨g, 0, none⟩) E E.length cap w1 rfl hH
  have hB := hO.below
  clear hO hH HR
  go_wp2
  go_ret
  exact ⟨rfl, hB⟩

end Go.Proofs.YthffkbdecfjekaaDoor

/-
  passimref03.start: the value of a chain at height 0.
-/
namespace Go.Proofs.YthffkbdecfjekaaDoor
open Go.RowKit
set_option linter.unusedVariables false
set_option linter.unusedSimpArgs false

def chainB : ByteArray := ⟨#[99, 104, 97, 105, 110]⟩
def encK (key chain : Nat) : List Nat := encL [(key : Int), (chain : Int)]
/-- The value at height 0 of a chain of a key. -/
def firstM (seed : List Nat) (key chain : Nat) : List Nat := (hmac seed ([99, 104, 97, 105, 110] ++ encK key chain)).take 16
theorem hmac_length (k t : List Nat) : (hmac k t).length = 32 := by unfold hmac; exact sha_length _
theorem hmac_byte (k t : List Nat) : ∀ y ∈ hmac k t, y < 256 := by unfold hmac; exact sha_byte _
theorem firstM_dig (seed : List Nat) (key chain : Nat) : Dgt (firstM seed key chain) :=
  ⟨by unfold firstM; rw [List.length_take, hmac_length]; rfl, fun y hy => hmac_byte _ _ y (List.mem_of_mem_take hy)⟩
theorem encK_ok (a b : Nat) (ha : a ≤ 1000000) (hb : b ≤ 1000000) : ∀ x ∈ [(a : Int), (b : Int)], I64 x := by
  intro x hx
  simp only [List.mem_cons, List.mem_nil_iff, or_false] at hx
  unfold I64
  omega
theorem encK_byte (a b : Nat) (ha : a ≤ 1000000) (hb : b ≤ 1000000) : ∀ y ∈ encK a b, y < 256 := by
  intro y hy
  unfold encK encL at hy
  rcases List.mem_append.1 hy with h | h
  · exact enc_lt _ (by simp) (by simp) y h
  · obtain ⟨x, hx, h2⟩ := List.mem_flatMap.1 h
    have := encK_ok a b ha hb x hx
    exact enc_lt x this.1 this.2 y h2
theorem encK_length (a b : Nat) (ha : a ≤ 1000000) (hb : b ≤ 1000000) : (encK a b).length ≤ 100 := by
  have h0 := enc_length (([(a : Int), (b : Int)].length : Nat) : Int) (by simp) (by simp)
  have h1 := enc_length (a : Int) (by omega) (by omega)
  have h2 := enc_length (b : Int) (by omega) (by omega)
  unfold encK encL
  simp only [List.length_append, List.flatMap_cons, List.flatMap_nil, List.length_nil]
  omega
theorem ints2 (w : World) (a b : Nat) : Cells (w.alloc (.cells #[.int .i64 (a : Int), .int .i64 (b : Int)] 3)) (some ⟨w.heap.size, 0, none⟩) (intsV [(a : Int), (b : Int)]) := cells_lit w #[.int .i64 (a : Int), .int .i64 (b : Int)] 3
theorem sb_chain (E : List Nat) (hE : ∀ y ∈ E, y < 256) : sb ((⟨#[99, 104, 97, 105, 110]⟩ : ByteArray) ++ strOf E) = [99, 104, 97, 105, 110] ++ E := by
  have h : sb ((⟨#[99, 104, 97, 105, 110]⟩ : ByteArray) ++ strOf E) = sb (⟨#[99, 104, 97, 105, 110]⟩ : ByteArray) ++ sb (strOf E) := by simp [sb]
  rw [h, sb_strOf E hE]
  rfl

set_option maxHeartbeats 1000000 in
set_option maxRecDepth 100000 in
theorem start_any (seed : ByteArray) (hs : seed.size ≤ 1048576) (key chain : Nat) (hk : key ≤ 1000000) (hc : chain ≤ 1000000) (w : World) (hR : GlobR w) :
    Calls Tryd.prog 33 #[.string seed, .int .i64 (key : Int), .int .i64 (chain : Int)] w fun e w' => e = .returned (.agg (bytesV (firstM (sb seed) key chain)).toArray) ∧ Below w.heap.size w w' := by
  have hz1 := zero_dig'
  have hEb := encK_byte key chain hk hc
  have hEl := encK_length key chain hk hc
  have hFd := firstM_dig (sb seed) key chain
  have hF : firstM (sb seed) key chain = (hmac (sb seed) ([99, 104, 97, 105, 110] ++ encK key chain)).take 16 := rfl
  have HI := Lib.hid (fun (bi : Nat) (w0 : World) h => show Calls Tryd.prog 49 #[.slice (some ⟨bi, 0, none⟩) 2 2] w0 (fun e w' => e = .returned (.string (strOf (encK key chain))) ∧ Below w0.heap.size w0 w') from ints_str (some ⟨bi, 0, none⟩) [(key : Int), (chain : Int)] 2 2 w0 rfl (by simp) (encK_ok key chain hk hc) hEb h)
  generalize encK key chain = E at hEb hEl hF HI
  obtain ⟨F, hFe⟩ : ∃ F, firstM (sb seed) key chain = F := ⟨_, rfl⟩
  rw [hFe] at hF hFd
  have HFE := Lib.hid hFe
  have hsE : (strOf E).size ≤ 100 := by rw [strOf_size]; exact hEl
  have hsb := sb_chain E hEb
  have hbs : ((⟨#[99, 104, 97, 105, 110]⟩ : ByteArray) ++ strOf E).size ≤ 1048576 := by rw [← sb_length, hsb, List.length_append]; simp; omega
  have hmac := rmac_any seed ((⟨#[99, 104, 97, 105, 110]⟩ : ByteArray) ++ strOf E) hs hbs
  rw [hsb] at hmac
  have hml := hmac_length (sb seed) ([99, 104, 97, 105, 110] ++ E)
  have hmb := hmac_byte (sb seed) ([99, 104, 97, 105, 110] ++ E)
  generalize Go.Proofs.YthffkbdecfjekaaDoor.hmac (sb seed) ([99, 104, 97, 105, 110] ++ E) = H at hF hmac hml hmb
  have HM := Lib.hid hmac
  have hsH : 16 ≤ (strOf H).size := by rw [strOf_size]; omega
  have hd := digest_any (strOf H) hsH
  rw [sb_strOf H hmb, ← hF] at hd
  have HD := Lib.hid hd
  have hvF : (bytesV F).length = 16 := by rw [bytesV_length]; exact hFd.1
  have hvz : (bytesV z16).length = 16 := rfl
  generalize strOf H = sH at HM HD
  clear hmac hd hF hFe hml hmb hsb hbs hEb hEl hsH
  go_enter Tryd.func33, Tryd.ntmps33
  go_upto_region 1 with (fail)
  generalize hw0 : World.alloc _ _ = W0
  have K0 : Blk W0 w.heap.size 23 (bytesV z16) := hw0 ▸ blk_new w _ _
  have KB : Below w.heap.size w W0 := hw0 ▸ ((Below.refl _ _).alloc (Nat.le_refl _) _)
  clear hw0 hz1
  have hci := ints2 W0 key chain
  have hB0 : Below W0.heap.size W0 (W0.alloc (.cells #[.int .i64 (key : Int), .int .i64 (chain : Int)] 3)) := (Below.refl _ _).alloc (Nat.le_refl _) _
  go_wp2_with (go_at_call 49; refine (HI.out _ _ hci).mono ?_; rintro e w1 ⟨rfl, hB1⟩)
  have hB1' := hB0.trans (hB1.mono hB0.size)
  have hR1 := hR.keep (link KB hB1')
  refine (HM.out w1 hR1).mono ?_
  rintro e w2 ⟨rfl, hB2⟩
  have hB2' := link hB1' hB2
  go_wp2_with fail
  refine (HD.out w2).mono ?_
  rintro e w3 ⟨rfl, hB3⟩
  have hB3' := link hB2' hB3
  have K3 := K0.keep hB3'
  clear hB0 hB1 hB1' hB2 hB2' hB3 hci K0
  go_wp2_with (refine store_blk rfl 23 (.tmp 6) (.tmp 14) rfl K3 rfl rfl (m := 16) (by kernel_rfl) hvF hvz (bytesV_cells F) ?_; intro w5 hb5 ho5)
  exact bodyPost_ret (v := .agg (bytesV F).toArray) (hb5.result (p := 6) (ty := 23) rfl _ rfl Tryd.underlying23 (by rw [hvF]; kernel_rfl)) rfl ⟨by rw [HFE.out], ho5.2.2 _ _ (Nat.le_refl _) (link KB hB3')⟩

end Go.Proofs.YthffkbdecfjekaaDoor

/-
  passimref03.advance: the values of a chain.
-/
namespace Go.Proofs.YthffkbdecfjekaaDoor
open Go.RowKit
set_option linter.unusedVariables false
set_option linter.unusedSimpArgs false

set_option maxHeartbeats 2000000 in
set_option maxRecDepth 100000 in
theorem radvance_any (key chain a b : Nat) (hk : key ≤ 1000000) (hc : chain ≤ 1000000) (hab : a ≤ b) (hb : b ≤ 1000000) (v : List Nat) (hv : Dgt v) (w : World) (hR : GlobR w) :
    Calls Tryd.prog 32 #[.int .i64 (key : Int), .int .i64 (chain : Int), .int .i64 (a : Int), .int .i64 (b : Int), .agg (bytesV v).toArray] w fun e w' => e = .returned (.agg (bytesV (advM key chain a v (b - a))).toArray) ∧ Below w.heap.size w w' := by
  have hz1 := zero_dig'
  go_enter Tryd.func32, Tryd.ntmps32
  go_upto_region 1 with (fail)
  generalize hw0 : World.alloc _ _ = W0
  have K9 : Blk W0 w.heap.size 23 (bytesV v) := hw0 ▸ ((blk_new w _ _).alloc _)
  have K10 : Blk W0 (w.heap.size + 1) 23 (bytesV z16) := hw0 ▸ blk_new1 w _ _ _
  have KB : Below w.heap.size w W0 := hw0 ▸ (((Below.refl _ _).alloc (Nat.le_refl _) _).alloc (by simp) _)
  clear hw0 hz1
  go_wp2
  go_loopw [11] (fun i wr => ∃ t n : Nat, t = a + n ∧ t ≤ b ∧ i = .int .i64 t ∧ Blk wr w.heap.size 23 (bytesV (advM key chain a v n)) ∧ Blk wr (w.heap.size + 1) 23 (bytesV z16) ∧ Below w.heap.size w wr) (fun i _ => b - (intOf i).toNat)
  case atStart => exact ⟨a, 0, rfl, hab, rfl, K9, K10, KB⟩
  case round =>
    clear K9 K10 KB
    obtain ⟨t, n, htn, htb, rfl, KS, KZ, CB⟩ := hrel
    by_cases hlt : t < b
    · have hD := advM_dig key chain a v hv n
      have hstep : advM key chain a v (n + 1) = ofS 1 [encC key chain t, advM key chain a v n] := by rw [htn]; rfl
      obtain ⟨M, hM⟩ : ∃ M, advM key chain a v (n + 1) = M := ⟨_, rfl⟩
      rw [hM] at hstep
      generalize advM key chain a v n = m at KS hD hstep
      have HST := Lib.hid hstep
      have HM := Lib.hid hM
      have HTN := Lib.hid htn
      have hMd : Dgt M := by rw [hstep]; exact dig_ofS _ _
      clear hstep hM htn
      go_upto_region 4 with (fail)
      have HI := Lib.hid (fun (bi : Nat) (w0 : World) h => show Calls Tryd.prog 49 #[.slice (some ⟨bi, 0, none⟩) 3 3] w0 (fun e w' => e = .returned (.string (strOf (encC key chain t))) ∧ Below w0.heap.size w0 w') from ints_str (some ⟨bi, 0, none⟩) [(key : Int), (chain : Int), (t : Int)] 3 3 w0 rfl (by simp) (encC_ok key chain t (by omega) (by omega) (by omega)) (encC_byte key chain t (by omega) (by omega) (by omega)) h)
      have hEb := encC_byte key chain t (by omega) (by omega) (by omega)
      have hEl := encC_length key chain t (by omega) (by omega) (by omega)
      have hHeld : True := trivial
      refine wp_region_held_drew (S := fun _ => True) (by kernel_rfl) trivial (fun _ => ?_)
      have KS0 : Blk wr.drew w.heap.size 23 (bytesV m) := KS
      have KZ0 : Blk wr.drew (w.heap.size + 1) 23 (bytesV z16) := KZ
      have CB0 : Below w.heap.size w wr.drew := below_drew CB
      have hB : Below wr.drew.heap.size wr.drew wr.drew := Below.refl _ _
      clear CB KZ KS
      generalize wr.drew = V0 at hB KS0 KZ0 CB0 ⊢
      have KS := KS0
      clear KS0
      refine wpAnyH_take (i := 0) (oi := ⟨some 18, .move (.tmp 0), 3, "ref.go:40", #[], none⟩) (v := .int .i64 (key : Int)) rfl (by kernel_rfl) (by kernel_rfl) (by kernel_rfl) (fun _ _ _ h => h) (Or.inl ⟨by rfl, fun w' hSw => by go_simp⟩) hHeld ?_
      try simp only [Act.put, List.setIfInBounds_toArray, List.set_cons_zero, List.set_cons_succ]
      refine wpAnyH_take (i := 1) (oi := ⟨some 19, .move (.tmp 1), 3, "ref.go:40", #[], none⟩) (v := .int .i64 (chain : Int)) rfl (by kernel_rfl) (by kernel_rfl) (by kernel_rfl) (fun _ _ _ h => h) (Or.inl ⟨by rfl, fun w' hSw => by go_simp⟩) hHeld ?_
      try simp only [Act.put, List.setIfInBounds_toArray, List.set_cons_zero, List.set_cons_succ]
      refine wpAnyH_take (i := 2) (oi := ⟨some 20, .move (.tmp 11), 3, "ref.go:40", #[], none⟩) (v := .int .i64 (t : Int)) rfl (by kernel_rfl) (by kernel_rfl) (by kernel_rfl) (fun _ _ _ h => h) (Or.inl ⟨by rfl, fun w' hSw => by go_simp⟩) hHeld ?_
      try simp only [Act.put, List.setIfInBounds_toArray, List.set_cons_zero, List.set_cons_succ]
      refine wpAnyH_ready (rs := [3, 5]) (by kernel_rfl) (by simp) ?_
      refine AllReadyH.cons (o := ⟨some 21, .buildSlice 25 3 #[(0, .tmp 18), (1, .tmp 19), (2, .tmp 20)], 25, "ref.go:40", #[⟨0, .data⟩, ⟨1, .data⟩, ⟨2, .data⟩], none⟩) rfl (fun K hK => ?_) (AllReadyH.cons (o := ⟨some 23, .load 23 (.tmp 9), 23, "ref.go:40", #[], none⟩) rfl (fun K hK => ?_) AllReadyH.nil)
      rw [if_pos (by rfl)]
      go_simp
      refine hK.out _ _ trivial (fun _ => ?_)
      clear hK K
      try simp only [Act.put, List.setIfInBounds_toArray, List.set_cons_zero, List.set_cons_succ]
      have hC := ints3 V0 key chain t
      replace KS := KS.alloc (.cells #[.int .i64 (key : Int), .int .i64 (chain : Int), .int .i64 (t : Int)] 3)
      replace hB := hB.alloc hB.size (.cells #[.int .i64 (key : Int), .int .i64 (chain : Int), .int .i64 (t : Int)] 3)
      generalize World.alloc V0 _ = V1 at KS hB hC ⊢
      generalize V0.heap.size = bi at hC ⊢
      refine wpAnyH_ready (rs := [4, 5]) (by kernel_rfl) (by simp) ?_
      refine AllReadyH.cons (o := ⟨some 22, .call { callee := .value (.func 49), args := #[.tmp 21], argTypes := #[25] }, 9, "ref.go:40", #[⟨3, .data⟩], none⟩) rfl (fun K hK => ?_) (AllReadyH.cons (o := ⟨some 23, .load 23 (.tmp 9), 23, "ref.go:40", #[], none⟩) rfl (fun K hK => ?_) AllReadyH.nil)
      rw [if_pos (by rfl)]
      go_simp
      refine (HI.out _ _ hC).mono ?_
      rintro e V2 ⟨rfl, hCC⟩
      replace KS := KS.keep hCC
      replace hB := link hB hCC
      clear hC hCC
      dsimp only
      refine hK.out _ _ trivial (fun _ => ?_)
      clear hK K
      try simp only [Act.put, List.setIfInBounds_toArray, List.set_cons_zero, List.set_cons_succ]
      refine wpAnyH_ready (rs := [5]) (by kernel_rfl) (by simp) ?_
      refine AllReadyH.cons (o := ⟨some 23, .load 23 (.tmp 9), 23, "ref.go:40", #[], none⟩) rfl (fun K hK => ?_) AllReadyH.nil
      rw [if_pos (by rfl)]
      refine wp_load_mid _ _ rfl w.heap.size 0 rfl _ _ (rng_at KS) Tryd.underlying23 rfl (size_dig _ hD.1) ?_
      try simp only [Act.put, List.setIfInBounds_toArray, List.set_cons_zero, List.set_cons_succ]
      refine hK.out _ _ trivial (fun _ => ?_)
      clear hK K
      try simp only [Act.put, List.setIfInBounds_toArray, List.set_cons_zero, List.set_cons_succ]
      refine wpAnyH_ready (rs := [6]) (by kernel_rfl) (by simp) ?_
      refine AllReadyH.cons (o := ⟨some 24, .call { callee := .value (.func 31), args := #[.tmp 23], argTypes := #[23] }, 9, "ref.go:40", #[⟨5, .data⟩, ⟨4, .chain⟩], none⟩) rfl (fun K hK => ?_) AllReadyH.nil
      rw [if_pos (by rfl)]
      go_simp
      refine (text_any m hD.1 hD.2 _).mono ?_
      rintro e V3 ⟨rfl, hCC⟩
      replace KS := KS.keep hCC
      replace hB := link hB hCC
      clear hCC
      dsimp only
      refine hK.out _ _ trivial (fun _ => ?_)
      clear hK K
      try simp only [Act.put, List.setIfInBounds_toArray, List.set_cons_zero, List.set_cons_succ]
      rotate_left
      rw [if_pos (by rfl)]
      refine wp_load_mid _ _ rfl w.heap.size 0 rfl _ _ (rng_at KS) Tryd.underlying23 rfl (size_dig _ hD.1) ?_
      try simp only [Act.put, List.setIfInBounds_toArray, List.set_cons_zero, List.set_cons_succ]
      refine hK.out _ _ trivial (fun _ => ?_)
      clear hK K
      try simp only [Act.put, List.setIfInBounds_toArray, List.set_cons_zero, List.set_cons_succ]
      refine wpAnyH_ready (rs := [4]) (by kernel_rfl) (by simp) ?_
      refine AllReadyH.cons (o := ⟨some 22, .call { callee := .value (.func 49), args := #[.tmp 21], argTypes := #[25] }, 9, "ref.go:40", #[⟨3, .data⟩], none⟩) rfl (fun K hK => ?_) AllReadyH.nil
      rw [if_pos (by rfl)]
      go_simp
      refine (HI.out _ _ hC).mono ?_
      rintro e V2 ⟨rfl, hCC⟩
      replace KS := KS.keep hCC
      replace hB := link hB hCC
      clear hC hCC
      dsimp only
      refine hK.out _ _ trivial (fun _ => ?_)
      clear hK K
      try simp only [Act.put, List.setIfInBounds_toArray, List.set_cons_zero, List.set_cons_succ]
      refine wpAnyH_ready (rs := [6]) (by kernel_rfl) (by simp) ?_
      refine AllReadyH.cons (o := ⟨some 24, .call { callee := .value (.func 31), args := #[.tmp 23], argTypes := #[23] }, 9, "ref.go:40", #[⟨5, .data⟩, ⟨4, .chain⟩], none⟩) rfl (fun K hK => ?_) AllReadyH.nil
      rw [if_pos (by rfl)]
      go_simp
      refine (text_any m hD.1 hD.2 _).mono ?_
      rintro e V3 ⟨rfl, hCC⟩
      replace KS := KS.keep hCC
      replace hB := link hB hCC
      clear hCC
      dsimp only
      refine hK.out _ _ trivial (fun _ => ?_)
      clear hK K
      try simp only [Act.put, List.setIfInBounds_toArray, List.set_cons_zero, List.set_cons_succ]
      rotate_left
      rw [if_pos (by rfl)]
      refine wp_load_mid _ _ rfl w.heap.size 0 rfl _ _ (rng_at KS) Tryd.underlying23 rfl (size_dig _ hD.1) ?_
      try simp only [Act.put, List.setIfInBounds_toArray, List.set_cons_zero, List.set_cons_succ]
      refine hK.out _ _ trivial (fun _ => ?_)
      clear hK K
      try simp only [Act.put, List.setIfInBounds_toArray, List.set_cons_zero, List.set_cons_succ]
      refine wpAnyH_ready (rs := [3]) (by kernel_rfl) (by simp) ?_
      refine AllReadyH.cons (o := ⟨some 21, .buildSlice 25 3 #[(0, .tmp 18), (1, .tmp 19), (2, .tmp 20)], 25, "ref.go:40", #[⟨0, .data⟩, ⟨1, .data⟩, ⟨2, .data⟩], none⟩) rfl (fun K hK => ?_) AllReadyH.nil
      rw [if_pos (by rfl)]
      go_simp
      refine hK.out _ _ trivial (fun _ => ?_)
      clear hK K
      try simp only [Act.put, List.setIfInBounds_toArray, List.set_cons_zero, List.set_cons_succ]
      have hC := ints3 V0 key chain t
      replace KS := KS.alloc (.cells #[.int .i64 (key : Int), .int .i64 (chain : Int), .int .i64 (t : Int)] 3)
      replace hB := hB.alloc hB.size (.cells #[.int .i64 (key : Int), .int .i64 (chain : Int), .int .i64 (t : Int)] 3)
      generalize World.alloc V0 _ = V1 at KS hB hC ⊢
      generalize V0.heap.size = bi at hC ⊢
      refine wpAnyH_ready (rs := [4]) (by kernel_rfl) (by simp) ?_
      refine AllReadyH.cons (o := ⟨some 22, .call { callee := .value (.func 49), args := #[.tmp 21], argTypes := #[25] }, 9, "ref.go:40", #[⟨3, .data⟩], none⟩) rfl (fun K hK => ?_) AllReadyH.nil
      rw [if_pos (by rfl)]
      go_simp
      refine (HI.out _ _ hC).mono ?_
      rintro e V2 ⟨rfl, hCC⟩
      replace KS := KS.keep hCC
      replace hB := link hB hCC
      clear hC hCC
      dsimp only
      refine hK.out _ _ trivial (fun _ => ?_)
      clear hK K
      try simp only [Act.put, List.setIfInBounds_toArray, List.set_cons_zero, List.set_cons_succ]
      refine wpAnyH_ready (rs := [6]) (by kernel_rfl) (by simp) ?_
      refine AllReadyH.cons (o := ⟨some 24, .call { callee := .value (.func 31), args := #[.tmp 23], argTypes := #[23] }, 9, "ref.go:40", #[⟨5, .data⟩, ⟨4, .chain⟩], none⟩) rfl (fun K hK => ?_) AllReadyH.nil
      rw [if_pos (by rfl)]
      go_simp
      refine (text_any m hD.1 hD.2 _).mono ?_
      rintro e V3 ⟨rfl, hCC⟩
      replace KS := KS.keep hCC
      replace hB := link hB hCC
      clear hCC
      dsimp only
      refine hK.out _ _ trivial (fun _ => ?_)
      clear hK K
      try simp only [Act.put, List.setIfInBounds_toArray, List.set_cons_zero, List.set_cons_succ]
      rotate_left
      all_goals
        refine wpAnyH_ready (rs := [7]) (by kernel_rfl) (by simp) ?_
        refine AllReadyH.cons (o := ⟨some 25, .buildSlice 66 2 #[(0, .tmp 22), (1, .tmp 24)], 66, "ref.go:40", #[⟨4, .data⟩, ⟨6, .data⟩], none⟩) rfl (fun K hK => ?_) AllReadyH.nil
        rw [if_pos (by rfl)]
        go_simp
        refine hK.out _ _ trivial (fun _ => ?_)
        clear hK K
        try simp only [Act.put, List.setIfInBounds_toArray, List.set_cons_zero, List.set_cons_succ]
        refine wpAnyH_ready (rs := [8]) (by kernel_rfl) (by simp) ?_
        refine AllReadyH.cons (o := ⟨some 26, .call { callee := .value (.func 35), args := #[.const (Value.int IntKind.i64 1), .tmp 25], argTypes := #[3, 66] }, 23, "ref.go:40", #[⟨7, .data⟩, ⟨6, .chain⟩], none⟩) rfl (fun K hK => ?_) AllReadyH.nil
        rw [if_pos (by rfl)]
        go_simp
        refine (rof_lit 1 (by omega) [strOf (encC key chain t), strOf m] (by simp) (two_size hEl hD.1) _ rfl 2 rfl V3 (hR.keep (link CB0 hB))).mono ?_
        rintro e V4 ⟨rfl, hB3⟩
        rw [two_sbs hEb hD.2, ← HST.out]
        replace KS := KS.keep hB3
        replace hB := link hB hB3
        clear hB3
        dsimp only
        refine hK.out _ _ trivial (fun _ => ?_)
        clear hK K
        try simp only [Act.put, List.setIfInBounds_toArray, List.set_cons_zero, List.set_cons_succ]
        have hvM : (bytesV M).length = 16 := by rw [bytesV_length]; exact hMd.1
        have hvm : (bytesV m).length = 16 := by rw [bytesV_length]; exact hD.1
        have hst := KS.storeRun (vs := bytesV M) (by rw [hvM, hvm]) (bytesV_cells M)
        refine wpAnyH_ready (rs := [9]) (by kernel_rfl) (by simp) ?_
        refine AllReadyH.cons (o := ⟨none, .store 23 (.tmp 9) (.tmp 26), 0, "ref.go:40", #[⟨8, .data⟩, ⟨8, .chain⟩, ⟨0, .phase⟩, ⟨1, .phase⟩, ⟨2, .phase⟩, ⟨3, .phase⟩, ⟨4, .phase⟩, ⟨5, .phase⟩, ⟨6, .phase⟩, ⟨7, .phase⟩, ⟨8, .phase⟩], none⟩) rfl (fun K hK => ?_) AllReadyH.nil
        rw [if_pos (by rfl)]
        go_simp
        refine hK.out _ _ trivial (fun _ => ?_)
        clear hK K
        try simp only [Act.put, List.setIfInBounds_toArray, List.set_cons_zero, List.set_cons_succ]
        refine wpAnyH_done (by kernel_rfl) ?_ _
        have K9 : Blk (V4.setCells w.heap.size 0 (bytesV M)) w.heap.size 23 (bytesV M) := KS.all (by rw [hvM, hvm])
        have hO := only_sets w.heap.size 0 V4 (bytesV M)
        have KZ1 := hO.2.1 _ _ _ (by omega) (KZ0.keep hB)
        have CB1 := hO.2.2 _ _ (Nat.le_refl _) (link CB0 hB)
        clear hst hO KS KZ0 CB0 hB HI hvM hvm
        generalize World.setCells _ _ _ _ = wy at K9 KZ1 CB1 ⊢
        go_wp2
        go_roundw
        case rel => exact ⟨t + 1, n + 1, by have := HTN.out; omega, by omega, by go_num, by rw [HM.out]; exact K9, KZ1, CB1⟩
        case measure => simp [intOf]; omega
    · have htb2 : t = b := by omega
      have hnb : b - a = n := by omega
      have hD := advM_dig key chain a v hv n
      have hE : advM key chain a v (b - a) = advM key chain a v n := by rw [hnb]
      obtain ⟨m, hm⟩ : ∃ m, advM key chain a v n = m := ⟨_, rfl⟩
      rw [hm] at KS hD hE
      have HE := Lib.hid hE
      have hnl : ¬ (t : Int) < (b : Int) := by omega
      have hvm : (bytesV m).length = 16 := by rw [bytesV_length]; exact hD.1
      have hvz : (bytesV z16).length = 16 := rfl
      clear hE hm htn htb2 hnb
      go_wp2_with (first | (refine load_blk rfl 23 (.tmp 9) rfl KS rfl Tryd.underlying23 (m := 16) (by kernel_rfl) hvm ?_) | (refine store_blk rfl 23 (.tmp 10) (.tmp 27) rfl KZ rfl rfl (m := 16) (by kernel_rfl) hvm hvz (bytesV_cells m) ?_; intro w5 hb5 ho5))
      exact bodyPost_ret (v := .agg (bytesV m).toArray) (hb5.result (p := 10) (ty := 23) rfl _ rfl Tryd.underlying23 (by rw [hvm]; kernel_rfl)) rfl ⟨by rw [HE.out], ho5.2.2 _ _ (by omega) CB⟩

end Go.Proofs.YthffkbdecfjekaaDoor

/-
  passimref03.leaf: the node of a one-time key at level 0.
-/
namespace Go.Proofs.YthffkbdecfjekaaDoor
open Go.RowKit
set_option linter.unusedVariables false
set_option linter.unusedSimpArgs false

/-- The values at the top of the first c chains of a key. -/
def topsM (seed : List Nat) (key : Nat) : Nat → List Nat
  | 0 => []
  | c + 1 => topsM seed key c ++ advM key c 0 (firstM seed key c) 3
theorem topsM_length (seed : List Nat) (key : Nat) : ∀ c, (topsM seed key c).length = 16 * c
  | 0 => rfl
  | c + 1 => by
    have h := (advM_dig key c 0 _ (firstM_dig seed key c) 3).1
    rw [topsM, List.length_append, topsM_length seed key c, h]
    omega
theorem topsM_byte (seed : List Nat) (key : Nat) : ∀ c, ∀ y ∈ topsM seed key c, y < 256
  | 0 => by simp [topsM]
  | c + 1 => by
    intro y hy
    rcases List.mem_append.1 hy with h | h
    · exact topsM_byte seed key c y h
    · exact (advM_dig key c 0 _ (firstM_dig seed key c) 3).2 y h
theorem sb_app (a b : ByteArray) : sb (a ++ b) = sb a ++ sb b := by simp [sb]

theorem of_list1 (s : ByteArray) (hs : s.size ≤ 1048576) (w : World) (hR : GlobR w) : Calls Tryd.prog 35 #[.int .i64 2, .slice (some ⟨w.heap.size, 0, none⟩) 1 1] (w.alloc (.cells #[.string s] 9)) fun e w' => e = .returned (.agg (bytesV (ofS 2 [sb s])).toArray) ∧ Below w.heap.size w w' :=
  rof_lit 2 (by omega) [s] (by simp) (by intro x hx; rw [List.mem_singleton.1 hx]; exact hs) #[.string s] rfl 1 rfl w hR
theorem of_list2 (D : List Nat) (hD : Dgt D) (w : World) (hR : GlobR w) : Calls Tryd.prog 35 #[.int .i64 3, .slice (some ⟨w.heap.size, 0, none⟩) 1 1] (w.alloc (.cells #[.string (strOf D)] 9)) fun e w' => e = .returned (.agg (bytesV (ofS 3 [D])).toArray) ∧ Below w.heap.size w w' := by
  have h := rof_lit 3 (by omega) [strOf D] (by simp) (by intro x hx; rw [List.mem_singleton.1 hx, strOf_size, hD.1]; omega) #[.string (strOf D)] rfl 1 rfl w hR
  rwa [show sbs [strOf D] = [D] by simp [sbs, sb_strOf D hD.2]] at h

set_option maxHeartbeats 2000000 in
set_option maxRecDepth 100000 in
theorem rleaf_any (seed : ByteArray) (hs : seed.size ≤ 1048576) (key : Nat) (hk : key ≤ 1000000) (w : World) (hR : GlobR w) :
    Calls Tryd.prog 44 #[.string seed, .int .i64 (key : Int)] w fun e w' => e = .returned (.agg (bytesV (leafM (topsM (sb seed) key 68))).toArray) ∧ Below w.heap.size w w' := by
  have hz1 := zero_dig'
  have hz16 : (bytesV z16).toArray.toList.length = 16 := rfl
  have hvz : (bytesV z16).length = 16 := rfl
  have HS := Lib.hid (fun c (hc : c ≤ 1000000) w0 g => start_any seed hs key c hk hc w0 g)
  go_enter Tryd.func44, Tryd.ntmps44
  go_upto_region 1 with (fail)
  generalize hw0 : World.alloc _ _ = W0
  have K4 : Blk W0 w.heap.size 23 (bytesV z16) := hw0 ▸ blk_new w _ _
  have KB : Below w.heap.size w W0 := hw0 ▸ ((Below.refl _ _).alloc (Nat.le_refl _) _)
  clear hw0
  go_wp2
  go_loopw [5, 6] (fun v i wr => ∃ (c : Nat) (s : ByteArray), c ≤ 68 ∧ i = .int .i64 c ∧ v = .string s ∧ Hid (sb s = topsM (sb seed) key c) ∧ Below W0.heap.size W0 wr) (fun _ i _ => 68 - (intOf i).toNat)
  case atStart => exact ⟨0, _, by omega, rfl, rfl, Lib.hid rfl, Below.refl _ _⟩
  case round =>
    obtain ⟨c, s, hc, rfl, rfl, HT, hB⟩ := hrel
    have hsz : s.size = 16 * c := by rw [← sb_length, HT.out, topsM_length]
    by_cases h68 : c < 68
    · have hR1 := hR.keep (link KB hB)
      have hFd := firstM_dig (sb seed) key c
      have hAd := advM_dig key c 0 _ hFd 3
      have hst : topsM (sb seed) key (c + 1) = topsM (sb seed) key c ++ advM key c 0 (firstM (sb seed) key c) 3 := rfl
      have HA := Lib.hid (fun w0 g => radvance_any key c 0 3 hk (by omega) (by omega) (by omega) _ hFd w0 g)
      have HS1 := Lib.hid (HS.out c (by omega) wr hR1)
      generalize firstM (sb seed) key c = F at HA HS1 hFd hAd hst
      simp only [Nat.sub_zero] at HA
      generalize advM key c 0 F 3 = D at HA hAd hst
      have hc2 : sb (s ++ strOf D) = topsM (sb seed) key (c + 1) := by rw [sb_app, HT.out, sb_strOf D hAd.2, hst]
      have HC := Lib.hid hc2
      have hsD : (strOf D).size = 16 := by rw [strOf_size]; exact hAd.1
      clear hst hc2
      go_wp2_with fail
      refine HS1.out.mono ?_
      rintro e w1 ⟨rfl, hB1⟩
      go_wp2_with fail
      refine (HA.out w1 (hR1.keep hB1)).mono ?_
      rintro e w2 ⟨rfl, hB2⟩
      go_wp2_with fail
      refine (text_any D hAd.1 hAd.2 _).mono ?_
      rintro e w3 ⟨rfl, hB3⟩
      have hB4 := link hB (link hB1 (link hB2 hB3))
      have hcat : s.size + (strOf D).size ≤ 9223372036854775807 := by omega
      generalize strOf D = sD at hcat HC hsD ⊢
      clear hB hB1 hB2 hB3 HS1 HA hsD hsz
      go_wp2
      go_roundw
      case rel => exact ⟨c + 1, _, by omega, by go_num, rfl, HC, hB4⟩
      case measure => simp [intOf]; omega
    · obtain rfl : c = 68 := by omega
      have hsb := HT.out
      have hR1 := hR.keep (link KB hB)
      have hK4 := K4.keep hB
      have hCB := link KB hB
      have H1 := of_list1 s (by omega) wr hR1
      rw [hsb] at H1
      have HL : Hid (leafM (topsM (sb seed) key 68) = ofS 3 [ofS 2 [topsM (sb seed) key 68]]) := Lib.hid rfl
      have hd1 := dig_ofS 2 [topsM (sb seed) key 68]
      generalize ofS 2 [topsM (sb seed) key 68] = D at H1 HL hd1
      have H1' := Lib.hid H1
      have hv1 : (bytesV D).length = 16 := by rw [bytesV_length]; exact hd1.1
      have hd2 := dig_ofS 3 [D]
      have hsD : (strOf D).size ≤ 1048576 := by rw [strOf_size, hd1.1]; omega
      have H2 := Lib.hid (fun w0 g => of_list2 D hd1 w0 g)
      obtain ⟨E, hE⟩ : ∃ E, ofS 3 [D] = E := ⟨_, rfl⟩
      rw [hE] at H2 hd2
      have HEE : Hid (leafM (topsM (sb seed) key 68) = E) := Lib.hid (by rw [HL.out, hE])
      have hv2 : (bytesV E).length = 16 := by rw [bytesV_length]; exact hd2.1
      clear H1 hE HL hsb HT hsz hB K4 KB
      go_upto_region 7 with (first | (go_at_call 35; refine H1'.out.mono ?_; rintro e w1 ⟨rfl, hB1⟩) | (refine store_blk rfl 23 (.tmp 7) (.tmp 24) rfl (blk_new w1 23 (bytesV z16).toArray) rfl rfl (m := 16) (by kernel_rfl) hv1 hz16 (bytesV_cells D) ?_; intro x1 K7 O7))
      have Z1 : Below wr.heap.size wr x1 := O7.2.2 _ _ hB1.size (hB1.alloc hB1.size _)
      have C1 := link hCB Z1
      have L4 := hK4.keep Z1
      clear O7 hB1 hK4
      go_wp2_with (refine load_blk rfl 23 (.tmp 7) rfl K7 rfl Tryd.underlying23 (m := 16) (by kernel_rfl) hv1 ?_)
      refine (text_any D hd1.1 hd1.2 _).mono ?_
      rintro e w2 ⟨rfl, hB2⟩
      have C2 := link C1 hB2
      have L5 := L4.keep hB2
      have H2' := Lib.hid (H2.out w2 (hR.keep C2))
      go_wp2_with (first | (go_at_call 35; refine H2'.out.mono ?_; rintro e w3 ⟨rfl, hB3⟩) | (refine store_blk rfl 23 (.tmp 4) (.tmp 28) rfl (L5.keep hB3) rfl rfl (m := 16) (by kernel_rfl) hv2 hvz (bytesV_cells E) ?_; intro w5 hb5 ho5))
      exact bodyPost_ret (v := .agg (bytesV E).toArray) (hb5.result (p := 4) (ty := 23) rfl _ rfl Tryd.underlying23 (by rw [hv2]; kernel_rfl)) rfl ⟨by rw [HEE.out], ho5.2.2 _ _ (Nat.le_refl _) (link C2 hB3)⟩

end Go.Proofs.YthffkbdecfjekaaDoor

/-
  sign.Digest: what is signed for a message.
-/
namespace Go.Proofs.YthffkbdecfjekaaDoor
open Go.RowKit
set_option linter.unusedVariables false
set_option linter.unusedSimpArgs false

/-- What is signed for a message. -/
def digestM (pub : List Nat) (i : Int) (msg : List Nat) : List Nat := ofS 5 [pub, enc i, msg]
theorem three_size {l m : List Nat} {s : ByteArray} (hl : l.length = 16) (hm : m.length ≤ 9) (hs : s.size ≤ 1048576) : ∀ x ∈ [strOf l, strOf m, s], x.size ≤ 1048576 := by
  intro x hx
  simp only [List.mem_cons, List.mem_nil_iff, or_false] at hx
  rcases hx with rfl | rfl | rfl
  · rw [strOf_size]; omega
  · rw [strOf_size]; omega
  · exact hs
theorem three_sbs {l m : List Nat} (s : ByteArray) (hl : ∀ y ∈ l, y < 256) (hm : ∀ y ∈ m, y < 256) : sbs [strOf l, strOf m, s] = [l, m, sb s] := by
  simp [sbs, sb_strOf l hl, sb_strOf m hm]

set_option maxHeartbeats 2000000 in
set_option maxRecDepth 100000 in
theorem sdigest_any (x : List Nat) (hx : Dgt x) (i : Int) (hi1 : -9223372036854775808 ≤ i) (hi2 : i ≤ 9223372036854775807) (s : ByteArray) (hs : s.size ≤ 1048576) (w : World) (hG : Glob w) :
    Calls Tryd.prog 16 #[.agg (bytesV x).toArray, .int .i64 i, .string s] w fun e w' => e = .returned (.agg (bytesV (digestM x i (sb s))).toArray) ∧ Below w.heap.size w w' := by
  have hz1 := zero_dig'
  have hEb := enc_lt i hi1 hi2
  have hEl := (enc_length i hi1 hi2).2
  have hD0 : digestM x i (sb s) = ofS 5 [x, enc i, sb s] := rfl
  obtain ⟨M, hM⟩ : ∃ M, digestM x i (sb s) = M := ⟨_, rfl⟩
  rw [hM] at hD0
  have hMd : Dgt M := by rw [hD0]; exact dig_ofS _ _
  have HM := Lib.hid hM
  have HD0 := Lib.hid hD0
  have HI := Lib.hid (fun w0 => int_any i hi1 hi2 w0)
  clear hM hD0
  go_enter Tryd.func16, Tryd.ntmps16
  go_upto_region 1 with (fail)
  generalize hw0 : World.alloc _ _ = W0
  have K3 : Blk W0 w.heap.size 23 (bytesV x) := hw0 ▸ ((blk_new w _ _).alloc _)
  have K6 : Blk W0 (w.heap.size + 1) 23 (bytesV z16) := hw0 ▸ blk_new1 w _ _ _
  have KB : Below w.heap.size w W0 := hw0 ▸ (((Below.refl _ _).alloc (Nat.le_refl _) _).alloc (by simp) _)
  clear hw0 hz1
  have hsl := slice_dig
  have hHeld : True := trivial
  refine wp_region_held_drew (S := fun _ => True) (by kernel_rfl) trivial (fun _ => ?_)
  have L3 : Blk W0.drew w.heap.size 23 (bytesV x) := K3
  have L6 : Blk W0.drew (w.heap.size + 1) 23 (bytesV z16) := K6
  have CB : Below w.heap.size w W0.drew := below_drew KB
  have hB : Below W0.drew.heap.size W0.drew W0.drew := Below.refl _ _
  clear K3 K6 KB
  generalize W0.drew = V0 at hB L3 L6 CB ⊢
  refine wpAnyH_take (i := 0) (oi := ⟨some 7, .slice 23 (.tmp 3) none none none, 52, "sign.go:107", #[], none⟩) (v := .slice (some ⟨w.heap.size, 0, none⟩) 16 16) rfl (by kernel_rfl) (by kernel_rfl) (by kernel_rfl) (fun _ _ _ h => h) (Or.inl ⟨by rfl, fun w' hSw => by go_simp⟩) hHeld ?_
  try simp only [Act.put, List.setIfInBounds_toArray, List.set_cons_zero, List.set_cons_succ]
  refine wpAnyH_take (i := 2) (oi := ⟨some 9, .move (.tmp 1), 3, "sign.go:107", #[], none⟩) (v := .int .i64 i) rfl (by kernel_rfl) (by kernel_rfl) (by kernel_rfl) (fun _ _ _ h => h) (Or.inl ⟨by rfl, fun w' hSw => by go_simp⟩) hHeld ?_
  try simp only [Act.put, List.setIfInBounds_toArray, List.set_cons_zero, List.set_cons_succ]
  refine wpAnyH_take (i := 5) (oi := ⟨some 12, .move (.tmp 2), 9, "sign.go:107", #[], none⟩) (v := .string s) rfl (by kernel_rfl) (by kernel_rfl) (by kernel_rfl) (fun _ _ _ h => h) (Or.inl ⟨by rfl, fun w' hSw => by go_simp⟩) hHeld ?_
  try simp only [Act.put, List.setIfInBounds_toArray, List.set_cons_zero, List.set_cons_succ]
  refine wpAnyH_ready (rs := [1, 3]) (by kernel_rfl) (by simp) ?_
  refine AllReadyH.cons (o := ⟨some 8, .convert 52 9 (.tmp 7), 9, "sign.go:107", #[⟨0, .data⟩], none⟩) rfl (fun K hK => ?_) (AllReadyH.cons (o := ⟨some 10, .call { callee := .value (.func 26), args := #[.tmp 9], argTypes := #[3] }, 52, "sign.go:107", #[⟨2, .data⟩], none⟩) rfl (fun K hK => ?_) AllReadyH.nil)
  rw [if_pos (by rfl)]
  have kv := conv_dig L3 hx.1 hx.2
  go_simp
  clear kv
  refine hK.out _ _ trivial (fun _ => ?_)
  clear hK K
  try simp only [Act.put, List.setIfInBounds_toArray, List.set_cons_zero, List.set_cons_succ]
  refine wpAnyH_ready (rs := [3]) (by kernel_rfl) (by simp) ?_
  refine AllReadyH.cons (o := ⟨some 10, .call { callee := .value (.func 26), args := #[.tmp 9], argTypes := #[3] }, 52, "sign.go:107", #[⟨2, .data⟩], none⟩) rfl (fun K hK => ?_) AllReadyH.nil
  rw [if_pos (by rfl)]
  go_simp
  refine (HI.out _).mono ?_
  rintro e V1 ⟨gi, ci, rfl, hOi⟩
  replace L3 := L3.keep hOi.below
  replace L6 := L6.keep hOi.below
  replace hB := link hB hOi.below
  have hI := hOi.has hEb
  clear hOi
  dsimp only
  refine hK.out _ _ trivial (fun _ => ?_)
  clear hK K
  try simp only [Act.put, List.setIfInBounds_toArray, List.set_cons_zero, List.set_cons_succ]
  refine wpAnyH_ready (rs := [4]) (by kernel_rfl) (by simp) ?_
  refine AllReadyH.cons (o := ⟨some 11, .convert 52 9 (.tmp 10), 9, "sign.go:107", #[⟨3, .data⟩], none⟩) rfl (fun K hK => ?_) AllReadyH.nil
  rw [if_pos (by rfl)]
  have kv := conv_any (some ⟨gi, 0, none⟩) (enc i) (enc i).length ci _ rfl hI
  go_simp
  clear kv hI
  refine hK.out _ _ trivial (fun _ => ?_)
  clear hK K
  try simp only [Act.put, List.setIfInBounds_toArray, List.set_cons_zero, List.set_cons_succ]
  rotate_left
  rw [if_pos (by rfl)]
  go_simp
  refine (HI.out _).mono ?_
  rintro e V1 ⟨gi, ci, rfl, hOi⟩
  replace L3 := L3.keep hOi.below
  replace L6 := L6.keep hOi.below
  replace hB := link hB hOi.below
  have hI := hOi.has hEb
  clear hOi
  dsimp only
  refine hK.out _ _ trivial (fun _ => ?_)
  clear hK K
  try simp only [Act.put, List.setIfInBounds_toArray, List.set_cons_zero, List.set_cons_succ]
  refine wpAnyH_ready (rs := [1, 4]) (by kernel_rfl) (by simp) ?_
  refine AllReadyH.cons (o := ⟨some 8, .convert 52 9 (.tmp 7), 9, "sign.go:107", #[⟨0, .data⟩], none⟩) rfl (fun K hK => ?_) (AllReadyH.cons (o := ⟨some 11, .convert 52 9 (.tmp 10), 9, "sign.go:107", #[⟨3, .data⟩], none⟩) rfl (fun K hK => ?_) AllReadyH.nil)
  rw [if_pos (by rfl)]
  have kv := conv_dig L3 hx.1 hx.2
  go_simp
  clear kv
  refine hK.out _ _ trivial (fun _ => ?_)
  clear hK K
  try simp only [Act.put, List.setIfInBounds_toArray, List.set_cons_zero, List.set_cons_succ]
  refine wpAnyH_ready (rs := [4]) (by kernel_rfl) (by simp) ?_
  refine AllReadyH.cons (o := ⟨some 11, .convert 52 9 (.tmp 10), 9, "sign.go:107", #[⟨3, .data⟩], none⟩) rfl (fun K hK => ?_) AllReadyH.nil
  rw [if_pos (by rfl)]
  have kv := conv_any (some ⟨gi, 0, none⟩) (enc i) (enc i).length ci _ rfl hI
  go_simp
  clear kv hI
  refine hK.out _ _ trivial (fun _ => ?_)
  clear hK K
  try simp only [Act.put, List.setIfInBounds_toArray, List.set_cons_zero, List.set_cons_succ]
  rotate_left
  rw [if_pos (by rfl)]
  have kv := conv_any (some ⟨gi, 0, none⟩) (enc i) (enc i).length ci _ rfl hI
  go_simp
  clear kv hI
  refine hK.out _ _ trivial (fun _ => ?_)
  clear hK K
  try simp only [Act.put, List.setIfInBounds_toArray, List.set_cons_zero, List.set_cons_succ]
  refine wpAnyH_ready (rs := [1]) (by kernel_rfl) (by simp) ?_
  refine AllReadyH.cons (o := ⟨some 8, .convert 52 9 (.tmp 7), 9, "sign.go:107", #[⟨0, .data⟩], none⟩) rfl (fun K hK => ?_) AllReadyH.nil
  rw [if_pos (by rfl)]
  have kv := conv_dig L3 hx.1 hx.2
  go_simp
  clear kv
  refine hK.out _ _ trivial (fun _ => ?_)
  clear hK K
  try simp only [Act.put, List.setIfInBounds_toArray, List.set_cons_zero, List.set_cons_succ]
  rotate_left
  all_goals
    refine wpAnyH_ready (rs := [6]) (by kernel_rfl) (by simp) ?_
    refine AllReadyH.cons (o := ⟨some 13, .buildSlice 66 3 #[(0, .tmp 8), (1, .tmp 11), (2, .tmp 12)], 66, "sign.go:107", #[⟨1, .data⟩, ⟨4, .data⟩, ⟨5, .data⟩], none⟩) rfl (fun K hK => ?_) AllReadyH.nil
    rw [if_pos (by rfl)]
    go_simp
    refine hK.out _ _ trivial (fun _ => ?_)
    clear hK K
    try simp only [Act.put, List.setIfInBounds_toArray, List.set_cons_zero, List.set_cons_succ]
    refine wpAnyH_ready (rs := [7]) (by kernel_rfl) (by simp) ?_
    refine AllReadyH.cons (o := ⟨some 14, .call { callee := .value (.func 34), args := #[.const (Value.int IntKind.i64 5), .tmp 13], argTypes := #[3, 66] }, 23, "sign.go:107", #[⟨6, .data⟩, ⟨3, .chain⟩], none⟩) rfl (fun K hK => ?_) AllReadyH.nil
    rw [if_pos (by rfl)]
    go_simp
    refine (of_lit 5 (by omega) [strOf x, strOf (enc i), s] (by simp) (three_size hx.1 hEl hs) _ rfl 3 rfl V1 (hG.keep (link CB hB))).mono ?_
    rintro e V2 ⟨rfl, hB1⟩
    rw [three_sbs s hx.2 hEb, ← HD0.out]
    dsimp only
    refine hK.out _ _ trivial (fun _ => ?_)
    clear hK K
    try simp only [Act.put, List.setIfInBounds_toArray, List.set_cons_zero, List.set_cons_succ]
    have hvM : (bytesV M).length = 16 := by rw [bytesV_length]; exact hMd.1
    have hvz : (bytesV z16).length = 16 := rfl
    have K4 := L6.keep hB1
    have hst := K4.storeRun (vs := bytesV M) (by rw [hvM, hvz]) (bytesV_cells M)
    refine wpAnyH_ready (rs := [8]) (by kernel_rfl) (by simp) ?_
    refine AllReadyH.cons (o := ⟨none, .store 23 (.tmp 6) (.tmp 14), 0, "sign.go:107", #[⟨7, .data⟩, ⟨7, .chain⟩, ⟨0, .phase⟩, ⟨1, .phase⟩, ⟨2, .phase⟩, ⟨3, .phase⟩, ⟨4, .phase⟩, ⟨5, .phase⟩, ⟨6, .phase⟩, ⟨7, .phase⟩], none⟩) rfl (fun K hK => ?_) AllReadyH.nil
    rw [if_pos (by rfl)]
    go_simp
    refine hK.out _ _ trivial (fun _ => ?_)
    clear hK K
    try simp only [Act.put, List.setIfInBounds_toArray, List.set_cons_zero, List.set_cons_succ]
    refine wpAnyH_done (by kernel_rfl) ?_ _
    have K9 : Blk (V2.setCells (w.heap.size + 1) 0 (bytesV M)) (w.heap.size + 1) 23 (bytesV M) := K4.all (by rw [hvM, hvz])
    have CB1 := (only_sets (w.heap.size + 1) 0 V2 (bytesV M)).2.2 _ _ (by omega : w.heap.size ≤ w.heap.size + 1) (link CB (link hB hB1))
    clear hst K4 L3 L6 CB hB hB1
    generalize World.setCells _ _ _ _ = wy at K9 CB1 ⊢
    go_wp2
    exact bodyPost_ret (v := .agg (bytesV M).toArray) (K9.result (p := 6) (ty := 23) rfl _ rfl Tryd.underlying23 (by rw [hvM]; kernel_rfl)) rfl ⟨by rw [HM.out], CB1⟩

end Go.Proofs.YthffkbdecfjekaaDoor

/-
  passimref03.Digest: what is signed for a message.
-/
namespace Go.Proofs.YthffkbdecfjekaaDoor
open Go.RowKit
set_option linter.unusedVariables false
set_option linter.unusedSimpArgs false

set_option maxHeartbeats 2000000 in
set_option maxRecDepth 100000 in
theorem rdigest_any (x : List Nat) (hx : Dgt x) (i : Int) (hi1 : -9223372036854775808 ≤ i) (hi2 : i ≤ 9223372036854775807) (s : ByteArray) (hs : s.size ≤ 1048576) (w : World) (hR : GlobR w) :
    Calls Tryd.prog 17 #[.agg (bytesV x).toArray, .int .i64 i, .string s] w fun e w' => e = .returned (.agg (bytesV (digestM x i (sb s))).toArray) ∧ Below w.heap.size w w' := by
  have hz1 := zero_dig'
  have hEb := enc_lt i hi1 hi2
  have hEl := (enc_length i hi1 hi2).2
  have hD0 : digestM x i (sb s) = ofS 5 [x, enc i, sb s] := rfl
  obtain ⟨M, hM⟩ : ∃ M, digestM x i (sb s) = M := ⟨_, rfl⟩
  rw [hM] at hD0
  have hMd : Dgt M := by rw [hD0]; exact dig_ofS _ _
  have HM := Lib.hid hM
  have HD0 := Lib.hid hD0
  have HI := Lib.hid (fun w0 => rint_any i hi1 hi2 w0)
  clear hM hD0
  go_enter Tryd.func17, Tryd.ntmps17
  go_upto_region 1 with (fail)
  generalize hw0 : World.alloc _ _ = W0
  have K3 : Blk W0 w.heap.size 23 (bytesV x) := hw0 ▸ ((blk_new w _ _).alloc _)
  have K6 : Blk W0 (w.heap.size + 1) 23 (bytesV z16) := hw0 ▸ blk_new1 w _ _ _
  have KB : Below w.heap.size w W0 := hw0 ▸ (((Below.refl _ _).alloc (Nat.le_refl _) _).alloc (by simp) _)
  clear hw0 hz1
  have hvx : (bytesV x).length = 16 := by rw [bytesV_length]; exact hx.1
  go_wp2_with (refine load_blk rfl 23 (.tmp 3) rfl K3 rfl Tryd.underlying23 (m := 16) (by kernel_rfl) hvx ?_)
  refine (text_any x hx.1 hx.2 _).mono ?_
  rintro e w1 ⟨rfl, hB1⟩
  go_wp2_with fail
  refine (HI.out w1).mono ?_
  rintro e w2 ⟨gi, ci, rfl, hOi⟩
  have hB2 := link hB1 hOi.below
  have kv := conv_any (some ⟨gi, 0, none⟩) (enc i) (enc i).length ci w2 rfl (hOi.has hEb)
  have CB := link KB hB2
  have H3 := Lib.hid (rof_lit 5 (by omega) [strOf x, strOf (enc i), s] (by simp) (three_size hx.1 hEl hs) #[.string (strOf x), .string (strOf (enc i)), .string s] rfl 3 rfl w2 (hR.keep CB))
  have h3 := three_sbs s hx.2 hEb
  rw [h3, ← HD0.out] at H3
  have L6 := K6.keep hB2
  have hvM : (bytesV M).length = 16 := by rw [bytesV_length]; exact hMd.1
  have hvz : (bytesV z16).length = 16 := rfl
  clear hB1 hOi K3 K6 h3
  go_wp2_with (first | (go_at_call 35; refine H3.out.mono ?_; rintro e w3 ⟨rfl, hB3⟩) | (refine store_blk rfl 23 (.tmp 6) (.tmp 14) rfl (L6.keep hB3) rfl rfl (m := 16) (by kernel_rfl) hvM hvz (bytesV_cells M) ?_; intro w5 hb5 ho5))
  exact bodyPost_ret (v := .agg (bytesV M).toArray) (hb5.result (p := 6) (ty := 23) rfl _ rfl Tryd.underlying23 (by rw [hvM]; kernel_rfl)) rfl ⟨by rw [HM.out], ho5.2.2 _ _ (by omega) (link CB hB3)⟩

end Go.Proofs.YthffkbdecfjekaaDoor

/-
  Plain mathematics: the tree of one-time keys, signatures, and what accepting one means.
-/
namespace Go.Proofs.YthffkbdecfjekaaDoor
set_option linter.unusedVariables false
set_option linter.unusedSimpArgs false

/-- The node k of a level. -/
def nodeM (seed : List Nat) : Nat → Nat → List Nat
  | 0, k => leafM (topsM seed k 68)
  | l + 1, k => joinM (nodeM seed l (2 * k)) (nodeM seed l (2 * k + 1))
theorem leaf_dgt (t : List Nat) : Dgt (leafM t) := dig_ofS _ _
theorem node_dgt (seed : List Nat) : ∀ l k, Dgt (nodeM seed l k)
  | 0, _ => dig_ofS _ _
  | _ + 1, _ => dig_ofS _ _
def rootM (seed : List Nat) (h : Nat) : List Nat := nodeM seed h 0
/-- The number of the node next to the node n. -/
def sib (n : Nat) : Nat := if n % 2 = 1 then n - 1 else n + 1
def sideM (seed : List Nat) (i l : Nat) : List Nat := nodeM seed l (sib (i / 2 ^ l))
/-- The values of the first n chains of the key i, at the heights ds. -/
def sigC (seed : List Nat) (i : Nat) (ds : List Nat) : Nat → List Nat
  | 0 => []
  | c + 1 => sigC seed i ds c ++ advM i c 0 (firstM seed i c) (ds.getD c 0)
theorem sigC_length (seed : List Nat) (i : Nat) (ds : List Nat) : ∀ c, (sigC seed i ds c).length = 16 * c
  | 0 => rfl
  | c + 1 => by
    have h := (advM_dig i c 0 _ (firstM_dig seed i c) (ds.getD c 0)).1
    rw [sigC, List.length_append, sigC_length seed i ds c, h]
    omega
theorem sigC_byte (seed : List Nat) (i : Nat) (ds : List Nat) : ∀ c, ∀ y ∈ sigC seed i ds c, y < 256
  | 0 => by simp [sigC]
  | c + 1 => by
    intro y hy
    rcases List.mem_append.1 hy with h | h
    · exact sigC_byte seed i ds c y h
    · exact (advM_dig i c 0 _ (firstM_dig seed i c) (ds.getD c 0)).2 y h
/-- The nodes next to the way, of the first n levels. -/
def sigS (seed : List Nat) (i : Nat) : Nat → List Nat
  | 0 => []
  | l + 1 => sigS seed i l ++ sideM seed i l
theorem sigS_length (seed : List Nat) (i : Nat) : ∀ l, (sigS seed i l).length = 16 * l
  | 0 => rfl
  | l + 1 => by
    rw [sigS, List.length_append, sigS_length seed i l, sideM, (node_dgt seed _ _).1]
    omega
theorem sigS_byte (seed : List Nat) (i : Nat) : ∀ l, ∀ y ∈ sigS seed i l, y < 256
  | 0 => by simp [sigS]
  | l + 1 => by
    intro y hy
    rcases List.mem_append.1 hy with h | h
    · exact sigS_byte seed i l y h
    · exact (node_dgt seed _ _).2 y h
def sigM (seed : List Nat) (h i : Nat) (msg : List Nat) : List Nat :=
  enc (i : Int) ++ (sigC seed i (digits (digestM (rootM seed h) (i : Int) msg)) 68 ++ sigS seed i h)

/-- Piece c of 16 bytes. -/
def piece (r : List Nat) (c : Nat) : List Nat := (r.drop (16 * c)).take 16
/-- The tops of the first n chains, from the pieces of a signature at the heights ds. -/
def verT (r : List Nat) (i : Nat) (ds : List Nat) : Nat → List Nat
  | 0 => []
  | c + 1 => verT r i ds c ++ advM i c (ds.getD c 0) (piece r c) (3 - ds.getD c 0)
/-- The node above n levels, on the way from a leaf. -/
def verN (r : List Nat) (i : Nat) (v : List Nat) : Nat → List Nat
  | 0 => v
  | l + 1 => if i / 2 ^ l % 2 = 1 then joinM (piece r (68 + l)) (verN r i v l) else joinM (verN r i v l) (piece r (68 + l))
/-- The root to which a signature behind its index leads. -/
def verR (P : List Nat) (h i : Nat) (msg r : List Nat) : List Nat := verN r i (leafM (verT r i (digits (digestM P (i : Int) msg)) 68)) h
theorem piece_length (r : List Nat) (c : Nat) (h : 16 * (c + 1) ≤ r.length) : (piece r c).length = 16 := by
  unfold piece; rw [List.length_take, List.length_drop]; omega
theorem piece_byte (r : List Nat) (c : Nat) (h : ∀ y ∈ r, y < 256) : ∀ y ∈ piece r c, y < 256 := fun y hy => h y (List.mem_of_mem_drop (List.mem_of_mem_take hy))
theorem piece_dgt (r : List Nat) (c : Nat) (h : 16 * (c + 1) ≤ r.length) (hb : ∀ y ∈ r, y < 256) : Dgt (piece r c) := ⟨piece_length r c h, piece_byte r c hb⟩
theorem verT_length (r : List Nat) (i : Nat) (ds : List Nat) : ∀ n, 16 * n ≤ r.length → (∀ y ∈ r, y < 256) → (verT r i ds n).length = 16 * n
  | 0, _, _ => rfl
  | n + 1, h, hb => by
    rw [verT, List.length_append, verT_length r i ds n (by omega) hb, (advM_dig i n _ _ (piece_dgt r n h hb) _).1]
    omega
theorem verT_byte (r : List Nat) (i : Nat) (ds : List Nat) : ∀ n, 16 * n ≤ r.length → (∀ y ∈ r, y < 256) → ∀ y ∈ verT r i ds n, y < 256
  | 0, _, _ => by simp [verT]
  | n + 1, h, hb => by
    intro y hy
    rcases List.mem_append.1 hy with h1 | h1
    · exact verT_byte r i ds n (by omega) hb y h1
    · exact (advM_dig i n _ _ (piece_dgt r n h hb) _).2 y h1
theorem verN_dgt (r : List Nat) (i : Nat) (v : List Nat) (hv : Dgt v) : ∀ n, Dgt (verN r i v n)
  | 0 => hv
  | n + 1 => by
    rw [verN]
    split
    · exact dig_ofS _ _
    · exact dig_ofS _ _

/-- What Verify answers: the index and the error. -/
def verM (P : List Nat) (h : Int) (msg sig : List Nat) : Int × Nat :=
  if h < 0 ∨ 6 < h then (0, 1)
  else if 1048576 < msg.length then (0, 4)
  else if (dec sig).2.2 ≠ 0 then (0, (dec sig).2.2)
  else if (dec sig).1 < 0 ∨ (2 ^ h.toNat : Int) ≤ (dec sig).1 ∨ (sig.drop (dec sig).2.1).length ≠ (68 + h.toNat) * 16 then (0, 2)
  else if verR P h.toNat (dec sig).1.toNat msg (sig.drop (dec sig).2.1) ≠ P then (0, 19)
  else ((dec sig).1, 0)

end Go.Proofs.YthffkbdecfjekaaDoor

/-
  Plain mathematics: what sign.build's function node lays into the list of the nodes next to the way.
-/
namespace Go.Proofs.YthffkbdecfjekaaDoor
set_option linter.unusedVariables false
set_option linter.unusedSimpArgs false

/-- Six digests. -/
def Six (S : List (List Nat)) : Prop := S.length = 6 ∧ ∀ d ∈ S, Dgt d
/-- What node lays at its own level. -/
def setS (seed : List Nat) (h i l k : Nat) (S : List (List Nat)) : List (List Nat) := if l < h ∧ k = sib (i / 2 ^ l) then S.set l (nodeM seed l k) else S
/-- What node lays in all. -/
def updN (seed : List Nat) (h i : Nat) : Nat → Nat → List (List Nat) → List (List Nat)
  | 0, k, S => setS seed h i 0 k S
  | l + 1, k, S => setS seed h i (l + 1) k (updN seed h i l (2 * k + 1) (updN seed h i l (2 * k) S))
theorem six_set {S : List (List Nat)} (h : Six S) (l : Nat) (d : List Nat) (hd : Dgt d) : Six (S.set l d) :=
  ⟨by rw [List.length_set]; exact h.1, fun x hx => by
    rcases List.mem_or_eq_of_mem_set hx with h1 | h1
    · exact h.2 x h1
    · rw [h1]; exact hd⟩
theorem six_setS {seed : List Nat} {h i l k : Nat} {S : List (List Nat)} (hS : Six S) : Six (setS seed h i l k S) := by
  unfold setS
  split
  · exact six_set hS _ _ (node_dgt _ _ _)
  · exact hS
theorem six_updN {seed : List Nat} {h i : Nat} : ∀ (l k : Nat) {S : List (List Nat)}, Six S → Six (updN seed h i l k S)
  | 0, _, _, hS => six_setS hS
  | l + 1, k, _, hS => six_setS (six_updN l _ (six_updN l _ hS))
theorem setS_get {seed : List Nat} {h i l k j : Nat} {S : List (List Nat)} (hS : j < S.length) : (setS seed h i l k S)[j]? = if j = l ∧ j < h ∧ k = sib (i / 2 ^ j) then some (nodeM seed j (sib (i / 2 ^ j))) else S[j]? := by
  unfold setS
  by_cases hj : j = l
  · subst hj
    by_cases h1 : j < h ∧ k = sib (i / 2 ^ j)
    · rw [if_pos h1, if_pos ⟨rfl, h1⟩, List.getElem?_set_self hS, h1.2]
    · rw [if_neg h1, if_neg (fun x => h1 x.2)]
  · rw [if_neg (c := j = l ∧ _) (fun x => hj x.1)]
    split
    · rw [List.getElem?_set_ne (fun x => hj x.symm)]
    · rfl
theorem updN_get {seed : List Nat} {h i j : Nat} (hj6 : j < 6) : ∀ (l k : Nat) {S : List (List Nat)}, Six S → (updN seed h i l k S)[j]? = if j ≤ l ∧ j < h ∧ k = sib (i / 2 ^ j) / 2 ^ (l - j) then some (nodeM seed j (sib (i / 2 ^ j))) else S[j]?
  | 0, k, S, hS => by
    rw [updN, setS_get (by rw [hS.1]; exact hj6)]
    by_cases hj : j = 0
    · subst hj
      simp
    · rw [if_neg (fun x => hj x.1), if_neg (fun x => hj (by omega))]
  | l + 1, k, S, hS => by
    have h1 := six_updN (seed := seed) (h := h) (i := i) l (2 * k) hS
    have h2 := six_updN (seed := seed) (h := h) (i := i) l (2 * k + 1) h1
    rw [updN, setS_get (by rw [h2.1]; exact hj6), updN_get hj6 l _ h1, updN_get hj6 l _ hS]
    by_cases hj : j = l + 1
    · subst hj
      rw [if_neg (c := l + 1 ≤ l ∧ _) (by omega), if_neg (c := l + 1 ≤ l ∧ _) (by omega)]
      simp
    · by_cases hl : j ≤ l
      · have e : sib (i / 2 ^ j) / 2 ^ (l + 1 - j) = sib (i / 2 ^ j) / 2 ^ (l - j) / 2 := by
          rw [show l + 1 - j = (l - j) + 1 by omega, Nat.pow_succ, Nat.div_div_eq_div_mul]
        rw [e]
        generalize sib (i / 2 ^ j) / 2 ^ (l - j) = m
        by_cases hh : j < h
        · rw [if_neg (fun x => hj x.1)]
          by_cases a : 2 * k + 1 = m
          · rw [if_pos ⟨hl, hh, a⟩, if_pos ⟨by omega, hh, by omega⟩]
          · rw [if_neg (fun x => a x.2.2)]
            by_cases b : 2 * k = m
            · rw [if_pos ⟨hl, hh, b⟩, if_pos ⟨by omega, hh, by omega⟩]
            · rw [if_neg (fun x => b x.2.2), if_neg (fun x => by omega)]
        · rw [if_neg (fun x => hj x.1), if_neg (fun x => hh x.2.1), if_neg (fun x => hh x.2.1), if_neg (fun x => hh x.2.1)]
      · rw [if_neg (fun x => hj x.1), if_neg (fun x => hl x.1), if_neg (fun x => hl x.1), if_neg (fun x => by omega)]
theorem sib_lt {n m : Nat} (h : n < 2 * m) : sib n < 2 * m := by
  unfold sib
  split <;> omega
/-- Behind the whole tree. -/
theorem updN_top {seed : List Nat} {h i j : Nat} (hh : h ≤ 6) (hi : i < 2 ^ h) (hj : j < h) {S : List (List Nat)} (hS : Six S) : (updN seed h i h 0 S)[j]? = some (sideM seed i j) := by
  rw [updN_get (by omega) h 0 hS, if_pos]
  · rfl
  · refine ⟨by omega, hj, ?_⟩
    obtain ⟨d, hd⟩ : ∃ d, h - j = d + 1 := ⟨h - j - 1, by omega⟩
    have e : 2 ^ h = 2 ^ j * (2 * 2 ^ d) := by
      rw [← Nat.pow_succ', ← Nat.pow_add]
      congr 1
      omega
    have h1 : i / 2 ^ j < 2 * 2 ^ d := by
      rw [Nat.div_lt_iff_lt_mul (Nat.two_pow_pos j)]
      rw [Nat.mul_comm, ← e]
      exact hi
    have h2 := sib_lt h1
    rw [hd, Nat.pow_succ', Nat.div_eq_of_lt h2]
/-- The nodes next to the way, one behind the other. -/
theorem flat_top {seed : List Nat} {h i : Nat} (hh : h ≤ 6) (hi : i < 2 ^ h) {S : List (List Nat)} (hS : Six S) : ∀ n, n ≤ h → ((updN seed h i h 0 S).take n).flatten = sigS seed i n
  | 0, _ => rfl
  | n + 1, hn => by
    rw [List.take_add_one, updN_top hh hi (by omega : n < h) hS, List.flatten_append, flat_top hh hi hS n (by omega), sigS]
    simp

end Go.Proofs.YthffkbdecfjekaaDoor

/-
  sign.first: the value at height 0 of a chain of a key.
-/
namespace Go.Proofs.YthffkbdecfjekaaDoor
open Go.RowKit
set_option linter.unusedVariables false
set_option linter.unusedSimpArgs false

theorem array_16c (w : World) (b cap : Nat) : (Instr.arrayAt 23 (.slice (some ⟨b, 0, none⟩) 16 cap)).run Tryd.prog w = .ok (.pointer (some ⟨b, 0, none⟩)) w := by
  simp [Instr.arrayAt, run_underlying Tryd.underlying23]
theorem has_rng {w : World} {b : Nat} {l : List Nat} (h : Has w (some ⟨b, 0, none⟩) l) : w.rangeAt b 0 (bytesV l) := fun j v hj => by
  have := h.cells j v hj
  rwa [Addr.add_mid] at this

set_option maxHeartbeats 1000000 in
set_option maxRecDepth 100000 in
theorem first_any (seed : ByteArray) (hs : seed.size ≤ 1048576) (key chain : Nat) (hk : key ≤ 1000000) (hc : chain ≤ 1000000) (w : World) (hG : Glob w) :
    Calls Tryd.prog 28 #[.string seed, .int .i64 (key : Int), .int .i64 (chain : Int)] w fun e w' => e = .returned (.agg (bytesV (firstM (sb seed) key chain)).toArray) ∧ Below w.heap.size w w' := by
  have hz1 := zero_dig'
  have hEb := encK_byte key chain hk hc
  have hEl := encK_length key chain hk hc
  have hFd := firstM_dig (sb seed) key chain
  have hF : firstM (sb seed) key chain = (hmac (sb seed) ([99, 104, 97, 105, 110] ++ encK key chain)).take 16 := rfl
  have HI := Lib.hid (fun (bi : Nat) (w0 : World) h => show Calls Tryd.prog 47 #[.slice (some ⟨bi, 0, none⟩) 2 2] w0 (Made w0 (encK key chain)) from ints_any (some ⟨bi, 0, none⟩) [(key : Int), (chain : Int)] 2 2 w0 rfl (by simp) (encK_ok key chain hk hc) h)
  generalize encK key chain = E at hEb hEl hF HI
  obtain ⟨F, hFe⟩ : ∃ F, firstM (sb seed) key chain = F := ⟨_, rfl⟩
  rw [hFe] at hF hFd
  have HFE := Lib.hid hFe
  have hsE : (strOf E).size ≤ 100 := by rw [strOf_size]; exact hEl
  have hsb := sb_chain E hEb
  have hbs : ((⟨#[99, 104, 97, 105, 110]⟩ : ByteArray) ++ strOf E).size ≤ 1048576 := by rw [← sb_length, hsb, List.length_append]; simp; omega
  have hmac := mac_any seed ((⟨#[99, 104, 97, 105, 110]⟩ : ByteArray) ++ strOf E) hs hbs
  rw [hsb] at hmac
  have hml := hmac_length (sb seed) ([99, 104, 97, 105, 110] ++ E)
  have hmb := hmac_byte (sb seed) ([99, 104, 97, 105, 110] ++ E)
  generalize Go.Proofs.YthffkbdecfjekaaDoor.hmac (sb seed) ([99, 104, 97, 105, 110] ++ E) = H at hF hmac hml hmb
  have HM := Lib.hid hmac
  have hsH : 16 ≤ (strOf H).size := by rw [strOf_size]; omega
  have hH32 : (strOf H).size = 32 := by rw [strOf_size]; exact hml
  have hx : sb ((strOf H).extract 0 16) = F := by
    rw [hF]
    have h := sb_strOf H hmb
    unfold sb at h ⊢
    rw [Lib.extract_data]
    simp only [List.map_take, List.map_drop, h]
    simp
  have HX := Lib.hid hx
  have hvF : (bytesV F).length = 16 := by rw [bytesV_length]; exact hFd.1
  have hvz : (bytesV z16).length = 16 := rfl
  generalize strOf H = sH at HM HX hH32
  clear hmac hx hF hFe hml hmb hsb hbs hEl hsH
  go_enter Tryd.func28, Tryd.ntmps28
  go_upto_region 1 with (fail)
  generalize hw0 : World.alloc _ _ = W0
  have K0 : Blk W0 w.heap.size 23 (bytesV z16) := hw0 ▸ blk_new w _ _
  have KB : Below w.heap.size w W0 := hw0 ▸ ((Below.refl _ _).alloc (Nat.le_refl _) _)
  clear hw0 hz1
  have hci := ints2 W0 key chain
  have hB0 : Below W0.heap.size W0 (W0.alloc (.cells #[.int .i64 (key : Int), .int .i64 (chain : Int)] 3)) := (Below.refl _ _).alloc (Nat.le_refl _) _
  go_wp2_with (go_at_call 47; refine (HI.out _ _ hci).mono ?_; rintro e w1 ⟨gi, ci, rfl, hOi⟩; have hcv := conv_any (some ⟨gi, 0, none⟩) E E.length ci w1 rfl (hOi.has hEb))
  have hB1' := hB0.trans (hOi.below.mono hB0.size)
  have hG1 := hG.keep (link KB hB1')
  refine (HM.out w1 hG1).mono ?_
  rintro e w2 ⟨rfl, hB2⟩
  have hB2' := link hB1' hB2
  obtain ⟨cap, w3, hcb, hBb, hHb⟩ := to_bytes_has (sH.extract 0 16) w2
  have hap := fun w0 => array_16c w0 w2.heap.size cap
  rw [HX.out] at hHb
  have hrg := has_rng hHb
  have hB3' := link hB2' hBb
  have K3 := K0.keep hB3'
  have hsF := size_dig F hFd.1
  clear hB0 hB1' hB2 hB2' hBb hci K0 hcv hOi
  go_wp2_with (first | (refine wpList_load_mid rfl 23 (.tmp 19) rfl w2.heap.size 0 rfl (bytesV F) _ hrg Tryd.underlying23 rfl hsF ?_) | (refine store_blk rfl 23 (.tmp 6) (.tmp 20) rfl K3 rfl rfl (m := 16) (by kernel_rfl) hvF hvz (bytesV_cells F) ?_; intro w5 hb5 ho5))
  exact bodyPost_ret (v := .agg (bytesV F).toArray) (hb5.result (p := 6) (ty := 23) rfl _ rfl Tryd.underlying23 (by rw [hvF]; kernel_rfl)) rfl ⟨by rw [HFE.out], ho5.2.2 _ _ (Nat.le_refl _) (link KB hB3')⟩

end Go.Proofs.YthffkbdecfjekaaDoor

/-
  sign.possible and passimref03.fits.
-/
namespace Go.Proofs.YthffkbdecfjekaaDoor
open Go.RowKit
set_option linter.unusedVariables false
set_option linter.unusedSimpArgs false

def fitsB (s : ByteArray) (h : Int) : Bool := decide (s.size = 32) && decide (0 ≤ h) && decide (h ≤ 6)

set_option maxHeartbeats 400000 in
set_option maxRecDepth 100000 in
theorem possible_any (s : ByteArray) (h : Int) (w : World) : Calls Tryd.prog 21 #[.string s, .int .i64 h] w fun e w' => e = .returned (.bool (fitsB s h)) ∧ w = w' := by
  by_cases h1 : s.size = 32
  · have e1 : ((s.size : Int) == 32) = true := by simp; omega
    have HF : Hid (fitsB s h = (decide (0 ≤ h) && decide (h ≤ 6))) := Lib.hid (by simp [fitsB, h1])
    by_cases h2 : 0 ≤ h
    · have e2 : decide (0 ≤ h) = true := by simp [h2]
      by_cases h3 : h ≤ 6
      · have e3 : decide (h ≤ 6) = true := by simp [h3]
        go_enter Tryd.func21, Tryd.ntmps21
        go_wp2
        go_ret
        exact ⟨by rw [HF.out, e2, e3]; rfl, rfl⟩
      · have e3 : decide (h ≤ 6) = false := by simp; omega
        go_enter Tryd.func21, Tryd.ntmps21
        go_wp2
        go_ret
        exact ⟨by rw [HF.out, e2, e3]; rfl, rfl⟩
    · have e2 : decide (0 ≤ h) = false := by simp; omega
      go_enter Tryd.func21, Tryd.ntmps21
      go_wp2
      go_ret
      exact ⟨by rw [HF.out, e2]; rfl, rfl⟩
  · have e1 : ((s.size : Int) == 32) = false := by simp; omega
    have HF : Hid (fitsB s h = false) := Lib.hid (by simp [fitsB, h1])
    go_enter Tryd.func21, Tryd.ntmps21
    go_wp2
    go_ret
    exact ⟨by rw [HF.out]; rfl, rfl⟩

set_option maxHeartbeats 400000 in
set_option maxRecDepth 100000 in
theorem fits_any (s : ByteArray) (h : Int) (w : World) : Calls Tryd.prog 23 #[.string s, .int .i64 h] w fun e w' => e = .returned (.bool (fitsB s h)) ∧ w = w' := by
  by_cases h1 : s.size = 32
  · have e1 : ((s.size : Int) == 32) = true := by simp; omega
    have HF : Hid (fitsB s h = (decide (0 ≤ h) && decide (h ≤ 6))) := Lib.hid (by simp [fitsB, h1])
    by_cases h2 : 0 ≤ h
    · have e2 : decide (0 ≤ h) = true := by simp [h2]
      by_cases h3 : h ≤ 6
      · have e3 : decide (h ≤ 6) = true := by simp [h3]
        go_enter Tryd.func23, Tryd.ntmps23
        go_wp2
        go_ret
        exact ⟨by rw [HF.out, e2, e3]; rfl, rfl⟩
      · have e3 : decide (h ≤ 6) = false := by simp; omega
        go_enter Tryd.func23, Tryd.ntmps23
        go_wp2
        go_ret
        exact ⟨by rw [HF.out, e2, e3]; rfl, rfl⟩
    · have e2 : decide (0 ≤ h) = false := by simp; omega
      go_enter Tryd.func23, Tryd.ntmps23
      go_wp2
      go_ret
      exact ⟨by rw [HF.out, e2]; rfl, rfl⟩
  · have e1 : ((s.size : Int) == 32) = false := by simp; omega
    have HF : Hid (fitsB s h = false) := Lib.hid (by simp [fitsB, h1])
    go_enter Tryd.func23, Tryd.ntmps23
    go_wp2
    go_ret
    exact ⟨by rw [HF.out]; rfl, rfl⟩

end Go.Proofs.YthffkbdecfjekaaDoor

/-
  sign.Digits returns the digits of a digest.
-/
namespace Go.Proofs.YthffkbdecfjekaaDoor
set_option linter.unusedVariables false
set_option linter.unusedSimpArgs false
open Go.RowKit

def numV (x : Nat) : Value := .int .i64 (x : Int)
def numsV (l : List Nat) : List Value := l.map numV
theorem numsV_length (l : List Nat) : (numsV l).length = l.length := by simp [numsV]
/-- The array when the first i digits have been laid. -/
def digA (d : List Nat) (i : Nat) : List Nat := (digs d).take i ++ List.replicate (68 - i) 0
theorem digA_zero (d : List Nat) : digA d 0 = List.replicate 68 0 := rfl
theorem digA_length (d : List Nat) (i : Nat) (h : i ≤ 64) (hl : d.length = 16) : (digA d i).length = 68 := by
  simp [digA, digs_length, hl]; omega
theorem digs_get : ∀ (d : List Nat) (q r : Nat), q < d.length → r < 4 → (digs d)[4 * q + r]? = some ((four (d.getD q 0)).getD r 0)
  | [], q, r, h, _ => by simp at h
  | b :: d, 0, r, _, hr => by
    rw [digs_cons, List.getElem?_append_left (by simp [four]; omega)]
    obtain rfl | rfl | rfl | rfl : r = 0 ∨ r = 1 ∨ r = 2 ∨ r = 3 := by omega
    all_goals rfl
  | b :: d, q + 1, r, h, hr => by
    rw [digs_cons, List.getElem?_append_right (by simp [four]; omega)]
    have e : 4 * (q + 1) + r - (four b).length = 4 * q + r := by simp [four]; omega
    rw [e, digs_get d q r (by simpa using h) hr]
    simp
theorem digA_set (d : List Nat) (i x : Nat) (h : i < 64) (hl : d.length = 16) (hx : (digs d)[i]? = some x) : (digA d i).set i x = digA d (i + 1) := by
  have h1 : ((digs d).take i).length = i := by rw [List.length_take, digs_length]; omega
  unfold digA
  rw [List.set_append_right _ _ (by omega), h1, Nat.sub_self]
  obtain ⟨k, hk⟩ : ∃ k, 68 - i = k + 1 := ⟨67 - i, by omega⟩
  rw [hk, List.replicate_succ, List.set_cons_zero, show 68 - (i + 1) = k by omega, List.take_add_one, hx]
  simp only [Option.toList_some, List.append_assoc, List.cons_append, List.nil_append]
theorem digA_step {w : World} {b i x : Nat} {t : TypeId} {d : List Nat} (h : Blk w b t (numsV (digA d i))) (hi : i < 64) (hl : d.length = 16) (hx : (digs d)[i]? = some x) {X : Int} (hX : X = (x : Int)) : Blk (w.setCell ⟨b, i, none⟩ (.int .i64 X)) b t (numsV (digA d (i + 1))) := by
  subst hX
  have := h.set i (numV x)
  unfold numsV at this ⊢
  rw [← digA_set d i x hi hl hx, List.map_set]
  exact this
theorem and_3 (z : Int) : bits BinOp.and IntKind.i64 z 3 = z % 4 := by
  have e : ((BitVec.ofInt 64 z &&& BitVec.ofInt 64 3).toNat : Int) = z % 4 := by
    rw [BitVec.toNat_and, show (BitVec.ofInt 64 3).toNat = 2 ^ 2 - 1 by decide, Nat.and_two_pow_sub_one_eq_mod, BitVec.toNat_ofInt]
    omega
  show IntKind.i64.wrap ((BitVec.ofInt 64 z &&& BitVec.ofInt 64 3).toNat : Int) = _
  rw [e]
  exact IntWalk.i64_in _ (by omega)
/-- What the first i digits lack. -/
def lackK (d : List Nat) (i : Nat) : Nat := (((digs d).take i).map (3 - ·)).sum
theorem lackK_step (d : List Nat) (i x : Nat) (hx : (digs d)[i]? = some x) : lackK d (i + 1) = lackK d i + (3 - x) := by
  unfold lackK
  rw [List.take_add_one, hx, List.map_append, List.sum_append]
  simp
theorem lackK_all (d : List Nat) (hl : d.length = 16) : lackK d 64 = csum d := by
  unfold lackK csum
  rw [List.take_of_length_le (by rw [digs_length]; omega)]
theorem lackK_le (d : List Nat) (i : Nat) (h : i ≤ 64) : lackK d i ≤ 192 := by
  unfold lackK
  have := sum_le ((digs d).take i)
  have h2 : ((digs d).take i).length ≤ i := by rw [List.length_take]; exact Nat.min_le_left _ _
  omega
theorem digA_end (d : List Nat) (hl : d.length = 16) : digA d 64 = digs d ++ [0, 0, 0, 0] := by
  unfold digA
  rw [List.take_of_length_le (by rw [digs_length]; omega)]
  rfl
theorem end_step {w : World} {b k x : Nat} {t : TypeId} {d l : List Nat} (h : Blk w b t (numsV (digs d ++ l))) (hl : d.length = 16) {X : Int} (hX : X = (x : Int)) : Blk (w.setCell ⟨b, 64 + k, none⟩ (.int .i64 X)) b t (numsV (digs d ++ l.set k x)) := by
  subst hX
  have h64 : (digs d).length = 64 := by rw [digs_length, hl]
  have := h.set (64 + k) (numV x)
  have e : digs d ++ l.set k x = (digs d ++ l).set (64 + k) x := by
    rw [List.set_append_right _ _ (by omega), h64, show 64 + k - 64 = k by omega]
  unfold numsV at this ⊢
  rw [e, List.map_set]
  exact this
theorem zero_68 (w : World) : (zeroValue 43).run Tryd.prog w = .ok (.agg (numsV (List.replicate 68 0)).toArray) w := by kernel_rfl
/-- x[:64] and x[:], x an array of 68 numbers. -/
theorem size_int (w : World) : (Go.sizeOf 3).run Tryd.prog w = .ok 1 w := by kernel_rfl
theorem slice68_64 (w : World) (b : Nat) : (Instr.sliceAt 43 (.pointer (some ⟨b, 0, none⟩)) none (some (.int .i64 64)) none).run Tryd.prog w = .ok (.slice (some ⟨b, 0, none⟩) 64 68) w := by
  have hL : Tryd.prog.arrayLen 43 = 68 := by kernel_rfl
  have hE : Tryd.prog.elem 43 = 3 := by kernel_rfl
  have ht : Tryd.prog.underlying 43 = some (.array (Tryd.prog.arrayLen 43) (Tryd.prog.elem 43)) := by rw [hL, hE]; exact Tryd.underlying43
  rw [run_sliceAt_array_h w _ _ ht .i64 64 (by omega) (by rw [hL]; omega), hE, size_int, hL]
  simp [Result.andThen_ok, slicedAt, Addr.add_mid]
theorem slice68_all (w : World) (b : Nat) : (Instr.sliceAt 43 (.pointer (some ⟨b, 0, none⟩)) none none none).run Tryd.prog w = .ok (.slice (some ⟨b, 0, none⟩) 68 68) w := by
  have hL : Tryd.prog.arrayLen 43 = 68 := by kernel_rfl
  have hE : Tryd.prog.elem 43 = 3 := by kernel_rfl
  have ht : Tryd.prog.underlying 43 = some (.array (Tryd.prog.arrayLen 43) (Tryd.prog.elem 43)) := by rw [hL, hE]; exact Tryd.underlying43
  rw [run_sliceAt_array_all w _ _ ht, hE, size_int, hL]
  simp [Result.andThen_ok, slicedAt, Addr.add_mid]

set_option maxHeartbeats 2000000 in
set_option maxRecDepth 100000 in
theorem digits_any (d : List Nat) (hl : d.length = 16) (hb : ∀ y ∈ d, y < 256) (w : World) :
    Calls Tryd.prog 10 #[.agg (bytesV d).toArray] w fun e w' => ∃ b, e = .returned (.slice (some ⟨b, 0, none⟩) 68 68) ∧ w.heap.size ≤ b ∧ Blk w' b 43 (numsV (digits d)) ∧ Below w.heap.size w w' := by
  have hz := zero_68
  have hdl := digs_length d
  rw [hl] at hdl
  have hdle := digs_le d hb
  go_enter Tryd.func10, Tryd.ntmps10
  go_upto_region 2 with (fail)
  generalize hw0 : World.alloc _ _ = W0
  have K0 : Blk W0 w.heap.size 23 (bytesV d) := hw0 ▸ ((blk_new w _ _).alloc _)
  have K1 : Blk W0 (w.heap.size + 1) 43 (numsV (digA d 0)) := hw0 ▸ (blk_new1 w _ _ _)
  have KB : Below w.heap.size w W0 := hw0 ▸ (((Below.refl _ _).alloc (Nat.le_refl _) _).alloc (by simp) _)
  clear hw0 hz
  go_wp2
  go_loopw [9] (fun v wr => ∃ i : Nat, i ≤ 64 ∧ v = .int .i64 i ∧ Blk wr w.heap.size 23 (bytesV d) ∧ Blk wr (w.heap.size + 1) 43 (numsV (digA d i)) ∧ Below w.heap.size w wr) (fun v _ => 64 - (intOf v).toNat)
  case atStart => exact ⟨0, by omega, rfl, K0, K1, KB⟩
  case round =>
    clear K0 K1 KB
    obtain ⟨i, hi, rfl, N0, N1, NB⟩ := hrel
    by_cases h64 : i < 64
    · obtain ⟨q, hq⟩ : ∃ q, i / 4 = q := ⟨_, rfl⟩
      have hq16 : q < 16 := by omega
      have hqi : ((i : Int) / 4) = (q : Int) := by omega
      obtain ⟨y, hy⟩ : ∃ y, d.getD q 0 = y := ⟨_, rfl⟩
      have hyg : d[q]? = some y := by rw [← hy]; simp [show q < d.length by omega]
      have hy256 : y < 256 := hb y (List.mem_of_getElem? hyg)
      have cy : wr.cell? ⟨w.heap.size, q, none⟩ = some (.int .u8 (y : Int)) := N0.cell (by simp [bytesV, byteV, hyg])
      have c1 : wr.cell? ⟨w.heap.size + 1, i, none⟩ = some ((numsV (digA d i))[i]'(by rw [numsV_length, digA_length _ _ hi hl]; omega)) := N1.cell (List.getElem?_eq_getElem _)
      have f1 := N1.free i
      have hget := digs_get d q
      rw [hy] at hget
      have HG := Lib.hid hget
      have hqr : i / 4 = q := hq
      have l68 : (i : Int) < 68 := by omega
      have h3 := and_3
      clear hq hget hyg hy
      obtain hr4 | hr4 | hr4 | hr4 : i % 4 = 0 ∨ i % 4 = 1 ∨ i % 4 = 2 ∨ i % 4 = 3 := by omega
      · have hri : ((i : Int) % 4) = 0 := by omega
        have HX : Hid ((digs d)[i]? = some ((four y).getD 0 0)) := Lib.hid (by have h := HG.out 0 (by omega) (by omega); rwa [show 4 * q + 0 = i by omega] at h)
        go_wp2
        go_roundw
        case rel => exact ⟨i + 1, by omega, by go_num, N0.other (by simp) _, digA_step N1 h64 hl HX.out (by simp [four] <;> omega), NB.setCell (by simp) _⟩
        case measure => simp [intOf]; omega
      · have hri : ((i : Int) % 4) = 1 := by omega
        have HX : Hid ((digs d)[i]? = some ((four y).getD 1 0)) := Lib.hid (by have h := HG.out 1 (by omega) (by omega); rwa [show 4 * q + 1 = i by omega] at h)
        go_wp2
        go_roundw
        case rel => exact ⟨i + 1, by omega, by go_num, N0.other (by simp) _, digA_step N1 h64 hl HX.out (by simp [four] <;> omega), NB.setCell (by simp) _⟩
        case measure => simp [intOf]; omega
      · have hri : ((i : Int) % 4) = 2 := by omega
        have HX : Hid ((digs d)[i]? = some ((four y).getD 2 0)) := Lib.hid (by have h := HG.out 2 (by omega) (by omega); rwa [show 4 * q + 2 = i by omega] at h)
        go_wp2
        go_roundw
        case rel => exact ⟨i + 1, by omega, by go_num, N0.other (by simp) _, digA_step N1 h64 hl HX.out (by simp [four] <;> omega), NB.setCell (by simp) _⟩
        case measure => simp [intOf]; omega
      · have hri : ((i : Int) % 4) = 3 := by omega
        have HX : Hid ((digs d)[i]? = some ((four y).getD 3 0)) := Lib.hid (by have h := HG.out 3 (by omega) (by omega); rwa [show 4 * q + 3 = i by omega] at h)
        go_wp2
        go_roundw
        case rel => exact ⟨i + 1, by omega, by go_num, N0.other (by simp) _, digA_step N1 h64 hl HX.out (by simp [four] <;> omega), NB.setCell (by simp) _⟩
        case measure => simp [intOf]; omega
    · obtain rfl : i = 64 := by omega
      rw [digA_end d hl] at N1
      have hsl := slice68_64
      clear N0
      go_wp2
      clear hsl
      go_loopw [5, 28] (fun v i wr => ∃ k : Nat, k ≤ 64 ∧ i = .int .i64 k ∧ v = .int .i64 (lackK d k) ∧ Blk wr (w.heap.size + 1) 43 (numsV (digs d ++ [0, 0, 0, 0])) ∧ Below w.heap.size w wr) (fun _ i _ => 64 - (intOf i).toNat)
      case atStart => exact ⟨0, by omega, rfl, rfl, N1, NB⟩
      case round =>
        clear N1 NB
        obtain ⟨k, hk, rfl, rfl, N1, NB⟩ := hrel
        by_cases h64 : k < 64
        · obtain ⟨x, hx⟩ : ∃ x, (digs d)[k]? = some x := ⟨_, List.getElem?_eq_getElem (by omega)⟩
          have hx3 : x ≤ 3 := hdle x (List.mem_of_getElem? hx)
          have cx : wr.cell? ⟨w.heap.size + 1, k, none⟩ = some (.int .i64 (x : Int)) := N1.cell (by unfold numsV; rw [List.map_append, List.getElem?_append_left (by simp; omega), List.getElem?_map, hx]; rfl)
          have hst := lackK_step d k x hx
          have hle := lackK_le d k hk
          obtain ⟨L, hL⟩ : ∃ L, lackK d k = L := ⟨_, rfl⟩
          rw [hL] at hst hle ⊢
          have HST := Lib.hid hst
          have l64 : (k : Int) < 64 := by omega
          clear hst hx hL
          go_wp2
          go_roundw
          case rel => exact ⟨k + 1, by omega, by go_num, by rw [HST.out]; go_num, N1, NB⟩
          case measure => simp [intOf]; omega
        · obtain rfl : k = 64 := by omega
          have hle := lackK_le d 64 hk
          rw [lackK_all d hl] at hle ⊢
          have hdg : digits d = digs d ++ four (csum d) := rfl
          have HDG := Lib.hid hdg
          obtain ⟨s, hs⟩ : ∃ s, csum d = s := ⟨_, rfl⟩
          rw [hs] at hle HDG ⊢
          have h3 := and_3
          have hsa := slice68_all
          clear hdg hs
          go_wp2
          go_loopw [37] (fun v wr => ∃ k : Nat, k ≤ 4 ∧ v = .int .i64 k ∧ Blk wr (w.heap.size + 1) 43 (numsV (digs d ++ ([[0, 0, 0, 0], [0, 0, 0, s % 4], [0, 0, s / 4 % 4, s % 4], [0, s / 16 % 4, s / 4 % 4, s % 4], four s].getD k []))) ∧ Below w.heap.size w wr) (fun v _ => 4 - (intOf v).toNat)
          case atStart => exact ⟨0, by omega, rfl, N1, NB⟩
          case round =>
            clear N1 NB
            obtain ⟨k, hk, rfl, N1, NB⟩ := hrel
            have hcell : ∀ j, j < 68 → ∃ v, wr.cell? ⟨w.heap.size + 1, j, none⟩ = some v := fun j hj => ⟨_, N1.cell (List.getElem?_eq_getElem (by
              rw [numsV_length, List.length_append, hdl]
              obtain rfl | rfl | rfl | rfl | rfl : k = 0 ∨ k = 1 ∨ k = 2 ∨ k = 3 ∨ k = 4 := by omega
              all_goals (simp [four]; omega)))⟩
            obtain rfl | rfl | rfl | rfl | rfl : k = 0 ∨ k = 1 ∨ k = 2 ∨ k = 3 ∨ k = 4 := by omega
            · obtain ⟨v0, cv⟩ := hcell 67 (by omega)
              have fv := N1.free 67
              clear hcell
              go_wp2
              go_roundw
              case rel => exact ⟨1, by omega, rfl, end_step (k := 3) (x := s % 4) N1 hl (by omega), NB.setCell (by simp) _⟩
              case measure => simp [intOf]
            · obtain ⟨v0, cv⟩ := hcell 66 (by omega)
              have fv := N1.free 66
              clear hcell
              go_wp2
              go_roundw
              case rel => exact ⟨2, by omega, rfl, end_step (k := 2) (x := s / 4 % 4) N1 hl (by omega), NB.setCell (by simp) _⟩
              case measure => simp [intOf]
            · obtain ⟨v0, cv⟩ := hcell 65 (by omega)
              have fv := N1.free 65
              clear hcell
              go_wp2
              go_roundw
              case rel => exact ⟨3, by omega, rfl, end_step (k := 1) (x := s / 16 % 4) N1 hl (by omega), NB.setCell (by simp) _⟩
              case measure => simp [intOf]
            · obtain ⟨v0, cv⟩ := hcell 64 (by omega)
              have fv := N1.free 64
              clear hcell
              go_wp2
              go_roundw
              case rel => exact ⟨4, by omega, rfl, end_step (k := 0) (x := s / 64) N1 hl (by omega), NB.setCell (by simp) _⟩
              case measure => simp [intOf]
            · clear hcell
              have N1' : Blk wr (w.heap.size + 1) 43 (numsV (digits d)) := by rw [HDG.out]; exact N1
              clear N1
              go_wp2
              go_ret
              exact ⟨w.heap.size + 1, rfl, by omega, N1', NB⟩

end Go.Proofs.YthffkbdecfjekaaDoor

/-
  passimref03.Digits returns the digits of a digest.
-/
namespace Go.Proofs.YthffkbdecfjekaaDoor
set_option linter.unusedVariables false
set_option linter.unusedSimpArgs false
open Go.RowKit

theorem intinfo : (Tryd.prog.info? 3).map (fun i => (i.zero, i.size, i.bytes)) = some (some (.int .i64 0), 1, 8) := by kernel_rfl
/-- v is a slice of the call's own with the numbers l; what was there when the call began has not changed. -/
def OwnN (W w : World) (v : Value) (l : List Nat) : Prop := w.ownsRow W.heap.size 3 1 v l.length (numsV l) ∧ Below W.heap.size W w
theorem numsV_append (l m : List Nat) : numsV (l ++ m) = numsV l ++ numsV m := by simp [numsV]
theorem ownN_nil {w wx : World} (h : Below w.heap.size w wx) : OwnN w wx (.slice none 0 0) [] := by
  refine ⟨?_, h⟩
  have := World.ownsRow_nil wx w.heap.size 3 1
  simpa [numsV] using this
theorem OwnN.keep {W w w' : World} {v : Value} {l : List Nat} (h : OwnN W w v l) (hb : Below w.heap.size w w') : OwnN W w' v l := by
  obtain ⟨ho, hB⟩ := h
  refine ⟨⟨ho.1, ?_⟩, hB.trans (hb.mono hB.size)⟩
  rcases ho.2 with h0 | ⟨g, cap, cur, hv, hg, hh, rest⟩
  · exact .inl h0
  · refine .inr ⟨g, cap, cur, hv, hg, ?_, rest⟩
    have hlt : g < w.heap.size := by
      rcases Nat.lt_or_ge g w.heap.size with hl | hl
      · exact hl
      · rw [Array.getElem?_eq_none hl] at hh; cases hh
    rw [hb.block g hlt]; exact hh
/-- What an append to v leaves alone. -/
def Apart (w : World) (v : Value) (w' : World) (v' : Value) : Prop := w.heap.size ≤ w'.heap.size ∧ ∀ b, b < w.heap.size → v.ownBlock ≠ some b → w'.heap[b]? = w.heap[b]? ∧ v'.ownBlock ≠ some b
/-- append(b, c...): b the call's own numbers, c numbers that lie somewhere, at least one. -/
theorem push_nums {W w : World} {ops : Array Oper} {rest : List Oper} {o : Oper} {a : Act} {Q : Exit → Act → World → Prop} (hgd : o.guard = none) (s x : Operand)
    (ho : o.op = .call { callee := .builtin .append, args := #[s, x], argTypes := #[25, 25] })
    (l m : List Nat) (v : Value) (hs : a.eval s = v) (hO : OwnN W w v l)
    (ad : Addr) (k c : Nat) (hx : a.eval x = .slice (some ad) k c) (hk : k = m.length) (hm0 : 0 < m.length) (hm : ∀ j u, (numsV m)[j]? = some u → w.cell? (ad.add j) = some u) (hl : l.length + m.length ≤ 8796093022208)
    (h : ∀ v' w', OwnN W w' v' (l ++ m) → Apart w v w' v' → wpList Tryd.prog ops Q rest (a.put o.dst v') w') :
    wpList Tryd.prog ops Q (o :: rest) a w := by
  subst hk
  obtain ⟨hown, hb⟩ := hO
  obtain ⟨i0, hi, hz0, hz1, hz2⟩ := info_parts intinfo
  have hmx : l.length + m.length ≤ maxLen := by unfold maxLen; omega
  rcases hown.2 with ⟨rfl, h0⟩ | ⟨g, cap, cur, rfl, hg, hh, hnc, hcm, hcs, htk⟩
  · have hl0 : l = [] := List.eq_nil_of_length_eq_zero h0
    subst hl0
    refine wpList_append_grows _ hgd s x 25 ho 3 i0 (.int .i64 0) 1 8 Tryd.underlying25 hi hz0 hz1 hz2 rfl (by decide) none 0 0 [] hs (fun _ => ⟨rfl, rfl⟩) rfl (fun b e => by cases e) ad m.length c (numsV m) hx (by simp [numsV]) hm ?_ (by omega) (by simpa using hmx) (by omega) ?_
    · intro u hu; obtain ⟨y, _, rfl⟩ := List.mem_map.1 hu; rfl
    intro v' w' ho' hg'
    have hO' : OwnN W w' v' ([] ++ m) := ⟨by have := ho'.mono hb.size; simpa using this, hb.grown hg' hb.size (fun j hj => by cases hj)⟩
    exact h v' w' hO' ⟨hg'.size, fun b hbl hne => ⟨hg'.block b hbl (by simp), fun e => by have := (ho'.lt b e).1; omega⟩⟩
  · rcases Nat.lt_or_ge cap (l.length + m.length) with hfull | hroom
    · refine wpList_append_grows _ hgd s x 25 ho 3 i0 (.int .i64 0) 1 8 Tryd.underlying25 hi hz0 hz1 hz2 rfl (by decide) (some ⟨g, 0, none⟩) l.length cap (numsV l) hs (fun e => by cases e) (by simp [numsV]) ?_ ad m.length c (numsV m) hx (by simp [numsV]) hm ?_ hfull hmx (by omega) ?_
      · intro b e
        obtain rfl := Option.some.inj e
        exact hown.cells (g := g) (by simp [Value.ownBlock])
      · intro u hu; obtain ⟨y, _, rfl⟩ := List.mem_map.1 hu; rfl
      intro v' w' ho' hg'
      have hO' : OwnN W w' v' (l ++ m) := ⟨by rw [numsV_append, List.length_append]; exact ho'.mono hb.size, hb.grown hg' hb.size (fun j hj => by cases hj)⟩
      exact h v' w' hO' ⟨hg'.size, fun b hbl hne => ⟨hg'.block b hbl (by simp), fun e => by have := (ho'.lt b e).1; omega⟩⟩
    · refine wpList_append_own_spare _ hgd s x 25 ho W.heap.size 3 i0 1 Tryd.underlying25 hi hz1 g l.length cap (numsV l) hs hown ad m.length c (numsV m) hx (by simp [numsV]) hm ?_ hroom ?_
      · intro u hu; obtain ⟨y, _, rfl⟩ := List.mem_map.1 hu; rfl
      intro w' ho' hg'
      have hO' : OwnN W w' (.slice (some ⟨g, 0, none⟩) (l.length + m.length) cap) (l ++ m) := ⟨by rw [numsV_append, List.length_append]; exact ho', hb.grown hg' hb.size (fun j hj => by cases hj; exact hg)⟩
      exact h _ w' hO' ⟨hg'.size, fun b hbl hne => ⟨hg'.block b hbl (fun e => hne (by rw [e]; rfl)), fun e => hne (by rw [← e]; rfl)⟩⟩
theorem Apart.blk {w w' : World} {v v' : Value} (h : Apart w v w' v') {b : Nat} {t : TypeId} {cs : List Value} (hb : Blk w b t cs) (hne : v.ownBlock ≠ some b) : Blk w' b t cs ∧ v'.ownBlock ≠ some b := by
  have hx := h.2 b hb.lt hne
  refine ⟨?_, hx.2⟩
  unfold Blk
  rw [hx.1]
  exact hb
/-- append(b, y): y laid just before; the longer list under a name. -/
theorem push_numR {W w : World} {ops : Array Oper} {rest : List Oper} {o : Oper} {a : Act} {Q : Exit → Act → World → Prop} (hgd : o.guard = none) (s x : Operand)
    (ho : o.op = .call { callee := .builtin .append, args := #[s, x], argTypes := #[25, 25] })
    (l : List Nat) (y : Nat) (r : List Nat) (hr : l ++ [y] = r) (v : Value) (hs : a.eval s = v) (hO : OwnN W w v l)
    (c : Nat) (hx : a.eval x = .slice (some ⟨w.heap.size, 0, none⟩) 1 c) {X : Int} (hX : X = y) (hl : l.length ≤ 4398046511104)
    (h : ∀ v' w', OwnN W w' v' r → Apart (w.alloc (.cells #[.int .i64 X] 3)) v w' v' → wpList Tryd.prog ops Q rest (a.put o.dst v') w') :
    wpList Tryd.prog ops Q (o :: rest) a (w.alloc (.cells #[.int .i64 X] 3)) := by
  subst hr; subst hX
  exact push_nums hgd s x ho l [y] v hs (hO.keep ((Below.refl _ _).alloc (Nat.le_refl _) _)) ⟨w.heap.size, 0, none⟩ 1 c hx rfl (by simp) (fun j u hj => cell_one_new _ _ _ j u (by simpa [numsV, numV] using hj)) (by simp; omega) h

theorem lit4 (s : Nat) (w : World) : ∀ j u, (numsV (four s))[j]? = some u → (w.alloc (.cells #[.int .i64 ((s : Int) / 64), .int .i64 ((s : Int) / 16 % 4), .int .i64 ((s : Int) / 4 % 4), .int .i64 ((s : Int) % 4)] 3)).cell? ((⟨w.heap.size, 0, none⟩ : Addr).add j) = some u := by
  intro j u hj
  have e4 : #[Value.int IntKind.i64 ((s : Int) / 64), Value.int IntKind.i64 ((s : Int) / 16 % 4), Value.int IntKind.i64 ((s : Int) / 4 % 4), Value.int IntKind.i64 ((s : Int) % 4)] = (numsV (four s)).toArray := by simp [numsV, numV, four]
  rw [e4, Addr.add_mid, Nat.zero_add]
  exact (blk_new w 3 (numsV (four s)).toArray).cell hj

set_option maxHeartbeats 2000000 in
set_option maxRecDepth 100000 in
theorem rdigits_any (d : List Nat) (hl : d.length = 16) (hb : ∀ y ∈ d, y < 256) (w : World) :
    Calls Tryd.prog 11 #[.agg (bytesV d).toArray] w fun e w' => ∃ v, e = .returned v ∧ OwnN w w' v (digits d) := by
  have hdl := digs_length d
  rw [hl] at hdl
  have hdle := digs_le d hb
  have HDG := Lib.hid (digs_get d)
  go_enter Tryd.func11, Tryd.ntmps11
  go_upto_region 1 with (fail)
  generalize hw0 : World.alloc _ _ = W0
  have K0 : Blk W0 w.heap.size 23 (bytesV d) := hw0 ▸ (blk_new w _ _)
  have KB : Below w.heap.size w W0 := hw0 ▸ ((Below.refl _ _).alloc (Nat.le_refl _) _)
  clear hw0
  go_wp2
  go_loopw [3, 4, 5] (fun v s i wr => ∃ k : Nat, k ≤ 16 ∧ i = .int .i64 k ∧ s = .int .i64 (lackK d (4 * k)) ∧ OwnN W0 wr v ((digs d).take (4 * k))) (fun _ _ i _ => 16 - (intOf i).toNat)
  case atStart => exact ⟨0, by omega, rfl, rfl, ownN_nil (Below.refl _ _)⟩
  case round =>
    obtain ⟨k, hk, rfl, rfl, hO⟩ := hrel
    by_cases h16 : k < 16
    · obtain ⟨y, hy⟩ : ∃ y, d.getD k 0 = y := ⟨_, rfl⟩
      have hyg : d[k]? = some y := by rw [← hy]; simp [show k < d.length by omega]
      have hy256 : y < 256 := hb y (List.mem_of_getElem? hyg)
      have cy : wr.cell? ⟨w.heap.size, k, none⟩ = some (.int .u8 (y : Int)) := (K0.keep hO.2).cell (by simp [bytesV, byteV, hyg])
      have l16 : (k : Int) < 16 := by omega
      have HX : Hid (∀ r, r < 4 → (digs d)[4 * k + r]? = some ((four y).getD r 0)) := Lib.hid (fun r hr => by have h := HDG.out k r (by omega) hr; rwa [hy] at h)
      go_upto_region 8 with (fail)
      have e4 : #[Value.int IntKind.i64 ((y : Int) / 64), Value.int IntKind.i64 ((y : Int) / 16 % 4), Value.int IntKind.i64 ((y : Int) / 4 % 4), Value.int IntKind.i64 ((y : Int) % 4)] = (numsV (four y)).toArray := by simp [numsV, numV, four]
      rw [e4]
      have KL : Blk (wr.alloc (.cells (numsV (four y)).toArray 3)) wr.heap.size 3 (numsV (four y)) := blk_new _ _ _
      have hO1 := hO.keep ((Below.refl _ _).alloc (Nat.le_refl _) (.cells (numsV (four y)).toArray 3))
      have hne : u3.ownBlock ≠ some wr.heap.size := fun e => by have := (hO.1.lt _ e).2; omega
      have h4 : ∀ r, r < 4 → (four y)[r]? = some ((four y).getD r 0) := fun r hr => by
        obtain rfl | rfl | rfl | rfl : r = 0 ∨ r = 1 ∨ r = 2 ∨ r = 3 := by omega
        all_goals rfl
      have HF := Lib.hid h4
      clear e4 cy hO h4 hyg hy
      generalize World.alloc wr _ = W1 at KL hO1 ⊢
      generalize wr.heap.size = bl at *
      generalize four y = fy at *
      go_wp2
      go_loopw [3, 4, 8] (fun v s i wr => ∃ r : Nat, r ≤ 4 ∧ i = .int .i64 r ∧ s = .int .i64 (lackK d (4 * k + r)) ∧ OwnN W0 wr v ((digs d).take (4 * k + r)) ∧ Blk wr bl 3 (numsV fy) ∧ v.ownBlock ≠ some bl) (fun _ _ i _ => 4 - (intOf i).toNat)
      case atStart => exact ⟨0, by omega, rfl, rfl, hO1, KL, hne⟩
      case round =>
        clear KL hO1 hne
        obtain ⟨r, hr, rfl, rfl, hO, KL, hne⟩ := hrel
        by_cases h4 : r < 4
        · obtain ⟨x, hx⟩ : ∃ x, fy.getD r 0 = x := ⟨_, rfl⟩
          have hf := HF.out r h4
          have hdx := HX.out r h4
          rw [hx] at hf hdx
          have hx3 : x ≤ 3 := hdle x (List.mem_of_getElem? hdx)
          have hcx : (numsV fy)[r]? = some (.int .i64 (x : Int)) := by unfold numsV; rw [List.getElem?_map, hf]; rfl
          have cx : wr.cell? ⟨bl, r, none⟩ = some (.int .i64 (x : Int)) := KL.cell hcx
          have hst := lackK_step d (4 * k + r) x hdx
          have hle := lackK_le d (4 * k + r) (by omega)
          have hps : (digs d).take (4 * k + r) ++ [x] = (digs d).take (4 * k + r + 1) := by rw [List.take_add_one, hdx]; rfl
          have hlen : ((digs d).take (4 * k + r)).length ≤ 4398046511104 := by rw [List.length_take]; omega
          obtain ⟨t1, ht1⟩ : ∃ t, (digs d).take (4 * k + r + 1) = t := ⟨_, rfl⟩
          obtain ⟨t0, ht0⟩ : ∃ t, (digs d).take (4 * k + r) = t := ⟨_, rfl⟩
          obtain ⟨L, hL⟩ : ∃ L, lackK d (4 * k + r) = L := ⟨_, rfl⟩
          rw [hL] at hst hle ⊢
          rw [ht0] at hps hlen hO
          rw [ht1] at hps
          have HST := Lib.hid hst
          have HPS := Lib.hid hps
          have HT1 := Lib.hid ht1
          have HCX := Lib.hid hcx
          have l4 : (r : Int) < 4 := by omega
          clear hst hps ht1 ht0 hL hdx hf hx hcx
          go_upto_region 12 with (at_builtin; refine push_numR (W := W0) rfl _ _ rfl t0 x t1 HPS.out _ rfl hO _ rfl rfl hlen ?_; intro v5 w5 hO5 hA5)
          have hK5 := hA5.blk (KL.alloc _) hne
          have cx5 : w5.cell? ⟨bl, r, none⟩ = some (.int .i64 (x : Int)) := hK5.1.cell HCX.out
          clear hO cx KL hne hA5
          go_wp2
          go_roundw
          case rel => exact ⟨r + 1, by omega, by go_num, by rw [← Nat.add_assoc, HST.out]; go_num, by rw [← Nat.add_assoc, HT1.out]; exact hO5, hK5.1, hK5.2⟩
          case measure => simp [intOf]; omega
        · obtain rfl : r = 4 := by omega
          go_wp2
          go_roundw
          case rel => exact ⟨k + 1, by omega, by go_num, by rw [show 4 * (k + 1) = 4 * k + 4 by omega], by rw [show 4 * (k + 1) = 4 * k + 4 by omega]; exact hO⟩
          case measure => simp [intOf]; omega
    · obtain rfl : k = 16 := by omega
      have hle := lackK_le d 64 (by omega)
      rw [show 4 * 16 = 64 by omega] at hO ⊢
      rw [List.take_of_length_le (by omega)] at hO
      rw [lackK_all d hl] at hle ⊢
      obtain ⟨s, hs⟩ : ∃ s, csum d = s := ⟨_, rfl⟩
      have hdg : digs d ++ four s = digits d := by rw [← hs]; rfl
      rw [hs] at hle ⊢
      have HDD := Lib.hid hdg
      clear hdg hs
      have hlit := lit4 s wr
      have hOk := fun o => hO.keep ((Below.refl wr.heap.size wr).alloc (Nat.le_refl _) o)
      have HLIT := Lib.hid hlit
      have HOK := Lib.hid hOk
      clear hlit hOk hO
      go_wp2_with (at_builtin; refine push_nums (W := W0) rfl _ _ rfl (digs d) (four s) _ rfl (HOK.out _) ⟨wr.heap.size, 0, none⟩ 4 _ rfl rfl (by simp [four]) HLIT.out (by simp [four]; omega) ?_; rw [HDD.out]; intro v5 w5 hO5 hA5)
      go_ret
      exact ⟨v5, rfl, hO5.1.mono KB.size, KB.trans (hO5.2.mono KB.size)⟩

end Go.Proofs.YthffkbdecfjekaaDoor

/-
  Plain mathematics: what Sign makes is accepted, and neither a shorter nor a longer signature (P3.5).
-/
namespace Go.Proofs.YthffkbdecfjekaaDoor
set_option linter.unusedVariables false
set_option linter.unusedSimpArgs false

theorem adv_add (key chain : Nat) (v : List Nat) (a : Nat) : ∀ n, advM key chain a (advM key chain 0 v a) n = advM key chain 0 v (a + n)
  | 0 => rfl
  | n + 1 => by rw [advM, adv_add key chain v a n, ← Nat.add_assoc, advM, Nat.zero_add]
theorem piece_at {A B C : List Nat} {c : Nat} (hA : A.length = 16 * c) (hB : B.length = 16) : piece (A ++ (B ++ C)) c = B := by
  unfold piece
  rw [← hA, List.drop_left, ← hB, List.take_left]
theorem sigC_piece (seed : List Nat) (i : Nat) (ds R : List Nat) (c : Nat) : ∀ n, c < n → ∃ T, sigC seed i ds n ++ R = sigC seed i ds c ++ (advM i c 0 (firstM seed i c) (ds.getD c 0) ++ T)
  | n + 1, h => by
    by_cases hc : c = n
    · subst hc
      exact ⟨R, by rw [sigC, List.append_assoc]⟩
    · obtain ⟨T, hT⟩ := sigC_piece seed i ds [] c n (by omega)
      refine ⟨T ++ (advM i n 0 (firstM seed i n) (ds.getD n 0) ++ R), ?_⟩
      rw [List.append_nil] at hT
      rw [sigC, hT]
      simp only [List.append_assoc]
theorem piece_C (seed : List Nat) (i : Nat) (ds R : List Nat) (c : Nat) (h : c < 68) : piece (sigC seed i ds 68 ++ R) c = advM i c 0 (firstM seed i c) (ds.getD c 0) := by
  obtain ⟨T, hT⟩ := sigC_piece seed i ds R c 68 h
  rw [hT]
  exact piece_at (sigC_length seed i ds c) (advM_dig i c 0 _ (firstM_dig seed i c) _).1
theorem sigS_piece (seed : List Nat) (i l : Nat) : ∀ n, l < n → ∃ T, sigS seed i n = sigS seed i l ++ (sideM seed i l ++ T)
  | n + 1, h => by
    by_cases hc : l = n
    · subst hc
      exact ⟨[], by rw [sigS, List.append_nil]⟩
    · obtain ⟨T, hT⟩ := sigS_piece seed i l n (by omega)
      refine ⟨T ++ sideM seed i n, ?_⟩
      rw [sigS, hT]
      simp only [List.append_assoc]
theorem piece_S (seed : List Nat) (i h : Nat) (ds : List Nat) (l : Nat) (hl : l < h) : piece (sigC seed i ds 68 ++ sigS seed i h) (68 + l) = sideM seed i l := by
  obtain ⟨T, hT⟩ := sigS_piece seed i l h hl
  rw [hT, ← List.append_assoc]
  exact piece_at (by rw [List.length_append, sigC_length, sigS_length]; omega) (node_dgt seed _ _).1
theorem verT_tops (seed : List Nat) (i : Nat) (ds R : List Nat) (hds : ∀ c, ds.getD c 0 ≤ 3) : ∀ n, n ≤ 68 → verT (sigC seed i ds 68 ++ R) i ds n = topsM seed i n
  | 0, _ => rfl
  | n + 1, h => by
    have := hds n
    rw [verT, verT_tops seed i ds R hds n (by omega), piece_C seed i ds R n (by omega), adv_add, topsM]
    congr 2
    omega
theorem verN_node (seed : List Nat) (i h : Nat) (ds : List Nat) : ∀ l, l ≤ h → verN (sigC seed i ds 68 ++ sigS seed i h) i (leafM (topsM seed i 68)) l = nodeM seed l (i / 2 ^ l)
  | 0, _ => by rw [verN, Nat.pow_zero, Nat.div_one, nodeM]
  | l + 1, hl => by
    have hp : i / 2 ^ (l + 1) = i / 2 ^ l / 2 := by rw [Nat.pow_succ, Nat.div_div_eq_div_mul]
    rw [verN, verN_node seed i h ds l (by omega), piece_S seed i h ds l (by omega), hp, nodeM, sideM, sib]
    generalize i / 2 ^ l = k
    by_cases hk : k % 2 = 1
    · rw [if_pos hk, if_pos hk, show 2 * (k / 2) = k - 1 by omega, show k - 1 + 1 = k by omega]
    · rw [if_neg hk, if_neg hk, show 2 * (k / 2) = k by omega]
theorem digits_getD (d : List Nat) (hd : Dgt d) (c : Nat) : (digits d).getD c 0 ≤ 3 := by
  rw [List.getD_eq_getElem?_getD]
  by_cases hc : c < (digits d).length
  · rw [List.getElem?_eq_getElem hc]
    exact digits_le d hd.1 hd.2 _ (List.getElem_mem hc)
  · rw [List.getElem?_eq_none (by omega)]
    exact Nat.zero_le _
theorem digest_dgt (P : List Nat) (i : Int) (msg : List Nat) : Dgt (digestM P i msg) := dig_ofS _ _
/-- The index, decoded from a signature. -/
theorem dec_sig (i : Nat) (hi : i ≤ 1000000) (R : List Nat) : dec (enc (i : Int) ++ R) = ((i : Int), (enc (i : Int)).length, 0) := dec_enc (i : Int) (by omega) (by omega) R
theorem ver_any (P : List Nat) (h i : Nat) (hh : h ≤ 6) (hi : i < 2 ^ h) (msg : List Nat) (hm : msg.length ≤ 1048576) (R : List Nat) :
    verM P (h : Int) msg (enc (i : Int) ++ R) = if R.length ≠ (68 + h) * 16 then (0, 2) else if verR P h i msg R ≠ P then (0, 19) else ((i : Int), 0) := by
  have hp : 2 ^ h ≤ 2 ^ 6 := Nat.pow_le_pow_right (by omega) hh
  unfold verM
  rw [dec_sig i (by omega) R]
  rw [if_neg (by omega), if_neg (by omega), if_neg (by simp)]
  simp only [List.drop_left, Int.toNat_natCast]
  by_cases hR : R.length ≠ (68 + h) * 16
  · rw [if_pos (Or.inr (Or.inr hR)), if_pos hR]
  · rw [if_neg, if_neg hR]
    rintro (h1 | h1 | h1)
    · omega
    · have : ((2 ^ h : Nat) : Int) ≤ (i : Int) := by simpa using h1
      omega
    · exact hR h1
/-- P3.5. -/
theorem sign_accepted (seed : List Nat) (h i : Nat) (hh : h ≤ 6) (hi : i < 2 ^ h) (msg : List Nat) (hm : msg.length ≤ 1048576) : verM (rootM seed h) (h : Int) msg (sigM seed h i msg) = ((i : Int), 0) := by
  unfold sigM
  rw [ver_any _ h i hh hi msg hm, if_neg, if_neg]
  · intro hx
    apply hx
    unfold verR
    rw [verT_tops seed i _ _ (digits_getD _ (digest_dgt _ _ _)) 68 (by omega), verN_node seed i h _ h (by omega), Nat.div_eq_of_lt hi]
    rfl
  · rw [List.length_append, sigC_length, sigS_length]
    omega
theorem sig_length (seed : List Nat) (h i : Nat) (msg : List Nat) : (sigM seed h i msg).length = (enc (i : Int)).length + (68 + h) * 16 := by
  unfold sigM
  rw [List.length_append, List.length_append, sigC_length, sigS_length]
  omega
theorem sign_long (seed : List Nat) (h i : Nat) (hh : h ≤ 6) (hi : i < 2 ^ h) (msg : List Nat) (hm : msg.length ≤ 1048576) (P x : List Nat) (hx : x ≠ []) : verM P (h : Int) msg (sigM seed h i msg ++ x) = (0, 2) := by
  unfold sigM
  rw [List.append_assoc, ver_any _ h i hh hi msg hm, if_pos]
  have := List.length_pos_iff.2 hx
  rw [List.length_append, List.length_append, sigC_length, sigS_length]
  omega
theorem take_app (E X : List Nat) (k : Nat) (h : 1 ≤ k) : (E ++ X).take (E.length + k - 1) = E ++ X.take (k - 1) := by
  rw [List.take_append, List.take_of_length_le (by omega), show E.length + k - 1 - E.length = k - 1 by omega]
theorem sign_less (seed : List Nat) (h i : Nat) (hh : h ≤ 6) (hi : i < 2 ^ h) (msg : List Nat) (hm : msg.length ≤ 1048576) (P : List Nat) : verM P (h : Int) msg ((sigM seed h i msg).take ((sigM seed h i msg).length - 1)) = (0, 2) := by
  have hl : (sigC seed i (digits (digestM (rootM seed h) (i : Int) msg)) 68 ++ sigS seed i h).length = (68 + h) * 16 := by
    rw [List.length_append, sigC_length, sigS_length]; omega
  have : (sigM seed h i msg).take ((sigM seed h i msg).length - 1) = enc (i : Int) ++ (sigC seed i (digits (digestM (rootM seed h) (i : Int) msg)) 68 ++ sigS seed i h).take ((68 + h) * 16 - 1) := by
    rw [sig_length]
    exact take_app _ _ _ (by omega)
  rw [this, ver_any _ h i hh hi msg hm, if_pos]
  rw [List.length_take, hl]
  omega

end Go.Proofs.YthffkbdecfjekaaDoor
