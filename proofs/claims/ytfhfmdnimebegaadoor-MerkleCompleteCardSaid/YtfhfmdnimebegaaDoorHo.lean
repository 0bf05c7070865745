/-
  hash.Of returns the digest of a tag and of parts.
-/
import Derived.Test.YtfhfmdnimebegaaDoorHg
import Derived.Test.YtfhfmdnimebegaaDoorHt
import Derived.Test.YtfhfmdnimebegaaDoorWn
namespace Go.Proofs.YtfhfmdnimebegaaDoor
open Go.RowKit
set_option linter.unusedVariables false
set_option linter.unusedSimpArgs false

/-- The input that Of hashes. -/
def ofIn (T : Nat) (ps : List (List Nat)) : List Nat := T :: ps.flatMap encS
theorem zero_dig (w : World) : (zeroValue 29).run Tryd.prog w = .ok (.agg (bytesV (List.replicate 16 0)).toArray) w := by kernel_rfl
def z16 : List Nat := List.replicate 16 0
theorem zero_dig' (w : World) : (zeroValue 29).run Tryd.prog w = .ok (.agg (bytesV z16).toArray) w := by kernel_rfl
theorem conv_one (T : Nat) (hT : T < 256) (b : Nat) (w : World) (h : w.cell? ⟨b, 0, none⟩ = some (.int .u8 (T : Int))) : (convert 39 9 (.slice (some ⟨b, 0, none⟩) 1 1)).run Tryd.prog w = .ok (.string (strOf [T])) w :=
  conv_cells w ⟨b, 0, none⟩ 1 [T] (fun y hy => by rw [List.mem_singleton.1 hy]; exact hT) (fun j u hj => by
    match j, hj with
    | 0, hj =>
      obtain rfl : byteV T = u := by simpa [bytesV] using hj
      rw [Addr.add_mid]
      exact h
    | j + 1, hj => simp [bytesV] at hj)

/-- A stream with the message m lies in a block of its own, not below wr. -/
def LaidS (wr : World) (m : List Nat) (v : Value) (wx : World) : Prop := ∃ b B, v = .pointer (some ⟨b, 0, none⟩) ∧ wr.heap.size ≤ b ∧ Stm m B ∧ Blk wx b 122 (strV (sth m) B m.length) ∧ Below wr.heap.size wr wx
theorem kc_of {w : World} {b : Nat} {t : TypeId} {v : Value} (h : Blk w b t [v]) : w.cell? ⟨b, 0, none⟩ = some v := h.cell rfl
theorem zeroStr_length : zeroStr.length = 73 := strV_length _ _ _ (by simp)
theorem str_run {w : World} {b : Nat} {m B : List Nat} {k : Nat} (h : Blk w b 122 zeroStr.toArray.toList) (hS : Stm m B) : (storeCells ⟨b, 0, none⟩ (strV (sth m) B k)).run Tryd.prog w = .ok () (w.setCells b 0 (strV (sth m) B k)) :=
  h.storeRun (by rw [strV_length _ _ _ hS.1.1]; exact zeroStr_length.symm) (strV_cells _ _ _)
theorem laid_str {wr w : World} {b : Nat} {m B : List Nat} {k : Nat} (h : Blk w b 122 zeroStr.toArray.toList) (hS : Stm m B) (hk : k = m.length) (hb : wr.heap.size ≤ b) (hB : Below wr.heap.size wr (w.setCells b 0 (strV (sth m) B k))) : LaidS wr m (.pointer (some ⟨b, 0, none⟩)) (w.setCells b 0 (strV (sth m) B k)) := by
  subst hk
  exact ⟨b, B, rfl, hb, hS, h.all (by rw [strV_length _ _ _ hS.1.1]; exact zeroStr_length.symm), hB⟩

/-- The bytes that have been taken in before part k. -/
def ofM (T : Nat) (ps : List ByteArray) (k : Nat) : List Nat := T :: ((sbs ps).take k).flatMap encS
theorem ofM_zero (T : Nat) (ps : List ByteArray) : ofM T ps 0 = [T] := by simp [ofM]
theorem ofM_all (T : Nat) (ps : List ByteArray) : ofM T ps ps.length = ofIn T (sbs ps) := by
  unfold ofM ofIn
  rw [List.take_of_length_le (by simp [sbs])]
theorem ofM_step (T : Nat) (ps : List ByteArray) (k : Nat) (h : k < ps.length) : ofM T ps k ++ encS (sb ps[k]) = ofM T ps (k + 1) := by
  unfold ofM
  have h' : k < (sbs ps).length := by simpa [sbs] using h
  rw [List.take_add_one, List.getElem?_eq_getElem h', List.flatMap_append]
  simp [sbs]
theorem encS_le (s : ByteArray) (h : s.size ≤ 1048576) : (encS (sb s)).length ≤ 1048585 := by
  have := encS_length (sb s) (by rw [sb_length]; omega)
  rw [sb_length] at this
  omega
theorem ofM_len (T : Nat) (ps : List ByteArray) (ht : ∀ s ∈ ps, s.size ≤ 1048576) : ∀ k, k ≤ ps.length → (ofM T ps k).length ≤ 1 + k * 1048585
  | 0, _ => by rw [ofM_zero]; simp
  | k + 1, h => by
    rw [← ofM_step T ps k (by omega), List.length_append]
    have h1 := ofM_len T ps ht k (by omega)
    have h2 := encS_le ps[k] (ht _ (List.getElem_mem _))
    omega
theorem encS_byte (s : ByteArray) (h : s.size ≤ 1048576) : ∀ d ∈ encS (sb s), d < 256 := by
  intro d hd
  unfold encS at hd
  rcases List.mem_append.1 hd with h1 | h1
  · rw [sb_length] at h1
    exact enc_lt _ (by omega) (by omega) d h1
  · exact sb_lt s d h1
/-- What holds at each round's head. -/
def OfRel (wr : World) (b : Nat) (m : List Nat) (wx : World) : Prop := ∃ B, Stm m B ∧ Blk wx b 122 (strV (sth m) B m.length) ∧ Below wr.heap.size wr wx
theorem rng_str {w : World} {b : Nat} {cs : List Value} (h : Blk w b 122 cs) : w.rangeAt b 0 cs := by
  have hr := h.range 0 cs.length
  rwa [List.drop_zero, List.take_length] at hr
theorem info_str {m B : List Nat} {k : Nat} (hB : B.length = 64) : (Tryd.prog.info? 122).map (·.size) = some (strV (sth m) B k).length := by
  rw [strV_length _ _ _ hB]
  kernel_rfl
theorem str_store {w : World} {b : Nat} {cs : List Value} {m B : List Nat} {k : Nat} (h : Blk w b 122 cs) (hl : cs.length = 73) (hB : B.length = 64) : (storeCells ⟨b, 0, none⟩ (strV (sth m) B k)).run Tryd.prog w = .ok () (w.setCells b 0 (strV (sth m) B k)) ∧ Blk (w.setCells b 0 (strV (sth m) B k)) b 122 (strV (sth m) B k) :=
  ⟨h.storeRun (by rw [strV_length _ _ _ hB, hl]) (strV_cells _ _ _), h.all (by rw [strV_length _ _ _ hB, hl])⟩

theorem slice_16 (w : World) (b : Nat) : (Instr.sliceAt 114 (.pointer (some ⟨b, 0, none⟩)) none (some (.int .i64 16)) none).run Tryd.prog w = .ok (.slice (some ⟨b, 0, none⟩) 16 32) w := by
  have hL : Tryd.prog.arrayLen 114 = 32 := by kernel_rfl
  have hE : Tryd.prog.elem 114 = 5 := by kernel_rfl
  have ht : Tryd.prog.underlying 114 = some (.array (Tryd.prog.arrayLen 114) (Tryd.prog.elem 114)) := by rw [hL, hE]; exact Tryd.underlying114
  rw [run_sliceAt_array_h w _ _ ht .i64 16 (by omega) (by rw [hL]; omega), hE, size_u8, hL]
  simp [Result.andThen_ok, slicedAt, Addr.add_mid]

theorem array_16 (w : World) (b : Nat) : (Instr.arrayAt 29 (.slice (some ⟨b, 0, none⟩) 16 32)).run Tryd.prog w = .ok (.pointer (some ⟨b, 0, none⟩)) w := by
  simp [Instr.arrayAt, run_underlying Tryd.underlying29]

attribute [local irreducible] zeroStr strV
set_option maxHeartbeats 4000000 in
set_option maxRecDepth 100000 in
theorem of_any (tag : Int) (T : Nat) (hT : T < 256) (hTt : IntKind.u8.wrap tag = (T : Int)) (A : Option Addr) (ps : List ByteArray) (n c : Nat) (w : World) (hn : n = ps.length) (hl : ps.length ≤ 1048576) (ht : ∀ s ∈ ps, s.size ≤ 1048576) (hr : Cells w A (strsV ps)) (hG : Glob w) :
    Calls Tryd.prog 57 #[.int .i64 tag, .slice A n c] w fun e w' => e = .returned (.agg (bytesV ((sha (ofIn T (sbs ps))).take 16)).toArray) ∧ Below w.heap.size w w' := by
  subst hn
  have hz := zero_stream
  have hz1 := zero_dig'
  have hz2 := zero_32
  go_enter Tryd.func57, Tryd.ntmps57
  go_upto_region 1 with (fail)
  generalize hw0 : World.alloc _ _ = W0
  have K0 : Blk W0 w.heap.size 29 (bytesV z16) := hw0 ▸ blk_new w _ _
  have KB : Below w.heap.size w W0 := hw0 ▸ ((Below.refl _ _).alloc (Nat.le_refl _) _)
  clear hw0
  have hr0 := hr.keep KB
  have hGr := hG.keep KB
  have hcv := conv_one T hT
  have HA1 := Lib.hid (fun (B : List Nat) (hS : Stm [] B) (w1 : World) (hG : Glob w1) => add_key [T] (fun y hy => by rw [List.mem_singleton.1 hy]; exact hT) (by simp) B hS w1 hG)
  go_cut [5] (fun s5 wx => LaidS W0 [T] s5 wx)
  case first =>
    refine wp_region_held_drew (S := fun _ => True) (by kernel_rfl) trivial (fun _ => ?_)
    have hB : Below W0.heap.size W0 W0.drew := below_drew (Below.refl _ _)
    generalize W0.drew = V0 at hB ⊢
    refine wpAnyH_take (i := 1) (oi := ⟨some 10, .move (.tmp 0), 3, "hash.go:124", #[], none⟩) (v := .int .i64 tag) rfl (by kernel_rfl) (by kernel_rfl) (by kernel_rfl) (fun _ _ _ h => h) (Or.inl ⟨by rfl, fun w' _ => by go_simp⟩) trivial ?_
    try simp only [Act.put, List.setIfInBounds_toArray, List.set_cons_zero, List.set_cons_succ]
    refine wpAnyH_take (i := 2) (oi := ⟨some 11, .convert 3 5 (.tmp 10), 5, "hash.go:124", #[⟨1, .data⟩], none⟩) (v := .int .u8 (T : Int)) rfl (by kernel_rfl) (by kernel_rfl) (by kernel_rfl) (fun _ _ _ h => h) (Or.inl ⟨by rfl, fun w' _ => by go_simp⟩) trivial ?_
    try simp only [Act.put, List.setIfInBounds_toArray, List.set_cons_zero, List.set_cons_succ]
    refine wpAnyH_ready (rs := [0, 3, 6]) (by kernel_rfl) (by simp) ?_
    refine AllReadyH.cons (o := ⟨some 9, .call { callee := .value (.func 71), args := #[], argTypes := #[] }, 122, "hash.go:124", #[], none⟩) rfl (fun K hK => ?_) (AllReadyH.cons (o := ⟨some 12, .buildSlice 39 1 #[(0, .tmp 11)], 39, "hash.go:124", #[⟨2, .data⟩], none⟩) rfl (fun K hK => ?_) (AllReadyH.cons (o := ⟨some 5, .alloc 122, 0, "hash.go:124", #[], none⟩) rfl (fun K hK => ?_) AllReadyH.nil))
    rw [if_pos (by rfl)]
    go_simp
    refine (begin_str _ (hGr.keep hB)).mono ?_
    rintro e V1 ⟨B1, hS1, rfl, hC⟩
    replace hB := link hB hC
    clear hC
    dsimp only
    refine hK.out _ _ trivial (fun _ => ?_)
    clear hK K
    try simp only [Act.put, List.setIfInBounds_toArray, List.set_cons_zero, List.set_cons_succ]
    refine wpAnyH_ready (rs := [3, 6]) (by kernel_rfl) (by simp) ?_
    refine AllReadyH.cons (o := ⟨some 12, .buildSlice 39 1 #[(0, .tmp 11)], 39, "hash.go:124", #[⟨2, .data⟩], none⟩) rfl (fun K hK => ?_) (AllReadyH.cons (o := ⟨some 5, .alloc 122, 0, "hash.go:124", #[], none⟩) rfl (fun K hK => ?_) AllReadyH.nil)
    rw [if_pos (by rfl)]
    go_simp
    refine hK.out _ _ trivial (fun _ => ?_)
    clear hK K
    try simp only [Act.put, List.setIfInBounds_toArray, List.set_cons_zero, List.set_cons_succ]
    have kb := blk_new V1 5 #[.int .u8 (T : Int)]
    replace hB := hB.alloc hB.size (.cells #[.int .u8 (T : Int)] 5)
    generalize World.alloc V1 _ = V2 at kb hB ⊢
    refine wpAnyH_ready (rs := [4, 6]) (by kernel_rfl) (by simp) ?_
    refine AllReadyH.cons (o := ⟨some 13, .convert 39 9 (.tmp 12), 9, "hash.go:124", #[⟨3, .data⟩], none⟩) rfl (fun K hK => ?_) (AllReadyH.cons (o := ⟨some 5, .alloc 122, 0, "hash.go:124", #[], none⟩) rfl (fun K hK => ?_) AllReadyH.nil)
    have kv := hcv _ _ (kc_of kb)
    rw [if_pos (by rfl)]
    go_simp
    clear kv kb
    refine hK.out _ _ trivial (fun _ => ?_)
    clear hK K
    try simp only [Act.put, List.setIfInBounds_toArray, List.set_cons_zero, List.set_cons_succ]
    refine wpAnyH_ready (rs := [5, 6]) (by kernel_rfl) (by simp) ?_
    refine AllReadyH.cons (o := ⟨some 14, .call { callee := .value (.func 72), args := #[.tmp 9, .tmp 13], argTypes := #[122, 9] }, 122, "hash.go:124", #[⟨0, .data⟩, ⟨4, .data⟩, ⟨0, .chain⟩], none⟩) rfl (fun K hK => ?_) (AllReadyH.cons (o := ⟨some 5, .alloc 122, 0, "hash.go:124", #[], none⟩) rfl (fun K hK => ?_) AllReadyH.nil)
    focus
      rw [if_pos (by rfl)]
      go_simp
      refine (HA1.out _ hS1 _ (hGr.keep hB)).mono ?_
      rintro e V3 ⟨B2, hS2, rfl, hC⟩
      replace hB := link hB hC
      clear hC
      have hln := strV_length (sth [T]) B2 1 hS2.1.1
      dsimp only
      refine hK.out _ _ trivial (fun _ => ?_)
      clear hK K
      try simp only [Act.put, List.setIfInBounds_toArray, List.set_cons_zero, List.set_cons_succ]
      refine wpAnyH_ready (rs := [6]) (by kernel_rfl) (by simp) ?_
      refine AllReadyH.cons (o := ⟨some 5, .alloc 122, 0, "hash.go:124", #[], none⟩) rfl (fun K hK => ?_) AllReadyH.nil
      rw [if_pos (by rfl)]
      go_simp
      refine hK.out _ _ trivial (fun _ => ?_)
      clear hK K
      try simp only [Act.put, List.setIfInBounds_toArray, List.set_cons_zero, List.set_cons_succ]
      have kn := blk_new V3 122 zeroStr.toArray
      have hb5 := hB.size
      replace hB := hB.alloc hB.size (.cells zeroStr.toArray 122)
      generalize World.alloc V3 _ = V4 at kn hB ⊢
      generalize V3.heap.size = b5 at kn hb5 ⊢
      refine wpAnyH_ready (rs := [7]) (by kernel_rfl) (by simp) ?_
      refine AllReadyH.cons (o := ⟨none, .store 122 (.tmp 5) (.tmp 14), 0, "hash.go:124", #[⟨6, .data⟩, ⟨5, .data⟩, ⟨5, .chain⟩, ⟨0, .phase⟩, ⟨1, .phase⟩, ⟨2, .phase⟩, ⟨3, .phase⟩, ⟨4, .phase⟩, ⟨5, .phase⟩, ⟨6, .phase⟩], none⟩) rfl (fun K hK => ?_) AllReadyH.nil
      have kst := str_run (k := 1) kn hS2
      rw [if_pos (by rfl)]
      go_simp
      clear kst
      refine hK.out _ _ trivial (fun _ => ?_)
      clear hK K
      try simp only [Act.put, List.setIfInBounds_toArray, List.set_cons_zero, List.set_cons_succ]
      refine wpAnyH_done (by kernel_rfl) ?_ _
      have hcut := laid_str (k := 1) kn hS2 rfl hb5 (below_sets hb5 _ _ hB)
      generalize World.setCells _ _ _ _ = wy at hcut ⊢
      clear kn hB hS1 hS2 hb5 hln HA1 hcv hGr hG hr hr0 K0 KB
      go_wp2_with fail
      go_meet
      exact hcut
    rw [if_pos (by rfl)]
    go_simp
    refine hK.out _ _ trivial (fun _ => ?_)
    clear hK K
    try simp only [Act.put, List.setIfInBounds_toArray, List.set_cons_zero, List.set_cons_succ]
    have kn := blk_new V2 122 zeroStr.toArray
    have hb5 := hB.size
    replace hB := hB.alloc hB.size (.cells zeroStr.toArray 122)
    generalize World.alloc V2 _ = V3 at kn hB ⊢
    generalize V2.heap.size = b5 at kn hb5 ⊢
    rotate_left
    rw [if_pos (by rfl)]
    go_simp
    refine hK.out _ _ trivial (fun _ => ?_)
    clear hK K
    try simp only [Act.put, List.setIfInBounds_toArray, List.set_cons_zero, List.set_cons_succ]
    have kn := blk_new V2 122 zeroStr.toArray
    have hb5 := hB.size
    replace kb := kb.alloc (.cells zeroStr.toArray 122)
    replace hB := hB.alloc hB.size (.cells zeroStr.toArray 122)
    generalize World.alloc V2 _ = V3 at kn hB kb ⊢
    generalize V2.heap.size = b5 at kn hb5 ⊢
    refine wpAnyH_ready (rs := [4]) (by kernel_rfl) (by simp) ?_
    refine AllReadyH.cons (o := ⟨some 13, .convert 39 9 (.tmp 12), 9, "hash.go:124", #[⟨3, .data⟩], none⟩) rfl (fun K hK => ?_) AllReadyH.nil
    have kv := hcv _ _ (kc_of kb)
    rw [if_pos (by rfl)]
    go_simp
    clear kv kb
    refine hK.out _ _ trivial (fun _ => ?_)
    clear hK K
    try simp only [Act.put, List.setIfInBounds_toArray, List.set_cons_zero, List.set_cons_succ]
    rotate_left
    rw [if_pos (by rfl)]
    go_simp
    refine hK.out _ _ trivial (fun _ => ?_)
    clear hK K
    try simp only [Act.put, List.setIfInBounds_toArray, List.set_cons_zero, List.set_cons_succ]
    have kn := blk_new V1 122 zeroStr.toArray
    have hb5 := hB.size
    replace hB := hB.alloc hB.size (.cells zeroStr.toArray 122)
    generalize World.alloc V1 _ = V2 at kn hB ⊢
    generalize V1.heap.size = b5 at kn hb5 ⊢
    refine wpAnyH_ready (rs := [3]) (by kernel_rfl) (by simp) ?_
    refine AllReadyH.cons (o := ⟨some 12, .buildSlice 39 1 #[(0, .tmp 11)], 39, "hash.go:124", #[⟨2, .data⟩], none⟩) rfl (fun K hK => ?_) AllReadyH.nil
    rw [if_pos (by rfl)]
    go_simp
    refine hK.out _ _ trivial (fun _ => ?_)
    clear hK K
    try simp only [Act.put, List.setIfInBounds_toArray, List.set_cons_zero, List.set_cons_succ]
    have kb := blk_new V2 5 #[.int .u8 (T : Int)]
    replace kn := kn.alloc (.cells #[.int .u8 (T : Int)] 5)
    replace hB := hB.alloc hB.size (.cells #[.int .u8 (T : Int)] 5)
    generalize World.alloc V2 _ = V3 at kb hB kn ⊢
    refine wpAnyH_ready (rs := [4]) (by kernel_rfl) (by simp) ?_
    refine AllReadyH.cons (o := ⟨some 13, .convert 39 9 (.tmp 12), 9, "hash.go:124", #[⟨3, .data⟩], none⟩) rfl (fun K hK => ?_) AllReadyH.nil
    have kv := hcv _ _ (kc_of kb)
    rw [if_pos (by rfl)]
    go_simp
    clear kv kb
    refine hK.out _ _ trivial (fun _ => ?_)
    clear hK K
    try simp only [Act.put, List.setIfInBounds_toArray, List.set_cons_zero, List.set_cons_succ]
    rotate_left
    rw [if_pos (by rfl)]
    go_simp
    refine hK.out _ _ trivial (fun _ => ?_)
    clear hK K
    try simp only [Act.put, List.setIfInBounds_toArray, List.set_cons_zero, List.set_cons_succ]
    have kb := blk_new V0 5 #[.int .u8 (T : Int)]
    replace hB := hB.alloc hB.size (.cells #[.int .u8 (T : Int)] 5)
    generalize World.alloc V0 _ = V1 at kb hB ⊢
    refine wpAnyH_ready (rs := [0, 4, 6]) (by kernel_rfl) (by simp) ?_
    refine AllReadyH.cons (o := ⟨some 9, .call { callee := .value (.func 71), args := #[], argTypes := #[] }, 122, "hash.go:124", #[], none⟩) rfl (fun K hK => ?_) (AllReadyH.cons (o := ⟨some 13, .convert 39 9 (.tmp 12), 9, "hash.go:124", #[⟨3, .data⟩], none⟩) rfl (fun K hK => ?_) (AllReadyH.cons (o := ⟨some 5, .alloc 122, 0, "hash.go:124", #[], none⟩) rfl (fun K hK => ?_) AllReadyH.nil))
    rw [if_pos (by rfl)]
    go_simp
    refine (begin_str _ (hGr.keep hB)).mono ?_
    rintro e V2 ⟨B1, hS1, rfl, hC⟩
    replace kb := kb.keep hC
    replace hB := link hB hC
    clear hC
    dsimp only
    refine hK.out _ _ trivial (fun _ => ?_)
    clear hK K
    try simp only [Act.put, List.setIfInBounds_toArray, List.set_cons_zero, List.set_cons_succ]
    refine wpAnyH_ready (rs := [4, 6]) (by kernel_rfl) (by simp) ?_
    refine AllReadyH.cons (o := ⟨some 13, .convert 39 9 (.tmp 12), 9, "hash.go:124", #[⟨3, .data⟩], none⟩) rfl (fun K hK => ?_) (AllReadyH.cons (o := ⟨some 5, .alloc 122, 0, "hash.go:124", #[], none⟩) rfl (fun K hK => ?_) AllReadyH.nil)
    have kv := hcv _ _ (kc_of kb)
    rw [if_pos (by rfl)]
    go_simp
    clear kv kb
    refine hK.out _ _ trivial (fun _ => ?_)
    clear hK K
    try simp only [Act.put, List.setIfInBounds_toArray, List.set_cons_zero, List.set_cons_succ]
    refine wpAnyH_ready (rs := [5, 6]) (by kernel_rfl) (by simp) ?_
    refine AllReadyH.cons (o := ⟨some 14, .call { callee := .value (.func 72), args := #[.tmp 9, .tmp 13], argTypes := #[122, 9] }, 122, "hash.go:124", #[⟨0, .data⟩, ⟨4, .data⟩, ⟨0, .chain⟩], none⟩) rfl (fun K hK => ?_) (AllReadyH.cons (o := ⟨some 5, .alloc 122, 0, "hash.go:124", #[], none⟩) rfl (fun K hK => ?_) AllReadyH.nil)
    focus
      rw [if_pos (by rfl)]
      go_simp
      refine (HA1.out _ hS1 _ (hGr.keep hB)).mono ?_
      rintro e V3 ⟨B2, hS2, rfl, hC⟩
      replace hB := link hB hC
      clear hC
      have hln := strV_length (sth [T]) B2 1 hS2.1.1
      dsimp only
      refine hK.out _ _ trivial (fun _ => ?_)
      clear hK K
      try simp only [Act.put, List.setIfInBounds_toArray, List.set_cons_zero, List.set_cons_succ]
      refine wpAnyH_ready (rs := [6]) (by kernel_rfl) (by simp) ?_
      refine AllReadyH.cons (o := ⟨some 5, .alloc 122, 0, "hash.go:124", #[], none⟩) rfl (fun K hK => ?_) AllReadyH.nil
      rw [if_pos (by rfl)]
      go_simp
      refine hK.out _ _ trivial (fun _ => ?_)
      clear hK K
      try simp only [Act.put, List.setIfInBounds_toArray, List.set_cons_zero, List.set_cons_succ]
      have kn := blk_new V3 122 zeroStr.toArray
      have hb5 := hB.size
      replace hB := hB.alloc hB.size (.cells zeroStr.toArray 122)
      generalize World.alloc V3 _ = V4 at kn hB ⊢
      generalize V3.heap.size = b5 at kn hb5 ⊢
      refine wpAnyH_ready (rs := [7]) (by kernel_rfl) (by simp) ?_
      refine AllReadyH.cons (o := ⟨none, .store 122 (.tmp 5) (.tmp 14), 0, "hash.go:124", #[⟨6, .data⟩, ⟨5, .data⟩, ⟨5, .chain⟩, ⟨0, .phase⟩, ⟨1, .phase⟩, ⟨2, .phase⟩, ⟨3, .phase⟩, ⟨4, .phase⟩, ⟨5, .phase⟩, ⟨6, .phase⟩], none⟩) rfl (fun K hK => ?_) AllReadyH.nil
      have kst := str_run (k := 1) kn hS2
      rw [if_pos (by rfl)]
      go_simp
      clear kst
      refine hK.out _ _ trivial (fun _ => ?_)
      clear hK K
      try simp only [Act.put, List.setIfInBounds_toArray, List.set_cons_zero, List.set_cons_succ]
      refine wpAnyH_done (by kernel_rfl) ?_ _
      have hcut := laid_str (k := 1) kn hS2 rfl hb5 (below_sets hb5 _ _ hB)
      generalize World.setCells _ _ _ _ = wy at hcut ⊢
      clear kn hB hS1 hS2 hb5 hln HA1 hcv hGr hG hr hr0 K0 KB
      go_wp2_with fail
      go_meet
      exact hcut
    rw [if_pos (by rfl)]
    go_simp
    refine hK.out _ _ trivial (fun _ => ?_)
    clear hK K
    try simp only [Act.put, List.setIfInBounds_toArray, List.set_cons_zero, List.set_cons_succ]
    have kn := blk_new V2 122 zeroStr.toArray
    have hb5 := hB.size
    replace hB := hB.alloc hB.size (.cells zeroStr.toArray 122)
    generalize World.alloc V2 _ = V3 at kn hB ⊢
    generalize V2.heap.size = b5 at kn hb5 ⊢
    rotate_left
    rw [if_pos (by rfl)]
    go_simp
    refine hK.out _ _ trivial (fun _ => ?_)
    clear hK K
    try simp only [Act.put, List.setIfInBounds_toArray, List.set_cons_zero, List.set_cons_succ]
    have kn := blk_new V2 122 zeroStr.toArray
    have hb5 := hB.size
    replace kb := kb.alloc (.cells zeroStr.toArray 122)
    replace hB := hB.alloc hB.size (.cells zeroStr.toArray 122)
    generalize World.alloc V2 _ = V3 at kn hB kb ⊢
    generalize V2.heap.size = b5 at kn hb5 ⊢
    refine wpAnyH_ready (rs := [4]) (by kernel_rfl) (by simp) ?_
    refine AllReadyH.cons (o := ⟨some 13, .convert 39 9 (.tmp 12), 9, "hash.go:124", #[⟨3, .data⟩], none⟩) rfl (fun K hK => ?_) AllReadyH.nil
    have kv := hcv _ _ (kc_of kb)
    rw [if_pos (by rfl)]
    go_simp
    clear kv kb
    refine hK.out _ _ trivial (fun _ => ?_)
    clear hK K
    try simp only [Act.put, List.setIfInBounds_toArray, List.set_cons_zero, List.set_cons_succ]
    rotate_left
    have kv := hcv _ _ (kc_of kb)
    rw [if_pos (by rfl)]
    go_simp
    clear kv kb
    refine hK.out _ _ trivial (fun _ => ?_)
    clear hK K
    try simp only [Act.put, List.setIfInBounds_toArray, List.set_cons_zero, List.set_cons_succ]
    refine wpAnyH_ready (rs := [0, 6]) (by kernel_rfl) (by simp) ?_
    refine AllReadyH.cons (o := ⟨some 9, .call { callee := .value (.func 71), args := #[], argTypes := #[] }, 122, "hash.go:124", #[], none⟩) rfl (fun K hK => ?_) (AllReadyH.cons (o := ⟨some 5, .alloc 122, 0, "hash.go:124", #[], none⟩) rfl (fun K hK => ?_) AllReadyH.nil)
    rw [if_pos (by rfl)]
    go_simp
    refine (begin_str _ (hGr.keep hB)).mono ?_
    rintro e V2 ⟨B1, hS1, rfl, hC⟩
    replace hB := link hB hC
    clear hC
    dsimp only
    refine hK.out _ _ trivial (fun _ => ?_)
    clear hK K
    try simp only [Act.put, List.setIfInBounds_toArray, List.set_cons_zero, List.set_cons_succ]
    refine wpAnyH_ready (rs := [5, 6]) (by kernel_rfl) (by simp) ?_
    refine AllReadyH.cons (o := ⟨some 14, .call { callee := .value (.func 72), args := #[.tmp 9, .tmp 13], argTypes := #[122, 9] }, 122, "hash.go:124", #[⟨0, .data⟩, ⟨4, .data⟩, ⟨0, .chain⟩], none⟩) rfl (fun K hK => ?_) (AllReadyH.cons (o := ⟨some 5, .alloc 122, 0, "hash.go:124", #[], none⟩) rfl (fun K hK => ?_) AllReadyH.nil)
    focus
      rw [if_pos (by rfl)]
      go_simp
      refine (HA1.out _ hS1 _ (hGr.keep hB)).mono ?_
      rintro e V3 ⟨B2, hS2, rfl, hC⟩
      replace hB := link hB hC
      clear hC
      have hln := strV_length (sth [T]) B2 1 hS2.1.1
      dsimp only
      refine hK.out _ _ trivial (fun _ => ?_)
      clear hK K
      try simp only [Act.put, List.setIfInBounds_toArray, List.set_cons_zero, List.set_cons_succ]
      refine wpAnyH_ready (rs := [6]) (by kernel_rfl) (by simp) ?_
      refine AllReadyH.cons (o := ⟨some 5, .alloc 122, 0, "hash.go:124", #[], none⟩) rfl (fun K hK => ?_) AllReadyH.nil
      rw [if_pos (by rfl)]
      go_simp
      refine hK.out _ _ trivial (fun _ => ?_)
      clear hK K
      try simp only [Act.put, List.setIfInBounds_toArray, List.set_cons_zero, List.set_cons_succ]
      have kn := blk_new V3 122 zeroStr.toArray
      have hb5 := hB.size
      replace hB := hB.alloc hB.size (.cells zeroStr.toArray 122)
      generalize World.alloc V3 _ = V4 at kn hB ⊢
      generalize V3.heap.size = b5 at kn hb5 ⊢
      refine wpAnyH_ready (rs := [7]) (by kernel_rfl) (by simp) ?_
      refine AllReadyH.cons (o := ⟨none, .store 122 (.tmp 5) (.tmp 14), 0, "hash.go:124", #[⟨6, .data⟩, ⟨5, .data⟩, ⟨5, .chain⟩, ⟨0, .phase⟩, ⟨1, .phase⟩, ⟨2, .phase⟩, ⟨3, .phase⟩, ⟨4, .phase⟩, ⟨5, .phase⟩, ⟨6, .phase⟩], none⟩) rfl (fun K hK => ?_) AllReadyH.nil
      have kst := str_run (k := 1) kn hS2
      rw [if_pos (by rfl)]
      go_simp
      clear kst
      refine hK.out _ _ trivial (fun _ => ?_)
      clear hK K
      try simp only [Act.put, List.setIfInBounds_toArray, List.set_cons_zero, List.set_cons_succ]
      refine wpAnyH_done (by kernel_rfl) ?_ _
      have hcut := laid_str (k := 1) kn hS2 rfl hb5 (below_sets hb5 _ _ hB)
      generalize World.setCells _ _ _ _ = wy at hcut ⊢
      clear kn hB hS1 hS2 hb5 hln HA1 hcv hGr hG hr hr0 K0 KB
      go_wp2_with fail
      go_meet
      exact hcut
    rw [if_pos (by rfl)]
    go_simp
    refine hK.out _ _ trivial (fun _ => ?_)
    clear hK K
    try simp only [Act.put, List.setIfInBounds_toArray, List.set_cons_zero, List.set_cons_succ]
    have kn := blk_new V2 122 zeroStr.toArray
    have hb5 := hB.size
    replace hB := hB.alloc hB.size (.cells zeroStr.toArray 122)
    generalize World.alloc V2 _ = V3 at kn hB ⊢
    generalize V2.heap.size = b5 at kn hb5 ⊢
    rotate_left
    rw [if_pos (by rfl)]
    go_simp
    refine hK.out _ _ trivial (fun _ => ?_)
    clear hK K
    try simp only [Act.put, List.setIfInBounds_toArray, List.set_cons_zero, List.set_cons_succ]
    have kn := blk_new V1 122 zeroStr.toArray
    have hb5 := hB.size
    replace hB := hB.alloc hB.size (.cells zeroStr.toArray 122)
    generalize World.alloc V1 _ = V2 at kn hB ⊢
    generalize V1.heap.size = b5 at kn hb5 ⊢
    refine wpAnyH_ready (rs := [0]) (by kernel_rfl) (by simp) ?_
    refine AllReadyH.cons (o := ⟨some 9, .call { callee := .value (.func 71), args := #[], argTypes := #[] }, 122, "hash.go:124", #[], none⟩) rfl (fun K hK => ?_) AllReadyH.nil
    rw [if_pos (by rfl)]
    go_simp
    refine (begin_str _ (hGr.keep hB)).mono ?_
    rintro e V3 ⟨B1, hS1, rfl, hC⟩
    replace kn := kn.keep hC
    replace hB := link hB hC
    clear hC
    dsimp only
    refine hK.out _ _ trivial (fun _ => ?_)
    clear hK K
    try simp only [Act.put, List.setIfInBounds_toArray, List.set_cons_zero, List.set_cons_succ]
    rotate_left
    rw [if_pos (by rfl)]
    go_simp
    refine hK.out _ _ trivial (fun _ => ?_)
    clear hK K
    try simp only [Act.put, List.setIfInBounds_toArray, List.set_cons_zero, List.set_cons_succ]
    have kn := blk_new V1 122 zeroStr.toArray
    have hb5 := hB.size
    replace kb := kb.alloc (.cells zeroStr.toArray 122)
    replace hB := hB.alloc hB.size (.cells zeroStr.toArray 122)
    generalize World.alloc V1 _ = V2 at kn hB kb ⊢
    generalize V1.heap.size = b5 at kn hb5 ⊢
    refine wpAnyH_ready (rs := [0, 4]) (by kernel_rfl) (by simp) ?_
    refine AllReadyH.cons (o := ⟨some 9, .call { callee := .value (.func 71), args := #[], argTypes := #[] }, 122, "hash.go:124", #[], none⟩) rfl (fun K hK => ?_) (AllReadyH.cons (o := ⟨some 13, .convert 39 9 (.tmp 12), 9, "hash.go:124", #[⟨3, .data⟩], none⟩) rfl (fun K hK => ?_) AllReadyH.nil)
    rw [if_pos (by rfl)]
    go_simp
    refine (begin_str _ (hGr.keep hB)).mono ?_
    rintro e V3 ⟨B1, hS1, rfl, hC⟩
    replace kb := kb.keep hC
    replace kn := kn.keep hC
    replace hB := link hB hC
    clear hC
    dsimp only
    refine hK.out _ _ trivial (fun _ => ?_)
    clear hK K
    try simp only [Act.put, List.setIfInBounds_toArray, List.set_cons_zero, List.set_cons_succ]
    refine wpAnyH_ready (rs := [4]) (by kernel_rfl) (by simp) ?_
    refine AllReadyH.cons (o := ⟨some 13, .convert 39 9 (.tmp 12), 9, "hash.go:124", #[⟨3, .data⟩], none⟩) rfl (fun K hK => ?_) AllReadyH.nil
    have kv := hcv _ _ (kc_of kb)
    rw [if_pos (by rfl)]
    go_simp
    clear kv kb
    refine hK.out _ _ trivial (fun _ => ?_)
    clear hK K
    try simp only [Act.put, List.setIfInBounds_toArray, List.set_cons_zero, List.set_cons_succ]
    rotate_left
    have kv := hcv _ _ (kc_of kb)
    rw [if_pos (by rfl)]
    go_simp
    clear kv kb
    refine hK.out _ _ trivial (fun _ => ?_)
    clear hK K
    try simp only [Act.put, List.setIfInBounds_toArray, List.set_cons_zero, List.set_cons_succ]
    refine wpAnyH_ready (rs := [0]) (by kernel_rfl) (by simp) ?_
    refine AllReadyH.cons (o := ⟨some 9, .call { callee := .value (.func 71), args := #[], argTypes := #[] }, 122, "hash.go:124", #[], none⟩) rfl (fun K hK => ?_) AllReadyH.nil
    rw [if_pos (by rfl)]
    go_simp
    refine (begin_str _ (hGr.keep hB)).mono ?_
    rintro e V3 ⟨B1, hS1, rfl, hC⟩
    replace kn := kn.keep hC
    replace hB := link hB hC
    clear hC
    dsimp only
    refine hK.out _ _ trivial (fun _ => ?_)
    clear hK K
    try simp only [Act.put, List.setIfInBounds_toArray, List.set_cons_zero, List.set_cons_succ]
    rotate_left
    rw [if_pos (by rfl)]
    go_simp
    refine hK.out _ _ trivial (fun _ => ?_)
    clear hK K
    try simp only [Act.put, List.setIfInBounds_toArray, List.set_cons_zero, List.set_cons_succ]
    have kn := blk_new V0 122 zeroStr.toArray
    have hb5 := hB.size
    replace hB := hB.alloc hB.size (.cells zeroStr.toArray 122)
    generalize World.alloc V0 _ = V1 at kn hB ⊢
    generalize V0.heap.size = b5 at kn hb5 ⊢
    refine wpAnyH_ready (rs := [0, 3]) (by kernel_rfl) (by simp) ?_
    refine AllReadyH.cons (o := ⟨some 9, .call { callee := .value (.func 71), args := #[], argTypes := #[] }, 122, "hash.go:124", #[], none⟩) rfl (fun K hK => ?_) (AllReadyH.cons (o := ⟨some 12, .buildSlice 39 1 #[(0, .tmp 11)], 39, "hash.go:124", #[⟨2, .data⟩], none⟩) rfl (fun K hK => ?_) AllReadyH.nil)
    rw [if_pos (by rfl)]
    go_simp
    refine (begin_str _ (hGr.keep hB)).mono ?_
    rintro e V2 ⟨B1, hS1, rfl, hC⟩
    replace kn := kn.keep hC
    replace hB := link hB hC
    clear hC
    dsimp only
    refine hK.out _ _ trivial (fun _ => ?_)
    clear hK K
    try simp only [Act.put, List.setIfInBounds_toArray, List.set_cons_zero, List.set_cons_succ]
    refine wpAnyH_ready (rs := [3]) (by kernel_rfl) (by simp) ?_
    refine AllReadyH.cons (o := ⟨some 12, .buildSlice 39 1 #[(0, .tmp 11)], 39, "hash.go:124", #[⟨2, .data⟩], none⟩) rfl (fun K hK => ?_) AllReadyH.nil
    rw [if_pos (by rfl)]
    go_simp
    refine hK.out _ _ trivial (fun _ => ?_)
    clear hK K
    try simp only [Act.put, List.setIfInBounds_toArray, List.set_cons_zero, List.set_cons_succ]
    have kb := blk_new V2 5 #[.int .u8 (T : Int)]
    replace kn := kn.alloc (.cells #[.int .u8 (T : Int)] 5)
    replace hB := hB.alloc hB.size (.cells #[.int .u8 (T : Int)] 5)
    generalize World.alloc V2 _ = V3 at kb hB kn ⊢
    refine wpAnyH_ready (rs := [4]) (by kernel_rfl) (by simp) ?_
    refine AllReadyH.cons (o := ⟨some 13, .convert 39 9 (.tmp 12), 9, "hash.go:124", #[⟨3, .data⟩], none⟩) rfl (fun K hK => ?_) AllReadyH.nil
    have kv := hcv _ _ (kc_of kb)
    rw [if_pos (by rfl)]
    go_simp
    clear kv kb
    refine hK.out _ _ trivial (fun _ => ?_)
    clear hK K
    try simp only [Act.put, List.setIfInBounds_toArray, List.set_cons_zero, List.set_cons_succ]
    rotate_left
    rw [if_pos (by rfl)]
    go_simp
    refine hK.out _ _ trivial (fun _ => ?_)
    clear hK K
    try simp only [Act.put, List.setIfInBounds_toArray, List.set_cons_zero, List.set_cons_succ]
    have kb := blk_new V1 5 #[.int .u8 (T : Int)]
    replace kn := kn.alloc (.cells #[.int .u8 (T : Int)] 5)
    replace hB := hB.alloc hB.size (.cells #[.int .u8 (T : Int)] 5)
    generalize World.alloc V1 _ = V2 at kb hB kn ⊢
    refine wpAnyH_ready (rs := [0, 4]) (by kernel_rfl) (by simp) ?_
    refine AllReadyH.cons (o := ⟨some 9, .call { callee := .value (.func 71), args := #[], argTypes := #[] }, 122, "hash.go:124", #[], none⟩) rfl (fun K hK => ?_) (AllReadyH.cons (o := ⟨some 13, .convert 39 9 (.tmp 12), 9, "hash.go:124", #[⟨3, .data⟩], none⟩) rfl (fun K hK => ?_) AllReadyH.nil)
    rw [if_pos (by rfl)]
    go_simp
    refine (begin_str _ (hGr.keep hB)).mono ?_
    rintro e V3 ⟨B1, hS1, rfl, hC⟩
    replace kb := kb.keep hC
    replace kn := kn.keep hC
    replace hB := link hB hC
    clear hC
    dsimp only
    refine hK.out _ _ trivial (fun _ => ?_)
    clear hK K
    try simp only [Act.put, List.setIfInBounds_toArray, List.set_cons_zero, List.set_cons_succ]
    refine wpAnyH_ready (rs := [4]) (by kernel_rfl) (by simp) ?_
    refine AllReadyH.cons (o := ⟨some 13, .convert 39 9 (.tmp 12), 9, "hash.go:124", #[⟨3, .data⟩], none⟩) rfl (fun K hK => ?_) AllReadyH.nil
    have kv := hcv _ _ (kc_of kb)
    rw [if_pos (by rfl)]
    go_simp
    clear kv kb
    refine hK.out _ _ trivial (fun _ => ?_)
    clear hK K
    try simp only [Act.put, List.setIfInBounds_toArray, List.set_cons_zero, List.set_cons_succ]
    rotate_left
    have kv := hcv _ _ (kc_of kb)
    rw [if_pos (by rfl)]
    go_simp
    clear kv kb
    refine hK.out _ _ trivial (fun _ => ?_)
    clear hK K
    try simp only [Act.put, List.setIfInBounds_toArray, List.set_cons_zero, List.set_cons_succ]
    refine wpAnyH_ready (rs := [0]) (by kernel_rfl) (by simp) ?_
    refine AllReadyH.cons (o := ⟨some 9, .call { callee := .value (.func 71), args := #[], argTypes := #[] }, 122, "hash.go:124", #[], none⟩) rfl (fun K hK => ?_) AllReadyH.nil
    rw [if_pos (by rfl)]
    go_simp
    refine (begin_str _ (hGr.keep hB)).mono ?_
    rintro e V3 ⟨B1, hS1, rfl, hC⟩
    replace kn := kn.keep hC
    replace hB := link hB hC
    clear hC
    dsimp only
    refine hK.out _ _ trivial (fun _ => ?_)
    clear hK K
    try simp only [Act.put, List.setIfInBounds_toArray, List.set_cons_zero, List.set_cons_succ]
    rotate_left
    all_goals
      refine wpAnyH_ready (rs := [5]) (by kernel_rfl) (by simp) ?_
      refine AllReadyH.cons (o := ⟨some 14, .call { callee := .value (.func 72), args := #[.tmp 9, .tmp 13], argTypes := #[122, 9] }, 122, "hash.go:124", #[⟨0, .data⟩, ⟨4, .data⟩, ⟨0, .chain⟩], none⟩) rfl (fun K hK => ?_) AllReadyH.nil
      rw [if_pos (by rfl)]
      go_simp
      refine (HA1.out _ hS1 _ (hGr.keep hB)).mono ?_
      rintro e V4 ⟨B2, hS2, rfl, hC⟩
      replace kn := kn.keep hC
      replace hB := link hB hC
      clear hC
      have hln := strV_length (sth [T]) B2 1 hS2.1.1
      dsimp only
      refine hK.out _ _ trivial (fun _ => ?_)
      clear hK K
      try simp only [Act.put, List.setIfInBounds_toArray, List.set_cons_zero, List.set_cons_succ]
      refine wpAnyH_ready (rs := [7]) (by kernel_rfl) (by simp) ?_
      refine AllReadyH.cons (o := ⟨none, .store 122 (.tmp 5) (.tmp 14), 0, "hash.go:124", #[⟨6, .data⟩, ⟨5, .data⟩, ⟨5, .chain⟩, ⟨0, .phase⟩, ⟨1, .phase⟩, ⟨2, .phase⟩, ⟨3, .phase⟩, ⟨4, .phase⟩, ⟨5, .phase⟩, ⟨6, .phase⟩], none⟩) rfl (fun K hK => ?_) AllReadyH.nil
      have kst := str_run (k := 1) kn hS2
      rw [if_pos (by rfl)]
      go_simp
      clear kst
      refine hK.out _ _ trivial (fun _ => ?_)
      clear hK K
      try simp only [Act.put, List.setIfInBounds_toArray, List.set_cons_zero, List.set_cons_succ]
      refine wpAnyH_done (by kernel_rfl) ?_ _
      have hcut := laid_str (k := 1) kn hS2 rfl hb5 (below_sets hb5 _ _ hB)
      generalize World.setCells _ _ _ _ = wy at hcut ⊢
      clear kn hB hS1 hS2 hb5 hln HA1 hcv hGr hG hr hr0 K0 KB
      go_wp2_with fail
      go_meet
      exact hcut
  case rest =>
    obtain ⟨b, B, rfl, hbw, hS, Kb, CB⟩ := hcut
    clear HA1 hcv
    go_wp2_with fail
    have hr1 := hr0.keep CB
    have hG1 := hGr.keep CB
    go_loopw [17] (fun i wx => ∃ k : Nat, k ≤ ps.length ∧ i = .int .i64 k ∧ OfRel W0 b (ofM T ps k) wx) (fun i _ => ps.length - (intOf i).toNat)
    case atStart => exact ⟨0, by omega, rfl, B, by rw [ofM_zero]; exact hS, by rw [ofM_zero]; exact Kb, CB⟩
    case round =>
      clear Kb CB hS
      obtain ⟨k, hk, rfl, B, hS, Kb, CB⟩ := hrel
      have hr2 := hr0.keep CB
      have hGx := hGr.keep CB
      have hB64 := hS.1.1
      by_cases hlt : k < ps.length
      · obtain ⟨ad, e, hbl, hcell⟩ := hr2 k (.string ps[k]) (by simp [strsV, List.getElem?_eq_getElem hlt])
        subst e
        have hx := ht ps[k] (List.getElem_mem hlt)
        have hps := ofM_step T ps k hlt
        have hml := ofM_len T ps ht k hk
        generalize ps[k] = x at hcell hx hps
        have hdl := encS_le x hx
        have hdb := encS_byte x hx
        have HBy := Lib.hid (fun w1 => bytes_any x (by omega) w1)
        generalize encS (sb x) = d at *
        generalize ofM T ps k = m at *
        have hMl : m.length + d.length ≤ 1152921504606846975 := by omega
        generalize hMe : ofM T ps (k + 1) = M at *
        have HME := Lib.hid hMe
        clear hMe
        have HA := Lib.hid (fun (B : List Nat) (hS : Stm m B) (w1 : World) (hG : Glob w1) => add_more hps hdb hMl B hS w1 hG)
        have hrg : ∀ w', Below wr.heap.size wr w' → w'.rangeAt b 0 (strV (sth m) B m.length) := fun w' h => rng_str (Kb.keep h)
        have hi73 := info_str (m := m) (k := m.length) hB64
        clear hps hml hMl
        go_upto_region 5 with (fail)
        have hst := fun (B2 : List Nat) (hS2 : Stm M B2) (w' : World) (h : Below wr.heap.size wr w') => str_store (m := M) (k := M.length) (Kb.keep h) (strV_length _ _ _ hB64) hS2.1.1
        have Hst := Lib.hid hst
        clear hst
        have hconv := Lib.hid (fun (g cap : Nat) (w1 w2 : World) (hO : Own w1 w2 (.slice (some ⟨g, 0, none⟩) d.length cap) d) (w' : World) (h : Below w2.heap.size w2 w') => conv_any (some ⟨g, 0, none⟩) d d.length cap w' rfl ((hO.has hdb).keep h))
        have hHeld : Below wr.heap.size wr wr.drew := below_drew (Below.refl _ _)
        refine wp_region_held_drew (S := fun _ => True) (by kernel_rfl) trivial (fun _ => ?_)
        refine wpAnyH_take (i := 1) (oi := ⟨some 22, .move (.tmp 7), 9, "hash.go:126", #[], none⟩) (v := .string x) rfl (by kernel_rfl) (by kernel_rfl) (by kernel_rfl) (fun _ _ _ h => h) (Or.inl ⟨by rfl, fun w' _ => by go_simp⟩) trivial ?_
        try simp only [Act.put, List.setIfInBounds_toArray, List.set_cons_zero, List.set_cons_succ]
        refine wpAnyH_ready (rs := [0, 2]) (by kernel_rfl) (by simp) ?_
        refine AllReadyH.cons (o := ⟨some 21, .load 122 (.tmp 5), 122, "hash.go:126", #[], none⟩) rfl (fun K hK => ?_) (AllReadyH.cons (o := ⟨some 23, .call { callee := .value (.func 73), args := #[.tmp 22], argTypes := #[9] }, 39, "hash.go:126", #[⟨1, .data⟩], none⟩) rfl (fun K hK => ?_) AllReadyH.nil)
        rw [if_pos (by rfl)]
        refine wp_load_mid _ _ rfl b 0 rfl _ _ (hrg _ (by assumption)) Tryd.underlying122 rfl hi73 ?_
        try simp only [Act.put, List.setIfInBounds_toArray, List.set_cons_zero, List.set_cons_succ]
        refine hK.out _ _ trivial (fun _ => ?_)
        clear hK K
        try simp only [Act.put, List.setIfInBounds_toArray, List.set_cons_zero, List.set_cons_succ]
        refine wpAnyH_ready (rs := [2]) (by kernel_rfl) (by simp) ?_
        refine AllReadyH.cons (o := ⟨some 23, .call { callee := .value (.func 73), args := #[.tmp 22], argTypes := #[9] }, 39, "hash.go:126", #[⟨1, .data⟩], none⟩) rfl (fun K hK => ?_) AllReadyH.nil
        go_simp
        refine (HBy.out _).mono ?_
        rintro e w1 ⟨g, cap, rfl, hO1⟩
        have hB1 := link hHeld hO1.below
        have hcv := hconv.out g cap _ _ hO1 _ (Below.refl _ _)
        go_wp2_with fail
        refine hK.out _ _ trivial (fun _ => ?_)
        clear hK K
        try simp only [Act.put, List.setIfInBounds_toArray, List.set_cons_zero, List.set_cons_succ]
        refine wpAnyH_ready (rs := [3]) (by kernel_rfl) (by simp) ?_
        refine AllReadyH.cons (o := ⟨some 24, .convert 39 9 (.tmp 23), 9, "hash.go:126", #[⟨2, .data⟩], none⟩) rfl (fun K hK => ?_) AllReadyH.nil
        go_simp
        refine hK.out _ _ trivial (fun _ => ?_)
        clear hK K
        try simp only [Act.put, List.setIfInBounds_toArray, List.set_cons_zero, List.set_cons_succ]
        rotate_left
        go_simp
        refine (HBy.out _).mono ?_
        rintro e w1 ⟨g, cap, rfl, hO1⟩
        have hB1 := link hHeld hO1.below
        have hcv := hconv.out g cap _ _ hO1 _ (Below.refl _ _)
        go_wp2_with fail
        refine hK.out _ _ trivial (fun _ => ?_)
        clear hK K
        try simp only [Act.put, List.setIfInBounds_toArray, List.set_cons_zero, List.set_cons_succ]
        refine wpAnyH_ready (rs := [0, 3]) (by kernel_rfl) (by simp) ?_
        refine AllReadyH.cons (o := ⟨some 21, .load 122 (.tmp 5), 122, "hash.go:126", #[], none⟩) rfl (fun K hK => ?_) (AllReadyH.cons (o := ⟨some 24, .convert 39 9 (.tmp 23), 9, "hash.go:126", #[⟨2, .data⟩], none⟩) rfl (fun K hK => ?_) AllReadyH.nil)
        rw [if_pos (by rfl)]
        refine wp_load_mid _ _ rfl b 0 rfl _ _ (hrg _ (by assumption)) Tryd.underlying122 rfl hi73 ?_
        try simp only [Act.put, List.setIfInBounds_toArray, List.set_cons_zero, List.set_cons_succ]
        refine hK.out _ _ trivial (fun _ => ?_)
        clear hK K
        try simp only [Act.put, List.setIfInBounds_toArray, List.set_cons_zero, List.set_cons_succ]
        refine wpAnyH_ready (rs := [3]) (by kernel_rfl) (by simp) ?_
        refine AllReadyH.cons (o := ⟨some 24, .convert 39 9 (.tmp 23), 9, "hash.go:126", #[⟨2, .data⟩], none⟩) rfl (fun K hK => ?_) AllReadyH.nil
        go_simp
        refine hK.out _ _ trivial (fun _ => ?_)
        clear hK K
        try simp only [Act.put, List.setIfInBounds_toArray, List.set_cons_zero, List.set_cons_succ]
        rotate_left
        go_simp
        refine hK.out _ _ trivial (fun _ => ?_)
        clear hK K
        try simp only [Act.put, List.setIfInBounds_toArray, List.set_cons_zero, List.set_cons_succ]
        refine wpAnyH_ready (rs := [0]) (by kernel_rfl) (by simp) ?_
        refine AllReadyH.cons (o := ⟨some 21, .load 122 (.tmp 5), 122, "hash.go:126", #[], none⟩) rfl (fun K hK => ?_) AllReadyH.nil
        rw [if_pos (by rfl)]
        refine wp_load_mid _ _ rfl b 0 rfl _ _ (hrg _ (by assumption)) Tryd.underlying122 rfl hi73 ?_
        try simp only [Act.put, List.setIfInBounds_toArray, List.set_cons_zero, List.set_cons_succ]
        refine hK.out _ _ trivial (fun _ => ?_)
        clear hK K
        try simp only [Act.put, List.setIfInBounds_toArray, List.set_cons_zero, List.set_cons_succ]
        all_goals
          refine wpAnyH_ready (rs := [4]) (by kernel_rfl) (by simp) ?_
          refine AllReadyH.cons (o := ⟨some 25, .call { callee := .value (.func 72), args := #[.tmp 21, .tmp 24], argTypes := #[122, 9] }, 122, "hash.go:126", #[⟨0, .data⟩, ⟨3, .data⟩, ⟨2, .chain⟩], none⟩) rfl (fun K hK => ?_) AllReadyH.nil
          go_simp
          refine (HA.out _ hS _ (hGx.keep hB1)).mono ?_
          rintro e w2 ⟨B2, hS2, rfl, hB2⟩
          have hB3 := link hB1 hB2
          have hSt := Hst.out B2 hS2 _ hB3
          have hst1 := hSt.1
          have hln := strV_length (sth M) B2 M.length hS2.1.1
          go_wp2_with fail
          refine hK.out _ _ trivial (fun _ => ?_)
          clear hK K
          try simp only [Act.put, List.setIfInBounds_toArray, List.set_cons_zero, List.set_cons_succ]
          refine wpAnyH_ready (rs := [5]) (by kernel_rfl) (by simp) ?_
          refine AllReadyH.cons (o := ⟨none, .store 122 (.tmp 5) (.tmp 25), 0, "hash.go:126", #[⟨4, .data⟩, ⟨4, .chain⟩, ⟨0, .phase⟩, ⟨1, .phase⟩, ⟨2, .phase⟩, ⟨3, .phase⟩, ⟨4, .phase⟩], none⟩) rfl (fun K hK => ?_) AllReadyH.nil
          go_simp
          refine hK.out _ _ trivial (fun _ => ?_)
          clear hK K
          try simp only [Act.put, List.setIfInBounds_toArray, List.set_cons_zero, List.set_cons_succ]
          refine wpAnyH_done (by kernel_rfl) ?_ _
          have hrel1 : OfRel W0 b M _ := ⟨B2, hS2, hSt.2, (only_sets b 0 w2 _).2.2 _ _ hbw (chain CB CB.size hB3)⟩
          generalize World.setCells _ _ _ _ = wy at hrel1 ⊢
          go_wp2
          go_roundw
          case rel => exact ⟨k + 1, by omega, by go_num, by rw [HME.out]; exact hrel1⟩
          case measure => simp [intOf]; omega
      · obtain rfl : ps.length = k := by omega
        rw [ofM_all] at hS Kb
        have hml := ofM_len T ps ht _ hk
        rw [ofM_all] at hml
        obtain ⟨m, hm⟩ : ∃ m, ofIn T (sbs ps) = m := ⟨_, rfl⟩
        rw [hm] at hS Kb hml
        have HMm := Lib.hid hm
        obtain ⟨D, hD⟩ : ∃ D, sha m = D := ⟨_, rfl⟩
        have HD := Lib.hid hD
        have hDl : D.length = 32 := by rw [← hD, sha_length]
        have HA := Lib.hid (fun (B : List Nat) (hS : Stm m B) (w1 : World) (hG : Glob w1) => sum_at hD B hS (by omega) w1 hG)
        have hrg : ∀ w', Below wr.heap.size wr w' → w'.rangeAt b 0 (strV (sth m) B m.length) := fun w' h => rng_str (Kb.keep h)
        have hi73 := info_str (m := m) (k := m.length) hB64
        clear hD hm
        have hln := strV_length (sth m) B m.length hB64
        have hDv : (bytesV D).length = 32 := by rw [bytesV_length]; exact hDl
        have hzv : (bytesV z32).toArray.toList.length = 32 := by rw [List.toList_toArray, bytesV_length]; rfl
        go_upto_region 8 with (first
          | (refine load_struct rfl 122 (.tmp 5) rfl Kb rfl Tryd.underlying122 (m := 73) (by kernel_rfl) hln ?_)
          | (go_at_call 74; refine (HA.out B hS _ hGx).mono ?_; rintro e w1 ⟨rfl, hB1⟩)
          | (refine store_blk rfl 114 (.tmp 8) (.tmp 28) rfl (blk_new w1 114 (bytesV z32).toArray) rfl rfl (m := 32) (by kernel_rfl) hDv hzv (bytesV_cells D) ?_; intro w8 K8 hO8))
        have L0 : Blk w1 w.heap.size 29 (bytesV z16) := (K0.keep CB).keep hB1
        have z1 := L0.lt
        have z2 : w.heap.size ≤ w1.heap.size := Nat.le_of_lt z1
        have L8 := hO8.2.1 w.heap.size _ _ (by omega) (L0.alloc (.cells (bytesV z32).toArray 114))
        have B1 := chain (chain KB KB.size CB) (Nat.le_trans KB.size CB.size) hB1
        have B8 := hO8.2.2 _ _ z2 (B1.alloc z2 (.cells (bytesV z32).toArray 114))
        clear hO8 B1 z1 z2 L0 hB1 CB KB K0 Kb hS hrg
        have hsl := slice_16
        have hap := array_16
        have hp16 : ((bytesV D).drop 0).take 16 = bytesV (D.take 16) := by simp [bytesV]
        have hl16 : (bytesV (D.take 16)).length = 16 := by rw [bytesV_length, List.length_take]; omega
        have hz16 : (bytesV z16).length = 16 := by rw [bytesV_length]; rfl
        go_wp2_with (first
          | (refine load_part rfl 29 (.tmp 30) rfl K8 rfl Tryd.underlying29 (m := 16) (by kernel_rfl) hp16 hl16 ?_)
          | (refine store_blk rfl 29 (.tmp 4) (.tmp 31) rfl L8 rfl rfl (m := 16) (by kernel_rfl) hl16 hz16 (bytesV_cells _) ?_; intro w9 K9 hO9))
        exact bodyPost_ret (v := .agg (bytesV (D.take 16)).toArray) (K9.result (p := 4) (ty := 29) rfl _ rfl Tryd.underlying29 (by rw [hl16]; kernel_rfl)) rfl ⟨by rw [HMm.out, HD.out], hO9.2.2 _ _ (Nat.le_refl _) B8⟩

end Go.Proofs.YtfhfmdnimebegaaDoor
