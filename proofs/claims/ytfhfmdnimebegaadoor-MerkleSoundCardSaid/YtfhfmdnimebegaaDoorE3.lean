/-
  Leaves, rows and roots of the package merkle. Conditions: as each theorem states them; no axiom beyond propext, Classical.choice, Quot.sound.
-/
import Derived.Test.YtfhfmdnimebegaaDoorEw
import Derived.Test.YtfhfmdnimebegaaDoorE0
import Derived.Lib.BitFns
import Derived.Lib.Strings
import Derived.Lib.Small
import Derived.Lib.Tables
import Derived.Test.YtfhfmdnimebegaaDoorE1
import Derived.Test.YtfhfmdnimebegaaDoorE2
import Derived.Deep.RegionHeld
import Derived.WalkLawsBesides
import Derived.Deep.Cut
import Derived.Lib.SliceRun
import Derived.Laws.AppendOwn

/-
  merkle.middle, with bits.Len and bits.Len64 below it; half: the greatest power of two that is less than n.
-/
namespace Go.Proofs.YtfhfmdnimebegaaDoor
open Go.RowKit
set_option linter.unusedVariables false
set_option linter.unusedSimpArgs false

/-- The greatest power of two that is less than n (n at least 2). -/
def half (n : Nat) : Nat := 2 ^ (n - 1).log2
theorem half_pos (n : Nat) : 1 ≤ half n := Nat.two_pow_pos _
theorem half_lt (n : Nat) (h : 2 ≤ n) : half n < n := by
  have := Nat.log2_self_le (n := n - 1) (by omega)
  unfold half
  omega
theorem half_ge (n : Nat) (h : 2 ≤ n) : n ≤ 2 * half n := by
  have := Nat.lt_log2_self (n := n - 1)
  unfold half
  rw [Nat.pow_succ] at this
  omega
theorem bitLen_zero : Lib.bitLen 0 = 0 := by decide
theorem bitLen_log2 : ∀ (k x : Nat), 1 ≤ x → x < 2 ^ k → k ≤ 64 → Lib.bitLen x = x.log2 + 1
  | 0, x, h1, h2, _ => by omega
  | k + 1, x, h1, h2, hk => by
    have hx : x < 2 ^ 64 := Nat.lt_of_lt_of_le h2 (Nat.pow_le_pow_right (by omega) hk)
    rw [Lib.bitLen_half x (by omega) hx, Nat.log2_def]
    by_cases h : 2 ≤ x
    · rw [if_pos h, bitLen_log2 k (x / 2) (by omega) (by rw [Nat.pow_succ] at h2; omega) (by omega)]
      omega
    · obtain rfl : x = 1 := by omega
      rw [if_neg h]
      rw [show 1 / 2 = 0 from rfl, bitLen_zero]
theorem half_bits (n : Nat) (h : 2 ≤ n) (hn : n ≤ 65536) : half n = 2 ^ (Lib.bitLen (n - 1) - 1) ∧ 1 ≤ Lib.bitLen (n - 1) ∧ Lib.bitLen (n - 1) ≤ 16 := by
  have e := bitLen_log2 16 (n - 1) (by omega) (by omega) (by omega)
  have l := Lib.bitLen_le (n - 1) 16 (by omega) (by omega)
  refine ⟨?_, by omega, l⟩
  rw [e]
  rfl

theorem wr_small (q : Nat) (h : q ≤ 16) : wrap64 (q : Int) = (q : Int) := by unfold wrap64; omega
theorem wr_eight (q r : Nat) (h : q ≤ 16) (e : r = 8 + q) : wrap64 (8 + (q : Int)) = (r : Int) := by unfold wrap64; omega
theorem tab_at (i : Nat) (h : i < Lib.len8tab.size) : (Lib.len8tab[i]'h).toNat = Lib.bitLen i ∧ Lib.bitLen i ≤ 8 := by
  have hz := Lib.len8tab_size
  have e := Lib.len8_of (i : Int) (by omega) (by omega)
  have l := Lib.bitLen_le8 ⟨i, by omega⟩
  unfold Lib.len8 at e
  rw [show ((i : Int)).toNat = i from rfl, ByteArray.getElem?_lt' _ _ h, Option.getD_some] at e
  exact ⟨by omega, l⟩

set_option maxHeartbeats 4000000 in
set_option maxRecDepth 100000 in
theorem len64_any (x : Int) (h0 : 0 ≤ x) (h1 : x < 65536) (w : World) :
    Calls Tryd.prog 82 #[.int .u64 x] w fun e w' => e = .returned (.int .i64 (Lib.bitLen x.toNat)) ∧ w' = w := by
  go_enter Tryd.func82, Tryd.ntmps82
  generalize htab : ByteArray.mk (List.toArray _) = T
  obtain rfl : T = Lib.len8tab := by rw [← htab]; decide +kernel
  clear htab
  have hz := Lib.hid Lib.len8tab_size
  by_cases hc : x < 256
  · go_wp2
    · obtain ⟨t1, t2⟩ := tab_at x.toNat (by have := hz.out; omega)
      rw [t1]
      have e1 := wr_small _ (Nat.le_trans t2 (by decide))
      rw [e1, e1]
      go_ret
      exact ⟨rfl, rfl⟩
    all_goals (exfalso; have := hz.out; omega)
  · go_wp2
    · obtain ⟨t1, t2⟩ := tab_at (x / 256).toNat (by have := hz.out; omega)
      have s := Lib.bitLen_shift8 x.toNat (by omega) (by omega)
      have e0 : (x / 256).toNat = x.toNat / 256 := by omega
      rw [t1, e0]
      rw [e0] at t2
      have e1 := wr_small _ (Nat.le_trans t2 (by decide))
      have e2 := wr_eight _ _ (Nat.le_trans t2 (by decide)) s
      rw [e1, e2]
      go_ret
      exact ⟨rfl, rfl⟩
    all_goals (exfalso; have := hz.out; omega)

set_option maxHeartbeats 4000000 in
theorem len_any (x : Int) (h0 : 0 ≤ x) (h1 : x < 65536) (w : World) :
    Calls Tryd.prog 75 #[.int .u64 x] w fun e w' => e = .returned (.int .i64 (Lib.bitLen x.toNat)) ∧ w' = w := by
  go_enter Tryd.func75, Tryd.ntmps75
  go_wp2_with (go_at_call 82; refine (len64_any x h0 h1 _).mono ?_; rintro e w' ⟨rfl, rfl⟩)
  go_ret
  exact ⟨rfl, rfl⟩

set_option maxHeartbeats 4000000 in
theorem middle_any (a b : Int) (n : Nat) (ha : 0 ≤ a) (hb : b ≤ 4096) (hab : b - a = n) (hn : 2 ≤ n) (w : World) :
    Calls Tryd.prog 58 #[.int .i64 a, .int .i64 b] w fun e w' => e = .returned (.int .i64 (a + half n)) ∧ w' = w := by
  have hlt := half_lt n hn
  have hnn : n ≤ 4096 := by omega
  obtain ⟨h1, h2, h3⟩ := half_bits n hn (by omega)
  have en : ((n : Int) - 1).toNat = n - 1 := by omega
  have H := Lib.hid h1
  clear h1
  generalize half n = m at hlt H ⊢
  go_enter Tryd.func58, Tryd.ntmps58
  go_wp2_with (go_at_call 75; refine (len_any _ (by omega) (by omega) _).mono ?_; rintro e w' ⟨rfl, rfl⟩; rw [en]; generalize Lib.bitLen (n - 1) = q at h2 h3 H ⊢)
  have e : ((2 : Int) ^ (q - 1)) = (m : Int) := by rw [H.out]; simp
  rw [e]
  have w1 : wrap64 (m : Int) = (m : Int) := by unfold wrap64; omega
  have w2 : wrap64 (a + (m : Int)) = a + (m : Int) := by unfold wrap64; omega
  rw [w1, w2]
  go_ret
  exact ⟨rfl, rfl⟩

end Go.Proofs.YtfhfmdnimebegaaDoor

/-
  passimref04.half: the greatest power of two that is less than n.
-/
namespace Go.Proofs.YtfhfmdnimebegaaDoor
open Go.RowKit
set_option linter.unusedVariables false
set_option linter.unusedSimpArgs false

def Pow (m : Nat) : Prop := ∃ j, m = 2 ^ j
theorem half_of {n m : Nat} (h : Pow m) (h1 : m < n) (h2 : n ≤ m * 2) : half n = m := by
  obtain ⟨j, rfl⟩ := h
  have hp := Nat.two_pow_pos j
  unfold half
  have e : (n - 1).log2 = j := (Nat.log2_eq_iff (by omega)).2 ⟨by omega, by rw [Nat.pow_succ]; omega⟩
  rw [e]
theorem Pow.twice {m : Nat} (h : Pow m) : Pow (m * 2) := by
  obtain ⟨j, rfl⟩ := h
  exact ⟨j + 1, by rw [Nat.pow_succ]⟩

set_option maxHeartbeats 1000000 in
set_option maxRecDepth 100000 in
theorem rhalf_any (n : Nat) (h2 : 2 ≤ n) (hn : n ≤ 1000000) (w : World) :
    Calls Tryd.prog 76 #[.int .i64 (n : Int)] w fun e w' => e = .returned (.int .i64 ((half n : Nat) : Int)) ∧ w' = w := by
  have H := Lib.hid (fun m (a : Pow m) (b : m < n) (c : n ≤ m * 2) => half_of a b c)
  generalize half n = q at H ⊢
  go_enter Tryd.func76, Tryd.ntmps76
  go_wp2
  go_loopw [3] (fun v wr => ∃ m : Nat, v = .int .i64 (m : Int) ∧ Pow m ∧ 1 ≤ m ∧ m < n ∧ wr = w) (fun v _ => n - (intOf v).toNat)
  case atStart => exact ⟨1, rfl, ⟨0, rfl⟩, by omega, by omega, rfl⟩
  case round =>
    obtain ⟨m, rfl, hP, h1, hlt, rfl⟩ := hrel
    by_cases hd : m * 2 < n
    · have hP2 := hP.twice
      clear hP
      go_wp2
      go_roundw
      case rel => exact ⟨m * 2, by go_num, hP2, by omega, hd, trivial⟩
      case measure => simp [intOf]; omega
    · have e := H.out m hP hlt (by omega)
      clear hP
      go_wp2
      go_ret
      exact ⟨by rw [e]; rfl, rfl⟩

end Go.Proofs.YtfhfmdnimebegaaDoor

/-
  sign.leaf and sign.join: the nodes of the tree.
-/
namespace Go.Proofs.YtfhfmdnimebegaaDoor
open Go.RowKit
set_option linter.unusedVariables false
set_option linter.unusedSimpArgs false

/-- The digest of parts, as the package hash makes it. -/
def ofS (T : Nat) (ps : List (List Nat)) : List Nat := (sha (ofIn T ps)).take 16
theorem ofS_length (T : Nat) (ps : List (List Nat)) : (ofS T ps).length = 16 := by unfold ofS; rw [List.length_take, sha_length]; rfl
theorem ofS_byte (T : Nat) (ps : List (List Nat)) : ∀ y ∈ ofS T ps, y < 256 := fun y hy => sha_byte _ y (List.mem_of_mem_take hy)
def leafM (tops : List Nat) : List Nat := ofS 3 [ofS 2 [tops]]
def joinM (a b : List Nat) : List Nat := ofS 4 [a, b]
theorem has_blk {w : World} {b : Nat} {t : TypeId} {D : List Nat} (h : Blk w b t (bytesV D)) (hb : ∀ y ∈ D, y < 256) : Has w (some ⟨b, 0, none⟩) D := by
  have := has_of_blk (l := D) h (by rw [List.take_of_length_le (by rw [bytesV_length]; omega)]) hb 0 D.length
  rwa [List.drop_zero, List.take_length] at this
theorem conv_dig {w : World} {b : Nat} {t : TypeId} {D : List Nat} (h : Blk w b t (bytesV D)) (hl : D.length = 16) (hb : ∀ y ∈ D, y < 256) : (convert 39 9 (.slice (some ⟨b, 0, none⟩) 16 16)).run Tryd.prog w = .ok (.string (strOf D)) w :=
  conv_any (some ⟨b, 0, none⟩) D 16 16 w hl.symm (has_blk h hb)
theorem slice_dig (w : World) (b : Nat) : (Instr.sliceAt 29 (.pointer (some ⟨b, 0, none⟩)) none none none).run Tryd.prog w = .ok (.slice (some ⟨b, 0, none⟩) 16 16) w := by
  have hL : Tryd.prog.arrayLen 29 = 16 := by kernel_rfl
  have hE : Tryd.prog.elem 29 = 5 := by kernel_rfl
  have ht : Tryd.prog.underlying 29 = some (.array (Tryd.prog.arrayLen 29) (Tryd.prog.elem 29)) := by rw [hL, hE]; exact Tryd.underlying29
  rw [run_sliceAt_array_all w _ _ ht, hE, size_u8, hL]
  simp [Result.andThen_ok, slicedAt, Addr.add_mid]
/-- hash.Of at a list of strings that was just laid. -/
theorem of_lit (T : Nat) (hT : T < 256) (xs : List ByteArray) (hl : xs.length ≤ 1024) (ht : ∀ s ∈ xs, s.size ≤ 1048576) (C : Array Value) (hC : C = (strsV xs).toArray) (n : Nat) (hn : n = xs.length) (w : World) (hG : Glob w) :
    Calls Tryd.prog 57 #[.int .i64 (T : Int), .slice (some ⟨w.heap.size, 0, none⟩) n n] (w.alloc (.cells C 9)) fun e w' => e = .returned (.agg (bytesV (ofS T (sbs xs))).toArray) ∧ Below w.heap.size w w' := by
  subst hC; subst hn
  have hB : Below w.heap.size w (w.alloc (.cells (strsV xs).toArray 9)) := (Below.refl _ _).alloc (Nat.le_refl _) _
  refine (of_any (T : Int) T hT ?_ (some ⟨w.heap.size, 0, none⟩) xs xs.length xs.length _ rfl (by omega) ht (cells_lit w (strsV xs).toArray 9) (hG.keep hB)).mono ?_
  · simp [IntKind.wrap, IntKind.signed, IntKind.bits]
    omega
  · rintro e w' ⟨rfl, h⟩
    exact ⟨rfl, hB.trans (h.mono hB.size)⟩

end Go.Proofs.YtfhfmdnimebegaaDoor

/-
  Plain mathematics: the tree of digests over leaves (layer 4).
-/
namespace Go.Proofs.YtfhfmdnimebegaaDoor
set_option linter.unusedVariables false
set_option linter.unusedSimpArgs false

abbrev Lf := ByteArray × ByteArray
def leafD (x : Lf) : List Nat := ofS 3 [sb x.1, sb x.2]
/-- The digest of a row of leaves; f bounds the calls still to come. -/
def rowF : Nat → List Lf → List Nat
  | 0, _ => []
  | f + 1, l => match l with
    | [] => []
    | [x] => leafD x
    | x :: y :: r => joinM (rowF f ((x :: y :: r).take (half (r.length + 2)))) (rowF f ((x :: y :: r).drop (half (r.length + 2))))
theorem rowF_big (f : Nat) (l : List Lf) (h : 2 ≤ l.length) : rowF (f + 1) l = joinM (rowF f (l.take (half l.length))) (rowF f (l.drop (half l.length))) := by
  match l, h with
  | x :: y :: r, _ => rfl
theorem rowF_enough : ∀ (f g : Nat) (l : List Lf), l.length ≤ f → l.length ≤ g → rowF f l = rowF g l
  | 0, 0, l, _, _ => rfl
  | 0, g + 1, l, h, _ => by
    obtain rfl : l = [] := List.eq_nil_of_length_eq_zero (by omega)
    rfl
  | f + 1, 0, l, _, h => by
    obtain rfl : l = [] := List.eq_nil_of_length_eq_zero (by omega)
    rfl
  | f + 1, g + 1, l, hf, hg => by
    match l, hf, hg with
    | [], _, _ => rfl
    | [x], _, _ => rfl
    | x :: y :: r, hf, hg =>
      have h1 := half_lt (x :: y :: r).length (by simp)
      have h2 := half_pos (x :: y :: r).length
      rw [rowF_big f _ (by simp), rowF_big g _ (by simp)]
      rw [rowF_enough f g _ (by rw [List.length_take]; omega) (by rw [List.length_take]; omega), rowF_enough f g _ (by rw [List.length_drop]; omega) (by rw [List.length_drop]; omega)]
def rowM (l : List Lf) : List Nat := rowF l.length l
theorem rowM_one (x : Lf) : rowM [x] = leafD x := rfl
theorem rowM_big (l : List Lf) (h : 2 ≤ l.length) : rowM l = joinM (rowM (l.take (half l.length))) (rowM (l.drop (half l.length))) := by
  have h1 := half_lt l.length h
  have h2 := half_pos l.length
  obtain ⟨f, hf⟩ : ∃ f, l.length = f + 1 := ⟨l.length - 1, by omega⟩
  unfold rowM
  conv => lhs; rw [hf]
  rw [rowF_big f l h]
  rw [rowF_enough f (l.take (half l.length)).length _ (by rw [List.length_take]; omega) (Nat.le_refl _), rowF_enough f (l.drop (half l.length)).length _ (by rw [List.length_drop]; omega) (Nat.le_refl _)]
theorem rowM_dgt : ∀ (n : Nat) (l : List Lf), l.length ≤ n → 1 ≤ l.length → (rowM l).length = 16 ∧ ∀ y ∈ rowM l, y < 256
  | 0, l, h, h1 => by omega
  | n + 1, l, h, h1 => by
    rcases Nat.lt_or_ge l.length 2 with h2 | h2
    · obtain ⟨x, rfl⟩ : ∃ x, l = [x] := List.length_eq_one_iff.1 (by omega)
      exact ⟨ofS_length _ _, ofS_byte _ _⟩
    · rw [rowM_big l h2]
      exact ⟨ofS_length _ _, ofS_byte _ _⟩
/-- The root for a number of leaves and the digest of all. -/
def topM (n : Nat) (all : List Nat) (e0 en : List Nat) : List Nat := if n = 0 then ofS 4 [e0] else ofS 4 [en, all]
end Go.Proofs.YtfhfmdnimebegaaDoor

/-
  merkle.join.
-/
namespace Go.Proofs.YtfhfmdnimebegaaDoor
open Go.RowKit
set_option linter.unusedVariables false
set_option linter.unusedSimpArgs false

def Dgt (d : List Nat) : Prop := d.length = 16 ∧ ∀ y ∈ d, y < 256
theorem dig_ofS (T : Nat) (ps : List (List Nat)) : Dgt (ofS T ps) := ⟨ofS_length T ps, ofS_byte T ps⟩
theorem two_size {l m : List Nat} (hl : l.length ≤ 100) (hm : m.length = 16) : ∀ s ∈ [strOf l, strOf m], s.size ≤ 1048576 := by
  intro s hs
  simp only [List.mem_cons, List.mem_nil_iff, or_false] at hs
  rcases hs with rfl | rfl
  · rw [strOf_size]; omega
  · rw [strOf_size]; omega
theorem two_sbs {l m : List Nat} (hl : ∀ y ∈ l, y < 256) (hm : ∀ y ∈ m, y < 256) : sbs [strOf l, strOf m] = [l, m] := by
  simp [sbs, sb_strOf l hl, sb_strOf m hm]

theorem two_dig {l m : List Nat} (hl : l.length = 16) (hm : m.length = 16) : ∀ s ∈ [strOf l, strOf m], s.size ≤ 1048576 := two_size (by omega) hm

set_option maxHeartbeats 2000000 in
set_option maxRecDepth 100000 in
theorem mjoin_any (x y : List Nat) (hx : Dgt x) (hy : Dgt y) (w : World) (hG : Glob w) :
    Calls Tryd.prog 59 #[.agg (bytesV x).toArray, .agg (bytesV y).toArray] w fun e w' => e = .returned (.agg (bytesV (joinM x y)).toArray) ∧ Below w.heap.size w w' := by
  have hz1 := zero_dig'
  obtain ⟨M, hM⟩ : ∃ M, joinM x y = M := ⟨_, rfl⟩
  have hMd : Dgt M := by rw [← hM]; exact dig_ofS _ _
  have HM := Lib.hid hM
  clear hM
  go_enter Tryd.func59, Tryd.ntmps59
  go_upto_region 1 with (fail)
  generalize hw0 : World.alloc _ _ = W0
  have K2 : Blk W0 w.heap.size 29 (bytesV x) := hw0 ▸ (((blk_new w _ _).alloc _).alloc _)
  have K3 : Blk W0 (w.heap.size + 1) 29 (bytesV y) := hw0 ▸ ((blk_new1 w _ _ _).alloc _)
  have K4 : Blk W0 (w.heap.size + 1 + 1) 29 (bytesV z16) := hw0 ▸ blk_new2 w _ _ _ _
  have KB : Below w.heap.size w W0 := hw0 ▸ ((((Below.refl _ _).alloc (Nat.le_refl _) _).alloc (by simp) _).alloc (by simp; omega) _)
  clear hw0 hz1
  have hsl := slice_dig
  have hHeld : True := trivial
  refine wp_region_held_drew (S := fun _ => True) (by kernel_rfl) trivial (fun _ => ?_)
  have L2 : Blk W0.drew w.heap.size 29 (bytesV x) := K2
  have L3 : Blk W0.drew (w.heap.size + 1) 29 (bytesV y) := K3
  have L4 : Blk W0.drew (w.heap.size + 1 + 1) 29 (bytesV z16) := K4
  have CB : Below w.heap.size w W0.drew := below_drew KB
  have hB : Below W0.drew.heap.size W0.drew W0.drew := Below.refl _ _
  clear K2 K3 K4 KB
  generalize W0.drew = V0 at hB L2 L3 L4 CB ⊢
  refine wt (i := 0) (oi := ⟨some 5, .slice 29 (.tmp 2) none none none, 39, "merkle.go:52", #[], none⟩) (v := .slice (some ⟨w.heap.size, 0, none⟩) 16 16) (Or.inl ⟨by rfl, fun w' hSw => by go_simp⟩) hHeld ?_
  try simp only [zP, zQ, zS, zZ, zC]
  refine wt (i := 2) (oi := ⟨some 7, .slice 29 (.tmp 3) none none none, 39, "merkle.go:52", #[], none⟩) (v := .slice (some ⟨w.heap.size + 1, 0, none⟩) 16 16) (Or.inl ⟨by rfl, fun w' hSw => by go_simp⟩) hHeld ?_
  try simp only [zP, zQ, zS, zZ, zC]
  refine wpAnyH_ready (rs := [1, 3]) (by kernel_rfl) (by simp) ?_
  refine AllReadyH.cons (o := ⟨some 6, .convert 39 9 (.tmp 5), 9, "merkle.go:52", #[⟨0, .data⟩], none⟩) rfl (fun K hK => ?_) (AllReadyH.cons (o := ⟨some 8, .convert 39 9 (.tmp 7), 9, "merkle.go:52", #[⟨2, .data⟩], none⟩) rfl (fun K hK => ?_) AllReadyH.nil)
  rw [if_pos (by rfl)]
  have kv := conv_dig L2 hx.1 hx.2
  go_simp
  clear kv
  refine hK.out _ _ trivial (fun _ => ?_)
  clear hK K
  try simp only [zP, zQ, zS, zZ, zC]
  refine wpAnyH_ready (rs := [3]) (by kernel_rfl) (by simp) ?_
  refine AllReadyH.cons (o := ⟨some 8, .convert 39 9 (.tmp 7), 9, "merkle.go:52", #[⟨2, .data⟩], none⟩) rfl (fun K hK => ?_) AllReadyH.nil
  rw [if_pos (by rfl)]
  have kv := conv_dig L3 hy.1 hy.2
  go_simp
  clear kv
  refine hK.out _ _ trivial (fun _ => ?_)
  clear hK K
  try simp only [zP, zQ, zS, zZ, zC]
  rotate_left
  rw [if_pos (by rfl)]
  have kv := conv_dig L3 hy.1 hy.2
  go_simp
  clear kv
  refine hK.out _ _ trivial (fun _ => ?_)
  clear hK K
  try simp only [zP, zQ, zS, zZ, zC]
  refine wpAnyH_ready (rs := [1]) (by kernel_rfl) (by simp) ?_
  refine AllReadyH.cons (o := ⟨some 6, .convert 39 9 (.tmp 5), 9, "merkle.go:52", #[⟨0, .data⟩], none⟩) rfl (fun K hK => ?_) AllReadyH.nil
  rw [if_pos (by rfl)]
  have kv := conv_dig L2 hx.1 hx.2
  go_simp
  clear kv
  refine hK.out _ _ trivial (fun _ => ?_)
  clear hK K
  try simp only [zP, zQ, zS, zZ, zC]
  rotate_left
  all_goals
    refine wpAnyH_ready (rs := [4]) (by kernel_rfl) (by simp) ?_
    refine AllReadyH.cons (o := ⟨some 9, .buildSlice 47 2 #[(0, .tmp 6), (1, .tmp 8)], 47, "merkle.go:52", #[⟨1, .data⟩, ⟨3, .data⟩], none⟩) rfl (fun K hK => ?_) AllReadyH.nil
    rw [if_pos (by rfl)]
    go_simp
    refine hK.out _ _ trivial (fun _ => ?_)
    clear hK K
    try simp only [zP, zQ, zS, zZ, zC]
    refine wpAnyH_ready (rs := [5]) (by kernel_rfl) (by simp) ?_
    refine AllReadyH.cons (o := ⟨some 10, .call { callee := .value (.func 57), args := #[.const (Value.int IntKind.i64 4), .tmp 9], argTypes := #[3, 47] }, 29, "merkle.go:52", #[⟨4, .data⟩], none⟩) rfl (fun K hK => ?_) AllReadyH.nil
    rw [if_pos (by rfl)]
    go_simp
    refine (of_lit 4 (by omega) [strOf x, strOf y] (by simp) (two_dig hx.1 hy.1) _ rfl 2 rfl V0 (hG.keep CB)).mono ?_
    rintro e V1 ⟨rfl, hB1⟩
    rw [two_sbs hx.2 hy.2, show ofS 4 [x, y] = M from HM.out]
    dsimp only
    refine hK.out _ _ trivial (fun _ => ?_)
    clear hK K
    try simp only [zP, zQ, zS, zZ, zC]
    have hvM : (bytesV M).length = 16 := by rw [bytesV_length]; exact hMd.1
    have hvz : (bytesV z16).length = 16 := rfl
    have K4 := L4.keep hB1
    have hst := K4.storeRun (vs := bytesV M) (by rw [hvM, hvz]) (bytesV_cells M)
    refine wpAnyH_ready (rs := [6]) (by kernel_rfl) (by simp) ?_
    refine AllReadyH.cons (o := ⟨none, .store 29 (.tmp 4) (.tmp 10), 0, "merkle.go:52", #[⟨5, .data⟩, ⟨5, .chain⟩, ⟨0, .phase⟩, ⟨1, .phase⟩, ⟨2, .phase⟩, ⟨3, .phase⟩, ⟨4, .phase⟩, ⟨5, .phase⟩], none⟩) rfl (fun K hK => ?_) AllReadyH.nil
    rw [if_pos (by rfl)]
    go_simp
    refine hK.out _ _ trivial (fun _ => ?_)
    clear hK K
    try simp only [zP, zQ, zS, zZ, zC]
    refine wpAnyH_done (by kernel_rfl) ?_ _
    have K9 : Blk (V1.setCells (w.heap.size + 1 + 1) 0 (bytesV M)) (w.heap.size + 1 + 1) 29 (bytesV M) := K4.all (by rw [hvM, hvz])
    have CB1 := (only_sets (w.heap.size + 1 + 1) 0 V1 (bytesV M)).2.2 _ _ (by omega : w.heap.size ≤ w.heap.size + 1 + 1) (link CB hB1)
    clear hst K4 L2 L3 L4 CB hB hsl
    generalize World.setCells _ _ _ _ = wy at K9 CB1 ⊢
    go_wp2
    exact bodyPost_ret (v := .agg (bytesV M).toArray) (K9.result (p := 4) (ty := 29) rfl _ rfl Tryd.underlying29 (by rw [hvM]; kernel_rfl)) rfl ⟨by rw [HM.out], CB1⟩

end Go.Proofs.YtfhfmdnimebegaaDoor

/-
  merkle.row: the digest of a row of leaves.
-/
namespace Go.Proofs.YtfhfmdnimebegaaDoor
open Go.RowKit
set_option linter.unusedVariables false
set_option linter.unusedSimpArgs false

/-- A slice of leaves that starts at the cell off of the block b. -/
def Lvs (w : World) (b off : Nat) (ls : List Lf) : Prop :=
  b < w.heap.size ∧ ∀ i x, ls[i]? = some x → w.cell? ⟨b, off + 2 * i, none⟩ = some (.string x.1) ∧ w.cell? ⟨b, off + (2 * i + 1), none⟩ = some (.string x.2)
theorem Lvs.keep {w w' : World} {b off : Nat} {ls : List Lf} (h : Lvs w b off ls) (hb : Below w.heap.size w w') : Lvs w' b off ls :=
  ⟨Nat.lt_of_lt_of_le h.1 hb.size, fun i x hx => ⟨(hb.cell h.1).trans (h.2 i x hx).1, (hb.cell h.1).trans (h.2 i x hx).2⟩⟩
theorem Lvs.take {w : World} {b off : Nat} {ls : List Lf} (h : Lvs w b off ls) (k : Nat) : Lvs w b off (ls.take k) := by
  refine ⟨h.1, fun i x hx => ?_⟩
  rw [List.getElem?_take] at hx
  split at hx
  · exact h.2 i x hx
  · cases hx
theorem Lvs.drop {w : World} {b off : Nat} {ls : List Lf} (h : Lvs w b off ls) (k : Nat) : Lvs w b (off + 2 * k) (ls.drop k) := by
  refine ⟨h.1, fun i x hx => ?_⟩
  have := h.2 (k + i) x (by rw [← hx, List.getElem?_drop])
  rw [show off + 2 * k + 2 * i = off + 2 * (k + i) by omega, show off + 2 * k + (2 * i + 1) = off + (2 * (k + i) + 1) by omega]
  exact this
/-- Keys and values that are not too long. -/
def Small (ls : List Lf) : Prop := ∀ x ∈ ls, x.1.size ≤ 1048576 ∧ x.2.size ≤ 1048576
theorem Small.take {ls : List Lf} (h : Small ls) (k : Nat) : Small (ls.take k) := fun x hx => h x (List.mem_of_mem_take hx)
theorem Small.drop {ls : List Lf} (h : Small ls) (k : Nat) : Small (ls.drop k) := fun x hx => h x (List.mem_of_mem_drop hx)
theorem size_leaf (w : World) : (Go.sizeOf 41).run Tryd.prog w = .ok 2 w := by kernel_rfl

set_option maxHeartbeats 2000000 in
set_option maxRecDepth 100000 in
theorem mrow_one (x : Lf) (b off c : Nat) (w : World) (hG : Glob w) (hL : Lvs w b off [x]) (hS : Small [x]) :
    Calls Tryd.prog 42 #[.slice (some ⟨b, off, none⟩) 1 c] w fun e w' => e = .returned (.agg (bytesV (rowM [x])).toArray) ∧ Below w.heap.size w w' := by
  have hz1 := zero_dig'
  have hz2 := size_leaf
  obtain ⟨M, hM⟩ : ∃ M, rowM [x] = M := ⟨_, rfl⟩
  have hMd : Dgt M := by rw [← hM]; exact dig_ofS _ _
  have HM : Hid (ofS 3 (sbs [x.1, x.2]) = M) := Lib.hid (by rw [← hM]; rfl)
  rw [hM]
  clear hM
  have hsz : ∀ s ∈ [x.1, x.2], s.size ≤ 1048576 := by
    have := hS x List.mem_cons_self
    intro s hs
    simp only [List.mem_cons, List.mem_nil_iff, or_false] at hs
    rcases hs with rfl | rfl
    · exact this.1
    · exact this.2
  obtain ⟨hb, h0, h1⟩ : b < w.heap.size ∧ w.cell? ⟨b, off, none⟩ = some (.string x.1) ∧ w.cell? ⟨b, off + 1, none⟩ = some (.string x.2) := by
    have := hL.2 0 x rfl
    exact ⟨hL.1, by simpa using this.1, by simpa using this.2⟩
  clear hL hS
  go_enter Tryd.func42, Tryd.ntmps42
  go_upto_region 2 with (fail)
  generalize hw0 : World.alloc _ _ = W0
  have K2 : Blk W0 w.heap.size 29 (bytesV z16) := hw0 ▸ (blk_new w _ _)
  have KB : Below w.heap.size w W0 := hw0 ▸ ((Below.refl _ _).alloc (Nat.le_refl _) _)
  clear hw0 hz1
  have hHeld : True := trivial
  refine wp_region_held_drew (S := fun w' => Below w.heap.size W0.drew w') (by kernel_rfl) (Below.refl _ _) (fun _ => ?_)
  have L2 : Blk W0.drew w.heap.size 29 (bytesV z16) := K2
  have CB : Below w.heap.size w W0.drew := below_drew KB
  clear K2 KB
  generalize W0.drew = V0 at L2 CB ⊢
  have hHeld : Below w.heap.size V0 V0 := Below.refl _ _
  have hv0 := CB.size
  have C0 : ∀ w', Below w.heap.size V0 w' → w'.cell? ⟨b, off, none⟩ = some (.string x.1) := fun w' h => (h.cell hb).trans ((CB.cell hb).trans h0)
  have C1 : ∀ w', Below w.heap.size V0 w' → w'.cell? ⟨b, off + 1, none⟩ = some (.string x.2) := fun w' h => (h.cell hb).trans ((CB.cell hb).trans h1)
  refine wt (i := 0) (oi := ⟨some 7, .move (.tmp 0), 33, "merkle.go:58", #[], none⟩) (v := .slice (some ⟨b, off, none⟩) 1 c) (Or.inl ⟨by rfl, fun w' hSw => by go_simp⟩) hHeld ?_
  try simp only [zP, zQ, zS, zZ, zC]
  refine wt (i := 1) (oi := ⟨some 8, .indexAddr 33 (.tmp 7) (.const (Value.int IntKind.i64 0)), 0, "merkle.go:58", #[⟨0, .data⟩], none⟩) (v := .pointer (some ⟨b, off, none⟩)) (Or.inl ⟨by rfl, fun w' hSw => by go_simp⟩) hHeld ?_
  try simp only [zP, zQ, zS, zZ, zC]
  refine wt (i := 2) (oi := ⟨some 9, .fieldAddr 41 (.tmp 8) 0, 0, "merkle.go:58", #[⟨1, .data⟩], none⟩) (v := .pointer (some ⟨b, off, none⟩)) (Or.inl ⟨by rfl, fun w' hSw => by go_simp⟩) hHeld ?_
  try simp only [zP, zQ, zS, zZ, zC]
  refine wt (i := 3) (oi := ⟨some 10, .load 9 (.tmp 9), 9, "merkle.go:58", #[⟨2, .data⟩], none⟩) (v := .string x.1) (Or.inl ⟨by rfl, fun w' hSw => by have hc := C0 w' hSw; go_simp⟩) hHeld ?_
  try simp only [zP, zQ, zS, zZ, zC]
  refine wt (i := 4) (oi := ⟨some 11, .move (.tmp 0), 33, "merkle.go:58", #[], none⟩) (v := .slice (some ⟨b, off, none⟩) 1 c) (Or.inl ⟨by rfl, fun w' hSw => by go_simp⟩) hHeld ?_
  try simp only [zP, zQ, zS, zZ, zC]
  refine wt (i := 5) (oi := ⟨some 12, .indexAddr 33 (.tmp 11) (.const (Value.int IntKind.i64 0)), 0, "merkle.go:58", #[⟨4, .data⟩], none⟩) (v := .pointer (some ⟨b, off, none⟩)) (Or.inl ⟨by rfl, fun w' hSw => by go_simp⟩) hHeld ?_
  try simp only [zP, zQ, zS, zZ, zC]
  refine wt (i := 6) (oi := ⟨some 13, .fieldAddr 41 (.tmp 12) 1, 0, "merkle.go:58", #[⟨5, .data⟩], none⟩) (v := .pointer (some ⟨b, off + 1, none⟩)) (Or.inl ⟨by rfl, fun w' hSw => by go_simp⟩) hHeld ?_
  try simp only [zP, zQ, zS, zZ, zC]
  refine wt (i := 7) (oi := ⟨some 14, .load 9 (.tmp 13), 9, "merkle.go:58", #[⟨6, .data⟩], none⟩) (v := .string x.2) (Or.inl ⟨by rfl, fun w' hSw => by have hc := C1 w' hSw; go_simp⟩) hHeld ?_
  try simp only [zP, zQ, zS, zZ, zC]
  refine wpAnyH_ready (rs := [8]) (by kernel_rfl) (by simp) ?_
  refine AllReadyH.cons (o := ⟨some 15, .buildSlice 47 2 #[(0, .tmp 10), (1, .tmp 14)], 47, "merkle.go:58", #[⟨3, .data⟩, ⟨7, .data⟩], none⟩) rfl (fun K hK => ?_) AllReadyH.nil
  rw [if_pos (by rfl)]
  go_simp
  refine hK.out _ _ ((Below.refl _ _).alloc hv0 _) (fun hHeld => ?_)
  clear hK K
  try simp only [zP, zQ, zS, zZ, zC]
  refine wpAnyH_ready (rs := [9]) (by kernel_rfl) (by simp) ?_
  refine AllReadyH.cons (o := ⟨some 16, .call { callee := .value (.func 57), args := #[.const (Value.int IntKind.i64 3), .tmp 15], argTypes := #[3, 47] }, 29, "merkle.go:58", #[⟨8, .data⟩], none⟩) rfl (fun K hK => ?_) AllReadyH.nil
  rw [if_pos (by rfl)]
  go_simp
  refine (of_lit 3 (by omega) [x.1, x.2] (by simp) hsz _ rfl 2 rfl V0 (hG.keep CB)).mono ?_
  rintro e V1 ⟨rfl, hB1⟩
  rw [show ofS 3 (sbs [x.1, x.2]) = M from HM.out]
  dsimp only
  refine hK.out _ _ (hB1.mono hv0) (fun hHeld => ?_)
  clear hK K
  try simp only [zP, zQ, zS, zZ, zC]
  have hvM : (bytesV M).length = 16 := by rw [bytesV_length]; exact hMd.1
  have hvz : (bytesV z16).length = 16 := rfl
  have K4 := L2.keep hB1
  have hst := K4.storeRun (vs := bytesV M) (by rw [hvM, hvz]) (bytesV_cells M)
  have CS := (only_sets w.heap.size 0 V1 (bytesV M)).2.2 _ _ (Nat.le_refl _) (hB1.mono hv0)
  refine wpAnyH_ready (rs := [10]) (by kernel_rfl) (by simp) ?_
  refine AllReadyH.cons (o := ⟨none, .store 29 (.tmp 2) (.tmp 16), 0, "merkle.go:58", #[⟨9, .data⟩, ⟨9, .chain⟩, ⟨0, .phase⟩, ⟨1, .phase⟩, ⟨2, .phase⟩, ⟨3, .phase⟩, ⟨4, .phase⟩, ⟨5, .phase⟩, ⟨6, .phase⟩, ⟨7, .phase⟩, ⟨8, .phase⟩, ⟨9, .phase⟩], none⟩) rfl (fun K hK => ?_) AllReadyH.nil
  rw [if_pos (by rfl)]
  go_simp
  refine hK.out _ _ (CS) (fun hHeld => ?_)
  clear hK K
  try simp only [zP, zQ, zS, zZ, zC]
  refine wpAnyH_done (by kernel_rfl) ?_ _
  have K9 : Blk (V1.setCells w.heap.size 0 (bytesV M)) w.heap.size 29 (bytesV M) := K4.all (by rw [hvM, hvz])
  have CB1 : Below w.heap.size w (V1.setCells w.heap.size 0 (bytesV M)) := CB.trans CS
  clear hst K4 L2 CB CS hHeld C0 C1
  generalize World.setCells _ _ _ _ = wy at K9 CB1 ⊢
  go_wp2
  exact bodyPost_ret (v := .agg (bytesV M).toArray) (K9.result (p := 2) (ty := 29) rfl _ rfl Tryd.underlying29 (by rw [hvM]; kernel_rfl)) rfl ⟨rfl, CB1⟩

/-- The row of many leaves: what row does at a length is known below it. -/
def RowAt (n : Nat) : Prop := ∀ (ls : List Lf) (b off c : Nat) (w : World), ls.length = n → n ≤ c → Glob w → Lvs w b off ls → Small ls →
    Calls Tryd.prog 42 #[.slice (some ⟨b, off, none⟩) n c] w fun e w' => e = .returned (.agg (bytesV (rowM ls)).toArray) ∧ Below w.heap.size w w'

set_option maxHeartbeats 2000000 in
set_option maxRecDepth 100000 in
theorem mrow_step (n : Nat) (h2 : 2 ≤ n) (hn : n ≤ 4096) (IH : ∀ m, 1 ≤ m → m < n → RowAt m) : RowAt n := by
  intro ls b off c w hl hc hG hL hS
  have hz1 := zero_dig'
  have hz2 := size_leaf
  have hM := rowM_big ls (by omega)
  have hMd : Dgt (rowM ls) := rowM_dgt ls.length ls (Nat.le_refl _) (by omega)
  rw [hl] at hM
  have hlt := half_lt n h2
  have hpo := half_pos n
  have HMID := Lib.hid (fun w0 => middle_any 0 (n : Int) n (Int.le_refl 0) (by omega) (by omega) h2 w0)
  have hl1 : (ls.take (half n)).length = half n := by rw [List.length_take]; omega
  have hl2 : (ls.drop (half n)).length = n - half n := by rw [List.length_drop]; omega
  have hd1 : Dgt (rowM (ls.take (half n))) := rowM_dgt _ _ (Nat.le_refl _) (by omega)
  have hd2 : Dgt (rowM (ls.drop (half n))) := rowM_dgt _ _ (Nat.le_refl _) (by omega)
  have HA0 := Lib.hid (fun w0 (g : Glob w0) (hB : Below w.heap.size w w0) => IH (half n) hpo hlt (ls.take (half n)) b off c w0 hl1 (by omega) g ((hL.keep hB).take (half n)) (hS.take _))
  have HC0 := Lib.hid (fun w0 (g : Glob w0) (hB : Below w.heap.size w w0) => IH (n - half n) (by omega) (by omega) (ls.drop (half n)) b (off + 2 * half n) (c - half n) w0 hl2 (by omega) g ((hL.keep hB).drop (half n)) (hS.drop _))
  have hb := hL.1
  clear IH hL hS hl1 hl2
  generalize rowM (ls.take (half n)) = M1 at hM HA0 hd1
  generalize rowM (ls.drop (half n)) = M2 at hM HC0 hd2
  have HM := Lib.hid hM.symm
  clear hM
  generalize rowM ls = M at HM hMd ⊢
  clear hl
  generalize half n = m at hlt hpo HMID HA0 HC0
  have hne : ¬ n = 1 := by omega
  go_enter Tryd.func42, Tryd.ntmps42
  go_upto_region 1 with (fail)
  generalize hw0 : World.alloc _ _ = W0
  have K2 : Blk W0 w.heap.size 29 (bytesV z16) := hw0 ▸ (blk_new w _ _)
  have KB : Below w.heap.size w W0 := hw0 ▸ ((Below.refl _ _).alloc (Nat.le_refl _) _)
  clear hw0 hz1
  go_upto_region 4 with (go_at_call 58; refine (HMID.out _).mono ?_; rintro e w1 ⟨rfl, hw1⟩; rw [hw1]; clear hw1 w1)
  have hHeld : True := trivial
  refine wp_region_held_drew (S := fun w' => Below w.heap.size W0.drew w') (by kernel_rfl) (Below.refl _ _) (fun _ => ?_)
  have L2 : Blk W0.drew w.heap.size 29 (bytesV z16) := K2
  have CB : Below w.heap.size w W0.drew := below_drew KB
  clear K2 KB
  generalize W0.drew = V0 at L2 CB ⊢
  have hHeld : Below w.heap.size V0 V0 := Below.refl _ _
  have hv0 := CB.size
  have HA := Lib.hid (fun w0 (h : Below w.heap.size V0 w0) => HA0.out w0 (hG.keep (CB.trans h)) (CB.trans h))
  have HC := Lib.hid (fun w0 (h : Below w.heap.size V0 w0) => HC0.out w0 (hG.keep (CB.trans h)) (CB.trans h))
  refine wt (i := 0) (oi := ⟨some 20, .move (.tmp 0), 33, "merkle.go:61", #[], none⟩) (v := .slice (some ⟨b, off, none⟩) n c) (Or.inl ⟨by rfl, fun w' hSw => by go_simp⟩) hHeld ?_
  try simp only [zP, zQ, zS, zZ, zC]
  refine wt (i := 1) (oi := ⟨some 21, .move (.tmp 3), 3, "merkle.go:61", #[], none⟩) (v := .int .i64 (m : Int)) (Or.inl ⟨by rfl, fun w' hSw => by go_simp⟩) hHeld ?_
  try simp only [zP, zQ, zS, zZ, zC]
  refine wt (i := 2) (oi := ⟨some 22, .slice 33 (.tmp 20) none (some (.tmp 21)) none, 33, "merkle.go:61", #[⟨0, .data⟩, ⟨1, .data⟩], none⟩) (v := .slice (some ⟨b, off, none⟩) m c) (Or.inl ⟨by rfl, fun w' hSw => by go_simp; intro hcm; exact absurd hcm (by omega)⟩) hHeld ?_
  try simp only [zP, zQ, zS, zZ, zC]
  refine wt (i := 4) (oi := ⟨some 24, .move (.tmp 0), 33, "merkle.go:61", #[], none⟩) (v := .slice (some ⟨b, off, none⟩) n c) (Or.inl ⟨by rfl, fun w' hSw => by go_simp⟩) hHeld ?_
  try simp only [zP, zQ, zS, zZ, zC]
  refine wt (i := 5) (oi := ⟨some 25, .move (.tmp 3), 3, "merkle.go:61", #[], none⟩) (v := .int .i64 (m : Int)) (Or.inl ⟨by rfl, fun w' hSw => by go_simp⟩) hHeld ?_
  try simp only [zP, zQ, zS, zZ, zC]
  refine wt (i := 6) (oi := ⟨some 26, .slice 33 (.tmp 24) (some (.tmp 25)) none none, 33, "merkle.go:61", #[⟨4, .data⟩, ⟨5, .data⟩], none⟩) (v := .slice (some ⟨b, off + 2 * m, none⟩) (n - m) (c - m)) (Or.inl ⟨by rfl, fun w' hSw => by go_simp; rw [if_pos (by omega), if_neg (by omega : ¬ c = m), Nat.mul_comm m 2]⟩) hHeld ?_
  try simp only [zP, zQ, zS, zZ, zC]
  refine wpAnyH_ready (rs := [3]) (by kernel_rfl) (by simp) ?_
  refine AllReadyH.cons (o := ⟨some 23, .call { callee := .value (.func 42), args := #[.tmp 22], argTypes := #[33] }, 29, "merkle.go:61", #[⟨2, .data⟩], none⟩) rfl (fun K hK => ?_) AllReadyH.nil
  rw [if_pos (by rfl)]
  go_simp
  refine (HA.out V0 hHeld).mono ?_
  rintro e V1 ⟨rfl, hB1⟩
  dsimp only
  refine hK.out _ _ (hB1.mono hv0) (fun hHeld => ?_)
  clear hK K
  try simp only [zP, zQ, zS, zZ, zC]
  refine wpAnyH_ready (rs := [7]) (by kernel_rfl) (by simp) ?_
  refine AllReadyH.cons (o := ⟨some 27, .call { callee := .value (.func 42), args := #[.tmp 26], argTypes := #[33] }, 29, "merkle.go:61", #[⟨6, .data⟩, ⟨3, .chain⟩], none⟩) rfl (fun K hK => ?_) AllReadyH.nil
  rw [if_pos (by rfl)]
  go_simp
  refine (HC.out V1 hHeld).mono ?_
  rintro e V2 ⟨rfl, hB2⟩
  dsimp only
  have hB := hB1.trans (hB2.mono hB1.size)
  refine hK.out _ _ (hB.mono hv0) (fun hHeld => ?_)
  clear hK K
  try simp only [zP, zQ, zS, zZ, zC]
  refine wpAnyH_ready (rs := [8]) (by kernel_rfl) (by simp) ?_
  refine AllReadyH.cons (o := ⟨some 28, .call { callee := .value (.func 59), args := #[.tmp 23, .tmp 27], argTypes := #[29, 29] }, 29, "merkle.go:61", #[⟨3, .data⟩, ⟨7, .data⟩, ⟨7, .chain⟩], none⟩) rfl (fun K hK => ?_) AllReadyH.nil
  rw [if_pos (by rfl)]
  go_simp
  refine (mjoin_any M1 M2 hd1 hd2 V2 (hG.keep (CB.trans hHeld))).mono ?_
  rintro e V3 ⟨rfl, hB3⟩
  rw [HM.out]
  dsimp only
  have hBB := hB.trans (hB3.mono hB.size)
  refine hK.out _ _ (hBB.mono hv0) (fun hHeld => ?_)
  clear hK K
  try simp only [zP, zQ, zS, zZ, zC]
  have hvM : (bytesV M).length = 16 := by rw [bytesV_length]; exact hMd.1
  have hvz : (bytesV z16).length = 16 := rfl
  have K4 := L2.keep hBB
  have hst := K4.storeRun (vs := bytesV M) (by rw [hvM, hvz]) (bytesV_cells M)
  have CS := (only_sets w.heap.size 0 V3 (bytesV M)).2.2 _ _ (Nat.le_refl _) (hBB.mono hv0)
  refine wpAnyH_ready (rs := [9]) (by kernel_rfl) (by simp) ?_
  refine AllReadyH.cons (o := ⟨none, .store 29 (.tmp 2) (.tmp 28), 0, "merkle.go:61", #[⟨8, .data⟩, ⟨8, .chain⟩, ⟨0, .phase⟩, ⟨1, .phase⟩, ⟨2, .phase⟩, ⟨3, .phase⟩, ⟨4, .phase⟩, ⟨5, .phase⟩, ⟨6, .phase⟩, ⟨7, .phase⟩, ⟨8, .phase⟩], none⟩) rfl (fun K hK => ?_) AllReadyH.nil
  rw [if_pos (by rfl)]
  go_simp
  refine hK.out _ _ (CS) (fun hHeld => ?_)
  clear hK K
  try simp only [zP, zQ, zS, zZ, zC]
  refine wpAnyH_done (by kernel_rfl) ?_ _
  have K9 : Blk (V3.setCells w.heap.size 0 (bytesV M)) w.heap.size 29 (bytesV M) := K4.all (by rw [hvM, hvz])
  have CB1 : Below w.heap.size w (V3.setCells w.heap.size 0 (bytesV M)) := CB.trans CS
  clear hst K4 L2 CB CS hHeld
  generalize World.setCells _ _ _ _ = wy at K9 CB1 ⊢
  go_wp2
  exact bodyPost_ret (v := .agg (bytesV M).toArray) (K9.result (p := 2) (ty := 29) rfl _ rfl Tryd.underlying29 (by rw [hvM]; kernel_rfl)) rfl ⟨rfl, CB1⟩

theorem mrow_any : ∀ n, 1 ≤ n → n ≤ 4096 → RowAt n := by
  intro n
  induction n using Nat.strongRecOn with
  | ind n ih =>
    intro h1 hn
    rcases Nat.lt_or_ge n 2 with h2 | h2
    · obtain rfl : n = 1 := by omega
      intro ls b off c w hl hc hG hL hS
      obtain ⟨x, rfl⟩ : ∃ x, ls = [x] := List.length_eq_one_iff.1 hl
      exact mrow_one x b off c w hG hL hS
    · exact mrow_step n h2 hn (fun m hm hlt => ih m hlt hm (by omega))

end Go.Proofs.YtfhfmdnimebegaaDoor

/-
  merkle.Valid.
-/
namespace Go.Proofs.YtfhfmdnimebegaaDoor
open Go.RowKit
set_option linter.unusedVariables false
set_option linter.unusedSimpArgs false

/-- A key and a value that are not longer than allowed. -/
def fits (x : Lf) : Bool := decide (x.1.size ≤ 65536) && decide (x.2.size ≤ 65536)
def sless (a b : ByteArray) : Bool := Op.bytesLess a.toList b.toList
/-- Keys in strictly increasing order. -/
def ordered : List Lf → Bool
  | x :: y :: r => sless x.1 y.1 && ordered (y :: r)
  | _ => true
/-- What Valid answers. -/
def validM (ls : List Lf) : Int := if 4096 < ls.length then 4 else if ls.all fits then (if ordered ls then 0 else 1) else 4
def FitTo (ls : List Lf) (k : Nat) : Prop := ∀ j x, j < k → ls[j]? = some x → fits x = true
def OrdTo (ls : List Lf) (k : Nat) : Prop := ∀ j x y, j + 1 < k → ls[j]? = some x → ls[j + 1]? = some y → sless x.1 y.1 = true
theorem fit_zero (ls : List Lf) : FitTo ls 0 := fun j x h => by omega
theorem FitTo.step {ls : List Lf} {k : Nat} {x : Lf} (h : FitTo ls k) (hx : ls[k]? = some x) (hf : fits x = true) : FitTo ls (k + 1) := by
  intro j y hj hy
  rcases Nat.lt_or_ge j k with h1 | h1
  · exact h j y h1 hy
  · obtain rfl : j = k := by omega
    obtain rfl : x = y := by rw [hx] at hy; injection hy
    exact hf
theorem FitTo.all {ls : List Lf} (h : FitTo ls ls.length) : ls.all fits = true := by
  rw [List.all_eq_true]
  intro x hx
  obtain ⟨j, hj⟩ := List.mem_iff_getElem?.1 hx
  exact h j x (List.getElem?_eq_some_iff.1 hj).1 hj
theorem not_fit {ls : List Lf} {k : Nat} {x : Lf} (hx : ls[k]? = some x) (hf : fits x = false) : ls.all fits = false := by
  rw [List.all_eq_false]
  exact ⟨x, List.mem_of_getElem? hx, by simp [hf]⟩
theorem ord_one (ls : List Lf) : OrdTo ls 1 := fun j x y h => by omega
theorem OrdTo.step {ls : List Lf} {k : Nat} {x y : Lf} (h : OrdTo ls (k + 1)) (hx : ls[k]? = some x) (hy : ls[k + 1]? = some y) (hs : sless x.1 y.1 = true) : OrdTo ls (k + 1 + 1) := by
  intro j u v hj hu hv
  rcases Nat.lt_or_ge j k with h1 | h1
  · exact h j u v (by omega) hu hv
  · obtain rfl : j = k := by omega
    obtain rfl : x = u := by rw [hx] at hu; injection hu
    obtain rfl : y = v := by rw [hy] at hv; injection hv
    exact hs
theorem OrdTo.all : ∀ {ls : List Lf} {k : Nat}, OrdTo ls k → ls.length ≤ k → ordered ls = true
  | [], _, _, _ => rfl
  | [x], _, _, _ => rfl
  | x :: y :: r, k, h, hk => by
    simp only [List.length_cons] at hk
    unfold ordered
    rw [h 0 x y (by omega) rfl rfl, OrdTo.all (ls := y :: r) (k := k - 1) (fun j u v hj hu hv => h (j + 1) u v (by omega) hu hv) (by simp only [List.length_cons]; omega)]
    rfl
theorem not_ord : ∀ {ls : List Lf} {k : Nat} {x y : Lf}, ls[k]? = some x → ls[k + 1]? = some y → sless x.1 y.1 = false → ordered ls = false
  | [], k, x, y, hx, _, _ => by simp at hx
  | [u], k, x, y, hx, hy, _ => by simp at hy
  | u :: v :: r, 0, x, y, hx, hy, hs => by
    obtain rfl : u = x := by simpa using hx
    obtain rfl : v = y := by simpa using hy
    unfold ordered
    rw [hs]
    rfl
  | u :: v :: r, k + 1, x, y, hx, hy, hs => by
    unfold ordered
    rw [not_ord (ls := v :: r) (k := k) (by simpa using hx) (by simpa using hy) hs, Bool.and_false]
theorem valid_long {ls : List Lf} (h : 4096 < ls.length) : validM ls = 4 := by unfold validM; rw [if_pos h]
theorem valid_fat {ls : List Lf} {k : Nat} {x : Lf} (h : ls.length ≤ 4096) (hx : ls[k]? = some x) (hf : fits x = false) : validM ls = 4 := by
  unfold validM
  rw [if_neg (by omega), not_fit hx hf]
  rfl
theorem valid_bad {ls : List Lf} {k : Nat} {x y : Lf} (h : ls.length ≤ 4096) (ha : FitTo ls ls.length) (hx : ls[k]? = some x) (hy : ls[k + 1]? = some y) (hs : sless x.1 y.1 = false) : validM ls = 1 := by
  unfold validM
  rw [if_neg (by omega), if_pos ha.all, not_ord hx hy hs]
  rfl
theorem valid_ok {ls : List Lf} {k : Nat} (h : ls.length ≤ 4096) (ha : FitTo ls ls.length) (ho : OrdTo ls k) (hk : ls.length ≤ k) : validM ls = 0 := by
  unfold validM
  rw [if_neg (by omega), if_pos ha.all, if_pos (ho.all hk)]
/-- A slice of leaves, also an empty one. -/
def OwnL (w : World) (p : Option Addr) (ls : List Lf) : Prop := ls ≠ [] → ∃ b off, p = some ⟨b, off, none⟩ ∧ Lvs w b off ls
theorem OwnL.keep {w w' : World} {p : Option Addr} {ls : List Lf} (h : OwnL w p ls) (hb : Below w.heap.size w w') : OwnL w' p ls := fun hn => by
  obtain ⟨b, off, e, hL⟩ := h hn
  exact ⟨b, off, e, hL.keep hb⟩
theorem Lvs.at {w : World} {b off : Nat} {ls : List Lf} (h : Lvs w b off ls) {k : Nat} {x : Lf} (hx : ls[k]? = some x) : w.cell? ⟨b, off + k * 2, none⟩ = some (.string x.1) ∧ w.cell? ⟨b, off + k * 2 + 1, none⟩ = some (.string x.2) := by
  have := h.2 k x hx
  rw [show off + k * 2 = off + 2 * k by omega]
  exact this

set_option maxHeartbeats 2000000 in
set_option maxRecDepth 100000 in
theorem valid_any (ls : List Lf) (p : Option Addr) (n c : Nat) (hl : ls.length = n) (w : World) (hL : OwnL w p ls) :
    Calls Tryd.prog 14 #[.slice p n c] w fun e w' => e = .returned (.int .i64 (validM ls)) ∧ Below w.heap.size w w' := by
  have HN := Lib.hid hl
  clear hl
  by_cases h : 4096 < n
  · rw [valid_long (by rw [HN.out]; exact h)]
    go_enter Tryd.func14, Tryd.ntmps14
    go_wp2
    go_ret
    exact ⟨rfl, Below.refl _ _⟩
  · go_enter Tryd.func14, Tryd.ntmps14
    go_wp2
    go_loopw [11] (fun v wr => ∃ k : Nat, k ≤ n ∧ v = .int .i64 k ∧ FitTo ls k ∧ Below w.heap.size w wr) (fun v _ => n - (intOf v).toNat)
    case atStart => exact ⟨0, by omega, rfl, fit_zero _, Below.refl _ _⟩
    case round =>
      obtain ⟨k, hk, rfl, hF, hB⟩ := hrel
      by_cases hlt : k < n
      · obtain ⟨x, hx⟩ : ∃ x, ls[k]? = some x := ⟨_, List.getElem?_eq_getElem (by rw [HN.out]; exact hlt)⟩
        obtain ⟨b, off, rfl, hL2⟩ := hL (by intro h0; rw [h0] at hx; simp at hx)
        have hb := hL2.1
        have h1 := (hB.cell hb).trans (hL2.at hx).1
        have h2 := (hB.cell hb).trans (hL2.at hx).2
        have hF1 := Lib.hid (fun hf => hF.step hx hf)
        have hV := Lib.hid (fun hf => valid_fat (by rw [HN.out]; omega) hx hf)
        clear hx hL hL2 hF
        go_upto_region 6 with (fail)
        have hB2 : Below w.heap.size w (wr.alloc (.cells #[.string x.1, .string x.2] 41)) := hB.alloc hB.size _
        have c1 : (wr.alloc (.cells #[.string x.1, .string x.2] 41)).cell? ⟨wr.heap.size, 0, none⟩ = some (.string x.1) := by simp
        have c2 : (wr.alloc (.cells #[.string x.1, .string x.2] 41)).cell? ⟨wr.heap.size, 1, none⟩ = some (.string x.2) := by simp
        generalize World.alloc _ _ = wx at hB2 c1 c2 ⊢
        by_cases s1 : x.1.size ≤ 65536
        · by_cases s2 : x.2.size ≤ 65536
          · have hf : fits x = true := by simp [fits, s1, s2]
            have hF2 := hF1.out hf
            go_wp2
            go_roundw
            case rel => exact ⟨k + 1, by omega, by go_num, hF2, hB2⟩
            case measure => simp [intOf]; omega
          · have hf : fits x = false := by simp [fits, s2]
            go_wp2
            go_ret
            exact ⟨by rw [hV.out hf]; rfl, hB2⟩
        · have hf : fits x = false := by simp [fits, s1]
          go_wp2
          go_ret
          exact ⟨by rw [hV.out hf]; rfl, hB2⟩
      · obtain rfl : n = k := by omega
        have hF0 : FitTo ls ls.length := by rw [HN.out]; exact hF
        have HF := Lib.hid hF0
        clear hF hF0
        go_upto_region 9 with (fail)
        obtain ⟨wo, rfl⟩ : ∃ wo : World, wo = wr := ⟨_, rfl⟩
        go_wp2
        go_loopw [5] (fun v wr => ∃ k t : Nat, k + 1 = t ∧ (t ≤ n ∨ k = 0) ∧ v = .int .i64 (t : Int) ∧ OrdTo ls t ∧ Below w.heap.size w wr) (fun v _ => n - (intOf v).toNat)
        case atStart => exact ⟨0, 1, rfl, Or.inr rfl, rfl, ord_one _, hB⟩
        case round =>
          clear hB
          obtain ⟨k, t, hkt, hk, rfl, hO, hB⟩ := hrel
          by_cases hlt : t < n
          · obtain ⟨x, hx⟩ : ∃ x, ls[k]? = some x := ⟨_, List.getElem?_eq_getElem (by rw [HN.out]; omega)⟩
            obtain ⟨y, hy⟩ : ∃ y, ls[t]? = some y := ⟨_, List.getElem?_eq_getElem (by rw [HN.out]; omega)⟩
            obtain ⟨b, off, rfl, hL2⟩ := hL (by intro h0; rw [h0] at hx; simp at hx)
            have hb := hL2.1
            have h1 := (hB.cell hb).trans (hL2.at hx).1
            have h2 := (hB.cell hb).trans (hL2.at hy).1
            have hO1 := Lib.hid (fun hs => (show OrdTo ls (t + 1) from by subst hkt; exact hO.step hx hy hs))
            have hV := Lib.hid (fun hs => valid_bad (k := k) (by rw [HN.out]; omega) HF.out hx (by rw [hkt]; exact hy) hs)
            have hwt : IntKind.i64.wrap ((t : Int) - 1) = (k : Int) := by
              rw [show ((t : Int) - 1) = (k : Int) by omega]
              simp [IntKind.wrap, IntKind.signed, IntKind.bits]
              omega
            clear hx hy hL hL2 hO HF
            go_upto_region 12 with (fail)
            have hHeld : True := trivial
            refine wp_region_held_drew (S := fun w' => Below wr.drew.heap.size wr.drew w') (by kernel_rfl) (Below.refl _ _) (fun _ => ?_)
            have CB : Below w.heap.size w wr.drew := below_drew hB
            have C0 : ∀ w', Below wr.drew.heap.size wr.drew w' → w'.cell? ⟨b, off + k * 2, none⟩ = some (.string x.1) := fun w' h => (h.cell (Nat.lt_of_lt_of_le hb CB.size)).trans h1
            have C1 : ∀ w', Below wr.drew.heap.size wr.drew w' → w'.cell? ⟨b, off + t * 2, none⟩ = some (.string y.1) := fun w' h => (h.cell (Nat.lt_of_lt_of_le hb CB.size)).trans h2
            clear h1 h2 hB
            have hHeld : Below wr.drew.heap.size wr.drew wr.drew := Below.refl _ _
            generalize wr.drew = V0 at CB C0 C1 hHeld ⊢
            refine wt (i := 0) (oi := ⟨some 32, .move (.tmp 0), 33, "merkle.go:38", #[], none⟩) (v := .slice (some ⟨b, off, none⟩) n c) (Or.inl ⟨by rfl, fun w' hSw => by go_simp⟩) hHeld ?_
            try simp only [zP, zQ, zS, zZ, zC]
            refine wt (i := 1) (oi := ⟨some 33, .move (.tmp 5), 3, "merkle.go:38", #[], none⟩) (v := .int .i64 (t : Int)) (Or.inl ⟨by rfl, fun w' hSw => by go_simp⟩) hHeld ?_
            try simp only [zP, zQ, zS, zZ, zC]
            refine wt (i := 2) (oi := ⟨some 34, .binOp .sub 3 (.tmp 33) (.const (Value.int IntKind.i64 1)) 3, 3, "merkle.go:38", #[⟨1, .data⟩], none⟩) (v := .int .i64 (k : Int)) (Or.inl ⟨by rfl, fun w' hSw => by go_simp⟩) hHeld ?_
            try simp only [zP, zQ, zS, zZ, zC]
            refine wt (i := 3) (oi := ⟨some 35, .indexAddr 33 (.tmp 32) (.tmp 34), 0, "merkle.go:38", #[⟨0, .data⟩, ⟨2, .data⟩], none⟩) (v := .pointer (some ⟨b, off + k * 2, none⟩)) (Or.inl ⟨by rfl, fun w' hSw => by go_simp; try (intro hcm; exact absurd hcm (by omega))⟩) hHeld ?_
            try simp only [zP, zQ, zS, zZ, zC]
            refine wt (i := 4) (oi := ⟨some 36, .fieldAddr 41 (.tmp 35) 0, 0, "merkle.go:38", #[⟨3, .data⟩], none⟩) (v := .pointer (some ⟨b, off + k * 2, none⟩)) (Or.inl ⟨by rfl, fun w' hSw => by go_simp⟩) hHeld ?_
            try simp only [zP, zQ, zS, zZ, zC]
            refine wt (i := 5) (oi := ⟨some 37, .load 9 (.tmp 36), 9, "merkle.go:38", #[⟨4, .data⟩], none⟩) (v := .string x.1) (Or.inl ⟨by rfl, fun w' hSw => by have hc := C0 w' hSw; go_simp⟩) hHeld ?_
            try simp only [zP, zQ, zS, zZ, zC]
            refine wt (i := 6) (oi := ⟨some 38, .move (.tmp 0), 33, "merkle.go:38", #[], none⟩) (v := .slice (some ⟨b, off, none⟩) n c) (Or.inl ⟨by rfl, fun w' hSw => by go_simp⟩) hHeld ?_
            try simp only [zP, zQ, zS, zZ, zC]
            refine wt (i := 7) (oi := ⟨some 39, .move (.tmp 5), 3, "merkle.go:38", #[], none⟩) (v := .int .i64 (t : Int)) (Or.inl ⟨by rfl, fun w' hSw => by go_simp⟩) hHeld ?_
            try simp only [zP, zQ, zS, zZ, zC]
            refine wt (i := 8) (oi := ⟨some 40, .indexAddr 33 (.tmp 38) (.tmp 39), 0, "merkle.go:38", #[⟨6, .data⟩, ⟨7, .data⟩], none⟩) (v := .pointer (some ⟨b, off + t * 2, none⟩)) (Or.inl ⟨by rfl, fun w' hSw => by go_simp; try (intro hcm; exact absurd hcm (by omega))⟩) hHeld ?_
            try simp only [zP, zQ, zS, zZ, zC]
            refine wt (i := 9) (oi := ⟨some 41, .fieldAddr 41 (.tmp 40) 0, 0, "merkle.go:38", #[⟨8, .data⟩], none⟩) (v := .pointer (some ⟨b, off + t * 2, none⟩)) (Or.inl ⟨by rfl, fun w' hSw => by go_simp⟩) hHeld ?_
            try simp only [zP, zQ, zS, zZ, zC]
            refine wt (i := 10) (oi := ⟨some 42, .load 9 (.tmp 41), 9, "merkle.go:38", #[⟨9, .data⟩], none⟩) (v := .string y.1) (Or.inl ⟨by rfl, fun w' hSw => by have hc := C1 w' hSw; go_simp⟩) hHeld ?_
            try simp only [zP, zQ, zS, zZ, zC]
            refine wt (i := 11) (oi := ⟨some 43, .binOp .geq 9 (.tmp 37) (.tmp 42) 9, 4, "merkle.go:38", #[⟨5, .data⟩, ⟨10, .data⟩], none⟩) (v := .bool (!Op.bytesLess x.1.toList y.1.toList)) (Or.inl ⟨by rfl, fun w' hSw => by go_simp⟩) hHeld ?_
            try simp only [zP, zQ, zS, zZ, zC]
            refine wpAnyH_done (by kernel_rfl) ?_ _
            by_cases hs : Op.bytesLess x.1.toList y.1.toList
            · have hO2 := hO1.out hs
              rw [hs]
              go_wp2
              go_roundw
              case rel => exact ⟨t, t + 1, rfl, Or.inl (by omega), by go_num, hO2, CB⟩
              case measure => simp [intOf]; omega
            · have hs' : Op.bytesLess x.1.toList y.1.toList = false := by simpa using hs
              rw [hs']
              go_wp2
              go_ret
              exact ⟨by rw [hV.out hs']; rfl, CB⟩
          · have hV := valid_ok (k := t) (by rw [HN.out]; omega) HF.out hO (by rw [HN.out]; omega)
            go_wp2
            go_ret
            exact ⟨by rw [hV]; rfl, hB⟩

end Go.Proofs.YtfhfmdnimebegaaDoor

/-
  slices.Clone of leaves.
-/
namespace Go.Proofs.YtfhfmdnimebegaaDoor
open Go.RowKit
set_option linter.unusedVariables false
set_option linter.unusedSimpArgs false

def leavesV : List Lf → List Value
  | [] => []
  | x :: r => .string x.1 :: .string x.2 :: leavesV r
theorem leavesV_length : ∀ ls : List Lf, (leavesV ls).length = ls.length * 2
  | [] => rfl
  | x :: r => by simp only [leavesV, List.length_cons, leavesV_length r]; omega
theorem leavesV_at : ∀ (ls : List Lf) (i : Nat) (x : Lf), ls[i]? = some x → (leavesV ls)[2 * i]? = some (.string x.1) ∧ (leavesV ls)[2 * i + 1]? = some (.string x.2)
  | [], i, x, h => by simp at h
  | y :: r, 0, x, h => by
    obtain rfl : y = x := by simpa using h
    exact ⟨rfl, rfl⟩
  | y :: r, i + 1, x, h => by
    have := leavesV_at r i x (by simpa using h)
    simp only [leavesV, show 2 * (i + 1) = 2 * i + 1 + 1 by omega, List.getElem?_cons_succ]
    exact this
theorem leavesV_cell : ∀ (ls : List Lf) (j : Nat) (u : Value), (leavesV ls)[j]? = some u → ∃ i x, ls[i]? = some x ∧ (j = 2 * i ∧ u = .string x.1 ∨ j = 2 * i + 1 ∧ u = .string x.2)
  | [], j, u, h => by simp [leavesV] at h
  | y :: r, 0, u, h => ⟨0, y, rfl, Or.inl ⟨rfl, by simpa [leavesV] using h.symm⟩⟩
  | y :: r, 1, u, h => ⟨0, y, rfl, Or.inr ⟨rfl, by simpa [leavesV] using h.symm⟩⟩
  | y :: r, j + 2, u, h => by
    obtain ⟨i, x, hx, e⟩ := leavesV_cell r j u (by simpa [leavesV] using h)
    refine ⟨i + 1, x, by simpa using hx, ?_⟩
    rcases e with ⟨rfl, e⟩ | ⟨rfl, e⟩
    · exact Or.inl ⟨by omega, e⟩
    · exact Or.inr ⟨by omega, e⟩
/-- Leaves in a block that begins with them. -/
theorem lvs_of_row {w : World} {B : Nat} {v : Value} {n : Nat} {ls : List Lf} {t : TypeId} (hl : ls.length = n) (h : w.ownsRow B t 2 v n (leavesV ls)) (hv : v ≠ .slice none 0 0) : ∃ g cap, v = .slice (some ⟨g, 0, none⟩) n cap ∧ B ≤ g ∧ n ≤ cap ∧ Lvs w g 0 ls := by
  obtain ⟨h1, ⟨e, _⟩ | ⟨g, cap, cur, rfl, hB, hg, hc, hm, hs, ht⟩⟩ := h
  · exact absurd e hv
  refine ⟨g, cap, rfl, hB, hc, (Array.getElem?_eq_some_iff.1 hg).1, fun i x hx => ?_⟩
  have hcell : ∀ j u, (leavesV ls)[j]? = some u → w.cell? ⟨g, 0 + j, none⟩ = some u := by
    intro j u hj
    rw [← ht, List.getElem?_take] at hj
    split at hj
    · rw [Nat.zero_add]
      exact Blk.cell (w := w) (b := g) (t := t) (cs := cur.toList) hg hj
    · cases hj
  exact ⟨hcell _ _ (leavesV_at ls i x hx).1, hcell _ _ (leavesV_at ls i x hx).2⟩
def zeroLeaf : Value := .agg #[.string ByteArray.empty, .string ByteArray.empty]
theorem leafinfo : (Tryd.prog.info? 41).map (fun i => (i.zero, i.size, i.bytes)) = some (some zeroLeaf, 2, 32) := by kernel_rfl

set_option maxHeartbeats 1000000 in
set_option maxRecDepth 100000 in
theorem clone_any (ls : List Lf) (b off n c : Nat) (hl : ls.length = n) (hn : n ≤ 4096) (w : World) (hL : Lvs w b off ls) :
    Calls Tryd.prog 53 #[.slice (some ⟨b, off, none⟩) n c] w fun e w' => ∃ g cap, e = .returned (.slice (some ⟨g, 0, none⟩) n cap) ∧ w.heap.size ≤ g ∧ n ≤ cap ∧ Lvs w' g 0 ls ∧ Below w.heap.size w w' := by
  obtain ⟨i0, hi, hz0, hz1, hz2⟩ := info_parts leafinfo
  have q22 : ∀ (w : World) (a : Option Addr) (n c n' c' : Nat), (binOp .eql 33 (.slice a n c) (.slice none n' c')).run Tryd.prog w = .ok (.bool a.isNone) w := fun w a n c n' c' => Lib.run_eql_slice_nil w _ _ a n c n' c' Tryd.underlying33
  have hlen := leavesV_length ls
  rw [hl] at hlen
  have HC := Lib.hid (show ∀ j u, (leavesV ls)[j]? = some u → w.cell? ⟨b, off + j, none⟩ = some u from fun j u hj => by
    obtain ⟨i, x, hx, ⟨rfl, rfl⟩ | ⟨rfl, rfl⟩⟩ := leavesV_cell ls j u hj
    · exact (hL.2 i x hx).1
    · exact (hL.2 i x hx).2)
  have HO := Lib.hid (show ∀ u ∈ leavesV ls, u.oneCell' = true from fun u hu => by
    obtain ⟨j, hj⟩ := List.mem_iff_getElem?.1 hu
    obtain ⟨i, x, _, ⟨_, rfl⟩ | ⟨_, rfl⟩⟩ := leavesV_cell ls j u hj <;> rfl)
  have HR := Lib.hid (fun (V : World) (v : Value) (h : V.ownsRow w.heap.size 41 2 v n (leavesV ls)) (hv : v ≠ .slice none 0 0) => lvs_of_row hl h hv)
  clear hl hL
  generalize leavesV ls = news at hlen HC HO HR
  go_enter Tryd.func53, Tryd.ntmps53
  go_wp2_with (at_builtin; refine wpList_append_own _ rfl _ _ 33 rfl w.heap.size 41 i0 zeroLeaf 2 32 Tryd.underlying33 hi hz0 hz1 hz2 rfl (by decide) _ _ _ rfl (World.ownsRow_made w #[] 0 (Nat.le_refl _) (Nat.zero_le _) (by simp)) ⟨b, off, none⟩ n c news rfl ?qc1 ?qc2 ?qc3 ?qc4 ?qc5 ?qc6 ?_)
  case qc1 => exact hlen
  case qc2 =>
    intro j u hj
    rw [Addr.add_lit]
    exact Lib.cell?_alloc_some _ (HC.out j u hj)
  case qc3 => exact HO.out
  case qc4 => unfold maxLen; omega
  case qc5 => omega
  case qc6 => simp
  intro v' w1 hown hgrow hnil
  have hB : Below w.heap.size w w1 := ((Below.refl _ w).alloc (Nat.le_refl _) _).grown hgrow (by simp) (by intro k hk; simp [Value.ownBlock] at hk; omega)
  obtain ⟨g, cap, rfl, h1, h2, h3⟩ := HR.out w1 v' (by simpa using hown) hnil
  clear hown hgrow hnil HR
  go_wp2
  go_ret
  exact ⟨g, cap, rfl, h1, h2, h3, hB⟩

theorem clone_nil (n c : Nat) (w : World) :
    Calls Tryd.prog 53 #[.slice none n c] w fun e w' => e = .returned (.slice none 0 0) ∧ w' = w := by
  have q22 : ∀ (w : World) (a : Option Addr) (n c n' c' : Nat), (binOp .eql 33 (.slice a n c) (.slice none n' c')).run Tryd.prog w = .ok (.bool a.isNone) w := fun w a n c n' c' => Lib.run_eql_slice_nil w _ _ a n c n' c' Tryd.underlying33
  go_enter Tryd.func53, Tryd.ntmps53
  go_wp2
  go_ret
  exact ⟨rfl, rfl⟩

end Go.Proofs.YtfhfmdnimebegaaDoor

/-
  merkle.top: the root for a number of leaves and the digest of all.
-/
namespace Go.Proofs.YtfhfmdnimebegaaDoor
open Go.RowKit
set_option linter.unusedVariables false
set_option linter.unusedSimpArgs false

/-- The root for n leaves, where all is the digest of the row of all of them. -/
def topD (n : Nat) (all : List Nat) : List Nat := if n = 0 then ofS 4 [enc 0] else ofS 4 [enc (n : Int), all]
theorem topD_dgt (n : Nat) (all : List Nat) : Dgt (topD n all) := by
  unfold topD
  split <;> exact dig_ofS _ _
theorem Blk.keepB {w w' : World} {b B : Nat} {t : TypeId} {cs : List Value} (h : Blk w b t cs) (hb : b < B) (hB : Below B w w') : Blk w' b t cs := by
  unfold Blk
  rw [hB.block b hb]
  exact h
theorem one_sb {l : List Nat} (hl : ∀ y ∈ l, y < 256) : sbs [strOf l] = [l] := by simp [sbs, sb_strOf l hl]
theorem one_size {l : List Nat} (hl : l.length ≤ 100) : ∀ s ∈ [strOf l], s.size ≤ 1048576 := by
  intro s hs
  obtain rfl := List.mem_singleton.1 hs
  rw [strOf_size]
  omega

set_option maxHeartbeats 2000000 in
set_option maxRecDepth 100000 in
theorem top_zero (x : List Nat) (hx : Dgt x) (w : World) (hG : Glob w) :
    Calls Tryd.prog 41 #[.int .i64 0, .agg (bytesV x).toArray] w fun e w' => e = .returned (.agg (bytesV (topD 0 x)).toArray) ∧ Below w.heap.size w w' := by
  have hz1 := zero_dig'
  have hEb := enc_lt 0 (by omega) (by omega)
  have hEl := (enc_length 0 (by omega) (by omega)).2
  have HI := Lib.hid (fun w0 => int_any 0 (by omega) (by omega) w0)
  have hMd : Dgt (topD 0 x) := topD_dgt _ _
  have HM : Hid (ofS 4 [enc 0] = topD 0 x) := Lib.hid rfl
  generalize topD 0 x = M at HM hMd ⊢
  generalize enc 0 = E at hEb hEl HI HM
  have hvM : (bytesV M).length = 16 := by rw [bytesV_length]; exact hMd.1
  have hvz : (bytesV z16).toArray.toList.length = 16 := rfl
  go_enter Tryd.func41, Tryd.ntmps41
  go_upto_region 2 with (fail)
  generalize hw0 : World.alloc _ _ = W0
  have K4 : Blk W0 (w.heap.size + 1) 29 (bytesV z16) := hw0 ▸ blk_new1 w _ _ _
  have KB : Below w.heap.size w W0 := hw0 ▸ (((Below.refl _ _).alloc (Nat.le_refl _) _).alloc (by simp) _)
  clear hw0 hz1
  go_wp2_with (first
    | (go_at_call 38; refine (HI.out _).mono ?_; rintro e V1 ⟨gi, ci, rfl, hOi⟩; have hI := hOi.has hEb; have hB1 := hOi.below; have kv := conv_any (some ⟨gi, 0, none⟩) E E.length ci V1 rfl hI; clear hOi hI)
    | (go_at_call 57; refine (of_lit 4 (by omega) [strOf E] (by simp) (one_size (by omega)) _ rfl 1 rfl V1 (hG.keep (link KB hB1))).mono ?_; rintro e V2 ⟨rfl, hB2⟩; rw [one_sb hEb, HM.out])
    | (refine store_blk rfl 29 (.tmp 4) (.tmp 10) rfl ((K4.keep hB1).keep hB2) rfl rfl (m := 16) (by kernel_rfl) hvM hvz (bytesV_cells M) ?_; intro W3 K3 O3))
  exact bodyPost_ret (v := .agg (bytesV M).toArray) (K3.result (p := 4) (ty := 29) rfl _ rfl Tryd.underlying29 (by rw [hvM]; kernel_rfl)) rfl ⟨rfl, O3.2.2 _ _ (by omega) (link (link KB hB1) hB2)⟩

set_option maxHeartbeats 2000000 in
set_option maxRecDepth 100000 in
theorem top_many (n : Nat) (h1 : 1 ≤ n) (hn : n ≤ 4096) (x : List Nat) (hx : Dgt x) (w : World) (hG : Glob w) :
    Calls Tryd.prog 41 #[.int .i64 (n : Int), .agg (bytesV x).toArray] w fun e w' => e = .returned (.agg (bytesV (topD n x)).toArray) ∧ Below w.heap.size w w' := by
  have hz1 := zero_dig'
  have hEb := enc_lt (n : Int) (by omega) (by omega)
  have hEl := (enc_length (n : Int) (by omega) (by omega)).2
  have HI := Lib.hid (fun w0 => int_any (n : Int) (by omega) (by omega) w0)
  have hMd : Dgt (topD n x) := topD_dgt _ _
  have HM : Hid (ofS 4 [enc (n : Int), x] = topD n x) := Lib.hid (by unfold topD; rw [if_neg (by omega)])
  generalize topD n x = M at HM hMd ⊢
  generalize enc (n : Int) = E at hEb hEl HI HM
  have hn0 : ¬ n = 0 := by omega
  go_enter Tryd.func41, Tryd.ntmps41
  go_upto_region 3 with (fail)
  generalize hw0 : World.alloc _ _ = W0
  have K3 : Blk W0 w.heap.size 29 (bytesV x) := hw0 ▸ ((blk_new w _ _).alloc _)
  have K4 : Blk W0 (w.heap.size + 1) 29 (bytesV z16) := hw0 ▸ blk_new1 w _ _ _
  have KB : Below w.heap.size w W0 := hw0 ▸ (((Below.refl _ _).alloc (Nat.le_refl _) _).alloc (by simp) _)
  have hsz0 : w.heap.size + 1 + 1 ≤ W0.heap.size := by rw [← hw0]; simp
  clear hw0 hz1
  have hsl := slice_dig
  have hHeld : True := trivial
  refine wp_region_held_drew (S := fun w' => Below (w.heap.size + 1) W0.drew w') (by kernel_rfl) (Below.refl _ _) (fun _ => ?_)
  have L3 : Blk W0.drew w.heap.size 29 (bytesV x) := K3
  have L4 : Blk W0.drew (w.heap.size + 1) 29 (bytesV z16) := K4
  have CB : Below w.heap.size w W0.drew := below_drew KB
  have hv0 : w.heap.size + 1 ≤ W0.drew.heap.size := by show w.heap.size + 1 ≤ W0.heap.size; omega
  clear K3 K4 KB
  generalize W0.drew = V0 at L3 L4 CB hv0 ⊢
  have hHeld : Below (w.heap.size + 1) V0 V0 := Below.refl _ _
  have CD : ∀ w', Below (w.heap.size + 1) V0 w' → (convert 39 9 (.slice (some ⟨w.heap.size, 0, none⟩) 16 16)).run Tryd.prog w' = .ok (.string (strOf x)) w' := fun w' h => conv_dig (L3.keepB (by omega) h) hx.1 hx.2
  refine wt (i := 0) (oi := ⟨some 11, .move (.tmp 0), 3, "merkle.go:69", #[], none⟩) (v := .int .i64 (n : Int)) (Or.inl ⟨by rfl, fun w' hSw => by go_simp⟩) hHeld ?_
  try simp only [zP, zQ, zS, zZ, zC]
  refine wt (i := 3) (oi := ⟨some 14, .slice 29 (.tmp 3) none none none, 39, "merkle.go:69", #[], none⟩) (v := .slice (some ⟨w.heap.size, 0, none⟩) 16 16) (Or.inl ⟨by rfl, fun w' hSw => by go_simp⟩) hHeld ?_
  try simp only [zP, zQ, zS, zZ, zC]
  refine wt (i := 4) (oi := ⟨some 15, .convert 39 9 (.tmp 14), 9, "merkle.go:69", #[⟨3, .data⟩], none⟩) (v := .string (strOf x)) (Or.inl ⟨by rfl, fun w' hSw => by have kv := CD w' hSw; go_simp⟩) hHeld ?_
  try simp only [zP, zQ, zS, zZ, zC]
  refine wpAnyH_ready (rs := [1]) (by kernel_rfl) (by simp) ?_
  refine AllReadyH.cons (o := ⟨some 12, .call { callee := .value (.func 38), args := #[.tmp 11], argTypes := #[3] }, 39, "merkle.go:69", #[⟨0, .data⟩], none⟩) rfl (fun K hK => ?_) AllReadyH.nil
  rw [if_pos (by rfl)]
  go_simp
  refine (HI.out V0).mono ?_
  rintro e V1 ⟨gi, ci, rfl, hOi⟩
  have hI := hOi.has hEb
  have hB1 := hOi.below
  have kv := conv_any (some ⟨gi, 0, none⟩) E E.length ci V1 rfl hI
  clear hOi hI
  dsimp only
  refine hK.out _ _ (hB1.mono hv0) (fun hHeld => ?_)
  clear hK K
  try simp only [zP, zQ, zS, zZ, zC]
  refine wpAnyH_ready (rs := [2]) (by kernel_rfl) (by simp) ?_
  refine AllReadyH.cons (o := ⟨some 13, .convert 39 9 (.tmp 12), 9, "merkle.go:69", #[⟨1, .data⟩], none⟩) rfl (fun K hK => ?_) AllReadyH.nil
  rw [if_pos (by rfl)]
  go_simp
  clear kv
  refine hK.out _ _ (hHeld) (fun hHeld => ?_)
  clear hK K
  try simp only [zP, zQ, zS, zZ, zC]
  refine wpAnyH_ready (rs := [5]) (by kernel_rfl) (by simp) ?_
  refine AllReadyH.cons (o := ⟨some 16, .buildSlice 47 2 #[(0, .tmp 13), (1, .tmp 15)], 47, "merkle.go:69", #[⟨2, .data⟩, ⟨4, .data⟩], none⟩) rfl (fun K hK => ?_) AllReadyH.nil
  rw [if_pos (by rfl)]
  go_simp
  refine hK.out _ _ (hHeld.alloc (by have := hB1.size; omega) _) (fun hHeld => ?_)
  clear hK K
  try simp only [zP, zQ, zS, zZ, zC]
  refine wpAnyH_ready (rs := [6]) (by kernel_rfl) (by simp) ?_
  refine AllReadyH.cons (o := ⟨some 17, .call { callee := .value (.func 57), args := #[.const (Value.int IntKind.i64 4), .tmp 16], argTypes := #[3, 47] }, 29, "merkle.go:69", #[⟨5, .data⟩, ⟨1, .chain⟩], none⟩) rfl (fun K hK => ?_) AllReadyH.nil
  rw [if_pos (by rfl)]
  go_simp
  refine (of_lit 4 (by omega) [strOf E, strOf x] (by simp) (two_size (by omega) hx.1) _ rfl 2 rfl V1 (hG.keep (CB.trans (hB1.mono (by omega))))).mono ?_
  rintro e V2 ⟨rfl, hB2⟩
  rw [two_sbs hEb hx.2, HM.out]
  dsimp only
  have hBB := hB1.trans (hB2.mono hB1.size)
  refine hK.out _ _ (hBB.mono hv0) (fun hHeld => ?_)
  clear hK K
  try simp only [zP, zQ, zS, zZ, zC]
  have hvM : (bytesV M).length = 16 := by rw [bytesV_length]; exact hMd.1
  have hvz : (bytesV z16).length = 16 := rfl
  have K4 := L4.keep hBB
  have hst := K4.storeRun (vs := bytesV M) (by rw [hvM, hvz]) (bytesV_cells M)
  have CS := (only_sets (w.heap.size + 1) 0 V2 (bytesV M)).2.2 _ _ (Nat.le_refl _) (hBB.mono hv0)
  refine wpAnyH_ready (rs := [7]) (by kernel_rfl) (by simp) ?_
  refine AllReadyH.cons (o := ⟨none, .store 29 (.tmp 4) (.tmp 17), 0, "merkle.go:69", #[⟨6, .data⟩, ⟨6, .chain⟩, ⟨0, .phase⟩, ⟨1, .phase⟩, ⟨2, .phase⟩, ⟨3, .phase⟩, ⟨4, .phase⟩, ⟨5, .phase⟩, ⟨6, .phase⟩], none⟩) rfl (fun K hK => ?_) AllReadyH.nil
  rw [if_pos (by rfl)]
  go_simp
  refine hK.out _ _ (CS) (fun hHeld => ?_)
  clear hK K
  try simp only [zP, zQ, zS, zZ, zC]
  refine wpAnyH_done (by kernel_rfl) ?_ _
  have K9 : Blk (V2.setCells (w.heap.size + 1) 0 (bytesV M)) (w.heap.size + 1) 29 (bytesV M) := K4.all (by rw [hvM, hvz])
  have CB1 : Below w.heap.size w (V2.setCells (w.heap.size + 1) 0 (bytesV M)) := CB.trans (CS.mono (by omega))
  clear hst K4 L4 CB CS hHeld
  generalize World.setCells _ _ _ _ = wy at K9 CB1 ⊢
  go_wp2
  exact bodyPost_ret (v := .agg (bytesV M).toArray) (K9.result (p := 4) (ty := 29) rfl _ rfl Tryd.underlying29 (by rw [hvM]; kernel_rfl)) rfl ⟨rfl, CB1⟩

end Go.Proofs.YtfhfmdnimebegaaDoor

/-
  merkle.Root.
-/
namespace Go.Proofs.YtfhfmdnimebegaaDoor
open Go.RowKit
set_option linter.unusedVariables false
set_option linter.unusedSimpArgs false

theorem Blk.loadVar {w : World} {b : Nat} {t ty : TypeId} {cs : List Value} (h : Blk w b t cs) {n : Nat} {e : TypeId} (hu : Tryd.prog.underlying ty = some (.array n e)) (hi : (Tryd.prog.info? ty).map (·.size) = some cs.length) : (Go.loadVar ty ⟨b, 0, none⟩).run Tryd.prog w = .ok (.agg cs.toArray) w :=
  run_loadVar_row w b t ty cs.toArray (0, 0) (.array n e) h hu rfl (by simpa using hi)
theorem results_two {fn : Func} {p q : Tmp} {ty ty' : TypeId} (h : fn.results = #[.cell p ty, .cell q ty']) (tmps : Array Value) (w : World) {b b' : Nat} {v v' : Value}
    (hp : tmps.getD p undef = .pointer (some ⟨b, 0, none⟩)) (hq : tmps.getD q undef = .pointer (some ⟨b', 0, none⟩)) (hv : (Go.loadVar ty ⟨b, 0, none⟩).run Tryd.prog w = .ok v w) (hv' : (Go.loadVar ty' ⟨b', 0, none⟩).run Tryd.prog w = .ok v' w) :
    (results fn tmps).run Tryd.prog w = .ok (.tuple #[v, v']) w := by
  have hp' : tmps[p]?.getD undef = .pointer (some ⟨b, 0, none⟩) := by simpa using hp
  have hq' : tmps[q]?.getD undef = .pointer (some ⟨b', 0, none⟩) := by simpa using hq
  simp [results, h, hp', hq', asAddr, hv, hv', Sem.run_bind]
theorem results_and {fn : Func} {p q : Tmp} {ty : TypeId} (h : fn.results = #[.cell p ty, .tmp q]) (tmps : Array Value) (w : World) {b : Nat} {v v' : Value}
    (hp : tmps.getD p undef = .pointer (some ⟨b, 0, none⟩)) (hq : tmps.getD q undef = v') (hv : (Go.loadVar ty ⟨b, 0, none⟩).run Tryd.prog w = .ok v w) :
    (results fn tmps).run Tryd.prog w = .ok (.tuple #[v, v']) w := by
  have hp' : tmps[p]?.getD undef = .pointer (some ⟨b, 0, none⟩) := by simpa using hp
  have hq' : tmps[q]?.getD undef = v' := by simpa using hq
  simp [results, h, hp', hq', asAddr, hv, Sem.run_bind]
theorem build_zero (w : World) : (Instr.build 29 #[]).run Tryd.prog w = .ok (.agg (bytesV z16).toArray) w := by kernel_rfl

/-- The root of leaves. -/
def rootL (ls : List Lf) : List Nat := topD ls.length (rowM ls)
theorem rootL_dgt (ls : List Lf) : Dgt (rootL ls) := topD_dgt _ _
theorem valid_zero {ls : List Lf} (h : validM ls = 0) : ls.length ≤ 4096 ∧ ls.all fits = true ∧ ordered ls = true := by
  unfold validM at h
  split at h
  · omega
  · rename_i h1
    split at h
    · rename_i h2
      split at h
      · rename_i h3
        exact ⟨by omega, h2, h3⟩
      · omega
    · omega
theorem small_of {ls : List Lf} (h : ls.all fits = true) : Small ls := by
  intro x hx
  have := List.all_eq_true.1 h x hx
  simp [fits] at this
  exact ⟨by omega, by omega⟩

set_option maxHeartbeats 2000000 in
set_option maxRecDepth 100000 in
theorem root_no (ls : List Lf) (p : Option Addr) (n c : Nat) (hl : ls.length = n) (hv : validM ls ≠ 0) (w : World) (hL : OwnL w p ls) :
    Calls Tryd.prog 11 #[.slice p n c] w fun e w' => e = .returned (.tuple #[.agg (bytesV z16).toArray, .int .i64 (validM ls)]) ∧ Below w.heap.size w w' := by
  have hz1 := zero_dig'
  have hz2 := build_zero
  have hvz : (bytesV z16).length = 16 := rfl
  have hz16 : (bytesV z16).toArray.toList.length = 16 := rfl
  have HV := Lib.hid (fun w0 (hB : Below w.heap.size w w0) => valid_any ls p n c hl w0 (hL.keep hB))
  clear hl hL
  generalize validM ls = v at hv HV ⊢
  go_enter Tryd.func11, Tryd.ntmps11
  go_upto_region 1 with (fail)
  generalize hw1 : World.alloc _ _ = W0
  have K2 : Blk W0 w.heap.size 29 (bytesV z16) := hw1 ▸ (blk_new w _ _)
  have KB : Below w.heap.size w W0 := hw1 ▸ ((Below.refl _ _).alloc (Nat.le_refl _) _)
  clear hw1 hz1
  go_wp2_with (first
    | (go_at_call 14; refine (HV.out _ KB).mono ?_; rintro e W1 ⟨rfl, hB1⟩)
    | (refine store_blk rfl 29 (.tmp 2) (.tmp 9) rfl (K2.keep hB1) rfl rfl (m := 16) (by kernel_rfl) hvz hz16 (bytesV_cells z16) ?_; intro W2 K3 O3))
  exact bodyPost_ret (v := .tuple #[.agg (bytesV z16).toArray, .int .i64 v]) (results_and (p := 2) (q := 3) (ty := 29) rfl _ _ rfl rfl (K3.loadVar Tryd.underlying29 (by kernel_rfl))) rfl ⟨rfl, O3.2.2 _ _ (Nat.le_refl _) (link KB hB1)⟩

set_option maxHeartbeats 2000000 in
set_option maxRecDepth 100000 in
theorem root_nil (p : Option Addr) (c : Nat) (w : World) (hG : Glob w) :
    Calls Tryd.prog 11 #[.slice p 0 c] w fun e w' => e = .returned (.tuple #[.agg (bytesV (rootL [])).toArray, .int .i64 0]) ∧ Below w.heap.size w w' := by
  have hz1 := zero_dig'
  have hz2 := build_zero
  have hvz : (bytesV z16).length = 16 := rfl
  have hz16 : (bytesV z16).toArray.toList.length = 16 := rfl
  have HV := Lib.hid (fun w0 => valid_any [] p 0 c rfl w0 (fun h => absurd rfl h))
  have HT := Lib.hid (fun w0 (g : Glob w0) => (show _ from top_zero z16 ⟨rfl, by decide⟩ w0 g : Calls Tryd.prog 41 #[.int .i64 0, .agg (bytesV z16).toArray] w0 fun e w' => e = .returned (.agg (bytesV (rootL [])).toArray) ∧ Below w0.heap.size w0 w'))
  have hMd := rootL_dgt []
  rw [show validM [] = 0 from rfl] at HV
  generalize rootL [] = D at HT hMd ⊢
  have hvD : (bytesV D).length = 16 := by rw [bytesV_length]; exact hMd.1
  go_enter Tryd.func11, Tryd.ntmps11
  go_upto_region 1 with (fail)
  generalize hw1 : World.alloc _ _ = W0
  have K2 : Blk W0 w.heap.size 29 (bytesV z16) := hw1 ▸ (blk_new w _ _)
  have KB : Below w.heap.size w W0 := hw1 ▸ ((Below.refl _ _).alloc (Nat.le_refl _) _)
  clear hw1 hz1
  go_wp2_with (first
    | (go_at_call 14; refine (HV.out _).mono ?_; rintro e W1 ⟨rfl, hB1⟩)
    | (go_at_call 41; refine (HT.out _ (hG.keep (link KB hB1))).mono ?_; rintro e W2 ⟨rfl, hB2⟩)
    | (refine store_blk rfl 29 (.tmp 2) (.tmp 15) rfl ((K2.keep hB1).keep hB2) rfl rfl (m := 16) (by kernel_rfl) hvD hz16 (bytesV_cells D) ?_; intro W3 K3 O3))
  exact bodyPost_ret (v := .tuple #[.agg (bytesV D).toArray, .int .i64 0]) (results_and (p := 2) (q := 3) (ty := 29) rfl _ _ rfl rfl (K3.loadVar Tryd.underlying29 (by rw [hvD]; kernel_rfl))) rfl ⟨rfl, O3.2.2 _ _ (Nat.le_refl _) (link (link KB hB1) hB2)⟩

set_option maxHeartbeats 2000000 in
set_option maxRecDepth 100000 in
theorem root_yes (ls : List Lf) (p : Option Addr) (n c : Nat) (hl : ls.length = n) (hc : n ≤ c) (h0 : validM ls = 0) (w : World) (hG : Glob w) (hL : OwnL w p ls) :
    Calls Tryd.prog 11 #[.slice p n c] w fun e w' => e = .returned (.tuple #[.agg (bytesV (rootL ls)).toArray, .int .i64 0]) ∧ Below w.heap.size w w' := by
  rcases Nat.eq_zero_or_pos n with hn | hn
  · subst hn
    obtain rfl := List.eq_nil_of_length_eq_zero hl
    exact root_nil p c w hG
  obtain ⟨hn4, hfit, _⟩ := valid_zero h0
  have hS := small_of hfit
  have hz1 := zero_dig'
  have hz16 : (bytesV z16).toArray.toList.length = 16 := rfl
  obtain ⟨b, off, rfl, hL2⟩ := hL (by intro h; rw [h] at hl; simp at hl; omega)
  have HV := Lib.hid (fun w0 (hB : Below w.heap.size w w0) => valid_any ls (some ⟨b, off, none⟩) n c hl w0 (hL.keep hB))
  have hd : Dgt (rowM ls) := rowM_dgt _ _ (Nat.le_refl _) (by omega)
  have HR := Lib.hid (fun w0 (hB : Below w.heap.size w w0) => mrow_any n hn (by omega) ls b off c w0 hl hc (hG.keep hB) (hL2.keep hB) hS)
  have HT := Lib.hid (fun w0 (g : Glob w0) => top_many n hn (by omega) (rowM ls) hd w0 g)
  have hMd := rootL_dgt ls
  have HE : Hid (topD n (rowM ls) = rootL ls) := Lib.hid (by unfold rootL; rw [hl])
  rw [h0] at HV
  generalize rowM ls = R at HR HT HE hd
  rw [HE.out] at HT
  generalize rootL ls = D at HT hMd HE ⊢
  clear hl hL hL2 hS hfit h0 HE
  have hne : ¬ n = 0 := by omega
  have hvD : (bytesV D).length = 16 := by rw [bytesV_length]; exact hMd.1
  go_enter Tryd.func11, Tryd.ntmps11
  go_upto_region 1 with (fail)
  generalize hw1 : World.alloc _ _ = W0
  have K2 : Blk W0 w.heap.size 29 (bytesV z16) := hw1 ▸ (blk_new w _ _)
  have KB : Below w.heap.size w W0 := hw1 ▸ ((Below.refl _ _).alloc (Nat.le_refl _) _)
  clear hw1 hz1
  go_wp2_with (first
    | (go_at_call 14; refine (HV.out _ KB).mono ?_; rintro e W1 ⟨rfl, hB1⟩)
    | (go_at_call 42; refine (HR.out _ (link KB hB1)).mono ?_; rintro e W2 ⟨rfl, hB2⟩)
    | (go_at_call 41; refine (HT.out _ (hG.keep (link (link KB hB1) hB2))).mono ?_; rintro e W4 ⟨rfl, hB4⟩)
    | (refine store_blk rfl 29 (.tmp 2) (.tmp 20) rfl (((K2.keep hB1).keep hB2).keep hB4) rfl rfl (m := 16) (by kernel_rfl) hvD hz16 (bytesV_cells D) ?_; intro W3 K3 O3))
  exact bodyPost_ret (v := .tuple #[.agg (bytesV D).toArray, .int .i64 0]) (results_and (p := 2) (q := 3) (ty := 29) rfl _ _ rfl rfl (K3.loadVar Tryd.underlying29 (by rw [hvD]; kernel_rfl))) rfl ⟨rfl, O3.2.2 _ _ (Nat.le_refl _) (link (link (link KB hB1) hB2) hB4)⟩

end Go.Proofs.YtfhfmdnimebegaaDoor
