/-
  lost of the reference: whether a slip changes no sum.
-/
import Derived.Test.YtjpiidfoegaenaaEl
namespace Go.Proofs.Ytjpiidfoegaenaa
open Go Go.RowKit
set_option linter.unusedVariables false
set_option linter.unusedSimpArgs false

def BoolB (b : Bool) (w : World) (e : Ending) (w' : World) : Prop := e = .returned (.bool b) ∧ Below w.heap.size w w'
theorem row_map (L : List Int) : intE.row L = L.map (Value.int .i64) := by
  induction L with
  | nil => rfl
  | cons x L ih => show Value.int .i64 x :: intE.row L = _; rw [ih]; rfl
theorem zeros_map (n : Nat) : (zeros n).toList = (List.replicate n (0 : Int)).map (Value.int .i64) := by rw [← row_zeros, row_map]
theorem ints_blk {V : World} {b : Nat} {L : List Int} {m : Int} (h : Blk V b 3 (L.map (Value.int .i64))) (hb : belowT L m = true) (hm : m ≤ 1024) : IntsAt V (some ⟨b, 0, none⟩) L :=
  (at_blk (E := intE) h (by rw [row_map]; exact List.take_of_length_le (by rw [List.length_map]; show _ ≤ _ * 1; omega))).ints fun q hq => by have := belowT_mem hb q hq; omega
theorem below_set {L : List Int} {m d : Int} (h : belowT L m = true) (i : Nat) (hd : 0 ≤ d ∧ d < m) : belowT (L.set i d) m = true := belowT_of fun q hq => by
  rcases List.mem_or_eq_of_mem_set hq with h1 | h1
  · exact belowT_mem h q h1
  · rw [h1]; exact hd
theorem below_zeros (n : Nat) {m : Int} (hm : 2 ≤ m) : belowT (List.replicate n 0) m = true := belowT_of fun q hq => by rw [(List.mem_replicate.1 hq).2]; omega
set_option maxHeartbeats 4000000 in
set_option maxRecDepth 100000 in
theorem lost1 (W : List Int) (m : Int) (hm : 2 ≤ m) (hm2 : m ≤ 1024) (hb : belowT W m = true) (A : Option Addr) (n c : Nat) (hl : W.length = n) (hn : n ≤ 1000) (i : Nat) (hi : i < n) (d : Int) (hd : 0 ≤ d ∧ d < m) (w : World) (hA : IntsAt w A W) :
    Calls Try.prog 39 #[.slice A n c, .int .i64 m, .agg #[.int .i64 (i : Int), .int .i64 (-1), .int .i64 0, .int .i64 d]] w (BoolB (decide (dotT W ((List.replicate n (0 : Int)).set i 0) % m = dotT W ((List.replicate n (0 : Int)).set i d) % m)) w) := by
  have hmk := fun V : World => mk_int n (by omega) V
  have b4 {L : List Int} (h : belowT L m = true) : belowT L 1024 = true := belowT_of fun q hq => by have := belowT_mem h q hq; omega
  have z0 := below_zeros n hm
  have bO : belowT ((List.replicate n (0 : Int)).set i 0) m = true := below_set z0 i (by omega)
  have bN : belowT ((List.replicate n (0 : Int)).set i d) m = true := below_set z0 i hd
  have lO : ((List.replicate n (0 : Int)).set i 0).length = n := by simp
  have lN : ((List.replicate n (0 : Int)).set i d).length = n := by simp
  have CT := Lib.hid (fun (L : List Int) (hL : L.length = n) (hb' : belowT L m = true) (V : World) (q : Option Addr) (hV : Below w.heap.size w V) (hq : IntsAt V q L) => rtotal_any W L m hm A n c hl hn q n hL (b4 hb) (b4 hb') V (hA.keep hV) hq)
  have hiz : (i : Int) < (n : Int) := by omega
  have HHd := Lib.hid hd
  clear hl hb b4 hA
  go_enter Try.func39, Try.ntmps39
  go_upto_region 1 with (fail)
  have k5 := blk_new w 38 #[.int .i64 (i : Int), .int .i64 (-1), .int .i64 0, .int .i64 d]
  have X : Below w.heap.size w (w.alloc (.cells #[.int .i64 (i : Int), .int .i64 (-1), .int .i64 0, .int .i64 d] 38)) := (Below.refl _ _).alloc (Nat.le_refl _) _
  have g5 : w.heap.size ≤ w.heap.size := Nat.le_refl _
  generalize w.alloc _ = V1 at k5 X ⊢
  obtain ⟨b5, hb5⟩ : ∃ b, b = w.heap.size := ⟨_, rfl⟩
  rw [← hb5] at k5 ⊢
  have H5 := Lib.hid hb5
  clear hb5 g5
  go_upto_region 2 with (fail)
  have k7 := blk_new V1 3 (zeros n)
  rw [zeros_map] at k7
  have X7 : Below V1.heap.size V1 (V1.alloc (.cells (zeros n) 3)) := (Below.refl _ _).alloc (Nat.le_refl _) _
  have n57 := Nat.ne_of_lt k5.lt
  have g7 : w.heap.size ≤ V1.heap.size := X.size
  have k5 := k5.keep X7
  have X := link X X7
  generalize V1.alloc _ = V2 at k5 k7 X ⊢
  generalize V1.heap.size = b7 at k7 n57 g7 ⊢
  clear X7
  go_upto_region 3 with (fail)
  have k8 := blk_new V2 3 (zeros n)
  rw [zeros_map] at k8
  have X8 : Below V2.heap.size V2 (V2.alloc (.cells (zeros n) 3)) := (Below.refl _ _).alloc (Nat.le_refl _) _
  have n58 := Nat.ne_of_lt k5.lt
  have n78 := Nat.ne_of_lt k7.lt
  have g8 : w.heap.size ≤ V2.heap.size := X.size
  have k5 := k5.keep X8
  have k7 := k7.keep X8
  have X := link X X8
  generalize V2.alloc _ = V3 at k5 k7 k8 X ⊢
  generalize V2.heap.size = b8 at k8 n58 n78 g8 ⊢
  clear X8 hmk
  have c0 := k5.cell (j := 0) rfl
  have c1 := k5.cell (j := 1) rfl
  have c2 := k5.cell (j := 2) rfl
  have c3 := k5.cell (j := 3) rfl
  obtain ⟨u, hu⟩ : ∃ u, V3.cell? ⟨b7, i, none⟩ = some u := ⟨_, k7.cell (j := i) (List.getElem?_eq_getElem (by simp; omega))⟩
  have fr := k7.free i
  go_upto_region 4 with (fail)
  have k5 := k5.other (a := ⟨b7, i, none⟩) (by exact n57) (.int .i64 0)
  have k8 := k8.other (a := ⟨b7, i, none⟩) (by exact (Ne.symm n78)) (.int .i64 0)
  have k7 := k7.set i (.int .i64 0)
  rw [← List.map_set] at k7
  have X : Below w.heap.size w (World.setCell V3 ⟨b7, i, none⟩ (.int .i64 0)) := X.setCell (by exact g7) _
  generalize World.setCell V3 _ _ = V4 at k5 k7 k8 X ⊢
  clear c0 c1 c2 c3 hu fr
  have c0 := k5.cell (j := 0) rfl
  have c1 := k5.cell (j := 1) rfl
  have c2 := k5.cell (j := 2) rfl
  have c3 := k5.cell (j := 3) rfl
  obtain ⟨u, hu⟩ : ∃ u, V4.cell? ⟨b8, i, none⟩ = some u := ⟨_, k8.cell (j := i) (List.getElem?_eq_getElem (by simp; omega))⟩
  have fr := k8.free i
  go_upto_region 5 with (fail)
  have k5 := k5.other (a := ⟨b8, i, none⟩) (by exact n58) (.int .i64 d)
  have k7 := k7.other (a := ⟨b8, i, none⟩) (by exact n78) (.int .i64 d)
  have k8 := k8.set i (.int .i64 d)
  rw [← List.map_set] at k8
  have X : Below w.heap.size w (World.setCell V4 ⟨b8, i, none⟩ (.int .i64 d)) := X.setCell (by exact g8) _
  generalize World.setCell V4 _ _ = V5 at k5 k7 k8 X ⊢
  clear c0 c1 c2 c3 hu fr
  have c1 := k5.cell (j := 1) rfl
  go_upto_region 8 with (fail)
  clear c1
  have io := ints_blk k7 bO hm2
  have iN := ints_blk k8 bN hm2
  have CO := Lib.hid (fun V (hV : Below V5.heap.size V5 V) => CT.out _ lO bO V _ (link X hV) (io.keep hV))
  have CN := Lib.hid (fun V (hV : Below V5.heap.size V5 V) => CT.out _ lN bN V _ (link X hV) (iN.keep hV))
  clear CT io iN k5 k7 k8 lO lN bO bN z0
  generalize dotT W ((List.replicate n (0 : Int)).set i 0) % m = x at *
  generalize dotT W ((List.replicate n (0 : Int)).set i d) % m = y at *
  go_wp2_with (first
    | (go_at_call 12; refine (CN.out _ B9).mono ?_; rintro _ W10 ⟨rfl, B10⟩)
    | (go_at_call 12; refine (CO.out _ (Below.refl _ _)).mono ?_; rintro _ W9 ⟨rfl, B9⟩))
  go_ret
  exact ⟨rfl, link X (link B9 B10)⟩
set_option maxHeartbeats 4000000 in
set_option maxRecDepth 100000 in
theorem lost2 (W : List Int) (m : Int) (hm : 2 ≤ m) (hm2 : m ≤ 1024) (hb : belowT W m = true) (A : Option Addr) (n c : Nat) (hl : W.length = n) (hn : n ≤ 1000) (i : Nat) (hi : i < n) (i1 : Nat) (hi1 : i1 < n) (d : Int) (hd : 0 ≤ d ∧ d < m) (w : World) (hA : IntsAt w A W) :
    Calls Try.prog 39 #[.slice A n c, .int .i64 m, .agg #[.int .i64 (i : Int), .int .i64 ((i1 : Nat) : Int), .int .i64 0, .int .i64 d]] w (BoolB (decide (dotT W (((List.replicate n (0 : Int)).set i 0).set i1 d) % m = dotT W (((List.replicate n (0 : Int)).set i d).set i1 0) % m)) w) := by
  have hmk := fun V : World => mk_int n (by omega) V
  have b4 {L : List Int} (h : belowT L m = true) : belowT L 1024 = true := belowT_of fun q hq => by have := belowT_mem h q hq; omega
  have z0 := below_zeros n hm
  have bO : belowT (((List.replicate n (0 : Int)).set i 0).set i1 d) m = true := below_set (below_set z0 i (by omega)) i1 hd
  have bN : belowT (((List.replicate n (0 : Int)).set i d).set i1 0) m = true := below_set (below_set z0 i hd) i1 (by omega)
  have lO : (((List.replicate n (0 : Int)).set i 0).set i1 d).length = n := by simp
  have lN : (((List.replicate n (0 : Int)).set i d).set i1 0).length = n := by simp
  have CT := Lib.hid (fun (L : List Int) (hL : L.length = n) (hb' : belowT L m = true) (V : World) (q : Option Addr) (hV : Below w.heap.size w V) (hq : IntsAt V q L) => rtotal_any W L m hm A n c hl hn q n hL (b4 hb) (b4 hb') V (hA.keep hV) hq)
  have hiz : (i : Int) < (n : Int) := by omega
  have HHd := Lib.hid hd
  clear hl hb b4 hA
  go_enter Try.func39, Try.ntmps39
  go_upto_region 1 with (fail)
  have k5 := blk_new w 38 #[.int .i64 (i : Int), .int .i64 ((i1 : Nat) : Int), .int .i64 0, .int .i64 d]
  have X : Below w.heap.size w (w.alloc (.cells #[.int .i64 (i : Int), .int .i64 ((i1 : Nat) : Int), .int .i64 0, .int .i64 d] 38)) := (Below.refl _ _).alloc (Nat.le_refl _) _
  have g5 : w.heap.size ≤ w.heap.size := Nat.le_refl _
  generalize w.alloc _ = V1 at k5 X ⊢
  obtain ⟨b5, hb5⟩ : ∃ b, b = w.heap.size := ⟨_, rfl⟩
  rw [← hb5] at k5 ⊢
  have H5 := Lib.hid hb5
  clear hb5 g5
  go_upto_region 2 with (fail)
  have k7 := blk_new V1 3 (zeros n)
  rw [zeros_map] at k7
  have X7 : Below V1.heap.size V1 (V1.alloc (.cells (zeros n) 3)) := (Below.refl _ _).alloc (Nat.le_refl _) _
  have n57 := Nat.ne_of_lt k5.lt
  have g7 : w.heap.size ≤ V1.heap.size := X.size
  have k5 := k5.keep X7
  have X := link X X7
  generalize V1.alloc _ = V2 at k5 k7 X ⊢
  generalize V1.heap.size = b7 at k7 n57 g7 ⊢
  clear X7
  go_upto_region 3 with (fail)
  have k8 := blk_new V2 3 (zeros n)
  rw [zeros_map] at k8
  have X8 : Below V2.heap.size V2 (V2.alloc (.cells (zeros n) 3)) := (Below.refl _ _).alloc (Nat.le_refl _) _
  have n58 := Nat.ne_of_lt k5.lt
  have n78 := Nat.ne_of_lt k7.lt
  have g8 : w.heap.size ≤ V2.heap.size := X.size
  have k5 := k5.keep X8
  have k7 := k7.keep X8
  have X := link X X8
  generalize V2.alloc _ = V3 at k5 k7 k8 X ⊢
  generalize V2.heap.size = b8 at k8 n58 n78 g8 ⊢
  clear X8 hmk
  have c0 := k5.cell (j := 0) rfl
  have c1 := k5.cell (j := 1) rfl
  have c2 := k5.cell (j := 2) rfl
  have c3 := k5.cell (j := 3) rfl
  obtain ⟨u, hu⟩ : ∃ u, V3.cell? ⟨b7, i, none⟩ = some u := ⟨_, k7.cell (j := i) (List.getElem?_eq_getElem (by simp; omega))⟩
  have fr := k7.free i
  go_upto_region 4 with (fail)
  have k5 := k5.other (a := ⟨b7, i, none⟩) (by exact n57) (.int .i64 0)
  have k8 := k8.other (a := ⟨b7, i, none⟩) (by exact (Ne.symm n78)) (.int .i64 0)
  have k7 := k7.set i (.int .i64 0)
  rw [← List.map_set] at k7
  have X : Below w.heap.size w (World.setCell V3 ⟨b7, i, none⟩ (.int .i64 0)) := X.setCell (by exact g7) _
  generalize World.setCell V3 _ _ = V4 at k5 k7 k8 X ⊢
  clear c0 c1 c2 c3 hu fr
  have c0 := k5.cell (j := 0) rfl
  have c1 := k5.cell (j := 1) rfl
  have c2 := k5.cell (j := 2) rfl
  have c3 := k5.cell (j := 3) rfl
  obtain ⟨u, hu⟩ : ∃ u, V4.cell? ⟨b8, i, none⟩ = some u := ⟨_, k8.cell (j := i) (List.getElem?_eq_getElem (by simp; omega))⟩
  have fr := k8.free i
  go_upto_region 5 with (fail)
  have k5 := k5.other (a := ⟨b8, i, none⟩) (by exact n58) (.int .i64 d)
  have k7 := k7.other (a := ⟨b8, i, none⟩) (by exact n78) (.int .i64 d)
  have k8 := k8.set i (.int .i64 d)
  rw [← List.map_set] at k8
  have X : Below w.heap.size w (World.setCell V4 ⟨b8, i, none⟩ (.int .i64 d)) := X.setCell (by exact g8) _
  generalize World.setCell V4 _ _ = V5 at k5 k7 k8 X ⊢
  clear c0 c1 c2 c3 hu fr
  have c1 := k5.cell (j := 1) rfl
  have hj0 : (0 : Int) ≤ (i1 : Int) := by omega
  have hj1 : (i1 : Int) < (n : Int) := by omega
  go_upto_region 6 with (fail)
  clear c1
  have c0 := k5.cell (j := 0) rfl
  have c1 := k5.cell (j := 1) rfl
  have c2 := k5.cell (j := 2) rfl
  have c3 := k5.cell (j := 3) rfl
  obtain ⟨u, hu⟩ : ∃ u, V5.cell? ⟨b7, i1, none⟩ = some u := ⟨_, k7.cell (j := i1) (List.getElem?_eq_getElem (by simp; omega))⟩
  have fr := k7.free i1
  go_upto_region 7 with (fail)
  have k5 := k5.other (a := ⟨b7, i1, none⟩) (by exact n57) (.int .i64 d)
  have k8 := k8.other (a := ⟨b7, i1, none⟩) (by exact (Ne.symm n78)) (.int .i64 d)
  have k7 := k7.set i1 (.int .i64 d)
  rw [← List.map_set] at k7
  have X : Below w.heap.size w (World.setCell V5 ⟨b7, i1, none⟩ (.int .i64 d)) := X.setCell (by exact g7) _
  generalize World.setCell V5 _ _ = V6 at k5 k7 k8 X ⊢
  clear c0 c1 c2 c3 hu fr
  have c0 := k5.cell (j := 0) rfl
  have c1 := k5.cell (j := 1) rfl
  have c2 := k5.cell (j := 2) rfl
  have c3 := k5.cell (j := 3) rfl
  obtain ⟨u, hu⟩ : ∃ u, V6.cell? ⟨b8, i1, none⟩ = some u := ⟨_, k8.cell (j := i1) (List.getElem?_eq_getElem (by simp; omega))⟩
  have fr := k8.free i1
  go_upto_region 8 with (fail)
  have k5 := k5.other (a := ⟨b8, i1, none⟩) (by exact n58) (.int .i64 0)
  have k7 := k7.other (a := ⟨b8, i1, none⟩) (by exact n78) (.int .i64 0)
  have k8 := k8.set i1 (.int .i64 0)
  rw [← List.map_set] at k8
  have X : Below w.heap.size w (World.setCell V6 ⟨b8, i1, none⟩ (.int .i64 0)) := X.setCell (by exact g8) _
  generalize World.setCell V6 _ _ = V7 at k5 k7 k8 X ⊢
  clear c0 c1 c2 c3 hu fr
  have io := ints_blk k7 bO hm2
  have iN := ints_blk k8 bN hm2
  have CO := Lib.hid (fun V (hV : Below V7.heap.size V7 V) => CT.out _ lO bO V _ (link X hV) (io.keep hV))
  have CN := Lib.hid (fun V (hV : Below V7.heap.size V7 V) => CT.out _ lN bN V _ (link X hV) (iN.keep hV))
  clear CT io iN k5 k7 k8 lO lN bO bN z0
  generalize dotT W (((List.replicate n (0 : Int)).set i 0).set i1 d) % m = x at *
  generalize dotT W (((List.replicate n (0 : Int)).set i d).set i1 0) % m = y at *
  go_wp2_with (first
    | (go_at_call 12; refine (CN.out _ B9).mono ?_; rintro _ W10 ⟨rfl, B10⟩)
    | (go_at_call 12; refine (CO.out _ (Below.refl _ _)).mono ?_; rintro _ W9 ⟨rfl, B9⟩))
  go_ret
  exact ⟨rfl, link X (link B9 B10)⟩
end Go.Proofs.Ytjpiidfoegaenaa
