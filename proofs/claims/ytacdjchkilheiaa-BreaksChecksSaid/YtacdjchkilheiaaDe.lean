/-
  Bent of the reference: some certificate.
-/
import Derived.Test.YtacdjchkilheiaaDb
namespace Go.Proofs.Ytacdjchkilheiaa
open Go.RowKit
set_option linter.unusedVariables false
set_option linter.unusedSimpArgs false

/-- An empty slice, just made. -/
def Emp (w : World) (B : Nat) (x : Value) : Prop := ∃ g : Nat, x = .slice (some ⟨g, 0, none⟩) 0 0 ∧ OwnR intE w B x []
/-- A copy. -/
def Cp (w : World) (B : Nat) (x : Value) (l : List Int) (n : Nat) : Prop := ∃ g c : Nat, x = .slice (some ⟨g, 0, none⟩) n c ∧ (n = 0 → c = 0) ∧ OwnR intE w B x l
theorem Emp.keep {w w' : World} {B : Nat} {x : Value} (h : Emp w B x) (hb : Below w.heap.size w w') : Emp w' B x := by
  obtain ⟨g, e, hO⟩ := h
  exact ⟨g, e, hO.keep hb⟩
theorem Cp.keep {w w' : World} {B : Nat} {x : Value} {l : List Int} {n : Nat} (h : Cp w B x l n) (hb : Below w.heap.size w w') : Cp w' B x l n := by
  obtain ⟨g, c, e, hz, hO⟩ := h
  exact ⟨g, c, e, hz, hO.keep hb⟩
theorem own_ne {w : World} {B xb : Nat} {v : Value} {l : List Int} {cs : List Value} (h : OwnR intE w B v l) (hb : Blk w xb 32 cs) : v.ownBlock ≠ some xb := by
  rcases h.2 with ⟨rfl, _⟩ | ⟨g, cap, cur, rfl, _, hg, _⟩
  · intro e; cases e
  · intro e
    have e : some g = some xb := e
    injection e with e
    subst e
    unfold Blk at hb
    rw [hg] at hb
    injection hb with hb
    injection hb with _ ht _
    exact absurd ht (by decide)
theorem Emp.only {w w' : World} {B xb : Nat} {x : Value} {cs : List Value} (h : Emp w B x) (O : Only xb w w') (hb : Blk w xb 32 cs) : Emp w' B x := by
  obtain ⟨g, e, hO⟩ := h
  exact ⟨g, e, hO.only O (own_ne hO hb)⟩
theorem Cp.only {w w' : World} {B xb : Nat} {x : Value} {l : List Int} {n : Nat} {cs : List Value} (h : Cp w B x l n) (O : Only xb w w') (hb : Blk w xb 32 cs) : Cp w' B x l n := by
  obtain ⟨g, c, e, hz, hO⟩ := h
  exact ⟨g, c, e, hz, hO.only O (own_ne hO hb)⟩
theorem Cp.lt {w : World} {B : Nat} {x : Value} {l : List Int} {n : Nat} (h : Cp w B x l n) : ∀ k, x.ownBlock = some k → k < w.heap.size := by
  obtain ⟨g, c, e, hz, hO⟩ := h
  exact fun k hk => (World.ownsRow.lt hO k hk).2
theorem Cp.one {w : World} {B : Nat} {x : Value} {l : List Int} {n : Nat} (h : Cp w B x l n) : x.oneCell' = true := by
  obtain ⟨g, c, rfl, _⟩ := h
  rfl
/-- A new block is another one's. -/
theorem ne_len {l : List Int} {n : Nat} (h : l.length = n) (hn : l ≠ []) : n ≠ 0 := fun e => hn (List.eq_nil_of_length_eq_zero (by omega))
theorem own_apart {w : World} {g' n c' : Nat} {y : Value} (hy : ∀ k, y.ownBlock = some k → k < w.heap.size) (hg : g' = w.heap.size) : Value.ownBlock (.slice (some ⟨g', 0, none⟩) n c') ≠ y.ownBlock := by
  intro e
  have := hy g' e.symm
  omega
/-- What lies there behind the three copies. -/
def LaidB (E L C : List Int) (ne nl nc : Nat) (B : Nat) (V0 : World) (s7 : Value) (wx : World) : Prop := ∃ (xb g1 g2 g3 k1 k2 k3 : Nat), s7 = .pointer (some ⟨xb, 0, none⟩) ∧ V0.heap.size ≤ xb ∧ Blk wx xb 32 [.slice (some ⟨g1, 0, none⟩) ne k1, .slice (some ⟨g2, 0, none⟩) nl k2, .slice (some ⟨g3, 0, none⟩) nc k3] ∧ (ne = 0 → k1 = 0) ∧ (nl = 0 → k2 = 0) ∧ (nc = 0 → k3 = 0) ∧
  OwnR intE wx B (.slice (some ⟨g1, 0, none⟩) ne k1) E ∧ OwnR intE wx B (.slice (some ⟨g2, 0, none⟩) nl k2) L ∧ OwnR intE wx B (.slice (some ⟨g3, 0, none⟩) nc k3) C ∧ (L ≠ [] → g2 ≠ g1) ∧ (C ≠ [] → g3 ≠ g1 ∧ g3 ≠ g2) ∧ Below V0.heap.size V0 wx

theorem tdiv_in {x : Int} (h1 : -9223372036854775808 ≤ x) (h2 : x ≤ 9223372036854775807) : -9223372036854775808 ≤ x.tdiv 16 ∧ x.tdiv 16 ≤ 9223372036854775807 := by
  cases x with
  | ofNat n =>
    show -9223372036854775808 ≤ ((n / 16 : Nat) : Int) ∧ ((n / 16 : Nat) : Int) ≤ 9223372036854775807
    have : ((n : Nat) : Int) ≤ 9223372036854775807 := h2
    omega
  | negSucc n =>
    show -9223372036854775808 ≤ -(((n + 1) / 16 : Nat) : Int) ∧ -(((n + 1) / 16 : Nat) : Int) ≤ 9223372036854775807
    have : -9223372036854775808 ≤ -((n + 1 : Nat) : Int) := h1
    omega
/-- Numbers in a block, from a place on. -/
def Cells1 (w : World) (g off : Nat) (l : List Int) : Prop := l ≠ [] → ∃ cs, Blk w g 3 cs ∧ ∀ i x, l[i]? = some x → cs[off + i]? = some (.int .i64 x)
theorem blk_types {w : World} {g b : Nat} {cs cs' : List Value} (h : Blk w g 3 cs) (hb : Blk w b 32 cs') : g ≠ b := by
  intro e
  subst e
  unfold Blk at *
  rw [h] at hb
  injection hb with hb
  injection hb with _ ht _
  exact absurd ht (by decide)
theorem own_cells {w : World} {B g n c : Nat} {l : List Int} (h : OwnR intE w B (.slice (some ⟨g, 0, none⟩) n c) l) : Cells1 w g 0 l := by
  intro hn
  obtain ⟨g', cap, cs, e, _, _, hb, ht⟩ := h.blk hn
  injection e with e1 _ _
  injection e1 with e1
  injection e1 with e1
  subst e1
  refine ⟨cs, hb, fun i x hx => ?_⟩
  have := row_at ht (i := i) (j := 0) hx rfl
  rw [show intE.k = 1 from rfl, Nat.mul_one, Nat.add_zero] at this
  rw [Nat.zero_add]
  exact this
theorem Cells1.keep {w w' : World} {g off : Nat} {l : List Int} (h : Cells1 w g off l) (hb : Below w.heap.size w w') : Cells1 w' g off l := fun hn => by
  obtain ⟨cs, hk, hc⟩ := h hn
  exact ⟨cs, hk.keep hb, hc⟩
theorem Cells1.only {w w' : World} {g off b : Nat} {l : List Int} {cs' : List Value} (h : Cells1 w g off l) (O : Only b w w') (hb : Blk w b 32 cs') : Cells1 w' g off l := fun hn => by
  obtain ⟨cs, hk, hc⟩ := h hn
  exact ⟨cs, O.2.1 g _ _ (blk_types hk hb) hk, hc⟩
theorem Cells1.other {w : World} {g off b i : Nat} {l : List Int} {v : Value} (h : Cells1 w g off l) (hne : l ≠ [] → g ≠ b) : Cells1 (w.setCell ⟨b, i, none⟩ v) g off l := fun hn => by
  obtain ⟨cs, hk, hc⟩ := h hn
  exact ⟨cs, hk.other (a := ⟨b, i, none⟩) (hne hn) v, hc⟩
theorem Cells1.field {w : World} {g off b i : Nat} {l : List Int} {v : Value} {cs' : List Value} (h : Cells1 w g off l) (hb : Blk w b 32 cs') : Cells1 (w.setCell ⟨b, i, none⟩ v) g off l := fun hn => by
  obtain ⟨cs, hk, hc⟩ := h hn
  exact ⟨cs, hk.other (a := ⟨b, i, none⟩) (blk_types hk hb) v, hc⟩
theorem Cells1.rest {w w' : World} {g off : Nat} {l : List Int} {v : Value} (h : Cells1 w g off l) (R : Rest v w w') (hne : l ≠ [] → v.ownBlock ≠ some g) : Cells1 w' g off l := fun hn => by
  obtain ⟨cs, hk, hc⟩ := h hn
  exact ⟨cs, R g _ _ (hne hn) hk, hc⟩
theorem Cells1.at {w : World} {g off : Nat} {l : List Int} (h : Cells1 w g off l) : At intE w (some ⟨g, off, none⟩) l := fun hn => by
  obtain ⟨cs, hk, hc⟩ := h hn
  refine ⟨g, off, rfl, hk.lt, fun i x j u hx hu => ?_⟩
  have hj : j = 0 := by have := (List.getElem?_eq_some_iff.1 hu).1; rw [intE.len] at this; have h1 : intE.k = 1 := rfl; omega
  subst hj
  have hu : u = .int .i64 x := by have : ([Value.int .i64 x])[0]? = some u := hu; simpa using this.symm
  subst hu
  rw [show intE.k = 1 from rfl, Nat.mul_one, Nat.add_zero]
  exact hk.cell (hc i x hx)
theorem Cells1.set {w : World} {g k : Nat} {l : List Int} {y : Int} (h : Cells1 w g 0 l) (hk : k < l.length) : Cells1 (w.setCell ⟨g, k, none⟩ (.int .i64 y)) g 0 (l.set k y) := fun _ => by
  obtain ⟨cs, hb, hc⟩ := h (by intro e; rw [e] at hk; simp at hk)
  refine ⟨_, hb.set k _, fun i x hx => ?_⟩
  have h0 := hc k l[k] (List.getElem?_eq_getElem hk)
  rw [Nat.zero_add] at h0 ⊢
  by_cases e : k = i
  · subst e
    rw [List.getElem?_set_self hk] at hx
    injection hx with hx
    subst hx
    exact List.getElem?_set_self (List.getElem?_eq_some_iff.1 h0).1
  · rw [List.getElem?_set_ne e] at hx ⊢
    have := hc i x hx
    rwa [Nat.zero_add] at this
theorem wrap_few {x y : Int} (h : IntKind.i64.wrap x = y) : -9223372036854775808 ≤ y ∧ y ≤ 9223372036854775807 := by
  subst h
  simp [IntKind.wrap, IntKind.signed, IntKind.bits]
  omega
theorem few_snoc {l : List Int} {y : Int} (h : Few l) (hy : -9223372036854775808 ≤ y ∧ y ≤ 9223372036854775807) : Few (l ++ [y]) := fun x hx => by
  rcases List.mem_append.1 hx with g | g
  · exact h x g
  · rw [List.mem_singleton.1 g]; exact hy
theorem own_cap {w : World} {B g n c : Nat} {l : List Int} (h : OwnR intE w B (.slice (some ⟨g, 0, none⟩) n c) l) (hl : l.length = n) : n ≤ c := by
  obtain ⟨q, c', e, hc, _⟩ := h.form
  injection e with _ e2 e3
  omega
theorem cells_tail {w : World} {g : Nat} {l : List Int} (h : Cells1 w g 0 l) : Cells1 w g 1 (l.drop 1) := fun hn => by
  obtain ⟨cs, hb, hc⟩ := h (by intro e; rw [e] at hn; exact hn rfl)
  refine ⟨cs, hb, fun i x hx => ?_⟩
  rw [List.getElem?_drop] at hx
  have := hc _ _ hx
  rwa [Nat.zero_add] at this
theorem few_set {l : List Int} {k : Nat} {y : Int} (h : Few l) (hy : -9223372036854775808 ≤ y ∧ y ≤ 9223372036854775807) : Few (l.set k y) := fun x hx => by
  rcases List.mem_or_eq_of_mem_set hx with g | g
  · exact h x g
  · rw [g]; exact hy
/-- A slice's numbers in a block. -/
def AtX (w : World) (q : Option Addr) (l : List Int) : Prop := l ≠ [] → ∃ (g off : Nat) (cs : List Value), q = some ⟨g, off, none⟩ ∧ Blk w g 3 cs ∧ ∀ i x, l[i]? = some x → cs[off + i]? = some (.int .i64 x)
theorem AtX.only {w w' : World} {q : Option Addr} {b : Nat} {l : List Int} {cs' : List Value} (h : AtX w q l) (O : Only b w w') (hb : Blk w b 32 cs') : AtX w' q l := fun hn => by
  obtain ⟨g, off, cs, e, hk, hc⟩ := h hn
  exact ⟨g, off, cs, e, O.2.1 g _ _ (blk_types hk hb) hk, hc⟩
theorem AtX.field {w : World} {q : Option Addr} {b i : Nat} {l : List Int} {v : Value} {cs' : List Value} (h : AtX w q l) (hb : Blk w b 32 cs') : AtX (w.setCell ⟨b, i, none⟩ v) q l := fun hn => by
  obtain ⟨g, off, cs, e, hk, hc⟩ := h hn
  exact ⟨g, off, cs, e, hk.other (a := ⟨b, i, none⟩) (blk_types hk hb) v, hc⟩
theorem AtX.at {w : World} {q : Option Addr} {l : List Int} (h : AtX w q l) : At intE w q l := fun hn => by
  obtain ⟨g, off, cs, e, hk, hc⟩ := h hn
  have : Cells1 w g off l := fun _ => ⟨cs, hk, hc⟩
  rw [e]
  exact this.at hn
theorem own_atx {w : World} {B n c : Nat} {q : Option Addr} {l : List Int} (h : OwnR intE w B (.slice q n c) l) : AtX w q l := fun hn => by
  obtain ⟨g', cap, cs, e, _, _, hb, ht⟩ := h.blk hn
  injection e with e1 _ _
  subst e1
  obtain ⟨cs2, hb2, hc2⟩ := own_cells h hn
  exact ⟨g', 0, cs2, rfl, hb2, hc2⟩
theorem cells_drop {w : World} {g : Nat} {l : List Int} (h : Cells1 w g 0 l) (r : Nat) : Cells1 w g r (l.drop r) := fun hn => by
  obtain ⟨cs, hb, hc⟩ := h (by intro e; rw [e, List.drop_nil] at hn; exact hn rfl)
  refine ⟨cs, hb, fun i x hx => ?_⟩
  rw [List.getElem?_drop] at hx
  have := hc _ _ hx
  rwa [Nat.zero_add] at this
/-- What lies there behind the cut of one number. -/
def Bent1 (E L C : List Int) (m g2 g3 nl k2 nc k3 xb rb : Nat) (W : World) (wx : World) : Prop := ∃ (q : Option Addr) (n c : Nat) (l2 : List Int), Blk wx xb 32 [.slice q n c, .slice (some ⟨g2, 0, none⟩) nl k2, .slice (some ⟨g3, 0, none⟩) nc k3] ∧ l2.length = n ∧ n ≤ m + m + 1 ∧ Few l2 ∧ AtX wx q l2 ∧ Cells1 wx g2 0 L ∧ Cells1 wx g3 0 C ∧ Blk wx rb 32 zeroCt ∧ Below W.heap.size W wx
/-- Some certificate of one's own. -/
def BentR (m : Nat) (w : World) (e : Ending) (w' : World) : Prop := ∃ (E L C : List Int) (qe ql qc : Option Addr) (ne nl nc ce cl cc : Nat), e = .returned (.agg #[.slice qe ne ce, .slice ql nl cl, .slice qc nc cc]) ∧ CtAt w' qe ne ql nl qc nc E L C ∧ ne ≤ m ∧ nl ≤ m ∧ nc ≤ m ∧ Few E ∧ Few L ∧ Few C ∧ Below w.heap.size w w'

set_option maxHeartbeats 8000000 in
set_option maxRecDepth 100000 in
theorem bent_any (qe : Option Addr) (ne ce : Nat) (ql : Option Addr) (nl cl : Nat) (qc : Option Addr) (nc cc : Nat) (E L C : List Int) (hE : E.length = ne) (hL : L.length = nl) (hC : C.length = nc) (m : Nat) (hm : m ≤ 10000) (he9 : ne ≤ m) (hl9 : nl ≤ m) (hc9 : nc ≤ m) (fE : Few E) (fL : Few L) (fC : Few C) (how by_ : Int) (h1 : -9223372036854775808 ≤ how) (h2 : how ≤ 9223372036854775807) (h3 : -9223372036854775808 ≤ by_) (h4 : by_ ≤ 9223372036854775807) (w : World) (hA : At intE w qe E) (hA2 : At intE w ql L) (hA3 : At intE w qc C) :
    Calls Try.prog 19 #[.agg #[.slice qe ne ce, .slice ql nl cl, .slice qc nc cc], .int .i64 how, .int .i64 by_] w (BentR (m + m + 1) w) := by
  go_enter Try.func19, Try.ntmps19
  go_upto_region 1 with (fail)
  have Kb := blk_new w 32 #[.slice qe ne ce, .slice ql nl cl, .slice qc nc cc]
  have X0 : Below w.heap.size w (w.alloc (.cells #[.slice qe ne ce, .slice ql nl cl, .slice qc nc cc] 32)) := (Below.refl _ _).alloc (Nat.le_refl _) _
  obtain ⟨W0, hW0⟩ : ∃ W, w.alloc (.cells #[.slice qe ne ce, .slice ql nl cl, .slice qc nc cc] 32) = W := ⟨_, rfl⟩
  have hs0 : w.heap.size + 1 = W0.heap.size := by rw [← hW0, World.size_alloc]
  rw [hW0] at Kb X0
  change Code.wp _ _ _ _ ((w.alloc (.cells #[.slice qe ne ce, .slice ql nl cl, .slice qc nc cc] 32)).alloc (.cells zeroCt.toArray 32))
  rw [hW0]
  have Kr := blk_new W0 32 zeroCt.toArray
  have X1 : Below W0.heap.size W0 (W0.alloc (.cells zeroCt.toArray 32)) := (Below.refl _ _).alloc (Nat.le_refl _) _
  replace Kb := Kb.keep X1
  have X2 := link X0 X1
  generalize World.alloc W0 _ = V0 at Kb Kr X2 ⊢
  try rw [hs0]
  obtain ⟨cb, hcb⟩ : ∃ p, w.heap.size = p := ⟨_, rfl⟩
  obtain ⟨rb, hrb⟩ : ∃ p, W0.heap.size = p := ⟨_, rfl⟩
  rw [hcb] at Kb ⊢
  rw [hrb] at Kr ⊢
  have hwr : w.heap.size ≤ rb := by omega
  obtain ⟨B, hBw⟩ : ∃ B, w.heap.size = B := ⟨_, rfl⟩
  have hBV : B ≤ V0.heap.size := by have := X2.size; omega
  have HCb : ∀ V, Below V0.heap.size V0 V → Blk V cb 32 [.slice qe ne ce, .slice ql nl cl, .slice qc nc cc] := fun V h => Kb.keep h
  have HAE : ∀ V, Below V0.heap.size V0 V → At intE V qe E := fun V h => (hA.keep X2).keep h
  have HAL : ∀ V, Below V0.heap.size V0 V → At intE V ql L := fun V h => (hA2.keep X2).keep h
  have HAC : ∀ V, Below V0.heap.size V0 V → At intE V qc C := fun V h => (hA3.keep X2).keep h
  clear hW0 hs0 X0 X1 hcb hrb hA hA2 hA3
  go_cut [7] from 7 to 23 (fun s7 wx => LaidB E L C ne nl nc B V0 s7 wx)
  case first =>
    refine wp_region_inv (by kernel_rfl) (fun J a w => ∃ x7 x10 x11 x12 x13 x14 x15 x16 x17 x18 x19 x20 x21 x22 : Value, a = ⟨List.toArray (.agg #[.slice qe ne ce, .slice ql nl cl, .slice qc nc cc] :: .int .i64 how :: .int .i64 by_ :: .pointer (some ⟨cb, 0, none⟩) :: undef :: undef :: .pointer (some ⟨rb, 0, none⟩) :: x7 :: undef :: undef :: x10 :: x11 :: x12 :: x13 :: x14 :: x15 :: x16 :: x17 :: x18 :: x19 :: x20 :: x21 :: x22 :: undef :: undef :: undef :: undef :: undef :: undef :: undef :: undef :: undef :: undef :: undef :: undef :: undef :: undef :: undef :: undef :: undef :: undef :: undef :: undef :: undef :: undef :: undef :: undef :: undef :: undef :: undef :: undef :: undef :: undef :: undef :: undef :: undef :: undef :: undef :: undef :: undef :: undef :: undef :: undef :: undef :: undef :: undef :: undef :: undef :: undef :: undef :: undef :: undef :: undef :: undef :: undef :: undef :: undef :: undef :: undef :: undef :: undef :: undef :: undef :: undef :: undef :: undef :: undef :: undef :: undef :: undef :: undef :: undef :: undef :: undef :: undef :: undef :: undef :: undef :: undef :: undef :: undef :: undef :: undef :: undef :: undef :: undef :: undef :: undef :: undef :: undef :: undef :: undef :: undef :: undef :: undef :: undef :: undef :: undef :: undef :: undef :: undef :: undef :: undef :: undef :: undef :: undef :: undef :: undef :: undef :: undef :: undef :: undef :: undef :: undef :: undef :: undef :: undef :: undef :: undef :: undef :: undef :: undef :: undef :: undef :: undef :: undef :: undef :: undef :: undef :: undef :: undef :: undef :: []), []⟩ ∧ Below V0.heap.size V0 w ∧ (J 0 → Emp w B x10) ∧ (J 1 → x11 = .pointer (some ⟨cb, 0, none⟩)) ∧ (J 2 → x12 = .slice qe ne ce) ∧ (J 3 → Cp w B x13 E ne) ∧ (J 4 → Emp w B x14) ∧ (J 5 → x15 = .pointer (some ⟨cb, 1, none⟩)) ∧ (J 6 → x16 = .slice ql nl cl) ∧ (J 7 → J 3 ∧ Cp w B x17 L nl ∧ (L ≠ [] → x17.ownBlock ≠ x13.ownBlock)) ∧ (J 8 → Emp w B x18) ∧ (J 9 → x19 = .pointer (some ⟨cb, 2, none⟩)) ∧ (J 10 → x20 = .slice qc nc cc) ∧ (J 11 → J 3 ∧ J 7 ∧ Cp w B x21 C nc ∧ (C ≠ [] → x21.ownBlock ≠ x13.ownBlock ∧ x21.ownBlock ≠ x17.ownBlock)) ∧ (J 12 → J 3 ∧ J 7 ∧ J 11 ∧ x22 = .agg #[x13, x17, x21]) ∧ (J 13 → ∃ xb : Nat, x7 = .pointer (some ⟨xb, 0, none⟩) ∧ V0.heap.size ≤ xb ∧ (¬ J 14 → Blk w xb 32 zeroCt) ∧ (J 14 → Blk w xb 32 [x13, x17, x21])) ∧ (J 14 → J 3 ∧ J 7 ∧ J 11 ∧ J 13)) (by kernel_rfl) ?_ ?_ ?_
    · exact ⟨undef, undef, undef, undef, undef, undef, undef, undef, undef, undef, undef, undef, undef, undef, rfl, below_drew (Below.refl _ _), fun h => absurd h (by decide), fun h => absurd h (by decide), fun h => absurd h (by decide), fun h => absurd h (by decide), fun h => absurd h (by decide), fun h => absurd h (by decide), fun h => absurd h (by decide), fun h => absurd h (by decide), fun h => absurd h (by decide), fun h => absurd h (by decide), fun h => absurd h (by decide), fun h => absurd h (by decide), fun h => absurd h (by decide), fun h => absurd h (by decide), fun h => absurd h (by decide)⟩
    · intro J a w hI hall
      obtain ⟨x7, x10, x11, x12, x13, x14, x15, x16, x17, x18, x19, x20, x21, x22, rfl, hB, f0, f1, f2, f3, f4, f5, f6, f7, f8, f9, f10, f11, f12, f13, f14⟩ := hI
      obtain ⟨xb, rfl, hxb, _, K2⟩ := f13 (hall 13)
      obtain ⟨_, p17, n17⟩ := f7 (hall 7)
      obtain ⟨_, _, p21, n21⟩ := f11 (hall 11)
      have p13 := f3 (hall 3)
      have K2 := K2 (hall 14)
      obtain ⟨g1, k1, rfl, z1, o1⟩ := p13
      obtain ⟨g2, k2, rfl, z2, o2⟩ := p17
      obtain ⟨g3, k3, rfl, z3, o3⟩ := p21
      go_wp2_with fail
      go_meet
      exact ⟨xb, g1, g2, g3, k1, k2, k3, rfl, hxb, K2, z1, z2, z3, o1, o2, o3, fun h e => n17 h (by rw [e]; rfl), fun h => ⟨fun e => (n21 h).1 (by rw [e]; rfl), fun e => (n21 h).2 (by rw [e]; rfl)⟩, hB⟩
    · refine ⟨?_, ?_, ?_, ?_, ?_, ?_, ?_, ?_, ?_, ?_, ?_, ?_, ?_, ?_, ?_, trivial⟩
      · intro J a w hI hnl hd K hK
        obtain ⟨x7, x10, x11, x12, x13, x14, x15, x16, x17, x18, x19, x20, x21, x22, rfl, hB, f0, f1, f2, f3, f4, f5, f6, f7, f8, f9, f10, f11, f12, f13, f14⟩ := hI
        rw [if_pos (by rfl)]
        go_simp
        try simp only [zP, zQ, zS, zZ, zC]
        have X : Below w.heap.size w (w.alloc (.cells #[] 3)) := (Below.refl _ _).alloc (Nat.le_refl _) _
        have N : Emp (w.alloc (.cells #[] 3)) B (.slice (some ⟨w.heap.size, 0, none⟩) 0 0) := ⟨_, rfl, (own_new intE w #[] [] 0 rfl (by omega) rfl).mono (Nat.le_trans hBV hB.size)⟩
        exact hK.out _ _ ⟨x7, .slice (some ⟨w.heap.size, 0, none⟩) 0 0, x11, x12, x13, x14, x15, x16, x17, x18, x19, x20, x21, x22, rfl, link hB X,
          fun _ => N,
          fun h => f1 (h.resolve_left (by decide)),
          fun h => f2 (h.resolve_left (by decide)),
          fun h => (f3 (h.resolve_left (by decide))).keep X,
          fun h => (f4 (h.resolve_left (by decide))).keep X,
          fun h => f5 (h.resolve_left (by decide)),
          fun h => f6 (h.resolve_left (by decide)),
          fun h => ⟨Or.inr (f7 (h.resolve_left (by decide))).1, (f7 (h.resolve_left (by decide))).2.1.keep X, (f7 (h.resolve_left (by decide))).2.2⟩,
          fun h => (f8 (h.resolve_left (by decide))).keep X,
          fun h => f9 (h.resolve_left (by decide)),
          fun h => f10 (h.resolve_left (by decide)),
          fun h => ⟨Or.inr (f11 (h.resolve_left (by decide))).1, Or.inr (f11 (h.resolve_left (by decide))).2.1, (f11 (h.resolve_left (by decide))).2.2.1.keep X, (f11 (h.resolve_left (by decide))).2.2.2⟩,
          fun h => ⟨Or.inr (f12 (h.resolve_left (by decide))).1, Or.inr (f12 (h.resolve_left (by decide))).2.1, Or.inr (f12 (h.resolve_left (by decide))).2.2.1, (f12 (h.resolve_left (by decide))).2.2.2⟩,
          fun h => by obtain ⟨xb, e, h1, h2, h3⟩ := f13 (h.resolve_left (by decide)); exact ⟨xb, e, h1, fun g => (h2 (fun g2 => g (Or.inr g2))).keep X, fun g => (h3 (g.resolve_left (by decide))).keep X⟩,
          fun h => ⟨Or.inr (f14 (h.resolve_left (by decide))).1, Or.inr (f14 (h.resolve_left (by decide))).2.1, Or.inr (f14 (h.resolve_left (by decide))).2.2.1, Or.inr (f14 (h.resolve_left (by decide))).2.2.2⟩⟩
      · intro J a w hI hnl hd K hK
        obtain ⟨x7, x10, x11, x12, x13, x14, x15, x16, x17, x18, x19, x20, x21, x22, rfl, hB, f0, f1, f2, f3, f4, f5, f6, f7, f8, f9, f10, f11, f12, f13, f14⟩ := hI
        rw [if_pos (by rfl)]
        go_simp
        try simp only [zP, zQ, zS, zZ, zC]
        exact hK.out _ _ ⟨x7, x10, .pointer (some ⟨cb, 0, none⟩), x12, x13, x14, x15, x16, x17, x18, x19, x20, x21, x22, rfl, hB,
          fun h => (f0 (h.resolve_left (by decide))),
          fun _ => rfl,
          fun h => f2 (h.resolve_left (by decide)),
          fun h => (f3 (h.resolve_left (by decide))),
          fun h => (f4 (h.resolve_left (by decide))),
          fun h => f5 (h.resolve_left (by decide)),
          fun h => f6 (h.resolve_left (by decide)),
          fun h => ⟨Or.inr (f7 (h.resolve_left (by decide))).1, (f7 (h.resolve_left (by decide))).2.1, (f7 (h.resolve_left (by decide))).2.2⟩,
          fun h => (f8 (h.resolve_left (by decide))),
          fun h => f9 (h.resolve_left (by decide)),
          fun h => f10 (h.resolve_left (by decide)),
          fun h => ⟨Or.inr (f11 (h.resolve_left (by decide))).1, Or.inr (f11 (h.resolve_left (by decide))).2.1, (f11 (h.resolve_left (by decide))).2.2.1, (f11 (h.resolve_left (by decide))).2.2.2⟩,
          fun h => ⟨Or.inr (f12 (h.resolve_left (by decide))).1, Or.inr (f12 (h.resolve_left (by decide))).2.1, Or.inr (f12 (h.resolve_left (by decide))).2.2.1, (f12 (h.resolve_left (by decide))).2.2.2⟩,
          fun h => by obtain ⟨xb, e, h1, h2, h3⟩ := f13 (h.resolve_left (by decide)); exact ⟨xb, e, h1, fun g => (h2 (fun g2 => g (Or.inr g2))), fun g => (h3 (g.resolve_left (by decide)))⟩,
          fun h => ⟨Or.inr (f14 (h.resolve_left (by decide))).1, Or.inr (f14 (h.resolve_left (by decide))).2.1, Or.inr (f14 (h.resolve_left (by decide))).2.2.1, Or.inr (f14 (h.resolve_left (by decide))).2.2.2⟩⟩
      · intro J a w hI hnl hd K hK
        obtain ⟨x7, x10, x11, x12, x13, x14, x15, x16, x17, x18, x19, x20, x21, x22, rfl, hB, f0, f1, f2, f3, f4, f5, f6, f7, f8, f9, f10, f11, f12, f13, f14⟩ := hI
        rw [if_pos (by rfl)]
        obtain rfl := f1 (hd ⟨1, .data⟩ (by simp) (by rfl))
        have hc := HCb w hB
        have hc := (hc.cell (j := 0) rfl)
        go_simp
        try simp only [zP, zQ, zS, zZ, zC]
        exact hK.out _ _ ⟨x7, x10, .pointer (some ⟨cb, 0, none⟩), .slice qe ne ce, x13, x14, x15, x16, x17, x18, x19, x20, x21, x22, rfl, hB,
          fun h => (f0 (h.resolve_left (by decide))),
          fun _ => rfl,
          fun _ => rfl,
          fun h => (f3 (h.resolve_left (by decide))),
          fun h => (f4 (h.resolve_left (by decide))),
          fun h => f5 (h.resolve_left (by decide)),
          fun h => f6 (h.resolve_left (by decide)),
          fun h => ⟨Or.inr (f7 (h.resolve_left (by decide))).1, (f7 (h.resolve_left (by decide))).2.1, (f7 (h.resolve_left (by decide))).2.2⟩,
          fun h => (f8 (h.resolve_left (by decide))),
          fun h => f9 (h.resolve_left (by decide)),
          fun h => f10 (h.resolve_left (by decide)),
          fun h => ⟨Or.inr (f11 (h.resolve_left (by decide))).1, Or.inr (f11 (h.resolve_left (by decide))).2.1, (f11 (h.resolve_left (by decide))).2.2.1, (f11 (h.resolve_left (by decide))).2.2.2⟩,
          fun h => ⟨Or.inr (f12 (h.resolve_left (by decide))).1, Or.inr (f12 (h.resolve_left (by decide))).2.1, Or.inr (f12 (h.resolve_left (by decide))).2.2.1, (f12 (h.resolve_left (by decide))).2.2.2⟩,
          fun h => by obtain ⟨xb, e, h1, h2, h3⟩ := f13 (h.resolve_left (by decide)); exact ⟨xb, e, h1, fun g => (h2 (fun g2 => g (Or.inr g2))), fun g => (h3 (g.resolve_left (by decide)))⟩,
          fun h => ⟨Or.inr (f14 (h.resolve_left (by decide))).1, Or.inr (f14 (h.resolve_left (by decide))).2.1, Or.inr (f14 (h.resolve_left (by decide))).2.2.1, Or.inr (f14 (h.resolve_left (by decide))).2.2.2⟩⟩
      · intro J a w hI hnl hd K hK
        obtain ⟨x7, x10, x11, x12, x13, x14, x15, x16, x17, x18, x19, x20, x21, x22, rfl, hB, f0, f1, f2, f3, f4, f5, f6, f7, f8, f9, f10, f11, f12, f13, f14⟩ := hI
        rw [if_pos (by rfl)]
        obtain ⟨g, rfl, hO⟩ := f0 (hd ⟨0, .data⟩ (by simp) (by rfl))
        obtain rfl := f2 (hd ⟨2, .data⟩ (by simp) (by rfl))
        refine clone_wp intE (.tmp 10) (.tmp 12) rfl E g ne ce rfl hO (Nat.le_trans hBV hB.size) qe rfl hE (HAE w hB) (by omega) ?_
        intro g' c' w' hO2 hz0 hg X
        try simp only [zP, zQ, zS, zZ, zC]
        exact hK.out _ _ ⟨x7, .slice (some ⟨g, 0, none⟩) 0 0, x11, .slice qe ne ce, .slice (some ⟨g', 0, none⟩) ne c', x14, x15, x16, x17, x18, x19, x20, x21, x22, rfl, link hB X,
          fun h => (f0 (hd ⟨0, .data⟩ (by simp) (by rfl))).keep X,
          fun h => f1 (h.resolve_left (by decide)),
          fun _ => rfl,
          fun _ => ⟨g', c', rfl, fun h => (hz0 h).2, hO2⟩,
          fun h => (f4 (h.resolve_left (by decide))).keep X,
          fun h => f5 (h.resolve_left (by decide)),
          fun h => f6 (h.resolve_left (by decide)),
          fun h => absurd (f7 (h.resolve_left (by decide))).1 hnl,
          fun h => (f8 (h.resolve_left (by decide))).keep X,
          fun h => f9 (h.resolve_left (by decide)),
          fun h => f10 (h.resolve_left (by decide)),
          fun h => absurd (f11 (h.resolve_left (by decide))).1 hnl,
          fun h => absurd (f12 (h.resolve_left (by decide))).1 hnl,
          fun h => by obtain ⟨xb, e, h1, h2, h3⟩ := f13 (h.resolve_left (by decide)); exact ⟨xb, e, h1, fun g => (h2 (fun g2 => g (Or.inr g2))).keep X, fun g => absurd (f14 (g.resolve_left (by decide))).1 hnl⟩,
          fun h => ⟨Or.inr (f14 (h.resolve_left (by decide))).1, Or.inr (f14 (h.resolve_left (by decide))).2.1, Or.inr (f14 (h.resolve_left (by decide))).2.2.1, Or.inr (f14 (h.resolve_left (by decide))).2.2.2⟩⟩
      · intro J a w hI hnl hd K hK
        obtain ⟨x7, x10, x11, x12, x13, x14, x15, x16, x17, x18, x19, x20, x21, x22, rfl, hB, f0, f1, f2, f3, f4, f5, f6, f7, f8, f9, f10, f11, f12, f13, f14⟩ := hI
        rw [if_pos (by rfl)]
        go_simp
        try simp only [zP, zQ, zS, zZ, zC]
        have X : Below w.heap.size w (w.alloc (.cells #[] 3)) := (Below.refl _ _).alloc (Nat.le_refl _) _
        have N : Emp (w.alloc (.cells #[] 3)) B (.slice (some ⟨w.heap.size, 0, none⟩) 0 0) := ⟨_, rfl, (own_new intE w #[] [] 0 rfl (by omega) rfl).mono (Nat.le_trans hBV hB.size)⟩
        exact hK.out _ _ ⟨x7, x10, x11, x12, x13, .slice (some ⟨w.heap.size, 0, none⟩) 0 0, x15, x16, x17, x18, x19, x20, x21, x22, rfl, link hB X,
          fun h => (f0 (h.resolve_left (by decide))).keep X,
          fun h => f1 (h.resolve_left (by decide)),
          fun h => f2 (h.resolve_left (by decide)),
          fun h => (f3 (h.resolve_left (by decide))).keep X,
          fun _ => N,
          fun h => f5 (h.resolve_left (by decide)),
          fun h => f6 (h.resolve_left (by decide)),
          fun h => ⟨Or.inr (f7 (h.resolve_left (by decide))).1, (f7 (h.resolve_left (by decide))).2.1.keep X, (f7 (h.resolve_left (by decide))).2.2⟩,
          fun h => (f8 (h.resolve_left (by decide))).keep X,
          fun h => f9 (h.resolve_left (by decide)),
          fun h => f10 (h.resolve_left (by decide)),
          fun h => ⟨Or.inr (f11 (h.resolve_left (by decide))).1, Or.inr (f11 (h.resolve_left (by decide))).2.1, (f11 (h.resolve_left (by decide))).2.2.1.keep X, (f11 (h.resolve_left (by decide))).2.2.2⟩,
          fun h => ⟨Or.inr (f12 (h.resolve_left (by decide))).1, Or.inr (f12 (h.resolve_left (by decide))).2.1, Or.inr (f12 (h.resolve_left (by decide))).2.2.1, (f12 (h.resolve_left (by decide))).2.2.2⟩,
          fun h => by obtain ⟨xb, e, h1, h2, h3⟩ := f13 (h.resolve_left (by decide)); exact ⟨xb, e, h1, fun g => (h2 (fun g2 => g (Or.inr g2))).keep X, fun g => (h3 (g.resolve_left (by decide))).keep X⟩,
          fun h => ⟨Or.inr (f14 (h.resolve_left (by decide))).1, Or.inr (f14 (h.resolve_left (by decide))).2.1, Or.inr (f14 (h.resolve_left (by decide))).2.2.1, Or.inr (f14 (h.resolve_left (by decide))).2.2.2⟩⟩
      · intro J a w hI hnl hd K hK
        obtain ⟨x7, x10, x11, x12, x13, x14, x15, x16, x17, x18, x19, x20, x21, x22, rfl, hB, f0, f1, f2, f3, f4, f5, f6, f7, f8, f9, f10, f11, f12, f13, f14⟩ := hI
        rw [if_pos (by rfl)]
        go_simp
        try simp only [zP, zQ, zS, zZ, zC]
        exact hK.out _ _ ⟨x7, x10, x11, x12, x13, x14, .pointer (some ⟨cb, 1, none⟩), x16, x17, x18, x19, x20, x21, x22, rfl, hB,
          fun h => (f0 (h.resolve_left (by decide))),
          fun h => f1 (h.resolve_left (by decide)),
          fun h => f2 (h.resolve_left (by decide)),
          fun h => (f3 (h.resolve_left (by decide))),
          fun h => (f4 (h.resolve_left (by decide))),
          fun _ => rfl,
          fun h => f6 (h.resolve_left (by decide)),
          fun h => ⟨Or.inr (f7 (h.resolve_left (by decide))).1, (f7 (h.resolve_left (by decide))).2.1, (f7 (h.resolve_left (by decide))).2.2⟩,
          fun h => (f8 (h.resolve_left (by decide))),
          fun h => f9 (h.resolve_left (by decide)),
          fun h => f10 (h.resolve_left (by decide)),
          fun h => ⟨Or.inr (f11 (h.resolve_left (by decide))).1, Or.inr (f11 (h.resolve_left (by decide))).2.1, (f11 (h.resolve_left (by decide))).2.2.1, (f11 (h.resolve_left (by decide))).2.2.2⟩,
          fun h => ⟨Or.inr (f12 (h.resolve_left (by decide))).1, Or.inr (f12 (h.resolve_left (by decide))).2.1, Or.inr (f12 (h.resolve_left (by decide))).2.2.1, (f12 (h.resolve_left (by decide))).2.2.2⟩,
          fun h => by obtain ⟨xb, e, h1, h2, h3⟩ := f13 (h.resolve_left (by decide)); exact ⟨xb, e, h1, fun g => (h2 (fun g2 => g (Or.inr g2))), fun g => (h3 (g.resolve_left (by decide)))⟩,
          fun h => ⟨Or.inr (f14 (h.resolve_left (by decide))).1, Or.inr (f14 (h.resolve_left (by decide))).2.1, Or.inr (f14 (h.resolve_left (by decide))).2.2.1, Or.inr (f14 (h.resolve_left (by decide))).2.2.2⟩⟩
      · intro J a w hI hnl hd K hK
        obtain ⟨x7, x10, x11, x12, x13, x14, x15, x16, x17, x18, x19, x20, x21, x22, rfl, hB, f0, f1, f2, f3, f4, f5, f6, f7, f8, f9, f10, f11, f12, f13, f14⟩ := hI
        rw [if_pos (by rfl)]
        obtain rfl := f5 (hd ⟨5, .data⟩ (by simp) (by rfl))
        have hc := HCb w hB
        have hc := (hc.cell (j := 1) rfl)
        go_simp
        try simp only [zP, zQ, zS, zZ, zC]
        exact hK.out _ _ ⟨x7, x10, x11, x12, x13, x14, .pointer (some ⟨cb, 1, none⟩), .slice ql nl cl, x17, x18, x19, x20, x21, x22, rfl, hB,
          fun h => (f0 (h.resolve_left (by decide))),
          fun h => f1 (h.resolve_left (by decide)),
          fun h => f2 (h.resolve_left (by decide)),
          fun h => (f3 (h.resolve_left (by decide))),
          fun h => (f4 (h.resolve_left (by decide))),
          fun _ => rfl,
          fun _ => rfl,
          fun h => ⟨Or.inr (f7 (h.resolve_left (by decide))).1, (f7 (h.resolve_left (by decide))).2.1, (f7 (h.resolve_left (by decide))).2.2⟩,
          fun h => (f8 (h.resolve_left (by decide))),
          fun h => f9 (h.resolve_left (by decide)),
          fun h => f10 (h.resolve_left (by decide)),
          fun h => ⟨Or.inr (f11 (h.resolve_left (by decide))).1, Or.inr (f11 (h.resolve_left (by decide))).2.1, (f11 (h.resolve_left (by decide))).2.2.1, (f11 (h.resolve_left (by decide))).2.2.2⟩,
          fun h => ⟨Or.inr (f12 (h.resolve_left (by decide))).1, Or.inr (f12 (h.resolve_left (by decide))).2.1, Or.inr (f12 (h.resolve_left (by decide))).2.2.1, (f12 (h.resolve_left (by decide))).2.2.2⟩,
          fun h => by obtain ⟨xb, e, h1, h2, h3⟩ := f13 (h.resolve_left (by decide)); exact ⟨xb, e, h1, fun g => (h2 (fun g2 => g (Or.inr g2))), fun g => (h3 (g.resolve_left (by decide)))⟩,
          fun h => ⟨Or.inr (f14 (h.resolve_left (by decide))).1, Or.inr (f14 (h.resolve_left (by decide))).2.1, Or.inr (f14 (h.resolve_left (by decide))).2.2.1, Or.inr (f14 (h.resolve_left (by decide))).2.2.2⟩⟩
      · intro J a w hI hnl hd K hK
        obtain ⟨x7, x10, x11, x12, x13, x14, x15, x16, x17, x18, x19, x20, x21, x22, rfl, hB, f0, f1, f2, f3, f4, f5, f6, f7, f8, f9, f10, f11, f12, f13, f14⟩ := hI
        rw [if_pos (by rfl)]
        obtain ⟨g, rfl, hO⟩ := f4 (hd ⟨4, .data⟩ (by simp) (by rfl))
        obtain rfl := f6 (hd ⟨6, .data⟩ (by simp) (by rfl))
        have hch := (hd ⟨3, .chain⟩ (by simp) (by rfl))
        refine clone_wp intE (.tmp 14) (.tmp 16) rfl L g nl cl rfl hO (Nat.le_trans hBV hB.size) ql rfl hL (HAL w hB) (by omega) ?_
        intro g' c' w' hO2 hz0 hg X
        try simp only [zP, zQ, zS, zZ, zC]
        exact hK.out _ _ ⟨x7, x10, x11, x12, x13, .slice (some ⟨g, 0, none⟩) 0 0, x15, .slice ql nl cl, .slice (some ⟨g', 0, none⟩) nl c', x18, x19, x20, x21, x22, rfl, link hB X,
          fun h => (f0 (h.resolve_left (by decide))).keep X,
          fun h => f1 (h.resolve_left (by decide)),
          fun h => f2 (h.resolve_left (by decide)),
          fun h => (f3 (h.resolve_left (by decide))).keep X,
          fun h => (f4 (hd ⟨4, .data⟩ (by simp) (by rfl))).keep X,
          fun h => f5 (h.resolve_left (by decide)),
          fun _ => rfl,
          fun _ => ⟨Or.inr hch, ⟨g', c', rfl, fun h => (hz0 h).2, hO2⟩, fun hn => own_apart (f3 hch).lt (hg (ne_len hL hn))⟩,
          fun h => (f8 (h.resolve_left (by decide))).keep X,
          fun h => f9 (h.resolve_left (by decide)),
          fun h => f10 (h.resolve_left (by decide)),
          fun h => absurd (f11 (h.resolve_left (by decide))).2.1 hnl,
          fun h => absurd (f12 (h.resolve_left (by decide))).2.1 hnl,
          fun h => by obtain ⟨xb, e, h1, h2, h3⟩ := f13 (h.resolve_left (by decide)); exact ⟨xb, e, h1, fun g => (h2 (fun g2 => g (Or.inr g2))).keep X, fun g => absurd (f14 (g.resolve_left (by decide))).2.1 hnl⟩,
          fun h => ⟨Or.inr (f14 (h.resolve_left (by decide))).1, Or.inr (f14 (h.resolve_left (by decide))).2.1, Or.inr (f14 (h.resolve_left (by decide))).2.2.1, Or.inr (f14 (h.resolve_left (by decide))).2.2.2⟩⟩
      · intro J a w hI hnl hd K hK
        obtain ⟨x7, x10, x11, x12, x13, x14, x15, x16, x17, x18, x19, x20, x21, x22, rfl, hB, f0, f1, f2, f3, f4, f5, f6, f7, f8, f9, f10, f11, f12, f13, f14⟩ := hI
        rw [if_pos (by rfl)]
        go_simp
        try simp only [zP, zQ, zS, zZ, zC]
        have X : Below w.heap.size w (w.alloc (.cells #[] 3)) := (Below.refl _ _).alloc (Nat.le_refl _) _
        have N : Emp (w.alloc (.cells #[] 3)) B (.slice (some ⟨w.heap.size, 0, none⟩) 0 0) := ⟨_, rfl, (own_new intE w #[] [] 0 rfl (by omega) rfl).mono (Nat.le_trans hBV hB.size)⟩
        exact hK.out _ _ ⟨x7, x10, x11, x12, x13, x14, x15, x16, x17, .slice (some ⟨w.heap.size, 0, none⟩) 0 0, x19, x20, x21, x22, rfl, link hB X,
          fun h => (f0 (h.resolve_left (by decide))).keep X,
          fun h => f1 (h.resolve_left (by decide)),
          fun h => f2 (h.resolve_left (by decide)),
          fun h => (f3 (h.resolve_left (by decide))).keep X,
          fun h => (f4 (h.resolve_left (by decide))).keep X,
          fun h => f5 (h.resolve_left (by decide)),
          fun h => f6 (h.resolve_left (by decide)),
          fun h => ⟨Or.inr (f7 (h.resolve_left (by decide))).1, (f7 (h.resolve_left (by decide))).2.1.keep X, (f7 (h.resolve_left (by decide))).2.2⟩,
          fun _ => N,
          fun h => f9 (h.resolve_left (by decide)),
          fun h => f10 (h.resolve_left (by decide)),
          fun h => ⟨Or.inr (f11 (h.resolve_left (by decide))).1, Or.inr (f11 (h.resolve_left (by decide))).2.1, (f11 (h.resolve_left (by decide))).2.2.1.keep X, (f11 (h.resolve_left (by decide))).2.2.2⟩,
          fun h => ⟨Or.inr (f12 (h.resolve_left (by decide))).1, Or.inr (f12 (h.resolve_left (by decide))).2.1, Or.inr (f12 (h.resolve_left (by decide))).2.2.1, (f12 (h.resolve_left (by decide))).2.2.2⟩,
          fun h => by obtain ⟨xb, e, h1, h2, h3⟩ := f13 (h.resolve_left (by decide)); exact ⟨xb, e, h1, fun g => (h2 (fun g2 => g (Or.inr g2))).keep X, fun g => (h3 (g.resolve_left (by decide))).keep X⟩,
          fun h => ⟨Or.inr (f14 (h.resolve_left (by decide))).1, Or.inr (f14 (h.resolve_left (by decide))).2.1, Or.inr (f14 (h.resolve_left (by decide))).2.2.1, Or.inr (f14 (h.resolve_left (by decide))).2.2.2⟩⟩
      · intro J a w hI hnl hd K hK
        obtain ⟨x7, x10, x11, x12, x13, x14, x15, x16, x17, x18, x19, x20, x21, x22, rfl, hB, f0, f1, f2, f3, f4, f5, f6, f7, f8, f9, f10, f11, f12, f13, f14⟩ := hI
        rw [if_pos (by rfl)]
        go_simp
        try simp only [zP, zQ, zS, zZ, zC]
        exact hK.out _ _ ⟨x7, x10, x11, x12, x13, x14, x15, x16, x17, x18, .pointer (some ⟨cb, 2, none⟩), x20, x21, x22, rfl, hB,
          fun h => (f0 (h.resolve_left (by decide))),
          fun h => f1 (h.resolve_left (by decide)),
          fun h => f2 (h.resolve_left (by decide)),
          fun h => (f3 (h.resolve_left (by decide))),
          fun h => (f4 (h.resolve_left (by decide))),
          fun h => f5 (h.resolve_left (by decide)),
          fun h => f6 (h.resolve_left (by decide)),
          fun h => ⟨Or.inr (f7 (h.resolve_left (by decide))).1, (f7 (h.resolve_left (by decide))).2.1, (f7 (h.resolve_left (by decide))).2.2⟩,
          fun h => (f8 (h.resolve_left (by decide))),
          fun _ => rfl,
          fun h => f10 (h.resolve_left (by decide)),
          fun h => ⟨Or.inr (f11 (h.resolve_left (by decide))).1, Or.inr (f11 (h.resolve_left (by decide))).2.1, (f11 (h.resolve_left (by decide))).2.2.1, (f11 (h.resolve_left (by decide))).2.2.2⟩,
          fun h => ⟨Or.inr (f12 (h.resolve_left (by decide))).1, Or.inr (f12 (h.resolve_left (by decide))).2.1, Or.inr (f12 (h.resolve_left (by decide))).2.2.1, (f12 (h.resolve_left (by decide))).2.2.2⟩,
          fun h => by obtain ⟨xb, e, h1, h2, h3⟩ := f13 (h.resolve_left (by decide)); exact ⟨xb, e, h1, fun g => (h2 (fun g2 => g (Or.inr g2))), fun g => (h3 (g.resolve_left (by decide)))⟩,
          fun h => ⟨Or.inr (f14 (h.resolve_left (by decide))).1, Or.inr (f14 (h.resolve_left (by decide))).2.1, Or.inr (f14 (h.resolve_left (by decide))).2.2.1, Or.inr (f14 (h.resolve_left (by decide))).2.2.2⟩⟩
      · intro J a w hI hnl hd K hK
        obtain ⟨x7, x10, x11, x12, x13, x14, x15, x16, x17, x18, x19, x20, x21, x22, rfl, hB, f0, f1, f2, f3, f4, f5, f6, f7, f8, f9, f10, f11, f12, f13, f14⟩ := hI
        rw [if_pos (by rfl)]
        obtain rfl := f9 (hd ⟨9, .data⟩ (by simp) (by rfl))
        have hc := HCb w hB
        have hc := (hc.cell (j := 2) rfl)
        go_simp
        try simp only [zP, zQ, zS, zZ, zC]
        exact hK.out _ _ ⟨x7, x10, x11, x12, x13, x14, x15, x16, x17, x18, .pointer (some ⟨cb, 2, none⟩), .slice qc nc cc, x21, x22, rfl, hB,
          fun h => (f0 (h.resolve_left (by decide))),
          fun h => f1 (h.resolve_left (by decide)),
          fun h => f2 (h.resolve_left (by decide)),
          fun h => (f3 (h.resolve_left (by decide))),
          fun h => (f4 (h.resolve_left (by decide))),
          fun h => f5 (h.resolve_left (by decide)),
          fun h => f6 (h.resolve_left (by decide)),
          fun h => ⟨Or.inr (f7 (h.resolve_left (by decide))).1, (f7 (h.resolve_left (by decide))).2.1, (f7 (h.resolve_left (by decide))).2.2⟩,
          fun h => (f8 (h.resolve_left (by decide))),
          fun _ => rfl,
          fun _ => rfl,
          fun h => ⟨Or.inr (f11 (h.resolve_left (by decide))).1, Or.inr (f11 (h.resolve_left (by decide))).2.1, (f11 (h.resolve_left (by decide))).2.2.1, (f11 (h.resolve_left (by decide))).2.2.2⟩,
          fun h => ⟨Or.inr (f12 (h.resolve_left (by decide))).1, Or.inr (f12 (h.resolve_left (by decide))).2.1, Or.inr (f12 (h.resolve_left (by decide))).2.2.1, (f12 (h.resolve_left (by decide))).2.2.2⟩,
          fun h => by obtain ⟨xb, e, h1, h2, h3⟩ := f13 (h.resolve_left (by decide)); exact ⟨xb, e, h1, fun g => (h2 (fun g2 => g (Or.inr g2))), fun g => (h3 (g.resolve_left (by decide)))⟩,
          fun h => ⟨Or.inr (f14 (h.resolve_left (by decide))).1, Or.inr (f14 (h.resolve_left (by decide))).2.1, Or.inr (f14 (h.resolve_left (by decide))).2.2.1, Or.inr (f14 (h.resolve_left (by decide))).2.2.2⟩⟩
      · intro J a w hI hnl hd K hK
        obtain ⟨x7, x10, x11, x12, x13, x14, x15, x16, x17, x18, x19, x20, x21, x22, rfl, hB, f0, f1, f2, f3, f4, f5, f6, f7, f8, f9, f10, f11, f12, f13, f14⟩ := hI
        rw [if_pos (by rfl)]
        obtain ⟨g, rfl, hO⟩ := f8 (hd ⟨8, .data⟩ (by simp) (by rfl))
        obtain rfl := f10 (hd ⟨10, .data⟩ (by simp) (by rfl))
        have hch := (hd ⟨7, .chain⟩ (by simp) (by rfl))
        refine clone_wp intE (.tmp 18) (.tmp 20) rfl C g nc cc rfl hO (Nat.le_trans hBV hB.size) qc rfl hC (HAC w hB) (by omega) ?_
        intro g' c' w' hO2 hz0 hg X
        try simp only [zP, zQ, zS, zZ, zC]
        exact hK.out _ _ ⟨x7, x10, x11, x12, x13, x14, x15, x16, x17, .slice (some ⟨g, 0, none⟩) 0 0, x19, .slice qc nc cc, .slice (some ⟨g', 0, none⟩) nc c', x22, rfl, link hB X,
          fun h => (f0 (h.resolve_left (by decide))).keep X,
          fun h => f1 (h.resolve_left (by decide)),
          fun h => f2 (h.resolve_left (by decide)),
          fun h => (f3 (h.resolve_left (by decide))).keep X,
          fun h => (f4 (h.resolve_left (by decide))).keep X,
          fun h => f5 (h.resolve_left (by decide)),
          fun h => f6 (h.resolve_left (by decide)),
          fun h => ⟨Or.inr (f7 (h.resolve_left (by decide))).1, (f7 (h.resolve_left (by decide))).2.1.keep X, (f7 (h.resolve_left (by decide))).2.2⟩,
          fun h => (f8 (hd ⟨8, .data⟩ (by simp) (by rfl))).keep X,
          fun h => f9 (h.resolve_left (by decide)),
          fun _ => rfl,
          fun _ => ⟨Or.inr (f7 hch).1, Or.inr hch, ⟨g', c', rfl, fun h => (hz0 h).2, hO2⟩, fun hn => ⟨own_apart (f3 (f7 hch).1).lt (hg (ne_len hC hn)), own_apart (f7 hch).2.1.lt (hg (ne_len hC hn))⟩⟩,
          fun h => absurd (f12 (h.resolve_left (by decide))).2.2.1 hnl,
          fun h => by obtain ⟨xb, e, h1, h2, h3⟩ := f13 (h.resolve_left (by decide)); exact ⟨xb, e, h1, fun g => (h2 (fun g2 => g (Or.inr g2))).keep X, fun g => absurd (f14 (g.resolve_left (by decide))).2.2.1 hnl⟩,
          fun h => ⟨Or.inr (f14 (h.resolve_left (by decide))).1, Or.inr (f14 (h.resolve_left (by decide))).2.1, Or.inr (f14 (h.resolve_left (by decide))).2.2.1, Or.inr (f14 (h.resolve_left (by decide))).2.2.2⟩⟩
      · intro J a w hI hnl hd K hK
        obtain ⟨x7, x10, x11, x12, x13, x14, x15, x16, x17, x18, x19, x20, x21, x22, rfl, hB, f0, f1, f2, f3, f4, f5, f6, f7, f8, f9, f10, f11, f12, f13, f14⟩ := hI
        rw [if_pos (by rfl)]
        obtain ⟨g1, k1, rfl, y1, o1⟩ := f3 (hd ⟨3, .data⟩ (by simp) (by rfl))
        obtain ⟨g2, k2, rfl, y2, o2⟩ := (f7 (hd ⟨7, .data⟩ (by simp) (by rfl))).2.1
        obtain ⟨g3, k3, rfl, y3, o3⟩ := (f11 (hd ⟨11, .data⟩ (by simp) (by rfl))).2.2.1
        go_simp
        try simp only [zP, zQ, zS, zZ, zC]
        exact hK.out _ _ ⟨x7, x10, x11, x12, .slice (some ⟨g1, 0, none⟩) ne k1, x14, x15, x16, .slice (some ⟨g2, 0, none⟩) nl k2, x18, x19, x20, .slice (some ⟨g3, 0, none⟩) nc k3, .agg #[.slice (some ⟨g1, 0, none⟩) ne k1, .slice (some ⟨g2, 0, none⟩) nl k2, .slice (some ⟨g3, 0, none⟩) nc k3], rfl, hB,
          fun h => (f0 (h.resolve_left (by decide))),
          fun h => f1 (h.resolve_left (by decide)),
          fun h => f2 (h.resolve_left (by decide)),
          fun h => (f3 (h.resolve_left (by decide))),
          fun h => (f4 (h.resolve_left (by decide))),
          fun h => f5 (h.resolve_left (by decide)),
          fun h => f6 (h.resolve_left (by decide)),
          fun h => ⟨Or.inr (f7 (h.resolve_left (by decide))).1, (f7 (h.resolve_left (by decide))).2.1, (f7 (h.resolve_left (by decide))).2.2⟩,
          fun h => (f8 (h.resolve_left (by decide))),
          fun h => f9 (h.resolve_left (by decide)),
          fun h => f10 (h.resolve_left (by decide)),
          fun h => ⟨Or.inr (f11 (h.resolve_left (by decide))).1, Or.inr (f11 (h.resolve_left (by decide))).2.1, (f11 (h.resolve_left (by decide))).2.2.1, (f11 (h.resolve_left (by decide))).2.2.2⟩,
          fun _ => ⟨Or.inr (hd ⟨3, .data⟩ (by simp) (by rfl)), Or.inr (hd ⟨7, .data⟩ (by simp) (by rfl)), Or.inr (hd ⟨11, .data⟩ (by simp) (by rfl)), rfl⟩,
          fun h => by obtain ⟨xb, e, h1, h2, h3⟩ := f13 (h.resolve_left (by decide)); exact ⟨xb, e, h1, fun g => (h2 (fun g2 => g (Or.inr g2))), fun g => (h3 (g.resolve_left (by decide)))⟩,
          fun h => ⟨Or.inr (f14 (h.resolve_left (by decide))).1, Or.inr (f14 (h.resolve_left (by decide))).2.1, Or.inr (f14 (h.resolve_left (by decide))).2.2.1, Or.inr (f14 (h.resolve_left (by decide))).2.2.2⟩⟩
      · intro J a w hI hnl hd K hK
        obtain ⟨x7, x10, x11, x12, x13, x14, x15, x16, x17, x18, x19, x20, x21, x22, rfl, hB, f0, f1, f2, f3, f4, f5, f6, f7, f8, f9, f10, f11, f12, f13, f14⟩ := hI
        rw [if_pos (by rfl)]
        go_simp
        try simp only [zP, zQ, zS, zZ, zC]
        have X : Below w.heap.size w (w.alloc (.cells zeroCt.toArray 32)) := (Below.refl _ _).alloc (Nat.le_refl _) _
        have N : Blk (w.alloc (.cells zeroCt.toArray 32)) w.heap.size 32 zeroCt := blk_new w _ _
        have hn14 : ¬ J 14 := fun h => hnl (f14 h).2.2.2
        exact hK.out _ _ ⟨.pointer (some ⟨w.heap.size, 0, none⟩), x10, x11, x12, x13, x14, x15, x16, x17, x18, x19, x20, x21, x22, rfl, link hB X,
          fun h => (f0 (h.resolve_left (by decide))).keep X,
          fun h => f1 (h.resolve_left (by decide)),
          fun h => f2 (h.resolve_left (by decide)),
          fun h => (f3 (h.resolve_left (by decide))).keep X,
          fun h => (f4 (h.resolve_left (by decide))).keep X,
          fun h => f5 (h.resolve_left (by decide)),
          fun h => f6 (h.resolve_left (by decide)),
          fun h => ⟨Or.inr (f7 (h.resolve_left (by decide))).1, (f7 (h.resolve_left (by decide))).2.1.keep X, (f7 (h.resolve_left (by decide))).2.2⟩,
          fun h => (f8 (h.resolve_left (by decide))).keep X,
          fun h => f9 (h.resolve_left (by decide)),
          fun h => f10 (h.resolve_left (by decide)),
          fun h => ⟨Or.inr (f11 (h.resolve_left (by decide))).1, Or.inr (f11 (h.resolve_left (by decide))).2.1, (f11 (h.resolve_left (by decide))).2.2.1.keep X, (f11 (h.resolve_left (by decide))).2.2.2⟩,
          fun h => ⟨Or.inr (f12 (h.resolve_left (by decide))).1, Or.inr (f12 (h.resolve_left (by decide))).2.1, Or.inr (f12 (h.resolve_left (by decide))).2.2.1, (f12 (h.resolve_left (by decide))).2.2.2⟩,
          fun _ => ⟨w.heap.size, rfl, hB.size, fun _ => N, fun h => absurd (h.resolve_left (by decide)) hn14⟩,
          fun h => absurd (h.resolve_left (by decide)) hn14⟩
      · intro J a w hI hnl hd K hK
        obtain ⟨x7, x10, x11, x12, x13, x14, x15, x16, x17, x18, x19, x20, x21, x22, rfl, hB, f0, f1, f2, f3, f4, f5, f6, f7, f8, f9, f10, f11, f12, f13, f14⟩ := hI
        rw [if_pos (by rfl)]
        obtain ⟨xb, rfl, hxb, hz, _⟩ := f13 (hd ⟨13, .data⟩ (by simp) (by rfl))
        obtain ⟨j3, j7, j11, rfl⟩ := f12 (hd ⟨12, .data⟩ (by simp) (by rfl))
        have KX := hz hnl
        obtain ⟨_, _, hp21, _⟩ := f11 j11
        have hp13 := f3 j3
        have hp17 := (f7 j7).2.1
        refine wp_store_mid 32 (.tmp 7) (.tmp 22) rfl xb 0 #[x13, x17, x21] rfl rfl (by simpa using KX.there 0 3 (by simp [zeroCt])) (by kernel_rfl) (all_oneCell_toArray (by intro v hv; simp at hv; rcases hv with rfl | rfl | rfl; (exact hp13.one); (exact hp17.one); (exact hp21.one))) ?_
        have K2 : Blk (w.setCells xb 0 [x13, x17, x21]) xb 32 [x13, x17, x21] := KX.all rfl
        have O := only_sets xb 0 w [x13, x17, x21]
        have X2 := O.2.2 _ _ hxb hB
        dsimp only
        generalize World.setCells w xb 0 [x13, x17, x21] = w' at K2 O X2 ⊢
        try simp only [zP, zQ, zS, zZ, zC]
        exact hK.out _ _ ⟨.pointer (some ⟨xb, 0, none⟩), x10, x11, x12, x13, x14, x15, x16, x17, x18, x19, x20, x21, .agg #[x13, x17, x21], rfl, X2,
          fun h => (f0 (h.resolve_left (by decide))).only O KX,
          fun h => f1 (h.resolve_left (by decide)),
          fun h => f2 (h.resolve_left (by decide)),
          fun _ => hp13.only O KX,
          fun h => (f4 (h.resolve_left (by decide))).only O KX,
          fun h => f5 (h.resolve_left (by decide)),
          fun h => f6 (h.resolve_left (by decide)),
          fun _ => ⟨Or.inr j3, hp17.only O KX, (f7 j7).2.2⟩,
          fun h => (f8 (h.resolve_left (by decide))).only O KX,
          fun h => f9 (h.resolve_left (by decide)),
          fun h => f10 (h.resolve_left (by decide)),
          fun _ => ⟨Or.inr j3, Or.inr j7, hp21.only O KX, (f11 j11).2.2.2⟩,
          fun _ => ⟨Or.inr j3, Or.inr j7, Or.inr j11, rfl⟩,
          fun _ => ⟨xb, rfl, hxb, fun h => absurd (Or.inl rfl) h, fun _ => K2⟩,
          fun _ => ⟨Or.inr j3, Or.inr j7, Or.inr j11, Or.inr (hd ⟨13, .data⟩ (by simp) (by rfl))⟩⟩
  case rest =>
  obtain ⟨xb, g1, g2, g3, k1, k2, k3, rfl, hxb, KX, z1, z2, z3, O1, O2, O3, n21, n3, hB⟩ := hcut
  generalize wc = W1 at *
  have D1 := own_cells O1
  have D2 := own_cells O2
  have D3 := own_cells O3
  have KR : Blk W1 rb 32 zeroCt := Kr.keep hB
  have BW := link X2 hB
  have hrbx : rb ≠ xb := by have := Kr.lt; omega
  have hwxb : w.heap.size ≤ xb := by have := X2.size; omega
  have hBs0 : B ≤ W1.heap.size := Nat.le_trans hBV hB.size
  have c1 := (HCb W1 hB).cell (j := 1) rfl
  have HBw := Lib.hid hBw
  clear HCb HAE HAL HAC hBV hBw Kb Kr hB X2
  obtain ⟨mx, hmx⟩ : ∃ mx, max nl 1 = mx := ⟨_, rfl⟩
  have hmx1 : (if (nl : Int) < 1 then 1 else (nl : Int)) = (mx : Int) := by split <;> omega
  have HR1 := Lib.hid (fun V : World => around_any by_ h3 h4 mx (by omega) (by omega) V)
  have hq1 : -9223372036854775808 ≤ by_.tdiv 16 ∧ by_.tdiv 16 ≤ 9223372036854775807 := tdiv_in h3 h4
  have HR2 := Lib.hid (fun V : World => around_any (by_.tdiv 16) hq1.1 hq1.2 7 (by omega) (by omega) V)
  have HR3 := Lib.hid (fun V : World => around_any how h1 h2 8 (by omega) (by omega) V)
  have hmxl : 0 < nl → mx = nl := by omega
  clear h1 h2 hmx hq1
  go_upto_region 3 with (go_at_call 29; refine (HR1.out _).mono ?_; rintro en w2 ⟨k, hk, rfl, rfl⟩)
  clear hmx1 HR1 c1
  go_upto_region 4 with (go_at_call 29; refine (HR2.out _).mono ?_; rintro en w3 ⟨r7, hr7, rfl, rfl⟩)
  obtain ⟨dn, hdn⟩ : ∃ dn : Int, (r7 : Int) - 3 = dn := ⟨_, rfl⟩
  have hd1 : -3 ≤ dn := by omega
  have hd2 : dn ≤ 3 := by omega
  rw [hdn]
  clear hdn hr7 HR2
  have e0 := KX.cell (j := 0) rfl
  have e1 := KX.cell (j := 1) rfl
  have e2 := KX.cell (j := 2) rfl
  have hg1 : E ≠ [] → w.heap.size ≤ g1 := fun _ => by rw [HBw.out]; exact (World.ownsRow.lt O1 g1 rfl).1
  have hg2 : L ≠ [] → w.heap.size ≤ g2 := fun _ => by rw [HBw.out]; exact (World.ownsRow.lt O2 g2 rfl).1
  have hg3 : C ≠ [] → w.heap.size ≤ g3 := fun _ => by rw [HBw.out]; exact (World.ownsRow.lt O3 g3 rfl).1
  have hrx := hrbx
  have hwx := hwxb
  have HBs := Lib.hid hBs0
  have hk3 : nc ≤ k3 := own_cap O3 hC
  have al1 : ∀ (V : World) (o : Obj), Below V.heap.size V (V.alloc o) := fun V o => (Below.refl _ _).alloc (Nat.le_refl _) _
  go_upto_region 7 with (go_at_call 29; refine (HR3.out _).mono ?_; rintro en w4 ⟨r0, hr0, rfl, rfl⟩)
  clear HR3
  have hr8 : r0 = 0 ∨ r0 = 1 ∨ r0 = 2 ∨ r0 = 3 ∨ r0 = 4 ∨ r0 = 5 ∨ r0 = 6 ∨ r0 = 7 := by omega
  clear hr0
  rcases hr8 with rfl | rfl | rfl | rfl | rfl | rfl | rfl | rfl
  · skip
    by_cases hn : E = []
    · have h0 : ¬ (0 : Int) < (ne : Int) := by rw [hn] at hE; simp at hE; omega
      go_wp2_with (first
        | (refine wpList_load_mid rfl 32 (.tmp 7) rfl xb 0 rfl [.slice (some ⟨g1, 0, none⟩) ne k1, .slice (some ⟨g2, 0, none⟩) nl k2, .slice (some ⟨g3, 0, none⟩) nc k3] _ (by have := (KX).range 0 3; exact this) Try.underlying32 rfl (by kernel_rfl) ?_)
        | (refine store_blk rfl 32 (.tmp 6) (.tmp 151) rfl KR rfl rfl (vs := [.slice (some ⟨g1, 0, none⟩) ne k1, .slice (some ⟨g2, 0, none⟩) nl k2, .slice (some ⟨g3, 0, none⟩) nc k3]) (m := 3) (by kernel_rfl) rfl rfl (by intro v hv; simp at hv; rcases hv with rfl | rfl | rfl <;> rfl) ?_; intro W9 K9 O9))
      try simp only [zP, zQ, zS, zZ, zC]
      try go_wp2
      exact bodyPost_ret (v := .agg #[.slice (some ⟨g1, 0, none⟩) ne k1, .slice (some ⟨g2, 0, none⟩) nl k2, .slice (some ⟨g3, 0, none⟩) nc k3]) (results_one (by rfl) _ _ rfl (K9.loadVarS Try.underlying32 (by kernel_rfl))) rfl ⟨E, L, C, _, _, _, _, _, _, _, _, _, rfl, ⟨hE, hL, hC, by omega, by omega, by omega, ((D1).only O9 KR).at, ((D2).only O9 KR).at, ((D3).only O9 KR).at⟩, by omega, by omega, by omega, fE, fL, fC, O9.2.2 _ _ hwr BW⟩
    have h0 : 0 < ne := by have := ne_len hE hn; omega
    have HR4 := Lib.hid (fun V : World => around_any by_ h3 h4 ne (by omega) (by omega) V)
    go_upto_region 9 with (fail)
    clear e0 e1 e2
    refine wp_region_held_drew (S := fun w' => Blk w' xb 32 [.slice (some ⟨g1, 0, none⟩) ne k1, .slice (some ⟨g2, 0, none⟩) nl k2, .slice (some ⟨g3, 0, none⟩) nc k3]) (by kernel_rfl) (KX.drew) (fun _ => ?_)
    have hHeld : Blk w4.drew xb 32 [.slice (some ⟨g1, 0, none⟩) ne k1, .slice (some ⟨g2, 0, none⟩) nl k2, .slice (some ⟨g3, 0, none⟩) nc k3] := KX.drew
    replace D1 : Cells1 w4.drew g1 0 E := D1
    replace D2 : Cells1 w4.drew g2 0 L := D2
    replace D3 : Cells1 w4.drew g3 0 C := D3
    replace KR : Blk w4.drew rb 32 zeroCt := KR
    replace BW := below_drew BW
    generalize w4.drew = V0 at hHeld D1 D2 D3 KR BW ⊢
    refine wt (i := 0) (oi := ⟨some 52, .fieldAddr 32 (.tmp 7) 0, 0, "ref.go:224", #[], none⟩) (v := .pointer (some ⟨xb, 0, none⟩)) (Or.inl ⟨by rfl, fun w' hSw => by go_simp⟩) hHeld ?_
    try simp only [zP, zQ, zS, zZ, zC]
    refine wt (i := 1) (oi := ⟨some 53, .load 22 (.tmp 52), 22, "ref.go:224", #[⟨0, .data⟩], none⟩) (v := .slice (some ⟨g1, 0, none⟩) ne k1) (Or.inl ⟨by rfl, fun w' hSw => by have hc := hSw.cell (j := 0) rfl; go_simp⟩) hHeld ?_
    try simp only [zP, zQ, zS, zZ, zC]
    refine wt (i := 2) (oi := ⟨some 54, .move (.tmp 2), 3, "ref.go:224", #[], none⟩) (v := .int .i64 by_) (Or.inl ⟨by rfl, fun w' hSw => by go_simp⟩) hHeld ?_
    try simp only [zP, zQ, zS, zZ, zC]
    refine wt (i := 3) (oi := ⟨some 55, .fieldAddr 32 (.tmp 7) 0, 0, "ref.go:224", #[], none⟩) (v := .pointer (some ⟨xb, 0, none⟩)) (Or.inl ⟨by rfl, fun w' hSw => by go_simp⟩) hHeld ?_
    try simp only [zP, zQ, zS, zZ, zC]
    refine wt (i := 4) (oi := ⟨some 56, .load 22 (.tmp 55), 22, "ref.go:224", #[⟨3, .data⟩], none⟩) (v := .slice (some ⟨g1, 0, none⟩) ne k1) (Or.inl ⟨by rfl, fun w' hSw => by have hc := hSw.cell (j := 0) rfl; go_simp⟩) hHeld ?_
    try simp only [zP, zQ, zS, zZ, zC]
    refine wt (i := 5) (oi := ⟨some 57, .call { callee := .builtin .len, args := #[.tmp 56], argTypes := #[22] }, 3, "ref.go:224", #[⟨4, .data⟩], none⟩) (v := .int .i64 (ne : Int)) (Or.inl ⟨by rfl, fun w' hSw => by go_simp⟩) hHeld ?_
    try simp only [zP, zQ, zS, zZ, zC]
    refine wt (i := 9) (oi := ⟨some 61, .move (.tmp 9), 3, "ref.go:224", #[], none⟩) (v := .int .i64 dn) (Or.inl ⟨by rfl, fun w' hSw => by go_simp⟩) hHeld ?_
    try simp only [zP, zQ, zS, zZ, zC]
    refine wpAnyH_ready (rs := [6]) (by kernel_rfl) (by simp) ?_
    refine AllReadyH.cons (o := ⟨some 58, .call { callee := .value (.func 29), args := #[.tmp 54, .tmp 57], argTypes := #[3, 3] }, 3, "ref.go:224", #[⟨2, .data⟩, ⟨5, .data⟩], none⟩) rfl (fun K hK => ?_) AllReadyH.nil
    rw [if_pos (by rfl)]
    go_simp
    refine (HR4.out V0).mono ?_
    rintro en V1 ⟨r, hr, rfl, rfl⟩
    dsimp only
    refine hK.out _ _ (hHeld) (fun hHeld => ?_)
    clear hK K
    try simp only [zP, zQ, zS, zZ, zC]
    refine wt (i := 7) (oi := ⟨some 59, .indexAddr 22 (.tmp 53) (.tmp 58), 0, "ref.go:224", #[⟨1, .data⟩, ⟨6, .data⟩], none⟩) (v := .pointer (some ⟨g1, r, none⟩)) (Or.inl ⟨by rfl, fun w' hSw => by go_simp; try (intro hcm; exact absurd hcm (by omega))⟩) hHeld ?_
    try simp only [zP, zQ, zS, zZ, zC]
    obtain ⟨x, hx⟩ : ∃ x, E[r]? = some x := ⟨_, List.getElem?_eq_getElem (by omega)⟩
    obtain ⟨cs, hb, hcs⟩ := D1 (by intro h; rw [h] at hx; simp at hx)
    have h0 := hcs r x hx
    rw [Nat.zero_add] at h0
    have hcq := hb.cell h0
    have hfq := hb.free r
    obtain ⟨y, hy⟩ : ∃ y, IntKind.i64.wrap (x + dn) = y := ⟨_, rfl⟩
    have HY := Lib.hid hy
    have fy := wrap_few hy
    clear hy
    refine wpAnyH_ready (rs := [8]) (by kernel_rfl) (by simp) ?_
    refine AllReadyH.cons (o := ⟨some 60, .load 3 (.tmp 59), 3, "ref.go:224", #[⟨7, .data⟩], none⟩) rfl (fun K hK => ?_) AllReadyH.nil
    rw [if_pos (by rfl)]
    go_simp
    refine hK.out _ _ (hHeld) (fun hHeld => ?_)
    clear hK K
    try simp only [zP, zQ, zS, zZ, zC]
    refine wt (i := 10) (oi := ⟨some 62, .binOp .add 3 (.tmp 60) (.tmp 61) 3, 3, "ref.go:224", #[⟨8, .data⟩, ⟨9, .data⟩], none⟩) (v := .int .i64 y) (Or.inl ⟨by rfl, fun w' hSw => by have hw := HY.out; go_simp⟩) hHeld ?_
    try simp only [zP, zQ, zS, zZ, zC]
    refine wt (i := 11) (oi := ⟨some 63, .indexAddr 22 (.tmp 53) (.tmp 58), 0, "ref.go:224", #[⟨1, .data⟩, ⟨6, .data⟩, ⟨0, .phase⟩, ⟨1, .phase⟩, ⟨2, .phase⟩, ⟨3, .phase⟩, ⟨4, .phase⟩, ⟨5, .phase⟩, ⟨6, .phase⟩, ⟨7, .phase⟩, ⟨8, .phase⟩, ⟨9, .phase⟩, ⟨10, .phase⟩], none⟩) (v := .pointer (some ⟨g1, r, none⟩)) (Or.inl ⟨by rfl, fun w' hSw => by go_simp; try (intro hcm; exact absurd hcm (by omega))⟩) hHeld ?_
    try simp only [zP, zQ, zS, zZ, zC]
    refine wpAnyH_ready (rs := [12]) (by kernel_rfl) (by simp) ?_
    refine AllReadyH.cons (o := ⟨none, .store 3 (.tmp 63) (.tmp 62), 0, "ref.go:224", #[⟨11, .data⟩, ⟨10, .data⟩, ⟨6, .chain⟩, ⟨0, .phase⟩, ⟨1, .phase⟩, ⟨2, .phase⟩, ⟨3, .phase⟩, ⟨4, .phase⟩, ⟨5, .phase⟩, ⟨6, .phase⟩, ⟨7, .phase⟩, ⟨8, .phase⟩, ⟨9, .phase⟩, ⟨10, .phase⟩], none⟩) rfl (fun K hK => ?_) AllReadyH.nil
    rw [if_pos (by rfl)]
    go_simp
    have hNE := D1.set (k := r) (y := y) (by omega)
    replace D2 := D2.other (b := g1) (i := r) (v := .int .i64 y) (n21)
    replace D3 := D3.other (b := g1) (i := r) (v := .int .i64 y) (fun h => (n3 h).1)
    replace KR := KR.other (a := ⟨g1, r, none⟩) (blk_types hb KR).symm (.int .i64 y)
    replace BW : Below w.heap.size w (V1.setCell ⟨g1, r, none⟩ (.int .i64 y)) := BW.setCell (hg1 hn) _
    refine hK.out _ _ (hHeld.other (a := ⟨g1, r, none⟩) (blk_types hb hHeld).symm _) (fun hHeld => ?_)
    clear hK K
    try simp only [zP, zQ, zS, zZ, zC]
    refine wpAnyH_done (by kernel_rfl) ?_ _
    have KX8 := hHeld
    clear hHeld hcq hfq hb hcs h0
    generalize World.setCell V1 ⟨g1, r, none⟩ (.int .i64 y) = W8 at KX8 KR BW hNE D2 D3 ⊢
    go_wp2_with (first
      | (refine wpList_load_mid rfl 32 (.tmp 7) rfl xb 0 rfl [.slice (some ⟨g1, 0, none⟩) ne k1, .slice (some ⟨g2, 0, none⟩) nl k2, .slice (some ⟨g3, 0, none⟩) nc k3] _ (by have := (KX8).range 0 3; exact this) Try.underlying32 rfl (by kernel_rfl) ?_)
      | (refine store_blk rfl 32 (.tmp 6) (.tmp 151) rfl KR rfl rfl (vs := [.slice (some ⟨g1, 0, none⟩) ne k1, .slice (some ⟨g2, 0, none⟩) nl k2, .slice (some ⟨g3, 0, none⟩) nc k3]) (m := 3) (by kernel_rfl) rfl rfl (by intro v hv; simp at hv; rcases hv with rfl | rfl | rfl <;> rfl) ?_; intro W9 K9 O9))
    try simp only [zP, zQ, zS, zZ, zC]
    try go_wp2
    exact bodyPost_ret (v := .agg #[.slice (some ⟨g1, 0, none⟩) ne k1, .slice (some ⟨g2, 0, none⟩) nl k2, .slice (some ⟨g3, 0, none⟩) nc k3]) (results_one (by rfl) _ _ rfl (K9.loadVarS Try.underlying32 (by kernel_rfl))) rfl ⟨(E.set r y), L, C, _, _, _, _, _, _, _, _, _, rfl, ⟨by rw [List.length_set]; exact hE, hL, hC, by omega, by omega, by omega, ((hNE).only O9 KR).at, ((D2).only O9 KR).at, ((D3).only O9 KR).at⟩, by omega, by omega, by omega, few_set fE fy, fL, fC, O9.2.2 _ _ hwr BW⟩
  · skip
    by_cases hn : E = []
    · have h0 : ¬ (0 : Int) < (ne : Int) := by rw [hn] at hE; simp at hE; omega
      go_wp2_with (first
        | (refine wpList_load_mid rfl 32 (.tmp 7) rfl xb 0 rfl [.slice (some ⟨g1, 0, none⟩) ne k1, .slice (some ⟨g2, 0, none⟩) nl k2, .slice (some ⟨g3, 0, none⟩) nc k3] _ (by have := (KX).range 0 3; exact this) Try.underlying32 rfl (by kernel_rfl) ?_)
        | (refine store_blk rfl 32 (.tmp 6) (.tmp 151) rfl KR rfl rfl (vs := [.slice (some ⟨g1, 0, none⟩) ne k1, .slice (some ⟨g2, 0, none⟩) nl k2, .slice (some ⟨g3, 0, none⟩) nc k3]) (m := 3) (by kernel_rfl) rfl rfl (by intro v hv; simp at hv; rcases hv with rfl | rfl | rfl <;> rfl) ?_; intro W9 K9 O9))
      try simp only [zP, zQ, zS, zZ, zC]
      try go_wp2
      exact bodyPost_ret (v := .agg #[.slice (some ⟨g1, 0, none⟩) ne k1, .slice (some ⟨g2, 0, none⟩) nl k2, .slice (some ⟨g3, 0, none⟩) nc k3]) (results_one (by rfl) _ _ rfl (K9.loadVarS Try.underlying32 (by kernel_rfl))) rfl ⟨E, L, C, _, _, _, _, _, _, _, _, _, rfl, ⟨hE, hL, hC, by omega, by omega, by omega, ((D1).only O9 KR).at, ((D2).only O9 KR).at, ((D3).only O9 KR).at⟩, by omega, by omega, by omega, fE, fL, fC, O9.2.2 _ _ hwr BW⟩
    have h0 : 0 < ne := by have := ne_len hE hn; omega
    have HR4 := Lib.hid (fun V : World => around_any by_ h3 h4 ne (by omega) (by omega) V)
    go_upto_region 12 with (fail)
    obtain ⟨W00, hW00⟩ : ∃ W, w = W := ⟨_, rfl⟩
    rw [hW00] at BW
    have HBs1 := Lib.hid (show B ≤ w4.heap.size from HBs.out)
    have hB4 : ∀ V, Below W00.heap.size W00 V → B ≤ V.heap.size := fun V h => by have := h.size; rw [← hW00] at this; rw [← HBw.out]; exact this
    refine wp_region_inv (by kernel_rfl) (fun J a w => ∃ x70 x71 x72 x73 x74 x75 x76 x77 x78 x79 x80 x81 x82 x83 x84 x85 x86 x87 x88 : Value, a = ⟨List.toArray (.agg #[.slice qe ne ce, .slice ql nl cl, .slice qc nc cc] :: .int .i64 how :: .int .i64 by_ :: .pointer (some ⟨cb, 0, none⟩) :: undef :: undef :: .pointer (some ⟨rb, 0, none⟩) :: .pointer (some ⟨xb, 0, none⟩) :: .int .i64 (k : Int) :: .int .i64 dn :: u10 :: u11 :: u12 :: u13 :: u14 :: u15 :: u16 :: u17 :: u18 :: u19 :: u20 :: u21 :: u22 :: .int .i64 by_ :: .pointer (some ⟨cb, 1, none⟩) :: .slice ql nl cl :: .int .i64 (nl : Int) :: .int .i64 (mx : Int) :: .int .i64 (k : Int) :: .int .i64 by_ :: .int .i64 (by_.tdiv 16) :: .int .i64 (r7 : Int) :: .int .i64 dn :: .int .i64 how :: .int .i64 1 :: undef :: undef :: undef :: undef :: undef :: undef :: undef :: undef :: undef :: undef :: undef :: .bool false :: .bool false :: undef :: undef :: undef :: undef :: undef :: undef :: undef :: undef :: undef :: undef :: undef :: undef :: undef :: undef :: undef :: undef :: .bool true :: .bool true :: .pointer (some ⟨xb, 0, none⟩) :: .slice (some ⟨g1, 0, none⟩) ne k1 :: .int .i64 (ne : Int) :: .bool true :: x70 :: x71 :: x72 :: x73 :: x74 :: x75 :: x76 :: x77 :: x78 :: x79 :: x80 :: x81 :: x82 :: x83 :: x84 :: x85 :: x86 :: x87 :: x88 :: undef :: undef :: undef :: undef :: undef :: undef :: undef :: undef :: undef :: undef :: undef :: undef :: undef :: undef :: undef :: undef :: undef :: undef :: undef :: undef :: undef :: undef :: undef :: undef :: undef :: undef :: undef :: undef :: undef :: undef :: undef :: undef :: undef :: undef :: undef :: undef :: undef :: undef :: undef :: undef :: undef :: undef :: undef :: undef :: undef :: undef :: undef :: undef :: undef :: undef :: undef :: undef :: undef :: undef :: undef :: undef :: undef :: undef :: undef :: undef :: undef :: undef :: undef :: []), []⟩ ∧ (J 0 → x70 = .pointer (some ⟨xb, 0, none⟩)) ∧ (J 1 → x71 = .slice (some ⟨g1, 0, none⟩) ne k1) ∧ (J 2 → x72 = .int .i64 by_) ∧ (J 3 → x73 = .pointer (some ⟨xb, 0, none⟩)) ∧ (J 4 → x74 = .slice (some ⟨g1, 0, none⟩) ne k1) ∧ (J 5 → x75 = .int .i64 (ne : Int)) ∧ (J 6 → ∃ r : Nat, r < ne ∧ x76 = .int .i64 (r : Int)) ∧ (J 7 → ∃ r : Nat, r ≤ ne ∧ x77 = .slice (some ⟨g1, 0, none⟩) r k1) ∧ (J 8 → x78 = .pointer (some ⟨xb, 0, none⟩)) ∧ (J 9 → x79 = .slice (some ⟨g1, 0, none⟩) ne k1) ∧ (J 10 → x80 = .int .i64 by_) ∧ (J 11 → x81 = .pointer (some ⟨xb, 0, none⟩)) ∧ (J 12 → x82 = .slice (some ⟨g1, 0, none⟩) ne k1) ∧ (J 13 → x83 = .int .i64 (ne : Int)) ∧ (J 14 → ∃ r : Nat, r < ne ∧ x84 = .int .i64 (r : Int)) ∧ (J 15 → ∃ r : Nat, 1 ≤ r ∧ r ≤ ne ∧ x85 = .int .i64 (r : Int)) ∧ (J 16 → ∃ (ad : Addr) (n c : Nat) (l2 : List Int), x86 = .slice (some ad) n c ∧ l2.length = n ∧ n ≤ ne ∧ Few l2 ∧ (¬ J 17 → At intE w (some ad) l2)) ∧ (J 17 → ∃ (q : Option Addr) (n c : Nat) (l2 : List Int), x87 = .slice q n c ∧ l2.length = n ∧ n ≤ m + m + 1 ∧ Few l2 ∧ AtX w q l2) ∧ (J 18 → x88 = .pointer (some ⟨xb, 0, none⟩)) ∧ (¬ J 17 → OwnR intE w B (.slice (some ⟨g1, 0, none⟩) ne k1) E) ∧ Cells1 w g2 0 L ∧ Cells1 w g3 0 C ∧ Blk w rb 32 zeroCt ∧ Below W00.heap.size W00 w ∧ (¬ J 19 → Blk w xb 32 [.slice (some ⟨g1, 0, none⟩) ne k1, .slice (some ⟨g2, 0, none⟩) nl k2, .slice (some ⟨g3, 0, none⟩) nc k3]) ∧ (J 19 → Blk w xb 32 [x87, .slice (some ⟨g2, 0, none⟩) nl k2, .slice (some ⟨g3, 0, none⟩) nc k3]) ∧ (J 19 → J 17 ∧ J 1 ∧ J 4 ∧ J 9 ∧ J 12)) (by kernel_rfl) ?_ ?_ ?_
    · exact ⟨undef, undef, undef, undef, undef, undef, undef, undef, undef, undef, undef, undef, undef, undef, undef, undef, undef, undef, undef, rfl, fun h => absurd h (by decide), fun h => absurd h (by decide), fun h => absurd h (by decide), fun h => absurd h (by decide), fun h => absurd h (by decide), fun h => absurd h (by decide), fun h => absurd h (by decide), fun h => absurd h (by decide), fun h => absurd h (by decide), fun h => absurd h (by decide), fun h => absurd h (by decide), fun h => absurd h (by decide), fun h => absurd h (by decide), fun h => absurd h (by decide), fun h => absurd h (by decide), fun h => absurd h (by decide), fun h => absurd h (by decide), fun h => absurd h (by decide), fun h => absurd h (by decide), fun _ => O1, D2, D3, KR, below_drew BW, fun _ => KX, fun h => absurd h (by decide), fun h => absurd h (by decide)⟩
    · intro J a w hI hall
      obtain ⟨x70, x71, x72, x73, x74, x75, x76, x77, x78, x79, x80, x81, x82, x83, x84, x85, x86, x87, x88, rfl, f0, f1, f2, f3, f4, f5, f6, f7, f8, f9, f10, f11, f12, f13, f14, f15, f16, f17, f18, m1, m2, m3, m4, m5, m6, m7, m8⟩ := hI
      obtain ⟨q, n, c, l2, rfl, hl2, hn2, fw2, at2⟩ := f17 (hall 17)
      have KX8 := m7 (hall 19)
      rw [← hW00] at m5
      clear f0 f1 f2 f3 f4 f5 f6 f7 f8 f9 f10 f11 f12 f13 f14 f15 f16 f17 f18 m1 m6 m7 m8 e0 e1 e2 KX D1 D2 D3 O1 O2 O3 hall KR BW
      skip
      go_wp2_with (first
        | (refine wpList_load_mid rfl 32 (.tmp 7) rfl xb 0 rfl [.slice q n c, .slice (some ⟨g2, 0, none⟩) nl k2, .slice (some ⟨g3, 0, none⟩) nc k3] _ (by have := (KX8).range 0 3; exact this) Try.underlying32 rfl (by kernel_rfl) ?_)
        | (refine store_blk rfl 32 (.tmp 6) (.tmp 151) rfl m4 rfl rfl (vs := [.slice q n c, .slice (some ⟨g2, 0, none⟩) nl k2, .slice (some ⟨g3, 0, none⟩) nc k3]) (m := 3) (by kernel_rfl) rfl rfl (by intro v hv; simp at hv; rcases hv with rfl | rfl | rfl <;> rfl) ?_; intro W9 K9 O9))
      try simp only [zP, zQ, zS, zZ, zC]
      try go_wp2
      exact bodyPost_ret (v := .agg #[.slice q n c, .slice (some ⟨g2, 0, none⟩) nl k2, .slice (some ⟨g3, 0, none⟩) nc k3]) (results_one (by rfl) _ _ rfl (K9.loadVarS Try.underlying32 (by kernel_rfl))) rfl ⟨l2, L, C, _, _, _, _, _, _, _, _, _, rfl, ⟨hl2, hL, hC, by omega, by omega, by omega, ((at2).only O9 m4).at, ((m2).only O9 m4).at, ((m3).only O9 m4).at⟩, by omega, by omega, by omega, fw2, fL, fC, O9.2.2 _ _ hwr m5⟩
    · refine ⟨?_, ?_, ?_, ?_, ?_, ?_, ?_, ?_, ?_, ?_, ?_, ?_, ?_, ?_, ?_, ?_, ?_, ?_, ?_, ?_, trivial⟩
      · intro J a w hI hnl hd K hK
        obtain ⟨x70, x71, x72, x73, x74, x75, x76, x77, x78, x79, x80, x81, x82, x83, x84, x85, x86, x87, x88, rfl, f0, f1, f2, f3, f4, f5, f6, f7, f8, f9, f10, f11, f12, f13, f14, f15, f16, f17, f18, m1, m2, m3, m4, m5, m6, m7, m8⟩ := hI
        rw [if_pos (by rfl)]
        go_simp
        try simp only [zP, zQ, zS, zZ, zC]
        exact hK.out _ _ ⟨.pointer (some ⟨xb, 0, none⟩), x71, x72, x73, x74, x75, x76, x77, x78, x79, x80, x81, x82, x83, x84, x85, x86, x87, x88, rfl,
          fun _ => rfl,
          fun h => f1 (h.resolve_left (by decide)),
          fun h => f2 (h.resolve_left (by decide)),
          fun h => f3 (h.resolve_left (by decide)),
          fun h => f4 (h.resolve_left (by decide)),
          fun h => f5 (h.resolve_left (by decide)),
          fun h => f6 (h.resolve_left (by decide)),
          fun h => f7 (h.resolve_left (by decide)),
          fun h => f8 (h.resolve_left (by decide)),
          fun h => f9 (h.resolve_left (by decide)),
          fun h => f10 (h.resolve_left (by decide)),
          fun h => f11 (h.resolve_left (by decide)),
          fun h => f12 (h.resolve_left (by decide)),
          fun h => f13 (h.resolve_left (by decide)),
          fun h => f14 (h.resolve_left (by decide)),
          fun h => f15 (h.resolve_left (by decide)),
          fun h => by obtain ⟨ad, n, c, l2, y1, y2, y3, y4, y5⟩ := f16 (h.resolve_left (by decide)); exact ⟨ad, n, c, l2, y1, y2, y3, y4, fun g => y5 (fun g2 => g (Or.inr g2))⟩,
          fun h => f17 (h.resolve_left (by decide)),
          fun h => f18 (h.resolve_left (by decide)),
          fun h => m1 (fun g => h (Or.inr g)),
          m2,
          m3,
          m4,
          m5,
          fun h => m6 (fun g => h (Or.inr g)),
          fun h => m7 (h.resolve_left (by decide)),
          fun h => ⟨Or.inr (m8 (h.resolve_left (by decide))).1, Or.inr (m8 (h.resolve_left (by decide))).2.1, Or.inr (m8 (h.resolve_left (by decide))).2.2.1, Or.inr (m8 (h.resolve_left (by decide))).2.2.2.1, Or.inr (m8 (h.resolve_left (by decide))).2.2.2.2⟩⟩
      · intro J a w hI hnl hd K hK
        obtain ⟨x70, x71, x72, x73, x74, x75, x76, x77, x78, x79, x80, x81, x82, x83, x84, x85, x86, x87, x88, rfl, f0, f1, f2, f3, f4, f5, f6, f7, f8, f9, f10, f11, f12, f13, f14, f15, f16, f17, f18, m1, m2, m3, m4, m5, m6, m7, m8⟩ := hI
        rw [if_pos (by rfl)]
        obtain rfl := f0 (hd ⟨0, .data⟩ (by simp) (by rfl))
        have hc := (m6 (fun h => hnl (m8 h).2.1)).cell (j := 0) rfl
        go_simp
        try simp only [zP, zQ, zS, zZ, zC]
        exact hK.out _ _ ⟨.pointer (some ⟨xb, 0, none⟩), .slice (some ⟨g1, 0, none⟩) ne k1, x72, x73, x74, x75, x76, x77, x78, x79, x80, x81, x82, x83, x84, x85, x86, x87, x88, rfl,
          fun _ => rfl,
          fun _ => rfl,
          fun h => f2 (h.resolve_left (by decide)),
          fun h => f3 (h.resolve_left (by decide)),
          fun h => f4 (h.resolve_left (by decide)),
          fun h => f5 (h.resolve_left (by decide)),
          fun h => f6 (h.resolve_left (by decide)),
          fun h => f7 (h.resolve_left (by decide)),
          fun h => f8 (h.resolve_left (by decide)),
          fun h => f9 (h.resolve_left (by decide)),
          fun h => f10 (h.resolve_left (by decide)),
          fun h => f11 (h.resolve_left (by decide)),
          fun h => f12 (h.resolve_left (by decide)),
          fun h => f13 (h.resolve_left (by decide)),
          fun h => f14 (h.resolve_left (by decide)),
          fun h => f15 (h.resolve_left (by decide)),
          fun h => by obtain ⟨ad, n, c, l2, y1, y2, y3, y4, y5⟩ := f16 (h.resolve_left (by decide)); exact ⟨ad, n, c, l2, y1, y2, y3, y4, fun g => y5 (fun g2 => g (Or.inr g2))⟩,
          fun h => f17 (h.resolve_left (by decide)),
          fun h => f18 (h.resolve_left (by decide)),
          fun h => m1 (fun g => h (Or.inr g)),
          m2,
          m3,
          m4,
          m5,
          fun h => m6 (fun g => h (Or.inr g)),
          fun h => m7 (h.resolve_left (by decide)),
          fun h => ⟨Or.inr (m8 (h.resolve_left (by decide))).1, Or.inr (m8 (h.resolve_left (by decide))).2.1, Or.inr (m8 (h.resolve_left (by decide))).2.2.1, Or.inr (m8 (h.resolve_left (by decide))).2.2.2.1, Or.inr (m8 (h.resolve_left (by decide))).2.2.2.2⟩⟩
      · intro J a w hI hnl hd K hK
        obtain ⟨x70, x71, x72, x73, x74, x75, x76, x77, x78, x79, x80, x81, x82, x83, x84, x85, x86, x87, x88, rfl, f0, f1, f2, f3, f4, f5, f6, f7, f8, f9, f10, f11, f12, f13, f14, f15, f16, f17, f18, m1, m2, m3, m4, m5, m6, m7, m8⟩ := hI
        rw [if_pos (by rfl)]
        go_simp
        try simp only [zP, zQ, zS, zZ, zC]
        exact hK.out _ _ ⟨x70, x71, .int .i64 by_, x73, x74, x75, x76, x77, x78, x79, x80, x81, x82, x83, x84, x85, x86, x87, x88, rfl,
          fun h => f0 (h.resolve_left (by decide)),
          fun h => f1 (h.resolve_left (by decide)),
          fun _ => rfl,
          fun h => f3 (h.resolve_left (by decide)),
          fun h => f4 (h.resolve_left (by decide)),
          fun h => f5 (h.resolve_left (by decide)),
          fun h => f6 (h.resolve_left (by decide)),
          fun h => f7 (h.resolve_left (by decide)),
          fun h => f8 (h.resolve_left (by decide)),
          fun h => f9 (h.resolve_left (by decide)),
          fun h => f10 (h.resolve_left (by decide)),
          fun h => f11 (h.resolve_left (by decide)),
          fun h => f12 (h.resolve_left (by decide)),
          fun h => f13 (h.resolve_left (by decide)),
          fun h => f14 (h.resolve_left (by decide)),
          fun h => f15 (h.resolve_left (by decide)),
          fun h => by obtain ⟨ad, n, c, l2, y1, y2, y3, y4, y5⟩ := f16 (h.resolve_left (by decide)); exact ⟨ad, n, c, l2, y1, y2, y3, y4, fun g => y5 (fun g2 => g (Or.inr g2))⟩,
          fun h => f17 (h.resolve_left (by decide)),
          fun h => f18 (h.resolve_left (by decide)),
          fun h => m1 (fun g => h (Or.inr g)),
          m2,
          m3,
          m4,
          m5,
          fun h => m6 (fun g => h (Or.inr g)),
          fun h => m7 (h.resolve_left (by decide)),
          fun h => ⟨Or.inr (m8 (h.resolve_left (by decide))).1, Or.inr (m8 (h.resolve_left (by decide))).2.1, Or.inr (m8 (h.resolve_left (by decide))).2.2.1, Or.inr (m8 (h.resolve_left (by decide))).2.2.2.1, Or.inr (m8 (h.resolve_left (by decide))).2.2.2.2⟩⟩
      · intro J a w hI hnl hd K hK
        obtain ⟨x70, x71, x72, x73, x74, x75, x76, x77, x78, x79, x80, x81, x82, x83, x84, x85, x86, x87, x88, rfl, f0, f1, f2, f3, f4, f5, f6, f7, f8, f9, f10, f11, f12, f13, f14, f15, f16, f17, f18, m1, m2, m3, m4, m5, m6, m7, m8⟩ := hI
        rw [if_pos (by rfl)]
        go_simp
        try simp only [zP, zQ, zS, zZ, zC]
        exact hK.out _ _ ⟨x70, x71, x72, .pointer (some ⟨xb, 0, none⟩), x74, x75, x76, x77, x78, x79, x80, x81, x82, x83, x84, x85, x86, x87, x88, rfl,
          fun h => f0 (h.resolve_left (by decide)),
          fun h => f1 (h.resolve_left (by decide)),
          fun h => f2 (h.resolve_left (by decide)),
          fun _ => rfl,
          fun h => f4 (h.resolve_left (by decide)),
          fun h => f5 (h.resolve_left (by decide)),
          fun h => f6 (h.resolve_left (by decide)),
          fun h => f7 (h.resolve_left (by decide)),
          fun h => f8 (h.resolve_left (by decide)),
          fun h => f9 (h.resolve_left (by decide)),
          fun h => f10 (h.resolve_left (by decide)),
          fun h => f11 (h.resolve_left (by decide)),
          fun h => f12 (h.resolve_left (by decide)),
          fun h => f13 (h.resolve_left (by decide)),
          fun h => f14 (h.resolve_left (by decide)),
          fun h => f15 (h.resolve_left (by decide)),
          fun h => by obtain ⟨ad, n, c, l2, y1, y2, y3, y4, y5⟩ := f16 (h.resolve_left (by decide)); exact ⟨ad, n, c, l2, y1, y2, y3, y4, fun g => y5 (fun g2 => g (Or.inr g2))⟩,
          fun h => f17 (h.resolve_left (by decide)),
          fun h => f18 (h.resolve_left (by decide)),
          fun h => m1 (fun g => h (Or.inr g)),
          m2,
          m3,
          m4,
          m5,
          fun h => m6 (fun g => h (Or.inr g)),
          fun h => m7 (h.resolve_left (by decide)),
          fun h => ⟨Or.inr (m8 (h.resolve_left (by decide))).1, Or.inr (m8 (h.resolve_left (by decide))).2.1, Or.inr (m8 (h.resolve_left (by decide))).2.2.1, Or.inr (m8 (h.resolve_left (by decide))).2.2.2.1, Or.inr (m8 (h.resolve_left (by decide))).2.2.2.2⟩⟩
      · intro J a w hI hnl hd K hK
        obtain ⟨x70, x71, x72, x73, x74, x75, x76, x77, x78, x79, x80, x81, x82, x83, x84, x85, x86, x87, x88, rfl, f0, f1, f2, f3, f4, f5, f6, f7, f8, f9, f10, f11, f12, f13, f14, f15, f16, f17, f18, m1, m2, m3, m4, m5, m6, m7, m8⟩ := hI
        rw [if_pos (by rfl)]
        obtain rfl := f3 (hd ⟨3, .data⟩ (by simp) (by rfl))
        have hc := (m6 (fun h => hnl (m8 h).2.2.1)).cell (j := 0) rfl
        go_simp
        try simp only [zP, zQ, zS, zZ, zC]
        exact hK.out _ _ ⟨x70, x71, x72, .pointer (some ⟨xb, 0, none⟩), .slice (some ⟨g1, 0, none⟩) ne k1, x75, x76, x77, x78, x79, x80, x81, x82, x83, x84, x85, x86, x87, x88, rfl,
          fun h => f0 (h.resolve_left (by decide)),
          fun h => f1 (h.resolve_left (by decide)),
          fun h => f2 (h.resolve_left (by decide)),
          fun _ => rfl,
          fun _ => rfl,
          fun h => f5 (h.resolve_left (by decide)),
          fun h => f6 (h.resolve_left (by decide)),
          fun h => f7 (h.resolve_left (by decide)),
          fun h => f8 (h.resolve_left (by decide)),
          fun h => f9 (h.resolve_left (by decide)),
          fun h => f10 (h.resolve_left (by decide)),
          fun h => f11 (h.resolve_left (by decide)),
          fun h => f12 (h.resolve_left (by decide)),
          fun h => f13 (h.resolve_left (by decide)),
          fun h => f14 (h.resolve_left (by decide)),
          fun h => f15 (h.resolve_left (by decide)),
          fun h => by obtain ⟨ad, n, c, l2, y1, y2, y3, y4, y5⟩ := f16 (h.resolve_left (by decide)); exact ⟨ad, n, c, l2, y1, y2, y3, y4, fun g => y5 (fun g2 => g (Or.inr g2))⟩,
          fun h => f17 (h.resolve_left (by decide)),
          fun h => f18 (h.resolve_left (by decide)),
          fun h => m1 (fun g => h (Or.inr g)),
          m2,
          m3,
          m4,
          m5,
          fun h => m6 (fun g => h (Or.inr g)),
          fun h => m7 (h.resolve_left (by decide)),
          fun h => ⟨Or.inr (m8 (h.resolve_left (by decide))).1, Or.inr (m8 (h.resolve_left (by decide))).2.1, Or.inr (m8 (h.resolve_left (by decide))).2.2.1, Or.inr (m8 (h.resolve_left (by decide))).2.2.2.1, Or.inr (m8 (h.resolve_left (by decide))).2.2.2.2⟩⟩
      · intro J a w hI hnl hd K hK
        obtain ⟨x70, x71, x72, x73, x74, x75, x76, x77, x78, x79, x80, x81, x82, x83, x84, x85, x86, x87, x88, rfl, f0, f1, f2, f3, f4, f5, f6, f7, f8, f9, f10, f11, f12, f13, f14, f15, f16, f17, f18, m1, m2, m3, m4, m5, m6, m7, m8⟩ := hI
        rw [if_pos (by rfl)]
        obtain rfl := f4 (hd ⟨4, .data⟩ (by simp) (by rfl))
        go_simp
        try simp only [zP, zQ, zS, zZ, zC]
        exact hK.out _ _ ⟨x70, x71, x72, x73, .slice (some ⟨g1, 0, none⟩) ne k1, .int .i64 (ne : Int), x76, x77, x78, x79, x80, x81, x82, x83, x84, x85, x86, x87, x88, rfl,
          fun h => f0 (h.resolve_left (by decide)),
          fun h => f1 (h.resolve_left (by decide)),
          fun h => f2 (h.resolve_left (by decide)),
          fun h => f3 (h.resolve_left (by decide)),
          fun _ => rfl,
          fun _ => rfl,
          fun h => f6 (h.resolve_left (by decide)),
          fun h => f7 (h.resolve_left (by decide)),
          fun h => f8 (h.resolve_left (by decide)),
          fun h => f9 (h.resolve_left (by decide)),
          fun h => f10 (h.resolve_left (by decide)),
          fun h => f11 (h.resolve_left (by decide)),
          fun h => f12 (h.resolve_left (by decide)),
          fun h => f13 (h.resolve_left (by decide)),
          fun h => f14 (h.resolve_left (by decide)),
          fun h => f15 (h.resolve_left (by decide)),
          fun h => by obtain ⟨ad, n, c, l2, y1, y2, y3, y4, y5⟩ := f16 (h.resolve_left (by decide)); exact ⟨ad, n, c, l2, y1, y2, y3, y4, fun g => y5 (fun g2 => g (Or.inr g2))⟩,
          fun h => f17 (h.resolve_left (by decide)),
          fun h => f18 (h.resolve_left (by decide)),
          fun h => m1 (fun g => h (Or.inr g)),
          m2,
          m3,
          m4,
          m5,
          fun h => m6 (fun g => h (Or.inr g)),
          fun h => m7 (h.resolve_left (by decide)),
          fun h => ⟨Or.inr (m8 (h.resolve_left (by decide))).1, Or.inr (m8 (h.resolve_left (by decide))).2.1, Or.inr (m8 (h.resolve_left (by decide))).2.2.1, Or.inr (m8 (h.resolve_left (by decide))).2.2.2.1, Or.inr (m8 (h.resolve_left (by decide))).2.2.2.2⟩⟩
      · intro J a w hI hnl hd K hK
        obtain ⟨x70, x71, x72, x73, x74, x75, x76, x77, x78, x79, x80, x81, x82, x83, x84, x85, x86, x87, x88, rfl, f0, f1, f2, f3, f4, f5, f6, f7, f8, f9, f10, f11, f12, f13, f14, f15, f16, f17, f18, m1, m2, m3, m4, m5, m6, m7, m8⟩ := hI
        rw [if_pos (by rfl)]
        obtain rfl := f2 (hd ⟨2, .data⟩ (by simp) (by rfl))
        obtain rfl := f5 (hd ⟨5, .data⟩ (by simp) (by rfl))
        go_simp
        refine (HR4.out w).mono ?_
        rintro en w1 ⟨r, hr, rfl, rfl⟩
        dsimp only
        try simp only [zP, zQ, zS, zZ, zC]
        exact hK.out _ _ ⟨x70, x71, .int .i64 by_, x73, x74, .int .i64 (ne : Int), .int .i64 (r : Int), x77, x78, x79, x80, x81, x82, x83, x84, x85, x86, x87, x88, rfl,
          fun h => f0 (h.resolve_left (by decide)),
          fun h => f1 (h.resolve_left (by decide)),
          fun _ => rfl,
          fun h => f3 (h.resolve_left (by decide)),
          fun h => f4 (h.resolve_left (by decide)),
          fun _ => rfl,
          fun _ => ⟨r, hr, rfl⟩,
          fun h => f7 (h.resolve_left (by decide)),
          fun h => f8 (h.resolve_left (by decide)),
          fun h => f9 (h.resolve_left (by decide)),
          fun h => f10 (h.resolve_left (by decide)),
          fun h => f11 (h.resolve_left (by decide)),
          fun h => f12 (h.resolve_left (by decide)),
          fun h => f13 (h.resolve_left (by decide)),
          fun h => f14 (h.resolve_left (by decide)),
          fun h => f15 (h.resolve_left (by decide)),
          fun h => by obtain ⟨ad, n, c, l2, y1, y2, y3, y4, y5⟩ := f16 (h.resolve_left (by decide)); exact ⟨ad, n, c, l2, y1, y2, y3, y4, fun g => y5 (fun g2 => g (Or.inr g2))⟩,
          fun h => f17 (h.resolve_left (by decide)),
          fun h => f18 (h.resolve_left (by decide)),
          fun h => m1 (fun g => h (Or.inr g)),
          m2,
          m3,
          m4,
          m5,
          fun h => m6 (fun g => h (Or.inr g)),
          fun h => m7 (h.resolve_left (by decide)),
          fun h => ⟨Or.inr (m8 (h.resolve_left (by decide))).1, Or.inr (m8 (h.resolve_left (by decide))).2.1, Or.inr (m8 (h.resolve_left (by decide))).2.2.1, Or.inr (m8 (h.resolve_left (by decide))).2.2.2.1, Or.inr (m8 (h.resolve_left (by decide))).2.2.2.2⟩⟩
      · intro J a w hI hnl hd K hK
        obtain ⟨x70, x71, x72, x73, x74, x75, x76, x77, x78, x79, x80, x81, x82, x83, x84, x85, x86, x87, x88, rfl, f0, f1, f2, f3, f4, f5, f6, f7, f8, f9, f10, f11, f12, f13, f14, f15, f16, f17, f18, m1, m2, m3, m4, m5, m6, m7, m8⟩ := hI
        rw [if_pos (by rfl)]
        obtain rfl := f1 (hd ⟨1, .data⟩ (by simp) (by rfl))
        obtain ⟨r, hr, rfl⟩ := f6 (hd ⟨6, .data⟩ (by simp) (by rfl))
        have hrk : r ≤ k1 := by have := own_cap O1 hE; omega
        go_simp
        try (intro hcm; exact absurd hcm (by omega))
        try simp only [zP, zQ, zS, zZ, zC]
        exact hK.out _ _ ⟨x70, .slice (some ⟨g1, 0, none⟩) ne k1, x72, x73, x74, x75, .int .i64 (r : Int), .slice (some ⟨g1, 0, none⟩) r k1, x78, x79, x80, x81, x82, x83, x84, x85, x86, x87, x88, rfl,
          fun h => f0 (h.resolve_left (by decide)),
          fun _ => rfl,
          fun h => f2 (h.resolve_left (by decide)),
          fun h => f3 (h.resolve_left (by decide)),
          fun h => f4 (h.resolve_left (by decide)),
          fun h => f5 (h.resolve_left (by decide)),
          fun _ => ⟨r, hr, rfl⟩,
          fun _ => ⟨r, by omega, rfl⟩,
          fun h => f8 (h.resolve_left (by decide)),
          fun h => f9 (h.resolve_left (by decide)),
          fun h => f10 (h.resolve_left (by decide)),
          fun h => f11 (h.resolve_left (by decide)),
          fun h => f12 (h.resolve_left (by decide)),
          fun h => f13 (h.resolve_left (by decide)),
          fun h => f14 (h.resolve_left (by decide)),
          fun h => f15 (h.resolve_left (by decide)),
          fun h => by obtain ⟨ad, n, c, l2, y1, y2, y3, y4, y5⟩ := f16 (h.resolve_left (by decide)); exact ⟨ad, n, c, l2, y1, y2, y3, y4, fun g => y5 (fun g2 => g (Or.inr g2))⟩,
          fun h => f17 (h.resolve_left (by decide)),
          fun h => f18 (h.resolve_left (by decide)),
          fun h => m1 (fun g => h (Or.inr g)),
          m2,
          m3,
          m4,
          m5,
          fun h => m6 (fun g => h (Or.inr g)),
          fun h => m7 (h.resolve_left (by decide)),
          fun h => ⟨Or.inr (m8 (h.resolve_left (by decide))).1, Or.inr (m8 (h.resolve_left (by decide))).2.1, Or.inr (m8 (h.resolve_left (by decide))).2.2.1, Or.inr (m8 (h.resolve_left (by decide))).2.2.2.1, Or.inr (m8 (h.resolve_left (by decide))).2.2.2.2⟩⟩
      · intro J a w hI hnl hd K hK
        obtain ⟨x70, x71, x72, x73, x74, x75, x76, x77, x78, x79, x80, x81, x82, x83, x84, x85, x86, x87, x88, rfl, f0, f1, f2, f3, f4, f5, f6, f7, f8, f9, f10, f11, f12, f13, f14, f15, f16, f17, f18, m1, m2, m3, m4, m5, m6, m7, m8⟩ := hI
        rw [if_pos (by rfl)]
        go_simp
        try simp only [zP, zQ, zS, zZ, zC]
        exact hK.out _ _ ⟨x70, x71, x72, x73, x74, x75, x76, x77, .pointer (some ⟨xb, 0, none⟩), x79, x80, x81, x82, x83, x84, x85, x86, x87, x88, rfl,
          fun h => f0 (h.resolve_left (by decide)),
          fun h => f1 (h.resolve_left (by decide)),
          fun h => f2 (h.resolve_left (by decide)),
          fun h => f3 (h.resolve_left (by decide)),
          fun h => f4 (h.resolve_left (by decide)),
          fun h => f5 (h.resolve_left (by decide)),
          fun h => f6 (h.resolve_left (by decide)),
          fun h => f7 (h.resolve_left (by decide)),
          fun _ => rfl,
          fun h => f9 (h.resolve_left (by decide)),
          fun h => f10 (h.resolve_left (by decide)),
          fun h => f11 (h.resolve_left (by decide)),
          fun h => f12 (h.resolve_left (by decide)),
          fun h => f13 (h.resolve_left (by decide)),
          fun h => f14 (h.resolve_left (by decide)),
          fun h => f15 (h.resolve_left (by decide)),
          fun h => by obtain ⟨ad, n, c, l2, y1, y2, y3, y4, y5⟩ := f16 (h.resolve_left (by decide)); exact ⟨ad, n, c, l2, y1, y2, y3, y4, fun g => y5 (fun g2 => g (Or.inr g2))⟩,
          fun h => f17 (h.resolve_left (by decide)),
          fun h => f18 (h.resolve_left (by decide)),
          fun h => m1 (fun g => h (Or.inr g)),
          m2,
          m3,
          m4,
          m5,
          fun h => m6 (fun g => h (Or.inr g)),
          fun h => m7 (h.resolve_left (by decide)),
          fun h => ⟨Or.inr (m8 (h.resolve_left (by decide))).1, Or.inr (m8 (h.resolve_left (by decide))).2.1, Or.inr (m8 (h.resolve_left (by decide))).2.2.1, Or.inr (m8 (h.resolve_left (by decide))).2.2.2.1, Or.inr (m8 (h.resolve_left (by decide))).2.2.2.2⟩⟩
      · intro J a w hI hnl hd K hK
        obtain ⟨x70, x71, x72, x73, x74, x75, x76, x77, x78, x79, x80, x81, x82, x83, x84, x85, x86, x87, x88, rfl, f0, f1, f2, f3, f4, f5, f6, f7, f8, f9, f10, f11, f12, f13, f14, f15, f16, f17, f18, m1, m2, m3, m4, m5, m6, m7, m8⟩ := hI
        rw [if_pos (by rfl)]
        obtain rfl := f8 (hd ⟨8, .data⟩ (by simp) (by rfl))
        have hc := (m6 (fun h => hnl (m8 h).2.2.2.1)).cell (j := 0) rfl
        go_simp
        try simp only [zP, zQ, zS, zZ, zC]
        exact hK.out _ _ ⟨x70, x71, x72, x73, x74, x75, x76, x77, .pointer (some ⟨xb, 0, none⟩), .slice (some ⟨g1, 0, none⟩) ne k1, x80, x81, x82, x83, x84, x85, x86, x87, x88, rfl,
          fun h => f0 (h.resolve_left (by decide)),
          fun h => f1 (h.resolve_left (by decide)),
          fun h => f2 (h.resolve_left (by decide)),
          fun h => f3 (h.resolve_left (by decide)),
          fun h => f4 (h.resolve_left (by decide)),
          fun h => f5 (h.resolve_left (by decide)),
          fun h => f6 (h.resolve_left (by decide)),
          fun h => f7 (h.resolve_left (by decide)),
          fun _ => rfl,
          fun _ => rfl,
          fun h => f10 (h.resolve_left (by decide)),
          fun h => f11 (h.resolve_left (by decide)),
          fun h => f12 (h.resolve_left (by decide)),
          fun h => f13 (h.resolve_left (by decide)),
          fun h => f14 (h.resolve_left (by decide)),
          fun h => f15 (h.resolve_left (by decide)),
          fun h => by obtain ⟨ad, n, c, l2, y1, y2, y3, y4, y5⟩ := f16 (h.resolve_left (by decide)); exact ⟨ad, n, c, l2, y1, y2, y3, y4, fun g => y5 (fun g2 => g (Or.inr g2))⟩,
          fun h => f17 (h.resolve_left (by decide)),
          fun h => f18 (h.resolve_left (by decide)),
          fun h => m1 (fun g => h (Or.inr g)),
          m2,
          m3,
          m4,
          m5,
          fun h => m6 (fun g => h (Or.inr g)),
          fun h => m7 (h.resolve_left (by decide)),
          fun h => ⟨Or.inr (m8 (h.resolve_left (by decide))).1, Or.inr (m8 (h.resolve_left (by decide))).2.1, Or.inr (m8 (h.resolve_left (by decide))).2.2.1, Or.inr (m8 (h.resolve_left (by decide))).2.2.2.1, Or.inr (m8 (h.resolve_left (by decide))).2.2.2.2⟩⟩
      · intro J a w hI hnl hd K hK
        obtain ⟨x70, x71, x72, x73, x74, x75, x76, x77, x78, x79, x80, x81, x82, x83, x84, x85, x86, x87, x88, rfl, f0, f1, f2, f3, f4, f5, f6, f7, f8, f9, f10, f11, f12, f13, f14, f15, f16, f17, f18, m1, m2, m3, m4, m5, m6, m7, m8⟩ := hI
        rw [if_pos (by rfl)]
        go_simp
        try simp only [zP, zQ, zS, zZ, zC]
        exact hK.out _ _ ⟨x70, x71, x72, x73, x74, x75, x76, x77, x78, x79, .int .i64 by_, x81, x82, x83, x84, x85, x86, x87, x88, rfl,
          fun h => f0 (h.resolve_left (by decide)),
          fun h => f1 (h.resolve_left (by decide)),
          fun h => f2 (h.resolve_left (by decide)),
          fun h => f3 (h.resolve_left (by decide)),
          fun h => f4 (h.resolve_left (by decide)),
          fun h => f5 (h.resolve_left (by decide)),
          fun h => f6 (h.resolve_left (by decide)),
          fun h => f7 (h.resolve_left (by decide)),
          fun h => f8 (h.resolve_left (by decide)),
          fun h => f9 (h.resolve_left (by decide)),
          fun _ => rfl,
          fun h => f11 (h.resolve_left (by decide)),
          fun h => f12 (h.resolve_left (by decide)),
          fun h => f13 (h.resolve_left (by decide)),
          fun h => f14 (h.resolve_left (by decide)),
          fun h => f15 (h.resolve_left (by decide)),
          fun h => by obtain ⟨ad, n, c, l2, y1, y2, y3, y4, y5⟩ := f16 (h.resolve_left (by decide)); exact ⟨ad, n, c, l2, y1, y2, y3, y4, fun g => y5 (fun g2 => g (Or.inr g2))⟩,
          fun h => f17 (h.resolve_left (by decide)),
          fun h => f18 (h.resolve_left (by decide)),
          fun h => m1 (fun g => h (Or.inr g)),
          m2,
          m3,
          m4,
          m5,
          fun h => m6 (fun g => h (Or.inr g)),
          fun h => m7 (h.resolve_left (by decide)),
          fun h => ⟨Or.inr (m8 (h.resolve_left (by decide))).1, Or.inr (m8 (h.resolve_left (by decide))).2.1, Or.inr (m8 (h.resolve_left (by decide))).2.2.1, Or.inr (m8 (h.resolve_left (by decide))).2.2.2.1, Or.inr (m8 (h.resolve_left (by decide))).2.2.2.2⟩⟩
      · intro J a w hI hnl hd K hK
        obtain ⟨x70, x71, x72, x73, x74, x75, x76, x77, x78, x79, x80, x81, x82, x83, x84, x85, x86, x87, x88, rfl, f0, f1, f2, f3, f4, f5, f6, f7, f8, f9, f10, f11, f12, f13, f14, f15, f16, f17, f18, m1, m2, m3, m4, m5, m6, m7, m8⟩ := hI
        rw [if_pos (by rfl)]
        go_simp
        try simp only [zP, zQ, zS, zZ, zC]
        exact hK.out _ _ ⟨x70, x71, x72, x73, x74, x75, x76, x77, x78, x79, x80, .pointer (some ⟨xb, 0, none⟩), x82, x83, x84, x85, x86, x87, x88, rfl,
          fun h => f0 (h.resolve_left (by decide)),
          fun h => f1 (h.resolve_left (by decide)),
          fun h => f2 (h.resolve_left (by decide)),
          fun h => f3 (h.resolve_left (by decide)),
          fun h => f4 (h.resolve_left (by decide)),
          fun h => f5 (h.resolve_left (by decide)),
          fun h => f6 (h.resolve_left (by decide)),
          fun h => f7 (h.resolve_left (by decide)),
          fun h => f8 (h.resolve_left (by decide)),
          fun h => f9 (h.resolve_left (by decide)),
          fun h => f10 (h.resolve_left (by decide)),
          fun _ => rfl,
          fun h => f12 (h.resolve_left (by decide)),
          fun h => f13 (h.resolve_left (by decide)),
          fun h => f14 (h.resolve_left (by decide)),
          fun h => f15 (h.resolve_left (by decide)),
          fun h => by obtain ⟨ad, n, c, l2, y1, y2, y3, y4, y5⟩ := f16 (h.resolve_left (by decide)); exact ⟨ad, n, c, l2, y1, y2, y3, y4, fun g => y5 (fun g2 => g (Or.inr g2))⟩,
          fun h => f17 (h.resolve_left (by decide)),
          fun h => f18 (h.resolve_left (by decide)),
          fun h => m1 (fun g => h (Or.inr g)),
          m2,
          m3,
          m4,
          m5,
          fun h => m6 (fun g => h (Or.inr g)),
          fun h => m7 (h.resolve_left (by decide)),
          fun h => ⟨Or.inr (m8 (h.resolve_left (by decide))).1, Or.inr (m8 (h.resolve_left (by decide))).2.1, Or.inr (m8 (h.resolve_left (by decide))).2.2.1, Or.inr (m8 (h.resolve_left (by decide))).2.2.2.1, Or.inr (m8 (h.resolve_left (by decide))).2.2.2.2⟩⟩
      · intro J a w hI hnl hd K hK
        obtain ⟨x70, x71, x72, x73, x74, x75, x76, x77, x78, x79, x80, x81, x82, x83, x84, x85, x86, x87, x88, rfl, f0, f1, f2, f3, f4, f5, f6, f7, f8, f9, f10, f11, f12, f13, f14, f15, f16, f17, f18, m1, m2, m3, m4, m5, m6, m7, m8⟩ := hI
        rw [if_pos (by rfl)]
        obtain rfl := f11 (hd ⟨11, .data⟩ (by simp) (by rfl))
        have hc := (m6 (fun h => hnl (m8 h).2.2.2.2)).cell (j := 0) rfl
        go_simp
        try simp only [zP, zQ, zS, zZ, zC]
        exact hK.out _ _ ⟨x70, x71, x72, x73, x74, x75, x76, x77, x78, x79, x80, .pointer (some ⟨xb, 0, none⟩), .slice (some ⟨g1, 0, none⟩) ne k1, x83, x84, x85, x86, x87, x88, rfl,
          fun h => f0 (h.resolve_left (by decide)),
          fun h => f1 (h.resolve_left (by decide)),
          fun h => f2 (h.resolve_left (by decide)),
          fun h => f3 (h.resolve_left (by decide)),
          fun h => f4 (h.resolve_left (by decide)),
          fun h => f5 (h.resolve_left (by decide)),
          fun h => f6 (h.resolve_left (by decide)),
          fun h => f7 (h.resolve_left (by decide)),
          fun h => f8 (h.resolve_left (by decide)),
          fun h => f9 (h.resolve_left (by decide)),
          fun h => f10 (h.resolve_left (by decide)),
          fun _ => rfl,
          fun _ => rfl,
          fun h => f13 (h.resolve_left (by decide)),
          fun h => f14 (h.resolve_left (by decide)),
          fun h => f15 (h.resolve_left (by decide)),
          fun h => by obtain ⟨ad, n, c, l2, y1, y2, y3, y4, y5⟩ := f16 (h.resolve_left (by decide)); exact ⟨ad, n, c, l2, y1, y2, y3, y4, fun g => y5 (fun g2 => g (Or.inr g2))⟩,
          fun h => f17 (h.resolve_left (by decide)),
          fun h => f18 (h.resolve_left (by decide)),
          fun h => m1 (fun g => h (Or.inr g)),
          m2,
          m3,
          m4,
          m5,
          fun h => m6 (fun g => h (Or.inr g)),
          fun h => m7 (h.resolve_left (by decide)),
          fun h => ⟨Or.inr (m8 (h.resolve_left (by decide))).1, Or.inr (m8 (h.resolve_left (by decide))).2.1, Or.inr (m8 (h.resolve_left (by decide))).2.2.1, Or.inr (m8 (h.resolve_left (by decide))).2.2.2.1, Or.inr (m8 (h.resolve_left (by decide))).2.2.2.2⟩⟩
      · intro J a w hI hnl hd K hK
        obtain ⟨x70, x71, x72, x73, x74, x75, x76, x77, x78, x79, x80, x81, x82, x83, x84, x85, x86, x87, x88, rfl, f0, f1, f2, f3, f4, f5, f6, f7, f8, f9, f10, f11, f12, f13, f14, f15, f16, f17, f18, m1, m2, m3, m4, m5, m6, m7, m8⟩ := hI
        rw [if_pos (by rfl)]
        obtain rfl := f12 (hd ⟨12, .data⟩ (by simp) (by rfl))
        go_simp
        try simp only [zP, zQ, zS, zZ, zC]
        exact hK.out _ _ ⟨x70, x71, x72, x73, x74, x75, x76, x77, x78, x79, x80, x81, .slice (some ⟨g1, 0, none⟩) ne k1, .int .i64 (ne : Int), x84, x85, x86, x87, x88, rfl,
          fun h => f0 (h.resolve_left (by decide)),
          fun h => f1 (h.resolve_left (by decide)),
          fun h => f2 (h.resolve_left (by decide)),
          fun h => f3 (h.resolve_left (by decide)),
          fun h => f4 (h.resolve_left (by decide)),
          fun h => f5 (h.resolve_left (by decide)),
          fun h => f6 (h.resolve_left (by decide)),
          fun h => f7 (h.resolve_left (by decide)),
          fun h => f8 (h.resolve_left (by decide)),
          fun h => f9 (h.resolve_left (by decide)),
          fun h => f10 (h.resolve_left (by decide)),
          fun h => f11 (h.resolve_left (by decide)),
          fun _ => rfl,
          fun _ => rfl,
          fun h => f14 (h.resolve_left (by decide)),
          fun h => f15 (h.resolve_left (by decide)),
          fun h => by obtain ⟨ad, n, c, l2, y1, y2, y3, y4, y5⟩ := f16 (h.resolve_left (by decide)); exact ⟨ad, n, c, l2, y1, y2, y3, y4, fun g => y5 (fun g2 => g (Or.inr g2))⟩,
          fun h => f17 (h.resolve_left (by decide)),
          fun h => f18 (h.resolve_left (by decide)),
          fun h => m1 (fun g => h (Or.inr g)),
          m2,
          m3,
          m4,
          m5,
          fun h => m6 (fun g => h (Or.inr g)),
          fun h => m7 (h.resolve_left (by decide)),
          fun h => ⟨Or.inr (m8 (h.resolve_left (by decide))).1, Or.inr (m8 (h.resolve_left (by decide))).2.1, Or.inr (m8 (h.resolve_left (by decide))).2.2.1, Or.inr (m8 (h.resolve_left (by decide))).2.2.2.1, Or.inr (m8 (h.resolve_left (by decide))).2.2.2.2⟩⟩
      · intro J a w hI hnl hd K hK
        obtain ⟨x70, x71, x72, x73, x74, x75, x76, x77, x78, x79, x80, x81, x82, x83, x84, x85, x86, x87, x88, rfl, f0, f1, f2, f3, f4, f5, f6, f7, f8, f9, f10, f11, f12, f13, f14, f15, f16, f17, f18, m1, m2, m3, m4, m5, m6, m7, m8⟩ := hI
        rw [if_pos (by rfl)]
        obtain rfl := f10 (hd ⟨10, .data⟩ (by simp) (by rfl))
        obtain rfl := f13 (hd ⟨13, .data⟩ (by simp) (by rfl))
        go_simp
        refine (HR4.out w).mono ?_
        rintro en w1 ⟨r, hr, rfl, rfl⟩
        dsimp only
        try simp only [zP, zQ, zS, zZ, zC]
        exact hK.out _ _ ⟨x70, x71, x72, x73, x74, x75, x76, x77, x78, x79, .int .i64 by_, x81, x82, .int .i64 (ne : Int), .int .i64 (r : Int), x85, x86, x87, x88, rfl,
          fun h => f0 (h.resolve_left (by decide)),
          fun h => f1 (h.resolve_left (by decide)),
          fun h => f2 (h.resolve_left (by decide)),
          fun h => f3 (h.resolve_left (by decide)),
          fun h => f4 (h.resolve_left (by decide)),
          fun h => f5 (h.resolve_left (by decide)),
          fun h => f6 (h.resolve_left (by decide)),
          fun h => f7 (h.resolve_left (by decide)),
          fun h => f8 (h.resolve_left (by decide)),
          fun h => f9 (h.resolve_left (by decide)),
          fun _ => rfl,
          fun h => f11 (h.resolve_left (by decide)),
          fun h => f12 (h.resolve_left (by decide)),
          fun _ => rfl,
          fun _ => ⟨r, hr, rfl⟩,
          fun h => f15 (h.resolve_left (by decide)),
          fun h => by obtain ⟨ad, n, c, l2, y1, y2, y3, y4, y5⟩ := f16 (h.resolve_left (by decide)); exact ⟨ad, n, c, l2, y1, y2, y3, y4, fun g => y5 (fun g2 => g (Or.inr g2))⟩,
          fun h => f17 (h.resolve_left (by decide)),
          fun h => f18 (h.resolve_left (by decide)),
          fun h => m1 (fun g => h (Or.inr g)),
          m2,
          m3,
          m4,
          m5,
          fun h => m6 (fun g => h (Or.inr g)),
          fun h => m7 (h.resolve_left (by decide)),
          fun h => ⟨Or.inr (m8 (h.resolve_left (by decide))).1, Or.inr (m8 (h.resolve_left (by decide))).2.1, Or.inr (m8 (h.resolve_left (by decide))).2.2.1, Or.inr (m8 (h.resolve_left (by decide))).2.2.2.1, Or.inr (m8 (h.resolve_left (by decide))).2.2.2.2⟩⟩
      · intro J a w hI hnl hd K hK
        obtain ⟨x70, x71, x72, x73, x74, x75, x76, x77, x78, x79, x80, x81, x82, x83, x84, x85, x86, x87, x88, rfl, f0, f1, f2, f3, f4, f5, f6, f7, f8, f9, f10, f11, f12, f13, f14, f15, f16, f17, f18, m1, m2, m3, m4, m5, m6, m7, m8⟩ := hI
        rw [if_pos (by rfl)]
        obtain ⟨r, hr, rfl⟩ := f14 (hd ⟨14, .data⟩ (by simp) (by rfl))
        obtain ⟨r1, hr1⟩ : ∃ r1, r + 1 = r1 := ⟨_, rfl⟩
        have hw : IntKind.i64.wrap ((r : Int) + 1) = (r1 : Int) := by rw [show (r : Int) + 1 = (r1 : Int) by omega]; exact wrap_in (by omega) (by omega)
        go_simp
        try simp only [zP, zQ, zS, zZ, zC]
        exact hK.out _ _ ⟨x70, x71, x72, x73, x74, x75, x76, x77, x78, x79, x80, x81, x82, x83, .int .i64 (r : Int), .int .i64 (r1 : Int), x86, x87, x88, rfl,
          fun h => f0 (h.resolve_left (by decide)),
          fun h => f1 (h.resolve_left (by decide)),
          fun h => f2 (h.resolve_left (by decide)),
          fun h => f3 (h.resolve_left (by decide)),
          fun h => f4 (h.resolve_left (by decide)),
          fun h => f5 (h.resolve_left (by decide)),
          fun h => f6 (h.resolve_left (by decide)),
          fun h => f7 (h.resolve_left (by decide)),
          fun h => f8 (h.resolve_left (by decide)),
          fun h => f9 (h.resolve_left (by decide)),
          fun h => f10 (h.resolve_left (by decide)),
          fun h => f11 (h.resolve_left (by decide)),
          fun h => f12 (h.resolve_left (by decide)),
          fun h => f13 (h.resolve_left (by decide)),
          fun _ => ⟨r, hr, rfl⟩,
          fun _ => ⟨r1, by omega, by omega, rfl⟩,
          fun h => by obtain ⟨ad, n, c, l2, y1, y2, y3, y4, y5⟩ := f16 (h.resolve_left (by decide)); exact ⟨ad, n, c, l2, y1, y2, y3, y4, fun g => y5 (fun g2 => g (Or.inr g2))⟩,
          fun h => f17 (h.resolve_left (by decide)),
          fun h => f18 (h.resolve_left (by decide)),
          fun h => m1 (fun g => h (Or.inr g)),
          m2,
          m3,
          m4,
          m5,
          fun h => m6 (fun g => h (Or.inr g)),
          fun h => m7 (h.resolve_left (by decide)),
          fun h => ⟨Or.inr (m8 (h.resolve_left (by decide))).1, Or.inr (m8 (h.resolve_left (by decide))).2.1, Or.inr (m8 (h.resolve_left (by decide))).2.2.1, Or.inr (m8 (h.resolve_left (by decide))).2.2.2.1, Or.inr (m8 (h.resolve_left (by decide))).2.2.2.2⟩⟩
      · intro J a w hI hnl hd K hK
        obtain ⟨x70, x71, x72, x73, x74, x75, x76, x77, x78, x79, x80, x81, x82, x83, x84, x85, x86, x87, x88, rfl, f0, f1, f2, f3, f4, f5, f6, f7, f8, f9, f10, f11, f12, f13, f14, f15, f16, f17, f18, m1, m2, m3, m4, m5, m6, m7, m8⟩ := hI
        rw [if_pos (by rfl)]
        obtain rfl := f9 (hd ⟨9, .data⟩ (by simp) (by rfl))
        obtain ⟨r, hr1, hr2, rfl⟩ := f15 (hd ⟨15, .data⟩ (by simp) (by rfl))
        have hrk : r ≤ k1 := by have := own_cap O1 hE; omega
        have hld : (E.drop r).length = ne - r := by rw [List.length_drop, hE]
        have hfd : Few (E.drop r) := fun x hx => fE x (List.mem_of_mem_drop hx)
        by_cases hkr : k1 = r
        · have hnr : E.drop r = [] := List.drop_of_length_le (by have := own_cap O1 hE; omega)
          subst hkr
          go_simp
          try (intro hcm; exact absurd hcm (by omega))
          try simp only [zP, zQ, zS, zZ, zC]
          exact hK.out _ _ ⟨x70, x71, x72, x73, x74, x75, x76, x77, x78, .slice (some ⟨g1, 0, none⟩) ne k1, x80, x81, x82, x83, x84, .int .i64 (k1 : Int), .slice (some ⟨g1, 0, none⟩) (ne - k1) 0, x87, x88, rfl,
            fun h => f0 (h.resolve_left (by decide)),
            fun h => f1 (h.resolve_left (by decide)),
            fun h => f2 (h.resolve_left (by decide)),
            fun h => f3 (h.resolve_left (by decide)),
            fun h => f4 (h.resolve_left (by decide)),
            fun h => f5 (h.resolve_left (by decide)),
            fun h => f6 (h.resolve_left (by decide)),
            fun h => f7 (h.resolve_left (by decide)),
            fun h => f8 (h.resolve_left (by decide)),
            fun _ => rfl,
            fun h => f10 (h.resolve_left (by decide)),
            fun h => f11 (h.resolve_left (by decide)),
            fun h => f12 (h.resolve_left (by decide)),
            fun h => f13 (h.resolve_left (by decide)),
            fun h => f14 (h.resolve_left (by decide)),
            fun _ => ⟨k1, hr1, hr2, rfl⟩,
            fun _ => ⟨⟨g1, 0, none⟩, _, _, E.drop k1, rfl, hld, by omega, hfd, fun _ h => absurd hnr h⟩,
            fun h => f17 (h.resolve_left (by decide)),
            fun h => f18 (h.resolve_left (by decide)),
            fun h => m1 (fun g => h (Or.inr g)),
            m2,
            m3,
            m4,
            m5,
            fun h => m6 (fun g => h (Or.inr g)),
            fun h => m7 (h.resolve_left (by decide)),
            fun h => ⟨Or.inr (m8 (h.resolve_left (by decide))).1, Or.inr (m8 (h.resolve_left (by decide))).2.1, Or.inr (m8 (h.resolve_left (by decide))).2.2.1, Or.inr (m8 (h.resolve_left (by decide))).2.2.2.1, Or.inr (m8 (h.resolve_left (by decide))).2.2.2.2⟩⟩
        · go_simp
          try (intro hcm; exact absurd hcm (by omega))
          try simp only [zP, zQ, zS, zZ, zC]
          exact hK.out _ _ ⟨x70, x71, x72, x73, x74, x75, x76, x77, x78, .slice (some ⟨g1, 0, none⟩) ne k1, x80, x81, x82, x83, x84, .int .i64 (r : Int), .slice (some ⟨g1, r, none⟩) (ne - r) (k1 - r), x87, x88, rfl,
            fun h => f0 (h.resolve_left (by decide)),
            fun h => f1 (h.resolve_left (by decide)),
            fun h => f2 (h.resolve_left (by decide)),
            fun h => f3 (h.resolve_left (by decide)),
            fun h => f4 (h.resolve_left (by decide)),
            fun h => f5 (h.resolve_left (by decide)),
            fun h => f6 (h.resolve_left (by decide)),
            fun h => f7 (h.resolve_left (by decide)),
            fun h => f8 (h.resolve_left (by decide)),
            fun _ => rfl,
            fun h => f10 (h.resolve_left (by decide)),
            fun h => f11 (h.resolve_left (by decide)),
            fun h => f12 (h.resolve_left (by decide)),
            fun h => f13 (h.resolve_left (by decide)),
            fun h => f14 (h.resolve_left (by decide)),
            fun _ => ⟨r, hr1, hr2, rfl⟩,
            fun _ => ⟨⟨g1, r, none⟩, _, _, E.drop r, rfl, hld, by omega, hfd, fun g => (cells_drop (own_cells (m1 (fun g2 => g (Or.inr g2)))) r).at⟩,
            fun h => f17 (h.resolve_left (by decide)),
            fun h => f18 (h.resolve_left (by decide)),
            fun h => m1 (fun g => h (Or.inr g)),
            m2,
            m3,
            m4,
            m5,
            fun h => m6 (fun g => h (Or.inr g)),
            fun h => m7 (h.resolve_left (by decide)),
            fun h => ⟨Or.inr (m8 (h.resolve_left (by decide))).1, Or.inr (m8 (h.resolve_left (by decide))).2.1, Or.inr (m8 (h.resolve_left (by decide))).2.2.1, Or.inr (m8 (h.resolve_left (by decide))).2.2.2.1, Or.inr (m8 (h.resolve_left (by decide))).2.2.2.2⟩⟩
      · intro J a w hI hnl hd K hK
        obtain ⟨x70, x71, x72, x73, x74, x75, x76, x77, x78, x79, x80, x81, x82, x83, x84, x85, x86, x87, x88, rfl, f0, f1, f2, f3, f4, f5, f6, f7, f8, f9, f10, f11, f12, f13, f14, f15, f16, f17, f18, m1, m2, m3, m4, m5, m6, m7, m8⟩ := hI
        rw [if_pos (by rfl)]
        obtain ⟨r, hr, rfl⟩ := f7 (hd ⟨7, .data⟩ (by simp) (by rfl))
        obtain ⟨ad, n, c, l2, rfl, hl2, hn2, fw2, hat⟩ := f16 (hd ⟨16, .data⟩ (by simp) (by rfl))
        have hO := m1 hnl
        have hlt : (E.take r).length = r := by rw [List.length_take]; omega
        have hOt : OwnR intE w B (.slice (some ⟨g1, 0, none⟩) r k1) (E.take r) := by have := own_trunc (E := intE) (l := E.take r) (m := E.drop r) (by rw [List.take_append_drop]; exact hO); rwa [hlt] at this
        refine app_wp intE (.tmp 77) (.tmp 86) rfl (E.take r) l2 _ rfl hOt (hB4 w m5) ad n c rfl hl2 (hat hnl) (by omega) (by omega) ?_
        intro v6 W6 hO6 hB6 hR6
        obtain ⟨q6, c6, rfl, _, _, _, _⟩ := hO6.form
        obtain ⟨n6, hn6⟩ : ∃ n6, (E.take r ++ l2).length = n6 := ⟨_, rfl⟩
        have hn6b : n6 ≤ m + m + 1 := by rw [← hn6, List.length_append]; omega
        have hf6 : Few (E.take r ++ l2) := fun x hx => by rcases List.mem_append.1 hx with h | h; (exact fE x (List.mem_of_mem_take h)); (exact fw2 x h)
        rw [hn6] at hO6 ⊢
        have hA6 := own_atx hO6
        try simp only [zP, zQ, zS, zZ, zC]
        exact hK.out _ _ ⟨x70, x71, x72, x73, x74, x75, x76, .slice (some ⟨g1, 0, none⟩) r k1, x78, x79, x80, x81, x82, x83, x84, x85, .slice (some ad) n c, .slice q6 n6 c6, x88, rfl,
          fun h => f0 (h.resolve_left (by decide)),
          fun h => f1 (h.resolve_left (by decide)),
          fun h => f2 (h.resolve_left (by decide)),
          fun h => f3 (h.resolve_left (by decide)),
          fun h => f4 (h.resolve_left (by decide)),
          fun h => f5 (h.resolve_left (by decide)),
          fun h => f6 (h.resolve_left (by decide)),
          fun _ => ⟨r, hr, rfl⟩,
          fun h => f8 (h.resolve_left (by decide)),
          fun h => f9 (h.resolve_left (by decide)),
          fun h => f10 (h.resolve_left (by decide)),
          fun h => f11 (h.resolve_left (by decide)),
          fun h => f12 (h.resolve_left (by decide)),
          fun h => f13 (h.resolve_left (by decide)),
          fun h => f14 (h.resolve_left (by decide)),
          fun h => f15 (h.resolve_left (by decide)),
          fun _ => ⟨ad, n, c, l2, rfl, hl2, hn2, fw2, fun g => absurd (Or.inl rfl) g⟩,
          fun _ => ⟨q6, n6, c6, _, rfl, hn6, hn6b, hf6, hA6⟩,
          fun h => f18 (h.resolve_left (by decide)),
          fun h => absurd (Or.inl rfl) h,
          m2.rest hR6 (fun h e => n21 h (by injection e with e; exact e.symm)),
          m3.rest hR6 (fun h e => (n3 h).1 (by injection e with e; exact e.symm)),
          hR6 rb _ _ (own_ne hOt m4) m4,
          m5.trans (by have h := hB6; rw [← HBw.out, hW00] at h; exact h),
          fun h => hR6 xb _ _ (own_ne hOt (m6 (fun g => h (Or.inr g)))) (m6 (fun g => h (Or.inr g))),
          fun h => absurd (m8 (h.resolve_left (by decide))).1 hnl,
          fun h => ⟨Or.inr (m8 (h.resolve_left (by decide))).1, Or.inr (m8 (h.resolve_left (by decide))).2.1, Or.inr (m8 (h.resolve_left (by decide))).2.2.1, Or.inr (m8 (h.resolve_left (by decide))).2.2.2.1, Or.inr (m8 (h.resolve_left (by decide))).2.2.2.2⟩⟩
      · intro J a w hI hnl hd K hK
        obtain ⟨x70, x71, x72, x73, x74, x75, x76, x77, x78, x79, x80, x81, x82, x83, x84, x85, x86, x87, x88, rfl, f0, f1, f2, f3, f4, f5, f6, f7, f8, f9, f10, f11, f12, f13, f14, f15, f16, f17, f18, m1, m2, m3, m4, m5, m6, m7, m8⟩ := hI
        rw [if_pos (by rfl)]
        go_simp
        try simp only [zP, zQ, zS, zZ, zC]
        exact hK.out _ _ ⟨x70, x71, x72, x73, x74, x75, x76, x77, x78, x79, x80, x81, x82, x83, x84, x85, x86, x87, .pointer (some ⟨xb, 0, none⟩), rfl,
          fun h => f0 (h.resolve_left (by decide)),
          fun h => f1 (h.resolve_left (by decide)),
          fun h => f2 (h.resolve_left (by decide)),
          fun h => f3 (h.resolve_left (by decide)),
          fun h => f4 (h.resolve_left (by decide)),
          fun h => f5 (h.resolve_left (by decide)),
          fun h => f6 (h.resolve_left (by decide)),
          fun h => f7 (h.resolve_left (by decide)),
          fun h => f8 (h.resolve_left (by decide)),
          fun h => f9 (h.resolve_left (by decide)),
          fun h => f10 (h.resolve_left (by decide)),
          fun h => f11 (h.resolve_left (by decide)),
          fun h => f12 (h.resolve_left (by decide)),
          fun h => f13 (h.resolve_left (by decide)),
          fun h => f14 (h.resolve_left (by decide)),
          fun h => f15 (h.resolve_left (by decide)),
          fun h => by obtain ⟨ad, n, c, l2, y1, y2, y3, y4, y5⟩ := f16 (h.resolve_left (by decide)); exact ⟨ad, n, c, l2, y1, y2, y3, y4, fun g => y5 (fun g2 => g (Or.inr g2))⟩,
          fun h => f17 (h.resolve_left (by decide)),
          fun _ => rfl,
          fun h => m1 (fun g => h (Or.inr g)),
          m2,
          m3,
          m4,
          m5,
          fun h => m6 (fun g => h (Or.inr g)),
          fun h => m7 (h.resolve_left (by decide)),
          fun h => ⟨Or.inr (m8 (h.resolve_left (by decide))).1, Or.inr (m8 (h.resolve_left (by decide))).2.1, Or.inr (m8 (h.resolve_left (by decide))).2.2.1, Or.inr (m8 (h.resolve_left (by decide))).2.2.2.1, Or.inr (m8 (h.resolve_left (by decide))).2.2.2.2⟩⟩
      · intro J a w hI hnl hd K hK
        obtain ⟨x70, x71, x72, x73, x74, x75, x76, x77, x78, x79, x80, x81, x82, x83, x84, x85, x86, x87, x88, rfl, f0, f1, f2, f3, f4, f5, f6, f7, f8, f9, f10, f11, f12, f13, f14, f15, f16, f17, f18, m1, m2, m3, m4, m5, m6, m7, m8⟩ := hI
        rw [if_pos (by rfl)]
        obtain rfl := f18 (hd ⟨18, .data⟩ (by simp) (by rfl))
        have j17 := (hd ⟨17, .data⟩ (by simp) (by rfl))
        obtain ⟨q, n, c, l2, rfl, hl2, hn2, fw2, at2⟩ := f17 j17
        have KX := m6 hnl
        have hcq := KX.cell (j := 0) rfl
        have hfq := KX.free 0
        go_simp
        try simp only [zP, zQ, zS, zZ, zC]
        exact hK.out _ _ ⟨x70, x71, x72, x73, x74, x75, x76, x77, x78, x79, x80, x81, x82, x83, x84, x85, x86, .slice q n c, .pointer (some ⟨xb, 0, none⟩), rfl,
          fun h => f0 (h.resolve_left (by decide)),
          fun h => f1 (h.resolve_left (by decide)),
          fun h => f2 (h.resolve_left (by decide)),
          fun h => f3 (h.resolve_left (by decide)),
          fun h => f4 (h.resolve_left (by decide)),
          fun h => f5 (h.resolve_left (by decide)),
          fun h => f6 (h.resolve_left (by decide)),
          fun h => f7 (h.resolve_left (by decide)),
          fun h => f8 (h.resolve_left (by decide)),
          fun h => f9 (h.resolve_left (by decide)),
          fun h => f10 (h.resolve_left (by decide)),
          fun h => f11 (h.resolve_left (by decide)),
          fun h => f12 (h.resolve_left (by decide)),
          fun h => f13 (h.resolve_left (by decide)),
          fun h => f14 (h.resolve_left (by decide)),
          fun h => f15 (h.resolve_left (by decide)),
          fun h => by obtain ⟨ad, n, c, l2, y1, y2, y3, y4, y5⟩ := f16 (h.resolve_left (by decide)); exact ⟨ad, n, c, l2, y1, y2, y3, y4, fun g => absurd (Or.inr j17) g⟩,
          fun _ => ⟨q, n, c, l2, rfl, hl2, hn2, fw2, at2.field KX⟩,
          fun _ => rfl,
          fun h => absurd (Or.inr j17) h,
          m2.field KX,
          m3.field KX,
          m4.other (a := ⟨xb, 0, none⟩) hrx _,
          m5.setCell (by rw [← hW00]; exact hwx) _,
          fun h => absurd (Or.inl rfl) h,
          fun _ => KX.set 0 _,
          fun _ => ⟨Or.inr j17, Or.inr (hd ⟨1, .phase⟩ (by simp) (by rfl)), Or.inr (hd ⟨4, .phase⟩ (by simp) (by rfl)), Or.inr (hd ⟨9, .phase⟩ (by simp) (by rfl)), Or.inr (hd ⟨12, .phase⟩ (by simp) (by rfl))⟩⟩
  · skip
    have hBs := HBs.out
    go_upto_region 26 with (at_builtin; refine push_el intE rfl (.tmp 92) (.tmp 94) rfl E dn _ rfl O1 hBs _ rfl _ rfl (by omega) ?_; intro v6 W6 hO6 hB6 hR6; have KX6 : Blk W6 xb 32 [.slice (some ⟨g1, 0, none⟩) ne k1, .slice (some ⟨g2, 0, none⟩) nl k2, .slice (some ⟨g3, 0, none⟩) nc k3] := hR6 xb _ _ (own_ne O1 KX) KX; have cx := KX6.cell (j := 0) rfl; have fx := KX6.free 0; obtain ⟨m6, hm6⟩ : ∃ m6, (E ++ [dn]).length = m6 := ⟨_, rfl⟩; obtain ⟨g6, c6, cs6, rfl, hg6, _, hb6, ht6⟩ := hO6.blk (by simp); rw [hm6] at hO6 ⊢)
    have KX8 := KX6.set 0 (.slice (some ⟨g6, 0, none⟩) m6 c6)
    have q1 := (own_cells hO6).field (b := xb) (i := 0) (v := .slice (some ⟨g6, 0, none⟩) m6 c6) KX6
    have q2 := (D2.rest hR6 (fun h e => n21 h (by injection e with e; exact e.symm))).field (b := xb) (i := 0) (v := .slice (some ⟨g6, 0, none⟩) m6 c6) KX6
    have q3 := (D3.rest hR6 (fun h e => (n3 h).1 (by injection e with e; exact e.symm))).field (b := xb) (i := 0) (v := .slice (some ⟨g6, 0, none⟩) m6 c6) KX6
    have KR6 : Blk W6 rb 32 zeroCt := hR6 rb _ _ (own_ne O1 KR) KR
    have KR8 := KR6.other (a := ⟨xb, 0, none⟩) hrx (.slice (some ⟨g6, 0, none⟩) m6 c6)
    have B6 : Below w.heap.size w W6 := BW.trans (by rw [HBw.out]; exact hB6)
    have B8 : Below w.heap.size w (W6.setCell ⟨xb, 0, none⟩ (.slice (some ⟨g6, 0, none⟩) m6 c6)) := B6.setCell hwx _
    generalize World.setCell W6 ⟨xb, 0, none⟩ (.slice (some ⟨g6, 0, none⟩) m6 c6) = W8 at KX8 q1 q2 q3 KR8 B8 ⊢
    have hm7 : m6 = ne + 1 := by rw [← hm6, List.length_append, hE]; rfl
    go_wp2_with (first
      | (refine wpList_load_mid rfl 32 (.tmp 7) rfl xb 0 rfl [.slice (some ⟨g6, 0, none⟩) m6 c6, .slice (some ⟨g2, 0, none⟩) nl k2, .slice (some ⟨g3, 0, none⟩) nc k3] _ (by have := (KX8).range 0 3; exact this) Try.underlying32 rfl (by kernel_rfl) ?_)
      | (refine store_blk rfl 32 (.tmp 6) (.tmp 151) rfl KR8 rfl rfl (vs := [.slice (some ⟨g6, 0, none⟩) m6 c6, .slice (some ⟨g2, 0, none⟩) nl k2, .slice (some ⟨g3, 0, none⟩) nc k3]) (m := 3) (by kernel_rfl) rfl rfl (by intro v hv; simp at hv; rcases hv with rfl | rfl | rfl <;> rfl) ?_; intro W9 K9 O9))
    try simp only [zP, zQ, zS, zZ, zC]
    try go_wp2
    exact bodyPost_ret (v := .agg #[.slice (some ⟨g6, 0, none⟩) m6 c6, .slice (some ⟨g2, 0, none⟩) nl k2, .slice (some ⟨g3, 0, none⟩) nc k3]) (results_one (by rfl) _ _ rfl (K9.loadVarS Try.underlying32 (by kernel_rfl))) rfl ⟨(E ++ [dn]), L, C, _, _, _, _, _, _, _, _, _, rfl, ⟨hm6, hL, hC, by omega, by omega, by omega, ((q1).only O9 KR8).at, ((q2).only O9 KR8).at, ((q3).only O9 KR8).at⟩, by omega, by omega, by omega, few_snoc fE (by omega), fL, fC, O9.2.2 _ _ hwr B8⟩
  · skip
    by_cases hn : L = []
    · have h0 : ¬ (k : Int) < (nl : Int) := by rw [hn] at hL; simp at hL; omega
      go_wp2_with (first
        | (refine wpList_load_mid rfl 32 (.tmp 7) rfl xb 0 rfl [.slice (some ⟨g1, 0, none⟩) ne k1, .slice (some ⟨g2, 0, none⟩) nl k2, .slice (some ⟨g3, 0, none⟩) nc k3] _ (by have := (KX).range 0 3; exact this) Try.underlying32 rfl (by kernel_rfl) ?_)
        | (refine store_blk rfl 32 (.tmp 6) (.tmp 151) rfl KR rfl rfl (vs := [.slice (some ⟨g1, 0, none⟩) ne k1, .slice (some ⟨g2, 0, none⟩) nl k2, .slice (some ⟨g3, 0, none⟩) nc k3]) (m := 3) (by kernel_rfl) rfl rfl (by intro v hv; simp at hv; rcases hv with rfl | rfl | rfl <;> rfl) ?_; intro W9 K9 O9))
      try simp only [zP, zQ, zS, zZ, zC]
      try go_wp2
      exact bodyPost_ret (v := .agg #[.slice (some ⟨g1, 0, none⟩) ne k1, .slice (some ⟨g2, 0, none⟩) nl k2, .slice (some ⟨g3, 0, none⟩) nc k3]) (results_one (by rfl) _ _ rfl (K9.loadVarS Try.underlying32 (by kernel_rfl))) rfl ⟨E, L, C, _, _, _, _, _, _, _, _, _, rfl, ⟨hE, hL, hC, by omega, by omega, by omega, ((D1).only O9 KR).at, ((D2).only O9 KR).at, ((D3).only O9 KR).at⟩, by omega, by omega, by omega, fE, fL, fC, O9.2.2 _ _ hwr BW⟩
    have h0 : k < nl := by have := ne_len hL hn; omega
    have h0i : (k : Int) < (nl : Int) := by omega
    go_upto_region 17 with (fail)
    clear e0 e1 e2
    refine wp_region_held_drew (S := fun w' => Blk w' xb 32 [.slice (some ⟨g1, 0, none⟩) ne k1, .slice (some ⟨g2, 0, none⟩) nl k2, .slice (some ⟨g3, 0, none⟩) nc k3]) (by kernel_rfl) (KX.drew) (fun _ => ?_)
    have hHeld : Blk w4.drew xb 32 [.slice (some ⟨g1, 0, none⟩) ne k1, .slice (some ⟨g2, 0, none⟩) nl k2, .slice (some ⟨g3, 0, none⟩) nc k3] := KX.drew
    replace D1 : Cells1 w4.drew g1 0 E := D1
    replace D2 : Cells1 w4.drew g2 0 L := D2
    replace D3 : Cells1 w4.drew g3 0 C := D3
    replace KR : Blk w4.drew rb 32 zeroCt := KR
    replace BW := below_drew BW
    generalize w4.drew = V0 at hHeld D1 D2 D3 KR BW ⊢
    refine wt (i := 0) (oi := ⟨some 104, .fieldAddr 32 (.tmp 7) 1, 0, "ref.go:234", #[], none⟩) (v := .pointer (some ⟨xb, 1, none⟩)) (Or.inl ⟨by rfl, fun w' hSw => by go_simp⟩) hHeld ?_
    try simp only [zP, zQ, zS, zZ, zC]
    refine wt (i := 1) (oi := ⟨some 105, .load 22 (.tmp 104), 22, "ref.go:234", #[⟨0, .data⟩], none⟩) (v := .slice (some ⟨g2, 0, none⟩) nl k2) (Or.inl ⟨by rfl, fun w' hSw => by have hc := hSw.cell (j := 1) rfl; go_simp⟩) hHeld ?_
    try simp only [zP, zQ, zS, zZ, zC]
    refine wt (i := 2) (oi := ⟨some 106, .move (.tmp 8), 3, "ref.go:234", #[], none⟩) (v := .int .i64 (k : Int)) (Or.inl ⟨by rfl, fun w' hSw => by go_simp⟩) hHeld ?_
    try simp only [zP, zQ, zS, zZ, zC]
    refine wt (i := 3) (oi := ⟨some 107, .fieldAddr 32 (.tmp 7) 1, 0, "ref.go:234", #[], none⟩) (v := .pointer (some ⟨xb, 1, none⟩)) (Or.inl ⟨by rfl, fun w' hSw => by go_simp⟩) hHeld ?_
    try simp only [zP, zQ, zS, zZ, zC]
    refine wt (i := 4) (oi := ⟨some 108, .load 22 (.tmp 107), 22, "ref.go:234", #[⟨3, .data⟩], none⟩) (v := .slice (some ⟨g2, 0, none⟩) nl k2) (Or.inl ⟨by rfl, fun w' hSw => by have hc := hSw.cell (j := 1) rfl; go_simp⟩) hHeld ?_
    try simp only [zP, zQ, zS, zZ, zC]
    refine wt (i := 5) (oi := ⟨some 109, .move (.tmp 8), 3, "ref.go:234", #[], none⟩) (v := .int .i64 (k : Int)) (Or.inl ⟨by rfl, fun w' hSw => by go_simp⟩) hHeld ?_
    try simp only [zP, zQ, zS, zZ, zC]
    refine wt (i := 8) (oi := ⟨some 112, .move (.tmp 9), 3, "ref.go:234", #[], none⟩) (v := .int .i64 dn) (Or.inl ⟨by rfl, fun w' hSw => by go_simp⟩) hHeld ?_
    try simp only [zP, zQ, zS, zZ, zC]
    refine wt (i := 6) (oi := ⟨some 110, .indexAddr 22 (.tmp 108) (.tmp 109), 0, "ref.go:234", #[⟨4, .data⟩, ⟨5, .data⟩], none⟩) (v := .pointer (some ⟨g2, k, none⟩)) (Or.inl ⟨by rfl, fun w' hSw => by go_simp; try (intro hcm; exact absurd hcm (by omega))⟩) hHeld ?_
    try simp only [zP, zQ, zS, zZ, zC]
    obtain ⟨x, hx⟩ : ∃ x, L[k]? = some x := ⟨_, List.getElem?_eq_getElem (by omega)⟩
    obtain ⟨cs, hb, hcs⟩ := D2 (by intro h; rw [h] at hx; simp at hx)
    have h0 := hcs k x hx
    rw [Nat.zero_add] at h0
    have hcq := hb.cell h0
    have hfq := hb.free k
    obtain ⟨y, hy⟩ : ∃ y, IntKind.i64.wrap (x + dn) = y := ⟨_, rfl⟩
    have HY := Lib.hid hy
    have fy := wrap_few hy
    clear hy
    refine wpAnyH_ready (rs := [7]) (by kernel_rfl) (by simp) ?_
    refine AllReadyH.cons (o := ⟨some 111, .load 3 (.tmp 110), 3, "ref.go:234", #[⟨6, .data⟩], none⟩) rfl (fun K hK => ?_) AllReadyH.nil
    rw [if_pos (by rfl)]
    go_simp
    refine hK.out _ _ (hHeld) (fun hHeld => ?_)
    clear hK K
    try simp only [zP, zQ, zS, zZ, zC]
    refine wt (i := 9) (oi := ⟨some 113, .binOp .add 3 (.tmp 111) (.tmp 112) 3, 3, "ref.go:234", #[⟨7, .data⟩, ⟨8, .data⟩], none⟩) (v := .int .i64 y) (Or.inl ⟨by rfl, fun w' hSw => by have hw := HY.out; go_simp⟩) hHeld ?_
    try simp only [zP, zQ, zS, zZ, zC]
    refine wt (i := 10) (oi := ⟨some 114, .indexAddr 22 (.tmp 105) (.tmp 106), 0, "ref.go:234", #[⟨1, .data⟩, ⟨2, .data⟩, ⟨0, .phase⟩, ⟨1, .phase⟩, ⟨2, .phase⟩, ⟨3, .phase⟩, ⟨4, .phase⟩, ⟨5, .phase⟩, ⟨6, .phase⟩, ⟨7, .phase⟩, ⟨8, .phase⟩, ⟨9, .phase⟩], none⟩) (v := .pointer (some ⟨g2, k, none⟩)) (Or.inl ⟨by rfl, fun w' hSw => by go_simp; try (intro hcm; exact absurd hcm (by omega))⟩) hHeld ?_
    try simp only [zP, zQ, zS, zZ, zC]
    refine wpAnyH_ready (rs := [11]) (by kernel_rfl) (by simp) ?_
    refine AllReadyH.cons (o := ⟨none, .store 3 (.tmp 114) (.tmp 113), 0, "ref.go:234", #[⟨10, .data⟩, ⟨9, .data⟩, ⟨0, .phase⟩, ⟨1, .phase⟩, ⟨2, .phase⟩, ⟨3, .phase⟩, ⟨4, .phase⟩, ⟨5, .phase⟩, ⟨6, .phase⟩, ⟨7, .phase⟩, ⟨8, .phase⟩, ⟨9, .phase⟩], none⟩) rfl (fun K hK => ?_) AllReadyH.nil
    rw [if_pos (by rfl)]
    go_simp
    have hNE := D2.set (k := k) (y := y) (by omega)
    replace D1 := D1.other (b := g2) (i := k) (v := .int .i64 y) (fun h e => n21 hn e.symm)
    replace D3 := D3.other (b := g2) (i := k) (v := .int .i64 y) (fun h => (n3 h).2)
    replace KR := KR.other (a := ⟨g2, k, none⟩) (blk_types hb KR).symm (.int .i64 y)
    replace BW : Below w.heap.size w (V0.setCell ⟨g2, k, none⟩ (.int .i64 y)) := BW.setCell (hg2 hn) _
    refine hK.out _ _ (hHeld.other (a := ⟨g2, k, none⟩) (blk_types hb hHeld).symm _) (fun hHeld => ?_)
    clear hK K
    try simp only [zP, zQ, zS, zZ, zC]
    refine wpAnyH_done (by kernel_rfl) ?_ _
    have KX8 := hHeld
    clear hHeld hcq hfq hb hcs h0
    generalize World.setCell V0 ⟨g2, k, none⟩ (.int .i64 y) = W8 at KX8 KR BW hNE D1 D3 ⊢
    go_wp2_with (first
      | (refine wpList_load_mid rfl 32 (.tmp 7) rfl xb 0 rfl [.slice (some ⟨g1, 0, none⟩) ne k1, .slice (some ⟨g2, 0, none⟩) nl k2, .slice (some ⟨g3, 0, none⟩) nc k3] _ (by have := (KX8).range 0 3; exact this) Try.underlying32 rfl (by kernel_rfl) ?_)
      | (refine store_blk rfl 32 (.tmp 6) (.tmp 151) rfl KR rfl rfl (vs := [.slice (some ⟨g1, 0, none⟩) ne k1, .slice (some ⟨g2, 0, none⟩) nl k2, .slice (some ⟨g3, 0, none⟩) nc k3]) (m := 3) (by kernel_rfl) rfl rfl (by intro v hv; simp at hv; rcases hv with rfl | rfl | rfl <;> rfl) ?_; intro W9 K9 O9))
    try simp only [zP, zQ, zS, zZ, zC]
    try go_wp2
    exact bodyPost_ret (v := .agg #[.slice (some ⟨g1, 0, none⟩) ne k1, .slice (some ⟨g2, 0, none⟩) nl k2, .slice (some ⟨g3, 0, none⟩) nc k3]) (results_one (by rfl) _ _ rfl (K9.loadVarS Try.underlying32 (by kernel_rfl))) rfl ⟨E, (L.set k y), C, _, _, _, _, _, _, _, _, _, rfl, ⟨hE, by rw [List.length_set]; exact hL, hC, by omega, by omega, by omega, ((D1).only O9 KR).at, ((hNE).only O9 KR).at, ((D3).only O9 KR).at⟩, by omega, by omega, by omega, fE, few_set fL fy, fC, O9.2.2 _ _ hwr BW⟩
  · skip
    by_cases h0 : k < nc
    case neg =>
      have h0i : ¬ (k : Int) < (nc : Int) := by omega
      go_wp2_with (first
        | (refine wpList_load_mid rfl 32 (.tmp 7) rfl xb 0 rfl [.slice (some ⟨g1, 0, none⟩) ne k1, .slice (some ⟨g2, 0, none⟩) nl k2, .slice (some ⟨g3, 0, none⟩) nc k3] _ (by have := (KX).range 0 3; exact this) Try.underlying32 rfl (by kernel_rfl) ?_)
        | (refine store_blk rfl 32 (.tmp 6) (.tmp 151) rfl KR rfl rfl (vs := [.slice (some ⟨g1, 0, none⟩) ne k1, .slice (some ⟨g2, 0, none⟩) nl k2, .slice (some ⟨g3, 0, none⟩) nc k3]) (m := 3) (by kernel_rfl) rfl rfl (by intro v hv; simp at hv; rcases hv with rfl | rfl | rfl <;> rfl) ?_; intro W9 K9 O9))
      try simp only [zP, zQ, zS, zZ, zC]
      try go_wp2
      exact bodyPost_ret (v := .agg #[.slice (some ⟨g1, 0, none⟩) ne k1, .slice (some ⟨g2, 0, none⟩) nl k2, .slice (some ⟨g3, 0, none⟩) nc k3]) (results_one (by rfl) _ _ rfl (K9.loadVarS Try.underlying32 (by kernel_rfl))) rfl ⟨E, L, C, _, _, _, _, _, _, _, _, _, rfl, ⟨hE, hL, hC, by omega, by omega, by omega, ((D1).only O9 KR).at, ((D2).only O9 KR).at, ((D3).only O9 KR).at⟩, by omega, by omega, by omega, fE, fL, fC, O9.2.2 _ _ hwr BW⟩
    have h0i : (k : Int) < (nc : Int) := by omega
    have hn : C ≠ [] := by intro h; rw [h] at hC; simp at hC; omega
    go_upto_region 20 with (fail)
    clear e0 e1 e2
    refine wp_region_held_drew (S := fun w' => Blk w' xb 32 [.slice (some ⟨g1, 0, none⟩) ne k1, .slice (some ⟨g2, 0, none⟩) nl k2, .slice (some ⟨g3, 0, none⟩) nc k3]) (by kernel_rfl) (KX.drew) (fun _ => ?_)
    have hHeld : Blk w4.drew xb 32 [.slice (some ⟨g1, 0, none⟩) ne k1, .slice (some ⟨g2, 0, none⟩) nl k2, .slice (some ⟨g3, 0, none⟩) nc k3] := KX.drew
    replace D1 : Cells1 w4.drew g1 0 E := D1
    replace D2 : Cells1 w4.drew g2 0 L := D2
    replace D3 : Cells1 w4.drew g3 0 C := D3
    replace KR : Blk w4.drew rb 32 zeroCt := KR
    replace BW := below_drew BW
    generalize w4.drew = V0 at hHeld D1 D2 D3 KR BW ⊢
    refine wt (i := 0) (oi := ⟨some 122, .fieldAddr 32 (.tmp 7) 2, 0, "ref.go:238", #[], none⟩) (v := .pointer (some ⟨xb, 2, none⟩)) (Or.inl ⟨by rfl, fun w' hSw => by go_simp⟩) hHeld ?_
    try simp only [zP, zQ, zS, zZ, zC]
    refine wt (i := 1) (oi := ⟨some 123, .load 22 (.tmp 122), 22, "ref.go:238", #[⟨0, .data⟩], none⟩) (v := .slice (some ⟨g3, 0, none⟩) nc k3) (Or.inl ⟨by rfl, fun w' hSw => by have hc := hSw.cell (j := 2) rfl; go_simp⟩) hHeld ?_
    try simp only [zP, zQ, zS, zZ, zC]
    refine wt (i := 2) (oi := ⟨some 124, .move (.tmp 8), 3, "ref.go:238", #[], none⟩) (v := .int .i64 (k : Int)) (Or.inl ⟨by rfl, fun w' hSw => by go_simp⟩) hHeld ?_
    try simp only [zP, zQ, zS, zZ, zC]
    refine wt (i := 3) (oi := ⟨some 125, .fieldAddr 32 (.tmp 7) 2, 0, "ref.go:238", #[], none⟩) (v := .pointer (some ⟨xb, 2, none⟩)) (Or.inl ⟨by rfl, fun w' hSw => by go_simp⟩) hHeld ?_
    try simp only [zP, zQ, zS, zZ, zC]
    refine wt (i := 4) (oi := ⟨some 126, .load 22 (.tmp 125), 22, "ref.go:238", #[⟨3, .data⟩], none⟩) (v := .slice (some ⟨g3, 0, none⟩) nc k3) (Or.inl ⟨by rfl, fun w' hSw => by have hc := hSw.cell (j := 2) rfl; go_simp⟩) hHeld ?_
    try simp only [zP, zQ, zS, zZ, zC]
    refine wt (i := 5) (oi := ⟨some 127, .move (.tmp 8), 3, "ref.go:238", #[], none⟩) (v := .int .i64 (k : Int)) (Or.inl ⟨by rfl, fun w' hSw => by go_simp⟩) hHeld ?_
    try simp only [zP, zQ, zS, zZ, zC]
    refine wt (i := 8) (oi := ⟨some 130, .move (.tmp 9), 3, "ref.go:238", #[], none⟩) (v := .int .i64 dn) (Or.inl ⟨by rfl, fun w' hSw => by go_simp⟩) hHeld ?_
    try simp only [zP, zQ, zS, zZ, zC]
    refine wt (i := 6) (oi := ⟨some 128, .indexAddr 22 (.tmp 126) (.tmp 127), 0, "ref.go:238", #[⟨4, .data⟩, ⟨5, .data⟩], none⟩) (v := .pointer (some ⟨g3, k, none⟩)) (Or.inl ⟨by rfl, fun w' hSw => by go_simp; try (intro hcm; exact absurd hcm (by omega))⟩) hHeld ?_
    try simp only [zP, zQ, zS, zZ, zC]
    obtain ⟨x, hx⟩ : ∃ x, C[k]? = some x := ⟨_, List.getElem?_eq_getElem (by omega)⟩
    obtain ⟨cs, hb, hcs⟩ := D3 (by intro h; rw [h] at hx; simp at hx)
    have h0 := hcs k x hx
    rw [Nat.zero_add] at h0
    have hcq := hb.cell h0
    have hfq := hb.free k
    obtain ⟨y, hy⟩ : ∃ y, IntKind.i64.wrap (x + dn) = y := ⟨_, rfl⟩
    have HY := Lib.hid hy
    have fy := wrap_few hy
    clear hy
    refine wpAnyH_ready (rs := [7]) (by kernel_rfl) (by simp) ?_
    refine AllReadyH.cons (o := ⟨some 129, .load 3 (.tmp 128), 3, "ref.go:238", #[⟨6, .data⟩], none⟩) rfl (fun K hK => ?_) AllReadyH.nil
    rw [if_pos (by rfl)]
    go_simp
    refine hK.out _ _ (hHeld) (fun hHeld => ?_)
    clear hK K
    try simp only [zP, zQ, zS, zZ, zC]
    refine wt (i := 9) (oi := ⟨some 131, .binOp .add 3 (.tmp 129) (.tmp 130) 3, 3, "ref.go:238", #[⟨7, .data⟩, ⟨8, .data⟩], none⟩) (v := .int .i64 y) (Or.inl ⟨by rfl, fun w' hSw => by have hw := HY.out; go_simp⟩) hHeld ?_
    try simp only [zP, zQ, zS, zZ, zC]
    refine wt (i := 10) (oi := ⟨some 132, .indexAddr 22 (.tmp 123) (.tmp 124), 0, "ref.go:238", #[⟨1, .data⟩, ⟨2, .data⟩, ⟨0, .phase⟩, ⟨1, .phase⟩, ⟨2, .phase⟩, ⟨3, .phase⟩, ⟨4, .phase⟩, ⟨5, .phase⟩, ⟨6, .phase⟩, ⟨7, .phase⟩, ⟨8, .phase⟩, ⟨9, .phase⟩], none⟩) (v := .pointer (some ⟨g3, k, none⟩)) (Or.inl ⟨by rfl, fun w' hSw => by go_simp; try (intro hcm; exact absurd hcm (by omega))⟩) hHeld ?_
    try simp only [zP, zQ, zS, zZ, zC]
    refine wpAnyH_ready (rs := [11]) (by kernel_rfl) (by simp) ?_
    refine AllReadyH.cons (o := ⟨none, .store 3 (.tmp 132) (.tmp 131), 0, "ref.go:238", #[⟨10, .data⟩, ⟨9, .data⟩, ⟨0, .phase⟩, ⟨1, .phase⟩, ⟨2, .phase⟩, ⟨3, .phase⟩, ⟨4, .phase⟩, ⟨5, .phase⟩, ⟨6, .phase⟩, ⟨7, .phase⟩, ⟨8, .phase⟩, ⟨9, .phase⟩], none⟩) rfl (fun K hK => ?_) AllReadyH.nil
    rw [if_pos (by rfl)]
    go_simp
    have hNE := D3.set (k := k) (y := y) (by omega)
    replace D1 := D1.other (b := g3) (i := k) (v := .int .i64 y) (fun h e => (n3 hn).1 e.symm)
    replace D2 := D2.other (b := g3) (i := k) (v := .int .i64 y) (fun h e => (n3 hn).2 e.symm)
    replace KR := KR.other (a := ⟨g3, k, none⟩) (blk_types hb KR).symm (.int .i64 y)
    replace BW : Below w.heap.size w (V0.setCell ⟨g3, k, none⟩ (.int .i64 y)) := BW.setCell (hg3 hn) _
    refine hK.out _ _ (hHeld.other (a := ⟨g3, k, none⟩) (blk_types hb hHeld).symm _) (fun hHeld => ?_)
    clear hK K
    try simp only [zP, zQ, zS, zZ, zC]
    refine wpAnyH_done (by kernel_rfl) ?_ _
    have KX8 := hHeld
    clear hHeld hcq hfq hb hcs h0
    generalize World.setCell V0 ⟨g3, k, none⟩ (.int .i64 y) = W8 at KX8 KR BW hNE D1 D2 ⊢
    go_wp2_with (first
      | (refine wpList_load_mid rfl 32 (.tmp 7) rfl xb 0 rfl [.slice (some ⟨g1, 0, none⟩) ne k1, .slice (some ⟨g2, 0, none⟩) nl k2, .slice (some ⟨g3, 0, none⟩) nc k3] _ (by have := (KX8).range 0 3; exact this) Try.underlying32 rfl (by kernel_rfl) ?_)
      | (refine store_blk rfl 32 (.tmp 6) (.tmp 151) rfl KR rfl rfl (vs := [.slice (some ⟨g1, 0, none⟩) ne k1, .slice (some ⟨g2, 0, none⟩) nl k2, .slice (some ⟨g3, 0, none⟩) nc k3]) (m := 3) (by kernel_rfl) rfl rfl (by intro v hv; simp at hv; rcases hv with rfl | rfl | rfl <;> rfl) ?_; intro W9 K9 O9))
    try simp only [zP, zQ, zS, zZ, zC]
    try go_wp2
    exact bodyPost_ret (v := .agg #[.slice (some ⟨g1, 0, none⟩) ne k1, .slice (some ⟨g2, 0, none⟩) nl k2, .slice (some ⟨g3, 0, none⟩) nc k3]) (results_one (by rfl) _ _ rfl (K9.loadVarS Try.underlying32 (by kernel_rfl))) rfl ⟨E, L, (C.set k y), _, _, _, _, _, _, _, _, _, rfl, ⟨hE, hL, by rw [List.length_set]; exact hC, by omega, by omega, by omega, ((D1).only O9 KR).at, ((D2).only O9 KR).at, ((hNE).only O9 KR).at⟩, by omega, by omega, by omega, fE, fL, few_set fC fy, O9.2.2 _ _ hwr BW⟩
  · skip
    have hBs := HBs.out
    by_cases hn : L = []
    · obtain rfl : nl = 0 := by rw [hn] at hL; simp at hL; omega
      obtain rfl : k2 = 0 := z2 rfl
      subst hn
      go_upto_region 26 with (at_builtin; refine clone_el intE rfl (.tmp 136) (.tmp 138) rfl [dn] g2 1 1 rfl (World.ownsRow.alloc O2 _) (Nat.le_trans hBs (Below.size (al1 w4 _))) (some ⟨w4.heap.size, 0, none⟩) rfl rfl (at_new intE w4 #[.int .i64 dn] [dn] rfl) (by omega) ?_; intro g6 c6 W6 hO6 hj1 hj2 hB6; clear hj1 hj2; replace hB6 := link (al1 w4 _) hB6; have KX6 := KX.keep hB6; have cx := KX6.cell (j := 1) rfl; have fx := KX6.free 1)
      have KX8 := KX6.set 1 (.slice (some ⟨g6, 0, none⟩) 1 c6)
      have q2 := (own_cells hO6).field (b := xb) (i := 1) (v := .slice (some ⟨g6, 0, none⟩) 1 c6) KX6
      have q1 := (D1.keep hB6).field (b := xb) (i := 1) (v := .slice (some ⟨g6, 0, none⟩) 1 c6) KX6
      have q3 := (D3.keep hB6).field (b := xb) (i := 1) (v := .slice (some ⟨g6, 0, none⟩) 1 c6) KX6
      have KR8 := (KR.keep hB6).other (a := ⟨xb, 1, none⟩) hrx (.slice (some ⟨g6, 0, none⟩) 1 c6)
      have B8 : Below w.heap.size w (W6.setCell ⟨xb, 1, none⟩ (.slice (some ⟨g6, 0, none⟩) 1 c6)) := (link BW hB6).setCell hwx _
      generalize World.setCell W6 ⟨xb, 1, none⟩ (.slice (some ⟨g6, 0, none⟩) 1 c6) = W8 at KX8 q1 q2 q3 KR8 B8 ⊢
      go_wp2_with (first
        | (refine wpList_load_mid rfl 32 (.tmp 7) rfl xb 0 rfl [.slice (some ⟨g1, 0, none⟩) ne k1, .slice (some ⟨g6, 0, none⟩) 1 c6, .slice (some ⟨g3, 0, none⟩) nc k3] _ (by have := (KX8).range 0 3; exact this) Try.underlying32 rfl (by kernel_rfl) ?_)
        | (refine store_blk rfl 32 (.tmp 6) (.tmp 151) rfl KR8 rfl rfl (vs := [.slice (some ⟨g1, 0, none⟩) ne k1, .slice (some ⟨g6, 0, none⟩) 1 c6, .slice (some ⟨g3, 0, none⟩) nc k3]) (m := 3) (by kernel_rfl) rfl rfl (by intro v hv; simp at hv; rcases hv with rfl | rfl | rfl <;> rfl) ?_; intro W9 K9 O9))
      try simp only [zP, zQ, zS, zZ, zC]
      try go_wp2
      exact bodyPost_ret (v := .agg #[.slice (some ⟨g1, 0, none⟩) ne k1, .slice (some ⟨g6, 0, none⟩) 1 c6, .slice (some ⟨g3, 0, none⟩) nc k3]) (results_one (by rfl) _ _ rfl (K9.loadVarS Try.underlying32 (by kernel_rfl))) rfl ⟨E, [dn], C, _, _, _, _, _, _, _, _, _, rfl, ⟨hE, rfl, hC, by omega, by omega, by omega, ((q1).only O9 KR8).at, ((q2).only O9 KR8).at, ((q3).only O9 KR8).at⟩, by omega, by omega, by omega, fE, (fun x hx => by rw [List.mem_singleton.1 hx]; omega), fC, O9.2.2 _ _ hwr B8⟩
    go_upto_region 26 with (at_builtin; refine push_el intE rfl (.tmp 136) (.tmp 138) rfl L dn _ rfl O2 hBs _ rfl _ rfl (by omega) ?_; intro v6 W6 hO6 hB6 hR6; have KX6 : Blk W6 xb 32 [.slice (some ⟨g1, 0, none⟩) ne k1, .slice (some ⟨g2, 0, none⟩) nl k2, .slice (some ⟨g3, 0, none⟩) nc k3] := hR6 xb _ _ (own_ne O2 KX) KX; have cx := KX6.cell (j := 1) rfl; have fx := KX6.free 1; obtain ⟨m6, hm6⟩ : ∃ m6, (L ++ [dn]).length = m6 := ⟨_, rfl⟩; obtain ⟨g6, c6, cs6, rfl, hg6, _, hb6, ht6⟩ := hO6.blk (by simp); rw [hm6] at hO6 ⊢)
    have KX8 := KX6.set 1 (.slice (some ⟨g6, 0, none⟩) m6 c6)
    have q2 := (own_cells hO6).field (b := xb) (i := 1) (v := .slice (some ⟨g6, 0, none⟩) m6 c6) KX6
    have q1 := (D1.rest hR6 (fun h e => n21 hn (by injection e))).field (b := xb) (i := 1) (v := .slice (some ⟨g6, 0, none⟩) m6 c6) KX6
    have q3 := (D3.rest hR6 (fun h e => (n3 h).2 (by injection e with e; exact e.symm))).field (b := xb) (i := 1) (v := .slice (some ⟨g6, 0, none⟩) m6 c6) KX6
    have KR6 : Blk W6 rb 32 zeroCt := hR6 rb _ _ (own_ne O2 KR) KR
    have KR8 := KR6.other (a := ⟨xb, 1, none⟩) hrx (.slice (some ⟨g6, 0, none⟩) m6 c6)
    have B6 : Below w.heap.size w W6 := BW.trans (by rw [HBw.out]; exact hB6)
    have B8 : Below w.heap.size w (W6.setCell ⟨xb, 1, none⟩ (.slice (some ⟨g6, 0, none⟩) m6 c6)) := B6.setCell hwx _
    generalize World.setCell W6 ⟨xb, 1, none⟩ (.slice (some ⟨g6, 0, none⟩) m6 c6) = W8 at KX8 q1 q2 q3 KR8 B8 ⊢
    have hm7 : m6 = nl + 1 := by rw [← hm6, List.length_append, hL]; rfl
    go_wp2_with (first
      | (refine wpList_load_mid rfl 32 (.tmp 7) rfl xb 0 rfl [.slice (some ⟨g1, 0, none⟩) ne k1, .slice (some ⟨g6, 0, none⟩) m6 c6, .slice (some ⟨g3, 0, none⟩) nc k3] _ (by have := (KX8).range 0 3; exact this) Try.underlying32 rfl (by kernel_rfl) ?_)
      | (refine store_blk rfl 32 (.tmp 6) (.tmp 151) rfl KR8 rfl rfl (vs := [.slice (some ⟨g1, 0, none⟩) ne k1, .slice (some ⟨g6, 0, none⟩) m6 c6, .slice (some ⟨g3, 0, none⟩) nc k3]) (m := 3) (by kernel_rfl) rfl rfl (by intro v hv; simp at hv; rcases hv with rfl | rfl | rfl <;> rfl) ?_; intro W9 K9 O9))
    try simp only [zP, zQ, zS, zZ, zC]
    try go_wp2
    exact bodyPost_ret (v := .agg #[.slice (some ⟨g1, 0, none⟩) ne k1, .slice (some ⟨g6, 0, none⟩) m6 c6, .slice (some ⟨g3, 0, none⟩) nc k3]) (results_one (by rfl) _ _ rfl (K9.loadVarS Try.underlying32 (by kernel_rfl))) rfl ⟨E, (L ++ [dn]), C, _, _, _, _, _, _, _, _, _, rfl, ⟨hE, hm6, hC, by omega, by omega, by omega, ((q1).only O9 KR8).at, ((q2).only O9 KR8).at, ((q3).only O9 KR8).at⟩, by omega, by omega, by omega, fE, few_snoc fL (by omega), fC, O9.2.2 _ _ hwr B8⟩
  · skip
    by_cases hn : C = []
    · have h0 : ¬ (0 : Int) < (nc : Int) := by rw [hn] at hC; simp at hC; omega
      go_wp2_with (first
        | (refine wpList_load_mid rfl 32 (.tmp 7) rfl xb 0 rfl [.slice (some ⟨g1, 0, none⟩) ne k1, .slice (some ⟨g2, 0, none⟩) nl k2, .slice (some ⟨g3, 0, none⟩) nc k3] _ (by have := (KX).range 0 3; exact this) Try.underlying32 rfl (by kernel_rfl) ?_)
        | (refine store_blk rfl 32 (.tmp 6) (.tmp 151) rfl KR rfl rfl (vs := [.slice (some ⟨g1, 0, none⟩) ne k1, .slice (some ⟨g2, 0, none⟩) nl k2, .slice (some ⟨g3, 0, none⟩) nc k3]) (m := 3) (by kernel_rfl) rfl rfl (by intro v hv; simp at hv; rcases hv with rfl | rfl | rfl <;> rfl) ?_; intro W9 K9 O9))
      try simp only [zP, zQ, zS, zZ, zC]
      try go_wp2
      exact bodyPost_ret (v := .agg #[.slice (some ⟨g1, 0, none⟩) ne k1, .slice (some ⟨g2, 0, none⟩) nl k2, .slice (some ⟨g3, 0, none⟩) nc k3]) (results_one (by rfl) _ _ rfl (K9.loadVarS Try.underlying32 (by kernel_rfl))) rfl ⟨E, L, C, _, _, _, _, _, _, _, _, _, rfl, ⟨hE, hL, hC, by omega, by omega, by omega, ((D1).only O9 KR).at, ((D2).only O9 KR).at, ((D3).only O9 KR).at⟩, by omega, by omega, by omega, fE, fL, fC, O9.2.2 _ _ hwr BW⟩
    have h0 : 0 < nc := by have := ne_len hC hn; omega
    have h1k : nc ≤ k3 := hk3
    have fx := KX.free 2
    go_upto_region 26 with (fail)
    by_cases h31 : k3 = 1
    · rw [if_pos h31]
      have hd0 : C.drop 1 = [] := List.drop_of_length_le (by omega)
      have KX8 := KX.set 2 (.slice (some ⟨g3, 0, none⟩) (nc - 1) (k3 - 1))
      have q1 := D1.field (b := xb) (i := 2) (v := .slice (some ⟨g3, 0, none⟩) (nc - 1) (k3 - 1)) KX
      have q2 := D2.field (b := xb) (i := 2) (v := .slice (some ⟨g3, 0, none⟩) (nc - 1) (k3 - 1)) KX
      have q3 : Cells1 (w4.setCell ⟨xb, 2, none⟩ (.slice (some ⟨g3, 0, none⟩) (nc - 1) (k3 - 1))) g3 0 (C.drop 1) := fun h => absurd hd0 h
      have KR8 := KR.other (a := ⟨xb, 2, none⟩) hrx (.slice (some ⟨g3, 0, none⟩) (nc - 1) (k3 - 1))
      have B8 : Below w.heap.size w (w4.setCell ⟨xb, 2, none⟩ (.slice (some ⟨g3, 0, none⟩) (nc - 1) (k3 - 1))) := BW.setCell hwx _
      generalize World.setCell w4 ⟨xb, 2, none⟩ (.slice (some ⟨g3, 0, none⟩) (nc - 1) (k3 - 1)) = W8 at KX8 q1 q2 q3 KR8 B8 ⊢
      go_wp2_with (first
        | (refine wpList_load_mid rfl 32 (.tmp 7) rfl xb 0 rfl [.slice (some ⟨g1, 0, none⟩) ne k1, .slice (some ⟨g2, 0, none⟩) nl k2, .slice (some ⟨g3, 0, none⟩) (nc - 1) (k3 - 1)] _ (by have := (KX8).range 0 3; exact this) Try.underlying32 rfl (by kernel_rfl) ?_)
        | (refine store_blk rfl 32 (.tmp 6) (.tmp 151) rfl KR8 rfl rfl (vs := [.slice (some ⟨g1, 0, none⟩) ne k1, .slice (some ⟨g2, 0, none⟩) nl k2, .slice (some ⟨g3, 0, none⟩) (nc - 1) (k3 - 1)]) (m := 3) (by kernel_rfl) rfl rfl (by intro v hv; simp at hv; rcases hv with rfl | rfl | rfl <;> rfl) ?_; intro W9 K9 O9))
      try simp only [zP, zQ, zS, zZ, zC]
      try go_wp2
      exact bodyPost_ret (v := .agg #[.slice (some ⟨g1, 0, none⟩) ne k1, .slice (some ⟨g2, 0, none⟩) nl k2, .slice (some ⟨g3, 0, none⟩) (nc - 1) (k3 - 1)]) (results_one (by rfl) _ _ rfl (K9.loadVarS Try.underlying32 (by kernel_rfl))) rfl ⟨E, L, (C.drop 1), _, _, _, _, _, _, _, _, _, rfl, ⟨hE, hL, by rw [List.length_drop, hC], by omega, by omega, by omega, ((q1).only O9 KR8).at, ((q2).only O9 KR8).at, ((q3).only O9 KR8).at⟩, by omega, by omega, by omega, fE, fL, (fun x hx => fC x (List.mem_of_mem_drop hx)), O9.2.2 _ _ hwr B8⟩
    · rw [if_neg h31]
      have KX8 := KX.set 2 (.slice (some ⟨g3, 1, none⟩) (nc - 1) (k3 - 1))
      have q1 := D1.field (b := xb) (i := 2) (v := .slice (some ⟨g3, 1, none⟩) (nc - 1) (k3 - 1)) KX
      have q2 := D2.field (b := xb) (i := 2) (v := .slice (some ⟨g3, 1, none⟩) (nc - 1) (k3 - 1)) KX
      have q3 := (cells_tail D3).field (b := xb) (i := 2) (v := .slice (some ⟨g3, 1, none⟩) (nc - 1) (k3 - 1)) KX
      have KR8 := KR.other (a := ⟨xb, 2, none⟩) hrx (.slice (some ⟨g3, 1, none⟩) (nc - 1) (k3 - 1))
      have B8 : Below w.heap.size w (w4.setCell ⟨xb, 2, none⟩ (.slice (some ⟨g3, 1, none⟩) (nc - 1) (k3 - 1))) := BW.setCell hwx _
      generalize World.setCell w4 ⟨xb, 2, none⟩ (.slice (some ⟨g3, 1, none⟩) (nc - 1) (k3 - 1)) = W8 at KX8 q1 q2 q3 KR8 B8 ⊢
      go_wp2_with (first
        | (refine wpList_load_mid rfl 32 (.tmp 7) rfl xb 0 rfl [.slice (some ⟨g1, 0, none⟩) ne k1, .slice (some ⟨g2, 0, none⟩) nl k2, .slice (some ⟨g3, 1, none⟩) (nc - 1) (k3 - 1)] _ (by have := (KX8).range 0 3; exact this) Try.underlying32 rfl (by kernel_rfl) ?_)
        | (refine store_blk rfl 32 (.tmp 6) (.tmp 151) rfl KR8 rfl rfl (vs := [.slice (some ⟨g1, 0, none⟩) ne k1, .slice (some ⟨g2, 0, none⟩) nl k2, .slice (some ⟨g3, 1, none⟩) (nc - 1) (k3 - 1)]) (m := 3) (by kernel_rfl) rfl rfl (by intro v hv; simp at hv; rcases hv with rfl | rfl | rfl <;> rfl) ?_; intro W9 K9 O9))
      try simp only [zP, zQ, zS, zZ, zC]
      try go_wp2
      exact bodyPost_ret (v := .agg #[.slice (some ⟨g1, 0, none⟩) ne k1, .slice (some ⟨g2, 0, none⟩) nl k2, .slice (some ⟨g3, 1, none⟩) (nc - 1) (k3 - 1)]) (results_one (by rfl) _ _ rfl (K9.loadVarS Try.underlying32 (by kernel_rfl))) rfl ⟨E, L, (C.drop 1), _, _, _, _, _, _, _, _, _, rfl, ⟨hE, hL, by rw [List.length_drop, hC], by omega, by omega, by omega, ((q1).only O9 KR8).at, ((q2).only O9 KR8).at, ((q3).only O9 KR8).at⟩, by omega, by omega, by omega, fE, fL, (fun x hx => fC x (List.mem_of_mem_drop hx)), O9.2.2 _ _ hwr B8⟩
  · skip
    by_cases h0 : k < nc
    case neg =>
      have h0i : ¬ (k : Int) < (nc : Int) := by omega
      go_wp2_with (first
        | (refine wpList_load_mid rfl 32 (.tmp 7) rfl xb 0 rfl [.slice (some ⟨g1, 0, none⟩) ne k1, .slice (some ⟨g2, 0, none⟩) nl k2, .slice (some ⟨g3, 0, none⟩) nc k3] _ (by have := (KX).range 0 3; exact this) Try.underlying32 rfl (by kernel_rfl) ?_)
        | (refine store_blk rfl 32 (.tmp 6) (.tmp 151) rfl KR rfl rfl (vs := [.slice (some ⟨g1, 0, none⟩) ne k1, .slice (some ⟨g2, 0, none⟩) nl k2, .slice (some ⟨g3, 0, none⟩) nc k3]) (m := 3) (by kernel_rfl) rfl rfl (by intro v hv; simp at hv; rcases hv with rfl | rfl | rfl <;> rfl) ?_; intro W9 K9 O9))
      try simp only [zP, zQ, zS, zZ, zC]
      try go_wp2
      exact bodyPost_ret (v := .agg #[.slice (some ⟨g1, 0, none⟩) ne k1, .slice (some ⟨g2, 0, none⟩) nl k2, .slice (some ⟨g3, 0, none⟩) nc k3]) (results_one (by rfl) _ _ rfl (K9.loadVarS Try.underlying32 (by kernel_rfl))) rfl ⟨E, L, C, _, _, _, _, _, _, _, _, _, rfl, ⟨hE, hL, hC, by omega, by omega, by omega, ((D1).only O9 KR).at, ((D2).only O9 KR).at, ((D3).only O9 KR).at⟩, by omega, by omega, by omega, fE, fL, fC, O9.2.2 _ _ hwr BW⟩
    have h0i : (k : Int) < (nc : Int) := by omega
    have hn : C ≠ [] := by intro h; rw [h] at hC; simp at hC; omega
    obtain ⟨x, hx⟩ : ∃ x, C[k]? = some x := ⟨_, List.getElem?_eq_getElem (by omega)⟩
    obtain ⟨cs, hb, hcs⟩ := D3 hn
    have h00 := hcs k x hx
    rw [Nat.zero_add] at h00
    have hcq := hb.cell h00
    have hfq := hb.free k
    obtain ⟨y, hy⟩ : ∃ y, IntKind.i64.wrap (by_ * 4294967296) = y := ⟨_, rfl⟩
    have HY := Lib.hid hy
    have fy := wrap_few hy
    go_upto_region 26 with (fail)
    have KX8 := KX.other (a := ⟨g3, k, none⟩) (blk_types hb KX).symm (.int .i64 y)
    have q3 := D3.set (k := k) (y := y) (by omega)
    have q1 := D1.other (b := g3) (i := k) (v := .int .i64 y) (fun h e => (n3 hn).1 e.symm)
    have q2 := D2.other (b := g3) (i := k) (v := .int .i64 y) (fun h e => (n3 hn).2 e.symm)
    have KR8 := KR.other (a := ⟨g3, k, none⟩) (blk_types hb KR).symm (.int .i64 y)
    have B8 : Below w.heap.size w (w4.setCell ⟨g3, k, none⟩ (.int .i64 y)) := BW.setCell (hg3 hn) _
    clear hcq hfq hb hcs h00
    generalize World.setCell w4 ⟨g3, k, none⟩ (.int .i64 y) = W8 at KX8 q1 q2 q3 KR8 B8 ⊢
    go_wp2_with (first
      | (refine wpList_load_mid rfl 32 (.tmp 7) rfl xb 0 rfl [.slice (some ⟨g1, 0, none⟩) ne k1, .slice (some ⟨g2, 0, none⟩) nl k2, .slice (some ⟨g3, 0, none⟩) nc k3] _ (by have := (KX8).range 0 3; exact this) Try.underlying32 rfl (by kernel_rfl) ?_)
      | (refine store_blk rfl 32 (.tmp 6) (.tmp 151) rfl KR8 rfl rfl (vs := [.slice (some ⟨g1, 0, none⟩) ne k1, .slice (some ⟨g2, 0, none⟩) nl k2, .slice (some ⟨g3, 0, none⟩) nc k3]) (m := 3) (by kernel_rfl) rfl rfl (by intro v hv; simp at hv; rcases hv with rfl | rfl | rfl <;> rfl) ?_; intro W9 K9 O9))
    try simp only [zP, zQ, zS, zZ, zC]
    try go_wp2
    exact bodyPost_ret (v := .agg #[.slice (some ⟨g1, 0, none⟩) ne k1, .slice (some ⟨g2, 0, none⟩) nl k2, .slice (some ⟨g3, 0, none⟩) nc k3]) (results_one (by rfl) _ _ rfl (K9.loadVarS Try.underlying32 (by kernel_rfl))) rfl ⟨E, L, (C.set k y), _, _, _, _, _, _, _, _, _, rfl, ⟨hE, hL, by rw [List.length_set]; exact hC, by omega, by omega, by omega, ((q1).only O9 KR8).at, ((q2).only O9 KR8).at, ((q3).only O9 KR8).at⟩, by omega, by omega, by omega, fE, fL, few_set fC fy, O9.2.2 _ _ hwr B8⟩
end Go.Proofs.Ytacdjchkilheiaa
