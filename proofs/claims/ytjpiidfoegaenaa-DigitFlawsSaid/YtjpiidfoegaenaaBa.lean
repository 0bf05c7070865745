/-
  Integers in memory, slices of one's own.
-/
import Derived.Test.YtjpiidfoegaenaaRo
import Derived.Maps.AppendAt

namespace Go.Proofs.Ytjpiidfoegaenaa
open Go.RowKit
set_option linter.unusedVariables false
set_option linter.unusedSimpArgs false

/-- Numbers as elements. -/
def intE : Elt Int where
  T := 3
  ST := 22
  k := 1
  bytes := 8
  zero := .int .i64 0
  enc := fun s => [.int .i64 s]
  info := by kernel_rfl
  und := Try.underlying22
  len := fun _ => rfl
  one := by intro s u hu; simp at hu; subst hu; rfl
  kpos := by decide
  zs := rfl
  bb := by decide
/-- The first k elements of two lists are the same. -/
def SameTo {α : Type} (l m : List α) (k : Nat) : Prop := l.take k = m.take k
theorem SameTo.zero {α : Type} (l m : List α) : SameTo l m 0 := by unfold SameTo; simp
theorem SameTo.step {α : Type} {l m : List α} {k : Nat} {x y : α} (h : SameTo l m k) (hx : l[k]? = some x) (hy : m[k]? = some y) (e : x = y) : SameTo l m (k + 1) := by
  unfold SameTo at *
  rw [List.take_add_one, List.take_add_one, h, hx, hy, e]
theorem SameTo.all {α : Type} {l m : List α} {k : Nat} (h : SameTo l m k) (hl : l.length ≤ k) (hm : m.length ≤ k) : l = m := by
  unfold SameTo at h
  rwa [List.take_of_length_le hl, List.take_of_length_le hm] at h
theorem differ {α : Type} {l m : List α} {k : Nat} {x y : α} (hx : l[k]? = some x) (hy : m[k]? = some y) (e : x ≠ y) : l ≠ m := by
  intro h
  rw [h, hy] at hx
  injection hx with hx
  exact e hx.symm
def SRel {α : Type} (la lb : List α) (n : Nat) (w : World) (v : Value) (wr : World) : Prop := ∃ k : Nat, k ≤ n ∧ v = .int .i64 (k : Int) ∧ SameTo la lb k ∧ Below w.heap.size w wr
/-- A slice of one's own as an answer. -/
def MadeR {α : Type} (E : Elt α) (l : List α) (w : World) (e : Ending) (w' : World) : Prop := ∃ v, e = .returned v ∧ OwnR E w' w.heap.size v l ∧ Below w.heap.size w w'

/-- A slice of one's own, of a known length, as an answer. -/
def GiveR {α : Type} (E : Elt α) (l : List α) (n : Nat) (w : World) (e : Ending) (w' : World) : Prop := ∃ q c, e = .returned (.slice q n c) ∧ n ≤ c ∧ At E w' q l ∧ Below w.heap.size w w'
theorem MadeR.give {α : Type} {E : Elt α} {l : List α} {w : World} {e : Ending} {w' : World} (h : MadeR E l w e w') {n : Nat} (hn : l.length = n) : GiveR E l n w e w' := by
  obtain ⟨v, rfl, hO, hB⟩ := h
  obtain ⟨q, c, rfl, hc, hA, _, _⟩ := hO.form
  subst hn
  exact ⟨q, c, rfl, hc, hA, hB⟩
/-- The number of a round. -/
def NumRel (W : World) (n : Nat) (v : Value) (wr : World) : Prop := ∃ i : Nat, i ≤ n ∧ v = .int .i64 (i : Int) ∧ Below W.heap.size W wr

/-- A literal slice, just made. -/
theorem at_new {α : Type} (E : Elt α) (w : World) (cs : Array Value) (l : List α) (h : E.row l = cs.toList) : At E (w.alloc (.cells cs E.T)) (some ⟨w.heap.size, 0, none⟩) l := fun _ => by
  have K := blk_new w E.T cs
  refine ⟨_, 0, rfl, K.lt, fun i x j u hx hu => ?_⟩
  rw [Nat.zero_add]
  exact K.cell (by rw [← h]; exact E.row_get l i x j u hx hu)
/-- A literal slice, just made, is one's own. -/
theorem own_new {α : Type} (E : Elt α) (w : World) (cs : Array Value) (l : List α) (n : Nat) (hn : l.length = n) (hm : n ≤ 1000000) (h : E.row l = cs.toList) : OwnR E (w.alloc (.cells cs E.T)) w.heap.size (.slice (some ⟨w.heap.size, 0, none⟩) n n) l := by
  subst hn
  refine ⟨E.row_length l, Or.inr ⟨w.heap.size, l.length, cs, rfl, Nat.le_refl _, heap_alloc_new _ _, Nat.le_refl _, by unfold maxLen; omega, ?_, ?_⟩⟩
  · rw [← Array.length_toList, ← h, E.row_length]
  · rw [← h, ← E.row_length l, List.take_length]
/-- Integers in memory. -/
def IntsAt (w : World) (A : Option Addr) (l : List Int) : Prop := l ≠ [] → ∃ ad : Addr, A = some ad ∧ ad.block < w.heap.size ∧ ∀ (i : Nat) (x : Int), l[i]? = some x → w.cell? (ad.add i) = some (.int .i64 x) ∧ -9223372036854775808 ≤ x ∧ x ≤ 9223372036854775807
theorem add_block (ad : Addr) (i : Nat) : (ad.add i).block = ad.block := by unfold Addr.add; split <;> rfl
theorem IntsAt.keep {w w' : World} {A : Option Addr} {l : List Int} (h : IntsAt w A l) (hb : Below w.heap.size w w') : IntsAt w' A l := fun hn => by
  obtain ⟨ad, e, hlt, hc⟩ := h hn
  exact ⟨ad, e, Nat.lt_of_lt_of_le hlt hb.size, fun i x hx => ⟨(hb.cell (by rw [add_block]; exact hlt)).trans (hc i x hx).1, (hc i x hx).2⟩⟩

set_option maxHeartbeats 1000000 in
set_option maxRecDepth 100000 in
theorem around_any (n : Int) (h1 : -9223372036854775808 ≤ n) (h2 : n ≤ 9223372036854775807) (k : Nat) (hk : 0 < k) (hk2 : k ≤ 1000000) (w : World) :
    Calls Try.prog 21 #[.int .i64 n, .int .i64 (k : Int)] w fun e w' => ∃ r : Nat, r < k ∧ e = .returned (.int .i64 (r : Int)) ∧ w' = w := by
  have hp : ∀ x : Int, 0 ≤ x → ∃ r : Nat, r < k ∧ x.tmod (k : Int) = (r : Int) := by
    intro x hx
    obtain ⟨m, rfl⟩ := Int.eq_ofNat_of_zero_le hx
    exact ⟨m % k, Nat.mod_lt _ hk, by rw [Int.tmod_eq_emod_of_nonneg hx]; simp⟩
  go_enter Try.func21, Try.ntmps21
  by_cases h0 : n < 0
  · obtain ⟨r, hr, he⟩ := hp (-(n + 1)) (by omega)
    go_wp2
    go_ret
    refine ⟨r, hr, ?_, rfl⟩
    rw [← he]
    simp
  · obtain ⟨r, hr, he⟩ := hp n (by omega)
    go_wp2
    go_ret
    refine ⟨r, hr, ?_, rfl⟩
    rw [← he, Int.tmod_eq_emod_of_nonneg (by omega)]
    rfl

theorem wrap_in {x : Int} (h1 : -1000000000 ≤ x) (h2 : x ≤ 1000000000) : IntKind.i64.wrap x = x := by simp [IntKind.wrap, IntKind.signed, IntKind.bits]; omega
variable {α : Type}

theorem wp_append_own_at {o : Oper} {a : Act} {K : Act → World → Prop} {Q : Exit → Act → World → Prop} {w : World} (s x : Operand) (t : TypeId)
    (ho : o.op = .call { callee := .builtin .append, args := #[s, x], argTypes := #[t, t] })
    (base : Nat) (e : TypeId) (i : TypeInfo) (z : Value) (size bytes : Nat) (ht : Try.prog.underlying t = some (.slice e)) (hi : Try.prog.info? e = some i) (hz : i.zero = some z)
    (hsize : i.size = size) (hby : i.bytes = bytes) (hzs : z.cells.size = size) (hsz : 0 < size)
    (v : Value) (n : Nat) (xs : List Value) (hs : a.eval s = v) (hown : w.ownsRow base e size v n xs)
    (ad : Addr) (m c : Nat) (news : List Value) (hx : a.eval x = .slice (some ad) m c) (hl : news.length = m * size) (hnews : ∀ j u, news[j]? = some u → w.cell? (ad.add j) = some u) (h1 : ∀ u ∈ news, u.oneCell' = true)
    (h63 : n + m ≤ maxLen) (hbytes : (n + m) * bytes ≤ 140737488355328) (hbase : base ≤ w.heap.size)
    (h : ∀ v' w', w'.ownsRow base e size v' (n + m) (xs ++ news) → w.grownBy w' v.ownBlock → (v'.ownBlock = v.ownBlock ∨ v'.ownBlock = some w.heap.size) → K (a.put o.dst v') w') : o.wp Try.prog a w K Q := by
  obtain ⟨v', w', hr, h2, h3, _, h5⟩ := run_append_own_at (P := Try.prog) w base t o.type e i z size bytes ht hi hz hsize hby hzs hsz v n xs hown ad m c news hl hnews h1 h63 hbytes hbase
  unfold Oper.wp execOp
  simp only [ho, resolve, invoke, builtin, Sem.run_bind, Sem.run_pure, Result.andThen_ok, List.map_toArray, List.map_cons, List.map_nil, hs, hx, hr]
  exact h v' w' h2 h3 h5

/-- append of one element, which lies in a block made for it; the new slice lies where the old one did, or in a new block. -/
theorem push_at (E : Elt α) {w : World} {B : Nat} {o : Oper} {a : Act} {K : Act → World → Prop} {Q : Exit → Act → World → Prop} (s x : Operand)
    (ho : o.op = .call { callee := .builtin .append, args := #[s, x], argTypes := #[E.ST, E.ST] })
    (l : List α) (y : α) (v : Value) (hs : a.eval s = v) (hown : OwnR E w B v l) (hB : B ≤ w.heap.size)
    (c : Nat) (hx : a.eval x = .slice (some ⟨w.heap.size, 0, none⟩) 1 c) (C : Array Value) (hC : C = (E.enc y).toArray) (hl : l.length ≤ 1000000000000)
    (h : ∀ v' w', OwnR E w' B v' (l ++ [y]) → Below B w w' → Rest v w w' → (v'.ownBlock = v.ownBlock ∨ v'.ownBlock = some (w.heap.size + 1)) → K (a.put o.dst v') w') :
    o.wp Try.prog a (w.alloc (.cells C E.T)) K Q := by
  subst hC
  obtain ⟨i0, hi, hz0, hz1, hz2⟩ := info_parts E.info
  have hbb := E.bb
  refine wp_append_own_at s x E.ST ho B E.T i0 E.zero E.k E.bytes E.und hi hz0 hz1 hz2 E.zs E.kpos v l.length (E.row l) hs (World.ownsRow.alloc hown _) ⟨w.heap.size, 0, none⟩ 1 c (E.enc y) hx (by rw [E.len, Nat.one_mul]) ?c1 (E.one y) ?c3 ?c4 ?c5 ?_
  case c1 => intro j u hj; rw [Addr.add_mid, Nat.zero_add]; exact (blk_new w E.T (E.enc y).toArray).cell (by simpa using hj)
  case c3 => unfold maxLen; omega
  case c4 => exact Nat.le_trans (Nat.mul_le_mul (show l.length + 1 ≤ 1099511627776 by omega) hbb) (by decide)
  case c5 => simp; omega
  intro v' w' hown' hgrow hat
  refine h v' w' ?_ (((Below.refl _ w).alloc (Nat.le_refl _) _ |>.mono hB).grown hgrow (by simp; omega) (fun j hj => (World.ownsRow.lt hown j hj).1)) (fun b t cs hne hk => ?_) (by rwa [World.size_alloc] at hat)
  · unfold OwnR
    rw [E.row_append, E.row_one, List.length_append]
    exact hown'
  · have hk2 := hk.alloc (.cells (E.enc y).toArray E.T)
    unfold Blk at *
    rw [hgrow.block b (Array.getElem?_eq_some_iff.1 hk2).1 (fun e => hne e.symm)]
    exact hk2
/-- A slice of one's own that is not empty, as a block. -/
theorem OwnR.blk {E : Elt α} {w : World} {B : Nat} {v : Value} {l : List α} (h : OwnR E w B v l) (hn : l ≠ []) : ∃ g cap cs, v = .slice (some ⟨g, 0, none⟩) l.length cap ∧ B ≤ g ∧ l.length ≤ cap ∧ Blk w g E.T cs ∧ cs.take (l.length * E.k) = E.row l := by
  obtain ⟨h1, ⟨e, h0⟩ | ⟨g, cap, cur, rfl, hB, hg, hc, hm, hs, ht⟩⟩ := h
  · exact absurd (List.eq_nil_of_length_eq_zero h0) hn
  · exact ⟨g, cap, cur.toList, rfl, hB, hc, by unfold Blk; simpa using hg, ht⟩
theorem row_at {E : Elt α} {cs : List Value} {l : List α} (h : cs.take (l.length * E.k) = E.row l) {i j : Nat} {x : α} {u : Value} (hx : l[i]? = some x) (hu : (E.enc x)[j]? = some u) : cs[i * E.k + j]? = some u := by
  have := E.row_get l i x j u hx hu
  rw [← h, List.getElem?_take] at this
  split at this
  · exact this
  · cases this
theorem lay_blk {E : Elt α} {w : World} {g : Nat} {cs : List Value} {l : List α} (hb : Blk w g E.T cs) (h : cs.take (l.length * E.k) = E.row l) : Lay E w g 0 l :=
  ⟨hb.lt, fun i x j u hx hu => hb.cell (by rw [Nat.zero_add]; exact row_at h hx hu)⟩
theorem at_blk {E : Elt α} {w : World} {g : Nat} {cs : List Value} {l : List α} (hb : Blk w g E.T cs) (h : cs.take (l.length * E.k) = E.row l) : At E w (some ⟨g, 0, none⟩) l := fun _ => ⟨g, 0, rfl, lay_blk hb h⟩
/-- A shorter slice of one's own. -/
theorem own_trunc {E : Elt α} {w : World} {B g n c : Nat} {l m : List α} (h : OwnR E w B (.slice (some ⟨g, 0, none⟩) n c) (l ++ m)) : OwnR E w B (.slice (some ⟨g, 0, none⟩) l.length c) l := by
  obtain ⟨h1, ⟨e, h0⟩ | ⟨g', cap, cur, hv, hB, hg, hc, hm, hs, ht⟩⟩ := h
  · cases e
  · injection hv with e1 e2 e3
    injection e1 with e1
    injection e1 with e1
    subst e1 e2 e3
    rw [List.length_append] at hc
    refine ⟨E.row_length l, .inr ⟨g, c, cur, rfl, hB, hg, by omega, hm, hs, ?_⟩⟩
    have h2 := congrArg (List.take (l.length * E.k)) ht
    rw [List.take_take, E.row_append, List.length_append, Nat.add_mul, Nat.min_eq_left (by omega), ← E.row_length l, List.take_left'  rfl] at h2
    rw [← E.row_length l]
    exact h2
set_option maxHeartbeats 2000000 in
set_option maxRecDepth 100000 in
theorem sameInts_any (la lb : List Int) (qa qb : Option Addr) (n c m d : Nat) (hla : la.length = n) (hlb : lb.length = m) (hn6 : n ≤ 1000000000000) (w : World) (hA : At intE w qa la) (hB0 : At intE w qb lb) :
    Calls Try.prog 22 #[.slice qa n c, .slice qb m d] w (Told w (decide (la = lb))) := by
  have HN := Lib.hid hla
  have HM := Lib.hid hlb
  by_cases hnm : n = m
  · subst hnm
    clear hla hlb
    have hneb : ((n : Int) != (n : Int)) = false := by simp
    go_enter Try.func22, Try.ntmps22
    go_wp2
    go_loopw [5] (fun v wr => SRel la lb n w v wr) (fun v _ => n - (intOf v).toNat)
    case atStart => exact ⟨0, by omega, rfl, SameTo.zero _ _, Below.refl _ _⟩
    case round =>
      obtain ⟨k, hk, rfl, hF, hB⟩ := hrel
      by_cases hlt : k < n
      · obtain ⟨x, hx⟩ : ∃ x, la[k]? = some x := ⟨_, List.getElem?_eq_getElem (by rw [HN.out]; exact hlt)⟩
        obtain ⟨y, hy⟩ : ∃ y, lb[k]? = some y := ⟨_, List.getElem?_eq_getElem (by rw [HM.out]; exact hlt)⟩
        obtain ⟨b, off, rfl, hL2⟩ := hA.get (i := k) (by rw [HN.out]; exact hlt)
        obtain ⟨g, o2, rfl, hM2⟩ := hB0.get (i := k) (by rw [HM.out]; exact hlt)
        have C1 : ∀ w', Below w.heap.size w w' → w'.cell? ⟨b, off + k, none⟩ = some (.int .i64 x) := fun w' h => (h.cell hL2.1).trans (by have := hL2.2 k x 0 _ hx rfl; rwa [show off + k * intE.k + 0 = off + k from by rw [show intE.k = 1 from rfl]; omega] at this)
        have C2 : ∀ w', Below w.heap.size w w' → w'.cell? ⟨g, o2 + k, none⟩ = some (.int .i64 y) := fun w' h => (h.cell hM2.1).trans (by have := hM2.2 k y 0 _ hy rfl; rwa [show o2 + k * intE.k + 0 = o2 + k from by rw [show intE.k = 1 from rfl]; omega] at this)
        have HS := Lib.hid (fun e => hF.step hx hy e)
        have HD := Lib.hid (fun e => differ hx hy e)
        clear hx hy hF hA hB0 hL2 hM2
        go_upto_region 6 with (fail)
        by_cases hxy : x = y
        · have hb1 : (x != y) = false := by simp [hxy]
          have HS2 := Lib.hid (HS.out hxy)
          clear HS HD hxy
          refine wp_region_held_drew (S := fun w' => Below w.heap.size w w') (by kernel_rfl) (below_drew (hB)) (fun _ => ?_)
          have hHeld : Below w.heap.size w wr.drew := below_drew (hB)
          generalize wr.drew = V0 at hHeld ⊢
          refine wt (i := 0) (oi := ⟨some 17, .move (.tmp 0), 22, "ref.go:202", #[], none⟩) (v := .slice (some ⟨b, off, none⟩) n c) (Or.inl ⟨by rfl, fun w' hSw => by go_simp⟩) hHeld ?_
          try simp only [zP, zQ, zS, zZ, zC]
          refine wt (i := 1) (oi := ⟨some 18, .move (.tmp 5), 3, "ref.go:202", #[], none⟩) (v := .int .i64 (k : Int)) (Or.inl ⟨by rfl, fun w' hSw => by go_simp⟩) hHeld ?_
          try simp only [zP, zQ, zS, zZ, zC]
          refine wt (i := 2) (oi := ⟨some 19, .indexAddr 22 (.tmp 17) (.tmp 18), 0, "ref.go:202", #[⟨0, .data⟩, ⟨1, .data⟩], none⟩) (v := .pointer (some ⟨b, off + k, none⟩)) (Or.inl ⟨by rfl, fun w' hSw => by go_simp; try (intro hcm; exact absurd hcm (by omega))⟩) hHeld ?_
          try simp only [zP, zQ, zS, zZ, zC]
          refine wt (i := 3) (oi := ⟨some 20, .load 3 (.tmp 19), 3, "ref.go:202", #[⟨2, .data⟩], none⟩) (v := .int .i64 x) (Or.inl ⟨by rfl, fun w' hSw => by have hc := C1 w' hSw; go_simp⟩) hHeld ?_
          try simp only [zP, zQ, zS, zZ, zC]
          refine wt (i := 4) (oi := ⟨some 21, .move (.tmp 1), 22, "ref.go:202", #[], none⟩) (v := .slice (some ⟨g, o2, none⟩) n d) (Or.inl ⟨by rfl, fun w' hSw => by go_simp⟩) hHeld ?_
          try simp only [zP, zQ, zS, zZ, zC]
          refine wt (i := 5) (oi := ⟨some 22, .move (.tmp 5), 3, "ref.go:202", #[], none⟩) (v := .int .i64 (k : Int)) (Or.inl ⟨by rfl, fun w' hSw => by go_simp⟩) hHeld ?_
          try simp only [zP, zQ, zS, zZ, zC]
          refine wt (i := 6) (oi := ⟨some 23, .indexAddr 22 (.tmp 21) (.tmp 22), 0, "ref.go:202", #[⟨4, .data⟩, ⟨5, .data⟩], none⟩) (v := .pointer (some ⟨g, o2 + k, none⟩)) (Or.inl ⟨by rfl, fun w' hSw => by go_simp; try (intro hcm; exact absurd hcm (by omega))⟩) hHeld ?_
          try simp only [zP, zQ, zS, zZ, zC]
          refine wt (i := 7) (oi := ⟨some 24, .load 3 (.tmp 23), 3, "ref.go:202", #[⟨6, .data⟩], none⟩) (v := .int .i64 y) (Or.inl ⟨by rfl, fun w' hSw => by have hc := C2 w' hSw; go_simp⟩) hHeld ?_
          try simp only [zP, zQ, zS, zZ, zC]
          refine wt (i := 8) (oi := ⟨some 25, .binOp .neq 3 (.tmp 20) (.tmp 24) 3, 4, "ref.go:202", #[⟨3, .data⟩, ⟨7, .data⟩], none⟩) (v := .bool false) (Or.inl ⟨by rfl, fun w' hSw => by go_simp⟩) hHeld ?_
          try simp only [zP, zQ, zS, zZ, zC]
          refine wpAnyH_done (by kernel_rfl) ?_ _
          have BX := hHeld
          clear hHeld C1 C2
          go_wp2
          exact ⟨⟨k + 1, by omega, by go_num, HS2.out, BX⟩, by simp [intOf]; omega⟩
        · have hb1 : (x != y) = true := by simp [hxy]
          have HD2 := Lib.hid (HD.out hxy)
          clear HS HD hxy
          refine wp_region_held_drew (S := fun w' => Below w.heap.size w w') (by kernel_rfl) (below_drew (hB)) (fun _ => ?_)
          have hHeld : Below w.heap.size w wr.drew := below_drew (hB)
          generalize wr.drew = V0 at hHeld ⊢
          refine wt (i := 0) (oi := ⟨some 17, .move (.tmp 0), 22, "ref.go:202", #[], none⟩) (v := .slice (some ⟨b, off, none⟩) n c) (Or.inl ⟨by rfl, fun w' hSw => by go_simp⟩) hHeld ?_
          try simp only [zP, zQ, zS, zZ, zC]
          refine wt (i := 1) (oi := ⟨some 18, .move (.tmp 5), 3, "ref.go:202", #[], none⟩) (v := .int .i64 (k : Int)) (Or.inl ⟨by rfl, fun w' hSw => by go_simp⟩) hHeld ?_
          try simp only [zP, zQ, zS, zZ, zC]
          refine wt (i := 2) (oi := ⟨some 19, .indexAddr 22 (.tmp 17) (.tmp 18), 0, "ref.go:202", #[⟨0, .data⟩, ⟨1, .data⟩], none⟩) (v := .pointer (some ⟨b, off + k, none⟩)) (Or.inl ⟨by rfl, fun w' hSw => by go_simp; try (intro hcm; exact absurd hcm (by omega))⟩) hHeld ?_
          try simp only [zP, zQ, zS, zZ, zC]
          refine wt (i := 3) (oi := ⟨some 20, .load 3 (.tmp 19), 3, "ref.go:202", #[⟨2, .data⟩], none⟩) (v := .int .i64 x) (Or.inl ⟨by rfl, fun w' hSw => by have hc := C1 w' hSw; go_simp⟩) hHeld ?_
          try simp only [zP, zQ, zS, zZ, zC]
          refine wt (i := 4) (oi := ⟨some 21, .move (.tmp 1), 22, "ref.go:202", #[], none⟩) (v := .slice (some ⟨g, o2, none⟩) n d) (Or.inl ⟨by rfl, fun w' hSw => by go_simp⟩) hHeld ?_
          try simp only [zP, zQ, zS, zZ, zC]
          refine wt (i := 5) (oi := ⟨some 22, .move (.tmp 5), 3, "ref.go:202", #[], none⟩) (v := .int .i64 (k : Int)) (Or.inl ⟨by rfl, fun w' hSw => by go_simp⟩) hHeld ?_
          try simp only [zP, zQ, zS, zZ, zC]
          refine wt (i := 6) (oi := ⟨some 23, .indexAddr 22 (.tmp 21) (.tmp 22), 0, "ref.go:202", #[⟨4, .data⟩, ⟨5, .data⟩], none⟩) (v := .pointer (some ⟨g, o2 + k, none⟩)) (Or.inl ⟨by rfl, fun w' hSw => by go_simp; try (intro hcm; exact absurd hcm (by omega))⟩) hHeld ?_
          try simp only [zP, zQ, zS, zZ, zC]
          refine wt (i := 7) (oi := ⟨some 24, .load 3 (.tmp 23), 3, "ref.go:202", #[⟨6, .data⟩], none⟩) (v := .int .i64 y) (Or.inl ⟨by rfl, fun w' hSw => by have hc := C2 w' hSw; go_simp⟩) hHeld ?_
          try simp only [zP, zQ, zS, zZ, zC]
          refine wt (i := 8) (oi := ⟨some 25, .binOp .neq 3 (.tmp 20) (.tmp 24) 3, 4, "ref.go:202", #[⟨3, .data⟩, ⟨7, .data⟩], none⟩) (v := .bool true) (Or.inl ⟨by rfl, fun w' hSw => by go_simp⟩) hHeld ?_
          try simp only [zP, zQ, zS, zZ, zC]
          refine wpAnyH_done (by kernel_rfl) ?_ _
          have BX := hHeld
          clear hHeld C1 C2
          go_wp2
          go_ret
          exact ⟨by rw [decide_eq_false HD2.out]; rfl, BX⟩
      · have HE := Lib.hid (hF.all (by rw [HN.out]; omega) (by rw [HM.out]; omega))
        go_wp2
        go_ret
        exact ⟨by rw [decide_eq_true HE.out]; rfl, hB⟩
  · have hneb : ((n : Int) != (m : Int)) = true := by simp; omega
    have HD := Lib.hid (show la ≠ lb from fun e => hnm (by rw [← hla, ← hlb, e]))
    go_enter Try.func22, Try.ntmps22
    go_wp2
    go_ret
    exact ⟨by rw [decide_eq_false HD.out]; rfl, Below.refl _ _⟩

theorem sameInts_refl (l : List Int) (qa qb : Option Addr) (n c d : Nat) (hl : l.length = n) (hn6 : n ≤ 1000000000000) (w : World) (hA : At intE w qa l) (hB : At intE w qb l) :
    Calls Try.prog 22 #[.slice qa n c, .slice qb n d] w (Told w true) := by
  have := sameInts_any l l qa qb n c n d hl hl hn6 w hA hB
  rwa [decide_eq_true rfl] at this
/-- Integers of one's own as an argument. -/
theorem At.ints {w : World} {q : Option Addr} {l : List Int} (h : At intE w q l) (hl : ∀ x ∈ l, -9223372036854775808 ≤ x ∧ x ≤ 9223372036854775807) : IntsAt w q l := fun hn => by
  obtain ⟨b, off, e, hL⟩ := h hn
  refine ⟨⟨b, off, none⟩, e, hL.1, fun i x hx => ⟨?_, hl x (List.mem_of_getElem? hx)⟩⟩
  have := hL.2 i x 0 _ hx rfl
  rw [show intE.k = 1 from rfl, Nat.mul_one, Nat.add_zero] at this
  rwa [Addr.add_mid]
end Go.Proofs.Ytjpiidfoegaenaa
