/-
  Append onto a slice of one's own: where the new slice lies; slices of one's own as blocks; shorter ones.
-/
import Derived.Test.YtehkgpefmjfifaaKi
import Derived.Maps.AppendAt
namespace Go.Proofs.Ytehkgpefmjfifaa
open Go.RowKit
set_option linter.unusedVariables false
set_option linter.unusedSimpArgs false
variable {α : Type}

theorem wp_append_own_at {o : Oper} {a : Act} {K : Act → World → Prop} {Q : Exit → Act → World → Prop} {w : World} (s x : Operand) (t : TypeId)
    (ho : o.op = .call { callee := .builtin .append, args := #[s, x], argTypes := #[t, t] })
    (base : Nat) (e : TypeId) (i : TypeInfo) (z : Value) (size bytes : Nat) (ht : Try.prog.underlying t = some (.slice e)) (hi : Try.prog.info? e = some i) (hz : i.zero = some z)
    (hsize : i.size = size) (hby : i.bytes = bytes) (hzs : z.cells.size = size) (hsz : 0 < size)
    (v : Value) (n : Nat) (xs : List Value) (hs : a.eval s = v) (hown : w.ownsRow base e size v n xs)
    (ad : Addr) (m c : Nat) (news : List Value) (hx : a.eval x = .slice (some ad) m c) (hl : news.length = m * size) (hnews : ∀ j u, news[j]? = some u → w.cell? (ad.add j) = some u) (h1 : ∀ u ∈ news, u.oneCell' = true)
    (h63 : n + m ≤ maxLen) (hbytes : (n + m) * bytes ≤ 140737488355328) (hbase : base ≤ w.heap.size)
    (h : ∀ v' w', w'.ownsRow base e size v' (n + m) (xs ++ news) → w.grownBy w' v.ownBlock → (v'.ownBlock = v.ownBlock ∨ v'.ownBlock = some w.heap.size) → K (a.put o.dst v') w') : o.wp Try.prog a w K Q := by
  obtain ⟨v', w', hr, h2, h3, _, h5⟩ := run_append_own_at (P := Try.prog) w base t o.type e i z size bytes ht hi hz hsize hby hzs hsz v n xs hown ad m c news hl hnews h1 h63 hbytes hbase
  unfold Oper.wp execOp
  simp only [ho, resolve, invoke, builtin, Sem.run_bind, Sem.run_pure, Result.andThen_ok, List.map_toArray, List.map_cons, List.map_nil, hs, hx, hr]
  exact h v' w' h2 h3 h5

/-- append of one element, which lies in a block made for it; the new slice lies where the old one did, or in a new block. -/
theorem push_at (E : Elt α) {w : World} {B : Nat} {o : Oper} {a : Act} {K : Act → World → Prop} {Q : Exit → Act → World → Prop} (s x : Operand)
    (ho : o.op = .call { callee := .builtin .append, args := #[s, x], argTypes := #[E.ST, E.ST] })
    (l : List α) (y : α) (v : Value) (hs : a.eval s = v) (hown : OwnR E w B v l) (hB : B ≤ w.heap.size)
    (c : Nat) (hx : a.eval x = .slice (some ⟨w.heap.size, 0, none⟩) 1 c) (C : Array Value) (hC : C = (E.enc y).toArray) (hl : l.length ≤ 1000000000000)
    (h : ∀ v' w', OwnR E w' B v' (l ++ [y]) → Below B w w' → Rest v w w' → (v'.ownBlock = v.ownBlock ∨ v'.ownBlock = some (w.heap.size + 1)) → K (a.put o.dst v') w') :
    o.wp Try.prog a (w.alloc (.cells C E.T)) K Q := by
  subst hC
  obtain ⟨i0, hi, hz0, hz1, hz2⟩ := info_parts E.info
  have hbb := E.bb
  refine wp_append_own_at s x E.ST ho B E.T i0 E.zero E.k E.bytes E.und hi hz0 hz1 hz2 E.zs E.kpos v l.length (E.row l) hs (World.ownsRow.alloc hown _) ⟨w.heap.size, 0, none⟩ 1 c (E.enc y) hx (by rw [E.len, Nat.one_mul]) ?c1 (E.one y) ?c3 ?c4 ?c5 ?_
  case c1 => intro j u hj; rw [Addr.add_mid, Nat.zero_add]; exact (blk_new w E.T (E.enc y).toArray).cell (by simpa using hj)
  case c3 => unfold maxLen; omega
  case c4 => exact Nat.le_trans (Nat.mul_le_mul (show l.length + 1 ≤ 1099511627776 by omega) hbb) (by decide)
  case c5 => simp; omega
  intro v' w' hown' hgrow hat
  refine h v' w' ?_ (((Below.refl _ w).alloc (Nat.le_refl _) _ |>.mono hB).grown hgrow (by simp; omega) (fun j hj => (World.ownsRow.lt hown j hj).1)) (fun b t cs hne hk => ?_) (by rwa [World.size_alloc] at hat)
  · unfold OwnR
    rw [E.row_append, E.row_one, List.length_append]
    exact hown'
  · have hk2 := hk.alloc (.cells (E.enc y).toArray E.T)
    unfold Blk at *
    rw [hgrow.block b (Array.getElem?_eq_some_iff.1 hk2).1 (fun e => hne e.symm)]
    exact hk2
/-- A slice of one's own that is not empty, as a block. -/
theorem OwnR.blk {E : Elt α} {w : World} {B : Nat} {v : Value} {l : List α} (h : OwnR E w B v l) (hn : l ≠ []) : ∃ g cap cs, v = .slice (some ⟨g, 0, none⟩) l.length cap ∧ B ≤ g ∧ l.length ≤ cap ∧ Blk w g E.T cs ∧ cs.take (l.length * E.k) = E.row l := by
  obtain ⟨h1, ⟨e, h0⟩ | ⟨g, cap, cur, rfl, hB, hg, hc, hm, hs, ht⟩⟩ := h
  · exact absurd (List.eq_nil_of_length_eq_zero h0) hn
  · exact ⟨g, cap, cur.toList, rfl, hB, hc, by unfold Blk; simpa using hg, ht⟩
theorem row_at {E : Elt α} {cs : List Value} {l : List α} (h : cs.take (l.length * E.k) = E.row l) {i j : Nat} {x : α} {u : Value} (hx : l[i]? = some x) (hu : (E.enc x)[j]? = some u) : cs[i * E.k + j]? = some u := by
  have := E.row_get l i x j u hx hu
  rw [← h, List.getElem?_take] at this
  split at this
  · exact this
  · cases this
theorem lay_blk {E : Elt α} {w : World} {g : Nat} {cs : List Value} {l : List α} (hb : Blk w g E.T cs) (h : cs.take (l.length * E.k) = E.row l) : Lay E w g 0 l :=
  ⟨hb.lt, fun i x j u hx hu => hb.cell (by rw [Nat.zero_add]; exact row_at h hx hu)⟩
theorem at_blk {E : Elt α} {w : World} {g : Nat} {cs : List Value} {l : List α} (hb : Blk w g E.T cs) (h : cs.take (l.length * E.k) = E.row l) : At E w (some ⟨g, 0, none⟩) l := fun _ => ⟨g, 0, rfl, lay_blk hb h⟩
/-- A shorter slice of one's own. -/
theorem own_trunc {E : Elt α} {w : World} {B g n c : Nat} {l m : List α} (h : OwnR E w B (.slice (some ⟨g, 0, none⟩) n c) (l ++ m)) : OwnR E w B (.slice (some ⟨g, 0, none⟩) l.length c) l := by
  obtain ⟨h1, ⟨e, h0⟩ | ⟨g', cap, cur, hv, hB, hg, hc, hm, hs, ht⟩⟩ := h
  · cases e
  · injection hv with e1 e2 e3
    injection e1 with e1
    injection e1 with e1
    subst e1 e2 e3
    rw [List.length_append] at hc
    refine ⟨E.row_length l, .inr ⟨g, c, cur, rfl, hB, hg, by omega, hm, hs, ?_⟩⟩
    have h2 := congrArg (List.take (l.length * E.k)) ht
    rw [List.take_take, E.row_append, List.length_append, Nat.add_mul, Nat.min_eq_left (by omega), ← E.row_length l, List.take_left'  rfl] at h2
    rw [← E.row_length l]
    exact h2
end Go.Proofs.Ytehkgpefmjfifaa
