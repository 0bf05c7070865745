/-
  Words for byte slices in memory, and the laws by which the calls append to them and turn them into strings.
-/
import Derived.Test.YtjpiidfoegaenaaWm
import Derived.Test.YtjpiidfoegaenaaRows
import Derived.WalkKit
import Derived.WalkSpells
import Derived.WalkLawsBesides
import Derived.Deep.AppendLies
import Derived.Lib.Hide
import Derived.Lib.AppendStr
import Derived.Laws.BytesArg
import Derived.Laws.IdiomStrings
namespace Go.Proofs.Ytjpiidfoegaenaa
open Go.RowKit

def byteV (x : Nat) : Value := .int .u8 x
def bytesV (l : List Nat) : List Value := l.map byteV
theorem bytesV_length (l : List Nat) : (bytesV l).length = l.length := by simp [bytesV]
theorem bytesV_append (l m : List Nat) : bytesV (l ++ m) = bytesV l ++ bytesV m := by simp [bytesV]
theorem u8info : (Try.prog.info? 5).map (fun i => (i.zero, i.size, i.bytes)) = some (some (.int .u8 0), 1, 1) := by kernel_rfl

/-- v is a slice of the call's own with the bytes l; what was there when the call began (the world W) has not changed. -/
def Own (W w : World) (v : Value) (l : List Nat) : Prop := w.ownsRow W.heap.size 5 1 v l.length (bytesV l) ∧ Below W.heap.size W w

/-- The call made the bytes l: a slice of its own, and nothing that was there has changed. -/
def Made (W : World) (l : List Nat) (e : Ending) (w' : World) : Prop :=
  ∃ g cap, e = .returned (.slice (some ⟨g, 0, none⟩) l.length cap) ∧ Own W w' (.slice (some ⟨g, 0, none⟩) l.length cap) l

theorem made_of {W w' : World} {l : List Nat} {v : Value} (h0 : l ≠ []) (h : Own W w' v l) : Made W l (.returned v) w' := by
  obtain ⟨g, cap, rfl, _, _⟩ := h.1.form (List.length_pos_iff.2 h0)
  exact ⟨g, cap, rfl, h⟩

/-- append(b, x): b the call's own bytes, x a byte that was laid just before. -/
theorem push_byte {W w : World} {ops : Array Oper} {rest : List Oper} {o : Oper} {a : Act} {Q : Exit → Act → World → Prop} (hgd : o.guard = none) (s x : Operand)
    (ho : o.op = .call { callee := .builtin .append, args := #[s, x], argTypes := #[48, 48] })
    (l : List Nat) (y : Nat) (v : Value) (hs : a.eval s = v) (hO : Own W w v l)
    (c : Nat) (hx : a.eval x = .slice (some ⟨w.heap.size, 0, none⟩) 1 c) {X : Int} (hX : X = y) (hl : l.length ≤ 70368744177664)
    (h : ∀ v' w', Own W w' v' (l ++ [y]) → wpList Try.prog ops Q rest (a.put o.dst v') w') :
    wpList Try.prog ops Q (o :: rest) a (w.alloc (.cells #[.int .u8 X] 5)) := by
  subst hX
  obtain ⟨hown, hb⟩ := hO
  obtain ⟨i0, hi, hz0, hz1, hz2⟩ := info_parts u8info
  refine wpList_append_own _ hgd s x 48 ho W.heap.size 5 i0 (.int .u8 0) 1 1 Try.underlying48 hi hz0 hz1 hz2 rfl (by decide) v l.length (bytesV l) hs (hown.alloc _) ⟨w.heap.size, 0, none⟩ 1 c [byteV y] hx rfl ?c1 ?c2 ?c3 ?c4 ?c5 ?_
  case c1 => exact cell_one_new _ _ _
  case c2 => intro u hu; simp [byteV] at hu; subst hu; rfl
  case c3 => unfold maxLen; omega
  case c4 => omega
  case c5 => have := hb.size; simp; omega
  intro v' w' hown' hgrow _
  refine h v' w' ⟨by rw [bytesV_append]; simpa [bytesV] using hown', (hb.alloc hb.size _).grown hgrow (by have := hb.size; simp; omega) (fun j hj => (hown.lt j hj).1)⟩

theorem Own.below {W w : World} {v : Value} {l : List Nat} (h : Own W w v l) : Below W.heap.size W w := h.2

/-- What the call owns stays as it is where only newer blocks change. -/
theorem Own.keep {W w w' : World} {v : Value} {l : List Nat} (h : Own W w v l) (hb : Below w.heap.size w w') : Own W w' v l := by
  obtain ⟨ho, hB⟩ := h
  refine ⟨⟨ho.1, ?_⟩, hB.trans (hb.mono hB.size)⟩
  rcases ho.2 with h0 | ⟨g, cap, cur, hv, hg, hh, rest⟩
  · exact .inl h0
  · refine .inr ⟨g, cap, cur, hv, hg, ?_, rest⟩
    have hlt : g < w.heap.size := by
      rcases Nat.lt_or_ge g w.heap.size with hl | hl
      · exact hl
      · rw [Array.getElem?_eq_none hl] at hh; cases hh
    rw [hb.block g hlt]; exact hh

/-- append(b, c...): b the call's own bytes, c bytes that lie somewhere. -/
theorem push_row {W w : World} {ops : Array Oper} {rest : List Oper} {o : Oper} {a : Act} {Q : Exit → Act → World → Prop} (hgd : o.guard = none) (s x : Operand)
    (ho : o.op = .call { callee := .builtin .append, args := #[s, x], argTypes := #[48, 48] })
    (l m : List Nat) (v : Value) (hs : a.eval s = v) (hO : Own W w v l)
    (ad : Addr) (k c : Nat) (hx : a.eval x = .slice (some ad) k c) (hk : k = m.length) (hm : ∀ j u, (bytesV m)[j]? = some u → w.cell? (ad.add j) = some u) (hl : l.length + m.length ≤ 70368744177664)
    (h : ∀ v' w', Own W w' v' (l ++ m) → wpList Try.prog ops Q rest (a.put o.dst v') w') :
    wpList Try.prog ops Q (o :: rest) a w := by
  subst hk
  obtain ⟨hown, hb⟩ := hO
  obtain ⟨i0, hi, hz0, hz1, hz2⟩ := info_parts u8info
  refine wpList_append_own _ hgd s x 48 ho W.heap.size 5 i0 (.int .u8 0) 1 1 Try.underlying48 hi hz0 hz1 hz2 rfl (by decide) v l.length (bytesV l) hs hown ad m.length c (bytesV m) hx (by simp [bytesV]) hm ?c2 ?c3 ?c4 ?c5 ?_
  case c2 => intro u hu; obtain ⟨y, _, rfl⟩ := List.mem_map.1 hu; rfl
  case c3 => unfold maxLen; omega
  case c4 => omega
  case c5 => exact hb.size
  intro v' w' hown' hgrow _
  refine h v' w' ⟨by rw [bytesV_append, List.length_append]; exact hown', hb.grown hgrow hb.size (fun j hj => (hown.lt j hj).1)⟩

/-- The bytes of a string, as numbers. -/
def sb (s : ByteArray) : List Nat := s.data.toList.map (·.toNat)
theorem sb_length (s : ByteArray) : (sb s).length = s.size := by simp [sb]
theorem sb_lt (s : ByteArray) : ∀ d ∈ sb s, d < 256 := by
  intro d hd
  obtain ⟨u, _, rfl⟩ := List.mem_map.1 hd
  exact u.toNat_lt
theorem strCells_sb (s : ByteArray) : Lib.strCells s = bytesV (sb s) := by simp [Lib.strCells, bytesV, sb, byteV]

/-- append(b, s...): b the call's own bytes, s a string. -/
theorem push_str {W w : World} {ops : Array Oper} {rest : List Oper} {o : Oper} {a : Act} {Q : Exit → Act → World → Prop} (hgd : o.guard = none) (s x : Operand)
    (ho : o.op = .call { callee := .builtin .append, args := #[s, x], argTypes := #[48, 9] })
    (l : List Nat) (v : Value) (hs : a.eval s = v) (hO : Own W w v l)
    (t : ByteArray) (hx : a.eval x = .string t) (hl : l.length + t.size ≤ 70368744177664)
    (h : ∀ v' w', Own W w' v' (l ++ sb t) → wpList Try.prog ops Q rest (a.put o.dst v') w') :
    wpList Try.prog ops Q (o :: rest) a w := by
  obtain ⟨hown, hb⟩ := hO
  obtain ⟨i0, hi, hz0, hz1, hz2⟩ := info_parts u8info
  refine Lib.wpList_append_own_string _ hgd s x 48 9 ho W.heap.size 5 i0 Try.underlying48 Try.underlying9 hi hz0 hz1 hz2 v l.length (bytesV l) hs hown t hx ?c3 ?c4 hb.size ?_
  case c3 => unfold maxLen; omega
  case c4 => omega
  intro v' w' hown' hgrow _
  refine h v' w' ⟨by rw [bytesV_append, List.length_append, sb_length, ← strCells_sb]; exact hown', hb.grown hgrow hb.size (fun j hj => (hown.lt j hj).1)⟩

/-- A slice that starts at A has the cells xs, each of an element of its own. -/
def Cells (w : World) (A : Option Addr) (xs : List Value) : Prop := ∀ k u, xs[k]? = some u → ∃ ad, A = some ad ∧ ad.block < w.heap.size ∧ w.cell? (ad.add k) = some u
theorem block_add (ad : Addr) (k : Nat) : (ad.add k).block = ad.block := by unfold Addr.add; split <;> rfl
theorem Cells.keep {w w' : World} {A : Option Addr} {xs : List Value} (h : Cells w A xs) (hb : Below w.heap.size w w') : Cells w' A xs := by
  intro k u hk
  obtain ⟨ad, e, hlt, hc⟩ := h k u hk
  exact ⟨ad, e, Nat.lt_of_lt_of_le hlt hb.size, (hb.cell (by rw [block_add]; exact hlt)).trans hc⟩
/-- A slice that starts at A has the bytes l. -/
def Has (w : World) (A : Option Addr) (l : List Nat) : Prop := Cells w A (bytesV l) ∧ ∀ d ∈ l, d < 256
theorem Has.keep {w w' : World} {A : Option Addr} {l : List Nat} (h : Has w A l) (hb : Below w.heap.size w w') : Has w' A l := ⟨h.1.keep hb, h.2⟩
theorem Has.at {w : World} {A : Option Addr} {l : List Nat} (h : Has w A l) (k y : Nat) (hk : l[k]? = some y) : y < 256 ∧ ∃ ad, A = some ad ∧ ad.block < w.heap.size ∧ w.cell? (ad.add k) = some (byteV y) :=
  ⟨h.2 y (List.mem_iff_getElem?.2 ⟨k, hk⟩), h.1 k (byteV y) (by simp [bytesV, hk])⟩
theorem Own.has {W w : World} {g n c : Nat} {l : List Nat} (h : Own W w (.slice (some ⟨g, 0, none⟩) n c) l) (hl : ∀ d ∈ l, d < 256) : Has w (some ⟨g, 0, none⟩) l := by
  refine ⟨fun k u hk => ⟨_, rfl, ?_, ?_⟩, hl⟩
  · exact (h.1.lt g (by simp [Value.ownBlock])).2
  · exact h.1.cells (g := g) (by simp [Value.ownBlock]) k u hk

theorem add_add (ad : Addr) (u j : Nat) : (ad.add u).add j = ad.add (u + j) := by
  unfold Addr.add
  by_cases hu : u = 0 <;> by_cases h : j = 0 <;> simp [h, hu, Nat.add_assoc]
theorem Cells.drop {w : World} {ad : Addr} {xs : List Value} (h : Cells w (some ad) xs) (u : Nat) : Cells w (some (ad.add u)) (xs.drop u) := by
  intro k v hk
  obtain ⟨ad', e, hb, hc⟩ := h (u + k) v (by rw [← hk, List.getElem?_drop])
  obtain rfl : ad = ad' := by simpa using e
  exact ⟨_, rfl, by rw [block_add]; exact hb, by rw [add_add ad u k]; exact hc⟩
theorem Has.drop {w : World} {ad : Addr} {l : List Nat} (h : Has w (some ad) l) (u : Nat) : Has w (some (ad.add u)) (l.drop u) :=
  ⟨by have := h.1.drop u; rwa [show (bytesV l).drop u = bytesV (l.drop u) by simp [bytesV]] at this, fun d hd => h.2 d (List.mem_of_mem_drop hd)⟩
theorem Cells.take {w : World} {A : Option Addr} {xs : List Value} (h : Cells w A xs) (k : Nat) : Cells w A (xs.take k) := by
  intro j u hj
  rw [List.getElem?_take] at hj
  split at hj
  · exact h j u hj
  · cases hj
theorem Has.take {w : World} {A : Option Addr} {l : List Nat} (h : Has w A l) (k : Nat) : Has w A (l.take k) :=
  ⟨by have := h.1.take k; rwa [show (bytesV l).take k = bytesV (l.take k) by simp [bytesV]] at this, fun d hd => h.2 d (List.mem_of_mem_take hd)⟩
theorem Has.none_ (w : World) (A : Option Addr) : Has w A [] := ⟨fun k u hk => by simp [bytesV] at hk, fun d hd => by simp at hd⟩
theorem Has.cells {w : World} {ad : Addr} {l : List Nat} (h : Has w (some ad) l) : ∀ j u, (bytesV l)[j]? = some u → w.cell? (ad.add j) = some u := by
  intro j u hj
  obtain ⟨ad', e, _, hc⟩ := h.1 j u hj
  obtain rfl : ad = ad' := by simpa using e
  exact hc

/-- The string with the bytes l. -/
def strOf (l : List Nat) : ByteArray := ⟨(l.map UInt8.ofNat).toArray⟩
theorem sb_strOf (l : List Nat) (h : ∀ d ∈ l, d < 256) : sb (strOf l) = l := by
  simp only [sb, strOf, List.map_map]
  apply List.ext_getElem
  · simp
  · intro i h1 h2
    simp only [List.getElem_map, Function.comp]
    exact Nat.mod_eq_of_lt (h _ (List.getElem_mem _))
theorem strOf_sb (s : ByteArray) : strOf (sb s) = s := by
  cases s with | mk d =>
  have e : (UInt8.ofNat ∘ fun x : UInt8 => x.toNat) = id := funext fun x => UInt8.ofNat_toNat
  simp only [strOf, sb, List.map_map, e, List.map_id]
theorem strOf_size (l : List Nat) : (strOf l).size = l.length := by
  show ((l.map UInt8.ofNat).toArray).size = _
  simp

theorem conv_cells (w : World) (ad : Addr) (cap : Nat) (m : List Nat) (h : ∀ d ∈ m, d < 256) (hc : ∀ j u, (bytesV m)[j]? = some u → w.cell? (ad.add j) = some u) :
    (convert 48 9 (.slice (some ad) m.length cap)).run Try.prog w = .ok (.string (strOf m)) w := by
  have := run_convert_bytes_back (P := Try.prog) w 48 9 5 ad cap (m.map UInt8.ofNat) Try.underlying48 Try.underlying5 Try.underlying9 (fun j hj => by
    have hj' : j < m.length := by simpa using hj
    rw [hc j (byteV m[j]) (by simp [bytesV, hj'])]
    have := h m[j] (List.getElem_mem _)
    simp only [List.getElem_map, byteV]
    rw [show (UInt8.ofNat m[j]).toNat = m[j] from Nat.mod_eq_of_lt this])
  rw [List.length_map] at this
  exact this

end Go.Proofs.Ytjpiidfoegaenaa
