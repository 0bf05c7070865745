/-
  hash.Mac returns the authentication code of a text.
-/
import Derived.Test.YtfhfmdnimebegaaDoorHv
import Derived.Deep.RegionHeld3
import Derived.Deep.RegionWith
import Derived.Deep.DeepCutAuto
namespace Go.Proofs.YtfhfmdnimebegaaDoor
open Go.RowKit
set_option linter.unusedVariables false
set_option linter.unusedSimpArgs false

theorem to_bytes (s : ByteArray) (w : World) : ∃ cap w2, (convert 9 39 (.string s)).run Tryd.prog w = .ok (.slice (some ⟨w.heap.size, 0, none⟩) s.size cap) w2 ∧ Below w.heap.size w w2 ∧ ∀ j u, (bytesV (sb s))[j]? = some u → w2.cell? ((⟨w.heap.size, 0, none⟩ : Addr).add j) = some u := by
  refine ⟨_, _, run_bytes_of_string w 9 39 5 s Tryd.underlying9 Tryd.underlying39 Tryd.underlying5, (Below.refl _ _).drew.alloc (Nat.le_refl _) _, ?_⟩
  intro j u hj
  rw [Addr.add_mid, Nat.zero_add]
  have h := World.cell?_alloc_mark w.drew (bytesRow s (grownCap w s.size 0 5)) 5 ((bytesRow s (grownCap w s.size 0 5)).size, (bytesRow s (grownCap w s.size 0 5)).size + 1) j
  have hlt : j < s.data.size := by
    have := (List.getElem?_eq_some_iff.1 hj).1
    rw [bytesV_length, sb_length] at this
    exact this
  rw [bytesRow_at s _ j hlt] at h
  refine h.trans ?_
  rw [← hj]
  simp only [bytesV, sb, List.getElem?_map, Array.getElem?_toList, Array.getElem?_eq_getElem hlt, Option.map_some, byteV]
def z64 : List Nat := List.replicate 64 0
theorem zero_64 (w : World) : (zeroValue 120).run Tryd.prog w = .ok (.agg (bytesV z64).toArray) w := by kernel_rfl
theorem z64_length : (bytesV z64).length = 64 := rfl
theorem put_z64 (k : List Nat) (h : k.length ≤ 64) : splice (bytesV z64) 0 (bytesV k) = bytesV (padK k) := by
  unfold splice padK z64
  rw [List.take_zero, List.nil_append, Nat.zero_add, bytesV_length, bytesV_append]
  congr 1
  unfold bytesV
  rw [← List.map_drop, List.drop_replicate]

theorem chain {B : Nat} {a b c : World} (h1 : Below B a b) (hB : B ≤ b.heap.size) (h2 : Below b.heap.size b c) : Below B a c := h1.trans (h2.mono hB)
theorem link {a b c : World} (h1 : Below a.heap.size a b) (h2 : Below b.heap.size b c) : Below a.heap.size a c := h1.trans (h2.mono h1.size)
theorem first_le {B : Nat} {a b : World} (h : Below B a b) : a.heap.size ≤ b.heap.size := h.size
/-- A hash has been laid into a block of its own, not below lo. -/
def LaidAt (wr : World) (d : List Nat) (v : Value) (wx : World) : Prop := ∃ b, v = .pointer (some ⟨b, 0, none⟩) ∧ Blk wx b 114 (bytesV d) ∧ Below wr.heap.size wr wx
theorem laid_at {wr w4 : World} {b : Nat} {d : List Nat} (N : Blk w4 b 114 (bytesV z32)) (hd : d.length = 32) (hb : wr.heap.size ≤ b) (hB : Below wr.heap.size wr w4) : LaidAt wr d (.pointer (some ⟨b, 0, none⟩)) (w4.setCells b 0 (bytesV d)) :=
  ⟨b, rfl, N.all (by rw [bytesV_length, bytesV_length, hd]; rfl), (only_sets b 0 w4 (bytesV d)).2.2 _ _ hb hB⟩
/-- What holds while the two keys are changed. -/
def XorRel (V w : World) (k : List Nat) (v : Value) (wr : World) : Prop :=
  ∃ i : Nat, i ≤ 64 ∧ v = .int .i64 i ∧ Blk wr w.heap.size 120 (bytesV (xorA k 54 i)) ∧ Blk wr (w.heap.size + 1) 120 (bytesV (xorA k 92 i)) ∧ Below w.heap.size w wr
theorem xor_step {wr : World} {b i : Nat} {t : TypeId} {k : List Nat} {x y : Nat} (H : Blk wr b t (bytesV (xorA k x i))) (h : i < k.length) (hy : k[i] = y) (hyb : y < 256) (hx : x < 256) {V : Int} (hV : V = bits BinOp.xor IntKind.u8 (y : Int) (x : Int)) :
    Blk (wr.setCell ⟨b, i, none⟩ (.int .u8 V)) b t (bytesV (xorA k x (i + 1))) := by
  subst hV; subst hy
  rw [xor_u8 _ _ hyb hx]
  have := H.set i (byteV (k[i] ^^^ x))
  rw [← xorA_set k x i h]
  unfold bytesV at this ⊢
  rw [List.map_set]
  exact this

theorem add_key (l : List Nat) (hb : ∀ y ∈ l, y < 256) (hl : l.length ≤ 1048576) (B : List Nat) (hS : Stm [] B) (w1 : World) (hG : Glob w1) :
    Calls Tryd.prog 72 #[.agg (strV (sth []) B 0).toArray, .string (strOf l)] w1 (AddTo w1 l) := by
  have := add_any [] B hS (strOf l) (by rw [strOf_size, List.length_nil]; omega) w1 hG
  rwa [sb_strOf l hb, List.nil_append] at this

theorem conv_blk {w : World} {b n : Nat} {t : TypeId} {l : List Nat} (h : Blk w b t (bytesV l)) (hb : ∀ y ∈ l, y < 256) (hl : l.length = n) : (convert 39 9 (.slice (some ⟨b, 0, none⟩) n n)).run Tryd.prog w = .ok (.string (strOf l)) w := by
  subst hl
  exact conv_cells w ⟨b, 0, none⟩ l.length l hb (fun j u hj => by rw [Addr.add_mid, Nat.zero_add]; exact h.cell hj)
theorem add_text {m M : List Nat} {t : ByteArray} (hM : m ++ sb t = M) (hl : m.length + t.size ≤ 1152921504606846975) (B : List Nat) (hS : Stm m B) (w1 : World) (hG : Glob w1) :
    Calls Tryd.prog 72 #[.agg (strV (sth m) B m.length).toArray, .string t] w1 (AddTo w1 M) := by
  subst hM
  exact add_any m B hS t hl w1 hG
theorem add_more {m M d : List Nat} (hM : m ++ d = M) (hd : ∀ y ∈ d, y < 256) (hl : m.length + d.length ≤ 1152921504606846975) (B : List Nat) (hS : Stm m B) (w1 : World) (hG : Glob w1) :
    Calls Tryd.prog 72 #[.agg (strV (sth m) B m.length).toArray, .string (strOf d)] w1 (AddTo w1 M) := by
  subst hM
  have := add_any m B hS (strOf d) (by rw [strOf_size]; exact hl) w1 hG
  rwa [sb_strOf d hd] at this
theorem sum_at {M D : List Nat} (hD : sha M = D) (B : List Nat) (hS : Stm M B) (hl : M.length ≤ 1152921504606846000) (w1 : World) (hG : Glob w1) :
    Calls Tryd.prog 74 #[.agg (strV (sth M) B M.length).toArray] w1 fun e w' => e = .returned (.agg (bytesV D).toArray) ∧ Below w1.heap.size w1 w' := by
  subst hD
  exact strsum_any M B hS hl w1 hG

end Go.Proofs.YtfhfmdnimebegaaDoor
