/-
  The specification's helpers and the law's own; that what Prove and Range return is accepted. Conditions: as each theorem states them; no axiom beyond propext, Classical.choice, Quot.sound.
-/
import Derived.Test.YtfhfmdnimebegaaDoorEw
import Derived.Test.YtfhfmdnimebegaaDoorE6

/-
  The reference's small helpers: Around, At, Key.
-/
namespace Go.Proofs.YtfhfmdnimebegaaDoor
open Go.RowKit
set_option linter.unusedVariables false
set_option linter.unusedSimpArgs false

set_option maxHeartbeats 1000000 in
set_option maxRecDepth 100000 in
theorem around_any (n : Int) (h1 : -9223372036854775808 ≤ n) (h2 : n ≤ 9223372036854775807) (k : Nat) (hk : 0 < k) (hk2 : k ≤ 1000000) (w : World) :
    Calls Tryd.prog 16 #[.int .i64 n, .int .i64 (k : Int)] w fun e w' => ∃ r : Nat, r < k ∧ e = .returned (.int .i64 (r : Int)) ∧ w' = w := by
  have hp : ∀ x : Int, 0 ≤ x → ∃ r : Nat, r < k ∧ x.tmod (k : Int) = (r : Int) := by
    intro x hx
    obtain ⟨m, rfl⟩ := Int.eq_ofNat_of_zero_le hx
    exact ⟨m % k, Nat.mod_lt _ hk, by rw [Int.tmod_eq_emod_of_nonneg hx]; simp⟩
  go_enter Tryd.func16, Tryd.ntmps16
  by_cases h0 : n < 0
  · obtain ⟨r, hr, he⟩ := hp (-(n + 1)) (by omega)
    go_wp2
    go_ret
    refine ⟨r, hr, ?_, rfl⟩
    rw [← he]
    simp
  · obtain ⟨r, hr, he⟩ := hp n (by omega)
    go_wp2
    go_ret
    refine ⟨r, hr, ?_, rfl⟩
    rw [← he, Int.tmod_eq_emod_of_nonneg (by omega)]
    rfl

/-- Integers in memory. -/
def IntsAt (w : World) (A : Option Addr) (l : List Int) : Prop := l ≠ [] → ∃ ad : Addr, A = some ad ∧ ad.block < w.heap.size ∧ ∀ (i : Nat) (x : Int), l[i]? = some x → w.cell? (ad.add i) = some (.int .i64 x) ∧ -9223372036854775808 ≤ x ∧ x ≤ 9223372036854775807
theorem add_block (ad : Addr) (i : Nat) : (ad.add i).block = ad.block := by unfold Addr.add; split <;> rfl
theorem IntsAt.keep {w w' : World} {A : Option Addr} {l : List Int} (h : IntsAt w A l) (hb : Below w.heap.size w w') : IntsAt w' A l := fun hn => by
  obtain ⟨ad, e, hlt, hc⟩ := h hn
  exact ⟨ad, e, Nat.lt_of_lt_of_le hlt hb.size, fun i x hx => ⟨(hb.cell (by rw [add_block]; exact hlt)).trans (hc i x hx).1, (hc i x hx).2⟩⟩

set_option maxHeartbeats 1000000 in
set_option maxRecDepth 100000 in
theorem at_any (A : Option Addr) (l : List Int) (n c : Nat) (hl : l.length = n) (i : Nat) (k : Nat) (hk : 0 < k) (hk2 : k ≤ 1000000) (w : World) (hA : IntsAt w A l) :
    Calls Tryd.prog 39 #[.slice A n c, .int .i64 (i : Int), .int .i64 (k : Int)] w fun e w' => ∃ r : Nat, r < k ∧ e = .returned (.int .i64 (r : Int)) ∧ w' = w := by
  by_cases hi : i < n
  · obtain ⟨x, hx⟩ : ∃ x, l[i]? = some x := ⟨_, List.getElem?_eq_getElem (by omega)⟩
    obtain ⟨ad, rfl, hlt, hc⟩ := hA (by intro h; rw [h] at hx; simp at hx)
    obtain ⟨h0, h1, h2⟩ := hc i x hx
    have HR := Lib.hid (fun (V : World) => around_any x h1 h2 k hk hk2 V)
    clear hx hc hA hl h1 h2
    go_enter Tryd.func39, Tryd.ntmps39
    go_wp2_with (go_at_call 16; refine (HR.out _).mono ?_; rintro e w1 ⟨r, hr, rfl, hw1⟩; rw [hw1])
    go_ret
    exact ⟨r, hr, rfl, rfl⟩
  · go_enter Tryd.func39, Tryd.ntmps39
    go_wp2
    go_ret
    exact ⟨0, hk, rfl, rfl⟩

/-- The key made of a number. -/
def keyM (n : Nat) : ByteArray := if n % 3 = 0 then strOf [97 + n / 3] else strOf [97 + n / 3, 97 + n % 3]
theorem key_less : ∀ n < 41, ∀ m < 41, n < m → sless (keyM n) (keyM m) = true := by decide +kernel
theorem key_size (n : Nat) : (keyM n).size ≤ 2 := by
  unfold keyM
  split <;> simp [ByteArray.size, strOf]
theorem conv_new (w : World) (m : List Nat) (h : ∀ d ∈ m, d < 256) (n c : Nat) (hn : m.length = n) (C : Array Value) (hC : C = (bytesV m).toArray) : (convert 39 9 (.slice (some ⟨w.heap.size, 0, none⟩) n c)).run Tryd.prog (w.alloc (.cells C 5)) = .ok (.string (strOf m)) (w.alloc (.cells C 5)) := by
  subst hn hC
  exact conv_cells _ ⟨w.heap.size, 0, none⟩ c m h (fun j u hj => by rw [Addr.add_mid, Nat.zero_add]; exact (blk_new w 5 (bytesV m).toArray).cell (by simpa using hj))

set_option maxHeartbeats 1000000 in
set_option maxRecDepth 100000 in
theorem key_any (n : Nat) (hn : n < 41) (w : World) :
    Calls Tryd.prog 40 #[.int .i64 (n : Int)] w fun e w' => e = .returned (.string (keyM n)) ∧ Below w.heap.size w w' := by
  unfold keyM
  obtain ⟨a, ha⟩ : ∃ a, 97 + n / 3 = a := ⟨_, rfl⟩
  have ha2 : a < 256 := by omega
  have hq : 97 + (n : Int) / 3 = (a : Int) := by omega
  have hwa : IntKind.u8.wrap (a : Int) = (a : Int) := by simp [IntKind.wrap, IntKind.signed, IntKind.bits]; omega
  obtain ⟨b, hb⟩ : ∃ b, 97 + n % 3 = b := ⟨_, rfl⟩
  have hb2 : b < 256 := by omega
  have hqb : 97 + (n : Int) % 3 = (b : Int) := by omega
  have hwb : IntKind.u8.wrap (b : Int) = (b : Int) := by simp [IntKind.wrap, IntKind.signed, IntKind.bits]; omega
  rw [ha, hb]
  have hc1 := fun w0 : World => conv_new w0 [a] (by simpa using ha2) 1 1 rfl #[.int .u8 (a : Int)] rfl
  have hc2 := fun w0 : World => conv_new w0 [a, b] (by simpa using ⟨ha2, hb2⟩) 2 2 rfl #[.int .u8 (a : Int), .int .u8 (b : Int)] rfl
  go_enter Tryd.func40, Tryd.ntmps40
  by_cases h0 : n % 3 = 0
  · rw [if_pos h0]
    have h1 : ((n : Int) % 3 == 0) = true := by simp; omega
    go_wp2
    go_ret
    exact ⟨rfl, (Below.refl _ _).alloc (Nat.le_refl _) _⟩
  · rw [if_neg h0]
    have h1 : ((n : Int) % 3 == 0) = false := by simp; omega
    go_wp2
    go_ret
    exact ⟨rfl, (Below.refl _ _).alloc (Nat.le_refl _) _⟩

end Go.Proofs.YtfhfmdnimebegaaDoor

/-
  The reference's Has: the index of a key.
-/
namespace Go.Proofs.YtfhfmdnimebegaaDoor
open Go.RowKit
set_option linter.unusedVariables false
set_option linter.unusedSimpArgs false

/-- The index of the first leaf with a key; -1: there is none. -/
def hasM (ls : List Lf) (key : ByteArray) : Int := match ls.findIdx? (fun x => x.1.toList == key.toList) with
  | some i => (i : Int)
  | none => -1
def NoKey (ls : List Lf) (key : ByteArray) (k : Nat) : Prop := ∀ j x, j < k → ls[j]? = some x → (x.1.toList == key.toList) = false
theorem has_none {ls : List Lf} {key : ByteArray} {k : Nat} (h : NoKey ls key k) (hk : ls.length ≤ k) : hasM ls key = -1 := by
  have : ls.findIdx? (fun x => x.1.toList == key.toList) = none := by
    rw [List.findIdx?_eq_none_iff]
    intro x hx
    obtain ⟨j, hj⟩ := List.mem_iff_getElem?.1 hx
    have := (List.getElem?_eq_some_iff.1 hj).1
    exact h j x (by omega) hj
  unfold hasM
  rw [this]
theorem has_some {ls : List Lf} {key : ByteArray} {k : Nat} {x : Lf} (h : NoKey ls key k) (hx : ls[k]? = some x) (hk : (x.1.toList == key.toList) = true) : hasM ls key = (k : Int) := by
  have hlt := (List.getElem?_eq_some_iff.1 hx).1
  have : ls.findIdx? (fun x => x.1.toList == key.toList) = some k := by
    rw [List.findIdx?_eq_some_iff_getElem]
    refine ⟨hlt, ?_, ?_⟩
    · rw [List.getElem?_eq_getElem hlt] at hx
      injection hx with hx
      rw [hx]
      exact hk
    · intro j hj
      have := h j _ hj (List.getElem?_eq_getElem (by omega))
      simp [this]
  unfold hasM
  rw [this]

set_option maxHeartbeats 1000000 in
set_option maxRecDepth 100000 in
theorem has_any (ls : List Lf) (q : Option Addr) (n c : Nat) (hl : ls.length = n) (hn : n ≤ 1000000) (key : ByteArray) (w : World) (hL : OwnL w q ls) :
    Calls Tryd.prog 34 #[.slice q n c, .string key] w fun e w' => e = .returned (.int .i64 (hasM ls key)) ∧ Below w.heap.size w w' := by
  have HN := Lib.hid hl
  clear hl
  go_enter Tryd.func34, Tryd.ntmps34
  go_wp2
  go_loopw [5] (fun v wr => ∃ k : Nat, k ≤ n ∧ v = .int .i64 k ∧ NoKey ls key k ∧ Below w.heap.size w wr) (fun v _ => n - (intOf v).toNat)
  case atStart => exact ⟨0, by omega, rfl, fun j x h => by omega, Below.refl _ _⟩
  case round =>
    obtain ⟨k, hk, rfl, hF, hB⟩ := hrel
    by_cases hlt : k < n
    · obtain ⟨x, hx⟩ : ∃ x, ls[k]? = some x := ⟨_, List.getElem?_eq_getElem (by rw [HN.out]; exact hlt)⟩
      obtain ⟨b, off, rfl, hL2⟩ := hL (by intro h0; rw [h0] at hx; simp at hx)
      have h1 := (hB.cell hL2.1).trans (hL2.at hx).1
      rcases hs : (x.1.toList == key.toList) with _ | _
      · have hF2 : NoKey ls key (k + 1) := by
          intro j y hj hy
          rcases Nat.lt_or_ge j k with h | h
          · exact hF j y h hy
          · obtain rfl : j = k := by omega
            rw [hx] at hy
            injection hy with hy
            rw [← hy]
            exact hs
        have HF := Lib.hid hF2
        clear hx hF hF2 hL hL2
        go_wp2
        go_roundw
        case rel => exact ⟨k + 1, by omega, by go_num, HF.out, hB⟩
        case measure => simp [intOf]; omega
      · have hV := Lib.hid (has_some hF hx hs)
        clear hx hF hL hL2
        go_wp2
        go_ret
        exact ⟨by rw [hV.out]; rfl, hB⟩
    · have hV := Lib.hid (has_none hF (by rw [HN.out]; omega))
      go_wp2
      go_ret
      exact ⟨by rw [hV.out]; rfl, hB⟩

end Go.Proofs.YtfhfmdnimebegaaDoor

/-
  Slices of leaves of one's own; own and plain of the law.
-/
namespace Go.Proofs.YtfhfmdnimebegaaDoor
open Go.RowKit
set_option linter.unusedVariables false
set_option linter.unusedSimpArgs false

theorem leavesV_append : ∀ (a b : List Lf), leavesV (a ++ b) = leavesV a ++ leavesV b
  | [], b => rfl
  | x :: a, b => by simp only [leavesV, List.cons_append, leavesV_append a b]
theorem take_snoc {ls : List Lf} {k : Nat} {x : Lf} (hx : ls[k]? = some x) : ls.take (k + 1) = ls.take k ++ [x] := by rw [List.take_add_one, hx]; rfl
theorem MLinfo : (Tryd.prog.info? 41).map (fun i => (i.zero, i.size, i.bytes)) = some (some zeroLeaf, 2, 32) := by kernel_rfl
/-- A slice of leaves of one's own. -/
def OwnML (w : World) (B : Nat) (v : Value) (l : List Lf) : Prop := w.ownsRow B 41 2 v l.length (leavesV l)
theorem ML_nil (w : World) (B : Nat) : OwnML w B (.slice none 0 0) [] := World.ownsRow_nil _ _ _ _
theorem push_ML_wp {w : World} {B : Nat} {o : Oper} {a : Act} {K : Act → World → Prop} {Q : Exit → Act → World → Prop} (s x : Operand)
    (ho : o.op = .call { callee := .builtin .append, args := #[s, x], argTypes := #[33, 33] })
    (l : List Lf) (y : Lf) (v : Value) (hs : a.eval s = v) (hown : OwnML w B v l) (hB : B ≤ w.heap.size)
    (c : Nat) (hx : a.eval x = .slice (some ⟨w.heap.size, 0, none⟩) 1 c) (hl : l.length ≤ 1000000000)
    (h : ∀ v' w', OwnML w' B v' (l ++ [y]) → Below B w w' → v' ≠ .slice none 0 0 → K (a.put o.dst v') w') :
    o.wp Tryd.prog a (w.alloc (.cells #[.string y.1, .string y.2] 41)) K Q := by
  obtain ⟨i0, hi, hz0, hz1, hz2⟩ := info_parts MLinfo
  refine wp_append_own _ s x 33 ho B 41 i0 zeroLeaf 2 32 Tryd.underlying33 hi hz0 hz1 hz2 rfl (by decide) v l.length (leavesV l) hs (World.ownsRow.alloc hown _) ⟨w.heap.size, 0, none⟩ 1 c (leavesV [y]) hx (by rw [leavesV_length]; rfl) ?c1 ?c2 ?c3 ?c4 ?c5 ?_
  case c1 => intro j u hj; rw [Addr.add_mid, Nat.zero_add]; exact (blk_new w 41 #[.string y.1, .string y.2]).cell (by simpa [leavesV] using hj)
  case c2 => intro u hu; simp [leavesV] at hu; rcases hu with rfl | rfl <;> rfl
  case c3 => unfold maxLen; omega
  case c4 => omega
  case c5 => simp; omega
  intro v' w' hown' hgrow hne
  refine h v' w' ?_ (((Below.refl _ w).alloc (Nat.le_refl _) _ |>.mono hB).grown hgrow (by simp; omega) (fun j hj => (World.ownsRow.lt hown j hj).1)) (fun e => by have := (hne.1 e).2; omega)
  unfold OwnML
  rw [leavesV_append, List.length_append]
  exact hown'
theorem ML_lvs {w : World} {B : Nat} {v : Value} {l : List Lf} (h : OwnML w B v l) : LvsV w v l ∧ (l.length = 0 ∨ v ≠ .slice none 0 0) ∧ (v = .slice none 0 0 → l = []) := by
  by_cases hv : v = .slice none 0 0
  · subst hv
    have : l = [] := by
      rcases h.2 with ⟨_, h0⟩ | ⟨g, cap, cur, e, _⟩
      · exact List.eq_nil_of_length_eq_zero h0
      · cases e
    subst this
    exact ⟨LvsV.nil _, Or.inl rfl, fun _ => rfl⟩
  · obtain ⟨g, cap, rfl, _, hc, hL⟩ := lvs_of_row rfl h hv
    exact ⟨⟨some ⟨g, 0, none⟩, cap, rfl, hc, fun _ => ⟨g, 0, rfl, hL⟩⟩, Or.inr hv, fun e => absurd e hv⟩
theorem OwnML.keep {w w' : World} {B : Nat} {v : Value} {l : List Lf} (h : OwnML w B v l) (hb : Below w.heap.size w w') : OwnML w' B v l := own_row_keep h hb

theorem RLinfo : (Tryd.prog.info? 75).map (fun i => (i.zero, i.size, i.bytes)) = some (some zeroLeaf, 2, 32) := by kernel_rfl
/-- A slice of leaves of one's own. -/
def OwnRL (w : World) (B : Nat) (v : Value) (l : List Lf) : Prop := w.ownsRow B 75 2 v l.length (leavesV l)
theorem RL_nil (w : World) (B : Nat) : OwnRL w B (.slice none 0 0) [] := World.ownsRow_nil _ _ _ _
theorem push_RL_wp {w : World} {B : Nat} {o : Oper} {a : Act} {K : Act → World → Prop} {Q : Exit → Act → World → Prop} (s x : Operand)
    (ho : o.op = .call { callee := .builtin .append, args := #[s, x], argTypes := #[24, 24] })
    (l : List Lf) (y : Lf) (v : Value) (hs : a.eval s = v) (hown : OwnRL w B v l) (hB : B ≤ w.heap.size)
    (c : Nat) (hx : a.eval x = .slice (some ⟨w.heap.size, 0, none⟩) 1 c) (hl : l.length ≤ 1000000000)
    (h : ∀ v' w', OwnRL w' B v' (l ++ [y]) → Below B w w' → v' ≠ .slice none 0 0 → K (a.put o.dst v') w') :
    o.wp Tryd.prog a (w.alloc (.cells #[.string y.1, .string y.2] 75)) K Q := by
  obtain ⟨i0, hi, hz0, hz1, hz2⟩ := info_parts RLinfo
  refine wp_append_own _ s x 24 ho B 75 i0 zeroLeaf 2 32 Tryd.underlying24 hi hz0 hz1 hz2 rfl (by decide) v l.length (leavesV l) hs (World.ownsRow.alloc hown _) ⟨w.heap.size, 0, none⟩ 1 c (leavesV [y]) hx (by rw [leavesV_length]; rfl) ?c1 ?c2 ?c3 ?c4 ?c5 ?_
  case c1 => intro j u hj; rw [Addr.add_mid, Nat.zero_add]; exact (blk_new w 75 #[.string y.1, .string y.2]).cell (by simpa [leavesV] using hj)
  case c2 => intro u hu; simp [leavesV] at hu; rcases hu with rfl | rfl <;> rfl
  case c3 => unfold maxLen; omega
  case c4 => omega
  case c5 => simp; omega
  intro v' w' hown' hgrow hne
  refine h v' w' ?_ (((Below.refl _ w).alloc (Nat.le_refl _) _ |>.mono hB).grown hgrow (by simp; omega) (fun j hj => (World.ownsRow.lt hown j hj).1)) (fun e => by have := (hne.1 e).2; omega)
  unfold OwnRL
  rw [leavesV_append, List.length_append]
  exact hown'
theorem RL_lvs {w : World} {B : Nat} {v : Value} {l : List Lf} (h : OwnRL w B v l) : LvsV w v l ∧ (l.length = 0 ∨ v ≠ .slice none 0 0) ∧ (v = .slice none 0 0 → l = []) := by
  by_cases hv : v = .slice none 0 0
  · subst hv
    have : l = [] := by
      rcases h.2 with ⟨_, h0⟩ | ⟨g, cap, cur, e, _⟩
      · exact List.eq_nil_of_length_eq_zero h0
      · cases e
    subst this
    exact ⟨LvsV.nil _, Or.inl rfl, fun _ => rfl⟩
  · obtain ⟨g, cap, rfl, _, hc, hL⟩ := lvs_of_row rfl h hv
    exact ⟨⟨some ⟨g, 0, none⟩, cap, rfl, hc, fun _ => ⟨g, 0, rfl, hL⟩⟩, Or.inr hv, fun e => absurd e hv⟩
theorem OwnRL.keep {w w' : World} {B : Nat} {v : Value} {l : List Lf} (h : OwnRL w B v l) (hb : Below w.heap.size w w') : OwnRL w' B v l := own_row_keep h hb

set_option maxHeartbeats 2000000 in
set_option maxRecDepth 100000 in
/-- What own answers: leaves of one's own. -/
theorem own_any (ls : List Lf) (q : Option Addr) (n c : Nat) (hl : ls.length = n) (hn : n ≤ 1000000) (w : World) (hL : OwnL w q ls) :
    Calls Tryd.prog 12 #[.slice q n c] w fun e w' => ∃ v, e = .returned v ∧ OwnML w' w.heap.size v ls ∧ (ls = [] → v = .slice none 0 0) ∧ Below w.heap.size w w' := by
  have HN := Lib.hid hl
  clear hl
  go_enter Tryd.func12, Tryd.ntmps12
  go_wp2
  go_loopw [3, 4] (fun u v wr => ∃ k : Nat, k ≤ n ∧ v = .int .i64 k ∧ OwnML wr w.heap.size u (ls.take k) ∧ (k = 0 → u = .slice none 0 0) ∧ Below w.heap.size w wr) (fun _ v _ => n - (intOf v).toNat)
  case atStart => exact ⟨0, by omega, rfl, ML_nil _ _, fun _ => rfl, Below.refl _ _⟩
  case round =>
    obtain ⟨k, hk, rfl, hO, hz, hB⟩ := hrel
    by_cases hlt : k < n
    · clear hz
      obtain ⟨x, hx⟩ : ∃ x, ls[k]? = some x := ⟨_, List.getElem?_eq_getElem (by rw [HN.out]; exact hlt)⟩
      obtain ⟨b, off, rfl, hL2⟩ := hL (by intro h0; rw [h0] at hx; simp at hx)
      have hT := Lib.hid (take_snoc hx)
      have hlen : (ls.take k).length ≤ 1000000000 := by rw [List.length_take]; omega
      have hbw := hL2.1
      have h1 := (hL2.at hx).1
      have h2 := (hL2.at hx).2
      generalize ls.take k = pre at hO hT hlen
      clear hx hL hL2
      go_upto_region 5 with (fail)
      have hHeld : True := trivial
      refine wp_region_held_drew (S := fun w' => Below w.heap.size w w') (by kernel_rfl) (below_drew hB) (fun _ => ?_)
      have hHeld : Below w.heap.size w wr.drew := below_drew hB
      have CB : Below w.heap.size w wr.drew := below_drew hB
      have C0 : ∀ w', Below w.heap.size w w' → w'.cell? ⟨b, off + k * 2, none⟩ = some (.string x.1) := fun w' h => (h.cell hbw).trans h1
      have C1 : ∀ w', Below w.heap.size w w' → w'.cell? ⟨b, off + k * 2 + 1, none⟩ = some (.string x.2) := fun w' h => (h.cell hbw).trans h2
      replace hO : OwnML wr.drew w.heap.size u3 pre := hO
      clear h1 h2 hB
      generalize wr.drew = V0 at hHeld CB C0 C1 hO ⊢
      refine wt (i := 0) (oi := ⟨some 11, .move (.tmp 3), 33, "law.go:44", #[], none⟩) (v := u3) (Or.inl ⟨by rfl, fun w' hSw => by go_simp⟩) hHeld ?_
      try simp only [zP, zQ, zS, zZ, zC]
      refine wt (i := 1) (oi := ⟨some 12, .move (.tmp 0), 24, "law.go:44", #[], none⟩) (v := .slice (some ⟨b, off, none⟩) n c) (Or.inl ⟨by rfl, fun w' hSw => by go_simp⟩) hHeld ?_
      try simp only [zP, zQ, zS, zZ, zC]
      refine wt (i := 2) (oi := ⟨some 13, .move (.tmp 4), 3, "law.go:44", #[], none⟩) (v := .int .i64 (k : Int)) (Or.inl ⟨by rfl, fun w' hSw => by go_simp⟩) hHeld ?_
      try simp only [zP, zQ, zS, zZ, zC]
      refine wt (i := 3) (oi := ⟨some 14, .indexAddr 24 (.tmp 12) (.tmp 13), 0, "law.go:44", #[⟨1, .data⟩, ⟨2, .data⟩], none⟩) (v := .pointer (some ⟨b, off + k * 2, none⟩)) (Or.inl ⟨by rfl, fun w' hSw => by go_simp; try (intro hcm; exact absurd hcm (by omega))⟩) hHeld ?_
      try simp only [zP, zQ, zS, zZ, zC]
      refine wt (i := 4) (oi := ⟨some 15, .fieldAddr 75 (.tmp 14) 0, 0, "law.go:44", #[⟨3, .data⟩], none⟩) (v := .pointer (some ⟨b, off + k * 2, none⟩)) (Or.inl ⟨by rfl, fun w' hSw => by go_simp⟩) hHeld ?_
      try simp only [zP, zQ, zS, zZ, zC]
      refine wt (i := 5) (oi := ⟨some 16, .load 9 (.tmp 15), 9, "law.go:44", #[⟨4, .data⟩], none⟩) (v := .string x.1) (Or.inl ⟨by rfl, fun w' hSw => by have hc := C0 w' hSw; go_simp⟩) hHeld ?_
      try simp only [zP, zQ, zS, zZ, zC]
      refine wt (i := 6) (oi := ⟨some 17, .move (.tmp 0), 24, "law.go:44", #[], none⟩) (v := .slice (some ⟨b, off, none⟩) n c) (Or.inl ⟨by rfl, fun w' hSw => by go_simp⟩) hHeld ?_
      try simp only [zP, zQ, zS, zZ, zC]
      refine wt (i := 7) (oi := ⟨some 18, .move (.tmp 4), 3, "law.go:44", #[], none⟩) (v := .int .i64 (k : Int)) (Or.inl ⟨by rfl, fun w' hSw => by go_simp⟩) hHeld ?_
      try simp only [zP, zQ, zS, zZ, zC]
      refine wt (i := 8) (oi := ⟨some 19, .indexAddr 24 (.tmp 17) (.tmp 18), 0, "law.go:44", #[⟨6, .data⟩, ⟨7, .data⟩], none⟩) (v := .pointer (some ⟨b, off + k * 2, none⟩)) (Or.inl ⟨by rfl, fun w' hSw => by go_simp; try (intro hcm; exact absurd hcm (by omega))⟩) hHeld ?_
      try simp only [zP, zQ, zS, zZ, zC]
      refine wt (i := 9) (oi := ⟨some 20, .fieldAddr 75 (.tmp 19) 1, 0, "law.go:44", #[⟨8, .data⟩], none⟩) (v := .pointer (some ⟨b, off + k * 2 + 1, none⟩)) (Or.inl ⟨by rfl, fun w' hSw => by go_simp⟩) hHeld ?_
      try simp only [zP, zQ, zS, zZ, zC]
      refine wt (i := 10) (oi := ⟨some 21, .load 9 (.tmp 20), 9, "law.go:44", #[⟨9, .data⟩], none⟩) (v := .string x.2) (Or.inl ⟨by rfl, fun w' hSw => by have hc := C1 w' hSw; go_simp⟩) hHeld ?_
      try simp only [zP, zQ, zS, zZ, zC]
      refine wt (i := 11) (oi := ⟨some 22, .build 41 #[(0, .tmp 16), (1, .tmp 21)], 41, "law.go:44", #[⟨5, .data⟩, ⟨10, .data⟩], none⟩) (v := .agg #[.string x.1, .string x.2]) (Or.inl ⟨by rfl, fun w' hSw => by go_simp⟩) hHeld ?_
      try simp only [zP, zQ, zS, zZ, zC]
      refine wpAnyH_ready (rs := [12]) (by kernel_rfl) (by simp) ?_
      refine AllReadyH.cons (o := ⟨some 23, .buildSlice 33 1 #[(0, .tmp 22)], 33, "law.go:44", #[⟨11, .data⟩], none⟩) rfl (fun K hK => ?_) AllReadyH.nil
      rw [if_pos (by rfl)]
      go_simp
      refine hK.out _ _ (hHeld.alloc hHeld.size _) (fun hHeld => ?_)
      clear hK K
      try simp only [zP, zQ, zS, zZ, zC]
      refine wpAnyH_ready (rs := [13]) (by kernel_rfl) (by simp) ?_
      refine AllReadyH.cons (o := ⟨some 24, .call { callee := .builtin .append, args := #[.tmp 11, .tmp 23], argTypes := #[33, 33] }, 33, "law.go:44", #[⟨0, .data⟩, ⟨12, .data⟩], none⟩) rfl (fun K hK => ?_) AllReadyH.nil
      rw [if_pos (by rfl)]
      refine push_ML_wp (w := V0) (B := w.heap.size) (.tmp 11) (.tmp 23) rfl pre x _ rfl hO CB.size 1 rfl hlen ?_
      intro v2 w2 hO2 hg2 _
      have CB2 : Below w.heap.size w w2 := CB.trans hg2
      refine hK.out _ _ CB2 (fun hHeld => ?_)
      clear hK K C0 C1 hO hg2
      try simp only [zP, zQ, zS, zZ, zC]
      refine wpAnyH_ready (rs := [14]) (by kernel_rfl) (by simp) ?_
      refine AllReadyH.cons (o := ⟨some 3, .assign (.tmp 24), 33, "law.go:44", #[⟨13, .data⟩, ⟨13, .chain⟩, ⟨0, .phase⟩, ⟨1, .phase⟩, ⟨2, .phase⟩, ⟨3, .phase⟩, ⟨4, .phase⟩, ⟨5, .phase⟩, ⟨6, .phase⟩, ⟨7, .phase⟩, ⟨8, .phase⟩, ⟨9, .phase⟩, ⟨10, .phase⟩, ⟨11, .phase⟩, ⟨12, .phase⟩, ⟨13, .phase⟩], none⟩) rfl (fun K hK => ?_) AllReadyH.nil
      go_simp
      refine hK.out _ _ hHeld (fun hHeld => ?_)
      clear hK K hHeld CB
      try simp only [zP, zQ, zS, zZ, zC]
      refine wpAnyH_done (by kernel_rfl) ?_ _
      go_wp2
      go_roundw
      case rel => exact ⟨k + 1, by omega, by go_num, by rw [hT.out]; exact hO2, fun h => absurd h (by omega), CB2⟩
      case measure => simp [intOf]; omega
    · have he : ls.take k = ls := List.take_of_length_le (by rw [HN.out]; omega)
      rw [he] at hO
      clear he
      have hz2 := Lib.hid (show ls = [] → u3 = .slice none 0 0 from fun h => hz (by have := HN.out; rw [h] at this; simp at this; omega))
      clear hz
      go_wp2
      go_ret
      exact ⟨_, rfl, hO, hz2.out, hB⟩

set_option maxHeartbeats 2000000 in
set_option maxRecDepth 100000 in
/-- What plain answers: leaves of one's own. -/
theorem plain_any (ls : List Lf) (q : Option Addr) (n c : Nat) (hl : ls.length = n) (hn : n ≤ 1000000) (w : World) (hL : OwnL w q ls) :
    Calls Tryd.prog 17 #[.slice q n c] w fun e w' => ∃ v, e = .returned v ∧ OwnRL w' w.heap.size v ls ∧ (ls = [] → v = .slice none 0 0) ∧ Below w.heap.size w w' := by
  have HN := Lib.hid hl
  clear hl
  go_enter Tryd.func17, Tryd.ntmps17
  go_wp2
  go_loopw [3, 4] (fun u v wr => ∃ k : Nat, k ≤ n ∧ v = .int .i64 k ∧ OwnRL wr w.heap.size u (ls.take k) ∧ (k = 0 → u = .slice none 0 0) ∧ Below w.heap.size w wr) (fun _ v _ => n - (intOf v).toNat)
  case atStart => exact ⟨0, by omega, rfl, RL_nil _ _, fun _ => rfl, Below.refl _ _⟩
  case round =>
    obtain ⟨k, hk, rfl, hO, hz, hB⟩ := hrel
    by_cases hlt : k < n
    · clear hz
      obtain ⟨x, hx⟩ : ∃ x, ls[k]? = some x := ⟨_, List.getElem?_eq_getElem (by rw [HN.out]; exact hlt)⟩
      obtain ⟨b, off, rfl, hL2⟩ := hL (by intro h0; rw [h0] at hx; simp at hx)
      have hT := Lib.hid (take_snoc hx)
      have hlen : (ls.take k).length ≤ 1000000000 := by rw [List.length_take]; omega
      have hbw := hL2.1
      have h1 := (hL2.at hx).1
      have h2 := (hL2.at hx).2
      generalize ls.take k = pre at hO hT hlen
      clear hx hL hL2
      go_upto_region 5 with (fail)
      have hHeld : True := trivial
      refine wp_region_held_drew (S := fun w' => Below w.heap.size w w') (by kernel_rfl) (below_drew hB) (fun _ => ?_)
      have hHeld : Below w.heap.size w wr.drew := below_drew hB
      have CB : Below w.heap.size w wr.drew := below_drew hB
      have C0 : ∀ w', Below w.heap.size w w' → w'.cell? ⟨b, off + k * 2, none⟩ = some (.string x.1) := fun w' h => (h.cell hbw).trans h1
      have C1 : ∀ w', Below w.heap.size w w' → w'.cell? ⟨b, off + k * 2 + 1, none⟩ = some (.string x.2) := fun w' h => (h.cell hbw).trans h2
      replace hO : OwnRL wr.drew w.heap.size u3 pre := hO
      clear h1 h2 hB
      generalize wr.drew = V0 at hHeld CB C0 C1 hO ⊢
      refine wt (i := 0) (oi := ⟨some 11, .move (.tmp 3), 24, "law.go:53", #[], none⟩) (v := u3) (Or.inl ⟨by rfl, fun w' hSw => by go_simp⟩) hHeld ?_
      try simp only [zP, zQ, zS, zZ, zC]
      refine wt (i := 1) (oi := ⟨some 12, .move (.tmp 0), 33, "law.go:53", #[], none⟩) (v := .slice (some ⟨b, off, none⟩) n c) (Or.inl ⟨by rfl, fun w' hSw => by go_simp⟩) hHeld ?_
      try simp only [zP, zQ, zS, zZ, zC]
      refine wt (i := 2) (oi := ⟨some 13, .move (.tmp 4), 3, "law.go:53", #[], none⟩) (v := .int .i64 (k : Int)) (Or.inl ⟨by rfl, fun w' hSw => by go_simp⟩) hHeld ?_
      try simp only [zP, zQ, zS, zZ, zC]
      refine wt (i := 3) (oi := ⟨some 14, .indexAddr 33 (.tmp 12) (.tmp 13), 0, "law.go:53", #[⟨1, .data⟩, ⟨2, .data⟩], none⟩) (v := .pointer (some ⟨b, off + k * 2, none⟩)) (Or.inl ⟨by rfl, fun w' hSw => by go_simp; try (intro hcm; exact absurd hcm (by omega))⟩) hHeld ?_
      try simp only [zP, zQ, zS, zZ, zC]
      refine wt (i := 4) (oi := ⟨some 15, .fieldAddr 41 (.tmp 14) 0, 0, "law.go:53", #[⟨3, .data⟩], none⟩) (v := .pointer (some ⟨b, off + k * 2, none⟩)) (Or.inl ⟨by rfl, fun w' hSw => by go_simp⟩) hHeld ?_
      try simp only [zP, zQ, zS, zZ, zC]
      refine wt (i := 5) (oi := ⟨some 16, .load 9 (.tmp 15), 9, "law.go:53", #[⟨4, .data⟩], none⟩) (v := .string x.1) (Or.inl ⟨by rfl, fun w' hSw => by have hc := C0 w' hSw; go_simp⟩) hHeld ?_
      try simp only [zP, zQ, zS, zZ, zC]
      refine wt (i := 6) (oi := ⟨some 17, .move (.tmp 0), 33, "law.go:53", #[], none⟩) (v := .slice (some ⟨b, off, none⟩) n c) (Or.inl ⟨by rfl, fun w' hSw => by go_simp⟩) hHeld ?_
      try simp only [zP, zQ, zS, zZ, zC]
      refine wt (i := 7) (oi := ⟨some 18, .move (.tmp 4), 3, "law.go:53", #[], none⟩) (v := .int .i64 (k : Int)) (Or.inl ⟨by rfl, fun w' hSw => by go_simp⟩) hHeld ?_
      try simp only [zP, zQ, zS, zZ, zC]
      refine wt (i := 8) (oi := ⟨some 19, .indexAddr 33 (.tmp 17) (.tmp 18), 0, "law.go:53", #[⟨6, .data⟩, ⟨7, .data⟩], none⟩) (v := .pointer (some ⟨b, off + k * 2, none⟩)) (Or.inl ⟨by rfl, fun w' hSw => by go_simp; try (intro hcm; exact absurd hcm (by omega))⟩) hHeld ?_
      try simp only [zP, zQ, zS, zZ, zC]
      refine wt (i := 9) (oi := ⟨some 20, .fieldAddr 41 (.tmp 19) 1, 0, "law.go:53", #[⟨8, .data⟩], none⟩) (v := .pointer (some ⟨b, off + k * 2 + 1, none⟩)) (Or.inl ⟨by rfl, fun w' hSw => by go_simp⟩) hHeld ?_
      try simp only [zP, zQ, zS, zZ, zC]
      refine wt (i := 10) (oi := ⟨some 21, .load 9 (.tmp 20), 9, "law.go:53", #[⟨9, .data⟩], none⟩) (v := .string x.2) (Or.inl ⟨by rfl, fun w' hSw => by have hc := C1 w' hSw; go_simp⟩) hHeld ?_
      try simp only [zP, zQ, zS, zZ, zC]
      refine wt (i := 11) (oi := ⟨some 22, .build 75 #[(0, .tmp 16), (1, .tmp 21)], 75, "law.go:53", #[⟨5, .data⟩, ⟨10, .data⟩], none⟩) (v := .agg #[.string x.1, .string x.2]) (Or.inl ⟨by rfl, fun w' hSw => by go_simp⟩) hHeld ?_
      try simp only [zP, zQ, zS, zZ, zC]
      refine wpAnyH_ready (rs := [12]) (by kernel_rfl) (by simp) ?_
      refine AllReadyH.cons (o := ⟨some 23, .buildSlice 24 1 #[(0, .tmp 22)], 24, "law.go:53", #[⟨11, .data⟩], none⟩) rfl (fun K hK => ?_) AllReadyH.nil
      rw [if_pos (by rfl)]
      go_simp
      refine hK.out _ _ (hHeld.alloc hHeld.size _) (fun hHeld => ?_)
      clear hK K
      try simp only [zP, zQ, zS, zZ, zC]
      refine wpAnyH_ready (rs := [13]) (by kernel_rfl) (by simp) ?_
      refine AllReadyH.cons (o := ⟨some 24, .call { callee := .builtin .append, args := #[.tmp 11, .tmp 23], argTypes := #[24, 24] }, 24, "law.go:53", #[⟨0, .data⟩, ⟨12, .data⟩], none⟩) rfl (fun K hK => ?_) AllReadyH.nil
      rw [if_pos (by rfl)]
      refine push_RL_wp (w := V0) (B := w.heap.size) (.tmp 11) (.tmp 23) rfl pre x _ rfl hO CB.size 1 rfl hlen ?_
      intro v2 w2 hO2 hg2 _
      have CB2 : Below w.heap.size w w2 := CB.trans hg2
      refine hK.out _ _ CB2 (fun hHeld => ?_)
      clear hK K C0 C1 hO hg2
      try simp only [zP, zQ, zS, zZ, zC]
      refine wpAnyH_ready (rs := [14]) (by kernel_rfl) (by simp) ?_
      refine AllReadyH.cons (o := ⟨some 3, .assign (.tmp 24), 24, "law.go:53", #[⟨13, .data⟩, ⟨13, .chain⟩, ⟨0, .phase⟩, ⟨1, .phase⟩, ⟨2, .phase⟩, ⟨3, .phase⟩, ⟨4, .phase⟩, ⟨5, .phase⟩, ⟨6, .phase⟩, ⟨7, .phase⟩, ⟨8, .phase⟩, ⟨9, .phase⟩, ⟨10, .phase⟩, ⟨11, .phase⟩, ⟨12, .phase⟩, ⟨13, .phase⟩], none⟩) rfl (fun K hK => ?_) AllReadyH.nil
      go_simp
      refine hK.out _ _ hHeld (fun hHeld => ?_)
      clear hK K hHeld CB
      try simp only [zP, zQ, zS, zZ, zC]
      refine wpAnyH_done (by kernel_rfl) ?_ _
      go_wp2
      go_roundw
      case rel => exact ⟨k + 1, by omega, by go_num, by rw [hT.out]; exact hO2, fun h => absurd h (by omega), CB2⟩
      case measure => simp [intOf]; omega
    · have he : ls.take k = ls := List.take_of_length_le (by rw [HN.out]; omega)
      rw [he] at hO
      clear he
      have hz2 := Lib.hid (show ls = [] → u3 = .slice none 0 0 from fun h => hz (by have := HN.out; rw [h] at this; simp at this; omega))
      clear hz
      go_wp2
      go_ret
      exact ⟨_, rfl, hO, hz2.out, hB⟩

end Go.Proofs.YtfhfmdnimebegaaDoor

/-
  The reference's SameLeaves and Inside.
-/
namespace Go.Proofs.YtfhfmdnimebegaaDoor
open Go.RowKit
set_option linter.unusedVariables false
set_option linter.unusedSimpArgs false

def SameTo (a b : List Lf) (k : Nat) : Prop := ∀ j x y, j < k → a[j]? = some x → b[j]? = some y → x = y
theorem same_all {a b : List Lf} {k : Nat} (h : SameTo a b k) (hl : a.length = b.length) (hk : a.length ≤ k) : a = b := by
  apply List.ext_getElem? 
  intro j
  by_cases hj : j < a.length
  · have hx : a[j]? = some (a[j]'hj) := List.getElem?_eq_getElem hj
    have hy : b[j]? = some (b[j]'(by omega)) := List.getElem?_eq_getElem (by omega)
    rw [hx, hy, h j _ _ (by omega) hx hy]
  · rw [List.getElem?_eq_none (by omega), List.getElem?_eq_none (by omega)]
theorem SameTo.step {a b : List Lf} {k : Nat} {x y : Lf} (h : SameTo a b k) (hx : a[k]? = some x) (hy : b[k]? = some y) (e1 : x.1 = y.1) (e2 : x.2 = y.2) : SameTo a b (k + 1) := by
  intro j u v hj hu hv
  rcases Nat.lt_or_ge j k with h1 | h1
  · exact h j u v h1 hu hv
  · obtain rfl : j = k := by omega
    rw [hx] at hu
    rw [hy] at hv
    injection hu with hu
    injection hv with hv
    rw [← hu, ← hv]
    exact Prod.ext e1 e2
theorem list_eq {x y : ByteArray} (h : (x.toList == y.toList) = true) : x = y := by
  have h2 : x.toList = y.toList := by simpa using h
  rw [ByteArray.toList_eq, ByteArray.toList_eq] at h2
  exact ByteArray.ext (Array.ext' h2)

set_option maxHeartbeats 2000000 in
set_option maxRecDepth 100000 in
theorem sameLeaves_any (la lb : List Lf) (qa qb : Option Addr) (n c m d : Nat) (hla : la.length = n) (hlb : lb.length = m) (hn : n ≤ 1000000) (hm : m ≤ 1000000) (w : World) (hA : OwnL w qa la) (hB0 : OwnL w qb lb) :
    Calls Tryd.prog 33 #[.slice qa n c, .slice qb m d] w fun e w' => e = .returned (.bool (decide (la = lb))) ∧ Below w.heap.size w w' := by
  have HN := Lib.hid hla
  have HM := Lib.hid hlb
  by_cases hnm : n = m
  · subst hnm
    clear hla hlb
    go_enter Tryd.func33, Tryd.ntmps33
    go_wp2
    go_loopw [5] (fun v wr => ∃ k : Nat, k ≤ n ∧ v = .int .i64 k ∧ SameTo la lb k ∧ Below w.heap.size w wr) (fun v _ => n - (intOf v).toNat)
    case atStart => exact ⟨0, by omega, rfl, fun j x y h => by omega, Below.refl _ _⟩
    case round =>
      obtain ⟨k, hk, rfl, hF, hB⟩ := hrel
      by_cases hlt : k < n
      · obtain ⟨x, hx⟩ : ∃ x, la[k]? = some x := ⟨_, List.getElem?_eq_getElem (by rw [HN.out]; exact hlt)⟩
        obtain ⟨y, hy⟩ : ∃ y, lb[k]? = some y := ⟨_, List.getElem?_eq_getElem (by rw [HM.out]; exact hlt)⟩
        obtain ⟨b, off, rfl, hL2⟩ := hA (by intro h0; rw [h0] at hx; simp at hx)
        obtain ⟨g, o2, rfl, hM2⟩ := hB0 (by intro h0; rw [h0] at hy; simp at hy)
        have hbw := hL2.1
        have hgw := hM2.1
        have h1 := (hL2.at hx).1
        have h2 := (hL2.at hx).2
        have h3 := (hM2.at hy).1
        have h4 := (hM2.at hy).2
        have HY := Lib.hid (fun (e1 : x.1 = y.1) (e2 : x.2 = y.2) => hF.step hx hy e1 e2)
        have HZ := Lib.hid (show ¬ (x.1 = y.1 ∧ x.2 = y.2) → la ≠ lb from fun h e => h (by rw [e, hy] at hx; injection hx with hx; rw [hx]; exact ⟨rfl, rfl⟩))
        clear hx hy hA hB0 hL2 hM2 hF
        go_upto_region 6 with (fail)
        have hHeld : True := trivial
        refine wp_region_held_drew (S := fun w' => Below w.heap.size w w') (by kernel_rfl) (below_drew hB) (fun _ => ?_)
        have hHeld : Below w.heap.size w wr.drew := below_drew hB
        have CB : Below w.heap.size w wr.drew := below_drew hB
        have C0 : ∀ w', Below w.heap.size w w' → w'.cell? ⟨b, off + k * 2, none⟩ = some (.string x.1) := fun w' h => (h.cell hbw).trans h1
        have C1 : ∀ w', Below w.heap.size w w' → w'.cell? ⟨b, off + k * 2 + 1, none⟩ = some (.string x.2) := fun w' h => (h.cell hbw).trans h2
        have C2 : ∀ w', Below w.heap.size w w' → w'.cell? ⟨g, o2 + k * 2, none⟩ = some (.string y.1) := fun w' h => (h.cell hgw).trans h3
        have C3 : ∀ w', Below w.heap.size w w' → w'.cell? ⟨g, o2 + k * 2 + 1, none⟩ = some (.string y.2) := fun w' h => (h.cell hgw).trans h4
        clear h1 h2 h3 h4 hB
        generalize wr.drew = V0 at hHeld CB ⊢
        refine wt (i := 0) (oi := ⟨some 17, .move (.tmp 0), 24, "ref.go:296", #[], none⟩) (v := .slice (some ⟨b, off, none⟩) n c) (Or.inl ⟨by rfl, fun w' hSw => by go_simp⟩) hHeld ?_
        try simp only [zP, zQ, zS, zZ, zC]
        refine wt (i := 1) (oi := ⟨some 18, .move (.tmp 5), 3, "ref.go:296", #[], none⟩) (v := .int .i64 (k : Int)) (Or.inl ⟨by rfl, fun w' hSw => by go_simp⟩) hHeld ?_
        try simp only [zP, zQ, zS, zZ, zC]
        refine wt (i := 2) (oi := ⟨some 19, .indexAddr 24 (.tmp 17) (.tmp 18), 0, "ref.go:296", #[⟨0, .data⟩, ⟨1, .data⟩], none⟩) (v := .pointer (some ⟨b, off + k * 2, none⟩)) (Or.inl ⟨by rfl, fun w' hSw => by go_simp; try (intro hcm; exact absurd hcm (by omega))⟩) hHeld ?_
        try simp only [zP, zQ, zS, zZ, zC]
        refine wt (i := 3) (oi := ⟨some 20, .fieldAddr 75 (.tmp 19) 0, 0, "ref.go:296", #[⟨2, .data⟩], none⟩) (v := .pointer (some ⟨b, off + k * 2, none⟩)) (Or.inl ⟨by rfl, fun w' hSw => by go_simp⟩) hHeld ?_
        try simp only [zP, zQ, zS, zZ, zC]
        refine wt (i := 4) (oi := ⟨some 21, .load 9 (.tmp 20), 9, "ref.go:296", #[⟨3, .data⟩], none⟩) (v := .string x.1) (Or.inl ⟨by rfl, fun w' hSw => by have hc := C0 w' hSw; go_simp⟩) hHeld ?_
        try simp only [zP, zQ, zS, zZ, zC]
        refine wt (i := 5) (oi := ⟨some 22, .move (.tmp 1), 24, "ref.go:296", #[], none⟩) (v := .slice (some ⟨g, o2, none⟩) n d) (Or.inl ⟨by rfl, fun w' hSw => by go_simp⟩) hHeld ?_
        try simp only [zP, zQ, zS, zZ, zC]
        refine wt (i := 6) (oi := ⟨some 23, .move (.tmp 5), 3, "ref.go:296", #[], none⟩) (v := .int .i64 (k : Int)) (Or.inl ⟨by rfl, fun w' hSw => by go_simp⟩) hHeld ?_
        try simp only [zP, zQ, zS, zZ, zC]
        refine wt (i := 7) (oi := ⟨some 24, .indexAddr 24 (.tmp 22) (.tmp 23), 0, "ref.go:296", #[⟨5, .data⟩, ⟨6, .data⟩], none⟩) (v := .pointer (some ⟨g, o2 + k * 2, none⟩)) (Or.inl ⟨by rfl, fun w' hSw => by go_simp; try (intro hcm; exact absurd hcm (by omega))⟩) hHeld ?_
        try simp only [zP, zQ, zS, zZ, zC]
        refine wt (i := 8) (oi := ⟨some 25, .fieldAddr 75 (.tmp 24) 0, 0, "ref.go:296", #[⟨7, .data⟩], none⟩) (v := .pointer (some ⟨g, o2 + k * 2, none⟩)) (Or.inl ⟨by rfl, fun w' hSw => by go_simp⟩) hHeld ?_
        try simp only [zP, zQ, zS, zZ, zC]
        refine wt (i := 9) (oi := ⟨some 26, .load 9 (.tmp 25), 9, "ref.go:296", #[⟨8, .data⟩], none⟩) (v := .string y.1) (Or.inl ⟨by rfl, fun w' hSw => by have hc := C2 w' hSw; go_simp⟩) hHeld ?_
        try simp only [zP, zQ, zS, zZ, zC]
        rcases hs : (x.1.toList == y.1.toList) with _ | _
        · have hs2 : (x.1.toList != y.1.toList) = true := by rw [bne, hs]; rfl
          have HE := Lib.hid (HZ.out (fun h => by rw [h.1] at hs; simp at hs))
          refine wt (i := 10) (oi := ⟨some 27, .binOp .neq 9 (.tmp 21) (.tmp 26) 9, 4, "ref.go:296", #[⟨4, .data⟩, ⟨9, .data⟩], none⟩) (v := .bool true) (Or.inl ⟨by rfl, fun w' hSw => by go_simp⟩) hHeld ?_
          try simp only [zP, zQ, zS, zZ, zC]
          refine wt (i := 11) (oi := ⟨some 28, .move (.tmp 27), 4, "ref.go:296", #[⟨10, .data⟩], none⟩) (v := .bool true) (Or.inl ⟨by rfl, fun w' hSw => by go_simp⟩) hHeld ?_
          try simp only [zP, zQ, zS, zZ, zC]
          refine wt (i := 12) (oi := ⟨some 29, .move (.tmp 0), 24, "ref.go:296", #[⟨11, .guard⟩], some (11, false)⟩) (v := undef) (Or.inr ⟨by rfl, rfl⟩) hHeld ?_
          try simp only [zP, zQ, zS, zZ, zC]
          refine wt (i := 13) (oi := ⟨some 30, .move (.tmp 5), 3, "ref.go:296", #[⟨11, .guard⟩], some (11, false)⟩) (v := undef) (Or.inr ⟨by rfl, rfl⟩) hHeld ?_
          try simp only [zP, zQ, zS, zZ, zC]
          refine wt (i := 14) (oi := ⟨some 31, .indexAddr 24 (.tmp 29) (.tmp 30), 0, "ref.go:296", #[⟨12, .data⟩, ⟨13, .data⟩, ⟨11, .guard⟩], some (11, false)⟩) (v := undef) (Or.inr ⟨by rfl, rfl⟩) hHeld ?_
          try simp only [zP, zQ, zS, zZ, zC]
          refine wt (i := 15) (oi := ⟨some 32, .fieldAddr 75 (.tmp 31) 1, 0, "ref.go:296", #[⟨14, .data⟩, ⟨11, .guard⟩], some (11, false)⟩) (v := undef) (Or.inr ⟨by rfl, rfl⟩) hHeld ?_
          try simp only [zP, zQ, zS, zZ, zC]
          refine wt (i := 16) (oi := ⟨some 33, .load 9 (.tmp 32), 9, "ref.go:296", #[⟨15, .data⟩, ⟨11, .guard⟩], some (11, false)⟩) (v := undef) (Or.inr ⟨by rfl, rfl⟩) hHeld ?_
          try simp only [zP, zQ, zS, zZ, zC]
          refine wt (i := 17) (oi := ⟨some 34, .move (.tmp 1), 24, "ref.go:296", #[⟨11, .guard⟩], some (11, false)⟩) (v := undef) (Or.inr ⟨by rfl, rfl⟩) hHeld ?_
          try simp only [zP, zQ, zS, zZ, zC]
          refine wt (i := 18) (oi := ⟨some 35, .move (.tmp 5), 3, "ref.go:296", #[⟨11, .guard⟩], some (11, false)⟩) (v := undef) (Or.inr ⟨by rfl, rfl⟩) hHeld ?_
          try simp only [zP, zQ, zS, zZ, zC]
          refine wt (i := 19) (oi := ⟨some 36, .indexAddr 24 (.tmp 34) (.tmp 35), 0, "ref.go:296", #[⟨17, .data⟩, ⟨18, .data⟩, ⟨11, .guard⟩], some (11, false)⟩) (v := undef) (Or.inr ⟨by rfl, rfl⟩) hHeld ?_
          try simp only [zP, zQ, zS, zZ, zC]
          refine wt (i := 20) (oi := ⟨some 37, .fieldAddr 75 (.tmp 36) 1, 0, "ref.go:296", #[⟨19, .data⟩, ⟨11, .guard⟩], some (11, false)⟩) (v := undef) (Or.inr ⟨by rfl, rfl⟩) hHeld ?_
          try simp only [zP, zQ, zS, zZ, zC]
          refine wt (i := 21) (oi := ⟨some 38, .load 9 (.tmp 37), 9, "ref.go:296", #[⟨20, .data⟩, ⟨11, .guard⟩], some (11, false)⟩) (v := undef) (Or.inr ⟨by rfl, rfl⟩) hHeld ?_
          try simp only [zP, zQ, zS, zZ, zC]
          refine wt (i := 22) (oi := ⟨some 39, .binOp .neq 9 (.tmp 33) (.tmp 38) 9, 4, "ref.go:296", #[⟨16, .data⟩, ⟨21, .data⟩, ⟨11, .guard⟩], some (11, false)⟩) (v := undef) (Or.inr ⟨by rfl, rfl⟩) hHeld ?_
          try simp only [zP, zQ, zS, zZ, zC]
          refine wt (i := 23) (oi := ⟨some 40, .pick (.tmp 28) (.const (Value.bool true)) (.tmp 39), 4, "ref.go:296", #[⟨11, .data⟩, ⟨22, .data⟩], none⟩) (v := .bool true) (Or.inl ⟨by rfl, fun w' hSw => by go_simp⟩) hHeld ?_
          try simp only [zP, zQ, zS, zZ, zC]
          refine wpAnyH_done (by kernel_rfl) ?_ _
          clear hHeld
          go_wp2
          go_ret
          exact ⟨by rw [decide_eq_false HE.out]; rfl, CB⟩
        · have hs2 : (x.1.toList != y.1.toList) = false := by rw [bne, hs]; rfl
          refine wt (i := 10) (oi := ⟨some 27, .binOp .neq 9 (.tmp 21) (.tmp 26) 9, 4, "ref.go:296", #[⟨4, .data⟩, ⟨9, .data⟩], none⟩) (v := .bool false) (Or.inl ⟨by rfl, fun w' hSw => by go_simp⟩) hHeld ?_
          try simp only [zP, zQ, zS, zZ, zC]
          refine wt (i := 11) (oi := ⟨some 28, .move (.tmp 27), 4, "ref.go:296", #[⟨10, .data⟩], none⟩) (v := .bool false) (Or.inl ⟨by rfl, fun w' hSw => by go_simp⟩) hHeld ?_
          try simp only [zP, zQ, zS, zZ, zC]
          refine wt (i := 12) (oi := ⟨some 29, .move (.tmp 0), 24, "ref.go:296", #[⟨11, .guard⟩], some (11, false)⟩) (v := .slice (some ⟨b, off, none⟩) n c) (Or.inl ⟨by rfl, fun w' hSw => by go_simp⟩) hHeld ?_
          try simp only [zP, zQ, zS, zZ, zC]
          refine wt (i := 13) (oi := ⟨some 30, .move (.tmp 5), 3, "ref.go:296", #[⟨11, .guard⟩], some (11, false)⟩) (v := .int .i64 (k : Int)) (Or.inl ⟨by rfl, fun w' hSw => by go_simp⟩) hHeld ?_
          try simp only [zP, zQ, zS, zZ, zC]
          refine wt (i := 14) (oi := ⟨some 31, .indexAddr 24 (.tmp 29) (.tmp 30), 0, "ref.go:296", #[⟨12, .data⟩, ⟨13, .data⟩, ⟨11, .guard⟩], some (11, false)⟩) (v := .pointer (some ⟨b, off + k * 2, none⟩)) (Or.inl ⟨by rfl, fun w' hSw => by go_simp; try (intro hcm; exact absurd hcm (by omega))⟩) hHeld ?_
          try simp only [zP, zQ, zS, zZ, zC]
          refine wt (i := 15) (oi := ⟨some 32, .fieldAddr 75 (.tmp 31) 1, 0, "ref.go:296", #[⟨14, .data⟩, ⟨11, .guard⟩], some (11, false)⟩) (v := .pointer (some ⟨b, off + k * 2 + 1, none⟩)) (Or.inl ⟨by rfl, fun w' hSw => by go_simp⟩) hHeld ?_
          try simp only [zP, zQ, zS, zZ, zC]
          refine wt (i := 16) (oi := ⟨some 33, .load 9 (.tmp 32), 9, "ref.go:296", #[⟨15, .data⟩, ⟨11, .guard⟩], some (11, false)⟩) (v := .string x.2) (Or.inl ⟨by rfl, fun w' hSw => by have hc := C1 w' hSw; go_simp⟩) hHeld ?_
          try simp only [zP, zQ, zS, zZ, zC]
          refine wt (i := 17) (oi := ⟨some 34, .move (.tmp 1), 24, "ref.go:296", #[⟨11, .guard⟩], some (11, false)⟩) (v := .slice (some ⟨g, o2, none⟩) n d) (Or.inl ⟨by rfl, fun w' hSw => by go_simp⟩) hHeld ?_
          try simp only [zP, zQ, zS, zZ, zC]
          refine wt (i := 18) (oi := ⟨some 35, .move (.tmp 5), 3, "ref.go:296", #[⟨11, .guard⟩], some (11, false)⟩) (v := .int .i64 (k : Int)) (Or.inl ⟨by rfl, fun w' hSw => by go_simp⟩) hHeld ?_
          try simp only [zP, zQ, zS, zZ, zC]
          refine wt (i := 19) (oi := ⟨some 36, .indexAddr 24 (.tmp 34) (.tmp 35), 0, "ref.go:296", #[⟨17, .data⟩, ⟨18, .data⟩, ⟨11, .guard⟩], some (11, false)⟩) (v := .pointer (some ⟨g, o2 + k * 2, none⟩)) (Or.inl ⟨by rfl, fun w' hSw => by go_simp; try (intro hcm; exact absurd hcm (by omega))⟩) hHeld ?_
          try simp only [zP, zQ, zS, zZ, zC]
          refine wt (i := 20) (oi := ⟨some 37, .fieldAddr 75 (.tmp 36) 1, 0, "ref.go:296", #[⟨19, .data⟩, ⟨11, .guard⟩], some (11, false)⟩) (v := .pointer (some ⟨g, o2 + k * 2 + 1, none⟩)) (Or.inl ⟨by rfl, fun w' hSw => by go_simp⟩) hHeld ?_
          try simp only [zP, zQ, zS, zZ, zC]
          refine wt (i := 21) (oi := ⟨some 38, .load 9 (.tmp 37), 9, "ref.go:296", #[⟨20, .data⟩, ⟨11, .guard⟩], some (11, false)⟩) (v := .string y.2) (Or.inl ⟨by rfl, fun w' hSw => by have hc := C3 w' hSw; go_simp⟩) hHeld ?_
          try simp only [zP, zQ, zS, zZ, zC]
          rcases ht : (x.2.toList == y.2.toList) with _ | _
          · have ht2 : (x.2.toList != y.2.toList) = true := by rw [bne, ht]; rfl
            have HE := Lib.hid (HZ.out (fun h => by rw [h.2] at ht; simp at ht))
            refine wt (i := 22) (oi := ⟨some 39, .binOp .neq 9 (.tmp 33) (.tmp 38) 9, 4, "ref.go:296", #[⟨16, .data⟩, ⟨21, .data⟩, ⟨11, .guard⟩], some (11, false)⟩) (v := .bool true) (Or.inl ⟨by rfl, fun w' hSw => by go_simp⟩) hHeld ?_
            try simp only [zP, zQ, zS, zZ, zC]
            refine wt (i := 23) (oi := ⟨some 40, .pick (.tmp 28) (.const (Value.bool true)) (.tmp 39), 4, "ref.go:296", #[⟨11, .data⟩, ⟨22, .data⟩], none⟩) (v := .bool true) (Or.inl ⟨by rfl, fun w' hSw => by go_simp⟩) hHeld ?_
            try simp only [zP, zQ, zS, zZ, zC]
            refine wpAnyH_done (by kernel_rfl) ?_ _
            clear hHeld
            go_wp2
            go_ret
            exact ⟨by rw [decide_eq_false HE.out]; rfl, CB⟩
          · have ht2 : (x.2.toList != y.2.toList) = false := by rw [bne, ht]; rfl
            have HE := Lib.hid (HY.out (list_eq hs) (list_eq ht))
            refine wt (i := 22) (oi := ⟨some 39, .binOp .neq 9 (.tmp 33) (.tmp 38) 9, 4, "ref.go:296", #[⟨16, .data⟩, ⟨21, .data⟩, ⟨11, .guard⟩], some (11, false)⟩) (v := .bool false) (Or.inl ⟨by rfl, fun w' hSw => by go_simp⟩) hHeld ?_
            try simp only [zP, zQ, zS, zZ, zC]
            refine wt (i := 23) (oi := ⟨some 40, .pick (.tmp 28) (.const (Value.bool true)) (.tmp 39), 4, "ref.go:296", #[⟨11, .data⟩, ⟨22, .data⟩], none⟩) (v := .bool false) (Or.inl ⟨by rfl, fun w' hSw => by go_simp⟩) hHeld ?_
            try simp only [zP, zQ, zS, zZ, zC]
            refine wpAnyH_done (by kernel_rfl) ?_ _
            clear hHeld
            go_wp2
            go_roundw
            case rel => exact ⟨k + 1, by omega, by go_num, HE.out, CB⟩
            case measure => simp [intOf]; omega
      · have he := Lib.hid (same_all hF (by rw [HN.out, HM.out]) (by rw [HN.out]; omega))
        go_wp2
        go_ret
        exact ⟨by rw [decide_eq_true he.out]; rfl, hB⟩
  · have hne : la ≠ lb := fun e => hnm (by rw [← hla, ← hlb, e])
    clear hla hlb HN HM hA hB0
    have h1 : ((n : Int) != (m : Int)) = true := by simp; omega
    go_enter Tryd.func33, Tryd.ntmps33
    go_wp2
    go_ret
    exact ⟨by rw [decide_eq_false hne]; rfl, Below.refl _ _⟩

end Go.Proofs.YtfhfmdnimebegaaDoor

/-
  The reference's Inside.
-/
namespace Go.Proofs.YtfhfmdnimebegaaDoor
open Go.RowKit
set_option linter.unusedVariables false
set_option linter.unusedSimpArgs false

theorem push_RLs {w : World} {B : Nat} {ops : Array Oper} {rest : List Oper} {o : Oper} {a : Act} {Q : Exit → Act → World → Prop} (hgd : o.guard = none) (s x : Operand)
    (ho : o.op = .call { callee := .builtin .append, args := #[s, x], argTypes := #[24, 24] })
    (l : List Lf) (y : Lf) (v : Value) (hs : a.eval s = v) (hown : OwnRL w B v l) (hB : B ≤ w.heap.size)
    (c : Nat) (hx : a.eval x = .slice (some ⟨w.heap.size, 0, none⟩) 1 c) (hl : l.length ≤ 1000000000)
    (h : ∀ v' w', OwnRL w' B v' (l ++ [y]) → Below B w w' → wpList Tryd.prog ops Q rest (a.put o.dst v') w') :
    wpList Tryd.prog ops Q (o :: rest) a (w.alloc (.cells #[.string y.1, .string y.2] 75)) := by
  obtain ⟨i0, hi, hz0, hz1, hz2⟩ := info_parts RLinfo
  refine wpList_append_own _ hgd s x 24 ho B 75 i0 zeroLeaf 2 32 Tryd.underlying24 hi hz0 hz1 hz2 rfl (by decide) v l.length (leavesV l) hs (World.ownsRow.alloc hown _) ⟨w.heap.size, 0, none⟩ 1 c (leavesV [y]) hx (by rw [leavesV_length]; rfl) ?c1 ?c2 ?c3 ?c4 ?c5 ?_
  case c1 => intro j u hj; rw [Addr.add_mid, Nat.zero_add]; exact (blk_new w 75 #[.string y.1, .string y.2]).cell (by simpa [leavesV] using hj)
  case c2 => intro u hu; simp [leavesV] at hu; rcases hu with rfl | rfl <;> rfl
  case c3 => unfold maxLen; omega
  case c4 => omega
  case c5 => simp; omega
  intro v' w' hown' hgrow hne
  refine h v' w' ?_ (((Below.refl _ w).alloc (Nat.le_refl _) _ |>.mono hB).grown hgrow (by simp; omega) (fun j hj => (World.ownsRow.lt hown j hj).1))
  unfold OwnRL
  rw [leavesV_append, List.length_append]
  exact hown'
/-- The leaves of a range of keys. -/
def insideM (ls : List Lf) (low hik : ByteArray) : List Lf := ls.filter (fun x => !sless x.1 low && sless x.1 hik)
theorem inside_step {ls : List Lf} {k : Nat} {x : Lf} {low hik : ByteArray} (hx : ls[k]? = some x) : insideM (ls.take (k + 1)) low hik = insideM (ls.take k) low hik ++ (if (!sless x.1 low && sless x.1 hik) = true then [x] else []) := by
  unfold insideM
  rw [take_snoc hx, List.filter_append]
  congr 1
  rw [List.filter_cons]
  rfl

set_option maxHeartbeats 2000000 in
set_option maxRecDepth 100000 in
theorem inside_any (ls : List Lf) (q : Option Addr) (n c : Nat) (hl : ls.length = n) (hn : n ≤ 1000000) (low hik : ByteArray) (w : World) (hL : OwnL w q ls) :
    Calls Tryd.prog 35 #[.slice q n c, .string low, .string hik] w fun e w' => ∃ v, e = .returned v ∧ OwnRL w' w.heap.size v (insideM ls low hik) ∧ Below w.heap.size w w' := by
  have HN := Lib.hid hl
  have hsz : ∀ k, (insideM (ls.take k) low hik).length ≤ 1000000 := fun k => by
    have h1 := List.length_filter_le (fun x : Lf => !sless x.1 low && sless x.1 hik) (ls.take k)
    have h2 : (ls.take k).length ≤ ls.length := by rw [List.length_take]; omega
    unfold insideM
    omega
  clear hl
  go_enter Tryd.func35, Tryd.ntmps35
  go_wp2
  go_loopw [7, 8] (fun u v wr => ∃ k : Nat, k ≤ n ∧ v = .int .i64 k ∧ OwnRL wr w.heap.size u (insideM (ls.take k) low hik) ∧ Below w.heap.size w wr) (fun _ v _ => n - (intOf v).toNat)
  case atStart => exact ⟨0, by omega, rfl, RL_nil _ _, Below.refl _ _⟩
  case round =>
    obtain ⟨k, hk, rfl, hO, hB⟩ := hrel
    by_cases hlt : k < n
    · obtain ⟨x, hx⟩ : ∃ x, ls[k]? = some x := ⟨_, List.getElem?_eq_getElem (by rw [HN.out]; exact hlt)⟩
      obtain ⟨b, off, rfl, hL2⟩ := hL (by intro h0; rw [h0] at hx; simp at hx)
      have hT := inside_step (low := low) (hik := hik) hx
      have hlen := hsz k
      have h1 := (hB.cell hL2.1).trans (hL2.at hx).1
      have h2 := (hB.cell hL2.1).trans (hL2.at hx).2
      generalize insideM (ls.take k) low hik = pre at hO hT hlen
      clear hx hL hL2
      unfold sless at hT
      have key : Op.bytesLess x.1.toList low.toList = true ∨ (Op.bytesLess x.1.toList low.toList = false ∧ Op.bytesLess x.1.toList hik.toList = false) ∨ (Op.bytesLess x.1.toList low.toList = false ∧ Op.bytesLess x.1.toList hik.toList = true) := by
        rcases Op.bytesLess x.1.toList low.toList with _ | _ <;> rcases Op.bytesLess x.1.toList hik.toList with _ | _ <;> simp
      rcases key with e1 | ⟨e1, e2⟩ | ⟨e1, e2⟩
      · have HT := Lib.hid (show insideM (ls.take (k + 1)) low hik = pre by rw [hT, e1]; simp)
        clear hT
        go_wp2
        go_roundw
        case rel => exact ⟨k + 1, by omega, by go_num, by rw [HT.out]; exact hO, hB⟩
        case measure => simp [intOf]; omega
      · have HT := Lib.hid (show insideM (ls.take (k + 1)) low hik = pre by rw [hT, e1, e2]; simp)
        clear hT
        go_wp2
        go_roundw
        case rel => exact ⟨k + 1, by omega, by go_num, by rw [HT.out]; exact hO, hB⟩
        case measure => simp [intOf]; omega
      · have HT := Lib.hid (show insideM (ls.take (k + 1)) low hik = pre ++ [x] by rw [hT, e1, e2]; simp)
        clear hT
        go_wp2_with (at_builtin; refine push_RLs (w := wr) (B := w.heap.size) rfl (.tmp 31) (.tmp 36) rfl pre x _ rfl hO hB.size 1 rfl (by omega) ?_; intro v2 w2 hO2 hg2)
        have CB2 : Below w.heap.size w w2 := hB.trans hg2
        go_roundw
        case rel => exact ⟨k + 1, by omega, by go_num, by rw [HT.out]; exact hO2, CB2⟩
        case measure => simp [intOf]; omega
    · have he : ls.take k = ls := List.take_of_length_le (by rw [HN.out]; omega)
      rw [he] at hO
      clear he
      go_wp2
      go_ret
      exact ⟨_, rfl, hO, hB⟩

end Go.Proofs.YtfhfmdnimebegaaDoor

/-
  Plain mathematics: what Prove and Range return is accepted, and says what the leaves say.
-/
namespace Go.Proofs.YtfhfmdnimebegaaDoor
set_option linter.unusedVariables false
set_option linter.unusedSimpArgs false

theorem part_get (ls : List Lf) (F e t : Nat) (h : t < e - F) : ((ls.drop F).take (e - F))[t]? = ls[F + t]? := by
  rw [List.getElem?_take, if_pos h, List.getElem?_drop]
theorem pred_part (ls : List Lf) (F e t : Nat) (key : ByteArray) (h : t < e - F) : pred ((ls.drop F).take (e - F)) key t = pred ls key (F + t) := by
  unfold pred
  rw [part_get ls F e t h]
theorem from_part (ls : List Lf) (key : ByteArray) (ho : ordered ls = true) : Part (pred ls key) ls.length (fromM ls key) (fromM ls key) := by
  refine ⟨fun t ht => ?_, fun t h1 h2 => ?_⟩
  · have hlt : t < ls.length := Nat.lt_of_lt_of_le ht (fromM_le ls key)
    unfold pred
    rw [List.getElem?_eq_getElem hlt]
    exact List.not_of_lt_findIdx ht
  · have hi : fromM ls key < ls.length := by omega
    refine pred_mono ho (Nat.le_refl _) (fromM ls key) t h1 h2 ?_
    unfold pred
    rw [List.getElem?_eq_getElem hi]
    exact List.findIdx_getElem (w := hi)
theorem from_of_part (ls : List Lf) (F e : Nat) (key : ByteArray) (ho : ordered ls = true) (he : e ≤ ls.length) (h1 : F ≤ fromM ls key) (h2 : fromM ls key ≤ e) : fromM ((ls.drop F).take (e - F)) key = fromM ls key - F := by
  have hlen : ((ls.drop F).take (e - F)).length = e - F := by rw [List.length_take, List.length_drop]; omega
  have hP := from_part ls key ho
  symm
  refine fromM_part (by rw [hlen]; omega) ⟨fun t ht => ?_, fun t g1 g2 => ?_⟩
  · rw [pred_part ls F e t key (by omega)]
    exact hP.1 _ (by omega)
  · rw [hlen] at g2
    rw [pred_part ls F e t key g2]
    exact hP.2 _ (by omega) (by omega)
theorem keyAt_part (ls : List Lf) (F e t : Nat) (key : ByteArray) (h : t < e - F) : keyAt ((ls.drop F).take (e - F)) t key = keyAt ls (F + t) key := by
  unfold keyAt
  rw [part_get ls F e t h]
theorem valAt_part (ls : List Lf) (F e t : Nat) (h : t < e - F) : valAt ((ls.drop F).take (e - F)) t = valAt ls (F + t) := by
  unfold valAt
  rw [part_get ls F e t h]
theorem keyAt_end {ls : List Lf} {i : Nat} {key : ByteArray} (h : ls.length ≤ i) : keyAt ls i key = false := by
  unfold keyAt
  rw [List.getElem?_eq_none h]
theorem sless_irr (a : ByteArray) : sless a a = false := by
  rw [sless_eq, decide_eq_false_iff_not]
  exact List.lt_irrefl _
theorem eq_of_list {x y : ByteArray} (h : (x.toList == y.toList) = true) : x.toList = y.toList := by simpa using h
theorem sless_ne {x key : ByteArray} (h : sless x key = true) : (x.toList == key.toList) = false := by
  rcases hx : (x.toList == key.toList) with _ | _
  · rfl
  · have e := eq_of_list hx
    rw [sless_eq, e, ← sless_eq, sless_irr] at h
    cases h
theorem sless_tri {x key : ByteArray} (h1 : sless x key = false) (h2 : (x.toList == key.toList) = false) : sless key x = true := by
  rw [sless_eq, decide_eq_false_iff_not] at h1
  rw [sless_eq, decide_eq_true_eq]
  rcases List.le_iff_lt_or_eq.1 (List.not_lt.1 h1) with h | h
  · exact h
  · rw [h] at h2
    simp at h2
theorem pred_false {ls : List Lf} {key : ByteArray} {t : Nat} {x : Lf} (hx : ls[t]? = some x) (h : pred ls key t = false) : sless x.1 key = true := by
  unfold pred at h
  rw [hx] at h
  simpa using h
theorem pred_true {ls : List Lf} {key : ByteArray} {t : Nat} {x : Lf} (hx : ls[t]? = some x) (h : pred ls key t = true) : sless x.1 key = false := by
  unfold pred at h
  rw [hx] at h
  simpa using h
theorem has_at (ls : List Lf) (key : ByteArray) (ho : ordered ls = true) (h : keyAt ls (fromM ls key) key = true) : hasM ls key = (fromM ls key : Nat) := by
  have hlt := keyAt_lt h
  have hP := from_part ls key ho
  have hx : ls[fromM ls key]? = some ls[fromM ls key] := List.getElem?_eq_getElem hlt
  refine has_some (fun j y hj hy => sless_ne (pred_false hy (hP.1 j hj))) hx ?_
  unfold keyAt at h
  rw [hx] at h
  exact h
theorem has_not (ls : List Lf) (key : ByteArray) (ho : ordered ls = true) (h : ¬ keyAt ls (fromM ls key) key = true) : hasM ls key = -1 := by
  have hP := from_part ls key ho
  refine has_none (k := ls.length) (fun j y hj hy => ?_) (Nat.le_refl _)
  rcases Nat.lt_or_ge j (fromM ls key) with h1 | h1
  · exact sless_ne (pred_false hy (hP.1 j h1))
  · have hi : fromM ls key < ls.length := by omega
    have hx : ls[fromM ls key]? = some ls[fromM ls key] := List.getElem?_eq_getElem hi
    have hk : ((ls[fromM ls key]'hi).1.toList == key.toList) = false := by
      unfold keyAt at h
      rw [hx] at h
      simpa using h
    rcases Nat.eq_or_lt_of_le h1 with h2 | h2
    · rw [← h2, hx] at hy
      injection hy with hy
      rw [← hy]
      exact hk
    · have h3 := sless_tri (pred_true hx (hP.2 _ (Nat.le_refl _) hi)) hk
      have h4 := sless_trans h3 (ord_lt ls _ j _ y ho hx hy h2)
      rcases he : (y.1.toList == key.toList) with _ | _
      · rfl
      · have e := eq_of_list he
        rw [sless_eq, e, ← sless_eq, sless_irr] at h4
        cases h4

/-- The proof of a range as checkM takes it. -/
theorem accepted (ls : List Lf) (hv : validM ls = 0) (F e : Nat) (hR : Rng ls.length F e) : underM (rootL ls) F ls.length ((ls.drop F).take (e - F)) (sidesM ls F e 0 ls.length) = true := by
  rcases hR with ⟨h0, rfl, rfl⟩ | ⟨h1, h2⟩
  · obtain rfl := List.eq_nil_of_length_eq_zero h0
    exact under_nil
  · exact under_of ls hv F e h2 h1
/-- What Check answers to Prove. -/
def Right (ls : List Lf) (key : ByteArray) (a : ByteArray × Bool × Int) : Prop := a.2.2 = 0 ∧ ((a.2.1 = true ∧ 0 ≤ hasM ls key ∧ a.1 = valAt ls (hasM ls key).toNat) ∨ (a.2.1 = false ∧ hasM ls key = -1 ∧ a.1 = ByteArray.empty))
theorem check_right (ls : List Lf) (hv : validM ls = 0) (key : ByteArray) : Right ls key (checkM (rootL ls) key (proveR ls key).1 ls.length ((ls.drop (proveR ls key).1).take ((proveR ls key).2 - (proveR ls key).1)) (sidesM ls (proveR ls key).1 (proveR ls key).2 0 ls.length)) := by
  obtain ⟨_, _, ho⟩ := valid_zero hv
  have hacc := accepted ls hv _ _ (proveR_ok ls key)
  have hlen : ((ls.drop (proveR ls key).1).take ((proveR ls key).2 - (proveR ls key).1)).length = (proveR ls key).2 - (proveR ls key).1 := by
    have := proveR_ok ls key
    unfold Rng at this
    rw [List.length_take, List.length_drop]
    omega
  unfold checkM
  rw [if_pos hacc, hlen]
  have hfl := fromM_le ls key
  by_cases hk : keyAt ls (fromM ls key) key = true
  · have hlt := keyAt_lt hk
    have hp : proveR ls key = (fromM ls key, fromM ls key + 1) := by unfold proveR; rw [if_pos hk]
    rw [hp]
    dsimp only
    have hf := from_of_part ls (fromM ls key) (fromM ls key + 1) key ho hlt (Nat.le_refl _) (Nat.le_succ _)
    rw [hf, Nat.sub_self, if_pos (by rw [keyAt_part ls _ _ _ _ (by omega)]; exact hk)]
    refine ⟨rfl, Or.inl ⟨rfl, ?_, ?_⟩⟩
    · rw [has_at ls key ho hk]; omega
    · rw [has_at ls key ho hk]
      dsimp only
      rw [valAt_part ls _ _ _ (by omega)]
      simp
  · have hp : proveR ls key = (fromM ls key - 1, min (fromM ls key + 1) ls.length) := by unfold proveR; rw [if_neg hk]
    rw [hp]
    dsimp only
    have hn := has_not ls key ho hk
    rcases Nat.eq_zero_or_pos ls.length with h0 | h0
    · obtain rfl := List.eq_nil_of_length_eq_zero h0
      exact ⟨rfl, Or.inr ⟨rfl, hn, rfl⟩⟩
    · have hf := from_of_part ls (fromM ls key - 1) (min (fromM ls key + 1) ls.length) key ho (Nat.min_le_right _ _) (by omega) (by omega)
      rw [hf]
      have hkp : ¬ keyAt ((ls.drop (fromM ls key - 1)).take (min (fromM ls key + 1) ls.length - (fromM ls key - 1))) (fromM ls key - (fromM ls key - 1)) key = true := by
        rcases Nat.lt_or_ge (fromM ls key) ls.length with h1 | h1
        · rw [keyAt_part ls _ _ _ _ (by omega), show fromM ls key - 1 + (fromM ls key - (fromM ls key - 1)) = fromM ls key by omega]
          exact hk
        · rw [keyAt_end (by rw [List.length_take, List.length_drop]; omega)]
          simp
      have hab : absentM ((fromM ls key - 1 : Nat) : Int).toNat (ls.length : Int).toNat (min (fromM ls key + 1) ls.length - (fromM ls key - 1)) (fromM ls key - (fromM ls key - 1)) = true := by
        unfold absentM
        simp only [Int.toNat_natCast]
        rw [Bool.or_eq_true, Bool.and_eq_true, Bool.or_eq_true, Bool.or_eq_true]
        right
        simp only [decide_eq_true_eq]
        omega
      rw [if_neg hkp, if_pos hab]
      exact ⟨rfl, Or.inr ⟨rfl, hn, rfl⟩⟩

theorem filter_mid (P : Lf → Bool) (ls : List Lf) (i j : Nat) (hij : i ≤ j) (h1 : ∀ t x, t < i → ls[t]? = some x → P x = false) (h2 : ∀ t x, i ≤ t → t < j → ls[t]? = some x → P x = true) (h3 : ∀ t x, j ≤ t → ls[t]? = some x → P x = false) : ls.filter P = (ls.drop i).take (j - i) := by
  have e : ls = ls.take i ++ ((ls.drop i).take (j - i) ++ ls.drop j) := by
    conv => lhs; rw [← List.take_append_drop i ls]
    congr 1
    conv => lhs; rw [← List.take_append_drop (j - i) (ls.drop i)]
    rw [List.drop_drop, show i + (j - i) = j by omega]
  conv => lhs; rw [e]
  rw [List.filter_append, List.filter_append]
  have f1 : (ls.take i).filter P = [] := by
    rw [List.filter_eq_nil_iff]
    intro x hx
    obtain ⟨t, ht⟩ := List.mem_iff_getElem?.1 hx
    have hlt := (List.getElem?_eq_some_iff.1 ht).1
    rw [List.length_take] at hlt
    rw [List.getElem?_take, if_pos (by omega)] at ht
    simp [h1 t x (by omega) ht]
  have f2 : ((ls.drop i).take (j - i)).filter P = (ls.drop i).take (j - i) := by
    rw [List.filter_eq_self]
    intro x hx
    obtain ⟨t, ht⟩ := List.mem_iff_getElem?.1 hx
    have hlt := (List.getElem?_eq_some_iff.1 ht).1
    rw [List.length_take] at hlt
    rw [List.getElem?_take, if_pos (by omega), List.getElem?_drop] at ht
    exact h2 (i + t) x (by omega) (by omega) ht
  have f3 : (ls.drop j).filter P = [] := by
    rw [List.filter_eq_nil_iff]
    intro x hx
    obtain ⟨t, ht⟩ := List.mem_iff_getElem?.1 hx
    rw [List.getElem?_drop] at ht
    simp [h3 (j + t) x (by omega) ht]
  rw [f1, f2, f3, List.nil_append, List.append_nil]
theorem inside_cut (ls : List Lf) (low hik : ByteArray) (ho : ordered ls = true) (h : sless hik low = false) : insideM ls low hik = (ls.drop (fromM ls low)).take (fromM ls hik - fromM ls low) := by
  have hL := from_part ls low ho
  have hH := from_part ls hik ho
  refine filter_mid _ ls _ _ (from_mono low hik h ls) (fun t x ht hx => ?_) (fun t x h1 h2 hx => ?_) (fun t x h1 hx => ?_)
  · rw [pred_false hx (hL.1 t ht)]; rfl
  · have hlt := (List.getElem?_eq_some_iff.1 hx).1
    rw [pred_true hx (hL.2 t h1 hlt), pred_false hx (hH.1 t h2)]; rfl
  · have hlt := (List.getElem?_eq_some_iff.1 hx).1
    rw [pred_true hx (hH.2 t h1 hlt)]; simp
theorem crange_right (ls : List Lf) (hv : validM ls = 0) (low hik : ByteArray) (h : sless hik low = false) : crangeM (rootL ls) low hik (rangeR ls low hik).1 ls.length ((ls.drop (rangeR ls low hik).1).take ((rangeR ls low hik).2 - (rangeR ls low hik).1)) (sidesM ls (rangeR ls low hik).1 (rangeR ls low hik).2 0 ls.length) = (insideM ls low hik, 0) := by
  obtain ⟨_, _, ho⟩ := valid_zero hv
  have hacc := accepted ls hv _ _ (rangeR_ok ls low hik h)
  have hlen : ((ls.drop (rangeR ls low hik).1).take ((rangeR ls low hik).2 - (rangeR ls low hik).1)).length = (rangeR ls low hik).2 - (rangeR ls low hik).1 := by
    have := rangeR_ok ls low hik h
    unfold Rng at this
    rw [List.length_take, List.length_drop]
    omega
  unfold crangeM
  rw [if_neg (by rw [h]; simp), if_pos hacc]
  have h1 := fromM_le ls low
  have h2 := fromM_le ls hik
  have h3 := from_mono low hik h ls
  have hL := from_part ls low ho
  have hH := from_part ls hik ho
  rcases Nat.eq_zero_or_pos ls.length with h0 | h0
  · obtain rfl := List.eq_nil_of_length_eq_zero h0
    rfl
  · have hout : outR low hik ((rangeR ls low hik).1 : Int).toNat (ls.length : Int).toNat ((ls.drop (rangeR ls low hik).1).take ((rangeR ls low hik).2 - (rangeR ls low hik).1)) = false := by
      unfold outR
      rw [hlen]
      simp only [Int.toNat_natCast]
      unfold rangeR
      dsimp only
      rw [Bool.or_eq_false_iff]
      constructor
      · rcases Nat.eq_zero_or_pos (fromM ls low - 1) with hF | hF
        · simp [hF]
        · have hlt : fromM ls low - 1 < ls.length := by omega
          have hx : ls[fromM ls low - 1]? = some ls[fromM ls low - 1] := List.getElem?_eq_getElem hlt
          have hk : kAt ((ls.drop (fromM ls low - 1)).take (min (fromM ls hik + 1) ls.length - (fromM ls low - 1))) 0 = (ls[fromM ls low - 1]).1 := by
            unfold kAt
            rw [part_get ls _ _ _ (by omega), Nat.add_zero, hx]
          rw [hk, pred_false hx (hL.1 _ (by omega))]
          simp
      · rcases Nat.lt_or_ge (fromM ls hik) ls.length with hi | hi
        · have hx : ls[fromM ls hik]? = some ls[fromM ls hik] := List.getElem?_eq_getElem hi
          have hk : kAt ((ls.drop (fromM ls low - 1)).take (min (fromM ls hik + 1) ls.length - (fromM ls low - 1))) (min (fromM ls hik + 1) ls.length - (fromM ls low - 1) - 1) = (ls[fromM ls hik]).1 := by
            unfold kAt
            rw [part_get ls _ _ _ (by omega), show fromM ls low - 1 + (min (fromM ls hik + 1) ls.length - (fromM ls low - 1) - 1) = fromM ls hik by omega, hx]
          rw [hk, pred_true hx (hH.2 _ (Nat.le_refl _) hi)]
          simp
        · rw [decide_eq_false (by omega)]
          rfl
    rw [if_neg (by rw [hout]; simp)]
    have hf1 := from_of_part ls (rangeR ls low hik).1 (rangeR ls low hik).2 low ho (by unfold rangeR; dsimp only; omega) (by unfold rangeR; dsimp only; omega) (by unfold rangeR; dsimp only; omega)
    have hf2 := from_of_part ls (rangeR ls low hik).1 (rangeR ls low hik).2 hik ho (by unfold rangeR; dsimp only; omega) (by unfold rangeR; dsimp only; omega) (by unfold rangeR; dsimp only; omega)
    rw [hf1, hf2, inside_cut ls low hik ho h, List.drop_take, List.drop_drop, List.take_take]
    have e1 : (rangeR ls low hik).1 = fromM ls low - 1 := rfl
    have e2 : (rangeR ls low hik).2 = min (fromM ls hik + 1) ls.length := rfl
    rw [e1, e2, show fromM ls low - 1 + (fromM ls low - (fromM ls low - 1)) = fromM ls low by omega]
    rw [show min (fromM ls hik - (fromM ls low - 1) - (fromM ls low - (fromM ls low - 1))) (min (fromM ls hik + 1) ls.length - (fromM ls low - 1) - (fromM ls low - (fromM ls low - 1))) = fromM ls hik - fromM ls low by omega]
theorem sides_few (ls : List Lf) (F e : Nat) (h : ls.length ≤ 11) : (sidesM ls F e 0 ls.length).length ≤ 11 := by
  rcases Nat.eq_zero_or_pos ls.length with h0 | h0
  · rw [h0]
    simp [sidesM, sidesF]
  · have := sides_len ls F e 0 ls.length h0
    omega

end Go.Proofs.YtfhfmdnimebegaaDoor

/-
  The reference's Leaves: some valid leaves.
-/
namespace Go.Proofs.YtfhfmdnimebegaaDoor
open Go.RowKit
set_option linter.unusedVariables false
set_option linter.unusedSimpArgs false

theorem ordered_snoc : ∀ (l : List Lf) (x : Lf), ordered l = true → (∀ y ∈ l, sless y.1 x.1 = true) → ordered (l ++ [x]) = true
  | [], x, _, _ => rfl
  | [y], x, _, h => by
    show (sless y.1 x.1 && ordered [x]) = true
    rw [h y (by simp)]
    rfl
  | y :: z :: r, x, ho, h => by
    have ih := ordered_snoc (z :: r) x (ord_tail ho) (fun u hu => h u (by simp [hu]))
    simp only [List.cons_append] at ih ⊢
    unfold ordered at ho ⊢
    rw [Bool.and_eq_true] at ho ⊢
    exact ⟨ho.1, ih⟩
/-- Leaves with keys made of numbers less than a, in order. -/
def Good (l : List Lf) (a : Nat) : Prop := ordered l = true ∧ l.all fits = true ∧ ∀ x ∈ l, ∃ j, j < a ∧ x.1 = keyM j
theorem good_nil : Good [] 0 := ⟨rfl, rfl, fun x h => by cases h⟩
theorem Good.snoc {l : List Lf} {a b : Nat} {s : ByteArray} (h : Good l a) (hab : a ≤ b) (hb : b < 41) (hs : s.size ≤ 3) : Good (l ++ [(keyM b, s)]) (b + 1) := by
  refine ⟨ordered_snoc l _ h.1 (fun y hy => ?_), ?_, fun x hx => ?_⟩
  · obtain ⟨j, hj, e⟩ := h.2.2 y hy
    rw [e]
    exact key_less j (by omega) b hb (by omega)
  · rw [List.all_append, h.2.1]
    have := key_size b
    simp [fits]
    omega
  · rcases List.mem_append.1 hx with hx | hx
    · obtain ⟨j, hj, e⟩ := h.2.2 x hx
      exact ⟨j, by omega, e⟩
    · rw [List.mem_singleton.1 hx]
      exact ⟨b, by omega, rfl⟩
theorem Good.valid {l : List Lf} {a : Nat} (h : Good l a) (hl : l.length ≤ 11) : validM l = 0 := by
  unfold validM
  rw [if_neg (by omega), if_pos h.2.1, if_pos h.1]
abbrev vals5 : List Value := [.string ⟨#[]⟩, .string ⟨#[49]⟩, .string ⟨#[50]⟩, .string ⟨#[97, 32, 98]⟩, .string ⟨#[49, 50]⟩]
theorem lit_new (w : World) : Below w.heap.size w (w.alloc (.cells vals5.toArray 9)) ∧ Blk (w.alloc (.cells vals5.toArray 9)) w.heap.size 9 vals5 := ⟨(Below.refl _ _).alloc (Nat.le_refl _) _, blk_new w _ _⟩
theorem vals_at (r : Nat) (h : r < 5) : ∃ s : ByteArray, vals5[r]? = some (.string s) ∧ s.size ≤ 3 := by
  match r, h with
  | 0, _ => exact ⟨_, rfl, by decide⟩
  | 1, _ => exact ⟨_, rfl, by decide⟩
  | 2, _ => exact ⟨_, rfl, by decide⟩
  | 3, _ => exact ⟨_, rfl, by decide⟩
  | 4, _ => exact ⟨_, rfl, by decide⟩
/-- What Leaves answers. -/
def SomeLeaves (w : World) (e : Ending) (w' : World) : Prop := ∃ v ls, e = .returned v ∧ OwnRL w' w.heap.size v ls ∧ validM ls = 0 ∧ ls.length ≤ 11 ∧ Below w.heap.size w w'
/-- What Leaves answers; no leaves are the slice nil. -/
def SomeLeaves2 (w : World) (e : Ending) (w' : World) : Prop := ∃ v ls, e = .returned v ∧ OwnRL w' w.heap.size v ls ∧ validM ls = 0 ∧ ls.length ≤ 11 ∧ Below w.heap.size w w' ∧ (ls = [] → v = .slice none 0 0)
def LRel (w : World) (u3 u4 u5 : Value) (wr : World) : Prop := ∃ (k a : Nat) (z : Int) (pre : List Lf), k ≤ 11 ∧ u5 = .int .i64 (k : Int) ∧ u4 = .int .i64 z ∧ z + 1 = (a : Int) ∧ a ≤ 3 * k ∧ OwnRL wr w.heap.size u3 pre ∧ Good pre a ∧ pre.length = k ∧ Below w.heap.size w wr ∧ (k = 0 → u3 = .slice none 0 0)

set_option maxHeartbeats 4000000 in
set_option maxRecDepth 100000 in
theorem leaves_any2 (A : Option Addr) (l : List Int) (n c : Nat) (hl : l.length = n) (w : World) (hA : IntsAt w A l) :
    Calls Tryd.prog 9 #[.slice A n c] w (SomeLeaves2 w) := by
  have H3 := Lib.hid (fun (p : Nat) (V : World) (hB : Below w.heap.size w V) => at_any A l n c hl p 3 (by omega) (by omega) V (hA.keep hB))
  have H5 := Lib.hid (fun (p : Nat) (V : World) (hB : Below w.heap.size w V) => at_any A l n c hl p 5 (by omega) (by omega) V (hA.keep hB))
  clear hl hA
  go_enter Tryd.func9, Tryd.ntmps9
  go_wp2
  go_loopw [3, 4, 5] (fun u3 u4 u5 wr => LRel w u3 u4 u5 wr) (fun _ _ v _ => 11 - (intOf v).toNat)
  case atStart => exact ⟨0, 0, -1, [], by omega, rfl, rfl, by omega, by omega, RL_nil _ _, good_nil, rfl, Below.refl _ _, fun _ => rfl⟩
  case round =>
    obtain ⟨k, a, z, pre, hk, rfl, rfl, hz, ha, hO, hGd, hpl, hB, hnil⟩ := hrel
    replace hnil := Lib.hid hnil
    obtain ⟨p, hp⟩ : ∃ p, 2 * k = p := ⟨_, rfl⟩
    have hpi : 2 * (k : Int) = (p : Int) := by omega
    have hp22 : p ≤ 22 := by omega
    have hzb : z ≤ 40 := by omega
    have hzc : -1 ≤ z := by omega
    have hplb : pre.length ≤ 1000000000 := by omega
    by_cases hlt : p < n ∧ k < 11
    · obtain ⟨hlt, hk11⟩ := hlt
      have HPL := Lib.hid hpl
      have HGd := Lib.hid hGd
      have HP := Lib.hid hp
      clear hpl hGd hp
      obtain ⟨p1, hp1⟩ : ∃ p1, p + 1 = p1 := ⟨_, rfl⟩
      have hpi1 : (p : Int) + 1 = (p1 : Int) := by omega
      have HP1 := Lib.hid hp1
      clear hp1
      go_upto_region 7 with (go_at_call 39; refine (H3.out p _ hB).mono ?_; rintro e w1 ⟨r, hr, rfl, hw1⟩; rw [hw1])
      obtain ⟨b, hb⟩ : ∃ b, a + r = b := ⟨_, rfl⟩
      have hbi : (a : Int) + (r : Int) = (b : Int) := by omega
      have hb41 : b < 41 := by omega
      have hb3 : b + 1 ≤ 3 * (k + 1) := by omega
      have hab : a ≤ b := by omega
      rw [hbi]
      clear hb hbi hz hw1 w1 hr
      go_wp2_with (first
        | (go_at_call 40; refine (key_any b hb41 _).mono ?_; rintro en w2 ⟨rfl, hBk⟩; have CB2 : Below w.heap.size w w2 := hB.trans (hBk.mono hB.size); replace hO := hO.keep hBk)
        | (go_at_call 39; go_loud (obtain ⟨XA, Kt⟩ := lit_new w2; have CB3 := CB2.trans (XA.mono CB2.size); replace hO := hO.keep XA; generalize World.alloc w2 (.cells vals5.toArray 9) = V9 at XA Kt CB3 hO ⊢; refine (H5.out p1 _ CB3).mono ?_; rintro en w3 ⟨r5, hr5, rfl, hw3⟩; rw [hw3]; clear hw3; obtain ⟨s5, hs5, hz5⟩ := vals_at r5 hr5; have hr5i : (r5 : Int) < 5 := Int.ofNat_lt.2 hr5; have hc5 := Kt.cell (j := r5) (v := .string s5) hs5))
        | (at_builtin; refine push_RLs (w := V9) (B := w.heap.size) rfl (.tmp 24) (.tmp 36) rfl pre (keyM b, s5) _ rfl hO CB3.size 1 rfl hplb ?_; intro v4 w4 hO4 hg4))
      have CB4 : Below w.heap.size w w4 := CB3.trans hg4
      go_roundw
      case rel => exact ⟨k + 1, b + 1, b, _, by omega, by go_num, rfl, by omega, hb3, hO4, HGd.out.snoc hab hb41 hz5, by rw [List.length_append, HPL.out]; rfl, CB4, fun h => absurd h (by omega)⟩
      case measure => simp [intOf]; omega
    · have key : ¬ p < n ∨ (p < n ∧ ¬ k < 11) := by omega
      have hV := Lib.hid (hGd.valid (by omega))
      have hle : pre.length ≤ 11 := by omega
      have HZ := Lib.hid (fun (h : pre = []) => hnil.out (by rw [h] at hpl; simp at hpl; omega))
      clear hlt hGd hpl hp hnil
      rcases key with h1 | ⟨h1, h2⟩
      · go_wp2
        go_ret
        exact ⟨_, _, rfl, hO, hV.out, hle, hB, HZ.out⟩
      · go_wp2
        go_ret
        exact ⟨_, _, rfl, hO, hV.out, hle, hB, HZ.out⟩

theorem leaves_any (A : Option Addr) (l : List Int) (n c : Nat) (hl : l.length = n) (w : World) (hA : IntsAt w A l) :
    Calls Tryd.prog 9 #[.slice A n c] w (SomeLeaves w) := by
  refine (leaves_any2 A l n c hl w hA).mono ?_
  rintro e w' ⟨v, ls, h1, h2, h3, h4, h5, _⟩
  exact ⟨v, ls, h1, h2, h3, h4, h5⟩

end Go.Proofs.YtfhfmdnimebegaaDoor

/-
  The law's key: some string.
-/
namespace Go.Proofs.YtfhfmdnimebegaaDoor
open Go.RowKit
set_option linter.unusedVariables false
set_option linter.unusedSimpArgs false

/-- Some string. -/
def SomeStr (w : World) (e : Ending) (w' : World) : Prop := ∃ s : ByteArray, e = .returned (.string s) ∧ Below w.heap.size w w'

set_option maxHeartbeats 2000000 in
set_option maxRecDepth 100000 in
theorem lkey_any (ls : List Lf) (q : Option Addr) (n c : Nat) (hl : ls.length = n) (hn : n ≤ 11) (x : Int) (h1 : -9223372036854775808 ≤ x) (h2 : x ≤ 9223372036854775807) (w : World) (hL : OwnL w q ls) (hS : Small ls) :
    Calls Tryd.prog 19 #[.slice q n c, .int .i64 x] w (SomeStr w) := by
  obtain ⟨m, hm⟩ : ∃ m, 3 * n + 5 = m := ⟨_, rfl⟩
  have HA := Lib.hid (fun V => around_any x h1 h2 m (by omega) (by omega) V)
  have hm2 : m ≤ 38 := by omega
  have hmi : (3 * (n : Int) + 5) = (m : Int) := by omega
  have HX : Hid (∀ r, r < n → ∃ b off s, q = some ⟨b, off, none⟩ ∧ w.cell? ⟨b, off + r * 2, none⟩ = some (.string s) ∧ s.size ≤ 1048576) := Lib.hid (by
    intro r hr
    obtain ⟨b, off, e, hL2⟩ := hL (by intro h; rw [h] at hl; simp at hl; omega)
    exact ⟨b, off, _, e, (hL2.at (List.getElem?_eq_getElem (show r < ls.length by omega))).1, (hS _ (List.getElem_mem _)).1⟩)
  clear hL hl h1 h2 hm hS
  go_enter Tryd.func19, Tryd.ntmps19
  go_upto_region 2 with (go_at_call 16; refine (HA.out _).mono ?_; rintro e w1 ⟨r, hr, rfl, hw1⟩; rw [hw1])
  by_cases a1 : r < n
  · obtain ⟨b, off, s, rfl, hs, hsz⟩ := HX.out r a1
    go_wp2
    go_ret
    exact ⟨s, rfl, Below.refl _ _⟩
  · by_cases a2 : r < 2 * n
    · obtain ⟨j, hj⟩ : ∃ j, r - n = j := ⟨_, rfl⟩
      obtain ⟨b, off, s, rfl, hs, hsz⟩ := HX.out j (by omega)
      have hw : wrap64 ((r : Int) - (n : Int)) = (j : Int) := by unfold wrap64; omega
      have hw2 : (r : Int) - (n : Int) = (j : Int) := by omega
      have hjn : j < n := by omega
      have hb1 : (r : Int) < 2 * (n : Int) := by omega
      clear hj
      go_wp2
      go_ret
      exact ⟨_, rfl, Below.refl _ _⟩
    · have hb1 : ¬ (r : Int) < 2 * (n : Int) := by omega
      by_cases a3 : r = 2 * n
      · have hb2 : ((r : Int) == 2 * (n : Int)) = true := by simp; omega
        clear a3
        go_wp2
        go_ret
        exact ⟨_, rfl, Below.refl _ _⟩
      · have hb2 : ((r : Int) == 2 * (n : Int)) = false := by simp; omega
        have HK := Lib.hid (fun V => key_any r (by omega) V)
        go_wp2_with (go_at_call 40; refine (HK.out _).mono ?_; rintro e w2 ⟨rfl, hB2⟩)
        go_ret
        exact ⟨_, rfl, hB2⟩

end Go.Proofs.YtfhfmdnimebegaaDoor

/-
  MerkleComplete: the calls of the law, each at the leaves at hand.
-/
namespace Go.Proofs.YtfhfmdnimebegaaDoor
open Go.RowKit
set_option linter.unusedVariables false
set_option linter.unusedSimpArgs false

theorem own_at (ls : List Lf) (q : Option Addr) (n c : Nat) (hl : ls.length = n) (hn : n ≤ 11) (w : World) (hL : OwnL w q ls) :
    Calls Tryd.prog 12 #[.slice q n c] w fun e w' => ∃ q2 c2, e = .returned (.slice q2 n c2) ∧ n ≤ c2 ∧ (n = 0 → q2 = none ∧ c2 = 0) ∧ OwnL w' q2 ls ∧ Below w.heap.size w w' := by
  refine (own_any ls q n c hl (by omega) w hL).mono ?_
  rintro e w' ⟨v, rfl, hO, hz, hB⟩
  obtain ⟨⟨q2, c2, rfl, hc, hL2⟩, _, _⟩ := ML_lvs hO
  refine ⟨q2, c2, by rw [hl], by rw [← hl]; exact hc, fun h0 => ?_, hL2, hB⟩
  have := hz (List.eq_nil_of_length_eq_zero (by omega))
  injection this with h1 h2 h3
  exact ⟨h1, h3⟩
theorem plain_at (ls : List Lf) (q : Option Addr) (n c : Nat) (hl : ls.length = n) (hn : n ≤ 1000000) (w : World) (hL : OwnL w q ls) :
    Calls Tryd.prog 17 #[.slice q n c] w fun e w' => ∃ q2 c2, e = .returned (.slice q2 n c2) ∧ OwnL w' q2 ls ∧ Below w.heap.size w w' := by
  refine (plain_any ls q n c hl (by omega) w hL).mono ?_
  rintro e w' ⟨v, rfl, hO, _, hB⟩
  obtain ⟨⟨q2, c2, rfl, hc, hL2⟩, _, _⟩ := RL_lvs hO
  exact ⟨q2, c2, by rw [hl], hL2, hB⟩
theorem inside_at (ls : List Lf) (q : Option Addr) (n c : Nat) (hl : ls.length = n) (hn : n ≤ 1000000) (low hik : ByteArray) (out : List Lf) (ho : insideM ls low hik = out) (m : Nat) (hm : out.length = m) (w : World) (hL : OwnL w q ls) :
    Calls Tryd.prog 35 #[.slice q n c, .string low, .string hik] w fun e w' => ∃ q2 c2, e = .returned (.slice q2 m c2) ∧ OwnL w' q2 out ∧ Below w.heap.size w w' := by
  refine (inside_any ls q n c hl (by omega) low hik w hL).mono ?_
  rintro e w' ⟨v, rfl, hO, hB⟩
  obtain ⟨⟨q2, c2, rfl, hc, hL2⟩, _, _⟩ := RL_lvs hO
  rw [ho] at hL2 ⊢
  exact ⟨q2, c2, by rw [hm], hL2, hB⟩
theorem prove_at (ls : List Lf) (hv : validM ls = 0) (key : ByteArray) (F e : Nat) (hp : proveR ls key = (F, e)) (part : List Lf) (sd : List (List Nat)) (n m k : Nat) (hl : ls.length = n) (h1 : (ls.drop F).take (e - F) = part) (h2 : sidesM ls F e 0 n = sd) (hm : part.length = m) (hk : sd.length = k) (q : Option Addr) (c : Nat) (hc : n ≤ c) (hq : n = 0 → q = none ∧ c = 0) (w : World) (hG : Glob w) (hL : OwnL w q ls) :
    Calls Tryd.prog 21 #[.slice q n c, .string key] w fun en w' => ∃ q c sa sc, en = .returned (.tuple #[.agg #[.int .i64 (F : Int), .int .i64 (n : Int), .slice q m c, .slice sa k sc], .int .i64 0]) ∧ PV w' F n part sd q c sa sc ∧ (m = 0 → q = none ∧ c = 0) ∧ Below w.heap.size w w' := by
  have := prove_yes ls q n c hl hc hq hv key w hG hL
  rw [hp] at this
  dsimp only at this
  rw [h1, h2] at this
  refine this.mono ?_
  rintro en w' ⟨v, rfl, hP, hB⟩
  obtain ⟨q, c, sa, sc, rfl, hp, hz⟩ := hP.pv
  exact ⟨q, c, sa, sc, by rw [hm, hk], hp, fun h0 => hz (List.eq_nil_of_length_eq_zero (by omega)), hB⟩
theorem range_at (ls : List Lf) (hv : validM ls = 0) (low hik : ByteArray) (h : sless hik low = false) (F e : Nat) (hp : rangeR ls low hik = (F, e)) (part : List Lf) (sd : List (List Nat)) (n m k : Nat) (hl : ls.length = n) (h1 : (ls.drop F).take (e - F) = part) (h2 : sidesM ls F e 0 n = sd) (hm : part.length = m) (hk : sd.length = k) (q : Option Addr) (c : Nat) (hc : n ≤ c) (hq : n = 0 → q = none ∧ c = 0) (w : World) (hG : Glob w) (hL : OwnL w q ls) :
    Calls Tryd.prog 23 #[.slice q n c, .string low, .string hik] w fun en w' => ∃ q c sa sc, en = .returned (.tuple #[.agg #[.int .i64 (F : Int), .int .i64 (n : Int), .slice q m c, .slice sa k sc], .int .i64 0]) ∧ PV w' F n part sd q c sa sc ∧ (m = 0 → q = none ∧ c = 0) ∧ Below w.heap.size w w' := by
  have := range_yes ls q n c hl hc hq hv low hik h w hG hL
  rw [hp] at this
  dsimp only at this
  rw [h1, h2] at this
  refine this.mono ?_
  rintro en w' ⟨v, rfl, hP, hB⟩
  obtain ⟨q, c, sa, sc, rfl, hp, hz⟩ := hP.pv
  exact ⟨q, c, sa, sc, by rw [hm, hk], hp, fun h0 => hz (List.eq_nil_of_length_eq_zero (by omega)), hB⟩
theorem sides_dgts2 (ls : List Lf) (F e : Nat) : Dgts (sidesM ls F e 0 ls.length) := by
  rcases Nat.eq_zero_or_pos ls.length with h0 | h0
  · rw [h0]
    intro d hd
    simp [sidesM, sidesF] at hd
  · exact sides_dgts ls F e 0 ls.length h0 (Nat.le_refl _)
theorem check_at (R : List Nat) (hR : Dgt R) (key : ByteArray) (F n : Nat) (part : List Lf) (sd : List (List Nat)) (hd : Dgts sd) (m k : Nat) (hm : part.length = m) (hm2 : m ≤ 11) (hk : sd.length = k) (a : ByteArray × Bool × Int) (ha : checkM R key F n part sd = a) (q : Option Addr) (c : Nat) (sa : Option Addr) (sc : Nat) (w : World) (hG : Glob w) (hP : PV w F n part sd q c sa sc) :
    Calls Tryd.prog 28 #[.agg (bytesV R).toArray, .string key, .agg #[.int .i64 (F : Int), .int .i64 (n : Int), .slice q m c, .slice sa k sc]] w fun en w' => en = .returned (.tuple #[.string a.1, .bool a.2.1, .int .i64 a.2.2]) ∧ Below w.heap.size w w' := by
  rw [← ha]
  exact check_any R hR key F n part q m c sa k sc sd hd hm (by omega) (by rw [← hm]; exact hP.2.1) w hG hP.1 (hk ▸ hP.2.2)
theorem crange_at (R : List Nat) (hR : Dgt R) (low hik : ByteArray) (F n : Nat) (part : List Lf) (sd : List (List Nat)) (hd : Dgts sd) (m k : Nat) (hm : part.length = m) (hm2 : m ≤ 11) (hk : sd.length = k) (out : List Lf) (ha : crangeM R low hik F n part sd = (out, 0)) (t : Nat) (ht : out.length = t) (q : Option Addr) (c : Nat) (hq : m = 0 → q = none ∧ c = 0) (sa : Option Addr) (sc : Nat) (w : World) (hG : Glob w) (hP : PV w F n part sd q c sa sc) :
    Calls Tryd.prog 31 #[.agg (bytesV R).toArray, .string low, .string hik, .agg #[.int .i64 (F : Int), .int .i64 (n : Int), .slice q m c, .slice sa k sc]] w
      fun en w' => ∃ q2 c2, en = .returned (.tuple #[.slice q2 t c2, .int .i64 0]) ∧ OwnL w' q2 out ∧ Below w.heap.size w w' := by
  have := crange_any R hR low hik F n part q m c hq sa k sc sd hd hm (by omega) (by rw [← hm]; exact hP.2.1) w hG hP.1 (hk ▸ hP.2.2)
  rw [ha] at this
  refine this.mono ?_
  rintro en w' ⟨v, rfl, ⟨q2, c2, rfl, _, hL⟩, hB⟩
  exact ⟨q2, c2, by rw [ht], hL, hB⟩

end Go.Proofs.YtfhfmdnimebegaaDoor
