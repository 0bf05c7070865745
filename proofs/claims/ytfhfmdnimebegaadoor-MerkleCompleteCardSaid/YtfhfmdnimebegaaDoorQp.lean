/-
  passimref02.padded returns the padded message.
-/
import Derived.Test.YtfhfmdnimebegaaDoorQr
import Derived.Test.YtfhfmdnimebegaaDoorHh
namespace Go.Proofs.YtfhfmdnimebegaaDoor
set_option linter.unusedVariables false
set_option linter.unusedSimpArgs false
open Go.RowKit

/-- append(b, c...): b the call's own bytes, c bytes that lie somewhere, perhaps none. -/
theorem push_any {W w : World} {ops : Array Oper} {rest : List Oper} {o : Oper} {a : Act} {Q : Exit → Act → World → Prop} (hgd : o.guard = none) (s x : Operand)
    (ho : o.op = .call { callee := .builtin .append, args := #[s, x], argTypes := #[39, 39] })
    (l m : List Nat) (v : Value) (hs : a.eval s = v) (hO : Own W w v l)
    (A : Option Addr) (k c : Nat) (hx : a.eval x = .slice A k c) (hk : k = m.length) (hm : Has w A m) (hl : l.length + m.length ≤ 70368744177664)
    (h : ∀ v' w', Own W w' v' (l ++ m) → wpList Tryd.prog ops Q rest (a.put o.dst v') w') :
    wpList Tryd.prog ops Q (o :: rest) a w := by
  subst hk
  rcases Nat.eq_zero_or_pos m.length with h0 | h0
  · have hm0 : m = [] := List.eq_nil_of_length_eq_zero h0
    subst hm0
    obtain ⟨i0, hi, hz0, hz1, hz2⟩ := info_parts u8info
    have hrun : (Builtin.append_ #[39, 39] o.type #[v, .slice A 0 c]).run Tryd.prog w = .ok v w := by
      rcases hO.1.2 with ⟨rfl, _⟩ | ⟨g, cap, cur, rfl, _, _, hc, _⟩ <;> cases A <;> simp [Builtin.append_, run_underlying Tryd.underlying39, sizeOf, typeInfo, hi, Builtin.lenOf, Builtin.firstCells, loadCells, loadCellsFrom, storeCells] <;> omega
    refine wpList_plain hgd fun _ hK => ?_
    unfold Oper.wp execOp
    have hs' : a.eval x = .slice A 0 c := hx
    simp only [ho, resolve, invoke, builtin, Sem.run_bind, Sem.run_pure, Result.andThen_ok, List.map_toArray, List.map_cons, List.map_nil, hs, hs', hrun]
    exact hK _ _ (h v w (by simpa using hO))
  · obtain ⟨_, ad, rfl, _, _⟩ := hm.at 0 m[0] (List.getElem?_eq_getElem h0)
    exact push_row hgd s x ho l m v hs hO ad m.length c hx rfl hm.cells hl h
/-- push_byte, the longer list under a name. -/
theorem push_byteR {W w : World} {ops : Array Oper} {rest : List Oper} {o : Oper} {a : Act} {Q : Exit → Act → World → Prop} (hgd : o.guard = none) (s x : Operand)
    (ho : o.op = .call { callee := .builtin .append, args := #[s, x], argTypes := #[39, 39] })
    (l : List Nat) (y : Nat) (r : List Nat) (hr : l ++ [y] = r) (v : Value) (hs : a.eval s = v) (hO : Own W w v l)
    (c : Nat) (hx : a.eval x = .slice (some ⟨w.heap.size, 0, none⟩) 1 c) {X : Int} (hX : X = y) (hl : l.length ≤ 70368744177664)
    (h : ∀ v' w', Own W w' v' r → wpList Tryd.prog ops Q rest (a.put o.dst v') w') :
    wpList Tryd.prog ops Q (o :: rest) a (w.alloc (.cells #[.int .u8 X] 5)) := by
  subst hr
  exact push_byte hgd s x ho l y v hs hO c hx hX hl h
/-- A slice that was just made of no elements. -/
theorem own_empty (w : World) : Own w (w.alloc (.cells #[] 5)) (.slice (some ⟨w.heap.size, 0, none⟩) 0 0) [] := by
  refine ⟨?_, (Below.refl _ _).alloc (Nat.le_refl _) _⟩
  have := World.ownsRow_lit (e := 5) (size := 1) w #[] 0 (Nat.le_refl _) (by unfold maxLen; omega) rfl
  simpa [bytesV] using this

/-- What holds while zero bytes are laid. -/
def sliceLen : Value → Nat
  | .slice _ n _ => n
  | _ => 0
def ZerRel (w : World) (l : List Nat) (v : Value) (wr : World) : Prop := ∃ j : Nat, j ≤ zeros l.length ∧ Own w wr v (l ++ 128 :: List.replicate j 0)

set_option maxHeartbeats 1000000 in
set_option maxRecDepth 100000 in
theorem padded_any (A : Option Addr) (l : List Nat) (n c : Nat) (w : World) (hn : n = l.length) (hl : l.length ≤ 1099511627776) (hr : Has w A l) :
    Calls Tryd.prog 77 #[.slice A n c] w (Made w (pad l)) := by
  subst hn
  go_enter Tryd.func77, Tryd.ntmps77
  have KB : Below w.heap.size w (w.alloc (.cells #[] 5)) := (Below.refl _ _).alloc (Nat.le_refl _) _
  have hr0 := hr.keep KB
  have hO0 := own_empty w
  go_wp2_with (first | (at_builtin; refine push_any (W := w) rfl _ _ rfl [] l _ rfl hO0 A l.length c rfl rfl hr0 (by simp; omega) ?_; intro v3 w3 hO3) | (at_builtin; refine push_byte (W := w) rfl _ _ rfl l 128 _ rfl hO3 _ rfl rfl (by omega) ?_; intro v4 w4 hO4))
  clear hO0 hO3 hr0 KB hr
  have hzl := zeros_lt l.length
  go_loopw [3] (fun v wr => ZerRel w l v wr) (fun v _ => l.length + 65 - sliceLen v)
  case atStart => exact ⟨0, by omega, by simpa using hO4⟩
  case round =>
    clear hO4
    obtain ⟨j, hj, hO⟩ := hrel
    obtain ⟨m, hm⟩ : ∃ m, l.length + 1 + j = m := ⟨_, rfl⟩
    have hlen : (l ++ 128 :: List.replicate j 0).length = m := by simp; omega
    obtain ⟨g, cap, rfl, _, _⟩ := hO.1.form (by omega)
    rw [hlen] at hO ⊢
    by_cases hz : j < zeros l.length
    · have hne : ¬ (m : Int) % 64 = 56 := by unfold zeros at hz hj; omega
      obtain ⟨r, hr⟩ : ∃ r, l ++ 128 :: List.replicate (j + 1) 0 = r := ⟨_, rfl⟩
      have hlen5 : r.length = m + 1 := by rw [← hr]; simp; omega
      have hq : l ++ 128 :: List.replicate j 0 ++ [0] = r := by rw [List.append_assoc, List.cons_append, ← List.replicate_succ']; exact hr
      have HR := Lib.hid hr
      have HQ := Lib.hid hq
      clear hr hq
      go_wp2_with (at_builtin; refine push_byteR (W := w) rfl _ _ rfl (l ++ 128 :: List.replicate j 0) 0 r HQ.out _ rfl hO _ rfl rfl (by omega) ?_)
      intro v5 w5 hO5
      obtain ⟨g5, cap5, rfl, _, _⟩ := hO5.1.form (by omega)
      rw [hlen5] at hO5 ⊢
      clear hO
      go_wp2
      go_roundw
      case rel => exact ⟨j + 1, by omega, by rw [HR.out]; exact hO5⟩
      case measure => show l.length + 65 - (m + 1) < l.length + 65 - m; omega
    · obtain rfl : j = zeros l.length := by omega
      have he : (m : Int) % 64 = 56 := by have := zeros_mod l.length; omega
      obtain ⟨N, hN⟩ : ∃ N : Nat, N = 8 * l.length := ⟨_, rfl⟩
      have HN := Lib.hid hN
      clear hN
      have hw1 : IntKind.u64.wrap (l.length : Int) = (l.length : Int) := IntWalk.u64_in _ (by omega)
      have hw2 : IntKind.u64.wrap (8 * (l.length : Int)) = 8 * (l.length : Int) := IntWalk.u64_in _ (by omega)
      generalize hP : l ++ 128 :: List.replicate (zeros l.length) 0 = P at hO hlen
      have HP := Lib.hid hP
      clear hP
      go_upto_region 6 with (fail)
      clear hw1 hw2 he
      go_wp2
      go_loopw [3, 5] (fun v i wr => ∃ k : Nat, k ≤ 8 ∧ i = .int .i64 k ∧ Own w wr v (P ++ (be 8 N).take k)) (fun _ i _ => 8 - (intOf i).toNat)
      case atStart => exact ⟨0, by omega, rfl, by simpa using hO⟩
      case round =>
        clear hO
        obtain ⟨k, hk, rfl, hO⟩ := hrel
        obtain ⟨q, hq⟩ : ∃ q, m + k = q := ⟨_, rfl⟩
        have hlen2 : (P ++ (be 8 N).take k).length = q := by rw [List.length_append, List.length_take, be_length]; omega
        obtain ⟨g2, cap2, rfl, _, _⟩ := hO.1.form (by omega)
        rw [hlen2] at hO ⊢
        obtain ⟨r, hr⟩ : ∃ r, P ++ (be 8 N).take (k + 1) = r := ⟨_, rfl⟩
        have hbt : k < 8 → P ++ (be 8 N).take k ++ [N / 256 ^ (8 - 1 - k) % 256] = r := fun h => by rw [← hr, List.take_add_one, be_get 8 N k h, List.append_assoc]; rfl
        have HBT := Lib.hid hbt
        have HR := Lib.hid hr
        clear hbt hr
        generalize hLk : P ++ (be 8 N).take k = Lk at hO hlen2 HBT
        have HLk := Lib.hid hLk
        clear hLk
        obtain rfl | rfl | rfl | rfl | rfl | rfl | rfl | rfl | rfl : k = 0 ∨ k = 1 ∨ k = 2 ∨ k = 3 ∨ k = 4 ∨ k = 5 ∨ k = 6 ∨ k = 7 ∨ k = 8 := by omega
        · go_wp2_with (at_builtin; refine push_byteR (W := w) rfl _ _ rfl Lk (N / 256 ^ (8 - 1 - 0) % 256) r (HBT.out (by omega)) _ rfl hO _ rfl ?hx (by omega) ?_)
          case hx => rw [HN.out, show (256 : Nat) ^ (8 - 1 - 0) = 72057594037927936 by decide]; omega
          intro v5 w5 hO5
          clear hO
          go_wp2
          go_roundw
          case rel => exact ⟨1, by omega, rfl, (congrArg (Own w w5 v5) HR.out).mpr hO5⟩
          case measure => simp [intOf]
        · go_wp2_with (at_builtin; refine push_byteR (W := w) rfl _ _ rfl Lk (N / 256 ^ (8 - 1 - 1) % 256) r (HBT.out (by omega)) _ rfl hO _ rfl ?hx (by omega) ?_)
          case hx => rw [HN.out, show (256 : Nat) ^ (8 - 1 - 1) = 281474976710656 by decide]; omega
          intro v5 w5 hO5
          clear hO
          go_wp2
          go_roundw
          case rel => exact ⟨2, by omega, rfl, (congrArg (Own w w5 v5) HR.out).mpr hO5⟩
          case measure => simp [intOf]
        · go_wp2_with (at_builtin; refine push_byteR (W := w) rfl _ _ rfl Lk (N / 256 ^ (8 - 1 - 2) % 256) r (HBT.out (by omega)) _ rfl hO _ rfl ?hx (by omega) ?_)
          case hx => rw [HN.out, show (256 : Nat) ^ (8 - 1 - 2) = 1099511627776 by decide]; omega
          intro v5 w5 hO5
          clear hO
          go_wp2
          go_roundw
          case rel => exact ⟨3, by omega, rfl, (congrArg (Own w w5 v5) HR.out).mpr hO5⟩
          case measure => simp [intOf]
        · go_wp2_with (at_builtin; refine push_byteR (W := w) rfl _ _ rfl Lk (N / 256 ^ (8 - 1 - 3) % 256) r (HBT.out (by omega)) _ rfl hO _ rfl ?hx (by omega) ?_)
          case hx => rw [HN.out, show (256 : Nat) ^ (8 - 1 - 3) = 4294967296 by decide]; omega
          intro v5 w5 hO5
          clear hO
          go_wp2
          go_roundw
          case rel => exact ⟨4, by omega, rfl, (congrArg (Own w w5 v5) HR.out).mpr hO5⟩
          case measure => simp [intOf]
        · go_wp2_with (at_builtin; refine push_byteR (W := w) rfl _ _ rfl Lk (N / 256 ^ (8 - 1 - 4) % 256) r (HBT.out (by omega)) _ rfl hO _ rfl ?hx (by omega) ?_)
          case hx => rw [HN.out, show (256 : Nat) ^ (8 - 1 - 4) = 16777216 by decide]; omega
          intro v5 w5 hO5
          clear hO
          go_wp2
          go_roundw
          case rel => exact ⟨5, by omega, rfl, (congrArg (Own w w5 v5) HR.out).mpr hO5⟩
          case measure => simp [intOf]
        · go_wp2_with (at_builtin; refine push_byteR (W := w) rfl _ _ rfl Lk (N / 256 ^ (8 - 1 - 5) % 256) r (HBT.out (by omega)) _ rfl hO _ rfl ?hx (by omega) ?_)
          case hx => rw [HN.out, show (256 : Nat) ^ (8 - 1 - 5) = 65536 by decide]; omega
          intro v5 w5 hO5
          clear hO
          go_wp2
          go_roundw
          case rel => exact ⟨6, by omega, rfl, (congrArg (Own w w5 v5) HR.out).mpr hO5⟩
          case measure => simp [intOf]
        · go_wp2_with (at_builtin; refine push_byteR (W := w) rfl _ _ rfl Lk (N / 256 ^ (8 - 1 - 6) % 256) r (HBT.out (by omega)) _ rfl hO _ rfl ?hx (by omega) ?_)
          case hx => rw [HN.out, show (256 : Nat) ^ (8 - 1 - 6) = 256 by decide]; omega
          intro v5 w5 hO5
          clear hO
          go_wp2
          go_roundw
          case rel => exact ⟨7, by omega, rfl, (congrArg (Own w w5 v5) HR.out).mpr hO5⟩
          case measure => simp [intOf]
        · go_wp2_with (at_builtin; refine push_byteR (W := w) rfl _ _ rfl Lk (N / 256 ^ (8 - 1 - 7) % 256) r (HBT.out (by omega)) _ rfl hO _ rfl ?hx (by omega) ?_)
          case hx => rw [HN.out, show (256 : Nat) ^ (8 - 1 - 7) = 1 by decide]; omega
          intro v5 w5 hO5
          clear hO
          go_wp2
          go_roundw
          case rel => exact ⟨8, by omega, rfl, (congrArg (Own w w5 v5) HR.out).mpr hO5⟩
          case measure => simp [intOf]
        · rw [← HLk.out, List.take_of_length_le (by rw [be_length]; omega), ← HP.out, HN.out, List.append_assoc] at hO
          go_wp2
          go_ret
          have hpad : l ++ 128 :: (List.replicate (zeros l.length) 0 ++ be 8 (8 * l.length)) = pad l := rfl
          rw [List.cons_append, hpad] at hO
          exact made_of (by unfold pad tail; simp) hO

end Go.Proofs.YtfhfmdnimebegaaDoor
