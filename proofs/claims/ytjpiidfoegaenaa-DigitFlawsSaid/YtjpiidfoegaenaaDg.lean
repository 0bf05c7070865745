/-
  The iterator over the slips; inside a fence.
-/
import Derived.RangeFuncNested
import Derived.RangeFuncBound
import Derived.RangeFuncCalls
import Derived.RangeFuncLeaves
import Derived.RangeFuncBox
import Derived.Shelf.Abstract
import Derived.Shelf.RegionOpen
import Derived.WalkKit
import Derived.OwnWalkIn
import Derived.TacticsInMore
import Derived.LoopNIn
import Derived.LoopIn
import Derived.Sort.QuietIn
import Derived.Lib.QuietBelowIn
import Derived.Test.YtjpiidfoegaenaaDe
import Derived.Test.YtjpiidfoegaenaaDf
namespace Go.Proofs.Ytjpiidfoegaenaa
open Go.RowKit Go.Shelf
set_option linter.unusedVariables false
set_option linter.unusedSimpArgs false

/-- The blocks below n₀, and the two from B on, are as they were. -/
def Kept (n₀ B : Nat) (W W' : World) : Prop := W.heap.size ≤ W'.heap.size ∧ ∀ k, (k < n₀ ∨ B ≤ k ∧ k < B + 2) → W'.heap[k]? = W.heap[k]?
theorem Kept.refl (n₀ B : Nat) (W : World) : Kept n₀ B W W := ⟨Nat.le_refl _, fun _ _ => rfl⟩
theorem Kept.size {n₀ B : Nat} {W W' : World} (h : Kept n₀ B W W') : W.heap.size ≤ W'.heap.size := h.1
theorem Kept.trans {n₀ B : Nat} {a b c : World} (h : Kept n₀ B a b) (k : Kept n₀ B b c) : Kept n₀ B a c := ⟨Nat.le_trans h.1 k.1, fun j h1 => (k.2 j h1).trans (h.2 j h1)⟩
theorem Kept.of {n₀ B n : Nat} {W W' : World} (h : Below n W W') (h0 : n₀ ≤ n) (hn : B + 2 ≤ n) : Kept n₀ B W W' := ⟨h.size, fun k h2 => h.block k (by omega)⟩
theorem Kept.cell {n₀ B : Nat} {W W' : World} (h : Kept n₀ B W W') {p : Addr} (ha : p.block < n₀ ∨ B ≤ p.block ∧ p.block < B + 2) : W'.cell? p = W.cell? p := World.cell?_of_block (w := W) (h.2 p.block ha)
/-- A slip and what it adds, as the iterator hands them out. -/
def itS (x : Fl × Int) : Array Value := #[.agg #[.int .i64 x.1.at_, .int .i64 x.1.other, .int .i64 x.1.old, .int .i64 x.1.new], .int .i64 x.2]
/-- The weights lie in blocks below n₀. -/
def WsAt (n₀ : Nat) (W : World) (A : Option Addr) (l : List Int) : Prop := l ≠ [] → ∃ ad : Addr, A = some ad ∧ ad.block < n₀ ∧ ∀ (i : Nat) (x : Int), l[i]? = some x → W.cell? (ad.add i) = some (.int .i64 x)
theorem WsAt.keep {n₀ B : Nat} {W W' : World} {A : Option Addr} {l : List Int} (h : WsAt n₀ W A l) (hk : Kept n₀ B W W') : WsAt n₀ W' A l := fun hn => by
  obtain ⟨ad, e, hb, hc⟩ := h hn
  exact ⟨ad, e, hb, fun i x hx => (hk.cell (p := ad.add i) (Or.inl (by rw [add_block]; exact hb))).trans (hc i x hx)⟩
def SlO (ws : List Int) (m1 N n₀ B : Nat) (J : List (Fl × Int) → World → Prop) (W : World) (v : Value) (wr : World) : Prop := ∃ i : Nat, i ≤ N ∧ (0 < N → i < N) ∧ v = .int .i64 (i : Int) ∧ J (slU ws m1 (i * (2 * m1))) wr ∧ Kept n₀ B W wr
def SlI (ws : List Int) (m1 s n₀ B : Nat) (J : List (Fl × Int) → World → Prop) (W : World) (v : Value) (wr : World) : Prop := ∃ d : Nat, d ≤ m1 ∧ v = .int .i64 (d : Int) ∧ J (slU ws m1 (s + d)) wr ∧ Kept n₀ B W wr
theorem slN_lt {N m1 i : Nat} (hi : i < N) : i * (2 * m1) + m1 ≤ slN N m1 := by
  unfold slN
  have : (i + 1) * (2 * m1) ≤ N * (2 * m1) := Nat.mul_le_mul_right _ hi
  rw [Nat.add_mul, Nat.one_mul] at this
  omega
theorem slN_lt2 {N m1 i : Nat} (hi : i + 1 < N) : (i + 1) * (2 * m1) ≤ slN N m1 := by
  have := slN_lt (m1 := m1) hi
  omega
theorem slN_eq {N m1 i : Nat} (hi : i + 1 = N) : slN N m1 = i * (2 * m1) + m1 := by
  unfold slN
  rw [← hi, Nat.add_mul, Nat.one_mul]
  omega
theorem wAt_of {l : List Int} {i : Nat} {x : Int} (h : l[i]? = some x) : wAt l i = x := by unfold wAt; rw [h]; rfl
set_option maxHeartbeats 4000000 in
set_option maxRecDepth 100000 in
theorem slips_in (F : Fence) (n : Nat) (hf : F.fn 52) (hro : F.round = none) (hn : 1 ≤ n) (l B n₀ m1 : Nat) (ws : List Int) (A : Option Addr) (N c : Nat) (hws : ws.length = N) (hN : N ≤ 256) (hwi : ∀ x ∈ ws, 0 ≤ x ∧ x < 1024) (hm : m1 ≤ 1023)
    (J Jx : List (Fl × Int) → World → Prop)
    (hY : ∀ k W, k < slN N m1 → J (slU ws m1 k) W → YieldAt F (n - 1) Try.prog l (itS (slF m1 k, slC ws m1 k)) W fun e W' =>
      (e = .returned (.bool true) ∧ J (slU ws m1 k ++ [(slF m1 k, slC ws m1 k)]) W' ∧ Kept n₀ B W W') ∨ (e = .returned (.bool false) ∧ Jx (slU ws m1 k ++ [(slF m1 k, slC ws m1 k)]) W'))
    (W : World) (hJ : AbidesFrom W.heap.size J) (hn₀ : n₀ ≤ W.heap.size ∧ B + 2 ≤ W.heap.size) (h0 : J [] W) (cw : W.cell? ⟨B, 0, none⟩ = some (.slice A N c)) (cm : W.cell? ⟨B + 1, 0, none⟩ = some (.int .i64 ((m1 + 1 : Nat) : Int))) (hA : WsAt n₀ W A ws) :
    CallsIn F n Try.prog 52 #[.func (.yield l) #[] #[], .pointer (some ⟨B, 0, none⟩), .pointer (some ⟨B + 1, 0, none⟩)] W fun e W' => (∃ v, e = .returned v) ∧
      ((∃ ys, ys = slU ws m1 (slN N m1) ∧ J ys W') ∨ (∃ pre, (∃ k, k < slN N m1 ∧ pre = slU ws m1 (k + 1)) ∧ Jx pre W')) := by
  have h1n : 1 ≤ n := hn
  have HN := Lib.hid hws
  have HWI := Lib.hid hwi
  obtain ⟨m, hmm⟩ : ∃ m, m1 + 1 = m := ⟨_, rfl⟩
  have hm1z : (m : Int) - 1 = (m1 : Int) := by omega
  have hmle : m ≤ 1024 := by omega
  rw [hmm] at cm
  obtain ⟨B1, hB1⟩ : ∃ B1, B + 1 = B1 := ⟨_, rfl⟩
  rw [hB1] at cm ⊢
  have hBb : B ≤ B ∧ B < B + 2 := by omega
  have hBb1 : B ≤ B1 ∧ B1 < B + 2 := by omega
  clear hws hwi hmm hB1
  refine callsIn_of_wp Try.func52 rfl hf ?_ hro
  simp only [Try.ntmps52, List.size_toArray, List.length_cons, List.length_nil, Nat.reduceAdd, Nat.reduceSub, Array.replicate_succ, Array.replicate_zero, List.push_toArray, List.append_toArray, List.nil_append, List.cons_append]
  gi_wp2
  gi_loopw [10] (fun v wr => SlO ws m1 N n₀ B J W v wr) (fun v _ => N - (intOf v).toNat)
  case atStart => exact ⟨0, Nat.zero_le _, fun h => h, rfl, by rw [Nat.zero_mul]; exact h0, Kept.refl _ _ _⟩
  case round =>
    obtain ⟨i, hi, hiN, rfl, hJi, hB⟩ := hrel
    rcases Nat.lt_or_ge i N with hlt | hge
    · have hltz : (i : Int) < (N : Int) := by omega
      obtain ⟨x, hx⟩ : ∃ x, ws[i]? = some x := ⟨_, List.getElem?_eq_getElem (by rw [HN.out]; exact hlt)⟩
      obtain ⟨ad, rfl, hbl, hc⟩ := (hA.keep hB) (by intro e; rw [e] at hx; simp at hx)
      have c0 := hc i x hx
      have cm1 := (hB.cell (p := ⟨B1, 0, none⟩) (Or.inr hBb1)).trans cm
      have hxi := HWI.out x (List.mem_of_getElem? hx)
      have HX := Lib.hid (wAt_of hx)
      obtain ⟨s, hs⟩ : ∃ s, i * (2 * m1) = s := ⟨_, rfl⟩
      rw [hs] at hJi
      have HS := Lib.hid hs
      clear hx hs hc
      gi_wp2
      obtain ⟨wo, rfl⟩ : ∃ wo, wo = wr := ⟨_, rfl⟩
      gi_loopw [17] (fun v wr => SlI ws m1 s n₀ B J W v wr) (fun v _ => m1 - (intOf v).toNat)
      case atStart => exact ⟨0, Nat.zero_le _, rfl, hJi, hB⟩
      case round =>
        clear hJi hB c0 cm1
        obtain ⟨d, hd, rfl, hJd, hB⟩ := hrel
        rcases Nat.lt_or_ge d m1 with hlt2 | hge2
        · have hlt2z : (d : Int) < (m1 : Int) := by omega
          obtain ⟨d1, hd1⟩ : ∃ d1, d + 1 = d1 := ⟨_, rfl⟩
          have hd1z : (d : Int) + 1 = (d1 : Int) := by omega
          obtain ⟨P, hP⟩ : ∃ P, x * (d1 : Int) = P := ⟨_, rfl⟩
          have hPb : 0 ≤ P ∧ P ≤ 1048576 := by rw [← hP]; exact prod_in (m := 1024) ⟨hxi.1, by omega⟩ ⟨by omega, by omega⟩ (by omega)
          have q1 : IntKind.i64.wrap P = P := by simp [IntKind.wrap, IntKind.signed, IntKind.bits]; omega
          have hk : s + d < slN N m1 := by have := slN_lt (m1 := m1) hlt; rw [HS.out] at this; omega
          obtain ⟨fn, tm, asg, bd, hy, hR⟩ := hY (s + d) wr hk hJd
          obtain ⟨e1, e2⟩ := sl_one (l := ws) (i := i) hlt2
          rw [HS.out, hd1] at e1 e2
          rw [HX.out, hP] at e2
          rw [show itS (slF m1 (s + d), slC ws m1 (s + d)) = #[.agg #[.int .i64 (i : Int), .int .i64 (-1), .int .i64 0, .int .i64 (d1 : Int)], .int .i64 P] by rw [e1, e2]; rfl] at hy
          rw [← slU_snoc, Nat.add_assoc, hd1] at hR
          clear e1 e2 hPb
          gi_wp2
          refine hR.mono ?_
          rintro e W3 (⟨rfl, hJ3, hk3⟩ | ⟨rfl, hJx3⟩)
          · gi_wp2
            exact ⟨⟨d1, by omega, rfl, hJ3, hB.trans hk3⟩, by simp [intOf]; omega⟩
          · gi_wp2
            refine bodyPost_ret (results_none rfl _ _ _) rfl ?_
            exact ⟨⟨_, rfl⟩, .inr ⟨_, ⟨_, hk, by rw [Nat.add_assoc, hd1]⟩, hJx3⟩⟩
        · obtain rfl : m1 = d := by omega
          have hlt2z : ¬ (m1 : Int) < (m1 : Int) := by omega
          have cw1 := (hB.cell (p := ⟨B, 0, none⟩) (Or.inr hBb)).trans cw
          have cm1 := (hB.cell (p := ⟨B1, 0, none⟩) (Or.inr hBb1)).trans cm
          by_cases hlast : i + 1 = N
          · have hi1z : (i : Int) + 1 = (N : Int) := by omega
            have HE := Lib.hid ((slN_eq (m1 := m1) hlast).trans (by rw [HS.out]))
            gi_wp2
            refine bodyPost_ret (results_none rfl _ _ _) rfl ?_
            exact ⟨⟨_, rfl⟩, .inl (by rw [HE.out]; exact hJd)⟩
          · obtain ⟨i1, hi1⟩ : ∃ i1, i + 1 = i1 := ⟨_, rfl⟩
            have hi1z : (i : Int) + 1 = (i1 : Int) := by omega
            have hne : ¬ (i1 : Int) = (N : Int) := by omega
            have hlt3 : i1 < N := by omega
            have hlt3z : (i1 : Int) < (N : Int) := by omega
            obtain ⟨y, hy⟩ : ∃ y, ws[i1]? = some y := ⟨_, List.getElem?_eq_getElem (by rw [HN.out]; exact hlt3)⟩
            have CY : Hid (∀ V, Kept n₀ B W V → V.cell? (ad.add i1) = some (.int .i64 y)) := Lib.hid (fun V hV => by
              obtain ⟨ad', e, _, hc⟩ := (hA.keep hV) (by intro e; rw [e] at hy; simp at hy)
              injection e with e
              subst e
              exact hc i1 y hy)
            have hyi := HWI.out y (List.mem_of_getElem? hy)
            have HYY := Lib.hid (wAt_of hy)
            have HI1 := Lib.hid hi1
            obtain ⟨D, hD⟩ : ∃ D, x - y = D := ⟨_, rfl⟩
            have hDb : -1024 ≤ D ∧ D ≤ 1024 := by omega
            clear hy hi1 hlast
            gi_wp2
            obtain ⟨wp, rfl⟩ : ∃ wp, wp = wr := ⟨_, rfl⟩
            gi_loopw [39] (fun v wr => SlI ws m1 (s + m1) n₀ B J W v wr) (fun v _ => m1 - (intOf v).toNat)
            case atStart => exact ⟨0, Nat.zero_le _, rfl, hJd, hB⟩
            case round =>
              clear hJd hB cw1 cm1 hd
              obtain ⟨d, hd, rfl, hJd, hB⟩ := hrel
              rcases Nat.lt_or_ge d m1 with hlt2 | hge2
              · have hlt2z : (d : Int) < (m1 : Int) := by omega
                obtain ⟨d1, hd1⟩ : ∃ d1, d + 1 = d1 := ⟨_, rfl⟩
                have hd1z : (d : Int) + 1 = (d1 : Int) := by omega
                have cw1 := (hB.cell (p := ⟨B, 0, none⟩) (Or.inr hBb)).trans cw
                have c0 := CY.out wr hB
                obtain ⟨P, hP⟩ : ∃ P, D * (d1 : Int) = P := ⟨_, rfl⟩
                have hPb : -1048576 ≤ P ∧ P ≤ 1048576 := by
                  rw [← hP]
                  have h1 := Int.mul_le_mul_of_nonneg_right hDb.2 (show 0 ≤ (d1 : Int) by omega)
                  have h2 := Int.mul_le_mul_of_nonneg_right hDb.1 (show 0 ≤ (d1 : Int) by omega)
                  omega
                have q1 : IntKind.i64.wrap P = P := by simp [IntKind.wrap, IntKind.signed, IntKind.bits]; omega
                have hk : s + m1 + d < slN N m1 := by have := slN_lt2 (m1 := m1) (i := i) (by rw [HI1.out]; exact hlt3); rw [Nat.add_mul, Nat.one_mul, HS.out] at this; omega
                obtain ⟨fn, tm, asg, bd, hy, hR⟩ := hY (s + m1 + d) wr hk hJd
                obtain ⟨e1, e2⟩ := sl_two (l := ws) (i := i) hlt2
                rw [HS.out, hd1, HI1.out] at e1 e2
                rw [HX.out, HYY.out, hD, hP] at e2
                rw [show itS (slF m1 (s + m1 + d), slC ws m1 (s + m1 + d)) = #[.agg #[.int .i64 (i : Int), .int .i64 (i1 : Int), .int .i64 0, .int .i64 (d1 : Int)], .int .i64 P] by rw [e1, e2]; rfl] at hy
                rw [← slU_snoc, Nat.add_assoc (s + m1), hd1] at hR
                clear e1 e2 hPb
                gi_wp2
                refine hR.mono ?_
                rintro e W3 (⟨rfl, hJ3, hk3⟩ | ⟨rfl, hJx3⟩)
                · gi_wp2
                  exact ⟨⟨d1, by omega, rfl, hJ3, hB.trans hk3⟩, by simp [intOf]; omega⟩
                · gi_wp2
                  refine bodyPost_ret (results_none rfl _ _ _) rfl ?_
                  exact ⟨⟨_, rfl⟩, .inr ⟨_, ⟨_, hk, by rw [Nat.add_assoc (s + m1), hd1]⟩, hJx3⟩⟩
              · obtain rfl : m1 = d := by omega
                have hlt2z : ¬ (m1 : Int) < (m1 : Int) := by omega
                have HE : Hid (s + m1 + m1 = i1 * (2 * m1)) := Lib.hid (by rw [← HI1.out, Nat.add_mul, Nat.one_mul, HS.out]; omega)
                rw [HE.out] at hJd
                gi_wp2
                exact ⟨⟨i1, by omega, fun _ => hlt3, rfl, hJd, hB⟩, by simp [intOf]; omega⟩
    · have hge2 : ¬ (i : Int) < (N : Int) := by omega
      obtain rfl : N = 0 := by omega
      obtain rfl : i = 0 := by omega
      gi_wp2
      go_end0
      exact ⟨⟨_, rfl⟩, .inl (by rw [show slN 0 m1 = 0 by unfold slN; omega]; rw [Nat.zero_mul] at hJi; exact hJi)⟩
end Go.Proofs.Ytjpiidfoegaenaa
