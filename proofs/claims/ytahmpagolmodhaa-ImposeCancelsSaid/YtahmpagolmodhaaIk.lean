/-
  Check and Sheets of the reference.
-/
import Derived.Test.YtahmpagolmodhaaIj
namespace Go.Proofs.Ytahmpagolmodhaa
open Go.RowKit
set_option linter.unusedVariables false
set_option linter.unusedSimpArgs false

theorem LstR.rid {α : Type} {E : Elt α} {l : List α} {x : Int} {w : World} {e : Ending} {w' : World} (h : LstR E l x w e w') : ∃ q c, e = .returned (.tuple #[.slice q l.length c, .int .i64 x]) ∧ At E w' q l ∧ Below w.heap.size w w' := by
  obtain ⟨v, rfl, hO, hB⟩ := h
  obtain ⟨q, c, rfl, h1, h2, h3, h4⟩ := hO.form
  exact ⟨q, c, rfl, h2, hB⟩
set_option maxHeartbeats 2000000 in
set_option maxRecDepth 100000 in
theorem rcheck_bad (p l : Int) (hv : volE p l ≠ 0) (q : Option Addr) (n c : Nat) (w : World) : Calls Try.prog 20 #[.int .i64 p, .int .i64 l, .slice q n c] w (fun e w' => e = .returned (.int .i64 (volE p l)) ∧ Below w.heap.size w w') := by
  have C := Lib.hid (rfold_bad p l hv)
  generalize volE p l = v at *
  go_enter Try.func20, Try.ntmps20
  go_wp2_with (first | (go_at_call 13; refine (C.out _).mono ?_; rintro _ w2 ⟨v2, rfl, hO2, hB2⟩))
  go_ret
  exact ⟨rfl, hB2⟩
set_option maxHeartbeats 2000000 in
set_option maxRecDepth 100000 in
theorem rcheck_any (p h : Nat) (hp : p ≤ 999) (h1 : 1 ≤ h) (h8 : h ≤ 8) (m : List Sh) (q : Option Addr) (n c : Nat) (hm : m.length = n) (w : World) (hA : At srE w q m) :
    Calls Try.prog 20 #[.int .i64 (p : Int), .int .i64 ((2 * h : Nat) : Int), .slice q n c] w (fun e w' => e = .returned (.int .i64 (if foldM p h = m then 0 else 17)) ∧ Below w.heap.size w w') := by
  have C := Lib.hid (rfold_any p h hp h1 h8)
  have hlen : (foldM p h).length ≤ 1000000000000 := by
    rw [show foldM p h = upTo p h (qnT p h * h) from rfl, upTo_len]
    have a := qnT_leaves p h hp h1 h8
    have b : qnT p h * h ≤ qnT p h * (2 * h) := Nat.mul_le_mul_left _ (by omega)
    omega
  obtain ⟨F, hF⟩ : ∃ F, foldM p h = F := ⟨_, rfl⟩
  rw [hF] at C hlen ⊢
  obtain ⟨N, hN⟩ : ∃ N, F.length = N := ⟨_, rfl⟩
  rw [hN] at hlen
  have S := Lib.hid (fun (V : World) (qa : Option Addr) (c1 : Nat) (hB : Below w.heap.size w V) (h2 : At srE V qa F) => sameSheets_any F m qa q N c1 n c hN hm hlen V h2 (hA.keep hB))
  have HN := Lib.hid hN
  obtain ⟨r, hr⟩ : ∃ r : Int, (if F = m then (0 : Int) else 17) = r := ⟨_, rfl⟩
  rw [hr]
  clear hA hN hF
  by_cases he : F = m
  · rw [decide_eq_true he] at S
    have HR := Lib.hid (show r = 0 from by rw [← hr, if_pos he])
    clear he hm hr
    go_enter Try.func20, Try.ntmps20
    go_wp2_with (first
      | (go_at_call 13; refine (C.out _).mono ?_; rintro _ w2 hL2; obtain ⟨q2, c2, rfl, hA2, hB2⟩ := hL2.rid; rw [HN.out]; have S2 := S.out w2 q2 c2 hB2 hA2)
      | (go_at_call 15; refine S2.mono ?_; rintro _ w3 ⟨rfl, hB3⟩))
    go_ret
    exact ⟨by rw [HR.out]; first | done | rfl, link hB2 hB3⟩
  · rw [decide_eq_false he] at S
    have HR := Lib.hid (show r = 17 from by rw [← hr, if_neg he])
    clear he hm hr
    go_enter Try.func20, Try.ntmps20
    go_wp2_with (first
      | (go_at_call 13; refine (C.out _).mono ?_; rintro _ w2 hL2; obtain ⟨q2, c2, rfl, hA2, hB2⟩ := hL2.rid; rw [HN.out]; have S2 := S.out w2 q2 c2 hB2 hA2)
      | (go_at_call 15; refine S2.mono ?_; rintro _ w3 ⟨rfl, hB3⟩))
    go_ret
    exact ⟨by rw [HR.out]; first | done | rfl, link hB2 hB3⟩
end Go.Proofs.Ytahmpagolmodhaa
