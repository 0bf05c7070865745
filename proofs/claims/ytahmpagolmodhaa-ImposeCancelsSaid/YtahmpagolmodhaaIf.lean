/-
  Fold of the reference.
-/
import Derived.Test.YtahmpagolmodhaaIe
namespace Go.Proofs.Ytahmpagolmodhaa
open Go.RowKit
set_option linter.unusedVariables false
set_option linter.unusedSimpArgs false

/-- The first k sheets. -/
def upTo (p h k : Nat) : List Sh := (List.range k).map (shT p h)
theorem upTo_len (p h k : Nat) : (upTo p h k).length = k := by unfold upTo; simp
/-- Sheet i of quire q. -/
theorem shT_at {p h q i : Nat} (hi : i < h) {a b : Nat} (ha : q * (2 * h) + 1 + i = a) (hb : q * (2 * h) + 2 * h - i = b) :
    shT p h (q * h + i) = ⟨(q : Int), (numT p (2 * b) : Nat), (numT p (2 * a - 1) : Nat), (numT p (2 * a) : Nat), (numT p (2 * b - 1) : Nat)⟩ := by
  have e1 : (q * h + i) / h = q := by rw [Nat.add_comm, Nat.mul_comm, Nat.add_mul_div_left _ _ (by omega), Nat.div_eq_of_lt hi, Nat.zero_add]
  have e2 : (q * h + i) % h = i := by rw [Nat.add_comm, Nat.mul_comm, Nat.add_mul_mod_self_left, Nat.mod_eq_of_lt hi]
  unfold shT lfA lfB
  rw [e1, e2, show (q + 1) * (2 * h) = q * (2 * h) + 2 * h from Nat.succ_mul _ _, ha, hb]
theorem upTo_next {p h q i : Nat} (hi : i < h) {a b : Nat} (ha : q * (2 * h) + 1 + i = a) (hb : q * (2 * h) + 2 * h - i = b) :
    upTo p h (q * h + (i + 1)) = upTo p h (q * h + i) ++ [⟨(q : Int), (numT p (2 * b) : Nat), (numT p (2 * a - 1) : Nat), (numT p (2 * a) : Nat), (numT p (2 * b - 1) : Nat)⟩] := by
  rw [← shT_at hi ha hb]; exact range_snoc _ _
def FoO (p h Q : Nat) (w : World) (v7 v8 : Value) (wr : World) : Prop := ∃ q : Nat, q ≤ Q ∧ v8 = .int .i64 (q : Int) ∧ OwnR srE wr w.heap.size v7 (upTo p h (q * h)) ∧ Below w.heap.size w wr
def FoI (p h q : Nat) (w : World) (v7 v9 : Value) (wr : World) : Prop := ∃ i : Nat, i ≤ h ∧ v9 = .int .i64 (i : Int) ∧ OwnR srE wr w.heap.size v7 (upTo p h (q * h + i)) ∧ Below w.heap.size w wr

set_option maxHeartbeats 2000000 in
set_option maxRecDepth 100000 in
theorem rfold_bad (p l : Int) (hv : volE p l ≠ 0) (w : World) : Calls Try.prog 13 #[.int .i64 p, .int .i64 l] w (LstR srE [] (volE p l) w) := by
  have C := Lib.hid (rerror_any p l)
  generalize volE p l = v at *
  go_enter Try.func13, Try.ntmps13
  go_wp2_with (first | (go_at_call 39; refine (C.out _).mono ?_; rintro _ w2 ⟨rfl, rfl⟩))
  go_ret2
  exact ⟨_, rfl, OwnR.nil _ _ _, Below.refl _ _⟩
set_option maxHeartbeats 4000000 in
set_option maxRecDepth 100000 in
theorem rfold_any (p h : Nat) (hp : p ≤ 999) (h1 : 1 ≤ h) (h8 : h ≤ 8) (w : World) : Calls Try.prog 13 #[.int .i64 (p : Int), .int .i64 ((2 * h : Nat) : Int)] w (LstR srE (foldM p h) 0 w) := by
  have hv : volE (p : Int) ((2 * h : Nat) : Int) = 0 := by unfold volE; rw [if_neg (by omega), if_neg (by omega)]
  have C := Lib.hid (rerror_any (p : Int) ((2 * h : Nat) : Int))
  rw [hv] at C
  have G := Lib.hid (rcount_any p h hp h1 h8)
  have S := Lib.hid (fun (n : Nat) (V : World) => rshown_any p n V)
  have HN := Lib.hid (fun (q i a b : Nat) (hi : i < h) (ha : q * (2 * h) + 1 + i = a) (hb : q * (2 * h) + 2 * h - i = b) => upTo_next (p := p) hi ha hb)
  rw [show foldM p h = upTo p h (qnT p h * h) from rfl]
  have hq9 := qnT_le p h hp h1 h8
  have h6 := qnT_leaves p h hp h1 h8
  obtain ⟨Q, hQ⟩ : ∃ Q, qnT p h = Q := ⟨_, rfl⟩
  obtain ⟨l, hl⟩ : ∃ l, 2 * h = l := ⟨_, rfl⟩
  have e3 : l ≤ 16 := by omega
  have e4 : (l : Int) / 2 = (h : Int) := by omega
  rw [hQ] at G hq9 h6 ⊢
  rw [hl] at C G h6 HN ⊢
  have H6 := Lib.hid h6
  have HLH := Lib.hid hl
  clear hv hQ hl h6
  go_enter Try.func13, Try.ntmps13
  go_wp2_with (first | (go_at_call 39; refine (C.out _).mono ?_; rintro _ w2 ⟨rfl, rfl⟩))
  go_loopw [7, 8] (fun v7 v8 wr => FoO p h Q w v7 v8 wr) (fun _ v _ => Q - (intOf v).toNat)
  case atStart => exact ⟨0, Nat.zero_le _, rfl, by rw [Nat.zero_mul]; exact OwnR.nil _ _ _, Below.refl _ _⟩
  case round =>
    obtain ⟨q, hq, rfl, hO, hB⟩ := hrel
    rcases Nat.lt_or_ge q Q with hlt | hge
    · have hltz : (q : Int) < (Q : Int) := by omega
      obtain ⟨t, ht⟩ : ∃ t, q * l = t := ⟨_, rfl⟩
      have e1 : (q : Int) * (l : Int) = (t : Int) := by rw [← ht]; exact (Int.natCast_mul q l).symm
      have ht6 : t ≤ 600 := by rw [← ht]; exact Nat.le_trans (Nat.mul_le_mul_right l hq) H6.out
      have HT := Lib.hid ht
      clear ht
      go_wp2_with (first | (go_at_call 33; refine (G.out _).mono ?_; rintro _ w2 ⟨rfl, rfl⟩))
      obtain ⟨wo, rfl⟩ : ∃ wo, wo = wr := ⟨_, rfl⟩
      go_loopw [7, 9] (fun v7 v9 wr => FoI p h q w v7 v9 wr) (fun _ v _ => h - (intOf v).toNat)
      case atStart => exact ⟨0, Nat.zero_le _, rfl, hO, hB⟩
      case round =>
        clear hO hB
        obtain ⟨i, hi, rfl, hO, hB⟩ := hrel
        have hz := hB.size
        rcases Nat.lt_or_ge i h with hlt2 | hge2
        · have hlt2z : (i : Int) < (h : Int) := by omega
          obtain ⟨a, ha⟩ : ∃ a, t + 1 + i = a := ⟨_, rfl⟩
          obtain ⟨b, hb⟩ : ∃ b, t + l - i = b := ⟨_, rfl⟩
          have HX := Lib.hid (HN.out q i a b hlt2 (by rw [HT.out]; exact ha) (by rw [HT.out]; exact hb))
          have SB2 := Lib.hid (S.out (2 * b))
          have SA1 := Lib.hid (S.out (2 * a - 1))
          have SA2 := Lib.hid (S.out (2 * a))
          have SB1 := Lib.hid (S.out (2 * b - 1))
          have hll := HLH.out
          generalize numT p (2 * b) = nb2 at HX SB2
          generalize numT p (2 * a - 1) = na1 at HX SA1
          generalize numT p (2 * a) = na2 at HX SA2
          generalize numT p (2 * b - 1) = nb1 at HX SB1
          obtain ⟨b2, hb2⟩ : ∃ b2, 2 * b = b2 := ⟨_, rfl⟩
          obtain ⟨a2, ha2⟩ : ∃ a2, 2 * a = a2 := ⟨_, rfl⟩
          rw [hb2] at SB2 SB1
          rw [ha2] at SA2 SA1
          obtain ⟨b1, hb1⟩ : ∃ b1, b2 - 1 = b1 := ⟨_, rfl⟩
          obtain ⟨a1, ha1⟩ : ∃ a1, a2 - 1 = a1 := ⟨_, rfl⟩
          rw [hb1] at SB1
          rw [ha1] at SA1
          have f1 : (t : Int) + 1 + (i : Int) = (a : Int) := by omega
          have f2 : (t : Int) + (l : Int) - (i : Int) = (b : Int) := by omega
          have f3 : 2 * (b : Int) = (b2 : Int) := by omega
          have f4 : 2 * (a : Int) = (a2 : Int) := by omega
          have f5 : (b2 : Int) - 1 = (b1 : Int) := by omega
          have f6 : (a2 : Int) - 1 = (a1 : Int) := by omega
          have f7 : a ≤ 700 := by omega
          have f8 : b ≤ 700 := by omega
          have f9 : b2 ≤ 1400 := by omega
          have f10 : a2 ≤ 1400 := by omega
          have hle : (upTo p h (q * h + i)).length ≤ 1000000000000 := by
            rw [upTo_len]
            have : q * h ≤ 250 * h := Nat.mul_le_mul_right h (by omega)
            omega
          generalize upTo p h (q * h + i) = acc at *
          clear ha hb hll hb2 ha2 hb1 ha1
          go_wp2_with (first
            | (go_at_call_of 41 (Value.int IntKind.i64 (b2 : Int)); refine (SB2.out _).mono ?_; rintro _ w2 ⟨rfl, rfl⟩)
            | (go_at_call_of 41 (Value.int IntKind.i64 (a1 : Int)); refine (SA1.out _).mono ?_; rintro _ w2 ⟨rfl, rfl⟩)
            | (go_at_call_of 41 (Value.int IntKind.i64 (a2 : Int)); refine (SA2.out _).mono ?_; rintro _ w2 ⟨rfl, rfl⟩)
            | (go_at_call_of 41 (Value.int IntKind.i64 (b1 : Int)); refine (SB1.out _).mono ?_; rintro _ w2 ⟨rfl, rfl⟩)
            | (at_builtin; refine push_el srE rfl (.tmp 44) (.tmp 67) rfl acc ⟨(q : Int), (nb2 : Int), (na1 : Int), (na2 : Int), (nb1 : Int)⟩ _ rfl hO hz _ rfl _ rfl hle ?_; intro v6 W6 hO6 hB7 hR6))
          exact ⟨⟨i + 1, by omega, by go_num, by rw [HX.out]; exact hO6, hB.trans hB7⟩, by simp [intOf]; omega⟩
        · obtain rfl : i = h := by omega
          have hlt2z : ¬ (i : Int) < (i : Int) := by omega
          go_wp2
          exact ⟨⟨q + 1, by omega, by go_num, by rw [Nat.succ_mul]; exact hO, hB⟩, by simp [intOf]; omega⟩
    · obtain rfl : q = Q := by omega
      have hltz : ¬ (q : Int) < (q : Int) := by omega
      go_wp2_with (first | (go_at_call 33; refine (G.out _).mono ?_; rintro _ w2 ⟨rfl, rfl⟩))
      go_ret2
      exact ⟨_, rfl, hO, hB⟩
end Go.Proofs.Ytahmpagolmodhaa
