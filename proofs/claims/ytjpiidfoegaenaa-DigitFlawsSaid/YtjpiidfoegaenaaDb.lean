/-
  Value, of the program and of the reference.
-/
import Derived.Test.YtjpiidfoegaenaaSa
import Derived.Test.YtjpiidfoegaenaaDa
import Derived.Laws.RangeString
import Derived.Laws.Runes
namespace Go.Proofs.Ytjpiidfoegaenaa
open Go.RowKit
set_option linter.unusedVariables false
set_option linter.unusedSimpArgs false

def alphB : ByteArray := ⟨#[48, 49, 50, 51, 52, 53, 54, 55, 56, 57, 65, 66, 67, 68, 69, 70, 71, 72, 74, 75, 76, 77, 78, 80, 81, 82, 83, 84, 85, 86, 88]⟩
theorem below_iter (w : World) (s : ByteArray) (pos : Nat) : Below w.heap.size w (w.iter s pos) := (Below.refl _ w).alloc (Nat.le_refl _) (.stringIter s pos)
theorem valF_get : ∀ {l : List Nat} {i c : Nat} (j : Nat), l[j]? = some c → (∀ k, k < j → l[k]? ≠ some c) → valF l i c = ((i + j : Nat) : Int)
  | [], i, c, j, h, _ => by simp at h
  | x :: r, i, c, 0, h, _ => by
    rw [List.getElem?_cons_zero] at h
    injection h with h
    unfold valF
    rw [if_pos h]
    rfl
  | x :: r, i, c, j + 1, h, hn => by
    have h0 : x ≠ c := fun e => hn 0 (by omega) (by rw [List.getElem?_cons_zero, e])
    unfold valF
    rw [if_neg h0, valF_get j (by simpa using h) (fun k hk => by have := hn (k + 1) (by omega); simpa using this)]
    omega
theorem valF_none : ∀ {l : List Nat} {i c : Nat}, (∀ x ∈ l, x ≠ c) → valF l i c = -1
  | [], i, c, _ => rfl
  | x :: r, i, c, h => by
    unfold valF
    rw [if_neg (h x List.mem_cons_self), valF_none fun y hy => h y (List.mem_cons_of_mem _ hy)]
/-- The call answers a number. -/
def IntR (x : Int) (w : World) (e : Ending) (w' : World) : Prop := e = .returned (.int .i64 x) ∧ Below w.heap.size w w'
/-- c is none of the first k characters. -/
def Not (c k : Nat) : Prop := ∀ j, j < k → alph[j]? ≠ some c
theorem not_step {c k : Nat} (h : Not c k) {y : Nat} (hy : alph[k]? = some y) (hne : y ≠ c) : Not c (k + 1) := fun j hj => by
  rcases Nat.lt_or_ge j k with h1 | h1
  · exact h j h1
  · obtain rfl : j = k := by omega
    rw [hy]
    intro e
    injection e with e
    exact hne e
theorem val_yes {c k : Nat} (h : Not c k) (hk : alph[k]? = some c) : valT c = (k : Int) := by
  have := valF_get (i := 0) k hk h
  rw [Nat.zero_add] at this
  exact this
theorem val_no {c : Nat} (h : Not c 31) : valT c = -1 := valF_none fun x hx e => by
  obtain ⟨j, hj⟩ := List.mem_iff_getElem?.1 hx
  have hl : j < 31 := (List.getElem?_eq_some_iff.1 hj).1
  exact h j hl (by rw [hj, e])
theorem alph_dec : ∀ k : Nat, k < 31 → ∃ y, alph[k]? = some y ∧ y < 128 ∧ Utf8.decode alphB k = (y, 1) := by
  intro k hk
  have h0 : k < alphB.size := hk
  refine ⟨(alphB[k]'h0).toNat, ?_, ?_, ?_⟩
  · revert k; decide
  · revert k; decide
  · exact decode_ascii alphB k h0 (by revert k; decide)
def VRel (c : Nat) (w : World) (wr : World) : Prop := ∃ k : Nat, k ≤ 31 ∧ wr = w.iter alphB k ∧ Not c k
set_option maxHeartbeats 1000000 in
set_option maxRecDepth 100000 in
theorem value_any (c : Nat) (hc : c < 256) (w : World) : Calls Try.prog 14 #[.int .u8 (c : Int)] w (IntR (valT c) w) := by
  go_enter Try.func14, Try.ntmps14
  go_wp2
  go_loopw [3, 4] (fun _ _ wr => VRel c w wr) (fun _ _ w' => 31 - w'.iterPos w.heap.size)
  case atStart => exact ⟨0, by omega, rfl, fun j hj => absurd hj (by omega)⟩
  case round =>
    obtain ⟨k, hk, rfl, hN⟩ := hrel
    rcases Nat.lt_or_ge k 31 with hlt | hge
    · obtain ⟨y, hy, hy128, hdec⟩ := alph_dec k hlt
      have hnx : ∀ ty, (Instr.next (.pointer (some ⟨w.heap.size, 0, none⟩)) true ty).run Try.prog (w.iter alphB k) = _ := fun ty => run_next_any w alphB k ty hlt
      rw [hdec] at hnx
      by_cases hyc : y = c
      · have HV := Lib.hid (val_yes hN (by rw [hy, hyc]))
        subst hyc
        clear hdec hN hy
        go_wp2
        go_ret
        exact ⟨by rw [HV.out]; first | done | rfl, below_iter _ _ _⟩
      · have hN1 := Lib.hid (not_step hN hy hyc)
        have hne : ¬ ((y : Nat) : Int) = (c : Int) := by omega
        clear hdec hN hy
        go_wp2
        exact ⟨⟨k + 1, by omega, rfl, hN1.out⟩, by simp; omega⟩
    · obtain rfl : k = 31 := by omega
      have hnx : ∀ ty, (Instr.next (.pointer (some ⟨w.heap.size, 0, none⟩)) true ty).run Try.prog (w.iter alphB 31) = _ := fun ty => run_next_end w alphB 31 ty (by decide)
      have HV := Lib.hid (val_no hN)
      clear hN
      go_wp2
      go_ret
      exact ⟨by rw [HV.out]; first | done | rfl, below_iter _ _ _⟩
theorem alphabet_any (w : World) : Calls Try.prog 37 #[] w fun e w' => e = .returned (.string alphB) ∧ w = w' := by
  go_enter Try.func37, Try.ntmps37
  go_wp2
  go_ret
  exact ⟨rfl, rfl⟩
theorem alph_at : ∀ k : Nat, (h : k < alphB.size) → alph[k]? = some (alphB[k]'h).toNat := by decide
def RvRel (c : Nat) (w : World) (v : Value) (wr : World) : Prop := ∃ k : Nat, k ≤ 31 ∧ v = .int .i64 (k : Int) ∧ Not c k ∧ w = wr
set_option maxHeartbeats 1000000 in
set_option maxRecDepth 100000 in
theorem rvalue_any (c : Nat) (hc : c < 256) (w : World) : Calls Try.prog 15 #[.int .u8 (c : Int)] w (IntR (valT c) w) := by
  have CA := Lib.hid (fun V => alphabet_any V)
  have HA := Lib.hid alph_at
  have h31 : alphB.size = 31 := rfl
  go_enter Try.func15, Try.ntmps15
  generalize alphB = s at *
  go_wp2_with (go_at_call 37; refine (CA.out _).mono ?_; rintro _ _ ⟨rfl, rfl⟩)
  go_loopw [4] (fun v wr => RvRel c w v wr) (fun v _ => 31 - (intOf v).toNat)
  case atStart => exact ⟨0, by omega, rfl, fun j hj => absurd hj (by omega), rfl⟩
  case round =>
    obtain ⟨k, hk, rfl, hN, rfl⟩ := hrel
    rcases Nat.lt_or_ge k 31 with hlt | hge
    · have hltz : (k : Int) < 31 := by omega
      have hin : k < s.size := by omega
      have hy := HA.out k hin
      obtain ⟨y, hy0⟩ : ∃ y, (s[k]'hin).toNat = y := ⟨_, rfl⟩
      have hyz : (((s[k]'hin).toNat : Nat) : Int) = (y : Int) := by rw [hy0]
      rw [hy0] at hy
      by_cases hyc : y = c
      · have HV := Lib.hid (val_yes hN (by rw [hy, hyc]))
        subst hyc
        clear hN hy
        go_wp2
        go_ret
        exact ⟨by rw [HV.out]; first | done | rfl, Below.refl _ _⟩
      · have hN1 := Lib.hid (not_step hN hy hyc)
        have hne : ¬ ((y : Nat) : Int) = (c : Int) := by omega
        clear hN hy
        go_wp2
        exact ⟨⟨k + 1, by omega, by go_num, hN1.out, rfl⟩, by simp [intOf]; omega⟩
    · obtain rfl : k = 31 := by omega
      have HV := Lib.hid (val_no hN)
      clear hN
      go_wp2
      go_ret
      exact ⟨by rw [HV.out]; first | done | rfl, Below.refl _ _⟩
end Go.Proofs.Ytjpiidfoegaenaa
