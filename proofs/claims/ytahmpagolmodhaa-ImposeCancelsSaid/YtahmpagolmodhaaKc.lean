/-
  has; what ImposeCancels asks: plain mathematics.
-/
import Derived.Test.YtahmpagolmodhaaIl
import Derived.Test.YtahmpagolmodhaaIq
namespace Go.Proofs.Ytahmpagolmodhaa
open Go.RowKit
set_option linter.unusedVariables false
set_option linter.unusedSimpArgs false

theorem shsE_append (p h : Nat) (c d : List Int) : shsE p h (c ++ d) = 0 ↔ shsE p h c = 0 ∧ shsE p h d = 0 := by
  unfold shsE
  rw [List.all_append]
  cases c.all (inT p h) <;> cases d.all (inT p h) <;> simp
theorem shsE_all {p h : Nat} {c : List Int} (e : shsE p h c = 0) : c.all (inT p h) = true := by
  unfold shsE at e
  split at e
  · assumption
  · omega
theorem shsE_or (p h : Nat) (c : List Int) : shsE p h c = 0 ∨ shsE p h c = 5 := by unfold shsE; split <;> simp
theorem shsL_len {p h : Nat} (h1 : 1 ≤ h) (h8 : h ≤ 8) (c : List Int) : (shsL p h c).length ≤ c.length := by
  unfold shsL
  split
  · next e => rw [List.length_map]; exact shsT_len h1 h8 e
  · exact Nat.zero_le _
theorem shsL_few {p h : Nat} (hp : p ≤ 999) (h1 : 1 ≤ h) (h8 : h ≤ 8) (c : List Int) : (shsL p h c).length ≤ 600 := by
  unfold shsL
  split
  · rw [List.length_map]
    have h2 := List.length_filter_le (hasT c h) (List.range (qnT p h * h))
    have h6 := qnT_leaves p h hp h1 h8
    have h7 : qnT p h * (2 * h) = 2 * (qnT p h * h) := Nat.mul_left_comm _ _ _
    rw [List.length_range] at h2
    unfold shsT
    omega
  · exact Nat.zero_le _
theorem mem_shsL {p h : Nat} {c : List Int} (e : shsE p h c = 0) {z : Int} : z ∈ shsL p h c ↔ ∃ k : Nat, z = (k : Int) ∧ k < qnT p h * h ∧ hasT c h k = true := by
  unfold shsL
  rw [if_pos (shsE_all e), List.mem_map]
  constructor
  · rintro ⟨k, hk, rfl⟩; exact ⟨k, rfl, mem_shsT.1 hk⟩
  · rintro ⟨k, rfl, hk⟩; exact ⟨k, mem_shsT.2 hk, rfl⟩
/-- The sheets of both lists together. -/
theorem mem_both {p h : Nat} {c d : List Int} (e1 : shsE p h c = 0) (e2 : shsE p h d = 0) {z : Int} : z ∈ shsL p h (c ++ d) ↔ z ∈ shsL p h c ∨ z ∈ shsL p h d := by
  rw [mem_shsL ((shsE_append p h c d).2 ⟨e1, e2⟩), mem_shsL e1, mem_shsL e2]
  constructor
  · rintro ⟨k, rfl, hk, ht⟩
    rw [hasT_append, Bool.or_eq_true] at ht
    rcases ht with ht | ht
    · exact Or.inl ⟨k, rfl, hk, ht⟩
    · exact Or.inr ⟨k, rfl, hk, ht⟩
  · rintro (⟨k, rfl, hk, ht⟩ | ⟨k, rfl, hk, ht⟩)
    · exact ⟨k, rfl, hk, by rw [hasT_append, ht]; rfl⟩
    · exact ⟨k, rfl, hk, by rw [hasT_append, ht, Bool.or_true]⟩
theorem shsL_up {p h : Nat} {c : List Int} {i : Nat} {x y : Int} (hx : (shsL p h c)[i]? = some x) (hy : (shsL p h c)[i + 1]? = some y) : x < y := by
  unfold shsL at hx hy
  split at hx
  · rename_i e
    rw [if_pos e] at hy
    rw [List.getElem?_map] at hx hy
    obtain ⟨a, ha, rfl⟩ := Option.map_eq_some_iff.1 hx
    obtain ⟨b, hb, rfl⟩ := Option.map_eq_some_iff.1 hy
    have hs := shsT_sorted p h c
    obtain ⟨ga, ea⟩ := List.getElem?_eq_some_iff.1 ha
    obtain ⟨gb, eb⟩ := List.getElem?_eq_some_iff.1 hb
    have := List.pairwise_iff_getElem.1 hs i (i + 1) ga gb (by omega)
    rw [ea, eb] at this
    omega
  · simp at hx
theorem shsL_in {p h : Nat} (hp : p ≤ 999) (h1 : 1 ≤ h) (h8 : h ≤ 8) {c : List Int} (e : shsE p h c = 0) : ∀ z ∈ shsL p h c, 0 ≤ z ∧ z ≤ 600 := by
  intro z hz
  obtain ⟨k, rfl, hk, _⟩ := (mem_shsL e).1 hz
  have h6 := qnT_leaves p h hp h1 h8
  have h7 : qnT p h * (2 * h) = 2 * (qnT p h * h) := Nat.mul_left_comm _ _ _
  omega

def HasRel (L : List Int) (x : Int) (n : Nat) (w : World) (v : Value) (wr : World) : Prop := ∃ k : Nat, v = .int .i64 (k : Int) ∧ k ≤ n ∧ Hid (x ∉ L.take k) ∧ w = wr
set_option maxHeartbeats 2000000 in
set_option maxRecDepth 100000 in
theorem has_any (L : List Int) (x : Int) (q : Option Addr) (n c : Nat) (hl : L.length = n) (hn6 : n ≤ 1000000000000) (w : World) (hA : At intE w q L) :
    Calls Try.prog 35 #[.slice q n c, .int .i64 x] w (fun e w' => e = .returned (.bool (decide (x ∈ L))) ∧ w = w') := by
  have HN := Lib.hid hl
  clear hl
  go_enter Try.func35, Try.ntmps35
  go_wp2
  go_loopw [5] (fun v wr => HasRel L x n w v wr) (fun v _ => n - (intOf v).toNat)
  case atStart => exact ⟨0, rfl, by omega, Lib.hid (by simp), rfl⟩
  case round =>
    obtain ⟨k, rfl, hk, HT, rfl⟩ := hrel
    by_cases hlt : k < n
    · have hltz : (k : Int) < (n : Int) := by omega
      obtain ⟨y, hy⟩ : ∃ y, L[k]? = some y := ⟨_, List.getElem?_eq_getElem (by rw [HN.out]; exact hlt)⟩
      obtain ⟨b, off, rfl, hL⟩ := hA.get (i := k) (by rw [HN.out]; exact hlt)
      have cy : w.cell? ⟨b, off + k, none⟩ = some (.int .i64 y) := by
        have := hL.2 k y 0 _ hy rfl
        have e9 : off + k * intE.k + 0 = off + k := by show off + k * 1 + 0 = off + k; omega
        rwa [e9] at this
      by_cases hxy : y = x
      · subst hxy
        have HM := Lib.hid (decide_eq_true (List.mem_of_getElem? hy))
        clear hy HT
        go_wp2
        go_ret
        exact ⟨by rw [HM.out]; rfl, rfl⟩
      · have HK : Hid (x ∉ L.take (k + 1)) := Lib.hid (by
          rw [List.take_add_one, hy]
          intro hm
          rcases List.mem_append.1 hm with h | h
          · exact HT.out h
          · simp at h; exact hxy h.symm)
        clear hy HT
        go_wp2
        exact ⟨⟨k + 1, by go_num, by omega, HK, rfl⟩, by simp [intOf]; omega⟩
    · have hltz : ¬ (k : Int) < (n : Int) := by omega
      have HM : Hid (decide (x ∈ L) = false) := Lib.hid (decide_eq_false (by
        have := HT.out
        rwa [List.take_of_length_le (by rw [HN.out]; omega)] at this))
      clear HT
      go_wp2
      go_ret
      exact ⟨by rw [HM.out]; rfl, rfl⟩
end Go.Proofs.Ytahmpagolmodhaa
