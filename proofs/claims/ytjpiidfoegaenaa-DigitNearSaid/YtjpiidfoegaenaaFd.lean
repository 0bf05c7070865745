/-
  Slips of checked strings are found, and the string is near: plain mathematics.
-/
import Derived.Test.YtjpiidfoegaenaaFc
import Derived.Test.YtjpiidfoegaenaaEi
namespace Go.Proofs.Ytjpiidfoegaenaa
set_option linter.unusedVariables false
set_option linter.unusedSimpArgs false

theorem chk_zero {bs : List Nat} (h : chkS bs = 0) : 2 ≤ bs.length ∧ bs.length ≤ 64 ∧ okS bs = true ∧ restT (bs.map valT) = 0 := by
  unfold chkS at h
  split at h
  · cases h
  · rename_i h1
    simp only [not_or] at h1
    split at h
    · cases h
    · split at h
      · cases h
      · rename_i h2 h3
        refine ⟨by omega, by omega, by simpa using h1.2, Classical.not_not.1 h3⟩
theorem chk_is {bs : List Nat} (h1 : 2 ≤ bs.length) (h2 : bs.length ≤ 64) (h3 : okS bs = true) : chkS bs = if restT (bs.map valT) ≠ 0 then 9 else 0 := by
  unfold chkS
  rw [if_neg (by rw [h3]; simp; omega), if_neg (by omega)]
theorem okS_mem {bs : List Nat} (h : okS bs = true) {c : Nat} (hc : c ∈ bs) : 0 ≤ valT c ∧ valT c ≤ 30 := ⟨of_decide_eq_true (List.all_eq_true.1 h c hc), (valT_in c).2⟩
theorem okS_set {bs : List Nat} (h : okS bs = true) (i : Nat) {c : Nat} (hc : 0 ≤ valT c) : okS (bs.set i c) = true := by
  unfold okS
  rw [List.all_eq_true]
  intro x hx
  rcases List.mem_or_eq_of_mem_set hx with h1 | h1
  · exact List.all_eq_true.1 h x h1
  · rw [h1]; exact decide_eq_true hc
theorem val_alph : ∀ k, k < 31 → valT (alphN k) = (k : Int) := by decide +kernel
theorem set_self {bs : List Nat} {i a : Nat} (h : bs[i]? = some a) : bs.set i a = bs := by
  obtain ⟨hi, rfl⟩ := List.getElem?_eq_some_iff.1 h
  exact List.set_getElem_self hi
/-- A substitution is found. -/
theorem sub_nine {bs : List Nat} (h : chkS bs = 0) {i c : Nat} (hi : i < bs.length) (hc : 0 ≤ valT c) (hne : bs.set i c ≠ bs) : chkS (bs.set i c) = 9 := by
  obtain ⟨h1, h2, h3, h4⟩ := chk_zero h
  rw [chk_is (by simpa using h1) (by simpa using h2) (okS_set h3 i hc), if_pos]
  intro e
  obtain ⟨a, ha⟩ : ∃ a, bs[i]? = some a := ⟨_, List.getElem?_eq_getElem hi⟩
  have hm : (bs.map valT)[i]? = some (valT a) := by rw [List.getElem?_map, ha]; rfl
  rw [List.map_set] at e
  have := set_sum hm ⟨hc, (valT_in c).2⟩ (okS_mem h3 (List.mem_of_getElem? ha)) e (by
    rw [show (bs.map valT).set i (valT a) = (bs.set i a).map valT by rw [List.map_set], set_self ha]; exact h4)
  have := val_inj hc this
  rw [this, set_self ha] at hne
  exact hne rfl
/-- An exchange is found. -/
theorem swap_nine {bs : List Nat} (h : chkS bs = 0) {i : Nat} (hi : i + 1 < bs.length) (hne : swapT bs i ≠ bs) : chkS (swapT bs i) = 9 := by
  obtain ⟨h1, h2, h3, h4⟩ := chk_zero h
  obtain ⟨a, ha⟩ : ∃ a, bs[i]? = some a := ⟨_, List.getElem?_eq_getElem (by omega)⟩
  obtain ⟨c, hc⟩ : ∃ c, bs[i + 1]? = some c := ⟨_, List.getElem?_eq_getElem hi⟩
  have ia := okS_mem h3 (List.mem_of_getElem? ha)
  have ic := okS_mem h3 (List.mem_of_getElem? hc)
  have es : swapT bs i = (bs.set i c).set (i + 1) a := by unfold swapT; rw [ha, hc]; rfl
  rw [es] at hne ⊢
  rw [chk_is (by simpa using h1) (by simpa using h2) (okS_set (okS_set h3 i ic.1) (i + 1) ia.1), if_pos]
  intro e
  rw [List.map_set, List.map_set] at e
  have := swap_sum (by rw [List.getElem?_map, ha]; rfl) (by rw [List.getElem?_map, hc]; rfl) ia ic h4 e
  have := val_inj ia.1 this
  subst this
  rw [set_self ha, set_self hc] at hne
  exact hne rfl
theorem mem_sub {bs : List Nat} {n i k : Nat} (hi : i < n) (hk : k < 31) (h : chkS (bs.set i (alphN k)) = 0) : strOf (bs.set i (alphN k)) ∈ foundT bs n := by
  unfold foundT
  refine List.mem_flatMap.2 ⟨i, List.mem_range.2 hi, ?_⟩
  unfold rowT kRow
  refine List.mem_append_left _ (List.mem_flatMap.2 ⟨k, List.mem_range.2 hk, ?_⟩)
  unfold passT
  rw [if_pos h]
  exact List.mem_singleton.2 rfl
theorem mem_swap {bs : List Nat} {n i : Nat} (hi : i < n) (hi1 : i + 1 < bs.length) (h : chkS (swapT bs i) = 0) : strOf (swapT bs i) ∈ foundT bs n := by
  unfold foundT
  refine List.mem_flatMap.2 ⟨i, List.mem_range.2 hi, ?_⟩
  unfold rowT
  refine List.mem_append_right _ ?_
  rw [if_pos hi1]
  unfold passT
  rw [if_pos h]
  exact List.mem_singleton.2 rfl
theorem alph_val {c : Nat} (h : 0 ≤ valT c) : alphN (valT c).toNat = c := by
  unfold alphN
  rw [val_get h]
  rfl
/-- The slip back. -/
theorem back_sub {bs : List Nat} (h : chkS bs = 0) {i c : Nat} (hi : i < bs.length) : strOf bs ∈ foundT (bs.set i c) bs.length := by
  obtain ⟨h1, h2, h3, h4⟩ := chk_zero h
  obtain ⟨a, ha⟩ : ∃ a, bs[i]? = some a := ⟨_, List.getElem?_eq_getElem hi⟩
  have ia := okS_mem h3 (List.mem_of_getElem? ha)
  have e : (bs.set i c).set i (alphN (valT a).toNat) = bs := by rw [List.set_set, alph_val ia.1, set_self ha]
  have := mem_sub (bs := bs.set i c) (n := bs.length) (i := i) (k := (valT a).toNat) hi (by omega) (by rw [e]; exact h)
  rwa [e] at this
theorem swap_swap {bs : List Nat} {i : Nat} (hi : i + 1 < bs.length) : swapT (swapT bs i) i = bs := by
  obtain ⟨a, ha⟩ : ∃ a, bs[i]? = some a := ⟨_, List.getElem?_eq_getElem (by omega)⟩
  obtain ⟨c, hc⟩ : ∃ c, bs[i + 1]? = some c := ⟨_, List.getElem?_eq_getElem hi⟩
  have es : swapT bs i = (bs.set i c).set (i + 1) a := by unfold swapT; rw [ha, hc]; rfl
  rw [es]
  unfold swapT
  have e1 : ((bs.set i c).set (i + 1) a)[i + 1]? = some a := by rw [List.getElem?_set_self (by simpa using hi)]
  have e2 : ((bs.set i c).set (i + 1) a)[i]? = some c := by rw [List.getElem?_set_ne (by omega), List.getElem?_set_self (by omega)]
  rw [e1, e2]
  show ((((bs.set i c).set (i + 1) a).set i a).set (i + 1) c) = bs
  rw [List.set_comm _ _ (by omega : i + 1 ≠ i), List.set_set, List.set_set, set_self ha, set_self hc]
theorem back_swap {bs : List Nat} (h : chkS bs = 0) {i : Nat} (hi : i + 1 < bs.length) : strOf bs ∈ foundT (swapT bs i) bs.length := by
  have hl : (swapT bs i).length = bs.length := by unfold swapT; simp
  have := mem_swap (bs := swapT bs i) (n := bs.length) (i := i) (by omega) (by rw [hl]; exact hi) (by rw [swap_swap hi]; exact h)
  rwa [swap_swap hi] at this
end Go.Proofs.Ytjpiidfoegaenaa
