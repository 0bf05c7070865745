/-
  How many strings are near, and which: plain mathematics.
-/
import Derived.Test.YtjpiidfoegaenaaFd
import Derived.Test.YtjpiidfoegaenaaFa
import Derived.Test.YtjpiidfoegaenaaFb
namespace Go.Proofs.Ytjpiidfoegaenaa
set_option linter.unusedVariables false
set_option linter.unusedSimpArgs false

theorem bsL_inj {x y : ByteArray} (h : x.data.toList = y.data.toList) : x = y := by
  obtain ⟨⟨l⟩⟩ := x
  obtain ⟨⟨m⟩⟩ := y
  have : l = m := h
  rw [this]
theorem mem_comp {F : List ByteArray} {x : ByteArray} : x ∈ compL (sortL F) ↔ x ∈ F := by
  have h := (comp_sort F).2
  have e : ∀ L : List ByteArray, (∃ y ∈ L, y = x) ↔ x ∈ L := fun L => ⟨fun ⟨y, h1, h2⟩ => h2 ▸ h1, fun h => ⟨x, h, rfl⟩⟩
  constructor
  · intro hx
    have : x.data.toList ∈ bsL (compL (sortL F)) := List.mem_map.2 ⟨x, hx, by first | rfl | (simp)⟩
    obtain ⟨y, hy, hxy⟩ := List.mem_map.1 ((h _).1 this)
    rwa [← bsL_inj (x := y) (y := x) (by first | exact hxy | simpa using hxy)]
  · intro hx
    have : x.data.toList ∈ bsL F := List.mem_map.2 ⟨x, hx, by first | rfl | (simp)⟩
    obtain ⟨y, hy, hxy⟩ := List.mem_map.1 ((h _).2 this)
    rwa [← bsL_inj (x := y) (y := x) (by first | exact hxy | simpa using hxy)]
theorem nodup_len {α : Type} [DecidableEq α] : ∀ {l m : List α}, l.Nodup → (∀ x ∈ l, x ∈ m) → l.length ≤ m.length
  | [], m, _, _ => Nat.zero_le _
  | a :: l, m, h, hs => by
    have h1 := List.nodup_cons.1 h
    have hm := hs a List.mem_cons_self
    have := nodup_len (l := l) (m := m.erase a) h1.2 (fun x hx => (List.mem_erase_of_ne (fun e => h1.1 (by rw [← e]; exact hx))).2 (hs x (List.mem_cons_of_mem _ hx)))
    rw [List.length_erase_of_mem hm] at this
    have := List.length_pos_of_mem hm
    rw [List.length_cons]
    omega
theorem comp_len (F : List ByteArray) : (compL (sortL F)).length ≤ F.length := by
  obtain ⟨h1, h2⟩ := comp_sort F
  have := nodup_len (l := bsL (compL (sortL F))) (m := bsL F) (h1.imp fun h e => h.2 e) (fun x hx => (h2 x).1 hx)
  unfold bsL at this
  simpa using this
theorem sub_once {bs : List Nat} {i k k' : Nat} (hi : i < bs.length) (hk : k < 31) (hk' : k' < 31) (h : chkS (bs.set i (alphN k)) = 0) (h' : chkS (bs.set i (alphN k')) = 0) : k = k' := by
  obtain ⟨_, _, _, h4⟩ := chk_zero h
  obtain ⟨_, _, _, h4'⟩ := chk_zero h'
  obtain ⟨a, ha⟩ : ∃ a, bs[i]? = some a := ⟨_, List.getElem?_eq_getElem hi⟩
  rw [List.map_set, val_alph k hk] at h4
  rw [List.map_set, val_alph k' hk'] at h4'
  have := set_sum (by rw [List.getElem?_map, ha]; rfl) ⟨by omega, by omega⟩ ⟨by omega, by omega⟩ h4 h4'
  omega
theorem kRow_one {bs : List Nat} {i : Nat} (hi : i < bs.length) : ∀ K, K ≤ 31 → (kRow bs i K).length ≤ 1 ∧ (0 < (kRow bs i K).length → ∃ k, k < K ∧ chkS (bs.set i (alphN k)) = 0)
  | 0, _ => ⟨Nat.zero_le _, fun h => absurd h (Nat.lt_irrefl 0)⟩
  | K + 1, hK => by
    obtain ⟨h1, h2⟩ := kRow_one hi K (by omega)
    rw [kRow_snoc, List.length_append]
    unfold passT
    by_cases h : chkS (bs.set i (alphN K)) = 0
    · rw [if_pos h]
      have h0 : (kRow bs i K).length = 0 := by
        rcases Nat.eq_zero_or_pos (kRow bs i K).length with h3 | h3
        · exact h3
        · obtain ⟨k, hk, e⟩ := h2 h3
          have := sub_once hi (by omega) (by omega) e h
          omega
      exact ⟨by rw [h0]; exact Nat.le_refl _, fun _ => ⟨K, by omega, h⟩⟩
    · rw [if_neg h]
      exact ⟨by simpa using h1, fun h3 => by obtain ⟨k, hk, e⟩ := h2 (by simpa using h3); exact ⟨k, by omega, e⟩⟩
theorem rowT_two {bs : List Nat} {i : Nat} (hi : i < bs.length) : (rowT bs i).length ≤ 1 + (if i + 1 < bs.length then 1 else 0) := by
  have h1 := (kRow_one hi 31 (Nat.le_refl _)).1
  have h2 := passT_len (swapT bs i)
  unfold rowT
  rw [List.length_append]
  split
  · omega
  · simp; omega
theorem found_two {bs : List Nat} : ∀ j, j < bs.length → (foundT bs j).length ≤ 2 * j
  | 0, _ => Nat.le_refl _
  | j + 1, h => by
    have h1 := found_two (bs := bs) j (by omega)
    have h2 := rowT_two (bs := bs) (i := j) (by omega)
    rw [if_pos h] at h2
    rw [foundT_snoc, List.length_append]
    omega
theorem found_len {bs : List Nat} (h : 0 < bs.length) : (foundT bs bs.length).length ≤ 2 * bs.length - 1 := by
  obtain ⟨m, hm⟩ : ∃ m, bs.length = m + 1 := ⟨bs.length - 1, by omega⟩
  have h1 := found_two (bs := bs) m (by omega)
  have h2 := rowT_two (bs := bs) (i := m) (by omega)
  rw [if_neg (by omega)] at h2
  rw [hm, foundT_snoc, List.length_append]
  omega
/-- What is near a string with one slip: the string, and few others. -/
theorem near_slip {s t : ByteArray} (h9 : chkS (sb t) = 9) (hm : s ∈ foundT (sb t) (sb t).length) : s ∈ nearT t ∧ (nearT t).length ≤ 2 * t.size - 1 := by
  have hl : 0 < (sb t).length := by
    rcases Nat.eq_zero_or_pos (sb t).length with h | h
    · unfold chkS at h9
      rw [if_pos (Or.inl (by omega))] at h9
      cases h9
    · exact h
  unfold nearT
  rw [if_pos h9]
  refine ⟨mem_comp.2 hm, ?_⟩
  have h1 := comp_len (foundT (sb t) (sb t).length)
  have h2 := found_len hl
  rw [sb_length] at h1 h2 ⊢
  omega
theorem near_none {s : ByteArray} (h : chkS (sb s) = 0) : nearT s = [] := by
  unfold nearT
  rw [if_neg (by rw [h]; decide)]
theorem restF_snoc : ∀ (l : List Int) (s v : Int), restF (l ++ [v]) s = (restF l s * 3 + v) % 31
  | [], s, v => rfl
  | x :: l, s, v => restF_snoc l _ v
/-- What Add returns is checked. -/
theorem add_checked {s : ByteArray} (h : addE (sb s) = 0) : chkS (sb (addB s)) = 0 ∧ 2 ≤ (addB s).size ∧ (addB s).size = s.size + 1 := by
  have hk := lastN_in (sb s)
  have ha := alph_one (lastN (sb s)) hk
  have hE := h
  unfold addE at hE
  split at hE
  · cases hE
  · split at hE
    · cases hE
    · rename_i h1 h2
      simp only [not_or] at h1
      have hok : okS (sb s) = true := by simpa using h1.2
      have hn : (sb s).length = s.size := sb_length s
      have e : sb (addB s) = sb s ++ [alphN (lastN (sb s))] := by rw [addB_yes h, sb_app, ha.1]
      have hl : (sb (addB s)).length = s.size + 1 := by rw [e, List.length_append, hn]; rfl
      have hsz : (addB s).size = s.size + 1 := by rw [← sb_length, hl]
      refine ⟨?_, by omega, hsz⟩
      rw [chk_is (by omega) (by omega) (by rw [e, okS_app, hok, ha.2]; rfl), if_neg]
      rw [Classical.not_not, e, List.map_append, List.map_singleton, val_alph _ hk]
      unfold restT
      rw [restF_snoc]
      have h3 : (lastN (sb s) : Int) = (31 - restF ((sb s).map valT ++ [0]) 0) % 31 := by
        unfold lastN restT
        rw [Int.toNat_of_nonneg (Int.emod_nonneg _ (by omega))]
      rw [h3, restF_snoc]
      omega
end Go.Proofs.Ytjpiidfoegaenaa
