/-
  Sheets that have leaves, pages on sheets: plain mathematics. No program is named here.
-/
import Derived.Test.YtahmpagolmodhaaIo
namespace Go.Proofs.Ytahmpagolmodhaa

theorem hasT_append (c d : List Int) (h k : Nat) : hasT (c ++ d) h k = (hasT c h k || hasT d h k) := by
  unfold hasT
  rw [List.contains_append, List.contains_append]
  cases c.contains ((lfA h k : Nat) : Int) <;> cases d.contains ((lfA h k : Nat) : Int) <;> cases c.contains ((lfB h k : Nat) : Int) <;> cases d.contains ((lfB h k : Nat) : Int) <;> rfl
theorem mem_shsT {p h : Nat} {c : List Int} {k : Nat} : k ∈ shsT p h c ↔ k < qnT p h * h ∧ hasT c h k = true := by
  unfold shsT; rw [List.mem_filter, List.mem_range]
theorem len_le_of_sub {l : List Nat} : ∀ {m : List Nat}, l.Nodup → (∀ x ∈ l, x ∈ m) → l.length ≤ m.length := by
  induction l with
  | nil => intro m _ _; exact Nat.zero_le _
  | cons x l ih =>
    intro m hd hs
    have hx := hs x List.mem_cons_self
    have hn := List.nodup_cons.1 hd
    have := ih (m := m.erase x) hn.2 (fun y hy => (List.mem_erase_of_ne (fun e => hn.1 (by rw [← e]; exact hy))).2 (hs y (List.mem_cons_of_mem _ hy)))
    rw [List.length_erase_of_mem hx] at this
    have hp := List.length_pos_of_mem hx
    rw [List.length_cons]
    omega
/-- A list has one of the leaves of a sheet: there is a leaf whose sheet it is. -/
theorem hasT_iff {p h : Nat} (h1 : 1 ≤ h) (h8 : h ≤ 8) {c : List Int} (hc : c.all (inT p h) = true) {k : Nat} (hk : k < qnT p h * h) : hasT c h k = true ↔ ∃ x ∈ c, ofLeaf h x.toNat = k := by
  have hl := lf_all h h1 h8 k (qnT p h) hk
  unfold hasT
  rw [Bool.or_eq_true, List.contains_iff_mem, List.contains_iff_mem]
  constructor
  · rintro (g | g)
    · exact ⟨_, g, hl.2.2.2.2.2.2.1⟩
    · exact ⟨_, g, hl.2.2.2.2.2.2.2⟩
  · rintro ⟨x, hx, e⟩
    have hi := List.all_eq_true.1 hc x hx
    unfold inT at hi
    rw [Bool.and_eq_true, decide_eq_true_eq, decide_eq_true_eq] at hi
    obtain ⟨m, rfl⟩ : ∃ m : Nat, x = (m : Int) := ⟨x.toNat, by omega⟩
    have ho := of_all h h1 h8 m (qnT p h) (by omega) (by omega)
    rw [Int.toNat_natCast] at e
    rw [e] at ho
    rcases ho.2.1 with g | g
    · left; rw [g]; exact hx
    · right; rw [g]; exact hx
theorem shsT_len {p h : Nat} (h1 : 1 ≤ h) (h8 : h ≤ 8) {c : List Int} (hc : c.all (inT p h) = true) : (shsT p h c).length ≤ c.length := by
  have := len_le_of_sub (l := shsT p h c) (m := c.map fun x => ofLeaf h x.toNat) (List.Pairwise.filter _ List.nodup_range) (fun k hk => by
    obtain ⟨a, b⟩ := mem_shsT.1 hk
    obtain ⟨x, hx, e⟩ := (hasT_iff h1 h8 hc a).1 b
    exact List.mem_map.2 ⟨x, hx, e⟩)
  rwa [List.length_map] at this
/-- The sheets stand in order. -/
theorem shsT_sorted (p h : Nat) (c : List Int) : (shsT p h c).Pairwise (· < ·) := List.Pairwise.filter _ List.pairwise_lt_range
/-- One leaf: one sheet; its conjugate's is the same. -/
theorem shsT_one {p h : Nat} (h1 : 1 ≤ h) (h8 : h ≤ 8) {m : Nat} (hm1 : 1 ≤ m) (hm2 : m ≤ qnT p h * (2 * h)) : shsT p h [(m : Int)] = [ofLeaf h m] := by
  have hin : ([(m : Int)] : List Int).all (inT p h) = true := by
    rw [List.all_eq_true]; intro x hx; rw [List.mem_singleton.1 hx]; unfold inT; rw [Bool.and_eq_true, decide_eq_true_eq, decide_eq_true_eq]; omega
  have ho := of_all h h1 h8 m (qnT p h) hm1 hm2
  have hmem : ofLeaf h m ∈ shsT p h [(m : Int)] := mem_shsT.2 ⟨ho.1, (hasT_iff h1 h8 hin ho.1).2 ⟨_, List.mem_singleton.2 rfl, by rw [Int.toNat_natCast]⟩⟩
  have hl := shsT_len h1 h8 hin
  generalize shsT p h [(m : Int)] = s at hmem hl
  rcases s with _ | ⟨x, s⟩
  · cases hmem
  · rcases s with _ | ⟨y, s⟩
    · rw [List.mem_singleton.1 hmem]
    · simp at hl

theorem numT_le (p n : Nat) : numT p n ≤ p := by unfold numT; split <;> omega
/-- All pages of a sheet. -/
def four (s : Sh) : List Int := [s.fa, s.fb, s.ba, s.bb]
theorem count_pass (g : List Sh) (n : Int) : (pass g).count n = (g.flatMap four).count n := by
  unfold pass
  rw [List.count_append]
  have hr : (g.reverse.flatMap (fun s => [s.bb, s.fa])).count n = (g.flatMap (fun s => [s.bb, s.fa])).count n := by
    induction g with
    | nil => rfl
    | cons s g ih =>
      simp only [List.reverse_cons, List.flatMap_append, List.flatMap_cons, List.flatMap_nil, List.append_nil, List.count_append, ih]
      omega
  rw [hr]
  clear hr
  induction g with
  | nil => rfl
  | cons s g ih =>
    rw [List.flatMap_cons, List.flatMap_cons, List.flatMap_cons, List.count_append, List.count_append, List.count_append, ← ih]
    unfold four
    simp only [List.count_cons, List.count_nil]
    omega
theorem count_from (p h : Nat) (n : Int) : ∀ m q, ((fromT p h m q).flatMap four).count n = ((List.range (4 * h * m)).map fun j => ((numT p (4 * h * q + 1 + j) : Nat) : Int)).count n
  | 0, q => rfl
  | m + 1, q => by
    show ((quireT p h q ++ fromT p h m (q + 1)).flatMap four).count n = _
    rw [List.flatMap_append, List.count_append, count_from p h n m (q + 1), ← count_pass, pass_quire]
    rw [show 4 * h * (m + 1) = 4 * h + 4 * h * m by rw [Nat.mul_succ]; omega, List.range_add, List.map_append, List.map_map, List.count_append]
    congr 2
    refine List.map_congr_left fun j _ => ?_
    show _ = ((numT p (4 * h * q + 1 + (4 * h + j)) : Nat) : Int)
    rw [show 4 * h * (q + 1) + 1 + j = 4 * h * q + 1 + (4 * h + j) by rw [Nat.mul_succ]; omega]
theorem count_pages (p : Nat) (n : Nat) (hn : 1 ≤ n) (hp : n ≤ p) : ∀ m, ((List.range m).map fun j => ((numT p (1 + j) : Nat) : Int)).count (n : Int) = if n ≤ m then 1 else 0
  | 0 => by rw [if_neg (by omega)]; rfl
  | m + 1 => by
    rw [List.range_succ, List.map_append, List.count_append, count_pages p n hn hp m, List.map_cons, List.map_nil, List.count_cons, List.count_nil, Nat.zero_add]
    have key : (((numT p (1 + m) : Nat) : Int) == (n : Int)) = decide (n = m + 1) := by
      unfold numT
      by_cases g : p < 1 + m
      · rw [if_pos g, decide_eq_false (by omega), beq_eq_false_iff_ne]; omega
      · rw [if_neg g]
        by_cases e : n = m + 1
        · rw [decide_eq_true e, beq_iff_eq]; omega
        · rw [decide_eq_false e, beq_eq_false_iff_ne]; omega
    rw [key]
    simp only [decide_eq_true_eq]
    split <;> split <;> split <;> omega
theorem qn_enough : ∀ h, 1 ≤ h → h ≤ 8 → ∀ p, p ≤ 4 * h * qnT p h ∧ 4 * h * qnT p h < p + 4 * h := by
  refine eight ?_ ?_ ?_ ?_ ?_ ?_ ?_ ?_ <;> (intro p; unfold qnT; omega)
/-- Each page is on one sheet, once. -/
theorem page_once {p h : Nat} (h1 : 1 ≤ h) (h8 : h ≤ 8) (n : Nat) (hn : 1 ≤ n) (hp : n ≤ p) : ((foldM p h).flatMap four).count (n : Int) = 1 := by
  have e : foldM p h = fromT p h (qnT p h) 0 := by
    rw [from_fold]; unfold foldM; refine List.map_congr_left fun k _ => ?_; rw [Nat.zero_mul, Nat.zero_add]
  rw [e, count_from]
  have := count_pages p n hn hp (4 * h * qnT p h)
  rw [if_pos (by have := (qn_enough h h1 h8 p).1; omega)] at this
  rw [show 4 * h * 0 + 1 = 1 from rfl]
  exact this
end Go.Proofs.Ytahmpagolmodhaa
