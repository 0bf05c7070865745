/-
  Reading the sheets: plain mathematics. No program is named here.
-/
import Derived.Test.YtahmpagolmodhaaIm
namespace Go.Proofs.Ytahmpagolmodhaa

/-- The pages of a quire in the order in which they are read. -/
def pass (g : List Sh) : List Int := g.flatMap (fun s => [s.fb, s.ba]) ++ g.reverse.flatMap (fun s => [s.bb, s.fa])
/-- What Read answers for the quires from q on. -/
def readF : Nat → Int → List Sh → Option (List Int)
  | 0, _, l => if l.isEmpty then some [] else none
  | f + 1, q, l => if l.isEmpty then some [] else
    let g := l.takeWhile (fun s => s.q == q)
    if g.isEmpty then none else (readF f (q + 1) (l.drop g.length)).map (pass g ++ ·)
def readT (l : List Sh) : Option (List Int) := readF l.length 0 l

theorem pairs_flat (g : Nat → Int) (n : Nat) : (List.range n).flatMap (fun j => [g (2 * j), g (2 * j + 1)]) = (List.range (2 * n)).map g := by
  induction n with
  | zero => rfl
  | succ n ih =>
    rw [List.range_succ, List.flatMap_append, ih, show 2 * (n + 1) = 2 * n + 1 + 1 by omega, List.range_succ, List.range_succ, List.map_append, List.map_append, List.append_assoc]
    rfl
theorem range_rev (n : Nat) : (List.range n).reverse = (List.range n).map (fun j => n - 1 - j) := by
  apply List.ext_getElem
  · simp
  · intro i h1 h2
    simp
/-- The sheets of a quire. -/
def quireT (p h q : Nat) : List Sh := (List.range h).map fun i => shT p h (q * h + i)
theorem div_at {h q i : Nat} (hi : i < h) : (q * h + i) / h = q ∧ (q * h + i) % h = i := by
  refine ⟨?_, ?_⟩
  · rw [Nat.add_comm, Nat.mul_comm, Nat.add_mul_div_left _ _ (by omega), Nat.div_eq_of_lt hi, Nat.zero_add]
  · rw [Nat.add_comm, Nat.mul_comm, Nat.add_mul_mod_self_left, Nat.mod_eq_of_lt hi]
theorem flat_congr {α β : Type} {l : List α} {f g : α → List β} (h : ∀ x ∈ l, f x = g x) : l.flatMap f = l.flatMap g := by
  induction l with
  | nil => rfl
  | cons x l ih => rw [List.flatMap_cons, List.flatMap_cons, h x (List.mem_cons_self), ih fun y hy => h y (List.mem_cons_of_mem _ hy)]
theorem pass_quire (p h q : Nat) : pass (quireT p h q) = (List.range (4 * h)).map fun j => ((numT p (4 * h * q + 1 + j) : Nat) : Int) := by
  unfold pass quireT
  have e4 : 4 * h * q = 2 * (q * (2 * h)) := by rw [show 4 * h = 2 * (2 * h) by omega, Nat.mul_assoc, Nat.mul_comm (2 * h) q]
  obtain ⟨c, hc⟩ : ∃ c, q * (2 * h) = c := ⟨_, rfl⟩
  rw [hc] at e4
  rw [← List.map_reverse, List.flatMap_map, List.flatMap_map, range_rev, List.flatMap_map]
  have a1 : (List.range h).flatMap (fun i => [(shT p h (q * h + i)).fb, (shT p h (q * h + i)).ba]) = (List.range (2 * h)).map fun j => ((numT p (4 * h * q + 1 + j) : Nat) : Int) := by
    rw [← pairs_flat]
    refine flat_congr fun i hi => ?_
    have hi := List.mem_range.1 hi
    obtain ⟨d1, d2⟩ := div_at (q := q) hi
    unfold shT lfA
    simp only [d1, d2, hc]
    rw [show 2 * (c + 1 + i) - 1 = 4 * h * q + 1 + 2 * i by omega, show 2 * (c + 1 + i) = 4 * h * q + 1 + (2 * i + 1) by omega]
  have a2 : (List.range h).flatMap (fun j => [(shT p h (q * h + (h - 1 - j))).bb, (shT p h (q * h + (h - 1 - j))).fa]) = (List.range (2 * h)).map fun j => ((numT p (4 * h * q + 1 + (2 * h + j)) : Nat) : Int) := by
    rw [← pairs_flat (fun j => ((numT p (4 * h * q + 1 + (2 * h + j)) : Nat) : Int))]
    refine flat_congr fun j hj => ?_
    have hj := List.mem_range.1 hj
    obtain ⟨d1, d2⟩ := div_at (q := q) (show h - 1 - j < h by omega)
    unfold shT lfB
    simp only [d1, d2]
    rw [show (q + 1) * (2 * h) = c + 2 * h by rw [Nat.succ_mul, hc]]
    rw [show 2 * (c + 2 * h - (h - 1 - j)) - 1 = 4 * h * q + 1 + (2 * h + 2 * j) by omega, show 2 * (c + 2 * h - (h - 1 - j)) = 4 * h * q + 1 + (2 * h + (2 * j + 1)) by omega]
  rw [a1, a2, show 4 * h = 2 * h + 2 * h by omega, List.range_add, List.map_append, List.map_map]
  rfl
/-- The sheets of m quires from q on. -/
def fromT (p h : Nat) : Nat → Nat → List Sh
  | 0, _ => []
  | m + 1, q => quireT p h q ++ fromT p h m (q + 1)
theorem quireT_q {p h q : Nat} : ∀ s ∈ quireT p h q, s.q = (q : Int) := by
  intro s hs
  obtain ⟨i, hi, rfl⟩ := List.mem_map.1 hs
  unfold shT
  rw [(div_at (List.mem_range.1 hi)).1]
theorem takeWhile_quire {p h m q : Nat} (h1 : 1 ≤ h) : (fromT p h (m + 1) q).takeWhile (fun s => s.q == (q : Int)) = quireT p h q := by
  show (quireT p h q ++ fromT p h m (q + 1)).takeWhile _ = _
  rw [List.takeWhile_append_of_pos (fun s hs => by rw [quireT_q s hs]; exact beq_self_eq_true _)]
  have : (fromT p h m (q + 1)).takeWhile (fun s => s.q == (q : Int)) = [] := by
    rcases m with _ | m
    · rfl
    · obtain ⟨k, rfl⟩ : ∃ k, h = k + 1 := ⟨h - 1, by omega⟩
      have hq : (shT p (k + 1) ((q + 1) * (k + 1) + 0)).q = ((q + 1 : Nat) : Int) := by unfold shT; rw [(div_at (show 0 < k + 1 by omega)).1]
      show (quireT p (k + 1) (q + 1) ++ _).takeWhile _ = _
      unfold quireT
      rw [List.range_succ_eq_map, List.map_cons, List.cons_append, List.takeWhile_cons, if_neg]
      rw [hq, beq_iff_eq]; omega
  rw [this, List.append_nil]
theorem readF_from {p h : Nat} (h1 : 1 ≤ h) : ∀ (m q f : Nat), m ≤ f → readF f (q : Int) (fromT p h m q) = some ((List.range (4 * h * m)).map fun j => ((numT p (4 * h * q + 1 + j) : Nat) : Int))
  | 0, q, f, _ => by cases f <;> rfl
  | m + 1, q, f, hf => by
    obtain ⟨f, rfl⟩ : ∃ g, f = g + 1 := ⟨f - 1, by omega⟩
    have hne : (quireT p h q).isEmpty = false := by
      rw [List.isEmpty_eq_false_iff]; unfold quireT; intro e; have := congrArg List.length e; simp at this; omega
    have hne2 : (fromT p h (m + 1) q).isEmpty = false := by
      show (quireT p h q ++ fromT p h m (q + 1)).isEmpty = false
      rw [List.isEmpty_eq_false_iff] at hne ⊢
      intro e; exact hne (List.append_eq_nil_iff.1 e).1
    unfold readF
    simp only [hne2, takeWhile_quire h1, hne, Bool.false_eq_true, if_false]
    rw [show (fromT p h (m + 1) q).drop (quireT p h q).length = fromT p h m (q + 1) from List.drop_left' rfl, show ((q : Int) + 1) = ((q + 1 : Nat) : Int) from rfl, readF_from h1 m (q + 1) f (by omega), Option.map_some, pass_quire]
    rw [show 4 * h * (m + 1) = 4 * h + 4 * h * m by rw [Nat.mul_succ]; omega, List.range_add, List.map_append, List.map_map]
    congr 2
    refine List.map_congr_left fun j _ => ?_
    show _ = ((numT p (4 * h * q + 1 + (4 * h + j)) : Nat) : Int)
    rw [show 4 * h * (q + 1) + 1 + j = 4 * h * q + 1 + (4 * h + j) by rw [Nat.mul_succ]; omega]
theorem from_fold (p h : Nat) : ∀ m q, fromT p h m q = (List.range (m * h)).map fun k => shT p h (q * h + k)
  | 0, q => by rw [Nat.zero_mul]; rfl
  | m + 1, q => by
    show quireT p h q ++ fromT p h m (q + 1) = _
    rw [from_fold p h m (q + 1), show (m + 1) * h = h + m * h by rw [Nat.succ_mul, Nat.add_comm], List.range_add, List.map_append, List.map_map]
    unfold quireT
    congr 1
    refine List.map_congr_left fun k _ => ?_
    show shT p h ((q + 1) * h + k) = shT p h (q * h + (h + k))
    rw [Nat.succ_mul, Nat.add_assoc]
/-- Read of the sheets of a volume: the pages in order, and then empty ones. -/
theorem read_fold {p h : Nat} (h1 : 1 ≤ h) : readT (foldM p h) = some ((List.range (4 * h * qnT p h)).map fun j => ((numT p (1 + j) : Nat) : Int)) := by
  have e : foldM p h = fromT p h (qnT p h) 0 := by
    rw [from_fold]; unfold foldM; refine List.map_congr_left fun k _ => ?_; rw [Nat.zero_mul, Nat.zero_add]
  unfold readT
  have hlen : (foldM p h).length = qnT p h * h := by unfold foldM; simp
  rw [hlen, e]
  have := readF_from (p := p) h1 (qnT p h) 0 (qnT p h * h) (Nat.le_mul_of_pos_right _ (by omega))
  rw [show ((0 : Nat) : Int) = 0 from rfl] at this
  rw [this]
  simp
end Go.Proofs.Ytahmpagolmodhaa
