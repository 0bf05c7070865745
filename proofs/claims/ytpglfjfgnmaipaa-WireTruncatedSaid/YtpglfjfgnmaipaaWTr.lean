/-
  Plain mathematics: what decodes the encodings of lists of strings and digests; every proper beginning of an encoding is too short (error 3).
-/
import Derived.Test.YtpglfjfgnmaipaaWh
import Derived.Test.YtpglfjfgnmaipaaWCan
namespace Go.Proofs.Ytpglfjfgnmaipaa

theorem texts_back (l : List (List Nat)) (t : List Nat) (hl : l.length ≤ 4398046511104) (hs : ∀ s ∈ l, s.length ≤ 9223372036854775807) : listR (listD decB (encT l ++ t) 1) = (l, (encT l).length, 0) := by
  have hlen : l.length ≤ (l.flatMap encS).length := by
    clear hl
    induction l with
    | nil => simp
    | cons a l ih =>
      have h0 := enc_length (a.length : Int) (by omega) (by have := hs a (by simp); omega)
      have h2 := ih (fun n hn => hs n (by simp [hn]))
      simp only [List.flatMap_cons, List.length_append, List.length_cons, encS]
      omega
  unfold encT
  exact listD_enc decB encS 1 l t (by omega) (by rw [Nat.div_one, List.length_append]; omega) (fun y hy t => decB_encS y t (hs y hy))
theorem digs_back (l : List (List Nat)) (t : List Nat) (hl : l.length ≤ 4398046511104) (hd : ∀ d ∈ l, Dig d) : listR (listD decG (encD l ++ t) 16) = (l, (encD l).length, 0) := by
  have hlen := flatten_length l hd
  have e : l.flatten = l.flatMap (fun d => d) := by simp [List.flatMap_id']
  unfold encD
  rw [e] at hlen ⊢
  exact listD_enc decG (fun d => d) 16 l t (by omega) (by rw [List.length_append]; omega) (fun y hy t => by
    unfold decG
    rw [take_left' y t 16 (hd y hy).1, (hd y hy).1])

theorem dec_pref (n : Int) (h1 : I64 n) (i : Nat) (hi : i < (enc n).length) : (dec ((enc n).take i)).2.2 = 3 := by
  have e8 : (256 : Nat) ^ 8 = 18446744073709551616 := by decide
  obtain ⟨ha, hb⟩ := h1
  match i, hi with
  | 0, _ => simp [dec]
  | j + 1, hi =>
    rcases Int.lt_or_le n 0 with h | h
    · obtain ⟨m, rfl⟩ : ∃ m : Nat, n = -1 - (m : Int) := ⟨(-1 - n).toNat, by omega⟩
      have hs := sz_le 8 m (by omega)
      rw [enc_neg] at hi ⊢
      simp only [List.length_cons, List.length_map, be_length] at hi
      simp only [List.take_succ_cons, dec]
      rw [if_neg (by omega), if_neg (by omega), if_pos (by simp [be_length]; omega)]
    · obtain ⟨m, rfl⟩ : ∃ m : Nat, n = (m : Int) := ⟨n.toNat, by omega⟩
      have hs := sz_le 8 m (by omega)
      rw [enc_nat] at hi ⊢
      simp only [List.length_cons, be_length] at hi
      simp only [List.take_succ_cons, dec]
      rw [if_pos (by omega), if_neg (by omega), if_pos (by simp [be_length]; omega)]

/-- The count's part: too short already, or the count and what is left of the elements. -/
theorem lenD_pref (k : Nat) (R : List Nat) (i wd : Nat) (hk : k ≤ 9223372036854775807) (hi : i < (enc (k : Int) ++ R).length) :
    (lenD ((enc (k : Int) ++ R).take i) wd).2.2 = 3 ∨ ∃ j, j < R.length ∧ (enc (k : Int) ++ R).take i = enc (k : Int) ++ R.take j ∧ k ≤ j / wd ∧ lenD (enc (k : Int) ++ R.take j) wd = ((k : Int), (enc (k : Int)).length, 0) := by
  rcases Nat.lt_or_ge i (enc (k : Int)).length with h | h
  · left
    have hp := dec_pref (k : Int) ⟨by omega, by omega⟩ i h
    rw [List.take_append_of_le_length (by omega)]
    unfold lenD
    generalize dec ((enc (k : Int)).take i) = r at hp
    obtain ⟨x, u, er⟩ := r
    simp only at hp
    subst hp
    rw [lenE_err (by omega)]
  · obtain ⟨j, rfl⟩ : ∃ j, i = (enc (k : Int)).length + j := ⟨i - (enc (k : Int)).length, by omega⟩
    have hj : j < R.length := by rw [List.length_append] at hi; omega
    have e : (enc (k : Int) ++ R).take ((enc (k : Int)).length + j) = enc (k : Int) ++ R.take j := by
      rw [List.take_append, List.take_of_length_le (by omega), Nat.add_sub_cancel_left]
    have hd : dec (enc (k : Int) ++ R.take j) = ((k : Int), (enc (k : Int)).length, 0) := dec_enc (k : Int) (by omega) (by omega) _
    have hlen : (R.take j).length = j := by simp; omega
    rw [e]
    rcases Nat.lt_or_ge (j / wd) k with h2 | h2
    · left
      unfold lenD
      rw [hd, lenE_more rfl (by omega)]
      rw [List.length_append, hlen, Nat.add_sub_cancel_left]
      omega
    · right
      refine ⟨j, hj, rfl, h2, ?_⟩
      unfold lenD
      rw [hd, lenE_ok rfl (by omega)]
      rw [List.length_append, hlen, Nat.add_sub_cancel_left]
      omega
theorem decB_pref (s : List Nat) (i : Nat) (hs : s.length ≤ 9223372036854775807) (hi : i < (encS s).length) : (decB ((encS s).take i)).2.2 = 3 := by
  unfold encS at hi ⊢
  rcases lenD_pref s.length s i 1 hs hi with h | ⟨j, hj, _, h2, _⟩
  · unfold decB
    rw [if_pos (by rw [h]; omega), h]
  · rw [Nat.div_one] at h2
    omega
theorem listR_three {α : Type} (r : List α × Nat × Nat) (h : r.2.2 = 3) : (listR r).2.2 = 3 := by
  unfold listR
  split <;> assumption
theorem loopD_pref {α : Type} (f : List Nat → α × Nat × Nat) (g : α → List Nat) : ∀ (ys : List α) (pre : List Nat) (xs : List α) (j : Nat), (∀ y ∈ ys, ∀ t, f (g y ++ t) = (y, (g y).length, 0)) → (∀ y ∈ ys, ∀ j, j < (g y).length → (f ((g y).take j)).2.2 = 3) →
    j < (ys.flatMap g).length → (loopD f (pre ++ (ys.flatMap g).take j) ys.length pre.length xs).2.2 = 3
  | [], _, _, j, _, _, hj => by simp at hj
  | y :: ys, pre, xs, j, h, h', hj => by
    rw [List.flatMap_cons] at hj ⊢
    rw [List.length_cons]
    rcases Nat.lt_or_ge j (g y).length with hlt | hge
    · have hp := h' y (by simp) j hlt
      rw [List.take_append_of_le_length (by omega)]
      have hx : ∃ x u, f ((pre ++ (g y).take j).drop pre.length) = (x, u, 3) := by
        rw [List.drop_left]
        generalize f ((g y).take j) = r at hp
        obtain ⟨x, u, er⟩ := r
        simp only at hp
        subst hp
        exact ⟨x, u, rfl⟩
      obtain ⟨x, u, hx⟩ := hx
      rw [loopD_err (by omega) hx (by omega)]
    · obtain ⟨k, rfl⟩ : ∃ k, j = (g y).length + k := ⟨j - (g y).length, by omega⟩
      have e : (g y ++ ys.flatMap g).take ((g y).length + k) = g y ++ (ys.flatMap g).take k := by
        rw [List.take_append, List.take_of_length_le (by omega), Nat.add_sub_cancel_left]
      rw [e]
      have hy : f ((pre ++ (g y ++ (ys.flatMap g).take k)).drop pre.length) = (y, (g y).length, 0) := by
        rw [List.drop_left]
        exact h y (by simp) _
      rw [loopD_ok (by omega) hy rfl, Nat.add_sub_cancel]
      have ih := loopD_pref f g ys (pre ++ g y) (xs ++ [y]) k (fun z hz => h z (by simp [hz])) (fun z hz => h' z (by simp [hz])) (by rw [List.length_append] at hj; omega)
      rw [List.length_append, List.append_assoc] at ih
      exact ih
theorem listD_pref {α : Type} (f : List Nat → α × Nat × Nat) (g : α → List Nat) (wd : Nat) (ys : List α) (i : Nat) (hy : ys.length ≤ 9223372036854775807) (h : ∀ y ∈ ys, ∀ t, f (g y ++ t) = (y, (g y).length, 0)) (h' : ∀ y ∈ ys, ∀ j, j < (g y).length → (f ((g y).take j)).2.2 = 3)
    (hi : i < (enc (ys.length : Int) ++ ys.flatMap g).length) : (listR (listD f ((enc (ys.length : Int) ++ ys.flatMap g).take i) wd)).2.2 = 3 := by
  apply listR_three
  rcases lenD_pref ys.length (ys.flatMap g) i wd hy hi with h1 | ⟨j, hj, he, h2, hl⟩
  · unfold listD
    rw [if_pos (by rw [h1]; omega), h1]
  · rw [he]
    unfold listD
    rw [hl, if_neg (by simp)]
    exact loopD_pref f g ys (enc (ys.length : Int)) [] j h h' hj
theorem ints_pref (l : List Int) (i : Nat) (hl : l.length ≤ 4398046511104) (hx : ∀ x ∈ l, I64 x) (hi : i < (encL l).length) : (listR (listD dec ((encL l).take i) 1)).2.2 = 3 := by
  unfold encL at hi ⊢
  exact listD_pref dec enc 1 l i (by omega) (fun y hy t => dec_enc y (hx y hy).1 (hx y hy).2 t) (fun y hy j hj => dec_pref y (hx y hy) j hj) hi
theorem texts_pref (l : List (List Nat)) (i : Nat) (hl : l.length ≤ 4398046511104) (hs : ∀ s ∈ l, s.length ≤ 9223372036854775807) (hi : i < (encT l).length) : (listR (listD decB ((encT l).take i) 1)).2.2 = 3 := by
  unfold encT at hi ⊢
  exact listD_pref decB encS 1 l i (by omega) (fun y hy t => decB_encS y t (hs y hy)) (fun y hy j hj => decB_pref y j (hs y hy) hj) hi
theorem digs_pref (l : List (List Nat)) (i : Nat) (hl : l.length ≤ 4398046511104) (hd : ∀ d ∈ l, Dig d) (hi : i < (encD l).length) : (listR (listD decG ((encD l).take i) 16)).2.2 = 3 := by
  have hlen := flatten_length l hd
  unfold encD at hi ⊢
  apply listR_three
  rcases lenD_pref l.length l.flatten i 16 (by omega) hi with h1 | ⟨j, hj, _, h2, _⟩
  · unfold listD
    rw [if_pos (by rw [h1]; omega), h1]
  · omega

end Go.Proofs.Ytpglfjfgnmaipaa
