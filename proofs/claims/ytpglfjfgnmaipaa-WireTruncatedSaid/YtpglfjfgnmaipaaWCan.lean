/-
  Plain mathematics: the bytes from which a value is decoded are its encoding.
-/
import Derived.Test.YtpglfjfgnmaipaaWOrd
import Derived.Test.YtpglfjfgnmaipaaWh
namespace Go.Proofs.Ytpglfjfgnmaipaa

theorem be_val : ∀ (d : List Nat), (∀ y ∈ d, y < 256) → be d.length (val d) = d
  | [], _ => rfl
  | x :: l, h => by
    have hx := h x (by simp)
    have hl := val_lt l (fun y hy => h y (by simp [hy]))
    have ih := be_val l (fun y hy => h y (by simp [hy]))
    have hp : 0 < 256 ^ l.length := Nat.pow_pos (by omega)
    rw [List.length_cons, be, val_cons, be_mod]
    have e1 : (x * 256 ^ l.length + val l) / 256 ^ l.length = x := by
      rw [Nat.mul_comm, Nat.mul_add_div hp, Nat.div_eq_of_lt hl, Nat.add_zero]
    have e2 : (x * 256 ^ l.length + val l) % 256 ^ l.length = val l := by
      rw [Nat.mul_comm, Nat.mul_add_mod, Nat.mod_eq_of_lt hl]
    rw [e1, e2, Nat.mod_eq_of_lt hx, ih]

set_option maxRecDepth 100000 in
theorem dec_canon (b : List Nat) (hb : ∀ y ∈ b, y < 256) (n : Int) (u : Nat) (h : dec b = (n, u, 0)) : enc n = b.take u := by
  match b, hb, h with
  | [], _, h => simp [dec] at h
  | x :: t, hb, h =>
    have ht : ∀ y ∈ t, y < 256 := fun y hy => hb y (by simp [hy])
    simp only [dec] at h
    split at h
    · rename_i hx
      split at h
      · simp at h
      · split at h
        · simp at h
        · split at h
          · simp at h
          · rename_i h1 h2 h3
            simp only [Prod.mk.injEq] at h
            obtain ⟨rfl, rfl, _⟩ := h
            have hs : sz (val (t.take (x - 128))) = x - 128 := by
              rcases Nat.decEq (sz (val (t.take (x - 128)))) (x - 128) with e | e
              · exact absurd (Or.inl e) h3
              · exact e
            have hl : (t.take (x - 128)).length = x - 128 := by simp; omega
            have hv := be_val (t.take (x - 128)) (fun y hy => ht y (List.mem_of_mem_take hy))
            rw [hl] at hv
            rw [enc_nat, hs, hv]
            rw [show 128 + (x - 128) = x by omega]
            simp
    · rename_i hx
      split at h
      · simp at h
      · split at h
        · simp at h
        · split at h
          · simp at h
          · rename_i h1 h2 h3
            simp only [Prod.mk.injEq] at h
            obtain ⟨rfl, rfl, _⟩ := h
            have hs : sz (nv t (127 - x)) = 127 - x := by
              rcases Nat.decEq (sz (nv t (127 - x))) (127 - x) with e | e
              · exact absurd (Or.inl e) h3
              · exact e
            have hl : ((t.take (127 - x)).map (255 - ·)).length = 127 - x := by simp; omega
            have hv := be_val ((t.take (127 - x)).map (255 - ·)) (by
              intro y hy
              obtain ⟨z, _, rfl⟩ := List.mem_map.1 hy
              omega)
            rw [hl] at hv
            have hm : (be (127 - x) (nv t (127 - x))).map (255 - ·) = t.take (127 - x) := by
              unfold nv
              rw [hv, map_map_255 _ (fun y hy => ht y (List.mem_of_mem_take hy))]
            rw [enc_neg, hs, hm]
            rw [show 127 - (127 - x) = x by omega]
            simp
theorem lenD_canon (b : List Nat) (hb : ∀ y ∈ b, y < 256) (wd : Nat) (n : Int) (u : Nat) (h : lenD b wd = (n, u, 0)) : 0 ≤ n ∧ enc n = b.take u := by
  unfold lenD at h
  have hc := dec_canon b hb
  generalize dec b = r at h hc
  obtain ⟨x, v, er⟩ := r
  by_cases h1 : er = 0
  · rcases Int.lt_or_le x 0 with h2 | h2
    · rw [lenE_form h1 h2] at h; simp at h
    · by_cases h3 : (((b.length - v) / wd : Nat) : Int) < x
      · rw [lenE_more h1 h2 h3] at h; simp at h
      · rw [lenE_ok h1 h2 h3] at h
        simp only [Prod.mk.injEq] at h
        obtain ⟨rfl, rfl, _⟩ := h
        exact ⟨h2, hc _ _ (by rw [h1])⟩
  · rw [lenE_err h1] at h
    simp only [Prod.mk.injEq] at h
    exact absurd h.2.2 h1
theorem take_add' {α : Type} (l : List α) (a k : Nat) : l.take (a + k) = l.take a ++ (l.drop a).take k := List.take_add
theorem decB_canon (b : List Nat) (hb : ∀ y ∈ b, y < 256) (s : List Nat) (u : Nat) (h : decB b = (s, u, 0)) : encS s = b.take u := by
  have hk := lenD_ok b 1
  have hc := lenD_canon b hb 1
  unfold decB at h
  generalize lenD b 1 = r at h hk hc
  obtain ⟨n, v, er⟩ := r
  simp only at h hk
  by_cases h1 : er = 0
  · rw [if_neg (by simp [h1])] at h
    simp only [Prod.mk.injEq] at h
    obtain ⟨rfl, rfl, _⟩ := h
    obtain ⟨h0, he⟩ := hc n v (by rw [h1])
    have hl : (((b.drop v).take n.toNat).length : Int) = n := by
      have := hk.2.2.2.1 h1
      simp; omega
    unfold encS
    rw [hl, he, take_add']
  · rw [if_pos h1] at h
    simp only [Prod.mk.injEq] at h
    exact absurd h.2.2 h1

theorem loopD_canon {α : Type} (f : List Nat → α × Nat × Nat) (g : α → List Nat) (b : List Nat) (hf : ∀ k y u, f (b.drop k) = (y, u, 0) → g y = (b.drop k).take u) :
    ∀ (n used : Nat) (xs ys : List α) (u : Nat), loopD f b n used xs = (ys, u, 0) → ∃ zs, ys = xs ++ zs ∧ zs.length = n ∧ used ≤ u ∧ zs.flatMap g = (b.drop used).take (u - used)
  | 0, used, xs, ys, u, h => by
    simp only [loopD, Prod.mk.injEq] at h
    obtain ⟨rfl, rfl, _⟩ := h
    exact ⟨[], by simp, rfl, Nat.le_refl _, by simp⟩
  | n + 1, used, xs, ys, u, h => by
    obtain ⟨⟨y, k, er⟩, hy⟩ : ∃ r, f (b.drop used) = r := ⟨_, rfl⟩
    by_cases h1 : er = 0
    · subst h1
      rw [loopD_ok (by omega) hy rfl, Nat.add_sub_cancel] at h
      obtain ⟨zs, h2, h3, h4, h5⟩ := loopD_canon f g b hf n _ _ ys u h
      refine ⟨y :: zs, by rw [h2]; simp, by simp [h3], by omega, ?_⟩
      rw [List.flatMap_cons, hf _ _ _ hy, h5]
      have e : u - used = k + (u - (used + k)) := by omega
      rw [e, take_add', List.drop_drop]
    · rw [loopD_err (by omega) hy h1] at h
      simp only [Prod.mk.injEq] at h
      exact absurd h.2.2 h1
theorem listD_canon {α : Type} (f : List Nat → α × Nat × Nat) (g : α → List Nat) (b : List Nat) (hb : ∀ y ∈ b, y < 256) (wd : Nat) (hf : ∀ k y u, f (b.drop k) = (y, u, 0) → g y = (b.drop k).take u)
    (ys : List α) (u : Nat) (h : listR (listD f b wd) = (ys, u, 0)) : enc (ys.length : Int) ++ ys.flatMap g = b.take u := by
  have hc := lenD_canon b hb wd
  have h' : listD f b wd = (ys, u, 0) := by
    generalize listD f b wd = r at h
    obtain ⟨a, c, er⟩ := r
    by_cases h1 : er = 0
    · subst h1; simpa [listR] using h
    · simp [listR, h1] at h
  unfold listD at h'
  generalize lenD b wd = r at h' hc
  obtain ⟨n, v, er⟩ := r
  simp only at h'
  by_cases h1 : er = 0
  · rw [if_neg (by simp [h1])] at h'
    obtain ⟨h0, he⟩ := hc n v (by rw [h1])
    obtain ⟨zs, h2, h3, h4, h5⟩ := loopD_canon f g b hf _ _ _ ys u h'
    rw [List.nil_append] at h2
    subst h2
    rw [h3, h5, show ((n.toNat : Nat) : Int) = n by omega, he]
    have e : u = v + (u - v) := by omega
    rw [← take_add', ← e]
  · rw [if_pos h1] at h'
    simp only [Prod.mk.injEq] at h'
    exact absurd h'.2.2 h1

theorem loopD_all {α : Type} (f : List Nat → α × Nat × Nat) (b : List Nat) (P : α → Prop) (hf : ∀ k, P (f (b.drop k)).1) : ∀ (n used : Nat) (xs : List α), (∀ x ∈ xs, P x) → ∀ x ∈ (loopD f b n used xs).1, P x
  | 0, _, xs, h => h
  | n + 1, used, xs, h => by
    have h2 : ∀ x ∈ xs ++ [(f (b.drop used)).1], P x := by
      intro x hx
      rcases List.mem_append.1 hx with h1 | h1
      · exact h x h1
      · simp only [List.mem_singleton] at h1; subst h1; exact hf used
    unfold loopD
    split
    · exact h2
    · exact loopD_all f b P hf n _ _ h2
theorem loopD_length {α : Type} (f : List Nat → α × Nat × Nat) (b : List Nat) : ∀ (n used : Nat) (xs : List α), (loopD f b n used xs).1.length ≤ xs.length + n
  | 0, _, xs => by simp [loopD]
  | n + 1, used, xs => by
    unfold loopD
    split
    · simp
    · have := loopD_length f b n (used + (f (b.drop used)).2.1) (xs ++ [(f (b.drop used)).1])
      simp at this
      omega
theorem listR_all {α : Type} (f : List Nat → α × Nat × Nat) (b : List Nat) (wd : Nat) (P : α → Prop) (hf : ∀ k, P (f (b.drop k)).1) : ∀ x ∈ (listR (listD f b wd)).1, P x := by
  unfold listR
  split
  · simp
  · unfold listD
    split
    · simp
    · exact loopD_all f b P hf _ _ _ (by simp)
theorem listR_length {α : Type} (f : List Nat → α × Nat × Nat) (b : List Nat) (wd : Nat) (hw : 1 ≤ wd) : (listR (listD f b wd)).1.length ≤ b.length := by
  have h := lenD_ok b wd
  unfold listR
  split
  · simp
  · unfold listD
    split
    · simp
    · rename_i h1
      have h2 := loopD_length f b (lenD b wd).1.toNat (lenD b wd).2.1 []
      have h3 := h.2.2.2.1 (by simpa using h1)
      have h4 : (lenD b wd).1.toNat ≤ (lenD b wd).1.toNat * wd := Nat.le_mul_of_pos_right _ (by omega)
      simp at h2
      omega
theorem loopG_dig (b : List Nat) (hb : ∀ y ∈ b, y < 256) : ∀ (n used : Nat) (xs : List (List Nat)), used + n * 16 ≤ b.length → (∀ x ∈ xs, Dig x) → ∀ x ∈ (loopD decG b n used xs).1, Dig x
  | 0, _, xs, _, h => h
  | n + 1, used, xs, hl, h => by
    have h2 : ∀ x ∈ xs ++ [(b.drop used).take 16], Dig x := by
      intro x hx
      rcases List.mem_append.1 hx with h1 | h1
      · exact h x h1
      · simp only [List.mem_singleton] at h1; subst h1
        exact ⟨by simp; omega, fun y hy => hb y (List.mem_of_mem_drop (List.mem_of_mem_take hy))⟩
    have := loopG_dig b hb n (used + 16) (xs ++ [(b.drop used).take 16]) (by omega) h2
    simpa [loopD, decG] using this
theorem listG_dig (b : List Nat) (hb : ∀ y ∈ b, y < 256) : ∀ x ∈ (listR (listD decG b 16)).1, Dig x := by
  have h := lenD_ok b 16
  unfold listR
  split
  · simp
  · unfold listD
    split
    · simp
    · rename_i h1
      have h3 := h.2.2.2.1 (by simpa using h1)
      exact loopG_dig b hb _ _ _ (by omega) (by simp)
theorem tot_bound (l : List (List Nat)) (K : Nat) (h : ∀ s ∈ l, s.length ≤ K) : tot l ≤ l.length * K := by
  induction l with
  | nil => simp [tot]
  | cons a l ih =>
    have h1 := h a (by simp)
    have h2 := ih (fun s hs => h s (by simp [hs]))
    simp only [tot, List.foldr_cons, List.length_cons, Nat.add_mul] at h2 ⊢
    omega
theorem decB_length (b : List Nat) : (decB b).1.length ≤ b.length := by
  unfold decB
  split
  · simp
  · simp; omega

theorem loopD_used {α : Type} (f : List Nat → α × Nat × Nat) (b : List Nat) (hf : ∀ k, (f (b.drop k)).2.1 ≤ (b.drop k).length) : ∀ (n used : Nat) (xs : List α), used ≤ b.length → (loopD f b n used xs).2.1 ≤ b.length
  | 0, _, _, h => h
  | n + 1, used, xs, h => by
    unfold loopD
    split
    · simp
    · have := hf used
      rw [List.length_drop] at this
      exact loopD_used f b hf n _ _ (by omega)
theorem listR_used {α : Type} (f : List Nat → α × Nat × Nat) (b : List Nat) (wd : Nat) (hf : ∀ k, (f (b.drop k)).2.1 ≤ (b.drop k).length) : (listR (listD f b wd)).2.1 ≤ b.length := by
  have h := lenD_ok b wd
  unfold listR
  split
  · simp
  · unfold listD
    split
    · simp
    · rename_i h1
      have h3 := h.2.2.2.1 (by simpa using h1)
      exact loopD_used f b hf _ _ _ (by omega)
theorem loopG_used (b : List Nat) : ∀ (n used : Nat) (xs : List (List Nat)), (loopD decG b n used xs).2.1 = used + n * 16
  | 0, _, _ => by simp [loopD]
  | n + 1, used, xs => by
    have := loopG_used b n (used + 16) (xs ++ [(b.drop used).take 16])
    simp only [loopD, decG, ne_eq, not_true_eq_false, if_false]
    rw [this]
    omega
theorem listG_used (b : List Nat) : (listR (listD decG b 16)).2.1 ≤ b.length := by
  have h := lenD_ok b 16
  unfold listR
  split
  · simp
  · unfold listD
    split
    · simp
    · rename_i h1
      have h3 := h.2.2.2.1 (by simpa using h1)
      rw [loopG_used]
      omega
theorem flat_get {β : Type} (g : List Nat → List β) : ∀ (xs : List (List Nat)), (∀ x ∈ xs, (g x).length = 16) → ∀ k d, xs[k]? = some d → ∀ j u, (g d)[j]? = some u → (xs.flatMap g)[k * 16 + j]? = some u
  | [], _, k, d, h, _, _, _ => by simp at h
  | x :: xs, hx, 0, d, h, j, u, hj => by
    obtain rfl : x = d := by simpa using h
    have hl := hx x (by simp)
    have hjl := (List.getElem?_eq_some_iff.1 hj).1
    rw [List.flatMap_cons, Nat.zero_mul, Nat.zero_add, List.getElem?_append_left hjl]
    exact hj
  | x :: xs, hx, k + 1, d, h, j, u, hj => by
    have hl := hx x (by simp)
    have ih := flat_get g xs (fun y hy => hx y (by simp [hy])) k d (by simpa using h) j u hj
    rw [List.flatMap_cons, List.getElem?_append_right (by omega), hl]
    rw [show (k + 1) * 16 + j - 16 = k * 16 + j by omega]
    exact ih

theorem encS_lt2 (s : List Nat) (hs : s.length ≤ 9223372036854775807) (h : ∀ d ∈ s, d < 256) : ∀ d ∈ encS s, d < 256 := by
  intro d hd
  unfold encS at hd
  rcases List.mem_append.1 hd with h1 | h1
  · exact enc_lt _ (by omega) (by omega) d h1
  · exact h d h1
theorem encT_lt (l : List (List Nat)) (hl : l.length ≤ 9223372036854775807) (h1 : ∀ s ∈ l, s.length ≤ 9223372036854775807) (h : ∀ s ∈ l, ∀ d ∈ s, d < 256) : ∀ d ∈ encT l, d < 256 := by
  intro d hd
  unfold encT at hd
  rcases List.mem_append.1 hd with h2 | h2
  · exact enc_lt _ (by omega) (by omega) d h2
  · obtain ⟨s, hs, h3⟩ := List.mem_flatMap.1 h2
    exact encS_lt2 s (h1 s hs) (h s hs) d h3
theorem encD_lt (l : List (List Nat)) (hl : l.length ≤ 9223372036854775807) (h : ∀ s ∈ l, Dig s) : ∀ d ∈ encD l, d < 256 := by
  intro d hd
  unfold encD at hd
  rcases List.mem_append.1 hd with h2 | h2
  · exact enc_lt _ (by omega) (by omega) d h2
  · obtain ⟨s, hs, h3⟩ := List.mem_flatten.1 h2
    exact (h s hs).2 d h3
theorem drop_lt {b : List Nat} (hb : ∀ y ∈ b, y < 256) (k : Nat) : ∀ y ∈ b.drop k, y < 256 := fun y hy => hb y (List.mem_of_mem_drop hy)

/-- What was decoded from at most 2000 bytes. -/
structure Canon (l : List Nat) (n1 : Int) (u1 e1 : Nat) (s2 : List Nat) (u2 e2 : Nat) (l3 : List Int) (u3 e3 : Nat) (l4 : List (List Nat)) (u4 e4 : Nat) (l5 : List (List Nat)) (u5 e5 : Nat) : Prop where
  a1 : e1 = 0 → enc n1 = l.take u1 ∧ u1 ≤ l.length
  b1 : I64 n1
  a2 : e2 = 0 → encS s2 = l.take u2 ∧ u2 ≤ l.length
  b2 : s2.length ≤ 2000
  c2 : ∀ d ∈ s2, d < 256
  a3 : e3 = 0 → encL l3 = l.take u3 ∧ u3 ≤ l.length
  b3 : l3.length ≤ 2000
  c3 : ∀ x ∈ l3, I64 x
  a4 : e4 = 0 → encT l4 = l.take u4 ∧ u4 ≤ l.length
  b4 : l4.length ≤ 2000
  c4 : ∀ s ∈ l4, s.length ≤ 2000
  d4 : ∀ s ∈ l4, ∀ d ∈ s, d < 256
  a5 : e5 = 0 → encD l5 = l.take u5 ∧ u5 ≤ l.length
  b5 : l5.length ≤ 2000
  c5 : ∀ x ∈ l5, Dig x
theorem canon_of (l : List Nat) (hl : l.length ≤ 2000) (hb : ∀ y ∈ l, y < 256) {n1 : Int} {u1 e1 : Nat} {s2 : List Nat} {u2 e2 : Nat} {l3 : List Int} {u3 e3 : Nat} {l4 : List (List Nat)} {u4 e4 : Nat} {l5 : List (List Nat)} {u5 e5 : Nat}
    (h1 : dec l = (n1, u1, e1)) (h2 : decB l = (s2, u2, e2)) (h3 : listR (listD dec l 1) = (l3, u3, e3)) (h4 : listR (listD decB l 1) = (l4, u4, e4)) (h5 : listR (listD decG l 16) = (l5, u5, e5)) :
    Canon l n1 u1 e1 s2 u2 e2 l3 u3 e3 l4 u4 e4 l5 u5 e5 := by
  have i64 : ∀ c, I64 (dec c).1 := fun c => ⟨(dec_ok c).2.2.2.1, (dec_ok c).2.2.2.2.1⟩
  constructor
  · intro h; subst h
    exact ⟨dec_canon l hb _ _ h1, by have := (dec_ok l).2.2.1; rw [h1] at this; exact this⟩
  · have := i64 l; rw [h1] at this; exact this
  · intro h; subst h
    exact ⟨decB_canon l hb _ _ h2, by have := (decB_ok l).2.2.1; rw [h2] at this; exact this⟩
  · have := decB_length l; rw [h2] at this; exact Nat.le_trans this hl
  · have := decB_lt l hb; rw [h2] at this; exact this
  · intro h; subst h
    refine ⟨listD_canon dec enc l hb 1 (fun k y u hy => dec_canon _ (drop_lt hb k) y u hy) _ _ h3, ?_⟩
    have := listR_used dec l 1 (fun k => (dec_ok (l.drop k)).2.2.1)
    rw [h3] at this; exact this
  · have := listR_length dec l 1 (by omega); rw [h3] at this; exact Nat.le_trans this hl
  · have := listR_all dec l 1 I64 (fun k => i64 _); rw [h3] at this; exact this
  · intro h; subst h
    refine ⟨listD_canon decB encS l hb 1 (fun k y u hy => decB_canon _ (drop_lt hb k) y u hy) _ _ h4, ?_⟩
    have := listR_used decB l 1 (fun k => (decB_ok (l.drop k)).2.2.1)
    rw [h4] at this; exact this
  · have := listR_length decB l 1 (by omega); rw [h4] at this; exact Nat.le_trans this hl
  · have := listR_all decB l 1 (fun s => s.length ≤ 2000) (fun k => Nat.le_trans (decB_length _) (by simp; omega)); rw [h4] at this; exact this
  · have := listR_all decB l 1 (fun s => ∀ d ∈ s, d < 256) (fun k => decB_lt _ (drop_lt hb k)); rw [h4] at this; exact this
  · intro h; subst h
    have hc := listD_canon decG (fun d => d) l hb 16 (fun k y u hy => by
      simp only [decG, Prod.mk.injEq] at hy
      rw [← hy.1, ← hy.2.1]) _ _ h5
    refine ⟨by unfold encD; rw [← hc]; simp [List.flatMap], ?_⟩
    have := listG_used l; rw [h5] at this; exact this
  · have := listR_length decG l 16 (by omega); rw [h5] at this; exact Nat.le_trans this hl
  · have := listG_dig l hb; rw [h5] at this; exact this

end Go.Proofs.Ytpglfjfgnmaipaa
