/-
  the specification of signatures: Public, Sign, Verify. Conditions: as each theorem states them; no axiom beyond propext, Classical.choice, Quot.sound.
-/
import Derived.Test.YthffkbdecfjekaaDoorMa
import Derived.Test.YthffkbdecfjekaaDoorMb
import Derived.Deep.QuietTactic
import Derived.BigQuiet
import Derived.Lib.Strings
import Derived.Test.YthffkbdecfjekaaDoorMc
import Derived.Deep.RegionWith
import Derived.Deep.RegionHeld3
import Derived.Test.YthffkbdecfjekaaDoorMd
import Derived.Test.YthffkbdecfjekaaDoorMe
import Derived.Outline
import Derived.Deep.Onto

/-
  Plain mathematics: the order of integers is that of their encodings, byte by byte.
-/
namespace Go.Proofs.YthffkbdecfjekaaDoor

/-- Less, byte by byte. -/
def blt : List Nat → List Nat → Bool
  | [], [] => false
  | [], _ :: _ => true
  | _ :: _, [] => false
  | a :: l, b :: m => if a < b then true else if b < a then false else blt l m
theorem blt_lt {a b : Nat} (l m : List Nat) (h : a < b) : blt (a :: l) (b :: m) = true := by simp [blt, h]
theorem blt_gt {a b : Nat} (l m : List Nat) (h : b < a) : blt (a :: l) (b :: m) = false := by
  have h1 : ¬ a < b := by omega
  simp [blt, h, h1]
theorem blt_eq (a : Nat) (l m : List Nat) : blt (a :: l) (a :: m) = blt l m := by simp [blt]
theorem be_mod : ∀ k m, be k m = be k (m % 256 ^ k)
  | 0, m => rfl
  | k + 1, m => by
    rw [be, be, be_mod k m, be_mod k (m % 256 ^ (k + 1))]
    have e1 : m % 256 ^ (k + 1) / 256 ^ k % 256 = m / 256 ^ k % 256 := by
      rw [Nat.pow_succ, Nat.mod_mul_right_div_self, Nat.mod_mod]
    have e2 : m % 256 ^ (k + 1) % 256 ^ k = m % 256 ^ k := Nat.mod_mod_of_dvd _ ⟨256, Nat.pow_succ _ _⟩
    rw [e1, e2]
theorem blt_be : ∀ k m n, m < 256 ^ k → n < 256 ^ k → blt (be k m) (be k n) = decide (m < n)
  | 0, m, n, hm, hn => by
    have h1 : m = 0 := by simpa using hm
    have h2 : n = 0 := by simpa using hn
    subst h1; subst h2; rfl
  | k + 1, m, n, hm, hn => by
    have hp : 0 < 256 ^ k := Nat.pow_pos (by omega)
    rw [Nat.pow_succ] at hm hn
    have a1 : m / 256 ^ k < 256 := Nat.div_lt_of_lt_mul hm
    have a2 : n / 256 ^ k < 256 := Nat.div_lt_of_lt_mul hn
    have d1 := Nat.div_add_mod m (256 ^ k)
    have d2 := Nat.div_add_mod n (256 ^ k)
    have r1 := Nat.mod_lt m hp
    have r2 := Nat.mod_lt n hp
    rw [be, be, Nat.mod_eq_of_lt a1, Nat.mod_eq_of_lt a2]
    rcases Nat.lt_trichotomy (m / 256 ^ k) (n / 256 ^ k) with h | h | h
    · rw [blt_lt _ _ h]
      have := Nat.mul_le_mul_left (256 ^ k) (show m / 256 ^ k + 1 ≤ n / 256 ^ k from h)
      rw [Nat.mul_add, Nat.mul_one] at this
      exact (decide_eq_true (by omega)).symm
    · rw [h, blt_eq, be_mod k m, be_mod k n, blt_be k _ _ r1 r2]
      rw [h] at d1
      rw [decide_eq_decide]
      omega
    · rw [blt_gt _ _ h]
      have := Nat.mul_le_mul_left (256 ^ k) (show n / 256 ^ k + 1 ≤ m / 256 ^ k from h)
      rw [Nat.mul_add, Nat.mul_one] at this
      exact (decide_eq_false (by omega)).symm
theorem blt_map : ∀ (l m : List Nat), l.length = m.length → (∀ d ∈ l, d < 256) → (∀ d ∈ m, d < 256) → blt (l.map (255 - ·)) (m.map (255 - ·)) = blt m l
  | [], [], _, _, _ => rfl
  | a :: l, b :: m, h, hl, hm => by
    have ha := hl a (by simp)
    have hb := hm b (by simp)
    have ih := blt_map l m (by simpa using h) (fun d hd => hl d (by simp [hd])) (fun d hd => hm d (by simp [hd]))
    simp only [List.map_cons]
    rcases Nat.lt_trichotomy a b with h1 | h1 | h1
    · rw [blt_gt _ _ (show 255 - b < 255 - a by omega), blt_gt _ _ h1]
    · subst h1; rw [blt_eq, blt_eq, ih]
    · rw [blt_lt _ _ (show 255 - a < 255 - b by omega), blt_lt _ _ h1]
  | [], _ :: _, h, _, _ => by simp at h
  | _ :: _, [], h, _, _ => by simp at h
theorem sz_ge {m : Nat} (h : 1 ≤ sz m) : 256 ^ (sz m - 1) ≤ m := by
  rcases Nat.lt_or_ge m (256 ^ (sz m - 1)) with h1 | h1
  · have := sz_le _ _ h1; omega
  · exact h1
theorem sz_mono {m n : Nat} (h : sz m < sz n) : m < n := by
  have h1 := lt_sz (sz m) m (Nat.le_refl _)
  have h2 := sz_ge (m := n) (by omega)
  have h3 : 256 ^ sz m ≤ 256 ^ (sz n - 1) := Nat.pow_le_pow_right (by omega) (by omega)
  omega
theorem blt_enc (m n : Int) (hm : I64 m) (hn : I64 n) : blt (enc m) (enc n) = decide (m < n) := by
  have e8 : (256 : Nat) ^ 8 = 18446744073709551616 := by decide
  unfold I64 at hm hn
  rcases Int.lt_or_le m 0 with h | h <;> rcases Int.lt_or_le n 0 with h' | h'
  · obtain ⟨a, rfl⟩ : ∃ a : Nat, m = -1 - (a : Int) := ⟨(-1 - m).toNat, by omega⟩
    obtain ⟨b, rfl⟩ : ∃ b : Nat, n = -1 - (b : Int) := ⟨(-1 - n).toNat, by omega⟩
    have s1 := sz_le 8 a (by omega)
    have s2 := sz_le 8 b (by omega)
    rw [enc_neg, enc_neg]
    rcases Nat.lt_trichotomy (sz a) (sz b) with h1 | h1 | h1
    · have := sz_mono h1
      rw [blt_gt _ _ (show 127 - sz b < 127 - sz a by omega)]
      exact (decide_eq_false (by omega)).symm
    · rw [h1, blt_eq, blt_map _ _ (by simp [be_length]) (be_lt _ _) (be_lt _ _), blt_be _ _ _ (lt_sz _ _ (Nat.le_refl _)) (lt_sz _ _ (by omega))]
      rw [decide_eq_decide]; omega
    · have := sz_mono h1
      rw [blt_lt _ _ (show 127 - sz a < 127 - sz b by omega)]
      exact (decide_eq_true (by omega)).symm
  · obtain ⟨a, rfl⟩ : ∃ a : Nat, m = -1 - (a : Int) := ⟨(-1 - m).toNat, by omega⟩
    obtain ⟨b, rfl⟩ := Int.eq_ofNat_of_zero_le h'
    rw [enc_neg, enc_nat, blt_lt _ _ (by omega)]
    exact (decide_eq_true (by omega)).symm
  · obtain ⟨a, rfl⟩ := Int.eq_ofNat_of_zero_le h
    obtain ⟨b, rfl⟩ : ∃ b : Nat, n = -1 - (b : Int) := ⟨(-1 - n).toNat, by omega⟩
    rw [enc_neg, enc_nat, blt_gt _ _ (by omega)]
    exact (decide_eq_false (by omega)).symm
  · obtain ⟨a, rfl⟩ := Int.eq_ofNat_of_zero_le h
    obtain ⟨b, rfl⟩ := Int.eq_ofNat_of_zero_le h'
    rw [enc_nat, enc_nat]
    rcases Nat.lt_trichotomy (sz a) (sz b) with h1 | h1 | h1
    · have := sz_mono h1
      rw [blt_lt _ _ (by omega)]
      exact (decide_eq_true (by omega)).symm
    · rw [h1, blt_eq, blt_be _ _ _ (lt_sz _ _ (by omega)) (lt_sz _ _ (Nat.le_refl _))]
      rw [decide_eq_decide]; omega
    · have := sz_mono h1
      rw [blt_gt _ _ (by omega)]
      exact (decide_eq_false (by omega)).symm
theorem enc_inj (m n : Int) (hm : I64 m) (hn : I64 n) (h : enc m = enc n) : m = n := by
  have h1 := dec_enc m hm.1 hm.2 []
  have h2 := dec_enc n hn.1 hn.2 []
  rw [h, h2] at h1
  exact (congrArg Prod.fst h1).symm
/-- The first byte tells how many follow. -/
theorem enc_head (m n : Int) (hm : I64 m) (hn : I64 n) (h : (enc m)[0]? = (enc n)[0]?) : (enc m).length = (enc n).length := by
  have e8 : (256 : Nat) ^ 8 = 18446744073709551616 := by decide
  unfold I64 at hm hn
  rcases Int.lt_or_le m 0 with h1 | h1 <;> rcases Int.lt_or_le n 0 with h' | h'
  · obtain ⟨a, rfl⟩ : ∃ a : Nat, m = -1 - (a : Int) := ⟨(-1 - m).toNat, by omega⟩
    obtain ⟨b, rfl⟩ : ∃ b : Nat, n = -1 - (b : Int) := ⟨(-1 - n).toNat, by omega⟩
    have s1 := sz_le 8 a (by omega)
    have s2 := sz_le 8 b (by omega)
    rw [enc_neg, enc_neg] at h ⊢
    simp at h
    simp [be_length]; omega
  · obtain ⟨a, rfl⟩ : ∃ a : Nat, m = -1 - (a : Int) := ⟨(-1 - m).toNat, by omega⟩
    obtain ⟨b, rfl⟩ := Int.eq_ofNat_of_zero_le h'
    rw [enc_neg, enc_nat] at h
    simp at h
    omega
  · obtain ⟨a, rfl⟩ := Int.eq_ofNat_of_zero_le h1
    obtain ⟨b, rfl⟩ : ∃ b : Nat, n = -1 - (b : Int) := ⟨(-1 - n).toNat, by omega⟩
    rw [enc_neg, enc_nat] at h
    simp at h
    omega
  · obtain ⟨a, rfl⟩ := Int.eq_ofNat_of_zero_le h1
    obtain ⟨b, rfl⟩ := Int.eq_ofNat_of_zero_le h'
    rw [enc_nat, enc_nat] at h ⊢
    simp at h
    simp [be_length]; omega
theorem enc_prefix (m n : Int) (hm : I64 m) (hn : I64 n) (k : Nat) (hk : k = min (enc m).length (enc n).length) (h : (enc m).take k = (enc n).take k) : m = n := by
  have l1 := enc_length m hm.1 hm.2
  have l2 := enc_length n hn.1 hn.2
  have h0 : (enc m)[0]? = (enc n)[0]? := by
    have := congrArg (fun l => l[0]?) h
    simpa [List.getElem?_take, show 0 < k by omega] using this
  have hl := enc_head m n hm hn h0
  rw [List.take_of_length_le (by omega), List.take_of_length_le (by omega)] at h
  exact enc_inj m n hm hn h

end Go.Proofs.YthffkbdecfjekaaDoor

/-
  Plain mathematics: decoding the encodings of strings and lists gives them back, whatever follows.
-/
namespace Go.Proofs.YthffkbdecfjekaaDoor

theorem lenD_enc (k wd : Nat) (t : List Nat) (hk : k ≤ 9223372036854775807) (hw : k ≤ t.length / wd) : lenD (enc (k : Int) ++ t) wd = ((k : Int), (enc (k : Int)).length, 0) := by
  unfold lenD
  rw [dec_enc k (by omega) (by omega) t]
  rw [lenE_ok rfl (by omega)]
  simp only [List.length_append, Nat.add_sub_cancel_left]
  omega
theorem decB_encS (s t : List Nat) (hs : s.length ≤ 9223372036854775807) : decB (encS s ++ t) = (s, (encS s).length, 0) := by
  have h : lenD (encS s ++ t) 1 = ((s.length : Int), (enc (s.length : Int)).length, 0) := by
    unfold encS
    rw [List.append_assoc]
    exact lenD_enc s.length 1 (s ++ t) hs (by simp)
  unfold decB
  rw [h, if_neg (by simp)]
  unfold encS
  rw [List.append_assoc]
  simp

/-- Decoding one element after the other. -/
theorem loopD_enc {α : Type} (f : List Nat → α × Nat × Nat) (g : α → List Nat) (t : List Nat) : ∀ (ys : List α) (pre : List Nat) (xs : List α), (∀ y ∈ ys, ∀ t, f (g y ++ t) = (y, (g y).length, 0)) →
    loopD f (pre ++ (ys.flatMap g ++ t)) ys.length pre.length xs = (xs ++ ys, pre.length + (ys.flatMap g).length, 0)
  | [], pre, xs, _ => by simp [loopD]
  | y :: ys, pre, xs, h => by
    have hy := h y (by simp) (ys.flatMap g ++ t)
    have hd : (pre ++ ((y :: ys).flatMap g ++ t)).drop pre.length = g y ++ (ys.flatMap g ++ t) := by simp
    rw [loopD_ok (x := y) (u := (g y).length) (er := 0) (by simp) (by rw [hd]; exact hy) rfl]
    have ih := loopD_enc f g t ys (pre ++ g y) (xs ++ [y]) (fun z hz => h z (by simp [hz]))
    simp only [List.length_append] at ih
    have e : pre ++ ((y :: ys).flatMap g ++ t) = pre ++ g y ++ (ys.flatMap g ++ t) := by simp
    rw [e]
    simp only [List.length_cons, Nat.add_sub_cancel]
    rw [ih]
    simp [Nat.add_assoc]

theorem listD_enc {α : Type} (f : List Nat → α × Nat × Nat) (g : α → List Nat) (wd : Nat) (ys : List α) (t : List Nat) (hy : ys.length ≤ 9223372036854775807) (hw : ys.length ≤ (ys.flatMap g ++ t).length / wd)
    (h : ∀ y ∈ ys, ∀ t, f (g y ++ t) = (y, (g y).length, 0)) :
    listR (listD f (enc (ys.length : Int) ++ ys.flatMap g ++ t) wd) = (ys, (enc (ys.length : Int) ++ ys.flatMap g).length, 0) := by
  have hl := lenD_enc ys.length wd (ys.flatMap g ++ t) hy hw
  have hd : listD f (enc (ys.length : Int) ++ ys.flatMap g ++ t) wd = (ys, (enc (ys.length : Int)).length + (ys.flatMap g).length, 0) := by
    unfold listD
    rw [List.append_assoc, hl, if_neg (by simp)]
    have := loopD_enc f g t ys (enc (ys.length : Int)) [] h
    simpa using this
  rw [hd]
  simp [listR]

theorem ints_back (l : List Int) (t : List Nat) (hl : l.length ≤ 4398046511104) (hi : ∀ x ∈ l, I64 x) : listR (listD dec (encL l ++ t) 1) = (l, (encL l).length, 0) := by
  have hlen : l.length ≤ (l.flatMap enc).length := by
    clear hl
    induction l with
    | nil => simp
    | cons a l ih =>
      have h1 := enc_length a (hi a (by simp)).1 (hi a (by simp)).2
      have h2 := ih (fun n hn => hi n (by simp [hn]))
      simp only [List.flatMap_cons, List.length_append, List.length_cons]
      omega
  unfold encL
  exact listD_enc dec enc 1 l t (by omega) (by rw [Nat.div_one, List.length_append]; omega) (fun y hy t => dec_enc y (hi y hy).1 (hi y hy).2 t)

end Go.Proofs.YthffkbdecfjekaaDoor

/-
  Plain mathematics: the bytes from which a value is decoded are its encoding.
-/
namespace Go.Proofs.YthffkbdecfjekaaDoor

theorem be_val : ∀ (d : List Nat), (∀ y ∈ d, y < 256) → be d.length (val d) = d
  | [], _ => rfl
  | x :: l, h => by
    have hx := h x (by simp)
    have hl := val_lt l (fun y hy => h y (by simp [hy]))
    have ih := be_val l (fun y hy => h y (by simp [hy]))
    have hp : 0 < 256 ^ l.length := Nat.pow_pos (by omega)
    rw [List.length_cons, be, val_cons, be_mod]
    have e1 : (x * 256 ^ l.length + val l) / 256 ^ l.length = x := by
      rw [Nat.mul_comm, Nat.mul_add_div hp, Nat.div_eq_of_lt hl, Nat.add_zero]
    have e2 : (x * 256 ^ l.length + val l) % 256 ^ l.length = val l := by
      rw [Nat.mul_comm, Nat.mul_add_mod, Nat.mod_eq_of_lt hl]
    rw [e1, e2, Nat.mod_eq_of_lt hx, ih]

set_option maxRecDepth 100000 in
theorem dec_canon (b : List Nat) (hb : ∀ y ∈ b, y < 256) (n : Int) (u : Nat) (h : dec b = (n, u, 0)) : enc n = b.take u := by
  match b, hb, h with
  | [], _, h => simp [dec] at h
  | x :: t, hb, h =>
    have ht : ∀ y ∈ t, y < 256 := fun y hy => hb y (by simp [hy])
    simp only [dec] at h
    split at h
    · rename_i hx
      split at h
      · simp at h
      · split at h
        · simp at h
        · split at h
          · simp at h
          · rename_i h1 h2 h3
            simp only [Prod.mk.injEq] at h
            obtain ⟨rfl, rfl, _⟩ := h
            have hs : sz (val (t.take (x - 128))) = x - 128 := by
              rcases Nat.decEq (sz (val (t.take (x - 128)))) (x - 128) with e | e
              · exact absurd (Or.inl e) h3
              · exact e
            have hl : (t.take (x - 128)).length = x - 128 := by simp; omega
            have hv := be_val (t.take (x - 128)) (fun y hy => ht y (List.mem_of_mem_take hy))
            rw [hl] at hv
            rw [enc_nat, hs, hv]
            rw [show 128 + (x - 128) = x by omega]
            simp
    · rename_i hx
      split at h
      · simp at h
      · split at h
        · simp at h
        · split at h
          · simp at h
          · rename_i h1 h2 h3
            simp only [Prod.mk.injEq] at h
            obtain ⟨rfl, rfl, _⟩ := h
            have hs : sz (nv t (127 - x)) = 127 - x := by
              rcases Nat.decEq (sz (nv t (127 - x))) (127 - x) with e | e
              · exact absurd (Or.inl e) h3
              · exact e
            have hl : ((t.take (127 - x)).map (255 - ·)).length = 127 - x := by simp; omega
            have hv := be_val ((t.take (127 - x)).map (255 - ·)) (by
              intro y hy
              obtain ⟨z, _, rfl⟩ := List.mem_map.1 hy
              omega)
            rw [hl] at hv
            have hm : (be (127 - x) (nv t (127 - x))).map (255 - ·) = t.take (127 - x) := by
              unfold nv
              rw [hv, map_map_255 _ (fun y hy => ht y (List.mem_of_mem_take hy))]
            rw [enc_neg, hs, hm]
            rw [show 127 - (127 - x) = x by omega]
            simp
theorem lenD_canon (b : List Nat) (hb : ∀ y ∈ b, y < 256) (wd : Nat) (n : Int) (u : Nat) (h : lenD b wd = (n, u, 0)) : 0 ≤ n ∧ enc n = b.take u := by
  unfold lenD at h
  have hc := dec_canon b hb
  generalize dec b = r at h hc
  obtain ⟨x, v, er⟩ := r
  by_cases h1 : er = 0
  · rcases Int.lt_or_le x 0 with h2 | h2
    · rw [lenE_form h1 h2] at h; simp at h
    · by_cases h3 : (((b.length - v) / wd : Nat) : Int) < x
      · rw [lenE_more h1 h2 h3] at h; simp at h
      · rw [lenE_ok h1 h2 h3] at h
        simp only [Prod.mk.injEq] at h
        obtain ⟨rfl, rfl, _⟩ := h
        exact ⟨h2, hc _ _ (by rw [h1])⟩
  · rw [lenE_err h1] at h
    simp only [Prod.mk.injEq] at h
    exact absurd h.2.2 h1
theorem take_add' {α : Type} (l : List α) (a k : Nat) : l.take (a + k) = l.take a ++ (l.drop a).take k := List.take_add
theorem decB_canon (b : List Nat) (hb : ∀ y ∈ b, y < 256) (s : List Nat) (u : Nat) (h : decB b = (s, u, 0)) : encS s = b.take u := by
  have hk := lenD_ok b 1
  have hc := lenD_canon b hb 1
  unfold decB at h
  generalize lenD b 1 = r at h hk hc
  obtain ⟨n, v, er⟩ := r
  simp only at h hk
  by_cases h1 : er = 0
  · rw [if_neg (by simp [h1])] at h
    simp only [Prod.mk.injEq] at h
    obtain ⟨rfl, rfl, _⟩ := h
    obtain ⟨h0, he⟩ := hc n v (by rw [h1])
    have hl : (((b.drop v).take n.toNat).length : Int) = n := by
      have := hk.2.2.2.1 h1
      simp; omega
    unfold encS
    rw [hl, he, take_add']
  · rw [if_pos h1] at h
    simp only [Prod.mk.injEq] at h
    exact absurd h.2.2 h1

theorem loopD_canon {α : Type} (f : List Nat → α × Nat × Nat) (g : α → List Nat) (b : List Nat) (hf : ∀ k y u, f (b.drop k) = (y, u, 0) → g y = (b.drop k).take u) :
    ∀ (n used : Nat) (xs ys : List α) (u : Nat), loopD f b n used xs = (ys, u, 0) → ∃ zs, ys = xs ++ zs ∧ zs.length = n ∧ used ≤ u ∧ zs.flatMap g = (b.drop used).take (u - used)
  | 0, used, xs, ys, u, h => by
    simp only [loopD, Prod.mk.injEq] at h
    obtain ⟨rfl, rfl, _⟩ := h
    exact ⟨[], by simp, rfl, Nat.le_refl _, by simp⟩
  | n + 1, used, xs, ys, u, h => by
    obtain ⟨⟨y, k, er⟩, hy⟩ : ∃ r, f (b.drop used) = r := ⟨_, rfl⟩
    by_cases h1 : er = 0
    · subst h1
      rw [loopD_ok (by omega) hy rfl, Nat.add_sub_cancel] at h
      obtain ⟨zs, h2, h3, h4, h5⟩ := loopD_canon f g b hf n _ _ ys u h
      refine ⟨y :: zs, by rw [h2]; simp, by simp [h3], by omega, ?_⟩
      rw [List.flatMap_cons, hf _ _ _ hy, h5]
      have e : u - used = k + (u - (used + k)) := by omega
      rw [e, take_add', List.drop_drop]
    · rw [loopD_err (by omega) hy h1] at h
      simp only [Prod.mk.injEq] at h
      exact absurd h.2.2 h1
theorem listD_canon {α : Type} (f : List Nat → α × Nat × Nat) (g : α → List Nat) (b : List Nat) (hb : ∀ y ∈ b, y < 256) (wd : Nat) (hf : ∀ k y u, f (b.drop k) = (y, u, 0) → g y = (b.drop k).take u)
    (ys : List α) (u : Nat) (h : listR (listD f b wd) = (ys, u, 0)) : enc (ys.length : Int) ++ ys.flatMap g = b.take u := by
  have hc := lenD_canon b hb wd
  have h' : listD f b wd = (ys, u, 0) := by
    generalize listD f b wd = r at h
    obtain ⟨a, c, er⟩ := r
    by_cases h1 : er = 0
    · subst h1; simpa [listR] using h
    · simp [listR, h1] at h
  unfold listD at h'
  generalize lenD b wd = r at h' hc
  obtain ⟨n, v, er⟩ := r
  simp only at h'
  by_cases h1 : er = 0
  · rw [if_neg (by simp [h1])] at h'
    obtain ⟨h0, he⟩ := hc n v (by rw [h1])
    obtain ⟨zs, h2, h3, h4, h5⟩ := loopD_canon f g b hf _ _ _ ys u h'
    rw [List.nil_append] at h2
    subst h2
    rw [h3, h5, show ((n.toNat : Nat) : Int) = n by omega, he]
    have e : u = v + (u - v) := by omega
    rw [← take_add', ← e]
  · rw [if_pos h1] at h'
    simp only [Prod.mk.injEq] at h'
    exact absurd h'.2.2 h1

theorem loopD_all {α : Type} (f : List Nat → α × Nat × Nat) (b : List Nat) (P : α → Prop) (hf : ∀ k, P (f (b.drop k)).1) : ∀ (n used : Nat) (xs : List α), (∀ x ∈ xs, P x) → ∀ x ∈ (loopD f b n used xs).1, P x
  | 0, _, xs, h => h
  | n + 1, used, xs, h => by
    have h2 : ∀ x ∈ xs ++ [(f (b.drop used)).1], P x := by
      intro x hx
      rcases List.mem_append.1 hx with h1 | h1
      · exact h x h1
      · simp only [List.mem_singleton] at h1; subst h1; exact hf used
    unfold loopD
    split
    · exact h2
    · exact loopD_all f b P hf n _ _ h2
theorem loopD_length {α : Type} (f : List Nat → α × Nat × Nat) (b : List Nat) : ∀ (n used : Nat) (xs : List α), (loopD f b n used xs).1.length ≤ xs.length + n
  | 0, _, xs => by simp [loopD]
  | n + 1, used, xs => by
    unfold loopD
    split
    · simp
    · have := loopD_length f b n (used + (f (b.drop used)).2.1) (xs ++ [(f (b.drop used)).1])
      simp at this
      omega
theorem listR_all {α : Type} (f : List Nat → α × Nat × Nat) (b : List Nat) (wd : Nat) (P : α → Prop) (hf : ∀ k, P (f (b.drop k)).1) : ∀ x ∈ (listR (listD f b wd)).1, P x := by
  unfold listR
  split
  · simp
  · unfold listD
    split
    · simp
    · exact loopD_all f b P hf _ _ _ (by simp)
theorem listR_length {α : Type} (f : List Nat → α × Nat × Nat) (b : List Nat) (wd : Nat) (hw : 1 ≤ wd) : (listR (listD f b wd)).1.length ≤ b.length := by
  have h := lenD_ok b wd
  unfold listR
  split
  · simp
  · unfold listD
    split
    · simp
    · rename_i h1
      have h2 := loopD_length f b (lenD b wd).1.toNat (lenD b wd).2.1 []
      have h3 := h.2.2.2.1 (by simpa using h1)
      have h4 : (lenD b wd).1.toNat ≤ (lenD b wd).1.toNat * wd := Nat.le_mul_of_pos_right _ (by omega)
      simp at h2
      omega
theorem loopG_dig (b : List Nat) (hb : ∀ y ∈ b, y < 256) : ∀ (n used : Nat) (xs : List (List Nat)), used + n * 16 ≤ b.length → (∀ x ∈ xs, Dig x) → ∀ x ∈ (loopD decG b n used xs).1, Dig x
  | 0, _, xs, _, h => h
  | n + 1, used, xs, hl, h => by
    have h2 : ∀ x ∈ xs ++ [(b.drop used).take 16], Dig x := by
      intro x hx
      rcases List.mem_append.1 hx with h1 | h1
      · exact h x h1
      · simp only [List.mem_singleton] at h1; subst h1
        exact ⟨by simp; omega, fun y hy => hb y (List.mem_of_mem_drop (List.mem_of_mem_take hy))⟩
    have := loopG_dig b hb n (used + 16) (xs ++ [(b.drop used).take 16]) (by omega) h2
    simpa [loopD, decG] using this
theorem listG_dig (b : List Nat) (hb : ∀ y ∈ b, y < 256) : ∀ x ∈ (listR (listD decG b 16)).1, Dig x := by
  have h := lenD_ok b 16
  unfold listR
  split
  · simp
  · unfold listD
    split
    · simp
    · rename_i h1
      have h3 := h.2.2.2.1 (by simpa using h1)
      exact loopG_dig b hb _ _ _ (by omega) (by simp)
theorem tot_bound (l : List (List Nat)) (K : Nat) (h : ∀ s ∈ l, s.length ≤ K) : tot l ≤ l.length * K := by
  induction l with
  | nil => simp [tot]
  | cons a l ih =>
    have h1 := h a (by simp)
    have h2 := ih (fun s hs => h s (by simp [hs]))
    simp only [tot, List.foldr_cons, List.length_cons, Nat.add_mul] at h2 ⊢
    omega
theorem decB_length (b : List Nat) : (decB b).1.length ≤ b.length := by
  unfold decB
  split
  · simp
  · simp; omega

theorem loopD_used {α : Type} (f : List Nat → α × Nat × Nat) (b : List Nat) (hf : ∀ k, (f (b.drop k)).2.1 ≤ (b.drop k).length) : ∀ (n used : Nat) (xs : List α), used ≤ b.length → (loopD f b n used xs).2.1 ≤ b.length
  | 0, _, _, h => h
  | n + 1, used, xs, h => by
    unfold loopD
    split
    · simp
    · have := hf used
      rw [List.length_drop] at this
      exact loopD_used f b hf n _ _ (by omega)
theorem listR_used {α : Type} (f : List Nat → α × Nat × Nat) (b : List Nat) (wd : Nat) (hf : ∀ k, (f (b.drop k)).2.1 ≤ (b.drop k).length) : (listR (listD f b wd)).2.1 ≤ b.length := by
  have h := lenD_ok b wd
  unfold listR
  split
  · simp
  · unfold listD
    split
    · simp
    · rename_i h1
      have h3 := h.2.2.2.1 (by simpa using h1)
      exact loopD_used f b hf _ _ _ (by omega)
theorem loopG_used (b : List Nat) : ∀ (n used : Nat) (xs : List (List Nat)), (loopD decG b n used xs).2.1 = used + n * 16
  | 0, _, _ => by simp [loopD]
  | n + 1, used, xs => by
    have := loopG_used b n (used + 16) (xs ++ [(b.drop used).take 16])
    simp only [loopD, decG, ne_eq, not_true_eq_false, if_false]
    rw [this]
    omega
theorem listG_used (b : List Nat) : (listR (listD decG b 16)).2.1 ≤ b.length := by
  have h := lenD_ok b 16
  unfold listR
  split
  · simp
  · unfold listD
    split
    · simp
    · rename_i h1
      have h3 := h.2.2.2.1 (by simpa using h1)
      rw [loopG_used]
      omega
theorem flat_get {β : Type} (g : List Nat → List β) : ∀ (xs : List (List Nat)), (∀ x ∈ xs, (g x).length = 16) → ∀ k d, xs[k]? = some d → ∀ j u, (g d)[j]? = some u → (xs.flatMap g)[k * 16 + j]? = some u
  | [], _, k, d, h, _, _, _ => by simp at h
  | x :: xs, hx, 0, d, h, j, u, hj => by
    obtain rfl : x = d := by simpa using h
    have hl := hx x (by simp)
    have hjl := (List.getElem?_eq_some_iff.1 hj).1
    rw [List.flatMap_cons, Nat.zero_mul, Nat.zero_add, List.getElem?_append_left hjl]
    exact hj
  | x :: xs, hx, k + 1, d, h, j, u, hj => by
    have hl := hx x (by simp)
    have ih := flat_get g xs (fun y hy => hx y (by simp [hy])) k d (by simpa using h) j u hj
    rw [List.flatMap_cons, List.getElem?_append_right (by omega), hl]
    rw [show (k + 1) * 16 + j - 16 = k * 16 + j by omega]
    exact ih

theorem encS_lt2 (s : List Nat) (hs : s.length ≤ 9223372036854775807) (h : ∀ d ∈ s, d < 256) : ∀ d ∈ encS s, d < 256 := by
  intro d hd
  unfold encS at hd
  rcases List.mem_append.1 hd with h1 | h1
  · exact enc_lt _ (by omega) (by omega) d h1
  · exact h d h1
theorem encT_lt (l : List (List Nat)) (hl : l.length ≤ 9223372036854775807) (h1 : ∀ s ∈ l, s.length ≤ 9223372036854775807) (h : ∀ s ∈ l, ∀ d ∈ s, d < 256) : ∀ d ∈ encT l, d < 256 := by
  intro d hd
  unfold encT at hd
  rcases List.mem_append.1 hd with h2 | h2
  · exact enc_lt _ (by omega) (by omega) d h2
  · obtain ⟨s, hs, h3⟩ := List.mem_flatMap.1 h2
    exact encS_lt2 s (h1 s hs) (h s hs) d h3
theorem encD_lt (l : List (List Nat)) (hl : l.length ≤ 9223372036854775807) (h : ∀ s ∈ l, Dig s) : ∀ d ∈ encD l, d < 256 := by
  intro d hd
  unfold encD at hd
  rcases List.mem_append.1 hd with h2 | h2
  · exact enc_lt _ (by omega) (by omega) d h2
  · obtain ⟨s, hs, h3⟩ := List.mem_flatten.1 h2
    exact (h s hs).2 d h3
theorem drop_lt {b : List Nat} (hb : ∀ y ∈ b, y < 256) (k : Nat) : ∀ y ∈ b.drop k, y < 256 := fun y hy => hb y (List.mem_of_mem_drop hy)

/-- What was decoded from at most 2000 bytes. -/
structure Canon (l : List Nat) (n1 : Int) (u1 e1 : Nat) (s2 : List Nat) (u2 e2 : Nat) (l3 : List Int) (u3 e3 : Nat) (l4 : List (List Nat)) (u4 e4 : Nat) (l5 : List (List Nat)) (u5 e5 : Nat) : Prop where
  a1 : e1 = 0 → enc n1 = l.take u1 ∧ u1 ≤ l.length
  b1 : I64 n1
  a2 : e2 = 0 → encS s2 = l.take u2 ∧ u2 ≤ l.length
  b2 : s2.length ≤ 2000
  c2 : ∀ d ∈ s2, d < 256
  a3 : e3 = 0 → encL l3 = l.take u3 ∧ u3 ≤ l.length
  b3 : l3.length ≤ 2000
  c3 : ∀ x ∈ l3, I64 x
  a4 : e4 = 0 → encT l4 = l.take u4 ∧ u4 ≤ l.length
  b4 : l4.length ≤ 2000
  c4 : ∀ s ∈ l4, s.length ≤ 2000
  d4 : ∀ s ∈ l4, ∀ d ∈ s, d < 256
  a5 : e5 = 0 → encD l5 = l.take u5 ∧ u5 ≤ l.length
  b5 : l5.length ≤ 2000
  c5 : ∀ x ∈ l5, Dig x
theorem canon_of (l : List Nat) (hl : l.length ≤ 2000) (hb : ∀ y ∈ l, y < 256) {n1 : Int} {u1 e1 : Nat} {s2 : List Nat} {u2 e2 : Nat} {l3 : List Int} {u3 e3 : Nat} {l4 : List (List Nat)} {u4 e4 : Nat} {l5 : List (List Nat)} {u5 e5 : Nat}
    (h1 : dec l = (n1, u1, e1)) (h2 : decB l = (s2, u2, e2)) (h3 : listR (listD dec l 1) = (l3, u3, e3)) (h4 : listR (listD decB l 1) = (l4, u4, e4)) (h5 : listR (listD decG l 16) = (l5, u5, e5)) :
    Canon l n1 u1 e1 s2 u2 e2 l3 u3 e3 l4 u4 e4 l5 u5 e5 := by
  have i64 : ∀ c, I64 (dec c).1 := fun c => ⟨(dec_ok c).2.2.2.1, (dec_ok c).2.2.2.2.1⟩
  constructor
  · intro h; subst h
    exact ⟨dec_canon l hb _ _ h1, by have := (dec_ok l).2.2.1; rw [h1] at this; exact this⟩
  · have := i64 l; rw [h1] at this; exact this
  · intro h; subst h
    exact ⟨decB_canon l hb _ _ h2, by have := (decB_ok l).2.2.1; rw [h2] at this; exact this⟩
  · have := decB_length l; rw [h2] at this; exact Nat.le_trans this hl
  · have := decB_lt l hb; rw [h2] at this; exact this
  · intro h; subst h
    refine ⟨listD_canon dec enc l hb 1 (fun k y u hy => dec_canon _ (drop_lt hb k) y u hy) _ _ h3, ?_⟩
    have := listR_used dec l 1 (fun k => (dec_ok (l.drop k)).2.2.1)
    rw [h3] at this; exact this
  · have := listR_length dec l 1 (by omega); rw [h3] at this; exact Nat.le_trans this hl
  · have := listR_all dec l 1 I64 (fun k => i64 _); rw [h3] at this; exact this
  · intro h; subst h
    refine ⟨listD_canon decB encS l hb 1 (fun k y u hy => decB_canon _ (drop_lt hb k) y u hy) _ _ h4, ?_⟩
    have := listR_used decB l 1 (fun k => (decB_ok (l.drop k)).2.2.1)
    rw [h4] at this; exact this
  · have := listR_length decB l 1 (by omega); rw [h4] at this; exact Nat.le_trans this hl
  · have := listR_all decB l 1 (fun s => s.length ≤ 2000) (fun k => Nat.le_trans (decB_length _) (by simp; omega)); rw [h4] at this; exact this
  · have := listR_all decB l 1 (fun s => ∀ d ∈ s, d < 256) (fun k => decB_lt _ (drop_lt hb k)); rw [h4] at this; exact this
  · intro h; subst h
    have hc := listD_canon decG (fun d => d) l hb 16 (fun k y u hy => by
      simp only [decG, Prod.mk.injEq] at hy
      rw [← hy.1, ← hy.2.1]) _ _ h5
    refine ⟨by unfold encD; rw [← hc]; simp [List.flatMap], ?_⟩
    have := listG_used l; rw [h5] at this; exact this
  · have := listR_length decG l 16 (by omega); rw [h5] at this; exact Nat.le_trans this hl
  · have := listG_dig l hb; rw [h5] at this; exact this

end Go.Proofs.YthffkbdecfjekaaDoor

/-
  Plain mathematics of the reference's decoding of an integer: a candidate is accepted if its encoding is what was read.
-/
namespace Go.Proofs.YthffkbdecfjekaaDoor

theorem val_step (t : List Nat) (j : Nat) (h : j < t.length) : val (t.take (j + 1)) = 256 * val (t.take j) + t[j] := by
  rw [List.take_add_one, List.getElem?_eq_getElem h]
  exact val_snoc _ _
theorem val_le (t : List Nat) (j : Nat) : ∀ k, j ≤ k → val (t.take j) ≤ val (t.take k)
  | 0, h => by
    obtain rfl : j = 0 := by omega
    exact Nat.le_refl _
  | k + 1, h => by
    by_cases hj : j = k + 1
    · subst hj; exact Nat.le_refl _
    · have := val_le t j k (by omega)
      by_cases hk : k < t.length
      · rw [val_step t k hk]; omega
      · rw [List.take_of_length_le (i := k + 1) (by omega)]
        rw [List.take_of_length_le (i := k) (by omega)] at this
        exact this
theorem val_big (t : List Nat) (j k : Nat) (h : j < k) (hk : k ≤ t.length) (hv : 36028797018963967 < val (t.take j)) : 9223372036854775808 ≤ val (t.take k) := by
  have h1 := val_step t j (by omega)
  have h2 := val_le t (j + 1) k (by omega)
  omega
theorem nv_take (t : List Nat) (k : Nat) : nv t k = val ((t.map (255 - ·)).take k) := by unfold nv; rw [List.map_take]

theorem dec_form (x : Nat) (t : List Nat) (h : x < 119 ∨ 136 < x) : dec (x :: t) = (0, 0, 2) := by
  unfold dec
  simp only
  by_cases hp : 128 ≤ x
  · rw [if_pos hp, if_pos (by omega)]
  · rw [if_neg hp, if_pos (by omega)]
theorem dec_pos_more (x : Nat) (t : List Nat) (hp : 128 ≤ x) (hk : x ≤ 136) (h : t.length < x - 128) : dec (x :: t) = (0, 0, 3) := by
  unfold dec
  simp only
  rw [if_pos hp, if_neg (by omega), if_pos h]
theorem dec_neg_more (x : Nat) (t : List Nat) (hp : ¬ 128 ≤ x) (hk : 119 ≤ x) (h : t.length < 127 - x) : dec (x :: t) = (0, 0, 3) := by
  unfold dec
  simp only
  rw [if_neg hp, if_neg (by omega), if_pos h]
theorem dec_pos_big (x : Nat) (t : List Nat) (hp : 128 ≤ x) (hk : x ≤ 136) (h : x - 128 ≤ t.length) (hv : 9223372036854775808 ≤ val (t.take (x - 128))) : dec (x :: t) = (0, 0, 2) := by
  unfold dec
  simp only
  rw [if_pos hp, if_neg (by omega), if_neg (by omega), if_pos (.inr hv)]
theorem dec_neg_big (x : Nat) (t : List Nat) (hp : ¬ 128 ≤ x) (hk : 119 ≤ x) (h : 127 - x ≤ t.length) (hv : 9223372036854775808 ≤ nv t (127 - x)) : dec (x :: t) = (0, 0, 2) := by
  unfold dec
  simp only
  rw [if_neg hp, if_neg (by omega), if_neg (by omega), if_pos (.inr hv)]
theorem dec_pos_is (x : Nat) (t : List Nat) (hp : 128 ≤ x) (hk : x ≤ 136) (h : x - 128 ≤ t.length) (hv : val (t.take (x - 128)) < 9223372036854775808) (hb : ∀ y ∈ x :: t, y < 256) :
    dec (x :: t) = if enc (val (t.take (x - 128)) : Int) = (x :: t).take (x - 128 + 1) then ((val (t.take (x - 128)) : Int), x - 128 + 1, 0) else (0, 0, 2) := by
  have e : dec (x :: t) = if sz (val (t.take (x - 128))) ≠ x - 128 ∨ 9223372036854775808 ≤ val (t.take (x - 128)) then (0, 0, 2) else ((val (t.take (x - 128)) : Int), x - 128 + 1, 0) := by
    unfold dec
    simp only
    rw [if_pos hp, if_neg (by omega), if_neg (by omega)]
  by_cases hs : sz (val (t.take (x - 128))) = x - 128
  · rw [if_neg (by omega)] at e
    rw [e, if_pos (dec_canon _ hb _ _ e)]
  · rw [if_pos (.inl hs)] at e
    rw [e, if_neg]
    intro h2
    rw [enc_nat, List.take_succ_cons] at h2
    injection h2 with h3 h4
    omega
theorem dec_neg_is (x : Nat) (t : List Nat) (hp : ¬ 128 ≤ x) (hk : 119 ≤ x) (h : 127 - x ≤ t.length) (hv : nv t (127 - x) < 9223372036854775808) (hb : ∀ y ∈ x :: t, y < 256) :
    dec (x :: t) = if enc (-1 - (nv t (127 - x) : Int)) = (x :: t).take (127 - x + 1) then (-1 - (nv t (127 - x) : Int), 127 - x + 1, 0) else (0, 0, 2) := by
  have e : dec (x :: t) = if sz (nv t (127 - x)) ≠ 127 - x ∨ 9223372036854775808 ≤ nv t (127 - x) then (0, 0, 2) else (-1 - (nv t (127 - x) : Int), 127 - x + 1, 0) := by
    unfold dec
    simp only
    rw [if_neg hp, if_neg (by omega), if_neg (by omega)]
  by_cases hs : sz (nv t (127 - x)) = 127 - x
  · rw [if_neg (by omega)] at e
    rw [e, if_pos (dec_canon _ hb _ _ e)]
  · rw [if_pos (.inl hs)] at e
    have h8 := sz_le 8 (nv t (127 - x)) (by have e : (256 : Nat) ^ 8 = 18446744073709551616 := by decide
                                            omega)
    rw [e, if_neg]
    intro h2
    rw [enc_neg, List.take_succ_cons] at h2
    injection h2 with h3 h4
    omega

end Go.Proofs.YthffkbdecfjekaaDoor

/-
  passimref01.Same, SameInts and SameTexts tell whether two lists are equal.
-/
namespace Go.Proofs.YthffkbdecfjekaaDoor
open Go.RowKit

theorem take_eq_step {α : Type} {l m : List α} {k : Nat} (h1 : k < l.length) (h2 : k < m.length) (h : l.take k = m.take k) (e : l[k] = m[k]) : l.take (k + 1) = m.take (k + 1) := by
  rw [List.take_add_one, List.take_add_one, List.getElem?_eq_getElem h1, List.getElem?_eq_getElem h2, h, e]

/-- The call told whether two lists are equal; nothing that was there has changed. -/

theorem told_of {α : Type} [DecidableEq α] {W w : World} {l m : List α} {b : Bool} (h : decide (l = m) = b) (hB : Below W.heap.size W w) : Told W (decide (l = m)) (.returned (.bool b)) w := ⟨by rw [h], hB⟩

theorem bytes_ext {x y : ByteArray} (h : x.toList = y.toList) : x = y := by
  rw [Lib.toList_data, Lib.toList_data] at h
  cases x; cases y
  congr 1
  exact Array.toList_inj.1 h

set_option maxHeartbeats 400000 in
theorem same_any (A B : Option Addr) (l m : List Nat) (n1 n2 c d : Nat) (w : World) (h1 : n1 = l.length) (h2 : n2 = m.length) (hl : l.length ≤ 140737488355328) (hm : m.length ≤ 140737488355328) (ha : Has w A l) (hb : Has w B m) :
    Calls Tryd.prog 57 #[.slice A n1 c, .slice B n2 d] w (Told w (decide (l = m))) := by
  subst h1; subst h2
  by_cases hlen : l.length = m.length
  · have hne : ((l.length : Int) != (m.length : Int)) = false := by simp [hlen]
    have HLEN := Lib.hid hlen
    clear hlen
    go_enter Tryd.func57, Tryd.ntmps57
    go_wp2
    go_loopw [5] (fun i wr => ∃ k : Nat, k ≤ l.length ∧ i = .int .i64 k ∧ Hid (l.take k = m.take k) ∧ Below w.heap.size w wr) (fun i _ => l.length - (intOf i).toNat)
    case atStart => exact ⟨0, by omega, rfl, Lib.hid (by simp), Below.refl _ _⟩
    case round =>
      obtain ⟨k, hk, rfl, HT, hB⟩ := hrel
      by_cases hlt : k < l.length
      · have hlt2 : k < m.length := by rw [← HLEN.out]; exact hlt
        obtain ⟨_, ad, rfl, _, hc1⟩ := (ha.keep hB).at k l[k] (List.getElem?_eq_getElem hlt)
        obtain ⟨_, bd, rfl, _, hc2⟩ := (hb.keep hB).at k m[k] (List.getElem?_eq_getElem hlt2)
        have hc1' : wr.cell? (ad.add k) = some (.int .u8 (l[k] : Int)) := hc1
        have hc2' : wr.cell? (bd.add k) = some (.int .u8 (m[k] : Int)) := hc2
        have HS : Hid (l[k] = m[k] → l.take (k + 1) = m.take (k + 1)) := fun e => take_eq_step hlt hlt2 HT.out e
        have HN : Hid (l[k] ≠ m[k] → l ≠ m) := fun e1 e2 => e1 (by subst e2; rfl)
        generalize l[k] = x at hc1' HS HN
        generalize m[k] = y at hc2' HS HN
        clear hc1 hc2
        by_cases hxy : x = y
        · have hb1 : ((x : Int) != (y : Int)) = false := by simp [hxy]
          have HT2 := Lib.hid (HS.out hxy)
          clear HS HN hxy
          go_wp2
          go_quiet (fail)
          go_wp2
          go_roundw
          case rel => exact ⟨k + 1, by omega, by go_num, HT2, below_drewN hB _⟩
          case measure => simp [intOf]; omega
        · have hb1 : ((x : Int) != (y : Int)) = true := by simp; omega
          go_wp2
          go_quiet (fail)
          go_wp2
          go_ret
          exact told_of (decide_eq_false (HN.out hxy)) (below_drewN hB _)
      · have HT3 : Hid (l = m) := by
          have e := HT.out
          rw [List.take_of_length_le (by omega), List.take_of_length_le (by rw [← HLEN.out]; omega)] at e
          exact e
        go_wp2
        go_ret
        exact told_of (decide_eq_true HT3.out) hB
  · have hne : ((l.length : Int) != (m.length : Int)) = true := by simp; omega
    go_enter Tryd.func57, Tryd.ntmps57
    go_wp2
    go_ret
    exact told_of (decide_eq_false (fun e => hlen (by rw [e]))) (Below.refl _ _)

end Go.Proofs.YthffkbdecfjekaaDoor

/-
  passimref01.GetInt returns, for every byte slice, what the encoding says, and changes nothing that was there.
-/
namespace Go.Proofs.YthffkbdecfjekaaDoor
open Go.RowKit

/-- The call returned r, and what was there is as it was. -/
def Gave3 (w : World) (r : Int × Nat × Nat) (e : Ending) (w' : World) : Prop := e = .returned (three r) ∧ Below w.heap.size w w'
theorem gave3_of {w w' : World} {r r' : Int × Nat × Nat} {v : Value} (h : r = r') (hv : v = three r') (hb : Below w.heap.size w w') : Gave3 w r (.returned v) w' := by
  subst h; subst hv; exact ⟨rfl, hb⟩

def MadeH (w : World) (l : List Nat) (e : Ending) (w' : World) : Prop :=
  ∃ g cap, e = .returned (.slice (some ⟨g, 0, none⟩) l.length cap) ∧ Has w' (some ⟨g, 0, none⟩) l ∧ Below w.heap.size w w'
theorem rint_made (n : Int) (h1 : -9223372036854775808 ≤ n) (h2 : n ≤ 9223372036854775807) (w : World) : Calls Tryd.prog 30 #[.int .i64 n] w (MadeH w (enc n)) :=
  (rint_any n h1 h2 w).mono fun _ _ ⟨g, cap, he, hO⟩ => ⟨g, cap, he, hO.has (enc_lt n h1 h2), hO.below⟩

set_option maxHeartbeats 400000 in
set_option maxRecDepth 100000 in
theorem rgetInt_nil (A : Option Addr) (c : Nat) (w : World) :
    Calls Tryd.prog 40 #[.slice A 0 c] w (Gave3 w (dec [])) := by
  go_enter Tryd.func40, Tryd.ntmps40
  go_wp2
  go_ret3
  exact ⟨rfl, Below.refl _ _⟩

set_option maxHeartbeats 400000 in
set_option maxRecDepth 100000 in
theorem rgetInt_pos (ad : Addr) (x : Nat) (t : List Nat) (n c : Nat) (w : World) (hn : n = t.length + 1) (hc : n ≤ c) (hc2 : n ≤ 140737488355328)
    (h0 : w.cell? ad = some (.int .u8 x)) (hr : Has w (some ad) (x :: t)) (hp : 128 ≤ x) (hh : x < 256) :
    Calls Tryd.prog 40 #[.slice (some ad) n c] w (Gave3 w (dec (x :: t))) := by
  subst hn
  by_cases hk : 136 < x
  · go_enter Tryd.func40, Tryd.ntmps40
    go_wp2
    go_ret3
    exact gave3_of (dec_form x t (.inr hk)) rfl (Below.refl _ _)
  · by_cases hk2 : t.length < x - 128
    · go_enter Tryd.func40, Tryd.ntmps40
      go_wp2
      go_ret3
      exact gave3_of (dec_pos_more x t hp (by omega) hk2) rfl (Below.refl _ _)
    · go_enter Tryd.func40, Tryd.ntmps40
      go_wp2
      go_loop [7, 8] (fun m i => ∃ j v : Nat, j ≤ x - 128 ∧ i = .int .i64 ((j : Int) + 1) ∧ m = .int .i64 v ∧ v < 9223372036854775808 ∧ Hid (v = val (t.take j))) (fun _ i => x - 128 + 1 - (intOf i).toNat)
      case atStart => exact ⟨0, 0, by omega, rfl, rfl, by omega, Lib.hid rfl⟩
      case round =>
        obtain ⟨j, v, hj, rfl, rfl, hv, HV⟩ := hrel
        by_cases hjk : j < x - 128
        · have hjt : j < t.length := by omega
          obtain ⟨hy, ad', e, hbb, hcell⟩ := hr.at (j + 1) t[j] (by rw [List.getElem?_cons_succ, List.getElem?_eq_getElem hjt])
          obtain rfl : ad = ad' := by simpa using e
          have hs := val_step t j hjt
          rw [← HV.out] at hs
          have HS := Lib.hid hs
          have HB := Lib.hid (fun h => val_big t j (x - 128) hjk (by omega) h)
          rw [← HV.out] at HB
          generalize t[j] = y at hy hcell HS
          have hc0 : w.cell? ⟨ad.block, ad.off + (j + 1), none⟩ = some (.int .u8 y) := by simpa [Addr.add, byteV] using hcell
          clear hs e hcell
          by_cases hbig : 36028797018963967 < v
          · have hd1 : decide ((36028797018963967 : Int) < (v : Int)) = true := by simp; omega
            go_wp2
            go_ret3
            exact gave3_of (dec_pos_big x t hp (by omega) (by omega) (HB.out hbig)) rfl (Below.refl _ _)
          · have hd1 : decide ((36028797018963967 : Int) < (v : Int)) = false := by simp; omega
            go_wp2
            exact ⟨⟨j + 1, 256 * v + y, by omega, by simp, by simp, by omega, HS.symm⟩, by simp [intOf]; omega⟩
        · obtain rfl : x - 128 = j := by omega
          have HD := Lib.hid (dec_pos_is x t hp (by omega) (by omega) (by rw [← HV.out]; exact hv) hr.2)
          rw [← HV.out] at HD
          obtain ⟨b, hb⟩ : ∃ b, decide (enc (v : Int) = (x :: t).take (x - 128 + 1)) = b := ⟨_, rfl⟩
          have HBB := Lib.hid hb
          have HS2 : Hid (∀ (w' : World) (g cap n2 : Nat), n2 = x - 128 + 1 → Has w' (some ⟨g, 0, none⟩) (enc (v : Int)) → Below w.heap.size w w' → Calls Tryd.prog 57 #[.slice (some ⟨g, 0, none⟩) (enc (v : Int)).length cap, .slice (some ad) n2 c] w' (Told w' b)) :=
            fun w' g cap n2 hn hH hB => hb ▸ same_any _ _ _ _ _ _ _ _ _ rfl (by rw [List.length_take, List.length_cons]; omega) (by have := enc_length (v : Int) (by omega) (by omega); omega) (by rw [List.length_take, List.length_cons]; omega) hH ((hr.keep hB).take _)
          have e1 : (x : Int) - 128 = ((x - 128 : Nat) : Int) := by omega
          have hkc : x - 128 + 1 ≤ c := by omega
          have hk8 : x - 128 ≤ 8 := by omega
          go_wp2_with fail
          clear HV e1 hj hjk
          clear hb
          generalize x - 128 = k at HD HBB HS2 hkc hk8 ⊢
          have hcz : ¬ c = 0 := by omega
          have b1 : (k : Int) + 1 ≤ (c : Int) := by omega
          have bw : IntKind.i64.wrap ((k : Int) + 1) = (k : Int) + 1 := by simp [IntKind.wrap, IntKind.signed, IntKind.bits]; omega
          have bx : wrap64 ((k : Int) + 1) = (k : Int) + 1 := by unfold wrap64; omega
          have b5 : (k : Int) < (c : Int) := by omega
          have b6 : k < c := by omega
          have b2 : (0 : Int) ≤ (k : Int) + 1 := by omega
          have b3 : decide ((k : Int) + 1 ≤ (c : Int)) = true := by simp; omega
          have b4 : decide ((0 : Int) ≤ (k : Int) + 1) = true := by simp; omega
          go_region_held3 (fun _ => True) (trivial) (first | (go_at_call 30; refine (rint_made (v : Int) (by omega) (by omega) _).mono ?_; rintro e w1 ⟨g1, cap1, rfl, hH1, hB1⟩) | (go_at_call 57; refine (HS2.out _ g1 cap1 _ (by first | omega | (simp; omega)) hH1 (by exact (Below.refl _ _).drew.trans hB1)).mono ?_; rintro e w2 ⟨rfl, hB2⟩))
          all_goals
            have hB2' : Below w.heap.size w w2 := link ((Below.refl w.heap.size w).drew.trans hB1) hB2
            clear HS2 hB1 hB2 hH1
            cases b
            · have HD2 := Lib.hid (HD.out.trans (if_neg (of_decide_eq_false HBB.out)))
              clear HD HBB
              go_wp2
              go_ret3
              exact gave3_of HD2.out rfl hB2'
            · have HD2 := Lib.hid (HD.out.trans (if_pos (of_decide_eq_true HBB.out)))
              clear HD HBB
              go_wp2
              go_ret3
              exact gave3_of HD2.out rfl hB2'

set_option maxHeartbeats 400000 in
set_option maxRecDepth 100000 in
theorem rgetInt_neg (ad : Addr) (x : Nat) (t : List Nat) (n c : Nat) (w : World) (hn : n = t.length + 1) (hc : n ≤ c) (hc2 : n ≤ 140737488355328)
    (h0 : w.cell? ad = some (.int .u8 x)) (hr : Has w (some ad) (x :: t)) (hp : ¬ 128 ≤ x) :
    Calls Tryd.prog 40 #[.slice (some ad) n c] w (Gave3 w (dec (x :: t))) := by
  subst hn
  by_cases hk : x < 119
  · go_enter Tryd.func40, Tryd.ntmps40
    go_wp2
    go_ret3
    exact gave3_of (dec_form x t (.inl hk)) rfl (Below.refl _ _)
  · by_cases hk2 : t.length < 127 - x
    · go_enter Tryd.func40, Tryd.ntmps40
      go_wp2
      go_ret3
      exact gave3_of (dec_neg_more x t hp (by omega) hk2) rfl (Below.refl _ _)
    · go_enter Tryd.func40, Tryd.ntmps40
      go_wp2
      go_loop [7, 8] (fun m i => ∃ j v : Nat, j ≤ 127 - x ∧ i = .int .i64 ((j : Int) + 1) ∧ m = .int .i64 v ∧ v < 9223372036854775808 ∧ Hid (v = nv t j)) (fun _ i => 127 - x + 1 - (intOf i).toNat)
      case atStart => exact ⟨0, 0, by omega, rfl, rfl, by omega, Lib.hid rfl⟩
      case round =>
        obtain ⟨j, v, hj, rfl, rfl, hv, HV⟩ := hrel
        by_cases hjk : j < 127 - x
        · have hjt : j < t.length := by omega
          obtain ⟨hy, ad', e, hbb, hcell⟩ := hr.at (j + 1) t[j] (by rw [List.getElem?_cons_succ, List.getElem?_eq_getElem hjt])
          obtain rfl : ad = ad' := by simpa using e
          have hs : nv t (j + 1) = 256 * nv t j + (255 - t[j]) := by rw [nv_take, nv_take, val_step _ j (by simpa using hjt)]; simp
          rw [← HV.out] at hs
          have HS := Lib.hid hs
          have HB := Lib.hid (fun h => val_big (t.map (255 - ·)) j (127 - x) hjk (by simp; omega) h)
          rw [← nv_take, ← nv_take] at HB
          rw [← HV.out] at HB
          generalize t[j] = y at hy hcell HS
          have hc0 : w.cell? ⟨ad.block, ad.off + (j + 1), none⟩ = some (.int .u8 y) := by simpa [Addr.add, byteV] using hcell
          clear hs e hcell
          by_cases hbig : 36028797018963967 < v
          · have hd1 : decide ((36028797018963967 : Int) < (v : Int)) = true := by simp; omega
            go_wp2
            go_ret3
            exact gave3_of (dec_neg_big x t hp (by omega) (by omega) (HB.out hbig)) rfl (Below.refl _ _)
          · have hd1 : decide ((36028797018963967 : Int) < (v : Int)) = false := by simp; omega
            go_wp2
            exact ⟨⟨j + 1, 256 * v + (255 - y), by omega, by simp, by simp; omega, by omega, HS.symm⟩, by simp [intOf]; omega⟩
        · obtain rfl : 127 - x = j := by omega
          have HD := Lib.hid (dec_neg_is x t hp (by omega) (by omega) (by rw [← HV.out]; exact hv) hr.2)
          rw [← HV.out] at HD
          obtain ⟨b, hb⟩ : ∃ b, decide (enc (-1 - (v : Int)) = (x :: t).take (127 - x + 1)) = b := ⟨_, rfl⟩
          have HBB := Lib.hid hb
          have HS2 : Hid (∀ (w' : World) (g cap n2 : Nat), n2 = 127 - x + 1 → Has w' (some ⟨g, 0, none⟩) (enc (-1 - (v : Int))) → Below w.heap.size w w' → Calls Tryd.prog 57 #[.slice (some ⟨g, 0, none⟩) (enc (-1 - (v : Int))).length cap, .slice (some ad) n2 c] w' (Told w' b)) :=
            fun w' g cap n2 hn hH hB => hb ▸ same_any _ _ _ _ _ _ _ _ _ rfl (by rw [List.length_take, List.length_cons]; omega) (by have := enc_length (-1 - (v : Int)) (by omega) (by omega); omega) (by rw [List.length_take, List.length_cons]; omega) hH ((hr.keep hB).take _)
          have e1 : 127 - (x : Int) = ((127 - x : Nat) : Int) := by omega
          have hkc : 127 - x + 1 ≤ c := by omega
          have hk8 : 127 - x ≤ 8 := by omega
          go_wp2_with fail
          clear HV e1 hj hjk
          clear hb
          generalize 127 - x = k at HD HBB HS2 hkc hk8 ⊢
          have hcz : ¬ c = 0 := by omega
          have b1 : (k : Int) + 1 ≤ (c : Int) := by omega
          have bw : IntKind.i64.wrap ((k : Int) + 1) = (k : Int) + 1 := by simp [IntKind.wrap, IntKind.signed, IntKind.bits]; omega
          have bx : wrap64 ((k : Int) + 1) = (k : Int) + 1 := by unfold wrap64; omega
          have b5 : (k : Int) < (c : Int) := by omega
          have b6 : k < c := by omega
          have b2 : (0 : Int) ≤ (k : Int) + 1 := by omega
          have b3 : decide ((k : Int) + 1 ≤ (c : Int)) = true := by simp; omega
          have b4 : decide ((0 : Int) ≤ (k : Int) + 1) = true := by simp; omega
          go_region_held3 (fun _ => True) (trivial) (first | (go_at_call 30; refine (rint_made (-1 - (v : Int)) (by omega) (by omega) _).mono ?_; rintro e w1 ⟨g1, cap1, rfl, hH1, hB1⟩) | (go_at_call 57; refine (HS2.out _ g1 cap1 _ (by first | omega | (simp; omega)) hH1 (by exact (Below.refl _ _).drew.trans hB1)).mono ?_; rintro e w2 ⟨rfl, hB2⟩))
          all_goals
            have hB2' : Below w.heap.size w w2 := link ((Below.refl w.heap.size w).drew.trans hB1) hB2
            clear HS2 hB1 hB2 hH1
            cases b
            · have HD2 := Lib.hid (HD.out.trans (if_neg (of_decide_eq_false HBB.out)))
              clear HD HBB
              go_wp2
              go_ret3
              exact gave3_of HD2.out rfl hB2'
            · have HD2 := Lib.hid (HD.out.trans (if_pos (of_decide_eq_true HBB.out)))
              clear HD HBB
              go_wp2
              go_ret3
              exact gave3_of HD2.out rfl hB2'

theorem rgetInt_any (A : Option Addr) (l : List Nat) (n c : Nat) (w : World) (hn : n = l.length) (hc : n ≤ c) (hc2 : n ≤ 140737488355328) (hr : Has w A l) :
    Calls Tryd.prog 40 #[.slice A n c] w (Gave3 w (dec l)) := by
  match l, hn, hr with
  | [], hn, _ =>
    subst hn
    exact rgetInt_nil A c w
  | x :: t, hn, hr =>
    obtain ⟨hx, ad, rfl, hb, h0⟩ := hr.at 0 x rfl
    have h0' : w.cell? ad = some (.int .u8 x) := h0
    by_cases hp : 128 ≤ x
    · exact rgetInt_pos ad x t n c w (by simpa using hn) hc hc2 h0' hr hp hx
    · exact rgetInt_neg ad x t n c w (by simpa using hn) hc hc2 h0' hr hp

end Go.Proofs.YthffkbdecfjekaaDoor

/-
  passimref03.levels: the nodes of a tree, level by level.
-/
namespace Go.Proofs.YthffkbdecfjekaaDoor
open Go.RowKit
set_option linter.unusedVariables false
set_option linter.unusedSimpArgs false

/-- The first n nodes of a level. -/
def nodesL (seed : List Nat) (j n : Nat) : List (List Nat) := (List.range n).map (nodeM seed j)
theorem nodesL_length (seed : List Nat) (j n : Nat) : (nodesL seed j n).length = n := by simp [nodesL]
theorem nodesL_succ (seed : List Nat) (j n : Nat) : nodesL seed j (n + 1) = nodesL seed j n ++ [nodeM seed j n] := by simp [nodesL, List.range_succ]
theorem nodesL_dgt (seed : List Nat) (j n : Nat) : ∀ d ∈ nodesL seed j n, Dgt d := by
  intro d hd
  obtain ⟨k, _, rfl⟩ := List.mem_map.1 hd
  exact node_dgt _ _ _
theorem nodesL_get (seed : List Nat) (j n k : Nat) (h : k < n) : (nodesL seed j n)[k]? = some (nodeM seed j k) := by simp [nodesL, h]
theorem nodes_flat_length (seed : List Nat) (j n : Nat) : (nodesL seed j n).flatten.length = 16 * n := by rw [flat_len (nodesL_dgt seed j n), nodesL_length]
/-- v is a slice of the call's own with these digests. -/
def OwnD (w : World) (B : Nat) (v : Value) (l : List (List Nat)) : Prop := w.ownsRow B 23 16 v l.length (bytesV l.flatten)
def zeroDig : Value := .agg #[.int .u8 0, .int .u8 0, .int .u8 0, .int .u8 0, .int .u8 0, .int .u8 0, .int .u8 0, .int .u8 0, .int .u8 0, .int .u8 0, .int .u8 0, .int .u8 0, .int .u8 0, .int .u8 0, .int .u8 0, .int .u8 0]
theorem diginfo : (Tryd.prog.info? 23).map (fun i => (i.zero, i.size, i.bytes)) = some (some zeroDig, 16, 16) := by kernel_rfl
theorem new_cells (w : World) (y : List Nat) (t : TypeId) : ∀ j u, (bytesV y)[j]? = some u → (w.alloc (.cells (bytesV y).toArray t)).cell? ((⟨w.heap.size, 0, none⟩ : Addr).add j) = some u := by
  intro j u hj
  rw [Addr.add_mid, Nat.zero_add]
  exact (blk_new w t (bytesV y).toArray).cell (by simpa using hj)
theorem digs_snoc (l : List (List Nat)) (y : List Nat) : bytesV (l ++ [y]).flatten = bytesV l.flatten ++ bytesV y := by rw [List.flatten_append, bytesV_append]; simp
/-- append(l, d): l the call's own digests, d a digest that was laid just before. -/
theorem push_dig {w : World} {B : Nat} {ops : Array Oper} {rest : List Oper} {o : Oper} {a : Act} {Q : Exit → Act → World → Prop} (hgd : o.guard = none) (s x : Operand)
    (ho : o.op = .call { callee := .builtin .append, args := #[s, x], argTypes := #[48, 48] })
    (l : List (List Nat)) (y : List Nat) (hy : y.length = 16) (v : Value) (hs : a.eval s = v) (hown : OwnD w B v l) (hB : B ≤ w.heap.size)
    (c : Nat) (hx : a.eval x = .slice (some ⟨w.heap.size, 0, none⟩) 1 c) (hl : l.length ≤ 1000000000)
    (h : ∀ v' w', OwnD w' B v' (l ++ [y]) → (w.alloc (.cells (bytesV y).toArray 23)).grownBy w' v.ownBlock → wpList Tryd.prog ops Q rest (a.put o.dst v') w') :
    wpList Tryd.prog ops Q (o :: rest) a (w.alloc (.cells (bytesV y).toArray 23)) := by
  obtain ⟨i0, hi, hz0, hz1, hz2⟩ := info_parts diginfo
  refine wpList_append_own _ hgd s x 48 ho B 23 i0 zeroDig 16 16 Tryd.underlying48 hi hz0 hz1 hz2 rfl (by decide) v l.length (bytesV l.flatten) hs (World.ownsRow.alloc hown _) ⟨w.heap.size, 0, none⟩ 1 c (bytesV y) hx (by rw [bytesV_length, hy]) ?c1 ?c2 ?c3 ?c4 ?c5 ?_
  case c1 => exact new_cells w y _
  case c2 => intro u hu; obtain ⟨z, _, rfl⟩ := List.mem_map.1 hu; rfl
  case c3 => unfold maxLen; omega
  case c4 => omega
  case c5 => simp; omega
  intro v' w' hown' hgrow _
  refine h v' w' ?_ hgrow
  unfold OwnD
  rw [digs_snoc, List.length_append]
  exact hown'

theorem push_dig_wp {w : World} {B : Nat} {o : Oper} {a : Act} {K : Act → World → Prop} {Q : Exit → Act → World → Prop} (s x : Operand)
    (ho : o.op = .call { callee := .builtin .append, args := #[s, x], argTypes := #[48, 48] })
    (l : List (List Nat)) (y : List Nat) (hy : y.length = 16) (v : Value) (hs : a.eval s = v) (hown : OwnD w B v l) (hB : B ≤ w.heap.size)
    (c : Nat) (hx : a.eval x = .slice (some ⟨w.heap.size, 0, none⟩) 1 c) (hl : l.length ≤ 1000000000)
    (h : ∀ v' w', OwnD w' B v' (l ++ [y]) → (w.alloc (.cells (bytesV y).toArray 23)).grownBy w' v.ownBlock → K (a.put o.dst v') w') :
    o.wp Tryd.prog a (w.alloc (.cells (bytesV y).toArray 23)) K Q := by
  obtain ⟨i0, hi, hz0, hz1, hz2⟩ := info_parts diginfo
  refine wp_append_own _ s x 48 ho B 23 i0 zeroDig 16 16 Tryd.underlying48 hi hz0 hz1 hz2 rfl (by decide) v l.length (bytesV l.flatten) hs (World.ownsRow.alloc hown _) ⟨w.heap.size, 0, none⟩ 1 c (bytesV y) hx (by rw [bytesV_length, hy]) ?c1 ?c2 ?c3 ?c4 ?c5 ?_
  case c1 => exact new_cells w y _
  case c2 => intro u hu; obtain ⟨z, _, rfl⟩ := List.mem_map.1 hu; rfl
  case c3 => unfold maxLen; omega
  case c4 => omega
  case c5 => simp; omega
  intro v' w' hown' hgrow _
  refine h v' w' ?_ hgrow
  unfold OwnD
  rw [digs_snoc, List.length_append]
  exact hown'
theorem fold_dig (x : List Nat) (h : x.length = 16) : List.foldl (fun (cs : Array Value) (x : Value × Nat) => cs.setIfInBounds x.snd x.fst) #[.int .u8 0, .int .u8 0, .int .u8 0, .int .u8 0, .int .u8 0, .int .u8 0, .int .u8 0, .int .u8 0, .int .u8 0, .int .u8 0, .int .u8 0, .int .u8 0, .int .u8 0, .int .u8 0, .int .u8 0, .int .u8 0] (bytesV x).zipIdx = (bytesV x).toArray := by
  obtain ⟨x0, x1, x2, x3, x4, x5, x6, x7, x8, x9, x10, x11, x12, x13, x14, x15, rfl⟩ := ex16 x h
  simp [bytesV, byteV, List.zipIdx_cons]
theorem OwnD.keep {w w' : World} {B : Nat} {v : Value} {l : List (List Nat)} (h : OwnD w B v l) (hb : Below w.heap.size w w') : OwnD w' B v l := by
  refine ⟨h.1, ?_⟩
  rcases h.2 with h0 | ⟨g, cap, cur, hv, hg, hh, rest⟩
  · exact .inl h0
  · refine .inr ⟨g, cap, cur, hv, hg, ?_, rest⟩
    have hlt : g < w.heap.size := (Array.getElem?_eq_some_iff.1 hh).1
    rw [hb.block g hlt]; exact hh

/-- v is a slice of the call's own with these slices. -/
def OwnR (w : World) (B : Nat) (v : Value) (rows : List Value) : Prop := w.ownsRow B 48 1 v rows.length rows
/-- The levels up to the level l. -/
def Lv (seed : List Nat) (h B : Nat) (w : World) (vo : Value) (l : Nat) (rows : List Value) : Prop :=
  rows.length = l + 1 ∧ OwnR w B vo rows ∧ ∀ j, j ≤ l → OwnD w B (rows.getD j undef) (nodesL seed j (2 ^ (h - j)))
theorem own_row_keep {w w' : World} {B : Nat} {e : TypeId} {sz n : Nat} {v : Value} {xs : List Value} (h : w.ownsRow B e sz v n xs) (hb : Below w.heap.size w w') : w'.ownsRow B e sz v n xs := by
  refine ⟨h.1, ?_⟩
  rcases h.2 with h0 | ⟨g, cap, cur, hv, hg, hh, rest⟩
  · exact .inl h0
  · refine .inr ⟨g, cap, cur, hv, hg, ?_, rest⟩
    have hlt : g < w.heap.size := (Array.getElem?_eq_some_iff.1 hh).1
    rw [hb.block g hlt]; exact hh
theorem Lv.keep {seed : List Nat} {h B l : Nat} {w w' : World} {vo : Value} {rows : List Value} (H : Lv seed h B w vo l rows) (hb : Below w.heap.size w w') : Lv seed h B w' vo l rows :=
  ⟨H.1, own_row_keep H.2.1 hb, fun j hj => own_row_keep (H.2.2 j hj) hb⟩
theorem own_lit {w : World} {B : Nat} {e : TypeId} (v : Value) (hv : v.oneCell' = true) (hB : B ≤ w.heap.size) : (w.alloc (.cells #[v] e)).ownsRow B e 1 (.slice (some ⟨w.heap.size, 0, none⟩) 1 1) 1 [v] :=
  ⟨rfl, .inr ⟨w.heap.size, 1, #[v], rfl, hB, heap_alloc_new w _, Nat.le_refl _, by unfold maxLen; omega, rfl, rfl⟩⟩
theorem OwnD.form {w : World} {B : Nat} {v : Value} {l : List (List Nat)} (h : OwnD w B v l) (h0 : 0 < l.length) : ∃ g cap, v = .slice (some ⟨g, 0, none⟩) l.length cap ∧ B ≤ g ∧ g < w.heap.size := by
  rcases h.2 with ⟨_, hz⟩ | ⟨g, cap, cur, hv, hg, hh, _⟩
  · omega
  · exact ⟨g, cap, hv, hg, (Array.getElem?_eq_some_iff.1 hh).1⟩
/-- The digest at an index. -/
theorem OwnD.range {w : World} {B g n cap : Nat} {l : List (List Nat)} (h : OwnD w B (.slice (some ⟨g, 0, none⟩) n cap) l) (hl : ∀ d ∈ l, Dgt d) (k : Nat) (D : List Nat) (hk : l[k]? = some D) : w.rangeAt g (k * 16) (bytesV D) := by
  intro j u hj
  have hp := flat_piece l k D hl hk
  have hc := World.ownsRow.cells h (g := g) (by simp [Value.ownBlock]) (k * 16 + j) u (by
    have hj16 : j < (bytesV D).length := (List.getElem?_eq_some_iff.1 hj).1
    have hD : D.length = 16 := (hl D (List.mem_of_getElem? hk)).1
    rw [bytesV_length, hD] at hj16
    rw [← hp] at hj
    unfold bytesV at hj ⊢
    rw [List.getElem?_map] at hj ⊢
    rw [List.getElem?_take, if_pos hj16, List.getElem?_drop] at hj
    rw [Nat.mul_comm k 16]
    exact hj)
  rw [Addr.add_mid, Nat.zero_add] at hc
  exact hc
theorem range_below {w w' : World} {B g o : Nat} {xs : List Value} (h : w.rangeAt g o xs) (hg : g < B) (hb : Below B w w') : w'.rangeAt g o xs := fun j u hj => (hb.cell (p := ⟨g, o + j, none⟩) hg).trans (h j u hj)
theorem sliceinfo : (Tryd.prog.info? 48).map (fun i => (i.zero, i.size, i.bytes)) = some (some (.slice none 0 0), 1, 24) := by kernel_rfl
theorem own_blk {w : World} {B : Nat} {e : TypeId} {sz n : Nat} {v : Value} {xs : List Value} (h : w.ownsRow B e sz v n xs) (h0 : 0 < n) : ∃ ob cs, v.ownBlock = some ob ∧ Blk w ob e cs := by
  rcases h.2 with ⟨_, hz⟩ | ⟨g, cap, cur, hv, _, hh, _⟩
  · omega
  · exact ⟨g, cur.toList, by rw [hv]; rfl, by unfold Blk; rw [hh]⟩
theorem own_other {w : World} {B : Nat} {e t : TypeId} {sz n b : Nat} {v : Value} {xs cs : List Value} (h : w.ownsRow B e sz v n xs) (hb : Blk w b t cs) (ht : t ≠ e) : v.ownBlock ≠ some b := by
  rcases h.2 with ⟨rfl, _⟩ | ⟨g, cap, cur, rfl, _, hh, _⟩
  · simp [Value.ownBlock]
  · intro hg
    simp only [Value.ownBlock, Option.some.injEq] at hg
    subst hg
    exact ht (hb.type (t' := e) (cs' := cur.toList) (by unfold Blk; rw [hh]))
/-- append(out, next): one level more. -/
theorem push_lv {w : World} {B : Nat} {ops : Array Oper} {rest : List Oper} {o : Oper} {a : Act} {Q : Exit → Act → World → Prop} (hgd : o.guard = none) (s x : Operand)
    (ho : o.op = .call { callee := .builtin .append, args := #[s, x], argTypes := #[49, 49] })
    (seed : List Nat) (h l : Nat) (hl : l ≤ 6) (rows : List Value) (vn vo : Value) (hs : a.eval s = vo) (H : Lv seed h B w vo l rows) (hB : B ≤ w.heap.size) (hv : vn.oneCell' = true) (hO : OwnD w B vn (nodesL seed (l + 1) (2 ^ (h - (l + 1)))))
    (c : Nat) (hx : a.eval x = .slice (some ⟨w.heap.size, 0, none⟩) 1 c)
    (k : ∀ v' w', Lv seed h B w' v' (l + 1) (rows ++ [vn]) → (w.alloc (.cells #[vn] 48)).grownBy w' vo.ownBlock → wpList Tryd.prog ops Q rest (a.put o.dst v') w') :
    wpList Tryd.prog ops Q (o :: rest) a (w.alloc (.cells #[vn] 48)) := by
  obtain ⟨hl1, hR, hD⟩ := H
  obtain ⟨i0, hi, hz0, hz1, hz2⟩ := info_parts sliceinfo
  obtain ⟨ob, cs, hob, hbk⟩ := own_blk hR (by omega)
  refine wpList_append_own _ hgd s x 49 ho B 48 i0 (.slice none 0 0) 1 24 Tryd.underlying49 hi hz0 hz1 hz2 rfl (by decide) vo rows.length rows hs (World.ownsRow.alloc hR _) ⟨w.heap.size, 0, none⟩ 1 c [vn] hx rfl ?c1 ?c2 ?c3 ?c4 ?c5 ?_
  case c1 => exact cell_one_new _ _ _
  case c2 => intro u hu; simp at hu; subst hu; exact hv
  case c3 => unfold maxLen; omega
  case c4 => omega
  case c5 => simp; omega
  intro v' w' h2 h3 _
  refine k v' w' ⟨by simp [hl1], ?_, fun j hj => ?_⟩ h3
  · unfold OwnR
    rw [List.length_append]
    exact h2
  · have keep : ∀ {B' : Nat} {u : Value} {L : List (List Nat)}, OwnD w B' u L → OwnD w' B' u L := fun hu =>
      World.ownsRow.kept (World.ownsRow.alloc hu _) h3 (Or.inr (by rw [hob]; exact own_other hu hbk (by decide)))
    by_cases hjl : j ≤ l
    · have e : (rows ++ [vn]).getD j undef = rows.getD j undef := by
        simp only [List.getD_eq_getElem?_getD]
        rw [List.getElem?_append_left (by omega)]
      rw [e]
      exact keep (hD j hjl)
    · obtain rfl : j = l + 1 := by omega
      have e : (rows ++ [vn]).getD (l + 1) undef = vn := by
        simp only [List.getD_eq_getElem?_getD]
        rw [List.getElem?_append_right (by omega), hl1, Nat.sub_self]
        rfl
      rw [e]
      exact keep hO
theorem nodes_pair (seed : List Nat) (l k : Nat) : nodeM seed (l + 1) k = joinM (nodeM seed l (2 * k)) (nodeM seed l (2 * k + 1)) := rfl

def LvOut (seed : List Nat) (h : Nat) (w : World) (e : Ending) (w' : World) : Prop := ∃ vo rows, e = .returned vo ∧ Lv seed h w.heap.size w' vo h rows ∧ Below w.heap.size w w'

set_option maxHeartbeats 4000000 in
set_option maxRecDepth 100000 in
theorem levels_any (seed : ByteArray) (hs : seed.size ≤ 1048576) (h : Nat) (hh : h ≤ 6) (w : World) (hR : GlobR w) :
    Calls Tryd.prog 24 #[.string seed, .int .i64 (h : Int)] w (LvOut (sb seed) h w) := by
  have e2 := shl_in h hh
  obtain ⟨m, hme⟩ : ∃ m, 2 ^ h = m := ⟨_, rfl⟩
  have hm6 : m ≤ 64 := by rw [← hme]; exact Nat.le_trans (Nat.pow_le_pow_right (by omega) hh) (by decide)
  rw [hme] at e2
  have HME := Lib.hid hme
  have h0 : (0 : Int) ≤ (h : Int) := by omega
  have HLF := Lib.hid (fun k (hk : k ≤ 1000000) w0 g => rleaf_any seed hs k hk w0 g)
  clear hme
  go_enter Tryd.func24, Tryd.ntmps24
  go_wp2
  go_loopw [5, 6] (fun v i wr => ∃ k : Nat, k ≤ m ∧ i = .int .i64 k ∧ OwnD wr w.heap.size v (nodesL (sb seed) 0 k) ∧ Below w.heap.size w wr) (fun _ i _ => m - (intOf i).toNat)
  case atStart => exact ⟨0, by omega, rfl, World.ownsRow_nil _ _ _ _, Below.refl _ _⟩
  case round =>
    obtain ⟨k, hk, rfl, hO, hB⟩ := hrel
    by_cases hkm : k < m
    · have hR1 := hR.keep hB
      have hst := nodesL_succ (sb seed) 0 k
      have hD := node_dgt (sb seed) 0 k
      have HLK := Lib.hid (HLF.out k (by omega) wr hR1)
      rw [show leafM (topsM (sb seed) k 68) = nodeM (sb seed) 0 k from rfl] at HLK
      generalize nodeM (sb seed) 0 k = D at hst hD HLK
      have hll := nodesL_length (sb seed) 0 k
      generalize nodesL (sb seed) 0 k = L at hst hO hll
      have HST := Lib.hid hst
      clear hst hR1
      go_wp2_with fail
      refine HLK.out.mono ?_
      rintro e w1 ⟨rfl, hB1⟩
      have hfold := fold_dig D hD.1
      have hvD : (bytesV D).length = 16 := by rw [bytesV_length]; exact hD.1
      have hO1 := hO.keep hB1
      have hB01 := link hB hB1
      clear hO hB hB1 HLK
      go_wp2_with (at_builtin; refine push_dig (w := w1) (B := w.heap.size) rfl (.tmp 17) (.tmp 21) rfl L D hD.1 _ rfl hO1 hB01.size _ rfl (by omega) ?_; intro v' w2 hO2 hg2)
      rw [← HST.out] at hO2
      have hB2 : Below w.heap.size w w2 := (hB01.alloc hB01.size _).grown hg2 (by simp; exact Nat.le_succ_of_le hB01.size) (fun j hj => (World.ownsRow.lt hO1 j hj).1)
      clear hO1 hg2 hB01 hfold
      go_wp2
      go_roundw
      case rel => exact ⟨k + 1, by omega, by go_num, hO2, hB2⟩
      case measure => simp [intOf]; omega
    · obtain rfl : k = m := by omega
      have hk1 : 1 ≤ k := by rw [← HME.out]; exact Nat.two_pow_pos h
      obtain ⟨g0, cap0, rfl, _, _⟩ := hO.form (by rw [nodesL_length]; omega)
      have hLv : Lv (sb seed) h w.heap.size (wr.alloc (.cells #[.slice (some ⟨g0, 0, none⟩) (nodesL (sb seed) 0 k).length cap0] 48)) (.slice (some ⟨wr.heap.size, 0, none⟩) 1 1) 0 [.slice (some ⟨g0, 0, none⟩) (nodesL (sb seed) 0 k).length cap0] :=
        ⟨rfl, own_lit _ rfl hB.size, fun j hj => by
          obtain rfl : j = 0 := by omega
          rw [Nat.sub_zero, HME.out]
          exact World.ownsRow.alloc hO _⟩
      rw [nodesL_length] at hLv ⊢
      have hB1 := hB.alloc hB.size (.cells #[.slice (some ⟨g0, 0, none⟩) k cap0] 48)
      clear hO hB HLF hm6
      go_wp2
      clear e2
      go_loopw [7, 8] (fun vo v wr => ∃ (l : Nat) (rows : List Value), l ≤ h ∧ v = .int .i64 l ∧ Lv (sb seed) h w.heap.size wr vo l rows ∧ Below w.heap.size w wr) (fun _ v _ => h - (intOf v).toNat)
      case atStart => exact ⟨0, _, by omega, rfl, hLv, hB1⟩
      case round =>
        clear hLv hB1
        obtain ⟨l, rows, hl, rfl, hLv, hB⟩ := hrel
        by_cases hlh : l < h
        · have hlh' : (l : Int) < (h : Int) := by omega
          have l0 : (0 : Int) ≤ (l : Int) := by omega
          obtain ⟨n2, hn2⟩ : ∃ n2, 2 ^ (h - (l + 1)) = n2 := ⟨_, rfl⟩
          have hnn : 2 ^ (h - l) = 2 * n2 := by
            rw [← hn2, ← Nat.pow_succ']
            congr 1
            omega
          have hn1 : 1 ≤ n2 := by rw [← hn2]; exact Nat.two_pow_pos _
          have hn64 : n2 ≤ 64 := by rw [← hn2]; exact Nat.le_trans (Nat.pow_le_pow_right (by omega) (by omega : h - (l + 1) ≤ 6)) (by decide)
          have hOl := hLv.2.2 l (Nat.le_refl _)
          rw [hnn] at hOl
          obtain ⟨g, cap, hvl, _, hgw⟩ := hOl.form (by rw [nodesL_length]; omega)
          rw [nodesL_length] at hvl
          rw [hvl] at hOl
          have hLvO := hLv.2.1
          obtain ⟨ob, capo, rfl, hobw, hcO⟩ : ∃ ob capo, u7 = .slice (some ⟨ob, 0, none⟩) (l + 1) capo ∧ ob < wr.heap.size ∧ wr.cell? ⟨ob, l, none⟩ = some (.slice (some ⟨g, 0, none⟩) (2 * n2) cap) := by
            have hf := World.ownsRow.form hLvO (by rw [hLv.1]; omega)
            obtain ⟨ob, capo, hv, _⟩ := hf
            have hlt := (World.ownsRow.lt hLvO ob (by rw [hv]; rfl)).2
            refine ⟨ob, capo, by rw [hv, hLv.1], hlt, ?_⟩
            have hc := World.ownsRow.cells hLvO (g := ob) (by rw [hv]; rfl) l (.slice (some ⟨g, 0, none⟩) (2 * n2) cap) (by
              rw [← hvl, List.getD_eq_getElem?_getD]
              have : l < rows.length := by rw [hLv.1]; omega
              rw [List.getElem?_eq_getElem this]
              rfl)
            rw [Addr.add_mid, Nat.zero_add] at hc
            exact hc
          have HRG := Lib.hid (fun k (hk : k < 2 * n2) => hOl.range (nodesL_dgt _ _ _) k _ (nodesL_get (sb seed) l (2 * n2) k hk))
          have HNN := Lib.hid hnn
          have HN2 := Lib.hid hn2
          have ll1 : (l : Int) < (l : Int) + 1 := by omega
          clear hvl hOl hLvO hnn hn2
          obtain ⟨wo, rfl⟩ : ∃ wo : World, wo = wr := ⟨_, rfl⟩
          go_wp2
          go_loopw [9, 10] (fun vn v wx => ∃ t : Nat, t ≤ n2 ∧ v = .int .i64 ((2 * t : Nat) : Int) ∧ OwnD wx wo.heap.size vn (nodesL (sb seed) (l + 1) t) ∧ Below wo.heap.size wo wx) (fun _ v _ => 2 * n2 - (intOf v).toNat)
          case atStart => exact ⟨0, by omega, rfl, World.ownsRow_nil _ _ _ _, Below.refl _ _⟩
          case round =>
            obtain ⟨t, ht, rfl, hO, hX⟩ := hrel
            obtain ⟨kk, hkk⟩ : ∃ kk, 2 * t = kk := ⟨_, rfl⟩
            rw [hkk]
            have hcx : wr.cell? ⟨ob, l, none⟩ = some (.slice (some ⟨g, 0, none⟩) (2 * n2) cap) := (hX.cell (p := ⟨ob, l, none⟩) hobw).trans hcO
            by_cases htn : t < n2
            · have hkl : (kk : Int) + 1 < 2 * (n2 : Int) := by omega
              have HKK := Lib.hid hkk
              clear hkk
              go_upto_region 14 with (fail)
              obtain ⟨k1, hk1e⟩ : ∃ k1, kk + 1 = k1 := ⟨_, rfl⟩
              have hw1 : IntKind.i64.wrap ((kk : Int) + 1) = (k1 : Int) := (IntWalk.i64_in _ (by omega)).trans (by omega)
              have hb1 : (kk : Int) < 2 * (n2 : Int) := by omega
              have hb2 : (k1 : Int) < 2 * (n2 : Int) := by omega
              have kk0 : (0 : Int) ≤ (kk : Int) := by omega
              have k10 : (0 : Int) ≤ (k1 : Int) := by omega
              have hrA := HRG.out kk (by omega)
              have hrB := HRG.out k1 (by omega)
              have hst := nodesL_succ (sb seed) (l + 1) t
              rw [nodes_pair, HKK.out, hk1e] at hst
              have hA := node_dgt (sb seed) l kk
              have hBd := node_dgt (sb seed) l k1
              have HNO := Lib.hid (fun w0 r => node_any _ _ hA hBd w0 r)
              have hll := nodesL_length (sb seed) (l + 1) t
              have hsA := size_dig _ hA.1
              have hsB := size_dig _ hBd.1
              generalize nodeM (sb seed) l kk = A at hst hA HNO hrA hsA
              generalize nodeM (sb seed) l k1 = B at hst hBd HNO hrB hsB
              generalize hZe : joinM A B = Z at hst HNO
              have hZ : Dgt Z := by rw [← hZe]; exact dig_ofS _ _
              generalize nodesL (sb seed) (l + 1) t = L at hst hll hO
              have HST := Lib.hid hst
              have hfold := fold_dig Z hZ.1
              have hvZ : (bytesV Z).length = 16 := by rw [bytesV_length]; exact hZ.1
              have hLl : L.length ≤ 1000000 := by omega
              clear hst hk1e hZe hll hcx
              refine wp_region_held_drew (S := fun w' => Below wo.heap.size wo w') (by kernel_rfl) (below_drew hX) (fun hHeld => ?_)
              replace hO : OwnD wr.drew wo.heap.size u9 L := hO
              generalize wr.drew = V0 at hHeld hO ⊢
              clear hX
              refine wpAnyH_take (i := 0) (oi := ⟨some 40, .move (.tmp 9), 48, "ref.go:75", #[], none⟩) (v := u9) rfl (by kernel_rfl) (by kernel_rfl) (by kernel_rfl) (fun _ _ _ h => h) (Or.inl ⟨by rfl, fun w' hSw => by go_simp⟩) hHeld ?_
              try simp only [Act.put, List.setIfInBounds_toArray, List.set_cons_zero, List.set_cons_succ]
              refine wpAnyH_take (i := 1) (oi := ⟨some 41, .move (.tmp 7), 49, "ref.go:75", #[], none⟩) (v := .slice (some ⟨ob, 0, none⟩) (l + 1) capo) rfl (by kernel_rfl) (by kernel_rfl) (by kernel_rfl) (fun _ _ _ h => h) (Or.inl ⟨by rfl, fun w' hSw => by go_simp⟩) hHeld ?_
              try simp only [Act.put, List.setIfInBounds_toArray, List.set_cons_zero, List.set_cons_succ]
              refine wpAnyH_take (i := 2) (oi := ⟨some 42, .move (.tmp 8), 3, "ref.go:75", #[], none⟩) (v := .int .i64 (l : Int)) rfl (by kernel_rfl) (by kernel_rfl) (by kernel_rfl) (fun _ _ _ h => h) (Or.inl ⟨by rfl, fun w' hSw => by go_simp⟩) hHeld ?_
              try simp only [Act.put, List.setIfInBounds_toArray, List.set_cons_zero, List.set_cons_succ]
              refine wpAnyH_take (i := 3) (oi := ⟨some 43, .indexAddr 49 (.tmp 41) (.tmp 42), 0, "ref.go:75", #[⟨1, .data⟩, ⟨2, .data⟩], none⟩) (v := .pointer (some ⟨ob, l, none⟩)) rfl (by kernel_rfl) (by kernel_rfl) (by kernel_rfl) (fun _ _ _ h => h) (Or.inl ⟨by rfl, fun w' hSw => by go_simp⟩) hHeld ?_
              try simp only [Act.put, List.setIfInBounds_toArray, List.set_cons_zero, List.set_cons_succ]
              refine wpAnyH_take (i := 4) (oi := ⟨some 44, .load 48 (.tmp 43), 48, "ref.go:75", #[⟨3, .data⟩], none⟩) (v := .slice (some ⟨g, 0, none⟩) (2 * n2) cap) rfl (by kernel_rfl) (by kernel_rfl) (by kernel_rfl) (fun _ _ _ h => h) (Or.inl ⟨by rfl, fun w' hSw => by have hcc := (hSw.cell (p := ⟨ob, l, none⟩) hobw).trans hcO; go_simp⟩) hHeld ?_
              try simp only [Act.put, List.setIfInBounds_toArray, List.set_cons_zero, List.set_cons_succ]
              refine wpAnyH_take (i := 5) (oi := ⟨some 45, .move (.tmp 10), 3, "ref.go:75", #[], none⟩) (v := .int .i64 (kk : Int)) rfl (by kernel_rfl) (by kernel_rfl) (by kernel_rfl) (fun _ _ _ h => h) (Or.inl ⟨by rfl, fun w' hSw => by go_simp⟩) hHeld ?_
              try simp only [Act.put, List.setIfInBounds_toArray, List.set_cons_zero, List.set_cons_succ]
              refine wpAnyH_take (i := 6) (oi := ⟨some 46, .indexAddr 48 (.tmp 44) (.tmp 45), 0, "ref.go:75", #[⟨4, .data⟩, ⟨5, .data⟩], none⟩) (v := .pointer (some ⟨g, kk * 16, none⟩)) rfl (by kernel_rfl) (by kernel_rfl) (by kernel_rfl) (fun _ _ _ h => h) (Or.inl ⟨by rfl, fun w' hSw => by go_simp⟩) hHeld ?_
              try simp only [Act.put, List.setIfInBounds_toArray, List.set_cons_zero, List.set_cons_succ]
              refine wpAnyH_take (i := 7) (oi := ⟨some 47, .load 23 (.tmp 46), 23, "ref.go:75", #[⟨6, .data⟩], none⟩) (v := _) rfl (by kernel_rfl) (by kernel_rfl) (by kernel_rfl) (fun _ _ _ h => h) (yieldsIf_load_mid (by rfl) _ _ rfl g (kk * 16) rfl _ _ (fun w' hSw => range_below hrA hgw hSw) Tryd.underlying23 rfl hsA) hHeld ?_
              try simp only [Act.put, List.setIfInBounds_toArray, List.set_cons_zero, List.set_cons_succ]
              refine wpAnyH_take (i := 8) (oi := ⟨some 48, .move (.tmp 7), 49, "ref.go:75", #[], none⟩) (v := .slice (some ⟨ob, 0, none⟩) (l + 1) capo) rfl (by kernel_rfl) (by kernel_rfl) (by kernel_rfl) (fun _ _ _ h => h) (Or.inl ⟨by rfl, fun w' hSw => by go_simp⟩) hHeld ?_
              try simp only [Act.put, List.setIfInBounds_toArray, List.set_cons_zero, List.set_cons_succ]
              refine wpAnyH_take (i := 9) (oi := ⟨some 49, .move (.tmp 8), 3, "ref.go:75", #[], none⟩) (v := .int .i64 (l : Int)) rfl (by kernel_rfl) (by kernel_rfl) (by kernel_rfl) (fun _ _ _ h => h) (Or.inl ⟨by rfl, fun w' hSw => by go_simp⟩) hHeld ?_
              try simp only [Act.put, List.setIfInBounds_toArray, List.set_cons_zero, List.set_cons_succ]
              refine wpAnyH_take (i := 10) (oi := ⟨some 50, .indexAddr 49 (.tmp 48) (.tmp 49), 0, "ref.go:75", #[⟨8, .data⟩, ⟨9, .data⟩], none⟩) (v := .pointer (some ⟨ob, l, none⟩)) rfl (by kernel_rfl) (by kernel_rfl) (by kernel_rfl) (fun _ _ _ h => h) (Or.inl ⟨by rfl, fun w' hSw => by go_simp⟩) hHeld ?_
              try simp only [Act.put, List.setIfInBounds_toArray, List.set_cons_zero, List.set_cons_succ]
              refine wpAnyH_take (i := 11) (oi := ⟨some 51, .load 48 (.tmp 50), 48, "ref.go:75", #[⟨10, .data⟩], none⟩) (v := .slice (some ⟨g, 0, none⟩) (2 * n2) cap) rfl (by kernel_rfl) (by kernel_rfl) (by kernel_rfl) (fun _ _ _ h => h) (Or.inl ⟨by rfl, fun w' hSw => by have hcc := (hSw.cell (p := ⟨ob, l, none⟩) hobw).trans hcO; go_simp⟩) hHeld ?_
              try simp only [Act.put, List.setIfInBounds_toArray, List.set_cons_zero, List.set_cons_succ]
              refine wpAnyH_take (i := 12) (oi := ⟨some 52, .move (.tmp 10), 3, "ref.go:75", #[], none⟩) (v := .int .i64 (kk : Int)) rfl (by kernel_rfl) (by kernel_rfl) (by kernel_rfl) (fun _ _ _ h => h) (Or.inl ⟨by rfl, fun w' hSw => by go_simp⟩) hHeld ?_
              try simp only [Act.put, List.setIfInBounds_toArray, List.set_cons_zero, List.set_cons_succ]
              refine wpAnyH_take (i := 13) (oi := ⟨some 53, .binOp .add 3 (.tmp 52) (.const (Value.int IntKind.i64 1)) 3, 3, "ref.go:75", #[⟨12, .data⟩], none⟩) (v := .int .i64 (k1 : Int)) rfl (by kernel_rfl) (by kernel_rfl) (by kernel_rfl) (fun _ _ _ h => h) (Or.inl ⟨by rfl, fun w' hSw => by go_simp⟩) hHeld ?_
              try simp only [Act.put, List.setIfInBounds_toArray, List.set_cons_zero, List.set_cons_succ]
              refine wpAnyH_take (i := 14) (oi := ⟨some 54, .indexAddr 48 (.tmp 51) (.tmp 53), 0, "ref.go:75", #[⟨11, .data⟩, ⟨13, .data⟩], none⟩) (v := .pointer (some ⟨g, k1 * 16, none⟩)) rfl (by kernel_rfl) (by kernel_rfl) (by kernel_rfl) (fun _ _ _ h => h) (Or.inl ⟨by rfl, fun w' hSw => by go_simp⟩) hHeld ?_
              try simp only [Act.put, List.setIfInBounds_toArray, List.set_cons_zero, List.set_cons_succ]
              refine wpAnyH_take (i := 15) (oi := ⟨some 55, .load 23 (.tmp 54), 23, "ref.go:75", #[⟨14, .data⟩], none⟩) (v := _) rfl (by kernel_rfl) (by kernel_rfl) (by kernel_rfl) (fun _ _ _ h => h) (yieldsIf_load_mid (by rfl) _ _ rfl g (k1 * 16) rfl _ _ (fun w' hSw => range_below hrB hgw hSw) Tryd.underlying23 rfl hsB) hHeld ?_
              try simp only [Act.put, List.setIfInBounds_toArray, List.set_cons_zero, List.set_cons_succ]
              clear hrA hrB hsA hsB
              refine wpAnyH_ready (rs := [16]) (by kernel_rfl) (by simp) ?_
              refine AllReadyH.cons (o := ⟨some 56, .call { callee := .value (.func 42), args := #[.tmp 47, .tmp 55], argTypes := #[23, 23] }, 23, "ref.go:75", #[⟨7, .data⟩, ⟨15, .data⟩], none⟩) rfl (fun K hK => ?_) AllReadyH.nil
              rw [if_pos (by rfl)]
              go_simp
              refine (HNO.out _ (hR.keep (link hB hHeld))).mono ?_
              rintro e V1 ⟨rfl, hB1⟩
              replace hO := hO.keep hB1
              have hX1 : Below wo.heap.size wo V1 := hHeld.trans (hB1.mono hHeld.size)
              clear hB1 hHeld
              dsimp only
              refine hK.out _ _ (hX1) (fun hHeld => ?_)
              clear hK K
              try simp only [Act.put, List.setIfInBounds_toArray, List.set_cons_zero, List.set_cons_succ]
              clear hX1
              have hsz0 : wo.heap.size ≤ V1.heap.size := hHeld.size
              refine wpAnyH_ready (rs := [17]) (by kernel_rfl) (by simp) ?_
              refine AllReadyH.cons (o := ⟨some 57, .buildSlice 48 1 #[(0, .tmp 56)], 48, "ref.go:75", #[⟨16, .data⟩], none⟩) rfl (fun K hK => ?_) AllReadyH.nil
              rw [if_pos (by rfl)]
              go_simp
              refine hK.out _ _ (hHeld.alloc hHeld.size _) (fun hHeld => ?_)
              clear hK K
              try simp only [Act.put, List.setIfInBounds_toArray, List.set_cons_zero, List.set_cons_succ]
              refine wpAnyH_ready (rs := [18]) (by kernel_rfl) (by simp) ?_
              refine AllReadyH.cons (o := ⟨some 58, .call { callee := .builtin .append, args := #[.tmp 40, .tmp 57], argTypes := #[48, 48] }, 48, "ref.go:75", #[⟨0, .data⟩, ⟨17, .data⟩, ⟨16, .chain⟩], none⟩) rfl (fun K hK => ?_) AllReadyH.nil
              rw [if_pos (by rfl)]
              refine push_dig_wp (w := V1) (B := wo.heap.size) (.tmp 40) (.tmp 57) rfl L Z hZ.1 u9 rfl hO hsz0 1 rfl (by omega) ?_
              intro v' w2 hO2 hg2
              have hX2 : Below wo.heap.size wo w2 := hHeld.grown hg2 hHeld.size (fun j hj => (World.ownsRow.lt hO j hj).1)
              refine hK.out _ _ hX2 (fun hHeld => ?_)
              clear hK K hX2 hg2 hO
              try simp only [Act.put, List.setIfInBounds_toArray, List.set_cons_zero, List.set_cons_succ]
              refine wpAnyH_ready (rs := [19]) (by kernel_rfl) (by simp) ?_
              refine AllReadyH.cons (o := ⟨some 9, .assign (.tmp 58), 48, "ref.go:75", #[⟨18, .data⟩, ⟨18, .chain⟩, ⟨0, .phase⟩, ⟨1, .phase⟩, ⟨2, .phase⟩, ⟨3, .phase⟩, ⟨4, .phase⟩, ⟨5, .phase⟩, ⟨6, .phase⟩, ⟨7, .phase⟩, ⟨8, .phase⟩, ⟨9, .phase⟩, ⟨10, .phase⟩, ⟨11, .phase⟩, ⟨12, .phase⟩, ⟨13, .phase⟩, ⟨14, .phase⟩, ⟨15, .phase⟩, ⟨16, .phase⟩, ⟨17, .phase⟩, ⟨18, .phase⟩], none⟩) rfl (fun K hK => ?_) AllReadyH.nil
              rw [if_pos (by rfl)]
              go_simp
              refine hK.out _ _ (hHeld) (fun hHeld => ?_)
              clear hK K
              try simp only [Act.put, List.setIfInBounds_toArray, List.set_cons_zero, List.set_cons_succ]
              refine wpAnyH_done (by kernel_rfl) ?_ _
              rw [← HST.out] at hO2
              clear hfold hw1
              go_wp2
              go_roundw
              case rel => exact ⟨t + 1, by omega, by have := HKK.out; congr 1; omega, hO2, hHeld⟩
              case measure => (have := HKK.out; simp [intOf]; omega)
            · obtain rfl : t = n2 := by omega
              have hnl : decide ((kk : Int) + 1 < 2 * (t : Int)) = false := by simp only [decide_eq_false_iff_not]; omega
              have hLw := hLv.keep hX
              obtain ⟨gn, capn, rfl, _, _⟩ := hO.form (by rw [nodesL_length]; omega)
              have hO2 : OwnD wr w.heap.size (.slice (some ⟨gn, 0, none⟩) t capn) (nodesL (sb seed) (l + 1) (2 ^ (h - (l + 1)))) := by
                rw [HN2.out]
                rw [nodesL_length] at hO
                exact World.ownsRow.mono hO hB.size
              rw [nodesL_length]
              have hBX := link hB hX
              clear hO hX
              go_wp2_with (at_builtin; refine push_lv (w := wr) (B := w.heap.size) rfl (.tmp 59) (.tmp 61) rfl (sb seed) h l (by omega) rows (.slice (some ⟨gn, 0, none⟩) t capn) _ rfl hLw hBX.size rfl hO2 _ rfl ?_; intro v' w2 hL2 hg2)
              have hB2 : Below w.heap.size w w2 := (hBX.alloc hBX.size _).grown hg2 (by simp; exact Nat.le_succ_of_le hBX.size) (fun j hj => (World.ownsRow.lt hLw.2.1 j hj).1)
              clear hLw hg2 hBX hO2 hcO hLv hB
              go_wp2
              go_roundw
              case rel => exact ⟨l + 1, _, by omega, by go_num, hL2, hB2⟩
              case measure => simp [intOf]; omega
        · obtain rfl : l = h := by omega
          go_wp2
          go_ret
          exact ⟨_, rows, rfl, hLv, hB⟩

/-- What a reader of the levels finds. -/
def Tree (seed : List Nat) (h : Nat) (w : World) (vo : Value) : Prop :=
  ∃ ob capo, vo = .slice (some ⟨ob, 0, none⟩) (h + 1) capo ∧ ob < w.heap.size ∧ ∀ j, j ≤ h → ∃ g cap, g < w.heap.size ∧ w.cell? ⟨ob, j, none⟩ = some (.slice (some ⟨g, 0, none⟩) (2 ^ (h - j)) cap) ∧ ∀ k, k < 2 ^ (h - j) → w.rangeAt g (k * 16) (bytesV (nodeM seed j k))
theorem Lv.tree {seed : List Nat} {h B : Nat} {w : World} {vo : Value} {rows : List Value} (H : Lv seed h B w vo h rows) : Tree seed h w vo := by
  obtain ⟨hl1, hR, hD⟩ := H
  obtain ⟨ob, capo, hv, _⟩ := World.ownsRow.form hR (by omega)
  have hlt := (World.ownsRow.lt hR ob (by rw [hv]; rfl)).2
  refine ⟨ob, capo, by rw [hv, hl1], hlt, fun j hj => ?_⟩
  have hO := hD j hj
  obtain ⟨g, cap, hvj, _, hg⟩ := hO.form (by rw [nodesL_length]; exact Nat.two_pow_pos _)
  rw [nodesL_length] at hvj
  refine ⟨g, cap, hg, ?_, fun k hk => ?_⟩
  · have hc := World.ownsRow.cells hR (g := ob) (by rw [hv]; rfl) j (.slice (some ⟨g, 0, none⟩) (2 ^ (h - j)) cap) (by
      rw [← hvj, List.getD_eq_getElem?_getD]
      have : j < rows.length := by rw [hl1]; omega
      rw [List.getElem?_eq_getElem this]
      rfl)
    rw [Addr.add_mid, Nat.zero_add] at hc
    exact hc
  · rw [hvj] at hO
    exact hO.range (nodesL_dgt _ _ _) k _ (nodesL_get seed j _ k hk)
theorem Tree.keep {seed : List Nat} {h : Nat} {w w' : World} {vo : Value} (H : Tree seed h w vo) (hb : Below w.heap.size w w') : Tree seed h w' vo := by
  obtain ⟨ob, capo, hv, hlt, ht⟩ := H
  refine ⟨ob, capo, hv, Nat.lt_of_lt_of_le hlt hb.size, fun j hj => ?_⟩
  obtain ⟨g, cap, hg, hc, hr⟩ := ht j hj
  exact ⟨g, cap, Nat.lt_of_lt_of_le hg hb.size, (hb.cell (p := ⟨ob, j, none⟩) hlt).trans hc, fun k hk => range_below (hr k hk) hg hb⟩

end Go.Proofs.YthffkbdecfjekaaDoor

/-
  passimref03.Public.
-/
namespace Go.Proofs.YthffkbdecfjekaaDoor
open Go.RowKit
set_option linter.unusedVariables false
set_option linter.unusedSimpArgs false

set_option maxHeartbeats 2000000 in
set_option maxRecDepth 100000 in
theorem rpublic_no (seed : ByteArray) (h : Int) (hf : fitsB seed h = false) (w : World) :
    Calls Tryd.prog 13 #[.string seed, .int .i64 h] w fun e w' => e = .returned (.tuple #[.agg (bytesV z16).toArray, .int .i64 1]) ∧ Below w.heap.size w w' := by
  have hz1 := zero_dig'
  have hz2 := build_zero
  have hvz : (bytesV z16).length = 16 := rfl
  have hz16 : (bytesV z16).toArray.toList.length = 16 := rfl
  have hb0 : Below w.heap.size w (w.alloc (.cells (bytesV z16).toArray 23)) := (Below.refl _ _).alloc (Nat.le_refl _) _
  go_enter Tryd.func13, Tryd.ntmps13
  go_wp2_with (first | (go_at_call 23; refine (fits_any _ _ _).mono ?_; rintro e w' ⟨rfl, rfl⟩) | (refine store_blk rfl 23 (.tmp 4) (.tmp 12) rfl (blk_new w 23 (bytesV z16).toArray) rfl rfl (m := 16) (by kernel_rfl) hvz hz16 (bytesV_cells z16) ?_; intro W1 K1 O1))
  exact bodyPost_ret (v := .tuple #[.agg (bytesV z16).toArray, .int .i64 1]) (results_and (p := 4) (q := 5) (ty := 23) rfl _ _ rfl rfl (K1.loadVar Tryd.underlying23 (by rw [hvz]; kernel_rfl))) rfl ⟨rfl, O1.2.2 _ _ (Nat.le_refl _) hb0⟩

set_option maxHeartbeats 2000000 in
set_option maxRecDepth 100000 in
theorem rpublic_yes (seed : ByteArray) (h : Nat) (hs : seed.size = 32) (hh : h ≤ 6) (w : World) (hR : GlobR w) :
    Calls Tryd.prog 13 #[.string seed, .int .i64 (h : Int)] w fun e w' => e = .returned (.tuple #[.agg (bytesV (rootM (sb seed) h)).toArray, .int .i64 0]) ∧ Below w.heap.size w w' := by
  have hz1 := zero_dig'
  have hvz : (bytesV z16).length = 16 := rfl
  have hf : fitsB seed (h : Int) = true := by simp [fitsB, hs]; omega
  have HS := Lib.hid hs
  have HL := Lib.hid (fun w0 r => levels_any seed (by omega) h hh w0 r)
  have h0 : (0 : Int) ≤ (h : Int) := by omega
  have h01 : (h : Int) < (h : Int) + 1 := by omega
  have hRd : Dgt (rootM (sb seed) h) := node_dgt _ _ _
  obtain ⟨D, hDe⟩ : ∃ D, rootM (sb seed) h = D := ⟨_, rfl⟩
  rw [hDe] at hRd ⊢
  have HD := Lib.hid hDe
  have hvD : (bytesV D).length = 16 := by rw [bytesV_length]; exact hRd.1
  have hsD := size_dig D hRd.1
  clear hs hDe
  go_enter Tryd.func13, Tryd.ntmps13
  go_upto_region 1 with (fail)
  generalize hw1 : World.alloc _ _ = W0
  have K4 : Blk W0 w.heap.size 23 (bytesV z16) := hw1 ▸ (blk_new w _ _)
  have KB : Below w.heap.size w W0 := hw1 ▸ ((Below.refl _ _).alloc (Nat.le_refl _) _)
  clear hw1
  go_upto_region 4 with (go_at_call 23; refine (fits_any _ _ _).mono ?_; rintro e w' ⟨rfl, rfl⟩)
  go_wp2_with fail
  refine (HL.out W0 (hR.keep KB)).mono ?_
  rintro e w1 ⟨vo, rows, rfl, hLv, hB1⟩
  obtain ⟨ob, capo, rfl, _, ht⟩ := hLv.tree
  obtain ⟨g, cap, hg, hc, hr⟩ := ht h (Nat.le_refl _)
  rw [Nat.sub_self, Nat.pow_zero] at hc hr
  have hr0 := hr 0 (by omega)
  rw [show nodeM (sb seed) h 0 = D from HD.out] at hr0
  have K4' := K4.keep hB1
  have CB := link KB hB1
  rw [Nat.zero_mul] at hr0
  clear hLv ht hr K4 KB hB1 HL
  go_wp2_with (first | (refine wpList_load_mid rfl 23 (.tmp 19) rfl g 0 rfl (bytesV D) _ hr0 Tryd.underlying23 rfl hsD ?_) | (refine store_blk rfl 23 (.tmp 4) (.tmp 20) rfl K4' rfl rfl (m := 16) (by kernel_rfl) hvD hvz (bytesV_cells D) ?_; intro W4 K5 O4))
  exact bodyPost_ret (v := .tuple #[.agg (bytesV D).toArray, .int .i64 0]) (results_and (p := 4) (q := 5) (ty := 23) rfl _ _ rfl rfl (K5.loadVar Tryd.underlying23 hsD)) rfl ⟨rfl, O4.2.2 _ _ (Nat.le_refl _) CB⟩

theorem rpublic_any (s : ByteArray) (h : Int) (w : World) (hR : GlobR w) :
    Calls Tryd.prog 13 #[.string s, .int .i64 h] w fun e w' => e = .returned (.tuple #[.agg (bytesV (pubM s h).1).toArray, .int .i64 (pubM s h).2]) ∧ Below w.heap.size w w' := by
  by_cases hf : fitsB s h = true
  · obtain ⟨hs, n, rfl, hn⟩ := fits_yes hf
    rw [pubM, if_pos hf]
    exact rpublic_yes s n hs hn w hR
  · rw [pubM, if_neg hf]
    exact rpublic_no s h (by simpa using hf) w

end Go.Proofs.YthffkbdecfjekaaDoor

/-
  passimref03.Sign.
-/
namespace Go.Proofs.YthffkbdecfjekaaDoor
open Go.RowKit
set_option linter.unusedVariables false
set_option linter.unusedSimpArgs false

set_option maxHeartbeats 1000000 in
set_option maxRecDepth 100000 in
theorem rsign_no (seed msg : ByteArray) (h i : Int) (hf : fitsB seed h = false) (w : World) :
    Calls Tryd.prog 15 #[.string seed, .int .i64 h, .int .i64 i, .string msg] w fun e w' => e = .returned (.tuple #[.string ⟨#[]⟩, .int .i64 1]) ∧ w = w' := by
  go_enter Tryd.func15, Tryd.ntmps15
  go_wp2_with (first | (go_at_call 23; refine (fits_any _ _ _).mono ?_; rintro e w' ⟨rfl, rfl⟩) | fail)
  go_ret2
  exact ⟨rfl, rfl⟩

set_option maxHeartbeats 1000000 in
set_option maxRecDepth 100000 in
theorem rsign_spent (seed msg : ByteArray) (h : Nat) (i : Int) (hs : seed.size = 32) (hh : h ≤ 6) (hi : i < 0 ∨ (2 ^ h : Nat) ≤ i) (w : World) :
    Calls Tryd.prog 15 #[.string seed, .int .i64 (h : Int), .int .i64 i, .string msg] w fun e w' => e = .returned (.tuple #[.string ⟨#[]⟩, .int .i64 20]) ∧ w = w' := by
  have hf : fitsB seed (h : Int) = true := by simp [fitsB, hs]; omega
  have h0 : (0 : Int) ≤ (h : Int) := by omega
  by_cases hneg : i < 0
  · have hn : decide (i < 0) = true := by simp [hneg]
    go_enter Tryd.func15, Tryd.ntmps15
    go_wp2_with (first | (go_at_call 23; refine (fits_any _ _ _).mono ?_; rintro e w' ⟨rfl, rfl⟩) | fail)
    go_ret2
    exact ⟨rfl, rfl⟩
  · have hn : decide (i < 0) = false := by simp only [decide_eq_false_iff_not]; exact hneg
    have hsh : decide (wrap64 (2 ^ h) ≤ i) = true := by rw [shl_in h hh]; simp only [decide_eq_true_eq]; omega
    clear hi
    go_enter Tryd.func15, Tryd.ntmps15
    go_wp2_with (first | (go_at_call 23; refine (fits_any _ _ _).mono ?_; rintro e w' ⟨rfl, rfl⟩) | fail)
    go_ret2
    exact ⟨rfl, rfl⟩

/-- The digits that a slice of another's own holds. -/
def Dgs (w : World) (g : Nat) (ds : List Nat) : Prop := ∀ k, k < 68 → w.cell? ⟨g, k, none⟩ = some (.int .i64 ((ds.getD k 0 : Nat) : Int))
theorem own_digits {W w : World} {v : Value} {ds : List Nat} (h : OwnN W w v ds) (hl : ds.length = 68) : ∃ g cap, v = .slice (some ⟨g, 0, none⟩) 68 cap ∧ g < w.heap.size ∧ Dgs w g ds := by
  obtain ⟨g, cap, rfl, _, _⟩ := h.1.form (by omega)
  refine ⟨g, cap, by rw [hl], (h.1.lt g (by simp [Value.ownBlock])).2, fun k hk => ?_⟩
  have := h.1.cells (g := g) (by simp [Value.ownBlock]) k (.int .i64 ((ds.getD k 0 : Nat) : Int)) (by unfold numsV; rw [List.getElem?_map, List.getElem?_eq_getElem (by omega), List.getD_eq_getElem?_getD, List.getElem?_eq_getElem (by omega)]; rfl)
  rw [Addr.add_mid, Nat.zero_add] at this
  exact this
theorem Dgs.keep {w w' : World} {g : Nat} {ds : List Nat} (h : Dgs w g ds) (hg : g < w.heap.size) (hb : Below w.heap.size w w') : Dgs w' g ds := fun k hk => (hb.cell (p := ⟨g, k, none⟩) hg).trans (h k hk)
theorem string_of_sb {s : ByteArray} {l : List Nat} (h : sb s = l) : s = strOf l := by rw [← h, strOf_sb]

set_option maxHeartbeats 8000000 in
set_option maxRecDepth 100000 in
theorem rsign_yes (seed msg : ByteArray) (h i : Nat) (hs : seed.size = 32) (hh : h ≤ 6) (hi : i < 2 ^ h) (hm : msg.size ≤ 1048576) (w : World) (hR : GlobR w) :
    Calls Tryd.prog 15 #[.string seed, .int .i64 (h : Int), .int .i64 (i : Int), .string msg] w fun e w' => e = .returned (.tuple #[.string (strOf (sigM (sb seed) h i (sb msg))), .int .i64 0]) ∧ Below w.heap.size w w' := by
  have hp6 : 2 ^ h ≤ 2 ^ 6 := Nat.pow_le_pow_right (by omega) hh
  have hf : fitsB seed (h : Int) = true := by simp [fitsB, hs]; omega
  have h0 : (0 : Int) ≤ (h : Int) := by omega
  have h01 : (h : Int) < (h : Int) + 1 := by omega
  have i0 : (0 : Int) ≤ (i : Int) := by omega
  have hn : decide ((i : Int) < 0) = false := by simp only [decide_eq_false_iff_not]; omega
  have hsh : decide (wrap64 (2 ^ h) ≤ (i : Int)) = false := by rw [shl_in h hh]; simp only [decide_eq_false_iff_not]; omega
  have hmm : decide ((1048576 : Int) < (msg.size : Int)) = false := by simp only [decide_eq_false_iff_not]; omega
  have HSZ : Hid (seed.size ≤ 1048576) := Lib.hid (by omega)
  have HIH := Lib.hid hi
  have HLV := Lib.hid (fun w0 r => levels_any seed (by omega) h hh w0 r)
  have HSIG : Hid (sigM (sb seed) h i (sb msg) = enc (i : Int) ++ (sigC (sb seed) i (digits (digestM (nodeM (sb seed) h 0) (i : Int) (sb msg))) 68 ++ sigS (sb seed) i h)) := Lib.hid rfl
  have hRd : Dgt (nodeM (sb seed) h 0) := node_dgt _ _ _
  obtain ⟨D, hDe⟩ : ∃ D, nodeM (sb seed) h 0 = D := ⟨_, rfl⟩
  rw [hDe] at hRd HSIG
  have HD := Lib.hid hDe
  have hvD : (bytesV D).length = 16 := by rw [bytesV_length]; exact hRd.1
  have hsD := size_dig D hRd.1
  have hEl := enc_length (i : Int) (by omega) (by omega)
  have hEb := enc_lt (i : Int) (by omega) (by omega)
  have HI := Lib.hid (fun w0 => rint_any (i : Int) (by omega) (by omega) w0)
  have HDG := Lib.hid (fun w0 g => rdigest_any D hRd (i : Int) (by omega) (by omega) msg hm w0 g)
  have hGd : Dgt (digestM D (i : Int) (sb msg)) := digest_dgt _ _ _
  have hdl := digits_length (digestM D (i : Int) (sb msg)) hGd.1
  have hd3 := digits_getD (digestM D (i : Int) (sb msg)) hGd
  generalize digestM D (i : Int) (sb msg) = G at HDG hGd hdl hd3 HSIG
  have HDI := Lib.hid (fun w0 => rdigits_any G hGd.1 hGd.2 w0)
  generalize digits G = ds at hdl hd3 HSIG HDI
  generalize enc (i : Int) = E at hEl hEb HI HSIG
  have hi64 : i ≤ 1000000 := by omega
  clear hs hDe hi
  go_enter Tryd.func15, Tryd.ntmps15
  go_upto_region 8 with (first | (go_at_call 23; refine (fits_any _ _ _).mono ?_; rintro e w' ⟨rfl, rfl⟩) | fail)
  clear hsh hmm hn
  go_wp2_with fail
  refine (HLV.out w hR).mono ?_
  rintro e w1 ⟨vo, rows, rfl, hLv, hB1⟩
  have hT := hLv.tree
  obtain ⟨ob, capo, rfl, hob, ht⟩ := hT
  obtain ⟨g, cap, hg, hc, hr⟩ := ht h (Nat.le_refl _)
  rw [Nat.sub_self, Nat.pow_zero] at hc hr
  have hr0 := hr 0 (by omega)
  rw [show nodeM (sb seed) h 0 = D from HD.out, Nat.zero_mul] at hr0
  have HTR : Hid (Tree (sb seed) h w1 (.slice (some ⟨ob, 0, none⟩) (h + 1) capo)) := Lib.hid hLv.tree
  clear hLv ht hr HLV
  go_wp2_with (refine wpList_load_mid rfl 23 (.tmp 41) rfl g 0 rfl (bytesV D) _ hr0 Tryd.underlying23 rfl hsD ?_)
  refine (HDG.out w1 (hR.keep hB1)).mono ?_
  rintro e w2 ⟨rfl, hB2⟩
  go_wp2_with fail
  refine (HDI.out w2).mono ?_
  rintro e w3 ⟨vd, rfl, hO⟩
  obtain ⟨dg, dcap, rfl, hdg, hDgs⟩ := own_digits hO hdl
  have HDS := Lib.hid hDgs
  have hB3 := link hB2 hO.2
  have CB := link hB1 hB3
  have HT3 : Hid (Tree (sb seed) h w3 (.slice (some ⟨ob, 0, none⟩) (h + 1) capo)) := Lib.hid (HTR.out.keep hB3)
  clear hB2 hO hB1 hB3 HTR hr0 hc hDgs HDG HDI
  go_wp2_with fail
  refine (HI.out w3).mono ?_
  rintro e w4 ⟨gi, ci, rfl, hOi⟩
  have kv := conv_any (some ⟨gi, 0, none⟩) E E.length ci w4 rfl (hOi.has hEb)
  have HDS4 : Hid (Dgs w4 dg ds) := Lib.hid (HDS.out.keep hdg hOi.below)
  have HT4 : Hid (Tree (sb seed) h w4 (.slice (some ⟨ob, 0, none⟩) (h + 1) capo)) := Lib.hid (HT3.out.keep hOi.below)
  have C4 := link CB hOi.below
  have hdg4 : dg < w4.heap.size := Nat.lt_of_lt_of_le hdg hOi.below.size
  clear hOi CB HDS HT3 hdg HI
  obtain ⟨wo, rfl⟩ : ∃ wo : World, wo = w4 := ⟨_, rfl⟩
  go_wp2
  go_loopw [13, 14] (fun v u wr => ∃ (c : Nat) (s : ByteArray), c ≤ 68 ∧ u = .int .i64 c ∧ v = .string s ∧ Hid (sb s = E ++ sigC (sb seed) i ds c) ∧ Below wo.heap.size wo wr) (fun _ u _ => 68 - (intOf u).toNat)
  case atStart => exact ⟨0, _, by omega, rfl, rfl, Lib.hid (by rw [sb_strOf _ hEb, sigC, List.append_nil]), Below.refl _ _⟩
  case round =>
    clear kv
    obtain ⟨c, s, hc, rfl, rfl, HT, hB⟩ := hrel
    have hsz : s.size ≤ 1200 := by rw [← sb_length, HT.out, List.length_append, sigC_length]; omega
    by_cases h68 : c < 68
    · have l68 : (c : Int) < 68 := by omega
      have c0 : (0 : Int) ≤ (c : Int) := by omega
      go_upto_region 14 with (fail)
      have hd3c := hd3 c
      obtain ⟨x, hx⟩ : ∃ x, ds.getD c 0 = x := ⟨_, rfl⟩
      have hcx : ∀ w', Below wo.heap.size wo w' → w'.cell? ⟨dg, c, none⟩ = some (.int .i64 (x : Int)) := fun w' hb => by rw [← hx]; exact HDS4.out.keep hdg4 hb c h68
      have HCX := Lib.hid hcx
      have hFd := firstM_dig (sb seed) i c
      have hst : sigC (sb seed) i ds (c + 1) = sigC (sb seed) i ds c ++ advM i c 0 (firstM (sb seed) i c) x := by rw [← hx]; rfl
      rw [hx] at hd3c
      have hAd := advM_dig i c 0 _ hFd x
      have HA := Lib.hid (fun w0 g => radvance_any i c 0 x (by omega) (by omega) (by omega) (by omega) _ hFd w0 g)
      have HS1 := Lib.hid (fun w0 g => start_any seed HSZ.out i c (by omega) (by omega) w0 g)
      generalize firstM (sb seed) i c = F at HA HS1 hFd hAd hst
      simp only [Nat.sub_zero] at HA
      generalize advM i c 0 F x = Z at HA hAd hst
      have hc2 : sb (s ++ strOf Z) = E ++ sigC (sb seed) i ds (c + 1) := by rw [sb_app, HT.out, sb_strOf Z hAd.2, hst, List.append_assoc]
      have HC := Lib.hid hc2
      have HTX := Lib.hid (fun w0 => text_any Z hAd.1 hAd.2 w0)
      have hcat : s.size + (strOf Z).size ≤ 9223372036854775807 := by rw [strOf_size, hAd.1]; omega
      generalize strOf Z = sZ at hcat HC HTX
      clear hcx hst hc2 hx
      refine wp_region_held_drew (S := fun w' => Below wo.heap.size wo w') (by kernel_rfl) (below_drew hB) (fun hHeld => ?_)
      generalize wr.drew = V0 at hHeld ⊢
      clear hB
      refine wpAnyH_take (i := 0) (oi := ⟨some 54, .move (.tmp 13), 9, "ref.go:115", #[], none⟩) (v := .string s) rfl (by kernel_rfl) (by kernel_rfl) (by kernel_rfl) (fun _ _ _ h => h) (Or.inl ⟨by rfl, fun w' hSw => by go_simp⟩) hHeld ?_
      try simp only [Act.put, List.setIfInBounds_toArray, List.set_cons_zero, List.set_cons_succ]
      refine wpAnyH_take (i := 1) (oi := ⟨some 55, .move (.tmp 2), 3, "ref.go:115", #[], none⟩) (v := .int .i64 (i : Int)) rfl (by kernel_rfl) (by kernel_rfl) (by kernel_rfl) (fun _ _ _ h => h) (Or.inl ⟨by rfl, fun w' hSw => by go_simp⟩) hHeld ?_
      try simp only [Act.put, List.setIfInBounds_toArray, List.set_cons_zero, List.set_cons_succ]
      refine wpAnyH_take (i := 2) (oi := ⟨some 56, .move (.tmp 14), 3, "ref.go:115", #[], none⟩) (v := .int .i64 (c : Int)) rfl (by kernel_rfl) (by kernel_rfl) (by kernel_rfl) (fun _ _ _ h => h) (Or.inl ⟨by rfl, fun w' hSw => by go_simp⟩) hHeld ?_
      try simp only [Act.put, List.setIfInBounds_toArray, List.set_cons_zero, List.set_cons_succ]
      refine wpAnyH_take (i := 3) (oi := ⟨some 57, .move (.tmp 12), 25, "ref.go:115", #[], none⟩) (v := .slice (some ⟨dg, 0, none⟩) 68 dcap) rfl (by kernel_rfl) (by kernel_rfl) (by kernel_rfl) (fun _ _ _ h => h) (Or.inl ⟨by rfl, fun w' hSw => by go_simp⟩) hHeld ?_
      try simp only [Act.put, List.setIfInBounds_toArray, List.set_cons_zero, List.set_cons_succ]
      refine wpAnyH_take (i := 4) (oi := ⟨some 58, .move (.tmp 14), 3, "ref.go:115", #[], none⟩) (v := .int .i64 (c : Int)) rfl (by kernel_rfl) (by kernel_rfl) (by kernel_rfl) (fun _ _ _ h => h) (Or.inl ⟨by rfl, fun w' hSw => by go_simp⟩) hHeld ?_
      try simp only [Act.put, List.setIfInBounds_toArray, List.set_cons_zero, List.set_cons_succ]
      refine wpAnyH_take (i := 5) (oi := ⟨some 59, .indexAddr 25 (.tmp 57) (.tmp 58), 0, "ref.go:115", #[⟨3, .data⟩, ⟨4, .data⟩], none⟩) (v := .pointer (some ⟨dg, c, none⟩)) rfl (by kernel_rfl) (by kernel_rfl) (by kernel_rfl) (fun _ _ _ h => h) (Or.inl ⟨by rfl, fun w' hSw => by go_simp⟩) hHeld ?_
      try simp only [Act.put, List.setIfInBounds_toArray, List.set_cons_zero, List.set_cons_succ]
      refine wpAnyH_take (i := 6) (oi := ⟨some 60, .load 3 (.tmp 59), 3, "ref.go:115", #[⟨5, .data⟩], none⟩) (v := .int .i64 (x : Int)) rfl (by kernel_rfl) (by kernel_rfl) (by kernel_rfl) (fun _ _ _ h => h) (Or.inl ⟨by rfl, fun w' hSw => by have hcc := HCX.out w' hSw; go_simp⟩) hHeld ?_
      try simp only [Act.put, List.setIfInBounds_toArray, List.set_cons_zero, List.set_cons_succ]
      refine wpAnyH_take (i := 7) (oi := ⟨some 61, .move (.tmp 0), 9, "ref.go:115", #[], none⟩) (v := .string seed) rfl (by kernel_rfl) (by kernel_rfl) (by kernel_rfl) (fun _ _ _ h => h) (Or.inl ⟨by rfl, fun w' hSw => by go_simp⟩) hHeld ?_
      try simp only [Act.put, List.setIfInBounds_toArray, List.set_cons_zero, List.set_cons_succ]
      refine wpAnyH_take (i := 8) (oi := ⟨some 62, .move (.tmp 2), 3, "ref.go:115", #[], none⟩) (v := .int .i64 (i : Int)) rfl (by kernel_rfl) (by kernel_rfl) (by kernel_rfl) (fun _ _ _ h => h) (Or.inl ⟨by rfl, fun w' hSw => by go_simp⟩) hHeld ?_
      try simp only [Act.put, List.setIfInBounds_toArray, List.set_cons_zero, List.set_cons_succ]
      refine wpAnyH_take (i := 9) (oi := ⟨some 63, .move (.tmp 14), 3, "ref.go:115", #[], none⟩) (v := .int .i64 (c : Int)) rfl (by kernel_rfl) (by kernel_rfl) (by kernel_rfl) (fun _ _ _ h => h) (Or.inl ⟨by rfl, fun w' hSw => by go_simp⟩) hHeld ?_
      try simp only [Act.put, List.setIfInBounds_toArray, List.set_cons_zero, List.set_cons_succ]
      refine wpAnyH_ready (rs := [10]) (by kernel_rfl) (by simp) ?_
      refine AllReadyH.cons (o := ⟨some 64, .call { callee := .value (.func 33), args := #[.tmp 61, .tmp 62, .tmp 63], argTypes := #[9, 3, 3] }, 23, "ref.go:115", #[⟨7, .data⟩, ⟨8, .data⟩, ⟨9, .data⟩], none⟩) rfl (fun K hK => ?_) AllReadyH.nil
      rw [if_pos (by rfl)]
      go_simp
      refine (HS1.out _ (hR.keep (link C4 hHeld))).mono ?_
      rintro e V1 ⟨rfl, hB1⟩
      have hX1 := link hHeld hB1
      clear hB1
      dsimp only
      refine hK.out _ _ (hX1) (fun hHeld => ?_)
      clear hK K
      try simp only [Act.put, List.setIfInBounds_toArray, List.set_cons_zero, List.set_cons_succ]
      clear hX1
      refine wpAnyH_ready (rs := [11]) (by kernel_rfl) (by simp) ?_
      refine AllReadyH.cons (o := ⟨some 65, .call { callee := .value (.func 32), args := #[.tmp 55, .tmp 56, .const (Value.int IntKind.i64 0), .tmp 60, .tmp 64], argTypes := #[3, 3, 3, 3, 23] }, 23, "ref.go:115", #[⟨1, .data⟩, ⟨2, .data⟩, ⟨6, .data⟩, ⟨10, .data⟩, ⟨10, .chain⟩], none⟩) rfl (fun K hK => ?_) AllReadyH.nil
      rw [if_pos (by rfl)]
      go_simp
      refine (HA.out _ (hR.keep (link C4 hHeld))).mono ?_
      rintro e V2 ⟨rfl, hB1⟩
      have hX1 := link hHeld hB1
      clear hB1
      dsimp only
      refine hK.out _ _ (hX1) (fun hHeld => ?_)
      clear hK K
      try simp only [Act.put, List.setIfInBounds_toArray, List.set_cons_zero, List.set_cons_succ]
      clear hX1
      refine wpAnyH_ready (rs := [12]) (by kernel_rfl) (by simp) ?_
      refine AllReadyH.cons (o := ⟨some 66, .call { callee := .value (.func 31), args := #[.tmp 65], argTypes := #[23] }, 9, "ref.go:115", #[⟨11, .data⟩, ⟨11, .chain⟩], none⟩) rfl (fun K hK => ?_) AllReadyH.nil
      rw [if_pos (by rfl)]
      go_simp
      refine (HTX.out _).mono ?_
      rintro e V3 ⟨rfl, hB1⟩
      have hX1 := link hHeld hB1
      clear hB1
      dsimp only
      refine hK.out _ _ (hX1) (fun hHeld => ?_)
      clear hK K
      try simp only [Act.put, List.setIfInBounds_toArray, List.set_cons_zero, List.set_cons_succ]
      clear hX1
      refine wpAnyH_take (i := 13) (oi := ⟨some 67, .binOp .add 9 (.tmp 54) (.tmp 66) 9, 9, "ref.go:115", #[⟨0, .data⟩, ⟨12, .data⟩], none⟩) (v := .string (s ++ sZ)) rfl (by kernel_rfl) (by kernel_rfl) (by kernel_rfl) (fun _ _ _ h => h) (Or.inl ⟨by rfl, fun w' hSw => by go_simp⟩) hHeld ?_
      try simp only [Act.put, List.setIfInBounds_toArray, List.set_cons_zero, List.set_cons_succ]
      refine wpAnyH_ready (rs := [14]) (by kernel_rfl) (by simp) ?_
      refine AllReadyH.cons (o := ⟨some 13, .assign (.tmp 67), 9, "ref.go:115", #[⟨13, .data⟩, ⟨12, .chain⟩, ⟨0, .phase⟩, ⟨1, .phase⟩, ⟨2, .phase⟩, ⟨3, .phase⟩, ⟨4, .phase⟩, ⟨5, .phase⟩, ⟨6, .phase⟩, ⟨7, .phase⟩, ⟨8, .phase⟩, ⟨9, .phase⟩, ⟨10, .phase⟩, ⟨11, .phase⟩, ⟨12, .phase⟩, ⟨13, .phase⟩], none⟩) rfl (fun K hK => ?_) AllReadyH.nil
      rw [if_pos (by rfl)]
      go_simp
      refine hK.out _ _ (hHeld) (fun hHeld => ?_)
      clear hK K
      try simp only [Act.put, List.setIfInBounds_toArray, List.set_cons_zero, List.set_cons_succ]
      refine wpAnyH_done (by kernel_rfl) ?_ _
      clear HS1 HA HTX HCX
      go_wp2
      go_roundw
      case rel => exact ⟨c + 1, _, by omega, by go_num, rfl, HC, hHeld⟩
      case measure => simp [intOf]; omega
    · obtain rfl : c = 68 := by omega
      have hsY := sigC_length (sb seed) i ds 68
      have hbY := sigC_byte (sb seed) i ds 68
      generalize sigC (sb seed) i ds 68 = Y at HT hsY hbY HSIG
      rw [show ((68 : Nat) : Int) = 68 from rfl]
      clear hd3 HDS4
      go_wp2
      go_loopw [13, 15, 16] (fun v q u wr => ∃ (l : Nat) (s : ByteArray), l ≤ h ∧ u = .int .i64 l ∧ q = .int .i64 ((i / 2 ^ l : Nat) : Int) ∧ v = .string s ∧ Hid (sb s = E ++ (Y ++ sigS (sb seed) i l)) ∧ Below wo.heap.size wo wr) (fun _ _ u _ => h - (intOf u).toNat)
      case atStart => exact ⟨0, _, by omega, rfl, by simp, rfl, Lib.hid (by rw [HT.out, sigS, List.append_nil]), hB⟩
      case round =>
        clear HT hB hsz
        obtain ⟨l, s, hl, rfl, rfl, rfl, HT, hB⟩ := hrel
        have htS := sigS_length (sb seed) i l
        have hsz : s.size ≤ 1400 := by rw [← sb_length, HT.out, List.length_append, List.length_append]; omega
        by_cases hlh : l < h
        · have hlh' : (l : Int) < (h : Int) := by omega
          have l0 : (0 : Int) ≤ (l : Int) := by omega
          have ll1 : (l : Int) < (h : Int) + 1 := by omega
          obtain ⟨d, hd⟩ : ∃ d, h - l = d + 1 := ⟨h - l - 1, by omega⟩
          have hq2 : i / 2 ^ l < 2 * 2 ^ d := by
            rw [Nat.div_lt_iff_lt_mul (Nat.two_pow_pos l)]
            have e : 2 ^ h = 2 * 2 ^ d * 2 ^ l := by
              rw [← Nat.pow_succ', ← Nat.pow_add]
              congr 1
              omega
            have := HIH.out
            omega
          have hsb := sib_lt hq2
          obtain ⟨ob', capo', e1, hob', ht⟩ := (HT4.out.keep hB)
          simp only [Value.slice.injEq, Option.some.injEq, Addr.mk.injEq, true_and, and_true] at e1
          obtain ⟨e2, e3⟩ := e1
          rw [← e2] at ht
          clear e2 e3 hob'
          obtain ⟨g2, cap2, hg2, hc2, hr2⟩ := ht l (by omega)
          rw [hd, Nat.pow_succ'] at hc2 hr2
          have hr3 := hr2 (sib (i / 2 ^ l)) hsb
          have hZd : Dgt (sideM (sb seed) i l) := node_dgt _ _ _
          have hst : sigS (sb seed) i (l + 1) = sigS (sb seed) i l ++ sideM (sb seed) i l := rfl
          rw [show nodeM (sb seed) l (sib (i / 2 ^ l)) = sideM (sb seed) i l from rfl] at hr3
          generalize sideM (sb seed) i l = Z at hZd hst hr3
          have hdiv : i / 2 ^ (l + 1) = i / 2 ^ l / 2 := by rw [Nat.pow_succ, Nat.div_div_eq_div_mul]
          have HDV := Lib.hid hdiv
          have hqi : i / 2 ^ l ≤ i := Nat.div_le_self _ _
          have hsdef : sib (i / 2 ^ l) = if i / 2 ^ l % 2 = 1 then i / 2 ^ l - 1 else i / 2 ^ l + 1 := rfl
          obtain ⟨p, hp⟩ : ∃ p, 2 ^ d = p := ⟨_, rfl⟩
          rw [hp] at hsb hc2 hq2
          generalize i / 2 ^ l = q at hr3 hsb hqi hsdef HDV hq2
          obtain ⟨nx, hnx⟩ : ∃ nx, sib q = nx := ⟨_, rfl⟩
          rw [hnx] at hr3 hsb hsdef
          have hc2' : sb (s ++ strOf Z) = E ++ (Y ++ sigS (sb seed) i (l + 1)) := by rw [sb_app, HT.out, sb_strOf Z hZd.2, hst]; simp only [List.append_assoc]
          have HC := Lib.hid hc2'
          have HTX := Lib.hid (fun w0 => text_any Z hZd.1 hZd.2 w0)
          have hcat : s.size + (strOf Z).size ≤ 9223372036854775807 := by rw [strOf_size, hZd.1]; omega
          generalize strOf Z = sZ at hcat HC HTX
          have hsZ := size_dig Z hZd.1
          have hnx0 : (0 : Int) ≤ (nx : Int) := by omega
          have hnxp : (nx : Int) < 2 * (p : Int) := by omega
          have hq0 : (0 : Int) ≤ (q : Int) := by omega
          clear hr2 ht hst hdiv hp hnx hc2' hd
          by_cases hodd : q % 2 = 1
          · rw [if_pos hodd] at hsdef
            have hb1 : ((q : Int) % 2 == 1) = true := by simp; omega
            have hq1 : (q : Int) - 1 = (nx : Int) := by omega
            clear hsdef hodd
            go_wp2_with (first | (refine wpList_load_mid rfl 23 (.tmp 87) rfl g2 (nx * 16) rfl (bytesV Z) _ hr3 Tryd.underlying23 rfl hsZ ?_) | (go_at_call 31; refine (HTX.out _).mono ?_; rintro e w9 ⟨rfl, hB9⟩))
            have hX9 := hB.trans (hB9.mono hB.size)
            go_roundw
            case rel => exact ⟨l + 1, _, by omega, by go_num, by rw [HDV.out]; go_num, rfl, HC, hX9⟩
            case measure => simp [intOf]; omega
          · rw [if_neg hodd] at hsdef
            have hb1 : ((q : Int) % 2 == 1) = false := by simp; omega
            have hq1 : (q : Int) + 1 = (nx : Int) := by omega
            clear hsdef hodd
            go_wp2_with (first | (refine wpList_load_mid rfl 23 (.tmp 87) rfl g2 (nx * 16) rfl (bytesV Z) _ hr3 Tryd.underlying23 rfl hsZ ?_) | (go_at_call 31; refine (HTX.out _).mono ?_; rintro e w9 ⟨rfl, hB9⟩))
            have hX9 := hB.trans (hB9.mono hB.size)
            go_roundw
            case rel => exact ⟨l + 1, _, by omega, by go_num, by rw [HDV.out]; go_num, rfl, HC, hX9⟩
            case measure => simp [intOf]; omega
        · obtain rfl : l = h := by omega
          rw [← HSIG.out] at HT
          have hss := string_of_sb HT.out
          have HSS := Lib.hid hss
          have CF := link C4 hB
          clear hss HT hB htS
          go_wp2
          go_ret2
          exact ⟨by rw [← HSS.out]; rfl, CF⟩

theorem rsign_any (s msg : ByteArray) (h i : Int) (hm : msg.size ≤ 1048576) (w : World) (hR : GlobR w) :
    Calls Tryd.prog 15 #[.string s, .int .i64 h, .int .i64 i, .string msg] w fun e w' => e = .returned (.tuple #[.string (strOf (signM s h i msg).1), .int .i64 (signM s h i msg).2]) ∧ Below w.heap.size w w' := by
  by_cases hf : fitsB s h = true
  · obtain ⟨hs, n, rfl, hn⟩ := fits_yes hf
    rw [signM, if_pos hf]
    by_cases hi : i < 0 ∨ ((2 ^ n : Nat) : Int) ≤ i
    · rw [if_pos (by simpa using hi)]
      exact (rsign_spent s msg n i hs hn hi w).mono fun e w' ⟨he, hw⟩ => ⟨he, hw ▸ Below.refl _ _⟩
    · rw [if_neg (by simpa using hi)]
      obtain ⟨m, rfl⟩ : ∃ m : Nat, i = (m : Int) := ⟨i.toNat, by omega⟩
      exact rsign_yes s msg n m hs hn (by omega) hm w hR
  · rw [signM, if_neg hf]
    exact (rsign_no s msg h i (by simpa using hf) w).mono fun e w' ⟨he, hw⟩ => ⟨he, hw ▸ Below.refl _ _⟩

end Go.Proofs.YthffkbdecfjekaaDoor

/-
  passimref03.Verify.
-/
namespace Go.Proofs.YthffkbdecfjekaaDoor
open Go.RowKit
set_option linter.unusedVariables false
set_option linter.unusedSimpArgs false

set_option maxHeartbeats 1000000 in
set_option maxRecDepth 100000 in
theorem rverify_height (P : List Nat) (hP : Dgt P) (h : Int) (msg sig : ByteArray) (hr : h < 0 ∨ 6 < h) (w : World) :
    Calls Tryd.prog 19 #[.agg (bytesV P).toArray, .int .i64 h, .string msg, .string sig] w fun e w' => e = .returned (.tuple #[.int .i64 0, .int .i64 1]) ∧ Below w.heap.size w w' := by
  by_cases hn : h < 0
  · have h1 : decide (h < 0) = true := by simp [hn]
    go_enter Tryd.func19, Tryd.ntmps19
    go_wp2_with fail
    go_ret2
    exact ⟨rfl, (Below.refl _ _).alloc (Nat.le_refl _) _⟩
  · have h1 : decide (h < 0) = false := by simp only [decide_eq_false_iff_not]; exact hn
    have h2 : decide (6 < h) = true := by simp only [decide_eq_true_eq]; omega
    clear hr
    go_enter Tryd.func19, Tryd.ntmps19
    go_wp2_with fail
    go_ret2
    exact ⟨rfl, (Below.refl _ _).alloc (Nat.le_refl _) _⟩

set_option maxHeartbeats 2000000 in
set_option maxRecDepth 100000 in
theorem rverify_dec (P : List Nat) (hP : Dgt P) (h : Nat) (hh : h ≤ 6) (msg sig : ByteArray) (hm : msg.size ≤ 1048576) (hs : sig.size ≤ 1000000) (he : (dec (sb sig)).2.2 ≠ 0) (w : World) :
    Calls Tryd.prog 19 #[.agg (bytesV P).toArray, .int .i64 (h : Int), .string msg, .string sig] w fun e w' => e = .returned (.tuple #[.int .i64 0, .int .i64 ((dec (sb sig)).2.2 : Nat)]) ∧ Below w.heap.size w w' := by
  have h1 : decide ((h : Int) < 0) = false := by simp only [decide_eq_false_iff_not]; omega
  have h2 : decide ((6 : Int) < (h : Int)) = false := by simp only [decide_eq_false_iff_not]; omega
  have h3 : decide ((1048576 : Int) < (msg.size : Int)) = false := by simp only [decide_eq_false_iff_not]; omega
  obtain ⟨W0, hW0⟩ : ∃ W0, w.alloc (.cells (bytesV P).toArray 23) = W0 := ⟨_, rfl⟩
  have KB : Below w.heap.size w W0 := hW0 ▸ ((Below.refl _ _).alloc (Nat.le_refl _) _)
  obtain ⟨cap, w2, hcv, hB2, hH2, hcap⟩ := to_bytes_cap sig W0
  have HG := Lib.hid (show Calls Tryd.prog 40 #[.slice (some ⟨W0.heap.size, 0, none⟩) sig.size cap] w2 (fun e w' => e = .returned (three (dec (sb sig))) ∧ Below w2.heap.size w2 w') from rgetInt_any (some ⟨W0.heap.size, 0, none⟩) (sb sig) sig.size cap w2 (sb_length sig).symm hcap (by omega) hH2)
  unfold three at HG
  generalize dec (sb sig) = r at HG he ⊢
  obtain ⟨x, u, er⟩ := r
  simp only at HG he ⊢
  have hne : ((er : Int) == 0) = false := by simp; omega
  have hne2 : ((er : Int) != 0) = true := by simp; omega
  clear he
  go_enter Tryd.func19, Tryd.ntmps19
  go_wp2_with (go_at_call 40; refine HG.out.mono ?_; rintro e w4 ⟨rfl, hB4⟩)
  go_ret2
  exact ⟨rfl, link KB (link hB2 hB4)⟩

set_option maxHeartbeats 2000000 in
set_option maxRecDepth 100000 in
theorem rverify_form (P : List Nat) (hP : Dgt P) (h : Nat) (hh : h ≤ 6) (msg sig : ByteArray) (hm : msg.size ≤ 1048576) (hs : sig.size ≤ 1000000) (x : Int) (u : Nat) (hd : dec (sb sig) = (x, u, 0))
    (hbad : x < 0 ∨ ((2 ^ h : Nat) : Int) ≤ x ∨ ((sb sig).drop u).length ≠ (68 + h) * 16) (w : World) :
    Calls Tryd.prog 19 #[.agg (bytesV P).toArray, .int .i64 (h : Int), .string msg, .string sig] w fun e w' => e = .returned (.tuple #[.int .i64 0, .int .i64 2]) ∧ Below w.heap.size w w' := by
  have hp6 : 2 ^ h ≤ 2 ^ 6 := Nat.pow_le_pow_right (by omega) hh
  have h1 : decide ((h : Int) < 0) = false := by simp only [decide_eq_false_iff_not]; omega
  have h2 : decide ((6 : Int) < (h : Int)) = false := by simp only [decide_eq_false_iff_not]; omega
  have h3 : decide ((1048576 : Int) < (msg.size : Int)) = false := by simp only [decide_eq_false_iff_not]; omega
  have h0 : (0 : Int) ≤ (h : Int) := by omega
  obtain ⟨W0, hW0⟩ : ∃ W0, w.alloc (.cells (bytesV P).toArray 23) = W0 := ⟨_, rfl⟩
  have KB : Below w.heap.size w W0 := hW0 ▸ ((Below.refl _ _).alloc (Nat.le_refl _) _)
  obtain ⟨cap, w2, hcv, hB2, hH2, hcap⟩ := to_bytes_cap sig W0
  have HG := Lib.hid (show Calls Tryd.prog 40 #[.slice (some ⟨W0.heap.size, 0, none⟩) sig.size cap] w2 (fun e w' => e = .returned (three (dec (sb sig))) ∧ Below w2.heap.size w2 w') from rgetInt_any (some ⟨W0.heap.size, 0, none⟩) (sb sig) sig.size cap w2 (sb_length sig).symm hcap (by omega) hH2)
  have hok := dec_ok (sb sig)
  unfold three at HG
  rw [hd] at HG hok
  simp only at HG hok
  have hu : u ≤ sig.size := by have := hok.2.2.1; rwa [sb_length] at this
  have hu' : (u : Int) ≤ (sig.size : Int) := by omega
  have hu0 : (0 : Int) ≤ (u : Int) := by omega
  have hsz : (sig.extract u sig.size).size = sig.size - u := by rw [← sb_length, sb_from, List.length_drop, sb_length]
  rw [List.length_drop, sb_length] at hbad
  have CB := link KB hB2
  have HSU := Lib.hid hu
  clear hd hok hB2 hH2 hcap KB
  by_cases hx0 : x < 0
  · have hx : decide (x < 0) = true := by simp [hx0]
    clear hbad
    go_enter Tryd.func19, Tryd.ntmps19
    go_wp2_with (go_at_call 40; refine HG.out.mono ?_; rintro e w4 ⟨rfl, hB4⟩)
    go_ret2
    exact ⟨rfl, link CB hB4⟩
  · have hx : decide (x < 0) = false := by simp only [decide_eq_false_iff_not]; exact hx0
    by_cases hx1 : ((2 ^ h : Nat) : Int) ≤ x
    · have hxx : decide (wrap64 (2 ^ h) ≤ x) = true := by rw [shl_in h hh]; simp only [decide_eq_true_eq]; exact hx1
      clear hbad
      go_enter Tryd.func19, Tryd.ntmps19
      go_wp2_with (go_at_call 40; refine HG.out.mono ?_; rintro e w4 ⟨rfl, hB4⟩)
      go_ret2
      exact ⟨rfl, link CB hB4⟩
    · have hxx : decide (wrap64 (2 ^ h) ≤ x) = false := by rw [shl_in h hh]; simp only [decide_eq_false_iff_not]; exact hx1
      have hl : sig.size - u ≠ (68 + h) * 16 := by omega
      have hlen : (((sig.size - u : Nat) : Int) != (68 + (h : Int)) * 16) = true := by simp; omega
      clear hbad hl
      go_enter Tryd.func19, Tryd.ntmps19
      go_wp2_with (go_at_call 40; refine HG.out.mono ?_; rintro e w4 ⟨rfl, hB4⟩)
      go_ret2
      exact ⟨rfl, link CB hB4⟩

set_option maxHeartbeats 8000000 in
set_option maxRecDepth 100000 in
theorem rverify_main (P : List Nat) (hP : Dgt P) (h : Nat) (hh : h ≤ 6) (msg sig : ByteArray) (hm : msg.size ≤ 1048576) (hs : sig.size ≤ 1000000) (i u : Nat) (hd : dec (sb sig) = ((i : Int), u, 0)) (hi : i < 2 ^ h)
    (hlen : ((sb sig).drop u).length = (68 + h) * 16) (w : World) (hR : GlobR w) :
    Calls Tryd.prog 19 #[.agg (bytesV P).toArray, .int .i64 (h : Int), .string msg, .string sig] w fun e w' => e = .returned (verO P h i (sb msg) ((sb sig).drop u)) ∧ Below w.heap.size w w' := by
  have hp6 : 2 ^ h ≤ 2 ^ 6 := Nat.pow_le_pow_right (by omega) hh
  have hz1 := zero_dig'
  have hvz : (bytesV z16).length = 16 := rfl
  have hz16 : (bytesV z16).toArray.toList.length = 16 := rfl
  have h1 : decide ((h : Int) < 0) = false := by simp only [decide_eq_false_iff_not]; omega
  have h2 : decide ((6 : Int) < (h : Int)) = false := by simp only [decide_eq_false_iff_not]; omega
  have h3 : decide ((1048576 : Int) < (msg.size : Int)) = false := by simp only [decide_eq_false_iff_not]; omega
  have h0 : (0 : Int) ≤ (h : Int) := by omega
  have hi64 : i ≤ 1000000 := by omega
  obtain ⟨W0, hW0⟩ : ∃ W0, w.alloc (.cells (bytesV P).toArray 23) = W0 := ⟨_, rfl⟩
  have KB : Below w.heap.size w W0 := hW0 ▸ ((Below.refl _ _).alloc (Nat.le_refl _) _)
  have KP : Blk W0 w.heap.size 23 (bytesV P) := hW0 ▸ (blk_new w _ _)
  obtain ⟨cap, w2, hcv, hB2, hH2, hcap⟩ := to_bytes_cap sig W0
  have HG := Lib.hid (show Calls Tryd.prog 40 #[.slice (some ⟨W0.heap.size, 0, none⟩) sig.size cap] w2 (fun e w' => e = .returned (three (dec (sb sig))) ∧ Below w2.heap.size w2 w') from rgetInt_any (some ⟨W0.heap.size, 0, none⟩) (sb sig) sig.size cap w2 (sb_length sig).symm hcap (by omega) hH2)
  have hok := dec_ok (sb sig)
  unfold three at HG
  rw [hd] at HG hok
  simp only at HG hok
  have hu : u ≤ sig.size := by have := hok.2.2.1; rwa [sb_length] at this
  have hu' : (u : Int) ≤ (sig.size : Int) := by omega
  have hu0 : (0 : Int) ≤ (u : Int) := by omega
  have hRS := sb_from sig u
  have hRl : ((sb sig).drop u).length = sig.size - u := by rw [List.length_drop, sb_length]
  have hx : decide ((i : Int) < 0) = false := by simp only [decide_eq_false_iff_not]; omega
  have hxx : decide (wrap64 (2 ^ h) ≤ (i : Int)) = false := by rw [shl_in h hh]; simp only [decide_eq_false_iff_not]; omega
  have hll : (((sig.size - u : Nat) : Int) != (68 + (h : Int)) * 16) = false := by simp; omega
  have CB := link KB hB2
  have KP2 := KP.keep hB2
  have HLN : Hid (((sb sig).drop u).length = (68 + h) * 16) := Lib.hid hlen
  have hRb : ∀ y ∈ (sb sig).drop u, y < 256 := fun y hy => sb_lt sig y (List.mem_of_mem_drop hy)
  have HRS := Lib.hid hRS
  clear hd hok hB2 hH2 hcap KB KP hlen hRl hRS
  generalize (sb sig).drop u = R at HLN HRS hRb ⊢
  have hvP : (bytesV P).length = 16 := by rw [bytesV_length]; exact hP.1
  have HDG := Lib.hid (fun w0 g => rdigest_any P hP (i : Int) (by omega) (by omega) msg hm w0 g)
  have HVR : Hid (verR P h i (sb msg) R = verN R i (leafM (verT R i (digits (digestM P (i : Int) (sb msg))) 68)) h) := Lib.hid rfl
  have hGd : Dgt (digestM P (i : Int) (sb msg)) := digest_dgt _ _ _
  have hdl := digits_length (digestM P (i : Int) (sb msg)) hGd.1
  have hd3 := digits_getD (digestM P (i : Int) (sb msg)) hGd
  generalize digestM P (i : Int) (sb msg) = G at HDG hGd hdl hd3 HVR
  have HDI := Lib.hid (fun w0 => rdigits_any G hGd.1 hGd.2 w0)
  generalize digits G = ds at hdl hd3 HVR HDI
  go_enter Tryd.func19, Tryd.ntmps19
  go_upto_region 11 with (go_at_call 40; refine HG.out.mono ?_; rintro e w3 ⟨rfl, hB3⟩)
  have K4 := KP2.keep hB3
  have C3 := link CB hB3
  clear hcv KP2 hB3 CB hxx hll hx hW0
  go_wp2_with (refine load_blk rfl 23 (.tmp 4) rfl K4 rfl Tryd.underlying23 (m := 16) (by kernel_rfl) hvP ?_)
  refine (HDG.out w3 (hR.keep C3)).mono ?_
  rintro e w4 ⟨rfl, hB4⟩
  go_wp2_with fail
  refine (HDI.out w4).mono ?_
  rintro e w5 ⟨vd, rfl, hO⟩
  obtain ⟨dg, dcap, rfl, hdg, hDgs⟩ := own_digits hO hdl
  have HDS := Lib.hid hDgs
  have hB45 := link hB4 hO.2
  have C5 := link C3 hB45
  have K5 := K4.keep hB45
  clear hB4 hO hB45 C3 K4 hDgs HDG HDI HG
  obtain ⟨RS, hRSe⟩ : ∃ RS, sig.extract u sig.size = RS := ⟨_, rfl⟩
  rw [hRSe] at HRS ⊢
  clear hRSe
  have hRSz : RS.size = (68 + h) * 16 := by rw [← sb_length, HRS.out, HLN.out]
  have HRZ := Lib.hid hRSz
  clear hRSz
  obtain ⟨wo, rfl⟩ : ∃ wo : World, wo = w5 := ⟨_, rfl⟩
  go_wp2
  go_loopw [15, 16] (fun v q wr => ∃ (c : Nat) (s : ByteArray), c ≤ 68 ∧ q = .int .i64 c ∧ v = .string s ∧ Hid (sb s = verT R i ds c) ∧ Below wo.heap.size wo wr) (fun _ q _ => 68 - (intOf q).toNat)
  case atStart => exact ⟨0, _, by omega, rfl, rfl, Lib.hid rfl, Below.refl _ _⟩
  case round =>
    obtain ⟨c, s, hc, rfl, rfl, HT, hB⟩ := hrel
    have htl := verT_length R i ds c (by rw [HLN.out]; omega) hRb
    have hsz : s.size ≤ 1200 := by rw [← sb_length, HT.out]; omega
    by_cases h68 : c < 68
    · have l68 : (c : Int) < 68 := by omega
      have c0 : (0 : Int) ≤ (c : Int) := by omega
      clear htl
      go_upto_region 16 with (fail)
      have hd3c := hd3 c
      obtain ⟨x, hx⟩ : ∃ x, ds.getD c 0 = x := ⟨_, rfl⟩
      have hcx : ∀ w', Below wo.heap.size wo w' → w'.cell? ⟨dg, c, none⟩ = some (.int .i64 (x : Int)) := fun w' hb => by rw [← hx]; exact HDS.out.keep hdg hb c h68
      have HCX := Lib.hid hcx
      have hst : verT R i ds (c + 1) = verT R i ds c ++ advM i c x (piece R c) (3 - x) := by rw [← hx]; rfl
      rw [hx] at hd3c
      have hpd : Dgt (piece R c) := piece_dgt R c (by rw [HLN.out]; omega) hRb
      obtain ⟨k16, hk16⟩ : ∃ k16, 16 * c = k16 := ⟨_, rfl⟩
      have hw16 : IntKind.i64.wrap (16 * (c : Int)) = (k16 : Int) := (IntWalk.i64_in _ (by omega)).trans (by omega)
      have hk0 : (0 : Int) ≤ (k16 : Int) := by omega
      have hRsz := HRZ.out
      have hkR : (k16 : Int) ≤ (RS.size : Int) := by omega
      have hdg1 := fun w0 => digest_any (RS.extract k16 RS.size) (by rw [← sb_length, sb_from, List.length_drop, sb_length]; omega) w0
      rw [sb_from, HRS.out, ← hk16, piece_drop, hk16] at hdg1
      have HDD := Lib.hid hdg1
      have hAd := advM_dig i c x _ hpd (3 - x)
      have HA := Lib.hid (fun w0 g => radvance_any i c x 3 (by omega) (by omega) (by omega) (by omega) _ hpd w0 g)
      generalize piece R c = F at HA HDD hpd hst hAd
      generalize advM i c x F (3 - x) = Z at HA hAd hst
      have hc2 : sb (s ++ strOf Z) = verT R i ds (c + 1) := by rw [sb_app, HT.out, sb_strOf Z hAd.2, hst]
      have HC := Lib.hid hc2
      have HTX := Lib.hid (fun w0 => text_any Z hAd.1 hAd.2 w0)
      have hcat : s.size + (strOf Z).size ≤ 9223372036854775807 := by rw [strOf_size, hAd.1]; omega
      generalize strOf Z = sZ at hcat HC HTX
      clear hcx hst hc2 hx hk16 hdg1 hRsz
      refine wp_region_held_drew (S := fun w' => Below wo.heap.size wo w') (by kernel_rfl) (below_drew hB) (fun hHeld => ?_)
      generalize wr.drew = V0 at hHeld ⊢
      clear hB
      refine wpAnyH_take (i := 0) (oi := ⟨some 69, .move (.tmp 15), 9, "ref.go:148", #[], none⟩) (v := .string s) rfl (by kernel_rfl) (by kernel_rfl) (by kernel_rfl) (fun _ _ _ h => h) (Or.inl ⟨by rfl, fun w' hSw => by go_simp⟩) hHeld ?_
      try simp only [Act.put, List.setIfInBounds_toArray, List.set_cons_zero, List.set_cons_succ]
      refine wpAnyH_take (i := 1) (oi := ⟨some 70, .move (.tmp 10), 3, "ref.go:148", #[], none⟩) (v := .int .i64 (i : Int)) rfl (by kernel_rfl) (by kernel_rfl) (by kernel_rfl) (fun _ _ _ h => h) (Or.inl ⟨by rfl, fun w' hSw => by go_simp⟩) hHeld ?_
      try simp only [Act.put, List.setIfInBounds_toArray, List.set_cons_zero, List.set_cons_succ]
      refine wpAnyH_take (i := 2) (oi := ⟨some 71, .move (.tmp 16), 3, "ref.go:148", #[], none⟩) (v := .int .i64 (c : Int)) rfl (by kernel_rfl) (by kernel_rfl) (by kernel_rfl) (fun _ _ _ h => h) (Or.inl ⟨by rfl, fun w' hSw => by go_simp⟩) hHeld ?_
      try simp only [Act.put, List.setIfInBounds_toArray, List.set_cons_zero, List.set_cons_succ]
      refine wpAnyH_take (i := 3) (oi := ⟨some 72, .move (.tmp 14), 25, "ref.go:148", #[], none⟩) (v := .slice (some ⟨dg, 0, none⟩) 68 dcap) rfl (by kernel_rfl) (by kernel_rfl) (by kernel_rfl) (fun _ _ _ h => h) (Or.inl ⟨by rfl, fun w' hSw => by go_simp⟩) hHeld ?_
      try simp only [Act.put, List.setIfInBounds_toArray, List.set_cons_zero, List.set_cons_succ]
      refine wpAnyH_take (i := 4) (oi := ⟨some 73, .move (.tmp 16), 3, "ref.go:148", #[], none⟩) (v := .int .i64 (c : Int)) rfl (by kernel_rfl) (by kernel_rfl) (by kernel_rfl) (fun _ _ _ h => h) (Or.inl ⟨by rfl, fun w' hSw => by go_simp⟩) hHeld ?_
      try simp only [Act.put, List.setIfInBounds_toArray, List.set_cons_zero, List.set_cons_succ]
      refine wpAnyH_take (i := 5) (oi := ⟨some 74, .indexAddr 25 (.tmp 72) (.tmp 73), 0, "ref.go:148", #[⟨3, .data⟩, ⟨4, .data⟩], none⟩) (v := .pointer (some ⟨dg, c, none⟩)) rfl (by kernel_rfl) (by kernel_rfl) (by kernel_rfl) (fun _ _ _ h => h) (Or.inl ⟨by rfl, fun w' hSw => by go_simp⟩) hHeld ?_
      try simp only [Act.put, List.setIfInBounds_toArray, List.set_cons_zero, List.set_cons_succ]
      refine wpAnyH_take (i := 6) (oi := ⟨some 75, .load 3 (.tmp 74), 3, "ref.go:148", #[⟨5, .data⟩], none⟩) (v := .int .i64 (x : Int)) rfl (by kernel_rfl) (by kernel_rfl) (by kernel_rfl) (fun _ _ _ h => h) (Or.inl ⟨by rfl, fun w' hSw => by have hcc := HCX.out w' hSw; go_simp⟩) hHeld ?_
      try simp only [Act.put, List.setIfInBounds_toArray, List.set_cons_zero, List.set_cons_succ]
      refine wpAnyH_take (i := 7) (oi := ⟨some 76, .move (.tmp 13), 9, "ref.go:148", #[], none⟩) (v := .string RS) rfl (by kernel_rfl) (by kernel_rfl) (by kernel_rfl) (fun _ _ _ h => h) (Or.inl ⟨by rfl, fun w' hSw => by go_simp⟩) hHeld ?_
      try simp only [Act.put, List.setIfInBounds_toArray, List.set_cons_zero, List.set_cons_succ]
      refine wpAnyH_take (i := 8) (oi := ⟨some 77, .move (.tmp 16), 3, "ref.go:148", #[], none⟩) (v := .int .i64 (c : Int)) rfl (by kernel_rfl) (by kernel_rfl) (by kernel_rfl) (fun _ _ _ h => h) (Or.inl ⟨by rfl, fun w' hSw => by go_simp⟩) hHeld ?_
      try simp only [Act.put, List.setIfInBounds_toArray, List.set_cons_zero, List.set_cons_succ]
      refine wpAnyH_take (i := 9) (oi := ⟨some 78, .binOp .mul 3 (.const (Value.int IntKind.i64 16)) (.tmp 77) 3, 3, "ref.go:148", #[⟨8, .data⟩], none⟩) (v := .int .i64 (k16 : Int)) rfl (by kernel_rfl) (by kernel_rfl) (by kernel_rfl) (fun _ _ _ h => h) (Or.inl ⟨by rfl, fun w' hSw => by go_simp⟩) hHeld ?_
      try simp only [Act.put, List.setIfInBounds_toArray, List.set_cons_zero, List.set_cons_succ]
      refine wpAnyH_take (i := 10) (oi := ⟨some 79, .slice 9 (.tmp 76) (some (.tmp 78)) none none, 9, "ref.go:148", #[⟨7, .data⟩, ⟨9, .data⟩], none⟩) (v := .string (RS.extract k16 RS.size)) rfl (by kernel_rfl) (by kernel_rfl) (by kernel_rfl) (fun _ _ _ h => h) (Or.inl ⟨by rfl, fun w' hSw => by go_simp⟩) hHeld ?_
      try simp only [Act.put, List.setIfInBounds_toArray, List.set_cons_zero, List.set_cons_succ]
      refine wpAnyH_ready (rs := [11]) (by kernel_rfl) (by simp) ?_
      refine AllReadyH.cons (o := ⟨some 80, .call { callee := .value (.func 41), args := #[.tmp 79], argTypes := #[9] }, 23, "ref.go:148", #[⟨10, .data⟩], none⟩) rfl (fun K hK => ?_) AllReadyH.nil
      rw [if_pos (by rfl)]
      go_simp
      refine (HDD.out _).mono ?_
      rintro e V1 ⟨rfl, hB1⟩
      have hX1 := link hHeld hB1
      clear hB1
      dsimp only
      refine hK.out _ _ (hX1) (fun hHeld => ?_)
      clear hK K
      try simp only [Act.put, List.setIfInBounds_toArray, List.set_cons_zero, List.set_cons_succ]
      clear hX1
      refine wpAnyH_ready (rs := [12]) (by kernel_rfl) (by simp) ?_
      refine AllReadyH.cons (o := ⟨some 81, .call { callee := .value (.func 32), args := #[.tmp 70, .tmp 71, .tmp 75, .const (Value.int IntKind.i64 3), .tmp 80], argTypes := #[3, 3, 3, 3, 23] }, 23, "ref.go:148", #[⟨1, .data⟩, ⟨2, .data⟩, ⟨6, .data⟩, ⟨11, .data⟩, ⟨11, .chain⟩], none⟩) rfl (fun K hK => ?_) AllReadyH.nil
      rw [if_pos (by rfl)]
      go_simp
      refine (HA.out _ (hR.keep (link C5 hHeld))).mono ?_
      rintro e V2 ⟨rfl, hB1⟩
      have hX1 := link hHeld hB1
      clear hB1
      dsimp only
      refine hK.out _ _ (hX1) (fun hHeld => ?_)
      clear hK K
      try simp only [Act.put, List.setIfInBounds_toArray, List.set_cons_zero, List.set_cons_succ]
      clear hX1
      refine wpAnyH_ready (rs := [13]) (by kernel_rfl) (by simp) ?_
      refine AllReadyH.cons (o := ⟨some 82, .call { callee := .value (.func 31), args := #[.tmp 81], argTypes := #[23] }, 9, "ref.go:148", #[⟨12, .data⟩, ⟨12, .chain⟩], none⟩) rfl (fun K hK => ?_) AllReadyH.nil
      rw [if_pos (by rfl)]
      go_simp
      refine (HTX.out _).mono ?_
      rintro e V3 ⟨rfl, hB1⟩
      have hX1 := link hHeld hB1
      clear hB1
      dsimp only
      refine hK.out _ _ (hX1) (fun hHeld => ?_)
      clear hK K
      try simp only [Act.put, List.setIfInBounds_toArray, List.set_cons_zero, List.set_cons_succ]
      clear hX1
      refine wpAnyH_take (i := 14) (oi := ⟨some 83, .binOp .add 9 (.tmp 69) (.tmp 82) 9, 9, "ref.go:148", #[⟨0, .data⟩, ⟨13, .data⟩], none⟩) (v := .string (s ++ sZ)) rfl (by kernel_rfl) (by kernel_rfl) (by kernel_rfl) (fun _ _ _ h => h) (Or.inl ⟨by rfl, fun w' hSw => by go_simp⟩) hHeld ?_
      try simp only [Act.put, List.setIfInBounds_toArray, List.set_cons_zero, List.set_cons_succ]
      refine wpAnyH_ready (rs := [15]) (by kernel_rfl) (by simp) ?_
      refine AllReadyH.cons (o := ⟨some 15, .assign (.tmp 83), 9, "ref.go:148", #[⟨14, .data⟩, ⟨13, .chain⟩, ⟨0, .phase⟩, ⟨1, .phase⟩, ⟨2, .phase⟩, ⟨3, .phase⟩, ⟨4, .phase⟩, ⟨5, .phase⟩, ⟨6, .phase⟩, ⟨7, .phase⟩, ⟨8, .phase⟩, ⟨9, .phase⟩, ⟨10, .phase⟩, ⟨11, .phase⟩, ⟨12, .phase⟩, ⟨13, .phase⟩, ⟨14, .phase⟩], none⟩) rfl (fun K hK => ?_) AllReadyH.nil
      rw [if_pos (by rfl)]
      go_simp
      refine hK.out _ _ (hHeld) (fun hHeld => ?_)
      clear hK K
      try simp only [Act.put, List.setIfInBounds_toArray, List.set_cons_zero, List.set_cons_succ]
      refine wpAnyH_done (by kernel_rfl) ?_ _
      clear HDD HA HTX HCX hw16
      go_wp2
      go_roundw
      case rel => exact ⟨c + 1, _, by omega, by go_num, rfl, HC, hHeld⟩
      case measure => simp [intOf]; omega
    · obtain rfl : c = 68 := by omega
      have hLd := leaf_dgt (verT R i ds 68)
      have HLE : Hid (leafM (verT R i ds 68) = ofS 3 [ofS 2 [verT R i ds 68]]) := Lib.hid rfl
      generalize verT R i ds 68 = Y at HT hLd HVR HLE htl
      have hR1 := hR.keep (link C5 hB)
      have H1 := of_list1 s (by omega) wr hR1
      rw [HT.out] at H1
      have hd1 := dig_ofS 2 [Y]
      generalize ofS 2 [Y] = D1 at H1 HLE hd1
      have H1' := Lib.hid H1
      have hv1 : (bytesV D1).length = 16 := by rw [bytesV_length]; exact hd1.1
      have H2 := Lib.hid (fun w0 g => of_list2 D1 hd1 w0 g)
      obtain ⟨D0, hD0⟩ : ∃ D0, leafM Y = D0 := ⟨_, rfl⟩
      rw [hD0] at hLd HVR
      rw [show ofS 3 [D1] = D0 from by rw [← HLE.out, hD0]] at H2
      have hvD : (bytesV D0).length = 16 := by rw [bytesV_length]; exact hLd.1
      have K6 := K5.keep hB
      have C6 := link C5 hB
      rw [show ((68 : Nat) : Int) = 68 from rfl]
      clear H1 hD0 HLE HT hsz htl hB hd3 HDS hR1
      go_upto_region 18 with (first | (go_at_call 35; refine H1'.out.mono ?_; rintro e w6 ⟨rfl, hB6⟩) | (refine store_blk rfl 23 (.tmp 17) (.tmp 86) rfl (blk_new w6 23 (bytesV z16).toArray) rfl rfl (m := 16) (by kernel_rfl) hv1 hz16 (bytesV_cells D1) ?_; intro x1 K17 O7))
      have Z1 : Below wr.heap.size wr x1 := O7.2.2 _ _ hB6.size (hB6.alloc hB6.size _)
      have C7 := link C6 Z1
      have K7 := K6.keep Z1
      clear O7 hB6 K6 Z1 C6 H1'
      go_wp2_with (refine load_blk rfl 23 (.tmp 17) rfl K17 rfl Tryd.underlying23 (m := 16) (by kernel_rfl) hv1 ?_)
      refine (text_any D1 hd1.1 hd1.2 _).mono ?_
      rintro e w7 ⟨rfl, hB7⟩
      have C8 := link C7 hB7
      have K8 := K7.keep hB7
      have H2' := Lib.hid (H2.out w7 (hR.keep C8))
      clear K17 hB7 C7 K7 H2
      go_upto_region 20 with (first | (go_at_call 35; refine H2'.out.mono ?_; rintro e w8 ⟨rfl, hB8⟩) | (refine store_blk rfl 23 (.tmp 18) (.tmp 90) rfl (blk_new w8 23 (bytesV z16).toArray) rfl rfl (m := 16) (by kernel_rfl) hvD hz16 (bytesV_cells D0) ?_; intro x2 K18 O8))
      have Z2 : Below w7.heap.size w7 x2 := O8.2.2 _ _ hB8.size (hB8.alloc hB8.size _)
      have C9 := link C8 Z2
      have K9 := K8.keep Z2
      have hwn : w.heap.size < w8.heap.size := by have := K8.lt; have := hB8.size; omega
      obtain ⟨nb, hnb⟩ : ∃ nb, w8.heap.size = nb := ⟨_, rfl⟩
      rw [hnb] at K18 hwn ⊢
      clear O8 hB8 K8 Z2 C8 H2' hnb
      go_wp2
      go_loopw [19, 20] (fun q v wr => ∃ l : Nat, l ≤ h ∧ v = .int .i64 l ∧ q = .int .i64 ((i / 2 ^ l : Nat) : Int) ∧ Blk wr nb 23 (bytesV (verN R i D0 l)) ∧ Blk wr w.heap.size 23 (bytesV P) ∧ Below w.heap.size w wr) (fun _ v _ => h - (intOf v).toNat)
      case atStart => exact ⟨0, by omega, rfl, by simp, K18, K9, C9⟩
      case round =>
        clear K18 K9 C9
        obtain ⟨l, hl, rfl, rfl, K18, Q4, CQ⟩ := hrel
        by_cases hlh : l < h
        · have hlh' : (l : Int) < (h : Int) := by omega
          have l0 : (0 : Int) ≤ (l : Int) := by omega
          have hpd : Dgt (piece R (68 + l)) := piece_dgt R (68 + l) (by rw [HLN.out]; omega) hRb
          obtain ⟨k16, hk16⟩ : ∃ k16, 16 * (68 + l) = k16 := ⟨_, rfl⟩
          have hRsz := HRZ.out
          have hk0 : (0 : Int) ≤ (k16 : Int) := by omega
          have hkR : (k16 : Int) ≤ (RS.size : Int) := by omega
          have hkw : 16 * (68 + (l : Int)) = (k16 : Int) := by omega
          have hdg1 := fun w0 => digest_any (RS.extract k16 RS.size) (by rw [← sb_length, sb_from, List.length_drop, sb_length]; omega) w0
          rw [sb_from, HRS.out, ← hk16, piece_drop, hk16] at hdg1
          have HDD := Lib.hid hdg1
          have hVd := verN_dgt R i D0 hLd l
          have hst : verN R i D0 (l + 1) = if i / 2 ^ l % 2 = 1 then joinM (piece R (68 + l)) (verN R i D0 l) else joinM (verN R i D0 l) (piece R (68 + l)) := rfl
          have hdiv : i / 2 ^ (l + 1) = i / 2 ^ l / 2 := by rw [Nat.pow_succ, Nat.div_div_eq_div_mul]
          have HDV := Lib.hid hdiv
          generalize piece R (68 + l) = F at HDD hpd hst
          generalize verN R i D0 l = V at hVd hst K18
          have hqi : i / 2 ^ l ≤ i := Nat.div_le_self _ _
          generalize i / 2 ^ l = q at hst HDV hqi
          have hvV : (bytesV V).length = 16 := by rw [bytesV_length]; exact hVd.1
          have hvF : (bytesV F).length = 16 := by rw [bytesV_length]; exact hpd.1
          have hq0 : (0 : Int) ≤ (q : Int) := by omega
          clear hdg1 hdiv hk16 hRsz
          by_cases hodd : q % 2 = 1
          · rw [if_pos hodd] at hst
            have hb1 : ((q : Int) % 2 == 1) = true := by simp; omega
            have HJ := Lib.hid (fun w0 g => node_any F V hpd hVd w0 g)
            generalize hJ : joinM F V = Z at HJ hst
            have hZd : Dgt Z := by rw [← hJ]; exact dig_ofS _ _
            have HST := Lib.hid hst
            have hvZ : (bytesV Z).length = 16 := by rw [bytesV_length]; exact hZd.1
            clear hodd hst hJ
            go_upto_region 24 with (first | (go_at_call 41; refine (HDD.out _).mono ?_; rintro e w9 ⟨rfl, hB9⟩) | (refine store_blk rfl 23 (.tmp 21) (.tmp 102) rfl (blk_new w9 23 (bytesV z16).toArray) rfl rfl (m := 16) (by kernel_rfl) hvF hz16 (bytesV_cells F) ?_; intro x1 K21 O3))
            have hBx : Below wr.heap.size wr x1 := O3.2.2 _ _ hB9.size (hB9.alloc hB9.size _)
            replace K18 := K18.keep hBx
            replace Q4 := Q4.keep hBx
            replace CQ := link CQ hBx
            clear O3 hB9 hBx HDD
            go_wp2_with (first | (refine load_blk rfl 23 (.tmp 21) rfl K21 rfl Tryd.underlying23 (m := 16) (by kernel_rfl) hvF ?_) | (refine load_blk rfl 23 (.tmp 18) rfl K18 rfl Tryd.underlying23 (m := 16) (by kernel_rfl) hvV ?_))
            refine (HJ.out x1 (hR.keep CQ)).mono ?_
            rintro e w10 ⟨rfl, hB10⟩
            replace K18 := K18.keep hB10
            replace Q4 := Q4.keep hB10
            replace CQ := link CQ hB10
            clear hB10 K21 HJ
            go_upto_region 27 with (refine store_blk rfl 23 (.tmp 18) (.tmp 108) rfl K18 rfl rfl (m := 16) (by kernel_rfl) hvZ hvV (bytesV_cells Z) ?_; intro x2 N18 O4)
            have N4 := O4.2.1 _ _ _ (by omega) Q4
            have NQ := O4.2.2 _ _ (by omega) CQ
            rw [← HST.out] at N18
            clear O4 K18 Q4 CQ
            go_wp2
            go_roundw
            case rel => exact ⟨l + 1, by omega, by go_num, by rw [HDV.out]; go_num, N18, N4, NQ⟩
            case measure => simp [intOf]; omega
          · rw [if_neg hodd] at hst
            have hb1 : ((q : Int) % 2 == 1) = false := by simp; omega
            have HJ := Lib.hid (fun w0 g => node_any V F hVd hpd w0 g)
            generalize hJ : joinM V F = Z at HJ hst
            have hZd : Dgt Z := by rw [← hJ]; exact dig_ofS _ _
            have HST := Lib.hid hst
            have hvZ : (bytesV Z).length = 16 := by rw [bytesV_length]; exact hZd.1
            clear hodd hst hJ
            go_upto_region 24 with (first | (go_at_call 41; refine (HDD.out _).mono ?_; rintro e w9 ⟨rfl, hB9⟩) | (refine store_blk rfl 23 (.tmp 21) (.tmp 102) rfl (blk_new w9 23 (bytesV z16).toArray) rfl rfl (m := 16) (by kernel_rfl) hvF hz16 (bytesV_cells F) ?_; intro x1 K21 O3))
            have hBx : Below wr.heap.size wr x1 := O3.2.2 _ _ hB9.size (hB9.alloc hB9.size _)
            replace K18 := K18.keep hBx
            replace Q4 := Q4.keep hBx
            replace CQ := link CQ hBx
            clear O3 hB9 hBx HDD
            go_wp2_with (first | (refine load_blk rfl 23 (.tmp 21) rfl K21 rfl Tryd.underlying23 (m := 16) (by kernel_rfl) hvF ?_) | (refine load_blk rfl 23 (.tmp 18) rfl K18 rfl Tryd.underlying23 (m := 16) (by kernel_rfl) hvV ?_))
            refine (HJ.out x1 (hR.keep CQ)).mono ?_
            rintro e w10 ⟨rfl, hB10⟩
            replace K18 := K18.keep hB10
            replace Q4 := Q4.keep hB10
            replace CQ := link CQ hB10
            clear hB10 K21 HJ
            go_upto_region 27 with (refine store_blk rfl 23 (.tmp 18) (.tmp 111) rfl K18 rfl rfl (m := 16) (by kernel_rfl) hvZ hvV (bytesV_cells Z) ?_; intro x2 N18 O4)
            have N4 := O4.2.1 _ _ _ (by omega) Q4
            have NQ := O4.2.2 _ _ (by omega) CQ
            rw [← HST.out] at N18
            clear O4 K18 Q4 CQ
            go_wp2
            go_roundw
            case rel => exact ⟨l + 1, by omega, by go_num, by rw [HDV.out]; go_num, N18, N4, NQ⟩
            case measure => simp [intOf]; omega
        · obtain rfl : l = h := by omega
          have hVd := verN_dgt R i D0 hLd l
          generalize verN R i D0 l = V at hVd K18 HVR
          have hvV : (bytesV V).length = 16 := by rw [bytesV_length]; exact hVd.1
          have heq := fun w0 => equal_16 w0 V P hVd hP
          by_cases hVP : V = P
          · have HC : Hid (verO P l i (sb msg) R = .tuple #[.int .i64 (i : Int), .int .i64 0]) := Lib.hid (by unfold verO; rw [HVR.out, if_pos hVP])
            rw [decide_eq_true hVP] at heq
            clear hVP
            go_wp2_with (first | (refine load_blk rfl 23 (.tmp 18) rfl K18 rfl Tryd.underlying23 (m := 16) (by kernel_rfl) hvV ?_) | (refine load_blk rfl 23 (.tmp 4) rfl Q4 rfl Tryd.underlying23 (m := 16) (by kernel_rfl) hvP ?_))
            go_ret2
            exact ⟨by rw [HC.out]; rfl, CQ⟩
          · have HC : Hid (verO P l i (sb msg) R = .tuple #[.int .i64 0, .int .i64 19]) := Lib.hid (by unfold verO; rw [HVR.out, if_neg hVP])
            rw [decide_eq_false hVP] at heq
            clear hVP
            go_wp2_with (first | (refine load_blk rfl 23 (.tmp 18) rfl K18 rfl Tryd.underlying23 (m := 16) (by kernel_rfl) hvV ?_) | (refine load_blk rfl 23 (.tmp 4) rfl Q4 rfl Tryd.underlying23 (m := 16) (by kernel_rfl) hvP ?_))
            go_ret2
            exact ⟨by rw [HC.out]; rfl, CQ⟩

theorem rverify_any (P : List Nat) (hP : Dgt P) (h : Int) (msg sig : ByteArray) (hm : msg.size ≤ 1048576) (hs : sig.size ≤ 1000000) (w : World) (hR : GlobR w) :
    Calls Tryd.prog 19 #[.agg (bytesV P).toArray, .int .i64 h, .string msg, .string sig] w fun e w' => e = .returned (.tuple #[.int .i64 (verM P h (sb msg) (sb sig)).1, .int .i64 ((verM P h (sb msg) (sb sig)).2 : Nat)]) ∧ Below w.heap.size w w' := by
  unfold verM
  by_cases hr : h < 0 ∨ 6 < h
  · rw [if_pos hr]
    exact rverify_height P hP h msg sig hr w
  · rw [if_neg hr, if_neg (by rw [sb_length]; omega)]
    obtain ⟨n, rfl⟩ : ∃ n : Nat, h = (n : Int) := ⟨h.toNat, by omega⟩
    by_cases he : (dec (sb sig)).2.2 ≠ 0
    · rw [if_pos he]
      exact rverify_dec P hP n (by omega) msg sig hm hs he w
    · rw [if_neg he]
      obtain ⟨x, u, hd⟩ : ∃ x u, dec (sb sig) = (x, u, 0) := ⟨(dec (sb sig)).1, (dec (sb sig)).2.1, by
        have : (dec (sb sig)).2.2 = 0 := by omega
        rw [← this]⟩
      rw [hd]
      simp only [Int.toNat_natCast]
      have hc : ((2 : Int) ^ n) = ((2 ^ n : Nat) : Int) := by simp
      rw [hc]
      by_cases hb : x < 0 ∨ ((2 ^ n : Nat) : Int) ≤ x ∨ ((sb sig).drop u).length ≠ (68 + n) * 16
      · rw [if_pos hb]
        exact rverify_form P hP n (by omega) msg sig hm hs x u hd hb w
      · rw [if_neg hb]
        obtain ⟨i, rfl⟩ : ∃ i : Nat, x = (i : Int) := ⟨x.toNat, by omega⟩
        rw [Int.toNat_natCast]
        refine (rverify_main P hP n (by omega) msg sig hm hs i u hd (by omega) (by omega) w hR).mono ?_
        rintro e w' ⟨rfl, hB⟩
        refine ⟨?_, hB⟩
        unfold verO
        by_cases hv : verR P n i (sb msg) ((sb sig).drop u) = P
        · rw [if_pos hv, if_neg (by simpa using hv)]
          rfl
        · rw [if_neg hv, if_pos hv]
          rfl

end Go.Proofs.YthffkbdecfjekaaDoor
