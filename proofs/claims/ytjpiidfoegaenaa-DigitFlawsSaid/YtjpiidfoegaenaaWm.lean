/-
  Plain mathematics of the encodings of layer 1: integers, byte strings, lists, digests. No program is named here.
-/
import Init.Data.List.Lemmas
import Init.Data.Nat.Lemmas
import Init.Omega
namespace Go.Proofs.Ytjpiidfoegaenaa

/-- The least number of bytes in which m can be written. -/
def sz (m : Nat) : Nat := if h : m = 0 then 0 else sz (m / 256) + 1
termination_by m
decreasing_by omega

theorem sz_zero : sz 0 = 0 := by rw [sz]; simp
theorem sz_pos {m : Nat} (h : m ≠ 0) : sz m = sz (m / 256) + 1 := by rw [sz]; simp [h]
theorem sz_le : ∀ (k m : Nat), m < 256 ^ k → sz m ≤ k
  | 0, m, h => by
    have : m = 0 := by simpa using h
    subst this; rw [sz_zero]; omega
  | k + 1, m, h => by
    by_cases h0 : m = 0
    · subst h0; rw [sz_zero]; omega
    · rw [sz_pos h0]
      have := sz_le k (m / 256) (by rw [Nat.pow_succ] at h; omega)
      omega
theorem lt_sz : ∀ (k m : Nat), sz m ≤ k → m < 256 ^ k
  | 0, m, h => by
    by_cases h0 : m = 0
    · subst h0; simp
    · rw [sz_pos h0] at h; omega
  | k + 1, m, h => by
    by_cases h0 : m = 0
    · subst h0; exact Nat.pow_pos (by omega)
    · rw [sz_pos h0] at h
      have := lt_sz k (m / 256) (by omega)
      rw [Nat.pow_succ]; omega

/-- The last k bytes of m, the greatest one first. -/
def be : Nat → Nat → List Nat
  | 0, _ => []
  | k + 1, m => (m / 256 ^ k % 256) :: be k m
theorem be_length : ∀ k m, (be k m).length = k
  | 0, _ => rfl
  | k + 1, m => by simp [be, be_length k m]

theorem be_get : ∀ k m i, i < k → (be k m)[i]? = some (m / 256 ^ (k - 1 - i) % 256)
  | 0, _, _, h => by omega
  | k + 1, m, 0, _ => by simp [be]
  | k + 1, m, i + 1, h => by
    rw [be, List.getElem?_cons_succ, be_get k m i (by omega)]
    congr 4
    omega
theorem be_take {k m j : Nat} (h1 : 1 ≤ j) (h2 : j ≤ k) : (be k m).take (k - (j - 1)) = (be k m).take (k - j) ++ [m / 256 ^ (j - 1) % 256] := by
  have e : k - (j - 1) = (k - j) + 1 := by omega
  rw [e, List.take_add_one, be_get k m (k - j) (by omega)]
  have e2 : k - 1 - (k - j) = j - 1 := by omega
  rw [e2]
  rfl
theorem dig_cast (n i : Nat) : (n : Int) / 2 ^ (8 * i) % 256 = ((n / 256 ^ i % 256 : Nat) : Int) := by
  have : ((2 : Int) ^ (8 * i)) = ((256 ^ i : Nat) : Int) := by rw [Int.pow_mul]; simp
  rw [this]
  simp

/-- The bytes of the encoding of an integer. -/
def enc (n : Int) : List Nat :=
  if 0 ≤ n then (128 + sz n.toNat) :: be (sz n.toNat) n.toNat
  else (127 - sz (-1 - n).toNat) :: (be (sz (-1 - n).toNat) (-1 - n).toNat).map (255 - ·)

theorem enc_nat (n : Nat) : enc (n : Int) = (128 + sz n) :: be (sz n) n := by
  unfold enc; rw [if_pos (by omega)]; simp
theorem enc_neg (m : Nat) : enc (-1 - (m : Int)) = (127 - sz m) :: (be (sz m) m).map (255 - ·) := by
  unfold enc; rw [if_neg (by omega)]
  have e : (-1 - (-1 - (m : Int))).toNat = m := by omega
  rw [e]

/-- The number that bytes are, the greatest one first. -/
def val : List Nat → Nat := fun l => l.foldl (fun m d => 256 * m + d) 0
theorem val_snoc (l : List Nat) (d : Nat) : val (l ++ [d]) = 256 * val l + d := by simp [val]
theorem val_lt (l : List Nat) (h : ∀ d ∈ l, d < 256) : val l < 256 ^ l.length := by
  have key : ∀ (l : List Nat) (m k : Nat), (∀ d ∈ l, d < 256) → m < 256 ^ k → l.foldl (fun m d => 256 * m + d) m < 256 ^ (k + l.length) := by
    intro l
    induction l with
    | nil => intro m k _ hm; simpa using hm
    | cons d l ih =>
      intro m k hd hm
      have := ih (256 * m + d) (k + 1) (fun x hx => hd x (by simp [hx])) (by have := hd d (by simp); rw [Nat.pow_succ]; omega)
      simpa [Nat.add_assoc, Nat.add_comm 1] using this
  simpa [val] using key l 0 0 h (by simp)

/-- The number that the first k bytes are, each less than 255. -/
def nv (t : List Nat) (k : Nat) : Nat := val ((t.take k).map (255 - ·))

/-- What decoding an integer at the beginning of bytes returns: the integer, the number of bytes, the error. -/
def dec (b : List Nat) : Int × Nat × Nat :=
  match b with
  | [] => (0, 0, 3)
  | h :: t =>
    if 128 ≤ h then
      if 8 < h - 128 then (0, 0, 2)
      else if t.length < h - 128 then (0, 0, 3)
      else if sz (val (t.take (h - 128))) ≠ h - 128 ∨ 9223372036854775808 ≤ val (t.take (h - 128)) then (0, 0, 2)
      else ((val (t.take (h - 128)) : Int), h - 128 + 1, 0)
    else
      if 8 < 127 - h then (0, 0, 2)
      else if t.length < 127 - h then (0, 0, 3)
      else if sz (nv t (127 - h)) ≠ 127 - h ∨ 9223372036854775808 ≤ nv t (127 - h) then (0, 0, 2)
      else (-1 - (nv t (127 - h) : Int), 127 - h + 1, 0)

theorem be_lt : ∀ k m, ∀ d ∈ be k m, d < 256
  | 0, _, d, h => by simp [be] at h
  | k + 1, m, d, h => by
    simp only [be, List.mem_cons] at h
    rcases h with rfl | h
    · omega
    · exact be_lt k m d h
theorem enc_lt (n : Int) (h1 : -9223372036854775808 ≤ n) (h2 : n ≤ 9223372036854775807) : ∀ d ∈ enc n, d < 256 := by
  intro d hd
  unfold enc at hd
  split at hd
  · have := sz_le 8 n.toNat (by have : (256 : Nat) ^ 8 = 18446744073709551616 := by decide
                                omega)
    simp only [List.mem_cons] at hd
    rcases hd with rfl | hd
    · omega
    · exact be_lt _ _ d hd
  · simp only [List.mem_cons, List.mem_map] at hd
    rcases hd with rfl | ⟨y, _, rfl⟩ <;> omega
theorem enc_length (n : Int) (h1 : -9223372036854775808 ≤ n) (h2 : n ≤ 9223372036854775807) : 1 ≤ (enc n).length ∧ (enc n).length ≤ 9 := by
  have e : (256 : Nat) ^ 8 = 18446744073709551616 := by decide
  unfold enc
  split
  · have := sz_le 8 n.toNat (by omega)
    simp [be_length]; omega
  · have := sz_le 8 (-1 - n).toNat (by omega)
    simp [be_length]; omega
theorem enc_ne (n : Int) : enc n ≠ [] := by unfold enc; split <;> simp

/-- The bytes of the encoding of a byte string. -/
def encS (l : List Nat) : List Nat := enc l.length ++ l

/-- What decoding the number of elements returns, each of which takes at least wd bytes: r is what decoding the integer returned, L the number of bytes. -/
def lenE (r : Int × Nat × Nat) (L wd : Nat) : Int × Nat × Nat :=
  if r.2.2 ≠ 0 then (0, 0, r.2.2)
  else if r.1 < 0 then (0, 0, 2)
  else if (((L - r.2.1) / wd : Nat) : Int) < r.1 then (0, 0, 3)
  else (r.1, r.2.1, 0)
def lenD (l : List Nat) (wd : Nat) : Int × Nat × Nat := lenE (dec l) l.length wd

theorem lenE_err {x : Int} {u er L wd : Nat} (h : er ≠ 0) : lenE (x, u, er) L wd = (0, 0, er) := by simp [lenE, h]
theorem lenE_form {x : Int} {u er L wd : Nat} (h : er = 0) (hx : x < 0) : lenE (x, u, er) L wd = (0, 0, 2) := by simp [lenE, h, hx]
theorem lenE_more {x : Int} {u er L wd : Nat} (h : er = 0) (hx : 0 ≤ x) (h2 : (((L - u) / wd : Nat) : Int) < x) : lenE (x, u, er) L wd = (0, 0, 3) := by
  unfold lenE
  rw [if_neg (by simp [h]), if_neg (by show ¬ x < 0; omega), if_pos h2]
theorem lenE_ok {x : Int} {u er L wd : Nat} (h : er = 0) (hx : 0 ≤ x) (h2 : ¬ (((L - u) / wd : Nat) : Int) < x) : lenE (x, u, er) L wd = (x, u, 0) := by
  unfold lenE
  rw [if_neg (by simp [h]), if_neg (by show ¬ x < 0; omega), if_neg h2]

theorem dec_ok (l : List Nat) : (dec l).2.2 ≤ 3 ∧ (dec l).2.1 ≤ 9 ∧ (dec l).2.1 ≤ l.length ∧ -9223372036854775808 ≤ (dec l).1 ∧ (dec l).1 ≤ 9223372036854775807 ∧ ((dec l).2.2 = 0 → 1 ≤ (dec l).2.1) := by
  unfold dec
  split
  · simp
  · split
    · split
      · simp
      · split
        · simp
        · split
          · simp
          · simp; omega
    · split
      · simp
      · split
        · simp
        · split
          · simp
          · simp; omega

/-- What decoding a byte string returns: its bytes, the number of bytes used, the error. -/
def decB (l : List Nat) : List Nat × Nat × Nat :=
  if (lenD l 1).2.2 ≠ 0 then ([], 0, (lenD l 1).2.2)
  else ((l.drop (lenD l 1).2.1).take (lenD l 1).1.toNat, (lenD l 1).2.1 + (lenD l 1).1.toNat, 0)

theorem lenD_ok (l : List Nat) (wd : Nat) : (lenD l wd).2.2 ≤ 3 ∧ (lenD l wd).2.1 ≤ 9 ∧ 0 ≤ (lenD l wd).1 ∧
    ((lenD l wd).2.2 = 0 → 1 ≤ (lenD l wd).2.1 ∧ (lenD l wd).2.1 + (lenD l wd).1.toNat * wd ≤ l.length) ∧ ((lenD l wd).2.2 ≠ 0 → (lenD l wd).1 = 0 ∧ (lenD l wd).2.1 = 0) := by
  have h := dec_ok l
  unfold lenD
  generalize dec l = r at h
  obtain ⟨x, u, er⟩ := r
  simp only at h
  by_cases h1 : er = 0
  · rcases Int.lt_or_le x 0 with h2 | h2
    · rw [lenE_form h1 h2]; simp
    · by_cases h3 : (((l.length - u) / wd : Nat) : Int) < x
      · rw [lenE_more h1 h2 h3]; simp
      · rw [lenE_ok h1 h2 h3]
        have h4 : x.toNat ≤ (l.length - u) / wd := by omega
        have h5 : x.toNat * wd ≤ l.length - u := Nat.le_trans (Nat.mul_le_mul_right _ h4) (Nat.div_mul_le_self _ _)
        refine ⟨by simp, by simp; omega, h2, fun _ => ⟨by have := h.2.2.2.2.2 h1; simp; omega, ?_⟩, by simp⟩
        simp only
        omega
  · rw [lenE_err h1]; simp [h1]; omega

/-- The bytes of the encoding of a list of integers; what has been written when k of them are. -/
def encL (l : List Int) : List Nat := enc l.length ++ l.flatMap enc
def partI (l : List Int) (k : Nat) : List Nat := enc l.length ++ (l.take k).flatMap enc
theorem partI_zero (l : List Int) : partI l 0 = enc l.length := by simp [partI]
theorem partI_all (l : List Int) : partI l l.length = encL l := by simp [partI, encL]
theorem partI_step (l : List Int) (k : Nat) (h : k < l.length) : partI l (k + 1) = partI l k ++ enc l[k] := by
  unfold partI
  rw [List.take_add_one, List.getElem?_eq_getElem h, List.flatMap_append]
  simp
def I64 (n : Int) : Prop := -9223372036854775808 ≤ n ∧ n ≤ 9223372036854775807
theorem flatMap_enc_length (l : List Int) (h : ∀ n ∈ l, I64 n) : (l.flatMap enc).length ≤ 9 * l.length := by
  induction l with
  | nil => simp
  | cons a l ih =>
    have h1 := enc_length a (h a (by simp)).1 (h a (by simp)).2
    have h2 := ih (fun n hn => h n (by simp [hn]))
    simp only [List.flatMap_cons, List.length_append, List.length_cons]
    omega
theorem partI_length (l : List Int) (k : Nat) (h : ∀ n ∈ l, I64 n) (hl : l.length ≤ 4398046511104) : (partI l k).length ≤ 9 + 9 * l.length := by
  have h1 := enc_length (l.length : Int) (by omega) (by omega)
  have h2 := flatMap_enc_length (l.take k) (fun n hn => h n (List.mem_of_mem_take hn))
  unfold partI
  have h3 : (l.take k).length ≤ l.length := by simp; omega
  simp only [List.length_append]
  omega

theorem encS_length (s : List Nat) (h : s.length ≤ 70368744177664) : (encS s).length ≤ 9 + s.length := by
  have := enc_length (s.length : Int) (by omega) (by omega)
  unfold encS
  simp only [List.length_append]
  omega

/-- The bytes of the encoding of a list of byte strings. -/
def encT (l : List (List Nat)) : List Nat := enc l.length ++ l.flatMap encS
def partT (l : List (List Nat)) (k : Nat) : List Nat := enc l.length ++ (l.take k).flatMap encS
theorem partT_zero (l : List (List Nat)) : partT l 0 = enc l.length := by simp [partT]
theorem partT_all (l : List (List Nat)) : partT l l.length = encT l := by simp [partT, encT]
theorem partT_step (l : List (List Nat)) (k : Nat) (h : k < l.length) : partT l (k + 1) = partT l k ++ encS l[k] := by
  unfold partT
  rw [List.take_add_one, List.getElem?_eq_getElem h, List.flatMap_append]
  simp
/-- How many bytes the strings have together. -/
def tot (l : List (List Nat)) : Nat := l.foldr (fun s n => s.length + n) 0
theorem tot_take (l : List (List Nat)) : ∀ k, tot (l.take k) ≤ tot l := by
  induction l with
  | nil => intro k; simp [tot]
  | cons a l ih =>
    intro k
    cases k with
    | zero => simp [tot]
    | succ k => have := ih k; simp only [tot, List.take_succ_cons, List.foldr_cons] at this ⊢; omega
theorem tot_mem (l : List (List Nat)) (s : List Nat) (h : s ∈ l) : s.length ≤ tot l := by
  induction l with
  | nil => simp at h
  | cons a l ih =>
    simp only [List.mem_cons] at h
    simp only [tot, List.foldr_cons]
    rcases h with rfl | h
    · omega
    · have := ih h; simp only [tot] at this; omega
theorem flatMap_encS_length (l : List (List Nat)) (h : tot l ≤ 70368744177664) : (l.flatMap encS).length ≤ 9 * l.length + tot l := by
  induction l with
  | nil => simp
  | cons a l ih =>
    simp only [tot, List.foldr_cons] at h ih
    have h1 := encS_length a (by omega)
    have h2 := ih (by omega)
    simp only [List.flatMap_cons, List.length_append, List.length_cons, tot, List.foldr_cons]
    omega
theorem partT_length (l : List (List Nat)) (k : Nat) (hl : l.length ≤ 4398046511104) (ht : tot l ≤ 17592186044416) : (partT l k).length ≤ 9 + 9 * l.length + tot l := by
  have h1 := enc_length (l.length : Int) (by omega) (by omega)
  have h4 := tot_take l k
  have h2 := flatMap_encS_length (l.take k) (by omega)
  unfold partT
  have h3 : (l.take k).length ≤ l.length := by simp; omega
  simp only [List.length_append]
  omega

theorem decB_ok (l : List Nat) : (decB l).2.2 ≤ 3 ∧ True ∧ (decB l).2.1 ≤ l.length ∧ True ∧ True ∧ ((decB l).2.2 = 0 → 1 ≤ (decB l).2.1) := by
  have h := lenD_ok l 1
  unfold decB
  by_cases h1 : (lenD l 1).2.2 = 0
  · rw [if_neg (by simp [h1])]
    have := h.2.2.2.1 h1
    refine ⟨by simp, trivial, by simp only; omega, trivial, trivial, fun _ => by simp only; omega⟩
  · rw [if_pos h1]
    refine ⟨h.1, trivial, by simp, trivial, trivial, fun e => absurd e h1⟩
theorem decB_lt (l : List Nat) (h : ∀ d ∈ l, d < 256) : ∀ d ∈ (decB l).1, d < 256 := by
  intro d hd
  unfold decB at hd
  split at hd
  · simp at hd
  · exact h d (List.mem_of_mem_drop (List.mem_of_mem_take hd))

/-- Decoding n elements, one after the other, by f; xs are those that have been decoded. -/
def loopD {α : Type} (f : List Nat → α × Nat × Nat) (b : List Nat) : Nat → Nat → List α → List α × Nat × Nat
  | 0, used, xs => (xs, used, 0)
  | n + 1, used, xs =>
    if (f (b.drop used)).2.2 ≠ 0 then (xs ++ [(f (b.drop used)).1], 0, (f (b.drop used)).2.2)
    else loopD f b n (used + (f (b.drop used)).2.1) (xs ++ [(f (b.drop used)).1])
theorem loopD_err {α : Type} {f : List Nat → α × Nat × Nat} {b : List Nat} {n used : Nat} {xs : List α} {x : α} {u er : Nat} (hn : 1 ≤ n) (h : f (b.drop used) = (x, u, er)) (he : er ≠ 0) :
    loopD f b n used xs = (xs ++ [x], 0, er) := by
  obtain ⟨m, rfl⟩ : ∃ m, n = m + 1 := ⟨n - 1, by omega⟩
  simp [loopD, h, he]
theorem loopD_ok {α : Type} {f : List Nat → α × Nat × Nat} {b : List Nat} {n used : Nat} {xs : List α} {x : α} {u er : Nat} (hn : 1 ≤ n) (h : f (b.drop used) = (x, u, er)) (he : er = 0) :
    loopD f b n used xs = loopD f b (n - 1) (used + u) (xs ++ [x]) := by
  obtain ⟨m, rfl⟩ : ∃ m, n = m + 1 := ⟨n - 1, by omega⟩
  simp [loopD, h, he]
theorem loopD_zero {α : Type} (f : List Nat → α × Nat × Nat) (b : List Nat) (used : Nat) (xs : List α) : loopD f b 0 used xs = (xs, used, 0) := rfl

/-- Decoding a list, each of whose elements takes at least wd bytes. -/
def listD {α : Type} (f : List Nat → α × Nat × Nat) (b : List Nat) (wd : Nat) : List α × Nat × Nat :=
  if (lenD b wd).2.2 ≠ 0 then ([], 0, (lenD b wd).2.2)
  else loopD f b (lenD b wd).1.toNat (lenD b wd).2.1 []

/-- What decoding a list returns: nothing but the error, if there is one. -/
def listR {α : Type} (r : List α × Nat × Nat) : List α × Nat × Nat := if r.2.2 ≠ 0 then ([], 0, r.2.2) else r

/-- The bytes of the encoding of a list of digests of 16 bytes. -/
def encD (l : List (List Nat)) : List Nat := enc l.length ++ l.flatten
def partD (l : List (List Nat)) (k : Nat) : List Nat := enc l.length ++ (l.take k).flatten
theorem partD_zero (l : List (List Nat)) : partD l 0 = enc l.length := by simp [partD]
theorem partD_all (l : List (List Nat)) : partD l l.length = encD l := by simp [partD, encD]
theorem partD_step (l : List (List Nat)) (k : Nat) (h : k < l.length) : partD l (k + 1) = partD l k ++ l[k] := by
  unfold partD
  rw [List.take_add_one, List.getElem?_eq_getElem h, List.flatten_append]
  simp
/-- Digests have 16 bytes. -/
def Dig (d : List Nat) : Prop := d.length = 16 ∧ ∀ y ∈ d, y < 256
theorem flatten_length (l : List (List Nat)) (h : ∀ d ∈ l, Dig d) : l.flatten.length = 16 * l.length := by
  induction l with
  | nil => simp
  | cons a l ih =>
    have h1 := (h a (by simp)).1
    have h2 := ih (fun n hn => h n (by simp [hn]))
    simp only [List.flatten_cons, List.length_append, List.length_cons]
    omega
theorem partD_length (l : List (List Nat)) (k : Nat) (h : ∀ d ∈ l, Dig d) (hl : l.length ≤ 2199023255552) : (partD l k).length ≤ 9 + 16 * l.length := by
  have h1 := enc_length (l.length : Int) (by omega) (by omega)
  have h2 := flatten_length (l.take k) (fun n hn => h n (List.mem_of_mem_take hn))
  unfold partD
  have h3 : (l.take k).length ≤ l.length := by simp; omega
  simp only [List.length_append]
  omega

/-- Decoding a digest where 16 bytes are there. -/
def decG (l : List Nat) : List Nat × Nat × Nat := (l.take 16, 16, 0)
theorem ex16 (d : List Nat) (h : d.length = 16) : ∃ x0 x1 x2 x3 x4 x5 x6 x7 x8 x9 x10 x11 x12 x13 x14 x15, d = [x0, x1, x2, x3, x4, x5, x6, x7, x8, x9, x10, x11, x12, x13, x14, x15] := by
  match d, h with
  | [x0, x1, x2, x3, x4, x5, x6, x7, x8, x9, x10, x11, x12, x13, x14, x15], _ => exact ⟨x0, x1, x2, x3, x4, x5, x6, x7, x8, x9, x10, x11, x12, x13, x14, x15, rfl⟩

end Go.Proofs.Ytjpiidfoegaenaa
