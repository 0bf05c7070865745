/-
  Plain mathematics of encodings and hashes; words for memory; the package wire. Conditions: as each theorem states them; no axiom beyond propext, Classical.choice, Quot.sound.
-/
import Init.Data.List.Lemmas
import Init.Data.Nat.Lemmas
import Init.Omega
import Derived.Test.YtfhfmdnimebegaaDoorRows
import Derived.WalkKit
import Derived.WalkSpells
import Derived.WalkLawsBesides
import Derived.Deep.AppendLies
import Derived.Lib.Hide
import Derived.Lib.AppendStr
import Derived.Laws.BytesArg
import Derived.Laws.IdiomStrings
import Derived.Deep.MidRow
import Derived.Deep.WholeRow
import Derived.Below

/-
  Plain mathematics of the encodings of layer 1: integers, byte strings, lists, digests. No program is named here.
-/
namespace Go.Proofs.YtfhfmdnimebegaaDoor

/-- The least number of bytes in which m can be written. -/
def sz (m : Nat) : Nat := if h : m = 0 then 0 else sz (m / 256) + 1
termination_by m
decreasing_by omega

theorem sz_zero : sz 0 = 0 := by rw [sz]; simp
theorem sz_pos {m : Nat} (h : m ≠ 0) : sz m = sz (m / 256) + 1 := by rw [sz]; simp [h]
theorem sz_le : ∀ (k m : Nat), m < 256 ^ k → sz m ≤ k
  | 0, m, h => by
    have : m = 0 := by simpa using h
    subst this; rw [sz_zero]; omega
  | k + 1, m, h => by
    by_cases h0 : m = 0
    · subst h0; rw [sz_zero]; omega
    · rw [sz_pos h0]
      have := sz_le k (m / 256) (by rw [Nat.pow_succ] at h; omega)
      omega
theorem lt_sz : ∀ (k m : Nat), sz m ≤ k → m < 256 ^ k
  | 0, m, h => by
    by_cases h0 : m = 0
    · subst h0; simp
    · rw [sz_pos h0] at h; omega
  | k + 1, m, h => by
    by_cases h0 : m = 0
    · subst h0; exact Nat.pow_pos (by omega)
    · rw [sz_pos h0] at h
      have := lt_sz k (m / 256) (by omega)
      rw [Nat.pow_succ]; omega

/-- The last k bytes of m, the greatest one first. -/
def be : Nat → Nat → List Nat
  | 0, _ => []
  | k + 1, m => (m / 256 ^ k % 256) :: be k m
theorem be_length : ∀ k m, (be k m).length = k
  | 0, _ => rfl
  | k + 1, m => by simp [be, be_length k m]

theorem be_get : ∀ k m i, i < k → (be k m)[i]? = some (m / 256 ^ (k - 1 - i) % 256)
  | 0, _, _, h => by omega
  | k + 1, m, 0, _ => by simp [be]
  | k + 1, m, i + 1, h => by
    rw [be, List.getElem?_cons_succ, be_get k m i (by omega)]
    congr 4
    omega
theorem be_take {k m j : Nat} (h1 : 1 ≤ j) (h2 : j ≤ k) : (be k m).take (k - (j - 1)) = (be k m).take (k - j) ++ [m / 256 ^ (j - 1) % 256] := by
  have e : k - (j - 1) = (k - j) + 1 := by omega
  rw [e, List.take_add_one, be_get k m (k - j) (by omega)]
  have e2 : k - 1 - (k - j) = j - 1 := by omega
  rw [e2]
  rfl
theorem dig_cast (n i : Nat) : (n : Int) / 2 ^ (8 * i) % 256 = ((n / 256 ^ i % 256 : Nat) : Int) := by
  have : ((2 : Int) ^ (8 * i)) = ((256 ^ i : Nat) : Int) := by rw [Int.pow_mul]; simp
  rw [this]
  simp

/-- The bytes of the encoding of an integer. -/
def enc (n : Int) : List Nat :=
  if 0 ≤ n then (128 + sz n.toNat) :: be (sz n.toNat) n.toNat
  else (127 - sz (-1 - n).toNat) :: (be (sz (-1 - n).toNat) (-1 - n).toNat).map (255 - ·)

theorem enc_nat (n : Nat) : enc (n : Int) = (128 + sz n) :: be (sz n) n := by
  unfold enc; rw [if_pos (by omega)]; simp
theorem enc_neg (m : Nat) : enc (-1 - (m : Int)) = (127 - sz m) :: (be (sz m) m).map (255 - ·) := by
  unfold enc; rw [if_neg (by omega)]
  have e : (-1 - (-1 - (m : Int))).toNat = m := by omega
  rw [e]

/-- The number that bytes are, the greatest one first. -/
def val : List Nat → Nat := fun l => l.foldl (fun m d => 256 * m + d) 0
theorem val_snoc (l : List Nat) (d : Nat) : val (l ++ [d]) = 256 * val l + d := by simp [val]
theorem val_lt (l : List Nat) (h : ∀ d ∈ l, d < 256) : val l < 256 ^ l.length := by
  have key : ∀ (l : List Nat) (m k : Nat), (∀ d ∈ l, d < 256) → m < 256 ^ k → l.foldl (fun m d => 256 * m + d) m < 256 ^ (k + l.length) := by
    intro l
    induction l with
    | nil => intro m k _ hm; simpa using hm
    | cons d l ih =>
      intro m k hd hm
      have := ih (256 * m + d) (k + 1) (fun x hx => hd x (by simp [hx])) (by have := hd d (by simp); rw [Nat.pow_succ]; omega)
      simpa [Nat.add_assoc, Nat.add_comm 1] using this
  simpa [val] using key l 0 0 h (by simp)

/-- The number that the first k bytes are, each less than 255. -/
def nv (t : List Nat) (k : Nat) : Nat := val ((t.take k).map (255 - ·))

/-- What decoding an integer at the beginning of bytes returns: the integer, the number of bytes, the error. -/
def dec (b : List Nat) : Int × Nat × Nat :=
  match b with
  | [] => (0, 0, 3)
  | h :: t =>
    if 128 ≤ h then
      if 8 < h - 128 then (0, 0, 2)
      else if t.length < h - 128 then (0, 0, 3)
      else if sz (val (t.take (h - 128))) ≠ h - 128 ∨ 9223372036854775808 ≤ val (t.take (h - 128)) then (0, 0, 2)
      else ((val (t.take (h - 128)) : Int), h - 128 + 1, 0)
    else
      if 8 < 127 - h then (0, 0, 2)
      else if t.length < 127 - h then (0, 0, 3)
      else if sz (nv t (127 - h)) ≠ 127 - h ∨ 9223372036854775808 ≤ nv t (127 - h) then (0, 0, 2)
      else (-1 - (nv t (127 - h) : Int), 127 - h + 1, 0)

theorem be_lt : ∀ k m, ∀ d ∈ be k m, d < 256
  | 0, _, d, h => by simp [be] at h
  | k + 1, m, d, h => by
    simp only [be, List.mem_cons] at h
    rcases h with rfl | h
    · omega
    · exact be_lt k m d h
theorem enc_lt (n : Int) (h1 : -9223372036854775808 ≤ n) (h2 : n ≤ 9223372036854775807) : ∀ d ∈ enc n, d < 256 := by
  intro d hd
  unfold enc at hd
  split at hd
  · have := sz_le 8 n.toNat (by have : (256 : Nat) ^ 8 = 18446744073709551616 := by decide
                                omega)
    simp only [List.mem_cons] at hd
    rcases hd with rfl | hd
    · omega
    · exact be_lt _ _ d hd
  · simp only [List.mem_cons, List.mem_map] at hd
    rcases hd with rfl | ⟨y, _, rfl⟩ <;> omega
theorem enc_length (n : Int) (h1 : -9223372036854775808 ≤ n) (h2 : n ≤ 9223372036854775807) : 1 ≤ (enc n).length ∧ (enc n).length ≤ 9 := by
  have e : (256 : Nat) ^ 8 = 18446744073709551616 := by decide
  unfold enc
  split
  · have := sz_le 8 n.toNat (by omega)
    simp [be_length]; omega
  · have := sz_le 8 (-1 - n).toNat (by omega)
    simp [be_length]; omega
theorem enc_ne (n : Int) : enc n ≠ [] := by unfold enc; split <;> simp

/-- The bytes of the encoding of a byte string. -/
def encS (l : List Nat) : List Nat := enc l.length ++ l

/-- What decoding the number of elements returns, each of which takes at least wd bytes: r is what decoding the integer returned, L the number of bytes. -/
def lenE (r : Int × Nat × Nat) (L wd : Nat) : Int × Nat × Nat :=
  if r.2.2 ≠ 0 then (0, 0, r.2.2)
  else if r.1 < 0 then (0, 0, 2)
  else if (((L - r.2.1) / wd : Nat) : Int) < r.1 then (0, 0, 3)
  else (r.1, r.2.1, 0)
def lenD (l : List Nat) (wd : Nat) : Int × Nat × Nat := lenE (dec l) l.length wd

theorem lenE_err {x : Int} {u er L wd : Nat} (h : er ≠ 0) : lenE (x, u, er) L wd = (0, 0, er) := by simp [lenE, h]
theorem lenE_form {x : Int} {u er L wd : Nat} (h : er = 0) (hx : x < 0) : lenE (x, u, er) L wd = (0, 0, 2) := by simp [lenE, h, hx]
theorem lenE_more {x : Int} {u er L wd : Nat} (h : er = 0) (hx : 0 ≤ x) (h2 : (((L - u) / wd : Nat) : Int) < x) : lenE (x, u, er) L wd = (0, 0, 3) := by
  unfold lenE
  rw [if_neg (by simp [h]), if_neg (by show ¬ x < 0; omega), if_pos h2]
theorem lenE_ok {x : Int} {u er L wd : Nat} (h : er = 0) (hx : 0 ≤ x) (h2 : ¬ (((L - u) / wd : Nat) : Int) < x) : lenE (x, u, er) L wd = (x, u, 0) := by
  unfold lenE
  rw [if_neg (by simp [h]), if_neg (by show ¬ x < 0; omega), if_neg h2]

theorem dec_ok (l : List Nat) : (dec l).2.2 ≤ 3 ∧ (dec l).2.1 ≤ 9 ∧ (dec l).2.1 ≤ l.length ∧ -9223372036854775808 ≤ (dec l).1 ∧ (dec l).1 ≤ 9223372036854775807 ∧ ((dec l).2.2 = 0 → 1 ≤ (dec l).2.1) := by
  unfold dec
  split
  · simp
  · split
    · split
      · simp
      · split
        · simp
        · split
          · simp
          · simp; omega
    · split
      · simp
      · split
        · simp
        · split
          · simp
          · simp; omega

/-- What decoding a byte string returns: its bytes, the number of bytes used, the error. -/
def decB (l : List Nat) : List Nat × Nat × Nat :=
  if (lenD l 1).2.2 ≠ 0 then ([], 0, (lenD l 1).2.2)
  else ((l.drop (lenD l 1).2.1).take (lenD l 1).1.toNat, (lenD l 1).2.1 + (lenD l 1).1.toNat, 0)

theorem lenD_ok (l : List Nat) (wd : Nat) : (lenD l wd).2.2 ≤ 3 ∧ (lenD l wd).2.1 ≤ 9 ∧ 0 ≤ (lenD l wd).1 ∧
    ((lenD l wd).2.2 = 0 → 1 ≤ (lenD l wd).2.1 ∧ (lenD l wd).2.1 + (lenD l wd).1.toNat * wd ≤ l.length) ∧ ((lenD l wd).2.2 ≠ 0 → (lenD l wd).1 = 0 ∧ (lenD l wd).2.1 = 0) := by
  have h := dec_ok l
  unfold lenD
  generalize dec l = r at h
  obtain ⟨x, u, er⟩ := r
  simp only at h
  by_cases h1 : er = 0
  · rcases Int.lt_or_le x 0 with h2 | h2
    · rw [lenE_form h1 h2]; simp
    · by_cases h3 : (((l.length - u) / wd : Nat) : Int) < x
      · rw [lenE_more h1 h2 h3]; simp
      · rw [lenE_ok h1 h2 h3]
        have h4 : x.toNat ≤ (l.length - u) / wd := by omega
        have h5 : x.toNat * wd ≤ l.length - u := Nat.le_trans (Nat.mul_le_mul_right _ h4) (Nat.div_mul_le_self _ _)
        refine ⟨by simp, by simp; omega, h2, fun _ => ⟨by have := h.2.2.2.2.2 h1; simp; omega, ?_⟩, by simp⟩
        simp only
        omega
  · rw [lenE_err h1]; simp [h1]; omega

/-- The bytes of the encoding of a list of integers; what has been written when k of them are. -/
def encL (l : List Int) : List Nat := enc l.length ++ l.flatMap enc
def partI (l : List Int) (k : Nat) : List Nat := enc l.length ++ (l.take k).flatMap enc
theorem partI_zero (l : List Int) : partI l 0 = enc l.length := by simp [partI]
theorem partI_all (l : List Int) : partI l l.length = encL l := by simp [partI, encL]
theorem partI_step (l : List Int) (k : Nat) (h : k < l.length) : partI l (k + 1) = partI l k ++ enc l[k] := by
  unfold partI
  rw [List.take_add_one, List.getElem?_eq_getElem h, List.flatMap_append]
  simp
def I64 (n : Int) : Prop := -9223372036854775808 ≤ n ∧ n ≤ 9223372036854775807
theorem flatMap_enc_length (l : List Int) (h : ∀ n ∈ l, I64 n) : (l.flatMap enc).length ≤ 9 * l.length := by
  induction l with
  | nil => simp
  | cons a l ih =>
    have h1 := enc_length a (h a (by simp)).1 (h a (by simp)).2
    have h2 := ih (fun n hn => h n (by simp [hn]))
    simp only [List.flatMap_cons, List.length_append, List.length_cons]
    omega
theorem partI_length (l : List Int) (k : Nat) (h : ∀ n ∈ l, I64 n) (hl : l.length ≤ 4398046511104) : (partI l k).length ≤ 9 + 9 * l.length := by
  have h1 := enc_length (l.length : Int) (by omega) (by omega)
  have h2 := flatMap_enc_length (l.take k) (fun n hn => h n (List.mem_of_mem_take hn))
  unfold partI
  have h3 : (l.take k).length ≤ l.length := by simp; omega
  simp only [List.length_append]
  omega

theorem encS_length (s : List Nat) (h : s.length ≤ 70368744177664) : (encS s).length ≤ 9 + s.length := by
  have := enc_length (s.length : Int) (by omega) (by omega)
  unfold encS
  simp only [List.length_append]
  omega

/-- The bytes of the encoding of a list of byte strings. -/
def encT (l : List (List Nat)) : List Nat := enc l.length ++ l.flatMap encS
def partT (l : List (List Nat)) (k : Nat) : List Nat := enc l.length ++ (l.take k).flatMap encS
theorem partT_zero (l : List (List Nat)) : partT l 0 = enc l.length := by simp [partT]
theorem partT_all (l : List (List Nat)) : partT l l.length = encT l := by simp [partT, encT]
theorem partT_step (l : List (List Nat)) (k : Nat) (h : k < l.length) : partT l (k + 1) = partT l k ++ encS l[k] := by
  unfold partT
  rw [List.take_add_one, List.getElem?_eq_getElem h, List.flatMap_append]
  simp
/-- How many bytes the strings have together. -/
def tot (l : List (List Nat)) : Nat := l.foldr (fun s n => s.length + n) 0
theorem tot_take (l : List (List Nat)) : ∀ k, tot (l.take k) ≤ tot l := by
  induction l with
  | nil => intro k; simp [tot]
  | cons a l ih =>
    intro k
    cases k with
    | zero => simp [tot]
    | succ k => have := ih k; simp only [tot, List.take_succ_cons, List.foldr_cons] at this ⊢; omega
theorem tot_mem (l : List (List Nat)) (s : List Nat) (h : s ∈ l) : s.length ≤ tot l := by
  induction l with
  | nil => simp at h
  | cons a l ih =>
    simp only [List.mem_cons] at h
    simp only [tot, List.foldr_cons]
    rcases h with rfl | h
    · omega
    · have := ih h; simp only [tot] at this; omega
theorem flatMap_encS_length (l : List (List Nat)) (h : tot l ≤ 70368744177664) : (l.flatMap encS).length ≤ 9 * l.length + tot l := by
  induction l with
  | nil => simp
  | cons a l ih =>
    simp only [tot, List.foldr_cons] at h ih
    have h1 := encS_length a (by omega)
    have h2 := ih (by omega)
    simp only [List.flatMap_cons, List.length_append, List.length_cons, tot, List.foldr_cons]
    omega
theorem partT_length (l : List (List Nat)) (k : Nat) (hl : l.length ≤ 4398046511104) (ht : tot l ≤ 17592186044416) : (partT l k).length ≤ 9 + 9 * l.length + tot l := by
  have h1 := enc_length (l.length : Int) (by omega) (by omega)
  have h4 := tot_take l k
  have h2 := flatMap_encS_length (l.take k) (by omega)
  unfold partT
  have h3 : (l.take k).length ≤ l.length := by simp; omega
  simp only [List.length_append]
  omega

theorem decB_ok (l : List Nat) : (decB l).2.2 ≤ 3 ∧ True ∧ (decB l).2.1 ≤ l.length ∧ True ∧ True ∧ ((decB l).2.2 = 0 → 1 ≤ (decB l).2.1) := by
  have h := lenD_ok l 1
  unfold decB
  by_cases h1 : (lenD l 1).2.2 = 0
  · rw [if_neg (by simp [h1])]
    have := h.2.2.2.1 h1
    refine ⟨by simp, trivial, by simp only; omega, trivial, trivial, fun _ => by simp only; omega⟩
  · rw [if_pos h1]
    refine ⟨h.1, trivial, by simp, trivial, trivial, fun e => absurd e h1⟩
theorem decB_lt (l : List Nat) (h : ∀ d ∈ l, d < 256) : ∀ d ∈ (decB l).1, d < 256 := by
  intro d hd
  unfold decB at hd
  split at hd
  · simp at hd
  · exact h d (List.mem_of_mem_drop (List.mem_of_mem_take hd))

/-- Decoding n elements, one after the other, by f; xs are those that have been decoded. -/
def loopD {α : Type} (f : List Nat → α × Nat × Nat) (b : List Nat) : Nat → Nat → List α → List α × Nat × Nat
  | 0, used, xs => (xs, used, 0)
  | n + 1, used, xs =>
    if (f (b.drop used)).2.2 ≠ 0 then (xs ++ [(f (b.drop used)).1], 0, (f (b.drop used)).2.2)
    else loopD f b n (used + (f (b.drop used)).2.1) (xs ++ [(f (b.drop used)).1])
theorem loopD_err {α : Type} {f : List Nat → α × Nat × Nat} {b : List Nat} {n used : Nat} {xs : List α} {x : α} {u er : Nat} (hn : 1 ≤ n) (h : f (b.drop used) = (x, u, er)) (he : er ≠ 0) :
    loopD f b n used xs = (xs ++ [x], 0, er) := by
  obtain ⟨m, rfl⟩ : ∃ m, n = m + 1 := ⟨n - 1, by omega⟩
  simp [loopD, h, he]
theorem loopD_ok {α : Type} {f : List Nat → α × Nat × Nat} {b : List Nat} {n used : Nat} {xs : List α} {x : α} {u er : Nat} (hn : 1 ≤ n) (h : f (b.drop used) = (x, u, er)) (he : er = 0) :
    loopD f b n used xs = loopD f b (n - 1) (used + u) (xs ++ [x]) := by
  obtain ⟨m, rfl⟩ : ∃ m, n = m + 1 := ⟨n - 1, by omega⟩
  simp [loopD, h, he]
theorem loopD_zero {α : Type} (f : List Nat → α × Nat × Nat) (b : List Nat) (used : Nat) (xs : List α) : loopD f b 0 used xs = (xs, used, 0) := rfl

/-- Decoding a list, each of whose elements takes at least wd bytes. -/
def listD {α : Type} (f : List Nat → α × Nat × Nat) (b : List Nat) (wd : Nat) : List α × Nat × Nat :=
  if (lenD b wd).2.2 ≠ 0 then ([], 0, (lenD b wd).2.2)
  else loopD f b (lenD b wd).1.toNat (lenD b wd).2.1 []

/-- What decoding a list returns: nothing but the error, if there is one. -/
def listR {α : Type} (r : List α × Nat × Nat) : List α × Nat × Nat := if r.2.2 ≠ 0 then ([], 0, r.2.2) else r

/-- The bytes of the encoding of a list of digests of 16 bytes. -/
def encD (l : List (List Nat)) : List Nat := enc l.length ++ l.flatten
def partD (l : List (List Nat)) (k : Nat) : List Nat := enc l.length ++ (l.take k).flatten
theorem partD_zero (l : List (List Nat)) : partD l 0 = enc l.length := by simp [partD]
theorem partD_all (l : List (List Nat)) : partD l l.length = encD l := by simp [partD, encD]
theorem partD_step (l : List (List Nat)) (k : Nat) (h : k < l.length) : partD l (k + 1) = partD l k ++ l[k] := by
  unfold partD
  rw [List.take_add_one, List.getElem?_eq_getElem h, List.flatten_append]
  simp
/-- Digests have 16 bytes. -/
def Dig (d : List Nat) : Prop := d.length = 16 ∧ ∀ y ∈ d, y < 256
theorem flatten_length (l : List (List Nat)) (h : ∀ d ∈ l, Dig d) : l.flatten.length = 16 * l.length := by
  induction l with
  | nil => simp
  | cons a l ih =>
    have h1 := (h a (by simp)).1
    have h2 := ih (fun n hn => h n (by simp [hn]))
    simp only [List.flatten_cons, List.length_append, List.length_cons]
    omega
theorem partD_length (l : List (List Nat)) (k : Nat) (h : ∀ d ∈ l, Dig d) (hl : l.length ≤ 2199023255552) : (partD l k).length ≤ 9 + 16 * l.length := by
  have h1 := enc_length (l.length : Int) (by omega) (by omega)
  have h2 := flatten_length (l.take k) (fun n hn => h n (List.mem_of_mem_take hn))
  unfold partD
  have h3 : (l.take k).length ≤ l.length := by simp; omega
  simp only [List.length_append]
  omega

/-- Decoding a digest where 16 bytes are there. -/
def decG (l : List Nat) : List Nat × Nat × Nat := (l.take 16, 16, 0)
theorem ex16 (d : List Nat) (h : d.length = 16) : ∃ x0 x1 x2 x3 x4 x5 x6 x7 x8 x9 x10 x11 x12 x13 x14 x15, d = [x0, x1, x2, x3, x4, x5, x6, x7, x8, x9, x10, x11, x12, x13, x14, x15] := by
  match d, h with
  | [x0, x1, x2, x3, x4, x5, x6, x7, x8, x9, x10, x11, x12, x13, x14, x15], _ => exact ⟨x0, x1, x2, x3, x4, x5, x6, x7, x8, x9, x10, x11, x12, x13, x14, x15, rfl⟩

end Go.Proofs.YtfhfmdnimebegaaDoor

/-
  Words for byte slices in memory, and the laws by which the calls append to them and turn them into strings.
-/
namespace Go.Proofs.YtfhfmdnimebegaaDoor
open Go.RowKit

def byteV (x : Nat) : Value := .int .u8 x
def bytesV (l : List Nat) : List Value := l.map byteV
theorem bytesV_length (l : List Nat) : (bytesV l).length = l.length := by simp [bytesV]
theorem bytesV_append (l m : List Nat) : bytesV (l ++ m) = bytesV l ++ bytesV m := by simp [bytesV]
theorem u8info : (Tryd.prog.info? 5).map (fun i => (i.zero, i.size, i.bytes)) = some (some (.int .u8 0), 1, 1) := by kernel_rfl

/-- v is a slice of the call's own with the bytes l; what was there when the call began (the world W) has not changed. -/
def Own (W w : World) (v : Value) (l : List Nat) : Prop := w.ownsRow W.heap.size 5 1 v l.length (bytesV l) ∧ Below W.heap.size W w

/-- The call made the bytes l: a slice of its own, and nothing that was there has changed. -/
def Made (W : World) (l : List Nat) (e : Ending) (w' : World) : Prop :=
  ∃ g cap, e = .returned (.slice (some ⟨g, 0, none⟩) l.length cap) ∧ Own W w' (.slice (some ⟨g, 0, none⟩) l.length cap) l

theorem made_of {W w' : World} {l : List Nat} {v : Value} (h0 : l ≠ []) (h : Own W w' v l) : Made W l (.returned v) w' := by
  obtain ⟨g, cap, rfl, _, _⟩ := h.1.form (List.length_pos_iff.2 h0)
  exact ⟨g, cap, rfl, h⟩

/-- append(b, x): b the call's own bytes, x a byte that was laid just before. -/
theorem push_byte {W w : World} {ops : Array Oper} {rest : List Oper} {o : Oper} {a : Act} {Q : Exit → Act → World → Prop} (hgd : o.guard = none) (s x : Operand)
    (ho : o.op = .call { callee := .builtin .append, args := #[s, x], argTypes := #[39, 39] })
    (l : List Nat) (y : Nat) (v : Value) (hs : a.eval s = v) (hO : Own W w v l)
    (c : Nat) (hx : a.eval x = .slice (some ⟨w.heap.size, 0, none⟩) 1 c) {X : Int} (hX : X = y) (hl : l.length ≤ 70368744177664)
    (h : ∀ v' w', Own W w' v' (l ++ [y]) → wpList Tryd.prog ops Q rest (a.put o.dst v') w') :
    wpList Tryd.prog ops Q (o :: rest) a (w.alloc (.cells #[.int .u8 X] 5)) := by
  subst hX
  obtain ⟨hown, hb⟩ := hO
  obtain ⟨i0, hi, hz0, hz1, hz2⟩ := info_parts u8info
  refine wpList_append_own _ hgd s x 39 ho W.heap.size 5 i0 (.int .u8 0) 1 1 Tryd.underlying39 hi hz0 hz1 hz2 rfl (by decide) v l.length (bytesV l) hs (hown.alloc _) ⟨w.heap.size, 0, none⟩ 1 c [byteV y] hx rfl ?c1 ?c2 ?c3 ?c4 ?c5 ?_
  case c1 => exact cell_one_new _ _ _
  case c2 => intro u hu; simp [byteV] at hu; subst hu; rfl
  case c3 => unfold maxLen; omega
  case c4 => omega
  case c5 => have := hb.size; simp; omega
  intro v' w' hown' hgrow _
  refine h v' w' ⟨by rw [bytesV_append]; simpa [bytesV] using hown', (hb.alloc hb.size _).grown hgrow (by have := hb.size; simp; omega) (fun j hj => (hown.lt j hj).1)⟩

theorem Own.below {W w : World} {v : Value} {l : List Nat} (h : Own W w v l) : Below W.heap.size W w := h.2

/-- What the call owns stays as it is where only newer blocks change. -/
theorem Own.keep {W w w' : World} {v : Value} {l : List Nat} (h : Own W w v l) (hb : Below w.heap.size w w') : Own W w' v l := by
  obtain ⟨ho, hB⟩ := h
  refine ⟨⟨ho.1, ?_⟩, hB.trans (hb.mono hB.size)⟩
  rcases ho.2 with h0 | ⟨g, cap, cur, hv, hg, hh, rest⟩
  · exact .inl h0
  · refine .inr ⟨g, cap, cur, hv, hg, ?_, rest⟩
    have hlt : g < w.heap.size := by
      rcases Nat.lt_or_ge g w.heap.size with hl | hl
      · exact hl
      · rw [Array.getElem?_eq_none hl] at hh; cases hh
    rw [hb.block g hlt]; exact hh

/-- append(b, c...): b the call's own bytes, c bytes that lie somewhere. -/
theorem push_row {W w : World} {ops : Array Oper} {rest : List Oper} {o : Oper} {a : Act} {Q : Exit → Act → World → Prop} (hgd : o.guard = none) (s x : Operand)
    (ho : o.op = .call { callee := .builtin .append, args := #[s, x], argTypes := #[39, 39] })
    (l m : List Nat) (v : Value) (hs : a.eval s = v) (hO : Own W w v l)
    (ad : Addr) (k c : Nat) (hx : a.eval x = .slice (some ad) k c) (hk : k = m.length) (hm : ∀ j u, (bytesV m)[j]? = some u → w.cell? (ad.add j) = some u) (hl : l.length + m.length ≤ 70368744177664)
    (h : ∀ v' w', Own W w' v' (l ++ m) → wpList Tryd.prog ops Q rest (a.put o.dst v') w') :
    wpList Tryd.prog ops Q (o :: rest) a w := by
  subst hk
  obtain ⟨hown, hb⟩ := hO
  obtain ⟨i0, hi, hz0, hz1, hz2⟩ := info_parts u8info
  refine wpList_append_own _ hgd s x 39 ho W.heap.size 5 i0 (.int .u8 0) 1 1 Tryd.underlying39 hi hz0 hz1 hz2 rfl (by decide) v l.length (bytesV l) hs hown ad m.length c (bytesV m) hx (by simp [bytesV]) hm ?c2 ?c3 ?c4 ?c5 ?_
  case c2 => intro u hu; obtain ⟨y, _, rfl⟩ := List.mem_map.1 hu; rfl
  case c3 => unfold maxLen; omega
  case c4 => omega
  case c5 => exact hb.size
  intro v' w' hown' hgrow _
  refine h v' w' ⟨by rw [bytesV_append, List.length_append]; exact hown', hb.grown hgrow hb.size (fun j hj => (hown.lt j hj).1)⟩

/-- The bytes of a string, as numbers. -/
def sb (s : ByteArray) : List Nat := s.data.toList.map (·.toNat)
theorem sb_length (s : ByteArray) : (sb s).length = s.size := by simp [sb]
theorem sb_lt (s : ByteArray) : ∀ d ∈ sb s, d < 256 := by
  intro d hd
  obtain ⟨u, _, rfl⟩ := List.mem_map.1 hd
  exact u.toNat_lt
theorem strCells_sb (s : ByteArray) : Lib.strCells s = bytesV (sb s) := by simp [Lib.strCells, bytesV, sb, byteV]

/-- append(b, s...): b the call's own bytes, s a string. -/
theorem push_str {W w : World} {ops : Array Oper} {rest : List Oper} {o : Oper} {a : Act} {Q : Exit → Act → World → Prop} (hgd : o.guard = none) (s x : Operand)
    (ho : o.op = .call { callee := .builtin .append, args := #[s, x], argTypes := #[39, 9] })
    (l : List Nat) (v : Value) (hs : a.eval s = v) (hO : Own W w v l)
    (t : ByteArray) (hx : a.eval x = .string t) (hl : l.length + t.size ≤ 70368744177664)
    (h : ∀ v' w', Own W w' v' (l ++ sb t) → wpList Tryd.prog ops Q rest (a.put o.dst v') w') :
    wpList Tryd.prog ops Q (o :: rest) a w := by
  obtain ⟨hown, hb⟩ := hO
  obtain ⟨i0, hi, hz0, hz1, hz2⟩ := info_parts u8info
  refine Lib.wpList_append_own_string _ hgd s x 39 9 ho W.heap.size 5 i0 Tryd.underlying39 Tryd.underlying9 hi hz0 hz1 hz2 v l.length (bytesV l) hs hown t hx ?c3 ?c4 hb.size ?_
  case c3 => unfold maxLen; omega
  case c4 => omega
  intro v' w' hown' hgrow _
  refine h v' w' ⟨by rw [bytesV_append, List.length_append, sb_length, ← strCells_sb]; exact hown', hb.grown hgrow hb.size (fun j hj => (hown.lt j hj).1)⟩

/-- A slice that starts at A has the cells xs, each of an element of its own. -/
def Cells (w : World) (A : Option Addr) (xs : List Value) : Prop := ∀ k u, xs[k]? = some u → ∃ ad, A = some ad ∧ ad.block < w.heap.size ∧ w.cell? (ad.add k) = some u
theorem block_add (ad : Addr) (k : Nat) : (ad.add k).block = ad.block := by unfold Addr.add; split <;> rfl
theorem Cells.keep {w w' : World} {A : Option Addr} {xs : List Value} (h : Cells w A xs) (hb : Below w.heap.size w w') : Cells w' A xs := by
  intro k u hk
  obtain ⟨ad, e, hlt, hc⟩ := h k u hk
  exact ⟨ad, e, Nat.lt_of_lt_of_le hlt hb.size, (hb.cell (by rw [block_add]; exact hlt)).trans hc⟩
/-- A slice that starts at A has the bytes l. -/
def Has (w : World) (A : Option Addr) (l : List Nat) : Prop := Cells w A (bytesV l) ∧ ∀ d ∈ l, d < 256
theorem Has.keep {w w' : World} {A : Option Addr} {l : List Nat} (h : Has w A l) (hb : Below w.heap.size w w') : Has w' A l := ⟨h.1.keep hb, h.2⟩
theorem Has.at {w : World} {A : Option Addr} {l : List Nat} (h : Has w A l) (k y : Nat) (hk : l[k]? = some y) : y < 256 ∧ ∃ ad, A = some ad ∧ ad.block < w.heap.size ∧ w.cell? (ad.add k) = some (byteV y) :=
  ⟨h.2 y (List.mem_iff_getElem?.2 ⟨k, hk⟩), h.1 k (byteV y) (by simp [bytesV, hk])⟩
theorem Own.has {W w : World} {g n c : Nat} {l : List Nat} (h : Own W w (.slice (some ⟨g, 0, none⟩) n c) l) (hl : ∀ d ∈ l, d < 256) : Has w (some ⟨g, 0, none⟩) l := by
  refine ⟨fun k u hk => ⟨_, rfl, ?_, ?_⟩, hl⟩
  · exact (h.1.lt g (by simp [Value.ownBlock])).2
  · exact h.1.cells (g := g) (by simp [Value.ownBlock]) k u hk

theorem add_add (ad : Addr) (u j : Nat) : (ad.add u).add j = ad.add (u + j) := by
  unfold Addr.add
  by_cases hu : u = 0 <;> by_cases h : j = 0 <;> simp [h, hu, Nat.add_assoc]
theorem Cells.drop {w : World} {ad : Addr} {xs : List Value} (h : Cells w (some ad) xs) (u : Nat) : Cells w (some (ad.add u)) (xs.drop u) := by
  intro k v hk
  obtain ⟨ad', e, hb, hc⟩ := h (u + k) v (by rw [← hk, List.getElem?_drop])
  obtain rfl : ad = ad' := by simpa using e
  exact ⟨_, rfl, by rw [block_add]; exact hb, by rw [add_add ad u k]; exact hc⟩
theorem Has.drop {w : World} {ad : Addr} {l : List Nat} (h : Has w (some ad) l) (u : Nat) : Has w (some (ad.add u)) (l.drop u) :=
  ⟨by have := h.1.drop u; rwa [show (bytesV l).drop u = bytesV (l.drop u) by simp [bytesV]] at this, fun d hd => h.2 d (List.mem_of_mem_drop hd)⟩
theorem Cells.take {w : World} {A : Option Addr} {xs : List Value} (h : Cells w A xs) (k : Nat) : Cells w A (xs.take k) := by
  intro j u hj
  rw [List.getElem?_take] at hj
  split at hj
  · exact h j u hj
  · cases hj
theorem Has.take {w : World} {A : Option Addr} {l : List Nat} (h : Has w A l) (k : Nat) : Has w A (l.take k) :=
  ⟨by have := h.1.take k; rwa [show (bytesV l).take k = bytesV (l.take k) by simp [bytesV]] at this, fun d hd => h.2 d (List.mem_of_mem_take hd)⟩
theorem Has.none_ (w : World) (A : Option Addr) : Has w A [] := ⟨fun k u hk => by simp [bytesV] at hk, fun d hd => by simp at hd⟩
theorem Has.cells {w : World} {ad : Addr} {l : List Nat} (h : Has w (some ad) l) : ∀ j u, (bytesV l)[j]? = some u → w.cell? (ad.add j) = some u := by
  intro j u hj
  obtain ⟨ad', e, _, hc⟩ := h.1 j u hj
  obtain rfl : ad = ad' := by simpa using e
  exact hc

/-- The string with the bytes l. -/
def strOf (l : List Nat) : ByteArray := ⟨(l.map UInt8.ofNat).toArray⟩
theorem sb_strOf (l : List Nat) (h : ∀ d ∈ l, d < 256) : sb (strOf l) = l := by
  simp only [sb, strOf, List.map_map]
  apply List.ext_getElem
  · simp
  · intro i h1 h2
    simp only [List.getElem_map, Function.comp]
    exact Nat.mod_eq_of_lt (h _ (List.getElem_mem _))
theorem strOf_sb (s : ByteArray) : strOf (sb s) = s := by
  cases s with | mk d =>
  have e : (UInt8.ofNat ∘ fun x : UInt8 => x.toNat) = id := funext fun x => UInt8.ofNat_toNat
  simp only [strOf, sb, List.map_map, e, List.map_id]
theorem strOf_size (l : List Nat) : (strOf l).size = l.length := by
  show ((l.map UInt8.ofNat).toArray).size = _
  simp

theorem conv_cells (w : World) (ad : Addr) (cap : Nat) (m : List Nat) (h : ∀ d ∈ m, d < 256) (hc : ∀ j u, (bytesV m)[j]? = some u → w.cell? (ad.add j) = some u) :
    (convert 39 9 (.slice (some ad) m.length cap)).run Tryd.prog w = .ok (.string (strOf m)) w := by
  have := run_convert_bytes_back (P := Tryd.prog) w 39 9 5 ad cap (m.map UInt8.ofNat) Tryd.underlying39 Tryd.underlying5 Tryd.underlying9 (fun j hj => by
    have hj' : j < m.length := by simpa using hj
    rw [hc j (byteV m[j]) (by simp [bytesV, hj'])]
    have := h m[j] (List.getElem_mem _)
    simp only [List.getElem_map, byteV]
    rw [show (UInt8.ofNat m[j]).toNat = m[j] from Nat.mod_eq_of_lt this])
  rw [List.length_map] at this
  exact this

end Go.Proofs.YtfhfmdnimebegaaDoor

/-
  Plain mathematics: SHA-256 over lists of bytes and 32-bit words. No program is named here.
-/
namespace Go.Proofs.YtfhfmdnimebegaaDoor
set_option linter.unusedVariables false
set_option linter.unusedSimpArgs false

def rot (x : BitVec 32) (n : Nat) : BitVec 32 := x >>> n ||| x <<< (32 - n)
/-- Word t of a block of bytes. -/
def word (b : List Nat) (t : Nat) : BitVec 32 :=
  BitVec.ofNat 32 (b.getD (4 * t) 0) <<< 24 ||| BitVec.ofNat 32 (b.getD (4 * t + 1) 0) <<< 16 ||| BitVec.ofNat 32 (b.getD (4 * t + 2) 0) <<< 8 ||| BitVec.ofNat 32 (b.getD (4 * t + 3) 0)
def sig0 (x : BitVec 32) : BitVec 32 := rot x 7 ^^^ rot x 18 ^^^ x >>> 3
def sig1 (x : BitVec 32) : BitVec 32 := rot x 17 ^^^ rot x 19 ^^^ x >>> 10
/-- The word that follows the words ws. -/
def nextW (b : List Nat) (ws : List (BitVec 32)) : BitVec 32 :=
  if ws.length < 16 then word b ws.length
  else ws.getD (ws.length - 16) 0 + sig0 (ws.getD (ws.length - 15) 0) + ws.getD (ws.length - 7) 0 + sig1 (ws.getD (ws.length - 2) 0)
/-- The first t words of all rounds. -/
def sched (b : List Nat) : Nat → List (BitVec 32)
  | 0 => []
  | t + 1 => sched b t ++ [nextW b (sched b t)]
theorem sched_length (b : List Nat) : ∀ t, (sched b t).length = t
  | 0 => rfl
  | t + 1 => by simp [sched, sched_length b t]

structure St where
  a : BitVec 32
  b : BitVec 32
  c : BitVec 32
  d : BitVec 32
  e : BitVec 32
  f : BitVec 32
  g : BitVec 32
  h : BitVec 32
  deriving DecidableEq
def rx (s : St) (k w : BitVec 32) : BitVec 32 := s.h + (rot s.e 6 ^^^ rot s.e 11 ^^^ rot s.e 25) + (s.e &&& s.f ^^^ ~~~s.e &&& s.g) + k + w
def ry (s : St) : BitVec 32 := (rot s.a 2 ^^^ rot s.a 13 ^^^ rot s.a 22) + (s.a &&& s.b ^^^ s.a &&& s.c ^^^ s.b &&& s.c)
/-- One round. -/
def rnd (s : St) (k w : BitVec 32) : St := ⟨rx s k w + ry s, s.a, s.b, s.c, s.d + rx s k w, s.e, s.f, s.g⟩
def rnds (K W : List (BitVec 32)) (s : St) : Nat → St
  | 0 => s
  | t + 1 => rnd (rnds K W s t) (K.getD t 0) (W.getD t 0)
def addSt (s t : St) : St := ⟨s.a + t.a, s.b + t.b, s.c + t.c, s.d + t.d, s.e + t.e, s.f + t.f, s.g + t.g, s.h + t.h⟩
def kk : List (BitVec 32) := [1116352408, 1899447441, 3049323471, 3921009573, 961987163, 1508970993, 2453635748, 2870763221, 3624381080, 310598401, 607225278, 1426881987, 1925078388, 2162078206, 2614888103, 3248222580, 3835390401, 4022224774, 264347078, 604807628, 770255983, 1249150122, 1555081692, 1996064986, 2554220882, 2821834349, 2952996808, 3210313671, 3336571891, 3584528711, 113926993, 338241895, 666307205, 773529912, 1294757372, 1396182291, 1695183700, 1986661051, 2177026350, 2456956037, 2730485921, 2820302411, 3259730800, 3345764771, 3516065817, 3600352804, 4094571909, 275423344, 430227734, 506948616, 659060556, 883997877, 958139571, 1322822218, 1537002063, 1747873779, 1955562222, 2024104815, 2227730452, 2361852424, 2428436474, 2756734187, 3204031479, 3329325298]
def st0 : St := ⟨1779033703, 3144134277, 1013904242, 2773480762, 1359893119, 2600822924, 528734635, 1541459225⟩
/-- The hash value after one more block. -/
def comp (s : St) (b : List Nat) : St := addSt s (rnds kk (sched b 64) s 64)
/-- The hash value after the first k blocks of m. -/
def hst (m : List Nat) : Nat → St
  | 0 => st0
  | k + 1 => comp (hst m k) ((m.drop (64 * k)).take 64)
/-- How many zero bytes follow the byte 128. -/
def zeros (n : Nat) : Nat := (119 - n % 64) % 64
def tail (n : Nat) : List Nat := 128 :: (List.replicate (zeros n) 0 ++ be 8 (8 * n))
def pad (m : List Nat) : List Nat := m ++ tail m.length
def outB (s : St) : List Nat := [s.a, s.b, s.c, s.d, s.e, s.f, s.g, s.h].flatMap fun w => be 4 w.toNat
def sha (m : List Nat) : List Nat := outB (hst (pad m) ((pad m).length / 64))

theorem zeros_mod (n : Nat) : (n + 1 + zeros n) % 64 = 56 := by unfold zeros; omega
theorem zeros_lt (n : Nat) : zeros n < 64 := by unfold zeros; omega
theorem tail_length (n : Nat) : (tail n).length = 9 + zeros n := by simp [tail, be_length]; omega
theorem pad_length (m : List Nat) : (pad m).length % 64 = 0 := by
  unfold pad
  rw [List.length_append, tail_length]
  have := zeros_mod m.length
  omega
/-- Only the blocks themselves count. -/
theorem hst_append (m t : List Nat) : ∀ k, 64 * k ≤ m.length → hst (m ++ t) k = hst m k
  | 0, _ => rfl
  | k + 1, h => by
    rw [hst, hst, hst_append m t k (by omega)]
    congr 1
    rw [List.drop_append_of_le_length (by omega), List.take_append_of_le_length (by rw [List.length_drop]; omega)]

theorem sha_abc : sha [97, 98, 99] = [186, 120, 22, 191, 143, 1, 207, 234, 65, 65, 64, 222, 93, 174, 34, 35, 176, 3, 97, 163, 150, 23, 122, 156, 180, 16, 255, 97, 242, 0, 21, 173] := by decide +kernel

end Go.Proofs.YtfhfmdnimebegaaDoor

/-
  32-bit words as the model's integers.
-/
namespace Go.Proofs.YtfhfmdnimebegaaDoor
set_option linter.unusedVariables false
set_option linter.unusedSimpArgs false
open Go.RowKit

def u (x : BitVec 32) : Int := (x.toNat : Int)
theorem u_lo (x : BitVec 32) : 0 ≤ u x := by unfold u; omega
theorem u_hi (x : BitVec 32) : u x ≤ 4294967295 := by unfold u; have := x.isLt; omega
theorem wrap_u32 (n : Nat) : IntKind.u32.wrap (n : Int) = ((n % 4294967296 : Nat) : Int) := by
  simp [IntKind.wrap, IntKind.signed, IntKind.bits]
theorem ofInt_u (x : BitVec 32) : BitVec.ofInt 32 (u x) = x := by
  unfold u
  rw [BitVec.ofInt_natCast, BitVec.ofNat_toNat, BitVec.setWidth_eq]
theorem wrap_toNat (x : BitVec 32) : IntKind.u32.wrap (x.toNat : Int) = u x := by
  rw [wrap_u32, Nat.mod_eq_of_lt x.isLt]; rfl
theorem u_xor (x y : BitVec 32) : bits BinOp.xor IntKind.u32 (u x) (u y) = u (x ^^^ y) := by
  have hx := ofInt_u x
  have hy := ofInt_u y
  show IntKind.u32.wrap ((BitVec.ofInt 32 (u x) ^^^ BitVec.ofInt 32 (u y)).toNat : Int) = _
  rw [hx, hy]
  exact wrap_toNat _
theorem u_and (x y : BitVec 32) : bits BinOp.and IntKind.u32 (u x) (u y) = u (x &&& y) := by
  have hx := ofInt_u x
  have hy := ofInt_u y
  show IntKind.u32.wrap ((BitVec.ofInt 32 (u x) &&& BitVec.ofInt 32 (u y)).toNat : Int) = _
  rw [hx, hy]
  exact wrap_toNat _
theorem u_or (x y : BitVec 32) : bits BinOp.or IntKind.u32 (u x) (u y) = u (x ||| y) := by
  have hx := ofInt_u x
  have hy := ofInt_u y
  show IntKind.u32.wrap ((BitVec.ofInt 32 (u x) ||| BitVec.ofInt 32 (u y)).toNat : Int) = _
  rw [hx, hy]
  exact wrap_toNat _
theorem u_add (x y : BitVec 32) : IntKind.u32.wrap (u x + u y) = u (x + y) := by
  unfold u
  have e : (x.toNat : Int) + (y.toNat : Int) = ((x.toNat + y.toNat : Nat) : Int) := by omega
  rw [e, wrap_u32]
  simp [BitVec.toNat_add]
theorem u_shr (x : BitVec 32) (k : Nat) : u x / 2 ^ k = u (x >>> k) := by
  unfold u
  rw [BitVec.toNat_ushiftRight, Nat.shiftRight_eq_div_pow]
  simp
theorem u_shl (x : BitVec 32) (k : Nat) : IntKind.u32.wrap (u x * 2 ^ k) = u (x <<< k) := by
  unfold u
  have e : (x.toNat : Int) * 2 ^ k = ((x.toNat * 2 ^ k : Nat) : Int) := by simp
  rw [e, wrap_u32, BitVec.toNat_shiftLeft, Nat.shiftLeft_eq]

theorem and31 : ∀ k : Fin 32, 1 ≤ k.val → bits BinOp.and IntKind.u64 (IntKind.u64.wrap (-(k.val : Int))) 31 = ((32 - k.val : Nat) : Int) := by decide +kernel

set_option maxHeartbeats 400000 in
theorem rotl_any (x : BitVec 32) (k : Nat) (hk1 : 1 ≤ k) (hk : k ≤ 31) (w : World) :
    Calls Tryd.prog 84 #[.int .u32 (u x), .int .i64 (-(k : Int))] w fun e w' => e = .returned (.int .u32 (u (rot x k))) ∧ w = w' := by
  obtain ⟨j, hj⟩ : ∃ j : Nat, k + j = 32 := ⟨32 - k, by omega⟩
  have hs0 := and31 ⟨k, by omega⟩ hk1
  simp only at hs0
  have hs : bits BinOp.and IntKind.u64 (IntKind.u64.wrap (-(k : Int))) 31 = (j : Int) := by rw [hs0]; omega
  have e2 : (32 : Int) - (j : Int) = (k : Int) := by omega
  have h1 := u_shl x j
  have h2 := u_shr x k
  have h3 := u_or (x <<< j) (x >>> k)
  have he : rot x k = x >>> k ||| x <<< j := by unfold rot; rw [show 32 - k = j by omega]
  have HE := Lib.hid he
  clear hs0 he
  go_enter Tryd.func84, Tryd.ntmps84
  go_wp2
  go_ret
  refine ⟨?_, rfl⟩
  rw [HE.out, BitVec.or_comm]
  rfl

theorem rotl2 (x : BitVec 32) (w : World) : Calls Tryd.prog 84 #[.int .u32 (u x), .int .i64 (-2)] w fun e w' => e = .returned (.int .u32 (u (rot x 2))) ∧ w = w' := rotl_any x 2 (by omega) (by omega) w
theorem rotl6 (x : BitVec 32) (w : World) : Calls Tryd.prog 84 #[.int .u32 (u x), .int .i64 (-6)] w fun e w' => e = .returned (.int .u32 (u (rot x 6))) ∧ w = w' := rotl_any x 6 (by omega) (by omega) w
theorem rotl7 (x : BitVec 32) (w : World) : Calls Tryd.prog 84 #[.int .u32 (u x), .int .i64 (-7)] w fun e w' => e = .returned (.int .u32 (u (rot x 7))) ∧ w = w' := rotl_any x 7 (by omega) (by omega) w
theorem rotl11 (x : BitVec 32) (w : World) : Calls Tryd.prog 84 #[.int .u32 (u x), .int .i64 (-11)] w fun e w' => e = .returned (.int .u32 (u (rot x 11))) ∧ w = w' := rotl_any x 11 (by omega) (by omega) w
theorem rotl13 (x : BitVec 32) (w : World) : Calls Tryd.prog 84 #[.int .u32 (u x), .int .i64 (-13)] w fun e w' => e = .returned (.int .u32 (u (rot x 13))) ∧ w = w' := rotl_any x 13 (by omega) (by omega) w
theorem rotl17 (x : BitVec 32) (w : World) : Calls Tryd.prog 84 #[.int .u32 (u x), .int .i64 (-17)] w fun e w' => e = .returned (.int .u32 (u (rot x 17))) ∧ w = w' := rotl_any x 17 (by omega) (by omega) w
theorem rotl18 (x : BitVec 32) (w : World) : Calls Tryd.prog 84 #[.int .u32 (u x), .int .i64 (-18)] w fun e w' => e = .returned (.int .u32 (u (rot x 18))) ∧ w = w' := rotl_any x 18 (by omega) (by omega) w
theorem rotl19 (x : BitVec 32) (w : World) : Calls Tryd.prog 84 #[.int .u32 (u x), .int .i64 (-19)] w fun e w' => e = .returned (.int .u32 (u (rot x 19))) ∧ w = w' := rotl_any x 19 (by omega) (by omega) w
theorem rotl22 (x : BitVec 32) (w : World) : Calls Tryd.prog 84 #[.int .u32 (u x), .int .i64 (-22)] w fun e w' => e = .returned (.int .u32 (u (rot x 22))) ∧ w = w' := rotl_any x 22 (by omega) (by omega) w
theorem rotl25 (x : BitVec 32) (w : World) : Calls Tryd.prog 84 #[.int .u32 (u x), .int .i64 (-25)] w fun e w' => e = .returned (.int .u32 (u (rot x 25))) ∧ w = w' := rotl_any x 25 (by omega) (by omega) w

end Go.Proofs.YtfhfmdnimebegaaDoor

/-
  A block that is known whole: its cells, what a store does to it, a variable of several cells read from and written to its middle.
-/
namespace Go.Proofs.YtfhfmdnimebegaaDoor
open Go.RowKit
set_option linter.unusedVariables false
set_option linter.unusedSimpArgs false

/-- Block b holds just these cells, and all of them may be written. -/
def Blk (w : World) (b : Nat) (t : TypeId) (cs : List Value) : Prop := w.heap[b]? = some (.cells cs.toArray t (0, 0))

/-- The list in which the values vs stand from place o on. -/
def splice (cs : List Value) (o : Nat) (vs : List Value) : List Value := cs.take o ++ vs ++ cs.drop (o + vs.length)
theorem splice_length {cs vs : List Value} {o : Nat} (h : o + vs.length ≤ cs.length) : (splice cs o vs).length = cs.length := by
  simp [splice]; omega
theorem splice_nil (cs : List Value) (o : Nat) : splice cs o [] = cs := by simp [splice]
theorem splice_cons {cs vs : List Value} {o : Nat} {v : Value} (h : o < cs.length) : splice (cs.set o v) (o + 1) vs = splice cs o (v :: vs) := by
  have hl : (cs.take o).length = o := by rw [List.length_take]; omega
  have e : cs.set o v = cs.take o ++ (v :: cs.drop (o + 1)) := by rw [List.set_eq_take_append_cons_drop, if_pos h]
  have e1 : (cs.set o v).take (o + 1) = cs.take o ++ [v] := by
    rw [e, List.take_append, List.take_of_length_le (by omega), hl, show o + 1 - o = 1 by omega]
    rfl
  have e2 : (cs.set o v).drop (o + 1 + vs.length) = cs.drop (o + (v :: vs).length) := by
    rw [e, List.drop_append, List.drop_eq_nil_of_le (by omega), hl, show o + 1 + vs.length - o = vs.length + 1 by omega, List.drop_succ_cons, List.drop_drop, List.nil_append, List.length_cons]
    congr 1
    omega
  unfold splice
  rw [e1, e2]
  simp

theorem Blk.lt {w : World} {b : Nat} {t : TypeId} {cs : List Value} (h : Blk w b t cs) : b < w.heap.size := by
  rcases Nat.lt_or_ge b w.heap.size with hl | hl
  · exact hl
  · unfold Blk at h
    rw [Array.getElem?_eq_none hl] at h
    cases h
theorem Blk.cell {w : World} {b : Nat} {t : TypeId} {cs : List Value} (h : Blk w b t cs) {j : Nat} {v : Value} (hj : cs[j]? = some v) : w.cell? ⟨b, j, none⟩ = some v := by
  rw [cell_of_row w b j _ t _ h]
  simpa using hj
theorem Blk.free {w : World} {b : Nat} {t : TypeId} {cs : List Value} (h : Blk w b t cs) (j : Nat) : w.frozen? ⟨b, j, none⟩ = false := frozen_of_row w b j _ t h
theorem Blk.set {w : World} {b : Nat} {t : TypeId} {cs : List Value} (h : Blk w b t cs) (i : Nat) (v : Value) : Blk (w.setCell ⟨b, i, none⟩ v) b t (cs.set i v) := by
  have := heap_setCell_same w b i _ t v h
  unfold Blk
  rw [this]
  simp
theorem Blk.other {w : World} {b : Nat} {t : TypeId} {cs : List Value} (h : Blk w b t cs) {a : Addr} (ha : b ≠ a.block) (v : Value) : Blk (w.setCell a v) b t cs := by
  unfold Blk
  rw [heap_setCell_other w a b v ha]
  exact h
theorem Blk.keep {w w' : World} {b : Nat} {t : TypeId} {cs : List Value} (h : Blk w b t cs) (hb : Below w.heap.size w w') : Blk w' b t cs := by
  unfold Blk
  rw [hb.block b h.lt]
  exact h
theorem Blk.drewN {w : World} {b : Nat} {t : TypeId} {cs : List Value} (h : Blk w b t cs) (q : Nat) : Blk (w.drewN q) b t cs := h
theorem Blk.drew {w : World} {b : Nat} {t : TypeId} {cs : List Value} (h : Blk w b t cs) : Blk w.drew b t cs := h
theorem Blk.alloc {w : World} {b : Nat} {t : TypeId} {cs : List Value} (h : Blk w b t cs) (o : Obj) : Blk (w.alloc o) b t cs := by
  unfold Blk
  rw [Below.heap_alloc w o b h.lt]
  exact h
theorem blk_new (w : World) (t : TypeId) (cs : Array Value) : Blk (w.alloc (.cells cs t)) w.heap.size t cs.toList := by
  unfold Blk
  rw [heap_alloc_new]
theorem blk_new1 (w : World) (o : Obj) (t : TypeId) (cs : Array Value) : Blk ((w.alloc o).alloc (.cells cs t)) (w.heap.size + 1) t cs.toList := by
  have := blk_new (w.alloc o) t cs
  rwa [World.size_alloc] at this
theorem blk_new2 (w : World) (o o' : Obj) (t : TypeId) (cs : Array Value) : Blk (((w.alloc o).alloc o').alloc (.cells cs t)) (w.heap.size + 1 + 1) t cs.toList := by
  have := blk_new ((w.alloc o).alloc o') t cs
  rwa [World.size_alloc, World.size_alloc] at this
theorem Blk.range {w : World} {b : Nat} {t : TypeId} {cs : List Value} (h : Blk w b t cs) (o n : Nat) : w.rangeAt b o ((cs.drop o).take n) := by
  intro j v hj
  rw [List.getElem?_take] at hj
  split at hj
  · rw [List.getElem?_drop] at hj
    exact h.cell hj
  · cases hj
theorem Blk.there {w : World} {b : Nat} {t : TypeId} {cs : List Value} (h : Blk w b t cs) (o n : Nat) (hn : o + n ≤ cs.length) : w.there b o n := by
  intro j hj
  refine ⟨?_, h.free _⟩
  rw [h.cell (List.getElem?_eq_getElem (by omega : o + j < cs.length))]
  rfl
theorem Blk.sets {b : Nat} {t : TypeId} : ∀ (vs : List Value) {w : World} {cs : List Value} (o : Nat), Blk w b t cs → o + vs.length ≤ cs.length → Blk (w.setCells b o vs) b t (splice cs o vs)
  | [], w, cs, o, h, _ => by rw [splice_nil]; exact h
  | v :: vs, w, cs, o, h, hl => by
    rw [List.length_cons] at hl
    have ih := Blk.sets vs (o + 1) (h.set o v) (by rw [List.length_set]; omega)
    rw [splice_cons (by omega)] at ih
    exact ih
theorem Blk.others {b b' : Nat} {t : TypeId} (hne : b ≠ b') : ∀ (vs : List Value) {w : World} {cs : List Value} (o : Nat), Blk w b t cs → Blk (w.setCells b' o vs) b t cs
  | [], w, cs, o, h => h
  | v :: vs, w, cs, o, h => Blk.others hne vs (o + 1) (h.other (a := ⟨b', o, none⟩) hne v)
theorem below_sets {B b : Nat} {w0 : World} (hb : B ≤ b) : ∀ (vs : List Value) {w : World} (o : Nat), Below B w0 w → Below B w0 (w.setCells b o vs)
  | [], w, o, h => h
  | v :: vs, w, o, h => below_sets hb vs (o + 1) (h.setCell hb v)
theorem sets_size (b : Nat) : ∀ (vs : List Value) (w : World) (o : Nat), (w.setCells b o vs).heap.size = w.heap.size
  | [], w, o => rfl
  | v :: vs, w, o => by rw [World.setCells, sets_size b vs]; simp [World.setCell]
theorem below_drew {B : Nat} {a w : World} (h : Below B a w) : Below B a w.drew := ⟨h.os, h.tape, h.output, h.size, h.block⟩
theorem below_drewN {B : Nat} {a w : World} (h : Below B a w) (q : Nat) : Below B a (w.drewN q) := ⟨h.os, h.tape, h.output, h.size, h.block⟩

/-- A result of several cells that lies in a block. -/
theorem Blk.result {w : World} {b : Nat} {t : TypeId} {cs : List Value} (h : Blk w b t cs) {fn : Func} {p : Tmp} {ty : TypeId} {n : Nat} {e : TypeId} (hr : fn.results = #[.cell p ty]) (tmps : Array Value) (hp : tmps.getD p undef = .pointer (some ⟨b, 0, none⟩))
    (hu : Tryd.prog.underlying ty = some (.array n e)) (hi : (Tryd.prog.info? ty).map (·.size) = some cs.length) : (results fn tmps).run Tryd.prog w = .ok (.agg cs.toArray) w :=
  results_cell_row hr tmps w b t cs.toArray (0, 0) (.array n e) hp h hu rfl (by simpa using hi)

/-- A whole block is read. -/
theorem load_blk {w : World} {ops : Array Oper} {rest : List Oper} {o : Oper} {a : Act} {Q : Exit → Act → World → Prop} (hgd : o.guard = none) (ty : TypeId) (x : Operand) (ho : o.op = .load ty x)
    {b : Nat} {t : TypeId} {cs : List Value} (h : Blk w b t cs) (hx : a.eval x = .pointer (some ⟨b, 0, none⟩)) {n m : Nat} {e : TypeId} (hu : Tryd.prog.underlying ty = some (.array n e)) (hi : (Tryd.prog.info? ty).map (·.size) = some m) (hl : cs.length = m)
    (k : wpList Tryd.prog ops Q rest (a.put o.dst (.agg cs.toArray)) w) : wpList Tryd.prog ops Q (o :: rest) a w := by
  subst hl
  have hr := h.range 0 cs.length
  rw [List.drop_zero, List.take_length] at hr
  exact wpList_load_mid hgd ty x ho b 0 hx cs (.array n e) hr hu rfl hi k
/-- What a store into block b leaves as it was. -/
def Only (b : Nat) (w w' : World) : Prop := w'.heap.size = w.heap.size ∧ (∀ (b' : Nat) (t' : TypeId) (cs' : List Value), b' ≠ b → Blk w b' t' cs' → Blk w' b' t' cs') ∧ ∀ (B : Nat) (w0 : World), B ≤ b → Below B w0 w → Below B w0 w'
theorem only_sets (b o : Nat) (w : World) (vs : List Value) : Only b w (w.setCells b o vs) := ⟨sets_size b vs w o, fun _ _ _ hne h => Blk.others hne vs o h, fun _ _ hB h => below_sets hB vs o h⟩
theorem Blk.all {w : World} {b : Nat} {t : TypeId} {cs vs : List Value} (h : Blk w b t cs) (hl : vs.length = cs.length) : Blk (w.setCells b 0 vs) b t vs := by
  have := h.sets vs 0 (by omega)
  have e : splice cs 0 vs = vs := by
    unfold splice
    rw [List.take_zero, List.nil_append, List.drop_eq_nil_of_le (by omega), List.append_nil]
  rwa [e] at this
/-- The same as a run, for a region in which the walk comes to the store by itself. -/
theorem Blk.storeRun {w : World} {b : Nat} {t : TypeId} {cs vs : List Value} (h : Blk w b t cs) (hl : vs.length = cs.length) (h1 : ∀ v ∈ vs, v.oneCell' = true) : (storeCells ⟨b, 0, none⟩ vs).run Tryd.prog w = .ok () (w.setCells b 0 vs) := by
  have ht := h.there 0 vs.length (by omega)
  have := run_storeCells_cells (P := Tryd.prog) b 0 vs 0 w (fun j hj => by simpa using (ht j hj).1) (fun j hj => by simpa using (ht j hj).2) h1
  simpa using this
/-- A whole block is written. -/
theorem store_blk {w : World} {ops : Array Oper} {rest : List Oper} {o : Oper} {a : Act} {Q : Exit → Act → World → Prop} (hgd : o.guard = none) (ty : TypeId) (x y : Operand) (ho : o.op = .store ty x y)
    {b : Nat} {t : TypeId} {cs vs : List Value} (h : Blk w b t cs) (hx : a.eval x = .pointer (some ⟨b, 0, none⟩)) (hy : a.eval y = .agg vs.toArray) {m : Nat} (hi : (Tryd.prog.info? ty).map (·.size) = some m) (hl : vs.length = m) (hl2 : cs.length = m) (h1 : ∀ v ∈ vs, v.oneCell' = true)
    (k : ∀ w', Blk w' b t vs → Only b w w' → wpList Tryd.prog ops Q rest (a.put o.dst undef) w') : wpList Tryd.prog ops Q (o :: rest) a w := by
  subst hl
  refine wpList_store_mid hgd ty x y ho b 0 vs.toArray hx hy (by simpa using h.there 0 vs.length (by omega)) (by simpa using hi) (all_oneCell_toArray h1) (k _ ?_ (only_sets _ _ _ _))
  have := h.sets vs 0 (by omega)
  have e : splice cs 0 vs = vs := by
    unfold splice
    rw [List.take_zero, List.nil_append, List.drop_eq_nil_of_le (by omega), List.append_nil]
  rw [e] at this
  simpa using this

end Go.Proofs.YtfhfmdnimebegaaDoor

/-
  wire.size returns the least number of bytes of every uint64.
-/
namespace Go.Proofs.YtfhfmdnimebegaaDoor
open Go.RowKit

def big : Nat := 18446744073709551616
theorem big_pow : big = 256 ^ 8 := by decide

set_option maxHeartbeats 400000 in
set_option maxRecDepth 100000 in
theorem size_any (m : Nat) (hm : m < big) (w : World) :
    Calls Tryd.prog 56 #[.int .u64 m] w fun e w' => e = .returned (.int .i64 (sz m)) ∧ w = w' := by
  go_enter Tryd.func56, Tryd.ntmps56
  go_wp2
  go_step3
  go_wp2
  go_step3
  go_wp2
  go_loop [0, 3] (fun x k => ∃ m' k' : Nat, x = .int .u64 m' ∧ k = .int .i64 k' ∧ m' < big ∧ k' ≤ 8 ∧ Hid (k' + sz m' = sz m)) (fun x _ => (intOf x).toNat)
  case atStart => exact ⟨m, 0, rfl, rfl, hm, by omega, Lib.hid (by omega)⟩
  case round =>
    obtain ⟨m', k', rfl, rfl, hm', hk', HE⟩ := hrel
    by_cases h0 : m' = 0
    · subst h0
      go_wp2
      go_ret
      have := HE.out
      rw [sz_zero] at this
      exact ⟨by rw [← this]; simp, rfl⟩
    · have hb : ((m' : Int) == 0) = false := by simpa using h0
      go_wp2
      have hs := HE.out
      rw [sz_pos h0] at hs
      have h8 := sz_le 8 m (by rw [← big_pow]; exact hm)
      refine ⟨⟨m' / 256, k' + 1, by simp, by simp, by omega, by omega, Lib.hid (by omega)⟩, ?_⟩
      simp only [intOf]
      omega

end Go.Proofs.YtfhfmdnimebegaaDoor

/-
  wire.Int returns, for every int, a new slice with the bytes of its encoding.
-/
namespace Go.Proofs.YtfhfmdnimebegaaDoor
open Go.RowKit

theorem xor_zero_all : ∀ x : Fin 256, bits BinOp.xor IntKind.u8 (x.val : Int) 0 = x.val := by decide +kernel
theorem xor_ones_all : ∀ x : Fin 256, bits BinOp.xor IntKind.u8 (x.val : Int) 255 = 255 - x.val := by decide +kernel
theorem xor_zero (x : Int) (h0 : 0 ≤ x) (h : x < 256) : bits BinOp.xor IntKind.u8 x 0 = x := by
  have := xor_zero_all ⟨x.toNat, by omega⟩
  simpa [Int.toNat_of_nonneg h0] using this
theorem xor_ones (x : Int) (h0 : 0 ≤ x) (h : x < 256) : bits BinOp.xor IntKind.u8 x 255 = 255 - x := by
  have := xor_ones_all ⟨x.toNat, by omega⟩
  simpa [Int.toNat_of_nonneg h0] using this

/-- What has been written of an encoding when j bytes are still to come. -/
def partP (n j : Nat) : List Nat := (128 + sz n) :: (be (sz n) n).take (sz n - j)
theorem partP_zero (n : Nat) : partP n 0 = (128 + sz n) :: be (sz n) n := by unfold partP; rw [Nat.sub_zero, List.take_of_length_le (by rw [be_length]; omega)]
theorem partP_step {n j : Nat} (h1 : 1 ≤ j) (h2 : j ≤ sz n) : partP n (j - 1) = partP n j ++ [n / 256 ^ (j - 1) % 256] := by unfold partP; rw [be_take h1 h2]; rfl
def partN (n j : Nat) : List Nat := (127 - sz n) :: ((be (sz n) n).map (255 - ·)).take (sz n - j)
theorem partN_zero (n : Nat) : partN n 0 = (127 - sz n) :: (be (sz n) n).map (255 - ·) := by unfold partN; rw [Nat.sub_zero, List.take_of_length_le (by simp [be_length])]
theorem partN_step {n j : Nat} (h1 : 1 ≤ j) (h2 : j ≤ sz n) : partN n (j - 1) = partN n j ++ [255 - n / 256 ^ (j - 1) % 256] := by unfold partN; rw [← List.map_take, ← List.map_take, be_take h1 h2]; simp

set_option maxHeartbeats 400000 in
set_option maxRecDepth 100000 in
theorem int_pos (n : Nat) (hn : n < 9223372036854775808) (w : World) :
    Calls Tryd.prog 38 #[.int .i64 (n : Int)] w (Made w (enc (n : Int))) := by
  obtain ⟨i0, hi, hz0, hz1, hz2⟩ := info_parts u8info
  have hnb : n < big := by unfold big; omega
  have h8 := sz_le 8 n (by rw [← big_pow]; exact hnb)
  have hneg : decide ((n : Int) < 0) = false := by simp
  go_enter Tryd.func38, Tryd.ntmps38
  go_wp2_with fail
  refine (size_any n hnb _).mono ?_
  rintro e w1 ⟨rfl, rfl⟩

  go_wp2_with (at_make; refine wpList_make_own _ rfl _ _ 39 rfl w.heap.size 5 i0 (.int .u8 0) 1 Tryd.underlying39 hi hz0 hz1 _ _ _ (sz n + 1) rfl rfl (by omega) ?b2 ?b3 (Nat.le_refl _) ?_)
  case b2 => rw [hz2]; omega
  case b3 => unfold maxLen; omega
  intro w2 hown2 hg2
  have hO2 : Own w w2 (.slice (some ⟨w.heap.size, 0, none⟩) 0 (sz n + 1)) [] := ⟨hown2, (Below.refl _ _).grown hg2 (Nat.le_refl _) (by simp)⟩
  clear hg2 hown2
  go_wp2_with (at_builtin; refine push_byte (W := w) rfl _ _ rfl [] (128 + sz n) _ rfl hO2 _ rfl ?x1 ?x2 ?_)
  case x1 => omega
  case x2 => simp
  intro v3 w3 hO3
  clear hO2
  go_wp2
  go_loopw [6, 7] (fun v i wr => ∃ j : Nat, j ≤ sz n ∧ i = .int .i64 ((j : Int) - 1) ∧ Own w wr v (partP n j)) (fun _ i _ => (intOf i + 1).toNat)
  case atStart => exact ⟨sz n, by omega, rfl, by unfold partP; simpa using hO3⟩
  case round =>
    obtain ⟨j, hj, rfl, hO⟩ := hrel
    have hlen : (partP n j).length ≤ 70368744177664 := by simp [partP, be_length]; omega
    by_cases h0 : j = 0
    · subst h0
      have hd : decide ((0 : Int) ≤ ((0 : Nat) : Int) - 1) = false := by decide
      go_wp2
      go_ret
      exact made_of (by rw [enc_nat]; simp) (by rw [enc_nat, ← partP_zero]; exact hO)
    · have hd : decide ((0 : Int) ≤ (j : Int) - 1) = true := by simp; omega
      have hx0 : bits BinOp.xor IntKind.u8 ((n : Int) / 2 ^ (8 * (j - 1)) % 256) 0 = (n : Int) / 2 ^ (8 * (j - 1)) % 256 := xor_zero _ (by omega) (by omega)
      go_wp2_with (at_builtin; refine push_byte (W := w) rfl _ _ rfl (partP n j) (n / 256 ^ (j - 1) % 256) _ rfl hO _ rfl ?y1 hlen ?_)
      case y1 => exact dig_cast _ _
      intro v5 w5 hO5
      clear hO hx0 hlen
      go_wp2
      go_roundw
      case rel => exact ⟨j - 1, by omega, by congr 1; omega, by rw [partP_step (by omega) hj]; exact hO5⟩
      case measure => simp [intOf]; omega

theorem not_u64 (n : Nat) (hn : n < 9223372036854775808) : bits BinOp.xor IntKind.u64 IntKind.u64.max (IntKind.u64.wrap (-1 - (n : Int))) = n := by
  have hw : IntKind.u64.wrap (-1 - (n : Int)) = ((18446744073709551615 - n : Nat) : Int) := by
    simp [IntKind.wrap, IntKind.signed, IntKind.bits]; omega
  have hm : IntKind.u64.max = ((18446744073709551615 : Nat) : Int) := by decide
  rw [hw, hm, bits_xor_u64_nat _ _ (by omega) (by omega)]
  have h1 : (BitVec.allOnes 64 ^^^ BitVec.ofNat 64 (18446744073709551615 - n)).toNat = n := by
    rw [BitVec.allOnes_xor, BitVec.toNat_not, BitVec.toNat_ofNat]
    omega
  rw [BitVec.toNat_xor, BitVec.toNat_allOnes, BitVec.toNat_ofNat, Nat.mod_eq_of_lt (by omega)] at h1
  exact_mod_cast h1

set_option maxHeartbeats 400000 in
set_option maxRecDepth 100000 in
theorem int_neg (n : Nat) (hn : n < 9223372036854775808) (w : World) :
    Calls Tryd.prog 38 #[.int .i64 (-1 - (n : Int))] w (Made w (enc (-1 - (n : Int)))) := by
  obtain ⟨i0, hi, hz0, hz1, hz2⟩ := info_parts u8info
  have hnb : n < big := by unfold big; omega
  have h8 := sz_le 8 n (by rw [← big_pow]; exact hnb)
  have hneg : decide (-1 - (n : Int) < 0) = true := by simp; omega
  have hx := not_u64 n hn
  go_enter Tryd.func38, Tryd.ntmps38
  go_wp2_with fail
  refine (size_any n hnb _).mono ?_
  rintro e w1 ⟨rfl, rfl⟩
  clear hx
  go_wp2_with (at_make; refine wpList_make_own _ rfl _ _ 39 rfl w.heap.size 5 i0 (.int .u8 0) 1 Tryd.underlying39 hi hz0 hz1 _ _ _ (sz n + 1) rfl rfl (by omega) ?b2 ?b3 (Nat.le_refl _) ?_)
  case b2 => rw [hz2]; omega
  case b3 => unfold maxLen; omega
  intro w2 hown2 hg2
  have hO2 : Own w w2 (.slice (some ⟨w.heap.size, 0, none⟩) 0 (sz n + 1)) [] := ⟨hown2, (Below.refl _ _).grown hg2 (Nat.le_refl _) (by simp)⟩
  clear hg2 hown2
  go_wp2_with (at_builtin; refine push_byte (W := w) rfl _ _ rfl [] (127 - sz n) _ rfl hO2 _ rfl ?x1 ?x2 ?_)
  case x1 => omega
  case x2 => simp
  intro v3 w3 hO3
  clear hO2
  go_wp2
  go_loopw [6, 7] (fun v i wr => ∃ j : Nat, j ≤ sz n ∧ i = .int .i64 ((j : Int) - 1) ∧ Own w wr v (partN n j)) (fun _ i _ => (intOf i + 1).toNat)
  case atStart => exact ⟨sz n, by omega, rfl, by unfold partN; simpa using hO3⟩
  case round =>
    obtain ⟨j, hj, rfl, hO⟩ := hrel
    have hlen : (partN n j).length ≤ 70368744177664 := by simp [partN, be_length]; omega
    by_cases h0 : j = 0
    · subst h0
      have hd : decide ((0 : Int) ≤ ((0 : Nat) : Int) - 1) = false := by decide
      go_wp2
      go_ret
      exact made_of (by rw [enc_neg]; simp) (by rw [enc_neg, ← partN_zero]; exact hO)
    · have hd : decide ((0 : Int) ≤ (j : Int) - 1) = true := by simp; omega
      have hx0 : bits BinOp.xor IntKind.u8 ((n : Int) / 2 ^ (8 * (j - 1)) % 256) 255 = 255 - (n : Int) / 2 ^ (8 * (j - 1)) % 256 := xor_ones _ (by omega) (by omega)
      go_wp2_with (at_builtin; refine push_byte (W := w) rfl _ _ rfl (partN n j) (255 - n / 256 ^ (j - 1) % 256) _ rfl hO _ rfl ?y1 hlen ?_)
      case y1 => rw [dig_cast]; omega
      intro v5 w5 hO5
      clear hO hx0 hlen
      go_wp2
      go_roundw
      case rel => exact ⟨j - 1, by omega, by congr 1; omega, by rw [partN_step (by omega) hj]; exact hO5⟩
      case measure => simp [intOf]; omega

theorem int_any (n : Int) (h1 : -9223372036854775808 ≤ n) (h2 : n ≤ 9223372036854775807) (w : World) :
    Calls Tryd.prog 38 #[.int .i64 n] w (Made w (enc n)) := by
  rcases Int.lt_or_le n 0 with h | h
  · have e : n = -1 - ((-1 - n).toNat : Int) := by omega
    rw [e]
    exact int_neg _ (by omega) w
  · have e : n = (n.toNat : Int) := by omega
    rw [e]
    exact int_pos _ (by omega) w

end Go.Proofs.YtfhfmdnimebegaaDoor

/-
  wire.Bytes returns, for every string of at most 2^45 bytes, its encoding.
-/
namespace Go.Proofs.YtfhfmdnimebegaaDoor
open Go.RowKit

set_option maxHeartbeats 400000 in
set_option maxRecDepth 100000 in
theorem bytes_any (s : ByteArray) (hs : s.size ≤ 35184372088832) (w : World) :
    Calls Tryd.prog 73 #[.string s] w (Made w (encS (sb s))) := by
  go_enter Tryd.func73, Tryd.ntmps73
  go_wp2_with fail
  refine (int_any _ (by omega) (by omega) _).mono ?_
  rintro e w1 ⟨g, cap, rfl, hO⟩
  have hl := enc_length (s.size : Int) (by omega) (by omega)
  go_wp2_with (refine push_str (W := w) rfl _ _ rfl (enc (s.size : Int)) _ rfl hO s rfl ?x1 ?_)
  case x1 => omega
  intro v2 w2 hO2
  go_wp2
  go_ret
  exact made_of (by unfold encS; simp [enc_ne]) (by unfold encS; rw [sb_length]; exact hO2)

end Go.Proofs.YtfhfmdnimebegaaDoor

/-
  wire.Ints and wire.Strings return the encodings of lists of bounded size.
-/
namespace Go.Proofs.YtfhfmdnimebegaaDoor
open Go.RowKit

def intsV (l : List Int) : List Value := l.map (Value.int .i64)

def strsV (l : List ByteArray) : List Value := l.map Value.string
def sbs (l : List ByteArray) : List (List Nat) := l.map sb
theorem sbs_length (l : List ByteArray) : (sbs l).length = l.length := by simp [sbs]
theorem size_tot (l : List ByteArray) (k : Nat) (h : k < l.length) : l[k].size ≤ tot (sbs l) := by
  rw [← sb_length]
  exact tot_mem _ _ (List.mem_map.2 ⟨_, List.getElem_mem h, rfl⟩)
theorem partT_sbs (l : List ByteArray) (k : Nat) (h : k < l.length) : partT (sbs l) (k + 1) = partT (sbs l) k ++ encS (sb l[k]) := by
  rw [partT_step (sbs l) k (by rw [sbs_length]; exact h)]
  simp [sbs]
theorem encS_lt (s : ByteArray) (h : s.size ≤ 9223372036854775807) : ∀ d ∈ encS (sb s), d < 256 := by
  intro d hd
  unfold encS at hd
  rcases List.mem_append.1 hd with h1 | h1
  · rw [sb_length] at h1
    exact enc_lt _ (by omega) (by omega) d h1
  · exact sb_lt s d h1

end Go.Proofs.YtfhfmdnimebegaaDoor

/-
  Plain mathematics: the digits of a digest and of its checksum; digits of different digests cross.
-/
namespace Go.Proofs.YtfhfmdnimebegaaDoor
set_option linter.unusedVariables false
set_option linter.unusedSimpArgs false

def four (b : Nat) : List Nat := [b / 64, b / 16 % 4, b / 4 % 4, b % 4]
def digs (d : List Nat) : List Nat := d.flatMap four
/-- The checksum: what the digits lack of 3 each. -/
def csum (d : List Nat) : Nat := ((digs d).map (3 - ·)).sum
def digits (d : List Nat) : List Nat := digs d ++ four (csum d)

theorem digs_length (d : List Nat) : (digs d).length = 4 * d.length := by
  induction d with
  | nil => rfl
  | cons b d ih =>
    have e : digs (b :: d) = four b ++ digs d := rfl
    rw [e, List.length_append, ih]
    simp [four]
    omega
theorem digits_length (d : List Nat) (h : d.length = 16) : (digits d).length = 68 := by
  unfold digits
  rw [List.length_append, digs_length, h]
  rfl
theorem digs_cons (b : Nat) (d : List Nat) : digs (b :: d) = four b ++ digs d := rfl
theorem four_lt (b : Nat) (h : b < 256) : ∀ x ∈ four b, x ≤ 3 := by
  intro x hx
  simp only [four, List.mem_cons, List.mem_nil_iff, or_false] at hx
  omega
theorem digs_le (d : List Nat) (h : ∀ b ∈ d, b < 256) : ∀ x ∈ digs d, x ≤ 3 := by
  intro x hx
  obtain ⟨b, hb, hx⟩ := List.mem_flatMap.1 hx
  exact four_lt b (h b hb) x hx
theorem four_inj (a b : Nat) (h : four a = four b) : a = b := by
  simp only [four, List.cons.injEq, and_true] at h
  omega
theorem digs_inj : ∀ a b : List Nat, a.length = b.length → digs a = digs b → a = b
  | [], [], _, _ => rfl
  | x :: a, y :: b, hl, h => by
    rw [digs_cons, digs_cons] at h
    have hh := List.append_inj h rfl
    rw [four_inj x y hh.1, digs_inj a b (by simpa using hl) hh.2]
theorem sum_le (d : List Nat) : ((d.map (3 - ·)).sum) ≤ 3 * d.length := by
  induction d with
  | nil => simp
  | cons x d ih => simp only [List.map_cons, List.sum_cons, List.length_cons]; omega
theorem csum_le (d : List Nat) (h : d.length = 16) : csum d ≤ 192 := by
  have := sum_le (digs d)
  rw [digs_length, h] at this
  exact this
theorem digits_le (d : List Nat) (hl : d.length = 16) (h : ∀ b ∈ d, b < 256) : ∀ x ∈ digits d, x ≤ 3 := by
  intro x hx
  have hc := csum_le d hl
  rcases List.mem_append.1 hx with h1 | h1
  · exact digs_le d h x h1
  · exact four_lt _ (by omega) x h1
/-- Where no digit of the first list is less, its sum of lacks is less, unless the lists are the same. -/
theorem lack_lt : ∀ x y : List Nat, x.length = y.length → (∀ i, x.getD i 0 ≥ y.getD i 0) → (∀ v ∈ x, v ≤ 3) → (x.map (3 - ·)).sum ≤ (y.map (3 - ·)).sum ∧ ((x.map (3 - ·)).sum = (y.map (3 - ·)).sum → x = y)
  | [], [], _, _, _ => ⟨by simp, fun _ => rfl⟩
  | a :: x, b :: y, hl, h, h3 => by
    have h0 := h 0
    have ih := lack_lt x y (by simpa using hl) (fun i => by simpa using h (i + 1)) (fun v hv => h3 v (List.mem_cons_of_mem _ hv))
    have ha := h3 a List.mem_cons_self
    simp only [List.getD_cons_zero] at h0
    simp only [List.map_cons, List.sum_cons]
    refine ⟨by omega, fun e => ?_⟩
    have e1 : a = b := by omega
    rw [e1, ih.2 (by omega)]
theorem four_less (s t : Nat) (h : s < t) : ∃ i, i < 4 ∧ (four s).getD i 0 < (four t).getD i 0 := by
  rcases Nat.lt_or_ge (s / 64) (t / 64) with h1 | h1
  · exact ⟨0, by omega, h1⟩
  rcases Nat.lt_or_ge (s / 16 % 4) (t / 16 % 4) with h2 | h2
  · exact ⟨1, by omega, h2⟩
  rcases Nat.lt_or_ge (s / 4 % 4) (t / 4 % 4) with h3 | h3
  · exact ⟨2, by omega, h3⟩
  rcases Nat.lt_or_ge (s % 4) (t % 4) with h4 | h4
  · exact ⟨3, by omega, h4⟩
  omega
/-- A digit of a is less than that of b at the same place. -/
theorem some_less (a b : List Nat) (ha : a.length = 16) (hb : b.length = 16) (h256 : ∀ v ∈ a, v < 256) (hne : a ≠ b) : ∃ i, i < 68 ∧ (digits a).getD i 0 < (digits b).getD i 0 := by
  by_cases hex : ∃ i, i < 64 ∧ (digs a).getD i 0 < (digs b).getD i 0
  · obtain ⟨i, hi, hlt⟩ := hex
    refine ⟨i, by omega, ?_⟩
    have l1 : i < (digs a).length := by rw [digs_length]; omega
    have l2 : i < (digs b).length := by rw [digs_length]; omega
    unfold digits
    simp only [List.getD_eq_getElem?_getD, List.getElem?_append_left l1, List.getElem?_append_left l2] at hlt ⊢
    exact hlt
  · have hge : ∀ i, (digs a).getD i 0 ≥ (digs b).getD i 0 := by
      intro i
      rcases Nat.lt_or_ge i 64 with hi | hi
      · rcases Nat.lt_or_ge ((digs a).getD i 0) ((digs b).getD i 0) with h1 | h1
        · exact absurd ⟨i, hi, h1⟩ hex
        · exact h1
      · simp only [List.getD_eq_getElem?_getD]
        rw [List.getElem?_eq_none (by rw [digs_length]; omega), List.getElem?_eq_none (by rw [digs_length]; omega)]
        exact Nat.le_refl _
    have hl := lack_lt (digs a) (digs b) (by rw [digs_length, digs_length, ha, hb]) hge (digs_le a h256)
    have hlt : csum a < csum b := by
      rcases Nat.lt_or_eq_of_le hl.1 with h1 | h1
      · exact h1
      · exact absurd (digs_inj a b (by rw [ha, hb]) (hl.2 h1)) hne
    obtain ⟨j, hj, hjl⟩ := four_less _ _ hlt
    refine ⟨64 + j, by omega, ?_⟩
    have l1 : (digs a).length = 64 := by rw [digs_length]; omega
    have l2 : (digs b).length = 64 := by rw [digs_length]; omega
    unfold digits
    simp only [List.getD_eq_getElem?_getD] at hjl ⊢
    rw [List.getElem?_append_right (by omega), List.getElem?_append_right (by omega), l1, l2, show 64 + j - 64 = j by omega]
    exact hjl

end Go.Proofs.YtfhfmdnimebegaaDoor
