/-
  Plain mathematics: decoding the encodings of strings and lists gives them back, whatever follows.
  Conditions: the tables of the packages hash and passimref02 lie as the program lays them when the call begins (the card ties them to the text); no other.
-/
import Derived.Test.YtfhfmdnimebegaaDoorEWr

namespace Go.Proofs.YtfhfmdnimebegaaDoor

theorem lenD_enc (k wd : Nat) (t : List Nat) (hk : k ≤ 9223372036854775807) (hw : k ≤ t.length / wd) : lenD (enc (k : Int) ++ t) wd = ((k : Int), (enc (k : Int)).length, 0) := by
  unfold lenD
  rw [dec_enc k (by omega) (by omega) t]
  rw [lenE_ok rfl (by omega)]
  simp only [List.length_append, Nat.add_sub_cancel_left]
  omega
theorem decB_encS (s t : List Nat) (hs : s.length ≤ 9223372036854775807) : decB (encS s ++ t) = (s, (encS s).length, 0) := by
  have h : lenD (encS s ++ t) 1 = ((s.length : Int), (enc (s.length : Int)).length, 0) := by
    unfold encS
    rw [List.append_assoc]
    exact lenD_enc s.length 1 (s ++ t) hs (by simp)
  unfold decB
  rw [h, if_neg (by simp)]
  unfold encS
  rw [List.append_assoc]
  simp

/-- Decoding one element after the other. -/
theorem loopD_enc {α : Type} (f : List Nat → α × Nat × Nat) (g : α → List Nat) (t : List Nat) : ∀ (ys : List α) (pre : List Nat) (xs : List α), (∀ y ∈ ys, ∀ t, f (g y ++ t) = (y, (g y).length, 0)) →
    loopD f (pre ++ (ys.flatMap g ++ t)) ys.length pre.length xs = (xs ++ ys, pre.length + (ys.flatMap g).length, 0)
  | [], pre, xs, _ => by simp [loopD]
  | y :: ys, pre, xs, h => by
    have hy := h y (by simp) (ys.flatMap g ++ t)
    have hd : (pre ++ ((y :: ys).flatMap g ++ t)).drop pre.length = g y ++ (ys.flatMap g ++ t) := by simp
    rw [loopD_ok (x := y) (u := (g y).length) (er := 0) (by simp) (by rw [hd]; exact hy) rfl]
    have ih := loopD_enc f g t ys (pre ++ g y) (xs ++ [y]) (fun z hz => h z (by simp [hz]))
    simp only [List.length_append] at ih
    have e : pre ++ ((y :: ys).flatMap g ++ t) = pre ++ g y ++ (ys.flatMap g ++ t) := by simp
    rw [e]
    simp only [List.length_cons, Nat.add_sub_cancel]
    rw [ih]
    simp [Nat.add_assoc]

theorem listD_enc {α : Type} (f : List Nat → α × Nat × Nat) (g : α → List Nat) (wd : Nat) (ys : List α) (t : List Nat) (hy : ys.length ≤ 9223372036854775807) (hw : ys.length ≤ (ys.flatMap g ++ t).length / wd)
    (h : ∀ y ∈ ys, ∀ t, f (g y ++ t) = (y, (g y).length, 0)) :
    listR (listD f (enc (ys.length : Int) ++ ys.flatMap g ++ t) wd) = (ys, (enc (ys.length : Int) ++ ys.flatMap g).length, 0) := by
  have hl := lenD_enc ys.length wd (ys.flatMap g ++ t) hy hw
  have hd : listD f (enc (ys.length : Int) ++ ys.flatMap g ++ t) wd = (ys, (enc (ys.length : Int)).length + (ys.flatMap g).length, 0) := by
    unfold listD
    rw [List.append_assoc, hl, if_neg (by simp)]
    have := loopD_enc f g t ys (enc (ys.length : Int)) [] h
    simpa using this
  rw [hd]
  simp [listR]

theorem ints_back (l : List Int) (t : List Nat) (hl : l.length ≤ 4398046511104) (hi : ∀ x ∈ l, I64 x) : listR (listD dec (encL l ++ t) 1) = (l, (encL l).length, 0) := by
  have hlen : l.length ≤ (l.flatMap enc).length := by
    clear hl
    induction l with
    | nil => simp
    | cons a l ih =>
      have h1 := enc_length a (hi a (by simp)).1 (hi a (by simp)).2
      have h2 := ih (fun n hn => hi n (by simp [hn]))
      simp only [List.flatMap_cons, List.length_append, List.length_cons]
      omega
  unfold encL
  exact listD_enc dec enc 1 l t (by omega) (by rw [Nat.div_one, List.length_append]; omega) (fun y hy t => dec_enc y (hi y hy).1 (hi y hy).2 t)

end Go.Proofs.YtfhfmdnimebegaaDoor
