/-
  Checked strings: plain mathematics. No program is named here.
-/
import Derived.Test.YtjpiidfoegaenaaDf
namespace Go.Proofs.Ytjpiidfoegaenaa

/-- All characters have a value. -/
def okS (bs : List Nat) : Bool := bs.all fun c => decide (0 ≤ valT c)
/-- The values of the characters, if all have one. -/
def valS (bs : List Nat) : List Int := if okS bs then bs.map valT else []
/-- The weighted sum of values the last of which has the weight 1. -/
def restF : List Int → Int → Int
  | [], s => s
  | v :: l, s => restF l ((s * 3 + v) % 31)
def restT (l : List Int) : Int := restF l 0
/-- What Check answers. -/
def chkS (bs : List Nat) : Int := if bs.length < 2 ∨ okS bs = false then 2 else if 64 < bs.length then 4 else if restT (bs.map valT) ≠ 0 then 9 else 0
/-- The check character's value. -/
def lastN (bs : List Nat) : Nat := ((31 - restT (bs.map valT ++ [0])) % 31).toNat
def addE (bs : List Nat) : Int := if bs.length = 0 ∨ okS bs = false then 2 else if 64 ≤ bs.length then 4 else 0
def addS (bs : List Nat) : List Nat := if addE bs = 0 then bs ++ [(alph[lastN bs]?).getD 0] else []
theorem valF_in : ∀ (l : List Nat) (i c : Nat), valF l i c = -1 ∨ ((i : Int) ≤ valF l i c ∧ valF l i c < (i + l.length : Nat))
  | [], i, c => Or.inl rfl
  | x :: r, i, c => by
    unfold valF
    split
    · right; rw [List.length_cons]; omega
    · rcases valF_in r (i + 1) c with h | h
      · exact Or.inl h
      · right; rw [List.length_cons]; omega
theorem valT_in (c : Nat) : -1 ≤ valT c ∧ valT c ≤ 30 := by
  have := valF_in alph 0 c
  have h : alph.length = 31 := rfl
  unfold valT
  rw [h] at this
  omega
theorem restF_in : ∀ (l : List Int) (s : Int), 0 ≤ s → s < 31 → 0 ≤ restF l s ∧ restF l s < 31
  | [], s, h1, h2 => ⟨h1, h2⟩
  | v :: l, s, h1, h2 => restF_in l _ (Int.emod_nonneg _ (by omega)) (Int.emod_lt_of_pos _ (by omega))
theorem restT_in (l : List Int) : 0 ≤ restT l ∧ restT l < 31 := restF_in l 0 (by omega) (by omega)
theorem lastN_in (bs : List Nat) : lastN bs < 31 := by
  unfold lastN
  have := Int.emod_lt_of_pos (31 - restT (bs.map valT ++ [0])) (show (0 : Int) < 31 by omega)
  omega
theorem valS_len (bs : List Nat) : (valS bs).length = if okS bs then bs.length else 0 := by
  unfold valS
  split <;> simp
theorem valS_in (bs : List Nat) : ∀ x ∈ valS bs, 0 ≤ x ∧ x ≤ 30 := by
  intro x hx
  unfold valS at hx
  split at hx
  · rename_i h
    obtain ⟨c, hc, rfl⟩ := List.mem_map.1 hx
    have h1 := List.all_eq_true.1 h c hc
    have h2 := valT_in c
    have h3 := of_decide_eq_true h1
    omega
  · simp at hx
theorem okS_take_step {bs : List Nat} {k c : Nat} (h : okS (bs.take k) = true) (hc : bs[k]? = some c) (hv : 0 ≤ valT c) : okS (bs.take (k + 1)) = true := by
  unfold okS at *
  rw [List.take_add_one, hc, List.all_append, h]
  simpa using hv
theorem okS_no {bs : List Nat} {c : Nat} (hc : c ∈ bs) (hv : valT c < 0) : okS bs = false := by
  rcases h : okS bs with _ | _
  · rfl
  · have := of_decide_eq_true (List.all_eq_true.1 h c hc); omega
end Go.Proofs.Ytjpiidfoegaenaa
