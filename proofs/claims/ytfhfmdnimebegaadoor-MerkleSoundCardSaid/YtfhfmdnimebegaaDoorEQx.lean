/-
  Plain mathematics: different tags or parts have different inputs; when the first bytes of two lists are the same.
  Conditions: the tables of the packages hash and passimref02 lie as the program lays them when the call begins (the card ties them to the text); no other.
-/
import Derived.Test.YtfhfmdnimebegaaDoorEWh
import Derived.Test.YtfhfmdnimebegaaDoorE1

namespace Go.Proofs.YtfhfmdnimebegaaDoor
open Go.RowKit
set_option linter.unusedVariables false
set_option linter.unusedSimpArgs false

theorem encS_inj {s t r1 r2 : List Nat} (hs : s.length ≤ 9223372036854775807) (ht : t.length ≤ 9223372036854775807) (h : encS s ++ r1 = encS t ++ r2) : s = t ∧ r1 = r2 := by
  have e1 := decB_encS s r1 hs
  rw [h, decB_encS t r2 ht] at e1
  have e2 : t = s := congrArg Prod.fst e1
  subst e2
  exact ⟨rfl, List.append_cancel_left h⟩
theorem encS_pos (s : List Nat) : encS s ≠ [] := by
  unfold encS
  simp [enc_ne]
theorem encF_inj : ∀ (p q : List (List Nat)), (∀ s ∈ p, s.length ≤ 9223372036854775807) → (∀ s ∈ q, s.length ≤ 9223372036854775807) → p.flatMap encS = q.flatMap encS → p = q
  | [], [], _, _, _ => rfl
  | [], t :: q, _, _, h => by
    rw [List.flatMap_nil, List.flatMap_cons] at h
    exact absurd (List.append_eq_nil_iff.1 h.symm).1 (encS_pos t)
  | s :: p, [], _, _, h => by
    rw [List.flatMap_nil, List.flatMap_cons] at h
    exact absurd (List.append_eq_nil_iff.1 h).1 (encS_pos s)
  | s :: p, t :: q, hp, hq, h => by
    rw [List.flatMap_cons, List.flatMap_cons] at h
    obtain ⟨e1, e2⟩ := encS_inj (hp s (List.mem_cons_self)) (hq t (List.mem_cons_self)) h
    rw [e1, encF_inj p q (fun x hx => hp x (List.mem_cons_of_mem _ hx)) (fun x hx => hq x (List.mem_cons_of_mem _ hx)) e2]
theorem sbs_inj : ∀ (p q : List ByteArray), sbs p = sbs q → p = q
  | [], [], _ => rfl
  | [], _ :: _, h => by simp [sbs] at h
  | _ :: _, [], h => by simp [sbs] at h
  | a :: p, b :: q, h => by
    unfold sbs at h
    rw [List.map_cons, List.map_cons, List.cons.injEq] at h
    rw [sb_inj h.1, sbs_inj p q h.2]
theorem ofIn_inj (S T : Nat) (p q : List ByteArray) (hp : ∀ s ∈ p, s.size ≤ 1048576) (hq : ∀ s ∈ q, s.size ≤ 1048576) : ofIn S (sbs p) = ofIn T (sbs q) ↔ S = T ∧ p = q := by
  constructor
  · intro h
    unfold ofIn at h
    rw [List.cons.injEq] at h
    refine ⟨h.1, sbs_inj p q (encF_inj _ _ ?_ ?_ h.2)⟩
    · intro s hs
      obtain ⟨x, hx, rfl⟩ := List.mem_map.1 hs
      have := hp x hx
      rw [sb_length]
      omega
    · intro s hs
      obtain ⟨x, hx, rfl⟩ := List.mem_map.1 hs
      have := hq x hx
      rw [sb_length]
      omega
  · rintro ⟨rfl, rfl⟩
    rfl
theorem take_next {α : Type} {p q : List α} {k : Nat} (hp : k < p.length) (hq : k < q.length) : p.take (k + 1) = q.take (k + 1) ↔ p.take k = q.take k ∧ p[k] = q[k] := by
  rw [List.take_add_one, List.take_add_one, List.getElem?_eq_getElem hp, List.getElem?_eq_getElem hq]
  constructor
  · intro h
    have := List.append_inj h (by rw [List.length_take, List.length_take]; omega)
    exact ⟨this.1, by simpa using this.2⟩
  · rintro ⟨h1, h2⟩
    rw [h1, h2]

end Go.Proofs.YtfhfmdnimebegaaDoor
