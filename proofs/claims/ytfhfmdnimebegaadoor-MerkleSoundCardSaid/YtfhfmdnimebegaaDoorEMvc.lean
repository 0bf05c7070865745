/-
  Plain mathematics: the texts of a root; leaves with the same root are the same, and what a proof under a root shows are its leaves, unless two different texts have the same digest.
  Conditions: the tables of the packages hash and passimref02 lie as the program lays them when the call begins (the card ties them to the text); no other.
-/
import Derived.Test.YtfhfmdnimebegaaDoorEMva

namespace Go.Proofs.YtfhfmdnimebegaaDoor
set_option linter.unusedVariables false
set_option linter.unusedSimpArgs false

/-- The texts of which a root is made. -/
def rootX (lf : List Lf) (F : Nat) (sd : List (List Nat)) (S : Nat) : List ByteArray :=
  if S = 0 then [strOf (ofIn 4 [enc 0])] else (rowTM lf F sd 0 S ([], 0, false)).2.1 ++ [strOf (ofIn 4 [enc (S : Int), (rowTM lf F sd 0 S ([], 0, false)).1])]
theorem bytes_enc {n : Nat} (hn : n ≤ 1000000) {D : List Nat} (hD : Dgt D) : Bytes [enc (n : Int), D] := by
  intro p hp
  simp at hp
  rcases hp with rfl | rfl
  · exact ⟨enc_lt n (by omega) (by omega), by have := (enc_length n (by omega) (by omega)).2; omega⟩
  · exact ⟨hD.2, by rw [hD.1]; omega⟩
theorem bytes_enc0 : Bytes [enc 0] := by
  intro p hp
  simp at hp
  subst hp
  exact ⟨enc_lt 0 (by omega) (by omega), by have := (enc_length 0 (by omega) (by omega)).2; omega⟩
theorem enc_nat_inj {n m : Nat} (hn : n ≤ 1000000) (hm : m ≤ 1000000) (h : enc (n : Int) = enc (m : Int)) : n = m := by
  have e1 := dec_enc (n : Int) (by omega) (by omega) []
  have e2 := dec_enc (m : Int) (by omega) (by omega) []
  rw [h, e2] at e1
  simp at e1
  omega
theorem rootL_of (l : List Lf) : rootL l = topD l.length (rowM l) := rfl
/-- A proof's tree with the root of the leaves: as many leaves, and those that the proof shows. -/
theorem bind_root (l lf : List Lf) (hv : validM l = 0) (hlf : Small lf) (F S : Nat) (sd : List (List Nat)) (hd : Dgts sd) (hS1 : 1 ≤ S) (hS : S ≤ 4096) (hZ : NoColl (rootX l 0 [] l.length ++ rootX lf F sd S)) (h : topD S (rowTM lf F sd 0 S ([], 0, false)).1 = rootL l) :
    S = l.length ∧ ∀ i, i < S → F ≤ i → i < F + lf.length → lf[i - F]? = l[i]? := by
  obtain ⟨hn4, hfit, _⟩ := valid_zero hv
  have hD := rowTM_dgt lf F sd hd S 0 S [] 0 false (by omega) (by omega)
  have t1 : strOf (ofIn 4 [enc (S : Int), (rowTM lf F sd 0 S ([], 0, false)).1]) ∈ rootX l 0 [] l.length ++ rootX lf F sd S := by
    refine List.mem_append_right _ ?_
    unfold rootX
    rw [if_neg (by omega)]
    exact List.mem_append_right _ (by simp)
  have h2 : ofS 4 [enc (S : Int), (rowTM lf F sd 0 S ([], 0, false)).1] = rootL l := by
    rw [← h]
    unfold topD
    rw [if_neg (by omega)]
  rcases Nat.eq_zero_or_pos l.length with h0 | h0
  · exfalso
    have t2 : strOf (ofIn 4 [enc 0]) ∈ rootX l 0 [] l.length ++ rootX lf F sd S := by
      refine List.mem_append_left _ ?_
      unfold rootX
      rw [if_pos h0]
      simp
    have h3 : rootL l = ofS 4 [enc 0] := by rw [rootL_of, h0]; rfl
    rw [h3] at h2
    have p := (parts_eq hZ 4 4 (by omega) (by omega) _ _ (bytes_enc (by omega) hD) bytes_enc0 t1 t2 h2).2
    simp at p
  · have hE := rowTM_dgt l 0 [] (fun d h => by cases h) l.length 0 l.length [] 0 false (by omega) (by omega)
    have hall := rowTM_all l l.length 0 l.length ([], 0, false) (by omega) h0 (Nat.le_refl _)
    have hall2 : (rowTM l 0 [] 0 l.length ([], 0, false)).1 = rowM l := by rw [hall]; simp
    have t2 : strOf (ofIn 4 [enc (l.length : Int), (rowTM l 0 [] 0 l.length ([], 0, false)).1]) ∈ rootX l 0 [] l.length ++ rootX lf F sd S := by
      refine List.mem_append_left _ ?_
      unfold rootX
      rw [if_neg (by omega)]
      exact List.mem_append_right _ (by simp)
    have h3 : rootL l = ofS 4 [enc (l.length : Int), (rowTM l 0 [] 0 l.length ([], 0, false)).1] := by
      rw [rootL_of, hall2]
      unfold topD
      rw [if_neg (by omega)]
    rw [h3] at h2
    have p := (parts_eq hZ 4 4 (by omega) (by omega) _ _ (bytes_enc (by omega) hD) (bytes_enc (by omega) hE) t1 t2 h2).2
    rw [List.cons.injEq, List.cons.injEq] at p
    have hSn := enc_nat_inj (by omega) (by omega) p.1
    refine ⟨hSn, fun i hi h4 h5 => ?_⟩
    refine bind_row l lf (small_of hfit) hlf F sd hd _ hZ S 0 S [] 0 false [] 0 false (by omega) (by omega) (by omega) (fun t ht => ?_) (fun t ht => ?_) ?_ i (Nat.zero_le _) hi h4 h5
    · refine List.mem_append_right _ ?_
      unfold rootX
      rw [if_neg (by omega)]
      exact List.mem_append_left _ ht
    · refine List.mem_append_left _ ?_
      unfold rootX
      rw [if_neg (by omega)]
      rw [hSn] at ht
      exact List.mem_append_left _ ht
    · rw [p.2.1, hSn]
theorem list_ext {l m : List Lf} (h : l.length = m.length) (he : ∀ i, i < m.length → m[i]? = l[i]?) : l = m := by
  apply List.ext_getElem?
  intro i
  rcases Nat.lt_or_ge i m.length with hi | hi
  · exact (he i hi).symm
  · rw [List.getElem?_eq_none (by omega), List.getElem?_eq_none hi]
/-- Equal roots, equal leaves, unless two different texts have the same digest. -/
theorem binds_plain (l m : List Lf) (hl : validM l = 0) (hm : validM m = 0) (hZ : NoColl (rootX l 0 [] l.length ++ rootX m 0 [] m.length)) (h : rootL l = rootL m) : l = m := by
  obtain ⟨hm4, hfit, _⟩ := valid_zero hm
  rcases Nat.eq_zero_or_pos m.length with h0 | h0
  · have em := List.eq_nil_of_length_eq_zero h0
    subst em
    rcases Nat.eq_zero_or_pos l.length with h1 | h1
    · exact List.eq_nil_of_length_eq_zero h1
    · exfalso
      have hall := rowTM_all l l.length 0 l.length ([], 0, false) (by omega) h1 (Nat.le_refl _)
      have hall2 : (rowTM l 0 [] 0 l.length ([], 0, false)).1 = rowM l := by rw [hall]; simp
      have hE := rowTM_dgt l 0 [] (fun d h => by cases h) l.length 0 l.length [] 0 false (by omega) (by omega)
      have h3 : rootL l = ofS 4 [enc (l.length : Int), (rowTM l 0 [] 0 l.length ([], 0, false)).1] := by
        rw [rootL_of, hall2]
        unfold topD
        rw [if_neg (by omega)]
      have h4 : rootL ([] : List Lf) = ofS 4 [enc 0] := rfl
      rw [h3, h4] at h
      have hl4 := (valid_zero hl).1
      have p := (parts_eq hZ 4 4 (by omega) (by omega) _ _ (bytes_enc (by omega) hE) bytes_enc0 (List.mem_append_left _ (by unfold rootX; rw [if_neg (by omega)]; exact List.mem_append_right _ (by simp))) (List.mem_append_right _ (by unfold rootX; rw [if_pos h0]; simp)) h).2
      simp at p
  · have hall := rowTM_all m m.length 0 m.length ([], 0, false) (by omega) h0 (Nat.le_refl _)
    have hall2 : (rowTM m 0 [] 0 m.length ([], 0, false)).1 = rowM m := by rw [hall]; simp
    obtain ⟨h1, h2⟩ := bind_root l m hl (small_of hfit) 0 m.length [] (fun d h => by cases h) h0 hm4 hZ (by rw [hall2, ← rootL_of, h])
    exact list_ext h1.symm (fun i hi => by have := h2 i hi (Nat.zero_le _) (by omega); rwa [Nat.sub_zero] at this)

end Go.Proofs.YtfhfmdnimebegaaDoor
