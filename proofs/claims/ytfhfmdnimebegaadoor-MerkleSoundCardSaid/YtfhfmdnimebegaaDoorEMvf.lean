/-
  Plain mathematics: what Check and CheckRange answer under the root of some leaves is true of these, unless two different texts have the same digest.
  Conditions: the tables of the packages hash and passimref02 lie as the program lays them when the call begins (the card ties them to the text); no other.
-/
import Derived.Test.YtfhfmdnimebegaaDoorEMvd
import Derived.Test.YtfhfmdnimebegaaDoorE7

namespace Go.Proofs.YtfhfmdnimebegaaDoor
set_option linter.unusedVariables false
set_option linter.unusedSimpArgs false

/-- A proof under the root of some leaves shows leaves that stand side by side among them. -/
theorem bound (l lf : List Lf) (hv : validM l = 0) (F S : Int) (sd : List (List Nat)) (hd : Dgts sd) (hu : underM (rootL l) F S lf sd = true) (hZ : NoColl (rootX l 0 [] l.length ++ proofX F S lf sd)) :
    ∃ F' e : Nat, F = F' ∧ S = (l.length : Int) ∧ F' ≤ e ∧ e ≤ l.length ∧ e - F' = lf.length ∧ lf = (l.drop F').take (e - F') ∧ (lf = [] → l = []) := by
  obtain ⟨F', S', rfl, rfl, h1, h2, h3⟩ := under_facts hu
  have hp : proofX (F' : Int) (S' : Int) lf sd = rootX lf F' sd S' := by
    unfold proofX
    rw [if_pos (by omega), Int.toNat_natCast, Int.toNat_natCast]
  rw [hp] at hZ
  have hlv := (valid_zero h3).2.1
  rcases Nat.eq_zero_or_pos S' with h0 | h0
  · subst h0
    obtain rfl : F' = 0 := by omega
    obtain rfl := List.eq_nil_of_length_eq_zero (show lf.length = 0 by omega)
    have hr : rootL l = topD 0 z16 := by
      unfold underM at hu
      rw [if_neg (by rw [h3]; simp), if_pos (show ((0 : Nat) : Int) = 0 from rfl), Bool.and_eq_true] at hu
      exact of_decide_eq_true hu.2
    have hl : l = [] := binds_plain l [] hv rfl hZ (by rw [hr]; rfl)
    subst hl
    exact ⟨0, 0, rfl, rfl, Nat.le_refl _, Nat.le_refl _, rfl, rfl, fun _ => rfl⟩
  · have hne : lf ≠ [] := by
      intro h
      unfold underM at hu
      rw [if_neg (by rw [h3]; omega), if_neg (by omega), if_pos h] at hu
      cases hu
    obtain ⟨⟨D, tx, u, sh⟩, hr⟩ : ∃ r, rowTM lf F' sd 0 S' ([], 0, false) = r := ⟨_, rfl⟩
    have ht := under_tree (rootL l) lf F' S' sd h0 h2 h1 h3 hne hr
    rw [ht, Bool.and_eq_true] at hu
    have hD := of_decide_eq_true hu.2
    obtain ⟨hSl, hx⟩ := bind_root l lf hv (small_of hlv) F' S' sd hd h0 h2 hZ (by rw [hr]; exact hD)
    subst hSl
    refine ⟨F', F' + lf.length, rfl, rfl, by omega, h1, by omega, ?_, fun h => absurd h hne⟩
    apply List.ext_getElem?
    intro i
    rcases Nat.lt_or_ge i lf.length with hi | hi
    · have := hx (F' + i) (by omega) (by omega) (by omega)
      rw [Nat.add_sub_cancel_left] at this
      rw [this, part_get l F' (F' + lf.length) i (by omega)]
    · rw [List.getElem?_eq_none hi, List.getElem?_eq_none]
      rw [List.length_take, List.length_drop]
      omega
/-- Where a key would stand in a part of the leaves. -/
theorem from_cut (ls : List Lf) (F e : Nat) (key : ByteArray) (ho : ordered ls = true) (he : e ≤ ls.length) (hFe : F ≤ e) : fromM ((ls.drop F).take (e - F)) key = min (fromM ls key) e - F := by
  have hlen : ((ls.drop F).take (e - F)).length = e - F := by rw [List.length_take, List.length_drop]; omega
  have hP := from_part ls key ho
  symm
  refine fromM_part (by rw [hlen]; omega) ⟨fun t ht => ?_, fun t g1 g2 => ?_⟩
  · rw [pred_part ls F e t key (by omega)]
    exact hP.1 _ (by omega)
  · rw [hlen] at g2
    rw [pred_part ls F e t key g2]
    exact hP.2 _ (by omega) (by omega)
theorem key_from {ls : List Lf} {j : Nat} {key : ByteArray} (ho : ordered ls = true) (h : keyAt ls j key = true) : j = fromM ls key := by
  have hlt := keyAt_lt h
  have hP := from_part ls key ho
  have hx : ls[j]? = some ls[j] := List.getElem?_eq_getElem hlt
  have he : (ls[j].1.toList == key.toList) = true := by
    unfold keyAt at h
    rw [hx] at h
    exact h
  rcases Nat.lt_trichotomy j (fromM ls key) with h1 | h1 | h1
  · have := sless_ne (pred_false hx (hP.1 j h1))
    rw [this] at he
    cases he
  · exact h1
  · exfalso
    have hy : ls[fromM ls key]? = some (ls[fromM ls key]'(by omega)) := List.getElem?_eq_getElem (by omega)
    have h2 := pred_true hy (hP.2 _ (Nat.le_refl _) (by omega))
    have h3 := ord_lt ls _ j _ _ ho hy hx h1
    rw [sless_eq, eq_of_list he, ← sless_eq] at h3
    rw [h3] at h2
    cases h2
theorem check_sound (l lf : List Lf) (hv : validM l = 0) (key : ByteArray) (F S : Int) (sd : List (List Nat)) (hd : Dgts sd) (hZ : NoColl (rootX l 0 [] l.length ++ proofX F S lf sd)) (h0 : (checkM (rootL l) key F S lf sd).2.2 = 0) : Right l key (checkM (rootL l) key F S lf sd) := by
  obtain ⟨_, _, ho⟩ := valid_zero hv
  unfold checkM at h0 ⊢
  rcases hu : underM (rootL l) F S lf sd with _ | _
  · rw [if_neg (by rw [hu]; simp)] at h0
    exact absurd h0 (by decide)
  · rw [if_pos hu] at h0
    rw [if_pos rfl]
    obtain ⟨F', e, rfl, rfl, hFe, hel, hlen, hlf, hnil⟩ := bound l lf hv F S sd hd hu hZ
    have hfc := from_cut l F' e key ho hel hFe
    have hfl := fromM_le l key
    rw [← hlf] at hfc
    by_cases hk : keyAt lf (fromM lf key) key = true
    · rw [if_pos hk]
      have hi := keyAt_lt hk
      have hkl : keyAt l (F' + fromM lf key) key = true := by
        rw [← keyAt_part l F' e (fromM lf key) key (by omega), ← hlf]
        exact hk
      have hj := key_from ho hkl
      rw [hj] at hkl
      refine ⟨rfl, Or.inl ⟨rfl, ?_, ?_⟩⟩
      · rw [has_at l key ho hkl]; omega
      · rw [has_at l key ho hkl]
        dsimp only
        rw [Int.toNat_natCast, ← hj, ← valAt_part l F' e (fromM lf key) (by omega), ← hlf]
    · rw [if_neg hk] at h0 ⊢
      rcases ha : absentM (F' : Int).toNat (l.length : Int).toNat lf.length (fromM lf key) with _ | _
      · rw [ha] at h0
        exact absurd h0 (by decide)
      · rw [if_pos rfl]
        refine ⟨rfl, Or.inr ⟨rfl, has_not l key ho (fun hkl => ?_), rfl⟩⟩
        have hlt := keyAt_lt hkl
        unfold absentM at ha
        rw [Int.toNat_natCast, Int.toNat_natCast] at ha
        simp only [Bool.or_eq_true, Bool.and_eq_true, decide_eq_true_eq] at ha
        have hin : F' ≤ fromM l key ∧ fromM l key < e := by omega
        apply hk
        rw [hfc, show min (fromM l key) e - F' = fromM l key - F' by omega]
        conv => lhs; rw [hlf]
        rw [keyAt_part l F' e (fromM l key - F') key (by omega), show F' + (fromM l key - F') = fromM l key by omega]
        exact hkl
theorem crange_sound (l lf : List Lf) (hv : validM l = 0) (low hik : ByteArray) (F S : Int) (sd : List (List Nat)) (hd : Dgts sd) (hZ : NoColl (rootX l 0 [] l.length ++ proofX F S lf sd)) (h0 : (crangeM (rootL l) low hik F S lf sd).2 = 0) : (crangeM (rootL l) low hik F S lf sd).1 = insideM l low hik := by
  obtain ⟨_, _, ho⟩ := valid_zero hv
  unfold crangeM at h0 ⊢
  rcases h : sless hik low with _ | _
  · rw [if_neg (by rw [h]; simp)] at h0
    rw [if_neg (by simp)]
    rcases hu : underM (rootL l) F S lf sd with _ | _
    · rw [if_neg (by rw [hu]; simp)] at h0
      exact absurd h0 (by decide)
    · rw [if_pos hu] at h0
      rw [if_pos rfl]
      obtain ⟨F', e, rfl, rfl, hFe, hel, hlen, hlf, hnil⟩ := bound l lf hv F S sd hd hu hZ
      rcases hO : outR low hik (F' : Int).toNat (l.length : Int).toNat lf with _ | _
      · rw [if_neg (by simp)]
        dsimp only
        have g1 := from_cut l F' e low ho hel hFe
        have g2 := from_cut l F' e hik ho hel hFe
        rw [← hlf] at g1 g2
        have h1 := fromM_le l low
        have h2 := fromM_le l hik
        have h3 := from_mono low hik h l
        have hL := from_part l low ho
        have hH := from_part l hik ho
        unfold outR at hO
        rw [Int.toNat_natCast, Int.toNat_natCast, Bool.or_eq_false_iff] at hO
        have hb : F' ≤ fromM l low ∧ fromM l hik ≤ e := by
          rcases Nat.eq_zero_or_pos lf.length with hz | hz
          · have := hnil (List.eq_nil_of_length_eq_zero hz)
            subst this
            rw [List.length_nil] at h1 h2 hel
            omega
          · constructor
            · rcases Nat.eq_zero_or_pos F' with hF | hF
              · omega
              · have hx : l[F']? = some (l[F']'(by omega)) := List.getElem?_eq_getElem (by omega)
                have hk : kAt lf 0 = (l[F']'(by omega)).1 := by
                  have hx0 : lf[0]? = some (l[F']'(by omega)) := by
                    rw [← hx]
                    conv => lhs; rw [hlf]
                    rw [part_get l F' e 0 (by omega), Nat.add_zero]
                  unfold kAt
                  rw [hx0]
                have hs := hO.1
                rw [decide_eq_true hF, Bool.true_and, hk] at hs
                rcases Nat.lt_or_ge F' (fromM l low) with hlt | hge
                · omega
                · have := pred_true hx (hL.2 F' hge (by omega))
                  rw [this] at hs
                  cases hs
            · rcases Nat.lt_or_ge e l.length with hE | hE
              · have hx : l[e - 1]? = some (l[e - 1]'(by omega)) := List.getElem?_eq_getElem (by omega)
                have hk : kAt lf (lf.length - 1) = (l[e - 1]'(by omega)).1 := by
                  have hx0 : lf[lf.length - 1]? = some (l[e - 1]'(by omega)) := by
                    rw [← hx, ← hlen]
                    conv => lhs; rw [hlf]
                    rw [part_get l F' e (e - F' - 1) (by omega), show F' + (e - F' - 1) = e - 1 by omega]
                  unfold kAt
                  rw [hx0]
                have hs := hO.2
                rw [decide_eq_true (by omega), Bool.true_and, hk] at hs
                rcases Nat.lt_or_ge (e - 1) (fromM l hik) with hlt | hge
                · have := pred_false hx (hH.1 (e - 1) hlt)
                  rw [this] at hs
                  cases hs
                · omega
              · omega
        rw [g1, g2, inside_cut l low hik ho h]
        conv => lhs; rw [hlf]
        rw [List.drop_take, List.drop_drop, List.take_take]
        rw [show F' + (min (fromM l low) e - F') = fromM l low by omega, show min (min (fromM l hik) e - F' - (min (fromM l low) e - F')) (e - F' - (min (fromM l low) e - F')) = fromM l hik - fromM l low by omega]
      · rw [if_pos hO] at h0
        exact absurd h0 (by decide)
  · rw [if_pos h] at h0
    exact absurd h0 (by decide)

end Go.Proofs.YtfhfmdnimebegaaDoor
