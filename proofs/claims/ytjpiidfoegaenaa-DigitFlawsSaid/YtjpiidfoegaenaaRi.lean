/-
  A region whose order is drawn, by an invariant: each operation is walked once, whatever came up before it.
-/
import Derived.Deep.RegionHeld
namespace Go.Proofs.Ytjpiidfoegaenaa
open Go
set_option linter.unusedVariables false
set_option linter.unusedSimpArgs false
section
variable {P : Program} {ops : Array Oper} {Q : Exit → Act → World → Prop} {md : Region.Mode}

def unl (l : List Bool) : Nat := (l.filter (!·)).length
theorem unl_set : ∀ {l : List Bool} {i : Nat}, l[i]? = some false → unl (l.set i true) + 1 = unl l
  | [], i, h => by simp at h
  | b :: l, 0, h => by
    simp at h
    subst h
    simp [unl]
  | b :: l, i + 1, h => by
    have ih := unl_set (l := l) (i := i) (by simpa using h)
    unfold unl at *
    rw [List.set_cons_succ, List.filter_cons, List.filter_cons]
    split
    · rw [List.length_cons, List.length_cons]; omega
    · exact ih
theorem unl_rep (n : Nat) : unl (List.replicate n false) = n := by simp [unl]
theorem get_false {l : Array Bool} {i : Nat} (h : l.getD i true = false) : l.toList[i]? = some false := by
  rw [Array.getD_eq_getD_getElem?] at h
  rw [Array.getElem?_toList]
  rcases e : l[i]? with _ | b
  · rw [e] at h; cases h
  · rw [e] at h
    have h : b = false := h
    rw [h]
theorem wpAny_inv {Inv : Array Bool → Act → World → Prop} (hend : ∀ listed a w, Inv listed a w → Region.ready md ops listed = [] → Q .normal a w)
    (hstep : ∀ listed a w i, Inv listed a w → i ∈ Region.ready md ops listed → wpOp P ops Q i (Inv (listed.setIfInBounds i true)) a w) :
    ∀ (fuel : Nat) (listed : Array Bool) (a : Act) (w : World), unl listed.toList ≤ fuel → Inv listed a w → wpAny P md ops Q fuel listed a w
  | 0, listed, a, w, hu, hI => by
    have hr : Region.ready md ops listed = [] := by
      rcases h : Region.ready md ops listed with _ | ⟨j, r⟩
      · rfl
      · exfalso
        have hj := (mem_ready.1 (show j ∈ Region.ready md ops listed by rw [h]; exact List.mem_cons_self)).1
        have := unl_set (get_false hj)
        omega
    exact ⟨hr, hend _ _ _ hI hr⟩
  | fuel + 1, listed, a, w, hu, hI => by
    refine ⟨fun hr => hend _ _ _ hI hr, fun i hi => ?_⟩
    have hj := (mem_ready.1 hi).1
    have hs := unl_set (get_false hj)
    exact wpOp_mono (fun a' w' h => wpAny_inv hend hstep fuel _ a' w' (by rw [Array.toList_setIfInBounds]; omega) h) (hstep listed a w i hI hi)
/-- Every operation waits only for those that stand before it. -/
def orderedB (md : Region.Mode) (ops : Array Oper) : Bool := (List.range ops.size).all fun i => match ops[i]? with | none => true | some o => o.after.toList.all fun e => !Region.binds md e || decide (e.on < i)
theorem ordered_spec (h : orderedB md ops = true) {i : Nat} {o : Oper} (ho : ops[i]? = some o) {e : Edge} (he : e ∈ o.after) (hb : Region.binds md e = true) : e.on < i := by
  unfold orderedB at h
  rw [List.all_eq_true] at h
  have := h i (List.mem_range.2 (Array.getElem?_eq_some_iff.1 ho).1)
  rw [ho] at this
  simp only [List.all_eq_true] at this
  have := this e (Array.mem_toList_iff.2 he)
  rw [hb] at this
  simpa using this
theorem all_listed (h : orderedB md ops = true) {listed : Array Bool} (hr : Region.ready md ops listed = []) (hs : listed.size = ops.size) : ∀ i, listed.getD i true = true := by
  intro i
  induction i using Nat.strongRecOn with
  | ind i ih =>
    rcases hl : listed.getD i true with _ | _
    · exfalso
      have hi : i < listed.size := by
        rcases Nat.lt_or_ge i listed.size with g | g
        · exact g
        · rw [Array.getD_eq_getD_getElem?, Array.getElem?_eq_none g] at hl
          cases hl
      have ho : ops[i]? = some (ops[i]'(by omega)) := Array.getElem?_eq_getElem (by omega)
      have hm : i ∈ Region.ready md ops listed := mem_ready.2 ⟨hl, _, ho, fun e he hb => by
        have h1 := ordered_spec h ho he hb
        have h2 := ih e.on h1
        rw [Array.getD_eq_getD_getElem?, Array.getElem?_eq_getElem (by omega)] at h2 ⊢
        exact h2⟩
      rw [hr] at hm
      cases hm
    · rfl
/-- Each operation, walked where the invariant holds and what it waits for has come up. -/
def Steps (P : Program) (md : Region.Mode) (ops : Array Oper) (Q : Exit → Act → World → Prop) (Inv : (Nat → Prop) → Act → World → Prop) : Nat → List Oper → Prop
  | _, [] => True
  | i, o :: r => (∀ (L : Nat → Prop) (a : Act) (w : World), Inv L a w → ¬ L i → (∀ e ∈ o.after, Region.binds md e = true → L e.on) →
      ∀ K : Act → World → Prop, Shut (∀ a' w', Inv (fun j => j = i ∨ L j) a' w' → K a' w') → if Region.wanted o (yielded ops a.tmps) = true then Oper.wp P o a w K Q else K (a.put o.dst undef) w) ∧ Steps P md ops Q Inv (i + 1) r
theorem steps_at {Inv : (Nat → Prop) → Act → World → Prop} : ∀ {l : List Oper} {i j : Nat} {o : Oper}, Steps P md ops Q Inv i l → l[j]? = some o →
    ∀ (L : Nat → Prop) (a : Act) (w : World), Inv L a w → ¬ L (i + j) → (∀ e ∈ o.after, Region.binds md e = true → L e.on) →
      ∀ K : Act → World → Prop, Shut (∀ a' w', Inv (fun j' => j' = i + j ∨ L j') a' w' → K a' w') → if Region.wanted o (yielded ops a.tmps) = true then Oper.wp P o a w K Q else K (a.put o.dst undef) w
  | [], i, j, o, h, hj => by simp at hj
  | x :: l, i, 0, o, h, hj => by
    simp at hj
    subst hj
    exact h.1
  | x :: l, i, j + 1, o, h, hj => by
    have := steps_at h.2 (j := j) (by simpa using hj)
    rw [show i + 1 + j = i + (j + 1) by omega] at this
    exact this
theorem set_listed (listed : Array Bool) (i : Nat) : (fun j => (listed.setIfInBounds i true).getD j true = true) = fun j => j = i ∨ listed.getD j true = true := by
  funext j
  apply propext
  by_cases h : j = i
  · subst h
    rw [Array.getD_eq_getD_getElem?, Array.getElem?_setIfInBounds_self]
    constructor
    · intro _; exact Or.inl rfl
    · intro _; split <;> rfl
  · rw [getD_set_ne true (fun e => h e.symm)]
    constructor
    · intro g; exact Or.inr g
    · intro g; exact g.resolve_left h
theorem wp_region_inv {id : Nat} {a : Act} {w : World} (hm : P.follows .mixedOrders = true) (Inv : (Nat → Prop) → Act → World → Prop) (hord : orderedB .any ops = true)
    (h0 : Inv (fun j => ops.size ≤ j) a w.drew) (hend : ∀ (L : Nat → Prop) a w, Inv L a w → (∀ i, L i) → Q .normal a w)
    (hs : Steps P .any ops Q Inv 0 ops.toList) : (Code.region id ops true).wp P Q a w := by
  refine wp_region_any hm ?_
  have e0 : (fun j => (Array.replicate ops.size false).getD j true = true) = fun j => ops.size ≤ j := by
    funext j
    apply propext
    rw [Array.getD_eq_getD_getElem?, Array.getElem?_replicate]
    by_cases h : j < ops.size
    · rw [if_pos h]
      constructor
      · intro g; cases g
      · intro g; omega
    · rw [if_neg h]
      constructor
      · intro _; omega
      · intro _; rfl
  refine wpAny_inv (Inv := fun listed a w => listed.size = ops.size ∧ Inv (fun j => listed.getD j true = true) a w) ?_ ?_ ops.size _ a _ ?_ ⟨by simp, by rw [e0]; exact h0⟩
  · intro listed a w hI hr
    exact hend _ a w hI.2 (all_listed hord hr hI.1)
  · intro listed a w i hI hi
    obtain ⟨h1, o, ho, h2⟩ := mem_ready.1 hi
    refine wpOp_step ho (fun K hK => ?_)
    have := steps_at hs (j := i) (o := o) (by rw [Array.getElem?_toList]; exact ho) (fun j => listed.getD j true = true) a w hI.2 (by rw [Nat.zero_add, h1]; simp) (fun e he hb => by
      have g := h2 e he hb
      rcases Nat.lt_or_ge e.on listed.size with h | h
      · rw [Array.getD_eq_getD_getElem?, Array.getElem?_eq_getElem h] at g ⊢
        exact g
      · rw [Array.getD_eq_getD_getElem?, Array.getElem?_eq_none h]
        rfl) K (fun a' w' h => hK a' w' ⟨by simpa using hI.1, by rw [set_listed]; rw [Nat.zero_add] at h; exact h⟩)
    exact this
  · rw [Array.toList_replicate, unl_rep]
    exact Nat.le_refl _
end
end Go.Proofs.Ytjpiidfoegaenaa
