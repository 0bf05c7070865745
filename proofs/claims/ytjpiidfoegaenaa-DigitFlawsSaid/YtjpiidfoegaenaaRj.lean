/-
  A region whose order is drawn, by an invariant, inside a fence: each operation is walked once, whatever came up before it.
-/
import Derived.Test.YtjpiidfoegaenaaRi
import Derived.OrdersIn
namespace Go.Proofs.Ytjpiidfoegaenaa
open Go
set_option linter.unusedVariables false
set_option linter.unusedSimpArgs false
section
variable {F : Fence} {n : Nat} {P : Program} {ops : Array Oper} {Q : Exit → Act → World → Prop} {md : Region.Mode}
theorem wpAnyIn_inv {Inv : Array Bool → Act → World → Prop} (hend : ∀ listed a w, Inv listed a w → Region.ready md ops listed = [] → Q .normal a w)
    (hstep : ∀ listed a w i, Inv listed a w → i ∈ Region.ready md ops listed → wpOpIn F n P ops Q i (Inv (listed.setIfInBounds i true)) a w) :
    ∀ (fuel : Nat) (listed : Array Bool) (a : Act) (w : World), unl listed.toList ≤ fuel → Inv listed a w → wpAnyIn F n P md ops Q fuel listed a w
  | 0, listed, a, w, hu, hI => by
    have hr : Region.ready md ops listed = [] := by
      rcases h : Region.ready md ops listed with _ | ⟨j, r⟩
      · rfl
      · exfalso
        have hj := (mem_ready.1 (show j ∈ Region.ready md ops listed by rw [h]; exact List.mem_cons_self)).1
        have := unl_set (get_false hj)
        omega
    exact ⟨hr, hend _ _ _ hI hr⟩
  | fuel + 1, listed, a, w, hu, hI => by
    refine ⟨fun hr => hend _ _ _ hI hr, fun i hi => ?_⟩
    have hj := (mem_ready.1 hi).1
    have hs := unl_set (get_false hj)
    exact wpOpIn_mono (fun a' w' h => wpAnyIn_inv hend hstep fuel _ a' w' (by rw [Array.toList_setIfInBounds]; omega) h) (hstep listed a w i hI hi)
/-- Each operation, walked where the invariant holds and what it waits for has come up. -/
def StepsF (F : Fence) (n : Nat) (P : Program) (md : Region.Mode) (ops : Array Oper) (Q : Exit → Act → World → Prop) (Inv : (Nat → Prop) → Act → World → Prop) : Nat → List Oper → Prop
  | _, [] => True
  | i, o :: r => (∀ (L : Nat → Prop) (a : Act) (w : World), Inv L a w → ¬ L i → (∀ e ∈ o.after, Region.binds md e = true → L e.on) →
      ∀ K : Act → World → Prop, Shut (∀ a' w', Inv (fun j => j = i ∨ L j) a' w' → K a' w') → if Region.wanted o (yielded ops a.tmps) = true then Oper.wpIn F n P o a w K Q else (∀ f, o.about P w a.eval = some f → F.fn f) ∧ K (a.put o.dst undef) w) ∧ StepsF F n P md ops Q Inv (i + 1) r
theorem stepsF_at {Inv : (Nat → Prop) → Act → World → Prop} : ∀ {l : List Oper} {i j : Nat} {o : Oper}, StepsF F n P md ops Q Inv i l → l[j]? = some o →
    ∀ (L : Nat → Prop) (a : Act) (w : World), Inv L a w → ¬ L (i + j) → (∀ e ∈ o.after, Region.binds md e = true → L e.on) →
      ∀ K : Act → World → Prop, Shut (∀ a' w', Inv (fun j' => j' = i + j ∨ L j') a' w' → K a' w') → if Region.wanted o (yielded ops a.tmps) = true then Oper.wpIn F n P o a w K Q else (∀ f, o.about P w a.eval = some f → F.fn f) ∧ K (a.put o.dst undef) w
  | [], i, j, o, h, hj => by simp at hj
  | x :: l, i, 0, o, h, hj => by
    simp at hj
    subst hj
    exact h.1
  | x :: l, i, j + 1, o, h, hj => by
    have := stepsF_at h.2 (j := j) (by simpa using hj)
    rw [show i + 1 + j = i + (j + 1) by omega] at this
    exact this
theorem wpIn_region_inv {id : Nat} {a : Act} {w : World} (hm : P.follows .mixedOrders = true) (Inv : (Nat → Prop) → Act → World → Prop) (hord : orderedB .any ops = true)
    (h0 : Inv (fun j => ops.size ≤ j) a w.drew) (hend : ∀ (L : Nat → Prop) a w, Inv L a w → (∀ i, L i) → Q .normal a w)
    (hs : StepsF F n P .any ops Q Inv 0 ops.toList) : (Code.region id ops true).wpIn F n P Q a w := by
  refine wpIn_region_any hm ?_
  have e0 : (fun j => (Array.replicate ops.size false).getD j true = true) = fun j => ops.size ≤ j := by
    funext j
    apply propext
    rw [Array.getD_eq_getD_getElem?, Array.getElem?_replicate]
    by_cases h : j < ops.size
    · rw [if_pos h]
      constructor
      · intro g; cases g
      · intro g; omega
    · rw [if_neg h]
      constructor
      · intro _; omega
      · intro _; rfl
  refine wpAnyIn_inv (Inv := fun listed a w => listed.size = ops.size ∧ Inv (fun j => listed.getD j true = true) a w) ?_ ?_ ops.size _ a _ ?_ ⟨by simp, by rw [e0]; exact h0⟩
  · intro listed a w hI hr
    exact hend _ a w hI.2 (all_listed hord hr hI.1)
  · intro listed a w i hI hi
    obtain ⟨h1, o, ho, h2⟩ := mem_ready.1 hi
    refine wpOpIn_step ho (fun K hK => ?_)
    have := stepsF_at hs (j := i) (o := o) (by rw [Array.getElem?_toList]; exact ho) (fun j => listed.getD j true = true) a w hI.2 (by rw [Nat.zero_add, h1]; simp) (fun e he hb => by
      have g := h2 e he hb
      rcases Nat.lt_or_ge e.on listed.size with h | h
      · rw [Array.getD_eq_getD_getElem?, Array.getElem?_eq_getElem h] at g ⊢
        exact g
      · rw [Array.getD_eq_getD_getElem?, Array.getElem?_eq_none h]
        rfl) K (fun a' w' h => hK a' w' ⟨by simpa using hI.1, by rw [set_listed]; rw [Nat.zero_add] at h; exact h⟩)
    exact this
  · rw [Array.toList_replicate, unl_rep]
    exact Nat.le_refl _
end
end Go.Proofs.Ytjpiidfoegaenaa
