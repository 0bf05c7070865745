/-
  Greedy of the reference.
-/
import Derived.Test.YtacdjchkilheiaaCd
namespace Go.Proofs.Ytacdjchkilheiaa
open Go.RowKit
set_option linter.unusedVariables false
set_option linter.unusedSimpArgs false

def Rg1 (fr : Nat → Nat → Int) (G : List Int) (n : Nat) (W : World) (v9 v10 : Value) (wr : World) : Prop := ∃ (f : Nat) (acc : List Int), v10 = .int .i64 (f : Int) ∧ f ≤ n ∧ acc.length ≤ f ∧ OwnR intE wr W.heap.size v9 acc ∧ (f < n → acc ++ greedyF fr n (n - f) f f = G) ∧ (¬ f < n → acc = G) ∧ Below W.heap.size W wr
def Rg2 (fr : Nat → Nat → Int) (n f : Nat) (W : World) (v11 : Value) (wr : World) : Prop := ∃ j : Nat, v11 = .int .i64 (j : Int) ∧ f < j ∧ j ≤ n ∧ greedyF fr n (n - f) f f = greedyF fr n (n - j) f j ∧ W = wr

set_option maxHeartbeats 4000000 in
set_option maxRecDepth 100000 in
theorem rgreedy_any (A : Option Addr) (l : List Int) (n c : Nat) (hl : l.length = n) (hn9 : n ≤ 1000000000000) (bl wd : Int) (w : World) (hA : IntsAt w A l) :
    Calls Try.prog 13 #[.slice A n c, .int .i64 bl, .int .i64 wd] w (ListR (greedyA l bl wd).1 (greedyA l bl wd).2 w) := by
  have HEr := Lib.hid (rerror_any A l n c hl hn9 bl wd w hA)
  by_cases he : errT l bl wd = 0
  · have hF := fine_of he
    have HWi := Lib.hid (rwide_any A l n c hl hn9 wd w hA)
    have hG : greedyA l bl wd = if wideT l wd = true then ([], 21) else (greedyT l bl wd, 0) := by unfold greedyA; rw [if_pos he]
    rw [he] at HEr
    rcases hz : wideT l wd with _ | _
    · rw [hz] at HWi hG
      have hG : greedyA l bl wd = (greedyT l bl wd, 0) := hG
      have hT : greedyT l bl wd = greedyF (frT l bl wd) n n 0 0 := by unfold greedyT; rw [hl]
      have h1 : ∀ k, k < n → ¬ frT l bl wd k (k + 1) < 0 := fun k hk => by
        obtain ⟨x, hx⟩ : ∃ x, l[k]? = some x := ⟨_, List.getElem?_eq_getElem (by omega)⟩
        rw [frT_one hx]
        have := narrow hz hx
        omega
      have hn6 : n ≤ 256 := by have := hF.len; omega
      have HFr := Lib.hid (fun (i j : Nat) (hij : i < j) (hj : j ≤ n) (V : World) (h : Below w.heap.size w V) => rfree_any A l n c hl bl wd hF i j hij hj V (hA.keep h))
      have H1 := Lib.hid h1
      have HG := Lib.hid hG
      generalize greedyA l bl wd = r at *
      generalize greedyT l bl wd = G at *
      have HT := Lib.hid hT
      clear hl hF he hz hA hG hT h1
      go_enter Try.func13, Try.ntmps13
      go_wp2_with (first
        | (go_at_call 26; refine HEr.out.mono ?_; rintro en W1 ⟨rfl, rfl⟩)
        | (go_at_call 25; refine HWi.out.mono ?_; rintro en W2 ⟨rfl, rfl⟩))
      go_loopw [9, 10] (fun v9 v10 wr => Rg1 (frT l bl wd) G n w v9 v10 wr) (fun _ v _ => n - (intOf v).toNat)
      case atStart => exact ⟨0, [], rfl, Nat.zero_le _, Nat.le_refl _, OwnR.nil _ _ _, fun _ => HT.out.symm, fun h => by rw [HT.out, show n = 0 by omega]; rfl, Below.refl _ _⟩
      case round =>
        obtain ⟨f, acc, rfl, hf, hal, hO, hY, hN, hB⟩ := hrel
        rcases Nat.lt_or_ge f n with hlt | hge
        · have HY := Lib.hid (hY hlt)
          clear hY hN
          go_wp2
          obtain ⟨wo, rfl⟩ : ∃ wo, wo = wr := ⟨_, rfl⟩
          go_loopw [11] (fun v wr => Rg2 (frT l bl wd) n f wo v wr) (fun v _ => n - (intOf v).toNat)
          case atStart => exact ⟨f + 1, by go_num, by omega, by omega, by (conv => lhs; rw [show n - f = (n - (f + 1)) + 1 by omega]); exact greedyF_no (by have := H1.out f hlt; omega), rfl⟩
          case round =>
            obtain ⟨j, rfl, hfj, hjn, hE, rfl⟩ := hrel
            rcases Nat.lt_or_ge j n with hjl | hjl
            · obtain ⟨j1, hj1⟩ : ∃ j1, j + 1 = j1 := ⟨_, rfl⟩
              have HF1 := Lib.hid (HFr.out f j1 (by omega) (by omega) wo hB)
              have HYes := Lib.hid (fun h : frT l bl wd f j1 < 0 => (show greedyF (frT l bl wd) n (n - f) f f = (j : Int) :: greedyF (frT l bl wd) n (n - j) j j from by
                rw [hE]
                have a1 := greedyF_yes (fr := frT l bl wd) (n := n) (m := n - j1) (f := f) (j := j) (by rw [hj1]; exact h)
                have a2 := greedyF_no (fr := frT l bl wd) (n := n) (m := n - j1) (f := j) (j := j) (by have := H1.out j hjl; omega)
                rw [show n - j = (n - j1) + 1 by omega, a1, a2]))
              have HNo := Lib.hid (fun h : ¬ frT l bl wd f j1 < 0 => (show greedyF (frT l bl wd) n (n - f) f f = greedyF (frT l bl wd) n (n - j1) f j1 from by
                rw [hE]
                have a1 := greedyF_no (fr := frT l bl wd) (n := n) (m := n - j1) (f := f) (j := j) (by rw [hj1]; exact h)
                rw [show n - j = (n - j1) + 1 by omega, a1, hj1]))
              have hjj : (j : Int) + 1 = (j1 : Int) := by omega
              have HJ := Lib.hid hj1
              clear hE hj1
              generalize frT l bl wd f j1 = fr at HF1 HYes HNo
              by_cases hfr : fr < 0
              · have HY2 := Lib.hid (HYes.out hfr)
                clear HYes HNo
                go_wp2_with (first
                  | (go_at_call 35; refine HF1.out.mono ?_; rintro en W5 ⟨rfl, rfl⟩)
                  | (at_builtin; refine push_el intE rfl (.tmp 48) (.tmp 50) rfl acc (j : Int) _ rfl hO hB.size _ rfl _ rfl (by omega) ?_; intro v6 W6 hO6 hB7 hR6))
                exact ⟨⟨j, acc ++ [(j : Int)], rfl, hjn, by rw [List.length_append]; simp; omega, hO6, fun _ => by rw [← HY.out, HY2.out, List.append_assoc]; rfl, fun h => absurd hjl h, hB.trans hB7⟩, by simp [intOf]; omega⟩
              · have HN2 := Lib.hid (HNo.out hfr)
                clear HYes HNo
                go_wp2_with (go_at_call 35; refine HF1.out.mono ?_; rintro en W5 ⟨rfl, rfl⟩)
                exact ⟨⟨j1, rfl, by have := HJ.out; omega, by have := HJ.out; omega, HN2.out, rfl⟩, by have := HJ.out; simp [intOf]; omega⟩
            · obtain rfl : j = n := by omega
              have hjn2 : ¬ j < j := by omega
              have HE := Lib.hid (show acc ++ [(j : Int)] = G from by rw [← HY.out, hE, Nat.sub_self]; unfold greedyF; rw [if_pos (by omega)])
              clear hE
              go_wp2_with (at_builtin; refine push_el intE rfl (.tmp 48) (.tmp 50) rfl acc (j : Int) _ rfl hO hB.size _ rfl _ rfl (by omega) ?_; intro v6 W6 hO6 hB7 hR6)
              exact ⟨⟨j, acc ++ [(j : Int)], rfl, Nat.le_refl _, by rw [List.length_append]; simp; omega, hO6, fun h => absurd h (by omega), fun _ => HE.out, hB.trans hB7⟩, by simp [intOf]; omega⟩
        · obtain rfl : f = n := by omega
          have hlt : ¬ f < f := by omega
          have HE := Lib.hid (hN hlt)
          clear hY hN
          go_wp2
          go_ret2
          exact ⟨_, by rw [HG.out]; rfl, by rw [HG.out, ← HE.out]; exact hO, hB⟩
    · rw [hz] at HWi hG
      have HG := Lib.hid (show greedyA l bl wd = ([], 21) from hG)
      generalize greedyA l bl wd = r at *
      clear hl hF he hz hA hG
      go_enter Try.func13, Try.ntmps13
      go_wp2_with (first
        | (go_at_call 26; refine HEr.out.mono ?_; rintro en W1 ⟨rfl, rfl⟩)
        | (go_at_call 25; refine HWi.out.mono ?_; rintro en W2 ⟨rfl, rfl⟩))
      go_ret2
      exact ⟨_, by rw [HG.out]; rfl, by rw [HG.out]; exact OwnR.nil _ _ _, Below.refl _ _⟩
  · have hG : greedyA l bl wd = ([], errT l bl wd) := by unfold greedyA; rw [if_neg he]
    generalize errT l bl wd = k at *
    generalize greedyA l bl wd = r at *
    have HG := Lib.hid hG
    have hk : (k == 0) = false := by simp; exact he
    clear hl he hA hG
    go_enter Try.func13, Try.ntmps13
    go_wp2_with (go_at_call 26; refine HEr.out.mono ?_; rintro en W1 ⟨rfl, rfl⟩)
    go_ret2
    exact ⟨_, by rw [HG.out]; rfl, by rw [HG.out]; exact OwnR.nil _ _ _, Below.refl _ _⟩
end Go.Proofs.Ytacdjchkilheiaa
