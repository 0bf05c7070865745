/-
  The reference's Split.
-/
import Derived.Test.YtehkgpefmjfifaaKd
namespace Go.Proofs.Ytehkgpefmjfifaa
open Go.RowKit
set_option linter.unusedVariables false
set_option linter.unusedSimpArgs false

theorem kdAt_end {bs : List Nat} {i : Nat} (h : bs.length ≤ i) : kdAt bs i = 4 := by unfold kdAt; rw [List.getElem?_eq_none h]
theorem run_first {K : Nat → Nat} {n at_ i : Nat} {r : List Tk} (h : Run K n at_ r) (h1 : at_ ≤ i) (hi : i < n) (hb : ∀ j, at_ ≤ j → j < i → K j = 4) (hk : K i ≠ 4) : ∃ e r', r = (i, e, K i) :: r' ∧ Tok1 K n at_ (i, e, K i) ∧ Run K n e r' := by
  rcases r with _ | ⟨⟨a, e, k⟩, r⟩
  · exact absurd (h i h1 hi) hk
  · have ht := h.1
    have g4 : ∀ j, at_ ≤ j → j < a → K j = 4 := ht.2.2.2.1
    have g6 : K a = k := ht.2.2.2.2.2.1
    have g5 : k < 4 := ht.2.2.2.2.1
    have g1 : at_ ≤ a := ht.1
    have e1 : a = i := by
      rcases Nat.lt_trichotomy a i with c | c | c
      · have := hb a g1 c; omega
      · exact c
      · exact absurd (g4 i h1 c) hk
    subst e1
    subst g6
    exact ⟨e, r, rfl, ht, h.2⟩
/-- What the reference has seen up to place i. -/
def RI (bs : List Nat) (i : Nat) (out : List Tk) : Prop :=
  (∃ r at_, toks bs = out ++ r ∧ Run (kdAt bs) bs.length at_ r ∧ at_ ≤ i ∧ (∀ j, at_ ≤ j → j < i → kdAt bs j = 4) ∧ (at_ = i → 0 < i → kdAt bs (i - 1) ≠ kdAt bs i ∨ 2 ≤ kdAt bs (i - 1))) ∨
  (∃ l r a e k at0, out = l ++ [(a, i, k)] ∧ toks bs = l ++ (a, e, k) :: r ∧ Tok1 (kdAt bs) bs.length at0 (a, e, k) ∧ Run (kdAt bs) bs.length e r ∧ a < i ∧ i < e)
theorem ri_zero (bs : List Nat) : RI bs 0 [] := Or.inl ⟨_, 0, rfl, toks_run bs, Nat.le_refl _, fun j h1 h2 => by omega, fun _ h => by omega⟩
theorem ri_all {bs : List Nat} {out : List Tk} (h : RI bs bs.length out) : out = toks bs := by
  rcases h with ⟨r, at_, h1, h2, h3, h4, _⟩ | ⟨l, r, a, e, k, at0, _, _, ht, _, _, hlt⟩
  · have : r = [] := run_end h2 h4
    rw [h1, this, List.append_nil]
  · have : e ≤ bs.length := ht.2.2.1
    omega
theorem ri_blank {bs : List Nat} {i : Nat} {out : List Tk} (h : RI bs i out) (hk : kdAt bs i = 4) : RI bs (i + 1) out := by
  rcases h with ⟨r, at_, h1, h2, h3, h4, _⟩ | ⟨l, r, a, e, k, at0, _, _, ht, _, ha, hlt⟩
  · refine Or.inl ⟨r, at_, h1, h2, by omega, fun j g1 g2 => ?_, fun g => by omega⟩
    rcases Nat.lt_or_ge j i with g | g
    · exact h4 j g1 g
    · obtain rfl : j = i := by omega
      exact hk
  · exfalso
    have ht2 := ht.2.2.2.2
    by_cases c : k < 2
    · have := (ht2.2.2.1 c).1 i (Nat.le_of_lt ha) hlt
      have h5 : k < 4 := ht2.1
      have this : kdAt bs i = k := this
      omega
    · have : e = a + 1 := ht2.2.2.2 (show 2 ≤ k by omega)
      omega
/-- Behind the last byte of a token. -/
theorem ri_close {bs : List Nat} {at0 a e k : Nat} {l r : List Tk} (ht : Tok1 (kdAt bs) bs.length at0 (a, e, k)) (hr : Run (kdAt bs) bs.length e r) (htk : toks bs = l ++ (a, e, k) :: r) : RI bs e (l ++ [(a, e, k)]) := by
  obtain ⟨g1, g2, g3, g4, g5, g6, g7, g8⟩ := ht
  dsimp only at g1 g2 g3 g4 g5 g6 g7 g8
  refine Or.inl ⟨r, e, by rw [htk]; simp, hr, Nat.le_refl _, fun j h1 h2 => by omega, fun _ _ => ?_⟩
  by_cases c : k < 2
  · left
    have h1 := (g7 c).1 (e - 1) (by omega) (by omega)
    rw [h1]
    rcases Nat.eq_or_lt_of_le g3 with h | h
    · rw [kdAt_end (by omega)]; omega
    · exact Ne.symm ((g7 c).2 h)
  · right
    have := g8 (by omega)
    rw [this, Nat.add_sub_cancel, g6]
    omega
/-- A byte begins a token, if it does not go on with the one before. -/
theorem ri_new {bs : List Nat} {i : Nat} {out : List Tk} (h : RI bs i out) (hi : i < bs.length) (hk : kdAt bs i ≠ 4) (hno : ¬ (out ≠ [] ∧ 0 < i ∧ kdAt bs i < 2 ∧ kdAt bs (i - 1) = kdAt bs i)) : RI bs (i + 1) (out ++ [(i, i + 1, kdAt bs i)]) := by
  rcases h with ⟨r, at_, h1, h2, h3, h4, _⟩ | ⟨l, r, a, e, k, at0, ho, _, ht, _, ha, hlt⟩
  · obtain ⟨e, r', e1, ht, hr⟩ := run_first h2 h3 hi h4 hk
    subst e1
    have he : i < e := ht.2.1
    rcases Nat.eq_or_lt_of_le (show i + 1 ≤ e from he) with c | c
    · have := ri_close ht hr h1
      rw [← c] at this
      exact this
    · exact Or.inr ⟨out, r', i, e, kdAt bs i, at_, rfl, h1, ht, hr, by omega, c⟩
  · exfalso
    apply hno
    have ht2 := ht.2.2.2.2
    by_cases c : k < 2
    · have q1 : kdAt bs i = k := (ht2.2.2.1 c).1 i (Nat.le_of_lt ha) hlt
      have q2 : kdAt bs (i - 1) = k := (ht2.2.2.1 c).1 (i - 1) (by show a ≤ i - 1; omega) (by show i - 1 < e; omega)
      exact ⟨by rw [ho]; simp, by omega, by omega, by rw [q1, q2]⟩
    · have : e = a + 1 := ht2.2.2.2 (show 2 ≤ k by omega)
      omega
/-- A byte goes on with the token before. -/
theorem ri_ext {bs : List Nat} {i : Nat} {out : List Tk} (h : RI bs i out) (h1 : 0 < i) (hk2 : kdAt bs i < 2) (hp : kdAt bs (i - 1) = kdAt bs i) : ∃ l a, out = l ++ [(a, i, kdAt bs i)] ∧ RI bs (i + 1) (l ++ [(a, i + 1, kdAt bs i)]) := by
  rcases h with ⟨r, at_, g1, g2, g3, g4, g5⟩ | ⟨l, r, a, e, k, at0, ho, htk, ht, hr, ha, hlt⟩
  · exfalso
    rcases Nat.eq_or_lt_of_le g3 with c | c
    · rcases g5 c h1 with q | q
      · exact q hp
      · omega
    · have := g4 (i - 1) (by omega) (by omega)
      omega
  · have ht2 := ht.2.2.2.2
    have c : k < 2 := by
      apply Classical.byContradiction
      intro c
      have : e = a + 1 := ht2.2.2.2 (show 2 ≤ k by omega)
      omega
    have q1 : kdAt bs i = k := (ht2.2.2.1 c).1 i (Nat.le_of_lt ha) hlt
    refine ⟨l, a, by rw [q1]; exact ho, ?_⟩
    rw [q1]
    rcases Nat.eq_or_lt_of_le (show i + 1 ≤ e from hlt) with d | d
    · rw [d]
      exact ri_close ht hr htk
    · exact Or.inr ⟨l, r, a, e, k, at0, rfl, htk, ht, hr, by omega, d⟩
theorem ri_len {bs : List Nat} {i : Nat} {out : List Tk} (h : RI bs i out) : out.length ≤ (toks bs).length := by
  rcases h with ⟨r, at_, h1, _⟩ | ⟨l, r, a, e, k, at0, ho, htk, _⟩
  · rw [h1, List.length_append]; omega
  · rw [ho, htk]; simp only [List.length_append, List.length_cons, List.length_nil]; omega

theorem clsI_at {s : ByteArray} {i : Nat} (h : i < s.size) : clsI (s[i]'h).toNat = if kdAt (sb s) i = 4 then -1 else (kdAt (sb s) i : Int) := by
  rw [kdAt_sb h]
  rfl
theorem below_row0 {B g : Nat} {W w : World} (h : Below B W w) (hg : B ≤ g) (j : Nat) (v : Value) : Below B W (w.setCell ⟨g, j, none⟩ v) := h.setCell hg v
def RSplitRel (s : ByteArray) (w : World) (v3 v4 : Value) (wr : World) : Prop := ∃ (i : Nat) (out : List Tk), v4 = .int .i64 (i : Int) ∧ i ≤ s.size ∧ OwnR rtE wr w.heap.size v3 out ∧ RI (sb s) i out ∧ Below w.heap.size w wr
/-- What the reference's Split answers. -/
def RSplitV (s : ByteArray) (w : World) (e : Ending) (w' : World) : Prop := ∃ v, e = .returned v ∧ OwnR rtE w' w.heap.size v (toks (sb s)) ∧ Below w.heap.size w w'

set_option maxHeartbeats 8000000 in
set_option maxRecDepth 100000 in
theorem rsplit_any (s : ByteArray) (n : Nat) (hn : s.size = n) (hn6 : n ≤ 1000000000) (w : World) :
    Calls Try.prog 15 #[.string s] w (RSplitV s w) := by
  have HLen := Lib.hid (show (toks (sb s)).length ≤ n from by have := toks_len (sb s); rw [sb_length] at this; omega)
  have HN := Lib.hid hn
  have HCl := Lib.hid (fun (c : Nat) (hc : c < 256) (V : World) => class_any c hc V)
  clear hn
  go_enter Try.func15, Try.ntmps15
  go_wp2
  go_loopw [3, 4] (fun v3 v4 wr => RSplitRel s w v3 v4 wr) (fun _ v _ => n - (intOf v).toNat)
  case atStart => exact ⟨0, [], rfl, Nat.zero_le _, OwnR.nil _ _ _, ri_zero _, Below.refl _ _⟩
  case round =>
    obtain ⟨i, out, rfl, hi, hO, hRI, hB⟩ := hrel
    obtain ⟨q, cap, rfl, hcap, _, _, _⟩ := hO.form
    have hsz := HN.out
    have hlo := ri_len hRI
    have hlo2 : out.length ≤ 1000000000 := by have := HLen.out; omega
    clear hlo
    rcases Nat.lt_or_ge i n with hlt | hge
    · have his : i < s.size := by omega
      obtain ⟨hg, hb⟩ := sb_get his
      have hcl := clsI_at his
      have HR := Lib.hid hRI
      clear hRI hg
      obtain ⟨k, hk⟩ : ∃ k, kdAt (sb s) i = k := ⟨_, rfl⟩
      rw [hk] at hcl
      have hk4 : k ≤ 4 := hk ▸ kdAt_le _ _
      have HK := Lib.hid hk
      clear hk
      have hbl : i < (sb s).length := by rw [sb_length]; exact his
      by_cases h4 : k = 4
      · subst h4
        have HC := Lib.hid (fun (V : World) => (show _ from (hcl.trans (if_pos rfl)) ▸ class_any _ hb V : Calls Try.prog 45 #[.int .u8 ((s[i]'his).toNat : Int)] V fun e w' => e = .returned (.int .i64 (-1)) ∧ w' = V))
        clear hcl
        have HR2 := Lib.hid (ri_blank HR.out HK.out)
        go_wp2_with (go_at_call 45; refine (HC.out _).mono ?_; rintro en w1 ⟨rfl, hw1⟩; rw [hw1]; clear hw1)
        exact ⟨⟨i + 1, out, by go_num, his, hO, HR2.out, hB⟩, by simp [intOf]; omega⟩
      · have HC := Lib.hid (fun (V : World) => (show _ from (hcl.trans (if_neg h4)) ▸ class_any _ hb V : Calls Try.prog 45 #[.int .u8 ((s[i]'his).toNat : Int)] V fun e w' => e = .returned (.int .i64 (k : Int)) ∧ w' = V))
        clear hcl
        obtain ⟨i1, hi1⟩ : ∃ i1, i + 1 = i1 := ⟨_, rfl⟩
        have hi1i : (i : Int) + 1 = (i1 : Int) := by omega
        have H1 := Lib.hid hi1
        clear hi1
        go_upto_region 8 with (go_at_call 45; refine (HC.out _).mono ?_; rintro en w1 ⟨rfl, hw1⟩; rw [hw1]; clear hw1)
        by_cases hext : out ≠ [] ∧ 0 < i ∧ k < 2 ∧ kdAt (sb s) (i - 1) = k
        · obtain ⟨hne, h0, hk2, hpk⟩ := hext
          obtain ⟨l, a, hol, hri⟩ := ri_ext HR.out h0 (by rw [HK.out]; exact hk2) (by rw [HK.out]; exact hpk)
          rw [HK.out] at hol hri
          rw [H1.out] at hri
          have HRI := Lib.hid hri
          obtain ⟨i0, hi0e⟩ : ∃ i0, i = i0 + 1 := ⟨i - 1, by omega⟩
          have his0 : i0 < s.size := by omega
          obtain ⟨_, hb0⟩ := sb_get his0
          have hcl0 := clsI_at his0
          rw [show i - 1 = i0 by omega] at hpk
          rw [hpk, if_neg h4] at hcl0
          have HC0 := Lib.hid (fun (V : World) => (show _ from hcl0 ▸ class_any _ hb0 V : Calls Try.prog 45 #[.int .u8 ((s[i0]'his0).toNat : Int)] V fun e w' => e = .returned (.int .i64 (k : Int)) ∧ w' = V))
          have hsub : (i : Int) - 1 = (i0 : Int) := by omega
          have hlp : 0 < out.length := by rw [hol]; simp
          obtain ⟨m, hm⟩ : ∃ m, l.length = m := ⟨_, rfl⟩
          have hlm : out.length = m + 1 := by rw [hol]; simp [hm]
          have hlmi : (out.length : Int) - 1 = (m : Int) := by omega
          have hml : m < out.length := by omega
          obtain ⟨g, rfl, hBg, hsome, hfree, hput⟩ := hO.put (i := m) (j := 1) (x := (a, i, k)) (y := (a, i1, k)) (u := .int .i64 (i1 : Int)) (by rw [hol, ← hm]; simp) rfl (by decide)
          have hset : out.set m (a, i1, k) = l ++ [(a, i1, k)] := by rw [hol, ← hm]; simp
          rw [hset] at hput
          rw [show rtE.k = 3 from rfl] at hput hsome hfree
          obtain ⟨u0, hu0⟩ := Option.isSome_iff_exists.1 hsome
          have HP := Lib.hid hput
          have hlq : (l ++ [(a, i1, k)]).length = out.length := by rw [hol]; simp
          clear hput hset hol hri hpk hcl0 hm hlm hlq hne hsome hi0e
          go_wp2_with (first
            | (go_at_call 45; refine (HC0.out _).mono ?_; rintro en w1 ⟨rfl, hw1⟩; rw [hw1]; clear hw1))
          exact ⟨⟨i1, _, rfl, by have := H1.out; omega, HP.out, HRI.out, below_row0 hB hBg _ _⟩, by have := H1.out; simp [intOf]; omega⟩
        · have HR2 := Lib.hid (ri_new HR.out hbl (by rw [HK.out]; exact h4) (by rw [HK.out]; exact hext))
          rw [HK.out] at HR2
          rcases Nat.eq_zero_or_pos out.length with hz | hz
          · have hzb : ¬ 0 < out.length := by omega
            clear hext hz
            go_wp2_with (first
              | (at_builtin; refine push_el rtE rfl (.tmp 47) (.tmp 53) rfl out (i, i1, k) _ rfl hO hB.size _ rfl _ rfl (by omega) ?_; intro v4 w4 hO4 hB4 hR4; have hB9 : Below w.heap.size w w4 := hB.trans hB4))
            exact ⟨⟨i1, _, rfl, by have := H1.out; omega, hO4, by have := HR2.out; rw [H1.out] at this; exact this, hB9⟩, by have := H1.out; simp [intOf]; omega⟩
          · rcases Nat.eq_zero_or_pos i with hi0 | hi0
            · have hzb : ¬ 0 < i := by omega
              clear hext hi0
              go_wp2_with (first
                | (at_builtin; refine push_el rtE rfl (.tmp 47) (.tmp 53) rfl out (i, i1, k) _ rfl hO hB.size _ rfl _ rfl (by omega) ?_; intro v4 w4 hO4 hB4 hR4; have hB9 : Below w.heap.size w w4 := hB.trans hB4))
              exact ⟨⟨i1, _, rfl, by have := H1.out; omega, hO4, by have := HR2.out; rw [H1.out] at this; exact this, hB9⟩, by have := H1.out; simp [intOf]; omega⟩
            · by_cases hk2 : k < 2
              · have hpk : kdAt (sb s) (i - 1) ≠ k := fun e => hext ⟨by intro e; rw [e] at hz; simp at hz, hi0, hk2, e⟩
                clear hext
                obtain ⟨i0, hi0e⟩ : ∃ i0, i = i0 + 1 := ⟨i - 1, by omega⟩
                have his0 : i0 < s.size := by omega
                obtain ⟨_, hb0⟩ := sb_get his0
                have hcl0 := clsI_at his0
                have hsub : (i : Int) - 1 = (i0 : Int) := by omega
                have HC0 := Lib.hid (fun (V : World) => class_any _ hb0 V)
                have hne : clsI (s[i0]'his0).toNat ≠ (k : Int) := by
                  rw [hcl0]
                  split
                  · omega
                  · intro e
                    apply hpk
                    rw [hi0e, Nat.add_sub_cancel]
                    omega
                generalize clsI (s[i0]'his0).toNat = z at HC0 hne
                have hzb : (z == (k : Int)) = false := by simp [hne]
                clear hpk hcl0 hi0e hne
                go_wp2_with (first
                  | (go_at_call 45; refine (HC0.out _).mono ?_; rintro en w1 ⟨rfl, hw1⟩; rw [hw1]; clear hw1)
                  | (at_builtin; refine push_el rtE rfl (.tmp 47) (.tmp 53) rfl out (i, i1, k) _ rfl hO hB.size _ rfl _ rfl (by omega) ?_; intro v4 w4 hO4 hB4 hR4; have hB9 : Below w.heap.size w w4 := hB.trans hB4))
                exact ⟨⟨i1, _, rfl, by have := H1.out; omega, hO4, by have := HR2.out; rw [H1.out] at this; exact this, hB9⟩, by have := H1.out; simp [intOf]; omega⟩
              · clear hext
                go_wp2_with (first
                  | (at_builtin; refine push_el rtE rfl (.tmp 47) (.tmp 53) rfl out (i, i1, k) _ rfl hO hB.size _ rfl _ rfl (by omega) ?_; intro v4 w4 hO4 hB4 hR4; have hB9 : Below w.heap.size w w4 := hB.trans hB4))
                exact ⟨⟨i1, _, rfl, by have := H1.out; omega, hO4, by have := HR2.out; rw [H1.out] at this; exact this, hB9⟩, by have := H1.out; simp [intOf]; omega⟩
    · have hlt : ¬ i < n := by omega
      have e : i = (sb s).length := by rw [sb_length]; omega
      have HA := Lib.hid (ri_all (e ▸ hRI))
      clear e
      go_wp2
      go_ret
      exact ⟨_, rfl, by rw [← HA.out]; exact hO, hB⟩

end Go.Proofs.Ytehkgpefmjfifaa
