/-
  Sheets of the reference.
-/
import Derived.Test.YtahmpagolmodhaaIk
namespace Go.Proofs.Ytahmpagolmodhaa
open Go.RowKit
set_option linter.unusedVariables false
set_option linter.unusedSimpArgs false

/-- What Sheets answers for a volume that is right. -/
def shsL (p h : Nat) (c : List Int) : List Int := if c.all (inT p h) = true then (shsT p h c).map (fun (k : Nat) => (k : Int)) else []
def shsE (p h : Nat) (c : List Int) : Int := if c.all (inT p h) = true then 0 else 5
def shsK (h : Nat) (c : List Int) (k : Nat) : List Int := ((List.range k).filter (hasT c h)).map (fun (k : Nat) => (k : Int))
theorem shsK_yes {h : Nat} {c : List Int} {k : Nat} (e : hasT c h k = true) : shsK h c (k + 1) = shsK h c k ++ [(k : Int)] := by
  unfold shsK; rw [List.range_succ, List.filter_append, List.map_append, List.filter_cons, if_pos e]; rfl
theorem shsK_no {h : Nat} {c : List Int} {k : Nat} (e : hasT c h k = false) : shsK h c (k + 1) = shsK h c k := by
  unfold shsK; rw [List.range_succ, List.filter_append, List.map_append, List.filter_cons, if_neg (by rw [e]; exact Bool.false_ne_true)]; simp
theorem shsK_len (h : Nat) (c : List Int) (k : Nat) : (shsK h c k).length ≤ k := by
  unfold shsK; rw [List.length_map]; exact Nat.le_trans (List.length_filter_le _ _) (by simp)
def anyT (a b : Int) (c : List Int) (j : Nat) : Bool := (c.take j).any fun x => x == a || x == b
theorem anyT_all {c : List Int} {n : Nat} (hn : c.length = n) (h k : Nat) : anyT ((lfA h k : Nat) : Int) ((lfB h k : Nat) : Int) c n = hasT c h k := by
  unfold anyT hasT
  rw [List.take_of_length_le (by omega)]
  clear hn
  generalize ((lfA h k : Nat) : Int) = a
  generalize ((lfB h k : Nat) : Int) = b
  induction c with
  | nil => rfl
  | cons x c ih =>
    rw [List.any_cons, ih, List.contains_cons, List.contains_cons]
    rw [show (x == a) = (a == x) from BEq.comm, show (x == b) = (b == x) from BEq.comm]
    cases (a == x) <;> cases (b == x) <;> cases (c.contains a) <;> cases (c.contains b) <;> rfl
theorem anyT_next {a b : Int} {c : List Int} {j : Nat} {x : Int} (hx : c[j]? = some x) : anyT a b c (j + 1) = (anyT a b c j || (x == a || x == b)) := by
  unfold anyT; rw [List.take_add_one, hx, Option.toList_some, List.any_append]; simp
set_option maxHeartbeats 2000000 in
set_option maxRecDepth 100000 in
theorem rsheets_bad (p l : Int) (hv : volE p l ≠ 0) (q : Option Addr) (n c : Nat) (w : World) : Calls Try.prog 34 #[.int .i64 p, .int .i64 l, .slice q n c] w (LstR intE [] (volE p l) w) := by
  have C := Lib.hid (rerror_any p l)
  generalize volE p l = v at *
  go_enter Try.func34, Try.ntmps34
  go_wp2_with (first | (go_at_call 39; refine (C.out _).mono ?_; rintro _ w2 ⟨rfl, rfl⟩))
  go_ret2
  exact ⟨_, rfl, OwnR.nil _ _ _, Below.refl _ _⟩
def Rs1 (p h : Nat) (c : List Int) (n : Nat) (w : World) (v : Value) (wr : World) : Prop := ∃ i : Nat, v = .int .i64 (i : Int) ∧ i ≤ n ∧ (∀ x ∈ c.take i, inT p h x = true) ∧ w = wr
def Rs2 (h : Nat) (c : List Int) (T : Nat) (w : World) (v10 v11 : Value) (wr : World) : Prop := ∃ k : Nat, k ≤ T ∧ v11 = .int .i64 (k : Int) ∧ OwnR intE wr w.heap.size v10 (shsK h c k) ∧ Below w.heap.size w wr
def Rs3 (a b : Int) (c : List Int) (n : Nat) (w : World) (v14 v15 : Value) (wr : World) : Prop := ∃ j : Nat, v15 = .int .i64 (j : Int) ∧ j ≤ n ∧ v14 = .bool (anyT a b c j) ∧ w = wr
set_option maxHeartbeats 4000000 in
set_option maxRecDepth 100000 in
theorem rsheets_any (p h : Nat) (hp : p ≤ 999) (h1 : 1 ≤ h) (h8 : h ≤ 8) (c : List Int) (A : Option Addr) (n m : Nat) (hc : c.length = n) (hn6 : n ≤ 9223372036854775807) (hin : ∀ x ∈ c, -9223372036854775808 ≤ x ∧ x ≤ 9223372036854775807) (w : World) (hA : IntsAt w A c) :
    Calls Try.prog 34 #[.int .i64 (p : Int), .int .i64 ((2 * h : Nat) : Int), .slice A n m] w (LstR intE (shsL p h c) (shsE p h c) w) := by
  have hv : volE (p : Int) ((2 * h : Nat) : Int) = 0 := by unfold volE; rw [if_neg (by omega), if_neg (by omega)]
  have C := Lib.hid (rerror_any (p : Int) ((2 * h : Nat) : Int))
  rw [hv] at C
  have G := Lib.hid (rcount_any p h hp h1 h8)
  have D := Lib.hid (fun (x : Int) (hx : x ∈ c) (V : World) => rhas_any p h x hp h1 h8 (hin x hx).1 (hin x hx).2 V)
  have HQ := Lib.hid (fun k : Nat => fun (hk : k ≤ 1000000) => quo_nat k h hk)
  have hq9 := qnT_le p h hp h1 h8
  have h6 := qnT_leaves p h hp h1 h8
  obtain ⟨R, hR⟩ : ∃ R, shsL p h c = R := ⟨_, rfl⟩
  obtain ⟨E, hE⟩ : ∃ E, shsE p h c = E := ⟨_, rfl⟩
  have HBad := Lib.hid (fun (x : Int) (h1 : x ∈ c) (h2 : inT p h x = false) => (show R = [] ∧ E = 5 from by
    have : ¬ c.all (inT p h) = true := by rw [List.all_eq_true]; intro g; have := g x h1; rw [h2] at this; exact Bool.false_ne_true this
    exact ⟨by rw [← hR]; unfold shsL; rw [if_neg this], by rw [← hE]; unfold shsE; rw [if_neg this]⟩))
  have HGood := Lib.hid (fun (g : ∀ x ∈ c, inT p h x = true) => (show R = shsK h c (qnT p h * h) ∧ E = 0 from by
    have : c.all (inT p h) = true := List.all_eq_true.2 g
    exact ⟨by rw [← hR]; unfold shsL; rw [if_pos this]; rfl, by rw [← hE]; unfold shsE; rw [if_pos this]⟩))
  rw [hR, hE]
  obtain ⟨Q, hQ⟩ : ∃ Q, qnT p h = Q := ⟨_, rfl⟩
  obtain ⟨l, hl⟩ : ∃ l, 2 * h = l := ⟨_, rfl⟩
  have e3 : l ≤ 16 := by omega
  have e4 : (l : Int) / 2 = (h : Int) := by omega
  rw [hQ] at G hq9 h6 HGood
  rw [hl] at C G D h6 ⊢
  obtain ⟨T, hT⟩ : ∃ T, Q * h = T := ⟨_, rfl⟩
  obtain ⟨t, ht⟩ : ∃ t, Q * l = t := ⟨_, rfl⟩
  have htT : t = 2 * T := by rw [← ht, ← hT, ← hl, Nat.mul_left_comm]
  have e5 : (Q : Int) * (l : Int) = (t : Int) := by rw [← ht]; exact (Int.natCast_mul Q l).symm
  have e6 : (t : Int) / 2 = (T : Int) := by omega
  have ht6 : t ≤ 600 := by rw [← ht]; exact h6
  have hT6 : T ≤ 300 := by omega
  rw [hT] at HGood
  have HL := Lib.hid hl
  have HC := Lib.hid hc
  clear hv hR hE hQ hl hT ht htT h6 hc hin
  go_enter Try.func34, Try.ntmps34
  go_wp2_with (first | (go_at_call 39; refine (C.out _).mono ?_; rintro _ w2 ⟨rfl, rfl⟩))
  go_loopw [9] (fun v wr => Rs1 p h c n w v wr) (fun v _ => n - (intOf v).toNat)
  case atStart => exact ⟨0, rfl, Nat.zero_le _, fun x hx => by simp at hx, rfl⟩
  case round =>
    obtain ⟨i, rfl, hi, hall, rfl⟩ := hrel
    have HAll := Lib.hid hall
    clear hall
    rcases Nat.lt_or_ge i n with hlt | hge
    · obtain ⟨x, hx⟩ : ∃ x, c[i]? = some x := ⟨_, List.getElem?_eq_getElem (by rw [HC.out]; exact hlt)⟩
      obtain ⟨ad, rfl, _, hcx⟩ := hA (by intro e; rw [e] at hx; simp at hx)
      obtain ⟨hcx, _, _⟩ := hcx i x hx
      have DX := Lib.hid (D.out x (List.mem_of_getElem? hx))
      have HM := Lib.hid (List.mem_of_getElem? hx)
      have HT := Lib.hid (show c.take (i + 1) = c.take i ++ [x] from by rw [List.take_add_one, hx]; rfl)
      clear hx
      rcases hb : inT p h x with _ | _
      · rw [hb] at DX
        have HB := Lib.hid (HBad.out x HM.out hb)
        clear hb
        go_wp2_with (first | (go_at_call 44; refine (DX.out _).mono ?_; rintro _ w2 ⟨rfl, rfl⟩))
        go_ret2
        exact ⟨.slice none 0 0, by rw [HB.out.2]; first | done | rfl, by rw [HB.out.1]; exact OwnR.nil _ _ _, Below.refl _ _⟩
      · rw [hb] at DX
        have HB := Lib.hid hb
        clear hb
        go_wp2_with (first | (go_at_call 44; refine (DX.out _).mono ?_; rintro _ w2 ⟨rfl, rfl⟩))
        exact ⟨⟨i + 1, by go_num, by omega, by rw [HT.out]; intro y hy; rcases List.mem_append.1 hy with g | g; exact HAll.out y g; rw [List.mem_singleton.1 g]; exact HB.out, rfl⟩, by simp [intOf]; omega⟩
    · obtain rfl : i = n := by omega
      have hlt : ¬ i < i := by omega
      have HG := Lib.hid (HGood.out (fun x hx => HAll.out x (by rw [List.take_of_length_le (by rw [HC.out]; exact Nat.le_refl _)]; exact hx)))
      clear HAll HGood HBad D
      go_wp2
      go_loopw [10, 11] (fun v10 v11 wr => Rs2 h c T w v10 v11 wr) (fun _ v _ => T - (intOf v).toNat)
      case atStart => exact ⟨0, Nat.zero_le _, rfl, OwnR.nil _ _ _, Below.refl _ _⟩
      case round =>
        obtain ⟨k, hk, rfl, hO, hB⟩ := hrel
        have hz := hB.size
        rcases Nat.lt_or_ge k T with hkl | hkl
        · have hklz : (k : Int) < (T : Int) := by omega
          have hq1 := HQ.out k (by omega)
          obtain ⟨q, hq⟩ : ∃ q, k / h = q := ⟨_, rfl⟩
          obtain ⟨r, hr⟩ : ∃ r, k % h = r := ⟨_, rfl⟩
          have hqk : q ≤ k := by rw [← hq]; exact Nat.div_le_self _ _
          have hrh : r < h := by rw [← hr]; exact Nat.mod_lt _ (by omega)
          rw [hq] at hq1
          have hr1 : (k : Int) % (h : Int) = (r : Int) := by rw [← hr]; exact (Int.natCast_emod k h).symm
          have ha : lfA h k = q * l + 1 + r := by unfold lfA; rw [hq, hr, HL.out]
          have hb : lfB h k = q * l + l - r := by unfold lfB; rw [hq, hr, HL.out, Nat.succ_mul]
          have HF := Lib.hid (anyT_all HC.out h k)
          obtain ⟨a, hae⟩ : ∃ a, lfA h k = a := ⟨_, rfl⟩
          obtain ⟨b, hbe⟩ : ∃ b, lfB h k = b := ⟨_, rfl⟩
          rw [hae] at ha HF
          rw [hbe] at hb HF
          obtain ⟨u, hu⟩ : ∃ u, q * l = u := ⟨_, rfl⟩
          rw [hu] at ha hb
          have hu6 : u ≤ 10000 := by rw [← hu]; exact Nat.le_trans (Nat.mul_le_mul (show q ≤ 300 by omega) e3) (by omega)
          have f1 : (q : Int) * (l : Int) = (u : Int) := by rw [← hu]; exact (Int.natCast_mul q l).symm
          have hll := HL.out
          have f2 : (u : Int) + 1 + (r : Int) = (a : Int) := by omega
          have f3 : (u : Int) + (l : Int) - (r : Int) = (b : Int) := by omega
          have f4 : a ≤ 20000 := by omega
          have f5 : b ≤ 20000 := by omega
          have hh0 : 1 ≤ h := by omega
          clear hq hr ha hb hae hbe hu hll
          go_wp2_with (first | (go_at_call 33; refine (G.out _).mono ?_; rintro _ w2 ⟨rfl, rfl⟩))
          rw [hq1, hr1]
          clear hq1 hr1
          obtain ⟨wo, rfl⟩ : ∃ wo, wo = wr := ⟨_, rfl⟩
          go_loopw [14, 15] (fun v14 v15 wr => Rs3 (a : Int) (b : Int) c i wo v14 v15 wr) (fun _ v _ => i - (intOf v).toNat)
          case atStart => exact ⟨0, rfl, Nat.zero_le _, rfl, rfl⟩
          case round =>
            obtain ⟨j, rfl, hj, rfl, rfl⟩ := hrel
            rcases Nat.lt_or_ge j i with hjl | hjl
            · have hjlz : (j : Int) < (i : Int) := by omega
              obtain ⟨x, hx⟩ : ∃ x, c[j]? = some x := ⟨_, List.getElem?_eq_getElem (by rw [HC.out]; exact hjl)⟩
              obtain ⟨ad, rfl, hadl, hcx⟩ := hA (by intro e; rw [e] at hx; simp at hx)
              obtain ⟨hcx, _, _⟩ := hcx j x hx
              replace hcx := (hB.cell (by rw [add_block]; exact hadl)).trans hcx
              have HX := Lib.hid (anyT_next (a := (a : Int)) (b := (b : Int)) hx)
              clear hx
              generalize anyT (a : Int) (b : Int) c j = f at HX ⊢
              rcases f with _ | _
              · rcases ha : (x == (a : Int)) with _ | _
                · rcases hb : (x == (b : Int)) with _ | _
                  · rw [ha, hb] at HX
                    go_wp2
                    exact ⟨⟨j + 1, by go_num, by omega, by rw [HX.out]; rfl, rfl⟩, by simp [intOf]; omega⟩
                  · rw [ha, hb] at HX
                    go_wp2
                    exact ⟨⟨j + 1, by go_num, by omega, by rw [HX.out]; rfl, rfl⟩, by simp [intOf]; omega⟩
                · rw [ha] at HX
                  go_wp2
                  exact ⟨⟨j + 1, by go_num, by omega, by rw [HX.out]; rfl, rfl⟩, by simp [intOf]; omega⟩
              · go_wp2
                exact ⟨⟨j + 1, by go_num, by omega, by rw [HX.out]; rfl, rfl⟩, by simp [intOf]; omega⟩
            · obtain rfl : j = i := by omega
              have hjlz : ¬ (j : Int) < (j : Int) := by omega
              have hle : (shsK h c k).length ≤ 1000000000000 := by have := shsK_len h c k; omega
              rcases hfo : hasT c h k with _ | _
              · rw [hfo] at HF
                have HS := Lib.hid (shsK_no hfo)
                have HF2 := HF.out
                clear hfo
                rw [HF2]
                clear HF2
                go_wp2
                exact ⟨⟨k + 1, by omega, by go_num, by rw [HS.out]; exact hO, hB⟩, by simp [intOf]; omega⟩
              · rw [hfo] at HF
                have HS := Lib.hid (shsK_yes hfo)
                have HF2 := HF.out
                clear hfo
                rw [HF2]
                clear HF2
                go_wp2_with (first | (at_builtin; refine push_el intE rfl (.tmp 89) (.tmp 91) rfl (shsK h c k) (k : Int) _ rfl hO hz _ rfl _ rfl hle ?_; intro v6 W6 hO6 hB7 hR6))
                exact ⟨⟨k + 1, by omega, by go_num, by rw [HS.out]; exact hO6, hB.trans hB7⟩, by simp [intOf]; omega⟩
        · obtain rfl : k = T := by omega
          have hklz : ¬ (k : Int) < (k : Int) := by omega
          go_wp2_with (first | (go_at_call 33; refine (G.out _).mono ?_; rintro _ w2 ⟨rfl, rfl⟩))
          go_ret2
          exact ⟨_, by rw [HG.out.2]; first | done | rfl, by rw [HG.out.1]; exact hO, hB⟩
end Go.Proofs.Ytahmpagolmodhaa
