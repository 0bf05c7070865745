/-
  token.Valid.
-/
import Derived.Test.YtehkgpefmjfifaaKd
import Derived.Test.YtehkgpefmjfifaaShelf
namespace Go.Proofs.Ytehkgpefmjfifaa
open Go.RowKit
set_option linter.unusedVariables false
set_option linter.unusedSimpArgs false

/-- The library's variable of the package internal/bytealg holds some number. -/
def GM (w : World) : Prop := ∃ m, w.cell? ⟨0, 0, none⟩ = some (.int .i64 m) ∧ 0 < w.heap.size
theorem GM.keep {w w' : World} (h : GM w) (hb : Below w.heap.size w w') : GM w' := by
  obtain ⟨m, hc, hl⟩ := h
  exact ⟨m, (hb.cell (p := ⟨0, 0, none⟩) hl).trans hc, Nat.lt_of_lt_of_le hl hb.size⟩
/-- Two blanks side by side. -/
def twoB : List Nat → Bool
  | x :: y :: r => (x == 32 && y == 32) || twoB (y :: r)
  | _ => false
theorem toNat_eq (b : UInt8) : (b == 32) = (b.toNat == 32) := by
  rcases h : (b.toNat == 32) with _ | _
  · rw [beq_eq_false_iff_ne] at h ⊢
    intro e
    rw [e] at h
    exact h rfl
  · rw [beq_iff_eq] at h ⊢
    exact UInt8.toNat_inj.1 h
theorem two_index : ∀ l : List UInt8, Lib.contains l [32, 32] = twoB (l.map (·.toNat))
  | [] => rfl
  | [b] => by
    show decide (0 ≤ Lib.index [b] [32, 32]) = false
    unfold Lib.index
    rw [if_neg (by simp [List.isPrefixOf])]
    rfl
  | b :: c :: r => by
    have ih := two_index (c :: r)
    unfold Lib.contains at ih ⊢
    show decide (0 ≤ Lib.index (b :: c :: r) [32, 32]) = (b.toNat == 32 && c.toNat == 32 || twoB ((c :: r).map (·.toNat)))
    rw [← ih, ← toNat_eq, ← toNat_eq]
    rw [show Lib.index (b :: c :: r) [32, 32] = if [32, 32].isPrefixOf (b :: c :: r) then 0 else if Lib.index (c :: r) [32, 32] == -1 then -1 else Lib.index (c :: r) [32, 32] + 1 from rfl]
    have hp : [32, 32].isPrefixOf (b :: c :: r) = (b == 32 && c == 32) := by
      simp only [List.isPrefixOf, Bool.and_true]
      rw [Bool.eq_iff_iff]
      simp
      constructor <;> rintro ⟨h1, h2⟩ <;> exact ⟨h1.symm, h2.symm⟩
    rw [hp]
    rcases hb : (b == 32 && c == 32) with _ | _
    · rw [if_neg (by simp), Bool.false_or]
      have hg := Lib.index_ge (c :: r) [32, 32]
      rcases hi : (Lib.index (c :: r) [32, 32] == -1) with _ | _
      · rw [if_neg (by simp)]
        rw [beq_eq_false_iff_ne] at hi
        rw [decide_eq_decide]
        omega
      · rw [if_pos rfl]
        rw [beq_iff_eq] at hi
        rw [hi]
    · rw [if_pos rfl]
      simp
/-- What Valid answers. -/
def validT (bs : List Nat) : Int :=
  if 4096 < bs.length then 4
  else if bs = [] ∨ bs[0]? = some 32 ∨ bs[bs.length - 1]? = some 32 ∨ twoB bs = true then 2
  else if bs.all (fun c => decide (32 ≤ c) && decide (c ≤ 126)) then (if 256 < (toks bs).length then 4 else 0) else 2

/-- What Valid answers of a text whose blanks are right. -/
def charsT (bs : List Nat) : Int := if bs.all (fun c => decide (32 ≤ c) && decide (c ≤ 126)) then (if 256 < (toks bs).length then 4 else 0) else 2
def CharRel (s : ByteArray) (n : Nat) (w : World) (v : Value) (wr : World) : Prop := ∃ i : Nat, i ≤ n ∧ v = .int .i64 (i : Int) ∧ (∀ (j c : Nat), j < i → (sb s)[j]? = some c → 32 ≤ c ∧ c ≤ 126) ∧ wr = w
theorem chars_bad {bs : List Nat} {i c : Nat} (h : bs[i]? = some c) (hc : ¬ (32 ≤ c ∧ c ≤ 126)) : bs.all (fun c => decide (32 ≤ c) && decide (c ≤ 126)) = false := by
  rcases ha : bs.all (fun c => decide (32 ≤ c) && decide (c ≤ 126)) with _ | _
  · rfl
  · have := List.all_eq_true.1 ha c (List.mem_of_getElem? h)
    simp at this
    omega
theorem chars_good {bs : List Nat} (h : ∀ (j c : Nat), bs[j]? = some c → 32 ≤ c ∧ c ≤ 126) : bs.all (fun c => decide (32 ≤ c) && decide (c ≤ 126)) = true := by
  rw [List.all_eq_true]
  intro c hc
  obtain ⟨j, hj⟩ := List.mem_iff_getElem?.1 hc
  have := h j c hj
  simp
  omega
/-- What the loop over the tokens has counted. -/
def ValidRel (s : ByteArray) (w : World) (v4 v5 v6 : Value) (wr : World) : Prop :=
  ∃ (l r : List Tk) (tb : Nat), v4 = .int .i64 (l.length : Int) ∧ l.length ≤ 256 ∧ v5 = .pointer (some ⟨tb, 0, none⟩) ∧ w.heap.size ≤ tb ∧ toks (sb s) = l ++ r ∧ Below w.heap.size w wr ∧ tb < wr.heap.size ∧
    ((v6 = .bool true ∧ ∃ t r', r = t :: r' ∧ Blk wr tb 52 (tkV t) ∧ Run (kdAt (sb s)) s.size t.2.1 r' ∧ t.2.1 ≤ s.size) ∨ (v6 = .bool false ∧ r = []))

set_option maxHeartbeats 4000000 in
set_option maxRecDepth 100000 in
theorem valid_any (s : ByteArray) (n : Nat) (hn : s.size = n) (hn6 : n ≤ 1000000000) (w : World) (hG : GM w) :
    Calls Try.prog 12 #[.string s] w fun e w' => e = .returned (.int .i64 (validT (sb s))) ∧ Below w.heap.size w w' := by
  have HX := Lib.hid (fun (i : Nat) (hi : i ≤ n) (V : World) => next_any s i n hn hn6 hi V)
  have HX0 := Lib.hid (fun (V : World) => (show _ from next_any s 0 n hn hn6 (Nat.zero_le _) V : Calls Try.prog 44 #[.string s, .int .i64 0] V (NextV s 0 V)))
  have HRun := Lib.hid (show Run (kdAt (sb s)) s.size 0 (toks (sb s)) from by have := toks_run (sb s); rwa [sb_length] at this)
  have HN := Lib.hid hn
  have hbl : (sb s).length = n := by rw [sb_length, hn]
  have HBL := Lib.hid hbl
  obtain ⟨m, hm, _⟩ := hG
  have HCo := Lib.hid (fun h => Try.strings_Contains s ⟨#[32, 32]⟩ m w h hm)
  clear hn hm
  by_cases h4 : 4096 < n
  · have hv : validT (sb s) = 4 := by unfold validT; rw [if_pos (by rw [hbl]; exact h4)]
    rw [hv]
    clear hbl hv
    have hsz := HN.out
    go_enter Try.func12, Try.ntmps12
    go_wp2
    go_ret
    exact ⟨rfl, Below.refl _ _⟩
  by_cases h0 : n = 0
  · have hs0 : s = ByteArray.empty := by
      have := HN.out
      rcases s with ⟨⟨l⟩⟩
      simp [ByteArray.size] at this
      rw [h0] at this
      have := List.eq_nil_of_length_eq_zero this
      subst this
      rfl
    have hv : validT (sb s) = 2 := by unfold validT; rw [if_neg (by rw [hbl]; exact h4), if_pos (Or.inl (List.eq_nil_of_length_eq_zero (by omega)))]
    rw [hv]
    clear hv hbl
    subst hs0
    clear HX HX0 HRun HN HBL HCo
    go_enter Try.func12, Try.ntmps12
    go_wp2
    go_ret
    exact ⟨rfl, Below.refl _ _⟩
  have hn0 : 0 < n := by omega
  have his0 : 0 < s.size := by have := HN.out; omega
  obtain ⟨hg0, hb0⟩ := sb_get his0
  have hl1 : n - 1 < s.size := by have := HN.out; omega
  obtain ⟨hg1, hb1⟩ := sb_get hl1
  have hsz := HN.out
  have hn4 : n ≤ 4096 := by omega
  have hsub : (n : Int) - 1 = ((n - 1 : Nat) : Int) := by omega
  have hne : (s.toList == ([] : List UInt8)) = false := by
    rcases h : (s.toList == ([] : List UInt8)) with _ | _
    · rfl
    · exfalso
      rw [beq_iff_eq, Lib.toList_data] at h
      have e : s.data.toList.length = s.size := rfl
      rw [h] at e
      simp at e
      omega
  by_cases c0 : (s[0]'his0).toNat = 32
  · have hv : validT (sb s) = 2 := by unfold validT; rw [if_neg (by rw [hbl]; exact h4), if_pos (Or.inr (Or.inl (by rw [hg0, c0])))]
    rw [hv]
    clear hv hbl hg0 hg1
    have hc0b : (((s[0]'his0).toNat : Int) == 32) = true := by simp [c0]
    clear c0
    go_enter Try.func12, Try.ntmps12
    go_wp2
    go_ret
    exact ⟨rfl, Below.refl _ _⟩
  have hc0b : (((s[0]'his0).toNat : Int) == 32) = false := by simp; omega
  by_cases c1 : (s[n - 1]'hl1).toNat = 32
  · have hv : validT (sb s) = 2 := by unfold validT; rw [if_neg (by rw [hbl]; exact h4), if_pos (Or.inr (Or.inr (Or.inl (by rw [hbl, hg1, c1]))))]
    rw [hv]
    clear hv hbl hg0 hg1
    have hc1b : (((s[n - 1]'hl1).toNat : Int) == 32) = true := by simp [c1]
    clear c0 c1
    go_enter Try.func12, Try.ntmps12
    go_wp2
    go_ret
    exact ⟨rfl, Below.refl _ _⟩
  have hc1b : (((s[n - 1]'hl1).toNat : Int) == 32) = false := by simp; omega
  have hctw := HCo.out (by omega)
  rw [show (⟨#[32, 32]⟩ : ByteArray).data.toList = [32, 32] from rfl, two_index, show s.data.toList.map (·.toNat) = sb s from rfl] at hctw
  by_cases ht : twoB (sb s) = true
  · have hv : validT (sb s) = 2 := by unfold validT; rw [if_neg (by rw [hbl]; exact h4), if_pos (Or.inr (Or.inr (Or.inr ht)))]
    rw [hv]
    clear hv hbl hg0 hg1
    rw [ht] at hctw
    have HCt := Lib.hid hctw
    clear hctw ht c0 c1 HCo
    go_enter Try.func12, Try.ntmps12
    go_wp2_with (go_at_call 43; refine HCt.out.mono ?_; rintro en w1 ⟨rfl, hw1⟩; rw [hw1]; clear hw1)
    go_ret
    exact ⟨rfl, Below.refl _ _⟩
  have htf : twoB (sb s) = false := by simpa using ht
  rw [htf] at hctw
  have HCt := Lib.hid hctw
  have hV : validT (sb s) = charsT (sb s) := by
    unfold validT charsT
    rw [if_neg (by rw [hbl]; exact h4), if_neg]
    rintro (h | h | h | h)
    · rw [h] at hbl; simp at hbl; omega
    · rw [hg0] at h; injection h with h; exact c0 h
    · rw [hbl, hg1] at h; injection h with h; exact c1 h
    · rw [htf] at h; cases h
  rw [hV]
  clear hctw ht htf c0 c1 HCo hg0 hg1 hV
  have h4n : ¬ (4096 : Int) < (n : Int) := by omega
  go_enter Try.func12, Try.ntmps12
  go_upto_region 5 with (go_at_call 43; refine HCt.out.mono ?_; rintro en w1 ⟨rfl, hw1⟩; rw [hw1]; clear hw1)
  clear hc0b hc1b hne hsub HCt hb0 hb1
  go_wp2
  go_loopw [31] (fun v wr => CharRel s n w v wr) (fun v _ => n - (intOf v).toNat)
  case atStart => exact ⟨0, Nat.zero_le _, rfl, fun j c h => by omega, rfl⟩
  case round =>
    obtain ⟨i, hi, rfl, hall, hwr⟩ := hrel
    subst hwr
    have HA := Lib.hid hall
    clear hall
    rcases Nat.lt_or_ge i n with hlt | hge
    · have his : i < s.size := by omega
      obtain ⟨hg, hb⟩ := sb_get his
      by_cases c32 : (s[i]'his).toNat < 32
      · have hV := Lib.hid (chars_bad hg (by omega))
        clear hg
        have hcb : ((s[i]'his).toNat : Int) < 32 := by omega
        go_wp2
        go_ret
        exact ⟨by unfold charsT; rw [if_neg (by rw [hV.out]; simp)]; rfl, Below.refl _ _⟩
      · by_cases c126 : (s[i]'his).toNat ≤ 126
        · have HG := Lib.hid hg
          clear hg
          have hcb : ¬ ((s[i]'his).toNat : Int) < 32 := by omega
          have hcb2 : ¬ (126 : Int) < ((s[i]'his).toNat : Int) := by omega
          go_wp2
          refine ⟨⟨i + 1, by omega, by go_num, fun j c h hc => ?_, rfl⟩, by simp [intOf]; omega⟩
          rcases Nat.lt_or_ge j i with g | g
          · exact HA.out j c g hc
          · obtain rfl : j = i := by omega
            rw [HG.out] at hc
            injection hc with hc
            rw [← hc]
            omega
        · have hV := Lib.hid (chars_bad hg (by omega))
          clear hg
          have hcb : ¬ ((s[i]'his).toNat : Int) < 32 := by omega
          have hcb2 : (126 : Int) < ((s[i]'his).toNat : Int) := by omega
          go_wp2
          go_ret
          exact ⟨by unfold charsT; rw [if_neg (by rw [hV.out]; simp)]; rfl, Below.refl _ _⟩
    · have hlt : ¬ i < n := by omega
      have hV := Lib.hid (chars_good (fun j c hc => HA.out j c (by have := (List.getElem?_eq_some_iff.1 hc).1; rw [HBL.out] at this; omega) hc))
      have HLen := Lib.hid (show (toks (sb s)).length ≤ n from by have := toks_len (sb s); rw [HBL.out] at this; exact this)
      clear hge hi HA
      go_upto_region 12 with (fail)
      go_cut [5, 6] from 45 (fun s5 s6 wx => ValidRel s wr (.int .i64 0) s5 s6 wx)
      case first =>
        go_wp2_with (first
          | (go_at_call 44; refine (HX0.out _).mono ?_; rintro en W2 ⟨hB2, hcase⟩; rcases hcase with ⟨t0, rfl, ht0⟩ | ⟨rfl, ht0⟩)
          | (refine store_blk rfl 52 (.tmp 5) (.tmp 48) rfl (blk_new W2 52 #[.int .i64 0, .int .i64 0, .int .i64 0]) rfl rfl (m := 3) (by kernel_rfl) rfl rfl (by first | exact tkV_one _ | (intro v hv; simp at hv; rcases hv with rfl | rfl | rfl <;> rfl)) ?_; intro W3 K3 O3))
        · go_meet
          have hB3 : Below wr.heap.size wr W3 := link hB2 (O3.2.2 _ _ (Nat.le_refl _) ((Below.refl _ _).alloc (Nat.le_refl _) _))
          obtain ⟨r', e, hr'⟩ := run_head HRun.out ht0
          exact ⟨[], _, W2.heap.size, rfl, by decide, rfl, hB2.size, rfl, hB3, K3.lt, Or.inl ⟨rfl, t0, r', e, K3, hr', ht0.2.2.1⟩⟩
        · go_meet
          have hB3 : Below wr.heap.size wr W3 := link hB2 (O3.2.2 _ _ (Nat.le_refl _) ((Below.refl _ _).alloc (Nat.le_refl _) _))
          exact ⟨[], _, W2.heap.size, rfl, by decide, rfl, hB2.size, rfl, hB3, K3.lt, Or.inr ⟨rfl, run_end HRun.out ht0⟩⟩
      case rest =>
        obtain ⟨wo, rfl⟩ : ∃ wo : World, wo = wr := ⟨_, rfl⟩
        go_wp2
        go_loopw [4, 5, 6] (fun v4 v5 v6 wx => ValidRel s wo v4 v5 v6 wx) (fun v4 _ _ _ => n - (intOf v4).toNat)
        case atStart => exact hcut
        case round =>
          obtain ⟨l, r, tb, rfl, hl256, rfl, htb, htk, hB, hlt2, hcase⟩ := hrel
          rcases hcase with ⟨rfl, t, r', rfl, hK, hr', hle⟩ | ⟨rfl, rfl⟩
          · have hll : l.length + r'.length + 1 ≤ n := by
              have := HLen.out
              rw [htk, List.length_append, List.length_cons] at this
              omega
            have HT := Lib.hid htk
            have HR := Lib.hid hr'
            clear htk hr'
            obtain ⟨ta, te, tk⟩ := t
            replace hK : Blk wr tb 52 [.int .i64 (ta : Int), .int .i64 (te : Int), .int .i64 (tk : Int)] := hK
            have hle : te ≤ n := by have h : te ≤ s.size := hle; omega
            obtain ⟨m1, hm1⟩ : ∃ m1, l.length + 1 = m1 := ⟨_, rfl⟩
            have hm1i : (l.length : Int) + 1 = (m1 : Int) := by omega
            have HM := Lib.hid hm1
            clear hm1
            by_cases hbig : 256 < m1
            · have hbigi : (256 : Int) < (m1 : Int) := by omega
              go_wp2
              go_ret
              refine ⟨?_, hB⟩
              unfold charsT
              rw [if_pos hV.out, if_pos]
              · rfl
              rw [HT.out, List.length_append, List.length_cons]
              have := HM.out
              omega
            · have hbigi : ¬ (256 : Int) < (m1 : Int) := by omega
              go_upto_region 19 with (refine load_struct rfl 52 (.tmp 5) rfl hK rfl Try.underlying52 (m := 3) (by kernel_rfl) rfl ?_)
              clear hK
              have hz4 : wo.heap.size ≤ wr.heap.size := hB.size
              go_upto_region 14 with (refine store_blk rfl 52 (.tmp 5) (.tmp 62) rfl (blk_new wr 52 #[.int .i64 0, .int .i64 0, .int .i64 0]) rfl rfl (m := 3) (by kernel_rfl) rfl rfl (by first | exact tkV_one _ | (intro v hv; simp at hv; rcases hv with rfl | rfl | rfl <;> rfl)) ?_; intro W5 K5 O5)
              have B5 : Below wr.heap.size wr W5 := O5.2.2 _ _ (Nat.le_refl _) ((Below.refl _ _).alloc (Nat.le_refl _) _)
              have hB5 : Below wo.heap.size wo W5 := link hB B5
              clear O5 B5 hB hlt2
              generalize wr.heap.size = t5 at K5 hz4 ⊢
              have c5 := K5.cell (j := 1) rfl
              go_wp2_with (first
                | (go_at_call 44; refine (HX.out te hle W5).mono ?_; rintro en W6 ⟨hB6, hcase⟩; replace K5 := K5.keep hB6; clear c5; rcases hcase with ⟨t0, rfl, ht0⟩ | ⟨rfl, ht0⟩)
                | (refine store_blk rfl 52 (.tmp 5) (.tmp 56) rfl K5 rfl rfl (m := 3) (by kernel_rfl) rfl rfl (by first | exact tkV_one _ | (intro v hv; simp at hv; rcases hv with rfl | rfl | rfl <;> rfl)) ?_; intro W7 K7 O7))
              · have hB7 : Below wo.heap.size wo W7 := O7.2.2 _ _ hz4 (link hB5 hB6)
                obtain ⟨r'', e, hr''⟩ := run_head HR.out ht0
                exact ⟨⟨l ++ [(ta, te, tk)], r', t5, by have := HM.out; simp; omega, by have := HM.out; simp; omega, rfl, hz4, by rw [HT.out]; simp, hB7, K7.lt, Or.inl ⟨rfl, t0, r'', e, K7, hr'', ht0.2.2.1⟩⟩, by have := HM.out; simp [intOf]; omega⟩
              · have hB7 : Below wo.heap.size wo W7 := O7.2.2 _ _ hz4 (link hB5 hB6)
                have e := run_end HR.out ht0
                exact ⟨⟨l ++ [(ta, te, tk)], r', t5, by have := HM.out; simp; omega, by have := HM.out; simp; omega, rfl, hz4, by rw [HT.out]; simp, hB7, K7.lt, Or.inr ⟨rfl, e⟩⟩, by have := HM.out; simp [intOf]; omega⟩
          · rw [List.append_nil] at htk
            have HT := Lib.hid htk
            clear htk
            go_wp2
            go_ret
            refine ⟨?_, hB⟩
            unfold charsT
            rw [if_pos hV.out, if_neg (by rw [HT.out]; omega)]
            rfl

end Go.Proofs.Ytehkgpefmjfifaa
