/-
  TokenJoins.
-/
import Derived.Test.YtehkgpefmjfifaaLh
import Derived.Test.YtehkgpefmjfifaaRa
import Derived.Test.YtehkgpefmjfifaaMo
import Derived.Laws.AppendOwnNone
namespace Go.Proofs.Ytehkgpefmjfifaa
open Go.RowKit
set_option linter.unusedVariables false
set_option linter.unusedSimpArgs false

theorem ttk_eq (x : Tk) (w : World) : (Op.equalIn 10000 52 (.agg (tkV x).toArray) (.agg (tkV x).toArray)).run Try.prog w = .ok true w := by
  obtain ⟨a, b, c⟩ := x
  unfold tkV
  go_simp
/-- append of a slice onto one of one's own. -/
theorem app_ls {α : Type} (E : Elt α) {w : World} {B : Nat} {ops : Array Oper} {rest : List Oper} {o : Oper} {a : Act} {Q : Exit → Act → World → Prop} (hgd : o.guard = none) (s x : Operand)
    (ho : o.op = .call { callee := .builtin .append, args := #[s, x], argTypes := #[E.ST, E.ST] })
    (l m : List α) (v : Value) (hs : a.eval s = v) (hown : OwnR E w B v l) (hB : B ≤ w.heap.size)
    (q : Option Addr) (n c : Nat) (hx : a.eval x = .slice q n c) (hn : m.length = n) (hm : At E w q m) (hq : q = none → m = [] ∧ c = 0) (hl : l.length ≤ 500000000000) (hl2 : n ≤ 500000000000)
    (h : ∀ v' w', OwnR E w' B v' (l ++ m) → Below B w w' → wpList Try.prog ops Q rest (a.put o.dst v') w') :
    wpList Try.prog ops Q (o :: rest) a w := by
  rcases q with _ | ad
  · obtain ⟨rfl, rfl⟩ := hq rfl
    obtain rfl : n = 0 := hn.symm
    obtain ⟨i0, hi, hz0, hz1, hz2⟩ := info_parts E.info
    exact wpList_append_own_none hgd s x E.ST ho B E.T i0 E.k E.und hi v l.length (E.row l) hs hown hx (h v w (by rw [List.append_nil]; exact hown) (Below.refl _ _))
  · exact wpList_plain hgd fun _ hK => app_wp E s x ho l m v hs hown hB ad n c hx hn hm hl hl2 fun v' w' h2 h3 h4 => hK _ _ (h v' w' h2 h3)
theorem marks_range (s : ByteArray) (M : Nat) (h : s.size ≤ M) : ∀ x ∈ marksM s, 0 ≤ x ∧ x ≤ (M : Int) := by
  have key : ∀ i, i ≤ (toks (sb s)).length → ∀ x ∈ marksTo (toks (sb s)) i, 0 ≤ x ∧ x < (i : Int) := by
    intro i
    induction i with
    | zero => intro _ x hx; simp [marksTo] at hx
    | succ i ih =>
      intro hi x hx
      obtain ⟨t, ht⟩ : ∃ t, (toks (sb s))[i]? = some t := ⟨_, List.getElem?_eq_getElem (by omega)⟩
      by_cases hk : t.2.2 = 3
      · rw [marks_yes ht hk] at hx
        rcases List.mem_append.1 hx with g | g
        · have := ih (by omega) x g; omega
        · simp at g; omega
      · rw [marks_no ht hk] at hx
        have := ih (by omega) x hx; omega
  intro x hx
  have := key _ (Nat.le_refl _) x hx
  have h2 := toks_len (sb s)
  rw [sb_length] at h2
  omega
/-- The call answers nought. -/
def Nought (w : World) (e : Ending) (w' : World) : Prop := e = .returned (.int .i64 0) ∧ Below w.heap.size w w'
/-- Cut answers an error, or two texts that join to s. -/
def CutR (s : ByteArray) (w : World) (e : Ending) (w' : World) : Prop := ∃ (c d : ByteArray) (k : Int), (k = 5 ∨ (k = 0 ∧ joinS c d = s)) ∧ e = .returned (.tuple #[.string c, .string d, .int .i64 k]) ∧ Below w.heap.size w w'
def CutIs (a b : ByteArray) (w : World) (e : Ending) (w' : World) : Prop := e = .returned (.tuple #[.string a, .string b, .int .i64 0]) ∧ Below w.heap.size w w'

set_option maxHeartbeats 8000000 in
set_option maxRecDepth 100000 in
theorem tokenJoins_any (A : Option Addr) (l : List Int) (n1 c1 : Nat) (hl : l.length = n1) (A2 : Option Addr) (l2 : List Int) (n2 c2 : Nat) (hl2 : l2.length = n2) (kk : Int) (h1 : -9223372036854775808 ≤ kk) (h2 : kk ≤ 9223372036854775807) (w : World) (hA : IntsAt w A l) (hA2 : IntsAt w A2 l2) (hG : GM w) :
    Calls Try.prog 8 #[.slice A n1 c1, .slice A2 n2 c2, .int .i64 kk] w (Told w true) := by
  have HLv := Lib.hid (fun (V : World) (h : GM V) => lives_any V h)
  have HM1 := Lib.hid (fun (V : World) (h : Below w.heap.size w V) => (show Calls Try.prog 37 #[.slice A n1 c1, .int .i64 0] V (SomeG 120 V) from markedG A l n1 c1 hl 0 (by omega) V (hA.keep h)))
  have HM2 := Lib.hid (fun (V : World) (h : Below w.heap.size w V) => (show Calls Try.prog 37 #[.slice A2 n2 c2, .int .i64 0] V (SomeG 120 V) from markedG A2 l2 n2 c2 hl2 0 (by omega) V (hA2.keep h)))
  have HG := Lib.hid (fun (V : World) (h : Below w.heap.size w V) => hG.keep h)
  have HAr := Lib.hid (fun (z : Nat) (hz : 0 < z) (hz2 : z ≤ 1000000) (V : World) => around_any kk h1 h2 z hz hz2 V)
  clear hl hl2 hA hA2 h1 h2 hG
  go_enter Try.func8, Try.ntmps8
  go_upto_region 2 with (go_at_call 37; refine (HM1.out w (Below.refl _ _)).mono ?_; rintro en w1 ⟨a, ⟨hga, hsa⟩, rfl, hBa⟩)
  clear HM1
  go_upto_region 3 with (go_at_call 37; refine (HM2.out w1 hBa).mono ?_; rintro en w2 ⟨b, ⟨hgb, hsb⟩, rfl, hBb⟩; replace hBb := link hBa hBb)
  clear HM2 hBa
  obtain ⟨jn, hjn⟩ : ∃ jn, joinS a b = jn := ⟨_, rfl⟩
  have hjs := join_size a b
  rw [hjn] at hjs
  have hgj : gd true (sb jn) = true := by rw [← hjn, sb_join]; exact gd_join hga hgb
  have hj9 : jn.size ≤ 241 := by omega
  obtain ⟨X, hX⟩ : ∃ X, toks (sb a) = X := ⟨_, rfl⟩
  obtain ⟨Y, hY⟩ : ∃ X, toks (sb b) = X := ⟨_, rfl⟩
  obtain ⟨Z, hZ⟩ : ∃ X, toks (sb jn) = X := ⟨_, rfl⟩
  obtain ⟨n, hn⟩ : ∃ n, X.length = n := ⟨_, rfl⟩
  obtain ⟨m, hm⟩ : ∃ n, Y.length = n := ⟨_, rfl⟩
  obtain ⟨z, hz⟩ : ∃ n, Z.length = n := ⟨_, rfl⟩
  have hz2 : n + m = z := by rw [← hn, ← hm, ← hz, ← hX, ← hY, ← hZ, ← hjn, toks_join_len]
  have hn0 : 0 < n := by rw [← hn, ← hX]; exact List.length_pos_iff.2 (gd_toks hga)
  have hn9 : n ≤ 120 := by have h5 := toks_len (sb a); rw [sb_length, hX, hn] at h5; omega
  have hm9 : m ≤ 120 := by have h5 := toks_len (sb b); rw [sb_length, hY, hm] at h5; omega
  have hleft : ∀ (i : Nat) (t : Tk), X[i]? = some t → Z[i]? = some t := fun i t h => by rw [← hZ, ← hjn]; exact tjoin_left (by rw [hX]; exact h)
  have hright : ∀ (i : Nat) (t : Tk), Y[i]? = some t → Z[n + i]? = some (shT (a.size + 1) t) := fun i t h => by rw [← hZ, ← hjn, ← hn, ← hX]; exact tjoin_right (by rw [hY]; exact h)
  have htin : ∀ (i : Nat) (t : Tk), Y[i]? = some t → t.1 < t.2.1 ∧ t.2.1 ≤ b.size ∧ t.2.2 < 4 := fun i t h => by have := toks_in (bs := sb b) (i := i) (t := t) (by rw [hY]; exact h); rw [sb_length] at this; exact this
  have hva : validT (sb a) = 0 := gd_valid hga (by rw [sb_length]; omega)
  have hvb : validT (sb b) = 0 := gd_valid hgb (by rw [sb_length]; omega)
  have hvj : validT (sb jn) = 0 := gd_valid hgj (by rw [sb_length]; omega)
  have hwj : wordsM jn = wordsM a ++ wordsM b := by rw [← hjn]; exact words_join a b
  have hmj : marksM jn = marksM a ++ (marksM b).map (· + (n : Int)) := by rw [← hjn, ← hn, ← hX]; exact marks_join a b
  have hcm : cutM jn (n : Int) = (a, b, 0) := by rw [← hjn, ← hn, ← hX]; exact cut_mid hga hgb (by rw [hjn]; omega)
  have hcb := cut_back hgj (by omega)
  have HJ := Lib.hid (fun V : World => (join_any a b (by omega) (by omega) V).mono (fun en V2 h => (show en = .returned (.string jn) ∧ Below V.heap.size V V2 from hjn ▸ h)))
  have HSa := Lib.hid (fun V : World => (split_any a _ rfl (by omega) V).mono (fun en V2 h => (show GiveR tkE X n V en V2 from by subst hX; exact MadeR.give (E := tkE) h hn)))
  have HSb := Lib.hid (fun V : World => (split_any b _ rfl (by omega) V).mono (fun en V2 h => (show GiveR tkE Y m V en V2 from by subst hY; exact MadeR.give (E := tkE) h hm)))
  have HSj := Lib.hid (fun V : World => (split_any jn _ rfl (by omega) V).mono (fun en V2 h => (show GiveR tkE Z z V en V2 from by subst hZ; exact MadeR.give (E := tkE) h hz)))
  have HVa := Lib.hid (fun (V : World) (h : GM V) => (valid_any a _ rfl (by omega) V h).mono (fun en V2 h => (show Nought V en V2 from by rw [hva] at h; exact h)))
  have HVb := Lib.hid (fun (V : World) (h : GM V) => (valid_any b _ rfl (by omega) V h).mono (fun en V2 h => (show Nought V en V2 from by rw [hvb] at h; exact h)))
  have HVj := Lib.hid (fun (V : World) (h : GM V) => (valid_any jn _ rfl (by omega) V h).mono (fun en V2 h => (show Nought V en V2 from by rw [hvj] at h; exact h)))
  have HC1 := Lib.hid (fun (V : World) (h : GM V) => (cut_any jn (by omega) (n : Int) (by omega) (by omega) V h).mono (fun en V2 h => (show CutIs a b V en V2 from by have h' := h; unfold CutV at h'; rw [hcm] at h'; exact h')))
  have HC2 := Lib.hid (fun (r : Nat) (hr : r < z) (V : World) (h : GM V) => (cut_any jn (by omega) (r : Int) (by omega) (by omega) V h).mono (fun en V2 h => (show CutR jn V en V2 from ⟨(cutM jn r).1, (cutM jn r).2.1, (cutM jn r).2.2, hcb r, h.1, h.2⟩)))
  have HJ2 := Lib.hid (fun (c d : ByteArray) (h : joinS c d = jn) (V : World) => (join_any c d (by have := join_size c d; rw [h] at this; omega) (by have := join_size c d; rw [h] at this; omega) V).mono (fun en V2 h2 => (show en = .returned (.string jn) ∧ Below V.heap.size V V2 from h ▸ h2)))
  have HWj := Lib.hid (fun V : World => words_any jn (by omega) V)
  have HWa := Lib.hid (fun V : World => words_any a (by omega) V)
  have HWb := Lib.hid (fun V : World => words_any b (by omega) V)
  have hwl : ∀ s : ByteArray, s.size ≤ 300 → (wordsM s).length ≤ 300 := fun s h => by have h5 := words_len s (toks (sb s)) (toks (sb s)).length; have h6 := toks_len (sb s); rw [sb_length] at h6; unfold wordsM; omega
  have hml : ∀ s : ByteArray, s.size ≤ 300 → (marksM s).length ≤ 300 := fun s h => by have h5 := marks_len (toks (sb s)) (toks (sb s)).length; have h6 := toks_len (sb s); rw [sb_length] at h6; unfold marksM; omega
  obtain ⟨na, hna⟩ : ∃ x, (marksM a).length = x := ⟨_, rfl⟩
  obtain ⟨nb, hnb⟩ : ∃ x, (marksM b).length = x := ⟨_, rfl⟩
  obtain ⟨nj, hnj⟩ : ∃ x, (marksM jn).length = x := ⟨_, rfl⟩
  have hnab : na + nb = nj := by rw [← hna, ← hnb, ← hnj, hmj, List.length_append, List.length_map]
  have hna9 : na ≤ 300 := by rw [← hna]; exact hml a (by omega)
  have hnb9 : nb ≤ 300 := by rw [← hnb]; exact hml b (by omega)
  have HMa := Lib.hid (fun V : World => (marks_any a (by omega) V).mono (fun _ _ h => MadeR.give (E := intE) h hna))
  have HMb := Lib.hid (fun V : World => (marks_any b (by omega) V).mono (fun _ _ h => MadeR.give (E := intE) h hnb))
  have HMj := Lib.hid (fun V : World => (marks_any jn (by omega) V).mono (fun _ _ h => MadeR.give (E := intE) h hnj))
  have hmr := marks_range b 300 (by omega)
  have HSh := Lib.hid (fun (ql qa qb : Option Addr) (cl ca cb : Nat) (V : World) (h1 : At intE V ql (marksM jn)) (h2 : At intE V qa (marksM a)) (h3 : At intE V qb (marksM b)) => shifted_yes (marksM a) (marksM b) ql qa qb na nb nj cl ca cb hnab hna hnb (n : Int) (by omega) (by omega) (by omega) (by omega) (fun x hx => by have := hmr x hx; omega) V (hmj ▸ h1) h2 h3)
  have hwa9 := hwl a (by omega)
  have hwb9 := hwl b (by omega)
  have hwj9 := hwl jn (by omega)
  generalize wordsM jn = WJ at hwj hwj9 HWj
  generalize wordsM a = WA at hwj hwa9 HWa
  generalize wordsM b = WB at hwj hwb9 HWb
  generalize marksM jn = MJ at HMj HSh
  generalize marksM a = MA at HMa HSh
  generalize marksM b = MB at HMb HSh
  obtain ⟨wn, hwn⟩ : ∃ x, WJ.length = x := ⟨_, rfl⟩
  have HWJ := Lib.hid hwj
  have HWN := Lib.hid hwn
  have HLe := Lib.hid hleft
  have HRi := Lib.hid hright
  have HTi := Lib.hid htin
  have HN := Lib.hid hn
  have HMm := Lib.hid hm
  have HZ := Lib.hid hz
  have HNM := Lib.hid hz2
  obtain ⟨sa, hsa'⟩ : ∃ sa, a.size = sa := ⟨_, rfl⟩
  have HSA := Lib.hid (show (a.size : Int) = (sa : Int) from by rw [hsa'])
  have HSAn := Lib.hid hsa'
  have hsa9 : sa ≤ 120 := by omega
  have hz9 : z ≤ 240 := by omega
  have hz0 : 0 < z := by omega
  clear hjn hjs hgj hX hY hZ hn hm hz hleft hright htin hva hvb hvj hwj hmj hcm hcb hwl hml hna hnb hnj hnab hmr hwn hga hgb hz2 hsa'
  go_upto_region 4 with (go_at_call 33; refine (HJ.out w2).mono ?_; rintro en w3 ⟨rfl, hB3⟩; replace hBb := link hBb hB3)
  clear HJ hB3
  go_upto_region 5 with (go_at_call 18; refine (HSa.out w3).mono ?_; rintro en w4 ⟨qx, cx, rfl, hcx, hAx, hB4⟩; replace hBb := link hBb hB4)
  clear HSa hB4
  go_upto_region 6 with (go_at_call 18; refine (HSb.out w4).mono ?_; rintro en w5 ⟨qy, cy, rfl, hcy, hAy, hB5⟩; replace hBb := link hBb hB5; replace hAx := hAx.keep hB5)
  clear HSb hB5
  go_upto_region 7 with (go_at_call 18; refine (HSj.out w5).mono ?_; rintro en w6 ⟨qz, cz, rfl, hcz, hAz, hB6⟩; replace hBb := link hBb hB6; replace hAx := hAx.keep hB6; replace hAy := hAy.keep hB6)
  clear HSj hB6
  have hN1 : ((z : Int) == 0) = false := by simp; omega
  have hN2 : (n : Int) + (m : Int) = (z : Int) := by have := HNM.out; omega
  go_wp2_with (first
    | (go_at_call_of 12 (Value.string a); refine (HVa.out _ (HG.out _ hBb)).mono ?_; rintro en w7 ⟨rfl, hB7⟩)
    | (go_at_call_of 12 (Value.string b); refine (HVb.out _ (HG.out _ (link hBb hB7))).mono ?_; rintro en w8 ⟨rfl, hB8⟩; replace hB8 := link hB7 hB8)
    | (go_at_call_of 12 (Value.string jn); refine (HVj.out _ (HG.out _ (link hBb hB8))).mono ?_; rintro en W6 ⟨rfl, hB9⟩; replace hB9 := link hB8 hB9))
  clear hN1 hN2 HVa HVb HVj hB7 hB8
  replace hBb := link hBb hB9
  replace hAx := hAx.keep hB9
  replace hAy := hAy.keep hB9
  replace hAz := hAz.keep hB9
  clear hB9
  go_loopw [13] (fun v wr => NumRel W6 z v wr) (fun v _ => z - (intOf v).toNat)
  case atStart => exact ⟨0, Nat.zero_le _, rfl, Below.refl _ _⟩
  case round =>
    obtain ⟨i, hi, rfl, hB⟩ := hrel
    rcases Nat.lt_or_ge i z with hlt | hge
    · as_aux_lemma =>
        obtain ⟨bz, oz, rfl, hlz⟩ := hAz.get (i := i) (by rw [HZ.out]; exact hlt)
        rcases Nat.lt_or_ge i n with hlo | hlo
        · obtain ⟨t, hxt⟩ : ∃ t, X[i]? = some t := ⟨_, List.getElem?_eq_getElem (by rw [HN.out]; exact hlo)⟩
          obtain ⟨bx, ox, rfl, hlx⟩ := hAx.get (i := i) (by rw [HN.out]; exact hlo)
          have C0 : ∀ w', Below W6.heap.size W6 w' → w'.rangeAt bz (oz + i * 3) (tkV t) := fun w' h => (hlz.keep h).range (HLe.out i t hxt)
          have C1 : ∀ w', Below W6.heap.size W6 w' → w'.rangeAt bx (ox + i * 3) (tkV t) := fun w' h => (hlx.keep h).range hxt
          have hlo2 : ¬ n ≤ i := by omega
          clear hlx hlz hxt hAx hAy hAz
          go_upto_region 12 with (fail)
          refine wp_region_held_drew (S := fun w' => Below W6.heap.size W6 w') (by kernel_rfl) (below_drew (hB)) (fun _ => ?_)
          have hHeld : Below W6.heap.size W6 wr.drew := below_drew (hB)
          generalize wr.drew = V0 at hHeld ⊢
          refine wt (i := 0) (oi := ⟨some 64, .move (.tmp 13), 3, "law.go:173", #[], none⟩) (v := .int .i64 (i : Int)) (Or.inl ⟨by rfl, fun w' hSw => by go_simp⟩) hHeld ?_
          try simp only [zP, zQ, zS, zZ, zC]
          refine wt (i := 1) (oi := ⟨some 65, .move (.tmp 10), 33, "law.go:173", #[], none⟩) (v := .slice (some ⟨bx, ox, none⟩) n cx) (Or.inl ⟨by rfl, fun w' hSw => by go_simp⟩) hHeld ?_
          try simp only [zP, zQ, zS, zZ, zC]
          refine wt (i := 2) (oi := ⟨some 66, .call { callee := .builtin .len, args := #[.tmp 65], argTypes := #[33] }, 3, "law.go:173", #[⟨1, .data⟩], none⟩) (v := .int .i64 (n : Int)) (Or.inl ⟨by rfl, fun w' hSw => by go_simp⟩) hHeld ?_
          try simp only [zP, zQ, zS, zZ, zC]
          refine wt (i := 3) (oi := ⟨some 67, .binOp .lss 3 (.tmp 64) (.tmp 66) 3, 4, "law.go:173", #[⟨0, .data⟩, ⟨2, .data⟩], none⟩) (v := .bool true) (Or.inl ⟨by rfl, fun w' hSw => by go_simp⟩) hHeld ?_
          try simp only [zP, zQ, zS, zZ, zC]
          refine wt (i := 4) (oi := ⟨some 68, .move (.tmp 67), 4, "law.go:173", #[⟨3, .data⟩], none⟩) (v := .bool true) (Or.inl ⟨by rfl, fun w' hSw => by go_simp⟩) hHeld ?_
          try simp only [zP, zQ, zS, zZ, zC]
          refine wt (i := 5) (oi := ⟨some 69, .move (.tmp 12), 33, "law.go:173", #[⟨4, .guard⟩], some (4, true)⟩) (v := .slice (some ⟨bz, oz, none⟩) z cz) (Or.inl ⟨by rfl, fun w' hSw => by go_simp⟩) hHeld ?_
          try simp only [zP, zQ, zS, zZ, zC]
          refine wt (i := 6) (oi := ⟨some 70, .move (.tmp 13), 3, "law.go:173", #[⟨4, .guard⟩], some (4, true)⟩) (v := .int .i64 (i : Int)) (Or.inl ⟨by rfl, fun w' hSw => by go_simp⟩) hHeld ?_
          try simp only [zP, zQ, zS, zZ, zC]
          refine wt (i := 7) (oi := ⟨some 71, .indexAddr 33 (.tmp 69) (.tmp 70), 0, "law.go:173", #[⟨5, .data⟩, ⟨6, .data⟩, ⟨4, .guard⟩], some (4, true)⟩) (v := .pointer (some ⟨bz, oz + i * 3, none⟩)) (Or.inl ⟨by rfl, fun w' hSw => by go_simp; try (intro hcm; exact absurd hcm (by omega))⟩) hHeld ?_
          try simp only [zP, zQ, zS, zZ, zC]
          refine wt (i := 8) (oi := ⟨some 72, .load 52 (.tmp 71), 52, "law.go:173", #[⟨7, .data⟩, ⟨4, .guard⟩], some (4, true)⟩) (v := _) (yieldsIf_load_mid (by rfl) _ _ rfl bz (oz + i * 3) rfl (tkV t) _ (fun w' hSw => C0 w' hSw) Try.underlying52 rfl (by kernel_rfl)) hHeld ?_
          try simp only [zP, zQ, zS, zZ, zC]
          refine wt (i := 9) (oi := ⟨some 73, .move (.tmp 10), 33, "law.go:173", #[⟨4, .guard⟩], some (4, true)⟩) (v := .slice (some ⟨bx, ox, none⟩) n cx) (Or.inl ⟨by rfl, fun w' hSw => by go_simp⟩) hHeld ?_
          try simp only [zP, zQ, zS, zZ, zC]
          refine wt (i := 10) (oi := ⟨some 74, .move (.tmp 13), 3, "law.go:173", #[⟨4, .guard⟩], some (4, true)⟩) (v := .int .i64 (i : Int)) (Or.inl ⟨by rfl, fun w' hSw => by go_simp⟩) hHeld ?_
          try simp only [zP, zQ, zS, zZ, zC]
          refine wt (i := 11) (oi := ⟨some 75, .indexAddr 33 (.tmp 73) (.tmp 74), 0, "law.go:173", #[⟨9, .data⟩, ⟨10, .data⟩, ⟨4, .guard⟩], some (4, true)⟩) (v := .pointer (some ⟨bx, ox + i * 3, none⟩)) (Or.inl ⟨by rfl, fun w' hSw => by go_simp; try (intro hcm; exact absurd hcm (by omega))⟩) hHeld ?_
          try simp only [zP, zQ, zS, zZ, zC]
          refine wt (i := 12) (oi := ⟨some 76, .load 52 (.tmp 75), 52, "law.go:173", #[⟨11, .data⟩, ⟨4, .guard⟩], some (4, true)⟩) (v := _) (yieldsIf_load_mid (by rfl) _ _ rfl bx (ox + i * 3) rfl (tkV t) _ (fun w' hSw => C1 w' hSw) Try.underlying52 rfl (by kernel_rfl)) hHeld ?_
          try simp only [zP, zQ, zS, zZ, zC]
          refine wt (i := 13) (oi := ⟨some 77, .binOp .neq 52 (.tmp 72) (.tmp 76) 52, 4, "law.go:173", #[⟨8, .data⟩, ⟨12, .data⟩, ⟨4, .guard⟩], some (4, true)⟩) (v := .bool false) (Or.inl ⟨by rfl, fun w' hSw => by unfold tkV; go_simp⟩) hHeld ?_
          try simp only [zP, zQ, zS, zZ, zC]
          refine wt (i := 14) (oi := ⟨some 78, .pick (.tmp 68) (.tmp 77) (.const (Value.bool false)), 4, "law.go:173", #[⟨4, .data⟩, ⟨13, .data⟩], none⟩) (v := .bool false) (Or.inl ⟨by rfl, fun w' hSw => by go_simp⟩) hHeld ?_
          try simp only [zP, zQ, zS, zZ, zC]
          refine wpAnyH_done (by kernel_rfl) ?_ _
          have BX := hHeld
          clear hHeld 
          go_upto_region 14 with (fail)
          refine wp_region_held_drew (S := fun w' => Below W6.heap.size W6 w') (by kernel_rfl) (below_drew (BX)) (fun _ => ?_)
          have hHeld : Below W6.heap.size W6 V0.drew := below_drew (BX)
          generalize V0.drew = V1 at hHeld ⊢
          refine wt (i := 0) (oi := ⟨some 79, .move (.tmp 13), 3, "law.go:176", #[], none⟩) (v := .int .i64 (i : Int)) (Or.inl ⟨by rfl, fun w' hSw => by go_simp⟩) hHeld ?_
          try simp only [zP, zQ, zS, zZ, zC]
          refine wt (i := 1) (oi := ⟨some 80, .move (.tmp 10), 33, "law.go:176", #[], none⟩) (v := .slice (some ⟨bx, ox, none⟩) n cx) (Or.inl ⟨by rfl, fun w' hSw => by go_simp⟩) hHeld ?_
          try simp only [zP, zQ, zS, zZ, zC]
          refine wt (i := 2) (oi := ⟨some 81, .call { callee := .builtin .len, args := #[.tmp 80], argTypes := #[33] }, 3, "law.go:176", #[⟨1, .data⟩], none⟩) (v := .int .i64 (n : Int)) (Or.inl ⟨by rfl, fun w' hSw => by go_simp⟩) hHeld ?_
          try simp only [zP, zQ, zS, zZ, zC]
          refine wt (i := 3) (oi := ⟨some 82, .binOp .geq 3 (.tmp 79) (.tmp 81) 3, 4, "law.go:176", #[⟨0, .data⟩, ⟨2, .data⟩], none⟩) (v := .bool false) (Or.inl ⟨by rfl, fun w' hSw => by go_simp⟩) hHeld ?_
          try simp only [zP, zQ, zS, zZ, zC]
          refine wt (i := 4) (oi := ⟨some 83, .move (.tmp 82), 4, "law.go:176", #[⟨3, .data⟩], none⟩) (v := .bool false) (Or.inl ⟨by rfl, fun w' hSw => by go_simp⟩) hHeld ?_
          try simp only [zP, zQ, zS, zZ, zC]
          refine wt (i := 5) (oi := ⟨some 84, .move (.tmp 12), 33, "law.go:176", #[⟨4, .guard⟩], some (4, true)⟩) (v := undef) (Or.inr ⟨by rfl, rfl⟩) hHeld ?_
          try simp only [zP, zQ, zS, zZ, zC]
          refine wt (i := 6) (oi := ⟨some 85, .move (.tmp 13), 3, "law.go:176", #[⟨4, .guard⟩], some (4, true)⟩) (v := undef) (Or.inr ⟨by rfl, rfl⟩) hHeld ?_
          try simp only [zP, zQ, zS, zZ, zC]
          refine wt (i := 7) (oi := ⟨some 86, .indexAddr 33 (.tmp 84) (.tmp 85), 0, "law.go:176", #[⟨5, .data⟩, ⟨6, .data⟩, ⟨4, .guard⟩], some (4, true)⟩) (v := undef) (Or.inr ⟨by rfl, rfl⟩) hHeld ?_
          try simp only [zP, zQ, zS, zZ, zC]
          refine wt (i := 8) (oi := ⟨some 87, .load 52 (.tmp 86), 52, "law.go:176", #[⟨7, .data⟩, ⟨4, .guard⟩], some (4, true)⟩) (v := undef) (Or.inr ⟨by rfl, rfl⟩) hHeld ?_
          try simp only [zP, zQ, zS, zZ, zC]
          refine wt (i := 9) (oi := ⟨some 88, .move (.tmp 11), 33, "law.go:176", #[⟨4, .guard⟩], some (4, true)⟩) (v := undef) (Or.inr ⟨by rfl, rfl⟩) hHeld ?_
          try simp only [zP, zQ, zS, zZ, zC]
          refine wt (i := 10) (oi := ⟨some 89, .move (.tmp 13), 3, "law.go:176", #[⟨4, .guard⟩], some (4, true)⟩) (v := undef) (Or.inr ⟨by rfl, rfl⟩) hHeld ?_
          try simp only [zP, zQ, zS, zZ, zC]
          refine wt (i := 11) (oi := ⟨some 90, .move (.tmp 10), 33, "law.go:176", #[⟨4, .guard⟩], some (4, true)⟩) (v := undef) (Or.inr ⟨by rfl, rfl⟩) hHeld ?_
          try simp only [zP, zQ, zS, zZ, zC]
          refine wt (i := 12) (oi := ⟨some 91, .call { callee := .builtin .len, args := #[.tmp 90], argTypes := #[33] }, 3, "law.go:176", #[⟨11, .data⟩, ⟨4, .guard⟩], some (4, true)⟩) (v := undef) (Or.inr ⟨by rfl, rfl⟩) hHeld ?_
          try simp only [zP, zQ, zS, zZ, zC]
          refine wt (i := 13) (oi := ⟨some 92, .binOp .sub 3 (.tmp 89) (.tmp 91) 3, 3, "law.go:176", #[⟨10, .data⟩, ⟨12, .data⟩, ⟨4, .guard⟩], some (4, true)⟩) (v := undef) (Or.inr ⟨by rfl, rfl⟩) hHeld ?_
          try simp only [zP, zQ, zS, zZ, zC]
          refine wt (i := 14) (oi := ⟨some 93, .indexAddr 33 (.tmp 88) (.tmp 92), 0, "law.go:176", #[⟨9, .data⟩, ⟨13, .data⟩, ⟨4, .guard⟩], some (4, true)⟩) (v := undef) (Or.inr ⟨by rfl, rfl⟩) hHeld ?_
          try simp only [zP, zQ, zS, zZ, zC]
          refine wt (i := 15) (oi := ⟨some 94, .fieldAddr 52 (.tmp 93) 0, 0, "law.go:176", #[⟨14, .data⟩, ⟨4, .guard⟩], some (4, true)⟩) (v := undef) (Or.inr ⟨by rfl, rfl⟩) hHeld ?_
          try simp only [zP, zQ, zS, zZ, zC]
          refine wt (i := 16) (oi := ⟨some 95, .load 3 (.tmp 94), 3, "law.go:176", #[⟨15, .data⟩, ⟨4, .guard⟩], some (4, true)⟩) (v := undef) (Or.inr ⟨by rfl, rfl⟩) hHeld ?_
          try simp only [zP, zQ, zS, zZ, zC]
          refine wt (i := 17) (oi := ⟨some 96, .move (.tmp 7), 9, "law.go:176", #[⟨4, .guard⟩], some (4, true)⟩) (v := undef) (Or.inr ⟨by rfl, rfl⟩) hHeld ?_
          try simp only [zP, zQ, zS, zZ, zC]
          refine wt (i := 18) (oi := ⟨some 97, .call { callee := .builtin .len, args := #[.tmp 96], argTypes := #[9] }, 3, "law.go:176", #[⟨17, .data⟩, ⟨4, .guard⟩], some (4, true)⟩) (v := undef) (Or.inr ⟨by rfl, rfl⟩) hHeld ?_
          try simp only [zP, zQ, zS, zZ, zC]
          refine wt (i := 19) (oi := ⟨some 98, .binOp .add 3 (.tmp 95) (.tmp 97) 3, 3, "law.go:176", #[⟨16, .data⟩, ⟨18, .data⟩, ⟨4, .guard⟩], some (4, true)⟩) (v := undef) (Or.inr ⟨by rfl, rfl⟩) hHeld ?_
          try simp only [zP, zQ, zS, zZ, zC]
          refine wt (i := 20) (oi := ⟨some 99, .binOp .add 3 (.tmp 98) (.const (Value.int IntKind.i64 1)) 3, 3, "law.go:176", #[⟨19, .data⟩, ⟨4, .guard⟩], some (4, true)⟩) (v := undef) (Or.inr ⟨by rfl, rfl⟩) hHeld ?_
          try simp only [zP, zQ, zS, zZ, zC]
          refine wt (i := 21) (oi := ⟨some 100, .move (.tmp 11), 33, "law.go:176", #[⟨4, .guard⟩], some (4, true)⟩) (v := undef) (Or.inr ⟨by rfl, rfl⟩) hHeld ?_
          try simp only [zP, zQ, zS, zZ, zC]
          refine wt (i := 22) (oi := ⟨some 101, .move (.tmp 13), 3, "law.go:176", #[⟨4, .guard⟩], some (4, true)⟩) (v := undef) (Or.inr ⟨by rfl, rfl⟩) hHeld ?_
          try simp only [zP, zQ, zS, zZ, zC]
          refine wt (i := 23) (oi := ⟨some 102, .move (.tmp 10), 33, "law.go:176", #[⟨4, .guard⟩], some (4, true)⟩) (v := undef) (Or.inr ⟨by rfl, rfl⟩) hHeld ?_
          try simp only [zP, zQ, zS, zZ, zC]
          refine wt (i := 24) (oi := ⟨some 103, .call { callee := .builtin .len, args := #[.tmp 102], argTypes := #[33] }, 3, "law.go:176", #[⟨23, .data⟩, ⟨4, .guard⟩], some (4, true)⟩) (v := undef) (Or.inr ⟨by rfl, rfl⟩) hHeld ?_
          try simp only [zP, zQ, zS, zZ, zC]
          refine wt (i := 25) (oi := ⟨some 104, .binOp .sub 3 (.tmp 101) (.tmp 103) 3, 3, "law.go:176", #[⟨22, .data⟩, ⟨24, .data⟩, ⟨4, .guard⟩], some (4, true)⟩) (v := undef) (Or.inr ⟨by rfl, rfl⟩) hHeld ?_
          try simp only [zP, zQ, zS, zZ, zC]
          refine wt (i := 26) (oi := ⟨some 105, .indexAddr 33 (.tmp 100) (.tmp 104), 0, "law.go:176", #[⟨21, .data⟩, ⟨25, .data⟩, ⟨4, .guard⟩], some (4, true)⟩) (v := undef) (Or.inr ⟨by rfl, rfl⟩) hHeld ?_
          try simp only [zP, zQ, zS, zZ, zC]
          refine wt (i := 27) (oi := ⟨some 106, .fieldAddr 52 (.tmp 105) 1, 0, "law.go:176", #[⟨26, .data⟩, ⟨4, .guard⟩], some (4, true)⟩) (v := undef) (Or.inr ⟨by rfl, rfl⟩) hHeld ?_
          try simp only [zP, zQ, zS, zZ, zC]
          refine wt (i := 28) (oi := ⟨some 107, .load 3 (.tmp 106), 3, "law.go:176", #[⟨27, .data⟩, ⟨4, .guard⟩], some (4, true)⟩) (v := undef) (Or.inr ⟨by rfl, rfl⟩) hHeld ?_
          try simp only [zP, zQ, zS, zZ, zC]
          refine wt (i := 29) (oi := ⟨some 108, .move (.tmp 7), 9, "law.go:176", #[⟨4, .guard⟩], some (4, true)⟩) (v := undef) (Or.inr ⟨by rfl, rfl⟩) hHeld ?_
          try simp only [zP, zQ, zS, zZ, zC]
          refine wt (i := 30) (oi := ⟨some 109, .call { callee := .builtin .len, args := #[.tmp 108], argTypes := #[9] }, 3, "law.go:176", #[⟨29, .data⟩, ⟨4, .guard⟩], some (4, true)⟩) (v := undef) (Or.inr ⟨by rfl, rfl⟩) hHeld ?_
          try simp only [zP, zQ, zS, zZ, zC]
          refine wt (i := 31) (oi := ⟨some 110, .binOp .add 3 (.tmp 107) (.tmp 109) 3, 3, "law.go:176", #[⟨28, .data⟩, ⟨30, .data⟩, ⟨4, .guard⟩], some (4, true)⟩) (v := undef) (Or.inr ⟨by rfl, rfl⟩) hHeld ?_
          try simp only [zP, zQ, zS, zZ, zC]
          refine wt (i := 32) (oi := ⟨some 111, .binOp .add 3 (.tmp 110) (.const (Value.int IntKind.i64 1)) 3, 3, "law.go:176", #[⟨31, .data⟩, ⟨4, .guard⟩], some (4, true)⟩) (v := undef) (Or.inr ⟨by rfl, rfl⟩) hHeld ?_
          try simp only [zP, zQ, zS, zZ, zC]
          refine wt (i := 33) (oi := ⟨some 112, .move (.tmp 11), 33, "law.go:176", #[⟨4, .guard⟩], some (4, true)⟩) (v := undef) (Or.inr ⟨by rfl, rfl⟩) hHeld ?_
          try simp only [zP, zQ, zS, zZ, zC]
          refine wt (i := 34) (oi := ⟨some 113, .move (.tmp 13), 3, "law.go:176", #[⟨4, .guard⟩], some (4, true)⟩) (v := undef) (Or.inr ⟨by rfl, rfl⟩) hHeld ?_
          try simp only [zP, zQ, zS, zZ, zC]
          refine wt (i := 35) (oi := ⟨some 114, .move (.tmp 10), 33, "law.go:176", #[⟨4, .guard⟩], some (4, true)⟩) (v := undef) (Or.inr ⟨by rfl, rfl⟩) hHeld ?_
          try simp only [zP, zQ, zS, zZ, zC]
          refine wt (i := 36) (oi := ⟨some 115, .call { callee := .builtin .len, args := #[.tmp 114], argTypes := #[33] }, 3, "law.go:176", #[⟨35, .data⟩, ⟨4, .guard⟩], some (4, true)⟩) (v := undef) (Or.inr ⟨by rfl, rfl⟩) hHeld ?_
          try simp only [zP, zQ, zS, zZ, zC]
          refine wt (i := 37) (oi := ⟨some 116, .binOp .sub 3 (.tmp 113) (.tmp 115) 3, 3, "law.go:176", #[⟨34, .data⟩, ⟨36, .data⟩, ⟨4, .guard⟩], some (4, true)⟩) (v := undef) (Or.inr ⟨by rfl, rfl⟩) hHeld ?_
          try simp only [zP, zQ, zS, zZ, zC]
          refine wt (i := 38) (oi := ⟨some 117, .indexAddr 33 (.tmp 112) (.tmp 116), 0, "law.go:176", #[⟨33, .data⟩, ⟨37, .data⟩, ⟨4, .guard⟩], some (4, true)⟩) (v := undef) (Or.inr ⟨by rfl, rfl⟩) hHeld ?_
          try simp only [zP, zQ, zS, zZ, zC]
          refine wt (i := 39) (oi := ⟨some 118, .fieldAddr 52 (.tmp 117) 2, 0, "law.go:176", #[⟨38, .data⟩, ⟨4, .guard⟩], some (4, true)⟩) (v := undef) (Or.inr ⟨by rfl, rfl⟩) hHeld ?_
          try simp only [zP, zQ, zS, zZ, zC]
          refine wt (i := 40) (oi := ⟨some 119, .load 3 (.tmp 118), 3, "law.go:176", #[⟨39, .data⟩, ⟨4, .guard⟩], some (4, true)⟩) (v := undef) (Or.inr ⟨by rfl, rfl⟩) hHeld ?_
          try simp only [zP, zQ, zS, zZ, zC]
          refine wt (i := 41) (oi := ⟨some 120, .build 52 #[(0, .tmp 99), (1, .tmp 111), (2, .tmp 119)], 52, "law.go:176", #[⟨20, .data⟩, ⟨32, .data⟩, ⟨40, .data⟩, ⟨4, .guard⟩], some (4, true)⟩) (v := undef) (Or.inr ⟨by rfl, rfl⟩) hHeld ?_
          try simp only [zP, zQ, zS, zZ, zC]
          refine wt (i := 42) (oi := ⟨some 121, .binOp .neq 52 (.tmp 87) (.tmp 120) 52, 4, "law.go:176", #[⟨8, .data⟩, ⟨41, .data⟩, ⟨4, .guard⟩], some (4, true)⟩) (v := undef) (Or.inr ⟨by rfl, rfl⟩) hHeld ?_
          try simp only [zP, zQ, zS, zZ, zC]
          refine wt (i := 43) (oi := ⟨some 122, .pick (.tmp 83) (.tmp 121) (.const (Value.bool false)), 4, "law.go:176", #[⟨4, .data⟩, ⟨42, .data⟩], none⟩) (v := .bool false) (Or.inl ⟨by rfl, fun w' hSw => by go_simp⟩) hHeld ?_
          try simp only [zP, zQ, zS, zZ, zC]
          refine wpAnyH_done (by kernel_rfl) ?_ _
          have BY := hHeld
          clear hHeld 
          clear C0 C1
          go_wp2
          exact ⟨⟨i + 1, by omega, by go_num, BY⟩, by simp [intOf]; omega⟩
        · obtain ⟨i1, rfl⟩ : ∃ i1, i = n + i1 := ⟨i - n, by omega⟩
          have hnm := HNM.out
          obtain ⟨⟨ta, te, tk⟩, hyt⟩ : ∃ t, Y[i1]? = some t := ⟨_, List.getElem?_eq_getElem (by rw [HMm.out]; omega)⟩
          obtain ⟨by_, oy, rfl, hly⟩ := hAy.get (i := i1) (by rw [HMm.out]; omega)
          have hzt := HRi.out i1 (ta, te, tk) hyt
          obtain ⟨ti1, ti2, _⟩ := HTi.out i1 (ta, te, tk) hyt
          have ti1 : ta < te := ti1
          have ti2 : te ≤ b.size := ti2
          have hi1m : i1 < m := by omega
          obtain ⟨i, hie⟩ : ∃ i, n + i1 = i := ⟨_, rfl⟩
          rw [hie] at hlt hi hlo hzt ⊢
          obtain ⟨k1, hk1⟩ : ∃ k1, sa + 1 = k1 := ⟨_, rfl⟩
          have hzt : Z[i]? = some (ta + k1, te + k1, tk) := by rw [hzt, HSAn.out, hk1]; rfl
          obtain ⟨ua, hua⟩ : ∃ u, ta + k1 = u := ⟨_, rfl⟩
          obtain ⟨ue, hue⟩ : ∃ u, te + k1 = u := ⟨_, rfl⟩
          have hzt : Z[i]? = some (ua, ue, tk) := by rw [hzt, hua, hue]
          have HUA := Lib.hid (show (ta : Int) + (sa : Int) + 1 = (ua : Int) from by omega)
          have HUE := Lib.hid (show (te : Int) + (sa : Int) + 1 = (ue : Int) from by omega)
          have HWua := Lib.hid (wrapI_in (x := (ua : Int)) (by omega) (by omega))
          have HWue := Lib.hid (wrapI_in (x := (ue : Int)) (by omega) (by omega))
          have HWa1 := Lib.hid (wrapI_in (x := (ta : Int) + (sa : Int)) (by omega) (by omega))
          have HWe1 := Lib.hid (wrapI_in (x := (te : Int) + (sa : Int)) (by omega) (by omega))
          have HI := Lib.hid (show (i : Int) - (n : Int) = (i1 : Int) from by omega)
          have HW1 := Lib.hid (wrapI_in (x := (i1 : Int)) (by omega) (by omega))
          have C0 : ∀ w', Below W6.heap.size W6 w' → w'.rangeAt bz (oz + i * 3) (tkV (ua, ue, tk)) := fun w' h => (hlz.keep h).range hzt
          have C1 : ∀ w', Below W6.heap.size W6 w' → w'.cell? ⟨by_, oy + i1 * 3, none⟩ = some (.int .i64 (ta : Int)) := fun w' h => (h.cell (p := ⟨by_, oy + i1 * 3, none⟩) hly.1).trans (hly.2 i1 (ta, te, tk) 0 _ hyt rfl)
          have C2 : ∀ w', Below W6.heap.size W6 w' → w'.cell? ⟨by_, oy + i1 * 3 + 1, none⟩ = some (.int .i64 (te : Int)) := fun w' h => (h.cell (p := ⟨by_, oy + i1 * 3 + 1, none⟩) hly.1).trans (hly.2 i1 (ta, te, tk) 1 _ hyt rfl)
          have C3 : ∀ w', Below W6.heap.size W6 w' → w'.cell? ⟨by_, oy + i1 * 3 + 2, none⟩ = some (.int .i64 (tk : Int)) := fun w' h => (h.cell (p := ⟨by_, oy + i1 * 3 + 2, none⟩) hly.1).trans (hly.2 i1 (ta, te, tk) 2 _ hyt rfl)
          have hlo2 : ¬ i < n := by omega
          clear hly hlz hyt hzt hAx hAy hAz hie hnm hk1 hua hue
          go_upto_region 12 with (fail)
          refine wp_region_held_drew (S := fun w' => Below W6.heap.size W6 w') (by kernel_rfl) (below_drew (hB)) (fun _ => ?_)
          have hHeld : Below W6.heap.size W6 wr.drew := below_drew (hB)
          generalize wr.drew = V0 at hHeld ⊢
          refine wt (i := 0) (oi := ⟨some 64, .move (.tmp 13), 3, "law.go:173", #[], none⟩) (v := .int .i64 (i : Int)) (Or.inl ⟨by rfl, fun w' hSw => by go_simp⟩) hHeld ?_
          try simp only [zP, zQ, zS, zZ, zC]
          refine wt (i := 1) (oi := ⟨some 65, .move (.tmp 10), 33, "law.go:173", #[], none⟩) (v := .slice qx n cx) (Or.inl ⟨by rfl, fun w' hSw => by go_simp⟩) hHeld ?_
          try simp only [zP, zQ, zS, zZ, zC]
          refine wt (i := 2) (oi := ⟨some 66, .call { callee := .builtin .len, args := #[.tmp 65], argTypes := #[33] }, 3, "law.go:173", #[⟨1, .data⟩], none⟩) (v := .int .i64 (n : Int)) (Or.inl ⟨by rfl, fun w' hSw => by go_simp⟩) hHeld ?_
          try simp only [zP, zQ, zS, zZ, zC]
          refine wt (i := 3) (oi := ⟨some 67, .binOp .lss 3 (.tmp 64) (.tmp 66) 3, 4, "law.go:173", #[⟨0, .data⟩, ⟨2, .data⟩], none⟩) (v := .bool false) (Or.inl ⟨by rfl, fun w' hSw => by go_simp⟩) hHeld ?_
          try simp only [zP, zQ, zS, zZ, zC]
          refine wt (i := 4) (oi := ⟨some 68, .move (.tmp 67), 4, "law.go:173", #[⟨3, .data⟩], none⟩) (v := .bool false) (Or.inl ⟨by rfl, fun w' hSw => by go_simp⟩) hHeld ?_
          try simp only [zP, zQ, zS, zZ, zC]
          refine wt (i := 5) (oi := ⟨some 69, .move (.tmp 12), 33, "law.go:173", #[⟨4, .guard⟩], some (4, true)⟩) (v := undef) (Or.inr ⟨by rfl, rfl⟩) hHeld ?_
          try simp only [zP, zQ, zS, zZ, zC]
          refine wt (i := 6) (oi := ⟨some 70, .move (.tmp 13), 3, "law.go:173", #[⟨4, .guard⟩], some (4, true)⟩) (v := undef) (Or.inr ⟨by rfl, rfl⟩) hHeld ?_
          try simp only [zP, zQ, zS, zZ, zC]
          refine wt (i := 7) (oi := ⟨some 71, .indexAddr 33 (.tmp 69) (.tmp 70), 0, "law.go:173", #[⟨5, .data⟩, ⟨6, .data⟩, ⟨4, .guard⟩], some (4, true)⟩) (v := undef) (Or.inr ⟨by rfl, rfl⟩) hHeld ?_
          try simp only [zP, zQ, zS, zZ, zC]
          refine wt (i := 8) (oi := ⟨some 72, .load 52 (.tmp 71), 52, "law.go:173", #[⟨7, .data⟩, ⟨4, .guard⟩], some (4, true)⟩) (v := undef) (Or.inr ⟨by rfl, rfl⟩) hHeld ?_
          try simp only [zP, zQ, zS, zZ, zC]
          refine wt (i := 9) (oi := ⟨some 73, .move (.tmp 10), 33, "law.go:173", #[⟨4, .guard⟩], some (4, true)⟩) (v := undef) (Or.inr ⟨by rfl, rfl⟩) hHeld ?_
          try simp only [zP, zQ, zS, zZ, zC]
          refine wt (i := 10) (oi := ⟨some 74, .move (.tmp 13), 3, "law.go:173", #[⟨4, .guard⟩], some (4, true)⟩) (v := undef) (Or.inr ⟨by rfl, rfl⟩) hHeld ?_
          try simp only [zP, zQ, zS, zZ, zC]
          refine wt (i := 11) (oi := ⟨some 75, .indexAddr 33 (.tmp 73) (.tmp 74), 0, "law.go:173", #[⟨9, .data⟩, ⟨10, .data⟩, ⟨4, .guard⟩], some (4, true)⟩) (v := undef) (Or.inr ⟨by rfl, rfl⟩) hHeld ?_
          try simp only [zP, zQ, zS, zZ, zC]
          refine wt (i := 12) (oi := ⟨some 76, .load 52 (.tmp 75), 52, "law.go:173", #[⟨11, .data⟩, ⟨4, .guard⟩], some (4, true)⟩) (v := undef) (Or.inr ⟨by rfl, rfl⟩) hHeld ?_
          try simp only [zP, zQ, zS, zZ, zC]
          refine wt (i := 13) (oi := ⟨some 77, .binOp .neq 52 (.tmp 72) (.tmp 76) 52, 4, "law.go:173", #[⟨8, .data⟩, ⟨12, .data⟩, ⟨4, .guard⟩], some (4, true)⟩) (v := undef) (Or.inr ⟨by rfl, rfl⟩) hHeld ?_
          try simp only [zP, zQ, zS, zZ, zC]
          refine wt (i := 14) (oi := ⟨some 78, .pick (.tmp 68) (.tmp 77) (.const (Value.bool false)), 4, "law.go:173", #[⟨4, .data⟩, ⟨13, .data⟩], none⟩) (v := .bool false) (Or.inl ⟨by rfl, fun w' hSw => by go_simp⟩) hHeld ?_
          try simp only [zP, zQ, zS, zZ, zC]
          refine wpAnyH_done (by kernel_rfl) ?_ _
          have BX := hHeld
          clear hHeld 
          go_upto_region 14 with (fail)
          refine wp_region_held_drew (S := fun w' => Below W6.heap.size W6 w') (by kernel_rfl) (below_drew (BX)) (fun _ => ?_)
          have hHeld : Below W6.heap.size W6 V0.drew := below_drew (BX)
          generalize V0.drew = V1 at hHeld ⊢
          refine wt (i := 0) (oi := ⟨some 79, .move (.tmp 13), 3, "law.go:176", #[], none⟩) (v := .int .i64 (i : Int)) (Or.inl ⟨by rfl, fun w' hSw => by go_simp⟩) hHeld ?_
          try simp only [zP, zQ, zS, zZ, zC]
          refine wt (i := 1) (oi := ⟨some 80, .move (.tmp 10), 33, "law.go:176", #[], none⟩) (v := .slice qx n cx) (Or.inl ⟨by rfl, fun w' hSw => by go_simp⟩) hHeld ?_
          try simp only [zP, zQ, zS, zZ, zC]
          refine wt (i := 2) (oi := ⟨some 81, .call { callee := .builtin .len, args := #[.tmp 80], argTypes := #[33] }, 3, "law.go:176", #[⟨1, .data⟩], none⟩) (v := .int .i64 (n : Int)) (Or.inl ⟨by rfl, fun w' hSw => by go_simp⟩) hHeld ?_
          try simp only [zP, zQ, zS, zZ, zC]
          refine wt (i := 3) (oi := ⟨some 82, .binOp .geq 3 (.tmp 79) (.tmp 81) 3, 4, "law.go:176", #[⟨0, .data⟩, ⟨2, .data⟩], none⟩) (v := .bool true) (Or.inl ⟨by rfl, fun w' hSw => by go_simp⟩) hHeld ?_
          try simp only [zP, zQ, zS, zZ, zC]
          refine wt (i := 4) (oi := ⟨some 83, .move (.tmp 82), 4, "law.go:176", #[⟨3, .data⟩], none⟩) (v := .bool true) (Or.inl ⟨by rfl, fun w' hSw => by go_simp⟩) hHeld ?_
          try simp only [zP, zQ, zS, zZ, zC]
          refine wt (i := 5) (oi := ⟨some 84, .move (.tmp 12), 33, "law.go:176", #[⟨4, .guard⟩], some (4, true)⟩) (v := .slice (some ⟨bz, oz, none⟩) z cz) (Or.inl ⟨by rfl, fun w' hSw => by go_simp⟩) hHeld ?_
          try simp only [zP, zQ, zS, zZ, zC]
          refine wt (i := 6) (oi := ⟨some 85, .move (.tmp 13), 3, "law.go:176", #[⟨4, .guard⟩], some (4, true)⟩) (v := .int .i64 (i : Int)) (Or.inl ⟨by rfl, fun w' hSw => by go_simp⟩) hHeld ?_
          try simp only [zP, zQ, zS, zZ, zC]
          refine wt (i := 7) (oi := ⟨some 86, .indexAddr 33 (.tmp 84) (.tmp 85), 0, "law.go:176", #[⟨5, .data⟩, ⟨6, .data⟩, ⟨4, .guard⟩], some (4, true)⟩) (v := .pointer (some ⟨bz, oz + i * 3, none⟩)) (Or.inl ⟨by rfl, fun w' hSw => by go_simp; try (intro hcm; exact absurd hcm (by omega))⟩) hHeld ?_
          try simp only [zP, zQ, zS, zZ, zC]
          refine wt (i := 8) (oi := ⟨some 87, .load 52 (.tmp 86), 52, "law.go:176", #[⟨7, .data⟩, ⟨4, .guard⟩], some (4, true)⟩) (v := _) (yieldsIf_load_mid (by rfl) _ _ rfl bz (oz + i * 3) rfl (tkV (ua, ue, tk)) _ (fun w' hSw => C0 w' hSw) Try.underlying52 rfl (by kernel_rfl)) hHeld ?_
          try simp only [zP, zQ, zS, zZ, zC]
          refine wt (i := 9) (oi := ⟨some 88, .move (.tmp 11), 33, "law.go:176", #[⟨4, .guard⟩], some (4, true)⟩) (v := .slice (some ⟨by_, oy, none⟩) m cy) (Or.inl ⟨by rfl, fun w' hSw => by go_simp⟩) hHeld ?_
          try simp only [zP, zQ, zS, zZ, zC]
          refine wt (i := 10) (oi := ⟨some 89, .move (.tmp 13), 3, "law.go:176", #[⟨4, .guard⟩], some (4, true)⟩) (v := .int .i64 (i : Int)) (Or.inl ⟨by rfl, fun w' hSw => by go_simp⟩) hHeld ?_
          try simp only [zP, zQ, zS, zZ, zC]
          refine wt (i := 11) (oi := ⟨some 90, .move (.tmp 10), 33, "law.go:176", #[⟨4, .guard⟩], some (4, true)⟩) (v := .slice qx n cx) (Or.inl ⟨by rfl, fun w' hSw => by go_simp⟩) hHeld ?_
          try simp only [zP, zQ, zS, zZ, zC]
          refine wt (i := 12) (oi := ⟨some 91, .call { callee := .builtin .len, args := #[.tmp 90], argTypes := #[33] }, 3, "law.go:176", #[⟨11, .data⟩, ⟨4, .guard⟩], some (4, true)⟩) (v := .int .i64 (n : Int)) (Or.inl ⟨by rfl, fun w' hSw => by go_simp⟩) hHeld ?_
          try simp only [zP, zQ, zS, zZ, zC]
          refine wt (i := 13) (oi := ⟨some 92, .binOp .sub 3 (.tmp 89) (.tmp 91) 3, 3, "law.go:176", #[⟨10, .data⟩, ⟨12, .data⟩, ⟨4, .guard⟩], some (4, true)⟩) (v := .int .i64 (i1 : Int)) (Or.inl ⟨by rfl, fun w' hSw => by have hw := HI.out; have hw2 := HW1.out; go_simp⟩) hHeld ?_
          try simp only [zP, zQ, zS, zZ, zC]
          refine wt (i := 14) (oi := ⟨some 93, .indexAddr 33 (.tmp 88) (.tmp 92), 0, "law.go:176", #[⟨9, .data⟩, ⟨13, .data⟩, ⟨4, .guard⟩], some (4, true)⟩) (v := .pointer (some ⟨by_, oy + i1 * 3, none⟩)) (Or.inl ⟨by rfl, fun w' hSw => by go_simp; try (intro hcm; exact absurd hcm (by omega))⟩) hHeld ?_
          try simp only [zP, zQ, zS, zZ, zC]
          refine wt (i := 15) (oi := ⟨some 94, .fieldAddr 52 (.tmp 93) 0, 0, "law.go:176", #[⟨14, .data⟩, ⟨4, .guard⟩], some (4, true)⟩) (v := .pointer (some ⟨by_, oy + i1 * 3, none⟩)) (Or.inl ⟨by rfl, fun w' hSw => by go_simp⟩) hHeld ?_
          try simp only [zP, zQ, zS, zZ, zC]
          refine wt (i := 16) (oi := ⟨some 95, .load 3 (.tmp 94), 3, "law.go:176", #[⟨15, .data⟩, ⟨4, .guard⟩], some (4, true)⟩) (v := .int .i64 (ta : Int)) (Or.inl ⟨by rfl, fun w' hSw => by have hc := C1 w' hSw; go_simp⟩) hHeld ?_
          try simp only [zP, zQ, zS, zZ, zC]
          refine wt (i := 17) (oi := ⟨some 96, .move (.tmp 7), 9, "law.go:176", #[⟨4, .guard⟩], some (4, true)⟩) (v := .string a) (Or.inl ⟨by rfl, fun w' hSw => by go_simp⟩) hHeld ?_
          try simp only [zP, zQ, zS, zZ, zC]
          refine wt (i := 18) (oi := ⟨some 97, .call { callee := .builtin .len, args := #[.tmp 96], argTypes := #[9] }, 3, "law.go:176", #[⟨17, .data⟩, ⟨4, .guard⟩], some (4, true)⟩) (v := .int .i64 (sa : Int)) (Or.inl ⟨by rfl, fun w' hSw => by have hw := HSA.out; go_simp⟩) hHeld ?_
          try simp only [zP, zQ, zS, zZ, zC]
          refine wt (i := 19) (oi := ⟨some 98, .binOp .add 3 (.tmp 95) (.tmp 97) 3, 3, "law.go:176", #[⟨16, .data⟩, ⟨18, .data⟩, ⟨4, .guard⟩], some (4, true)⟩) (v := .int .i64 ((ta : Int) + (sa : Int))) (Or.inl ⟨by rfl, fun w' hSw => by have hw := HWa1.out; go_simp⟩) hHeld ?_
          try simp only [zP, zQ, zS, zZ, zC]
          refine wt (i := 20) (oi := ⟨some 99, .binOp .add 3 (.tmp 98) (.const (Value.int IntKind.i64 1)) 3, 3, "law.go:176", #[⟨19, .data⟩, ⟨4, .guard⟩], some (4, true)⟩) (v := .int .i64 (ua : Int)) (Or.inl ⟨by rfl, fun w' hSw => by have hw := HUA.out; have hw2 := HWua.out; go_simp⟩) hHeld ?_
          try simp only [zP, zQ, zS, zZ, zC]
          refine wt (i := 21) (oi := ⟨some 100, .move (.tmp 11), 33, "law.go:176", #[⟨4, .guard⟩], some (4, true)⟩) (v := .slice (some ⟨by_, oy, none⟩) m cy) (Or.inl ⟨by rfl, fun w' hSw => by go_simp⟩) hHeld ?_
          try simp only [zP, zQ, zS, zZ, zC]
          refine wt (i := 22) (oi := ⟨some 101, .move (.tmp 13), 3, "law.go:176", #[⟨4, .guard⟩], some (4, true)⟩) (v := .int .i64 (i : Int)) (Or.inl ⟨by rfl, fun w' hSw => by go_simp⟩) hHeld ?_
          try simp only [zP, zQ, zS, zZ, zC]
          refine wt (i := 23) (oi := ⟨some 102, .move (.tmp 10), 33, "law.go:176", #[⟨4, .guard⟩], some (4, true)⟩) (v := .slice qx n cx) (Or.inl ⟨by rfl, fun w' hSw => by go_simp⟩) hHeld ?_
          try simp only [zP, zQ, zS, zZ, zC]
          refine wt (i := 24) (oi := ⟨some 103, .call { callee := .builtin .len, args := #[.tmp 102], argTypes := #[33] }, 3, "law.go:176", #[⟨23, .data⟩, ⟨4, .guard⟩], some (4, true)⟩) (v := .int .i64 (n : Int)) (Or.inl ⟨by rfl, fun w' hSw => by go_simp⟩) hHeld ?_
          try simp only [zP, zQ, zS, zZ, zC]
          refine wt (i := 25) (oi := ⟨some 104, .binOp .sub 3 (.tmp 101) (.tmp 103) 3, 3, "law.go:176", #[⟨22, .data⟩, ⟨24, .data⟩, ⟨4, .guard⟩], some (4, true)⟩) (v := .int .i64 (i1 : Int)) (Or.inl ⟨by rfl, fun w' hSw => by have hw := HI.out; have hw2 := HW1.out; go_simp⟩) hHeld ?_
          try simp only [zP, zQ, zS, zZ, zC]
          refine wt (i := 26) (oi := ⟨some 105, .indexAddr 33 (.tmp 100) (.tmp 104), 0, "law.go:176", #[⟨21, .data⟩, ⟨25, .data⟩, ⟨4, .guard⟩], some (4, true)⟩) (v := .pointer (some ⟨by_, oy + i1 * 3, none⟩)) (Or.inl ⟨by rfl, fun w' hSw => by go_simp; try (intro hcm; exact absurd hcm (by omega))⟩) hHeld ?_
          try simp only [zP, zQ, zS, zZ, zC]
          refine wt (i := 27) (oi := ⟨some 106, .fieldAddr 52 (.tmp 105) 1, 0, "law.go:176", #[⟨26, .data⟩, ⟨4, .guard⟩], some (4, true)⟩) (v := .pointer (some ⟨by_, oy + i1 * 3 + 1, none⟩)) (Or.inl ⟨by rfl, fun w' hSw => by go_simp⟩) hHeld ?_
          try simp only [zP, zQ, zS, zZ, zC]
          refine wt (i := 28) (oi := ⟨some 107, .load 3 (.tmp 106), 3, "law.go:176", #[⟨27, .data⟩, ⟨4, .guard⟩], some (4, true)⟩) (v := .int .i64 (te : Int)) (Or.inl ⟨by rfl, fun w' hSw => by have hc := C2 w' hSw; go_simp⟩) hHeld ?_
          try simp only [zP, zQ, zS, zZ, zC]
          refine wt (i := 29) (oi := ⟨some 108, .move (.tmp 7), 9, "law.go:176", #[⟨4, .guard⟩], some (4, true)⟩) (v := .string a) (Or.inl ⟨by rfl, fun w' hSw => by go_simp⟩) hHeld ?_
          try simp only [zP, zQ, zS, zZ, zC]
          refine wt (i := 30) (oi := ⟨some 109, .call { callee := .builtin .len, args := #[.tmp 108], argTypes := #[9] }, 3, "law.go:176", #[⟨29, .data⟩, ⟨4, .guard⟩], some (4, true)⟩) (v := .int .i64 (sa : Int)) (Or.inl ⟨by rfl, fun w' hSw => by have hw := HSA.out; go_simp⟩) hHeld ?_
          try simp only [zP, zQ, zS, zZ, zC]
          refine wt (i := 31) (oi := ⟨some 110, .binOp .add 3 (.tmp 107) (.tmp 109) 3, 3, "law.go:176", #[⟨28, .data⟩, ⟨30, .data⟩, ⟨4, .guard⟩], some (4, true)⟩) (v := .int .i64 ((te : Int) + (sa : Int))) (Or.inl ⟨by rfl, fun w' hSw => by have hw := HWe1.out; go_simp⟩) hHeld ?_
          try simp only [zP, zQ, zS, zZ, zC]
          refine wt (i := 32) (oi := ⟨some 111, .binOp .add 3 (.tmp 110) (.const (Value.int IntKind.i64 1)) 3, 3, "law.go:176", #[⟨31, .data⟩, ⟨4, .guard⟩], some (4, true)⟩) (v := .int .i64 (ue : Int)) (Or.inl ⟨by rfl, fun w' hSw => by have hw := HUE.out; have hw2 := HWue.out; go_simp⟩) hHeld ?_
          try simp only [zP, zQ, zS, zZ, zC]
          refine wt (i := 33) (oi := ⟨some 112, .move (.tmp 11), 33, "law.go:176", #[⟨4, .guard⟩], some (4, true)⟩) (v := .slice (some ⟨by_, oy, none⟩) m cy) (Or.inl ⟨by rfl, fun w' hSw => by go_simp⟩) hHeld ?_
          try simp only [zP, zQ, zS, zZ, zC]
          refine wt (i := 34) (oi := ⟨some 113, .move (.tmp 13), 3, "law.go:176", #[⟨4, .guard⟩], some (4, true)⟩) (v := .int .i64 (i : Int)) (Or.inl ⟨by rfl, fun w' hSw => by go_simp⟩) hHeld ?_
          try simp only [zP, zQ, zS, zZ, zC]
          refine wt (i := 35) (oi := ⟨some 114, .move (.tmp 10), 33, "law.go:176", #[⟨4, .guard⟩], some (4, true)⟩) (v := .slice qx n cx) (Or.inl ⟨by rfl, fun w' hSw => by go_simp⟩) hHeld ?_
          try simp only [zP, zQ, zS, zZ, zC]
          refine wt (i := 36) (oi := ⟨some 115, .call { callee := .builtin .len, args := #[.tmp 114], argTypes := #[33] }, 3, "law.go:176", #[⟨35, .data⟩, ⟨4, .guard⟩], some (4, true)⟩) (v := .int .i64 (n : Int)) (Or.inl ⟨by rfl, fun w' hSw => by go_simp⟩) hHeld ?_
          try simp only [zP, zQ, zS, zZ, zC]
          refine wt (i := 37) (oi := ⟨some 116, .binOp .sub 3 (.tmp 113) (.tmp 115) 3, 3, "law.go:176", #[⟨34, .data⟩, ⟨36, .data⟩, ⟨4, .guard⟩], some (4, true)⟩) (v := .int .i64 (i1 : Int)) (Or.inl ⟨by rfl, fun w' hSw => by have hw := HI.out; have hw2 := HW1.out; go_simp⟩) hHeld ?_
          try simp only [zP, zQ, zS, zZ, zC]
          refine wt (i := 38) (oi := ⟨some 117, .indexAddr 33 (.tmp 112) (.tmp 116), 0, "law.go:176", #[⟨33, .data⟩, ⟨37, .data⟩, ⟨4, .guard⟩], some (4, true)⟩) (v := .pointer (some ⟨by_, oy + i1 * 3, none⟩)) (Or.inl ⟨by rfl, fun w' hSw => by go_simp; try (intro hcm; exact absurd hcm (by omega))⟩) hHeld ?_
          try simp only [zP, zQ, zS, zZ, zC]
          refine wt (i := 39) (oi := ⟨some 118, .fieldAddr 52 (.tmp 117) 2, 0, "law.go:176", #[⟨38, .data⟩, ⟨4, .guard⟩], some (4, true)⟩) (v := .pointer (some ⟨by_, oy + i1 * 3 + 2, none⟩)) (Or.inl ⟨by rfl, fun w' hSw => by go_simp⟩) hHeld ?_
          try simp only [zP, zQ, zS, zZ, zC]
          refine wt (i := 40) (oi := ⟨some 119, .load 3 (.tmp 118), 3, "law.go:176", #[⟨39, .data⟩, ⟨4, .guard⟩], some (4, true)⟩) (v := .int .i64 (tk : Int)) (Or.inl ⟨by rfl, fun w' hSw => by have hc := C3 w' hSw; go_simp⟩) hHeld ?_
          try simp only [zP, zQ, zS, zZ, zC]
          refine wt (i := 41) (oi := ⟨some 120, .build 52 #[(0, .tmp 99), (1, .tmp 111), (2, .tmp 119)], 52, "law.go:176", #[⟨20, .data⟩, ⟨32, .data⟩, ⟨40, .data⟩, ⟨4, .guard⟩], some (4, true)⟩) (v := .agg #[.int .i64 (ua : Int), .int .i64 (ue : Int), .int .i64 (tk : Int)]) (Or.inl ⟨by rfl, fun w' hSw => by go_simp⟩) hHeld ?_
          try simp only [zP, zQ, zS, zZ, zC]
          refine wt (i := 42) (oi := ⟨some 121, .binOp .neq 52 (.tmp 87) (.tmp 120) 52, 4, "law.go:176", #[⟨8, .data⟩, ⟨41, .data⟩, ⟨4, .guard⟩], some (4, true)⟩) (v := .bool false) (Or.inl ⟨by rfl, fun w' hSw => by unfold tkV; go_simp⟩) hHeld ?_
          try simp only [zP, zQ, zS, zZ, zC]
          refine wt (i := 43) (oi := ⟨some 122, .pick (.tmp 83) (.tmp 121) (.const (Value.bool false)), 4, "law.go:176", #[⟨4, .data⟩, ⟨42, .data⟩], none⟩) (v := .bool false) (Or.inl ⟨by rfl, fun w' hSw => by go_simp⟩) hHeld ?_
          try simp only [zP, zQ, zS, zZ, zC]
          refine wpAnyH_done (by kernel_rfl) ?_ _
          have BY := hHeld
          clear hHeld 
          clear C0 C1 C2 C3
          go_wp2
          exact ⟨⟨i + 1, by omega, by go_num, BY⟩, by simp [intOf]; omega⟩
    · have hlt : ¬ i < z := by omega
      obtain rfl : i = z := by omega
      have hBw := link hBb hB
      clear HLe HRi HTi hB hAx hAy hAz
      obtain ⟨wb, rfl⟩ : ∃ wb, wb = wr := ⟨_, rfl⟩
      go_upto_region 18 with (first
        | (go_at_call_of 25 (Value.string jn); refine (HWj.out wb).mono ?_; rintro en u1 ⟨vj, rfl, hOj, hBj⟩; obtain ⟨qj, cj, rfl, hcj, hAj, _, _⟩ := hOj.form; rw [HWN.out]; have hE0 := own_new strE u1 #[] [] 0 rfl (by omega) rfl; have hE1 : Below u1.heap.size u1 (u1.alloc (.cells #[] 9)) := (Below.refl _ _).alloc (Nat.le_refl _) _)
        | (go_at_call_of 25 (Value.string a); refine (HWa.out _).mono ?_; rintro en u2 ⟨va, rfl, hOa, hBa⟩; obtain ⟨qa, ca, rfl, hca, hAa, hqa, _⟩ := hOa.form; have hE2 := hE0.keep hBa; replace hE1 := hE1.trans (hBa.mono hE1.size))
        | (refine app_ls strE rfl (.tmp 125) (.tmp 127) rfl [] WA _ rfl hE2 hE1.size qa WA.length ca rfl rfl hAa hqa (by decide) (by omega) ?_; intro v1 u3 hO1 hB1; replace hE1 := hE1.trans hB1)
        | (go_at_call_of 25 (Value.string b); refine (HWb.out _).mono ?_; rintro en u4 ⟨vb, rfl, hOb, hBb4⟩; obtain ⟨qb, cb, rfl, hcb, hAb, hqb, _⟩ := hOb.form; have hO2 := hO1.keep hBb4; replace hE1 := hE1.trans (hBb4.mono hE1.size))
        | (refine app_ls strE rfl (.tmp 128) (.tmp 130) rfl ([] ++ WA) WB _ rfl hO2 hE1.size qb WB.length cb rfl rfl hAb hqb (by rw [List.nil_append]; omega) (by omega) ?_; intro v2 u5 hO3 hB3; replace hE1 := hE1.trans hB3; rw [List.nil_append, ← HWJ.out] at hO3; obtain ⟨q2, c2', rfl, hc2, hA2, _, _⟩ := hO3.form; rw [HWN.out]; have hAj5 := hAj.keep hE1; have hBw5 := link (link hBw hBj) hE1)
        | (go_at_call 24; refine (sameTexts_refl WJ qj q2 wn cj c2' HWN.out (by have := HWN.out; omega) u5 hAj5 hA2).mono ?_; rintro en u6 ⟨rfl, hB6⟩; replace hB6 := link hBw5 hB6)
        | (go_at_call_of 31 (Value.string jn); refine (HMj.out u6).mono ?_; rintro en u7 ⟨m1, d1, rfl, _, hM1, hB7⟩; replace hB7 := link hB6 hB7)
        | (go_at_call_of 31 (Value.string a); refine (HMa.out u7).mono ?_; rintro en u8 ⟨m2, d2, rfl, _, hM2, hB8⟩; have hM3 := hM1.keep hB8; replace hB8 := link hB7 hB8)
        | (go_at_call_of 31 (Value.string b); refine (HMb.out u8).mono ?_; rintro en u9 ⟨m3, d3, rfl, _, hM4, hB9⟩; have hM5 := hM3.keep hB9; have hM6 := hM2.keep hB9; replace hB9 := link hB8 hB9)
        | (go_at_call 38; refine (HSh.out m1 m2 m3 d1 d2 d3 u9 hM5 hM6 hM4).mono ?_; rintro en ua ⟨rfl, hBA⟩; replace hBA := link hB9 hBA))
      clear hB6 hB7 hB8 hB9
      go_upto_region 21 with (go_at_call 35; refine (HC1.out ua (HG.out _ hBA)).mono ?_; rintro en ub ⟨rfl, hBB⟩; replace hBB := link hBA hBB)
      clear HC1 hBA
      go_upto_region 22 with (first
        | (go_at_call 19; refine (HAr.out i hz0 (by omega) ub).mono ?_; rintro en uc ⟨r, hr, rfl, hw⟩; rw [hw]; clear hw)
        | (go_at_call 35; refine (HC2.out r hr ub (HG.out _ hBB)).mono ?_; rintro en ud ⟨c, d, e, hcde, rfl, hBD⟩; replace hBD := link hBB hBD))
      rcases hcde with rfl | ⟨rfl, hcd⟩
      · go_wp2_with (go_at_call 14; refine (HLv.out ud (HG.out _ hBD)).mono ?_; rintro en ue ⟨rfl, hBE⟩)
        go_ret
        exact ⟨rfl, link hBD hBE⟩
      · have HJ3 := Lib.hid (HJ2.out c d hcd)
        clear hcd
        go_wp2_with (first
          | (go_at_call 33; refine (HJ3.out ud).mono ?_; rintro en uf ⟨rfl, hBF⟩; replace hBF := link hBD hBF)
          | (go_at_call 14; refine (HLv.out uf (HG.out _ hBF)).mono ?_; rintro en ue ⟨rfl, hBE⟩))
        go_ret
        exact ⟨rfl, link hBF hBE⟩
end Go.Proofs.Ytehkgpefmjfifaa
