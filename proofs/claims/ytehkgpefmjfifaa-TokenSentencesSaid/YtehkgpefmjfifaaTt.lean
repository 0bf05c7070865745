/-
  TokenSentences.
-/
import Derived.Test.YtehkgpefmjfifaaLs
import Derived.Test.YtehkgpefmjfifaaGc
import Derived.Test.YtehkgpefmjfifaaRa
import Derived.Test.YtehkgpefmjfifaaMo
namespace Go.Proofs.Ytehkgpefmjfifaa
open Go.RowKit
set_option linter.unusedVariables false
set_option linter.unusedSimpArgs false

/-- The number of a sentence, and where the one before ended. -/
def SeRel (Y : List (Int × Int)) (p : Nat) (W : World) (v16 v17 : Value) (wr : World) : Prop := ∃ k : Nat, k ≤ p ∧ v16 = .int .i64 (prevS Y k) ∧ v17 = .int .i64 (k : Int) ∧ Below W.heap.size W wr
/-- A token of a sentence. -/
def StRel (W : World) (u v : Nat) (x : Value) (wr : World) : Prop := ∃ j : Nat, u ≤ j ∧ j ≤ v ∧ x = .int .i64 (j : Int) ∧ Below W.heap.size W wr
theorem wrap_in {x : Int} (h1 : -1000000000 ≤ x) (h2 : x ≤ 1000000000) : IntKind.i64.wrap x = x := by simp [IntKind.wrap, IntKind.signed, IntKind.bits]; omega
/-- What has been appended so far. -/
def AppRel (w : World) (B nq bq br : Nat) (csq csr : List Value) (P S : List (Int × Int)) (v22 v26 : Value) (wr : World) : Prop :=
  ∃ i : Nat, v26 = .int .i64 (i : Int) ∧ i ≤ nq ∧ OwnR prE wr B v22 (P ++ S.take i) ∧ v22.ownBlock ≠ some bq ∧ v22.ownBlock ≠ some br ∧ Blk wr bq 35 csq ∧ Blk wr br 35 csr ∧ Below w.heap.size w wr
theorem shiftP_length (F n : Int) (l : List (Int × Int)) : (shiftP F n l).length = l.length := by cases l <;> simp [shiftP]
theorem shiftP_zero (F n : Int) {l : List (Int × Int)} {q : Int × Int} (h : l[0]? = some q) : (shiftP F n l)[0]? = some (F, q.2 + n) := by
  rcases l with _ | ⟨p, r⟩
  · cases h
  · injection h with h
    subst h
    rfl
theorem shiftP_succ (F n : Int) {l : List (Int × Int)} {i : Nat} {q : Int × Int} (h : l[i + 1]? = some q) : (shiftP F n l)[i + 1]? = some (q.1 + n, q.2 + n) := by
  rcases l with _ | ⟨p, r⟩
  · cases h
  · rw [List.getElem?_cons_succ] at h
    show (r.map fun q => (q.1 + n, q.2 + n))[i]? = _
    rw [List.getElem?_map, h]
    rfl
theorem shift_cells (b : ByteArray) (F n : Nat) (cs : List Value) (h : cs.take ((sentM b).length * 2) = prE.row (sentM b)) (hF : F ≤ 1000) (hn : n ≤ 1000) (hb : b.size ≤ 1000) (i : Nat) (hi : i < (sentM b).length) :
    ∃ u v : Int, (cs.set 0 (.int .i64 ((F : Int) - (n : Int))))[i * 2]? = some (.int .i64 u) ∧ (cs.set 0 (.int .i64 ((F : Int) - (n : Int))))[i * 2 + 1]? = some (.int .i64 v) ∧ (shiftP (F : Int) (n : Int) (sentM b))[i]? = some (u + (n : Int), v + (n : Int)) ∧ -100000 ≤ u ∧ u ≤ 100000 ∧ -100000 ≤ v ∧ v ≤ 100000 := by
  obtain ⟨q, hq⟩ : ∃ q, (sentM b)[i]? = some q := ⟨_, List.getElem?_eq_getElem hi⟩
  obtain ⟨u, v, rfl, _, h2, h3, _⟩ := (sentM_ok b).2.2.2 i q hq
  have htl := toks_len (sb b)
  rw [sb_length] at htl
  have c0 : cs[i * 2]? = some (.int .i64 (u : Int)) := row_at (E := prE) h (j := 0) hq rfl
  have c1 : cs[i * 2 + 1]? = some (.int .i64 (v : Int)) := row_at (E := prE) h (j := 1) hq rfl
  rcases i with _ | i
  · refine ⟨(F : Int) - (n : Int), v, ?_, ?_, ?_, by omega, by omega, by omega, by omega⟩
    · rw [Nat.zero_mul] at c0 ⊢
      rw [List.getElem?_set_self (List.getElem?_eq_some_iff.1 c0).1]
    · rw [List.getElem?_set_ne (by omega)]; exact c1
    · rw [shiftP_zero _ _ hq]
      congr 2
      omega
  · refine ⟨u, v, ?_, ?_, shiftP_succ _ _ hq, by omega, by omega, by omega, by omega⟩
    · rw [List.getElem?_set_ne (by omega)]; exact c0
    · rw [List.getElem?_set_ne (by omega)]; exact c1
theorem set_same {cs : List Value} {x : Value} (h : cs[0]? = some x) : cs.set 0 x = cs := by
  rcases cs with _ | ⟨y, r⟩
  · rfl
  · injection h with h
    subst h
    rfl

set_option maxHeartbeats 8000000 in
set_option maxRecDepth 100000 in
theorem tokenSentences_any (A : Option Addr) (l : List Int) (n c : Nat) (hl : l.length = n) (A2 : Option Addr) (l2 : List Int) (n2 c2 : Nat) (hl2 : l2.length = n2) (how by_ : Int) (h1 : -9223372036854775808 ≤ how) (h2 : how ≤ 9223372036854775807) (h3 : -9223372036854775808 ≤ by_) (h4 : by_ ≤ 9223372036854775807) (raw : ByteArray) (w : World) (hA : IntsAt w A l) (hA2 : IntsAt w A2 l2) (hG : GM w) :
    Calls Try.prog 9 #[.slice A n c, .slice A2 n2 c2, .int .i64 how, .int .i64 by_, .string raw] w (Told w true) := by
  have HT := Lib.hid (texts_any A l n c hl how by_ h1 h2 h3 h4 raw _ rfl 600 (by omega) w hA)
  have HLv := Lib.hid (fun (V : World) (h : GM V) => lives_any V h)
  have HM1 := Lib.hid (fun (V : World) (h : Below w.heap.size w V) => (show Calls Try.prog 37 #[.slice A n c, .int .i64 0] V (SomeG 120 V) from markedG A l n c hl 0 (by omega) V (hA.keep h)))
  have HM2 := Lib.hid (fun (V : World) (h : Below w.heap.size w V) => (show Calls Try.prog 37 #[.slice A2 n2 c2, .int .i64 0] V (SomeG 120 V) from markedG A2 l2 n2 c2 hl2 0 (by omega) V (hA2.keep h)))
  clear hl hl2 h1 h2 h3 h4 hA hA2
  go_enter Try.func9, Try.ntmps9
  go_wp2_with (go_at_call 11; refine HT.out.mono ?_; rintro en W1 ⟨L, kk, q1, c1, hLk, hk5, hk6, hs, rfl, hc1, hAt, hB1⟩)
  have hG1 := Lib.hid (fun (V : World) (h : Below w.heap.size w V) => hG.keep h)
  have hLK := Lib.hid hLk
  clear HT hLk
  go_loopw [12] (fun v wr => NumRel W1 kk v wr) (fun v _ => kk - (intOf v).toNat)
  case atStart => exact ⟨0, Nat.zero_le _, rfl, Below.refl _ _⟩
  case round =>
    obtain ⟨i, hi, rfl, hB⟩ := hrel
    rcases Nat.lt_or_ge i kk with hlt | hge
    · as_aux_lemma =>
        obtain ⟨x, hx⟩ : ∃ x, L[i]? = some x := ⟨_, List.getElem?_eq_getElem (by rw [hLK.out]; exact hlt)⟩
        have hxs := hs x (List.mem_of_getElem? hx)
        obtain ⟨b1, off1, rfl, hLy⟩ := hAt.get (i := i) (by rw [hLK.out]; exact hlt)
        have c0 : wr.cell? ⟨b1, off1 + i, none⟩ = some (.string x) := by
          have := (hLy.keep hB).2 i x 0 _ hx rfl
          rwa [show strE.k = 1 from rfl, Nat.mul_one, Nat.add_zero] at this
        have hx9 : x.size ≤ 1000000000 := by omega
        have htl := toks_len (sb x)
        rw [sb_length] at htl
        obtain ⟨m, hm⟩ : ∃ m, (toks (sb x)).length = m := ⟨_, rfl⟩
        obtain ⟨Y, hY⟩ : ∃ Y, sentM x = Y := ⟨_, rfl⟩
        obtain ⟨pp, hpp⟩ : ∃ pp, Y.length = pp := ⟨_, rfl⟩
        have hOK := sentM_ok x
        rw [sentM_end, hm, hY] at hOK
        obtain ⟨o1, _, _, o4⟩ := hOK
        rw [hpp] at o1
        have hpm : pp ≤ m := by have := (sent_len x (toks (sb x)) m).1; rw [← hpp, ← hY]; unfold sentM; rw [hm]; exact this
        have hm9 : m ≤ 100000 := by omega
        have HS := Lib.hid (fun V : World => (split_any x _ rfl hx9 V).mono (fun _ _ h => MadeR.give (E := tkE) h hm))
        have HSe := Lib.hid (fun V : World => (sentences_any x hx9 V).mono (fun _ _ h => MadeR.give (E := prE) (l := Y) (by rw [hY] at h; exact h) hpp))
        have HStop := Lib.hid (fun (j : Nat) (t : Tk) (hj : j < m) (ht : (toks (sb x))[j]? = some t) (q : Option Addr) (c : Nat) (V : World) (h : At tkE V q (toks (sb x))) => lstop_any x hx9 m hm q c j hj t ht V h)
        have HO := Lib.hid o4
        have HE := Lib.hid o1
        have HN := Lib.hid hm
        have HP := Lib.hid hpp
        clear hx hLy hx9 htl hm hY hpp o1 o4
        go_upto_region 7 with (go_at_call 18; refine (HS.out wr).mono ?_; rintro en W2 ⟨q2, c3, rfl, hc2, hA2, hB2⟩; replace hB := link hB hB2)
        clear HS c0 hB2
        go_upto_region 8 with (go_at_call 28; refine (HSe.out W2).mono ?_; rintro en W3 ⟨q3, c4, rfl, hc3, hA3, hB3⟩; replace hB := link hB hB3)
        have hA2 := hA2.keep hB3
        have BW := Lib.hid (fun (V : World) (h : Below W3.heap.size W3 V) => link hB h)
        clear HSe hB hB3
        go_wp2
        go_loopw [16, 17] (fun v16 v17 wr => SeRel Y pp W3 v16 v17 wr) (fun _ v _ => pp - (intOf v).toNat)
        case atStart => exact ⟨0, Nat.zero_le _, rfl, rfl, Below.refl _ _⟩
        case round =>
          obtain ⟨k, hk, rfl, rfl, hB3⟩ := hrel
          rcases Nat.lt_or_ge k pp with hltk | hgek
          · obtain ⟨pr, hpr⟩ : ∃ pr, Y[k]? = some pr := ⟨_, List.getElem?_eq_getElem (by rw [HP.out]; exact hltk)⟩
            obtain ⟨u, v, rfl, hu, huv, hvm, hst⟩ := HO.out k pr hpr
            obtain ⟨b, off, rfl, hL⟩ := hA3.get (i := k) (by rw [HP.out]; exact hltk)
            have c0 : wr.cell? ⟨b, off + k * 2, none⟩ = some (.int .i64 (u : Int)) := (hL.keep hB3).2 k ((u : Int), (v : Int)) 0 _ hpr rfl
            have c1 : wr.cell? ⟨b, off + k * 2 + 1, none⟩ = some (.int .i64 (v : Int)) := (hL.keep hB3).2 k ((u : Int), (v : Int)) 1 _ hpr rfl
            have HNx := Lib.hid (prevS_next hpr)
            have HSt := Lib.hid hst
            rw [hu]
            clear hst hu hpr hL
            go_wp2
            clear c0 c1
            go_loopw [18] (fun x wr => StRel W3 u v x wr) (fun x _ => v - (intOf x).toNat)
            case atStart => exact ⟨u, Nat.le_refl _, Nat.le_of_lt huv, rfl, hB3⟩
            case round =>
              obtain ⟨j, hj1, hj2, rfl, hB4⟩ := hrel
              rcases Nat.lt_or_ge j v with hjv | hjv
              · obtain ⟨t, ht⟩ : ∃ t, (toks (sb x))[j]? = some t := ⟨_, List.getElem?_eq_getElem (by rw [HN.out]; omega)⟩
                have HS1 := Lib.hid (fun (V : World) (h : Below W3.heap.size W3 V) => HStop.out j t (by omega) ht q2 c3 V (hA2.keep h))
                obtain ⟨s1, s2⟩ := HSt.out j t hj1 hjv ht
                generalize stopT x t = z at HS1 s1 s2
                rw [HN.out] at s2
                obtain ⟨j1, hj1'⟩ : ∃ j1, j + 1 = j1 := ⟨_, rfl⟩
                have hjj : (j : Int) + 1 = (j1 : Int) := by omega
                have HW := Lib.hid (wrap_in (x := (j1 : Int)) (by omega) (by omega))
                have hs1 : z = true → j1 = v := fun h => hj1' ▸ s1 h
                have hs2 : j1 = v → v < m → z = true := fun h => s2 (hj1'.trans h)
                have hj1v : j1 ≤ v := by omega
                have hre : ∀ V, Below W3.heap.size W3 V → StRel W3 u v (.int .i64 (j1 : Int)) V := fun V h => ⟨j1, by omega, hj1v, rfl, h⟩
                have hre := Lib.hid hre
                have hme : v - (intOf (.int .i64 (j1 : Int))).toNat < v - (intOf (.int .i64 (j : Int))).toNat := by simp [intOf]; omega
                have hme := Lib.hid hme
                clear s1 s2 ht hj1'
                rcases z with _ | _
                · rcases Nat.lt_or_ge j1 v with hlv | hlv
                  · have hne : ((j1 : Int) == (v : Int)) = false := by simp; omega
                    clear hs1 hs2
                    go_wp2_with (first
                      | (go_at_call 39; refine (HS1.out wr hB4).mono ?_; rintro en w1 ⟨rfl, hBa⟩; replace hBa := link hB4 hBa)
                      | (go_at_call 39; refine (HS1.out w1 hBa).mono ?_; rintro en w2 ⟨rfl, hBb⟩; replace hBb := link hBa hBb))
                    exact ⟨hre.out _ hBb, hme.out⟩
                  · obtain rfl : j1 = v := by omega
                    have hvm2 : ¬ j1 < m := fun h => by cases hs2 rfl h
                    clear hs1 hs2 hlv
                    have hne : ((j1 : Int) == (j1 : Int)) = true := by simp
                    go_wp2_with (first
                      | (go_at_call 39; refine (HS1.out wr hB4).mono ?_; rintro en w1 ⟨rfl, hBa⟩; replace hBa := link hB4 hBa)
                      | (go_at_call 39; refine (HS1.out w1 hBa).mono ?_; rintro en w2 ⟨rfl, hBb⟩; replace hBb := link hBa hBb))
                    exact ⟨hre.out _ hBb, hme.out⟩
                · obtain rfl : j1 = v := hs1 rfl
                  have hne : ((j1 : Int) == (j1 : Int)) = true := by simp
                  clear hs1 hs2
                  go_wp2_with (first
                    | (go_at_call 39; refine (HS1.out wr hB4).mono ?_; rintro en w1 ⟨rfl, hBa⟩; replace hBa := link hB4 hBa)
                    | (go_at_call 39; refine (HS1.out w1 hBa).mono ?_; rintro en w2 ⟨rfl, hBb⟩; replace hBb := link hBa hBb))
                  exact ⟨hre.out _ hBb, hme.out⟩
              · obtain rfl : j = v := by omega
                have hjv : ¬ j < j := by omega
                go_wp2
                exact ⟨⟨k + 1, by omega, by rw [HNx.out], by go_num, hB4⟩, by simp [intOf]; omega⟩
          · have hltk : ¬ k < pp := by omega
            obtain rfl : k = pp := by omega
            rw [HE.out]
            go_wp2
            exact ⟨⟨i + 1, by omega, by go_num, BW.out _ hB3⟩, by simp [intOf]; omega⟩
    · have hlt : ¬ i < kk := by omega
      obtain rfl : i = kk := by omega
      have hX := link hB1 hB
      clear hB hB1 hAt hs hlt
      go_upto_region 23 with (go_at_call 37; refine (HM1.out wr hX).mono ?_; rintro en w1 ⟨a, ⟨hga, hsa⟩, rfl, hBa⟩; replace hBa := link hX hBa)
      clear HM1 hX
      go_upto_region 24 with (go_at_call 37; refine (HM2.out w1 hBa).mono ?_; rintro en w2 ⟨b, ⟨hgb, hsb⟩, rfl, hBb⟩; replace hBb := link hBa hBb)
      clear HM2 hBa
      obtain ⟨X, hX⟩ : ∃ X, toks (sb a) = X := ⟨_, rfl⟩
      have hXn : X ≠ [] := hX ▸ gd_toks hga
      have hbn : toks (sb b) ≠ [] := gd_toks hgb
      have hqn := sentM_ne hbn
      have hpn := sentM_ne (s := a) (hX ▸ hXn)
      obtain ⟨n0, hn0⟩ : ∃ n0, X.length = n0 + 1 := ⟨X.length - 1, by have := List.length_pos_iff.2 hXn; omega⟩
      obtain ⟨N, hN⟩ : ∃ N, n0 + 1 = N := ⟨_, rfl⟩
      rw [hN] at hn0
      obtain ⟨t, ht⟩ : ∃ t, X[n0]? = some t := ⟨_, List.getElem?_eq_getElem (by omega)⟩
      have hmid := sent_mid a b n0 (by rw [hX]; omega) hbn t (by rw [hX]; exact ht)
      rw [hN] at hmid
      have hrt := fun P F h => sentM_join a b N (by rw [hX]; exact hn0) P F h
      have htl := toks_len (sb a)
      rw [sb_length, hX, hn0] at htl
      have hjs := join_size a b
      obtain ⟨np, hnp⟩ : ∃ np, (sentM a).length = np := ⟨_, rfl⟩
      obtain ⟨nq, hnq⟩ : ∃ nq, (sentM b).length = nq := ⟨_, rfl⟩
      have hnp0 : 0 < np := by have := List.length_pos_iff.2 hpn; omega
      have hnq0 : 0 < nq := by have := List.length_pos_iff.2 hqn; omega
      have hnp9 : np ≤ N := by have := (sent_len a (toks (sb a)) (toks (sb a)).length).1; rw [← hnp]; unfold sentM; rw [hX, hn0] at this ⊢; exact this
      have hnq9 : nq ≤ 120 := by have h5 := (sent_len b (toks (sb b)) (toks (sb b)).length).1; have h6 := toks_len (sb b); rw [sb_length] at h6; rw [← hnq]; unfold sentM; omega
      have HSa := Lib.hid (fun V : World => (split_any a _ rfl (by omega) V).mono (fun en V2 h => (show GiveR tkE X N V en V2 from by subst hX; exact MadeR.give (E := tkE) h hn0)))
      have HSea := Lib.hid (fun V : World => sentences_any a (by omega) V)
      have HSeb := Lib.hid (fun V : World => sentences_any b (by omega) V)
      have HSej := Lib.hid (fun V : World => sentences_any (joinS a b) (by omega) V)
      have HJ := Lib.hid (fun V : World => join_any a b (by omega) (by omega) V)
      have HStop := Lib.hid (fun (q : Option Addr) (c : Nat) (V : World) (h : At tkE V q X) => lstop_any a (by omega) N (by rw [hX]; exact hn0) q c n0 (by omega) t (by rw [hX]; exact ht) V (by rw [hX]; exact h))
      have hz0 : (toks (sb b)).length ≤ 120 := by have h6 := toks_len (sb b); rw [sb_length] at h6; omega
      have hSC := fun F cs h hF i hi => shift_cells b F N cs h hF (by omega) (by omega) i hi
      have hF0 : (sentM b)[0]? = none ∨ ∃ v : Int, (sentM b)[0]? = some (0, v) := by
        rcases hq : (sentM b)[0]? with _ | q
        · exact Or.inl rfl
        · obtain ⟨u, v, rfl, e, _⟩ := (sentM_ok b).2.2.2 0 q hq
          have e : (0 : Int) = (u : Int) := e
          exact Or.inr ⟨v, by rw [← e]⟩
      have HMid := Lib.hid hmid
      have HRt := Lib.hid hrt
      have HSC := Lib.hid hSC
      have HF0 := Lib.hid hF0
      have HNP := Lib.hid hnp
      have HNQ := Lib.hid hnq
      have HPN := Lib.hid hpn
      have HQN := Lib.hid hqn
      have HGA := Lib.hid hga
      clear hX hXn ht hmid hrt hjs hnp hnq hSC hF0 hpn hqn hbn hga hgb hz0
      go_upto_region 25 with (go_at_call 18; refine (HSa.out w2).mono ?_; rintro en w3 ⟨qx, cx, rfl, hcx, hAx, hB3⟩; replace hBb := link hBb hB3)
      clear HSa hB3
      go_upto_region 26 with (go_at_call 28; refine (HSea.out w3).mono ?_; rintro en w4 ⟨vp, rfl, hOp, hB4⟩)
      obtain ⟨bp, cp, csp, rfl, hbp, hcp, hKp, htp⟩ := hOp.blk HPN.out
      rw [HNP.out] at hcp ⊢
      have hOp : OwnR prE w4 w3.heap.size (.slice (some ⟨bp, 0, none⟩) np cp) (sentM a) := by have := hOp; rw [HNP.out] at this; exact this
      replace hAx := hAx.keep hB4
      have hBz : w.heap.size ≤ w3.heap.size := hBb.size
      replace hBb := link hBb hB4
      have hbp4 := hKp.lt
      generalize w3.heap.size = B at hOp hbp hBz
      clear HSea hB4
      go_upto_region 27 with (go_at_call 28; refine (HSeb.out w4).mono ?_; rintro en w5 ⟨vq, rfl, hOq, hB5⟩)
      obtain ⟨bq, cq, csq0, rfl, hbq, hcq, hKq, htq⟩ := hOq.blk HQN.out
      rw [HNQ.out] at hcq ⊢
      replace hAx := hAx.keep hB5
      replace hOp := hOp.keep hB5
      replace hKp := hKp.keep hB5
      have hqw : w.heap.size ≤ bq := Nat.le_trans hBb.size hbq
      have hpq : bp ≠ bq := by omega
      replace hBb := link hBb hB5
      have hbq5 := hKq.lt
      clear HSeb hB5 hOq
      go_upto_region 28 with (first
        | (go_at_call 33; refine (HJ.out w5).mono ?_; rintro en w6 ⟨rfl, hB6⟩)
        | (go_at_call 28; refine (HSej.out w6).mono ?_; rintro en W7 ⟨vr, rfl, hOr, hB7⟩))
      have hRn : sentM (joinS a b) ≠ [] := sentM_ne (by rw [toks_join]; intro h; exact absurd (List.append_eq_nil_iff.1 h).1 (gd_toks HGA.out))
      obtain ⟨br, cr, csr, rfl, hbr, hcr, hKr, htr⟩ := hOr.blk hRn
      obtain ⟨nr, hnr⟩ : ∃ nr, (sentM (joinS a b)).length = nr := ⟨_, rfl⟩
      rw [hnr] at hcr ⊢
      have hB67 := link hB6 hB7
      replace hAx := hAx.keep hB67
      replace hOp := hOp.keep hB67
      replace hKp := hKp.keep hB67
      replace hKq := hKq.keep hB67
      have hqr : bq ≠ br := by have := hB6.size; omega
      have hpr : bp ≠ br := by have := hB6.size; omega
      have hX7 := link hBb hB67
      have HNR := Lib.hid hnr
      have HTQ := Lib.hid htq
      have HTR := Lib.hid htr
      have HTP := Lib.hid htp
      have HStp := Lib.hid (HStop.out qx cx W7 hAx)
      have hnr9 : nr ≤ 1000 := by have h5 := (sent_len (joinS a b) (toks (sb (joinS a b))) (toks (sb (joinS a b))).length).1; have h6 := toks_len (sb (joinS a b)); rw [sb_length, join_size] at h6; rw [← hnr]; unfold sentM; omega
      clear HSej HJ hB6 hB7 hB67 hBb hAx hOr hnr htq htr htp hRn HStop
      generalize sentM (joinS a b) = RR at HRt HNR HTR
      have hN1 : ((N : Int) == 0) = false := by simp; omega
      have hN2 : ((np : Int) == 0) = false := by simp; omega
      have hN3 : ((nq : Int) == 0) = false := by simp; omega
      have HWN := Lib.hid (wrap_in (x := (n0 : Int)) (by omega) (by omega))
      have hNn : (N : Int) - 1 = (n0 : Int) := by omega
      go_upto_region 31 with (fail)
      clear hN1 hN2 hN3
      have hMid := HMid.out
      generalize stopT a t = z at HStp hMid
      rcases z with _ | _
      · obtain ⟨P, F, hPF, hsF⟩ := hMid.2 rfl
        have hPl : np = P.length + 1 := by rw [← HNP.out, hPF, List.length_append]; rfl
        have HR := Lib.hid (HRt.out P F hsF)
        have hF9 : F ≤ N := by have h5 := (sent_len (joinS a b) (toks (sb (joinS a b))) N).2; rw [hsF] at h5; exact h5
        have hTP := HTP.out
        rw [hPF] at hOp hTP
        have cF : csp[P.length * 2]? = some (.int .i64 (F : Int)) := row_at (E := prE) hTP (i := P.length) (j := 0) (x := ((F : Int), (N : Int))) (by rw [List.getElem?_append_right (Nat.le_refl _), Nat.sub_self]; rfl) rfl
        have HC := Lib.hid (HSC.out F csq0 HTQ.out (by omega))
        have hq0 : ∃ v, csq0[0]? = some v := by
          obtain ⟨q, hq⟩ : ∃ q, (sentM b)[0]? = some q := ⟨_, List.getElem?_eq_getElem (by rw [HNQ.out]; exact hnq0)⟩
          exact ⟨_, row_at (E := prE) HTQ.out (i := 0) (j := 0) hq rfl⟩
        obtain ⟨v0, hq0⟩ := hq0
        have HWP := Lib.hid (wrap_in (x := (P.length : Int)) (by omega) (by omega))
        have HWP2 := Lib.hid (show (np : Int) - 1 = (P.length : Int) from by omega)
        have HWF := Lib.hid (wrap_in (x := (F : Int) - (N : Int)) (by omega) (by omega))
        clear hMid HMid HRt HSC hPF hsF hTP HTP HTQ
        go_upto_region 32 with (go_at_call 39; refine HStp.out.mono ?_; rintro en w8 ⟨rfl, hB8⟩)
        replace hKp : Blk w8 bp 35 csp := hKp.keep hB8
        replace hKq : Blk w8 bq 35 csq0 := hKq.keep hB8
        replace hKr : Blk w8 br 35 csr := hKr.keep hB8
        replace hOp := hOp.keep hB8
        replace hX7 := link hX7 hB8
        clear hB8
        refine wp_region_held_drew (S := fun w' => Blk w' bp 35 csp) (by kernel_rfl) (hKp.drew) (fun _ => ?_)
        have hHeld : Blk w8.drew bp 35 csp := hKp.drew
        replace hKq : Blk w8.drew bq 35 csq0 := hKq
        replace hKr : Blk w8.drew br 35 csr := hKr
        replace hX7 : Below w.heap.size w w8.drew := below_drew hX7
        replace hOp : OwnR prE w8.drew B (.slice (some ⟨bp, 0, none⟩) np cp) (P ++ [((F : Int), (N : Int))]) := hOp
        generalize w8.drew = V0 at hHeld hKq hKr hX7 hOp ⊢
        refine wt (i := 0) (oi := ⟨some 159, .move (.tmp 23), 37, "law.go:225", #[], none⟩) (v := .slice (some ⟨bq, 0, none⟩) nq cq) (Or.inl ⟨by rfl, fun w' hSw => by go_simp⟩) hHeld ?_
        try simp only [zP, zQ, zS, zZ, zC]
        refine wt (i := 1) (oi := ⟨some 160, .move (.tmp 22), 37, "law.go:225", #[], none⟩) (v := .slice (some ⟨bp, 0, none⟩) np cp) (Or.inl ⟨by rfl, fun w' hSw => by go_simp⟩) hHeld ?_
        try simp only [zP, zQ, zS, zZ, zC]
        refine wt (i := 2) (oi := ⟨some 161, .move (.tmp 22), 37, "law.go:225", #[], none⟩) (v := .slice (some ⟨bp, 0, none⟩) np cp) (Or.inl ⟨by rfl, fun w' hSw => by go_simp⟩) hHeld ?_
        try simp only [zP, zQ, zS, zZ, zC]
        refine wt (i := 3) (oi := ⟨some 162, .call { callee := .builtin .len, args := #[.tmp 161], argTypes := #[37] }, 3, "law.go:225", #[⟨2, .data⟩], none⟩) (v := .int .i64 (np : Int)) (Or.inl ⟨by rfl, fun w' hSw => by go_simp⟩) hHeld ?_
        try simp only [zP, zQ, zS, zZ, zC]
        refine wt (i := 4) (oi := ⟨some 163, .binOp .sub 3 (.tmp 162) (.const (Value.int IntKind.i64 1)) 3, 3, "law.go:225", #[⟨3, .data⟩], none⟩) (v := .int .i64 (P.length : Int)) (Or.inl ⟨by rfl, fun w' hSw => by have hw := HWP.out; have hw2 := HWP2.out; go_simp⟩) hHeld ?_
        try simp only [zP, zQ, zS, zZ, zC]
        refine wt (i := 5) (oi := ⟨some 164, .indexAddr 37 (.tmp 160) (.tmp 163), 0, "law.go:225", #[⟨1, .data⟩, ⟨4, .data⟩], none⟩) (v := .pointer (some ⟨bp, P.length * 2, none⟩)) (Or.inl ⟨by rfl, fun w' hSw => by go_simp; try (intro hcm; exact absurd hcm (by omega))⟩) hHeld ?_
        try simp only [zP, zQ, zS, zZ, zC]
        refine wt (i := 6) (oi := ⟨some 165, .indexAddr 35 (.tmp 164) (.const (Value.int IntKind.i64 0)), 0, "law.go:225", #[⟨5, .data⟩], none⟩) (v := .pointer (some ⟨bp, P.length * 2, none⟩)) (Or.inl ⟨by rfl, fun w' hSw => by go_simp⟩) hHeld ?_
        try simp only [zP, zQ, zS, zZ, zC]
        refine wt (i := 7) (oi := ⟨some 166, .load 3 (.tmp 165), 3, "law.go:225", #[⟨6, .data⟩], none⟩) (v := .int .i64 (F : Int)) (Or.inl ⟨by rfl, fun w' hSw => by have hc := hSw.cell cF; go_simp⟩) hHeld ?_
        try simp only [zP, zQ, zS, zZ, zC]
        refine wt (i := 8) (oi := ⟨some 167, .move (.tmp 25), 3, "law.go:225", #[], none⟩) (v := .int .i64 (N : Int)) (Or.inl ⟨by rfl, fun w' hSw => by go_simp⟩) hHeld ?_
        try simp only [zP, zQ, zS, zZ, zC]
        refine wt (i := 9) (oi := ⟨some 168, .binOp .sub 3 (.tmp 166) (.tmp 167) 3, 3, "law.go:225", #[⟨7, .data⟩, ⟨8, .data⟩], none⟩) (v := .int .i64 ((F : Int) - (N : Int))) (Or.inl ⟨by rfl, fun w' hSw => by have hw := HWF.out; go_simp⟩) hHeld ?_
        try simp only [zP, zQ, zS, zZ, zC]
        refine wt (i := 10) (oi := ⟨some 169, .indexAddr 37 (.tmp 159) (.const (Value.int IntKind.i64 0)), 0, "law.go:225", #[⟨0, .data⟩], none⟩) (v := .pointer (some ⟨bq, 0, none⟩)) (Or.inl ⟨by rfl, fun w' hSw => by go_simp; try (intro hcm; exact absurd hcm (by omega))⟩) hHeld ?_
        try simp only [zP, zQ, zS, zZ, zC]
        refine wt (i := 11) (oi := ⟨some 170, .indexAddr 35 (.tmp 169) (.const (Value.int IntKind.i64 0)), 0, "law.go:225", #[⟨10, .data⟩, ⟨0, .phase⟩, ⟨1, .phase⟩, ⟨2, .phase⟩, ⟨3, .phase⟩, ⟨4, .phase⟩, ⟨5, .phase⟩, ⟨6, .phase⟩, ⟨7, .phase⟩, ⟨8, .phase⟩, ⟨9, .phase⟩], none⟩) (v := .pointer (some ⟨bq, 0, none⟩)) (Or.inl ⟨by rfl, fun w' hSw => by go_simp⟩) hHeld ?_
        try simp only [zP, zQ, zS, zZ, zC]
        have hcq := hKq.cell hq0
        have hfq := hKq.free 0
        refine wpAnyH_ready (rs := [12]) (by kernel_rfl) (by simp) ?_
        refine AllReadyH.cons (o := ⟨none, .store 3 (.tmp 170) (.tmp 168), 0, "law.go:225", #[⟨11, .data⟩, ⟨9, .data⟩, ⟨0, .phase⟩, ⟨1, .phase⟩, ⟨2, .phase⟩, ⟨3, .phase⟩, ⟨4, .phase⟩, ⟨5, .phase⟩, ⟨6, .phase⟩, ⟨7, .phase⟩, ⟨8, .phase⟩, ⟨9, .phase⟩], none⟩) rfl (fun K hK => ?_) AllReadyH.nil
        go_simp
        have hKq2 := hKq.set 0 (.int .i64 ((F : Int) - (N : Int)))
        have hKr2 := hKr.other (a := ⟨bq, 0, none⟩) (show br ≠ bq from fun e => hqr e.symm) (.int .i64 ((F : Int) - (N : Int)))
        have hX8 : Below w.heap.size w (V0.setCell ⟨bq, 0, none⟩ (.int .i64 ((F : Int) - (N : Int)))) := hX7.setCell hqw _
        have hOp2 : OwnR prE (V0.setCell ⟨bq, 0, none⟩ (.int .i64 ((F : Int) - (N : Int)))) B (.slice (some ⟨bp, 0, none⟩) np cp) (P ++ [((F : Int), (N : Int))]) := hOp.only (only_set bq 0 V0 _) (by intro h; injection h with h; exact hpq h)
        refine hK.out _ _ (hHeld.other (a := ⟨bq, 0, none⟩) hpq _) (fun hHeld => ?_)
        clear hK K
        try simp only [zP, zQ, zS, zZ, zC]
        refine wpAnyH_done (by kernel_rfl) ?_ _
        have hKp2 := hHeld
        clear hHeld hKq hKr hX7 hOp
        have hOpx := own_trunc hOp2
        have hpc : P.length ≤ cp := by omega
        have hw1 := HWP.out
        have hw2 := HWP2.out
        go_wp2
        clear hw1 hw2
        generalize csq0.set 0 (.int .i64 ((F : Int) - (N : Int))) = csq at HC hKq2
        generalize V0.setCell ⟨bq, 0, none⟩ _ = Wx at hOpx hKq2 hKr2 hX8 ⊢
        clear hOp2 cF hq0 hKp2 HWF
        obtain ⟨S, hS⟩ : ∃ S, shiftP (F : Int) (N : Int) (sentM b) = S := ⟨_, rfl⟩
        have hSl : S.length = nq := by rw [← hS, shiftP_length]; exact HNQ.out
        rw [hS] at HC HR
        have HSL := Lib.hid hSl
        clear hS hSl
        go_loopw [22, 26] (fun v22 v26 wr => AppRel w B nq bq br csq csr P S v22 v26 wr) (fun _ v _ => nq - (intOf v).toNat)
        case atStart => exact ⟨0, rfl, Nat.zero_le _, by rw [List.take_zero, List.append_nil]; exact hOpx, by intro h; injection h with h; exact hpq h, by intro h; injection h with h; exact hpr h, hKq2, hKr2, hX8⟩
        case round =>
          clear hOpx hKq2 hKr2 hX8
          obtain ⟨i, rfl, hi, hR, hnq, hnr, hKq, hKr, hX3⟩ := hrel
          obtain ⟨qo, co, hv, hco, hAo, _, _⟩ := hR.form
          rw [List.length_append, List.length_take, Nat.min_eq_left (by rw [HSL.out]; exact hi)] at hv hco
          subst hv
          rcases Nat.lt_or_ge i nq with hlt | hge
          · obtain ⟨u, v, cu, cv, hSi, hu1, hu2, hv1, hv2⟩ := HC.out i (by rw [HNQ.out]; exact hlt)
            have HWU := Lib.hid (wrap_in (x := u + (N : Int)) (by omega) (by omega))
            have HWV := Lib.hid (wrap_in (x := v + (N : Int)) (by omega) (by omega))
            have HM := Lib.hid (show S.take (i + 1) = S.take i ++ [(u + (N : Int), v + (N : Int))] from by rw [List.take_add_one, hSi]; rfl)
            have hP9 : P.length ≤ 1000 := by omega
            have HSL2 := HSL
            clear hSi hAo
            go_upto_region 37 with (fail)
            refine wp_region_held_drew (S := fun w' => Blk w' bq 35 csq) (by kernel_rfl) (hKq.drew) (fun _ => ?_)
            have hHeld : Blk wr.drew bq 35 csq := hKq.drew
            replace hR : OwnR prE wr.drew B (.slice qo (P.length + i) co) (P ++ S.take i) := hR
            replace hKr : Blk wr.drew br 35 csr := hKr
            replace hX3 : Below w.heap.size w wr.drew := below_drew hX3
            generalize wr.drew = V0 at hHeld hR hKr hX3 ⊢
            refine wt (i := 0) (oi := ⟨some 182, .move (.tmp 22), 37, "law.go:229", #[], none⟩) (v := .slice qo (P.length + i) co) (Or.inl ⟨by rfl, fun w' hSw => by go_simp⟩) hHeld ?_
            try simp only [zP, zQ, zS, zZ, zC]
            refine wt (i := 1) (oi := ⟨some 183, .move (.tmp 23), 37, "law.go:229", #[], none⟩) (v := .slice (some ⟨bq, 0, none⟩) nq cq) (Or.inl ⟨by rfl, fun w' hSw => by go_simp⟩) hHeld ?_
            try simp only [zP, zQ, zS, zZ, zC]
            refine wt (i := 2) (oi := ⟨some 184, .move (.tmp 26), 3, "law.go:229", #[], none⟩) (v := .int .i64 (i : Int)) (Or.inl ⟨by rfl, fun w' hSw => by go_simp⟩) hHeld ?_
            try simp only [zP, zQ, zS, zZ, zC]
            refine wt (i := 3) (oi := ⟨some 185, .indexAddr 37 (.tmp 183) (.tmp 184), 0, "law.go:229", #[⟨1, .data⟩, ⟨2, .data⟩], none⟩) (v := .pointer (some ⟨bq, i * 2, none⟩)) (Or.inl ⟨by rfl, fun w' hSw => by go_simp; try (intro hcm; exact absurd hcm (by omega))⟩) hHeld ?_
            try simp only [zP, zQ, zS, zZ, zC]
            refine wt (i := 4) (oi := ⟨some 186, .indexAddr 35 (.tmp 185) (.const (Value.int IntKind.i64 0)), 0, "law.go:229", #[⟨3, .data⟩], none⟩) (v := .pointer (some ⟨bq, i * 2, none⟩)) (Or.inl ⟨by rfl, fun w' hSw => by go_simp⟩) hHeld ?_
            try simp only [zP, zQ, zS, zZ, zC]
            refine wt (i := 5) (oi := ⟨some 187, .load 3 (.tmp 186), 3, "law.go:229", #[⟨4, .data⟩], none⟩) (v := .int .i64 u) (Or.inl ⟨by rfl, fun w' hSw => by have hc := hSw.cell cu; go_simp⟩) hHeld ?_
            try simp only [zP, zQ, zS, zZ, zC]
            refine wt (i := 6) (oi := ⟨some 188, .move (.tmp 25), 3, "law.go:229", #[], none⟩) (v := .int .i64 (N : Int)) (Or.inl ⟨by rfl, fun w' hSw => by go_simp⟩) hHeld ?_
            try simp only [zP, zQ, zS, zZ, zC]
            refine wt (i := 7) (oi := ⟨some 189, .binOp .add 3 (.tmp 187) (.tmp 188) 3, 3, "law.go:229", #[⟨5, .data⟩, ⟨6, .data⟩], none⟩) (v := .int .i64 (u + (N : Int))) (Or.inl ⟨by rfl, fun w' hSw => by have hw := HWU.out; go_simp⟩) hHeld ?_
            try simp only [zP, zQ, zS, zZ, zC]
            refine wt (i := 8) (oi := ⟨some 190, .move (.tmp 23), 37, "law.go:229", #[], none⟩) (v := .slice (some ⟨bq, 0, none⟩) nq cq) (Or.inl ⟨by rfl, fun w' hSw => by go_simp⟩) hHeld ?_
            try simp only [zP, zQ, zS, zZ, zC]
            refine wt (i := 9) (oi := ⟨some 191, .move (.tmp 26), 3, "law.go:229", #[], none⟩) (v := .int .i64 (i : Int)) (Or.inl ⟨by rfl, fun w' hSw => by go_simp⟩) hHeld ?_
            try simp only [zP, zQ, zS, zZ, zC]
            refine wt (i := 10) (oi := ⟨some 192, .indexAddr 37 (.tmp 190) (.tmp 191), 0, "law.go:229", #[⟨8, .data⟩, ⟨9, .data⟩], none⟩) (v := .pointer (some ⟨bq, i * 2, none⟩)) (Or.inl ⟨by rfl, fun w' hSw => by go_simp; try (intro hcm; exact absurd hcm (by omega))⟩) hHeld ?_
            try simp only [zP, zQ, zS, zZ, zC]
            refine wt (i := 11) (oi := ⟨some 193, .indexAddr 35 (.tmp 192) (.const (Value.int IntKind.i64 1)), 0, "law.go:229", #[⟨10, .data⟩], none⟩) (v := .pointer (some ⟨bq, i * 2 + 1, none⟩)) (Or.inl ⟨by rfl, fun w' hSw => by go_simp⟩) hHeld ?_
            try simp only [zP, zQ, zS, zZ, zC]
            refine wt (i := 12) (oi := ⟨some 194, .load 3 (.tmp 193), 3, "law.go:229", #[⟨11, .data⟩], none⟩) (v := .int .i64 v) (Or.inl ⟨by rfl, fun w' hSw => by have hc := hSw.cell cv; go_simp⟩) hHeld ?_
            try simp only [zP, zQ, zS, zZ, zC]
            refine wt (i := 13) (oi := ⟨some 195, .move (.tmp 25), 3, "law.go:229", #[], none⟩) (v := .int .i64 (N : Int)) (Or.inl ⟨by rfl, fun w' hSw => by go_simp⟩) hHeld ?_
            try simp only [zP, zQ, zS, zZ, zC]
            refine wt (i := 14) (oi := ⟨some 196, .binOp .add 3 (.tmp 194) (.tmp 195) 3, 3, "law.go:229", #[⟨12, .data⟩, ⟨13, .data⟩], none⟩) (v := .int .i64 (v + (N : Int))) (Or.inl ⟨by rfl, fun w' hSw => by have hw := HWV.out; go_simp⟩) hHeld ?_
            try simp only [zP, zQ, zS, zZ, zC]
            refine wt (i := 15) (oi := ⟨some 197, .build 35 #[(0, .tmp 189), (1, .tmp 196)], 35, "law.go:229", #[⟨7, .data⟩, ⟨14, .data⟩], none⟩) (v := .agg #[.int .i64 (u + (N : Int)), .int .i64 (v + (N : Int))]) (Or.inl ⟨by rfl, fun w' hSw => by go_simp⟩) hHeld ?_
            try simp only [zP, zQ, zS, zZ, zC]
            refine wpAnyH_ready (rs := [16]) (by kernel_rfl) (by simp) ?_
            refine AllReadyH.cons (o := ⟨some 198, .buildSlice 37 1 #[(0, .tmp 197)], 37, "law.go:229", #[⟨15, .data⟩], none⟩) rfl (fun K hK => ?_) AllReadyH.nil
            go_simp
            have X0 : Below V0.heap.size V0 (V0.alloc (.cells #[.int .i64 (u + (N : Int)), .int .i64 (v + (N : Int))] 35)) := (Below.refl _ _).alloc (Nat.le_refl _) _
            have hz1 : B ≤ V0.heap.size := by have := hHeld.lt; omega
            have hqlt := hHeld.lt
            have hrlt := hKr.lt
            have hKq0 := hHeld
            refine hK.out _ _ (hHeld.alloc _) (fun hHeld => ?_)
            clear hK K
            try simp only [zP, zQ, zS, zZ, zC]
            refine wpAnyH_ready (rs := [17]) (by kernel_rfl) (by simp) ?_
            refine AllReadyH.cons (o := ⟨some 199, .call { callee := .builtin .append, args := #[.tmp 182, .tmp 198], argTypes := #[37, 37] }, 37, "law.go:229", #[⟨0, .data⟩, ⟨16, .data⟩], none⟩) rfl (fun K hK => ?_) AllReadyH.nil
            refine push_at prE (w := V0) (.tmp 182) (.tmp 198) rfl (P ++ S.take i) (u + (N : Int), v + (N : Int)) _ rfl hR hz1 _ rfl _ rfl (by rw [List.length_append, List.length_take]; omega) ?_
            intro v4 V2 hO4 hB4 hR4 hat
            have hKr4 := hR4 br _ _ hnr hKr
            have hX4 : Below w.heap.size w V2 := hX3.trans (hB4.mono hBz)
            have hnq4 : v4.ownBlock ≠ some bq := by rcases hat with e | e; (rw [e]; exact hnq); (rw [e]; intro h; injection h with h; omega)
            have hnr4 : v4.ownBlock ≠ some br := by rcases hat with e | e; (rw [e]; exact hnr); (rw [e]; intro h; injection h with h; omega)
            refine hK.out _ _ (hR4 bq _ _ hnq hKq0) (fun hHeld => ?_)
            clear hK K
            try simp only [zP, zQ, zS, zZ, zC]
            refine wpAnyH_ready (rs := [18]) (by kernel_rfl) (by simp) ?_
            refine AllReadyH.cons (o := ⟨some 22, .assign (.tmp 199), 37, "law.go:229", #[⟨17, .data⟩, ⟨17, .chain⟩, ⟨0, .phase⟩, ⟨1, .phase⟩, ⟨2, .phase⟩, ⟨3, .phase⟩, ⟨4, .phase⟩, ⟨5, .phase⟩, ⟨6, .phase⟩, ⟨7, .phase⟩, ⟨8, .phase⟩, ⟨9, .phase⟩, ⟨10, .phase⟩, ⟨11, .phase⟩, ⟨12, .phase⟩, ⟨13, .phase⟩, ⟨14, .phase⟩, ⟨15, .phase⟩, ⟨16, .phase⟩, ⟨17, .phase⟩], none⟩) rfl (fun K hK => ?_) AllReadyH.nil
            go_simp
            refine hK.out _ _ (hHeld) (fun hHeld => ?_)
            clear hK K
            try simp only [zP, zQ, zS, zZ, zC]
            refine wpAnyH_done (by kernel_rfl) ?_ _
            have hKq4 := hHeld
            clear hHeld 
            go_wp2
            exact ⟨⟨i + 1, by go_num, by omega, by rw [HM.out, ← List.append_assoc]; exact hO4, hnq4, hnr4, hKq4, hKr4, hX4⟩, by simp [intOf]; omega⟩
          · obtain rfl : i = nq := by omega
            have hlt : ¬ i < i := by omega
            have hRP : RR = P ++ S.take i := by rw [HR.out, List.take_of_length_le (by rw [HSL.out]; exact Nat.le_refl _)]
            have hnrl : P.length + i = nr := by rw [← HNR.out, HR.out, List.length_append, HSL.out]
            rw [hnrl]
            have hAr := at_blk (E := prE) hKr (HTR.out)
            have HSame := Lib.hid (samePairs_refl RR (some ⟨br, 0, none⟩) qo nr cr co HNR.out (by omega) wr hAr (hRP ▸ hAo))
            clear hRP hAr hAo hR
            go_wp2_with (first
              | (go_at_call 27; refine HSame.out.mono ?_; rintro en w9 ⟨rfl, hB9⟩; replace hB9 := link hX3 hB9)
              | (go_at_call 14; refine (HLv.out _ (hG1.out _ hB9)).mono ?_; rintro en wz ⟨rfl, hBz9⟩))
            go_ret
            exact ⟨rfl, link hB9 hBz9⟩
      · have hsF := hMid.1 rfl
        have HR := Lib.hid (HRt.out (sentM a) N hsF)
        have HC := Lib.hid (HSC.out N csq0 HTQ.out (by omega))
        have hcs : csq0.set 0 (.int .i64 ((N : Int) - (N : Int))) = csq0 := by
          obtain ⟨q, hq⟩ : ∃ q, (sentM b)[0]? = some q := ⟨_, List.getElem?_eq_getElem (by rw [HNQ.out]; exact hnq0)⟩
          rcases HF0.out with e | ⟨v, e⟩
          · rw [e] at hq; cases hq
          · refine set_same ?_
            rw [show (N : Int) - (N : Int) = 0 by omega]
            exact row_at (E := prE) HTQ.out (i := 0) (j := 0) e rfl
        rw [hcs] at HC
        have hPl := HNP.out
        generalize sentM a = P at hOp HR hPl HTP
        clear hMid HMid HRt HSC hsF HTP HTQ hcs HF0 HPN HNP
        subst hPl
        go_wp2_with (go_at_call 39; refine HStp.out.mono ?_; rintro en w8 ⟨rfl, hB8⟩)
        have hOpx := hOp.keep hB8
        have hKq2 : Blk w8 bq 35 csq0 := hKq.keep hB8
        have hKr2 : Blk w8 br 35 csr := hKr.keep hB8
        have hX8 := link hX7 hB8
        clear hB8 hKq hKr hX7 hOp hKp
        generalize csq0 = csq at *
        generalize w8 = Wx at *
        obtain ⟨S, hS⟩ : ∃ S, shiftP (N : Int) (N : Int) (sentM b) = S := ⟨_, rfl⟩
        have hSl : S.length = nq := by rw [← hS, shiftP_length]; exact HNQ.out
        rw [hS] at HC HR
        have HSL := Lib.hid hSl
        clear hS hSl
        go_loopw [22, 26] (fun v22 v26 wr => AppRel w B nq bq br csq csr P S v22 v26 wr) (fun _ v _ => nq - (intOf v).toNat)
        case atStart => exact ⟨0, rfl, Nat.zero_le _, by rw [List.take_zero, List.append_nil]; exact hOpx, by intro h; injection h with h; exact hpq h, by intro h; injection h with h; exact hpr h, hKq2, hKr2, hX8⟩
        case round =>
          clear hOpx hKq2 hKr2 hX8
          obtain ⟨i, rfl, hi, hR, hnq, hnr, hKq, hKr, hX3⟩ := hrel
          obtain ⟨qo, co, hv, hco, hAo, _, _⟩ := hR.form
          rw [List.length_append, List.length_take, Nat.min_eq_left (by rw [HSL.out]; exact hi)] at hv hco
          subst hv
          rcases Nat.lt_or_ge i nq with hlt | hge
          · obtain ⟨u, v, cu, cv, hSi, hu1, hu2, hv1, hv2⟩ := HC.out i (by rw [HNQ.out]; exact hlt)
            have HWU := Lib.hid (wrap_in (x := u + (N : Int)) (by omega) (by omega))
            have HWV := Lib.hid (wrap_in (x := v + (N : Int)) (by omega) (by omega))
            have HM := Lib.hid (show S.take (i + 1) = S.take i ++ [(u + (N : Int), v + (N : Int))] from by rw [List.take_add_one, hSi]; rfl)
            have hP9 : P.length ≤ 1000 := by omega
            have HSL2 := HSL
            clear hSi hAo
            go_upto_region 37 with (fail)
            refine wp_region_held_drew (S := fun w' => Blk w' bq 35 csq) (by kernel_rfl) (hKq.drew) (fun _ => ?_)
            have hHeld : Blk wr.drew bq 35 csq := hKq.drew
            replace hR : OwnR prE wr.drew B (.slice qo (P.length + i) co) (P ++ S.take i) := hR
            replace hKr : Blk wr.drew br 35 csr := hKr
            replace hX3 : Below w.heap.size w wr.drew := below_drew hX3
            generalize wr.drew = V0 at hHeld hR hKr hX3 ⊢
            refine wt (i := 0) (oi := ⟨some 182, .move (.tmp 22), 37, "law.go:229", #[], none⟩) (v := .slice qo (P.length + i) co) (Or.inl ⟨by rfl, fun w' hSw => by go_simp⟩) hHeld ?_
            try simp only [zP, zQ, zS, zZ, zC]
            refine wt (i := 1) (oi := ⟨some 183, .move (.tmp 23), 37, "law.go:229", #[], none⟩) (v := .slice (some ⟨bq, 0, none⟩) nq cq) (Or.inl ⟨by rfl, fun w' hSw => by go_simp⟩) hHeld ?_
            try simp only [zP, zQ, zS, zZ, zC]
            refine wt (i := 2) (oi := ⟨some 184, .move (.tmp 26), 3, "law.go:229", #[], none⟩) (v := .int .i64 (i : Int)) (Or.inl ⟨by rfl, fun w' hSw => by go_simp⟩) hHeld ?_
            try simp only [zP, zQ, zS, zZ, zC]
            refine wt (i := 3) (oi := ⟨some 185, .indexAddr 37 (.tmp 183) (.tmp 184), 0, "law.go:229", #[⟨1, .data⟩, ⟨2, .data⟩], none⟩) (v := .pointer (some ⟨bq, i * 2, none⟩)) (Or.inl ⟨by rfl, fun w' hSw => by go_simp; try (intro hcm; exact absurd hcm (by omega))⟩) hHeld ?_
            try simp only [zP, zQ, zS, zZ, zC]
            refine wt (i := 4) (oi := ⟨some 186, .indexAddr 35 (.tmp 185) (.const (Value.int IntKind.i64 0)), 0, "law.go:229", #[⟨3, .data⟩], none⟩) (v := .pointer (some ⟨bq, i * 2, none⟩)) (Or.inl ⟨by rfl, fun w' hSw => by go_simp⟩) hHeld ?_
            try simp only [zP, zQ, zS, zZ, zC]
            refine wt (i := 5) (oi := ⟨some 187, .load 3 (.tmp 186), 3, "law.go:229", #[⟨4, .data⟩], none⟩) (v := .int .i64 u) (Or.inl ⟨by rfl, fun w' hSw => by have hc := hSw.cell cu; go_simp⟩) hHeld ?_
            try simp only [zP, zQ, zS, zZ, zC]
            refine wt (i := 6) (oi := ⟨some 188, .move (.tmp 25), 3, "law.go:229", #[], none⟩) (v := .int .i64 (N : Int)) (Or.inl ⟨by rfl, fun w' hSw => by go_simp⟩) hHeld ?_
            try simp only [zP, zQ, zS, zZ, zC]
            refine wt (i := 7) (oi := ⟨some 189, .binOp .add 3 (.tmp 187) (.tmp 188) 3, 3, "law.go:229", #[⟨5, .data⟩, ⟨6, .data⟩], none⟩) (v := .int .i64 (u + (N : Int))) (Or.inl ⟨by rfl, fun w' hSw => by have hw := HWU.out; go_simp⟩) hHeld ?_
            try simp only [zP, zQ, zS, zZ, zC]
            refine wt (i := 8) (oi := ⟨some 190, .move (.tmp 23), 37, "law.go:229", #[], none⟩) (v := .slice (some ⟨bq, 0, none⟩) nq cq) (Or.inl ⟨by rfl, fun w' hSw => by go_simp⟩) hHeld ?_
            try simp only [zP, zQ, zS, zZ, zC]
            refine wt (i := 9) (oi := ⟨some 191, .move (.tmp 26), 3, "law.go:229", #[], none⟩) (v := .int .i64 (i : Int)) (Or.inl ⟨by rfl, fun w' hSw => by go_simp⟩) hHeld ?_
            try simp only [zP, zQ, zS, zZ, zC]
            refine wt (i := 10) (oi := ⟨some 192, .indexAddr 37 (.tmp 190) (.tmp 191), 0, "law.go:229", #[⟨8, .data⟩, ⟨9, .data⟩], none⟩) (v := .pointer (some ⟨bq, i * 2, none⟩)) (Or.inl ⟨by rfl, fun w' hSw => by go_simp; try (intro hcm; exact absurd hcm (by omega))⟩) hHeld ?_
            try simp only [zP, zQ, zS, zZ, zC]
            refine wt (i := 11) (oi := ⟨some 193, .indexAddr 35 (.tmp 192) (.const (Value.int IntKind.i64 1)), 0, "law.go:229", #[⟨10, .data⟩], none⟩) (v := .pointer (some ⟨bq, i * 2 + 1, none⟩)) (Or.inl ⟨by rfl, fun w' hSw => by go_simp⟩) hHeld ?_
            try simp only [zP, zQ, zS, zZ, zC]
            refine wt (i := 12) (oi := ⟨some 194, .load 3 (.tmp 193), 3, "law.go:229", #[⟨11, .data⟩], none⟩) (v := .int .i64 v) (Or.inl ⟨by rfl, fun w' hSw => by have hc := hSw.cell cv; go_simp⟩) hHeld ?_
            try simp only [zP, zQ, zS, zZ, zC]
            refine wt (i := 13) (oi := ⟨some 195, .move (.tmp 25), 3, "law.go:229", #[], none⟩) (v := .int .i64 (N : Int)) (Or.inl ⟨by rfl, fun w' hSw => by go_simp⟩) hHeld ?_
            try simp only [zP, zQ, zS, zZ, zC]
            refine wt (i := 14) (oi := ⟨some 196, .binOp .add 3 (.tmp 194) (.tmp 195) 3, 3, "law.go:229", #[⟨12, .data⟩, ⟨13, .data⟩], none⟩) (v := .int .i64 (v + (N : Int))) (Or.inl ⟨by rfl, fun w' hSw => by have hw := HWV.out; go_simp⟩) hHeld ?_
            try simp only [zP, zQ, zS, zZ, zC]
            refine wt (i := 15) (oi := ⟨some 197, .build 35 #[(0, .tmp 189), (1, .tmp 196)], 35, "law.go:229", #[⟨7, .data⟩, ⟨14, .data⟩], none⟩) (v := .agg #[.int .i64 (u + (N : Int)), .int .i64 (v + (N : Int))]) (Or.inl ⟨by rfl, fun w' hSw => by go_simp⟩) hHeld ?_
            try simp only [zP, zQ, zS, zZ, zC]
            refine wpAnyH_ready (rs := [16]) (by kernel_rfl) (by simp) ?_
            refine AllReadyH.cons (o := ⟨some 198, .buildSlice 37 1 #[(0, .tmp 197)], 37, "law.go:229", #[⟨15, .data⟩], none⟩) rfl (fun K hK => ?_) AllReadyH.nil
            go_simp
            have X0 : Below V0.heap.size V0 (V0.alloc (.cells #[.int .i64 (u + (N : Int)), .int .i64 (v + (N : Int))] 35)) := (Below.refl _ _).alloc (Nat.le_refl _) _
            have hz1 : B ≤ V0.heap.size := by have := hHeld.lt; omega
            have hqlt := hHeld.lt
            have hrlt := hKr.lt
            have hKq0 := hHeld
            refine hK.out _ _ (hHeld.alloc _) (fun hHeld => ?_)
            clear hK K
            try simp only [zP, zQ, zS, zZ, zC]
            refine wpAnyH_ready (rs := [17]) (by kernel_rfl) (by simp) ?_
            refine AllReadyH.cons (o := ⟨some 199, .call { callee := .builtin .append, args := #[.tmp 182, .tmp 198], argTypes := #[37, 37] }, 37, "law.go:229", #[⟨0, .data⟩, ⟨16, .data⟩], none⟩) rfl (fun K hK => ?_) AllReadyH.nil
            refine push_at prE (w := V0) (.tmp 182) (.tmp 198) rfl (P ++ S.take i) (u + (N : Int), v + (N : Int)) _ rfl hR hz1 _ rfl _ rfl (by rw [List.length_append, List.length_take]; omega) ?_
            intro v4 V2 hO4 hB4 hR4 hat
            have hKr4 := hR4 br _ _ hnr hKr
            have hX4 : Below w.heap.size w V2 := hX3.trans (hB4.mono hBz)
            have hnq4 : v4.ownBlock ≠ some bq := by rcases hat with e | e; (rw [e]; exact hnq); (rw [e]; intro h; injection h with h; omega)
            have hnr4 : v4.ownBlock ≠ some br := by rcases hat with e | e; (rw [e]; exact hnr); (rw [e]; intro h; injection h with h; omega)
            refine hK.out _ _ (hR4 bq _ _ hnq hKq0) (fun hHeld => ?_)
            clear hK K
            try simp only [zP, zQ, zS, zZ, zC]
            refine wpAnyH_ready (rs := [18]) (by kernel_rfl) (by simp) ?_
            refine AllReadyH.cons (o := ⟨some 22, .assign (.tmp 199), 37, "law.go:229", #[⟨17, .data⟩, ⟨17, .chain⟩, ⟨0, .phase⟩, ⟨1, .phase⟩, ⟨2, .phase⟩, ⟨3, .phase⟩, ⟨4, .phase⟩, ⟨5, .phase⟩, ⟨6, .phase⟩, ⟨7, .phase⟩, ⟨8, .phase⟩, ⟨9, .phase⟩, ⟨10, .phase⟩, ⟨11, .phase⟩, ⟨12, .phase⟩, ⟨13, .phase⟩, ⟨14, .phase⟩, ⟨15, .phase⟩, ⟨16, .phase⟩, ⟨17, .phase⟩], none⟩) rfl (fun K hK => ?_) AllReadyH.nil
            go_simp
            refine hK.out _ _ (hHeld) (fun hHeld => ?_)
            clear hK K
            try simp only [zP, zQ, zS, zZ, zC]
            refine wpAnyH_done (by kernel_rfl) ?_ _
            have hKq4 := hHeld
            clear hHeld 
            go_wp2
            exact ⟨⟨i + 1, by go_num, by omega, by rw [HM.out, ← List.append_assoc]; exact hO4, hnq4, hnr4, hKq4, hKr4, hX4⟩, by simp [intOf]; omega⟩
          · obtain rfl : i = nq := by omega
            have hlt : ¬ i < i := by omega
            have hRP : RR = P ++ S.take i := by rw [HR.out, List.take_of_length_le (by rw [HSL.out]; exact Nat.le_refl _)]
            have hnrl : P.length + i = nr := by rw [← HNR.out, HR.out, List.length_append, HSL.out]
            rw [hnrl]
            have hAr := at_blk (E := prE) hKr (HTR.out)
            have HSame := Lib.hid (samePairs_refl RR (some ⟨br, 0, none⟩) qo nr cr co HNR.out (by omega) wr hAr (hRP ▸ hAo))
            clear hRP hAr hAo hR
            go_wp2_with (first
              | (go_at_call 27; refine HSame.out.mono ?_; rintro en w9 ⟨rfl, hB9⟩; replace hB9 := link hX3 hB9)
              | (go_at_call 14; refine (HLv.out _ (hG1.out _ hB9)).mono ?_; rintro en wz ⟨rfl, hBz9⟩))
            go_ret
            exact ⟨rfl, link hB9 hBz9⟩
end Go.Proofs.Ytehkgpefmjfifaa
