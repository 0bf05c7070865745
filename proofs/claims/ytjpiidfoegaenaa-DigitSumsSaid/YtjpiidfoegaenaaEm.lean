/-
  DigitSums, walked.
-/
import Derived.Test.YtjpiidfoegaenaaEl
import Derived.Deep.CutRange
namespace Go.Proofs.Ytjpiidfoegaenaa
open Go Go.RowKit
set_option linter.unusedVariables false
set_option linter.unusedSimpArgs false

theorem fourN {w : World} {a b c d : Option Addr × Nat × Nat} (ha : IntsN w a) (hb : IntsN w b) (hc : IntsN w c) (hd : IntsN w d) : ∀ s ∈ [a, b, c, d], IntsN w s := by
  intro s hs
  simp only [List.mem_cons, List.not_mem_nil, or_false] at hs
  rcases hs with rfl | rfl | rfl | rfl <;> assumption
def LaidN (W : World) (v : Value) (wx : World) : Prop := ∃ (g : Nat) (S : List (Option Addr × Nat × Nat)), v = .slice (some ⟨g, 0, none⟩) 4 4 ∧ S.length = 4 ∧ At slE wx (some ⟨g, 0, none⟩) S ∧ (∀ s ∈ S, IntsN wx s) ∧ Below W.heap.size W wx
theorem lay_cell {α : Type} {E : Elt α} {w : World} {g : Nat} {l : List α} (h : At E w (some ⟨g, 0, none⟩) l) {i : Nat} {x : α} {u : Value} (hx : l[i]? = some x) (hk : E.k = 1) (hu : (E.enc x)[0]? = some u) : w.cell? ⟨g, i, none⟩ = some u := by
  obtain ⟨b, o, e, hL⟩ := h.get (List.getElem?_eq_some_iff.1 hx).1
  injection e with e
  injection e with e1 e2 _
  subst e1 e2
  have := hL.2 i x 0 u hx hu
  rwa [hk, Nat.mul_one, Nat.add_zero, Nat.zero_add] at this
structure Tri (w1 : World) (W : List Int) (m : Nat) (i : Nat) (a b c : Value) (La Lb : List Int) (V : World) : Prop where
  ha : OwnR intE V w1.heap.size a La
  hb : OwnR intE V w1.heap.size b Lb
  hc : OwnR intE V w1.heap.size c (List.zipWith (fun x y => (x + y) % (m : Int)) La Lb)
  ab : Apart a b
  ac : Apart a c
  bc : Apart b c
  la : La.length = i
  lb : Lb.length = i
  ba : belowT La (m : Int) = true
  bb : belowT Lb (m : Int) = true
  hB : Below w1.heap.size w1 V
def TriRel (w1 : World) (W : List Int) (n m : Nat) (a b c i : Value) (V : World) : Prop := ∃ (k : Nat) (La Lb : List Int), k ≤ n ∧ i = .int .i64 (k : Int) ∧ Tri w1 W m k a b c La Lb V
theorem own_cell {w : World} {B : Nat} {g off n c : Nat} {l : List Int} (h : OwnR intE w B (.slice (some ⟨g, off, none⟩) n c) l) {i : Nat} {x : Int} (hx : l[i]? = some x) : w.cell? ⟨g, off + i, none⟩ = some (.int .i64 x) := by
  obtain ⟨q, c', e, _, hA, _⟩ := h.form
  injection e with e1 e2 e3
  obtain ⟨b, o, e4, hL⟩ := hA.get (List.getElem?_eq_some_iff.1 hx).1
  rw [e4] at e1
  injection e1 with e1
  injection e1 with e5 e6
  subst e5 e6
  have := hL.2 i x 0 _ hx rfl
  rwa [show off + i * intE.k + 0 = off + i by show off + i * 1 + 0 = off + i; omega] at this
set_option maxHeartbeats 8000000 in
set_option maxRecDepth 100000 in
theorem digitSums_any (A0 : Option Addr) (l : List Int) (n0 c0 : Nat) (hl0 : l.length = n0) (hn0 : n0 ≤ 9223372036854775807) (x1 : Int) (x1a : -9223372036854775808 ≤ x1) (x1b : x1 ≤ 9223372036854775807)
    (A2 : Option Addr) (v : List Int) (n2 c2 : Nat) (hl2 : v.length = n2) (hn2 : n2 ≤ 9223372036854775807) (A3 : Option Addr) (u : List Int) (n3 c3 : Nat) (hl3 : u.length = n3) (hn3 : n3 ≤ 9223372036854775807)
    (A4 : Option Addr) (raw : List Int) (n4 c4 : Nat) (hl4 : raw.length = n4) (hn4 : n4 ≤ 9223372036854775807) (md : Int) (mda : -9223372036854775808 ≤ md) (mdb : md ≤ 9223372036854775807) (ch : Nat) (hch : ch < 256)
    (w : World) (h0 : IntsAt w A0 l) (h2 : IntsAt w A2 v) (h3 : IntsAt w A3 u) (h4 : IntsAt w A4 raw) :
    Calls Try.prog 3 #[.slice A0 n0 c0, .int .i64 x1, .slice A2 n2 c2, .slice A3 n3 c3, .slice A4 n4 c4, .int .i64 md, .int .u8 (ch : Int)] w (Yes w) := by
  have CSC := Lib.hid (scheme_any l A0 n0 c0 hl0 hn0 x1 x1a x1b w h0)
  have CL := Lib.hid (fun V => lives_any V)
  have CAt2 := Lib.hid (fun i k h1 h2' h3' V hA => at_any v A2 n2 c2 hl2 hn2 i k h1 h2' h3' V hA)
  have CAt3 := Lib.hid (fun i k h1 h2' h3' V hA => at_any u A3 n3 c3 hl3 hn3 i k h1 h2' h3' V hA)
  have CV1 := Lib.hid (fun V => value_any ch hch V)
  have CV2 := Lib.hid (fun V => rvalue_any ch hch V)
  obtain ⟨vt, hvt⟩ : ∃ vt, valT ch = vt := ⟨_, rfl⟩
  rw [hvt] at CV1 CV2
  have HL2 := Lib.hid hl2
  have HL3 := Lib.hid hl3
  have HL4 := Lib.hid hl4
  clear hl0 hn0 x1a x1b h0 hl2 hl3 hl4 hch hvt
  go_enter Try.func3, Try.ntmps3
  go_upto_region 5 with (go_at_call 9; refine CSC.out.mono ?_; rintro _ w1 ⟨W, m, n, qw, cw, rfl, hW, hn8, hm2, hm1024, hbW, hAW, B1⟩)
  have h2 := h2.keep B1
  have h3 := h3.keep B1
  have h4 := h4.keep B1
  have hWi : IntsAt w1 qw W := hAW.ints (fun x hx => by have := belowT_mem hbW x hx; omega)
  have HW := Lib.hid hW
  have HBW := Lib.hid hbW
  clear CSC hW hbW hAW
  go_wp2
  go_loopw [17, 18, 19, 20] (fun a b c i V => TriRel w1 W n m a b c i V) (fun _ _ _ i _ => n - (intOf i).toNat)
  case atStart => exact ⟨0, [], [], by omega, rfl, OwnR.nil _ _ _, OwnR.nil _ _ _, OwnR.nil _ _ _, apart_nil _, apart_nil _, apart_nil _, rfl, rfl, rfl, rfl, Below.refl _ _⟩
  case round =>
    obtain ⟨i, La, Lb, hi, rfl, ha, hb, hc, ab, ac, bc, la, lb, ba, bb, hB⟩ := hrel
    rcases Nat.lt_or_ge i n with hlt | hge
    · have hltz : (i : Int) < (n : Int) := by omega
      have CA := Lib.hid (fun V (hV : Below wr.heap.size wr V) => CAt2.out i m (by omega) (by omega) (by omega) V (h2.keep (hB.trans (hV.mono hB.size))))
      have CB := Lib.hid (fun V (hV : Below w1.heap.size w1 V) => CAt3.out i m (by omega) (by omega) (by omega) V (h3.keep hV))
      have hle : La.length ≤ 1000000000000 := by omega
      have hle2 : Lb.length ≤ 1000000000000 := by omega
      have HLA := Lib.hid la
      have HLB := Lib.hid lb
      have HBA := Lib.hid ba
      have HBB := Lib.hid bb
      clear la lb ba bb
      go_upto_region 9 with (first
        | (go_at_call 10; refine (CA.out _ (Below.refl _ _)).mono ?_; rintro _ _ ⟨xa, hxa, rfl, rfl⟩)
        | (at_builtin; refine push_ela intE rfl (.tmp 49) (.tmp 54) rfl La (xa : Int) _ rfl ha hB.size _ rfl _ rfl hle ?_; intro a1 Wa ha1 Ba Ra pa))
      have ab1 := apart_step hb ab pa
      have ac1 := apart_step hc ac pa
      have hb := hb.rest ab Ra
      have hc := hc.rest ac Ra
      have hBa := hB.trans Ba
      clear ha ab ac pa Ra hB CA Ba
      go_upto_region 10 with (first
        | (go_at_call 10; refine (CB.out _ hBa).mono ?_; rintro _ _ ⟨xb, hxb, rfl, rfl⟩)
        | (at_builtin; refine push_ela intE rfl (.tmp 56) (.tmp 61) rfl Lb (xb : Int) _ rfl hb hBa.size _ rfl _ rfl hle2 ?_; intro b1 w2 hb1 Bb Rb pb))
      have bc1 := apart_step hc bc pb
      have ab2 := (apart_step ha1 ab1.symm pb).symm
      have ha2 := ha1.rest ab1.symm Rb
      have hc2 := hc.rest bc Rb
      have hB2 := hBa.trans Bb
      have hle3 : (List.zipWith (fun x y => (x + y) % (m : Int)) La Lb).length ≤ 1000000000000 := by rw [List.length_zipWith]; omega
      obtain ⟨i1, hi1⟩ : ∃ i1, i + 1 = i1 := ⟨_, rfl⟩
      have hi1z : (i : Int) < (i1 : Int) := by omega
      obtain ⟨qa, ca, ea, _, Aa, _⟩ := ha2.form
      obtain ⟨qb, cb, eb, _, Ab, _⟩ := hb1.form
      have la1 : (La ++ [(xa : Int)]).length = i1 := by rw [List.length_append, HLA.out]; exact hi1
      have lb1 : (Lb ++ [(xb : Int)]).length = i1 := by rw [List.length_append, HLB.out]; exact hi1
      rw [la1] at ea
      rw [lb1] at eb
      obtain ⟨ga, offa, rfl, _⟩ := Aa.get (i := i) (by omega)
      obtain ⟨gb, offb, rfl, _⟩ := Ab.get (i := i) (by omega)
      subst ea
      subst eb
      obtain ⟨vc, hvc⟩ : ∃ vc, vc = u19 := ⟨_, rfl⟩
      subst hvc
      have hxaa : (La ++ [(xa : Int)])[i]? = some (xa : Int) := by rw [List.getElem?_append_right (by rw [HLA.out]; exact Nat.le_refl _), HLA.out, Nat.sub_self]; rfl
      have hxbb : (Lb ++ [(xb : Int)])[i]? = some (xb : Int) := by rw [List.getElem?_append_right (by rw [HLB.out]; exact Nat.le_refl _), HLB.out, Nat.sub_self]; rfl
      have CA1 : Hid (∀ V, Rest vc w2 V → V.cell? ⟨ga, offa + i, none⟩ = some (.int .i64 (xa : Int))) := Lib.hid (fun V hV => own_cell (ha2.rest ac1.symm hV) hxaa)
      have CB1 : Hid (∀ V, Rest vc w2 V → V.cell? ⟨gb, offb + i, none⟩ = some (.int .i64 (xb : Int))) := Lib.hid (fun V hV => own_cell (hb1.rest bc1.symm hV) hxbb)
      obtain ⟨t, ht⟩ : ∃ t : Int, (xa : Int) + (xb : Int) = t := ⟨_, rfl⟩
      have htw : IntKind.i64.wrap t = t := wrap_in (by omega) (by omega)
      obtain ⟨z, hz⟩ : ∃ z : Int, t.tmod (m : Int) = z := ⟨_, rfl⟩
      have HZ : Hid (z = ((xa : Int) + (xb : Int)) % (m : Int)) := Lib.hid (by rw [← hz, ← ht, Int.tmod_eq_emod_of_nonneg (by omega)])
      have hmz : ¬ (m : Int) = 0 := by omega
      have hmn : ¬ m = 0 := by omega
      have HI1 := Lib.hid hi1
      clear hxaa hxbb Aa Ab hi1 hc hb Rb hBa Bb CB
      have hcV : OwnR intE w2.drew w1.heap.size vc (List.zipWith (fun x y => (x + y) % (m : Int)) La Lb) := hc2.drew
      have hBV : Below w1.heap.size w1 w2.drew := below_drew hB2
      have hsV : w2.heap.size ≤ w2.drew.heap.size := (below_drew (Below.refl w2.heap.size w2)).size
      refine wp_region_held_drew (S := fun w' => Rest vc w2 w') (by kernel_rfl) (fun _ _ _ _ h => h.drew) (fun _ => ?_)
      have hHeld : Rest vc w2 w2.drew := fun _ _ _ _ h => h.drew
      generalize w2.drew = V0 at hHeld hcV hBV hsV ⊢
      refine wt (i := 0) (oi := ⟨some 63, .move (.tmp 19), 22, "law.go:39", #[], none⟩) (v := vc) (Or.inl ⟨by rfl, fun w' hSw => by go_simp⟩) hHeld ?_
      try simp only [zP, zQ, zS, zZ, zC]
      refine wt (i := 1) (oi := ⟨some 64, .move (.tmp 17), 22, "law.go:39", #[], none⟩) (v := .slice (some ⟨ga, offa, none⟩) i1 ca) (Or.inl ⟨by rfl, fun w' hSw => by go_simp⟩) hHeld ?_
      try simp only [zP, zQ, zS, zZ, zC]
      refine wt (i := 2) (oi := ⟨some 65, .move (.tmp 20), 3, "law.go:39", #[], none⟩) (v := .int .i64 (i : Int)) (Or.inl ⟨by rfl, fun w' hSw => by go_simp⟩) hHeld ?_
      try simp only [zP, zQ, zS, zZ, zC]
      refine wt (i := 3) (oi := ⟨some 66, .indexAddr 22 (.tmp 64) (.tmp 65), 0, "law.go:39", #[⟨1, .data⟩, ⟨2, .data⟩], none⟩) (v := .pointer (some ⟨ga, offa + i, none⟩)) (Or.inl ⟨by rfl, fun w' hSw => by go_simp⟩) hHeld ?_
      try simp only [zP, zQ, zS, zZ, zC]
      refine wt (i := 4) (oi := ⟨some 67, .load 3 (.tmp 66), 3, "law.go:39", #[⟨3, .data⟩], none⟩) (v := .int .i64 (xa : Int)) (Or.inl ⟨by rfl, fun w' hSw => by have c9 := CA1.out w' hSw; go_simp⟩) hHeld ?_
      try simp only [zP, zQ, zS, zZ, zC]
      refine wt (i := 5) (oi := ⟨some 68, .move (.tmp 18), 22, "law.go:39", #[], none⟩) (v := .slice (some ⟨gb, offb, none⟩) i1 cb) (Or.inl ⟨by rfl, fun w' hSw => by go_simp⟩) hHeld ?_
      try simp only [zP, zQ, zS, zZ, zC]
      refine wt (i := 6) (oi := ⟨some 69, .move (.tmp 20), 3, "law.go:39", #[], none⟩) (v := .int .i64 (i : Int)) (Or.inl ⟨by rfl, fun w' hSw => by go_simp⟩) hHeld ?_
      try simp only [zP, zQ, zS, zZ, zC]
      refine wt (i := 7) (oi := ⟨some 70, .indexAddr 22 (.tmp 68) (.tmp 69), 0, "law.go:39", #[⟨5, .data⟩, ⟨6, .data⟩], none⟩) (v := .pointer (some ⟨gb, offb + i, none⟩)) (Or.inl ⟨by rfl, fun w' hSw => by go_simp⟩) hHeld ?_
      try simp only [zP, zQ, zS, zZ, zC]
      refine wt (i := 8) (oi := ⟨some 71, .load 3 (.tmp 70), 3, "law.go:39", #[⟨7, .data⟩], none⟩) (v := .int .i64 (xb : Int)) (Or.inl ⟨by rfl, fun w' hSw => by have c9 := CB1.out w' hSw; go_simp⟩) hHeld ?_
      try simp only [zP, zQ, zS, zZ, zC]
      refine wt (i := 9) (oi := ⟨some 72, .binOp .add 3 (.tmp 67) (.tmp 71) 3, 3, "law.go:39", #[⟨4, .data⟩, ⟨8, .data⟩], none⟩) (v := .int .i64 t) (Or.inl ⟨by rfl, fun w' hSw => by go_simp⟩) hHeld ?_
      try simp only [zP, zQ, zS, zZ, zC]
      refine wt (i := 10) (oi := ⟨some 73, .move (.tmp 16), 3, "law.go:39", #[], none⟩) (v := .int .i64 (m : Int)) (Or.inl ⟨by rfl, fun w' hSw => by go_simp⟩) hHeld ?_
      try simp only [zP, zQ, zS, zZ, zC]
      refine wt (i := 11) (oi := ⟨some 74, .binOp .rem 3 (.tmp 72) (.tmp 73) 3, 3, "law.go:39", #[⟨9, .data⟩, ⟨10, .data⟩], none⟩) (v := .int .i64 z) (Or.inl ⟨by rfl, fun w' hSw => by go_simp⟩) hHeld ?_
      try simp only [zP, zQ, zS, zZ, zC]
      refine wpAnyH_ready (rs := [12]) (by kernel_rfl) (by simp) ?_
      refine AllReadyH.cons (o := ⟨some 75, .buildSlice 22 1 #[(0, .tmp 74)], 22, "law.go:39", #[⟨11, .data⟩], none⟩) rfl (fun K hK => ?_) AllReadyH.nil
      rw [if_pos (by rfl)]
      go_simp
      have hH0 := hHeld
      refine hK.out _ _ (fun b t cs h1 hk => (hHeld b t cs h1 hk).alloc _) (fun hHeld => ?_)
      clear hK K
      try simp only [zP, zQ, zS, zZ, zC]
      refine wpAnyH_ready (rs := [13]) (by kernel_rfl) (by simp) ?_
      refine AllReadyH.cons (o := ⟨some 76, .call { callee := .builtin .append, args := #[.tmp 63, .tmp 75], argTypes := #[22, 22] }, 22, "law.go:39", #[⟨0, .data⟩, ⟨12, .data⟩], none⟩) rfl (fun K hK => ?_) AllReadyH.nil
      rw [if_pos (by rfl)]
      refine push_at intE (.tmp 63) (.tmp 75) rfl (List.zipWith (fun x y => (x + y) % (m : Int)) La Lb) z vc rfl hcV hBV.size _ rfl _ rfl hle3 ?_
      intro v6 W6 hO6 hB7 hR6 pc
      refine hK.out _ _ (fun b t cs h1 hk => hR6 b t cs h1 (hH0 b t cs h1 hk)) (fun hHeld => ?_)
      clear hK K
      try simp only [zP, zQ, zS, zZ, zC]
      refine wpAnyH_ready (rs := [14]) (by kernel_rfl) (by simp) ?_
      refine AllReadyH.cons (o := ⟨some 19, .assign (.tmp 76), 22, "law.go:39", #[⟨13, .data⟩, ⟨13, .chain⟩, ⟨0, .phase⟩, ⟨1, .phase⟩, ⟨2, .phase⟩, ⟨3, .phase⟩, ⟨4, .phase⟩, ⟨5, .phase⟩, ⟨6, .phase⟩, ⟨7, .phase⟩, ⟨8, .phase⟩, ⟨9, .phase⟩, ⟨10, .phase⟩, ⟨11, .phase⟩, ⟨12, .phase⟩, ⟨13, .phase⟩], none⟩) rfl (fun K hK => ?_) AllReadyH.nil
      go_simp
      refine hK.out _ _ (hHeld) (fun hHeld => ?_)
      clear hK K
      try simp only [zP, zQ, zS, zZ, zC]
      refine wpAnyH_done (by kernel_rfl) ?_ _
      have R6 := hHeld
      clear hHeld hH0
      have pc := pc.imp id (fun h => (⟨_, Nat.le_succ_of_le hsV, h⟩ : ∃ k, w2.heap.size ≤ k ∧ v6.ownBlock = some k))
      have ac2 := (apart_step ha2 ac1.symm pc).symm
      have bc2 := (apart_step hb1 bc1.symm pc).symm
      have ha3 := ha2.rest ac1.symm R6
      have hb3 := hb1.rest bc1.symm R6
      have HZL : Hid (List.zipWith (fun x y => (x + y) % (m : Int)) (La ++ [(xa : Int)]) (Lb ++ [(xb : Int)]) = List.zipWith (fun x y => (x + y) % (m : Int)) La Lb ++ [z]) := Lib.hid (by
        rw [List.zipWith_append (by rw [HLA.out, HLB.out]), HZ.out]; rfl)
      go_wp2
      exact ⟨⟨i1, _, _, by have := HI1.out; omega, by rw [← HI1.out]; rfl, ha3, hb3, by rw [HZL.out]; exact hO6, ab2, ac2, bc2, la1, lb1, belowT_of (fun q hq => by
        rcases List.mem_append.1 hq with h | h
        · exact belowT_mem HBA.out q h
        · rw [List.mem_singleton.1 h]; omega), belowT_of (fun q hq => by
        rcases List.mem_append.1 hq with h | h
        · exact belowT_mem HBB.out q h
        · rw [List.mem_singleton.1 h]; omega), hBV.trans hB7⟩, by have := HI1.out; simp [intOf]; omega⟩
    · have hin : i = n := by omega
      subst hin
      obtain ⟨qa, ca, rfl, _, Aa, _⟩ := ha.form
      obtain ⟨qb, cb, rfl, _, Ab, _⟩ := hb.form
      obtain ⟨qc, cc, rfl, _, Ac, _⟩ := hc.form
      have lc : (List.zipWith (fun x y => (x + y) % (m : Int)) La Lb).length = i := by rw [List.length_zipWith, la, lb]; exact Nat.min_self _
      rw [la, lb, lc]
      obtain ⟨Lc, hLc⟩ : ∃ Lc, List.zipWith (fun x y => (x + y) % (m : Int)) La Lb = Lc := ⟨_, rfl⟩
      have bc' : belowT Lc (m : Int) = true := by
        rw [← hLc]
        refine belowT_of fun q hq => ?_
        obtain ⟨k, hk, e⟩ := List.mem_iff_getElem.1 hq
        rw [← e, List.getElem_zipWith]
        exact ⟨Int.emod_nonneg _ (by omega), Int.emod_lt_of_pos _ (by omega)⟩
      have hdm := dot_mod (m := (m : Int)) (W := W) (a := La) (b := Lb) (by rw [la, HW.out]) (by rw [lb, HW.out])
      rw [hLc] at lc Ac hdm
      have hs0 : schE W (m : Int) = 0 := by
        unfold schE
        rw [if_neg (by rw [HW.out]; omega), if_neg]
        rw [HBW.out]
        rintro (h | h | h)
        · omega
        · omega
        · cases h
      have b4 {L : List Int} (h : belowT L (m : Int) = true) : belowT L 1024 = true := belowT_of fun q hq => by have := belowT_mem h q hq; omega
      have int {V : World} {q : Option Addr} {L : List Int} (h : At intE V q L) (hb : belowT L (m : Int) = true) : IntsAt V q L := h.ints fun q hq => by have := belowT_mem hb q hq; omega
      have ia := int Aa ba
      have ib := int Ab bb
      have ic := int Ac bc'
      have iw := hWi.keep hB
      have hn9 : i ≤ 9223372036854775807 := by omega
      obtain ⟨X, hX⟩ : ∃ X, dotT W La % (m : Int) = X := ⟨_, rfl⟩
      obtain ⟨Y, hY⟩ : ∃ Y, dotT W Lb % (m : Int) = Y := ⟨_, rfl⟩
      obtain ⟨Z, hZ⟩ : ∃ Z, dotT W Lc % (m : Int) = Z := ⟨_, rfl⟩
      have hX1 : 0 ≤ X ∧ X < (m : Int) := by rw [← hX]; exact ⟨Int.emod_nonneg _ (by omega), Int.emod_lt_of_pos _ (by omega)⟩
      have hY1 : 0 ≤ Y ∧ Y < (m : Int) := by rw [← hY]; exact ⟨Int.emod_nonneg _ (by omega), Int.emod_lt_of_pos _ (by omega)⟩
      have one {q : Option Addr} {L : List Int} {c : Nat} {X : Int} (hL : L.length = i) (hb : belowT L (m : Int) = true) (hA : IntsAt wr q L) (hX : dotT W L % (m : Int) = X) :
          ∀ V, Below wr.heap.size wr V → Calls Try.prog 11 #[.slice qw i cw, .int .i64 (m : Int), .slice q i c] V (PairR X 0 V) := fun V hV => by
        have := sum_any W L (m : Int) qw i cw HW.out hn9 q i c hL hn9 V (iw.keep hV) (hA.keep hV)
        have e := sumE_yes hs0 (by rw [hL, HW.out]) hb
        rwa [e.1, e.2, hX] at this
      have CSa := Lib.hid (one (c := ca) la ba ia hX)
      have CSb := Lib.hid (one (c := cb) lb bb ib hY)
      have CSc := Lib.hid (one (c := cc) lc bc' ic hZ)
      have CT := Lib.hid (fun V (hV : Below wr.heap.size wr V) => (by have := rtotal_any W La (m : Int) (by omega) qw i cw HW.out (by omega) qa ca la (b4 HBW.out) (b4 ba) V (iw.keep hV) (ia.keep hV); rwa [hX] at this : Calls Try.prog 12 #[.slice qw i cw, .int .i64 (m : Int), .slice qa i ca] V (IntR X V)))
      obtain ⟨t, ht⟩ : ∃ t : Int, X + Y = t := ⟨_, rfl⟩
      have htw : IntKind.i64.wrap t = t := wrap_in (by omega) (by omega)
      have htz : t.tmod (m : Int) = Z := by rw [← ht, Int.tmod_eq_emod_of_nonneg (by omega), ← hZ, ← hdm, hX, hY]
      have hmz : ¬ (m : Int) = 0 := by omega
      have hmn : ¬ m = 0 := by omega
      have BR := Lib.hid (link B1 hB)
      clear one int b4 hdm hs0 bc' lc la lb hLc ha hb hc Aa Ab Ac ab ac bc ba bb ia ib ic hX hY hZ hX1 hY1 CAt2 CAt3
      go_upto_region 12 with (go_at_call 11; refine (CSa.out _ (Below.refl _ _)).mono ?_; rintro _ w4 ⟨rfl, B4⟩)
      go_upto_region 13 with (go_at_call 11; refine (CSb.out _ B4).mono ?_; rintro _ w5 ⟨rfl, B5⟩)
      have B5 := link B4 B5
      go_upto_region 14 with (go_at_call 11; refine (CSc.out _ B5).mono ?_; rintro _ w6 ⟨rfl, B6⟩)
      have B6 := link B5 B6
      go_upto_region 16 with (go_at_call 12; refine (CT.out _ B6).mono ?_; rintro _ W1 ⟨rfl, B7⟩)
      have B7 := link B6 B7
      have B8 := link BR.out B7
      have B9 := link hB B7
      have NW := Lib.hid (fun V (hV : Below W1.heap.size W1 V) => (⟨W, HW.out, iw.keep (link B7 hV), hn9⟩ : IntsN V (qw, i, cw)))
      have N4 := Lib.hid (fun V (hV : Below W1.heap.size W1 V) => (⟨raw, HL4.out, h4.keep (link B9 hV), hn4⟩ : IntsN V (A4, n4, c4)))
      have h2 := h2.keep B9
      have h3 := h3.keep B9
      have h4 := h4.keep B9
      have hmk6 : ∀ V : World, (Instr.makeSlice 22 (.int .i64 256) (.int .i64 256)).run Try.prog V = .ok (.slice (some ⟨V.heap.size, 0, none⟩) 256 256) (V.alloc (.cells (zeros 256) 3)) := fun V => mk256 V
      have hmk7 : ∀ V : World, (Instr.makeSlice 22 (.int .i64 257) (.int .i64 257)).run Try.prog V = .ok (.slice (some ⟨V.heap.size, 0, none⟩) 257 257) (V.alloc (.cells (zeros 257) 3)) := fun V => mk257 V
      have BR := Lib.hid B8
      clear B4 B5 B6 B7 B8 B9 CSa CSb CSc CT hB iw htw htz ht HBW hWi
      go_cut [27] from 27 to 130 (fun v wx => LaidN W1 v wx)
      case first =>
        refine wp_region_held_drew (S := fun w' => Below W1.heap.size W1 w') (by kernel_rfl) (below_drew (Below.refl _ _)) (fun _ => ?_)
        have hHeld : Below W1.heap.size W1 W1.drew := below_drew (Below.refl _ _)
        generalize W1.drew = V0 at hHeld ⊢
        refine wt (i := 0) (oi := ⟨some 125, .move (.tmp 15), 22, "law.go:47", #[], none⟩) (v := .slice qw i cw) (Or.inl ⟨by rfl, fun w' hSw => by go_simp⟩) hHeld ?_
        try simp only [zP, zQ, zS, zZ, zC]
        refine wt (i := 1) (oi := ⟨some 126, .move (.tmp 4), 22, "law.go:47", #[], none⟩) (v := .slice A4 n4 c4) (Or.inl ⟨by rfl, fun w' hSw => by go_simp⟩) hHeld ?_
        try simp only [zP, zQ, zS, zZ, zC]
        refine wpAnyH_ready (rs := [2, 3]) (by kernel_rfl) (by simp) ?_
        refine AllReadyH.cons (o := ⟨some 127, .makeSlice 22 (.const (Value.int IntKind.i64 256)) (.const (Value.int IntKind.i64 256)), 22, "law.go:47", #[], none⟩) rfl (fun K hK => ?_) (AllReadyH.cons (o := ⟨some 128, .makeSlice 22 (.const (Value.int IntKind.i64 257)) (.const (Value.int IntKind.i64 257)), 22, "law.go:47", #[], none⟩) rfl (fun K hK => ?_) AllReadyH.nil)
        · skip
          rw [if_pos (by rfl)]
          go_simp
          have h2z : IntsN (World.alloc V0 (.cells (zeros 256) 3)) (some ⟨V0.heap.size, 0, none⟩, 256, 256) := ints_zeros V0 256 (by omega)
          have X : Below V0.heap.size V0 (World.alloc V0 (.cells (zeros 256) 3)) := (Below.refl _ _).alloc (Nat.le_refl _) _
          refine hK.out _ _ (link hHeld X) (fun hHeld => ?_)
          clear hK K
          try simp only [zP, zQ, zS, zZ, zC]
          clear X
          generalize World.alloc V0 _ = V1 at h2z hHeld ⊢
          generalize V0.heap.size = x2 at h2z ⊢
          refine wpAnyH_ready (rs := [3]) (by kernel_rfl) (by simp) ?_
          refine AllReadyH.cons (o := ⟨some 128, .makeSlice 22 (.const (Value.int IntKind.i64 257)) (.const (Value.int IntKind.i64 257)), 22, "law.go:47", #[], none⟩) rfl (fun K hK => ?_) AllReadyH.nil
          rw [if_pos (by rfl)]
          go_simp
          have h3z : IntsN (World.alloc V1 (.cells (zeros 257) 3)) (some ⟨V1.heap.size, 0, none⟩, 257, 257) := ints_zeros V1 257 (by omega)
          have X : Below V1.heap.size V1 (World.alloc V1 (.cells (zeros 257) 3)) := (Below.refl _ _).alloc (Nat.le_refl _) _
          replace h2z := h2z.keep X
          refine hK.out _ _ (link hHeld X) (fun hHeld => ?_)
          clear hK K
          try simp only [zP, zQ, zS, zZ, zC]
          clear X
          generalize World.alloc V1 _ = V2 at h3z h2z hHeld ⊢
          generalize V1.heap.size = x3 at h3z ⊢
          refine wpAnyH_ready (rs := [4]) (by kernel_rfl) (by simp) ?_
          refine AllReadyH.cons (o := ⟨some 129, .buildSlice 30 4 #[(0, .tmp 125), (1, .tmp 126), (2, .tmp 127), (3, .tmp 128)], 30, "law.go:47", #[⟨0, .data⟩, ⟨1, .data⟩, ⟨2, .data⟩, ⟨3, .data⟩], none⟩) rfl (fun K hK => ?_) AllReadyH.nil
          rw [if_pos (by rfl)]
          go_simp
          have X : Below V2.heap.size V2 (World.alloc V2 (.cells #[.slice qw i cw, .slice A4 n4 c4, .slice (some ⟨x2, 0, none⟩) 256 256, .slice (some ⟨x3, 0, none⟩) 257 257] 22)) := (Below.refl _ _).alloc (Nat.le_refl _) _
          have G : At slE (World.alloc V2 (.cells #[.slice qw i cw, .slice A4 n4 c4, .slice (some ⟨x2, 0, none⟩) 256 256, .slice (some ⟨x3, 0, none⟩) 257 257] 22)) (some ⟨V2.heap.size, 0, none⟩) [(qw, i, cw), (A4, n4, c4), (some ⟨x2, 0, none⟩, 256, 256), (some ⟨x3, 0, none⟩, 257, 257)] := at_new slE V2 _ _ rfl
          have F0 := NW.out _ (link hHeld X)
          have F1 := N4.out _ (link hHeld X)
          have F2 := h2z.keep X
          have F3 := h3z.keep X
          refine hK.out _ _ (link hHeld X) (fun hHeld => ?_)
          clear hK K
          try simp only [zP, zQ, zS, zZ, zC]
          clear X h2z h3z
          generalize World.alloc V2 _ = VF at G F0 F1 F2 F3 hHeld ⊢
          refine wpAnyH_ready (rs := [5]) (by kernel_rfl) (by simp) ?_
          refine AllReadyH.cons (o := ⟨some 27, .assign (.tmp 129), 30, "law.go:47", #[⟨4, .data⟩, ⟨0, .phase⟩, ⟨1, .phase⟩, ⟨2, .phase⟩, ⟨3, .phase⟩, ⟨4, .phase⟩], none⟩) rfl (fun K hK => ?_) AllReadyH.nil
          go_simp
          refine hK.out _ _ (hHeld) (fun hHeld => ?_)
          clear hK K
          try simp only [zP, zQ, zS, zZ, zC]
          refine wpAnyH_done (by kernel_rfl) ?_ _
          go_wp2_with fail
          go_meet
          exact ⟨_, [(qw, i, cw), (A4, n4, c4), (some ⟨x2, 0, none⟩, 256, 256), (some ⟨x3, 0, none⟩, 257, 257)], rfl, rfl, G, fourN F0 F1 F2 F3, hHeld⟩
        · skip
          rw [if_pos (by rfl)]
          go_simp
          have h3z : IntsN (World.alloc V0 (.cells (zeros 257) 3)) (some ⟨V0.heap.size, 0, none⟩, 257, 257) := ints_zeros V0 257 (by omega)
          have X : Below V0.heap.size V0 (World.alloc V0 (.cells (zeros 257) 3)) := (Below.refl _ _).alloc (Nat.le_refl _) _
          refine hK.out _ _ (link hHeld X) (fun hHeld => ?_)
          clear hK K
          try simp only [zP, zQ, zS, zZ, zC]
          clear X
          generalize World.alloc V0 _ = V1 at h3z hHeld ⊢
          generalize V0.heap.size = x3 at h3z ⊢
          refine wpAnyH_ready (rs := [2]) (by kernel_rfl) (by simp) ?_
          refine AllReadyH.cons (o := ⟨some 127, .makeSlice 22 (.const (Value.int IntKind.i64 256)) (.const (Value.int IntKind.i64 256)), 22, "law.go:47", #[], none⟩) rfl (fun K hK => ?_) AllReadyH.nil
          rw [if_pos (by rfl)]
          go_simp
          have h2z : IntsN (World.alloc V1 (.cells (zeros 256) 3)) (some ⟨V1.heap.size, 0, none⟩, 256, 256) := ints_zeros V1 256 (by omega)
          have X : Below V1.heap.size V1 (World.alloc V1 (.cells (zeros 256) 3)) := (Below.refl _ _).alloc (Nat.le_refl _) _
          replace h3z := h3z.keep X
          refine hK.out _ _ (link hHeld X) (fun hHeld => ?_)
          clear hK K
          try simp only [zP, zQ, zS, zZ, zC]
          clear X
          generalize World.alloc V1 _ = V2 at h2z h3z hHeld ⊢
          generalize V1.heap.size = x2 at h2z ⊢
          refine wpAnyH_ready (rs := [4]) (by kernel_rfl) (by simp) ?_
          refine AllReadyH.cons (o := ⟨some 129, .buildSlice 30 4 #[(0, .tmp 125), (1, .tmp 126), (2, .tmp 127), (3, .tmp 128)], 30, "law.go:47", #[⟨0, .data⟩, ⟨1, .data⟩, ⟨2, .data⟩, ⟨3, .data⟩], none⟩) rfl (fun K hK => ?_) AllReadyH.nil
          rw [if_pos (by rfl)]
          go_simp
          have X : Below V2.heap.size V2 (World.alloc V2 (.cells #[.slice qw i cw, .slice A4 n4 c4, .slice (some ⟨x2, 0, none⟩) 256 256, .slice (some ⟨x3, 0, none⟩) 257 257] 22)) := (Below.refl _ _).alloc (Nat.le_refl _) _
          have G : At slE (World.alloc V2 (.cells #[.slice qw i cw, .slice A4 n4 c4, .slice (some ⟨x2, 0, none⟩) 256 256, .slice (some ⟨x3, 0, none⟩) 257 257] 22)) (some ⟨V2.heap.size, 0, none⟩) [(qw, i, cw), (A4, n4, c4), (some ⟨x2, 0, none⟩, 256, 256), (some ⟨x3, 0, none⟩, 257, 257)] := at_new slE V2 _ _ rfl
          have F0 := NW.out _ (link hHeld X)
          have F1 := N4.out _ (link hHeld X)
          have F2 := h2z.keep X
          have F3 := h3z.keep X
          refine hK.out _ _ (link hHeld X) (fun hHeld => ?_)
          clear hK K
          try simp only [zP, zQ, zS, zZ, zC]
          clear X h2z h3z
          generalize World.alloc V2 _ = VF at G F0 F1 F2 F3 hHeld ⊢
          refine wpAnyH_ready (rs := [5]) (by kernel_rfl) (by simp) ?_
          refine AllReadyH.cons (o := ⟨some 27, .assign (.tmp 129), 30, "law.go:47", #[⟨4, .data⟩, ⟨0, .phase⟩, ⟨1, .phase⟩, ⟨2, .phase⟩, ⟨3, .phase⟩, ⟨4, .phase⟩], none⟩) rfl (fun K hK => ?_) AllReadyH.nil
          go_simp
          refine hK.out _ _ (hHeld) (fun hHeld => ?_)
          clear hK K
          try simp only [zP, zQ, zS, zZ, zC]
          refine wpAnyH_done (by kernel_rfl) ?_ _
          go_wp2_with fail
          go_meet
          exact ⟨_, [(qw, i, cw), (A4, n4, c4), (some ⟨x2, 0, none⟩, 256, 256), (some ⟨x3, 0, none⟩, 257, 257)], rfl, rfl, G, fourN F0 F1 F2 F3, hHeld⟩
      case rest =>
      obtain ⟨gl, S1, rfl, hS1, hG, hI, hB⟩ := hcut
      generalize wc = W2 at *
      have h2 := h2.keep hB
      have h3 := h3.keep hB
      have h4 := h4.keep hB
      have BR := Lib.hid (link BR.out hB)
      clear hmk7 NW N4 hB
      go_upto_region 18 with (fail)
      obtain ⟨V1, hV1⟩ : ∃ V1, W2.alloc (.cells (zeros 256) 3) = V1 := ⟨_, rfl⟩
      have Z6 := ints_zeros W2 256 (by omega)
      have X1 : Below W2.heap.size W2 (W2.alloc (.cells (zeros 256) 3)) := (Below.refl _ _).alloc (Nat.le_refl _) _
      have sz : V1.heap.size = W2.heap.size + 1 := by rw [← hV1]; exact Array.size_push _
      rw [hV1] at Z6 X1 ⊢
      rw [← sz]
      clear hV1 sz
      generalize W2.heap.size = x6 at Z6 ⊢
      have X2 : Below V1.heap.size V1 (V1.alloc (.cells #[.slice A2 n2 c2, .slice A4 n4 c4, .slice A3 n3 c3, .slice (some ⟨x6, 0, none⟩) 256 256] 22)) := (Below.refl _ _).alloc (Nat.le_refl _) _
      have G2 : At slE (V1.alloc (.cells #[.slice A2 n2 c2, .slice A4 n4 c4, .slice A3 n3 c3, .slice (some ⟨x6, 0, none⟩) 256 256] 22)) (some ⟨V1.heap.size, 0, none⟩) [(A2, n2, c2), (A4, n4, c4), (A3, n3, c3), (some ⟨x6, 0, none⟩, 256, 256)] := at_new slE V1 _ _ rfl
      have X3 := link X1 X2
      have I2 := fourN (⟨v, HL2.out, h2.keep X3, hn2⟩ : IntsN _ (A2, n2, c2)) (⟨raw, HL4.out, h4.keep X3, hn4⟩ : IntsN _ (A4, n4, c4)) (⟨u, HL3.out, h3.keep X3, hn3⟩ : IntsN _ (A3, n3, c3)) (Z6.keep X2)
      obtain ⟨S2, hS2, hl2⟩ : ∃ S2 : List (Option Addr × Nat × Nat), [(A2, n2, c2), (A4, n4, c4), (A3, n3, c3), (some ⟨x6, 0, none⟩, 256, 256)] = S2 ∧ S2.length = 4 := ⟨_, rfl, rfl⟩
      rw [hS2] at G2 I2
      have hG := hG.keep X3
      have hI : ∀ s ∈ S1, IntsN _ s := fun s hs => (hI s hs).keep X3
      generalize V1.alloc _ = V2 at G2 I2 hG hI X3 ⊢
      generalize V1.heap.size = gv at G2 ⊢
      have BR := Lib.hid (link BR.out X3)
      clear X1 X2 X3 Z6 hS2 h2 h3 h4 hmk6
      go_upto_region 19 with (fail)
      have X1 : Below V2.heap.size V2 (V2.alloc (.cells #[.int .i64 (m : Int), .int .i64 md, .int .i64 1, .int .i64 2, .int .i64 1024, .int .i64 1025] 3)) := (Below.refl _ _).alloc (Nat.le_refl _) _
      have G3 : At intE (V2.alloc (.cells #[.int .i64 (m : Int), .int .i64 md, .int .i64 1, .int .i64 2, .int .i64 1024, .int .i64 1025] 3)) (some ⟨V2.heap.size, 0, none⟩) [(m : Int), md, 1, 2, 1024, 1025] := at_new intE V2 _ _ rfl
      obtain ⟨M, hM, hl3, hMi⟩ : ∃ M : List Int, [(m : Int), md, 1, 2, 1024, 1025] = M ∧ M.length = 6 ∧ True := ⟨_, rfl, rfl, trivial⟩
      rw [hM] at G3
      have hG := hG.keep X1
      have G2 := G2.keep X1
      have hI : ∀ s ∈ S1, IntsN _ s := fun s hs => (hI s hs).keep X1
      have I2 : ∀ s ∈ S2, IntsN _ s := fun s hs => (I2 s hs).keep X1
      generalize V2.alloc _ = W3 at G2 G3 I2 hG hI X1 ⊢
      generalize V2.heap.size = gm at G3 ⊢
      have BR := Lib.hid (link BR.out X1)
      clear X1 hM hMi
      go_wp2
      go_loopw [30] (fun v V => NumRel W3 4 v V) (fun v _ => 4 - (intOf v).toNat)
      case atStart => exact ⟨0, Nat.zero_le _, rfl, Below.refl _ _⟩
      case round =>
        obtain ⟨i, hi, rfl, hB⟩ := hrel
        rcases Nat.lt_or_ge i 4 with hlt | hge
        · have hlt4 : (i : Int) < 4 := by omega
          obtain ⟨⟨q1, n1, c1⟩, hs1⟩ : ∃ s, S1[i]? = some s := ⟨_, List.getElem?_eq_getElem (by omega)⟩
          have HL : Hid (∀ V, Below W3.heap.size W3 V → V.cell? ⟨gl, i, none⟩ = some (.slice q1 n1 c1)) := Lib.hid (fun V hV => lay_cell (hG.keep hV) hs1 rfl rfl)
          obtain ⟨l1, hl1, hA1, hn1⟩ := hI _ (List.mem_of_getElem? hs1)
          have hl1 : l1.length = n1 := hl1
          have hn1 : n1 ≤ 9223372036854775807 := hn1
          have N1 := Lib.hid (fun (V : World) (hV : Below W3.heap.size W3 V) => (show IntsAt V q1 l1 from hA1.keep hV))
          have HE1 := Lib.hid hl1
          clear hs1 hl1 hA1
          go_wp2
          go_loopw [31] (fun v V => NumRel W3 4 v V) (fun v _ => 4 - (intOf v).toNat)
          case atStart => exact ⟨0, Nat.zero_le _, rfl, hB⟩
          case round =>
            obtain ⟨j, hj, rfl, hB⟩ := hrel
            rcases Nat.lt_or_ge j 4 with hlt | hge
            · have hlt5 : (j : Int) < 4 := by omega
              obtain ⟨⟨q5, n5, c5⟩, hs5⟩ : ∃ s, S2[j]? = some s := ⟨_, List.getElem?_eq_getElem (by omega)⟩
              have HV : Hid (∀ V, Below W3.heap.size W3 V → V.cell? ⟨gv, j, none⟩ = some (.slice q5 n5 c5)) := Lib.hid (fun V hV => lay_cell (G2.keep hV) hs5 rfl rfl)
              obtain ⟨l5, hl5, hA5, hn5⟩ := I2 _ (List.mem_of_getElem? hs5)
              have hl5 : l5.length = n5 := hl5
              have hn5 : n5 ≤ 9223372036854775807 := hn5
              have N5 := Lib.hid (fun (V : World) (hV : Below W3.heap.size W3 V) => (show IntsAt V q5 l5 from hA5.keep hV))
              have HE5 := Lib.hid hl5
              clear hs5 hl5 hA5
              go_wp2
              go_loopw [32] (fun v V => NumRel W3 6 v V) (fun v _ => 6 - (intOf v).toNat)
              case atStart => exact ⟨0, Nat.zero_le _, rfl, hB⟩
              case round =>
                obtain ⟨k, hk, rfl, hB⟩ := hrel
                rcases Nat.lt_or_ge k 6 with hlt | hge
                · have hlt6 : (k : Int) < 6 := by omega
                  obtain ⟨y, hy⟩ : ∃ y, M[k]? = some y := ⟨_, List.getElem?_eq_getElem (by omega)⟩
                  have HM : Hid (∀ V, Below W3.heap.size W3 V → V.cell? ⟨gm, k, none⟩ = some (.int .i64 y)) := Lib.hid (fun V hV => lay_cell (G3.keep hV) hy rfl rfl)
                  obtain ⟨T, hT⟩ : ∃ T, sumT l1 y l5 = T := ⟨_, rfl⟩
                  obtain ⟨E, hE⟩ : ∃ E, sumE l1 y l5 = E := ⟨_, rfl⟩
                  have CP := Lib.hid (fun V (hV : Below W3.heap.size W3 V) => (by have := sum_any l1 l5 y q1 n1 c1 HE1.out hn1 q5 n5 c5 HE5.out hn5 V (N1.out V hV) (N5.out V hV); rwa [hT, hE] at this : Calls Try.prog 11 #[.slice q1 n1 c1, .int .i64 y, .slice q5 n5 c5] V (PairR T E V)))
                  have CR := Lib.hid (fun V (hV : Below W3.heap.size W3 V) => (by have := rsum_any l1 l5 y q1 n1 c1 HE1.out hn1 q5 n5 c5 HE5.out hn5 V (N1.out V hV) (N5.out V hV); rwa [hT, hE] at this : Calls Try.prog 13 #[.slice q1 n1 c1, .int .i64 y, .slice q5 n5 c5] V (PairR T E V)))
                  clear hT hE hy
                  go_upto_region 28 with (fail)
                  refine wp_region_held_drew (S := fun w' => Below W3.heap.size W3 w') (by kernel_rfl) (below_drew (hB)) (fun _ => ?_)
                  have hHeld : Below W3.heap.size W3 wr.drew := below_drew (hB)
                  generalize wr.drew = va0 at hHeld ⊢
                  refine wt (i := 0) (oi := ⟨some 157, .move (.tmp 27), 30, "law.go:53", #[], none⟩) (v := .slice (some ⟨gl, 0, none⟩) 4 4) (Or.inl ⟨by rfl, fun w' hSw => by go_simp⟩) hHeld ?_
                  try simp only [zP, zQ, zS, zZ, zC]
                  refine wt (i := 1) (oi := ⟨some 158, .move (.tmp 30), 3, "law.go:53", #[], none⟩) (v := .int .i64 (i : Int)) (Or.inl ⟨by rfl, fun w' hSw => by go_simp⟩) hHeld ?_
                  try simp only [zP, zQ, zS, zZ, zC]
                  refine wt (i := 2) (oi := ⟨some 159, .indexAddr 30 (.tmp 157) (.tmp 158), 0, "law.go:53", #[⟨0, .data⟩, ⟨1, .data⟩], none⟩) (v := .pointer (some ⟨gl, i, none⟩)) (Or.inl ⟨by rfl, fun w' hSw => by go_simp⟩) hHeld ?_
                  try simp only [zP, zQ, zS, zZ, zC]
                  refine wt (i := 3) (oi := ⟨some 160, .load 22 (.tmp 159), 22, "law.go:53", #[⟨2, .data⟩], none⟩) (v := .slice q1 n1 c1) (Or.inl ⟨by rfl, fun w' hSw => by have c9 := HL.out w' hSw; go_simp⟩) hHeld ?_
                  try simp only [zP, zQ, zS, zZ, zC]
                  refine wt (i := 4) (oi := ⟨some 161, .move (.tmp 29), 22, "law.go:53", #[], none⟩) (v := .slice (some ⟨gm, 0, none⟩) 6 6) (Or.inl ⟨by rfl, fun w' hSw => by go_simp⟩) hHeld ?_
                  try simp only [zP, zQ, zS, zZ, zC]
                  refine wt (i := 5) (oi := ⟨some 162, .move (.tmp 32), 3, "law.go:53", #[], none⟩) (v := .int .i64 (k : Int)) (Or.inl ⟨by rfl, fun w' hSw => by go_simp⟩) hHeld ?_
                  try simp only [zP, zQ, zS, zZ, zC]
                  refine wt (i := 6) (oi := ⟨some 163, .indexAddr 22 (.tmp 161) (.tmp 162), 0, "law.go:53", #[⟨4, .data⟩, ⟨5, .data⟩], none⟩) (v := .pointer (some ⟨gm, k, none⟩)) (Or.inl ⟨by rfl, fun w' hSw => by go_simp⟩) hHeld ?_
                  try simp only [zP, zQ, zS, zZ, zC]
                  refine wt (i := 7) (oi := ⟨some 164, .load 3 (.tmp 163), 3, "law.go:53", #[⟨6, .data⟩], none⟩) (v := .int .i64 y) (Or.inl ⟨by rfl, fun w' hSw => by have c9 := HM.out w' hSw; go_simp⟩) hHeld ?_
                  try simp only [zP, zQ, zS, zZ, zC]
                  refine wt (i := 8) (oi := ⟨some 165, .move (.tmp 28), 30, "law.go:53", #[], none⟩) (v := .slice (some ⟨gv, 0, none⟩) 4 4) (Or.inl ⟨by rfl, fun w' hSw => by go_simp⟩) hHeld ?_
                  try simp only [zP, zQ, zS, zZ, zC]
                  refine wt (i := 9) (oi := ⟨some 166, .move (.tmp 31), 3, "law.go:53", #[], none⟩) (v := .int .i64 (j : Int)) (Or.inl ⟨by rfl, fun w' hSw => by go_simp⟩) hHeld ?_
                  try simp only [zP, zQ, zS, zZ, zC]
                  refine wt (i := 10) (oi := ⟨some 167, .indexAddr 30 (.tmp 165) (.tmp 166), 0, "law.go:53", #[⟨8, .data⟩, ⟨9, .data⟩], none⟩) (v := .pointer (some ⟨gv, j, none⟩)) (Or.inl ⟨by rfl, fun w' hSw => by go_simp⟩) hHeld ?_
                  try simp only [zP, zQ, zS, zZ, zC]
                  refine wt (i := 11) (oi := ⟨some 168, .load 22 (.tmp 167), 22, "law.go:53", #[⟨10, .data⟩], none⟩) (v := .slice q5 n5 c5) (Or.inl ⟨by rfl, fun w' hSw => by have c9 := HV.out w' hSw; go_simp⟩) hHeld ?_
                  try simp only [zP, zQ, zS, zZ, zC]
                  refine wpAnyH_ready (rs := [12]) (by kernel_rfl) (by simp) ?_
                  refine AllReadyH.cons (o := ⟨some 169, .call { callee := .value (.func 11), args := #[.tmp 160, .tmp 164, .tmp 168], argTypes := #[22, 3, 22] }, 27, "law.go:53", #[⟨3, .data⟩, ⟨7, .data⟩, ⟨11, .data⟩], none⟩) rfl (fun K hK => ?_) AllReadyH.nil
                  rw [if_pos (by rfl)]
                  go_simp
                  refine (CP.out _ hHeld).mono ?_
                  rintro en va1 ⟨rfl, hB9⟩
                  dsimp only
                  refine hK.out _ _ (link hHeld hB9) (fun hHeld => ?_)
                  clear hK K
                  try simp only [zP, zQ, zS, zZ, zC]
                  clear hB9
                  refine wt (i := 13) (oi := ⟨some 156, .move (.tmp 169), 27, "law.go:53", #[⟨12, .data⟩], none⟩) (v := .tuple #[.int .i64 T, .int .i64 E]) (Or.inl ⟨by rfl, fun w' hSw => by go_simp⟩) hHeld ?_
                  try simp only [zP, zQ, zS, zZ, zC]
                  refine wt (i := 14) (oi := ⟨some 170, .extract (.tmp 156) 0, 3, "law.go:53", #[⟨13, .data⟩], none⟩) (v := .int .i64 T) (Or.inl ⟨by rfl, fun w' hSw => by go_simp⟩) hHeld ?_
                  try simp only [zP, zQ, zS, zZ, zC]
                  refine wt (i := 15) (oi := ⟨some 171, .extract (.tmp 156) 1, 26, "law.go:53", #[⟨13, .data⟩, { on := 16, ground := Ground.gcOnly Departure.lateStores }], none⟩) (v := .int .i64 E) (Or.inl ⟨by rfl, fun w' hSw => by go_simp⟩) hHeld ?_
                  try simp only [zP, zQ, zS, zZ, zC]
                  refine wpAnyH_ready (rs := [16]) (by kernel_rfl) (by simp) ?_
                  refine AllReadyH.cons (o := ⟨some 33, .assign (.tmp 170), 3, "law.go:53", #[⟨14, .data⟩, ⟨12, .chain⟩, ⟨0, .phase⟩, ⟨1, .phase⟩, ⟨2, .phase⟩, ⟨3, .phase⟩, ⟨4, .phase⟩, ⟨5, .phase⟩, ⟨6, .phase⟩, ⟨7, .phase⟩, ⟨8, .phase⟩, ⟨9, .phase⟩, ⟨10, .phase⟩, ⟨11, .phase⟩, ⟨12, .phase⟩, ⟨13, .phase⟩, ⟨14, .phase⟩, { on := 15, ground := Ground.textOnly Departure.lateStores }], none⟩) rfl (fun K hK => ?_) AllReadyH.nil
                  go_simp
                  refine hK.out _ _ (hHeld) (fun hHeld => ?_)
                  clear hK K
                  try simp only [zP, zQ, zS, zZ, zC]
                  refine wpAnyH_ready (rs := [17]) (by kernel_rfl) (by simp) ?_
                  refine AllReadyH.cons (o := ⟨some 34, .assign (.tmp 171), 26, "law.go:53", #[⟨15, .data⟩, ⟨16, .chain⟩, ⟨0, .phase⟩, ⟨1, .phase⟩, ⟨2, .phase⟩, ⟨3, .phase⟩, ⟨4, .phase⟩, ⟨5, .phase⟩, ⟨6, .phase⟩, ⟨7, .phase⟩, ⟨8, .phase⟩, ⟨9, .phase⟩, ⟨10, .phase⟩, ⟨11, .phase⟩, ⟨12, .phase⟩, ⟨13, .phase⟩, ⟨14, .phase⟩, ⟨15, .phase⟩, ⟨16, .phase⟩], none⟩) rfl (fun K hK => ?_) AllReadyH.nil
                  go_simp
                  refine hK.out _ _ (hHeld) (fun hHeld => ?_)
                  clear hK K
                  try simp only [zP, zQ, zS, zZ, zC]
                  refine wpAnyH_done (by kernel_rfl) ?_ _
                  have BX := hHeld
                  clear hHeld 
                  go_upto_region 29 with (fail)
                  refine wp_region_held_drew (S := fun w' => Below W3.heap.size W3 w') (by kernel_rfl) (below_drew (BX)) (fun _ => ?_)
                  have hHeld : Below W3.heap.size W3 va1.drew := below_drew (BX)
                  generalize va1.drew = vb0 at hHeld ⊢
                  refine wt (i := 0) (oi := ⟨some 173, .move (.tmp 27), 30, "law.go:54", #[], none⟩) (v := .slice (some ⟨gl, 0, none⟩) 4 4) (Or.inl ⟨by rfl, fun w' hSw => by go_simp⟩) hHeld ?_
                  try simp only [zP, zQ, zS, zZ, zC]
                  refine wt (i := 1) (oi := ⟨some 174, .move (.tmp 30), 3, "law.go:54", #[], none⟩) (v := .int .i64 (i : Int)) (Or.inl ⟨by rfl, fun w' hSw => by go_simp⟩) hHeld ?_
                  try simp only [zP, zQ, zS, zZ, zC]
                  refine wt (i := 2) (oi := ⟨some 175, .indexAddr 30 (.tmp 173) (.tmp 174), 0, "law.go:54", #[⟨0, .data⟩, ⟨1, .data⟩], none⟩) (v := .pointer (some ⟨gl, i, none⟩)) (Or.inl ⟨by rfl, fun w' hSw => by go_simp⟩) hHeld ?_
                  try simp only [zP, zQ, zS, zZ, zC]
                  refine wt (i := 3) (oi := ⟨some 176, .load 22 (.tmp 175), 22, "law.go:54", #[⟨2, .data⟩], none⟩) (v := .slice q1 n1 c1) (Or.inl ⟨by rfl, fun w' hSw => by have c9 := HL.out w' hSw; go_simp⟩) hHeld ?_
                  try simp only [zP, zQ, zS, zZ, zC]
                  refine wt (i := 4) (oi := ⟨some 177, .move (.tmp 29), 22, "law.go:54", #[], none⟩) (v := .slice (some ⟨gm, 0, none⟩) 6 6) (Or.inl ⟨by rfl, fun w' hSw => by go_simp⟩) hHeld ?_
                  try simp only [zP, zQ, zS, zZ, zC]
                  refine wt (i := 5) (oi := ⟨some 178, .move (.tmp 32), 3, "law.go:54", #[], none⟩) (v := .int .i64 (k : Int)) (Or.inl ⟨by rfl, fun w' hSw => by go_simp⟩) hHeld ?_
                  try simp only [zP, zQ, zS, zZ, zC]
                  refine wt (i := 6) (oi := ⟨some 179, .indexAddr 22 (.tmp 177) (.tmp 178), 0, "law.go:54", #[⟨4, .data⟩, ⟨5, .data⟩], none⟩) (v := .pointer (some ⟨gm, k, none⟩)) (Or.inl ⟨by rfl, fun w' hSw => by go_simp⟩) hHeld ?_
                  try simp only [zP, zQ, zS, zZ, zC]
                  refine wt (i := 7) (oi := ⟨some 180, .load 3 (.tmp 179), 3, "law.go:54", #[⟨6, .data⟩], none⟩) (v := .int .i64 y) (Or.inl ⟨by rfl, fun w' hSw => by have c9 := HM.out w' hSw; go_simp⟩) hHeld ?_
                  try simp only [zP, zQ, zS, zZ, zC]
                  refine wt (i := 8) (oi := ⟨some 181, .move (.tmp 28), 30, "law.go:54", #[], none⟩) (v := .slice (some ⟨gv, 0, none⟩) 4 4) (Or.inl ⟨by rfl, fun w' hSw => by go_simp⟩) hHeld ?_
                  try simp only [zP, zQ, zS, zZ, zC]
                  refine wt (i := 9) (oi := ⟨some 182, .move (.tmp 31), 3, "law.go:54", #[], none⟩) (v := .int .i64 (j : Int)) (Or.inl ⟨by rfl, fun w' hSw => by go_simp⟩) hHeld ?_
                  try simp only [zP, zQ, zS, zZ, zC]
                  refine wt (i := 10) (oi := ⟨some 183, .indexAddr 30 (.tmp 181) (.tmp 182), 0, "law.go:54", #[⟨8, .data⟩, ⟨9, .data⟩], none⟩) (v := .pointer (some ⟨gv, j, none⟩)) (Or.inl ⟨by rfl, fun w' hSw => by go_simp⟩) hHeld ?_
                  try simp only [zP, zQ, zS, zZ, zC]
                  refine wt (i := 11) (oi := ⟨some 184, .load 22 (.tmp 183), 22, "law.go:54", #[⟨10, .data⟩], none⟩) (v := .slice q5 n5 c5) (Or.inl ⟨by rfl, fun w' hSw => by have c9 := HV.out w' hSw; go_simp⟩) hHeld ?_
                  try simp only [zP, zQ, zS, zZ, zC]
                  refine wpAnyH_ready (rs := [12]) (by kernel_rfl) (by simp) ?_
                  refine AllReadyH.cons (o := ⟨some 185, .call { callee := .value (.func 13), args := #[.tmp 176, .tmp 180, .tmp 184], argTypes := #[22, 3, 22] }, 27, "law.go:54", #[⟨3, .data⟩, ⟨7, .data⟩, ⟨11, .data⟩], none⟩) rfl (fun K hK => ?_) AllReadyH.nil
                  rw [if_pos (by rfl)]
                  go_simp
                  refine (CR.out _ hHeld).mono ?_
                  rintro en vb1 ⟨rfl, hB9⟩
                  dsimp only
                  refine hK.out _ _ (link hHeld hB9) (fun hHeld => ?_)
                  clear hK K
                  try simp only [zP, zQ, zS, zZ, zC]
                  clear hB9
                  refine wt (i := 13) (oi := ⟨some 172, .move (.tmp 185), 27, "law.go:54", #[⟨12, .data⟩], none⟩) (v := .tuple #[.int .i64 T, .int .i64 E]) (Or.inl ⟨by rfl, fun w' hSw => by go_simp⟩) hHeld ?_
                  try simp only [zP, zQ, zS, zZ, zC]
                  refine wt (i := 14) (oi := ⟨some 186, .extract (.tmp 172) 0, 3, "law.go:54", #[⟨13, .data⟩], none⟩) (v := .int .i64 T) (Or.inl ⟨by rfl, fun w' hSw => by go_simp⟩) hHeld ?_
                  try simp only [zP, zQ, zS, zZ, zC]
                  refine wt (i := 15) (oi := ⟨some 187, .extract (.tmp 172) 1, 26, "law.go:54", #[⟨13, .data⟩, { on := 16, ground := Ground.gcOnly Departure.lateStores }], none⟩) (v := .int .i64 E) (Or.inl ⟨by rfl, fun w' hSw => by go_simp⟩) hHeld ?_
                  try simp only [zP, zQ, zS, zZ, zC]
                  refine wpAnyH_ready (rs := [16]) (by kernel_rfl) (by simp) ?_
                  refine AllReadyH.cons (o := ⟨some 35, .assign (.tmp 186), 3, "law.go:54", #[⟨14, .data⟩, ⟨12, .chain⟩, ⟨0, .phase⟩, ⟨1, .phase⟩, ⟨2, .phase⟩, ⟨3, .phase⟩, ⟨4, .phase⟩, ⟨5, .phase⟩, ⟨6, .phase⟩, ⟨7, .phase⟩, ⟨8, .phase⟩, ⟨9, .phase⟩, ⟨10, .phase⟩, ⟨11, .phase⟩, ⟨12, .phase⟩, ⟨13, .phase⟩, ⟨14, .phase⟩, { on := 15, ground := Ground.textOnly Departure.lateStores }], none⟩) rfl (fun K hK => ?_) AllReadyH.nil
                  go_simp
                  refine hK.out _ _ (hHeld) (fun hHeld => ?_)
                  clear hK K
                  try simp only [zP, zQ, zS, zZ, zC]
                  refine wpAnyH_ready (rs := [17]) (by kernel_rfl) (by simp) ?_
                  refine AllReadyH.cons (o := ⟨some 36, .assign (.tmp 187), 26, "law.go:54", #[⟨15, .data⟩, ⟨16, .chain⟩, ⟨0, .phase⟩, ⟨1, .phase⟩, ⟨2, .phase⟩, ⟨3, .phase⟩, ⟨4, .phase⟩, ⟨5, .phase⟩, ⟨6, .phase⟩, ⟨7, .phase⟩, ⟨8, .phase⟩, ⟨9, .phase⟩, ⟨10, .phase⟩, ⟨11, .phase⟩, ⟨12, .phase⟩, ⟨13, .phase⟩, ⟨14, .phase⟩, ⟨15, .phase⟩, ⟨16, .phase⟩], none⟩) rfl (fun K hK => ?_) AllReadyH.nil
                  go_simp
                  refine hK.out _ _ (hHeld) (fun hHeld => ?_)
                  clear hK K
                  try simp only [zP, zQ, zS, zZ, zC]
                  refine wpAnyH_done (by kernel_rfl) ?_ _
                  have BY := hHeld
                  clear hHeld 
                  go_wp2
                  exact ⟨⟨k + 1, by omega, by go_num, BY⟩, by simp [intOf]; omega⟩
                · obtain rfl : k = 6 := by omega
                  go_wp2
                  exact ⟨⟨j + 1, by omega, by go_num, hB⟩, by simp [intOf]; omega⟩
            · obtain rfl : j = 4 := by omega
              go_wp2
              exact ⟨⟨i + 1, by omega, by go_num, hB⟩, by simp [intOf]; omega⟩
        · obtain rfl : i = 4 := by omega
          go_wp2_with (first
            | (go_at_call 14; refine (CV1.out _).mono ?_; rintro _ w7 ⟨rfl, B7⟩)
            | (go_at_call 15; refine (CV2.out _).mono ?_; rintro _ w8 ⟨rfl, B8⟩)
            | (go_at_call 16; refine (CL.out _).mono ?_; rintro _ w9 ⟨rfl, B9⟩))
          go_ret
          exact ⟨rfl, link BR.out (link hB (link B7 (link B8 B9)))⟩
end Go.Proofs.Ytjpiidfoegaenaa
