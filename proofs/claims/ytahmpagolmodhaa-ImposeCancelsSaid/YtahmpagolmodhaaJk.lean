/-
  Bent of the reference: some sheets.
-/
import Derived.Test.YtahmpagolmodhaaCl
import Derived.StillTailTactics
namespace Go.Proofs.Ytahmpagolmodhaa
open Go.RowKit
set_option linter.unusedVariables false
set_option linter.unusedSimpArgs false

/-- Some sheets of one's own, at most m of them. -/
def BentS (m : Nat) (w : World) (e : Ending) (w' : World) : Prop := ∃ (l : List Sh) (q : Option Addr) (n c : Nat), e = .returned (.slice q n c) ∧ l.length = n ∧ n ≤ m ∧ At srE w' q l ∧ Below w.heap.size w w'
theorem bentS {E : List Sh} {v : Value} {B m : Nat} {w w' : World} (h : OwnR srE w' B v E) (hm : E.length ≤ m) (hB : Below w.heap.size w w') : BentS m w (.returned v) w' := by
  obtain ⟨q, c, e, _, hA, _⟩ := h.form
  exact ⟨E, q, _, c, by rw [e], rfl, hm, hA, hB⟩
theorem one2 (u v : Int) : (#[Value.int .i64 u, Value.int .i64 v]).all (·.oneCell') = true := all_oneCell_toArray (cs := [.int .i64 u, .int .i64 v]) (by intro v hv; simp at hv; rcases hv with rfl | rfl <;> rfl)
theorem one5 (x : Sh) : (#[Value.int .i64 x.q, .int .i64 x.fa, .int .i64 x.fb, .int .i64 x.ba, .int .i64 x.bb]).all (·.oneCell') = true := all_oneCell_toArray (cs := shV x) (srE.one x)
theorem app_el {α : Type} (E : Elt α) {w : World} {B : Nat} {ops : Array Oper} {rest : List Oper} {o : Oper} {a : Act} {Q : Exit → Act → World → Prop} (hgd : o.guard = none) (s x : Operand)
    (ho : o.op = .call { callee := .builtin .append, args := #[s, x], argTypes := #[E.ST, E.ST] })
    (l m : List α) (v : Value) (hs : a.eval s = v) (hown : OwnR E w B v l) (hB : B ≤ w.heap.size)
    (ad : Addr) (n c : Nat) (hx : a.eval x = .slice (some ad) n c) (hn : m.length = n) (hm : At E w (some ad) m) (hl : l.length ≤ 500000000000) (hl2 : n ≤ 500000000000)
    (h : ∀ v' w', OwnR E w' B v' (l ++ m) → Below B w w' → wpList Try.prog ops Q rest (a.put o.dst v') w') : wpList Try.prog ops Q (o :: rest) a w :=
  wpList_plain hgd fun _ hK => app_wp E s x ho l m v hs hown hB ad n c hx hn hm hl hl2 fun v' w' h1 h2 _ => hK _ _ (h v' w' h1 h2)
set_option maxHeartbeats 8000000 in
set_option maxRecDepth 100000 in
theorem bent_any (l : List Sh) (qa : Option Addr) (n c0 : Nat) (hl : l.length = n) (hn6 : n ≤ 100000) (how by_ : Int) (h1 : -9223372036854775808 ≤ how) (h2 : how ≤ 9223372036854775807) (h3 : -9223372036854775808 ≤ by_) (h4 : by_ ≤ 9223372036854775807) (w : World) (hA : At srE w qa l) :
    Calls Try.prog 17 #[.slice qa n c0, .int .i64 how, .int .i64 by_] w (BentS (n + 1) w) := by
  have HN := Lib.hid hl
  have q8 := tdiv8_in h3 h4
  have C2 := Lib.hid (fun V => around_any by_ h3 h4 2 (by omega) (by omega) V)
  have C9 := Lib.hid (fun V => around_any (by_.tdiv 8) q8.1 q8.2 9 (by omega) (by omega) V)
  have C7 := Lib.hid (fun V => around_any how h1 h2 7 (by omega) (by omega) V)
  have CN := Lib.hid (fun (hp : 0 < n) V => around_any by_ h3 h4 n hp (by omega) V)
  have hw0 : Below w.heap.size w (w.alloc (.cells #[] 69)) := (Below.refl _ _).alloc (Nat.le_refl _) _
  have hO0 : OwnR srE (w.alloc (.cells #[] 69)) w.heap.size (.slice (some ⟨w.heap.size, 0, none⟩) 0 0) [] := own_new srE w #[] [] 0 rfl (by omega) rfl
  have hA0 := hA.keep hw0
  go_enter Try.func17, Try.ntmps17
  rcases Nat.eq_zero_or_pos n with hz | hp
  · subst hz
    clear CN
    go_wp2_with (first
      | (at_builtin; refine clone_el srE rfl (.tmp 11) (.tmp 12) rfl l w.heap.size 0 c0 rfl hO0 (by simp) qa rfl hl hA0 (by omega) ?_; intro g c w2 hO hz0 hnz hB)
      | (go_at_call 25; refine (C2.out _).mono ?_; rintro _ w3 ⟨r, hr, rfl, rfl⟩))
    go_ret
    have hB5 : Below w.heap.size w w3 := hw0.trans (hB.mono hw0.size)
    exact bentS (E := [⟨(r : Int), 0, 0, 0, 0⟩]) (own_new srE w3 _ _ 1 rfl (by decide) rfl) (Nat.le_refl _) (hB5.alloc hB5.size _)
  · have hne : ¬ (n : Int) = 0 := by omega
    have CN := Lib.hid (CN.out hp)
    go_upto_region 4 with (first
      | (at_builtin; refine clone_el srE rfl (.tmp 11) (.tmp 12) rfl l w.heap.size n c0 rfl hO0 (by simp) qa rfl hl hA0 (by omega) ?_; intro g c w2 hO hz0 hnz hB))
    have hB : Below w.heap.size w w2 := hw0.trans (hB.mono hw0.size)
    clear hz0 hnz hA0 hO0 hw0 hA
    go_upto_region 10 with (first
      | (go_at_call_of 25 (Value.int IntKind.i64 (n : Int)); refine (CN.out _).mono ?_; rintro _ _ ⟨k, hk, rfl, rfl⟩)
      | (go_at_call_of 25 (Value.int IntKind.i64 9); refine (C9.out _).mono ?_; rintro _ _ ⟨r9, hr9, rfl, rfl⟩)
      | (go_at_call_of 25 (Value.int IntKind.i64 7); refine (C7.out _).mono ?_; rintro _ w2 ⟨r, hr, rfl, rfl⟩))
    clear CN C9 C7 C2
    obtain ⟨x, hx⟩ : ∃ x, l[k]? = some x := ⟨_, List.getElem?_eq_getElem (by rw [HN.out]; exact hk)⟩
    have hkz : (k : Int) < (n : Int) := by omega
    have hset : ∀ y : Sh, (l.set k y).length ≤ n + 1 := fun y => by rw [List.length_set, HN.out]; omega
    obtain ⟨hg, R⟩ := own_read hO hx
    have R1 : w2.cell? ⟨g, k * 5 + 1, none⟩ = some (.int .i64 x.fa) := R 1 _ rfl
    have R2 : w2.cell? ⟨g, k * 5 + 1 + 1, none⟩ = some (.int .i64 x.fb) := R 2 _ rfl
    have R3 : w2.cell? ⟨g, k * 5 + 3, none⟩ = some (.int .i64 x.ba) := R 3 _ rfl
    have R4 : w2.cell? ⟨g, k * 5 + 3 + 1, none⟩ = some (.int .i64 x.bb) := R 4 _ rfl
    rcases (show (r : Int) = 0 ∨ (r : Int) = 1 ∨ (r : Int) = 2 ∨ (r : Int) = 3 ∨ (r : Int) = 4 ∨ (r : Int) = 5 ∨ (r : Int) = 6 by omega) with e | e | e | e | e | e | e <;> rw [e] <;> clear e
    · obtain ⟨hgB, ⟨v, hc⟩, hf, hO2⟩ := own_quire hO hx ((r9 : Int) - 3)
      have hB2 := hB.setCell (p := ⟨g, k * 5, none⟩) hgB (.int .i64 ((r9 : Int) - 3))
      clear R R1 R2 R3 R4
      go_wp2
      go_ret
      exact bentS hO2 (hset _) hB2
    · obtain ⟨hgB, ht, hO2⟩ := own_front hO hx ((r9 : Int) - 3) x.fb
      have hB2 := (only_sets g (k * 5 + 1) w2 [.int .i64 ((r9 : Int) - 3), .int .i64 x.fb]).2.2 _ _ hgB hB
      clear R R1 R3 R4
      go_wp2_with (refine wpList_store_mid rfl 25 (.tmp 64) (.tmp 62) rfl g (k * 5 + 1) #[.int .i64 ((r9 : Int) - 3), .int .i64 x.fb] rfl rfl ht (by kernel_rfl) (one2 _ _) ?_)
      go_ret
      exact bentS hO2 (hset _) hB2
    · clear R R3 R4
      go_upto_region 15 with (fail)
      go_still_tail 17, (by kernel_rfl)
      have hB : Below w.heap.size w w2.drew := below_drew hB
      have hO : OwnR srE w2.drew w.heap.size (.slice (some ⟨g, 0, none⟩) n c) l := hO
      change wpList _ _ _ _ _ w2.drew
      generalize w2.drew = V0 at hB hO ⊢
      obtain ⟨hgB, ht, hO2⟩ := own_front hO hx x.fb x.fa
      have hB2 := (only_sets g (k * 5 + 1) V0 [.int .i64 x.fb, .int .i64 x.fa]).2.2 _ _ hgB hB
      go_wp2_with (refine wpList_store_mid rfl 25 (.tmp 83) (.tmp 81) rfl g (k * 5 + 1) #[.int .i64 x.fb, .int .i64 x.fa] rfl rfl ht (by kernel_rfl) (one2 _ _) ?_)
      go_ret
      exact bentS hO2 (hset _) hB2
    · clear R R1 R2
      go_upto_region 17 with (fail)
      go_still_tail 17, (by kernel_rfl)
      have hB : Below w.heap.size w w2.drew := below_drew hB
      have hO : OwnR srE w2.drew w.heap.size (.slice (some ⟨g, 0, none⟩) n c) l := hO
      change wpList _ _ _ _ _ w2.drew
      generalize w2.drew = V0 at hB hO ⊢
      obtain ⟨hgB, ht, hO2⟩ := own_back hO hx x.bb x.ba
      have hB2 := (only_sets g (k * 5 + 3) V0 [.int .i64 x.bb, .int .i64 x.ba]).2.2 _ _ hgB hB
      go_wp2_with (refine wpList_store_mid rfl 25 (.tmp 102) (.tmp 100) rfl g (k * 5 + 3) #[.int .i64 x.bb, .int .i64 x.ba] rfl rfl ht (by kernel_rfl) (one2 _ _) ?_)
      go_ret
      exact bentS hO2 (hset _) hB2
    · clear R1 R2 R3 R4
      go_upto_region 19 with (fail)
      obtain ⟨k1, hk1⟩ : ∃ k1, k + 1 = k1 := ⟨_, rfl⟩
      have hk1z : (k : Int) + 1 = (k1 : Int) := by omega
      have hk1n : k1 ≤ n := by omega
      obtain ⟨q0, c1, e0, hnc, hA2, _⟩ := hO.form
      rw [HN.out] at e0 hnc
      injection e0 with e1 _ e3
      subst e1 e3
      have hk1c : k1 ≤ c := by omega
      have hkc : k ≤ c := by omega
      have hsp : l = l.take k ++ l.drop k := (List.take_append_drop k l).symm
      have hOk : OwnR srE w2 w.heap.size (.slice (some ⟨g, 0, none⟩) k c) (l.take k) := by
        have hh := hO
        rw [hsp] at hh
        have := own_trunc hh
        rwa [List.length_take, HN.out, Nat.min_eq_left (by omega)] at this
      obtain ⟨n1, hn1⟩ : ∃ n1, n - k1 = n1 := ⟨_, rfl⟩
      obtain ⟨c2, hc2⟩ : ∃ c2, c - k1 = c2 := ⟨_, rfl⟩
      have hdl : (l.drop k1).length = n1 := by rw [List.length_drop, HN.out]; exact hn1
      have htl : (l.take k).length ≤ 500000000000 := by rw [List.length_take]; omega
      have hlen : (l.take k ++ l.drop k1).length ≤ n + 1 := by rw [List.length_append, List.length_take, hdl]; omega
      have HX1 := Lib.hid hk1
      have HX2 := Lib.hid hn1
      have HX3 := Lib.hid hc2
      have hkcz : (k : Int) ≤ (c : Int) := by omega
      have hk1cz : (k1 : Int) ≤ (c : Int) := by omega
      have hk1nz : (k1 : Int) ≤ (n : Int) := by omega
      clear hk1
      rcases Nat.lt_or_ge k1 c with hkc1 | hkc1
      · have hne : ¬ (k1 : Int) = (c : Int) := by omega
        have hne2 : ¬ k1 = c := by omega
        have hAm : At srE w2 (some ⟨g, k1 * 5, none⟩) (l.drop k1) := by
          intro h0
          obtain ⟨b, off, e5, hL5⟩ := hA2.get (i := k) (by rw [HN.out]; exact hk)
          injection e5 with e5
          injection e5 with e5 e6
          subst e5
          subst e6
          have := hL5.sub k1 n1
          rw [List.take_of_length_le (by rw [hdl]; exact Nat.le_refl _), Nat.zero_add] at this
          exact ⟨_, _, rfl, this⟩
        refine wp_region_held_drew (S := fun w' => Below w.heap.size w w') (by kernel_rfl) (below_drew (hB)) (fun _ => ?_)
        have hHeld : Below w.heap.size w w2.drew := below_drew (hB)
        replace hOk : OwnR srE w2.drew w.heap.size (.slice (some ⟨g, 0, none⟩) k c) (l.take k) := hOk
        replace hAm : At srE w2.drew (some ⟨g, k1 * 5, none⟩) (l.drop k1) := hAm
        generalize w2.drew = V0 at hHeld hOk hAm ⊢
        refine wt (i := 0) (oi := ⟨some 105, .move (.tmp 7), 32, "ref.go:217", #[], none⟩) (v := .slice (some ⟨g, 0, none⟩) n c) (Or.inl ⟨by rfl, fun w' hSw => by go_simp⟩) hHeld ?_
        try simp only [zP, zQ, zS, zZ, zC]
        refine wt (i := 1) (oi := ⟨some 106, .move (.tmp 8), 3, "ref.go:217", #[], none⟩) (v := .int .i64 (k : Int)) (Or.inl ⟨by rfl, fun w' hSw => by go_simp⟩) hHeld ?_
        try simp only [zP, zQ, zS, zZ, zC]
        refine wt (i := 2) (oi := ⟨some 107, .slice 32 (.tmp 105) none (some (.tmp 106)) none, 32, "ref.go:217", #[⟨0, .data⟩, ⟨1, .data⟩], none⟩) (v := .slice (some ⟨g, 0, none⟩) k c) (Or.inl ⟨by rfl, fun w' hSw => by go_simp⟩) hHeld ?_
        try simp only [zP, zQ, zS, zZ, zC]
        refine wt (i := 3) (oi := ⟨some 108, .move (.tmp 7), 32, "ref.go:217", #[], none⟩) (v := .slice (some ⟨g, 0, none⟩) n c) (Or.inl ⟨by rfl, fun w' hSw => by go_simp⟩) hHeld ?_
        try simp only [zP, zQ, zS, zZ, zC]
        refine wt (i := 4) (oi := ⟨some 109, .move (.tmp 8), 3, "ref.go:217", #[], none⟩) (v := .int .i64 (k : Int)) (Or.inl ⟨by rfl, fun w' hSw => by go_simp⟩) hHeld ?_
        try simp only [zP, zQ, zS, zZ, zC]
        refine wt (i := 5) (oi := ⟨some 110, .binOp .add 3 (.tmp 109) (.const (Value.int IntKind.i64 1)) 3, 3, "ref.go:217", #[⟨4, .data⟩], none⟩) (v := .int .i64 (k1 : Int)) (Or.inl ⟨by rfl, fun w' hSw => by go_simp; exact IntWalk.i64_in _ (by omega)⟩) hHeld ?_
        try simp only [zP, zQ, zS, zZ, zC]
        refine wt (i := 6) (oi := ⟨some 111, .slice 32 (.tmp 108) (some (.tmp 110)) none none, 32, "ref.go:217", #[⟨3, .data⟩, ⟨5, .data⟩], none⟩) (v := .slice (some ⟨g, k1 * 5, none⟩) n1 c2) (Or.inl ⟨by rfl, fun w' hSw => by go_simp; omega⟩) hHeld ?_
        try simp only [zP, zQ, zS, zZ, zC]
        refine wpAnyH_ready (rs := [7]) (by kernel_rfl) (by simp) ?_
        refine AllReadyH.cons (o := ⟨some 112, .call { callee := .builtin .append, args := #[.tmp 107, .tmp 111], argTypes := #[32, 32] }, 32, "ref.go:217", #[⟨2, .data⟩, ⟨6, .data⟩], none⟩) rfl (fun K hK => ?_) AllReadyH.nil
        refine app_wp srE (.tmp 107) (.tmp 111) rfl (l.take k) (l.drop k1) _ rfl hOk hHeld.size _ _ _ rfl hdl hAm htl (by omega) ?_
        intro v6 W6 hO6 hB7 _
        refine hK.out _ _ (hHeld.trans hB7) (fun hHeld => ?_)
        clear hK K
        try simp only [zP, zQ, zS, zZ, zC]
        refine wpAnyH_ready (rs := [8]) (by kernel_rfl) (by simp) ?_
        refine AllReadyH.cons (o := ⟨some 7, .assign (.tmp 112), 32, "ref.go:217", #[⟨7, .data⟩, ⟨7, .chain⟩, ⟨0, .phase⟩, ⟨1, .phase⟩, ⟨2, .phase⟩, ⟨3, .phase⟩, ⟨4, .phase⟩, ⟨5, .phase⟩, ⟨6, .phase⟩, ⟨7, .phase⟩], none⟩) rfl (fun K hK => ?_) AllReadyH.nil
        go_simp
        refine hK.out _ _ (hHeld) (fun hHeld => ?_)
        clear hK K
        try simp only [zP, zQ, zS, zZ, zC]
        refine wpAnyH_done (by kernel_rfl) ?_ _
        have BX := hHeld
        clear hHeld 
        go_wp2
        go_ret
        exact bentS hO6 hlen BX
      · obtain rfl : k1 = c := by omega
        have hd0 : l.drop k1 = [] := List.drop_eq_nil_of_le (by rw [HN.out]; omega)
        have hAm : At srE w2 (some ⟨g, 0, none⟩) (l.drop k1) := fun h0 => absurd hd0 h0
        obtain rfl : n1 = 0 := by omega
        obtain rfl : c2 = 0 := by omega
        refine wp_region_held_drew (S := fun w' => Below w.heap.size w w') (by kernel_rfl) (below_drew (hB)) (fun _ => ?_)
        have hHeld : Below w.heap.size w w2.drew := below_drew (hB)
        replace hOk : OwnR srE w2.drew w.heap.size (.slice (some ⟨g, 0, none⟩) k k1) (l.take k) := hOk
        replace hAm : At srE w2.drew (some ⟨g, 0, none⟩) (l.drop k1) := hAm
        generalize w2.drew = V0 at hHeld hOk hAm ⊢
        refine wt (i := 0) (oi := ⟨some 105, .move (.tmp 7), 32, "ref.go:217", #[], none⟩) (v := .slice (some ⟨g, 0, none⟩) n k1) (Or.inl ⟨by rfl, fun w' hSw => by go_simp⟩) hHeld ?_
        try simp only [zP, zQ, zS, zZ, zC]
        refine wt (i := 1) (oi := ⟨some 106, .move (.tmp 8), 3, "ref.go:217", #[], none⟩) (v := .int .i64 (k : Int)) (Or.inl ⟨by rfl, fun w' hSw => by go_simp⟩) hHeld ?_
        try simp only [zP, zQ, zS, zZ, zC]
        refine wt (i := 2) (oi := ⟨some 107, .slice 32 (.tmp 105) none (some (.tmp 106)) none, 32, "ref.go:217", #[⟨0, .data⟩, ⟨1, .data⟩], none⟩) (v := .slice (some ⟨g, 0, none⟩) k k1) (Or.inl ⟨by rfl, fun w' hSw => by go_simp⟩) hHeld ?_
        try simp only [zP, zQ, zS, zZ, zC]
        refine wt (i := 3) (oi := ⟨some 108, .move (.tmp 7), 32, "ref.go:217", #[], none⟩) (v := .slice (some ⟨g, 0, none⟩) n k1) (Or.inl ⟨by rfl, fun w' hSw => by go_simp⟩) hHeld ?_
        try simp only [zP, zQ, zS, zZ, zC]
        refine wt (i := 4) (oi := ⟨some 109, .move (.tmp 8), 3, "ref.go:217", #[], none⟩) (v := .int .i64 (k : Int)) (Or.inl ⟨by rfl, fun w' hSw => by go_simp⟩) hHeld ?_
        try simp only [zP, zQ, zS, zZ, zC]
        refine wt (i := 5) (oi := ⟨some 110, .binOp .add 3 (.tmp 109) (.const (Value.int IntKind.i64 1)) 3, 3, "ref.go:217", #[⟨4, .data⟩], none⟩) (v := .int .i64 (k1 : Int)) (Or.inl ⟨by rfl, fun w' hSw => by go_simp; exact IntWalk.i64_in _ (by omega)⟩) hHeld ?_
        try simp only [zP, zQ, zS, zZ, zC]
        refine wt (i := 6) (oi := ⟨some 111, .slice 32 (.tmp 108) (some (.tmp 110)) none none, 32, "ref.go:217", #[⟨3, .data⟩, ⟨5, .data⟩], none⟩) (v := .slice (some ⟨g, 0, none⟩) 0 0) (Or.inl ⟨by rfl, fun w' hSw => by go_simp⟩) hHeld ?_
        try simp only [zP, zQ, zS, zZ, zC]
        refine wpAnyH_ready (rs := [7]) (by kernel_rfl) (by simp) ?_
        refine AllReadyH.cons (o := ⟨some 112, .call { callee := .builtin .append, args := #[.tmp 107, .tmp 111], argTypes := #[32, 32] }, 32, "ref.go:217", #[⟨2, .data⟩, ⟨6, .data⟩], none⟩) rfl (fun K hK => ?_) AllReadyH.nil
        refine app_wp srE (.tmp 107) (.tmp 111) rfl (l.take k) (l.drop k1) _ rfl hOk hHeld.size _ _ _ rfl hdl hAm htl (by omega) ?_
        intro v6 W6 hO6 hB7 _
        refine hK.out _ _ (hHeld.trans hB7) (fun hHeld => ?_)
        clear hK K
        try simp only [zP, zQ, zS, zZ, zC]
        refine wpAnyH_ready (rs := [8]) (by kernel_rfl) (by simp) ?_
        refine AllReadyH.cons (o := ⟨some 7, .assign (.tmp 112), 32, "ref.go:217", #[⟨7, .data⟩, ⟨7, .chain⟩, ⟨0, .phase⟩, ⟨1, .phase⟩, ⟨2, .phase⟩, ⟨3, .phase⟩, ⟨4, .phase⟩, ⟨5, .phase⟩, ⟨6, .phase⟩, ⟨7, .phase⟩], none⟩) rfl (fun K hK => ?_) AllReadyH.nil
        go_simp
        refine hK.out _ _ (hHeld) (fun hHeld => ?_)
        clear hK K
        try simp only [zP, zQ, zS, zZ, zC]
        refine wpAnyH_done (by kernel_rfl) ?_ _
        have BX := hHeld
        clear hHeld 
        go_wp2
        go_ret
        exact bentS hO6 hlen BX
    · clear R1 R2 R3 R4
      have hle : l.length ≤ 1000000000000 := by rw [HN.out]; omega
      go_wp2_with (first
        | (refine wpList_load_mid rfl 69 (.tmp 118) rfl g (k * 5) rfl _ _ R rfl rfl rfl ?_)
        | (at_builtin; refine push_el srE rfl (.tmp 115) (.tmp 120) rfl l x _ rfl hO hB.size _ rfl _ rfl hle ?_; intro v6 W6 hO6 hB7 hR6))
      go_ret
      exact bentS hO6 (by rw [List.length_append, HN.out]; exact Nat.le_refl _) (hB.trans hB7)
    · clear R1 R2 R3 R4
      obtain ⟨x0, hx0⟩ : ∃ x, l[0]? = some x := ⟨_, List.getElem?_eq_getElem (by rw [HN.out]; exact hp)⟩
      have hpz : (0 : Int) < (n : Int) := by omega
      have Z := new_struct w2 #[.int .i64 0, .int .i64 0, .int .i64 0, .int .i64 0, .int .i64 0] 69 (shV x) rfl
      have N0 := blk_new w2 69 #[.int .i64 0, .int .i64 0, .int .i64 0, .int .i64 0, .int .i64 0]
      obtain ⟨W3, hW3⟩ : ∃ W3, (w2.alloc (.cells #[.int .i64 0, .int .i64 0, .int .i64 0, .int .i64 0, .int .i64 0] 69)).setCells w2.heap.size 0 (shV x) = W3 := ⟨_, rfl⟩
      rw [hW3] at Z
      have hO3 := hO.keep Z.1
      have hB3 : Below w.heap.size w W3 := hB.trans (Z.1.mono hB.size)
      obtain ⟨_, R30⟩ := own_read hO3 hx0
      rw [Nat.zero_mul] at R30
      obtain ⟨hgB, t4, hO4⟩ := own_sheet hO3 hx x0
      have O4 := only_sets g (k * 5) W3 [.int .i64 x0.q, .int .i64 x0.fa, .int .i64 x0.fb, .int .i64 x0.ba, .int .i64 x0.bb]
      have hB4 := O4.2.2 _ _ hgB hB3
      have hgne : w2.heap.size ≠ g := Nat.ne_of_gt hg
      have Z4 := O4.2.1 _ _ _ hgne Z.2
      have R44 : (W3.setCells g (k * 5) [.int .i64 x0.q, .int .i64 x0.fa, .int .i64 x0.fb, .int .i64 x0.ba, .int .i64 x0.bb]).rangeAt w2.heap.size 0 [.int .i64 x.q, .int .i64 x.fa, .int .i64 x.fb, .int .i64 x.ba, .int .i64 x.bb] := Z4.range 0 5
      obtain ⟨x5, hx5⟩ : ∃ y, (l.set k x0)[0]? = some y := ⟨_, List.getElem?_eq_getElem (by rw [List.length_set, HN.out]; exact hp)⟩
      obtain ⟨_, t5, hO5⟩ := own_sheet hO4 hx5 x
      rw [Nat.zero_mul] at t5 hO5
      have hB5 := (only_sets g 0 (W3.setCells g (k * 5) [.int .i64 x0.q, .int .i64 x0.fa, .int .i64 x0.fb, .int .i64 x0.ba, .int .i64 x0.bb]) [.int .i64 x.q, .int .i64 x.fa, .int .i64 x.fb, .int .i64 x.ba, .int .i64 x.bb]).2.2 _ _ hgB hB4
      clear O4 Z4 hO hO3 hO4 hB hB3 hB4
      go_upto_region 8 with (first
        | (refine wpList_load_mid rfl 69 (.tmp 33) rfl g (k * 5) rfl _ _ R rfl rfl rfl ?_)
        | (refine wpList_store_mid rfl 69 (.tmp 10) (.tmp 34) rfl w2.heap.size 0 #[.int .i64 x.q, .int .i64 x.fa, .int .i64 x.fb, .int .i64 x.ba, .int .i64 x.bb] rfl rfl (by simpa using N0.there 0 5 (by simp)) (by kernel_rfl) (one5 _) ?_))
      try simp only [zP, zQ, zS, zZ, zC]
      change Code.wp _ _ _ _ (World.setCells (w2.alloc _) w2.heap.size 0 (shV x))
      rw [hW3]
      clear hW3 R N0
      go_upto_region 9 with (first
        | (refine wpList_load_mid rfl 69 (.tmp 38) rfl g 0 rfl _ _ R30 rfl rfl rfl ?_)
        | (refine wpList_store_mid rfl 69 (.tmp 40) (.tmp 39) rfl g (k * 5) #[.int .i64 x0.q, .int .i64 x0.fa, .int .i64 x0.fb, .int .i64 x0.ba, .int .i64 x0.bb] rfl rfl t4 (by kernel_rfl) (one5 _) ?_))
      try simp only [zP, zQ, zS, zZ, zC]
      change Code.wp _ _ _ _ (World.setCells W3 g (k * 5) [.int .i64 x0.q, .int .i64 x0.fa, .int .i64 x0.fb, .int .i64 x0.ba, .int .i64 x0.bb])
      generalize (World.setCells W3 g (k * 5) [.int .i64 x0.q, .int .i64 x0.fa, .int .i64 x0.fb, .int .i64 x0.ba, .int .i64 x0.bb]) = W4 at R44 t5 hO5 hB5 ⊢
      clear t4 R30
      go_upto_region 22 with (first
        | (refine wpList_load_mid rfl 69 (.tmp 10) rfl w2.heap.size 0 rfl _ _ R44 rfl rfl rfl ?_)
        | (refine wpList_store_mid rfl 69 (.tmp 43) (.tmp 42) rfl g 0 #[.int .i64 x.q, .int .i64 x.fa, .int .i64 x.fb, .int .i64 x.ba, .int .i64 x.bb] rfl rfl t5 (by kernel_rfl) (one5 _) ?_))
      try simp only [zP, zQ, zS, zZ, zC]
      change Code.wp _ _ _ _ (World.setCells W4 g 0 [.int .i64 x.q, .int .i64 x.fa, .int .i64 x.fb, .int .i64 x.ba, .int .i64 x.bb])
      generalize (World.setCells W4 g 0 [.int .i64 x.q, .int .i64 x.fa, .int .i64 x.fb, .int .i64 x.ba, .int .i64 x.bb]) = W5 at hO5 hB5 ⊢
      go_wp2
      go_ret
      exact bentS hO5 (by rw [List.length_set]; exact hset _) hB5
end Go.Proofs.Ytahmpagolmodhaa
