/-
  token.Split.
-/
import Derived.Test.YtehkgpefmjfifaaKc
import Derived.Test.YtehkgpefmjfifaaRo
import Derived.Deep.CutBlock
namespace Go.Proofs.Ytehkgpefmjfifaa
open Go.RowKit
set_option linter.unusedVariables false
set_option linter.unusedSimpArgs false

theorem tkV_one (t : Tk) : ∀ u ∈ tkV t, u.oneCell' = true := by
  intro u hu
  simp [tkV] at hu
  rcases hu with rfl | rfl | rfl <;> rfl
/-- The package's tokens as elements. -/
def tkE : Elt Tk where
  T := 52
  ST := 33
  k := 3
  bytes := 24
  zero := .agg #[.int .i64 0, .int .i64 0, .int .i64 0]
  enc := tkV
  info := by kernel_rfl
  und := Try.underlying33
  len := fun _ => rfl
  one := tkV_one
  kpos := by decide
  zs := rfl
  bb := by decide
/-- The reference's tokens as elements. -/
def rtE : Elt Tk where
  T := 63
  ST := 29
  k := 3
  bytes := 24
  zero := .agg #[.int .i64 0, .int .i64 0, .int .i64 0]
  enc := tkV
  info := by kernel_rfl
  und := Try.underlying29
  len := fun _ => rfl
  one := tkV_one
  kpos := by decide
  zs := rfl
  bb := by decide
theorem run_head {K : Nat → Nat} {n at_ : Nat} {r : List Tk} {t : Tk} (h : Run K n at_ r) (ht : Tok1 K n at_ t) : ∃ r', r = t :: r' ∧ Run K n t.2.1 r' := by
  rcases r with _ | ⟨u, r⟩
  · exfalso
    have := h t.1 ht.1 (by have := ht.2.1; have := ht.2.2.1; omega)
    have h5 := ht.2.2.2.2.1
    have h6 := ht.2.2.2.2.2.1
    omega
  · obtain rfl := tok1_one h.1 ht
    exact ⟨r, rfl, h.2⟩
theorem run_end {K : Nat → Nat} {n at_ : Nat} {r : List Tk} (h : Run K n at_ r) (ht : Run K n at_ []) : r = [] := run_one h ht
/-- What a loop over the tokens has seen: l; r is still to come. -/
def SplitRel (s : ByteArray) (w : World) (v3 v4 v5 : Value) (wr : World) : Prop :=
  ∃ (l r : List Tk) (tb : Nat), v4 = .pointer (some ⟨tb, 0, none⟩) ∧ w.heap.size ≤ tb ∧ OwnR tkE wr w.heap.size v3 l ∧ v3.ownBlock ≠ some tb ∧ toks (sb s) = l ++ r ∧ Below w.heap.size w wr ∧ tb < wr.heap.size ∧
    ((v5 = .bool true ∧ ∃ t r', r = t :: r' ∧ Blk wr tb 52 (tkV t) ∧ Run (kdAt (sb s)) s.size t.2.1 r' ∧ t.2.1 ≤ s.size) ∨ (v5 = .bool false ∧ r = []))
def sliceLen : Value → Nat
  | .slice _ k _ => k
  | _ => 0
theorem OwnR.slen {α : Type} {E : Elt α} {w : World} {B : Nat} {v : Value} {l : List α} (h : OwnR E w B v l) : sliceLen v = l.length := by
  obtain ⟨q, c, rfl, _⟩ := h.form
  rfl
/-- What Split answers. -/
def SplitV (s : ByteArray) (w : World) (e : Ending) (w' : World) : Prop := ∃ v, e = .returned v ∧ OwnR tkE w' w.heap.size v (toks (sb s)) ∧ Below w.heap.size w w'
set_option maxHeartbeats 4000000 in
set_option maxRecDepth 100000 in
theorem split_any (s : ByteArray) (n : Nat) (hn : s.size = n) (hn6 : n ≤ 1000000000) (w : World) :
    Calls Try.prog 18 #[.string s] w (SplitV s w) := by
  have HX := Lib.hid (fun (i : Nat) (hi : i ≤ n) (V : World) => next_any s i n hn hn6 hi V)
  have HX0 := Lib.hid (fun (V : World) => (show _ from next_any s 0 n hn hn6 (Nat.zero_le _) V : Calls Try.prog 44 #[.string s, .int .i64 0] V (NextV s 0 V)))
  have HRun := Lib.hid (show Run (kdAt (sb s)) s.size 0 (toks (sb s)) from by have := toks_run (sb s); rwa [sb_length] at this)
  have HLen := Lib.hid (show (toks (sb s)).length ≤ n from by have := toks_len (sb s); rw [sb_length] at this; omega)
  have HN := Lib.hid hn
  clear hn
  go_enter Try.func18, Try.ntmps18
  go_upto_region 2 with (fail)
  go_cut [4, 5] from 6 (fun s4 s5 wx => SplitRel s w (.slice none 0 0) s4 s5 wx)
  case first =>
    go_wp2_with (first
      | (go_at_call 44; refine (HX0.out w).mono ?_; rintro en W2 ⟨hB2, hcase⟩; rcases hcase with ⟨t0, rfl, ht0⟩ | ⟨rfl, ht0⟩)
      | (refine store_blk rfl 52 (.tmp 4) (.tmp 9) rfl (blk_new W2 52 #[.int .i64 0, .int .i64 0, .int .i64 0]) rfl rfl (m := 3) (by kernel_rfl) rfl rfl (by first | exact tkV_one _ | (intro v hv; simp at hv; rcases hv with rfl | rfl | rfl <;> rfl)) ?_; intro W3 K3 O3))
    · go_meet
      have hB3 : Below w.heap.size w W3 := link hB2 (O3.2.2 _ _ (Nat.le_refl _) ((Below.refl _ _).alloc (Nat.le_refl _) _))
      obtain ⟨r', e, hr'⟩ := run_head HRun.out ht0
      exact ⟨[], _, W2.heap.size, rfl, hB2.size, OwnR.nil _ _ _, by simp [Value.ownBlock], rfl, hB3, K3.lt, Or.inl ⟨rfl, t0, r', e, K3, hr', ht0.2.2.1⟩⟩
    · go_meet
      have hB3 : Below w.heap.size w W3 := link hB2 (O3.2.2 _ _ (Nat.le_refl _) ((Below.refl _ _).alloc (Nat.le_refl _) _))
      exact ⟨[], _, W2.heap.size, rfl, hB2.size, OwnR.nil _ _ _, by simp [Value.ownBlock], rfl, hB3, K3.lt, Or.inr ⟨rfl, run_end HRun.out ht0⟩⟩
  case rest =>
    go_wp2
    go_loopw [3, 4, 5] (fun v3 v4 v5 wr => SplitRel s w v3 v4 v5 wr) (fun v3 _ _ _ => n - sliceLen v3)
    case atStart => exact hcut
    case round =>
      obtain ⟨l, r, tb, rfl, htb, hOw, hne, htk, hB, hlt, hcase⟩ := hrel
      rcases hcase with ⟨rfl, t, r', rfl, hK, hr', hle⟩ | ⟨rfl, rfl⟩
      · have hll : l.length + r'.length + 1 ≤ n := by
          have := HLen.out
          rw [htk, List.length_append, List.length_cons] at this
          omega
        obtain ⟨qv, cv, rfl, hcv, _, _, _⟩ := hOw.form
        have HT := Lib.hid htk
        have HR := Lib.hid hr'
        clear htk hr'
        obtain ⟨ta, te, tk⟩ := t
        replace hK : Blk wr tb 52 [.int .i64 (ta : Int), .int .i64 (te : Int), .int .i64 (tk : Int)] := hK
        have hle : te ≤ n := by have := HN.out; have h : te ≤ s.size := hle; omega
        go_upto_region 7 with (first
          | (refine load_struct rfl 52 (.tmp 4) rfl hK rfl Try.underlying52 (m := 3) (by kernel_rfl) rfl ?_)
          | (at_builtin; refine push_el tkE rfl (.tmp 19) (.tmp 21) rfl l (ta, te, tk) _ rfl hOw hB.size _ rfl _ rfl (by omega) ?_; intro v4 w4 hO4 hB4 hR4; replace hK := hR4 tb _ _ hne hK; have hB9 : Below w.heap.size w w4 := hB.trans hB4))
        clear hK hR4 hB4 hOw hne hB htb hlt
        have hz4 : w.heap.size ≤ w4.heap.size := hB9.size
        go_upto_region 4 with (refine store_blk rfl 52 (.tmp 4) (.tmp 23) rfl (blk_new w4 52 #[.int .i64 0, .int .i64 0, .int .i64 0]) rfl rfl (m := 3) (by kernel_rfl) rfl rfl (by first | exact tkV_one _ | (intro v hv; simp at hv; rcases hv with rfl | rfl | rfl <;> rfl)) ?_; intro W5 K5 O5)
        have B5 : Below w4.heap.size w4 W5 := O5.2.2 _ _ (Nat.le_refl _) ((Below.refl _ _).alloc (Nat.le_refl _) _)
        have hO5 := hO4.keep B5
        have hne5 := hO4.blk_lt (Nat.le_refl w4.heap.size)
        have hB5 : Below w.heap.size w W5 := link hB9 B5
        clear hO4 O5 B5 hB9
        generalize w4.heap.size = t5 at K5 hne5 hz4 ⊢
        have c5 := K5.cell (j := 1) rfl
        go_wp2_with (first
          | (go_at_call 44; refine (HX.out te hle W5).mono ?_; rintro en W6 ⟨hB6, hcase⟩; replace K5 := K5.keep hB6; clear c5; rcases hcase with ⟨t0, rfl, ht0⟩ | ⟨rfl, ht0⟩)
          | (refine store_blk rfl 52 (.tmp 4) (.tmp 17) rfl K5 rfl rfl (m := 3) (by kernel_rfl) rfl rfl (by first | exact tkV_one _ | (intro v hv; simp at hv; rcases hv with rfl | rfl | rfl <;> rfl)) ?_; intro W7 K7 O7))
        · have hB7 : Below w.heap.size w W7 := O7.2.2 _ _ hz4 (link hB5 hB6)
          have hsl := hO5.slen
          rw [List.length_append, List.length_singleton] at hsl
          obtain ⟨r'', e, hr''⟩ := run_head HR.out ht0
          exact ⟨⟨l ++ [(ta, te, tk)], r', t5, rfl, hz4, ((hO5.keep hB6).only O7 hne5), hne5, by rw [HT.out]; simp, hB7, K7.lt, Or.inl ⟨rfl, t0, r'', e, K7, hr'', ht0.2.2.1⟩⟩, by rw [hsl]; show n - (l.length + 1) < n - l.length; omega⟩
        · have hB7 : Below w.heap.size w W7 := O7.2.2 _ _ hz4 (link hB5 hB6)
          have hsl := hO5.slen
          rw [List.length_append, List.length_singleton] at hsl
          have e := run_end HR.out ht0
          exact ⟨⟨l ++ [(ta, te, tk)], r', t5, rfl, hz4, ((hO5.keep hB6).only O7 hne5), hne5, by rw [HT.out]; simp, hB7, K7.lt, Or.inr ⟨rfl, e⟩⟩, by rw [hsl]; show n - (l.length + 1) < n - l.length; omega⟩
      · rw [List.append_nil] at htk
        have HT := Lib.hid htk
        clear htk
        go_wp2
        go_ret
        exact ⟨_, rfl, by rw [HT.out]; exact hOw, hB⟩

end Go.Proofs.Ytehkgpefmjfifaa
