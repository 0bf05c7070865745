/-
  The texts of a root, as the reference's tree keeps them.
  Conditions: the tables of the packages hash and passimref02 lie as the program lays them when the call begins (the card ties them to the text); no other.
-/
import Derived.Test.YtfhfmdnimebegaaDoorEMvc
import Derived.Test.YtfhfmdnimebegaaDoorE8
import Derived.Test.YtfhfmdnimebegaaDoorEd
import Derived.Laws.AppendOwnNone

namespace Go.Proofs.YtfhfmdnimebegaaDoor
open Go.RowKit
set_option linter.unusedVariables false
set_option linter.unusedSimpArgs false

theorem rowTM_len (lf : List Lf) (F : Nat) (sd : List (List Nat)) : ∀ (k a b : Nat) (tx : List ByteArray) (u : Nat) (sh : Bool), b - a ≤ k → a < b → (rowTM lf F sd a b (tx, u, sh)).2.1.length + 1 ≤ tx.length + 2 * (b - a)
  | 0, a, b, tx, u, sh, hk, h => by omega
  | k + 1, a, b, tx, u, sh, hk, h => by
    by_cases ho : b ≤ F ∨ F + lf.length ≤ a
    · rcases hd : sd[u]? with _ | d
      · rw [rowTM_short lf F sd a b tx u sh h ho hd]; show tx.length + 1 ≤ _; omega
      · rw [rowTM_take lf F sd a b tx u sh d h ho hd]; show tx.length + 1 ≤ _; omega
    · by_cases hb : b = a + 1
      · subst hb
        rw [rowTM_leaf lf F sd a tx u sh ho]
        show (tx ++ [_]).length + 1 ≤ _
        rw [List.length_append, List.length_singleton]
        omega
      · have h3 := half_lt (b - a) (by omega)
        have h4 := half_pos (b - a)
        obtain ⟨⟨D1, tx1, u1, sh1⟩, hr1⟩ : ∃ r, rowTM lf F sd a (a + half (b - a)) (tx, u, sh) = r := ⟨_, rfl⟩
        obtain ⟨⟨D2, tx2, u2, sh2⟩, hr2⟩ : ∃ r, rowTM lf F sd (a + half (b - a)) b (tx1, u1, sh1) = r := ⟨_, rfl⟩
        rw [rowT_split lf F sd a b (tx, u, sh) (by omega) ho hr1 hr2]
        have m1 := rowTM_len lf F sd k a (a + half (b - a)) tx u sh (by omega) (by omega)
        rw [hr1] at m1
        have m2 := rowTM_len lf F sd k (a + half (b - a)) b tx1 u1 sh1 (by omega) (by omega)
        rw [hr2] at m2
        show (tx2 ++ [_]).length + 1 ≤ _
        rw [List.length_append, List.length_singleton]
        dsimp only at m1 m2
        omega
theorem rootX_len (lf : List Lf) (F : Nat) (sd : List (List Nat)) (S : Nat) (hS : S ≤ 4096) : (rootX lf F sd S).length ≤ 9000 := by
  unfold rootX
  split
  · simp
  · have := rowTM_len lf F sd S 0 S [] 0 false (by omega) (by omega)
    rw [List.length_append, List.length_singleton]
    simp at this
    omega
theorem text_size (T : Nat) (hT : T < 256) (ps : List (List Nat)) (h : Bytes ps) (hl : ps.length ≤ 2) : (strOf (ofIn T ps)).size ≤ 3000000 := by
  have e : (sb (strOf (ofIn T ps))).length = (strOf (ofIn T ps)).size := sb_length _
  rw [sb_text T hT ps h] at e
  rw [← e]
  unfold ofIn
  rcases ps with _ | ⟨p, _ | ⟨q, _ | ⟨r, t⟩⟩⟩
  · simp
  · have h1 := (h p (by simp)).2
    have := encS_length p (by omega)
    simp
    omega
  · have h1 := (h p (by simp)).2
    have h2 := (h q (by simp)).2
    have := encS_length p (by omega)
    have := encS_length q (by omega)
    simp
    omega
  · simp at hl
theorem rowTM_sz (lf : List Lf) (hlf : Small lf) (F : Nat) (sd : List (List Nat)) (hd : Dgts sd) : ∀ (k a b : Nat) (tx : List ByteArray) (u : Nat) (sh : Bool), b - a ≤ k → a < b → (∀ t ∈ tx, t.size ≤ 3000000) → ∀ t ∈ (rowTM lf F sd a b (tx, u, sh)).2.1, t.size ≤ 3000000
  | 0, a, b, tx, u, sh, hk, h, _ => by omega
  | k + 1, a, b, tx, u, sh, hk, h, htx => by
    by_cases ho : b ≤ F ∨ F + lf.length ≤ a
    · rcases hu : sd[u]? with _ | d
      · rw [rowTM_short lf F sd a b tx u sh h ho hu]; exact htx
      · rw [rowTM_take lf F sd a b tx u sh d h ho hu]; exact htx
    · by_cases hb : b = a + 1
      · subst hb
        rw [rowTM_leaf lf F sd a tx u sh ho]
        intro t ht
        rcases List.mem_append.1 ht with ht | ht
        · exact htx t ht
        · have hx : lf[a - F]? = some (lf[a - F]'(by omega)) := List.getElem?_eq_getElem (by omega)
          have e1 : (lf.drop (a - F)).take 1 = [lf[a - F]'(by omega)] := by
            rw [List.drop_eq_getElem_cons (by omega)] <;> rfl
          have hxs := hlf _ (List.mem_of_getElem? hx)
          rw [e1] at ht
          rw [List.mem_singleton.1 ht]
          exact text_size 3 (by omega) _ (bytes_leaf hxs.1 hxs.2) (by simp)
      · have h3 := half_lt (b - a) (by omega)
        have h4 := half_pos (b - a)
        obtain ⟨⟨D1, tx1, u1, sh1⟩, hr1⟩ : ∃ r, rowTM lf F sd a (a + half (b - a)) (tx, u, sh) = r := ⟨_, rfl⟩
        obtain ⟨⟨D2, tx2, u2, sh2⟩, hr2⟩ : ∃ r, rowTM lf F sd (a + half (b - a)) b (tx1, u1, sh1) = r := ⟨_, rfl⟩
        have d1 := rowTM_dgt lf F sd hd _ a (a + half (b - a)) tx u sh (Nat.le_refl _) (by omega)
        have d2 := rowTM_dgt lf F sd hd _ (a + half (b - a)) b tx1 u1 sh1 (Nat.le_refl _) (by omega)
        have m1 := rowTM_sz lf hlf F sd hd k a (a + half (b - a)) tx u sh (by omega) (by omega) htx
        rw [hr1] at m1 d1
        have m2 := rowTM_sz lf hlf F sd hd k (a + half (b - a)) b tx1 u1 sh1 (by omega) (by omega) m1
        rw [hr2] at m2 d2
        rw [rowT_split lf F sd a b (tx, u, sh) (by omega) ho hr1 hr2]
        intro t ht
        rcases List.mem_append.1 ht with ht | ht
        · exact m2 t ht
        · rw [List.mem_singleton.1 ht]
          exact text_size 4 (by omega) _ (bytes_two d1 d2) (by simp)
theorem rootX_sz (lf : List Lf) (hlf : Small lf) (F : Nat) (sd : List (List Nat)) (hd : Dgts sd) (S : Nat) (hS : S ≤ 4096) : ∀ t ∈ rootX lf F sd S, t.size ≤ 3000000 := by
  intro t ht
  unfold rootX at ht
  split at ht
  · rw [List.mem_singleton.1 ht]
    exact text_size 4 (by omega) _ bytes_enc0 (by simp)
  · rcases List.mem_append.1 ht with ht | ht
    · exact rowTM_sz lf hlf F sd hd S 0 S [] 0 false (by omega) (by omega) (fun t h => by cases h) t ht
    · rw [List.mem_singleton.1 ht]
      exact text_size 4 (by omega) _ (bytes_enc (by omega) (rowTM_dgt lf F sd hd S 0 S [] 0 false (by omega) (by omega))) (by simp)
/-- root of a fresh tree with sides: its texts. -/
theorem troot_any (tb : Nat) (lf : List Lf) (F S : Nat) (hS : S ≤ 4096) (sd : List (List Nat)) (hd : Dgts sd) (q : Option Addr) (n c : Nat) (hl : lf.length = n) (hSm : Small lf) (hFn : F + n ≤ 4096) (sa : Option Addr) (k sc : Nat) (hkb : k ≤ 1000000)
    (w : World) (hTb : Blk w tb 90 [.slice none 0 0, .slice sa k sc, .int .i64 0, .bool false])
    (hGR : ∀ w', TStays w w' w.heap.size tb → GlobR w') (hL : OwnL w q lf) (hLB : lf ≠ [] → ∀ b off i, q = some ⟨b, off, i⟩ → b ≠ tb) (M : Nat) (hM : M ≤ tb) (hMw : M ≤ w.heap.size) (hSd : SdV w M (.slice sa k sc) sd) :
    Calls Tryd.prog 43 #[.pointer (some ⟨tb, 0, none⟩), .slice q n c, .int .i64 (F : Int), .int .i64 (S : Int)] w
      fun e w' => (∃ v, e = .returned v) ∧ TStays w w' w.heap.size tb ∧ ∃ (u : Int) (sh : Bool), TW w' tb w.heap.size (rootX lf F sd S) (.slice sa k sc) u sh := by
  rcases Nat.eq_zero_or_pos S with h0 | h0
  · subst h0
    refine (troot_zero tb q n c F (.slice sa k sc) w hTb hGR).mono ?_
    rintro e w' ⟨rfl, h1, h2⟩
    refine ⟨⟨_, rfl⟩, h1, 0, false, ?_⟩
    unfold rootX
    rw [if_pos rfl]
    exact h2
  · obtain ⟨p0, c0, e0, hkc, hr0⟩ := hSd
    injection e0 with e1 e2 e3
    subst e1 e2 e3
    refine (troot_many tb lf F S h0 hS sd hd q n c hl hSm hFn sa sd.length sc rfl hkb hkc w hTb hGR (fun w' h hne => ?_) (fun hne b off i e => ?_) (fun hne => ?_)).mono ?_
    · obtain ⟨b, off, e, hL2⟩ := hL hne
      exact ⟨b, off, e, hL2.heap (h.heap b hL2.1 (hLB hne b off none e)) h.size⟩
    · obtain ⟨b', off', e', hL2⟩ := hL hne
      rw [e] at e'
      injection e' with e'
      injection e' with e1 _ _
      exact ⟨by rw [e1]; exact hL2.1, hLB hne b off i e⟩
    · obtain ⟨g, o, e, hg, hg2, hr⟩ := hr0 hne
      exact ⟨g, o, e, hg2, by omega, hr⟩
    · rintro e w' ⟨D, tx, u, sh, hr, rfl, h1, h2⟩
      refine ⟨⟨_, rfl⟩, h1, u, sh, ?_⟩
      unfold rootX
      rw [if_neg (by omega), hr]
      exact h2
/-- A tree's texts stay where another tree grows. -/
theorem TW.stays {w w' : World} {tb B tb2 : Nat} {tx : List ByteArray} {sv : Value} {u : Int} {sh : Bool} {cs : List Value} (h : TW w tb B tx sv u sh) (hS : TStays w w' w.heap.size tb2) (hne : tb ≠ tb2) (hT : Blk w tb2 90 cs) : TW w' tb B tx sv u sh := by
  obtain ⟨tv, h1, h2⟩ := h
  refine ⟨tv, hS.blk _ _ _ hne (by decide) h1, h2.1, ?_⟩
  rcases h2.2 with e | ⟨g, cap, cur, e, hg, hh, rest⟩
  · exact .inl e
  · refine .inr ⟨g, cap, cur, e, hg, ?_, rest⟩
    rw [hS.heap g (Array.getElem?_eq_some_iff.1 hh).1 (fun e2 => ?_)]
    · exact hh
    · subst e2
      unfold Blk at hT
      rw [hT] at hh
      injection hh with hh
      injection hh with _ ht _
      exact absurd ht (by decide)
theorem strsV_one (l : List ByteArray) : ∀ u ∈ strsV l, u.oneCell' = true := by
  intro u hu
  obtain ⟨s, _, rfl⟩ := List.mem_map.1 hu
  rfl
set_option maxRecDepth 100000 in
theorem app_strs {w : World} {o : Oper} {a : Act} {K : Act → World → Prop} {Q : Exit → Act → World → Prop} (s x : Operand)
    (hop : o.op = .call { callee := .builtin .append, args := #[s, x], argTypes := #[47, 47] })
    (M M2 : Nat) (v u : Value) (X Y : List ByteArray) (hs : a.eval s = v) (hown : w.ownsRow M 9 1 v X.length (strsV X)) (hx : a.eval x = u) (hsrc : w.ownsRow M2 9 1 u Y.length (strsV Y)) (hnm : X.length + Y.length ≤ 1000000) (hM : M ≤ w.heap.size)
    (h : ∀ v' w', w'.ownsRow M 9 1 v' (X ++ Y).length (strsV (X ++ Y)) → Below M w w' → K (a.put o.dst v') w') : o.wp Tryd.prog a w K Q := by
  obtain ⟨i0, hi, hz0, hz1, hz2⟩ := info_parts strinfo2
  rcases hsrc.2 with ⟨rfl, h0⟩ | ⟨g, cap, cur, rfl, hg, hh, rest⟩
  · obtain rfl := List.eq_nil_of_length_eq_zero h0
    have hrun := run_append_owned_none (P := Tryd.prog) (w := w) M 47 o.type 9 i0 1 Tryd.underlying47 hi v X.length (strsV X) hown
    unfold Oper.wp
    simp [execOp, hop, resolve, invoke, builtin, hs, hx, hrun, Result.andThen]
    exact h _ _ (by rw [List.append_nil]; exact hown) (Below.refl _ _)
  · refine wp_append_own _ s x 47 hop M 9 i0 (.string ByteArray.empty) 1 16 Tryd.underlying47 hi hz0 hz1 hz2 rfl (by decide) v X.length (strsV X) hs hown ⟨g, 0, none⟩ Y.length cap (strsV Y) hx (by simp [strsV]) (fun j u hj => by rw [Addr.add_mid, Nat.zero_add]; exact row_cell hsrc j u hj) (strsV_one Y) (by unfold maxLen; omega) (by omega) hM ?_
    intro v' w' hO hgr _
    rw [← strsV_append, ← List.length_append] at hO
    exact h v' w' hO ((Below.refl M w).grown hgr hM (fun j e => (World.ownsRow.lt hown j e).1))

end Go.Proofs.YtfhfmdnimebegaaDoor
