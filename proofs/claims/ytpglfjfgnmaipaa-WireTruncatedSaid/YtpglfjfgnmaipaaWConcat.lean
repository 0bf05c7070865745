/-
  For every string and every list of integers passimlaw01.WireConcat returns true and leaves its arguments as they were. No condition.
-/
import Derived.Test.YtpglfjfgnmaipaaWIntRoundTrip
import Derived.Test.YtpglfjfgnmaipaaWh
import Derived.SizedLaws
import Derived.ChangeMaps5
namespace Go.Proofs.Ytpglfjfgnmaipaa
open Go.RowKit

theorem own_form {w : World} {B : Nat} {t : TypeId} {v : Value} {n : Nat} {xs : List Value} (h : w.ownsRow B t 1 v n xs) : ∃ A c, v = .slice A n c ∧ Cells w A xs := by
  rcases Nat.eq_zero_or_pos n with h0 | h0
  · subst h0
    have hx : xs = [] := List.eq_nil_of_length_eq_zero (by simpa using h.1)
    subst hx
    rcases h.2 with ⟨rfl, _⟩ | ⟨g, cap, cur, rfl, _⟩
    · exact ⟨none, 0, rfl, fun k u hk => by simp at hk⟩
    · exact ⟨_, _, rfl, fun k u hk => by simp at hk⟩
  · obtain ⟨g, cap, rfl, hc⟩ := own_cells h h0
    exact ⟨_, _, rfl, hc⟩
theorem own_cap {W w : World} {A : Option Addr} {n c : Nat} {l : List Nat} (h : Own W w (.slice A n c) l) : n ≤ c := by
  rcases h.1.2 with ⟨e0, _⟩ | ⟨g', cap', cur, hv, _, _, hcc, _⟩
  · cases e0; omega
  · cases hv; exact hcc
theorem encL_lt (l : List Int) (hl : l.length ≤ 4398046511104) (hi : ∀ x ∈ l, I64 x) : ∀ d ∈ encL l, d < 256 := by
  intro d hd
  unfold encL at hd
  rcases List.mem_append.1 hd with h | h
  · exact enc_lt _ (by omega) (by omega) d h
  · obtain ⟨x, hx, h2⟩ := List.mem_flatMap.1 h
    exact enc_lt x (hi x hx).1 (hi x hx).2 d h2

set_option maxHeartbeats 1000000 in
theorem concat_any (s : ByteArray) (hs : s.size ≤ 9223372036854775807) (A : Option Addr) (l : List Int) (n c : Nat) (w : World) (hn : n = l.length) (hl : n ≤ 140737488355328) (hi : ∀ x ∈ l, I64 x) (hr : Cells w A (intsV l)) (hsum : s.size ≤ 140737488355328) :
    Calls Try.prog 10 #[.string s, .slice A n c] w (Told w true) := by
  subst hn
  by_cases h2000 : 2000 < s.size + l.length
  · have hd : decide ((2000 : Int) < (s.size : Int) + (l.length : Int)) = true := by simp; omega
    go_enter Try.func10, Try.ntmps10
    go_wp2_with fail
    refine (sanity_any w).mono ?_
    rintro e w1 ⟨rfl, hB1⟩
    go_wp2
    go_ret
    exact ⟨rfl, hB1⟩
  · have hd : decide ((2000 : Int) < (s.size : Int) + (l.length : Int)) = false := by simp; omega
    have hO0 : Own w (w.alloc (.cells #[] 5)) (.slice (some ⟨w.heap.size, 0, none⟩) 0 0) [] :=
      ⟨World.ownsRow_made w #[] 0 (Nat.le_refl _) (by unfold maxLen; omega) (by simp), (Below.refl _ _).alloc (Nat.le_refl _) _⟩
    have hE1 := encS_length (sb s) (by rw [sb_length]; omega)
    rw [sb_length] at hE1
    have hE2 := partI_length l l.length hi (by omega)
    rw [partI_all] at hE2
    have hE3 : 1 ≤ (encS (sb s)).length := by unfold encS; have := enc_length ((sb s).length : Int) (by rw [sb_length]; omega) (by rw [sb_length]; omega); simp only [List.length_append]; omega
    have hE4 : 1 ≤ (encL l).length := by unfold encL; have := enc_length (l.length : Int) (by omega) (by omega); simp only [List.length_append]; omega
    have hD1 := Lib.hid (decB_encS (sb s) (encL l) (by rw [sb_length]; omega))
    have hD2 := Lib.hid (ints_back l [] (by omega) hi)
    have hlt1 := encS_lt s hs
    have hlt2 := encL_lt l (by omega) hi
    go_enter Try.func10, Try.ntmps10
    go_wp2_with fail
    refine (bytes_any s (by omega) _).mono ?_
    rintro e w1 ⟨g1, cap1, rfl, hO1⟩
    have hO0' := hO0.keep hO1.below
    have hc1 := (hO1.has hlt1).cells
    have hIl := ints_any A l l.length c
    have HI := Lib.hid hIl
    generalize encS (sb s) = E1 at *
    generalize encL l = E2 at *
    have hlen : E1.length ≤ 70000 := by omega
    clear hO0 hO1
    go_wp2_with (at_builtin; refine push_row (W := w) rfl _ _ rfl [] E1 _ rfl hO0' ⟨g1, 0, none⟩ _ _ rfl rfl hc1 ?_ ?_)
    · simp; omega
    intro v2 w2 hO2
    have hr2 := hr.keep hO2.below
    clear hO0' hc1 hIl
    go_wp2_with fail
    refine (HI.out w2 (by first | rfl | trivial) (by omega) hi hr2).mono ?_
    rintro e w3 ⟨g3, cap3, rfl, hO3⟩
    have hO2' := hO2.keep hO3.below
    have hc3 := (hO3.has hlt2).cells
    clear hO2 hO3 hr2
    go_wp2_with (at_builtin; refine push_row (W := w) rfl _ _ rfl E1 E2 _ rfl hO2' ⟨g3, 0, none⟩ _ _ rfl rfl hc3 ?_ ?_)
    · omega
    intro v4 w4 hO4
    obtain ⟨g4, cap4, rfl, _, _⟩ := hO4.1.form (by simp; omega)
    have hcap := own_cap hO4
    have hlt : ∀ d ∈ E1 ++ E2, d < 256 := fun d hd => by
      rcases List.mem_append.1 hd with h | h
      · exact hlt1 d h
      · exact hlt2 d h
    have hH := hO4.has hlt
    have hB4 := hO4.below
    rw [List.length_append] at hcap
    have C := getBytes_any (some ⟨g4, 0, none⟩) (E1 ++ E2) (E1.length + E2.length) cap4 w4 (by simp) hcap (by omega) hH
    rw [hD1.out] at C
    simp only [threeB, strOf_sb] at C
    have HC := Lib.hid C
    have hH2 := hH.drop E1.length
    have hne : ¬ cap4 = E1.length := by omega
    clear C hO4 hO2' hc3 hH hlt1 hlt2
    have t1 : decide ((E1.length : Int) < 0) = false := by simp
    have t2 : decide ((E1.length : Int) + (E2.length : Int) < (E1.length : Int)) = false := by simp; omega
    go_wp2_with fail
    refine HC.out.mono ?_
    rintro e w5 ⟨rfl, rfl⟩
    rw [Addr.add_mid, Nat.zero_add, List.drop_left] at hH2
    have C2 := getInts_any (some ⟨g4, E1.length, none⟩) E2 E2.length (cap4 - E1.length) w4 rfl (by omega) (by omega) (by omega) hH2
    have hD2' := hD2.out
    rw [List.append_nil] at hD2'
    rw [hD2'] at C2
    clear hD2'
    go_wp2_with fail
    refine C2.mono ?_
    rintro e w6 ⟨v6, rfl, ho6, hB6⟩
    obtain ⟨A6, c6, rfl, hc6⟩ := own_form ho6
    clear C2 ho6 hH2
    go_wp2_with fail
    refine (sanity_any w6).mono ?_
    rintro e w7 ⟨rfl, hB7⟩
    have hr7 := ((hr.keep hB4).keep hB6).keep hB7
    have hc7 := hc6.keep hB7
    go_wp2_with fail
    refine (told_true (sameInts_any A6 A l l l.length l.length c6 c w7 rfl rfl (by omega) (by omega) hc7 hr7) (by simp)).mono ?_
    rintro e w8 ⟨rfl, hB8⟩
    go_wp2
    go_ret
    exact ⟨rfl, chain (chain (chain hB4 hB6) hB7) hB8⟩

/-- A []int argument, opened. -/
theorem open_intsV {H : Type} {enc : TypeId × Value → H} {W : World} {v : Value} {d : DataW H} {ps : List MemPlace} (hval : Value.okWide Try.prog W .any 0 22 v) (h : DataW.Trod enc Try.prog W 0 (fun _ => true) true 22 v d ps)
    (hlt : ∀ x ∈ ps, x.block < W.heap.size) : ∃ A n c l, v = .slice A n c ∧ n = l.length ∧ n ≤ c ∧ Cells W A (intsV l) ∧ (∀ x ∈ l, I64 x) ∧ (∃ e s, d = .slice (Go.ChangeShapes.lits .i64 e) (Go.ChangeShapes.lits .i64 s) ∧ e.length + s.length = c ∨ d = .nil ∧ c = 0) := by
  obtain ⟨A, n, c, rfl⟩ := Go.WideShapes.okWide_slice Try.underlying22 hval
  obtain ⟨fuel, hf⟩ := h
  have cells3 : Try.prog.cellsOf 3 = 1 := by kernel_rfl
  rcases Go.ChangeShapes.open_ints Try.underlying22 Try.underlying3 cells3 hf with ⟨hcs, hx⟩ | ⟨a, len, cap, zs, hcs, _, hl, hm, hz, hx, hcell, hwz⟩
  · simp [Value.cells] at hcs
    obtain ⟨rfl, rfl, rfl⟩ := hcs
    simp only [Prod.mk.injEq] at hx
    exact ⟨none, 0, 0, [], rfl, rfl, by omega, fun k u hk => by simp [intsV] at hk, by simp, [], [], .inr ⟨hx.1, rfl⟩⟩
  · simp [Value.cells] at hcs
    obtain ⟨rfl, rfl, rfl⟩ := hcs
    simp only [if_true] at hz
    simp only [Prod.mk.injEq] at hx
    obtain ⟨rfl, rfl⟩ := hx
    refine ⟨some a, n, c, zs.take n, rfl, by simp; omega, hl, fun k u hk => ?_, fun y hy => ?_, zs.take n, zs.drop n, .inl ⟨rfl, by simp; omega⟩⟩
    · have hkn : k < n := by
        have := (List.getElem?_eq_some_iff.1 hk).1
        simp [intsV] at this
        omega
      have hkz : k < zs.length := by omega
      refine ⟨a, rfl, hlt (.cell a.block (a.off + k)) (MemPlace.mem_row.2 ⟨k, hkz, rfl⟩), ?_⟩
      rw [hcell k hkz]
      simp only [intsV, List.getElem?_map, List.getElem?_take, hkn, if_true, List.getElem?_eq_getElem hkz, Option.map_some, Option.some.injEq] at hk
      rw [← hk]
      simp [List.getD, List.getElem?_eq_getElem hkz]
    · have := hwz y (List.mem_of_mem_take hy)
      simp [Lit.wf, IntKind.min, IntKind.max, IntKind.signed, IntKind.bits] at this
      exact ⟨this.1, this.2⟩

namespace wireConcat
open Go.ChangeShapes Go.WideShapes Go.ChangeAt Go.RowKit

set_option maxRecDepth 100000 in
theorem lifted (os : Os) (started : os.Started) (H : Type) (enc : TypeId × Value → H) :
    ReturnsInHanded {} Try.checked os 10 .any (Rows.wireConcatSpec.pre6 enc Try.prog Try.f10 Rows.wireConcatRow.domain false) (Rows.wireConcatSpec.post enc Try.prog Try.f10 false true false false) := by
  refine returnsInHanded_of_change_sized (C := Try.checked) own started (by kernel_rfl) Try.func10
    (ChangeSpec.witness6 (enc := enc) (C := Try.checked) false ⟨#[], #[.string ByteArray.empty, .slice none 0 0], []⟩ 8 (by kernel_rfl) (by kernel_rfl) (by kernel_rfl) (by kernel_rfl)) ?_
  intro W base args ds gs before hval0 hW hcnd hsz0 _
  have hsz : (DataW.weightsEach Try.prog (Try.f10.params.toList ++ Rows.wireConcatSpec.plain.varTypes Try.prog) (ds ++ gs)).all (· ≤ reachBytes) = true := hsz0
  clear hsz0
  have hval : ∀ (j : Nat) t v, Try.f10.params[j]? = some t → args[j]? = some v → Value.okWide Try.prog W .any base t v := hval0
  have hW' := hW
  obtain ⟨p, q, hA0, hV, rfl, hfz, hnd⟩ := hW
  have hA : DataW.TrodAll enc Try.prog W 0 (fun _ => true) true Try.f10.params.toList args.toList ds p := hA0
  rw [Try.params10] at hA hval hsz
  obtain ⟨v0, v1, d0, d1, p0, p1, rfl, rfl, rfl, h0, h1⟩ := trodAll_two hA
  obtain ⟨rfl, rfl⟩ := trodVars_none hV
  obtain ⟨s, rfl, rfl, rfl, w0⟩ := Go.ChangeMaps.open_string Try.underlying9 (hval 0 9 v0 rfl rfl) h0
  clear hA0 hval0
  simp only [List.append_nil] at hW'
  have hlt : ∀ x ∈ p1, x.block < W.heap.size := fun x hx => by simpa using hW'.lt x (by simpa using hx)
  obtain ⟨A, n, c, l, rfl, hn, hnc, hr, hi, hcap⟩ := open_intsV (hval 1 22 v1 rfl rfl) h1 hlt
  have hs1 : s.size ≤ 140737488355328 := by
    have := sized_string hsz (j := 0) (t := 9) rfl rfl
    simp only [Array.length_toList] at this
    have e : s.data.size = s.size := rfl
    rw [e] at this
    unfold reachBytes at this
    omega
  have hb8 : Try.prog.bytesOf 3 = 8 := by kernel_rfl
  have hn1 : n ≤ 140737488355328 := by
    obtain ⟨e1, e2, ⟨hd, hl⟩ | ⟨_, hc0⟩⟩ := hcap
    · have := sized_slice hsz (j := 1) (t := 22) (e := 3) rfl (by rw [hd]; rfl) Try.underlying22
      rw [hb8] at this
      simp only [lits, List.length_map] at this
      unfold reachBytes at this
      omega
    · omega
  have hargs : ∀ (W' : World), Below W.heap.size W W' → DataW.Trod enc Try.prog W' 0 (fun b => decide (b < W.heap.size)) true 22 (.slice A n c) d1 p1 :=
    fun W' hB => Below.trod laidOut (by kernel_rfl) (of_decide_eq_true (by kernel_rfl)) h1 hB hlt
  refine (concat_any s (by omega) A l n c W hn hn1 hi hr hs1).mono fun e W' ⟨he, hB⟩ => ?_
  subst he
  refine ⟨_, rfl, _, _, _, [], [] ++ p1, [], hW', ?_, ?_, rfl, hB.frame _, fun h => by cases h⟩
  · exact trodAll_mk1 (shut_bool Try.underlying4 _)
  · exact trodAll_mk2 (Go.ChangeMaps.shut_string Try.underlying9 w0) (hargs _ hB)

theorem over : Rows.wireConcatRow.holds Try.pinned (OpenSpec.ofChange Rows.wireConcatSpec) :=
  OpenClaim.holds_of_wide 10 Try.f10 rfl rfl rfl rfl rfl rfl rfl ⟨rfl, rfl, rfl, rfl, rfl⟩ rfl rfl rfl rfl rfl (by kernel_rfl) Try.func10 (by kernel_rfl)
    (of_decide_eq_true (by kernel_rfl)) (by unfold Func.isWrapper; first | (rw [if_pos (by decide +kernel)]; kernel_rfl) | (rw [if_neg (by decide +kernel)]; exact ⟨rfl, rfl⟩))
    (fun os started H enc _ => lifted os started H enc)

theorem proved : Rows.WireConcatSaid := over
#print axioms proved
end wireConcat
end Go.Proofs.Ytpglfjfgnmaipaa
