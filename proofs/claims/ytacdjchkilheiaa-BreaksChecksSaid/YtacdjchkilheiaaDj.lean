/-
  Check of the reference.
-/
import Derived.Test.YtacdjchkilheiaaDh
namespace Go.Proofs.Ytacdjchkilheiaa
open Go.RowKit
set_option linter.unusedVariables false
set_option linter.unusedSimpArgs false

theorem show_shape {l : List Int} {bl wd : Int} {L C : List Int} (h : showT l bl wd L C = true) : L.length = l.length + 1 ∧ C.length = l.length + 1 := by
  unfold showT shapeT at h
  rw [Bool.and_eq_true, Bool.and_eq_true, decide_eq_true_eq, decide_eq_true_eq] at h
  exact h.1
theorem rshows_any (A : Option Addr) (l : List Int) (n c : Nat) (hl : l.length = n) (bl wd : Int) (hF : Fine l bl wd) (qe : Option Addr) (L C : List Int) (ne ce : Nat) (ql : Option Addr) (nl cl : Nat) (qc : Option Addr) (nc cc : Nat) (hL : L.length = nl) (hC : C.length = nc) (w : World) (hA : IntsAt w A l) (hLA : IntsAt w ql L) (hCA : IntsAt w qc C) :
    Calls Try.prog 38 #[.slice A n c, .int .i64 bl, .int .i64 wd, .agg #[.slice qe ne ce, .slice ql nl cl, .slice qc nc cc]] w (Told w (showT l bl wd L C)) := by
  by_cases hs : nl = n + 1 ∧ nc = n + 1
  · obtain ⟨rfl, rfl⟩ := hs
    exact rshows_good A l n (n + 1) c hl rfl bl wd hF qe L C ne ce ql cl qc cc hL hC w hA hLA hCA
  · have hf : showT l bl wd L C = false := by
      rw [← Bool.not_eq_true]
      intro h
      have := show_shape h
      exact hs ⟨by omega, by omega⟩
    rw [hf]
    exact rshows_shape A n c (by have := hF.len; omega) bl wd qe ne ce ql nl cl qc nc cc (by
      by_cases h : nl = n + 1
      · exact Or.inr (fun g => hs ⟨h, g⟩)
      · exact Or.inl h) w
set_option maxHeartbeats 8000000 in
set_option maxRecDepth 100000 in
theorem rcheck_any (A : Option Addr) (l : List Int) (n c : Nat) (hl : l.length = n) (hn9 : n ≤ 1000000000000) (bl wd : Int) (qe : Option Addr) (E L C : List Int) (ne ce : Nat) (hne : E.length = ne) (hne9 : ne ≤ 9223372036854775807) (ql : Option Addr) (nl cl : Nat) (qc : Option Addr) (nc cc : Nat) (hL : L.length = nl) (hC : C.length = nc) (w : World) (hA : IntsAt w A l) (hE : IntsAt w qe E) (hLA : IntsAt w ql L) (hCA : IntsAt w qc C) :
    Calls Try.prog 24 #[.slice A n c, .int .i64 bl, .int .i64 wd, .agg #[.slice qe ne ce, .slice ql nl cl, .slice qc nc cc]] w (IntR (chkT l bl wd E L C) w) := by
  have HEr := Lib.hid (fun (V : World) (h : Below w.heap.size w V) => rerror_any A l n c hl hn9 bl wd V (hA.keep h))
  have HCo := Lib.hid (fun (V : World) (h : Below w.heap.size w V) => rcost_any A l n c hl hn9 bl wd qe E ne ce hne hne9 V (hA.keep h) (hE.keep h))
  have HSh := Lib.hid (fun (hF : Fine l bl wd) (V : World) (h : Below w.heap.size w V) => rshows_any A l n c hl bl wd hF qe L C ne ce ql nl cl qc nc cc hL hC V (hA.keep h) (hLA.keep h) (hCA.keep h))
  go_enter Try.func24, Try.ntmps24
  go_upto_region 1 with (fail)
  have Kc := blk_new w 32 #[.slice qe ne ce, .slice ql nl cl, .slice qc nc cc]
  have X0 : Below w.heap.size w (w.alloc (.cells #[.slice qe ne ce, .slice ql nl cl, .slice qc nc cc] 32)) := (Below.refl _ _).alloc (Nat.le_refl _) _
  generalize World.alloc w _ = W0 at Kc X0 ⊢
  obtain ⟨cb, hcb⟩ : ∃ cb, w.heap.size = cb := ⟨_, rfl⟩
  rw [hcb] at Kc
  rw [hcb]
  clear hcb
  have HEr0 := Lib.hid (HEr.out W0 X0)
  by_cases he : errT l bl wd = 0
  case neg =>
    have HR := Lib.hid (chk_err (E := E) (L := L) (C := C) he)
    generalize chkT l bl wd E L C = R at *
    generalize errT l bl wd = k at *
    have hk : (k == 0) = false := beq_eq_false_iff_ne.2 he
    clear HCo HSh HEr Kc hA hE hLA hCA
    go_wp2_with (go_at_call 26; refine HEr0.out.mono ?_; rintro en W1 ⟨rfl, rfl⟩)
    go_ret
    exact ⟨by rw [HR.out]; rfl, X0⟩
  have hF := fine_of he
  have HSh := Lib.hid (HSh.out hF)
  have hco : costA l bl wd E = measT l bl wd E := by unfold costA; rw [if_pos he]
  rw [he] at HEr0
  rw [hco] at HCo
  have hok : okT l bl wd E L C = (decide ((measT l bl wd E).2.2 = 0) && (showT l bl wd L C && (decide (L.getD 0 0 = (measT l bl wd E).1) && decide (C.getD 0 0 = (measT l bl wd E).2.1)))) := rfl
  have HNo := Lib.hid (fun h : okT l bl wd E L C = false => chk_no he h)
  have HYes := Lib.hid (fun h : okT l bl wd E L C = true => chk_yes he h)
  have HSp := Lib.hid (fun h : showT l bl wd L C = true => (show L ≠ [] ∧ C ≠ [] from by
    have := show_shape h
    exact ⟨fun e => by rw [e] at this; simp at this, fun e => by rw [e] at this; simp at this⟩))
  have HOk := Lib.hid hok
  generalize chkT l bl wd E L C = R at *
  generalize okT l bl wd E L C = ok at HOk HNo HYes
  generalize measT l bl wd E = r at *
  obtain ⟨r1, r2, r3⟩ := r
  unfold ThreeR at HCo
  generalize showT l bl wd L C = sh at *
  have HC0 := Lib.hid (HCo.out W0 X0)
  have d0 := Kc.cell (j := 0) rfl
  clear hok hco HCo HEr hF he hl hA hE hne
  go_upto_region 5 with (first
    | (go_at_call 26; refine HEr0.out.mono ?_; rintro en W1 ⟨rfl, rfl⟩)
    | (go_at_call 21; refine HC0.out.mono ?_; rintro en W2 ⟨rfl, hB2⟩))
  try dsimp only
  have hB := link X0 hB2
  replace Kc := Kc.keep hB2
  clear hB2 d0 X0 HC0 HEr0
  by_cases h3 : r3 = 0
  case neg =>
    have hk : (r3 == 0) = false := beq_eq_false_iff_ne.2 h3
    have HR := Lib.hid (HNo.out (by rw [HOk.out, decide_eq_false h3]; rfl))
    clear HOk
    go_wp2
    go_ret
    exact ⟨by rw [HR.out]; rfl, hB⟩
  subst h3
  have g1 : W2.rangeAt cb 0 [.slice qe ne ce, .slice ql nl cl, .slice qc nc cc] := by have := Kc.range 0 3; exact this
  have HS2 := Lib.hid (HSh.out W2 hB)
  clear HSh
  rcases sh with _ | _
  · have HR := Lib.hid (HNo.out (by rw [HOk.out]; simp))
    clear HOk
    go_wp2_with (first
      | (refine load_wanted3 (by rfl) 32 (.tmp 7) rfl cb 0 rfl [.slice qe ne ce, .slice ql nl cl, .slice qc nc cc] _ g1 Try.underlying32 rfl (by kernel_rfl) ?_)
      | (go_at_call 38; refine HS2.out.mono ?_; rintro en W3 ⟨rfl, hB3⟩))
    go_ret
    exact ⟨by rw [HR.out]; rfl, link hB hB3⟩
  obtain ⟨hLn, hCn⟩ := HSp.out rfl
  obtain ⟨adl, rfl, hbl, hLc⟩ := hLA hLn
  obtain ⟨adc, rfl, hbc, hCc⟩ := hCA hCn
  obtain ⟨x0, hx0⟩ : ∃ x, L[0]? = some x := ⟨_, List.getElem?_eq_getElem ((List.length_pos_iff.2 hLn))⟩
  obtain ⟨y0, hy0⟩ : ∃ x, C[0]? = some x := ⟨_, List.getElem?_eq_getElem ((List.length_pos_iff.2 hCn))⟩
  have hl0 : 0 < nl := by rw [← hL]; exact (List.length_pos_iff.2 hLn)
  have hc0 : 0 < nc := by rw [← hC]; exact (List.length_pos_iff.2 hCn)
  have dx : L.getD 0 0 = x0 := by rw [List.getD_eq_getElem?_getD, hx0]; rfl
  have dy : C.getD 0 0 = y0 := by rw [List.getD_eq_getElem?_getD, hy0]; rfl
  have HOk2 := Lib.hid (show ok = (decide (x0 = r1) && decide (y0 = r2)) from by rw [HOk.out, dx, dy]; simp)
  have HLx := Lib.hid (fun (V : World) (h : Below w.heap.size w V) => (by have := (h.cell (by rw [add_block]; exact hbl)).trans (hLc 0 x0 hx0).1; rwa [Addr.add_zero'] at this : V.cell? adl = some (.int .i64 x0)))
  have HCx := Lib.hid (fun (V : World) (h : Below w.heap.size w V) => (by have := (h.cell (by rw [add_block]; exact hbc)).trans (hCc 0 y0 hy0).1; rwa [Addr.add_zero'] at this : V.cell? adc = some (.int .i64 y0)))
  clear hLc hCc hx0 hy0 dx dy HOk hL hC hLn hCn HSp hbl hbc hLA hCA
  go_upto_region 7 with (first
    | (refine load_wanted3 (by rfl) 32 (.tmp 7) rfl cb 0 rfl [.slice qe ne ce, .slice (some adl) nl cl, .slice (some adc) nc cc] _ g1 Try.underlying32 rfl (by kernel_rfl) ?_)
    | (go_at_call 38; refine HS2.out.mono ?_; rintro en W3 ⟨rfl, hB3⟩))
  replace hB := link hB hB3
  have d1 := (Kc.keep hB3).cell (j := 1) rfl
  have d2 := (Kc.keep hB3).cell (j := 2) rfl
  have e1 := HLx.out W3 hB
  have e2 := HCx.out W3 hB
  clear g1 HS2 HLx HCx Kc
  by_cases h1 : x0 = r1
  case neg =>
    have HR := Lib.hid (HNo.out (by rw [HOk2.out, decide_eq_false h1]; rfl))
    have hk : (x0 == r1) = false := beq_eq_false_iff_ne.2 h1
    clear HOk2
    go_wp2
    go_ret
    exact ⟨by rw [HR.out]; rfl, hB⟩
  subst h1
  have hk1 : (x0 == x0) = true := by simp
  by_cases h2 : y0 = r2
  case neg =>
    have HR := Lib.hid (HNo.out (by rw [HOk2.out, decide_eq_false h2]; simp))
    have hk : (y0 == r2) = false := beq_eq_false_iff_ne.2 h2
    clear HOk2
    go_wp2
    go_ret
    exact ⟨by rw [HR.out]; rfl, hB⟩
  subst h2
  have hk2 : (y0 == y0) = true := by simp
  have HR := Lib.hid (HYes.out (by rw [HOk2.out]; simp))
  clear HOk2
  go_wp2
  go_ret
  exact ⟨by rw [HR.out]; rfl, hB⟩
end Go.Proofs.Ytacdjchkilheiaa
