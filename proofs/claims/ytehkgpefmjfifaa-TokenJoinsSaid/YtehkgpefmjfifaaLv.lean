/-
  passimlaw06.lives: the documented examples.
-/
import Derived.Test.YtehkgpefmjfifaaLe
namespace Go.Proofs.Ytehkgpefmjfifaa
open Go.RowKit
set_option linter.unusedVariables false
set_option linter.unusedSimpArgs false

/-- A slice of one's own, of a known length, as an answer. -/
def GiveR {α : Type} (E : Elt α) (l : List α) (n : Nat) (w : World) (e : Ending) (w' : World) : Prop := ∃ q c, e = .returned (.slice q n c) ∧ n ≤ c ∧ At E w' q l ∧ Below w.heap.size w w'
theorem MadeR.give {α : Type} {E : Elt α} {l : List α} {w : World} {e : Ending} {w' : World} (h : MadeR E l w e w') {n : Nat} (hn : l.length = n) : GiveR E l n w e w' := by
  obtain ⟨v, rfl, hO, hB⟩ := h
  obtain ⟨q, c, rfl, hc, hA, _, _⟩ := hO.form
  subst hn
  exact ⟨q, c, rfl, hc, hA, hB⟩
theorem sameTexts_refl (l : List ByteArray) (qa qb : Option Addr) (n c d : Nat) (hl : l.length = n) (hn6 : n ≤ 1000000000000) (w : World) (hA : At strE w qa l) (hB : At strE w qb l) :
    Calls Try.prog 24 #[.slice qa n c, .slice qb n d] w (Told w true) := by
  have := sameTexts_any l l qa qb n c n d hl hl hn6 w hA hB
  rwa [decide_eq_true rfl] at this
theorem sameInts_refl (l : List Int) (qa qb : Option Addr) (n c d : Nat) (hl : l.length = n) (hn6 : n ≤ 1000000000000) (w : World) (hA : At intE w qa l) (hB : At intE w qb l) :
    Calls Try.prog 30 #[.slice qa n c, .slice qb n d] w (Told w true) := by
  have := sameInts_any l l qa qb n c n d hl hl hn6 w hA hB
  rwa [decide_eq_true rfl] at this
theorem samePairs_refl (l : List (Int × Int)) (qa qb : Option Addr) (n c d : Nat) (hl : l.length = n) (hn6 : n ≤ 1000000000000) (w : World) (hA : At prE w qa l) (hB : At prE w qb l) :
    Calls Try.prog 27 #[.slice qa n c, .slice qb n d] w (Told w true) := by
  have := samePairs_any l l qa qb n c n d hl hl hn6 w hA hB
  rwa [decide_eq_true rfl] at this
theorem same_refl (l : List Tk) (qa qb : Option Addr) (n c d : Nat) (hl : l.length = n) (hn6 : n ≤ 1000000000000) (w : World) (hA : At rtE w qa l) (hB : At rtE w qb l) :
    Calls Try.prog 16 #[.slice qa n c, .slice qb n d] w (Told w true) := by
  have := same_any l l qa qb n c n d hl hl hn6 w hA hB
  rwa [decide_eq_true rfl] at this

set_option maxHeartbeats 4000000 in
set_option maxRecDepth 100000 in
theorem lives_any (w : World) (hG : GM w) : Calls Try.prog 14 #[] w (Told w true) := by
  obtain ⟨L, hL⟩ : ∃ L : ByteArray, (⟨#[84, 104, 101, 32, 107, 105, 110, 103, 32, 111, 102, 32, 82, 111, 109, 101, 44, 32, 115, 101, 101, 32, 64, 46, 32, 49, 50, 32, 111, 100, 101, 115, 33]⟩ : ByteArray) = L := ⟨_, rfl⟩
  obtain ⟨A, hA⟩ : ∃ L : ByteArray, (⟨#[84, 104, 101, 32, 107, 105, 110, 103, 32, 111, 102, 32, 82, 111, 109, 101, 44, 32, 115, 101, 101, 32, 64, 46]⟩ : ByteArray) = L := ⟨_, rfl⟩
  obtain ⟨B, hB⟩ : ∃ L : ByteArray, (⟨#[49, 50, 32, 111, 100, 101, 115, 33]⟩ : ByteArray) = L := ⟨_, rfl⟩
  obtain ⟨D, hD⟩ : ∃ L : ByteArray, (⟨#[97, 32, 32, 98]⟩ : ByteArray) = L := ⟨_, rfl⟩
  obtain ⟨R, hR⟩ : ∃ L : ByteArray, (⟨#[82, 111, 109, 101, 32, 49, 50]⟩ : ByteArray) = L := ⟨_, rfl⟩
  obtain ⟨R2, hR2⟩ : ∃ L : ByteArray, (⟨#[114, 111, 109, 101, 32, 49, 50]⟩ : ByteArray) = L := ⟨_, rfl⟩
  obtain ⟨M, hM⟩ : ∃ L : ByteArray, (⟨#[82, 111, 109, 101, 44]⟩ : ByteArray) = L := ⟨_, rfl⟩
  have hLx : L = exS := hL.symm
  have sL : L.size ≤ 1000000000 := Nat.le_trans (Nat.le_of_eq (show L.size = 33 by rw [← hL]; rfl)) (show 33 ≤ 1000000000 by omega)
  have sA : A.size ≤ 1000000000 := Nat.le_trans (Nat.le_of_eq (show A.size = 24 by rw [← hA]; rfl)) (show 24 ≤ 1000000000 by omega)
  have sB : B.size ≤ 1000000000 := Nat.le_trans (Nat.le_of_eq (show B.size = 8 by rw [← hB]; rfl)) (show 8 ≤ 1000000000 by omega)
  have sD : D.size ≤ 1000000000 := Nat.le_trans (Nat.le_of_eq (show D.size = 4 by rw [← hD]; rfl)) (show 4 ≤ 1000000000 by omega)
  have sR : R.size ≤ 1000000000 := Nat.le_trans (Nat.le_of_eq (show R.size = 7 by rw [← hR]; rfl)) (show 7 ≤ 1000000000 by omega)
  have HT := Lib.hid ((congrArg (fun x => toks (sb x)) hLx).trans ex_toks : toks (sb L) = _)
  have HSp := Lib.hid (fun V : World => split_any L L.size rfl sL V)
  have HC8 := Lib.hid (fun (V : World) (h : GM V) => show Calls Try.prog 35 #[.string L, .int .i64 8] V (fun e w' => e = .returned (.tuple #[.string A, .string B, .int .i64 0]) ∧ Below V.heap.size V w') from by
    have := cut_any L sL 8 (by omega) (by omega) V h
    rw [hLx, ex_cut8, ← hLx, hA, hB] at this
    exact this)
  have HC4 := Lib.hid (fun (V : World) (h : GM V) => show Calls Try.prog 35 #[.string L, .int .i64 4] V (fun e w' => e = .returned (.tuple #[.string ⟨#[]⟩, .string ⟨#[]⟩, .int .i64 5]) ∧ Below V.heap.size V w') from by
    have := cut_any L sL 4 (by omega) (by omega) V h
    rw [hLx, ex_cut4, ← hLx] at this
    exact this)
  have HC0 := Lib.hid (fun (V : World) (h : GM V) => show Calls Try.prog 35 #[.string L, .int .i64 0] V (fun e w' => e = .returned (.tuple #[.string ⟨#[]⟩, .string ⟨#[]⟩, .int .i64 5]) ∧ Below V.heap.size V w') from by
    have := cut_any L sL 0 (by omega) (by omega) V h
    rw [hLx, ex_cut0, ← hLx] at this
    exact this)
  have HJ := Lib.hid (fun V : World => show Calls Try.prog 33 #[.string A, .string B] V (fun e w' => e = .returned (.string L) ∧ Below V.heap.size V w') from by
    have := join_any A B sA sB V
    rwa [show joinS A B = L from by rw [← hA, ← hB, hLx]; exact ex_join] at this)
  have HW := Lib.hid (fun V : World => show Calls Try.prog 25 #[.string L] V (GiveR strE [⟨#[116, 104, 101]⟩, ⟨#[107, 105, 110, 103]⟩, ⟨#[111, 102]⟩, ⟨#[114, 111, 109, 101]⟩, ⟨#[115, 101, 101]⟩, ⟨#[111, 100, 101, 115]⟩] 6 V) from by
    have := words_any L sL V
    rw [show wordsM L = wordsM exS by rw [hLx], ex_words] at this
    exact this.mono (fun _ _ h => h.give rfl))
  have HF := Lib.hid (fun V : World => show Calls Try.prog 22 #[.string R] V (fun e w' => e = .returned (.string R2) ∧ Below V.heap.size V w') from by
    have := fold_any R R.size rfl sR V
    rwa [show foldS R = R2 from by rw [← hR, ← hR2]; exact ex_fold] at this)
  have HP := Lib.hid (fun V : World => show Calls Try.prog 20 #[.string L, .int .i64 3, .int .i64 5] V (fun e w' => e = .returned (.string M) ∧ Below V.heap.size V w') from by
    have := part_any L sL 3 5 (by omega) (by omega) (by omega) (by omega) V
    rwa [show partS L 3 5 = M from by rw [hLx, ← hM]; exact ex_part] at this)
  have HSe := Lib.hid (fun V : World => show Calls Try.prog 28 #[.string L] V (GiveR prE [(0, 8), (8, 11)] 2 V) from by
    have := sentences_any L sL V
    rw [show sentM L = sentM exS by rw [hLx], ex_sents] at this
    exact this.mono (fun _ _ h => h.give rfl))
  have HMa := Lib.hid (fun V : World => show Calls Try.prog 31 #[.string L] V (GiveR intE [6] 1 V) from by
    have := marks_any L sL V
    rw [show marksM L = marksM exS by rw [hLx], ex_marks] at this
    exact this.mono (fun _ _ h => h.give rfl))
  have HV0 := Lib.hid (fun (V : World) (h : GM V) => show Calls Try.prog 12 #[.string L] V (fun e w' => e = .returned (.int .i64 0) ∧ Below V.heap.size V w') from by
    have := valid_any L L.size rfl sL V h
    rw [show validT (sb L) = validT (sb exS) by rw [hLx], ex_valid] at this
    exact this)
  have HV2 := Lib.hid (fun (V : World) (h : GM V) => show Calls Try.prog 12 #[.string D] V (fun e w' => e = .returned (.int .i64 2) ∧ Below V.heap.size V w') from by
    have := valid_any D D.size rfl sD V h
    rwa [show validT (sb D) = 2 from by rw [← hD]; exact ex_valid2] at this)
  go_enter Try.func14, Try.ntmps14
  rw [hL, hA, hB, hD, hR, hR2, hM]
  clear hL hA hB hD hR hR2 hM hLx sL sA sB sD sR
  go_upto_region 2 with (go_at_call 18; refine (HSp.out w).mono ?_; rintro en W1 ⟨v, rfl, hO, hB1⟩; obtain ⟨q, c, rfl, hc, hAt, _, _⟩ := hO.form)
  rw [HT.out] at hc hAt ⊢
  obtain ⟨b, off, rfl, hLy⟩ := hAt.get (i := 0) (by decide)
  have r4 : W1.rangeAt b (off + 12) [.int .i64 16, .int .i64 17, .int .i64 2] := hLy.range (i := 4) (x := (16, 17, 2)) rfl
  have r8 : W1.rangeAt b (off + 24) [.int .i64 25, .int .i64 27, .int .i64 1] := hLy.range (i := 8) (x := (25, 27, 1)) rfl
  have c6 : W1.cell? ⟨b, off + 20, none⟩ = some (.int .i64 3) := hLy.2 6 (22, 23, 3) 2 _ rfl rfl
  have hGa := hG.keep hB1
  clear hAt hLy hO HSp HT
  go_upto_region 4 with (first
    | (refine load_wanted3 (by rfl) 52 (.tmp 19) rfl b (off + 12) rfl [.int .i64 16, .int .i64 17, .int .i64 2] _ r4 Try.underlying52 rfl (by kernel_rfl) ?_)
    | (refine load_wanted3 (by rfl) 52 (.tmp 33) rfl b (off + 24) rfl [.int .i64 25, .int .i64 27, .int .i64 1] _ r8 Try.underlying52 rfl (by kernel_rfl) ?_))
  clear r4 r8 c6
  go_upto_region 5 with (go_at_call 35; refine (HC8.out W1 hGa).mono ?_; rintro en W2 ⟨rfl, hB2⟩; replace hB1 := link hB1 hB2; replace hGa := hGa.keep hB2)
  go_upto_region 6 with (go_at_call 35; refine (HC4.out W2 hGa).mono ?_; rintro en W3 ⟨rfl, hB2⟩; replace hB1 := link hB1 hB2; replace hGa := hGa.keep hB2)
  go_upto_region 7 with (go_at_call 35; refine (HC0.out W3 hGa).mono ?_; rintro en W4 ⟨rfl, hB2⟩; replace hB1 := link hB1 hB2; replace hGa := hGa.keep hB2)
  clear HC8 HC4 HC0
  go_upto_region 8 with (go_at_call 33; refine (HJ.out W4).mono ?_; rintro en W5 ⟨rfl, hB2⟩; replace hB1 := link hB1 hB2; replace hGa := hGa.keep hB2)
  clear HJ
  go_upto_region 9 with (first
    | (go_at_call 25; refine (HW.out W5).mono ?_; rintro en W6 ⟨q1, c1, rfl, hc1, hA1, hB2⟩; replace hB1 := link hB1 hB2; replace hGa := hGa.keep hB2)
    | (go_at_call 24; refine (sameTexts_refl _ q1 (some ⟨W6.heap.size, 0, none⟩) 6 c1 6 rfl (by omega) _ (hA1.keep ((Below.refl _ _).alloc (Nat.le_refl _) _)) (at_new strE W6 _ _ rfl)).mono ?_; rintro en W7 ⟨rfl, hB2⟩; replace hB2 := link ((Below.refl _ _).alloc (Nat.le_refl _) _) hB2; replace hB1 := link hB1 hB2; replace hGa := hGa.keep hB2)
    | (go_at_call 22; refine (HF.out W7).mono ?_; rintro en W8 ⟨rfl, hB2⟩; replace hB1 := link hB1 hB2; replace hGa := hGa.keep hB2))
  clear HW HF
  go_wp2_with (first
    | (go_at_call 20; refine (HP.out W8).mono ?_; rintro en W9 ⟨rfl, hB2⟩; replace hB1 := link hB1 hB2; replace hGa := hGa.keep hB2)
    | (go_at_call 28; refine (HSe.out W9).mono ?_; rintro en W10 ⟨q2, c2, rfl, hc2, hA2, hB2⟩; replace hB1 := link hB1 hB2; replace hGa := hGa.keep hB2)
    | (go_at_call 27; refine (samePairs_refl _ q2 (some ⟨W10.heap.size, 0, none⟩) 2 c2 2 rfl (by omega) _ (hA2.keep ((Below.refl _ _).alloc (Nat.le_refl _) _)) (at_new prE W10 _ _ rfl)).mono ?_; rintro en W11 ⟨rfl, hB2⟩; replace hB2 := link ((Below.refl _ _).alloc (Nat.le_refl _) _) hB2; replace hB1 := link hB1 hB2; replace hGa := hGa.keep hB2)
    | (go_at_call 31; refine (HMa.out W11).mono ?_; rintro en W12 ⟨q3, c3, rfl, hc3, hA3, hB2⟩; replace hB1 := link hB1 hB2; replace hGa := hGa.keep hB2)
    | (go_at_call 30; refine (sameInts_refl _ q3 (some ⟨W12.heap.size, 0, none⟩) 1 c3 1 rfl (by omega) _ (hA3.keep ((Below.refl _ _).alloc (Nat.le_refl _) _)) (at_new intE W12 _ _ rfl)).mono ?_; rintro en W13 ⟨rfl, hB2⟩; replace hB2 := link ((Below.refl _ _).alloc (Nat.le_refl _) _) hB2; replace hB1 := link hB1 hB2; replace hGa := hGa.keep hB2)
    | (go_at_call 12; refine (HV0.out W13 hGa).mono ?_; rintro en W14 ⟨rfl, hB2⟩; replace hB1 := link hB1 hB2; replace hGa := hGa.keep hB2)
    | (go_at_call 12; refine (HV2.out W14 hGa).mono ?_; rintro en W15 ⟨rfl, hB2⟩; replace hB1 := link hB1 hB2; replace hGa := hGa.keep hB2))
  go_ret
  exact ⟨rfl, hB1⟩
end Go.Proofs.Ytehkgpefmjfifaa
