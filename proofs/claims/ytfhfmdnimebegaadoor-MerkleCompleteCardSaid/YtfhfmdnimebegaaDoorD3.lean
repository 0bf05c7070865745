/-
  Check and CheckRange; the examples of the section. Conditions: as each theorem states them; no axiom beyond propext, Classical.choice, Quot.sound.
-/
import Derived.Test.YtfhfmdnimebegaaDoorD1
import Derived.Test.YtfhfmdnimebegaaDoorD2

/-
  merkle.Check.
-/
namespace Go.Proofs.YtfhfmdnimebegaaDoor
open Go.RowKit
set_option linter.unusedVariables false
set_option linter.unusedSimpArgs false

theorem under_facts {R : List Nat} {F S : Int} {lf : List Lf} {sd : List (List Nat)} (h : underM R F S lf sd = true) : ∃ F' S' : Nat, F = F' ∧ S = S' ∧ F' + lf.length ≤ S' ∧ S' ≤ 4096 ∧ validM lf = 0 := by
  unfold underM at h
  split at h
  · cases h
  · rename_i hb
    have hv : validM lf = 0 := Classical.byContradiction fun hv => hb (by simp [hv])
    exact ⟨F.toNat, S.toNat, by omega, by omega, by omega, by omega, hv⟩
theorem SdV.len {w : World} {M : Nat} {sa : Option Addr} {k sc : Nat} {sd : List (List Nat)} (h : SdV w M (.slice sa k sc) sd) : k = sd.length := by
  obtain ⟨p, c, e, _⟩ := h
  injection e
theorem SdV.self {w w' : World} {M : Nat} {v : Value} {sd : List (List Nat)} (h : SdV w M v sd) (hB : Below w.heap.size w w') : SdV w' w'.heap.size v sd := by
  obtain ⟨p, c', e, h1, h2⟩ := h.keepW hB
  refine ⟨p, c', e, h1, fun hne => ?_⟩
  obtain ⟨g, o, e2, _, h4, h5⟩ := h2 hne
  exact ⟨g, o, e2, h4, h4, h5⟩
theorem under_any (R : List Nat) (hR : Dgt R) (F S : Int) (lf : List Lf) (q : Option Addr) (n c : Nat) (sa : Option Addr) (k sc : Nat) (sd : List (List Nat)) (hd : Dgts sd) (hl : lf.length = n) (hn : n ≤ 281474976710656) (hc : n ≤ c) (w : World) (hG : Glob w) (hL : OwnL w q lf) (hsd : SdV w w.heap.size (.slice sa k sc) sd) :
    Calls Tryd.prog 50 #[.agg (bytesV R).toArray, .agg #[.int .i64 F, .int .i64 S, .slice q n c, .slice sa k sc]] w fun en w' => en = .returned (.bool (underM R F S lf sd)) ∧ Below w.heap.size w w' := by
  by_cases hb : S < 0 ∨ 4096 < S ∨ F < 0 ∨ S - n < F ∨ validM lf ≠ 0
  · have e : underM R F S lf sd = false := by unfold underM; rw [if_pos (by rw [hl]; exact hb)]
    rw [e]
    exact under_bad R hR F S lf q n c sa k sc hl hn w hL hb
  · have hv : validM lf = 0 := Classical.byContradiction fun hv => hb (by simp [hv])
    obtain ⟨F', rfl⟩ : ∃ F' : Nat, F = F' := ⟨F.toNat, by omega⟩
    obtain ⟨S', rfl⟩ : ∃ S' : Nat, S = S' := ⟨S.toNat, by omega⟩
    by_cases h0 : S' = 0
    · subst h0
      obtain rfl : F' = 0 := by omega
      obtain rfl : n = 0 := by omega
      obtain rfl := List.eq_nil_of_length_eq_zero hl
      have e : underM R ((0 : Nat) : Int) ((0 : Nat) : Int) [] sd = (decide (k = 0) && decide (R = topD 0 z16)) := by
        unfold underM
        rw [if_neg (by rw [hl]; exact hb), if_pos (by rfl), hsd.len]
        congr 1
        simp
      rw [e]
      exact under_empty R hR q c sa k sc w hG
    · by_cases hn0 : n = 0
      · subst hn0
        obtain rfl := List.eq_nil_of_length_eq_zero hl
        have e : underM R (F' : Int) (S' : Int) [] sd = false := by
          unfold underM
          rw [if_neg (by rw [hl]; exact hb), if_neg (by omega), if_pos rfl]
        rw [e]
        exact under_none R hR F' S' (by omega) (by omega) (by omega) q c sa k sc w
      · obtain ⟨b, off, rfl, hL2⟩ := hL (by intro h; rw [h] at hl; simp at hl; omega)
        have e : underM R (F' : Int) (S' : Int) lf sd = (decide ((bldM lf F' 0 S' (some sd)).2 = some []) && decide (R = topD S' (bldM lf F' 0 S' (some sd)).1)) := by
          unfold underM
          rw [if_neg (by rw [hl]; exact hb), if_neg (by omega), if_neg (by intro h; rw [h] at hl; simp at hl; omega)]
          simp
        rw [e]
        exact under_main R hR F' S' n lf hl (by omega) (by omega) (by omega) hv b off c hc sa k sc sd hd w hG hL2 hsd

/-- The value of the leaf at an index. -/
def valAt (ls : List Lf) (i : Nat) : ByteArray := match ls[i]? with
  | some x => x.2
  | none => ByteArray.empty
/-- What Check answers. -/
def checkM (R : List Nat) (key : ByteArray) (F S : Int) (lf : List Lf) (sd : List (List Nat)) : ByteArray × Bool × Int :=
  if underM R F S lf sd then
    (if keyAt lf (fromM lf key) key then (valAt lf (fromM lf key), true, 0)
     else if absentM F.toNat S.toNat lf.length (fromM lf key) then (ByteArray.empty, false, 0) else (ByteArray.empty, false, 17))
  else (ByteArray.empty, false, 17)

set_option maxHeartbeats 2000000 in
set_option maxRecDepth 100000 in
theorem check_no (R : List Nat) (hR : Dgt R) (key : ByteArray) (F S : Int) (lf : List Lf) (q : Option Addr) (n c : Nat) (sa : Option Addr) (k sc : Nat) (sd : List (List Nat)) (hd : Dgts sd) (hl : lf.length = n) (hn : n ≤ 281474976710656) (hc : n ≤ c) (w : World) (hG : Glob w) (hL : OwnL w q lf) (hsd : SdV w w.heap.size (.slice sa k sc) sd)
    (hu : underM R F S lf sd = false) :
    Calls Tryd.prog 28 #[.agg (bytesV R).toArray, .string key, .agg #[.int .i64 F, .int .i64 S, .slice q n c, .slice sa k sc]] w fun en w' => en = .returned (.tuple #[.string ByteArray.empty, .bool false, .int .i64 17]) ∧ Below w.heap.size w w' := by
  have HU := Lib.hid (fun (w0 : World) (hB : Below w.heap.size w w0) => (hu ▸ under_any R hR F S lf q n c sa k sc sd hd hl hn hc w0 (hG.keep hB) (hL.keep hB) (hsd.self hB) : Calls Tryd.prog 50 #[.agg (bytesV R).toArray, .agg #[.int .i64 F, .int .i64 S, .slice q n c, .slice sa k sc]] w0 fun en w' => en = .returned (.bool false) ∧ Below w0.heap.size w0 w'))
  have hvR : (bytesV R).length = 16 := by rw [bytesV_length]; exact hR.1
  clear hu hd hl hsd hL hG
  go_enter Tryd.func28, Tryd.ntmps28
  go_upto_region 1 with (fail)
  generalize hw1 : World.alloc _ _ = W0
  have Kp : Blk W0 (w.heap.size + 1) 50 [.int .i64 F, .int .i64 S, .slice q n c, .slice sa k sc] := hw1 ▸ blk_new1 w _ _ _
  have Kr : Blk W0 w.heap.size 29 (bytesV R) := hw1 ▸ ((blk_new w _ _).alloc _)
  have KB : Below w.heap.size w W0 := hw1 ▸ (((Below.refl _ _).alloc (Nat.le_refl _) _).alloc (by simp) _)
  clear hw1
  go_wp2_with (first
    | (refine load_blk rfl 29 (.tmp 3) rfl Kr rfl Tryd.underlying29 (m := 16) (by kernel_rfl) hvR ?_)
    | (refine load_struct rfl 50 (.tmp 5) rfl Kp rfl Tryd.underlying50 (m := 4) (by kernel_rfl) rfl ?_)
    | (go_at_call 50; refine (HU.out _ KB).mono ?_; rintro en W2 ⟨rfl, hB2⟩))
  go_ret3
  exact ⟨rfl, link KB hB2⟩

set_option maxHeartbeats 2000000 in
set_option maxRecDepth 100000 in
theorem check_yes (R : List Nat) (hR : Dgt R) (key : ByteArray) (F S : Nat) (lf : List Lf) (q : Option Addr) (n c : Nat) (sa : Option Addr) (k sc : Nat) (sd : List (List Nat)) (hd : Dgts sd) (hl : lf.length = n) (hFS : F + n ≤ S) (hS : S ≤ 4096) (hv : validM lf = 0) (hc : n ≤ c) (w : World) (hG : Glob w) (hL : OwnL w q lf) (hsd : SdV w w.heap.size (.slice sa k sc) sd)
    (hu : underM R F S lf sd = true) :
    Calls Tryd.prog 28 #[.agg (bytesV R).toArray, .string key, .agg #[.int .i64 (F : Int), .int .i64 (S : Int), .slice q n c, .slice sa k sc]] w
      fun en w' => en = .returned (.tuple #[.string (checkM R key F S lf sd).1, .bool (checkM R key F S lf sd).2.1, .int .i64 (checkM R key F S lf sd).2.2]) ∧ Below w.heap.size w w' := by
  have HU := Lib.hid (fun (w0 : World) (hB : Below w.heap.size w w0) => (hu ▸ under_any R hR F S lf q n c sa k sc sd hd hl (by omega) hc w0 (hG.keep hB) (hL.keep hB) (hsd.self hB) : Calls Tryd.prog 50 #[.agg (bytesV R).toArray, .agg #[.int .i64 (F : Int), .int .i64 (S : Int), .slice q n c, .slice sa k sc]] w0 fun en w' => en = .returned (.bool true) ∧ Below w0.heap.size w0 w'))
  obtain ⟨_, _, hord⟩ := valid_zero hv
  have HF := Lib.hid (fun (w0 : World) (hB : Below w.heap.size w w0) => from_any lf q n c hl (by omega) hord key w0 (hL.keep hB))
  have HA := Lib.hid (fun (w0 : World) (hB : Below w.heap.size w w0) => absent_any lf q n c hl hord key F S (by omega) hS sa k sc w0 (hL.keep hB))
  have hvR : (bytesV R).length = 16 := by rw [bytesV_length]; exact hR.1
  have hcm : checkM R key F S lf sd = (if keyAt lf (fromM lf key) key then (valAt lf (fromM lf key), true, 0) else if absentM F S n (fromM lf key) then (ByteArray.empty, false, 0) else (ByteArray.empty, false, 17)) := by
    unfold checkM
    rw [if_pos hu, hl]
    simp
  have hkx : keyAt lf (fromM lf key) key = true → fromM lf key < n ∧ ∃ b off x, q = some ⟨b, off, none⟩ ∧ b < w.heap.size ∧ w.cell? ⟨b, off + fromM lf key * 2, none⟩ = some (.string x) ∧ w.cell? ⟨b, off + fromM lf key * 2 + 1, none⟩ = some (.string (valAt lf (fromM lf key))) ∧ (x.toList == key.toList) = true := by
    intro hk
    have hlt := keyAt_lt hk
    obtain ⟨b, off, hp, hL2⟩ := hL (by intro h; rw [h] at hlt; simp at hlt)
    have hx : lf[fromM lf key]? = some lf[fromM lf key] := List.getElem?_eq_getElem hlt
    refine ⟨by omega, b, off, _, hp, hL2.1, (hL2.at hx).1, ?_, ?_⟩
    · rw [(hL2.at hx).2]; unfold valAt; rw [hx]
    · unfold keyAt at hk
      rw [hx] at hk
      exact hk
  have hkn : ¬ keyAt lf (fromM lf key) key = true → fromM lf key < n → ∃ b off x, q = some ⟨b, off, none⟩ ∧ b < w.heap.size ∧ w.cell? ⟨b, off + fromM lf key * 2, none⟩ = some (.string x) ∧ (x.toList == key.toList) = false := by
    intro hk hlt
    obtain ⟨b, off, hp, hL2⟩ := hL (by intro h; rw [h] at hl; simp at hl; omega)
    have hx : lf[fromM lf key]? = some (lf[fromM lf key]'(by omega)) := List.getElem?_eq_getElem (by omega)
    refine ⟨b, off, _, hp, hL2.1, (hL2.at hx).1, ?_⟩
    unfold keyAt at hk
    rw [hx] at hk
    simpa using hk
  generalize checkM R key F S lf sd = CM at hcm ⊢
  generalize keyAt lf (fromM lf key) key = ka at hkx hkn hcm
  generalize valAt lf (fromM lf key) = vl at hkx hcm
  generalize fromM lf key = i at HF HA hkx hkn hcm
  generalize absentM F S n i = ab at HA hcm
  clear hu hd hl hsd hL hG hord hv hFS hS hc
  go_enter Tryd.func28, Tryd.ntmps28
  go_upto_region 1 with (fail)
  generalize hw1 : World.alloc _ _ = W0
  have Kp : Blk W0 (w.heap.size + 1) 50 [.int .i64 (F : Int), .int .i64 (S : Int), .slice q n c, .slice sa k sc] := hw1 ▸ blk_new1 w _ _ _
  have Kr : Blk W0 w.heap.size 29 (bytesV R) := hw1 ▸ ((blk_new w _ _).alloc _)
  have KB : Below w.heap.size w W0 := hw1 ▸ (((Below.refl _ _).alloc (Nat.le_refl _) _).alloc (by simp) _)
  clear hw1
  go_upto_region 3 with (first
    | (refine load_blk rfl 29 (.tmp 3) rfl Kr rfl Tryd.underlying29 (m := 16) (by kernel_rfl) hvR ?_)
    | (refine load_struct rfl 50 (.tmp 5) rfl Kp rfl Tryd.underlying50 (m := 4) (by kernel_rfl) rfl ?_)
    | (go_at_call 50; refine (HU.out _ KB).mono ?_; rintro en W2 ⟨rfl, hB2⟩))
  have Kp2 := Kp.keep hB2
  have KB2 := link KB hB2
  clear Kp Kr KB hB2 HU
  have c2 := Kp2.cell (j := 2) rfl
  go_upto_region 4 with (go_at_call 45; refine (HF.out _ KB2).mono ?_; rintro en W3 ⟨rfl, hB3⟩)
  have Kp3 := Kp2.keep hB3
  have KB3 := link KB2 hB3
  clear c2 Kp2 KB2 hB3 HF
  have c2 := Kp3.cell (j := 2) rfl
  rcases ka with _ | _
  · have hcm2 := Lib.hid hcm
    clear hcm
    by_cases hlt : i < n
    · obtain ⟨b, off, x, rfl, hb, hx, hxk⟩ := hkn (by simp) hlt
      have cx := (KB3.cell hb).trans hx
      clear hkx hkn
      go_upto_region 6 with (fail)
      clear c2 cx hx hxk hlt
      go_wp2_with (first
        | (refine load_struct rfl 50 (.tmp 5) rfl Kp3 rfl Tryd.underlying50 (m := 4) (by kernel_rfl) rfl ?_)
        | (go_at_call 51; refine (HA.out _ KB3).mono ?_; rintro en W4 ⟨rfl, hB4⟩; cases ab))
      all_goals
        go_ret3
        exact ⟨by rw [hcm2.out]; rfl, link KB3 hB4⟩
    · clear hkx hkn
      go_upto_region 6 with (fail)
      clear c2 hlt
      go_wp2_with (first
        | (refine load_struct rfl 50 (.tmp 5) rfl Kp3 rfl Tryd.underlying50 (m := 4) (by kernel_rfl) rfl ?_)
        | (go_at_call 51; refine (HA.out _ KB3).mono ?_; rintro en W4 ⟨rfl, hB4⟩; cases ab))
      all_goals
        go_ret3
        exact ⟨by rw [hcm2.out]; rfl, link KB3 hB4⟩
  · obtain ⟨hlt, b, off, x, rfl, hb, hx, hy, hxk⟩ := hkx rfl
    have cx := (KB3.cell hb).trans hx
    have cy := (KB3.cell hb).trans hy
    have hcm2 := Lib.hid hcm
    clear hkx hkn hcm hx hy
    go_wp2
    go_ret3
    exact ⟨by rw [hcm2.out]; rfl, KB3⟩

theorem check_any (R : List Nat) (hR : Dgt R) (key : ByteArray) (F S : Int) (lf : List Lf) (q : Option Addr) (n c : Nat) (sa : Option Addr) (k sc : Nat) (sd : List (List Nat)) (hd : Dgts sd) (hl : lf.length = n) (hn : n ≤ 281474976710656) (hc : n ≤ c) (w : World) (hG : Glob w) (hL : OwnL w q lf) (hsd : SdV w w.heap.size (.slice sa k sc) sd) :
    Calls Tryd.prog 28 #[.agg (bytesV R).toArray, .string key, .agg #[.int .i64 F, .int .i64 S, .slice q n c, .slice sa k sc]] w
      fun en w' => en = .returned (.tuple #[.string (checkM R key F S lf sd).1, .bool (checkM R key F S lf sd).2.1, .int .i64 (checkM R key F S lf sd).2.2]) ∧ Below w.heap.size w w' := by
  rcases hu : underM R F S lf sd with _ | _
  · have e : checkM R key F S lf sd = (ByteArray.empty, false, 17) := by unfold checkM; rw [if_neg (by rw [hu]; simp)]
    rw [e]
    exact check_no R hR key F S lf q n c sa k sc sd hd hl hn hc w hG hL hsd hu
  · obtain ⟨F', S', rfl, rfl, h1, h2, h3⟩ := under_facts hu
    exact check_yes R hR key F' S' lf q n c sa k sc sd hd hl (by omega) h2 h3 hc w hG hL hsd hu

end Go.Proofs.YtfhfmdnimebegaaDoor

/-
  merkle.CheckRange.
-/
namespace Go.Proofs.YtfhfmdnimebegaaDoor
open Go.RowKit
set_option linter.unusedVariables false
set_option linter.unusedSimpArgs false

/-- The key of the leaf at an index. -/
def kAt (ls : List Lf) (i : Nat) : ByteArray := match ls[i]? with
  | some x => x.1
  | none => ByteArray.empty
/-- Whether a proof's range does not reach as far as what is asked for. -/
def outR (low hik : ByteArray) (F S : Nat) (lf : List Lf) : Bool := (decide (0 < F) && !sless (kAt lf 0) low) || (decide (F + lf.length < S) && sless (kAt lf (lf.length - 1)) hik)
/-- What CheckRange answers. -/
def crangeM (R : List Nat) (low hik : ByteArray) (F S : Int) (lf : List Lf) (sd : List (List Nat)) : List Lf × Int :=
  if sless hik low then ([], 5)
  else if underM R F S lf sd then (if outR low hik F.toNat S.toNat lf then ([], 17) else ((lf.drop (fromM lf low)).take (fromM lf hik - fromM lf low), 0))
  else ([], 17)
/-- A slice of leaves as an answer. -/
def LvsV (w : World) (v : Value) (ls : List Lf) : Prop := ∃ q c, v = .slice q ls.length c ∧ ls.length ≤ c ∧ OwnL w q ls
theorem LvsV.nil (w : World) : LvsV w (.slice none 0 0) [] := ⟨none, 0, rfl, Nat.le_refl _, fun h => absurd rfl h⟩

set_option maxHeartbeats 2000000 in
set_option maxRecDepth 100000 in
theorem crange_bad (R : List Nat) (low hik : ByteArray) (h : sless hik low = true) (F S : Int) (q : Option Addr) (n c : Nat) (sa : Option Addr) (k sc : Nat) (w : World) :
    Calls Tryd.prog 31 #[.agg (bytesV R).toArray, .string low, .string hik, .agg #[.int .i64 F, .int .i64 S, .slice q n c, .slice sa k sc]] w fun en w' => en = .returned (.tuple #[.slice none 0 0, .int .i64 5]) ∧ Below w.heap.size w w' := by
  unfold sless at h
  go_enter Tryd.func31, Tryd.ntmps31
  go_upto_region 1 with (fail)
  generalize hw1 : World.alloc _ _ = W0
  have KB : Below w.heap.size w W0 := hw1 ▸ (((Below.refl _ _).alloc (Nat.le_refl _) _).alloc (by simp) _)
  clear hw1
  go_wp2
  go_ret2
  exact ⟨rfl, KB⟩

set_option maxHeartbeats 2000000 in
set_option maxRecDepth 100000 in
theorem crange_no (R : List Nat) (hR : Dgt R) (low hik : ByteArray) (h : sless hik low = false) (F S : Int) (lf : List Lf) (q : Option Addr) (n c : Nat) (sa : Option Addr) (k sc : Nat) (sd : List (List Nat)) (hd : Dgts sd) (hl : lf.length = n) (hn : n ≤ 281474976710656) (hc : n ≤ c) (w : World) (hG : Glob w) (hL : OwnL w q lf) (hsd : SdV w w.heap.size (.slice sa k sc) sd)
    (hu : underM R F S lf sd = false) :
    Calls Tryd.prog 31 #[.agg (bytesV R).toArray, .string low, .string hik, .agg #[.int .i64 F, .int .i64 S, .slice q n c, .slice sa k sc]] w fun en w' => en = .returned (.tuple #[.slice none 0 0, .int .i64 17]) ∧ Below w.heap.size w w' := by
  have HU := Lib.hid (fun (w0 : World) (hB : Below w.heap.size w w0) => (hu ▸ under_any R hR F S lf q n c sa k sc sd hd hl hn hc w0 (hG.keep hB) (hL.keep hB) (hsd.self hB) : Calls Tryd.prog 50 #[.agg (bytesV R).toArray, .agg #[.int .i64 F, .int .i64 S, .slice q n c, .slice sa k sc]] w0 fun en w' => en = .returned (.bool false) ∧ Below w0.heap.size w0 w'))
  have hvR : (bytesV R).length = 16 := by rw [bytesV_length]; exact hR.1
  unfold sless at h
  clear hu hd hl hsd hL hG
  go_enter Tryd.func31, Tryd.ntmps31
  go_upto_region 1 with (fail)
  generalize hw1 : World.alloc _ _ = W0
  have Kp : Blk W0 (w.heap.size + 1) 50 [.int .i64 F, .int .i64 S, .slice q n c, .slice sa k sc] := hw1 ▸ blk_new1 w _ _ _
  have Kr : Blk W0 w.heap.size 29 (bytesV R) := hw1 ▸ ((blk_new w _ _).alloc _)
  have KB : Below w.heap.size w W0 := hw1 ▸ (((Below.refl _ _).alloc (Nat.le_refl _) _).alloc (by simp) _)
  clear hw1
  go_wp2_with (first
    | (refine load_blk rfl 29 (.tmp 4) rfl Kr rfl Tryd.underlying29 (m := 16) (by kernel_rfl) hvR ?_)
    | (refine load_struct rfl 50 (.tmp 7) rfl Kp rfl Tryd.underlying50 (m := 4) (by kernel_rfl) rfl ?_)
    | (go_at_call 50; refine (HU.out _ KB).mono ?_; rintro en W2 ⟨rfl, hB2⟩))
  go_ret2
  exact ⟨rfl, link KB hB2⟩

set_option maxHeartbeats 4000000 in
set_option maxRecDepth 100000 in
theorem crange_yes (R : List Nat) (hR : Dgt R) (low hik : ByteArray) (h : sless hik low = false) (F S : Nat) (lf : List Lf) (b off : Nat) (n c : Nat) (sa : Option Addr) (k sc : Nat) (sd : List (List Nat)) (hd : Dgts sd) (hl : lf.length = n) (hn0 : 0 < n) (hFS : F + n ≤ S) (hS : S ≤ 4096) (hv : validM lf = 0) (hc : n ≤ c) (w : World) (hG : Glob w) (hL : Lvs w b off lf) (hsd : SdV w w.heap.size (.slice sa k sc) sd)
    (hu : underM R F S lf sd = true) :
    Calls Tryd.prog 31 #[.agg (bytesV R).toArray, .string low, .string hik, .agg #[.int .i64 (F : Int), .int .i64 (S : Int), .slice (some ⟨b, off, none⟩) n c, .slice sa k sc]] w
      fun en w' => ∃ v, en = .returned (.tuple #[v, .int .i64 (crangeM R low hik F S lf sd).2]) ∧ LvsV w' v (crangeM R low hik F S lf sd).1 ∧ Below w.heap.size w w' := by
  have hLo : ∀ V, Below w.heap.size w V → OwnL V (some ⟨b, off, none⟩) lf := fun V hB _ => ⟨b, off, rfl, hL.keep hB⟩
  have HU := Lib.hid (fun (w0 : World) (hB : Below w.heap.size w w0) => (hu ▸ under_any R hR F S lf (some ⟨b, off, none⟩) n c sa k sc sd hd hl (by omega) hc w0 (hG.keep hB) (hLo w0 hB) (hsd.self hB) : Calls Tryd.prog 50 #[.agg (bytesV R).toArray, .agg #[.int .i64 (F : Int), .int .i64 (S : Int), .slice (some ⟨b, off, none⟩) n c, .slice sa k sc]] w0 fun en w' => en = .returned (.bool true) ∧ Below w0.heap.size w0 w'))
  obtain ⟨_, _, hord⟩ := valid_zero hv
  have HF := Lib.hid (fun (w0 : World) (hB : Below w.heap.size w w0) => from_any lf (some ⟨b, off, none⟩) n c hl (by omega) hord low w0 (hLo w0 hB))
  have HT := Lib.hid (fun (w0 : World) (hB : Below w.heap.size w w0) => from_any lf (some ⟨b, off, none⟩) n c hl (by omega) hord hik w0 (hLo w0 hB))
  have hvR : (bytesV R).length = 16 := by rw [bytesV_length]; exact hR.1
  have hcm : crangeM R low hik F S lf sd = (if outR low hik F S lf then ([], 17) else ((lf.drop (fromM lf low)).take (fromM lf hik - fromM lf low), 0)) := by
    unfold crangeM
    rw [if_neg (by rw [h]; simp), if_pos hu]
    simp
  have hij := from_mono low hik h lf
  have hjn := fromM_le lf hik
  rw [hl] at hjn
  obtain ⟨p, hp⟩ : ∃ p, n - 1 = p := ⟨_, rfl⟩
  have hout : outR low hik F S lf = ((decide (0 < F) && !Op.bytesLess (kAt lf 0).toList low.toList) || (decide (F + n < S) && Op.bytesLess (kAt lf p).toList hik.toList)) := by unfold outR sless; rw [hl, hp]
  have hx0 : lf[0]? = some (lf[0]'(by omega)) := List.getElem?_eq_getElem (by omega)
  have hx1 : lf[p]? = some (lf[p]'(by omega)) := List.getElem?_eq_getElem (by omega)
  have hc0 : w.cell? ⟨b, off, none⟩ = some (.string (kAt lf 0)) := by
    have := (hL.at hx0).1
    unfold kAt
    rw [hx0]
    simpa using this
  have hc1 : w.cell? ⟨b, off + p * 2, none⟩ = some (.string (kAt lf p)) := by
    unfold kAt
    rw [hx1]
    exact (hL.at hx1).1
  have hbw := hL.1
  have hpl : ∀ i j, j ≤ n → ((lf.drop i).take (j - i)).length = j - i := by intro i j hj; rw [List.length_take, List.length_drop]; omega
  have HC : ∀ i j, i ≤ j → j ≤ n → ∃ o', (if c = i then some (⟨b, off, none⟩ : Addr) else some ⟨b, off + i * 2, none⟩) = some ⟨b, o', none⟩ ∧ ∀ V, Below w.heap.size w V → Calls Tryd.prog 53 #[.slice (some ⟨b, o', none⟩) (j - i) (c - i)] V fun e w' => ∃ g cap, e = .returned (.slice (some ⟨g, 0, none⟩) (j - i) cap) ∧ LvsV w' (.slice (some ⟨g, 0, none⟩) (j - i) cap) ((lf.drop i).take (j - i)) ∧ Below V.heap.size V w' := by
    intro i j hij hjn
    have hpl' := hpl i j hjn
    have fin : ∀ (V : World) (o' : Nat), Lvs V b o' ((lf.drop i).take (j - i)) → Calls Tryd.prog 53 #[.slice (some ⟨b, o', none⟩) (j - i) (c - i)] V fun e w' => ∃ g cap, e = .returned (.slice (some ⟨g, 0, none⟩) (j - i) cap) ∧ LvsV w' (.slice (some ⟨g, 0, none⟩) (j - i) cap) ((lf.drop i).take (j - i)) ∧ Below V.heap.size V w' := by
      intro V o' hLv
      refine (clone_any ((lf.drop i).take (j - i)) b o' (j - i) (c - i) hpl' (by omega) V hLv).mono ?_
      rintro e w' ⟨g, cap, rfl, h1, h2, h3, h4⟩
      exact ⟨g, cap, rfl, ⟨_, _, by rw [hpl'], by rw [hpl']; exact h2, fun _ => ⟨g, 0, rfl, h3⟩⟩, h4⟩
    by_cases hci : c = i
    · refine ⟨off, if_pos hci, fun V hB => fin V off ⟨Nat.lt_of_lt_of_le hbw hB.size, fun t x hx => ?_⟩⟩
      have := (List.getElem?_eq_some_iff.1 hx).1
      omega
    · exact ⟨off + i * 2, if_neg hci, fun V hB => fin V _ (by rw [Nat.mul_comm i 2]; exact ((hL.keep hB).drop i).take (j - i))⟩
  have hwp : IntKind.i64.wrap ((n : Int) - 1) = (p : Int) := by
    rw [show ((n : Int) - 1) = (p : Int) by omega]
    simp [IntKind.wrap, IntKind.signed, IntKind.bits]
    omega
  have hwq : wrap64 ((n : Int) - 1) = (p : Int) := by unfold wrap64; omega
  have hpn : p < n := by omega
  unfold sless at h
  generalize crangeM R low hik F S lf sd = CM at hcm ⊢
  generalize outR low hik F S lf = ou at hcm hout
  generalize kAt lf 0 = k0 at hc0 hout
  generalize kAt lf p = k1 at hc1 hout
  generalize fromM lf low = i at HF hij hcm
  generalize fromM lf hik = j at HT hij hjn hcm
  have hcm2 := Lib.hid hcm
  obtain ⟨o', ho', HC2⟩ := HC i j hij hjn
  have HO := Lib.hid ho'
  have HCl := Lib.hid HC2
  generalize (lf.drop i).take (j - i) = part at HCl hcm2
  have hjc : j ≤ c := by omega
  clear hu hd hl hsd hL hLo hG hord hv hx0 hx1 hp hpl hcm HC HC2 ho'
  go_enter Tryd.func31, Tryd.ntmps31
  go_upto_region 1 with (fail)
  generalize hw1 : World.alloc _ _ = W0
  have Kp : Blk W0 (w.heap.size + 1) 50 [.int .i64 (F : Int), .int .i64 (S : Int), .slice (some ⟨b, off, none⟩) n c, .slice sa k sc] := hw1 ▸ blk_new1 w _ _ _
  have Kr : Blk W0 w.heap.size 29 (bytesV R) := hw1 ▸ ((blk_new w _ _).alloc _)
  have KB : Below w.heap.size w W0 := hw1 ▸ (((Below.refl _ _).alloc (Nat.le_refl _) _).alloc (by simp) _)
  clear hw1
  go_upto_region 5 with (first
    | (refine load_blk rfl 29 (.tmp 4) rfl Kr rfl Tryd.underlying29 (m := 16) (by kernel_rfl) hvR ?_)
    | (refine load_struct rfl 50 (.tmp 7) rfl Kp rfl Tryd.underlying50 (m := 4) (by kernel_rfl) rfl ?_)
    | (go_at_call 50; refine (HU.out _ KB).mono ?_; rintro en W2 ⟨rfl, hB2⟩))
  have Kp2 := Kp.keep hB2
  have KB2 := link KB hB2
  clear Kp Kr KB hB2 HU h
  have c0 := Kp2.cell (j := 0) rfl
  have c1 := Kp2.cell (j := 1) rfl
  have c2 := Kp2.cell (j := 2) rfl
  have cx := (KB2.cell hbw).trans hc0
  have cy := (KB2.cell hbw).trans hc1
  clear hc0 hc1
  rcases ou with _ | _
  · have key : (¬ 0 < F ∨ 0 < F ∧ Op.bytesLess k0.toList low.toList = true) ∧ (¬ F + n < S ∨ F + n < S ∧ Op.bytesLess k1.toList hik.toList = false) := by
      rcases Nat.eq_zero_or_pos F with hf | hf <;> rcases e0 : Op.bytesLess k0.toList low.toList with _ | _ <;> rcases e1 : Op.bytesLess k1.toList hik.toList with _ | _ <;> simp [e0, e1, hf] at hout ⊢ <;> omega
    clear hout
    obtain ⟨key1, key2⟩ := key
    rcases key1 with h1 | ⟨h1, h2⟩ <;> rcases key2 with h3 | ⟨h3, h4⟩
    all_goals
      go_upto_region 8 with (fail)
      have hHeld : True := trivial
      refine wp_region_held_drew (S := fun w' => Below W2.drew.heap.size W2.drew w') (by kernel_rfl) (Below.refl _ _) (fun _ => ?_)
      have hHeld : Below W2.drew.heap.size W2.drew W2.drew := Below.refl _ _
      have C2 : ∀ w', Below W2.drew.heap.size W2.drew w' → w'.cell? ⟨w.heap.size + 1, 2, none⟩ = some (.slice (some ⟨b, off, none⟩) n c) := fun w' h => (h.cell Kp2.lt).trans (Kp2.cell (j := 2) rfl)
      have KB3 := below_drew KB2
      clear c0 c1 c2 cx cy
      generalize W2.drew = V0 at hHeld C2 KB3 ⊢
      refine wpAnyH_take (i := 0) (oi := ⟨some 53, .fieldAddr 50 (.tmp 7) 2, 0, "merkle.go:201", #[], none⟩) (v := .pointer (some ⟨w.heap.size + 1, 2, none⟩)) rfl (by kernel_rfl) (by kernel_rfl) (by kernel_rfl) (fun _ _ _ h => h) (Or.inl ⟨by rfl, fun w' hSw => by go_simp⟩) hHeld ?_
      try simp only [Act.put, List.setIfInBounds_toArray, List.set_cons_zero, List.set_cons_succ]
      refine wpAnyH_take (i := 1) (oi := ⟨some 54, .load 33 (.tmp 53), 33, "merkle.go:201", #[⟨0, .data⟩], none⟩) (v := .slice (some ⟨b, off, none⟩) n c) rfl (by kernel_rfl) (by kernel_rfl) (by kernel_rfl) (fun _ _ _ h => h) (Or.inl ⟨by rfl, fun w' hSw => by have hc := C2 w' hSw; go_simp⟩) hHeld ?_
      try simp only [Act.put, List.setIfInBounds_toArray, List.set_cons_zero, List.set_cons_succ]
      refine wpAnyH_take (i := 2) (oi := ⟨some 55, .fieldAddr 50 (.tmp 7) 2, 0, "merkle.go:201", #[], none⟩) (v := .pointer (some ⟨w.heap.size + 1, 2, none⟩)) rfl (by kernel_rfl) (by kernel_rfl) (by kernel_rfl) (fun _ _ _ h => h) (Or.inl ⟨by rfl, fun w' hSw => by go_simp⟩) hHeld ?_
      try simp only [Act.put, List.setIfInBounds_toArray, List.set_cons_zero, List.set_cons_succ]
      refine wpAnyH_take (i := 3) (oi := ⟨some 56, .load 33 (.tmp 55), 33, "merkle.go:201", #[⟨2, .data⟩], none⟩) (v := .slice (some ⟨b, off, none⟩) n c) rfl (by kernel_rfl) (by kernel_rfl) (by kernel_rfl) (fun _ _ _ h => h) (Or.inl ⟨by rfl, fun w' hSw => by have hc := C2 w' hSw; go_simp⟩) hHeld ?_
      try simp only [Act.put, List.setIfInBounds_toArray, List.set_cons_zero, List.set_cons_succ]
      refine wpAnyH_take (i := 6) (oi := ⟨some 59, .fieldAddr 50 (.tmp 7) 2, 0, "merkle.go:201", #[], none⟩) (v := .pointer (some ⟨w.heap.size + 1, 2, none⟩)) rfl (by kernel_rfl) (by kernel_rfl) (by kernel_rfl) (fun _ _ _ h => h) (Or.inl ⟨by rfl, fun w' hSw => by go_simp⟩) hHeld ?_
      try simp only [Act.put, List.setIfInBounds_toArray, List.set_cons_zero, List.set_cons_succ]
      refine wpAnyH_take (i := 7) (oi := ⟨some 60, .load 33 (.tmp 59), 33, "merkle.go:201", #[⟨6, .data⟩], none⟩) (v := .slice (some ⟨b, off, none⟩) n c) rfl (by kernel_rfl) (by kernel_rfl) (by kernel_rfl) (fun _ _ _ h => h) (Or.inl ⟨by rfl, fun w' hSw => by have hc := C2 w' hSw; go_simp⟩) hHeld ?_
      try simp only [Act.put, List.setIfInBounds_toArray, List.set_cons_zero, List.set_cons_succ]
      refine wpAnyH_take (i := 4) (oi := ⟨some 57, .move (.tmp 1), 9, "merkle.go:201", #[], none⟩) (v := .string low) rfl (by kernel_rfl) (by kernel_rfl) (by kernel_rfl) (fun _ _ _ h => h) (Or.inl ⟨by rfl, fun w' hSw => by go_simp⟩) hHeld ?_
      try simp only [Act.put, List.setIfInBounds_toArray, List.set_cons_zero, List.set_cons_succ]
      refine wpAnyH_take (i := 8) (oi := ⟨some 61, .move (.tmp 2), 9, "merkle.go:201", #[], none⟩) (v := .string hik) rfl (by kernel_rfl) (by kernel_rfl) (by kernel_rfl) (fun _ _ _ h => h) (Or.inl ⟨by rfl, fun w' hSw => by go_simp⟩) hHeld ?_
      try simp only [Act.put, List.setIfInBounds_toArray, List.set_cons_zero, List.set_cons_succ]
      refine wpAnyH_ready (rs := [5]) (by kernel_rfl) (by simp) ?_
      refine AllReadyH.cons (o := ⟨some 58, .call { callee := .value (.func 45), args := #[.tmp 56, .tmp 57], argTypes := #[33, 9] }, 3, "merkle.go:201", #[⟨3, .data⟩, ⟨4, .data⟩], none⟩) rfl (fun K hK => ?_) AllReadyH.nil
      rw [if_pos (by rfl)]
      go_simp
      refine (HF.out V0 KB3).mono ?_
      rintro en V1 ⟨rfl, hB1⟩
      dsimp only
      refine hK.out _ _ (hB1) (fun hHeld => ?_)
      clear hK K
      try simp only [Act.put, List.setIfInBounds_toArray, List.set_cons_zero, List.set_cons_succ]
      refine wpAnyH_ready (rs := [9]) (by kernel_rfl) (by simp) ?_
      refine AllReadyH.cons (o := ⟨some 62, .call { callee := .value (.func 45), args := #[.tmp 60, .tmp 61], argTypes := #[33, 9] }, 3, "merkle.go:201", #[⟨7, .data⟩, ⟨8, .data⟩, ⟨5, .chain⟩], none⟩) rfl (fun K hK => ?_) AllReadyH.nil
      rw [if_pos (by rfl)]
      go_simp
      refine (HT.out V1 (link KB3 hB1)).mono ?_
      rintro en V2 ⟨rfl, hB2⟩
      dsimp only
      refine hK.out _ _ (link hB1 hB2) (fun hHeld => ?_)
      clear hK K
      try simp only [Act.put, List.setIfInBounds_toArray, List.set_cons_zero, List.set_cons_succ]
      refine wpAnyH_take (i := 10) (oi := ⟨some 63, .slice 33 (.tmp 54) (some (.tmp 58)) (some (.tmp 62)) none, 33, "merkle.go:201", #[⟨1, .data⟩, ⟨5, .data⟩, ⟨9, .data⟩], none⟩) (v := .slice (some ⟨b, o', none⟩) (j - i) (c - i)) rfl (by kernel_rfl) (by kernel_rfl) (by kernel_rfl) (fun _ _ _ h => h) (Or.inl ⟨by rfl, fun w' hSw => by go_simp; exact HO.out⟩) hHeld ?_
      try simp only [Act.put, List.setIfInBounds_toArray, List.set_cons_zero, List.set_cons_succ]
      refine wpAnyH_ready (rs := [11]) (by kernel_rfl) (by simp) ?_
      refine AllReadyH.cons (o := ⟨some 64, .call { callee := .value (.func 53), args := #[.tmp 63], argTypes := #[33] }, 33, "merkle.go:201", #[⟨10, .data⟩, ⟨9, .chain⟩], none⟩) rfl (fun K hK => ?_) AllReadyH.nil
      rw [if_pos (by rfl)]
      go_simp
      refine (HCl.out V2 (link (link KB3 hB1) hB2)).mono ?_
      rintro en V3 ⟨g3, cap3, rfl, hv3, hB3⟩
      dsimp only
      refine hK.out _ _ (link (link hB1 hB2) hB3) (fun hHeld => ?_)
      clear hK K
      try simp only [Act.put, List.setIfInBounds_toArray, List.set_cons_zero, List.set_cons_succ]
      refine wpAnyH_ready (rs := [12]) (by kernel_rfl) (by simp) ?_
      refine AllReadyH.cons (o := ⟨some 8, .assign (.tmp 64), 33, "merkle.go:201", #[⟨11, .data⟩, ⟨11, .chain⟩, ⟨0, .phase⟩, ⟨1, .phase⟩, ⟨2, .phase⟩, ⟨3, .phase⟩, ⟨4, .phase⟩, ⟨5, .phase⟩, ⟨6, .phase⟩, ⟨7, .phase⟩, ⟨8, .phase⟩, ⟨9, .phase⟩, ⟨10, .phase⟩, ⟨11, .phase⟩], none⟩) rfl (fun K hK => ?_) AllReadyH.nil
      go_simp
      refine hK.out _ _ (hHeld) (fun hHeld => ?_)
      clear hK K
      try simp only [Act.put, List.setIfInBounds_toArray, List.set_cons_zero, List.set_cons_succ]
      refine wpAnyH_ready (rs := [13]) (by kernel_rfl) (by simp) ?_
      refine AllReadyH.cons (o := ⟨some 9, .assign (.const (Value.int IntKind.i64 0)), 30, "merkle.go:201", #[⟨12, .chain⟩, ⟨0, .phase⟩, ⟨1, .phase⟩, ⟨2, .phase⟩, ⟨3, .phase⟩, ⟨4, .phase⟩, ⟨5, .phase⟩, ⟨6, .phase⟩, ⟨7, .phase⟩, ⟨8, .phase⟩, ⟨9, .phase⟩, ⟨10, .phase⟩, ⟨11, .phase⟩, ⟨12, .phase⟩], none⟩) rfl (fun K hK => ?_) AllReadyH.nil
      go_simp
      refine hK.out _ _ (hHeld) (fun hHeld => ?_)
      clear hK K
      try simp only [Act.put, List.setIfInBounds_toArray, List.set_cons_zero, List.set_cons_succ]
      refine wpAnyH_done (by kernel_rfl) ?_ _
      clear hHeld
      go_wp2
      go_ret2
      exact ⟨_, by rw [hcm2.out]; rfl, by rw [hcm2.out]; exact hv3, link (link (link KB3 hB1) hB2) hB3⟩
  · have key : (0 < F ∧ Op.bytesLess k0.toList low.toList = false) ∨ (¬ 0 < F ∧ F + n < S ∧ Op.bytesLess k1.toList hik.toList = true) ∨ (0 < F ∧ Op.bytesLess k0.toList low.toList = true ∧ F + n < S ∧ Op.bytesLess k1.toList hik.toList = true) := by
      rcases Nat.eq_zero_or_pos F with hf | hf <;> rcases e0 : Op.bytesLess k0.toList low.toList with _ | _ <;> rcases e1 : Op.bytesLess k1.toList hik.toList with _ | _ <;> simp [e0, e1, hf] at hout ⊢ <;> omega
    clear hout
    rcases key with ⟨h1, h2⟩ | ⟨h1, h2, h3⟩ | ⟨h1, h2, h3, h4⟩
    all_goals
      go_wp2
      go_ret2
      exact ⟨_, by rw [hcm2.out]; rfl, by rw [hcm2.out]; exact LvsV.nil _, KB2⟩

set_option maxHeartbeats 4000000 in
set_option maxRecDepth 100000 in
theorem crange_zero (R : List Nat) (hR : Dgt R) (low hik : ByteArray) (h : sless hik low = false) (sa : Option Addr) (k sc : Nat) (sd : List (List Nat)) (hd : Dgts sd) (w : World) (hG : Glob w) (hsd : SdV w w.heap.size (.slice sa k sc) sd)
    (hu : underM R 0 0 [] sd = true) :
    Calls Tryd.prog 31 #[.agg (bytesV R).toArray, .string low, .string hik, .agg #[.int .i64 0, .int .i64 0, .slice none 0 0, .slice sa k sc]] w
      fun en w' => en = .returned (.tuple #[.slice none 0 0, .int .i64 0]) ∧ Below w.heap.size w w' := by
  have HU := Lib.hid (fun (w0 : World) (hB : Below w.heap.size w w0) => (hu ▸ under_any R hR 0 0 [] none 0 0 sa k sc sd hd rfl (by omega) (by omega) w0 (hG.keep hB) (fun h => absurd rfl h) (hsd.self hB) : Calls Tryd.prog 50 #[.agg (bytesV R).toArray, .agg #[.int .i64 0, .int .i64 0, .slice none 0 0, .slice sa k sc]] w0 fun en w' => en = .returned (.bool true) ∧ Below w0.heap.size w0 w'))
  have HF := Lib.hid (fun (w0 : World) => (show _ from from_any [] none 0 0 rfl (by omega) rfl low w0 (fun h => absurd rfl h) : Calls Tryd.prog 45 #[.slice none 0 0, .string low] w0 fun e w' => e = .returned (.int .i64 0) ∧ Below w0.heap.size w0 w'))
  have HT := Lib.hid (fun (w0 : World) => (show _ from from_any [] none 0 0 rfl (by omega) rfl hik w0 (fun h => absurd rfl h) : Calls Tryd.prog 45 #[.slice none 0 0, .string hik] w0 fun e w' => e = .returned (.int .i64 0) ∧ Below w0.heap.size w0 w'))
  have HN := Lib.hid (fun (w0 : World) => clone_nil 0 0 w0)
  have hvR : (bytesV R).length = 16 := by rw [bytesV_length]; exact hR.1
  unfold sless at h
  clear hu hd hsd hG
  go_enter Tryd.func31, Tryd.ntmps31
  go_upto_region 1 with (fail)
  generalize hw1 : World.alloc _ _ = W0
  have Kp : Blk W0 (w.heap.size + 1) 50 [.int .i64 0, .int .i64 0, .slice none 0 0, .slice sa k sc] := hw1 ▸ blk_new1 w _ _ _
  have Kr : Blk W0 w.heap.size 29 (bytesV R) := hw1 ▸ ((blk_new w _ _).alloc _)
  have KB : Below w.heap.size w W0 := hw1 ▸ (((Below.refl _ _).alloc (Nat.le_refl _) _).alloc (by simp) _)
  clear hw1
  go_upto_region 5 with (first
    | (refine load_blk rfl 29 (.tmp 4) rfl Kr rfl Tryd.underlying29 (m := 16) (by kernel_rfl) hvR ?_)
    | (refine load_struct rfl 50 (.tmp 7) rfl Kp rfl Tryd.underlying50 (m := 4) (by kernel_rfl) rfl ?_)
    | (go_at_call 50; refine (HU.out _ KB).mono ?_; rintro en W2 ⟨rfl, hB2⟩))
  have Kp2 := Kp.keep hB2
  have KB2 := link KB hB2
  clear Kp Kr KB hB2 HU h
  have c0 := Kp2.cell (j := 0) rfl
  have c1 := Kp2.cell (j := 1) rfl
  have c2 := Kp2.cell (j := 2) rfl
  go_upto_region 8 with (fail)
  have hHeld : True := trivial
  refine wp_region_held_drew (S := fun w' => Below W2.drew.heap.size W2.drew w') (by kernel_rfl) (Below.refl _ _) (fun _ => ?_)
  have hHeld : Below W2.drew.heap.size W2.drew W2.drew := Below.refl _ _
  have C2 : ∀ w', Below W2.drew.heap.size W2.drew w' → w'.cell? ⟨w.heap.size + 1, 2, none⟩ = some (.slice none 0 0) := fun w' h => (h.cell Kp2.lt).trans (Kp2.cell (j := 2) rfl)
  have KB3 := below_drew KB2
  clear c0 c1 c2
  generalize W2.drew = V0 at hHeld C2 KB3 ⊢
  refine wpAnyH_take (i := 0) (oi := ⟨some 53, .fieldAddr 50 (.tmp 7) 2, 0, "merkle.go:201", #[], none⟩) (v := .pointer (some ⟨w.heap.size + 1, 2, none⟩)) rfl (by kernel_rfl) (by kernel_rfl) (by kernel_rfl) (fun _ _ _ h => h) (Or.inl ⟨by rfl, fun w' hSw => by go_simp⟩) hHeld ?_
  try simp only [Act.put, List.setIfInBounds_toArray, List.set_cons_zero, List.set_cons_succ]
  refine wpAnyH_take (i := 1) (oi := ⟨some 54, .load 33 (.tmp 53), 33, "merkle.go:201", #[⟨0, .data⟩], none⟩) (v := .slice none 0 0) rfl (by kernel_rfl) (by kernel_rfl) (by kernel_rfl) (fun _ _ _ h => h) (Or.inl ⟨by rfl, fun w' hSw => by have hc := C2 w' hSw; go_simp⟩) hHeld ?_
  try simp only [Act.put, List.setIfInBounds_toArray, List.set_cons_zero, List.set_cons_succ]
  refine wpAnyH_take (i := 2) (oi := ⟨some 55, .fieldAddr 50 (.tmp 7) 2, 0, "merkle.go:201", #[], none⟩) (v := .pointer (some ⟨w.heap.size + 1, 2, none⟩)) rfl (by kernel_rfl) (by kernel_rfl) (by kernel_rfl) (fun _ _ _ h => h) (Or.inl ⟨by rfl, fun w' hSw => by go_simp⟩) hHeld ?_
  try simp only [Act.put, List.setIfInBounds_toArray, List.set_cons_zero, List.set_cons_succ]
  refine wpAnyH_take (i := 3) (oi := ⟨some 56, .load 33 (.tmp 55), 33, "merkle.go:201", #[⟨2, .data⟩], none⟩) (v := .slice none 0 0) rfl (by kernel_rfl) (by kernel_rfl) (by kernel_rfl) (fun _ _ _ h => h) (Or.inl ⟨by rfl, fun w' hSw => by have hc := C2 w' hSw; go_simp⟩) hHeld ?_
  try simp only [Act.put, List.setIfInBounds_toArray, List.set_cons_zero, List.set_cons_succ]
  refine wpAnyH_take (i := 6) (oi := ⟨some 59, .fieldAddr 50 (.tmp 7) 2, 0, "merkle.go:201", #[], none⟩) (v := .pointer (some ⟨w.heap.size + 1, 2, none⟩)) rfl (by kernel_rfl) (by kernel_rfl) (by kernel_rfl) (fun _ _ _ h => h) (Or.inl ⟨by rfl, fun w' hSw => by go_simp⟩) hHeld ?_
  try simp only [Act.put, List.setIfInBounds_toArray, List.set_cons_zero, List.set_cons_succ]
  refine wpAnyH_take (i := 7) (oi := ⟨some 60, .load 33 (.tmp 59), 33, "merkle.go:201", #[⟨6, .data⟩], none⟩) (v := .slice none 0 0) rfl (by kernel_rfl) (by kernel_rfl) (by kernel_rfl) (fun _ _ _ h => h) (Or.inl ⟨by rfl, fun w' hSw => by have hc := C2 w' hSw; go_simp⟩) hHeld ?_
  try simp only [Act.put, List.setIfInBounds_toArray, List.set_cons_zero, List.set_cons_succ]
  refine wpAnyH_take (i := 4) (oi := ⟨some 57, .move (.tmp 1), 9, "merkle.go:201", #[], none⟩) (v := .string low) rfl (by kernel_rfl) (by kernel_rfl) (by kernel_rfl) (fun _ _ _ h => h) (Or.inl ⟨by rfl, fun w' hSw => by go_simp⟩) hHeld ?_
  try simp only [Act.put, List.setIfInBounds_toArray, List.set_cons_zero, List.set_cons_succ]
  refine wpAnyH_take (i := 8) (oi := ⟨some 61, .move (.tmp 2), 9, "merkle.go:201", #[], none⟩) (v := .string hik) rfl (by kernel_rfl) (by kernel_rfl) (by kernel_rfl) (fun _ _ _ h => h) (Or.inl ⟨by rfl, fun w' hSw => by go_simp⟩) hHeld ?_
  try simp only [Act.put, List.setIfInBounds_toArray, List.set_cons_zero, List.set_cons_succ]
  refine wpAnyH_ready (rs := [5]) (by kernel_rfl) (by simp) ?_
  refine AllReadyH.cons (o := ⟨some 58, .call { callee := .value (.func 45), args := #[.tmp 56, .tmp 57], argTypes := #[33, 9] }, 3, "merkle.go:201", #[⟨3, .data⟩, ⟨4, .data⟩], none⟩) rfl (fun K hK => ?_) AllReadyH.nil
  rw [if_pos (by rfl)]
  go_simp
  refine (HF.out V0).mono ?_
  rintro en V1 ⟨rfl, hB1⟩
  dsimp only
  refine hK.out _ _ (hB1) (fun hHeld => ?_)
  clear hK K
  try simp only [Act.put, List.setIfInBounds_toArray, List.set_cons_zero, List.set_cons_succ]
  refine wpAnyH_ready (rs := [9]) (by kernel_rfl) (by simp) ?_
  refine AllReadyH.cons (o := ⟨some 62, .call { callee := .value (.func 45), args := #[.tmp 60, .tmp 61], argTypes := #[33, 9] }, 3, "merkle.go:201", #[⟨7, .data⟩, ⟨8, .data⟩, ⟨5, .chain⟩], none⟩) rfl (fun K hK => ?_) AllReadyH.nil
  rw [if_pos (by rfl)]
  go_simp
  refine (HT.out V1).mono ?_
  rintro en V2 ⟨rfl, hB2⟩
  dsimp only
  refine hK.out _ _ (link hB1 hB2) (fun hHeld => ?_)
  clear hK K
  try simp only [Act.put, List.setIfInBounds_toArray, List.set_cons_zero, List.set_cons_succ]
  refine wpAnyH_take (i := 10) (oi := ⟨some 63, .slice 33 (.tmp 54) (some (.tmp 58)) (some (.tmp 62)) none, 33, "merkle.go:201", #[⟨1, .data⟩, ⟨5, .data⟩, ⟨9, .data⟩], none⟩) (v := .slice none 0 0) rfl (by kernel_rfl) (by kernel_rfl) (by kernel_rfl) (fun _ _ _ h => h) (Or.inl ⟨by rfl, fun w' hSw => by go_simp⟩) hHeld ?_
  try simp only [Act.put, List.setIfInBounds_toArray, List.set_cons_zero, List.set_cons_succ]
  refine wpAnyH_ready (rs := [11]) (by kernel_rfl) (by simp) ?_
  refine AllReadyH.cons (o := ⟨some 64, .call { callee := .value (.func 53), args := #[.tmp 63], argTypes := #[33] }, 33, "merkle.go:201", #[⟨10, .data⟩, ⟨9, .chain⟩], none⟩) rfl (fun K hK => ?_) AllReadyH.nil
  rw [if_pos (by rfl)]
  go_simp
  refine (HN.out V2).mono ?_
  rintro en V3 ⟨rfl, hV3⟩
  rw [hV3]
  clear hV3 V3
  dsimp only
  refine hK.out _ _ (link hB1 hB2) (fun hHeld => ?_)
  clear hK K
  try simp only [Act.put, List.setIfInBounds_toArray, List.set_cons_zero, List.set_cons_succ]
  refine wpAnyH_ready (rs := [12]) (by kernel_rfl) (by simp) ?_
  refine AllReadyH.cons (o := ⟨some 8, .assign (.tmp 64), 33, "merkle.go:201", #[⟨11, .data⟩, ⟨11, .chain⟩, ⟨0, .phase⟩, ⟨1, .phase⟩, ⟨2, .phase⟩, ⟨3, .phase⟩, ⟨4, .phase⟩, ⟨5, .phase⟩, ⟨6, .phase⟩, ⟨7, .phase⟩, ⟨8, .phase⟩, ⟨9, .phase⟩, ⟨10, .phase⟩, ⟨11, .phase⟩], none⟩) rfl (fun K hK => ?_) AllReadyH.nil
  go_simp
  refine hK.out _ _ (hHeld) (fun hHeld => ?_)
  clear hK K
  try simp only [Act.put, List.setIfInBounds_toArray, List.set_cons_zero, List.set_cons_succ]
  refine wpAnyH_ready (rs := [13]) (by kernel_rfl) (by simp) ?_
  refine AllReadyH.cons (o := ⟨some 9, .assign (.const (Value.int IntKind.i64 0)), 30, "merkle.go:201", #[⟨12, .chain⟩, ⟨0, .phase⟩, ⟨1, .phase⟩, ⟨2, .phase⟩, ⟨3, .phase⟩, ⟨4, .phase⟩, ⟨5, .phase⟩, ⟨6, .phase⟩, ⟨7, .phase⟩, ⟨8, .phase⟩, ⟨9, .phase⟩, ⟨10, .phase⟩, ⟨11, .phase⟩, ⟨12, .phase⟩], none⟩) rfl (fun K hK => ?_) AllReadyH.nil
  go_simp
  refine hK.out _ _ (hHeld) (fun hHeld => ?_)
  clear hK K
  try simp only [Act.put, List.setIfInBounds_toArray, List.set_cons_zero, List.set_cons_succ]
  refine wpAnyH_done (by kernel_rfl) ?_ _
  clear hHeld
  go_wp2
  go_ret2
  exact ⟨rfl, link (link KB3 hB1) hB2⟩

theorem crange_any (R : List Nat) (hR : Dgt R) (low hik : ByteArray) (F S : Int) (lf : List Lf) (q : Option Addr) (n c : Nat) (hq : n = 0 → q = none ∧ c = 0) (sa : Option Addr) (k sc : Nat) (sd : List (List Nat)) (hd : Dgts sd) (hl : lf.length = n) (hn : n ≤ 281474976710656) (hc : n ≤ c) (w : World) (hG : Glob w) (hL : OwnL w q lf) (hsd : SdV w w.heap.size (.slice sa k sc) sd) :
    Calls Tryd.prog 31 #[.agg (bytesV R).toArray, .string low, .string hik, .agg #[.int .i64 F, .int .i64 S, .slice q n c, .slice sa k sc]] w
      fun en w' => ∃ v, en = .returned (.tuple #[v, .int .i64 (crangeM R low hik F S lf sd).2]) ∧ LvsV w' v (crangeM R low hik F S lf sd).1 ∧ Below w.heap.size w w' := by
  rcases h : sless hik low with _ | _
  · rcases hu : underM R F S lf sd with _ | _
    · have e : crangeM R low hik F S lf sd = ([], 17) := by unfold crangeM; rw [if_neg (by rw [h]; simp), if_neg (by rw [hu]; simp)]
      rw [e]
      refine (crange_no R hR low hik h F S lf q n c sa k sc sd hd hl hn hc w hG hL hsd hu).mono ?_
      rintro en w' ⟨rfl, hB⟩
      exact ⟨_, rfl, LvsV.nil _, hB⟩
    · obtain ⟨F', S', rfl, rfl, h1, h2, h3⟩ := under_facts hu
      by_cases hn0 : n = 0
      · obtain ⟨rfl, rfl⟩ := hq hn0
        subst hn0
        obtain rfl := List.eq_nil_of_length_eq_zero hl
        have hS0 : S' = 0 := by
          apply Classical.byContradiction
          intro hS
          unfold underM at hu
          split at hu
          · cases hu
          · rw [if_neg (by omega), if_pos rfl] at hu
            cases hu
        subst hS0
        obtain rfl : F' = 0 := by simp at h1; omega
        have e : crangeM R low hik ((0 : Nat) : Int) ((0 : Nat) : Int) [] sd = ([], 0) := by
          unfold crangeM
          rw [if_neg (by rw [h]; simp), if_pos hu, if_neg (by simp [outR])]
          simp
        rw [e]
        refine (crange_zero R hR low hik h sa k sc sd hd w hG hsd hu).mono ?_
        rintro en w' ⟨rfl, hB⟩
        exact ⟨_, rfl, LvsV.nil _, hB⟩
      · obtain ⟨b, off, rfl, hL2⟩ := hL (by intro h; rw [h] at hl; simp at hl; omega)
        exact crange_yes R hR low hik h F' S' lf b off n c sa k sc sd hd hl (by omega) (by omega) h2 h3 hc w hG hL2 hsd hu
  · have e : crangeM R low hik F S lf sd = ([], 5) := by unfold crangeM; rw [if_pos h]
    rw [e]
    refine (crange_bad R low hik h F S q n c sa k sc w).mono ?_
    rintro en w' ⟨rfl, hB⟩
    exact ⟨_, rfl, LvsV.nil _, hB⟩

end Go.Proofs.YtfhfmdnimebegaaDoor

/-
  passimlaw04.five and passimlaw04.lives: the examples of the section.
-/
namespace Go.Proofs.YtfhfmdnimebegaaDoor
open Go.RowKit
set_option linter.unusedVariables false
set_option linter.unusedSimpArgs false

/-- The leaves of the examples. -/
def ls5 : List Lf := [(⟨#[97]⟩, ⟨#[49]⟩), (⟨#[99]⟩, ⟨#[50]⟩), (⟨#[100]⟩, ⟨#[51]⟩), (⟨#[102]⟩, ⟨#[52]⟩), (⟨#[103]⟩, ⟨#[53]⟩)]
theorem five_valid : validM ls5 = 0 := by decide +kernel
theorem five_any (w : World) : Calls Tryd.prog 44 #[] w fun e w' => ∃ g, e = .returned (.slice (some ⟨g, 0, none⟩) 5 5) ∧ Lvs w' g 0 ls5 ∧ Below w.heap.size w w' := by
  go_enter Tryd.func44, Tryd.ntmps44
  go_wp2
  go_ret
  refine ⟨_, rfl, ⟨by simp, fun i x hx => ?_⟩, (Below.refl _ _).alloc (Nat.le_refl _) _⟩
  match i, hx with
  | 0, hx => injection hx with hx; subst hx; constructor <;> simp
  | 1, hx => injection hx with hx; subst hx; constructor <;> simp
  | 2, hx => injection hx with hx; subst hx; constructor <;> simp
  | 3, hx => injection hx with hx; subst hx; constructor <;> simp
  | 4, hx => injection hx with hx; subst hx; constructor <;> simp

theorem OwnD.sdv {w : World} {B : Nat} {v : Value} {l : List (List Nat)} (h : OwnD w B v l) : ∃ sa sc, v = .slice sa l.length sc ∧ SdV w w.heap.size v l := by
  rcases h.2 with ⟨rfl, h0⟩ | ⟨g, cap, cur, rfl, hB, hg, hc, _, _, ht⟩
  · exact ⟨none, 0, by rw [h0], none, 0, by rw [h0], by omega, fun hn => absurd (List.eq_nil_of_length_eq_zero h0) hn⟩
  · have hlt : g < w.heap.size := (Array.getElem?_eq_some_iff.1 hg).1
    refine ⟨some ⟨g, 0, none⟩, cap, rfl, some ⟨g, 0, none⟩, cap, rfl, hc, fun _ => ⟨g, 0, rfl, hlt, hlt, fun j u hj => ?_⟩⟩
    rw [← ht, List.getElem?_take] at hj
    split at hj
    · rw [Nat.zero_add]
      exact Blk.cell (w := w) (b := g) (t := 29) (cs := cur.toList) hg hj
    · cases hj
/-- A proof's value with its memory. -/
def PV (w : World) (F n : Nat) (lf : List Lf) (sd : List (List Nat)) (q : Option Addr) (c : Nat) (sa : Option Addr) (sc : Nat) : Prop := OwnL w q lf ∧ lf.length ≤ c ∧ SdV w w.heap.size (.slice sa sd.length sc) sd
theorem PV.keep {w w' : World} {F n : Nat} {lf : List Lf} {sd : List (List Nat)} {q : Option Addr} {c : Nat} {sa : Option Addr} {sc : Nat} (h : PV w F n lf sd q c sa sc) (hB : Below w.heap.size w w') : PV w' F n lf sd q c sa sc := ⟨h.1.keep hB, h.2.1, h.2.2.self hB⟩
theorem PrfV.pv {w : World} {B F n : Nat} {lf : List Lf} {sd : List (List Nat)} {v : Value} (h : PrfV w B F n lf sd v) : ∃ q c sa sc, v = .agg #[.int .i64 (F : Int), .int .i64 (n : Int), .slice q lf.length c, .slice sa sd.length sc] ∧ PV w F n lf sd q c sa sc ∧ (lf = [] → q = none ∧ c = 0) := by
  obtain ⟨q, c, sv, rfl, h1, h2, _, hz, h4⟩ := h
  obtain ⟨sa, sc, rfl, h5⟩ := h4.sdv
  exact ⟨q, c, sa, sc, rfl, ⟨h1, h2, h5⟩, hz⟩
theorem new_struct (W : World) (z : Array Value) (t : TypeId) (cs : List Value) (hl : cs.length = z.size) : Below W.heap.size W ((W.alloc (.cells z t)).setCells W.heap.size 0 cs) ∧ Blk ((W.alloc (.cells z t)).setCells W.heap.size 0 cs) W.heap.size t cs :=
  ⟨(only_sets W.heap.size 0 _ cs).2.2 _ _ (Nat.le_refl _) ((Below.refl _ W).alloc (Nat.le_refl _) _), (blk_new W t z).all (by simpa using hl)⟩
theorem five_root : validM ls5 = 0 ∧ Dgt (rootL ls5) := ⟨five_valid, rootL_dgt _⟩

/-- The proofs of the examples. -/
def pC : List Lf := [(⟨#[99]⟩, ⟨#[50]⟩)]
def pX : List Lf := [(⟨#[100]⟩, ⟨#[51]⟩), (⟨#[102]⟩, ⟨#[52]⟩)]
def pH : List Lf := [(⟨#[103]⟩, ⟨#[53]⟩)]
def pR : List Lf := [(⟨#[97]⟩, ⟨#[49]⟩), (⟨#[99]⟩, ⟨#[50]⟩), (⟨#[100]⟩, ⟨#[51]⟩), (⟨#[102]⟩, ⟨#[52]⟩)]
def dC : List (List Nat) := sidesM ls5 1 2 0 5
def dX : List (List Nat) := sidesM ls5 2 4 0 5
def dH : List (List Nat) := sidesM ls5 4 5 0 5
def dR : List (List Nat) := sidesM ls5 0 4 0 5
theorem dC_len : dC.length = 3 := by decide +kernel
theorem dX_len : dX.length = 2 := by decide +kernel
theorem dH_len : dH.length = 1 := by decide +kernel
theorem dR_len : dR.length = 1 := by decide +kernel
theorem sides_dgts (ls : List Lf) (F e a b : Nat) (h : a < b) (hb : b ≤ ls.length) : Dgts (sidesM ls F e a b) := sidesF_dgt _ ls F e a b h hb
theorem uC : underM (rootL ls5) (1 : Int) (5 : Int) pC dC = true := under_of ls5 five_valid 1 2 (by decide) (by decide)
theorem uX : underM (rootL ls5) (2 : Int) (5 : Int) pX dX = true := under_of ls5 five_valid 2 4 (by decide) (by decide)
theorem uR : underM (rootL ls5) (0 : Int) (5 : Int) pR dR = true := under_of ls5 five_valid 0 4 (by decide) (by decide)
theorem kC : checkM (rootL ls5) ⟨#[99]⟩ 1 5 pC dC = (⟨#[50]⟩, true, 0) := by
  unfold checkM
  rw [if_pos uC]
  decide +kernel
theorem kE : checkM (rootL ls5) ⟨#[101]⟩ 2 5 pX dX = (ByteArray.empty, false, 0) := by
  unfold checkM
  rw [if_pos uX]
  decide +kernel
theorem kD : checkM (rootL ls5) ⟨#[100]⟩ 2 5 pX dX = (⟨#[51]⟩, true, 0) := by
  unfold checkM
  rw [if_pos uX]
  decide +kernel
theorem kN : checkM (rootL ls5) ⟨#[99]⟩ 2 5 pX dX = (ByteArray.empty, false, 17) := by
  unfold checkM
  rw [if_pos uX]
  decide +kernel
theorem kR : crangeM (rootL ls5) ⟨#[99]⟩ ⟨#[102]⟩ 0 5 pR dR = ([(⟨#[99]⟩, ⟨#[50]⟩), (⟨#[100]⟩, ⟨#[51]⟩)], 0) := by
  unfold crangeM
  rw [if_neg (by decide +kernel), if_pos uR]
  decide +kernel
theorem ex_prove (key : ByteArray) (F e : Nat) (part : List Lf) (sd : List (List Nat)) (m k : Nat) (hp : proveR ls5 key = (F, e)) (h1 : (ls5.drop F).take (e - F) = part) (h2 : sidesM ls5 F e 0 5 = sd) (hm : part.length = m) (hk : sd.length = k) (b : Nat) (w : World) (hG : Glob w) (hL : Lvs w b 0 ls5) :
    Calls Tryd.prog 21 #[.slice (some ⟨b, 0, none⟩) 5 5, .string key] w fun en w' => ∃ q c sa sc, en = .returned (.tuple #[.agg #[.int .i64 (F : Int), .int .i64 5, .slice q m c, .slice sa k sc], .int .i64 0]) ∧ PV w' F 5 part sd q c sa sc ∧ Below w.heap.size w w' := by
  have := prove_yes ls5 (some ⟨b, 0, none⟩) 5 5 rfl (by omega) (by omega) five_valid key w hG (fun _ => ⟨b, 0, rfl, hL⟩)
  rw [hp] at this
  dsimp only at this
  rw [h1, h2] at this
  refine this.mono ?_
  rintro en w' ⟨v, rfl, hP, hB⟩
  obtain ⟨q, c, sa, sc, rfl, hp, _⟩ := hP.pv
  exact ⟨q, c, sa, sc, by rw [hm, hk]; rfl, hp, hB⟩
theorem ex_range (b : Nat) (w : World) (hG : Glob w) (hL : Lvs w b 0 ls5) :
    Calls Tryd.prog 23 #[.slice (some ⟨b, 0, none⟩) 5 5, .string ⟨#[99]⟩, .string ⟨#[102]⟩] w fun en w' => ∃ q c sa sc, en = .returned (.tuple #[.agg #[.int .i64 0, .int .i64 5, .slice q 4 c, .slice sa 1 sc], .int .i64 0]) ∧ PV w' 0 5 pR dR q c sa sc ∧ Below w.heap.size w w' := by
  have := range_yes ls5 (some ⟨b, 0, none⟩) 5 5 rfl (by omega) (by omega) five_valid ⟨#[99]⟩ ⟨#[102]⟩ (by decide +kernel) w hG (fun _ => ⟨b, 0, rfl, hL⟩)
  rw [show rangeR ls5 ⟨#[99]⟩ ⟨#[102]⟩ = (0, 4) by decide +kernel] at this
  dsimp only at this
  rw [show (ls5.drop 0).take (4 - 0) = pR from rfl, show sidesM ls5 0 4 0 5 = dR from rfl] at this
  refine this.mono ?_
  rintro en w' ⟨v, rfl, hP, hB⟩
  obtain ⟨q, c, sa, sc, rfl, hp, _⟩ := hP.pv
  exact ⟨q, c, sa, sc, by rw [dR_len]; rfl, hp, hB⟩
theorem ex_check (key : ByteArray) (F : Nat) (part : List Lf) (sd : List (List Nat)) (m k : Nat) (a : ByteArray × Bool × Int) (hk : checkM (rootL ls5) key F 5 part sd = a) (hd : Dgts sd) (hm : part.length = m) (hkl : sd.length = k) (hm5 : m ≤ 5) (q : Option Addr) (c : Nat) (sa : Option Addr) (sc : Nat) (w : World) (hG : Glob w) (hP : PV w F 5 part sd q c sa sc) :
    Calls Tryd.prog 28 #[.agg (bytesV (rootL ls5)).toArray, .string key, .agg #[.int .i64 (F : Int), .int .i64 5, .slice q m c, .slice sa k sc]] w fun en w' => en = .returned (.tuple #[.string a.1, .bool a.2.1, .int .i64 a.2.2]) ∧ Below w.heap.size w w' := by
  rw [← hk]
  exact check_any (rootL ls5) (rootL_dgt _) key F 5 part q m c sa k sc sd hd hm (by omega) (by rw [← hm]; exact hP.2.1) w hG hP.1 (hkl ▸ hP.2.2)
theorem ex_crange (q : Option Addr) (c : Nat) (sa : Option Addr) (sc : Nat) (w : World) (hG : Glob w) (hP : PV w 0 5 pR dR q c sa sc) :
    Calls Tryd.prog 31 #[.agg (bytesV (rootL ls5)).toArray, .string ⟨#[99]⟩, .string ⟨#[102]⟩, .agg #[.int .i64 0, .int .i64 5, .slice q 4 c, .slice sa 1 sc]] w
      fun en w' => ∃ b off cc, en = .returned (.tuple #[.slice (some ⟨b, off, none⟩) 2 cc, .int .i64 0]) ∧ 2 ≤ cc ∧ w'.cell? ⟨b, off, none⟩ = some (.string ⟨#[99]⟩) ∧ w'.cell? ⟨b, off + 2 + 1, none⟩ = some (.string ⟨#[51]⟩) ∧ Below w.heap.size w w' := by
  have := crange_any (rootL ls5) (rootL_dgt _) ⟨#[99]⟩ ⟨#[102]⟩ 0 5 pR q 4 c (by omega) sa 1 sc dR (sides_dgts ls5 0 4 0 5 (by omega) (by decide)) rfl (by omega) (by have := hP.2.1; exact this) w hG hP.1 (dR_len ▸ hP.2.2)
  rw [kR] at this
  refine this.mono ?_
  rintro en w' ⟨v, rfl, ⟨q2, c2, rfl, hc2, hL⟩, hB⟩
  obtain ⟨b, off, rfl, hL2⟩ := hL (by simp)
  exact ⟨b, off, c2, rfl, hc2, (hL2.2 0 _ rfl).1, (by have := (hL2.2 1 _ rfl).2; simpa using this), hB⟩

end Go.Proofs.YtfhfmdnimebegaaDoor
