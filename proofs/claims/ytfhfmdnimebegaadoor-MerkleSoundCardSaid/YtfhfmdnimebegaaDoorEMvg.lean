/-
  MerkleSound, for all arguments.
  Conditions: the tables of the packages hash and passimref02 lie as the program lays them when the call begins (the card ties them to the text); no other.
-/
import Derived.Test.YtfhfmdnimebegaaDoorEw
import Derived.Test.YtfhfmdnimebegaaDoorEe
import Derived.Test.YtfhfmdnimebegaaDoorEa
import Derived.Test.YtfhfmdnimebegaaDoorE7
import Derived.Test.YtfhfmdnimebegaaDoorEMvf
import Derived.Deep.CutRange

namespace Go.Proofs.YtfhfmdnimebegaaDoor
open Go.RowKit
set_option linter.unusedVariables false
set_option linter.unusedSimpArgs false

/-- What the law calls right. -/
def rightB (cb : Bool) (hv : Int) (ca va : ByteArray) : Bool := (cb == decide (0 ≤ hv)) && (!cb || (ca.toList == va.toList))
theorem right_b {ls : List Lf} {key ca : ByteArray} {cb : Bool} {cz : Int} (h : Right ls key (ca, cb, cz)) : rightB cb (hasM ls key) ca (valAt ls (hasM ls key).toNat) = true := by
  obtain ⟨_, h | h⟩ := h
  · obtain ⟨h1, h2, h3⟩ := h
    dsimp only at h1 h3
    unfold rightB
    rw [h1, h3, decide_eq_true h2]
    simp
  · obtain ⟨h1, h2, _⟩ := h
    dsimp only at h1
    unfold rightB
    rw [h1, h2]
    rfl
theorem right_no {cb r0 r2 : Bool} {hv : Int} {ca va : ByteArray} (h2 : rightB cb hv ca va = r2) (h0 : (cb == decide (0 ≤ hv)) = r0) (h1 : (r0 && cb) = false) : r2 = r0 := by
  unfold rightB at h2
  rw [h0] at h2
  rw [← h2]
  rcases r0 with _ | _
  · rfl
  · rcases cb with _ | _
    · rfl
    · cases h1
theorem right_yes {cb r0 r2 : Bool} {hv : Int} {ca va : ByteArray} (h2 : rightB cb hv ca va = r2) (h0 : (cb == decide (0 ≤ hv)) = r0) (h1 : (r0 && cb) = true) : 0 ≤ hv ∧ r2 = (ca.toList == va.toList) := by
  unfold rightB at h2
  rw [h0] at h2
  rw [Bool.and_eq_true] at h1
  obtain ⟨rfl, rfl⟩ := h1
  refine ⟨by simpa using h0, by rw [← h2]; simp⟩
theorem has_cases (ls : List Lf) (key : ByteArray) : hasM ls key = -1 ∨ ∃ i : Nat, hasM ls key = (i : Int) ∧ i < ls.length := by
  unfold hasM
  split
  · rename_i j hj
    exact Or.inr ⟨j, rfl, (List.findIdx?_eq_some_iff_getElem.1 hj).1⟩
  · exact Or.inl rfl
theorem load_wanted3 {w : World} {ops : Array Oper} {rest : List Oper} {o : Oper} {a : Act} {Q : Exit → Act → World → Prop} (hw : Region.wanted o (yielded ops a.tmps) = true) (ty : TypeId) (x : Operand) (ho : o.op = .load ty x)
    (b off : Nat) (hx : a.eval x = .pointer (some ⟨b, off, none⟩)) (cs : List Value) (d : TypeDesc) (hc : w.rangeAt b off cs) (hu : Tryd.prog.underlying ty = some d) (hd : d.isRow = true) (hi : (Tryd.prog.info? ty).map (·.size) = some cs.length)
    (K : wpList Tryd.prog ops Q rest (a.put o.dst (.agg cs.toArray)) w) : wpList Tryd.prog ops Q (o :: rest) a w := by
  refine wpList_step fun K' hK => ?_
  rw [if_pos hw]
  exact wp_load_mid ty x ho b off hx cs d hc hu hd hi (hK _ _ K)
theorem inside_few (ls : List Lf) (s t : ByteArray) (h : ls.length ≤ 11) : (insideM ls s t).length ≤ 11 := by
  have := List.length_filter_le (fun x : Lf => !sless x.1 s && sless x.1 t) ls
  unfold insideM
  omega
theorem crange_few (RT : List Nat) (s t : ByteArray) (F S : Int) (lf : List Lf) (sd : List (List Nat)) (h : lf.length ≤ 1000000) : (crangeM RT s t F S lf sd).1.length ≤ 1000000 := by
  unfold crangeM
  split
  · exact Nat.zero_le _
  · split
    · split
      · exact Nat.zero_le _
      · show ((lf.drop _).take _).length ≤ _; rw [List.length_take, List.length_drop]; omega
    · exact Nat.zero_le _
theorem val_cell (ls : List Lf) (q : Option Addr) {V : World} (hL : OwnL V q ls) {hv : Int} (i : Nat) (e : hv = (i : Int)) (hi : i < ls.length) : ∃ b o, q = some ⟨b, o, none⟩ ∧ V.cell? ⟨b, o + i * 2 + 1, none⟩ = some (.string (valAt ls hv.toNat)) := by
  subst e
  obtain ⟨b, o, rfl, hL2⟩ := hL (by intro h; rw [h] at hi; simp at hi)
  have hx : ls[i]? = some (ls[i]'hi) := List.getElem?_eq_getElem hi
  refine ⟨b, o, rfl, ?_⟩
  have := (hL2.at hx).2
  unfold valAt
  rw [Int.toNat_natCast, hx]
  exact this

set_option maxHeartbeats 16000000 in
set_option maxRecDepth 100000 in
theorem sound_law (hLv : ∀ V, Glob V → Calls Tryd.prog 18 #[] V (Told V true)) (A : Option Addr) (l : List Int) (n c : Nat) (hl : l.length = n) (A2 : Option Addr) (l2 : List Int) (n2 c2 : Nat) (hl2 : l2.length = n2) (xk xm xh xb xa : Int) (hxk1 : -9223372036854775808 ≤ xk) (hxk2 : xk ≤ 9223372036854775807) (hxm1 : -9223372036854775808 ≤ xm) (hxm2 : xm ≤ 9223372036854775807) (hxh1 : -9223372036854775808 ≤ xh) (hxh2 : xh ≤ 9223372036854775807) (hxb1 : -9223372036854775808 ≤ xb) (hxb2 : xb ≤ 9223372036854775807) (hxa1 : -9223372036854775808 ≤ xa) (hxa2 : xa ≤ 9223372036854775807) (w : World) (hG : Glob w) (hGR : GlobR w) (hA : IntsAt w A l) (hA2 : IntsAt w A2 l2) :
    Calls Tryd.prog 7 #[.slice A n c, .slice A2 n2 c2, .int .i64 xk, .int .i64 xm, .int .i64 xh, .int .i64 xb, .int .i64 xa] w (Told w true) := by
  have hz1 := zero_dig'
  have hz16 : (bytesV z16).toArray.toList.length = 16 := rfl
  have HLv := Lib.hid (fun (V : World) (g : Glob V) => hLv V g)
  have HLe := Lib.hid (leaves_any2 A l n c hl w hA)
  have HLf := Lib.hid (fun (V : World) (hB : Below w.heap.size w V) => leaves_any2 A2 l2 n2 c2 hl2 V (hA2.keep hB))
  clear hl hA hl2 hA2 hLv
  go_enter Tryd.func7, Tryd.ntmps7
  go_upto_region 2 with (go_at_call 9; refine HLe.out.mono ?_; rintro e W1 ⟨v1, ls, rfl, hO1, hv1, h11, hB1, hn1⟩; obtain ⟨q1, m1, c1, rfl, T1⟩ := LstOk.of hO1 h11 (small_of (valid_zero hv1).2.1) hn1)
  go_upto_region 3 with (go_at_call 9; refine (HLf.out W1 hB1).mono ?_; rintro e W2 ⟨v2, ms, rfl, hO2, hv2, h12, hB2, hn2⟩; obtain ⟨q2, m2, c3, rfl, T2⟩ := LstOk.of hO2 h12 (small_of (valid_zero hv2).2.1) hn2)
  have B2 := link hB1 hB2
  replace T1 := T1.keep hB2
  have hzA := sz_fit (valid_zero hv1).2.1
  have hzB := sz_fit (valid_zero hv2).2.1
  have G2 := hG.keep B2
  have GR2 := hGR.keep B2
  have HCs := Lib.hid (fun (key : ByteArray) (F S : Int) (lf : List Lf) (sd : List (List Nat)) (hd : Dgts sd) (hZ : NoColl (rootX ls 0 [] ls.length ++ proofX F S lf sd)) (h0 : (checkM (rootL ls) key F S lf sd).2.2 = 0) => check_sound ls lf hv1 key F S sd hd hZ h0)
  have HGs := Lib.hid (fun (low hik : ByteArray) (F S : Int) (lf : List Lf) (sd : List (List Nat)) (hd : Dgts sd) (hZ : NoColl (rootX ls 0 [] ls.length ++ proofX F S lf sd)) (h0 : (crangeM (rootL ls) low hik F S lf sd).2 = 0) => crange_sound ls lf hv1 low hik F S sd hd hZ h0)
  have HOw := Lib.hid (own_at ls q1 m1 c1 T1.1 T1.2.1 W2 T1.2.2.2.2.2)
  have HRt := Lib.hid (fun (V : World) (q : Option Addr) (cc : Nat) (g : Glob V) (hc : m1 ≤ cc) (hL : OwnL V q ls) => root_yes ls q m1 cc T1.1 hc hv1 V g hL)
  clear hO1 hO2 hn1 hn2 h11 h12 hB1 hB2 HLe HLf hG hGR hv1 hv2
  have HKxk := Lib.hid (fun (V : World) (hB : Below W2.heap.size W2 V) => lkey_any ls q1 m1 c1 T1.1 T1.2.1 xk hxk1 hxk2 V (T1.2.2.2.2.2.keep hB) T1.2.2.2.2.1)
  have HKxm := Lib.hid (fun (V : World) (hB : Below W2.heap.size W2 V) => lkey_any ms q2 m2 c3 T2.1 T2.2.1 xm hxm1 hxm2 V (T2.2.2.2.2.2.keep hB) T2.2.2.2.2.1)
  have HKxb := Lib.hid (fun (V : World) (hB : Below W2.heap.size W2 V) => lkey_any ls q1 m1 c1 T1.1 T1.2.1 xb hxb1 hxb2 V (T1.2.2.2.2.2.keep hB) T1.2.2.2.2.1)
  have HPa := Lib.hid (fun (s : ByteArray) (V : World) (hB : Below W2.heap.size W2 V) => prove_pk ls 65536 hzA q1 m1 c1 T1.1 T1.2.1 T1.2.2.1 T1.2.2.2.1 s V (GR2.keep hB) (T1.2.2.2.2.2.keep hB))
  have HGb := Lib.hid (fun (s t : ByteArray) (V : World) (hB : Below W2.heap.size W2 V) => range_pk ms 65536 hzB q2 m2 c3 T2.1 T2.2.1 T2.2.2.1 T2.2.2.2.1 s t V (GR2.keep hB) (T2.2.2.2.2.2.keep hB))
  have HB1 := Lib.hid (fun (v : Value) (V : World) (h : PK V 65536 11 v) => bent_at 65536 11 (by omega) (by omega) (by omega) xh xb hxh1 hxh2 hxb1 hxb2 v V h)
  have HB2 := Lib.hid (fun (v : Value) (V : World) (h : PK V 65536 11 v) => bent_at 65536 11 (by omega) (by omega) (by omega) xa xb hxa1 hxa2 hxb1 hxb2 v V h)
  have HB3 := Lib.hid (fun (v : Value) (V : World) (h : PK V 65537 12 v) => bent_at 65537 12 (by omega) (by omega) (by omega) xa xh hxa1 hxa2 hxh1 hxh2 v V h)
  have hrd : Dgt (rootL ls) := rootL_dgt _
  generalize rootL ls = RT at HRt hrd HCs HGs
  have hvR : (bytesV RT).length = 16 := by rw [bytesV_length]; exact hrd.1
  have hsR : (Tryd.prog.info? 29).map (fun x => x.size) = some (bytesV RT).length := by rw [hvR]; kernel_rfl
  have T1x := T1
  clear T2 hzA hzB
  go_upto_region 4 with (first
    | (go_at_call 12; refine HOw.out.mono ?_; rintro e W8 ⟨q8, c8, rfl, hc8, hq8, hL8, hB8⟩)
    | (go_at_call 11; refine (HRt.out _ q8 c8 (G2.keep hB8) hc8 hL8).mono ?_; rintro e W9 ⟨rfl, hB9⟩)
    | (refine store_blk rfl 29 (.tmp 17) (.tmp 42) rfl (blk_new W9 29 (bytesV z16).toArray) rfl rfl (m := 16) (by kernel_rfl) hvR hz16 (bytesV_cells RT) ?_; intro V3 KR O3))
  have BW : Below W2.heap.size W2 V3 := link (link hB8 hB9) (O3.2.2 _ _ (Nat.le_refl _) ((Below.refl _ _).alloc (Nat.le_refl _) _))
  generalize W9.heap.size = tr at KR ⊢
  clear hB8 hB9 O3 hL8 hc8 hq8 HOw HRt hz1 T1x
  go_upto_region 7 with (first
    | (go_at_call_of 19 (Value.int IntKind.i64 xk); refine (HKxk.out _ (BW)).mono ?_; rintro e Wa ⟨sa1, rfl, hWa⟩)
    | (go_at_call 22; refine (HPa.out sa1 _ (link BW hWa)).mono ?_; rintro e Wb ⟨v, zz, rfl, hP, hWb⟩; obtain ⟨a0, a1, a2, a3, rfl, ho⟩ := hP.four)
    | (refine wpList_store_mid rfl 54 (.tmp 19) (.tmp 52) rfl Wb.heap.size 0 #[a0, a1, a2, a3] rfl rfl (by simpa using (blk_new Wb 54 #[.int .i64 0, .int .i64 0, .slice none 0 0, .slice none 0 0]).there 0 4 (by simp)) (by kernel_rfl) (all_oneCell_toArray ho) ?_))
  have N0 := new_struct Wb #[.int .i64 0, .int .i64 0, .slice none 0 0, .slice none 0 0] 54 [a0, a1, a2, a3] rfl
  have Y0 := N0.1
  have K1 := N0.2
  clear N0
  try dsimp only
  generalize World.setCells (World.alloc Wb _) Wb.heap.size 0 _ = V4 at Y0 K1 ⊢
  have P1 := hP.keep Y0
  clear hP
  have X0 := link (link hWa hWb) Y0
  replace KR := KR.keep X0
  replace BW := link BW X0
  clear Y0 X0
  generalize Wb.heap.size = t1 at K1 ⊢
  clear hWa hWb ho
  go_upto_region 8 with (first
    | (go_at_call_of 19 (Value.int IntKind.i64 xk); refine (HKxk.out _ (BW)).mono ?_; rintro e Wa ⟨sa2, rfl, hWa⟩)
    | (go_at_call_of 19 (Value.int IntKind.i64 xm); refine (HKxm.out _ (link BW hWa)).mono ?_; rintro e Wc ⟨sa3, rfl, hWc⟩)
    | (go_at_call 24; refine (HGb.out sa2 sa3 _ (link (link BW hWa) hWc)).mono ?_; rintro e Wb ⟨v, zz, rfl, hP, hWb⟩; obtain ⟨b0, b1, b2, b3, rfl, ho⟩ := hP.four)
    | (refine wpList_store_mid rfl 54 (.tmp 21) (.tmp 63) rfl Wb.heap.size 0 #[b0, b1, b2, b3] rfl rfl (by simpa using (blk_new Wb 54 #[.int .i64 0, .int .i64 0, .slice none 0 0, .slice none 0 0]).there 0 4 (by simp)) (by kernel_rfl) (all_oneCell_toArray ho) ?_))
  have N0 := new_struct Wb #[.int .i64 0, .int .i64 0, .slice none 0 0, .slice none 0 0] 54 [b0, b1, b2, b3] rfl
  have Y0 := N0.1
  have K2 := N0.2
  clear N0
  try dsimp only
  generalize World.setCells (World.alloc Wb _) Wb.heap.size 0 _ = V5 at Y0 K2 ⊢
  have P2 := hP.keep Y0
  clear hP
  have X0 := link (link (link hWa hWc) hWb) Y0
  replace KR := KR.keep X0
  replace K1 := K1.keep X0
  replace P1 := P1.keep X0
  replace BW := link BW X0
  clear Y0 X0
  generalize Wb.heap.size = t2 at K2 ⊢
  clear hWa hWb hWc ho HPa HGb
  go_upto_region 8 with (fail)
  refine wp_region_held_drew (S := fun w' => Below V5.heap.size V5 w') (by kernel_rfl) (below_drew (Below.refl _ _)) (fun _ => ?_)
  have hHeld : Below V5.heap.size V5 V5.drew := below_drew (Below.refl _ _)
  generalize V5.drew = V9 at hHeld ⊢
  refine wt (i := 0) (oi := ⟨some 65, .load 54 (.tmp 19), 54, "law.go:220", #[], none⟩) (v := _) (yieldsIf_load_mid (by rfl) _ _ rfl _ 0 rfl _ _ (fun w' hSw => rng_blk (K1) w' hSw) Tryd.underlying54 rfl (by kernel_rfl)) hHeld ?_
  try simp only [zP, zQ, zS, zZ, zC]
  refine wt (i := 1) (oi := ⟨some 66, .load 54 (.tmp 21), 54, "law.go:220", #[], none⟩) (v := _) (yieldsIf_load_mid (by rfl) _ _ rfl _ 0 rfl _ _ (fun w' hSw => rng_blk (K2) w' hSw) Tryd.underlying54 rfl (by kernel_rfl)) hHeld ?_
  try simp only [zP, zQ, zS, zZ, zC]
  refine wt (i := 2) (oi := ⟨some 67, .load 54 (.tmp 19), 54, "law.go:220", #[], none⟩) (v := _) (yieldsIf_load_mid (by rfl) _ _ rfl _ 0 rfl _ _ (fun w' hSw => rng_blk (K1) w' hSw) Tryd.underlying54 rfl (by kernel_rfl)) hHeld ?_
  try simp only [zP, zQ, zS, zZ, zC]
  refine wt (i := 6) (oi := ⟨some 71, .load 54 (.tmp 21), 54, "law.go:220", #[], none⟩) (v := _) (yieldsIf_load_mid (by rfl) _ _ rfl _ 0 rfl _ _ (fun w' hSw => rng_blk (K2) w' hSw) Tryd.underlying54 rfl (by kernel_rfl)) hHeld ?_
  try simp only [zP, zQ, zS, zZ, zC]
  refine wt (i := 10) (oi := ⟨some 75, .load 54 (.tmp 19), 54, "law.go:220", #[], none⟩) (v := _) (yieldsIf_load_mid (by rfl) _ _ rfl _ 0 rfl _ _ (fun w' hSw => rng_blk (K1) w' hSw) Tryd.underlying54 rfl (by kernel_rfl)) hHeld ?_
  try simp only [zP, zQ, zS, zZ, zC]
  refine wt (i := 3) (oi := ⟨some 68, .move (.tmp 4), 3, "law.go:220", #[], none⟩) (v := .int .i64 xh) (Or.inl ⟨by rfl, fun w' hSw => by go_simp⟩) hHeld ?_
  try simp only [zP, zQ, zS, zZ, zC]
  refine wt (i := 4) (oi := ⟨some 69, .move (.tmp 5), 3, "law.go:220", #[], none⟩) (v := .int .i64 xb) (Or.inl ⟨by rfl, fun w' hSw => by go_simp⟩) hHeld ?_
  try simp only [zP, zQ, zS, zZ, zC]
  refine wt (i := 7) (oi := ⟨some 72, .move (.tmp 6), 3, "law.go:220", #[], none⟩) (v := .int .i64 xa) (Or.inl ⟨by rfl, fun w' hSw => by go_simp⟩) hHeld ?_
  try simp only [zP, zQ, zS, zZ, zC]
  refine wt (i := 8) (oi := ⟨some 73, .move (.tmp 5), 3, "law.go:220", #[], none⟩) (v := .int .i64 xb) (Or.inl ⟨by rfl, fun w' hSw => by go_simp⟩) hHeld ?_
  try simp only [zP, zQ, zS, zZ, zC]
  refine wt (i := 11) (oi := ⟨some 76, .move (.tmp 4), 3, "law.go:220", #[], none⟩) (v := .int .i64 xh) (Or.inl ⟨by rfl, fun w' hSw => by go_simp⟩) hHeld ?_
  try simp only [zP, zQ, zS, zZ, zC]
  refine wt (i := 12) (oi := ⟨some 77, .move (.tmp 5), 3, "law.go:220", #[], none⟩) (v := .int .i64 xb) (Or.inl ⟨by rfl, fun w' hSw => by go_simp⟩) hHeld ?_
  try simp only [zP, zQ, zS, zZ, zC]
  refine wt (i := 14) (oi := ⟨some 79, .move (.tmp 6), 3, "law.go:220", #[], none⟩) (v := .int .i64 xa) (Or.inl ⟨by rfl, fun w' hSw => by go_simp⟩) hHeld ?_
  try simp only [zP, zQ, zS, zZ, zC]
  refine wt (i := 15) (oi := ⟨some 80, .move (.tmp 4), 3, "law.go:220", #[], none⟩) (v := .int .i64 xh) (Or.inl ⟨by rfl, fun w' hSw => by go_simp⟩) hHeld ?_
  try simp only [zP, zQ, zS, zZ, zC]
  refine wpAnyH_ready (rs := [5]) (by kernel_rfl) (by simp) ?_
  refine AllReadyH.cons (o := ⟨some 70, .call { callee := .value (.func 27), args := #[.tmp 67, .tmp 68, .tmp 69], argTypes := #[54, 3, 3] }, 54, "law.go:220", #[⟨2, .data⟩, ⟨3, .data⟩, ⟨4, .data⟩], none⟩) rfl (fun K hK => ?_) AllReadyH.nil
  rw [if_pos (by rfl)]
  go_simp
  refine (HB1.out _ V9 (P1.keep hHeld)).mono ?_
  rintro e Va ⟨v, rfl, P3, hB⟩
  obtain ⟨f0, f1, f2, f3, rfl, _⟩ := P3.four
  dsimp only
  refine hK.out _ _ (link hHeld hB) (fun hHeld => ?_)
  clear hK K
  try simp only [zP, zQ, zS, zZ, zC]
  clear hB
  refine wpAnyH_ready (rs := [9]) (by kernel_rfl) (by simp) ?_
  refine AllReadyH.cons (o := ⟨some 74, .call { callee := .value (.func 27), args := #[.tmp 71, .tmp 72, .tmp 73], argTypes := #[54, 3, 3] }, 54, "law.go:220", #[⟨6, .data⟩, ⟨7, .data⟩, ⟨8, .data⟩, ⟨5, .chain⟩], none⟩) rfl (fun K hK => ?_) AllReadyH.nil
  rw [if_pos (by rfl)]
  go_simp
  refine (HB2.out _ Va (P2.keep hHeld)).mono ?_
  rintro e Vb ⟨v, rfl, P4, hB⟩
  obtain ⟨g0, g1, g2, g3, rfl, _⟩ := P4.four
  dsimp only
  refine hK.out _ _ (link hHeld hB) (fun hHeld => ?_)
  clear hK K
  try simp only [zP, zQ, zS, zZ, zC]
  replace P3 := P3.keep hB
  clear hB
  refine wpAnyH_ready (rs := [13]) (by kernel_rfl) (by simp) ?_
  refine AllReadyH.cons (o := ⟨some 78, .call { callee := .value (.func 27), args := #[.tmp 75, .tmp 76, .tmp 77], argTypes := #[54, 3, 3] }, 54, "law.go:220", #[⟨10, .data⟩, ⟨11, .data⟩, ⟨12, .data⟩, ⟨9, .chain⟩], none⟩) rfl (fun K hK => ?_) AllReadyH.nil
  rw [if_pos (by rfl)]
  go_simp
  refine (HB1.out _ Vb (P1.keep hHeld)).mono ?_
  rintro e Vc ⟨v, rfl, P5, hB⟩
  obtain ⟨h0, h1, h2, h3, rfl, _⟩ := P5.four
  dsimp only
  refine hK.out _ _ (link hHeld hB) (fun hHeld => ?_)
  clear hK K
  try simp only [zP, zQ, zS, zZ, zC]
  replace P3 := P3.keep hB
  replace P4 := P4.keep hB
  clear hB
  refine wpAnyH_ready (rs := [16]) (by kernel_rfl) (by simp) ?_
  refine AllReadyH.cons (o := ⟨some 81, .call { callee := .value (.func 27), args := #[.tmp 78, .tmp 79, .tmp 80], argTypes := #[54, 3, 3] }, 54, "law.go:220", #[⟨13, .data⟩, ⟨14, .data⟩, ⟨15, .data⟩, ⟨13, .chain⟩], none⟩) rfl (fun K hK => ?_) AllReadyH.nil
  rw [if_pos (by rfl)]
  go_simp
  refine (HB3.out _ Vc (P5)).mono ?_
  rintro e Vd ⟨v, rfl, P6, hB⟩
  obtain ⟨j0, j1, j2, j3, rfl, _⟩ := P6.four
  dsimp only
  refine hK.out _ _ (link hHeld hB) (fun hHeld => ?_)
  clear hK K
  try simp only [zP, zQ, zS, zZ, zC]
  replace P3 := P3.keep hB
  replace P4 := P4.keep hB
  clear hB P5
  refine wpAnyH_ready (rs := [17]) (by kernel_rfl) (by simp) ?_
  refine AllReadyH.cons (o := ⟨some 82, .buildSlice 63 5 #[(0, .tmp 65), (1, .tmp 66), (2, .tmp 70), (3, .tmp 74), (4, .tmp 81)], 63, "law.go:220", #[⟨0, .data⟩, ⟨1, .data⟩, ⟨5, .data⟩, ⟨9, .data⟩, ⟨16, .data⟩], none⟩) rfl (fun K hK => ?_) AllReadyH.nil
  rw [if_pos (by rfl)]
  go_simp
  have hKB := blk_new Vd 54 #[a0, a1, a2, a3, b0, b1, b2, b3, f0, f1, f2, f3, g0, g1, g2, g3, j0, j1, j2, j3]
  have X0 : Below Vd.heap.size Vd (Vd.alloc (.cells #[a0, a1, a2, a3, b0, b1, b2, b3, f0, f1, f2, f3, g0, g1, g2, g3, j0, j1, j2, j3] 54)) := (Below.refl _ _).alloc (Nat.le_refl _) _
  refine hK.out _ _ (link hHeld X0) (fun hHeld => ?_)
  clear hK K
  try simp only [zP, zQ, zS, zZ, zC]
  replace P3 := P3.keep X0
  replace P4 := P4.keep X0
  replace P6 := P6.keep X0
  generalize World.alloc Vd _ = Ve at hKB hHeld P3 P4 P6 ⊢
  generalize Vd.heap.size = pb at hKB ⊢
  clear X0
  refine wpAnyH_ready (rs := [18]) (by kernel_rfl) (by simp) ?_
  refine AllReadyH.cons (o := ⟨some 23, .assign (.tmp 82), 63, "law.go:220", #[⟨17, .data⟩, ⟨16, .chain⟩, ⟨0, .phase⟩, ⟨1, .phase⟩, ⟨2, .phase⟩, ⟨3, .phase⟩, ⟨4, .phase⟩, ⟨5, .phase⟩, ⟨6, .phase⟩, ⟨7, .phase⟩, ⟨8, .phase⟩, ⟨9, .phase⟩, ⟨10, .phase⟩, ⟨11, .phase⟩, ⟨12, .phase⟩, ⟨13, .phase⟩, ⟨14, .phase⟩, ⟨15, .phase⟩, ⟨16, .phase⟩, ⟨17, .phase⟩], none⟩) rfl (fun K hK => ?_) AllReadyH.nil
  go_simp
  refine hK.out _ _ (hHeld) (fun hHeld => ?_)
  clear hK K
  try simp only [zP, zQ, zS, zZ, zC]
  refine wpAnyH_done (by kernel_rfl) ?_ _
  replace BW := link BW hHeld
  replace P1 := P1.keep hHeld
  replace P2 := P2.keep hHeld
  replace KR := KR.keep hHeld
  clear hHeld K1 K2 HB1 HB2 HB3
  have TB : Hid (∀ i, i < 5 → ∃ x0 x1 x2 x3, Ve.rangeAt pb (i * 4) [x0, x1, x2, x3] ∧ PK Ve 70000 13 (.agg #[x0, x1, x2, x3])) := Lib.hid (by
    intro i hi
    have hr : ∀ o, Ve.rangeAt pb o ((([a0, a1, a2, a3, b0, b1, b2, b3, f0, f1, f2, f3, g0, g1, g2, g3, j0, j1, j2, j3] : List Value).drop o).take 4) := fun o => hKB.range o 4
    match i, hi with
    | 0, _ => exact ⟨_, _, _, _, hr 0, P1.mono (by omega) (by omega)⟩
    | 1, _ => exact ⟨_, _, _, _, hr 4, P2.mono (by omega) (by omega)⟩
    | 2, _ => exact ⟨_, _, _, _, hr 8, P3.mono (by omega) (by omega)⟩
    | 3, _ => exact ⟨_, _, _, _, hr 12, P4.mono (by omega) (by omega)⟩
    | 4, _ => exact ⟨_, _, _, _, hr 16, P6.mono (by omega) (by omega)⟩)
  have hpb := hKB.lt
  clear hKB P1 P2 P3 P4 P6
  go_upto_region 10 with (first
    | (go_at_call_of 19 (Value.int IntKind.i64 xk); refine (HKxk.out _ (BW)).mono ?_; rintro e Wa ⟨u1, rfl, hWa⟩)
    | (go_at_call_of 19 (Value.int IntKind.i64 xm); refine (HKxm.out _ (link BW hWa)).mono ?_; rintro e Wb ⟨u2, rfl, hWb⟩)
    | (go_at_call_of 19 (Value.int IntKind.i64 xb); refine (HKxb.out _ (link (link BW hWa) hWb)).mono ?_; rintro e Wc ⟨u3, rfl, hWc⟩))
  generalize hw : World.alloc Wc _ = Wd
  have KK : Blk Wd Wc.heap.size 9 [.string u1, .string u2, .string u3] := hw ▸ blk_new Wc _ _
  have X8 : Below Wc.heap.size Wc Wd := hw ▸ ((Below.refl _ _).alloc (Nat.le_refl _) _)
  clear hw
  have XC : Below Ve.heap.size Ve Wd := link (link (link hWa hWb) hWc) X8
  have KS : Hid (∀ j, j < 3 → ∃ s, Wd.cell? ⟨Wc.heap.size, j, none⟩ = some (.string s)) := Lib.hid (by
    intro j hj
    match j, hj with
    | 0, _ => exact ⟨u1, KK.cell (j := 0) rfl⟩
    | 1, _ => exact ⟨u2, KK.cell (j := 1) rfl⟩
    | 2, _ => exact ⟨u3, KK.cell (j := 2) rfl⟩)
  have hkb := KK.lt
  generalize Wc.heap.size = kb at KS hkb ⊢
  have BD := link BW XC
  have GD := G2.keep BD
  have GRD := GR2.keep BD
  replace KR := KR.keep XC
  have hLs := T1.2.2.2.2.2.keep BD
  have hm11 : m1 ≤ 11 := T1.2.1
  have hSl := T1.2.2.2.2.1
  have hN1 := T1.1
  have HLs := Lib.hid (fun (V : World) (hB : Below Wd.heap.size Wd V) => (hLs.keep hB : OwnL V q1 ls))
  have HHs := Lib.hid (fun (s : ByteArray) (V : World) (hB : Below Wd.heap.size Wd V) => has_any ls q1 m1 c1 hN1 (by omega) s V (hLs.keep hB))
  have HIn0 := Lib.hid (fun (s t : ByteArray) (V : World) (hB : Below Wd.heap.size Wd V) => inside_any ls q1 m1 c1 hN1 (by omega) s t V (hLs.keep hB))
  have HiL := Lib.hid (fun (s t : ByteArray) => inside_few ls s t (by omega : ls.length ≤ 11))
  have HvL := Lib.hid (fun (s : ByteArray) (V : World) (hB : Below Wd.heap.size Wd V) (i : Nat) (e : hasM ls s = (i : Int)) (hi : i < m1) => val_cell ls q1 (hLs.keep hB) i e (by omega))
  have HhL := Lib.hid (fun (s : ByteArray) => has_cases ls s)
  have HCo0 := Lib.hid (fun (F S : Int) (lf : List Lf) (sd : List (List Nat)) (hSm : Small lf) (hd : Dgts sd) (q : Option Addr) (m c : Nat) (hm : lf.length = m) (hm6 : m ≤ 1000000) (sa : Option Addr) (k0 sc : Nat) (hk6 : k0 ≤ 1000000) (V : World) (hB : Below Wd.heap.size Wd V) (hL : OwnL V q lf) (hS : SdV V V.heap.size (.slice sa k0 sc) sd) => collide_any ls q1 m1 c1 hN1 (by omega) hSl F S lf sd hSm hd q m c hm hm6 sa k0 sc hk6 V (GRD.keep hB) (hLs.keep hB) hL hS)
  rw [hN1] at HCs HGs HhL
  clear KK X8 hWa hWb hWc HKxk HKxm HKxb BW G2 GR2 T1 hLs hSl hN1
  go_wp2
  go_loopw [25] (fun v wr => ∃ i : Nat, i ≤ 5 ∧ v = .int .i64 i ∧ Below Wd.heap.size Wd wr) (fun v _ => 5 - (intOf v).toNat)
  case atStart => exact ⟨0, by omega, rfl, Below.refl _ _⟩
  case round =>
    obtain ⟨i, hi, rfl, hB⟩ := hrel
    by_cases hlt : i < 5
    · obtain ⟨x0, x1, x2, x3, hrg, hPK⟩ := TB.out i hlt
      have hi8 : (i : Int) < 5 := by omega
      have hrgD : Wd.rangeAt pb (i * 4) [x0, x1, x2, x3] := range_keep hrg hpb XC
      obtain ⟨F, S, lf, sd, hPI, hz, hlf, hsd, hd⟩ := hPK.keep XC
      obtain ⟨q, c0, sa, sc, ev, hL, _, hSd, _, _⟩ := hPI
      have hpbD : pb < Wd.heap.size := Nat.lt_of_lt_of_le hpb XC.size
      have hSm : Small lf := fun x hx => by have := hz x hx; omega
      obtain ⟨n0, hn0⟩ : ∃ n, lf.length = n := ⟨_, rfl⟩
      obtain ⟨k0, hk0⟩ : ∃ k, sd.length = k := ⟨_, rfl⟩
      rw [hn0] at ev hlf
      rw [hk0] at ev hSd hsd
      have ev2 : x0 = .int .i64 F ∧ x1 = .int .i64 S ∧ x2 = .slice q n0 c0 ∧ x3 = .slice sa k0 sc := by simpa using ev
      obtain ⟨rfl, rfl, rfl, rfl⟩ := ev2
      clear ev hPK hrg hz
      have HPf := Lib.hid (fun (V : World) (hB : Below Wd.heap.size Wd V) => lproof_any F S lf sd q n0 c0 sa k0 sc hn0 (by omega) V (hL.keep hB) (hSd.self hB))
      have HCk0 := Lib.hid (fun (s : ByteArray) (V : World) (p1 : Option Addr) (c1 : Nat) (hc1 : n0 ≤ c1) (g : Glob V) (hL1 : OwnL V p1 lf) (hS1 : SdV V V.heap.size (.slice sa k0 sc) sd) => check_any RT hrd s F S lf p1 n0 c1 sa k0 sc sd hd hn0 (by omega) hc1 V g hL1 hS1)
      have HCg0 := Lib.hid (fun (s t : ByteArray) (V : World) (p1 : Option Addr) (c1 : Nat) (hq1 : n0 = 0 → p1 = none ∧ c1 = 0) (hc1 : n0 ≤ c1) (g : Glob V) (hL1 : OwnL V p1 lf) (hS1 : SdV V V.heap.size (.slice sa k0 sc) sd) => crange_any RT hrd s t F S lf p1 n0 c1 hq1 sa k0 sc sd hd hn0 (by omega) hc1 V g hL1 hS1)
      have HCo := Lib.hid (fun (V : World) (hB : Below Wd.heap.size Wd V) => HCo0.out F S lf sd hSm hd q n0 c0 hn0 (by omega) sa k0 sc (by omega) V hB (hL.keep hB) (hSd.self hB))
      have HC0 := Lib.hid (fun (s : ByteArray) => HCs.out s F S lf sd hd)
      have HG0 := Lib.hid (fun (s t : ByteArray) => HGs.out s t F S lf sd hd)
      generalize NoColl (rootX ls 0 [] m1 ++ proofX F S lf sd) = NC at HCo HC0 HG0
      have HOut := Lib.hid (fun (s t : ByteArray) => crange_few RT s t F S lf sd (by omega : lf.length ≤ 1000000))
      clear hL hSd hd hlf hsd hn0 hk0 hSm
      obtain ⟨wo, rfl⟩ : ∃ wo : World, wo = wr := ⟨_, rfl⟩
      go_wp2
      go_loopw [26] (fun v wx => ∃ j : Nat, j ≤ 3 ∧ v = .int .i64 j ∧ Below Wd.heap.size Wd wx) (fun v _ => 3 - (intOf v).toNat)
      case atStart => exact ⟨0, by omega, rfl, hB⟩
      case round =>
        obtain ⟨j, hj, rfl, BX⟩ := hrel
        by_cases hjl : j < 3
        · obtain ⟨s, hck⟩ := KS.out j hjl
          have hj3 : (j : Int) < 3 := by omega
          obtain ⟨jn, hjn⟩ : ∃ m, (j + 1) % 3 = m := ⟨_, rfl⟩
          have hjn3 : jn < 3 := by omega
          have hjni : (jn : Int) < 3 := by omega
          obtain ⟨s2, hck2⟩ := KS.out jn hjn3
          have hjm : ((j : Int) + 1).tmod 3 = (jn : Int) := by rw [Int.tmod_eq_emod_of_nonneg (by omega)]; omega
          have hjw : IntKind.i64.wrap ((j : Int) + 1) = (j : Int) + 1 := by simp [IntKind.wrap, IntKind.signed, IntKind.bits]; omega
          have hjw2 : IntKind.i64.wrap (jn : Int) = (jn : Int) := by simp [IntKind.wrap, IntKind.signed, IntKind.bits]; omega
          have HJ := Lib.hid (And.intro hjm (And.intro hjw hjw2))
          clear hjn hjm hjw hjw2
          have HCk := Lib.hid (HCk0.out s)
          have HCg := Lib.hid (HCg0.out s s2)
          have hOl := HOut.out s s2
          have HC := Lib.hid (HC0.out s)
          have HG := Lib.hid (HG0.out s s2)
          have HIn := Lib.hid (HIn0.out s s2)
          have hIl := HiL.out s s2
          have HHv := Lib.hid (HHs.out s)
          have hcs := HhL.out s
          have HvV := Lib.hid (HvL.out s)
          generalize checkM RT s F S lf sd = cm at HCk HC
          obtain ⟨ca, cb, cz⟩ := cm
          dsimp only at HCk HC
          generalize crangeM RT s s2 F S lf sd = cr at HCg HG hOl
          obtain ⟨out, zo⟩ := cr
          dsimp only at HCg HG hOl
          generalize insideM ls s s2 = ins at HIn HG hIl
          have HC := Lib.hid (fun (h1 : NC) (h2 : cz = 0) => right_b (HC.out h1 h2))
          generalize hasM ls s = hv at HHv HC hcs HvV
          generalize valAt ls hv.toNat = va at HC HvV
          obtain ⟨t0, ht0⟩ : ∃ t, out.length = t := ⟨_, rfl⟩
          obtain ⟨t6, ht6⟩ : ∃ t, ins.length = t := ⟨_, rfl⟩
          clear HCk0 HCg0
          go_upto_region 16 with (fail)
          refine wp_region_held_drew (S := fun w' => Below Wd.heap.size Wd w') (by kernel_rfl) (below_drew BX) (fun _ => ?_)
          have hHeld := below_drew BX
          clear BX
          have CS : ∀ w', Below Wd.heap.size Wd w' → w'.cell? ⟨kb, j, none⟩ = some (.string s) := fun w' h => (h.cell (p := ⟨kb, j, none⟩) hkb).trans hck
          generalize World.drew _ = Ua at hHeld ⊢
          refine wt (i := 0) (oi := ⟨some 106, .load 29 (.tmp 17), 29, "law.go:224", #[], none⟩) (v := _) (yieldsIf_load_mid (by rfl) _ _ rfl _ 0 rfl _ _ (fun w' hSw => rng_blk KR w' hSw) Tryd.underlying29 rfl hsR) hHeld ?_
          try simp only [zP, zQ, zS, zZ, zC]
          refine wt (i := 1) (oi := ⟨some 107, .move (.tmp 24), 47, "law.go:224", #[], none⟩) (v := .slice (some ⟨kb, 0, none⟩) 3 3) (Or.inl ⟨by rfl, fun w' hSw => by go_simp⟩) hHeld ?_
          try simp only [zP, zQ, zS, zZ, zC]
          refine wt (i := 2) (oi := ⟨some 108, .move (.tmp 26), 3, "law.go:224", #[], none⟩) (v := .int .i64 (j : Int)) (Or.inl ⟨by rfl, fun w' hSw => by go_simp⟩) hHeld ?_
          try simp only [zP, zQ, zS, zZ, zC]
          refine wt (i := 3) (oi := ⟨some 109, .indexAddr 47 (.tmp 107) (.tmp 108), 0, "law.go:224", #[⟨1, .data⟩, ⟨2, .data⟩], none⟩) (v := .pointer (some ⟨kb, j, none⟩)) (Or.inl ⟨by rfl, fun w' hSw => by go_simp; try (intro hcm; exact absurd hcm (by omega))⟩) hHeld ?_
          try simp only [zP, zQ, zS, zZ, zC]
          refine wt (i := 4) (oi := ⟨some 110, .load 9 (.tmp 109), 9, "law.go:224", #[⟨3, .data⟩], none⟩) (v := .string s) (Or.inl ⟨by rfl, fun w' hSw => by have hc := CS w' hSw; go_simp⟩) hHeld ?_
          try simp only [zP, zQ, zS, zZ, zC]
          refine wt (i := 5) (oi := ⟨some 111, .move (.tmp 23), 63, "law.go:224", #[], none⟩) (v := .slice (some ⟨pb, 0, none⟩) 5 5) (Or.inl ⟨by rfl, fun w' hSw => by go_simp⟩) hHeld ?_
          try simp only [zP, zQ, zS, zZ, zC]
          refine wt (i := 6) (oi := ⟨some 112, .move (.tmp 25), 3, "law.go:224", #[], none⟩) (v := .int .i64 (i : Int)) (Or.inl ⟨by rfl, fun w' hSw => by go_simp⟩) hHeld ?_
          try simp only [zP, zQ, zS, zZ, zC]
          refine wt (i := 7) (oi := ⟨some 113, .indexAddr 63 (.tmp 111) (.tmp 112), 0, "law.go:224", #[⟨5, .data⟩, ⟨6, .data⟩], none⟩) (v := .pointer (some ⟨pb, i * 4, none⟩)) (Or.inl ⟨by rfl, fun w' hSw => by go_simp; try (intro hcm; exact absurd hcm (by omega))⟩) hHeld ?_
          try simp only [zP, zQ, zS, zZ, zC]
          refine wt (i := 8) (oi := ⟨some 114, .load 54 (.tmp 113), 54, "law.go:224", #[⟨7, .data⟩], none⟩) (v := _) (yieldsIf_load_mid (by rfl) _ _ rfl pb (i * 4) rfl [.int .i64 F, .int .i64 S, .slice q n0 c0, .slice sa k0 sc] _ (fun w' hSw => range_keep hrgD hpbD hSw) Tryd.underlying54 rfl (by kernel_rfl)) hHeld ?_
          try simp only [zP, zQ, zS, zZ, zC]
          refine wpAnyH_ready (rs := [9]) (by kernel_rfl) (by simp) ?_
          refine AllReadyH.cons (o := ⟨some 115, .call { callee := .value (.func 29), args := #[.tmp 114], argTypes := #[54] }, 50, "law.go:224", #[⟨8, .data⟩], none⟩) rfl (fun K hK => ?_) AllReadyH.nil
          rw [if_pos (by rfl)]
          go_simp
          refine (HPf.out Ua hHeld).mono ?_
          rintro e Ub ⟨pp1, cc1, rfl, hc1, hq1, hL1, hS1, hB1⟩
          dsimp only
          refine hK.out _ _ (link hHeld hB1) (fun hHeld => ?_)
          clear hK K
          try simp only [zP, zQ, zS, zZ, zC]
          refine wpAnyH_ready (rs := [10]) (by kernel_rfl) (by simp) ?_
          refine AllReadyH.cons (o := ⟨some 116, .call { callee := .value (.func 28), args := #[.tmp 106, .tmp 110, .tmp 115], argTypes := #[29, 9, 50] }, 64, "law.go:224", #[⟨0, .data⟩, ⟨4, .data⟩, ⟨9, .data⟩, ⟨9, .chain⟩], none⟩) rfl (fun K hK => ?_) AllReadyH.nil
          rw [if_pos (by rfl)]
          go_simp
          refine (HCk.out Ub pp1 cc1 hc1 (GD.keep hHeld) hL1 hS1).mono ?_
          rintro e Uc ⟨rfl, hB2⟩
          dsimp only
          refine hK.out _ _ (link hHeld hB2) (fun hHeld => ?_)
          clear hK K
          try simp only [zP, zQ, zS, zZ, zC]
          refine wt (i := 11) (oi := ⟨some 105, .move (.tmp 116), 64, "law.go:224", #[⟨10, .data⟩], none⟩) (v := .tuple #[.string ca, .bool cb, .int .i64 cz]) (Or.inl ⟨by rfl, fun w' hSw => by go_simp⟩) hHeld ?_
          try simp only [zP, zQ, zS, zZ, zC]
          refine wt (i := 12) (oi := ⟨some 117, .extract (.tmp 105) 0, 9, "law.go:224", #[⟨11, .data⟩], none⟩) (v := .string ca) (Or.inl ⟨by rfl, fun w' hSw => by go_simp⟩) hHeld ?_
          try simp only [zP, zQ, zS, zZ, zC]
          refine wt (i := 13) (oi := ⟨some 118, .extract (.tmp 105) 1, 4, "law.go:224", #[⟨11, .data⟩, { on := 15, ground := Ground.gcOnly Departure.lateStores }], none⟩) (v := .bool cb) (Or.inl ⟨by rfl, fun w' hSw => by go_simp⟩) hHeld ?_
          try simp only [zP, zQ, zS, zZ, zC]
          refine wt (i := 14) (oi := ⟨some 119, .extract (.tmp 105) 2, 30, "law.go:224", #[⟨11, .data⟩, { on := 16, ground := Ground.gcOnly Departure.lateStores }], none⟩) (v := .int .i64 cz) (Or.inl ⟨by rfl, fun w' hSw => by go_simp⟩) hHeld ?_
          try simp only [zP, zQ, zS, zZ, zC]
          refine wpAnyH_ready (rs := [15]) (by kernel_rfl) (by simp) ?_
          refine AllReadyH.cons (o := ⟨some 27, .assign (.tmp 117), 9, "law.go:224", #[⟨12, .data⟩, ⟨10, .chain⟩, ⟨0, .phase⟩, ⟨1, .phase⟩, ⟨2, .phase⟩, ⟨3, .phase⟩, ⟨4, .phase⟩, ⟨5, .phase⟩, ⟨6, .phase⟩, ⟨7, .phase⟩, ⟨8, .phase⟩, ⟨9, .phase⟩, ⟨10, .phase⟩, ⟨11, .phase⟩, ⟨12, .phase⟩, { on := 13, ground := Ground.textOnly Departure.lateStores }, { on := 14, ground := Ground.textOnly Departure.lateStores }], none⟩) rfl (fun K hK => ?_) AllReadyH.nil
          go_simp
          refine hK.out _ _ (hHeld) (fun hHeld => ?_)
          clear hK K
          try simp only [zP, zQ, zS, zZ, zC]
          refine wpAnyH_ready (rs := [16]) (by kernel_rfl) (by simp) ?_
          refine AllReadyH.cons (o := ⟨some 28, .assign (.tmp 118), 4, "law.go:224", #[⟨13, .data⟩, ⟨15, .chain⟩, ⟨0, .phase⟩, ⟨1, .phase⟩, ⟨2, .phase⟩, ⟨3, .phase⟩, ⟨4, .phase⟩, ⟨5, .phase⟩, ⟨6, .phase⟩, ⟨7, .phase⟩, ⟨8, .phase⟩, ⟨9, .phase⟩, ⟨10, .phase⟩, ⟨11, .phase⟩, ⟨12, .phase⟩, ⟨13, .phase⟩, { on := 14, ground := Ground.textOnly Departure.lateStores }, ⟨15, .phase⟩], none⟩) rfl (fun K hK => ?_) AllReadyH.nil
          go_simp
          refine hK.out _ _ (hHeld) (fun hHeld => ?_)
          clear hK K
          try simp only [zP, zQ, zS, zZ, zC]
          refine wpAnyH_ready (rs := [17]) (by kernel_rfl) (by simp) ?_
          refine AllReadyH.cons (o := ⟨some 29, .assign (.tmp 119), 30, "law.go:224", #[⟨14, .data⟩, ⟨16, .chain⟩, ⟨0, .phase⟩, ⟨1, .phase⟩, ⟨2, .phase⟩, ⟨3, .phase⟩, ⟨4, .phase⟩, ⟨5, .phase⟩, ⟨6, .phase⟩, ⟨7, .phase⟩, ⟨8, .phase⟩, ⟨9, .phase⟩, ⟨10, .phase⟩, ⟨11, .phase⟩, ⟨12, .phase⟩, ⟨13, .phase⟩, ⟨14, .phase⟩, ⟨15, .phase⟩, ⟨16, .phase⟩], none⟩) rfl (fun K hK => ?_) AllReadyH.nil
          go_simp
          refine hK.out _ _ (hHeld) (fun hHeld => ?_)
          clear hK K
          try simp only [zP, zQ, zS, zZ, zC]
          clear hB1 hB2 hL1 hS1 hc1 hq1
          refine wpAnyH_done (by kernel_rfl) ?_ _
          have BX := hHeld
          clear hHeld CS
          have hck9 := (BX.cell (p := ⟨kb, j, none⟩) hkb).trans hck
          go_upto_region 18 with (go_at_call 34; refine (HHv.out _ BX).mono ?_; rintro e Ud ⟨rfl, hB3⟩)
          replace BX := link BX hB3
          clear hB3 hck9 HHv
          obtain ⟨r0, hr0⟩ : ∃ b, (cb == decide (0 ≤ hv)) = b := ⟨_, rfl⟩
          go_cut [31] from 99 to 205 (fun s31 wx => s31 = .bool r0 ∧ Below Wd.heap.size Wd wx)
          case first =>
            rcases hcs with hcs | ⟨i9, hcs, hi9⟩
            · have hge : decide (0 ≤ hv) = false := decide_eq_false (by omega)
              have hge2 : ¬ 0 ≤ hv := by omega
              clear hcs
              rw [hge] at hr0
              rcases cb with _ | _
              · have HR0 := Lib.hid hr0
                clear hr0
                go_wp2_with fail
                go_meet
                exact ⟨by rw [← HR0.out]; rfl, BX⟩
              · have HR0 := Lib.hid hr0
                clear hr0
                go_wp2_with fail
                go_meet
                exact ⟨by rw [← HR0.out]; rfl, BX⟩
            · have hge : decide (0 ≤ hv) = true := decide_eq_true (by omega)
              have hge2 : 0 ≤ hv := by omega
              rw [hge] at hr0
              clear hcs
              rcases cb with _ | _
              · have HR0 := Lib.hid hr0
                clear hr0
                go_wp2_with fail
                go_meet
                exact ⟨by rw [← HR0.out]; rfl, BX⟩
              · have HR0 := Lib.hid hr0
                clear hr0
                go_wp2_with fail
                go_meet
                exact ⟨by rw [← HR0.out]; rfl, BX⟩
          case rest =>
            obtain ⟨hs, BY⟩ := hcut
            subst hs
            clear BX
            obtain ⟨Wk, rfl⟩ : ∃ W : World, W = wc := ⟨_, rfl⟩
            have BX := BY
            clear BY
            go_upto_region 19 with (fail)
            obtain ⟨r1, hr1⟩ : ∃ b, (r0 && cb) = b := ⟨_, rfl⟩
            go_cut [133] from 99 to 205 (fun s133 wx => s133 = .bool r1 ∧ Below Wd.heap.size Wd wx)
            case first =>
              have HR1 := Lib.hid hr1
              clear hr1 hr0
              rcases r0 with _ | _
              · go_wp2_with fail
                go_meet
                exact ⟨by rw [← HR1.out]; rfl, BX⟩
              · rcases cb with _ | _
                · go_wp2_with fail
                  go_meet
                  exact ⟨by rw [← HR1.out]; rfl, BX⟩
                · go_wp2_with fail
                  go_meet
                  exact ⟨by rw [← HR1.out]; rfl, BX⟩
            case rest =>
              obtain ⟨hs, BY⟩ := hcut
              subst hs
              clear BX
              obtain ⟨Wk, rfl⟩ : ∃ W : World, W = wc := ⟨_, rfl⟩
              have BX := BY
              clear BY
              go_upto_if 133 with (fail)
              obtain ⟨r2, hr2⟩ : ∃ b, rightB cb hv ca va = b := ⟨_, rfl⟩
              go_cut [31] from 99 to 205 (fun s31 wx => s31 = .bool r2 ∧ Below Wd.heap.size Wd wx)
              case first =>
                have HR2 := Lib.hid hr2
                have HR1 := Lib.hid hr1
                have HR0 := Lib.hid hr0
                clear hr2 hr1 hr0
                rcases r1 with _ | _
                · have e2 : r2 = r0 := right_no HR2.out HR0.out HR1.out
                  have HE2 := Lib.hid e2
                  clear e2
                  go_wp2_with fail
                  go_meet
                  exact ⟨by rw [HE2.out], BX⟩
                · obtain ⟨hge, e2⟩ := right_yes HR2.out HR0.out HR1.out
                  have HE2 := Lib.hid e2
                  clear e2
                  rcases hcs with hcs | ⟨i9, rfl, hi9⟩
                  · exfalso; omega
                  · obtain ⟨b9, o9, rfl, hcv⟩ := HvV.out _ BX i9 rfl hi9
                    have hmx : max (i9 : Int) 0 = (i9 : Int) := by omega
                    have hin : (i9 : Int) < (m1 : Int) := by omega
                    go_wp2_with fail
                    go_meet
                    exact ⟨by rw [HE2.out], BX⟩
              case rest =>
                have HC := Lib.hid (fun (h1 : NC) (h2 : cz = 0) => (hr2.symm.trans (HC.out h1 h2) : r2 = true))
                clear hr2 hr1 hr0
                obtain ⟨hs, BY⟩ := hcut
                subst hs
                clear BX
                obtain ⟨Wk, rfl⟩ : ∃ W : World, W = wc := ⟨_, rfl⟩
                have BX := BY
                clear BY
                go_upto_region 21 with (fail)
                go_cut [156] from 99 to 205 (fun s156 wx => s156 = .bool false ∧ Below Wd.heap.size Wd wx)
                case first =>
                  by_cases hcz : cz = 0
                  · subst hcz
                    rcases r2 with _ | _
                    · go_wp2_with (first
                        | (refine load_wanted3 (by rfl) 54 (.tmp 152) rfl pb (i * 4) rfl [.int .i64 F, .int .i64 S, .slice q n0 c0, .slice sa k0 sc] _ (range_keep hrgD hpbD BX) Tryd.underlying54 rfl (by kernel_rfl) ?_)
                        | (go_at_call 36; refine (HCo.out _ BX).mono ?_; rintro e Ue ⟨b9, rfl, hb9, hB9⟩; obtain rfl : b9 = true := (by rcases b9 with _ | _; exact absurd (HC.out (hb9 rfl) rfl) (by simp); rfl)))
                      go_meet
                      exact ⟨rfl, link BX hB9⟩
                    · go_wp2_with fail
                      go_meet
                      exact ⟨rfl, BX⟩
                  · have hcb : (cz == 0) = false := by simp [hcz]
                    go_wp2_with fail
                    go_meet
                    exact ⟨rfl, BX⟩
                case rest =>
                  obtain ⟨hs, BY⟩ := hcut
                  subst hs
                  clear BX
                  obtain ⟨Wk, rfl⟩ : ∃ W : World, W = wc := ⟨_, rfl⟩
                  have BX := BY
                  clear BY
                  go_upto_region 23 with (fail)
                  refine wp_region_held_drew (S := fun w' => Below Wd.heap.size Wd w') (by kernel_rfl) (below_drew BX) (fun _ => ?_)
                  have hHeld := below_drew BX
                  clear BX
                  have CS : ∀ w', Below Wd.heap.size Wd w' → w'.cell? ⟨kb, j, none⟩ = some (.string s) := fun w' h => (h.cell (p := ⟨kb, j, none⟩) hkb).trans hck
                  have CS2 : ∀ w', Below Wd.heap.size Wd w' → w'.cell? ⟨kb, jn, none⟩ = some (.string s2) := fun w' h => (h.cell (p := ⟨kb, jn, none⟩) hkb).trans hck2
                  generalize World.drew _ = Ua at hHeld ⊢
                  refine wt (i := 0) (oi := ⟨some 158, .load 29 (.tmp 17), 29, "law.go:233", #[], none⟩) (v := _) (yieldsIf_load_mid (by rfl) _ _ rfl _ 0 rfl _ _ (fun w' hSw => rng_blk KR w' hSw) Tryd.underlying29 rfl hsR) hHeld ?_
                  try simp only [zP, zQ, zS, zZ, zC]
                  refine wt (i := 1) (oi := ⟨some 159, .move (.tmp 24), 47, "law.go:233", #[], none⟩) (v := .slice (some ⟨kb, 0, none⟩) 3 3) (Or.inl ⟨by rfl, fun w' hSw => by go_simp⟩) hHeld ?_
                  try simp only [zP, zQ, zS, zZ, zC]
                  refine wt (i := 2) (oi := ⟨some 160, .move (.tmp 26), 3, "law.go:233", #[], none⟩) (v := .int .i64 (j : Int)) (Or.inl ⟨by rfl, fun w' hSw => by go_simp⟩) hHeld ?_
                  try simp only [zP, zQ, zS, zZ, zC]
                  refine wt (i := 3) (oi := ⟨some 161, .indexAddr 47 (.tmp 159) (.tmp 160), 0, "law.go:233", #[⟨1, .data⟩, ⟨2, .data⟩], none⟩) (v := .pointer (some ⟨kb, j, none⟩)) (Or.inl ⟨by rfl, fun w' hSw => by go_simp; try (intro hcm; exact absurd hcm (by omega))⟩) hHeld ?_
                  try simp only [zP, zQ, zS, zZ, zC]
                  refine wt (i := 4) (oi := ⟨some 162, .load 9 (.tmp 161), 9, "law.go:233", #[⟨3, .data⟩], none⟩) (v := .string s) (Or.inl ⟨by rfl, fun w' hSw => by have hc := CS w' hSw; go_simp⟩) hHeld ?_
                  try simp only [zP, zQ, zS, zZ, zC]
                  refine wt (i := 5) (oi := ⟨some 163, .move (.tmp 24), 47, "law.go:233", #[], none⟩) (v := .slice (some ⟨kb, 0, none⟩) 3 3) (Or.inl ⟨by rfl, fun w' hSw => by go_simp⟩) hHeld ?_
                  try simp only [zP, zQ, zS, zZ, zC]
                  refine wt (i := 6) (oi := ⟨some 164, .move (.tmp 26), 3, "law.go:233", #[], none⟩) (v := .int .i64 (j : Int)) (Or.inl ⟨by rfl, fun w' hSw => by go_simp⟩) hHeld ?_
                  try simp only [zP, zQ, zS, zZ, zC]
                  refine wt (i := 7) (oi := ⟨some 165, .binOp .add 3 (.tmp 164) (.const (Value.int IntKind.i64 1)) 3, 3, "law.go:233", #[⟨6, .data⟩], none⟩) (v := .int .i64 ((j : Int) + 1)) (Or.inl ⟨by rfl, fun w' hSw => by have hjw := HJ.out.2.1; go_simp⟩) hHeld ?_
                  try simp only [zP, zQ, zS, zZ, zC]
                  refine wt (i := 8) (oi := ⟨some 166, .binOp .rem 3 (.tmp 165) (.const (Value.int IntKind.i64 3)) 3, 3, "law.go:233", #[⟨7, .data⟩], none⟩) (v := .int .i64 (jn : Int)) (Or.inl ⟨by rfl, fun w' hSw => by have hjm := HJ.out.1; have hjw2 := HJ.out.2.2; go_simp⟩) hHeld ?_
                  try simp only [zP, zQ, zS, zZ, zC]
                  refine wt (i := 9) (oi := ⟨some 167, .indexAddr 47 (.tmp 163) (.tmp 166), 0, "law.go:233", #[⟨5, .data⟩, ⟨8, .data⟩], none⟩) (v := .pointer (some ⟨kb, jn, none⟩)) (Or.inl ⟨by rfl, fun w' hSw => by go_simp; try (intro hcm; exact absurd hcm (by omega))⟩) hHeld ?_
                  try simp only [zP, zQ, zS, zZ, zC]
                  refine wt (i := 10) (oi := ⟨some 168, .load 9 (.tmp 167), 9, "law.go:233", #[⟨9, .data⟩], none⟩) (v := .string s2) (Or.inl ⟨by rfl, fun w' hSw => by have hc := CS2 w' hSw; go_simp⟩) hHeld ?_
                  try simp only [zP, zQ, zS, zZ, zC]
                  refine wt (i := 11) (oi := ⟨some 169, .move (.tmp 23), 63, "law.go:233", #[], none⟩) (v := .slice (some ⟨pb, 0, none⟩) 5 5) (Or.inl ⟨by rfl, fun w' hSw => by go_simp⟩) hHeld ?_
                  try simp only [zP, zQ, zS, zZ, zC]
                  refine wt (i := 12) (oi := ⟨some 170, .move (.tmp 25), 3, "law.go:233", #[], none⟩) (v := .int .i64 (i : Int)) (Or.inl ⟨by rfl, fun w' hSw => by go_simp⟩) hHeld ?_
                  try simp only [zP, zQ, zS, zZ, zC]
                  refine wt (i := 13) (oi := ⟨some 171, .indexAddr 63 (.tmp 169) (.tmp 170), 0, "law.go:233", #[⟨11, .data⟩, ⟨12, .data⟩], none⟩) (v := .pointer (some ⟨pb, i * 4, none⟩)) (Or.inl ⟨by rfl, fun w' hSw => by go_simp; try (intro hcm; exact absurd hcm (by omega))⟩) hHeld ?_
                  try simp only [zP, zQ, zS, zZ, zC]
                  refine wt (i := 14) (oi := ⟨some 172, .load 54 (.tmp 171), 54, "law.go:233", #[⟨13, .data⟩], none⟩) (v := _) (yieldsIf_load_mid (by rfl) _ _ rfl pb (i * 4) rfl [.int .i64 F, .int .i64 S, .slice q n0 c0, .slice sa k0 sc] _ (fun w' hSw => range_keep hrgD hpbD hSw) Tryd.underlying54 rfl (by kernel_rfl)) hHeld ?_
                  try simp only [zP, zQ, zS, zZ, zC]
                  refine wpAnyH_ready (rs := [15]) (by kernel_rfl) (by simp) ?_
                  refine AllReadyH.cons (o := ⟨some 173, .call { callee := .value (.func 29), args := #[.tmp 172], argTypes := #[54] }, 50, "law.go:233", #[⟨14, .data⟩], none⟩) rfl (fun K hK => ?_) AllReadyH.nil
                  rw [if_pos (by rfl)]
                  go_simp
                  refine (HPf.out Ua hHeld).mono ?_
                  rintro e Ub ⟨pp1, cc1, rfl, hc1, hq1, hL1, hS1, hB1⟩
                  dsimp only
                  refine hK.out _ _ (link hHeld hB1) (fun hHeld => ?_)
                  clear hK K
                  try simp only [zP, zQ, zS, zZ, zC]
                  refine wpAnyH_ready (rs := [16]) (by kernel_rfl) (by simp) ?_
                  refine AllReadyH.cons (o := ⟨some 174, .call { callee := .value (.func 31), args := #[.tmp 158, .tmp 162, .tmp 168, .tmp 173], argTypes := #[29, 9, 9, 50] }, 68, "law.go:233", #[⟨0, .data⟩, ⟨4, .data⟩, ⟨10, .data⟩, ⟨15, .data⟩, ⟨15, .chain⟩], none⟩) rfl (fun K hK => ?_) AllReadyH.nil
                  rw [if_pos (by rfl)]
                  go_simp
                  refine (HCg.out Ub pp1 cc1 hq1 hc1 (GD.keep hHeld) hL1 hS1).mono ?_
                  rintro e Uc ⟨v5, rfl, ⟨q5, c5, rfl, hc5, hL5⟩, hB2⟩
                  rw [ht0]
                  dsimp only
                  refine hK.out _ _ (link hHeld hB2) (fun hHeld => ?_)
                  clear hK K
                  try simp only [zP, zQ, zS, zZ, zC]
                  refine wt (i := 17) (oi := ⟨some 157, .move (.tmp 174), 68, "law.go:233", #[⟨16, .data⟩], none⟩) (v := .tuple #[.slice q5 t0 c5, .int .i64 zo]) (Or.inl ⟨by rfl, fun w' hSw => by go_simp⟩) hHeld ?_
                  try simp only [zP, zQ, zS, zZ, zC]
                  refine wt (i := 18) (oi := ⟨some 175, .extract (.tmp 157) 0, 33, "law.go:233", #[⟨17, .data⟩], none⟩) (v := .slice q5 t0 c5) (Or.inl ⟨by rfl, fun w' hSw => by go_simp⟩) hHeld ?_
                  try simp only [zP, zQ, zS, zZ, zC]
                  refine wt (i := 19) (oi := ⟨some 176, .extract (.tmp 157) 1, 30, "law.go:233", #[⟨17, .data⟩, { on := 20, ground := Ground.gcOnly Departure.lateStores }], none⟩) (v := .int .i64 zo) (Or.inl ⟨by rfl, fun w' hSw => by go_simp⟩) hHeld ?_
                  try simp only [zP, zQ, zS, zZ, zC]
                  refine wpAnyH_ready (rs := [20]) (by kernel_rfl) (by simp) ?_
                  refine AllReadyH.cons (o := ⟨some 32, .assign (.tmp 175), 33, "law.go:233", #[⟨18, .data⟩, ⟨16, .chain⟩, ⟨0, .phase⟩, ⟨1, .phase⟩, ⟨2, .phase⟩, ⟨3, .phase⟩, ⟨4, .phase⟩, ⟨5, .phase⟩, ⟨6, .phase⟩, ⟨7, .phase⟩, ⟨8, .phase⟩, ⟨9, .phase⟩, ⟨10, .phase⟩, ⟨11, .phase⟩, ⟨12, .phase⟩, ⟨13, .phase⟩, ⟨14, .phase⟩, ⟨15, .phase⟩, ⟨16, .phase⟩, ⟨17, .phase⟩, ⟨18, .phase⟩, { on := 19, ground := Ground.textOnly Departure.lateStores }], none⟩) rfl (fun K hK => ?_) AllReadyH.nil
                  go_simp
                  refine hK.out _ _ (hHeld) (fun hHeld => ?_)
                  clear hK K
                  try simp only [zP, zQ, zS, zZ, zC]
                  refine wpAnyH_ready (rs := [21]) (by kernel_rfl) (by simp) ?_
                  refine AllReadyH.cons (o := ⟨some 33, .assign (.tmp 176), 30, "law.go:233", #[⟨19, .data⟩, ⟨20, .chain⟩, ⟨0, .phase⟩, ⟨1, .phase⟩, ⟨2, .phase⟩, ⟨3, .phase⟩, ⟨4, .phase⟩, ⟨5, .phase⟩, ⟨6, .phase⟩, ⟨7, .phase⟩, ⟨8, .phase⟩, ⟨9, .phase⟩, ⟨10, .phase⟩, ⟨11, .phase⟩, ⟨12, .phase⟩, ⟨13, .phase⟩, ⟨14, .phase⟩, ⟨15, .phase⟩, ⟨16, .phase⟩, ⟨17, .phase⟩, ⟨18, .phase⟩, ⟨19, .phase⟩, ⟨20, .phase⟩], none⟩) rfl (fun K hK => ?_) AllReadyH.nil
                  go_simp
                  refine hK.out _ _ (hHeld) (fun hHeld => ?_)
                  clear hK K
                  try simp only [zP, zQ, zS, zZ, zC]
                  clear hB1 hB2 hL1 hS1 hc1 hq1 CS2
                  refine wpAnyH_done (by kernel_rfl) ?_ _
                  have BX := hHeld
                  clear hHeld CS
                  go_upto_region 24 with (fail)
                  have hOls : out.length ≤ 1000000 := hOl
                  by_cases hzo : zo = 0
                  · by_cases hes : out = ins
                    · as_aux_lemma =>
                        subst hzo
                        refine wp_region_held_drew (S := fun w' => Below Wd.heap.size Wd w') (by kernel_rfl) (below_drew BX) (fun _ => ?_)
                        have hHeld := below_drew BX
                        clear BX
                        replace hL5 : OwnL (World.drew Uc) q5 out := hL5.keep (below_drew (Below.refl _ _))
                        have CS : ∀ w', Below Wd.heap.size Wd w' → w'.cell? ⟨kb, j, none⟩ = some (.string s) := fun w' h => (h.cell (p := ⟨kb, j, none⟩) hkb).trans hck
                        have CS2 : ∀ w', Below Wd.heap.size Wd w' → w'.cell? ⟨kb, jn, none⟩ = some (.string s2) := fun w' h => (h.cell (p := ⟨kb, jn, none⟩) hkb).trans hck2
                        generalize World.drew _ = Ua at hHeld hL5 ⊢
                        refine wt (i := 0) (oi := ⟨some 177, .move (.tmp 33), 30, "law.go:234", #[], none⟩) (v := .int .i64 0) (Or.inl ⟨by rfl, fun w' hSw => by go_simp⟩) hHeld ?_
                        try simp only [zP, zQ, zS, zZ, zC]
                        refine wt (i := 1) (oi := ⟨some 178, .binOp .eql 30 (.tmp 177) (.const (Value.int IntKind.i64 0)) 30, 4, "law.go:234", #[⟨0, .data⟩], none⟩) (v := .bool true) (Or.inl ⟨by rfl, fun w' hSw => by go_simp⟩) hHeld ?_
                        try simp only [zP, zQ, zS, zZ, zC]
                        refine wt (i := 2) (oi := ⟨some 179, .move (.tmp 178), 4, "law.go:234", #[⟨1, .data⟩], none⟩) (v := .bool true) (Or.inl ⟨by rfl, fun w' hSw => by go_simp⟩) hHeld ?_
                        try simp only [zP, zQ, zS, zZ, zC]
                        refine wt (i := 3) (oi := ⟨some 180, .move (.tmp 32), 33, "law.go:234", #[⟨2, .guard⟩], some (2, true)⟩) (v := .slice q5 t0 c5) (Or.inl ⟨by rfl, fun w' hSw => by go_simp⟩) hHeld ?_
                        try simp only [zP, zQ, zS, zZ, zC]
                        refine wt (i := 5) (oi := ⟨some 182, .move (.tmp 15), 24, "law.go:234", #[⟨2, .guard⟩], some (2, true)⟩) (v := .slice q1 m1 c1) (Or.inl ⟨by rfl, fun w' hSw => by go_simp⟩) hHeld ?_
                        try simp only [zP, zQ, zS, zZ, zC]
                        refine wt (i := 6) (oi := ⟨some 183, .move (.tmp 24), 47, "law.go:234", #[⟨2, .guard⟩], some (2, true)⟩) (v := .slice (some ⟨kb, 0, none⟩) 3 3) (Or.inl ⟨by rfl, fun w' hSw => by go_simp⟩) hHeld ?_
                        try simp only [zP, zQ, zS, zZ, zC]
                        refine wt (i := 7) (oi := ⟨some 184, .move (.tmp 26), 3, "law.go:234", #[⟨2, .guard⟩], some (2, true)⟩) (v := .int .i64 (j : Int)) (Or.inl ⟨by rfl, fun w' hSw => by go_simp⟩) hHeld ?_
                        try simp only [zP, zQ, zS, zZ, zC]
                        refine wt (i := 8) (oi := ⟨some 185, .indexAddr 47 (.tmp 183) (.tmp 184), 0, "law.go:234", #[⟨6, .data⟩, ⟨7, .data⟩, ⟨2, .guard⟩], some (2, true)⟩) (v := .pointer (some ⟨kb, j, none⟩)) (Or.inl ⟨by rfl, fun w' hSw => by go_simp; try (intro hcm; exact absurd hcm (by omega))⟩) hHeld ?_
                        try simp only [zP, zQ, zS, zZ, zC]
                        refine wt (i := 9) (oi := ⟨some 186, .load 9 (.tmp 185), 9, "law.go:234", #[⟨8, .data⟩, ⟨2, .guard⟩], some (2, true)⟩) (v := .string s) (Or.inl ⟨by rfl, fun w' hSw => by have hc := CS w' hSw; go_simp⟩) hHeld ?_
                        try simp only [zP, zQ, zS, zZ, zC]
                        refine wt (i := 10) (oi := ⟨some 187, .move (.tmp 24), 47, "law.go:234", #[⟨2, .guard⟩], some (2, true)⟩) (v := .slice (some ⟨kb, 0, none⟩) 3 3) (Or.inl ⟨by rfl, fun w' hSw => by go_simp⟩) hHeld ?_
                        try simp only [zP, zQ, zS, zZ, zC]
                        refine wt (i := 11) (oi := ⟨some 188, .move (.tmp 26), 3, "law.go:234", #[⟨2, .guard⟩], some (2, true)⟩) (v := .int .i64 (j : Int)) (Or.inl ⟨by rfl, fun w' hSw => by go_simp⟩) hHeld ?_
                        try simp only [zP, zQ, zS, zZ, zC]
                        refine wt (i := 12) (oi := ⟨some 189, .binOp .add 3 (.tmp 188) (.const (Value.int IntKind.i64 1)) 3, 3, "law.go:234", #[⟨11, .data⟩, ⟨2, .guard⟩], some (2, true)⟩) (v := .int .i64 ((j : Int) + 1)) (Or.inl ⟨by rfl, fun w' hSw => by have hjw := HJ.out.2.1; go_simp⟩) hHeld ?_
                        try simp only [zP, zQ, zS, zZ, zC]
                        refine wt (i := 13) (oi := ⟨some 190, .binOp .rem 3 (.tmp 189) (.const (Value.int IntKind.i64 3)) 3, 3, "law.go:234", #[⟨12, .data⟩, ⟨2, .guard⟩], some (2, true)⟩) (v := .int .i64 (jn : Int)) (Or.inl ⟨by rfl, fun w' hSw => by have hjm := HJ.out.1; have hjw2 := HJ.out.2.2; go_simp⟩) hHeld ?_
                        try simp only [zP, zQ, zS, zZ, zC]
                        refine wt (i := 14) (oi := ⟨some 191, .indexAddr 47 (.tmp 187) (.tmp 190), 0, "law.go:234", #[⟨10, .data⟩, ⟨13, .data⟩, ⟨2, .guard⟩], some (2, true)⟩) (v := .pointer (some ⟨kb, jn, none⟩)) (Or.inl ⟨by rfl, fun w' hSw => by go_simp; try (intro hcm; exact absurd hcm (by omega))⟩) hHeld ?_
                        try simp only [zP, zQ, zS, zZ, zC]
                        refine wt (i := 15) (oi := ⟨some 192, .load 9 (.tmp 191), 9, "law.go:234", #[⟨14, .data⟩, ⟨2, .guard⟩], some (2, true)⟩) (v := .string s2) (Or.inl ⟨by rfl, fun w' hSw => by have hc := CS2 w' hSw; go_simp⟩) hHeld ?_
                        try simp only [zP, zQ, zS, zZ, zC]
                        refine wpAnyH_ready (rs := [4]) (by kernel_rfl) (by simp) ?_
                        refine AllReadyH.cons (o := ⟨some 181, .call { callee := .value (.func 17), args := #[.tmp 180], argTypes := #[33] }, 24, "law.go:234", #[⟨3, .data⟩, ⟨2, .chain⟩, ⟨2, .guard⟩], some (2, true)⟩) rfl (fun K hK => ?_) AllReadyH.nil
                        rw [if_pos (by rfl)]
                        go_simp
                        refine (plain_at out q5 t0 c5 ht0 (by omega) _ hL5).mono ?_
                        rintro e Ub ⟨q7, c7, rfl, L7, hB7⟩
                        dsimp only
                        refine hK.out _ _ (link hHeld hB7) (fun hHeld => ?_)
                        clear hK K
                        try simp only [zP, zQ, zS, zZ, zC]
                        clear hB7 hL5
                        refine wpAnyH_ready (rs := [16]) (by kernel_rfl) (by simp) ?_
                        refine AllReadyH.cons (o := ⟨some 193, .call { callee := .value (.func 35), args := #[.tmp 182, .tmp 186, .tmp 192], argTypes := #[24, 9, 9] }, 24, "law.go:234", #[⟨5, .data⟩, ⟨9, .data⟩, ⟨15, .data⟩, ⟨4, .chain⟩, ⟨2, .guard⟩], some (2, true)⟩) rfl (fun K hK => ?_) AllReadyH.nil
                        rw [if_pos (by rfl)]
                        go_simp
                        refine (HIn.out Ub hHeld).mono ?_
                        rintro e Uc2 ⟨v8, rfl, hO8, hB8⟩
                        obtain ⟨⟨q8, c8, rfl, hc8, L8⟩, _, _⟩ := RL_lvs hO8
                        rw [ht6]
                        dsimp only
                        replace L7 := L7.keep hB8
                        refine hK.out _ _ (link hHeld hB8) (fun hHeld => ?_)
                        clear hK K
                        try simp only [zP, zQ, zS, zZ, zC]
                        clear hB8 hO8 hc8
                        refine wpAnyH_ready (rs := [17]) (by kernel_rfl) (by simp) ?_
                        refine AllReadyH.cons (o := ⟨some 194, .call { callee := .value (.func 33), args := #[.tmp 181, .tmp 193], argTypes := #[24, 24] }, 4, "law.go:234", #[⟨4, .data⟩, ⟨16, .data⟩, ⟨16, .chain⟩, ⟨2, .guard⟩], some (2, true)⟩) rfl (fun K hK => ?_) AllReadyH.nil
                        rw [if_pos (by rfl)]
                        go_simp
                        refine (sameLeaves_any out ins q7 q8 t0 c7 t6 c8 ht0 ht6 (by omega) (by omega) Uc2 L7 L8).mono ?_
                        rintro e Ud2 ⟨rfl, hB8⟩
                        rw [decide_eq_true hes]
                        dsimp only
                        refine hK.out _ _ (link hHeld hB8) (fun hHeld => ?_)
                        clear hK K
                        try simp only [zP, zQ, zS, zZ, zC]
                        clear hB8 L7 L8
                        refine wt (i := 18) (oi := ⟨some 195, .unOp .not 4 (.tmp 194), 4, "law.go:234", #[⟨17, .data⟩, ⟨2, .guard⟩], some (2, true)⟩) (v := .bool false) (Or.inl ⟨by rfl, fun w' hSw => by go_simp⟩) hHeld ?_
                        try simp only [zP, zQ, zS, zZ, zC]
                        refine wt (i := 19) (oi := ⟨some 196, .pick (.tmp 179) (.tmp 195) (.const (Value.bool false)), 4, "law.go:234", #[⟨2, .data⟩, ⟨18, .data⟩], none⟩) (v := .bool false) (Or.inl ⟨by rfl, fun w' hSw => by go_simp⟩) hHeld ?_
                        try simp only [zP, zQ, zS, zZ, zC]
                        refine wt (i := 20) (oi := ⟨some 197, .move (.tmp 196), 4, "law.go:234", #[⟨19, .data⟩, ⟨17, .chain⟩], none⟩) (v := .bool false) (Or.inl ⟨by rfl, fun w' hSw => by go_simp⟩) hHeld ?_
                        try simp only [zP, zQ, zS, zZ, zC]
                        refine wt (i := 21) (oi := ⟨some 198, .move (.tmp 15), 24, "law.go:234", #[⟨20, .guard⟩], some (20, true)⟩) (v := undef) (Or.inr ⟨by rfl, rfl⟩) hHeld ?_
                        try simp only [zP, zQ, zS, zZ, zC]
                        refine wt (i := 22) (oi := ⟨some 199, .move (.tmp 23), 63, "law.go:234", #[⟨20, .guard⟩], some (20, true)⟩) (v := undef) (Or.inr ⟨by rfl, rfl⟩) hHeld ?_
                        try simp only [zP, zQ, zS, zZ, zC]
                        refine wt (i := 23) (oi := ⟨some 200, .move (.tmp 25), 3, "law.go:234", #[⟨20, .guard⟩], some (20, true)⟩) (v := undef) (Or.inr ⟨by rfl, rfl⟩) hHeld ?_
                        try simp only [zP, zQ, zS, zZ, zC]
                        refine wt (i := 24) (oi := ⟨some 201, .indexAddr 63 (.tmp 199) (.tmp 200), 0, "law.go:234", #[⟨22, .data⟩, ⟨23, .data⟩, ⟨20, .guard⟩], some (20, true)⟩) (v := undef) (Or.inr ⟨by rfl, rfl⟩) hHeld ?_
                        try simp only [zP, zQ, zS, zZ, zC]
                        refine wt (i := 25) (oi := ⟨some 202, .load 54 (.tmp 201), 54, "law.go:234", #[⟨24, .data⟩, ⟨20, .guard⟩], some (20, true)⟩) (v := undef) (Or.inr ⟨by rfl, rfl⟩) hHeld ?_
                        try simp only [zP, zQ, zS, zZ, zC]
                        refine wt (i := 26) (oi := ⟨some 203, .call { callee := .value (.func 36), args := #[.tmp 198, .tmp 202], argTypes := #[24, 54] }, 4, "law.go:234", #[⟨21, .data⟩, ⟨25, .data⟩, ⟨20, .chain⟩, ⟨20, .guard⟩], some (20, true)⟩) (v := undef) (Or.inr ⟨by rfl, rfl⟩) hHeld ?_
                        try simp only [zP, zQ, zS, zZ, zC]
                        refine wt (i := 27) (oi := ⟨some 204, .unOp .not 4 (.tmp 203), 4, "law.go:234", #[⟨26, .data⟩, ⟨20, .guard⟩], some (20, true)⟩) (v := undef) (Or.inr ⟨by rfl, rfl⟩) hHeld ?_
                        try simp only [zP, zQ, zS, zZ, zC]
                        refine wt (i := 28) (oi := ⟨some 205, .pick (.tmp 197) (.tmp 204) (.const (Value.bool false)), 4, "law.go:234", #[⟨20, .data⟩, ⟨27, .data⟩], none⟩) (v := .bool false) (Or.inl ⟨by rfl, fun w' hSw => by go_simp⟩) hHeld ?_
                        try simp only [zP, zQ, zS, zZ, zC]
                        refine wpAnyH_done (by kernel_rfl) ?_ _
                        have BX := hHeld
                        clear hHeld CS CS2
                        go_wp2
                        go_roundw
                        case rel => exact ⟨j + 1, by omega, by go_num, BX⟩
                        case measure => simp [intOf]; omega
                    · as_aux_lemma =>
                        subst hzo
                        refine wp_region_held_drew (S := fun w' => Below Wd.heap.size Wd w') (by kernel_rfl) (below_drew BX) (fun _ => ?_)
                        have hHeld := below_drew BX
                        clear BX
                        replace hL5 : OwnL (World.drew Uc) q5 out := hL5.keep (below_drew (Below.refl _ _))
                        have CS : ∀ w', Below Wd.heap.size Wd w' → w'.cell? ⟨kb, j, none⟩ = some (.string s) := fun w' h => (h.cell (p := ⟨kb, j, none⟩) hkb).trans hck
                        have CS2 : ∀ w', Below Wd.heap.size Wd w' → w'.cell? ⟨kb, jn, none⟩ = some (.string s2) := fun w' h => (h.cell (p := ⟨kb, jn, none⟩) hkb).trans hck2
                        generalize World.drew _ = Ua at hHeld hL5 ⊢
                        refine wt (i := 0) (oi := ⟨some 177, .move (.tmp 33), 30, "law.go:234", #[], none⟩) (v := .int .i64 0) (Or.inl ⟨by rfl, fun w' hSw => by go_simp⟩) hHeld ?_
                        try simp only [zP, zQ, zS, zZ, zC]
                        refine wt (i := 1) (oi := ⟨some 178, .binOp .eql 30 (.tmp 177) (.const (Value.int IntKind.i64 0)) 30, 4, "law.go:234", #[⟨0, .data⟩], none⟩) (v := .bool true) (Or.inl ⟨by rfl, fun w' hSw => by go_simp⟩) hHeld ?_
                        try simp only [zP, zQ, zS, zZ, zC]
                        refine wt (i := 2) (oi := ⟨some 179, .move (.tmp 178), 4, "law.go:234", #[⟨1, .data⟩], none⟩) (v := .bool true) (Or.inl ⟨by rfl, fun w' hSw => by go_simp⟩) hHeld ?_
                        try simp only [zP, zQ, zS, zZ, zC]
                        refine wt (i := 3) (oi := ⟨some 180, .move (.tmp 32), 33, "law.go:234", #[⟨2, .guard⟩], some (2, true)⟩) (v := .slice q5 t0 c5) (Or.inl ⟨by rfl, fun w' hSw => by go_simp⟩) hHeld ?_
                        try simp only [zP, zQ, zS, zZ, zC]
                        refine wt (i := 5) (oi := ⟨some 182, .move (.tmp 15), 24, "law.go:234", #[⟨2, .guard⟩], some (2, true)⟩) (v := .slice q1 m1 c1) (Or.inl ⟨by rfl, fun w' hSw => by go_simp⟩) hHeld ?_
                        try simp only [zP, zQ, zS, zZ, zC]
                        refine wt (i := 6) (oi := ⟨some 183, .move (.tmp 24), 47, "law.go:234", #[⟨2, .guard⟩], some (2, true)⟩) (v := .slice (some ⟨kb, 0, none⟩) 3 3) (Or.inl ⟨by rfl, fun w' hSw => by go_simp⟩) hHeld ?_
                        try simp only [zP, zQ, zS, zZ, zC]
                        refine wt (i := 7) (oi := ⟨some 184, .move (.tmp 26), 3, "law.go:234", #[⟨2, .guard⟩], some (2, true)⟩) (v := .int .i64 (j : Int)) (Or.inl ⟨by rfl, fun w' hSw => by go_simp⟩) hHeld ?_
                        try simp only [zP, zQ, zS, zZ, zC]
                        refine wt (i := 8) (oi := ⟨some 185, .indexAddr 47 (.tmp 183) (.tmp 184), 0, "law.go:234", #[⟨6, .data⟩, ⟨7, .data⟩, ⟨2, .guard⟩], some (2, true)⟩) (v := .pointer (some ⟨kb, j, none⟩)) (Or.inl ⟨by rfl, fun w' hSw => by go_simp; try (intro hcm; exact absurd hcm (by omega))⟩) hHeld ?_
                        try simp only [zP, zQ, zS, zZ, zC]
                        refine wt (i := 9) (oi := ⟨some 186, .load 9 (.tmp 185), 9, "law.go:234", #[⟨8, .data⟩, ⟨2, .guard⟩], some (2, true)⟩) (v := .string s) (Or.inl ⟨by rfl, fun w' hSw => by have hc := CS w' hSw; go_simp⟩) hHeld ?_
                        try simp only [zP, zQ, zS, zZ, zC]
                        refine wt (i := 10) (oi := ⟨some 187, .move (.tmp 24), 47, "law.go:234", #[⟨2, .guard⟩], some (2, true)⟩) (v := .slice (some ⟨kb, 0, none⟩) 3 3) (Or.inl ⟨by rfl, fun w' hSw => by go_simp⟩) hHeld ?_
                        try simp only [zP, zQ, zS, zZ, zC]
                        refine wt (i := 11) (oi := ⟨some 188, .move (.tmp 26), 3, "law.go:234", #[⟨2, .guard⟩], some (2, true)⟩) (v := .int .i64 (j : Int)) (Or.inl ⟨by rfl, fun w' hSw => by go_simp⟩) hHeld ?_
                        try simp only [zP, zQ, zS, zZ, zC]
                        refine wt (i := 12) (oi := ⟨some 189, .binOp .add 3 (.tmp 188) (.const (Value.int IntKind.i64 1)) 3, 3, "law.go:234", #[⟨11, .data⟩, ⟨2, .guard⟩], some (2, true)⟩) (v := .int .i64 ((j : Int) + 1)) (Or.inl ⟨by rfl, fun w' hSw => by have hjw := HJ.out.2.1; go_simp⟩) hHeld ?_
                        try simp only [zP, zQ, zS, zZ, zC]
                        refine wt (i := 13) (oi := ⟨some 190, .binOp .rem 3 (.tmp 189) (.const (Value.int IntKind.i64 3)) 3, 3, "law.go:234", #[⟨12, .data⟩, ⟨2, .guard⟩], some (2, true)⟩) (v := .int .i64 (jn : Int)) (Or.inl ⟨by rfl, fun w' hSw => by have hjm := HJ.out.1; have hjw2 := HJ.out.2.2; go_simp⟩) hHeld ?_
                        try simp only [zP, zQ, zS, zZ, zC]
                        refine wt (i := 14) (oi := ⟨some 191, .indexAddr 47 (.tmp 187) (.tmp 190), 0, "law.go:234", #[⟨10, .data⟩, ⟨13, .data⟩, ⟨2, .guard⟩], some (2, true)⟩) (v := .pointer (some ⟨kb, jn, none⟩)) (Or.inl ⟨by rfl, fun w' hSw => by go_simp; try (intro hcm; exact absurd hcm (by omega))⟩) hHeld ?_
                        try simp only [zP, zQ, zS, zZ, zC]
                        refine wt (i := 15) (oi := ⟨some 192, .load 9 (.tmp 191), 9, "law.go:234", #[⟨14, .data⟩, ⟨2, .guard⟩], some (2, true)⟩) (v := .string s2) (Or.inl ⟨by rfl, fun w' hSw => by have hc := CS2 w' hSw; go_simp⟩) hHeld ?_
                        try simp only [zP, zQ, zS, zZ, zC]
                        refine wpAnyH_ready (rs := [4]) (by kernel_rfl) (by simp) ?_
                        refine AllReadyH.cons (o := ⟨some 181, .call { callee := .value (.func 17), args := #[.tmp 180], argTypes := #[33] }, 24, "law.go:234", #[⟨3, .data⟩, ⟨2, .chain⟩, ⟨2, .guard⟩], some (2, true)⟩) rfl (fun K hK => ?_) AllReadyH.nil
                        rw [if_pos (by rfl)]
                        go_simp
                        refine (plain_at out q5 t0 c5 ht0 (by omega) _ hL5).mono ?_
                        rintro e Ub ⟨q7, c7, rfl, L7, hB7⟩
                        dsimp only
                        refine hK.out _ _ (link hHeld hB7) (fun hHeld => ?_)
                        clear hK K
                        try simp only [zP, zQ, zS, zZ, zC]
                        clear hB7 hL5
                        refine wpAnyH_ready (rs := [16]) (by kernel_rfl) (by simp) ?_
                        refine AllReadyH.cons (o := ⟨some 193, .call { callee := .value (.func 35), args := #[.tmp 182, .tmp 186, .tmp 192], argTypes := #[24, 9, 9] }, 24, "law.go:234", #[⟨5, .data⟩, ⟨9, .data⟩, ⟨15, .data⟩, ⟨4, .chain⟩, ⟨2, .guard⟩], some (2, true)⟩) rfl (fun K hK => ?_) AllReadyH.nil
                        rw [if_pos (by rfl)]
                        go_simp
                        refine (HIn.out Ub hHeld).mono ?_
                        rintro e Uc2 ⟨v8, rfl, hO8, hB8⟩
                        obtain ⟨⟨q8, c8, rfl, hc8, L8⟩, _, _⟩ := RL_lvs hO8
                        rw [ht6]
                        dsimp only
                        replace L7 := L7.keep hB8
                        refine hK.out _ _ (link hHeld hB8) (fun hHeld => ?_)
                        clear hK K
                        try simp only [zP, zQ, zS, zZ, zC]
                        clear hB8 hO8 hc8
                        refine wpAnyH_ready (rs := [17]) (by kernel_rfl) (by simp) ?_
                        refine AllReadyH.cons (o := ⟨some 194, .call { callee := .value (.func 33), args := #[.tmp 181, .tmp 193], argTypes := #[24, 24] }, 4, "law.go:234", #[⟨4, .data⟩, ⟨16, .data⟩, ⟨16, .chain⟩, ⟨2, .guard⟩], some (2, true)⟩) rfl (fun K hK => ?_) AllReadyH.nil
                        rw [if_pos (by rfl)]
                        go_simp
                        refine (sameLeaves_any out ins q7 q8 t0 c7 t6 c8 ht0 ht6 (by omega) (by omega) Uc2 L7 L8).mono ?_
                        rintro e Ud2 ⟨rfl, hB8⟩
                        rw [decide_eq_false hes]
                        dsimp only
                        refine hK.out _ _ (link hHeld hB8) (fun hHeld => ?_)
                        clear hK K
                        try simp only [zP, zQ, zS, zZ, zC]
                        clear hB8 L7 L8
                        refine wt (i := 18) (oi := ⟨some 195, .unOp .not 4 (.tmp 194), 4, "law.go:234", #[⟨17, .data⟩, ⟨2, .guard⟩], some (2, true)⟩) (v := .bool true) (Or.inl ⟨by rfl, fun w' hSw => by go_simp⟩) hHeld ?_
                        try simp only [zP, zQ, zS, zZ, zC]
                        refine wt (i := 19) (oi := ⟨some 196, .pick (.tmp 179) (.tmp 195) (.const (Value.bool false)), 4, "law.go:234", #[⟨2, .data⟩, ⟨18, .data⟩], none⟩) (v := .bool true) (Or.inl ⟨by rfl, fun w' hSw => by go_simp⟩) hHeld ?_
                        try simp only [zP, zQ, zS, zZ, zC]
                        refine wt (i := 20) (oi := ⟨some 197, .move (.tmp 196), 4, "law.go:234", #[⟨19, .data⟩, ⟨17, .chain⟩], none⟩) (v := .bool true) (Or.inl ⟨by rfl, fun w' hSw => by go_simp⟩) hHeld ?_
                        try simp only [zP, zQ, zS, zZ, zC]
                        refine wt (i := 21) (oi := ⟨some 198, .move (.tmp 15), 24, "law.go:234", #[⟨20, .guard⟩], some (20, true)⟩) (v := .slice q1 m1 c1) (Or.inl ⟨by rfl, fun w' hSw => by go_simp⟩) hHeld ?_
                        try simp only [zP, zQ, zS, zZ, zC]
                        refine wt (i := 22) (oi := ⟨some 199, .move (.tmp 23), 63, "law.go:234", #[⟨20, .guard⟩], some (20, true)⟩) (v := .slice (some ⟨pb, 0, none⟩) 5 5) (Or.inl ⟨by rfl, fun w' hSw => by go_simp⟩) hHeld ?_
                        try simp only [zP, zQ, zS, zZ, zC]
                        refine wt (i := 23) (oi := ⟨some 200, .move (.tmp 25), 3, "law.go:234", #[⟨20, .guard⟩], some (20, true)⟩) (v := .int .i64 (i : Int)) (Or.inl ⟨by rfl, fun w' hSw => by go_simp⟩) hHeld ?_
                        try simp only [zP, zQ, zS, zZ, zC]
                        refine wt (i := 24) (oi := ⟨some 201, .indexAddr 63 (.tmp 199) (.tmp 200), 0, "law.go:234", #[⟨22, .data⟩, ⟨23, .data⟩, ⟨20, .guard⟩], some (20, true)⟩) (v := .pointer (some ⟨pb, i * 4, none⟩)) (Or.inl ⟨by rfl, fun w' hSw => by go_simp; try (intro hcm; exact absurd hcm (by omega))⟩) hHeld ?_
                        try simp only [zP, zQ, zS, zZ, zC]
                        refine wt (i := 25) (oi := ⟨some 202, .load 54 (.tmp 201), 54, "law.go:234", #[⟨24, .data⟩, ⟨20, .guard⟩], some (20, true)⟩) (v := _) (yieldsIf_load_mid (by rfl) _ _ rfl pb (i * 4) rfl [.int .i64 F, .int .i64 S, .slice q n0 c0, .slice sa k0 sc] _ (fun w' hSw => range_keep hrgD hpbD hSw) Tryd.underlying54 rfl (by kernel_rfl)) hHeld ?_
                        try simp only [zP, zQ, zS, zZ, zC]
                        refine wpAnyH_ready (rs := [26]) (by kernel_rfl) (by simp) ?_
                        refine AllReadyH.cons (o := ⟨some 203, .call { callee := .value (.func 36), args := #[.tmp 198, .tmp 202], argTypes := #[24, 54] }, 4, "law.go:234", #[⟨21, .data⟩, ⟨25, .data⟩, ⟨20, .chain⟩, ⟨20, .guard⟩], some (20, true)⟩) rfl (fun K hK => ?_) AllReadyH.nil
                        rw [if_pos (by rfl)]
                        go_simp
                        refine (HCo.out Ud2 hHeld).mono ?_
                        rintro e Ue2 ⟨b9, rfl, hb9, hB9⟩
                        obtain rfl : b9 = true := (by rcases b9 with _ | _; exact absurd (HG.out (hb9 rfl) rfl) hes; rfl)
                        dsimp only
                        refine hK.out _ _ (link hHeld hB9) (fun hHeld => ?_)
                        clear hK K
                        try simp only [zP, zQ, zS, zZ, zC]
                        clear hB9 hb9
                        refine wt (i := 27) (oi := ⟨some 204, .unOp .not 4 (.tmp 203), 4, "law.go:234", #[⟨26, .data⟩, ⟨20, .guard⟩], some (20, true)⟩) (v := .bool false) (Or.inl ⟨by rfl, fun w' hSw => by go_simp⟩) hHeld ?_
                        try simp only [zP, zQ, zS, zZ, zC]
                        refine wt (i := 28) (oi := ⟨some 205, .pick (.tmp 197) (.tmp 204) (.const (Value.bool false)), 4, "law.go:234", #[⟨20, .data⟩, ⟨27, .data⟩], none⟩) (v := .bool false) (Or.inl ⟨by rfl, fun w' hSw => by go_simp⟩) hHeld ?_
                        try simp only [zP, zQ, zS, zZ, zC]
                        refine wpAnyH_done (by kernel_rfl) ?_ _
                        have BX := hHeld
                        clear hHeld CS CS2
                        go_wp2
                        go_roundw
                        case rel => exact ⟨j + 1, by omega, by go_num, BX⟩
                        case measure => simp [intOf]; omega
                  · as_aux_lemma =>
                      have hzb : (zo == 0) = false := by simp [hzo]
                      refine wp_region_held_drew (S := fun w' => Below Wd.heap.size Wd w') (by kernel_rfl) (below_drew BX) (fun _ => ?_)
                      have hHeld := below_drew BX
                      clear BX
                      replace hL5 : OwnL (World.drew Uc) q5 out := hL5.keep (below_drew (Below.refl _ _))
                      have CS : ∀ w', Below Wd.heap.size Wd w' → w'.cell? ⟨kb, j, none⟩ = some (.string s) := fun w' h => (h.cell (p := ⟨kb, j, none⟩) hkb).trans hck
                      have CS2 : ∀ w', Below Wd.heap.size Wd w' → w'.cell? ⟨kb, jn, none⟩ = some (.string s2) := fun w' h => (h.cell (p := ⟨kb, jn, none⟩) hkb).trans hck2
                      generalize World.drew _ = Ua at hHeld hL5 ⊢
                      refine wt (i := 0) (oi := ⟨some 177, .move (.tmp 33), 30, "law.go:234", #[], none⟩) (v := .int .i64 zo) (Or.inl ⟨by rfl, fun w' hSw => by go_simp⟩) hHeld ?_
                      try simp only [zP, zQ, zS, zZ, zC]
                      refine wt (i := 1) (oi := ⟨some 178, .binOp .eql 30 (.tmp 177) (.const (Value.int IntKind.i64 0)) 30, 4, "law.go:234", #[⟨0, .data⟩], none⟩) (v := .bool false) (Or.inl ⟨by rfl, fun w' hSw => by go_simp⟩) hHeld ?_
                      try simp only [zP, zQ, zS, zZ, zC]
                      refine wt (i := 2) (oi := ⟨some 179, .move (.tmp 178), 4, "law.go:234", #[⟨1, .data⟩], none⟩) (v := .bool false) (Or.inl ⟨by rfl, fun w' hSw => by go_simp⟩) hHeld ?_
                      try simp only [zP, zQ, zS, zZ, zC]
                      refine wt (i := 3) (oi := ⟨some 180, .move (.tmp 32), 33, "law.go:234", #[⟨2, .guard⟩], some (2, true)⟩) (v := undef) (Or.inr ⟨by rfl, rfl⟩) hHeld ?_
                      try simp only [zP, zQ, zS, zZ, zC]
                      refine wt (i := 4) (oi := ⟨some 181, .call { callee := .value (.func 17), args := #[.tmp 180], argTypes := #[33] }, 24, "law.go:234", #[⟨3, .data⟩, ⟨2, .chain⟩, ⟨2, .guard⟩], some (2, true)⟩) (v := undef) (Or.inr ⟨by rfl, rfl⟩) hHeld ?_
                      try simp only [zP, zQ, zS, zZ, zC]
                      refine wt (i := 5) (oi := ⟨some 182, .move (.tmp 15), 24, "law.go:234", #[⟨2, .guard⟩], some (2, true)⟩) (v := undef) (Or.inr ⟨by rfl, rfl⟩) hHeld ?_
                      try simp only [zP, zQ, zS, zZ, zC]
                      refine wt (i := 6) (oi := ⟨some 183, .move (.tmp 24), 47, "law.go:234", #[⟨2, .guard⟩], some (2, true)⟩) (v := undef) (Or.inr ⟨by rfl, rfl⟩) hHeld ?_
                      try simp only [zP, zQ, zS, zZ, zC]
                      refine wt (i := 7) (oi := ⟨some 184, .move (.tmp 26), 3, "law.go:234", #[⟨2, .guard⟩], some (2, true)⟩) (v := undef) (Or.inr ⟨by rfl, rfl⟩) hHeld ?_
                      try simp only [zP, zQ, zS, zZ, zC]
                      refine wt (i := 8) (oi := ⟨some 185, .indexAddr 47 (.tmp 183) (.tmp 184), 0, "law.go:234", #[⟨6, .data⟩, ⟨7, .data⟩, ⟨2, .guard⟩], some (2, true)⟩) (v := undef) (Or.inr ⟨by rfl, rfl⟩) hHeld ?_
                      try simp only [zP, zQ, zS, zZ, zC]
                      refine wt (i := 9) (oi := ⟨some 186, .load 9 (.tmp 185), 9, "law.go:234", #[⟨8, .data⟩, ⟨2, .guard⟩], some (2, true)⟩) (v := undef) (Or.inr ⟨by rfl, rfl⟩) hHeld ?_
                      try simp only [zP, zQ, zS, zZ, zC]
                      refine wt (i := 10) (oi := ⟨some 187, .move (.tmp 24), 47, "law.go:234", #[⟨2, .guard⟩], some (2, true)⟩) (v := undef) (Or.inr ⟨by rfl, rfl⟩) hHeld ?_
                      try simp only [zP, zQ, zS, zZ, zC]
                      refine wt (i := 11) (oi := ⟨some 188, .move (.tmp 26), 3, "law.go:234", #[⟨2, .guard⟩], some (2, true)⟩) (v := undef) (Or.inr ⟨by rfl, rfl⟩) hHeld ?_
                      try simp only [zP, zQ, zS, zZ, zC]
                      refine wt (i := 12) (oi := ⟨some 189, .binOp .add 3 (.tmp 188) (.const (Value.int IntKind.i64 1)) 3, 3, "law.go:234", #[⟨11, .data⟩, ⟨2, .guard⟩], some (2, true)⟩) (v := undef) (Or.inr ⟨by rfl, rfl⟩) hHeld ?_
                      try simp only [zP, zQ, zS, zZ, zC]
                      refine wt (i := 13) (oi := ⟨some 190, .binOp .rem 3 (.tmp 189) (.const (Value.int IntKind.i64 3)) 3, 3, "law.go:234", #[⟨12, .data⟩, ⟨2, .guard⟩], some (2, true)⟩) (v := undef) (Or.inr ⟨by rfl, rfl⟩) hHeld ?_
                      try simp only [zP, zQ, zS, zZ, zC]
                      refine wt (i := 14) (oi := ⟨some 191, .indexAddr 47 (.tmp 187) (.tmp 190), 0, "law.go:234", #[⟨10, .data⟩, ⟨13, .data⟩, ⟨2, .guard⟩], some (2, true)⟩) (v := undef) (Or.inr ⟨by rfl, rfl⟩) hHeld ?_
                      try simp only [zP, zQ, zS, zZ, zC]
                      refine wt (i := 15) (oi := ⟨some 192, .load 9 (.tmp 191), 9, "law.go:234", #[⟨14, .data⟩, ⟨2, .guard⟩], some (2, true)⟩) (v := undef) (Or.inr ⟨by rfl, rfl⟩) hHeld ?_
                      try simp only [zP, zQ, zS, zZ, zC]
                      refine wt (i := 16) (oi := ⟨some 193, .call { callee := .value (.func 35), args := #[.tmp 182, .tmp 186, .tmp 192], argTypes := #[24, 9, 9] }, 24, "law.go:234", #[⟨5, .data⟩, ⟨9, .data⟩, ⟨15, .data⟩, ⟨4, .chain⟩, ⟨2, .guard⟩], some (2, true)⟩) (v := undef) (Or.inr ⟨by rfl, rfl⟩) hHeld ?_
                      try simp only [zP, zQ, zS, zZ, zC]
                      refine wt (i := 17) (oi := ⟨some 194, .call { callee := .value (.func 33), args := #[.tmp 181, .tmp 193], argTypes := #[24, 24] }, 4, "law.go:234", #[⟨4, .data⟩, ⟨16, .data⟩, ⟨16, .chain⟩, ⟨2, .guard⟩], some (2, true)⟩) (v := undef) (Or.inr ⟨by rfl, rfl⟩) hHeld ?_
                      try simp only [zP, zQ, zS, zZ, zC]
                      refine wt (i := 18) (oi := ⟨some 195, .unOp .not 4 (.tmp 194), 4, "law.go:234", #[⟨17, .data⟩, ⟨2, .guard⟩], some (2, true)⟩) (v := undef) (Or.inr ⟨by rfl, rfl⟩) hHeld ?_
                      try simp only [zP, zQ, zS, zZ, zC]
                      refine wt (i := 19) (oi := ⟨some 196, .pick (.tmp 179) (.tmp 195) (.const (Value.bool false)), 4, "law.go:234", #[⟨2, .data⟩, ⟨18, .data⟩], none⟩) (v := .bool false) (Or.inl ⟨by rfl, fun w' hSw => by go_simp⟩) hHeld ?_
                      try simp only [zP, zQ, zS, zZ, zC]
                      refine wt (i := 20) (oi := ⟨some 197, .move (.tmp 196), 4, "law.go:234", #[⟨19, .data⟩, ⟨17, .chain⟩], none⟩) (v := .bool false) (Or.inl ⟨by rfl, fun w' hSw => by go_simp⟩) hHeld ?_
                      try simp only [zP, zQ, zS, zZ, zC]
                      refine wt (i := 21) (oi := ⟨some 198, .move (.tmp 15), 24, "law.go:234", #[⟨20, .guard⟩], some (20, true)⟩) (v := undef) (Or.inr ⟨by rfl, rfl⟩) hHeld ?_
                      try simp only [zP, zQ, zS, zZ, zC]
                      refine wt (i := 22) (oi := ⟨some 199, .move (.tmp 23), 63, "law.go:234", #[⟨20, .guard⟩], some (20, true)⟩) (v := undef) (Or.inr ⟨by rfl, rfl⟩) hHeld ?_
                      try simp only [zP, zQ, zS, zZ, zC]
                      refine wt (i := 23) (oi := ⟨some 200, .move (.tmp 25), 3, "law.go:234", #[⟨20, .guard⟩], some (20, true)⟩) (v := undef) (Or.inr ⟨by rfl, rfl⟩) hHeld ?_
                      try simp only [zP, zQ, zS, zZ, zC]
                      refine wt (i := 24) (oi := ⟨some 201, .indexAddr 63 (.tmp 199) (.tmp 200), 0, "law.go:234", #[⟨22, .data⟩, ⟨23, .data⟩, ⟨20, .guard⟩], some (20, true)⟩) (v := undef) (Or.inr ⟨by rfl, rfl⟩) hHeld ?_
                      try simp only [zP, zQ, zS, zZ, zC]
                      refine wt (i := 25) (oi := ⟨some 202, .load 54 (.tmp 201), 54, "law.go:234", #[⟨24, .data⟩, ⟨20, .guard⟩], some (20, true)⟩) (v := undef) (Or.inr ⟨by rfl, rfl⟩) hHeld ?_
                      try simp only [zP, zQ, zS, zZ, zC]
                      refine wt (i := 26) (oi := ⟨some 203, .call { callee := .value (.func 36), args := #[.tmp 198, .tmp 202], argTypes := #[24, 54] }, 4, "law.go:234", #[⟨21, .data⟩, ⟨25, .data⟩, ⟨20, .chain⟩, ⟨20, .guard⟩], some (20, true)⟩) (v := undef) (Or.inr ⟨by rfl, rfl⟩) hHeld ?_
                      try simp only [zP, zQ, zS, zZ, zC]
                      refine wt (i := 27) (oi := ⟨some 204, .unOp .not 4 (.tmp 203), 4, "law.go:234", #[⟨26, .data⟩, ⟨20, .guard⟩], some (20, true)⟩) (v := undef) (Or.inr ⟨by rfl, rfl⟩) hHeld ?_
                      try simp only [zP, zQ, zS, zZ, zC]
                      refine wt (i := 28) (oi := ⟨some 205, .pick (.tmp 197) (.tmp 204) (.const (Value.bool false)), 4, "law.go:234", #[⟨20, .data⟩, ⟨27, .data⟩], none⟩) (v := .bool false) (Or.inl ⟨by rfl, fun w' hSw => by go_simp⟩) hHeld ?_
                      try simp only [zP, zQ, zS, zZ, zC]
                      refine wpAnyH_done (by kernel_rfl) ?_ _
                      have BX := hHeld
                      clear hHeld CS CS2
                      go_wp2
                      go_roundw
                      case rel => exact ⟨j + 1, by omega, by go_num, BX⟩
                      case measure => simp [intOf]; omega
        · go_wp2
          go_roundw
          case rel => exact ⟨i + 1, by omega, by go_num, BX⟩
          case measure => simp [intOf]; omega
    · go_wp2_with (go_at_call 18; refine (HLv.out _ (GD.keep hB)).mono ?_; rintro e V16 ⟨rfl, X16⟩)
      go_ret
      exact ⟨rfl, link B2 (link (link BD hB) X16)⟩

end Go.Proofs.YtfhfmdnimebegaaDoor
