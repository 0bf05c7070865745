/-
  MerkleComplete, for all arguments. Conditions: the tables of the package hash lie as the program lays them when the call begins (the card ties them to the text); no other.
-/
import Derived.Test.YtfhfmdnimebegaaDoorD4

namespace Go.Proofs.YtfhfmdnimebegaaDoor
open Go.RowKit
set_option linter.unusedVariables false
set_option linter.unusedSimpArgs false

theorem same_self (out : List Lf) (q q' : Option Addr) (t c c' : Nat) (ht : out.length = t) (hout : t ≤ 1000000) (V : World) (h1 : OwnL V q out) (h2 : OwnL V q' out) :
    Calls Tryd.prog 33 #[.slice q t c, .slice q' t c'] V fun e w' => e = .returned (.bool true) ∧ Below V.heap.size V w' := by
  have := sameLeaves_any out out q q' t c t c' ht ht hout hout V h1 h2
  rw [decide_eq_true rfl] at this
  exact this
theorem has_lt {ls : List Lf} {key : ByteArray} (h : 0 ≤ hasM ls key) : ∃ i : Nat, hasM ls key = (i : Int) ∧ i < ls.length := by
  unfold hasM at h ⊢
  split at h
  · rename_i j hj
    exact ⟨j, rfl, (List.findIdx?_eq_some_iff_getElem.1 hj).1⟩
  · omega

set_option maxHeartbeats 8000000 in
set_option maxRecDepth 100000 in
theorem complete_law (hLv : ∀ V, Glob V → Calls Tryd.prog 18 #[] V (Told V true)) (A : Option Addr) (l : List Int) (n c : Nat) (hl : l.length = n) (x y : Int) (hx1 : -9223372036854775808 ≤ x) (hx2 : x ≤ 9223372036854775807) (hy1 : -9223372036854775808 ≤ y) (hy2 : y ≤ 9223372036854775807) (w : World) (hG : Glob w) (hA : IntsAt w A l) :
    Calls Tryd.prog 6 #[.slice A n c, .int .i64 x, .int .i64 y] w (Told w true) := by
  have HLv := Lib.hid (fun (V : World) (g : Glob V) => hLv V g)
  have HLe := Lib.hid (leaves_any A l n c hl w hA)
  clear hl hA hLv
  have hz1 := zero_dig'
  have hz16 : (bytesV z16).toArray.toList.length = 16 := rfl
  go_enter Tryd.func6, Tryd.ntmps6
  go_upto_region 2 with (go_at_call 9; refine HLe.out.mono ?_; rintro e W1 ⟨v1, ls, rfl, hO1, hv, hl11, hB1⟩)
  obtain ⟨⟨qa, ca, rfl, hca, hLa⟩, _, _⟩ := RL_lvs hO1
  have G1 := hG.keep hB1
  have hS : Small ls := small_of (valid_zero hv).2.1
  obtain ⟨n1, hn1⟩ : ∃ n1, ls.length = n1 := ⟨_, rfl⟩
  rw [hn1] at hl11 ⊢
  have HOw := Lib.hid (fun (V : World) (hB : Below W1.heap.size W1 V) => own_at ls qa n1 ca hn1 hl11 V (hLa.keep hB))
  have HRt := Lib.hid (fun (V : World) (q : Option Addr) (cc : Nat) (g : Glob V) (hc : n1 ≤ cc) (hL : OwnL V q ls) => root_yes ls q n1 cc hn1 hc hv V g hL)
  have HKx := Lib.hid (fun (V : World) (hB : Below W1.heap.size W1 V) => lkey_any ls qa n1 ca hn1 hl11 x hx1 hx2 V (hLa.keep hB) hS)
  have HKy := Lib.hid (fun (V : World) (hB : Below W1.heap.size W1 V) => lkey_any ls qa n1 ca hn1 hl11 y hy1 hy2 V (hLa.keep hB) hS)
  have HN := Lib.hid hn1
  have HV := Lib.hid hv
  have HLa := Lib.hid hLa
  have hrd : Dgt (rootL ls) := rootL_dgt _
  obtain ⟨RT, hRT⟩ : ∃ RT, rootL ls = RT := ⟨_, rfl⟩
  rw [hRT] at HRt hrd
  have HR := Lib.hid hRT
  have hvR : (bytesV RT).length = 16 := by rw [bytesV_length]; exact hrd.1
  clear hn1 hv hLa hRT hO1 hca hS HLe
  go_upto_region 3 with (first
    | (go_at_call 12; refine (HOw.out W1 (Below.refl _ _)).mono ?_; rintro e W2 ⟨q2, c2, rfl, hc2, hq2, hL2, hB2⟩)
    | (go_at_call 11; refine (HRt.out _ q2 c2 (G1.keep hB2) hc2 hL2).mono ?_; rintro e W3 ⟨rfl, hB3⟩)
    | (refine store_blk rfl 29 (.tmp 8) (.tmp 28) rfl (blk_new W3 29 (bytesV z16).toArray) rfl rfl (m := 16) (by kernel_rfl) hvR hz16 (bytesV_cells RT) ?_; intro V3 K3 O3))
  have B3 : Below W1.heap.size W1 V3 := link (link hB2 hB3) (O3.2.2 _ _ (Nat.le_refl _) ((Below.refl _ _).alloc (Nat.le_refl _) _))
  have G3 := G1.keep B3
  clear hB2 hB3 O3 hL2 hc2 hq2 HRt hz1
  generalize W3.heap.size = tr at K3 ⊢
  go_upto_region 4 with (go_at_call 19; refine (HKx.out V3 B3).mono ?_; rintro e V4 ⟨s1, rfl, hB4⟩)
  have B4 := link B3 hB4
  have K4 := K3.keep hB4
  clear B3 K3 G3 HKx hB4
  go_upto_region 5 with (go_at_call 19; refine (HKy.out V4 B4).mono ?_; rintro e V5 ⟨s2, rfl, hB5⟩)
  have B5 := link B4 hB5
  have K5 := K4.keep hB5
  have G5 := G1.keep B5
  clear B4 K4 HKy hB5
  -- what the examples say for these keys
  obtain ⟨⟨F1, e1⟩, hp1⟩ : ∃ r, proveR ls s1 = r := ⟨_, rfl⟩
  have hrng := proveR_ok ls s1
  have hright := check_right ls HV.out s1
  have hfew := sides_few ls F1 e1 (by rw [HN.out]; exact hl11)
  have hdg := sides_dgts2 ls F1 e1
  rw [hp1] at hrng hright
  dsimp only at hrng hright
  rw [HN.out] at hrng hright hfew hdg
  have hplen : ((ls.drop F1).take (e1 - F1)).length ≤ 11 := by rw [List.length_take, List.length_drop, HN.out]; omega
  obtain ⟨part, hpart⟩ : ∃ part, (ls.drop F1).take (e1 - F1) = part := ⟨_, rfl⟩
  obtain ⟨sd, hsd⟩ : ∃ sd, sidesM ls F1 e1 0 n1 = sd := ⟨_, rfl⟩
  rw [hpart] at hright hplen
  rw [hsd] at hright hfew hdg
  rw [HR.out] at hright
  obtain ⟨m, hm⟩ : ∃ m, part.length = m := ⟨_, rfl⟩
  obtain ⟨k, hk⟩ : ∃ k, sd.length = k := ⟨_, rfl⟩
  rw [hm] at hplen
  rw [hk] at hfew
  have HPv := Lib.hid (fun (V : World) (q : Option Addr) (cc : Nat) (g : Glob V) (hc : n1 ≤ cc) (hq : n1 = 0 → q = none ∧ cc = 0) (hL : OwnL V q ls) => prove_at ls HV.out s1 F1 e1 hp1 part sd n1 m k HN.out hpart hsd hm hk q cc hc hq V g hL)
  have HHs := Lib.hid (fun (V : World) (hB : Below W1.heap.size W1 V) => has_any ls qa n1 ca HN.out (by omega) s1 V (HLa.out.keep hB))
  obtain ⟨⟨av, ab, ae⟩, ha⟩ : ∃ a, checkM RT s1 F1 n1 part sd = a := ⟨_, rfl⟩
  have HCk := Lib.hid (fun (V : World) (q : Option Addr) (cc : Nat) (sa : Option Addr) (sc : Nat) (g : Glob V) (hP : PV V F1 n1 part sd q cc sa sc) => check_at RT hrd s1 F1 n1 part sd hdg m k hm hplen hk (av, ab, ae) ha q cc sa sc V g hP)
  rw [ha] at hright
  have hk24 : ¬ (24 : Int) < (k : Int) := by omega
  clear hp1 hrng hdg hpart hsd hm hk ha hfew hplen
  unfold Right at hright
  dsimp only at hright HCk
  obtain ⟨rfl, hcase⟩ := hright
  go_upto_region 6 with (first
    | (go_at_call 12; refine (HOw.out V5 B5).mono ?_; rintro e W6 ⟨q6, c6, rfl, hc6, hq6, hL6, hB6⟩)
    | (go_at_call 21; refine (HPv.out _ q6 c6 (G5.keep hB6) hc6 hq6 hL6).mono ?_; rintro e U6 ⟨q7, c7, sa7, sc7, rfl, P7, hz7, hU6⟩)
    | (refine wpList_store_mid rfl 50 (.tmp 12) (.tmp 41) rfl U6.heap.size 0 #[.int .i64 (F1 : Int), .int .i64 (n1 : Int), .slice q7 m c7, .slice sa7 k sc7] rfl rfl (by simpa using (blk_new U6 50 #[.int .i64 0, .int .i64 0, .slice none 0 0, .slice none 0 0]).there 0 4 (by simp)) (by kernel_rfl) (all_oneCell_toArray (by intro v hv; simp at hv; rcases hv with rfl | rfl | rfl | rfl <;> rfl)) ?_))
  have N6 := new_struct U6 #[.int .i64 0, .int .i64 0, .slice none 0 0, .slice none 0 0] 50 [.int .i64 (F1 : Int), .int .i64 (n1 : Int), .slice q7 m c7, .slice sa7 k sc7] rfl
  have Y6 := N6.1
  have Kp6 := N6.2
  clear N6
  try dsimp only
  generalize World.setCells (World.alloc U6 _) U6.heap.size 0 _ = V6 at Y6 Kp6 ⊢
  have P8 := P7.keep Y6
  have X6 := link (link hB6 hU6) Y6
  have B6 := link B5 X6
  have G6 := G5.keep X6
  have K6 := K5.keep X6
  clear P7 hU6 Y6 X6 hB6 hL6 hc6 hq6 B5 G5 K5 HPv hz7
  generalize U6.heap.size = tp at Kp6 ⊢
  go_upto_region 7 with (first
    | (refine load_blk rfl 29 (.tmp 8) rfl K6 rfl Tryd.underlying29 (m := 16) (by kernel_rfl) hvR ?_)
    | (refine load_struct rfl 50 (.tmp 12) rfl Kp6 rfl Tryd.underlying50 (m := 4) (by kernel_rfl) rfl ?_)
    | (go_at_call 28; refine (HCk.out _ _ _ _ _ G6 P8).mono ?_; rintro e V7 ⟨rfl, X7⟩))
  have B7 := link B6 X7
  have G7 := G6.keep X7
  have K7 := K6.keep X7
  have Kp7 := Kp6.keep X7
  clear B6 G6 K6 Kp6 P8 X7 HCk
  have kp3 := Kp7.cell (j := 3) rfl
  go_upto_region 9 with (fail)
  clear kp3 Kp7 hk24
  go_upto_region 10 with (go_at_call 34; refine (HHs.out _ B7).mono ?_; rintro e V8 ⟨rfl, hB8⟩)
  have B8 := link B7 hB8
  have G8 := G7.keep hB8
  have K8 := K7.keep hB8
  clear B7 G7 K7 hB8 HHs
  rcases hcase with ⟨rfl, hge, hav⟩ | ⟨rfl, hneg, hav⟩
  · obtain ⟨i, hi, hil⟩ := has_lt hge
    rw [hi] at hav ⊢
    obtain ⟨b, off, hqa, hL9⟩ := HLa.out (by intro h; rw [h] at hil; simp at hil)
    have hcv := (B8.cell hL9.1).trans (hL9.at (List.getElem?_eq_getElem hil)).2
    have hvl : valAt ls ((i : Int)).toNat = (ls[i]'hil).2 := by unfold valAt; rw [Int.toNat_natCast, List.getElem?_eq_getElem hil]
    rw [← hvl, ← hav] at hcv
    have hin : i < n1 := by have := HN.out; omega
    have hmx : max (i : Int) 0 = (i : Int) := by omega
    subst hqa
    clear hge hav hi hil hL9 hvl
    go_upto_region 14 with (fail)
    clear hcv hin hmx
    rcases hs : sless s2 s1 with _ | _
    · obtain ⟨⟨F2, e2⟩, hp2⟩ : ∃ r, rangeR ls s1 s2 = r := ⟨_, rfl⟩
      have hrng := rangeR_ok ls s1 s2 hs
      have hright := crange_right ls HV.out s1 s2 hs
      have hdg := sides_dgts2 ls F2 e2
      rw [hp2] at hrng hright
      dsimp only at hrng hright
      rw [HN.out, HR.out] at hright
      rw [HN.out] at hrng hdg
      have hplen : ((ls.drop F2).take (e2 - F2)).length ≤ 11 := by rw [List.length_take, List.length_drop, HN.out]; omega
      obtain ⟨part2, hpart⟩ : ∃ part2, (ls.drop F2).take (e2 - F2) = part2 := ⟨_, rfl⟩
      obtain ⟨sd2, hsd⟩ : ∃ sd2, sidesM ls F2 e2 0 n1 = sd2 := ⟨_, rfl⟩
      rw [hpart, hsd] at hright
      rw [hpart] at hplen
      rw [hsd] at hdg
      obtain ⟨m2, hm⟩ : ∃ m2, part2.length = m2 := ⟨_, rfl⟩
      obtain ⟨k2, hk⟩ : ∃ k2, sd2.length = k2 := ⟨_, rfl⟩
      rw [hm] at hplen
      have hout : (insideM ls s1 s2).length ≤ 1000000 := by
        have h1 := List.length_filter_le (fun x : Lf => !sless x.1 s1 && sless x.1 s2) ls
        have := HN.out
        unfold insideM
        omega
      obtain ⟨out, ho⟩ : ∃ out, insideM ls s1 s2 = out := ⟨_, rfl⟩
      rw [ho] at hright hout
      obtain ⟨t, ht⟩ : ∃ t, out.length = t := ⟨_, rfl⟩
      rw [ht] at hout
      have HRg := Lib.hid (fun (V : World) (q : Option Addr) (cc : Nat) (g : Glob V) (hc : n1 ≤ cc) (hq : n1 = 0 → q = none ∧ cc = 0) (hL : OwnL V q ls) => range_at ls HV.out s1 s2 hs F2 e2 hp2 part2 sd2 n1 m2 k2 HN.out hpart hsd hm hk q cc hc hq V g hL)
      have HCr := Lib.hid (fun (V : World) (q : Option Addr) (cc : Nat) (hq : m2 = 0 → q = none ∧ cc = 0) (sa : Option Addr) (sc : Nat) (g : Glob V) (hP : PV V F2 n1 part2 sd2 q cc sa sc) => crange_at RT hrd s1 s2 F2 n1 part2 sd2 hdg m2 k2 hm hplen hk out hright t ht q cc hq sa sc V g hP)
      have HPl := Lib.hid (fun (V : World) (q : Option Addr) (cc : Nat) (hL : OwnL V q out) => plain_at out q t cc ht hout V hL)
      have HIn := Lib.hid (fun (V : World) (hB : Below W1.heap.size W1 V) => inside_at ls (some ⟨b, off, none⟩) n1 ca HN.out (by omega) s1 s2 out ho t ht V (HLa.out.keep hB))
      have HSm := Lib.hid (fun (V : World) (q q' : Option Addr) (cc c' : Nat) (h1 : OwnL V q out) (h2 : OwnL V q' out) => same_self out q q' t cc c' ht hout V h1 h2)
      unfold sless at hs
      clear hp2 hrng hright hdg hplen hpart hsd hm hk ho ht hout
      go_upto_region 15 with (first
        | (go_at_call 12; refine (HOw.out V8 B8).mono ?_; rintro e W9 ⟨q9, c9, rfl, hc9, hq9, hL9, hB9⟩)
        | (go_at_call 23; refine (HRg.out _ q9 c9 (G8.keep hB9) hc9 hq9 hL9).mono ?_; rintro e U9 ⟨q10, c10, sa10, sc10, rfl, P10, hz10, hU9⟩)
        | (refine wpList_store_mid rfl 50 (.tmp 18) (.tmp 99) rfl U9.heap.size 0 #[.int .i64 (F2 : Int), .int .i64 (n1 : Int), .slice q10 m2 c10, .slice sa10 k2 sc10] rfl rfl (by simpa using (blk_new U9 50 #[.int .i64 0, .int .i64 0, .slice none 0 0, .slice none 0 0]).there 0 4 (by simp)) (by kernel_rfl) (all_oneCell_toArray (by intro v hv; simp at hv; rcases hv with rfl | rfl | rfl | rfl <;> rfl)) ?_))
      have N9 := new_struct U9 #[.int .i64 0, .int .i64 0, .slice none 0 0, .slice none 0 0] 50 [.int .i64 (F2 : Int), .int .i64 (n1 : Int), .slice q10 m2 c10, .slice sa10 k2 sc10] rfl
      have Y9 := N9.1
      have Kp9 := N9.2
      clear N9
      try dsimp only
      generalize World.setCells (World.alloc U9 _) U9.heap.size 0 _ = V9 at Y9 Kp9 ⊢
      have P11 := P10.keep Y9
      have X9 := link (link hB9 hU9) Y9
      have B9 := link B8 X9
      have G9 := G8.keep X9
      have K9 := K8.keep X9
      clear P10 hU9 Y9 X9 hB9 hL9 hc9 hq9 B8 G8 K8 HRg HOw
      generalize U9.heap.size = tq at Kp9 ⊢
      go_upto_region 16 with (first
        | (refine load_blk rfl 29 (.tmp 8) rfl K9 rfl Tryd.underlying29 (m := 16) (by kernel_rfl) hvR ?_)
        | (refine load_struct rfl 50 (.tmp 18) rfl Kp9 rfl Tryd.underlying50 (m := 4) (by kernel_rfl) rfl ?_)
        | (go_at_call 31; refine (HCr.out _ _ _ hz10 _ _ G9 P11).mono ?_; rintro e V10 ⟨q12, c12, rfl, L12, X10⟩))
      have B10 := link B9 X10
      have G10 := G9.keep X10
      clear B9 G9 K9 Kp9 P11 X10 HCr hz10
      go_wp2_with (first
        | (go_at_call 17; refine (HPl.out _ _ _ L12).mono ?_; rintro e V13 ⟨q13, c13, rfl, L13, X13⟩)
        | (go_at_call 35; refine (HIn.out _ (link B10 X13)).mono ?_; rintro e V14 ⟨q14, c14, rfl, L14, X14⟩)
        | (go_at_call 33; refine (HSm.out _ _ _ _ _ (L13.keep X14) L14).mono ?_; rintro e V15 ⟨rfl, X15⟩)
        | (go_at_call 18; refine (HLv.out _ (G10.keep (link (link X13 X14) X15))).mono ?_; rintro e V16 ⟨rfl, X16⟩))
      go_ret
      exact ⟨rfl, link hB1 (link (link B10 (link (link X13 X14) X15)) X16)⟩
    · have HRg := Lib.hid (fun (V : World) (q : Option Addr) (cc : Nat) (hL : OwnL V q ls) => range_bad ls q n1 cc HN.out HV.out s1 s2 hs V hL)
      have HCr := Lib.hid (fun (V : World) => crange_bad RT s1 s2 hs 0 0 none 0 0 none 0 0 V)
      unfold sless at hs
      go_upto_region 15 with (first
        | (go_at_call 12; refine (HOw.out V8 B8).mono ?_; rintro e W9 ⟨q9, c9, rfl, hc9, hq9, hL9, hB9⟩)
        | (go_at_call 23; refine (HRg.out _ q9 c9 hL9).mono ?_; rintro e U9 ⟨rfl, hU9⟩)
        | (refine wpList_store_mid rfl 50 (.tmp 18) (.tmp 99) rfl U9.heap.size 0 zeroPrf.toArray rfl rfl (by simpa using (blk_new U9 50 #[.int .i64 0, .int .i64 0, .slice none 0 0, .slice none 0 0]).there 0 4 (by simp)) (by kernel_rfl) (all_oneCell_toArray zero_one) ?_))
      have N9 := new_struct U9 #[.int .i64 0, .int .i64 0, .slice none 0 0, .slice none 0 0] 50 zeroPrf rfl
      have Y9 := N9.1
      have Kp9 := N9.2
      clear N9
      try dsimp only
      generalize World.setCells (World.alloc U9 _) U9.heap.size 0 _ = V9 at Y9 Kp9 ⊢
      have X9 := link (link hB9 hU9) Y9
      have B9 := link B8 X9
      have G9 := G8.keep X9
      have K9 := K8.keep X9
      clear hU9 Y9 X9 hB9 hL9 hc9 hq9 B8 G8 K8 HRg HOw
      generalize U9.heap.size = tq at Kp9 ⊢
      go_upto_region 16 with (first
        | (refine load_blk rfl 29 (.tmp 8) rfl K9 rfl Tryd.underlying29 (m := 16) (by kernel_rfl) hvR ?_)
        | (refine load_struct rfl 50 (.tmp 18) rfl Kp9 rfl Tryd.underlying50 (m := 4) (by kernel_rfl) rfl ?_)
        | (go_at_call 31; refine (HCr.out _).mono ?_; rintro e V10 ⟨rfl, X10⟩))
      have B10 := link B9 X10
      have G10 := G9.keep X10
      clear B9 G9 K9 Kp9 X10 HCr
      go_wp2_with (go_at_call 18; refine (HLv.out _ G10).mono ?_; rintro e V16 ⟨rfl, X16⟩)
      go_ret
      exact ⟨rfl, link hB1 (link B10 X16)⟩
  · rw [hneg]
    subst hav
    clear hneg
    go_upto_region 14 with (fail)
    rcases hs : sless s2 s1 with _ | _
    · obtain ⟨⟨F2, e2⟩, hp2⟩ : ∃ r, rangeR ls s1 s2 = r := ⟨_, rfl⟩
      have hrng := rangeR_ok ls s1 s2 hs
      have hright := crange_right ls HV.out s1 s2 hs
      have hdg := sides_dgts2 ls F2 e2
      rw [hp2] at hrng hright
      dsimp only at hrng hright
      rw [HN.out, HR.out] at hright
      rw [HN.out] at hrng hdg
      have hplen : ((ls.drop F2).take (e2 - F2)).length ≤ 11 := by rw [List.length_take, List.length_drop, HN.out]; omega
      obtain ⟨part2, hpart⟩ : ∃ part2, (ls.drop F2).take (e2 - F2) = part2 := ⟨_, rfl⟩
      obtain ⟨sd2, hsd⟩ : ∃ sd2, sidesM ls F2 e2 0 n1 = sd2 := ⟨_, rfl⟩
      rw [hpart, hsd] at hright
      rw [hpart] at hplen
      rw [hsd] at hdg
      obtain ⟨m2, hm⟩ : ∃ m2, part2.length = m2 := ⟨_, rfl⟩
      obtain ⟨k2, hk⟩ : ∃ k2, sd2.length = k2 := ⟨_, rfl⟩
      rw [hm] at hplen
      have hout : (insideM ls s1 s2).length ≤ 1000000 := by
        have h1 := List.length_filter_le (fun x : Lf => !sless x.1 s1 && sless x.1 s2) ls
        have := HN.out
        unfold insideM
        omega
      obtain ⟨out, ho⟩ : ∃ out, insideM ls s1 s2 = out := ⟨_, rfl⟩
      rw [ho] at hright hout
      obtain ⟨t, ht⟩ : ∃ t, out.length = t := ⟨_, rfl⟩
      rw [ht] at hout
      have HRg := Lib.hid (fun (V : World) (q : Option Addr) (cc : Nat) (g : Glob V) (hc : n1 ≤ cc) (hq : n1 = 0 → q = none ∧ cc = 0) (hL : OwnL V q ls) => range_at ls HV.out s1 s2 hs F2 e2 hp2 part2 sd2 n1 m2 k2 HN.out hpart hsd hm hk q cc hc hq V g hL)
      have HCr := Lib.hid (fun (V : World) (q : Option Addr) (cc : Nat) (hq : m2 = 0 → q = none ∧ cc = 0) (sa : Option Addr) (sc : Nat) (g : Glob V) (hP : PV V F2 n1 part2 sd2 q cc sa sc) => crange_at RT hrd s1 s2 F2 n1 part2 sd2 hdg m2 k2 hm hplen hk out hright t ht q cc hq sa sc V g hP)
      have HPl := Lib.hid (fun (V : World) (q : Option Addr) (cc : Nat) (hL : OwnL V q out) => plain_at out q t cc ht hout V hL)
      have HIn := Lib.hid (fun (V : World) (hB : Below W1.heap.size W1 V) => inside_at ls qa n1 ca HN.out (by omega) s1 s2 out ho t ht V (HLa.out.keep hB))
      have HSm := Lib.hid (fun (V : World) (q q' : Option Addr) (cc c' : Nat) (h1 : OwnL V q out) (h2 : OwnL V q' out) => same_self out q q' t cc c' ht hout V h1 h2)
      unfold sless at hs
      clear hp2 hrng hright hdg hplen hpart hsd hm hk ho ht hout
      go_upto_region 15 with (first
        | (go_at_call 12; refine (HOw.out V8 B8).mono ?_; rintro e W9 ⟨q9, c9, rfl, hc9, hq9, hL9, hB9⟩)
        | (go_at_call 23; refine (HRg.out _ q9 c9 (G8.keep hB9) hc9 hq9 hL9).mono ?_; rintro e U9 ⟨q10, c10, sa10, sc10, rfl, P10, hz10, hU9⟩)
        | (refine wpList_store_mid rfl 50 (.tmp 18) (.tmp 99) rfl U9.heap.size 0 #[.int .i64 (F2 : Int), .int .i64 (n1 : Int), .slice q10 m2 c10, .slice sa10 k2 sc10] rfl rfl (by simpa using (blk_new U9 50 #[.int .i64 0, .int .i64 0, .slice none 0 0, .slice none 0 0]).there 0 4 (by simp)) (by kernel_rfl) (all_oneCell_toArray (by intro v hv; simp at hv; rcases hv with rfl | rfl | rfl | rfl <;> rfl)) ?_))
      have N9 := new_struct U9 #[.int .i64 0, .int .i64 0, .slice none 0 0, .slice none 0 0] 50 [.int .i64 (F2 : Int), .int .i64 (n1 : Int), .slice q10 m2 c10, .slice sa10 k2 sc10] rfl
      have Y9 := N9.1
      have Kp9 := N9.2
      clear N9
      try dsimp only
      generalize World.setCells (World.alloc U9 _) U9.heap.size 0 _ = V9 at Y9 Kp9 ⊢
      have P11 := P10.keep Y9
      have X9 := link (link hB9 hU9) Y9
      have B9 := link B8 X9
      have G9 := G8.keep X9
      have K9 := K8.keep X9
      clear P10 hU9 Y9 X9 hB9 hL9 hc9 hq9 B8 G8 K8 HRg HOw
      generalize U9.heap.size = tq at Kp9 ⊢
      go_upto_region 16 with (first
        | (refine load_blk rfl 29 (.tmp 8) rfl K9 rfl Tryd.underlying29 (m := 16) (by kernel_rfl) hvR ?_)
        | (refine load_struct rfl 50 (.tmp 18) rfl Kp9 rfl Tryd.underlying50 (m := 4) (by kernel_rfl) rfl ?_)
        | (go_at_call 31; refine (HCr.out _ _ _ hz10 _ _ G9 P11).mono ?_; rintro e V10 ⟨q12, c12, rfl, L12, X10⟩))
      have B10 := link B9 X10
      have G10 := G9.keep X10
      clear B9 G9 K9 Kp9 P11 X10 HCr hz10
      go_wp2_with (first
        | (go_at_call 17; refine (HPl.out _ _ _ L12).mono ?_; rintro e V13 ⟨q13, c13, rfl, L13, X13⟩)
        | (go_at_call 35; refine (HIn.out _ (link B10 X13)).mono ?_; rintro e V14 ⟨q14, c14, rfl, L14, X14⟩)
        | (go_at_call 33; refine (HSm.out _ _ _ _ _ (L13.keep X14) L14).mono ?_; rintro e V15 ⟨rfl, X15⟩)
        | (go_at_call 18; refine (HLv.out _ (G10.keep (link (link X13 X14) X15))).mono ?_; rintro e V16 ⟨rfl, X16⟩))
      go_ret
      exact ⟨rfl, link hB1 (link (link B10 (link (link X13 X14) X15)) X16)⟩
    · have HRg := Lib.hid (fun (V : World) (q : Option Addr) (cc : Nat) (hL : OwnL V q ls) => range_bad ls q n1 cc HN.out HV.out s1 s2 hs V hL)
      have HCr := Lib.hid (fun (V : World) => crange_bad RT s1 s2 hs 0 0 none 0 0 none 0 0 V)
      unfold sless at hs
      go_upto_region 15 with (first
        | (go_at_call 12; refine (HOw.out V8 B8).mono ?_; rintro e W9 ⟨q9, c9, rfl, hc9, hq9, hL9, hB9⟩)
        | (go_at_call 23; refine (HRg.out _ q9 c9 hL9).mono ?_; rintro e U9 ⟨rfl, hU9⟩)
        | (refine wpList_store_mid rfl 50 (.tmp 18) (.tmp 99) rfl U9.heap.size 0 zeroPrf.toArray rfl rfl (by simpa using (blk_new U9 50 #[.int .i64 0, .int .i64 0, .slice none 0 0, .slice none 0 0]).there 0 4 (by simp)) (by kernel_rfl) (all_oneCell_toArray zero_one) ?_))
      have N9 := new_struct U9 #[.int .i64 0, .int .i64 0, .slice none 0 0, .slice none 0 0] 50 zeroPrf rfl
      have Y9 := N9.1
      have Kp9 := N9.2
      clear N9
      try dsimp only
      generalize World.setCells (World.alloc U9 _) U9.heap.size 0 _ = V9 at Y9 Kp9 ⊢
      have X9 := link (link hB9 hU9) Y9
      have B9 := link B8 X9
      have G9 := G8.keep X9
      have K9 := K8.keep X9
      clear hU9 Y9 X9 hB9 hL9 hc9 hq9 B8 G8 K8 HRg HOw
      generalize U9.heap.size = tq at Kp9 ⊢
      go_upto_region 16 with (first
        | (refine load_blk rfl 29 (.tmp 8) rfl K9 rfl Tryd.underlying29 (m := 16) (by kernel_rfl) hvR ?_)
        | (refine load_struct rfl 50 (.tmp 18) rfl Kp9 rfl Tryd.underlying50 (m := 4) (by kernel_rfl) rfl ?_)
        | (go_at_call 31; refine (HCr.out _).mono ?_; rintro e V10 ⟨rfl, X10⟩))
      have B10 := link B9 X10
      have G10 := G9.keep X10
      clear B9 G9 K9 Kp9 X10 HCr
      go_wp2_with (go_at_call 18; refine (HLv.out _ G10).mono ?_; rintro e V16 ⟨rfl, X16⟩)
      go_ret
      exact ⟨rfl, link hB1 (link B10 X16)⟩

end Go.Proofs.YtfhfmdnimebegaaDoor
