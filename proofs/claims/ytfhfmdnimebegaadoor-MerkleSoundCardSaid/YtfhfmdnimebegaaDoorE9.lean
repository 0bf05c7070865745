/-
  The specification's Prove and Range. Conditions: as each theorem states them; no axiom beyond propext, Classical.choice, Quot.sound.
-/
import Derived.Test.YtfhfmdnimebegaaDoorE7
import Derived.Test.YtfhfmdnimebegaaDoorE8
import Derived.Laws.AppendOwnNone
import Derived.Test.YtfhfmdnimebegaaDoorE6

/-
  The reference's From: how many keys are less.
-/
namespace Go.Proofs.YtfhfmdnimebegaaDoor
open Go.RowKit
set_option linter.unusedVariables false
set_option linter.unusedSimpArgs false

/-- How many leaves have keys that are less than a key. -/
def countM (ls : List Lf) (key : ByteArray) : Nat := (ls.filter fun x => sless x.1 key).length
theorem count_step {ls : List Lf} {key : ByteArray} {k : Nat} {x : Lf} (hx : ls[k]? = some x) : countM (ls.take (k + 1)) key = countM (ls.take k) key + (if sless x.1 key = true then 1 else 0) := by
  unfold countM
  rw [take_snoc hx, List.filter_append, List.length_append]
  congr 1
  rw [List.filter_cons]
  split <;> rfl
theorem count_le (ls : List Lf) (key : ByteArray) : countM ls key ≤ ls.length := List.length_filter_le _ _
/-- In leaves in order those are the first ones. -/
theorem count_from (ls : List Lf) (key : ByteArray) (ho : ordered ls = true) : countM ls key = fromM ls key := by
  have hP := from_part ls key ho
  have hfl := fromM_le ls key
  unfold countM
  rw [filter_mid _ ls 0 (fromM ls key) (Nat.zero_le _) (fun t x ht _ => absurd ht (by omega)) (fun t x _ h2 hx => pred_false hx (hP.1 t h2)) (fun t x h1 hx => pred_true hx (hP.2 t h1 (List.getElem?_eq_some_iff.1 hx).1))]
  rw [List.length_take, List.length_drop]
  omega

set_option maxHeartbeats 2000000 in
set_option maxRecDepth 100000 in
theorem rfrom_any (ls : List Lf) (q : Option Addr) (n c : Nat) (hl : ls.length = n) (hn : n ≤ 1000000) (key : ByteArray) (w : World) (hL : OwnL w q ls) :
    Calls Tryd.prog 47 #[.slice q n c, .string key] w fun e w' => e = .returned (.int .i64 ((countM ls key : Nat) : Int)) ∧ Below w.heap.size w w' := by
  have HN := Lib.hid hl
  clear hl
  go_enter Tryd.func47, Tryd.ntmps47
  go_wp2
  go_loopw [5, 6] (fun u v wr => ∃ k m : Nat, k ≤ n ∧ v = .int .i64 k ∧ u = .int .i64 m ∧ countM (ls.take k) key = m ∧ m ≤ k ∧ Below w.heap.size w wr) (fun _ v _ => n - (intOf v).toNat)
  case atStart => exact ⟨0, 0, by omega, rfl, rfl, rfl, by omega, Below.refl _ _⟩
  case round =>
    obtain ⟨k, m, hk, rfl, rfl, hm, hmk, hB⟩ := hrel
    by_cases hlt : k < n
    · obtain ⟨x, hx⟩ : ∃ x, ls[k]? = some x := ⟨_, List.getElem?_eq_getElem (by rw [HN.out]; exact hlt)⟩
      obtain ⟨b, off, rfl, hL2⟩ := hL (by intro h0; rw [h0] at hx; simp at hx)
      have h1 := (hB.cell hL2.1).trans (hL2.at hx).1
      have hT := count_step (key := key) hx
      rw [hm] at hT
      rcases hs : sless x.1 key with _ | _
      · rw [hs] at hT
        have HT := Lib.hid (show countM (ls.take (k + 1)) key = m by rw [hT]; simp)
        unfold sless at hs
        clear hx hL hL2 hT hm
        go_wp2
        go_roundw
        case rel => exact ⟨k + 1, m, by omega, by go_num, rfl, HT.out, by omega, hB⟩
        case measure => simp [intOf]; omega
      · rw [hs] at hT
        have HT := Lib.hid (show countM (ls.take (k + 1)) key = m + 1 by rw [hT]; simp)
        unfold sless at hs
        clear hx hL hL2 hT hm
        go_wp2
        go_roundw
        case rel => exact ⟨k + 1, m + 1, by omega, by go_num, by go_num, HT.out, by omega, hB⟩
        case measure => simp [intOf]; omega
    · have he : countM ls key = m := by
        rw [List.take_of_length_le (by rw [HN.out]; omega)] at hm
        exact hm
      have HE := Lib.hid he
      clear hm he
      go_wp2
      go_ret
      exact ⟨by rw [HE.out]; rfl, hB⟩

end Go.Proofs.YtfhfmdnimebegaaDoor

/-
  The reference's sides.
-/
namespace Go.Proofs.YtfhfmdnimebegaaDoor
open Go.RowKit
set_option linter.unusedVariables false
set_option linter.unusedSimpArgs false

def SidesAt (ls : List Lf) (q : Option Addr) (n c F e x y : Nat) : Prop := ∀ (w : World), GlobR w → OwnL w q ls →
    Calls Tryd.prog 67 #[.slice q n c, .int .i64 (F : Int), .int .i64 (e : Int), .int .i64 (x : Int), .int .i64 (y : Int)] w fun en w' => ∃ v, en = .returned v ∧ OwnD w' w.heap.size v (sidesM ls F e x y) ∧ Below w.heap.size w w'
theorem digs_append (a b : List (List Nat)) : bytesV (a ++ b).flatten = bytesV a.flatten ++ bytesV b.flatten := by rw [List.flatten_append, bytesV_append]

set_option maxHeartbeats 2000000 in
set_option maxRecDepth 100000 in
theorem rsides_out (ls : List Lf) (q : Option Addr) (n c F e x y : Nat) (hl : ls.length = n) (hn : n ≤ 4096) (hSm : Small ls) (hxy : x < y) (hy : y ≤ n) (ho : y ≤ F ∨ e ≤ x) : SidesAt ls q n c F e x y := by
  intro w hR hL
  rw [sides_out ls F e x y hxy ho]
  obtain ⟨b, off, rfl, hL2⟩ := hL (by intro h; rw [h] at hl; simp at hl; omega)
  have hbw := hL2.1
  have HT := Lib.hid (fun (V : World) (hB : Below w.heap.size w V) (hTb : Blk V w.heap.size 90 zeroTree) =>
    (show Calls Tryd.prog 62 #[.pointer (some ⟨w.heap.size, 0, none⟩), .slice (some ⟨b, off, none⟩) n c, .int .i64 0, .int .i64 (x : Int), .int .i64 (y : Int)] V fun en w' => ∃ D tx u sh, rowTM ls 0 [] x y ([], 0, false) = (D, tx, u, sh) ∧ en = .returned (.agg (bytesV D).toArray) ∧ TStays V w' V.heap.size w.heap.size ∧ TW w' w.heap.size V.heap.size tx (.slice none 0 0) (u : Int) sh ∧ tx.length ≤ ([] : List ByteArray).length + 2 * (y - x) - 1 ∧ Dgt D from
      trow_any V V.heap.size w.heap.size hTb.lt (Nat.le_refl _) ls 0 [] (fun d hd => by cases hd) (some ⟨b, off, none⟩) n c hl hSm (by omega) none 0 0 rfl (by omega) (by omega)
        (fun w' h => hR.keep (h.lower hB (Nat.le_refl _) hB.size)) (fun w' h _ => ⟨b, off, rfl, hL2.keep (h.lower hB (Nat.le_refl _) hB.size)⟩)
        (fun _ b' off' i' e => by injection e with e; injection e with e1 e2 e3; have := hB.size; omega) (fun h => absurd rfl h)
        (y - x) x y rfl hxy (by omega) V [] 0 false (by simp; omega) (TStays.refl _ _ _) ⟨_, hTb, World.ownsRow_nil _ _ _ _⟩))
  have HD := Lib.hid (rowTM_all ls (y - x) x y ([], 0, false) (Nat.le_refl _) hxy (by omega))
  have hz2 := build_tree
  have key : y ≤ F ∨ (¬ y ≤ F ∧ e ≤ x) := by omega
  clear hR hL hL2 hSm hl ho hy
  go_enter Tryd.func67, Tryd.ntmps67
  rcases key with h1 | ⟨h0, h1⟩
  all_goals
    go_upto_region 3 with (fail)
    generalize hw2 : World.alloc _ _ = V2
    have hTb : Blk V2 w.heap.size 90 zeroTree := hw2 ▸ blk_new w _ _
    have CB : Below w.heap.size w V2 := hw2 ▸ (Below.refl _ _).alloc (Nat.le_refl _) _
    clear hw2
    go_wp2_with
     (go_at_call 62
      refine (HT.out V2 CB hTb).mono ?_
      rintro en V3 ⟨D, tx, u, sh, hr, rfl, hS3, _, _, hD⟩
      have hfd := fold_dig D hD.1
      have hvD : (bytesV D).length = 16 := by rw [bytesV_length]; exact hD.1
      have HD1 := HD.out
      rw [hr] at HD1
      have HD2 := Lib.hid HD1
      clear hr HD1 hD)
    go_ret
    have C3 := hS3.lower CB (Nat.le_refl _) CB.size
    refine ⟨_, rfl, ?_, C3.alloc C3.size _⟩
    rw [show [rowM ((ls.drop x).take (y - x))] = [D] from congrArg (fun z => [z]) HD2.out.symm]
    unfold OwnD
    have := World.ownsRow_lit (e := 29) (size := 16) (base := w.heap.size) V3 (bytesV D).toArray 1 C3.size (by unfold maxLen; omega) (by simpa using hvD)
    simpa using this

theorem rsides_in (ls : List Lf) (q : Option Addr) (n c F e x y : Nat) (hxy : y = x + 1) (ho : ¬ (y ≤ F ∨ e ≤ x)) (hy : y ≤ 4096) : SidesAt ls q n c F e x y := by
  intro w hR hL
  rw [sides_in ls F e x y hxy ho]
  have h1 : ¬ y ≤ F := by omega
  have h2 : ¬ e ≤ x := by omega
  have w3 : wrap64 ((y : Int) - (x : Int)) = 1 := by unfold wrap64; omega
  clear hL hR ho hxy
  go_enter Tryd.func67, Tryd.ntmps67
  go_wp2
  go_ret
  exact ⟨_, rfl, World.ownsRow_nil _ _ _ _, Below.refl _ _⟩

end Go.Proofs.YtfhfmdnimebegaaDoor

/-
  The reference's sides, whole.
-/
namespace Go.Proofs.YtfhfmdnimebegaaDoor
open Go.RowKit
set_option linter.unusedVariables false
set_option linter.unusedSimpArgs false

theorem ownD_form {w : World} {B : Nat} {v : Value} {l : List (List Nat)} (h : OwnD w B v l) : (v = .slice none 0 0 ∧ l = []) ∨ ∃ g cap, v = .slice (some ⟨g, 0, none⟩) l.length cap ∧ ∀ j u, (bytesV l.flatten)[j]? = some u → w.cell? ((⟨g, 0, none⟩ : Addr).add j) = some u := by
  rcases h.2 with ⟨e, h0⟩ | ⟨g, cap, cur, e, _⟩
  · exact Or.inl ⟨e, List.eq_nil_of_length_eq_zero h0⟩
  · exact Or.inr ⟨g, cap, e, fun j u hj => World.ownsRow.cells h (by rw [e]; rfl) j u hj⟩
theorem OwnD.base {w : World} {B B' : Nat} {v : Value} {l : List (List Nat)} (h : OwnD w B v l) (hB : B' ≤ B) : OwnD w B' v l := h.heap (fun _ _ => rfl) hB
theorem bytes_one (l : List Nat) : ∀ u ∈ bytesV l, u.oneCell' = true := by
  intro u hu
  obtain ⟨z, _, rfl⟩ := List.mem_map.1 hu
  rfl

set_option maxHeartbeats 2000000 in
set_option maxRecDepth 100000 in
theorem rsides_split (ls : List Lf) (q : Option Addr) (n c F e x y : Nat) (hxy : x + 1 < y) (ho : ¬ (y ≤ F ∨ e ≤ x)) (hy : y ≤ 4096)
    (H1 : SidesAt ls q n c F e x (x + half (y - x))) (H2 : SidesAt ls q n c F e (x + half (y - x)) y) : SidesAt ls q n c F e x y := by
  intro w hR hL
  rw [sides_split ls F e x y hxy ho]
  have hlt := half_lt (y - x) (by omega)
  have hpo := half_pos (y - x)
  have HM0 := fun w0 => rhalf_any (y - x) (by omega) (by omega) w0
  obtain ⟨m, hm⟩ : ∃ m, half (y - x) = m := ⟨_, rfl⟩
  rw [hm] at HM0 hlt hpo H1 H2 ⊢
  obtain ⟨k, hk⟩ : ∃ k, y - x = k := ⟨_, rfl⟩
  rw [hk] at HM0 hlt
  obtain ⟨z, hz⟩ : ∃ z, x + m = z := ⟨_, rfl⟩
  rw [hz] at H1 H2 ⊢
  have hxz : x < z := by omega
  have hzy : z < y := by omega
  have hl1 := sides_len ls F e x z hxz
  have hl2 := sides_len ls F e z y hzy
  unfold SidesAt at H1 H2
  generalize sidesM ls F e x z = L1 at H1 hl1 ⊢
  generalize sidesM ls F e z y = L2 at H2 hl2 ⊢
  have HM := Lib.hid HM0
  have HA := Lib.hid (H1 w hR hL)
  have HC := Lib.hid (fun (V : World) (hB : Below w.heap.size w V) => H2 V (hR.keep hB) (hL.keep hB))
  have hb1 : L1.length ≤ 4096 := by omega
  have hb2 : L2.length ≤ 4096 := by omega
  obtain ⟨i0, hi, hz0, hzz1, hzz2⟩ := info_parts diginfo
  have g1 : ¬ y ≤ F := by omega
  have g2 : ¬ e ≤ x := by omega
  have hk1 : ¬ ((y : Int) - (x : Int) = 1) := by omega
  have hk2 : ((y : Int) - (x : Int) == 1) = false := by simpa using hk1
  have hki : (y : Int) - (x : Int) = (k : Int) := by omega
  have hzi : (x : Int) + (m : Int) = (z : Int) := by omega
  have hzb : z ≤ 4096 := by omega
  clear H1 H2 hR hL hm hk hz ho HM0 hlt hpo hl1 hl2 hxy
  go_enter Tryd.func67, Tryd.ntmps67
  go_upto_region 7 with (go_at_call 76; refine (HM.out _).mono ?_; rintro en w1 ⟨rfl, hw1⟩; rw [hw1])
  go_wp2_with (first
    | (go_at_call_of 67 (Value.int IntKind.i64 (x : Int)); refine HA.out.mono ?_; rintro en W1 ⟨v1, rfl, hO1, hB1⟩)
    | (go_at_call 67; refine (HC.out W1 hB1).mono ?_; rintro en W2 ⟨v2, rfl, hO2, hB2⟩; have hO1' := hO1.keep hB2; have CB := link hB1 hB2; rcases ownD_form hO2 with ⟨rfl, rfl⟩ | ⟨gg, cap2, rfl, hc2⟩)
    | (at_builtin; refine wpList_append_own_none rfl (.tmp 44) (.tmp 50) 48 rfl w.heap.size 29 i0 16 Tryd.underlying48 hi v1 L1.length (bytesV L1.flatten) rfl hO1' rfl ?_)
    | (at_builtin; refine wpList_append_own _ rfl (.tmp 44) (.tmp 50) 48 rfl w.heap.size 29 i0 zeroDig 16 16 Tryd.underlying48 hi hz0 hzz1 hzz2 rfl (by decide) v1 L1.length (bytesV L1.flatten) rfl hO1' ⟨gg, 0, none⟩ L2.length cap2 (bytesV L2.flatten) rfl hO2.1 hc2 (bytes_one _) (by unfold maxLen; omega) (by omega) CB.size ?_; intro v3 W3 hO3 hg3 _))
  · go_ret
    exact ⟨_, rfl, by rw [List.append_nil]; exact hO1', CB⟩
  · go_ret
    refine ⟨_, rfl, ?_, CB.grown hg3 CB.size (fun j hj => (World.ownsRow.lt hO1' j hj).1)⟩
    unfold OwnD
    rw [digs_append, List.length_append]
    exact hO3
theorem rsides_any (ls : List Lf) (q : Option Addr) (n c F e : Nat) (hl : ls.length = n) (hn : n ≤ 4096) (hSm : Small ls) : ∀ (k x y : Nat), y - x = k → x < y → y ≤ n → SidesAt ls q n c F e x y := by
  intro k
  induction k using Nat.strongRecOn with
  | ind k ih =>
    intro x y hk hxy hy
    by_cases ho : y ≤ F ∨ e ≤ x
    · exact rsides_out ls q n c F e x y hl hn hSm hxy hy ho
    · by_cases h1 : y = x + 1
      · exact rsides_in ls q n c F e x y h1 ho (by omega)
      · have h3 := half_lt (y - x) (by omega)
        have h4 := half_pos (y - x)
        exact rsides_split ls q n c F e x y (by omega) ho (by omega) (ih (x + half (y - x) - x) (by omega) _ _ rfl (by omega) (by omega)) (ih (y - (x + half (y - x))) (by omega) _ _ rfl (by omega) hy)

end Go.Proofs.YtfhfmdnimebegaaDoor

/-
  The reference's Shown.
-/
namespace Go.Proofs.YtfhfmdnimebegaaDoor
open Go.RowKit
set_option linter.unusedVariables false
set_option linter.unusedSimpArgs false

theorem lvs_src {w : World} {b off : Nat} {ls : List Lf} (h : Lvs w b off ls) : ∀ j u, (leavesV ls)[j]? = some u → w.cell? ((⟨b, off, none⟩ : Addr).add j) = some u := by
  intro j u hj
  rw [Addr.add_mid]
  obtain ⟨i, x, hx, ⟨rfl, rfl⟩ | ⟨rfl, rfl⟩⟩ := leavesV_cell ls j u hj
  · exact (h.2 i x hx).1
  · exact (h.2 i x hx).2
theorem leavesV_one (ls : List Lf) : ∀ u ∈ leavesV ls, u.oneCell' = true := by
  intro u hu
  obtain ⟨j, hj⟩ := List.mem_iff_getElem?.1 hu
  obtain ⟨i, x, _, ⟨_, rfl⟩ | ⟨_, rfl⟩⟩ := leavesV_cell ls j u hj <;> rfl

set_option maxHeartbeats 4000000 in
set_option maxRecDepth 100000 in
theorem rshown_many (ls : List Lf) (b off n c F e : Nat) (hl : ls.length = n) (hn : n ≤ 4096) (hn0 : 0 < n) (hc : n ≤ c) (hFe : F < e) (hen : e ≤ n) (hS : Small ls) (w : World) (hR : GlobR w) (hL : Lvs w b off ls) :
    Calls Tryd.prog 48 #[.slice (some ⟨b, off, none⟩) n c, .int .i64 (F : Int), .int .i64 (e : Int)] w
      fun en w' => ∃ v, en = .returned v ∧ PrfV w' w.heap.size F n ((ls.drop F).take (e - F)) (sidesM ls F e 0 n) v ∧ Below w.heap.size w w' := by
  have hpl : ((ls.drop F).take (e - F)).length = e - F := by rw [List.length_take, List.length_drop]; omega
  have hLp : Lvs w b (off + F * 2) ((ls.drop F).take (e - F)) := by rw [Nat.mul_comm F 2]; exact (hL.drop F).take (e - F)
  have hsrc := Lib.hid (lvs_src hLp)
  have hbw := hL.1
  have HSd := Lib.hid (fun (V : World) (hB : Below w.heap.size w V) => (show Calls Tryd.prog 67 #[.slice (some ⟨b, off, none⟩) n c, .int .i64 (F : Int), .int .i64 (e : Int), .int .i64 0, .int .i64 (n : Int)] V fun en w' => ∃ v, en = .returned v ∧ OwnD w' V.heap.size v (sidesM ls F e 0 n) ∧ Below V.heap.size V w' from
    rsides_any ls (some ⟨b, off, none⟩) n c F e hl hn hS n 0 n rfl hn0 (Nat.le_refl _) V (hR.keep hB) (fun _ => ⟨b, off, rfl, hL.keep hB⟩)))
  generalize hPA : (ls.drop F).take (e - F) = part at hpl hsrc ⊢
  generalize sidesM ls F e 0 n = SD at HSd ⊢
  obtain ⟨i0, hi, hz0, hz1, hz2⟩ := info_parts RLinfo
  have hFec : F ≤ e := by omega
  have hecc : e ≤ c := by omega
  have hcF : ¬ c = F := by omega
  have hpn : (leavesV part).length = (e - F) * 2 := by rw [leavesV_length, hpl]
  have hef : e - F ≤ 4096 := by omega
  have hne0 : ¬ e - F = 0 := by omega
  clear hPA hL hR hS hl hLp
  go_enter Tryd.func48, Tryd.ntmps48
  go_upto_region 1 with (fail)
  generalize hw1 : World.alloc _ _ = W0
  have Kr : Blk W0 w.heap.size 54 zeroPrf := hw1 ▸ blk_new w _ _
  have KB : Below w.heap.size w W0 := hw1 ▸ ((Below.refl _ _).alloc (Nat.le_refl _) _)
  clear hw1
  have HF2 := Lib.hid (fun (V : World) (v : Value) (h : V.ownsRow W0.heap.size 75 2 v (0 + (e - F)) ([] ++ leavesV part)) (hv : v ≠ .slice none 0 0) => lvs_of_row (B := W0.heap.size) (n := e - F) (ls := part) hpl (by simpa using h) hv)
  have hcl : (W0.alloc (.cells #[] 75)).heap.size = W0.heap.size + 1 := by simp
  go_upto_region 2 with (first
    | (at_builtin; refine wpList_append_own _ rfl (.tmp 11) (.tmp 15) 24 rfl W0.heap.size 75 i0 zeroLeaf 2 32 Tryd.underlying24 hi hz0 hz1 hz2 rfl (by decide) _ _ _ rfl (World.ownsRow_made W0 #[] 0 (Nat.le_refl _) (Nat.zero_le _) (by simp)) ⟨b, off + F * 2, none⟩ (e - F) (c - F) (leavesV part) rfl hpn (fun j u hj => Lib.cell?_alloc_some _ ((KB.cell (by rw [add_block]; exact hbw)).trans (hsrc.out j u hj))) (leavesV_one part) (by unfold maxLen; omega) (by omega) (by simp) ?_; intro v2 W2 hO2 hg2 hn2; obtain ⟨g2, cap2, rfl, h2g, h2c, hL2⟩ := HF2.out W2 v2 hO2 (fun he => hne0 (hn2.1 he).2); clear hn2 hO2)
    | (refine wpList_store_mid rfl 54 (.tmp 7) (.tmp 17) rfl W2.heap.size 0 #[.int .i64 (F : Int), .int .i64 (n : Int), .slice (some ⟨g2, 0, none⟩) (e - F) cap2, .slice none 0 0] rfl rfl (by simpa using (blk_new W2 54 #[.int .i64 0, .int .i64 0, .slice none 0 0, .slice none 0 0]).there 0 4 (by simp)) (by kernel_rfl) (all_oneCell_toArray (by intro v hv; simp at hv; rcases hv with rfl | rfl | rfl | rfl <;> rfl)) ?_))
  replace hg2 : (W0.alloc (.cells #[] 75)).grownBy W2 (some W0.heap.size) := hg2
  have XB : Below W0.heap.size W0 W2 := ((Below.refl _ W0).alloc (Nat.le_refl _) _).grown hg2 (by simp) (fun j hj => by injection hj with hj; omega)
  have N3 := new_struct W2 #[.int .i64 0, .int .i64 0, .slice none 0 0, .slice none 0 0] 54 [.int .i64 (F : Int), .int .i64 (n : Int), .slice (some ⟨g2, 0, none⟩) (e - F) cap2, .slice none 0 0] rfl
  have Y3 := N3.1
  have Kp := N3.2
  clear N3
  try dsimp only
  generalize World.setCells (World.alloc W2 _) W2.heap.size 0 _ = V3 at Y3 Kp ⊢
  have CB := link (link KB XB) Y3
  have Kr3 := (Kr.keep XB).keep Y3
  have hL3 := hL2.keep Y3
  have hr0 := Kr.lt
  have hsz := XB.size
  have hg20 := hL2.1
  clear hg2 HF2 XB Y3 Kr KB hcl hL2
  obtain ⟨pb, hpb⟩ : ∃ pb, W2.heap.size = pb := ⟨_, rfl⟩
  rw [hpb] at Kp hsz hg20 ⊢
  have cp2 := Kp.cell (j := 3) rfl
  go_upto_region 4 with (go_at_call 67; refine (HSd.out V3 CB).mono ?_; rintro en V4 ⟨sv, rfl, hO4, hB4⟩; have Kp4 := Kp.keep hB4; have hf4 := Kp4.free 3; have hc4 := Kp4.cell (j := 3) rfl; obtain ⟨sa4, sc4, rfl, _⟩ := hO4.sdv)
  have hsz4 := hB4.size
  have CB4 := link CB hB4
  have Kr4 := Kr3.keep hB4
  have hL4 := hL3.keep hB4
  have Kp5 := Kp4.set 3 (.slice sa4 SD.length sc4)
  have O5 := only_sets pb 3 V4 [.slice sa4 SD.length sc4]
  have Kr5 := Kr4.other (a := ⟨pb, 3, none⟩) (by show w.heap.size ≠ pb; omega) (.slice sa4 SD.length sc4)
  have CB5 : Below w.heap.size w (V4.setCell ⟨pb, 3, none⟩ (.slice sa4 SD.length sc4)) := CB4.setCell (by show w.heap.size ≤ pb; omega) _
  have hh5 : ∀ j, j ≠ pb → (V4.setCell ⟨pb, 3, none⟩ (.slice sa4 SD.length sc4)).heap[j]? = V4.heap[j]? := fun j hj => heap_setCell_other V4 ⟨pb, 3, none⟩ j _ hj
  have hs5 : V4.heap.size ≤ (V4.setCell ⟨pb, 3, none⟩ (.slice sa4 SD.length sc4)).heap.size := Nat.le_of_eq O5.1.symm
  simp only [List.set_cons_succ, List.set_cons_zero] at Kp5
  have hL5 := hL4.heap (hh5 g2 (by omega)) hs5
  have hpv := Kp.lt
  have hO5 : OwnD (V4.setCell ⟨pb, 3, none⟩ (.slice sa4 SD.length sc4)) V3.heap.size (.slice sa4 SD.length sc4) SD := hO4.heap (fun j hj => hh5 j (by omega)) (Nat.le_refl _)
  have hw3 : w.heap.size ≤ V3.heap.size := CB.size
  clear hf4 hc4 Kp4 hO4 hB4 Kr4 hL4 CB4 O5 hh5 Kr3 hL3 Kp cp2 HSd CB
  generalize V4.setCell ⟨pb, 3, none⟩ (.slice sa4 SD.length sc4) = V5 at Kp5 Kr5 CB5 hs5 hL5 hO5 ⊢
  go_wp2_with (first
    | (refine load_struct rfl 54 (.tmp 7) rfl Kp5 rfl Tryd.underlying54 (m := 4) (by kernel_rfl) rfl ?_)
    | (refine wpList_store_mid rfl 54 (.tmp 6) (.tmp 28) rfl w.heap.size 0 #[.int .i64 (F : Int), .int .i64 (n : Int), .slice (some ⟨g2, 0, none⟩) (e - F) cap2, .slice sa4 SD.length sc4] rfl rfl (by simpa using Kr5.there 0 4 (by simp)) (by kernel_rfl) (all_oneCell_toArray (by intro v hv; simp at hv; rcases hv with rfl | rfl | rfl | rfl <;> rfl)) ?_))
  have h6 := heap_sets w.heap.size [.int .i64 (F : Int), .int .i64 (n : Int), .slice (some ⟨g2, 0, none⟩) (e - F) cap2, .slice sa4 SD.length sc4] V5 0
  have s6 := sets_size w.heap.size [.int .i64 (F : Int), .int .i64 (n : Int), .slice (some ⟨g2, 0, none⟩) (e - F) cap2, .slice sa4 SD.length sc4] V5 0
  have B6 := (only_sets w.heap.size 0 V5 [.int .i64 (F : Int), .int .i64 (n : Int), .slice (some ⟨g2, 0, none⟩) (e - F) cap2, .slice sa4 SD.length sc4]).2.2 _ _ (Nat.le_refl _) CB5
  have K6 : Blk (V5.setCells w.heap.size 0 [.int .i64 (F : Int), .int .i64 (n : Int), .slice (some ⟨g2, 0, none⟩) (e - F) cap2, .slice sa4 SD.length sc4]) w.heap.size 54 [.int .i64 (F : Int), .int .i64 (n : Int), .slice (some ⟨g2, 0, none⟩) (e - F) cap2, .slice sa4 SD.length sc4] := Kr5.all rfl
  try dsimp only at B6 ⊢
  generalize World.setCells V5 w.heap.size 0 [.int .i64 (F : Int), .int .i64 (n : Int), .slice (some ⟨g2, 0, none⟩) (e - F) cap2, .slice sa4 SD.length sc4] = V6 at h6 s6 B6 K6 ⊢
  exact bodyPost_ret (v := .agg #[.int .i64 (F : Int), .int .i64 (n : Int), .slice (some ⟨g2, 0, none⟩) (e - F) cap2, .slice sa4 SD.length sc4]) (K6.resultS (p := 6) (ty := 54) rfl _ rfl Tryd.underlying54 (by kernel_rfl)) rfl
    ⟨_, rfl, ⟨some ⟨g2, 0, none⟩, cap2, .slice sa4 SD.length sc4, by rw [hpl], fun _ => ⟨g2, 0, rfl, hL5.heap (h6 g2 (by omega)) (Nat.le_of_eq s6.symm)⟩, by rw [hpl]; exact h2c, fun b' off' i' he => by injection he with he; injection he with he; omega, (fun he => by rw [he] at hpl; simp at hpl; omega), hO5.heap (fun j hj => h6 j (by omega)) hw3⟩, B6⟩

end Go.Proofs.YtfhfmdnimebegaaDoor

/-
  The reference's Shown, whole.
-/
namespace Go.Proofs.YtfhfmdnimebegaaDoor
open Go.RowKit
set_option linter.unusedVariables false
set_option linter.unusedSimpArgs false

/-- A proof of the reference, where it lies: its leaves and sides in blocks from B on. -/
def RPrf (w : World) (B F n : Nat) (lf : List Lf) (sd : List (List Nat)) (v : Value) : Prop :=
  ∃ q c sv, v = .agg #[.int .i64 (F : Int), .int .i64 (n : Int), .slice q lf.length c, sv] ∧ (lf ≠ [] → ∃ b off, q = some ⟨b, off, none⟩ ∧ B ≤ b ∧ Lvs w b off lf) ∧ (lf.length ≤ c ∧ (q = none → c = 0)) ∧ OwnD w B sv sd
theorem PrfV.rprf {w : World} {B F n : Nat} {lf : List Lf} {sd : List (List Nat)} {v : Value} (h : PrfV w B F n lf sd v) : RPrf w B F n lf sd v := by
  obtain ⟨q, c, sv, e, hL, hc, hb, hz, hO⟩ := h
  refine ⟨q, c, sv, e, fun hne => ?_, ⟨hc, fun h => ?_⟩, hO⟩
  · obtain ⟨b, off, hq, hL2⟩ := hL hne
    exact ⟨b, off, hq, hb b off none hq, hL2⟩
  · by_cases hl : lf = []
    · exact (hz hl).2
    · obtain ⟨b, off, hq, _⟩ := hL hl
      rw [h] at hq
      cases hq
theorem RPrf.pv {w : World} {B F n : Nat} {lf : List Lf} {sd : List (List Nat)} {v : Value} (h : RPrf w B F n lf sd v) : ∃ q c sa sc, v = .agg #[.int .i64 (F : Int), .int .i64 (n : Int), .slice q lf.length c, .slice sa sd.length sc] ∧ PV w F n lf sd q c sa sc := by
  obtain ⟨q, c, sv, rfl, h1, h2, h4⟩ := h
  obtain ⟨sa, sc, rfl, h5⟩ := h4.sdv
  refine ⟨q, c, sa, sc, rfl, fun hne => ?_, h2.1, h5⟩
  obtain ⟨b, off, hq, _, hL2⟩ := h1 hne
  exact ⟨b, off, hq, hL2⟩
theorem RPrf.one {w : World} {B F n : Nat} {lf : List Lf} {sd : List (List Nat)} {v : Value} (h : RPrf w B F n lf sd v) : ∃ cs : List Value, v = .agg cs.toArray ∧ cs.length = 4 ∧ ∀ v ∈ cs, v.oneCell' = true := by
  obtain ⟨q, c, sv, rfl, _, _, hO⟩ := h
  refine ⟨[.int .i64 (F : Int), .int .i64 (n : Int), .slice q lf.length c, sv], rfl, rfl, ?_⟩
  intro v hv
  simp at hv
  rcases hv with rfl | rfl | rfl | rfl <;> first | rfl | exact one_own hO
theorem RPrf.heap {w w' : World} {B B' F n : Nat} {lf : List Lf} {sd : List (List Nat)} {v : Value} (h : RPrf w B F n lf sd v) (hh : ∀ j, B ≤ j → w'.heap[j]? = w.heap[j]?) (hs : w.heap.size ≤ w'.heap.size) (hB : B' ≤ B) : RPrf w' B' F n lf sd v := by
  obtain ⟨q, c, sv, e, hL, hc, hO⟩ := h
  refine ⟨q, c, sv, e, fun hne => ?_, hc, hO.heap hh hB⟩
  obtain ⟨b, off, hq, hb, hL2⟩ := hL hne
  exact ⟨b, off, hq, Nat.le_trans hB hb, hL2.heap (hh b hb) hs⟩

set_option maxHeartbeats 4000000 in
set_option maxRecDepth 100000 in
theorem rshown_nil (w : World) :
    Calls Tryd.prog 48 #[.slice none 0 0, .int .i64 0, .int .i64 0] w fun en w' => ∃ g, en = .returned (.agg #[.int .i64 0, .int .i64 0, .slice (some ⟨g, 0, none⟩) 0 0, .slice none 0 0]) ∧ Below w.heap.size w w' := by
  obtain ⟨i0, hi, hz0, hz1, hz2⟩ := info_parts RLinfo
  go_enter Tryd.func48, Tryd.ntmps48
  go_upto_region 1 with (fail)
  generalize hw1 : World.alloc _ _ = W0
  have Kr : Blk W0 w.heap.size 54 zeroPrf := hw1 ▸ blk_new w _ _
  have KB : Below w.heap.size w W0 := hw1 ▸ ((Below.refl _ _).alloc (Nat.le_refl _) _)
  clear hw1
  go_upto_region 2 with (first
    | (at_builtin; refine wpList_append_own_none rfl (.tmp 11) (.tmp 15) 24 rfl W0.heap.size 75 i0 2 Tryd.underlying24 hi _ _ _ rfl (World.ownsRow_made W0 #[] 0 (Nat.le_refl _) (Nat.zero_le _) (by simp)) rfl ?_)
    | (refine wpList_store_mid rfl 54 (.tmp 7) (.tmp 17) rfl (W0.heap.size + 1) 0 #[.int .i64 0, .int .i64 0, .slice (some ⟨W0.heap.size, 0, none⟩) 0 0, .slice none 0 0] rfl rfl (by simpa using (blk_new1 W0 (.cells #[] 75) 54 #[.int .i64 0, .int .i64 0, .slice none 0 0, .slice none 0 0]).there 0 4 (by simp)) (by kernel_rfl) (all_oneCell_toArray (by intro v hv; simp at hv; rcases hv with rfl | rfl | rfl <;> rfl)) ?_))
  have N3 := new_struct (W0.alloc (.cells #[] 75)) #[.int .i64 0, .int .i64 0, .slice none 0 0, .slice none 0 0] 54 [.int .i64 0, .int .i64 0, .slice (some ⟨W0.heap.size, 0, none⟩) 0 0, .slice none 0 0] rfl
  have hsz : (W0.alloc (.cells #[] 75)).heap.size = W0.heap.size + 1 := by simp
  have XA := (Below.refl W0.heap.size W0).alloc (Nat.le_refl _) (.cells #[] 75)
  rw [hsz] at N3
  have Y3 := N3.1
  have Kp := N3.2
  have CB := KB.trans ((XA.trans (Y3.mono (by omega))).mono KB.size)
  have Kr3 := (Kr.keep XA).keepB (by have := Kr.lt; omega) Y3
  clear N3 hsz XA Y3 Kr KB
  try dsimp only
  generalize World.setCells (World.alloc (World.alloc W0 _) _) (W0.heap.size + 1) 0 _ = V3 at Kp CB Kr3 ⊢
  generalize W0.heap.size = g at Kp ⊢
  go_wp2_with (first
    | (refine load_struct rfl 54 (.tmp 7) rfl Kp rfl Tryd.underlying54 (m := 4) (by kernel_rfl) rfl ?_)
    | (refine wpList_store_mid rfl 54 (.tmp 6) (.tmp 28) rfl w.heap.size 0 #[.int .i64 0, .int .i64 0, .slice (some ⟨g, 0, none⟩) 0 0, .slice none 0 0] rfl rfl (by simpa using Kr3.there 0 4 (by simp)) (by kernel_rfl) (all_oneCell_toArray (by intro v hv; simp at hv; rcases hv with rfl | rfl | rfl <;> rfl)) ?_))
  have B6 := (only_sets w.heap.size 0 V3 [.int .i64 0, .int .i64 0, .slice (some ⟨g, 0, none⟩) 0 0, .slice none 0 0]).2.2 _ _ (Nat.le_refl _) CB
  have K6 : Blk (V3.setCells w.heap.size 0 [.int .i64 0, .int .i64 0, .slice (some ⟨g, 0, none⟩) 0 0, .slice none 0 0]) w.heap.size 54 [.int .i64 0, .int .i64 0, .slice (some ⟨g, 0, none⟩) 0 0, .slice none 0 0] := Kr3.all rfl
  try dsimp only at B6 ⊢
  generalize World.setCells V3 w.heap.size 0 [.int .i64 0, .int .i64 0, .slice (some ⟨g, 0, none⟩) 0 0, .slice none 0 0] = V6 at B6 K6 ⊢
  exact bodyPost_ret (v := .agg #[.int .i64 0, .int .i64 0, .slice (some ⟨g, 0, none⟩) 0 0, .slice none 0 0]) (K6.resultS (p := 6) (ty := 54) rfl _ rfl Tryd.underlying54 (by kernel_rfl)) rfl ⟨g, rfl, B6⟩
theorem rshown_any (ls : List Lf) (q : Option Addr) (n c F e : Nat) (hl : ls.length = n) (hn : n ≤ 4096) (hc : n ≤ c) (hRg : Rng n F e) (hq : n = 0 → q = none ∧ c = 0) (hS : Small ls) (w : World) (hR : GlobR w) (hL : OwnL w q ls) :
    Calls Tryd.prog 48 #[.slice q n c, .int .i64 (F : Int), .int .i64 (e : Int)] w
      fun en w' => ∃ v, en = .returned v ∧ RPrf w' w.heap.size F n ((ls.drop F).take (e - F)) (sidesM ls F e 0 n) v ∧ Below w.heap.size w w' := by
  rcases hRg with ⟨h0, hF, he⟩ | ⟨hFe, hen⟩
  · subst hF he
    obtain ⟨rfl, rfl⟩ := hq h0
    subst h0
    obtain rfl := List.eq_nil_of_length_eq_zero hl
    refine (rshown_nil w).mono ?_
    rintro en w' ⟨g, rfl, hB⟩
    exact ⟨_, rfl, ⟨some ⟨g, 0, none⟩, 0, .slice none 0 0, rfl, fun h => absurd rfl h, ⟨Nat.le_refl _, fun h => nomatch h⟩, World.ownsRow_nil _ _ _ _⟩, hB⟩
  · obtain ⟨b, off, rfl, hL2⟩ := hL (by intro h; rw [h] at hl; simp at hl; omega)
    refine (rshown_many ls b off n c F e hl hn (by omega) hc hFe hen hS w hR hL2).mono ?_
    rintro en w' ⟨v, rfl, hP, hB⟩
    exact ⟨v, rfl, hP.rprf, hB⟩

end Go.Proofs.YtfhfmdnimebegaaDoor

/-
  The reference's Prove.
-/
namespace Go.Proofs.YtfhfmdnimebegaaDoor
open Go.RowKit
set_option linter.unusedVariables false
set_option linter.unusedSimpArgs false

theorem build_rprf (w : World) : (Instr.build 54 #[]).run Tryd.prog w = .ok (.agg zeroPrf.toArray) w := by kernel_rfl

set_option maxHeartbeats 2000000 in
set_option maxRecDepth 100000 in
theorem rprove_no (ls : List Lf) (p : Option Addr) (n c : Nat) (hl : ls.length = n) (hv : validM ls ≠ 0) (key : ByteArray) (w : World) (hL : OwnL w p ls) :
    Calls Tryd.prog 22 #[.slice p n c, .string key] w fun e w' => e = .returned (.tuple #[.agg zeroPrf.toArray, .int .i64 (validM ls)]) ∧ Below w.heap.size w w' := by
  have hz2 := build_rprf
  have HV := Lib.hid (fun w0 (hB : Below w.heap.size w w0) => rvalid_any ls p n c hl w0 (hL.keep hB))
  clear hl hL
  generalize validM ls = v at hv HV ⊢
  go_enter Tryd.func22, Tryd.ntmps22
  go_upto_region 1 with (fail)
  generalize hw1 : World.alloc _ _ = W0
  have K2 : Blk W0 w.heap.size 54 zeroPrf := hw1 ▸ (blk_new w _ _)
  have KB : Below w.heap.size w W0 := hw1 ▸ ((Below.refl _ _).alloc (Nat.le_refl _) _)
  clear hw1
  go_wp2_with (first
    | (go_at_call 15; refine (HV.out _ KB).mono ?_; rintro e W1 ⟨rfl, hB1⟩)
    | (refine wpList_store_mid rfl 54 (.tmp 4) (.tmp 12) rfl w.heap.size 0 zeroPrf.toArray rfl rfl (by simpa using (K2.keep hB1).there 0 4 (by simp)) (by kernel_rfl) (all_oneCell_toArray zero_one) ?_))
  have B6 := (only_sets w.heap.size 0 W1 zeroPrf).2.2 _ _ (Nat.le_refl _) (link KB hB1)
  have K6 : Blk (W1.setCells w.heap.size 0 zeroPrf) w.heap.size 54 zeroPrf := (K2.keep hB1).all rfl
  try dsimp only at B6 ⊢
  generalize World.setCells W1 w.heap.size 0 zeroPrf = V6 at B6 K6 ⊢
  exact bodyPost_ret (v := .tuple #[.agg zeroPrf.toArray, .int .i64 v]) (results_and (p := 4) (q := 5) (ty := 54) rfl _ _ rfl rfl (K6.loadVarS Tryd.underlying54 (by kernel_rfl))) rfl ⟨rfl, B6⟩

set_option maxHeartbeats 2000000 in
set_option maxRecDepth 100000 in
theorem rprove_yes (ls : List Lf) (p : Option Addr) (n c : Nat) (hl : ls.length = n) (hc : n ≤ c) (hq : n = 0 → p = none ∧ c = 0) (h0 : validM ls = 0) (key : ByteArray) (w : World) (hG : GlobR w) (hL : OwnL w p ls) :
    Calls Tryd.prog 22 #[.slice p n c, .string key] w fun e w' => ∃ v, e = .returned (.tuple #[v, .int .i64 0]) ∧
      RPrf w' w.heap.size (proveR ls key).1 n ((ls.drop (proveR ls key).1).take ((proveR ls key).2 - (proveR ls key).1)) (sidesM ls (proveR ls key).1 (proveR ls key).2 0 n) v ∧ Below w.heap.size w w' := by
  obtain ⟨hn4, hfit, hord⟩ := valid_zero h0
  have hS := small_of hfit
  have HV := Lib.hid (fun w0 (hB : Below w.heap.size w w0) => rvalid_any ls p n c hl w0 (hL.keep hB))
  rw [h0] at HV
  have HF := Lib.hid (fun w0 (hB : Below w.heap.size w w0) => rfrom_any ls p n c hl (by omega) key w0 (hL.keep hB))
  rw [count_from ls key hord] at HF
  have HH := Lib.hid (fun w0 (hB : Below w.heap.size w w0) => has_any ls p n c hl (by omega) key w0 (hL.keep hB))
  have HP := Lib.hid (fun (w0 : World) (F e : Nat) (hR : Rng n F e) (hB : Below w.heap.size w w0) => rshown_any ls p n c F e hl (by omega) hc hR hq hS w0 (hG.keep hB) (hL.keep hB))
  have hRok := proveR_ok ls key
  rw [hl] at hRok
  have hfl := fromM_le ls key
  rw [hl] at hfl
  have hka : keyAt ls (fromM ls key) key = true → 0 ≤ hasM ls key := fun h => by rw [has_at ls key hord h]; omega
  have hkn : keyAt ls (fromM ls key) key = false → ¬ 0 ≤ hasM ls key := fun h => by rw [has_not ls key hord (by rw [h]; decide)]; omega
  have hpr : proveR ls key = if keyAt ls (fromM ls key) key then (fromM ls key, fromM ls key + 1) else (fromM ls key - 1, min (fromM ls key + 1) n) := by unfold proveR; rw [hl]
  generalize proveR ls key = FE at hRok hpr ⊢
  obtain ⟨F, e⟩ := FE
  dsimp only at hRok ⊢
  have HQ := Lib.hid (fun (w0 : World) (hB : Below w.heap.size w w0) => HP.out w0 F e hRok hB)
  generalize (ls.drop F).take (e - F) = part at HQ ⊢
  generalize sidesM ls F e 0 n = SD at HQ ⊢
  generalize keyAt ls (fromM ls key) key = ka at hka hkn hpr
  generalize hasM ls key = hv at HH hka hkn
  generalize fromM ls key = i at HF hfl hpr
  rw [hl] at hn4
  clear hL hG hl hS hfit hord h0 HP hq
  go_enter Tryd.func22, Tryd.ntmps22
  go_upto_region 1 with (fail)
  generalize hw1 : World.alloc _ _ = W0
  have K2 : Blk W0 w.heap.size 54 zeroPrf := hw1 ▸ (blk_new w _ _)
  have KB : Below w.heap.size w W0 := hw1 ▸ ((Below.refl _ _).alloc (Nat.le_refl _) _)
  clear hw1
  go_upto_region 5 with (first
    | (go_at_call 15; refine (HV.out _ KB).mono ?_; rintro e W1 ⟨rfl, hB1⟩)
    | (go_at_call 47; refine (HF.out _ (link KB hB1)).mono ?_; rintro e W2 ⟨rfl, hB2⟩))
  have CB0 := link (link KB hB1) hB2
  have L20 := (K2.keep hB1).keep hB2
  clear K2 KB hB1 hB2 HV HF
  rcases ka with _ | _
  · have hneg := hkn rfl
    clear hka hkn
    simp only [Bool.false_eq_true, if_false, Prod.mk.injEq] at hpr
    obtain ⟨hF, he⟩ := hpr
    have hE := Lib.hid (And.intro hF he)
    clear hF he hRok
    go_upto_region 7 with (go_at_call 34; refine (HH.out _ CB0).mono ?_; rintro e W2b ⟨rfl, hB2b⟩; have CB := link CB0 hB2b; have L2 := L20.keep hB2b)
    clear CB0 L20 hB2b hneg HH
    go_wp2_with (first
      | (go_at_call 48; rw [show max ((i : Int) - 1) 0 = (F : Int) from by have := hE.out; omega, show min ((i : Int) + 1) (n : Int) = (e : Int) from by have := hE.out; omega]; refine (HQ.out _ CB).mono ?_; rintro e3 W3 ⟨v, rfl, hPv, hB3⟩; obtain ⟨cs, rfl, hcl, hc1⟩ := hPv.one)
      | (refine wpList_store_mid rfl 54 (.tmp 4) (.tmp 35) rfl w.heap.size 0 cs.toArray rfl rfl (by rw [show cs.toArray.size = 4 from hcl]; exact (L2.keep hB3).there 0 4 (by decide)) (by rw [show cs.toArray.size = 4 from hcl]; kernel_rfl) (all_oneCell_toArray hc1) ?_))
    have K6 : Blk (W3.setCells w.heap.size 0 cs) w.heap.size 54 cs := (L2.keep hB3).all (by rw [hcl]; rfl)
    have B6 := (only_sets w.heap.size 0 W3 cs).2.2 _ _ (Nat.le_refl _) (link CB hB3)
    have P6 := hPv.heap (w' := W3.setCells w.heap.size 0 cs) (B' := w.heap.size) (fun j hj => heap_sets w.heap.size cs W3 0 j (by have := L2.lt; omega)) (Nat.le_of_eq (sets_size w.heap.size cs W3 0).symm) (Nat.le_of_lt L2.lt)
    try dsimp only at B6 K6 P6 ⊢
    generalize World.setCells W3 w.heap.size 0 cs = V6 at B6 K6 P6 ⊢
    exact bodyPost_ret (v := .tuple #[.agg cs.toArray, .int .i64 0]) (results_and (p := 4) (q := 5) (ty := 54) rfl _ _ rfl rfl (K6.loadVarS Tryd.underlying54 (by rw [hcl]; kernel_rfl))) rfl ⟨_, rfl, P6, B6⟩
  · have hpos := hka rfl
    clear hka hkn
    simp only [if_true, Prod.mk.injEq] at hpr
    obtain ⟨rfl, he⟩ := hpr
    rcases hRok with hRok | hRok
    · omega
    have hw1 : IntKind.i64.wrap ((F : Int) + 1) = (e : Int) := by
      rw [show ((F : Int) + 1) = (e : Int) by omega]
      simp [IntKind.wrap, IntKind.signed, IntKind.bits]
      omega
    clear he hRok
    go_upto_region 6 with (go_at_call 34; refine (HH.out _ CB0).mono ?_; rintro e W2b ⟨rfl, hB2b⟩; have CB := link CB0 hB2b; have L2 := L20.keep hB2b)
    clear CB0 L20 hB2b hpos HH
    go_wp2_with (first
      | (go_at_call 48; refine (HQ.out _ CB).mono ?_; rintro e3 W3 ⟨v, rfl, hPv, hB3⟩; obtain ⟨cs, rfl, hcl, hc1⟩ := hPv.one)
      | (refine wpList_store_mid rfl 54 (.tmp 4) (.tmp 25) rfl w.heap.size 0 cs.toArray rfl rfl (by rw [show cs.toArray.size = 4 from hcl]; exact (L2.keep hB3).there 0 4 (by decide)) (by rw [show cs.toArray.size = 4 from hcl]; kernel_rfl) (all_oneCell_toArray hc1) ?_))
    have K6 : Blk (W3.setCells w.heap.size 0 cs) w.heap.size 54 cs := (L2.keep hB3).all (by rw [hcl]; rfl)
    have B6 := (only_sets w.heap.size 0 W3 cs).2.2 _ _ (Nat.le_refl _) (link CB hB3)
    have P6 := hPv.heap (w' := W3.setCells w.heap.size 0 cs) (B' := w.heap.size) (fun j hj => heap_sets w.heap.size cs W3 0 j (by have := L2.lt; omega)) (Nat.le_of_eq (sets_size w.heap.size cs W3 0).symm) (Nat.le_of_lt L2.lt)
    try dsimp only at B6 K6 P6 ⊢
    generalize World.setCells W3 w.heap.size 0 cs = V6 at B6 K6 P6 ⊢
    exact bodyPost_ret (v := .tuple #[.agg cs.toArray, .int .i64 0]) (results_and (p := 4) (q := 5) (ty := 54) rfl _ _ rfl rfl (K6.loadVarS Tryd.underlying54 (by rw [hcl]; kernel_rfl))) rfl ⟨_, rfl, P6, B6⟩

end Go.Proofs.YtfhfmdnimebegaaDoor

/-
  The reference's Range.
-/
namespace Go.Proofs.YtfhfmdnimebegaaDoor
open Go.RowKit
set_option linter.unusedVariables false
set_option linter.unusedSimpArgs false

set_option maxHeartbeats 2000000 in
set_option maxRecDepth 100000 in
theorem rrange_no (ls : List Lf) (p : Option Addr) (n c : Nat) (hl : ls.length = n) (hv : validM ls ≠ 0) (low hik : ByteArray) (w : World) (hL : OwnL w p ls) :
    Calls Tryd.prog 24 #[.slice p n c, .string low, .string hik] w fun e w' => e = .returned (.tuple #[.agg zeroPrf.toArray, .int .i64 (validM ls)]) ∧ Below w.heap.size w w' := by
  have hz2 := build_rprf
  have HV := Lib.hid (fun w0 (hB : Below w.heap.size w w0) => rvalid_any ls p n c hl w0 (hL.keep hB))
  clear hl hL
  generalize validM ls = v at hv HV ⊢
  go_enter Tryd.func24, Tryd.ntmps24
  go_upto_region 1 with (fail)
  generalize hw1 : World.alloc _ _ = W0
  have K2 : Blk W0 w.heap.size 54 zeroPrf := hw1 ▸ (blk_new w _ _)
  have KB : Below w.heap.size w W0 := hw1 ▸ ((Below.refl _ _).alloc (Nat.le_refl _) _)
  clear hw1
  go_wp2_with (first
    | (go_at_call 15; refine (HV.out _ KB).mono ?_; rintro e W1 ⟨rfl, hB1⟩)
    | (refine wpList_store_mid rfl 54 (.tmp 6) (.tmp 13) rfl w.heap.size 0 zeroPrf.toArray rfl rfl (by simpa using (K2.keep hB1).there 0 4 (by simp)) (by kernel_rfl) (all_oneCell_toArray zero_one) ?_))
  have B6 := (only_sets w.heap.size 0 W1 zeroPrf).2.2 _ _ (Nat.le_refl _) (link KB hB1)
  have K6 : Blk (W1.setCells w.heap.size 0 zeroPrf) w.heap.size 54 zeroPrf := (K2.keep hB1).all rfl
  try dsimp only at B6 ⊢
  generalize World.setCells W1 w.heap.size 0 zeroPrf = V6 at B6 K6 ⊢
  exact bodyPost_ret (v := .tuple #[.agg zeroPrf.toArray, .int .i64 v]) (results_and (p := 6) (q := 7) (ty := 54) rfl _ _ rfl rfl (K6.loadVarS Tryd.underlying54 (by kernel_rfl))) rfl ⟨rfl, B6⟩


set_option maxHeartbeats 2000000 in
set_option maxRecDepth 100000 in
theorem rrange_bad (ls : List Lf) (p : Option Addr) (n c : Nat) (hl : ls.length = n) (hv : validM ls = 0) (low hik : ByteArray) (hlt : sless hik low = true) (w : World) (hL : OwnL w p ls) :
    Calls Tryd.prog 24 #[.slice p n c, .string low, .string hik] w fun e w' => e = .returned (.tuple #[.agg zeroPrf.toArray, .int .i64 5]) ∧ Below w.heap.size w w' := by
  have hz2 := build_rprf
  have HV := Lib.hid (fun w0 (hB : Below w.heap.size w w0) => rvalid_any ls p n c hl w0 (hL.keep hB))
  clear hl hL
  rw [hv] at HV
  clear hv
  unfold sless at hlt
  go_enter Tryd.func24, Tryd.ntmps24
  go_upto_region 1 with (fail)
  generalize hw1 : World.alloc _ _ = W0
  have K2 : Blk W0 w.heap.size 54 zeroPrf := hw1 ▸ (blk_new w _ _)
  have KB : Below w.heap.size w W0 := hw1 ▸ ((Below.refl _ _).alloc (Nat.le_refl _) _)
  clear hw1
  go_wp2_with (first
    | (go_at_call 15; refine (HV.out _ KB).mono ?_; rintro e W1 ⟨rfl, hB1⟩)
    | (refine wpList_store_mid rfl 54 (.tmp 6) (.tmp 18) rfl w.heap.size 0 zeroPrf.toArray rfl rfl (by simpa using (K2.keep hB1).there 0 4 (by simp)) (by kernel_rfl) (all_oneCell_toArray zero_one) ?_))
  have B6 := (only_sets w.heap.size 0 W1 zeroPrf).2.2 _ _ (Nat.le_refl _) (link KB hB1)
  have K6 : Blk (W1.setCells w.heap.size 0 zeroPrf) w.heap.size 54 zeroPrf := (K2.keep hB1).all rfl
  try dsimp only at B6 ⊢
  generalize World.setCells W1 w.heap.size 0 zeroPrf = V6 at B6 K6 ⊢
  exact bodyPost_ret (v := .tuple #[.agg zeroPrf.toArray, .int .i64 5]) (results_and (p := 6) (q := 7) (ty := 54) rfl _ _ rfl rfl (K6.loadVarS Tryd.underlying54 (by kernel_rfl))) rfl ⟨rfl, B6⟩


set_option maxHeartbeats 2000000 in
set_option maxRecDepth 100000 in
theorem rrange_yes (ls : List Lf) (p : Option Addr) (n c : Nat) (hl : ls.length = n) (hc : n ≤ c) (hq : n = 0 → p = none ∧ c = 0) (h0 : validM ls = 0) (low hik : ByteArray) (hlt : sless hik low = false) (w : World) (hG : GlobR w) (hL : OwnL w p ls) :
    Calls Tryd.prog 24 #[.slice p n c, .string low, .string hik] w fun e w' => ∃ v, e = .returned (.tuple #[v, .int .i64 0]) ∧
      RPrf w' w.heap.size (rangeR ls low hik).1 n ((ls.drop (rangeR ls low hik).1).take ((rangeR ls low hik).2 - (rangeR ls low hik).1)) (sidesM ls (rangeR ls low hik).1 (rangeR ls low hik).2 0 n) v ∧ Below w.heap.size w w' := by
  obtain ⟨hn4, hfit, hord⟩ := valid_zero h0
  have hS := small_of hfit
  have HV := Lib.hid (fun w0 (hB : Below w.heap.size w w0) => rvalid_any ls p n c hl w0 (hL.keep hB))
  rw [h0] at HV
  have HF := Lib.hid (fun w0 (hB : Below w.heap.size w w0) => rfrom_any ls p n c hl (by omega) low w0 (hL.keep hB))
  have HT := Lib.hid (fun w0 (hB : Below w.heap.size w w0) => rfrom_any ls p n c hl (by omega) hik w0 (hL.keep hB))
  rw [count_from ls low hord] at HF
  rw [count_from ls hik hord] at HT
  have hRok := rangeR_ok ls low hik hlt
  rw [hl] at hRok
  have hpr : rangeR ls low hik = (fromM ls low - 1, min (fromM ls hik + 1) n) := by unfold rangeR; rw [hl]
  have hfl := fromM_le ls low
  have hft := fromM_le ls hik
  rw [hl] at hfl hft hn4
  generalize rangeR ls low hik = FE at hRok hpr ⊢
  obtain ⟨F, e⟩ := FE
  simp only [Prod.mk.injEq] at hpr
  dsimp only at hRok ⊢
  have HQ := Lib.hid (fun (w0 : World) (hB : Below w.heap.size w w0) => rshown_any ls p n c F e hl (by omega) hc hRok hq hS w0 (hG.keep hB) (hL.keep hB))
  generalize (ls.drop F).take (e - F) = part at HQ ⊢
  generalize sidesM ls F e 0 n = SD at HQ ⊢
  generalize fromM ls low = i at HF hfl hpr
  generalize fromM ls hik = j at HT hft hpr
  have hE := Lib.hid hpr
  unfold sless at hlt
  clear hL hG hl hS hfit hord h0 hq hpr hRok
  go_enter Tryd.func24, Tryd.ntmps24
  go_upto_region 1 with (fail)
  generalize hw1 : World.alloc _ _ = W0
  have K2 : Blk W0 w.heap.size 54 zeroPrf := hw1 ▸ (blk_new w _ _)
  have KB : Below w.heap.size w W0 := hw1 ▸ ((Below.refl _ _).alloc (Nat.le_refl _) _)
  clear hw1
  go_upto_region 6 with (go_at_call 15; refine (HV.out _ KB).mono ?_; rintro e W1 ⟨rfl, hB1⟩)
  have CB1 := link KB hB1
  have L1 := K2.keep hB1
  clear K2 KB hB1 HV
  go_wp2_with (first
    | (go_at_call_of 47 (Value.string low); refine (HF.out _ CB1).mono ?_; rintro e W4 ⟨rfl, hB4⟩)
    | (go_at_call_of 47 (Value.string hik); refine (HT.out _ (link CB1 hB4)).mono ?_; rintro e W2 ⟨rfl, hB5⟩; have CB := link (link CB1 hB4) hB5; have L2 := (L1.keep hB4).keep hB5)
    | (go_at_call 48; rw [show max ((i : Int) - 1) 0 = (F : Int) from by have := hE.out; omega, show min ((j : Int) + 1) (n : Int) = (e : Int) from by have := hE.out; omega]; refine (HQ.out _ CB).mono ?_; rintro e3 W3 ⟨v, rfl, hPv, hB3⟩; obtain ⟨cs, rfl, hcl, hc1⟩ := hPv.one)
    | (refine wpList_store_mid rfl 54 (.tmp 6) (.tmp 32) rfl w.heap.size 0 cs.toArray rfl rfl (by rw [show cs.toArray.size = 4 from hcl]; exact (L2.keep hB3).there 0 4 (by decide)) (by rw [show cs.toArray.size = 4 from hcl]; kernel_rfl) (all_oneCell_toArray hc1) ?_))
  have K6 : Blk (W3.setCells w.heap.size 0 cs) w.heap.size 54 cs := (L2.keep hB3).all (by rw [hcl]; rfl)
  have B6 := (only_sets w.heap.size 0 W3 cs).2.2 _ _ (Nat.le_refl _) (link CB hB3)
  have P6 := hPv.heap (w' := W3.setCells w.heap.size 0 cs) (B' := w.heap.size) (fun j hj => heap_sets w.heap.size cs W3 0 j (by have := L2.lt; omega)) (Nat.le_of_eq (sets_size w.heap.size cs W3 0).symm) (Nat.le_of_lt L2.lt)
  try dsimp only at B6 K6 P6 ⊢
  generalize World.setCells W3 w.heap.size 0 cs = V6 at B6 K6 P6 ⊢
  exact bodyPost_ret (v := .tuple #[.agg cs.toArray, .int .i64 0]) (results_and (p := 6) (q := 7) (ty := 54) rfl _ _ rfl rfl (K6.loadVarS Tryd.underlying54 (by rw [hcl]; kernel_rfl))) rfl ⟨_, rfl, P6, B6⟩


end Go.Proofs.YtfhfmdnimebegaaDoor
