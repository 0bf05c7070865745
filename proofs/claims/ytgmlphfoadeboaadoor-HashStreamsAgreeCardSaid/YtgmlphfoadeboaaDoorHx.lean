/-
  hash.Mac returns the authentication code of a text.
-/
import Derived.Test.YtgmlphfoadeboaaDoorHv
import Derived.Deep.RegionHeld3
import Derived.Deep.RegionWith
import Derived.Deep.DeepCutAuto
namespace Go.Proofs.YtgmlphfoadeboaaDoor
open Go.RowKit
set_option linter.unusedVariables false
set_option linter.unusedSimpArgs false

theorem to_bytes (s : ByteArray) (w : World) : ∃ cap w2, (convert 9 22 (.string s)).run Tryd.prog w = .ok (.slice (some ⟨w.heap.size, 0, none⟩) s.size cap) w2 ∧ Below w.heap.size w w2 ∧ ∀ j u, (bytesV (sb s))[j]? = some u → w2.cell? ((⟨w.heap.size, 0, none⟩ : Addr).add j) = some u := by
  refine ⟨_, _, run_bytes_of_string w 9 22 5 s Tryd.underlying9 Tryd.underlying22 Tryd.underlying5, (Below.refl _ _).drew.alloc (Nat.le_refl _) _, ?_⟩
  intro j u hj
  rw [Addr.add_mid, Nat.zero_add]
  have h := World.cell?_alloc_mark w.drew (bytesRow s (grownCap w s.size 0 5)) 5 ((bytesRow s (grownCap w s.size 0 5)).size, (bytesRow s (grownCap w s.size 0 5)).size + 1) j
  have hlt : j < s.data.size := by
    have := (List.getElem?_eq_some_iff.1 hj).1
    rw [bytesV_length, sb_length] at this
    exact this
  rw [bytesRow_at s _ j hlt] at h
  refine h.trans ?_
  rw [← hj]
  simp only [bytesV, sb, List.getElem?_map, Array.getElem?_toList, Array.getElem?_eq_getElem hlt, Option.map_some, byteV]
def z64 : List Nat := List.replicate 64 0
theorem zero_64 (w : World) : (zeroValue 31).run Tryd.prog w = .ok (.agg (bytesV z64).toArray) w := by kernel_rfl
theorem z64_length : (bytesV z64).length = 64 := rfl
theorem put_z64 (k : List Nat) (h : k.length ≤ 64) : splice (bytesV z64) 0 (bytesV k) = bytesV (padK k) := by
  unfold splice padK z64
  rw [List.take_zero, List.nil_append, Nat.zero_add, bytesV_length, bytesV_append]
  congr 1
  unfold bytesV
  rw [← List.map_drop, List.drop_replicate]

theorem chain {B : Nat} {a b c : World} (h1 : Below B a b) (hB : B ≤ b.heap.size) (h2 : Below b.heap.size b c) : Below B a c := h1.trans (h2.mono hB)
theorem link {a b c : World} (h1 : Below a.heap.size a b) (h2 : Below b.heap.size b c) : Below a.heap.size a c := h1.trans (h2.mono h1.size)
theorem first_le {B : Nat} {a b : World} (h : Below B a b) : a.heap.size ≤ b.heap.size := h.size
/-- A hash has been laid into a block of its own, not below lo. -/
def LaidAt (wr : World) (d : List Nat) (v : Value) (wx : World) : Prop := ∃ b, v = .pointer (some ⟨b, 0, none⟩) ∧ Blk wx b 24 (bytesV d) ∧ Below wr.heap.size wr wx
theorem laid_at {wr w4 : World} {b : Nat} {d : List Nat} (N : Blk w4 b 24 (bytesV z32)) (hd : d.length = 32) (hb : wr.heap.size ≤ b) (hB : Below wr.heap.size wr w4) : LaidAt wr d (.pointer (some ⟨b, 0, none⟩)) (w4.setCells b 0 (bytesV d)) :=
  ⟨b, rfl, N.all (by rw [bytesV_length, bytesV_length, hd]; rfl), (only_sets b 0 w4 (bytesV d)).2.2 _ _ hb hB⟩
/-- What holds while the two keys are changed. -/
def XorRel (V w : World) (k : List Nat) (v : Value) (wr : World) : Prop :=
  ∃ i : Nat, i ≤ 64 ∧ v = .int .i64 i ∧ Blk wr w.heap.size 31 (bytesV (xorA k 54 i)) ∧ Blk wr (w.heap.size + 1) 31 (bytesV (xorA k 92 i)) ∧ Below w.heap.size w wr
theorem xor_step {wr : World} {b i : Nat} {t : TypeId} {k : List Nat} {x y : Nat} (H : Blk wr b t (bytesV (xorA k x i))) (h : i < k.length) (hy : k[i] = y) (hyb : y < 256) (hx : x < 256) {V : Int} (hV : V = bits BinOp.xor IntKind.u8 (y : Int) (x : Int)) :
    Blk (wr.setCell ⟨b, i, none⟩ (.int .u8 V)) b t (bytesV (xorA k x (i + 1))) := by
  subst hV; subst hy
  rw [xor_u8 _ _ hyb hx]
  have := H.set i (byteV (k[i] ^^^ x))
  rw [← xorA_set k x i h]
  unfold bytesV at this ⊢
  rw [List.map_set]
  exact this

theorem add_key (l : List Nat) (hb : ∀ y ∈ l, y < 256) (hl : l.length ≤ 1048576) (B : List Nat) (hS : Stm [] B) (w1 : World) (hG : Glob w1) :
    Calls Tryd.prog 15 #[.agg (strV (sth []) B 0).toArray, .string (strOf l)] w1 (AddTo w1 l) := by
  have := add_any [] B hS (strOf l) (by rw [strOf_size, List.length_nil]; omega) w1 hG
  rwa [sb_strOf l hb, List.nil_append] at this

theorem conv_blk {w : World} {b n : Nat} {t : TypeId} {l : List Nat} (h : Blk w b t (bytesV l)) (hb : ∀ y ∈ l, y < 256) (hl : l.length = n) : (convert 22 9 (.slice (some ⟨b, 0, none⟩) n n)).run Tryd.prog w = .ok (.string (strOf l)) w := by
  subst hl
  exact conv_cells w ⟨b, 0, none⟩ l.length l hb (fun j u hj => by rw [Addr.add_mid, Nat.zero_add]; exact h.cell hj)
theorem add_text {m M : List Nat} {t : ByteArray} (hM : m ++ sb t = M) (hl : m.length + t.size ≤ 1152921504606846975) (B : List Nat) (hS : Stm m B) (w1 : World) (hG : Glob w1) :
    Calls Tryd.prog 15 #[.agg (strV (sth m) B m.length).toArray, .string t] w1 (AddTo w1 M) := by
  subst hM
  exact add_any m B hS t hl w1 hG
theorem add_more {m M d : List Nat} (hM : m ++ d = M) (hd : ∀ y ∈ d, y < 256) (hl : m.length + d.length ≤ 1152921504606846975) (B : List Nat) (hS : Stm m B) (w1 : World) (hG : Glob w1) :
    Calls Tryd.prog 15 #[.agg (strV (sth m) B m.length).toArray, .string (strOf d)] w1 (AddTo w1 M) := by
  subst hM
  have := add_any m B hS (strOf d) (by rw [strOf_size]; exact hl) w1 hG
  rwa [sb_strOf d hd] at this
theorem sum_at {M D : List Nat} (hD : sha M = D) (B : List Nat) (hS : Stm M B) (hl : M.length ≤ 1152921504606846000) (w1 : World) (hG : Glob w1) :
    Calls Tryd.prog 17 #[.agg (strV (sth M) B M.length).toArray] w1 fun e w' => e = .returned (.agg (bytesV D).toArray) ∧ Below w1.heap.size w1 w' := by
  subst hD
  exact strsum_any M B hS hl w1 hG

set_option maxHeartbeats 4000000 in
set_option maxRecDepth 100000 in
theorem mac_at (V : World) (key text : ByteArray) (hk : key.size ≤ 1048576) (ht : text.size ≤ 1048576) (w : World) (hV : Below V.heap.size V w) (hG : Glob w) :
    Calls Tryd.prog 18 #[.string key, .string text] w fun e w' => e = .returned (.string (strOf (hmac (sb key) (sb text)))) ∧ Below V.heap.size V w' := by
  have hz1 := zero_64
  have hz2 := zero_32
  have HM : Hid (hmac (sb key) (sb text) = sha (xorL (padK (keyOf64 (sb key))) 92 ++ sha (xorL (padK (keyOf64 (sb key))) 54 ++ sb text))) := Lib.hid rfl
  generalize hmac (sb key) (sb text) = RES at *
  by_cases h64 : 64 < key.size
  case' pos =>
    obtain ⟨cap, w1, hrun, hB1, hc⟩ := to_bytes key w
    have hk64 : (strOf (sha (sb key))).size ≤ 64 := by rw [strOf_size, sha_length]; omega
    rw [show keyOf64 (sb key) = sb (strOf (sha (sb key))) by rw [sb_strOf _ (sha_byte _)]; unfold keyOf64; rw [if_pos (by rw [sb_length]; exact h64)]] at HM
    have hH : Has w1 (some ⟨w.heap.size, 0, none⟩) (sb key) := by
      refine ⟨fun j u hj => ⟨_, rfl, ?_, hc j u hj⟩, sb_lt key⟩
      have := hc j u hj
      rw [Addr.add_mid] at this
      exact (show w.heap.size < w1.heap.size from World.block_lt_of_cell? w1 ⟨w.heap.size, 0 + j, none⟩ this)
    have HS := Lib.hid (sum_any (some ⟨w.heap.size, 0, none⟩) (sb key) key.size cap w1 (sb_length key).symm (by rw [sb_length]; omega) hH (hG.keep hB1))
    have hdl : (bytesV (sha (sb key))).length = 32 := by rw [bytesV_length, sha_length]
    have hsb := slice_all32
    have hdb := sha_byte (sb key)
    clear hc hH
    go_enter Tryd.func18, Tryd.ntmps18
    go_upto_region 3 with (first | (go_at_call 11; refine HS.out.mono ?_; rintro e w2 ⟨rfl, hB2⟩) | (refine store_blk rfl 24 (.tmp 5) (.tmp 16) rfl (blk_new w2 _ _) rfl rfl (m := 32) (by kernel_rfl) hdl (by rfl) (bytesV_cells _) ?_; intro w3 H5 hO5))
    have hcv := conv_blk H5 hdb (sha_length _)
    have hV3 := hO5.2.2 V.heap.size V (Nat.le_trans (Nat.le_trans hV.size hB1.size) hB2.size) (((chain hV hV.size hB1).trans (hB2.mono (Nat.le_trans hV.size hB1.size))).alloc (Nat.le_trans (Nat.le_trans hV.size hB1.size) hB2.size) _)
    have hG3 := hG.keep (w' := w3) (hO5.2.2 w.heap.size w (Nat.le_trans hB1.size hB2.size) ((link hB1 hB2).alloc (Nat.le_trans hB1.size hB2.size) _))
    clear hrun hB1 HS hB2 H5 hO5 hdl hV hG
    go_upto_region 4 with (fail)
    clear hcv hdb hsb h64 hk
    generalize strOf (sha (sb key)) = key at *
    have hV := hV3
    have hG := hG3
    clear hV3 hG3
    obtain ⟨w, rfl⟩ : ∃ x : World, x = w3 := ⟨_, rfl⟩
  case' neg =>
    have hk64 : key.size ≤ 64 := by omega
    rw [show keyOf64 (sb key) = sb key by unfold keyOf64; rw [if_neg (by rw [sb_length]; exact h64)]] at HM
    go_enter Tryd.func18, Tryd.ntmps18
    go_upto_region 4 with (fail)
    clear h64
  all_goals
    go_upto_region 5 with (fail)
    generalize hw0 : World.alloc _ _ = W0
    have K6 : Blk W0 w.heap.size 31 (bytesV z64) := hw0 ▸ ((blk_new w _ _).alloc _)
    have K7 : Blk W0 (w.heap.size + 1) 31 (bytesV z64) := hw0 ▸ (blk_new1 w _ _ _)
    have KB : Below w.heap.size w W0 := hw0 ▸ (((Below.refl _ _).alloc (Nat.le_refl _) _).alloc (by simp) _)
    clear hw0
    have hsa := slice_all
    have hmin : Nat.min key.size 64 = key.size := Nat.min_eq_left (by omega)
    have hpk := padK_length (sb key) (by rw [sb_length]; omega)
    have hpb := padK_byte (sb key) (sb_lt key)
    go_upto_region 6 with (refine copy_str rfl (.tmp 19) (.tmp 20) rfl K6 rfl rfl hmin (by rw [z64_length]; omega) ?_; intro w1 H6 hO1)
    rw [show key.size = (sb key).length from (sb_length key).symm, List.take_length, put_z64 _ (by rw [sb_length]; omega)] at H6
    have H7 := hO1.2.1 _ _ _ (by omega) K7
    have HB := hO1.2.2 _ _ (Nat.le_refl _) KB
    clear K6 K7 KB hO1 hmin hsa
    generalize padK (sb key) = pk at *
    go_upto_region 7 with (first | (refine load_blk rfl 31 (.tmp 6) rfl H6 rfl Tryd.underlying31 (m := 64) (by kernel_rfl) (by rw [bytesV_length, hpk]) ?_) | (refine store_blk rfl 31 (.tmp 7) (.tmp 22) rfl H7 rfl rfl (m := 64) (by kernel_rfl) (by rw [bytesV_length, hpk]) z64_length (bytesV_cells _) ?_; intro w2 J7 hO2))
    have J6 := hO2.2.1 _ _ _ (by omega) H6
    have JB := hO2.2.2 _ _ (by omega) HB
    clear H6 H7 HB hO2
    go_wp2
    go_loopw [23] (fun v wr => XorRel V w pk v wr) (fun v _ => 64 - (intOf v).toNat)
    case atStart => exact ⟨0, by omega, rfl, by rw [xorA_zero]; exact J6, by rw [xorA_zero]; exact J7, JB⟩
    case round =>
      clear J6 J7 JB
      obtain ⟨i, hi, rfl, J6, J7, JB⟩ := hrel
      by_cases hi64 : i < 64
      · obtain ⟨y, hy⟩ : ∃ y, pk[i] = y := ⟨_, rfl⟩
        have hyb : y < 256 := by rw [← hy]; exact hpb _ (List.getElem_mem _)
        have c6 : wr.cell? ⟨w.heap.size, i, none⟩ = some (.int .u8 (y : Int)) := J6.cell (by
          unfold bytesV
          rw [List.getElem?_map, xorA_get pk 54 i (by omega), hy]
          rfl)
        have c7 : wr.cell? ⟨w.heap.size + 1, i, none⟩ = some (.int .u8 (y : Int)) := J7.cell (by
          unfold bytesV
          rw [List.getElem?_map, xorA_get pk 92 i (by omega), hy]
          rfl)
        have f6 := J6.free i
        have f7 := J7.free i
        have HY := Lib.hid hy
        clear hy
        go_wp2
        go_roundw
        case rel => exact ⟨i + 1, by omega, by go_num, (xor_step J6 (by omega) HY.out hyb (by omega) rfl).other (by simp) _, xor_step (J7.other (by simp) _) (by omega) HY.out hyb (by omega) rfl, (JB.setCell (by simp) _).setCell (by simp) _⟩
        case measure => simp [intOf]; omega
      · obtain rfl : i = 64 := by omega
        rw [show (64 : Nat) = pk.length from hpk.symm, xorA_full] at J6 J7
        go_upto_region 13 with (fail)
        have hGr := hG.keep JB
        generalize hp6 : xorL pk 54 = p6 at *
        have hp6b : ∀ y ∈ p6, y < 256 := by rw [← hp6]; exact xorL_byte _ _ (by omega) hpb
        have hp6l : p6.length = 64 := by rw [← hp6, xorL_length]; exact hpk
        have hsa := slice_all
        have hcv : ∀ w', Below wr.heap.size wr w' → (convert 22 9 (.slice (some ⟨w.heap.size, 0, none⟩) 64 64)).run Tryd.prog w' = .ok (.string (strOf p6)) w' := fun w' hB => conv_blk (J6.keep hB) hp6b hp6l
        have HA1 := Lib.hid (fun (B : List Nat) (hS : Stm [] B) (w1 : World) (hG : Glob w1) => add_key p6 hp6b (by omega) B hS w1 hG)
        obtain ⟨M, hM⟩ : ∃ M, p6 ++ sb text = M := ⟨_, rfl⟩
        have HA2 := Lib.hid (fun (B : List Nat) (hS : Stm p6 B) (w1 : World) (hG : Glob w1) => add_text hM (by omega) B hS w1 hG)
        have hMl : M.length ≤ 1152921504606846000 := by rw [← hM, List.length_append, sb_length]; omega
        obtain ⟨D, hD⟩ : ∃ D, sha M = D := ⟨_, rfl⟩
        have HA4 := Lib.hid (fun (B : List Nat) (hS : Stm M B) (w1 : World) (hG : Glob w1) => sum_at hD B hS hMl w1 hG)
        have hDl : D.length = 32 := by rw [← hD, sha_length]
        have hone := bytesV_cells D
        have hi32 : Option.map (fun x => x.size) (Tryd.prog.info? 24) = some (bytesV D).length := by
          rw [bytesV_length, hDl]
          kernel_rfl
        have hle : 0 + (bytesV D).length ≤ (bytesV z32).toArray.toList.length := by
          rw [bytesV_length, hDl]
          exact Nat.le_refl _
        have HDL := Lib.hid hDl
        have HMD0 : Hid (sha (xorL pk 54 ++ sb text) = D) := by
          have e : sha (xorL pk 54 ++ sb text) = D := by rw [hp6, hM, hD]
          exact Lib.hid e
        have HP6 := Lib.hid hp6
        clear hM hD hDl hp6 hp6l
        go_cut [9] (fun s9 wx => LaidAt wr D s9 wx)
        case first =>
          go_region_held3 (fun w' => Below wr.heap.size wr w')
            (first | assumption | exact below_drew (Below.refl _ _) | exact below_drew (by assumption) | exact Below.alloc (by assumption) (Below.size (by assumption)) _ | exact below_sets (by assumption) _ _ (by assumption) | exact below_sets (Nat.le_refl _) _ _ (by assumption) | exact link (by assumption) (by assumption))
            (first
              | (go_at_call 14; refine (begin_str _ (hGr.keep (by assumption))).mono ?_; rintro e w1 ⟨B1, hS1, rfl, hB1⟩; have z1 : wr.heap.size ≤ w1.heap.size := Nat.le_trans (first_le (a := wr) (B := wr.heap.size) (by assumption)) hB1.size)
              | (go_at_call_of 15 (Value.string (strOf p6)); refine (HA1.out _ hS1 _ (hGr.keep (by assumption))).mono ?_; rintro e w2 ⟨B2, hS2, rfl, hB2⟩; have z2 : wr.heap.size ≤ w2.heap.size := Nat.le_trans (first_le (a := wr) (B := wr.heap.size) (by assumption)) hB2.size)
              | (go_at_call_of 15 (Value.string text); refine (HA2.out _ hS2 _ (hGr.keep (by assumption))).mono ?_; rintro e w3 ⟨B3, hS3, rfl, hB3⟩; have z3 : wr.heap.size ≤ w3.heap.size := Nat.le_trans (first_le (a := wr) (B := wr.heap.size) (by assumption)) hB3.size)
              | (go_at_call 17; refine (HA4.out _ hS3 _ (hGr.keep (by assumption))).mono ?_; rintro e w4 ⟨rfl, hB4⟩; have z4 : wr.heap.size ≤ w4.heap.size := Nat.le_trans (first_le (a := wr) (B := wr.heap.size) (by assumption)) hB4.size; have th0 := (blk_new w4 24 (bytesV z32).toArray).there 0 (bytesV D).length hle; (first | (have N := Blk.keep (blk_new _ 24 (bytesV z32).toArray) hB4; have th1 := N.there 0 (bytesV D).length hle) | (have N := Blk.keep (Blk.keep (blk_new _ 24 (bytesV z32).toArray) hB3) hB4; have th1 := N.there 0 (bytesV D).length hle) | (have N := Blk.keep (Blk.keep (Blk.keep (blk_new _ 24 (bytesV z32).toArray) hB2) hB3) hB4; have th1 := N.there 0 (bytesV D).length hle) | (have N := Blk.keep (Blk.keep (Blk.keep (Blk.keep (Blk.drew (blk_new wr 24 (bytesV z32).toArray)) hB1) hB2) hB3) hB4; have th1 := N.there 0 (bytesV D).length hle) | (have N := Blk.keep (Blk.keep (Blk.keep (Blk.keep (blk_new _ 24 (bytesV z32).toArray) hB1) hB2) hB3) hB4; have th1 := N.there 0 (bytesV D).length hle) | skip)))
          all_goals (first | (have N4 := N) | (have N4 := blk_new w4 24 (bytesV z32).toArray))
          all_goals clear th0
          all_goals (go_wp2_with fail)
          all_goals go_meet
          all_goals exact ⟨_, rfl, Blk.all N4 (by rw [bytesV_length, HDL.out]; rfl), by assumption⟩
        case rest =>
          obtain ⟨b9, rfl, K9, CB⟩ := hcut
          have HMD : Hid (sha (xorL pk 54 ++ sb text) = D) := HMD0
          clear HA1 HA2 HA4 hone hi32 hle hcv J6 hGr hMl HMD0
          have J7c := J7.keep CB
          have WB := chain JB JB.size CB
          clear J7 JB CB
          have hGr := hG.keep WB
          have hDb : ∀ y ∈ D, y < 256 := by rw [← HMD.out]; exact sha_byte _
          generalize hp9 : xorL pk 92 = p9 at *
          have hp9b : ∀ y ∈ p9, y < 256 := by rw [← hp9]; exact xorL_byte _ _ (by omega) hpb
          have hp9l : p9.length = 64 := by rw [← hp9, xorL_length]; exact hpk
          have hsb := slice_all32
          have hcv : ∀ w', Below wc.heap.size wc w' → (convert 22 9 (.slice (some ⟨w.heap.size + 1, 0, none⟩) 64 64)).run Tryd.prog w' = .ok (.string (strOf p9)) w' := fun w' hB => conv_blk (J7c.keep hB) hp9b hp9l
          have hcv2 : ∀ w', Below wc.heap.size wc w' → (convert 22 9 (.slice (some ⟨b9, 0, none⟩) 32 32)).run Tryd.prog w' = .ok (.string (strOf D)) w' := fun w' hB => conv_blk (K9.keep hB) hDb HDL.out
          have HA1 := Lib.hid (fun (B : List Nat) (hS : Stm [] B) (w1 : World) (hG : Glob w1) => add_key p9 hp9b (by omega) B hS w1 hG)
          obtain ⟨M, hM⟩ : ∃ M, p9 ++ D = M := ⟨_, rfl⟩
          have HA2 := Lib.hid (fun (B : List Nat) (hS : Stm p9 B) (w1 : World) (hG : Glob w1) => add_more hM hDb (by rw [HDL.out]; omega) B hS w1 hG)
          have hMl : M.length ≤ 1152921504606846000 := by rw [← hM, List.length_append, HDL.out]; omega
          obtain ⟨E, hE⟩ : ∃ E, sha M = E := ⟨_, rfl⟩
          have HA4 := Lib.hid (fun (B : List Nat) (hS : Stm M B) (w1 : World) (hG : Glob w1) => sum_at hE B hS hMl w1 hG)
          have hEl : E.length = 32 := by rw [← hE, sha_length]
          have hEb : ∀ y ∈ E, y < 256 := by rw [← hE]; exact sha_byte _
          have hone := bytesV_cells E
          have hi32 : Option.map (fun x => x.size) (Tryd.prog.info? 24) = some (bytesV E).length := by
            rw [bytesV_length, hEl]
            kernel_rfl
          have hle : 0 + (bytesV E).length ≤ (bytesV z32).toArray.toList.length := by
            rw [bytesV_length, hEl]
            exact Nat.le_refl _
          have HEL := Lib.hid hEl
          have HRES : Hid (RES = E) := by
            have e := HM.out
            rw [← HP6.out, HMD.out, hM, hE] at e
            exact Lib.hid e
          clear hM hE hEl hp9 hp9l
          go_upto_region 14 with (fail)
          go_cut [10] (fun s10 wx => LaidAt wc E s10 wx)
          case first =>
            go_region_held3 (fun w' => Below wc.heap.size wc w')
              (first | assumption | exact below_drew (Below.refl _ _) | exact below_drew (by assumption) | exact Below.alloc (by assumption) (Below.size (by assumption)) _ | exact below_sets (by assumption) _ _ (by assumption) | exact below_sets (Nat.le_refl _) _ _ (by assumption) | exact link (by assumption) (by assumption))
              (first
                | (go_at_call 14; refine (begin_str _ (hGr.keep (by assumption))).mono ?_; rintro e w1 ⟨B1, hS1, rfl, hB1⟩; have z1 : wc.heap.size ≤ w1.heap.size := Nat.le_trans (first_le (a := wc) (B := wc.heap.size) (by assumption)) hB1.size)
                | (go_at_call_of 15 (Value.string (strOf p9)); refine (HA1.out _ hS1 _ (hGr.keep (by assumption))).mono ?_; rintro e w2 ⟨B2, hS2, rfl, hB2⟩; have z2 : wc.heap.size ≤ w2.heap.size := Nat.le_trans (first_le (a := wc) (B := wc.heap.size) (by assumption)) hB2.size)
                | (go_at_call_of 15 (Value.string (strOf D)); refine (HA2.out _ hS2 _ (hGr.keep (by assumption))).mono ?_; rintro e w3 ⟨B3, hS3, rfl, hB3⟩; have z3 : wc.heap.size ≤ w3.heap.size := Nat.le_trans (first_le (a := wc) (B := wc.heap.size) (by assumption)) hB3.size)
                | (go_at_call 17; refine (HA4.out _ hS3 _ (hGr.keep (by assumption))).mono ?_; rintro e w4 ⟨rfl, hB4⟩; have z4 : wc.heap.size ≤ w4.heap.size := Nat.le_trans (first_le (a := wc) (B := wc.heap.size) (by assumption)) hB4.size; have th0 := (blk_new w4 24 (bytesV z32).toArray).there 0 (bytesV E).length hle; (first | (have N := Blk.keep (blk_new _ 24 (bytesV z32).toArray) hB4; have th1 := N.there 0 (bytesV E).length hle) | (have N := Blk.keep (Blk.keep (blk_new _ 24 (bytesV z32).toArray) hB3) hB4; have th1 := N.there 0 (bytesV E).length hle) | (have N := Blk.keep (Blk.keep (Blk.keep (blk_new _ 24 (bytesV z32).toArray) hB2) hB3) hB4; have th1 := N.there 0 (bytesV E).length hle) | (have N := Blk.keep (Blk.keep (Blk.keep (Blk.keep (Blk.drew (blk_new wc 24 (bytesV z32).toArray)) hB1) hB2) hB3) hB4; have th1 := N.there 0 (bytesV E).length hle) | (have N := Blk.keep (Blk.keep (Blk.keep (Blk.keep (blk_new _ 24 (bytesV z32).toArray) hB1) hB2) hB3) hB4; have th1 := N.there 0 (bytesV E).length hle) | skip)))
            all_goals (first | (have N4 := N) | (have N4 := blk_new w4 24 (bytesV z32).toArray))
            all_goals clear th0
            all_goals (go_wp2_with fail)
            all_goals go_meet
            all_goals exact ⟨_, rfl, Blk.all N4 (by rw [bytesV_length, HEL.out]; rfl), by assumption⟩
          case rest =>
            obtain ⟨b10, rfl, K10, CB⟩ := hcut
            have hcvE := conv_blk K10 hEb HEL.out
            have WB2 := chain WB WB.size CB
            clear HA1 HA2 HA4 hone hi32 hle hcv hcv2 J7c K9 K10 CB WB
            go_wp2
            go_ret
            exact ⟨by rw [HRES.out]; rfl, chain hV hV.size WB2⟩

theorem mac_any (key text : ByteArray) (hk : key.size ≤ 1048576) (ht : text.size ≤ 1048576) (w : World) (hG : Glob w) :
    Calls Tryd.prog 18 #[.string key, .string text] w fun e w' => e = .returned (.string (strOf (hmac (sb key) (sb text)))) ∧ Below w.heap.size w w' :=
  mac_at w key text hk ht w (Below.refl _ _) hG

end Go.Proofs.YtgmlphfoadeboaaDoor
