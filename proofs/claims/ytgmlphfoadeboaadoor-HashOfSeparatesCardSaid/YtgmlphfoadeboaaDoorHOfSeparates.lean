/-
  passimlaw02.HashOfSeparates returns true.
-/
import Derived.Test.YtgmlphfoadeboaaDoorHOfMatches
import Derived.Test.YtgmlphfoadeboaaDoorQx
import Derived.Test.YtgmlphfoadeboaaDoorQz
import Derived.Deep.CutBlock
namespace Go.Proofs.YtgmlphfoadeboaaDoor
open Go.RowKit
set_option linter.unusedVariables false
set_option linter.unusedSimpArgs false

/-- The two tags lie in their block, and nothing below has changed. -/
def SepAt (w : World) (S T : Nat) (wx : World) : Prop := Blk wx w.heap.size 48 [.int .u8 (S : Int), .int .u8 (T : Int)] ∧ Below w.heap.size w wx
theorem str_eq_true {x y : ByteArray} (h : x = y) : (x.toList == y.toList) = true := by rw [h]; simp
theorem str_eq_false {x y : ByteArray} (h : x ≠ y) : (x.toList == y.toList) = false := by simp; exact fun e => h (bytes_eq e)

theorem ofIn_byte (T : Nat) (ps : List ByteArray) (hT : T < 256) (ht : ∀ s ∈ ps, s.size ≤ 1048576) : ∀ y ∈ ofIn T (sbs ps), y < 256 := by
  intro y hy
  unfold ofIn at hy
  rcases List.mem_cons.1 hy with rfl | h
  · exact hT
  · obtain ⟨d, hd, hyd⟩ := List.mem_flatMap.1 h
    obtain ⟨s, hs, rfl⟩ := List.mem_map.1 hd
    exact encS_byte s (ht s hs) y hyd

set_option maxHeartbeats 4000000 in
set_option maxRecDepth 100000 in
theorem separates_any (S T : Nat) (hS : S < 256) (hT : T < 256) (A B : Option Addr) (p q : List ByteArray) (n c m d : Nat) (w : World) (hn : n = p.length) (hm : m = q.length) (hp : Cells w A (strsV p)) (hq : Cells w B (strsV q)) (hG : Glob w) :
    Calls Tryd.prog 8 #[.agg #[.int .u8 (S : Int), .int .u8 (T : Int)], .slice A n c, .slice B m d] w (Told w true) := by
  subst hn; subst hm
  have HF1 := fun w0 h => few_any A p p.length c w0 rfl h
  have HF2 := fun w0 h => few_any B q q.length d w0 rfl h
  by_cases hf1 : fewB p = true
  · by_cases hf2 : fewB q = true
    · have HB1 := Lib.hid hf1
      have HB2 := Lib.hid hf2
      obtain ⟨hp12, hp400⟩ := (fewB_iff p).1 hf1
      obtain ⟨hq12, hq400⟩ := (fewB_iff q).1 hf2
      clear hf1 hf2
      go_enter Tryd.func8, Tryd.ntmps8
      go_upto_region 1 with (fail)
      generalize hw0 : World.alloc _ _ = W0
      have K0 : SepAt w S T W0 := hw0 ▸ ⟨blk_new w _ _, (Below.refl _ _).alloc (Nat.le_refl _) _⟩
      clear hw0
      go_wp2_with fail
      refine (sanity_any W0 (hG.keep K0.2)).mono ?_
      rintro e w1 ⟨rfl, hB1⟩
      have K1 : SepAt w S T w1 := ⟨K0.1.keep hB1, K0.2.trans (hB1.mono K0.2.size)⟩
      go_wp2_with fail
      refine (HF1 w1 (hp.keep K1.2)).mono ?_
      rintro e w2 ⟨rfl, hB2⟩
      rw [HB1.out]
      have K2 : SepAt w S T w2 := ⟨K1.1.keep hB2, K1.2.trans (hB2.mono K1.2.size)⟩
      go_wp2_with fail
      refine (HF2 w2 (hq.keep K2.2)).mono ?_
      rintro e w3 ⟨rfl, hB3⟩
      rw [HB2.out]
      have K3 : SepAt w S T w3 := ⟨K2.1.keep hB3, K2.2.trans (hB3.mono K2.2.size)⟩
      clear HF1 HF2 hB1 hB2 hB3 K0 K1 K2
      go_upto_region 4 with (fail)
      go_cut [0, 1, 2, 8] from 18 (fun s0 s1 s2 s8 wx => s0 = .agg #[.int .u8 (S : Int), .int .u8 (T : Int)] ∧ s1 = .slice A p.length c ∧ s2 = .slice B q.length d ∧ s8 = .bool (decide (S = T ∧ p.length = q.length)) ∧ SepAt w S T wx)
      case first =>
        have c0 : w3.cell? ⟨w.heap.size, 0, none⟩ = some (.int .u8 (S : Int)) := K3.1.cell rfl
        have c1 : w3.cell? ⟨w.heap.size, 1, none⟩ = some (.int .u8 (T : Int)) := K3.1.cell rfl
        go_wp2
        all_goals go_meet
        · rename_i h
          have h' : S = T := by omega
          exact ⟨by rw [h'], rfl, rfl, by congr 1; rw [Bool.eq_iff_iff]; simp [h']; omega, K3⟩
        · rename_i h
          have h' : ¬ S = T := by omega
          exact ⟨rfl, rfl, rfl, by simp [h'], K3⟩
      case rest =>
        obtain ⟨rfl, rfl, rfl, rfl, K4⟩ := hcut
        clear K3
        generalize hs0 : decide (S = T ∧ p.length = q.length) = s0
        have HS0 := Lib.hid hs0
        clear hs0
        go_upto_block 0 with (fail)
        go_cut [1, 2, 8] from 18 (fun s1 s2 s8 wx => s1 = .slice A p.length c ∧ s2 = .slice B q.length d ∧ (∃ s, s8 = .bool s ∧ Hid (s = true ↔ S = T ∧ p = q)) ∧ SepAt w S T wx)
        case first =>
          go_wp2_with fail
          go_loopw [8, 9] (fun v i wr => ∃ (k : Nat) (s : Bool), k ≤ p.length ∧ i = .int .i64 k ∧ v = .bool s ∧ Hid (s = true ↔ S = T ∧ p.length = q.length ∧ p.take k = q.take k) ∧ SepAt w S T wr) (fun _ i _ => p.length - (intOf i).toNat)
          case atStart => exact ⟨0, s0, by omega, rfl, rfl, Lib.hid (by rw [← HS0.out]; simp), K4⟩
          case round =>
            clear K4 HS0
            obtain ⟨k, s, hk, rfl, rfl, HS, K4⟩ := hrel
            by_cases hlt : k < p.length
            · cases s with
              | false =>
                have HE : Hid ((false = true) ↔ S = T ∧ p = q) := Lib.hid ⟨(fun h => by cases h), (fun h => HS.out.mpr ⟨h.1, by rw [h.2], by rw [h.2]⟩)⟩
                clear HS
                go_wp2
                go_meet
                case rel => exact ⟨rfl, rfl, ⟨false, rfl, HE⟩, K4⟩
              | true =>
                obtain ⟨g1, g2, g3⟩ := HS.out.mp rfl
                have hltq : k < q.length := by omega
                have hkp : (k : Int) < (p.length : Int) := by omega
                have hkq : (k : Int) < (q.length : Int) := by omega
                obtain ⟨ad, e, _, hc1⟩ := (hp.keep K4.2) k (.string p[k]) (by simp [strsV, List.getElem?_eq_getElem hlt])
                subst e
                obtain ⟨bd, e, _, hc2⟩ := (hq.keep K4.2) k (.string q[k]) (by simp [strsV, List.getElem?_eq_getElem hltq])
                subst e
                have HN : ∀ b : Bool, (b = true ↔ p[k] = q[k]) → Hid (b = true ↔ S = T ∧ p.length = q.length ∧ p.take (k + 1) = q.take (k + 1)) := fun b hb => Lib.hid (by rw [hb, take_next hlt hltq]; exact ⟨fun h => ⟨g1, g2, g3, h⟩, fun h => h.2.2.2⟩)
                have HNN := Lib.hid HN
                clear HN HS g1 g2 g3
                generalize p[k] = x at hc1 HNN
                generalize q[k] = y at hc2 HNN
                by_cases hxy : x = y
                · have he := str_eq_true hxy
                  have HR := HNN.out true ⟨fun _ => hxy, fun _ => rfl⟩
                  clear HNN hxy
                  go_wp2
                  go_quiet (fail)
                  have K5 : SepAt w S T (wr.drewN nq) := ⟨K4.1.drewN nq, below_drewN K4.2 nq⟩
                  clear K4 hc1 hc2 he
                  generalize wr.drewN nq = wq at K5 ⊢
                  go_wp2
                  go_roundw
                  case rel => exact ⟨k + 1, true, by omega, by go_num, rfl, Lib.hid (by simpa using HR.out), K5⟩
                  case measure => simp [intOf]; omega
                · have he := str_eq_false hxy
                  have HR := HNN.out false ⟨(fun h => by cases h), (fun h => absurd h hxy)⟩
                  clear HNN hxy
                  go_wp2
                  go_quiet (fail)
                  have K5 : SepAt w S T (wr.drewN nq) := ⟨K4.1.drewN nq, below_drewN K4.2 nq⟩
                  clear K4 hc1 hc2 he
                  generalize wr.drewN nq = wq at K5 ⊢
                  go_wp2
                  go_roundw
                  case rel => exact ⟨k + 1, false, by omega, by go_num, rfl, Lib.hid (by simpa using HR.out), K5⟩
                  case measure => simp [intOf]; omega
            · have hkk : k = p.length := by omega
              have HE : Hid ((s = true) ↔ S = T ∧ p = q) := Lib.hid (by
                rw [HS.out, hkk, List.take_length]
                exact ⟨fun h => ⟨h.1, by rw [h.2.2, h.2.1, List.take_length]⟩, fun h => ⟨h.1, by rw [h.2], by rw [← h.2, List.take_length]⟩⟩)
              have hnl : ¬ (k : Int) < (p.length : Int) := by omega
              clear HS hkk
              go_wp2
              go_meet
              case rel => exact ⟨rfl, rfl, ⟨s, rfl, HE⟩, K4⟩
        case rest =>
          obtain ⟨rfl, rfl, ⟨s, rfl, HSM⟩, K5⟩ := hcut
          clear K4 HS0 s0
          have hp' : ∀ x ∈ p, x.size ≤ 1048576 := fun x h => by have := hp400 x h; omega
          have hq' : ∀ x ∈ q, x.size ≤ 1048576 := fun x h => by have := hq400 x h; omega
          have hSw : IntKind.u8.wrap (S : Int) = (S : Int) := by rw [wrap_u8_mod]; omega
          have hTw : IntKind.u8.wrap (T : Int) = (T : Int) := by rw [wrap_u8_mod]; omega
          have hS6 : IntKind.i64.wrap (S : Int) = (S : Int) := IntWalk.i64_in _ (by omega)
          have hT6 : IntKind.i64.wrap (T : Int) = (T : Int) := IntWalk.i64_in _ (by omega)
          have HI1 := Lib.hid (fun w0 h => input_any (S : Int) S hS hSw A p p.length c w0 rfl (by omega) hp' h)
          have HI2 := Lib.hid (fun w0 h => input_any (T : Int) T hT hTw B q q.length d w0 rfl (by omega) hq' h)
          have HO1 := Lib.hid (fun w0 h g => of_any (S : Int) S hS hSw A p p.length c w0 rfl (by omega) hp' h g)
          have HO2 := Lib.hid (fun w0 h g => of_any (T : Int) T hT hTw B q q.length d w0 rfl (by omega) hq' h g)
          have hinj := ofIn_inj S T p q hp' hq'
          have hlx := ofM_len S p hp' p.length (Nat.le_refl _)
          have hly := ofM_len T q hq' q.length (Nat.le_refl _)
          rw [ofM_all] at hlx hly
          have hbx := ofIn_byte S p hS hp'
          have hby := ofIn_byte T q hT hq'
          rw [← hinj] at HSM
          generalize ofIn S (sbs p) = mx at HI1 HO1 hlx hbx HSM
          generalize ofIn T (sbs q) = my at HI2 HO2 hly hby HSM
          have c0 : wc.cell? ⟨w.heap.size, 0, none⟩ = some (.int .u8 (S : Int)) := K5.1.cell rfl
          clear hinj hSw hTw
          go_wp2_with fail
          refine (HI1.out wc (hp.keep K5.2)).mono ?_
          rintro e w5 ⟨gx, cx, rfl, hOx⟩
          have K6 : SepAt w S T w5 := ⟨K5.1.keep hOx.below, K5.2.trans (hOx.below.mono K5.2.size)⟩
          have c1 : w5.cell? ⟨w.heap.size, 1, none⟩ = some (.int .u8 (T : Int)) := K6.1.cell rfl
          have hX5 := hOx.has hbx
          clear K5 c0 hOx HI1
          go_wp2_with fail
          refine (HI2.out w5 (hq.keep K6.2)).mono ?_
          rintro e w6 ⟨gy, cy, rfl, hOy⟩
          have K7 : SepAt w S T w6 := ⟨K6.1.keep hOy.below, K6.2.trans (hOy.below.mono K6.2.size)⟩
          have hX := hX5.keep hOy.below
          have hY := hOy.has hby
          clear K6 c1 hOy HI2 hX5
          cases s with
          | true =>
            have hxy := HSM.out.mp rfl
            have hcx := conv_any (some ⟨gx, 0, none⟩) mx mx.length cx w6 rfl hX
            have hcy := conv_any (some ⟨gy, 0, none⟩) my my.length cy w6 rfl hY
            have hst : strOf my = strOf mx := by rw [hxy]
            rw [hst] at hcy
            clear hxy hst
            go_wp2
            go_ret
            exact ⟨rfl, K7.2⟩
          | false =>
            have hne : mx ≠ my := fun e => by have := HSM.out.mpr e; cases this
            have hnes : strOf mx ≠ strOf my := fun e => hne (by rw [← sb_strOf mx hbx, ← sb_strOf my hby, e])
            have HNE := Lib.hid (str_eq_false hnes)
            have HHX := Lib.hid (fun w0 h g => sum_any (some ⟨gx, 0, none⟩) mx mx.length cx w0 rfl (by omega) h g)
            have HHY := Lib.hid (fun w0 h g => sum_any (some ⟨gy, 0, none⟩) my my.length cy w0 rfl (by omega) h g)
            have hdx := sha_length mx
            have hdy := sha_length my
            have hux := sha_byte mx
            have huy := sha_byte my
            have hl1 : ((sha mx).take 16).length = 16 := by rw [List.length_take, hdx]; rfl
            have hl2 : ((sha my).take 16).length = 16 := by rw [List.length_take, hdy]; rfl
            have hu1 : ∀ y ∈ (sha mx).take 16, y < 256 := fun y hy => hux y (List.mem_of_mem_take hy)
            have hu2 : ∀ y ∈ (sha my).take 16, y < 256 := fun y hy => huy y (List.mem_of_mem_take hy)
            generalize sha mx = X at *
            generalize sha my = Y at *
            have HXY : Hid (∀ i, i < 16 → i < X.length ∧ i < Y.length) := Lib.hid (fun i hi => ⟨by omega, by omega⟩)
            obtain ⟨E, hE⟩ : ∃ E, X.take 16 = E := ⟨_, rfl⟩
            obtain ⟨F, hF⟩ : ∃ F, Y.take 16 = F := ⟨_, rfl⟩
            rw [hE] at HO1 hl1 hu1
            rw [hF] at HO2 hl2 hu2
            have HEE := Lib.hid hE
            have HFF := Lib.hid hF
            have v1 : (bytesV E).length = 16 := by rw [bytesV_length]; exact hl1
            have v2 : (bytesV F).length = 16 := by rw [bytesV_length]; exact hl2
            have v3 : (bytesV X).length = 32 := by rw [bytesV_length]; exact hdx
            have v4 : (bytesV Y).length = 32 := by rw [bytesV_length]; exact hdy
            have hz16 : (bytesV z16).toArray.toList.length = 16 := rfl
            have hz32 : (bytesV z32).toArray.toList.length = 32 := rfl
            have hz1 := zero_dig'
            have hz2 := zero_32
            have c0 : w6.cell? ⟨w.heap.size, 0, none⟩ = some (.int .u8 (S : Int)) := K7.1.cell rfl
            clear hne hnes hE hF HSM
            go_wp2_with fail
            refine (HO1.out w6 (hp.keep K7.2) (hG.keep K7.2)).mono ?_
            rintro e w7 ⟨rfl, hB7⟩
            clear c0 HO1
            go_upto_region 14 with (refine store_blk rfl 44 (.tmp 12) (.tmp 81) rfl (blk_new w7 44 (bytesV z16).toArray) rfl rfl (m := 16) (by kernel_rfl) v1 hz16 (bytesV_cells E) ?_; intro x7 KD OD)
            have Z7 : Below w6.heap.size w6 x7 := OD.2.2 _ _ hB7.size (hB7.alloc hB7.size (.cells (bytesV z16).toArray 44))
            have K8 : SepAt w S T x7 := ⟨K7.1.keep Z7, K7.2.trans (Z7.mono K7.2.size)⟩
            have c1 : x7.cell? ⟨w.heap.size, 1, none⟩ = some (.int .u8 (T : Int)) := K8.1.cell rfl
            clear OD hB7
            go_wp2_with fail
            refine (HO2.out x7 (hq.keep K8.2) (hG.keep K8.2)).mono ?_
            rintro e w8 ⟨rfl, hB8⟩
            clear c1 HO2
            go_upto_region 15 with (refine store_blk rfl 44 (.tmp 13) (.tmp 86) rfl (blk_new w8 44 (bytesV z16).toArray) rfl rfl (m := 16) (by kernel_rfl) v2 hz16 (bytesV_cells F) ?_; intro x8 KE OE)
            have Z8 : Below x7.heap.size x7 x8 := OE.2.2 _ _ hB8.size (hB8.alloc hB8.size (.cells (bytesV z16).toArray 44))
            have Y8 := link Z7 Z8
            clear OE hB8
            go_wp2_with fail
            refine (HHX.out x8 (hX.keep Y8) (hG.keep (K7.2.trans (Y8.mono K7.2.size)))).mono ?_
            rintro e w9 ⟨rfl, hB9⟩
            clear HHX
            go_upto_region 16 with (refine store_blk rfl 24 (.tmp 14) (.tmp 88) rfl (blk_new w9 24 (bytesV z32).toArray) rfl rfl (m := 32) (by kernel_rfl) v3 hz32 (bytesV_cells X) ?_; intro x9 KX OX)
            have Z9 : Below x8.heap.size x8 x9 := OX.2.2 _ _ hB9.size (hB9.alloc hB9.size (.cells (bytesV z32).toArray 24))
            have Y9 := link Y8 Z9
            clear OX hB9
            go_wp2_with fail
            refine (HHY.out x9 (hY.keep Y9) (hG.keep (K7.2.trans (Y9.mono K7.2.size)))).mono ?_
            rintro e wa ⟨rfl, hBa⟩
            clear HHY
            go_upto_region 17 with (refine store_blk rfl 24 (.tmp 15) (.tmp 90) rfl (blk_new wa 24 (bytesV z32).toArray) rfl rfl (m := 32) (by kernel_rfl) v4 hz32 (bytesV_cells Y) ?_; intro xa KY OY)
            have Za : Below x9.heap.size x9 xa := OY.2.2 _ _ hBa.size (hBa.alloc hBa.size (.cells (bytesV z32).toArray 24))
            have Ya := link Y9 Za
            have LD := KD.keep (link Z8 (link Z9 Za))
            have LE := KE.keep (link Z9 Za)
            have LX := KX.keep Za
            have LX' := hX.keep Ya
            have LY' := hY.keep Ya
            have LB := K7.2.trans (Ya.mono K7.2.size)
            clear OY hBa KD KE KX hX hY Z7 Z8 Z9 Za Y8 Y9 Ya K7 K8 hz1 hz2 hz16 hz32
            generalize w7.heap.size = bd at LD ⊢
            generalize w8.heap.size = be at LE ⊢
            generalize w9.heap.size = bx at LX ⊢
            generalize wa.heap.size = by_ at KY ⊢
            go_wp2
            go_loopw [16, 17] (fun v i wr => ∃ (k : Nat) (b : Bool), k ≤ 16 ∧ i = .int .i64 k ∧ v = .bool b ∧ Hid (b = true ↔ X.take k = Y.take k) ∧ Below xa.heap.size xa wr) (fun _ i _ => 16 - (intOf i).toNat)
            case atStart => exact ⟨0, true, by omega, rfl, rfl, Lib.hid (by simp), Below.refl _ _⟩
            case round =>
              obtain ⟨k, b, hk, rfl, rfl, HS, hBr⟩ := hrel
              by_cases h16 : k < 16
              · obtain ⟨hkx, hky⟩ := HXY.out k h16
                have hkl : (k : Int) < 32 := by omega
                have hk16 : (k : Int) < 16 := by omega
                cases b with
                | true =>
                  obtain ⟨y1, hy1⟩ : ∃ y, X[k] = y := ⟨_, rfl⟩
                  obtain ⟨y2, hy2⟩ : ∃ y, Y[k] = y := ⟨_, rfl⟩
                  have d1 : wr.cell? ⟨bx, k, none⟩ = some (.int .u8 (y1 : Int)) := (LX.keep hBr).cell (by simp [bytesV, byteV, hkx, hy1])
                  have d2 : wr.cell? ⟨by_, k, none⟩ = some (.int .u8 (y2 : Int)) := (KY.keep hBr).cell (by simp [bytesV, byteV, hky, hy2])
                  have HN : Hid ((((y1 : Int) == (y2 : Int)) = true) ↔ X.take (k + 1) = Y.take (k + 1)) := Lib.hid (by
                    rw [take_next hkx hky, hy1, hy2, beq_iff_eq]
                    exact ⟨fun h => ⟨HS.out.mp rfl, by omega⟩, fun h => by rw [h.2]⟩)
                  clear HS hy1 hy2
                  go_wp2
                  go_quiet (fail)
                  have hBq := below_drewN hBr nq
                  clear d1 d2 hBr
                  generalize wr.drewN nq = wq at hBq ⊢
                  go_wp2
                  refine ⟨⟨k + 1, _, by omega, by go_num, rfl, Lib.hid HN.out, hBq⟩, ?_⟩
                  simp [intOf]
                  omega
                | false =>
                  have HN : Hid ((false = true) ↔ X.take (k + 1) = Y.take (k + 1)) := Lib.hid (by
                    rw [take_next hkx hky]
                    exact ⟨(fun h => by cases h), (fun h => HS.out.mpr h.1)⟩)
                  clear HS
                  go_wp2
                  go_quiet (fail)
                  have hBq := below_drewN hBr nq
                  clear hBr
                  generalize wr.drewN nq = wq at hBq ⊢
                  go_wp2
                  go_roundw
                  case rel => exact ⟨k + 1, false, by omega, by go_num, rfl, Lib.hid (by simpa using HN.out), hBq⟩
                  case measure => simp [intOf]; omega
              · obtain rfl : k = 16 := by omega
                rw [HEE.out, HFF.out] at HS
                have hcx := conv_any (some ⟨gx, 0, none⟩) mx mx.length cx wr rfl (LX'.keep hBr)
                have hcy := conv_any (some ⟨gy, 0, none⟩) my my.length cy wr rfl (LY'.keep hBr)
                have h3 := HNE.out
                have h4 : (!(strOf mx).toList == (strOf my).toList) = true := by rw [h3]; rfl
                have MD := LD.keep hBr
                have ME := LE.keep hBr
                have heq : ∀ w, (Op.equalIn 10000 44 (.agg (bytesV E).toArray) (.agg (bytesV F).toArray)).run Tryd.prog w = .ok b w := fun w => by
                  rw [equal_16 w E F hl1 hl2 hu1 hu2]
                  congr 1
                  rw [Bool.eq_iff_iff, decide_eq_true_eq]
                  exact HS.out.symm
                have hW := LB.trans (hBr.mono LB.size)
                clear HS HNE LX LX' LY' KY LD LE hBr LB
                cases b with
                | true =>
                  go_wp2_with (first
                    | (refine load_wanted (by rfl) 44 (.tmp 12) rfl MD rfl Tryd.underlying44 (m := 16) (by kernel_rfl) v1 ?_)
                    | (refine load_wanted (by rfl) 44 (.tmp 13) rfl ME rfl Tryd.underlying44 (m := 16) (by kernel_rfl) v2 ?_))
                  go_ret
                  exact ⟨rfl, hW⟩
                | false =>
                  go_wp2_with (first
                    | (refine load_wanted (by rfl) 44 (.tmp 12) rfl MD rfl Tryd.underlying44 (m := 16) (by kernel_rfl) v1 ?_)
                    | (refine load_wanted (by rfl) 44 (.tmp 13) rfl ME rfl Tryd.underlying44 (m := 16) (by kernel_rfl) v2 ?_))
                  go_ret
                  exact ⟨rfl, hW⟩
    · have HB1 := Lib.hid hf1
      have HB2 := Lib.hid (Bool.eq_false_iff.2 hf2)
      clear hf1 hf2
      go_enter Tryd.func8, Tryd.ntmps8
      go_upto_region 1 with (fail)
      generalize hw0 : World.alloc _ _ = W0
      have K0 : Below w.heap.size w W0 := hw0 ▸ ((Below.refl _ _).alloc (Nat.le_refl _) _)
      clear hw0
      go_wp2_with fail
      refine (sanity_any W0 (hG.keep K0)).mono ?_
      rintro e w1 ⟨rfl, hB1⟩
      have K1 := chain K0 K0.size hB1
      go_wp2_with fail
      refine (HF1 w1 (hp.keep K1)).mono ?_
      rintro e w2 ⟨rfl, hB2⟩
      rw [HB1.out]
      have K2 := chain K1 K1.size hB2
      go_wp2_with fail
      refine (HF2 w2 (hq.keep K2)).mono ?_
      rintro e w3 ⟨rfl, hB3⟩
      rw [HB2.out]
      go_wp2
      go_ret
      exact ⟨rfl, chain K2 K2.size hB3⟩
  · have HB1 := Lib.hid (Bool.eq_false_iff.2 hf1)
    clear hf1
    go_enter Tryd.func8, Tryd.ntmps8
    go_upto_region 1 with (fail)
    generalize hw0 : World.alloc _ _ = W0
    have K0 : Below w.heap.size w W0 := hw0 ▸ ((Below.refl _ _).alloc (Nat.le_refl _) _)
    clear hw0
    go_wp2_with fail
    refine (sanity_any W0 (hG.keep K0)).mono ?_
    rintro e w1 ⟨rfl, hB1⟩
    have K1 := chain K0 K0.size hB1
    go_wp2_with fail
    refine (HF1 w1 (hp.keep K1)).mono ?_
    rintro e w2 ⟨rfl, hB2⟩
    rw [HB1.out]
    go_wp2
    go_ret
    exact ⟨rfl, chain K1 K1.size hB2⟩

namespace hashOfSeparates
open Go.ChangeShapes Go.WideShapes Go.ChangeAt Go.RowKit

theorem contract (H : Type) (enc : TypeId × Value → H) (W : World) (base : Nat) (args : Array Value) (ds gs : List (DataW H)) (before : List MemPlace)
    (hval : ∀ (j : Nat) t v, Tryd.f8.params[j]? = some t → args[j]? = some v → Value.okWide Tryd.prog W .any base t v)
    (hW : DataW.Whole enc Tryd.prog Tryd.f8.params.toList Rows.hashOfSeparatesSpec.vars false W args.toList ds gs before) (hL : laidMetH Tryd.prog Rows.hashOfSeparatesRow.laid W) :
    Calls Tryd.prog 8 args W fun e W' => ∃ v, e = .returned v ∧ Rows.hashOfSeparatesSpec.post enc Tryd.prog Tryd.f8 false true false false W args v W' := by
  have hW' := hW
  obtain ⟨p, q, hA0, hV, rfl, hfz, hnd⟩ := hW
  have hA : DataW.TrodAll enc Tryd.prog W 0 (fun _ => true) true Tryd.f8.params.toList args.toList ds p := hA0
  rw [Tryd.params8] at hA hval
  obtain ⟨v0, v1, v2, d0, d1, d2, p0, p1, p2, rfl, rfl, rfl, h0, h1, h2⟩ := trodAll_three hA
  obtain ⟨rfl, rfl⟩ := trodVars_none hV
  obtain ⟨t0, t1, rfl, rfl, hb0, hc0, w0⟩ := open_two (hval 0 48 v0 rfl rfl) h0
  clear hA0
  simp only [List.append_nil] at hW'
  have hlt1 : ∀ x ∈ p1, x.block < W.heap.size := fun x hx => by simpa using hW'.lt x (by simp [hx])
  have hlt2 : ∀ x ∈ p2, x.block < W.heap.size := fun x hx => by simpa using hW'.lt x (by simp [hx])
  obtain ⟨A, n1, c1, l1, rfl, hn1, _, hr1, hst1, _⟩ := open_textsV (hval 1 27 v1 rfl rfl) h1 hlt1
  obtain ⟨B, n2, c2, l2, rfl, hn2, _, hr2, hst2, _⟩ := open_textsV (hval 2 27 v2 rfl rfl) h2 hlt2
  have hG : Glob W := glob_of hL
  refine (separates_any t0 t1 hb0 hc0 A B l1 l2 n1 c1 n2 c2 W hn1 hn2 hr1 hr2 hG).mono fun e W' ⟨he, hB⟩ => ?_
  subst he
  refine ⟨_, rfl, _, _, _, [], [] ++ p1 ++ p2, [], hW', ?_, ?_, rfl, hB.frame _, fun h => by cases h⟩
  · exact trodAll_mk1 (shut_bool Tryd.underlying4 _)
  · exact trodAll_mk3 (w0 _ _) (Below.trod laidOut (by kernel_rfl) (of_decide_eq_true (by kernel_rfl)) h1 hB hlt1) (Below.trod laidOut (by kernel_rfl) (of_decide_eq_true (by kernel_rfl)) h2 hB hlt2)

theorem laid_met (os : Os) : laidMet Tryd.prog Rows.hashOfSeparatesRow.laid ((laidWorld os).forCall (fun _ _ => 0) ⟨#[], #[.agg #[.int .u8 0, .int .u8 0], .slice none 0 0, .slice none 0 0], []⟩).memory :=
  laidMet_of_run' 8 (by kernel_rfl) (by kernel_rfl)
theorem reads (os : Os) {H : Type} (enc : TypeId × Value → H) : ∃ ds places, DataW.whole enc Tryd.prog ((laidWorld os).forCall (fun _ _ => 0) ⟨#[], #[.agg #[.int .u8 0, .int .u8 0], .slice none 0 0, .slice none 0 0], []⟩).memory Tryd.f8.params.toList Rows.hashOfSeparatesSpec.vars false (#[.agg #[.int .u8 0, .int .u8 0], .slice none 0 0, .slice none 0 0] : Array Value).toList 8 = some (ds, [], places) :=
  ⟨[.agg [.lit (.int .u8 0), .lit (.int .u8 0)], .nil, .nil], [], by kernel_rfl⟩

set_option maxRecDepth 100000 in
theorem lifted (os : Os) (started : os.Started) (H : Type) (enc : TypeId × Value → H) (F : Stop.Interp) :
    ReturnsInHanded {} Tryd.checked os 8 .any ((OpenSpec.ofChange Rows.hashOfSeparatesSpec).preRow enc Tryd.prog Tryd.f8 Rows.hashOfSeparatesRow.domain false Rows.hashOfSeparatesRow.laid) (((OpenSpec.ofChange Rows.hashOfSeparatesSpec).at F).post enc Tryd.prog Tryd.f8 false true false false) := by
  obtain ⟨ds, places, hx⟩ := reads os enc
  refine returnsInHanded_of_row (C := Tryd.checked) (s := OpenSpec.ofChange Rows.hashOfSeparatesSpec) own started (by kernel_rfl) Tryd.func8
    (witness_row_at (enc := enc) (C := Tryd.checked) false (laidWorld os) #[.agg #[.int .u8 0, .int .u8 0], .slice none 0 0, .slice none 0 0] rfl (by kernel_rfl) (by kernel_rfl) (by kernel_rfl)
      (OpenSpec.preRow_of_cond 8 hx (by kernel_rfl) (fun k hk => by cases hk) (by kernel_rfl) (laid_met os))) ?_
  intro W base args ds gs before hval hW _ _ _ hL _ _
  exact contract H enc W base args ds gs before hval hW hL

theorem said : Rows.HashOfSeparatesSaid :=
  OpenClaim.holds_of_cond 8 Tryd.f8 rfl rfl rfl rfl rfl rfl rfl ⟨rfl, rfl, rfl, rfl, rfl⟩ rfl rfl rfl rfl rfl (by kernel_rfl) Tryd.func8 (by kernel_rfl)
    (of_decide_eq_true (by kernel_rfl)) (by unfold Func.isWrapper; first | (rw [if_pos (by decide +kernel)]; kernel_rfl) | (rw [if_neg (by decide +kernel)]; exact ⟨rfl, rfl⟩))
    (fun os started H enc _ F => by rw [OpenClaim.pre_eq_preRow]; exact lifted os started H enc F)

theorem plain (f : FuncId) (fn : Func) (hf : Tryd.pinned.checked.prog.funcNamed "passim/passimlaw02.HashOfSeparates" = some f) (hfn : Tryd.pinned.checked.prog.funcs[f]? = some fn) :
    false = Tryd.pinned.checked.prog.looks [] ∧ ∀ (j : Nat) t, fn.params[j]? = some t → Tryd.pinned.checked.prog.wantsStandIn t = false := by
  obtain rfl : f = 8 := Option.some.inj ((show Tryd.prog.funcNamed "passim/passimlaw02.HashOfSeparates" = some 8 by kernel_rfl).symm.trans hf) |>.symm
  obtain rfl : fn = Tryd.f8 := (Option.some.inj (Tryd.func8.symm.trans hfn)).symm
  refine ⟨by kernel_rfl, fun j t ht => ?_⟩
  rw [Tryd.params8] at ht
  have hm := Array.mem_of_getElem? ht
  simp at hm
  rcases hm with rfl | rfl | rfl
  all_goals first | exact (show Tryd.prog.wantsStandIn 48 = false by kernel_rfl) | exact (show Tryd.prog.wantsStandIn 27 = false by kernel_rfl)

theorem proved : Rows.HashOfSeparatesCardSaid :=
  Claim7.holds_tied_plain_at .later [] _ _ _ _ said (fun _ h => by cases h) (by kernel_rfl) (fun _ h => by cases h) hashOfSeparates_row_tie rfl ⟨rfl, rfl⟩ (by kernel_rfl) rfl plain (by kernel_rfl)
#print axioms proved
end hashOfSeparates

end Go.Proofs.YtgmlphfoadeboaaDoor
