/-
  Prove, Range, Check and CheckRange; the examples of the section. Conditions: as each theorem states them; no axiom beyond propext, Classical.choice, Quot.sound.
-/
import Derived.Test.YtfhfmdnimebegaaDoorEw
import Derived.Test.YtfhfmdnimebegaaDoorE4
import Derived.Test.YtfhfmdnimebegaaDoorE5

/-
  merkle.proof: the leaves of a range, and the digests beside them.
-/
namespace Go.Proofs.YtfhfmdnimebegaaDoor
open Go.RowKit
set_option linter.unusedVariables false
set_option linter.unusedSimpArgs false

theorem heap_sets (b : Nat) : ∀ (vs : List Value) (w : World) (o j : Nat), j ≠ b → (w.setCells b o vs).heap[j]? = w.heap[j]?
  | [], w, o, j, h => rfl
  | v :: vs, w, o, j, h => by rw [World.setCells, heap_sets b vs _ _ j h, heap_setCell_other w ⟨b, o, none⟩ j v h]
theorem Lvs.heap {w w' : World} {b off : Nat} {ls : List Lf} (h : Lvs w b off ls) (hh : w'.heap[b]? = w.heap[b]?) (hs : w.heap.size ≤ w'.heap.size) : Lvs w' b off ls :=
  ⟨Nat.lt_of_lt_of_le h.1 hs, fun i x hx => ⟨(World.cell?_of_block (w := w) hh).trans (h.2 i x hx).1, (World.cell?_of_block (w := w) hh).trans (h.2 i x hx).2⟩⟩
theorem OwnD.heap {w w' : World} {B B' : Nat} {v : Value} {l : List (List Nat)} (h : OwnD w B v l) (hh : ∀ j, B ≤ j → w'.heap[j]? = w.heap[j]?) (hB : B' ≤ B) : OwnD w' B' v l := by
  refine ⟨h.1, ?_⟩
  rcases h.2 with h0 | ⟨g, cap, cur, hv, hg, hx, rest⟩
  · exact .inl h0
  · exact .inr ⟨g, cap, cur, hv, Nat.le_trans hB hg, (hh g hg).trans hx, rest⟩
theorem one_own {w : World} {B : Nat} {v : Value} {l : List (List Nat)} (h : OwnD w B v l) : v.oneCell' = true := by
  rcases h.2 with ⟨rfl, _⟩ | ⟨g, cap, cur, rfl, _⟩ <;> rfl
theorem blk_at {w1 : World} {b : Nat} (h : w1.heap.size = b) (t : TypeId) (cs : Array Value) : Blk (w1.alloc (.cells cs t)) b t cs.toList := h ▸ blk_new w1 t cs
/-- A proof's leaves and digests, where they lie. -/
def PrfV (w : World) (B : Nat) (F n : Nat) (lf : List Lf) (sd : List (List Nat)) (v : Value) : Prop :=
  ∃ q c sv, v = .agg #[.int .i64 (F : Int), .int .i64 (n : Int), .slice q lf.length c, sv] ∧ OwnL w q lf ∧ lf.length ≤ c ∧ (∀ b off i, q = some ⟨b, off, i⟩ → B ≤ b) ∧ (lf = [] → q = none ∧ c = 0) ∧ OwnD w B sv sd

set_option maxHeartbeats 4000000 in
set_option maxRecDepth 100000 in
theorem proof_many (ls : List Lf) (b off n c F e : Nat) (hl : ls.length = n) (hn : n ≤ 4096) (hn0 : 0 < n) (hc : n ≤ c) (hFe : F < e) (hen : e ≤ n) (hS : Small ls) (w : World) (hG : Glob w) (hL : Lvs w b off ls) :
    Calls Tryd.prog 46 #[.slice (some ⟨b, off, none⟩) n c, .int .i64 (F : Int), .int .i64 (e : Int)] w
      fun en w' => ∃ v, en = .returned v ∧ PrfV w' w.heap.size F n ((ls.drop F).take (e - F)) (sidesM ls F e 0 n) v ∧ Below w.heap.size w w' := by
  have hmf : ∀ (fn : Fn) (first cap : Array Value) (w : World), (Instr.makeFunc fn first cap).run Tryd.prog w = .ok (.func fn first cap) w := fun _ _ _ _ => rfl
  have hpl : ((ls.drop F).take (e - F)).length = e - F := by rw [List.length_take, List.length_drop]; omega
  have hbw : b < w.heap.size := hL.1
  have HC := Lib.hid (fun (V : World) (hB : Below w.heap.size w V) => clone_any ((ls.drop F).take (e - F)) b (off + 2 * F) (e - F) (c - F) hpl (by omega) V (((hL.keep hB).drop F).take (e - F)))
  have HA := Lib.hid (fun (wI : World) (B fb eb pb lb cb : Nat) (lv : Value) (hE : CE wI fb eb pb lb cb F e b off n c) (h1 : fb < B ∧ fb ≠ pb) (h2 : eb < B ∧ eb ≠ pb) (h3 : lb < B ∧ lb ≠ pb) (h4 : cb < B ∧ cb ≠ pb) (hpb : pb < B) (hBI : B ≤ wI.heap.size) (hK : Below w.heap.size w wI) (hwp : w.heap.size ≤ pb) (hwB : w.heap.size ≤ B) (hP : CP wI B pb F n lv []) =>
    (show Calls Tryd.prog 66 #[.int .i64 0, .int .i64 (n : Int), .pointer (some ⟨fb, 0, none⟩), .pointer (some ⟨eb, 0, none⟩), .pointer (some ⟨pb, 0, none⟩), .pointer (some ⟨lb, 0, none⟩), .pointer (some ⟨cb, 0, none⟩)] wI fun en w' => en = .returned (.tuple #[]) ∧ Stays wI w' B pb ∧ CP w' B pb F n lv ([] ++ sidesM ls F e 0 n) from collect_any ls wI B fb eb pb lb cb F e b off n c F n lv (fun w' hs => hE.stays hs h1 h2 h3 h4) h3 h4 hpb hBI (fun w' hs => ⟨hG.keep (hs.lower hK hwp hwB), hL.keep (hs.lower hK hwp hwB)⟩) hS hl hn hc n 0 n rfl hn0 (Nat.le_refl _) wI [] (by simp; omega) (Stays.refl _ _ _) hP))
  generalize hPA : (ls.drop F).take (e - F) = part at hpl HC ⊢
  generalize sidesM ls F e 0 n = SD at HA ⊢
  clear hPA hL hG hS hl
  go_enter Tryd.func46, Tryd.ntmps46
  go_upto_region 1 with (fail)
  generalize hw1 : World.alloc _ _ = W0
  have Kl : Blk W0 w.heap.size 33 [.slice (some ⟨b, off, none⟩) n c] := hw1 ▸ (((blk_new w _ _).alloc _).alloc _).alloc _
  have Kf : Blk W0 (w.heap.size + 1) 3 [.int .i64 (F : Int)] := hw1 ▸ ((blk_at (by simp) _ _).alloc _).alloc _
  have Ke : Blk W0 (w.heap.size + 1 + 1) 3 [.int .i64 (e : Int)] := hw1 ▸ (blk_at (by simp) _ _).alloc _
  have Kr : Blk W0 (w.heap.size + 1 + 1 + 1) 50 [.int .i64 0, .int .i64 0, .slice none 0 0, .slice none 0 0] := hw1 ▸ blk_at (by simp) _ _
  have KB : Below w.heap.size w W0 := hw1 ▸ ((((Below.refl _ _).alloc (Nat.le_refl _) _).alloc (by simp) _).alloc (by simp; omega) _).alloc (by simp; omega) _
  clear hw1
  have hF64 : (0 : Int) ≤ (F : Int) := by omega
  have hlt0 := Kr.lt
  obtain ⟨fb, hfb⟩ : ∃ fb, w.heap.size + 1 = fb := ⟨_, rfl⟩
  rw [hfb] at Kf Ke Kr hlt0 ⊢
  obtain ⟨eb, heb⟩ : ∃ eb, fb + 1 = eb := ⟨_, rfl⟩
  rw [heb] at Ke Kr hlt0 ⊢
  obtain ⟨rb, hrb⟩ : ∃ rb, eb + 1 = rb := ⟨_, rfl⟩
  rw [hrb] at Kr hlt0 ⊢
  obtain ⟨lb, hlb⟩ : ∃ lb, w.heap.size = lb := ⟨_, rfl⟩
  rw [hlb] at HC HA KB hbw ⊢
  rw [hlb] at Kl hfb
  have hHeld : True := trivial
  refine wp_region_held_drew (S := fun w' => Below W0.drew.heap.size W0.drew w') (by kernel_rfl) (Below.refl _ _) (fun _ => ?_)
  have hHeld : Below W0.drew.heap.size W0.drew W0.drew := Below.refl _ _
  have C0 : ∀ w', Below W0.drew.heap.size W0.drew w' → w'.cell? ⟨fb, 0, none⟩ = some (.int .i64 (F : Int)) := fun w' h => (h.cell Kf.lt).trans (Kf.cell (j := 0) rfl)
  have C1 : ∀ w', Below W0.drew.heap.size W0.drew w' → w'.cell? ⟨lb, 0, none⟩ = some (.slice (some ⟨b, off, none⟩) n c) := fun w' h => (h.cell Kl.lt).trans (Kl.cell (j := 0) rfl)
  have C2 : ∀ w', Below W0.drew.heap.size W0.drew w' → w'.cell? ⟨eb, 0, none⟩ = some (.int .i64 (e : Int)) := fun w' h => (h.cell Ke.lt).trans (Ke.cell (j := 0) rfl)
  replace KB : Below lb w W0.drew := below_drew KB
  replace Kl := Kl.drew
  replace Kf := Kf.drew
  replace Ke := Ke.drew
  replace Kr := Kr.drew
  replace hlt0 : rb < W0.drew.heap.size := hlt0
  generalize W0.drew = V0 at Kl Kf Ke Kr KB C0 C1 C2 hHeld hlt0 ⊢
  refine wt (i := 0) (oi := ⟨some 9, .load 3 (.tmp 4), 3, "merkle.go:85", #[], none⟩) (v := .int .i64 (F : Int)) (Or.inl ⟨by rfl, fun w' hSw => by have hc := C0 w' hSw; go_simp⟩) hHeld ?_
  try simp only [zP, zQ, zS, zZ, zC]
  refine wt (i := 1) (oi := ⟨some 10, .load 33 (.tmp 3), 33, "merkle.go:85", #[], none⟩) (v := .slice (some ⟨b, off, none⟩) n c) (Or.inl ⟨by rfl, fun w' hSw => by have hc := C1 w' hSw; go_simp⟩) hHeld ?_
  try simp only [zP, zQ, zS, zZ, zC]
  refine wt (i := 2) (oi := ⟨some 11, .call { callee := .builtin .len, args := #[.tmp 10], argTypes := #[33] }, 3, "merkle.go:85", #[⟨1, .data⟩], none⟩) (v := .int .i64 (n : Int)) (Or.inl ⟨by rfl, fun w' hSw => by go_simp⟩) hHeld ?_
  try simp only [zP, zQ, zS, zZ, zC]
  refine wt (i := 3) (oi := ⟨some 12, .load 33 (.tmp 3), 33, "merkle.go:85", #[], none⟩) (v := .slice (some ⟨b, off, none⟩) n c) (Or.inl ⟨by rfl, fun w' hSw => by have hc := C1 w' hSw; go_simp⟩) hHeld ?_
  try simp only [zP, zQ, zS, zZ, zC]
  refine wt (i := 4) (oi := ⟨some 13, .load 3 (.tmp 4), 3, "merkle.go:85", #[], none⟩) (v := .int .i64 (F : Int)) (Or.inl ⟨by rfl, fun w' hSw => by have hc := C0 w' hSw; go_simp⟩) hHeld ?_
  try simp only [zP, zQ, zS, zZ, zC]
  refine wt (i := 5) (oi := ⟨some 14, .load 3 (.tmp 5), 3, "merkle.go:85", #[], none⟩) (v := .int .i64 (e : Int)) (Or.inl ⟨by rfl, fun w' hSw => by have hc := C2 w' hSw; go_simp⟩) hHeld ?_
  try simp only [zP, zQ, zS, zZ, zC]
  refine wt (i := 6) (oi := ⟨some 15, .slice 33 (.tmp 12) (some (.tmp 13)) (some (.tmp 14)) none, 33, "merkle.go:85", #[⟨3, .data⟩, ⟨4, .data⟩, ⟨5, .data⟩], none⟩) (v := .slice (some ⟨b, off + 2 * F, none⟩) (e - F) (c - F)) (Or.inl ⟨by rfl, fun w' hSw => by go_simp; rw [if_pos (Nat.le_of_lt hFe), if_pos (Nat.le_trans hen hc), if_neg (by omega : ¬ c = F), Nat.mul_comm F 2]⟩) hHeld ?_
  try simp only [zP, zQ, zS, zZ, zC]
  clear C0 C1 C2
  refine wpAnyH_ready (rs := [7, 9]) (by kernel_rfl) (by simp) ?_
  refine AllReadyH.cons (o := ⟨some 16, .call { callee := .value (.func 53), args := #[.tmp 15], argTypes := #[33] }, 33, "merkle.go:85", #[⟨6, .data⟩], none⟩) rfl (fun K hK => ?_) (AllReadyH.cons (o := ⟨some 7, .alloc 50, 0, "merkle.go:85", #[], none⟩) rfl (fun K hK => ?_) AllReadyH.nil)
  · have hKB := KB
    rw [if_pos (by rfl)]
    go_simp
    refine (HC.out V0 hKB).mono ?_
    rintro en V1 ⟨g, cap, rfl, hg, hcap, hLg, hB1⟩
    dsimp only
    refine hK.out _ _ (link hHeld hB1) (fun hHeld => ?_)
    clear hK K
    try simp only [zP, zQ, zS, zZ, zC]
    refine wt (i := 8) (oi := ⟨some 17, .build 50 #[(0, .tmp 9), (1, .tmp 11), (2, .tmp 16)], 50, "merkle.go:85", #[⟨0, .data⟩, ⟨2, .data⟩, ⟨7, .data⟩], none⟩) (v := .agg #[.int .i64 (F : Int), .int .i64 (n : Int), .slice (some ⟨g, 0, none⟩) (e - F) cap, .slice none 0 0]) (Or.inl ⟨by rfl, fun w' hSw => by go_simp⟩) hHeld ?_
    try simp only [zP, zQ, zS, zZ, zC]
    refine wpAnyH_ready (rs := [9]) (by kernel_rfl) (by simp) ?_
    refine AllReadyH.cons (o := ⟨some 7, .alloc 50, 0, "merkle.go:85", #[], none⟩) rfl (fun K hK => ?_) AllReadyH.nil
    rw [if_pos (by rfl)]
    go_simp
    refine hK.out _ _ (hHeld.alloc hHeld.size _) (fun hHeld => ?_)
    clear hK K
    try simp only [zP, zQ, zS, zZ, zC]
    have Kp := blk_new V1 50 #[.int .i64 0, .int .i64 0, .slice none 0 0, .slice none 0 0]
    obtain ⟨pb, hpb⟩ : ∃ pb, V1.heap.size = pb := ⟨_, rfl⟩
    rw [hpb] at Kp ⊢
    have hpg : g ≠ pb := by have := hLg.1; omega
    have hpV : V0.heap.size ≤ pb := by have := hB1.size; omega
    replace hLg := hLg.keep ((Below.refl _ V1).alloc (Nat.le_refl _) (.cells #[.int .i64 0, .int .i64 0, .slice none 0 0, .slice none 0 0] 50))
    have hX : Below V0.heap.size V0 (V1.alloc (.cells #[.int .i64 0, .int .i64 0, .slice none 0 0, .slice none 0 0] 50)) := hB1.alloc hB1.size _
    replace hg : V0.heap.size ≤ g := hg
    generalize World.alloc V1 _ = V2 at Kp hLg hX hHeld ⊢
    clear hB1 hKB hpb
    refine wpAnyH_ready (rs := [10]) (by kernel_rfl) (by simp) ?_
    refine AllReadyH.cons (o := ⟨none, .store 50 (.tmp 7) (.tmp 17), 0, "merkle.go:85", #[⟨9, .data⟩, ⟨8, .data⟩, ⟨7, .chain⟩, ⟨0, .phase⟩, ⟨1, .phase⟩, ⟨2, .phase⟩, ⟨3, .phase⟩, ⟨4, .phase⟩, ⟨5, .phase⟩, ⟨6, .phase⟩, ⟨7, .phase⟩, ⟨8, .phase⟩, ⟨9, .phase⟩], none⟩) rfl (fun K hK => ?_) AllReadyH.nil
    rw [if_pos (by rfl)]
    refine wp_store_mid 50 (.tmp 7) (.tmp 17) rfl pb 0 #[.int .i64 (F : Int), .int .i64 (n : Int), .slice (some ⟨g, 0, none⟩) (e - F) cap, .slice none 0 0] rfl rfl (by simpa using Kp.there 0 4 (by simp)) (by kernel_rfl) (all_oneCell_toArray (by intro v hv; simp at hv; rcases hv with rfl | rfl | rfl | rfl <;> rfl)) ?_
    have O := only_sets pb 0 V2 [.int .i64 (F : Int), .int .i64 (n : Int), .slice (some ⟨g, 0, none⟩) (e - F) cap, .slice none 0 0]
    have Kq : Blk (V2.setCells pb 0 [.int .i64 (F : Int), .int .i64 (n : Int), .slice (some ⟨g, 0, none⟩) (e - F) cap, .slice none 0 0]) pb 50 [.int .i64 (F : Int), .int .i64 (n : Int), .slice (some ⟨g, 0, none⟩) (e - F) cap, .slice none 0 0] := Kp.all rfl
    have X3 := O.2.2 _ _ hpV hX
    have L3 := hLg.heap (heap_sets pb [.int .i64 (F : Int), .int .i64 (n : Int), .slice (some ⟨g, 0, none⟩) (e - F) cap, .slice none 0 0] V2 0 g hpg) (Nat.le_of_eq O.1.symm)
    have H3 := O.2.2 _ _ (by omega) hHeld
    dsimp only
    generalize World.setCells V2 pb 0 [.int .i64 (F : Int), .int .i64 (n : Int), .slice (some ⟨g, 0, none⟩) (e - F) cap, .slice none 0 0] = V3 at Kq X3 L3 H3 ⊢
    refine hK.out _ _ H3 (fun hHeld => ?_)
    clear hK K hHeld H3 O Kp hLg hX
    try simp only [zP, zQ, zS, zZ, zC]
    refine wpAnyH_done (by kernel_rfl) ?_ _
    replace KB : Below lb w V3 := KB.trans (X3.mono (by have := KB.size; omega))
    replace Kl := Kl.keep X3
    replace Kf := Kf.keep X3
    replace Ke := Ke.keep X3
    replace Kr := Kr.keep X3
    replace X3 := X3.size
    have hpl3 := Kq.lt
    have hgl3 := L3.1
    go_upto_region 4 with (fail)
    have Kc := blk_new V3 111 #[.func (.func 66) #[] #[.pointer (some ⟨fb, 0, none⟩), .pointer (some ⟨eb, 0, none⟩), .pointer (some ⟨pb, 0, none⟩), .pointer (some ⟨lb, 0, none⟩), .pointer (some ⟨V3.heap.size, 0, none⟩)]]
    have KL := fun (b : Nat) (t : TypeId) (cs : List Value) (k : Blk V3 b t cs) => k.alloc (.cells #[.func (.func 66) #[] #[.pointer (some ⟨fb, 0, none⟩), .pointer (some ⟨eb, 0, none⟩), .pointer (some ⟨pb, 0, none⟩), .pointer (some ⟨lb, 0, none⟩), .pointer (some ⟨V3.heap.size, 0, none⟩)]] 111)
    have KX : Below V3.heap.size V3 (V3.alloc (.cells #[.func (.func 66) #[] #[.pointer (some ⟨fb, 0, none⟩), .pointer (some ⟨eb, 0, none⟩), .pointer (some ⟨pb, 0, none⟩), .pointer (some ⟨lb, 0, none⟩), .pointer (some ⟨V3.heap.size, 0, none⟩)]] 111)) := (Below.refl _ _).alloc (Nat.le_refl _) _
    have Kl4 := KL _ _ _ Kl
    have Kf4 := KL _ _ _ Kf
    have Ke4 := KL _ _ _ Ke
    have Kr4 := KL _ _ _ Kr
    have Kq4 := KL _ _ _ Kq
    have L4 := L3.keep KX
    have KB4 : Below lb w _ := KB.trans (KX.mono (by have := KB.size; omega))
    clear KL Kl Kf Ke Kr Kq L3 KB
    obtain ⟨cb, hcb⟩ : ∃ cb, V3.heap.size = cb := ⟨_, rfl⟩
    rw [hcb] at Kc KX X3 hpl3 hgl3 Kl4 Kf4 Ke4 Kr4 Kq4 L4 KB4 ⊢
    clear hcb
    generalize World.alloc V3 _ = V4 at Kc KX Kl4 Kf4 Ke4 Kr4 Kq4 L4 KB4 ⊢
    have hc4 := Kc.lt
    have hE : CE V4 fb eb pb lb cb F e b off n c := ⟨Kf4, Ke4, Kl4, Kc⟩
    have HX := HA.out V4 V4.heap.size fb eb pb lb cb (.slice (some ⟨g, 0, none⟩) (e - F) cap) hE (by omega) (by omega) (by omega) (by omega) (by omega) (Nat.le_refl _) (hlb ▸ KB4) (by omega) (by omega) ⟨_, Kq4, World.ownsRow_nil _ _ _ _⟩
    rw [List.nil_append] at HX
    replace HX := Lib.hid HX
    have cl := Kl4.cell (j := 0) rfl
    have cc := Kc.cell (j := 0) rfl
    clear hE HA HC KX Kf4 Ke4 Kc
    go_upto_region 6 with (go_at_call 66; refine HX.out.mono ?_; rintro en V5 ⟨rfl, hs5, sv, hP5, hO5⟩)
    have Kr5 := hs5.blk _ _ _ (by omega) (by omega) Kr4
    have L5 := L4.heap (hs5.heap g (by omega) hpg) hs5.size
    have KB5 := hs5.lower KB4 (by omega) (by omega)
    have hb5 : w.heap.size ≤ V4.heap.size := by omega
    clear HX cl cc Kr4 Kq4 Kl4 L4 KB4 hs5
    go_wp2_with (first
      | (refine load_struct rfl 50 (.tmp 7) rfl hP5 rfl Tryd.underlying50 (m := 4) (by kernel_rfl) rfl ?_)
      | (refine wpList_store_mid rfl 50 (.tmp 6) (.tmp 26) rfl rb 0 #[.int .i64 (F : Int), .int .i64 (n : Int), .slice (some ⟨g, 0, none⟩) (e - F) cap, sv] rfl rfl (by simpa using Kr5.there 0 4 (by simp)) (by kernel_rfl) (all_oneCell_toArray (by intro v hv; simp at hv; rcases hv with rfl | rfl | rfl | rfl <;> first | rfl | exact one_own hO5)) ?_))
    have h6 := heap_sets rb [.int .i64 (F : Int), .int .i64 (n : Int), .slice (some ⟨g, 0, none⟩) (e - F) cap, sv] V5 0
    have s6 := sets_size rb [.int .i64 (F : Int), .int .i64 (n : Int), .slice (some ⟨g, 0, none⟩) (e - F) cap, sv] V5 0
    have B6 := (only_sets rb 0 V5 [.int .i64 (F : Int), .int .i64 (n : Int), .slice (some ⟨g, 0, none⟩) (e - F) cap, sv]).2.2 _ _ (by omega) KB5
    have K6 : Blk (V5.setCells rb 0 [.int .i64 (F : Int), .int .i64 (n : Int), .slice (some ⟨g, 0, none⟩) (e - F) cap, sv]) rb 50 [.int .i64 (F : Int), .int .i64 (n : Int), .slice (some ⟨g, 0, none⟩) (e - F) cap, sv] := Kr5.all rfl
    try dsimp only at B6 ⊢
    generalize World.setCells V5 rb 0 [.int .i64 (F : Int), .int .i64 (n : Int), .slice (some ⟨g, 0, none⟩) (e - F) cap, sv] = V6 at h6 s6 B6 K6 ⊢
    exact bodyPost_ret (v := .agg #[.int .i64 (F : Int), .int .i64 (n : Int), .slice (some ⟨g, 0, none⟩) (e - F) cap, sv]) (K6.resultS (p := 6) (ty := 50) rfl _ rfl Tryd.underlying50 (by kernel_rfl)) rfl
      ⟨_, rfl, ⟨some ⟨g, 0, none⟩, cap, sv, by rw [hpl], fun _ => ⟨g, 0, rfl, L5.heap (h6 g (by omega)) (Nat.le_of_eq s6.symm)⟩, by rw [hpl]; exact hcap, fun b' off' i' he => by injection he with he; injection he with he; omega, (fun he => by rw [he] at hpl; simp at hpl; omega), hO5.heap (fun j hj => h6 j (by omega)) hb5⟩, hlb ▸ B6⟩
  · rw [if_pos (by rfl)]
    go_simp
    refine hK.out _ _ (hHeld.alloc hHeld.size _) (fun hHeld => ?_)
    clear hK K
    try simp only [zP, zQ, zS, zZ, zC]
    have Kp := blk_new V0 50 #[.int .i64 0, .int .i64 0, .slice none 0 0, .slice none 0 0]
    have hKB := KB.alloc (by have := KB.size; omega) (.cells #[.int .i64 0, .int .i64 0, .slice none 0 0, .slice none 0 0] 50)
    have hX0 : Below V0.heap.size V0 (V0.alloc (.cells #[.int .i64 0, .int .i64 0, .slice none 0 0, .slice none 0 0] 50)) := (Below.refl _ V0).alloc (Nat.le_refl _) _
    obtain ⟨pb, hpb⟩ : ∃ pb, V0.heap.size = pb := ⟨_, rfl⟩
    have hpV : V0.heap.size ≤ pb := Nat.le_of_eq hpb
    rw [hpb] at Kp hHeld ⊢
    generalize World.alloc V0 _ = V1 at Kp hKB hX0 hHeld ⊢
    have hX0w : V0.heap.size ≤ V1.heap.size := hX0.size
    refine wpAnyH_ready (rs := [7]) (by kernel_rfl) (by simp) ?_
    refine AllReadyH.cons (o := ⟨some 16, .call { callee := .value (.func 53), args := #[.tmp 15], argTypes := #[33] }, 33, "merkle.go:85", #[⟨6, .data⟩], none⟩) rfl (fun K hK => ?_) AllReadyH.nil
    rw [if_pos (by rfl)]
    go_simp
    refine (HC.out V1 hKB).mono ?_
    rintro en V2 ⟨g, cap, rfl, hg, hcap, hLg, hB1⟩
    dsimp only
    refine hK.out _ _ (hHeld.trans (hB1.mono (Nat.le_of_lt Kp.lt))) (fun hHeld => ?_)
    clear hK K
    try simp only [zP, zQ, zS, zZ, zC]
    refine wt (i := 8) (oi := ⟨some 17, .build 50 #[(0, .tmp 9), (1, .tmp 11), (2, .tmp 16)], 50, "merkle.go:85", #[⟨0, .data⟩, ⟨2, .data⟩, ⟨7, .data⟩], none⟩) (v := .agg #[.int .i64 (F : Int), .int .i64 (n : Int), .slice (some ⟨g, 0, none⟩) (e - F) cap, .slice none 0 0]) (Or.inl ⟨by rfl, fun w' hSw => by go_simp⟩) hHeld ?_
    try simp only [zP, zQ, zS, zZ, zC]
    have hpg : g ≠ pb := by have := Kp.lt; omega
    replace Kp := Kp.keep hB1
    replace hX0 := link hX0 hB1
    have hX := hX0
    replace hg : V0.heap.size ≤ g := Nat.le_trans hX0w hg
    clear hB1 hKB hpb hX0 hX0w
    refine wpAnyH_ready (rs := [10]) (by kernel_rfl) (by simp) ?_
    refine AllReadyH.cons (o := ⟨none, .store 50 (.tmp 7) (.tmp 17), 0, "merkle.go:85", #[⟨9, .data⟩, ⟨8, .data⟩, ⟨7, .chain⟩, ⟨0, .phase⟩, ⟨1, .phase⟩, ⟨2, .phase⟩, ⟨3, .phase⟩, ⟨4, .phase⟩, ⟨5, .phase⟩, ⟨6, .phase⟩, ⟨7, .phase⟩, ⟨8, .phase⟩, ⟨9, .phase⟩], none⟩) rfl (fun K hK => ?_) AllReadyH.nil
    rw [if_pos (by rfl)]
    refine wp_store_mid 50 (.tmp 7) (.tmp 17) rfl pb 0 #[.int .i64 (F : Int), .int .i64 (n : Int), .slice (some ⟨g, 0, none⟩) (e - F) cap, .slice none 0 0] rfl rfl (by simpa using Kp.there 0 4 (by simp)) (by kernel_rfl) (all_oneCell_toArray (by intro v hv; simp at hv; rcases hv with rfl | rfl | rfl | rfl <;> rfl)) ?_
    have O := only_sets pb 0 V2 [.int .i64 (F : Int), .int .i64 (n : Int), .slice (some ⟨g, 0, none⟩) (e - F) cap, .slice none 0 0]
    have Kq : Blk (V2.setCells pb 0 [.int .i64 (F : Int), .int .i64 (n : Int), .slice (some ⟨g, 0, none⟩) (e - F) cap, .slice none 0 0]) pb 50 [.int .i64 (F : Int), .int .i64 (n : Int), .slice (some ⟨g, 0, none⟩) (e - F) cap, .slice none 0 0] := Kp.all rfl
    have X3 := O.2.2 _ _ hpV hX
    have L3 := hLg.heap (heap_sets pb [.int .i64 (F : Int), .int .i64 (n : Int), .slice (some ⟨g, 0, none⟩) (e - F) cap, .slice none 0 0] V2 0 g hpg) (Nat.le_of_eq O.1.symm)
    have H3 := O.2.2 _ _ (by omega) hHeld
    dsimp only
    generalize World.setCells V2 pb 0 [.int .i64 (F : Int), .int .i64 (n : Int), .slice (some ⟨g, 0, none⟩) (e - F) cap, .slice none 0 0] = V3 at Kq X3 L3 H3 ⊢
    refine hK.out _ _ H3 (fun hHeld => ?_)
    clear hK K hHeld H3 O Kp hLg hX
    try simp only [zP, zQ, zS, zZ, zC]
    refine wpAnyH_done (by kernel_rfl) ?_ _
    replace KB : Below lb w V3 := KB.trans (X3.mono (by have := KB.size; omega))
    replace Kl := Kl.keep X3
    replace Kf := Kf.keep X3
    replace Ke := Ke.keep X3
    replace Kr := Kr.keep X3
    replace X3 := X3.size
    have hpl3 := Kq.lt
    have hgl3 := L3.1
    go_upto_region 4 with (fail)
    have Kc := blk_new V3 111 #[.func (.func 66) #[] #[.pointer (some ⟨fb, 0, none⟩), .pointer (some ⟨eb, 0, none⟩), .pointer (some ⟨pb, 0, none⟩), .pointer (some ⟨lb, 0, none⟩), .pointer (some ⟨V3.heap.size, 0, none⟩)]]
    have KL := fun (b : Nat) (t : TypeId) (cs : List Value) (k : Blk V3 b t cs) => k.alloc (.cells #[.func (.func 66) #[] #[.pointer (some ⟨fb, 0, none⟩), .pointer (some ⟨eb, 0, none⟩), .pointer (some ⟨pb, 0, none⟩), .pointer (some ⟨lb, 0, none⟩), .pointer (some ⟨V3.heap.size, 0, none⟩)]] 111)
    have KX : Below V3.heap.size V3 (V3.alloc (.cells #[.func (.func 66) #[] #[.pointer (some ⟨fb, 0, none⟩), .pointer (some ⟨eb, 0, none⟩), .pointer (some ⟨pb, 0, none⟩), .pointer (some ⟨lb, 0, none⟩), .pointer (some ⟨V3.heap.size, 0, none⟩)]] 111)) := (Below.refl _ _).alloc (Nat.le_refl _) _
    have Kl4 := KL _ _ _ Kl
    have Kf4 := KL _ _ _ Kf
    have Ke4 := KL _ _ _ Ke
    have Kr4 := KL _ _ _ Kr
    have Kq4 := KL _ _ _ Kq
    have L4 := L3.keep KX
    have KB4 : Below lb w _ := KB.trans (KX.mono (by have := KB.size; omega))
    clear KL Kl Kf Ke Kr Kq L3 KB
    obtain ⟨cb, hcb⟩ : ∃ cb, V3.heap.size = cb := ⟨_, rfl⟩
    rw [hcb] at Kc KX X3 hpl3 hgl3 Kl4 Kf4 Ke4 Kr4 Kq4 L4 KB4 ⊢
    clear hcb
    generalize World.alloc V3 _ = V4 at Kc KX Kl4 Kf4 Ke4 Kr4 Kq4 L4 KB4 ⊢
    have hc4 := Kc.lt
    have hE : CE V4 fb eb pb lb cb F e b off n c := ⟨Kf4, Ke4, Kl4, Kc⟩
    have HX := HA.out V4 V4.heap.size fb eb pb lb cb (.slice (some ⟨g, 0, none⟩) (e - F) cap) hE (by omega) (by omega) (by omega) (by omega) (by omega) (Nat.le_refl _) (hlb ▸ KB4) (by omega) (by omega) ⟨_, Kq4, World.ownsRow_nil _ _ _ _⟩
    rw [List.nil_append] at HX
    replace HX := Lib.hid HX
    have cl := Kl4.cell (j := 0) rfl
    have cc := Kc.cell (j := 0) rfl
    clear hE HA HC KX Kf4 Ke4 Kc
    go_upto_region 6 with (go_at_call 66; refine HX.out.mono ?_; rintro en V5 ⟨rfl, hs5, sv, hP5, hO5⟩)
    have Kr5 := hs5.blk _ _ _ (by omega) (by omega) Kr4
    have L5 := L4.heap (hs5.heap g (by omega) hpg) hs5.size
    have KB5 := hs5.lower KB4 (by omega) (by omega)
    have hb5 : w.heap.size ≤ V4.heap.size := by omega
    clear HX cl cc Kr4 Kq4 Kl4 L4 KB4 hs5
    go_wp2_with (first
      | (refine load_struct rfl 50 (.tmp 7) rfl hP5 rfl Tryd.underlying50 (m := 4) (by kernel_rfl) rfl ?_)
      | (refine wpList_store_mid rfl 50 (.tmp 6) (.tmp 26) rfl rb 0 #[.int .i64 (F : Int), .int .i64 (n : Int), .slice (some ⟨g, 0, none⟩) (e - F) cap, sv] rfl rfl (by simpa using Kr5.there 0 4 (by simp)) (by kernel_rfl) (all_oneCell_toArray (by intro v hv; simp at hv; rcases hv with rfl | rfl | rfl | rfl <;> first | rfl | exact one_own hO5)) ?_))
    have h6 := heap_sets rb [.int .i64 (F : Int), .int .i64 (n : Int), .slice (some ⟨g, 0, none⟩) (e - F) cap, sv] V5 0
    have s6 := sets_size rb [.int .i64 (F : Int), .int .i64 (n : Int), .slice (some ⟨g, 0, none⟩) (e - F) cap, sv] V5 0
    have B6 := (only_sets rb 0 V5 [.int .i64 (F : Int), .int .i64 (n : Int), .slice (some ⟨g, 0, none⟩) (e - F) cap, sv]).2.2 _ _ (by omega) KB5
    have K6 : Blk (V5.setCells rb 0 [.int .i64 (F : Int), .int .i64 (n : Int), .slice (some ⟨g, 0, none⟩) (e - F) cap, sv]) rb 50 [.int .i64 (F : Int), .int .i64 (n : Int), .slice (some ⟨g, 0, none⟩) (e - F) cap, sv] := Kr5.all rfl
    try dsimp only at B6 ⊢
    generalize World.setCells V5 rb 0 [.int .i64 (F : Int), .int .i64 (n : Int), .slice (some ⟨g, 0, none⟩) (e - F) cap, sv] = V6 at h6 s6 B6 K6 ⊢
    exact bodyPost_ret (v := .agg #[.int .i64 (F : Int), .int .i64 (n : Int), .slice (some ⟨g, 0, none⟩) (e - F) cap, sv]) (K6.resultS (p := 6) (ty := 50) rfl _ rfl Tryd.underlying50 (by kernel_rfl)) rfl
      ⟨_, rfl, ⟨some ⟨g, 0, none⟩, cap, sv, by rw [hpl], fun _ => ⟨g, 0, rfl, L5.heap (h6 g (by omega)) (Nat.le_of_eq s6.symm)⟩, by rw [hpl]; exact hcap, fun b' off' i' he => by injection he with he; injection he with he; omega, (fun he => by rw [he] at hpl; simp at hpl; omega), hO5.heap (fun j hj => h6 j (by omega)) hb5⟩, hlb ▸ B6⟩

end Go.Proofs.YtfhfmdnimebegaaDoor

/-
  merkle.proof without leaves.
-/
namespace Go.Proofs.YtfhfmdnimebegaaDoor
open Go.RowKit
set_option linter.unusedVariables false
set_option linter.unusedSimpArgs false

abbrev zeroPrf : List Value := [.int .i64 0, .int .i64 0, .slice none 0 0, .slice none 0 0]
theorem zero_one : ∀ v ∈ zeroPrf, v.oneCell' = true := by intro v hv; simp [zeroPrf] at hv; rcases hv with rfl | rfl <;> rfl

set_option maxHeartbeats 4000000 in
set_option maxRecDepth 100000 in
theorem proof_nil (w : World) :
    Calls Tryd.prog 46 #[.slice none 0 0, .int .i64 0, .int .i64 0] w
      fun en w' => en = .returned (.agg zeroPrf.toArray) ∧ Below w.heap.size w w' := by
  have hmf : ∀ (fn : Fn) (first cap : Array Value) (w : World), (Instr.makeFunc fn first cap).run Tryd.prog w = .ok (.func fn first cap) w := fun _ _ _ _ => rfl
  have HC := Lib.hid (fun V => clone_nil 0 0 V)
  go_enter Tryd.func46, Tryd.ntmps46
  go_upto_region 1 with (fail)
  generalize hw1 : World.alloc _ _ = W0
  have Kl : Blk W0 w.heap.size 33 [.slice none 0 0] := hw1 ▸ (((blk_new w _ _).alloc _).alloc _).alloc _
  have Kf : Blk W0 (w.heap.size + 1) 3 [.int .i64 0] := hw1 ▸ ((blk_at (by simp) _ _).alloc _).alloc _
  have Ke : Blk W0 (w.heap.size + 1 + 1) 3 [.int .i64 0] := hw1 ▸ (blk_at (by simp) _ _).alloc _
  have Kr : Blk W0 (w.heap.size + 1 + 1 + 1) 50 zeroPrf := hw1 ▸ blk_at (by simp) _ _
  have KB : Below w.heap.size w W0 := hw1 ▸ ((((Below.refl _ _).alloc (Nat.le_refl _) _).alloc (by simp) _).alloc (by simp; omega) _).alloc (by simp; omega) _
  clear hw1
  have hlt0 := Kr.lt
  obtain ⟨fb, hfb⟩ : ∃ fb, w.heap.size + 1 = fb := ⟨_, rfl⟩
  rw [hfb] at Kf Ke Kr hlt0 ⊢
  obtain ⟨eb, heb⟩ : ∃ eb, fb + 1 = eb := ⟨_, rfl⟩
  rw [heb] at Ke Kr hlt0 ⊢
  obtain ⟨rb, hrb⟩ : ∃ rb, eb + 1 = rb := ⟨_, rfl⟩
  rw [hrb] at Kr hlt0 ⊢
  obtain ⟨lb, hlb⟩ : ∃ lb, w.heap.size = lb := ⟨_, rfl⟩
  rw [hlb] at KB ⊢
  rw [hlb] at Kl hfb
  have hHeld : True := trivial
  refine wp_region_held_drew (S := fun w' => Below W0.drew.heap.size W0.drew w') (by kernel_rfl) (Below.refl _ _) (fun _ => ?_)
  have hHeld : Below W0.drew.heap.size W0.drew W0.drew := Below.refl _ _
  have C0 : ∀ w', Below W0.drew.heap.size W0.drew w' → w'.cell? ⟨fb, 0, none⟩ = some (.int .i64 0) := fun w' h => (h.cell Kf.lt).trans (Kf.cell (j := 0) rfl)
  have C1 : ∀ w', Below W0.drew.heap.size W0.drew w' → w'.cell? ⟨lb, 0, none⟩ = some (.slice none 0 0) := fun w' h => (h.cell Kl.lt).trans (Kl.cell (j := 0) rfl)
  have C2 : ∀ w', Below W0.drew.heap.size W0.drew w' → w'.cell? ⟨eb, 0, none⟩ = some (.int .i64 0) := fun w' h => (h.cell Ke.lt).trans (Ke.cell (j := 0) rfl)
  replace KB : Below lb w W0.drew := below_drew KB
  replace Kl := Kl.drew
  replace Kr := Kr.drew
  replace hlt0 : rb < W0.drew.heap.size := hlt0
  clear Kf Ke
  generalize W0.drew = V0 at Kl Kr KB C0 C1 C2 hHeld hlt0 ⊢
  refine wt (i := 0) (oi := ⟨some 9, .load 3 (.tmp 4), 3, "merkle.go:85", #[], none⟩) (v := .int .i64 0) (Or.inl ⟨by rfl, fun w' hSw => by have hc := C0 w' hSw; go_simp⟩) hHeld ?_
  try simp only [zP, zQ, zS, zZ, zC]
  refine wt (i := 1) (oi := ⟨some 10, .load 33 (.tmp 3), 33, "merkle.go:85", #[], none⟩) (v := .slice none 0 0) (Or.inl ⟨by rfl, fun w' hSw => by have hc := C1 w' hSw; go_simp⟩) hHeld ?_
  try simp only [zP, zQ, zS, zZ, zC]
  refine wt (i := 2) (oi := ⟨some 11, .call { callee := .builtin .len, args := #[.tmp 10], argTypes := #[33] }, 3, "merkle.go:85", #[⟨1, .data⟩], none⟩) (v := .int .i64 0) (Or.inl ⟨by rfl, fun w' hSw => by go_simp⟩) hHeld ?_
  try simp only [zP, zQ, zS, zZ, zC]
  refine wt (i := 3) (oi := ⟨some 12, .load 33 (.tmp 3), 33, "merkle.go:85", #[], none⟩) (v := .slice none 0 0) (Or.inl ⟨by rfl, fun w' hSw => by have hc := C1 w' hSw; go_simp⟩) hHeld ?_
  try simp only [zP, zQ, zS, zZ, zC]
  refine wt (i := 4) (oi := ⟨some 13, .load 3 (.tmp 4), 3, "merkle.go:85", #[], none⟩) (v := .int .i64 0) (Or.inl ⟨by rfl, fun w' hSw => by have hc := C0 w' hSw; go_simp⟩) hHeld ?_
  try simp only [zP, zQ, zS, zZ, zC]
  refine wt (i := 5) (oi := ⟨some 14, .load 3 (.tmp 5), 3, "merkle.go:85", #[], none⟩) (v := .int .i64 0) (Or.inl ⟨by rfl, fun w' hSw => by have hc := C2 w' hSw; go_simp⟩) hHeld ?_
  try simp only [zP, zQ, zS, zZ, zC]
  refine wt (i := 6) (oi := ⟨some 15, .slice 33 (.tmp 12) (some (.tmp 13)) (some (.tmp 14)) none, 33, "merkle.go:85", #[⟨3, .data⟩, ⟨4, .data⟩, ⟨5, .data⟩], none⟩) (v := .slice none 0 0) (Or.inl ⟨by rfl, fun w' hSw => by go_simp⟩) hHeld ?_
  try simp only [zP, zQ, zS, zZ, zC]
  clear C0 C1 C2
  refine wpAnyH_ready (rs := [7, 9]) (by kernel_rfl) (by simp) ?_
  refine AllReadyH.cons (o := ⟨some 16, .call { callee := .value (.func 53), args := #[.tmp 15], argTypes := #[33] }, 33, "merkle.go:85", #[⟨6, .data⟩], none⟩) rfl (fun K hK => ?_) (AllReadyH.cons (o := ⟨some 7, .alloc 50, 0, "merkle.go:85", #[], none⟩) rfl (fun K hK => ?_) AllReadyH.nil)
  · rw [if_pos (by rfl)]
    go_simp
    refine (HC.out V0).mono ?_
    rintro en w1 ⟨rfl, hw1⟩
    rw [hw1]
    clear hw1 w1
    dsimp only
    refine hK.out _ _ hHeld (fun hHeld => ?_)
    clear hK K
    try simp only [zP, zQ, zS, zZ, zC]
    refine wt (i := 8) (oi := ⟨some 17, .build 50 #[(0, .tmp 9), (1, .tmp 11), (2, .tmp 16)], 50, "merkle.go:85", #[⟨0, .data⟩, ⟨2, .data⟩, ⟨7, .data⟩], none⟩) (v := .agg zeroPrf.toArray) (Or.inl ⟨by rfl, fun w' hSw => by go_simp; try rfl⟩) hHeld ?_
    try simp only [zP, zQ, zS, zZ, zC]
    refine wpAnyH_ready (rs := [9]) (by kernel_rfl) (by simp) ?_
    refine AllReadyH.cons (o := ⟨some 7, .alloc 50, 0, "merkle.go:85", #[], none⟩) rfl (fun K hK => ?_) AllReadyH.nil
    rw [if_pos (by rfl)]
    go_simp
    refine hK.out _ _ (hHeld.alloc hHeld.size _) (fun hHeld => ?_)
    clear hK K
    try simp only [zP, zQ, zS, zZ, zC]
    have Kp : Blk _ _ _ zeroPrf := blk_new V0 50 zeroPrf.toArray
    obtain ⟨pb, hpb⟩ : ∃ pb, V0.heap.size = pb := ⟨_, rfl⟩
    have X1 : Below V0.heap.size V0 (V0.alloc (.cells zeroPrf.toArray 50)) := hHeld
    rw [hpb] at Kp X1 hHeld hlt0 ⊢
    have Kl1 := Kl.keep (hpb ▸ X1)
    have Kr1 := Kr.keep (hpb ▸ X1)
    have KB1 : Below lb w _ := KB.trans (X1.mono (by omega))
    generalize World.alloc V0 _ = V2 at Kp X1 Kl1 Kr1 KB1 hHeld ⊢
    refine wpAnyH_ready (rs := [10]) (by kernel_rfl) (by simp) ?_
    refine AllReadyH.cons (o := ⟨none, .store 50 (.tmp 7) (.tmp 17), 0, "merkle.go:85", #[⟨9, .data⟩, ⟨8, .data⟩, ⟨7, .chain⟩, ⟨0, .phase⟩, ⟨1, .phase⟩, ⟨2, .phase⟩, ⟨3, .phase⟩, ⟨4, .phase⟩, ⟨5, .phase⟩, ⟨6, .phase⟩, ⟨7, .phase⟩, ⟨8, .phase⟩, ⟨9, .phase⟩], none⟩) rfl (fun K hK => ?_) AllReadyH.nil
    rw [if_pos (by rfl)]
    refine wp_store_mid 50 (.tmp 7) (.tmp 17) rfl pb 0 zeroPrf.toArray rfl rfl (by simpa using Kp.there 0 4 (by simp [zeroPrf])) (by kernel_rfl) (all_oneCell_toArray zero_one) ?_
    have O := only_sets pb 0 V2 zeroPrf
    have Kq : Blk (V2.setCells pb 0 zeroPrf) pb 50 zeroPrf := Kp.all rfl
    have H3 := O.2.2 _ _ (Nat.le_refl _) hHeld
    have Kl3 := O.2.1 _ _ _ (by omega) Kl1
    have Kr3 := O.2.1 _ _ _ (by omega) Kr1
    have KB3 := O.2.2 _ _ (by omega) KB1
    have hs3 := O.1
    try dsimp only
    generalize World.setCells V2 pb 0 zeroPrf = V3 at Kq H3 Kl3 Kr3 KB3 hs3 ⊢
    refine hK.out _ _ H3 (fun hHeld => ?_)
    clear hK K hHeld H3 O Kp X1 Kl1 Kr1 KB1 KB Kl Kr
    try simp only [zP, zQ, zS, zZ, zC]
    refine wpAnyH_done (by kernel_rfl) ?_ _
    have hpb3 := Kq.lt
    go_upto_region 4 with (fail)
    generalize hw4 : World.alloc _ _ = V4
    have Kl4 : Blk V4 _ _ _ := hw4 ▸ Kl3.alloc _
    have Kr4 : Blk V4 _ _ _ := hw4 ▸ Kr3.alloc _
    have Kq4 : Blk V4 _ _ _ := hw4 ▸ Kq.alloc _
    have KB4 : Below lb w V4 := hw4 ▸ KB3.alloc (by omega) _
    have cl := Kl4.cell (j := 0) rfl
    clear hw4 Kl3 Kr3 Kq KB3
    go_wp2_with (first
      | (refine load_struct rfl 50 (.tmp 7) rfl Kq4 rfl Tryd.underlying50 (m := 4) (by kernel_rfl) rfl ?_)
      | (refine wpList_store_mid rfl 50 (.tmp 6) (.tmp 26) rfl rb 0 zeroPrf.toArray rfl rfl (by simpa using Kr4.there 0 4 (by simp [zeroPrf])) (by kernel_rfl) (all_oneCell_toArray zero_one) ?_))
    have B6 := (only_sets rb 0 V4 zeroPrf).2.2 _ _ (by omega) KB4
    have K6 : Blk (V4.setCells rb 0 zeroPrf) rb 50 zeroPrf := Kr4.all rfl
    try dsimp only at B6 ⊢
    generalize World.setCells V4 rb 0 zeroPrf = V6 at B6 K6 ⊢
    exact bodyPost_ret (v := .agg zeroPrf.toArray) (K6.resultS (p := 6) (ty := 50) rfl _ rfl Tryd.underlying50 (by kernel_rfl)) rfl ⟨rfl, hlb ▸ B6⟩
  · rw [if_pos (by rfl)]
    go_simp
    refine hK.out _ _ (hHeld.alloc hHeld.size _) (fun hHeld => ?_)
    clear hK K
    try simp only [zP, zQ, zS, zZ, zC]
    have Kp : Blk _ _ _ zeroPrf := blk_new V0 50 zeroPrf.toArray
    obtain ⟨pb, hpb⟩ : ∃ pb, V0.heap.size = pb := ⟨_, rfl⟩
    have X1 : Below V0.heap.size V0 (V0.alloc (.cells zeroPrf.toArray 50)) := hHeld
    rw [hpb] at Kp X1 hHeld hlt0 ⊢
    have Kl1 := Kl.keep (hpb ▸ X1)
    have Kr1 := Kr.keep (hpb ▸ X1)
    have KB1 : Below lb w _ := KB.trans (X1.mono (by omega))
    generalize World.alloc V0 _ = V2 at Kp X1 Kl1 Kr1 KB1 hHeld ⊢
    refine wpAnyH_ready (rs := [7]) (by kernel_rfl) (by simp) ?_
    refine AllReadyH.cons (o := ⟨some 16, .call { callee := .value (.func 53), args := #[.tmp 15], argTypes := #[33] }, 33, "merkle.go:85", #[⟨6, .data⟩], none⟩) rfl (fun K hK => ?_) AllReadyH.nil
    rw [if_pos (by rfl)]
    go_simp
    refine (HC.out V2).mono ?_
    rintro en w1 ⟨rfl, hw1⟩
    rw [hw1]
    clear hw1 w1
    dsimp only
    refine hK.out _ _ hHeld (fun hHeld => ?_)
    clear hK K
    try simp only [zP, zQ, zS, zZ, zC]
    refine wt (i := 8) (oi := ⟨some 17, .build 50 #[(0, .tmp 9), (1, .tmp 11), (2, .tmp 16)], 50, "merkle.go:85", #[⟨0, .data⟩, ⟨2, .data⟩, ⟨7, .data⟩], none⟩) (v := .agg zeroPrf.toArray) (Or.inl ⟨by rfl, fun w' hSw => by go_simp; try rfl⟩) hHeld ?_
    try simp only [zP, zQ, zS, zZ, zC]
    refine wpAnyH_ready (rs := [10]) (by kernel_rfl) (by simp) ?_
    refine AllReadyH.cons (o := ⟨none, .store 50 (.tmp 7) (.tmp 17), 0, "merkle.go:85", #[⟨9, .data⟩, ⟨8, .data⟩, ⟨7, .chain⟩, ⟨0, .phase⟩, ⟨1, .phase⟩, ⟨2, .phase⟩, ⟨3, .phase⟩, ⟨4, .phase⟩, ⟨5, .phase⟩, ⟨6, .phase⟩, ⟨7, .phase⟩, ⟨8, .phase⟩, ⟨9, .phase⟩], none⟩) rfl (fun K hK => ?_) AllReadyH.nil
    rw [if_pos (by rfl)]
    refine wp_store_mid 50 (.tmp 7) (.tmp 17) rfl pb 0 zeroPrf.toArray rfl rfl (by simpa using Kp.there 0 4 (by simp [zeroPrf])) (by kernel_rfl) (all_oneCell_toArray zero_one) ?_
    have O := only_sets pb 0 V2 zeroPrf
    have Kq : Blk (V2.setCells pb 0 zeroPrf) pb 50 zeroPrf := Kp.all rfl
    have H3 := O.2.2 _ _ (Nat.le_refl _) hHeld
    have Kl3 := O.2.1 _ _ _ (by omega) Kl1
    have Kr3 := O.2.1 _ _ _ (by omega) Kr1
    have KB3 := O.2.2 _ _ (by omega) KB1
    have hs3 := O.1
    try dsimp only
    generalize World.setCells V2 pb 0 zeroPrf = V3 at Kq H3 Kl3 Kr3 KB3 hs3 ⊢
    refine hK.out _ _ H3 (fun hHeld => ?_)
    clear hK K hHeld H3 O Kp X1 Kl1 Kr1 KB1 KB Kl Kr
    try simp only [zP, zQ, zS, zZ, zC]
    refine wpAnyH_done (by kernel_rfl) ?_ _
    have hpb3 := Kq.lt
    go_upto_region 4 with (fail)
    generalize hw4 : World.alloc _ _ = V4
    have Kl4 : Blk V4 _ _ _ := hw4 ▸ Kl3.alloc _
    have Kr4 : Blk V4 _ _ _ := hw4 ▸ Kr3.alloc _
    have Kq4 : Blk V4 _ _ _ := hw4 ▸ Kq.alloc _
    have KB4 : Below lb w V4 := hw4 ▸ KB3.alloc (by omega) _
    have cl := Kl4.cell (j := 0) rfl
    clear hw4 Kl3 Kr3 Kq KB3
    go_wp2_with (first
      | (refine load_struct rfl 50 (.tmp 7) rfl Kq4 rfl Tryd.underlying50 (m := 4) (by kernel_rfl) rfl ?_)
      | (refine wpList_store_mid rfl 50 (.tmp 6) (.tmp 26) rfl rb 0 zeroPrf.toArray rfl rfl (by simpa using Kr4.there 0 4 (by simp [zeroPrf])) (by kernel_rfl) (all_oneCell_toArray zero_one) ?_))
    have B6 := (only_sets rb 0 V4 zeroPrf).2.2 _ _ (by omega) KB4
    have K6 : Blk (V4.setCells rb 0 zeroPrf) rb 50 zeroPrf := Kr4.all rfl
    try dsimp only at B6 ⊢
    generalize World.setCells V4 rb 0 zeroPrf = V6 at B6 K6 ⊢
    exact bodyPost_ret (v := .agg zeroPrf.toArray) (K6.resultS (p := 6) (ty := 50) rfl _ rfl Tryd.underlying50 (by kernel_rfl)) rfl ⟨rfl, hlb ▸ B6⟩

end Go.Proofs.YtfhfmdnimebegaaDoor

/-
  merkle.Prove.
-/
namespace Go.Proofs.YtfhfmdnimebegaaDoor
open Go.RowKit
set_option linter.unusedVariables false
set_option linter.unusedSimpArgs false

theorem Blk.loadVarS {w : World} {b : Nat} {t ty : TypeId} {cs : List Value} (h : Blk w b t cs) {fs : Array Field} (hu : Tryd.prog.underlying ty = some (.struct fs)) (hi : (Tryd.prog.info? ty).map (·.size) = some cs.length) : (Go.loadVar ty ⟨b, 0, none⟩).run Tryd.prog w = .ok (.agg cs.toArray) w :=
  run_loadVar_row w b t ty cs.toArray (0, 0) (.struct fs) h hu rfl (by simpa using hi)
theorem build_prf (w : World) : (Instr.build 50 #[]).run Tryd.prog w = .ok (.agg zeroPrf.toArray) w := by kernel_rfl
theorem PrfV.nil (w : World) (B : Nat) : PrfV w B 0 0 [] [] (.agg zeroPrf.toArray) :=
  ⟨none, 0, .slice none 0 0, rfl, fun h => absurd rfl h, Nat.le_refl _, (fun b off i h => nomatch h), (fun _ => ⟨rfl, rfl⟩), World.ownsRow_nil _ _ _ _⟩
/-- A range that proof may be asked for. -/
def Rng (n F e : Nat) : Prop := n = 0 ∧ F = 0 ∧ e = 0 ∨ F < e ∧ e ≤ n
theorem proof_any (ls : List Lf) (q : Option Addr) (n c F e : Nat) (hl : ls.length = n) (hn : n ≤ 4096) (hc : n ≤ c) (hR : Rng n F e) (hq : n = 0 → q = none ∧ c = 0) (hS : Small ls) (w : World) (hG : Glob w) (hL : OwnL w q ls) :
    Calls Tryd.prog 46 #[.slice q n c, .int .i64 (F : Int), .int .i64 (e : Int)] w
      fun en w' => ∃ v, en = .returned v ∧ PrfV w' w.heap.size F n ((ls.drop F).take (e - F)) (sidesM ls F e 0 n) v ∧ Below w.heap.size w w' := by
  rcases hR with ⟨h0, hF, he⟩ | ⟨hFe, hen⟩
  · subst hF he
    obtain ⟨rfl, rfl⟩ := hq h0
    subst h0
    obtain rfl := List.eq_nil_of_length_eq_zero hl
    refine (proof_nil w).mono ?_
    rintro en w' ⟨rfl, hB⟩
    exact ⟨_, rfl, PrfV.nil _ _, hB⟩
  · obtain ⟨b, off, rfl, hL2⟩ := hL (by intro h; rw [h] at hl; simp at hl; omega)
    exact proof_many ls b off n c F e hl hn (by omega) hc hFe hen hS w hG hL2
theorem PrfV.one {w : World} {B F n : Nat} {lf : List Lf} {sd : List (List Nat)} {v : Value} (h : PrfV w B F n lf sd v) : ∃ cs : List Value, v = .agg cs.toArray ∧ cs.length = 4 ∧ ∀ v ∈ cs, v.oneCell' = true := by
  obtain ⟨q, c, sv, rfl, _, _, _, _, hO⟩ := h
  refine ⟨[.int .i64 (F : Int), .int .i64 (n : Int), .slice q lf.length c, sv], rfl, rfl, ?_⟩
  intro v hv
  simp at hv
  rcases hv with rfl | rfl | rfl | rfl <;> first | rfl | exact one_own hO
theorem PrfV.heap {w w' : World} {B B' F n : Nat} {lf : List Lf} {sd : List (List Nat)} {v : Value} (h : PrfV w B F n lf sd v) (hh : ∀ j, B ≤ j → w'.heap[j]? = w.heap[j]?) (hs : w.heap.size ≤ w'.heap.size) (hB : B' ≤ B) : PrfV w' B' F n lf sd v := by
  obtain ⟨q, c, sv, e, hL, hc, hb, hz, hO⟩ := h
  refine ⟨q, c, sv, e, fun hne => ?_, hc, fun b off i hq => Nat.le_trans hB (hb b off i hq), hz, hO.heap hh hB⟩
  obtain ⟨b, off, hq, hL2⟩ := hL hne
  exact ⟨b, off, hq, hL2.heap (hh b (hb b off none hq)) hs⟩

set_option maxHeartbeats 2000000 in
set_option maxRecDepth 100000 in
theorem prove_no (ls : List Lf) (p : Option Addr) (n c : Nat) (hl : ls.length = n) (hv : validM ls ≠ 0) (key : ByteArray) (w : World) (hL : OwnL w p ls) :
    Calls Tryd.prog 21 #[.slice p n c, .string key] w fun e w' => e = .returned (.tuple #[.agg zeroPrf.toArray, .int .i64 (validM ls)]) ∧ Below w.heap.size w w' := by
  have hz2 := build_prf
  have HV := Lib.hid (fun w0 (hB : Below w.heap.size w w0) => valid_any ls p n c hl w0 (hL.keep hB))
  clear hl hL
  generalize validM ls = v at hv HV ⊢
  go_enter Tryd.func21, Tryd.ntmps21
  go_upto_region 1 with (fail)
  generalize hw1 : World.alloc _ _ = W0
  have K2 : Blk W0 w.heap.size 50 zeroPrf := hw1 ▸ (blk_new w _ _)
  have KB : Below w.heap.size w W0 := hw1 ▸ ((Below.refl _ _).alloc (Nat.le_refl _) _)
  clear hw1
  go_wp2_with (first
    | (go_at_call 14; refine (HV.out _ KB).mono ?_; rintro e W1 ⟨rfl, hB1⟩)
    | (refine wpList_store_mid rfl 50 (.tmp 4) (.tmp 12) rfl w.heap.size 0 zeroPrf.toArray rfl rfl (by simpa using (K2.keep hB1).there 0 4 (by simp)) (by kernel_rfl) (all_oneCell_toArray zero_one) ?_))
  have B6 := (only_sets w.heap.size 0 W1 zeroPrf).2.2 _ _ (Nat.le_refl _) (link KB hB1)
  have K6 : Blk (W1.setCells w.heap.size 0 zeroPrf) w.heap.size 50 zeroPrf := (K2.keep hB1).all rfl
  try dsimp only at B6 ⊢
  generalize World.setCells W1 w.heap.size 0 zeroPrf = V6 at B6 K6 ⊢
  exact bodyPost_ret (v := .tuple #[.agg zeroPrf.toArray, .int .i64 v]) (results_and (p := 4) (q := 5) (ty := 50) rfl _ _ rfl rfl (K6.loadVarS Tryd.underlying50 (by kernel_rfl))) rfl ⟨rfl, B6⟩

/-- Whether the leaf at an index has a key. -/
def keyAt (ls : List Lf) (i : Nat) (key : ByteArray) : Bool := match ls[i]? with
  | some x => x.1.toList == key.toList
  | none => false
/-- The range of the proof for a key. -/
def proveR (ls : List Lf) (key : ByteArray) : Nat × Nat := if keyAt ls (fromM ls key) key then (fromM ls key, fromM ls key + 1) else (fromM ls key - 1, min (fromM ls key + 1) ls.length)
theorem fromM_le (ls : List Lf) (key : ByteArray) : fromM ls key ≤ ls.length := List.findIdx_le_length
theorem keyAt_lt {ls : List Lf} {i : Nat} {key : ByteArray} (h : keyAt ls i key = true) : i < ls.length := by
  unfold keyAt at h
  split at h
  · rename_i x hx; exact (List.getElem?_eq_some_iff.1 hx).1
  · cases h
theorem proveR_ok (ls : List Lf) (key : ByteArray) : Rng ls.length (proveR ls key).1 (proveR ls key).2 := by
  have h1 := fromM_le ls key
  unfold proveR Rng
  split
  · rename_i h
    have := keyAt_lt h
    exact Or.inr ⟨Nat.lt_succ_self _, this⟩
  · rcases Nat.eq_zero_or_pos ls.length with h0 | h0
    · exact Or.inl ⟨h0, by dsimp only; omega, by dsimp only; omega⟩
    · exact Or.inr ⟨by dsimp only; omega, by dsimp only; omega⟩

set_option maxHeartbeats 2000000 in
set_option maxRecDepth 100000 in
theorem prove_yes (ls : List Lf) (p : Option Addr) (n c : Nat) (hl : ls.length = n) (hc : n ≤ c) (hq : n = 0 → p = none ∧ c = 0) (h0 : validM ls = 0) (key : ByteArray) (w : World) (hG : Glob w) (hL : OwnL w p ls) :
    Calls Tryd.prog 21 #[.slice p n c, .string key] w fun e w' => ∃ v, e = .returned (.tuple #[v, .int .i64 0]) ∧
      PrfV w' w.heap.size (proveR ls key).1 n ((ls.drop (proveR ls key).1).take ((proveR ls key).2 - (proveR ls key).1)) (sidesM ls (proveR ls key).1 (proveR ls key).2 0 n) v ∧ Below w.heap.size w w' := by
  obtain ⟨hn4, hfit, hord⟩ := valid_zero h0
  have hS := small_of hfit
  have HV := Lib.hid (fun w0 (hB : Below w.heap.size w w0) => valid_any ls p n c hl w0 (hL.keep hB))
  rw [h0] at HV
  have HF := Lib.hid (fun w0 (hB : Below w.heap.size w w0) => from_any ls p n c hl (by omega) hord key w0 (hL.keep hB))
  have HP := Lib.hid (fun (w0 : World) (F e : Nat) (hR : Rng n F e) (hB : Below w.heap.size w w0) => proof_any ls p n c F e hl (by omega) hc hR hq hS w0 (hG.keep hB) (hL.keep hB))
  have hRok := proveR_ok ls key
  rw [hl] at hRok
  have hfl := fromM_le ls key
  rw [hl] at hfl
  have hkx : keyAt ls (fromM ls key) key = true → ∃ b off x, p = some ⟨b, off, none⟩ ∧ b < w.heap.size ∧ w.cell? ⟨b, off + fromM ls key * 2, none⟩ = some (.string x) ∧ (x.toList == key.toList) = true := by
    intro hk
    have hlt := keyAt_lt hk
    obtain ⟨b, off, hp, hL2⟩ := hL (by intro h; rw [h] at hlt; simp at hlt)
    have hx : ls[fromM ls key]? = some ls[fromM ls key] := List.getElem?_eq_getElem hlt
    refine ⟨b, off, _, hp, hL2.1, (hL2.at hx).1, ?_⟩
    unfold keyAt at hk
    rw [hx] at hk
    exact hk
  have hkn : ¬ keyAt ls (fromM ls key) key = true → fromM ls key < n → ∃ b off x, p = some ⟨b, off, none⟩ ∧ b < w.heap.size ∧ w.cell? ⟨b, off + fromM ls key * 2, none⟩ = some (.string x) ∧ (x.toList == key.toList) = false := by
    intro hk hlt
    obtain ⟨b, off, hp, hL2⟩ := hL (by intro h; rw [h] at hl; simp at hl; omega)
    have hx : ls[fromM ls key]? = some (ls[fromM ls key]'(by omega)) := List.getElem?_eq_getElem (by omega)
    refine ⟨b, off, _, hp, hL2.1, (hL2.at hx).1, ?_⟩
    unfold keyAt at hk
    rw [hx] at hk
    simpa using hk
  have hpr : proveR ls key = if keyAt ls (fromM ls key) key then (fromM ls key, fromM ls key + 1) else (fromM ls key - 1, min (fromM ls key + 1) n) := by unfold proveR; rw [hl]
  generalize proveR ls key = FE at hRok hpr ⊢
  obtain ⟨F, e⟩ := FE
  dsimp only at hRok ⊢
  have HQ := Lib.hid (fun (w0 : World) (hB : Below w.heap.size w w0) => HP.out w0 F e hRok hB)
  generalize (ls.drop F).take (e - F) = part at HQ ⊢
  generalize sidesM ls F e 0 n = SD at HQ ⊢
  generalize keyAt ls (fromM ls key) key = ka at hkx hkn hpr
  generalize fromM ls key = i at HF hfl hkx hkn hpr
  rw [hl] at hn4
  clear hL hG hl hS hfit hord h0 HP hq
  go_enter Tryd.func21, Tryd.ntmps21
  go_upto_region 1 with (fail)
  generalize hw1 : World.alloc _ _ = W0
  have K2 : Blk W0 w.heap.size 50 zeroPrf := hw1 ▸ (blk_new w _ _)
  have KB : Below w.heap.size w W0 := hw1 ▸ ((Below.refl _ _).alloc (Nat.le_refl _) _)
  clear hw1
  go_upto_region 5 with (first
    | (go_at_call 14; refine (HV.out _ KB).mono ?_; rintro e W1 ⟨rfl, hB1⟩)
    | (go_at_call 45; refine (HF.out _ (link KB hB1)).mono ?_; rintro e W2 ⟨rfl, hB2⟩))
  have CB := link (link KB hB1) hB2
  have L2 := (K2.keep hB1).keep hB2
  clear K2 KB hB1 hB2 HV HF
  rcases ka with _ | _
  · simp only [Bool.false_eq_true, if_false, Prod.mk.injEq] at hpr
    obtain ⟨hF, he⟩ := hpr
    have hE := Lib.hid (And.intro hF he)
    clear hF he hRok
    by_cases hlt : i < n
    · obtain ⟨b, off, x, rfl, hb, hx, hxk⟩ := hkn (by simp) hlt
      have cx := (CB.cell hb).trans hx
      clear hkx hkn
      go_wp2_with (first
        | (go_at_call 46; rw [show max ((i : Int) - 1) 0 = (F : Int) from by have := hE.out; omega, show min ((i : Int) + 1) (n : Int) = (e : Int) from by have := hE.out; omega]; refine (HQ.out _ CB).mono ?_; rintro e3 W3 ⟨v, rfl, hPv, hB3⟩; obtain ⟨cs, rfl, hcl, hc1⟩ := hPv.one)
        | (refine wpList_store_mid rfl 50 (.tmp 4) (.tmp 44) rfl w.heap.size 0 cs.toArray rfl rfl (by rw [show cs.toArray.size = 4 from hcl]; exact (L2.keep hB3).there 0 4 (by decide)) (by rw [show cs.toArray.size = 4 from hcl]; kernel_rfl) (all_oneCell_toArray hc1) ?_))
      have K6 : Blk (W3.setCells w.heap.size 0 cs) w.heap.size 50 cs := (L2.keep hB3).all (by rw [hcl]; rfl)
      have B6 := (only_sets w.heap.size 0 W3 cs).2.2 _ _ (Nat.le_refl _) (link CB hB3)
      have P6 := hPv.heap (w' := W3.setCells w.heap.size 0 cs) (B' := w.heap.size) (fun j hj => heap_sets w.heap.size cs W3 0 j (by have := L2.lt; omega)) (Nat.le_of_eq (sets_size w.heap.size cs W3 0).symm) (Nat.le_of_lt L2.lt)
      try dsimp only at B6 K6 P6 ⊢
      generalize World.setCells W3 w.heap.size 0 cs = V6 at B6 K6 P6 ⊢
      exact bodyPost_ret (v := .tuple #[.agg cs.toArray, .int .i64 0]) (results_and (p := 4) (q := 5) (ty := 50) rfl _ _ rfl rfl (K6.loadVarS Tryd.underlying50 (by rw [hcl]; kernel_rfl))) rfl ⟨_, rfl, P6, B6⟩
    · clear hkx hkn
      go_wp2_with (first
        | (go_at_call 46; rw [show max ((i : Int) - 1) 0 = (F : Int) from by have := hE.out; omega, show min ((i : Int) + 1) (n : Int) = (e : Int) from by have := hE.out; omega]; refine (HQ.out _ CB).mono ?_; rintro e3 W3 ⟨v, rfl, hPv, hB3⟩; obtain ⟨cs, rfl, hcl, hc1⟩ := hPv.one)
        | (refine wpList_store_mid rfl 50 (.tmp 4) (.tmp 44) rfl w.heap.size 0 cs.toArray rfl rfl (by rw [show cs.toArray.size = 4 from hcl]; exact (L2.keep hB3).there 0 4 (by decide)) (by rw [show cs.toArray.size = 4 from hcl]; kernel_rfl) (all_oneCell_toArray hc1) ?_))
      have K6 : Blk (W3.setCells w.heap.size 0 cs) w.heap.size 50 cs := (L2.keep hB3).all (by rw [hcl]; rfl)
      have B6 := (only_sets w.heap.size 0 W3 cs).2.2 _ _ (Nat.le_refl _) (link CB hB3)
      have P6 := hPv.heap (w' := W3.setCells w.heap.size 0 cs) (B' := w.heap.size) (fun j hj => heap_sets w.heap.size cs W3 0 j (by have := L2.lt; omega)) (Nat.le_of_eq (sets_size w.heap.size cs W3 0).symm) (Nat.le_of_lt L2.lt)
      try dsimp only at B6 K6 P6 ⊢
      generalize World.setCells W3 w.heap.size 0 cs = V6 at B6 K6 P6 ⊢
      exact bodyPost_ret (v := .tuple #[.agg cs.toArray, .int .i64 0]) (results_and (p := 4) (q := 5) (ty := 50) rfl _ _ rfl rfl (K6.loadVarS Tryd.underlying50 (by rw [hcl]; kernel_rfl))) rfl ⟨_, rfl, P6, B6⟩
  · obtain ⟨b, off, x, rfl, hb, hx, hxk⟩ := hkx rfl
    have cx := (CB.cell hb).trans hx
    simp only [if_true, Prod.mk.injEq] at hpr
    obtain ⟨rfl, he⟩ := hpr
    rcases hRok with hRok | hRok
    · omega
    have hw1 : IntKind.i64.wrap ((F : Int) + 1) = (e : Int) := by
      rw [show ((F : Int) + 1) = (e : Int) by omega]
      simp [IntKind.wrap, IntKind.signed, IntKind.bits]
      omega
    have hlt : F < n := by omega
    clear hkx hkn
    clear he hRok
    go_wp2_with (first
      | (go_at_call 46; refine (HQ.out _ CB).mono ?_; rintro e3 W3 ⟨v, rfl, hPv, hB3⟩; obtain ⟨cs, rfl, hcl, hc1⟩ := hPv.one)
      | (refine wpList_store_mid rfl 50 (.tmp 4) (.tmp 34) rfl w.heap.size 0 cs.toArray rfl rfl (by rw [show cs.toArray.size = 4 from hcl]; exact (L2.keep hB3).there 0 4 (by decide)) (by rw [show cs.toArray.size = 4 from hcl]; kernel_rfl) (all_oneCell_toArray hc1) ?_))
    have K6 : Blk (W3.setCells w.heap.size 0 cs) w.heap.size 50 cs := (L2.keep hB3).all (by rw [hcl]; rfl)
    have B6 := (only_sets w.heap.size 0 W3 cs).2.2 _ _ (Nat.le_refl _) (link CB hB3)
    have P6 := hPv.heap (w' := W3.setCells w.heap.size 0 cs) (B' := w.heap.size) (fun j hj => heap_sets w.heap.size cs W3 0 j (by have := L2.lt; omega)) (Nat.le_of_eq (sets_size w.heap.size cs W3 0).symm) (Nat.le_of_lt L2.lt)
    try dsimp only at B6 K6 P6 ⊢
    generalize World.setCells W3 w.heap.size 0 cs = V6 at B6 K6 P6 ⊢
    exact bodyPost_ret (v := .tuple #[.agg cs.toArray, .int .i64 0]) (results_and (p := 4) (q := 5) (ty := 50) rfl _ _ rfl rfl (K6.loadVarS Tryd.underlying50 (by rw [hcl]; kernel_rfl))) rfl ⟨_, rfl, P6, B6⟩

end Go.Proofs.YtfhfmdnimebegaaDoor

/-
  merkle.Range.
-/
namespace Go.Proofs.YtfhfmdnimebegaaDoor
open Go.RowKit
set_option linter.unusedVariables false
set_option linter.unusedSimpArgs false

/-- The range of the proof of a range of keys. -/
def rangeR (ls : List Lf) (low hik : ByteArray) : Nat × Nat := (fromM ls low - 1, min (fromM ls hik + 1) ls.length)
theorem sless_eq (a b : ByteArray) : sless a b = decide (a.toList < b.toList) := by unfold sless; rw [bytesLess_eq]
/-- What is less than a key is less than a greater one. -/
theorem sless_le {x a b : ByteArray} (h1 : sless b a = false) (h2 : sless x a = true) : sless x b = true := by
  rw [sless_eq] at *
  rw [decide_eq_true_eq] at *
  rw [decide_eq_false_iff_not] at h1
  rcases List.le_iff_lt_or_eq.1 (List.not_lt.1 h1) with h | h
  · exact List.lt_trans h2 h
  · rwa [← h]
theorem from_mono (low hik : ByteArray) (h : sless hik low = false) : ∀ ls : List Lf, fromM ls low ≤ fromM ls hik
  | [] => Nat.le_refl _
  | x :: r => by
    have ih := from_mono low hik h r
    unfold fromM at *
    rw [List.findIdx_cons, List.findIdx_cons]
    rcases hx : sless x.1 low with _ | _
    · simp
    · rw [sless_le h hx]
      simpa using ih
theorem rangeR_ok (ls : List Lf) (low hik : ByteArray) (h : sless hik low = false) : Rng ls.length (rangeR ls low hik).1 (rangeR ls low hik).2 := by
  have h1 := fromM_le ls low
  have h2 := fromM_le ls hik
  have h3 := from_mono low hik h ls
  unfold rangeR Rng
  rcases Nat.eq_zero_or_pos ls.length with h0 | h0
  · exact Or.inl ⟨h0, by dsimp only; omega, by dsimp only; omega⟩
  · exact Or.inr ⟨by dsimp only; omega, by dsimp only; omega⟩

set_option maxHeartbeats 2000000 in
set_option maxRecDepth 100000 in
theorem range_no (ls : List Lf) (p : Option Addr) (n c : Nat) (hl : ls.length = n) (hv : validM ls ≠ 0) (low hik : ByteArray) (w : World) (hL : OwnL w p ls) :
    Calls Tryd.prog 23 #[.slice p n c, .string low, .string hik] w fun e w' => e = .returned (.tuple #[.agg zeroPrf.toArray, .int .i64 (validM ls)]) ∧ Below w.heap.size w w' := by
  have hz2 := build_prf
  have HV := Lib.hid (fun w0 (hB : Below w.heap.size w w0) => valid_any ls p n c hl w0 (hL.keep hB))
  clear hl hL
  generalize validM ls = v at hv HV ⊢
  go_enter Tryd.func23, Tryd.ntmps23
  go_upto_region 1 with (fail)
  generalize hw1 : World.alloc _ _ = W0
  have K2 : Blk W0 w.heap.size 50 zeroPrf := hw1 ▸ (blk_new w _ _)
  have KB : Below w.heap.size w W0 := hw1 ▸ ((Below.refl _ _).alloc (Nat.le_refl _) _)
  clear hw1
  go_wp2_with (first
    | (go_at_call 14; refine (HV.out _ KB).mono ?_; rintro e W1 ⟨rfl, hB1⟩)
    | (refine wpList_store_mid rfl 50 (.tmp 6) (.tmp 13) rfl w.heap.size 0 zeroPrf.toArray rfl rfl (by simpa using (K2.keep hB1).there 0 4 (by simp)) (by kernel_rfl) (all_oneCell_toArray zero_one) ?_))
  have B6 := (only_sets w.heap.size 0 W1 zeroPrf).2.2 _ _ (Nat.le_refl _) (link KB hB1)
  have K6 : Blk (W1.setCells w.heap.size 0 zeroPrf) w.heap.size 50 zeroPrf := (K2.keep hB1).all rfl
  try dsimp only at B6 ⊢
  generalize World.setCells W1 w.heap.size 0 zeroPrf = V6 at B6 K6 ⊢
  exact bodyPost_ret (v := .tuple #[.agg zeroPrf.toArray, .int .i64 v]) (results_and (p := 6) (q := 7) (ty := 50) rfl _ _ rfl rfl (K6.loadVarS Tryd.underlying50 (by kernel_rfl))) rfl ⟨rfl, B6⟩


set_option maxHeartbeats 2000000 in
set_option maxRecDepth 100000 in
theorem range_bad (ls : List Lf) (p : Option Addr) (n c : Nat) (hl : ls.length = n) (hv : validM ls = 0) (low hik : ByteArray) (hlt : sless hik low = true) (w : World) (hL : OwnL w p ls) :
    Calls Tryd.prog 23 #[.slice p n c, .string low, .string hik] w fun e w' => e = .returned (.tuple #[.agg zeroPrf.toArray, .int .i64 5]) ∧ Below w.heap.size w w' := by
  have hz2 := build_prf
  have HV := Lib.hid (fun w0 (hB : Below w.heap.size w w0) => valid_any ls p n c hl w0 (hL.keep hB))
  clear hl hL
  rw [hv] at HV
  clear hv
  unfold sless at hlt
  go_enter Tryd.func23, Tryd.ntmps23
  go_upto_region 1 with (fail)
  generalize hw1 : World.alloc _ _ = W0
  have K2 : Blk W0 w.heap.size 50 zeroPrf := hw1 ▸ (blk_new w _ _)
  have KB : Below w.heap.size w W0 := hw1 ▸ ((Below.refl _ _).alloc (Nat.le_refl _) _)
  clear hw1
  go_wp2_with (first
    | (go_at_call 14; refine (HV.out _ KB).mono ?_; rintro e W1 ⟨rfl, hB1⟩)
    | (refine wpList_store_mid rfl 50 (.tmp 6) (.tmp 18) rfl w.heap.size 0 zeroPrf.toArray rfl rfl (by simpa using (K2.keep hB1).there 0 4 (by simp)) (by kernel_rfl) (all_oneCell_toArray zero_one) ?_))
  have B6 := (only_sets w.heap.size 0 W1 zeroPrf).2.2 _ _ (Nat.le_refl _) (link KB hB1)
  have K6 : Blk (W1.setCells w.heap.size 0 zeroPrf) w.heap.size 50 zeroPrf := (K2.keep hB1).all rfl
  try dsimp only at B6 ⊢
  generalize World.setCells W1 w.heap.size 0 zeroPrf = V6 at B6 K6 ⊢
  exact bodyPost_ret (v := .tuple #[.agg zeroPrf.toArray, .int .i64 5]) (results_and (p := 6) (q := 7) (ty := 50) rfl _ _ rfl rfl (K6.loadVarS Tryd.underlying50 (by kernel_rfl))) rfl ⟨rfl, B6⟩


set_option maxHeartbeats 2000000 in
set_option maxRecDepth 100000 in
theorem range_yes (ls : List Lf) (p : Option Addr) (n c : Nat) (hl : ls.length = n) (hc : n ≤ c) (hq : n = 0 → p = none ∧ c = 0) (h0 : validM ls = 0) (low hik : ByteArray) (hlt : sless hik low = false) (w : World) (hG : Glob w) (hL : OwnL w p ls) :
    Calls Tryd.prog 23 #[.slice p n c, .string low, .string hik] w fun e w' => ∃ v, e = .returned (.tuple #[v, .int .i64 0]) ∧
      PrfV w' w.heap.size (rangeR ls low hik).1 n ((ls.drop (rangeR ls low hik).1).take ((rangeR ls low hik).2 - (rangeR ls low hik).1)) (sidesM ls (rangeR ls low hik).1 (rangeR ls low hik).2 0 n) v ∧ Below w.heap.size w w' := by
  obtain ⟨hn4, hfit, hord⟩ := valid_zero h0
  have hS := small_of hfit
  have HV := Lib.hid (fun w0 (hB : Below w.heap.size w w0) => valid_any ls p n c hl w0 (hL.keep hB))
  rw [h0] at HV
  have HF := Lib.hid (fun w0 (hB : Below w.heap.size w w0) => from_any ls p n c hl (by omega) hord low w0 (hL.keep hB))
  have HT := Lib.hid (fun w0 (hB : Below w.heap.size w w0) => from_any ls p n c hl (by omega) hord hik w0 (hL.keep hB))
  have hRok := rangeR_ok ls low hik hlt
  rw [hl] at hRok
  have hpr : rangeR ls low hik = (fromM ls low - 1, min (fromM ls hik + 1) n) := by unfold rangeR; rw [hl]
  have hfl := fromM_le ls low
  have hft := fromM_le ls hik
  rw [hl] at hfl hft hn4
  generalize rangeR ls low hik = FE at hRok hpr ⊢
  obtain ⟨F, e⟩ := FE
  simp only [Prod.mk.injEq] at hpr
  dsimp only at hRok ⊢
  have HQ := Lib.hid (fun (w0 : World) (hB : Below w.heap.size w w0) => proof_any ls p n c F e hl (by omega) hc hRok hq hS w0 (hG.keep hB) (hL.keep hB))
  generalize (ls.drop F).take (e - F) = part at HQ ⊢
  generalize sidesM ls F e 0 n = SD at HQ ⊢
  generalize fromM ls low = i at HF hfl hpr
  generalize fromM ls hik = j at HT hft hpr
  have hE := Lib.hid hpr
  unfold sless at hlt
  clear hL hG hl hS hfit hord h0 hq hpr hRok
  go_enter Tryd.func23, Tryd.ntmps23
  go_upto_region 1 with (fail)
  generalize hw1 : World.alloc _ _ = W0
  have K2 : Blk W0 w.heap.size 50 zeroPrf := hw1 ▸ (blk_new w _ _)
  have KB : Below w.heap.size w W0 := hw1 ▸ ((Below.refl _ _).alloc (Nat.le_refl _) _)
  clear hw1
  go_upto_region 6 with (go_at_call 14; refine (HV.out _ KB).mono ?_; rintro e W1 ⟨rfl, hB1⟩)
  have CB1 := link KB hB1
  have L1 := K2.keep hB1
  clear K2 KB hB1 HV
  go_wp2_with (first
    | (go_at_call_of 45 (Value.string low); refine (HF.out _ CB1).mono ?_; rintro e W4 ⟨rfl, hB4⟩)
    | (go_at_call_of 45 (Value.string hik); refine (HT.out _ (link CB1 hB4)).mono ?_; rintro e W2 ⟨rfl, hB5⟩; have CB := link (link CB1 hB4) hB5; have L2 := (L1.keep hB4).keep hB5)
    | (go_at_call 46; rw [show max ((i : Int) - 1) 0 = (F : Int) from by have := hE.out; omega, show min ((j : Int) + 1) (n : Int) = (e : Int) from by have := hE.out; omega]; refine (HQ.out _ CB).mono ?_; rintro e3 W3 ⟨v, rfl, hPv, hB3⟩; obtain ⟨cs, rfl, hcl, hc1⟩ := hPv.one)
    | (refine wpList_store_mid rfl 50 (.tmp 6) (.tmp 32) rfl w.heap.size 0 cs.toArray rfl rfl (by rw [show cs.toArray.size = 4 from hcl]; exact (L2.keep hB3).there 0 4 (by decide)) (by rw [show cs.toArray.size = 4 from hcl]; kernel_rfl) (all_oneCell_toArray hc1) ?_))
  have K6 : Blk (W3.setCells w.heap.size 0 cs) w.heap.size 50 cs := (L2.keep hB3).all (by rw [hcl]; rfl)
  have B6 := (only_sets w.heap.size 0 W3 cs).2.2 _ _ (Nat.le_refl _) (link CB hB3)
  have P6 := hPv.heap (w' := W3.setCells w.heap.size 0 cs) (B' := w.heap.size) (fun j hj => heap_sets w.heap.size cs W3 0 j (by have := L2.lt; omega)) (Nat.le_of_eq (sets_size w.heap.size cs W3 0).symm) (Nat.le_of_lt L2.lt)
  try dsimp only at B6 K6 P6 ⊢
  generalize World.setCells W3 w.heap.size 0 cs = V6 at B6 K6 P6 ⊢
  exact bodyPost_ret (v := .tuple #[.agg cs.toArray, .int .i64 0]) (results_and (p := 6) (q := 7) (ty := 50) rfl _ _ rfl rfl (K6.loadVarS Tryd.underlying50 (by rw [hcl]; kernel_rfl))) rfl ⟨_, rfl, P6, B6⟩


end Go.Proofs.YtfhfmdnimebegaaDoor

/-
  merkle.Check.
-/
namespace Go.Proofs.YtfhfmdnimebegaaDoor
open Go.RowKit
set_option linter.unusedVariables false
set_option linter.unusedSimpArgs false

theorem under_facts {R : List Nat} {F S : Int} {lf : List Lf} {sd : List (List Nat)} (h : underM R F S lf sd = true) : ∃ F' S' : Nat, F = F' ∧ S = S' ∧ F' + lf.length ≤ S' ∧ S' ≤ 4096 ∧ validM lf = 0 := by
  unfold underM at h
  split at h
  · cases h
  · rename_i hb
    have hv : validM lf = 0 := Classical.byContradiction fun hv => hb (by simp [hv])
    exact ⟨F.toNat, S.toNat, by omega, by omega, by omega, by omega, hv⟩
theorem SdV.len {w : World} {M : Nat} {sa : Option Addr} {k sc : Nat} {sd : List (List Nat)} (h : SdV w M (.slice sa k sc) sd) : k = sd.length := by
  obtain ⟨p, c, e, _⟩ := h
  injection e
theorem SdV.self {w w' : World} {M : Nat} {v : Value} {sd : List (List Nat)} (h : SdV w M v sd) (hB : Below w.heap.size w w') : SdV w' w'.heap.size v sd := by
  obtain ⟨p, c', e, h1, h2⟩ := h.keepW hB
  refine ⟨p, c', e, h1, fun hne => ?_⟩
  obtain ⟨g, o, e2, _, h4, h5⟩ := h2 hne
  exact ⟨g, o, e2, h4, h4, h5⟩
theorem under_any (R : List Nat) (hR : Dgt R) (F S : Int) (lf : List Lf) (q : Option Addr) (n c : Nat) (sa : Option Addr) (k sc : Nat) (sd : List (List Nat)) (hd : Dgts sd) (hl : lf.length = n) (hn : n ≤ 281474976710656) (hc : n ≤ c) (w : World) (hG : Glob w) (hL : OwnL w q lf) (hsd : SdV w w.heap.size (.slice sa k sc) sd) :
    Calls Tryd.prog 50 #[.agg (bytesV R).toArray, .agg #[.int .i64 F, .int .i64 S, .slice q n c, .slice sa k sc]] w fun en w' => en = .returned (.bool (underM R F S lf sd)) ∧ Below w.heap.size w w' := by
  by_cases hb : S < 0 ∨ 4096 < S ∨ F < 0 ∨ S - n < F ∨ validM lf ≠ 0
  · have e : underM R F S lf sd = false := by unfold underM; rw [if_pos (by rw [hl]; exact hb)]
    rw [e]
    exact under_bad R hR F S lf q n c sa k sc hl hn w hL hb
  · have hv : validM lf = 0 := Classical.byContradiction fun hv => hb (by simp [hv])
    obtain ⟨F', rfl⟩ : ∃ F' : Nat, F = F' := ⟨F.toNat, by omega⟩
    obtain ⟨S', rfl⟩ : ∃ S' : Nat, S = S' := ⟨S.toNat, by omega⟩
    by_cases h0 : S' = 0
    · subst h0
      obtain rfl : F' = 0 := by omega
      obtain rfl : n = 0 := by omega
      obtain rfl := List.eq_nil_of_length_eq_zero hl
      have e : underM R ((0 : Nat) : Int) ((0 : Nat) : Int) [] sd = (decide (k = 0) && decide (R = topD 0 z16)) := by
        unfold underM
        rw [if_neg (by rw [hl]; exact hb), if_pos (by rfl), hsd.len]
        congr 1
        simp
      rw [e]
      exact under_empty R hR q c sa k sc w hG
    · by_cases hn0 : n = 0
      · subst hn0
        obtain rfl := List.eq_nil_of_length_eq_zero hl
        have e : underM R (F' : Int) (S' : Int) [] sd = false := by
          unfold underM
          rw [if_neg (by rw [hl]; exact hb), if_neg (by omega), if_pos rfl]
        rw [e]
        exact under_none R hR F' S' (by omega) (by omega) (by omega) q c sa k sc w
      · obtain ⟨b, off, rfl, hL2⟩ := hL (by intro h; rw [h] at hl; simp at hl; omega)
        have e : underM R (F' : Int) (S' : Int) lf sd = (decide ((bldM lf F' 0 S' (some sd)).2 = some []) && decide (R = topD S' (bldM lf F' 0 S' (some sd)).1)) := by
          unfold underM
          rw [if_neg (by rw [hl]; exact hb), if_neg (by omega), if_neg (by intro h; rw [h] at hl; simp at hl; omega)]
          simp
        rw [e]
        exact under_main R hR F' S' n lf hl (by omega) (by omega) (by omega) hv b off c hc sa k sc sd hd w hG hL2 hsd

/-- The value of the leaf at an index. -/
def valAt (ls : List Lf) (i : Nat) : ByteArray := match ls[i]? with
  | some x => x.2
  | none => ByteArray.empty
/-- What Check answers. -/
def checkM (R : List Nat) (key : ByteArray) (F S : Int) (lf : List Lf) (sd : List (List Nat)) : ByteArray × Bool × Int :=
  if underM R F S lf sd then
    (if keyAt lf (fromM lf key) key then (valAt lf (fromM lf key), true, 0)
     else if absentM F.toNat S.toNat lf.length (fromM lf key) then (ByteArray.empty, false, 0) else (ByteArray.empty, false, 17))
  else (ByteArray.empty, false, 17)

set_option maxHeartbeats 2000000 in
set_option maxRecDepth 100000 in
theorem check_no (R : List Nat) (hR : Dgt R) (key : ByteArray) (F S : Int) (lf : List Lf) (q : Option Addr) (n c : Nat) (sa : Option Addr) (k sc : Nat) (sd : List (List Nat)) (hd : Dgts sd) (hl : lf.length = n) (hn : n ≤ 281474976710656) (hc : n ≤ c) (w : World) (hG : Glob w) (hL : OwnL w q lf) (hsd : SdV w w.heap.size (.slice sa k sc) sd)
    (hu : underM R F S lf sd = false) :
    Calls Tryd.prog 28 #[.agg (bytesV R).toArray, .string key, .agg #[.int .i64 F, .int .i64 S, .slice q n c, .slice sa k sc]] w fun en w' => en = .returned (.tuple #[.string ByteArray.empty, .bool false, .int .i64 17]) ∧ Below w.heap.size w w' := by
  have HU := Lib.hid (fun (w0 : World) (hB : Below w.heap.size w w0) => (hu ▸ under_any R hR F S lf q n c sa k sc sd hd hl hn hc w0 (hG.keep hB) (hL.keep hB) (hsd.self hB) : Calls Tryd.prog 50 #[.agg (bytesV R).toArray, .agg #[.int .i64 F, .int .i64 S, .slice q n c, .slice sa k sc]] w0 fun en w' => en = .returned (.bool false) ∧ Below w0.heap.size w0 w'))
  have hvR : (bytesV R).length = 16 := by rw [bytesV_length]; exact hR.1
  clear hu hd hl hsd hL hG
  go_enter Tryd.func28, Tryd.ntmps28
  go_upto_region 1 with (fail)
  generalize hw1 : World.alloc _ _ = W0
  have Kp : Blk W0 (w.heap.size + 1) 50 [.int .i64 F, .int .i64 S, .slice q n c, .slice sa k sc] := hw1 ▸ blk_new1 w _ _ _
  have Kr : Blk W0 w.heap.size 29 (bytesV R) := hw1 ▸ ((blk_new w _ _).alloc _)
  have KB : Below w.heap.size w W0 := hw1 ▸ (((Below.refl _ _).alloc (Nat.le_refl _) _).alloc (by simp) _)
  clear hw1
  go_wp2_with (first
    | (refine load_blk rfl 29 (.tmp 3) rfl Kr rfl Tryd.underlying29 (m := 16) (by kernel_rfl) hvR ?_)
    | (refine load_struct rfl 50 (.tmp 5) rfl Kp rfl Tryd.underlying50 (m := 4) (by kernel_rfl) rfl ?_)
    | (go_at_call 50; refine (HU.out _ KB).mono ?_; rintro en W2 ⟨rfl, hB2⟩))
  go_ret3
  exact ⟨rfl, link KB hB2⟩

set_option maxHeartbeats 2000000 in
set_option maxRecDepth 100000 in
theorem check_yes (R : List Nat) (hR : Dgt R) (key : ByteArray) (F S : Nat) (lf : List Lf) (q : Option Addr) (n c : Nat) (sa : Option Addr) (k sc : Nat) (sd : List (List Nat)) (hd : Dgts sd) (hl : lf.length = n) (hFS : F + n ≤ S) (hS : S ≤ 4096) (hv : validM lf = 0) (hc : n ≤ c) (w : World) (hG : Glob w) (hL : OwnL w q lf) (hsd : SdV w w.heap.size (.slice sa k sc) sd)
    (hu : underM R F S lf sd = true) :
    Calls Tryd.prog 28 #[.agg (bytesV R).toArray, .string key, .agg #[.int .i64 (F : Int), .int .i64 (S : Int), .slice q n c, .slice sa k sc]] w
      fun en w' => en = .returned (.tuple #[.string (checkM R key F S lf sd).1, .bool (checkM R key F S lf sd).2.1, .int .i64 (checkM R key F S lf sd).2.2]) ∧ Below w.heap.size w w' := by
  have HU := Lib.hid (fun (w0 : World) (hB : Below w.heap.size w w0) => (hu ▸ under_any R hR F S lf q n c sa k sc sd hd hl (by omega) hc w0 (hG.keep hB) (hL.keep hB) (hsd.self hB) : Calls Tryd.prog 50 #[.agg (bytesV R).toArray, .agg #[.int .i64 (F : Int), .int .i64 (S : Int), .slice q n c, .slice sa k sc]] w0 fun en w' => en = .returned (.bool true) ∧ Below w0.heap.size w0 w'))
  obtain ⟨_, _, hord⟩ := valid_zero hv
  have HF := Lib.hid (fun (w0 : World) (hB : Below w.heap.size w w0) => from_any lf q n c hl (by omega) hord key w0 (hL.keep hB))
  have HA := Lib.hid (fun (w0 : World) (hB : Below w.heap.size w w0) => absent_any lf q n c hl hord key F S (by omega) hS sa k sc w0 (hL.keep hB))
  have hvR : (bytesV R).length = 16 := by rw [bytesV_length]; exact hR.1
  have hcm : checkM R key F S lf sd = (if keyAt lf (fromM lf key) key then (valAt lf (fromM lf key), true, 0) else if absentM F S n (fromM lf key) then (ByteArray.empty, false, 0) else (ByteArray.empty, false, 17)) := by
    unfold checkM
    rw [if_pos hu, hl]
    simp
  have hkx : keyAt lf (fromM lf key) key = true → fromM lf key < n ∧ ∃ b off x, q = some ⟨b, off, none⟩ ∧ b < w.heap.size ∧ w.cell? ⟨b, off + fromM lf key * 2, none⟩ = some (.string x) ∧ w.cell? ⟨b, off + fromM lf key * 2 + 1, none⟩ = some (.string (valAt lf (fromM lf key))) ∧ (x.toList == key.toList) = true := by
    intro hk
    have hlt := keyAt_lt hk
    obtain ⟨b, off, hp, hL2⟩ := hL (by intro h; rw [h] at hlt; simp at hlt)
    have hx : lf[fromM lf key]? = some lf[fromM lf key] := List.getElem?_eq_getElem hlt
    refine ⟨by omega, b, off, _, hp, hL2.1, (hL2.at hx).1, ?_, ?_⟩
    · rw [(hL2.at hx).2]; unfold valAt; rw [hx]
    · unfold keyAt at hk
      rw [hx] at hk
      exact hk
  have hkn : ¬ keyAt lf (fromM lf key) key = true → fromM lf key < n → ∃ b off x, q = some ⟨b, off, none⟩ ∧ b < w.heap.size ∧ w.cell? ⟨b, off + fromM lf key * 2, none⟩ = some (.string x) ∧ (x.toList == key.toList) = false := by
    intro hk hlt
    obtain ⟨b, off, hp, hL2⟩ := hL (by intro h; rw [h] at hl; simp at hl; omega)
    have hx : lf[fromM lf key]? = some (lf[fromM lf key]'(by omega)) := List.getElem?_eq_getElem (by omega)
    refine ⟨b, off, _, hp, hL2.1, (hL2.at hx).1, ?_⟩
    unfold keyAt at hk
    rw [hx] at hk
    simpa using hk
  generalize checkM R key F S lf sd = CM at hcm ⊢
  generalize keyAt lf (fromM lf key) key = ka at hkx hkn hcm
  generalize valAt lf (fromM lf key) = vl at hkx hcm
  generalize fromM lf key = i at HF HA hkx hkn hcm
  generalize absentM F S n i = ab at HA hcm
  clear hu hd hl hsd hL hG hord hv hFS hS hc
  go_enter Tryd.func28, Tryd.ntmps28
  go_upto_region 1 with (fail)
  generalize hw1 : World.alloc _ _ = W0
  have Kp : Blk W0 (w.heap.size + 1) 50 [.int .i64 (F : Int), .int .i64 (S : Int), .slice q n c, .slice sa k sc] := hw1 ▸ blk_new1 w _ _ _
  have Kr : Blk W0 w.heap.size 29 (bytesV R) := hw1 ▸ ((blk_new w _ _).alloc _)
  have KB : Below w.heap.size w W0 := hw1 ▸ (((Below.refl _ _).alloc (Nat.le_refl _) _).alloc (by simp) _)
  clear hw1
  go_upto_region 3 with (first
    | (refine load_blk rfl 29 (.tmp 3) rfl Kr rfl Tryd.underlying29 (m := 16) (by kernel_rfl) hvR ?_)
    | (refine load_struct rfl 50 (.tmp 5) rfl Kp rfl Tryd.underlying50 (m := 4) (by kernel_rfl) rfl ?_)
    | (go_at_call 50; refine (HU.out _ KB).mono ?_; rintro en W2 ⟨rfl, hB2⟩))
  have Kp2 := Kp.keep hB2
  have KB2 := link KB hB2
  clear Kp Kr KB hB2 HU
  have c2 := Kp2.cell (j := 2) rfl
  go_upto_region 4 with (go_at_call 45; refine (HF.out _ KB2).mono ?_; rintro en W3 ⟨rfl, hB3⟩)
  have Kp3 := Kp2.keep hB3
  have KB3 := link KB2 hB3
  clear c2 Kp2 KB2 hB3 HF
  have c2 := Kp3.cell (j := 2) rfl
  rcases ka with _ | _
  · have hcm2 := Lib.hid hcm
    clear hcm
    by_cases hlt : i < n
    · obtain ⟨b, off, x, rfl, hb, hx, hxk⟩ := hkn (by simp) hlt
      have cx := (KB3.cell hb).trans hx
      clear hkx hkn
      go_upto_region 6 with (fail)
      clear c2 cx hx hxk hlt
      go_wp2_with (first
        | (refine load_struct rfl 50 (.tmp 5) rfl Kp3 rfl Tryd.underlying50 (m := 4) (by kernel_rfl) rfl ?_)
        | (go_at_call 51; refine (HA.out _ KB3).mono ?_; rintro en W4 ⟨rfl, hB4⟩; cases ab))
      all_goals
        go_ret3
        exact ⟨by rw [hcm2.out]; rfl, link KB3 hB4⟩
    · clear hkx hkn
      go_upto_region 6 with (fail)
      clear c2 hlt
      go_wp2_with (first
        | (refine load_struct rfl 50 (.tmp 5) rfl Kp3 rfl Tryd.underlying50 (m := 4) (by kernel_rfl) rfl ?_)
        | (go_at_call 51; refine (HA.out _ KB3).mono ?_; rintro en W4 ⟨rfl, hB4⟩; cases ab))
      all_goals
        go_ret3
        exact ⟨by rw [hcm2.out]; rfl, link KB3 hB4⟩
  · obtain ⟨hlt, b, off, x, rfl, hb, hx, hy, hxk⟩ := hkx rfl
    have cx := (KB3.cell hb).trans hx
    have cy := (KB3.cell hb).trans hy
    have hcm2 := Lib.hid hcm
    clear hkx hkn hcm hx hy
    go_wp2
    go_ret3
    exact ⟨by rw [hcm2.out]; rfl, KB3⟩

theorem check_any (R : List Nat) (hR : Dgt R) (key : ByteArray) (F S : Int) (lf : List Lf) (q : Option Addr) (n c : Nat) (sa : Option Addr) (k sc : Nat) (sd : List (List Nat)) (hd : Dgts sd) (hl : lf.length = n) (hn : n ≤ 281474976710656) (hc : n ≤ c) (w : World) (hG : Glob w) (hL : OwnL w q lf) (hsd : SdV w w.heap.size (.slice sa k sc) sd) :
    Calls Tryd.prog 28 #[.agg (bytesV R).toArray, .string key, .agg #[.int .i64 F, .int .i64 S, .slice q n c, .slice sa k sc]] w
      fun en w' => en = .returned (.tuple #[.string (checkM R key F S lf sd).1, .bool (checkM R key F S lf sd).2.1, .int .i64 (checkM R key F S lf sd).2.2]) ∧ Below w.heap.size w w' := by
  rcases hu : underM R F S lf sd with _ | _
  · have e : checkM R key F S lf sd = (ByteArray.empty, false, 17) := by unfold checkM; rw [if_neg (by rw [hu]; simp)]
    rw [e]
    exact check_no R hR key F S lf q n c sa k sc sd hd hl hn hc w hG hL hsd hu
  · obtain ⟨F', S', rfl, rfl, h1, h2, h3⟩ := under_facts hu
    exact check_yes R hR key F' S' lf q n c sa k sc sd hd hl (by omega) h2 h3 hc w hG hL hsd hu

end Go.Proofs.YtfhfmdnimebegaaDoor

/-
  merkle.CheckRange.
-/
namespace Go.Proofs.YtfhfmdnimebegaaDoor
open Go.RowKit
set_option linter.unusedVariables false
set_option linter.unusedSimpArgs false

/-- The key of the leaf at an index. -/
def kAt (ls : List Lf) (i : Nat) : ByteArray := match ls[i]? with
  | some x => x.1
  | none => ByteArray.empty
/-- Whether a proof's range does not reach as far as what is asked for. -/
def outR (low hik : ByteArray) (F S : Nat) (lf : List Lf) : Bool := (decide (0 < F) && !sless (kAt lf 0) low) || (decide (F + lf.length < S) && sless (kAt lf (lf.length - 1)) hik)
/-- What CheckRange answers. -/
def crangeM (R : List Nat) (low hik : ByteArray) (F S : Int) (lf : List Lf) (sd : List (List Nat)) : List Lf × Int :=
  if sless hik low then ([], 5)
  else if underM R F S lf sd then (if outR low hik F.toNat S.toNat lf then ([], 17) else ((lf.drop (fromM lf low)).take (fromM lf hik - fromM lf low), 0))
  else ([], 17)
/-- A slice of leaves as an answer. -/
def LvsV (w : World) (v : Value) (ls : List Lf) : Prop := ∃ q c, v = .slice q ls.length c ∧ ls.length ≤ c ∧ OwnL w q ls
theorem LvsV.nil (w : World) : LvsV w (.slice none 0 0) [] := ⟨none, 0, rfl, Nat.le_refl _, fun h => absurd rfl h⟩

set_option maxHeartbeats 2000000 in
set_option maxRecDepth 100000 in
theorem crange_bad (R : List Nat) (low hik : ByteArray) (h : sless hik low = true) (F S : Int) (q : Option Addr) (n c : Nat) (sa : Option Addr) (k sc : Nat) (w : World) :
    Calls Tryd.prog 31 #[.agg (bytesV R).toArray, .string low, .string hik, .agg #[.int .i64 F, .int .i64 S, .slice q n c, .slice sa k sc]] w fun en w' => en = .returned (.tuple #[.slice none 0 0, .int .i64 5]) ∧ Below w.heap.size w w' := by
  unfold sless at h
  go_enter Tryd.func31, Tryd.ntmps31
  go_upto_region 1 with (fail)
  generalize hw1 : World.alloc _ _ = W0
  have KB : Below w.heap.size w W0 := hw1 ▸ (((Below.refl _ _).alloc (Nat.le_refl _) _).alloc (by simp) _)
  clear hw1
  go_wp2
  go_ret2
  exact ⟨rfl, KB⟩

set_option maxHeartbeats 2000000 in
set_option maxRecDepth 100000 in
theorem crange_no (R : List Nat) (hR : Dgt R) (low hik : ByteArray) (h : sless hik low = false) (F S : Int) (lf : List Lf) (q : Option Addr) (n c : Nat) (sa : Option Addr) (k sc : Nat) (sd : List (List Nat)) (hd : Dgts sd) (hl : lf.length = n) (hn : n ≤ 281474976710656) (hc : n ≤ c) (w : World) (hG : Glob w) (hL : OwnL w q lf) (hsd : SdV w w.heap.size (.slice sa k sc) sd)
    (hu : underM R F S lf sd = false) :
    Calls Tryd.prog 31 #[.agg (bytesV R).toArray, .string low, .string hik, .agg #[.int .i64 F, .int .i64 S, .slice q n c, .slice sa k sc]] w fun en w' => en = .returned (.tuple #[.slice none 0 0, .int .i64 17]) ∧ Below w.heap.size w w' := by
  have HU := Lib.hid (fun (w0 : World) (hB : Below w.heap.size w w0) => (hu ▸ under_any R hR F S lf q n c sa k sc sd hd hl hn hc w0 (hG.keep hB) (hL.keep hB) (hsd.self hB) : Calls Tryd.prog 50 #[.agg (bytesV R).toArray, .agg #[.int .i64 F, .int .i64 S, .slice q n c, .slice sa k sc]] w0 fun en w' => en = .returned (.bool false) ∧ Below w0.heap.size w0 w'))
  have hvR : (bytesV R).length = 16 := by rw [bytesV_length]; exact hR.1
  unfold sless at h
  clear hu hd hl hsd hL hG
  go_enter Tryd.func31, Tryd.ntmps31
  go_upto_region 1 with (fail)
  generalize hw1 : World.alloc _ _ = W0
  have Kp : Blk W0 (w.heap.size + 1) 50 [.int .i64 F, .int .i64 S, .slice q n c, .slice sa k sc] := hw1 ▸ blk_new1 w _ _ _
  have Kr : Blk W0 w.heap.size 29 (bytesV R) := hw1 ▸ ((blk_new w _ _).alloc _)
  have KB : Below w.heap.size w W0 := hw1 ▸ (((Below.refl _ _).alloc (Nat.le_refl _) _).alloc (by simp) _)
  clear hw1
  go_wp2_with (first
    | (refine load_blk rfl 29 (.tmp 4) rfl Kr rfl Tryd.underlying29 (m := 16) (by kernel_rfl) hvR ?_)
    | (refine load_struct rfl 50 (.tmp 7) rfl Kp rfl Tryd.underlying50 (m := 4) (by kernel_rfl) rfl ?_)
    | (go_at_call 50; refine (HU.out _ KB).mono ?_; rintro en W2 ⟨rfl, hB2⟩))
  go_ret2
  exact ⟨rfl, link KB hB2⟩

set_option maxHeartbeats 4000000 in
set_option maxRecDepth 100000 in
theorem crange_yes (R : List Nat) (hR : Dgt R) (low hik : ByteArray) (h : sless hik low = false) (F S : Nat) (lf : List Lf) (b off : Nat) (n c : Nat) (sa : Option Addr) (k sc : Nat) (sd : List (List Nat)) (hd : Dgts sd) (hl : lf.length = n) (hn0 : 0 < n) (hFS : F + n ≤ S) (hS : S ≤ 4096) (hv : validM lf = 0) (hc : n ≤ c) (w : World) (hG : Glob w) (hL : Lvs w b off lf) (hsd : SdV w w.heap.size (.slice sa k sc) sd)
    (hu : underM R F S lf sd = true) :
    Calls Tryd.prog 31 #[.agg (bytesV R).toArray, .string low, .string hik, .agg #[.int .i64 (F : Int), .int .i64 (S : Int), .slice (some ⟨b, off, none⟩) n c, .slice sa k sc]] w
      fun en w' => ∃ v, en = .returned (.tuple #[v, .int .i64 (crangeM R low hik F S lf sd).2]) ∧ LvsV w' v (crangeM R low hik F S lf sd).1 ∧ Below w.heap.size w w' := by
  have hLo : ∀ V, Below w.heap.size w V → OwnL V (some ⟨b, off, none⟩) lf := fun V hB _ => ⟨b, off, rfl, hL.keep hB⟩
  have HU := Lib.hid (fun (w0 : World) (hB : Below w.heap.size w w0) => (hu ▸ under_any R hR F S lf (some ⟨b, off, none⟩) n c sa k sc sd hd hl (by omega) hc w0 (hG.keep hB) (hLo w0 hB) (hsd.self hB) : Calls Tryd.prog 50 #[.agg (bytesV R).toArray, .agg #[.int .i64 (F : Int), .int .i64 (S : Int), .slice (some ⟨b, off, none⟩) n c, .slice sa k sc]] w0 fun en w' => en = .returned (.bool true) ∧ Below w0.heap.size w0 w'))
  obtain ⟨_, _, hord⟩ := valid_zero hv
  have HF := Lib.hid (fun (w0 : World) (hB : Below w.heap.size w w0) => from_any lf (some ⟨b, off, none⟩) n c hl (by omega) hord low w0 (hLo w0 hB))
  have HT := Lib.hid (fun (w0 : World) (hB : Below w.heap.size w w0) => from_any lf (some ⟨b, off, none⟩) n c hl (by omega) hord hik w0 (hLo w0 hB))
  have hvR : (bytesV R).length = 16 := by rw [bytesV_length]; exact hR.1
  have hcm : crangeM R low hik F S lf sd = (if outR low hik F S lf then ([], 17) else ((lf.drop (fromM lf low)).take (fromM lf hik - fromM lf low), 0)) := by
    unfold crangeM
    rw [if_neg (by rw [h]; simp), if_pos hu]
    simp
  have hij := from_mono low hik h lf
  have hjn := fromM_le lf hik
  rw [hl] at hjn
  obtain ⟨p, hp⟩ : ∃ p, n - 1 = p := ⟨_, rfl⟩
  have hout : outR low hik F S lf = ((decide (0 < F) && !Op.bytesLess (kAt lf 0).toList low.toList) || (decide (F + n < S) && Op.bytesLess (kAt lf p).toList hik.toList)) := by unfold outR sless; rw [hl, hp]
  have hx0 : lf[0]? = some (lf[0]'(by omega)) := List.getElem?_eq_getElem (by omega)
  have hx1 : lf[p]? = some (lf[p]'(by omega)) := List.getElem?_eq_getElem (by omega)
  have hc0 : w.cell? ⟨b, off, none⟩ = some (.string (kAt lf 0)) := by
    have := (hL.at hx0).1
    unfold kAt
    rw [hx0]
    simpa using this
  have hc1 : w.cell? ⟨b, off + p * 2, none⟩ = some (.string (kAt lf p)) := by
    unfold kAt
    rw [hx1]
    exact (hL.at hx1).1
  have hbw := hL.1
  have hpl : ∀ i j, j ≤ n → ((lf.drop i).take (j - i)).length = j - i := by intro i j hj; rw [List.length_take, List.length_drop]; omega
  have HC : ∀ i j, i ≤ j → j ≤ n → ∃ o', (if c = i then some (⟨b, off, none⟩ : Addr) else some ⟨b, off + i * 2, none⟩) = some ⟨b, o', none⟩ ∧ ∀ V, Below w.heap.size w V → Calls Tryd.prog 53 #[.slice (some ⟨b, o', none⟩) (j - i) (c - i)] V fun e w' => ∃ g cap, e = .returned (.slice (some ⟨g, 0, none⟩) (j - i) cap) ∧ LvsV w' (.slice (some ⟨g, 0, none⟩) (j - i) cap) ((lf.drop i).take (j - i)) ∧ Below V.heap.size V w' := by
    intro i j hij hjn
    have hpl' := hpl i j hjn
    have fin : ∀ (V : World) (o' : Nat), Lvs V b o' ((lf.drop i).take (j - i)) → Calls Tryd.prog 53 #[.slice (some ⟨b, o', none⟩) (j - i) (c - i)] V fun e w' => ∃ g cap, e = .returned (.slice (some ⟨g, 0, none⟩) (j - i) cap) ∧ LvsV w' (.slice (some ⟨g, 0, none⟩) (j - i) cap) ((lf.drop i).take (j - i)) ∧ Below V.heap.size V w' := by
      intro V o' hLv
      refine (clone_any ((lf.drop i).take (j - i)) b o' (j - i) (c - i) hpl' (by omega) V hLv).mono ?_
      rintro e w' ⟨g, cap, rfl, h1, h2, h3, h4⟩
      exact ⟨g, cap, rfl, ⟨_, _, by rw [hpl'], by rw [hpl']; exact h2, fun _ => ⟨g, 0, rfl, h3⟩⟩, h4⟩
    by_cases hci : c = i
    · refine ⟨off, if_pos hci, fun V hB => fin V off ⟨Nat.lt_of_lt_of_le hbw hB.size, fun t x hx => ?_⟩⟩
      have := (List.getElem?_eq_some_iff.1 hx).1
      omega
    · exact ⟨off + i * 2, if_neg hci, fun V hB => fin V _ (by rw [Nat.mul_comm i 2]; exact ((hL.keep hB).drop i).take (j - i))⟩
  have hwp : IntKind.i64.wrap ((n : Int) - 1) = (p : Int) := by
    rw [show ((n : Int) - 1) = (p : Int) by omega]
    simp [IntKind.wrap, IntKind.signed, IntKind.bits]
    omega
  have hwq : wrap64 ((n : Int) - 1) = (p : Int) := by unfold wrap64; omega
  have hpn : p < n := by omega
  unfold sless at h
  generalize crangeM R low hik F S lf sd = CM at hcm ⊢
  generalize outR low hik F S lf = ou at hcm hout
  generalize kAt lf 0 = k0 at hc0 hout
  generalize kAt lf p = k1 at hc1 hout
  generalize fromM lf low = i at HF hij hcm
  generalize fromM lf hik = j at HT hij hjn hcm
  have hcm2 := Lib.hid hcm
  obtain ⟨o', ho', HC2⟩ := HC i j hij hjn
  have HO := Lib.hid ho'
  have HCl := Lib.hid HC2
  generalize (lf.drop i).take (j - i) = part at HCl hcm2
  have hjc : j ≤ c := by omega
  clear hu hd hl hsd hL hLo hG hord hv hx0 hx1 hp hpl hcm HC HC2 ho'
  go_enter Tryd.func31, Tryd.ntmps31
  go_upto_region 1 with (fail)
  generalize hw1 : World.alloc _ _ = W0
  have Kp : Blk W0 (w.heap.size + 1) 50 [.int .i64 (F : Int), .int .i64 (S : Int), .slice (some ⟨b, off, none⟩) n c, .slice sa k sc] := hw1 ▸ blk_new1 w _ _ _
  have Kr : Blk W0 w.heap.size 29 (bytesV R) := hw1 ▸ ((blk_new w _ _).alloc _)
  have KB : Below w.heap.size w W0 := hw1 ▸ (((Below.refl _ _).alloc (Nat.le_refl _) _).alloc (by simp) _)
  clear hw1
  go_upto_region 5 with (first
    | (refine load_blk rfl 29 (.tmp 4) rfl Kr rfl Tryd.underlying29 (m := 16) (by kernel_rfl) hvR ?_)
    | (refine load_struct rfl 50 (.tmp 7) rfl Kp rfl Tryd.underlying50 (m := 4) (by kernel_rfl) rfl ?_)
    | (go_at_call 50; refine (HU.out _ KB).mono ?_; rintro en W2 ⟨rfl, hB2⟩))
  have Kp2 := Kp.keep hB2
  have KB2 := link KB hB2
  clear Kp Kr KB hB2 HU h
  have c0 := Kp2.cell (j := 0) rfl
  have c1 := Kp2.cell (j := 1) rfl
  have c2 := Kp2.cell (j := 2) rfl
  have cx := (KB2.cell hbw).trans hc0
  have cy := (KB2.cell hbw).trans hc1
  clear hc0 hc1
  rcases ou with _ | _
  · have key : (¬ 0 < F ∨ 0 < F ∧ Op.bytesLess k0.toList low.toList = true) ∧ (¬ F + n < S ∨ F + n < S ∧ Op.bytesLess k1.toList hik.toList = false) := by
      rcases Nat.eq_zero_or_pos F with hf | hf <;> rcases e0 : Op.bytesLess k0.toList low.toList with _ | _ <;> rcases e1 : Op.bytesLess k1.toList hik.toList with _ | _ <;> simp [e0, e1, hf] at hout ⊢ <;> omega
    clear hout
    obtain ⟨key1, key2⟩ := key
    rcases key1 with h1 | ⟨h1, h2⟩ <;> rcases key2 with h3 | ⟨h3, h4⟩
    all_goals
      go_upto_region 8 with (fail)
      have hHeld : True := trivial
      refine wp_region_held_drew (S := fun w' => Below W2.drew.heap.size W2.drew w') (by kernel_rfl) (Below.refl _ _) (fun _ => ?_)
      have hHeld : Below W2.drew.heap.size W2.drew W2.drew := Below.refl _ _
      have C2 : ∀ w', Below W2.drew.heap.size W2.drew w' → w'.cell? ⟨w.heap.size + 1, 2, none⟩ = some (.slice (some ⟨b, off, none⟩) n c) := fun w' h => (h.cell Kp2.lt).trans (Kp2.cell (j := 2) rfl)
      have KB3 := below_drew KB2
      clear c0 c1 c2 cx cy
      generalize W2.drew = V0 at hHeld C2 KB3 ⊢
      refine wt (i := 0) (oi := ⟨some 53, .fieldAddr 50 (.tmp 7) 2, 0, "merkle.go:201", #[], none⟩) (v := .pointer (some ⟨w.heap.size + 1, 2, none⟩)) (Or.inl ⟨by rfl, fun w' hSw => by go_simp⟩) hHeld ?_
      try simp only [zP, zQ, zS, zZ, zC]
      refine wt (i := 1) (oi := ⟨some 54, .load 33 (.tmp 53), 33, "merkle.go:201", #[⟨0, .data⟩], none⟩) (v := .slice (some ⟨b, off, none⟩) n c) (Or.inl ⟨by rfl, fun w' hSw => by have hc := C2 w' hSw; go_simp⟩) hHeld ?_
      try simp only [zP, zQ, zS, zZ, zC]
      refine wt (i := 2) (oi := ⟨some 55, .fieldAddr 50 (.tmp 7) 2, 0, "merkle.go:201", #[], none⟩) (v := .pointer (some ⟨w.heap.size + 1, 2, none⟩)) (Or.inl ⟨by rfl, fun w' hSw => by go_simp⟩) hHeld ?_
      try simp only [zP, zQ, zS, zZ, zC]
      refine wt (i := 3) (oi := ⟨some 56, .load 33 (.tmp 55), 33, "merkle.go:201", #[⟨2, .data⟩], none⟩) (v := .slice (some ⟨b, off, none⟩) n c) (Or.inl ⟨by rfl, fun w' hSw => by have hc := C2 w' hSw; go_simp⟩) hHeld ?_
      try simp only [zP, zQ, zS, zZ, zC]
      refine wt (i := 6) (oi := ⟨some 59, .fieldAddr 50 (.tmp 7) 2, 0, "merkle.go:201", #[], none⟩) (v := .pointer (some ⟨w.heap.size + 1, 2, none⟩)) (Or.inl ⟨by rfl, fun w' hSw => by go_simp⟩) hHeld ?_
      try simp only [zP, zQ, zS, zZ, zC]
      refine wt (i := 7) (oi := ⟨some 60, .load 33 (.tmp 59), 33, "merkle.go:201", #[⟨6, .data⟩], none⟩) (v := .slice (some ⟨b, off, none⟩) n c) (Or.inl ⟨by rfl, fun w' hSw => by have hc := C2 w' hSw; go_simp⟩) hHeld ?_
      try simp only [zP, zQ, zS, zZ, zC]
      refine wt (i := 4) (oi := ⟨some 57, .move (.tmp 1), 9, "merkle.go:201", #[], none⟩) (v := .string low) (Or.inl ⟨by rfl, fun w' hSw => by go_simp⟩) hHeld ?_
      try simp only [zP, zQ, zS, zZ, zC]
      refine wt (i := 8) (oi := ⟨some 61, .move (.tmp 2), 9, "merkle.go:201", #[], none⟩) (v := .string hik) (Or.inl ⟨by rfl, fun w' hSw => by go_simp⟩) hHeld ?_
      try simp only [zP, zQ, zS, zZ, zC]
      refine wpAnyH_ready (rs := [5]) (by kernel_rfl) (by simp) ?_
      refine AllReadyH.cons (o := ⟨some 58, .call { callee := .value (.func 45), args := #[.tmp 56, .tmp 57], argTypes := #[33, 9] }, 3, "merkle.go:201", #[⟨3, .data⟩, ⟨4, .data⟩], none⟩) rfl (fun K hK => ?_) AllReadyH.nil
      rw [if_pos (by rfl)]
      go_simp
      refine (HF.out V0 KB3).mono ?_
      rintro en V1 ⟨rfl, hB1⟩
      dsimp only
      refine hK.out _ _ (hB1) (fun hHeld => ?_)
      clear hK K
      try simp only [zP, zQ, zS, zZ, zC]
      refine wpAnyH_ready (rs := [9]) (by kernel_rfl) (by simp) ?_
      refine AllReadyH.cons (o := ⟨some 62, .call { callee := .value (.func 45), args := #[.tmp 60, .tmp 61], argTypes := #[33, 9] }, 3, "merkle.go:201", #[⟨7, .data⟩, ⟨8, .data⟩, ⟨5, .chain⟩], none⟩) rfl (fun K hK => ?_) AllReadyH.nil
      rw [if_pos (by rfl)]
      go_simp
      refine (HT.out V1 (link KB3 hB1)).mono ?_
      rintro en V2 ⟨rfl, hB2⟩
      dsimp only
      refine hK.out _ _ (link hB1 hB2) (fun hHeld => ?_)
      clear hK K
      try simp only [zP, zQ, zS, zZ, zC]
      refine wt (i := 10) (oi := ⟨some 63, .slice 33 (.tmp 54) (some (.tmp 58)) (some (.tmp 62)) none, 33, "merkle.go:201", #[⟨1, .data⟩, ⟨5, .data⟩, ⟨9, .data⟩], none⟩) (v := .slice (some ⟨b, o', none⟩) (j - i) (c - i)) (Or.inl ⟨by rfl, fun w' hSw => by go_simp; exact HO.out⟩) hHeld ?_
      try simp only [zP, zQ, zS, zZ, zC]
      refine wpAnyH_ready (rs := [11]) (by kernel_rfl) (by simp) ?_
      refine AllReadyH.cons (o := ⟨some 64, .call { callee := .value (.func 53), args := #[.tmp 63], argTypes := #[33] }, 33, "merkle.go:201", #[⟨10, .data⟩, ⟨9, .chain⟩], none⟩) rfl (fun K hK => ?_) AllReadyH.nil
      rw [if_pos (by rfl)]
      go_simp
      refine (HCl.out V2 (link (link KB3 hB1) hB2)).mono ?_
      rintro en V3 ⟨g3, cap3, rfl, hv3, hB3⟩
      dsimp only
      refine hK.out _ _ (link (link hB1 hB2) hB3) (fun hHeld => ?_)
      clear hK K
      try simp only [zP, zQ, zS, zZ, zC]
      refine wpAnyH_ready (rs := [12]) (by kernel_rfl) (by simp) ?_
      refine AllReadyH.cons (o := ⟨some 8, .assign (.tmp 64), 33, "merkle.go:201", #[⟨11, .data⟩, ⟨11, .chain⟩, ⟨0, .phase⟩, ⟨1, .phase⟩, ⟨2, .phase⟩, ⟨3, .phase⟩, ⟨4, .phase⟩, ⟨5, .phase⟩, ⟨6, .phase⟩, ⟨7, .phase⟩, ⟨8, .phase⟩, ⟨9, .phase⟩, ⟨10, .phase⟩, ⟨11, .phase⟩], none⟩) rfl (fun K hK => ?_) AllReadyH.nil
      go_simp
      refine hK.out _ _ (hHeld) (fun hHeld => ?_)
      clear hK K
      try simp only [zP, zQ, zS, zZ, zC]
      refine wpAnyH_ready (rs := [13]) (by kernel_rfl) (by simp) ?_
      refine AllReadyH.cons (o := ⟨some 9, .assign (.const (Value.int IntKind.i64 0)), 30, "merkle.go:201", #[⟨12, .chain⟩, ⟨0, .phase⟩, ⟨1, .phase⟩, ⟨2, .phase⟩, ⟨3, .phase⟩, ⟨4, .phase⟩, ⟨5, .phase⟩, ⟨6, .phase⟩, ⟨7, .phase⟩, ⟨8, .phase⟩, ⟨9, .phase⟩, ⟨10, .phase⟩, ⟨11, .phase⟩, ⟨12, .phase⟩], none⟩) rfl (fun K hK => ?_) AllReadyH.nil
      go_simp
      refine hK.out _ _ (hHeld) (fun hHeld => ?_)
      clear hK K
      try simp only [zP, zQ, zS, zZ, zC]
      refine wpAnyH_done (by kernel_rfl) ?_ _
      clear hHeld
      go_wp2
      go_ret2
      exact ⟨_, by rw [hcm2.out]; rfl, by rw [hcm2.out]; exact hv3, link (link (link KB3 hB1) hB2) hB3⟩
  · have key : (0 < F ∧ Op.bytesLess k0.toList low.toList = false) ∨ (¬ 0 < F ∧ F + n < S ∧ Op.bytesLess k1.toList hik.toList = true) ∨ (0 < F ∧ Op.bytesLess k0.toList low.toList = true ∧ F + n < S ∧ Op.bytesLess k1.toList hik.toList = true) := by
      rcases Nat.eq_zero_or_pos F with hf | hf <;> rcases e0 : Op.bytesLess k0.toList low.toList with _ | _ <;> rcases e1 : Op.bytesLess k1.toList hik.toList with _ | _ <;> simp [e0, e1, hf] at hout ⊢ <;> omega
    clear hout
    rcases key with ⟨h1, h2⟩ | ⟨h1, h2, h3⟩ | ⟨h1, h2, h3, h4⟩
    all_goals
      go_wp2
      go_ret2
      exact ⟨_, by rw [hcm2.out]; rfl, by rw [hcm2.out]; exact LvsV.nil _, KB2⟩

set_option maxHeartbeats 4000000 in
set_option maxRecDepth 100000 in
theorem crange_zero (R : List Nat) (hR : Dgt R) (low hik : ByteArray) (h : sless hik low = false) (sa : Option Addr) (k sc : Nat) (sd : List (List Nat)) (hd : Dgts sd) (w : World) (hG : Glob w) (hsd : SdV w w.heap.size (.slice sa k sc) sd)
    (hu : underM R 0 0 [] sd = true) :
    Calls Tryd.prog 31 #[.agg (bytesV R).toArray, .string low, .string hik, .agg #[.int .i64 0, .int .i64 0, .slice none 0 0, .slice sa k sc]] w
      fun en w' => en = .returned (.tuple #[.slice none 0 0, .int .i64 0]) ∧ Below w.heap.size w w' := by
  have HU := Lib.hid (fun (w0 : World) (hB : Below w.heap.size w w0) => (hu ▸ under_any R hR 0 0 [] none 0 0 sa k sc sd hd rfl (by omega) (by omega) w0 (hG.keep hB) (fun h => absurd rfl h) (hsd.self hB) : Calls Tryd.prog 50 #[.agg (bytesV R).toArray, .agg #[.int .i64 0, .int .i64 0, .slice none 0 0, .slice sa k sc]] w0 fun en w' => en = .returned (.bool true) ∧ Below w0.heap.size w0 w'))
  have HF := Lib.hid (fun (w0 : World) => (show _ from from_any [] none 0 0 rfl (by omega) rfl low w0 (fun h => absurd rfl h) : Calls Tryd.prog 45 #[.slice none 0 0, .string low] w0 fun e w' => e = .returned (.int .i64 0) ∧ Below w0.heap.size w0 w'))
  have HT := Lib.hid (fun (w0 : World) => (show _ from from_any [] none 0 0 rfl (by omega) rfl hik w0 (fun h => absurd rfl h) : Calls Tryd.prog 45 #[.slice none 0 0, .string hik] w0 fun e w' => e = .returned (.int .i64 0) ∧ Below w0.heap.size w0 w'))
  have HN := Lib.hid (fun (w0 : World) => clone_nil 0 0 w0)
  have hvR : (bytesV R).length = 16 := by rw [bytesV_length]; exact hR.1
  unfold sless at h
  clear hu hd hsd hG
  go_enter Tryd.func31, Tryd.ntmps31
  go_upto_region 1 with (fail)
  generalize hw1 : World.alloc _ _ = W0
  have Kp : Blk W0 (w.heap.size + 1) 50 [.int .i64 0, .int .i64 0, .slice none 0 0, .slice sa k sc] := hw1 ▸ blk_new1 w _ _ _
  have Kr : Blk W0 w.heap.size 29 (bytesV R) := hw1 ▸ ((blk_new w _ _).alloc _)
  have KB : Below w.heap.size w W0 := hw1 ▸ (((Below.refl _ _).alloc (Nat.le_refl _) _).alloc (by simp) _)
  clear hw1
  go_upto_region 5 with (first
    | (refine load_blk rfl 29 (.tmp 4) rfl Kr rfl Tryd.underlying29 (m := 16) (by kernel_rfl) hvR ?_)
    | (refine load_struct rfl 50 (.tmp 7) rfl Kp rfl Tryd.underlying50 (m := 4) (by kernel_rfl) rfl ?_)
    | (go_at_call 50; refine (HU.out _ KB).mono ?_; rintro en W2 ⟨rfl, hB2⟩))
  have Kp2 := Kp.keep hB2
  have KB2 := link KB hB2
  clear Kp Kr KB hB2 HU h
  have c0 := Kp2.cell (j := 0) rfl
  have c1 := Kp2.cell (j := 1) rfl
  have c2 := Kp2.cell (j := 2) rfl
  go_upto_region 8 with (fail)
  have hHeld : True := trivial
  refine wp_region_held_drew (S := fun w' => Below W2.drew.heap.size W2.drew w') (by kernel_rfl) (Below.refl _ _) (fun _ => ?_)
  have hHeld : Below W2.drew.heap.size W2.drew W2.drew := Below.refl _ _
  have C2 : ∀ w', Below W2.drew.heap.size W2.drew w' → w'.cell? ⟨w.heap.size + 1, 2, none⟩ = some (.slice none 0 0) := fun w' h => (h.cell Kp2.lt).trans (Kp2.cell (j := 2) rfl)
  have KB3 := below_drew KB2
  clear c0 c1 c2
  generalize W2.drew = V0 at hHeld C2 KB3 ⊢
  refine wt (i := 0) (oi := ⟨some 53, .fieldAddr 50 (.tmp 7) 2, 0, "merkle.go:201", #[], none⟩) (v := .pointer (some ⟨w.heap.size + 1, 2, none⟩)) (Or.inl ⟨by rfl, fun w' hSw => by go_simp⟩) hHeld ?_
  try simp only [zP, zQ, zS, zZ, zC]
  refine wt (i := 1) (oi := ⟨some 54, .load 33 (.tmp 53), 33, "merkle.go:201", #[⟨0, .data⟩], none⟩) (v := .slice none 0 0) (Or.inl ⟨by rfl, fun w' hSw => by have hc := C2 w' hSw; go_simp⟩) hHeld ?_
  try simp only [zP, zQ, zS, zZ, zC]
  refine wt (i := 2) (oi := ⟨some 55, .fieldAddr 50 (.tmp 7) 2, 0, "merkle.go:201", #[], none⟩) (v := .pointer (some ⟨w.heap.size + 1, 2, none⟩)) (Or.inl ⟨by rfl, fun w' hSw => by go_simp⟩) hHeld ?_
  try simp only [zP, zQ, zS, zZ, zC]
  refine wt (i := 3) (oi := ⟨some 56, .load 33 (.tmp 55), 33, "merkle.go:201", #[⟨2, .data⟩], none⟩) (v := .slice none 0 0) (Or.inl ⟨by rfl, fun w' hSw => by have hc := C2 w' hSw; go_simp⟩) hHeld ?_
  try simp only [zP, zQ, zS, zZ, zC]
  refine wt (i := 6) (oi := ⟨some 59, .fieldAddr 50 (.tmp 7) 2, 0, "merkle.go:201", #[], none⟩) (v := .pointer (some ⟨w.heap.size + 1, 2, none⟩)) (Or.inl ⟨by rfl, fun w' hSw => by go_simp⟩) hHeld ?_
  try simp only [zP, zQ, zS, zZ, zC]
  refine wt (i := 7) (oi := ⟨some 60, .load 33 (.tmp 59), 33, "merkle.go:201", #[⟨6, .data⟩], none⟩) (v := .slice none 0 0) (Or.inl ⟨by rfl, fun w' hSw => by have hc := C2 w' hSw; go_simp⟩) hHeld ?_
  try simp only [zP, zQ, zS, zZ, zC]
  refine wt (i := 4) (oi := ⟨some 57, .move (.tmp 1), 9, "merkle.go:201", #[], none⟩) (v := .string low) (Or.inl ⟨by rfl, fun w' hSw => by go_simp⟩) hHeld ?_
  try simp only [zP, zQ, zS, zZ, zC]
  refine wt (i := 8) (oi := ⟨some 61, .move (.tmp 2), 9, "merkle.go:201", #[], none⟩) (v := .string hik) (Or.inl ⟨by rfl, fun w' hSw => by go_simp⟩) hHeld ?_
  try simp only [zP, zQ, zS, zZ, zC]
  refine wpAnyH_ready (rs := [5]) (by kernel_rfl) (by simp) ?_
  refine AllReadyH.cons (o := ⟨some 58, .call { callee := .value (.func 45), args := #[.tmp 56, .tmp 57], argTypes := #[33, 9] }, 3, "merkle.go:201", #[⟨3, .data⟩, ⟨4, .data⟩], none⟩) rfl (fun K hK => ?_) AllReadyH.nil
  rw [if_pos (by rfl)]
  go_simp
  refine (HF.out V0).mono ?_
  rintro en V1 ⟨rfl, hB1⟩
  dsimp only
  refine hK.out _ _ (hB1) (fun hHeld => ?_)
  clear hK K
  try simp only [zP, zQ, zS, zZ, zC]
  refine wpAnyH_ready (rs := [9]) (by kernel_rfl) (by simp) ?_
  refine AllReadyH.cons (o := ⟨some 62, .call { callee := .value (.func 45), args := #[.tmp 60, .tmp 61], argTypes := #[33, 9] }, 3, "merkle.go:201", #[⟨7, .data⟩, ⟨8, .data⟩, ⟨5, .chain⟩], none⟩) rfl (fun K hK => ?_) AllReadyH.nil
  rw [if_pos (by rfl)]
  go_simp
  refine (HT.out V1).mono ?_
  rintro en V2 ⟨rfl, hB2⟩
  dsimp only
  refine hK.out _ _ (link hB1 hB2) (fun hHeld => ?_)
  clear hK K
  try simp only [zP, zQ, zS, zZ, zC]
  refine wt (i := 10) (oi := ⟨some 63, .slice 33 (.tmp 54) (some (.tmp 58)) (some (.tmp 62)) none, 33, "merkle.go:201", #[⟨1, .data⟩, ⟨5, .data⟩, ⟨9, .data⟩], none⟩) (v := .slice none 0 0) (Or.inl ⟨by rfl, fun w' hSw => by go_simp⟩) hHeld ?_
  try simp only [zP, zQ, zS, zZ, zC]
  refine wpAnyH_ready (rs := [11]) (by kernel_rfl) (by simp) ?_
  refine AllReadyH.cons (o := ⟨some 64, .call { callee := .value (.func 53), args := #[.tmp 63], argTypes := #[33] }, 33, "merkle.go:201", #[⟨10, .data⟩, ⟨9, .chain⟩], none⟩) rfl (fun K hK => ?_) AllReadyH.nil
  rw [if_pos (by rfl)]
  go_simp
  refine (HN.out V2).mono ?_
  rintro en V3 ⟨rfl, hV3⟩
  rw [hV3]
  clear hV3 V3
  dsimp only
  refine hK.out _ _ (link hB1 hB2) (fun hHeld => ?_)
  clear hK K
  try simp only [zP, zQ, zS, zZ, zC]
  refine wpAnyH_ready (rs := [12]) (by kernel_rfl) (by simp) ?_
  refine AllReadyH.cons (o := ⟨some 8, .assign (.tmp 64), 33, "merkle.go:201", #[⟨11, .data⟩, ⟨11, .chain⟩, ⟨0, .phase⟩, ⟨1, .phase⟩, ⟨2, .phase⟩, ⟨3, .phase⟩, ⟨4, .phase⟩, ⟨5, .phase⟩, ⟨6, .phase⟩, ⟨7, .phase⟩, ⟨8, .phase⟩, ⟨9, .phase⟩, ⟨10, .phase⟩, ⟨11, .phase⟩], none⟩) rfl (fun K hK => ?_) AllReadyH.nil
  go_simp
  refine hK.out _ _ (hHeld) (fun hHeld => ?_)
  clear hK K
  try simp only [zP, zQ, zS, zZ, zC]
  refine wpAnyH_ready (rs := [13]) (by kernel_rfl) (by simp) ?_
  refine AllReadyH.cons (o := ⟨some 9, .assign (.const (Value.int IntKind.i64 0)), 30, "merkle.go:201", #[⟨12, .chain⟩, ⟨0, .phase⟩, ⟨1, .phase⟩, ⟨2, .phase⟩, ⟨3, .phase⟩, ⟨4, .phase⟩, ⟨5, .phase⟩, ⟨6, .phase⟩, ⟨7, .phase⟩, ⟨8, .phase⟩, ⟨9, .phase⟩, ⟨10, .phase⟩, ⟨11, .phase⟩, ⟨12, .phase⟩], none⟩) rfl (fun K hK => ?_) AllReadyH.nil
  go_simp
  refine hK.out _ _ (hHeld) (fun hHeld => ?_)
  clear hK K
  try simp only [zP, zQ, zS, zZ, zC]
  refine wpAnyH_done (by kernel_rfl) ?_ _
  clear hHeld
  go_wp2
  go_ret2
  exact ⟨rfl, link (link KB3 hB1) hB2⟩

theorem crange_any (R : List Nat) (hR : Dgt R) (low hik : ByteArray) (F S : Int) (lf : List Lf) (q : Option Addr) (n c : Nat) (hq : n = 0 → q = none ∧ c = 0) (sa : Option Addr) (k sc : Nat) (sd : List (List Nat)) (hd : Dgts sd) (hl : lf.length = n) (hn : n ≤ 281474976710656) (hc : n ≤ c) (w : World) (hG : Glob w) (hL : OwnL w q lf) (hsd : SdV w w.heap.size (.slice sa k sc) sd) :
    Calls Tryd.prog 31 #[.agg (bytesV R).toArray, .string low, .string hik, .agg #[.int .i64 F, .int .i64 S, .slice q n c, .slice sa k sc]] w
      fun en w' => ∃ v, en = .returned (.tuple #[v, .int .i64 (crangeM R low hik F S lf sd).2]) ∧ LvsV w' v (crangeM R low hik F S lf sd).1 ∧ Below w.heap.size w w' := by
  rcases h : sless hik low with _ | _
  · rcases hu : underM R F S lf sd with _ | _
    · have e : crangeM R low hik F S lf sd = ([], 17) := by unfold crangeM; rw [if_neg (by rw [h]; simp), if_neg (by rw [hu]; simp)]
      rw [e]
      refine (crange_no R hR low hik h F S lf q n c sa k sc sd hd hl hn hc w hG hL hsd hu).mono ?_
      rintro en w' ⟨rfl, hB⟩
      exact ⟨_, rfl, LvsV.nil _, hB⟩
    · obtain ⟨F', S', rfl, rfl, h1, h2, h3⟩ := under_facts hu
      by_cases hn0 : n = 0
      · obtain ⟨rfl, rfl⟩ := hq hn0
        subst hn0
        obtain rfl := List.eq_nil_of_length_eq_zero hl
        have hS0 : S' = 0 := by
          apply Classical.byContradiction
          intro hS
          unfold underM at hu
          split at hu
          · cases hu
          · rw [if_neg (by omega), if_pos rfl] at hu
            cases hu
        subst hS0
        obtain rfl : F' = 0 := by simp at h1; omega
        have e : crangeM R low hik ((0 : Nat) : Int) ((0 : Nat) : Int) [] sd = ([], 0) := by
          unfold crangeM
          rw [if_neg (by rw [h]; simp), if_pos hu, if_neg (by simp [outR])]
          simp
        rw [e]
        refine (crange_zero R hR low hik h sa k sc sd hd w hG hsd hu).mono ?_
        rintro en w' ⟨rfl, hB⟩
        exact ⟨_, rfl, LvsV.nil _, hB⟩
      · obtain ⟨b, off, rfl, hL2⟩ := hL (by intro h; rw [h] at hl; simp at hl; omega)
        exact crange_yes R hR low hik h F' S' lf b off n c sa k sc sd hd hl (by omega) (by omega) h2 h3 hc w hG hL2 hsd hu
  · have e : crangeM R low hik F S lf sd = ([], 5) := by unfold crangeM; rw [if_pos h]
    rw [e]
    refine (crange_bad R low hik h F S q n c sa k sc w).mono ?_
    rintro en w' ⟨rfl, hB⟩
    exact ⟨_, rfl, LvsV.nil _, hB⟩

end Go.Proofs.YtfhfmdnimebegaaDoor

/-
  passimlaw04.five and passimlaw04.lives: the examples of the section.
-/
namespace Go.Proofs.YtfhfmdnimebegaaDoor
open Go.RowKit
set_option linter.unusedVariables false
set_option linter.unusedSimpArgs false

/-- The leaves of the examples. -/
def ls5 : List Lf := [(⟨#[97]⟩, ⟨#[49]⟩), (⟨#[99]⟩, ⟨#[50]⟩), (⟨#[100]⟩, ⟨#[51]⟩), (⟨#[102]⟩, ⟨#[52]⟩), (⟨#[103]⟩, ⟨#[53]⟩)]
theorem five_valid : validM ls5 = 0 := by decide +kernel
theorem five_any (w : World) : Calls Tryd.prog 44 #[] w fun e w' => ∃ g, e = .returned (.slice (some ⟨g, 0, none⟩) 5 5) ∧ Lvs w' g 0 ls5 ∧ Below w.heap.size w w' := by
  go_enter Tryd.func44, Tryd.ntmps44
  go_wp2
  go_ret
  refine ⟨_, rfl, ⟨by simp, fun i x hx => ?_⟩, (Below.refl _ _).alloc (Nat.le_refl _) _⟩
  match i, hx with
  | 0, hx => injection hx with hx; subst hx; constructor <;> simp
  | 1, hx => injection hx with hx; subst hx; constructor <;> simp
  | 2, hx => injection hx with hx; subst hx; constructor <;> simp
  | 3, hx => injection hx with hx; subst hx; constructor <;> simp
  | 4, hx => injection hx with hx; subst hx; constructor <;> simp

theorem OwnD.sdv {w : World} {B : Nat} {v : Value} {l : List (List Nat)} (h : OwnD w B v l) : ∃ sa sc, v = .slice sa l.length sc ∧ SdV w w.heap.size v l := by
  rcases h.2 with ⟨rfl, h0⟩ | ⟨g, cap, cur, rfl, hB, hg, hc, _, _, ht⟩
  · exact ⟨none, 0, by rw [h0], none, 0, by rw [h0], by omega, fun hn => absurd (List.eq_nil_of_length_eq_zero h0) hn⟩
  · have hlt : g < w.heap.size := (Array.getElem?_eq_some_iff.1 hg).1
    refine ⟨some ⟨g, 0, none⟩, cap, rfl, some ⟨g, 0, none⟩, cap, rfl, hc, fun _ => ⟨g, 0, rfl, hlt, hlt, fun j u hj => ?_⟩⟩
    rw [← ht, List.getElem?_take] at hj
    split at hj
    · rw [Nat.zero_add]
      exact Blk.cell (w := w) (b := g) (t := 29) (cs := cur.toList) hg hj
    · cases hj
/-- A proof's value with its memory. -/
def PV (w : World) (F n : Nat) (lf : List Lf) (sd : List (List Nat)) (q : Option Addr) (c : Nat) (sa : Option Addr) (sc : Nat) : Prop := OwnL w q lf ∧ lf.length ≤ c ∧ SdV w w.heap.size (.slice sa sd.length sc) sd
theorem PV.keep {w w' : World} {F n : Nat} {lf : List Lf} {sd : List (List Nat)} {q : Option Addr} {c : Nat} {sa : Option Addr} {sc : Nat} (h : PV w F n lf sd q c sa sc) (hB : Below w.heap.size w w') : PV w' F n lf sd q c sa sc := ⟨h.1.keep hB, h.2.1, h.2.2.self hB⟩
theorem PrfV.pv {w : World} {B F n : Nat} {lf : List Lf} {sd : List (List Nat)} {v : Value} (h : PrfV w B F n lf sd v) : ∃ q c sa sc, v = .agg #[.int .i64 (F : Int), .int .i64 (n : Int), .slice q lf.length c, .slice sa sd.length sc] ∧ PV w F n lf sd q c sa sc ∧ (lf = [] → q = none ∧ c = 0) := by
  obtain ⟨q, c, sv, rfl, h1, h2, _, hz, h4⟩ := h
  obtain ⟨sa, sc, rfl, h5⟩ := h4.sdv
  exact ⟨q, c, sa, sc, rfl, ⟨h1, h2, h5⟩, hz⟩
theorem new_struct (W : World) (z : Array Value) (t : TypeId) (cs : List Value) (hl : cs.length = z.size) : Below W.heap.size W ((W.alloc (.cells z t)).setCells W.heap.size 0 cs) ∧ Blk ((W.alloc (.cells z t)).setCells W.heap.size 0 cs) W.heap.size t cs :=
  ⟨(only_sets W.heap.size 0 _ cs).2.2 _ _ (Nat.le_refl _) ((Below.refl _ W).alloc (Nat.le_refl _) _), (blk_new W t z).all (by simpa using hl)⟩
theorem five_root : validM ls5 = 0 ∧ Dgt (rootL ls5) := ⟨five_valid, rootL_dgt _⟩

/-- The proofs of the examples. -/
def pC : List Lf := [(⟨#[99]⟩, ⟨#[50]⟩)]
def pX : List Lf := [(⟨#[100]⟩, ⟨#[51]⟩), (⟨#[102]⟩, ⟨#[52]⟩)]
def pH : List Lf := [(⟨#[103]⟩, ⟨#[53]⟩)]
def pR : List Lf := [(⟨#[97]⟩, ⟨#[49]⟩), (⟨#[99]⟩, ⟨#[50]⟩), (⟨#[100]⟩, ⟨#[51]⟩), (⟨#[102]⟩, ⟨#[52]⟩)]
def dC : List (List Nat) := sidesM ls5 1 2 0 5
def dX : List (List Nat) := sidesM ls5 2 4 0 5
def dH : List (List Nat) := sidesM ls5 4 5 0 5
def dR : List (List Nat) := sidesM ls5 0 4 0 5
theorem dC_len : dC.length = 3 := by decide +kernel
theorem dX_len : dX.length = 2 := by decide +kernel
theorem dH_len : dH.length = 1 := by decide +kernel
theorem dR_len : dR.length = 1 := by decide +kernel
theorem sides_dgts (ls : List Lf) (F e a b : Nat) (h : a < b) (hb : b ≤ ls.length) : Dgts (sidesM ls F e a b) := sidesF_dgt _ ls F e a b h hb
theorem uC : underM (rootL ls5) (1 : Int) (5 : Int) pC dC = true := under_of ls5 five_valid 1 2 (by decide) (by decide)
theorem uX : underM (rootL ls5) (2 : Int) (5 : Int) pX dX = true := under_of ls5 five_valid 2 4 (by decide) (by decide)
theorem uR : underM (rootL ls5) (0 : Int) (5 : Int) pR dR = true := under_of ls5 five_valid 0 4 (by decide) (by decide)
theorem kC : checkM (rootL ls5) ⟨#[99]⟩ 1 5 pC dC = (⟨#[50]⟩, true, 0) := by
  unfold checkM
  rw [if_pos uC]
  decide +kernel
theorem kE : checkM (rootL ls5) ⟨#[101]⟩ 2 5 pX dX = (ByteArray.empty, false, 0) := by
  unfold checkM
  rw [if_pos uX]
  decide +kernel
theorem kD : checkM (rootL ls5) ⟨#[100]⟩ 2 5 pX dX = (⟨#[51]⟩, true, 0) := by
  unfold checkM
  rw [if_pos uX]
  decide +kernel
theorem kN : checkM (rootL ls5) ⟨#[99]⟩ 2 5 pX dX = (ByteArray.empty, false, 17) := by
  unfold checkM
  rw [if_pos uX]
  decide +kernel
theorem kR : crangeM (rootL ls5) ⟨#[99]⟩ ⟨#[102]⟩ 0 5 pR dR = ([(⟨#[99]⟩, ⟨#[50]⟩), (⟨#[100]⟩, ⟨#[51]⟩)], 0) := by
  unfold crangeM
  rw [if_neg (by decide +kernel), if_pos uR]
  decide +kernel
theorem ex_prove (key : ByteArray) (F e : Nat) (part : List Lf) (sd : List (List Nat)) (m k : Nat) (hp : proveR ls5 key = (F, e)) (h1 : (ls5.drop F).take (e - F) = part) (h2 : sidesM ls5 F e 0 5 = sd) (hm : part.length = m) (hk : sd.length = k) (b : Nat) (w : World) (hG : Glob w) (hL : Lvs w b 0 ls5) :
    Calls Tryd.prog 21 #[.slice (some ⟨b, 0, none⟩) 5 5, .string key] w fun en w' => ∃ q c sa sc, en = .returned (.tuple #[.agg #[.int .i64 (F : Int), .int .i64 5, .slice q m c, .slice sa k sc], .int .i64 0]) ∧ PV w' F 5 part sd q c sa sc ∧ Below w.heap.size w w' := by
  have := prove_yes ls5 (some ⟨b, 0, none⟩) 5 5 rfl (by omega) (by omega) five_valid key w hG (fun _ => ⟨b, 0, rfl, hL⟩)
  rw [hp] at this
  dsimp only at this
  rw [h1, h2] at this
  refine this.mono ?_
  rintro en w' ⟨v, rfl, hP, hB⟩
  obtain ⟨q, c, sa, sc, rfl, hp, _⟩ := hP.pv
  exact ⟨q, c, sa, sc, by rw [hm, hk]; rfl, hp, hB⟩
theorem ex_range (b : Nat) (w : World) (hG : Glob w) (hL : Lvs w b 0 ls5) :
    Calls Tryd.prog 23 #[.slice (some ⟨b, 0, none⟩) 5 5, .string ⟨#[99]⟩, .string ⟨#[102]⟩] w fun en w' => ∃ q c sa sc, en = .returned (.tuple #[.agg #[.int .i64 0, .int .i64 5, .slice q 4 c, .slice sa 1 sc], .int .i64 0]) ∧ PV w' 0 5 pR dR q c sa sc ∧ Below w.heap.size w w' := by
  have := range_yes ls5 (some ⟨b, 0, none⟩) 5 5 rfl (by omega) (by omega) five_valid ⟨#[99]⟩ ⟨#[102]⟩ (by decide +kernel) w hG (fun _ => ⟨b, 0, rfl, hL⟩)
  rw [show rangeR ls5 ⟨#[99]⟩ ⟨#[102]⟩ = (0, 4) by decide +kernel] at this
  dsimp only at this
  rw [show (ls5.drop 0).take (4 - 0) = pR from rfl, show sidesM ls5 0 4 0 5 = dR from rfl] at this
  refine this.mono ?_
  rintro en w' ⟨v, rfl, hP, hB⟩
  obtain ⟨q, c, sa, sc, rfl, hp, _⟩ := hP.pv
  exact ⟨q, c, sa, sc, by rw [dR_len]; rfl, hp, hB⟩
theorem ex_check (key : ByteArray) (F : Nat) (part : List Lf) (sd : List (List Nat)) (m k : Nat) (a : ByteArray × Bool × Int) (hk : checkM (rootL ls5) key F 5 part sd = a) (hd : Dgts sd) (hm : part.length = m) (hkl : sd.length = k) (hm5 : m ≤ 5) (q : Option Addr) (c : Nat) (sa : Option Addr) (sc : Nat) (w : World) (hG : Glob w) (hP : PV w F 5 part sd q c sa sc) :
    Calls Tryd.prog 28 #[.agg (bytesV (rootL ls5)).toArray, .string key, .agg #[.int .i64 (F : Int), .int .i64 5, .slice q m c, .slice sa k sc]] w fun en w' => en = .returned (.tuple #[.string a.1, .bool a.2.1, .int .i64 a.2.2]) ∧ Below w.heap.size w w' := by
  rw [← hk]
  exact check_any (rootL ls5) (rootL_dgt _) key F 5 part q m c sa k sc sd hd hm (by omega) (by rw [← hm]; exact hP.2.1) w hG hP.1 (hkl ▸ hP.2.2)
theorem ex_crange (q : Option Addr) (c : Nat) (sa : Option Addr) (sc : Nat) (w : World) (hG : Glob w) (hP : PV w 0 5 pR dR q c sa sc) :
    Calls Tryd.prog 31 #[.agg (bytesV (rootL ls5)).toArray, .string ⟨#[99]⟩, .string ⟨#[102]⟩, .agg #[.int .i64 0, .int .i64 5, .slice q 4 c, .slice sa 1 sc]] w
      fun en w' => ∃ b off cc, en = .returned (.tuple #[.slice (some ⟨b, off, none⟩) 2 cc, .int .i64 0]) ∧ 2 ≤ cc ∧ w'.cell? ⟨b, off, none⟩ = some (.string ⟨#[99]⟩) ∧ w'.cell? ⟨b, off + 2 + 1, none⟩ = some (.string ⟨#[51]⟩) ∧ Below w.heap.size w w' := by
  have := crange_any (rootL ls5) (rootL_dgt _) ⟨#[99]⟩ ⟨#[102]⟩ 0 5 pR q 4 c (by omega) sa 1 sc dR (sides_dgts ls5 0 4 0 5 (by omega) (by decide)) rfl (by omega) (by have := hP.2.1; exact this) w hG hP.1 (dR_len ▸ hP.2.2)
  rw [kR] at this
  refine this.mono ?_
  rintro en w' ⟨v, rfl, ⟨q2, c2, rfl, hc2, hL⟩, hB⟩
  obtain ⟨b, off, rfl, hL2⟩ := hL (by simp)
  exact ⟨b, off, c2, rfl, hc2, (hL2.2 0 _ rfl).1, (by have := (hL2.2 1 _ rfl).2; simpa using this), hB⟩

end Go.Proofs.YtfhfmdnimebegaaDoor
