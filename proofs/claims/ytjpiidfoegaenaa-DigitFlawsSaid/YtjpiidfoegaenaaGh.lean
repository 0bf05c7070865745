/-
  DigitFlaws, walked.
-/
import Derived.Test.YtjpiidfoegaenaaGi
import Derived.Test.YtjpiidfoegaenaaEj
import Derived.Deep.CutRange
namespace Go.Proofs.Ytjpiidfoegaenaa
open Go Go.RowKit
set_option linter.unusedVariables false
set_option linter.unusedSimpArgs false

def CoRel (g : Nat) (w : World) (a b : Value) (V : World) : Prop := ∃ p q : Nat, a = .int .i64 (p : Int) ∧ b = .int .i64 (q : Int) ∧ Nat.gcd p q = g ∧ p ≤ 1000000 ∧ q ≤ 1000000 ∧ w = V
set_option maxHeartbeats 2000000 in
set_option maxRecDepth 100000 in
theorem common_any (x : Int) (hx1 : -1000000 ≤ x) (hx2 : x ≤ 1000000) (m : Nat) (hm : m ≤ 1000000) (w : World) :
    Calls Try.prog 20 #[.int .i64 x, .int .i64 (m : Int)] w (fun e w' => e = .returned (.bool (comB x (m : Int))) ∧ w = w') := by
  obtain ⟨p, hp⟩ : ∃ p, x.natAbs = p := ⟨_, rfl⟩
  obtain ⟨g, hg⟩ : ∃ g, Nat.gcd p m = g := ⟨_, rfl⟩
  have HC : comB x (m : Int) = decide (g ≠ 1) := by unfold comB; rw [Int.natAbs_natCast, hp]; exact decide_eq_decide.2 (by rw [hg])
  rw [HC]
  clear HC
  rcases Int.lt_or_le x 0 with hneg | hpos
  · obtain rfl : x = -(p : Int) := by omega
    have hw : IntKind.i64.wrap (-(-(p : Int))) = (p : Int) := by rw [Int.neg_neg]; exact wrap_in (by omega) (by omega)
    have hw2 : IntKind.i64.wrap (p : Int) = (p : Int) := wrap_in (by omega) (by omega)
    clear hp
    go_enter Try.func20, Try.ntmps20
    go_wp2
    go_loopw [0, 1] (fun a b V => CoRel g w a b V) (fun a _ _ => (intOf a).toNat)
    case atStart => exact ⟨p, m, rfl, rfl, hg, by omega, by omega, rfl⟩
    case round =>
    obtain ⟨a, b, rfl, rfl, hg2, ha, hb, rfl⟩ := hrel
    by_cases h0 : a = 0
    · have h0z : (a : Int) = 0 := by omega
      subst h0
      rw [Nat.gcd_zero_left] at hg2
      subst hg2
      by_cases h1 : b = 1
      · have h1z : (b : Int) = 1 := by omega
        have HB : Hid (decide (b ≠ 1) = false) := Lib.hid (by simp [h1])
        have hq : ((b : Int) != 1) = false := by simp [h1]
        clear h1
        go_wp2
        go_ret
        exact ⟨by rw [HB.out]; first | done | rfl, rfl⟩
      · have h1z : ¬ (b : Int) = 1 := by omega
        have HB : Hid (decide (b ≠ 1) = true) := Lib.hid (by simp [h1])
        have hq : ((b : Int) != 1) = true := by simp; omega
        clear h1
        go_wp2
        go_ret
        exact ⟨by rw [HB.out]; first | done | rfl, rfl⟩
    · have h0z : ¬ (a : Int) = 0 := by omega
      obtain ⟨r, hr⟩ : ∃ r, b % a = r := ⟨_, rfl⟩
      have hlt : r < a := by rw [← hr]; exact Nat.mod_lt _ (by omega)
      have hrz : (b : Int).tmod (a : Int) = (r : Int) := by rw [Int.tmod_eq_emod_of_nonneg (by omega), ← hr]; rfl
      have HG : Hid (Nat.gcd r a = g) := Lib.hid (by rw [← hr, ← Nat.gcd_rec]; exact hg2)
      clear hg2 hr h0
      go_wp2
      exact ⟨⟨r, a, rfl, rfl, HG.out, by omega, by omega, rfl⟩, by simp [intOf]; omega⟩
  · obtain rfl : x = (p : Int) := by omega
    have hneg : ¬ (p : Int) < 0 := by omega
    clear hp
    go_enter Try.func20, Try.ntmps20
    go_wp2
    go_loopw [0, 1] (fun a b V => CoRel g w a b V) (fun a _ _ => (intOf a).toNat)
    case atStart => exact ⟨p, m, rfl, rfl, hg, by omega, by omega, rfl⟩
    case round =>
    obtain ⟨a, b, rfl, rfl, hg2, ha, hb, rfl⟩ := hrel
    by_cases h0 : a = 0
    · have h0z : (a : Int) = 0 := by omega
      subst h0
      rw [Nat.gcd_zero_left] at hg2
      subst hg2
      by_cases h1 : b = 1
      · have h1z : (b : Int) = 1 := by omega
        have HB : Hid (decide (b ≠ 1) = false) := Lib.hid (by simp [h1])
        have hq : ((b : Int) != 1) = false := by simp [h1]
        clear h1
        go_wp2
        go_ret
        exact ⟨by rw [HB.out]; first | done | rfl, rfl⟩
      · have h1z : ¬ (b : Int) = 1 := by omega
        have HB : Hid (decide (b ≠ 1) = true) := Lib.hid (by simp [h1])
        have hq : ((b : Int) != 1) = true := by simp; omega
        clear h1
        go_wp2
        go_ret
        exact ⟨by rw [HB.out]; first | done | rfl, rfl⟩
    · have h0z : ¬ (a : Int) = 0 := by omega
      obtain ⟨r, hr⟩ : ∃ r, b % a = r := ⟨_, rfl⟩
      have hlt : r < a := by rw [← hr]; exact Nat.mod_lt _ (by omega)
      have hrz : (b : Int).tmod (a : Int) = (r : Int) := by rw [Int.tmod_eq_emod_of_nonneg (by omega), ← hr]; rfl
      have HG : Hid (Nat.gcd r a = g) := Lib.hid (by rw [← hr, ← Nat.gcd_rec]; exact hg2)
      clear hg2 hr h0
      go_wp2
      exact ⟨⟨r, a, rfl, rfl, HG.out, by omega, by omega, rfl⟩, by simp [intOf]; omega⟩
def IsRel (W : List Int) (m n : Nat) (w : World) (v i : Value) (V : World) : Prop := ∃ (k : Nat) (b : Bool), k ≤ n ∧ i = .int .i64 (k : Int) ∧ v = .bool b ∧ isF W (m : Int) k = b ∧ Below w.heap.size w V
def FaRel (m n : Nat) (w : World) (v i : Value) (V : World) : Prop := ∃ (k : Nat) (La : List Int), k ≤ n ∧ i = .int .i64 (k : Int) ∧ La.length = k ∧ belowT La (m : Int) = true ∧ OwnR intE V w.heap.size v La ∧ Below w.heap.size w V
def FinR (W : List Int) (m n ga gb : Nat) (b : Bool) (w V : World) : Prop := ∃ Lx Ly : List Int, Lx.length = n ∧ Ly.length = n ∧ belowT Lx (m : Int) = true ∧ belowT Ly (m : Int) = true ∧ CelA V ga Lx ∧ CelA V gb Ly ∧ (dotT W Lx % (m : Int) = dotT W Ly % (m : Int) ↔ (b = true ∨ Lx = Ly)) ∧ Below w.heap.size w V
theorem below_put {L : List Int} {m d : Int} (h : belowT L m = true) (i : Nat) (h1 : 0 ≤ d) (h2 : d < m) : belowT (L.set i d) m = true := below_set h i ⟨h1, h2⟩
set_option maxHeartbeats 8000000 in
set_option maxRecDepth 100000 in
theorem digitFlaws_any (A0 : Option Addr) (l : List Int) (n0 c0 : Nat) (hl0 : l.length = n0) (hn0 : n0 ≤ 9223372036854775807) (x1 : Int) (x1a : -9223372036854775808 ≤ x1) (x1b : x1 ≤ 9223372036854775807)
    (A2 : Option Addr) (v : List Int) (n2 c2 : Nat) (hl2 : v.length = n2) (hn2 : n2 ≤ 9223372036854775807) (x3 : Int) (x3a : -9223372036854775808 ≤ x3) (x3b : x3 ≤ 9223372036854775807) (x4 : Int) (x4a : -9223372036854775808 ≤ x4) (x4b : x4 ≤ 9223372036854775807)
    (w : World) (h0 : IntsAt w A0 l) (h2 : IntsAt w A2 v) :
    Calls Try.prog 5 #[.slice A0 n0 c0, .int .i64 x1, .slice A2 n2 c2, .int .i64 x3, .int .i64 x4] w (Yes w) := by
  have CSC := Lib.hid (scheme_any l A0 n0 c0 hl0 hn0 x1 x1a x1b w h0)
  have CL := Lib.hid (fun V => lives_any V)
  have CAt2 := Lib.hid (fun i k h1 h2' h3' V hA => at_any v A2 n2 c2 hl2 hn2 i k h1 h2' h3' V hA)
  have CK3 := Lib.hid (fun k hk hk2 V => arnd x3 x3a x3b k hk hk2 V)
  have CK4 := Lib.hid (fun k hk hk2 V => arnd x4 x4a x4b k hk hk2 V)
  clear hl0 hn0 x1a x1b h0 hl2 hn2 x3a x3b
  go_enter Try.func5, Try.ntmps5
  go_upto_region 2 with (go_at_call 9; refine CSC.out.mono ?_; rintro _ w1 ⟨W, m, n, qw, cw, rfl, hW, hn8, hm2, hm1024, hbW, hAW, B1⟩)
  have h2 := h2.keep B1
  have hWi : IntsAt w1 qw W := hAW.ints (fun x hx => by have := belowT_mem hbW x hx; omega)
  have hs : schE W (m : Int) = 0 := by unfold schE; rw [if_neg (by omega), if_neg (by rw [hbW]; simp; omega)]
  have HWI : Hid (weakB W (m : Int) = isF W (m : Int) n) := Lib.hid (by
    obtain ⟨m1, rfl⟩ : ∃ m1, m = m1 + 1 := ⟨m - 1, by omega⟩
    rw [← hW]; exact weak_is (by omega) hs)
  have HSL : Hid (weakB W (m : Int) = true → ∃ i d : Nat, i < n ∧ 1 ≤ d ∧ d < m ∧ ((weakF W (m : Int) = ⟨(i : Nat), -1, 0, (d : Int)⟩ ∧ wAt W i * (d : Int) % (m : Int) = 0) ∨ (i + 1 < n ∧ weakF W (m : Int) = ⟨(i : Nat), ((i + 1 : Nat) : Int), 0, (d : Int)⟩ ∧ (wAt W i - wAt W (i + 1)) * (d : Int) % (m : Int) = 0))) := Lib.hid (fun h => by
    obtain ⟨m1, rfl⟩ : ∃ m1, m = m1 + 1 := ⟨m - 1, by omega⟩
    obtain ⟨i, d, e1, e2, e3, e4⟩ := weak_slip (by omega) hs h
    rw [hW] at e1 e4
    exact ⟨i, d, e1, e2, by omega, e4⟩)
  have HS := Lib.hid hs
  have CW := Lib.hid (fun V (hV : Below w1.heap.size w1 V) => (by
    have := weak_any W (m : Int) qw n cw hW (by omega) V (hWi.keep hV)
    rwa [HS.out] at this : Calls Try.prog 17 #[.slice qw n cw, .int .i64 (m : Int)] V (WeakR (weakF W (m : Int)) (weakB W (m : Int)) 0 V)))
  obtain ⟨f, hf⟩ : ∃ f, weakF W (m : Int) = f := ⟨_, rfl⟩
  obtain ⟨b, hb⟩ : ∃ b, weakB W (m : Int) = b := ⟨_, rfl⟩
  rw [hf, hb] at CW HSL
  rw [hb] at HWI
  obtain ⟨fa, fo, fd, fw⟩ := f
  have HW := Lib.hid hW
  have HBW := Lib.hid (belowT_mem hbW)
  clear hf hb hW hbW hAW CSC hs
  go_upto_region 3 with (first
    | (have hx := B2; refine store_blk rfl 35 (.tmp 13) (.tmp 37) rfl (blk_new w2 35 #[.int .i64 0, .int .i64 0, .int .i64 0, .int .i64 0]) rfl rfl (vs := [.int .i64 fa, .int .i64 fo, .int .i64 fd, .int .i64 fw]) (m := 4) (by kernel_rfl) rfl rfl (by intro v hv; simp at hv; rcases hv with rfl | rfl | rfl | rfl <;> rfl) ?_; intro w3 KF O3)
    | (go_at_call 17; refine (CW.out _ (Below.refl _ _)).mono ?_; rintro _ w2 ⟨rfl, B2⟩))
  have B3 : Below w2.heap.size w2 w3 := O3.2.2 _ _ (Nat.le_refl _) ((Below.refl _ _).alloc (Nat.le_refl _) _)
  have B13 := link B2 B3
  have hWi := hWi.keep B13
  have h2 := h2.keep B13
  have BA := Lib.hid (link B1 B13)
  obtain ⟨gf, hgf⟩ : ∃ g, g = w2.heap.size := ⟨_, rfl⟩
  rw [← hgf] at KF ⊢
  clear hx hgf O3 B1 B2 B3 B13 CW
  go_wp2
  go_loopw [16, 17] (fun v i V => IsRel W m n w3 v i V) (fun _ i _ => n - (intOf i).toNat)
  case atStart => exact ⟨0, false, by omega, rfl, rfl, rfl, Below.refl _ _⟩
  case round =>
  obtain ⟨k, bk, hk, rfl, rfl, hbk0, hB3⟩ := hrel
  have hWi := hWi.keep hB3
  have h2 := h2.keep hB3
  rcases Nat.lt_or_ge k n with hlt | hge
  · have hltz : (k : Int) < (n : Int) := by omega
    obtain ⟨x, hx⟩ : ∃ x, W[k]? = some x := ⟨_, List.getElem?_eq_getElem (by rw [HW.out]; exact hlt)⟩
    obtain ⟨ad, rfl, hbk, hc⟩ := hWi (by intro e; rw [e] at hx; simp at hx)
    obtain ⟨cx, y3, y4⟩ := hc k x hx
    have hxm := HBW.out x (List.mem_of_getElem? hx)
    obtain ⟨k1, hk1⟩ : ∃ k1, k + 1 = k1 := ⟨_, rfl⟩
    have hk1z : (k : Int) + 1 = (k1 : Int) := by omega
    have HK1 := Lib.hid hk1
    have HIS : Hid (isF W (m : Int) k1 = (bk || (comB x (m : Int) || (decide (k1 < W.length) && comB (x - wAt W k1) (m : Int))))) := Lib.hid (by rw [← hk1, isF_snoc, hbk0, wAt_get hx])
    have CX := Lib.hid (fun V => common_any x (by omega) (by omega) m (by omega) V)
    obtain ⟨c1, hc1⟩ : ∃ c, comB x (m : Int) = c := ⟨_, rfl⟩
    rw [hc1] at HIS CX
    clear hbk0 hx hk1 hc1
    cases bk
    case true =>
      go_upto_region 8 with (fail)
      rcases Nat.lt_or_ge k1 n with h1 | h1
      · have h1z : (k1 : Int) < (n : Int) := by omega
        obtain ⟨y, hy⟩ : ∃ y, W[k1]? = some y := ⟨_, List.getElem?_eq_getElem (by rw [HW.out]; exact h1)⟩
        obtain ⟨cy, y1, y2⟩ := hc k1 y hy
        have hym := HBW.out y (List.mem_of_getElem? hy)
        have HIN : Hid (isF W (m : Int) k1 = (true || comB (x - y) (m : Int))) := Lib.hid (by rw [HIS.out, decide_eq_true (by rw [HW.out]; exact h1), wAt_get hy]; simp)
        have CY := Lib.hid (fun V => common_any (x - y) (by omega) (by omega) m (by omega) V)
        generalize comB (x - y) (m : Int) = c2 at HIN CY
        have HCX : Hid (∀ V, Below wr.heap.size wr V → V.cell? (ad.add k) = some (.int .i64 x)) := Lib.hid (fun V hV => (hV.cell (by rw [add_block]; exact hbk)).trans cx)
        have HCY : Hid (∀ V, Below wr.heap.size wr V → V.cell? (ad.add k1) = some (.int .i64 y)) := Lib.hid (fun V hV => (hV.cell (by rw [add_block]; exact hbk)).trans cy)
        clear hy hc HIS
        go_upto_region 9 with (fail)
        refine wp_region_held_drew (S := fun w' => Below wr.heap.size wr w') (by kernel_rfl) (below_drew (Below.refl _ _)) (fun _ => ?_)
        have hHeld : Below wr.heap.size wr wr.drew := below_drew (Below.refl _ _)
        generalize wr.drew = V0 at hHeld ⊢
        refine wt (i := 0) (oi := ⟨some 60, .move (.tmp 16), 4, "law.go:103", #[], none⟩) (v := .bool true) (Or.inl ⟨by rfl, fun w' hSw => by go_simp⟩) hHeld ?_
        try simp only [zP, zQ, zS, zZ, zC]
        refine wt (i := 1) (oi := ⟨some 61, .move (.tmp 60), 4, "law.go:103", #[⟨0, .data⟩], none⟩) (v := .bool true) (Or.inl ⟨by rfl, fun w' hSw => by go_simp⟩) hHeld ?_
        try simp only [zP, zQ, zS, zZ, zC]
        refine wt (i := 2) (oi := ⟨some 62, .move (.tmp 11), 22, "law.go:103", #[⟨1, .guard⟩], some (1, false)⟩) (v := undef) (Or.inr ⟨by rfl, rfl⟩) hHeld ?_
        try simp only [zP, zQ, zS, zZ, zC]
        refine wt (i := 3) (oi := ⟨some 63, .move (.tmp 17), 3, "law.go:103", #[⟨1, .guard⟩], some (1, false)⟩) (v := undef) (Or.inr ⟨by rfl, rfl⟩) hHeld ?_
        try simp only [zP, zQ, zS, zZ, zC]
        refine wt (i := 4) (oi := ⟨some 64, .indexAddr 22 (.tmp 62) (.tmp 63), 0, "law.go:103", #[⟨2, .data⟩, ⟨3, .data⟩, ⟨1, .guard⟩], some (1, false)⟩) (v := undef) (Or.inr ⟨by rfl, rfl⟩) hHeld ?_
        try simp only [zP, zQ, zS, zZ, zC]
        refine wt (i := 5) (oi := ⟨some 65, .load 3 (.tmp 64), 3, "law.go:103", #[⟨4, .data⟩, ⟨1, .guard⟩], some (1, false)⟩) (v := undef) (Or.inr ⟨by rfl, rfl⟩) hHeld ?_
        try simp only [zP, zQ, zS, zZ, zC]
        refine wt (i := 6) (oi := ⟨some 66, .move (.tmp 11), 22, "law.go:103", #[⟨1, .guard⟩], some (1, false)⟩) (v := undef) (Or.inr ⟨by rfl, rfl⟩) hHeld ?_
        try simp only [zP, zQ, zS, zZ, zC]
        refine wt (i := 7) (oi := ⟨some 67, .move (.tmp 17), 3, "law.go:103", #[⟨1, .guard⟩], some (1, false)⟩) (v := undef) (Or.inr ⟨by rfl, rfl⟩) hHeld ?_
        try simp only [zP, zQ, zS, zZ, zC]
        refine wt (i := 8) (oi := ⟨some 68, .binOp .add 3 (.tmp 67) (.const (Value.int IntKind.i64 1)) 3, 3, "law.go:103", #[⟨7, .data⟩, ⟨1, .guard⟩], some (1, false)⟩) (v := undef) (Or.inr ⟨by rfl, rfl⟩) hHeld ?_
        try simp only [zP, zQ, zS, zZ, zC]
        refine wt (i := 9) (oi := ⟨some 69, .indexAddr 22 (.tmp 66) (.tmp 68), 0, "law.go:103", #[⟨6, .data⟩, ⟨8, .data⟩, ⟨1, .guard⟩], some (1, false)⟩) (v := undef) (Or.inr ⟨by rfl, rfl⟩) hHeld ?_
        try simp only [zP, zQ, zS, zZ, zC]
        refine wt (i := 10) (oi := ⟨some 70, .load 3 (.tmp 69), 3, "law.go:103", #[⟨9, .data⟩, ⟨1, .guard⟩], some (1, false)⟩) (v := undef) (Or.inr ⟨by rfl, rfl⟩) hHeld ?_
        try simp only [zP, zQ, zS, zZ, zC]
        refine wt (i := 11) (oi := ⟨some 71, .binOp .sub 3 (.tmp 65) (.tmp 70) 3, 3, "law.go:103", #[⟨5, .data⟩, ⟨10, .data⟩, ⟨1, .guard⟩], some (1, false)⟩) (v := undef) (Or.inr ⟨by rfl, rfl⟩) hHeld ?_
        try simp only [zP, zQ, zS, zZ, zC]
        refine wt (i := 12) (oi := ⟨some 72, .move (.tmp 12), 3, "law.go:103", #[⟨1, .guard⟩], some (1, false)⟩) (v := undef) (Or.inr ⟨by rfl, rfl⟩) hHeld ?_
        try simp only [zP, zQ, zS, zZ, zC]
        refine wt (i := 13) (oi := ⟨some 73, .call { callee := .value (.func 20), args := #[.tmp 71, .tmp 72], argTypes := #[3, 3] }, 4, "law.go:103", #[⟨11, .data⟩, ⟨12, .data⟩, ⟨1, .chain⟩, ⟨1, .guard⟩], some (1, false)⟩) (v := undef) (Or.inr ⟨by rfl, rfl⟩) hHeld ?_
        try simp only [zP, zQ, zS, zZ, zC]
        refine wt (i := 14) (oi := ⟨some 74, .pick (.tmp 61) (.const (Value.bool true)) (.tmp 73), 4, "law.go:103", #[⟨1, .data⟩, ⟨13, .data⟩], none⟩) (v := .bool true) (Or.inl ⟨by rfl, fun w' hSw => by go_simp⟩) hHeld ?_
        try simp only [zP, zQ, zS, zZ, zC]
        refine wpAnyH_ready (rs := [15]) (by kernel_rfl) (by simp) ?_
        refine AllReadyH.cons (o := ⟨some 16, .assign (.tmp 74), 4, "law.go:103", #[⟨14, .data⟩, ⟨13, .chain⟩, ⟨0, .phase⟩, ⟨1, .phase⟩, ⟨2, .phase⟩, ⟨3, .phase⟩, ⟨4, .phase⟩, ⟨5, .phase⟩, ⟨6, .phase⟩, ⟨7, .phase⟩, ⟨8, .phase⟩, ⟨9, .phase⟩, ⟨10, .phase⟩, ⟨11, .phase⟩, ⟨12, .phase⟩, ⟨13, .phase⟩, ⟨14, .phase⟩], none⟩) rfl (fun K hK => ?_) AllReadyH.nil
        go_simp
        refine hK.out _ _ (hHeld) (fun hHeld => ?_)
        clear hK K
        try simp only [zP, zQ, zS, zZ, zC]
        refine wpAnyH_done (by kernel_rfl) ?_ _
        have B4 := hHeld
        clear hHeld 
        go_wp2
        exact ⟨⟨k1, _, by omega, by first | rfl | go_num, rfl, by rw [HIN.out]; rfl, link hB3 B4⟩, by have := HK1.out; simp [intOf]; omega⟩
      · have h1z : ¬ (k1 : Int) < (n : Int) := by omega
        have HIN : Hid (isF W (m : Int) k1 = true) := Lib.hid (by rw [HIS.out, decide_eq_false (by rw [HW.out]; omega)]; simp)
        clear hc HIS
        go_wp2
        exact ⟨⟨k1, _, by have := HK1.out; omega, by first | rfl | go_num, rfl, HIN.out, hB3⟩, by have := HK1.out; simp [intOf]; omega⟩
    case false =>
      go_upto_region 8 with (go_at_call 20; refine (CX.out _).mono ?_; rintro _ _ ⟨rfl, rfl⟩)
      cases c1
      case true =>
        rcases Nat.lt_or_ge k1 n with h1 | h1
        · have h1z : (k1 : Int) < (n : Int) := by omega
          obtain ⟨y, hy⟩ : ∃ y, W[k1]? = some y := ⟨_, List.getElem?_eq_getElem (by rw [HW.out]; exact h1)⟩
          obtain ⟨cy, y1, y2⟩ := hc k1 y hy
          have hym := HBW.out y (List.mem_of_getElem? hy)
          have HIN : Hid (isF W (m : Int) k1 = (true || comB (x - y) (m : Int))) := Lib.hid (by rw [HIS.out, decide_eq_true (by rw [HW.out]; exact h1), wAt_get hy]; simp)
          have CY := Lib.hid (fun V => common_any (x - y) (by omega) (by omega) m (by omega) V)
          generalize comB (x - y) (m : Int) = c2 at HIN CY
          have HCX : Hid (∀ V, Below wr.heap.size wr V → V.cell? (ad.add k) = some (.int .i64 x)) := Lib.hid (fun V hV => (hV.cell (by rw [add_block]; exact hbk)).trans cx)
          have HCY : Hid (∀ V, Below wr.heap.size wr V → V.cell? (ad.add k1) = some (.int .i64 y)) := Lib.hid (fun V hV => (hV.cell (by rw [add_block]; exact hbk)).trans cy)
          clear hy hc HIS
          go_upto_region 9 with (fail)
          refine wp_region_held_drew (S := fun w' => Below wr.heap.size wr w') (by kernel_rfl) (below_drew (Below.refl _ _)) (fun _ => ?_)
          have hHeld : Below wr.heap.size wr wr.drew := below_drew (Below.refl _ _)
          generalize wr.drew = V0 at hHeld ⊢
          refine wt (i := 0) (oi := ⟨some 60, .move (.tmp 16), 4, "law.go:103", #[], none⟩) (v := .bool true) (Or.inl ⟨by rfl, fun w' hSw => by go_simp⟩) hHeld ?_
          try simp only [zP, zQ, zS, zZ, zC]
          refine wt (i := 1) (oi := ⟨some 61, .move (.tmp 60), 4, "law.go:103", #[⟨0, .data⟩], none⟩) (v := .bool true) (Or.inl ⟨by rfl, fun w' hSw => by go_simp⟩) hHeld ?_
          try simp only [zP, zQ, zS, zZ, zC]
          refine wt (i := 2) (oi := ⟨some 62, .move (.tmp 11), 22, "law.go:103", #[⟨1, .guard⟩], some (1, false)⟩) (v := undef) (Or.inr ⟨by rfl, rfl⟩) hHeld ?_
          try simp only [zP, zQ, zS, zZ, zC]
          refine wt (i := 3) (oi := ⟨some 63, .move (.tmp 17), 3, "law.go:103", #[⟨1, .guard⟩], some (1, false)⟩) (v := undef) (Or.inr ⟨by rfl, rfl⟩) hHeld ?_
          try simp only [zP, zQ, zS, zZ, zC]
          refine wt (i := 4) (oi := ⟨some 64, .indexAddr 22 (.tmp 62) (.tmp 63), 0, "law.go:103", #[⟨2, .data⟩, ⟨3, .data⟩, ⟨1, .guard⟩], some (1, false)⟩) (v := undef) (Or.inr ⟨by rfl, rfl⟩) hHeld ?_
          try simp only [zP, zQ, zS, zZ, zC]
          refine wt (i := 5) (oi := ⟨some 65, .load 3 (.tmp 64), 3, "law.go:103", #[⟨4, .data⟩, ⟨1, .guard⟩], some (1, false)⟩) (v := undef) (Or.inr ⟨by rfl, rfl⟩) hHeld ?_
          try simp only [zP, zQ, zS, zZ, zC]
          refine wt (i := 6) (oi := ⟨some 66, .move (.tmp 11), 22, "law.go:103", #[⟨1, .guard⟩], some (1, false)⟩) (v := undef) (Or.inr ⟨by rfl, rfl⟩) hHeld ?_
          try simp only [zP, zQ, zS, zZ, zC]
          refine wt (i := 7) (oi := ⟨some 67, .move (.tmp 17), 3, "law.go:103", #[⟨1, .guard⟩], some (1, false)⟩) (v := undef) (Or.inr ⟨by rfl, rfl⟩) hHeld ?_
          try simp only [zP, zQ, zS, zZ, zC]
          refine wt (i := 8) (oi := ⟨some 68, .binOp .add 3 (.tmp 67) (.const (Value.int IntKind.i64 1)) 3, 3, "law.go:103", #[⟨7, .data⟩, ⟨1, .guard⟩], some (1, false)⟩) (v := undef) (Or.inr ⟨by rfl, rfl⟩) hHeld ?_
          try simp only [zP, zQ, zS, zZ, zC]
          refine wt (i := 9) (oi := ⟨some 69, .indexAddr 22 (.tmp 66) (.tmp 68), 0, "law.go:103", #[⟨6, .data⟩, ⟨8, .data⟩, ⟨1, .guard⟩], some (1, false)⟩) (v := undef) (Or.inr ⟨by rfl, rfl⟩) hHeld ?_
          try simp only [zP, zQ, zS, zZ, zC]
          refine wt (i := 10) (oi := ⟨some 70, .load 3 (.tmp 69), 3, "law.go:103", #[⟨9, .data⟩, ⟨1, .guard⟩], some (1, false)⟩) (v := undef) (Or.inr ⟨by rfl, rfl⟩) hHeld ?_
          try simp only [zP, zQ, zS, zZ, zC]
          refine wt (i := 11) (oi := ⟨some 71, .binOp .sub 3 (.tmp 65) (.tmp 70) 3, 3, "law.go:103", #[⟨5, .data⟩, ⟨10, .data⟩, ⟨1, .guard⟩], some (1, false)⟩) (v := undef) (Or.inr ⟨by rfl, rfl⟩) hHeld ?_
          try simp only [zP, zQ, zS, zZ, zC]
          refine wt (i := 12) (oi := ⟨some 72, .move (.tmp 12), 3, "law.go:103", #[⟨1, .guard⟩], some (1, false)⟩) (v := undef) (Or.inr ⟨by rfl, rfl⟩) hHeld ?_
          try simp only [zP, zQ, zS, zZ, zC]
          refine wt (i := 13) (oi := ⟨some 73, .call { callee := .value (.func 20), args := #[.tmp 71, .tmp 72], argTypes := #[3, 3] }, 4, "law.go:103", #[⟨11, .data⟩, ⟨12, .data⟩, ⟨1, .chain⟩, ⟨1, .guard⟩], some (1, false)⟩) (v := undef) (Or.inr ⟨by rfl, rfl⟩) hHeld ?_
          try simp only [zP, zQ, zS, zZ, zC]
          refine wt (i := 14) (oi := ⟨some 74, .pick (.tmp 61) (.const (Value.bool true)) (.tmp 73), 4, "law.go:103", #[⟨1, .data⟩, ⟨13, .data⟩], none⟩) (v := .bool true) (Or.inl ⟨by rfl, fun w' hSw => by go_simp⟩) hHeld ?_
          try simp only [zP, zQ, zS, zZ, zC]
          refine wpAnyH_ready (rs := [15]) (by kernel_rfl) (by simp) ?_
          refine AllReadyH.cons (o := ⟨some 16, .assign (.tmp 74), 4, "law.go:103", #[⟨14, .data⟩, ⟨13, .chain⟩, ⟨0, .phase⟩, ⟨1, .phase⟩, ⟨2, .phase⟩, ⟨3, .phase⟩, ⟨4, .phase⟩, ⟨5, .phase⟩, ⟨6, .phase⟩, ⟨7, .phase⟩, ⟨8, .phase⟩, ⟨9, .phase⟩, ⟨10, .phase⟩, ⟨11, .phase⟩, ⟨12, .phase⟩, ⟨13, .phase⟩, ⟨14, .phase⟩], none⟩) rfl (fun K hK => ?_) AllReadyH.nil
          go_simp
          refine hK.out _ _ (hHeld) (fun hHeld => ?_)
          clear hK K
          try simp only [zP, zQ, zS, zZ, zC]
          refine wpAnyH_done (by kernel_rfl) ?_ _
          have B4 := hHeld
          clear hHeld 
          go_wp2
          exact ⟨⟨k1, _, by omega, by first | rfl | go_num, rfl, by rw [HIN.out]; rfl, link hB3 B4⟩, by have := HK1.out; simp [intOf]; omega⟩
        · have h1z : ¬ (k1 : Int) < (n : Int) := by omega
          have HIN : Hid (isF W (m : Int) k1 = true) := Lib.hid (by rw [HIS.out, decide_eq_false (by rw [HW.out]; omega)]; simp)
          clear hc HIS
          go_wp2
          exact ⟨⟨k1, _, by have := HK1.out; omega, by first | rfl | go_num, rfl, HIN.out, hB3⟩, by have := HK1.out; simp [intOf]; omega⟩
      case false =>
        rcases Nat.lt_or_ge k1 n with h1 | h1
        · have h1z : (k1 : Int) < (n : Int) := by omega
          obtain ⟨y, hy⟩ : ∃ y, W[k1]? = some y := ⟨_, List.getElem?_eq_getElem (by rw [HW.out]; exact h1)⟩
          obtain ⟨cy, y1, y2⟩ := hc k1 y hy
          have hym := HBW.out y (List.mem_of_getElem? hy)
          have HIN : Hid (isF W (m : Int) k1 = (false || comB (x - y) (m : Int))) := Lib.hid (by rw [HIS.out, decide_eq_true (by rw [HW.out]; exact h1), wAt_get hy]; simp)
          have CY := Lib.hid (fun V => common_any (x - y) (by omega) (by omega) m (by omega) V)
          generalize comB (x - y) (m : Int) = c2 at HIN CY
          have HCX : Hid (∀ V, Below wr.heap.size wr V → V.cell? (ad.add k) = some (.int .i64 x)) := Lib.hid (fun V hV => (hV.cell (by rw [add_block]; exact hbk)).trans cx)
          have HCY : Hid (∀ V, Below wr.heap.size wr V → V.cell? (ad.add k1) = some (.int .i64 y)) := Lib.hid (fun V hV => (hV.cell (by rw [add_block]; exact hbk)).trans cy)
          clear hy hc HIS
          go_upto_region 9 with (fail)
          refine wp_region_held_drew (S := fun w' => Below wr.heap.size wr w') (by kernel_rfl) (below_drew (Below.refl _ _)) (fun _ => ?_)
          have hHeld : Below wr.heap.size wr wr.drew := below_drew (Below.refl _ _)
          generalize wr.drew = V0 at hHeld ⊢
          refine wt (i := 0) (oi := ⟨some 60, .move (.tmp 16), 4, "law.go:103", #[], none⟩) (v := .bool false) (Or.inl ⟨by rfl, fun w' hSw => by go_simp⟩) hHeld ?_
          try simp only [zP, zQ, zS, zZ, zC]
          refine wt (i := 1) (oi := ⟨some 61, .move (.tmp 60), 4, "law.go:103", #[⟨0, .data⟩], none⟩) (v := .bool false) (Or.inl ⟨by rfl, fun w' hSw => by go_simp⟩) hHeld ?_
          try simp only [zP, zQ, zS, zZ, zC]
          refine wt (i := 2) (oi := ⟨some 62, .move (.tmp 11), 22, "law.go:103", #[⟨1, .guard⟩], some (1, false)⟩) (v := .slice (some ad) n cw) (Or.inl ⟨by rfl, fun w' hSw => by go_simp⟩) hHeld ?_
          try simp only [zP, zQ, zS, zZ, zC]
          refine wt (i := 3) (oi := ⟨some 63, .move (.tmp 17), 3, "law.go:103", #[⟨1, .guard⟩], some (1, false)⟩) (v := .int .i64 (k : Int)) (Or.inl ⟨by rfl, fun w' hSw => by go_simp⟩) hHeld ?_
          try simp only [zP, zQ, zS, zZ, zC]
          refine wt (i := 4) (oi := ⟨some 64, .indexAddr 22 (.tmp 62) (.tmp 63), 0, "law.go:103", #[⟨2, .data⟩, ⟨3, .data⟩, ⟨1, .guard⟩], some (1, false)⟩) (v := .pointer (some (ad.add k))) (Or.inl ⟨by rfl, fun w' hSw => by go_simp⟩) hHeld ?_
          try simp only [zP, zQ, zS, zZ, zC]
          refine wt (i := 5) (oi := ⟨some 65, .load 3 (.tmp 64), 3, "law.go:103", #[⟨4, .data⟩, ⟨1, .guard⟩], some (1, false)⟩) (v := .int .i64 x) (Or.inl ⟨by rfl, fun w' hSw => by have c9 := HCX.out w' hSw; go_simp⟩) hHeld ?_
          try simp only [zP, zQ, zS, zZ, zC]
          refine wt (i := 6) (oi := ⟨some 66, .move (.tmp 11), 22, "law.go:103", #[⟨1, .guard⟩], some (1, false)⟩) (v := .slice (some ad) n cw) (Or.inl ⟨by rfl, fun w' hSw => by go_simp⟩) hHeld ?_
          try simp only [zP, zQ, zS, zZ, zC]
          refine wt (i := 7) (oi := ⟨some 67, .move (.tmp 17), 3, "law.go:103", #[⟨1, .guard⟩], some (1, false)⟩) (v := .int .i64 (k : Int)) (Or.inl ⟨by rfl, fun w' hSw => by go_simp⟩) hHeld ?_
          try simp only [zP, zQ, zS, zZ, zC]
          refine wt (i := 8) (oi := ⟨some 68, .binOp .add 3 (.tmp 67) (.const (Value.int IntKind.i64 1)) 3, 3, "law.go:103", #[⟨7, .data⟩, ⟨1, .guard⟩], some (1, false)⟩) (v := .int .i64 (k1 : Int)) (Or.inl ⟨by rfl, fun w' hSw => by go_simp; first | done | exact wrap_in (by omega) (by omega) | omega⟩) hHeld ?_
          try simp only [zP, zQ, zS, zZ, zC]
          refine wt (i := 9) (oi := ⟨some 69, .indexAddr 22 (.tmp 66) (.tmp 68), 0, "law.go:103", #[⟨6, .data⟩, ⟨8, .data⟩, ⟨1, .guard⟩], some (1, false)⟩) (v := .pointer (some (ad.add k1))) (Or.inl ⟨by rfl, fun w' hSw => by go_simp⟩) hHeld ?_
          try simp only [zP, zQ, zS, zZ, zC]
          refine wt (i := 10) (oi := ⟨some 70, .load 3 (.tmp 69), 3, "law.go:103", #[⟨9, .data⟩, ⟨1, .guard⟩], some (1, false)⟩) (v := .int .i64 y) (Or.inl ⟨by rfl, fun w' hSw => by have c9 := HCY.out w' hSw; go_simp⟩) hHeld ?_
          try simp only [zP, zQ, zS, zZ, zC]
          refine wt (i := 11) (oi := ⟨some 71, .binOp .sub 3 (.tmp 65) (.tmp 70) 3, 3, "law.go:103", #[⟨5, .data⟩, ⟨10, .data⟩, ⟨1, .guard⟩], some (1, false)⟩) (v := .int .i64 (x - y)) (Or.inl ⟨by rfl, fun w' hSw => by go_simp; first | done | exact wrap_in (by omega) (by omega) | omega⟩) hHeld ?_
          try simp only [zP, zQ, zS, zZ, zC]
          refine wt (i := 12) (oi := ⟨some 72, .move (.tmp 12), 3, "law.go:103", #[⟨1, .guard⟩], some (1, false)⟩) (v := .int .i64 (m : Int)) (Or.inl ⟨by rfl, fun w' hSw => by go_simp⟩) hHeld ?_
          try simp only [zP, zQ, zS, zZ, zC]
          refine wpAnyH_ready (rs := [13]) (by kernel_rfl) (by simp) ?_
          refine AllReadyH.cons (o := ⟨some 73, .call { callee := .value (.func 20), args := #[.tmp 71, .tmp 72], argTypes := #[3, 3] }, 4, "law.go:103", #[⟨11, .data⟩, ⟨12, .data⟩, ⟨1, .chain⟩, ⟨1, .guard⟩], some (1, false)⟩) rfl (fun K hK => ?_) AllReadyH.nil
          rw [if_pos (by rfl)]
          go_simp
          refine (CY.out _).mono ?_
          rintro _ _ ⟨rfl, rfl⟩
          dsimp only
          refine hK.out _ _ (hHeld) (fun hHeld => ?_)
          clear hK K
          try simp only [zP, zQ, zS, zZ, zC]
          refine wt (i := 14) (oi := ⟨some 74, .pick (.tmp 61) (.const (Value.bool true)) (.tmp 73), 4, "law.go:103", #[⟨1, .data⟩, ⟨13, .data⟩], none⟩) (v := .bool c2) (Or.inl ⟨by rfl, fun w' hSw => by go_simp⟩) hHeld ?_
          try simp only [zP, zQ, zS, zZ, zC]
          refine wpAnyH_ready (rs := [15]) (by kernel_rfl) (by simp) ?_
          refine AllReadyH.cons (o := ⟨some 16, .assign (.tmp 74), 4, "law.go:103", #[⟨14, .data⟩, ⟨13, .chain⟩, ⟨0, .phase⟩, ⟨1, .phase⟩, ⟨2, .phase⟩, ⟨3, .phase⟩, ⟨4, .phase⟩, ⟨5, .phase⟩, ⟨6, .phase⟩, ⟨7, .phase⟩, ⟨8, .phase⟩, ⟨9, .phase⟩, ⟨10, .phase⟩, ⟨11, .phase⟩, ⟨12, .phase⟩, ⟨13, .phase⟩, ⟨14, .phase⟩], none⟩) rfl (fun K hK => ?_) AllReadyH.nil
          go_simp
          refine hK.out _ _ (hHeld) (fun hHeld => ?_)
          clear hK K
          try simp only [zP, zQ, zS, zZ, zC]
          refine wpAnyH_done (by kernel_rfl) ?_ _
          have B4 := hHeld
          clear hHeld 
          go_wp2
          exact ⟨⟨k1, _, by omega, by first | rfl | go_num, rfl, by rw [HIN.out]; rfl, link hB3 B4⟩, by have := HK1.out; simp [intOf]; omega⟩
        · have h1z : ¬ (k1 : Int) < (n : Int) := by omega
          have HIN : Hid (isF W (m : Int) k1 = false) := Lib.hid (by rw [HIS.out, decide_eq_false (by rw [HW.out]; omega)]; simp)
          clear hc HIS
          go_wp2
          exact ⟨⟨k1, _, by have := HK1.out; omega, by first | rfl | go_num, rfl, HIN.out, hB3⟩, by have := HK1.out; simp [intOf]; omega⟩
  obtain rfl : k = n := by omega
  have hgez : ¬ (k : Int) < (k : Int) := by omega
  rw [← HWI.out] at hbk0
  have HB0 := Lib.hid hbk0
  subst hbk0
  have HNF : Hid (isF W (m : Int) k = b) := Lib.hid HWI.out.symm
  clear HWI hk hge
  have KF := KF.keep hB3
  have BA := Lib.hid (link BA.out hB3)
  clear hB3
  generalize wr = W3 at *
  rcases Nat.eq_zero_or_pos k with h0 | h0
  · have h0z : (k : Int) = 0 := by omega
    go_wp2_with (go_at_call 16; refine (CL.out _).mono ?_; rintro _ w9 ⟨rfl, B9⟩)
    go_ret
    exact ⟨rfl, link BA.out B9⟩
  have h0z : ¬ (k : Int) = 0 := by omega
  obtain ⟨n, hn⟩ : ∃ n, k = n := ⟨_, rfl⟩
  subst hn
  go_upto_region 15 with (fail)
  go_wp2
  go_loopw [18, 19] (fun v i V => FaRel m k W3 v i V) (fun _ i _ => k - (intOf i).toNat)
  case atStart => exact ⟨0, [], by omega, rfl, rfl, rfl, OwnR.nil _ _ _, Below.refl _ _⟩
  case round =>
  obtain ⟨j, La, hj, rfl, hLa, hbA, hO, hB⟩ := hrel
  rcases Nat.lt_or_ge j k with hlt | hge
  · have hltz : (j : Int) < (k : Int) := by omega
    have CA := Lib.hid (CAt2.out j m (by omega) (by omega) (by omega) _ (h2.keep hB))
    have hle : La.length ≤ 1000000000000 := by omega
    have HLA := Lib.hid hLa
    have HBA := Lib.hid hbA
    clear hLa hbA
    go_wp2_with (first
      | (have hx := hxa; at_builtin; refine push_el intE rfl (.tmp 92) (.tmp 97) rfl La (xa : Int) _ rfl hO hB.size _ rfl _ rfl hle ?_; intro v6 W6 hO6 hB7 hR6)
      | (go_at_call 10; refine CA.out.mono ?_; rintro _ _ ⟨xa, hxa, rfl, rfl⟩))
    exact ⟨⟨j + 1, La ++ [(xa : Int)], by omega, by go_num, by rw [List.length_append, HLA.out]; rfl, belowT_of fun q hq => by
      rcases List.mem_append.1 hq with h | h
      · exact belowT_mem HBA.out q h
      · rw [List.mem_singleton.1 h]; omega, hO6, hB.trans hB7⟩, by simp [intOf]; omega⟩
  obtain rfl : j = k := by omega
  have hgez : ¬ (j : Int) < (j : Int) := by omega
  clear hge hj CAt2
  generalize wr = W4 at *
  have hne : La ≠ [] := fun e => by rw [e] at hLa; simp at hLa; omega
  obtain ⟨ga, ca, rfl, hga, KA⟩ := CelA.of hO hne
  rw [hLa]
  have hO0 := own_new intE W4 #[] [] 0 rfl (by omega) rfl
  have X4 : Below W4.heap.size W4 (W4.alloc (.cells #[] 3)) := (Below.refl _ _).alloc (Nat.le_refl _) _
  have hA4 := KA.at.keep X4
  go_upto_region 20 with (at_builtin; refine clone_el intE rfl (.tmp 99) (.tmp 100) rfl La W4.heap.size j ca rfl hO0 X4.size (some ⟨ga, 0, none⟩) rfl hLa hA4 (by omega) ?_; intro gb cb W5 hO5 _ _ hB5)
  have hAlt := KA.lt
  have B45 := link X4 hB5
  have hB := link hB B45
  obtain ⟨gb', cb', e, hgb, KB⟩ := CelA.of hO5 hne
  injection e with e1 e2 e3
  injection e1 with e1
  injection e1 with e1
  subst e1
  have hab : ga ≠ gb := Nat.ne_of_lt (Nat.lt_of_lt_of_le hAlt hgb)
  have KA := KA.keep B45
  have hWs : W3.heap.size ≤ W4.heap.size := Nat.le_trans hga (Nat.le_of_lt hAlt)
  have hgb3 : W3.heap.size ≤ gb := Nat.le_trans hWs hgb
  have hfl := KF.lt
  have hfa : gf ≠ ga := Nat.ne_of_lt (Nat.lt_of_lt_of_le hfl hga)
  have hfb : gf ≠ gb := Nat.ne_of_lt (Nat.lt_of_lt_of_le hfl hgb3)
  have KF := KF.keep hB
  clear e2 e3 hO hO0 hO5 hA4 X4 hB5 B45 hAlt hgb hWs hfl h2 hne
  go_upto_if 102 with (fail)
  go_cut [21] from 102 to 211 (fun v wx => FinR W m j ga gb b W3 wx)
  case first =>
    cases b
    case true =>
      obtain ⟨i, d, hi, hd1', hdm, hsl⟩ := HSL.out rfl
      rcases hsl with ⟨hf, hz⟩ | ⟨hi1, hf, hz⟩
      · injection hf with e1 e2 e3 e4
        subst e1 e2 e3 e4
        have hin : (i : Int) < (j : Int) := by omega
        have hinn : ¬ (j : Int) ≤ (i : Int) := by omega
        have hdz : (d : Int) < (m : Int) := by omega
        have hdz2 : ¬ (m : Int) ≤ (d : Int) := by omega
        have hd0 : ¬ (0 : Int) = (d : Int) := by omega
        have hd1 : ¬ d = 0 := by omega
        have hd0b : ((0 : Int) == (d : Int)) = false := by simp; omega
        have hm0 : ¬ (m : Int) ≤ 0 := by omega
        have hm1 : ¬ m = 0 := by omega
        have KFC := KF
        have c0 := KF.cell (j := 0) rfl
        have c1 := KF.cell (j := 1) rfl
        have c2 := KF.cell (j := 2) rfl
        have c3 := KF.cell (j := 3) rfl
        have HZ := Lib.hid hz
        clear hz
        go_upto_region 23 with (fail)
        clear c0 c1 c2 c3 KFC
        have c0 := KF.cell (j := 0) rfl
        have c1 := KF.cell (j := 1) rfl
        have c2 := KF.cell (j := 2) rfl
        have c3 := KF.cell (j := 3) rfl
        obtain ⟨u, hu⟩ : ∃ u, W5.cell? ⟨ga, i, none⟩ = some u := ⟨_, KA.cell (i := i) (List.getElem?_eq_getElem (by first | omega | (simp; omega)))⟩
        have fr := KA.free i
        go_upto_region 24 with (fail)
        have KF := KF.other (a := ⟨ga, i, none⟩) (by exact hfa) (.int .i64 0)
        have KB := KB.other (b := ga) (i := i) (Ne.symm hab) (.int .i64 0)
        have KA := KA.set i 0
        have hB : Below W3.heap.size W3 (World.setCell W5 ⟨ga, i, none⟩ (.int .i64 0)) := hB.setCell (by exact hga) _
        generalize World.setCell W5 ⟨ga, i, none⟩ (.int .i64 0) = W6 at KF KA KB hB ⊢
        clear c0 c1 c2 c3 hu fr
        have c0 := KF.cell (j := 0) rfl
        have c1 := KF.cell (j := 1) rfl
        have c2 := KF.cell (j := 2) rfl
        have c3 := KF.cell (j := 3) rfl
        obtain ⟨u, hu⟩ : ∃ u, W6.cell? ⟨gb, i, none⟩ = some u := ⟨_, KB.cell (i := i) (List.getElem?_eq_getElem (by first | omega | (simp; omega)))⟩
        have fr := KB.free i
        go_upto_region 25 with (fail)
        have KF := KF.other (a := ⟨gb, i, none⟩) (by exact hfb) (.int .i64 (d : Int))
        have KA := KA.other (b := gb) (i := i) (hab) (.int .i64 (d : Int))
        have KB := KB.set i (d : Int)
        have hB : Below W3.heap.size W3 (World.setCell W6 ⟨gb, i, none⟩ (.int .i64 (d : Int))) := hB.setCell (by exact hgb3) _
        generalize World.setCell W6 ⟨gb, i, none⟩ (.int .i64 (d : Int)) = W7 at KF KA KB hB ⊢
        clear c0 c1 c2 c3 hu fr
        have c1 := KF.cell (j := 1) rfl
        go_wp2
        go_meet
        exact ⟨La.set i 0, La.set i (d : Int), by rw [List.length_set]; exact hLa, by rw [List.length_set]; exact hLa, below_put hbA i (by omega) (by omega), below_put hbA i (by omega) (by omega), KA, KB, ⟨fun _ => Or.inl rfl, fun _ => lost_one (by rw [HW.out]; exact hi) (by rw [HW.out, hLa]) HZ.out⟩, hB⟩
      · obtain ⟨i1, hi1e⟩ : ∃ i1, i + 1 = i1 := ⟨_, rfl⟩
        rw [hi1e] at hi1 hf
        injection hf with e1 e2 e3 e4
        subst e1 e2 e3 e4
        have hin : (i : Int) < (j : Int) := by omega
        have hinn : ¬ (j : Int) ≤ (i : Int) := by omega
        have hdz : (d : Int) < (m : Int) := by omega
        have hdz2 : ¬ (m : Int) ≤ (d : Int) := by omega
        have hd0 : ¬ (0 : Int) = (d : Int) := by omega
        have hd1 : ¬ d = 0 := by omega
        have hd0b : ((0 : Int) == (d : Int)) = false := by simp; omega
        have hm0 : ¬ (m : Int) ≤ 0 := by omega
        have hm1 : ¬ m = 0 := by omega
        have KFC := KF
        have c0 := KF.cell (j := 0) rfl
        have c1 := KF.cell (j := 1) rfl
        have c2 := KF.cell (j := 2) rfl
        have c3 := KF.cell (j := 3) rfl
        have hi1z : (i1 : Int) < (j : Int) := by omega
        have hi1n : ¬ (j : Int) ≤ (i1 : Int) := by omega
        have HI1 := Lib.hid hi1e
        have HZ := Lib.hid hz
        clear hi1e hz
        go_upto_region 23 with (fail)
        clear c0 c1 c2 c3 KFC
        have c0 := KF.cell (j := 0) rfl
        have c1 := KF.cell (j := 1) rfl
        have c2 := KF.cell (j := 2) rfl
        have c3 := KF.cell (j := 3) rfl
        obtain ⟨u, hu⟩ : ∃ u, W5.cell? ⟨ga, i, none⟩ = some u := ⟨_, KA.cell (i := i) (List.getElem?_eq_getElem (by first | omega | (simp; omega)))⟩
        have fr := KA.free i
        go_upto_region 24 with (fail)
        have KF := KF.other (a := ⟨ga, i, none⟩) (by exact hfa) (.int .i64 0)
        have KB := KB.other (b := ga) (i := i) (Ne.symm hab) (.int .i64 0)
        have KA := KA.set i 0
        have hB : Below W3.heap.size W3 (World.setCell W5 ⟨ga, i, none⟩ (.int .i64 0)) := hB.setCell (by exact hga) _
        generalize World.setCell W5 ⟨ga, i, none⟩ (.int .i64 0) = W6 at KF KA KB hB ⊢
        clear c0 c1 c2 c3 hu fr
        have c0 := KF.cell (j := 0) rfl
        have c1 := KF.cell (j := 1) rfl
        have c2 := KF.cell (j := 2) rfl
        have c3 := KF.cell (j := 3) rfl
        obtain ⟨u, hu⟩ : ∃ u, W6.cell? ⟨gb, i, none⟩ = some u := ⟨_, KB.cell (i := i) (List.getElem?_eq_getElem (by first | omega | (simp; omega)))⟩
        have fr := KB.free i
        go_upto_region 25 with (fail)
        have KF := KF.other (a := ⟨gb, i, none⟩) (by exact hfb) (.int .i64 (d : Int))
        have KA := KA.other (b := gb) (i := i) (hab) (.int .i64 (d : Int))
        have KB := KB.set i (d : Int)
        have hB : Below W3.heap.size W3 (World.setCell W6 ⟨gb, i, none⟩ (.int .i64 (d : Int))) := hB.setCell (by exact hgb3) _
        generalize World.setCell W6 ⟨gb, i, none⟩ (.int .i64 (d : Int)) = W7 at KF KA KB hB ⊢
        clear c0 c1 c2 c3 hu fr
        have c1 := KF.cell (j := 1) rfl
        go_upto_region 26 with (fail)
        clear c1
        have c0 := KF.cell (j := 0) rfl
        have c1 := KF.cell (j := 1) rfl
        have c2 := KF.cell (j := 2) rfl
        have c3 := KF.cell (j := 3) rfl
        obtain ⟨u, hu⟩ : ∃ u, W7.cell? ⟨ga, i1, none⟩ = some u := ⟨_, KA.cell (i := i1) (List.getElem?_eq_getElem (by first | omega | (simp; omega)))⟩
        have fr := KA.free i1
        go_upto_region 27 with (fail)
        have KF := KF.other (a := ⟨ga, i1, none⟩) (by exact hfa) (.int .i64 (d : Int))
        have KB := KB.other (b := ga) (i := i1) (Ne.symm hab) (.int .i64 (d : Int))
        have KA := KA.set i1 (d : Int)
        have hB : Below W3.heap.size W3 (World.setCell W7 ⟨ga, i1, none⟩ (.int .i64 (d : Int))) := hB.setCell (by exact hga) _
        generalize World.setCell W7 ⟨ga, i1, none⟩ (.int .i64 (d : Int)) = W8 at KF KA KB hB ⊢
        clear c0 c1 c2 c3 hu fr
        have c0 := KF.cell (j := 0) rfl
        have c1 := KF.cell (j := 1) rfl
        have c2 := KF.cell (j := 2) rfl
        have c3 := KF.cell (j := 3) rfl
        obtain ⟨u, hu⟩ : ∃ u, W8.cell? ⟨gb, i1, none⟩ = some u := ⟨_, KB.cell (i := i1) (List.getElem?_eq_getElem (by first | omega | (simp; omega)))⟩
        have fr := KB.free i1
        go_wp2
        go_meet
        have KA := KA.other (b := gb) (i := i1) hab (.int .i64 0)
        have KB := KB.set i1 0
        exact ⟨(La.set i 0).set i1 (d : Int), (La.set i (d : Int)).set i1 0, by rw [List.length_set, List.length_set]; exact hLa, by rw [List.length_set, List.length_set]; exact hLa, below_put (below_put hbA i (by omega) (by omega)) i1 (by omega) (by omega), below_put (below_put hbA i (by omega) (by omega)) i1 (by omega) (by omega), KA, KB, ⟨fun _ => Or.inl rfl, fun _ => by have := HI1.out; subst this; exact lost_two (by rw [HW.out]; exact hi1) (by rw [HW.out, hLa]) HZ.out⟩, hB.setCell (by exact hgb3) _⟩
    case false =>
      have CKa := Lib.hid (CK3.out j (by omega) (by omega))
      have CKb := Lib.hid (CK4.out m (by omega) (by omega))
      go_upto_region 29 with (go_at_call 21; refine (CKa.out _).mono ?_; rintro _ _ ⟨k, hk, rfl, rfl⟩)
      obtain ⟨y, hy⟩ : ∃ y, La[k]? = some y := ⟨_, List.getElem?_eq_getElem (by omega)⟩
      have hyb := belowT_mem hbA y (List.mem_of_getElem? hy)
      have hkj : (k : Int) < (j : Int) := by omega
      have cu := KB.cell hy
      have fr := KB.free k
      go_upto_region 30 with (go_at_call 21; refine (CKb.out _).mono ?_; rintro _ _ ⟨z, hz, rfl, rfl⟩)
      have KA := KA.other (b := gb) (i := k) hab (.int .i64 (z : Int))
      have KB := KB.set k (z : Int)
      have hB : Below W3.heap.size W3 (World.setCell W5 ⟨gb, k, none⟩ (.int .i64 (z : Int))) := hB.setCell (by exact hgb3) _
      generalize World.setCell W5 ⟨gb, k, none⟩ (.int .i64 (z : Int)) = W6 at KA KB hB ⊢
      clear cu fr CKa CKb
      have HNO := Lib.hid (fun i (hi : i < j) => isF_no HNF.out hi)
      have HIF : Hid (dotT W La % (m : Int) = dotT W (La.set k (z : Int)) % (m : Int) ↔ (false = true ∨ La = La.set k (z : Int))) := Lib.hid (by
        have e := sub_only hy (by rw [HW.out, hLa]) (HNO.out k hk).1 hyb (show 0 ≤ (z : Int) ∧ (z : Int) < (m : Int) by omega)
        exact ⟨fun h => Or.inr (e.1 h), fun h => e.2 (h.elim (fun h => by cases h) id)⟩)
      obtain ⟨k1, hk1⟩ : ∃ k1, k + 1 = k1 := ⟨_, rfl⟩
      have hk1z : (k : Int) + 1 = (k1 : Int) := by omega
      have HK1 := Lib.hid hk1
      obtain ⟨r, hr⟩ : ∃ r, x4.tmod 2 = r := ⟨_, rfl⟩
      clear hk1
      by_cases hev : r = 0
      · subst hev
        rcases Nat.lt_or_ge k1 j with h1 | h1
        · have h1z : (k1 : Int) < (j : Int) := by omega
          obtain ⟨x, hx⟩ : ∃ x, La[k1]? = some x := ⟨_, List.getElem?_eq_getElem (by omega)⟩
          have hxb := belowT_mem hbA x (List.mem_of_getElem? hx)
          have cx := KA.cell hx
          obtain ⟨u, hu⟩ : ∃ u, W6.cell? ⟨gb, k, none⟩ = some u := ⟨_, KB.cell (i := k) (List.getElem?_eq_getElem (by first | omega | (simp; omega)))⟩
          have fr := KB.free k
          have HX := Lib.hid hx
          have HY := Lib.hid hy
          clear hx hy
          go_upto_region 32 with (fail)
          have KA := KA.other (b := gb) (i := k) hab (.int .i64 x)
          have KB := KB.set k x
          rw [List.set_set] at KB
          have hB : Below W3.heap.size W3 (World.setCell W6 ⟨gb, k, none⟩ (.int .i64 x)) := hB.setCell (by exact hgb3) _
          generalize World.setCell W6 ⟨gb, k, none⟩ (.int .i64 x) = W7 at KA KB hB ⊢
          clear cx hu fr
          have cx := KA.cell HY.out
          obtain ⟨u, hu⟩ : ∃ u, W7.cell? ⟨gb, k1, none⟩ = some u := ⟨_, KB.cell (i := k1) (List.getElem?_eq_getElem (by first | omega | (simp; omega)))⟩
          have fr := KB.free k1
          go_wp2
          go_meet
          have KA := KA.other (b := gb) (i := k1) hab (.int .i64 y)
          have KB := KB.set k1 y
          refine ⟨La, (La.set k x).set k1 y, hLa, by rw [List.length_set, List.length_set]; exact hLa, hbA, below_put (below_put hbA k hxb.1 hxb.2) k1 hyb.1 hyb.2, KA, KB, ?_, hB.setCell (by exact hgb3) _⟩
          have hk1 := HK1.out
          subst hk1
          have e := swap_only HY.out HX.out (by rw [HW.out, hLa]) ((HNO.out k hk).2 (by rw [HW.out]; exact h1)) hyb hxb
          exact ⟨fun h => Or.inr (e.1 h), fun h => e.2 (h.elim (fun h => by cases h) id)⟩
        · have h1z : ¬ (k1 : Int) < (j : Int) := by omega
          clear hy
          go_wp2
          go_meet
          exact ⟨La, La.set k (z : Int), hLa, by rw [List.length_set]; exact hLa, hbA, below_put hbA k (by omega) (by omega), KA, KB, HIF.out, hB⟩
      · clear hy
        go_wp2
        go_meet
        exact ⟨La, La.set k (z : Int), hLa, by rw [List.length_set]; exact hLa, hbA, below_put hbA k (by omega) (by omega), KA, KB, HIF.out, hB⟩
  case rest =>
  obtain ⟨Lx, Ly, hLx, hLy, hbx, hby, KX, KY, hiff, hBc⟩ := hcut
  have BA := Lib.hid (link BA.out hBc)
  have hWi := hWi.keep hBc
  clear KA KB KF hB HSL HNF
  generalize wc = W9 at *
  have CSX := Lib.hid (by
    have hS : sumE W (m : Int) Lx = 0 := by unfold sumE; rw [if_neg (by rw [HS.out]; simp), if_neg (by rw [hbx, hLx, HW.out]; simp)]
    have := sum_any W Lx (m : Int) qw j cw HW.out (by omega) (some ⟨ga, 0, none⟩) j ca hLx (by omega) W9 hWi (KX.ints hbx (by omega))
    rw [hS, show sumT W (m : Int) Lx = dotT W Lx % (m : Int) from if_pos hS] at this
    exact this : Calls Try.prog 11 #[.slice qw j cw, .int .i64 (m : Int), .slice (some ⟨ga, 0, none⟩) j ca] W9 (PairR (dotT W Lx % (m : Int)) 0 W9))
  have CSY := Lib.hid (fun V (hV : Below W9.heap.size W9 V) => (by
    have hS : sumE W (m : Int) Ly = 0 := by unfold sumE; rw [if_neg (by rw [HS.out]; simp), if_neg (by rw [hby, hLy, HW.out]; simp)]
    have := sum_any W Ly (m : Int) qw j cw HW.out (by omega) (some ⟨gb, 0, none⟩) j cb hLy (by omega) V (hWi.keep hV) ((KY.keep hV).ints hby (by omega))
    rw [hS, show sumT W (m : Int) Ly = dotT W Ly % (m : Int) from if_pos hS] at this
    exact this : Calls Try.prog 11 #[.slice qw j cw, .int .i64 (m : Int), .slice (some ⟨gb, 0, none⟩) j cb] V (PairR (dotT W Ly % (m : Int)) 0 V)))
  have CSI := Lib.hid (fun V (hV : Below W9.heap.size W9 V) => sameInts_any Lx Ly (some ⟨ga, 0, none⟩) (some ⟨gb, 0, none⟩) j ca j cb hLx hLy (by omega) V (KX.at.keep hV) (KY.at.keep hV))
  obtain ⟨s, hsd⟩ : ∃ s, decide (Lx = Ly) = s := ⟨_, rfl⟩
  rw [hsd] at CSI
  generalize dotT W Lx % (m : Int) = X at CSX hiff
  generalize dotT W Ly % (m : Int) = Y at CSY hiff
  have hcase : (b = true ∧ X = Y) ∨ (b = false ∧ s = true ∧ X = Y) ∨ (b = false ∧ s = false ∧ ¬ X = Y) := by
    cases b
    · cases s
      · exact Or.inr (Or.inr ⟨rfl, rfl, fun h => (hiff.1 h).elim (fun h => by cases h) (fun h => by rw [decide_eq_true h] at hsd; cases hsd)⟩)
      · exact Or.inr (Or.inl ⟨rfl, rfl, hiff.2 (Or.inr (of_decide_eq_true hsd))⟩)
    · exact Or.inl ⟨rfl, hiff.2 (Or.inl rfl)⟩
  clear hiff hsd KX KY hbx hby hLx hLy hWi hBc
  go_upto_region 34 with (go_at_call 11; refine CSX.out.mono ?_; rintro _ w10 ⟨rfl, B10⟩)
  go_upto_region 35 with (go_at_call 11; refine (CSY.out _ B10).mono ?_; rintro _ w11 ⟨rfl, B11⟩)
  have B11 := link B10 B11
  clear B10 CSX CSY
  go_upto_region 36 with (go_at_call 22; refine (CSI.out _ B11).mono ?_; rintro _ w12 ⟨rfl, B12⟩)
  have B12 := link B11 B12
  clear B11 CSI
  rcases hcase with ⟨rfl, rfl⟩ | ⟨rfl, rfl, rfl⟩ | ⟨rfl, rfl, hne⟩
  · cases s
    · skip
      go_wp2_with (go_at_call 16; refine (CL.out _).mono ?_; rintro _ w9 ⟨rfl, B13⟩)
      go_ret
      exact ⟨rfl, link BA.out (link B12 B13)⟩
    · skip
      go_wp2_with (go_at_call 16; refine (CL.out _).mono ?_; rintro _ w9 ⟨rfl, B13⟩)
      go_ret
      exact ⟨rfl, link BA.out (link B12 B13)⟩
  · skip
    go_wp2_with (go_at_call 16; refine (CL.out _).mono ?_; rintro _ w9 ⟨rfl, B13⟩)
    go_ret
    exact ⟨rfl, link BA.out (link B12 B13)⟩
  · have hne2 : (X == Y) = false := by simp [hne]
    go_wp2_with (go_at_call 16; refine (CL.out _).mono ?_; rintro _ w9 ⟨rfl, B13⟩)
    go_ret
    exact ⟨rfl, link BA.out (link B12 B13)⟩
end Go.Proofs.Ytjpiidfoegaenaa
