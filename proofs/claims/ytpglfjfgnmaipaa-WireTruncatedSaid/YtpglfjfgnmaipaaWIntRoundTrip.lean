/-
  For every int and every byte slice passimlaw01.WireIntRoundTrip returns true and leaves its arguments as they were. No condition.
-/
import Derived.Test.YtpglfjfgnmaipaaWp
import Derived.Test.YtpglfjfgnmaipaaWr
import Derived.ArgAppend
import Derived.ProofKit
import Derived.OpenShut
namespace Go.Proofs.Ytpglfjfgnmaipaa
open Go.RowKit

/-- append(b, c...) where b has no room left: b's n bytes lie somewhere. -/
theorem push_full {W w : World} {ops : Array Oper} {rest : List Oper} {o : Oper} {a : Act} {Q : Exit → Act → World → Prop} (hgd : o.guard = none) (s x : Operand)
    (ho : o.op = .call { callee := .builtin .append, args := #[s, x], argTypes := #[28, 28] })
    (l m : List Nat) (g n k c : Nat) (hs : a.eval s = .slice (some ⟨g, 0, none⟩) n n) (hn : n = l.length) (hb : Below W.heap.size W w) (hl : Has w (some ⟨g, 0, none⟩) l)
    (A : Option Addr) (hx : a.eval x = .slice A k c) (hk : k = m.length) (hm : Has w A m) (hs2 : l.length + m.length ≤ 70368744177664)
    (h : ∀ B c' w', Below W.heap.size W w' → n + k ≤ c' → Has w' B (l ++ m) → wpList Try.prog ops Q rest (a.put o.dst (.slice B (n + k) c')) w') :
    wpList Try.prog ops Q (o :: rest) a w := by
  subst hn; subst hk
  obtain ⟨i0, hi, hz0, hz1, hz2⟩ := info_parts u8info
  rcases Nat.eq_zero_or_pos m.length with h0 | h0
  · have hm0 : m = [] := List.eq_nil_of_length_eq_zero h0
    subst hm0
    have hrun : (Builtin.append_ #[28, 28] o.type #[.slice (some ⟨g, 0, none⟩) l.length l.length, .slice A 0 c]).run Try.prog w = .ok (.slice (some ⟨g, 0, none⟩) l.length l.length) w := by
      cases A <;> simp [Builtin.append_, run_underlying Try.underlying28, sizeOf, typeInfo, hi, Builtin.lenOf, Builtin.firstCells, loadCells, loadCellsFrom, storeCells]
    refine wpList_plain hgd fun _ hK => ?_
    unfold Oper.wp execOp
    have hs' : a.eval x = .slice A 0 c := hx
    simp only [ho, resolve, invoke, builtin, Sem.run_bind, Sem.run_pure, Result.andThen_ok, List.map_toArray, List.map_cons, List.map_nil, hs, hs', hrun]
    exact hK _ _ (h (some ⟨g, 0, none⟩) l.length w hb (by simp) (by simpa using hl))
  · obtain ⟨_, ad, rfl, _, _⟩ := hm.at 0 m[0] (List.getElem?_eq_getElem h0)
    refine wpList_append_grows _ hgd s x 28 ho 5 i0 (.int .u8 0) 1 1 Try.underlying28 hi hz0 hz1 hz2 rfl (by decide) (some ⟨g, 0, none⟩) l.length l.length (bytesV l) hs (by simp) (by simp [bytesV]) ?d1 ad m.length c (bytesV m) hx (by simp [bytesV]) hm.cells ?d2 (by omega) ?d3 (by omega) ?_
    case d1 => intro b e; obtain rfl := (Option.some.inj e); exact hl.cells
    case d2 => intro u hu; obtain ⟨y, _, rfl⟩ := List.mem_map.1 hu; rfl
    case d3 => unfold maxLen; omega
    intro v' w' ho' hg'
    have ho2 := ho'
    rw [← bytesV_append] at ho2
    obtain ⟨g2, cap2, rfl, hc⟩ := own_cells ho2 (by omega)
    have hcap : l.length + m.length ≤ cap2 := by
      rcases ho'.2 with ⟨e0, _⟩ | ⟨g', cap', cur, hv, _, _, hcc, _⟩
      · cases e0
      · cases hv; exact hcc
    refine h _ _ w' (hb.grown hg' hb.size (by simp)) hcap ⟨hc, ?_⟩
    intro d hd
    rcases List.mem_append.1 hd with h1 | h1
    · exact hl.2 d h1
    · exact hm.2 d h1

set_option maxHeartbeats 400000 in
theorem intRoundTrip_any (x : Int) (hx1 : -9223372036854775808 ≤ x) (hx2 : x ≤ 9223372036854775807) (A : Option Addr) (l : List Nat) (n c : Nat) (w : World) (hn : n = l.length) (hs : n ≤ 9223372036854775807) (hr : Has w A l) :
    Calls Try.prog 6 #[.int .i64 x, .slice A n c] w (Told w true) := by
  subst hn
  by_cases h2000 : 2000 < l.length
  · have hd : decide ((2000 : Int) < (l.length : Int)) = true := by simp; omega
    go_enter Try.func6, Try.ntmps6
    go_wp2_with fail
    refine (sanity_any w).mono ?_
    rintro e w1 ⟨rfl, hB1⟩
    go_wp2
    go_ret
    exact ⟨rfl, hB1⟩
  · have hd : decide ((2000 : Int) < (l.length : Int)) = false := by simp; omega
    have hL := enc_length x hx1 hx2
    have hD := Lib.hid (dec_enc x hx1 hx2 l)
    have hE := enc_lt x hx1 hx2
    go_enter Try.func6, Try.ntmps6
    go_wp2_with fail
    refine (int_any x hx1 hx2 w).mono ?_
    rintro e w1 ⟨g, cap, rfl, hO⟩
    have hcap : (enc x).length ≤ cap := by
      rcases hO.1.2 with ⟨e0, _⟩ | ⟨g', cap', cur, hv, _, _, hcc, _⟩
      · cases e0
      · cases hv; exact hcc
    have hB1 := hO.below
    have hr1 := hr.keep hB1
    have hO1 := hO.has hE
    generalize enc x = E at hO hL hD hE hO1 hcap
    go_wp2_with (at_builtin; refine push_full (W := w) rfl _ _ rfl E l g E.length l.length c rfl rfl hB1 hO1 A rfl rfl hr1 (by omega) ?_)
    intro B c2 w2 hB2 hc2 hr2
    go_wp2_with fail
    have C := getInt_any B (E ++ l) (E.length + l.length) c2 w2 (by simp) hc2 (by omega) hr2
    rw [hD.out] at C
    simp only [three] at C
    refine C.mono ?_
    rintro e w3 ⟨rfl, rfl⟩
    have t1 : decide ((1 : Int) ≤ (E.length : Int)) = true := by simp; omega
    have t2 : decide ((E.length : Int) ≤ 9) = true := by simp; omega
    clear C hD hr2 hr1 hO1 hO hE
    go_wp2_with fail
    refine (sanity_any w2).mono ?_
    rintro e w4 ⟨rfl, hB4⟩
    go_wp2
    go_ret
    exact ⟨rfl, hB2.trans (hB4.mono hB2.size)⟩

theorem laidOut : laidOutB Try.prog = true := by kernel_rfl
theorem own : ownKnob Try.prog.godebug = none := by kernel_rfl
theorem cells5 : Try.prog.cellsOf 5 = 1 := by kernel_rfl

/-- A []byte argument, opened: its length, and its bytes wherever it starts. -/
theorem open_bytes {H : Type} {enc : TypeId × Value → H} {W : World} {v : Value} {d : DataW H} {ps : List MemPlace} (hval : Value.okWide Try.prog W .any 0 28 v) (h : DataW.Trod enc Try.prog W 0 (fun _ => true) true 28 v d ps)
    (hlt : ∀ x ∈ ps, x.block < W.heap.size) : ∃ A n c l, v = .slice A n c ∧ n = l.length ∧ n ≤ 9223372036854775807 ∧ n ≤ c ∧ Has W A l := by
  obtain ⟨A, n, c, rfl⟩ := Go.WideShapes.okWide_slice Try.underlying28 hval
  obtain ⟨fuel, hf⟩ := h
  rcases Go.ChangeShapes.open_ints Try.underlying28 Try.underlying5 cells5 hf with ⟨hcs, _⟩ | ⟨a, len, cap, zs, hcs, _, hl, hm, hz, hx, hcell, hwz⟩
  · simp [Value.cells] at hcs
    obtain ⟨rfl, rfl, rfl⟩ := hcs
    exact ⟨none, 0, 0, [], rfl, rfl, by omega, by omega, Has.none_ _ _⟩
  · simp [Value.cells] at hcs
    obtain ⟨rfl, rfl, rfl⟩ := hcs
    simp only [if_true] at hz
    simp only [Prod.mk.injEq] at hx
    obtain ⟨_, rfl⟩ := hx
    have hb : ∀ z ∈ zs, 0 ≤ z ∧ z < 256 := fun z hzm => by
      have := hwz z hzm
      simp [Lit.wf, IntKind.min, IntKind.max, IntKind.signed, IntKind.bits] at this
      omega
    refine ⟨some a, n, c, (zs.take n).map Int.toNat, rfl, by simp; omega, by unfold maxLen at hm; omega, hl, fun k u hk => ?_, fun y hy => ?_⟩
    · have hkn : k < n := by
        have := (List.getElem?_eq_some_iff.1 hk).1
        simp [bytesV] at this
        omega
      have hkz : k < zs.length := by omega
      refine ⟨a, rfl, hlt (.cell a.block (a.off + k)) (MemPlace.mem_row.2 ⟨k, hkz, rfl⟩), ?_⟩
      rw [hcell k hkz]
      have := hb zs[k] (List.getElem_mem hkz)
      simp only [bytesV, List.map_map, List.getElem?_map, List.getElem?_take, hkn, if_true, List.getElem?_eq_getElem hkz, Option.map_some, Function.comp, byteV, Option.some.injEq] at hk
      rw [← hk]
      simp [List.getD, List.getElem?_eq_getElem hkz]
      omega
    · obtain ⟨z, hz1, rfl⟩ := List.mem_map.1 hy
      have := hb z (List.mem_of_mem_take hz1)
      omega

namespace wireIntRoundTrip
open Go.ChangeShapes Go.WideShapes Go.ChangeAt Go.RowKit

set_option maxRecDepth 100000 in
theorem lifted (os : Os) (started : os.Started) (H : Type) (enc : TypeId × Value → H) :
    ReturnsInHanded {} Try.checked os 6 .any (Rows.wireIntRoundTripSpec.pre6 enc Try.prog Try.f6 Rows.wireIntRoundTripRow.domain false) (Rows.wireIntRoundTripSpec.post enc Try.prog Try.f6 false true false false) := by
  refine returnsInHanded_of_change (C := Try.checked) own started (by kernel_rfl) Try.func6
    (ChangeSpec.witness6 (enc := enc) (C := Try.checked) false ⟨#[], #[.int .i64 0, .slice none 0 0], []⟩ 8 (by kernel_rfl) (by kernel_rfl) (by kernel_rfl) (by kernel_rfl)) ?_
  intro W base args ds gs before hval0 hW hcnd _
  have hval : ∀ (j : Nat) t v, Try.f6.params[j]? = some t → args[j]? = some v → Value.okWide Try.prog W .any base t v := hval0
  have hW' := hW
  obtain ⟨p, q, hA0, hV, rfl, hfz, hnd⟩ := hW
  have hA : DataW.TrodAll enc Try.prog W 0 (fun _ => true) true Try.f6.params.toList args.toList ds p := hA0
  rw [Try.params6] at hA hval
  obtain ⟨v0, v1, d0, d1, p0, p1, rfl, rfl, rfl, h0, h1⟩ := trodAll_two hA
  obtain ⟨rfl, rfl⟩ := trodVars_none hV
  obtain ⟨a0, rfl, rfl, rfl, w0⟩ := open_int Try.underlying3 (hval 0 3 v0 rfl rfl) h0
  clear hA0 hval0
  simp only [List.append_nil] at hW'
  have hlt : ∀ x ∈ p1, x.block < W.heap.size := fun x hx => by simpa using hW'.lt x (by simpa using hx)
  obtain ⟨A, n, c, l, rfl, hn, hs, _, hr⟩ := open_bytes (hval 1 28 v1 rfl rfl) h1 hlt
  have hargs : ∀ (W' : World), Below W.heap.size W W' → DataW.Trod enc Try.prog W' 0 (fun b => decide (b < W.heap.size)) true 28 (.slice A n c) d1 p1 :=
    fun W' hB => Below.trod laidOut (by kernel_rfl) (of_decide_eq_true (by kernel_rfl)) h1 hB hlt
  have hwf := w0
  simp [Lit.wf, IntKind.min, IntKind.max, IntKind.signed, IntKind.bits] at hwf
  refine (intRoundTrip_any a0 hwf.1 hwf.2 A l n c W hn hs hr).mono fun e W' ⟨he, hB⟩ => ?_
  subst he
  refine ⟨_, rfl, _, _, _, [], [] ++ p1, [], hW', ?_, ?_, rfl, hB.frame _, fun h => by cases h⟩
  · exact trodAll_mk1 (shut_bool Try.underlying4 _)
  · exact trodAll_mk2 (shut_int Try.underlying3 w0) (hargs _ hB)

theorem over : Rows.wireIntRoundTripRow.holds Try.pinned (OpenSpec.ofChange Rows.wireIntRoundTripSpec) :=
  OpenClaim.holds_of_wide 6 Try.f6 rfl rfl rfl rfl rfl rfl rfl ⟨rfl, rfl, rfl, rfl, rfl⟩ rfl rfl rfl rfl rfl (by kernel_rfl) Try.func6 (by kernel_rfl)
    (of_decide_eq_true (by kernel_rfl)) (by unfold Func.isWrapper; first | (rw [if_pos (by decide +kernel)]; kernel_rfl) | (rw [if_neg (by decide +kernel)]; exact ⟨rfl, rfl⟩))
    (fun os started H enc _ => lifted os started H enc)

theorem proved : Rows.WireIntRoundTripSaid := over
#print axioms proved
end wireIntRoundTrip
end Go.Proofs.Ytpglfjfgnmaipaa
