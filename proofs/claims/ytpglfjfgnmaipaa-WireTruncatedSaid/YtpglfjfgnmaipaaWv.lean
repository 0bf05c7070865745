/-
  wire.Digests returns the encoding of lists of digests of bounded size.
-/
import Derived.Test.YtpglfjfgnmaipaaWq
import Derived.Deep.MidRow
import Derived.Deep.WholeRow
namespace Go.Proofs.Ytpglfjfgnmaipaa
open Go.RowKit

/-- A slice that starts at A has the digests l, each in 16 cells. -/
def DCells (w : World) (A : Option Addr) (l : List (List Nat)) : Prop :=
  ∀ k d, l[k]? = some d → Dig d ∧ ∃ ad, A = some ad ∧ ad.block < w.heap.size ∧ ∀ j u, (bytesV d)[j]? = some u → w.cell? (ad.add (k * 16 + j)) = some u
theorem DCells.keep {w w' : World} {A : Option Addr} {l : List (List Nat)} (h : DCells w A l) (hb : Below w.heap.size w w') : DCells w' A l := by
  intro k d hk
  obtain ⟨h1, ad, e, hlt, hc⟩ := h k d hk
  exact ⟨h1, ad, e, Nat.lt_of_lt_of_le hlt hb.size, fun j u hu => (hb.cell (by rw [block_add]; exact hlt)).trans (hc j u hu)⟩
theorem DCells.dig {w : World} {A : Option Addr} {l : List (List Nat)} (h : DCells w A l) : ∀ d ∈ l, Dig d := by
  intro d hd
  obtain ⟨k, hk⟩ := List.mem_iff_getElem?.1 hd
  exact (h k d hk).1

/-- Loading a digest that lies at a. -/
theorem load_dig {w : World} {ops : Array Oper} {rest : List Oper} {o : Oper} {a : Act} {Q : Exit → Act → World → Prop} (hgd : o.guard = none) (x : Operand)
    (ho : o.op = .load 57 x) (p : Addr) (hx : a.eval x = .pointer (some p)) (d : List Nat) (hd : d.length = 16) (hc : ∀ j u, (bytesV d)[j]? = some u → w.cell? (p.add j) = some u)
    (h : wpList Try.prog ops Q rest (a.put o.dst (.agg (bytesV d).toArray)) w) : wpList Try.prog ops Q (o :: rest) a w := by
  have hl : (loadCells p (bytesV d).length).run Try.prog w = .ok (bytesV d).toArray w := run_loadCells_list (P := Try.prog) w p (bytesV d) hc
  have hi : (Try.prog.info? 57).map (·.size) = some 16 := by kernel_rfl
  have hlen : (bytesV d).length = 16 := by rw [bytesV_length, hd]
  rw [hlen] at hl
  have hv : (loadVar 57 p).run Try.prog w = .ok (.agg (bytesV d).toArray) w := by
    cases hq : Try.prog.info? 57 with
    | none => simp [hq] at hi
    | some i =>
      have hs : i.size = 16 := by simpa [hq] using hi
      have hagg : (isAgg 57).run Try.prog w = .ok true w := by
        unfold isAgg
        rw [Sem.run_bind, run_underlying Try.underlying57 w]
        simp
      simp [loadVar, Sem.run_bind, hagg, sizeOf, typeInfo, hq, hs, hl]
  refine wpList_plain hgd fun _ hK => ?_
  unfold Oper.wp execOp
  simp only [ho, hx, Instr.loadAt, Instr.sureAddr, Sem.run_bind, Sem.run_pure, Result.andThen_ok, hv]
  exact hK _ _ h

/-- Storing a digest into the variable that was made last. -/
theorem store_dig {w : World} {ops : Array Oper} {rest : List Oper} {o : Oper} {a : Act} {Q : Exit → Act → World → Prop} (hgd : o.guard = none) (x y : Operand) (Z : Array Value)
    (ho : o.op = .store 57 x y) (hx : a.eval x = .pointer (some ⟨w.heap.size, 0, none⟩)) (d : List Nat) (hd : d.length = 16) (hy : a.eval y = .agg (bytesV d).toArray) (hZ : Z.size = 16)
    (h : wpList Try.prog ops Q rest (a.put o.dst undef) (w.alloc (.cells (bytesV d).toArray 57))) : wpList Try.prog ops Q (o :: rest) a (w.alloc (.cells Z 57)) := by
  have hlen : (bytesV d).toArray.size = 16 := by simp [bytesV_length, hd]
  have hs := run_storeAt_new (P := Try.prog) w 57 Z (bytesV d).toArray (by rw [hlen]; kernel_rfl) (by rw [hZ, hlen])
    (all_oneCell_toArray (fun v hv => by obtain ⟨y, _, rfl⟩ := List.mem_map.1 hv; rfl))
  refine wpList_plain hgd fun _ hK => ?_
  unfold Oper.wp execOp
  simp only [ho, hx, hy, Sem.run_bind, Sem.run_pure, Result.andThen_ok, hs]
  exact hK _ _ h

theorem new_cells (w : World) (d : List Nat) (t : TypeId) : ∀ j u, (bytesV d)[j]? = some u → (w.alloc (.cells (bytesV d).toArray t)).cell? ((⟨w.heap.size, 0, none⟩ : Addr).add j) = some u := by
  intro j u hj
  rw [Addr.add_mid, Nat.zero_add, World.cell?_alloc_mark]
  simpa using hj

set_option maxHeartbeats 400000 in
theorem digests_any (A : Option Addr) (l : List (List Nat)) (n c : Nat) (w : World) (hn : n = l.length) (hl : l.length ≤ 2199023255552) (hr : DCells w A l) :
    Calls Try.prog 22 #[.slice A n c] w (Made w (encD l)) := by
  subst hn
  have hA : l.length ≤ 0 ∨ ∃ ad, A = some ad := by
    rcases Nat.eq_zero_or_pos l.length with h | h
    · exact .inl (by omega)
    · obtain ⟨_, ad, e, _⟩ := hr 0 l[0] (List.getElem?_eq_getElem h)
      exact .inr ⟨ad, e⟩
  rcases hA with hA | ⟨ad, rfl⟩
  all_goals
    go_enter Try.func22, Try.ntmps22
    go_wp2_with fail
    refine (int_any _ (by omega) (by omega) _).mono ?_
    rintro e w1 ⟨g, cap, rfl, hO⟩
    go_wp2
    go_loopw [3, 11] (fun v i wr => ∃ k : Nat, k ≤ l.length ∧ i = .int .i64 k ∧ Own w wr v (partD l k)) (fun _ i _ => l.length - (intOf i).toNat)
    case atStart => exact ⟨0, by omega, rfl, by rw [partD_zero]; exact hO⟩
    case round =>
      obtain ⟨k, hk, rfl, hO2⟩ := hrel
      by_cases hlt : k < l.length
      · first
          | (exfalso; omega)
          | (obtain ⟨hdig, ad', e, _, hc⟩ := (hr.keep hO2.below) k l[k] (List.getElem?_eq_getElem hlt)
             obtain rfl : ad = ad' := by simpa using e
             have hpl := partD_length l k hr.dig hl
             have hps := Lib.hid (partD_step l k hlt)
             generalize l[k] = x at hc hdig hps
             have HC := Lib.hid hc
             clear hc e
             have hO3 : Own w (wr.alloc (.cells (bytesV x).toArray 57)) u3 (partD l k) := hO2.keep ((Below.refl _ _).alloc (Nat.le_refl _) _)
             go_wp2_with (first | (at_builtin; refine push_row (W := w) rfl _ _ rfl (partD l k) x _ rfl hO3 ⟨wr.heap.size, 0, none⟩ _ _ rfl hdig.1.symm (new_cells wr x _) ?_ ?_) | refine store_dig rfl _ _ _ rfl rfl x hdig.1 rfl rfl ?_ | refine load_dig rfl _ rfl (ad.add (k * 16)) rfl x hdig.1 (fun j u hu => by rw [add_add]; exact HC.out j u hu) ?_)
             · have := hdig.1
               omega
             · intro v5 w5 hO5
               clear hO3 hO2 HC
               go_wp2
               go_roundw
               case rel => exact ⟨k + 1, by omega, by go_num, by rw [hps.out]; exact hO5⟩
               case measure => simp [intOf]; omega)
      · obtain rfl : l.length = k := by omega
        go_wp2
        go_ret
        rw [partD_all] at hO2
        exact made_of (by simp [encD, enc_ne]) hO2

end Go.Proofs.Ytpglfjfgnmaipaa
