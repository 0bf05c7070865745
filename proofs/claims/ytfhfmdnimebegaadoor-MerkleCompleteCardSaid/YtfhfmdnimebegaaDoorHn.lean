/-
  Streams: what their cells are, how they grow; the laws for parts of a block, and for a copy out of a string.
-/
import Derived.Test.YtfhfmdnimebegaaDoorHc
import Derived.Lib.LazyBuf
import Derived.Lib.Strings
namespace Go.Proofs.YtfhfmdnimebegaaDoor
open Go.RowKit
set_option linter.unusedVariables false
set_option linter.unusedSimpArgs false

/-- The buffer B of a stream with the message m. -/
def Stm (m B : List Nat) : Prop := Byts B ∧ B.take (m.length % 64) = m.drop (64 * (m.length / 64)) ∧ ∀ y ∈ m, y < 256
def sth (m : List Nat) : St := hst m (m.length / 64)
/-- The buffer with x from place a on. -/
def put (B : List Nat) (a : Nat) (x : List Nat) : List Nat := B.take a ++ x ++ B.drop (a + x.length)
theorem stm_nil (B : List Nat) (h : Byts B) : Stm [] B := ⟨h, by simp, by simp⟩
theorem put_byts {B x : List Nat} {a : Nat} (hB : Byts B) (hx : ∀ y ∈ x, y < 256) (h : a + x.length ≤ 64) : Byts (put B a x) := by
  refine ⟨?_, fun y hy => ?_⟩
  · have := hB.1
    simp [put]
    omega
  · rcases List.mem_append.1 hy with h1 | h1
    · rcases List.mem_append.1 h1 with h2 | h2
      · exact hB.2 y (List.mem_of_mem_take h2)
      · exact hx y h2
    · exact hB.2 y (List.mem_of_mem_drop h1)
theorem put_take {m B x : List Nat} (hS : Stm m B) (h : m.length % 64 + x.length ≤ 64) : (put B (m.length % 64) x).take (m.length % 64 + x.length) = (m ++ x).drop (64 * (m.length / 64)) := by
  have hl : (B.take (m.length % 64)).length = m.length % 64 := by
    have := hS.1.1
    rw [List.length_take]
    omega
  unfold put
  rw [List.append_assoc, List.take_append, List.take_of_length_le (by omega), hl, show m.length % 64 + x.length - m.length % 64 = x.length by omega, List.take_left, hS.2.1, List.drop_append_of_le_length (by omega)]
theorem stm_part {m B x : List Nat} (hS : Stm m B) (hx : ∀ y ∈ x, y < 256) (h : m.length % 64 + x.length < 64) : Stm (m ++ x) (put B (m.length % 64) x) ∧ sth (m ++ x) = sth m := by
  have e1 : (m ++ x).length / 64 = m.length / 64 := by rw [List.length_append]; omega
  have e2 : (m ++ x).length % 64 = m.length % 64 + x.length := by rw [List.length_append]; omega
  refine ⟨⟨put_byts hS.1 hx (by omega), ?_, fun y hy => ?_⟩, ?_⟩
  · rw [e1, e2]
    exact put_take hS (by omega)
  · rcases List.mem_append.1 hy with h1 | h1
    · exact hS.2.2 y h1
    · exact hx y h1
  · unfold sth
    rw [e1]
    exact hst_append m x _ (by omega)
theorem stm_full {m B x : List Nat} (hS : Stm m B) (hx : ∀ y ∈ x, y < 256) (h : m.length % 64 + x.length = 64) : Stm (m ++ x) (put B (m.length % 64) x) ∧ sth (m ++ x) = comp (sth m) (put B (m.length % 64) x) := by
  have e1 : (m ++ x).length / 64 = m.length / 64 + 1 := by rw [List.length_append]; omega
  have e2 : (m ++ x).length % 64 = 0 := by rw [List.length_append]; omega
  have hP : Byts (put B (m.length % 64) x) := put_byts hS.1 hx (by omega)
  refine ⟨⟨hP, ?_, fun y hy => ?_⟩, ?_⟩
  · rw [e2, List.take_zero]
    symm
    apply List.drop_eq_nil_of_le
    rw [e1, List.length_append]
    omega
  · rcases List.mem_append.1 hy with h1 | h1
    · exact hS.2.2 y h1
    · exact hx y h1
  · unfold sth
    rw [e1, hst, hst_append m x _ (by omega)]
    congr 1
    have := put_take hS (x := x) (by omega)
    rw [h, List.take_of_length_le (by rw [hP.1]; omega)] at this
    rw [this, List.take_of_length_le]
    rw [List.length_drop, List.length_append]
    omega

/-- The cells of a stream. -/
def strV (s : St) (B : List Nat) (n : Nat) : List Value := wordsV (stL s) ++ (bytesV B ++ [.int .u64 (n : Int)])
theorem stL_length (s : St) : (wordsV (stL s)).length = 8 := by simp [wordsV, stL]
theorem strV_length (s : St) (B : List Nat) (n : Nat) (h : B.length = 64) : (strV s B n).length = 73 := by
  simp [strV, stL_length, bytesV_length, h]
theorem strV_cells (s : St) (B : List Nat) (n : Nat) : ∀ v ∈ strV s B n, v.oneCell' = true := by
  intro v hv
  rcases List.mem_append.1 hv with h | h
  · obtain ⟨y, _, rfl⟩ := List.mem_map.1 h; rfl
  · rcases List.mem_append.1 h with h | h
    · obtain ⟨y, _, rfl⟩ := List.mem_map.1 h; rfl
    · rw [List.mem_singleton.1 h]; rfl
theorem strV_state (s : St) (B : List Nat) (n : Nat) : ((strV s B n).drop 0).take 8 = wordsV (stL s) := by
  unfold strV
  rw [List.drop_zero, List.take_left' (stL_length s)]
theorem strV_block (s : St) (B : List Nat) (n : Nat) (h : B.length = 64) : ((strV s B n).drop 8).take 64 = bytesV B := by
  unfold strV
  rw [List.drop_left' (stL_length s), List.take_left' (by rw [bytesV_length]; exact h)]
theorem strV_count (s : St) (B : List Nat) (n : Nat) (h : B.length = 64) : (strV s B n)[72]? = some (.int .u64 (n : Int)) := by
  unfold strV
  rw [List.getElem?_append_right (by rw [stL_length]; omega), stL_length, List.getElem?_append_right (by rw [bytesV_length, h]; omega), bytesV_length, h]
  rfl
theorem strV_setCount (s : St) (B : List Nat) (n k : Nat) (h : B.length = 64) : (strV s B n).set 72 (.int .u64 (k : Int)) = strV s B k := by
  unfold strV
  rw [List.set_append_right _ _ (by rw [stL_length]; omega), stL_length, List.set_append_right _ _ (by rw [bytesV_length, h]; omega), bytesV_length, h]
  rfl
theorem strV_setState (s s' : St) (B : List Nat) (n : Nat) : splice (strV s B n) 0 (wordsV (stL s')) = strV s' B n := by
  unfold splice strV
  rw [List.take_zero, List.nil_append, Nat.zero_add, stL_length, List.drop_left' (stL_length s)]
theorem strV_put (s : St) (B x : List Nat) (n a : Nat) (h : B.length = 64) (ha : a + x.length ≤ 64) : splice (strV s B n) (8 + a) (bytesV x) = strV s (put B a x) n := by
  have h8 := stL_length s
  have hb : (bytesV B).length = 64 := by rw [bytesV_length]; exact h
  have e1 : (strV s B n).take (8 + a) = wordsV (stL s) ++ bytesV (B.take a) := by
    unfold strV
    rw [List.take_append, List.take_of_length_le (by omega), h8, show 8 + a - 8 = a by omega, List.take_append_of_le_length (by omega)]
    simp [bytesV]
  have e2 : (strV s B n).drop (8 + a + (bytesV x).length) = bytesV (B.drop (a + x.length)) ++ [.int .u64 (n : Int)] := by
    unfold strV
    rw [List.drop_append, List.drop_eq_nil_of_le (by omega), h8, List.nil_append, bytesV_length, show 8 + a + x.length - 8 = a + x.length by omega, List.drop_append_of_le_length (by omega)]
    simp [bytesV]
  unfold splice
  rw [e1, e2]
  unfold strV put
  simp [bytesV]

/-- A part of a block is read. -/
theorem load_part {w : World} {ops : Array Oper} {rest : List Oper} {o : Oper} {a : Act} {Q : Exit → Act → World → Prop} (hgd : o.guard = none) (ty : TypeId) (x : Operand) (ho : o.op = .load ty x)
    {b k : Nat} {t : TypeId} {cs ps : List Value} (h : Blk w b t cs) (hx : a.eval x = .pointer (some ⟨b, k, none⟩)) {n m : Nat} {e : TypeId} (hu : Tryd.prog.underlying ty = some (.array n e)) (hi : (Tryd.prog.info? ty).map (·.size) = some m) (hp : (cs.drop k).take m = ps) (hl : ps.length = m)
    (K : wpList Tryd.prog ops Q rest (a.put o.dst (.agg ps.toArray)) w) : wpList Tryd.prog ops Q (o :: rest) a w := by
  subst hl
  have hr := h.range k ps.length
  rw [hp] at hr
  exact wpList_load_mid hgd ty x ho b k hx ps (.array n e) hr hu rfl hi K
/-- A part of a block is written. -/
theorem store_part {w : World} {ops : Array Oper} {rest : List Oper} {o : Oper} {a : Act} {Q : Exit → Act → World → Prop} (hgd : o.guard = none) (ty : TypeId) (x y : Operand) (ho : o.op = .store ty x y)
    {b k : Nat} {t : TypeId} {cs vs : List Value} (h : Blk w b t cs) (hx : a.eval x = .pointer (some ⟨b, k, none⟩)) (hy : a.eval y = .agg vs.toArray) {m : Nat} (hi : (Tryd.prog.info? ty).map (·.size) = some m) (hl : vs.length = m) (hl2 : k + m ≤ cs.length) (h1 : ∀ v ∈ vs, v.oneCell' = true)
    (K : ∀ w', Blk w' b t (splice cs k vs) → Only b w w' → wpList Tryd.prog ops Q rest (a.put o.dst undef) w') : wpList Tryd.prog ops Q (o :: rest) a w := by
  subst hl
  refine wpList_store_mid hgd ty x y ho b k vs.toArray hx hy (by simpa using h.there k vs.length (by omega)) (by simpa using hi) (all_oneCell_toArray h1) (K _ ?_ (only_sets _ _ _ _))
  simpa using h.sets vs k (by omega)
/-- A struct that fills a block is read. -/
theorem load_struct {w : World} {ops : Array Oper} {rest : List Oper} {o : Oper} {a : Act} {Q : Exit → Act → World → Prop} (hgd : o.guard = none) (ty : TypeId) (x : Operand) (ho : o.op = .load ty x)
    {b : Nat} {t : TypeId} {cs : List Value} (h : Blk w b t cs) (hx : a.eval x = .pointer (some ⟨b, 0, none⟩)) {m : Nat} {fs : Array Field} (hu : Tryd.prog.underlying ty = some (.struct fs)) (hi : (Tryd.prog.info? ty).map (·.size) = some m) (hl : cs.length = m)
    (K : wpList Tryd.prog ops Q rest (a.put o.dst (.agg cs.toArray)) w) : wpList Tryd.prog ops Q (o :: rest) a w := by
  subst hl
  have hr := h.range 0 cs.length
  rw [List.drop_zero, List.take_length] at hr
  exact wpList_load_mid hgd ty x ho b 0 hx cs (.struct fs) hr hu rfl hi K
theorem Blk.resultS {w : World} {b : Nat} {t : TypeId} {cs : List Value} (h : Blk w b t cs) {fn : Func} {p : Tmp} {ty : TypeId} {fs : Array Field} (hr : fn.results = #[.cell p ty]) (tmps : Array Value) (hp : tmps.getD p undef = .pointer (some ⟨b, 0, none⟩))
    (hu : Tryd.prog.underlying ty = some (.struct fs)) (hi : (Tryd.prog.info? ty).map (·.size) = some cs.length) : (results fn tmps).run Tryd.prog w = .ok (.agg cs.toArray) w :=
  results_cell_row hr tmps w b t cs.toArray (0, 0) (.struct fs) hp h hu rfl (by simpa using hi)

theorem run_copy_str (w : World) (ty : TypeId) (b o dLen dCap n : Nat) (t : ByteArray) (hn : Nat.min t.size dLen = n)
    (hc : ∀ j, j < n → (w.cell? ⟨b, o + j, none⟩).isSome = true) (hf : ∀ j, j < n → w.frozen? ⟨b, o + j, none⟩ = false) :
    (Builtin.copy_ #[39, 9] ty #[.slice (some ⟨b, o, none⟩) dLen dCap, .string t]).run Tryd.prog w = .ok (goInt n) (w.setCells b o (bytesV ((sb t).take n))) := by
  have hz : ∀ w, (Go.sizeOf 5).run Tryd.prog w = .ok 1 w := fun w => by
    obtain ⟨i0, hi, hz0, hz1, hz2⟩ := info_parts u8info
    simp [sizeOf, typeInfo, hi, hz1]
  have hle : n ≤ t.size := by rw [← hn]; exact Nat.min_le_left _ _
  have hl : (bytesV ((sb t).take n)).length = n := by rw [bytesV_length, List.length_take, sb_length]; omega
  have hst := run_storeCells_cells (P := Tryd.prog) b o (bytesV ((sb t).take n)) 0 w (by rw [hl]; simpa using hc) (by rw [hl]; simpa using hf) (by
    intro v hv
    obtain ⟨x, _, rfl⟩ := List.mem_map.1 hv
    rfl)
  have e : List.take n (List.map (fun b : UInt8 => Value.int IntKind.u8 (b.toNat : Int)) t.data.toList) = bytesV ((sb t).take n) := by
    simp only [bytesV, sb, List.map_take, List.map_map]
    rfl
  simp [Builtin.copy_, run_underlying Tryd.underlying39, Builtin.lenOf, Builtin.firstCells, hz, hn]
  rw [e, hst]
  rfl
/-- copy(b[o:], t), t a string. -/
theorem copy_str {w : World} {ops : Array Oper} {rest : List Oper} {op : Oper} {a : Act} {Q : Exit → Act → World → Prop} (hgd : op.guard = none) (d x : Operand)
    (ho : op.op = .call { callee := .builtin .copy, args := #[d, x], argTypes := #[39, 9] }) {b o dLen dCap n : Nat} {T : TypeId} {cs : List Value} {t : ByteArray} (h : Blk w b T cs)
    (hd : a.eval d = .slice (some ⟨b, o, none⟩) dLen dCap) (hx : a.eval x = .string t) (hn : Nat.min t.size dLen = n) (hl : o + n ≤ cs.length)
    (K : ∀ w', Blk w' b T (splice cs o (bytesV ((sb t).take n))) → Only b w w' → wpList Tryd.prog ops Q rest (a.put op.dst (.int .i64 (n : Int))) w') : wpList Tryd.prog ops Q (op :: rest) a w := by
  have hle : n ≤ t.size := by rw [← hn]; exact Nat.min_le_left _ _
  have hlen : (bytesV ((sb t).take n)).length = n := by rw [bytesV_length, List.length_take, sb_length]; omega
  have hrun := run_copy_str w op.type b o dLen dCap n t hn (fun j hj => (h.there o n hl j hj).1) (fun j hj => (h.there o n hl j hj).2)
  refine wpList_plain hgd fun _ hK => ?_
  unfold Oper.wp
  simp [execOp, ho, resolve, invoke, builtin, hd, hx, hrun, Result.andThen]
  exact hK _ _ (K _ (h.sets _ o (by rw [hlen]; exact hl)) (only_sets _ _ _ _))

theorem size_u8 (w : World) : (Go.sizeOf 5).run Tryd.prog w = .ok 1 w := by
  obtain ⟨i0, hi, hz0, hz1, hz2⟩ := info_parts u8info
  simp [sizeOf, typeInfo, hi, hz1]
/-- x[a:], x an array of 64 bytes. -/
theorem slice_from (w : World) (b o a : Nat) (h : a < 64) : (Instr.sliceAt 120 (.pointer (some ⟨b, o, none⟩)) (some (.int .i64 (a : Int))) none none).run Tryd.prog w = .ok (.slice (some ⟨b, o + a, none⟩) (64 - a) (64 - a)) w := by
  have hL : Tryd.prog.arrayLen 120 = 64 := by kernel_rfl
  have hE : Tryd.prog.elem 120 = 5 := by kernel_rfl
  have ht : Tryd.prog.underlying 120 = some (.array (Tryd.prog.arrayLen 120) (Tryd.prog.elem 120)) := by rw [hL, hE]; exact Tryd.underlying120
  rw [run_sliceAt_array_l w _ _ ht .i64 (a : Int) (by omega) (by rw [hL]; omega), hE, size_u8, hL]
  simp only [Result.andThen_ok, slicedAt, Int.toNat_natCast, Nat.mul_one, Addr.add_mid, if_neg (show ¬ 64 = a by omega)]
/-- x[:], x an array of 64 bytes, or of 32. -/
theorem slice_all (w : World) (b o : Nat) : (Instr.sliceAt 120 (.pointer (some ⟨b, o, none⟩)) none none none).run Tryd.prog w = .ok (.slice (some ⟨b, o, none⟩) 64 64) w := by
  have hL : Tryd.prog.arrayLen 120 = 64 := by kernel_rfl
  have hE : Tryd.prog.elem 120 = 5 := by kernel_rfl
  have ht : Tryd.prog.underlying 120 = some (.array (Tryd.prog.arrayLen 120) (Tryd.prog.elem 120)) := by rw [hL, hE]; exact Tryd.underlying120
  rw [run_sliceAt_array_all w _ _ ht, hE, size_u8, hL]
  simp [Result.andThen_ok, slicedAt, Addr.add_mid]
theorem slice_all32 (w : World) (b o : Nat) : (Instr.sliceAt 114 (.pointer (some ⟨b, o, none⟩)) none none none).run Tryd.prog w = .ok (.slice (some ⟨b, o, none⟩) 32 32) w := by
  have hL : Tryd.prog.arrayLen 114 = 32 := by kernel_rfl
  have hE : Tryd.prog.elem 114 = 5 := by kernel_rfl
  have ht : Tryd.prog.underlying 114 = some (.array (Tryd.prog.arrayLen 114) (Tryd.prog.elem 114)) := by rw [hL, hE]; exact Tryd.underlying114
  rw [run_sliceAt_array_all w _ _ ht, hE, size_u8, hL]
  simp [Result.andThen_ok, slicedAt, Addr.add_mid]
/-- x[:h], x an array of 72 bytes. -/
theorem slice_upto (w : World) (b o h : Nat) (hh : h ≤ 72) : (Instr.sliceAt 133 (.pointer (some ⟨b, o, none⟩)) none (some (.int .i64 (h : Int))) none).run Tryd.prog w = .ok (.slice (some ⟨b, o, none⟩) h 72) w := by
  have hL : Tryd.prog.arrayLen 133 = 72 := by kernel_rfl
  have hE : Tryd.prog.elem 133 = 5 := by kernel_rfl
  have ht : Tryd.prog.underlying 133 = some (.array (Tryd.prog.arrayLen 133) (Tryd.prog.elem 133)) := by rw [hL, hE]; exact Tryd.underlying133
  rw [run_sliceAt_array_h w _ _ ht .i64 (h : Int) (by omega) (by rw [hL]; omega), hE, size_u8, hL]
  simp [Result.andThen_ok, slicedAt, Addr.add_mid]

theorem sb_tail (t : ByteArray) (k : Nat) (hk : k ≤ t.size) : sb (t.extract k t.size) = (sb t).drop k := by
  unfold sb
  rw [Lib.extract_data, List.take_of_length_le (by rw [List.length_drop, ← Lib.size_eq]; exact Nat.le_refl _), List.map_drop]
theorem size_tail (t : ByteArray) (k : Nat) (hk : k ≤ t.size) : (t.extract k t.size).size = t.size - k := by
  rw [← sb_length, sb_tail t k hk, List.length_drop, sb_length]

end Go.Proofs.YtfhfmdnimebegaaDoor
