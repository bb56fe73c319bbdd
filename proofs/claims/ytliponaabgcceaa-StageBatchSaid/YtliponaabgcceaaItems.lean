/-
  Items of a list: what they are, whole loads and stores, the comparison.
-/
import Derived.Test.YtliponaabgcceaaPair
import Derived.ChangeKeysEq
import Derived.Laws.StructEq
import Derived.Deep.Cut
namespace Go.Proofs.Ytliponaabgcceaa
open Go.RowKit
set_option linter.unusedVariables false

/-- An item. -/
structure It where
  k : Int
  id : List Int
  s : Int
  f : Int
  o : Int
  l : Int
def It.cs (x : It) : List Value := .int .i64 x.k :: (x.id.map (Value.int .u8) ++ [.int .i64 x.s, .int .i64 x.f, .int .i64 x.o, .int .i64 x.l])
def It.ok (x : It) : Prop := x.id.length = 32
theorem It.len {x : It} (h : x.ok) : x.cs.length = 37 := by unfold It.cs; simp; rw [h]
theorem It.one (x : It) : ∀ v ∈ x.cs, v.oneCell' = true := by
  intro v hv
  unfold It.cs at hv
  simp only [List.mem_cons, List.mem_append, List.mem_map, List.mem_nil_iff, or_false] at hv
  rcases hv with rfl | ⟨_, _, rfl⟩ | rfl | rfl | rfl | rfl <;> rfl
theorem It.get {x : It} (h : x.ok) : x.cs[0]? = some (.int .i64 x.k) ∧ x.cs[33]? = some (.int .i64 x.s) ∧ x.cs[34]? = some (.int .i64 x.f) ∧ x.cs[35]? = some (.int .i64 x.o) ∧ x.cs[36]? = some (.int .i64 x.l) := by
  have hl : (x.id.map (Value.int .u8)).length = 32 := by rw [List.length_map]; exact h
  unfold It.cs
  refine ⟨rfl, ?_, ?_, ?_, ?_⟩
  all_goals
    rw [List.getElem?_cons, if_neg (by decide), List.getElem?_append_right (by rw [hl]; decide), hl]
    rfl
theorem It.ids {x : It} (h : x.ok) (j : Nat) (hj : j < 32) : x.cs[1 + j]? = some (.int .u8 (x.id.getD j 0)) := by
  have hl : (x.id.map (Value.int .u8)).length = 32 := by rw [List.length_map]; exact h
  unfold It.cs
  rw [List.getElem?_cons, if_neg (by omega), List.getElem?_append_left (by rw [hl]; omega)]
  have : 1 + j - 1 = j := by omega
  rw [this, List.getElem?_map, List.getElem?_eq_getElem (by rw [h]; exact hj)]
  simp [List.getD, List.getElem?_eq_getElem (show j < x.id.length by rw [h]; exact hj)]

theorem step_store_fl {P : Program} {w : World} {ops : Array Oper} {o : Oper} {a : Act} {K : Act → World → Prop} {Q : Exit → Act → World → Prop} {E : Prop} (hgd : o.guard = none) (ty : TypeId) (x y : Operand) (ho : o.op = .store ty x y)
    (g : Nat) (cs : List Value) (hx : a.eval x = .pointer (some ⟨g, 0, none⟩)) (hy : a.eval y = .agg cs.toArray) (t : TypeId) (old : Array Value) (hg : w.heap[g]? = some (.cells old t (0, 0))) (hi : (P.info? ty).map (·.size) = some cs.length) (hold : old.size = cs.length) (h1 : ∀ v ∈ cs, v.oneCell' = true)
    (h : ∀ w', w'.heap[g]? = some (.cells cs.toArray t (0, 0)) → (∀ b, b ≠ g → w'.heap[b]? = w.heap[b]?) → w'.heap.size = w.heap.size → (∀ B w0, B ≤ g → Below B w0 w → Below B w0 w') → K (a.put o.dst undef) w') :
    if Region.wanted o (yielded ops a.tmps) = true then Oper.wp P o a w K Q else E := by
  have hw : Region.wanted o (yielded ops a.tmps) = true := by simp [Region.wanted, hgd]
  rw [if_pos hw]
  refine wp_store_row ty x y ho g cs.toArray hx hy t old hg (by simpa using hi) (by simpa using hold) (all_oneCell_toArray h1) ?_
  refine h _ (setRow_heap w g _ _ t _ hg) (fun b hb => setRow_other w g b _ hb) (by simp) (fun B w0 hB hb => ⟨hb.os, hb.tape, hb.output, by simpa using hb.size, fun b hlt => ?_⟩)
  rw [setRow_other w g b _ (by omega)]; exact hb.block b hlt

theorem plain5 : Try.prog.plainKey 5 = true := by kernel_rfl
theorem cells5 : Try.prog.cellsOf 5 = 1 := by kernel_rfl
theorem id_items_eq (d : Nat) (xs ys : List Int) (hx : xs.length = 32) (hy : ys.length = 32) (w : World) : ∀ is : List Nat, (∀ i ∈ is, i < 32) →
    (Op.eqItems (d + 1) 5 1 (xs.map (Value.int .u8)).toArray (ys.map (Value.int .u8)).toArray is).run Try.prog w = .ok (is.all fun i => xs.getD i 0 == ys.getD i 0) w
  | [], _ => by simp [Op.eqItems]
  | i :: is, h => by
    have hi := h i (by simp)
    have ih := id_items_eq d xs ys hx hy w is (fun j hj => h j (by simp [hj]))
    have p1 : (part 5 (xs.map (Value.int .u8)).toArray (i * 1)).run Try.prog w = .ok (.int .u8 (xs.getD i 0)) w := run_part_plain w plain5 (by simp [List.getD, hi, hx])
    have p2 : (part 5 (ys.map (Value.int .u8)).toArray (i * 1)).run Try.prog w = .ok (.int .u8 (ys.getD i 0)) w := run_part_plain w plain5 (by simp [List.getD, hi, hy])
    have p3 : (Op.equalIn (d + 1) 5 (.int .u8 (xs.getD i 0)) (.int .u8 (ys.getD i 0))).run Try.prog w = .ok (xs.getD i 0 == ys.getD i 0) w := run_equalIn_int w d 5 .u8 .u8 _ _ Try.underlying5
    simp only [Op.eqItems, Sem.run_bind, p1, p2, p3, Result.andThen_ok, List.all_cons]
    cases hb : (xs.getD i 0 == ys.getD i 0)
    · simp
    · simpa using ih
theorem id_all_eq (xs ys : List Int) (hx : xs.length = 32) (hy : ys.length = 32) : ((List.range 32).all fun i => xs.getD i 0 == ys.getD i 0) = decide (xs = ys) := by
  rw [Bool.eq_iff_iff, List.all_eq_true, decide_eq_true_iff]
  constructor
  · intro h
    apply List.ext_getElem (by omega)
    intro i h1 h2
    have := h i (by simp; omega)
    simpa [List.getD, h1, h2] using this
  · rintro rfl i _
    simp
theorem info49 : (Try.prog.info? 49).map (·.size) = some 32 := by kernel_rfl
/-- Nothing, as cells. -/
def zeroIt : Array Value := (.int .i64 0 :: (List.replicate 32 (Value.int .u8 0) ++ [.int .i64 0, .int .i64 0, .int .i64 0, .int .i64 0])).toArray
theorem it_alloc (V : World) : (Instr.alloc 51 true (.tuple #[])).run Try.prog V = .ok (.pointer (some ⟨V.heap.size, 0, none⟩)) (V.alloc (.cells zeroIt 51 (0, 0))) := by
  obtain ⟨i0, hi, hz⟩ : ∃ i0, Try.prog.info? 51 = some i0 ∧ i0.zero.map (·.cells) = some zeroIt := by
    cases h : Try.prog.info? 51 with
    | none => have := (by kernel_rfl : (Try.prog.info? 51).isSome = true); rw [h] at this; cases this
    | some i => exact ⟨i, rfl, by have := (by kernel_rfl : (Try.prog.info? 51).bind (fun i => i.zero.map (·.cells)) = some zeroIt); rw [h] at this; exact this⟩
  obtain ⟨z, hz1, hz2⟩ : ∃ z, i0.zero = some z ∧ z.cells = zeroIt := by
    cases h : i0.zero with
    | none => rw [h] at hz; cases hz
    | some z => rw [h] at hz; exact ⟨z, rfl, by simpa using hz⟩
  simp [Instr.alloc, zeroValue, typeInfo, hi, hz1, hz2, newVar, newRow, Sem.run_bind, Result.andThen]
theorem it_size : (Try.prog.info? 51).map (·.size) = some zeroIt.size := by kernel_rfl
theorem info51s : (Try.prog.info? 51).map (·.size) = some 37 := by kernel_rfl
theorem arr49 : Try.prog.underlying 49 = some (.array 32 5) := by kernel_rfl
theorem id_equal (xs ys : List Int) (hx : xs.length = 32) (hy : ys.length = 32) (w : World) :
    (Op.equalIn 10000 49 (.agg (xs.map (Value.int .u8)).toArray) (.agg (ys.map (Value.int .u8)).toArray)).run Try.prog w = .ok (decide (xs = ys)) w := by
  obtain ⟨i0, hi⟩ : ∃ i0, Try.prog.info? 5 = some i0 := by
    cases h : Try.prog.info? 5 with
    | none => have := (by kernel_rfl : (Try.prog.info? 5).isSome = true); rw [h] at this; cases this
    | some i => exact ⟨i, rfl⟩
  rw [show (10000 : Nat) = 9999 + 1 from rfl, run_equalIn_array w 9999 _ _ arr49 hi, cells5, ← id_all_eq xs ys hx hy]
  exact id_items_eq 9998 xs ys hx hy w (List.range 32) (fun i h => by simpa using h)
theorem id_neq (xs ys : List Int) (hx : xs.length = 32) (hy : ys.length = 32) (w : World) : (binOp .neq 49 (.agg (xs.map (Value.int .u8)).toArray) (.agg (ys.map (Value.int .u8)).toArray)).run Try.prog w = .ok (.bool (!decide (xs = ys))) w := by
  rw [run_neq_struct, id_equal _ _ hx hy]; rfl
/-- A block that holds an item. -/
def IB (w : World) (g : Nat) (x : It) : Prop := w.heap[g]? = some (.cells x.cs.toArray 51 (0, 0))
theorem IB.c {w : World} {g : Nat} {x : It} (h : IB w g x) (hx : x.ok) : w.cell? ⟨g, 0, none⟩ = some (.int .i64 x.k) ∧ w.cell? ⟨g, 33, none⟩ = some (.int .i64 x.s) ∧ w.cell? ⟨g, 34, none⟩ = some (.int .i64 x.f) ∧ w.cell? ⟨g, 35, none⟩ = some (.int .i64 x.o) ∧ w.cell? ⟨g, 36, none⟩ = some (.int .i64 x.l) := by
  obtain ⟨a, b, c, d, e⟩ := It.get hx
  refine ⟨?_, ?_, ?_, ?_, ?_⟩
  all_goals
    rw [Joins.cell_of_block h, List.getElem?_toArray]
    assumption
theorem IB.load {w : World} {g : Nat} {x : It} (h : IB w g x) (hx : x.ok) : (Instr.loadAt 49 (.pointer (some ⟨g, 1, none⟩))).run Try.prog w = .ok (.agg (x.id.map (Value.int .u8)).toArray) w := by
  refine run_loadAt_mid w g 1 49 (x.id.map (Value.int .u8)) (.array 32 5) (fun j v hj => ?_) arr49 rfl (by rw [List.length_map, hx]; exact info49)
  have hlt : j < 32 := by have := (List.getElem?_eq_some_iff.1 hj).1; rw [List.length_map, hx] at this; exact this
  rw [Joins.cell_of_block h, List.getElem?_toArray, It.ids hx j hlt, ← hj, List.getElem?_map, List.getElem?_eq_getElem (by rw [hx]; exact hlt)]
  simp [List.getD, List.getElem?_eq_getElem (show j < x.id.length by rw [hx]; exact hlt)]
theorem wpList_load_want {P : Program} {ops : Array Oper} {rest : List Oper} {op : Oper} {a : Act} {w : World} {Q : Exit → Act → World → Prop} (ty : TypeId) (x : Operand) (ho : op.op = .load ty x) (hw : Region.wanted op (yielded ops a.tmps) = true)
    (b o : Nat) (hx : a.eval x = .pointer (some ⟨b, o, none⟩)) (cs : List Value) (d : TypeDesc) (hc : w.rangeAt b o cs)
    (hu : P.underlying ty = some d) (hd : d.isRow = true) (hi : (P.info? ty).map (·.size) = some cs.length)
    (h : wpList P ops Q rest (a.put op.dst (.agg cs.toArray)) w) : wpList P ops Q (op :: rest) a w :=
  wpList_step fun _ hK => by rw [if_pos hw]; exact wp_load_mid ty x ho b o hx cs d hc hu hd hi (hK _ _ h)
theorem IB.ids {w : World} {g : Nat} {x : It} (h : IB w g x) (hx : x.ok) : w.rangeAt g 1 (x.id.map (Value.int .u8)) := fun j v hj => by
  have hlt : j < 32 := by have := (List.getElem?_eq_some_iff.1 hj).1; rw [List.length_map, hx] at this; exact this
  rw [Joins.cell_of_block h, List.getElem?_toArray, It.ids hx j hlt, ← hj, List.getElem?_map, List.getElem?_eq_getElem (by rw [hx]; exact hlt)]
  simp [List.getD, List.getElem?_eq_getElem (show j < x.id.length by rw [hx]; exact hlt)]
theorem it_load {w : World} {b o : Nat} {x : It} (hx : x.ok) (h : w.rangeAt b o x.cs) : (Instr.loadAt 51 (.pointer (some ⟨b, o, none⟩))).run Try.prog w = .ok (.agg x.cs.toArray) w :=
  run_loadAt_mid w b o 51 x.cs _ h Try.underlying51 rfl (by rw [It.len hx]; exact info51s)
theorem it_eq (x y : It) : x = y ↔ (x.k != y.k) = false ∧ decide (x.id = y.id) = true ∧ (x.s != y.s) = false ∧ (x.f != y.f) = false ∧ (x.o != y.o) = false ∧ (x.l != y.l) = false := by
  obtain ⟨a, b, c, d, e, f⟩ := x
  obtain ⟨a', b', c', d', e', f'⟩ := y
  simp

set_option maxRecDepth 100000 in
set_option maxHeartbeats 4000000 in
theorem items_cmp (a b : Option Addr) (n m ca cb : Nat) (xs ys : List It) (w : World) (hx : xs.length = n) (hy : ys.length = m) (hm : n ≤ maxLen) (h1 : FR w a 37 (xs.map It.cs)) (h2 : FR w b 37 (ys.map It.cs)) (o1 : ∀ x ∈ xs, x.ok) (o2 : ∀ x ∈ ys, x.ok) (r : Bool) (hr : r = true ↔ xs = ys) :
    Calls Try.prog 11 #[.slice a n ca, .slice b m cb] w fun e w' => e = .returned (.bool r) ∧ Below w.heap.size w w' := by
  unfold maxLen at hm
  by_cases hnm : n = m
  · subst hnm
    have d1 : ((n : Int) != (n : Int)) = false := by simp
    have HX := Lib.hid hx; have HY := Lib.hid hy; have H1 := Lib.hid h1; have H2 := Lib.hid h2; have O1 := Lib.hid o1; have O2 := Lib.hid o2; have HR := Lib.hid hr
    clear hx hy h1 h2 o1 o2 hr
    go_enter Try.func11, Try.ntmps11
    go_wp2
    clear d1
    go_loopw [5] (fun i wr => ∃ k : Nat, k ≤ n ∧ i = .int .i64 k ∧ xs.take k = ys.take k ∧ Below w.heap.size w wr) (fun i _ => n - (intOf i).toNat)
    case atStart => exact ⟨0, Nat.zero_le _, rfl, rfl, Below.refl _ _⟩
    case round =>
      obtain ⟨k, hk, rfl, hall, hB⟩ := hrel
      have HALL := Lib.hid hall; have HB := Lib.hid hB
      clear hall hB
      by_cases hlt : k < n
      · have e2 : decide ((k : Int) < (n : Int)) = true := decide_eq_true (by omega)
        have k1 : k < xs.length := by rw [HX.out]; exact hlt
        have k2 : k < ys.length := by rw [HY.out]; exact hlt
        obtain ⟨b1, p1, rfl, hc1⟩ := (H1.out.below HB.out).at (by simp; omega)
        obtain ⟨b2, p2, rfl, hc2⟩ := (H2.out.below HB.out).at (by simp; omega)
        have hc1 := hc1 k (by simp; exact k1)
        have hc2 := hc2 k (by simp; exact k2)
        rw [List.getElem_map] at hc1 hc2
        obtain ⟨x, hx⟩ : ∃ x, x = xs[k] := ⟨_, rfl⟩
        obtain ⟨y, hy⟩ : ∃ y, y = ys[k] := ⟨_, rfl⟩
        rw [← hx] at hc1
        rw [← hy] at hc2
        have ox : x.ok := O1.out x (by rw [hx]; exact List.getElem_mem k1)
        have oy : y.ok := O2.out y (by rw [hy]; exact List.getElem_mem k2)
        have hst : x = y → xs.take (k + 1) = ys.take (k + 1) := fun e => by
          rw [List.take_succ_eq_append_getElem k1, List.take_succ_eq_append_getElem k2, HALL.out, ← hx, ← hy, e]
        have hno : x ≠ y → r = false := fun e => by
          cases hrr : r with
          | false => rfl
          | true =>
            refine absurd ?_ e
            have := HR.out.1 hrr
            subst this
            rw [hx, hy]
        have HST := Lib.hid hst; have HNO := Lib.hid hno; have OX := Lib.hid ox; have OY := Lib.hid oy; have HC1 := Lib.hid hc1; have HC2 := Lib.hid hc2
        have i1 : (0 : Int) ≤ (k : Int) := by omega
        have i2 : (k : Int) < (n : Int) := by omega
        clear hst hno ox oy hx hy k1 k2
        go_upto_region 6 with (fail)
        refine wp_region_pair (by kernel_rfl) (by kernel_rfl) rfl [_, _, _, _, _, _, _, _] _ _ _ _ rfl rfl rfl rfl rfl 6 7 22 26 51 zeroIt rfl rfl rfl rfl rfl rfl rfl rfl rfl rfl rfl rfl it_alloc it_size x.cs y.cs (by rw [It.len OX.out]; rfl) (by rw [It.len OY.out]; rfl) (It.one x) (It.one y) (by decide) (by decide) (by decide) (by decide) (by decide) ?_
        refine ⟨.slice (some ⟨b1, p1, none⟩) n ca, .inl ⟨rfl, fun V _ => ?_⟩, .int .i64 k, .inl ⟨rfl, fun V _ => ?_⟩, .pointer (some ⟨b1, p1 + k * 37, none⟩), .inl ⟨rfl, fun V _ => ?_⟩, _, yieldsIf_load_mid rfl 51 (.tmp 21) rfl b1 (p1 + k * 37) rfl x.cs _ (fun V hV => rangeAt_below HC1.out hV) Try.underlying51 rfl (by rw [It.len OX.out]; exact info51s),
          .slice (some ⟨b2, p2, none⟩) n cb, .inl ⟨rfl, fun V _ => ?_⟩, .int .i64 k, .inl ⟨rfl, fun V _ => ?_⟩, .pointer (some ⟨b2, p2 + k * 37, none⟩), .inl ⟨rfl, fun V _ => ?_⟩, _, yieldsIf_load_mid rfl 51 (.tmp 25) rfl b2 (p2 + k * 37) rfl y.cs _ (fun V hV => rangeAt_below HC2.out hV) Try.underlying51 rfl (by rw [It.len OY.out]; exact info51s), ?_⟩
        · go_simp
        · go_simp
        · go_simp
        · go_simp
        · go_simp
        · go_simp
        refine ⟨⟨?_, ?_⟩, ?_, ?_, ?_⟩
        · go_simp
        · go_simp
        · go_simp
        · go_simp
        intro g6 g7 w6 hB6 hx6 hy6
        go_simp
        obtain ⟨q0, q1, q2, q3, q4⟩ := IB.c (x := x) hx6 OX.out
        obtain ⟨r0, r1, r2, r3, r4⟩ := IB.c (x := y) hy6 OY.out
        have ld6 := IB.ids (x := x) hx6 OX.out
        have ld7 := IB.ids (x := y) hy6 OY.out
        have hne := id_neq x.id y.id OX.out OY.out w6
        have heq := id_equal x.id y.id OX.out OY.out w6
        obtain ⟨b0, hb0⟩ : ∃ v, v = (x.k != y.k) := ⟨_, rfl⟩
        obtain ⟨bi, hbi⟩ : ∃ v, v = decide (x.id = y.id) := ⟨_, rfl⟩
        obtain ⟨bs, hbs⟩ : ∃ v, v = (x.s != y.s) := ⟨_, rfl⟩
        obtain ⟨bf, hbf⟩ : ∃ v, v = (x.f != y.f) := ⟨_, rfl⟩
        obtain ⟨bo, hbo⟩ : ∃ v, v = (x.o != y.o) := ⟨_, rfl⟩
        obtain ⟨bl, hbl⟩ : ∃ v, v = (x.l != y.l) := ⟨_, rfl⟩
        have hxy := it_eq x y
        rw [← hb0, ← hbi, ← hbs, ← hbf, ← hbo, ← hbl] at hxy
        rw [← hbi] at hne heq
        have HXY := Lib.hid hxy
        have HB6 := Lib.hid (HB.out.trans (hB6.mono HB.out.size))
        obtain ⟨xk, hxk⟩ : ∃ v, v = x.k := ⟨_, rfl⟩
        obtain ⟨yk, hyk⟩ : ∃ v, v = y.k := ⟨_, rfl⟩
        obtain ⟨xs', hxs⟩ : ∃ v, v = x.s := ⟨_, rfl⟩
        obtain ⟨ys', hys⟩ : ∃ v, v = y.s := ⟨_, rfl⟩
        obtain ⟨xf, hxf⟩ : ∃ v, v = x.f := ⟨_, rfl⟩
        obtain ⟨yf, hyf⟩ : ∃ v, v = y.f := ⟨_, rfl⟩
        obtain ⟨xo, hxo⟩ : ∃ v, v = x.o := ⟨_, rfl⟩
        obtain ⟨yo, hyo⟩ : ∃ v, v = y.o := ⟨_, rfl⟩
        obtain ⟨xl, hxl⟩ : ∃ v, v = x.l := ⟨_, rfl⟩
        obtain ⟨yl, hyl⟩ : ∃ v, v = y.l := ⟨_, rfl⟩
        rw [← hxk, ← hyk] at hb0
        rw [← hxs, ← hys] at hbs
        rw [← hxf, ← hyf] at hbf
        rw [← hxo, ← hyo] at hbo
        rw [← hxl, ← hyl] at hbl
        rw [← hxk] at q0
        rw [← hxs] at q1
        rw [← hxf] at q2
        rw [← hxo] at q3
        rw [← hxl] at q4
        rw [← hyk] at r0
        rw [← hys] at r1
        rw [← hyf] at r2
        rw [← hyo] at r3
        rw [← hyl] at r4
        have e0 := hb0.symm; have es := hbs.symm; have ef := hbf.symm; have eo := hbo.symm; have el := hbl.symm
        have hlx : (x.id.map (Value.int .u8)).length = 32 := by rw [List.length_map]; exact OX.out
        have hly : (y.id.map (Value.int .u8)).length = 32 := by rw [List.length_map]; exact OY.out
        obtain ⟨vx, hvx⟩ : ∃ v, v = x.id.map (Value.int .u8) := ⟨_, rfl⟩
        obtain ⟨vy, hvy⟩ : ∃ v, v = y.id.map (Value.int .u8) := ⟨_, rfl⟩
        rw [← hvx] at ld6 hne heq hlx
        rw [← hvy] at ld7 hne heq hly
        have LD6 := Lib.hid ld6; have LD7 := Lib.hid ld7; have LX := Lib.hid hlx; have LY := Lib.hid hly
        clear ld6 ld7 hlx hly
        clear hb0 hbi hbs hbf hbo hbl hxk hyk hxs hys hxf hyf hxo hyo hxl hyl hvx hvy hxy hc1 hc2 hx6 hy6 hB6
        have hf : ∀ {v : Bool}, r = false → True := fun _ => trivial
        clear hf
        cases b0 with
        | true =>
          obtain rfl := HNO.out fun e => by have := (HXY.out.1 e).1; cases this
          go_wp2
          go_ret
          exact ⟨rfl, HB6.out⟩
        | false =>
        cases bi with
        | false =>
          obtain rfl := HNO.out fun e => by have := (HXY.out.1 e).2.1; cases this
          go_wp2_with (first
            | (refine wpList_load_want 49 (.tmp 33) rfl rfl g6 1 rfl vx (.array 32 5) LD6.out arr49 rfl (by rw [LX.out]; exact info49) ?_)
            | (refine wpList_load_want 49 (.tmp 35) rfl rfl g7 1 rfl vy (.array 32 5) LD7.out arr49 rfl (by rw [LY.out]; exact info49) ?_))
          go_ret
          exact ⟨rfl, HB6.out⟩
        | true =>
        cases bs with
        | true =>
          obtain rfl := HNO.out fun e => by have := (HXY.out.1 e).2.2.1; cases this
          go_wp2_with (first
            | (refine wpList_load_want 49 (.tmp 33) rfl rfl g6 1 rfl vx (.array 32 5) LD6.out arr49 rfl (by rw [LX.out]; exact info49) ?_)
            | (refine wpList_load_want 49 (.tmp 35) rfl rfl g7 1 rfl vy (.array 32 5) LD7.out arr49 rfl (by rw [LY.out]; exact info49) ?_))
          go_ret
          exact ⟨rfl, HB6.out⟩
        | false =>
        cases bf with
        | true =>
          obtain rfl := HNO.out fun e => by have := (HXY.out.1 e).2.2.2.1; cases this
          go_wp2_with (first
            | (refine wpList_load_want 49 (.tmp 33) rfl rfl g6 1 rfl vx (.array 32 5) LD6.out arr49 rfl (by rw [LX.out]; exact info49) ?_)
            | (refine wpList_load_want 49 (.tmp 35) rfl rfl g7 1 rfl vy (.array 32 5) LD7.out arr49 rfl (by rw [LY.out]; exact info49) ?_))
          go_ret
          exact ⟨rfl, HB6.out⟩
        | false =>
        cases bo with
        | true =>
          obtain rfl := HNO.out fun e => by have := (HXY.out.1 e).2.2.2.2.1; cases this
          go_wp2_with (first
            | (refine wpList_load_want 49 (.tmp 33) rfl rfl g6 1 rfl vx (.array 32 5) LD6.out arr49 rfl (by rw [LX.out]; exact info49) ?_)
            | (refine wpList_load_want 49 (.tmp 35) rfl rfl g7 1 rfl vy (.array 32 5) LD7.out arr49 rfl (by rw [LY.out]; exact info49) ?_))
          go_ret
          exact ⟨rfl, HB6.out⟩
        | false =>
        cases bl with
        | true =>
          obtain rfl := HNO.out fun e => by have := (HXY.out.1 e).2.2.2.2.2; cases this
          go_wp2_with (first
            | (refine wpList_load_want 49 (.tmp 33) rfl rfl g6 1 rfl vx (.array 32 5) LD6.out arr49 rfl (by rw [LX.out]; exact info49) ?_)
            | (refine wpList_load_want 49 (.tmp 35) rfl rfl g7 1 rfl vy (.array 32 5) LD7.out arr49 rfl (by rw [LY.out]; exact info49) ?_))
          go_ret
          exact ⟨rfl, HB6.out⟩
        | false =>
          have HS := Lib.hid (HST.out (HXY.out.2 ⟨rfl, rfl, rfl, rfl, rfl, rfl⟩))
          go_wp2_with (first
            | (refine wpList_load_want 49 (.tmp 33) rfl rfl g6 1 rfl vx (.array 32 5) LD6.out arr49 rfl (by rw [LX.out]; exact info49) ?_)
            | (refine wpList_load_want 49 (.tmp 35) rfl rfl g7 1 rfl vy (.array 32 5) LD7.out arr49 rfl (by rw [LY.out]; exact info49) ?_))
          go_roundw
          case rel => exact ⟨k + 1, by omega, by go_num, HS.out, HB6.out⟩
          case measure => simp [intOf]; omega
      · have e2 : decide ((k : Int) < (n : Int)) = false := decide_eq_false (by omega)
        obtain rfl : n = k := by omega
        have hrt : r = true := HR.out.2 (by
          have := HALL.out
          rwa [List.take_of_length_le (by rw [HX.out]; exact Nat.le_refl _), List.take_of_length_le (by rw [HY.out]; exact Nat.le_refl _)] at this)
        subst hrt
        go_wp2
        go_ret
        exact ⟨rfl, HB.out⟩
  · have d1 : ((n : Int) != (m : Int)) = true := by simp; omega
    have hrf : r = false := by
      cases hrr : r with
      | false => rfl
      | true =>
        have := hr.1 hrr
        subst this
        exact absurd (hx.symm.trans hy) hnm
    subst hrf
    clear h1 h2 o1 o2 hx hy hr
    go_enter Try.func11, Try.ntmps11
    go_wp2
    go_ret
    exact ⟨rfl, Below.refl _ _⟩
end Go.Proofs.Ytliponaabgcceaa
