/-
  The walk of CrcLinear.
-/
import Derived.Test.YtilpehbbjhignaaDoorLinEnd
import Derived.Test.YtilpehbbjhignaaDoorSums
import Derived.Test.YtilpehbbjhignaaDoorLin
import Derived.Deep.RegionHeld3
import Derived.StillTailTactics
namespace Go.Proofs.YtilpehbbjhignaaDoor
open Go.RowKit
set_option linter.unusedVariables false

/-- The first k of N bytes are zs's, the others 0. -/
def Part0 (w : World) (g N k : Nat) (zs : List Int) : Prop := w.heap[g]? = some (.cells ((zs.take k).map (Value.int .u8) ++ List.replicate (N - k) (Value.int .u8 0)).toArray 5 (0, 0))
theorem made_zeros (n : Nat) : (madeCells (Value.int .u8 0).cells (n * 1)).toList = List.replicate n (Value.int .u8 0) := by
  simp [madeCells, Value.cells]
  have h : (fun x => (#[Value.int IntKind.u8 0] : Array Value)[x % 1]?.getD default) = fun _ => Value.int .u8 0 := by
    funext x; simp [Nat.mod_one]
  have h' : (fun x => ([Value.int IntKind.u8 0] : List Value)[x % 1]?.getD default) = fun _ => Value.int .u8 0 := by
    funext x; simp [Nat.mod_one]
  first | rw [h] | rw [h']
  exact List.eq_replicate_iff.2 ⟨by simp, by simp⟩
theorem part0_start {w : World} {base g n : Nat} {zs : List Int} (h : w.ownsRow base 5 1 (.slice (some ⟨g, 0, none⟩) n n) n (madeCells (Value.int .u8 0).cells (n * 1)).toList) : Part0 w g n 0 zs := by
  rw [made_zeros] at h
  have := block_of_owns h
  unfold Part0
  rw [this]; simp
theorem part0_cell {w : World} {g N k : Nat} {zs : List Int} (h : Part0 w g N k zs) (hz : zs.length = N) (hk : k < N) : w.cell? ⟨g, k, none⟩ = some (.int .u8 0) := by
  unfold Part0 at h
  rw [cell_of_block h (by simp; omega)]
  simp only [List.getD]
  have hl : ((zs.take k).map (Value.int .u8)).length = k := by simp; omega
  rw [List.getElem?_append_right (by omega), hl, List.getElem?_replicate, if_pos (by omega)]; rfl
theorem part0_free {w : World} {g N k j : Nat} {zs : List Int} (h : Part0 w g N k zs) : w.frozen? ⟨g, j, none⟩ = false := by
  unfold Part0 at h
  simp [World.frozen?, h]
theorem part0_step {w : World} {g N k : Nat} {zs : List Int} {x : Int} (h : Part0 w g N k zs) (hz : zs.length = N) (hk : k < N) (hx : x = zs.getD k 0) : Part0 (w.setCell ⟨g, k, none⟩ (.int .u8 x)) g N (k + 1) zs := by
  unfold Part0 at h ⊢
  have hb := Joins.block_setCell (i := k) h (.int .u8 x)
  rw [hb]
  have hl : ((zs.take k).map (Value.int .u8)).length = k := by simp; omega
  simp only [List.setIfInBounds_toArray, Option.some.injEq, Obj.cells.injEq, and_true]
  rw [List.set_append_right _ _ (by omega), hl, Nat.sub_self, show N - k = (N - (k + 1)) + 1 by omega, List.replicate_succ, List.set_cons_zero, List.take_succ_eq_append_getElem (by omega), List.map_append, List.append_assoc]
  have : x = zs[k]'(by omega) := by rw [hx]; simp [List.getD, show k < zs.length by omega]
  rw [this]; rfl
theorem part0_drawn {w : World} {g N k : Nat} {zs : List Int} (h : Part0 w g N k zs) (n : Nat) : Part0 (w.drewN n) g N k zs := h
theorem part0_end {w : World} {g N : Nat} {zs : List Int} (h : Part0 w g N N zs) (hz : zs.length = N) : Rd w (some ⟨g, 0, none⟩) zs := by
  unfold Part0 at h
  refine Rd.block (t := 5) ?_
  rw [h, List.take_of_length_le (by omega)]; simp

set_option maxRecDepth 100000 in
set_option maxHeartbeats 1000000 in
theorem linear_walk (a b c : Option Addr) (la lb lc ca cb cc n : Nat) (m : Nat) (za zb zc : List Int) (w : World) (hT : Tab w) (h1 : la ≤ 300) (h2 : lb ≤ 300) (h3 : lc ≤ 300)
    (e1 : (if (lc : Int) < lb then (lc : Int) else lb) = m) (e2 : (if (m : Int) < la then (m : Int) else (la : Int)) = n) (na : n ≤ la) (nb : n ≤ lb) (nc : n ≤ lc)
    (pa : Part.ok w ⟨a, la, ca, za⟩) (pb : Part.ok w ⟨b, lb, cb, zb⟩) (pc : Part.ok w ⟨c, lc, cc, zc⟩) (ka : la ≤ ca) (kb : lb ≤ cb) (kc : lc ≤ cc) (ma : ca ≤ maxLen) (mb : cb ≤ maxLen) (mc : cc ≤ maxLen) :
    Calls Tryd.prog 6 #[.slice a la ca, .slice b lb cb, .slice c lc cc] w fun e w' => e = .returned (.bool true) ∧ Below w.heap.size w w' := by
  obtain ⟨i0, hi, hz0, hz1, hz2⟩ := info_parts Tryd.info5
  have d1 : decide ((300 : Int) < (la : Int)) = false := decide_eq_false (by omega)
  have d2 : decide ((300 : Int) < (lb : Int)) = false := decide_eq_false (by omega)
  have d3 : decide ((300 : Int) < (lc : Int)) = false := decide_eq_false (by omega)
  have hm1 : ∀ ts w, (Builtin.min_ ts 3 #[.int .i64 (lb : Int), .int .i64 (lc : Int)]).run Tryd.prog w = .ok (.int .i64 (m : Int)) w := fun ts w => by rw [run_min_int2, e1]
  have hm2 : ∀ ts w, (Builtin.min_ ts 3 #[.int .i64 (la : Int), .int .i64 (m : Int)]).run Tryd.prog w = .ok (.int .i64 (n : Int)) w := fun ts w => by rw [run_min_int2, e2]
  clear e1 e2
  have HPA := Lib.hid pa; have HPB := Lib.hid pb; have HPC := Lib.hid pc; have HT := Lib.hid hT
  clear pa pb pc hT
  go_enter Tryd.func6, Tryd.ntmps6
  go_wp2_with (at_make; go_loud (refine wpList_make_full _ rfl (.tmp 31) (.tmp 31) 25 rfl w.heap.size 5 i0 (.int .u8 0) 1 Tryd.underlying25 hi hz0 hz1 .i64 .i64 _ _ n rfl rfl rfl rfl (by rw [hz2]; omega) (by unfold maxLen; omega) (Nat.le_refl _) ?_); intro w1 hown1 hgrow1)
  obtain ⟨xa, hxa⟩ : ∃ x, x = za.take n := ⟨_, rfl⟩
  obtain ⟨xb, hxb⟩ : ∃ x, x = zb.take n := ⟨_, rfl⟩
  obtain ⟨xc, hxc⟩ : ∃ x, x = zc.take n := ⟨_, rfl⟩
  have qa := HPA.out.take n na; have qb := HPB.out.take n nb; have qc := HPC.out.take n nc
  rw [← hxa] at qa; rw [← hxb] at qb; rw [← hxc] at qc
  have hla : xa.length = n := qa.len
  have hlb : xb.length = n := qb.len
  have hlc : xc.length = n := qc.len
  have hsum := sum_lx xa xb xc (by omega) (by omega) qa.bts qb.bts qc.bts
  have hzb := bts_lx (lx xa xb) xc (by rw [lx_len xa xb (by omega)]; omega) (bts_lx xa xb (by omega) qa.bts qb.bts) qc.bts
  have hzl : (lx (lx xa xb) xc).length = n := by rw [lx_len _ _ (by rw [lx_len xa xb (by omega)]; omega), lx_len xa xb (by omega)]; exact hla
  have hzk : ∀ k, k < n → (lx (lx xa xb) xc).getD k 0 = bx (bx (xa.getD k 0) (xb.getD k 0)) (xc.getD k 0) := fun k hk => by
    rw [lx_getD _ _ k (by rw [lx_len xa xb (by omega)]; omega) (by omega), lx_getD xa xb k (by omega) (by omega)]
  obtain ⟨zs, hzs⟩ : ∃ zs, zs = lx (lx xa xb) xc := ⟨_, rfl⟩
  rw [← hzs] at hsum hzb hzl hzk
  have hxx : Go.bits .xor .u32 (Go.bits .xor .u32 ((sumOf xa).toNat : Int) ((sumOf xb).toNat : Int)) ((sumOf xc).toNat : Int) = ((sumOf zs).toNat : Int) := by
    have h1 := xor_u32 (sumOf xa) (sumOf xb)
    rw [h1, xor_u32, BitVec.toNat_xor, BitVec.toNat_xor, sum_nat _ qa.bts, sum_nat _ qb.bts, sum_nat _ qc.bts, sum_nat _ hzb, hsum]
  have HXX := Lib.hid hxx
  clear hxx
  have HZK := Lib.hid hzk; have HZL := Lib.hid hzl; have HZB := Lib.hid hzb; have HSUM := Lib.hid hsum
  have HQA := Lib.hid qa; have HQB := Lib.hid qb; have HQC := Lib.hid qc
  have HF1 := Lib.hid (part0_start (zs := zs) hown1); have HB1 := Lib.hid (Below.grown (Below.refl _ _) hgrow1 (Nat.le_refl _) (fun k h => by cases h))
  clear hown1 hgrow1 hm1 hm2 hxa hxb hxc qa qb qc hsum hzb hzl hzk hzs
  go_loopw [9] (fun i wr => ∃ k : Nat, k ≤ n ∧ i = .int .i64 k ∧ Part0 wr w.heap.size n k zs ∧ Below w.heap.size w wr) (fun i _ => n - (intOf i).toNat)
  case atStart => exact ⟨0, Nat.zero_le _, rfl, HF1.out, HB1.out⟩
  case round =>
    obtain ⟨k, hk, rfl, hf, hB⟩ := hrel
    by_cases hlt : k < n
    · have hc0 := part0_cell hf HZL.out hlt
      have hfr := part0_free (j := k) hf
      obtain ⟨ba, oa, rfl, ga⟩ := HQA.out.rd.at (by show 0 < xa.length; omega)
      obtain ⟨bb, ob, rfl, gb⟩ := HQB.out.rd.at (by show 0 < xb.length; omega)
      obtain ⟨bc, oc, rfl, gc⟩ := HQC.out.rd.at (by show 0 < xc.length; omega)
      have ga := ga k (by show k < xa.length; omega)
      have gb := gb k (by show k < xb.length; omega)
      have gc := gc k (by show k < xc.length; omega)
      have ia := HQA.out.bts k (by show k < xa.length; omega)
      have ib := HQB.out.bts k (by show k < xb.length; omega)
      have ic := HQC.out.bts k (by show k < xc.length; omega)
      have hz := HZK.out k hlt
      simp only at ga gb gc ia ib ic
      generalize xa.getD k 0 = A at ga ia hz
      generalize xb.getD k 0 = B at gb ib hz
      generalize xc.getD k 0 = C at gc ic hz
      have ga' : wr.cell? ⟨ba, oa + k, none⟩ = some (.int .u8 A) := by rw [hB.cell (cell_lt ga)]; exact ga
      have gb' : wr.cell? ⟨bb, ob + k, none⟩ = some (.int .u8 B) := by rw [hB.cell (cell_lt gb)]; exact gb
      have gc' : wr.cell? ⟨bc, oc + k, none⟩ = some (.int .u8 C) := by rw [hB.cell (cell_lt gc)]; exact gc
      have x1 : Go.bits .xor .u8 A B = bx A B := xor_u8 _ _ ia.1 ia.2 ib.1 ib.2
      have x2 : Go.bits .xor .u8 (bx A B) C = bx (bx A B) C := by
        have := bx_bd A B ia.1 ia.2 ib.1 ib.2
        exact xor_u8 _ _ this.1 this.2 ic.1 ic.2
      have hx : Go.bits .xor .u8 (Go.bits .xor .u8 A B) C = zs.getD k 0 := by rw [x1, x2, hz]
      have j0 : (0 : Int) ≤ (k : Int) := by omega
      have ja : (k : Int) < (la : Int) := by omega
      have jb : (k : Int) < (lb : Int) := by omega
      have jc : (k : Int) < (lc : Int) := by omega
      have jn : (k : Int) < (n : Int) := by omega
      have HX := Lib.hid hx; have HF := Lib.hid hf; have HB := Lib.hid hB
      clear ga gb gc ia ib ic hz x1 x2 hx hf hB hla hlb hlc
      go_wp2
      go_still_tail 17, (by kernel_rfl)
      change wpList _ _ _ _ _ wr.drew
      have hc1 : wr.drew.cell? ⟨w.heap.size, k, none⟩ = some (.int .u8 0) := hc0
      have hfr1 : wr.drew.frozen? ⟨w.heap.size, k, none⟩ = false := hfr
      have HF1 : Hid (Part0 wr.drew w.heap.size n k zs) := part0_drawn HF.out 1
      have HB1 : Hid (Below w.heap.size w wr.drew) := HB.out.drew
      clear hc0 hfr ga' gb' gc' HF HB
      generalize wr.drew = V at hc1 hfr1 HF1 HB1 ⊢
      go_wp2
      go_roundw
      case rel => exact ⟨k + 1, by omega, by go_num, part0_step HF1.out HZL.out hlt HX.out, HB1.out.setCell (Nat.le_refl _) _⟩
      case measure => simp [intOf]; omega
    · obtain rfl : k = n := by omega
      obtain ⟨wo, rfl⟩ : ∃ wo : World, wo = wr := ⟨_, rfl⟩
      have HR := Lib.hid (part0_end hf HZL.out)
      have HB := Lib.hid hB
      clear hf hB HF1 HB1
      go_wp2
      have hK := fun (f : Nat → Value) (h0 : f 0 = .slice a la ca) (h1 : f 1 = .slice b lb cb) (h2 : f 2 = .slice c lc cc) (h7 : f 7 = .int .i64 k) (h8 : f 8 = .slice (some ⟨w.heap.size, 0, none⟩) k k) =>
        (⟨HT.out.below HB.out, h0, h1, h2, h7, h8, ⟨HR.out, HZL.out, HZB.out, by unfold maxLen; show k ≤ _; omega, fun h => by cases h⟩, HQA.out.below HB.out, HQB.out.below HB.out, HQC.out.below HB.out,
          rfl, rfl, rfl, rfl, rfl, HXX.out, slice_to a la ca k (by omega) ma HPA.out.nil, slice_to b lb cb k (by omega) mb HPB.out.nil, slice_to c lc cc k (by omega) mc HPC.out.nil⟩ :
          LK f wo (.slice a la ca) (.slice b lb cb) (.slice c lc cc) ⟨some ⟨w.heap.size, 0, none⟩, k, k, zs⟩ ⟨a, k, ca, xa⟩ ⟨b, k, cb, xb⟩ ⟨c, k, cc, xc⟩ k _ _ _ _ _)
      refine linear_at rfl (hK _ rfl rfl rfl rfl rfl) ?_
      intro v w5 hB5 h24
      have HB5 := Lib.hid (HB.out.trans (hB5.mono HB.out.size))
      have H24 := Lib.hid h24
      clear hK hB5 h24
      unfold LF
      rw [H24.out]
      go_wp2
      go_ret
      exact ⟨rfl, HB5.out⟩

theorem linear_out (a b c : Option Addr) (la lb lc ca cb cc : Nat) (w : World) (h : 300 < la ∨ 300 < lb ∨ 300 < lc) :
    Calls Tryd.prog 6 #[.slice a la ca, .slice b lb cb, .slice c lc cc] w fun e w' => e = .returned (.bool true) ∧ Below w.heap.size w w' := by
  by_cases h1 : 300 < la
  · have d1 : decide ((300 : Int) < (la : Int)) = true := decide_eq_true (by omega)
    go_enter Tryd.func6, Tryd.ntmps6
    go_wp2
    go_ret
    exact ⟨rfl, Below.refl _ _⟩
  · have d1 : decide ((300 : Int) < (la : Int)) = false := decide_eq_false (by omega)
    by_cases h2 : 300 < lb
    · have d2 : decide ((300 : Int) < (lb : Int)) = true := decide_eq_true (by omega)
      go_enter Tryd.func6, Tryd.ntmps6
      go_wp2
      go_ret
      exact ⟨rfl, Below.refl _ _⟩
    · have d2 : decide ((300 : Int) < (lb : Int)) = false := decide_eq_false (by omega)
      have d3 : decide ((300 : Int) < (lc : Int)) = true := decide_eq_true (by omega)
      go_enter Tryd.func6, Tryd.ntmps6
      go_wp2
      go_ret
      exact ⟨rfl, Below.refl _ _⟩

end Go.Proofs.YtilpehbbjhignaaDoor
