/-
  The document's disk, just made.
-/
import Derived.Test.YtaajdaikfabchaaRq5
import Derived.Deep.RegionLaw
import Derived.BigRegion
namespace Go.Proofs.Ytaajdaikfabchaa
open Go.RowKit
set_option linter.unusedVariables false

theorem make_bools (m : Nat) (hm : m ≤ 1000000) (w : World) : (Instr.makeSlice 37 (.int .i64 (m : Int)) (.int .i64 (m : Int))).run Try.prog w = .ok (.slice (some ⟨w.heap.size, 0, none⟩) m m) (w.alloc (.cells ((List.replicate m (Value.bool false)).toArray) 4)) := by
  obtain ⟨i0, hi, hz0, hz1, hz2⟩ := info_parts Try.info4
  have hb : (i0.bytes : Int) * (m : Int) ≤ 281474976710656 := by rw [hz2]; omega
  have hr := run_make (P := Try.prog) w 37 4 i0 _ Try.underlying37 hi hz0 .i64 .i64 (m : Int) (m : Int) (by omega) (by omega) hb (by omega)
  simp only [Int.toNat_natCast] at hr
  rw [hz1, Nat.mul_one, show madeCells (Value.bool false).cells m = (List.replicate m (Value.bool false)).toArray from by
    rw [← toList_madeCells_one]; rfl] at hr
  exact hr
theorem info36 : (Try.prog.info? 36).map (fun i => (i.zero, i.size, i.bytes)) = some (some (.slice none 0 0), 1, 24) := by kernel_rfl
/-- Append of a row, as a step of a region that draws. -/
theorem step_append_r36 {w : World} {ops : Array Oper} {o : Oper} {a : Act} {K : Act → World → Prop} {Q : Exit → Act → World → Prop} {E : Prop} (hgd : o.guard = none) (s x : Operand)
    (ho : o.op = .call { callee := .builtin .append, args := #[s, x], argTypes := #[52, 52] })
    (B k oc g : Nat) (oo : Option Addr) (ss : List Sec) (y : Sec) (hs : a.eval s = .slice oo k oc) (hown : w.ownsRow B 36 1 (.slice oo k oc) k (ss.map rsv)) (hx : a.eval x = .slice (some ⟨g, 0, none⟩) 1 1)
    (hg : w.heap[g]? = some (.cells #[.slice y.d.a y.d.l y.d.c] 36)) (hm : k ≤ 1000000000) (hb : B ≤ w.heap.size)
    (h : ∀ oo' oc' w', w'.ownsRow B 36 1 (.slice oo' (k + 1) oc') (k + 1) ((ss ++ [y]).map rsv) → w.grownBy w' (Value.slice oo k oc).ownBlock → K (a.put o.dst (.slice oo' (k + 1) oc')) w') :
    if Region.wanted o (yielded ops a.tmps) = true then Oper.wp Try.prog o a w K Q else E := by
  have hw : Region.wanted o (yielded ops a.tmps) = true := by simp [Region.wanted, hgd]
  rw [if_pos hw]
  obtain ⟨i0, hi, hz0, hz1, hz2⟩ := info_parts info36
  refine wp_append_own _ s x 52 ho B 36 i0 (.slice none 0 0) 1 24 Try.underlying52 hi hz0 hz1 hz2 rfl (by decide) _ k _ hs hown ⟨g, 0, none⟩ 1 1 [rsv y] hx rfl ?_ ?_ (by unfold maxLen; omega) (by omega) hb ?_
  · intro j u hj
    rw [Addr.add_lit, Nat.zero_add]
    match j, hj with
    | 0, hj => simp [rsv] at hj; subst hj; simp [World.cell?, hg]
    | j + 1, hj => simp at hj
  · intro u hu
    simp at hu
    subst hu; rfl
  · intro v' w' ho' hg' _
    rw [show (ss.map rsv ++ [rsv y]) = (ss ++ [y]).map rsv by simp] at ho'
    have hv : ∃ oo' oc', v' = .slice oo' (k + 1) oc' := by
      rcases ho'.2 with ⟨_, h0⟩ | ⟨g', cap', cur, q1, _⟩
      · omega
      · exact ⟨_, cap', q1⟩
    obtain ⟨oo', oc', rfl⟩ := hv
    exact h oo' oc' w' ho' hg'
theorem PqM.raise {w : World} {B C g : Nat} (h : PqM w B g PP.new) (hg : g < C) : PqM w C g PP.new := by
  obtain ⟨ko, kl, kc, ko2, kl2, kc2, t2, h1, ⟨a1, a2, a3, _⟩, h4, h4', h5, h6⟩ := h
  exact ⟨ko, kl, kc, ko2, kl2, kc2, t2, h1, ⟨a1, a2, a3, .inl rfl⟩, h4, h4', fun h => absurd h (by decide), hg⟩
theorem PwM.raise {w : World} {B C g : Nat} (h : PwM w B g PP.new) (hg : g < C) : PwM w C g PP.new := by
  obtain ⟨ko, kl, kc, t1, lost, ko2, kl2, kc2, t2, h1, ⟨a1, a2, a3, _⟩, h3, h4, h4', h5, h6⟩ := h
  exact ⟨ko, kl, kc, t1, lost, ko2, kl2, kc2, t2, h1, ⟨a1, a2, a3, .inl rfl⟩, h3, h4, h4', fun h => absurd h (by decide), hg⟩

/-- The disk under way: m sectors are there. -/
structure Rm (w0 w : World) (g gp gt n m : Nat) (so : Option Addr) (sc : Nat) (ss : List Sec) : Prop where
  blk : w.heap[g]? = some (.cells #[.pointer (some ⟨gp, 0, none⟩), .int .i64 0, .slice so m sc, .slice (some ⟨gt, 0, none⟩) n n, .slice none 0 0] 70 (0, 0))
  torn : Blk w gt 4 (List.replicate n (Value.bool false))
  own : w.ownsRow w0.heap.size 36 1 (.slice so m sc) m (ss.map rsv)
  ls : ss.length = m
  ds : ∀ s ∈ ss, Da w w0.heap.size none s.d
  key : ss.map skey = List.replicate m zkey
  bel : Below w0.heap.size w0 w
  ge : w0.heap.size ≤ g ∧ w0.heap.size ≤ gt
theorem Rm.c {w0 w : World} {g gp gt n m : Nat} {so : Option Addr} {sc : Nat} {ss : List Sec} (h : Rm w0 w g gp gt n m so sc ss) : w.cell? ⟨g, 2, none⟩ = some (.slice so m sc) ∧ ∀ i, w.frozen? ⟨g, i, none⟩ = false :=
  ⟨by rw [Joins.cell_of_block h.blk]; rfl, fun i => Joins.unfrozen_of_block h.blk i⟩
theorem Rm.below {w0 w w' : World} {g gp gt n m : Nat} {so : Option Addr} {sc : Nat} {ss : List Sec} (h : Rm w0 w g gp gt n m so sc ss) (hB : Below w.heap.size w w') : Rm w0 w' g gp gt n m so sc ss := by
  have hk : KT (fun _ => false) Option.none w w' := KT.below _ _ hB
  exact ⟨hk.k rfl h.blk, hk.k rfl h.torn, own_heap h.own fun g cur hg => hB.block g (Array.getElem?_eq_some_iff.1 hg).1, h.ls, fun s hs => (h.ds s hs).kt hk rfl (fun _ _ e => by cases e), h.key, h.bel.trans (hB.mono h.bel.size), h.ge⟩

set_option maxHeartbeats 4000000 in
theorem rnew (w : World) (B Bp gp n : Nat) (hp : PqM w Bp gp PP.new) (hB : B ≤ gp) (hn : 1 ≤ n) (hn6 : n ≤ 600) : Calls Try.prog 13 #[.pointer (some ⟨gp, 0, none⟩), .int .i64 n] w fun e w' => ∃ g gt ss, e = .returned (.pointer (some ⟨g, 0, none⟩)) ∧ ss.map skey = List.replicate n zkey ∧ Rys w' w' B w'.heap.size g gp gt none n ⟨0, ss, []⟩ PP.new ∧ Below w.heap.size w w' := by
  have hmk := make_bools n (by omega)
  obtain ⟨BB, hBB⟩ : ∃ BB, BB = List.replicate n (Value.bool false) := ⟨_, rfl⟩
  rw [← hBB] at hmk
  obtain ⟨q0, q1, q6⟩ := hp.c
  rw [show PP.new.life = 0 from rfl] at q1
  have hb1 : Below w.heap.size w (w.alloc (.cells BB.toArray 4)) := (Below.refl _ _).alloc (Nat.le_refl _) _
  have q1' : (w.alloc (.cells BB.toArray 4)).cell? ⟨gp, 1, none⟩ = some (.int .i64 0) := by rw [hb1.cell (cell_lt q1)]; exact q1
  have hb2 : Below w.heap.size w ((w.alloc (.cells BB.toArray 4)).alloc (.cells #[.pointer (some ⟨gp, 0, none⟩), .int .i64 0, .slice none 0 0, .slice (some ⟨w.heap.size, 0, none⟩) n n, .slice none 0 0] 70)) := hb1.alloc hb1.size _
  have hg2 := heap_alloc_new (w.alloc (.cells BB.toArray 4)) (.cells #[.pointer (some ⟨gp, 0, none⟩), .int .i64 0, .slice none 0 0, .slice (some ⟨w.heap.size, 0, none⟩) n n, .slice none 0 0] 70)
  rw [World.size_alloc] at hg2
  have hg1 : ((w.alloc (.cells BB.toArray 4)).alloc (.cells #[.pointer (some ⟨gp, 0, none⟩), .int .i64 0, .slice none 0 0, .slice (some ⟨w.heap.size, 0, none⟩) n n, .slice none 0 0] 70)).heap[w.heap.size]? = some (.cells BB.toArray 4) := by
    have hbb : Below (w.heap.size + 1) (w.alloc (.cells BB.toArray 4)) ((w.alloc (.cells BB.toArray 4)).alloc (.cells #[.pointer (some ⟨gp, 0, none⟩), .int .i64 0, .slice none 0 0, .slice (some ⟨w.heap.size, 0, none⟩) n n, .slice none 0 0] 70)) := (Below.refl _ _).alloc (by simp) _
    rw [hbb.block _ (by omega)]
    exact heap_alloc_new _ _
  have hrm : Rm w ((w.alloc (.cells BB.toArray 4)).alloc (.cells #[.pointer (some ⟨gp, 0, none⟩), .int .i64 0, .slice none 0 0, .slice (some ⟨w.heap.size, 0, none⟩) n n, .slice none 0 0] 70)).drew (w.heap.size + 1) gp w.heap.size n 0 none 0 [] :=
    ⟨hg2, by rw [← hBB]; exact hg1, World.ownsRow_nil _ _ _ _, rfl, (fun s hs => by cases hs), rfl, hb2.drew, by omega, Nat.le_refl _⟩
  have HRM := Lib.hid hrm; have HP := Lib.hid hp; have HGP := Lib.hid hp.lt
  clear hp hBB hb1 hb2 hg1 hg2 hrm q0 q6
  go_enter Try.func13, Try.ntmps13
  go_wp2
  go_region
  obtain ⟨ZZ, hZZ, hmz⟩ := make256
  have HZZ := Lib.hid hZZ
  obtain ⟨W0, hW0⟩ : ∃ W0, W0 = ((w.alloc (.cells BB.toArray 4)).alloc (.cells #[.pointer (some ⟨gp, 0, none⟩), .int .i64 0, .slice none 0 0, .slice (some ⟨w.heap.size, 0, none⟩) n n, .slice none 0 0] 70)).drew := ⟨_, rfl⟩
  rw [← hW0] at HRM
  clear hZZ q1 q1' hmk
  go_wp2
  (try rw [← hW0])
  obtain ⟨g, hg⟩ : ∃ g, g = w.heap.size + 1 := ⟨_, rfl⟩
  obtain ⟨gt, hgt⟩ : ∃ gt, gt = w.heap.size := ⟨_, rfl⟩
  rw [← hg, ← hgt] at HRM
  rw [← hg]
  clear hW0 hg hgt
  go_loopw [6] (fun i wr => ∃ (m : Nat) (so : Option Addr) (sc : Nat) (ss : List Sec), m ≤ n ∧ i = .int .i64 m ∧ Rm w wr g gp gt n m so sc ss) (fun i _ => n - (intOf i).toNat)
  case atStart => exact ⟨0, none, 0, [], Nat.zero_le _, rfl, HRM.out⟩
  case round =>
    obtain ⟨m, so, sc, ss, hm, rfl, hR⟩ := hrel
    by_cases hlt : m < n
    · have d1 : decide ((m : Int) < (n : Int)) = true := decide_eq_true (by omega)
      have d1' : decide (m < n) = true := decide_eq_true hlt
      have hb1 : Below wr.heap.size wr (wr.alloc (.cells ZZ.toArray 5)) := (Below.refl _ _).alloc (Nat.le_refl _) _
      have hb2 : Below wr.heap.size wr ((wr.alloc (.cells ZZ.toArray 5)).alloc (.cells #[.slice (some ⟨wr.heap.size, 0, none⟩) 256 256] 36)).drew := (hb1.alloc hb1.size _).drew
      have hR1 := hR.below hb1
      have hR2 := hR.below hb2
      obtain ⟨c2, fg⟩ := hR.c
      obtain ⟨e2, eg⟩ := hR1.c
      have e3 : ((wr.alloc (.cells ZZ.toArray 5)).alloc (.cells #[.slice (some ⟨wr.heap.size, 0, none⟩) 256 256] 36)).cell? ⟨g, 2, none⟩ = some (.slice so m sc) := hR2.c.1
      have hg2 := heap_alloc_new (wr.alloc (.cells ZZ.toArray 5)) (.cells #[.slice (some ⟨wr.heap.size, 0, none⟩) 256 256] 36)
      rw [World.size_alloc] at hg2
      have hda : Da ((wr.alloc (.cells ZZ.toArray 5)).alloc (.cells #[.slice (some ⟨wr.heap.size, 0, none⟩) 256 256] 36)).drew w.heap.size none ⟨some ⟨wr.heap.size, 0, none⟩, 256, 256, List.replicate 256 0⟩ := by
        have hg1 : (wr.alloc (.cells ZZ.toArray 5)).heap[wr.heap.size]? = some (.cells ((List.replicate 256 (0 : Int)).map (Value.int .u8)).toArray 5 (0, 0)) := by
          have := heap_alloc_new wr (.cells ZZ.toArray 5)
          rw [HZZ.out] at this ⊢
          rw [List.map_replicate]
          exact this
        have how := ow_of_blk (base := wr.heap.size) hg1 (Nat.le_refl _) List.length_replicate (by omega : 256 ≤ 1000000)
        have hd1 : Da (wr.alloc (.cells ZZ.toArray 5)) w.heap.size none ⟨some ⟨wr.heap.size, 0, none⟩, 256, 256, List.replicate 256 0⟩ := by
          refine ⟨rfl, Own1.of_ow how (fun j hj => ?_), ⟨_, rfl, hR.bel.size⟩, fun e => by cases e⟩
          simp only [List.length_replicate] at hj
          rw [List.getD, List.getElem?_replicate, if_pos hj]
          exact ⟨Int.le_refl _, by decide⟩
        exact hd1.kt (KT.below (fun _ => false) Option.none ((Below.refl _ _).alloc (Nat.le_refl _) _).drew) rfl (fun _ _ e => by cases e)
      have HR2 := Lib.hid hR2; have HG2 := Lib.hid hg2; have HDA := Lib.hid hda
      clear hb1 hb2 hR hR1 hR2 hg2 hda HRM
      go_wp2
      go_region_law
        ((refine step_append_r36 rfl (.tmp 25) (.tmp 27) rfl w.heap.size m sc (wr.heap.size + 1) so ss ⟨⟨some ⟨wr.heap.size, 0, none⟩, 256, 256, List.replicate 256 0⟩, false⟩ rfl HR2.out.own rfl HG2.out (by omega) HR2.out.bel.size ?_; intro oo' oc' w6 ho6 hg6; have hb6 : w6.heap[g]? = _ := (KT.grown (S := fun t => t == 36) (x := Option.none) HR2.out.own rfl hg6).k rfl HR2.out.blk; have t4 : w6.cell? ⟨g, 2, none⟩ = some (.slice so m sc) := (by rw [Joins.cell_of_block hb6]; rfl); have tf : ∀ i, w6.frozen? ⟨g, i, none⟩ = false := (fun i => Joins.unfrozen_of_block hb6 i); have HO6 := Lib.hid ho6; have HG66 := Lib.hid hg6; clear ho6 hg6 hb6))
      all_goals
        have hk6 : KT (fun t => t == 36) Option.none _ w6 := KT.grown HR2.out.own rfl HG66.out
        have hblk := hk6.k rfl HR2.out.blk
        have hk7 : KT (fun t => t == 36 || t == 70) Option.none _ (w6.setCell ⟨g, 2, none⟩ (.slice oo' (m + 1) oc')) := (hk6.mono fun t ht => by simp at ht ⊢; exact ht.1).trans (KT.set hblk (by decide) 2 (.slice oo' (m + 1) oc'))
        have hB7 : Below w.heap.size _ (w6.setCell ⟨g, 2, none⟩ (.slice oo' (m + 1) oc')) := (Below.grown (Below.refl _ _) HG66.out HR2.out.bel.size (own_ge2 HR2.out.own)).setCell HR2.out.ge.1 (.slice oo' (m + 1) oc')
        have hrm : Rm w (w6.setCell ⟨g, 2, none⟩ (.slice oo' (m + 1) oc')) g gp gt n (m + 1) oo' oc' (ss ++ [⟨⟨some ⟨wr.heap.size, 0, none⟩, 256, 256, List.replicate 256 0⟩, false⟩]) := by
          refine ⟨?_, hk7.k rfl HR2.out.torn, DkB.own_set' HO6.out hblk (by decide) _ _, by rw [List.length_append, HR2.out.ls]; rfl, fun s hs => ?_, ?_, HR2.out.bel.trans hB7, HR2.out.ge⟩
          · have := Joins.block_setCell (i := 2) hblk (.slice oo' (m + 1) oc')
            simpa using this
          · rcases List.mem_append.1 hs with hs | hs
            · exact (HR2.out.ds s hs).kt hk7 rfl (fun _ _ e => by cases e)
            · obtain rfl := List.mem_singleton.1 hs
              exact HDA.out.kt hk7 rfl (fun _ _ e => by cases e)
          · rw [List.map_append, HR2.out.key, List.map_cons, List.map_nil, show skey ⟨⟨some ⟨wr.heap.size, 0, none⟩, 256, 256, List.replicate 256 0⟩, false⟩ = zkey by unfold skey zkey; rw [full_id List.length_replicate]]
            exact List.replicate_succ'.symm
        have HRM7 := Lib.hid hrm
        clear c2 fg e2 eg e3 t4 tf hk6 hblk hk7 hB7 hrm HR2 HG2 HDA HO6 HG66
        go_wp2
        go_roundw
        case rel => exact ⟨m + 1, oo', oc', _, by omega, by go_num, HRM7.out⟩
        case measure => simp [intOf]; omega
    · have d1 : decide ((m : Int) < (n : Int)) = false := decide_eq_false (by omega)
      have d1' : decide (m < n) = false := decide_eq_false hlt
      obtain rfl : m = n := by omega
      have HR3 := Lib.hid hR
      clear hR HRM
      go_wp2
      go_ret
      have h := HR3.out
      obtain ⟨gs, cur, rfl, hgs, hcur, hmc, hcm, hsz, htk⟩ : ∃ gs cur, so = some ⟨gs, 0, none⟩ ∧ w.heap.size ≤ gs ∧ wr.heap[gs]? = some (.cells cur 36 (0, 0)) ∧ m ≤ sc ∧ sc ≤ maxLen ∧ cur.size = sc * 1 ∧ cur.toList.take (m * 1) = ss.map rsv := by
        rcases h.own.2 with ⟨q, hq⟩ | ⟨gs, cap, cur, q1, q2, q3, q4, q5, q6, q7⟩
        · omega
        · simp only [Value.slice.injEq] at q1
          obtain ⟨rfl, _, rfl⟩ := q1
          exact ⟨gs, cur, rfl, q2, q3, q4, q5, q6, q7⟩
      rw [Nat.mul_one] at htk hsz
      have hsafe : Blk wr gs 36 (ss.map rsv ++ cur.toList.drop m) := by
        unfold Blk
        rw [← htk, List.take_append_drop, hcur]
      have hts : ss.map rtv = List.replicate m (Value.bool false) := by
        refine List.ext_getElem (by simp [h.ls]) fun j h1 h2 => ?_
        have hj : j < ss.length := by simpa using h1
        have := congrArg (fun l => l[j]?) h.key
        simp only [List.getElem?_map, List.getElem?_eq_getElem hj, Option.map_some, List.getElem?_replicate] at this
        rw [if_pos (by rw [← h.ls]; exact hj)] at this
        have hf : ss[j].t = false := by
          have := Option.some.inj this
          unfold skey zkey at this
          exact (Prod.mk.inj this).2
        simp [rtv, hf]
      have hgpl := HGP.out
      have hsz' := h.bel.size
      have hgtl := h.torn.lt
      exact ⟨g, gt, ss, rfl, h.key, ⟨gs, sc, _, none, 0, 0, h.blk, hsafe, by rw [hts]; exact h.torn, World.ownsRow_nil _ _ _ _, h.ls, rfl, ⟨hn, hn6⟩, ⟨hmc, hcm⟩, ⟨by have := h.ge; omega, by have := h.ge; omega, by omega, hB, by omega⟩, ⟨hgtl, Nat.le_refl _⟩,
        fun s hs => by
          obtain ⟨a1, a2, ⟨g', a3, a4⟩, a5⟩ := h.ds s hs
          exact ⟨a1, a2, ⟨g', a3, by omega⟩, a5⟩, (fun x hx => by cases hx), (HP.out.below h.bel).raise (by omega), Below.refl _ _, KT.refl _ _ _⟩, h.bel⟩

end Go.Proofs.Ytaajdaikfabchaa
