/-
  The document's disk: Write.
-/
import Derived.Test.YtaajdaikfabchaaRq3
import Derived.Deep.RegionLaw
namespace Go.Proofs.Ytaajdaikfabchaa
open Go.RowKit
set_option linter.unusedVariables false

theorem info75 : (Try.prog.info? 75).map (fun i => (i.zero, i.size, i.bytes)) = some (some (.agg #[.int .i64 0, .slice none 0 0]), 2, 32) := by kernel_rfl
/-- Append of a write, as a step of a region that draws. -/
theorem step_append_w75 {w : World} {ops : Array Oper} {o : Oper} {a : Act} {K : Act → World → Prop} {Q : Exit → Act → World → Prop} {E : Prop} (hgd : o.guard = none) (s x : Operand)
    (ho : o.op = .call { callee := .builtin .append, args := #[s, x], argTypes := #[68, 68] })
    (B k oc g : Nat) (oo : Option Addr) (xs : List Wr) (y : Wr) (hs : a.eval s = .slice oo k oc) (hown : w.ownsRow B 75 2 (.slice oo k oc) k (wcs xs)) (hx : a.eval x = .slice (some ⟨g, 0, none⟩) 1 1)
    (hg : w.heap[g]? = some (.cells #[.int .i64 y.i, .slice y.d.a y.d.l y.d.c] 75)) (hm : k ≤ 1000000000) (hb : B ≤ w.heap.size)
    (h : ∀ oo' oc' w', w'.ownsRow B 75 2 (.slice oo' (k + 1) oc') (k + 1) (wcs (xs ++ [y])) → w.grownBy w' (Value.slice oo k oc).ownBlock → K (a.put o.dst (.slice oo' (k + 1) oc')) w') :
    if Region.wanted o (yielded ops a.tmps) = true then Oper.wp Try.prog o a w K Q else E := by
  have hw : Region.wanted o (yielded ops a.tmps) = true := by simp [Region.wanted, hgd]
  rw [if_pos hw]
  obtain ⟨i0, hi, hz0, hz1, hz2⟩ := info_parts info75
  refine wp_append_own _ s x 68 ho B 75 i0 (.agg #[.int .i64 0, .slice none 0 0]) 2 32 Try.underlying68 hi hz0 hz1 hz2 rfl (by decide) _ k _ hs hown ⟨g, 0, none⟩ 1 1 [.int .i64 y.i, .slice y.d.a y.d.l y.d.c] hx rfl ?_ ?_ (by unfold maxLen; omega) (by omega) hb ?_
  · intro j u hj
    rw [Addr.add_lit, Nat.zero_add]
    match j, hj with
    | 0, hj => simp at hj; subst hj; simp [World.cell?, hg]
    | 1, hj => simp at hj; subst hj; simp [World.cell?, hg]
    | j + 2, hj => simp at hj
  · intro u hu
    simp at hu
    rcases hu with rfl | rfl <;> rfl
  · intro v' w' ho' hg' _
    have e : wcs xs ++ [.int .i64 y.i, .slice y.d.a y.d.l y.d.c] = wcs (xs ++ [y]) := (two_snoc _ _ _ _).symm
    rw [e] at ho'
    have hv : ∃ oo' oc', v' = .slice oo' (k + 1) oc' := by
      rcases ho'.2 with ⟨_, h0⟩ | ⟨g', cap', cur, q1, _⟩
      · omega
      · exact ⟨_, cap', q1⟩
    obtain ⟨oo', oc', rfl⟩ := hv
    exact h oo' oc' w' ho' hg'

def RS.put (R : RS) (i : Nat) (d : Part) : RS := ⟨R.life, R.ss, R.xs ++ [⟨i, d⟩]⟩
/-- What Write leaves. -/
def RWR (w0 w' : World) (B Bp g gp gt : Nat) (X : Option Addr) (n : Nat) (R1 : RS) (P : PP) (i : Int) (l : Nat) (z : List Int) : Prop :=
  (putsB P n i l = false ∧ Rys w0 w' B Bp g gp gt X n R1 P) ∨
  (putsB P n i l = true ∧ ∃ d, d.z = z ∧ d.l = 256 ∧ Rys w0 w' B Bp g gp gt X n (R1.put i.toNat d) P.spend)

set_option maxHeartbeats 4000000 in
theorem rwrite {w0 w : World} {B Bp g gp gt : Nat} {X : Option Addr} {n : Nat} {R : RS} {P : PP} (i : Int) (ao : Option Addr) (l c : Nat) (z : List Int) (h : Rys w0 w B Bp g gp gt X n R P) (hx6 : R.xs.length ≤ 1000000) (hy6 : (R.wake P).xs.length ≤ 1000000)
    (hX : ∀ b, X = some ⟨b, 0, none⟩ → b < w.heap.size) (hz : ∀ V, Below B w V → KT KR (some gt) w V → Part.ok V ⟨ao, l, c, z⟩) :
    Calls Try.prog 31 #[.pointer (some ⟨g, 0, none⟩), .int .i64 i, .slice ao l c] w fun e w' => e = .returned (.int .i64 (putE P n i l)) ∧ RWR w0 w' B Bp g gp gt X n (R.wake P) P i l z := by
  have HH := Lib.hid h
  have hwk := rwake h.refl hx6
  have HE : Hid (putE P n i l = if P.off then 5 else if 0 ≤ i ∧ i < n then (if l = 256 then (if P.spent then 0 else 5) else 2) else 1) := rfl
  have HPB : Hid (putsB P n i l = (!P.off && decide (0 ≤ i ∧ i < n) && decide (l = 256))) := rfl
  obtain ⟨Q, hQ⟩ : ∃ Q : World → Prop, Q = fun w' => RWR w0 w' B Bp g gp gt X n (R.wake P) P i l z := ⟨_, rfl⟩
  have HRR : Hid (∀ w', Q w' = RWR w0 w' B Bp g gp gt X n (R.wake P) P i l z) := fun w' => by rw [hQ]
  suffices hh : Calls Try.prog 31 #[.pointer (some ⟨g, 0, none⟩), .int .i64 i, .slice ao l c] w fun e w' => e = .returned (.int .i64 (putE P n i l)) ∧ Q w' from hh.mono fun e w' h => ⟨h.1, by rw [← HRR.out]; exact h.2⟩
  clear hQ
  obtain ⟨D1, hD1⟩ : ∃ D1, D1 = R.wake P := ⟨_, rfl⟩
  rw [← hD1] at hwk HRR hy6
  obtain ⟨E, hE⟩ : ∃ E, E = putE P n i l := ⟨_, rfl⟩
  rw [← hE] at HE ⊢
  have HW := Lib.hid hwk
  have HZ := Lib.hid hz; have HXX := Lib.hid hX
  clear h hwk hD1 hE hz hX
  go_enter Try.func31, Try.ntmps31
  go_wp2_with (go_at_call 36; fail)
  refine HW.out.mono ?_
  rintro e w1 ⟨rfl, hs0⟩
  have HS0 := Lib.hid hs0
  obtain ⟨gs, sc, rest, lo, k, lc, hs⟩ := hs0
  obtain ⟨c0, c1, c2, c3, c4, fg, fs, ft⟩ := hs.c
  obtain ⟨q0, q1, q6⟩ := hs.pw.c
  obtain ⟨off, hof⟩ : ∃ off, off = P.off := ⟨_, rfl⟩
  rw [← hof] at q0 HE HPB
  have HS := Lib.hid hs
  clear hof hs HW
  cases off with
  | true =>
    obtain rfl : E = 5 := HE.out
    have hpb : putsB P n i l = false := HPB.out
    have HPB2 := Lib.hid hpb
    clear HE hpb HPB
    go_wp2
    go_ret
    exact ⟨rfl, by rw [HRR.out]; exact .inl ⟨HPB2.out, HH.out.trans HS0.out⟩⟩
  | false =>
    by_cases hi0 : i < 0
    · have d1 : decide (i < 0) = true := decide_eq_true hi0
      obtain rfl : E = 1 := by
        have := HE.out
        rw [if_neg (by decide), if_neg (by omega)] at this
        exact this
      have hpb : putsB P n i l = false := by rw [HPB.out, decide_eq_false (by omega : ¬ (0 ≤ i ∧ i < n))]; rfl
      have HPB2 := Lib.hid hpb
      clear hi0 HE hpb HPB
      go_wp2
      go_ret
      exact ⟨rfl, by rw [HRR.out]; exact .inl ⟨HPB2.out, HH.out.trans HS0.out⟩⟩
    have d1 : decide (i < 0) = false := decide_eq_false hi0
    by_cases hi1 : (n : Int) ≤ i
    · have d2 : decide ((n : Int) ≤ i) = true := decide_eq_true hi1
      obtain rfl : E = 1 := by
        have := HE.out
        rw [if_neg (by decide), if_neg (by omega)] at this
        exact this
      have hpb : putsB P n i l = false := by rw [HPB.out, decide_eq_false (by omega : ¬ (0 ≤ i ∧ i < n))]; rfl
      have HPB2 := Lib.hid hpb
      clear hi1 HE hpb HPB
      go_wp2
      go_ret
      exact ⟨rfl, by rw [HRR.out]; exact .inl ⟨HPB2.out, HH.out.trans HS0.out⟩⟩
    have d2 : decide ((n : Int) ≤ i) = false := decide_eq_false hi1
    obtain ⟨j, rfl⟩ := Int.eq_ofNat_of_zero_le (by omega : 0 ≤ i)
    have hjn : j < n := by omega
    have d2' : decide (n ≤ j) = false := decide_eq_false (by omega)
    have hE2 : E = if l = 256 then (if P.spent then 0 else 5) else 2 := by
      have := HE.out
      rw [if_neg (by decide), if_pos (by omega)] at this
      exact this
    have hP2 : putsB P n j l = decide (l = 256) := by
      have := HPB.out
      rw [decide_eq_true (by omega : (0 : Int) ≤ (j : Int) ∧ (j : Int) < n)] at this
      simpa using this
    have HE2 := Lib.hid hE2; have HP2 := Lib.hid hP2
    clear HE HPB hE2 hP2
    by_cases hl : l = 256
    rotate_left
    · have hE3 : E = 2 := by have := HE2.out; rw [if_neg hl] at this; exact this
      have hP3 : putsB P n (j : Int) l = false := by rw [HP2.out]; exact decide_eq_false hl
      have d3 : ((l : Int) != 256) = true := by simp; omega
      have HP3 := Lib.hid hP3
      subst hE3
      clear HE2 HP2 hP3 hl
      go_wp2
      go_ret
      exact ⟨rfl, by rw [HRR.out]; exact .inl ⟨HP3.out, HH.out.trans HS0.out⟩⟩
    subst hl
    have hE3 : E = if P.spent then 0 else 5 := by have := HE2.out; rw [if_pos rfl] at this; exact this
    have hP3 : putsB P n (j : Int) 256 = true := by rw [HP2.out]; decide
    have HE3 := Lib.hid hE3; have HP3 := Lib.hid hP3
    have hk6 : k ≤ 1000000 := by have := HS.out.lx; omega
    have HC4 : Hid (∀ V, Below w1.heap.size w1 V → V.cell? ⟨g, 4, none⟩ = some (.slice lo k lc)) := fun V hV => (HS.out.below hV).c.2.2.2.2.1
    have HTW : Hid (∀ V, Below w1.heap.size w1 V → Calls Try.prog 29 #[.slice ao 256 c] V (R1 V 256 z)) := fun V hV => by
      have hp := (HZ.out w1 HS0.out.bel HS0.out.kt).below hV
      exact twin_any ao 256 c z V hp.len (by omega) hp.rd hp.nil
    have HBZ : Hid (Bts z ∧ w.heap.size ≤ w1.heap.size) := ⟨(HZ.out w1 HS0.out.bel HS0.out.kt).bts, HS0.out.kt.size⟩
    have r4 := HC4.out _ (Below.refl _ _).drew
    clear HE2 HP2 hE3 hP3
    go_wp2
    go_region_law
      ((first
        | (refine step_append_w75 rfl (.tmp 34) (.tmp 39) rfl B k lc w5.heap.size lo D1.xs ⟨j, ⟨k5, 256, c5, z⟩⟩ rfl HS6.out.loose rfl HG6.out (by omega) HS6.out.low.2.2.2.2 ?_; intro oo' oc' w6 ho6 hg6; have hb6 := HS6.out.grown_blk hg6; have t4 : w6.cell? ⟨g, 4, none⟩ = some (.slice lo k lc) := (by rw [Joins.cell_of_block hb6]; rfl); have tf : ∀ i, w6.frozen? ⟨g, i, none⟩ = false := (fun i => Joins.unfrozen_of_block hb6 i); have HO6 := Lib.hid ho6; have HG66 := Lib.hid hg6; clear ho6 hg6 hb6)
        | (go_simp; go_at_call 29; (with_reducible refine (HTW.out _ (Below.refl _ _).drew).mono ?_); rintro e w5 ⟨k5, c5, rfl, ho5, hB5⟩;
           have hB5' : Below w1.heap.size w1 w5 := (Below.refl _ _).drew.trans hB5;
           have s4 : w5.cell? ⟨g, 4, none⟩ = some (.slice lo k lc) := HC4.out _ hB5';
           have s5 : (w5.alloc (.cells #[.int .i64 (j : Int), .slice k5 256 c5] 75)).cell? ⟨g, 4, none⟩ = some (.slice lo k lc) := HC4.out _ (hB5'.alloc hB5'.size _);
           have HB5 := Lib.hid hB5';
           have HO5 : Hid (Ow w5 w1.heap.size k5 256 c5 z) := ho5;
           have HS6 := Lib.hid (HS.out.below (hB5'.alloc hB5'.size (.cells #[.int .i64 (j : Int), .slice k5 256 c5] 75)));
           have HG6 : Hid ((w5.alloc (.cells #[.int .i64 (j : Int), .slice k5 256 c5] 75)).heap[w5.heap.size]? = some (.cells #[.int .i64 (j : Int), .slice k5 256 c5] 75 (0, 0))) := heap_alloc_new _ _;
           clear ho5 hB5 hB5')))
    all_goals
      have hda : Da (w5.alloc (.cells #[.int .i64 (j : Int), .slice k5 256 c5] 75)) B X ⟨k5, 256, c5, z⟩ := by
        obtain ⟨gd, hgd, hgd2⟩ := HO5.out.at (by omega)
        have h1 : Own1 w5 ⟨k5, 256, c5, z⟩ := Own1.of_ow HO5.out HBZ.out.1
        refine ⟨rfl, h1.below ((Below.refl _ _).alloc (Nat.le_refl _) _), ⟨gd, hgd, Nat.le_trans HS.out.low.2.2.2.2 hgd2⟩, fun e => ?_⟩
        simp only at e
        have := HXX.out gd (by rw [← e, hgd])
        have := HBZ.out.2
        omega
      have hs7 := HS6.out.push HG66.out HO6.out hda hjn
      have hbk := HS6.out.grown_blk HG66.out
      have b0 : w6.cell? ⟨g, 0, none⟩ = some (.pointer (some ⟨gp, 0, none⟩)) := by rw [Joins.cell_of_block hbk]; rfl
      have hsp := qspend _ Bp gp P hs7.pw hs7.gtB.2
      obtain ⟨sp, hsp2⟩ : ∃ sp, sp = P.spent := ⟨_, rfl⟩
      rw [← hsp2] at hsp HE3
      clear c0 c1 c2 c3 c4 fg fs ft q0 q1 q6 r4 s4 s5 t4 tf hda hsp2 HO5 HG6 HS6
      obtain ⟨c0, c1, c2, c3, c4, fg, fs, ft⟩ := hs7.c
      have HS7 := Lib.hid hs7; have HSP := Lib.hid hsp
      clear hs7 hsp fg fs ft c1 c2 c3 c4 hbk
      go_wp2_with (go_at_call 38; fail)
      refine HSP.out.mono ?_
      rintro e w8 ⟨rfl, hp8, hB8, ho8⟩
      have HS8 := Lib.hid (HS7.out.turn hp8 hB8 ho8)
      clear hp8 hB8 ho8 c0 b0
      cases sp with
      | true =>
        obtain rfl : E = 0 := HE3.out
        go_wp2
        go_ret
        refine ⟨rfl, ?_⟩
        rw [HRR.out]
        exact .inr ⟨HP3.out, ⟨k5, 256, c5, z⟩, rfl, rfl, HH.out.trans ⟨_, _, _, _, _, _, HS8.out⟩⟩
      | false =>
        obtain rfl : E = 5 := HE3.out
        go_wp2
        go_ret
        refine ⟨rfl, ?_⟩
        rw [HRR.out]
        exact .inr ⟨HP3.out, ⟨k5, 256, c5, z⟩, rfl, rfl, HH.out.trans ⟨_, _, _, _, _, _, HS8.out⟩⟩

end Go.Proofs.Ytaajdaikfabchaa
