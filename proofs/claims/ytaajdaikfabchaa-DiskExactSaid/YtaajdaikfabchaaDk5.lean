/-
  The disk: Write.
-/
import Derived.Test.YtaajdaikfabchaaDk4
namespace Go.Proofs.Ytaajdaikfabchaa
open Go.RowKit
set_option linter.unusedVariables false

theorem info77 : (Try.prog.info? 77).map (fun i => (i.zero, i.size, i.bytes)) = some (some (.agg #[.int .i64 0, .slice none 0 0]), 2, 32) := by kernel_rfl
theorem own_ge2 {w : World} {base e n size : Nat} {v : Value} {xs : List Value} (h : w.ownsRow base e size v n xs) : ∀ k, v.ownBlock = some k → base ≤ k := by
  intro k hk
  rcases h.2 with ⟨h2, _⟩ | ⟨g, cap, cur, q1, q2, q3, q4⟩
  · subst h2; cases hk
  · subst q1; cases hk; exact q2
/-- Append of a write, as a step of a region that draws. -/
theorem step_append_wr {w : World} {ops : Array Oper} {o : Oper} {a : Act} {K : Act → World → Prop} {Q : Exit → Act → World → Prop} {E : Prop} (hgd : o.guard = none) (s x : Operand)
    (ho : o.op = .call { callee := .builtin .append, args := #[s, x], argTypes := #[65, 65] })
    (B k oc g : Nat) (oo : Option Addr) (xs : List Wr) (y : Wr) (hs : a.eval s = .slice oo k oc) (hown : w.ownsRow B 77 2 (.slice oo k oc) k (wcs xs)) (hx : a.eval x = .slice (some ⟨g, 0, none⟩) 1 1)
    (hg : w.heap[g]? = some (.cells #[.int .i64 y.i, .slice y.d.a y.d.l y.d.c] 77)) (hm : k ≤ 1000000000) (hb : B ≤ w.heap.size)
    (h : ∀ oo' oc' w', w'.ownsRow B 77 2 (.slice oo' (k + 1) oc') (k + 1) (wcs (xs ++ [y])) → w.grownBy w' (Value.slice oo k oc).ownBlock → K (a.put o.dst (.slice oo' (k + 1) oc')) w') :
    if Region.wanted o (yielded ops a.tmps) = true then Oper.wp Try.prog o a w K Q else E := by
  have hw : Region.wanted o (yielded ops a.tmps) = true := by simp [Region.wanted, hgd]
  rw [if_pos hw]
  obtain ⟨i0, hi, hz0, hz1, hz2⟩ := info_parts info77
  refine wp_append_own _ s x 65 ho B 77 i0 (.agg #[.int .i64 0, .slice none 0 0]) 2 32 Try.underlying65 hi hz0 hz1 hz2 rfl (by decide) _ k _ hs hown ⟨g, 0, none⟩ 1 1 [.int .i64 y.i, .slice y.d.a y.d.l y.d.c] hx rfl ?_ ?_ (by unfold maxLen; omega) (by omega) hb ?_
  · intro j u hj
    rw [Addr.add_lit, Nat.zero_add]
    match j, hj with
    | 0, hj => simp at hj; subst hj; simp [World.cell?, hg]
    | 1, hj => simp at hj; subst hj; simp [World.cell?, hg]
    | j + 2, hj => simp at hj
  · intro u hu
    simp at hu
    rcases hu with rfl | rfl <;> rfl
  · intro v' w' ho' hg' _
    have e : wcs xs ++ [.int .i64 y.i, .slice y.d.a y.d.l y.d.c] = wcs (xs ++ [y]) := (two_snoc _ _ _ _).symm
    rw [e] at ho'
    have hv : ∃ oo' oc', v' = .slice oo' (k + 1) oc' := by
      rcases ho'.2 with ⟨_, h0⟩ | ⟨g', cap', cur, q1, _⟩
      · omega
      · exact ⟨_, cap', q1⟩
    obtain ⟨oo', oc', rfl⟩ := hv
    exact h oo' oc' w' ho' hg'

section
variable {w0 w w' : World} {B Bp g gp gn gs : Nat} {life : Int} {n : Nat} {oo oo' : Option Addr} {k oc oc' : Nat} {ns ss : List Sec} {xs : List Wr} {P : PP} {y : Wr}
/-- Behind the append: where the cells of the disk lie. -/
theorem Sy.grown_blk (h : Sy w0 w B Bp g gp gn gs life n oo k oc ns ss xs P) (hg : w.grownBy w' (Value.slice oo k oc).ownBlock) : w'.heap[g]? = some (.cells #[.pointer (some ⟨gp, 0, Option.none⟩), .int .i64 life, .slice (some ⟨gn, 0, Option.none⟩) n n, .slice (some ⟨gs, 0, Option.none⟩) n n, .slice oo k oc] 67 (0, 0)) :=
  (KT.grown (S := fun t => t == 77) (x := Option.none) h.d.opn rfl hg).keep _ _ _ _ nofun rfl h.d.blk
theorem Sy.push (h : Sy w0 w B Bp g gp gn gs life n oo k oc ns ss xs P) (hg : w.grownBy w' (Value.slice oo k oc).ownBlock) (ho : w'.ownsRow B 77 2 (.slice oo' (k + 1) oc') (k + 1) (wcs (xs ++ [y])))
    (hd : Dat w B y.d) (hi : y.i < n) (ha : y.d.a ≠ Option.none) : Sy w0 (w'.setCell ⟨g, 4, Option.none⟩ (.slice oo' (k + 1) oc')) B Bp g gp gn gs life n oo' (k + 1) oc' ns ss (xs ++ [y]) P := by
  have hk : KT (fun t => t == 77) Option.none w w' := KT.grown h.d.opn rfl hg
  have hblk := h.grown_blk hg
  have hk2 : KT (fun t => t == 77 || t == 67) Option.none w (w'.setCell ⟨g, 4, Option.none⟩ (.slice oo' (k + 1) oc')) :=
    (hk.mono fun t ht => by simp at ht ⊢; exact ht.1).trans (KT.set hblk (by decide) _ _)
  have hD : ∀ d, Dat w B d → Dat (w'.setCell ⟨g, 4, Option.none⟩ (.slice oo' (k + 1) oc')) B d := fun d hd => hd.kt hk2 rfl (fun _ _ => nofun)
  have hB : Below B w (w'.setCell ⟨g, 4, Option.none⟩ (.slice oo' (k + 1) oc')) := (Below.grown (Below.refl _ _) hg h.d.low.2.2.2.2 (own_ge2 h.d.opn)).setCell h.d.low.1 _
  refine ⟨⟨?_, hk2.keep _ _ _ _ nofun rfl h.d.now, hk2.keep _ _ _ _ nofun rfl h.d.safe, DkB.own_set ho hblk (by decide) _ _, h.d.ln, h.d.ls, by simp [h.d.lx], h.d.ne, h.d.hn, ⟨h.d.low.1, h.d.low.2.1, h.d.low.2.2.1, h.d.low.2.2.2.1, Nat.le_trans h.d.low.2.2.2.2 hB.size⟩,
    fun s hs => hD _ (h.d.dn s hs), fun s hs => hD _ (h.d.ds s hs), fun x hx => ?_⟩, h.p.kt hk2 rfl rfl (fun _ => nofun), h.low.trans hB, h.kt.trans (hk2.mono fun t ht => by unfold KD at ht; simp at ht ⊢; omega)⟩
  · have := Joins.block_setCell (i := 4) hblk (.slice oo' (k + 1) oc')
    simpa using this
  · rcases List.mem_append.1 hx with hx | hx
    · exact ⟨hD _ (h.d.dx x hx).1, (h.d.dx x hx).2⟩
    · obtain rfl := List.mem_singleton.1 hx
      exact ⟨hD _ hd, hi, ha⟩
end

/-- What Write tells, and leaves. -/
def putE (P : PP) (n : Nat) (i : Int) (l : Nat) : Int := if P.off then 5 else if 0 ≤ i ∧ i < n then (if l = 256 then (if P.spent then 0 else 5) else 2) else 1
/-- Is it made? -/
def putsB (P : PP) (n : Nat) (i : Int) (l : Nat) : Bool := !P.off && decide (0 ≤ i ∧ i < n) && decide (l = 256)
def DS.put (D : DS) (i : Nat) (d : Part) : DS := ⟨D.life, D.ns.set i ⟨d, false⟩, D.ss, D.xs ++ [⟨i, d⟩]⟩
def WrR (w0 w w' : World) (B Bp g gp n : Nat) (D1 : DS) (P : PP) (i : Int) (l : Nat) (z : List Int) : Prop :=
  (putsB P n i l = false ∧ Sys w0 w' B Bp g gp n D1 P) ∨
  (putsB P n i l = true ∧ ∃ d, d.z = z ∧ (∀ b, d.a = some ⟨b, 0, none⟩ → w.heap.size ≤ b) ∧ Sys w0 w' B Bp g gp n (D1.put i.toNat d) P.spend)

set_option maxHeartbeats 2000000 in
theorem write_any {w0 w : World} {B Bp g gp n : Nat} {D : DS} {P : PP} (i : Int) (ao : Option Addr) (l c : Nat) (z : List Int) (h : Sys w0 w B Bp g gp n D P) (hx6 : D.xs.length ≤ 1000000) (hy6 : (D.wake P).xs.length ≤ 1000000)
    (hz : Own1 w ⟨ao, l, c, z⟩) :
    Calls Try.prog 30 #[.pointer (some ⟨g, 0, none⟩), .int .i64 i, .slice ao l c] w fun e w' => e = .returned (.int .i64 (putE P n i l)) ∧ WrR w0 w w' B Bp g gp n (D.wake P) P i l z := by
  have HH := Lib.hid h
  have hwk := wake_any h.refl hx6
  have HE : Hid (putE P n i l = if P.off then 5 else if 0 ≤ i ∧ i < n then (if l = 256 then (if P.spent then 0 else 5) else 2) else 1) := rfl
  have HPB : Hid (putsB P n i l = (!P.off && decide (0 ≤ i ∧ i < n) && decide (l = 256))) := rfl
  have HR : Hid (∀ w', WrR w0 w w' B Bp g gp n (D.wake P) P i l z = ((putsB P n i l = false ∧ Sys w0 w' B Bp g gp n (D.wake P) P) ∨
  (putsB P n i l = true ∧ ∃ d, d.z = z ∧ (∀ b, d.a = some ⟨b, 0, none⟩ → w.heap.size ≤ b) ∧ Sys w0 w' B Bp g gp n ((D.wake P).put i.toNat d) P.spend))) := fun _ => rfl
  obtain ⟨R, hR⟩ : ∃ R : World → Prop, R = fun w' => WrR w0 w w' B Bp g gp n (D.wake P) P i l z := ⟨_, rfl⟩
  have HRR : Hid (∀ w', R w' = WrR w0 w w' B Bp g gp n (D.wake P) P i l z) := fun w' => by rw [hR]
  suffices hh : Calls Try.prog 30 #[.pointer (some ⟨g, 0, none⟩), .int .i64 i, .slice ao l c] w fun e w' => e = .returned (.int .i64 (putE P n i l)) ∧ R w' from hh.mono fun e w' h => ⟨h.1, by rw [← HRR.out]; exact h.2⟩
  clear hR
  obtain ⟨off, hof⟩ : ∃ off, off = P.off := ⟨_, rfl⟩
  rw [← hof] at hwk HE HPB
  obtain ⟨D1, hD1⟩ : ∃ D1, D1 = D.wake P := ⟨_, rfl⟩
  rw [← hD1] at hwk HRR HR hy6
  obtain ⟨E, hE⟩ : ∃ E, E = putE P n i l := ⟨_, rfl⟩
  rw [← hE] at HE ⊢
  have HW := Lib.hid hwk
  have HZ := Lib.hid hz
  clear h hwk hof hD1 hE hz
  cases off with
  | true =>
    obtain rfl : E = 5 := HE.out
    have hpb : putsB P n i l = false := HPB.out
    have HPB2 := Lib.hid hpb
    clear HE hpb
    go_enter Try.func30, Try.ntmps30
    go_wp2_with (go_at_call 34; refine HW.out.mono ?_; rintro e w1 ⟨rfl, hs⟩; have HS := Lib.hid hs; clear hs)
    go_ret
    exact ⟨rfl, by rw [HRR.out, HR.out]; exact .inl ⟨HPB2.out, HH.out.trans HS.out⟩⟩
  | false =>
    by_cases hi : 0 ≤ i ∧ i < n
    · have hE2 : E = if l = 256 then (if P.spent then 0 else 5) else 2 := by
        have := HE.out
        rw [if_neg (by decide), if_pos hi] at this
        exact this
      have hP2 : putsB P n i l = decide (l = 256) := by
        have := HPB.out
        rw [decide_eq_true hi] at this
        simpa using this
      have HE2 := Lib.hid hE2; have HP2 := Lib.hid hP2
      obtain ⟨hi0, hi1⟩ := hi
      obtain ⟨j, rfl⟩ := Int.eq_ofNat_of_zero_le hi0
      have hjn : j < n := by omega
      clear HE HPB hE2 hP2
      go_enter Try.func30, Try.ntmps30
      go_wp2_with (go_at_call 34; fail)
      refine HW.out.mono ?_
      rintro e w1 ⟨rfl, hs⟩
      have hhas := has_any (j : Int) hs
      rw [decide_eq_true (show (0 : Int) ≤ (j : Int) ∧ (j : Int) < (n : Int) from ⟨hi0, hi1⟩)] at hhas
      have HHAS := Lib.hid hhas
      have HS0 := Lib.hid hs
      clear hhas hs
      go_wp2_with (go_at_call 35; fail)
      refine HHAS.out.mono ?_
      rintro e w2 ⟨rfl, rfl⟩
      by_cases hl : l = 256
      · subst hl
        have hE3 : E = if P.spent then 0 else 5 := by have := HE2.out; rw [if_pos rfl] at this; exact this
        have hP3 : putsB P n (j : Int) 256 = true := by rw [HP2.out]; decide
        have HE3 := Lib.hid hE3; have HP3 := Lib.hid hP3
        clear HE2 HP2 hE3 hP3
        have hz1 : Own1 w1 ⟨ao, 256, c, z⟩ := HZ.out.kt HS0.out.kt rfl (fun _ _ => nofun)
        have hzl : z.length = 256 := hz1.1.len
        obtain ⟨ab, hao⟩ : ∃ ab, ao = some ⟨ab, 0, none⟩ := by
          rcases hz1.2 with h | ⟨g, _, h, _⟩
          · rcases hz1.1.rd with h2 | ⟨b, o, h2, _⟩
            · simp only at h2; rw [h2] at hzl; cases hzl
            · rw [h] at h2; cases h2
          · exact ⟨g, h⟩
        subst hao
        have hsz1 := HS0.out.kt.size
        have HZ1 := Lib.hid hz1; have HZL := Lib.hid hzl; have HSZ1 := Lib.hid hsz1
        obtain ⟨gn, gs, oo, k, oc, hs⟩ := HS0.out
        have HS := Lib.hid hs
        have HSP := Lib.hid (pspend w1 Bp gp P hs.p (.inr hs.p.due))
        obtain ⟨c0, c1, c2, c3, c4, fg, fn, fs⟩ := hs.d.c
        have hk6 : k ≤ 1000000 := by have := hs.d.lx; omega
        obtain ⟨sp, hsp⟩ : ∃ sp, sp = P.spent := ⟨_, rfl⟩
        rw [← hsp] at HE3 HSP
        clear hz1 hzl hs hsp hsz1 HHAS HW
        go_wp2_with (go_at_call 37; fail)
        refine HSP.out.mono ?_
        rintro e w3 ⟨rfl, hp3, hB3, ho3⟩
        have hs3 := HS.out.spend hp3 hB3 ho3
        have hk3 : KT KD none w1 w3 := by
          obtain ⟨cs, hc⟩ := HS.out.p.blk
          exact KT.pon hc rfl hB3.size ho3
        have hz3 : Own1 w3 ⟨some ⟨ab, 0, none⟩, 256, c, z⟩ := HZ1.out.kt hk3 rfl (fun _ _ => nofun)
        have HC := Lib.hid (clone_some ⟨ab, 0, none⟩ 256 c z w3 HZL.out (by omega) hz3.1.rd)
        have HB5 := Lib.hid hz3.1.bts
        have HS3 := Lib.hid hs3; have HK3 := Lib.hid hk3.size
        clear c0 c1 c2 c3 c4 fg fn fs hp3 hB3 ho3 hs3 hz3 hk3 HS HSP
        go_wp2_with (go_at_call 41; fail)
        refine HC.out.mono ?_
        rintro e w4 ⟨ko, kc, rfl, ho4, hB4⟩
        obtain ⟨W, hW⟩ : ∃ W, W = w4.alloc (.cells #[.int .i64 j, .slice ko 256 kc] 77) := ⟨_, rfl⟩
        have hB5 : Below w3.heap.size w3 W := by rw [hW]; exact hB4.alloc hB4.size _
        have hs5 := HS3.out.below hB5
        have hsz : w.heap.size ≤ w3.heap.size := by have := HSZ1.out; have := HK3.out; omega
        obtain ⟨gd, hgd, hgd2⟩ := ho4.at (by omega)
        have hda : ∀ b, ko = some ⟨b, 0, none⟩ → w.heap.size ≤ b := fun b hb => by
          rw [hgd] at hb
          cases hb; omega
        have hdat : Dat W B ⟨ko, 256, kc, z⟩ := by
          have h1 : Dat w4 B ⟨ko, 256, kc, z⟩ := .inr ⟨rfl, Own1.of_ow ho4 HB5.out, gd, hgd, Nat.le_trans HS3.out.d.low.2.2.2.2 hgd2⟩
          rw [hW]
          exact h1.kt (KT.below (fun _ => false) Option.none ((Below.refl _ _).alloc (Nat.le_refl _) _)) rfl (fun _ _ => nofun)
        have hdn : ko ≠ none := by rw [hgd]; nofun
        have hb5 : W.heap[w4.heap.size]? = some (.cells #[.int .i64 j, .slice ko 256 kc] 77) := by rw [hW]; exact heap_alloc_new _ _
        obtain ⟨gb, hgb⟩ : ∃ gb, gb = w4.heap.size := ⟨_, rfl⟩
        rw [← hgb] at hb5
        have hlt5 := (Array.getElem?_eq_some_iff.1 hb5).1
        have hne : some gb ≠ (Value.slice oo k oc).ownBlock := by
          intro e
          rcases HS3.out.d.opn.2 with ⟨q, _⟩ | ⟨g', cap, cur, q1, q2, q3, _⟩
          · rw [q] at e; cases e
          · have e2 : gb = g' := by rw [q1] at e; simpa [Value.ownBlock] using e
            have h1 := (Array.getElem?_eq_some_iff.1 q3).1
            have h2 := hB4.size
            omega
        have HNE := Lib.hid hne
        have hal : Below W.heap.size W (W.alloc (.cells #[.int .i64 j, .slice ko 256 kc] 77)).drew := ((Below.refl _ _).alloc (Nat.le_refl _) _).drew
        have hs6 := hs5.below hal
        have hg6 : (W.alloc (.cells #[.int .i64 j, .slice ko 256 kc] 77)).drew.heap[W.heap.size]? = some (.cells #[.int .i64 j, .slice ko 256 kc] 77 (0, 0)) := heap_alloc_new _ _
        have hd6 : Dat (W.alloc (.cells #[.int .i64 j, .slice ko 256 kc] 77)).drew B ⟨ko, 256, kc, z⟩ := hdat.kt (KT.below (fun _ => false) Option.none hal) rfl (fun _ _ => nofun)
        have hb6 : (W.alloc (.cells #[.int .i64 j, .slice ko 256 kc] 77)).drew.heap[gb]? = some (.cells #[.int .i64 j, .slice ko 256 kc] 77) := by rw [hal.block _ hlt5]; exact hb5
        have HW5 := Lib.hid hW; have HS5 := Lib.hid hs5; have HS6 := Lib.hid hs6; have HDA := Lib.hid hda; have HDN := Lib.hid hdn; have HG6 := Lib.hid hg6; have HD6 := Lib.hid hd6; have HAL := Lib.hid hal; have HB55 := Lib.hid hb5; have HB6 := Lib.hid hb6; have HGB := Lib.hid hgb
        clear hB5 hs5 hs6 hda hdat hdn hb5 hal hg6 hd6 ho4 hB4 hgd hgd2 hsz hW HC hb6 hgb hlt5 hne
        go_wp2
        rw [← HGB.out, ← HW5.out]
        have y0 : W.cell? ⟨gb, 0, none⟩ = some (.int .i64 j) := by simp [World.cell?, HB55.out]
        have y1 : W.cell? ⟨gb, 1, none⟩ = some (.slice ko 256 kc) := by simp [World.cell?, HB55.out]
        have y2 : (W.alloc (.cells #[.int .i64 j, .slice ko 256 kc] 77)).drew.cell? ⟨gb, 0, none⟩ = some (.int .i64 j) := by simp only [World.cell?, HB6.out]; rfl
        have y3 : (W.alloc (.cells #[.int .i64 j, .slice ko 256 kc] 77)).drew.cell? ⟨gb, 1, none⟩ = some (.slice ko 256 kc) := by simp only [World.cell?, HB6.out]; rfl
        obtain ⟨c0, c1, c2, c3, c4, fg, fn, fs⟩ := HS5.out.d.c
        obtain ⟨e0, e1, e2, e3, e4, eg, en, es⟩ := HS6.out.d.c
        go_region_law
          ((refine step_append_wr rfl (.tmp 32) (.tmp 34) rfl B k oc W.heap.size oo D1.xs ⟨j, ⟨ko, 256, kc, z⟩⟩ rfl HS6.out.d.opn rfl HG6.out (by omega) HS6.out.d.low.2.2.2.2 ?_; intro oo' oc' w6 ho6 hg6; have hb6 := HS6.out.grown_blk hg6; have s4 : w6.cell? ⟨g, 4, none⟩ = some (.slice oo k oc) := (by rw [Joins.cell_of_block hb6]; rfl); have sf : ∀ i, w6.frozen? ⟨g, i, none⟩ = false := (fun i => Joins.unfrozen_of_block hb6 i); have HO6 := Lib.hid ho6; have HG66 := Lib.hid hg6; clear ho6 hg6 hb6))
        all_goals
          have hs7 := HS6.out.push HG66.out HO6.out HD6.out hjn HDN.out
          have hb7 : w6.heap[gb]? = some (.cells #[.int .i64 j, .slice ko 256 kc] 77) := by
            rw [HG66.out.block gb (Array.getElem?_eq_some_iff.1 HB6.out).1 HNE.out]; exact HB6.out
          have hbg := HS6.out.grown_blk HG66.out
          have hb8 : (w6.setCell ⟨g, 4, none⟩ (.slice oo' (k + 1) oc')).heap[gb]? = some (.cells #[.int .i64 j, .slice ko 256 kc] 77) := by
            rw [set_far _ _ _ _ _ (tag_ne hb7 hbg (by decide))]; exact hb7
          obtain ⟨W7, hW7⟩ : ∃ W7, W7 = w6.setCell ⟨g, 4, none⟩ (.slice oo' (k + 1) oc') := ⟨_, rfl⟩
          rw [← hW7] at hs7 hb8
          have hd7 : Dat W7 B ⟨ko, 256, kc, z⟩ := (hs7.d.dx ⟨j, ⟨ko, 256, kc, z⟩⟩ (by simp)).1
          have hjl : j < D1.ns.length := by rw [hs7.d.ln]; exact hjn
          obtain ⟨u0, u1⟩ := hs7.d.now.sec hjl
          generalize D1.ns[j] = s2 at u0 u1
          clear c0 c1 c2 c3 c4 fg fn fs e0 e1 e2 e3 e4 eg en es y0 y1 y2 y3 s4 sf
          obtain ⟨c0, c1, c2, c3, c4, fg, fn, fs⟩ := hs7.d.c
          have y0 : W7.cell? ⟨gb, 0, none⟩ = some (.int .i64 j) := by simp [World.cell?, hb8]
          have y1 : W7.cell? ⟨gb, 1, none⟩ = some (.slice ko 256 kc) := by simp [World.cell?, hb8]
          have HS7 := Lib.hid hs7; have HD7 := Lib.hid hd7; have HW7 := Lib.hid hW7
          clear hb7 hbg hb8 hs7 hd7 hjl hW7 HO6 HG66 HS6 HS5 HG6 HB6 HB55
          go_wp2
          rw [← HW7.out]
          go_region
          cases sp with
          | true =>
            obtain rfl : E = 0 := HE3.out
            go_wp2
            go_ret
            refine ⟨rfl, ?_⟩
            rw [HRR.out, HR.out]
            refine .inr ⟨HP3.out, ⟨ko, 256, kc, z⟩, rfl, HDA.out, HH.out.trans ?_⟩
            rw [Int.toNat_natCast]
            first | exact ⟨_, _, _, _, _, (HS7.out.put hjn ⟨⟨ko, 256, kc, z⟩, false⟩ HD7.out).drew⟩ | exact ⟨_, _, _, _, _, HS7.out.drew.put hjn ⟨⟨ko, 256, kc, z⟩, false⟩ HD7.out⟩
          | false =>
            obtain rfl : E = 5 := HE3.out
            go_wp2
            go_ret
            refine ⟨rfl, ?_⟩
            rw [HRR.out, HR.out]
            refine .inr ⟨HP3.out, ⟨ko, 256, kc, z⟩, rfl, HDA.out, HH.out.trans ?_⟩
            rw [Int.toNat_natCast]
            first | exact ⟨_, _, _, _, _, (HS7.out.put hjn ⟨⟨ko, 256, kc, z⟩, false⟩ HD7.out).drew⟩ | exact ⟨_, _, _, _, _, HS7.out.drew.put hjn ⟨⟨ko, 256, kc, z⟩, false⟩ HD7.out⟩
      · have hE3 : E = 2 := by have := HE2.out; rw [if_neg hl] at this; exact this
        have hP3 : putsB P n (j : Int) l = false := by rw [HP2.out]; exact decide_eq_false hl
        have d1 : ((l : Int) != 256) = true := by simp; omega
        have HP3 := Lib.hid hP3
        subst hE3
        clear HE2 HP2 hP3 hl
        go_wp2
        go_ret
        exact ⟨rfl, by rw [HRR.out, HR.out]; exact .inl ⟨HP3.out, HH.out.trans HS0.out⟩⟩
    · obtain rfl : E = 1 := by
        have := HE.out
        rw [if_neg (by decide), if_neg hi] at this
        exact this
      have hpb : putsB P n i l = false := by rw [HPB.out, decide_eq_false hi]; rfl
      have HI := Lib.hid hi; have HPB2 := Lib.hid hpb
      clear HE hi hpb HPB
      go_enter Try.func30, Try.ntmps30
      go_wp2_with (go_at_call 34; fail)
      refine HW.out.mono ?_
      rintro e w1 ⟨rfl, hs⟩
      have hhas := has_any i hs
      rw [decide_eq_false HI.out] at hhas
      have HHAS := Lib.hid hhas
      have HS0 := Lib.hid hs
      clear hhas hs
      go_wp2_with (go_at_call 35; refine HHAS.out.mono ?_; rintro e w2 ⟨rfl, rfl⟩)
      go_ret
      exact ⟨rfl, by rw [HRR.out, HR.out]; exact .inl ⟨HPB2.out, HH.out.trans HS0.out⟩⟩

end Go.Proofs.Ytaajdaikfabchaa
