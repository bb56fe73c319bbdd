/-
  Aggregates: Read.
-/
import Derived.Test.YtifbbikhjolnjaaDoorAg7
namespace Go.Proofs.YtifbbikhjolnjaaDoor
open Go.RowKit
set_option linter.unusedVariables false

theorem append_rec2 {w : World} {ops : Array Oper} {rest : List Oper} {o : Oper} {a : Act} {Q : Exit → Act → World → Prop} (hgd : o.guard = none) (s x : Operand)
    (ho : o.op = .call { callee := .builtin .append, args := #[s, x], argTypes := #[22, 22] })
    (base n kc g : Nat) (ko : Option Addr) (rs : List Rec) (r : Rec) (hs : a.eval s = .slice ko n kc) (hown : ORs w base ko n kc rs) (hx : a.eval x = .slice (some ⟨g, 0, none⟩) 1 1)
    (hg : w.heap[g]? = some (.cells #[.int .i64 r.k, .int .i64 r.s, .slice r.d.a r.d.l r.d.c] 43)) (hr : Own1 w r.d)
    (hm : n ≤ 1000000000) (hb : base ≤ w.heap.size)
    (h : ∀ ko' kc' w', ORs w' base ko' (n + 1) kc' (rs ++ [r]) → Below base w w' → w.grownBy w' (Value.slice ko n kc).ownBlock → wpList Tryd.prog ops Q rest (a.put o.dst (.slice ko' (n + 1) kc')) w') : wpList Tryd.prog ops Q (o :: rest) a w := by
  obtain ⟨i0, hi, hz0, hz1, hz2⟩ := info_parts info_rec
  obtain ⟨h1, h2, h3, h4, h5⟩ := hown
  refine wpList_append_own _ hgd s x 22 ho base 43 i0 (.agg #[.int .i64 0, .int .i64 0, .slice none 0 0]) 3 40 Tryd.underlying22 hi hz0 hz1 hz2 rfl (by decide) _ n _ hs h4 ⟨g, 0, none⟩ 1 1 r.cs hx rfl ?_ ?_ (by unfold maxLen; omega) (by omega) hb ?_
  · intro j u hj
    rw [Addr.add_lit, Nat.zero_add]
    match j, hj with
    | 0, hj => simp [Rec.cs] at hj; subst hj; simp [World.cell?, hg]
    | 1, hj => simp [Rec.cs] at hj; subst hj; simp [World.cell?, hg]
    | 2, hj => simp [Rec.cs] at hj; subst hj; simp [World.cell?, hg]
    | j + 3, hj => simp [Rec.cs] at hj
  · intro u hu
    simp [Rec.cs] at hu
    rcases hu with rfl | rfl | rfl <;> rfl
  · intro v' w' ho' hg' _
    have hcat : css rs ++ r.cs = css (rs ++ [r]) := by unfold css; rw [List.flatMap_append]; simp only [List.flatMap_cons, List.flatMap_nil, List.append_nil]
    rw [hcat] at ho'
    have hlen : (rs ++ [r]).length = n + 1 := by simp [h1]
    have hv : ∃ ko' kc', v' = .slice ko' (n + 1) kc' ∧ n + 1 ≤ kc' ∧ kc' ≤ maxLen := by
      rcases ho'.2 with ⟨_, h0⟩ | ⟨g', cap', cur, q1, _, _, q4, q5, _⟩
      · omega
      · exact ⟨_, cap', q1, q4, q5⟩
    obtain ⟨ko', kc', rfl, hk1, hk2⟩ := hv
    refine h ko' kc' w' ⟨hlen, hk1, hk2, ho', fun i hi => ?_⟩ (Below.grown (Below.refl _ _) hg' hb (own_ge3 h4)) hg'
    by_cases hin : i < rs.length
    · rw [List.getElem_append_left hin]; exact (h5 i hin).grown3 (by omega) h4 hg'
    · have : i = rs.length := by simp at hi; omega
      subst this
      rw [List.getElem_append_right (Nat.le_refl _)]
      simp only [Nat.sub_self, List.getElem_cons_zero]
      exact hr.grown3 (by omega) h4 hg'
theorem append_num2 {w : World} {ops : Array Oper} {rest : List Oper} {o : Oper} {a : Act} {Q : Exit → Act → World → Prop} (hgd : o.guard = none) (s x : Operand)
    (ho : o.op = .call { callee := .builtin .append, args := #[s, x], argTypes := #[29, 29] })
    (base n kc g : Nat) (ko : Option Addr) (zs : List Int) (y : Int) (hs : a.eval s = .slice ko n kc) (hown : On w base ko n kc zs) (hx : a.eval x = .slice (some ⟨g, 0, none⟩) 1 1)
    (hg : w.heap[g]? = some (.cells #[.int .i64 y] 3))
    (hm : n ≤ 1000000000) (hb : base ≤ w.heap.size)
    (h : ∀ ko' kc' w', On w' base ko' (n + 1) kc' (zs ++ [y]) → Below base w w' → w.grownBy w' (Value.slice ko n kc).ownBlock → wpList Tryd.prog ops Q rest (a.put o.dst (.slice ko' (n + 1) kc')) w') : wpList Tryd.prog ops Q (o :: rest) a w := by
  obtain ⟨i0, hi, hz0, hz1, hz2⟩ := info_parts info3
  obtain ⟨h1, h2, h3, h4⟩ := hown
  refine wpList_append_own _ hgd s x 29 ho base 3 i0 (.int .i64 0) 1 8 Tryd.underlying29 hi hz0 hz1 hz2 rfl (by decide) _ n _ hs h4 ⟨g, 0, none⟩ 1 1 [.int .i64 y] hx rfl ?_ ?_ (by unfold maxLen; omega) (by omega) hb ?_
  · intro j u hj
    rw [Addr.add_lit, Nat.zero_add]
    match j, hj with
    | 0, hj => simp at hj; subst hj; simp [World.cell?, hg]
    | j + 1, hj => simp at hj
  · intro u hu
    simp at hu
    subst hu; rfl
  · intro v' w' ho' hg' _
    rw [show (zs.map (Value.int .i64) ++ [Value.int .i64 y]) = (zs ++ [y]).map (Value.int .i64) by simp] at ho'
    have hv : ∃ ko' kc', v' = .slice ko' (n + 1) kc' ∧ n + 1 ≤ kc' ∧ kc' ≤ maxLen := by
      rcases ho'.2 with ⟨_, h0⟩ | ⟨g', cap', cur, q1, _, _, q4, q5, _⟩
      · omega
      · exact ⟨_, cap', q1, q4, q5⟩
    obtain ⟨ko', kc', rfl, hk1, hk2⟩ := hv
    refine h ko' kc' w' ⟨by simp [h1], hk1, hk2, ho'⟩ (Below.grown (Below.refl _ _) hg' hb (own_ge3 h4)) hg'
theorem owns_grown {w w' : World} {base base2 e e2 n n2 s s2 : Nat} {v v2 : Value} {xs xs2 : List Value} (hne : e ≠ e2) (h : w.ownsRow base e s v n xs) (h2 : w.ownsRow base2 e2 s2 v2 n2 xs2) (hg : w.grownBy w' v2.ownBlock) : w'.ownsRow base e s v n xs := by
  refine ⟨h.1, ?_⟩
  rcases h.2 with h3 | ⟨g, cap, cur, q1, q2, q3, q4⟩
  · exact .inl h3
  · refine .inr ⟨g, cap, cur, q1, q2, ?_, q4⟩
    have hd : some g ≠ v2.ownBlock := by
      intro e'
      rcases h2.2 with ⟨q', _⟩ | ⟨g', cap', cur', p1, p2, p3, p4⟩
      · rw [q'] at e'; cases e'
      · rw [p1] at e'
        cases e'
        rw [q3] at p3
        simp only [Option.some.injEq, Obj.cells.injEq] at p3
        exact hne p3.2.1
    rw [hg.block g (Array.getElem?_eq_some_iff.1 q3).1 hd]; exact q3
theorem On.grown {w w' : World} {base base2 n n2 c c2 : Nat} {ko k2 : Option Addr} {zs : List Int} {rs : List Rec} (h : On w base ko n c zs) (h2 : ORs w base2 k2 n2 c2 rs) (hg : w.grownBy w' (Value.slice k2 n2 c2).ownBlock) : On w' base ko n c zs :=
  ⟨h.1, h.2.1, h.2.2.1, owns_grown (by decide) h.2.2.2 h2.2.2.2.1 hg⟩
theorem ORs.grown {w w' : World} {base base2 n n2 c c2 : Nat} {ko k2 : Option Addr} {zs : List Int} {rs : List Rec} (h : ORs w base ko n c rs) (h2 : On w base2 k2 n2 c2 zs) (hg : w.grownBy w' (Value.slice k2 n2 c2).ownBlock) : ORs w' base ko n c rs :=
  ⟨h.1, h.2.1, h.2.2.1, owns_grown (by decide) h.2.2.2.1 h2.2.2.2 hg, fun i hi => (h.2.2.2.2 i hi).grown3 (by decide) h2.2.2.2 hg⟩
theorem ORs.low {w : World} {base b n c : Nat} {ko : Option Addr} {rs : List Rec} (h : ORs w base ko n c rs) (hb : b ≤ base) : ORs w b ko n c rs := by
  refine ⟨h.1, h.2.1, h.2.2.1, ⟨h.2.2.2.1.1, ?_⟩, h.2.2.2.2⟩
  rcases h.2.2.2.1.2 with h3 | ⟨g, cap, cur, q1, q2, q3⟩
  · exact .inl h3
  · exact .inr ⟨g, cap, cur, q1, Nat.le_trans hb q2, q3⟩
theorem On.low {w : World} {base b n c : Nat} {ko : Option Addr} {zs : List Int} (h : On w base ko n c zs) (hb : b ≤ base) : On w b ko n c zs := by
  refine ⟨h.1, h.2.1, h.2.2.1, ⟨h.2.2.2.1, ?_⟩⟩
  rcases h.2.2.2.2 with h3 | ⟨g, cap, cur, q1, q2, q3⟩
  · exact .inl h3
  · exact .inr ⟨g, cap, cur, q1, Nat.le_trans hb q2, q3⟩
theorem bounds26 (k : Int) (n : Nat) (a : Option Addr) (c : Nat) (w : World) : Calls Tryd.prog 26 #[.agg #[.int .i64 k, .int .i64 n, .slice a 0 c], .int .i64 n] w fun e w' => e = .returned (.bool true) ∧ Below w.heap.size w w' := by
  have hb : ((n : Int) == n) = true := by simp
  go_enter Tryd.func26, Tryd.ntmps26
  go_wp2
  go_ret
  exact ⟨rfl, (Below.refl _ _).alloc (Nat.le_refl _) _⟩
/-- What Read of a beginning leaves. -/
def RDP (w : World) (rs : List Rec) (j : Nat) (wh : Bool) (e : Ending) (w' : World) : Prop :=
  ∃ lo lc oo oc ls, e = .returned (.tuple #[.slice lo j lc, .slice oo j oc, .bool wh]) ∧ ORs w' w.heap.size lo j lc ls ∧ ls.map Rec.key = (rs.take j).map Rec.key ∧ On w' w.heap.size oo j oc (offP rs j) ∧ Below w.heap.size w w'

set_option maxHeartbeats 4000000 in
theorem aread (ao : Option Addr) (len cap : Nat) (zs : List Int) (w : World) (hT : Tab w) (hl : zs.length = len) (hlc : len ≤ cap) (hm : len ≤ 10000000) (hcm : cap ≤ maxLen) (hr : Rd w ao zs) (hz : Bts zs)
    (rs : List Rec) (j n : Nat) (hn : rs.length = n) (hj : j ≤ n) (h64 : n ≤ 64) (hok : ∀ i, (hi : i < rs.length) → nok rs[i].k rs[i].s ∧ rs[i].d.z.length ≤ 8000 ∧ rs[i].k ≠ 4 ∧ rs[i].k ≠ 5 ∧ Bts rs[i].d.z)
    (rest0 : List Int) (h0 : zs = fr 4 n [] ++ rest0)
    (hst : ∀ i, (hi : i < j) → ∃ rest, zs = (fr 4 n [] ++ frs (rs.take i)) ++ (fr rs[i].k rs[i].s rs[i].d.z ++ rest))
    (wh : Bool) (hend : (wh = false ∧ rer (zs.drop (13 + (frs (rs.take j)).length)) ≠ 0 ∧ 13 + (frs (rs.take j)).length ≤ len) ∨ (j = n ∧ 1 ≤ j ∧ ∃ more, zs = (fr 4 n [] ++ frs (rs.take j)) ++ (fr 5 n [] ++ more) ∧ wh = decide (more = []))) :
    Calls Tryd.prog 17 #[.slice ao len cap] w (RDP w rs j wh) := by
  have hRT := fun (V : World) (hV : Below w.heap.size w V) (pre rest z : List Int) (k s : Int) (hk : nok k s) (hz8 : z.length ≤ 8000) (e : zs = pre ++ (fr k s z ++ rest)) (p : Nat) (hp : p = pre.length) => fread_at ao len cap pre rest z zs k s V (hT.below hV) hk hz8 e hz hl hlc (by omega) hcm (hr.below hV) p hp
  have hRA := fun (V : World) (hV : Below w.heap.size w V) (p : Int) => fread_any ao len cap zs p V (hT.below hV) hl hlc (by omega) hcm (hr.below hV) hz
  have HRT := Lib.hid hRT; have HRA := Lib.hid hRA; have HOK := Lib.hid hok; have HST := Lib.hid hst; have HEND := Lib.hid hend; have HN := Lib.hid hn; have HL := Lib.hid hl
  have hhd := hRT w (Below.refl _ _) [] rest0 [] 4 n ⟨by omega, by omega, by omega, by omega⟩ (Nat.zero_le _) h0 0 rfl
  rw [show ((0 : Nat) : Int) = 0 from rfl, show ((0 + 13 + ([] : List Int).length : Nat) : Int) = 13 from rfl, show ([] : List Int).length = 0 from rfl] at hhd
  have HHD := Lib.hid hhd
  clear hRT hRA hok hst hend hl hT hr hz h0 hhd
  go_enter Tryd.func17, Tryd.ntmps17
  go_wp2_with (go_at_call 19; fail)
  refine HHD.out.mono ?_
  rintro e w1 ⟨k1, c1, rfl, ho1, hB1⟩
  have HB1 := Lib.hid hB1; have HB1S := Lib.hid hB1.size
  have hA : Below w.heap.size w (w1.alloc (.cells #[.int .i64 4, .int .i64 n, .slice k1 0 c1] 43)) := hB1.alloc hB1.size _
  have hg0 : (w1.alloc (.cells #[.int .i64 4, .int .i64 n, .slice k1 0 c1] 43)).heap[w1.heap.size]? = some (.cells #[.int .i64 4, .int .i64 n, .slice k1 0 c1] 43) := heap_alloc_new _ _
  have hsz : (w1.alloc (.cells #[.int .i64 4, .int .i64 n, .slice k1 0 c1] 43)).heap.size = w1.heap.size + 1 := World.size_alloc _ _
  obtain ⟨W0, hW0⟩ : ∃ W0, W0 = w1.alloc (.cells #[.int .i64 4, .int .i64 n, .slice k1 0 c1] 43) := ⟨_, rfl⟩
  have HW0 := Lib.hid hW0
  rw [← hW0] at hA hg0 hsz
  have HA := Lib.hid hA; have HG0 := Lib.hid hg0; have HSZ := Lib.hid hsz
  clear ho1 hB1 HHD hA hg0 hsz hW0
  go_wp2
  rw [← HW0.out]
  go_loopw [2, 3, 6] (fun v u a wr => ∃ (k : Nat) (lo : Option Addr) (lc : Nat) (oo : Option Addr) (oc : Nat) (ls : List Rec), k ≤ j ∧ v = .slice lo k lc ∧ u = .slice oo k oc ∧ a = .int .i64 ((13 + (frs (rs.take k)).length : Nat) : Int) ∧ ORs wr (w1.heap.size + 1) lo k lc ls ∧ ls.map Rec.key = (rs.take k).map Rec.key ∧ On wr (w1.heap.size + 1) oo k oc (offP rs k) ∧ Below W0.heap.size W0 wr) (fun v _ _ _ => j - (match v with | .slice _ l _ => l | _ => 0))
  case atStart => exact ⟨0, none, 0, none, 0, [], Nat.zero_le _, rfl, rfl, rfl, ORs.nil _ _, rfl, On.nil _ _, Below.refl _ _⟩
  case round =>
    obtain ⟨k, lo, lc, oo, oc, ls, hkj, rfl, rfl, rfl, hors, hkey, hon, hB⟩ := hrel
    have hBw : Below w.heap.size w wr := HA.out.trans (hB.mono HA.out.size)
    have hgr : wr.heap[w1.heap.size]? = some (.cells #[.int .i64 4, .int .i64 n, .slice k1 0 c1] 43) := by
      rw [hB.block _ (by rw [HSZ.out]; omega)]; exact HG0.out
    have hsw : w1.heap.size + 1 ≤ wr.heap.size := by rw [← HSZ.out]; exact hB.size
    have HORS := Lib.hid hors; have HKEY := Lib.hid hkey; have HON := Lib.hid hon; have HB := Lib.hid hB; have HBW := Lib.hid hBw; have HGR := Lib.hid hgr; have HSW := Lib.hid hsw
    clear hors hkey hon hB hBw hgr hsw
    by_cases hlt : k < j
    · -- a record
      have hkn : k < rs.length := by omega
      obtain ⟨rest, hrest⟩ := HST.out k hlt
      obtain ⟨hnok, h8, h4, h5, hbt⟩ := HOK.out k hkn
      have hcat := frs_take rs k hkn
      have hos := offP_succ rs k
      have hkt : (rs.take (k + 1)).map Rec.key = (rs.take k).map Rec.key ++ [rs[k].key] := by rw [List.take_succ_eq_append_getElem hkn, List.map_append]; rfl
      have hfr := HRT.out wr HBW.out _ rest rs[k].d.z rs[k].k rs[k].s hnok h8 hrest (13 + (frs (rs.take k)).length) (by rw [List.length_append, fr_len]; rfl)
      obtain ⟨r, hr⟩ : ∃ r, r = rs[k] := ⟨_, rfl⟩
      rw [← hr] at hfr h8 h4 h5 hbt hcat hnok hrest hkt
      obtain ⟨z, hz⟩ : ∃ z, z = r.d.z := ⟨_, rfl⟩
      have hbz : Bts z := by rw [hz]; exact hbt
      have hrk : r.key = (r.k, r.s, z) := by rw [hz]; rfl
      rw [← hz] at hfr h8 hcat
      obtain ⟨kk, hkk⟩ : ∃ kk, kk = r.k := ⟨_, rfl⟩
      obtain ⟨ss, hss⟩ : ∃ ss, ss = r.s := ⟨_, rfl⟩
      rw [← hkk, ← hss] at hfr hcat hrk
      rw [← hkk] at h4 h5
      obtain ⟨m, hmz⟩ : ∃ m, m = z.length := ⟨_, rfl⟩
      rw [← hmz] at hfr h8
      obtain ⟨P, hP⟩ : ∃ P : Nat, P = 13 + (frs (rs.take k)).length := ⟨_, rfl⟩
      have hos2 : offP rs (k + 1) = offP rs k ++ [(P : Int)] := by rw [hos, hP]; congr 2
      have hP2 : P + 13 + m = 13 + (frs (rs.take (k + 1))).length := by rw [hcat, List.length_append, fr_len, ← hmz, hP]; omega
      rw [← hP] at hfr ⊢
      have e4 : (kk == 4) = false := beq_eq_false_iff_ne.2 h4
      have e5 : (kk == 5) = false := beq_eq_false_iff_ne.2 h5
      have HFR := Lib.hid hfr; have HOS := Lib.hid hos2; have HP2 := Lib.hid hP2; have HBZ := Lib.hid hbz; have HKT := Lib.hid hkt; have HRK := Lib.hid hrk
      clear hbt hfr hos hos2 hP2 hbz hkt hrk hr hz hkk hss hP hcat hrest hnok h4 h5 hmz
      go_wp2_with (go_at_call 19; fail)
      refine HFR.out.mono ?_
      rintro e w3 ⟨k3, c3, rfl, ho3, hB3⟩
      have hq3 : Own1 w3 ⟨k3, m, c3, z⟩ := Own1.of_ow ho3 HBZ.out
      have hb1 : Below w3.heap.size w3 (w3.alloc (.cells #[.int .i64 kk, .int .i64 ss, .slice k3 m c3] 43)) := (Below.refl _ _).alloc (Nat.le_refl _) _
      have hb2 : Below w3.heap.size w3 ((w3.alloc (.cells #[.int .i64 kk, .int .i64 ss, .slice k3 m c3] 43)).alloc (.cells #[.int .i64 kk, .int .i64 ss, .slice k3 m c3] 43)) := hb1.alloc hb1.size _
      have hgx : ((w3.alloc (.cells #[.int .i64 kk, .int .i64 ss, .slice k3 m c3] 43)).alloc (.cells #[.int .i64 kk, .int .i64 ss, .slice k3 m c3] 43)).heap[w3.heap.size + 1]? = some (.cells #[.int .i64 kk, .int .i64 ss, .slice k3 m c3] 43) := by
        have := heap_alloc_new (w3.alloc (.cells #[.int .i64 kk, .int .i64 ss, .slice k3 m c3] 43)) (.cells #[.int .i64 kk, .int .i64 ss, .slice k3 m c3] 43)
        rw [World.size_alloc] at this
        exact this
      have hbr := hB3.trans (hb2.mono hB3.size)
      have HB4 := Lib.hid (HB.out.trans (hbr.mono HB.out.size))
      have HO4 := Lib.hid ((HORS.out.below hB3).below hb2)
      have HN4 := Lib.hid ((HON.out.below hB3).below hb2)
      have HQ4 := Lib.hid (hq3.below hb2)
      have HG := Lib.hid hgx
      have HS4 := Lib.hid (Nat.le_trans HSW.out hbr.size)
      clear ho3 hB3 hq3 hb1 hb2 hgx hbr
      go_wp2_with (first
        | (at_builtin; refine append_rec2 rfl (.tmp 73) (.tmp 75) rfl (w1.heap.size + 1) k lc (w3.heap.size + 1) lo ls ⟨kk, ss, ⟨k3, m, c3, z⟩⟩ rfl HO4.out rfl HG.out HQ4.out (by omega) HS4.out ?_; intro lo' lc' w5 ho5 hB5 hg5; have hal5 : Below w5.heap.size w5 (w5.alloc (.cells #[.int .i64 (P : Int)] 3)) := (Below.refl _ _).alloc (Nat.le_refl _) _; have HO5 := Lib.hid (ho5.below hal5); have HN5 := Lib.hid ((HN4.out.grown HO4.out hg5).below hal5); have HB5 := Lib.hid (HB4.out.trans ((hB5.mono (Nat.le_of_eq HSZ.out)).trans (hal5.mono (Nat.le_trans HB4.out.size hB5.size)))); have HGP := Lib.hid (heap_alloc_new w5 (.cells #[.int .i64 (P : Int)] 3)); have HS5 := Lib.hid (Nat.le_trans (Nat.le_trans HS4.out hB5.size) hal5.size); clear ho5 hB5 hg5 hal5)
        | (at_builtin; refine append_num2 rfl (.tmp 77) (.tmp 79) rfl (w1.heap.size + 1) k oc w5.heap.size oo (offP rs k) (P : Int) rfl HN5.out rfl HGP.out (by omega) HS5.out ?_; intro oo' oc' w6 ho6 hB6 hg6; have HN6 := Lib.hid ho6; have HO6 := Lib.hid (HO5.out.grown HN5.out hg6); have HB6 := Lib.hid (HB5.out.trans (hB6.mono (Nat.le_of_eq HSZ.out))); clear ho6 hB6 hg6))
      go_roundw
      case rel =>
        refine ⟨k + 1, lo', lc', oo', oc', ls ++ [⟨kk, ss, ⟨k3, m, c3, z⟩⟩], by omega, by rfl, by rfl, by rw [← HP2.out]; go_num, HO6.out, ?_, by rw [HOS.out]; exact HN6.out, HB6.out⟩
        rw [List.map_append, HKEY.out, HKT.out, HRK.out]; rfl
      case measure => simp; omega
    · obtain rfl : k = j := by omega
      have hfin : ∀ e (w' : World), Below wr.heap.size wr w' → e = .returned (.tuple #[.slice lo k lc, .slice oo k oc, .bool wh]) → RDP w rs k wh e w' := fun e w' hb he =>
        ⟨lo, lc, oo, oc, ls, he, (HORS.out.below hb).low (Nat.le_trans HB1S.out (Nat.le_succ _)), HKEY.out, (HON.out.below hb).low (Nat.le_trans HB1S.out (Nat.le_succ _)), HBW.out.trans (hb.mono HBW.out.size)⟩
      have hra := HRA.out wr HBW.out
      have hrt := HRT.out wr HBW.out
      obtain ⟨P, hP⟩ : ∃ P : Nat, P = 13 + (frs (rs.take k)).length := ⟨_, rfl⟩
      have hend := HEND.out
      rw [← hP] at hend ⊢
      have HFIN := Lib.hid hfin; have HPP := Lib.hid hP
      rcases hend with ⟨rfl, her, hPl⟩ | ⟨rfl, hk1, more, hmore, hwh⟩
      · -- no frame
        have hr1 := hra (P : Int)
        have HER := Lib.hid her
        have HR1 := Lib.hid hr1
        clear hfin hra hrt hP her hr1
        go_wp2_with (go_at_call 19; fail)
        refine HR1.out.mono ?_
        rintro e w3 (⟨h1, _⟩ | ⟨_, h0, h1⟩ | ⟨_, h0, h1⟩)
        · have := HL.out; omega
        · rw [Int.toNat_natCast] at h0; exact absurd h0 HER.out
        · rw [Int.toNat_natCast] at h0 h1
          obtain ⟨er, her⟩ : ∃ er, er = rer (zs.drop P) := ⟨_, rfl⟩
          rw [← her] at h0 h1
          obtain ⟨rfl, hB3⟩ := h1
          have d2 : (er != 0) = true := by simp [h0]
          have HB3 := Lib.hid hB3
          clear her hB3 h0
          go_wp2
          go_ret3
          exact HFIN.out _ _ (HB3.out.alloc HB3.out.size _) rfl
      · have hrt5 := hrt (fr 4 k [] ++ frs (rs.take k)) more [] 5 k ⟨by omega, by omega, by omega, by omega⟩ (Nat.zero_le _) hmore P (by rw [hP, List.length_append, fr_len]; rfl)
        rw [show ([] : List Int).length = 0 from rfl] at hrt5
        obtain ⟨nx, hnx⟩ : ∃ nx, nx = P + 13 + 0 := ⟨_, rfl⟩
        rw [← hnx] at hrt5
        have hlen : len = nx + more.length := by
          have := congrArg List.length hmore
          rw [HL.out, List.length_append, List.length_append, List.length_append, fr_len, fr_len] at this
          simp only [List.length_nil] at this
          omega
        have hx : ((nx : Int) == (len : Int)) = wh := by
          rw [hwh]
          by_cases hm0 : more = []
          · subst hm0
            rw [hlen]; simp
          · have : 0 < more.length := List.length_pos_iff.2 hm0
            rw [decide_eq_false hm0, beq_eq_false_iff_ne]; omega
        have d1 : decide ((1 : Int) ≤ (k : Int)) = true := decide_eq_true (by omega)
        have d1' : decide (1 ≤ k) = true := decide_eq_true hk1
        have d2 : decide ((k : Int) ≤ 64) = true := decide_eq_true (by omega)
        have d2' : decide (k ≤ 64) = true := decide_eq_true h64
        have HRT5 := Lib.hid hrt5
        clear hfin hra hrt hrt5 hP hnx hlen hwh hmore
        go_wp2_with (go_at_call 19; fail)
        refine HRT5.out.mono ?_
        rintro e w3 ⟨k3, c3, rfl, ho3, hB3⟩
        have hB3' : Below wr.heap.size wr (w3.alloc (.cells #[.int .i64 5, .int .i64 k, .slice k3 0 c3] 43)) := hB3.alloc hB3.size _
        have hg3 : (w3.alloc (.cells #[.int .i64 5, .int .i64 k, .slice k3 0 c3] 43)).heap[w3.heap.size]? = some (.cells #[.int .i64 5, .int .i64 k, .slice k3 0 c3] 43) := heap_alloc_new _ _
        have hgh : (w3.alloc (.cells #[.int .i64 5, .int .i64 k, .slice k3 0 c3] 43)).heap[w1.heap.size]? = some (.cells #[.int .i64 4, .int .i64 k, .slice k1 0 c1] 43) := by
          rw [hB3'.block _ (by have := HSW.out; omega)]; exact HGR.out
        have z0 : (w3.alloc (.cells #[.int .i64 5, .int .i64 k, .slice k3 0 c3] 43)).cell? ⟨w1.heap.size, 0, none⟩ = some (.int .i64 4) := by simp only [World.cell?, hgh]; rfl
        have z1 : (w3.alloc (.cells #[.int .i64 5, .int .i64 k, .slice k3 0 c3] 43)).cell? ⟨w1.heap.size, 1, none⟩ = some (.int .i64 k) := by simp only [World.cell?, hgh]; rfl
        have z2 : (w3.alloc (.cells #[.int .i64 5, .int .i64 k, .slice k3 0 c3] 43)).cell? ⟨w1.heap.size, 2, none⟩ = some (.slice k1 0 c1) := by simp only [World.cell?, hgh]; rfl
        have HB3 := Lib.hid hB3'; have HG3 := Lib.hid hg3
        clear ho3 hB3 hB3' hg3 hgh
        go_wp2_with (go_at_call 26; fail)
        refine (bounds26 4 k k1 c1 _).mono ?_
        rintro e w4 ⟨rfl, hB4⟩
        have hg4 : w4.heap[w3.heap.size]? = some (.cells #[.int .i64 5, .int .i64 k, .slice k3 0 c3] 43) := by
          rw [hB4.block _ (by rw [World.size_alloc]; omega)]; exact HG3.out
        have y0 : w4.cell? ⟨w3.heap.size, 0, none⟩ = some (.int .i64 5) := by simp only [World.cell?, hg4]; rfl
        have y1 : w4.cell? ⟨w3.heap.size, 1, none⟩ = some (.int .i64 k) := by simp only [World.cell?, hg4]; rfl
        have y2 : w4.cell? ⟨w3.heap.size, 2, none⟩ = some (.slice k3 0 c3) := by simp only [World.cell?, hg4]; rfl
        have HB4 := Lib.hid (HB3.out.trans (hB4.mono HB3.out.size))
        clear hB4 hg4 z0 z1 z2
        go_wp2_with (go_at_call 26; fail)
        refine (bounds26 5 k k3 c3 _).mono ?_
        rintro e w5 ⟨rfl, hB5⟩
        have HB5 := Lib.hid (HB4.out.trans (hB5.mono HB4.out.size))
        clear hB5 y0 y1 y2
        cases wh with
        | true =>
          go_wp2
          go_ret3
          exact HFIN.out _ _ HB5.out rfl
        | false =>
          go_wp2
          go_ret3
          exact HFIN.out _ _ HB5.out rfl

end Go.Proofs.YtifbbikhjolnjaaDoor
