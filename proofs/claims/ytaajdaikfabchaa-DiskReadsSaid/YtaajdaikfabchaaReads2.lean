/-
  DiskReads: the walk.
-/
import Derived.Test.YtaajdaikfabchaaReads
namespace Go.Proofs.Ytaajdaikfabchaa
open Go.RowKit
set_option linter.unusedVariables false

theorem get_plain {D : DS} {n : Nat} {j : Nat} (hj : j < n) (ht : (D.ns.getD j Sec.none).t = false) : D.get false n (j : Int) = (0, full (D.ns.getD j Sec.none).d.z) := by
  unfold DS.get
  rw [if_neg (by decide), if_pos ⟨by omega, by omega⟩, Int.toNat_natCast, ht]; rfl

set_option maxRecDepth 100000 in
set_option maxHeartbeats 8000000 in
theorem reads_walk (ao : Option Addr) (n0 c0 : Nat) (zs : List Int) (bo : Option Addr) (n1 c1 : Nat) (ps : List Part) (ko : Option Addr) (n2 c2 : Nat) (bs : List Bool) (w : World)
    (hz : zs.length = n0) (hni : Ni w ao zs) (hp : ps.length = n1) (hps : Ps w bo ps) (hb : bs.length = n2) (hbl : Bl w ko bs) :
    Calls Try.prog 6 #[.slice ao n0 c0, .slice bo n1 c1, .slice ko n2 c2] w fun e w' => e = .returned (.bool true) ∧ Below w.heap.size w w' := by
  by_cases h0 : 40 < n0
  · have d1 : decide ((40 : Int) < (n0 : Int)) = true := decide_eq_true (by omega)
    have d1' : decide (40 < n0) = true := decide_eq_true h0
    clear hni hps hbl
    go_enter Try.func6, Try.ntmps6
    go_wp2
    go_ret
    exact ⟨rfl, Below.refl _ _⟩
  have d0 : decide ((40 : Int) < (n0 : Int)) = false := decide_eq_false (by omega)
  have d0' : decide (40 < n0) = false := decide_eq_false h0
  by_cases h1 : 40 < n1
  · have d1 : decide ((40 : Int) < (n1 : Int)) = true := decide_eq_true (by omega)
    have d1' : decide (40 < n1) = true := decide_eq_true h1
    clear hni hps hbl
    go_enter Try.func6, Try.ntmps6
    go_wp2
    go_ret
    exact ⟨rfl, Below.refl _ _⟩
  have d1 : decide ((40 : Int) < (n1 : Int)) = false := decide_eq_false (by omega)
  have d1' : decide (40 < n1) = false := decide_eq_false h1
  by_cases h2 : 100 < n2
  · have d2 : decide ((100 : Int) < (n2 : Int)) = true := decide_eq_true (by omega)
    have d2' : decide (100 < n2) = true := decide_eq_true h2
    clear hni hps hbl
    go_enter Try.func6, Try.ntmps6
    go_wp2
    go_ret
    exact ⟨rfl, Below.refl _ _⟩
  have d2 : decide ((100 : Int) < (n2 : Int)) = false := decide_eq_false (by omega)
  have d2' : decide (100 < n2) = false := decide_eq_false h2
  have HN := Lib.hid (pnew w)
  have HF := Lib.hid (fun V => fill_any 0 V (by omega) (by omega))
  obtain ⟨R, hR⟩ : ∃ R, R = List.replicate 256 (0 : Int) := ⟨_, rfl⟩
  rw [← hR] at HF
  have hRb : Bts R := by rw [hR]; exact bts_rep _ _ (by omega) (by omega)
  have HRB := Lib.hid hRb
  have HRF : Hid (R = full []) := hR.trans full_nil.symm
  have HZ := Lib.hid hz; have HNI := Lib.hid hni; have HPL := Lib.hid hp; have HPS := Lib.hid hps; have HBLN := Lib.hid hb; have HBL := Lib.hid hbl
  clear hR hRb hz hni hp hps hb hbl
  go_enter Try.func6, Try.ntmps6
  go_wp2_with (go_at_call 8; fail)
  refine HN.out.mono ?_
  rintro e w1 ⟨rfl, hp1, hB1⟩
  have hd := dnew_any w1 w.heap.size w1.heap.size w.heap.size 6 PP.new hp1 (Nat.le_refl _) (by omega) (by omega)
  rw [show ((6 : Nat) : Int) = 6 from rfl] at hd
  have HD := Lib.hid hd; have HB1 := Lib.hid hB1
  clear hd hp1 hB1 HN
  go_wp2_with (go_at_call 10; fail)
  refine HD.out.mono ?_
  rintro e w2 ⟨g, rfl, hg, hs2, hB2⟩
  have HS2 := Lib.hid hs2.refl; have HB2 := Lib.hid (HB1.out.trans (hB2.mono HB1.out.size))
  have hmk := make_rows 6 (by omega)
  rw [show ((6 : Nat) : Int) = 6 from rfl] at hmk
  obtain ⟨N0, hN0⟩ : ∃ N0, N0 = List.replicate 6 Part.none := ⟨_, rfl⟩
  rw [← hN0] at hmk
  have hnl0 : N0.length = 6 := by rw [hN0]; rfl
  have HNL0 := Lib.hid hnl0
  clear hs2 hB2 HD HB1 hg hN0 hnl0
  go_wp2
  obtain ⟨gr, hgr⟩ : ∃ gr, gr = w2.heap.size := ⟨_, rfl⟩
  obtain ⟨W, hW⟩ : ∃ W, W = w2.alloc (.cells (N0.map pv).toArray 36) := ⟨_, rfl⟩
  rw [← hW, ← hgr]
  have hB3 : Below w2.heap.size w2 W := by rw [hW]; exact (Below.refl _ _).alloc (Nat.le_refl _) _
  have hr0 : Blk W gr 36 (N0.map pv) := by rw [hW, hgr]; exact Blk.new _ _ _
  have HS3 := Lib.hid ((HS2.out.below hB3).refl)
  have HB3 := Lib.hid (HB2.out.trans (hB3.mono HB2.out.size))
  have HR0 := Lib.hid hr0
  have HGE : Hid (w.heap.size ≤ gr) := by show _ ≤ _; rw [hgr]; exact HB2.out.size
  clear hmk hW hgr hB3 hr0 HS2 HB2
  go_loopw [11] (fun i wr => ∃ (k : Nat) (N : List Part), k ≤ 6 ∧ i = .int .i64 k ∧ N.length = 6 ∧ Blk wr gr 36 (N.map pv) ∧ Sys wr wr w.heap.size w1.heap.size g w.heap.size 6 (DS.new 0 6) PP.new ∧ (∀ j, (h : j < N.length) → j < k → Own1 wr N[j] ∧ N[j].l = 256 ∧ N[j].z = R) ∧ Below w.heap.size w wr) (fun i _ => 6 - (intOf i).toNat)
  case atStart => exact ⟨0, N0, Nat.zero_le _, rfl, HNL0.out, HR0.out, HS3.out, fun j _ hj => absurd hj (Nat.not_lt_zero _), HB3.out⟩
  case round =>
    obtain ⟨k, N, hk, rfl, hnl, hrow, hsy, hown, hB⟩ := hrel
    by_cases hlt : k < 6
    · have e1 : decide ((k : Int) < 6) = true := decide_eq_true (by omega)
      have i1 : (0 : Int) ≤ (k : Int) := by omega
      have i2 : (k : Int) < 6 := by omega
      have HNL := Lib.hid hnl; have HROW := Lib.hid hrow; have HSY := Lib.hid hsy; have HOWN := Lib.hid hown; have HB := Lib.hid hB
      clear hnl hrow hsy hown hB HR0 HS3 HB3
      go_wp2_with (go_at_call 32; fail)
      refine (HF.out wr).mono ?_
      rintro e w4 ⟨ko4, kc4, rfl, ho4, hB4⟩
      have hrow4 := HROW.out.below hB4
      have hcell := hrow4.cell (j := k) (by rw [List.length_map, HNL.out]; exact hlt)
      have hfree : w4.frozen? ⟨gr, k, none⟩ = false := hrow4.free
      have hset := hrow4.set (j := k) (pv ⟨ko4, 256, kc4, R⟩)
      rw [← List.map_set] at hset
      have hk4 : KT (fun t => t == 36) none w4 (w4.setCell ⟨gr, k, none⟩ (pv ⟨ko4, 256, kc4, R⟩)) := KT.set hrow4 rfl _ _
      have hs4 := HSY.out.below hB4
      have hs5 : Sys (w4.setCell ⟨gr, k, none⟩ (pv ⟨ko4, 256, kc4, R⟩)) (w4.setCell ⟨gr, k, none⟩ (pv ⟨ko4, 256, kc4, R⟩)) w.heap.size w1.heap.size g w.heap.size 6 (DS.new 0 6) PP.new := by
        obtain ⟨gn, gs, oo, q, oc, hs4⟩ := hs4
        exact ⟨gn, gs, oo, q, oc, hs4.d.kt hk4 rfl rfl rfl rfl (fun _ _ _ _ => nofun), hs4.p.kt hk4 rfl rfl (fun _ => nofun), Below.refl _ _, KT.refl _ _ _⟩
      have hown5 : ∀ j, (h : j < (N.set k ⟨ko4, 256, kc4, R⟩).length) → j < k + 1 → Own1 (w4.setCell ⟨gr, k, none⟩ (pv ⟨ko4, 256, kc4, R⟩)) (N.set k ⟨ko4, 256, kc4, R⟩)[j] ∧ (N.set k ⟨ko4, 256, kc4, R⟩)[j].l = 256 ∧ (N.set k ⟨ko4, 256, kc4, R⟩)[j].z = R := fun j hj hjk => by
        by_cases e : k = j
        · subst e
          rw [List.getElem_set_self]
          exact ⟨(Own1.of_ow ho4 HRB.out).kt hk4 rfl (fun _ _ => nofun), rfl, rfl⟩
        · rw [List.length_set] at hj
          rw [List.getElem_set_ne e]
          obtain ⟨o1, o2, o3⟩ := HOWN.out j hj (by omega)
          exact ⟨((o1.below hB4)).kt hk4 rfl (fun _ _ => nofun), o2, o3⟩
      have HSET := Lib.hid hset; have HS5 := Lib.hid hs5; have HOWN5 := Lib.hid hown5
      have hb5 : Below w.heap.size w (w4.setCell ⟨gr, k, none⟩ (pv ⟨ko4, 256, kc4, R⟩)) := (HB.out.trans (hB4.mono HB.out.size)).setCell HGE.out _
      have HB5 := Lib.hid hb5
      clear hrow4 hset hk4 hs4 hs5 hown5 ho4 hB4 hb5
      go_wp2
      go_roundw
      case rel => exact ⟨k + 1, _, by omega, by go_num, by rw [List.length_set]; exact HNL.out, HSET.out, HS5.out, HOWN5.out, HB5.out⟩
      case measure => simp [intOf]; omega
    · have e1 : decide ((k : Int) < 6) = false := decide_eq_false (by omega)
      obtain rfl : k = 6 := by omega
      have hri : RI w wr w1.heap.size g w.heap.size gr (DS.new 0 6) N := ⟨hsy, rfl, hrow, hnl, rfl, fun p hp => by
          obtain ⟨j, hj, rfl⟩ := List.getElem_of_mem hp
          exact ⟨(hown j hj (by omega)).1, (hown j hj (by omega)).2.1⟩, fun j hj => by
          rw [(hown j hj (by omega)).2.2, HRF.out]
          have : (DS.new 0 6).ns.getD j Sec.none = Sec.none := by
            show (List.replicate 6 Sec.none).getD j Sec.none = _
            rw [List.getD, List.getElem?_replicate]; split <;> rfl
          rw [this]; exact ⟨rfl, rfl⟩, hB, HGE.out⟩
      have HRI := Lib.hid hri
      obtain ⟨wo, rfl⟩ : ∃ wo : World, wo = wr := ⟨_, rfl⟩
      clear hnl hrow hsy hown hB hri HR0 HS3 HB3
      rw [show ((6 : Nat) : Int) = 6 from rfl] at e1
      rw [show ((6 : Nat) : Int) = 6 from rfl]
      go_wp2
      go_loopw [12] (fun i wr => ∃ (q : Nat) (D : DS) (N : List Part), q ≤ n0 ∧ i = .int .i64 q ∧ RI w wr w1.heap.size g w.heap.size gr D N ∧ D.xs.length ≤ q) (fun i _ => n0 - (intOf i).toNat)
      case atStart => exact ⟨0, _, N, Nat.zero_le _, rfl, HRI.out, Nat.le_refl _⟩
      case round =>
        obtain ⟨q, D, N, hq, rfl, hri, hxq⟩ := hrel
        clear HRI
        by_cases hq0 : q < n0
        rotate_left
        · have e1 : decide ((q : Int) < (n0 : Int)) = false := decide_eq_false (by omega)
          have e1' : decide (q < n0) = false := decide_eq_false hq0
          have HLOW := Lib.hid hri.low
          have HWK := Lib.hid (wakes9 wr)
          clear hri
          go_wp2_with (go_at_call 11; refine HWK.out.mono ?_; rintro e w9 ⟨rfl, hB9⟩; have HB9 := Lib.hid hB9; clear hB9)
          go_ret
          exact ⟨rfl, HLOW.out.trans (HB9.out.mono HLOW.out.size)⟩
        have e1 : decide ((q : Int) < (n0 : Int)) = true := decide_eq_true (by omega)
        have e1' : decide (q < n0) = true := decide_eq_true hq0
        by_cases hq1 : q < n1
        rotate_left
        · have e2 : decide ((q : Int) < (n1 : Int)) = false := decide_eq_false (by omega)
          have e2' : decide (q < n1) = false := decide_eq_false hq1
          have HLOW := Lib.hid hri.low
          have HWK := Lib.hid (wakes9 wr)
          clear hri
          go_wp2_with (go_at_call 11; refine HWK.out.mono ?_; rintro e w9 ⟨rfl, hB9⟩; have HB9 := Lib.hid hB9; clear hB9)
          go_ret
          exact ⟨rfl, HLOW.out.trans (HB9.out.mono HLOW.out.size)⟩
        have e2 : decide ((q : Int) < (n1 : Int)) = true := decide_eq_true (by omega)
        have e2' : decide (q < n1) = true := decide_eq_true hq1
        have HRI := Lib.hid hri; have HXQ := Lib.hid hxq
        have hpsr := HPS.out.below hri.low
        obtain ⟨rb, ro, rfl, hrc, hok⟩ := hpsr.at (r := q) (by rw [HPL.out]; exact hq1)
        obtain ⟨p, hpp⟩ : ∃ p, p = ps[q]'(by rw [HPL.out]; exact hq1) := ⟨_, rfl⟩
        rw [← hpp] at hrc hok
        have i1 : (0 : Int) ≤ (q : Int) := by omega
        have i2 : (q : Int) < (n1 : Int) := by omega
        have i3 : (q : Int) < (n0 : Int) := by omega
        have HOK := Lib.hid hok
        clear hri hxq hpsr hok hpp
        by_cases h3 : 300 < p.l
        · have e3 : decide ((300 : Int) < (p.l : Int)) = true := decide_eq_true (by omega)
          have e3' : decide (300 < p.l) = true := decide_eq_true h3
          go_wp2
          go_ret
          exact ⟨rfl, HRI.out.low⟩
        have e3 : decide ((300 : Int) < (p.l : Int)) = false := decide_eq_false (by omega)
        have e3' : decide (300 < p.l) = false := decide_eq_false h3
        obtain ⟨zb, zo, rfl, hzc⟩ := (HNI.out.below HRI.out.low).at (j := q) (by rw [HZ.out]; exact hq0)
        obtain ⟨zq, hzq⟩ : ∃ zq, zq = zs.getD q 0 := ⟨_, rfl⟩
        rw [← hzq] at hzc
        obtain ⟨k, hk6, hkk⟩ := uwrap_at zq 6 (by omega) (by omega)
        have hk : k < 6 := by omega
        have hsec := sector_any 0 0 0 p.a p.l p.c (.slice none 0 0) 0 p.z wr HOK.out
        have HSEC := Lib.hid hsec; have HKK := Lib.hid hkk
        clear hzq hsec hkk hk6
        go_wp2_with (go_at_call 28; fail)
        try rw [HKK.out]
        refine HSEC.out.mono ?_
        rintro e wa ⟨kb, cb, rfl, hob, hBa⟩
        have hria := HRI.out.below hBa
        have hzb : Bts (secB p.z) := secB_bts HOK.out.bts
        have hobn : Own1 wa ⟨kb, 256, cb, secB p.z⟩ := Own1.of_ow hob hzb
        have hwk : D.wake PP.new = D := DS.wake_same hria.life.symm
        have hwr := write_any (k : Int) kb 256 cb (secB p.z) hria.sys (by have := HXQ.out; omega) (by rw [hwk]; have := HXQ.out; omega) hobn
        have hE : putE PP.new 6 k 256 = 0 := by unfold putE; rw [if_neg (by decide), if_pos ⟨by omega, by omega⟩]; rfl
        have hPB : putsB PP.new 6 k 256 = true := by unfold putsB; rw [decide_eq_true (⟨by omega, by omega⟩ : (0 : Int) ≤ (k : Int) ∧ (k : Int) < ((6 : Nat) : Int))]; rfl
        rw [hE, hwk] at hwr
        have hW2 : Calls Try.prog 30 #[.pointer (some ⟨g, 0, none⟩), .int .i64 k, .slice kb 256 cb] wa fun e w' => e = .returned (.int .i64 0) ∧ ∃ d, d.z = secB p.z ∧ (∀ b, d.a = some ⟨b, 0, none⟩ → wa.heap.size ≤ b) ∧ Sys wa w' w.heap.size w1.heap.size g w.heap.size 6 (D.put k d) PP.new := by
          refine hwr.mono ?_
          rintro e w' ⟨h1, h2⟩
          refine ⟨h1, ?_⟩
          rcases h2 with ⟨h, _⟩ | ⟨_, d, h3, h4, h5⟩
          · rw [hPB] at h; cases h
          · exact ⟨d, h3, h4, h5⟩
        have HW2 := Lib.hid hW2; have HRA := Lib.hid hria; have HOB := Lib.hid hob; have HZB := Lib.hid hzb
        have HBA := Lib.hid hBa.size
        have HKB : Hid (∀ b, kb = some ⟨b, 0, none⟩ → b < wa.heap.size) := fun b e' => hob.lt e'
        obtain ⟨zz, hzz⟩ : ∃ zz, zz = secB p.z := ⟨_, rfl⟩
        rw [← hzz] at HW2 HOB HZB
        have hzl : zz.length = 256 := by rw [hzz]; exact secB_len _
        have HZL := Lib.hid hzl
        clear hria hob hzb hobn hwk hwr hE hPB hW2 hBa hzz hzl HSEC hrc hzc
        go_wp2_with (go_at_call 30; fail)
        refine HW2.out.mono ?_
        rintro e wb ⟨rfl, d, hdz, hda, hsb⟩
        have hobb : Ow wb wr.heap.size kb 256 cb zz := by
          have h1 := (Own1.of_ow HOB.out HZB.out).kt hsb.kt rfl (fun _ _ => nofun)
          refine ⟨HOB.out.1, HOB.out.2.1, HOB.out.2.2.1, ?_⟩
          refine own_heap HOB.out.2.2.2 fun g' cur hg' => ?_
          rw [hsb.kt.keep _ _ _ _ nofun rfl hg', hg']
        have htw := twin_any kb 256 cb zz wb HZL.out (by omega) hobb.rd hobb.nil
        have HTW := Lib.hid htw; have HSB := Lib.hid hsb; have HDZ := Lib.hid hdz; have HDA := Lib.hid hda; have HOBB := Lib.hid hobb
        clear hdz hda hsb hobb htw HW2 HOB
        go_wp2_with (go_at_call 29; fail)
        refine HTW.out.mono ?_
        rintro e wc ⟨kt, ct, rfl, hot, hBc⟩
        have hri2 := HRA.out.write hk HSB.out hBc (Own1.of_ow hot HZB.out) rfl (HDZ.out).symm
        have hrowc : Blk wc gr 36 (N.map pv) := Blk.below (HSB.out.kt.keep _ _ _ _ nofun rfl HRA.out.rows) hBc
        have hcell := hrowc.cell (j := k) (by rw [List.length_map, HRA.out.nl]; exact hk)
        have hfree : wc.frozen? ⟨gr, k, none⟩ = false := hrowc.free
        have i4 : (0 : Int) ≤ (k : Int) := by omega
        have i5 : (k : Int) < 6 := by omega
        -- the row that is written over
        obtain ⟨gb, hgb, hgb2⟩ := HOBB.out.at (by omega)
        have hgt := hot.at (by omega)
        obtain ⟨gt, hgt, hgt2⟩ := hgt
        have hobc : Ow (wc.setCell ⟨gr, k, none⟩ (pv ⟨kt, 256, ct, zz⟩)) wr.heap.size kb 256 cb zz :=
          (HOBB.out.below hBc).heap fun g' e' => set_far _ _ _ _ _ (by
            rcases (HOBB.out.below hBc).2.2.2.2 with ⟨q, _⟩ | ⟨g2, cap, cur, q, _, hh, _⟩
            · simp only [Value.slice.injEq] at q; rw [q.1] at e'; cases e'
            · simp only [Value.slice.injEq] at q
              rw [q.1] at e'
              cases e'
              exact tag_ne hh hrowc (by decide))
        have hsbsz : wa.heap.size ≤ wb.heap.size := HSB.out.kt.size
        have haw : (D.put k d).away kb := by
          have h1 : D.away kb := HRI.out.sys.fresh fun k' e' => by
            rw [hgb] at e'; cases e'; exact hgb2
          refine DS.All.put h1 k d ?_
          by_cases hdn : d.a = none
          · exact .inl hdn
          · refine .inr fun e' => ?_
            rw [hgb] at e'
            have := HDA.out gb e'
            have hlt := HKB.out gb hgb
            omega
        have hN2 : ∀ p' ∈ N.set k ⟨kt, 256, ct, zz⟩, p'.a = none ∨ p'.a ≠ kb := fun p' hp' => by
          rcases List.mem_or_eq_of_mem_set hp' with h | rfl
          · exact HRI.out.fresh (fun k' e' => by rw [hgb] at e'; cases e'; exact hgb2) p' h
          · refine .inr fun e' => ?_
            rw [hgb, hgt] at e'
            cases e'
            have hlt := HKB.out gb hgb
            omega
        have hspo := spoil_ow hobc (by omega)
        have hri3 := fun wd (h : Spo kb (wc.setCell ⟨gr, k, none⟩ (pv ⟨kt, 256, ct, zz⟩)) wd) => hri2.spo hobc h haw (HRI.out.low.size) hN2
        obtain ⟨W3, hW3⟩ : ∃ W3, W3 = wc.setCell ⟨gr, k, none⟩ (.slice kt 256 ct) := ⟨_, rfl⟩
        obtain ⟨D3, hD3⟩ : ∃ D3, D3 = D.put k d := ⟨_, rfl⟩
        obtain ⟨N3, hN3⟩ : ∃ N3, N3 = N.set k ⟨kt, 256, ct, zz⟩ := ⟨_, rfl⟩
        have hx3 : D3.xs.length ≤ q + 1 := by rw [hD3]; show (D.xs ++ _).length ≤ _; have := HXQ.out; simp; omega
        rw [show pv ⟨kt, 256, ct, zz⟩ = .slice kt 256 ct from rfl, ← hW3] at hspo
        rw [show pv ⟨kt, 256, ct, zz⟩ = .slice kt 256 ct from rfl, ← hW3, ← hD3, ← hN3] at hri3
        have HSPO := Lib.hid hspo; have HRI3 := Lib.hid hri3; have HX3 := Lib.hid hx3; have HW3 := Lib.hid hW3
        clear hri2 hrowc hgb hgb2 hgt hgt2 hobc hsbsz haw hN2 hspo hri3 hW3 hD3 hN3 hx3 hot hBc HTW HSB HDZ HDA HOBB HRI HRA
        go_wp2_with (go_at_call 17; fail)
        rw [← HW3.out]
        refine HSPO.out.mono ?_
        rintro e wd ⟨rfl, hsd⟩
        have hri4 := HRI3.out wd hsd
        have HRI4 := Lib.hid hri4
        clear hcell hfree hsd hri4 HSPO HRI3 HW3
        have hsy : n2 ≤ q ∨ (q < n2 ∧ bs.getD q false = false) ∨ (q < n2 ∧ bs.getD q false = true) := by
          by_cases h : q < n2
          · cases hb : bs.getD q false
            · exact .inr (.inl ⟨h, rfl⟩)
            · exact .inr (.inr ⟨h, rfl⟩)
          · exact .inl (by omega)
        rcases hsy with hs3 | ⟨hs3, hb3⟩ | ⟨hs3, hb3⟩
        case' inl =>
          have e4 : decide ((q : Int) < (n2 : Int)) = false := decide_eq_false (by omega)
          have e4' : decide (q < n2) = false := decide_eq_false (by omega)
          obtain ⟨we, rfl⟩ : ∃ we : World, we = wd := ⟨_, rfl⟩
          obtain ⟨D2, rfl⟩ : ∃ D2 : DS, D2 = D3 := ⟨_, rfl⟩
          have HRI5 := Lib.hid HRI4.out
          go_wp2
        case' inr.inl =>
          have e4 : decide ((q : Int) < (n2 : Int)) = true := decide_eq_true (by omega)
          have e4' : decide (q < n2) = true := decide_eq_true (by omega)
          have i7 : (q : Int) < (n2 : Int) := by omega
          obtain ⟨bb, bo', rfl, hbc⟩ := (HBL.out.below HRI4.out.low).at (by rw [HBLN.out]; omega)
          have hbq := hbc q (by rw [HBLN.out]; exact hs3)
          rw [hb3] at hbq
          obtain ⟨we, rfl⟩ : ∃ we : World, we = wd := ⟨_, rfl⟩
          obtain ⟨D2, rfl⟩ : ∃ D2 : DS, D2 = D3 := ⟨_, rfl⟩
          have HRI5 := Lib.hid HRI4.out
          clear hbc hb3
          go_wp2
        case' inr.inr =>
          have e4 : decide ((q : Int) < (n2 : Int)) = true := decide_eq_true (by omega)
          have e4' : decide (q < n2) = true := decide_eq_true (by omega)
          have i7 : (q : Int) < (n2 : Int) := by omega
          obtain ⟨bb, bo', rfl, hbc⟩ := (HBL.out.below HRI4.out.low).at (by rw [HBLN.out]; omega)
          have hbq := hbc q (by rw [HBLN.out]; exact hs3)
          rw [hb3] at hbq
          have hwk : D3.wake PP.new = D3 := DS.wake_same HRI4.out.life.symm
          have hsyn := sync_any HRI4.out.sys (by have := HX3.out; omega) (by rw [hwk]; have := HX3.out; omega)
          have hdd : D3.syn PP.new = D3.sync := by show (D3.wake PP.new).sync = _; rw [hwk]
          rw [hdd, show syncE PP.new = 0 from rfl, show PP.new.syn = PP.new from rfl] at hsyn
          have HSYN := Lib.hid hsyn
          clear hbc hb3 hwk hsyn hdd
          go_wp2_with (go_at_call 18; fail)
          refine HSYN.out.mono ?_
          rintro e we ⟨rfl, hse⟩
          obtain ⟨D2, hD2⟩ : ∃ D2, D2 = D3.sync := ⟨_, rfl⟩
          have hri5 := HRI4.out.turn hse (by exact HRI4.out.life) (by rfl)
          have hx5 : D2.xs.length ≤ q + 1 := by rw [hD2]; exact Nat.zero_le _
          rw [← hD2] at hri5
          have HRI5 := Lib.hid hri5
          clear HX3
          have HX3 := Lib.hid hx5
          clear hse hD2 hri5 hx5 HSYN
          go_wp2
        all_goals
          clear HRI4
          go_loopw [15] (fun i wr => ∃ j : Nat, j ≤ 6 ∧ i = .int .i64 j ∧ RI w wr w1.heap.size g w.heap.size gr D2 N3) (fun i _ => 6 - (intOf i).toNat)
          case atStart => exact ⟨0, Nat.zero_le _, rfl, HRI5.out⟩
          case round =>
            obtain ⟨j, hj, rfl, hri⟩ := hrel
            clear HRI5
            by_cases hj6 : j < 6
            · have e5 : decide ((j : Int) < 6) = true := decide_eq_true (by omega)
              have i8 : (0 : Int) ≤ (j : Int) := by omega
              have i9 : (j : Int) < 6 := by omega
              have hjN : j < N3.length := by rw [hri.nl]; exact hj6
              obtain ⟨heq, htf⟩ := hri.eq j hjN
              have hrd := read_any (j : Int) hri.sys (by have := HX3.out; omega)
              rw [DS.wake_same hri.life.symm, show PP.new.off = false from rfl, get_plain hj6 htf, ← heq] at hrd
              obtain ⟨pn, hpn⟩ : ∃ pn, pn = N3[j] := ⟨_, rfl⟩
              rw [← hpn] at hrd
              have hpo := hri.own pn (by rw [hpn]; exact List.getElem_mem hjN)
              have hrowj : ∀ V, Sys wr V w.heap.size w1.heap.size g w.heap.size 6 D2 PP.new → V.cell? ⟨gr, j, none⟩ = some (pv pn) := fun V hV => by
                have h1 : Blk V gr 36 (N3.map pv) := hV.kt.keep _ _ _ _ nofun rfl hri.rows
                have := h1.cell (j := j) (by rw [List.length_map]; exact hjN)
                rw [this]; simp [List.getD, hjN, hpn]
              have HRD := Lib.hid hrd; have HR6 := Lib.hid hri; have HPO := Lib.hid hpo; have HROWJ := Lib.hid hrowj
              clear hri heq htf hrd hpn hpo hrowj hjN
              go_wp2_with (go_at_call 14; fail)
              refine HRD.out.mono ?_
              rintro e wf ⟨⟨kx, lx, cx, rfl, hox⟩, hsf⟩
              have hcj := HROWJ.out wf hsf
              unfold pv at hcj
              have hri7 := HR6.out.turn hsf HR6.out.life rfl
              have hpf : Own1 wf pn := HPO.out.1.kt hsf.kt rfl (fun _ _ => nofun)
              simp only at hox
              have hlx : lx = 256 := by rw [← hox.1, hpf.1.len, HPO.out.2]
              subst hlx
              have hcmp := bytes_cmp kx pn.a 256 pn.l cx pn.c pn.z pn.z wf hox.1 hpf.1.len (by unfold maxLen; omega) hox.rd hpf.1.rd
              rw [decide_eq_true rfl] at hcmp
              have hsx : wr.heap.size ≤ wf.heap.size := hsf.kt.size
              have hfr : ∀ k', kx = some ⟨k', 0, none⟩ → wr.heap.size ≤ k' := fun k' e' => by
                obtain ⟨gx, hgx, hgx2⟩ := hox.at (by omega)
                rw [hgx] at e'; cases e'; exact hgx2
              have HCMP := Lib.hid hcmp; have HRI7 := Lib.hid hri7; have HOX := Lib.hid hox; have HFR := Lib.hid hfr
              clear hsf hri7 hpf hox hcmp hsx hfr HRD HROWJ HPO
              go_wp2_with (go_at_call 16; fail)
              refine HCMP.out.mono ?_
              rintro e wg ⟨rfl, qn, hqn⟩
              have hBg : Below wf.heap.size wf wg := by rw [hqn]; exact below_drewN (Below.refl _ _) qn
              have hri8 := HRI7.out.below hBg
              have hog := HOX.out.below hBg
              have hsp := spoil_ow hog (by omega)
              have haw : D2.away kx := HR6.out.sys.fresh HFR.out
              have hN8 := HR6.out.fresh HFR.out
              have hri9 := fun wh (h : Spo kx wg wh) => hri8.spo hog h haw HR6.out.low.size hN8
              have HSP := Lib.hid hsp; have HRI9 := Lib.hid hri9
              clear hqn hBg hri8 hog hsp haw hN8 hri9 HRI7 HOX HCMP
              go_wp2_with (go_at_call 17; fail)
              refine HSP.out.mono ?_
              rintro e wh ⟨rfl, hsh⟩
              have hri10 := HRI9.out wh hsh
              have HRI10 := Lib.hid hri10
              clear hsh hri10 HRI9 HSP HR6
              go_wp2
              go_roundw
              case rel => exact ⟨j + 1, by omega, by go_num, HRI10.out⟩
              case measure => simp [intOf]; omega
            · have e5 : decide ((j : Int) < 6) = false := decide_eq_false (by omega)
              have HRI8 := Lib.hid hri
              have hq41 : (q : Int) < 41 := by omega
              clear hri hj hj6 hs3 hk hq1 h3 h1 h2
              go_wp2
              go_roundw
              case rel => exact ⟨q + 1, D2, N3, by omega, by go_num, HRI8.out, HX3.out⟩
              case measure => simp [intOf]; omega

end Go.Proofs.Ytaajdaikfabchaa
