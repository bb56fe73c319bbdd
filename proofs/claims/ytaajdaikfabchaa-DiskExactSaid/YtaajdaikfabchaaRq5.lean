/-
  The document's disk: Sync, Erase.
-/
import Derived.Test.YtaajdaikfabchaaRq3
import Derived.Deep.RegionHeld3
namespace Go.Proofs.Ytaajdaikfabchaa
open Go.RowKit
set_option linter.unusedVariables false

def RS.sync (R : RS) : RS := ⟨R.life, laidR R.xs R.ss R.xs.length, []⟩
def RS.syn (R : RS) (P : PP) : RS := if P.off then R.wake P else if P.spent then (R.wake P).sync else R.wake P

set_option maxHeartbeats 4000000 in
theorem rsync {w0 w : World} {B Bp g gp gt : Nat} {X : Option Addr} {n : Nat} {R : RS} {P : PP} (h : Rys w0 w B Bp g gp gt X n R P) (hx6 : R.xs.length ≤ 1000000) (hy6 : (R.wake P).xs.length ≤ 1000000) :
    Calls Try.prog 19 #[.pointer (some ⟨g, 0, none⟩)] w fun e w' => e = .returned (.int .i64 (syncE P)) ∧ Rys w0 w' B Bp g gp gt X n (R.syn P) P.syn := by
  have HW := Lib.hid (rwake h hx6)
  have HE : Hid (syncE P = if P.off then 5 else if P.spent then 0 else 5) := rfl
  have HD : Hid (R.syn P = if P.off then R.wake P else if P.spent then (R.wake P).sync else R.wake P) := rfl
  have HP : Hid (P.syn = if P.off then P else P.spend) := rfl
  obtain ⟨E, hE⟩ : ∃ E, E = syncE P := ⟨_, rfl⟩
  obtain ⟨D2, hD2⟩ : ∃ D2, D2 = R.syn P := ⟨_, rfl⟩
  obtain ⟨P2, hP2⟩ : ∃ P2, P2 = P.syn := ⟨_, rfl⟩
  obtain ⟨D1, hD1⟩ : ∃ D1, D1 = R.wake P := ⟨_, rfl⟩
  rw [← hE] at HE ⊢
  rw [← hD2] at HD ⊢
  rw [← hP2] at HP ⊢
  rw [← hD1] at HD HW hy6
  clear h hE hD2 hP2 hD1 hx6
  go_enter Try.func19, Try.ntmps19
  go_wp2_with (go_at_call 36; fail)
  refine HW.out.mono ?_
  rintro e w1 ⟨rfl, hs0⟩
  have HS0 := Lib.hid hs0
  obtain ⟨gs, sc, rest, lo, k, lc, hs⟩ := hs0
  obtain ⟨c0, c1, c2, c3, c4, fg, fs, ft⟩ := hs.c
  obtain ⟨q0, q1, q6⟩ := hs.pw.c
  obtain ⟨off, hof⟩ : ∃ off, off = P.off := ⟨_, rfl⟩
  rw [← hof] at q0 HE HD HP
  have HS := Lib.hid hs
  clear hof hs HW
  cases off with
  | true =>
    obtain rfl : E = 5 := HE.out
    obtain rfl : D2 = D1 := HD.out
    obtain rfl : P2 = P := HP.out
    clear HE HD HP
    go_wp2
    go_ret
    exact ⟨rfl, HS0.out⟩
  | false =>
    have HSP := Lib.hid (qspend w1 Bp gp P HS.out.pw HS.out.gtB.2)
    have HX := Lib.hid HS.out.lx
    obtain ⟨hn1, hn6⟩ := HS.out.hn
    obtain ⟨sp, hsp⟩ : ∃ sp, sp = P.spent := ⟨_, rfl⟩
    rw [← hsp] at HE HD HSP
    clear hsp
    go_wp2_with (go_at_call 38; fail)
    refine HSP.out.mono ?_
    rintro e w2 ⟨rfl, hp2, hB2, ho2⟩
    have HS2 := Lib.hid (HS.out.turn hp2 hB2 ho2)
    obtain rfl : P2 = P.spend := HP.out
    clear c0 c1 c2 c3 c4 fg fs ft q0 q1 q6 hp2 hB2 ho2 HS HSP HP
    cases sp with
    | false =>
      obtain rfl : E = 5 := HE.out
      obtain rfl : D2 = D1 := HD.out
      clear HE HD
      go_wp2
      go_ret
      exact ⟨rfl, _, _, _, _, _, _, HS2.out⟩
    | true =>
      obtain rfl : E = 0 := HE.out
      have HDD : Hid (D2 = D1.sync) := HD.out
      clear HE HD HS0
      obtain ⟨life, ss, xs⟩ := D1
      simp only at HS2 hy6 HX
      have hk6 : k ≤ 1000000 := by rw [← HX.out]; exact hy6
      go_wp2
      obtain ⟨wo, rfl⟩ : ∃ wo : World, wo = w2 := ⟨_, rfl⟩
      go_loopw [3] (fun i wr => ∃ q : Nat, q ≤ k ∧ i = .int .i64 q ∧ Ry w0 wr B Bp g gp gt gs X life n sc rest lo k lc (laidR xs ss q) xs P.spend) (fun i _ => k - (intOf i).toNat)
      case atStart => exact ⟨0, Nat.zero_le _, rfl, HS2.out⟩
      case round =>
        obtain ⟨q, hq, rfl, hS⟩ := hrel
        obtain ⟨c0, c1, c2, c3, c4, fg, fs, ft⟩ := hS.c
        by_cases hlt : q < k
        · have d1 : decide ((q : Int) < (k : Int)) = true := decide_eq_true (by omega)
          have hlt' : q < xs.length := by rw [HX.out]; exact hlt
          obtain ⟨gx, rfl, x0, x1⟩ := hS.wr hlt'
          obtain ⟨x, hx⟩ : ∃ x, x = xs[q] := ⟨_, rfl⟩
          rw [← hx] at x0 x1
          obtain ⟨hdat, hxi⟩ := hS.dx x (by rw [hx]; exact List.getElem_mem _)
          have hsu := laidR_succ (ss := ss) hlt'
          rw [← hx] at hsu
          obtain ⟨M, hMM⟩ : ∃ M, M = laidR xs ss q := ⟨_, rfl⟩
          rw [← hMM] at hsu hS
          have hxm : x.i < M.length := by rw [hS.ls]; exact hxi
          obtain ⟨u0, u1⟩ := hS.sec hxm
          generalize M[x.i] = s2 at u0 u1
          have hgx : ∃ cs fr, wr.heap[gx]? = some (.cells cs 75 fr) := by
            rcases hS.loose.2 with ⟨q, _⟩ | ⟨g', cap, cur, q1, _, q3, _⟩
            · cases q
            · cases q1; exact ⟨_, _, q3⟩
          obtain ⟨csx, frx, hgx⟩ := hgx
          have ng1 : gt ≠ gs := tag_ne hS.torn hS.safe (by decide)
          have ng2 : gs ≠ gt := ng1.symm
          have ng3 : gx ≠ gs := tag_ne hgx hS.safe (by decide)
          have ng4 : gx ≠ gt := tag_ne hgx hS.torn (by decide)
          have ng5 : g ≠ gs := tag_ne hS.blk hS.safe (by decide)
          have ng6 : g ≠ gt := tag_ne hS.blk hS.torn (by decide)
          have hns : n ≤ sc ∧ sc ≤ maxLen := hS.hsc
          have HS1 := Lib.hid hS; have HSU := Lib.hid hsu; have HDS := Lib.hid hdat
          have i1 : (0 : Int) ≤ (x.i : Int) := by omega
          have i2 : (x.i : Int) < (n : Int) := by omega
          have i3 : (0 : Int) ≤ (q : Int) := by omega
          have i4 : (q : Int) < (k : Int) := by omega
          have hfar1 : ∀ (b j : Nat) (u : Value), b ≠ gs → (wr.setCell ⟨gs, x.i, none⟩ u).cell? ⟨b, j, none⟩ = wr.cell? ⟨b, j, none⟩ := fun b j u hb => World.cell?_of_block (set_far _ _ _ _ _ hb)
          have hfar2 : ∀ (b j : Nat) (u v : Value), b ≠ gs → b ≠ gt → ((wr.setCell ⟨gs, x.i, none⟩ u).setCell ⟨gt, x.i, none⟩ v).cell? ⟨b, j, none⟩ = wr.cell? ⟨b, j, none⟩ := fun b j u v hb hb2 => (World.cell?_of_block (set_far _ _ _ _ _ hb2)).trans (hfar1 b j u hb)
          have K1 := Lib.hid (And.intro c2 (And.intro c3 (And.intro c4 (And.intro x0 x1))))
          have K2 : Hid (∀ u, (wr.setCell ⟨gs, x.i, none⟩ u).cell? ⟨g, 2, none⟩ = some (.slice (some ⟨gs, 0, none⟩) n sc) ∧ (wr.setCell ⟨gs, x.i, none⟩ u).cell? ⟨g, 3, none⟩ = some (.slice (some ⟨gt, 0, none⟩) n n) ∧ (wr.setCell ⟨gs, x.i, none⟩ u).cell? ⟨g, 4, none⟩ = some (.slice (some ⟨gx, 0, none⟩) k lc) ∧ (wr.setCell ⟨gs, x.i, none⟩ u).cell? ⟨gx, q * 2, none⟩ = some (.int .i64 x.i) ∧ (wr.setCell ⟨gs, x.i, none⟩ u).cell? ⟨gx, q * 2 + 1, none⟩ = some (.slice x.d.a x.d.l x.d.c)) := fun u =>
            ⟨(hfar1 _ _ _ ng5).trans c2, (hfar1 _ _ _ ng5).trans c3, (hfar1 _ _ _ ng5).trans c4, (hfar1 _ _ _ ng3).trans x0, (hfar1 _ _ _ ng3).trans x1⟩
          have K3 : Hid (∀ u v, ((wr.setCell ⟨gs, x.i, none⟩ u).setCell ⟨gt, x.i, none⟩ v).cell? ⟨g, 2, none⟩ = some (.slice (some ⟨gs, 0, none⟩) n sc) ∧ ((wr.setCell ⟨gs, x.i, none⟩ u).setCell ⟨gt, x.i, none⟩ v).cell? ⟨g, 3, none⟩ = some (.slice (some ⟨gt, 0, none⟩) n n) ∧ ((wr.setCell ⟨gs, x.i, none⟩ u).setCell ⟨gt, x.i, none⟩ v).cell? ⟨g, 4, none⟩ = some (.slice (some ⟨gx, 0, none⟩) k lc) ∧ ((wr.setCell ⟨gs, x.i, none⟩ u).setCell ⟨gt, x.i, none⟩ v).cell? ⟨gx, q * 2, none⟩ = some (.int .i64 x.i) ∧ ((wr.setCell ⟨gs, x.i, none⟩ u).setCell ⟨gt, x.i, none⟩ v).cell? ⟨gx, q * 2 + 1, none⟩ = some (.slice x.d.a x.d.l x.d.c)) := fun u v =>
            ⟨(hfar2 _ _ _ _ ng5 ng6).trans c2, (hfar2 _ _ _ _ ng5 ng6).trans c3, (hfar2 _ _ _ _ ng5 ng6).trans c4, (hfar2 _ _ _ _ ng3 ng4).trans x0, (hfar2 _ _ _ _ ng3 ng4).trans x1⟩
          clear hS hdat hsu hMM hx hlt' hxm hgx hfar1 hfar2
          go_wp2
          go_region_held3 (fun V => V.cell? ⟨g, 2, none⟩ = some (.slice (some ⟨gs, 0, none⟩) n sc) ∧ V.cell? ⟨g, 3, none⟩ = some (.slice (some ⟨gt, 0, none⟩) n n) ∧ V.cell? ⟨g, 4, none⟩ = some (.slice (some ⟨gx, 0, none⟩) k lc) ∧ V.cell? ⟨gx, q * 2, none⟩ = some (.int .i64 x.i) ∧ V.cell? ⟨gx, q * 2 + 1, none⟩ = some (.slice x.d.a x.d.l x.d.c)) (first | exact K1.out | exact K2.out _ | exact K3.out _ _) (fail)
          all_goals
            go_wp2
            go_roundw
            case rel => exact ⟨q + 1, by omega, by go_num, by rw [HSU.out]; first | exact (HS1.out.lay hxi x.d HDS.out).drew | exact HS1.out.drew.lay hxi x.d HDS.out⟩
            case measure => simp [intOf]; omega
        · have d1 : decide ((q : Int) < (k : Int)) = false := decide_eq_false (by omega)
          obtain rfl : q = k := by omega
          have HS3 := Lib.hid hS
          clear hS
          go_wp2
          go_ret
          refine ⟨rfl, ?_⟩
          rw [HDD.out]
          unfold RS.sync
          have := HS3.out.shut
          simp only [HX.out]
          exact ⟨_, _, _, _, _, _, this⟩

def skey (s : Sec) : List Int × Bool := (full s.d.z, s.t)
def zkey : List Int × Bool := (List.replicate 256 0, false)
theorem full_id {z : List Int} (h : z.length = 256) : full z = z := by unfold full; rw [h]; simp

/-- What Erase leaves. -/
def RER (w0 w' : World) (B Bp g gp gt : Nat) (X : Option Addr) (n : Nat) (R1 : RS) (P : PP) : Prop :=
  (P.off = true ∧ Rys w0 w' B Bp g gp gt X n R1 P) ∨ (P.off = false ∧ ∃ ss', ss'.map skey = List.replicate n zkey ∧ Rys w0 w' B Bp g gp gt X n ⟨R1.life, ss', []⟩ P)
set_option maxHeartbeats 4000000 in
theorem rerase {w0 w : World} {B Bp g gp gt : Nat} {X : Option Addr} {n : Nat} {R : RS} {P : PP} (h : Rys w0 w B Bp g gp gt X n R P) (hx6 : R.xs.length ≤ 1000000) (hX : ∀ b, X = some ⟨b, 0, none⟩ → b < w.heap.size) :
    Calls Try.prog 27 #[.pointer (some ⟨g, 0, none⟩)] w fun e w' => e = .returned (.int .i64 (if P.off then 5 else 0)) ∧ RER w0 w' B Bp g gp gt X n (R.wake P) P := by
  have hwk := rwake h.refl hx6
  have HH := Lib.hid h
  obtain ⟨Q, hQ⟩ : ∃ Q : World → Prop, Q = fun w' => RER w0 w' B Bp g gp gt X n (R.wake P) P := ⟨_, rfl⟩
  have HRR : Hid (∀ w', Q w' = RER w0 w' B Bp g gp gt X n (R.wake P) P) := fun w' => by rw [hQ]
  suffices hh : Calls Try.prog 27 #[.pointer (some ⟨g, 0, none⟩)] w fun e w' => e = .returned (.int .i64 (if P.off then 5 else 0)) ∧ Q w' from hh.mono fun e w' h => ⟨h.1, by rw [← HRR.out]; exact h.2⟩
  clear hQ
  obtain ⟨D1, hD1⟩ : ∃ D1, D1 = R.wake P := ⟨_, rfl⟩
  rw [← hD1] at hwk HRR
  obtain ⟨off, hof⟩ : ∃ off, off = P.off := ⟨_, rfl⟩
  rw [← hof]
  have HW := Lib.hid hwk; have HXX := Lib.hid hX; have HOF := Lib.hid hof
  clear h hwk hD1 hx6 hX hof
  go_enter Try.func27, Try.ntmps27
  go_wp2_with (go_at_call 36; fail)
  refine HW.out.mono ?_
  rintro e w1 ⟨rfl, hs0⟩
  have HS0 := Lib.hid (HH.out.trans hs0)
  have HSZ := Lib.hid hs0.kt.size
  obtain ⟨gs, sc, rest, lo, k, lc, hs⟩ := HS0.out
  obtain ⟨c0, c1, c2, c3, c4, fg, fs, ft⟩ := hs.c
  obtain ⟨q0, q1, q6⟩ := hs.pw.c
  rw [← HOF.out] at q0
  have HS := Lib.hid hs
  clear hs hs0 HW
  cases off with
  | true =>
    go_wp2
    go_ret
    exact ⟨rfl, by rw [HRR.out]; exact .inl ⟨HOF.out.symm, HS0.out⟩⟩
  | false =>
    obtain ⟨life, ss, xs⟩ := D1
    simp only at HS
    obtain ⟨ZZ, hZZ, hmk⟩ := make256
    have HZZ := Lib.hid hZZ
    obtain ⟨hn1, hn6⟩ := HS.out.hn
    have hns : n ≤ sc ∧ sc ≤ maxLen := HS.out.hsc
    clear hZZ HS0
    go_wp2
    clear c0 c1 c2 c3 c4 fg fs ft q0 q1 q6
    obtain ⟨wo, rfl⟩ : ∃ wo : World, wo = w1 := ⟨_, rfl⟩
    go_loopw [3] (fun i wr => ∃ (q : Nat) (ss' : List Sec), q ≤ n ∧ i = .int .i64 q ∧ (ss'.map skey).take q = List.replicate q zkey ∧ Ry w0 wr B Bp g gp gt gs X life n sc rest lo k lc ss' xs P ∧ w.heap.size ≤ wr.heap.size) (fun i _ => n - (intOf i).toNat)
    case atStart => exact ⟨0, ss, Nat.zero_le _, rfl, rfl, HS.out, HSZ.out⟩
    case round =>
      obtain ⟨q, ss', hq, rfl, hkey, hS, hsz⟩ := hrel
      obtain ⟨c0, c1, c2, c3, c4, fg, fs, ft⟩ := hS.c
      by_cases hlt : q < n
      · have d1 : decide ((q : Int) < (n : Int)) = true := decide_eq_true (by omega)
        have hxm : q < ss'.length := by rw [hS.ls]; exact hlt
        obtain ⟨u0, u1⟩ := hS.sec hxm
        obtain ⟨s2, hs2⟩ : ∃ s2, s2 = ss'[q] := ⟨_, rfl⟩
        rw [← hs2] at u0 u1
        have hB1 : Below wr.heap.size wr (wr.alloc (.cells ZZ.toArray 5)) := (Below.refl _ _).alloc (Nat.le_refl _) _
        have hS1 := hS.below hB1
        obtain ⟨e0, e1, e2, e3, e4, eg, es, et⟩ := hS1.c
        obtain ⟨v0, v1⟩ := hS1.sec hxm
        rw [← hs2] at v0 v1
        have hda : Da (wr.alloc (.cells ZZ.toArray 5)) B X ⟨some ⟨wr.heap.size, 0, none⟩, 256, 256, List.replicate 256 0⟩ := by
          have hg1 : (wr.alloc (.cells ZZ.toArray 5)).heap[wr.heap.size]? = some (.cells ((List.replicate 256 (0 : Int)).map (Value.int .u8)).toArray 5 (0, 0)) := by
            have := heap_alloc_new wr (.cells ZZ.toArray 5)
            rw [HZZ.out] at this ⊢
            rw [List.map_replicate]
            exact this
          have how := ow_of_blk (base := wr.heap.size) hg1 (Nat.le_refl _) List.length_replicate (by omega : 256 ≤ 1000000)
          refine ⟨rfl, Own1.of_ow how (fun j hj => ?_), ⟨_, rfl, hS.low.2.2.2.2⟩, fun e => ?_⟩
          · simp only [List.length_replicate] at hj
            rw [List.getD, List.getElem?_replicate, if_pos hj]
            exact ⟨Int.le_refl _, by decide⟩
          · simp only at e
            have := HXX.out wr.heap.size e.symm
            omega
        have ng1 : gt ≠ gs := tag_ne hS.torn hS.safe (by decide)
        have ng2 : gs ≠ gt := ng1.symm
        have ng5 : g ≠ gs := tag_ne hS.blk hS.safe (by decide)
        have ng6 : g ≠ gt := tag_ne hS.blk hS.torn (by decide)
        have hkey2 : ((ss'.set q ⟨⟨some ⟨wr.heap.size, 0, none⟩, 256, 256, List.replicate 256 0⟩, false⟩).map skey).take (q + 1) = List.replicate (q + 1) zkey := by
          have hl : q < ((ss'.map skey).set q zkey).length := by simpa using hxm
          rw [List.map_set, show skey ⟨⟨some ⟨wr.heap.size, 0, none⟩, 256, 256, List.replicate 256 0⟩, false⟩ = zkey by unfold skey zkey; rw [full_id List.length_replicate], List.take_succ_eq_append_getElem hl, List.getElem_set_self, List.replicate_succ', ← hkey]
          congr 1
          rw [List.take_set_of_le (Nat.le_refl _)]
        have HS1 := Lib.hid hS1; have HDA := Lib.hid hda; have HK2 := Lib.hid hkey2
        have HSZ2 : Hid (w.heap.size ≤ (wr.alloc (.cells ZZ.toArray 5)).heap.size) := Nat.le_trans hsz hB1.size
        have i1 : (0 : Int) ≤ (q : Int) := by omega
        have i2 : (q : Int) < (n : Int) := by omega
        clear hS hS1 hda hkey hkey2 hs2 hxm hB1 hsz
        go_wp2
        go_region
        all_goals
          go_wp2
          go_roundw
          case rel =>
            refine ⟨q + 1, _, by omega, by go_num, HK2.out, ?_, ?_⟩
            · first | exact (HS1.out.lay hlt _ HDA.out).drew | exact HS1.out.drew.lay hlt _ HDA.out
            · have := HSZ2.out
              simpa using this
          case measure => simp [intOf]; omega
      · have d1 : decide ((q : Int) < (n : Int)) = false := decide_eq_false (by omega)
        obtain rfl : q = n := by omega
        rw [List.take_of_length_le (by rw [List.length_map, hS.ls]; exact Nat.le_refl _)] at hkey
        have HS3 := Lib.hid hS; have HK3 := Lib.hid hkey
        clear hS hkey
        go_wp2
        go_ret
        exact ⟨rfl, by rw [HRR.out]; exact .inr ⟨HOF.out.symm, ss', HK3.out, _, _, _, _, _, _, HS3.out.shut⟩⟩

end Go.Proofs.Ytaajdaikfabchaa
