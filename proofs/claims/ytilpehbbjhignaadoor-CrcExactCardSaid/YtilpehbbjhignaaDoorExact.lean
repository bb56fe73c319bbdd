/-
  The walk of CrcExact.
-/
import Derived.Test.YtilpehbbjhignaaDoorRowsK
import Derived.Test.YtilpehbbjhignaaDoorRef
import Derived.Test.YtilpehbbjhignaaDoorBytes
import Derived.Deep.RegionHeld3
namespace Go.Proofs.YtilpehbbjhignaaDoor
open Go.RowKit
set_option linter.unusedVariables false

theorem below_undrew {w w' : World} (h : Below w.drew.heap.size w.drew w') : Below w.heap.size w w' := ((Below.refl w.heap.size w).drew).trans h

set_option maxRecDepth 100000 in
set_option maxHeartbeats 1000000 in
theorem exact_walk (ao : Option Addr) (n cap : Nat) (ps : List Part) (w : World) (hl : ps.length = n) (hm : n ≤ maxLen) (hT : Tab w) (h : Ps w ao ps) :
    Calls Tryd.prog 3 #[.slice ao n cap] w fun e w' => e = .returned (.bool true) ∧ Below w.heap.size w w' := by
  have H8 := Lib.hid (heavy_any ao n cap ps w hl h)
  have HT := Lib.hid hT; have HP := Lib.hid h; have HL := Lib.hid hl; have HM := Lib.hid hm
  clear hl hm hT h
  go_enter Tryd.func3, Tryd.ntmps3
  go_wp2_with (go_at_call 8; refine H8.out.mono ?_; rintro e w1 ⟨b, rfl, rfl, hb⟩; have HBB := Lib.hid hb; clear hb)
  · go_ret
    exact ⟨rfl, Below.refl _ _⟩
  · obtain ⟨hn20, h300⟩ := HBB.out (by assumption)
    have HTW := Lib.hid (twins_any ao n cap ps w HL.out (by omega) HP.out (fun r hr => Nat.le_trans (h300 r hr) (by decide)))
    have HFL := Lib.hid (fun w1 (hB : Below w.heap.size w w1) => flat_any ao n cap ps w1 HL.out hn20 (HP.out.below hB) h300)
    have hZb : Bts (flat ps) := flat_bts ps (fun p hp => (HP.out.mem p hp).bts)
    have hN : (flat ps).length ≤ 6000 := by
      have := flat_len ps 300 (fun r hr => by rw [(HP.out.mem _ (List.getElem_mem hr)).len]; exact h300 r hr) ps.length (Nat.le_refl _)
      rw [List.take_of_length_le (Nat.le_refl _)] at this
      have := HL.out
      omega
    obtain ⟨Z, hZ⟩ : ∃ Z, Z = flat ps := ⟨_, rfl⟩
    rw [← hZ] at HFL hZb hN
    obtain ⟨N, hNN⟩ : ∃ N, N = Z.length := ⟨_, rfl⟩
    rw [← hNN] at HFL hN
    obtain ⟨s, hs⟩ : ∃ s : Int, s = ((sumOf Z).toNat : Int) := ⟨_, rfl⟩
    have HS := Lib.hid hs; have HNN := Lib.hid hNN; have HZB := Lib.hid hZb; have HZ := Lib.hid hZ
    clear h300 hZ hNN hs hZb HBB H8
    go_wp2_with (first
      | (go_at_call 9; refine HTW.out.mono ?_; rintro e w2 ⟨ko, kc, qs, rfl, hql, hqz, hps, hk1, hk2, hk3, hB2⟩; have HQL := Lib.hid hql; have HQZ := Lib.hid hqz; have HPS := Lib.hid hps; have HB2 := Lib.hid hB2; clear hql hqz hps hk1 hk2 hk3 hB2)
      | (go_at_call 10; refine (HFL.out _ HB2.out).mono ?_; rintro e w3 ⟨lo, lc, rfl, how, hB3⟩; have HOW := Lib.hid how; have HB3 := Lib.hid hB3; clear how hB3))
    have hfq : flat qs = Z := by rw [flat_of HQZ.out, HZ.out]
    have hB13 := HB2.out.trans (HB3.out.mono HB2.out.size)
    have HSUM := Lib.hid (sum_any ko n kc qs w3 HQL.out HM.out (HT.out.below hB13) (HPS.out.below HB3.out))
    rw [hfq, ← HS.out] at HSUM
    have HBY := Lib.hid (bytes_any ko n kc qs w3 s (by rw [hfq]; exact HS.out) HQL.out HM.out (HT.out.below hB13) (HPS.out.below HB3.out))
    have hs0 : 0 ≤ s ∧ s < 4294967296 := by rw [HS.out]; have := (sumOf Z).isLt; omega
    obtain ⟨hs0, hs1⟩ := hs0
    have HB13 := Lib.hid hB13
    clear hfq hB13
    refine HSUM.out.mono ?_
    rintro e w3' ⟨rfl, rfl⟩
    go_wp2_with (go_at_call 12; refine HBY.out.mono ?_; rintro e w4 ⟨rfl, hB4⟩; have HB4 := Lib.hid hB4; clear hB4)
    obtain ⟨W, hW⟩ : ∃ W, W = w4.alloc (Obj.cells #[Value.int .u8 (s % 256), Value.int .u8 (s / 256 % 256), Value.int .u8 (s / 65536 % 256), Value.int .u8 (s / 16777216)] 29) := ⟨_, rfl⟩
    have hbW : Below w4.heap.size w4 W := by rw [hW]; exact (Below.refl _ _).alloc (Nat.le_refl _) _
    have hb3W := HB4.out.trans (hbW.mono HB4.out.size)
    have hBW := HB13.out.trans (hb3W.mono HB13.out.size)
    have hp4 : Part.ok W ⟨some ⟨w4.heap.size, 0, none⟩, 4, 4, l4 s⟩ := by
      rw [hW]
      have e : s = ((sumOf Z).toNat : Int) := HS.out
      exact part_new w4 (l4 s) 29 (0, 0) (by rw [e]; exact bts_l4 _ (sumOf Z).isLt) (by simp [l4, maxLen])
    rw [← hW]
    have hpZ : Part.ok W ⟨lo, N, lc, Z⟩ := (HOW.out.part HZB.out).below hb3W
    have HREF := Lib.hid (fun V (hV : ∀ a, V.cell? a = W.cell? a) => ref_any lo N lc Z V hpZ.len (by omega) (hpZ.rd.congr hV) hpZ.bts)
    have HRS := Lib.hid (fun V (hV : ∀ a, V.cell? a = W.cell? a) => refsum_any lo N lc Z V s HS.out hpZ.len (by omega) (hpZ.rd.congr hV) hpZ.bts)
    have HBC := Lib.hid (fun V g (hB : Below W.heap.size W V) (hg : Rd V (some ⟨g, 0, none⟩) (l4 s)) => show Calls Tryd.prog 14 #[.slice (some ⟨w4.heap.size, 0, none⟩) 4 4, .slice (some ⟨g, 0, none⟩) 4 4] V fun e w' => e = .returned (.bool true) ∧ ∃ q, w' = V.drewN q by
      have := bytes_cmp (some ⟨w4.heap.size, 0, none⟩) (some ⟨g, 0, none⟩) 4 4 4 4 (l4 s) (l4 s) V rfl rfl (by decide) (hp4.rd.below hB) hg
      rwa [decide_eq_true rfl] at this)
    have HRW := Lib.hid (fun V (hB : Below W.heap.size W V) => rows_eq ko ao n kc cap qs ps V HQL.out HL.out HM.out ((HPS.out.below (HB3.out.trans (hb3W.mono HB3.out.size))).below hB) ((HP.out.below hBW).below hB) HQZ.out)
    have HWK := Lib.hid (fun V (hB : Below W.heap.size W V) => wakes_any V ((HT.out.below hBW).below hB))
    have HBW := Lib.hid hBW
    rw [← HS.out] at HREF
    clear hW hbW hb3W hBW hp4 hpZ
    go_region_held3 (fun _ => True) (trivial) (first | (go_at_call 13; (with_reducible refine (HREF.out _ ?_).mono ?_); (intro _; rfl); rintro e w5 ⟨rfl, rfl⟩) | (go_at_call 15; (with_reducible refine (HRS.out _ ?_).mono ?_); (intro _; rfl); rintro e w5 ⟨g5, rfl, hr5, hB5⟩; have HR5 := Lib.hid hr5; have HB5 := Lib.hid (below_undrew hB5); clear hr5 hB5) | (go_at_call 14; (with_reducible refine (HBC.out _ _ HB5.out HR5.out).mono ?_); rintro e w6 ⟨rfl, hq6⟩; have HB6 : Hid (Below W.heap.size W w6) := (by obtain ⟨q6, rfl⟩ := hq6; exact below_drewN HB5.out q6); clear hq6) | (go_at_call 16; (with_reducible refine (HRW.out _ HB6.out).mono ?_); rintro e w7 ⟨rfl, hq7⟩; have HB7 : Hid (Below W.heap.size W w7) := (by obtain ⟨q7, rfl⟩ := hq7; exact below_drewN HB6.out q7); clear hq7) | (go_at_call 17; (with_reducible refine (HWK.out _ HB7.out).mono ?_); rintro e w8 ⟨rfl, hB8⟩; have HB8 := Lib.hid (HB7.out.trans (hB8.mono HB7.out.size)); clear hB8))
    go_wp2
    go_ret
    exact ⟨rfl, HBW.out.trans (HB8.out.mono HBW.out.size)⟩

end Go.Proofs.YtilpehbbjhignaaDoor
