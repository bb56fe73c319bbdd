/-
  The laws of the disk: wakes.
-/
import Derived.Test.YtaajdaikfabchaaLw2
namespace Go.Proofs.Ytaajdaikfabchaa
open Go.RowKit
set_option linter.unusedVariables false

def DS.new (life : Int) (n : Nat) : DS := ⟨life, secs0 n, secs0 n, []⟩
/-- While the power is on, and the disk knows its life, it is awake. -/
theorem DS.wake_same {D : DS} {P : PP} (h : P.life = D.life) : D.wake P = D := by
  simp [DS.wake, h]
theorem wake_put {d : Part} : ((DS.new 0 2).put 1 d).wake ⟨false, 1, [true], -1, 0, [], 0⟩ = ⟨1, [Sec.none, ⟨d, false⟩], [Sec.none, ⟨d, false⟩], []⟩ := rfl
theorem Own1.of_ow1 {w : World} {base n kc : Nat} {ko : Option Addr} {zs : List Int} (h : Ow w base ko n kc zs) (hz : Bts zs) : Own1 w ⟨ko, n, kc, zs⟩ := Own1.of_ow h hz
theorem bts_rep (n : Nat) (b : Int) (h0 : 0 ≤ b) (h1 : b ≤ 255) : Bts (List.replicate n b) := by
  intro j hj
  simp at hj
  simp [List.getD, hj, h0, h1]

set_option maxHeartbeats 4000000 in
theorem wakes9 (w : World) : Calls Try.prog 11 #[] w fun e w' => e = .returned (.bool true) ∧ Below w.heap.size w w' := by
  have HN := Lib.hid (pnew w)
  have HF := Lib.hid (fun V => fill_any 7 V (by omega) (by omega))
  obtain ⟨R, hR⟩ : ∃ R, R = List.replicate 256 (7 : Int) := ⟨_, rfl⟩
  rw [← hR] at HF
  have hRb : Bts R := by rw [hR]; exact bts_rep _ _ (by omega) (by omega)
  have hR9 : R.getD 9 0 = 7 := by rw [hR]; rfl
  have hRl : R.length = 256 := by rw [hR, List.length_replicate]
  have HRB := Lib.hid hRb; have HR9 := Lib.hid hR9; have HRL := Lib.hid hRl
  clear hR hRb hR9 hRl
  go_enter Try.func11, Try.ntmps11
  go_wp2_with (go_at_call 8; fail)
  refine HN.out.mono ?_
  rintro e w1 ⟨rfl, hp1, hB1⟩
  have hd := dnew_any w1 w.heap.size w1.heap.size w.heap.size 2 PP.new hp1 (Nat.le_refl _) (by omega) (by omega)
  rw [show ((2 : Nat) : Int) = 2 from rfl] at hd
  have HD := Lib.hid hd; have HB1 := Lib.hid hB1
  clear hd hp1 hB1 HN
  go_wp2_with (go_at_call 10; fail)
  refine HD.out.mono ?_
  rintro e w2 ⟨g, rfl, hg, hs2, hB2⟩
  have HS2 := Lib.hid hs2
  clear hs2 hB2 HD hg
  go_wp2_with (go_at_call 32; fail)
  refine (HF.out w2).mono ?_
  rintro e w3 ⟨ko, kc, rfl, ho3, hB3⟩
  have hs3 := HS2.out.below hB3
  have hw := write_any 1 ko 256 kc R hs3 (by decide) (by decide) (Own1.of_ow1 ho3 HRB.out)
  have HW := Lib.hid hw
  clear hw hs3 ho3 hB3 HF HS2
  go_wp2_with (go_at_call 30; fail)
  refine HW.out.mono ?_
  rintro e w4 ⟨rfl, hwr⟩
  have hE : putE PP.new 2 1 256 = 0 := rfl
  have hPB : putsB PP.new 2 1 256 = true := rfl
  rcases hwr with ⟨h, _⟩ | ⟨_, d, hdz, hda, hs4⟩
  · rw [hPB] at h; cases h
  rw [show (DS.wake ⟨PP.new.life, secs0 2, secs0 2, []⟩ PP.new).put (1 : Int).toNat d = (DS.new 0 2).put 1 d from rfl, show PP.new.spend = PP.new from rfl] at hs4
  rw [hE]
  have hbl : Bl (w4.alloc (.cells #[.bool true] 4)) (some ⟨w4.heap.size, 0, none⟩) [true] := .inr ⟨w4.heap.size, 0, rfl, fun j hj => by
    have : j = 0 := by simp at hj; omega
    subst this
    simp [World.cell?_alloc_new]⟩
  have hs5 := hs4.below ((Below.refl _ _).alloc (Nat.le_refl _) (.cells #[.bool true] 4))
  have hc := pcut (w4.alloc (.cells #[.bool true] 4)) w1.heap.size w.heap.size PP.new (some ⟨w4.heap.size, 0, none⟩) 1 1 [true] (-1) hs5.pw (by have := hs5.kt.size; exact this) rfl (by omega) hbl (fun h => by cases h)
  have HC := Lib.hid hc; have HS5 := Lib.hid hs5; have HDZ := Lib.hid hdz
  clear hc hs4 hs5 hbl hE hPB hda hdz HW
  go_wp2_with (go_at_call 20; fail)
  refine HC.out.mono ?_
  rintro e w6 ⟨rfl, hp6, hB6, ho6⟩
  have hs6 := HS5.out.spend hp6 hB6 ho6
  have hst := pstart w6 w1.heap.size w.heap.size _ hp6 (by decide) (by decide)
  have HS6 := Lib.hid hs6; have HST := Lib.hid hst
  clear hs6 hst hp6 hB6 ho6 HC HS5
  go_wp2_with (go_at_call 22; fail)
  refine HST.out.mono ?_
  rintro e w7 ⟨rfl, hp7, hB7, ho7⟩
  have hs7 := HS6.out.spend hp7 hB7 ho7
  rw [show (PP.new.cut [true] (-1)).start = ⟨false, 1, [true], -1, 0, [], 0⟩ from rfl] at hs7
  have hr := read_any 1 hs7 (show (1 : Nat) ≤ 1000000 by decide)
  rw [wake_put] at hr
  have HR := Lib.hid hr; have HS7 := Lib.hid hs7
  clear hr hs7 hp7 hB7 ho7 HS6 HST
  go_wp2_with (go_at_call 14; fail)
  refine HR.out.mono ?_
  rintro e w8 ⟨⟨k8, l8, c8, rfl, ho8⟩, hs8⟩
  have hget : DS.get ⟨1, [Sec.none, ⟨d, false⟩], [Sec.none, ⟨d, false⟩], []⟩ false 2 1 = (0, full d.z) := rfl
  rw [hget] at ho8
  have hfz : full d.z = R := by rw [HDZ.out]; unfold full; rw [HRL.out]; simp
  simp only [hfz] at ho8
  have hl8 : l8 = 256 := by rw [← ho8.1]; exact HRL.out
  subst hl8
  obtain ⟨g8, rfl, hg8⟩ := ho8.at (by omega)
  have hc9 : w8.cell? ⟨g8, 9, none⟩ = some (.int .u8 7) := by
    rcases ho8.rd with h | ⟨b', o, hb', hcell⟩
    · rw [h] at ho8; have := ho8.1; simp at this
    · cases hb'
      have := hcell 9 (by rw [HRL.out]; omega)
      rw [Nat.zero_add, HR9.out] at this
      exact this
  have hlow := hs8.low
  have HLW : Hid (Below w.heap.size w w8) := HB1.out.trans hlow
  clear hfz hget ho8 hg8 hs8 HR HS7 hlow
  go_wp2
  go_ret
  exact ⟨rfl, HLW.out⟩

end Go.Proofs.Ytaajdaikfabchaa
