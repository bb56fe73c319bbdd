/-
  FrameWalk: the walk.
-/
import Derived.Test.YtmbkgjiofkggcaaDoorFrame10
namespace Go.Proofs.YtmbkgjiofkggcaaDoor
open Go.RowKit
set_option linter.unusedVariables false

set_option maxRecDepth 100000 in
set_option maxHeartbeats 2000000 in
theorem walk_any (ao : Option Addr) (n cap : Nat) (rs : List Rec) (w : World) (hT : Tab w) (hl : rs.length = n) (hm : n ≤ maxLen) (h : Rs w ao rs) :
    Calls Tryd.prog 9 #[.slice ao n cap] w fun e w' => e = .returned (.bool true) ∧ Below w.heap.size w w' := by
  have HHV := Lib.hid (heavy_any ao n cap rs w hl hm h)
  have HL := Lib.hid hl; have HR := Lib.hid h; have HT := Lib.hid hT
  unfold maxLen at hm
  clear hl h hT
  go_enter Tryd.func9, Tryd.ntmps9
  go_wp2_with (go_at_call 14; fail)
  refine HHV.out.mono ?_
  rintro r w1 ⟨(rfl | ⟨rfl, hn80, hall⟩), rfl⟩
  · go_wp2
    go_ret
    exact ⟨rfl, Below.refl _ _⟩
  have HALL := Lib.hid hall
  clear hall
  have HJ := Lib.hid (join_any ao n cap rs w HL.out (by omega) HT.out HR.out)
  go_wp2_with (go_at_call 21; fail)
  refine HJ.out.mono ?_
  rintro r w2 (⟨hje, ko, kc, rfl, ho2, hB2⟩ | ⟨hje, rfl, hB2⟩)
  rotate_left
  · have d1 : (je rs != 0) = true := by simp [hje]
    have HB2 := Lib.hid hB2
    have HWK := Lib.hid (wakes06 w2 (HT.out.below hB2))
    clear hje hB2
    go_wp2_with (go_at_call 24; refine HWK.out.mono ?_; rintro r w8 ⟨rfl, hB8⟩; have HB8 : Hid (Below w.heap.size w w8) := HB2.out.trans (hB8.mono HB2.out.size); clear hB8)
    go_ret
    exact ⟨rfl, HB8.out⟩
  have HB2 := Lib.hid hB2; have HO2 := Lib.hid ho2
  have hchk := je_all rs hje
  have hbz : Bts (frs rs) := bts_frs rs fun i hi => by
    rcases HR.out with h | ⟨_, _, _, h⟩
    · rw [h] at hi; exact absurd hi (Nat.not_lt_zero _)
    · exact (h i hi).2.2.2.bts
  obtain ⟨zs, hzs⟩ : ∃ zs, zs = frs rs := ⟨_, rfl⟩
  have hkey : ∀ k, k ≤ rs.length → (frs (rs.take k)).length ≤ 413 * k := by
    intro k
    induction k with
    | zero => intro _; exact Nat.zero_le _
    | succ k ih =>
      intro hk
      have hd : rs[k].d.z.length = rs[k].d.l := by
        rcases HR.out with h | ⟨_, _, _, h⟩
        · rw [h] at hk; simp at hk
        · exact (h k (by omega)).2.2.2.len
      have := ih (by omega)
      have h4 := HALL.out k (by omega)
      rw [frs_take rs k (by omega), List.length_append, fr_len]
      omega
  have hNb := hkey rs.length (Nat.le_refl _)
  rw [List.take_length, HL.out] at hNb
  rw [← hzs] at HO2 hbz hNb ⊢
  obtain ⟨N, hN⟩ : ∃ N, N = zs.length := ⟨_, rfl⟩
  rw [← hN] at HO2 hNb ⊢
  have hN2 : N ≤ 33040 := by omega
  have HZS := Lib.hid hzs; have HBZ := Lib.hid hbz; have HN := Lib.hid hN; have HCH := Lib.hid hchk; have HKEY := Lib.hid hkey
  clear hje hB2 ho2 hchk hbz hzs hN hkey hNb
  go_wp2
  go_loopw [5, 6] (fun p i wr => ∃ k : Nat, k ≤ n ∧ i = .int .i64 k ∧ p = .int .i64 (frs (rs.take k)).length ∧ Below w2.heap.size w2 wr) (fun _ i _ => n - (intOf i).toNat)
  case atStart => exact ⟨0, Nat.zero_le _, rfl, rfl, Below.refl _ _⟩
  case round =>
    obtain ⟨k, hk, rfl, rfl, hB⟩ := hrel
    have HBL := Lib.hid hB
    have HBR := Lib.hid (HB2.out.trans (hB.mono HB2.out.size))
    have HO := Lib.hid (HO2.out.below hB)
    have hpb := HKEY.out k (by rw [HL.out]; exact hk)
    by_cases hlt : k < n
    · have d1 : decide ((k : Int) < (n : Int)) = true := decide_eq_true (by omega)
      have hlt' : k < rs.length := by rw [HL.out]; exact hlt
      obtain ⟨b, o, rfl, hc⟩ : ∃ b o, ao = some ⟨b, o, none⟩ ∧ _ := by
        rcases HR.out.below HBR.out with h | h
        · rw [h] at hlt'; exact absurd hlt' (Nat.not_lt_zero _)
        · exact h
      obtain ⟨c0, c1, c2, hd⟩ := hc k hlt'
      have hq0 := HCH.out k hlt'
      have h4 := HALL.out k hlt'
      have hsp := frs_split rs k hlt'
      have hcat := frs_take rs k hlt'
      rw [← HZS.out] at hsp
      obtain ⟨r, hr⟩ : ∃ r, r = rs[k] := ⟨_, rfl⟩
      rw [← hr] at c0 c1 c2 hd hq0 h4 hsp hcat
      obtain ⟨hnok, hl8⟩ := chk_ok hq0
      obtain ⟨P, hP⟩ : ∃ P, P = (frs (rs.take k)).length := ⟨_, rfl⟩
      have hcl : (frs (rs.take (k + 1))).length = P + 13 + r.d.l := by rw [hcat, List.length_append, fr_len, hd.len, hP]; omega
      have hrd := fread_at ko N kc _ _ r.d.z zs r.k r.s wr (HT.out.below HBR.out) hnok (by rw [hd.len]; exact hl8) hsp HBZ.out HN.out.symm HO.out.2.1 (by omega) HO.out.2.2.1 HO.out.rd P hP
      rw [hd.len, show ((P + 13 + r.d.l : Nat) : Int) = (P : Int) + 13 + (r.d.l : Int) by omega] at hrd
      rw [← hP] at hpb ⊢
      have HRD := Lib.hid hrd; have HD := Lib.hid hd; have HCL := Lib.hid hcl
      have HC0 := Lib.hid (show wr.cell? ⟨b, o + k * 3, none⟩ = some (.int .i64 r.k) ∧ wr.cell? ⟨b, o + k * 3 + 1, none⟩ = some (.int .i64 r.s) ∧ wr.cell? ⟨b, o + k * 3 + 2, none⟩ = some (.slice r.d.a r.d.l r.d.c) from ⟨c0, c1, c2⟩)
      clear hB hc c0 c1 c2 hd hq0 hsp hcat hr hnok hP hcl hrd
      go_wp2_with (go_at_call 26; fail)
      refine HRD.out.mono ?_
      rintro e w3 ⟨k3, c3, rfl, ho3, hB3⟩
      obtain ⟨W3, hW3⟩ : ∃ W3, W3 = w3.alloc (.cells #[.int .i64 r.k, .int .i64 r.s, .slice k3 r.d.l c3] 29) := ⟨_, rfl⟩
      have h33 : Below w3.heap.size w3 W3 := by rw [hW3]; exact (Below.refl _ _).alloc (Nat.le_refl _) _
      have hrW : Below wr.heap.size wr W3 := hB3.trans (h33.mono hB3.size)
      have hbx : W3.heap[w3.heap.size]? = some (.cells #[.int .i64 r.k, .int .i64 r.s, .slice k3 r.d.l c3] 29) := by rw [hW3]; exact heap_alloc_new _ _
      have hbl := (Array.getElem?_eq_some_iff.1 hbx).1
      have hcell : ∀ V, Below W3.heap.size W3 V → V.cell? ⟨w3.heap.size, 0, none⟩ = some (.int .i64 r.k) ∧ V.cell? ⟨w3.heap.size, 1, none⟩ = some (.int .i64 r.s) ∧ V.cell? ⟨w3.heap.size, 2, none⟩ = some (.slice k3 r.d.l c3) ∧ V.cell? ⟨b, o + k * 3, none⟩ = some (.int .i64 r.k) ∧ V.cell? ⟨b, o + k * 3 + 1, none⟩ = some (.int .i64 r.s) ∧ V.cell? ⟨b, o + k * 3 + 2, none⟩ = some (.slice r.d.a r.d.l r.d.c) := fun V hV => by
        have hx : V.heap[w3.heap.size]? = some (.cells #[.int .i64 r.k, .int .i64 r.s, .slice k3 r.d.l c3] 29) := by rw [hV.block _ hbl]; exact hbx
        have hrV : Below wr.heap.size wr V := hrW.trans (hV.mono hrW.size)
        refine ⟨by simp [World.cell?, hx], by simp [World.cell?, hx], by simp [World.cell?, hx], ?_, ?_, ?_⟩
        · rw [hrV.cell (cell_lt HC0.out.1)]; exact HC0.out.1
        · rw [hrV.cell (cell_lt HC0.out.2.1)]; exact HC0.out.2.1
        · rw [hrV.cell (cell_lt HC0.out.2.2)]; exact HC0.out.2.2
      have ho3' := ho3.below h33
      have hkr : ∀ V, Below W3.heap.size W3 V → Calls Tryd.prog 28 #[.agg #[.int .i64 r.k, .int .i64 r.s, .slice k3 r.d.l c3], .agg #[.int .i64 r.k, .int .i64 r.s, .slice r.d.a r.d.l r.d.c]] V fun e w' => e = .returned (.bool true) ∧ Below V.heap.size V w' := fun V hV => by
        have hdd : r.d.ok V := (HD.out.below hrW).below hV
        have := keep_rec ⟨r.k, r.s, ⟨k3, r.d.l, c3, r.d.z⟩⟩ r V ((ho3'.below hV).part hdd.bts) hdd
        simp only [and_self, decide_true] at this
        exact this
      have HRW := Lib.hid hrW; have HCELL := Lib.hid hcell; have HK := Lib.hid hkr; have HW3 := Lib.hid hW3
      have hwa : IntKind.i64.wrap ((P : Int) + 13) = (P : Int) + 13 := by rw [IntKind.wrap_i64]; omega
      have hwb : IntKind.i64.wrap ((P : Int) + 13 + (r.d.l : Int)) = (P : Int) + 13 + (r.d.l : Int) := by rw [IntKind.wrap_i64]; omega
      have hne : (((P : Int) + 13 + (r.d.l : Int)) != ((P : Int) + 13 + (r.d.l : Int))) = false := by simp
      have i1 : (0 : Int) ≤ (k : Int) := by omega
      have i2 : (k : Int) < (n : Int) := by omega
      clear hW3 h33 hrW hbx hbl hcell ho3 ho3' hkr hB3
      go_wp2
      rw [← HW3.out]
      go_region_held3 (fun V => V.cell? ⟨w3.heap.size, 0, none⟩ = some (.int .i64 r.k) ∧ V.cell? ⟨w3.heap.size, 1, none⟩ = some (.int .i64 r.s) ∧ V.cell? ⟨w3.heap.size, 2, none⟩ = some (.slice k3 r.d.l c3) ∧ V.cell? ⟨b, o + k * 3, none⟩ = some (.int .i64 r.k) ∧ V.cell? ⟨b, o + k * 3 + 1, none⟩ = some (.int .i64 r.s) ∧ V.cell? ⟨b, o + k * 3 + 2, none⟩ = some (.slice r.d.a r.d.l r.d.c)) (first | exact HCELL.out _ (Below.refl _ _).drew | exact HCELL.out _ HB5.out) ((go_at_call 28; (with_reducible refine (HK.out _ (Below.refl _ _).drew).mono ?_); rintro e w5 ⟨rfl, hB5⟩; have HB5 : Hid (Below W3.heap.size W3 w5) := (Below.refl _ _).drew.trans hB5; clear hB5))
      go_wp2
      go_roundw
      case rel => exact ⟨k + 1, by omega, by go_num, by rw [HCL.out]; go_num, (HBL.out.trans ((HRW.out.trans (HB5.out.mono HRW.out.size)).mono HBL.out.size))⟩
      case measure => simp [intOf]; omega
    · have d1 : decide ((k : Int) < (n : Int)) = false := decide_eq_false (by omega)
      obtain rfl : n = k := by omega
      rw [show rs.take n = rs from List.take_of_length_le (by rw [HL.out]; exact Nat.le_refl _), ← HZS.out, ← HN.out]
      have HE1 := Lib.hid (fread_end ko N kc zs wr (HT.out.below HBR.out) HBZ.out HN.out.symm HO.out.2.1 (by omega) HO.out.2.2.1 HO.out.rd)
      have HE2 := Lib.hid (fun V (hV : Below wr.heap.size wr V) => fread_past ko N kc zs V (HT.out.below (HBR.out.trans (hV.mono HBR.out.size))) HBZ.out HN.out.symm HO.out.2.1 (by omega) HO.out.2.2.1 ((HO.out.below hV).rd))
      clear hB hpb
      go_wp2_with (go_at_call 26; fail)
      refine HE1.out.mono ?_
      rintro e w3 ⟨rfl, hB3⟩
      have HB3 : Hid (Below wr.heap.size wr (w3.alloc (.cells #[.int .i64 0, .int .i64 0, .slice none 0 0] 29))) := hB3.alloc hB3.size _
      clear hB3
      go_wp2_with (go_at_call 26; fail)
      refine (HE2.out _ HB3.out).mono ?_
      rintro e w4 ⟨rfl, hB4⟩
      have HB4 : Hid (Below wr.heap.size wr (w4.alloc (.cells #[.int .i64 0, .int .i64 0, .slice none 0 0] 29))) := (HB3.out.trans (hB4.mono HB3.out.size)).alloc (Nat.le_trans HB3.out.size hB4.size) _
      have HB9 : Hid (Below w.heap.size w (w4.alloc (.cells #[.int .i64 0, .int .i64 0, .slice none 0 0] 29))) := HBR.out.trans (HB4.out.mono HBR.out.size)
      have HWK := Lib.hid (wakes06 _ (HT.out.below HB9.out))
      clear hB4
      go_wp2_with (go_at_call 24; refine HWK.out.mono ?_; rintro r w8 ⟨rfl, hB8⟩; have HB8 : Hid (Below w.heap.size w w8) := HB9.out.trans (hB8.mono HB9.out.size); clear hB8)
      go_ret
      exact ⟨rfl, HB8.out⟩

end Go.Proofs.YtmbkgjiofkggcaaDoor
