/-
  The contracts of the document's own label's number and bytes.
-/
import Derived.Test.YtmbkgjiofkggcaaDoorRefs
import Derived.Deep.RegionHeld3
namespace Go.Proofs.YtmbkgjiofkggcaaDoor
open Go.RowKit
set_option linter.unusedVariables false

theorem rnum_ok (b o len cap : Nat) (zs : List Int) (w : World) (hl : zs.length = len) (hlc : len ≤ cap) (hm : cap ≤ maxLen) (hc : ∀ j, j < len → w.cell? ⟨b, o + j, none⟩ = some (.int .u8 (zs.getD j 0)))
    (hz : Bts zs) (h2 : len ≤ 6) :
    Calls Tryd.prog 52 #[.slice (some ⟨b, o, none⟩) len cap] w fun e w' => e = .returned (.int .i64 (num zs)) ∧ w = w' := by
  unfold maxLen at hm
  have HL := Lib.hid hl; have HZ := Lib.hid hz; have HC := Lib.hid hc
  clear hc hz hl
  go_enter Tryd.func52, Tryd.ntmps52
  go_wp2
  go_loop [3, 4] (fun n i => ∃ k : Nat, k ≤ len ∧ i = .int .i64 k ∧ n = .int .i64 (num (zs.take k))) (fun _ i => len - (intOf i).toNat)
  case atStart => exact ⟨0, Nat.zero_le _, rfl, rfl⟩
  case round =>
    obtain ⟨k, hk, rfl, rfl⟩ := hrel
    by_cases hlt : k < len
    · have hcell := HC.out k hlt
      have hbd := HZ.out k (by rw [HL.out]; exact hlt)
      obtain ⟨c, hcc⟩ : ∃ c, c = zs.getD k 0 := ⟨_, rfl⟩
      rw [← hcc] at hcell hbd
      have hnl := num_take_lt zs HZ.out k (by rw [HL.out]; exact hk)
      have hp : 256 ^ k ≤ 256 ^ 6 := Nat.pow_le_pow_right (by decide) (by omega)
      have hnl2 : num (zs.take k) < 281474976710656 := by omega
      have HN := Lib.hid (num_take zs k (by rw [HL.out]; exact hlt))
      rw [← hcc] at HN
      have HCC := Lib.hid hcc
      clear hcc hnl hp
      obtain ⟨n, hn⟩ : ∃ n, n = num (zs.take k) := ⟨_, rfl⟩
      rw [← hn] at hnl2 HN ⊢
      have HNN := Lib.hid hn
      clear hn
      have d1 : decide ((k : Int) < (len : Int)) = true := decide_eq_true (by omega)
      go_wp2
      go_round
      case rel => exact ⟨k + 1, by omega, by go_num, by rw [HN.out, or_shift n c hnl2 hbd.1 hbd.2]; go_num⟩
      case measure => simp [intOf]; omega
    · have d1 : decide ((k : Int) < (len : Int)) = false := decide_eq_false (by omega)
      go_wp2
      go_ret
      have : k = len := by omega
      subst this
      exact ⟨by rw [List.take_of_length_le (by rw [HL.out]; exact Nat.le_refl _)]; rfl, rfl⟩

theorem rnum_any (ao : Option Addr) (len cap : Nat) (zs : List Int) (w : World) (hl : zs.length = len) (h1 : 1 ≤ len) (hlc : len ≤ cap) (hm : cap ≤ maxLen) (hr : Rd w ao zs) (hz : Bts zs) (h2 : len ≤ 6) :
    Calls Tryd.prog 52 #[.slice ao len cap] w fun e w' => e = .returned (.int .i64 (num zs)) ∧ w = w' := by
  obtain ⟨b, o, rfl, hc⟩ := hr.at (by omega)
  exact rnum_ok b o len cap zs w hl hlc hm (fun j hj => hc j (by omega)) hz h2

theorem below_undrew {w w' : World} (h : Below w.drew.heap.size w.drew w') : Below w.heap.size w w' := (Below.refl _ _).drew.trans h

theorem head6 (v p : Int) (hv0 : 0 ≤ v) (hv1 : v < 8) (hp0 : 0 ≤ p) (hp1 : p ≤ 1) (e : Int) : lhead v p e = [67, 69, 76, 76, v, p] ++ be e.toNat 4 := by
  unfold lhead
  rw [be_one v hv0 (by omega), be_one p hp0 (by omega), show be 1128614988 4 = [67, 69, 76, 76] by decide]
  rfl

theorem ow_new (w : World) (base : Nat) (zs : List Int) (n : Nat) (hn : zs.length = n) (hm : n ≤ maxLen) (hb : base ≤ w.heap.size) : Ow (w.alloc (.cells (zs.map (Value.int .u8)).toArray 5)) base (some ⟨w.heap.size, 0, none⟩) n n zs :=
  ⟨hn, Nat.le_refl _, hm, owns_of_block (heap_alloc_new _ _) hb hm (by simp [hn])⟩

set_option maxHeartbeats 1000000 in
theorem rlb_ok (v p e : Int) (w : World) (h : lok v p e) : Calls Tryd.prog 38 #[.agg #[.int .i64 v, .int .i64 p, .int .i64 e]] w (R1 w 14 (lab v p e)) := by
  have hh := head6 v p h.1 h.2.1 h.2.2.1 h.2.2.2.1 e
  have hbl := lhead_bts v p e
  have hll := lhead_len v p e
  obtain ⟨hd, hhd⟩ : ∃ l, l = lhead v p e := ⟨_, rfl⟩
  obtain ⟨s, hs⟩ : ∃ s : Int, s = ((sumOf hd).toNat : Int) := ⟨_, rfl⟩
  have hlab : lab v p e = hd ++ l4 s := by rw [hs, hhd]; rfl
  rw [hlab]
  rw [← hhd] at hh hbl hll
  obtain ⟨h1, h2, h3, h4, h5, h6⟩ := h
  obtain ⟨W0, hW0⟩ : ∃ W0, W0 = w.alloc (.cells #[.int .i64 v, .int .i64 p, .int .i64 e] 54) := ⟨_, rfl⟩
  have hb0 : Below w.heap.size w W0 := by rw [hW0]; exact (Below.refl _ _).alloc (Nat.le_refl _) _
  have hc0 : W0.cell? ⟨w.heap.size, 0, none⟩ = some (.int .i64 v) := by rw [hW0, World.cell?_alloc_mark]; rfl
  have hc1 : W0.cell? ⟨w.heap.size, 1, none⟩ = some (.int .i64 p) := by rw [hW0, World.cell?_alloc_mark]; rfl
  have hc2 : W0.cell? ⟨w.heap.size, 2, none⟩ = some (.int .i64 e) := by rw [hW0, World.cell?_alloc_mark]; rfl
  have hS : ∀ V, Below W0.heap.size W0 V → V.cell? ⟨w.heap.size, 0, none⟩ = some (.int .i64 v) ∧ V.cell? ⟨w.heap.size, 1, none⟩ = some (.int .i64 p) ∧ V.cell? ⟨w.heap.size, 2, none⟩ = some (.int .i64 e) := fun V hV => by
    refine ⟨?_, ?_, ?_⟩
    · rw [hV.cell (cell_lt hc0)]; exact hc0
    · rw [hV.cell (cell_lt hc1)]; exact hc1
    · rw [hV.cell (cell_lt hc2)]; exact hc2
  obtain ⟨bs, hbs⟩ : ∃ bs, bs = be e.toNat 4 := ⟨_, rfl⟩
  have hbe : ∀ V, Calls Tryd.prog 51 #[.int .i64 e, .int .i64 4] V (R1 V 4 bs) := fun V => by
    have := rbe_ok e.toNat 4 V (by omega) (by omega) (by omega)
    rw [hbs]
    rwa [Int.toNat_of_nonneg h5] at this
  rw [← hbs] at hh
  have hu1 : IntKind.u8.wrap v = v := by unfold IntKind.wrap; simp [IntKind.bits]; omega
  have hu2 : IntKind.u8.wrap p = p := by unfold IntKind.wrap; simp [IntKind.bits]; omega
  have HS := Lib.hid hS; have HBE := Lib.hid hbe; have HH := Lib.hid hh; have HLB := Lib.hid hbl; have HLL := Lib.hid hll; have HSS := Lib.hid hs; have HB0 := Lib.hid hb0; have HW0 := Lib.hid hW0
  clear hS hbe hh hbl hll hs hb0 hW0 hc0 hc1 hc2 hlab hhd hbs h1 h2 h3 h4 h5 h6
  go_enter Tryd.func38, Tryd.ntmps38
  go_wp2
  rw [← HW0.out]
  go_region_held3 (fun V => V.cell? ⟨w.heap.size, 0, none⟩ = some (.int .i64 v) ∧ V.cell? ⟨w.heap.size, 1, none⟩ = some (.int .i64 p) ∧ V.cell? ⟨w.heap.size, 2, none⟩ = some (.int .i64 e)) (first | exact HS.out _ (Below.refl _ _).drew | exact HS.out _ HB7.out | exact HS.out _ HB5.out | exact HS.out _ ((Below.refl _ _).drew.alloc (Nat.le_refl _) _) | exact HS.out _ (HB5.out.alloc HB5.out.size _))
    (first
     | (go_at_call 51; (with_reducible refine (HBE.out _).mono ?_); rintro r w5 ⟨k5, c5, rfl, ho5, hB5⟩;
        have hsz : W0.heap.size ≤ (W0.alloc (.cells #[.int .u8 67, .int .u8 69, .int .u8 76, .int .u8 76, .int .u8 v, .int .u8 p] 5)).drew.heap.size := (by show _ ≤ (W0.alloc _).heap.size; rw [World.size_alloc]; exact Nat.le_succ _);
        have HR5 : Hid (Ow w5 W0.heap.size (some ⟨W0.heap.size, 0, none⟩) 6 6 [67, 69, 76, 76, v, p]) := (ow_new W0 W0.heap.size [67, 69, 76, 76, v, p] 6 rfl (by unfold maxLen; omega) (Nat.le_refl _)).below (below_undrew hB5);
        have HO5 : Hid (Ow w5 W0.heap.size k5 4 c5 bs) := ho5.base hsz;
        have HB5 : Hid (Below W0.heap.size W0 w5) := ((Below.refl _ _).alloc (Nat.le_refl _) _).drew.trans (hB5.mono hsz);
        clear ho5 hB5 hsz)
     | (go_at_call 51; (with_reducible refine (HBE.out _).mono ?_); rintro r w5 ⟨k5, c5, rfl, ho5, hB5⟩;
        have HO5 : Hid (Ow w5 W0.heap.size k5 4 c5 bs) := ho5;
        have HB5 : Hid (Below W0.heap.size W0 w5) := (Below.refl _ _).drew.trans hB5;
        clear ho5 hB5)
     | (obtain ⟨g, rfl, hg⟩ := HO5.out.at (by omega);
        refine step_append_bytes rfl (.tmp 10) (.tmp 13) rfl W0.heap.size 6 6 4 c5 _ ⟨g, 0, none⟩ [67, 69, 76, 76, v, p] bs rfl HR5.out rfl HO5.out.rd HO5.out.1 (by omega) HB5.out.size ?_;
        intro k7 c7 w7 ho7 hB7;
        have HO7 := Lib.hid ho7;
        have HB7 : Hid (Below W0.heap.size W0 w7) := HB5.out.trans hB7;
        clear ho7 hB7)
     | (obtain ⟨g, rfl, hg⟩ := HO5.out.at (by omega);
        refine step_append_bytes rfl (.tmp 10) (.tmp 13) rfl W0.heap.size 6 6 4 c5 _ ⟨g, 0, none⟩ [67, 69, 76, 76, v, p] bs rfl (ow_new w5 W0.heap.size [67, 69, 76, 76, v, p] 6 rfl (by unfold maxLen; omega) HB5.out.size) rfl (HO5.out.rd.below ((Below.refl _ _).alloc (Nat.le_refl _) _)) HO5.out.1 (by omega) (Nat.le_trans HB5.out.size (by simp)) ?_;
        intro k7 c7 w7 ho7 hB7;
        have HO7 := Lib.hid ho7;
        have HB7 : Hid (Below W0.heap.size W0 w7) := (HB5.out.alloc HB5.out.size _).trans hB7;
        clear ho7 hB7))
  all_goals
    have HO8 : Hid (Ow w7 W0.heap.size k7 10 c7 hd) := by rw [HH.out]; exact HO7.out
    have HRS := Lib.hid (refsum_any k7 10 c7 hd w7 s HSS.out HLL.out (by omega) HO8.out.rd HLB.out)
    go_wp2_with (first
      | (go_at_call 43; refine HRS.out.mono ?_; rintro r w8 ⟨g8, rfl, hr8, hB8⟩; have HR8 := Lib.hid hr8; have HO9 := Lib.hid (HO8.out.below hB8); have HB8 : Hid (Below W0.heap.size W0 w8) := HB7.out.trans (hB8.mono HB7.out.size); clear hr8 hB8)
      | (at_builtin; refine append_bytes rfl (.tmp 15) (.tmp 17) rfl W0.heap.size 10 c7 4 4 k7 (some ⟨g8, 0, none⟩) hd (l4 s) rfl HO9.out rfl HR8.out rfl (fun h => by cases h) (by omega) HB8.out.size ?_; intro k9 c9 w9 ho9 hB9; have HE : Hid (R1 w 14 (hd ++ l4 s) (.returned (.slice k9 14 c9)) w9) := (⟨k9, c9, rfl, ho9.base HB0.out.size, HB0.out.trans ((HB8.out.trans hB9).mono HB0.out.size)⟩); clear ho9 hB9))
    go_ret
    exact HE.out

end Go.Proofs.YtmbkgjiofkggcaaDoor
