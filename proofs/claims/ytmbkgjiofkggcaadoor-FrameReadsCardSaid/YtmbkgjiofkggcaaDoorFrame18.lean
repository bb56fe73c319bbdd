/-
  The document's own Join.
-/
import Derived.Test.YtmbkgjiofkggcaaDoorFrame17
import Derived.Test.YtmbkgjiofkggcaaDoorFrame2
namespace Go.Proofs.YtmbkgjiofkggcaaDoor
open Go.RowKit
set_option linter.unusedVariables false

set_option maxHeartbeats 2000000 in
theorem rjoin_any (ao : Option Addr) (n cap : Nat) (rs : List Rec) (w : World) (hl : rs.length = n) (hm : n ≤ 1000) (h : Rs w ao rs) :
    Calls Tryd.prog 22 #[.slice ao n cap] w fun e w' => (je rs = 0 ∧ RB w (frs rs).length (frs rs) e w') ∨ (je rs ≠ 0 ∧ e = .returned (.tuple #[.slice none 0 0, .int .i64 (je rs)]) ∧ Below w.heap.size w w') := by
  have HL := Lib.hid hl; have HR := Lib.hid h
  clear hl h
  go_enter Tryd.func22, Tryd.ntmps22
  go_wp2
  go_loopw [4, 5] (fun v i wr => ∃ (k : Nat) (ko : Option Addr) (kc L : Nat), k ≤ n ∧ i = .int .i64 k ∧ v = .slice ko L kc ∧ L = (frs (rs.take k)).length ∧ Ow wr w.heap.size ko L kc (frs (rs.take k)) ∧ je (rs.drop k) = je rs ∧ L ≤ 8013 * k ∧ Below w.heap.size w wr) (fun _ i _ => n - (intOf i).toNat)
  case atStart => exact ⟨0, none, 0, 0, Nat.zero_le _, rfl, rfl, rfl, ⟨rfl, Nat.le_refl _, Nat.zero_le _, World.ownsRow_nil _ _ _ _⟩, rfl, Nat.zero_le _, Below.refl _ _⟩
  case round =>
    obtain ⟨k, ko, kc, L, hk, rfl, rfl, hL, how, hje, hsz, hB⟩ := hrel
    have HLL := Lib.hid hL; have HOW := Lib.hid how; have HJE := Lib.hid hje; have HB := Lib.hid hB
    by_cases hlt : k < n
    · have d1 : decide ((k : Int) < (n : Int)) = true := decide_eq_true (by omega)
      have i1 : (0 : Int) ≤ (k : Int) := by omega
      have i2 : (k : Int) < (n : Int) := by omega
      have hlt' : k < rs.length := by rw [HL.out]; exact hlt
      obtain ⟨b, o, rfl, hc⟩ : ∃ b o, ao = some ⟨b, o, none⟩ ∧ _ := by
        rcases HR.out.below hB with h | h
        · rw [h] at hlt'; exact absurd hlt' (Nat.not_lt_zero _)
        · exact h
      obtain ⟨c0, c1, c2, hd⟩ := hc k hlt'
      obtain ⟨r, hr⟩ : ∃ r, r = rs[k] := ⟨_, rfl⟩
      rw [← hr] at c0 c1 c2 hd
      have hcat := frs_take rs k hlt'
      have hjd := je_drop rs k hlt'
      rw [← hr] at hcat hjd
      obtain ⟨q, hq⟩ : ∃ q, q = chk r.k r.s r.d.l := ⟨_, rfl⟩
      have hck := rrec_any r wr
      rw [← hq] at hck hjd
      have hfo := fun V (hV : Below wr.heap.size wr V) (h0 : q = 0) => rframe_ok r V (chk_ok (hq.symm.trans h0)).1 (chk_ok (hq.symm.trans h0)).2 (hd.below hV)
      have hdl : q = 0 → r.d.l ≤ 8000 := fun h0 => (chk_ok (hq.symm.trans h0)).2
      have hcells : ∀ V, Below wr.heap.size wr V → V.cell? ⟨b, o + k * 3, none⟩ = some (.int .i64 r.k) ∧ V.cell? ⟨b, o + k * 3 + 1, none⟩ = some (.int .i64 r.s) ∧ V.cell? ⟨b, o + k * 3 + 2, none⟩ = some (.slice r.d.a r.d.l r.d.c) := fun V hV =>
        ⟨by rw [hV.cell (cell_lt c0)]; exact c0, by rw [hV.cell (cell_lt c1)]; exact c1, by rw [hV.cell (cell_lt c2)]; exact c2⟩
      have hzd : r.d.z.length = r.d.l := hd.len
      obtain ⟨rk0, rs0, ⟨ra, rl, rc, rz0⟩⟩ := r
      simp only at c0 c1 c2 hck hfo hdl hcells hzd hcat
      change Calls Tryd.prog 16 #[.agg #[.int .i64 rk0, .int .i64 rs0, .slice ra rl rc]] wr _ at hck
      change ∀ V, Below wr.heap.size wr V → q = 0 → Calls Tryd.prog 20 #[.agg #[.int .i64 rk0, .int .i64 rs0, .slice ra rl rc]] V _ at hfo
      have HCK := Lib.hid hck; have HFO := Lib.hid hfo; have HDL := Lib.hid hdl; have HCS := Lib.hid hcells; have HZD := Lib.hid hzd; have HCAT := Lib.hid hcat; have HJD := Lib.hid hjd
      clear hck hfo hdl hcells hzd hcat hjd hq hr hd hc hL how hje hB
      go_wp2_with (go_at_call 16; fail)
      refine HCK.out.mono ?_
      rintro e w2 ⟨rfl, hB2⟩
      have HB2 := Lib.hid hB2
      have HWB2 : Hid (Below w.heap.size w w2) := HB.out.trans (hB2.mono HB.out.size)
      obtain ⟨e0, e1, e2⟩ := HCS.out w2 hB2
      have HOW2 := Lib.hid (HOW.out.below hB2)
      clear hB2 c0 c1 c2
      by_cases hq0 : q = 0
      · subst hq0
        have HF2 := Lib.hid (HFO.out w2 HB2.out rfl)
        have hdl0 := HDL.out rfl
        go_wp2_with (go_at_call 20; fail)
        refine HF2.out.mono ?_
        rintro e w3 ⟨k3, c3, rfl, ho3, hB3⟩
        have HO3 := Lib.hid ho3
        have HOW3 := Lib.hid (HOW2.out.below hB3)
        have HWB3 : Hid (Below w.heap.size w w3) := HWB2.out.trans (hB3.mono HWB2.out.size)
        clear ho3 hB3 e0 e1 e2
        go_wp2_with (at_builtin; refine append_bytes rfl (.tmp 21) (.tmp 26) rfl w.heap.size L kc (13 + rl) c3 ko k3 (frs (rs.take k)) (fr rk0 rs0 rz0) rfl HOW3.out rfl HO3.out.rd (ow_len HO3.out) (fun h => HO3.out.nil h) (by omega) HWB3.out.size ?_; intro ko4 kc4 w4 ho4 hB4; have HO4 := Lib.hid ho4; have HWB4 : Hid (Below w.heap.size w w4) := HWB3.out.trans hB4; clear ho4 hB4)
        go_roundw
        case rel =>
          refine ⟨k + 1, ko4, kc4, L + (13 + rl), by omega, by go_num, rfl, ?_, by rw [HCAT.out]; exact HO4.out, ?_, by omega, HWB4.out⟩
          · rw [HCAT.out, List.length_append, fr_len, HZD.out, ← HLL.out]
          · have := HJD.out
            rw [if_pos trivial] at this
            rw [← this]; exact HJE.out
        case measure => simp [intOf]; omega
      · have d2 : (q != 0) = true := by simpa using hq0
        have HE : Hid (je rs = q) := by
          have := HJD.out
          rw [if_neg hq0] at this
          rw [← this]; exact HJE.out.symm
        go_wp2
        go_ret2
        exact .inr ⟨by rw [HE.out]; exact hq0, by rw [HE.out]; rfl, HWB2.out⟩
    · have d1 : decide ((k : Int) < (n : Int)) = false := decide_eq_false (by omega)
      obtain rfl : n = k := by omega
      have ht : rs.take n = rs := List.take_of_length_le (by rw [HL.out]; exact Nat.le_refl _)
      have hd0 : rs.drop n = [] := List.drop_eq_nil_of_le (by rw [HL.out]; exact Nat.le_refl _)
      rw [ht] at HLL HOW
      have hz : je rs = 0 := by rw [← HJE.out, hd0]; rfl
      have HZ := Lib.hid hz; have HT2 := Lib.hid ht
      clear hL how hje hz ht hd0
      go_wp2
      go_ret2
      exact .inl ⟨HZ.out, ko, kc, by rw [← HLL.out]; rfl, by rw [← HLL.out]; exact HOW.out, HB.out⟩
end Go.Proofs.YtmbkgjiofkggcaaDoor
