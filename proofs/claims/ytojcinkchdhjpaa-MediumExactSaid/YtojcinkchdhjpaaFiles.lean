/-
  The walk of MediumFiles.
-/
import Derived.Test.YtojcinkchdhjpaaMed8
namespace Go.Proofs.Ytojcinkchdhjpaa
open Go.RowKit
set_option linter.unusedVariables false

theorem marks_mono (ks : List Key) {i j : Nat} (h : i ≤ j) : marks (ks.take i) ≤ marks (ks.take j) := by
  unfold marks
  have : (ks.take i) = (ks.take j).take i := by rw [List.take_take, Nat.min_eq_left h]
  rw [this]
  exact List.Sublist.length_le (List.Sublist.filter _ (List.take_sublist _ _))
theorem marks_at (ks : List Key) {j : Nat} {x : Key} (h : ks[j]? = some x) : marks (ks.take (j + 1)) = marks (ks.take j) + if x.1 = 2 then 1 else 0 := by
  rw [List.take_add_one, h]; exact marks_snoc _ _
theorem rd_code (ks : List Key) (q : Nat) {x : Key} (h : ks[q]? = some x) : (rd ks q).1 = 15 ↔ x.1 = 2 := by
  unfold rd
  rw [if_pos (by omega), Int.toNat_natCast, h]
  unfold rc
  simp only
  by_cases h2 : x.1 = 2
  · simp [h2]
  · rw [if_neg h2]
    by_cases h3 : x.1 = 3 ∨ x.2.2 = true
    · rw [if_pos h3]; simp [h2]
    · rw [if_neg h3]; simp [h2]

/-- What the place behind the last file's mark is, when the i-th is asked for. -/
def LastAt (ks : List Key) (i : Nat) (l : Int) : Prop := (i = 0 ∧ l = -1) ∨ (1 ≤ i ∧ ∃ m : Nat, l = m ∧ m ≤ ks.length ∧ marks (ks.take m) + 1 = i ∧ (∀ j, marks (ks.take (j + 1)) = i → m < j + 1))

set_option maxRecDepth 100000 in
set_option maxHeartbeats 4000000 in
theorem files_walk (t : Tap) (w : World) (h : t.ok w) : Calls Try.prog 5 #[.agg #[.int .i64 t.p, .slice t.a t.n t.c]] w fun e w' => e = .returned (.bool true) ∧ Below w.heap.size w w' := by
  have hm := Nat.le_trans h.room h.cm
  unfold maxLen at hm
  obtain ⟨W0, hW0⟩ : ∃ W0, W0 = w.alloc (.cells #[.int .i64 t.p, .slice t.a t.n t.c] 24) := ⟨_, rfl⟩
  have hB0 : Below w.heap.size w W0 := by rw [hW0]; exact (Below.refl _ _).alloc (Nat.le_refl _) _
  have hx : W0.heap[w.heap.size]? = some (.cells #[.int .i64 t.p, .slice t.a t.n t.c] 24 (0, 0)) := by rw [hW0]; exact new_cell _ _ _
  have hV : ∀ V, Below W0.heap.size W0 V → t.ok V := fun V hV => (h.below hB0).below hV
  have hhe := fun V (hb : Below W0.heap.size W0 V) => heavy_any t V (hV V hb)
  have hrm := fun V (hb : Below W0.heap.size W0 V) => refmed_any t V (hV V hb)
  have HHE := Lib.hid hhe; have HRM := Lib.hid hrm; have HB0 := Lib.hid hB0; have HX := Lib.hid hx; have HW0 := Lib.hid hW0; have HV := Lib.hid hV
  clear hhe hrm hB0 hx hV
  obtain ⟨x0, x1, _⟩ := cells2 HX.out
  rw [hW0] at x0 x1
  clear hW0
  go_enter Try.func5, Try.ntmps5
  go_wp2_with (go_at_call 9; fail)
  rw [← HW0.out]
  refine (HHE.out W0 (Below.refl _ _)).mono ?_
  rintro e w1 ⟨he, hB1⟩
  clear x0 x1
  obtain ⟨x0, x1, _⟩ := cells2 (cells2at HX.out hB1)
  have HB1 := Lib.hid hB1
  clear hB1
  rcases he with rfl | ⟨rfl, h80, h300⟩
  · go_wp2
    go_ret
    exact ⟨rfl, HB0.out.trans (HB1.out.mono HB0.out.size)⟩
  clear h300
  have hr := HRM.out w1 HB1.out
  cases hg : goodK t.p t.ks with
  | false =>
    rw [hg] at hr
    have HR := Lib.hid hr
    clear hr hg
    go_wp2_with (go_at_call 12; refine HR.out.mono ?_; rintro e w2 ⟨rfl, hB2⟩; have HB2 := Lib.hid hB2; clear hB2)
    go_ret
    exact ⟨rfl, HB0.out.trans ((HB1.out.trans (HB2.out.mono HB1.out.size)).mono HB0.out.size)⟩
  | true =>
    rw [hg] at hr
    have HR := Lib.hid hr
    have hfs := fun V (hb : Below W0.heap.size W0 V) => files_any t V (HV.out V hb) hg
    have hfi := fun q (hq : q ≤ 1000000) V (hb : Below W0.heap.size W0 V) => file_any t q V (HV.out V hb) hg hq
    have hrd := fun q V (hb : Below W0.heap.size W0 V) => read_any t q V (HV.out V hb) hg
    obtain ⟨ks, hks⟩ : ∃ ks, ks = t.ks := ⟨_, rfl⟩
    have hkl : ks.length = t.n := by rw [hks]; unfold Tap.ks; rw [keys_len]; exact (HV.out W0 (Below.refl _ _)).len
    rw [← hks] at hfs hfi hrd
    obtain ⟨mk, hmk⟩ : ∃ mk, mk = marks ks := ⟨_, rfl⟩
    have hml : mk ≤ 80 := by rw [hmk]; have := marks_le ks; omega
    rw [← hmk] at hfs
    have HFS := Lib.hid hfs; have HFI := Lib.hid hfi; have HRD := Lib.hid hrd; have HMK := Lib.hid hmk; have HKL := Lib.hid hkl
    clear hr hg hfs hfi hrd hks hmk hkl
    obtain ⟨p, a, n, c, cs⟩ := t
    simp only at x0 x1 hm h80 HHE HRM HX HW0 HV HR HFS HFI HRD HKL ⊢
    go_wp2_with (first
      | (go_at_call 12; refine HR.out.mono ?_; rintro e w2 ⟨rfl, hB2⟩; have HB2 := Lib.hid (HB1.out.trans (hB2.mono HB1.out.size)); clear hB2 x0 x1; obtain ⟨x0, x1, _⟩ := cells2 (cells2at HX.out HB2.out))
      | (go_at_call 24; refine (HFS.out _ HB2.out).mono ?_; rintro e w3 ⟨rfl, hB3⟩; have HB3 := Lib.hid (HB2.out.trans (hB3.mono HB2.out.size)); clear hB3 x0 x1; obtain ⟨x0, x1, _⟩ := cells2 (cells2at HX.out HB3.out)))
    clear x0 x1
    go_loopw [4, 5] (fun l i wr => ∃ (k : Nat) (lv : Int), k ≤ mk + 1 ∧ i = .int .i64 k ∧ l = .int .i64 lv ∧ LastAt ks k lv ∧ Below W0.heap.size W0 wr) (fun _ i _ => mk + 1 - (intOf i).toNat)
    case atStart => exact ⟨0, -1, Nat.zero_le _, rfl, rfl, .inl ⟨rfl, rfl⟩, HB3.out⟩
    case round =>
      obtain ⟨k, lv, hk, rfl, rfl, hla, hB⟩ := hrel
      have HLA := Lib.hid hla; have HB := Lib.hid hB
      obtain ⟨x0, x1, _⟩ := cells2 (cells2at HX.out hB)
      clear hla hB
      by_cases hlt : k ≤ mk
      · have e1 : decide ((k : Int) ≤ (mk : Int)) = true := decide_eq_true (by omega)
        go_wp2_with (go_at_call 18; fail)
        refine (HFI.out k (by omega) wr HB.out).mono ?_
        rintro e w5 ⟨hB5, h5⟩
        have HB5 := Lib.hid (HB.out.trans (hB5.mono HB.out.size))
        clear hB5 x0 x1
        obtain ⟨x0, x1, _⟩ := cells2 (cells2at HX.out HB5.out)
        by_cases hk0 : k = 0
        · subst hk0
          have hlv : lv = -1 := by
            rcases HLA.out with ⟨_, h⟩ | ⟨h, _⟩
            · exact h
            · omega
          subst hlv
          have he : e = .returned (.tuple #[.int .i64 0, .int .i64 0]) := by
            rcases h5 with ⟨_, h⟩ | ⟨h, _⟩ | ⟨h, _⟩
            · exact h
            · omega
            · omega
          subst he
          have d1 : decide ((n : Int) < 0) = false := decide_eq_false (by omega)
          clear h5 e1 hlt hk
          rw [show ((0 : Nat) : Int) = 0 from rfl]
          go_wp2
          go_roundw
          case rel => exact ⟨1, 0, by omega, rfl, rfl, .inr ⟨Nat.le_refl _, 0, rfl, Nat.zero_le _, by simp [marks], fun j _ => Nat.succ_pos _⟩, HB5.out⟩
          case measure => simp [intOf]
        · have hj : ∃ j : Nat, j < ks.length ∧ marks (ks.take (j + 1)) = k ∧ marks (ks.take j) + 1 = k ∧ e = .returned (.tuple #[.int .i64 ((j : Int) + 1), .int .i64 0]) := by
            rcases h5 with ⟨h, _⟩ | ⟨_, h⟩ | ⟨_, h, _⟩
            · omega
            · exact h
            · rw [← HMK.out] at h; omega
          obtain ⟨j, hjl, hj1, hj2, rfl⟩ := hj
          obtain ⟨m, rfl, hm1, hm2, hm3⟩ : ∃ m : Nat, lv = m ∧ m ≤ ks.length ∧ marks (ks.take m) + 1 = k ∧ (∀ j, marks (ks.take (j + 1)) = k → m < j + 1) := by
            rcases HLA.out with ⟨h, _⟩ | ⟨_, h⟩
            · omega
            · exact h
          have hmj := hm3 j hj1
          have hjn : j < n := by rw [← HKL.out]; exact hjl
          have d1 : decide ((j : Int) + 1 ≤ (m : Int)) = false := decide_eq_false (by omega)
          have d2 : decide ((n : Int) < (j : Int) + 1) = false := decide_eq_false (by omega)
          have d3 : decide ((0 : Int) < (k : Int)) = true := decide_eq_true (by omega)
          have d3' : decide (0 < k) = true := decide_eq_true (by omega)
          have d4 : ((k : Int) == 0) = false := beq_eq_false_iff_ne.2 (by omega)
          have hmx : max (m : Int) 0 = (m : Int) := by omega
          have hjm : ks[j]? = some ks[j] := List.getElem?_eq_getElem hjl
          have hmark : ks[j].1 = 2 := by
            have := marks_at ks hjm
            by_cases h2 : ks[j].1 = 2
            · exact h2
            · rw [if_neg h2] at this; omega
          have hcode : (rd ks j).1 = 15 := (rd_code ks j hjm).2 hmark
          obtain ⟨r, hr⟩ : ∃ r, r = rd ks j := ⟨_, rfl⟩
          have hread := HRD.out j w5 HB5.out
          rw [← hr] at hread hcode
          have HREAD := Lib.hid hread; have HCODE := Lib.hid hcode; have HJ1 := Lib.hid hj1; have HJ2 := Lib.hid hj2; have HM2 := Lib.hid hm2; have HM3 := Lib.hid hm3
          clear h5 hj1 hj2 hm2 hm3 hmark hjm hread hcode hr
          go_wp2_with (go_at_call 17; fail)
          refine HREAD.out.mono ?_
          rintro e w6 ⟨ko, kc, rfl, how, hB6⟩
          have HB6 := Lib.hid (HB5.out.trans (hB6.mono HB5.out.size))
          rw [HCODE.out]
          clear how hB6 x0 x1
          obtain ⟨x0, x1, _⟩ := cells2 (cells2at HX.out HB6.out)
          generalize r.2.length = rl
          go_wp2
          obtain ⟨wo, rfl⟩ : ∃ wo : World, wo = wr := ⟨_, rfl⟩
          clear x0 x1
          go_loopw [10] (fun s wr => ∃ u : Nat, m ≤ u ∧ u ≤ j ∧ s = .int .i64 u ∧ Below W0.heap.size W0 wr) (fun s _ => j - (intOf s).toNat)
          case atStart => exact ⟨m, Nat.le_refl _, by omega, rfl, HB6.out⟩
          case round =>
            obtain ⟨u, hu1, hu2, rfl, hB⟩ := hrel
            have HBU := Lib.hid hB
            obtain ⟨x0, x1, _⟩ := cells2 (cells2at HX.out hB)
            clear hB
            by_cases hlu : u < j
            · have f1 : decide ((u : Int) < (j : Int)) = true := decide_eq_true (by omega)
              have hul : u < ks.length := by omega
              have hum : ks[u]? = some ks[u] := List.getElem?_eq_getElem hul
              have hnot : ks[u].1 ≠ 2 := fun h2 => by
                have h3 := marks_at ks hum
                rw [if_pos h2] at h3
                have h4 := marks_mono ks (show m ≤ u by omega)
                have h5 := marks_mono ks (show u + 1 ≤ j by omega)
                have h6 := HM2.out
                have h7 := HJ2.out
                omega
              have hcode : (rd ks u).1 ≠ 15 := fun h => hnot ((rd_code ks u hum).1 h)
              obtain ⟨ru, hru⟩ : ∃ ru, ru = rd ks u := ⟨_, rfl⟩
              have hread := HRD.out u wr HBU.out
              rw [← hru] at hread hcode
              obtain ⟨cd, zd⟩ := ru
              have f2 : (cd == 15) = false := beq_eq_false_iff_ne.2 hcode
              have HRU := Lib.hid hread
              clear hum hnot hcode hru hread
              go_wp2_with (go_at_call 17; fail)
              refine HRU.out.mono ?_
              rintro e w7 ⟨ko7, kc7, rfl, how, hB7⟩
              have HB7 := Lib.hid (HBU.out.trans (hB7.mono HBU.out.size))
              clear how hB7 x0 x1
              generalize zd.length = zl
              go_wp2
              go_roundw
              case rel => exact ⟨u + 1, by omega, by omega, by go_num, HB7.out⟩
              case measure => simp [intOf]; omega
            · have f1 : decide ((u : Int) < (j : Int)) = false := decide_eq_false (by omega)
              go_wp2
              go_roundw
              case rel => exact ⟨k + 1, (j : Int) + 1, by omega, by go_num, rfl, .inr ⟨by omega, j + 1, by omega, by omega, by rw [HJ1.out], fun j' hj' => by
                have h1 := HJ1.out
                have : ¬ j' + 1 ≤ j + 1 := fun h => by
                  have := marks_mono ks h
                  omega
                omega⟩, HBU.out⟩
              case measure => simp [intOf]; omega
      · obtain rfl : k = mk + 1 := by omega
        have e1 : decide (((mk + 1 : Nat) : Int) ≤ (mk : Int)) = false := decide_eq_false (by omega)
        have e1' : decide ((mk : Int) + 1 ≤ (mk : Int)) = false := decide_eq_false (by omega)
        have hfi := HFI.out (mk + 1) (by omega) wr HB.out
        rw [show ((mk + 1 : Nat) : Int) = (mk : Int) + 1 from rfl] at hfi
        have HF := Lib.hid hfi
        have hwk := fun V => wakes_any V
        have HWK := Lib.hid hwk
        clear hfi hwk
        rw [show ((mk + 1 : Nat) : Int) = (mk : Int) + 1 from rfl]
        go_wp2_with (go_at_call 18; fail)
        refine HF.out.mono ?_
        rintro e w5 ⟨hB5, h5⟩
        have HB5 := Lib.hid (HB.out.trans (hB5.mono HB.out.size))
        have he : e = .returned (.tuple #[.int .i64 0, .int .i64 8]) := by
          rcases h5 with ⟨h, _⟩ | ⟨_, j, hj, h1, h2, _⟩ | ⟨_, _, h⟩
          · omega
          · have := marks_mono ks (show j + 1 ≤ ks.length by omega)
            rw [List.take_length, ← HMK.out] at this
            omega
          · exact h
        subst he
        clear h5 hB5
        go_wp2_with (go_at_call 26; refine (HWK.out _).mono ?_; rintro e w6 ⟨rfl, hB6⟩; have HB6 := Lib.hid (HB5.out.trans (hB6.mono HB5.out.size)); clear hB6)
        go_ret
        exact ⟨rfl, HB0.out.trans (HB6.out.mono HB0.out.size)⟩

end Go.Proofs.Ytojcinkchdhjpaa
