/-
  The contracts of Next and of the library's Clone of bytes.
-/
import Derived.Test.YtcldfnnnjmhkjaaChunks
namespace Go.Proofs.Ytcldfnnnjmhkjaa
open Go.RowKit
set_option linter.unusedVariables false

set_option maxHeartbeats 2000000 in
theorem next_lit (b o len cap : Nat) (zs : List Int) (w : World) (hl : zs.length = len) (hm : len ≤ 1000000) (hr : ∀ j, j < len → w.cell? ⟨b, o + j, none⟩ = some (.int .u8 (zs.getD j 0))) (hz : Bts zs) :
    Calls Try.prog 17 #[.slice (some ⟨b, o, none⟩) len cap] w fun e w' => e = .returned (.int .i64 (nx zs)) ∧ w = w' := by
  have HR := Lib.hid hr; have HZ := Lib.hid hz; have HL := Lib.hid hl
  clear hr hz hl
  go_enter Try.func17, Try.ntmps17
  go_wp2
  go_loop [3, 9] (fun g i => ∃ k : Nat, k ≤ len ∧ i = .int .i64 k ∧ g = .int .u32 (rg (zs.take k)) ∧ ∀ j, j < k → stops zs (j + 1) = false) (fun _ i => len - (intOf i).toNat)
  case atStart => exact ⟨0, Nat.zero_le _, rfl, rfl, fun j hj => by omega⟩
  case round =>
    obtain ⟨k, hk, rfl, rfl, hno⟩ := hrel
    have HNO := Lib.hid hno
    have hx := rg_bd zs k
    clear hno
    by_cases hlt : k < len
    · have hcell := HR.out k hlt
      have hb := HZ.out k (by rw [HL.out]; exact hlt)
      have HRG := Lib.hid (rg_take zs k (by rw [HL.out]; exact hlt))
      generalize zs.getD k 0 = c at hcell hb HRG
      obtain ⟨x, hxx⟩ : ∃ x, x = rg (zs.take k) := ⟨_, rfl⟩
      rw [← hxx] at HRG hx ⊢
      have HXX := Lib.hid hxx
      clear hxx
      by_cases hst : stops zs (k + 1) = true
      · have HN := Lib.hid (nx_stop zs (k + 1) (by omega) (by rw [HL.out]; exact hlt) hst (fun j hj => HNO.out j (by omega)))
        by_cases h64 : k + 1 = 64
        · have hk63 : k = 63 := by omega
          have d1 : ((k : Int) + 1 == 64) = true := beq_iff_eq.2 (by omega)
          clear h64 hk63 hst
          go_wp2
          go_ret
          exact ⟨by rw [HN.out]; rfl, rfl⟩
        · have d1 : ((k : Int) + 1 == 64) = false := beq_eq_false_iff_ne.2 (by omega)
          have hs := hst
          unfold stops at hs
          simp only [Bool.or_eq_true, beq_iff_eq, Bool.and_eq_true, decide_eq_true_eq] at hs
          have h8 : 8 ≤ k + 1 := by omega
          have hz' : rg (zs.take (k + 1)) / 268435456 = 0 := by
            rcases hs with h | h
            · exact absurd h h64
            · exact h.2
          rw [HRG.out] at hz'
          have d2 : decide ((8 : Int) ≤ (k : Int) + 1) = true := decide_eq_true (by omega)
          have d3 : ((x * 2 + (c + 1) * 2654435761) % 4294967296 / 268435456 == 0) = true := beq_iff_eq.2 hz'
          clear h64 hs h8 hz' hst
          go_wp2
          go_ret
          exact ⟨by rw [HN.out]; rfl, rfl⟩
      · have hst' : stops zs (k + 1) = false := by simpa using hst
        have HST := Lib.hid hst'
        have h64 : k + 1 ≠ 64 := fun h => by rw [h, stops_64] at hst'; cases hst'
        have d1 : ((k : Int) + 1 == 64) = false := beq_eq_false_iff_ne.2 (by omega)
        by_cases h8 : 8 ≤ k + 1
        · have hs := hst'
          unfold stops at hs
          simp only [Bool.or_eq_false_iff, Bool.and_eq_false_iff, beq_eq_false_iff_ne, decide_eq_false_iff_not] at hs
          have hz' : ¬ rg (zs.take (k + 1)) / 268435456 = 0 := by
            rcases hs.2 with h | h
            · exact absurd h8 h
            · exact h
          rw [HRG.out] at hz'
          have d2 : decide ((8 : Int) ≤ (k : Int) + 1) = true := decide_eq_true (by omega)
          have d3 : ((x * 2 + (c + 1) * 2654435761) % 4294967296 / 268435456 == 0) = false := beq_eq_false_iff_ne.2 hz'
          clear h64 hs h8 hz' hst hst'
          go_wp2
          go_round
          case rel => exact ⟨k + 1, by omega, by go_num, by first | (rw [HRG.out]; done) | (rw [HRG.out]; go_num), fun j hj => by by_cases e : j = k; (rw [e]; exact HST.out); exact HNO.out j (by omega)⟩
          case measure => simp [intOf]; omega
        · have d2 : decide ((8 : Int) ≤ (k : Int) + 1) = false := decide_eq_false (by omega)
          clear h64 h8 hst hst'
          go_wp2
          go_round
          case rel => exact ⟨k + 1, by omega, by go_num, by first | (rw [HRG.out]; done) | (rw [HRG.out]; go_num), fun j hj => by by_cases e : j = k; (rw [e]; exact HST.out); exact HNO.out j (by omega)⟩
          case measure => simp [intOf]; omega
    · go_wp2
      go_ret
      have : k = len := by omega
      subst this
      have e := nx_none zs (fun j hj => HNO.out j (by rw [HL.out] at hj; exact hj))
      rw [HL.out] at e
      exact ⟨by rw [e]; rfl, rfl⟩

theorem next_empty (ao : Option Addr) (cap : Nat) (w : World) : Calls Try.prog 17 #[.slice ao 0 cap] w fun e w' => e = .returned (.int .i64 0) ∧ w = w' := by
  go_enter Try.func17, Try.ntmps17
  go_wp2
  refine wp_loop_rounds 1 ?_
  rw [rounds_succ]
  go_wp2
  go_ret
  exact ⟨rfl, rfl⟩

/-- The first chunk's length, of whatever bytes. -/
theorem next_rd (ao : Option Addr) (len cap : Nat) (zs : List Int) (w : World) (hl : zs.length = len) (hm : len ≤ 1000000) (hr : Rd w ao zs) (hz : Bts zs) :
    Calls Try.prog 17 #[.slice ao len cap] w fun e w' => e = .returned (.int .i64 (nx zs)) ∧ w = w' := by
  by_cases h0 : 0 < len
  · obtain ⟨b, o, rfl, hc⟩ := hr.at (by omega)
    exact next_lit b o len cap zs w hl hm (fun j hj => hc j (by omega)) hz
  · obtain rfl : len = 0 := by omega
    obtain rfl := List.eq_nil_of_length_eq_zero hl
    exact next_empty ao cap w

theorem Try.info5 : (Try.prog.info? 5).map (fun i => (i.zero, i.size, i.bytes)) = some (some (.int .u8 0), 1, 1) := by kernel_rfl
theorem Try.info22 : (Try.prog.info? 22).map (fun i => (i.zero, i.size, i.bytes)) = some (some (.slice none 0 0), 1, 24) := by kernel_rfl

/-- What Clone leaves of bytes. -/
def CloneB (w : World) (n : Nat) (zs : List Int) (e : Ending) (w' : World) : Prop :=
  ∃ g c, w.heap.size ≤ g ∧ n ≤ c ∧ c ≤ maxLen ∧ e = .returned (.slice (some ⟨g, 0, none⟩) n c) ∧ Rd w' (some ⟨g, 0, none⟩) zs ∧ Below w.heap.size w w' ∧ ∃ cur, w'.heap[g]? = some (.cells cur 5 (0, 0))

theorem cloneB (ad : Addr) (n cap : Nat) (zs : List Int) (w : World) (hl : zs.length = n) (h0 : 0 < n) (hm : n ≤ 1000000) (h : Rd w (some ad) zs) :
    Calls Try.prog 32 #[.slice (some ad) n cap] w (CloneB w n zs) := by
  obtain ⟨i0, hi, hz0, hz1, hz2⟩ := info_parts Try.info5
  have q : ∀ (w : World) (a : Option Addr) (n c n' c' : Nat), (binOp .eql 22 (.slice a n c) (.slice none n' c')).run Try.prog w = .ok (.bool a.isNone) w := fun w a n c n' c' => Lib.run_eql_slice_nil w _ _ a n c n' c' Try.underlying22
  have H := Lib.hid h; have HL := Lib.hid hl
  have hown : (w.alloc (.cells #[] 5)).ownsRow w.heap.size 5 1 (.slice (some ⟨w.heap.size, 0, none⟩) 0 0) 0 [] := World.ownsRow_lit (base := w.heap.size) (e := 5) (size := 1) w #[] 0 (Nat.le_refl _) (Nat.zero_le _) rfl
  have hB0 : Below w.heap.size w (w.alloc (.cells #[] 5)) := (Below.refl _ _).alloc (Nat.le_refl _) _
  have HO := Lib.hid hown; have HB0 := Lib.hid hB0
  clear h hl hown hB0
  go_enter Try.func32, Try.ntmps32
  go_wp2_with (at_builtin; refine wpList_append_own _ rfl (.tmp 5) (.tmp 6) 22 rfl w.heap.size 5 i0 (.int .u8 0) 1 1 Try.underlying22 hi hz0 hz1 hz2 rfl (by decide) _ 0 _ rfl HO.out ad n cap (zs.map (.int .u8)) rfl ?c0 ?c1 ?c2 ?c3 ?c4 ?c5 ?_)
  case c0 => simp [HL.out]
  case c1 => exact (H.out.below HB0.out).cells _ rfl
  case c2 => exact ints_oneCell _ _
  case c3 => unfold maxLen; omega
  case c4 => omega
  case c5 => simp
  intro v' w1 hown1 hgrow1 hnil
  have HB1 := Lib.hid (Below.grown HB0.out hgrow1 (by simp) (fun k h => by cases h; exact Nat.le_refl _))
  have hv : ∃ g c, w.heap.size ≤ g ∧ n ≤ c ∧ c ≤ maxLen ∧ v' = .slice (some ⟨g, 0, none⟩) n c ∧ Rd w1 (some ⟨g, 0, none⟩) zs ∧ ∃ cur, w1.heap[g]? = some (.cells cur 5 (0, 0)) := by
    rcases hown1.2 with ⟨h1, h2⟩ | ⟨g', cap', cur, h1, hge, hgc, hc1, hc2, _⟩
    · omega
    · subst h1
      exact ⟨g', cap', hge, by omega, hc2, rfl, Rd.of_owns hown1, cur, hgc⟩
  obtain ⟨g, c, hg, hc1, hc2, hv, hrd, hcur⟩ := hv
  have HCU := Lib.hid hcur
  rw [hv]
  have HRD := Lib.hid hrd
  clear hrd hown1 hgrow1 hnil hv hcur
  go_wp2
  go_ret
  exact ⟨g, c, hg, hc1, hc2, rfl, HRD.out, HB1.out, HCU.out⟩

end Go.Proofs.Ytcldfnnnjmhkjaa
