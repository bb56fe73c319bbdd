/-
  The contract of the document's own Cut; the walk of CdcExact.
-/
import Derived.Test.YtcldfnnnjmhkjaaSpoil
namespace Go.Proofs.Ytcldfnnnjmhkjaa
open Go.RowKit
set_option linter.unusedVariables false

/-- What the document's Cut leaves. -/
def RCut (w : World) (zs : List Int) (e : Ending) (w' : World) : Prop :=
  ∃ lo lc, ∃ ps : List Part, e = .returned (.slice lo ps.length lc) ∧ ps.map (·.z) = cutL zs ∧ Ps w' lo ps ∧ Below w.heap.size w w'

set_option maxHeartbeats 1000000 in
theorem rcut_any (ao : Option Addr) (len cap : Nat) (zs : List Int) (w : World) (hl : zs.length = len) (hlc : len ≤ cap) (hcm : cap ≤ maxLen) (hm : len ≤ 32768) (hr : Rd w ao zs) (hz : Bts zs) (hnn : ao = none → cap = 0) :
    Calls Try.prog 16 #[.slice ao len cap] w (RCut w zs) := by
  obtain ⟨i0, hi, hz0, hz1, hz2⟩ := info_parts Try.info22
  have HR := Lib.hid hr; have HZ := Lib.hid hz; have HL := Lib.hid hl; have HCM := Lib.hid hcm; have HNN := Lib.hid hnn
  clear hr hz hl hcm hnn
  go_enter Try.func16, Try.ntmps16
  go_wp2_with (go_at_call 18; fail)
  go_loopw [0, 3] (fun b v wr => ∃ (n p : Nat) (ps : List Part) (R : List Int) (bo : Option Addr) (bc : Nat), b = .slice bo n bc ∧ R.length = n ∧ n ≤ bc ∧ bc ≤ maxLen ∧ n + p ≤ 32768 ∧ ps.length = p ∧ Rd w bo R ∧ Bts R ∧ cutL zs = ps.map (·.z) ++ cutL R ∧
      wr.ownsRow w.heap.size 22 1 v p (ps.map Part.v) ∧ (∀ q ∈ ps, Own1 wr q) ∧ Below w.heap.size w wr) (fun b _ _ => lenOf b)
  case atStart => exact ⟨len, 0, [], zs, ao, cap, rfl, HL.out, hlc, HCM.out, by omega, rfl, HR.out, HZ.out, rfl, World.ownsRow_nil _ _ _ _, fun q hq => (by cases hq), Below.refl _ _⟩
  case round =>
    obtain ⟨n, p, ps, R, bo, bc, rfl, hRl, hnc, hbc, hn2, hpl, hRd, hRz, hcut, hown, hqo, hB⟩ := hrel
    have HRd := Lib.hid hRd; have HRz := Lib.hid hRz; have HCUT := Lib.hid hcut; have HOWN := Lib.hid hown; have HQO := Lib.hid hqo; have HB := Lib.hid hB; have HRL := Lib.hid hRl; have HBC := Lib.hid hbc; have HPL := Lib.hid hpl
    clear hRd hRz hcut hown hqo hB hRl hbc hpl
    by_cases h0 : 0 < n
    · obtain ⟨b, o, rfl, hcc⟩ := HRd.out.at (by rw [HRL.out]; exact h0)
      clear hcc
      have d2 : decide (0 < n) = true := decide_eq_true h0
      have HN := Lib.hid (rnext_rd (some ⟨b, o, none⟩) n bc R wr HRL.out (by omega) (HRd.out.below HB.out) HRz.out)
      have hp := nx_pos R (by rw [HRL.out]; exact h0)
      have hx := nx_le R
      rw [HRL.out] at hx
      obtain ⟨m, hmm⟩ : ∃ m, m = nx R := ⟨_, rfl⟩
      rw [← hmm] at HN hp hx
      have HM := Lib.hid hmm
      clear hmm
      have HTW := Lib.hid (twin_any (some ⟨b, o, none⟩) m bc (R.take m) wr (by simp; have := HRL.out; omega) (by omega) ((HRd.out.below HB.out).take m) (fun h => by cases h))
      by_cases hbm : bc = m
      · obtain rfl : m = n := by omega
        obtain rfl : m = bc := hbm.symm
        go_wp2_with (first
          | (go_at_call 18; refine HN.out.mono ?_; rintro e w1 ⟨rfl, rfl⟩)
          | (go_at_call 13; refine HTW.out.mono ?_; rintro e w2 ⟨ko, kc, rfl, how, hB2⟩; have HO2 := Lib.hid (owns_below HOWN.out hB2); have HQ2 := Lib.hid (Own1.of_ow how (HRz.out.take m)); have HB2 := Lib.hid hB2; clear how hB2)
          | (at_builtin; (refine wpList_append_own _ rfl (.tmp 10) (.tmp 15) 24 rfl w.heap.size 22 i0 (.slice none 0 0) 1 24 Try.underlying24 hi hz0 hz1 hz2 rfl (by decide) _ p _ rfl (HO2.out.alloc _) ⟨w2.heap.size, 0, none⟩ 1 1 [.slice ko m kc] rfl rfl ?c1 ?c2 ?c3 ?c4 ?c5 ?_)))
        case c1 =>
          intro j u hu
          match j, hu with
          | 0, hu => simp at hu; subst hu; simp [Addr.add, World.cell?_alloc_new]
        case c2 => intro u hu; simp at hu; subst hu; rfl
        case c3 => unfold maxLen; omega
        case c4 => omega
        case c5 => have := HB.out.size; have := HB2.out.size; simp; omega
        intro v' w3 hown3 hgrow3 hnil
        have hbW : Below w2.heap.size w2 (w2.alloc (Obj.cells #[Value.slice ko m kc] 22)) := (Below.refl _ _).alloc (Nat.le_refl _) _
        have hoA := HO2.out.alloc (Obj.cells #[Value.slice ko m kc] 22)
        have hq3 : ∀ q ∈ ps ++ [⟨ko, m, kc, R.take m⟩], Own1 w3 q := by
          intro q hq
          rcases List.mem_append.1 hq with hq | hq
          · exact (((HQO.out q hq).below HB2.out).below hbW).grown (by decide) hoA hgrow3
          · simp only [List.mem_singleton] at hq
            rw [hq]
            exact (HQ2.out.below hbW).grown (by decide) hoA hgrow3
        have b1 := HB.out.trans (HB2.out.mono HB.out.size)
        have HB3 := Lib.hid (Below.grown (b1.trans (hbW.mono b1.size)) hgrow3 (by have := b1.size; simp; omega) (own_ge HO2.out))
        have HQ3 := Lib.hid hq3; have HO3 := Lib.hid hown3
        clear hown3 hgrow3 hnil hbW hq3 b1 hoA
        go_wp2
        go_roundw
        case rel => exact ⟨0, p + 1, ps ++ [⟨ko, m, kc, R.take m⟩], R.drop m, _, _, rfl, by simp; have := HRL.out; omega, Nat.zero_le _, by omega, by omega, by simp [HPL.out], .inl (List.eq_nil_of_length_eq_zero (by simp; have := HRL.out; omega)), HRz.out.drop m, by rw [HCUT.out, cutL_cons R (by rw [HRL.out]; exact h0), ← HM.out]; simp, by rw [List.map_append]; exact HO3.out, HQ3.out, HB3.out⟩
        case measure => simp [lenOf]; omega
      · 
        go_wp2_with (first
          | (go_at_call 18; refine HN.out.mono ?_; rintro e w1 ⟨rfl, rfl⟩)
          | (go_at_call 13; refine HTW.out.mono ?_; rintro e w2 ⟨ko, kc, rfl, how, hB2⟩; have HO2 := Lib.hid (owns_below HOWN.out hB2); have HQ2 := Lib.hid (Own1.of_ow how (HRz.out.take m)); have HB2 := Lib.hid hB2; clear how hB2)
          | (at_builtin; (refine wpList_append_own _ rfl (.tmp 10) (.tmp 15) 24 rfl w.heap.size 22 i0 (.slice none 0 0) 1 24 Try.underlying24 hi hz0 hz1 hz2 rfl (by decide) _ p _ rfl (HO2.out.alloc _) ⟨w2.heap.size, 0, none⟩ 1 1 [.slice ko m kc] rfl rfl ?c1 ?c2 ?c3 ?c4 ?c5 ?_)))
        case c1 =>
          intro j u hu
          match j, hu with
          | 0, hu => simp at hu; subst hu; simp [Addr.add, World.cell?_alloc_new]
        case c2 => intro u hu; simp at hu; subst hu; rfl
        case c3 => unfold maxLen; omega
        case c4 => omega
        case c5 => have := HB.out.size; have := HB2.out.size; simp; omega
        intro v' w3 hown3 hgrow3 hnil
        have hbW : Below w2.heap.size w2 (w2.alloc (Obj.cells #[Value.slice ko m kc] 22)) := (Below.refl _ _).alloc (Nat.le_refl _) _
        have hoA := HO2.out.alloc (Obj.cells #[Value.slice ko m kc] 22)
        have hq3 : ∀ q ∈ ps ++ [⟨ko, m, kc, R.take m⟩], Own1 w3 q := by
          intro q hq
          rcases List.mem_append.1 hq with hq | hq
          · exact (((HQO.out q hq).below HB2.out).below hbW).grown (by decide) hoA hgrow3
          · simp only [List.mem_singleton] at hq
            rw [hq]
            exact (HQ2.out.below hbW).grown (by decide) hoA hgrow3
        have b1 := HB.out.trans (HB2.out.mono HB.out.size)
        have HB3 := Lib.hid (Below.grown (b1.trans (hbW.mono b1.size)) hgrow3 (by have := b1.size; simp; omega) (own_ge HO2.out))
        have HQ3 := Lib.hid hq3; have HO3 := Lib.hid hown3
        clear hown3 hgrow3 hnil hbW hq3 b1 hoA
        go_wp2
        go_roundw
        case rel => exact ⟨n - m, p + 1, ps ++ [⟨ko, m, kc, R.take m⟩], R.drop m, some ⟨b, o + m, none⟩, bc - m, rfl, by simp; have := HRL.out; omega, by omega, by have := HBC.out; omega, by omega, by simp [HPL.out], Rd.drop HRd.out m, HRz.out.drop m, by rw [HCUT.out, cutL_cons R (by rw [HRL.out]; exact h0), ← HM.out]; simp, by rw [List.map_append]; exact HO3.out, HQ3.out, HB3.out⟩
        case measure => simp [lenOf]; omega
    · obtain rfl : n = 0 := by omega
      obtain rfl := List.eq_nil_of_length_eq_zero HRL.out
      have hcut := HCUT.out
      rw [cutL_nil, List.append_nil] at hcut
      obtain ⟨ko, kc, rfl, hps, h1, h2, h4⟩ := ps_of_owns HPL.out HOWN.out HQO.out
      have HE : Hid (RCut w zs (.returned (.slice ko p kc)) wr) := ⟨ko, kc, ps, by rw [HPL.out], hcut.symm, hps, HB.out⟩
      clear hcut hps h1 h2 h4
      go_wp2
      go_ret
      exact HE.out

end Go.Proofs.Ytcldfnnnjmhkjaa
