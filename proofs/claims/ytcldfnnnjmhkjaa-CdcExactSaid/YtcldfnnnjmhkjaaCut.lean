/-
  The contract of Cut.
-/
import Derived.Test.YtcldfnnnjmhkjaaNext
namespace Go.Proofs.Ytcldfnnnjmhkjaa
open Go.RowKit
set_option linter.unusedVariables false

/-- The values vs read as the texts D, one by one. -/
def Reads (w : World) (vs : List Value) (D : List (List Int)) : Prop :=
  vs.length = D.length ∧ ∀ r, r < D.length → ∃ g c, vs.getD r undef = .slice (some ⟨g, 0, none⟩) (D.getD r []).length c ∧ (D.getD r []).length ≤ c ∧ c ≤ maxLen ∧ Rd w (some ⟨g, 0, none⟩) (D.getD r []) ∧ ∃ cur, w.heap[g]? = some (.cells cur 5 (0, 0))
theorem Reads.nil (w : World) : Reads w [] [] := ⟨rfl, fun r hr => by simp at hr⟩
theorem Reads.below {w w' : World} {vs : List Value} {D : List (List Int)} (h : Reads w vs D) (hB : Below w.heap.size w w') : Reads w' vs D :=
  ⟨h.1, fun r hr => by obtain ⟨g, c, h1, h2, h3, h4, cur, h5⟩ := h.2 r hr; exact ⟨g, c, h1, h2, h3, h4.below hB, cur, by rw [hB.block g (Array.getElem?_eq_some_iff.1 h5).1, h5]⟩⟩
theorem Reads.snoc {w : World} {vs : List Value} {D : List (List Int)} {g c : Nat} {d : List Int} (h : Reads w vs D) (h1 : d.length ≤ c) (h2 : c ≤ maxLen) (h3 : Rd w (some ⟨g, 0, none⟩) d) (h5 : ∃ cur, w.heap[g]? = some (.cells cur 5 (0, 0))) :
    Reads w (vs ++ [.slice (some ⟨g, 0, none⟩) d.length c]) (D ++ [d]) := by
  refine ⟨by simp [h.1], fun r hr => ?_⟩
  simp at hr
  by_cases e : r < D.length
  · obtain ⟨g', c', q1, q2, q3, q4, q5⟩ := h.2 r e
    have hv := h.1
    refine ⟨g', c', ?_, ?_, q3, ?_, q5⟩
    · simp only [List.getD] at q1 ⊢
      rw [List.getElem?_append_left (by omega), List.getElem?_append_left e]; exact q1
    · simp only [List.getD] at q2 ⊢
      rw [List.getElem?_append_left e]; exact q2
    · simp only [List.getD] at q4 ⊢
      rw [List.getElem?_append_left e]; exact q4
  · have e' : r = D.length := by omega
    subst e'
    have hv := h.1
    refine ⟨g, c, ?_, ?_, h2, ?_, h5⟩
    · simp only [List.getD]
      rw [List.getElem?_append_right (by omega), List.getElem?_append_right (Nat.le_refl _), hv]; simp
    · simp only [List.getD]
      rw [List.getElem?_append_right (Nat.le_refl _)]; simpa using h1
    · simp only [List.getD]
      rw [List.getElem?_append_right (Nat.le_refl _)]; simpa using h3

/-- A slice's length. -/
def lenOf : Value → Nat | .slice _ n _ => n | _ => 0
theorem owns_below {w w' : World} {base e n : Nat} {v : Value} {xs : List Value} (h : w.ownsRow base e 1 v n xs) (hB : Below w.heap.size w w') : w'.ownsRow base e 1 v n xs := by
  obtain ⟨h1, h2⟩ := h
  refine ⟨h1, ?_⟩
  rcases h2 with h2 | ⟨g, cap, cur, q1, q2, q3, q4⟩
  · exact .inl h2
  · exact .inr ⟨g, cap, cur, q1, q2, by rw [hB.block g (Array.getElem?_eq_some_iff.1 q3).1, q3], q4⟩

theorem own_ge {w : World} {base e n : Nat} {v : Value} {xs : List Value} (h : w.ownsRow base e 1 v n xs) : ∀ k, v.ownBlock = some k → base ≤ k := by
  intro k hk
  rcases h.2 with ⟨h2, _⟩ | ⟨g, cap, cur, q1, q2, q3, q4⟩
  · subst h2; cases hk
  · subst q1; cases hk; exact q2
/-- Behind an append to the list of them the texts read as they did. -/
theorem Reads.grown {w w' : World} {vs : List Value} {D : List (List Int)} {base n : Nat} {v : Value} {xs : List Value} (h : Reads w vs D) (ho : w.ownsRow base 22 1 v n xs) (hg : w.grownBy w' v.ownBlock) : Reads w' vs D := by
  refine ⟨h.1, fun r hr => ?_⟩
  obtain ⟨g, c, h1, h2, h3, h4, cur, h5⟩ := h.2 r hr
  have hlt := (Array.getElem?_eq_some_iff.1 h5).1
  have hne : some g ≠ v.ownBlock := by
    intro e
    rcases ho.2 with ⟨q, _⟩ | ⟨g', cap, cur', q1, q2, q3, q4⟩
    · subst q; cases e
    · subst q1
      cases e
      rw [q3] at h5
      simp at h5
  have hb := hg.block g hlt hne
  refine ⟨g, c, h1, h2, h3, ?_, cur, by rw [hb, h5]⟩
  rcases h4 with h4 | ⟨b, o, ha, hc⟩
  · exact .inl h4
  · cases ha
    exact .inr ⟨g, 0, rfl, fun j hj => by rw [← hc j hj]; exact World.cell?_of_block hb⟩

/-- WHAT Cut LEAVES: the chunks, one by one. -/
def CutPost (w : World) (zs : List Int) (e : Ending) (w' : World) : Prop :=
  ∃ v vs, e = .returned (.tuple #[v, .int .i64 0]) ∧ w'.ownsRow w.heap.size 22 1 v (cutL zs).length vs ∧ Reads w' vs (cutL zs) ∧ Below w.heap.size w w'

theorem cut_long (ao : Option Addr) (len cap : Nat) (w : World) (h : 32768 < len) :
    Calls Try.prog 14 #[.slice ao len cap] w fun e w' => e = .returned (.tuple #[.slice none 0 0, .int .i64 2]) ∧ w = w' := by
  have d1 : decide (32768 < (len : Int)) = true := decide_eq_true (by omega)
  go_enter Try.func14, Try.ntmps14
  go_wp2
  go_ret2
  exact ⟨rfl, rfl⟩

set_option maxHeartbeats 4000000 in
theorem cut_any (ao : Option Addr) (len cap : Nat) (zs : List Int) (w : World) (hl : zs.length = len) (hlc : len ≤ cap) (hcm : cap ≤ maxLen) (hm : len ≤ 32768) (hr : Rd w ao zs) (hz : Bts zs) :
    Calls Try.prog 14 #[.slice ao len cap] w (CutPost w zs) := by
  obtain ⟨i0, hi, hz0, hz1, hz2⟩ := info_parts Try.info22
  have d1 : decide (32768 < (len : Int)) = false := decide_eq_false (by omega)
  have HR := Lib.hid hr; have HZ := Lib.hid hz; have HL := Lib.hid hl; have HCM := Lib.hid hcm
  clear hr hz hl hcm
  go_enter Try.func14, Try.ntmps14
  go_wp2_with (first | (go_at_call 17; fail))
  go_loopw [0, 4] (fun b v wr => ∃ (n : Nat) (D : List (List Int)) (R : List Int) (vs : List Value) (bo : Option Addr) (bc : Nat), b = .slice bo n bc ∧ R.length = n ∧ n ≤ bc ∧ bc ≤ maxLen ∧ n + D.length ≤ 32768 ∧ Rd w bo R ∧ Bts R ∧ cutL zs = D ++ cutL R ∧
      wr.ownsRow w.heap.size 22 1 v D.length vs ∧ Reads wr vs D ∧ Below w.heap.size w wr) (fun b _ _ => lenOf b)
  case atStart => exact ⟨len, [], zs, [], ao, cap, rfl, HL.out, hlc, HCM.out, by simpa using hm, HR.out, HZ.out, rfl, World.ownsRow_nil _ _ _ _, Reads.nil _, Below.refl _ _⟩
  case round =>
    obtain ⟨n, D, R, vs, bo, bc, rfl, hRl, hnc, hbc, hn2, hRd, hRz, hcut, hown, hreads, hB⟩ := hrel
    have HRd := Lib.hid hRd; have HRz := Lib.hid hRz; have HCUT := Lib.hid hcut; have HOWN := Lib.hid hown; have HRS := Lib.hid hreads; have HB := Lib.hid hB; have HRL := Lib.hid hRl; have HBC := Lib.hid hbc
    clear hRd hRz hcut hown hreads hB hRl hbc
    by_cases h0 : 0 < n
    · obtain ⟨b, o, rfl, hcc⟩ := HRd.out.at (by rw [HRL.out]; exact h0)
      clear hcc
      have d2 : decide (0 < n) = true := decide_eq_true h0
      have HN := Lib.hid (next_rd (some ⟨b, o, none⟩) n bc R wr HRL.out (by omega) (HRd.out.below HB.out) HRz.out)
      have hp := nx_pos R (by rw [HRL.out]; exact h0)
      have hx := nx_le R
      rw [HRL.out] at hx
      obtain ⟨m, hmm⟩ : ∃ m, m = nx R := ⟨_, rfl⟩
      rw [← hmm] at HN hp hx
      have HM := Lib.hid hmm
      clear hmm
      have HCL := Lib.hid (cloneB ⟨b, o, none⟩ m bc (R.take m) wr (by simp; have := HRL.out; omega) hp (by omega) ((HRd.out.below HB.out).take m))
      by_cases hbm : bc = m
      · obtain rfl : m = n := by omega
        obtain rfl : m = bc := hbm.symm
        go_wp2_with (first
          | (go_at_call 17; refine HN.out.mono ?_; rintro e w1 ⟨rfl, rfl⟩)
          | (go_at_call 32; refine HCL.out.mono ?_; rintro e w2 ⟨g, c, hg, hc1, hc2, rfl, hrd2, hB2, hcu2⟩; have HCU2 := Lib.hid hcu2; clear hcu2; have HRD2 := Lib.hid hrd2; have HO2 := Lib.hid (owns_below HOWN.out hB2); have HB2 := Lib.hid hB2; clear hrd2 hB2)
          | (at_builtin; (refine wpList_append_own _ rfl (.tmp 14) (.tmp 19) 24 rfl w.heap.size 22 i0 (.slice none 0 0) 1 24 Try.underlying24 hi hz0 hz1 hz2 rfl (by decide) _ D.length vs rfl (HO2.out.alloc _) ⟨w2.heap.size, 0, none⟩ 1 1 [.slice (some ⟨g, 0, none⟩) m c] rfl rfl ?c1 ?c2 ?c3 ?c4 ?c5 ?_)))
        case c1 =>
          intro j u hu
          match j, hu with
          | 0, hu => simp at hu; subst hu; simp [Addr.add, World.cell?_alloc_new]
        case c2 => intro u hu; simp at hu; subst hu; rfl
        case c3 => unfold maxLen; omega
        case c4 => omega
        case c5 => have := HB.out.size; have := HB2.out.size; simp; omega
        intro v' w3 hown3 hgrow3 hnil
        have hbW : Below w2.heap.size w2 (w2.alloc (Obj.cells #[Value.slice (some ⟨g, 0, none⟩) m c] 22)) := (Below.refl _ _).alloc (Nat.le_refl _) _
        have hrs := (((HRS.out.below HB2.out).snoc (g := g) (c := c) (d := R.take m) (by simp; omega) hc2 HRD2.out HCU2.out).below hbW).grown (HO2.out.alloc _) hgrow3
        have hlen : (R.take m).length = m := by simp; have := HRL.out; omega
        rw [hlen] at hrs
        have b1 := HB.out.trans (HB2.out.mono HB.out.size)
        have HB3 := Lib.hid (Below.grown (b1.trans (hbW.mono b1.size)) hgrow3 (by have := b1.size; simp; omega) (own_ge HO2.out))
        have HRS3 := Lib.hid hrs; have HO3 := Lib.hid hown3
        clear hown3 hgrow3 hnil hbW hrs hlen b1
        go_wp2
        go_roundw
        case rel => exact ⟨0, D ++ [R.take m], R.drop m, vs ++ [.slice (some ⟨g, 0, none⟩) m c], _, _, rfl, by simp; have := HRL.out; omega, Nat.zero_le _, by omega, by simp; omega, .inl (List.eq_nil_of_length_eq_zero (by simp; have := HRL.out; omega)), HRz.out.drop m, by rw [HCUT.out, cutL_cons R (by rw [HRL.out]; exact h0), ← HM.out]; simp, by simpa using HO3.out, HRS3.out, HB3.out⟩
        case measure => simp [lenOf]; omega
      · go_wp2_with (first
          | (go_at_call 17; refine HN.out.mono ?_; rintro e w1 ⟨rfl, rfl⟩)
          | (go_at_call 32; refine HCL.out.mono ?_; rintro e w2 ⟨g, c, hg, hc1, hc2, rfl, hrd2, hB2, hcu2⟩; have HCU2 := Lib.hid hcu2; clear hcu2; have HRD2 := Lib.hid hrd2; have HO2 := Lib.hid (owns_below HOWN.out hB2); have HB2 := Lib.hid hB2; clear hrd2 hB2)
          | (at_builtin; (refine wpList_append_own _ rfl (.tmp 14) (.tmp 19) 24 rfl w.heap.size 22 i0 (.slice none 0 0) 1 24 Try.underlying24 hi hz0 hz1 hz2 rfl (by decide) _ D.length vs rfl (HO2.out.alloc _) ⟨w2.heap.size, 0, none⟩ 1 1 [.slice (some ⟨g, 0, none⟩) m c] rfl rfl ?c1 ?c2 ?c3 ?c4 ?c5 ?_)))
        case c1 =>
          intro j u hu
          match j, hu with
          | 0, hu => simp at hu; subst hu; simp [Addr.add, World.cell?_alloc_new]
        case c2 => intro u hu; simp at hu; subst hu; rfl
        case c3 => unfold maxLen; omega
        case c4 => omega
        case c5 => have := HB.out.size; have := HB2.out.size; simp; omega
        intro v' w3 hown3 hgrow3 hnil
        have hbW : Below w2.heap.size w2 (w2.alloc (Obj.cells #[Value.slice (some ⟨g, 0, none⟩) m c] 22)) := (Below.refl _ _).alloc (Nat.le_refl _) _
        have hrs := (((HRS.out.below HB2.out).snoc (g := g) (c := c) (d := R.take m) (by simp; omega) hc2 HRD2.out HCU2.out).below hbW).grown (HO2.out.alloc _) hgrow3
        have hlen : (R.take m).length = m := by simp; have := HRL.out; omega
        rw [hlen] at hrs
        have b1 := HB.out.trans (HB2.out.mono HB.out.size)
        have HB3 := Lib.hid (Below.grown (b1.trans (hbW.mono b1.size)) hgrow3 (by have := b1.size; simp; omega) (own_ge HO2.out))
        have HRS3 := Lib.hid hrs; have HO3 := Lib.hid hown3
        clear hown3 hgrow3 hnil hbW hrs hlen b1
        go_wp2
        go_roundw
        case rel => exact ⟨n - m, D ++ [R.take m], R.drop m, vs ++ [.slice (some ⟨g, 0, none⟩) m c], some ⟨b, o + m, none⟩, bc - m, rfl, by simp; have := HRL.out; omega, by omega, by have := HBC.out; omega, by simp; omega, Rd.drop HRd.out m, HRz.out.drop m, by rw [HCUT.out, cutL_cons R (by rw [HRL.out]; exact h0), ← HM.out]; simp, by simpa using HO3.out, HRS3.out, HB3.out⟩
        case measure => simp [lenOf]; omega
    · obtain rfl : n = 0 := by omega
      obtain rfl := List.eq_nil_of_length_eq_zero HRL.out
      go_wp2
      go_ret2
      refine ⟨_, vs, rfl, ?_, ?_, HB.out⟩
      · rw [HCUT.out, cutL_nil, List.append_nil]; exact HOWN.out
      · rw [HCUT.out, cutL_nil, List.append_nil]; exact HRS.out

end Go.Proofs.Ytcldfnnnjmhkjaa
