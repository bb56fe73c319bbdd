/-
  The contracts of the twin of rows, and of the comparison of rows.
-/
import Derived.Test.YtilpehbbjhignaaDoorSums
namespace Go.Proofs.YtilpehbbjhignaaDoor
open Go.RowKit
set_option linter.unusedVariables false

theorem Tryd.info25 : (Tryd.prog.info? 25).map (fun i => (i.zero, i.size, i.bytes)) = some (some (.slice none 0 0), 1, 24) := by kernel_rfl

/-- A part that lies in a row of bytes of its own. -/
def Own1 (w : World) (q : Part) : Prop := q.ok w ∧ (q.a = none ∨ ∃ g cur, q.a = some ⟨g, 0, none⟩ ∧ w.heap[g]? = some (.cells cur 5 (0, 0)))
theorem Own1.of_ow {w : World} {base n cap : Nat} {ao : Option Addr} {zs : List Int} (h : Ow w base ao n cap zs) (hz : Bts zs) : Own1 w ⟨ao, n, cap, zs⟩ := by
  refine ⟨h.part hz, ?_⟩
  rcases h.2.2.2.2 with ⟨q, _⟩ | ⟨g, c, cur, q, _, hg, _⟩
  · simp only [Value.slice.injEq] at q; exact .inl q.1
  · simp only [Value.slice.injEq] at q; exact .inr ⟨g, cur, q.1, hg⟩
theorem Own1.below {w w' : World} {q : Part} (h : Own1 w q) (hB : Below w.heap.size w w') : Own1 w' q := by
  refine ⟨h.1.below hB, ?_⟩
  rcases h.2 with h2 | ⟨g, cur, h2, h3⟩
  · exact .inl h2
  · exact .inr ⟨g, cur, h2, by rw [hB.block g (Array.getElem?_eq_some_iff.1 h3).1, h3]⟩
theorem Own1.grown {w w' : World} {q : Part} {base n e : Nat} {v : Value} {xs : List Value} (he : e ≠ 5) (h : Own1 w q) (ho : w.ownsRow base e 1 v n xs) (hg : w.grownBy w' v.ownBlock) : Own1 w' q := by
  rcases h.2 with h2 | ⟨g, cur, h2, h3⟩
  · have hz : q.z = [] := by
      rcases h.1.rd with h4 | ⟨b, o, h4, _⟩
      · exact h4
      · rw [h2] at h4; cases h4
    exact ⟨⟨.inl hz, h.1.len, h.1.bts, h.1.small, h.1.nil⟩, .inl h2⟩
  · have hlt := (Array.getElem?_eq_some_iff.1 h3).1
    have hne : some g ≠ v.ownBlock := by
      intro e'
      rcases ho.2 with ⟨q', _⟩ | ⟨g', cap, cur', q1, q2, q3, q4⟩
      · subst q'; cases e'
      · subst q1
        cases e'
        rw [q3] at h3
        simp only [Option.some.injEq, Obj.cells.injEq] at h3
        exact he h3.2.1
    have hb := hg.block g hlt hne
    refine ⟨⟨?_, h.1.len, h.1.bts, h.1.small, h.1.nil⟩, .inr ⟨g, cur, h2, by rw [hb, h3]⟩⟩
    rcases h.1.rd with h4 | ⟨b, o, ha, hc⟩
    · exact .inl h4
    · rw [h2] at ha
      cases ha
      exact .inr ⟨g, 0, h2, fun j hj => by rw [← hc j hj]; exact World.cell?_of_block hb⟩

theorem flat_eq (ps : List Part) : flat ps = (ps.map (·.z)).flatten := by simp [flat, List.flatMap_def]
theorem flat_of {ps qs : List Part} (h : qs.map (·.z) = ps.map (·.z)) : flat qs = flat ps := by rw [flat_eq, flat_eq, h]

/-- WHAT TwinRows LEAVES. -/
def TwinsPost (w : World) (n : Nat) (ps : List Part) (e : Ending) (w' : World) : Prop :=
  ∃ ko kc, ∃ qs : List Part, e = .returned (.slice ko n kc) ∧ qs.length = n ∧ qs.map (·.z) = ps.map (·.z) ∧ Ps w' ko qs ∧ n ≤ kc ∧ kc ≤ maxLen ∧ (ko = none → kc = 0) ∧ Below w.heap.size w w'

theorem ps_of_owns {w : World} {base n : Nat} {v : Value} {qs : List Part} (hl : qs.length = n) (h : w.ownsRow base 25 1 v n (qs.map Part.v)) (hq : ∀ q ∈ qs, Own1 w q) :
    ∃ ko kc, v = .slice ko n kc ∧ Ps w ko qs ∧ n ≤ kc ∧ kc ≤ maxLen ∧ (ko = none → kc = 0) := by
  rcases h.2 with ⟨q, hn⟩ | ⟨g, c, cur, q, _, _, q1, q2, _⟩
  · subst q; subst hn
    exact ⟨none, 0, rfl, .inl (List.eq_nil_of_length_eq_zero hl), Nat.le_refl _, Nat.zero_le _, fun _ => rfl⟩
  · subst q
    refine ⟨_, c, rfl, .inr ⟨g, 0, rfl, fun r hr => ⟨?_, (hq _ (List.getElem_mem hr)).1⟩⟩, q1, q2, fun h => by cases h⟩
    rw [Nat.zero_add, h.cellAt r (by omega)]
    simp [hr, Part.v]

set_option maxHeartbeats 400000 in
theorem twins_some (b o n cap : Nat) (ps : List Part) (w : World) (hl : ps.length = n) (hm : n ≤ 1000) (hc : ∀ r, (h : r < ps.length) → w.cell? ⟨b, o + r, none⟩ = some (.slice ps[r].a ps[r].l ps[r].c) ∧ ps[r].ok w) (h3 : ∀ r, (h : r < ps.length) → ps[r].l ≤ 1000000) :
    Calls Tryd.prog 9 #[.slice (some ⟨b, o, none⟩) n cap] w (TwinsPost w n ps) := by
  obtain ⟨i0, hi, hz0, hz1, hz2⟩ := info_parts Tryd.info25
  have HL := Lib.hid hl; have HC := Lib.hid hc; have H3 := Lib.hid h3
  clear hl hc h3
  go_enter Tryd.func9, Tryd.ntmps9
  go_wp2
  go_loopw [3, 4] (fun v i wr => ∃ (k : Nat) (qs : List Part), k ≤ n ∧ i = .int .i64 k ∧ qs.length = k ∧ qs.map (·.z) = (ps.take k).map (·.z) ∧ wr.ownsRow w.heap.size 25 1 v k (qs.map Part.v) ∧ (∀ q ∈ qs, Own1 wr q) ∧ Below w.heap.size w wr) (fun _ i _ => n - (intOf i).toNat)
  case atStart => exact ⟨0, [], Nat.zero_le _, rfl, rfl, rfl, World.ownsRow_nil _ _ _ _, fun q hq => (by cases hq), Below.refl _ _⟩
  case round =>
    obtain ⟨k, qs, hk, rfl, hql, hqz, hown, hqo, hB⟩ := hrel
    have HB := Lib.hid hB; have HQL := Lib.hid hql; have HQZ := Lib.hid hqz; have HOWN := Lib.hid hown; have HQO := Lib.hid hqo
    by_cases hlt : k < n
    · obtain ⟨hcell, hok⟩ := HC.out k (by rw [HL.out]; exact hlt)
      have HTK : Hid ((ps.take (k + 1)).map (·.z) = (ps.take k).map (·.z) ++ [(ps[k]'(by rw [HL.out]; exact hlt)).z]) := by
        show _ = _
        rw [List.take_succ_eq_append_getElem (by rw [HL.out]; exact hlt), List.map_append]; rfl
      have hpl3 := H3.out k (by rw [HL.out]; exact hlt)
      generalize ps[k]'(by rw [HL.out]; exact hlt) = p at hcell hok HTK hpl3
      obtain ⟨pa, pl, pc, pz⟩ := p
      have hok' := hok.below hB
      have hcell' : wr.cell? ⟨b, o + k, none⟩ = some (.slice pa pl pc) := by rw [hB.cell (cell_lt hcell)]; exact hcell
      simp only at hpl3
      have HTW := Lib.hid (twin_any pa pl pc pz wr hok'.len hpl3 hok'.rd hok'.nil)
      have HPB := Lib.hid hok'.bts
      clear hok hok' hcell hB hql hqz hown hqo
      go_wp2_with (first
        | (go_at_call 18; refine HTW.out.mono ?_; rintro e w2 ⟨ko, kc, rfl, how, hB2⟩; have HO2 := Lib.hid (owns_below HOWN.out hB2); have HQ2 := Lib.hid (Own1.of_ow how HPB.out); have HB2 := Lib.hid hB2; clear how hB2)
        | (at_builtin; (refine wpList_append_own _ rfl (.tmp 11) (.tmp 17) 22 rfl w.heap.size 25 i0 (.slice none 0 0) 1 24 Tryd.underlying22 hi hz0 hz1 hz2 rfl (by decide) _ k _ rfl (HO2.out.alloc _) ⟨w2.heap.size, 0, none⟩ 1 1 [.slice ko pl kc] rfl rfl ?c1 ?c2 ?c3 ?c4 ?c5 ?_)))
      case c1 =>
        intro j u hu
        match j, hu with
        | 0, hu => simp at hu; subst hu; simp [Addr.add, World.cell?_alloc_new]
      case c2 => intro u hu; simp at hu; subst hu; rfl
      case c3 => unfold maxLen; omega
      case c4 => omega
      case c5 => have := HB.out.size; have := HB2.out.size; simp; omega
      intro v' w3 hown3 hgrow3 hnil
      have hbW : Below w2.heap.size w2 (w2.alloc (Obj.cells #[Value.slice ko pl kc] 25)) := (Below.refl _ _).alloc (Nat.le_refl _) _
      have hoA := HO2.out.alloc (Obj.cells #[Value.slice ko pl kc] 25)
      have hq3 : ∀ q ∈ qs ++ [⟨ko, pl, kc, pz⟩], Own1 w3 q := by
        intro q hq
        rcases List.mem_append.1 hq with hq | hq
        · exact (((HQO.out q hq).below HB2.out).below hbW).grown (by decide) hoA hgrow3
        · simp only [List.mem_singleton] at hq
          rw [hq]
          exact (HQ2.out.below hbW).grown (by decide) hoA hgrow3
      have b1 := HB.out.trans (HB2.out.mono HB.out.size)
      have HB3 := Lib.hid (Below.grown (b1.trans (hbW.mono b1.size)) hgrow3 (by have := b1.size; simp; omega) (own_ge HO2.out))
      have HQ3 := Lib.hid hq3; have HO3 := Lib.hid hown3
      clear hown3 hgrow3 hnil hbW hq3 b1 hoA
      go_wp2
      go_roundw
      case rel => exact ⟨k + 1, qs ++ [⟨ko, pl, kc, pz⟩], by omega, by go_num, by simp [HQL.out], by rw [HTK.out, List.map_append, HQZ.out]; rfl, by rw [List.map_append]; exact HO3.out, HQ3.out, HB3.out⟩
      case measure => simp [intOf]; omega
    · obtain rfl : k = n := by omega
      rw [List.take_of_length_le (by rw [HL.out]; exact Nat.le_refl _)] at hqz
      obtain ⟨ko, kc, rfl, hps, h1, h2, h4⟩ := ps_of_owns hql hown hqo
      have HE : Hid (TwinsPost w k ps (.returned (.slice ko k kc)) wr) := ⟨ko, kc, qs, rfl, hql, hqz, hps, h1, h2, h4, hB⟩
      clear hql hown hqo hqz hps h1 h2 h4 hB HQZ HOWN
      go_wp2
      go_ret
      exact HE.out

theorem twins_zero (ao : Option Addr) (cap : Nat) (w : World) : Calls Tryd.prog 9 #[.slice ao 0 cap] w fun e w' => e = .returned (.slice none 0 0) ∧ w = w' := by
  go_enter Tryd.func9, Tryd.ntmps9
  go_wp2
  refine wp_loop_rounds 1 ?_
  rw [rounds_succ]
  go_wp2
  go_ret
  exact ⟨rfl, rfl⟩

/-- TwinRows. -/
theorem twins_any (ao : Option Addr) (n cap : Nat) (ps : List Part) (w : World) (hl : ps.length = n) (hm : n ≤ 1000) (h : Ps w ao ps) (h3 : ∀ r, (h : r < ps.length) → ps[r].l ≤ 1000000) :
    Calls Tryd.prog 9 #[.slice ao n cap] w (TwinsPost w n ps) := by
  rcases h with rfl | ⟨b, o, rfl, hc⟩
  · obtain rfl : n = 0 := hl.symm
    refine (twins_zero ao cap w).mono ?_
    rintro e w' ⟨rfl, rfl⟩
    exact ⟨none, 0, [], rfl, rfl, rfl, Ps.nil _ _, Nat.le_refl _, Nat.zero_le _, fun _ => rfl, Below.refl _ _⟩
  · exact twins_some b o n cap ps w hl hm hc h3

/-- THE COMPARISON OF ROWS that read alike. -/
theorem rows_eq (a b : Option Addr) (n ca cb : Nat) (ps qs : List Part) (w : World) (hp : ps.length = n) (hq : qs.length = n) (hm : n ≤ maxLen) (h1 : Ps w a ps) (h2 : Ps w b qs) (hz : ps.map (·.z) = qs.map (·.z)) :
    Calls Tryd.prog 16 #[.slice a n ca, .slice b n cb] w fun e w' => e = .returned (.bool true) ∧ ∃ q, w' = w.drewN q := by
  unfold maxLen at hm
  have H1 := Lib.hid h1; have H2 := Lib.hid h2; have HP := Lib.hid hp; have HQ := Lib.hid hq; have HZ := Lib.hid hz
  have d0 : ((n : Int) != n) = false := by simp
  clear h1 h2 hp hq hz
  go_enter Tryd.func16, Tryd.ntmps16
  go_wp2
  go_loopw [5] (fun i wr => ∃ k q : Nat, k ≤ n ∧ i = .int .i64 k ∧ wr = w.drewN q) (fun i _ => n - (intOf i).toNat)
  case atStart => exact ⟨0, 0, Nat.zero_le _, rfl, rfl⟩
  case round =>
    obtain ⟨k, q, hk, rfl, hw⟩ := hrel
    have HW := Lib.hid hw
    by_cases hlt : k < n
    · have lp : k < ps.length := by rw [HP.out]; exact hlt
      have lq : k < qs.length := by rw [HQ.out]; exact hlt
      have hzk : ps[k].z = qs[k].z := by
        have := congrArg (fun l => l[k]?) HZ.out
        simpa [lp, lq] using this
      rcases H1.out with h | ⟨b1, o1, rfl, c1⟩
      · rw [h] at lp; simp at lp
      rcases H2.out with h | ⟨b2, o2, rfl, c2⟩
      · rw [h] at lq; simp at lq
      obtain ⟨g1, k1⟩ := c1 k lp
      obtain ⟨g2, k2⟩ := c2 k lq
      generalize ps[k] = p at g1 k1 hzk
      generalize qs[k] = p' at g2 k2 hzk
      obtain ⟨pa, pl, pc, pz⟩ := p
      obtain ⟨qa, ql, qc, qz⟩ := p'
      simp only at g1 g2 hzk
      subst hzk
      have g1' : wr.cell? ⟨b1, o1 + k, none⟩ = some (.slice pa pl pc) := by rw [hw]; exact g1
      have g2' : wr.cell? ⟨b2, o2 + k, none⟩ = some (.slice qa ql qc) := by rw [hw]; exact g2
      have HBC : Hid (∀ V : World, (∀ a, V.cell? a = w.cell? a) → Calls Tryd.prog 14 #[.slice pa pl pc, .slice qa ql qc] V fun e w' => e = .returned (.bool true) ∧ ∃ q, w' = V.drewN q) := fun V hV => by
        have := bytes_cmp pa qa pl ql pc qc pz pz V k1.len k2.len k1.small (k1.rd.congr hV) (k2.rd.congr hV)
        rwa [decide_eq_true rfl] at this
      have hcw : Hid (∀ a, wr.cell? a = w.cell? a) := fun a => by rw [hw]; rfl
      clear c1 c2 g1 g2 k1 k2 hw lp lq
      go_wp2
      go_quiet ((go_at_call 14; exact Calls.quiet_of (HBC.out _ (fun a => hcw.out a))))
      go_wp2
      go_roundw
      case rel => exact ⟨k + 1, q + nq, by omega, by go_num, by rw [HW.out, World.drewN_drewN]⟩
      case measure => simp [intOf]; omega
    · obtain rfl : k = n := by omega
      clear hw
      go_wp2
      go_ret
      exact ⟨rfl, q, HW.out⟩

end Go.Proofs.YtilpehbbjhignaaDoor
