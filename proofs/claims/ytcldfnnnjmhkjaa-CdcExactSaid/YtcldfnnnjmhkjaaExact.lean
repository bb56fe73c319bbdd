/-
  The walk of CdcExact.
-/
import Derived.Test.YtcldfnnnjmhkjaaRCut
namespace Go.Proofs.Ytcldfnnnjmhkjaa
open Go.RowKit
set_option linter.unusedVariables false

theorem mem_flatten_len : ∀ (L : List (List Int)) (l : List Int), l ∈ L → l.length ≤ L.flatten.length
  | [], l, h => by cases h
  | c :: L, l, h => by
    rw [List.flatten_cons, List.length_append]
    rcases List.mem_cons.1 h with rfl | h
    · omega
    · have := mem_flatten_len L l h; omega
/-- What Cut leaves, as parts of its own. -/
def CutMine (w : World) (zs : List Int) (e : Ending) (w' : World) : Prop :=
  ∃ lo lc, ∃ ps : List Part, e = .returned (.tuple #[.slice lo ps.length lc, .int .i64 0]) ∧ ps.map (·.z) = cutL zs ∧ Ps w' lo ps ∧ (∀ p ∈ ps, Mine w.heap.size w' p) ∧
    (ps = [] ∨ ∃ g t cur m, t ≠ 5 ∧ lo = some ⟨g, 0, none⟩ ∧ w'.heap[g]? = some (.cells cur t m) ∧ ∀ r, (h : r < ps.length) → cur[r]? = some ps[r].v) ∧ Below w.heap.size w w'
theorem cut_mine (ao : Option Addr) (len cap : Nat) (zs : List Int) (w : World) (hl : zs.length = len) (hlc : len ≤ cap) (hcm : cap ≤ maxLen) (hm : len ≤ 32768) (hr : Rd w ao zs) (hz : Bts zs) :
    Calls Try.prog 14 #[.slice ao len cap] w (CutMine w zs) := by
  refine (cut_any2 ao len cap zs w hl hlc hcm hm hr hz).mono ?_
  rintro e w' ⟨v, vs, rfl, ho, hrs, hB⟩
  have hcb := cutL_bts zs hz
  have hch : ∀ r, ∃ p : Part, r < (cutL zs).length → p.z = (cutL zs).getD r [] ∧ vs.getD r undef = p.v ∧ p.ok w' ∧ Mine w.heap.size w' p := by
    intro r
    by_cases h : r < (cutL zs).length
    · obtain ⟨g, c, h0, h1, h2, h3, h4, cur, h5⟩ := hrs.2 r h
      have hmem : (cutL zs).getD r [] ∈ cutL zs := by
        simp only [List.getD, List.getElem?_eq_getElem h]
        exact List.getElem_mem h
      have hle : ((cutL zs).getD r []).length ≤ 32768 := by
        have h7 := cutL_flat _ zs (Nat.le_refl _)
        have h8 := congrArg List.length h7
        have h9 : ((cutL zs).getD r []).length ≤ (cutL zs).flatten.length := mem_flatten_len _ _ hmem
        omega
      refine ⟨⟨some ⟨g, 0, none⟩, _, c, (cutL zs).getD r []⟩, fun _ => ⟨rfl, h1, ⟨h4, rfl, hcb _ hmem, Nat.le_trans h2 h3, fun h => by cases h⟩, Nat.le_trans hle (by decide), .inr ⟨g, rfl, h0, cur, h5, fun j hj => ?_⟩⟩⟩
      obtain ⟨b, o, ha, hc⟩ := h4.at (by simp only at hj; omega)
      cases ha
      have := hc j hj
      rw [Nat.zero_add] at this
      exact ⟨_, by simpa [World.cell?, h5] using this⟩
    · exact ⟨⟨none, 0, 0, []⟩, fun h' => absurd h' h⟩
  obtain ⟨f, hf⟩ := Classical.axiomOfChoice hch
  have hpz : ((List.range (cutL zs).length).map f).map (·.z) = cutL zs := by
    apply List.ext_getElem (by simp)
    intro r h1 h2
    have := (hf r h2).1
    simp only [List.getD, List.getElem?_eq_getElem h2, Option.getD_some] at this
    simp [this]
  have hlen : ((List.range (cutL zs).length).map f).length = (cutL zs).length := by simp
  have hmine : ∀ p ∈ (List.range (cutL zs).length).map f, Mine w.heap.size w' p := by
    intro p hp
    obtain ⟨r, hr, rfl⟩ := List.mem_map.1 hp
    exact (hf r (List.mem_range.1 hr)).2.2.2
  rcases ho.2 with ⟨h1, h2⟩ | ⟨g, c, cur, q1, q2, q3, q4, q5, q6, q7⟩
  · subst h1
    have hnil : (List.range (cutL zs).length).map f = [] := List.eq_nil_of_length_eq_zero (by rw [hlen]; exact h2)
    exact ⟨none, 0, (List.range (cutL zs).length).map f, by rw [hlen, h2], hpz, .inl hnil, hmine, .inl hnil, hB⟩
  · subst q1
    have hv := hrs.1
    have hvr : ∀ r, (h : r < (cutL zs).length) → vs[r]? = some (f r).v := fun r h => by
      have := (hf r h).2.1
      simp only [List.getD, show r < vs.length by omega, List.getElem?_eq_getElem, Option.getD_some] at this
      rw [List.getElem?_eq_getElem (by omega), this]
    refine ⟨_, c, (List.range (cutL zs).length).map f, by rw [hlen], hpz, .inr ⟨g, 0, rfl, fun r hr => ?_⟩, hmine, .inr ⟨g, 22, cur, (0, 0), by decide, rfl, q3, fun r hr => ?_⟩, hB⟩
    · rw [hlen] at hr
      simp only [List.getElem_map, List.getElem_range]
      exact ⟨by rw [Nat.zero_add, ho.cellAt r (by omega), hvr r hr]; rfl, (hf r hr).2.2.1⟩
    · rw [hlen] at hr
      simp only [List.getElem_map, List.getElem_range]
      have := ho.cellAt r (by omega)
      rw [hvr r hr] at this
      simpa [World.cell?, q3] using this

set_option maxRecDepth 100000 in
set_option maxHeartbeats 1000000 in
theorem exact_walk (ao : Option Addr) (len cap : Nat) (zs : List Int) (w : World) (hm : len ≤ 1500) (hp : Part.ok w ⟨ao, len, cap, zs⟩) (hc : len ≤ cap) (hcm : cap ≤ maxLen) :
    Calls Try.prog 3 #[.slice ao len cap] w fun e w' => e = .returned (.bool true) ∧ Below w.heap.size w w' := by
  have d1 : decide ((1500 : Int) < (len : Int)) = false := decide_eq_false (by omega)
  have HP := Lib.hid hp; have HCM := Lib.hid hcm
  have HTW := Lib.hid (twin_any ao len cap zs w hp.len (by omega) hp.rd hp.nil)
  obtain ⟨x, hx⟩ : ∃ x, x = nx zs := ⟨_, rfl⟩
  have dn : ((x : Int) != x) = false := by simp
  have HX := Lib.hid hx
  clear hp hcm hx
  go_enter Try.func3, Try.ntmps3
  go_wp2_with (go_at_call 13; refine HTW.out.mono ?_; rintro e w1 ⟨ko, kc, rfl, how, hB1⟩; have HOW := Lib.hid how; have HB1 := Lib.hid hB1; clear how hB1)
  refine (cut_mine ko len kc zs w1 HOW.out.1 HOW.out.2.1 HOW.out.2.2.1 (by omega) HOW.out.rd HP.out.bts).mono ?_
  rintro e w2 ⟨lo, lc, ps, rfl, hpz, hps, hmine, hlist, hB2⟩
  obtain ⟨n, hn⟩ : ∃ n, n = ps.length := ⟨_, rfl⟩
  rw [← hn]
  have hn3 : n ≤ 3000 := by
    have h := cut_count _ zs (Nat.le_refl _)
    have e0 : n = (cutL zs).length := by rw [hn, ← hpz]; simp
    have e1 : zs.length = len := HP.out.len
    omega
  have hB12 := HB1.out.trans (hB2.mono HB1.out.size)
  have hP2 := HP.out.below hB12
  have HRC := Lib.hid (rcut_any ao len cap zs w2 hP2.len hc HCM.out (by omega) hP2.rd hP2.bts hP2.nil)
  have HPZ := Lib.hid hpz; have HPS := Lib.hid hps; have HMI := Lib.hid hmine; have HLI := Lib.hid hlist; have HB2 := Lib.hid hB2; have HN := Lib.hid hn; have HB12 := Lib.hid hB12
  clear hpz hps hmine hlist hB2 hn hB12 hP2 HTW
  go_wp2_with (first
    | (go_at_call 16; refine HRC.out.mono ?_; rintro e w3 ⟨mo, mc, qs, rfl, hqz, hqs, hB3⟩; have HB3 := Lib.hid hB3; have HQ := Lib.hid hqs; have HQZ := Lib.hid hqz; clear hqz hqs hB3)
    | (go_at_call 15; fail))
  have hq : qs.length = n := by
    have e1 : qs.length = (qs.map (·.z)).length := by simp
    have e2 : ps.length = (ps.map (·.z)).length := by simp
    rw [HN.out, e1, e2, HQZ.out, HPZ.out]
  rw [hq]
  have HRW := Lib.hid (rows_eq lo mo n lc mc ps qs w3 HN.out.symm hq (by unfold maxLen; omega) (HPS.out.below HB3.out) HQ.out (by rw [HPZ.out, HQZ.out]))
  have hB13 : Below w1.heap.size w1 w3 := HB2.out.trans (HB3.out.mono HB2.out.size)
  have hBw3 := HB1.out.trans (hB13.mono HB1.out.size)
  have HN1 := Lib.hid (fun V (hV : ∀ a, V.cell? a = w3.cell? a) => next_rd ko len kc zs V HOW.out.1 (by omega) ((HOW.out.rd.below hB13).congr hV) HP.out.bts)
  have HN2 := Lib.hid (fun V (hV : ∀ a, V.cell? a = w3.cell? a) => rnext_rd ao len cap zs V HP.out.len (by omega) ((HP.out.rd.below hBw3).congr hV) HP.out.bts)
  rw [← HX.out] at HN1 HN2
  have HSP := Lib.hid (fun (hq : Nat) => spoilrows_any lo n lc w1.heap.size ps (w3.drewN hq) HN.out.symm (by omega) (by
    rcases HLI.out with h | ⟨g, t, cur, m, h1, h2, h3, h4⟩
    · exact .inl h
    · exact .inr ⟨g, t, cur, m, h1, h2, by show w3.heap[g]? = _; rw [HB3.out.block g (Array.getElem?_eq_some_iff.1 h3).1]; exact h3, h4⟩) (fun p hp => by
    obtain ⟨h1, h2 | ⟨g, h2, h3, cur, h4, h5⟩⟩ := HMI.out p hp
    · exact ⟨h1, .inl h2⟩
    · exact ⟨h1, .inr ⟨g, h2, h3, cur, by show w3.heap[g]? = _; rw [HB3.out.block g (Array.getElem?_eq_some_iff.1 h4).1]; exact h4, h5⟩⟩))
  have HB13 := Lib.hid hB13; have HBW3 := Lib.hid hBw3
  clear hq hB13 hBw3 HRC
  refine HRW.out.mono ?_
  rintro e w4 ⟨rfl, q4, hq4⟩
  have hcw : ∀ a, w4.cell? a = w3.cell? a := fun a => by rw [hq4]; rfl
  have HCW := Lib.hid hcw
  have HSP4 := HSP.out q4
  rw [← hq4] at HSP4
  have HSP4 := Lib.hid HSP4
  have HB14 : Hid (Below w1.heap.size w1 w4) := by rw [hq4]; exact below_drewN HB13.out q4
  have HBW4 : Hid (Below w.heap.size w w4) := by rw [hq4]; exact below_drewN HBW3.out q4
  clear hcw hq4 HSP HRW
  go_wp2_with (first
    | (go_at_call 17; refine (HN1.out _ HCW.out).mono ?_; rintro e w5 ⟨rfl, rfl⟩)
    | (go_at_call 18; refine (HN2.out _ HCW.out).mono ?_; rintro e w5 ⟨rfl, rfl⟩)
    | (go_at_call 19; fail))
  refine HSP4.out.mono ?_
  rintro e w6 ⟨rfl, hS⟩
  have hB16 : Below w1.heap.size w1 w6 := HB14.out.trans hS.1
  have hBw6 := HB1.out.trans (hB16.mono HB1.out.size)
  have hbc := bytes_cmp ko ao len len kc cap zs zs w6 HOW.out.1 HP.out.len (by unfold maxLen; omega) (HOW.out.rd.below hB16) (HP.out.rd.below hBw6)
  rw [decide_eq_true rfl] at hbc
  have HBC := Lib.hid hbc; have HB6 := Lib.hid hBw6
  clear hS hB16 hBw6 hbc
  go_wp2_with (first
    | (go_at_call 20; refine HBC.out.mono ?_; rintro e w7 ⟨rfl, hq7⟩; have HB7 : Hid (Below w.heap.size w w7) := (by obtain ⟨q7, rfl⟩ := hq7; exact below_drewN HB6.out q7); clear hq7)
    | (go_at_call 21; refine (wakes4 _).mono ?_; rintro e w9 ⟨rfl, hB⟩; have HB9 := Lib.hid (HB7.out.trans (hB.mono HB7.out.size)); clear hB))
  go_ret
  exact ⟨rfl, HB9.out⟩

theorem exact_out (ao : Option Addr) (len cap : Nat) (w : World) (h : 1500 < len) :
    Calls Try.prog 3 #[.slice ao len cap] w fun e w' => e = .returned (.bool true) ∧ Below w.heap.size w w' := by
  have d1 : decide ((1500 : Int) < (len : Int)) = true := decide_eq_true (by omega)
  go_enter Try.func3, Try.ntmps3
  go_wp2_with fail
  go_ret
  exact ⟨rfl, Below.refl _ _⟩

end Go.Proofs.Ytcldfnnnjmhkjaa
