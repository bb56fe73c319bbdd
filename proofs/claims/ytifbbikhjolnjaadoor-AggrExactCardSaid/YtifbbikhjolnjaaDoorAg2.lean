/-
  Aggregates: join.
-/
import Derived.Test.YtifbbikhjolnjaaDoorAg1
namespace Go.Proofs.YtifbbikhjolnjaaDoor
open Go.RowKit
set_option linter.unusedVariables false

/-- Is one of them a head or a tail? -/
def hts (rs : List Rec) : Bool := rs.any fun r => r.k == 4 || r.k == 5
/-- What join tells. -/
def jE (size : Int) (rs : List Rec) : Int := if size < 32 ∨ 256 < size then 1 else if rs.length < 1 ∨ 64 < rs.length then 2 else if je rs ≠ 0 then je rs else if hts rs then 1 else 0
/-- Where the first k frames begin. -/
def offP (rs : List Rec) (k : Nat) : List Int := (List.range k).map fun i => (13 : Int) + (frs (rs.take i)).length
/-- The aggregate's bytes. -/
def ag (rs : List Rec) : List Int := fr 4 rs.length [] ++ (frs rs ++ fr 5 rs.length [])
theorem offP_succ (rs : List Rec) (k : Nat) : offP rs (k + 1) = offP rs k ++ [(13 : Int) + (frs (rs.take k)).length] := by
  unfold offP; rw [List.range_succ, List.map_append]; rfl
theorem offP_len (rs : List Rec) (k : Nat) : (offP rs k).length = k := by unfold offP; simp
theorem ag_len (rs : List Rec) : (ag rs).length = 26 + (frs rs).length := by
  unfold ag; simp only [List.length_append, fr_len, List.length_nil]; omega
theorem frs_mono (rs : List Rec) (k : Nat) (h : k ≤ rs.length) : (frs (rs.take k)).length ≤ (frs rs).length := by
  conv => rhs; rw [← List.take_append_drop k rs]
  unfold frs; rw [List.flatMap_append, List.length_append]; omega
theorem frs_bound (rs : List Rec) (h : ∀ i, (hi : i < rs.length) → rs[i].d.z.length ≤ 8000) : (frs rs).length ≤ 8013 * rs.length := by
  have key : ∀ k, k ≤ rs.length → (frs (rs.take k)).length ≤ 8013 * k := by
    intro k
    induction k with
    | zero => intro _; exact Nat.zero_le _
    | succ k ih =>
      intro hk
      rw [frs_take rs k (by omega), List.length_append, fr_len]
      have := ih (by omega)
      have := h k (by omega)
      omega
  have := key rs.length (Nat.le_refl _)
  rwa [List.take_length] at this
theorem chk_of {k s : Int} {n : Nat} (h : nok k s) (hn : n ≤ 8000) : chk k s n = 0 := by unfold chk; rw [if_pos h, if_pos hn]
theorem Ow.keep3 {w w' : World} {base n kc : Nat} {ko : Option Addr} {zs : List Int} (h : Ow w base ko n kc zs) (hk : ∀ (j : Nat) (cs : Array Value) (t : Nat) (fr : Nat × Nat), t ≠ 3 → w.heap[j]? = some (Obj.cells cs t fr) → w'.heap[j]? = some (Obj.cells cs t fr)) : Ow w' base ko n kc zs := by
  refine ⟨h.1, h.2.1, h.2.2.1, h.2.2.2.1, ?_⟩
  rcases h.2.2.2.2 with h2 | ⟨g, cap, cur, q1, q2, q3, q4⟩
  · exact .inl h2
  · exact .inr ⟨g, cap, cur, q1, q2, hk g cur 5 (0, 0) (by decide) q3, q4⟩
/-- What join leaves. -/
def JP (w : World) (size : Int) (rs : List Rec) (e : Ending) (w' : World) : Prop :=
  Below w.heap.size w w' ∧
  ((jE size rs = 0 ∧ ∃ g cap oo oc, e = .returned (.tuple #[.slice (some ⟨g, 0, none⟩) (ag rs).length cap, .slice oo rs.length oc, .int .i64 0]) ∧ w.heap.size ≤ g ∧ (ag rs).length ≤ cap ∧ cap ≤ maxLen ∧ Rd w' (some ⟨g, 0, none⟩) (ag rs) ∧ On w' w.heap.size oo rs.length oc (offP rs rs.length) ∧ (ag rs).length ≤ 600000 ∧ Bts (ag rs) ∧ 32 ≤ size ∧ size ≤ 256 ∧ 1 ≤ rs.length ∧ rs.length ≤ 64) ∨
   (jE size rs ≠ 0 ∧ e = .returned (.tuple #[.slice none 0 0, .slice none 0 0, .int .i64 (jE size rs)])))

set_option maxRecDepth 100000 in
set_option maxHeartbeats 4000000 in
theorem ajoin (size : Int) (ao : Option Addr) (n cap : Nat) (rs : List Rec) (w : World) (hl : rs.length = n) (hm : n ≤ maxLen) (hT : Tab w) (h : Rs w ao rs) :
    Calls Tryd.prog 23 #[.int .i64 size, .slice ao n cap] w (JP w size rs) := by
  have hJE : jE size rs = if size < 32 ∨ 256 < size then 1 else if n < 1 ∨ 64 < n then 2 else if je rs ≠ 0 then je rs else if hts rs then 1 else 0 := by unfold jE; rw [hl]
  unfold maxLen at hm
  by_cases h1 : size < 32
  · have hE : jE size rs = 1 := by rw [hJE, if_pos (.inl h1)]
    have HE := Lib.hid hE
    have d1 : decide (size < 32) = true := decide_eq_true h1
    clear hJE hE hT h
    go_enter Tryd.func23, Tryd.ntmps23
    go_wp2
    go_ret3
    exact ⟨Below.refl _ _, .inr ⟨by rw [HE.out]; decide, by rw [HE.out]; rfl⟩⟩
  have d1 : decide (size < 32) = false := decide_eq_false h1
  by_cases h2 : 256 < size
  · have hE : jE size rs = 1 := by rw [hJE, if_pos (.inr h2)]
    have HE := Lib.hid hE
    have d2 : decide (256 < size) = true := decide_eq_true h2
    clear hJE hE hT h
    go_enter Tryd.func23, Tryd.ntmps23
    go_wp2
    go_ret3
    exact ⟨Below.refl _ _, .inr ⟨by rw [HE.out]; decide, by rw [HE.out]; rfl⟩⟩
  have d2 : decide (256 < size) = false := decide_eq_false h2
  rw [if_neg (by omega)] at hJE
  by_cases h3 : n < 1
  · have hE : jE size rs = 2 := by rw [hJE, if_pos (.inl h3)]
    have HE := Lib.hid hE
    have d3 : decide ((n : Int) < 1) = true := decide_eq_true (by omega)
    have d3' : decide (n < 1) = true := decide_eq_true h3
    clear hJE hE hT h
    go_enter Tryd.func23, Tryd.ntmps23
    go_wp2
    go_ret3
    exact ⟨Below.refl _ _, .inr ⟨by rw [HE.out]; decide, by rw [HE.out]; rfl⟩⟩
  have d3 : decide ((n : Int) < 1) = false := decide_eq_false (by omega)
  have d3' : decide (n < 1) = false := decide_eq_false h3
  by_cases h4 : 64 < n
  · have hE : jE size rs = 2 := by rw [hJE, if_pos (.inr h4)]
    have HE := Lib.hid hE
    have d4 : decide ((64 : Int) < (n : Int)) = true := decide_eq_true (by omega)
    have d4' : decide (64 < n) = true := decide_eq_true h4
    clear hJE hE hT h
    go_enter Tryd.func23, Tryd.ntmps23
    go_wp2
    go_ret3
    exact ⟨Below.refl _ _, .inr ⟨by rw [HE.out]; decide, by rw [HE.out]; rfl⟩⟩
  have d4 : decide ((64 : Int) < (n : Int)) = false := decide_eq_false (by omega)
  have d4' : decide (64 < n) = false := decide_eq_false h4
  rw [if_neg (by omega)] at hJE
  have HJ := Lib.hid (join_any ao n cap rs w hl (by omega) hT h)
  have HJE := Lib.hid hJE; have HL := Lib.hid hl; have HT := Lib.hid hT; have HR := Lib.hid h
  clear hJE hl hT h
  go_enter Tryd.func23, Tryd.ntmps23
  go_wp2_with (go_at_call 31; fail)
  refine HJ.out.mono ?_
  rintro e w1 (⟨hje, kb, cb, rfl, hob, hB1⟩ | ⟨hje, rfl, hB1⟩)
  rotate_left
  · have hE : jE size rs = je rs := by rw [HJE.out, if_pos hje]
    obtain ⟨er, her⟩ : ∃ er, er = je rs := ⟨_, rfl⟩
    rw [← her] at hje hE ⊢
    have dq : (er != 0) = true := by simp [hje]
    have HE := Lib.hid hE; have HB1 := Lib.hid hB1; have HQ := Lib.hid hje
    clear hE hB1 her hje
    go_wp2
    go_ret3
    exact ⟨HB1.out, .inr ⟨by rw [HE.out]; exact HQ.out, by rw [HE.out]; rfl⟩⟩
  have hJE2 : jE size rs = if hts rs then 1 else 0 := by rw [HJE.out, if_neg (by simp [hje])]
  have hchk := je_all rs hje
  have hd8 : ∀ i, (hi : i < rs.length) → rs[i].d.z.length ≤ 8000 ∧ Bts rs[i].d.z := fun i hi => by
    rcases HR.out with h | ⟨_, _, _, h⟩
    · rw [h] at hi; exact absurd hi (Nat.not_lt_zero _)
    · have hok := (h i hi).2.2.2
      exact ⟨by rw [hok.len]; exact (chk_ok (hchk i hi)).2, hok.bts⟩
  have hfb := frs_bound rs fun i hi => (hd8 i hi).1
  have hbts := bts_frs rs fun i hi => (hd8 i hi).2
  rw [HL.out] at hfb
  obtain ⟨zb, hzb⟩ : ∃ zb, zb = frs rs := ⟨_, rfl⟩
  obtain ⟨Nb, hNb⟩ : ∃ Nb, Nb = zb.length := ⟨_, rfl⟩
  rw [← hzb] at hob hfb hbts ⊢
  rw [← hNb] at hob hfb ⊢
  have HJE2 := Lib.hid hJE2; have HOB := Lib.hid hob; have HFB := Lib.hid hfb; have HBTS := Lib.hid hbts; have HB1 := Lib.hid hB1; have HZB := Lib.hid hzb; have HNB := Lib.hid hNb
  have hc4 : chk 4 (n : Int) 0 = 0 := chk_of ⟨by omega, by omega, by omega, by omega⟩ (by omega)
  have hc5 : chk 5 (n : Int) 0 = 0 := chk_of ⟨by omega, by omega, by omega, by omega⟩ (by omega)
  have hnil : ∀ V, Part.ok V ⟨none, 0, 0, []⟩ := fun V => ⟨Rd.nil _ _, rfl, Bts.nil, Nat.zero_le _, fun _ => rfl⟩
  have hb4 : ∀ V, Tab V → Calls Tryd.prog 32 #[.agg #[.int .i64 4, .int .i64 n, .slice none 0 0]] V (RB V 13 (fr 4 n [])) := fun V hV => by
    refine (fbytes_any ⟨4, n, ⟨none, 0, 0, []⟩⟩ V hV (hnil V)).mono ?_
    rintro e w' (⟨_, h⟩ | ⟨h, _⟩)
    · exact h
    · exact absurd hc4 h
  have hb5 : ∀ V, Tab V → Calls Tryd.prog 32 #[.agg #[.int .i64 5, .int .i64 n, .slice none 0 0]] V (RB V 13 (fr 5 n [])) := fun V hV => by
    refine (fbytes_any ⟨5, n, ⟨none, 0, 0, []⟩⟩ V hV (hnil V)).mono ?_
    rintro e w' (⟨_, h⟩ | ⟨h, _⟩)
    · exact h
    · exact absurd hc5 h
  have HB4 := Lib.hid (hb4 w1 (HT.out.below hB1)); have HB5 := Lib.hid hb5
  clear hJE2 hchk hd8 hfb hbts hob hB1 hzb hNb hc4 hc5 hnil hb4 hb5 hje HJ HJE
  go_wp2_with (go_at_call 32; fail)
  refine HB4.out.mono ?_
  rintro e w2 ⟨kh, ch, rfl, hoh, hB2⟩
  have SZ1 := Lib.hid HB1.out.size
  have HOH := Lib.hid hoh; have HB2 := Lib.hid (HB1.out.trans (hB2.mono HB1.out.size)); have HOB2 := Lib.hid (HOB.out.below hB2)
  have HB5' := Lib.hid (HB5.out w2 (HT.out.below HB2.out))
  clear hoh hB2 HB4 HB1 HOB HB5
  go_wp2_with (go_at_call 32; fail)
  refine HB5'.out.mono ?_
  rintro e w3 ⟨kt, ct, rfl, hot, hB3⟩
  have SZ2 := Lib.hid HB2.out.size
  have HOT := Lib.hid hot; have HB3 := Lib.hid (HB2.out.trans (hB3.mono HB2.out.size)); have HOB3 := Lib.hid (HOB2.out.below hB3); have HOH3 := Lib.hid (HOH.out.below hB3)
  clear hot hB3 HB5' HB2 HOB2 HOH
  obtain ⟨wo, rfl⟩ : ∃ wo : World, wo = w3 := ⟨_, rfl⟩
  go_wp2
  go_loopw [5, 10, 59] (fun v q i wr => ∃ (k : Nat) (oo : Option Addr) (oc : Nat), k ≤ n ∧ i = .int .i64 k ∧ v = .slice oo k oc ∧ On wr w.heap.size oo k oc (offP rs k) ∧ q = .int .i64 ((13 : Int) + (frs (rs.take k)).length) ∧ (∀ j, (hj : j < rs.length) → j < k → rs[j].k ≠ 4 ∧ rs[j].k ≠ 5) ∧ Below w.heap.size w wr ∧ Ow wr w.heap.size kh 13 ch (fr 4 n []) ∧ Ow wr w.heap.size kb Nb cb zb ∧ Ow wr w.heap.size kt 13 ct (fr 5 n [])) (fun _ _ i _ => n - (intOf i).toNat)
  case atStart => exact ⟨0, none, 0, Nat.zero_le _, rfl, rfl, On.nil _ _, rfl, fun j _ hj => absurd hj (Nat.not_lt_zero _), HB3.out, HOH3.out.base SZ1.out, HOB3.out, HOT.out.base SZ2.out⟩
  case round =>
    obtain ⟨k, oo, oc, hk, rfl, rfl, hon, rfl, hkd, hB, hoh, hob, hot⟩ := hrel
    have hmono := frs_mono rs k (by rw [HL.out]; exact hk)
    rw [← HZB.out, ← HNB.out] at hmono
    have hfb := HFB.out
    by_cases hlt : k < n
    · have e1 : decide ((k : Int) < (n : Int)) = true := decide_eq_true (by omega)
      have hlt' : k < rs.length := by rw [HL.out]; exact hlt
      obtain ⟨b, o, rfl, hc⟩ : ∃ b o, ao = some ⟨b, o, none⟩ ∧ _ := by
        rcases HR.out.below hB with h | h
        · rw [h] at hlt'; exact absurd hlt' (Nat.not_lt_zero _)
        · exact h
      obtain ⟨c0, c1, c2, hd⟩ := hc k hlt'
      have hcat := frs_take rs k hlt'
      obtain ⟨r, hr⟩ : ∃ r, r = rs[k] := ⟨_, rfl⟩
      rw [← hr] at c0 c1 c2 hd hcat
      have hcl := congrArg List.length hcat
      rw [List.length_append, fr_len, hd.len] at hcl
      have hmono2 := frs_mono rs (k + 1) (by omega)
      rw [← HZB.out, ← HNB.out] at hmono2
      obtain ⟨L, hL⟩ : ∃ L, L = (frs (rs.take k)).length := ⟨_, rfl⟩
      rw [← hL] at hcl hmono ⊢
      have hos := offP_succ rs k
      rw [← hL] at hos
      have HOS := Lib.hid hos; have HCL := Lib.hid hcl; have HKD := Lib.hid hkd; have HON := Lib.hid hon; have HBR := Lib.hid hB; have HHR := Lib.hid hoh; have HBB := Lib.hid hob; have HTR := Lib.hid hot; have HRR := Lib.hid hr
      have b1 : r.d.l ≤ 600000 := by omega
      have b2 : L ≤ 600000 := by omega
      clear hcat hcl hc hd hon hB hoh hob hot hkd hos hL hmono2 hr HB3 HOH3 HOB3 HOT SZ1 SZ2
      by_cases h4 : r.k = 4
      · have e4 : (r.k == 4) = true := beq_iff_eq.2 h4
        have hh : jE size rs = 1 := by
          rw [HJE2.out, if_pos]
          unfold hts
          exact List.any_eq_true.2 ⟨r, by rw [HRR.out]; exact List.getElem_mem _, by simp [h4]⟩
        have HH := Lib.hid hh
        clear h4 hh
        go_wp2
        go_ret3
        exact ⟨HBR.out.alloc HBR.out.size _, .inr ⟨by rw [HH.out]; decide, by rw [HH.out]; rfl⟩⟩
      have e4 : (r.k == 4) = false := beq_eq_false_iff_ne.2 h4
      by_cases h5 : r.k = 5
      · have e5 : (r.k == 5) = true := beq_iff_eq.2 h5
        have hh : jE size rs = 1 := by
          rw [HJE2.out, if_pos]
          unfold hts
          exact List.any_eq_true.2 ⟨r, by rw [HRR.out]; exact List.getElem_mem _, by simp [h5]⟩
        have HH := Lib.hid hh
        clear h5 hh h4
        go_wp2
        go_ret3
        exact ⟨HBR.out.alloc HBR.out.size _, .inr ⟨by rw [HH.out]; decide, by rw [HH.out]; rfl⟩⟩
      have e5 : (r.k == 5) = false := beq_eq_false_iff_ne.2 h5
      have HK45 := Lib.hid (And.intro h4 h5)
      -- the box of the record, the row of one number
      have hb1 : Below wr.heap.size wr (wr.alloc (.cells #[.int .i64 r.k, .int .i64 r.s, .slice r.d.a r.d.l r.d.c] 43)) := (Below.refl _ _).alloc (Nat.le_refl _) _
      have hb2 : Below wr.heap.size wr ((wr.alloc (.cells #[.int .i64 r.k, .int .i64 r.s, .slice r.d.a r.d.l r.d.c] 43)).alloc (.cells #[.int .i64 ((13 : Int) + L)] 3)) := hb1.alloc hb1.size _
      have hg1 : ((wr.alloc (.cells #[.int .i64 r.k, .int .i64 r.s, .slice r.d.a r.d.l r.d.c] 43)).alloc (.cells #[.int .i64 ((13 : Int) + L)] 3)).heap[wr.heap.size + 1]? = some (.cells #[.int .i64 ((13 : Int) + L)] 3) := by
        have := heap_alloc_new (wr.alloc (.cells #[.int .i64 r.k, .int .i64 r.s, .slice r.d.a r.d.l r.d.c] 43)) (.cells #[.int .i64 ((13 : Int) + L)] 3)
        rw [World.size_alloc] at this
        exact this
      have hg0 : ((wr.alloc (.cells #[.int .i64 r.k, .int .i64 r.s, .slice r.d.a r.d.l r.d.c] 43)).alloc (.cells #[.int .i64 ((13 : Int) + L)] 3)).heap[wr.heap.size]? = some (.cells #[.int .i64 r.k, .int .i64 r.s, .slice r.d.a r.d.l r.d.c] 43) := by
        have hbb : Below (wr.heap.size + 1) (wr.alloc (.cells #[.int .i64 r.k, .int .i64 r.s, .slice r.d.a r.d.l r.d.c] 43)) ((wr.alloc (.cells #[.int .i64 r.k, .int .i64 r.s, .slice r.d.a r.d.l r.d.c] 43)).alloc (.cells #[.int .i64 ((13 : Int) + L)] 3)) := (Below.refl _ _).alloc (by simp) _
        rw [hbb.block _ (by omega)]
        exact heap_alloc_new _ _
      have HG1 := Lib.hid hg1; have HG0 := Lib.hid hg0; have HB2R := Lib.hid (HBR.out.trans (hb2.mono HBR.out.size)); have HON2 := Lib.hid (HON.out.below hb2); have HH2 := Lib.hid (HHR.out.below hb2); have HBB2 := Lib.hid (HBB.out.below hb2); have HT2 := Lib.hid (HTR.out.below hb2)
      clear hb1 hb2 hg1 hg0 h4 h5
      go_wp2_with (at_builtin; refine append_num rfl (.tmp 71) (.tmp 73) rfl w.heap.size k oc (wr.heap.size + 1) oo (offP rs k) ((13 : Int) + L) rfl HON2.out rfl HG1.out (by omega) HB2R.out.size ?_; intro oo' oc' w5 ho5 hB5 hk5; have hx5 : w5.heap[wr.heap.size]? = _ := hk5 _ _ _ _ (by decide) HG0.out; have z2 : w5.cell? ⟨wr.heap.size, 2, none⟩ = some (.slice r.d.a r.d.l r.d.c) := (by simp only [World.cell?, hx5]; rfl); have HO5 := Lib.hid ho5; have HB5 := Lib.hid (HB2R.out.trans hB5); have HH5 := Lib.hid (HH2.out.keep3 hk5); have HBB5 := Lib.hid (HBB2.out.keep3 hk5); have HT5 := Lib.hid (HT2.out.keep3 hk5); clear ho5 hB5 hk5 hx5)
      go_roundw
      case rel =>
        refine ⟨k + 1, oo', oc', by omega, by go_num, by rfl, by rw [HOS.out]; exact HO5.out, ?_, fun j hj hjk => ?_, HB5.out, HH5.out, HBB5.out, HT5.out⟩
        · rw [HCL.out]; go_num
        · by_cases e : j < k
          · exact HKD.out j hj e
          · obtain rfl : j = k := by omega
            rw [← HRR.out]; exact HK45.out
      case measure => simp [intOf]; omega
    · have e1 : decide ((k : Int) < (n : Int)) = false := decide_eq_false (by omega)
      obtain rfl : k = n := by omega
      have hh : jE size rs = 0 := by
        rw [HJE2.out, if_neg]
        unfold hts
        intro hany
        obtain ⟨r, hr, hrk⟩ := List.any_eq_true.1 hany
        obtain ⟨j, hj, rfl⟩ := List.getElem_of_mem hr
        have := hkd j hj (by rw [HL.out] at hj; exact hj)
        simp at hrk
        omega
      have hag : fr 4 (k : Int) [] ++ (zb ++ fr 5 (k : Int) []) = ag rs := by unfold ag; rw [HL.out, HZB.out]
      have hagl : (ag rs).length = 26 + Nb := by rw [ag_len, ← HZB.out, ← HNB.out]
      have hagb : Bts (ag rs) := by rw [← hag]; exact bts_app (fr_bts _ _ _ Bts.nil) (bts_app HBTS.out (fr_bts _ _ _ Bts.nil))
      have hp4 := hoh.part (fr_bts 4 (k : Int) [] Bts.nil)
      have hpb := hob.part HBTS.out
      have hp5 := hot.part (fr_bts 5 (k : Int) [] Bts.nil)
      have hal : Below wr.heap.size wr (wr.alloc (.cells #[.slice kh 13 ch, .slice kb Nb cb, .slice kt 13 ct] 39)) := (Below.refl _ _).alloc (Nat.le_refl _) _
      have hj := join3 wr.heap.size ⟨kh, 13, ch, fr 4 (k : Int) []⟩ ⟨kb, Nb, cb, zb⟩ ⟨kt, 13, ct, fr 5 (k : Int) []⟩ (wr.alloc (.cells #[.slice kh 13 ch, .slice kb Nb cb, .slice kt 13 ct] 39)) (heap_alloc_new _ _) (hp4.below hal) (hpb.below hal) (hp5.below hal) (by simp only; omega)
      simp only at hj
      rw [hag] at hj
      have HJ3 := Lib.hid hj; have HBR := Lib.hid (hB.trans (hal.mono hB.size)); have HON := Lib.hid (hon.below hal); have HJE0 := Lib.hid hh; have HAGL := Lib.hid hagl; have HAGB := Lib.hid hagb
      have HLL := Lib.hid HL.out
      clear hj hal hp4 hpb hp5 hag hagl hagb hh hon hB hoh hob hot hkd HB3 HOH3 HOB3 HOT SZ1 SZ2
      go_wp2_with (go_at_call 33; fail)
      refine HJ3.out.mono ?_
      rintro e w5 ⟨g5, c5, rfl, hg5, hl5, hc5, hrd5, hB5⟩
      have HB5 := Lib.hid (HBR.out.trans (hB5.mono HBR.out.size)); have HON5 := Lib.hid (HON.out.below hB5); have HRD5 := Lib.hid hrd5; have HG5 := Lib.hid (Nat.le_trans HBR.out.size hg5); have HL5 := Lib.hid hl5; have HC5 := Lib.hid hc5
      clear hB5 hrd5 hg5 hl5 hc5 HJ3
      go_wp2
      go_ret3
      refine ⟨HB5.out, .inl ⟨HJE0.out, g5, c5, oo, oc, ?_, HG5.out, HL5.out, HC5.out, HRD5.out, ?_, ?_, HAGB.out, by omega, by omega, ?_, ?_⟩⟩
      · rw [HLL.out]; rfl
      · rw [HLL.out]; exact HON5.out
      · rw [HAGL.out]; omega
      · rw [HLL.out]; omega
      · rw [HLL.out]; omega

end Go.Proofs.YtifbbikhjolnjaaDoor
