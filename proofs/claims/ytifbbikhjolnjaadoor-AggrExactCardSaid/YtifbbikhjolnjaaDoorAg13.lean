/-
  Aggregates: the document's own bytes.
-/
import Derived.Test.YtifbbikhjolnjaaDoorAg8
import Derived.Test.YtifbbikhjolnjaaDoorAg12
namespace Go.Proofs.YtifbbikhjolnjaaDoor
open Go.RowKit
set_option linter.unusedVariables false

theorem append_bytes2 {w : World} {ops : Array Oper} {rest : List Oper} {o : Oper} {a : Act} {Q : Exit → Act → World → Prop} (hgd : o.guard = none) (s x : Operand)
    (ho : o.op = .call { callee := .builtin .append, args := #[s, x], argTypes := #[39, 39] })
    (base n kc m mc : Nat) (ko bo : Option Addr) (xs ys : List Int) (hs : a.eval s = .slice ko n kc) (hown : Ow w base ko n kc xs) (hx : a.eval x = .slice bo m mc) (hr : Rd w bo ys) (hl : ys.length = m) (hn : 0 < m)
    (hm : n + m ≤ 1000000000) (hb : base ≤ w.heap.size)
    (h : ∀ ko' kc' w', Ow w' base ko' (n + m) kc' (xs ++ ys) → Below base w w' → w.grownBy w' (Value.slice ko n kc).ownBlock → wpList Tryd.prog ops Q rest (a.put o.dst (.slice ko' (n + m) kc')) w') : wpList Tryd.prog ops Q (o :: rest) a w := by
  obtain ⟨i0, hi, hz0, hz1, hz2⟩ := info_parts Tryd.info5
  have hlx := hown.1
  obtain ⟨b, q, rfl, _⟩ := hr.at (by omega : 0 < ys.length)
  refine wpList_append_own _ hgd s x 39 ho base 5 i0 (.int .u8 0) 1 1 Tryd.underlying39 hi hz0 hz1 hz2 rfl (by decide) _ n _ hs hown.2.2.2 ⟨b, q, none⟩ m mc (ys.map (.int .u8)) hx (by simp [hl]) (hr.cells _ rfl) (ints_oneCell _ _) (by unfold maxLen; omega) (by omega) hb ?_
  intro v' w' ho' hg' _
  rw [← List.map_append] at ho'
  obtain ⟨ko', kc', rfl, how⟩ := Ow.of (by simp [hlx, hl]) ho'
  exact h ko' kc' w' how (Below.grown (Below.refl _ _) hg' hb (own_ge hown.2.2.2)) hg'
theorem On.grownB {w w' : World} {base base2 n n2 c c2 : Nat} {ko k2 : Option Addr} {zs ys : List Int} (h : On w base ko n c zs) (h2 : Ow w base2 k2 n2 c2 ys) (hg : w.grownBy w' (Value.slice k2 n2 c2).ownBlock) : On w' base ko n c zs :=
  ⟨h.1, h.2.1, h.2.2.1, owns_grown (by decide) h.2.2.2 h2.2.2.2 hg⟩

/-- What the document's bytes leave. -/
def RJP (w : World) (size : Int) (rs : List Rec) (e : Ending) (w' : World) : Prop :=
  Below w.heap.size w w' ∧
  ((jE size rs = 0 ∧ ∃ ko cap oo oc, e = .returned (.tuple #[.slice ko (ag rs).length cap, .slice oo rs.length oc, .int .i64 0]) ∧ Ow w' w.heap.size ko (ag rs).length cap (ag rs) ∧ On w' w.heap.size oo rs.length oc (offP rs rs.length) ∧ (ag rs).length ≤ 600000 ∧ Bts (ag rs) ∧ 32 ≤ size ∧ size ≤ 256 ∧ 1 ≤ rs.length ∧ rs.length ≤ 64) ∨
   (jE size rs ≠ 0 ∧ e = .returned (.tuple #[.slice none 0 0, .slice none 0 0, .int .i64 (jE size rs)])))

set_option maxRecDepth 100000 in
set_option maxHeartbeats 4000000 in
theorem rbytes (size : Int) (ao : Option Addr) (n cap : Nat) (rs : List Rec) (w : World) (hl : rs.length = n) (hm : n ≤ maxLen) (h : Rs w ao rs) :
    Calls Tryd.prog 25 #[.int .i64 size, .slice ao n cap] w (RJP w size rs) := by
  have hJE : jE size rs = if size < 32 ∨ 256 < size then 1 else if n < 1 ∨ 64 < n then 2 else if je rs ≠ 0 then je rs else if hts rs then 1 else 0 := by unfold jE; rw [hl]
  unfold maxLen at hm
  by_cases h1 : size < 32
  · have hE : jE size rs = 1 := by rw [hJE, if_pos (.inl h1)]
    have HE := Lib.hid hE
    have d1 : decide (size < 32) = true := decide_eq_true h1
    clear hJE hE h
    go_enter Tryd.func25, Tryd.ntmps25
    go_wp2
    go_ret3
    exact ⟨Below.refl _ _, .inr ⟨by rw [HE.out]; decide, by rw [HE.out]; rfl⟩⟩
  have d1 : decide (size < 32) = false := decide_eq_false h1
  by_cases h2 : 256 < size
  · have hE : jE size rs = 1 := by rw [hJE, if_pos (.inr h2)]
    have HE := Lib.hid hE
    have d2 : decide (256 < size) = true := decide_eq_true h2
    clear hJE hE h
    go_enter Tryd.func25, Tryd.ntmps25
    go_wp2
    go_ret3
    exact ⟨Below.refl _ _, .inr ⟨by rw [HE.out]; decide, by rw [HE.out]; rfl⟩⟩
  have d2 : decide (256 < size) = false := decide_eq_false h2
  rw [if_neg (by omega)] at hJE
  by_cases h3 : n < 1
  · have hE : jE size rs = 2 := by rw [hJE, if_pos (.inl h3)]
    have HE := Lib.hid hE
    have d3 : decide ((n : Int) < 1) = true := decide_eq_true (by omega)
    have d3' : decide (n < 1) = true := decide_eq_true h3
    clear hJE hE h
    go_enter Tryd.func25, Tryd.ntmps25
    go_wp2
    go_ret3
    exact ⟨Below.refl _ _, .inr ⟨by rw [HE.out]; decide, by rw [HE.out]; rfl⟩⟩
  have d3 : decide ((n : Int) < 1) = false := decide_eq_false (by omega)
  have d3' : decide (n < 1) = false := decide_eq_false h3
  by_cases h4 : 64 < n
  · have hE : jE size rs = 2 := by rw [hJE, if_pos (.inr h4)]
    have HE := Lib.hid hE
    have d4 : decide ((64 : Int) < (n : Int)) = true := decide_eq_true (by omega)
    have d4' : decide (64 < n) = true := decide_eq_true h4
    clear hJE hE h
    go_enter Tryd.func25, Tryd.ntmps25
    go_wp2
    go_ret3
    exact ⟨Below.refl _ _, .inr ⟨by rw [HE.out]; decide, by rw [HE.out]; rfl⟩⟩
  have d4 : decide ((64 : Int) < (n : Int)) = false := decide_eq_false (by omega)
  have d4' : decide (64 < n) = false := decide_eq_false h4
  rw [if_neg (by omega)] at hJE
  have HJE := Lib.hid hJE; have HL := Lib.hid hl; have HR := Lib.hid h
  clear hJE hl h
  go_enter Tryd.func25, Tryd.ntmps25
  go_wp2
  go_loopw [7] (fun i wr => ∃ k : Nat, k ≤ n ∧ i = .int .i64 k ∧ je (rs.drop k) = je rs ∧ Below w.heap.size w wr) (fun i _ => n - (intOf i).toNat)
  case atStart => exact ⟨0, Nat.zero_le _, rfl, rfl, Below.refl _ _⟩
  case round =>
    obtain ⟨k, hk, rfl, hje, hB⟩ := hrel
    have HJK := Lib.hid hje; have HB := Lib.hid hB
    by_cases hlt : k < n
    · have e1 : decide ((k : Int) < (n : Int)) = true := decide_eq_true (by omega)
      have i1 : (0 : Int) ≤ (k : Int) := by omega
      have i2 : (k : Int) < (n : Int) := by omega
      have hlt' : k < rs.length := by rw [HL.out]; exact hlt
      obtain ⟨b, o, rfl, hc⟩ : ∃ b o, ao = some ⟨b, o, none⟩ ∧ _ := by
        rcases HR.out.below hB with h | h
        · rw [h] at hlt'; exact absurd hlt' (Nat.not_lt_zero _)
        · exact h
      obtain ⟨c0, c1, c2, hd⟩ := hc k hlt'
      have hjd := je_drop rs k hlt'
      obtain ⟨r, hr⟩ : ∃ r, r = rs[k] := ⟨_, rfl⟩
      rw [← hr] at c0 c1 c2 hjd
      obtain ⟨q, hq⟩ : ∃ q, q = chk r.k r.s r.d.l := ⟨_, rfl⟩
      have hck := rrec_any r wr
      rw [← hq] at hck hjd
      obtain ⟨rk0, rs0, ⟨ra, rl, rc, rz0⟩⟩ := r
      simp only at c0 c1 c2 hck
      change Calls Tryd.prog 34 #[.agg #[.int .i64 rk0, .int .i64 rs0, .slice ra rl rc]] wr _ at hck
      have HCK := Lib.hid hck; have HJD := Lib.hid hjd
      clear hck hjd hq hr hd hc hje hB
      go_wp2_with (go_at_call 34; fail)
      refine HCK.out.mono ?_
      rintro e w2 ⟨rfl, hB2⟩
      have HB2 := Lib.hid (HB.out.trans (hB2.mono HB.out.size))
      clear hB2 c0 c1 c2
      by_cases hq0 : q = 0
      · subst hq0
        go_wp2
        go_roundw
        case rel =>
          refine ⟨k + 1, by omega, by go_num, ?_, HB2.out⟩
          have := HJD.out
          rw [if_pos trivial] at this
          rw [← this]; exact HJK.out
        case measure => simp [intOf]; omega
      · have dq : (q != 0) = true := by simpa using hq0
        have hE : jE size rs = q := by
          have := HJD.out
          rw [if_neg hq0] at this
          have hjq : je rs = q := HJK.out.symm.trans this
          rw [HJE.out, if_pos (by rw [hjq]; exact hq0), hjq]
        have HE := Lib.hid hE
        clear hE
        go_wp2
        go_ret3
        exact ⟨HB2.out, .inr ⟨by rw [HE.out]; exact hq0, by rw [HE.out]; rfl⟩⟩
    · have e1 : decide ((k : Int) < (n : Int)) = false := decide_eq_false (by omega)
      obtain rfl : n = k := by omega
      have hd0 : rs.drop n = [] := List.drop_eq_nil_of_le (by rw [HL.out]; exact Nat.le_refl _)
      have hz : je rs = 0 := by rw [← hje, hd0]; rfl
      have hJE2 : jE size rs = if hts rs then 1 else 0 := by rw [HJE.out, if_neg (by simp [hz])]
      have hchk := je_all rs hz
      have HJE2 := Lib.hid hJE2; have HCHK := Lib.hid hchk
      clear hje hB hd0 hz hJE2 hchk HJK HJE
      obtain ⟨wo, rfl⟩ : ∃ wo : World, wo = wr := ⟨_, rfl⟩
      go_wp2
      go_loopw [9] (fun i wr => ∃ k : Nat, k ≤ n ∧ i = .int .i64 k ∧ (∀ j, (hj : j < rs.length) → j < k → rs[j].k < 4) ∧ wr = wo) (fun i _ => n - (intOf i).toNat)
      case atStart => exact ⟨0, Nat.zero_le _, rfl, fun j _ hj => absurd hj (Nat.not_lt_zero _), rfl⟩
      case round =>
        obtain ⟨k, hk, rfl, hkd, rfl⟩ := hrel
        have HKD := Lib.hid hkd
        by_cases hlt : k < n
        · have e1 : decide ((k : Int) < (n : Int)) = true := decide_eq_true (by omega)
          have i1 : (0 : Int) ≤ (k : Int) := by omega
          have i2 : (k : Int) < (n : Int) := by omega
          have hlt' : k < rs.length := by rw [HL.out]; exact hlt
          obtain ⟨b, o, rfl, hc⟩ : ∃ b o, ao = some ⟨b, o, none⟩ ∧ _ := by
            rcases HR.out.below HB.out with h | h
            · rw [h] at hlt'; exact absurd hlt' (Nat.not_lt_zero _)
            · exact h
          obtain ⟨c0, c1, c2, hd⟩ := hc k hlt'
          have hck := chk_ok (HCHK.out k hlt')
          obtain ⟨r, hr⟩ : ∃ r, r = rs[k] := ⟨_, rfl⟩
          rw [← hr] at c0 c1 c2 hck
          have HRR := Lib.hid hr; have HCK := Lib.hid hck
          clear hck hr hd hc hkd
          by_cases h4 : 4 ≤ r.k
          · have e4 : decide (4 ≤ r.k) = true := decide_eq_true h4
            have hE : jE size rs = 1 := by
              rw [HJE2.out, if_pos]
              unfold hts
              refine List.any_eq_true.2 ⟨r, by rw [HRR.out]; exact List.getElem_mem _, ?_⟩
              have := HCK.out.1.2.1
              have h45 : r.k = 4 ∨ r.k = 5 := by omega
              rcases h45 with h | h <;> simp [h]
            have HE := Lib.hid hE
            clear hE
            go_wp2
            go_ret3
            exact ⟨HB.out, .inr ⟨by rw [HE.out]; decide, by rw [HE.out]; rfl⟩⟩
          · have e4 : decide (4 ≤ r.k) = false := decide_eq_false h4
            go_wp2
            go_roundw
            case rel =>
              refine ⟨k + 1, by omega, by go_num, fun j hj hjk => ?_, by first | trivial | rfl⟩
              by_cases e : j < k
              · exact HKD.out j hj e
              · obtain rfl : j = k := by omega
                rw [← HRR.out]; omega
            case measure => simp [intOf]; omega
        · have e1 : decide ((k : Int) < (n : Int)) = false := decide_eq_false (by omega)
          obtain rfl : n = k := by omega
          have hE : jE size rs = 0 := by
            rw [HJE2.out, if_neg]
            unfold hts
            intro hany
            obtain ⟨r, hr, hrk⟩ := List.any_eq_true.1 hany
            obtain ⟨j, hj, rfl⟩ := List.getElem_of_mem hr
            have := hkd j hj (by rw [HL.out] at hj; exact hj)
            simp at hrk
            omega
          have hd8 : ∀ i, (hi : i < rs.length) → rs[i].d.z.length ≤ 8000 ∧ Bts rs[i].d.z := fun i hi => by
            rcases HR.out with h | ⟨_, _, _, h⟩
            · rw [h] at hi; exact absurd hi (Nat.not_lt_zero _)
            · have hok := (h i hi).2.2.2
              exact ⟨by rw [hok.len]; exact (chk_ok (HCHK.out i hi)).2, hok.bts⟩
          have hfb := frs_bound rs fun i hi => (hd8 i hi).1
          have hbts := bts_frs rs fun i hi => (hd8 i hi).2
          rw [HL.out] at hfb
          have hnil : ∀ V, Part.ok V ⟨none, 0, 0, []⟩ := fun V => ⟨Rd.nil _ _, rfl, Bts.nil, Nat.zero_le _, fun _ => rfl⟩
          have hb4 : ∀ V, Calls Tryd.prog 35 #[.agg #[.int .i64 4, .int .i64 n, .slice none 0 0]] V (R1 V 13 (fr 4 n [])) := fun V =>
            rframe_ok ⟨4, n, ⟨none, 0, 0, []⟩⟩ V ⟨by show (1 : Int) ≤ 4; omega, by show (4 : Int) ≤ 5; omega, by show (0 : Int) ≤ (n : Int); omega, by show (n : Int) < 1073741824; omega⟩ (by show 0 ≤ 8000; omega) (hnil V)
          have hb5 : ∀ V, Calls Tryd.prog 35 #[.agg #[.int .i64 5, .int .i64 n, .slice none 0 0]] V (R1 V 13 (fr 5 n [])) := fun V =>
            rframe_ok ⟨5, n, ⟨none, 0, 0, []⟩⟩ V ⟨by show (1 : Int) ≤ 5; omega, by show (5 : Int) ≤ 5; omega, by show (0 : Int) ≤ (n : Int); omega, by show (n : Int) < 1073741824; omega⟩ (by show 0 ≤ 8000; omega) (hnil V)
          have HJ0 := Lib.hid hE; have HFB := Lib.hid hfb; have HBTS := Lib.hid hbts; have HB4 := Lib.hid hb4; have HB5 := Lib.hid hb5
          clear hE hd8 hfb hbts hnil hb4 hb5 hkd HKD HJE2
          go_wp2_with (go_at_call 35; fail)
          refine (HB4.out _).mono ?_
          rintro e w2 ⟨kh, ch, rfl, hoh, hB2⟩
          have HOH : Hid (Ow w2 w.heap.size kh 13 ch (fr 4 n [])) := hoh.base HB.out.size
          have HB2 : Hid (Below w.heap.size w w2) := HB.out.trans (hB2.mono HB.out.size)
          clear hoh hB2 HB HB4
          obtain ⟨wo, rfl⟩ : ∃ wo : World, wo = w2 := ⟨_, rfl⟩
          go_wp2
          go_loopw [10, 11, 12] (fun v x i wr => ∃ (k L : Nat) (ko oo : Option Addr) (kc oc : Nat), k ≤ n ∧ i = .int .i64 k ∧ v = .slice ko L kc ∧ x = .slice oo k oc ∧ L = 13 + (frs (rs.take k)).length ∧ Ow wr w.heap.size ko L kc (fr 4 n [] ++ frs (rs.take k)) ∧ On wr w.heap.size oo k oc (offP rs k) ∧ Below w.heap.size w wr) (fun _ _ i _ => n - (intOf i).toNat)
          case atStart => exact ⟨0, 13, kh, none, ch, 0, Nat.zero_le _, rfl, rfl, rfl, rfl, by rw [List.take_zero]; show Ow _ _ _ _ _ (_ ++ []); rw [List.append_nil]; exact HOH.out, On.nil _ _, HB2.out⟩
          case round =>
            obtain ⟨k, L, ko, oo, kc, oc, hk, rfl, rfl, rfl, hLL, how, hon, hB⟩ := hrel
            have hmono := frs_mono rs k (by rw [HL.out]; exact hk)
            have hfb := HFB.out
            by_cases hlt : k < n
            · have e1 : decide ((k : Int) < (n : Int)) = true := decide_eq_true (by omega)
              have i1 : (0 : Int) ≤ (k : Int) := by omega
              have i2 : (k : Int) < (n : Int) := by omega
              have hlt' : k < rs.length := by rw [HL.out]; exact hlt
              obtain ⟨b, o, rfl, hc⟩ : ∃ b o, ao = some ⟨b, o, none⟩ ∧ _ := by
                rcases HR.out.below hB with h | h
                · rw [h] at hlt'; exact absurd hlt' (Nat.not_lt_zero _)
                · exact h
              have hck := chk_ok (HCHK.out k hlt')
              have hcat := frs_take rs k hlt'
              obtain ⟨c0, c1, c2, hd⟩ := hc k hlt'
              obtain ⟨r, hr⟩ : ∃ r, r = rs[k] := ⟨_, rfl⟩
              rw [← hr] at c0 c1 c2 hd hcat hck
              have hcl := congrArg List.length hcat
              rw [List.length_append, fr_len, hd.len] at hcl
              have hmono2 := frs_mono rs (k + 1) (by omega)
              have hos := offP_succ rs k
              rw [show (13 : Int) + ((frs (rs.take k)).length : Int) = (L : Int) by omega] at hos
              have hdl : r.d.l ≤ 8000 := hck.2
              have hLb : L + (13 + r.d.l) ≤ 600000 := by omega
              have hcells : ∀ V, Below wr.heap.size wr V → V.cell? ⟨b, o + k * 3, none⟩ = some (.int .i64 r.k) ∧ V.cell? ⟨b, o + k * 3 + 1, none⟩ = some (.int .i64 r.s) ∧ V.cell? ⟨b, o + k * 3 + 2, none⟩ = some (.slice r.d.a r.d.l r.d.c) := fun V hV =>
                ⟨by rw [hV.cell (cell_lt c0)]; exact c0, by rw [hV.cell (cell_lt c1)]; exact c1, by rw [hV.cell (cell_lt c2)]; exact c2⟩
              have hcells2 : ∀ V, Below w.heap.size wr V → V.cell? ⟨b, o + k * 3, none⟩ = some (.int .i64 r.k) ∧ V.cell? ⟨b, o + k * 3 + 1, none⟩ = some (.int .i64 r.s) ∧ V.cell? ⟨b, o + k * 3 + 2, none⟩ = some (.slice r.d.a r.d.l r.d.c) ∧ Part.ok V r.d := fun V hV => by
                have hR2 := HR.out.below (hB.trans hV)
                rcases hR2 with h | ⟨b', o', he, h⟩
                · rw [h] at hlt'; exact absurd hlt' (Nat.not_lt_zero _)
                · cases he
                  rw [hr]; exact h k hlt'
              have hfo := fun V (hV : Below w.heap.size wr V) => rframe_ok r V hck.1 hck.2 (hcells2 V hV).2.2.2
              have hlen := congrArg List.length hcat
              have hzr := fr_len r.k r.s r.d.z
              rw [hd.len] at hzr
              obtain ⟨F, hF⟩ : ∃ F, F = fr r.k r.s r.d.z := ⟨_, rfl⟩
              rw [← hF] at hcat hfo hzr
              obtain ⟨rk0, rs0, ⟨ra, rl, rc, rz0⟩⟩ := r
              simp only at c0 c1 c2 hfo hdl hcells2 hLb hzr hcl
              change ∀ V, Below w.heap.size wr V → Calls Tryd.prog 35 #[.agg #[.int .i64 rk0, .int .i64 rs0, .slice ra rl rc]] V _ at hfo
              have hal : Below wr.heap.size wr (wr.alloc (.cells #[.int .i64 (L : Int)] 3)) := (Below.refl _ _).alloc (Nat.le_refl _) _
              have HG : Hid ((wr.alloc (.cells #[.int .i64 (L : Int)] 3)).heap[wr.heap.size]? = some (.cells #[.int .i64 (L : Int)] 3 (0, 0))) := heap_alloc_new _ _
              have HBA := Lib.hid (hB.trans (hal.mono hB.size)); have HSZ := Lib.hid hB.size
              have HBW := Lib.hid (hal.mono hB.size)
              have HON := Lib.hid (hon.below hal); have HOW := Lib.hid (how.below hal)
              have HC2 := Lib.hid hcells2; have HFO := Lib.hid hfo; have HCAT := Lib.hid hcat; have HOS := Lib.hid hos; have HCL := Lib.hid hcl; have HZR := Lib.hid hzr; have HLL := Lib.hid hLL
              clear hc hck hcat c0 c1 c2 hd hr hcl hmono hmono2 hos hcells hcells2 hfo hlen hF hal hB hon how hLL hzr HB2 HOH
              go_wp2_with (at_builtin; refine append_num2 rfl (.tmp 63) (.tmp 66) rfl w.heap.size k oc wr.heap.size oo (offP rs k) (L : Int) rfl HON.out rfl HG.out (by omega) HBA.out.size ?_; intro oo' oc' w5 ho5 hB5 hg5; have HO5 := Lib.hid ho5; have HOW5 : Hid (Ow w5 w.heap.size ko L kc (fr 4 n [] ++ frs (rs.take k))) := ⟨HOW.out.1, HOW.out.2.1, HOW.out.2.2.1, owns_grown (by decide) HOW.out.2.2.2 HON.out.2.2.2 hg5⟩; have HB5 := Lib.hid (HBW.out.trans hB5); have HBB5 := Lib.hid (HBA.out.trans hB5); obtain ⟨e0, e1, e2, _⟩ := HC2.out w5 HB5.out; have HFO5 := Lib.hid (HFO.out w5 HB5.out); clear ho5 hB5 hg5)
              refine HFO5.out.mono ?_
              rintro e w6 ⟨k6, c6, rfl, ho6, hB6⟩
              have HO6 := Lib.hid ho6; have HON6 := Lib.hid (HO5.out.below hB6); have HOW6 := Lib.hid (HOW5.out.below hB6); have HB6 := Lib.hid (HBB5.out.trans (hB6.mono HBB5.out.size))
              clear ho6 hB6 e0 e1 e2
              go_wp2_with (at_builtin; refine append_bytes2 rfl (.tmp 68) (.tmp 73) rfl w.heap.size L kc (13 + rl) c6 ko k6 _ F rfl HOW6.out rfl HO6.out.rd (ow_len HO6.out) (by omega) (by omega) HB6.out.size ?_; intro k7 c7 w7 ho7 hB7 hg7; have HO7 := Lib.hid ho7; have HON7 := Lib.hid (HON6.out.grownB HOW6.out hg7); have HB7 := Lib.hid (HB6.out.trans hB7); clear ho7 hB7 hg7)
              go_roundw
              case rel =>
                refine ⟨k + 1, L + (13 + rl), k7, oo', c7, oc', by omega, by go_num, rfl, rfl, ?_, ?_, ?_, HB7.out⟩
                · rw [HCL.out, HLL.out]; omega
                · rw [HCAT.out, ← List.append_assoc]; exact HO7.out
                · rw [HOS.out]; exact HON7.out
              case measure => simp [intOf]; omega
            · have e1 : decide ((k : Int) < (n : Int)) = false := decide_eq_false (by omega)
              obtain rfl : n = k := by omega
              have ht : rs.take n = rs := List.take_of_length_le (by rw [HL.out]; exact Nat.le_refl _)
              rw [ht] at how hLL hmono
              have hag : (fr 4 (n : Int) [] ++ frs rs) ++ fr 5 (n : Int) [] = ag rs := by unfold ag; rw [HL.out, List.append_assoc]
              have hagl : (ag rs).length = L + 13 := by rw [ag_len, hLL]; omega
              have hagb : Bts (ag rs) := by rw [← hag]; exact bts_app (bts_app (fr_bts _ _ _ Bts.nil) HBTS.out) (fr_bts _ _ _ Bts.nil)
              have hLb : L + 13 ≤ 600000 := by omega
              have HOW := Lib.hid how; have HON := Lib.hid hon; have HBR := Lib.hid hB; have HAG := Lib.hid hag; have HAGL := Lib.hid hagl; have HAGB := Lib.hid hagb
              have HB5' := Lib.hid (HB5.out wr)
              clear ht how hon hB hag hagl hagb hLL hmono hfb HB5 HB2 HOH
              go_wp2_with (go_at_call 35; fail)
              refine HB5'.out.mono ?_
              rintro e w5 ⟨k5, c5, rfl, ho5, hB5⟩
              have HO5 := Lib.hid ho5; have HOW5 := Lib.hid (HOW.out.below hB5); have HON5 := Lib.hid (HON.out.below hB5); have HB5 := Lib.hid (HBR.out.trans (hB5.mono HBR.out.size))
              clear ho5 hB5
              go_wp2_with (at_builtin; refine append_bytes2 rfl _ _ rfl w.heap.size L kc 13 c5 ko k5 _ (fr 5 (n : Int) []) rfl HOW5.out rfl HO5.out.rd (ow_len HO5.out) (by omega) (by omega) HB5.out.size ?_; intro k7 c7 w7 ho7 hB7 hg7; have HO7 := Lib.hid ho7; have HON7 := Lib.hid (HON5.out.grownB HOW5.out hg7); have HB7 := Lib.hid (HB5.out.trans hB7); clear ho7 hB7 hg7)
              go_ret3
              refine ⟨HB7.out, .inl ⟨HJ0.out, k7, c7, oo, oc, ?_, ?_, ?_, ?_, HAGB.out, by omega, by omega, ?_, ?_⟩⟩
              · rw [HAGL.out, HL.out]; rfl
              · rw [HAGL.out, ← HAG.out]; exact HO7.out
              · rw [HL.out]; exact HON7.out
              · rw [HAGL.out]; omega
              · rw [HL.out]; omega
              · rw [HL.out]; omega

end Go.Proofs.YtifbbikhjolnjaaDoor
