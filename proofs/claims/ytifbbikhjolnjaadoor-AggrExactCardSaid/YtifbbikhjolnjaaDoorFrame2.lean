/-
  Frames: a row of records; Join.
-/
import Derived.Test.YtifbbikhjolnjaaDoorFrame1
import Derived.Deep.AppendLies
namespace Go.Proofs.YtifbbikhjolnjaaDoor
open Go.RowKit
set_option linter.unusedVariables false

/-- THE RECORDS rs LIE AT ao. -/
def Rs (w : World) (ao : Option Addr) (rs : List Rec) : Prop :=
  rs = [] ∨ ∃ b o, ao = some ⟨b, o, none⟩ ∧ ∀ i, (h : i < rs.length) → w.cell? ⟨b, o + i * 3, none⟩ = some (.int .i64 rs[i].k) ∧ w.cell? ⟨b, o + i * 3 + 1, none⟩ = some (.int .i64 rs[i].s) ∧ w.cell? ⟨b, o + i * 3 + 2, none⟩ = some (.slice rs[i].d.a rs[i].d.l rs[i].d.c) ∧ rs[i].d.ok w
theorem Rs.below {w w' : World} {ao : Option Addr} {rs : List Rec} (h : Rs w ao rs) (hB : Below w.heap.size w w') : Rs w' ao rs := by
  rcases h with h | ⟨b, o, ha, hc⟩
  · exact .inl h
  · exact .inr ⟨b, o, ha, fun i hi => by
      obtain ⟨h1, h2, h3, h4⟩ := hc i hi
      exact ⟨by rw [hB.cell (cell_lt h1)]; exact h1, by rw [hB.cell (cell_lt h2)]; exact h2, by rw [hB.cell (cell_lt h3)]; exact h3, h4.below hB⟩⟩
/-- The frames, one behind the other. -/
def frs (rs : List Rec) : List Int := rs.flatMap fun r => fr r.k r.s r.d.z
/-- What Join tells. -/
def je : List Rec → Int
  | [] => 0
  | r :: rs => if chk r.k r.s r.d.l = 0 then je rs else chk r.k r.s r.d.l
theorem frs_take (rs : List Rec) (i : Nat) (h : i < rs.length) : frs (rs.take (i + 1)) = frs (rs.take i) ++ fr rs[i].k rs[i].s rs[i].d.z := by
  unfold frs
  rw [List.take_succ_eq_append_getElem h, List.flatMap_append]
  simp only [List.flatMap_cons, List.flatMap_nil, List.append_nil]
theorem je_drop (rs : List Rec) (i : Nat) (h : i < rs.length) : je (rs.drop i) = if chk rs[i].k rs[i].s rs[i].d.l = 0 then je (rs.drop (i + 1)) else chk rs[i].k rs[i].s rs[i].d.l := by
  rw [List.drop_eq_getElem_cons h]; rfl
theorem chk_ok {k s : Int} {n : Nat} (h : chk k s n = 0) : nok k s ∧ n ≤ 8000 := by
  unfold chk at h
  by_cases h1 : nok k s
  · rw [if_pos h1] at h
    by_cases h2 : n ≤ 8000
    · exact ⟨h1, h2⟩
    · rw [if_neg h2] at h; omega
  · rw [if_neg h1] at h; omega
/-- Does ko point elsewhere than into block j? -/
def Far (ko : Option Addr) (j : Nat) : Prop := ∀ ad, ko = some ad → ad.block ≠ j
theorem Ow.lt {w : World} {base n kc : Nat} {ko : Option Addr} {xs : List Int} (h : Ow w base ko n kc xs) {ad : Addr} (e : ko = some ad) : ad.block < w.heap.size := by
  rcases h.2.2.2.2 with ⟨q, _⟩ | ⟨g, c, cur, q, _, hg, _⟩
  · simp only [Value.slice.injEq] at q; rw [q.1] at e; cases e
  · simp only [Value.slice.injEq] at q; rw [q.1] at e; cases e; exact (Array.getElem?_eq_some_iff.1 hg).1
theorem Ow.far {w : World} {base n kc : Nat} {ko : Option Addr} {xs : List Int} (h : Ow w base ko n kc xs) {j : Nat} (hj : w.heap.size ≤ j) : Far ko j := fun ad e => by
  have := h.lt e; omega
theorem far_row {ko : Option Addr} {j n kc : Nat} (h : Far ko j) : some j ≠ (Value.slice ko n kc).ownBlock := by
  cases ko with
  | none => simp [Value.ownBlock]
  | some ad =>
    obtain ⟨b, o, m⟩ := ad
    have := h _ rfl
    intro e
    simp [Value.ownBlock] at e
    first | exact this e.symm | (simp at this; omega)
theorem append_far {w : World} {ops : Array Oper} {rest : List Oper} {o : Oper} {a : Act} {Q : Exit → Act → World → Prop} (hgd : o.guard = none) (s x : Operand)
    (ho : o.op = .call { callee := .builtin .append, args := #[s, x], argTypes := #[39, 39] })
    (base n kc m mc : Nat) (ko : Option Addr) (ad : Addr) (xs ys : List Int) (hs : a.eval s = .slice ko n kc) (hown : Ow w base ko n kc xs) (hx : a.eval x = .slice (some ad) m mc) (hr : Rd w (some ad) ys) (hl : ys.length = m) (h0 : 0 < m)
    (hm : n + m ≤ 1000000000) (hb : base ≤ w.heap.size)
    (h : ∀ g kc' w', Ow w' base (some ⟨g, 0, none⟩) (n + m) kc' (xs ++ ys) → Below base w w' → (∀ j, j < w.heap.size → Far ko j → Far (some ⟨g, 0, none⟩) j ∧ w'.heap[j]? = w.heap[j]?) → w.heap.size ≤ w'.heap.size → wpList Tryd.prog ops Q rest (a.put o.dst (.slice (some ⟨g, 0, none⟩) (n + m) kc')) w') : wpList Tryd.prog ops Q (o :: rest) a w := by
  obtain ⟨i0, hi, hz0, hz1, hz2⟩ := info_parts Tryd.info5
  have hlx := hown.1
  refine wpList_append_lies _ hgd s x 39 ho base 5 i0 (.int .u8 0) 1 1 Tryd.underlying39 hi hz0 hz1 hz2 rfl (by decide) _ n _ hs hown.2.2.2 ad m mc (ys.map (.int .u8)) hx (by simp [hl]) (hr.cells ad rfl) (ints_oneCell _ _) h0 (by unfold maxLen; omega) (by omega) hb _ rfl ?_
  intro g cap w' ho' hg' hat hlt
  rw [← List.map_append] at ho'
  obtain ⟨ko', kc', e', how⟩ := Ow.of (by simp [hlx, hl]) ho'
  simp only [Value.slice.injEq] at e'
  obtain ⟨rfl, _, rfl⟩ := e'
  have hB := Below.grown (Below.refl base w) hg' hb (own_ge hown.2.2.2)
  refine h g cap w' how hB (fun j hj hf => ⟨fun ad' e => ?_, hg'.block j hj (far_row hf)⟩) hg'.size
  cases e
  rcases hat with hat | hat
  · intro e2
    simp only at e2
    subst e2
    exact far_row hf hat.symm
  · simp only; omega
set_option maxHeartbeats 1000000 in
theorem join_any (ao : Option Addr) (n cap : Nat) (rs : List Rec) (w : World) (hl : rs.length = n) (hm : n ≤ 1000) (hT : Tab w) (h : Rs w ao rs) :
    Calls Tryd.prog 31 #[.slice ao n cap] w fun e w' => (je rs = 0 ∧ RB w (frs rs).length (frs rs) e w') ∨ (je rs ≠ 0 ∧ e = .returned (.tuple #[.slice none 0 0, .int .i64 (je rs)]) ∧ Below w.heap.size w w') := by
  have HL := Lib.hid hl; have HR := Lib.hid h; have HT := Lib.hid hT
  clear hl h hT
  go_enter Tryd.func31, Tryd.ntmps31
  go_wp2
  go_loopw [4, 15] (fun q i wr => ∃ k : Nat, k ≤ n ∧ i = .int .i64 k ∧ q = .int .i64 (frs (rs.take k)).length ∧ je (rs.drop k) = je rs ∧ (frs (rs.take k)).length ≤ 8013 * k ∧ (∀ j, (hj : j < rs.length) → j < k → chk rs[j].k rs[j].s rs[j].d.l = 0) ∧ Below w.heap.size w wr) (fun _ i _ => n - (intOf i).toNat)
  case atStart => exact ⟨0, Nat.zero_le _, rfl, rfl, rfl, Nat.zero_le _, fun j _ hj => absurd hj (Nat.not_lt_zero _), Below.refl _ _⟩
  case round =>
    obtain ⟨k, hk, rfl, rfl, hje, hsz, hall, hB⟩ := hrel
    have HJE := Lib.hid hje; have HALL := Lib.hid hall; have HB := Lib.hid hB
    by_cases hlt : k < n
    · have d1 : decide ((k : Int) < (n : Int)) = true := decide_eq_true (by omega)
      have hlt' : k < rs.length := by rw [HL.out]; exact hlt
      obtain ⟨b, o, rfl, hc⟩ : ∃ b o, ao = some ⟨b, o, none⟩ ∧ _ := by
        rcases HR.out.below hB with h | h
        · rw [h] at hlt'; exact absurd hlt' (Nat.not_lt_zero _)
        · exact h
      obtain ⟨c0, c1, c2, hd⟩ := hc k hlt'
      obtain ⟨r, hr⟩ : ∃ r, r = rs[k] := ⟨_, rfl⟩
      rw [← hr] at c0 c1 c2 hd
      have hcat := frs_take rs k hlt'
      have hjd := je_drop rs k hlt'
      rw [← hr] at hcat hjd
      have hcl := congrArg List.length hcat
      rw [List.length_append, fr_len, hd.len] at hcl
      obtain ⟨L, hL⟩ : ∃ L, L = (frs (rs.take k)).length := ⟨_, rfl⟩
      rw [← hL] at hcl hsz ⊢
      have HCK := Lib.hid (fun V => fcheck_any r V)
      have HCL := Lib.hid hcl; have HJD := Lib.hid hjd; have HRR := Lib.hid hr
      obtain ⟨q, hq⟩ : ∃ q, q = chk r.k r.s r.d.l := ⟨_, rfl⟩
      rw [← hq] at HCK HJD
      have HQ := Lib.hid hq
      clear hje hall hB hc hL hcat hjd hcl hr hd hq
      go_wp2_with (go_at_call 37; fail)
      obtain ⟨W1, hW1⟩ : ∃ W1, W1 = wr.alloc (.cells #[.int .i64 r.k, .int .i64 r.s, .slice r.d.a r.d.l r.d.c] 43) := ⟨_, rfl⟩
      have hBW : Below wr.heap.size wr W1 := by rw [hW1]; exact (Below.refl _ _).alloc (Nat.le_refl _) _
      have hbx : W1.heap[wr.heap.size]? = some (.cells #[.int .i64 r.k, .int .i64 r.s, .slice r.d.a r.d.l r.d.c] 43) := by rw [hW1]; exact heap_alloc_new _ _
      rw [← hW1]
      refine (HCK.out W1).mono ?_
      rintro e w2 ⟨rfl, hB2⟩
      have HB2 : Hid (Below w.heap.size w w2) := (HB.out.trans (hBW.mono HB.out.size)).trans (hB2.mono (Nat.le_trans HB.out.size hBW.size))
      have hb2 : w2.heap[wr.heap.size]? = some (.cells #[.int .i64 r.k, .int .i64 r.s, .slice r.d.a r.d.l r.d.c] 43) := by rw [hB2.block _ (Array.getElem?_eq_some_iff.1 hbx).1]; exact hbx
      have e2 : w2.cell? ⟨wr.heap.size, 2, none⟩ = some (.slice r.d.a r.d.l r.d.c) := by simp [World.cell?, hb2]
      clear hW1 hBW hbx hB2 hb2 c0 c1 c2
      by_cases hq0 : q = 0
      · have d2 : (q != 0) = false := by rw [hq0]; rfl
        have hl8 : r.d.l ≤ 8000 := (chk_ok (HQ.out.symm.trans hq0)).2
        have HQ0 := Lib.hid hq0
        clear hq0
        go_wp2
        go_roundw
        case rel => exact ⟨k + 1, by omega, by go_num, by rw [HCL.out]; go_num, by rw [← HJE.out, HJD.out, if_pos HQ0.out], by rw [HCL.out]; omega, fun j hj hjk => by
          by_cases hjk' : j < k
          · exact HALL.out j hj hjk'
          · obtain rfl : j = k := by omega
            rw [← HRR.out, ← HQ.out]; exact HQ0.out, HB2.out⟩
        case measure => simp [intOf]; omega
      · have d2 : (q != 0) = true := by simp [hq0]
        have hje : je rs = q := by rw [← HJE.out, HJD.out, if_neg hq0]
        have HX : Hid (je rs ≠ 0 ∧ je rs = q) := ⟨by rw [hje]; exact hq0, hje⟩
        clear hq0 hje
        go_wp2
        go_ret2
        exact .inr ⟨HX.out.1, by rw [HX.out.2]; rfl, HB2.out⟩
    · have d1 : decide ((k : Int) < (n : Int)) = false := decide_eq_false (by omega)
      obtain rfl : n = k := by omega
      have hjz : je rs = 0 := by
        rw [← hje, show rs.drop n = [] from List.drop_of_length_le (by rw [HL.out]; exact Nat.le_refl _)]; rfl
      have htk : rs.take n = rs := List.take_of_length_le (by rw [HL.out]; exact Nat.le_refl _)
      rw [htk] at hsz ⊢
      obtain ⟨zs, hzs⟩ : ∃ zs, zs = frs rs := ⟨_, rfl⟩
      obtain ⟨N, hN⟩ : ∃ N, N = zs.length := ⟨_, rfl⟩
      rw [← hzs, ← hN] at hsz ⊢
      have hi0 : (0 : Int) ≤ (N : Int) := by omega
      have hall' : ∀ j, (hj : j < rs.length) → chk rs[j].k rs[j].s rs[j].d.l = 0 := fun j hj => hall j hj (by rw [HL.out] at hj; exact hj)
      have HJZ := Lib.hid hjz; have HZS := Lib.hid hzs; have HN := Lib.hid hN; have HALL2 := Lib.hid hall'
      obtain ⟨i0, hi, hz0, hz1, hz2⟩ := info_parts Tryd.info5
      have HI := Lib.hid (show Tryd.prog.info? 5 = some i0 ∧ i0.zero = some (.int .u8 0) ∧ i0.size = 1 ∧ i0.bytes = 1 from ⟨hi, hz0, hz1, hz2⟩)
      clear hje hall hB htk hzs hN hjz HALL HJE hall' hi hz0 hz1 hz2
      go_wp2_with (at_make; refine wpList_make_own _ rfl (.const (.int .i64 0)) (.tmp 31) 39 rfl w.heap.size 5 i0 (.int .u8 0) 1 Tryd.underlying39 HI.out.1 HI.out.2.1 HI.out.2.2.1 .i64 .i64 _ N rfl rfl rfl (by rw [HI.out.2.2.2]; omega) (by unfold maxLen; omega) HB.out.size ?_; intro w1 hown1 hgrow1; have hO1 : Ow w1 w.heap.size (some ⟨wr.heap.size, 0, none⟩) 0 N [] := (⟨rfl, Nat.zero_le _, by unfold maxLen; omega, hown1⟩); have HO1 := Lib.hid hO1; have HB1 := Lib.hid (Below.grown HB.out hgrow1 HB.out.size (fun k h => by cases h)); clear hown1 hgrow1 hO1)
      go_loopw [8, 35] (fun v i wr => ∃ (k : Nat) (ko : Option Addr) (kc : Nat), k ≤ n ∧ i = .int .i64 k ∧ v = .slice ko (frs (rs.take k)).length kc ∧ Ow wr w.heap.size ko (frs (rs.take k)).length kc (frs (rs.take k)) ∧ (frs (rs.take k)).length ≤ 8013 * k ∧ Below w.heap.size w wr) (fun _ i _ => n - (intOf i).toNat)
      case atStart => exact ⟨0, _, N, Nat.zero_le _, rfl, rfl, HO1.out, Nat.zero_le _, HB1.out⟩
      case round =>
        obtain ⟨k, ko, kc, hk, rfl, rfl, how, hsz2, hB⟩ := hrel
        have HO := Lib.hid how; have HBR := Lib.hid hB
        by_cases hlt : k < n
        · have d1 : decide ((k : Int) < (n : Int)) = true := decide_eq_true (by omega)
          have hlt' : k < rs.length := by rw [HL.out]; exact hlt
          obtain ⟨b, o, rfl, hc⟩ : ∃ b o, ao = some ⟨b, o, none⟩ ∧ _ := by
            rcases HR.out.below hB with h | h
            · rw [h] at hlt'; exact absurd hlt' (Nat.not_lt_zero _)
            · exact h
          obtain ⟨c0, c1, c2, hd⟩ := hc k hlt'
          have hq0 := HALL2.out k hlt'
          have hd0 : ∀ V, Below w.heap.size w V → (rs[k]'hlt').d.ok V := fun V hV => by
            rcases HR.out.below hV with h | ⟨_, _, _, h⟩
            · exact absurd hlt' (by rw [h]; exact Nat.not_lt_zero _)
            · exact (h k hlt').2.2.2
          have hcat := frs_take rs k hlt'
          obtain ⟨r, hr⟩ : ∃ r, r = rs[k] := ⟨_, rfl⟩
          rw [← hr] at c0 c1 c2 hd hcat hq0 hd0
          have HD0 := Lib.hid hd0
          clear hd0
          obtain ⟨hnok, hl8⟩ := chk_ok hq0
          obtain ⟨xs, hxs⟩ : ∃ xs, xs = frs (rs.take k) := ⟨_, rfl⟩
          rw [← hxs] at hcat hsz2 HO ⊢
          obtain ⟨L, hL⟩ : ∃ L, L = xs.length := ⟨_, rfl⟩
          rw [← hL] at hsz2 HO ⊢
          obtain ⟨W1, hW1⟩ : ∃ W1, W1 = wr.alloc (.cells #[.int .i64 r.k, .int .i64 r.s, .slice r.d.a r.d.l r.d.c] 43) := ⟨_, rfl⟩
          have hBW : Below wr.heap.size wr W1 := by rw [hW1]; exact (Below.refl _ _).alloc (Nat.le_refl _) _
          have hbx : W1.heap[wr.heap.size]? = some (.cells #[.int .i64 r.k, .int .i64 r.s, .slice r.d.a r.d.l r.d.c] 43) := by rw [hW1]; exact heap_alloc_new _ _
          obtain ⟨H, hH⟩ : ∃ H, H = fhead r.k r.s r.d.l := ⟨_, rfl⟩
          have hHl : H.length = 9 := by rw [hH]; exact fhead_len _ _ _
          have hHb : Bts H := by rw [hH]; exact fhead_bts _ _ _
          have hhd := head_ok r W1 hnok hl8
          rw [← hH] at hhd
          obtain ⟨sm, hsm⟩ : ∃ sm : Int, sm = ((sumOf (H ++ r.d.z)).toNat : Int) := ⟨_, rfl⟩
          have hs0 : 0 ≤ sm ∧ sm < 4294967296 := by rw [hsm]; have := (sumOf (H ++ r.d.z)).isLt; omega
          obtain ⟨hs1, hs2⟩ := hs0
          have hfr : fr r.k r.s r.d.z = H ++ l4 sm ++ r.d.z := by unfold fr; rw [hd.len, ← hH, ← hsm]
          have hl4b : Bts (l4 sm) := by rw [hsm]; exact bts_l4 _ (sumOf _).isLt
          have HHD := Lib.hid hhd; have HHL := Lib.hid hHl; have HHB := Lib.hid hHb; have HSM := Lib.hid hsm; have HFR := Lib.hid hfr; have HD := Lib.hid hd; have HCAT := Lib.hid hcat; have HXS := Lib.hid hxs; have HLL := Lib.hid hL; have HBX := Lib.hid hbx; have HBW := Lib.hid hBW; have HW1 := Lib.hid hW1; have HL4 := Lib.hid hl4b
          have HOF : Hid (∀ j, wr.heap.size ≤ j → Far ko j) := fun j hj => HO.out.far hj
          clear how hB hc hr hq0 hcat hnok hxs hL hW1 hBW hbx hH hHl hHb hhd hsm hfr hd hl4b HALL2 hi0
          go_wp2_with (go_at_call 38; fail)
          rw [← HW1.out]
          refine HHD.out.mono ?_
          rintro e w2 ⟨kh, ch, rfl, ho2, hB2⟩
          have hb2 : w2.heap[wr.heap.size]? = some (.cells #[.int .i64 r.k, .int .i64 r.s, .slice r.d.a r.d.l r.d.c] 43) := by rw [hB2.block _ (Array.getElem?_eq_some_iff.1 HBX.out).1]; exact HBX.out
          have e2 : w2.cell? ⟨wr.heap.size, 2, none⟩ = some (.slice r.d.a r.d.l r.d.c) := by simp [World.cell?, hb2]
          have HW2 : Hid (Below wr.heap.size wr w2) := HBW.out.trans (hB2.mono HBW.out.size)
          have HH2 := Lib.hid ho2; have HB2 := Lib.hid hb2
          have hD2 : r.d.ok w2 := HD.out.below HW2.out
          have HBY := Lib.hid (bytes_any (some ⟨w2.heap.size, 0, none⟩) 2 2 [⟨kh, 9, ch, H⟩, r.d] (w2.alloc (.cells #[.slice kh 9 ch, .slice r.d.a r.d.l r.d.c] 39)) sm (by rw [HSM.out]; simp [flat]) rfl (by decide) ((HT.out.below (HBR.out.trans (HW2.out.mono HBR.out.size))).below ((Below.refl _ _).alloc (Nat.le_refl _) _)) (ps_new w2 [⟨kh, 9, ch, H⟩, r.d] 39 (fun j hj => by
            match j, hj with
            | 0, _ => exact ho2.part HHB.out
            | 1, _ => exact hD2)))
          clear c0 c1 c2 ho2 hB2 hb2 hD2
          go_wp2_with (go_at_call 29; fail)
          refine HBY.out.mono ?_
          rintro e w4 ⟨rfl, hB4⟩
          have hB3 : Below w2.heap.size w2 (w2.alloc (.cells #[.slice kh 9 ch, .slice r.d.a r.d.l r.d.c] 39)) := (Below.refl _ _).alloc (Nat.le_refl _) _
          have h24 : Below w2.heap.size w2 w4 := hB3.trans (hB4.mono hB3.size)
          have h45 : Below w4.heap.size w4 (w4.alloc (.cells #[.int .u8 (sm % 256), .int .u8 (sm / 256 % 256), .int .u8 (sm / 65536 % 256), .int .u8 (sm / 16777216)] 60)) := (Below.refl _ _).alloc (Nat.le_refl _) _
          have h25 := h24.trans (h45.mono h24.size)
          have hr5 := part_new w4 (l4 sm) 60 (0, 0) HL4.out (by simp [l4, maxLen])
          have hz5 : (w4.alloc (.cells #[.int .u8 (sm % 256), .int .u8 (sm / 256 % 256), .int .u8 (sm / 65536 % 256), .int .u8 (sm / 16777216)] 60)).heap[w4.heap.size]? = some (.cells ((l4 sm).map (Value.int .u8)).toArray 60) := heap_alloc_new _ _
          have hx5 : (w4.alloc (.cells #[.int .u8 (sm % 256), .int .u8 (sm / 256 % 256), .int .u8 (sm / 65536 % 256), .int .u8 (sm / 16777216)] 60)).heap[wr.heap.size]? = some (.cells #[.int .i64 r.k, .int .i64 r.s, .slice r.d.a r.d.l r.d.c] 43) := by rw [h25.block _ (Array.getElem?_eq_some_iff.1 HB2.out).1]; exact HB2.out
          have hlz : w4.heap.size < (w4.alloc (.cells #[.int .u8 (sm % 256), .int .u8 (sm / 256 % 256), .int .u8 (sm / 65536 % 256), .int .u8 (sm / 16777216)] 60)).heap.size := by rw [World.size_alloc]; omega
          have hlx := (Array.getElem?_eq_some_iff.1 hx5).1
          obtain ⟨gh, rfl, _⟩ := HH2.out.at (by omega)
          have h05 := HW2.out.trans (h25.mono HW2.out.size)
          have HB5 := Lib.hid (HBR.out.trans (h05.mono HBR.out.size))
          have HO5 := Lib.hid (HO.out.below h05)
          have HR5 := Lib.hid (HH2.out.rd.below h25)
          have HZ5 := Lib.hid hz5; have HX5 := Lib.hid hx5; have HLZ := Lib.hid hlz; have HLX := Lib.hid hlx
          have hzf : wr.heap.size ≤ w4.heap.size := Nat.le_trans HW2.out.size h24.size
          have HZF := Lib.hid hzf
          clear hB3 h24 h45 h25 hr5 hz5 hx5 hlz hlx h05 hzf hB4 e2
          go_wp2_with (first
            | (at_builtin; refine append_far rfl (.tmp 46) (.tmp 47) rfl w.heap.size L kc 9 ch ko ⟨gh, 0, none⟩ xs H rfl HO5.out rfl HR5.out HHL.out (by omega) (by omega) HB5.out.size ?_; intro g6 c6 w6 ho6 hB6 hf6 hs6;
               have HO6 := Lib.hid ho6; have HB6 := Lib.hid (HB5.out.trans hB6);
               have hFZ := hf6 _ HLZ.out (HOF.out _ HZF.out);
               have hFX := hf6 _ HLX.out (HOF.out _ (Nat.le_refl _));
               have HZ6 : Hid (Far (some ⟨g6, 0, none⟩) w4.heap.size ∧ w6.heap[w4.heap.size]? = some (.cells ((l4 sm).map (Value.int .u8)).toArray 60)) := (⟨hFZ.1, by rw [hFZ.2]; exact HZ5.out⟩);
               have HX6 : Hid (Far (some ⟨g6, 0, none⟩) wr.heap.size ∧ w6.heap[wr.heap.size]? = some (.cells #[.int .i64 r.k, .int .i64 r.s, .slice r.d.a r.d.l r.d.c] 43)) := (⟨hFX.1, by rw [hFX.2]; exact HX5.out⟩);
               have HL6 : Hid (wr.heap.size < w6.heap.size) := (Nat.lt_of_lt_of_le HLX.out hs6);
               clear ho6 hB6 hf6 hs6 hFZ hFX)
            | (at_builtin; refine append_far rfl (.tmp 49) (.tmp 50) rfl w.heap.size (L + 9) c6 4 4 (some ⟨g6, 0, none⟩) ⟨w4.heap.size, 0, none⟩ (xs ++ H) (l4 sm) rfl HO6.out rfl (Rd.block HZ6.out.2) rfl (by omega) (by omega) HB6.out.size ?_; intro g7 c7 w7 ho7 hB7 hf7 hs7;
               have HO7 := Lib.hid ho7; have HB7 := Lib.hid (HB6.out.trans hB7);
               have hx7 : w7.heap[wr.heap.size]? = some (.cells #[.int .i64 r.k, .int .i64 r.s, .slice r.d.a r.d.l r.d.c] 43) := (by rw [(hf7 _ HL6.out HX6.out.1).2]; exact HX6.out.2);
               have e7 : w7.cell? ⟨wr.heap.size, 2, none⟩ = some (.slice r.d.a r.d.l r.d.c) := (by simp [World.cell?, hx7]);
               have HD7 := Lib.hid (HD0.out w7 HB7.out);
               clear ho7 hB7 hf7 hs7 hx7)
            | (at_builtin; refine append_bytes rfl (.tmp 52) (.tmp 54) rfl w.heap.size (L + 9 + 4) c7 r.d.l r.d.c (some ⟨g7, 0, none⟩) r.d.a (xs ++ H ++ l4 sm) r.d.z rfl HO7.out rfl HD7.out.rd HD7.out.len HD7.out.nil (by omega) HB7.out.size ?_; intro k8 c8 w8 ho8 hB8;
               have HO8 := Lib.hid ho8; have HB8 := Lib.hid (HB7.out.trans hB8); clear ho8 hB8 e7))
          go_roundw
          case rel =>
            have hl2 : (frs (rs.take (k + 1))).length = L + 9 + 4 + r.d.l := by rw [HCAT.out, HFR.out]; simp only [List.length_append, HHL.out, HD.out.len, ← HLL.out]; simp [l4]; omega
            refine ⟨k + 1, k8, c8, by omega, by go_num, by rw [hl2], ?_, by rw [hl2]; omega, HB8.out⟩
            rw [hl2, HCAT.out, HFR.out]
            have := HO8.out
            simpa only [List.append_assoc] using this
          case measure => simp [intOf]; omega
        · have d1 : decide ((k : Int) < (n : Int)) = false := decide_eq_false (by omega)
          obtain rfl : n = k := by omega
          have htk : rs.take n = rs := List.take_of_length_le (by rw [HL.out]; exact Nat.le_refl _)
          rw [htk] at HO ⊢
          clear how hB htk hsz2 hi0
          go_wp2
          go_ret2
          exact .inl ⟨HJZ.out, ko, kc, rfl, HO.out, HBR.out⟩

end Go.Proofs.YtifbbikhjolnjaaDoor
