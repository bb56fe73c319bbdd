/-
  Aggregates: wakes; AggrBounds.
-/
import Derived.Test.YtifbbikhjolnjaaDoorAg4
namespace Go.Proofs.YtifbbikhjolnjaaDoor
open Go.RowKit
set_option linter.unusedVariables false

def none0 : Part := ⟨none, 0, 0, []⟩
def one1 : List Rec := [⟨1, 0, none0⟩]
theorem frs_nil (rs : List Rec) (h : ∀ r ∈ rs, r.d.z = []) : (frs rs).length = 13 * rs.length := by
  induction rs with
  | nil => rfl
  | cons r rs ih =>
    have e : frs (r :: rs) = fr r.k r.s r.d.z ++ frs rs := by unfold frs; rw [List.flatMap_cons]
    rw [e, List.length_append, fr_len, h r (by simp), ih fun q hq => h q (by simp [hq])]
    simp; omega
theorem ok0 (w : World) : none0.ok w := ⟨Rd.nil _ _, rfl, Bts.nil, Nat.zero_le _, fun _ => rfl⟩
theorem one_rs (w : World) : Rs (w.alloc (.cells #[.int .i64 1, .int .i64 0, .slice none 0 0] 43)) (some ⟨w.heap.size, 0, none⟩) one1 := by
  obtain ⟨V, hV⟩ : ∃ V, V = w.alloc (.cells #[.int .i64 1, .int .i64 0, .slice none 0 0] 43) := ⟨_, rfl⟩
  have hb : V.heap[w.heap.size]? = some (.cells #[.int .i64 1, .int .i64 0, .slice none 0 0] 43) := by rw [hV]; exact heap_alloc_new _ _
  rw [← hV]
  refine .inr ⟨_, 0, rfl, fun i hi => ?_⟩
  have : i = 0 := by simp [one1] at hi; omega
  subst this
  refine ⟨?_, ?_, ?_, ok0 _⟩ <;> simp [World.cell?, hb, one1, none0]
theorem one_j : jE 32 one1 = 0 := by decide
theorem one_len : (ag one1).length = 39 := by
  rw [ag_len, frs_nil one1 (by intro r hr; simp [one1] at hr; subst hr; rfl)]; rfl
theorem one_off : offP one1 1 = [13] := rfl

set_option maxHeartbeats 2000000 in
theorem wakes15 (w : World) (hT : Tab w) : Calls Tryd.prog 16 #[] w fun e w' => e = .returned (.bool true) ∧ Below w.heap.size w w' := by
  have hnb : nb 39 32 = 2 := rfl
  have hal : ∀ V : World, Below V.heap.size V (V.alloc (.cells #[.int .i64 1, .int .i64 0, .slice none 0 0] 43)) := fun V => (Below.refl _ _).alloc (Nat.le_refl _) _
  have hp := fun V (hV : Tab V) => pack_any 32 (some ⟨V.heap.size, 0, none⟩) 1 1 one1 (V.alloc (.cells #[.int .i64 1, .int .i64 0, .slice none 0 0] 43)) rfl (by unfold maxLen; omega) (hV.below (hal V)) (one_rs V)
  have hn := fun V (hV : Tab V) => need_any 32 (some ⟨V.heap.size, 0, none⟩) 1 1 one1 (V.alloc (.cells #[.int .i64 1, .int .i64 0, .slice none 0 0] 43)) rfl (by unfold maxLen; omega) (hV.below (hal V)) (one_rs V)
  have HP := Lib.hid hp; have HN := Lib.hid hn; have HAL := Lib.hid hal; have HT := Lib.hid hT; have HNB := Lib.hid hnb
  clear hp hn hal hT hnb
  go_enter Tryd.func16, Tryd.ntmps16
  go_wp2_with (go_at_call 11; fail)
  refine (HP.out w HT.out).mono ?_
  rintro e w1 ⟨hB, ⟨_, bo, bc, oo, oc, ps, rfl, hops, hon, _⟩ | ⟨hj, _⟩⟩
  rotate_left
  · exact absurd one_j hj
  have hB1 : Below w.heap.size w w1 := (HAL.out w).trans (hB.mono (HAL.out w).size)
  rw [one_len, show (32 : Int).toNat = 32 from rfl, HNB.out]
  have hoff : (offP one1 one1.length) = [13] := one_off
  rw [hoff, show one1.length = 1 from rfl] at hon
  rw [show one1.length = 1 from rfl]
  obtain ⟨go, rfl, _, hc0⟩ := hon.at (j := 0) (by omega)
  rw [show [(13 : Int)].getD 0 0 = 13 from rfl] at hc0
  have hT1 := HT.out.below hB1
  have HB1 := Lib.hid hB1; have HN1 := Lib.hid (HN.out w1 hT1); have HC0 := Lib.hid hc0
  clear hB hB1 hops hon hoff hT1 HP HN hc0
  go_wp2_with (go_at_call 10; fail)
  refine HN1.out.mono ?_
  rintro e w2 ⟨hB, ⟨_, rfl⟩ | ⟨hj, _⟩⟩
  rotate_left
  · exact absurd one_j hj
  have hb2 : Below w1.heap.size w1 w2 := (HAL.out w1).trans (hB.mono (HAL.out w1).size)
  have hB2 := HB1.out.trans (hb2.mono HB1.out.size)
  rw [one_len, show (32 : Int).toNat = 32 from rfl, HNB.out]
  rw [show ((2 : Nat) : Int) = 2 from rfl]
  have hc0 : w2.cell? ⟨go, 0, none⟩ = some (.int .i64 13) := (hb2.cell (cell_lt HC0.out)).trans HC0.out
  have HB2 := Lib.hid hB2
  clear hB hb2 hB2 HN1 HC0
  go_wp2
  go_ret
  exact ⟨rfl, HB2.out⟩

/-- The records of AggrBounds. -/
def rkd (kind : Int) (n : Nat) : List Rec := (List.range n).map fun (i : Nat) => (⟨kind, (i : Int), none0⟩ : Rec)
theorem rkd_succ (kind : Int) (n : Nat) : rkd kind (n + 1) = rkd kind n ++ [⟨kind, n, none0⟩] := by
  unfold rkd; rw [List.range_succ, List.map_append]; rfl
theorem rkd_len (kind : Int) (n : Nat) : (rkd kind n).length = n := by unfold rkd; simp
theorem rkd_je (kind : Int) (h1 : 1 ≤ kind) (h2 : kind ≤ 5) (n : Nat) (hn : n ≤ 1000) : je (rkd kind n) = 0 := by
  have key : ∀ rs : List Rec, (∀ r ∈ rs, chk r.k r.s r.d.l = 0) → je rs = 0 := by
    intro rs
    induction rs with
    | nil => intro _; rfl
    | cons r rs ih =>
      intro h
      unfold je
      rw [if_pos (h r (by simp))]
      exact ih fun q hq => h q (by simp [hq])
  refine key _ fun r hr => ?_
  unfold rkd at hr
  obtain ⟨i, hi, rfl⟩ := List.mem_map.1 hr
  have := List.mem_range.1 hi
  exact chk_of ⟨h1, h2, by simp only; omega, by simp only; omega⟩ (Nat.zero_le _)
theorem rkd_hts (kind : Int) (h1 : 1 ≤ kind) (h2 : kind ≤ 5) (n : Nat) (hn : 1 ≤ n) : hts (rkd kind n) = decide (4 ≤ kind) := by
  unfold hts
  by_cases h : 4 ≤ kind
  · rw [decide_eq_true h]
    refine List.any_eq_true.2 ⟨⟨kind, 0, none0⟩, ?_, ?_⟩
    · unfold rkd; exact List.mem_map.2 ⟨0, List.mem_range.2 (by omega), rfl⟩
    · simp only [Bool.or_eq_true, beq_iff_eq]; omega
  · rw [decide_eq_false h]
    refine Bool.eq_false_iff.2 fun hany => ?_
    obtain ⟨r, hr, hrk⟩ := List.any_eq_true.1 hany
    unfold rkd at hr
    obtain ⟨i, _, rfl⟩ := List.mem_map.1 hr
    simp only [Bool.or_eq_true, beq_iff_eq] at hrk
    omega
theorem rkd_ag (kind : Int) (n : Nat) : (ag (rkd kind n)).length = 13 * (n + 2) := by
  rw [ag_len, frs_nil _ (by intro r hr; unfold rkd at hr; obtain ⟨i, _, rfl⟩ := List.mem_map.1 hr; rfl), rkd_len]; omega

set_option maxRecDepth 100000 in
set_option maxHeartbeats 8000000 in
theorem bounds_walk (size a1 a2 : Int) (w : World) (hT : Tab w) (hb1 : a1 ≤ 9223372036854775807) (hb0 : -9223372036854775808 ≤ a1) (hs0 : -9223372036854775808 ≤ size) (hs1 : size ≤ 9223372036854775807) :
    Calls Tryd.prog 6 #[.int .i64 size, .int .i64 a1, .int .i64 a2] w fun e w' => e = .returned (.bool true) ∧ Below w.heap.size w w' := by
  by_cases h0 : a1 < 0
  · have d0 : decide (a1 < 0) = true := decide_eq_true h0
    clear hT
    go_enter Tryd.func6, Tryd.ntmps6
    go_wp2
    go_ret
    exact ⟨rfl, Below.refl _ _⟩
  have d0 : decide (a1 < 0) = false := decide_eq_false h0
  by_cases h1 : 67 < a1
  · have d1 : decide (67 < a1) = true := decide_eq_true h1
    clear hT
    go_enter Tryd.func6, Tryd.ntmps6
    go_wp2
    go_ret
    exact ⟨rfl, Below.refl _ _⟩
  have d1 : decide (67 < a1) = false := decide_eq_false h1
  obtain ⟨n, rfl⟩ := Int.eq_ofNat_of_zero_le (by omega : 0 ≤ a1)
  have d0' : decide ((n : Int) < 0) = false := d0
  have d1' : decide (67 < n) = false := decide_eq_false (by omega)
  obtain ⟨k5, hk5, hkk⟩ := uwrap_at a2 5 (by omega) (by omega)
  obtain ⟨kd, hkd⟩ : ∃ kd : Int, kd = 1 + (k5 : Int) := ⟨_, rfl⟩
  have hkw : wrap64 (1 + (k5 : Int)) = kd := by rw [IntWalk.wrap64_in _ ⟨by omega, by omega⟩]; omega
  have hkd1 : 1 ≤ kd := by omega
  have hkd5 : kd ≤ 5 := by omega
  have HT := Lib.hid hT
  clear hT hkd hk5
  go_enter Tryd.func6, Tryd.ntmps6
  go_wp2
  try rw [hkk]
  try rw [hkw]
  go_loopw [7, 8] (fun v i wr => ∃ (k : Nat) (ko : Option Addr) (kc : Nat), k ≤ n ∧ i = .int .i64 k ∧ v = .slice ko k kc ∧ ORs wr w.heap.size ko k kc (rkd kd k) ∧ Below w.heap.size w wr) (fun _ i _ => n - (intOf i).toNat)
  case atStart => exact ⟨0, none, 0, Nat.zero_le _, rfl, rfl, ORs.nil _ _, Below.refl _ _⟩
  case round =>
    obtain ⟨k, ko, kc, hk, rfl, rfl, hors, hB⟩ := hrel
    by_cases hlt : k < n
    · have e1 : decide ((k : Int) < (n : Int)) = true := decide_eq_true (by omega)
      have e1' : decide (k < n) = true := decide_eq_true hlt
      have hal : Below wr.heap.size wr (wr.alloc (.cells #[.int .i64 kd, .int .i64 k, .slice none 0 0] 43)) := (Below.refl _ _).alloc (Nat.le_refl _) _
      have hg : (wr.alloc (.cells #[.int .i64 kd, .int .i64 k, .slice none 0 0] 43)).heap[wr.heap.size]? = some (.cells #[.int .i64 kd, .int .i64 k, .slice none 0 0] 43) := heap_alloc_new _ _
      have hsu := rkd_succ kd k
      have HORS := Lib.hid (hors.below hal); have HB := Lib.hid (hB.trans (hal.mono hB.size)); have HG := Lib.hid hg; have HSU := Lib.hid hsu
      have HQ : Hid (Own1 (wr.alloc (.cells #[.int .i64 kd, .int .i64 k, .slice none 0 0] 43)) none0) := ⟨ok0 _, .inl rfl⟩
      clear hors hB hal hg hsu
      go_wp2_with (at_builtin; refine append_rec rfl (.tmp 31) (.tmp 35) rfl w.heap.size k kc wr.heap.size ko (rkd kd k) ⟨kd, k, none0⟩ rfl HORS.out rfl HG.out HQ.out (by omega) HB.out.size ?_; intro ko' kc' w5 ho5 hB5; have HO5 := Lib.hid ho5; have HB5 := Lib.hid (HB.out.trans hB5); clear ho5 hB5)
      go_roundw
      case rel => exact ⟨k + 1, ko', kc', by omega, by go_num, by rfl, by rw [HSU.out]; exact HO5.out, HB5.out⟩
      case measure => simp [intOf]; omega
    · have e1 : decide ((k : Int) < (n : Int)) = false := decide_eq_false (by omega)
      have e1' : decide (k < n) = false := decide_eq_false hlt
      obtain rfl : k = n := by omega
      have hpk := pack_any size ko k kc (rkd kd k) wr (rkd_len kd k) (by unfold maxLen; omega) (HT.out.below hB) hors.rs
      have hnd := fun V (hV : Below wr.heap.size wr V) => need_any size ko k kc (rkd kd k) V (rkd_len kd k) (by unfold maxLen; omega) ((HT.out.below hB).below hV) (hors.rs.below hV)
      -- what is wanted
      have hjE : jE size (rkd kd k) = if size < 32 ∨ 256 < size then 1 else if k < 1 ∨ 64 < k then 2 else if 4 ≤ kd then 1 else 0 := by
        unfold jE
        rw [rkd_len, rkd_je kd hkd1 hkd5 k (by omega)]
        by_cases hs : size < 32 ∨ 256 < size
        · rw [if_pos hs, if_pos hs]
        · rw [if_neg hs, if_neg hs]
          by_cases hk2 : k < 1 ∨ 64 < k
          · rw [if_pos hk2, if_pos hk2]
          · rw [if_neg hk2, if_neg hk2, if_neg (by decide), rkd_hts kd hkd1 hkd5 k (by omega)]
            simp only [decide_eq_true_eq]
      obtain ⟨er, her⟩ : ∃ er, er = jE size (rkd kd k) := ⟨_, rfl⟩
      rw [← her] at hjE
      have HPK := Lib.hid hpk; have HND := Lib.hid hnd; have HB := Lib.hid hB; have HER := Lib.hid her; have HJE := Lib.hid hjE
      have HTR := Lib.hid (HT.out.below hB)
      clear hpk hnd hB hors her hjE
      go_wp2_with (go_at_call 11; fail)
      refine HPK.out.mono ?_
      rintro e w2 ⟨hB2, ⟨hj, bo, bc, oo, oc, ps, rfl, _, _, _, _, _, hs1, hs2, hk1, hk2⟩ | ⟨hj, rfl⟩⟩
      · -- all is well
        have hN2 := HND.out w2 hB2
        have HN2 := Lib.hid hN2; have HB2 := Lib.hid (HB.out.trans (hB2.mono HB.out.size)); have HT2 := Lib.hid (HTR.out.below hB2)
        obtain ⟨s, rfl⟩ := Int.eq_ofNat_of_zero_le (by omega : 0 ≤ size)
        rw [rkd_len] at hk1 hk2
        have hlen := rkd_len kd k
        rw [hlen]
        obtain ⟨q, hq⟩ : ∃ q, q = nb (ag (rkd kd k)).length (s : Int).toNat := ⟨_, rfl⟩
        rw [← hq]
        have her0 : er = 0 := HER.out.trans hj
        have hkd3 : kd < 4 := by
          have := HJE.out
          rw [her0, if_neg (by omega), if_neg (by omega)] at this
          by_cases h : 4 ≤ kd
          · rw [if_pos h] at this; omega
          · omega
        have hqt : (13 * ((k : Int) + 2) + (s : Int) - 1).tdiv (s : Int) = (q : Int) := by
          have := tdiv_nb (13 * (k + 2)) s (by omega)
          rw [hq, rkd_ag, Int.toNat_natCast, ← this]
          congr 1
        have hq7 : q ≤ 700000 := by
          rw [hq, rkd_ag, Int.toNat_natCast]; unfold nb; exact Nat.le_trans (Nat.div_le_self _ _) (by omega)
        have f1 : decide ((s : Int) < 32) = false := decide_eq_false (by omega)
        have f1' : decide (s < 32) = false := decide_eq_false (by omega)
        have f2 : decide ((256 : Int) < (s : Int)) = false := decide_eq_false (by omega)
        have f2' : decide (256 < s) = false := decide_eq_false (by omega)
        have f3 : decide ((k : Int) < 1) = false := decide_eq_false (by omega)
        have f3' : decide (k < 1) = false := decide_eq_false (by omega)
        have f4 : decide ((64 : Int) < (k : Int)) = false := decide_eq_false (by omega)
        have f4' : decide (64 < k) = false := decide_eq_false (by omega)
        have f5 : decide (4 ≤ kd) = false := decide_eq_false (by omega)
        have hz : ((s : Int) == 0) = false := beq_eq_false_iff_ne.2 (by omega)
        have hz2 : (s : Int) ≠ 0 := by omega
        have hz3 : s ≠ 0 := by omega
        have HQ := Lib.hid hq; have HJ0 := Lib.hid hj
        clear hB2 hj hlen hq HPK HND her0 hN2
        go_wp2_with (go_at_call 10; fail)
        refine HN2.out.mono ?_
        rintro e w3 ⟨hB3, ⟨_, rfl⟩ | ⟨hj, _⟩⟩
        rotate_left
        · exact absurd HJ0.out hj
        rw [← HQ.out]
        have HB3 := Lib.hid (HB2.out.trans (hB3.mono HB2.out.size))
        have HWK := Lib.hid (wakes15 w3 (HT2.out.below hB3))
        clear hB3 HN2
        go_wp2_with (go_at_call 16; refine HWK.out.mono ?_; rintro e w9 ⟨rfl, hB9⟩; have HB9 := Lib.hid hB9; clear hB9)
        go_ret
        exact ⟨rfl, HB3.out.trans (HB9.out.mono HB3.out.size)⟩
      · -- it is refused
        have hN2 := HND.out w2 hB2
        have HN2 := Lib.hid hN2; have HB2 := Lib.hid (HB.out.trans (hB2.mono HB.out.size)); have HT2 := Lib.hid (HTR.out.below hB2)
        have HJ0 := Lib.hid hj
        rw [← HER.out]
        have hern : er ≠ 0 := by rw [HER.out]; exact hj
        have dq : (er != 0) = true := by simp [hern]
        clear hB2 hj HPK HND hN2 hern
        go_wp2_with (go_at_call 10; fail)
        refine HN2.out.mono ?_
        rintro e w3 ⟨hB3, ⟨hj, _⟩ | ⟨_, rfl⟩⟩
        · exact absurd hj HJ0.out
        rw [← HER.out]
        have HB3 := Lib.hid (HB2.out.trans (hB3.mono HB2.out.size))
        have HWK := Lib.hid (wakes15 w3 (HT2.out.below hB3))
        clear hB3 HN2
        have hje := HJE.out
        by_cases g1 : size < 32
        · rw [if_pos (.inl g1)] at hje
          subst hje
          have f1 : decide (size < 32) = true := decide_eq_true g1
          go_wp2_with (go_at_call 16; refine HWK.out.mono ?_; rintro e w9 ⟨rfl, hB9⟩; have HB9 := Lib.hid hB9; clear hB9)
          go_ret
          exact ⟨rfl, HB3.out.trans (HB9.out.mono HB3.out.size)⟩
        have f1 : decide (size < 32) = false := decide_eq_false g1
        by_cases g2 : 256 < size
        · rw [if_pos (.inr g2)] at hje
          subst hje
          have f2 : decide (256 < size) = true := decide_eq_true g2
          go_wp2_with (go_at_call 16; refine HWK.out.mono ?_; rintro e w9 ⟨rfl, hB9⟩; have HB9 := Lib.hid hB9; clear hB9)
          go_ret
          exact ⟨rfl, HB3.out.trans (HB9.out.mono HB3.out.size)⟩
        have f2 : decide (256 < size) = false := decide_eq_false g2
        rw [if_neg (by omega)] at hje
        by_cases g3 : k < 1
        · rw [if_pos (.inl g3)] at hje
          subst hje
          have f3 : decide ((k : Int) < 1) = true := decide_eq_true (by omega)
          have f3' : decide (k < 1) = true := decide_eq_true g3
          go_wp2_with (go_at_call 16; refine HWK.out.mono ?_; rintro e w9 ⟨rfl, hB9⟩; have HB9 := Lib.hid hB9; clear hB9)
          go_ret
          exact ⟨rfl, HB3.out.trans (HB9.out.mono HB3.out.size)⟩
        have f3 : decide ((k : Int) < 1) = false := decide_eq_false (by omega)
        have f3' : decide (k < 1) = false := decide_eq_false g3
        by_cases g4 : 64 < k
        · rw [if_pos (.inr g4)] at hje
          subst hje
          have f4 : decide ((64 : Int) < (k : Int)) = true := decide_eq_true (by omega)
          have f4' : decide (64 < k) = true := decide_eq_true g4
          go_wp2_with (go_at_call 16; refine HWK.out.mono ?_; rintro e w9 ⟨rfl, hB9⟩; have HB9 := Lib.hid hB9; clear hB9)
          go_ret
          exact ⟨rfl, HB3.out.trans (HB9.out.mono HB3.out.size)⟩
        have f4 : decide ((64 : Int) < (k : Int)) = false := decide_eq_false (by omega)
        have f4' : decide (64 < k) = false := decide_eq_false g4
        rw [if_neg (by omega)] at hje
        by_cases g5 : 4 ≤ kd
        · rw [if_pos g5] at hje
          subst hje
          have f5 : decide (4 ≤ kd) = true := decide_eq_true g5
          go_wp2_with (go_at_call 16; refine HWK.out.mono ?_; rintro e w9 ⟨rfl, hB9⟩; have HB9 := Lib.hid hB9; clear hB9)
          go_ret
          exact ⟨rfl, HB3.out.trans (HB9.out.mono HB3.out.size)⟩
        · rw [if_neg g5] at hje
          exact absurd (HER.out.symm.trans hje) HJ0.out

end Go.Proofs.YtifbbikhjolnjaaDoor
