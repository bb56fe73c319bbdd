/-
  The walk of PowerLives.
-/
import Derived.Test.YtcldfnnnjmhkjaaLives0
namespace Go.Proofs.Ytcldfnnnjmhkjaa
open Go.RowKit
set_option linter.unusedVariables false

set_option maxRecDepth 100000 in
set_option maxHeartbeats 8000000 in
theorem lives_false (a0 a1 : Option Addr) (n c0 n1 c1 : Nat) (A : Nat → Option Addr) (L C : Nat → Nat) (B : Nat → Nat → Bool) (X : Nat → Int) (w : World) (hn : n ≤ 20) (hn1 : n1 ≤ 100)
    (rb ro tb to : Nat) (ha0 : 0 < n → a0 = some ⟨rb, ro, none⟩) (ha1 : 0 < n1 → a1 = some ⟨tb, to, none⟩)
    (hcell : ∀ r, r < n → w.cell? ⟨rb, ro + r, none⟩ = some (.slice (A r) (L r) (C r))) (hx : ∀ r, r < n1 → w.cell? ⟨tb, to + r, none⟩ = some (.int .i64 (X r)))
    (hnil : ∀ r, r < n → A r = none → L r = 0 ∧ C r = 0) (hrow : ∀ r, r < n → ∀ c, c < L r → ∃ b' o', A r = some ⟨b', o', none⟩ ∧ w.cell? ⟨b', o' + c, none⟩ = some (.bool (B r c))) :
    Calls Try.prog 11 #[.slice a0 n c0, .slice a1 n1 c1, .bool false] w fun e w' => e = .returned (.bool true) ∧ Below w.heap.size w w' := by
  have HCELL := Lib.hid hcell; have HX := Lib.hid hx; have HNIL := Lib.hid hnil; have HROWS := Lib.hid hrow; have HA0 := Lib.hid ha0; have HA1 := Lib.hid ha1
  have d1 : decide (20 < (n : Int)) = false := decide_eq_false (by omega)
  have d2 : decide (100 < (n1 : Int)) = false := decide_eq_false (by omega)
  clear hcell hx hnil hrow ha0 ha1
  go_enter Try.func11, Try.ntmps11
  go_wp2_with (first
    | (go_at_call 22; refine (new_any _).mono ?_; rintro e w1 ⟨rfl, hp1, hB1⟩; have HP1 := Lib.hid hp1; have HB1 := Lib.hid hB1; have HK := Lib.hid (kept_out w1 w.heap.size _ _ none 0 0 _ _ _ _ _ 0 hp1 (.inr (by omega))); clear hp1 hB1)
    | (go_at_call 25; refine (off_any _ _ _ _ _ _ _ _ _ _ HP1.out).mono ?_; rintro e w5 ⟨rfl, rfl⟩)
    | (go_at_call 27; refine (life_any _ _ _ _ _ _ _ _ _ _ HP1.out).mono ?_; rintro e w5 ⟨rfl, rfl⟩)
    | (go_at_call 29; refine HK.out.mono ?_; rintro e w5 ⟨rfl, rfl⟩)
    | (go_at_call 30; refine (torn_any _ _ _ _ _ _ _ _ _ _ HP1.out).mono ?_; rintro e w5 ⟨rfl, rfl⟩))
  go_loopw [8] (fun i wr => ∃ r : Nat, r ≤ n ∧ i = .int .i64 r ∧ Below w.heap.size w wr ∧ ∃ k1 t1 lost k2 t2, Pw wr w.heap.size false r k1 t1 lost k2 t2 0) (fun i _ => n - (intOf i).toNat)
  case atStart => exact ⟨0, Nat.zero_le _, rfl, HB1.out, _, _, _, _, _, HP1.out⟩
  case round =>
    obtain ⟨r, hr, rfl, hB, k1, t1, lost, k2, t2, hp⟩ := hrel
    have HB := Lib.hid hB; have HP := Lib.hid hp
    clear hB hp HP1 HB1 HK
    by_cases hlt : r < n
    · obtain rfl := HA0.out (by omega)
      have hc0 := HCELL.out r hlt
      have hc : wr.cell? ⟨rb, ro + r, none⟩ = some (.slice (A r) (L r) (C r)) := by rw [HB.out.cell (cell_lt hc0), hc0]
      have HC0 := Lib.hid hc0
      have HROW : Hid (∀ {c}, c < L r → ∃ b' o', A r = some ⟨b', o', none⟩ ∧ w.cell? ⟨b', o' + c, none⟩ = some (.bool (B r c))) := fun {c} h => HROWS.out r hlt c h
      have hnl := HNIL.out r hlt
      obtain ⟨bs, hbs⟩ : ∃ bs : List Bool, bs = (List.range (L r)).map (B r) := ⟨_, rfl⟩
      have HBL : Hid (bs.length = L r) := by unfold Hid; rw [hbs]; simp
      have HBG : Hid (∀ c, c < L r → bs.getD c false = B r c) := by intro c hc; rw [hbs]; simp [List.getD, hc]
      have hbl : Bl w (A r) bs := by
        by_cases h0 : L r = 0
        · exact .inl (List.eq_nil_of_length_eq_zero (by rw [HBL.out, h0]))
        · obtain ⟨b', o', hA', _⟩ := HROW.out (c := 0) (by omega)
          refine .inr ⟨b', o', hA', fun j hj => ?_⟩
          rw [HBL.out] at hj
          obtain ⟨b2, o2, hA2, hce⟩ := HROW.out hj
          rw [hA'] at hA2
          cases hA2
          rw [hce, HBG.out j hj]
      have HBW := Lib.hid hbl; have HNL := Lib.hid hnl
      clear hc0 hnl hbs hbl
      by_cases hl : L r ≤ 100
      · have d3 : decide (100 < (L r : Int)) = false := decide_eq_false (by omega)
        by_cases ht : r < n1
        · obtain rfl := HA1.out (by omega)
          have hx0 := HX.out r ht
          have hx1 : wr.cell? ⟨tb, to + r, none⟩ = some (.int .i64 (X r)) := by rw [HB.out.cell (cell_lt hx0), hx0]
          have d4 : decide (r < n1) = true := decide_eq_true ht
          obtain ⟨t, ht'⟩ : ∃ t, t = X r := ⟨_, rfl⟩
          rw [← ht'] at hx1
          clear hx0 ht'
          obtain ⟨wz, rfl⟩ : ∃ wz : World, wz = wr := ⟨_, rfl⟩
          go_wp2_with (first
            | (go_at_call 26; refine (start_any _ _ _ _ _ _ _ _ _ _ HP.out (by omega) (by omega)).mono ?_; rintro e w5 ⟨rfl, hp5, hB5⟩; have HP5 := Lib.hid hp5; have HB5 := Lib.hid (HB.out.trans hB5); have hc5 : w5.cell? ⟨rb, ro + r, none⟩ = some (.slice (A r) (L r) (C r)) := (HB5.out.cell (cell_lt HC0.out)).trans HC0.out; clear hp5 hB5)
            | (go_at_call 27; refine (life_any _ _ _ _ _ _ _ _ _ _ HP5.out).mono ?_; rintro e w6 ⟨rfl, rfl⟩)
            | (go_at_call 25; refine (off_any _ _ _ _ _ _ _ _ _ _ HP5.out).mono ?_; rintro e w6 ⟨rfl, rfl⟩)
            | (go_at_call 31; fail))
          refine (cut_on2 w5 w.heap.size r _ _ _ _ _ _ (A r) (L r) (C r) bs t HP5.out HBL.out (by omega) (HBW.out.below HB5.out) HNL.out).mono ?_
          rintro e w6 ⟨ko, kc, rfl, hp6, hb6, hB6, hne6⟩
          have HNE := Lib.hid hne6
          have HP6 := Lib.hid hp6; have HB6 := Lib.hid hb6; have HBB6 := Lib.hid (HB5.out.trans hB6)
          have hc6 : w6.cell? ⟨rb, ro + r, none⟩ = some (.slice (A r) (L r) (C r)) := (HBB6.out.cell (cell_lt HC0.out)).trans HC0.out
          clear hp6 hb6 hB6 hne6 hc hc5
          go_wp2_with (first
            | (go_at_call 31; refine (cut_off _ _ _ _ _ _ _ _ _ _ _ HP6.out).mono ?_; rintro e w7 ⟨rfl, rfl⟩)
            | (go_at_call 29; fail))
          go_loopw [10] (fun k w9 => ∃ kk : Nat, kk ≤ 2 ∧ k = .int .i64 kk ∧ Below w.heap.size w w9 ∧ Bl w9 ko bs ∧ ((kk = 0 ∧ Pw w9 w.heap.size true r (.slice ko (L r) kc) t true (.slice none 0 0) 0 0) ∨ (1 ≤ kk ∧ Pw w9 w.heap.size false ((r : Int) + 1) (.slice ko (L r) kc) t true (.slice none 0 0) 0 0))) (fun k _ => 2 - (intOf k).toNat)
          case atStart => exact ⟨0, by omega, rfl, HBB6.out, HB6.out, .inl ⟨rfl, HP6.out⟩⟩
          case round =>
            obtain ⟨kk, hkk, hkv, hBV, hbV, hV⟩ := hrel
            obtain ⟨V, rfl⟩ : ∃ V : World, V = wr := ⟨_, rfl⟩
            have HVW := Lib.hid hBV; have HBk := Lib.hid hbV
            have hcV : V.cell? ⟨rb, ro + r, none⟩ = some (.slice (A r) (L r) (C r)) := (HVW.out.cell (cell_lt HC0.out)).trans HC0.out
            have HVC := Lib.hid hcV
            clear hBV hbV hc6
            rcases hV with ⟨h0, hpV⟩ | ⟨h1, hpV⟩
            · subst h0
              rw [show ((0 : Nat) : Int) = 0 from rfl] at hkv
              subst hkv
              have HPk := Lib.hid hpV
              clear hpV
              go_wp2_with (first | (go_at_call 29; fail))
              go_loop [11] (fun j => ∃ q : Nat, q ≤ L r + 2 ∧ j = .int .i64 ((q : Int) - 1)) (fun j => L r + 2 - (intOf j + 1).toNat)
              case atStart => exact ⟨0, Nat.zero_le _, rfl⟩
              case round =>
                obtain ⟨q, hq, hj⟩ := hrel
                rcases q with _ | c
                · rw [show (((0 : Nat) : Int) - 1) = -1 by rfl] at hj
                  subst hj
                  have d8 : decide ((-1 : Int) ≤ (L r : Int)) = true := decide_eq_true (by omega)
                  have HK := Lib.hid (kept_out V w.heap.size true r ko (L r) kc t true _ 0 0 (-1) HPk.out (.inl (by omega)))
                  go_wp2_with (go_at_call 29; refine HK.out.mono ?_; rintro e w5 ⟨rfl, rfl⟩)
                  go_round
                  case rel => exact ⟨1, by omega, rfl⟩
                  case measure => first | (simp [intOf]; done) | (simp [intOf]; omega)
                · rw [show (((c + 1 : Nat) : Int) - 1) = (c : Int) by omega] at hj
                  subst hj
                  by_cases hc : c < L r
                  · have d8 : decide (c ≤ L r) = true := decide_eq_true (by omega)
                    have d9 : decide (c < L r) = true := decide_eq_true hc
                    obtain ⟨b', o', hA', hce⟩ := HROW.out hc
                    obtain ⟨kb, ko', rfl, hkc⟩ := HBk.out.at (by rw [HBL.out]; omega)
                    have h1 := hkc c (by rw [HBL.out]; exact hc)
                    rw [HBG.out c hc] at h1
                    have h2 : V.cell? ⟨rb, ro + r, none⟩ = some (.slice (some ⟨b', o', none⟩) (L r) (C r)) := by rw [← hA']; exact HVC.out
                    have h3 : V.cell? ⟨b', o' + c, none⟩ = some (.bool (B r c)) := by rw [HVW.out.cell (cell_lt hce), hce]
                    have HK := Lib.hid (kept_in V w.heap.size true r kb ko' (L r) kc t true _ 0 0 c (B r c) HPk.out hc h1)
                    obtain ⟨x, hx⟩ : ∃ x, x = B r c := ⟨_, rfl⟩
                    rw [← hx] at h3 HK
                    clear hA' hce hkc h1 hx hcV
                    go_wp2_with (go_at_call 29; refine HK.out.mono ?_; rintro e w5 ⟨rfl, rfl⟩)
                    go_round
                    case rel => exact ⟨c + 2, by omega, by go_num⟩
                    case measure => simp [intOf]; omega
                  · by_cases hc2 : c = L r
                    · have d8 : decide (c ≤ L r) = true := decide_eq_true (by omega)
                      have d9 : decide (c < L r) = false := decide_eq_false (by omega)
                      have HK := Lib.hid (kept_out V w.heap.size true r ko (L r) kc t true _ 0 0 (c : Int) HPk.out (.inr (by omega)))
                      have HC2 := Lib.hid hc2
                      clear hc2
                      go_wp2_with (go_at_call 29; refine HK.out.mono ?_; rintro e w5 ⟨rfl, rfl⟩)
                      go_round
                      case rel => exact ⟨c + 2, by have := HC2.out; omega, by go_num⟩
                      case measure => have := HC2.out; simp [intOf]; omega
                    · have d8 : decide (c ≤ L r) = false := decide_eq_false (by omega)
                      clear hc2
                      go_wp2_with (first
                        | (go_at_call 30; refine (torn_any _ _ _ _ _ _ _ _ _ _ HPk.out).mono ?_; rintro e w5 ⟨rfl, rfl⟩)
                        | (go_at_call 25; refine (off_any _ _ _ _ _ _ _ _ _ _ HPk.out).mono ?_; rintro e w5 ⟨rfl, rfl⟩)
                        | (go_at_call 24; refine (spend_off _ _ _ _ _ _ _ _ _ HPk.out).mono ?_; rintro e w5 ⟨rfl, rfl⟩)
                        | (go_at_call 26; refine (start_only _ _ _ _ _ _ _ _ _ _ HPk.out (by omega) (by omega)).mono ?_; rintro e w8 ⟨rfl, hp8, hB8, ho8⟩; have HBX8 := Lib.hid (HBk.out.only ho8 HNE.out); have HP8 := Lib.hid hp8; have HB8 := Lib.hid hB8; clear hp8 hB8 ho8))
                      go_roundw
                      case rel => exact ⟨1, by omega, by go_num, HVW.out.trans HB8.out, HBX8.out, .inr ⟨by omega, HP8.out⟩⟩
                      case measure => first | (simp [intOf]; done) | (simp [intOf]; omega)
            · have HPk := Lib.hid hpV
              clear hpV
              by_cases h2 : kk = 1
              · subst h2
                rw [show ((1 : Nat) : Int) = 1 from rfl] at hkv
                subst hkv
                go_wp2_with (first | (go_at_call 29; fail))
                go_loop [11] (fun j => ∃ q : Nat, q ≤ L r + 2 ∧ j = .int .i64 ((q : Int) - 1)) (fun j => L r + 2 - (intOf j + 1).toNat)
                case atStart => exact ⟨0, Nat.zero_le _, rfl⟩
                case round =>
                  obtain ⟨q, hq, hj⟩ := hrel
                  rcases q with _ | c
                  · rw [show (((0 : Nat) : Int) - 1) = -1 by rfl] at hj
                    subst hj
                    have d8 : decide ((-1 : Int) ≤ (L r : Int)) = true := decide_eq_true (by omega)
                    have HK := Lib.hid (kept_out V w.heap.size false ((r : Int) + 1) ko (L r) kc t true _ 0 0 (-1) HPk.out (.inl (by omega)))
                    go_wp2_with (go_at_call 29; refine HK.out.mono ?_; rintro e w5 ⟨rfl, rfl⟩)
                    go_round
                    case rel => exact ⟨1, by omega, rfl⟩
                    case measure => first | (simp [intOf]; done) | (simp [intOf]; omega)
                  · rw [show (((c + 1 : Nat) : Int) - 1) = (c : Int) by omega] at hj
                    subst hj
                    by_cases hc : c < L r
                    · have d8 : decide (c ≤ L r) = true := decide_eq_true (by omega)
                      have d9 : decide (c < L r) = true := decide_eq_true hc
                      obtain ⟨b', o', hA', hce⟩ := HROW.out hc
                      obtain ⟨kb, ko', rfl, hkc⟩ := HBk.out.at (by rw [HBL.out]; omega)
                      have h1 := hkc c (by rw [HBL.out]; exact hc)
                      rw [HBG.out c hc] at h1
                      have h2 : V.cell? ⟨rb, ro + r, none⟩ = some (.slice (some ⟨b', o', none⟩) (L r) (C r)) := by rw [← hA']; exact HVC.out
                      have h3 : V.cell? ⟨b', o' + c, none⟩ = some (.bool (B r c)) := by rw [HVW.out.cell (cell_lt hce), hce]
                      have HK := Lib.hid (kept_in V w.heap.size false ((r : Int) + 1) kb ko' (L r) kc t true _ 0 0 c (B r c) HPk.out hc h1)
                      obtain ⟨x, hx⟩ : ∃ x, x = B r c := ⟨_, rfl⟩
                      rw [← hx] at h3 HK
                      clear hA' hce hkc h1 hx hcV
                      go_wp2_with (go_at_call 29; refine HK.out.mono ?_; rintro e w5 ⟨rfl, rfl⟩)
                      go_round
                      case rel => exact ⟨c + 2, by omega, by go_num⟩
                      case measure => simp [intOf]; omega
                    · by_cases hc2 : c = L r
                      · have d8 : decide (c ≤ L r) = true := decide_eq_true (by omega)
                        have d9 : decide (c < L r) = false := decide_eq_false (by omega)
                        have HK := Lib.hid (kept_out V w.heap.size false ((r : Int) + 1) ko (L r) kc t true _ 0 0 (c : Int) HPk.out (.inr (by omega)))
                        have HC2 := Lib.hid hc2
                        clear hc2
                        go_wp2_with (go_at_call 29; refine HK.out.mono ?_; rintro e w5 ⟨rfl, rfl⟩)
                        go_round
                        case rel => exact ⟨c + 2, by have := HC2.out; omega, by go_num⟩
                        case measure => have := HC2.out; simp [intOf]; omega
                      · have d8 : decide (c ≤ L r) = false := decide_eq_false (by omega)
                        clear hc2
                        go_wp2_with (first
                          | (go_at_call 30; refine (torn_any _ _ _ _ _ _ _ _ _ _ HPk.out).mono ?_; rintro e w5 ⟨rfl, rfl⟩)
                          | (go_at_call 25; refine (off_any _ _ _ _ _ _ _ _ _ _ HPk.out).mono ?_; rintro e w5 ⟨rfl, rfl⟩)
                          | (go_at_call 24; refine (spend_free _ _ _ _ _ _ _ _ _ HPk.out (by omega)).mono ?_; rintro e w5 ⟨rfl, rfl⟩)
                          | (go_at_call 26; refine (start_only _ _ _ _ _ _ _ _ _ _ HPk.out (by omega) (by omega)).mono ?_; rintro e w8 ⟨rfl, hp8, hB8, ho8⟩; have HBX8 := Lib.hid (HBk.out.only ho8 HNE.out); have HP8 := Lib.hid hp8; have HB8 := Lib.hid hB8; clear hp8 hB8 ho8))
                        go_roundw
                        case rel => exact ⟨2, by omega, by go_num, HVW.out.trans HB8.out, HBX8.out, .inr ⟨by omega, HP8.out⟩⟩
                        case measure => first | (simp [intOf]; done) | (simp [intOf]; omega)
              · obtain rfl : kk = 2 := by omega
                rw [show ((2 : Nat) : Int) = 2 from rfl] at hkv
                subst hkv
                go_wp2_with (go_at_call 27; refine (life_any _ _ _ _ _ _ _ _ _ _ HPk.out).mono ?_; rintro e w5 ⟨rfl, rfl⟩)
                go_roundw
                case rel => exact ⟨r + 1, by omega, by go_num, HVW.out, _, _, _, _, _, by simpa using HPk.out⟩
                case measure => simp [intOf]; omega
        · have d4 : decide (r < n1) = false := decide_eq_false ht
          obtain ⟨wz, rfl⟩ : ∃ wz : World, wz = wr := ⟨_, rfl⟩
          go_wp2_with (first
            | (go_at_call 26; refine (start_any _ _ _ _ _ _ _ _ _ _ HP.out (by omega) (by omega)).mono ?_; rintro e w5 ⟨rfl, hp5, hB5⟩; have HP5 := Lib.hid hp5; have HB5 := Lib.hid (HB.out.trans hB5); have hc5 : w5.cell? ⟨rb, ro + r, none⟩ = some (.slice (A r) (L r) (C r)) := (HB5.out.cell (cell_lt HC0.out)).trans HC0.out; clear hp5 hB5)
            | (go_at_call 27; refine (life_any _ _ _ _ _ _ _ _ _ _ HP5.out).mono ?_; rintro e w6 ⟨rfl, rfl⟩)
            | (go_at_call 25; refine (off_any _ _ _ _ _ _ _ _ _ _ HP5.out).mono ?_; rintro e w6 ⟨rfl, rfl⟩)
            | (go_at_call 31; fail))
          refine (cut_on2 w5 w.heap.size r _ _ _ _ _ _ (A r) (L r) (C r) bs (-1) HP5.out HBL.out (by omega) (HBW.out.below HB5.out) HNL.out).mono ?_
          rintro e w6 ⟨ko, kc, rfl, hp6, hb6, hB6, hne6⟩
          have HNE := Lib.hid hne6
          have HP6 := Lib.hid hp6; have HB6 := Lib.hid hb6; have HBB6 := Lib.hid (HB5.out.trans hB6)
          have hc6 : w6.cell? ⟨rb, ro + r, none⟩ = some (.slice (A r) (L r) (C r)) := (HBB6.out.cell (cell_lt HC0.out)).trans HC0.out
          clear hp6 hb6 hB6 hne6 hc hc5
          go_wp2_with (first
            | (go_at_call 31; refine (cut_off _ _ _ _ _ _ _ _ _ _ _ HP6.out).mono ?_; rintro e w7 ⟨rfl, rfl⟩)
            | (go_at_call 29; fail))
          go_loopw [10] (fun k w9 => ∃ kk : Nat, kk ≤ 2 ∧ k = .int .i64 kk ∧ Below w.heap.size w w9 ∧ Bl w9 ko bs ∧ ((kk = 0 ∧ Pw w9 w.heap.size true r (.slice ko (L r) kc) (-1) true (.slice none 0 0) 0 0) ∨ (1 ≤ kk ∧ Pw w9 w.heap.size false ((r : Int) + 1) (.slice ko (L r) kc) (-1) true (.slice none 0 0) 0 0))) (fun k _ => 2 - (intOf k).toNat)
          case atStart => exact ⟨0, by omega, rfl, HBB6.out, HB6.out, .inl ⟨rfl, HP6.out⟩⟩
          case round =>
            obtain ⟨kk, hkk, hkv, hBV, hbV, hV⟩ := hrel
            obtain ⟨V, rfl⟩ : ∃ V : World, V = wr := ⟨_, rfl⟩
            have HVW := Lib.hid hBV; have HBk := Lib.hid hbV
            have hcV : V.cell? ⟨rb, ro + r, none⟩ = some (.slice (A r) (L r) (C r)) := (HVW.out.cell (cell_lt HC0.out)).trans HC0.out
            have HVC := Lib.hid hcV
            clear hBV hbV hc6
            rcases hV with ⟨h0, hpV⟩ | ⟨h1, hpV⟩
            · subst h0
              rw [show ((0 : Nat) : Int) = 0 from rfl] at hkv
              subst hkv
              have HPk := Lib.hid hpV
              clear hpV
              go_wp2_with (first | (go_at_call 29; fail))
              go_loop [11] (fun j => ∃ q : Nat, q ≤ L r + 2 ∧ j = .int .i64 ((q : Int) - 1)) (fun j => L r + 2 - (intOf j + 1).toNat)
              case atStart => exact ⟨0, Nat.zero_le _, rfl⟩
              case round =>
                obtain ⟨q, hq, hj⟩ := hrel
                rcases q with _ | c
                · rw [show (((0 : Nat) : Int) - 1) = -1 by rfl] at hj
                  subst hj
                  have d8 : decide ((-1 : Int) ≤ (L r : Int)) = true := decide_eq_true (by omega)
                  have HK := Lib.hid (kept_out V w.heap.size true r ko (L r) kc (-1) true _ 0 0 (-1) HPk.out (.inl (by omega)))
                  go_wp2_with (go_at_call 29; refine HK.out.mono ?_; rintro e w5 ⟨rfl, rfl⟩)
                  go_round
                  case rel => exact ⟨1, by omega, rfl⟩
                  case measure => first | (simp [intOf]; done) | (simp [intOf]; omega)
                · rw [show (((c + 1 : Nat) : Int) - 1) = (c : Int) by omega] at hj
                  subst hj
                  by_cases hc : c < L r
                  · have d8 : decide (c ≤ L r) = true := decide_eq_true (by omega)
                    have d9 : decide (c < L r) = true := decide_eq_true hc
                    obtain ⟨b', o', hA', hce⟩ := HROW.out hc
                    obtain ⟨kb, ko', rfl, hkc⟩ := HBk.out.at (by rw [HBL.out]; omega)
                    have h1 := hkc c (by rw [HBL.out]; exact hc)
                    rw [HBG.out c hc] at h1
                    have h2 : V.cell? ⟨rb, ro + r, none⟩ = some (.slice (some ⟨b', o', none⟩) (L r) (C r)) := by rw [← hA']; exact HVC.out
                    have h3 : V.cell? ⟨b', o' + c, none⟩ = some (.bool (B r c)) := by rw [HVW.out.cell (cell_lt hce), hce]
                    have HK := Lib.hid (kept_in V w.heap.size true r kb ko' (L r) kc (-1) true _ 0 0 c (B r c) HPk.out hc h1)
                    obtain ⟨x, hx⟩ : ∃ x, x = B r c := ⟨_, rfl⟩
                    rw [← hx] at h3 HK
                    clear hA' hce hkc h1 hx hcV
                    go_wp2_with (go_at_call 29; refine HK.out.mono ?_; rintro e w5 ⟨rfl, rfl⟩)
                    go_round
                    case rel => exact ⟨c + 2, by omega, by go_num⟩
                    case measure => simp [intOf]; omega
                  · by_cases hc2 : c = L r
                    · have d8 : decide (c ≤ L r) = true := decide_eq_true (by omega)
                      have d9 : decide (c < L r) = false := decide_eq_false (by omega)
                      have HK := Lib.hid (kept_out V w.heap.size true r ko (L r) kc (-1) true _ 0 0 (c : Int) HPk.out (.inr (by omega)))
                      have HC2 := Lib.hid hc2
                      clear hc2
                      go_wp2_with (go_at_call 29; refine HK.out.mono ?_; rintro e w5 ⟨rfl, rfl⟩)
                      go_round
                      case rel => exact ⟨c + 2, by have := HC2.out; omega, by go_num⟩
                      case measure => have := HC2.out; simp [intOf]; omega
                    · have d8 : decide (c ≤ L r) = false := decide_eq_false (by omega)
                      clear hc2
                      go_wp2_with (first
                        | (go_at_call 30; refine (torn_any _ _ _ _ _ _ _ _ _ _ HPk.out).mono ?_; rintro e w5 ⟨rfl, rfl⟩)
                        | (go_at_call 25; refine (off_any _ _ _ _ _ _ _ _ _ _ HPk.out).mono ?_; rintro e w5 ⟨rfl, rfl⟩)
                        | (go_at_call 24; refine (spend_off _ _ _ _ _ _ _ _ _ HPk.out).mono ?_; rintro e w5 ⟨rfl, rfl⟩)
                        | (go_at_call 26; refine (start_only _ _ _ _ _ _ _ _ _ _ HPk.out (by omega) (by omega)).mono ?_; rintro e w8 ⟨rfl, hp8, hB8, ho8⟩; have HBX8 := Lib.hid (HBk.out.only ho8 HNE.out); have HP8 := Lib.hid hp8; have HB8 := Lib.hid hB8; clear hp8 hB8 ho8))
                      go_roundw
                      case rel => exact ⟨1, by omega, by go_num, HVW.out.trans HB8.out, HBX8.out, .inr ⟨by omega, HP8.out⟩⟩
                      case measure => first | (simp [intOf]; done) | (simp [intOf]; omega)
            · have HPk := Lib.hid hpV
              clear hpV
              by_cases h2 : kk = 1
              · subst h2
                rw [show ((1 : Nat) : Int) = 1 from rfl] at hkv
                subst hkv
                go_wp2_with (first | (go_at_call 29; fail))
                go_loop [11] (fun j => ∃ q : Nat, q ≤ L r + 2 ∧ j = .int .i64 ((q : Int) - 1)) (fun j => L r + 2 - (intOf j + 1).toNat)
                case atStart => exact ⟨0, Nat.zero_le _, rfl⟩
                case round =>
                  obtain ⟨q, hq, hj⟩ := hrel
                  rcases q with _ | c
                  · rw [show (((0 : Nat) : Int) - 1) = -1 by rfl] at hj
                    subst hj
                    have d8 : decide ((-1 : Int) ≤ (L r : Int)) = true := decide_eq_true (by omega)
                    have HK := Lib.hid (kept_out V w.heap.size false ((r : Int) + 1) ko (L r) kc (-1) true _ 0 0 (-1) HPk.out (.inl (by omega)))
                    go_wp2_with (go_at_call 29; refine HK.out.mono ?_; rintro e w5 ⟨rfl, rfl⟩)
                    go_round
                    case rel => exact ⟨1, by omega, rfl⟩
                    case measure => first | (simp [intOf]; done) | (simp [intOf]; omega)
                  · rw [show (((c + 1 : Nat) : Int) - 1) = (c : Int) by omega] at hj
                    subst hj
                    by_cases hc : c < L r
                    · have d8 : decide (c ≤ L r) = true := decide_eq_true (by omega)
                      have d9 : decide (c < L r) = true := decide_eq_true hc
                      obtain ⟨b', o', hA', hce⟩ := HROW.out hc
                      obtain ⟨kb, ko', rfl, hkc⟩ := HBk.out.at (by rw [HBL.out]; omega)
                      have h1 := hkc c (by rw [HBL.out]; exact hc)
                      rw [HBG.out c hc] at h1
                      have h2 : V.cell? ⟨rb, ro + r, none⟩ = some (.slice (some ⟨b', o', none⟩) (L r) (C r)) := by rw [← hA']; exact HVC.out
                      have h3 : V.cell? ⟨b', o' + c, none⟩ = some (.bool (B r c)) := by rw [HVW.out.cell (cell_lt hce), hce]
                      have HK := Lib.hid (kept_in V w.heap.size false ((r : Int) + 1) kb ko' (L r) kc (-1) true _ 0 0 c (B r c) HPk.out hc h1)
                      obtain ⟨x, hx⟩ : ∃ x, x = B r c := ⟨_, rfl⟩
                      rw [← hx] at h3 HK
                      clear hA' hce hkc h1 hx hcV
                      go_wp2_with (go_at_call 29; refine HK.out.mono ?_; rintro e w5 ⟨rfl, rfl⟩)
                      go_round
                      case rel => exact ⟨c + 2, by omega, by go_num⟩
                      case measure => simp [intOf]; omega
                    · by_cases hc2 : c = L r
                      · have d8 : decide (c ≤ L r) = true := decide_eq_true (by omega)
                        have d9 : decide (c < L r) = false := decide_eq_false (by omega)
                        have HK := Lib.hid (kept_out V w.heap.size false ((r : Int) + 1) ko (L r) kc (-1) true _ 0 0 (c : Int) HPk.out (.inr (by omega)))
                        have HC2 := Lib.hid hc2
                        clear hc2
                        go_wp2_with (go_at_call 29; refine HK.out.mono ?_; rintro e w5 ⟨rfl, rfl⟩)
                        go_round
                        case rel => exact ⟨c + 2, by have := HC2.out; omega, by go_num⟩
                        case measure => have := HC2.out; simp [intOf]; omega
                      · have d8 : decide (c ≤ L r) = false := decide_eq_false (by omega)
                        clear hc2
                        go_wp2_with (first
                          | (go_at_call 30; refine (torn_any _ _ _ _ _ _ _ _ _ _ HPk.out).mono ?_; rintro e w5 ⟨rfl, rfl⟩)
                          | (go_at_call 25; refine (off_any _ _ _ _ _ _ _ _ _ _ HPk.out).mono ?_; rintro e w5 ⟨rfl, rfl⟩)
                          | (go_at_call 24; refine (spend_free _ _ _ _ _ _ _ _ _ HPk.out (by omega)).mono ?_; rintro e w5 ⟨rfl, rfl⟩)
                          | (go_at_call 26; refine (start_only _ _ _ _ _ _ _ _ _ _ HPk.out (by omega) (by omega)).mono ?_; rintro e w8 ⟨rfl, hp8, hB8, ho8⟩; have HBX8 := Lib.hid (HBk.out.only ho8 HNE.out); have HP8 := Lib.hid hp8; have HB8 := Lib.hid hB8; clear hp8 hB8 ho8))
                        go_roundw
                        case rel => exact ⟨2, by omega, by go_num, HVW.out.trans HB8.out, HBX8.out, .inr ⟨by omega, HP8.out⟩⟩
                        case measure => first | (simp [intOf]; done) | (simp [intOf]; omega)
              · obtain rfl : kk = 2 := by omega
                rw [show ((2 : Nat) : Int) = 2 from rfl] at hkv
                subst hkv
                go_wp2_with (go_at_call 27; refine (life_any _ _ _ _ _ _ _ _ _ _ HPk.out).mono ?_; rintro e w5 ⟨rfl, rfl⟩)
                go_roundw
                case rel => exact ⟨r + 1, by omega, by go_num, HVW.out, _, _, _, _, _, by simpa using HPk.out⟩
                case measure => simp [intOf]; omega
      · have d3 : decide (100 < (L r : Int)) = true := decide_eq_true (by omega)
        go_wp2_with (first | (go_at_call 26; fail))
        go_ret
        exact ⟨rfl, HB.out⟩
    · go_wp2_with (go_at_call 28; refine (wakes8 _).mono ?_; rintro e w6 ⟨rfl, hB6⟩)
      go_ret
      exact ⟨rfl, HB.out.trans (hB6.mono HB.out.size)⟩

end Go.Proofs.Ytcldfnnnjmhkjaa
