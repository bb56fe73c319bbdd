/-
  The walk of MediumGrows.
-/
import Derived.Test.YtojcinkchdhjpaaSpoils
import Derived.Test.YtojcinkchdhjpaaMedC
import Derived.Test.YtojcinkchdhjpaaOpen
namespace Go.Proofs.Ytojcinkchdhjpaa
open Go.RowKit
set_option linter.unusedVariables false

/-- THE PARTS ps LIE AT ao. -/
def Ps (w : World) (ao : Option Addr) (ps : List Part) : Prop :=
  ps = [] ∨ ∃ b o, ao = some ⟨b, o, none⟩ ∧ ∀ r, (h : r < ps.length) → w.cell? ⟨b, o + r, none⟩ = some (.slice ps[r].a ps[r].l ps[r].c) ∧ ps[r].ok w
theorem Ps.below {w w' : World} {ao : Option Addr} {ps : List Part} (h : Ps w ao ps) (hB : Below w.heap.size w w') : Ps w' ao ps := by
  rcases h with h | ⟨b, o, ha, hc⟩
  · exact .inl h
  · exact .inr ⟨b, o, ha, fun r hr => ⟨by rw [hB.cell (cell_lt (hc r hr).1)]; exact (hc r hr).1, (hc r hr).2.below hB⟩⟩
theorem Ps.at {w : World} {ao : Option Addr} {ps : List Part} (h : Ps w ao ps) {r : Nat} (hr : r < ps.length) : ∃ b o, ao = some ⟨b, o, none⟩ ∧ w.cell? ⟨b, o + r, none⟩ = some (.slice ps[r].a ps[r].l ps[r].c) ∧ ps[r].ok w := by
  rcases h with h | ⟨b, o, ha, hc⟩
  · rw [h] at hr; exact absurd hr (Nat.not_lt_zero _)
  · exact ⟨b, o, ha, (hc r hr).1, (hc r hr).2⟩
/-- A slice of slices of numbers. -/
def IsRows (k : IntKind) (w : World) (a : Option Addr) (len cap : Nat) (A : Nat → Option Addr) (L C : Nat → Nat) (Z : Nat → List Int) : Prop :=
  (a = none ∧ len = 0 ∧ cap = 0) ∨
  ∃ x, a = some x ∧ len ≤ cap ∧ cap ≤ maxLen ∧ ∀ r, r < cap → w.cell? (x.add r) = some (.slice (A r) (L r) (C r)) ∧ L r ≤ C r ∧ C r ≤ maxLen ∧ (Z r).length = C r ∧ (∀ n ∈ Z r, (Lit.int k n).wf = true) ∧
    (A r = none → C r = 0) ∧ ∀ a', A r = some a' → ∀ c, c < C r → w.cell? (a'.add c) = some (.int k ((Z r).getD c 0))
theorem IsRows.parts {w : World} {a : Option Addr} {len cap : Nat} {A : Nat → Option Addr} {L C : Nat → Nat} {Z : Nat → List Int} (h : IsRows .u8 w a len cap A L C Z) :
    ∃ ps : List Part, ps.length = len ∧ len ≤ maxLen ∧ Ps w a ps := by
  rcases h with ⟨rfl, rfl, rfl⟩ | ⟨x, rfl, h1, h2, h3⟩
  · exact ⟨[], rfl, Nat.zero_le _, .inl rfl⟩
  · refine ⟨(List.range len).map fun r => ⟨A r, L r, C r, (Z r).take (L r)⟩, by simp, Nat.le_trans h1 h2, ?_⟩
    by_cases h0 : len = 0
    · subst h0; exact .inl rfl
    · obtain ⟨b, o, spot⟩ := x
      have hspot : spot = none := by simpa [Addr.add] using World.cell?_spot (h3 0 (by omega)).1
      subst hspot
      refine .inr ⟨b, o, rfl, fun r hr => ?_⟩
      simp only [List.length_map, List.length_range] at hr
      obtain ⟨k1, k2, k3, k4, k5, k6, k7⟩ := h3 r (by omega)
      simp only [List.getElem_map, List.getElem_range]
      refine ⟨by rw [← Addr.add_lit]; exact k1, ?_, by simp; omega, (bts_of_wf k5).take _, Nat.le_trans k2 k3, k6, k2, k3⟩
      rcases ha : A r with _ | a'
      · exact .inl (by simp; have := k6 ha; omega)
      · exact rd_of_ints k4 k2 (fun i hi => k7 a' ha i (by omega))
/-- What is written for a part: a mark for nothing, else a block. -/
def gk (p : Part) : Key := if p.l = 0 then (2, [], false) else (1, p.z, false)
theorem gk_take (ps : List Part) (i : Nat) (h : i < ps.length) : (ps.take (i + 1)).map gk = (ps.take i).map gk ++ [gk ps[i]] := by
  rw [List.take_succ_eq_append_getElem h, List.map_append]; rfl
theorem tearK_full {p : Int} {ks : List Key} {k : Nat} {z : List Int} (keep : Int) (hk : k ≤ ks.length) (hp : (k : Int) = p) (h1 : 1 ≤ z.length) (h2 : z.length ≤ 256) : tearK p ks k z keep = (7, 0, []) := by
  have hc : ce p ks.length k z.length = 7 := by unfold ce; rw [if_neg (by omega), if_neg (by omega), if_pos hp]
  unfold tearK
  rw [hc]; rfl
theorem tearK_ok {p : Int} {ks : List Key} {k : Nat} {z : List Int} (keep : Int) (hk : k ≤ ks.length) (hp : (k : Int) ≠ p) (h1 : 1 ≤ z.length) (h2 : z.length ≤ 256) : tearK p ks k z keep = if keep < 0 then (0, p, ks) else (0, p, ks.take k ++ [(3, z.take keep.toNat, false)]) := by
  have hc : ce p ks.length k z.length = 0 := by unfold ce; rw [if_neg (by omega), if_neg (by omega), if_neg hp]
  unfold tearK
  rw [if_pos hc, Int.toNat_natCast]
theorem rd_in (ks : List Key) (i : Nat) {x : Key} (h : ks[i]? = some x) : rd ks i = rc x := by
  unfold rd
  rw [if_pos (by omega), Int.toNat_natCast, h]
theorem good_add {p : Int} {ks : List Key} (h : goodK p ks = true) {x : Key} (hk : (ks.length : Int) < p) (hx : okc x.1 x.2.1.length = true) : goodK p (ks ++ [x]) = true := by
  have := good_snoc h hk (Nat.le_refl _) hx
  rwa [List.take_length] at this

theorem cell_far {w : World} {g g6 n : Nat} (hne : g ≠ g6) (u0 u1 : Value) : ((w.setCell ⟨g6, 0, none⟩ u0).setCell ⟨g6, 1, none⟩ u1).cell? ⟨g, n, none⟩ = w.cell? ⟨g, n, none⟩ := by
  have e : ((w.setCell ⟨g6, 0, none⟩ u0).setCell ⟨g6, 1, none⟩ u1).heap[g]? = w.heap[g]? := by rw [set_far _ _ _ _ _ hne, set_far _ _ _ _ _ hne]
  generalize ((w.setCell ⟨g6, 0, none⟩ u0).setCell ⟨g6, 1, none⟩ u1) = W at e ⊢
  exact World.cell?_of_block e
/-- A tape variable's two cells, written over. -/
theorem put_var {W : World} {B g g' T : Nat} {a0 a1 : Value} (h : W.heap[g]? = some (.cells #[a0, a1] T (0, 0))) (u0 u1 : Value) {ko : Option Addr} {base n kc : Nat} {cs : List Cel} (hO : OCs W base ko n kc cs) (hT : T ≠ 50) (hT5 : T ≠ 5) {w0 : World} (hB : Below B w0 W) (hg : B ≤ g) {x0 x1 : Value} (h' : W.heap[g']? = some (.cells #[x0, x1] T (0, 0))) (hne : g' ≠ g) :
    ((W.setCell ⟨g, 0, none⟩ u0).setCell ⟨g, 1, none⟩ u1).heap[g]? = some (.cells #[u0, u1] T (0, 0)) ∧ OCs ((W.setCell ⟨g, 0, none⟩ u0).setCell ⟨g, 1, none⟩ u1) base ko n kc cs ∧ Below B w0 ((W.setCell ⟨g, 0, none⟩ u0).setCell ⟨g, 1, none⟩ u1) ∧
      ((W.setCell ⟨g, 0, none⟩ u0).setCell ⟨g, 1, none⟩ u1).heap[g']? = some (.cells #[x0, x1] T (0, 0)) :=
  ⟨heap2 h u0 u1, hO.set2 h u0 u1 hT hT5, below2 hB hg u0 u1, by rw [set_far _ _ _ _ _ hne, set_far _ _ _ _ _ hne]; exact h'⟩

set_option maxRecDepth 100000 in
set_option maxHeartbeats 8000000 in
theorem grows_walk (sz : Int) (ao : Option Addr) (L cap : Nat) (ps : List Part) (keep : Int) (w : World) (hl : ps.length = L) (hm : L ≤ maxLen) (hps : Ps w ao ps) : Calls Try.prog 7 #[.int .i64 sz, .slice ao L cap, .int .i64 keep] w fun e w' => e = .returned (.bool true) ∧ Below w.heap.size w w' := by
  unfold maxLen at hm
  obtain ⟨K, hK1, hK2⟩ := uwrap_at sz 40 (by omega) (by omega)
  by_cases h60 : 60 < L
  · have d1 : decide ((60 : Int) < (L : Int)) = true := decide_eq_true (by omega)
    have d1' : decide (60 < L) = true := decide_eq_true h60
    clear hps hK1 hK2
    go_enter Try.func7, Try.ntmps7
    go_wp2
    go_ret
    exact ⟨rfl, Below.refl _ _⟩
  have d1 : decide ((60 : Int) < (L : Int)) = false := decide_eq_false (by omega)
  have d1' : decide (60 < L) = false := decide_eq_false h60
  obtain ⟨S, hS⟩ : ∃ S : Nat, S = K + 1 := ⟨_, rfl⟩
  have hS2 : (1 : Int) + (K : Int) = (S : Int) := by omega
  have hS40 : S ≤ 40 := by omega
  have hS1 : 1 ≤ S := by omega
  have hnew := new_any (S : Int) w
  have hnk : newK (S : Int) = (0, (S : Int), []) := by unfold newK; rw [if_pos (by omega)]
  rw [hnk] at hnew
  have HN := Lib.hid hnew; have HPS := Lib.hid hps; have HL := Lib.hid hl
  have hwk := fun V => wakes_any V
  have HWK := Lib.hid hwk; have HS2 := Lib.hid hS2; have HK2 := Lib.hid hK2
  clear hnew hnk hps hl hwk hK1 hS hS2 hK2
  go_enter Try.func7, Try.ntmps7
  have hK2 := HK2.out
  go_wp2_with (go_at_call 38; fail)
  rw [hK2]
  clear hK2
  rw [HS2.out, IntWalk.wrap64_in (S : Int) ⟨by omega, by omega⟩]
  refine HN.out.mono ?_
  intro e w1 h1
  obtain ⟨ko1, n1, kc1, cs1, rfl, hn1, hall⟩ := h1.absorb
  obtain rfl : n1 = 0 := hn1
  obtain ⟨V1, hV1⟩ : ∃ V1, V1 = w1.alloc (.cells #[.int .i64 S, .slice ko1 0 kc1] 24) := ⟨_, rfl⟩
  obtain ⟨hB1, hy1, ht1, hk1⟩ := hall V1 hV1
  obtain ⟨g7, hg7⟩ : ∃ g7, g7 = w1.heap.size := ⟨_, rfl⟩
  rw [← hg7] at hy1
  have HB1 := Lib.hid hB1; have HY1 := Lib.hid hy1; have HT1 := Lib.hid ht1; have HK1 := Lib.hid hk1; have HV1 := Lib.hid hV1; have HG7 := Lib.hid hg7; have HP1 := Lib.hid (HPS.out.below hB1)
  have hg7n : w.heap.size ≤ g7 := by
    have := hB1.size; rw [hV1] at this; simp at this
    have h2 := h1
    obtain ⟨_, _, _, _, _, _, _, hb⟩ := h2.elim
    have := hb.size; omega
  clear h1 hall hB1 hy1 ht1 hk1 hV1 hg7 d1 d1'
  go_wp2
  rw [← HV1.out, ← HG7.out]
  go_loopw [9] (fun iv wr => ∃ (i : Nat) (ko : Option Addr) (n kc : Nat) (cs : List Cel), i ≤ L ∧ i ≤ S ∧ n = i ∧ iv = .int .i64 i ∧ wr.heap[g7]? = some (.cells #[.int .i64 S, .slice ko n kc] 24 (0, 0)) ∧ Tap.ok wr ⟨S, ko, n, kc, cs⟩ ∧ Tap.ks ⟨S, ko, n, kc, cs⟩ = (ps.take i).map gk ∧ goodK S ((ps.take i).map gk) = true ∧ Ps wr ao ps ∧ Below w.heap.size w wr) (fun iv _ => L - (intOf iv).toNat)
  case atStart => exact ⟨0, ko1, 0, kc1, cs1, Nat.zero_le _, Nat.zero_le _, rfl, rfl, HY1.out, HT1.out, HK1.out, (by simp [goodK]; omega), HP1.out, HB1.out⟩
  case round =>
    obtain ⟨i, ko, n, kc, cs, hi, hiS, rfl, rfl, hy, ht, hk, hg, hp, hB⟩ := hrel
    have HY := Lib.hid hy; have HT := Lib.hid ht; have HK := Lib.hid hk; have HG := Lib.hid hg; have HP := Lib.hid hp; have HB := Lib.hid hB
    clear hy ht hk hg hp hB HY1 HT1 HK1 HP1
    obtain ⟨x0, x1, _⟩ := cells2 HY.out
    by_cases hlt : n < L
    · have f1 : decide ((n : Int) < (L : Int)) = true := decide_eq_true (by omega)
      have hlt' : n < ps.length := by rw [HL.out]; exact hlt
      obtain ⟨b, o, rfl, c0, hd⟩ := HP.out.at hlt'
      have hgt := gk_take ps n hlt'
      obtain ⟨d, hdd⟩ : ∃ d, d = ps[n] := ⟨_, rfl⟩
      rw [← hdd] at c0 hd hgt
      obtain ⟨ks, hks⟩ : ∃ ks, ks = (ps.take n).map gk := ⟨_, rfl⟩
      have hkl : ks.length = n := by rw [hks, List.length_map, List.length_take]; omega
      rw [← hks] at hgt
      have hkT := HK.out
      have hgT := HG.out
      rw [← hks] at hkT hgT
      have HKT := Lib.hid hkT; have HGT := Lib.hid hgT; have HKL := Lib.hid hkl; have HGK := Lib.hid hgt; have HD := Lib.hid hd
      have hds := hd.small
      unfold maxLen at hds
      have i1 : (0 : Int) ≤ (n : Int) := by omega
      have i2 : (n : Int) < (L : Int) := by omega
      clear hd hgt hdd hks hkl hkT hgT HK HG
      obtain ⟨da, dl, dc, dz⟩ := d
      simp only at c0 hds
      by_cases h256 : 256 < dl
      · have e1 : decide ((256 : Int) < (dl : Int)) = true := decide_eq_true (by omega)
        have e1' : decide (256 < dl) = true := decide_eq_true h256
        go_wp2
        go_ret
        exact ⟨rfl, HB.out⟩
      have e1 : decide ((256 : Int) < (dl : Int)) = false := decide_eq_false (by omega)
      have e1' : decide (256 < dl) = false := decide_eq_false h256
      obtain ⟨Wn, hWn⟩ : ∃ Wn, Wn = wr.alloc (.cells #[.int .i64 0, .slice none 0 0] 24) := ⟨_, rfl⟩
      obtain ⟨g10, hg10⟩ : ∃ g10, g10 = wr.heap.size := ⟨_, rfl⟩
      have hbn : Below wr.heap.size wr Wn := by rw [hWn]; exact (Below.refl _ _).alloc (Nat.le_refl _) _
      have hyn : Wn.heap[g10]? = some (.cells #[.int .i64 0, .slice none 0 0] 24 (0, 0)) := by rw [hWn, hg10]; exact new_cell _ _ _
      have hg10n : w.heap.size ≤ g10 := by rw [hg10]; exact HB.out.size
      have hne : g7 ≠ g10 := by have := (Array.getElem?_eq_some_iff.1 HY.out).1; omega
      have HWn := Lib.hid hWn; have HG10 := Lib.hid hg10; have HBN := Lib.hid hbn; have HYN := Lib.hid hyn; have HNE := Lib.hid hne
      have htn : ∀ V, Below Wn.heap.size Wn V → Tap.ok V ⟨S, ko, n, kc, cs⟩ ∧ Part.ok V ⟨da, dl, dc, dz⟩ ∧ V.cell? ⟨g7, 0, none⟩ = some (.int .i64 S) ∧ V.cell? ⟨g7, 1, none⟩ = some (.slice ko n kc) ∧ V.cell? ⟨b, o + n, none⟩ = some (.slice da dl dc) ∧ V.heap[g10]? = some (.cells #[.int .i64 0, .slice none 0 0] 24 (0, 0)) := fun V hb => by
        have hb2 := hbn.trans (hb.mono hbn.size)
        obtain ⟨a0, a1, _⟩ := cells2 (cells2at HY.out hb2)
        exact ⟨HT.out.below hb2, HD.out.below hb2, a0, a1, by rw [hb2.cell (cell_lt c0)]; exact c0, cells2at hyn hb⟩
      have HTN := Lib.hid htn
      clear hbn hyn hne htn hg10 hWn
      have HC0 := Lib.hid c0
      have HN3 := Lib.hid (show b < w.heap.size from by
        rcases HPS.out with h | ⟨b', o', e, hcc⟩
        · rw [h] at hlt'; exact absurd hlt' (Nat.not_lt_zero _)
        · cases e; exact cell_lt (hcc n hlt').1)
      by_cases h0 : dl = 0
      · have e2 : ((dl : Int) == 0) = true := by rw [h0]; rfl
        have hgk : gk ⟨da, dl, dc, dz⟩ = (2, [], false) := by unfold gk; rw [if_pos h0]
        rw [hgk] at HGK
        have htk : ks.take n = ks := List.take_of_length_le (by rw [HKL.out]; exact Nat.le_refl _)
        have hma := mark_any ⟨S, ko, n, kc, cs⟩ n Wn (HTN.out Wn (Below.refl _ _)).1 (by rw [HKT.out]; exact HGT.out)
        rw [HKT.out] at hma
        by_cases hnS : n < S
        · rw [markK_ok (by rw [HKL.out]; exact Nat.le_refl _) (by show (n : Int) ≠ (S : Int); omega), htk] at hma
          have hgn : goodK S (ks ++ [(2, [], false)]) = true := good_add HGT.out (by rw [HKL.out]; omega) rfl
          have e3 : decide ((S : Int) ≤ (n : Int)) = false := decide_eq_false (by omega)
          have e3' : decide (S ≤ n) = false := decide_eq_false (by omega)
          have HMA := Lib.hid hma; have HGN := Lib.hid hgn
          clear h0 hgk htk hma hgn
          obtain ⟨_, _, m0, m1, m2, _⟩ := HTN.out Wn (Below.refl _ _)
          rw [HWn.out] at m0 m1 m2
          go_wp2_with (go_at_call 15; fail)
          rw [← HWn.out, ← HG10.out]
          clear m0 m1 m2
          refine HMA.out.mono ?_
          intro e w2 h2
          obtain ⟨ko2, n2, kc2, cs2, rfl, hO2, hk2, hB2⟩ := h2.elim
          obtain rfl : n2 = n + 1 := by rw [← hO2.len, ← keys_len, hk2, List.length_append, HKL.out]; rfl
          have hbw := HB.out.trans ((HBN.out.trans (hB2.mono HBN.out.size)).mono HB.out.size)
          have hy10 := cells2at HYN.out hB2
          have hy7 := cells2at HY.out (HBN.out.trans (hB2.mono HBN.out.size))
          obtain ⟨z3, o3, b3, y37⟩ := put_var hy10 (.int .i64 S) (.slice ko2 (n + 1) kc2) hO2 (by decide) (by decide) hbw hg10n hy7 HNE.out
          obtain ⟨z4, o4, b4, _⟩ := put_var y37 (.int .i64 S) (.slice ko2 (n + 1) kc2) o3 (by decide) (by decide) b3 hg7n z3 HNE.out.symm
          obtain ⟨u0, u1, uf⟩ := cells2 hy10
          obtain ⟨v0, v1, vf⟩ := cells2 z3
          obtain ⟨q0, q1, qf⟩ := cells2 y37
          have hpn := HP.out.below (HBN.out.trans (hB2.mono HBN.out.size))
          have HZ4 := Lib.hid z4; have HO4 := Lib.hid o4; have HB4 := Lib.hid b4; have HK2 := Lib.hid hk2
          have HP4 : Hid (Ps ((((w2.setCell ⟨g10, 0, none⟩ (.int .i64 S)).setCell ⟨g10, 1, none⟩ (.slice ko2 (n + 1) kc2)).setCell ⟨g7, 0, none⟩ (.int .i64 S)).setCell ⟨g7, 1, none⟩ (.slice ko2 (n + 1) kc2)) (some ⟨b, o, none⟩) ps) := HPS.out.below b4
          clear h2 hO2 hk2 hB2 hbw hy10 hy7 z3 o3 b3 y37 z4 o4 b4 hpn x0 x1 c0
          go_wp2
          go_roundw
          case rel =>
            have hks3 : Tap.ks ⟨S, ko2, n + 1, kc2, cs2⟩ = (ps.take (n + 1)).map gk := by rw [HGK.out]; exact HK2.out
            exact ⟨n + 1, ko2, n + 1, kc2, cs2, by omega, by omega, rfl, by go_num, HZ4.out, HO4.out.tap _, hks3, by rw [HGK.out]; exact HGN.out, HP4.out, HB4.out⟩
          case measure => simp [intOf]; omega
        · obtain rfl : n = S := by omega
          rw [markK_full (by rw [HKL.out]; exact Nat.le_refl _) rfl] at hma
          have e3 : decide ((n : Int) ≤ (n : Int)) = true := decide_eq_true (by omega)
          have HMA := Lib.hid hma
          clear h0 hgk htk hma
          obtain ⟨_, _, m0, m1, m2, _⟩ := HTN.out Wn (Below.refl _ _)
          rw [HWn.out] at m0 m1 m2
          go_wp2_with (go_at_call 15; fail)
          rw [← HWn.out, ← HG10.out]
          clear m0 m1 m2
          refine HMA.out.mono ?_
          intro e w2 h2
          obtain ⟨ko2, n2, kc2, cs2, rfl, hO2, hk2, hB2⟩ := h2.elim
          obtain rfl : n2 = 0 := by rw [← hO2.len, ← keys_len, hk2]; rfl
          have hbw := HB.out.trans ((HBN.out.trans (hB2.mono HBN.out.size)).mono HB.out.size)
          have hy10 := cells2at HYN.out hB2
          have hy7 := cells2at HY.out (HBN.out.trans (hB2.mono HBN.out.size))
          obtain ⟨z3, o3, b3, y37⟩ := put_var hy10 (.int .i64 0) (.slice ko2 0 kc2) hO2 (by decide) (by decide) hbw hg10n hy7 HNE.out
          obtain ⟨u0, u1, uf⟩ := cells2 hy10
          obtain ⟨v0, v1, vf⟩ := cells2 z3
          have hkm := keep_med ⟨0, ko2, 0, kc2, cs2⟩ ⟨0, none, 0, 0, []⟩ _ (o3.tap 0) ⟨rfl, Nat.le_refl _, Nat.zero_le _, .inl rfl, fun _ => rfl⟩
          rw [decide_eq_true (show (Tap.mk 0 ko2 0 kc2 cs2).p = (Tap.mk 0 none 0 0 []).p ∧ Tap.ks ⟨0, ko2, 0, kc2, cs2⟩ = Tap.ks ⟨0, none, 0, 0, []⟩ from ⟨rfl, hk2⟩)] at hkm
          have HKM := Lib.hid hkm; have HB3 := Lib.hid b3
          clear h2 hO2 hk2 hB2 hbw hy10 hy7 z3 o3 b3 y37 hkm x0 x1 c0
          go_wp2_with (first
            | (go_at_call 22; refine HKM.out.mono ?_; rintro e w5 ⟨rfl, hB5⟩; have HB5 := Lib.hid (HB3.out.trans (hB5.mono HB3.out.size)); clear hB5)
            | (go_at_call 26; refine (HWK.out _).mono ?_; rintro e w6 ⟨rfl, hB6⟩; have HB6 := Lib.hid (HB5.out.trans (hB6.mono HB5.out.size)); clear hB6))
          go_ret
          exact ⟨rfl, HB6.out⟩
      · have e2 : ((dl : Int) == 0) = false := beq_eq_false_iff_ne.2 (by omega)
        have hgk : gk ⟨da, dl, dc, dz⟩ = (1, dz, false) := by unfold gk; rw [if_neg h0]
        rw [hgk] at HGK
        have htk : ks.take n = ks := List.take_of_length_le (by rw [HKL.out]; exact Nat.le_refl _)
        have hzl : dz.length = dl := HD.out.len
        have hz1 : 1 ≤ dz.length := by omega
        have hz2 : dz.length ≤ 256 := by omega
        have hte := fun V (hb : Below Wn.heap.size Wn V) => tear_any ⟨S, ko, n, kc, cs⟩ n ⟨da, dl, dc, dz⟩ keep V (HTN.out V hb).1 (by rw [HKT.out]; exact HGT.out) (HTN.out V hb).2.1
        rw [HKT.out] at hte
        have HC : Hid (∀ V, Below Wn.heap.size Wn V → V.cell? ⟨g7, 0, none⟩ = some (.int .i64 S) ∧ V.cell? ⟨g7, 1, none⟩ = some (.slice ko n kc) ∧ V.cell? ⟨b, o + n, none⟩ = some (.slice da dl dc)) := fun V hb => by
          obtain ⟨_, _, m0, m1, m2, _⟩ := HTN.out V hb
          exact ⟨m0, m1, m2⟩
        by_cases hnS : n < S
        · have hcase : ∃ (tk : List Key) (cdt : Int), tearK S ks n dz keep = (0, (S : Int), tk) ∧ goodK S tk = true ∧ tk.take n = ks ∧ n ≤ tk.length ∧ rd tk n = (cdt, []) ∧ ((keep < 0 ∧ cdt = 8) ∨ (¬ keep < 0 ∧ cdt = 6)) := by
            have h1 := tearK_ok (p := (S : Int)) (ks := ks) (k := n) (z := dz) keep (by rw [HKL.out]; exact Nat.le_refl _) (by omega) hz1 hz2
            by_cases hkp : keep < 0
            · rw [if_pos hkp] at h1
              exact ⟨ks, 8, h1, HGT.out, htk, by rw [HKL.out]; exact Nat.le_refl _, rd_end _ _ (by rw [HKL.out]; exact Nat.le_refl _), .inl ⟨hkp, rfl⟩⟩
            · rw [if_neg hkp, htk] at h1
              refine ⟨_, 6, h1, good_add HGT.out (by rw [HKL.out]; omega) ?_, by rw [List.take_append_of_le_length (by rw [HKL.out]; exact Nat.le_refl _)]; exact htk, by rw [List.length_append, HKL.out]; simp, ?_, .inr ⟨hkp, rfl⟩⟩
              · show okc 3 (dz.take keep.toNat).length = true
                simp [okc, List.length_take]; omega
              · have := rd_last ks n (3, dz.take keep.toNat, false) (by rw [HKL.out]; exact Nat.le_refl _)
                rw [htk] at this
                rw [this]; rfl
          obtain ⟨tk, cdt, ht1, ht2, ht3, ht4, ht5, ht6⟩ := hcase
          simp only [ht1] at hte
          have HTE := Lib.hid hte; have HT2 := Lib.hid ht2; have HT3 := Lib.hid ht3; have HT4 := Lib.hid ht4; have HT5 := Lib.hid ht5; have HT6 := Lib.hid ht6
          have hwk2 : writeK S tk n dz = (0, (S : Int), ks ++ [(1, dz, false)]) := by rw [writeK_ok ht4 (by omega) hz1 hz2, ht3]
          have hgn : goodK S (ks ++ [(1, dz, false)]) = true := good_add HGT.out (by rw [HKL.out]; omega) (by show okc 1 dz.length = true; simp [okc, hz1, hz2])
          have HWK2 := Lib.hid hwk2; have HGN := Lib.hid hgn
          have e3 : decide ((n : Int) < (S : Int)) = true := decide_eq_true (by omega)
          have e3' : decide (n < S) = true := decide_eq_true (by omega)
          have e4 : decide ((S : Int) ≤ (n : Int)) = false := decide_eq_false (by omega)
          have e4' : decide (S ≤ n) = false := decide_eq_false (by omega)
          obtain ⟨m0, m1, m2⟩ := HC.out Wn (Below.refl _ _)
          rw [HWn.out] at m0 m1 m2
          clear h0 hgk htk hte ht1 ht2 ht3 ht4 ht5 ht6 hwk2 hgn hzl hz1 hz2
          go_wp2
          rw [← HWn.out, ← HG10.out]
          clear m0 m1 m2 x0 x1 c0
          have HBA : Hid (Below Wn.heap.size Wn (Wn.alloc (.cells #[.int .i64 0, .slice none 0 0] 24)).drew) := ((Below.refl _ _).alloc (Nat.le_refl _) _).drew
          have HYA : Hid ((Wn.alloc (.cells #[.int .i64 0, .slice none 0 0] 24)).drew.heap[Wn.heap.size]? = some (.cells #[.int .i64 0, .slice none 0 0] 24 (0, 0))) := new_cell _ _ _
          go_region_held3 (fun V => V.cell? ⟨g7, 0, none⟩ = some (.int .i64 S) ∧ V.cell? ⟨g7, 1, none⟩ = some (.slice ko n kc) ∧ V.cell? ⟨b, o + n, none⟩ = some (.slice da dl dc))
            (first | exact HC.out _ (Below.refl _ _).drew | exact HC.out _ HBA.out | exact HC.out _ HB5.out | exact HC.out _ (HB5.out.alloc HB5.out.size _) | exact HC.out _ (below2 HB5.out (Nat.le_refl _) _ _))
            ((go_at_call 14; first
              | ((with_reducible refine (HTE.out _ (Below.refl _ _).drew).mono ?_); intro e w5 h5; obtain ⟨ko5, n5, kc5, cs5, rfl, hO5, hk5, hB5⟩ := h5.elim; have HB5 : Hid (Below Wn.heap.size Wn w5) := (Below.refl _ _).drew.trans hB5; have HO5 := Lib.hid hO5; have HK5 := Lib.hid hk5; clear h5 hO5 hk5 hB5)
              | ((with_reducible refine (HTE.out _ HBA.out).mono ?_); intro e w5 h5; obtain ⟨ko5, n5, kc5, cs5, rfl, hO5, hk5, hB5⟩ := h5.elim; have HB5 : Hid (Below Wn.heap.size Wn w5) := HBA.out.trans (hB5.mono HBA.out.size); have HY11 := Lib.hid (cells2at HYA.out hB5); obtain ⟨s0, s1, sf⟩ := cells2 HY11.out; have HO5 := Lib.hid hO5; have HK5 := Lib.hid hk5; clear h5 hO5 hk5 hB5)))
          all_goals
            rename_i hheld
            clear hheld
            first
              | (obtain ⟨V5, hV5⟩ : ∃ V5, V5 = w5.alloc (.cells #[.int .i64 S, .slice ko5 n5 kc5] 24) := ⟨_, rfl⟩
                 obtain ⟨g11, hg11⟩ : ∃ g11, g11 = w5.heap.size := ⟨_, rfl⟩
                 rw [← hV5, ← hg11]
                 have hb5 : Below Wn.heap.size Wn V5 := by rw [hV5]; exact HB5.out.alloc HB5.out.size _
                 have hy11 : V5.heap[g11]? = some (.cells #[.int .i64 S, .slice ko5 n5 kc5] 24 (0, 0)) := by rw [hV5, hg11]; exact new_cell _ _ _
                 have ho5 : OCs V5 Wn.heap.size ko5 n5 kc5 cs5 := (HO5.out.low (Nat.le_refl _)).below (by rw [hV5]; exact (Below.refl _ _).alloc (Nat.le_refl _) _)
                 have hg11n : Wn.heap.size ≤ g11 := by rw [hg11]; exact HB5.out.size
                 clear hV5 hg11)
              | (obtain ⟨V5, hV5⟩ : ∃ V5, V5 = (w5.setCell ⟨Wn.heap.size, 0, none⟩ (.int .i64 S)).setCell ⟨Wn.heap.size, 1, none⟩ (.slice ko5 n5 kc5) := ⟨_, rfl⟩
                 obtain ⟨g11, hg11⟩ : ∃ g11, g11 = Wn.heap.size := ⟨_, rfl⟩
                 rw [← hV5, ← hg11]
                 have hb5 : Below Wn.heap.size Wn V5 := by rw [hV5]; exact below2 HB5.out (Nat.le_refl _) _ _
                 have hy11 : V5.heap[g11]? = some (.cells #[.int .i64 S, .slice ko5 n5 kc5] 24 (0, 0)) := by rw [hV5, hg11]; exact heap2 HY11.out _ _
                 have ho5 : OCs V5 Wn.heap.size ko5 n5 kc5 cs5 := by rw [hV5]; exact (HO5.out.low HBA.out.size).set2 HY11.out _ _ (by decide) (by decide)
                 have hg11n : Wn.heap.size ≤ g11 := by rw [hg11]; exact Nat.le_refl _
                 clear hV5 hg11 s0 s1 sf HY11)
            have hk5 : Tap.ks ⟨S, ko5, n5, kc5, cs5⟩ = tk := HK5.out
            have hwr := fun V (hb : Below V5.heap.size V5 V) => write_any ⟨S, ko5, n5, kc5, cs5⟩ n ⟨da, dl, dc, dz⟩ V ((ho5.below hb).tap _) (by rw [hk5]; exact HT2.out) (HTN.out V (hb5.trans (hb.mono hb5.size))).2.1
            rw [hk5] at hwr
            simp only [HWK2.out] at hwr
            have hsg : g10 < Wn.heap.size := (Array.getElem?_eq_some_iff.1 HYN.out).1
            have hc2 : ∀ V, Below V5.heap.size V5 V → V.cell? ⟨g11, 0, none⟩ = some (.int .i64 S) ∧ V.cell? ⟨g11, 1, none⟩ = some (.slice ko5 n5 kc5) ∧ V.cell? ⟨b, o + n, none⟩ = some (.slice da dl dc) := fun V hb => by
              obtain ⟨a0, a1, _⟩ := cells2 (cells2at hy11 hb)
              exact ⟨a0, a1, (HC.out V (hb5.trans (hb.mono hb5.size))).2.2⟩
            have hbb : b < w.heap.size := by
              rcases HPS.out with h | ⟨b', o', e, hcc⟩
              · rw [h] at hlt'; exact absurd hlt' (Nat.not_lt_zero _)
              · cases e; exact cell_lt (hcc n hlt').1
            have hn1 : g11 ≠ g10 := by omega
            have hn2 : b ≠ g10 := by omega
            have hk2 : ∀ V, Below V5.heap.size V5 V → ∀ u0 u1, ((V.setCell ⟨g10, 0, none⟩ u0).setCell ⟨g10, 1, none⟩ u1).cell? ⟨g11, 0, none⟩ = some (.int .i64 S) ∧ ((V.setCell ⟨g10, 0, none⟩ u0).setCell ⟨g10, 1, none⟩ u1).cell? ⟨g11, 1, none⟩ = some (.slice ko5 n5 kc5) ∧ ((V.setCell ⟨g10, 0, none⟩ u0).setCell ⟨g10, 1, none⟩ u1).cell? ⟨b, o + n, none⟩ = some (.slice da dl dc) := fun V hb u0 u1 => by
              obtain ⟨c0, c1, c2⟩ := hc2 V hb
              rw [cell_far hn1, cell_far hn1, cell_far hn2]; exact ⟨c0, c1, c2⟩
            have HC2 := Lib.hid hc2; have HKK := Lib.hid hk2; have HWR := Lib.hid hwr; have HB5V := Lib.hid hb5; have HO5V := Lib.hid ho5; have HY11V := Lib.hid hy11; have HK5V := Lib.hid hk5; have HN1 := Lib.hid hn1; have HSG := Lib.hid hsg
            clear hk5 hwr hsg hc2 hbb hn1 hn2 hk2 hb5 ho5 hy11 HB5
            go_wp2
            go_region_held3 (fun V => V.cell? ⟨g11, 0, none⟩ = some (.int .i64 S) ∧ V.cell? ⟨g11, 1, none⟩ = some (.slice ko5 n5 kc5) ∧ V.cell? ⟨b, o + n, none⟩ = some (.slice da dl dc))
              (first | exact HC2.out _ (Below.refl _ _).drew | exact HC2.out _ HB6.out | exact HKK.out _ HB6.out _ _)
              ((go_at_call 13; ((with_reducible refine (HWR.out _ (Below.refl _ _).drew).mono ?_); intro e w6 h6; obtain ⟨ko6, n6, kc6, cs6, rfl, hO6, hk6, hB6⟩ := h6.elim; obtain rfl : n6 = n + 1 := (by rw [← hO6.len, ← keys_len, hk6, List.length_append, HKL.out]; rfl); have HB6 : Hid (Below V5.heap.size V5 w6) := (Below.refl _ _).drew.trans hB6; have HO6 := Lib.hid hO6; have HK6 := Lib.hid hk6; have HYN6 := Lib.hid (cells2at HYN.out (HB5V.out.trans (HB6.out.mono HB5V.out.size))); obtain ⟨s0, s1, sf⟩ := cells2 HYN6.out; clear h6 hO6 hk6 hB6)))
            rename_i hheld
            have hy11 := cells2at HY11V.out HB6.out
            have hBn6 := HB5V.out.trans (HB6.out.mono HB5V.out.size)
            have hBr6 := HBN.out.trans (hBn6.mono HBN.out.size)
            have hBw6 := HB.out.trans (hBr6.mono HB.out.size)
            have hy7 := cells2at HY.out hBr6
            obtain ⟨z7, o7, b7, y711⟩ := put_var HYN6.out (.int .i64 S) (.slice ko6 (n + 1) kc6) HO6.out (by decide) (by decide) hBw6 hg10n hy11 HN1.out
            have o5 := (HO5V.out.below HB6.out).set2 HYN6.out (.int .i64 S) (.slice ko6 (n + 1) kc6) (by decide) (by decide)
            have y77 : ((w6.setCell ⟨g10, 0, none⟩ (.int .i64 S)).setCell ⟨g10, 1, none⟩ (.slice ko6 (n + 1) kc6)).heap[g7]? = some (.cells #[.int .i64 S, .slice ko n kc] 24 (0, 0)) := by rw [set_far _ _ _ _ _ HNE.out, set_far _ _ _ _ _ HNE.out]; exact hy7
            obtain ⟨W7, hW7⟩ : ∃ W7, W7 = (w6.setCell ⟨g10, 0, none⟩ (.int .i64 S)).setCell ⟨g10, 1, none⟩ (.slice ko6 (n + 1) kc6) := ⟨_, rfl⟩
            rw [← hW7] at z7 o7 b7 y711 o5 y77 ⊢
            have hrd := read_any ⟨S, ko5, n5, kc5, cs5⟩ n W7 (o5.tap _) (by rw [HK5V.out]; exact HT2.out)
            rw [HK5V.out, HT5.out] at hrd
            obtain ⟨m0, m1, _⟩ := cells2 y711
            have Z7 := Lib.hid z7; have O7 := Lib.hid o7; have B7 := Lib.hid b7; have Y77 := Lib.hid y77; have HRD := Lib.hid hrd
            clear hheld s0 s1 sf hy11 hBn6 hBr6 hBw6 hy7 z7 o7 b7 y711 o5 y77 hW7 hrd
            go_wp2_with (go_at_call 17; fail)
            refine HRD.out.mono ?_
            rintro e w8 ⟨ko8, kc8, rfl, how8, hB8⟩
            have z8 := cells2at Z7.out hB8
            have y8 := cells2at Y77.out hB8
            obtain ⟨z9, o9, b9, _⟩ := put_var y8 (.int .i64 S) (.slice ko6 (n + 1) kc6) (O7.out.below hB8) (by decide) (by decide) (B7.out.trans (hB8.mono B7.out.size)) hg7n z8 HNE.out.symm
            clear m0 m1
            obtain ⟨m0, m1, _⟩ := cells2 z8
            obtain ⟨s0, s1, sf⟩ := cells2 y8
            have Z9 := Lib.hid z9; have O9 := Lib.hid o9; have B9 := Lib.hid b9
            clear how8 hB8 z8 y8 z9 o9 b9
            rcases HT6.out with ⟨hkp, rfl⟩ | ⟨hkp, rfl⟩
            · have p1 : decide (keep < 0) = true := decide_eq_true hkp
              have p2 : decide (0 ≤ keep) = false := decide_eq_false (by omega)
              clear hkp
              go_wp2
              go_roundw
              case rel =>
                have hks3 : Tap.ks ⟨S, ko6, n + 1, kc6, cs6⟩ = (ps.take (n + 1)).map gk := by rw [HGK.out]; exact HK6.out
                exact ⟨n + 1, ko6, n + 1, kc6, cs6, by omega, by omega, rfl, by go_num, Z9.out, O9.out.tap _, hks3, by rw [HGK.out]; exact HGN.out, HPS.out.below B9.out, B9.out⟩
              case measure => simp [intOf]; omega
            · have p1 : decide (keep < 0) = false := decide_eq_false (by omega)
              have p2 : decide (0 ≤ keep) = true := decide_eq_true (by omega)
              clear hkp
              go_wp2
              go_roundw
              case rel =>
                have hks3 : Tap.ks ⟨S, ko6, n + 1, kc6, cs6⟩ = (ps.take (n + 1)).map gk := by rw [HGK.out]; exact HK6.out
                exact ⟨n + 1, ko6, n + 1, kc6, cs6, by omega, by omega, rfl, by go_num, Z9.out, O9.out.tap _, hks3, by rw [HGK.out]; exact HGN.out, HPS.out.below B9.out, B9.out⟩
              case measure => simp [intOf]; omega
        · obtain rfl : n = S := by omega
          have hfull := tearK_full (p := (n : Int)) (ks := ks) (k := n) (z := dz) keep (by rw [HKL.out]; exact Nat.le_refl _) rfl hz1 hz2
          simp only [hfull] at hte
          have HTE := Lib.hid hte
          have e3 : decide ((n : Int) < (n : Int)) = false := decide_eq_false (by omega)
          have e4 : decide ((n : Int) ≤ (n : Int)) = true := decide_eq_true (by omega)
          have hwf := fun V (hb : Below Wn.heap.size Wn V) => write_any ⟨n, ko, n, kc, cs⟩ n ⟨da, dl, dc, dz⟩ V (HTN.out V hb).1 (by rw [HKT.out]; exact HGT.out) (HTN.out V hb).2.1
          rw [HKT.out] at hwf
          simp only [writeK_full (p := (n : Int)) (ks := ks) (k := n) (z := dz) (by rw [HKL.out]; exact Nat.le_refl _) rfl hz1 hz2] at hwf
          have HWF := Lib.hid hwf; have HZ1 := Lib.hid hz1; have HZ2 := Lib.hid hz2
          obtain ⟨m0, m1, m2⟩ := HC.out Wn (Below.refl _ _)
          rw [HWn.out] at m0 m1 m2
          clear h0 hgk htk hte hfull hwf hzl hz1 hz2
          go_wp2
          rw [← HWn.out, ← HG10.out]
          clear m0 m1 m2 x0 x1 c0
          have HBA : Hid (Below Wn.heap.size Wn (Wn.alloc (.cells #[.int .i64 0, .slice none 0 0] 24)).drew) := ((Below.refl _ _).alloc (Nat.le_refl _) _).drew
          have HYA : Hid ((Wn.alloc (.cells #[.int .i64 0, .slice none 0 0] 24)).drew.heap[Wn.heap.size]? = some (.cells #[.int .i64 0, .slice none 0 0] 24 (0, 0))) := new_cell _ _ _
          go_region_held3 (fun V => V.cell? ⟨g7, 0, none⟩ = some (.int .i64 n) ∧ V.cell? ⟨g7, 1, none⟩ = some (.slice ko n kc) ∧ V.cell? ⟨b, o + n, none⟩ = some (.slice da dl dc))
            (first | exact HC.out _ (Below.refl _ _).drew | exact HC.out _ HBA.out | exact HC.out _ HB5.out | exact HC.out _ (HB5.out.alloc HB5.out.size _) | exact HC.out _ (below2 HB5.out (Nat.le_refl _) _ _))
            ((go_at_call 14; first
              | ((with_reducible refine (HTE.out _ (Below.refl _ _).drew).mono ?_); intro e w5 h5; obtain ⟨ko5, n5, kc5, cs5, rfl, hO5, hk5, hB5⟩ := h5.elim; have HB5 : Hid (Below Wn.heap.size Wn w5) := (Below.refl _ _).drew.trans hB5; have HO5 := Lib.hid hO5; have HK5 := Lib.hid hk5; clear h5 hO5 hk5 hB5)
              | ((with_reducible refine (HTE.out _ HBA.out).mono ?_); intro e w5 h5; obtain ⟨ko5, n5, kc5, cs5, rfl, hO5, hk5, hB5⟩ := h5.elim; have HB5 : Hid (Below Wn.heap.size Wn w5) := HBA.out.trans (hB5.mono HBA.out.size); have HY11 := Lib.hid (cells2at HYA.out hB5); obtain ⟨s0, s1, sf⟩ := cells2 HY11.out; have HO5 := Lib.hid hO5; have HK5 := Lib.hid hk5; clear h5 hO5 hk5 hB5)))
          all_goals
            rename_i hheld
            clear hheld
            first
              | (obtain ⟨V5, hV5⟩ : ∃ V5, V5 = w5.alloc (.cells #[.int .i64 0, .slice ko5 n5 kc5] 24) := ⟨_, rfl⟩
                 obtain ⟨g11, hg11⟩ : ∃ g11, g11 = w5.heap.size := ⟨_, rfl⟩
                 rw [← hV5, ← hg11]
                 have hb5 : Below Wn.heap.size Wn V5 := by rw [hV5]; exact HB5.out.alloc HB5.out.size _
                 have hy11 : V5.heap[g11]? = some (.cells #[.int .i64 0, .slice ko5 n5 kc5] 24 (0, 0)) := by rw [hV5, hg11]; exact new_cell _ _ _
                 have ho5 : OCs V5 Wn.heap.size ko5 n5 kc5 cs5 := (HO5.out.low (Nat.le_refl _)).below (by rw [hV5]; exact (Below.refl _ _).alloc (Nat.le_refl _) _)
                 have hg11n : Wn.heap.size ≤ g11 := by rw [hg11]; exact HB5.out.size
                 clear hV5 hg11)
              | (obtain ⟨V5, hV5⟩ : ∃ V5, V5 = (w5.setCell ⟨Wn.heap.size, 0, none⟩ (.int .i64 0)).setCell ⟨Wn.heap.size, 1, none⟩ (.slice ko5 n5 kc5) := ⟨_, rfl⟩
                 obtain ⟨g11, hg11⟩ : ∃ g11, g11 = Wn.heap.size := ⟨_, rfl⟩
                 rw [← hV5, ← hg11]
                 have hb5 : Below Wn.heap.size Wn V5 := by rw [hV5]; exact below2 HB5.out (Nat.le_refl _) _ _
                 have hy11 : V5.heap[g11]? = some (.cells #[.int .i64 0, .slice ko5 n5 kc5] 24 (0, 0)) := by rw [hV5, hg11]; exact heap2 HY11.out _ _
                 have ho5 : OCs V5 Wn.heap.size ko5 n5 kc5 cs5 := by rw [hV5]; exact (HO5.out.low HBA.out.size).set2 HY11.out _ _ (by decide) (by decide)
                 have hg11n : Wn.heap.size ≤ g11 := by rw [hg11]; exact Nat.le_refl _
                 clear hV5 hg11 s0 s1 sf HY11)
            have hk5 : Tap.ks ⟨0, ko5, n5, kc5, cs5⟩ = [] := HK5.out
            have hwb := fun V (hb : Below V5.heap.size V5 V) => write_bad ⟨0, ko5, n5, kc5, cs5⟩ n da dl dc V ((ho5.below hb).tap _) (by rw [hk5]; rfl)
            have hsg : g10 < Wn.heap.size := (Array.getElem?_eq_some_iff.1 HYN.out).1
            have hc2 : ∀ V, Below V5.heap.size V5 V → V.cell? ⟨g11, 0, none⟩ = some (.int .i64 0) ∧ V.cell? ⟨g11, 1, none⟩ = some (.slice ko5 n5 kc5) ∧ V.cell? ⟨b, o + n, none⟩ = some (.slice da dl dc) := fun V hb => by
              obtain ⟨a0, a1, _⟩ := cells2 (cells2at hy11 hb)
              exact ⟨a0, a1, (HC.out V (hb5.trans (hb.mono hb5.size))).2.2⟩
            have hbb : b < w.heap.size := by
              rcases HPS.out with h | ⟨b', o', e, hcc⟩
              · rw [h] at hlt'; exact absurd hlt' (Nat.not_lt_zero _)
              · cases e; exact cell_lt (hcc n hlt').1
            have hn1 : g11 ≠ g10 := by omega
            have hn2 : b ≠ g10 := by omega
            have hk2 : ∀ V, Below V5.heap.size V5 V → ∀ u0 u1, ((V.setCell ⟨g10, 0, none⟩ u0).setCell ⟨g10, 1, none⟩ u1).cell? ⟨g11, 0, none⟩ = some (.int .i64 0) ∧ ((V.setCell ⟨g10, 0, none⟩ u0).setCell ⟨g10, 1, none⟩ u1).cell? ⟨g11, 1, none⟩ = some (.slice ko5 n5 kc5) ∧ ((V.setCell ⟨g10, 0, none⟩ u0).setCell ⟨g10, 1, none⟩ u1).cell? ⟨b, o + n, none⟩ = some (.slice da dl dc) := fun V hb u0 u1 => by
              obtain ⟨c0, c1, c2⟩ := hc2 V hb
              rw [cell_far hn1, cell_far hn1, cell_far hn2]; exact ⟨c0, c1, c2⟩
            have HC2 := Lib.hid hc2; have HKK := Lib.hid hk2; have HWB := Lib.hid hwb; have HB5V := Lib.hid hb5; have HN2 := Lib.hid hn2
            clear hk5 hwb hsg hc2 hbb hn1 hn2 hk2 hb5 ho5 hy11 HB5
            go_wp2
            go_region_held3 (fun V => V.cell? ⟨g11, 0, none⟩ = some (.int .i64 0) ∧ V.cell? ⟨g11, 1, none⟩ = some (.slice ko5 n5 kc5) ∧ V.cell? ⟨b, o + n, none⟩ = some (.slice da dl dc))
              (first | exact HC2.out _ (Below.refl _ _).drew | exact HC2.out _ HB6.out | exact HKK.out _ HB6.out _ _)
              ((go_at_call 13; ((with_reducible refine (HWB.out _ (Below.refl _ _).drew).mono ?_); intro e w6 h6; obtain ⟨ko6, n6, kc6, cs6, rfl, hO6, hk6, hB6⟩ := h6.elim; have HB6 : Hid (Below V5.heap.size V5 w6) := (Below.refl _ _).drew.trans hB6; have HYN6 := Lib.hid (cells2at HYN.out (HB5V.out.trans (HB6.out.mono HB5V.out.size))); obtain ⟨s0, s1, sf⟩ := cells2 HYN6.out; clear h6 hO6 hk6 hB6)))
            rename_i hheld
            have hBn6 := HB5V.out.trans (HB6.out.mono HB5V.out.size)
            have hBr6 := HBN.out.trans (hBn6.mono HBN.out.size)
            have hBw6 := HB.out.trans (hBr6.mono HB.out.size)
            obtain ⟨W7, hW7⟩ : ∃ W7, W7 = (w6.setCell ⟨g10, 0, none⟩ (.int .i64 0)).setCell ⟨g10, 1, none⟩ (.slice ko6 n6 kc6) := ⟨_, rfl⟩
            have z7 : W7.heap[g10]? = some (.cells #[.int .i64 0, .slice ko6 n6 kc6] 24 (0, 0)) := by rw [hW7]; exact heap2 HYN6.out _ _
            have b7 : Below w.heap.size w W7 := by rw [hW7]; exact below2 hBw6 hg10n _ _
            have br7 : Below wr.heap.size wr W7 := by rw [hW7]; exact below2 hBr6 (by rw [HG10.out]; exact Nat.le_refl _) _ _
            rw [← hW7]
            have hwf2 := fun V (hb : Below W7.heap.size W7 V) => (show Calls Try.prog 13 #[.agg #[.int .i64 n, .slice ko n kc], .int .i64 n, .slice da dl dc] V (MPost V (7, 0, [])) from by
              have h1 := write_any ⟨n, ko, n, kc, cs⟩ n ⟨da, dl, dc, dz⟩ V (HT.out.below (br7.trans (hb.mono br7.size))) (by rw [HKT.out]; exact HGT.out) (HD.out.below (br7.trans (hb.mono br7.size)))
              rw [HKT.out, writeK_full (p := (n : Int)) (ks := ks) (k := n) (z := dz) (by rw [HKL.out]; exact Nat.le_refl _) rfl HZ1.out HZ2.out] at h1
              exact h1)
            have hcc : ∀ V, Below W7.heap.size W7 V → V.cell? ⟨g7, 0, none⟩ = some (.int .i64 n) ∧ V.cell? ⟨g7, 1, none⟩ = some (.slice ko n kc) ∧ V.cell? ⟨b, o + n, none⟩ = some (.slice da dl dc) := fun V hb => by
              obtain ⟨a0, a1, _⟩ := cells2 (cells2at HY.out (br7.trans (hb.mono br7.size)))
              refine ⟨a0, a1, ?_⟩
              rw [(br7.trans (hb.mono br7.size)).cell (p := ⟨b, o + n, none⟩) (by show b < _; have := HN3.out; have := HB.out.size; omega)]
              exact HC0.out
            have hkk2 : ∀ V, Below W7.heap.size W7 V → ∀ u0 u1, ((V.setCell ⟨g10, 0, none⟩ u0).setCell ⟨g10, 1, none⟩ u1).cell? ⟨g7, 0, none⟩ = some (.int .i64 n) ∧ ((V.setCell ⟨g10, 0, none⟩ u0).setCell ⟨g10, 1, none⟩ u1).cell? ⟨g7, 1, none⟩ = some (.slice ko n kc) ∧ ((V.setCell ⟨g10, 0, none⟩ u0).setCell ⟨g10, 1, none⟩ u1).cell? ⟨b, o + n, none⟩ = some (.slice da dl dc) := fun V hb u0 u1 => by
              obtain ⟨c0, c1, c2⟩ := hcc V hb
              rw [cell_far HNE.out, cell_far HNE.out, cell_far HN2.out]; exact ⟨c0, c1, c2⟩
            have HW2 := Lib.hid hwf2; have HC3 := Lib.hid hcc; have HK3 := Lib.hid hkk2; have Z7 := Lib.hid z7; have B7 := Lib.hid b7
            clear hheld s0 s1 sf hBn6 hBr6 hBw6 hW7 z7 b7 br7 hwf2 hcc hkk2
            go_wp2
            go_region_held3 (fun V => V.cell? ⟨g7, 0, none⟩ = some (.int .i64 n) ∧ V.cell? ⟨g7, 1, none⟩ = some (.slice ko n kc) ∧ V.cell? ⟨b, o + n, none⟩ = some (.slice da dl dc))
              (first | exact HC3.out _ (Below.refl _ _).drew | exact HC3.out _ HB8.out | exact HK3.out _ HB8.out _ _)
              ((go_at_call 13; ((with_reducible refine (HW2.out _ (Below.refl _ _).drew).mono ?_); intro e w8 h8; obtain ⟨ko8, n8, kc8, cs8, rfl, hO8, hk8, hB8⟩ := h8.elim; obtain rfl : n8 = 0 := (by rw [← hO8.len, ← keys_len, hk8]; rfl); have HB8 : Hid (Below W7.heap.size W7 w8) := (Below.refl _ _).drew.trans hB8; have Z8 := Lib.hid (cells2at Z7.out HB8.out); have HO8 := Lib.hid hO8; have HK8 := Lib.hid hk8; obtain ⟨s0, s1, sf⟩ := cells2 Z8.out; clear h8 hO8 hk8 hB8)))
            rename_i hheld
            have hB8w := B7.out.trans (HB8.out.mono B7.out.size)
            have z9 := heap2 Z8.out (.int .i64 0) (.slice ko8 0 kc8)
            have o9 := HO8.out.set2 Z8.out (.int .i64 0) (.slice ko8 0 kc8) (by decide) (by decide)
            have b9 := below2 hB8w hg10n (.int .i64 0) (.slice ko8 0 kc8)
            have hkm := keep_med ⟨0, ko8, 0, kc8, cs8⟩ ⟨0, none, 0, 0, []⟩ _ (o9.tap 0) ⟨rfl, Nat.le_refl _, Nat.zero_le _, .inl rfl, fun _ => rfl⟩
            rw [decide_eq_true (show (Tap.mk 0 ko8 0 kc8 cs8).p = (Tap.mk 0 none 0 0 []).p ∧ Tap.ks ⟨0, ko8, 0, kc8, cs8⟩ = Tap.ks ⟨0, none, 0, 0, []⟩ from ⟨rfl, HK8.out⟩)] at hkm
            clear s0 s1 sf
            obtain ⟨s0, s1, sf⟩ := cells2 z9
            have HKM := Lib.hid hkm; have HB9 := Lib.hid b9
            clear hheld hB8w z9 o9 b9 hkm
            go_wp2_with (first
              | (go_at_call 22; refine HKM.out.mono ?_; rintro e w15 ⟨rfl, hB15⟩; have HB15 := Lib.hid (HB9.out.trans (hB15.mono HB9.out.size)); clear hB15)
              | (go_at_call 26; refine (HWK.out _).mono ?_; rintro e w16 ⟨rfl, hB16⟩; have HB16 := Lib.hid (HB15.out.trans (hB16.mono HB15.out.size)); clear hB16))
            go_ret
            exact ⟨rfl, HB16.out⟩
    · obtain rfl : n = L := by omega
      have f1 : decide ((n : Int) < (n : Int)) = false := decide_eq_false (by omega)
      have f2 : ((n : Int) != (n : Int)) = false := by simp
      have hks : (ps.take n).map gk = ps.map gk := by rw [List.take_of_length_le (by rw [HL.out]; exact Nat.le_refl _)]
      have hkT := HK.out
      have hgT := HG.out
      rw [hks] at hkT hgT
      have hck := check_ok ⟨S, ko, n, kc, cs⟩ wr HT.out (by rw [hkT]; exact hgT)
      have hrd := fun (q : Nat) (V : World) (hb : Below wr.heap.size wr V) => (show Calls Try.prog 17 #[.agg #[.int .i64 S, .slice ko n kc], .int .i64 q] V (ReadPost V (rd (ps.map gk) q)) from by
        have h1 := read_any ⟨S, ko, n, kc, cs⟩ q V (HT.out.below hb) (by rw [hkT]; exact hgT)
        rw [hkT] at h1
        exact h1)
      have HCK := Lib.hid hck; have HRD := Lib.hid hrd
      clear hks hkT hgT hck hrd HK HG
      go_wp2_with (go_at_call 21; fail)
      refine HCK.out.mono ?_
      rintro e w2 ⟨rfl, hB2⟩
      have HB2 := Lib.hid hB2
      clear hB2 x0 x1
      go_wp2
      obtain ⟨y0, y1, _⟩ := cells2 (cells2at HY.out HB2.out)
      have hcc : ∀ V, Below w2.heap.size w2 V → V.cell? ⟨g7, 0, none⟩ = some (.int .i64 S) ∧ V.cell? ⟨g7, 1, none⟩ = some (.slice ko n kc) := fun V hb => by
        obtain ⟨a0, a1, _⟩ := cells2 (cells2at HY.out (HB2.out.trans (hb.mono HB2.out.size)))
        exact ⟨a0, a1⟩
      have HCC := Lib.hid hcc
      clear hcc y0 y1
      obtain ⟨wo, rfl⟩ : ∃ wo : World, wo = wr := ⟨_, rfl⟩
      go_loopw [15] (fun iv wl => ∃ i : Nat, i ≤ n ∧ iv = .int .i64 i ∧ Below w2.heap.size w2 wl) (fun iv _ => n - (intOf iv).toNat)
      case atStart => exact ⟨0, Nat.zero_le _, rfl, Below.refl _ _⟩
      case round =>
        obtain ⟨i, hi, rfl, hBl⟩ := hrel
        have HBL := Lib.hid hBl
        clear hBl
        by_cases hlt : i < n
        · have f1 : decide ((i : Int) < (n : Int)) = true := decide_eq_true (by omega)
          have hlt' : i < ps.length := by rw [HL.out]; exact hlt
          obtain ⟨b, o, rfl, c0, hd⟩ := HP.out.at hlt'
          have hgi : (ps.map gk)[i]? = some (gk ps[i]) := by rw [List.getElem?_map, List.getElem?_eq_getElem hlt']; rfl
          have hri := rd_in _ _ hgi
          obtain ⟨d, hdd⟩ : ∃ d, d = ps[i] := ⟨_, rfl⟩
          rw [← hdd] at c0 hd hri
          have hwl : ∀ V, Below w2.heap.size w2 V → V.cell? ⟨b, o + i, none⟩ = some (.slice d.a d.l d.c) ∧ d.ok V := fun V hb => by
            have hb2 := HB2.out.trans (hb.mono HB2.out.size)
            exact ⟨by rw [hb2.cell (cell_lt c0)]; exact c0, hd.below hb2⟩
          have hds := hd.small
          unfold maxLen at hds
          obtain ⟨y0, y1⟩ := HCC.out _ HBL.out
          have hrr := HRD.out i wr (HB2.out.trans (HBL.out.mono HB2.out.size))
          rw [hri] at hrr
          have HWL := Lib.hid hwl; have HDL := Lib.hid hd.len
          have i1 : (0 : Int) ≤ (i : Int) := by omega
          have i2 : (i : Int) < (n : Int) := by omega
          clear hgi hri hdd hwl hd c0 f2
          obtain ⟨da, dl, dc, dz⟩ := d
          by_cases h0 : dl = 0
          · have hgk : gk ⟨da, dl, dc, dz⟩ = (2, [], false) := by unfold gk; rw [if_pos h0]
            rw [hgk, show rc (2, [], false) = (15, []) from rfl] at hrr
            have HRR := Lib.hid hrr
            have e2 : ((dl : Int) == 0) = true := by rw [h0]; rfl
            have e2' : decide ((0 : Int) < (dl : Int)) = false := decide_eq_false (by omega)
            have e2n : decide (0 < dl) = false := decide_eq_false (by omega)
            clear hgk hrr h0
            go_wp2_with (go_at_call 17; fail)
            refine HRR.out.mono ?_
            rintro e w3 ⟨ko3, kc3, rfl, how3, hB3⟩
            have HB3 := Lib.hid (HBL.out.trans (hB3.mono HBL.out.size))
            have c1 := (HWL.out _ HB3.out).1
            clear how3 hB3 y0 y1
            go_wp2
            go_roundw
            case rel => exact ⟨i + 1, by omega, by go_num, HB3.out⟩
            case measure => simp [intOf]; omega
          · have hgk : gk ⟨da, dl, dc, dz⟩ = (1, dz, false) := by unfold gk; rw [if_neg h0]
            rw [hgk, show rc (1, dz, false) = (0, dz) from rfl] at hrr
            have HRR := Lib.hid hrr
            have e2 : ((dl : Int) == 0) = false := beq_eq_false_iff_ne.2 (by omega)
            have e2' : decide ((0 : Int) < (dl : Int)) = true := decide_eq_true (by omega)
            have e2n : decide (0 < dl) = true := decide_eq_true (by omega)
            clear hgk hrr h0
            go_wp2_with (go_at_call 17; fail)
            refine HRR.out.mono ?_
            rintro e w3 ⟨ko3, kc3, rfl, how3, hB3⟩
            have HB3 := Lib.hid (HBL.out.trans (hB3.mono HBL.out.size))
            have hdl : dz.length = dl := HDL.out
            have hcmp : ∀ V, Below w3.heap.size w3 V → Calls Try.prog 23 #[.slice ko3 dz.length kc3, .slice da dl dc] V fun e w' => e = .returned (.bool true) ∧ Below V.heap.size V w' := fun V hb => by
              have h1 := bytes_cmp ko3 da dz.length dl kc3 dc dz dz V rfl hdl (by rw [hdl]; exact hds) (how3.rd.below hb) (HWL.out V (HB3.out.trans (hb.mono HB3.out.size))).2.rd
              rw [decide_eq_true rfl] at h1
              exact h1.mono fun e w' ⟨he, q, hq⟩ => ⟨he, by rw [hq]; exact below_drewN (Below.refl _ _) q⟩
            have HCMP := Lib.hid hcmp
            have HBR := Lib.hid (Below.refl w3.heap.size w3).drew
            have hcr : ∀ V, Below w3.heap.size w3 V → V.cell? ⟨b, o + i, none⟩ = some (.slice da dl dc) := fun V hb => (HWL.out V (HB3.out.trans (hb.mono HB3.out.size))).1
            have HCR := Lib.hid hcr
            clear how3 hB3 y0 y1 hcmp hcr hdl
            have c1 := HCR.out _ (Below.refl _ _)
            go_wp2_with (go_at_call 23; fail)
            refine (HCMP.out _ (by first | exact Below.refl _ _ | exact HBR.out)).mono ?_
            rintro e wn ⟨rfl, hBn⟩
            have HBW := Lib.hid (HB3.out.trans (hBn.mono HB3.out.size))
            clear hBn
            go_wp2
            go_roundw
            case rel => exact ⟨i + 1, by omega, by go_num, HBW.out⟩
            case measure => simp [intOf]; omega
        · obtain rfl : i = n := by omega
          have f1 : decide ((i : Int) < (i : Int)) = false := decide_eq_false (by omega)
          go_wp2_with (go_at_call 26; refine (HWK.out _).mono ?_; rintro e w6 ⟨rfl, hB6⟩; have HB6 := Lib.hid (HBL.out.trans (hB6.mono HBL.out.size)); clear hB6)
          go_ret
          exact ⟨rfl, HB.out.trans ((HB2.out.trans (HB6.out.mono HB2.out.size)).mono HB.out.size)⟩
end Go.Proofs.Ytojcinkchdhjpaa
