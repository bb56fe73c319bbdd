/-
  The walk of MediumStays.
-/
import Derived.Test.YtojcinkchdhjpaaEnds
import Derived.Test.YtojcinkchdhjpaaMedB
import Derived.IntWalk
namespace Go.Proofs.Ytojcinkchdhjpaa
open Go.RowKit
set_option linter.unusedVariables false

/-- What is told, and laid in a variable of the caller's. -/
theorem MPost.absorb {W w' : World} {er p : Int} {ks : List Key} {e : Ending} (h : MPost W (er, p, ks) e w') : ∃ ko n kc cs, e = .returned (.tuple #[.agg #[.int .i64 p, .slice ko n kc], .int .i64 er]) ∧ n = ks.length ∧
    ∀ V, V = w'.alloc (.cells #[.int .i64 p, .slice ko n kc] 24) → Below W.heap.size W V ∧ V.heap[w'.heap.size]? = some (.cells #[.int .i64 p, .slice ko n kc] 24 (0, 0)) ∧ Tap.ok V ⟨p, ko, n, kc, cs⟩ ∧ Tap.ks ⟨p, ko, n, kc, cs⟩ = ks := by
  obtain ⟨ko, n, kc, cs, rfl, hO, hk, hB⟩ := h.elim
  refine ⟨ko, n, kc, cs, rfl, by rw [← hk, keys_len, hO.len], fun V hV => ?_⟩
  have hb : Below w'.heap.size w' V := by rw [hV]; exact (Below.refl _ _).alloc (Nat.le_refl _) _
  exact ⟨hB.trans (hb.mono hB.size), by rw [hV]; exact new_cell _ _ _, (hO.below hb).tap p, hk⟩
theorem good_snoc {p : Int} {ks : List Key} (h : goodK p ks = true) {k : Nat} {x : Key} (hk : (k : Int) < p) (hkl : k ≤ ks.length) (hx : okc x.1 x.2.1.length = true) : goodK p (ks.take k ++ [x]) = true := by
  unfold goodK at h ⊢
  simp only [Bool.and_eq_true, decide_eq_true_eq] at h ⊢
  obtain ⟨⟨⟨h1, h2⟩, h3⟩, h4⟩ := h
  refine ⟨⟨⟨h1, h2⟩, by rw [List.length_append, List.length_take]; simp; omega⟩, ?_⟩
  rw [List.all_eq_true] at h4 ⊢
  intro y hy
  rcases List.mem_append.1 hy with hy | hy
  · exact h4 y (List.mem_of_mem_take hy)
  · simp only [List.mem_cons, List.mem_nil_iff, or_false] at hy
    rw [hy]; exact hx
theorem none_any (t : Tap) (w : World) (h : t.ok w) (hp : t.p = 0) (hk : t.ks = []) : Calls Try.prog 25 #[.agg #[.int .i64 t.p, .slice t.a t.n t.c]] w fun e w' => e = .returned (.bool true) ∧ Below w.heap.size w w' := by
  have hb0 : Below w.heap.size w (w.alloc (.cells #[.int .i64 t.p, .slice t.a t.n t.c] 24)) := (Below.refl _ _).alloc (Nat.le_refl _) _
  have hkm := keep_med t ⟨0, none, 0, 0, []⟩ _ (h.below hb0) ⟨rfl, Nat.le_refl _, Nat.zero_le _, .inl rfl, fun _ => rfl⟩
  rw [decide_eq_true (show t.p = (Tap.mk 0 none 0 0 []).p ∧ t.ks = Tap.ks ⟨0, none, 0, 0, []⟩ from ⟨hp, hk⟩)] at hkm
  obtain ⟨p, a, n, c, cs⟩ := t
  simp only at hkm hb0 ⊢
  have HK := Lib.hid hkm; have HB0 := Lib.hid hb0
  clear h hp hk hkm hb0
  go_enter Try.func25, Try.ntmps25
  go_wp2_with (go_at_call 22; refine HK.out.mono ?_; rintro e w1 ⟨rfl, hB1⟩; have HB1 := Lib.hid (HB0.out.trans (hB1.mono HB0.out.size)); clear hB1)
  go_ret
  exact ⟨rfl, HB1.out⟩
theorem rd_left (ks ks' : List Key) (k i : Nat) (x : Key) (hi : i < k) (hk : k ≤ ks.length) (e : ks' = ks.take k ++ [x]) : rd ks' i = rd ks i := by
  unfold rd
  rw [if_pos (by omega), if_pos (by omega), Int.toNat_natCast, e, List.getElem?_append_left (by rw [List.length_take]; omega), List.getElem?_take, if_pos hi]
theorem rd_last (ks : List Key) (k : Nat) (x : Key) (hk : k ≤ ks.length) : rd (ks.take k ++ [x]) k = rc x := by
  unfold rd
  rw [if_pos (by omega), Int.toNat_natCast, List.getElem?_append_right (by rw [List.length_take]; omega), List.length_take, show k - min k ks.length = 0 by omega]; rfl
theorem writeK_ok {p : Int} {ks : List Key} {k : Nat} {z : List Int} (hk : k ≤ ks.length) (hp : (k : Int) ≠ p) (h1 : 1 ≤ z.length) (h2 : z.length ≤ 256) : writeK p ks k z = (0, p, ks.take k ++ [(1, z, false)]) := by
  have hc : ce p ks.length k z.length = 0 := by unfold ce; rw [if_neg (by omega), if_neg (by omega), if_neg hp]
  unfold writeK
  rw [if_pos hc, Int.toNat_natCast]
theorem writeK_full {p : Int} {ks : List Key} {k : Nat} {z : List Int} (hk : k ≤ ks.length) (hp : (k : Int) = p) (h1 : 1 ≤ z.length) (h2 : z.length ≤ 256) : writeK p ks k z = (7, 0, []) := by
  have hc : ce p ks.length k z.length = 7 := by unfold ce; rw [if_neg (by omega), if_neg (by omega), if_pos hp]
  unfold writeK
  rw [hc]; rfl
theorem markK_ok {p : Int} {ks : List Key} {k : Nat} (hk : k ≤ ks.length) (hp : (k : Int) ≠ p) : markK p ks k = (0, p, ks.take k ++ [(2, [], false)]) := by
  unfold markK
  rw [if_pos (by omega), if_neg hp, Int.toNat_natCast]
theorem markK_full {p : Int} {ks : List Key} {k : Nat} (hk : k ≤ ks.length) (hp : (k : Int) = p) : markK p ks k = (7, 0, []) := by
  unfold markK
  rw [if_pos (by omega), if_pos hp]
theorem endK_ok {p : Int} {ks : List Key} {k : Nat} (hk : k ≤ ks.length) : endK p ks k = (0, p, ks.take k) := by
  unfold endK; rw [if_pos (by omega), Int.toNat_natCast]

set_option maxRecDepth 100000 in
set_option maxHeartbeats 8000000 in
theorem stays_walk (t : Tap) (p : Int) (d : Part) (w : World) (h : t.ok w) (hd : d.ok w) : Calls Try.prog 4 #[.agg #[.int .i64 t.p, .slice t.a t.n t.c], .int .i64 p, .slice d.a d.l d.c] w fun e w' => e = .returned (.bool true) ∧ Below w.heap.size w w' := by
  have hm := Nat.le_trans h.room h.cm
  unfold maxLen at hm
  obtain ⟨W0, hW0⟩ : ∃ W0, W0 = w.alloc (.cells #[.int .i64 t.p, .slice t.a t.n t.c] 24) := ⟨_, rfl⟩
  have hB0 : Below w.heap.size w W0 := by rw [hW0]; exact (Below.refl _ _).alloc (Nat.le_refl _) _
  have hx : W0.heap[w.heap.size]? = some (.cells #[.int .i64 t.p, .slice t.a t.n t.c] 24 (0, 0)) := by rw [hW0]; exact new_cell _ _ _
  have hV : ∀ V, Below W0.heap.size W0 V → t.ok V ∧ d.ok V := fun V hV => ⟨(h.below hB0).below hV, (hd.below hB0).below hV⟩
  have hhe := fun V (hb : Below W0.heap.size W0 V) => heavy_any t V (hV V hb).1
  have hrm := fun V (hb : Below W0.heap.size W0 V) => refmed_any t V (hV V hb).1
  have HHE := Lib.hid hhe; have HRM := Lib.hid hrm; have HB0 := Lib.hid hB0; have HX := Lib.hid hx; have HW0 := Lib.hid hW0; have HV := Lib.hid hV
  have hdl := hd.len
  have hds := hd.small
  unfold maxLen at hds
  have HDL := Lib.hid hdl
  clear hhe hrm hB0 hx hV hdl
  obtain ⟨x0, x1, _⟩ := cells2 HX.out
  rw [hW0] at x0 x1
  clear hW0
  obtain ⟨da, dl, dc, dz⟩ := d
  simp only at hds HDL ⊢
  go_enter Try.func4, Try.ntmps4
  go_wp2_with (go_at_call 9; fail)
  rw [← HW0.out]
  refine (HHE.out W0 (Below.refl _ _)).mono ?_
  rintro e w1 ⟨he, hB1⟩
  clear x0 x1
  obtain ⟨x0, x1, _⟩ := cells2 (cells2at HX.out hB1)
  have HB1 := Lib.hid hB1
  clear hB1
  rcases he with rfl | ⟨rfl, h80, h300⟩
  · go_wp2
    go_ret
    exact ⟨rfl, HB0.out.trans (HB1.out.mono HB0.out.size)⟩
  clear h300
  by_cases hl1 : dl < 1
  · have e1 : decide ((dl : Int) < 1) = true := decide_eq_true (by omega)
    have e1' : decide (dl < 1) = true := decide_eq_true hl1
    go_wp2
    go_ret
    exact ⟨rfl, HB0.out.trans (HB1.out.mono HB0.out.size)⟩
  have e1 : decide ((dl : Int) < 1) = false := decide_eq_false (by omega)
  have e1' : decide (dl < 1) = false := decide_eq_false hl1
  by_cases hl2 : 256 < dl
  · have e2 : decide ((256 : Int) < (dl : Int)) = true := decide_eq_true (by omega)
    have e2' : decide (256 < dl) = true := decide_eq_true hl2
    go_wp2
    go_ret
    exact ⟨rfl, HB0.out.trans (HB1.out.mono HB0.out.size)⟩
  have e2 : decide ((256 : Int) < (dl : Int)) = false := decide_eq_false (by omega)
  have e2' : decide (256 < dl) = false := decide_eq_false hl2
  have hr := HRM.out w1 HB1.out
  cases hg : goodK t.p t.ks with
  | false =>
    rw [hg] at hr
    have HR := Lib.hid hr
    clear hr hg
    go_wp2_with (go_at_call 12; refine HR.out.mono ?_; rintro e w2 ⟨rfl, hB2⟩; have HB2 := Lib.hid hB2; clear hB2)
    go_ret
    exact ⟨rfl, HB0.out.trans ((HB1.out.trans (HB2.out.mono HB1.out.size)).mono HB0.out.size)⟩
  | true =>
    rw [hg] at hr
    have HR := Lib.hid hr
    have HG := Lib.hid hg
    obtain ⟨s1, s2, s3, s4, s5, _⟩ := (HV.out W0 (Below.refl _ _)).1.sizes hg
    obtain ⟨K, hK1, hK2⟩ := uwrap_at p ((t.n : Int) + 1) (by omega) (by omega)
    have hKn : K ≤ t.n := by omega
    have hwr := fun V (hb : Below W0.heap.size W0 V) => write_any t K ⟨da, dl, dc, dz⟩ V (HV.out V hb).1 hg (HV.out V hb).2
    have hma := fun V (hb : Below W0.heap.size W0 V) => mark_any t K V (HV.out V hb).1 hg
    have hen := fun V (hb : Below W0.heap.size W0 V) => end_any t K V (HV.out V hb).1 hg
    have hrd := fun i V (hb : Below W0.heap.size W0 V) => read_any t i V (HV.out V hb).1 hg
    have hzl1 : 1 ≤ dz.length := by rw [HDL.out]; omega
    have hzl2 : dz.length ≤ 256 := by rw [HDL.out]; omega
    obtain ⟨ks, hks⟩ : ∃ ks, ks = t.ks := ⟨_, rfl⟩
    rw [← hks] at hwr hma hen hrd s5 HG
    have hKk : K ≤ ks.length := by omega
    rw [endK_ok hKk] at hen
    have hwk := fun V => wakes_any V
    have HWK := Lib.hid hwk; have HEN := Lib.hid hen; have HRD := Lib.hid hrd
    clear hr hg hen hrd hwk hks hK1 e1 e1' e2 e2'
    have hw2 := fun (V : World) => (fun (hb : Below W0.heap.size W0 V) => hb)
    by_cases hKp : (K : Int) = t.p
    · have d1 : ((K : Int) == t.p) = true := beq_iff_eq.2 hKp
      simp only [writeK_full hKk hKp hzl1 hzl2] at hwr
      simp only [markK_full hKk hKp] at hma
      have HWR := Lib.hid hwr; have HMA := Lib.hid hma
      obtain ⟨tp, a, n, c, cs⟩ := t
      simp only at x0 x1 hm h80 hK2 hKn HHE HRM HX HW0 HV HR HWR HMA HEN HRD d1 ⊢
      clear hwr hma hKp hw2 s1 s2 s3 s4
      have g1 : decide ((dl : Int) < 1) = false := decide_eq_false (by omega)
      have g1' : decide (dl < 1) = false := decide_eq_false hl1
      have g2 : decide ((256 : Int) < (dl : Int)) = false := decide_eq_false (by omega)
      have g2' : decide (256 < dl) = false := decide_eq_false hl2
      go_wp2_with (first
        | (go_at_call 12; refine HR.out.mono ?_; rintro e w2 ⟨rfl, hB2⟩; have HB2 := Lib.hid (HB1.out.trans (hB2.mono HB1.out.size)); clear hB2 x0 x1; obtain ⟨x0, x1, _⟩ := cells2 (cells2at HX.out HB2.out))
        | (go_at_call 13; fail))
      rw [hK2]
      refine (HWR.out w2 HB2.out).mono ?_
      intro e w3 h3
      obtain ⟨ko3, n3, kc3, cs3, rfl, hn3, hall⟩ := h3.absorb
      obtain rfl : n3 = 0 := hn3
      obtain ⟨V3, hV3⟩ : ∃ V3, V3 = w3.alloc (.cells #[.int .i64 0, .slice ko3 0 kc3] 24) := ⟨_, rfl⟩
      obtain ⟨hB3, hy3, ht3, hk3⟩ := hall V3 hV3
      have hB23 := HB2.out.trans (hB3.mono HB2.out.size)
      have HB3 := Lib.hid hB23; have HY3 := Lib.hid hy3; have HT3 := Lib.hid ht3; have HK3 := Lib.hid hk3; have HV3 := Lib.hid hV3
      clear x0 x1 h3 hall hB3 hy3 ht3 hk3 hB23 hK2
      obtain ⟨x0, x1, _⟩ := cells2 (cells2at HX.out HB3.out)
      rw [hV3] at x0 x1
      clear hV3
      go_wp2_with (go_at_call 15; fail)
      rw [← HV3.out]
      refine (HMA.out V3 HB3.out).mono ?_
      intro e w4 h4
      obtain ⟨ko4, n4, kc4, cs4, rfl, hn4, hall⟩ := h4.absorb
      obtain rfl : n4 = 0 := hn4
      obtain ⟨V4, hV4⟩ : ∃ V4, V4 = w4.alloc (.cells #[.int .i64 0, .slice ko4 0 kc4] 24) := ⟨_, rfl⟩
      obtain ⟨hB4, hy4, ht4, hk4⟩ := hall V4 hV4
      have hno := none_any ⟨0, ko3, 0, kc3, cs3⟩ V4 (HT3.out.below hB4) rfl HK3.out
      have hy := cells2at HY3.out hB4
      have HB4 := Lib.hid (HB3.out.trans (hB4.mono HB3.out.size)); have HV4 := Lib.hid hV4; have HNO := Lib.hid hno
      clear x0 x1 h4 hall hB4 hy4 ht4 hk4 hno
      obtain ⟨x0, x1, _⟩ := cells2 hy
      rw [hV4] at x0 x1
      clear hV4 hy
      go_wp2_with (first
        | (go_at_call 25; rw [← HV4.out]; refine HNO.out.mono ?_; rintro e w5 ⟨rfl, hB5⟩; have HB5 := Lib.hid (HB4.out.trans (hB5.mono HB4.out.size)); clear hB5)
        | (go_at_call 26; refine (HWK.out _).mono ?_; rintro e w6 ⟨rfl, hB6⟩; have HB6 := Lib.hid (HB5.out.trans (hB6.mono HB5.out.size)); clear hB6))
      go_ret
      exact ⟨rfl, HB0.out.trans (HB6.out.mono HB0.out.size)⟩
    · have d1 : ((K : Int) == t.p) = false := beq_eq_false_iff_ne.2 hKp
      have hKlt : (K : Int) < t.p := by omega
      have hzl := HDL.out
      simp only [writeK_ok hKk hKp hzl1 hzl2] at hwr
      simp only [markK_ok hKk hKp] at hma
      have hgW : goodK t.p (ks.take K ++ [(1, dz, false)]) = true := good_snoc HG.out hKlt hKk (by show okc 1 dz.length = true; simp [okc, hzl1, hzl2])
      have hgM : goodK t.p (ks.take K ++ [(2, [], false)]) = true := good_snoc HG.out hKlt hKk rfl
      have hgE : goodK t.p (ks.take K) = true := good_take HG.out K
      have hWR := Lib.hid hwr; have HMA := Lib.hid hma; have HGW := Lib.hid hgW; have HGM := Lib.hid hgM; have HGE := Lib.hid hgE; have HKK := Lib.hid hKk
      obtain ⟨tp, a, n, c, cs⟩ := t
      simp only at x0 x1 hm h80 hK2 hKn HHE HRM HX HW0 HV HR hWR HMA HEN HRD d1 HGW HGM HGE ⊢
      clear hwr hma hKp hw2 s1 s2 s3 s4 hKlt hzl hgW hgM hgE hKk
      have g1 : decide ((dl : Int) < 1) = false := decide_eq_false (by omega)
      have g1' : decide (dl < 1) = false := decide_eq_false hl1
      have g2 : decide ((256 : Int) < (dl : Int)) = false := decide_eq_false (by omega)
      have g2' : decide (256 < dl) = false := decide_eq_false hl2
      have hlen : (ks.take K).length = K := by rw [List.length_take]; have := HKK.out; omega
      have HLEN := Lib.hid hlen
      clear hlen
      go_wp2_with (first
        | (go_at_call 12; refine HR.out.mono ?_; rintro e w2 ⟨rfl, hB2⟩; have HB2 := Lib.hid (HB1.out.trans (hB2.mono HB1.out.size)); clear hB2 x0 x1; obtain ⟨x0, x1, _⟩ := cells2 (cells2at HX.out HB2.out))
        | (go_at_call 13; fail))
      rw [hK2]
      clear g1 g1' g2 g2'
      refine (hWR.out w2 HB2.out).mono ?_
      intro e w3 h3
      obtain ⟨ko3, n3, kc3, cs3, rfl, hn3, hall⟩ := h3.absorb
      obtain rfl : n3 = K + 1 := by rw [hn3, List.length_append, HLEN.out]; rfl
      obtain ⟨V3, hV3⟩ : ∃ V3, V3 = w3.alloc (.cells #[.int .i64 tp, .slice ko3 (K + 1) kc3] 24) := ⟨_, rfl⟩
      obtain ⟨hB3, hy3, ht3, hk3⟩ := hall V3 hV3
      obtain ⟨g7, hg7⟩ : ∃ g7, g7 = w3.heap.size := ⟨_, rfl⟩
      rw [← hg7] at hy3
      have HB3 := Lib.hid (HB2.out.trans (hB3.mono HB2.out.size)); have HY3 := Lib.hid hy3; have HT3 := Lib.hid ht3; have HK3 := Lib.hid hk3; have HV3 := Lib.hid hV3; have HG7 := Lib.hid hg7
      clear x0 x1 h3 hall hB3 hy3 ht3 hk3 hn3 hK2 hg7
      obtain ⟨x0, x1, _⟩ := cells2 (cells2at HX.out HB3.out)
      rw [hV3] at x0 x1
      clear hV3
      go_wp2_with (go_at_call 15; fail)
      rw [← HV3.out, ← HG7.out]
      refine (HMA.out V3 HB3.out).mono ?_
      intro e w4 h4
      obtain ⟨ko4, n4, kc4, cs4, rfl, hn4, hall⟩ := h4.absorb
      obtain rfl : n4 = K + 1 := by rw [hn4, List.length_append, HLEN.out]; rfl
      obtain ⟨V4, hV4⟩ : ∃ V4, V4 = w4.alloc (.cells #[.int .i64 tp, .slice ko4 (K + 1) kc4] 24) := ⟨_, rfl⟩
      obtain ⟨hB4, hy4, ht4, hk4⟩ := hall V4 hV4
      obtain ⟨g11, hg11⟩ : ∃ g11, g11 = w4.heap.size := ⟨_, rfl⟩
      rw [← hg11] at hy4
      have HB4 := Lib.hid (HB3.out.trans (hB4.mono HB3.out.size)); have HV4 := Lib.hid hV4; have HY34 := Lib.hid (cells2at HY3.out hB4); have HT34 := Lib.hid (HT3.out.below hB4); have HY4 := Lib.hid hy4; have HT4 := Lib.hid ht4; have HK4 := Lib.hid hk4; have HG11 := Lib.hid hg11
      clear x0 x1 h4 hall hB4 hy4 ht4 hk4 hn4 hg11
      obtain ⟨x0, x1, _⟩ := cells2 (cells2at HX.out HB4.out)
      rw [hV4] at x0 x1
      clear hV4
      go_wp2_with (go_at_call 16; fail)
      rw [← HV4.out, ← HG11.out]
      refine (HEN.out V4 HB4.out).mono ?_
      intro e w5 h5
      obtain ⟨ko5, n5, kc5, cs5, rfl, hn5, hall⟩ := h5.absorb
      obtain rfl : n5 = K := by rw [hn5, HLEN.out]
      obtain ⟨V5, hV5⟩ : ∃ V5, V5 = w5.alloc (.cells #[.int .i64 tp, .slice ko5 n5 kc5] 24) := ⟨_, rfl⟩
      obtain ⟨hB5, hy5, ht5, hk5⟩ := hall V5 hV5
      obtain ⟨g13, hg13⟩ : ∃ g13, g13 = w5.heap.size := ⟨_, rfl⟩
      rw [← hg13] at hy5
      -- what is known from here on: the three tapes, the tape that came in
      have hcells : ∀ V, Below V5.heap.size V5 V → V.cell? ⟨w.heap.size, 0, none⟩ = some (.int .i64 tp) ∧ V.cell? ⟨w.heap.size, 1, none⟩ = some (.slice a n c) ∧ V.cell? ⟨g7, 0, none⟩ = some (.int .i64 tp) ∧ V.cell? ⟨g7, 1, none⟩ = some (.slice ko3 (n5 + 1) kc3) ∧ V.cell? ⟨g11, 0, none⟩ = some (.int .i64 tp) ∧ V.cell? ⟨g11, 1, none⟩ = some (.slice ko4 (n5 + 1) kc4) ∧ V.cell? ⟨g13, 0, none⟩ = some (.int .i64 tp) ∧ V.cell? ⟨g13, 1, none⟩ = some (.slice ko5 n5 kc5) := fun V hb => by
        have hB45 := HB4.out.trans (hB5.mono HB4.out.size)
        obtain ⟨a0, a1, _⟩ := cells2 (cells2at HX.out (hB45.trans (hb.mono hB45.size)))
        obtain ⟨b0, b1, _⟩ := cells2 (cells2at HY34.out (hB5.trans (hb.mono hB5.size)))
        obtain ⟨c0, c1, _⟩ := cells2 (cells2at HY4.out (hB5.trans (hb.mono hB5.size)))
        obtain ⟨d0, d1, _⟩ := cells2 (cells2at hy5 hb)
        exact ⟨a0, a1, b0, b1, c0, c1, d0, d1⟩
      have htap : ∀ V, Below V5.heap.size V5 V → Tap.ok V ⟨tp, ko3, n5 + 1, kc3, cs3⟩ ∧ Tap.ok V ⟨tp, ko4, n5 + 1, kc4, cs4⟩ ∧ Tap.ok V ⟨tp, ko5, n5, kc5, cs5⟩ := fun V hb =>
        ⟨HT34.out.below (hB5.trans (hb.mono hB5.size)), HT4.out.below (hB5.trans (hb.mono hB5.size)), ht5.below hb⟩
      have HC := Lib.hid hcells; have HTP := Lib.hid htap; have HB5 := Lib.hid (HB4.out.trans (hB5.mono HB4.out.size)); have HV5 := Lib.hid hV5; have HK5 := Lib.hid hk5; have HG13 := Lib.hid hg13
      have hcheck := fun (V : World) (hb : Below V5.heap.size V5 V) => And.intro (check_ok ⟨tp, ko3, n5 + 1, kc3, cs3⟩ V (htap V hb).1 (by rw [HK3.out]; exact HGW.out)) (And.intro (check_ok ⟨tp, ko4, n5 + 1, kc4, cs4⟩ V (htap V hb).2.1 (by rw [HK4.out]; exact HGM.out)) (check_ok ⟨tp, ko5, n5, kc5, cs5⟩ V (htap V hb).2.2 (by rw [hk5]; exact HGE.out)))
      have HCK := Lib.hid hcheck
      clear x0 x1 h5 hall hB5 hy5 ht5 hk5 hn5 hg13 hcells htap hcheck
      obtain ⟨x0, x1, y0, y1, z0, z1, v0, v1⟩ := HC.out V5 (Below.refl _ _)
      rw [hV5] at x0 x1 y0 y1 z0 z1
      have HV5x := Lib.hid (show V5.cell? ⟨g13, 0, none⟩ = some (.int .i64 tp) ∧ V5.cell? ⟨g13, 1, none⟩ = some (.slice ko5 n5 kc5) from ⟨v0, v1⟩)
      clear hV5 v0 v1
      have q1 : ((n5 : Int) + 1 != (n5 : Int) + 1) = false := by simp
      have q2 : ((n5 : Int) != (n5 : Int)) = false := by simp
      -- what is read
      have hr3 := fun (V : World) (hb : Below V5.heap.size V5 V) => read_any ⟨tp, ko3, n5 + 1, kc3, cs3⟩ n5 V (HTP.out V hb).1 (by rw [HK3.out]; exact HGW.out)
      have hr4 := fun (V : World) (hb : Below V5.heap.size V5 V) => read_any ⟨tp, ko4, n5 + 1, kc4, cs4⟩ n5 V (HTP.out V hb).2.1 (by rw [HK4.out]; exact HGM.out)
      have hr5 := fun (V : World) (hb : Below V5.heap.size V5 V) => read_any ⟨tp, ko5, n5, kc5, cs5⟩ n5 V (HTP.out V hb).2.2 (by rw [HK5.out]; exact HGE.out)
      rw [HK3.out, rd_last ks n5 _ HKK.out, show rc (1, dz, false) = (0, dz) from rfl] at hr3
      rw [HK4.out, rd_last ks n5 _ HKK.out, show rc (2, [], false) = (15, []) from rfl] at hr4
      rw [HK5.out, rd_end _ _ (by rw [HLEN.out]; exact Nat.le_refl _)] at hr5
      have hf3 := fun (V : World) (hb : Below V5.heap.size V5 V) => files_any ⟨tp, ko3, n5 + 1, kc3, cs3⟩ V (HTP.out V hb).1 (by rw [HK3.out]; exact HGW.out)
      have hf4 := fun (V : World) (hb : Below V5.heap.size V5 V) => files_any ⟨tp, ko4, n5 + 1, kc4, cs4⟩ V (HTP.out V hb).2.1 (by rw [HK4.out]; exact HGM.out)
      have hf5 := fun (V : World) (hb : Below V5.heap.size V5 V) => files_any ⟨tp, ko5, n5, kc5, cs5⟩ V (HTP.out V hb).2.2 (by rw [HK5.out]; exact HGE.out)
      rw [HK3.out, marks_snoc] at hf3
      rw [HK4.out, marks_snoc] at hf4
      rw [HK5.out] at hf5
      obtain ⟨mk, hmk⟩ : ∃ mk, mk = marks (ks.take n5) := ⟨_, rfl⟩
      have hmkl : mk ≤ 400 := by rw [hmk]; have := marks_le (ks.take n5); rw [HLEN.out] at this; omega
      rw [← hmk] at hf3 hf4 hf5
      simp only [show ((1 : Int) = 2) = False from by decide, if_false, Nat.add_zero] at hf3
      simp only [if_true] at hf4
      have hf4' := fun V hb => (show Calls Try.prog 24 _ V (fun e w' => e = .returned (.int .i64 ((mk : Int) + 1)) ∧ Below V.heap.size V w') from hf4 V hb)
      have HR3 := Lib.hid hr3; have HR4 := Lib.hid hr4; have HR5 := Lib.hid hr5; have HF3 := Lib.hid hf3; have HF4 := Lib.hid hf4'; have HF5 := Lib.hid hf5
      have HBC := Lib.hid (Below.refl V5.heap.size V5)
      clear hr3 hr4 hr5 hf3 hf4 hf4' hf5 hmk
      go_wp2_with (go_at_call 21; fail)
      rw [← HV5.out, ← HG13.out]
      obtain ⟨v0, v1⟩ := HV5x.out
      refine (HCK.out _ HBC.out).1.mono ?_
      rintro e w6 ⟨rfl, hBn⟩
      have HBN := Lib.hid (HBC.out.trans (hBn.mono HBC.out.size))
      clear HBC hBn x0 x1 y0 y1 z0 z1 v0 v1
      have HBC := Lib.hid HBN.out
      clear HBN
      obtain ⟨x0, x1, y0, y1, z0, z1, v0, v1⟩ := HC.out _ HBC.out
      go_wp2_with (first
        | (go_at_call 21; first
          | ((with_reducible refine (HCK.out _ HBC.out).2.1.mono ?_); rintro e w7 ⟨rfl, hBn⟩; have HBN := Lib.hid (HBC.out.trans (hBn.mono HBC.out.size)); clear HBC hBn x0 x1 y0 y1 z0 z1 v0 v1; have HBC := Lib.hid HBN.out; clear HBN; obtain ⟨x0, x1, y0, y1, z0, z1, v0, v1⟩ := HC.out _ HBC.out)
          | ((with_reducible refine (HCK.out _ HBC.out).2.2.mono ?_); rintro e w7 ⟨rfl, hBn⟩; have HBN := Lib.hid (HBC.out.trans (hBn.mono HBC.out.size)); clear HBC hBn x0 x1 y0 y1 z0 z1 v0 v1; have HBC := Lib.hid HBN.out; clear HBN; obtain ⟨x0, x1, y0, y1, z0, z1, v0, v1⟩ := HC.out _ HBC.out))
        | (go_at_call 17; fail))
      refine (HR3.out _ HBC.out).mono ?_
      rintro e w8 ⟨ko8, kc8, rfl, how8, hBn⟩
      have HO8 := Lib.hid how8
      have HBX := Lib.hid (Below.refl w8.heap.size w8)
      clear how8
      have HBN := Lib.hid (HBC.out.trans (hBn.mono HBC.out.size))
      clear HBC hBn x0 x1 y0 y1 z0 z1 v0 v1
      have HBC := Lib.hid HBN.out
      clear HBN
      obtain ⟨x0, x1, y0, y1, z0, z1, v0, v1⟩ := HC.out _ HBC.out
      go_wp2_with (go_at_call 17; fail)
      refine (HR4.out _ HBC.out).mono ?_
      rintro e w9 ⟨ko9, kc9, rfl, how9, hBn⟩
      have HB89 := Lib.hid hBn
      clear how9
      have HBN := Lib.hid (HBC.out.trans (hBn.mono HBC.out.size))
      clear HBC hBn x0 x1 y0 y1 z0 z1 v0 v1
      have HBC := Lib.hid HBN.out
      clear HBN
      obtain ⟨x0, x1, y0, y1, z0, z1, v0, v1⟩ := HC.out _ HBC.out
      go_wp2_with (go_at_call 17; fail)
      refine (HR5.out _ HBC.out).mono ?_
      rintro e w10 ⟨ko10, kc10, rfl, how10, hBn⟩
      have HB810 := Lib.hid (HB89.out.trans (hBn.mono HB89.out.size))
      clear how10
      have HBN := Lib.hid (HBC.out.trans (hBn.mono HBC.out.size))
      clear HBC hBn x0 x1 y0 y1 z0 z1 v0 v1
      have HBC := Lib.hid HBN.out
      clear HBN
      obtain ⟨x0, x1, y0, y1, z0, z1, v0, v1⟩ := HC.out _ HBC.out
      have hVd := fun (V : World) (hb : Below w10.heap.size w10 V) => HB5.out.trans ((HBC.out.trans (hb.mono HBC.out.size)).mono HB5.out.size)
      have hcmp : ∀ V, Below w10.heap.size w10 V → Calls Try.prog 23 #[.slice ko8 dz.length kc8, .slice da dl dc] V fun e w' => e = .returned (.bool true) ∧ Below V.heap.size V w' := fun V hb => by
        have h1 := bytes_cmp ko8 da dz.length dl kc8 dc dz dz V rfl HDL.out (by unfold maxLen; omega) (HO8.out.rd.below (HB810.out.trans (hb.mono HB810.out.size))) (HV.out V (hVd V hb)).2.rd
        rw [decide_eq_true rfl] at h1
        exact h1.mono fun e w' ⟨he, q, hq⟩ => ⟨he, by rw [hq]; exact below_drewN (Below.refl _ _) q⟩
      have hcr : ∀ V, Below w10.heap.size w10 V → V.cell? ⟨g7, 0, none⟩ = some (.int .i64 tp) ∧ V.cell? ⟨g7, 1, none⟩ = some (.slice ko3 (n5 + 1) kc3) ∧ V.cell? ⟨g11, 0, none⟩ = some (.int .i64 tp) ∧ V.cell? ⟨g11, 1, none⟩ = some (.slice ko4 (n5 + 1) kc4) ∧ V.cell? ⟨g13, 0, none⟩ = some (.int .i64 tp) ∧ V.cell? ⟨g13, 1, none⟩ = some (.slice ko5 n5 kc5) := fun V hb =>
        (HC.out V (HBC.out.trans (hb.mono HBC.out.size))).2.2
      have HCMP := Lib.hid hcmp; have HCR := Lib.hid hcr; have HVD := Lib.hid hVd
      have HBR := Lib.hid (Below.refl w10.heap.size w10).drew
      have p1 : ((mk : Int) + 1 != (mk : Int) + 1) = false := by simp
      have p2 : ((mk : Int) != (mk : Int)) = false := by simp
      have p3 : IntKind.i64.wrap ((mk : Int) + 1) = (mk : Int) + 1 := IntWalk.i64_in _ (by omega)
      clear hcmp hcr hVd x0 x1 y0 y1 z0 z1 v0 v1
      go_wp2
      go_region_held3 (fun V => V.cell? ⟨g7, 0, none⟩ = some (.int .i64 tp) ∧ V.cell? ⟨g7, 1, none⟩ = some (.slice ko3 (n5 + 1) kc3) ∧ V.cell? ⟨g11, 0, none⟩ = some (.int .i64 tp) ∧ V.cell? ⟨g11, 1, none⟩ = some (.slice ko4 (n5 + 1) kc4) ∧ V.cell? ⟨g13, 0, none⟩ = some (.int .i64 tp) ∧ V.cell? ⟨g13, 1, none⟩ = some (.slice ko5 n5 kc5)) (exact HCR.out _ HBR.out)
        ((first
          | (go_at_call 23; (with_reducible refine (HCMP.out _ HBR.out).mono ?_); rintro e wn ⟨rfl, hBn⟩; have HBN := Lib.hid (HBR.out.trans (hBn.mono HBR.out.size)); clear HBR hBn; have HBR := Lib.hid HBN.out; clear HBN)
          | (go_at_call 24; first
            | ((with_reducible refine (HF3.out _ (HBC.out.trans (HBR.out.mono HBC.out.size))).mono ?_); rintro e wn ⟨rfl, hBn⟩; have HBN := Lib.hid (HBR.out.trans (hBn.mono HBR.out.size)); clear HBR hBn; have HBR := Lib.hid HBN.out; clear HBN)
            | ((with_reducible refine (HF4.out _ (HBC.out.trans (HBR.out.mono HBC.out.size))).mono ?_); rintro e wn ⟨rfl, hBn⟩; have HBN := Lib.hid (HBR.out.trans (hBn.mono HBR.out.size)); clear HBR hBn; have HBR := Lib.hid HBN.out; clear HBN)
            | ((with_reducible refine (HF5.out _ (HBC.out.trans (HBR.out.mono HBC.out.size))).mono ?_); rintro e wn ⟨rfl, hBn⟩; have HBN := Lib.hid (HBR.out.trans (hBn.mono HBR.out.size)); clear HBR hBn; have HBR := Lib.hid HBN.out; clear HBN))))
      rename_i hheld
      have HBW := Lib.hid (HBC.out.trans (HBR.out.mono HBC.out.size))
      clear hheld p1 p2 p3 q1 q2
      have hri := fun (i : Nat) (hi : i < n5) (V : World) (hb : Below V5.heap.size V5 V) => (show Calls Try.prog 17 #[.agg #[.int .i64 tp, .slice ko3 (n5 + 1) kc3], .int .i64 i] V (ReadPost V (rd ks i)) from by
        have h1 := read_any ⟨tp, ko3, n5 + 1, kc3, cs3⟩ i V (HTP.out V hb).1 (by rw [HK3.out]; exact HGW.out)
        rw [HK3.out, rd_left ks _ n5 i _ hi HKK.out rfl] at h1
        exact h1)
      have HRI := Lib.hid hri
      clear hri
      go_wp2
      go_loopw [16] (fun iv wr => ∃ i : Nat, i ≤ n5 ∧ iv = .int .i64 i ∧ Below V5.heap.size V5 wr) (fun iv _ => n5 - (intOf iv).toNat)
      case atStart => exact ⟨0, Nat.zero_le _, rfl, HBW.out⟩
      case round =>
        obtain ⟨i, hi, rfl, hB⟩ := hrel
        have HBI := Lib.hid hB
        obtain ⟨x0, x1, y0, y1, _⟩ := HC.out wr hB
        clear hB
        by_cases hlt : i < n5
        · have f1 : decide ((i : Int) < (n5 : Int)) = true := decide_eq_true (by omega)
          have h1 := HRD.out i wr (HB5.out.trans (HBI.out.mono HB5.out.size))
          obtain ⟨r, hr⟩ : ∃ r, r = rd ks i := ⟨_, rfl⟩
          have h2 := HRI.out i hlt
          rw [← hr] at h1 h2
          obtain ⟨cd, zd⟩ := r
          have H1 := Lib.hid h1; have H2 := Lib.hid h2
          have f2 : (cd != cd) = false := by simp
          clear h1 h2 hr
          go_wp2_with (go_at_call 17; fail)
          refine H1.out.mono ?_
          rintro e w11 ⟨ko11, kc11, rfl, how11, hB11⟩
          have HB11 := Lib.hid (HBI.out.trans (hB11.mono HBI.out.size)); have HO11 := Lib.hid how11
          clear how11 hB11 x0 x1 y0 y1
          obtain ⟨x0, x1, y0, y1, _⟩ := HC.out w11 HB11.out
          go_wp2_with (go_at_call 17; fail)
          refine (H2.out w11 HB11.out).mono ?_
          rintro e w12 ⟨ko12, kc12, rfl, how12, hB12⟩
          have HB12 := Lib.hid (HB11.out.trans (hB12.mono HB11.out.size))
          have hsm : zd.length ≤ maxLen := Nat.le_trans how12.2.1 how12.2.2.1
          have hcm := bytes_cmp ko11 ko12 zd.length zd.length kc11 kc12 zd zd w12 rfl rfl hsm (HO11.out.rd.below hB12) how12.rd
          rw [decide_eq_true rfl] at hcm
          have HCM := Lib.hid hcm
          clear how12 hB12 hsm hcm x0 x1 y0 y1
          generalize zd.length = zl at *
          go_wp2_with (go_at_call 23; refine HCM.out.mono ?_; rintro e w13 ⟨rfl, qn, hqn⟩; have HB13 := Lib.hid (show Below V5.heap.size V5 w13 by rw [hqn]; exact below_drewN HB12.out qn); clear hqn)
          go_roundw
          case rel => exact ⟨i + 1, by omega, by go_num, HB13.out⟩
          case measure => simp [intOf]; omega
        · have f1 : decide ((i : Int) < (n5 : Int)) = false := decide_eq_false (by omega)
          go_wp2_with (go_at_call 26; refine (HWK.out _).mono ?_; rintro e w11 ⟨rfl, hB11⟩; have HB11 := Lib.hid (HBI.out.trans (hB11.mono HBI.out.size)); clear hB11)
          go_ret
          exact ⟨rfl, HB0.out.trans ((HB5.out.trans (HB11.out.mono HB5.out.size)).mono HB0.out.size)⟩

end Go.Proofs.Ytojcinkchdhjpaa
