/-
  The walk of MediumSpoils.
-/
import Derived.Test.YtojcinkchdhjpaaStays
namespace Go.Proofs.Ytojcinkchdhjpaa
open Go.RowKit
set_option linter.unusedVariables false

theorem bx_bx (c d : Int) (h : 0 ≤ c) : bx (bx c d) d = c := by
  unfold bx
  rw [Int.toNat_natCast, Nat.xor_assoc, Nat.xor_self, Nat.xor_zero]; omega
theorem bx_ne (c : Int) (k : Nat) (h : 0 ≤ c) : bx c ((2 ^ k : Nat) : Int) ≠ c := by
  intro e
  unfold bx at e
  rw [Int.toNat_natCast] at e
  have e2 : c.toNat ^^^ 2 ^ k = c.toNat := by omega
  have e3 : c.toNat ^^^ (c.toNat ^^^ 2 ^ k) = 0 := by rw [e2, Nat.xor_self]
  rw [← Nat.xor_assoc, Nat.xor_self, Nat.zero_xor] at e3
  have := Nat.two_pow_pos k
  omega
theorem flipZ_len (z : List Int) (m : Nat) : (flipZ z m).length = z.length := by simp [flipZ]
theorem flipZ_two (z : List Int) (m : Nat) (hz : Bts z) (hm : m / 8 < z.length) : flipZ (flipZ z m) m = z := by
  have h0 := (hz _ hm).1
  unfold flipZ
  have e : (z.set (m / 8) (bx (z.getD (m / 8) 0) ((2 ^ (m % 8) : Nat) : Int))).getD (m / 8) 0 = bx (z.getD (m / 8) 0) ((2 ^ (m % 8) : Nat) : Int) := by simp [List.getD, hm]
  rw [e, bx_bx _ _ h0, List.set_set]
  apply List.ext_getElem?
  intro i
  rw [List.getElem?_set]
  by_cases hi : m / 8 = i
  · subst hi; simp [List.getD, hm]
  · rw [if_neg hi]
theorem flipZ_ne (z : List Int) (m : Nat) (hz : Bts z) (hm : m / 8 < z.length) : flipZ z m ≠ z := by
  intro e
  have h0 := (hz _ hm).1
  have h1 : (flipZ z m).getD (m / 8) 0 = bx (z.getD (m / 8) 0) ((2 ^ (m % 8) : Nat) : Int) := by unfold flipZ; simp [List.getD, hm]
  rw [e] at h1
  exact bx_ne _ _ h0 h1.symm
theorem good_mod {p : Int} {ks : List Key} (h : goodK p ks = true) (k : Nat) (f : Key → Key) (hf : ∀ x, ks[k]? = some x → okc (f x).1 (f x).2.1.length = true) : goodK p (ks.modify k f) = true := by
  unfold goodK at h ⊢
  simp only [Bool.and_eq_true, decide_eq_true_eq] at h ⊢
  obtain ⟨⟨⟨h1, h2⟩, h3⟩, h4⟩ := h
  refine ⟨⟨⟨h1, h2⟩, by rw [List.length_modify]; exact h3⟩, ?_⟩
  rw [List.all_eq_true] at h4 ⊢
  intro y hy
  obtain ⟨i, hi, rfl⟩ := List.getElem_of_mem hy
  rw [List.length_modify] at hi
  rw [List.getElem_modify]
  by_cases e : k = i
  · subst e; rw [if_pos rfl]; exact hf _ (List.getElem?_eq_getElem hi)
  · rw [if_neg e]; exact h4 _ (List.getElem_mem hi)
theorem good_one {p : Int} {ks : List Key} (h : goodK p ks = true) {k : Nat} {x : Key} (hx : ks[k]? = some x) : okc x.1 x.2.1.length = true := by
  unfold goodK at h
  simp only [Bool.and_eq_true, decide_eq_true_eq] at h
  obtain ⟨hi, rfl⟩ := List.getElem?_eq_some_iff.1 hx
  exact List.all_eq_true.1 h.2 _ (List.getElem_mem hi)
theorem mod_get (ks : List Key) (k i : Nat) (f : Key → Key) : (ks.modify k f)[i]? = if k = i then ks[i]?.map f else ks[i]? := by
  rw [List.getElem?_modify]
  by_cases e : k = i
  · subst e; cases ks[k]? <;> simp
  · simp only [if_neg e]; cases ks[i]? <;> simp
theorem rd_mod_other (ks : List Key) (k i : Nat) (f : Key → Key) (h : k ≠ i) : rd (ks.modify k f) i = rd ks i := by
  unfold rd
  rw [if_pos (by omega), if_pos (by omega), Int.toNat_natCast, mod_get, if_neg h]
theorem rd_mod_here (ks : List Key) (k : Nat) (f : Key → Key) {x : Key} (h : ks[k]? = some x) : rd (ks.modify k f) k = rc (f x) := by
  unfold rd
  rw [if_pos (by omega), Int.toNat_natCast, mod_get, if_pos rfl, h]; rfl
theorem mod_two (ks : List Key) (k : Nat) (f : Key → Key) (h : ∀ x, ks[k]? = some x → f (f x) = x) : (ks.modify k f).modify k f = ks := by
  apply List.ext_getElem?
  intro i
  rw [mod_get, mod_get]
  by_cases e : k = i
  · subst e
    rw [if_pos rfl, if_pos rfl]
    cases hx : ks[k]? with
    | none => rfl
    | some x => show some (f (f x)) = some x; rw [h x hx]
  · rw [if_neg e, if_neg e]
/-- Flip, by what the cells say. -/
theorem flip_at (t : Tap) (k m : Nat) {z : List Int} {b : Bool} (w : World) (h : t.ok w) (hg : goodK t.p t.ks = true) (hk : t.ks[k]? = some (1, z, b)) (hm : m / 8 < z.length) : Calls Try.prog 20 #[.agg #[.int .i64 t.p, .slice t.a t.n t.c], .int .i64 k, .int .i64 m] w (MPost w (0, t.p, t.ks.modify k fun x => (x.1, flipZ x.2.1 m, x.2.2))) := by
  have hkl : k < t.cs.length := by
    have := (List.getElem?_eq_some_iff.1 hk).1
    unfold Tap.ks at this; rwa [keys_len] at this
  have hkey := keys_get t.cs k hkl
  rw [show keys t.cs = t.ks from rfl, hk] at hkey
  have e := Option.some.inj hkey
  have e1 : (1 : Int) = t.cs[k].k := congrArg (fun y : Key => y.1) e
  have e2 : z = t.cs[k].d.z := congrArg (fun y : Key => y.2.1) e
  obtain ⟨_, _, _, _, _, _, hd⟩ := h.cells.at hkl
  exact flip_yes t k m w h hg hkl e1.symm (by rw [← hd.len, ← e2]; exact hm)

set_option maxRecDepth 100000 in
set_option maxHeartbeats 8000000 in
theorem spoils_walk (t : Tap) (p bit : Int) (w : World) (h : t.ok w) (hbit : bit ≤ 9223372036854775807) : Calls Try.prog 6 #[.agg #[.int .i64 t.p, .slice t.a t.n t.c], .int .i64 p, .int .i64 bit] w fun e w' => e = .returned (.bool true) ∧ Below w.heap.size w w' := by
  have hm := Nat.le_trans h.room h.cm
  unfold maxLen at hm
  obtain ⟨W0, hW0⟩ : ∃ W0, W0 = w.alloc (.cells #[.int .i64 t.p, .slice t.a t.n t.c] 24) := ⟨_, rfl⟩
  have hB0 : Below w.heap.size w W0 := by rw [hW0]; exact (Below.refl _ _).alloc (Nat.le_refl _) _
  have hx : W0.heap[w.heap.size]? = some (.cells #[.int .i64 t.p, .slice t.a t.n t.c] 24 (0, 0)) := by rw [hW0]; exact new_cell _ _ _
  have hV : ∀ V, Below W0.heap.size W0 V → t.ok V := fun V hV => (h.below hB0).below hV
  have hhe := fun V (hb : Below W0.heap.size W0 V) => heavy_any t V (hV V hb)
  have hrm := fun V (hb : Below W0.heap.size W0 V) => refmed_any t V (hV V hb)
  have HHE := Lib.hid hhe; have HRM := Lib.hid hrm; have HB0 := Lib.hid hB0; have HX := Lib.hid hx; have HW0 := Lib.hid hW0; have HV := Lib.hid hV; have HBIT := Lib.hid hbit
  clear hhe hrm hB0 hx hV hbit
  obtain ⟨x0, x1, _⟩ := cells2 HX.out
  rw [hW0] at x0 x1
  clear hW0
  go_enter Try.func6, Try.ntmps6
  go_wp2_with (go_at_call 9; fail)
  rw [← HW0.out]
  refine (HHE.out W0 (Below.refl _ _)).mono ?_
  rintro e w1 ⟨he, hB1⟩
  clear x0 x1
  obtain ⟨x0, x1, _⟩ := cells2 (cells2at HX.out hB1)
  have HB1 := Lib.hid hB1
  clear hB1
  rcases he with rfl | ⟨rfl, h80, h300⟩
  · go_wp2
    go_ret
    exact ⟨rfl, HB0.out.trans (HB1.out.mono HB0.out.size)⟩
  clear h300
  have hr := HRM.out w1 HB1.out
  cases hg : goodK t.p t.ks with
  | false =>
    rw [hg] at hr
    have HR := Lib.hid hr
    clear hr hg
    go_wp2_with (go_at_call 12; refine HR.out.mono ?_; rintro e w2 ⟨rfl, hB2⟩; have HB2 := Lib.hid hB2; clear hB2)
    go_ret
    exact ⟨rfl, HB0.out.trans ((HB1.out.trans (HB2.out.mono HB1.out.size)).mono HB0.out.size)⟩
  | true =>
    rw [hg] at hr
    have HR := Lib.hid hr
    have HG := Lib.hid hg
    obtain ⟨s1, s2, s3, s4, s5, _⟩ := (HV.out W0 (Below.refl _ _)).sizes hg
    by_cases hn0 : t.n = 0
    · obtain ⟨tp, a, n, c, cs⟩ := t
      simp only at hn0
      subst hn0
      simp only at x0 x1 HX HR ⊢
      clear hr hg s1 s2 s3 s4 s5
      go_wp2_with (go_at_call 12; refine HR.out.mono ?_; rintro e w2 ⟨rfl, hB2⟩; have HB2 := Lib.hid (HB1.out.trans (hB2.mono HB1.out.size)); clear hB2 x0 x1; obtain ⟨x0, x1, _⟩ := cells2 (cells2at HX.out HB2.out))
      go_ret
      exact ⟨rfl, HB0.out.trans (HB2.out.mono HB0.out.size)⟩
    have e0 : ((t.n : Int) == 0) = false := beq_eq_false_iff_ne.2 (by omega)
    obtain ⟨K, hK1, hK2⟩ := uwrap_at p (t.n : Int) (by omega) (by omega)
    have hKn : K < t.n := by omega
    have hsp := fun V (hb : Below W0.heap.size W0 V) => spoil_any t K V (HV.out V hb) hg
    have hrd := fun i V (hb : Below W0.heap.size W0 V) => read_any t i V (HV.out V hb) hg
    obtain ⟨ks, hks⟩ : ∃ ks, ks = t.ks := ⟨_, rfl⟩
    rw [← hks] at hsp hrd s5 HG
    have hKk : K < ks.length := by omega
    have hse : spoilK t.p ks K = (0, t.p, ks.modify K fun x => (x.1, x.2.1, true)) := by unfold spoilK; rw [if_pos (by omega), Int.toNat_natCast]
    rw [hse] at hsp
    have hgS : goodK t.p (ks.modify K fun x => (x.1, x.2.1, true)) = true := good_mod HG.out K _ fun x hx => by show okc x.1 x.2.1.length = true; exact good_one HG.out hx
    have HSP := Lib.hid hsp; have HRD := Lib.hid hrd; have HGS := Lib.hid hgS; have HKK := Lib.hid hKk; have HS5 := Lib.hid s5; have HKS := Lib.hid hks
    have hwk := fun V => wakes_any V
    have HWK := Lib.hid hwk
    clear hr hg hsp hrd hgS hKk hse s5 hwk hks hK1
    have HT := Lib.hid (show ∃ t0 : Tap, t0 = t from ⟨t, rfl⟩)
    obtain ⟨tp, a, n, c, cs⟩ := t
    simp only at x0 x1 hm h80 hK2 hKn e0 hn0 HHE HRM HX HW0 HV HR HSP HRD HGS HG HS5 s1 s2 s3 s4 ⊢
    go_wp2_with (first
      | (go_at_call 12; refine HR.out.mono ?_; rintro e w2 ⟨rfl, hB2⟩; have HB2 := Lib.hid (HB1.out.trans (hB2.mono HB1.out.size)); clear hB2 x0 x1; obtain ⟨x0, x1, _⟩ := cells2 (cells2at HX.out HB2.out))
      | (go_at_call 19; fail))
    rw [hK2]
    refine (HSP.out w2 HB2.out).mono ?_
    intro e w3 h3
    obtain ⟨ko3, n3, kc3, cs3, rfl, hn3, hall⟩ := h3.absorb
    obtain rfl : n3 = n := by rw [hn3, List.length_modify, HS5.out]
    obtain ⟨V3, hV3⟩ : ∃ V3, V3 = w3.alloc (.cells #[.int .i64 tp, .slice ko3 n3 kc3] 24) := ⟨_, rfl⟩
    obtain ⟨hB3, hy3, ht3, hk3⟩ := hall V3 hV3
    obtain ⟨g7, hg7⟩ : ∃ g7, g7 = w3.heap.size := ⟨_, rfl⟩
    rw [← hg7] at hy3
    have hB23 := HB2.out.trans (hB3.mono HB2.out.size)
    have hcells : ∀ V, Below V3.heap.size V3 V → V.cell? ⟨w.heap.size, 0, none⟩ = some (.int .i64 tp) ∧ V.cell? ⟨w.heap.size, 1, none⟩ = some (.slice a n3 c) ∧ V.cell? ⟨g7, 0, none⟩ = some (.int .i64 tp) ∧ V.cell? ⟨g7, 1, none⟩ = some (.slice ko3 n3 kc3) := fun V hb => by
      obtain ⟨a0, a1, _⟩ := cells2 (cells2at HX.out (hB23.trans (hb.mono hB23.size)))
      obtain ⟨b0, b1, _⟩ := cells2 (cells2at hy3 hb)
      exact ⟨a0, a1, b0, b1⟩
    have hrs := fun (i : Nat) (V : World) (hb : Below V3.heap.size V3 V) => read_any ⟨tp, ko3, n3, kc3, cs3⟩ i V (ht3.below hb) (by rw [hk3]; exact HGS.out)
    rw [hk3] at hrs
    have HC := Lib.hid hcells; have HRS := Lib.hid hrs; have HB3 := Lib.hid hB23; have HV3 := Lib.hid hV3; have HG7 := Lib.hid hg7
    clear x0 x1 h3 hall hB3 hy3 ht3 hk3 hn3 hK2 hB23 hcells hrs hg7
    obtain ⟨x0, x1, y0, y1⟩ := HC.out V3 (Below.refl _ _)
    rw [hV3] at x0 x1
    clear hV3 y0 y1
    have q2 : ((n3 : Int) != (n3 : Int)) = false := by simp
    go_wp2
    rw [← HV3.out, ← HG7.out]
    clear x0 x1 q2 e0
    go_loopw [9] (fun iv wr => ∃ i : Nat, i ≤ n3 ∧ iv = .int .i64 i ∧ Below V3.heap.size V3 wr) (fun iv _ => n3 - (intOf iv).toNat)
    case atStart => exact ⟨0, Nat.zero_le _, rfl, Below.refl _ _⟩
    case round =>
      obtain ⟨i, hi, rfl, hB⟩ := hrel
      have HBI := Lib.hid hB
      obtain ⟨x0, x1, y0, y1⟩ := HC.out wr hB
      clear hB
      by_cases hlt : i < n3
      · have f1 : decide ((i : Int) < (n3 : Int)) = true := decide_eq_true (by omega)
        have h1 := HRD.out i wr (HB3.out.trans (HBI.out.mono HB3.out.size))
        have h2 := HRS.out i
        by_cases hiK : i = K
        · subst hiK
          have f2 : ((i : Int) == (i : Int)) = true := by simp
          have hkx : ks[i]? = some ks[i] := List.getElem?_eq_getElem HKK.out
          rw [rd_mod_here ks i _ hkx] at h2
          have hcode : ∃ cd : Int, rc (ks[i].1, ks[i].2.1, true) = (cd, []) ∧ (cd = 6 ∨ cd = 15) := by
            unfold rc
            by_cases h2 : ks[i].1 = 2
            · exact ⟨15, by simp [h2], .inr rfl⟩
            · exact ⟨6, by simp [h2], .inl rfl⟩
          obtain ⟨cd, hcd, hcd2⟩ := hcode
          rw [hcd] at h2
          obtain ⟨r, hr⟩ : ∃ r, r = rd ks i := ⟨_, rfl⟩
          rw [← hr] at h1
          obtain ⟨c0, z0⟩ := r
          have H1 := Lib.hid h1; have H2 := Lib.hid h2
          clear h1 h2 hr hcd hkx
          go_wp2_with (go_at_call 17; fail)
          refine H1.out.mono ?_
          rintro e w11 ⟨ko11, kc11, rfl, how11, hB11⟩
          have HB11 := Lib.hid (HBI.out.trans (hB11.mono HBI.out.size))
          clear how11 hB11 x0 x1 y0 y1
          obtain ⟨x0, x1, y0, y1⟩ := HC.out w11 HB11.out
          go_wp2_with (go_at_call 17; fail)
          refine (H2.out w11 HB11.out).mono ?_
          rintro e w12 ⟨ko12, kc12, rfl, how12, hB12⟩
          have HB12 := Lib.hid (HB11.out.trans (hB12.mono HB11.out.size))
          clear how12 hB12 x0 x1 y0 y1
          generalize z0.length = zl at *
          rcases hcd2 with rfl | rfl
          all_goals
            go_wp2
            go_roundw
            case rel => exact ⟨i + 1, by omega, by go_num, HB12.out⟩
            case measure => simp [intOf]; omega
        · have f2 : ((i : Int) == (K : Int)) = false := beq_eq_false_iff_ne.2 (by omega)
          rw [rd_mod_other ks K i _ (fun e => hiK e.symm)] at h2
          obtain ⟨r, hr⟩ : ∃ r, r = rd ks i := ⟨_, rfl⟩
          rw [← hr] at h1 h2
          obtain ⟨cd, zd⟩ := r
          have H1 := Lib.hid h1; have H2 := Lib.hid h2
          have f3 : (cd != cd) = false := by simp
          clear h1 h2 hr
          go_wp2_with (go_at_call 17; fail)
          refine H1.out.mono ?_
          rintro e w11 ⟨ko11, kc11, rfl, how11, hB11⟩
          have HB11 := Lib.hid (HBI.out.trans (hB11.mono HBI.out.size)); have HO11 := Lib.hid how11
          clear how11 hB11 x0 x1 y0 y1
          obtain ⟨x0, x1, y0, y1⟩ := HC.out w11 HB11.out
          go_wp2_with (go_at_call 17; fail)
          refine (H2.out w11 HB11.out).mono ?_
          rintro e w12 ⟨ko12, kc12, rfl, how12, hB12⟩
          have HB12 := Lib.hid (HB11.out.trans (hB12.mono HB11.out.size))
          have hsm : zd.length ≤ maxLen := Nat.le_trans how12.2.1 how12.2.2.1
          have hcm := bytes_cmp ko11 ko12 zd.length zd.length kc11 kc12 zd zd w12 rfl rfl hsm (HO11.out.rd.below hB12) how12.rd
          rw [decide_eq_true rfl] at hcm
          have HCM := Lib.hid hcm
          clear how12 hB12 hsm hcm x0 x1 y0 y1
          generalize zd.length = zl at *
          go_wp2_with (go_at_call 23; refine HCM.out.mono ?_; rintro e w13 ⟨rfl, qn, hqn⟩; have HB13 := Lib.hid (show Below V3.heap.size V3 w13 by rw [hqn]; exact below_drewN HB12.out qn); clear hqn)
          go_roundw
          case rel => exact ⟨i + 1, by omega, by go_num, HB13.out⟩
          case measure => simp [intOf]; omega
      · have f1 : decide ((i : Int) < (n3 : Int)) = false := decide_eq_false (by omega)
        have hwt := HV.out wr (HB3.out.trans (HBI.out.mono HB3.out.size))
        have hKc : K < cs.length := by rw [hwt.len]; exact hKn
        have hkey := keys_get cs K hKc
        rw [show keys cs = ks from HKS.out.symm] at hkey
        obtain ⟨b, o, ha, c0, c1, c2, hd⟩ := hwt.cells.at hKc
        simp only at ha
        subst ha
        obtain ⟨x, hx⟩ : ∃ x, x = cs[K] := ⟨_, rfl⟩
        rw [← hx] at hkey c0 c1 c2 hd
        have i1 : (0 : Int) ≤ (K : Int) := by omega
        have i2 : (K : Int) < (n3 : Int) := by omega
        by_cases hk1 : x.k = 1
        · have e1 : (x.k != 1) = false := by simp [hk1]
          rw [hk1] at c0
          have hg1 := good_one HG.out hkey
          have hzl : 1 ≤ x.d.z.length ∧ x.d.z.length ≤ 256 := by
            have : okc 1 x.d.z.length = true := by rw [← hk1]; exact hg1
            simpa [okc] using this
          have hl := hd.len
          obtain ⟨B, hB1, hB2⟩ := uwrap_at bit (8 * (x.d.l : Int)) (by omega) (by omega)
          have hBz : B / 8 < x.d.z.length := by omega
          have hkx : ks[K]? = some (1, x.d.z, x.b) := by rw [hkey]; unfold Cel.key; rw [hk1]
          have hf1 := fun V (hb : Below W0.heap.size W0 V) => flip_at ⟨tp, some ⟨b, o, none⟩, n3, c, cs⟩ K B (z := x.d.z) (b := x.b) V (HV.out V hb) (by rw [← HKS.out]; exact HG.out) (by rw [← HKS.out]; exact hkx) hBz
          rw [← HKS.out] at hf1
          obtain ⟨kf, hkf⟩ : ∃ kf, kf = ks.modify K fun x => (x.1, flipZ x.2.1 B, x.2.2) := ⟨_, rfl⟩
          have hkfx : kf[K]? = some (1, flipZ x.d.z B, x.b) := by rw [hkf, mod_get, if_pos rfl, hkx]; rfl
          have hgf : goodK tp kf = true := by
            rw [hkf]
            refine good_mod HG.out K _ fun y hy => ?_
            show okc y.1 (flipZ y.2.1 B).length = true
            rw [flipZ_len]; exact good_one HG.out hy
          have hkf2 : (kf.modify K fun x => (x.1, flipZ x.2.1 B, x.2.2)) = ks := by
            rw [hkf]
            refine mod_two ks K _ fun y hy => ?_
            rw [hkx] at hy
            obtain rfl := Option.some.inj hy
            show (1, flipZ (flipZ x.d.z B) B, x.b) = _
            rw [flipZ_two x.d.z B hd.bts hBz]
          have hkne : kf ≠ ks := fun e => by
            rw [e, hkx] at hkfx
            have := congrArg (fun y : Key => y.2.1) (Option.some.inj hkfx)
            exact flipZ_ne x.d.z B hd.bts hBz this.symm
          simp only [← hkf] at hf1
          have HF1 := Lib.hid hf1; have HKFX := Lib.hid hkfx; have HGF := Lib.hid hgf; have HKF2 := Lib.hid hkf2; have HKNE := Lib.hid hkne; have HBZ := Lib.hid hBz
          have hxl : x.d.l ≤ 256 := by omega
          have hx0 : ¬ x.d.l = 0 := by omega
          have hx1 : (8 * (x.d.l : Int) == 0) = false := beq_eq_false_iff_ne.2 (by omega)
          clear hwt hKc hkey c2 hd hx hg1 hzl hl hB1 hBz hkx hf1 hkf hkfx hgf hkf2 hkne hk1
          go_wp2_with (go_at_call 20; fail)
          rw [hB2]
          refine (HF1.out wr (HB3.out.trans (HBI.out.mono HB3.out.size))).mono ?_
          intro e w5 h5
          obtain ⟨ko5, n5, kc5, cs5, rfl, hn5, hall⟩ := h5.absorb
          obtain ⟨V5, hV5⟩ : ∃ V5, V5 = w5.alloc (.cells #[.int .i64 tp, .slice ko5 n5 kc5] 24) := ⟨_, rfl⟩
          obtain ⟨hB5, hy5, ht5, hk5⟩ := hall V5 hV5
          obtain ⟨g14, hg14⟩ : ∃ g14, g14 = w5.heap.size := ⟨_, rfl⟩
          rw [← hg14] at hy5
          have HB5 := Lib.hid (HBI.out.trans (hB5.mono HBI.out.size)); have HY5 := Lib.hid hy5; have HT5 := Lib.hid ht5; have HK5 := Lib.hid hk5; have HV5 := Lib.hid hV5; have HG14 := Lib.hid hg14
          have hf2 := flip_at ⟨tp, ko5, n5, kc5, cs5⟩ K B (z := flipZ x.d.z B) (b := x.b) V5 ht5 (by rw [hk5]; exact HGF.out) (by rw [hk5]; exact HKFX.out) (by rw [flipZ_len]; exact HBZ.out)
          rw [hk5, HKF2.out] at hf2
          have HF2 := Lib.hid hf2
          clear h5 hall hB5 hy5 ht5 hk5 hn5 hg14 hf2 hB2 x0 x1 y0 y1 c0 c1
          obtain ⟨x0, x1, y0, y1⟩ := HC.out V5 HB5.out
          rw [hV5] at x0 x1
          clear hV5 y0 y1
          go_wp2_with (go_at_call 20; fail)
          rw [← HV5.out, ← HG14.out]
          refine HF2.out.mono ?_
          intro e w6 h6
          obtain ⟨ko6, n6, kc6, cs6, rfl, hn6, hall⟩ := h6.absorb
          obtain ⟨V6, hV6⟩ : ∃ V6, V6 = w6.alloc (.cells #[.int .i64 tp, .slice ko6 n6 kc6] 24) := ⟨_, rfl⟩
          obtain ⟨hB6, hy6, ht6, hk6⟩ := hall V6 hV6
          obtain ⟨g15, hg15⟩ : ∃ g15, g15 = w6.heap.size := ⟨_, rfl⟩
          rw [← hg15] at hy6
          have hB06 := HB5.out.trans (hB6.mono HB5.out.size)
          have hcell : ∀ V, Below V6.heap.size V6 V → V.cell? ⟨w.heap.size, 0, none⟩ = some (.int .i64 tp) ∧ V.cell? ⟨w.heap.size, 1, none⟩ = some (.slice (some ⟨b, o, none⟩) n3 c) ∧ V.cell? ⟨g14, 0, none⟩ = some (.int .i64 tp) ∧ V.cell? ⟨g14, 1, none⟩ = some (.slice ko5 n5 kc5) ∧ V.cell? ⟨g15, 0, none⟩ = some (.int .i64 tp) ∧ V.cell? ⟨g15, 1, none⟩ = some (.slice ko6 n6 kc6) := fun V hb => by
            obtain ⟨a0, a1, _⟩ := HC.out V (hB06.trans (hb.mono hB06.size))
            obtain ⟨b0, b1, _⟩ := cells2 (cells2at HY5.out (hB6.trans (hb.mono hB6.size)))
            obtain ⟨c0, c1, _⟩ := cells2 (cells2at hy6 hb)
            exact ⟨a0, a1, b0, b1, c0, c1⟩
          have hm1 := fun V (hb : Below V6.heap.size V6 V) => keep_med ⟨tp, ko5, n5, kc5, cs5⟩ ⟨tp, some ⟨b, o, none⟩, n3, c, cs⟩ V (HT5.out.below (hB6.trans (hb.mono hB6.size))) (HV.out V (HB3.out.trans ((hB06.trans (hb.mono hB06.size)).mono HB3.out.size)))
          have hm2 := fun V (hb : Below V6.heap.size V6 V) => keep_med ⟨tp, ko6, n6, kc6, cs6⟩ ⟨tp, some ⟨b, o, none⟩, n3, c, cs⟩ V (ht6.below hb) (HV.out V (HB3.out.trans ((hB06.trans (hb.mono hB06.size)).mono HB3.out.size)))
          have hne1 : decide ((Tap.mk tp ko5 n5 kc5 cs5).p = (Tap.mk tp (some ⟨b, o, none⟩) n3 c cs).p ∧ Tap.ks ⟨tp, ko5, n5, kc5, cs5⟩ = Tap.ks ⟨tp, some ⟨b, o, none⟩, n3, c, cs⟩) = false := decide_eq_false fun h => HKNE.out (by rw [← HK5.out, h.2]; exact HKS.out.symm)
          have heq2 : decide ((Tap.mk tp ko6 n6 kc6 cs6).p = (Tap.mk tp (some ⟨b, o, none⟩) n3 c cs).p ∧ Tap.ks ⟨tp, ko6, n6, kc6, cs6⟩ = Tap.ks ⟨tp, some ⟨b, o, none⟩, n3, c, cs⟩) = true := decide_eq_true ⟨rfl, by rw [hk6]; exact HKS.out⟩
          rw [hne1] at hm1
          rw [heq2] at hm2
          simp only at hm1 hm2
          have HCE := Lib.hid hcell; have HM1 := Lib.hid hm1; have HM2 := Lib.hid hm2; have HB6 := Lib.hid hB06; have HV6 := Lib.hid hV6; have HG15 := Lib.hid hg15
          clear h6 hall hB6 hy6 ht6 hk6 hn6 hg15 hB06 hcell hm1 hm2 hne1 heq2 x0 x1
          obtain ⟨x0, x1, u0, u1, v0, v1⟩ := HCE.out V6 (Below.refl _ _)
          rw [hV6] at x0 x1 u0 u1
          clear hV6 v0 v1
          go_wp2_with (go_at_call 22; fail)
          rw [← HV6.out, ← HG15.out]
          refine (HM1.out V6 (Below.refl _ _)).mono ?_
          rintro e w7 ⟨rfl, hB7⟩
          have HB7 := Lib.hid hB7
          clear hB7 x0 x1 u0 u1
          obtain ⟨x0, x1, u0, u1, v0, v1⟩ := HCE.out w7 HB7.out
          go_wp2_with (first
            | (go_at_call 22; refine (HM2.out _ HB7.out).mono ?_; rintro e w8 ⟨rfl, hB8⟩; have HB8 := Lib.hid (HB7.out.trans (hB8.mono HB7.out.size)); clear hB8)
            | (go_at_call 26; refine (HWK.out _).mono ?_; rintro e w9 ⟨rfl, hB9⟩; have HB9 := Lib.hid (HB8.out.trans (hB9.mono HB8.out.size)); clear hB9))
          go_ret
          exact ⟨rfl, HB0.out.trans ((HB3.out.trans ((HB6.out.trans (HB9.out.mono HB6.out.size)).mono HB3.out.size)).mono HB0.out.size)⟩
        · have e1 : (x.k != 1) = true := by simp [hk1]
          have hfk : flipK tp ks K bit = (8, 0, []) := by
            rw [flipK_at tp ks K bit (a := x.k) (z := x.d.z) (b := x.b) hkey, if_neg hk1]
          have hfn := fun V (hb : Below W0.heap.size W0 V) => flip_no ⟨tp, some ⟨b, o, none⟩, n3, c, cs⟩ K bit V (HV.out V hb) (by rw [← HKS.out]; exact HG.out) (by rw [← HKS.out]; show (flipK tp ks K bit).1 ≠ 0; rw [hfk]; decide) HBIT.out
          rw [← HKS.out] at hfn
          simp only [hfk] at hfn
          have HFN := Lib.hid hfn
          clear hwt hKc hkey c1 c2 hd hx hfk hfn hk1
          go_wp2_with (go_at_call 20; fail)
          refine (HFN.out wr (HB3.out.trans (HBI.out.mono HB3.out.size))).mono ?_
          intro e w5 h5
          obtain ⟨ko5, n5, kc5, cs5, rfl, hO5, hk5, hB5⟩ := h5.elim
          have HB5 := Lib.hid (HBI.out.trans (hB5.mono HBI.out.size))
          clear h5 hO5 hk5 hB5
          go_wp2_with (go_at_call 26; refine (HWK.out _).mono ?_; rintro e w6 ⟨rfl, hB6⟩; have HB6 := Lib.hid (HB5.out.trans (hB6.mono HB5.out.size)); clear hB6)
          go_ret
          exact ⟨rfl, HB0.out.trans ((HB3.out.trans (HB6.out.mono HB3.out.size)).mono HB0.out.size)⟩

end Go.Proofs.Ytojcinkchdhjpaa
