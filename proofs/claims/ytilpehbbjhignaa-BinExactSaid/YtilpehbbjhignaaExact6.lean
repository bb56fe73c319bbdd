/-
  The walk of BinExact.
-/
import Derived.Test.YtilpehbbjhignaaExact5
import Derived.Test.YtilpehbbjhignaaOpen
import Derived.Test.YtilpehbbjhignaaWakes
namespace Go.Proofs.Ytilpehbbjhignaa
open Go.RowKit
set_option linter.unusedVariables false

theorem ne_self (e : Int) : (e != e) = false := by simp

theorem own_nil {w : World} {base n cap : Nat} {ao : Option Addr} {zs : List Int} (h : Ow w base ao n cap zs) (hn : ao = none) : cap = 0 := by
  rcases h.2.2.2.2 with ⟨q, _⟩ | ⟨g, c, cur, q, _⟩
  · cases q; rfl
  · simp only [Value.slice.injEq] at q
    rw [q.1] at hn; cases hn
theorem bytes_own {w w' : World} {b1 b2 n c1 c2 : Nat} {k1 k2 : Option Addr} {zs : List Int} (h1 : Ow w b1 k1 n c1 zs) (hB : Below w.heap.size w w') (h2 : Ow w' b2 k2 n c2 zs) :
    Calls Try.prog 12 #[.slice k1 n c1, .slice k2 n c2] w' fun e w'' => e = .returned (.bool true) ∧ Below w'.heap.size w' w'' :=
  bytes_rd k1 k2 c1 c2 n zs w' h1.1 (by have := h1.2.1; have := h1.2.2.1; unfold maxLen at this; omega) (h1.rd.below hB) h2.rd
theorem putS_le {zs : List Int} {n size e : Int} {x : List Int} (h : (x, e) = putS zs n size) : x.length ≤ zs.length + 7 := by
  unfold putS at h
  split at h
  · rw [(Prod.mk.inj h).1]; simp
  · rw [(Prod.mk.inj h).1, List.length_append, be_length]; omega
theorem partS_le {zs ps : List Int} {e : Int} {x : List Int} (h : (x, e) = partS zs ps) : x.length ≤ zs.length + 4 + ps.length := by
  unfold partS at h
  split at h
  · rw [(Prod.mk.inj h).1]; simp
  · rw [(Prod.mk.inj h).1, List.length_append, List.length_append, be_length]; omega
theorem gpS_le {zs : List Int} {at' p e : Int} {x : List Int} (h : (x, p, e) = gpS zs at') : x.length ≤ zs.length := by
  unfold gpS at h
  split at h
  · rw [(Prod.mk.inj h).1]; simp
  · split at h
    · rw [(Prod.mk.inj h).1]; simp
    · split at h
      · rw [(Prod.mk.inj h).1]; simp
      · rw [(Prod.mk.inj h).1]; simp; omega

set_option maxHeartbeats 2000000 in
theorem exact_walk (a0 a1 : Option Addr) (len0 cap0 len1 cap1 : Nat) (zs ps : List Int) (n at' size : Int) (w : World) (hl0 : zs.length = len0) (hc0 : len0 ≤ cap0) (hm0 : cap0 ≤ maxLen) (hr0 : Rd w a0 zs) (hz0 : Bts zs) (hn0 : a0 = none → cap0 = 0)
    (hl1 : ps.length = len1) (hr1 : Rd w a1 ps) (hn1 : a1 = none → cap1 = 0) (h2 : len0 ≤ 2000) (h3 : len1 ≤ 2000) :
    Calls Try.prog 3 #[.slice a0 len0 cap0, .slice a1 len1 cap1, .int .i64 n, .int .i64 at', .int .i64 size] w fun e w' => e = .returned (.bool true) ∧ Below w.heap.size w w' := by
  have c1 := twin_any a0 len0 cap0 zs w hl0 (by omega) hr0 hn0
  have c2 : ∀ w1, Below w.heap.size w w1 → Calls Try.prog 9 #[.slice a1 len1 cap1] w1 (R1 w1 len1 ps) := fun w1 h => twin_any a1 len1 cap1 ps w1 hl1 (by omega) (hr1.below h) hn1
  have H1 := Lib.hid c1; have H2 := Lib.hid c2
  have L0 := Lib.hid hl0; have R0 := Lib.hid hr0; have Z0 := Lib.hid hz0; have N0 := Lib.hid hn0; have L1 := Lib.hid hl1; have Q1 := Lib.hid hr1; have N1 := Lib.hid hn1; have M0 := Lib.hid hm0; have C0 := Lib.hid hc0
  clear c1 c2 hl0 hr0 hz0 hn0 hl1 hr1 hn1 hm0 hc0
  obtain ⟨r, hr⟩ : ∃ r, r = putS zs n size := ⟨_, rfl⟩
  obtain ⟨x1, e1⟩ := r
  obtain ⟨g, hg⟩ : ∃ g, g = getS zs at' size := ⟨_, rfl⟩
  obtain ⟨g1, g2, g3⟩ := g
  obtain ⟨q, hq⟩ : ∃ q, q = partS zs ps := ⟨_, rfl⟩
  obtain ⟨x2, e2⟩ := q
  obtain ⟨u, hu⟩ : ∃ u, u = gpS zs at' := ⟨_, rfl⟩
  obtain ⟨x3, p3, e3⟩ := u
  have HR := Lib.hid hr; have HG := Lib.hid hg; have HQ := Lib.hid hq; have HU := Lib.hid hu
  clear hr hg hq hu
  have d1 := ne_self e1; have d2 := ne_self e2; have d3 := ne_self e3; have d4 := ne_self g1; have d5 := ne_self g2; have d6 := ne_self g3; have d7 := ne_self p3
  go_enter Try.func3, Try.ntmps3
  -- the twins
  go_wp2_with (first
    | (go_at_call 9; refine H1.out.mono ?_; rintro e w1 ⟨ki, kci, rfl, how, hB1⟩; have I1 := Lib.hid how; have B1 := Lib.hid hB1; clear how hB1)
    | (go_at_call 9; refine (H2.out _ B1.out).mono ?_; rintro e w2 ⟨kp, kcp, rfl, how, hB2⟩; have P2 := Lib.hid how; have B2 := Lib.hid hB2; clear how hB2))
  -- put
  have kk := I1.out; have kp' := P2.out
  have hI := Lib.hid (kk.rd.below B2.out); have hP := Lib.hid kp'.rd
  have hB := Lib.hid ((R0.out.below B1.out).below B2.out); have hQ := Lib.hid ((Q1.out.below B1.out).below B2.out)
  have hkc : len0 ≤ kci := kk.2.1
  have hkm : kci ≤ maxLen := kk.2.2.1
  have hkn := Lib.hid (own_nil I1.out); have hpn := Lib.hid (own_nil P2.out)
  have B12 := Lib.hid (B1.out.trans (B2.out.mono B1.out.size))
  clear kk kp' H1 H2 B1 B2
  have c10 := put_r ki len0 kci zs n size w2 L0.out (by omega) hI.out
  rw [← HR.out] at c10
  have H10 := Lib.hid c10
  have c11 : ∀ w3, Below w2.heap.size w2 w3 → Calls Try.prog 11 #[.slice a0 len0 cap0, .int .i64 n, .int .i64 size] w3 (R2 w3 (x1, e1)) := fun w3 h => by
    have := rput_r a0 len0 cap0 zs n size w3 L0.out (by omega) (hB.out.below h) N0.out
    rwa [← HR.out] at this
  have H11 := Lib.hid c11
  clear c10 c11
  go_wp2_with (first
    | (go_at_call 10; refine H10.out.mono ?_; rintro e w3 ⟨nx, kx, kcx, rfl, how, hB3⟩; have X3 := Lib.hid how; have B3 := Lib.hid hB3; clear how hB3)
    | (go_at_call 11; refine (H11.out _ B3.out).mono ?_; rintro e w4 ⟨ny, ky, kcy, rfl, how, hB4⟩; have Y4 := Lib.hid how; have B4 := Lib.hid hB4; clear how hB4))
  obtain rfl : nx = ny := X3.out.1.symm.trans Y4.out.1
  have H12 := Lib.hid (bytes_own X3.out B4.out Y4.out)
  have B24 := Lib.hid (B3.out.trans (B4.out.mono B3.out.size))
  have X4 := Lib.hid (X3.out.below B4.out)
  clear H10 H11 X3 B3 B4
  have HLx := Lib.hid (putS_le HR.out)
  go_wp2_with (go_at_call 12; refine H12.out.mono ?_; rintro e w5 ⟨rfl, hB5⟩; have B5 := Lib.hid hB5; clear hB5)
  have hnx : nx ≤ 1000000 := by have := HLx.out; have := X4.out.1; have := L0.out; omega
  have H13 := Lib.hid (spoil_any kx nx kcx w2.heap.size x1 w5 hnx (X4.out.below B5.out))
  go_wp2_with (go_at_call 13; refine H13.out.mono ?_; rintro e w6 ⟨rfl, hB6⟩; have B6 := Lib.hid hB6; clear hB6)
  have K6 := Lib.hid (B24.out.trans ((B5.out.mono B24.out.size).trans B6.out))
  clear H12 H13 B24 B5 B6 X4 Y4 HLx HR
  -- get
  have c14 := get_r ki len0 kci zs at' size w6 L0.out hkc hkm (hI.out.below K6.out) Z0.out
  have c15 := rget_r a0 len0 cap0 zs at' size w6 L0.out C0.out M0.out (hB.out.below K6.out) Z0.out
  rw [← HG.out] at c14 c15
  have H14 := Lib.hid c14; have H15 := Lib.hid c15
  clear c14 c15 HG
  go_wp2_with (first
    | (go_at_call 14; refine H14.out.mono ?_; rintro e w7 ⟨rfl, rfl⟩)
    | (go_at_call 15; refine H15.out.mono ?_; rintro e w7 ⟨rfl, rfl⟩))
  clear H14 H15
  -- putPart
  have c16 := putPart_r ki len0 kci zs kp len1 kcp ps w6 L0.out (by omega) (hI.out.below K6.out) L1.out (by omega) (hP.out.below K6.out) hpn.out
  have c17 : ∀ w3, Below w6.heap.size w6 w3 → Calls Try.prog 17 #[.slice a0 len0 cap0, .slice a1 len1 cap1] w3 (R2 w3 (partS zs ps)) := fun w3 h =>
    rputPart_r a0 len0 cap0 zs a1 len1 cap1 ps w3 L0.out (by omega) ((hB.out.below K6.out).below h) N0.out L1.out (by omega) ((hQ.out.below K6.out).below h) N1.out
  rw [← HQ.out] at c16 c17
  have H16 := Lib.hid c16; have H17 := Lib.hid c17
  clear c16 c17
  go_wp2_with (first
    | (go_at_call 16; refine H16.out.mono ?_; rintro e w7 ⟨mx, lx, lcx, rfl, how, hB7⟩; have X7 := Lib.hid how; have B7 := Lib.hid hB7; clear how hB7)
    | (go_at_call 17; refine (H17.out _ B7.out).mono ?_; rintro e w8 ⟨my, ly, lcy, rfl, how, hB8⟩; have Y8 := Lib.hid how; have B8 := Lib.hid hB8; clear how hB8))
  obtain rfl : mx = my := X7.out.1.symm.trans Y8.out.1
  have H12 := Lib.hid (bytes_own X7.out B8.out Y8.out)
  have B68 := Lib.hid (B7.out.trans (B8.out.mono B7.out.size))
  have X8 := Lib.hid (X7.out.below B8.out)
  clear H16 H17 X7 B7 B8
  have HLx := Lib.hid (partS_le HQ.out)
  go_wp2_with (go_at_call 12; refine H12.out.mono ?_; rintro e w9 ⟨rfl, hB9⟩; have B9 := Lib.hid hB9; clear hB9)
  have hmx : mx ≤ 1000000 := by have := HLx.out; have := X8.out.1; have := L0.out; have := L1.out; omega
  have H13 := Lib.hid (spoil_any lx mx lcx w6.heap.size x2 w9 hmx (X8.out.below B9.out))
  go_wp2_with (go_at_call 13; refine H13.out.mono ?_; rintro e w10 ⟨rfl, hB10⟩; have B10 := Lib.hid hB10; clear hB10)
  have K10 := Lib.hid (K6.out.trans ((B68.out.trans ((B9.out.mono B68.out.size).trans B10.out)).mono K6.out.size))
  clear H12 H13 B68 B9 B10 X8 Y8 HLx HQ
  -- getPart
  have c18 := getPart_r ki len0 kci zs at' w10 L0.out hkc hkm (hI.out.below K10.out) Z0.out
  have c19 : ∀ w3, Below w10.heap.size w10 w3 → Calls Try.prog 19 #[.slice a0 len0 cap0, .int .i64 at'] w3 (R3 w3 (gpS zs at')) := fun w3 h =>
    rgetPart_r a0 len0 cap0 zs at' w3 L0.out C0.out M0.out ((hB.out.below K10.out).below h) Z0.out
  rw [← HU.out] at c18 c19
  have H18 := Lib.hid c18; have H19 := Lib.hid c19
  clear c18 c19
  go_wp2_with (first
    | (go_at_call 18; refine H18.out.mono ?_; rintro e w11 ⟨ox, jx, jcx, rfl, how, hB11⟩; have X11 := Lib.hid how; have B11 := Lib.hid hB11; clear how hB11)
    | (go_at_call 19; refine (H19.out _ B11.out).mono ?_; rintro e w12 ⟨oy, jy, jcy, rfl, how, hB12⟩; have Y12 := Lib.hid how; have B12' := Lib.hid hB12; clear how hB12))
  obtain rfl : ox = oy := X11.out.1.symm.trans Y12.out.1
  have H12 := Lib.hid (bytes_own X11.out B12'.out Y12.out)
  have B68 := Lib.hid (B11.out.trans (B12'.out.mono B11.out.size))
  have X8 := Lib.hid (X11.out.below B12'.out)
  clear H18 H19 X11 B11 B12'
  have HLx := Lib.hid (gpS_le HU.out)
  go_wp2_with (go_at_call 12; refine H12.out.mono ?_; rintro e w13 ⟨rfl, hB13⟩; have B13 := Lib.hid hB13; clear hB13)
  have hox : ox ≤ 1000000 := by have := HLx.out; have := X8.out.1; have := L0.out; omega
  have H13 := Lib.hid (spoil_any jx ox jcx w10.heap.size x3 w13 hox (X8.out.below B13.out))
  go_wp2_with (go_at_call 13; refine H13.out.mono ?_; rintro e w14 ⟨rfl, hB14⟩; have B14 := Lib.hid hB14; clear hB14)
  have K14 := Lib.hid (K10.out.trans ((B68.out.trans ((B13.out.mono B68.out.size).trans B14.out)).mono K10.out.size))
  clear H12 H13 B68 B13 B14 X8 Y12 HLx HU
  -- what was handed in stays
  have H20 := Lib.hid (bytes_rd ki a0 kci cap0 len0 zs w14 L0.out (by omega) (hI.out.below K14.out) (hB.out.below K14.out))
  have H21 : Hid (∀ w3, Below w14.heap.size w14 w3 → Calls Try.prog 12 #[.slice kp len1 kcp, .slice a1 len1 cap1] w3 fun e w' => e = .returned (.bool true) ∧ Below w3.heap.size w3 w') := fun w3 h =>
    bytes_rd kp a1 kcp cap1 len1 ps w3 L1.out (by omega) ((hP.out.below K14.out).below h) ((hQ.out.below K14.out).below h)
  go_wp2_with (first
    | (go_at_call 12; refine (H21.out _ B15.out).mono ?_; rintro e w16 ⟨rfl, hB16⟩; have B16 := Lib.hid hB16; clear hB16)
    | (go_at_call 12; refine H20.out.mono ?_; rintro e w15 ⟨rfl, hB15⟩; have B15 := Lib.hid hB15; clear hB15)
    | (go_at_call 20; refine (wakes_any _).mono ?_; rintro e w17 ⟨rfl, hB17⟩; have B17 := Lib.hid hB17; clear hB17))
  go_ret
  have B1416 := B15.out.trans (B16.out.mono B15.out.size)
  have B1417 := B1416.trans (B17.out.mono B1416.size)
  exact ⟨rfl, B12.out.trans ((K14.out.trans (B1417.mono K14.out.size)).mono B12.out.size)⟩

theorem exact_more (a0 a1 : Option Addr) (len0 cap0 len1 cap1 : Nat) (n at' size : Int) (w : World) (h : 2000 < len0 ∨ 2000 < len1) :
    Calls Try.prog 3 #[.slice a0 len0 cap0, .slice a1 len1 cap1, .int .i64 n, .int .i64 at', .int .i64 size] w fun e w' => e = .returned (.bool true) ∧ Below w.heap.size w w' := by
  by_cases h0 : 2000 < len0
  all_goals
    go_enter Try.func3, Try.ntmps3
    go_wp2
    go_ret
    exact ⟨rfl, Below.refl _ _⟩

end Go.Proofs.Ytilpehbbjhignaa
