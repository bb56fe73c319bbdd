/-
  Aggregates: the document's own Pack; the comparison of rows.
-/
import Derived.Test.YtifbbikhjolnjaaDoorAg13
import Derived.Test.YtifbbikhjolnjaaDoorAg11
namespace Go.Proofs.YtifbbikhjolnjaaDoor
open Go.RowKit
set_option linter.unusedVariables false

theorem Rd.congr {V W : World} {ao : Option Addr} {zs : List Int} (h : Rd W ao zs) (hc : ∀ a, V.cell? a = W.cell? a) : Rd V ao zs := by
  rcases h with h | ⟨b, o, ha, hr⟩
  · exact .inl h
  · exact .inr ⟨b, o, ha, fun j hj => by rw [hc]; exact hr j hj⟩
theorem rows_eq (a b : Option Addr) (n ca cb : Nat) (ps qs : List Part) (w : World) (hp : ps.length = n) (hq : qs.length = n) (hm : n ≤ maxLen) (h1 : Ps w a ps) (h2 : Ps w b qs) (hz : ps.map Part.z = qs.map Part.z) :
    Calls Tryd.prog 13 #[.slice a n ca, .slice b n cb] w fun e w' => e = .returned (.bool true) ∧ ∃ q, w' = w.drewN q := by
  unfold maxLen at hm
  have H1 := Lib.hid h1; have H2 := Lib.hid h2; have HP := Lib.hid hp; have HQ := Lib.hid hq; have HZ := Lib.hid hz
  have d0 : ((n : Int) != n) = false := by simp
  clear h1 h2 hp hq hz
  go_enter Tryd.func13, Tryd.ntmps13
  go_wp2
  go_loopw [5] (fun i wr => ∃ k q : Nat, k ≤ n ∧ i = .int .i64 k ∧ wr = w.drewN q) (fun i _ => n - (intOf i).toNat)
  case atStart => exact ⟨0, 0, Nat.zero_le _, rfl, rfl⟩
  case round =>
    obtain ⟨k, q, hk, rfl, hw⟩ := hrel
    have HW := Lib.hid hw
    by_cases hlt : k < n
    · have lp : k < ps.length := by rw [HP.out]; exact hlt
      have lq : k < qs.length := by rw [HQ.out]; exact hlt
      have hzk : ps[k].z = qs[k].z := by
        have := congrArg (fun l => l[k]?) HZ.out
        simpa [lp, lq] using this
      rcases H1.out with h | ⟨b1, o1, rfl, c1⟩
      · rw [h] at lp; simp at lp
      rcases H2.out with h | ⟨b2, o2, rfl, c2⟩
      · rw [h] at lq; simp at lq
      obtain ⟨g1, k1⟩ := c1 k lp
      obtain ⟨g2, k2⟩ := c2 k lq
      generalize ps[k] = p at g1 k1 hzk
      generalize qs[k] = p' at g2 k2 hzk
      obtain ⟨pa, pl, pc, pz⟩ := p
      obtain ⟨qa, ql, qc, qz⟩ := p'
      simp only at g1 g2 hzk
      subst hzk
      have g1' : wr.cell? ⟨b1, o1 + k, none⟩ = some (.slice pa pl pc) := by rw [hw]; exact g1
      have g2' : wr.cell? ⟨b2, o2 + k, none⟩ = some (.slice qa ql qc) := by rw [hw]; exact g2
      have HBC : Hid (∀ V : World, (∀ a, V.cell? a = w.cell? a) → Calls Tryd.prog 21 #[.slice pa pl pc, .slice qa ql qc] V fun e w' => e = .returned (.bool true) ∧ ∃ q, w' = V.drewN q) := fun V hV => by
        have := bytes_cmp pa qa pl ql pc qc pz pz V k1.len k2.len k1.small (k1.rd.congr hV) (k2.rd.congr hV)
        rwa [decide_eq_true rfl] at this
      have hcw : Hid (∀ a, wr.cell? a = w.cell? a) := fun a => by rw [hw]; rfl
      clear c1 c2 g1 g2 k1 k2 hw lp lq
      go_wp2
      go_quiet ((go_at_call 21; exact Calls.quiet_of (HBC.out _ (fun a => hcw.out a))))
      go_wp2
      go_roundw
      case rel => exact ⟨k + 1, q + nq, by omega, by go_num, by rw [HW.out, World.drewN_drewN]⟩
      case measure => simp [intOf]; omega
    · obtain rfl : k = n := by omega
      clear hw
      go_wp2
      go_ret
      exact ⟨rfl, q, HW.out⟩

set_option maxRecDepth 100000 in
set_option maxHeartbeats 4000000 in
theorem rpack (size : Int) (ao : Option Addr) (n cap : Nat) (rs : List Rec) (w : World) (hl : rs.length = n) (hm : n ≤ maxLen) (h : Rs w ao rs) :
    Calls Tryd.prog 12 #[.int .i64 size, .slice ao n cap] w (PP w size rs) := by
  have HJ := Lib.hid (rbytes size ao n cap rs w hl hm h)
  clear hl hm h
  go_enter Tryd.func12, Tryd.ntmps12
  go_wp2_with (go_at_call 25; fail)
  refine HJ.out.mono ?_
  rintro e w1 ⟨hB, ⟨hj, ko, cp, oo, oc, rfl, how, hon, hlen, hbts, hs1, hs2, hn1, hn2⟩ | ⟨hj, rfl⟩⟩
  · obtain ⟨s, rfl⟩ := Int.eq_ofNat_of_zero_le (by omega : 0 ≤ size)
    have HX : Hid (∀ e w' bo bc ps oo oc, Below w1.heap.size w1 w' → e = .returned (.tuple #[.slice bo (nb (ag rs).length s) bc, .slice oo rs.length oc, .int .i64 0]) → OPs w' w.heap.size bo (nb (ag rs).length s) bc ps → On w' w.heap.size oo rs.length oc (offP rs rs.length) → ps.map Part.z = chu s (ag rs) (nb (ag rs).length s) → PP w (s : Int) rs e w') := fun e w' bo bc ps oo oc hb he ho hn hz =>
      ⟨hB.trans (hb.mono hB.size), .inl ⟨hj, bo, bc, oo, oc, ps, by rw [Int.toNat_natCast]; exact he, by rw [Int.toNat_natCast]; exact ho, hn, by rw [Int.toNat_natCast]; exact hz, hlen, hbts, hs1, hs2, hn1, hn2⟩⟩
    have hne := ag_len rs
    obtain ⟨g, rfl, hg⟩ := how.at (by omega)
    obtain ⟨zs, hzs⟩ : ∃ zs, zs = ag rs := ⟨_, rfl⟩
    rw [← hzs] at how hbts hlen HX ⊢
    obtain ⟨N, hN⟩ : ∃ N, N = zs.length := ⟨_, rfl⟩
    rw [← hN] at how hlen HX ⊢
    have hs32 : 32 ≤ s := by omega
    have hs256 : s ≤ 256 := by omega
    have hNc : N ≤ cp := how.2.1
    have hcm : cp ≤ maxLen := how.2.2.1
    have HRD := Lib.hid how.rd; have HBT := Lib.hid hbts; have HON := Lib.hid hon; have HB := Lib.hid hB; have HNL := Lib.hid hN
    obtain ⟨nr, hnr⟩ : ∃ nr, nr = rs.length := ⟨_, rfl⟩
    rw [← hnr] at HON HX ⊢
    clear hj hzs hN how hbts hon hB HJ hs1 hs2 hn1 hn2 hnr hne hg
    unfold maxLen at hcm
    go_wp2
    go_loopw [10, 11] (fun v x wr => ∃ (m M : Nat) (ps : List Part) (bo : Option Addr) (bc : Nat), M = m * s ∧ v = .slice bo m bc ∧ x = .int .i64 M ∧ OPs wr w1.heap.size bo m bc ps ∧ ps.map Part.z = chu s zs m ∧ M < N + s ∧ m ≤ N ∧ Below w1.heap.size w1 wr) (fun _ x _ => N + s - (intOf x).toNat)
    case atStart => exact ⟨0, 0, [], none, 0, by simp, rfl, rfl, OPs.nil _ _, rfl, by omega, Nat.zero_le _, Below.refl _ _⟩
    case round =>
      obtain ⟨m, M, ps, bo, bc, hM, rfl, rfl, hops, hpz, hms, hmN, hBr⟩ := hrel
      have hrd := HRD.out.below hBr
      by_cases hl0 : M < N
      · have e1 : decide ((M : Int) < (N : Int)) = true := decide_eq_true (by omega)
        have e1' : decide (M < N) = true := decide_eq_true hl0
        obtain ⟨k, hk⟩ : ∃ k, k = min s (N - M) := ⟨_, rfl⟩
        have hmin : ∀ ats W, (Builtin.min_ ats 3 #[.int .i64 ((M : Int) + (s : Int)), .int .i64 (N : Int)]).run Tryd.prog W = .ok (.int .i64 ((M + k : Nat) : Int)) W := fun ats W => by
          rw [run_min]
          have : min ((M : Int) + (s : Int)) (N : Int) = ((M + k : Nat) : Int) := by omega
          rw [this]
        have hk1 : k ≤ N - M := by omega
        have hk2 : k ≤ s := by omega
        have hk0 : 0 < k := by omega
        have i1 : (0 : Int) ≤ (M : Int) := by omega
        have i2 : (M : Int) ≤ ((M + k : Nat) : Int) := by omega
        have i3 : ((M + k : Nat) : Int) ≤ (cp : Int) := by omega
        have hck : ((zs.drop M).take s).length = k := by
          rw [List.length_take, List.length_drop, ← HNL.out]; omega
        have hcz : ((zs.drop M).take s) = (zs.drop M).take k := by
          by_cases hsl : s ≤ N - M
          · rw [show k = s by omega]
          · rw [List.take_of_length_le (by rw [List.length_drop, ← HNL.out]; omega), List.take_of_length_le (by rw [List.length_drop, ← HNL.out]; omega)]
        obtain ⟨zc, hzc⟩ : ∃ zc, zc = (zs.drop M).take s := ⟨_, rfl⟩
        have hrdc : Rd wr (some ⟨g, M, none⟩) zc := by
          rw [hzc, hcz]
          have := (hrd.drop M).take k
          rwa [Nat.zero_add] at this
        rw [← hzc] at hck
        have htw := fun c => twin_any (some ⟨g, M, none⟩) k c zc wr hck (by omega) hrdc (fun h => by cases h)
        have hbz : Bts zc := by rw [hzc]; exact (HBT.out.drop _).take _
        have hchu : chu s zs (m + 1) = chu s zs m ++ [zc] := by rw [hzc, hM]; exact chu_succ _ _ _
        have HTW := Lib.hid htw; have HOPS := Lib.hid hops; have HPZ := Lib.hid hpz; have HBR := Lib.hid hBr; have HBZ := Lib.hid hbz; have HCHU := Lib.hid hchu
        have HMS := Lib.hid hM; have HKK := Lib.hid hk
        have hms9 := hms
        clear htw hops hpz hBr hrd hbz hchu hck hcz hrdc hzc hms hM hk
        go_wp2_with (go_at_call 22; fail)
        refine (HTW.out _).mono ?_
        rintro e w5 ⟨kb, cb, rfl, how, hB5⟩
        have hb5 : Below w1.heap.size w1 w5 := HBR.out.trans (hB5.mono HBR.out.size)
        have hal : Below w5.heap.size w5 (w5.alloc (.cells #[.slice kb k cb] 39)) := (Below.refl _ _).alloc (Nat.le_refl _) _
        have hown : Own1 (w5.alloc (.cells #[.slice kb k cb] 39)) ⟨kb, k, cb, zc⟩ := (Own1.of_ow how HBZ.out).below hal
        have HOP := Lib.hid ((HOPS.out.below hB5).below hal); have HOWN := Lib.hid hown; have HB5 := Lib.hid (hb5.trans (hal.mono hb5.size))
        have HG5 : Hid ((w5.alloc (.cells #[.slice kb k cb] 39)).heap[w5.heap.size]? = some (.cells #[.slice kb k cb] 39 (0, 0))) := heap_alloc_new _ _
        have hm6 : m ≤ 1000000 := by omega
        clear hb5 hal hown how hB5 HTW HOPS HBR
        go_wp2_with (at_builtin; refine append_part rfl (.tmp 29) (.tmp 40) rfl w1.heap.size m bc w5.heap.size bo ps ⟨kb, k, cb, zc⟩ rfl HOP.out rfl HG5.out HOWN.out (by omega) HB5.out.size ?_; intro bo' bc' w6 ho6 hB6 hk6; have HO6 := Lib.hid ho6; have HB6 := Lib.hid (HB5.out.trans hB6); clear ho6 hB6 hk6)
        have hms3 : (m + 1) * s = m * s + s := Nat.succ_mul _ _
        have hm1 : m ≤ m * s := Nat.le_mul_of_pos_right m (by omega)
        have hMM := HMS.out
        go_roundw
        case rel =>
          refine ⟨m + 1, M + s, ps ++ [⟨kb, k, cb, zc⟩], bo', bc', by omega, rfl, by go_num, HO6.out, ?_, by omega, by omega, HB6.out⟩
          rw [List.map_append, HPZ.out, HCHU.out]; rfl
        case measure => simp [intOf]; omega
      · have e1 : decide ((M : Int) < (N : Int)) = false := decide_eq_false (by omega)
        have e1' : decide (M < N) = false := decide_eq_false hl0
        have hnb : nb N s = m := nb_eq (by omega) (by omega) (by omega)
        rw [hnb] at HX
        have HOPS := Lib.hid (hops.low HB.out.size); have HPZ := Lib.hid hpz; have HBR := Lib.hid hBr; have HONR := Lib.hid (HON.out.below hBr)
        clear hops hpz hBr hrd hms hnb
        go_wp2
        go_ret3
        exact HX.out _ _ _ _ _ _ _ HBR.out rfl HOPS.out HONR.out HPZ.out
  · have HX : Hid (∀ e, e = .returned (.tuple #[.slice none 0 0, .slice none 0 0, .int .i64 (jE size rs)]) → PP w size rs e w1) := fun e he => ⟨hB, .inr ⟨hj, he⟩⟩
    obtain ⟨er, her⟩ : ∃ er, er = jE size rs := ⟨_, rfl⟩
    rw [← her] at hj HX ⊢
    have dq : (er != 0) = true := by simp [hj]
    clear her hj hB HJ
    go_wp2
    go_ret3
    exact HX.out _ rfl

end Go.Proofs.YtifbbikhjolnjaaDoor
