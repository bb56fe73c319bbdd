/-
  Aggregates: Pack.
-/
import Derived.Test.YtifbbikhjolnjaaDoorAg3
namespace Go.Proofs.YtifbbikhjolnjaaDoor
open Go.RowKit
set_option linter.unusedVariables false

/-- What Pack leaves. -/
def PP (w : World) (size : Int) (rs : List Rec) (e : Ending) (w' : World) : Prop :=
  Below w.heap.size w w' ∧
  ((jE size rs = 0 ∧ ∃ bo bc oo oc ps, e = .returned (.tuple #[.slice bo (nb (ag rs).length size.toNat) bc, .slice oo rs.length oc, .int .i64 0]) ∧ OPs w' w.heap.size bo (nb (ag rs).length size.toNat) bc ps ∧ On w' w.heap.size oo rs.length oc (offP rs rs.length) ∧ ps.map Part.z = chu size.toNat (ag rs) (nb (ag rs).length size.toNat) ∧ (ag rs).length ≤ 600000 ∧ Bts (ag rs) ∧ 32 ≤ size ∧ size ≤ 256 ∧ 1 ≤ rs.length ∧ rs.length ≤ 64) ∨
   (jE size rs ≠ 0 ∧ e = .returned (.tuple #[.slice none 0 0, .slice none 0 0, .int .i64 (jE size rs)])))
theorem OPs.low {w : World} {base b : Nat} {ko : Option Addr} {n kc : Nat} {ps : List Part} (h : OPs w base ko n kc ps) (hb : b ≤ base) : OPs w b ko n kc ps := by
  refine ⟨h.len, h.room, h.cm, ⟨h.row.1, ?_⟩, h.own⟩
  rcases h.row.2 with h2 | ⟨g, cap, cur, q1, q2, q3, q4⟩
  · exact .inl h2
  · exact .inr ⟨g, cap, cur, q1, Nat.le_trans hb q2, q3, q4⟩
theorem nb_eq {N s m : Nat} (hs : 0 < s) (h1 : N ≤ m * s) (h2 : m * s < N + s) : nb N s = m := by
  unfold nb
  refine Nat.div_eq_of_lt_le ?_ ?_
  · omega
  · rw [Nat.succ_mul]; omega

set_option maxRecDepth 100000 in
set_option maxHeartbeats 4000000 in
theorem pack_any (size : Int) (ao : Option Addr) (n cap : Nat) (rs : List Rec) (w : World) (hl : rs.length = n) (hm : n ≤ maxLen) (hT : Tab w) (h : Rs w ao rs) :
    Calls Tryd.prog 11 #[.int .i64 size, .slice ao n cap] w (PP w size rs) := by
  have HJ := Lib.hid (ajoin size ao n cap rs w hl hm hT h)
  clear hl hm hT h
  go_enter Tryd.func11, Tryd.ntmps11
  go_wp2_with (go_at_call 23; fail)
  refine HJ.out.mono ?_
  rintro e w1 ⟨hB, ⟨hj, g, cp, oo, oc, rfl, hg, hNc, hcm, hrd, hon, hlen, hbts, hs1, hs2, hn1, hn2⟩ | ⟨hj, rfl⟩⟩
  · obtain ⟨s, rfl⟩ := Int.eq_ofNat_of_zero_le (by omega : 0 ≤ size)
    have HX : Hid (∀ e w' bo bc ps oo oc, Below w1.heap.size w1 w' → e = .returned (.tuple #[.slice bo (nb (ag rs).length s) bc, .slice oo rs.length oc, .int .i64 0]) → OPs w' w.heap.size bo (nb (ag rs).length s) bc ps → On w' w.heap.size oo rs.length oc (offP rs rs.length) → ps.map Part.z = chu s (ag rs) (nb (ag rs).length s) → PP w (s : Int) rs e w') := fun e w' bo bc ps oo oc hb he ho hn hz =>
      ⟨hB.trans (hb.mono hB.size), .inl ⟨hj, bo, bc, oo, oc, ps, by rw [Int.toNat_natCast]; exact he, by rw [Int.toNat_natCast]; exact ho, hn, by rw [Int.toNat_natCast]; exact hz, hlen, hbts, hs1, hs2, hn1, hn2⟩⟩
    obtain ⟨zs, hzs⟩ : ∃ zs, zs = ag rs := ⟨_, rfl⟩
    rw [← hzs] at hrd hbts hNc hlen HX ⊢
    obtain ⟨N, hN⟩ : ∃ N, N = zs.length := ⟨_, rfl⟩
    rw [← hN] at hNc hlen HX ⊢
    have hs32 : 32 ≤ s := by omega
    have hs256 : s ≤ 256 := by omega
    have HRD := Lib.hid hrd; have HBT := Lib.hid hbts; have HON := Lib.hid hon; have HB := Lib.hid hB; have HNL := Lib.hid hN
    obtain ⟨nr, hnr⟩ : ∃ nr, nr = rs.length := ⟨_, rfl⟩
    rw [← hnr] at HON HX ⊢
    clear hj hzs hN hrd hbts hon hB HJ hg hs1 hs2 hn1 hn2 hnr
    unfold maxLen at hcm
    go_wp2
    go_loopw [4, 7] (fun v x wr => ∃ (m : Nat) (ps : List Part) (bo : Option Addr) (bc : Nat) (a : Option Addr) (l c : Nat), v = .slice bo m bc ∧ x = .slice a l c ∧ OPs wr w1.heap.size bo m bc ps ∧ ps.map Part.z = chu s zs m ∧ l = N - m * s ∧ (0 < l → a = some ⟨g, m * s, none⟩ ∧ l ≤ c ∧ c ≤ 9223372036854775807) ∧ m * s < N + s ∧ m ≤ N ∧ Below w1.heap.size w1 wr) (fun _ x _ => match x with | .slice _ l _ => l | _ => 0)
    case atStart => exact ⟨0, [], none, 0, some ⟨g, 0, none⟩, N, cp, rfl, rfl, OPs.nil _ _, rfl, by simp, fun _ => ⟨by simp, hNc, by omega⟩, by omega, Nat.zero_le _, Below.refl _ _⟩
    case round =>
      obtain ⟨m, ps, bo, bc, a, l, c, rfl, rfl, hops, hpz, hl, hlpos, hms, hmN, hBr⟩ := hrel
      have hrd := HRD.out.below hBr
      by_cases hl0 : 0 < l
      · obtain ⟨rfl, hlc, hc9⟩ := hlpos hl0
        have e1 : decide ((0 : Int) < (l : Int)) = true := decide_eq_true (by omega)
        have e1' : decide (0 < l) = true := decide_eq_true hl0
        obtain ⟨k, hk⟩ : ∃ k, k = min s l := ⟨_, rfl⟩
        have hmin : ∀ ats W, (Builtin.min_ ats 3 #[.int .i64 (s : Int), .int .i64 (l : Int)]).run Tryd.prog W = .ok (.int .i64 (k : Int)) W := fun ats W => by
          rw [run_min]
          have : min (s : Int) (l : Int) = (k : Int) := by omega
          rw [this]
        have hk1 : k ≤ l := by omega
        have hk2 : k ≤ s := by omega
        have hk0 : 0 < k := by omega
        have hkc : k ≤ c := by omega
        have i1 : (0 : Int) ≤ (k : Int) := by omega
        have i2 : (k : Int) ≤ (c : Int) := by omega
        have i3 : (k : Int) ≤ (l : Int) := by omega
        have i4 : (l : Int) ≤ (c : Int) := by omega
        have hck : ((zs.drop (m * s)).take s).length = k := by
          rw [List.length_take, List.length_drop, ← HNL.out]; omega
        have hcz : ((zs.drop (m * s)).take s) = (zs.drop (m * s)).take k := by
          by_cases hsl : s ≤ l
          · rw [show k = s by omega]
          · rw [List.take_of_length_le (by rw [List.length_drop, ← HNL.out]; omega), List.take_of_length_le (by rw [List.length_drop, ← HNL.out]; omega)]
        obtain ⟨zc, hzc⟩ : ∃ zc, zc = (zs.drop (m * s)).take s := ⟨_, rfl⟩
        have hrdc : Rd wr (some ⟨g, m * s, none⟩) zc := by
          rw [hzc, hcz]
          have := (hrd.drop (m * s)).take k
          rwa [Nat.zero_add] at this
        rw [← hzc] at hck
        have hcl := clone_some ⟨g, m * s, none⟩ k c zc wr hck (by omega) hrdc
        have hbz : Bts zc := by rw [hzc]; exact (HBT.out.drop _).take _
        have hchu : chu s zs (m + 1) = chu s zs m ++ [zc] := by rw [hzc]; exact chu_succ _ _ _
        have HCL := Lib.hid hcl; have HOPS := Lib.hid hops; have HPZ := Lib.hid hpz; have HBR := Lib.hid hBr; have HBZ := Lib.hid hbz; have HCHU := Lib.hid hchu; have HL := Lib.hid hl
        have hms2 : m * s < N := by omega
        have HMS := Lib.hid hms2
        have HKK := Lib.hid hk
        obtain ⟨M, hM⟩ : ∃ M, M = m * s := ⟨_, rfl⟩
        rw [← hM] at HCL ⊢
        have HM := Lib.hid hM
        clear hcl hops hpz hBr hrd hbz hchu hl hck hcz hrdc hzc hms hk hM hlpos hms2
        go_wp2_with (go_at_call 24; fail)
        refine HCL.out.mono ?_
        rintro e w5 ⟨kb, cb, rfl, how, hB5⟩
        have hb5 : Below w1.heap.size w1 w5 := HBR.out.trans (hB5.mono HBR.out.size)
        have hal : Below w5.heap.size w5 (w5.alloc (.cells #[.slice kb k cb] 39)) := (Below.refl _ _).alloc (Nat.le_refl _) _
        have hown : Own1 (w5.alloc (.cells #[.slice kb k cb] 39)) ⟨kb, k, cb, zc⟩ := (Own1.of_ow how HBZ.out).below hal
        have HOP := Lib.hid ((HOPS.out.below hB5).below hal); have HOWN := Lib.hid hown; have HB5 := Lib.hid (hb5.trans (hal.mono hb5.size))
        have HG5 : Hid ((w5.alloc (.cells #[.slice kb k cb] 39)).heap[w5.heap.size]? = some (.cells #[.slice kb k cb] 39 (0, 0))) := heap_alloc_new _ _
        have hm6 : m ≤ 1000000 := by omega
        clear hb5 hal hown how hB5 HCL HOPS HBR
        go_wp2_with (at_builtin; refine append_part rfl (.tmp 26) (.tmp 31) rfl w1.heap.size m bc w5.heap.size bo ps ⟨kb, k, cb, zc⟩ rfl HOP.out rfl HG5.out HOWN.out (by omega) HB5.out.size ?_; intro bo' bc' w6 ho6 hB6 hk6; have HO6 := Lib.hid ho6; have HB6 := Lib.hid (HB5.out.trans hB6); clear ho6 hB6 hk6)
        have hms3 : (m + 1) * s = m * s + s := Nat.succ_mul _ _
        have hMS := HMS.out; have hLL := HL.out; have hMM := HM.out
        have hkk : (s ≤ l ∧ k = s) ∨ (l < s ∧ k = l) := by
          have hKK := HKK.out
          rcases Nat.lt_or_ge l s with h | h
          · exact .inr ⟨h, by rw [hKK, Nat.min_eq_right (by omega)]⟩
          · exact .inl ⟨h, by rw [hKK, Nat.min_eq_left h]⟩
        clear hmin
        have hm1 : m ≤ m * s := Nat.le_mul_of_pos_right m (by omega)
        refine ⟨⟨m + 1, ps ++ [⟨kb, k, cb, zc⟩], bo', bc', _, _, _, rfl, rfl, HO6.out, ?_, ?_, fun h0 => ?_, ?_, ?_, HB6.out⟩, ?_⟩
        · rw [List.map_append, HPZ.out, HCHU.out]; rfl
        · rw [hms3]; clear hms3; rcases hkk with ⟨h1, h2⟩ | ⟨h1, h2⟩ <;> omega
        · rw [if_neg (by omega)]
          refine ⟨?_, by omega, by omega⟩
          rcases hkk with ⟨h1, h2⟩ | ⟨h1, h2⟩
          · rw [hms3, hMM, h2]
          · omega
        · rw [hms3]; omega
        · omega
        · show l - k < l
          omega
      · have e1 : decide ((0 : Int) < (l : Int)) = false := decide_eq_false (by omega)
        have e1' : decide (0 < l) = false := decide_eq_false hl0
        have hnb : nb N s = m := nb_eq (by omega) (by omega) hms
        rw [hnb] at HX
        have HOPS := Lib.hid (hops.low HB.out.size); have HPZ := Lib.hid hpz; have HBR := Lib.hid hBr; have HONR := Lib.hid (HON.out.below hBr)
        clear hops hpz hBr hrd hl hlpos hms hnb
        go_wp2
        go_ret3
        exact HX.out _ _ _ _ _ _ _ HBR.out rfl HOPS.out HONR.out HPZ.out
  · have HX : Hid (∀ e, e = .returned (.tuple #[.slice none 0 0, .slice none 0 0, .int .i64 (jE size rs)]) → PP w size rs e w1) := fun e he => ⟨hB, .inr ⟨hj, he⟩⟩
    obtain ⟨er, her⟩ : ∃ er, er = jE size rs := ⟨_, rfl⟩
    rw [← her] at hj HX ⊢
    have dq : (er != 0) = true := by simp [hj]
    clear her hj hB HJ
    go_wp2
    go_ret3
    exact HX.out _ rfl

end Go.Proofs.YtifbbikhjolnjaaDoor
