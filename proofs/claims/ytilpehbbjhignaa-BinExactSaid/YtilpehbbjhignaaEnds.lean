/-
  The walk of BinEnds.
-/
import Derived.Test.YtilpehbbjhignaaParts
import Derived.Test.YtilpehbbjhignaaPlain2
import Derived.Test.YtilpehbbjhignaaWakes
import Derived.WalkKit
import Derived.WalkSpells
import Derived.WalkSmall
import Derived.Outline
import Derived.Lib.Hide
namespace Go.Proofs.Ytilpehbbjhignaa
open Go.RowKit
set_option linter.unusedVariables false

/-- n noughts. -/
def nought (n : Nat) : List Int := List.replicate n 0
theorem nought_length (n : Nat) : (nought n).length = n := by simp [nought]
theorem zeros_nought (n : Nat) : zeros n = (nought n).map (Value.int .u8) := by simp [zeros, nought]
theorem Bts.nought (n : Nat) : Bts (nought n) := fun j hj => by
  rw [nought_length] at hj
  simp [Proofs.Ytilpehbbjhignaa.nought, List.getD, hj]

theorem head_num (n : Nat) (ps : List Int) (h : n < 256 ^ 4) : num (((be n 4 ++ ps).drop 0).take 4) = n := by
  rw [List.drop_zero, List.take_append_of_le_length (by rw [be_length]; exact Nat.le_refl _), List.take_of_length_le (by rw [be_length]; exact Nat.le_refl _)]
  exact num_be n 4 h

theorem uwrap_mod (a M : Int) (h : 0 < M) (hM : M ≤ 1000000000) : ∃ k : Nat, (k : Int) < M ∧ wrap64 ((IntKind.u64.wrap a).tmod M) = k := by
  have h0 : 0 ≤ IntKind.u64.wrap a := by rw [IntKind.wrap_u64]; omega
  refine ⟨((IntKind.u64.wrap a) % M).toNat, ?_, ?_⟩
  · have := Int.emod_lt_of_pos (IntKind.u64.wrap a) h; have := Int.emod_nonneg (IntKind.u64.wrap a) (by omega : M ≠ 0); omega
  · rw [Int.tmod_eq_emod_of_nonneg h0]
    have h1 := Int.emod_lt_of_pos (IntKind.u64.wrap a) h; have h2 := Int.emod_nonneg (IntKind.u64.wrap a) (by omega : M ≠ 0)
    generalize IntKind.u64.wrap a % M = r at *
    rw [IntWalk.wrap64_in _ ⟨by omega, by omega⟩]; omega

/-- What PutPart leaves of nothing and a part. -/
def PutNil (w : World) (plen : Nat) (ps : List Int) (e : Ending) (w' : World) : Prop :=
  ∃ g, w.heap.size ≤ g ∧ e = .returned (.tuple #[.slice (some ⟨g, 0, none⟩) (4 + plen) (4 + plen), .int .i64 0]) ∧
    w'.heap[g]? = some (.cells ((be plen 4 ++ ps).map (Value.int .u8)).toArray 5 (0, 0)) ∧ Below w.heap.size w w'
theorem putPart_nil (ap : Option Addr) (plen pcap : Nat) (ps : List Int) (w : World) (hpl : ps.length = plen) (hpm : plen ≤ 30000) (hpr : Rd w ap ps) (hpn : ap = none → pcap = 0) :
    Calls Try.prog 16 #[.slice none 0 0, .slice ap plen pcap] w (PutNil w plen ps) := by
  refine (putPart_ok none 0 0 [] ap plen pcap ps w rfl (by omega) (Rd.nil _ _) hpl hpm hpr hpn).mono ?_
  rintro e w' ⟨g, h1, rfl, h2, h3⟩
  exact ⟨g, h1, by rw [Nat.zero_add], by simpa using h2, h3⟩

/-- A part that is cut short cannot be got. -/
theorem getPart_cut (g plen k : Nat) (ps : List Int) (w : World) (hpl : ps.length = plen) (hpm : plen ≤ 30000) (hz : Bts ps) (hr : Rd w (some ⟨g, 0, none⟩) (be plen 4 ++ ps)) (hk : k < 4 + plen) :
    Calls Try.prog 18 #[.slice (some ⟨g, 0, none⟩) k (4 + plen), .int .i64 0] w fun e w' => e = .returned (.tuple #[.slice none 0 0, .int .i64 0, .int .i64 3]) ∧ w = w' := by
  by_cases h4 : k < 4
  · exact getPart_short (some ⟨g, 0, none⟩) k (4 + plen) 0 w (by unfold maxLen; omega) (by omega) (by omega) (by omega)
  · have hl : ((be plen 4 ++ ps).take k).length = k := by simp [be_length]; omega
    have hn : plen = num ((((be plen 4 ++ ps).take k).drop 0).take 4) := by
      rw [List.drop_zero, List.take_take, Nat.min_eq_left (by omega)]
      exact (head_num plen ps (by omega)).symm
    exact getPart_less (some ⟨g, 0, none⟩) k (4 + plen) ((be plen 4 ++ ps).take k) 0 w hl (by omega) (by unfold maxLen; omega) (hr.take k) (((Bts.be plen 4).append hz).take k) (by omega) plen hn (.inr (by omega))

/-- What PutPart left is got whole. -/
theorem getPart_full (g plen : Nat) (ps : List Int) (w : World) (hpl : ps.length = plen) (hpm : plen ≤ 30000) (hz : Bts ps) (hr : Rd w (some ⟨g, 0, none⟩) (be plen 4 ++ ps)) :
    Calls Try.prog 18 #[.slice (some ⟨g, 0, none⟩) (4 + plen) (4 + plen), .int .i64 0] w fun e w' => e = .returned (.tuple #[.slice (some ⟨w.heap.size, 0, none⟩) plen plen, .int .i64 (4 + plen : Nat), .int .i64 0]) ∧
      w'.heap[w.heap.size]? = some (.cells (ps.map (Value.int .u8)).toArray 5 (0, 0)) ∧ Below w.heap.size w w' := by
  have h := getPart_ok (some ⟨g, 0, none⟩) (4 + plen) (4 + plen) (be plen 4 ++ ps) 0 w (by simp [be_length, hpl]) (Nat.le_refl _) (by unfold maxLen; omega) hr ((Bts.be plen 4).append hz) (by omega) plen (head_num plen ps (by omega)).symm hpm (by omega)
  have e : ((be plen 4 ++ ps).drop (0 + 4)).take plen = ps := by
    rw [Nat.zero_add, List.drop_append, be_length, List.drop_of_length_le (by rw [be_length]; exact Nat.le_refl _)]
    simp [← hpl]
  rw [e, Nat.zero_add] at h
  exact h

theorem owns_of_block {w : World} {base e g n : Nat} {xs : List Value} (h : w.heap[g]? = some (.cells xs.toArray e (0, 0))) (hb : base ≤ g) (hm : n ≤ maxLen) (hn : xs.length = n) : w.ownsRow base e 1 (.slice (some ⟨g, 0, none⟩) n n) n xs :=
  ⟨by omega, .inr ⟨g, n, xs.toArray, rfl, hb, h, Nat.le_refl _, hm, by simp [hn], by simp [← hn]⟩⟩
theorem Rd.of_owns {w : World} {base e g n cap : Nat} {zs : List Int} (h : w.ownsRow base e 1 (.slice (some ⟨g, 0, none⟩) n cap) n (zs.map (Value.int .u8))) : Rd w (some ⟨g, 0, none⟩) zs := by
  refine .inr ⟨g, 0, rfl, fun j hj => ?_⟩
  have hl := h.1
  rw [List.length_map] at hl
  rw [Nat.zero_add, h.cellAt j (by omega)]
  simp [List.getD, hj]

theorem ends_out (a0 : Option Addr) (len0 cap0 : Nat) (a1 a2 : Int) (w : World) (h : 2000 < len0 ∨ a2 < 0 ∨ 1 < a2) :
    Calls Try.prog 5 #[.slice a0 len0 cap0, .int .i64 a1, .int .i64 a2] w fun e w' => e = .returned (.bool true) ∧ Below w.heap.size w w' := by
  go_enter Try.func5, Try.ntmps5
  go_wp2_with (first | (go_at_call 16; fail))
  all_goals first | (exfalso; omega) | (go_ret; exact ⟨rfl, Below.refl _ _⟩)

set_option maxRecDepth 100000 in
set_option maxHeartbeats 2000000 in
theorem ends_first (ap : Option Addr) (plen pcap : Nat) (ps : List Int) (a1 : Int) (over : Nat) (w : World) (hpl : ps.length = plen) (hpr : Rd w ap ps) (hz : Bts ps) (hpn : ap = none → pcap = 0) (h2 : plen ≤ 2000) (ho : over ≤ 0) :
    Calls Try.prog 5 #[.slice ap plen pcap, .int .i64 a1, .int .i64 over] w fun e w' => e = .returned (.bool true) ∧ Below w.heap.size w w' := by
  have d1 : decide (2000 < (plen : Int)) = false := by simp; omega
  have HP := Lib.hid (putPart_nil ap plen pcap ps w hpl (by omega) hpr hpn)
  obtain ⟨k, hk1, hk⟩ := uwrap_mod a1 (4 + plen) (by omega) (by omega)
  obtain ⟨i0, hi, hz0, hz1, hz2⟩ := info_parts Try.info5
  have hk2 : k ≤ 4 + plen := by omega
  have hk3 : k < 4 + plen := by omega
  have HZ := Lib.hid hz; have HPL := Lib.hid hpl
  have d2 : decide ((1 : Int) < over) = false := by simp; omega
  have d3 : decide ((0 : Int) < over) = false := by simp; omega
  clear hpl hpr hz hpn hk1
  go_enter Try.func5, Try.ntmps5
  go_wp2_with (first
    | (go_at_call 16; refine HP.out.mono ?_; rintro e w1 ⟨g, hg, rfl, hb1, hB1⟩; have HB1 := Lib.hid hb1; clear hb1)
    | (go_at_call 18; refine (getPart_cut g plen k ps w1 HPL.out (by omega) HZ.out (Rd.block HB1.out) hk3).mono ?_; rintro e w2 ⟨rfl, rfl⟩)
    | (at_make; refine wpList_make_full _ rfl (.tmp 64) (.tmp 64) 22 rfl w1.heap.size 5 i0 (.int .u8 0) 1 Try.underlying22 hi hz0 hz1 .i64 .i64 _ _ (30000 + over) rfl rfl (by omega) (by omega) (by rw [hz2]; omega) (by unfold maxLen; omega) (Nat.le_refl _) ?_; intro w3 hown3 hgrow3; clear HP))
  have hb3 := made_block hown3
  rw [zeros_nought] at hb3
  have hB3 := Below.grown (Below.refl _ _) hgrow3 (Nat.le_refl _) (fun k h => by cases h)
  have HB3 := Lib.hid hB3
  have HP4 := Lib.hid (putPart_nil (some ⟨w1.heap.size, 0, none⟩) (30000 + over) (30000 + over) (nought (30000 + over)) w3 (nought_length _) (by omega) (Rd.block hb3) (fun h => by cases h))
  clear hown3 hgrow3 hb3 hB3
  refine HP4.out.mono ?_
  rintro e w4 ⟨g4, hg4, rfl, hb4, hB4⟩
  have HG5 := Lib.hid (getPart_full g4 (30000 + over) (nought (30000 + over)) w4 (nought_length _) (by omega) (Bts.nought _) (Rd.block hb4))
  have HB4 := Lib.hid hB4
  clear hb4 HP4 hB4
  go_wp2_with (first
    | (go_at_call 18; refine HG5.out.mono ?_; rintro e w5 ⟨rfl, hb5, hB5⟩; have HB5 := Lib.hid hB5; clear hb5 hB5)
    | (go_at_call 20; refine (wakes_any _).mono ?_; rintro e w6 ⟨rfl, hB6⟩))
  go_ret
  have b1 := HB3.out.trans (HB4.out.mono HB3.out.size)
  have b2 := b1.trans (HB5.out.mono b1.size)
  have b3 := b2.trans (hB6.mono b2.size)
  exact ⟨rfl, hB1.trans (b3.mono hB1.size)⟩

set_option maxRecDepth 100000 in
set_option maxHeartbeats 2000000 in
theorem ends_over (ap : Option Addr) (plen pcap : Nat) (ps : List Int) (a1 : Int) (over : Nat) (w : World) (hpl : ps.length = plen) (hpr : Rd w ap ps) (hz : Bts ps) (hpn : ap = none → pcap = 0) (h2 : plen ≤ 2000) (ho : over ≤ 1) (ho' : 1 ≤ over) :
    Calls Try.prog 5 #[.slice ap plen pcap, .int .i64 a1, .int .i64 over] w fun e w' => e = .returned (.bool true) ∧ Below w.heap.size w w' := by
  have d1 : decide (2000 < (plen : Int)) = false := by simp; omega
  have HP := Lib.hid (putPart_nil ap plen pcap ps w hpl (by omega) hpr hpn)
  obtain ⟨k, hk1, hk⟩ := uwrap_mod a1 (4 + plen) (by omega) (by omega)
  obtain ⟨i0, hi, hz0, hz1, hz2⟩ := info_parts Try.info5
  have hk2 : k ≤ 4 + plen := by omega
  have hk3 : k < 4 + plen := by omega
  have HZ := Lib.hid hz; have HPL := Lib.hid hpl
  have d2 : decide ((1 : Int) < over) = false := by simp; omega
  have d3 : decide ((0 : Int) < over) = true := by simp; omega
  clear hpl hpr hz hpn hk1
  go_enter Try.func5, Try.ntmps5
  go_wp2_with (first
    | (go_at_call 16; refine HP.out.mono ?_; rintro e w1 ⟨g, hg, rfl, hb1, hB1⟩; have HB1 := Lib.hid hb1; clear hb1)
    | (go_at_call 18; refine (getPart_cut g plen k ps w1 HPL.out (by omega) HZ.out (Rd.block HB1.out) hk3).mono ?_; rintro e w2 ⟨rfl, rfl⟩)
    | (at_make; refine wpList_make_full _ rfl (.tmp 64) (.tmp 64) 22 rfl w1.heap.size 5 i0 (.int .u8 0) 1 Try.underlying22 hi hz0 hz1 .i64 .i64 _ _ (30000 + over) rfl rfl (by omega) (by omega) (by rw [hz2]; omega) (by unfold maxLen; omega) (Nat.le_refl _) ?_; intro w3 hown3 hgrow3; clear HP))
  have hb3 := made_block hown3
  rw [zeros_nought] at hb3
  have hB3 := Below.grown (Below.refl _ _) hgrow3 (Nat.le_refl _) (fun k h => by cases h)
  have HB3 := Lib.hid hB3
  have HR3 := Lib.hid (Rd.block hb3)
  clear hown3 hgrow3 hb3
  refine (putPart_long none (some ⟨w1.heap.size, 0, none⟩) 0 0 (30000 + over) (30000 + over) w3 (by omega)).mono ?_
  rintro e w4 ⟨rfl, rfl⟩
  have HP5 := Lib.hid (put_rd none 0 0 [] (30000 + over) 4 w3 rfl (by omega) (Rd.nil _ _) (by omega) (by omega) (by omega))
  rw [List.nil_append, Nat.zero_add] at HP5
  go_wp2_with (first
    | (go_at_call 10; refine HP5.out.mono ?_; rintro e w5 ⟨rfl, hb5, hB5⟩; have HO5 := Lib.hid (owns_of_block (n := 4) hb5 (Nat.le_refl _) (by unfold maxLen; omega) (by simp [be_length])); have HB5 := Lib.hid hB5; have HR5 := Lib.hid (HR3.out.below hB5); clear hb5 hB5)
    | (at_builtin; refine wpList_append_own _ rfl (.tmp 87) (.tmp 88) 22 rfl w3.heap.size 5 i0 (.int .u8 0) 1 1 Try.underlying22 hi hz0 hz1 hz2 rfl (by decide) _ 4 _ rfl HO5.out ⟨w1.heap.size, 0, none⟩ (30000 + over) (30000 + over) ((nought (30000 + over)).map (.int .u8)) rfl ?c0 ?c1 ?c2 ?c3 ?c4 ?c5 ?_))
  case c0 => rw [List.length_map, nought_length]; omega
  case c1 => exact HR5.out.cells _ rfl
  case c2 => exact ints_oneCell _ _
  case c3 => unfold maxLen; omega
  case c4 => omega
  case c5 => exact HB5.out.size
  intro v' w6 hown6 hgrow6 hnil
  rw [← List.map_append] at hown6
  have HB6 := Lib.hid (Below.grown HB5.out hgrow6 HB5.out.size (fun k h => by cases h; exact Nat.le_refl _))
  have hv : ∃ g' cap', v' = .slice (some ⟨g', 0, none⟩) (4 + (30000 + over)) cap' ∧ 4 + (30000 + over) ≤ cap' ∧ cap' ≤ maxLen := by
    rcases hown6.2 with ⟨_, h⟩ | ⟨g', cap', cur, h, _, _, h1, h2, _⟩
    · omega
    · exact ⟨g', cap', h, h1, h2⟩
  obtain ⟨g', cap', hv, hc1, hc2⟩ := hv
  rw [hv] at hown6 ⊢
  have HR6 := Lib.hid (Rd.of_owns hown6)
  have HG7 := Lib.hid (getPart_less (some ⟨g', 0, none⟩) (4 + (30000 + over)) cap' (be (30000 + over) 4 ++ nought (30000 + over)) 0 w6 (by rw [List.length_append, be_length, nought_length]) hc1 hc2 HR6.out ((Bts.be _ 4).append (Bts.nought _)) (by omega) (30000 + over) (head_num _ _ (by omega)).symm (.inl (by omega)))
  clear hnil hv hown6 hgrow6 hc2 HO5
  go_wp2_with (first
    | (go_at_call 18; refine HG7.out.mono ?_; rintro e w7 ⟨rfl, rfl⟩)
    | (go_at_call 20; refine (wakes_any _).mono ?_; rintro e w8 ⟨rfl, hB8⟩))
  go_ret
  have b1 := HB3.out.trans (HB6.out.mono HB3.out.size)
  have b2 := b1.trans (hB8.mono b1.size)
  exact ⟨rfl, hB1.trans (b2.mono hB1.size)⟩

end Go.Proofs.Ytilpehbbjhignaa
