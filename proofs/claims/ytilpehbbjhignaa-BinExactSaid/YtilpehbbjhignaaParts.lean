/-
  The contracts of PutPart and GetPart.
-/
import Derived.Test.YtilpehbbjhignaaPlain
import Derived.Test.YtilpehbbjhignaaBin
import Derived.Test.YtilpehbbjhignaaBinPut
import Derived.WalkKit
import Derived.WalkSpells
import Derived.WalkSmall
import Derived.Outline
import Derived.Lib.Hide
import Derived.Deep.QuietTactic
import Derived.BigQuiet
namespace Go.Proofs.Ytilpehbbjhignaa
open Go.RowKit
set_option linter.unusedVariables false


theorem put_rd (ao : Option Addr) (len cap : Nat) (zs : List Int) (n size : Nat) (w : World) (hl : zs.length = len) (hm : len ≤ 140737488351232) (hr : Rd w ao zs) (h1 : 1 ≤ size) (h2 : size ≤ 7) (hn : n < 256 ^ size) :
    Calls Try.prog 10 #[.slice ao len cap, .int .i64 n, .int .i64 size] w fun e w' => e = .returned (.tuple #[.slice (some ⟨w.heap.size, 0, none⟩) (len + size) (len + size), .int .i64 0]) ∧
      w'.heap[w.heap.size]? = some (.cells ((zs ++ be n size).map (Value.int .u8)).toArray 5 (0, 0)) ∧ Below w.heap.size w w' := by
  refine put_ok ao len cap zs n size w hl hm (fun j hj => ?_) h1 h2 hn
  obtain ⟨b, o, rfl, hc⟩ := hr.at (by omega)
  exact ⟨_, rfl, by rw [Addr.add_lit]; exact hc j (by omega)⟩

theorem get_rd (ao : Option Addr) (len cap : Nat) (zs : List Int) (at' size : Nat) (w : World) (hl : zs.length = len) (hlc : len ≤ cap) (hm : cap ≤ maxLen) (hr : Rd w ao zs) (hz : Bts zs) (h1 : 1 ≤ size) (h2 : size ≤ 7) (h5 : at' + size ≤ len) :
    Calls Try.prog 14 #[.slice ao len cap, .int .i64 at', .int .i64 size] w fun e w' => e = .returned (.tuple #[.int .i64 (num ((zs.drop at').take size)), .int .i64 (at' + size : Nat), .int .i64 0]) ∧ w = w' := by
  obtain ⟨b, o, rfl, hc⟩ := hr.at (by omega)
  exact get_ok b o len cap zs at' size w hl hlc hm (fun j hj => hc j (by omega)) hz h1 h2 h5

theorem get4 (ao : Option Addr) (len cap : Nat) (zs : List Int) (at' : Nat) (w : World) (hl : zs.length = len) (hlc : len ≤ cap) (hm : cap ≤ maxLen) (hr : Rd w ao zs) (hz : Bts zs) (h5 : at' + 4 ≤ len) :
    Calls Try.prog 14 #[.slice ao len cap, .int .i64 at', .int .i64 4] w fun e w' => e = .returned (.tuple #[.int .i64 (num ((zs.drop at').take 4)), .int .i64 (at' + 4 : Nat), .int .i64 0]) ∧ w = w' :=
  get_rd ao len cap zs at' 4 w hl hlc hm hr hz (by omega) (by omega) h5

theorem put4 (ao : Option Addr) (len cap : Nat) (zs : List Int) (n : Nat) (w : World) (hl : zs.length = len) (hm : len ≤ 140737488351232) (hr : Rd w ao zs) (hn : n ≤ 30000) :
    Calls Try.prog 10 #[.slice ao len cap, .int .i64 n, .int .i64 4] w fun e w' => e = .returned (.tuple #[.slice (some ⟨w.heap.size, 0, none⟩) (len + 4) (len + 4), .int .i64 0]) ∧
      w'.heap[w.heap.size]? = some (.cells ((zs ++ be n 4).map (Value.int .u8)).toArray 5 (0, 0)) ∧ Below w.heap.size w w' :=
  put_rd ao len cap zs n 4 w hl hm hr (by omega) (by omega) (Nat.lt_of_le_of_lt hn (by decide))

theorem putPart_long (ao ap : Option Addr) (len cap plen pcap : Nat) (w : World) (h : 30000 < plen) :
    Calls Try.prog 16 #[.slice ao len cap, .slice ap plen pcap] w fun e w' => e = .returned (.tuple #[.slice none 0 0, .int .i64 2]) ∧ w = w' := by
  go_enter Try.func16, Try.ntmps16
  go_wp2
  go_ret2
  exact ⟨rfl, rfl⟩

/-- What PutPart leaves. -/
def PutPost (w : World) (len plen : Nat) (zs ps : List Int) (e : Ending) (w' : World) : Prop :=
  ∃ g, w.heap.size ≤ g ∧ e = .returned (.tuple #[.slice (some ⟨g, 0, none⟩) (len + 4 + plen) (len + 4 + plen), .int .i64 0]) ∧
    w'.heap[g]? = some (.cells ((zs ++ be plen 4 ++ ps).map (Value.int .u8)).toArray 5 (0, 0)) ∧ Below w.heap.size w w'

theorem putPart_ok (ao : Option Addr) (len cap : Nat) (zs : List Int) (ap : Option Addr) (plen pcap : Nat) (ps : List Int) (w : World) (hl : zs.length = len) (hm : len ≤ 140737488000000) (hr : Rd w ao zs)
    (hpl : ps.length = plen) (hpm : plen ≤ 30000) (hpr : Rd w ap ps) (hpn : ap = none → pcap = 0) :
    Calls Try.prog 16 #[.slice ao len cap, .slice ap plen pcap] w (PutPost w len plen zs ps) := by
  obtain ⟨i0, hi, hz0, hz1, hz2⟩ := info_parts Try.info5
  have c4 := put4 ao len cap zs plen w hl (by omega) hr hpm
  have HPN := Lib.hid hpn; clear hpn
  have HR := Lib.hid hr; have HL := Lib.hid hl; have HPL := Lib.hid hpl; have HPR := Lib.hid hpr; have HC := Lib.hid c4
  clear hr hl hpl hpr c4
  go_enter Try.func16, Try.ntmps16
  go_wp2_with (first
    | (go_at_call 10; refine HC.out.mono ?_; rintro e w1 ⟨rfl, hb1, hB1⟩; have HB1 := Lib.hid hb1; clear hb1)
    | (at_make; refine wpList_make_own _ rfl (.const (.int .i64 0)) (.tmp 26) 22 rfl w1.heap.size 5 i0 (.int .u8 0) 1 Try.underlying22 hi hz0 hz1 .i64 .i64 _ (len + 4 + plen) rfl rfl (by omega) (by rw [hz2]; omega) (by unfold maxLen; omega) (Nat.le_refl _) ?_; intro w2 hown2 hgrow2)
    | (at_builtin; refine wpList_append_fits _ rfl (.tmp 28) (.tmp 29) 22 rfl w1.heap.size 5 i0 1 Try.underlying22 hi hz1 w1.heap.size 0 (len + 4 + plen) [] rfl hown2 ⟨w.heap.size, 0, none⟩ (len + 4) (len + 4) ((zs ++ be plen 4).map (.int .u8)) rfl ?p1 ?p2 ?p3 ?p4 ?_))
  case p1 => simp [HL.out, be_length]
  case p2 => exact ((Rd.block HB1.out).below (Below.grown (Below.refl _ _) hgrow2 (Nat.le_refl _) (fun k h => by cases h))).cells _ rfl
  case p3 => exact ints_oneCell _ _
  case p4 => omega
  intro w3 hown3 hgrow3
  rw [← List.map_append] at hown3
  have hB3 : Below w1.heap.size w1 w3 := Below.grown (Below.grown (Below.refl _ _) hgrow2 (Nat.le_refl _) (fun k h => by cases h)) hgrow3 (by have := hgrow2.size; omega) (fun k h => by cases h; exact Nat.le_refl _)
  have HR3 := Lib.hid ((HPR.out.below hB1).below hB3)
  have HB3 := Lib.hid hB3
  clear hB3 hown2 hgrow2 hgrow3
  go_wp2_with (at_builtin; refine wpList_append_fits_any _ rfl (.tmp 31) (.tmp 32) 22 rfl w1.heap.size 5 i0 1 Try.underlying22 hi hz1 w1.heap.size (len + 4) (len + 4 + plen) ((zs ++ be plen 4).map (.int .u8)) rfl hown3 ap plen pcap (ps.map (.int .u8)) rfl ?q1 ?q2 ?q3 ?q4 ?q5 ?_)
  case q1 => simp [HPL.out]
  case q2 =>
    intro h
    refine ⟨?_, HPN.out h⟩
    rw [← HPL.out]
    rcases HPR.out with h' | ⟨b, o, h', _⟩
    · rw [h']; rfl
    · rw [h] at h'; cases h'
  case q3 => exact HR3.out.cells
  case q4 => exact ints_oneCell _ _
  case q5 => omega
  intro w4 hown4 hgrow4
  rw [← List.map_append] at hown4
  have HB4 := Lib.hid (block_of_owns hown4)
  have HB5 := Lib.hid (hB1.trans ((Below.grown HB3.out hgrow4 HB3.out.size (fun k h => by cases h; exact Nat.le_refl _)).mono hB1.size))
  clear hown4 hgrow4 hown3
  go_wp2
  go_ret2
  exact ⟨_, hB1.size, rfl, by simpa using HB4.out, HB5.out⟩

theorem getPart_arg (ao : Option Addr) (len cap : Nat) (at' : Int) (w : World) (hl : len ≤ maxLen) (h : at' < 0 ∨ (len : Int) < at') :
    Calls Try.prog 18 #[.slice ao len cap, .int .i64 at'] w fun e w' => e = .returned (.tuple #[.slice none 0 0, .int .i64 0, .int .i64 1]) ∧ w = w' := by
  go_enter Try.func18, Try.ntmps18
  go_wp2_with (go_at_call 14; refine (get_arg ao len cap at' 4 _ hl (by omega)).mono ?_; rintro e w1 ⟨rfl, rfl⟩)
  go_ret3
  exact ⟨rfl, rfl⟩

theorem getPart_short (ao : Option Addr) (len cap : Nat) (at' : Int) (w : World) (hl : len ≤ maxLen) (h3 : 0 ≤ at') (h4 : at' ≤ len) (h5 : (len : Int) - at' < 4) :
    Calls Try.prog 18 #[.slice ao len cap, .int .i64 at'] w fun e w' => e = .returned (.tuple #[.slice none 0 0, .int .i64 0, .int .i64 3]) ∧ w = w' := by
  go_enter Try.func18, Try.ntmps18
  go_wp2_with (go_at_call 14; refine (get_short ao len cap at' 4 _ hl (by omega) (by omega) h3 h4 h5).mono ?_; rintro e w1 ⟨rfl, rfl⟩)
  go_ret3
  exact ⟨rfl, rfl⟩

theorem getPart_less (ao : Option Addr) (len cap : Nat) (zs : List Int) (at' : Nat) (w : World) (hl : zs.length = len) (hlc : len ≤ cap) (hm : cap ≤ maxLen) (hr : Rd w ao zs) (hz : Bts zs) (h5 : at' + 4 ≤ len)
    (n : Nat) (hn : n = num ((zs.drop at').take 4)) (h : 30000 < n ∨ len < at' + 4 + n) :
    Calls Try.prog 18 #[.slice ao len cap, .int .i64 at'] w fun e w' => e = .returned (.tuple #[.slice none 0 0, .int .i64 0, .int .i64 3]) ∧ w = w' := by
  have c := get4 ao len cap zs at' w hl hlc hm hr hz h5
  rw [← hn] at c
  have HC := Lib.hid c
  clear c hn hr hl
  unfold maxLen at hm
  by_cases hb : 30000 < n
  all_goals
    go_enter Try.func18, Try.ntmps18
    go_wp2_with (go_at_call 14; refine HC.out.mono ?_; rintro e w1 ⟨rfl, rfl⟩)
    go_ret3
    exact ⟨rfl, rfl⟩

theorem getPart_ok (ao : Option Addr) (len cap : Nat) (zs : List Int) (at' : Nat) (w : World) (hl : zs.length = len) (hlc : len ≤ cap) (hm : cap ≤ maxLen) (hr : Rd w ao zs) (hz : Bts zs) (h5 : at' + 4 ≤ len)
    (n : Nat) (hn : n = num ((zs.drop at').take 4)) (h1 : n ≤ 30000) (h2 : at' + 4 + n ≤ len) :
    Calls Try.prog 18 #[.slice ao len cap, .int .i64 at'] w fun e w' => e = .returned (.tuple #[.slice (some ⟨w.heap.size, 0, none⟩) n n, .int .i64 (at' + 4 + n : Nat), .int .i64 0]) ∧
      w'.heap[w.heap.size]? = some (.cells (((zs.drop (at' + 4)).take n).map (Value.int .u8)).toArray 5 (0, 0)) ∧ Below w.heap.size w w' := by
  obtain ⟨i0, hi, hz0, hz1, hz2⟩ := info_parts Try.info5
  have c := get4 ao len cap zs at' w hl hlc hm hr hz h5
  rw [← hn] at c
  have HC := Lib.hid c
  obtain ⟨b, o, rfl, hc⟩ := hr.at (by omega)
  obtain ⟨ys, hys⟩ : ∃ ys, ys = (zs.drop (at' + 4)).take n := ⟨_, rfl⟩
  rw [← hys]
  have hyl : ys.length = n := by rw [hys]; simp; omega
  have hyc : ∀ j u, (ys.map (Value.int .u8))[j]? = some u → w.cell? (Addr.add ⟨b, o + (at' + 4), none⟩ j) = some u := by
    intro j u hu
    obtain ⟨hj, hu⟩ := List.getElem?_eq_some_iff.1 hu
    simp [hyl] at hj
    rw [Addr.add_lit, Nat.add_assoc, hc _ (by omega), ← hu]
    simp [hys, List.getD, show at' + 4 + j < zs.length by omega]
  have HY := Lib.hid hyc; have HYL := Lib.hid hyl
  clear c hn hr hl hc hys hyc hyl hz
  unfold maxLen at hm
  by_cases hcap : cap = at' + 4
  · obtain rfl : n = 0 := by omega
    obtain rfl : cap = at' + 4 := hcap
    obtain rfl : ys = [] := List.eq_nil_of_length_eq_zero HYL.out
    go_enter Try.func18, Try.ntmps18
    go_wp2_with (first
      | (go_at_call 14; refine HC.out.mono ?_; rintro e w1 ⟨rfl, rfl⟩)
      | (at_make; refine wpList_make_full _ rfl (.tmp 29) (.tmp 29) 22 rfl w.heap.size 5 i0 (.int .u8 0) 1 Try.underlying22 hi hz0 hz1 .i64 .i64 _ _ 0 rfl rfl (by first | rfl | omega) (by first | rfl | omega) (by omega) (by unfold maxLen; omega) (Nat.le_refl _) ?_; intro w1 hown1 hgrow1; have hb1 := Lib.hid (made_block hown1); have hB1 := Below.grown (Below.refl _ _) hgrow1 (Nat.le_refl _) (fun k h => by cases h); clear hown1 hgrow1)
      | (with_reducible refine wpList_copy_nothing rfl (.tmp 31) (.tmp 37) 22 22 rfl 5 Try.underlying22 (by kernel_rfl) _ _ _ _ _ _ rfl rfl (by simp) ?_))
    have HG3 := Lib.hid hb1.out
    clear hb1
    go_ret3
    exact ⟨rfl, HG3.out, hB1⟩
  · go_enter Try.func18, Try.ntmps18
    go_wp2_with (first
      | (go_at_call 14; refine HC.out.mono ?_; rintro e w1 ⟨rfl, rfl⟩)
      | (at_make; refine wpList_make_full _ rfl (.tmp 29) (.tmp 29) 22 rfl w.heap.size 5 i0 (.int .u8 0) 1 Try.underlying22 hi hz0 hz1 .i64 .i64 _ _ n rfl rfl (by omega) (by omega) (by rw [hz2]; omega) (by unfold maxLen; omega) (Nat.le_refl _) ?_; intro w1 hown1 hgrow1; have hb1 := Lib.hid (made_block hown1); have hB1 := Below.grown (Below.refl _ _) hgrow1 (Nat.le_refl _) (fun k h => by cases h); clear hown1 hgrow1)
      | (with_reducible refine wpList_copy_splice rfl (.tmp 31) (.tmp 37) 22 22 rfl 5 Try.underlying22 (by kernel_rfl) _ _ _ _ _ _ rfl rfl w.heap.size 0 (zeros n) 5 hb1.out (ys.map (Value.int .u8)) ?h1 ?h2 ?h3 ?h4 w.heap.size w hB1 (Nat.le_refl _) ?_))
    case h1 => simp only [List.length_map, HYL.out]; rw [show at' + 4 + n - (at' + 4) = n by omega]; exact (Nat.min_self n).symm
    case h2 => 
      intro hp j a hja
      have := HY.out j (.int .u8 a) (by simp [hja])
      rw [Addr.add_lit] at this
      rw [hB1.cell (cell_lt this), this]
    case h3 => simp only [List.length_map, HYL.out, zeros, List.length_replicate]; omega
    case h4 => exact ints_oneCell _ _
    intro w2 HG2 hB2
    have HG3 := Lib.hid (splice_all (l := ys.map (Value.int .u8)) (by simp [HYL.out]) HG2.out)
    clear HG2 hb1 hB1
    go_wp2
    go_ret3
    exact ⟨rfl, HG3.out, hB2⟩

end Go.Proofs.Ytilpehbbjhignaa
