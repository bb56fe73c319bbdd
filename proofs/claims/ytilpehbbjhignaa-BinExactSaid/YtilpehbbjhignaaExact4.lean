/-
  The contracts of PutPart and of the page's PutPart, in one form.
-/
import Derived.Test.YtilpehbbjhignaaExact3
import Derived.Laws.AppendOwnNone
namespace Go.Proofs.Ytilpehbbjhignaa
open Go.RowKit
set_option linter.unusedVariables false

/-- What PutPart gives. -/
def partS (zs ps : List Int) : List Int × Int :=
  if 30000 < ps.length then ([], 2) else (zs ++ be ps.length 4 ++ ps, 0)

theorem putPart_r (ao : Option Addr) (len cap : Nat) (zs : List Int) (ap : Option Addr) (plen pcap : Nat) (ps : List Int) (w : World) (hl : zs.length = len) (hm : len ≤ 1000000) (hr : Rd w ao zs)
    (hpl : ps.length = plen) (hpm : plen ≤ 1000000) (hpr : Rd w ap ps) (hpn : ap = none → pcap = 0) :
    Calls Try.prog 16 #[.slice ao len cap, .slice ap plen pcap] w (R2 w (partS zs ps)) := by
  by_cases h : 30000 < plen
  · have e : partS zs ps = ([], 2) := by unfold partS; rw [if_pos (by omega)]
    rw [e]
    refine (putPart_long ao ap len cap plen pcap w h).mono ?_
    rintro e w' ⟨rfl, rfl⟩
    exact R2.nil _ _
  · have e : partS zs ps = (zs ++ be plen 4 ++ ps, 0) := by unfold partS; rw [if_neg (by omega), hpl]
    rw [e]
    refine (putPart_ok ao len cap zs ap plen pcap ps w hl (by omega) hr hpl (by omega) hpr hpn).mono ?_
    rintro e w' ⟨g, hg, rfl, hb, hB⟩
    have hll : (zs ++ be plen 4 ++ ps).length = len + 4 + plen := by rw [List.length_append, List.length_append, be_length, hl, hpl]
    exact ⟨len + 4 + plen, _, _, rfl, ⟨hll, Nat.le_refl _, by unfold maxLen; omega, owns_of_block hb hg (by unfold maxLen; omega) (by rw [List.length_map, hll])⟩, hB⟩

theorem rputPart_long (ao ap : Option Addr) (len cap plen pcap : Nat) (w : World) (h : 30000 < plen) :
    Calls Try.prog 17 #[.slice ao len cap, .slice ap plen pcap] w fun e w' => e = .returned (.tuple #[.slice none 0 0, .int .i64 2]) ∧ w = w' := by
  go_enter Try.func17, Try.ntmps17
  go_wp2
  go_ret2
  exact ⟨rfl, rfl⟩

theorem Ow.join {w : World} {base n k : Nat} {v : Value} {zs ps : List Int} (hl : zs.length = n) (hk : ps.length = k) (h : w.ownsRow base 5 1 v (n + k) (zs.map (Value.int .u8) ++ ps.map (Value.int .u8))) : ∃ ao cap, v = .slice ao (n + k) cap ∧ Ow w base ao (n + k) cap (zs ++ ps) :=
  Ow.of (by rw [List.length_append, hl, hk]) (by rw [List.map_append]; exact h)

theorem rputPart_ok (ao : Option Addr) (len cap : Nat) (zs : List Int) (ap : Option Addr) (plen pcap : Nat) (ps : List Int) (w : World) (hl : zs.length = len) (hm : len ≤ 1000000) (hr : Rd w ao zs) (hnn : ao = none → cap = 0)
    (hpl : ps.length = plen) (hpm : plen ≤ 30000) (hpr : Rd w ap ps) (hpn : ap = none → pcap = 0) :
    Calls Try.prog 17 #[.slice ao len cap, .slice ap plen pcap] w (R2 w (zs ++ be plen 4 ++ ps, 0)) := by
  obtain ⟨i0, hi, hz0, hz1, hz2⟩ := info_parts Try.info5
  have HC := Lib.hid (rput_ok ao len cap zs plen 4 w hl hm hr hnn (by omega) (by omega) (Nat.lt_of_le_of_lt hpm (by decide)))
  obtain ⟨bs, hbs⟩ : ∃ bs, bs = zs ++ be plen 4 := ⟨_, rfl⟩
  rw [← hbs] at HC ⊢
  have hbl : bs.length = len + 4 := by rw [hbs, List.length_append, be_length, hl]
  have HBL := Lib.hid hbl; have HPL := Lib.hid hpl; have HPR := Lib.hid hpr
  clear hbs hl hr hnn hpr hpl hbl
  rcases ap with _ | ad
  · obtain rfl := hpn rfl
    have hz : ps = [] := by
      rcases HPR.out with h | ⟨b, o, h, _⟩
      · exact h
      · cases h
    subst hz
    obtain rfl : plen = 0 := HPL.out.symm
    clear hpn
    go_enter Try.func17, Try.ntmps17
    go_wp2_with (first
      | (go_at_call 11; refine HC.out.mono ?_; rintro e w1 ⟨bn, ko, kc, rfl, how, hB1⟩; have HB1 := Lib.hid hB1; obtain rfl : bn = len + 4 := how.1.symm.trans HBL.out; have HO1 := Lib.hid how; clear how hB1)
      | (at_builtin; refine wpList_append_own_none rfl (.tmp 18) (.tmp 19) 22 rfl w.heap.size 5 i0 1 Try.underlying22 hi _ (len + 4) _ rfl HO1.out.2.2.2 rfl ?_))
    go_ret2
    exact ⟨len + 4, ko, kc, rfl, by simpa using HO1.out, HB1.out⟩
  · clear hpn
    go_enter Try.func17, Try.ntmps17
    go_wp2_with (first
      | (go_at_call 11; refine HC.out.mono ?_; rintro e w1 ⟨bn, ko, kc, rfl, how, hB1⟩; have HB1 := Lib.hid hB1; obtain rfl : bn = len + 4 := how.1.symm.trans HBL.out; have HO1 := Lib.hid how; clear how hB1)
      | (at_builtin; refine wpList_append_own _ rfl (.tmp 18) (.tmp 19) 22 rfl w.heap.size 5 i0 (.int .u8 0) 1 1 Try.underlying22 hi hz0 hz1 hz2 rfl (by decide) _ (len + 4) _ rfl HO1.out.2.2.2 ad plen pcap (ps.map (.int .u8)) rfl ?c0 ?c1 ?c2 ?c3 ?c4 ?c5 ?_))
    case c0 => simp [HPL.out]
    case c1 => exact (HPR.out.below HB1.out).cells _ rfl
    case c2 => exact ints_oneCell _ _
    case c3 => unfold maxLen; omega
    case c4 => omega
    case c5 => exact HB1.out.size
    intro v' w2 hown2 hgrow2 hnil
    have HB2 := Lib.hid (Below.grown HB1.out hgrow2 HB1.out.size (own_ge HO1.out.2.2.2))
    obtain ⟨ka, kb, hv, how⟩ := Ow.join HBL.out HPL.out hown2
    have HO2 := Lib.hid how
    subst hv
    clear how hown2 hgrow2 hnil
    go_wp2
    go_ret2
    exact ⟨_, ka, kb, rfl, HO2.out, HB2.out⟩

theorem rputPart_r (ao : Option Addr) (len cap : Nat) (zs : List Int) (ap : Option Addr) (plen pcap : Nat) (ps : List Int) (w : World) (hl : zs.length = len) (hm : len ≤ 1000000) (hr : Rd w ao zs) (hnn : ao = none → cap = 0)
    (hpl : ps.length = plen) (hpm : plen ≤ 1000000) (hpr : Rd w ap ps) (hpn : ap = none → pcap = 0) :
    Calls Try.prog 17 #[.slice ao len cap, .slice ap plen pcap] w (R2 w (partS zs ps)) := by
  by_cases h : 30000 < plen
  · have e : partS zs ps = ([], 2) := by unfold partS; rw [if_pos (by omega)]
    rw [e]
    refine (rputPart_long ao ap len cap plen pcap w h).mono ?_
    rintro e w' ⟨rfl, rfl⟩
    exact R2.nil _ _
  · have e : partS zs ps = (zs ++ be plen 4 ++ ps, 0) := by unfold partS; rw [if_neg (by omega), hpl]
    rw [e]
    exact rputPart_ok ao len cap zs ap plen pcap ps w hl hm hr hnn hpl (by omega) hpr hpn

end Go.Proofs.Ytilpehbbjhignaa
