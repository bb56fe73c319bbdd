/-
  The walk of ShaAlone.
-/
import Derived.Test.YtdpnkdliibccjaaDoorAloneB
import Derived.Test.YtdpnkdliibccjaaDoorParts
namespace Go.Proofs.YtdpnkdliibccjaaDoor
open Go.RowKit
set_option linter.unusedVariables false

theorem sha_zero (m : List Int) : ∃ x : Int, (shaV m).getD 0 undef = .int .u8 x := by
  refine ⟨(shaOf m).getD 0 0, ?_⟩
  have := sha_blen m
  simp [shaV, List.getD, this]
theorem alone_out (a b : Option Addr) (la lb ca cb : Nat) (w : World) (h : 500 < la ∨ 500 < lb) :
    Calls Tryd.prog 6 #[.slice a la ca, .slice b lb cb] w fun e w' => e = .returned (.bool true) ∧ Below w.heap.size w w' := by
  by_cases h1 : 500 < la
  · have d1 : decide ((500 : Int) < (la : Int)) = true := decide_eq_true (by omega)
    have d1' : decide (500 < la) = true := decide_eq_true h1
    go_enter Tryd.func6, Tryd.ntmps6
    go_wp2
    go_ret
    exact ⟨rfl, Below.refl _ _⟩
  · have h2 : 500 < lb := by omega
    have d1 : decide ((500 : Int) < (la : Int)) = false := decide_eq_false (by omega)
    have d1' : decide (500 < la) = false := decide_eq_false h1
    have d2 : decide ((500 : Int) < (lb : Int)) = true := decide_eq_true (by omega)
    have d2' : decide (500 < lb) = true := decide_eq_true h2
    go_enter Tryd.func6, Tryd.ntmps6
    go_wp2
    go_ret
    exact ⟨rfl, Below.refl _ _⟩

set_option maxRecDepth 100000 in
set_option maxHeartbeats 2000000 in
theorem alone_in (a b : Option Addr) (la lb ca cb : Nat) (za zb : List Int) (w : World) (hT : Tab w) (hpa : Part.ok w ⟨a, la, ca, za⟩) (hpb : Part.ok w ⟨b, lb, cb, zb⟩) (h1 : la ≤ 500) (h2 : lb ≤ 500) :
    Calls Tryd.prog 6 #[.slice a la ca, .slice b lb cb] w fun e w' => e = .returned (.bool true) ∧ Below w.heap.size w w' := by
  have d1 : decide ((500 : Int) < (la : Int)) = false := decide_eq_false (by omega)
  have d1' : decide (500 < la) = false := decide_eq_false (by omega)
  have d2 : decide ((500 : Int) < (lb : Int)) = false := decide_eq_false (by omega)
  have d2' : decide (500 < lb) = false := decide_eq_false (by omega)
  have hla : za.length = la := hpa.len
  have hlb : zb.length = lb := hpb.len
  obtain ⟨SA, hSA⟩ : ∃ SA, SA = shaV za := ⟨_, rfl⟩
  obtain ⟨SB, hSB⟩ : ∃ SB, SB = shaV zb := ⟨_, rfl⟩
  have la32 : SA.length = 32 := by rw [hSA]; exact sha_len _
  have lb32 : SB.length = 32 := by rw [hSB]; exact sha_len _
  have a1 : ∀ v ∈ SA, v.oneCell' = true := by rw [hSA]; exact sha_one _
  have b1 : ∀ v ∈ SB, v.oneCell' = true := by rw [hSB]; exact sha_one _
  obtain ⟨x0, hx0⟩ := sha_zero za
  rw [← hSA] at hx0
  have hc1 : ∀ V, Below w.heap.size w V → Calls Tryd.prog 10 #[.slice (some ⟨V.heap.size, 0, none⟩) 1 1] (V.alloc (.cells #[.slice a la ca] 28)) fun e w' => e = .returned (.agg SA.toArray) ∧ Below V.heap.size V w' := fun V hV => by
    rw [hSA]
    exact sum_new V [⟨a, la, ca, za⟩] 1 _ _ za rfl rfl rfl (by decide) (hT.below hV) (by intro p hp; simp only [List.mem_cons, List.mem_nil_iff, or_false] at hp; rw [hp]; exact hpa.below hV) (by rw [flat1]) (by omega)
  have hc2 : ∀ V, Below w.heap.size w V → Calls Tryd.prog 10 #[.slice (some ⟨V.heap.size, 0, none⟩) 1 1] (V.alloc (.cells #[.slice b lb cb] 28)) fun e w' => e = .returned (.agg SB.toArray) ∧ Below V.heap.size V w' := fun V hV => by
    rw [hSB]
    exact sum_new V [⟨b, lb, cb, zb⟩] 1 _ _ zb rfl rfl rfl (by decide) (hT.below hV) (by intro p hp; simp only [List.mem_cons, List.mem_nil_iff, or_false] at hp; rw [hp]; exact hpb.below hV) (by rw [flat1]) (by omega)
  have HC1 := Lib.hid hc1; have HC2 := Lib.hid hc2; have HT := Lib.hid hT; have HPA := Lib.hid hpa; have HPB := Lib.hid hpb; have HSA := Lib.hid hSA; have HSB := Lib.hid hSB; have LA := Lib.hid la32; have LB := Lib.hid lb32; have A1 := Lib.hid a1; have B1 := Lib.hid b1; have HX0 := Lib.hid hx0; have HLA := Lib.hid hla; have HLB := Lib.hid hlb
  clear hc1 hc2 hT hpa hpb hSA hSB la32 lb32 a1 b1 hx0 hla hlb
  go_enter Tryd.func6, Tryd.ntmps6
  go_wp2_with (go_at_call 10; fail)
  refine (HC1.out w (Below.refl _ _)).mono ?_
  rintro e w1 ⟨rfl, hB1⟩
  have HB1 := Lib.hid hB1
  clear hB1
  go_wp2_with (first
    | (refine store_blk rfl 25 (.tmp 5) (.tmp 18) rfl w1.heap.size (zeros 32) SA rfl rfl 25 (Blk.new w1 (zeros 32) 25) (by rw [LA.out]; exact info25) (by rw [LA.out]; rfl) A1.out ?_; intro w2 HX2 HO2)
    | (go_at_call 10; fail))
  have HB2 : Hid (Below w.heap.size w w2) := (HB1.out.alloc HB1.out.size _).trans (HO2.out.below HB1.out.size)
  refine (HC2.out w2 HB2.out).mono ?_
  rintro e w3 ⟨rfl, hB3⟩
  have HB3 : Hid (Below w.heap.size w w3) := HB2.out.trans (hB3.mono HB2.out.size)
  have HX3 : Hid (Blk w3 w1.heap.size 25 SA) := HX2.out.below hB3
  have h13 : w1.heap.size < w3.heap.size := HX3.out.lt
  clear hB3
  go_wp2_with (first
    | (refine store_blk rfl 25 (.tmp 6) (.tmp 21) rfl w3.heap.size (zeros 32) SB rfl rfl 25 (Blk.new w3 (zeros 32) 25) (by rw [LB.out]; exact info25) (by rw [LB.out]; rfl) B1.out ?_; intro w4 HY4 HO4; have HX4 : Hid (Blk w4 w1.heap.size 25 SA) := (HX3.out.alloc _).other HO4.out (by omega))
    | (refine load_blk rfl 25 (.tmp 5) rfl w1.heap.size 0 SA SA rfl 25 HX4.out (by rw [List.drop_zero, List.take_length]) _ Tryd.underlying25 rfl (by rw [LA.out]; exact info25) ?_)
    | (refine store_blk rfl 25 (.tmp 7) (.tmp 22) rfl w4.heap.size (zeros 32) SA rfl rfl 25 (Blk.new w4 (zeros 32) 25) (by rw [LA.out]; exact info25) (by rw [LA.out]; rfl) A1.out ?_; intro w5 HZ5 HO5; have c0 := (HZ5.out.cell (j := 0) (by rw [LA.out]; omega)).trans (congrArg some HX0.out); have f0 := HZ5.out.free (j := 0)))
  have HB4 : Hid (Below w.heap.size w w4) := (HB3.out.alloc HB3.out.size _).trans (HO4.out.below HB3.out.size)
  have HB5 : Hid (Below w.heap.size w w5) := (HB4.out.alloc HB4.out.size _).trans (HO5.out.below HB4.out.size)
  have HX5 : Hid (Blk w5 w1.heap.size 25 SA) := (HX4.out.alloc _).other HO5.out (Nat.ne_of_lt HX4.out.lt)
  have HY5 : Hid (Blk w5 w3.heap.size 25 SB) := (HY4.out.alloc _).other HO5.out (Nat.ne_of_lt HY4.out.lt)
  have l14 := HX4.out.lt
  have l34 := HY4.out.lt
  have HX6 := fun u => Lib.hid (HX5.out.other ((Only.refl w4.heap.size w5).set 0 u) (Nat.ne_of_lt l14))
  have HY6 := fun u => Lib.hid (HY5.out.other ((Only.refl w4.heap.size w5).set 0 u) (Nat.ne_of_lt l34))
  have HB6 := fun u => Lib.hid (HB5.out.setCell (p := ⟨w4.heap.size, 0, none⟩) HB4.out.size u)
  clear HO2 HO4 HO5 HX2 HX3 HX4 HY4 HX5 HY5 HZ5 HB2 HB3 HB4 c0 f0 HC1 HC2
  generalize bits BinOp.xor IntKind.u8 x0 255 = x1
  replace HX6 := HX6 (.int .u8 x1)
  replace HY6 := HY6 (.int .u8 x1)
  replace HB6 := HB6 (.int .u8 x1)
  obtain ⟨w6, hw6⟩ : ∃ w6, w6 = w5.setCell ⟨w4.heap.size, 0, none⟩ (.int .u8 x1) := ⟨_, rfl⟩
  rw [← hw6] at HX6 HY6 HB6 ⊢
  clear hw6
  have hlk : shaOf za = shaOf zb → SA = SB := fun h => by
    rw [HSA.out, HSB.out]; unfold shaV; rw [h]
  have q1 : ∀ V, (binOp .eql 25 (.agg SA.toArray) (.agg SA.toArray)).run Tryd.prog V = .ok (.bool true) V := fun V => by
    have := eql_sum za za V
    rw [HSA.out]
    simpa using this
  have q2 : ∀ V, (Op.equalIn 10000 25 (.agg SA.toArray) (.agg SA.toArray)).run Tryd.prog V = .ok true V := fun V => by
    have := eqIn_sum za za V
    rw [HSA.out]
    simpa using this
  have q3 : ∀ V, (binOp .eql 25 (.agg SB.toArray) (.agg SB.toArray)).run Tryd.prog V = .ok (.bool true) V := fun V => by
    have := eql_sum zb zb V
    rw [HSB.out]
    simpa using this
  have q4 : ∀ V, (Op.equalIn 10000 25 (.agg SB.toArray) (.agg SB.toArray)).run Tryd.prog V = .ok true V := fun V => by
    have := eqIn_sum zb zb V
    rw [HSB.out]
    simpa using this
  by_cases hs : shaOf za = shaOf zb
  · have hK : ∀ f : Nat → Value, f 0 = Part.v ⟨a, la, ca, za⟩ → f 1 = Part.v ⟨b, lb, cb, zb⟩ → f 5 = .pointer (some ⟨w1.heap.size, 0, none⟩) → f 6 = .pointer (some ⟨w3.heap.size, 0, none⟩) →
        aaK f w6 SA SB ⟨a, la, ca, za⟩ ⟨b, lb, cb, zb⟩ w1.heap.size w3.heap.size := fun f g0 g1 g5 g6 =>
      ⟨HT.out.below HB6.out, g0, g1, g5, g6, HPA.out.below HB6.out, HPB.out.below HB6.out, HX6.out, HY6.out, LA.out, LB.out, HSA.out.symm,
        by rw [flat1]; exact HSA.out.symm, by rw [flat1]; exact HSB.out.symm, by show la ≤ _; omega, by rw [flat1]; show za.length ≤ _; rw [HLA.out]; omega,
        by rw [flat1]; show zb.length ≤ _; rw [HLB.out]; omega, q1, q2, q3, q4,
        (fun V => by have := eql_sum za zb V; rw [HSA.out, HSB.out]; simpa [hs] using this),
        (fun V => by have := eqIn_sum za zb V; rw [HSA.out, HSB.out]; simpa [hs] using this)⟩
    have HK := Lib.hid hK
    clear hK q1 q2 q3 q4 hs hlk
    refine aabegin rfl (HK.out _ rfl rfl rfl rfl) ?_
    intro v w7 hB7 h32
    have HB7 := Lib.hid (HB6.out.trans (hB7.mono HB6.out.size))
    have H32 := Lib.hid h32
    clear HK hB7 h32
    unfold aaF
    rw [H32.out]
    go_wp2
    go_ret
    exact ⟨rfl, HB7.out⟩
  · have hz : ¬ za = zb := fun h => hs (by rw [h])
    have hu : ∀ V, Below w6.heap.size w6 V → Calls Tryd.prog 15 #[.slice a la ca, .slice b lb cb] V fun e w' => e = .returned (.bool false) ∧ Below V.heap.size V w' := fun V hV => by
      have hB := HB6.out.trans (hV.mono HB6.out.size)
      have ha := HPA.out.below hB
      have hb := HPB.out.below hB
      refine (bytes_cmp a b la lb ca cb za zb V HLA.out HLB.out ha.small ha.rd hb.rd).mono ?_
      rintro e w' ⟨rfl, q, rfl⟩
      exact ⟨by rw [decide_eq_false hz], below_drewN' _ _ _⟩
    have hK : ∀ f : Nat → Value, f 0 = Part.v ⟨a, la, ca, za⟩ → f 1 = Part.v ⟨b, lb, cb, zb⟩ → f 5 = .pointer (some ⟨w1.heap.size, 0, none⟩) → f 6 = .pointer (some ⟨w3.heap.size, 0, none⟩) →
        abK f w6 SA SB ⟨a, la, ca, za⟩ ⟨b, lb, cb, zb⟩ w1.heap.size w3.heap.size := fun f g0 g1 g5 g6 =>
      ⟨HT.out.below HB6.out, g0, g1, g5, g6, HPA.out.below HB6.out, HPB.out.below HB6.out, HX6.out, HY6.out, LA.out, LB.out, HSA.out.symm,
        by rw [flat1]; exact HSA.out.symm, by rw [flat1]; exact HSB.out.symm, by show la ≤ _; omega, by rw [flat1]; show za.length ≤ _; rw [HLA.out]; omega,
        by rw [flat1]; show zb.length ≤ _; rw [HLB.out]; omega, q1, q2, q3, q4,
        (fun V => by have := eql_sum za zb V; rw [HSA.out, HSB.out]; simpa [hs] using this),
        (fun V => by have := eqIn_sum za zb V; rw [HSA.out, HSB.out]; simpa [hs] using this), hu⟩
    have HK := Lib.hid hK
    clear hK q1 q2 q3 q4 hs hlk hz hu
    refine abbegin rfl (HK.out _ rfl rfl rfl rfl) ?_
    intro v w7 hB7 h32
    have HB7 := Lib.hid (HB6.out.trans (hB7.mono HB6.out.size))
    have H32 := Lib.hid h32
    clear HK hB7 h32
    unfold abF
    rw [H32.out]
    go_wp2
    go_ret
    exact ⟨rfl, HB7.out⟩

theorem alone_any (a b : Option Addr) (la lb ca cb : Nat) (za zb : List Int) (w : World) (hT : Tab w) (hpa : Part.ok w ⟨a, la, ca, za⟩) (hpb : Part.ok w ⟨b, lb, cb, zb⟩) :
    Calls Tryd.prog 6 #[.slice a la ca, .slice b lb cb] w fun e w' => e = .returned (.bool true) ∧ Below w.heap.size w w' := by
  by_cases h : 500 < la ∨ 500 < lb
  · exact alone_out a b la lb ca cb w h
  · exact alone_in a b la lb ca cb za zb w hT hpa hpb (by omega) (by omega)
end Go.Proofs.YtdpnkdliibccjaaDoor
