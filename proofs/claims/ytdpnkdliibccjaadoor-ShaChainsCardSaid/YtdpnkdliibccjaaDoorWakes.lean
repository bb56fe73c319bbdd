/-
  What is tried at each statement's end.
-/
import Derived.Test.YtdpnkdliibccjaaDoorSum
import Derived.Lib.SlBytesConst
import Derived.Lib.SmallJoins
namespace Go.Proofs.YtdpnkdliibccjaaDoor
open Go.RowKit
set_option linter.unusedVariables false

theorem Tab.congr {V W : World} (h : Tab W) (hc : ∀ a, V.cell? a = W.cell? a) : Tab V := ⟨fun k hk => by rw [hc]; exact h.1 k hk, fun k hk => by rw [hc]; exact h.2 k hk⟩
/-- The sum of parts that were just set side by side. -/
theorem sum_new (w : World) (ps : List Part) (n g : Nat) (C : Array Value) (m : List Int) (hC : C = (ps.map Part.v).toArray) (hn : ps.length = n) (hg : g = w.heap.size) (hm : n ≤ 1000) (hT : Tab w) (h : ∀ p ∈ ps, p.ok w) (hf : m = flat ps) (hN : m.length ≤ 100000000) :
    Calls Tryd.prog 10 #[.slice (some ⟨g, 0, none⟩) n n] (w.alloc (.cells C 28)) fun e w' => e = .returned (.agg (shaV m).toArray) ∧ Below w.heap.size w w' := by
  subst hC; subst hg; subst hf
  have hB : Below w.heap.size w (w.alloc (.cells (ps.map Part.v).toArray 28)) := (Below.refl _ _).alloc (Nat.le_refl _) _
  refine (sum_any _ n n ps _ hn (by omega) (hT.below hB) (ps_new w ps 28 (fun r hr => h _ (List.getElem_mem hr))) hN).mono ?_
  rintro e w' ⟨rfl, hB'⟩
  exact ⟨rfl, hB.trans (hB'.mono hB.size)⟩

theorem sha_abc : shaOf [97, 98, 99] = [186, 120, 22, 191, 143, 1, 207, 234, 65, 65, 64, 222, 93, 174, 34, 35, 176, 3, 97, 163, 150, 23, 122, 156, 180, 16, 255, 97, 242, 0, 21, 173] := by decide +kernel
theorem sum_wake (w : World) (hT : Tab w) : Calls Tryd.prog 10 #[.slice (some ⟨w.heap.size + 1 + 1, 0, none⟩) 2 2]
    (((w.alloc (.cells #[.int .u8 97] 5 (1, 2))).alloc (.cells #[.int .u8 98, .int .u8 99] 5 (2, 3))).alloc (.cells #[.slice (some ⟨w.heap.size, 0, none⟩) 1 1, .slice (some ⟨w.heap.size + 1, 0, none⟩) 2 2] 28))
    fun e w' => e = .returned (.agg (shaV [97, 98, 99]).toArray) ∧ Below w.heap.size w w' := by
  have p1 := part_new w [97] 5 (1, 2) (by intro j hj; match j, hj with | 0, _ => decide) (by decide)
  have p2 := part_new (w.alloc (.cells #[.int .u8 97] 5 (1, 2))) [98, 99] 5 (2, 3) (by intro j hj; match j, hj with | 0, _ => decide | 1, _ => decide) (by decide)
  have hB1 : Below w.heap.size w (w.alloc (.cells #[.int .u8 97] 5 (1, 2))) := (Below.refl _ _).alloc (Nat.le_refl _) _
  have hs : (w.alloc (.cells #[.int .u8 97] 5 (1, 2))).heap.size = w.heap.size + 1 := World.size_alloc ..
  rw [hs] at p2
  change Part.ok (w.alloc (.cells #[.int .u8 97] 5 (1, 2))) _ at p1
  generalize w.alloc (.cells #[.int .u8 97] 5 (1, 2)) = W1 at *
  change Part.ok (W1.alloc (.cells #[.int .u8 98, .int .u8 99] 5 (2, 3))) _ at p2
  have hB2 : Below W1.heap.size W1 (W1.alloc (.cells #[.int .u8 98, .int .u8 99] 5 (2, 3))) := (Below.refl _ _).alloc (Nat.le_refl _) _
  have hs2 : (W1.alloc (.cells #[.int .u8 98, .int .u8 99] 5 (2, 3))).heap.size = W1.heap.size + 1 := World.size_alloc ..
  generalize W1.alloc (.cells #[.int .u8 98, .int .u8 99] 5 (2, 3)) = W2 at *
  have hB12 := hB1.trans (hB2.mono (by omega))
  refine (sum_new W2 [⟨some ⟨w.heap.size, 0, none⟩, 1, 1, [97]⟩, ⟨some ⟨w.heap.size + 1, 0, none⟩, 2, 2, [98, 99]⟩] 2 _ _ [97, 98, 99] rfl rfl (by omega) (by decide) (hT.below hB12) (by
    intro p hp
    simp only [List.mem_cons, List.mem_nil_iff, or_false] at hp
    rcases hp with rfl | rfl
    · exact p1.below hB2
    · exact p2) rfl (by decide)).mono ?_
  rintro e w' ⟨rfl, hB'⟩
  exact ⟨rfl, hB12.trans (hB'.mono hB12.size)⟩

theorem wakes_any (w : World) (hT : Tab w) : Calls Tryd.prog 14 #[] w fun e w' => e = .returned (.bool true) ∧ Below w.heap.size w w' := by
  obtain ⟨SV, hSV⟩ : ∃ SV, SV = shaV [97, 98, 99] := ⟨_, rfl⟩
  have hs := sum_wake w hT
  rw [← hSV] at hs
  have hl : SV.length = 32 := by rw [hSV]; exact sha_len _
  have h1 : ∀ v ∈ SV, v.oneCell' = true := by rw [hSV]; exact sha_one _
  have g0 : SV.getD 0 undef = .int .u8 186 := by rw [hSV]; unfold shaV; rw [sha_abc]; rfl
  have g1 : SV.getD 1 undef = .int .u8 120 := by rw [hSV]; unfold shaV; rw [sha_abc]; rfl
  have g31 : SV.getD 31 undef = .int .u8 173 := by rw [hSV]; unfold shaV; rw [sha_abc]; rfl
  have HS := Lib.hid hs; have HL := Lib.hid hl; have H1 := Lib.hid h1; have G0 := Lib.hid g0; have G1 := Lib.hid g1; have G31 := Lib.hid g31
  have kc := fun (w : World) (C : Array Value) (n c : Nat) => Lib.run_convert_bytes_const (P := Tryd.prog) w 28 5 C n c Tryd.underlying28 Tryd.underlying5
  have kd := fun (C : Array Value) (n c : Nat) => Joins.run_convert_bytes_const_at (P := Tryd.prog) (w.alloc (.cells #[.int .u8 97] 5 (1, 2))) 28 5 C n c (w.heap.size + 1) (by simp) Tryd.underlying28 Tryd.underlying5
  clear hT hSV hs hl h1 g0 g1 g31
  go_enter Tryd.func14, Tryd.ntmps14
  go_wp2_with (first
    | (go_at_call 10; refine HS.out.mono ?_; rintro e w1 ⟨rfl, hB1⟩; have HB := Lib.hid hB1; clear hB1)
    | (refine store_blk rfl 25 (.tmp 1) (.tmp 7) rfl w1.heap.size (zeros 32) SV rfl rfl 25 (Blk.new w1 (zeros 32) 25) (by rw [HL.out]; exact info25) (by rw [HL.out]; rfl) H1.out ?_; intro w2 HB2 HO2; have c0 := (HB2.out.cell (j := 0) (by rw [HL.out]; omega)).trans (congrArg some G0.out); have c1 := (HB2.out.cell (j := 1) (by rw [HL.out]; omega)).trans (congrArg some G1.out); have c31 := (HB2.out.cell (j := 31) (by rw [HL.out]; omega)).trans (congrArg some G31.out)))
  go_ret
  exact ⟨rfl, (HB.out.alloc HB.out.size _).trans (HO2.out.below HB.out.size)⟩
end Go.Proofs.YtdpnkdliibccjaaDoor
