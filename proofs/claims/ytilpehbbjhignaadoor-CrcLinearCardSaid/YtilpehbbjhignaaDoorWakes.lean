/-
  What is tried at each statement's end; Heavy; Bytes.
-/
import Derived.Test.YtilpehbbjhignaaDoorSum
import Derived.Lib.SlBytesConst
import Derived.Lib.SmallJoins
namespace Go.Proofs.YtilpehbbjhignaaDoor
open Go.RowKit
set_option linter.unusedVariables false

/-- What Heavy tells. -/
def HeavyPost (w : World) (n : Nat) (ps : List Part) (e : Ending) (w' : World) : Prop :=
  ∃ b, e = .returned (.bool b) ∧ w = w' ∧ (b = false → n ≤ 20 ∧ ∀ r, (h : r < ps.length) → ps[r].l ≤ 300)
theorem heavy_any (ao : Option Addr) (n cap : Nat) (ps : List Part) (w : World) (hl : ps.length = n) (h : Ps w ao ps) :
    Calls Tryd.prog 8 #[.slice ao n cap] w (HeavyPost w n ps) := by
  by_cases h20 : 20 < n
  · go_enter Tryd.func8, Tryd.ntmps8
    go_wp2
    go_ret
    exact ⟨true, rfl, rfl, fun h => by cases h⟩
  · rcases h with rfl | ⟨b, o, rfl, hc⟩
    · obtain rfl : n = 0 := hl.symm
      go_enter Tryd.func8, Tryd.ntmps8
      go_wp2
      refine wp_loop_rounds 1 ?_
      rw [rounds_succ]
      go_wp2
      go_ret
      exact ⟨false, rfl, rfl, fun _ => ⟨by omega, fun r hr => by simp at hr⟩⟩
    · have HL := Lib.hid hl; have HC := Lib.hid hc
      clear hl hc
      go_enter Tryd.func8, Tryd.ntmps8
      go_wp2
      go_loop [3] (fun i => ∃ k : Nat, k ≤ n ∧ i = .int .i64 k ∧ ∀ r, (h : r < ps.length) → r < k → ps[r].l ≤ 300) (fun i => n - (intOf i).toNat)
      case atStart => exact ⟨0, Nat.zero_le _, rfl, fun r hr hk => by omega⟩
      case round =>
        obtain ⟨k, hk, rfl, hall⟩ := hrel
        have HA := Lib.hid hall
        clear hall
        by_cases hlt : k < n
        · obtain ⟨hcell, hok⟩ := HC.out k (by rw [HL.out]; exact hlt)
          have HP : Hid (ps[k]'(by rw [HL.out]; exact hlt) = ps[k]'(by rw [HL.out]; exact hlt)) := rfl
          have HS : Hid (∀ h : k < ps.length, (ps[k]'(by rw [HL.out]; exact hlt)).l ≤ 300 → ps[k].l ≤ 300) := fun _ h => h
          generalize ps[k]'(by rw [HL.out]; exact hlt) = p at hcell hok HS
          obtain ⟨pa, pl, pc, pz⟩ := p
          have hsm := hok.small
          simp only at hcell hsm
          unfold maxLen at hsm
          clear hok HP
          by_cases h3 : 300 < pl
          · go_wp2
            go_ret
            exact ⟨true, rfl, rfl, fun h => by cases h⟩
          · go_wp2
            go_round
            case rel => exact ⟨k + 1, by omega, by go_num, fun r hr hk1 => by
              by_cases e : r = k
              · subst e; exact HS.out hr (by show pl ≤ 300; omega)
              · exact HA.out r hr (by omega)⟩
            case measure => simp [intOf]; omega
        · obtain rfl : k = n := by omega
          go_wp2
          go_ret
          exact ⟨false, rfl, rfl, fun _ => ⟨by omega, fun r hr => HA.out r hr (by rw [← HL.out]; exact hr)⟩⟩

theorem sum_wakes : sumOf (flat [⟨none, 4, 4, [49, 50, 51, 52]⟩, ⟨none, 5, 5, [53, 54, 55, 56, 57]⟩]) = 3421780262#32 := by decide +kernel

/-- A row of bytes, just made. -/
theorem part_new (w : World) (zs : List Int) (t : Nat) (fr : Nat × Nat) (hz : Bts zs) (hm : zs.length ≤ maxLen) : Part.ok (w.alloc (.cells (zs.map (Value.int .u8)).toArray t fr)) ⟨some ⟨w.heap.size, 0, none⟩, zs.length, zs.length, zs⟩ :=
  ⟨.inr ⟨w.heap.size, 0, rfl, fun j hj => by rw [Nat.zero_add, World.cell?_alloc_mark]; simp only at hj; simp [List.getD, hj]⟩, rfl, hz, hm, fun h => by cases h⟩
def Part.v (p : Part) : Value := .slice p.a p.l p.c
/-- A row of parts, just made. -/
theorem ps_new (w : World) (ps : List Part) (t : Nat) (h : ∀ r, (h : r < ps.length) → ps[r].ok w) : Ps (w.alloc (.cells (ps.map Part.v).toArray t)) (some ⟨w.heap.size, 0, none⟩) ps :=
  .inr ⟨w.heap.size, 0, rfl, fun r hr => ⟨by rw [Nat.zero_add, World.cell?_alloc_mark]; simp [hr, Part.v], (h r hr).below ((Below.refl _ _).alloc (Nat.le_refl _) _)⟩⟩

/-- The sum of parts that were just set side by side. -/
theorem sum_new (w : World) (ps : List Part) (n g : Nat) (C : Array Value) (hC : C = (ps.map Part.v).toArray) (hn : ps.length = n) (hg : g = w.heap.size) (hm : n ≤ maxLen) (hT : Tab w) (h : ∀ p ∈ ps, p.ok w) :
    Calls Tryd.prog 11 #[.slice (some ⟨g, 0, none⟩) n n] (w.alloc (.cells C 25)) fun e w' => e = .returned (.int .u32 ((sumOf (flat ps)).toNat : Int)) ∧ w.alloc (.cells C 25) = w' := by
  subst hC; subst hg
  exact sum_any _ n n ps _ hn hm (hT.below ((Below.refl _ _).alloc (Nat.le_refl _) _)) (ps_new w ps 25 (fun r hr => h _ (List.getElem_mem hr)))

theorem sum_wake (w : World) (hT : Tab w) : Calls Tryd.prog 11 #[.slice (some ⟨w.heap.size + 1 + 1, 0, none⟩) 2 2]
    (((w.alloc (.cells #[.int .u8 49, .int .u8 50, .int .u8 51, .int .u8 52] 5 (4, 5))).alloc (.cells #[.int .u8 53, .int .u8 54, .int .u8 55, .int .u8 56, .int .u8 57] 5 (5, 6))).alloc (.cells #[.slice (some ⟨w.heap.size, 0, none⟩) 4 4, .slice (some ⟨w.heap.size + 1, 0, none⟩) 5 5] 25))
    fun e w' => e = .returned (.int .u32 3421780262) ∧ Below w.heap.size w w' := by
  have p1 := part_new w [49, 50, 51, 52] 5 (4, 5) (by intro j hj; match j, hj with | 0, _ => decide | 1, _ => decide | 2, _ => decide | 3, _ => decide) (by decide)
  have p2 := part_new (w.alloc (.cells #[.int .u8 49, .int .u8 50, .int .u8 51, .int .u8 52] 5 (4, 5))) [53, 54, 55, 56, 57] 5 (5, 6) (by intro j hj; match j, hj with | 0, _ => decide | 1, _ => decide | 2, _ => decide | 3, _ => decide | 4, _ => decide) (by decide)
  have hB1 : Below w.heap.size w (w.alloc (.cells #[.int .u8 49, .int .u8 50, .int .u8 51, .int .u8 52] 5 (4, 5))) := (Below.refl _ _).alloc (Nat.le_refl _) _
  have hs : (w.alloc (.cells #[.int .u8 49, .int .u8 50, .int .u8 51, .int .u8 52] 5 (4, 5))).heap.size = w.heap.size + 1 := World.size_alloc ..
  rw [hs] at p2
  change Part.ok (w.alloc (.cells #[.int .u8 49, .int .u8 50, .int .u8 51, .int .u8 52] 5 (4, 5))) _ at p1
  generalize w.alloc (.cells #[.int .u8 49, .int .u8 50, .int .u8 51, .int .u8 52] 5 (4, 5)) = W1 at *
  change Part.ok (W1.alloc (.cells #[.int .u8 53, .int .u8 54, .int .u8 55, .int .u8 56, .int .u8 57] 5 (5, 6))) _ at p2
  have hB2 : Below W1.heap.size W1 (W1.alloc (.cells #[.int .u8 53, .int .u8 54, .int .u8 55, .int .u8 56, .int .u8 57] 5 (5, 6))) := (Below.refl _ _).alloc (Nat.le_refl _) _
  have hs2 : (W1.alloc (.cells #[.int .u8 53, .int .u8 54, .int .u8 55, .int .u8 56, .int .u8 57] 5 (5, 6))).heap.size = W1.heap.size + 1 := World.size_alloc ..
  generalize W1.alloc (.cells #[.int .u8 53, .int .u8 54, .int .u8 55, .int .u8 56, .int .u8 57] 5 (5, 6)) = W2 at *
  have hB12 := hB1.trans (hB2.mono (by omega))
  refine (sum_new W2 [⟨some ⟨w.heap.size, 0, none⟩, 4, 4, [49, 50, 51, 52]⟩, ⟨some ⟨w.heap.size + 1, 0, none⟩, 5, 5, [53, 54, 55, 56, 57]⟩] 2 _ _ rfl rfl (by omega) (by decide) (hT.below hB12) (by
    intro p hp
    simp only [List.mem_cons, List.mem_nil_iff, or_false] at hp
    rcases hp with rfl | rfl
    · exact p1.below hB2
    · exact p2)).mono ?_
  rintro e w' ⟨rfl, rfl⟩
  refine ⟨?_, hB12.alloc (by omega) _⟩
  have e : sumOf (flat [⟨some ⟨w.heap.size, 0, none⟩, 4, 4, [49, 50, 51, 52]⟩, ⟨some ⟨w.heap.size + 1, 0, none⟩, 5, 5, [53, 54, 55, 56, 57]⟩]) = 3421780262#32 := sum_wakes
  rw [e]; rfl

theorem wakes_any (w : World) (hT : Tab w) : Calls Tryd.prog 17 #[] w fun e w' => e = .returned (.bool true) ∧ Below w.heap.size w w' := by
  have HS := Lib.hid (sum_wake w hT)
  have kc := fun (w : World) (C : Array Value) (n c : Nat) => Lib.run_convert_bytes_const (P := Tryd.prog) w 25 5 C n c Tryd.underlying25 Tryd.underlying5
  have kd := fun (C : Array Value) (n c : Nat) => Joins.run_convert_bytes_const_at (P := Tryd.prog) (w.alloc (.cells #[.int .u8 49, .int .u8 50, .int .u8 51, .int .u8 52] 5 (4, 5))) 25 5 C n c (w.heap.size + 1) (by simp) Tryd.underlying25 Tryd.underlying5
  clear hT
  go_enter Tryd.func17, Tryd.ntmps17
  go_wp2_with (go_at_call 11; refine HS.out.mono ?_; rintro e w1 ⟨rfl, hB1⟩; have HB := Lib.hid hB1; clear hB1)
  go_ret
  exact ⟨rfl, HB.out⟩

end Go.Proofs.YtilpehbbjhignaaDoor
