/-
  The contract of Flat.
-/
import Derived.Test.YtilpehbbjhignaaDoorTwin
import Derived.Laws.AppendOwnNone
namespace Go.Proofs.YtilpehbbjhignaaDoor
open Go.RowKit
set_option linter.unusedVariables false

theorem own_ge {w : World} {base e n : Nat} {v : Value} {xs : List Value} (h : w.ownsRow base e 1 v n xs) : ∀ k, v.ownBlock = some k → base ≤ k := by
  intro k hk
  rcases h.2 with ⟨h2, _⟩ | ⟨g, cap, cur, q1, q2, q3, q4⟩
  · subst h2; cases hk
  · subst q1; cases hk; exact q2
theorem flat_len (ps : List Part) (m : Nat) (h : ∀ r, (h : r < ps.length) → (ps[r].z).length ≤ m) : ∀ k, k ≤ ps.length → (flat (ps.take k)).length ≤ k * m
  | 0, _ => by simp [flat]
  | k + 1, hk => by
    have h1 := flat_len ps m h k (by omega)
    have h2 := h k (by omega)
    rw [flat_take ps k (by omega), List.length_append, Nat.add_mul, Nat.one_mul]; omega
theorem flat_bts (ps : List Part) (h : ∀ p ∈ ps, Bts p.z) : Bts (flat ps) := by
  induction ps with
  | nil => exact Bts.nil
  | cons p ps ih =>
    show Bts (p.z ++ flat ps)
    exact (h p (by simp)).append (ih (fun q hq => h q (by simp [hq])))
theorem Ps.mem {w : World} {ao : Option Addr} {ps : List Part} (h : Ps w ao ps) : ∀ p ∈ ps, p.ok w := by
  rcases h with rfl | ⟨b, o, _, hc⟩
  · intro p hp; cases hp
  · intro p hp
    obtain ⟨i, hi, rfl⟩ := List.mem_iff_getElem.1 hp
    exact (hc i hi).2

theorem flat_zero (ao : Option Addr) (cap : Nat) (w : World) : Calls Tryd.prog 10 #[.slice ao 0 cap] w fun e w' => e = .returned (.slice none 0 0) ∧ w = w' := by
  go_enter Tryd.func10, Tryd.ntmps10
  go_wp2
  refine wp_loop_rounds 1 ?_
  rw [rounds_succ]
  go_wp2
  go_ret
  exact ⟨rfl, rfl⟩

theorem flat_some (b o n cap : Nat) (ps : List Part) (w : World) (hl : ps.length = n) (hm : n ≤ 20) (hc : ∀ r, (h : r < ps.length) → w.cell? ⟨b, o + r, none⟩ = some (.slice ps[r].a ps[r].l ps[r].c) ∧ ps[r].ok w) (h3 : ∀ r, (h : r < ps.length) → ps[r].l ≤ 300) :
    Calls Tryd.prog 10 #[.slice (some ⟨b, o, none⟩) n cap] w (R1 w (flat ps).length (flat ps)) := by
  obtain ⟨i0, hi, hz0, hz1, hz2⟩ := info_parts Tryd.info5
  have HFL := Lib.hid (flat_len ps 300 (fun r hr => by rw [(hc r hr).2.len]; exact h3 r hr))
  have HL := Lib.hid hl; have HC := Lib.hid hc; have H3 := Lib.hid h3
  clear hl hc h3
  go_enter Tryd.func10, Tryd.ntmps10
  go_wp2
  go_loopw [3, 4] (fun v i wr => ∃ k : Nat, k ≤ n ∧ i = .int .i64 k ∧ wr.ownsRow w.heap.size 5 1 v (flat (ps.take k)).length ((flat (ps.take k)).map (Value.int .u8)) ∧ Below w.heap.size w wr) (fun _ i _ => n - (intOf i).toNat)
  case atStart => exact ⟨0, Nat.zero_le _, rfl, World.ownsRow_nil _ _ _ _, Below.refl _ _⟩
  case round =>
    obtain ⟨k, hk, rfl, hown, hB⟩ := hrel
    have HB := Lib.hid hB
    by_cases hlt : k < n
    · obtain ⟨hcell, hok⟩ := HC.out k (by rw [HL.out]; exact hlt)
      have HF := Lib.hid (flat_take ps k (by rw [HL.out]; exact hlt))
      have hfl := HFL.out k (by rw [HL.out]; omega)
      have hpl3 := H3.out k (by rw [HL.out]; exact hlt)
      generalize ps[k]'(by rw [HL.out]; exact hlt) = p at hcell hok HF hpl3
      obtain ⟨pa, pl, pc, pz⟩ := p
      have hok' := hok.below hB
      have hcell' : wr.cell? ⟨b, o + k, none⟩ = some (.slice pa pl pc) := by rw [hB.cell (cell_lt hcell)]; exact hcell
      simp only at hpl3
      obtain ⟨F, hF⟩ : ∃ F, F = flat (ps.take k) := ⟨_, rfl⟩
      rw [← hF] at HF hown hfl
      obtain ⟨f, hf⟩ : ∃ f, f = F.length := ⟨_, rfl⟩
      rw [← hf] at hown hfl
      have HFF := Lib.hid hf
      have HOK := Lib.hid hok'; have HOWN := Lib.hid hown
      clear hok hok' hcell hB hown hF hf
      cases pa with
      | none =>
        have hp0 := HOK.out.nil rfl
        have hpz : pz = [] := by
          rcases HOK.out.rd with h | ⟨_, _, h, _⟩
          · exact h
          · cases h
        simp only at hp0
        have hpl : pl = 0 := by have := HOK.out.len; simp only at this; rw [← this, hpz]; rfl
        subst hp0; subst hpz; subst hpl
        go_wp2_with (at_builtin; refine wpList_append_own_none rfl (.tmp 11) (.tmp 15) 25 rfl w.heap.size 5 i0 1 Tryd.underlying25 hi _ f _ rfl HOWN.out rfl ?_)
        go_roundw
        case rel => exact ⟨k + 1, by omega, by go_num, by rw [HF.out]; simp only [List.append_nil]; rw [← HFF.out]; exact HOWN.out, HB.out⟩
        case measure => simp [intOf]; omega
      | some ad =>
        have HCE := Lib.hid (HOK.out.rd.cells ad rfl)
        go_wp2_with (at_builtin; refine wpList_append_own _ rfl (.tmp 11) (.tmp 15) 25 rfl w.heap.size 5 i0 (.int .u8 0) 1 1 Tryd.underlying25 hi hz0 hz1 hz2 rfl (by decide) _ f _ rfl HOWN.out ad pl pc (pz.map (.int .u8)) rfl ?c0 HCE.out (ints_oneCell _ _) ?c3 ?c4 ?c5 ?_)
        case c0 => have := HOK.out.len; simp at this; simp [this]
        case c3 => unfold maxLen; omega
        case c4 => omega
        case c5 => exact HB.out.size
        intro v' w1 hown1 hgrow1 hnil
        have HB1 := Lib.hid (Below.grown HB.out hgrow1 HB.out.size (own_ge HOWN.out))
        have HO1 : Hid (w1.ownsRow w.heap.size 5 1 v' (flat (ps.take (k + 1))).length ((flat (ps.take (k + 1))).map (Value.int .u8))) := by
          show w1.ownsRow _ _ _ _ _ _
          have hl := HOK.out.len
          simp only at hl
          rw [HF.out, List.map_append, List.length_append, ← HFF.out, hl]; exact hown1
        clear hown1 hgrow1 hnil
        go_wp2
        go_roundw
        case rel => exact ⟨k + 1, by omega, by go_num, HO1.out, HB1.out⟩
        case measure => simp [intOf]; omega
    · obtain rfl : k = n := by omega
      have HO : Hid (w.ownsRow w.heap.size 5 1 (.slice none 0 0) 0 []) := World.ownsRow_nil _ _ _ _
      rw [List.take_of_length_le (by rw [HL.out]; exact Nat.le_refl _)] at hown
      obtain ⟨ko, kc, rfl, how⟩ := Ow.of rfl hown
      have HOW := Lib.hid how
      clear hown how hB
      go_wp2
      go_ret
      exact ⟨ko, kc, rfl, HOW.out, HB.out⟩

/-- FLAT: the parts, one behind the other, in a row of their own. -/
theorem flat_any (ao : Option Addr) (n cap : Nat) (ps : List Part) (w : World) (hl : ps.length = n) (hm : n ≤ 20) (h : Ps w ao ps) (h3 : ∀ r, (h : r < ps.length) → ps[r].l ≤ 300) :
    Calls Tryd.prog 10 #[.slice ao n cap] w (R1 w (flat ps).length (flat ps)) := by
  rcases h with rfl | ⟨b, o, rfl, hc⟩
  · obtain rfl : n = 0 := hl.symm
    refine (flat_zero ao cap w).mono ?_
    rintro e w' ⟨rfl, rfl⟩
    exact ⟨none, 0, rfl, ⟨rfl, Nat.le_refl _, Nat.zero_le _, World.ownsRow_nil _ _ _ _⟩, Below.refl _ _⟩
  · exact flat_some b o n cap ps w hl hm hc h3

end Go.Proofs.YtilpehbbjhignaaDoor
