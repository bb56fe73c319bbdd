/-
  The contracts of what is written over; of the document's first chunk.
-/
import Derived.Test.YtcldfnnnjmhkjaaCut2
import Derived.Laws.Rows
namespace Go.Proofs.Ytcldfnnnjmhkjaa
open Go.RowKit
set_option linter.unusedVariables false

/-- n bytes, whatever they are, lie at block g's head. -/
def Bys (w : World) (g n : Nat) : Prop := ∃ cur : Array Value, w.heap[g]? = some (.cells cur 5 (0, 0)) ∧ ∀ j, j < n → ∃ x : Int, cur[j]? = some (.int .u8 x)
theorem Bys.cell {w : World} {g n j : Nat} (h : Bys w g n) (hj : j < n) : ∃ x : Int, w.cell? ⟨g, j, none⟩ = some (.int .u8 x) := by
  obtain ⟨cur, h1, h2⟩ := h
  obtain ⟨x, hx⟩ := h2 j hj
  exact ⟨x, by simp [World.cell?, h1, hx]⟩
theorem Bys.free {w : World} {g n j : Nat} (h : Bys w g n) : w.frozen? ⟨g, j, none⟩ = false := by
  obtain ⟨cur, h1, _⟩ := h
  simp [World.frozen?, h1]
theorem Bys.drew {w : World} {g n : Nat} (h : Bys w g n) : Bys w.drew g n := h
theorem Bys.set {w : World} {g n g' j : Nat} {x : Int} (h : Bys w g n) : Bys (w.setCell ⟨g', j, none⟩ (.int .u8 x)) g n := by
  obtain ⟨cur, h1, h2⟩ := h
  by_cases e : g' = g
  · subst e
    refine ⟨_, Joins.block_setCell (i := j) h1 _, fun i hi => ?_⟩
    obtain ⟨y, hy⟩ := h2 i hi
    have hlt : i < cur.size := (Array.getElem?_eq_some_iff.1 hy).1
    by_cases ei : j = i
    · subst ei; exact ⟨x, by simp [hlt]⟩
    · exact ⟨y, by rw [Array.getElem?_setIfInBounds_ne ei]; exact hy⟩
  · exact ⟨cur, by rw [heap_setCell_other w _ _ _ (by simpa using Ne.symm e), h1], h2⟩
/-- What is of another kind than bytes stays. -/
def Keep5 (w w' : World) : Prop := ∀ (b t : Nat) (cur : Array Value) (m : Nat × Nat), t ≠ 5 → w.heap[b]? = some (.cells cur t m) → w'.heap[b]? = some (.cells cur t m)
def Spoils (base : Nat) (w w' : World) : Prop := Below base w w' ∧ Keep5 w w' ∧ ∀ g n, Bys w g n → Bys w' g n
theorem Spoils.refl (base : Nat) (w : World) : Spoils base w w := ⟨Below.refl _ _, fun _ _ _ _ _ h => h, fun _ _ h => h⟩
theorem Spoils.trans {base : Nat} {a b c : World} (h1 : Spoils base a b) (h2 : Spoils base b c) : Spoils base a c :=
  ⟨h1.1.trans h2.1, fun b' t cur m ht h => h2.2.1 b' t cur m ht (h1.2.1 b' t cur m ht h), fun g n h => h2.2.2 g n (h1.2.2 g n h)⟩
theorem Spoils.step {base g j : Nat} {w w' : World} {x : Int} {n : Nat} (h : Spoils base w w') (hg : base ≤ g) (hb : Bys w' g n) : Spoils base w (w'.setCell ⟨g, j, none⟩ (.int .u8 x)) := by
  refine h.trans ⟨(Below.refl _ _).setCell hg _, fun b t cur m ht hb' => ?_, fun g' n' h' => h'.set⟩
  by_cases e : g = b
  · subst e
    obtain ⟨cur', h1, _⟩ := hb
    rw [h1] at hb'
    simp only [Option.some.injEq, Obj.cells.injEq] at hb'
    exact absurd hb'.2.1.symm ht
  · rw [heap_setCell_other w' _ _ _ (by simpa using Ne.symm e), hb']

theorem spoil_some (g base n kc : Nat) (w : World) (hm : n ≤ 1000000) (h : Bys w g n) (hg : base ≤ g) :
    Calls Try.prog 33 #[.slice (some ⟨g, 0, none⟩) n kc] w fun e w' => e = .returned (.tuple #[]) ∧ Spoils base w w' := by
  have H := Lib.hid h
  clear h
  go_enter Try.func33, Try.ntmps33
  go_wp2
  go_loopw [2] (fun i wr => ∃ k : Nat, k ≤ n ∧ i = .int .i64 k ∧ Spoils base w wr) (fun i _ => n - (intOf i).toNat)
  case atStart => exact ⟨0, Nat.zero_le _, rfl, Spoils.refl _ _⟩
  case round =>
    obtain ⟨k, hk, rfl, hS⟩ := hrel
    by_cases hlt : k < n
    · have hb := hS.2.2 g n H.out
      obtain ⟨y, hc⟩ := hb.cell hlt
      have hf := hb.free (j := k)
      have HS := Lib.hid hS; have HB := Lib.hid hb
      clear hS hb
      go_wp2
      go_roundw
      case rel => exact ⟨k + 1, by omega, by go_num, HS.out.step hg HB.out⟩
      case measure => simp [intOf]; omega
    · go_wp2
      go_end0
      exact ⟨rfl, hS⟩
theorem spoil_zero (ko : Option Addr) (kc base : Nat) (w : World) : Calls Try.prog 33 #[.slice ko 0 kc] w fun e w' => e = .returned (.tuple #[]) ∧ Spoils base w w' := by
  go_enter Try.func33, Try.ntmps33
  go_wp2
  refine wp_loop_rounds 1 ?_
  rw [rounds_succ]
  go_wp2
  go_end0
  exact ⟨rfl, Spoils.refl _ _⟩

/-- Parts that may be written over: each in a row of bytes of its own, from block base on. -/
def Mine (base : Nat) (w : World) (p : Part) : Prop := p.l ≤ 1000000 ∧ (p.l = 0 ∨ ∃ g, p.a = some ⟨g, 0, none⟩ ∧ base ≤ g ∧ Bys w g p.l)
theorem spoil_mine {base : Nat} {w : World} {p : Part} (h : Mine base w p) : Calls Try.prog 33 #[.slice p.a p.l p.c] w fun e w' => e = .returned (.tuple #[]) ∧ Spoils base w w' := by
  obtain ⟨hm, h | ⟨g, h1, h2, h3⟩⟩ := h
  · rw [h]; exact spoil_zero _ _ _ _
  · rw [h1]; exact spoil_some g base p.l p.c w hm h3 h2
theorem Mine.spoils {base : Nat} {w w' : World} {p : Part} (h : Mine base w p) (hs : Spoils base w w') : Mine base w' p := by
  obtain ⟨hm, h | ⟨g, h1, h2, h3⟩⟩ := h
  · exact ⟨hm, .inl h⟩
  · exact ⟨hm, .inr ⟨g, h1, h2, hs.2.2 _ _ h3⟩⟩

theorem spoilrows_any (ao : Option Addr) (n cap base : Nat) (ps : List Part) (w : World) (hl : ps.length = n) (hm : n ≤ 1000000)
    (hps : ps = [] ∨ ∃ g t cur m, t ≠ 5 ∧ ao = some ⟨g, 0, none⟩ ∧ w.heap[g]? = some (.cells cur t m) ∧ ∀ r, (h : r < ps.length) → cur[r]? = some ps[r].v) (hmine : ∀ p ∈ ps, Mine base w p) :
    Calls Try.prog 19 #[.slice ao n cap] w fun e w' => e = .returned (.tuple #[]) ∧ Spoils base w w' := by
  rcases hps with rfl | ⟨g, t, cur, m, ht, rfl, hg, hcur⟩
  · obtain rfl : n = 0 := hl.symm
    go_enter Try.func19, Try.ntmps19
    go_wp2
    refine wp_loop_rounds 1 ?_
    rw [rounds_succ]
    go_wp2
    go_end0
    exact ⟨rfl, Spoils.refl _ _⟩
  · have HL := Lib.hid hl; have HG := Lib.hid hg; have HCU := Lib.hid hcur; have HMI := Lib.hid hmine; have HTT := Lib.hid ht
    clear hl hg hcur hmine ht
    go_enter Try.func19, Try.ntmps19
    go_wp2
    go_loopw [2] (fun i wr => ∃ k : Nat, k ≤ n ∧ i = .int .i64 k ∧ Spoils base w wr) (fun i _ => n - (intOf i).toNat)
    case atStart => exact ⟨0, Nat.zero_le _, rfl, Spoils.refl _ _⟩
    case round =>
      obtain ⟨k, hk, rfl, hS⟩ := hrel
      by_cases hlt : k < n
      · have lk : k < ps.length := by rw [HL.out]; exact hlt
        have hm1 := (HMI.out ps[k] (List.getElem_mem lk)).spoils hS
        have hck := HCU.out k lk
        have hcell : wr.cell? ⟨g, k, none⟩ = some ps[k].v := by simp [World.cell?, hS.2.1 _ _ _ _ HTT.out HG.out, hck]
        generalize ps[k] = p at hm1 hcell
        have HSP := Lib.hid (spoil_mine hm1)
        obtain ⟨pa, pl, pc, pz⟩ := p
        simp only [Part.v] at hcell
        have HS := Lib.hid hS
        clear hm1 hck hS lk
        go_wp2_with (go_at_call 33; refine HSP.out.mono ?_; rintro e w2 ⟨rfl, hS2⟩; have HS2 := Lib.hid (HS.out.trans hS2); clear hS2)
        go_roundw
        case rel => exact ⟨k + 1, by omega, by go_num, HS2.out⟩
        case measure => simp [intOf]; omega
      · go_wp2
        go_end0
        exact ⟨rfl, hS⟩

set_option maxHeartbeats 2000000 in
theorem rnext_lit (b o len cap : Nat) (zs : List Int) (w : World) (hl : zs.length = len) (hm : len ≤ 1000000) (hr : ∀ j, j < len → w.cell? ⟨b, o + j, none⟩ = some (.int .u8 (zs.getD j 0))) (hz : Bts zs) :
    Calls Try.prog 18 #[.slice (some ⟨b, o, none⟩) len cap] w fun e w' => e = .returned (.int .i64 (nx zs)) ∧ w = w' := by
  have HR := Lib.hid hr; have HZ := Lib.hid hz; have HL := Lib.hid hl
  clear hr hz hl
  go_enter Try.func18, Try.ntmps18
  go_wp2
  go_loop [3, 4] (fun g i => ∃ k : Nat, k ≤ len ∧ i = .int .i64 k ∧ g = .int .u32 (rg (zs.take k)) ∧ ∀ j, j < k → stops zs (j + 1) = false) (fun _ i => len - (intOf i).toNat)
  case atStart => exact ⟨0, Nat.zero_le _, rfl, rfl, fun j hj => by omega⟩
  case round =>
    obtain ⟨k, hk, rfl, rfl, hno⟩ := hrel
    have HNO := Lib.hid hno
    have hx := rg_bd zs k
    clear hno
    by_cases hlt : k < len
    · have hcell := HR.out k hlt
      have hb := HZ.out k (by rw [HL.out]; exact hlt)
      have HRG := Lib.hid (rg_take zs k (by rw [HL.out]; exact hlt))
      generalize zs.getD k 0 = c at hcell hb HRG
      obtain ⟨x, hxx⟩ : ∃ x, x = rg (zs.take k) := ⟨_, rfl⟩
      rw [← hxx] at HRG hx ⊢
      have HXX := Lib.hid hxx
      clear hxx
      have hs : stops zs (k + 1) = (((k : Int) + 1 == 64) || (decide ((8 : Int) ≤ (k : Int) + 1) && ((x * 2 + (c + 1) * 2654435761) % 4294967296 / 268435456 == 0))) := by
        unfold stops
        rw [HRG.out]
        congr 1
        · rw [Bool.eq_iff_iff]; simp; omega
        · congr 1
          rw [Bool.eq_iff_iff]; simp; omega
      have HST := Lib.hid hs
      clear hs
      have hd : ∀ B : Bool, B = true ∨ B = false := by decide
      rcases hd (decide ((8 : Int) ≤ (k : Int) + 1)) with d2 | d2 <;> rcases hd ((x * 2 + (c + 1) * 2654435761) % 4294967296 / 268435456 == 0) with d3 | d3 <;> rcases hd ((k : Int) + 1 == 64) with d1 | d1
      all_goals
        have HS : Hid (stops zs (k + 1) = _) := HST.out
        rw [d1, d2, d3] at HS
        clear hd HST
        first
          | (have hst : stops zs (k + 1) = true := HS.out
             have HN := Lib.hid (nx_stop zs (k + 1) (by omega) (by rw [HL.out]; exact hlt) hst (fun j hj => HNO.out j (by omega)))
             clear hst
             go_wp2
             go_ret
             exact ⟨by rw [HN.out]; rfl, rfl⟩)
          | (have hst : stops zs (k + 1) = false := HS.out
             have HSF := Lib.hid hst
             clear hst
             go_wp2
             go_round
             case rel => exact ⟨k + 1, by omega, by go_num, by first | (rw [HRG.out]; done) | (rw [HRG.out]; go_num), fun j hj => by by_cases e : j = k; (rw [e]; exact HSF.out); exact HNO.out j (by omega)⟩
             case measure => simp [intOf]; omega)
    · go_wp2
      go_ret
      have : k = len := by omega
      subst this
      have e := nx_none zs (fun j hj => HNO.out j (by rw [HL.out] at hj; exact hj))
      rw [HL.out] at e
      exact ⟨by rw [e]; rfl, rfl⟩

theorem rnext_empty (ao : Option Addr) (cap : Nat) (w : World) : Calls Try.prog 18 #[.slice ao 0 cap] w fun e w' => e = .returned (.int .i64 0) ∧ w = w' := by
  go_enter Try.func18, Try.ntmps18
  go_wp2
  refine wp_loop_rounds 1 ?_
  rw [rounds_succ]
  go_wp2
  go_ret
  exact ⟨rfl, rfl⟩
theorem rnext_rd (ao : Option Addr) (len cap : Nat) (zs : List Int) (w : World) (hl : zs.length = len) (hm : len ≤ 1000000) (hr : Rd w ao zs) (hz : Bts zs) :
    Calls Try.prog 18 #[.slice ao len cap] w fun e w' => e = .returned (.int .i64 (nx zs)) ∧ w = w' := by
  by_cases h0 : 0 < len
  · obtain ⟨b, o, rfl, hc⟩ := hr.at (by omega)
    exact rnext_lit b o len cap zs w hl hm (fun j hj => hc j (by omega)) hz
  · obtain rfl : len = 0 := by omega
    obtain rfl := List.eq_nil_of_length_eq_zero hl
    exact rnext_empty ao cap w

end Go.Proofs.Ytcldfnnnjmhkjaa
