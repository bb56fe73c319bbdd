/-
  Frames: the comparison of rows of records.
-/
import Derived.Test.YtifbbikhjolnjaaDoorFrame8
namespace Go.Proofs.YtifbbikhjolnjaaDoor
open Go.RowKit
set_option linter.unusedVariables false

/-- What a record says, wherever its data lie. -/
def Rec.key (r : Rec) : Int × Int × List Int := (r.k, r.s, r.d.z)
theorem key_take (rs rs' : List Rec) (k : Nat) (h : k < rs.length) (h' : k < rs'.length) (e : (rs.take k).map Rec.key = (rs'.take k).map Rec.key) (ek : rs[k].key = rs'[k].key) : (rs.take (k + 1)).map Rec.key = (rs'.take (k + 1)).map Rec.key := by
  rw [List.take_succ_eq_append_getElem h, List.take_succ_eq_append_getElem h', List.map_append, List.map_append, e]
  simp only [List.map_cons, List.map_nil, ek]
set_option maxHeartbeats 1000000 in
theorem keep_recs (ao bo : Option Addr) (n m ca cb : Nat) (rs rs' : List Rec) (w : World) (hl : rs.length = n) (hl' : rs'.length = m) (hm : n ≤ maxLen) (h : Rs w ao rs) (h' : Rs w bo rs') :
    Calls Tryd.prog 15 #[.slice ao n ca, .slice bo m cb] w fun e w' => e = .returned (.bool (decide (rs.map Rec.key = rs'.map Rec.key))) ∧ Below w.heap.size w w' := by
  unfold maxLen at hm
  by_cases hnm : n = m
  · subst hnm
    have hb1 : ((n : Int) != n) = false := by simp
    obtain ⟨q, hq⟩ : ∃ q, q = decide (rs.map Rec.key = rs'.map Rec.key) := ⟨_, rfl⟩
    rw [← hq]
    have HL := Lib.hid hl; have HL' := Lib.hid hl'; have HR := Lib.hid h; have HR' := Lib.hid h'; have HQ := Lib.hid hq
    clear hl hl' h h' hq
    go_enter Tryd.func15, Tryd.ntmps15
    go_wp2
    go_loopw [5] (fun i wr => ∃ k : Nat, k ≤ n ∧ i = .int .i64 k ∧ (rs.take k).map Rec.key = (rs'.take k).map Rec.key ∧ Below w.heap.size w wr) (fun i _ => n - (intOf i).toNat)
    case atStart => exact ⟨0, Nat.zero_le _, rfl, rfl, Below.refl _ _⟩
    case round =>
      obtain ⟨k, hk, rfl, hall, hB⟩ := hrel
      have HALL := Lib.hid hall; have HB := Lib.hid hB
      by_cases hlt : k < n
      · have d2 : decide ((k : Int) < (n : Int)) = true := decide_eq_true (by omega)
        have hlt1 : k < rs.length := by rw [HL.out]; exact hlt
        have hlt2 : k < rs'.length := by rw [HL'.out]; exact hlt
        obtain ⟨b, o, rfl, hc⟩ : ∃ b o, ao = some ⟨b, o, none⟩ ∧ _ := by
          rcases HR.out.below hB with h | h
          · rw [h] at hlt1; exact absurd hlt1 (Nat.not_lt_zero _)
          · exact h
        obtain ⟨b', o', rfl, hc'⟩ : ∃ b o, bo = some ⟨b, o, none⟩ ∧ _ := by
          rcases HR'.out.below hB with h | h
          · rw [h] at hlt2; exact absurd hlt2 (Nat.not_lt_zero _)
          · exact h
        obtain ⟨c0, c1, c2, hd⟩ := hc k hlt1
        obtain ⟨e0, e1, e2, hd'⟩ := hc' k hlt2
        have hkt := key_take rs rs' k hlt1 hlt2 hall
        have hne : rs[k].key ≠ rs'[k].key → q = false := fun hn => by
          rw [HQ.out]
          refine decide_eq_false fun e => hn ?_
          have h1 : (rs.map Rec.key)[k]? = (rs'.map Rec.key)[k]? := by rw [e]
          rw [List.getElem?_map, List.getElem?_map, List.getElem?_eq_getElem hlt1, List.getElem?_eq_getElem hlt2] at h1
          simpa using h1
        obtain ⟨r, hr⟩ : ∃ r, r = rs[k] := ⟨_, rfl⟩
        obtain ⟨r', hr'⟩ : ∃ r, r = rs'[k] := ⟨_, rfl⟩
        rw [← hr] at c0 c1 c2 hd hkt hne
        rw [← hr'] at e0 e1 e2 hd' hkt hne
        obtain ⟨t, ht⟩ : ∃ t, t = decide (r.k = r'.k ∧ r.s = r'.s ∧ r.d.z = r'.d.z) := ⟨_, rfl⟩
        have hkr : ∀ V, Below wr.heap.size wr V → Calls Tryd.prog 20 #[.agg #[.int .i64 r.k, .int .i64 r.s, .slice r.d.a r.d.l r.d.c], .agg #[.int .i64 r'.k, .int .i64 r'.s, .slice r'.d.a r'.d.l r'.d.c]] V fun e w' => e = .returned (.bool t) ∧ Below V.heap.size V w' := fun V hV => by
          have := keep_rec r r' V (hd.below hV) (hd'.below hV)
          rwa [← ht] at this
        have hcell : ∀ V, Below wr.heap.size wr V → V.cell? ⟨b, o + k * 3, none⟩ = some (.int .i64 r.k) ∧ V.cell? ⟨b, o + k * 3 + 1, none⟩ = some (.int .i64 r.s) ∧ V.cell? ⟨b, o + k * 3 + 2, none⟩ = some (.slice r.d.a r.d.l r.d.c) ∧ V.cell? ⟨b', o' + k * 3, none⟩ = some (.int .i64 r'.k) ∧ V.cell? ⟨b', o' + k * 3 + 1, none⟩ = some (.int .i64 r'.s) ∧ V.cell? ⟨b', o' + k * 3 + 2, none⟩ = some (.slice r'.d.a r'.d.l r'.d.c) := fun V hV =>
          ⟨by rw [hV.cell (cell_lt c0)]; exact c0, by rw [hV.cell (cell_lt c1)]; exact c1, by rw [hV.cell (cell_lt c2)]; exact c2, by rw [hV.cell (cell_lt e0)]; exact e0, by rw [hV.cell (cell_lt e1)]; exact e1, by rw [hV.cell (cell_lt e2)]; exact e2⟩
        have hkey : t = true → r.key = r'.key := fun e => by
          rw [ht] at e; obtain ⟨x1, x2, x3⟩ := of_decide_eq_true e; unfold Rec.key; rw [x1, x2, x3]
        have hkey' : t = false → r.key ≠ r'.key := fun e hk => by
          rw [ht] at e; refine of_decide_eq_false e ?_; unfold Rec.key at hk; simp only [Prod.mk.injEq] at hk; exact hk
        have HK := Lib.hid hkr; have HC := Lib.hid hcell; have HKEY := Lib.hid hkey; have HKEY' := Lib.hid hkey'; have HKT := Lib.hid hkt; have HNE := Lib.hid hne
        have i1 : (0 : Int) ≤ (k : Int) := by omega
        have i2 : (k : Int) < (n : Int) := by omega
        clear hall hB hc hc' hd hd' hr hr' ht hkr hcell hkey hkey' hkt hne c0 c1 c2 e0 e1 e2
        go_wp2
        go_region_held3 (fun V => V.cell? ⟨b, o + k * 3, none⟩ = some (.int .i64 r.k) ∧ V.cell? ⟨b, o + k * 3 + 1, none⟩ = some (.int .i64 r.s) ∧ V.cell? ⟨b, o + k * 3 + 2, none⟩ = some (.slice r.d.a r.d.l r.d.c) ∧ V.cell? ⟨b', o' + k * 3, none⟩ = some (.int .i64 r'.k) ∧ V.cell? ⟨b', o' + k * 3 + 1, none⟩ = some (.int .i64 r'.s) ∧ V.cell? ⟨b', o' + k * 3 + 2, none⟩ = some (.slice r'.d.a r'.d.l r'.d.c)) (first | exact HC.out _ (Below.refl _ _).drew | exact HC.out _ HB5.out) ((go_at_call 20; (with_reducible refine (HK.out _ (Below.refl _ _).drew).mono ?_); rintro e w5 ⟨rfl, hB5⟩; have HB5 : Hid (Below wr.heap.size wr w5) := (Below.refl _ _).drew.trans hB5; clear hB5))
        cases ht : t with
        | true =>
          have hk1 := HKEY.out ht
          have HK1 := Lib.hid hk1
          clear hk1
          subst ht
          go_wp2
          go_roundw
          case rel => exact ⟨k + 1, by omega, by go_num, HKT.out HK1.out, HB.out.trans (HB5.out.mono HB.out.size)⟩
          case measure => simp [intOf]; omega
        | false =>
          obtain rfl := HNE.out (HKEY'.out ht)
          subst ht
          go_wp2
          go_ret
          exact ⟨rfl, HB.out.trans (HB5.out.mono HB.out.size)⟩
      · have d2 : decide ((k : Int) < (n : Int)) = false := decide_eq_false (by omega)
        obtain rfl : n = k := by omega
        have hqt : q = true := by
          rw [HQ.out]
          refine decide_eq_true ?_
          rw [List.take_of_length_le (by rw [HL.out]; exact Nat.le_refl _), List.take_of_length_le (by rw [HL'.out]; exact Nat.le_refl _)] at hall
          exact hall
        subst hqt
        clear hall hB
        go_wp2
        go_ret
        exact ⟨rfl, HB.out⟩
  · have hb1 : ((n : Int) != m) = true := by simp; omega
    have hf : decide (rs.map Rec.key = rs'.map Rec.key) = false := decide_eq_false fun e => hnm (by have := congrArg List.length e; simp at this; omega)
    rw [hf]
    clear hf h h'
    go_enter Tryd.func15, Tryd.ntmps15
    go_wp2
    go_ret
    exact ⟨rfl, Below.refl _ _⟩

end Go.Proofs.YtifbbikhjolnjaaDoor
