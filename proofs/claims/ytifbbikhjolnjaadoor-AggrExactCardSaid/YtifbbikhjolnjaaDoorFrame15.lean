/-
  Frames: the twin of a row of records.
-/
import Derived.Test.YtifbbikhjolnjaaDoorFrame12
namespace Go.Proofs.YtifbbikhjolnjaaDoor
open Go.RowKit
set_option linter.unusedVariables false

theorem Own1.set {w : World} {q : Part} (h : Own1 w q) (X i : Nat) (u : Value) (hne : ∀ g, q.a = some ⟨g, 0, none⟩ → g ≠ X) : Own1 (w.setCell ⟨X, i, none⟩ u) q := by
  rcases h.2 with h2 | ⟨g, cur, h2, h3⟩
  · have hz : q.z = [] := by
      rcases h.1.rd with h4 | ⟨b, o, h4, _⟩
      · exact h4
      · rw [h2] at h4; cases h4
    exact ⟨⟨.inl hz, h.1.len, h.1.bts, h.1.small, h.1.nil⟩, .inl h2⟩
  · have hb := set_far w X i g u (hne g h2)
    refine ⟨⟨?_, h.1.len, h.1.bts, h.1.small, h.1.nil⟩, .inr ⟨g, cur, h2, by rw [hb, h3]⟩⟩
    rcases h.1.rd with h4 | ⟨b, o, ha, hc⟩
    · exact .inl h4
    · rw [h2] at ha
      cases ha
      exact .inr ⟨g, 0, h2, fun j hj => by rw [← hc j hj]; exact World.cell?_of_block hb⟩
set_option maxHeartbeats 1000000 in
theorem twin_recs (ao : Option Addr) (n cap : Nat) (rs : List Rec) (w : World) (hl : rs.length = n) (hm : n ≤ 1000000000) (h : Rs w ao rs) (h4 : ∀ i, (hi : i < rs.length) → rs[i].d.l ≤ 1000000) :
    Calls Tryd.prog 9 #[.slice ao n cap] w fun e w' => ∃ rs' ko kc, e = .returned (.slice ko n kc) ∧ ORs w' w.heap.size ko n kc rs' ∧ rs'.map Rec.key = rs.map Rec.key ∧ Below w.heap.size w w' := by
  have HL := Lib.hid hl; have HR := Lib.hid h; have H4 := Lib.hid h4
  clear hl h h4
  go_enter Tryd.func9, Tryd.ntmps9
  go_wp2
  go_loopw [3, 4] (fun v i wr => ∃ (k : Nat) (ko : Option Addr) (kc : Nat) (rs' : List Rec), k ≤ n ∧ i = .int .i64 k ∧ v = .slice ko k kc ∧ ORs wr w.heap.size ko k kc rs' ∧ rs'.map Rec.key = (rs.take k).map Rec.key ∧ Below w.heap.size w wr) (fun _ i _ => n - (intOf i).toNat)
  case atStart => exact ⟨0, none, 0, [], Nat.zero_le _, rfl, rfl, ORs.nil _ _, rfl, Below.refl _ _⟩
  case round =>
    obtain ⟨k, ko, kc, rs', hk, rfl, rfl, hors, hkeys, hB⟩ := hrel
    have HB := Lib.hid hB; have HO := Lib.hid hors; have HK := Lib.hid hkeys
    by_cases hlt : k < n
    · have d1 : decide ((k : Int) < (n : Int)) = true := decide_eq_true (by omega)
      have hlt' : k < rs.length := by rw [HL.out]; exact hlt
      obtain ⟨b, o, rfl, hc⟩ : ∃ b o, ao = some ⟨b, o, none⟩ ∧ _ := by
        rcases HR.out.below hB with h | h
        · rw [h] at hlt'; exact absurd hlt' (Nat.not_lt_zero _)
        · exact h
      obtain ⟨c0, c1, c2, hd⟩ := hc k hlt'
      have hl4 := H4.out k hlt'
      obtain ⟨r, hr⟩ : ∃ r, r = rs[k] := ⟨_, rfl⟩
      rw [← hr] at c0 c1 c2 hd hl4
      have hkt : (rs.take (k + 1)).map Rec.key = (rs.take k).map Rec.key ++ [r.key] := by
        rw [List.take_succ_eq_append_getElem hlt', List.map_append, hr]; rfl
      obtain ⟨W1, hW1⟩ : ∃ W1, W1 = wr.alloc (.cells #[.int .i64 r.k, .int .i64 r.s, .slice r.d.a r.d.l r.d.c] 43) := ⟨_, rfl⟩
      have hBW : Below wr.heap.size wr W1 := by rw [hW1]; exact (Below.refl _ _).alloc (Nat.le_refl _) _
      have hbx : W1.heap[wr.heap.size]? = some (.cells #[.int .i64 r.k, .int .i64 r.s, .slice r.d.a r.d.l r.d.c] 43) := by rw [hW1]; exact heap_alloc_new _ _
      have htw := twin_any r.d.a r.d.l r.d.c r.d.z W1 hd.len hl4 (hd.below hBW).rd hd.nil
      have HTW := Lib.hid htw; have HKT := Lib.hid hkt; have HW1 := Lib.hid hW1; have HBW := Lib.hid hBW; have HBX := Lib.hid hbx; have HD := Lib.hid hd
      clear hB hors hkeys hc hr hkt hW1 hBW hbx htw hd
      go_wp2_with (go_at_call 22; fail)
      rw [← HW1.out]
      refine HTW.out.mono ?_
      rintro e w3 ⟨k3, c3, rfl, ho3, hB3⟩
      have hx3 : w3.heap[wr.heap.size]? = some (.cells [.int .i64 r.k, .int .i64 r.s, .slice r.d.a r.d.l r.d.c].toArray 43 (0, 0)) := by rw [hB3.block _ (Array.getElem?_eq_some_iff.1 HBX.out).1]; exact HBX.out
      have a0 : w3.cell? ⟨wr.heap.size, 0, none⟩ = some (.int .i64 r.k) := by simp [World.cell?, hx3]
      have a1 : w3.cell? ⟨wr.heap.size, 1, none⟩ = some (.int .i64 r.s) := by simp [World.cell?, hx3]
      have a2 : w3.cell? ⟨wr.heap.size, 2, none⟩ = some (.slice r.d.a r.d.l r.d.c) := by simp [World.cell?, hx3]
      have f0 : ∀ j, w3.frozen? ⟨wr.heap.size, j, none⟩ = false := fun j => by simp [World.frozen?, hx3]
      have hx4 := block_setCell (j := 2) hx3 (.slice k3 r.d.l c3)
      have e0 : (w3.setCell ⟨wr.heap.size, 2, none⟩ (.slice k3 r.d.l c3)).cell? ⟨wr.heap.size, 0, none⟩ = some (.int .i64 r.k) := by simp [World.cell?, hx4]
      have e1 : (w3.setCell ⟨wr.heap.size, 2, none⟩ (.slice k3 r.d.l c3)).cell? ⟨wr.heap.size, 1, none⟩ = some (.int .i64 r.s) := by simp [World.cell?, hx4]
      have e2 : (w3.setCell ⟨wr.heap.size, 2, none⟩ (.slice k3 r.d.l c3)).cell? ⟨wr.heap.size, 2, none⟩ = some (.slice k3 r.d.l c3) := by simp [World.cell?, hx4]
      have hB4 : Below wr.heap.size wr (w3.setCell ⟨wr.heap.size, 2, none⟩ (.slice k3 r.d.l c3)) := (HBW.out.trans (hB3.mono HBW.out.size)).setCell (Nat.le_refl _) _
      have hq4 : Own1 (w3.setCell ⟨wr.heap.size, 2, none⟩ (.slice k3 r.d.l c3)) ⟨k3, r.d.l, c3, r.d.z⟩ := (Own1.of_ow ho3 HD.out.bts).set _ _ _ fun g e => by
        have := own_ge ho3.2.2.2 g (by simp only at e; rw [e]; rfl)
        have := (Array.getElem?_eq_some_iff.1 HBX.out).1
        omega
      obtain ⟨W4, hW4⟩ : ∃ W4, W4 = w3.setCell ⟨wr.heap.size, 2, none⟩ (.slice k3 r.d.l c3) := ⟨_, rfl⟩
      have h45 : Below W4.heap.size W4 (W4.alloc (.cells #[.int .i64 r.k, .int .i64 r.s, .slice k3 r.d.l c3] 43)) := (Below.refl _ _).alloc (Nat.le_refl _) _
      have hg5 := heap_alloc_new W4 (.cells #[.int .i64 r.k, .int .i64 r.s, .slice k3 r.d.l c3] 43)
      rw [← hW4] at hB4 hq4
      have hsz : W4.heap.size = w3.heap.size := by rw [hW4]; simp
      rw [hsz] at hg5
      have HO5 := Lib.hid ((HO.out.below hB4).below h45); have HQ5 := Lib.hid (hq4.below h45); have HG5 := Lib.hid hg5
      have HB5 := Lib.hid (HB.out.trans ((hB4.trans (h45.mono hB4.size)).mono HB.out.size))
      clear hx3 hx4 hB3 ho3 hB4 hq4 h45 hg5 c0 c1 c2 hsz
      subst hW4
      go_wp2_with (at_builtin; refine append_rec rfl (.tmp 20) (.tmp 22) rfl w.heap.size k kc w3.heap.size ko rs' ⟨r.k, r.s, ⟨k3, r.d.l, c3, r.d.z⟩⟩ rfl HO5.out rfl HG5.out HQ5.out (by omega) HB5.out.size ?_; intro ko' kc' w5 ho5 hB6; have HO6 := Lib.hid ho5; have HB6 := Lib.hid (HB5.out.trans hB6); clear ho5 hB6)
      go_roundw
      case rel => exact ⟨k + 1, ko', kc', rs' ++ [⟨r.k, r.s, ⟨k3, r.d.l, c3, r.d.z⟩⟩], by omega, by go_num, rfl, HO6.out, by rw [HKT.out, List.map_append, HK.out]; rfl, HB6.out⟩
      case measure => simp [intOf]; omega
    · have d1 : decide ((k : Int) < (n : Int)) = false := decide_eq_false (by omega)
      obtain rfl : n = k := by omega
      rw [List.take_of_length_le (by rw [HL.out]; exact Nat.le_refl _)] at hkeys
      have HK2 := Lib.hid hkeys
      clear hB hors hkeys
      go_wp2
      go_ret
      exact ⟨rs', ko, kc, rfl, HO.out, HK2.out, HB.out⟩

end Go.Proofs.YtifbbikhjolnjaaDoor
