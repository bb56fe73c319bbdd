/-
  The contract of the library's comparison of bytes.
-/
import Derived.Test.YtifbbikhjolnjaaDoorApp
import Derived.Laws.BytesArg
import Derived.Laws.IdiomStrings
namespace Go.Proofs.YtifbbikhjolnjaaDoor
open Go.RowKit
set_option linter.unusedVariables false

/-- The letters of bytes. -/
def u8s (zs : List Int) : List UInt8 := zs.map fun c => UInt8.ofNat c.toNat
theorem u8s_inj : ∀ xs ys : List Int, Bts xs → Bts ys → u8s xs = u8s ys → xs = ys
  | [], [], _, _, _ => rfl
  | x :: xs, y :: ys, hx, hy, h => by
    obtain ⟨a0, a1, a2⟩ := bts_cons hx
    obtain ⟨b0, b1, b2⟩ := bts_cons hy
    simp only [u8s, List.map_cons, List.cons.injEq] at h
    have e := congrArg UInt8.toNat h.1
    simp at e
    have : x = y := by omega
    rw [this, u8s_inj xs ys a2 b2 h.2]
  | [], _ :: _, _, _, h => by simp [u8s] at h
  | _ :: _, [], _, _, h => by simp [u8s] at h
theorem conv_rd (w : World) (ao : Option Addr) (n cap : Nat) (zs : List Int) (hl : zs.length = n) (h : Rd w ao zs) (hz : Bts zs) : (convert 39 9 (.slice ao n cap)).run Tryd.prog w = .ok (.string ⟨(u8s zs).toArray⟩) w := by
  cases ao with
  | none =>
    have hz : zs = [] := by
      rcases h with h | ⟨b, o, h, _⟩
      · exact h
      · cases h
    subst hz
    exact run_convert_bytes_nil w 39 5 Tryd.underlying39 Tryd.underlying5 n cap 9 Tryd.underlying9
  | some ad =>
    have hll : (u8s zs).length = n := by simp [u8s, hl]
    have := run_convert_bytes_back (P := Tryd.prog) w 39 9 5 ad cap (u8s zs) Tryd.underlying39 Tryd.underlying5 Tryd.underlying9 (fun j hj => by
      rw [hll] at hj
      obtain ⟨b, o, ha, hc⟩ := h.at (by omega)
      cases ha
      rw [Addr.add_lit, hc j (by omega)]
      have hb := hz j (by omega)
      have e : (u8s zs)[j]'(by rw [hll]; exact hj) = UInt8.ofNat (zs.getD j 0).toNat := by simp [u8s, List.getD, show j < zs.length by omega]
      rw [e]
      simp only [UInt8.toNat_ofNat']
      congr 2
      omega)
    rwa [hll] at this
theorem equal_any (a b : Option Addr) (n m ca cb : Nat) (xs ys : List Int) (w : World) (hx : xs.length = n) (hy : ys.length = m) (h1 : Rd w a xs) (h2 : Rd w b ys) (hz1 : Bts xs) (hz2 : Bts ys) :
    Calls Tryd.prog 30 #[.slice a n ca, .slice b m cb] w fun e w' => e = .returned (.bool (decide (xs = ys))) ∧ w = w' := by
  have c1 := conv_rd w a n ca xs hx h1 hz1
  have c2 := conv_rd w b m cb ys hy h2 hz2
  obtain ⟨r, hr⟩ : ∃ r, r = decide (xs = ys) := ⟨_, rfl⟩
  rw [← hr]
  have he : (u8s xs == u8s ys) = r := by
    rw [hr, Bool.eq_iff_iff, beq_iff_eq, decide_eq_true_eq]
    exact ⟨u8s_inj xs ys hz1 hz2, fun h => by rw [h]⟩
  have HR := Lib.hid hr
  clear hr
  clear hx hy h1 h2 hz1 hz2
  go_enter Tryd.func30, Tryd.ntmps30
  go_wp2
  go_ret
  exact ⟨rfl, rfl⟩

end Go.Proofs.YtifbbikhjolnjaaDoor
