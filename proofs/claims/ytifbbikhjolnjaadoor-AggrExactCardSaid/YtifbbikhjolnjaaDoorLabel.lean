/-
  The contracts of label's Check and Bytes.
-/
import Derived.Test.YtifbbikhjolnjaaDoorEqual
namespace Go.Proofs.YtifbbikhjolnjaaDoor
open Go.RowKit
set_option linter.unusedVariables false

/-- Two results: bytes of the call's own, and no error. -/
def RB (w : World) (n : Nat) (zs : List Int) (e : Ending) (w' : World) : Prop :=
  ∃ ko kc, e = .returned (.tuple #[.slice ko n kc, .int .i64 0]) ∧ Ow w' w.heap.size ko n kc zs ∧ Below w.heap.size w w'
theorem put_n (ao : Option Addr) (len cap : Nat) (zs : List Int) (n : Int) (size : Nat) (w : World) (hl : zs.length = len) (hm : len ≤ 1000000) (hr : Rd w ao zs) (h1 : 1 ≤ size) (h2 : size ≤ 7) (h0 : 0 ≤ n) (hn : n.toNat < 256 ^ size) :
    Calls Tryd.prog 42 #[.slice ao len cap, .int .i64 n, .int .i64 size] w (RB w (len + size) (zs ++ be n.toNat size)) := by
  have h := put_r ao len cap zs n size w hl hm hr
  have e : putS zs n size = (zs ++ be n.toNat size, 0) := by
    unfold putS
    rw [if_neg (by simp only [Int.toNat_natCast]; omega)]
    simp
  rw [e] at h
  refine h.mono ?_
  rintro e w' ⟨m, ko, kc, rfl, ho, hB⟩
  have hm : m = len + size := by have := ho.1; simp only [List.length_append, be_length, hl] at this; omega
  subst hm
  exact ⟨ko, kc, rfl, ho, hB⟩
theorem Ow.base {w : World} {base base' : Nat} {ao : Option Addr} {n cap : Nat} {zs : List Int} (h : Ow w base ao n cap zs) (hb : base' ≤ base) : Ow w base' ao n cap zs := by
  obtain ⟨h1, h2, h3, h4, h5⟩ := h
  refine ⟨h1, h2, h3, h4, ?_⟩
  rcases h5 with h5 | ⟨g, c, cur, q1, q2, q3⟩
  · exact .inl h5
  · exact .inr ⟨g, c, cur, q1, by omega, q3⟩
theorem bts_be (n size : Nat) : Bts (be n size) := fun j hj => by
  rw [be_length] at hj
  rw [be_get n size j hj]; unfold digit; omega
theorem bts_app {a b : List Int} (ha : Bts a) (hb : Bts b) : Bts (a ++ b) := fun j hj => by
  simp only [List.getD] at *
  by_cases h : j < a.length
  · rw [List.getElem?_append_left h]; exact ha j h
  · rw [List.getElem?_append_right (by omega)]
    exact hb (j - a.length) (by simp at hj; omega)

end Go.Proofs.YtifbbikhjolnjaaDoor
