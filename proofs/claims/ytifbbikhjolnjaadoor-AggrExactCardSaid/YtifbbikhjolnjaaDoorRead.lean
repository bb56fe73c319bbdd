/-
  The contract of label's Read; the comparison of labels; what is tried at each statement's end.
-/
import Derived.Test.YtifbbikhjolnjaaDoorLabel
namespace Go.Proofs.YtifbbikhjolnjaaDoor
open Go.RowKit
set_option linter.unusedVariables false

theorem get_of (ao : Option Addr) (len cap : Nat) (zs : List Int) (a s : Nat) (w : World) (hl : zs.length = len) (hlc : len ≤ cap) (hm : cap ≤ maxLen) (hr : Rd w ao zs) (hz : Bts zs) (h1 : 1 ≤ s) (h2 : s ≤ 7) (h3 : a + s ≤ len) (x : Int) (hx : x = ((num ((zs.drop a).take s) : Nat) : Int)) :
    Calls Tryd.prog 27 #[.slice ao len cap, .int .i64 a, .int .i64 s] w fun e w' => e = .returned (.tuple #[.int .i64 x, .int .i64 ((a : Int) + s), .int .i64 0]) ∧ w = w' := by
  have h := get_r ao len cap zs a s w hl hlc hm hr hz
  have e : getS zs a s = (x, (a : Int) + s, 0) := by
    unfold getS
    rw [if_neg (by omega), if_neg (by omega), hx]
    simp
  rw [e] at h
  exact h

end Go.Proofs.YtifbbikhjolnjaaDoor
