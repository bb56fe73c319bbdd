/-
  Both disks in one memory.
-/
import Derived.Test.YtaajdaikfabchaaRq7
namespace Go.Proofs.Ytaajdaikfabchaa
open Go.RowKit
set_option linter.unusedVariables false

/-- Both disks. -/
structure EM (w0 w : World) (Bp g g2 gp2 gt : Nat) (X : Option Addr) (n : Nat) (D : DS) (R : RS) (P Q : PP) : Prop where
  sys : Sys w w w0.heap.size Bp g w0.heap.size n D P
  rys : Rys w w w0.heap.size Bp g2 gp2 gt X n R Q
  low : Below w0.heap.size w0 w
section
variable {w0 w w' : World} {Bp g g2 gp2 gt : Nat} {X : Option Addr} {n : Nat} {D D' : DS} {R R' : RS} {P P' Q Q' : PP}
theorem EM.stepA (h : EM w0 w Bp g g2 gp2 gt X n D R P Q) (hs : Sys w w' w0.heap.size Bp g w0.heap.size n D' P') : EM w0 w' Bp g g2 gp2 gt X n D' R P' Q :=
  ⟨hs.refl, h.rys.other hs.kt rfl rfl rfl rfl rfl rfl, h.low.trans hs.low⟩
theorem EM.stepR (h : EM w0 w Bp g g2 gp2 gt X n D R P Q) (hr : Rys w w' w0.heap.size Bp g2 gp2 gt X n R' Q') : EM w0 w' Bp g g2 gp2 gt X n D R' P Q' := by
  obtain ⟨⟨cs, hc⟩, hlt, _⟩ := h.rys.gt
  exact ⟨h.sys.otherR hr.kt hc hlt, hr.refl, h.low.trans hr.bel⟩
theorem EM.powA (h : EM w0 w Bp g g2 gp2 gt X n D R P Q) (hp : PwM w' Bp w0.heap.size P') (hB : Below w0.heap.size w w') (ho : POn w0.heap.size w w') : EM w0 w' Bp g g2 gp2 gt X n D R P' Q := h.stepA (h.sys.spend hp hB ho)
theorem EM.powR (h : EM w0 w Bp g g2 gp2 gt X n D R P Q) (hp : PqM w' Bp gp2 Q') (hB : Below gp2 w w') (ho : POn gp2 w w') : EM w0 w' Bp g g2 gp2 gt X n D R P Q' := h.stepR (h.rys.turn hp hB ho)
theorem EM.below (h : EM w0 w Bp g g2 gp2 gt X n D R P Q) (hB : Below w.heap.size w w') : EM w0 w' Bp g g2 gp2 gt X n D R P Q :=
  ⟨(h.sys.below hB).refl, (h.rys.below hB).refl, h.low.trans (hB.mono h.low.size)⟩
theorem EM.fresh (h : EM w0 w Bp g g2 gp2 gt X n D R P Q) {Y : Option Addr} (hY : ∀ b, Y = some ⟨b, 0, none⟩ → w.heap.size ≤ b) : EM w0 w Bp g g2 gp2 gt Y n D R P Q := ⟨h.sys, h.rys.fresh hY, h.low⟩
theorem EM.spo {base m kc : Nat} {zs : List Int} (h : EM w0 w Bp g g2 gp2 gt X n D R P Q) (ho : Ow w base X m kc zs) (hs : Spo X w w') (ha : D.away X) (hb : w0.heap.size ≤ base) : EM w0 w' Bp g g2 gp2 gt X n D R P Q :=
  ⟨h.sys.spo ho hs ha hb, h.rys.spo ho hs, h.low.trans (hs.below fun k e => Nat.le_trans hb (own_ge ho.2.2.2 k (by rw [e]; rfl)))⟩
theorem EM.bp (h : EM w0 w Bp g g2 gp2 gt X n D R P Q) : Bp ≤ w.heap.size := h.rys.gt.2.2
end
/-- The kinds of blocks that either disk writes. -/
def KA (t : Nat) : Bool := KD t || KR t
theorem KT.ofD {x : Option Nat} {w w' : World} (h : KT KD none w w') : KT KA x w w' := ⟨h.size, fun b cs t fr _ h2 h3 => h.keep b cs t fr (fun e => by cases e) (by unfold KA at h2; simp at h2; exact h2.1) h3⟩
theorem KT.ofR {x : Option Nat} {w w' : World} (h : KT KR x w w') : KT KA x w w' := h.mono fun t ht => by unfold KA at ht; simp at ht; exact ht.2
theorem ow_ge {w : World} {base n cap : Nat} {ao : Option Addr} {zs : List Int} (h : Ow w base ao n cap zs) : ∀ k, ao = some ⟨k, 0, none⟩ → base ≤ k := fun k e => own_ge h.2.2.2 k (by rw [e]; rfl)
/-- A row of one's own stays where gt and kinds but bytes are written. -/
theorem Ow.kt {S : Nat → Bool} {w w' : World} {base n cap gt : Nat} {ao : Option Addr} {zs : List Int} {cs : Array Value} {fr : Nat × Nat} (h : Ow w base ao n cap zs) (hk : KT S (some gt) w w') (hS : S 5 = false) (hc : w.heap[gt]? = some (.cells cs 4 fr)) : Ow w' base ao n cap zs :=
  ⟨h.1, h.2.1, h.2.2.1, own_heap h.2.2.2 fun g cur hg => (hk.keep _ _ _ _ (fun e => tag_ne hg hc (by decide) (Option.some.inj e).symm) hS hg).trans hg.symm⟩
theorem xs_wakeR (R : RS) (P : PP) : (R.wake P).xs.length ≤ R.xs.length := by
  unfold RS.wake
  split
  · exact Nat.le_refl _
  · split
    · exact Nat.le_refl _
    · exact Nat.zero_le _
theorem get_len {R : RS} {n : Nat} (hz : ∀ j, j < n → ((laidR R.xs R.ss R.xs.length).getD j Sec.none).d.z.length = 256) (off : Bool) (i : Int) : (R.get off n i).2.length ≤ 256 := by
  unfold RS.get
  split
  · exact Nat.zero_le _
  · split
    · next hi =>
      split
      · exact Nat.zero_le _
      · rw [hz _ (by omega)]; exact Nat.le_refl _
    · exact Nat.zero_le _

/-- What sector leaves: bytes that stay, whatever the disks write. -/
def SecP (w0 : World) (gt : Nat) (w : World) (xl : Nat) (z : List Int) (e : Ending) (w' : World) : Prop :=
  ∃ xo xc, e = .returned (.slice xo xl xc) ∧ Below w.heap.size w w' ∧ ∀ U, Below w0.heap.size w' U → KT KA (some gt) w' U → Part.ok U ⟨xo, xl, xc, z⟩
theorem sec_any (w0 : World) (gt : Nat) (k1 k2 k3 : Int) (ao : Option Addr) (l c : Nat) (raw : Bool) (kv : Value) (k4 : Int) (z : List Int) (w : World) (hp0 : Part.ok w0 ⟨ao, l, c, z⟩) (hB : Below w0.heap.size w0 w) {cs : Array Value} {fr : Nat × Nat} (hc : w.heap[gt]? = some (.cells cs 4 fr)) :
    Calls Try.prog 28 #[.agg #[.int .i64 k1, .int .i64 k2, .int .i64 k3, .slice ao l c, .bool raw, kv, .int .i64 k4]] w (SecP w0 gt w (if raw then l else 256) (if raw then z else secB z)) := by
  cases raw with
  | true =>
    refine (sector_raw k1 k2 k3 ao l c kv k4 w).mono ?_
    rintro e w' ⟨rfl, hB1⟩
    exact ⟨ao, c, rfl, hB1, fun U hU _ => hp0.below ((hB.trans (hB1.mono hB.size)).trans hU)⟩
  | false =>
    refine (sector_any k1 k2 k3 ao l c kv k4 z w (hp0.below hB)).mono ?_
    rintro e w' ⟨ko, kc, rfl, how, hB1⟩
    have hc' : w'.heap[gt]? = some (.cells cs 4 fr) := by rw [hB1.block _ (Array.getElem?_eq_some_iff.1 hc).1]; exact hc
    exact ⟨ko, kc, rfl, hB1, fun U _ hU => (how.kt hU rfl hc').part (secB_bts hp0.bts)⟩

/-- Write of the disk, told in one way. -/
theorem write_one {w0 w : World} {B Bp g gp n : Nat} {D : DS} {P : PP} (i : Int) (ao : Option Addr) (l c : Nat) (z : List Int) (h : Sys w0 w B Bp g gp n D P) (hx6 : D.xs.length ≤ 900000) (hz : Own1 w ⟨ao, l, c, z⟩) :
    Calls Try.prog 30 #[.pointer (some ⟨g, 0, none⟩), .int .i64 i, .slice ao l c] w fun e w' => ∃ D' P', e = .returned (.int .i64 (putE P n i l)) ∧ Sys w0 w' B Bp g gp n D' P' ∧
      ((putsB P n i l = false ∧ D' = D.wake P ∧ P' = P) ∨ (putsB P n i l = true ∧ P' = P.spend ∧ ∃ d, d.z = z ∧ (∀ b, d.a = some ⟨b, 0, none⟩ → w.heap.size ≤ b) ∧ D' = (D.wake P).put i.toNat d)) := by
  refine (write_any i ao l c z h (by omega) (by have := xs_wake D P; omega) hz).mono ?_
  rintro e w' ⟨rfl, ⟨hb, hs⟩ | ⟨hb, d, h1, h2, hs⟩⟩
  · exact ⟨_, _, rfl, hs, .inl ⟨hb, rfl, rfl⟩⟩
  · exact ⟨_, _, rfl, hs, .inr ⟨hb, rfl, d, h1, h2, rfl⟩⟩
theorem rwrite_one {w0 w : World} {B Bp g gp gt : Nat} {X : Option Addr} {n : Nat} {R : RS} {P : PP} (i : Int) (ao : Option Addr) (l c : Nat) (z : List Int) (h : Rys w0 w B Bp g gp gt X n R P) (hx6 : R.xs.length ≤ 900000)
    (hX : ∀ b, X = some ⟨b, 0, none⟩ → b < w.heap.size) (hz : ∀ V, Below B w V → KT KR (some gt) w V → Part.ok V ⟨ao, l, c, z⟩) :
    Calls Try.prog 31 #[.pointer (some ⟨g, 0, none⟩), .int .i64 i, .slice ao l c] w fun e w' => ∃ R' P', e = .returned (.int .i64 (putE P n i l)) ∧ Rys w0 w' B Bp g gp gt X n R' P' ∧
      ((putsB P n i l = false ∧ R' = R.wake P ∧ P' = P) ∨ (putsB P n i l = true ∧ P' = P.spend ∧ ∃ d, d.z = z ∧ R' = (R.wake P).put i.toNat d)) := by
  refine (rwrite i ao l c z h (by omega) (by have := xs_wakeR R P; omega) hX hz).mono ?_
  rintro e w' ⟨rfl, ⟨hb, hs⟩ | ⟨hb, d, h1, h2, hs⟩⟩
  · exact ⟨_, _, rfl, hs, .inl ⟨hb, rfl, rfl⟩⟩
  · exact ⟨_, _, rfl, hs, .inr ⟨hb, rfl, d, h1, rfl⟩⟩
theorem KE.write {n : Nat} {D D' : DS} {R R' : RS} {P P' Q' : PP} {i : Int} {l : Nat} {z : List Int} {s : Nat} (h : KE n D R)
    (hA : (putsB P n i l = false ∧ D' = D.wake P ∧ P' = P) ∨ (putsB P n i l = true ∧ P' = P.spend ∧ ∃ d, d.z = z ∧ (∀ b, d.a = some ⟨b, 0, none⟩ → s ≤ b) ∧ D' = (D.wake P).put i.toNat d))
    (hR : (putsB P n i l = false ∧ R' = R.wake P ∧ Q' = P) ∨ (putsB P n i l = true ∧ Q' = P.spend ∧ ∃ d, d.z = z ∧ R' = (R.wake P).put i.toNat d)) :
    KE n D' R' ∧ Q' = P' ∧ P'.life = P.life ∧ D'.xs.length ≤ D.xs.length + 1 := by
  have hw := xs_wake D P
  rcases hA with ⟨hb, rfl, rfl⟩ | ⟨hb, rfl, d, h1, _, rfl⟩
  · rcases hR with ⟨_, rfl, rfl⟩ | ⟨hb', _⟩
    · exact ⟨h.wake _, rfl, rfl, by omega⟩
    · rw [hb] at hb'; cases hb'
  · rcases hR with ⟨hb', _⟩ | ⟨_, rfl, d', h3, rfl⟩
    · rw [hb] at hb'; cases hb'
    · have hi : 0 ≤ i ∧ i < n := by
        unfold putsB at hb
        simp at hb
        exact ⟨hb.1.2.1, hb.1.2.2⟩
      refine ⟨(h.wake P).put (by omega) (by rw [h1, h3]), rfl, spend_life P, ?_⟩
      show ((D.wake P).xs ++ [_]).length ≤ _
      simp; omega
theorem away_write {D D' : DS} {P P' : PP} {n : Nat} {i : Int} {l s : Nat} {z : List Int} {ko : Option Addr} (ha : D.away ko) (hk : ∀ k, ko = some ⟨k, 0, none⟩ → k < s)
    (hA : (putsB P n i l = false ∧ D' = D.wake P ∧ P' = P) ∨ (putsB P n i l = true ∧ P' = P.spend ∧ ∃ d, d.z = z ∧ (∀ b, d.a = some ⟨b, 0, none⟩ → s ≤ b) ∧ D' = (D.wake P).put i.toNat d)) (ho : ∀ a, ko = some a → ∃ k, a = ⟨k, 0, none⟩) : D'.away ko := by
  have hw : (D.wake P).away ko := DS.All.wake ha (.inl rfl) P
  rcases hA with ⟨_, rfl, _⟩ | ⟨_, _, d, _, h2, rfl⟩
  · exact hw
  · refine DS.All.put hw _ d ?_
    cases hda : d.a with
    | none => exact .inl rfl
    | some a =>
      refine .inr fun e => ?_
      obtain ⟨k, rfl⟩ := ho a e.symm
      have := hk k e.symm
      have := h2 k hda
      omega

end Go.Proofs.Ytaajdaikfabchaa
