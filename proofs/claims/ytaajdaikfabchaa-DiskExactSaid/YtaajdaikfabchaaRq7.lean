/-
  The disk and the document's disk say the same: plain facts; a sector of whatever kind.
-/
import Derived.Test.YtaajdaikfabchaaSafe
import Derived.Test.YtaajdaikfabchaaRq4
import Derived.Test.YtaajdaikfabchaaRq6
namespace Go.Proofs.Ytaajdaikfabchaa
open Go.RowKit
set_option linter.unusedVariables false

def wkey (x : Wr) : Nat × List Int := (x.i, full x.d.z)
/-- They say the same. -/
structure KE (n : Nat) (D : DS) (R : RS) : Prop where
  life : D.life = R.life
  s : ∀ j, j < n → (D.ss.getD j Sec.none).key = (R.ss.getD j Sec.none).key
  x : D.xs.map wkey = R.xs.map wkey
  nw : ∀ j, j < n → (D.ns.getD j Sec.none).key = ((laidR R.xs R.ss R.xs.length).getD j Sec.none).key
  ld : D.ns.length = n ∧ D.ss.length = n ∧ R.ss.length = n
theorem wkey_at {xs xs' : List Wr} (h : xs.map wkey = xs'.map wkey) (k : Nat) : (xs[k]? = none ∧ xs'[k]? = none) ∨ ∃ x x', xs[k]? = some x ∧ xs'[k]? = some x' ∧ x.i = x'.i ∧ full x.d.z = full x'.d.z := by
  have := congrArg (fun l => l[k]?) h
  simp only [List.getElem?_map] at this
  cases h1 : xs[k]? with
  | none =>
    cases h2 : xs'[k]? with
    | none => exact .inl ⟨rfl, rfl⟩
    | some y => rw [h1, h2] at this; cases this
  | some x =>
    cases h2 : xs'[k]? with
    | none => rw [h1, h2] at this; cases this
    | some y =>
      rw [h1, h2] at this
      have := Option.some.inj this
      unfold wkey at this
      obtain ⟨a, b⟩ := Prod.mk.inj this
      exact .inr ⟨x, y, rfl, rfl, a, b⟩
theorem safeAt_same {P : PP} {xs xs' : List Wr} {ss ss' : List Sec} {n : Nat} (hl : ss.length = n) (hl' : ss'.length = n) (hx : xs.map wkey = xs'.map wkey) (hs : ∀ j, j < n → (ss.getD j Sec.none).key = (ss'.getD j Sec.none).key) :
    ∀ k j, j < n → ((safeAt P xs ss k).getD j Sec.none).key = ((safeAt P xs' ss' k).getD j Sec.none).key := by
  intro k
  induction k with
  | zero => exact hs
  | succ k ih =>
    intro j hj
    rcases wkey_at hx k with ⟨h1, h2⟩ | ⟨x, y, h1, h2, hi, hz⟩
    · rw [safeAt, safeAt, h1, h2]; exact ih j hj
    · rw [safeAt, safeAt, h1, h2]
      simp only
      split
      · by_cases e : x.i = j
        · rw [← hi]
          subst e
          rw [getD_set_self (by rw [safeAt_len, hl]; exact hj), getD_set_self (by rw [safeAt_len, hl']; exact hj)]
          have := ih x.i hj
          unfold Sec.key at this ⊢
          exact congrArg (fun p => (p.1, true)) this
        · rw [getD_set_ne e, getD_set_ne (by rw [← hi]; exact e)]; exact ih j hj
      · split
        · by_cases e : x.i = j
          · rw [← hi]
            subst e
            rw [getD_set_self (by rw [safeAt_len, hl]; exact hj), getD_set_self (by rw [safeAt_len, hl']; exact hj)]
            unfold Sec.key
            rw [hz]
          · rw [getD_set_ne e, getD_set_ne (by rw [← hi]; exact e)]; exact ih j hj
        · exact ih j hj
theorem laidR_not {xs : List Wr} {ss : List Sec} {j : Nat} (h : ∀ x ∈ xs, x.i ≠ j) : ∀ k, (laidR xs ss k).getD j Sec.none = ss.getD j Sec.none := by
  intro k
  induction k with
  | zero => rfl
  | succ k ih =>
    unfold laidR
    split
    · exact ih
    · next x hx => rw [getD_set_ne (h x (List.mem_of_getElem? hx))]; exact ih
theorem laidR_app {xs : List Wr} {ss : List Sec} (y : Wr) : ∀ k, k ≤ xs.length → laidR (xs ++ [y]) ss k = laidR xs ss k := by
  intro k
  induction k with
  | zero => intro _; rfl
  | succ k ih =>
    intro hk
    rw [laidR, laidR, List.getElem?_append_left (by omega), ih (by omega)]
theorem laidR_mem {xs : List Wr} {ss : List Sec} : ∀ k s, s ∈ laidR xs ss k → s ∈ ss ∨ ∃ x ∈ xs, s = ⟨x.d, false⟩ := by
  intro k
  induction k with
  | zero => intro s hs; exact .inl hs
  | succ k ih =>
    intro s hs
    rw [laidR] at hs
    split at hs
    · exact ih s hs
    · next x hx =>
      rcases List.mem_or_eq_of_mem_set hs with hs | rfl
      · exact ih s hs
      · exact .inr ⟨x, List.mem_of_getElem? hx, rfl⟩
section
variable {n : Nat} {D : DS} {R : RS}
theorem KE.xl (h : KE n D R) : D.xs.length = R.xs.length := by
  have := congrArg List.length h.x
  simpa using this
theorem KE.hit (h : KE n D R) (j : Nat) : (∃ q, q < D.xs.length ∧ ∃ x, D.xs[q]? = some x ∧ x.i = j) ∨ ((∀ x ∈ D.xs, x.i ≠ j) ∧ ∀ x ∈ R.xs, x.i ≠ j) := by
  by_cases e : ∃ q, q < D.xs.length ∧ ∃ x, D.xs[q]? = some x ∧ x.i = j
  · exact .inl e
  · refine .inr ⟨fun x hx hi => ?_, fun x hx hi => ?_⟩
    · obtain ⟨q, hq, rfl⟩ := List.getElem_of_mem hx
      exact e ⟨q, hq, _, List.getElem?_eq_getElem hq, hi⟩
    · obtain ⟨q, hq, rfl⟩ := List.getElem_of_mem hx
      rcases wkey_at h.x q with ⟨_, h2⟩ | ⟨a, b, h1, h2, h3, _⟩
      · rw [List.getElem?_eq_getElem hq] at h2; cases h2
      · rw [List.getElem?_eq_getElem hq] at h2
        cases h2
        exact e ⟨q, by rw [h.xl]; exact hq, a, h1, by rw [h3]; exact hi⟩
theorem KE.wake (h : KE n D R) (P : PP) : KE n (D.wake P) (R.wake P) := by
  unfold DS.wake RS.wake
  rw [← h.life]
  split
  · exact h
  · split
    · exact h
    · have hs := safeAt_same (P := P) h.ld.2.1 h.ld.2.2 h.x h.s
      refine ⟨rfl, fun j hj => ?_, rfl, fun j hj => ?_, ⟨?_, ?_, ?_⟩⟩
      · show ((safeAt P D.xs D.ss D.xs.length).getD j Sec.none).key = ((safeAt P R.xs R.ss R.xs.length).getD j Sec.none).key
        rw [← h.xl]; exact hs _ j hj
      · show ((laidAt D.xs (safeAt P D.xs D.ss D.xs.length) D.ns D.xs.length).getD j Sec.none).key = ((safeAt P R.xs R.ss R.xs.length).getD j Sec.none).key
        rcases h.hit j with hq | ⟨h1, h2⟩
        · rw [laidAt_in (by show j < D.ns.length; rw [h.ld.1]; exact hj) _ hq, ← h.xl]; exact hs _ j hj
        · rw [laidAt_not h1, safeAt_not h2, h.nw j hj, laidR_not h2]
      · show (laidAt _ _ _ _).length = _
        rw [laidAt_len]; exact h.ld.1
      · show (safeAt _ _ _ _).length = _
        rw [safeAt_len]; exact h.ld.2.1
      · show (safeAt _ _ _ _).length = _
        rw [safeAt_len]; exact h.ld.2.2
theorem KE.sync (h : KE n D R) : KE n D.sync R.sync := by
  refine ⟨h.life, fun j hj => ?_, rfl, h.nw, ⟨h.ld.1, ?_, ?_⟩⟩
  · show ((laidAt D.xs D.ns D.ss D.xs.length).getD j Sec.none).key = ((laidR R.xs R.ss R.xs.length).getD j Sec.none).key
    rcases h.hit j with hq | ⟨h1, h2⟩
    · rw [laidAt_in (by show j < D.ss.length; rw [h.ld.2.1]; exact hj) _ hq]; exact h.nw j hj
    · rw [laidAt_not h1, laidR_not h2]; exact h.s j hj
  · show (laidAt _ _ _ _).length = _
    rw [laidAt_len]; exact h.ld.2.1
  · show (laidR _ _ _).length = _
    rw [laidR_len]; exact h.ld.2.2
theorem KE.syn (h : KE n D R) (P : PP) : KE n (D.syn P) (R.syn P) := by
  unfold DS.syn RS.syn
  split
  · exact h.wake P
  · split
    · exact (h.wake P).sync
    · exact h.wake P
theorem KE.put (h : KE n D R) {i : Nat} (hi : i < n) {d d' : Part} (hd : full d.z = full d'.z) : KE n (D.put i d) (R.put i d') := by
  refine ⟨h.life, h.s, ?_, fun j hj => ?_, ⟨?_, h.ld.2⟩⟩
  · show (D.xs ++ [_]).map wkey = (R.xs ++ [_]).map wkey
    rw [List.map_append, List.map_append, h.x]
    unfold wkey
    simp only [List.map_cons, List.map_nil, hd]
  · show ((D.ns.set i _).getD j Sec.none).key = ((laidR (R.xs ++ [(⟨i, d'⟩ : Wr)]) R.ss (R.xs ++ [(⟨i, d'⟩ : Wr)]).length).getD j Sec.none).key
    have e : laidR (R.xs ++ [(⟨i, d'⟩ : Wr)]) R.ss (R.xs ++ [(⟨i, d'⟩ : Wr)]).length = (laidR R.xs R.ss R.xs.length).set i ⟨d', false⟩ := by
      rw [List.length_append, List.length_singleton, laidR, List.getElem?_append_right (Nat.le_refl _), Nat.sub_self, laidR_app (⟨i, d'⟩ : Wr) _ (Nat.le_refl _)]; rfl
    rw [e]
    by_cases e : i = j
    · subst e
      rw [getD_set_self (by rw [h.ld.1]; exact hi), getD_set_self (by rw [laidR_len, h.ld.2.2]; exact hi)]
      unfold Sec.key
      rw [hd]
    · rw [getD_set_ne e, getD_set_ne e]; exact h.nw j hj
  · show (D.ns.set i _).length = _
    rw [List.length_set]; exact h.ld.1
theorem skey_key (s : Sec) : skey s = s.key := rfl
theorem KE.clean {ss' : List Sec} (hs : ss'.map skey = List.replicate n zkey) (life : Int) : KE n ⟨life, secs0 n, secs0 n, []⟩ ⟨life, ss', []⟩ := by
  have hl : ss'.length = n := by
    have := congrArg List.length hs
    simpa using this
  have key : ∀ j, j < n → ((secs0 n).getD j Sec.none).key = (ss'.getD j Sec.none).key := fun j hj => by
    have := congrArg (fun l => l[j]?) hs
    simp only [List.getElem?_map, List.getElem?_replicate] at this
    rw [if_pos hj, List.getElem?_eq_getElem (by omega)] at this
    have := Option.some.inj this
    have e : ss'.getD j Sec.none = ss'[j]'(by omega) := by simp [List.getD, hl, hj]
    rw [e, ← skey_key ss'[j], this]
    have e2 : (secs0 n).getD j Sec.none = Sec.none := by
      unfold secs0
      rw [List.getD, List.getElem?_replicate]; split <;> rfl
    rw [e2]; rfl
  exact ⟨rfl, key, rfl, key, ⟨by unfold secs0; rw [List.length_replicate], by unfold secs0; rw [List.length_replicate], hl⟩⟩
theorem KE.era (h : KE n D R) {P : PP} (ho : P.off = false) {ss' : List Sec} (hs : ss'.map skey = List.replicate n zkey) : KE n (D.era P n) ⟨(R.wake P).life, ss', []⟩ := by
  have e : D.era P n = (D.wake P).erase n := by unfold DS.era; rw [ho]; rfl
  rw [e]
  unfold DS.erase
  rw [(h.wake P).life]
  exact KE.clean hs _
theorem KE.get (h : KE n D R) (hz : ∀ j, j < n → ((laidR R.xs R.ss R.xs.length).getD j Sec.none).d.z.length = 256) (off : Bool) (i : Int) : D.get off n i = R.get off n i := by
  unfold DS.get RS.get
  split
  · rfl
  · split
    · next hi =>
      have hj : i.toNat < n := by omega
      have h1 := h.nw i.toNat hj
      have h2 := hz i.toNat hj
      unfold Sec.key at h1
      simp only [Prod.mk.injEq] at h1
      rw [full_id h2] at h1
      rw [h1.1, h1.2]
    · rfl
end
theorem Rys.z {w0 w : World} {B Bp g gp gt : Nat} {X : Option Addr} {n : Nat} {R : RS} {P : PP} (h : Rys w0 w B Bp g gp gt X n R P) : ∀ j, j < n → ((laidR R.xs R.ss R.xs.length).getD j Sec.none).d.z.length = 256 := fun j hj => by
  obtain ⟨gs, sc, rest, lo, k, lc, h⟩ := h
  have hl : j < (laidR R.xs R.ss R.xs.length).length := by rw [laidR_len, h.ls]; exact hj
  have e : (laidR R.xs R.ss R.xs.length).getD j Sec.none = (laidR R.xs R.ss R.xs.length)[j] := by simp [List.getD, hl]
  rw [e]
  rcases laidR_mem _ _ (List.getElem_mem hl) with hs | ⟨x, hx, hs⟩
  · have := h.ds _ hs; rw [this.2.1.1.len, this.1]
  · rw [hs]; have := (h.dx x hx).1; simp only; rw [this.2.1.1.len, this.1]
theorem Rys.gt {w0 w : World} {B Bp g gp gt : Nat} {X : Option Addr} {n : Nat} {R : RS} {P : PP} (h : Rys w0 w B Bp g gp gt X n R P) : (∃ cs, w.heap[gt]? = some (.cells cs 4 (0, 0))) ∧ gt < Bp ∧ Bp ≤ w.heap.size := by
  obtain ⟨gs, sc, rest, lo, k, lc, h⟩ := h
  exact ⟨⟨_, h.torn⟩, h.gtB⟩
/-- The document's disk writes: the disk stays. -/
theorem Sys.otherR {w0 w w' : World} {B Bp g gp n gt : Nat} {D : DS} {P : PP} {cs : Array Value} {fr : Nat × Nat} (h : Sys w0 w B Bp g gp n D P) (hk : KT KR (some gt) w w') (hc : w.heap[gt]? = some (.cells cs 4 fr)) (hlt : gt < Bp) : Sys w' w' B Bp g gp n D P := by
  obtain ⟨gn, gs, oo, k, oc, h⟩ := h
  obtain ⟨cp, hcp⟩ := h.p.blk
  refine ⟨gn, gs, oo, k, oc, h.d.kt hk rfl rfl rfl rfl (fun b cs' t' fr' e hb => ?_), h.p.kt hk rfl rfl (fun b e => ?_), Below.refl _ _, KT.refl _ _ _⟩
  · cases e
    rw [hc] at hb
    simp only [Option.some.injEq, Obj.cells.injEq] at hb
    obtain ⟨_, rfl, _⟩ := hb
    decide
  · cases e
    exact ⟨hlt, tag_ne hc hcp (by decide)⟩
theorem Sys.raise {w0 w : World} {B Bp C g gp n : Nat} {D : DS} (h : Sys w0 w B Bp g gp n D PP.new) (hC : gp < C) : Sys w0 w B C g gp n D PP.new := by
  obtain ⟨gn, gs, oo, k, oc, h⟩ := h
  exact ⟨gn, gs, oo, k, oc, h.d, h.p.raise hC, h.low, h.kt⟩

/-- A sector of whatever kind. -/
theorem sector_raw (k1 k2 k3 : Int) (ao : Option Addr) (l c : Nat) (kv : Value) (k4 : Int) (w : World) :
    Calls Try.prog 28 #[.agg #[.int .i64 k1, .int .i64 k2, .int .i64 k3, .slice ao l c, .bool true, kv, .int .i64 k4]] w fun e w' => e = .returned (.slice ao l c) ∧ Below w.heap.size w w' := by
  go_enter Try.func28, Try.ntmps28
  go_wp2
  go_ret
  exact ⟨rfl, (Below.refl _ _).alloc (Nat.le_refl _) _⟩

end Go.Proofs.Ytaajdaikfabchaa
