/-
  The laws of the disk: what is written over; wakes.
-/
import Derived.Test.YtaajdaikfabchaaLw1
namespace Go.Proofs.Ytaajdaikfabchaa
open Go.RowKit
set_option linter.unusedVariables false

/-- A row of bytes has been written over; nothing else. -/
structure Spo (ko : Option Addr) (w w' : World) : Prop where
  os : w'.os = w.os
  tape : w'.tape = w.tape
  output : w'.output = w.output
  size : w'.heap.size = w.heap.size
  block : ∀ k, ko ≠ some ⟨k, 0, none⟩ → w'.heap[k]? = w.heap[k]?
theorem Spo.below {ko : Option Addr} {B : Nat} {w w' : World} (h : Spo ko w w') (hB : ∀ k, ko = some ⟨k, 0, none⟩ → B ≤ k) : Below B w w' :=
  ⟨h.os, h.tape, h.output, Nat.le_of_eq h.size.symm, fun k hk => h.block k fun e => by have := hB k e; omega⟩
set_option maxHeartbeats 1000000 in
theorem spoil_some {w : World} {base g n kc : Nat} {zs : List Int} (h : Ow w base (some ⟨g, 0, none⟩) n kc zs) (hm : n ≤ 1000000) :
    Calls Try.prog 17 #[.slice (some ⟨g, 0, none⟩) n kc] w fun e w' => e = .returned (.tuple #[]) ∧ Spo (some ⟨g, 0, none⟩) w w' := by
  have H := Lib.hid h
  clear h
  go_enter Try.func17, Try.ntmps17
  go_wp2
  go_loopw [2] (fun i wr => ∃ (k : Nat) (zs : List Int), k ≤ n ∧ i = .int .i64 k ∧ Ow wr base (some ⟨g, 0, none⟩) n kc zs ∧ Only g w wr) (fun i _ => n - (intOf i).toNat)
  case atStart => exact ⟨0, _, Nat.zero_le _, rfl, H.out, Only.refl _ _⟩
  case round =>
    obtain ⟨k, zs, hk, rfl, how, ho⟩ := hrel
    by_cases hlt : k < n
    · have d1 : decide ((k : Int) < (n : Int)) = true := decide_eq_true (by omega)
      have hzl := how.1
      have hc : wr.cell? ⟨g, k, none⟩ = some (.int .u8 (zs.getD k 0)) := by
        rcases how.rd with h | ⟨b', o, hb', hcell⟩
        · rw [h] at hzl; simp at hzl; omega
        · cases hb'
          have := hcell k (by omega)
          rwa [Nat.zero_add] at this
      generalize zs.getD k 0 = x at hc
      have hf : wr.frozen? ⟨g, k, none⟩ = false := by
        rcases how.2.2.2.2 with ⟨q, _⟩ | ⟨g', cap, cur, q, _, hh, _⟩
        · cases q
        · simp only [Value.slice.injEq, Option.some.injEq, Addr.mk.injEq, and_true] at q
          obtain ⟨rfl, _⟩ := q
          simp [World.frozen?, hh]
      have HOW := Lib.hid how; have HO := Lib.hid ho
      clear how ho hzl
      go_wp2
      go_roundw
      case rel => exact ⟨k + 1, _, by omega, by go_num, ow_store (j := k) HOW.out, HO.out.set _ _⟩
      case measure => simp [intOf]; omega
    · have HO := Lib.hid ho
      have d1 : decide ((k : Int) < (n : Int)) = false := decide_eq_false (by omega)
      clear how ho
      go_wp2
      go_end0
      exact ⟨rfl, HO.out.os, HO.out.tape, HO.out.output, HO.out.size, fun j hj => HO.out.block j fun e => hj (by rw [e])⟩
theorem spoil_zero (ko : Option Addr) (kc : Nat) (w : World) : Calls Try.prog 17 #[.slice ko 0 kc] w fun e w' => e = .returned (.tuple #[]) ∧ Spo ko w w' := by
  go_enter Try.func17, Try.ntmps17
  go_wp2
  refine wp_loop_rounds 1 ?_
  rw [rounds_succ]
  go_wp2
  go_end0
  exact ⟨rfl, rfl, rfl, rfl, rfl, fun _ _ => rfl⟩
theorem spoil_ow {w : World} {base n kc : Nat} {ko : Option Addr} {zs : List Int} (h : Ow w base ko n kc zs) (hm : n ≤ 1000000) :
    Calls Try.prog 17 #[.slice ko n kc] w fun e w' => e = .returned (.tuple #[]) ∧ Spo ko w w' := by
  by_cases h0 : n = 0
  · subst h0; exact spoil_zero ko kc w
  · obtain ⟨g, rfl, hg⟩ := h.at (by omega)
    exact spoil_some h hm

theorem Own1.blk {w w' : World} {q : Part} (h : Own1 w q) (hb : ∀ g, q.a = some ⟨g, 0, none⟩ → w'.heap[g]? = w.heap[g]?) : Own1 w' q := by
  rcases h.2 with h2 | ⟨g, cur, h2, h3⟩
  · have hz : q.z = [] := by
      rcases h.1.rd with h4 | ⟨b, o, h4, _⟩
      · exact h4
      · rw [h2] at h4; cases h4
    exact ⟨⟨.inl hz, h.1.len, h.1.bts, h.1.small, h.1.nil, h.1.room⟩, .inl h2⟩
  · have hb := hb g h2
    refine ⟨⟨?_, h.1.len, h.1.bts, h.1.small, h.1.nil, h.1.room⟩, .inr ⟨g, cur, h2, hb.trans h3⟩⟩
    rcases h.1.rd with h4 | ⟨b, o, ha, hc⟩
    · exact .inl h4
    · rw [h2] at ha
      cases ha
      exact .inr ⟨g, 0, h2, fun j hj => by rw [← hc j hj]; exact World.cell?_of_block hb⟩
/-- All bytes of a disk are so. -/
structure DS.All (p : Part → Prop) (D : DS) : Prop where
  n : ∀ s ∈ D.ns, p s.d
  s : ∀ s ∈ D.ss, p s.d
  x : ∀ x ∈ D.xs, p x.d
theorem getD_all {p : Part → Prop} {ss : List Sec} (h : ∀ s ∈ ss, p s.d) (h0 : p Part.none) (i : Nat) : p (ss.getD i Sec.none).d := by
  by_cases hi : i < ss.length
  · rw [List.getD, List.getElem?_eq_getElem hi]; exact h _ (List.getElem_mem hi)
  · rw [List.getD, List.getElem?_eq_none (by omega)]; exact h0
theorem safeAt_all {p : Part → Prop} {P : PP} {xs : List Wr} {ss : List Sec} (h : ∀ s ∈ ss, p s.d) (hx : ∀ x ∈ xs, p x.d) (h0 : p Part.none) : ∀ j, ∀ s ∈ safeAt P xs ss j, p s.d := by
  intro j
  induction j with
  | zero => exact h
  | succ j ih =>
    intro s hs
    unfold safeAt at hs
    split at hs
    · exact ih s hs
    · next x hxj =>
      have hxm := List.mem_of_getElem? hxj
      split at hs
      · rcases List.mem_or_eq_of_mem_set hs with hs | rfl
        · exact ih s hs
        · exact getD_all ih h0 _
      · split at hs
        · rcases List.mem_or_eq_of_mem_set hs with hs | rfl
          · exact ih s hs
          · exact hx x hxm
        · exact ih s hs
theorem laidAt_all {p : Part → Prop} {xs : List Wr} {src ns : List Sec} (h : ∀ s ∈ ns, p s.d) (hs : ∀ s ∈ src, p s.d) (h0 : p Part.none) : ∀ j, ∀ s ∈ laidAt xs src ns j, p s.d := by
  intro j
  induction j with
  | zero => exact h
  | succ j ih =>
    intro s hs'
    unfold laidAt at hs'
    split at hs'
    · exact ih s hs'
    · rcases List.mem_or_eq_of_mem_set hs' with hs' | rfl
      · exact ih s hs'
      · exact getD_all hs h0 _
theorem DS.All.wake {p : Part → Prop} {D : DS} (h : D.All p) (h0 : p Part.none) (P : PP) : (D.wake P).All p := by
  unfold DS.wake
  split
  · exact h
  · split
    · exact h
    · have h1 := safeAt_all (P := P) h.s h.x h0 D.xs.length
      exact ⟨laidAt_all h.n h1 h0 _, h1, fun x hx => by cases hx⟩
theorem DS.All.sync {p : Part → Prop} {D : DS} (h : D.All p) (h0 : p Part.none) : D.sync.All p := ⟨h.n, laidAt_all h.s h.n h0 _, fun x hx => by cases hx⟩
theorem DS.All.syn {p : Part → Prop} {D : DS} (h : D.All p) (h0 : p Part.none) (P : PP) : (D.syn P).All p := by
  unfold DS.syn
  split
  · exact h.wake h0 P
  · split
    · exact (h.wake h0 P).sync h0
    · exact h.wake h0 P
theorem DS.All.put {p : Part → Prop} {D : DS} (h : D.All p) (i : Nat) (d : Part) (hd : p d) : (D.put i d).All p :=
  ⟨fun s hs => by
    rcases List.mem_or_eq_of_mem_set hs with hs | rfl
    · exact h.n s hs
    · exact hd, h.s, fun x hx => by
    rcases List.mem_append.1 hx with hx | hx
    · exact h.x x hx
    · obtain rfl := List.mem_singleton.1 hx
      exact hd⟩
theorem DS.All.era {p : Part → Prop} {D : DS} (h : D.All p) (h0 : p Part.none) (P : PP) (n : Nat) : (D.era P n).All p := by
  unfold DS.era
  split
  · exact h.wake h0 P
  · exact ⟨fun s hs => by rw [mem_secs0 hs]; exact h0, fun s hs => by rw [mem_secs0 hs]; exact h0, fun x hx => by cases hx⟩
/-- All bytes of the disk lie elsewhere than at ko. -/
def DS.away (D : DS) (ko : Option Addr) : Prop := D.All fun d => d.a = none ∨ d.a ≠ ko
theorem Sys.fresh {w0 w : World} {B Bp g gp n : Nat} {D : DS} {P : PP} {ko : Option Addr} (h : Sys w0 w B Bp g gp n D P) (hk : ∀ k, ko = some ⟨k, 0, none⟩ → w.heap.size ≤ k) : D.away ko := by
  obtain ⟨gn, gs, oo, k, oc, h⟩ := h
  have key : ∀ d, Dat w B d → d.a = none ∨ d.a ≠ ko := fun d hd => by
    rcases hd with h | ⟨_, h2, g', hg', _⟩
    · exact .inl (by rw [h]; rfl)
    · refine .inr fun e => ?_
      rcases h2.2 with h4 | ⟨g2, cur, h4, h5⟩
      · rw [h4] at hg'; cases hg'
      · rw [h4] at e
        have := hk g2 e.symm
        have := (Array.getElem?_eq_some_iff.1 h5).1
        omega
  exact ⟨fun s hs => key _ (h.d.dn s hs), fun s hs => key _ (h.d.ds s hs), fun x hx => key _ (h.d.dx x hx).1⟩
theorem Sys.spo {w0 w w' : World} {B Bp g gp n : Nat} {D : DS} {P : PP} {ko : Option Addr} {base m kc : Nat} {zs : List Int} (h : Sys w0 w B Bp g gp n D P) (ho : Ow w base ko m kc zs) (hs : Spo ko w w') (ha : D.away ko) (hB : B ≤ base) : Sys w' w' B Bp g gp n D P := by
  obtain ⟨gn, gs, oo, k, oc, h⟩ := h
  -- the row's block, if any, is one of bytes
  have htag : ∀ (b : Nat) (cs : Array Value) (t : Nat) (fr : Nat × Nat), ko = some ⟨b, 0, none⟩ → w.heap[b]? = some (.cells cs t fr) → t = 5 := fun b cs t fr e hh => by
    rcases ho.2.2.2.2 with ⟨q, _⟩ | ⟨g', cap, cur, q, _, hh', _⟩
    · simp only [Value.slice.injEq] at q; rw [q.1] at e; cases e
    · simp only [Value.slice.injEq] at q
      rw [q.1] at e
      cases e
      rw [hh'] at hh
      simp only [Option.some.injEq, Obj.cells.injEq] at hh
      exact hh.2.1.symm
  have hge : ∀ k, ko = some ⟨k, 0, none⟩ → B ≤ k := fun k e => by
    rcases ho.2.2.2.2 with ⟨q, _⟩ | ⟨g', cap, cur, q, hb, _⟩
    · simp only [Value.slice.injEq] at q; rw [q.1] at e; cases e
    · simp only [Value.slice.injEq] at q
      rw [q.1] at e
      cases e; omega
  have hk : ∀ (b : Nat) (cs : Array Value) (t : Nat) (fr : Nat × Nat), t ≠ 5 → w.heap[b]? = some (Obj.cells cs t fr) → w'.heap[b]? = some (Obj.cells cs t fr) := fun b cs t fr ht hh => by
    rw [hs.block b fun e => ht (htag b cs t fr e hh)]; exact hh
  have hk5 : KT (fun t => t == 5) none w w' := ⟨Nat.le_of_eq hs.size.symm, fun b cs t fr _ ht hh => hk b cs t fr (by simpa using ht) hh⟩
  have hD : ∀ d, (d.a = none ∨ d.a ≠ ko) → Dat w B d → Dat w' B d := fun d hda hd => by
    rcases hd with h | ⟨h1, h2, g', hg', hg2⟩
    · exact .inl h
    · have hne : ko ≠ some ⟨g', 0, none⟩ := fun e => by
        rcases hda with h | h
        · rw [h] at hg'; cases hg'
        · exact h (by rw [hg', e])
      exact .inr ⟨h1, h2.blk fun g2 hg3 => by rw [hg'] at hg3; cases hg3; exact hs.block g' hne, g', hg', hg2⟩
  exact ⟨gn, gs, oo, k, oc, ⟨hk _ _ _ _ (by decide) h.d.blk, hk _ _ _ _ (by decide) h.d.now, hk _ _ _ _ (by decide) h.d.safe, own_heap h.d.opn fun g' cur hg => (hk _ _ _ _ (by decide) hg).trans hg.symm, h.d.ln, h.d.ls, h.d.lx, h.d.ne, h.d.hn,
    ⟨h.d.low.1, h.d.low.2.1, h.d.low.2.2.1, h.d.low.2.2.2.1, by rw [hs.size]; exact h.d.low.2.2.2.2⟩, fun s hs => hD _ (ha.n s hs) (h.d.dn s hs), fun s hs => hD _ (ha.s s hs) (h.d.ds s hs), fun x hx => ⟨hD _ (ha.x x hx) (h.d.dx x hx).1, (h.d.dx x hx).2⟩⟩,
    h.p.kt hk5 rfl rfl (fun _ => nofun), Below.refl _ _, KT.refl _ _ _⟩

end Go.Proofs.Ytaajdaikfabchaa
