/-
  What the reference's Next of an Out returns, and what it leaves in memory. Its condition: the Out is such as it may be.
-/
import Derived.Test.YtblmjllignibgafDoorOutC
import Derived.Test.YtblmjllignibgafDoorRPack
import Derived.Deep.CutRange
namespace Go.Proofs.YtblmjllignibgafDoor.ROut
open Go.ChangeShapes Go.WideShapes Go.ChangeAt Go.RowKit Go.Proofs.YtblmjllignibgafDoor.PM Go.Proofs.YtblmjllignibgafDoor.Mem Go.Proofs.YtblmjllignibgafDoor.Pack Go.Proofs.YtblmjllignibgafDoor.UM Go.Proofs.YtblmjllignibgafDoor.Out Go.Proofs.YtblmjllignibgafDoor.RPack
set_option linter.unusedVariables false

/-- the reference's Out in memory: its Seq, its Time, how many it sent, the last one -/
def RefAt (w : World) (b : Nat) (Q T : Int) (k : Nat) (s t l q : Int) (st : Bool) (bv : Value) : Prop := w.heap[b]? = some (.cells #[.int .i64 Q, .int .i64 T, .int .i64 (k : Int), .int .i64 s, .int .i64 t, .int .i64 l, .int .i64 q, .bool st, bv] 35 (0, 0))
theorem RefAt.cells {w : World} {b : Nat} {Q T : Int} {k : Nat} {s t l q : Int} {st : Bool} {bv : Value} (h : RefAt w b Q T k s t l q st bv) :
    w.cell? ⟨b, 0, none⟩ = some (.int .i64 Q) ∧ w.cell? ⟨b, 1, none⟩ = some (.int .i64 T) ∧ w.cell? ⟨b, 2, none⟩ = some (.int .i64 (k : Int)) ∧ w.cell? ⟨b, 3, none⟩ = some (.int .i64 s) ∧ w.cell? ⟨b, 4, none⟩ = some (.int .i64 t) ∧ w.cell? ⟨b, 5, none⟩ = some (.int .i64 l) ∧ w.cell? ⟨b, 6, none⟩ = some (.int .i64 q) ∧ w.cell? ⟨b, 7, none⟩ = some (.bool st) ∧ w.cell? ⟨b, 8, none⟩ = some bv := by
  simp only [RefAt] at h
  simp [World.cell?, h]
theorem RefAt.free {w : World} {b : Nat} {Q T : Int} {k : Nat} {s t l q : Int} {st : Bool} {bv : Value} (h : RefAt w b Q T k s t l q st bv) (j : Nat) : w.frozen? ⟨b, j, none⟩ = false := by
  simp only [RefAt] at h
  simp [World.frozen?, h]
theorem RefAt.lt {w : World} {b : Nat} {Q T : Int} {k : Nat} {s t l q : Int} {st : Bool} {bv : Value} (h : RefAt w b Q T k s t l q st bv) : b < w.heap.size := lt_of_block h
theorem RefAt.only {w w' : World} {b : Nat} {Q T : Int} {k : Nat} {s t l q : Int} {st : Bool} {bv : Value} {bs : List Nat} (h : RefAt w b Q T k s t l q st bv) (ho : Only bs w w') (hb : b ∉ bs) : RefAt w' b Q T k s t l q st bv := ho.block h hb
theorem RefAt.below {w w' : World} {b : Nat} {Q T : Int} {k : Nat} {s t l q : Int} {st : Bool} {bv : Value} (h : RefAt w b Q T k s t l q st bv) (hb : Below w.heap.size w w') : RefAt w' b Q T k s t l q st bv := h.only (Only.of_below hb []) (by simp)
theorem RefAt.alloc {w : World} {b : Nat} {Q T : Int} {k : Nat} {s t l q : Int} {st : Bool} {bv : Value} (h : RefAt w b Q T k s t l q st bv) (O : Obj) : RefAt (w.alloc O) b Q T k s t l q st bv := h.below ((Below.refl _ _).alloc (Nat.le_refl _) O)
theorem RefAt.setQ {w : World} {b : Nat} {Q T : Int} {k : Nat} {s t l q : Int} {st : Bool} {bv : Value} (h : RefAt w b Q T k s t l q st bv) (x : Int) : RefAt (w.setCell ⟨b, 0, none⟩ (.int .i64 x)) b x T k s t l q st bv := heap_setCell_same w b 0 _ _ _ h
theorem RefAt.setT {w : World} {b : Nat} {Q T : Int} {k : Nat} {s t l q : Int} {st : Bool} {bv : Value} (h : RefAt w b Q T k s t l q st bv) (x : Int) : RefAt (w.setCell ⟨b, 1, none⟩ (.int .i64 x)) b Q x k s t l q st bv := heap_setCell_same w b 1 _ _ _ h
theorem RefAt.setK {w : World} {b : Nat} {Q T : Int} {k : Nat} {s t l q : Int} {st : Bool} {bv : Value} (h : RefAt w b Q T k s t l q st bv) : RefAt (w.setCell ⟨b, 2, none⟩ (.int .i64 ((k : Int) + 1))) b Q T (k + 1) s t l q st bv := heap_setCell_same w b 2 _ _ _ h
theorem RefAt.setP {w : World} {b : Nat} {Q T : Int} {k : Nat} {s t l q : Int} {st : Bool} {bv : Value} (h : RefAt w b Q T k s t l q st bv) (s' t' l' q' : Int) (st' : Bool) (bv' : Value) :
    RefAt ((((((w.setCell ⟨b, 3, none⟩ (.int .i64 s')).setCell ⟨b, 4, none⟩ (.int .i64 t')).setCell ⟨b, 5, none⟩ (.int .i64 l')).setCell ⟨b, 6, none⟩ (.int .i64 q')).setCell ⟨b, 7, none⟩ (.bool st')).setCell ⟨b, 8, none⟩ bv') b Q T k s' t' l' q' st' bv' := by
  have h0 := heap_setCell_same _ _ 3 _ _ (.int .i64 s') h
  have h1 := heap_setCell_same _ _ 4 _ _ (.int .i64 t') h0
  have h2 := heap_setCell_same _ _ 5 _ _ (.int .i64 l') h1
  have h3 := heap_setCell_same _ _ 6 _ _ (.int .i64 q') h2
  have h4 := heap_setCell_same _ _ 7 _ _ (.bool st') h3
  have h5 := heap_setCell_same _ _ 8 _ _ bv' h4
  exact h5
theorem refOther {w : World} {b : Nat} {Q T : Int} {k : Nat} {s t l q : Int} {st : Bool} {bv : Value} (h : RefAt w b Q T k s t l q st bv) {p : Addr} (hp : b ≠ p.block) (u : Value) : RefAt (w.setCell p u) b Q T k s t l q st bv := (Below.heap_setCell _ _ _ _ hp).trans h

/-- under way within Next: the Out, the packet in its variable g, the result's variable r -/
structure NSt (w W : World) (b g r : Nat) (Q T : Int) (k : Nat) (s0 t0 l0 q0 : Int) (st0 : Bool) (bv0 : Value) (s t l q : Int) (st : Bool) (bv : Value) : Prop where
  ref : RefAt W b Q T k s0 t0 l0 q0 st0 bv0
  box : Box W g s t l q st bv
  res : Box W r 0 0 0 0 false (.slice none 0 0)
  only : Only [b] w W
  hb : b < w.heap.size
  hg : w.heap.size ≤ g
  hr : w.heap.size ≤ r
  ne : g ≠ r
theorem NSt.below {w W W' : World} {b g r : Nat} {Q T : Int} {k : Nat} {s0 t0 l0 q0 : Int} {st0 : Bool} {bv0 : Value} {s t l q : Int} {st : Bool} {bv : Value} (h : NSt w W b g r Q T k s0 t0 l0 q0 st0 bv0 s t l q st bv) (hb : Below W.heap.size W W') : NSt w W' b g r Q T k s0 t0 l0 q0 st0 bv0 s t l q st bv :=
  ⟨h.ref.below hb, h.box.below hb h.box.lt, h.res.below hb h.res.lt, h.only.trans (Only.of_below hb _), h.hb, h.hg, h.hr, h.ne⟩
theorem NSt.ds {w W : World} {b g r : Nat} {Q T : Int} {k : Nat} {s0 t0 l0 q0 : Int} {st0 : Bool} {bv0 : Value} {s t l q : Int} {st : Bool} {bv : Value} (h : NSt w W b g r Q T k s0 t0 l0 q0 st0 bv0 s t l q st bv) : ¬ b = g ∧ ¬ g = b ∧ ¬ b = r ∧ ¬ r = b ∧ ¬ g = r ∧ ¬ r = g := by
  obtain ⟨_, _, _, _, h1, h2, h3, h4⟩ := h
  omega
theorem NSt.setQ {w W : World} {b g r : Nat} {Q T : Int} {k : Nat} {s0 t0 l0 q0 : Int} {st0 : Bool} {bv0 : Value} {s t l q : Int} {st : Bool} {bv : Value} (h : NSt w W b g r Q T k s0 t0 l0 q0 st0 bv0 s t l q st bv) (x : Int) : NSt w (W.setCell ⟨b, 0, none⟩ (.int .i64 x)) b g r x T k s0 t0 l0 q0 st0 bv0 s t l q st bv :=
  ⟨h.ref.setQ x, boxOther h.box h.ds.2.1 _, boxOther h.res h.ds.2.2.2.1 _, h.only.setCell (by simp) _, h.hb, h.hg, h.hr, h.ne⟩
theorem NSt.setT {w W : World} {b g r : Nat} {Q T : Int} {k : Nat} {s0 t0 l0 q0 : Int} {st0 : Bool} {bv0 : Value} {s t l q : Int} {st : Bool} {bv : Value} (h : NSt w W b g r Q T k s0 t0 l0 q0 st0 bv0 s t l q st bv) (x : Int) : NSt w (W.setCell ⟨b, 1, none⟩ (.int .i64 x)) b g r Q x k s0 t0 l0 q0 st0 bv0 s t l q st bv :=
  ⟨h.ref.setT x, boxOther h.box h.ds.2.1 _, boxOther h.res h.ds.2.2.2.1 _, h.only.setCell (by simp) _, h.hb, h.hg, h.hr, h.ne⟩
theorem NSt.setK {w W : World} {b g r : Nat} {Q T : Int} {k : Nat} {s0 t0 l0 q0 : Int} {st0 : Bool} {bv0 : Value} {s t l q : Int} {st : Bool} {bv : Value} (h : NSt w W b g r Q T k s0 t0 l0 q0 st0 bv0 s t l q st bv) : NSt w (W.setCell ⟨b, 2, none⟩ (.int .i64 ((k : Int) + 1))) b g r Q T (k + 1) s0 t0 l0 q0 st0 bv0 s t l q st bv :=
  ⟨h.ref.setK, boxOther h.box h.ds.2.1 _, boxOther h.res h.ds.2.2.2.1 _, h.only.setCell (by simp) _, h.hb, h.hg, h.hr, h.ne⟩
theorem NSt.setP {w W : World} {b g r : Nat} {Q T : Int} {k : Nat} {s0 t0 l0 q0 : Int} {st0 : Bool} {bv0 : Value} {s t l q : Int} {st : Bool} {bv : Value} (h : NSt w W b g r Q T k s0 t0 l0 q0 st0 bv0 s t l q st bv) :
    NSt w ((((((W.setCell ⟨b, 3, none⟩ (.int .i64 s)).setCell ⟨b, 4, none⟩ (.int .i64 t)).setCell ⟨b, 5, none⟩ (.int .i64 l)).setCell ⟨b, 6, none⟩ (.int .i64 q)).setCell ⟨b, 7, none⟩ (.bool st)).setCell ⟨b, 8, none⟩ bv) b g r Q T k s t l q st bv s t l q st bv := by
  have ho : ∀ {c v0 v1 v2 v3 v4 v5}, Only [b] c ((((((c.setCell ⟨b, 3, none⟩ v0).setCell ⟨b, 4, none⟩ v1).setCell ⟨b, 5, none⟩ v2).setCell ⟨b, 6, none⟩ v3).setCell ⟨b, 7, none⟩ v4).setCell ⟨b, 8, none⟩ v5) := fun {c v0 v1 v2 v3 v4 v5} => by
    iterate 6 refine Only.setCell ?_ (by simp) _
    exact Only.refl _ _
  exact ⟨h.ref.setP s t l q st bv, ho.block h.box (by simp; exact h.ds.2.1), ho.block h.res (by simp; exact h.ds.2.2.2.1), h.only.trans ho, h.hb, h.hg, h.hr, h.ne⟩

theorem NSt.new {w W : World} {b g r : Nat} {Q T : Int} {k : Nat} {s0 t0 l0 q0 : Int} {st0 : Bool} {bv0 : Value} {s t l q : Int} {st : Bool} {bv : Value} (h : NSt w W b g r Q T k s0 t0 l0 q0 st0 bv0 s t l q st bv) {x : Nat} (h1 : b ≠ x) (h2 : g ≠ x) (h3 : r ≠ x) (h4 : w.heap.size ≤ x) (j : Nat) (u : Value) : NSt w (W.setCell ⟨x, j, none⟩ u) b g r Q T k s0 t0 l0 q0 st0 bv0 s t l q st bv :=
  ⟨refOther h.ref h1 _, boxOther h.box h2 _, boxOther h.res h3 _, only_new h.only h4 _ _, h.hb, h.hg, h.hr, h.ne⟩
theorem NSt.start {w : World} {b : Nat} {Q T : Int} {k : Nat} {s0 t0 l0 q0 : Int} {st0 : Bool} {bv0 : Value} (h : RefAt w b Q T k s0 t0 l0 q0 st0 bv0) (s t l q : Int) (st : Bool) (bv : Value) :
    NSt w ((w.alloc (.cells #[.int .i64 s, .int .i64 t, .int .i64 l, .int .i64 q, .bool st, bv] 33)).alloc (.cells #[.int .i64 0, .int .i64 0, .int .i64 0, .int .i64 0, .bool false, .slice none 0 0] 33)) b w.heap.size (w.heap.size + 1) Q T k s0 t0 l0 q0 st0 bv0 s t l q st bv := by
  refine ⟨(h.alloc _).alloc _, (Box.new w s t l q st bv).alloc _, ?_, ((Only.refl _ _).alloc _).alloc _, h.lt, Nat.le_refl _, Nat.le_succ _, by omega⟩
  have := Box.new (w.alloc (.cells #[.int .i64 s, .int .i64 t, .int .i64 l, .int .i64 q, .bool st, bv] 33)) 0 0 0 0 false (.slice none 0 0)
  simpa using this

set_option maxHeartbeats 2000000 in
set_option maxRecDepth 100000 in
theorem rnext_err (b : Nat) (Q T : Int) (k : Nat) (s0 t0 l0 q0 : Int) (st0 : Bool) (bv0 : Value) (s t l q : Int) (st : Bool) (a : Option Addr) (n cap : Nat) (w : World) (h : RefAt w b Q T k s0 t0 l0 q0 st0 bv0) (hf : fault s t l q n ≠ 0) :
    Calls Tryd.prog 8 #[.pointer (some ⟨b, 0, none⟩), .agg #[.int .i64 s, .int .i64 t, .int .i64 l, .int .i64 q, .bool st, .slice a n cap]] w fun e w' => e = .returned (.tuple #[.agg #[.int .i64 0, .int .i64 0, .int .i64 0, .int .i64 0, .bool false, .slice none 0 0], .int .i64 (fault s t l q n : Nat)]) ∧ Below w.heap.size w w' := by
  have HC := hidden (fun W => rpacket_calls s t l q st a n cap W)
  have HS := hidden (NSt.start h s t l q st (.slice a n cap))
  generalize fault s t l q n = f at *
  have HB := hidden (((Below.refl w.heap.size w).alloc (Nat.le_refl _) (.cells #[.int .i64 s, .int .i64 t, .int .i64 l, .int .i64 q, .bool st, .slice a n cap] 33)).alloc (by simp) (.cells #[.int .i64 0, .int .i64 0, .int .i64 0, .int .i64 0, .bool false, .slice none 0 0] 33))
  have fz : ¬ (f : Int) = 0 := by omega
  have dfz : ((f : Int) != 0) = true := by simpa using hf
  clear h hf
  go_enter Tryd.func8, Tryd.ntmps8
  go_wp2_with fail
  refine (HC.out _).mono ?_
  rintro e w2 ⟨rfl, hb⟩
  have HS2 := hidden (HS.out.below hb)
  have HB2 : Hid (Below w.heap.size w w2) := HB.out.trans (hb.mono HB.out.size)
  clear hb HS HB HC
  obtain ⟨x0, x1, x2, x3, x4, x5⟩ := HS2.out.res.cells
  have f0 := boxFree HS2.out.res 0
  have f1 := boxFree HS2.out.res 1
  have f2 := boxFree HS2.out.res 2
  have f3 := boxFree HS2.out.res 3
  have f4 := boxFree HS2.out.res 4
  have f5 := boxFree HS2.out.res 5
  go_wp2_with fail
  refine bodyPost_ret (res_pk (g := w.heap.size + 1) rfl rfl (box6 HS2.out.res 0 0 0 0 false (.slice none 0 0))) rfl ?_
  exact ⟨rfl, HB2.out.trans ((only6 (bs := [w.heap.size + 1]) (Only.refl _ w2) (by simp) _ _ _ _ _ _).below HB2.out.size (by simp))⟩

/-- the Seq of the reference's Out -/
def rs (S : Int) (k : Nat) : Int := if k = 0 then S else sq S (k - 1)
theorem rs_next (S : Int) (k : Nat) : rs S (k + 1) = sq S k := by simp [rs]
theorem rs_bd {S : Int} {k : Nat} (h0 : 0 ≤ S) (h1 : S ≤ 65535) : 0 ≤ rs S k ∧ rs S k ≤ 65535 := by
  unfold rs
  split
  · exact ⟨h0, h1⟩
  · exact sq_bd _ _
theorem rs_step (S : Int) {k : Nat} (h : k ≠ 0) : (rs S k + 1) % 65536 = sq S k := by
  obtain ⟨j, rfl⟩ : ∃ j, k = j + 1 := ⟨k - 1, by omega⟩
  rw [rs_next, sq_next]
theorem rs_zero {S : Int} (h0 : 0 ≤ S) (h1 : S ≤ 65535) : rs S 0 = sq S 0 := by rw [sq_zero h0 h1]; rfl

set_option maxHeartbeats 4000000 in
set_option maxRecDepth 100000 in
theorem rnext_ok (b : Nat) (S T : Int) (k : Nat) (s0 t0 l0 q0 : Int) (st0 : Bool) (bv0 : Value) (s t l q : Int) (st : Bool) (a : Option Addr) (n cap : Nat) (w : World) (h : RefAt w b (rs S k) T k s0 t0 l0 q0 st0 bv0) (hI : UM.Inv S k T t0) (hk : k < 1000) (hf : fault s t l q n = 0) :
    Calls Tryd.prog 8 #[.pointer (some ⟨b, 0, none⟩), .agg #[.int .i64 s, .int .i64 t, .int .i64 l, .int .i64 q, .bool st, .slice a n cap]] w fun e w' => e = .returned (.tuple #[.agg #[.int .i64 (sq S k), .int .i64 (nt k T l0 t0 l t), .int .i64 l, .int .i64 q, .bool st, .slice a n cap], .int .i64 0]) ∧
      RefAt w' b (sq S k) (nt k T l0 t0 l t) (k + 1) s t l q st (.slice a n cap) ∧ Only [b] w w' := by
  have HC : Hid (∀ W, Calls Tryd.prog 13 #[.agg #[.int .i64 s, .int .i64 t, .int .i64 l, .int .i64 q, .bool st, .slice a n cap]] W fun e w' => e = .returned (.int .i64 0) ∧ Below W.heap.size W w') := hidden (fun W => by have := rpacket_calls s t l q st a n cap W; rw [hf] at this; exact this)
  have ht : 0 ≤ t ∧ t ≤ 4294967295 := by obtain ⟨_, t', _, _, _, ht, _, _, _, ht1, _⟩ := fault_zero hf; omega
  obtain ⟨ht0, ht1⟩ := ht
  have HS := hidden (NSt.start h s t l q st (.slice a n cap))
  obtain ⟨i1, i2, i3, i4, i5, i6, i7⟩ := hI
  have hbd := rs_bd (k := k) i1 i2
  have H0 : Hid (k = 0 → rs S k = sq S k ∧ nt k T l0 t0 l t = T) := hidden (fun e => by subst e; exact ⟨rs_zero i1 i2, rfl⟩)
  have H1 : Hid (k ≠ 0 → (rs S k + 1) % 65536 = sq S k) := hidden (fun e => rs_step S e)
  have H2 : Hid (k ≠ 0 → l = l0 → (T + t - t0 + 4294967296) % 4294967296 = nt k T l0 t0 l t) := hidden (fun e e2 => by subst e2; rw [nt_same _ _ _ _ e]; omega)
  have H3 : Hid (k ≠ 0 → l ≠ l0 → (T + 1) % 4294967296 = nt k T l0 t0 l t) := hidden (fun e e2 => by rw [nt_other _ _ _ _ _ e e2])
  generalize nt k T l0 t0 l t = T' at *
  generalize sq S k = Q' at *
  generalize rs S k = Q at *
  obtain ⟨bd0, bd1⟩ := hbd
  clear h hf
  go_enter Tryd.func8, Tryd.ntmps8
  go_wp2_with fail
  refine (HC.out _).mono ?_
  rintro e w2 ⟨rfl, hb⟩
  have HS2 := hidden (HS.out.below hb)
  clear hb HS HC
  obtain ⟨c0, c1, c2, c3, c4, c5, c6, c7, c8⟩ := HS2.out.ref.cells
  obtain ⟨n1, n2, n3, n4, n5, n6⟩ := HS2.out.ds
  clear c0 c1 c3 c4 c5 c6 c7 c8
  obtain ⟨kb, hkb⟩ : ∃ kb, decide (0 < k) = kb := ⟨_, rfl⟩
  have hkb2 : decide ((0 : Int) < (k : Int)) = kb := by rw [← hkb]; simp
  have HKb := hidden hkb
  go_upto_if 18 with fail
  clear hkb hkb2
  go_cut [] from 19 to 62 (fun wx => Hid (NSt w wx b w.heap.size (w.heap.size + 1) Q' T' k s0 t0 l0 q0 st0 bv0 s t l q st (.slice a n cap)))
  case first =>
    cases kb with
    | false =>
      have hk0 : k = 0 := by have := of_decide_eq_false HKb.out; omega
      obtain ⟨e1, e2⟩ := H0.out hk0
      have HSz : Hid (NSt w w2 b w.heap.size (w.heap.size + 1) Q' T' k s0 t0 l0 q0 st0 bv0 s t l q st (.slice a n cap)) := by rw [e2, ← e1]; exact HS2
      clear hk0 e1 e2
      go_wp2_with fail
      go_meet
      exact HSz
    | true =>
    have hk0 : k ≠ 0 := by have := of_decide_eq_true HKb.out; omega
    have r1 := H1.out hk0
    have H2' := hidden (H2.out hk0)
    have H3' := hidden (H3.out hk0)
    clear hk0 H0 H1 H2 H3
    obtain ⟨c0, c1, _, c3, c4, c5, c6, c7, c8⟩ := HS2.out.ref.cells
    have f0 := HS2.out.ref.free 0
    clear c1 c3 c4 c5 c6 c7 c8
    go_upto_region 6 with fail
    obtain ⟨w3, hw3⟩ : ∃ w3, w2.setCell ⟨b, 0, none⟩ (.int .i64 Q') = w3 := ⟨_, rfl⟩
    have HS3 : Hid (NSt w w3 b w.heap.size (w.heap.size + 1) Q' T k s0 t0 l0 q0 st0 bv0 s t l q st (.slice a n cap)) := by rw [← hw3]; exact HS2.out.setQ Q'
    rw [hw3]
    clear hw3 HS2 c0 c2 f0
    obtain ⟨c0, c1, c2, c3, c4, c5, c6, c7, c8⟩ := HS3.out.ref.cells
    obtain ⟨x0, x1, x2, x3, x4, x5⟩ := HS3.out.box.cells
    clear c0 c2 c3 c6 c7 c8 x0 x3 x4 x5
    by_cases hl : l = l0
    · have r2 := H2'.out hl
      subst hl
      have dl : (l == l) = true := by simp
      go_quiet (fail)
      obtain ⟨w4, hw4⟩ : ∃ w4, w3.drewN nq = w4 := ⟨_, rfl⟩
      have HS4 : Hid (NSt w w4 b w.heap.size (w.heap.size + 1) Q' T k s0 t0 l q0 st0 bv0 s t l q st (.slice a n cap)) := by rw [← hw4]; exact HS3.out.below (below_drewN (Below.refl _ _) _)
      rw [hw4]
      clear hw4 HS3 c1 c4 c5 x1 x2 H2' H3'
      obtain ⟨c0, c1, c2, c3, c4, c5, c6, c7, c8⟩ := HS4.out.ref.cells
      obtain ⟨x0, x1, x2, x3, x4, x5⟩ := HS4.out.box.cells
      have f1 := HS4.out.ref.free 1
      clear c0 c2 c3 c5 c6 c7 c8 x0 x2 x3 x4 x5
      go_wp2_with fail
      go_region
      go_wp2_with fail
      go_meet
      exact hidden ((HS4.out.setT T').below (below_drewN (Below.refl _ _) 1))
    · have r2 := H3'.out hl
      have dl : (l == l0) = false := by simpa using hl
      have dl2 : decide (l = l0) = false := by simpa using hl
      clear hl
      go_quiet (fail)
      obtain ⟨w4, hw4⟩ : ∃ w4, w3.drewN nq = w4 := ⟨_, rfl⟩
      have HS4 : Hid (NSt w w4 b w.heap.size (w.heap.size + 1) Q' T k s0 t0 l0 q0 st0 bv0 s t l q st (.slice a n cap)) := by rw [← hw4]; exact HS3.out.below (below_drewN (Below.refl _ _) _)
      rw [hw4]
      clear hw4 HS3 c1 c4 c5 x1 x2 H2' H3'
      obtain ⟨c0, c1, c2, c3, c4, c5, c6, c7, c8⟩ := HS4.out.ref.cells
      have f1 := HS4.out.ref.free 1
      clear c0 c2 c3 c4 c5 c6 c7 c8
      go_wp2_with fail
      go_meet
      exact hidden (HS4.out.setT T')
  case rest =>
    have HS5 := hcut
    clear HS2 H0 H1 H2 H3 c2
    obtain ⟨c0, c1, c2, c3, c4, c5, c6, c7, c8⟩ := HS5.out.ref.cells
    have f2 := HS5.out.ref.free 2
    clear c0 c1 c3 c4 c5 c6 c7 c8
    go_upto_region 10 with fail
    obtain ⟨w6, hw6⟩ : ∃ w6, wc.setCell ⟨b, 2, none⟩ (.int .i64 ((k : Int) + 1)) = w6 := ⟨_, rfl⟩
    have HS6 : Hid (NSt w w6 b w.heap.size (w.heap.size + 1) Q' T' (k + 1) s0 t0 l0 q0 st0 bv0 s t l q st (.slice a n cap)) := by rw [← hw6]; exact HS5.out.setK
    rw [hw6]
    clear hw6 HS5 hcut c2 f2
    obtain ⟨c0, c1, c2, c3, c4, c5, c6, c7, c8⟩ := HS6.out.ref.cells
    obtain ⟨x0, x1, x2, x3, x4, x5⟩ := HS6.out.box.cells
    have f3 := HS6.out.ref.free 3
    have f4 := HS6.out.ref.free 4
    have f5 := HS6.out.ref.free 5
    have f6 := HS6.out.ref.free 6
    have f7 := HS6.out.ref.free 7
    have f8 := HS6.out.ref.free 8
    clear c0 c1 c2
    go_upto_region 11 with fail
    obtain ⟨w7, hw7⟩ : ∃ w7, (((((w6.setCell ⟨b, 3, none⟩ (.int .i64 s)).setCell ⟨b, 4, none⟩ (.int .i64 t)).setCell ⟨b, 5, none⟩ (.int .i64 l)).setCell ⟨b, 6, none⟩ (.int .i64 q)).setCell ⟨b, 7, none⟩ (.bool st)).setCell ⟨b, 8, none⟩ (.slice a n cap) = w7 := ⟨_, rfl⟩
    have HS7 : Hid (NSt w w7 b w.heap.size (w.heap.size + 1) Q' T' (k + 1) s t l q st (.slice a n cap) s t l q st (.slice a n cap)) := by rw [← hw7]; exact HS6.out.setP
    rw [hw7]
    clear hw7 HS6 c3 c4 c5 c6 c7 c8 f3 f4 f5 f6 f7 f8 x0 x1 x2 x3 x4 x5
    obtain ⟨x0, x1, x2, x3, x4, x5⟩ := HS7.out.box.cells
    go_upto_region 12 with fail
    obtain ⟨w8, hw8⟩ : ∃ w8, w7.alloc (.cells #[.int .i64 s, .int .i64 t, .int .i64 l, .int .i64 q, .bool st, .slice a n cap] 33) = w8 := ⟨_, rfl⟩
    have HS8 : Hid (NSt w w8 b w.heap.size (w.heap.size + 1) Q' T' (k + 1) s t l q st (.slice a n cap) s t l q st (.slice a n cap)) := by rw [← hw8]; exact HS7.out.below ((Below.refl _ _).alloc (Nat.le_refl _) _)
    have HX8 : Hid (Box w8 w7.heap.size s t l q st (.slice a n cap)) := by rw [← hw8]; exact Box.new w7 _ _ _ _ _ _
    have HLt : Hid (b < w7.heap.size ∧ w.heap.size < w7.heap.size ∧ w.heap.size + 1 < w7.heap.size) := ⟨HS7.out.ref.lt, HS7.out.box.lt, HS7.out.res.lt⟩
    rw [hw8]
    clear hw8 HS7 x0 x1 x2 x3 x4 x5
    obtain ⟨xb, hxb⟩ : ∃ xb, w7.heap.size = xb := ⟨_, rfl⟩
    rw [hxb] at HX8 HLt
    rw [hxb]
    clear hxb
    obtain ⟨c0, c1, c2, c3, c4, c5, c6, c7, c8⟩ := HS8.out.ref.cells
    obtain ⟨x0, x1, x2, x3, x4, x5⟩ := HX8.out.cells
    have f0 := boxFree HX8.out 0
    have f1 := boxFree HX8.out 1
    clear c2 c3 c4 c5 c6 c7 c8
    have m1 : ¬ b = xb := by have := HLt.out; omega
    have m2 : ¬ xb = b := by omega
    go_upto_region 14 with fail
    obtain ⟨w9, hw9⟩ : ∃ w9, (w8.setCell ⟨xb, 0, none⟩ (.int .i64 Q')).setCell ⟨xb, 1, none⟩ (.int .i64 T') = w9 := ⟨_, rfl⟩
    have HS9 : Hid (NSt w w9 b w.heap.size (w.heap.size + 1) Q' T' (k + 1) s t l q st (.slice a n cap) s t l q st (.slice a n cap)) := by
      have := HLt.out
      rw [← hw9]; exact (HS8.out.new (by omega) (by omega) (by omega) (by omega) 0 _).new (by omega) (by omega) (by omega) (by omega) 1 _
    have HX9 : Hid (Box w9 xb Q' T' l q st (.slice a n cap)) := by rw [← hw9]; exact boxSet1 (boxSet0 HX8.out Q') T'
    rw [hw9]
    clear hw9 HS8 HX8 c0 c1 x0 x1 x2 x3 x4 x5 f0 f1
    obtain ⟨x0, x1, x2, x3, x4, x5⟩ := HX9.out.cells
    obtain ⟨z0, z1, z2, z3, z4, z5⟩ := HS9.out.res.cells
    have f0 := boxFree HS9.out.res 0
    have f1 := boxFree HS9.out.res 1
    have f2 := boxFree HS9.out.res 2
    have f3 := boxFree HS9.out.res 3
    have f4 := boxFree HS9.out.res 4
    have f5 := boxFree HS9.out.res 5
    have m3 : ¬ xb = w.heap.size + 1 := by have := HLt.out; omega
    have m4 : ¬ w.heap.size + 1 = xb := by omega
    go_wp2_with fail
    have hoo : Only [b] w _ := only_new (g := w.heap.size + 1) (only_new (g := w.heap.size + 1) (only_new (g := w.heap.size + 1) (only_new (g := w.heap.size + 1) (only_new (g := w.heap.size + 1) (only_new (g := w.heap.size + 1) HS9.out.only (by omega) 0 (.int .i64 Q')) (by omega) 1 (.int .i64 T')) (by omega) 2 (.int .i64 l)) (by omega) 3 (.int .i64 q)) (by omega) 4 (.bool st)) (by omega) 5 (.slice a n cap)
    have hu : RefAt _ b Q' T' (k + 1) s t l q st (.slice a n cap) := refOther (refOther (refOther (refOther (refOther (refOther HS9.out.ref (p := ⟨w.heap.size + 1, 0, none⟩) n3 (.int .i64 Q')) (p := ⟨w.heap.size + 1, 1, none⟩) n3 (.int .i64 T')) (p := ⟨w.heap.size + 1, 2, none⟩) n3 (.int .i64 l)) (p := ⟨w.heap.size + 1, 3, none⟩) n3 (.int .i64 q)) (p := ⟨w.heap.size + 1, 4, none⟩) n3 (.bool st)) (p := ⟨w.heap.size + 1, 5, none⟩) n3 (.slice a n cap)
    refine bodyPost_ret (res_pk (g := w.heap.size + 1) rfl rfl (box6 HS9.out.res Q' T' l q st (.slice a n cap))) rfl ?_
    exact ⟨rfl, hu, hoo⟩
end Go.Proofs.YtblmjllignibgafDoor.ROut
