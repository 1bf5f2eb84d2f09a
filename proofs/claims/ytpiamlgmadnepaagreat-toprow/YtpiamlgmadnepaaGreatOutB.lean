/-
  What Next of package out returns, and what it leaves in memory. Its condition: the Out is such as it may be.
-/
import Derived.Test.YtpiamlgmadnepaaGreatOutA
import Derived.Deep.RegionHeld3
namespace Go.Proofs.YtpiamlgmadnepaaGreat.Out
open Go.ChangeShapes Go.WideShapes Go.ChangeAt Go.RowKit Go.Proofs.YtpiamlgmadnepaaGreat.PM Go.Proofs.YtpiamlgmadnepaaGreat.Mem Go.Proofs.YtpiamlgmadnepaaGreat.Pack Go.Proofs.YtpiamlgmadnepaaGreat.UM
set_option linter.unusedVariables false

/-- a variable of a packet, written whole -/
theorem box6 {W : World} {g : Nat} {z0 z1 z2 z3 z4 z5 : Value} (hh : W.heap[g]? = some (.cells #[z0, z1, z2, z3, z4, z5] 38 (0, 0))) (s t l v : Int) (st : Bool) (bv : Value) :
    Box ((((((W.setCell ⟨g, 0, none⟩ (.int .i64 s)).setCell ⟨g, 1, none⟩ (.int .i64 t)).setCell ⟨g, 2, none⟩ (.int .i64 l)).setCell ⟨g, 3, none⟩ (.int .i64 v)).setCell ⟨g, 4, none⟩ (.bool st)).setCell ⟨g, 5, none⟩ bv) g s t l v st bv := by
  have h0 := heap_setCell_same _ _ 0 _ _ (.int .i64 s) hh
  have h1 := heap_setCell_same _ _ 1 _ _ (.int .i64 t) h0
  have h2 := heap_setCell_same _ _ 2 _ _ (.int .i64 l) h1
  have h3 := heap_setCell_same _ _ 3 _ _ (.int .i64 v) h2
  have h4 := heap_setCell_same _ _ 4 _ _ (.bool st) h3
  have h5 := heap_setCell_same _ _ 5 _ _ bv h4
  exact h5
theorem only6 {w W : World} {bs : List Nat} {g : Nat} (h : Only bs w W) (hg : g ∈ bs) (v0 v1 v2 v3 v4 v5 : Value) :
    Only bs w ((((((W.setCell ⟨g, 0, none⟩ v0).setCell ⟨g, 1, none⟩ v1).setCell ⟨g, 2, none⟩ v2).setCell ⟨g, 3, none⟩ v3).setCell ⟨g, 4, none⟩ v4).setCell ⟨g, 5, none⟩ v5) :=
  (((((h.setCell hg _).setCell hg _).setCell hg _).setCell hg _).setCell hg _).setCell hg _
theorem boxSet0 {w : World} {g : Nat} {s t l q : Int} {st : Bool} {bv : Value} (h : Box w g s t l q st bv) (x : Int) : Box (w.setCell ⟨g, 0, none⟩ (.int .i64 x)) g x t l q st bv := heap_setCell_same w g 0 _ _ _ h
theorem boxSet1 {w : World} {g : Nat} {s t l q : Int} {st : Bool} {bv : Value} (h : Box w g s t l q st bv) (x : Int) : Box (w.setCell ⟨g, 1, none⟩ (.int .i64 x)) g s x l q st bv := heap_setCell_same w g 1 _ _ _ h
theorem boxSet5 {w : World} {g : Nat} {s t l q : Int} {st : Bool} {bv : Value} (h : Box w g s t l q st bv) (x : Value) : Box (w.setCell ⟨g, 5, none⟩ x) g s t l q st x := heap_setCell_same w g 5 _ _ _ h
theorem boxOther {w : World} {g : Nat} {s t l q : Int} {st : Bool} {bv : Value} (h : Box w g s t l q st bv) {p : Addr} (hp : g ≠ p.block) (u : Value) : Box (w.setCell p u) g s t l q st bv := (Below.heap_setCell _ _ _ _ hp).trans h
theorem boxFree {w : World} {g : Nat} {s t l q : Int} {st : Bool} {bv : Value} (h : Box w g s t l q st bv) (j : Nat) : w.frozen? ⟨g, j, none⟩ = false := by
  simp only [Box] at h
  simp [World.frozen?, h]
theorem outOther {w : World} {b : Nat} {S : Int} {k : Nat} {T ly ow : Int} (h : OutAt w b S k T ly ow) {p : Addr} (hp : b ≠ p.block) (u : Value) : OutAt (w.setCell p u) b S k T ly ow := (Below.heap_setCell _ _ _ _ hp).trans h

/-- no byte lies in a packet's variable -/
theorem boxNob {w : World} {g : Nat} {s t l q : Int} {st : Bool} {a : Option Addr} {n c : Nat} (h : Box w g s t l q st (.slice a n c)) (j : Nat) (x : Int) : w.cell? ⟨g, j, none⟩ ≠ some (.int .u8 x) := by
  simp only [Box] at h
  rcases Nat.lt_or_ge j 6 with hj | hj
  · rcases j with _ | _ | _ | _ | _ | _ | j
    · simp [World.cell?, h]
    · simp [World.cell?, h]
    · simp [World.cell?, h]
    · simp [World.cell?, h]
    · simp [World.cell?, h]
    · simp [World.cell?, h]
    · omega
  · simp [World.cell?, h, show ¬ j < 6 by omega]
theorem argOnly {w w' : World} {g : Nat} (h : ∀ j c, w.cell? ⟨g, j, none⟩ ≠ some (.int .u8 c)) (ho : Only [g] w w') {a : Option Addr} {n : Nat} {L : List Nat} (hA : Arg w a n L) : Arg w' a n L := by
  refine ⟨⟨hA.1.1, fun j hj => ?_⟩, hA.2⟩
  obtain ⟨bb, o, e, hc⟩ := hA.1.2 j hj
  refine ⟨bb, o, e, ?_⟩
  have hne : bb ≠ g := fun e => by rw [e] at hc; exact h _ _ hc
  have hb := ho.2.2.2.2 bb (World.block_lt_of_cell? w ⟨bb, o + j, none⟩ hc) (by simp; exact hne)
  rw [← hc]
  simp [World.cell?, hb]
/-- under way within Next: the Out, the packet in its variable g, the result's variable r -/
structure NSt (w W : World) (b g r : Nat) (S : Int) (k : Nat) (T ly ow s t l q : Int) (st : Bool) (bv : Value) : Prop where
  out : OutAt W b S k T ly ow
  box : Box W g s t l q st bv
  res : Box W r 0 0 0 0 false (.slice none 0 0)
  only : Only [b] w W
  hb : b < w.heap.size
  hg : w.heap.size ≤ g
  hr : w.heap.size ≤ r
  ne : g ≠ r
theorem NSt.start {w : World} {b : Nat} {S : Int} {k : Nat} {T ly ow : Int} (h : OutAt w b S k T ly ow) (s t l q : Int) (st : Bool) (bv : Value) :
    NSt w ((w.alloc (.cells #[.int .i64 s, .int .i64 t, .int .i64 l, .int .i64 q, .bool st, bv] 38)).alloc (.cells #[.int .i64 0, .int .i64 0, .int .i64 0, .int .i64 0, .bool false, .slice none 0 0] 38)) b w.heap.size (w.heap.size + 1) S k T ly ow s t l q st bv := by
  refine ⟨(h.alloc _).alloc _, (Box.new w s t l q st bv).alloc _, ?_, ((Only.refl _ _).alloc _).alloc _, h.lt, Nat.le_refl _, Nat.le_succ _, by omega⟩
  have := Box.new (w.alloc (.cells #[.int .i64 s, .int .i64 t, .int .i64 l, .int .i64 q, .bool st, bv] 38)) 0 0 0 0 false (.slice none 0 0)
  simpa using this
theorem NSt.below {w W W' : World} {b g r : Nat} {S : Int} {k : Nat} {T ly ow s t l q : Int} {st : Bool} {bv : Value} (h : NSt w W b g r S k T ly ow s t l q st bv) (hb : Below W.heap.size W W') : NSt w W' b g r S k T ly ow s t l q st bv :=
  ⟨h.out.below hb, h.box.below hb h.box.lt, h.res.below hb h.res.lt, h.only.trans (Only.of_below hb _), h.hb, h.hg, h.hr, h.ne⟩
theorem NSt.ds {w W : World} {b g r : Nat} {S : Int} {k : Nat} {T ly ow s t l q : Int} {st : Bool} {bv : Value} (h : NSt w W b g r S k T ly ow s t l q st bv) : ¬ b = g ∧ ¬ g = b ∧ ¬ b = r ∧ ¬ r = b ∧ ¬ g = r ∧ ¬ r = g := by
  obtain ⟨_, _, _, _, h1, h2, h3, h4⟩ := h
  omega
theorem NSt.setT {w W : World} {b g r : Nat} {S : Int} {k : Nat} {T ly ow s t l q : Int} {st : Bool} {bv : Value} (h : NSt w W b g r S k T ly ow s t l q st bv) (x : Int) : NSt w (W.setCell ⟨b, 2, none⟩ (.int .i64 x)) b g r S k x ly ow s t l q st bv :=
  ⟨h.out.setT x, boxOther h.box h.ds.2.1 _, boxOther h.res h.ds.2.2.2.1 _, h.only.setCell (by simp) _, h.hb, h.hg, h.hr, h.ne⟩
theorem NSt.setL {w W : World} {b g r : Nat} {S : Int} {k : Nat} {T ly ow s t l q : Int} {st : Bool} {bv : Value} (h : NSt w W b g r S k T ly ow s t l q st bv) (x : Int) : NSt w (W.setCell ⟨b, 3, none⟩ (.int .i64 x)) b g r S k T x ow s t l q st bv :=
  ⟨h.out.setL x, boxOther h.box h.ds.2.1 _, boxOther h.res h.ds.2.2.2.1 _, h.only.setCell (by simp) _, h.hb, h.hg, h.hr, h.ne⟩
theorem NSt.setO {w W : World} {b g r : Nat} {S : Int} {k : Nat} {T ly ow s t l q : Int} {st : Bool} {bv : Value} (h : NSt w W b g r S k T ly ow s t l q st bv) (x : Int) : NSt w (W.setCell ⟨b, 4, none⟩ (.int .i64 x)) b g r S k T ly x s t l q st bv :=
  ⟨h.out.setO x, boxOther h.box h.ds.2.1 _, boxOther h.res h.ds.2.2.2.1 _, h.only.setCell (by simp) _, h.hb, h.hg, h.hr, h.ne⟩
theorem NSt.setK {w W : World} {b g r : Nat} {S : Int} {k : Nat} {T ly ow s t l q : Int} {st : Bool} {bv : Value} (h : NSt w W b g r S k T ly ow s t l q st bv) : NSt w (W.setCell ⟨b, 1, none⟩ (.int .i64 ((k : Int) + 1))) b g r S (k + 1) T ly ow s t l q st bv :=
  ⟨h.out.setK, boxOther h.box h.ds.2.1 _, boxOther h.res h.ds.2.2.2.1 _, h.only.setCell (by simp) _, h.hb, h.hg, h.hr, h.ne⟩
theorem only_new {bs : List Nat} {w W : World} {g : Nat} (h : Only bs w W) (hg : w.heap.size ≤ g) (j : Nat) (u : Value) : Only bs w (W.setCell ⟨g, j, none⟩ u) :=
  ⟨h.1, h.2.1, h.2.2.1, by simp [World.setCell]; exact h.2.2.2.1, fun k hk hn => (Below.heap_setCell _ _ _ _ (by show k ≠ g; omega)).trans (h.2.2.2.2 k hk hn)⟩
theorem NSt.set0 {w W : World} {b g r : Nat} {S : Int} {k : Nat} {T ly ow s t l q : Int} {st : Bool} {bv : Value} (h : NSt w W b g r S k T ly ow s t l q st bv) (x : Int) : NSt w (W.setCell ⟨g, 0, none⟩ (.int .i64 x)) b g r S k T ly ow x t l q st bv :=
  ⟨outOther h.out h.ds.1 _, boxSet0 h.box x, boxOther h.res h.ds.2.2.2.2.2 _, only_new h.only h.hg _ _, h.hb, h.hg, h.hr, h.ne⟩
theorem NSt.set1 {w W : World} {b g r : Nat} {S : Int} {k : Nat} {T ly ow s t l q : Int} {st : Bool} {bv : Value} (h : NSt w W b g r S k T ly ow s t l q st bv) (x : Int) : NSt w (W.setCell ⟨g, 1, none⟩ (.int .i64 x)) b g r S k T ly ow s x l q st bv :=
  ⟨outOther h.out h.ds.1 _, boxSet1 h.box x, boxOther h.res h.ds.2.2.2.2.2 _, only_new h.only h.hg _ _, h.hb, h.hg, h.hr, h.ne⟩
theorem NSt.set5 {w W : World} {b g r : Nat} {S : Int} {k : Nat} {T ly ow s t l q : Int} {st : Bool} {bv : Value} (h : NSt w W b g r S k T ly ow s t l q st bv) (x : Value) : NSt w (W.setCell ⟨g, 5, none⟩ x) b g r S k T ly ow s t l q st x :=
  ⟨outOther h.out h.ds.1 _, boxSet5 h.box x, boxOther h.res h.ds.2.2.2.2.2 _, only_new h.only h.hg _ _, h.hb, h.hg, h.hr, h.ne⟩
theorem NSt.grown {w W W' : World} {b g r : Nat} {S : Int} {k : Nat} {T ly ow s t l q : Int} {st : Bool} {bv : Value} (h : NSt w W b g r S k T ly ow s t l q st bv) (hg : W.grownBy W' none) : NSt w W' b g r S k T ly ow s t l q st bv :=
  h.below ((Below.refl _ _).grown hg (Nat.le_refl _) (by simp))

set_option maxHeartbeats 2000000 in
set_option maxRecDepth 100000 in
theorem next_err (b : Nat) (S : Int) (k : Nat) (T ly ow : Int) (s t l q : Int) (st : Bool) (a : Option Addr) (n cap : Nat) (w : World) (h : OutAt w b S k T ly ow) (hf : fault s t l q n ≠ 0) :
    Calls Tryz.prog 34 #[.pointer (some ⟨b, 0, none⟩), .agg #[.int .i64 s, .int .i64 t, .int .i64 l, .int .i64 q, .bool st, .slice a n cap]] w fun e w' => e = .returned (.tuple #[.agg #[.int .i64 0, .int .i64 0, .int .i64 0, .int .i64 0, .bool false, .slice none 0 0], errv (fault s t l q n)]) ∧ Below w.heap.size w w' := by
  have HC := hidden (fun W => Pack.check_calls s t l q st a n cap W)
  have HS := hidden (NSt.start h s t l q st (.slice a n cap))
  generalize fault s t l q n = f at *
  have HB := hidden (((Below.refl w.heap.size w).alloc (Nat.le_refl _) (.cells #[.int .i64 s, .int .i64 t, .int .i64 l, .int .i64 q, .bool st, .slice a n cap] 38)).alloc (by simp) (.cells #[.int .i64 0, .int .i64 0, .int .i64 0, .int .i64 0, .bool false, .slice none 0 0] 38))
  have hcmp := cmp_ne f
  have hgrd := grd_ne f
  rw [decide_eq_false hf] at hcmp
  clear h hf
  go_enter Tryz.func34, Tryz.ntmps34
  go_wp2_with fail
  refine (HC.out _).mono ?_
  rintro e w2 ⟨rfl, hb⟩
  have HS2 := hidden (HS.out.below hb)
  have HB2 : Hid (Below w.heap.size w w2) := HB.out.trans (hb.mono HB.out.size)
  clear hb HS HB HC
  obtain ⟨x0, x1, x2, x3, x4, x5⟩ := HS2.out.res.cells
  have f0 := boxFree HS2.out.res 0
  have f1 := boxFree HS2.out.res 1
  have f2 := boxFree HS2.out.res 2
  have f3 := boxFree HS2.out.res 3
  have f4 := boxFree HS2.out.res 4
  have f5 := boxFree HS2.out.res 5
  go_wp2_with fail
  refine bodyPost_ret (res_pk (g := w.heap.size + 1) rfl rfl (box6 HS2.out.res 0 0 0 0 false (.slice none 0 0))) rfl ?_
  exact ⟨rfl, HB2.out.trans ((only6 (bs := [w.heap.size + 1]) (Only.refl _ w2) (by simp) _ _ _ _ _ _).below HB2.out.size (by simp))⟩

end Go.Proofs.YtpiamlgmadnepaaGreat.Out

