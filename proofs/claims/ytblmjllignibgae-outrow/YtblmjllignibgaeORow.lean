/-
  The walk of the Go function OutRow: it returns true at any two numbers and any row of packets.
-/
import Derived.Test.YtblmjllignibgaeOutC
import Derived.Test.YtblmjllignibgaeOpenP
import Derived.Test.YtblmjllignibgaeSame
import Derived.Test.YtblmjllignibgaeRPack
import Derived.LoopTactic
import Derived.Deep.CutRange
import Derived.Deep.LoopGhost
namespace Go.Proofs.Ytblmjllignibgae.ORow
open Go.ChangeShapes Go.WideShapes Go.ChangeAt Go.RowKit Go.Proofs.Ytblmjllignibgae.PM Go.Proofs.Ytblmjllignibgae.Mem Go.Proofs.Ytblmjllignibgae.Pack Go.Proofs.Ytblmjllignibgae.UM Go.Proofs.Ytblmjllignibgae.Out Go.Proofs.Ytblmjllignibgae.RPack
set_option linter.unusedVariables false

theorem first_a (b : Nat) (w : World) (h : OutAt w b 65535 0 5 0 0) :
    Calls Try.prog 17 #[.pointer (some ⟨b, 0, none⟩), .agg #[.int .i64 3, .int .i64 100, .int .i64 0, .int .i64 0, .bool false, .slice none 0 0]] w fun e w' => ∃ a' c', e = .returned (.tuple #[.agg #[.int .i64 65535, .int .i64 5, .int .i64 0, .int .i64 0, .bool false, .slice a' 0 c'], .nilIface]) ∧ OutAt w' b 65535 1 5 0 100 ∧ Only [b] w w' := by
  refine (next_ok b 65535 0 5 0 0 3 100 0 0 false none 0 0 [] w h ⟨by decide, by decide, by decide, by decide, by decide, by decide, by decide⟩ (by decide) (by decide) ⟨Bys.nil _ _, rfl, by omega⟩ (fun _ => ⟨rfl, rfl⟩)).mono ?_
  rintro e w' ⟨a', c', rfl, h1, _, _, h2⟩
  exact ⟨a', c', rfl, h1, h2⟩
theorem first_b (b : Nat) (w : World) (h : OutAt w b 65535 1 5 0 100) :
    Calls Try.prog 17 #[.pointer (some ⟨b, 0, none⟩), .agg #[.int .i64 9, .int .i64 130, .int .i64 0, .int .i64 0, .bool false, .slice none 0 0]] w fun e w' => ∃ a' c', e = .returned (.tuple #[.agg #[.int .i64 0, .int .i64 35, .int .i64 0, .int .i64 0, .bool false, .slice a' 0 c'], .nilIface]) ∧ OutAt w' b 65535 2 35 0 130 ∧ Only [b] w w' := by
  refine (next_ok b 65535 1 5 0 100 9 130 0 0 false none 0 0 [] w h ⟨by decide, by decide, by decide, by decide, by decide, by decide, by decide⟩ (by decide) (by decide) ⟨Bys.nil _ _, rfl, by omega⟩ (fun _ => ⟨rfl, rfl⟩)).mono ?_
  rintro e w' ⟨a', c', rfl, h1, _, _, h2⟩
  exact ⟨a', c', rfl, h1, h2⟩

/-- under way: the Out, what came last (was), what went out last (went) -/
structure RSt (w W : World) (b xw xg : Nat) (S D : Int) (k : Nat) (T ly ow wt : Int) : Prop where
  out : OutAt W b S k T ly ow
  inv : UM.Inv S k T ow
  fst : k = 0 → T = D
  nxt : k ≠ 0 → wt = T
  was : ∃ s q st bv, Box W xw s ow ly q st bv
  went : ∃ s l q st bv, Box W xg s wt l q st bv
  bel : Below w.heap.size w W
  hb : w.heap.size ≤ b
  hw : w.heap.size ≤ xw
  hg : w.heap.size ≤ xg
  n1 : b ≠ xw
  n2 : b ≠ xg
  n3 : xw ≠ xg
theorem RSt.only {w W W' : World} {b xw xg : Nat} {S D : Int} {k : Nat} {T ly ow wt : Int} {bs : List Nat} (h : RSt w W b xw xg S D k T ly ow wt) (ho : Only bs W W') (h1 : b ∉ bs) (h2 : xw ∉ bs) (h3 : xg ∉ bs) (h4 : ∀ x ∈ bs, w.heap.size ≤ x) : RSt w W' b xw xg S D k T ly ow wt := by
  obtain ⟨s, q, st, bv, hx⟩ := h.was
  obtain ⟨s', l', q', st', bv', hy⟩ := h.went
  exact ⟨h.out.only ho h1, h.inv, h.fst, h.nxt, ⟨s, q, st, bv, ho.block hx h2⟩, ⟨s', l', q', st', bv', ho.block hy h3⟩, h.bel.trans (ho.below h.bel.size h4), h.hb, h.hw, h.hg, h.n1, h.n2, h.n3⟩
theorem RSt.below {w W W' : World} {b xw xg : Nat} {S D : Int} {k : Nat} {T ly ow wt : Int} (h : RSt w W b xw xg S D k T ly ow wt) (hb : Below W.heap.size W W') : RSt w W' b xw xg S D k T ly ow wt :=
  h.only (Only.of_below hb []) (by simp) (by simp) (by simp) (by simp)
theorem RSt.lt {w W : World} {b xw xg : Nat} {S D : Int} {k : Nat} {T ly ow wt : Int} (h : RSt w W b xw xg S D k T ly ow wt) : b < W.heap.size ∧ xw < W.heap.size ∧ xg < W.heap.size := by
  obtain ⟨s, q, st, bv, hx⟩ := h.was
  obtain ⟨s', l', q', st', bv', hy⟩ := h.went
  exact ⟨h.out.lt, hx.lt, hy.lt⟩
/-- Next has gone on; was and went are as they were -/
structure GSt (w W : World) (b xw xg : Nat) (S D : Int) (k : Nat) (T ly ow wt T' l t : Int) : Prop where
  out : OutAt W b S (k + 1) T' l t
  inv : UM.Inv S (k + 1) T' t
  was : ∃ s q st bv, Box W xw s ow ly q st bv
  went : ∃ s l q st bv, Box W xg s wt l q st bv
  bel : Below w.heap.size w W
  hb : w.heap.size ≤ b
  hw : w.heap.size ≤ xw
  hg : w.heap.size ≤ xg
  n1 : b ≠ xw
  n2 : b ≠ xg
  n3 : xw ≠ xg
theorem GSt.only {w W W' : World} {b xw xg : Nat} {S D : Int} {k : Nat} {T ly ow wt T' l t : Int} {bs : List Nat} (h : GSt w W b xw xg S D k T ly ow wt T' l t) (ho : Only bs W W') (h1 : b ∉ bs) (h2 : xw ∉ bs) (h3 : xg ∉ bs) (h4 : ∀ x ∈ bs, w.heap.size ≤ x) : GSt w W' b xw xg S D k T ly ow wt T' l t := by
  obtain ⟨s, q, st, bv, hx⟩ := h.was
  obtain ⟨s', l', q', st', bv', hy⟩ := h.went
  exact ⟨h.out.only ho h1, h.inv, ⟨s, q, st, bv, ho.block hx h2⟩, ⟨s', l', q', st', bv', ho.block hy h3⟩, h.bel.trans (ho.below h.bel.size h4), h.hb, h.hw, h.hg, h.n1, h.n2, h.n3⟩
theorem GSt.below {w W W' : World} {b xw xg : Nat} {S D : Int} {k : Nat} {T ly ow wt T' l t : Int} (h : GSt w W b xw xg S D k T ly ow wt T' l t) (hb : Below W.heap.size W W') : GSt w W' b xw xg S D k T ly ow wt T' l t :=
  h.only (Only.of_below hb []) (by simp) (by simp) (by simp) (by simp)
theorem GSt.lt {w W : World} {b xw xg : Nat} {S D : Int} {k : Nat} {T ly ow wt T' l t : Int} (h : GSt w W b xw xg S D k T ly ow wt T' l t) : b < W.heap.size ∧ xw < W.heap.size ∧ xg < W.heap.size := by
  obtain ⟨s, q, st, bv, hx⟩ := h.was
  obtain ⟨s', l', q', st', bv', hy⟩ := h.went
  exact ⟨h.out.lt, hx.lt, hy.lt⟩
theorem GSt.setWas {w W : World} {b xw xg : Nat} {S D : Int} {k : Nat} {T ly ow wt T' l t : Int} (h : GSt w W b xw xg S D k T ly ow wt T' l t) (s q : Int) (st : Bool) (bv : Value) :
    GSt w ((((((W.setCell ⟨xw, 0, none⟩ (.int .i64 s)).setCell ⟨xw, 1, none⟩ (.int .i64 t)).setCell ⟨xw, 2, none⟩ (.int .i64 l)).setCell ⟨xw, 3, none⟩ (.int .i64 q)).setCell ⟨xw, 4, none⟩ (.bool st)).setCell ⟨xw, 5, none⟩ bv) b xw xg S D k T l t wt T' l t := by
  obtain ⟨s0, q0, st0, bv0, hx⟩ := h.was
  obtain ⟨s', l', q', st', bv', hy⟩ := h.went
  have ho : Only [xw] W _ := only6 (g := xw) (Only.refl _ W) (by simp) (.int .i64 s) (.int .i64 t) (.int .i64 l) (.int .i64 q) (.bool st) bv
  exact ⟨h.out.only ho (by simp; exact h.n1), h.inv, ⟨s, q, st, bv, box6 hx s t l q st bv⟩, ⟨s', l', q', st', bv', ho.block hy (by simp; exact fun e => h.n3 e.symm)⟩, h.bel.trans (ho.below h.bel.size (by simp; exact h.hw)), h.hb, h.hw, h.hg, h.n1, h.n2, h.n3⟩
theorem GSt.setWent {w W : World} {b xw xg : Nat} {S D : Int} {k : Nat} {T ly ow wt T' l t : Int} (h : GSt w W b xw xg S D k T ly ow wt T' l t) (s q : Int) (st : Bool) (bv : Value) :
    GSt w ((((((W.setCell ⟨xg, 0, none⟩ (.int .i64 s)).setCell ⟨xg, 1, none⟩ (.int .i64 T')).setCell ⟨xg, 2, none⟩ (.int .i64 l)).setCell ⟨xg, 3, none⟩ (.int .i64 q)).setCell ⟨xg, 4, none⟩ (.bool st)).setCell ⟨xg, 5, none⟩ bv) b xw xg S D k T ly ow T' T' l t := by
  obtain ⟨s0, q0, st0, bv0, hx⟩ := h.was
  obtain ⟨s', l', q', st', bv', hy⟩ := h.went
  have ho : Only [xg] W _ := only6 (g := xg) (Only.refl _ W) (by simp) (.int .i64 s) (.int .i64 T') (.int .i64 l) (.int .i64 q) (.bool st) bv
  exact ⟨h.out.only ho (by simp; exact h.n2), h.inv, ⟨s0, q0, st0, bv0, ho.block hx (by simp; exact h.n3)⟩, ⟨s, l, q, st, bv, box6 hy s T' l q st bv⟩, h.bel.trans (ho.below h.bel.size (by simp; exact h.hg)), h.hb, h.hw, h.hg, h.n1, h.n2, h.n3⟩
theorem GSt.done {w W : World} {b xw xg : Nat} {S D : Int} {k : Nat} {T T' l t : Int} (h : GSt w W b xw xg S D k T l t T' T' l t) : RSt w W b xw xg S D (k + 1) T' l t T' :=
  ⟨h.out, h.inv, fun e => by omega, fun _ => rfl, h.was, h.went, h.bel, h.hb, h.hw, h.hg, h.n1, h.n2, h.n3⟩
theorem row_next (w : World) (b xw xg : Nat) (S D : Int) (k : Nat) (T ly ow wt : Int) (s t l q : Int) (st : Bool) (ad : Option Addr) (m c : Nat) (L : List Nat) (W : World) (h : RSt w W b xw xg S D k T ly ow wt) (hk : k < 1000) (hf : fault s t l q m = 0) (hA : Arg w ad m L) (hN : ad = none → m = 0 ∧ c = 0) :
    Calls Try.prog 17 #[.pointer (some ⟨b, 0, none⟩), .agg #[.int .i64 s, .int .i64 t, .int .i64 l, .int .i64 q, .bool st, .slice ad m c]] W fun e w' => ∃ a' c', e = .returned (.tuple #[.agg #[.int .i64 (sq S k), .int .i64 (nt k T ly ow l t), .int .i64 l, .int .i64 q, .bool st, .slice a' m c'], .nilIface]) ∧
      GSt w w' b xw xg S D k T ly ow wt (nt k T ly ow l t) l t ∧ Arg w' a' m L := by
  have ht : 0 ≤ t ∧ t ≤ 4294967295 := by obtain ⟨_, t', _, _, _, ht, _, _, _, ht1, _⟩ := fault_zero hf; omega
  refine (next_ok b S k T ly ow s t l q st ad m c L W h.out h.inv hk hf (hA.below h.bel) hN).mono ?_
  rintro e w' ⟨a', c', rfl, h1, h2, _, h3⟩
  obtain ⟨s0, q0, st0, bv, hx⟩ := h.was
  obtain ⟨s', l', q', st', bv', hy⟩ := h.went
  exact ⟨a', c', rfl, ⟨h1, h.inv.next hk ht.1 ht.2, ⟨s0, q0, st0, bv, h3.block hx (by simp; exact fun e => h.n1 e.symm)⟩, ⟨s', l', q', st', bv', h3.block hy (by simp; exact fun e => h.n2 e.symm)⟩, h.bel.trans (h3.below h.bel.size (by simp; exact h.hb)), h.hb, h.hw, h.hg, h.n1, h.n2, h.n3⟩, h2⟩

set_option maxHeartbeats 4000000 in
set_option maxRecDepth 100000 in
theorem walk_e0 (S D : Int) (vl : Value) (w : World) (h : S < 0) :
    Calls Try.prog 6 #[.int .i64 S, .int .i64 D, vl] w fun e w' => e = .returned (.bool true) ∧ Below w.heap.size w w' := by
  have HE := hidden (fun W => new_err S D W (by omega))
  have d : decide (S < 0) = true := by simpa using h
  have HN1 := hidden (fun W => new_ok 65535 5 W (by omega) (by omega) (by omega) (by omega))
  have HFa := hidden first_a
  have HFb := hidden first_b
  go_enter Try.func6, Try.ntmps6
  go_wp2_with fail
  refine (HN1.out _).mono ?_
  rintro e w1 ⟨b1, rfl, hb1, hL, hB⟩
  have HL1 := hidden hL
  have HB1 := hidden hB
  clear hL hB HN1
  go_wp2_with fail
  refine (HFa.out b1 _ HL1.out).mono ?_
  rintro e w2 ⟨a2, c2, rfl, hL, ho⟩
  obtain ⟨w3, hw3⟩ : ∃ w3, w2.alloc (.cells #[.int .i64 65535, .int .i64 5, .int .i64 0, .int .i64 0, .bool false, .slice a2 0 c2] 32) = w3 := ⟨_, rfl⟩
  have HL3 : Hid (OutAt w3 b1 65535 1 5 0 100) := by rw [← hw3]; exact hL.alloc _
  have HX3 : Hid (Box w3 w2.heap.size 65535 5 0 0 false (.slice a2 0 c2)) := by rw [← hw3]; exact Box.new w2 _ _ _ _ _ _
  have HB3 : Hid (Below w.heap.size w w3) := by
    have := HB1.out.trans (ho.below HB1.out.size (by simp; omega))
    rw [← hw3]; exact this.alloc this.size _
  have HLt : Hid (b1 < w2.heap.size) := hL.lt
  have HW3 := hidden hw3
  clear hw3 hL ho HL1 HB1 HFa
  go_upto_region 5 with fail
  rw [HW3.out]
  clear HW3
  obtain ⟨xa, hxa⟩ : ∃ xa, w2.heap.size = xa := ⟨_, rfl⟩
  rw [hxa] at HX3 HLt
  rw [hxa]
  clear hxa
  go_wp2_with fail
  refine (HFb.out b1 _ HL3.out).mono ?_
  rintro e w4 ⟨a4, c4, rfl, hL, ho⟩
  obtain ⟨w5, hw5⟩ : ∃ w5, w4.alloc (.cells #[.int .i64 0, .int .i64 35, .int .i64 0, .int .i64 0, .bool false, .slice a4 0 c4] 32) = w5 := ⟨_, rfl⟩
  have hX4 : Box w4 xa 65535 5 0 0 false (.slice a2 0 c2) := ho.block HX3.out (by have := HLt.out; simp; omega)
  have HX5 : Hid (Box w5 xa 65535 5 0 0 false (.slice a2 0 c2)) := by rw [← hw5]; exact hX4.alloc _
  have HY5 : Hid (Box w5 w4.heap.size 0 35 0 0 false (.slice a4 0 c4)) := by rw [← hw5]; exact Box.new w4 _ _ _ _ _ _
  have HB5 : Hid (Below w.heap.size w w5) := by
    have := HB3.out.trans (ho.below HB3.out.size (by simp; omega))
    rw [← hw5]; exact this.alloc this.size _
  have HW5 := hidden hw5
  clear hw5 hL ho HL3 HB3 HFb HX3 hX4 HLt
  go_upto_region 6 with fail
  rw [HW5.out]
  clear HW5
  obtain ⟨xb, hxb⟩ : ∃ xb, w4.heap.size = xb := ⟨_, rfl⟩
  rw [hxb] at HY5
  rw [hxb]
  clear hxb hb1
  obtain ⟨x0, x1, x2, x3, x4, x5⟩ := HX5.out.cells
  obtain ⟨y0, y1, y2, y3, y4, y5⟩ := HY5.out.cells
  clear x2 x3 x4 x5 y2 y3 y4 y5
  go_wp2_with fail
  refine (HE.out _).mono ?_
  rintro e w6 ⟨rfl, rfl⟩
  go_wp2_with fail
  go_ret
  exact ⟨rfl, HB5.out⟩
set_option maxHeartbeats 4000000 in
set_option maxRecDepth 100000 in
theorem walk_e1 (S D : Int) (vl : Value) (w : World) (h : 65535 < S) (h0 : ¬ S < 0) :
    Calls Try.prog 6 #[.int .i64 S, .int .i64 D, vl] w fun e w' => e = .returned (.bool true) ∧ Below w.heap.size w w' := by
  have HE := hidden (fun W => new_err S D W (by omega))
  have d : decide (65535 < S) = true := by simpa using h
  have d0 : decide (S < 0) = false := by simpa using h0
  have HN1 := hidden (fun W => new_ok 65535 5 W (by omega) (by omega) (by omega) (by omega))
  have HFa := hidden first_a
  have HFb := hidden first_b
  go_enter Try.func6, Try.ntmps6
  go_wp2_with fail
  refine (HN1.out _).mono ?_
  rintro e w1 ⟨b1, rfl, hb1, hL, hB⟩
  have HL1 := hidden hL
  have HB1 := hidden hB
  clear hL hB HN1
  go_wp2_with fail
  refine (HFa.out b1 _ HL1.out).mono ?_
  rintro e w2 ⟨a2, c2, rfl, hL, ho⟩
  obtain ⟨w3, hw3⟩ : ∃ w3, w2.alloc (.cells #[.int .i64 65535, .int .i64 5, .int .i64 0, .int .i64 0, .bool false, .slice a2 0 c2] 32) = w3 := ⟨_, rfl⟩
  have HL3 : Hid (OutAt w3 b1 65535 1 5 0 100) := by rw [← hw3]; exact hL.alloc _
  have HX3 : Hid (Box w3 w2.heap.size 65535 5 0 0 false (.slice a2 0 c2)) := by rw [← hw3]; exact Box.new w2 _ _ _ _ _ _
  have HB3 : Hid (Below w.heap.size w w3) := by
    have := HB1.out.trans (ho.below HB1.out.size (by simp; omega))
    rw [← hw3]; exact this.alloc this.size _
  have HLt : Hid (b1 < w2.heap.size) := hL.lt
  have HW3 := hidden hw3
  clear hw3 hL ho HL1 HB1 HFa
  go_upto_region 5 with fail
  rw [HW3.out]
  clear HW3
  obtain ⟨xa, hxa⟩ : ∃ xa, w2.heap.size = xa := ⟨_, rfl⟩
  rw [hxa] at HX3 HLt
  rw [hxa]
  clear hxa
  go_wp2_with fail
  refine (HFb.out b1 _ HL3.out).mono ?_
  rintro e w4 ⟨a4, c4, rfl, hL, ho⟩
  obtain ⟨w5, hw5⟩ : ∃ w5, w4.alloc (.cells #[.int .i64 0, .int .i64 35, .int .i64 0, .int .i64 0, .bool false, .slice a4 0 c4] 32) = w5 := ⟨_, rfl⟩
  have hX4 : Box w4 xa 65535 5 0 0 false (.slice a2 0 c2) := ho.block HX3.out (by have := HLt.out; simp; omega)
  have HX5 : Hid (Box w5 xa 65535 5 0 0 false (.slice a2 0 c2)) := by rw [← hw5]; exact hX4.alloc _
  have HY5 : Hid (Box w5 w4.heap.size 0 35 0 0 false (.slice a4 0 c4)) := by rw [← hw5]; exact Box.new w4 _ _ _ _ _ _
  have HB5 : Hid (Below w.heap.size w w5) := by
    have := HB3.out.trans (ho.below HB3.out.size (by simp; omega))
    rw [← hw5]; exact this.alloc this.size _
  have HW5 := hidden hw5
  clear hw5 hL ho HL3 HB3 HFb HX3 hX4 HLt
  go_upto_region 6 with fail
  rw [HW5.out]
  clear HW5
  obtain ⟨xb, hxb⟩ : ∃ xb, w4.heap.size = xb := ⟨_, rfl⟩
  rw [hxb] at HY5
  rw [hxb]
  clear hxb hb1
  obtain ⟨x0, x1, x2, x3, x4, x5⟩ := HX5.out.cells
  obtain ⟨y0, y1, y2, y3, y4, y5⟩ := HY5.out.cells
  clear x2 x3 x4 x5 y2 y3 y4 y5
  go_wp2_with fail
  refine (HE.out _).mono ?_
  rintro e w6 ⟨rfl, rfl⟩
  go_wp2_with fail
  go_ret
  exact ⟨rfl, HB5.out⟩
set_option maxHeartbeats 4000000 in
set_option maxRecDepth 100000 in
theorem walk_e2 (S D : Int) (vl : Value) (w : World) (h : D < 0) (h0 : ¬ S < 0) (h1 : ¬ 65535 < S) :
    Calls Try.prog 6 #[.int .i64 S, .int .i64 D, vl] w fun e w' => e = .returned (.bool true) ∧ Below w.heap.size w w' := by
  have HE := hidden (fun W => new_err S D W (by omega))
  have d : decide (D < 0) = true := by simpa using h
  have d0 : decide (S < 0) = false := by simpa using h0
  have d1 : decide (65535 < S) = false := by simpa using h1
  have HN1 := hidden (fun W => new_ok 65535 5 W (by omega) (by omega) (by omega) (by omega))
  have HFa := hidden first_a
  have HFb := hidden first_b
  go_enter Try.func6, Try.ntmps6
  go_wp2_with fail
  refine (HN1.out _).mono ?_
  rintro e w1 ⟨b1, rfl, hb1, hL, hB⟩
  have HL1 := hidden hL
  have HB1 := hidden hB
  clear hL hB HN1
  go_wp2_with fail
  refine (HFa.out b1 _ HL1.out).mono ?_
  rintro e w2 ⟨a2, c2, rfl, hL, ho⟩
  obtain ⟨w3, hw3⟩ : ∃ w3, w2.alloc (.cells #[.int .i64 65535, .int .i64 5, .int .i64 0, .int .i64 0, .bool false, .slice a2 0 c2] 32) = w3 := ⟨_, rfl⟩
  have HL3 : Hid (OutAt w3 b1 65535 1 5 0 100) := by rw [← hw3]; exact hL.alloc _
  have HX3 : Hid (Box w3 w2.heap.size 65535 5 0 0 false (.slice a2 0 c2)) := by rw [← hw3]; exact Box.new w2 _ _ _ _ _ _
  have HB3 : Hid (Below w.heap.size w w3) := by
    have := HB1.out.trans (ho.below HB1.out.size (by simp; omega))
    rw [← hw3]; exact this.alloc this.size _
  have HLt : Hid (b1 < w2.heap.size) := hL.lt
  have HW3 := hidden hw3
  clear hw3 hL ho HL1 HB1 HFa
  go_upto_region 5 with fail
  rw [HW3.out]
  clear HW3
  obtain ⟨xa, hxa⟩ : ∃ xa, w2.heap.size = xa := ⟨_, rfl⟩
  rw [hxa] at HX3 HLt
  rw [hxa]
  clear hxa
  go_wp2_with fail
  refine (HFb.out b1 _ HL3.out).mono ?_
  rintro e w4 ⟨a4, c4, rfl, hL, ho⟩
  obtain ⟨w5, hw5⟩ : ∃ w5, w4.alloc (.cells #[.int .i64 0, .int .i64 35, .int .i64 0, .int .i64 0, .bool false, .slice a4 0 c4] 32) = w5 := ⟨_, rfl⟩
  have hX4 : Box w4 xa 65535 5 0 0 false (.slice a2 0 c2) := ho.block HX3.out (by have := HLt.out; simp; omega)
  have HX5 : Hid (Box w5 xa 65535 5 0 0 false (.slice a2 0 c2)) := by rw [← hw5]; exact hX4.alloc _
  have HY5 : Hid (Box w5 w4.heap.size 0 35 0 0 false (.slice a4 0 c4)) := by rw [← hw5]; exact Box.new w4 _ _ _ _ _ _
  have HB5 : Hid (Below w.heap.size w w5) := by
    have := HB3.out.trans (ho.below HB3.out.size (by simp; omega))
    rw [← hw5]; exact this.alloc this.size _
  have HW5 := hidden hw5
  clear hw5 hL ho HL3 HB3 HFb HX3 hX4 HLt
  go_upto_region 6 with fail
  rw [HW5.out]
  clear HW5
  obtain ⟨xb, hxb⟩ : ∃ xb, w4.heap.size = xb := ⟨_, rfl⟩
  rw [hxb] at HY5
  rw [hxb]
  clear hxb hb1
  obtain ⟨x0, x1, x2, x3, x4, x5⟩ := HX5.out.cells
  obtain ⟨y0, y1, y2, y3, y4, y5⟩ := HY5.out.cells
  clear x2 x3 x4 x5 y2 y3 y4 y5
  go_wp2_with fail
  refine (HE.out _).mono ?_
  rintro e w6 ⟨rfl, rfl⟩
  go_wp2_with fail
  go_ret
  exact ⟨rfl, HB5.out⟩
set_option maxHeartbeats 4000000 in
set_option maxRecDepth 100000 in
theorem walk_e3 (S D : Int) (vl : Value) (w : World) (h : 4294967295 < D) (h0 : ¬ S < 0) (h1 : ¬ 65535 < S) (h2 : ¬ D < 0) :
    Calls Try.prog 6 #[.int .i64 S, .int .i64 D, vl] w fun e w' => e = .returned (.bool true) ∧ Below w.heap.size w w' := by
  have HE := hidden (fun W => new_err S D W (by omega))
  have d : decide (4294967295 < D) = true := by simpa using h
  have d0 : decide (S < 0) = false := by simpa using h0
  have d1 : decide (65535 < S) = false := by simpa using h1
  have d2 : decide (D < 0) = false := by simpa using h2
  have HN1 := hidden (fun W => new_ok 65535 5 W (by omega) (by omega) (by omega) (by omega))
  have HFa := hidden first_a
  have HFb := hidden first_b
  go_enter Try.func6, Try.ntmps6
  go_wp2_with fail
  refine (HN1.out _).mono ?_
  rintro e w1 ⟨b1, rfl, hb1, hL, hB⟩
  have HL1 := hidden hL
  have HB1 := hidden hB
  clear hL hB HN1
  go_wp2_with fail
  refine (HFa.out b1 _ HL1.out).mono ?_
  rintro e w2 ⟨a2, c2, rfl, hL, ho⟩
  obtain ⟨w3, hw3⟩ : ∃ w3, w2.alloc (.cells #[.int .i64 65535, .int .i64 5, .int .i64 0, .int .i64 0, .bool false, .slice a2 0 c2] 32) = w3 := ⟨_, rfl⟩
  have HL3 : Hid (OutAt w3 b1 65535 1 5 0 100) := by rw [← hw3]; exact hL.alloc _
  have HX3 : Hid (Box w3 w2.heap.size 65535 5 0 0 false (.slice a2 0 c2)) := by rw [← hw3]; exact Box.new w2 _ _ _ _ _ _
  have HB3 : Hid (Below w.heap.size w w3) := by
    have := HB1.out.trans (ho.below HB1.out.size (by simp; omega))
    rw [← hw3]; exact this.alloc this.size _
  have HLt : Hid (b1 < w2.heap.size) := hL.lt
  have HW3 := hidden hw3
  clear hw3 hL ho HL1 HB1 HFa
  go_upto_region 5 with fail
  rw [HW3.out]
  clear HW3
  obtain ⟨xa, hxa⟩ : ∃ xa, w2.heap.size = xa := ⟨_, rfl⟩
  rw [hxa] at HX3 HLt
  rw [hxa]
  clear hxa
  go_wp2_with fail
  refine (HFb.out b1 _ HL3.out).mono ?_
  rintro e w4 ⟨a4, c4, rfl, hL, ho⟩
  obtain ⟨w5, hw5⟩ : ∃ w5, w4.alloc (.cells #[.int .i64 0, .int .i64 35, .int .i64 0, .int .i64 0, .bool false, .slice a4 0 c4] 32) = w5 := ⟨_, rfl⟩
  have hX4 : Box w4 xa 65535 5 0 0 false (.slice a2 0 c2) := ho.block HX3.out (by have := HLt.out; simp; omega)
  have HX5 : Hid (Box w5 xa 65535 5 0 0 false (.slice a2 0 c2)) := by rw [← hw5]; exact hX4.alloc _
  have HY5 : Hid (Box w5 w4.heap.size 0 35 0 0 false (.slice a4 0 c4)) := by rw [← hw5]; exact Box.new w4 _ _ _ _ _ _
  have HB5 : Hid (Below w.heap.size w w5) := by
    have := HB3.out.trans (ho.below HB3.out.size (by simp; omega))
    rw [← hw5]; exact this.alloc this.size _
  have HW5 := hidden hw5
  clear hw5 hL ho HL3 HB3 HFb HX3 hX4 HLt
  go_upto_region 6 with fail
  rw [HW5.out]
  clear HW5
  obtain ⟨xb, hxb⟩ : ∃ xb, w4.heap.size = xb := ⟨_, rfl⟩
  rw [hxb] at HY5
  rw [hxb]
  clear hxb hb1
  obtain ⟨x0, x1, x2, x3, x4, x5⟩ := HX5.out.cells
  obtain ⟨y0, y1, y2, y3, y4, y5⟩ := HY5.out.cells
  clear x2 x3 x4 x5 y2 y3 y4 y5
  go_wp2_with fail
  refine (HE.out _).mono ?_
  rintro e w6 ⟨rfl, rfl⟩
  go_wp2_with fail
  go_ret
  exact ⟨rfl, HB5.out⟩
set_option maxHeartbeats 16000000 in
set_option maxRecDepth 100000 in
theorem walk_ok (S D : Int) (va : Option Addr) (ln cn : Nat) (F : Nat → Open.Pk) (w : World) (h0 : 0 ≤ S) (h1 : S ≤ 65535) (h2 : 0 ≤ D) (h3 : D ≤ 4294967295) (hF : Open.Pks w va ln F) :
    Calls Try.prog 6 #[.int .i64 S, .int .i64 D, .slice va ln cn] w fun e w' => e = .returned (.bool true) ∧ Below w.heap.size w w' := by
  have HM := hidden (fun W => new_ok S D W h0 h1 h2 h3)
  have hln := hF.1
  have HFs := hidden hF.2
  clear hF
  have HN1 := hidden (fun W => new_ok 65535 5 W (by omega) (by omega) (by omega) (by omega))
  have HFa := hidden first_a
  have HFb := hidden first_b
  go_enter Try.func6, Try.ntmps6
  go_wp2_with fail
  refine (HN1.out _).mono ?_
  rintro e w1 ⟨b1, rfl, hb1, hL, hB⟩
  have HL1 := hidden hL
  have HB1 := hidden hB
  clear hL hB HN1
  go_wp2_with fail
  refine (HFa.out b1 _ HL1.out).mono ?_
  rintro e w2 ⟨a2, c2, rfl, hL, ho⟩
  obtain ⟨w3, hw3⟩ : ∃ w3, w2.alloc (.cells #[.int .i64 65535, .int .i64 5, .int .i64 0, .int .i64 0, .bool false, .slice a2 0 c2] 32) = w3 := ⟨_, rfl⟩
  have HL3 : Hid (OutAt w3 b1 65535 1 5 0 100) := by rw [← hw3]; exact hL.alloc _
  have HX3 : Hid (Box w3 w2.heap.size 65535 5 0 0 false (.slice a2 0 c2)) := by rw [← hw3]; exact Box.new w2 _ _ _ _ _ _
  have HB3 : Hid (Below w.heap.size w w3) := by
    have := HB1.out.trans (ho.below HB1.out.size (by simp; omega))
    rw [← hw3]; exact this.alloc this.size _
  have HLt : Hid (b1 < w2.heap.size) := hL.lt
  have HW3 := hidden hw3
  clear hw3 hL ho HL1 HB1 HFa
  go_upto_region 5 with fail
  rw [HW3.out]
  clear HW3
  obtain ⟨xa, hxa⟩ : ∃ xa, w2.heap.size = xa := ⟨_, rfl⟩
  rw [hxa] at HX3 HLt
  rw [hxa]
  clear hxa
  go_wp2_with fail
  refine (HFb.out b1 _ HL3.out).mono ?_
  rintro e w4 ⟨a4, c4, rfl, hL, ho⟩
  obtain ⟨w5, hw5⟩ : ∃ w5, w4.alloc (.cells #[.int .i64 0, .int .i64 35, .int .i64 0, .int .i64 0, .bool false, .slice a4 0 c4] 32) = w5 := ⟨_, rfl⟩
  have hX4 : Box w4 xa 65535 5 0 0 false (.slice a2 0 c2) := ho.block HX3.out (by have := HLt.out; simp; omega)
  have HX5 : Hid (Box w5 xa 65535 5 0 0 false (.slice a2 0 c2)) := by rw [← hw5]; exact hX4.alloc _
  have HY5 : Hid (Box w5 w4.heap.size 0 35 0 0 false (.slice a4 0 c4)) := by rw [← hw5]; exact Box.new w4 _ _ _ _ _ _
  have HB5 : Hid (Below w.heap.size w w5) := by
    have := HB3.out.trans (ho.below HB3.out.size (by simp; omega))
    rw [← hw5]; exact this.alloc this.size _
  have HW5 := hidden hw5
  clear hw5 hL ho HL3 HB3 HFb HX3 hX4 HLt
  go_upto_region 6 with fail
  rw [HW5.out]
  clear HW5
  obtain ⟨xb, hxb⟩ : ∃ xb, w4.heap.size = xb := ⟨_, rfl⟩
  rw [hxb] at HY5
  rw [hxb]
  clear hxb hb1
  obtain ⟨x0, x1, x2, x3, x4, x5⟩ := HX5.out.cells
  obtain ⟨y0, y1, y2, y3, y4, y5⟩ := HY5.out.cells
  clear x2 x3 x4 x5 y2 y3 y4 y5
  go_wp2_with fail
  refine (HM.out _).mono ?_
  rintro e w6 ⟨b, rfl, hb, hL, hB⟩
  have HL6 := hidden hL
  have HB6 : Hid (Below w.heap.size w w6) := HB5.out.trans (hB.mono HB5.out.size)
  have HLe : Hid (w.heap.size ≤ b) := Nat.le_trans HB5.out.size hb
  clear hL hB hb HM HB5 HX5 HY5 x0 x1 y0 y1
  go_wp2_with fail
  obtain ⟨w7, hw7⟩ : ∃ w7, (w6.alloc (.cells #[.int .i64 0, .int .i64 0, .int .i64 0, .int .i64 0, .bool false, .slice none 0 0] 32)).alloc (.cells #[.int .i64 0, .int .i64 0, .int .i64 0, .int .i64 0, .bool false, .slice none 0 0] 32) = w7 := ⟨_, rfl⟩
  have HS0 : Hid (RSt w w7 b w6.heap.size (w6.heap.size + 1) S D 0 D 0 0 0) := by
    have hx := (Box.new w6 0 0 0 0 false (.slice none 0 0)).alloc (.cells #[.int .i64 0, .int .i64 0, .int .i64 0, .int .i64 0, .bool false, .slice none 0 0] 32)
    have hy := Box.new (w6.alloc (.cells #[.int .i64 0, .int .i64 0, .int .i64 0, .int .i64 0, .bool false, .slice none 0 0] 32)) 0 0 0 0 false (.slice none 0 0)
    rw [show (w6.alloc (.cells #[.int .i64 0, .int .i64 0, .int .i64 0, .int .i64 0, .bool false, .slice none 0 0] 32)).heap.size = w6.heap.size + 1 by simp] at hy
    have hu := (HL6.out.alloc (.cells #[.int .i64 0, .int .i64 0, .int .i64 0, .int .i64 0, .bool false, .slice none 0 0] 32)).alloc (.cells #[.int .i64 0, .int .i64 0, .int .i64 0, .int .i64 0, .bool false, .slice none 0 0] 32)
    have hbl := (HB6.out.alloc HB6.out.size (.cells #[.int .i64 0, .int .i64 0, .int .i64 0, .int .i64 0, .bool false, .slice none 0 0] 32)).alloc (by have := HB6.out.size; simp; omega) (.cells #[.int .i64 0, .int .i64 0, .int .i64 0, .int .i64 0, .bool false, .slice none 0 0] 32)
    rw [hw7] at hx hy hu hbl
    have := HL6.out.lt
    have := HB6.out.size
    exact ⟨hu, UM.inv_start h0 h1 h2 h3, fun _ => rfl, fun h => absurd rfl h, ⟨0, 0, false, _, hx⟩, ⟨0, 0, 0, false, _, hy⟩, hbl, HLe.out, by omega, by omega, by omega, by omega, by omega⟩
  rw [hw7]
  clear hw7 HL6 HB6 HLe
  obtain ⟨xg, hxg⟩ : ∃ xg, w6.heap.size + 1 = xg := ⟨_, rfl⟩
  rw [hxg] at HS0
  rw [hxg]
  clear hxg
  obtain ⟨xw, hxw⟩ : ∃ xw, w6.heap.size = xw := ⟨_, rfl⟩
  rw [hxw] at HS0
  rw [hxw]
  clear hxw
  go_loopg [17, 18] 60 (fun g y17 y18 wr => ∃ (i k : Nat) (T ly ow wt : Int), i + g = 60 ∧ k ≤ i ∧ y17 = .int .i64 (k : Int) ∧ y18 = .int .i64 (i : Int) ∧ Hid (RSt w wr b xw xg S D k T ly ow wt))
  case atStart => exact ⟨0, 0, D, 0, 0, 0, by omega, by omega, rfl, rfl, HS0⟩
  case round =>
    obtain ⟨i, k, T, ly, ow, wt, hig, hki, rfl, rfl, HS⟩ := hrel
    clear HS0
    by_cases hi : i < ln
    case neg =>
      have hiz : ¬ (i : Int) < (ln : Int) := by omega
      have di : decide ((i : Int) < (ln : Int)) = false := by simpa using hiz
      go_wp2_with fail
      refine (sent_calls b S k T ly ow _ HS.out.out).mono ?_
      rintro e w8 ⟨rfl, rfl⟩
      go_wp2_with fail
      go_ret
      exact ⟨by simp, HS.out.bel⟩
    case pos =>
    have hiz : (i : Int) < (ln : Int) := by omega
    have di : decide ((i : Int) < (ln : Int)) = true := by simpa using hiz
    by_cases hi8 : i < 60
    case neg =>
      have hiz8 : ¬ (i : Int) < 60 := by omega
      go_wp2_with fail
      refine (sent_calls b S k T ly ow _ HS.out.out).mono ?_
      rintro e w8 ⟨rfl, rfl⟩
      go_wp2_with fail
      go_ret
      exact ⟨by simp, HS.out.bel⟩
    case pos =>
    have hiz8 : (i : Int) < 60 := by omega
    have hi0 : (0 : Int) ≤ (i : Int) := by omega
    obtain ⟨ib, io, rfl, hil, hat, hok⟩ := HFs.out i hi
    obtain ⟨⟨s, t, l, q, st, ad, m, c, L⟩, hFk⟩ : ∃ P, F i = P := ⟨_, rfl⟩
    rw [hFk] at hat hok
    clear hFk
    obtain ⟨i0, i1, i2, i3, i4, i5⟩ := hat
    simp only at i0 i1 i2 i3 i4 i5
    have HOK : Hid (Arg w ad m L ∧ (ad = none → m = 0 ∧ c = 0)) := hidden hok
    clear hok
    have hold : ∀ W (o : Nat) u, Below w.heap.size w W → w.cell? ⟨ib, o, none⟩ = some u → W.cell? ⟨ib, o, none⟩ = some u := fun W o u hb hc => (hb.cell (p := ⟨ib, o, none⟩) hil).trans hc
    have HOld := hidden hold
    have HI : Hid (w.cell? ⟨ib, io + i * 6, none⟩ = some (.int .i64 s) ∧ w.cell? ⟨ib, io + i * 6 + 1, none⟩ = some (.int .i64 t) ∧ w.cell? ⟨ib, io + i * 6 + 2, none⟩ = some (.int .i64 l) ∧ w.cell? ⟨ib, io + i * 6 + 3, none⟩ = some (.int .i64 q) ∧ w.cell? ⟨ib, io + i * 6 + 4, none⟩ = some (.bool st) ∧ w.cell? ⟨ib, io + i * 6 + 5, none⟩ = some (.slice ad m c)) := hidden ⟨i0, i1, i2, i3, i4, i5⟩
    have j0 := hold _ _ _ HS.out.bel i0
    have j1 := hold _ _ _ HS.out.bel i1
    have j2 := hold _ _ _ HS.out.bel i2
    have j3 := hold _ _ _ HS.out.bel i3
    have j4 := hold _ _ _ HS.out.bel i4
    have j5 := hold _ _ _ HS.out.bel i5
    clear hold i0 i1 i2 i3 i4 i5
    obtain ⟨f, hf⟩ : ∃ f, fault s t l q m = f := ⟨_, rfl⟩
    by_cases hf0 : f = 0
    case neg =>
      have HE : Hid (∀ W, OutAt W b S k T ly ow → Calls Try.prog 17 #[.pointer (some ⟨b, 0, none⟩), .agg #[.int .i64 s, .int .i64 t, .int .i64 l, .int .i64 q, .bool st, .slice ad m c]] W fun e w' => e = .returned (.tuple #[.agg #[.int .i64 0, .int .i64 0, .int .i64 0, .int .i64 0, .bool false, .slice none 0 0], .iface 58 (.int .i64 (f : Int))]) ∧ Below W.heap.size W w') := by
        refine hidden (fun W hW => ?_)
        have := next_err b S k T ly ow s t l q st ad m c W hW (by rw [hf]; exact hf0)
        rw [hf, errv_pos hf0] at this
        exact this
      have HR : Hid (∀ W, Calls Try.prog 18 #[.agg #[.int .i64 s, .int .i64 t, .int .i64 l, .int .i64 q, .bool st, .slice ad m c]] W fun e w' => e = .returned (.int .i64 (f : Int)) ∧ Below W.heap.size W w') := hidden (fun W => by have := rpacket_calls s t l q st ad m c W; rw [hf] at this; exact this)
      have hfz : ¬ (f : Int) = 0 := by omega
      have dfz : ((f : Int) == 0) = false := by simpa using hfz
      clear hf hf0
      go_wp2_with fail
      refine (HE.out _ HS.out.out).mono ?_
      rintro e w8 ⟨rfl, hb8⟩
      have HS8 := hidden ((HS.out.below hb8).below ((Below.refl _ _).alloc (Nat.le_refl _) (.cells #[.int .i64 0, .int .i64 0, .int .i64 0, .int .i64 0, .bool false, .slice none 0 0] 32)))
      clear hb8 HS HE j0 j1 j2 j3 j4 j5
      have j0 := HOld.out _ _ _ HS8.out.bel HI.out.1
      have j1 := HOld.out _ _ _ HS8.out.bel HI.out.2.1
      have j2 := HOld.out _ _ _ HS8.out.bel HI.out.2.2.1
      have j3 := HOld.out _ _ _ HS8.out.bel HI.out.2.2.2.1
      have j4 := HOld.out _ _ _ HS8.out.bel HI.out.2.2.2.2.1
      have j5 := HOld.out _ _ _ HS8.out.bel HI.out.2.2.2.2.2
      go_wp2_with fail
      refine (HR.out _).mono ?_
      rintro e w9 ⟨rfl, hb9⟩
      have HS9 := hidden (HS8.out.below hb9)
      clear hb9 HS8 HR j0 j1 j2 j3 j4 j5 HI HOld
      go_wp2_with fail
      go_roundg (60 - (i + 1))
      case measure => omega
      case rel => exact ⟨i + 1, k, T, ly, ow, wt, by omega, by omega, rfl, by go_num, HS9⟩
    case pos =>
    subst hf0
    have H1 : Hid (∀ W, RSt w W b xw xg S D k T ly ow wt → _) := hidden (fun W hW => row_next w b xw xg S D k T ly ow wt s t l q st ad m c L W hW (by omega) hf HOK.out.1 HOK.out.2)
    have HT : Hid (0 ≤ t ∧ t ≤ 4294967295) := by obtain ⟨_, t', _, _, _, ht, _, _, _, ht1, _⟩ := fault_zero hf; exact ⟨by omega, by omega⟩
    have HNt : Hid (nt k T ly ow l t = nt k T ly ow l t) := rfl
    have b2 := sq_bd S k
    have b3 : 0 ≤ nt k T ly ow l t ∧ nt k T ly ow l t ≤ 4294967295 := nt_bd HS.out.inv.t0 HS.out.inv.t1
    have r1 : (S + (k : Int)) % 65536 = sq S k := rfl
    have HInv := hidden HS.out.inv
    have HFst := hidden HS.out.fst
    have HNxt := hidden HS.out.nxt
    obtain ⟨T', hT'⟩ : ∃ T', nt k T ly ow l t = T' := ⟨_, rfl⟩
    rw [hT'] at H1 b3
    have HT' := hidden hT'
    clear hT' HNt
    generalize sq S k = Q at *
    obtain ⟨b31, b32⟩ := b3
    obtain ⟨b21, b22⟩ := b2
    clear hf
    go_wp2_with fail
    refine (H1.out _ HS.out).mono ?_
    rintro e w8 ⟨a1, c1, rfl, hG, hA1⟩
    obtain ⟨w9, hw9⟩ : ∃ w9, w8.alloc (.cells #[.int .i64 Q, .int .i64 T', .int .i64 l, .int .i64 q, .bool st, .slice a1 m c1] 32) = w9 := ⟨_, rfl⟩
    have hb9 : Below w8.heap.size w8 w9 := by rw [← hw9]; exact (Below.refl _ _).alloc (Nat.le_refl _) _
    have HG9 := hidden (hG.below hb9)
    have HA9 := hidden (hA1.below hb9)
    have HP9 : Hid (Box w9 w8.heap.size Q T' l q st (.slice a1 m c1)) := by rw [← hw9]; exact Box.new w8 _ _ _ _ _ _
    have HLt : Hid (b < w8.heap.size ∧ xw < w8.heap.size ∧ xg < w8.heap.size ∧ w.heap.size ≤ w8.heap.size) := ⟨hG.lt.1, hG.lt.2.1, hG.lt.2.2, hG.bel.size⟩
    have HW9 := hidden hw9
    clear hw9 hG hA1 hb9 HS j0 j1 j2 j3 j4 j5 H1
    go_upto_region 20 with fail
    rw [HW9.out]
    clear HW9
    obtain ⟨pb, hpb⟩ : ∃ pb, w8.heap.size = pb := ⟨_, rfl⟩
    rw [hpb] at HP9 HLt
    rw [hpb]
    clear hpb
    obtain ⟨x0, x1, x2, x3, x4, x5⟩ := HP9.out.cells
    obtain ⟨wa, hwa⟩ : ∃ wa, w9.alloc (.cells #[.int .i64 Q, .int .i64 T', .int .i64 l, .int .i64 q, .bool st, .slice a1 m c1] 32) = wa := ⟨_, rfl⟩
    have hba : Below w9.heap.size w9 wa := by rw [← hwa]; exact (Below.refl _ _).alloc (Nat.le_refl _) _
    have HGa := hidden (HG9.out.below hba)
    have HAa := hidden (HA9.out.below hba)
    have HPa := hidden (HP9.out.below hba HP9.out.lt)
    have HQa : Hid (Box wa w9.heap.size Q T' l q st (.slice a1 m c1)) := by rw [← hwa]; exact Box.new w9 _ _ _ _ _ _
    have HLq : Hid (pb < w9.heap.size) := HP9.out.lt
    have HWa := hidden hwa
    clear hwa hba HG9 HA9 HP9
    go_upto_region 21 with fail
    rw [HWa.out]
    clear HWa x0 x1 x2 x3 x4 x5
    obtain ⟨qb, hqb⟩ : ∃ qb, w9.heap.size = qb := ⟨_, rfl⟩
    rw [hqb] at HQa HLq
    rw [hqb]
    clear hqb
    have j0 := HOld.out _ _ _ HGa.out.bel HI.out.1
    have j1 := HOld.out _ _ _ HGa.out.bel HI.out.2.1
    obtain ⟨x0, x1, x2, x3, x4, x5⟩ := HQa.out.cells
    have f0 := boxFree HQa.out 0
    have f1 := boxFree HQa.out 1
    clear x2 x3 x4 x5
    have n1 : ¬ ib = qb := by have := HLq.out; have := HLt.out; omega
    have n2 : ¬ qb = ib := by omega
    go_upto_region 23 with fail
    obtain ⟨wc, hwc⟩ : ∃ wc, (wa.setCell ⟨qb, 0, none⟩ (.int .i64 s)).setCell ⟨qb, 1, none⟩ (.int .i64 t) = wc := ⟨_, rfl⟩
    have HOc : Hid (Only [qb] wa wc) := by rw [← hwc]; exact ((Only.refl _ _).setCell (by simp) _).setCell (by simp) _
    have HQc : Hid (Box wc qb s t l q st (.slice a1 m c1)) := by rw [← hwc]; exact boxSet1 (boxSet0 HQa.out s) t
    have HPc : Hid (Box wc pb Q T' l q st (.slice a1 m c1)) := HOc.out.block HPa.out (by have := HLq.out; simp; omega)
    have HGc : Hid (GSt w wc b xw xg S D k T ly ow wt T' l t) := HGa.out.only HOc.out (by have := HLq.out; have := HLt.out; simp; omega) (by have := HLq.out; have := HLt.out; simp; omega) (by have := HLq.out; have := HLt.out; simp; omega) (by have := HLq.out; have := HLt.out; simp; omega)
    have HAc : Hid (Arg wc a1 m L) := argOnly (boxNob HQa.out) HOc.out HAa.out
    rw [hwc]
    clear hwc HOc HQa HPa HGa HAa j0 j1 x0 x1 f0 f1
    have HSame : Hid (Calls Try.prog 19 #[.agg #[.int .i64 s, .int .i64 t, .int .i64 l, .int .i64 q, .bool st, .slice a1 m c1], .agg #[.int .i64 s, .int .i64 t, .int .i64 l, .int .i64 q, .bool st, .slice ad m c]] wc.drew fun e w' => e = .returned (.bool true) ∧ (w'.cell? ⟨qb, 0, none⟩ = some (.int .i64 s) ∧ w'.cell? ⟨qb, 1, none⟩ = some (.int .i64 t) ∧ w'.cell? ⟨qb, 2, none⟩ = some (.int .i64 l) ∧ w'.cell? ⟨qb, 3, none⟩ = some (.int .i64 q) ∧ w'.cell? ⟨qb, 4, none⟩ = some (.bool st) ∧ w'.cell? ⟨qb, 5, none⟩ = some (.slice a1 m c1) ∧ w'.cell? ⟨ib, io + i * 6, none⟩ = some (.int .i64 s) ∧ w'.cell? ⟨ib, io + i * 6 + 1, none⟩ = some (.int .i64 t) ∧ w'.cell? ⟨ib, io + i * 6 + 2, none⟩ = some (.int .i64 l) ∧ w'.cell? ⟨ib, io + i * 6 + 3, none⟩ = some (.int .i64 q) ∧ w'.cell? ⟨ib, io + i * 6 + 4, none⟩ = some (.bool st) ∧ w'.cell? ⟨ib, io + i * 6 + 5, none⟩ = some (.slice ad m c)) ∧ Hid (GSt w w' b xw xg S D k T ly ow wt T' l t ∧ Box w' pb Q T' l q st (.slice a1 m c1))) := by
      have hbd : Below wc.heap.size wc wc.drew := below_drewN (Below.refl _ _) 1
      refine hidden ((same_pk s t l q st a1 ad m m c1 c L wc.drew (HAc.out.below hbd) ((HOK.out.1.below HGc.out.bel).below hbd)).mono ?_)
      rintro e w' ⟨rfl, hb'⟩
      have hbb : Below wc.heap.size wc w' := hbd.trans hb'
      have hG := HGc.out.below hbb
      have hQ := (HQc.out.below hbb HQc.out.lt).cells
      have o := fun o u h => HOld.out w' o u hG.bel h
      exact ⟨rfl, ⟨hQ.1, hQ.2.1, hQ.2.2.1, hQ.2.2.2.1, hQ.2.2.2.2.1, hQ.2.2.2.2.2, o _ _ HI.out.1, o _ _ HI.out.2.1, o _ _ HI.out.2.2.1, o _ _ HI.out.2.2.2.1, o _ _ HI.out.2.2.2.2.1, o _ _ HI.out.2.2.2.2.2⟩, hG, HPc.out.below hbb HPc.out.lt⟩
    have hS0 : wc.drew.cell? ⟨qb, 0, none⟩ = some (.int .i64 s) ∧ wc.drew.cell? ⟨qb, 1, none⟩ = some (.int .i64 t) ∧ wc.drew.cell? ⟨qb, 2, none⟩ = some (.int .i64 l) ∧ wc.drew.cell? ⟨qb, 3, none⟩ = some (.int .i64 q) ∧ wc.drew.cell? ⟨qb, 4, none⟩ = some (.bool st) ∧ wc.drew.cell? ⟨qb, 5, none⟩ = some (.slice a1 m c1) ∧ wc.drew.cell? ⟨ib, io + i * 6, none⟩ = some (.int .i64 s) ∧ wc.drew.cell? ⟨ib, io + i * 6 + 1, none⟩ = some (.int .i64 t) ∧ wc.drew.cell? ⟨ib, io + i * 6 + 2, none⟩ = some (.int .i64 l) ∧ wc.drew.cell? ⟨ib, io + i * 6 + 3, none⟩ = some (.int .i64 q) ∧ wc.drew.cell? ⟨ib, io + i * 6 + 4, none⟩ = some (.bool st) ∧ wc.drew.cell? ⟨ib, io + i * 6 + 5, none⟩ = some (.slice ad m c) := by
      have hQ := HQc.out.cells
      have o := fun o u h => HOld.out wc o u HGc.out.bel h
      exact ⟨hQ.1, hQ.2.1, hQ.2.2.1, hQ.2.2.2.1, hQ.2.2.2.2.1, hQ.2.2.2.2.2, o _ _ HI.out.1, o _ _ HI.out.2.1, o _ _ HI.out.2.2.1, o _ _ HI.out.2.2.2.1, o _ _ HI.out.2.2.2.2.1, o _ _ HI.out.2.2.2.2.2⟩
    clear HGc HAc HQc HPc
    go_region_held3 (fun w' => w'.cell? ⟨qb, 0, none⟩ = some (.int .i64 s) ∧ w'.cell? ⟨qb, 1, none⟩ = some (.int .i64 t) ∧ w'.cell? ⟨qb, 2, none⟩ = some (.int .i64 l) ∧ w'.cell? ⟨qb, 3, none⟩ = some (.int .i64 q) ∧ w'.cell? ⟨qb, 4, none⟩ = some (.bool st) ∧ w'.cell? ⟨qb, 5, none⟩ = some (.slice a1 m c1) ∧ w'.cell? ⟨ib, io + i * 6, none⟩ = some (.int .i64 s) ∧ w'.cell? ⟨ib, io + i * 6 + 1, none⟩ = some (.int .i64 t) ∧ w'.cell? ⟨ib, io + i * 6 + 2, none⟩ = some (.int .i64 l) ∧ w'.cell? ⟨ib, io + i * 6 + 3, none⟩ = some (.int .i64 q) ∧ w'.cell? ⟨ib, io + i * 6 + 4, none⟩ = some (.bool st) ∧ w'.cell? ⟨ib, io + i * 6 + 5, none⟩ = some (.slice ad m c)) (with_reducible assumption) (first | (go_at_call 19; refine HSame.out.mono ?_; rintro e wd ⟨rfl, hSd, HGd⟩))
    clear hS0 hSd HSame
    go_upto_region 24 with fail
    go_cut [155] from 135 to 155 (fun cc wx => cc = .bool false ∧ wx = wd)
    case first =>
      obtain ⟨x0, x1, x2, x3, x4, x5⟩ := HGd.out.2.cells
      clear x2 x3 x4 x5
      have dq : (Q != Q) = false := by simp
      by_cases hk0 : k = 0
      · have kz : (k : Int) = 0 := by omega
        have dk : ((k : Int) == 0) = true := by simpa using kz
        have dT : (T' != D) = false := by
          have e1 := HT'.out
          rw [hk0, nt_zero] at e1
          have e2 := HFst.out hk0
          simp
          omega
        clear kz hk0
        go_wp2_with fail
        go_meet
        exact ⟨rfl, rfl⟩
      · have kz : ¬ (k : Int) = 0 := by omega
        have dk : ((k : Int) == 0) = false := by simpa using kz
        clear hk0 kz
        go_wp2_with fail
        go_meet
        exact ⟨rfl, rfl⟩
    case rest =>
    obtain ⟨rfl, rfl⟩ := hcut
    go_upto_region 26 with fail
    go_cut [187] from 156 to 187 (fun cc wx => cc = .bool false ∧ Hid (GSt w wx b xw xg S D k T ly ow wt T' l t ∧ Box wx pb Q T' l q st (.slice a1 m c1)))
    case first =>
      by_cases hk0 : k = 0
      · have kz : ¬ (0 : Int) < (k : Int) := by omega
        have dk : decide ((0 : Int) < (k : Int)) = false := decide_eq_false kz
        have dk2 : decide (0 < k) = false := by simpa using hk0
        clear hk0 kz
        go_quiet (fail)
        go_wp2_with fail
        go_meet
        exact ⟨rfl, hidden ⟨HGd.out.1.below (below_drewN (Below.refl _ _) _), HGd.out.2.below (below_drewN (Below.refl _ _) _) HGd.out.2.lt⟩⟩
      have kz : (0 : Int) < (k : Int) := by omega
      have dk : decide ((0 : Int) < (k : Int)) = true := decide_eq_true kz
      have dk2 : decide (0 < k) = true := decide_eq_true (by omega)
      have e0 := HNxt.out hk0
      subst e0
      obtain ⟨x0, x1, x2, x3, x4, x5⟩ := HGd.out.2.cells
      obtain ⟨s0, q0, st0, bv0, hx⟩ := HGd.out.1.was
      obtain ⟨s9, l9, q9, st9, bv9, hy⟩ := HGd.out.1.went
      obtain ⟨y0, y1, y2, y3, y4, y5⟩ := hx.cells
      obtain ⟨z0, z1, z2, z3, z4, z5⟩ := hy.cells
      have j1 := HOld.out _ _ _ HGd.out.1.bel HI.out.2.1
      have j2 := HOld.out _ _ _ HGd.out.1.bel HI.out.2.2.1
      clear x0 x2 x3 x4 x5 y0 y3 y4 y5 z0 z2 z3 z4 z5 hx hy
      by_cases hl : l = ly
      · subst hl
        have dl : (l == l) = true := by simp
        have t1 := HT.out
        have t2 := HInv.out
        obtain ⟨_, _, _, v1, v2, v3, v4⟩ := t2
        obtain ⟨t11, t12⟩ := t1
        have e1 := HT'.out
        rw [nt_same _ _ _ _ hk0] at e1
        obtain ⟨V, hV⟩ : ∃ V, (t - ow + 4294967296) % 4294967296 = V := ⟨_, rfl⟩
        have hV2 : (T' - wt + 4294967296) % 4294967296 = V := by omega
        have dV : (V != V) = false := by simp
        clear e1 hk0
        go_quiet (fail)
        go_wp2_with fail
        go_meet
        exact ⟨rfl, hidden ⟨HGd.out.1.below (below_drewN (Below.refl _ _) _), HGd.out.2.below (below_drewN (Below.refl _ _) _) HGd.out.2.lt⟩⟩
      · have dl : (l == ly) = false := by simpa using hl
        have dl2 : decide (l = ly) = false := by simpa using hl
        clear hl hk0
        go_quiet (fail)
        go_wp2_with fail
        go_meet
        exact ⟨rfl, hidden ⟨HGd.out.1.below (below_drewN (Below.refl _ _) _), HGd.out.2.below (below_drewN (Below.refl _ _) _) HGd.out.2.lt⟩⟩
    case rest =>
    obtain ⟨rfl, HGe⟩ := hcut
    clear HGd
    obtain ⟨s0, q0, st0, bv0, hx⟩ := HGe.out.1.was
    obtain ⟨y0, y1, y2, y3, y4, y5⟩ := hx.cells
    have f0 := boxFree hx 0
    have f1 := boxFree hx 1
    have f2 := boxFree hx 2
    have f3 := boxFree hx 3
    have f4 := boxFree hx 4
    have f5 := boxFree hx 5
    have j0 := HOld.out _ _ _ HGe.out.1.bel HI.out.1
    have j1 := HOld.out _ _ _ HGe.out.1.bel HI.out.2.1
    have j2 := HOld.out _ _ _ HGe.out.1.bel HI.out.2.2.1
    have j3 := HOld.out _ _ _ HGe.out.1.bel HI.out.2.2.2.1
    have j4 := HOld.out _ _ _ HGe.out.1.bel HI.out.2.2.2.2.1
    have j5 := HOld.out _ _ _ HGe.out.1.bel HI.out.2.2.2.2.2
    clear hx
    go_upto_region 29 with fail
    obtain ⟨wf, hwf⟩ : ∃ wf, (((((wc.setCell ⟨xw, 0, none⟩ (.int .i64 s)).setCell ⟨xw, 1, none⟩ (.int .i64 t)).setCell ⟨xw, 2, none⟩ (.int .i64 l)).setCell ⟨xw, 3, none⟩ (.int .i64 q)).setCell ⟨xw, 4, none⟩ (.bool st)).setCell ⟨xw, 5, none⟩ (.slice ad m c) = wf := ⟨_, rfl⟩
    have HGf : Hid (GSt w wf b xw xg S D k T l t wt T' l t) := by rw [← hwf]; exact HGe.out.1.setWas s q st _
    have HPf : Hid (Box wf pb Q T' l q st (.slice a1 m c1)) := by
      have np : pb ∉ [xw] := by have := HLt.out; simp; omega
      rw [← hwf]; exact (only6 (g := xw) (Only.refl [xw] wc) (by simp) _ _ _ _ _ _).block HGe.out.2 np
    rw [hwf]
    clear hwf HGe y0 y1 y2 y3 y4 y5 f0 f1 f2 f3 f4 f5 j0 j1 j2 j3 j4 j5
    obtain ⟨s9, l9, q9, st9, bv9, hy⟩ := HGf.out.went
    obtain ⟨y0, y1, y2, y3, y4, y5⟩ := hy.cells
    have f0 := boxFree hy 0
    have f1 := boxFree hy 1
    have f2 := boxFree hy 2
    have f3 := boxFree hy 3
    have f4 := boxFree hy 4
    have f5 := boxFree hy 5
    obtain ⟨x0, x1, x2, x3, x4, x5⟩ := HPf.out.cells
    have n3 : ¬ pb = xg := by have := HLt.out; omega
    have n4 : ¬ xg = pb := by omega
    clear hy
    go_upto_region 30 with fail
    obtain ⟨wh, hwh⟩ : ∃ wh, (((((wf.setCell ⟨xg, 0, none⟩ (.int .i64 Q)).setCell ⟨xg, 1, none⟩ (.int .i64 T')).setCell ⟨xg, 2, none⟩ (.int .i64 l)).setCell ⟨xg, 3, none⟩ (.int .i64 q)).setCell ⟨xg, 4, none⟩ (.bool st)).setCell ⟨xg, 5, none⟩ (.slice a1 m c1) = wh := ⟨_, rfl⟩
    have HSh : Hid (RSt w wh b xw xg S D (k + 1) T' l t T') := by rw [← hwh]; exact (HGf.out.setWent Q q st _).done
    rw [hwh]
    clear hwh HGf HPf y0 y1 y2 y3 y4 y5 f0 f1 f2 f3 f4 f5 x0 x1 x2 x3 x4 x5
    go_wp2_with fail
    go_roundg (60 - (i + 1))
    case measure => omega
    case rel => exact ⟨i + 1, k + 1, T', l, t, T', by omega, by omega, by go_num, by go_num, HSh⟩
theorem walk (S D : Int) (va : Option Addr) (ln cn : Nat) (F : Nat → Open.Pk) (w : World) (hF : Open.Pks w va ln F) :
    Calls Try.prog 6 #[.int .i64 S, .int .i64 D, .slice va ln cn] w fun e w' => e = .returned (.bool true) ∧ Below w.heap.size w w' := by
  by_cases h0 : S < 0
  · exact walk_e0 S D _ w h0
  by_cases h1 : 65535 < S
  · exact walk_e1 S D _ w h1 h0
  by_cases h2 : D < 0
  · exact walk_e2 S D _ w h2 h0 h1
  by_cases h3 : 4294967295 < D
  · exact walk_e3 S D _ w h3 h0 h1 h2
  · exact walk_ok S D va ln cn F w (by omega) (by omega) (by omega) (by omega) hF
end Go.Proofs.Ytblmjllignibgae.ORow
