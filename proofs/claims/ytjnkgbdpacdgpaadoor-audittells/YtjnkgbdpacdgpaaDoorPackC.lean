/-
  What the function Check of package pack returns. It changes nothing that was there.
-/
import Derived.Test.YtjnkgbdpacdgpaaDoorPackMath
import Derived.Test.YtjnkgbdpacdgpaaDoorMem
import Derived.Test.YtjnkgbdpacdgpaaDoorRows
import Derived.WalkKit
import Derived.ProofKit
import Derived.OpenShut
import Derived.ChangeOld
import Derived.Below
import Derived.Deep.QuietTactic
import Derived.BigQuiet
import Derived.Laws.AppendOwnNone
import Derived.WalkSmall
import Derived.WalkSpells
import Derived.LoopTactic
import Derived.Laws.BitsAllLaws
import Derived.Deep.Cut
import Derived.Deep.RegionHeld3
namespace Go.Proofs.YtjnkgbdpacdgpaaDoor.Pack
open Go.ChangeShapes Go.WideShapes Go.ChangeAt Go.RowKit Go.Proofs.YtjnkgbdpacdgpaaDoor.PM Go.Proofs.YtjnkgbdpacdgpaaDoor.Mem
set_option linter.unusedVariables false

theorem info5 : (Tryd.prog.info? 5).map (fun i => (i.zero, i.size, i.bytes)) = some (some (.int .u8 0), 1, 1) := by kernel_rfl
/-- what is told as the error of number e -/
def errv (e : Nat) : Value := if e = 0 then .nilIface else .iface 50 (.int .i64 (e : Int))

theorem within_calls (x m : Int) (w : World) : Calls Tryd.prog 24 #[.int .i64 x, .int .i64 m] w fun e w' => e = .returned (.bool (decide (0 ≤ x ∧ x ≤ m))) ∧ w' = w := by
  by_cases h : 0 ≤ x
  · have d : decide (0 ≤ x) = true := by simpa using h
    go_enter Tryd.func24, Tryd.ntmps24
    go_wp2_with fail
    go_ret
    exact ⟨by simp [h], rfl⟩
  · have d : decide (0 ≤ x) = false := by simpa using h
    go_enter Tryd.func24, Tryd.ntmps24
    go_wp2_with fail
    go_ret
    exact ⟨by simp, rfl⟩

set_option maxHeartbeats 1000000 in
set_option maxRecDepth 100000 in
theorem check_calls (s t l v : Int) (st : Bool) (a : Option Addr) (n cap : Nat) (w : World) :
    Calls Tryd.prog 19 #[.agg #[.int .i64 s, .int .i64 t, .int .i64 l, .int .i64 v, .bool st, .slice a n cap]] w fun e w' => e = .returned (errv (fault s t l v n)) ∧ Below w.heap.size w w' := by
  have C1 := fun w => within_calls s 65535 w
  have C2 := fun w => within_calls t 4294967295 w
  have C3 := fun w => within_calls l 3 w
  have C4 := fun w => within_calls v 127 w
  have hf : fault s t l v n = if decide (0 ≤ s ∧ s ≤ 65535) && decide (0 ≤ t ∧ t ≤ 4294967295) && decide (0 ≤ l ∧ l ≤ 3) && decide (0 ≤ v ∧ v ≤ 127) then (if n ≤ 1000 then 0 else 4) else 1 := by
    unfold fault
    simp only [Bool.and_eq_true, decide_eq_true_eq, and_assoc]
  generalize decide (0 ≤ s ∧ s ≤ 65535) = b1 at *
  generalize decide (0 ≤ t ∧ t ≤ 4294967295) = b2 at *
  generalize decide (0 ≤ l ∧ l ≤ 3) = b3 at *
  generalize decide (0 ≤ v ∧ v ≤ 127) = b4 at *
  rw [hf]
  have H1 := hidden C1
  have H2 := hidden C2
  have H3 := hidden C3
  have H4 := hidden C4
  clear C1 C2 C3 C4 hf
  cases b1 with
  | false =>
    go_enter Tryd.func19, Tryd.ntmps19
    go_wp2_with fail
    refine (H1.out _).mono ?_
    rintro e w ⟨rfl, rfl⟩
    go_wp2_with fail
    go_ret
    exact ⟨rfl, (Below.refl _ _).alloc (Nat.le_refl _) _⟩
  | true =>
  cases b2 with
  | false =>
    go_enter Tryd.func19, Tryd.ntmps19
    go_wp2_with fail
    refine (H1.out _).mono ?_
    rintro e w ⟨rfl, rfl⟩
    go_wp2_with fail
    refine (H2.out _).mono ?_
    rintro e w ⟨rfl, rfl⟩
    go_wp2_with fail
    go_ret
    exact ⟨rfl, (Below.refl _ _).alloc (Nat.le_refl _) _⟩
  | true =>
  cases b3 with
  | false =>
    go_enter Tryd.func19, Tryd.ntmps19
    go_wp2_with fail
    refine (H1.out _).mono ?_
    rintro e w ⟨rfl, rfl⟩
    go_wp2_with fail
    refine (H2.out _).mono ?_
    rintro e w ⟨rfl, rfl⟩
    go_wp2_with fail
    refine (H3.out _).mono ?_
    rintro e w ⟨rfl, rfl⟩
    go_wp2_with fail
    go_ret
    exact ⟨rfl, (Below.refl _ _).alloc (Nat.le_refl _) _⟩
  | true =>
  cases b4 with
  | false =>
    go_enter Tryd.func19, Tryd.ntmps19
    go_wp2_with fail
    refine (H1.out _).mono ?_
    rintro e w ⟨rfl, rfl⟩
    go_wp2_with fail
    refine (H2.out _).mono ?_
    rintro e w ⟨rfl, rfl⟩
    go_wp2_with fail
    refine (H3.out _).mono ?_
    rintro e w ⟨rfl, rfl⟩
    go_wp2_with fail
    refine (H4.out _).mono ?_
    rintro e w ⟨rfl, rfl⟩
    go_wp2_with fail
    go_ret
    exact ⟨rfl, (Below.refl _ _).alloc (Nat.le_refl _) _⟩
  | true =>
  by_cases p : n ≤ 1000
  · go_enter Tryd.func19, Tryd.ntmps19
    go_wp2_with fail
    refine (H1.out _).mono ?_
    rintro e w ⟨rfl, rfl⟩
    go_wp2_with fail
    refine (H2.out _).mono ?_
    rintro e w ⟨rfl, rfl⟩
    go_wp2_with fail
    refine (H3.out _).mono ?_
    rintro e w ⟨rfl, rfl⟩
    go_wp2_with fail
    refine (H4.out _).mono ?_
    rintro e w ⟨rfl, rfl⟩
    go_wp2_with fail
    go_ret
    exact ⟨by simp [errv], (Below.refl _ _).alloc (Nat.le_refl _) _⟩
  · go_enter Tryd.func19, Tryd.ntmps19
    go_wp2_with fail
    refine (H1.out _).mono ?_
    rintro e w ⟨rfl, rfl⟩
    go_wp2_with fail
    refine (H2.out _).mono ?_
    rintro e w ⟨rfl, rfl⟩
    go_wp2_with fail
    refine (H3.out _).mono ?_
    rintro e w ⟨rfl, rfl⟩
    go_wp2_with fail
    refine (H4.out _).mono ?_
    rintro e w ⟨rfl, rfl⟩
    go_wp2_with fail
    go_ret
    exact ⟨by simp [errv], (Below.refl _ _).alloc (Nat.le_refl _) _⟩

theorem errv_zero : errv 0 = .nilIface := rfl
theorem errv_pos {e : Nat} (h : e ≠ 0) : errv e = .iface 50 (.int .i64 (e : Int)) := by unfold errv; rw [if_neg h]

/-- block g holds a packet -/
def Box (w : World) (g : Nat) (s t l v : Int) (st : Bool) (bv : Value) : Prop := w.heap[g]? = some (.cells #[.int .i64 s, .int .i64 t, .int .i64 l, .int .i64 v, .bool st, bv] 27 (0, 0))
theorem Box.new (w : World) (s t l v : Int) (st : Bool) (bv : Value) : Box (w.alloc (.cells #[.int .i64 s, .int .i64 t, .int .i64 l, .int .i64 v, .bool st, bv] 27)) w.heap.size s t l v st bv := heap_alloc_new w _
theorem Box.below {w w' : World} {g B : Nat} {s t l v : Int} {st : Bool} {bv : Value} (h : Box w g s t l v st bv) (hb : Below B w w') (hg : g < B) : Box w' g s t l v st bv := (hb.block g hg).trans h
theorem Box.lt {w : World} {g : Nat} {s t l v : Int} {st : Bool} {bv : Value} (h : Box w g s t l v st bv) : g < w.heap.size := lt_of_block h
theorem Box.grown {w w' : World} {g : Nat} {s t l v : Int} {st : Bool} {bv : Value} {row : Option Nat} (h : Box w g s t l v st bv) (hg : w.grownBy w' row) (hr : row ≠ some g) : Box w' g s t l v st bv :=
  (hg.block g h.lt (fun e => hr e.symm)).trans h
theorem Box.alloc {w : World} {g : Nat} {s t l v : Int} {st : Bool} {bv : Value} (h : Box w g s t l v st bv) (o : Obj) : Box (w.alloc o) g s t l v st bv := (Below.heap_alloc _ _ _ h.lt).trans h
theorem Box.cells {w : World} {g : Nat} {s t l v : Int} {st : Bool} {bv : Value} (h : Box w g s t l v st bv) :
    w.cell? ⟨g, 0, none⟩ = some (.int .i64 s) ∧ w.cell? ⟨g, 1, none⟩ = some (.int .i64 t) ∧ w.cell? ⟨g, 2, none⟩ = some (.int .i64 l) ∧ w.cell? ⟨g, 3, none⟩ = some (.int .i64 v) ∧ w.cell? ⟨g, 4, none⟩ = some (.bool st) ∧ w.cell? ⟨g, 5, none⟩ = some bv := by
  simp only [Box] at h
  simp [World.cell?, h]

theorem below_old {w w' : World} {o : Obj} (h : Below (w.alloc o).heap.size (w.alloc o) w') : Below w.heap.size w w' :=
  ((Below.refl _ _).alloc (Nat.le_refl _) o).trans (h.mono (by simp))

theorem own_next {w : World} {base m k : Nat} {v : Value} {L K R : List Nat} (h : w.ownsRow base 5 1 v m (cellsOf L ++ cellsOf K)) (hm : m = k) (hR : L ++ K = R) : w.ownsRow base 5 1 v k (cellsOf R) := by
  rw [← cellsOf_app] at h
  rw [← hm, ← hR]; exact h
/-- bytes that are there lie somewhere -/
theorem arg_at {w : World} {a : Option Addr} {n : Nat} {L : List Nat} (h : Arg w a n L) (hn : 0 < n) : ∃ b o, a = some ⟨b, o, none⟩ := by
  obtain ⟨b, o, e, _⟩ := h.1.2 0 (by have := h.2.1; omega)
  exact ⟨b, o, e⟩
theorem arg_cell {w : World} {b o n : Nat} {L : List Nat} (h : Arg w (some ⟨b, o, none⟩) n L) (j : Nat) (hj : j < n) : w.cell? ⟨b, o + j, none⟩ = some (.int .u8 (L.getD j 0 : Nat)) := by
  obtain ⟨b', o', e, hc⟩ := h.1.2 j (by have := h.2.1; omega)
  simp only [Option.some.injEq, Addr.mk.injEq, and_true] at e
  obtain ⟨rfl, rfl⟩ := e
  exact hc

theorem cell_alloc {w : World} {p : Addr} {v : Value} (h : w.cell? p = some v) (o : Obj) : (w.alloc o).cell? p = some v := (((Below.refl _ _).alloc (Nat.le_refl _) o).cell (World.block_lt_of_cell? w p h)).trans h

/-- a variable of a packet, laid next behind w, and nothing else changed -/
def Keep (w w' : World) : Prop := Below w.heap.size w w' ∧ ∃ cs : Array Value, cs.size = 6 ∧ w'.heap[w.heap.size]? = some (.cells cs 27 (0, 0))
theorem Keep.new (w : World) (cs : Array Value) (h : cs.size = 6) : Keep w (w.alloc (.cells cs 27)) := ⟨(Below.refl _ _).alloc (Nat.le_refl _) _, cs, h, heap_alloc_new w _⟩
theorem Keep.set {w W : World} (h : Keep w W) (k : Nat) (v : Value) : Keep w (W.setCell ⟨w.heap.size, k, none⟩ v) := by
  obtain ⟨hb, cs, hs, hh⟩ := h
  exact ⟨hb.setCell (Nat.le_refl _) v, cs.setIfInBounds k v, by simpa using hs, heap_setCell_same _ _ _ _ _ _ hh⟩
theorem Keep.drew {w W : World} (h : Keep w W) : Keep w W.drew := ⟨h.1.drew, h.2⟩
theorem Keep.size {w W : World} (h : Keep w W) : w.heap.size < W.heap.size := by
  obtain ⟨_, cs, _, hh⟩ := h
  exact lt_of_block hh
theorem Keep.below {w W W' : World} {B : Nat} (h : Keep w W) (hb : Below B W W') (hB : w.heap.size < B) : Keep w W' := by
  obtain ⟨hb0, cs, hs, hh⟩ := h
  exact ⟨hb0.trans (hb.mono (by omega)), cs, hs, (hb.block _ hB).trans hh⟩
/-- it may be written -/
def Open (w : World) (g : Nat) (z0 z1 z2 z3 z4 z5 : Value) : Prop :=
  (w.cell? ⟨g, 0, none⟩ = some z0 ∧ w.cell? ⟨g, 1, none⟩ = some z1 ∧ w.cell? ⟨g, 2, none⟩ = some z2 ∧ w.cell? ⟨g, 3, none⟩ = some z3 ∧ w.cell? ⟨g, 4, none⟩ = some z4 ∧ w.cell? ⟨g, 5, none⟩ = some z5) ∧
  w.frozen? ⟨g, 0, none⟩ = false ∧ w.frozen? ⟨g, 1, none⟩ = false ∧ w.frozen? ⟨g, 2, none⟩ = false ∧ w.frozen? ⟨g, 3, none⟩ = false ∧ w.frozen? ⟨g, 4, none⟩ = false ∧ w.frozen? ⟨g, 5, none⟩ = false
theorem six {cs : Array Value} (h : cs.size = 6) : ∃ z0 z1 z2 z3 z4 z5, cs = #[z0, z1, z2, z3, z4, z5] := by
  obtain ⟨l⟩ := cs
  match l, h with
  | [z0, z1, z2, z3, z4, z5], _ => exact ⟨z0, z1, z2, z3, z4, z5, rfl⟩
theorem Keep.opens {w W : World} (h : Keep w W) : ∃ z0 z1 z2 z3 z4 z5, Open W w.heap.size z0 z1 z2 z3 z4 z5 := by
  obtain ⟨_, cs, hs, hh⟩ := h
  obtain ⟨z0, z1, z2, z3, z4, z5, rfl⟩ := six hs
  exact ⟨z0, z1, z2, z3, z4, z5, by simp [Open, World.cell?, World.frozen?, hh]⟩

theorem Keep.set6 {w W : World} (h : Keep w W) (s t l v : Int) (st : Bool) (bv : Value) :
    Box ((((((W.setCell ⟨w.heap.size, 0, none⟩ (.int .i64 s)).setCell ⟨w.heap.size, 1, none⟩ (.int .i64 t)).setCell ⟨w.heap.size, 2, none⟩ (.int .i64 l)).setCell ⟨w.heap.size, 3, none⟩ (.int .i64 v)).setCell ⟨w.heap.size, 4, none⟩ (.bool st)).setCell ⟨w.heap.size, 5, none⟩ bv) w.heap.size s t l v st bv := by
  obtain ⟨_, cs, hs, hh⟩ := h
  obtain ⟨z0, z1, z2, z3, z4, z5, rfl⟩ := six hs
  have h0 := heap_setCell_same _ _ 0 _ _ (.int .i64 s) hh
  have h1 := heap_setCell_same _ _ 1 _ _ (.int .i64 t) h0
  have h2 := heap_setCell_same _ _ 2 _ _ (.int .i64 l) h1
  have h3 := heap_setCell_same _ _ 3 _ _ (.int .i64 v) h2
  have h4 := heap_setCell_same _ _ 4 _ _ (.bool st) h3
  have h5 := heap_setCell_same _ _ 5 _ _ bv h4
  exact h5
/-- a packet and something else, handed back -/
theorem res_pk {fn : Func} {tmps : Array Value} {w : World} {g i j : Nat} {s t l v : Int} {st : Bool} {a : Option Addr} {n cap : Nat} (hf : fn.results = #[.cell i 27, .tmp j]) (hi : tmps.getD i undef = .pointer (some ⟨g, 0, none⟩)) (hb : Box w g s t l v st (.slice a n cap)) :
    (results fn tmps).run Tryd.prog w = .ok (.tuple #[.agg #[.int .i64 s, .int .i64 t, .int .i64 l, .int .i64 v, .bool st, .slice a n cap], tmps.getD j undef]) w := by
  obtain ⟨c0, c1, c2, c3, c4, c5⟩ := hb.cells
  have hi' : tmps[i]?.getD undef = .pointer (some ⟨g, 0, none⟩) := by simpa using hi
  simp [results, hf, hi', go_sem, c0, c1, c2, c3, c4, c5]
theorem ownsRow_le {w : World} {base base' size n : Nat} {e : TypeId} {v : Value} {xs : List Value} (h : w.ownsRow base e size v n xs) (hb : base' ≤ base) : w.ownsRow base' e size v n xs := by
  refine ⟨h.1, ?_⟩
  rcases h.2 with hl | ⟨g, c, cur, e1, e2, rest⟩
  · exact .inl hl
  · exact .inr ⟨g, c, cur, e1, by omega, rest⟩

/-- a packet, handed back -/
theorem res_pk1 {fn : Func} {tmps : Array Value} {w : World} {g i : Nat} {s t l v : Int} {st : Bool} {a : Option Addr} {n cap : Nat} (hf : fn.results = #[.cell i 27]) (hi : tmps.getD i undef = .pointer (some ⟨g, 0, none⟩)) (hb : Box w g s t l v st (.slice a n cap)) :
    (results fn tmps).run Tryd.prog w = .ok (.agg #[.int .i64 s, .int .i64 t, .int .i64 l, .int .i64 v, .bool st, .slice a n cap]) w := by
  obtain ⟨c0, c1, c2, c3, c4, c5⟩ := hb.cells
  have hi' : tmps[i]?.getD undef = .pointer (some ⟨g, 0, none⟩) := by simpa using hi
  simp [results, hf, hi', go_sem, c0, c1, c2, c3, c4, c5]

theorem cmp_eq (f : Nat) (w : World) : (binOp .eql 29 (errv f) .nilIface).run Tryd.prog w = .ok (.bool (decide (f = 0))) w := by
  by_cases p : f = 0
  · rw [p, errv_zero]; simp [go_sem]
  · rw [errv_pos p]; simp [go_sem, p]
theorem cmp_ne (f : Nat) (w : World) : (binOp .neq 29 (errv f) .nilIface).run Tryd.prog w = .ok (.bool (!decide (f = 0))) w := by
  by_cases p : f = 0
  · rw [p, errv_zero]; simp [go_sem]
  · rw [errv_pos p]; simp [go_sem, p]
theorem grd_eq (f : Nat) (o1 : Operand) (w : World) : (eqGuard .eql 29 o1 (.const .nilIface) (errv f) .nilIface).run Tryd.prog w = .ok () w := by
  by_cases p : f = 0
  · rw [p, errv_zero]; unfold eqGuard; simp
  · rw [errv_pos p]; simp [go_sem]
theorem grd_ne (f : Nat) (o1 : Operand) (w : World) : (eqGuard .neq 29 o1 (.const .nilIface) (errv f) .nilIface).run Tryd.prog w = .ok () w := by
  by_cases p : f = 0
  · rw [p, errv_zero]; unfold eqGuard; simp
  · rw [errv_pos p]; simp [go_sem]

end Go.Proofs.YtjnkgbdpacdgpaaDoor.Pack

