/-
  LayerB, LayerC, OutB, OutC in one text.
-/
import Derived.Test.YtijfocggdjjnjaiGreatDoorLayerA
import Derived.Deep.RegionHeld3
import Derived.Test.YtijfocggdjjnjaiGreatDoorOutA
/-
  What check, pass and Take of package layer return, and what they leave in memory. Their condition: the Layer is such as it may be.
-/
namespace Go.Proofs.YtijfocggdjjnjaiGreatDoor.Layer
open Go.ChangeShapes Go.WideShapes Go.ChangeAt Go.RowKit Go.Proofs.YtijfocggdjjnjaiGreatDoor.PM Go.Proofs.YtijfocggdjjnjaiGreatDoor.Mem Go.Proofs.YtijfocggdjjnjaiGreatDoor.Pack Go.Proofs.YtijfocggdjjnjaiGreatDoor.LM
set_option linter.unusedVariables false

/-- block h holds an item -/
def IBox (w : World) (h : Nat) (n : Int) (g : Bool) (s t l q : Int) (st : Bool) (bv : Value) : Prop := w.heap[h]? = some (.cells #[.int .i64 n, .bool g, .int .i64 s, .int .i64 t, .int .i64 l, .int .i64 q, .bool st, bv] 201 (0, 0))
theorem IBox.new (w : World) (n : Int) (g : Bool) (s t l q : Int) (st : Bool) (bv : Value) : IBox (w.alloc (.cells #[.int .i64 n, .bool g, .int .i64 s, .int .i64 t, .int .i64 l, .int .i64 q, .bool st, bv] 201)) w.heap.size n g s t l q st bv := heap_alloc_new w _
theorem IBox.lt {w : World} {h : Nat} {n : Int} {g : Bool} {s t l q : Int} {st : Bool} {bv : Value} (hx : IBox w h n g s t l q st bv) : h < w.heap.size := lt_of_block hx
theorem IBox.below {w w' : World} {h B : Nat} {n : Int} {g : Bool} {s t l q : Int} {st : Bool} {bv : Value} (hx : IBox w h n g s t l q st bv) (hb : Below B w w') (hB : h < B) : IBox w' h n g s t l q st bv := (hb.block h hB).trans hx
theorem IBox.cells {w : World} {h : Nat} {n : Int} {g : Bool} {s t l q : Int} {st : Bool} {bv : Value} (hx : IBox w h n g s t l q st bv) :
    w.cell? ⟨h, 0, none⟩ = some (.int .i64 n) ∧ w.cell? ⟨h, 1, none⟩ = some (.bool g) ∧ w.cell? ⟨h, 2, none⟩ = some (.int .i64 s) ∧ w.cell? ⟨h, 3, none⟩ = some (.int .i64 t) ∧ w.cell? ⟨h, 4, none⟩ = some (.int .i64 l) ∧ w.cell? ⟨h, 5, none⟩ = some (.int .i64 q) ∧ w.cell? ⟨h, 6, none⟩ = some (.bool st) ∧ w.cell? ⟨h, 7, none⟩ = some bv := by
  simp only [IBox] at hx
  simp [World.cell?, hx]

set_option maxHeartbeats 2000000 in
set_option maxRecDepth 100000 in
theorem check_calls (b : Nat) (m nw la n : Int) (br g : Bool) (s t l q : Int) (st : Bool) (a : Option Addr) (k c : Nat) (w : World) (h : LayerAt w b m nw la br) :
    Calls Tryz.prog 123 #[.pointer (some ⟨b, 0, none⟩), .agg #[.int .i64 n, .bool g, .int .i64 s, .int .i64 t, .int .i64 l, .int .i64 q, .bool st, .slice a k c]] w fun e w' => e = .returned (errv (tkf la n g (fault s t l q k))) ∧ Below w.heap.size w w' := by
  have HL := hidden (h.alloc (.cells #[.int .i64 n, .bool g, .int .i64 s, .int .i64 t, .int .i64 l, .int .i64 q, .bool st, .slice a k c] 201))
  have HX := hidden (IBox.new w n g s t l q st (.slice a k c))
  clear h
  by_cases p0 : n < 0
  · have d0 : decide (n < 0) = true := by simpa using p0
    rw [tkf_range (.inl p0)]
    go_enter Tryz.func123, Tryz.ntmps123
    go_wp2_with fail
    go_ret
    exact ⟨rfl, (Below.refl _ _).alloc (Nat.le_refl _) _⟩
  have d0 : decide (n < 0) = false := by simpa using p0
  by_cases p1 : 1099511627776 < n
  · have d1 : decide (1099511627776 < n) = true := by simpa using p1
    rw [tkf_range (.inr p1)]
    go_enter Tryz.func123, Tryz.ntmps123
    go_wp2_with fail
    go_ret
    exact ⟨rfl, (Below.refl _ _).alloc (Nat.le_refl _) _⟩
  have d1 : decide (1099511627776 < n) = false := by simpa using p1
  obtain ⟨c0, c1, c2, c3⟩ := HL.out.cells
  obtain ⟨x0, x1, x2, x3, x4, x5, x6, x7⟩ := HX.out.cells
  clear c0 c1 c3
  by_cases p2 : n ≤ la
  · have d2 : decide (n ≤ la) = true := by simpa using p2
    rw [tkf_state (by omega) (by omega) p2]
    go_enter Tryz.func123, Tryz.ntmps123
    go_wp2_with fail
    go_quiet (fail)
    go_wp2_with fail
    go_ret
    exact ⟨rfl, below_drewN ((Below.refl _ _).alloc (Nat.le_refl _) _) _⟩
  have d2 : decide (n ≤ la) = false := by simpa using p2
  cases g with
  | true =>
    rw [tkf_gone (by omega) (by omega) p2]
    clear p0 p1 p2
    go_enter Tryz.func123, Tryz.ntmps123
    go_wp2_with fail
    go_quiet (fail)
    go_wp2_with fail
    go_ret
    exact ⟨rfl, below_drewN ((Below.refl _ _).alloc (Nat.le_refl _) _) _⟩
  | false =>
    rw [tkf_pack (by omega) (by omega) p2]
    clear p0 p1 p2
    have HC := hidden (fun W => Pack.check_calls s t l q st a k c W)
    generalize fault s t l q k = ft at *
    go_enter Tryz.func123, Tryz.ntmps123
    go_wp2_with fail
    go_quiet (fail)
    go_wp2_with fail
    refine (HC.out _).mono ?_
    rintro e w2 ⟨rfl, hb⟩
    go_wp2_with fail
    go_ret
    have hb0 : Below w.heap.size w ((w.alloc (.cells #[.int .i64 n, .bool false, .int .i64 s, .int .i64 t, .int .i64 l, .int .i64 q, .bool st, .slice a k c] 201)).drewN nq) := below_drewN ((Below.refl _ _).alloc (Nat.le_refl _) _) _
    exact ⟨rfl, hb0.trans (hb.mono hb0.size)⟩
end Go.Proofs.YtijfocggdjjnjaiGreatDoor.Layer

/-
  What pass and Take of package layer return, and what they leave in memory. Their condition: the Layer is such as it may be.
-/
namespace Go.Proofs.YtijfocggdjjnjaiGreatDoor.Layer
open Go.ChangeShapes Go.WideShapes Go.ChangeAt Go.RowKit Go.Proofs.YtijfocggdjjnjaiGreatDoor.PM Go.Proofs.YtijfocggdjjnjaiGreatDoor.Mem Go.Proofs.YtijfocggdjjnjaiGreatDoor.Pack Go.Proofs.YtijfocggdjjnjaiGreatDoor.LM
set_option linter.unusedVariables false

set_option maxHeartbeats 2000000 in
set_option maxRecDepth 100000 in
theorem pass_above (b : Nat) (m nw la : Int) (br : Bool) (s t l q : Int) (st : Bool) (bv : Value) (w : World) (h : LayerAt w b m nw la br) (hl : m < l) :
    Calls Tryz.prog 124 #[.pointer (some ⟨b, 0, none⟩), .agg #[.int .i64 s, .int .i64 t, .int .i64 l, .int .i64 q, .bool st, bv]] w fun e w' => e = .returned (.bool false) ∧ Below w.heap.size w w' := by
  have HL := hidden (h.alloc (.cells #[.int .i64 s, .int .i64 t, .int .i64 l, .int .i64 q, .bool st, bv] 31))
  have HX := hidden (Box.new w s t l q st bv)
  have hlt := h.lt
  clear h
  obtain ⟨c0, c1, c2, c3⟩ := HL.out.cells
  obtain ⟨x0, x1, x2, x3, x4, x5⟩ := HX.out.cells
  clear x0 x1 x3 x5 c1 c2 c3
  have d : decide (m < l) = true := by simpa using hl
  clear x4
  go_enter Tryz.func124, Tryz.ntmps124
  go_wp2_with fail
  go_quiet (fail)
  go_wp2_with fail
  go_ret
  exact ⟨rfl, below_drewN ((Below.refl _ _).alloc (Nat.le_refl _) _) _⟩
set_option maxHeartbeats 2000000 in
set_option maxRecDepth 100000 in
theorem pass_same (b : Nat) (m nw la : Int) (br : Bool) (s t l q : Int) (bv : Value) (w : World) (h : LayerAt w b m nw la br) (hl : ¬ m < l) (hn : l = nw) :
    Calls Tryz.prog 124 #[.pointer (some ⟨b, 0, none⟩), .agg #[.int .i64 s, .int .i64 t, .int .i64 l, .int .i64 q, .bool false, bv]] w fun e w' => e = .returned (.bool (!br)) ∧ Below w.heap.size w w' := by
  have HL := hidden (h.alloc (.cells #[.int .i64 s, .int .i64 t, .int .i64 l, .int .i64 q, .bool false, bv] 31))
  have HX := hidden (Box.new w s t l q false bv)
  have hlt := h.lt
  clear h
  obtain ⟨c0, c1, c2, c3⟩ := HL.out.cells
  obtain ⟨x0, x1, x2, x3, x4, x5⟩ := HX.out.cells
  clear x0 x1 x3 x5 c1 c2 c3
  have d : decide (m < l) = false := by simpa using hl
  subst hn
  have d1 : (l == l) = true := by simp
  go_enter Tryz.func124, Tryz.ntmps124
  go_wp2_with fail
  go_quiet (fail)
  obtain ⟨wq, hwq⟩ : ∃ wq, (w.alloc (.cells #[.int .i64 s, .int .i64 t, .int .i64 l, .int .i64 q, .bool false, bv] 31)).drewN nq = wq := ⟨_, rfl⟩
  have HLq : Hid (LayerAt wq b m l la br) := by rw [← hwq]; exact HL.out.below (below_drewN (Below.refl _ _) _)
  have HXq : Hid (Box wq w.heap.size s t l q false bv) := by rw [← hwq]; exact HX.out.below (below_drewN (Below.refl _ _) _) HX.out.lt
  have HBq : Hid (Below w.heap.size w wq) := by rw [← hwq]; exact below_drewN ((Below.refl _ _).alloc (Nat.le_refl _) _) _
  rw [hwq]
  clear hwq HL HX c0 x2 x4
  obtain ⟨c0, c1, c2, c3⟩ := HLq.out.cells
  obtain ⟨x0, x1, x2, x3, x4, x5⟩ := HXq.out.cells
  clear x0 x1 x3 x5 c2
  go_wp2_with fail
  go_quiet (fail)
  go_wp2_with fail
  go_ret
  exact ⟨rfl, below_drewN HBq.out _⟩
set_option maxHeartbeats 2000000 in
set_option maxRecDepth 100000 in
theorem pass_other (b : Nat) (m nw la : Int) (br : Bool) (s t l q : Int) (bv : Value) (w : World) (h : LayerAt w b m nw la br) (hl : ¬ m < l) (hn : ¬ l = nw) :
    Calls Tryz.prog 124 #[.pointer (some ⟨b, 0, none⟩), .agg #[.int .i64 s, .int .i64 t, .int .i64 l, .int .i64 q, .bool false, bv]] w fun e w' => e = .returned (.bool (false)) ∧ Below w.heap.size w w' := by
  have HL := hidden (h.alloc (.cells #[.int .i64 s, .int .i64 t, .int .i64 l, .int .i64 q, .bool false, bv] 31))
  have HX := hidden (Box.new w s t l q false bv)
  have hlt := h.lt
  clear h
  obtain ⟨c0, c1, c2, c3⟩ := HL.out.cells
  obtain ⟨x0, x1, x2, x3, x4, x5⟩ := HX.out.cells
  clear x0 x1 x3 x5 c1 c2 c3
  have d : decide (m < l) = false := by simpa using hl
  have d1 : (l == nw) = false := by simpa using hn
  have d2 : decide (l = nw) = false := by simpa using hn
  clear hn
  go_enter Tryz.func124, Tryz.ntmps124
  go_wp2_with fail
  go_quiet (fail)
  obtain ⟨wq, hwq⟩ : ∃ wq, (w.alloc (.cells #[.int .i64 s, .int .i64 t, .int .i64 l, .int .i64 q, .bool false, bv] 31)).drewN nq = wq := ⟨_, rfl⟩
  have HLq : Hid (LayerAt wq b m nw la br) := by rw [← hwq]; exact HL.out.below (below_drewN (Below.refl _ _) _)
  have HXq : Hid (Box wq w.heap.size s t l q false bv) := by rw [← hwq]; exact HX.out.below (below_drewN (Below.refl _ _) _) HX.out.lt
  have HBq : Hid (Below w.heap.size w wq) := by rw [← hwq]; exact below_drewN ((Below.refl _ _).alloc (Nat.le_refl _) _) _
  rw [hwq]
  clear hwq HL HX c0 x2 x4
  obtain ⟨c0, c1, c2, c3⟩ := HLq.out.cells
  obtain ⟨x0, x1, x2, x3, x4, x5⟩ := HXq.out.cells
  clear x0 x1 x3 x5 c2
  go_wp2_with fail
  go_quiet (fail)
  go_wp2_with fail
  go_ret
  exact ⟨rfl, below_drewN HBq.out _⟩
set_option maxHeartbeats 2000000 in
set_option maxRecDepth 100000 in
theorem pass_no (b : Nat) (m nw la : Int) (br : Bool) (s t l q : Int) (bv : Value) (w : World) (h : LayerAt w b m nw la br) (hl : ¬ m < l) (hn : l < nw) (hw : wants m nw br = false) :
    Calls Tryz.prog 124 #[.pointer (some ⟨b, 0, none⟩), .agg #[.int .i64 s, .int .i64 t, .int .i64 l, .int .i64 q, .bool true, bv]] w fun e w' => e = .returned (.bool false) ∧ Below w.heap.size w w' := by
  have HL := hidden (h.alloc (.cells #[.int .i64 s, .int .i64 t, .int .i64 l, .int .i64 q, .bool true, bv] 31))
  have HX := hidden (Box.new w s t l q true bv)
  have hlt := h.lt
  clear h
  obtain ⟨c0, c1, c2, c3⟩ := HL.out.cells
  obtain ⟨x0, x1, x2, x3, x4, x5⟩ := HX.out.cells
  clear x0 x1 x3 x5 c1 c2 c3
  have d : decide (m < l) = false := by simpa using hl
  have d1 : decide (l < nw) = true := by simpa using hn
  have HW : Hid (∀ W, LayerAt W b m nw la br → Calls Tryz.prog 139 #[.pointer (some ⟨b, 0, none⟩)] W fun e w' => e = .returned (.bool false) ∧ ∃ k, w' = W.drewN k) := hidden (fun W hW => by have := wants_calls b m nw la br W hW; rw [hw] at this; exact this)
  clear hw
  go_enter Tryz.func124, Tryz.ntmps124
  go_wp2_with fail
  go_quiet (fail)
  obtain ⟨wq, hwq⟩ : ∃ wq, (w.alloc (.cells #[.int .i64 s, .int .i64 t, .int .i64 l, .int .i64 q, .bool true, bv] 31)).drewN nq = wq := ⟨_, rfl⟩
  have HLq : Hid (LayerAt wq b m nw la br) := by rw [← hwq]; exact HL.out.below (below_drewN (Below.refl _ _) _)
  have HXq : Hid (Box wq w.heap.size s t l q true bv) := by rw [← hwq]; exact HX.out.below (below_drewN (Below.refl _ _) _) HX.out.lt
  have HBq : Hid (Below w.heap.size w wq) := by rw [← hwq]; exact below_drewN ((Below.refl _ _).alloc (Nat.le_refl _) _) _
  rw [hwq]
  clear hwq HL HX c0 x2 x4
  obtain ⟨c0, c1, c2, c3⟩ := HLq.out.cells
  obtain ⟨x0, x1, x2, x3, x4, x5⟩ := HXq.out.cells
  clear x0 x1 x3 x5 c2
  go_wp2_with fail
  go_quiet ((go_at_call 139; exact Calls.quiet_of (HW.out _ (by exact HLq.out))))
  go_wp2_with fail
  go_ret
  exact ⟨rfl, below_drewN HBq.out _⟩
set_option maxHeartbeats 2000000 in
set_option maxRecDepth 100000 in
theorem pass_down (b : Nat) (m nw la : Int) (br : Bool) (s t l q : Int) (bv : Value) (w : World) (h : LayerAt w b m nw la br) (hl : ¬ m < l) (hn : l < nw) (hw : wants m nw br = true) :
    Calls Tryz.prog 124 #[.pointer (some ⟨b, 0, none⟩), .agg #[.int .i64 s, .int .i64 t, .int .i64 l, .int .i64 q, .bool true, bv]] w fun e w' => e = .returned (.bool true) ∧ LayerAt w' b m l la false ∧ Only [b] w w' := by
  have HL := hidden (h.alloc (.cells #[.int .i64 s, .int .i64 t, .int .i64 l, .int .i64 q, .bool true, bv] 31))
  have HX := hidden (Box.new w s t l q true bv)
  have hlt := h.lt
  clear h
  obtain ⟨c0, c1, c2, c3⟩ := HL.out.cells
  obtain ⟨x0, x1, x2, x3, x4, x5⟩ := HX.out.cells
  clear x0 x1 x3 x5 c1 c2 c3
  have d : decide (m < l) = false := by simpa using hl
  have d1 : decide (l < nw) = true := by simpa using hn
  have HW : Hid (∀ W, LayerAt W b m nw la br → Calls Tryz.prog 139 #[.pointer (some ⟨b, 0, none⟩)] W fun e w' => e = .returned (.bool true) ∧ ∃ k, w' = W.drewN k) := hidden (fun W hW => by have := wants_calls b m nw la br W hW; rw [hw] at this; exact this)
  clear hw
  go_enter Tryz.func124, Tryz.ntmps124
  go_wp2_with fail
  go_quiet (fail)
  obtain ⟨wq, hwq⟩ : ∃ wq, (w.alloc (.cells #[.int .i64 s, .int .i64 t, .int .i64 l, .int .i64 q, .bool true, bv] 31)).drewN nq = wq := ⟨_, rfl⟩
  have HLq : Hid (LayerAt wq b m nw la br) := by rw [← hwq]; exact HL.out.below (below_drewN (Below.refl _ _) _)
  have HXq : Hid (Box wq w.heap.size s t l q true bv) := by rw [← hwq]; exact HX.out.below (below_drewN (Below.refl _ _) _) HX.out.lt
  have HBq : Hid (Below w.heap.size w wq) := by rw [← hwq]; exact below_drewN ((Below.refl _ _).alloc (Nat.le_refl _) _) _
  rw [hwq]
  clear hwq HL HX c0 x2 x4
  obtain ⟨c0, c1, c2, c3⟩ := HLq.out.cells
  obtain ⟨x0, x1, x2, x3, x4, x5⟩ := HXq.out.cells
  clear x0 x1 x3 x5 c2
  go_wp2_with fail
  go_quiet ((go_at_call 139; exact Calls.quiet_of (HW.out _ (by exact HLq.out))))
  obtain ⟨wp, hwp⟩ : ∃ wp, wq.drewN nq = wp := ⟨_, rfl⟩
  have HLp : Hid (LayerAt wp b m nw la br) := by rw [← hwp]; exact HLq.out.below (below_drewN (Below.refl _ _) _)
  have HXp : Hid (Box wp w.heap.size s t l q true bv) := by rw [← hwp]; exact HXq.out.below (below_drewN (Below.refl _ _) _) HXq.out.lt
  have HBp : Hid (Below w.heap.size w wp) := by rw [← hwp]; exact below_drewN HBq.out _
  rw [hwp]
  clear hwp HLq HXq HBq c0 c1 c3 x2 x4
  obtain ⟨c0, c1, c2, c3⟩ := HLp.out.cells
  obtain ⟨x0, x1, x2, x3, x4, x5⟩ := HXp.out.cells
  have f1 := HLp.out.free 1
  have f3 := HLp.out.free 3
  clear x0 x1 x3 x4 x5 c0 c2
  go_wp2_with fail
  go_ret
  exact ⟨rfl, (HLp.out.setN l).setB false, ((Only.of_below HBp.out [b]).setCell (by simp) _).setCell (by simp) _⟩
set_option maxHeartbeats 2000000 in
set_option maxRecDepth 100000 in
theorem pass_up (b : Nat) (m nw la : Int) (br : Bool) (s t l q : Int) (bv : Value) (w : World) (h : LayerAt w b m nw la br) (hl : ¬ m < l) (hn : ¬ l < nw) :
    Calls Tryz.prog 124 #[.pointer (some ⟨b, 0, none⟩), .agg #[.int .i64 s, .int .i64 t, .int .i64 l, .int .i64 q, .bool true, bv]] w fun e w' => e = .returned (.bool true) ∧ LayerAt w' b m l la false ∧ Only [b] w w' := by
  have HL := hidden (h.alloc (.cells #[.int .i64 s, .int .i64 t, .int .i64 l, .int .i64 q, .bool true, bv] 31))
  have HX := hidden (Box.new w s t l q true bv)
  have hlt := h.lt
  clear h
  obtain ⟨c0, c1, c2, c3⟩ := HL.out.cells
  obtain ⟨x0, x1, x2, x3, x4, x5⟩ := HX.out.cells
  clear x0 x1 x3 x5 c1 c2 c3
  have d : decide (m < l) = false := by simpa using hl
  have d1 : decide (l < nw) = false := by simpa using hn
  go_enter Tryz.func124, Tryz.ntmps124
  go_wp2_with fail
  go_quiet (fail)
  obtain ⟨wq, hwq⟩ : ∃ wq, (w.alloc (.cells #[.int .i64 s, .int .i64 t, .int .i64 l, .int .i64 q, .bool true, bv] 31)).drewN nq = wq := ⟨_, rfl⟩
  have HLq : Hid (LayerAt wq b m nw la br) := by rw [← hwq]; exact HL.out.below (below_drewN (Below.refl _ _) _)
  have HXq : Hid (Box wq w.heap.size s t l q true bv) := by rw [← hwq]; exact HX.out.below (below_drewN (Below.refl _ _) _) HX.out.lt
  have HBq : Hid (Below w.heap.size w wq) := by rw [← hwq]; exact below_drewN ((Below.refl _ _).alloc (Nat.le_refl _) _) _
  rw [hwq]
  clear hwq HL HX c0 x2 x4
  obtain ⟨c0, c1, c2, c3⟩ := HLq.out.cells
  obtain ⟨x0, x1, x2, x3, x4, x5⟩ := HXq.out.cells
  clear x0 x1 x3 x5 c2
  go_wp2_with fail
  go_quiet (fail)
  obtain ⟨wp, hwp⟩ : ∃ wp, wq.drewN nq = wp := ⟨_, rfl⟩
  have HLp : Hid (LayerAt wp b m nw la br) := by rw [← hwp]; exact HLq.out.below (below_drewN (Below.refl _ _) _)
  have HXp : Hid (Box wp w.heap.size s t l q true bv) := by rw [← hwp]; exact HXq.out.below (below_drewN (Below.refl _ _) _) HXq.out.lt
  have HBp : Hid (Below w.heap.size w wp) := by rw [← hwp]; exact below_drewN HBq.out _
  rw [hwp]
  clear hwp HLq HXq HBq c0 c1 c3 x2 x4
  obtain ⟨c0, c1, c2, c3⟩ := HLp.out.cells
  obtain ⟨x0, x1, x2, x3, x4, x5⟩ := HXp.out.cells
  have f1 := HLp.out.free 1
  have f3 := HLp.out.free 3
  clear x0 x1 x3 x4 x5 c0 c2
  go_wp2_with fail
  go_ret
  exact ⟨rfl, (HLp.out.setN l).setB false, ((Only.of_below HBp.out [b]).setCell (by simp) _).setCell (by simp) _⟩
/-- pass, whatever the packet is -/
theorem pass_calls (b : Nat) (m nw la : Int) (br : Bool) (s t l q : Int) (st : Bool) (bv : Value) (w : World) (h : LayerAt w b m nw la br) (hl : 0 ≤ l) :
    Calls Tryz.prog 124 #[.pointer (some ⟨b, 0, none⟩), .agg #[.int .i64 s, .int .i64 t, .int .i64 l, .int .i64 q, .bool st, bv]] w fun e w' => e = .returned (.bool (goes m nw l br st)) ∧ LayerAt w' b m (if goes m nw l br st && st then l else nw) la (if goes m nw l br st && st then false else br) ∧ Only [b] w w' := by
  by_cases p0 : m < l
  · have e : goes m nw l br st = false := by simp [goes]; omega
    rw [e]
    refine (pass_above b m nw la br s t l q st bv w h p0).mono ?_
    rintro e w' ⟨rfl, hb⟩
    exact ⟨rfl, h.below hb, Only.of_below hb _⟩
  have p0' : l ≤ m := by omega
  cases st with
  | false =>
    have e : goes m nw l br false = (decide (l = nw) && !br) := by simp [goes, p0']
    rw [e]
    by_cases p1 : l = nw
    · refine (pass_same b m nw la br s t l q bv w h p0 p1).mono ?_
      rintro e w' ⟨rfl, hb⟩
      refine ⟨by simp [p1], ?_, Only.of_below hb _⟩
      simpa using h.below hb
    · refine (pass_other b m nw la br s t l q bv w h p0 p1).mono ?_
      rintro e w' ⟨rfl, hb⟩
      refine ⟨by simp [p1], ?_, Only.of_below hb _⟩
      simpa using h.below hb
  | true =>
    by_cases p1 : l < nw
    · have e : goes m nw l br true = wants m nw br := by
        have h1 : ¬ nw ≤ l := by omega
        have h2 : ¬ nw = -1 := by omega
        simp [goes, wants, p0', h1, h2]
      rw [e]
      cases hw : wants m nw br with
      | false =>
        refine (pass_no b m nw la br s t l q bv w h p0 p1 hw).mono ?_
        rintro e w' ⟨rfl, hb⟩
        exact ⟨rfl, h.below hb, Only.of_below hb _⟩
      | true =>
        refine (pass_down b m nw la br s t l q bv w h p0 p1 hw).mono ?_
        rintro e w' ⟨rfl, hb, ho⟩
        exact ⟨rfl, hb, ho⟩
    · have e : goes m nw l br true = true := by
        have h1 : nw ≤ l := by omega
        simp [goes, p0', h1]
      rw [e]
      refine (pass_up b m nw la br s t l q bv w h p0 p1).mono ?_
      rintro e w' ⟨rfl, hb, ho⟩
      exact ⟨rfl, hb, ho⟩

set_option maxHeartbeats 2000000 in
set_option maxRecDepth 100000 in
theorem take_err (b : Nat) (m nw la n : Int) (br g : Bool) (s t l q : Int) (st : Bool) (a : Option Addr) (k c : Nat) (w : World) (h : LayerAt w b m nw la br) (hf : tkf la n g (fault s t l q k) ≠ 0) :
    Calls Tryz.prog 106 #[.pointer (some ⟨b, 0, none⟩), .agg #[.int .i64 n, .bool g, .int .i64 s, .int .i64 t, .int .i64 l, .int .i64 q, .bool st, .slice a k c]] w fun e w' => e = .returned (.tuple #[.bool false, errv (tkf la n g (fault s t l q k))]) ∧ Below w.heap.size w w' := by
  have HL := hidden (h.alloc (.cells #[.int .i64 n, .bool g, .int .i64 s, .int .i64 t, .int .i64 l, .int .i64 q, .bool st, .slice a k c] 201))
  have HX := hidden (IBox.new w n g s t l q st (.slice a k c))
  have hlt := h.lt
  have HC : Hid (∀ W, LayerAt W b m nw la br → Calls Tryz.prog 123 #[.pointer (some ⟨b, 0, none⟩), .agg #[.int .i64 n, .bool g, .int .i64 s, .int .i64 t, .int .i64 l, .int .i64 q, .bool st, .slice a k c]] W fun e w' => e = .returned (errv (tkf la n g (fault s t l q k))) ∧ Below W.heap.size W w') := hidden (fun W hW => check_calls b m nw la n br g s t l q st a k c W hW)
  clear h
  generalize tkf la n g (fault s t l q k) = f at *
  rw [errv_pos hf] at *
  clear hf
  obtain ⟨x0, x1, x2, x3, x4, x5, x6, x7⟩ := HX.out.cells
  go_enter Tryz.func106, Tryz.ntmps106
  go_wp2_with fail
  refine (HC.out _ HL.out).mono ?_
  rintro e w1 ⟨rfl, hb⟩
  have HB1 : Hid (Below w.heap.size w w1) := hidden (((Below.refl _ _).alloc (Nat.le_refl _) _).trans (hb.mono (by simp)))
  have HX1 := hidden (HX.out.below hb HX.out.lt)
  have HL1 := hidden (HL.out.below hb)
  clear hb HC HL HX x0 x1 x2 x3 x4 x5 x6 x7
  go_wp2_with fail
  go_ret2
  exact ⟨rfl, HB1.out⟩
set_option maxHeartbeats 2000000 in
set_option maxRecDepth 100000 in
theorem take_gone (b : Nat) (m nw la n : Int) (br : Bool) (s t l q : Int) (st : Bool) (a : Option Addr) (k c : Nat) (w : World) (h : LayerAt w b m nw la br) (hf : tkf la n true (fault s t l q k) = 0) :
    Calls Tryz.prog 106 #[.pointer (some ⟨b, 0, none⟩), .agg #[.int .i64 n, .bool true, .int .i64 s, .int .i64 t, .int .i64 l, .int .i64 q, .bool st, .slice a k c]] w fun e w' => e = .returned (.tuple #[.bool false, .nilIface]) ∧ LayerAt w' b m nw n (decide (nw ≠ -1)) ∧ Only [b] w w' := by
  have HL := hidden (h.alloc (.cells #[.int .i64 n, .bool true, .int .i64 s, .int .i64 t, .int .i64 l, .int .i64 q, .bool st, .slice a k c] 201))
  have HX := hidden (IBox.new w n true s t l q st (.slice a k c))
  have hlt := h.lt
  have HC : Hid (∀ W, LayerAt W b m nw la br → Calls Tryz.prog 123 #[.pointer (some ⟨b, 0, none⟩), .agg #[.int .i64 n, .bool true, .int .i64 s, .int .i64 t, .int .i64 l, .int .i64 q, .bool st, .slice a k c]] W fun e w' => e = .returned (errv (tkf la n true (fault s t l q k))) ∧ Below W.heap.size W w') := hidden (fun W hW => check_calls b m nw la n br true s t l q st a k c W hW)
  clear h
  rw [hf, errv_zero] at HC
  clear hf
  obtain ⟨x0, x1, x2, x3, x4, x5, x6, x7⟩ := HX.out.cells
  go_enter Tryz.func106, Tryz.ntmps106
  go_wp2_with fail
  refine (HC.out _ HL.out).mono ?_
  rintro e w1 ⟨rfl, hb⟩
  have HB1 : Hid (Below w.heap.size w w1) := hidden (((Below.refl _ _).alloc (Nat.le_refl _) _).trans (hb.mono (by simp)))
  have HX1 := hidden (HX.out.below hb HX.out.lt)
  have HL1 := hidden (HL.out.below hb)
  clear hb HC HL HX x0 x1 x2 x3 x4 x5 x6 x7
  obtain ⟨x0, x1, x2, x3, x4, x5, x6, x7⟩ := HX1.out.cells
  obtain ⟨c0, c1, c2, c3⟩ := HL1.out.cells
  have f2 := HL1.out.free 2
  have f3 := HL1.out.free 3
  have hne : ¬ w.heap.size = b := by omega
  have hne' : ¬ b = w.heap.size := by omega
  clear c0 x2 x3 x4 x5 x6 x7
  go_wp2_with fail
  go_ret2
  have h1 := (HL1.out.setL n).setB (decide (nw ≠ -1))
  refine ⟨rfl, ?_, ((Only.of_below HB1.out [b]).setCell (by simp) _).setCell (by simp) _⟩
  have e : (nw != -1) = decide (nw ≠ -1) := by by_cases p : nw = -1 <;> simp [p]
  first | exact h1 | (rw [e]; exact h1) | (rw [← e] at h1 ⊢; exact h1)
set_option maxHeartbeats 2000000 in
set_option maxRecDepth 100000 in
theorem take_pack (b : Nat) (m nw la n : Int) (br : Bool) (s t l q : Int) (st : Bool) (a : Option Addr) (k c : Nat) (w : World) (h : LayerAt w b m nw la br) (hf : tkf la n false (fault s t l q k) = 0) (hl : 0 ≤ l) :
    Calls Tryz.prog 106 #[.pointer (some ⟨b, 0, none⟩), .agg #[.int .i64 n, .bool false, .int .i64 s, .int .i64 t, .int .i64 l, .int .i64 q, .bool st, .slice a k c]] w fun e w' => e = .returned (.tuple #[.bool (goes m nw l br st), .nilIface]) ∧ LayerAt w' b m (if goes m nw l br st && st then l else nw) n (if goes m nw l br st && st then false else br) ∧ Only [b] w w' := by
  have HL := hidden (h.alloc (.cells #[.int .i64 n, .bool false, .int .i64 s, .int .i64 t, .int .i64 l, .int .i64 q, .bool st, .slice a k c] 201))
  have HX := hidden (IBox.new w n false s t l q st (.slice a k c))
  have hlt := h.lt
  have HC : Hid (∀ W, LayerAt W b m nw la br → Calls Tryz.prog 123 #[.pointer (some ⟨b, 0, none⟩), .agg #[.int .i64 n, .bool false, .int .i64 s, .int .i64 t, .int .i64 l, .int .i64 q, .bool st, .slice a k c]] W fun e w' => e = .returned (errv (tkf la n false (fault s t l q k))) ∧ Below W.heap.size W w') := hidden (fun W hW => check_calls b m nw la n br false s t l q st a k c W hW)
  clear h
  rw [hf, errv_zero] at HC
  clear hf
  have HP : Hid (∀ W, LayerAt W b m nw n br → Calls Tryz.prog 124 #[.pointer (some ⟨b, 0, none⟩), .agg #[.int .i64 s, .int .i64 t, .int .i64 l, .int .i64 q, .bool st, .slice a k c]] W fun e w' => e = .returned (.bool (goes m nw l br st)) ∧ LayerAt w' b m (if goes m nw l br st && st then l else nw) n (if goes m nw l br st && st then false else br) ∧ Only [b] W w') := hidden (fun W hW => pass_calls b m nw n br s t l q st (.slice a k c) W hW hl)
  generalize (if goes m nw l br st && st then l else nw) = nw2 at *
  generalize (if goes m nw l br st && st then false else br) = br2 at *
  generalize goes m nw l br st = x at *
  obtain ⟨x0, x1, x2, x3, x4, x5, x6, x7⟩ := HX.out.cells
  go_enter Tryz.func106, Tryz.ntmps106
  go_wp2_with fail
  refine (HC.out _ HL.out).mono ?_
  rintro e w1 ⟨rfl, hb⟩
  have HB1 : Hid (Below w.heap.size w w1) := hidden (((Below.refl _ _).alloc (Nat.le_refl _) _).trans (hb.mono (by simp)))
  have HX1 := hidden (HX.out.below hb HX.out.lt)
  have HL1 := hidden (HL.out.below hb)
  clear hb HC HL HX x0 x1 x2 x3 x4 x5 x6 x7
  obtain ⟨x0, x1, x2, x3, x4, x5, x6, x7⟩ := HX1.out.cells
  obtain ⟨c0, c1, c2, c3⟩ := HL1.out.cells
  have f2 := HL1.out.free 2
  have hne : ¬ w.heap.size = b := by omega
  have hne' : ¬ b = w.heap.size := by omega
  clear c0 c1 c3
  go_wp2_with fail
  refine (HP.out _ (HL1.out.setL n)).mono ?_
  rintro e w2 ⟨rfl, h2, ho⟩
  have HL2 := hidden h2
  have HO2 := hidden (((Only.of_below HB1.out [b]).setCell (p := ⟨b, 2, none⟩) (by simp) (.int .i64 n)).trans ho)
  clear h2 ho
  go_wp2_with fail
  go_ret2
  exact ⟨rfl, HL2.out, HO2.out⟩
/-- Take, whatever is given -/
theorem take_calls (b : Nat) (m nw la n : Int) (br g : Bool) (s t l q : Int) (st : Bool) (a : Option Addr) (k c : Nat) (w : World) (h : LayerAt w b m nw la br) :
    Calls Tryz.prog 106 #[.pointer (some ⟨b, 0, none⟩), .agg #[.int .i64 n, .bool g, .int .i64 s, .int .i64 t, .int .i64 l, .int .i64 q, .bool st, .slice a k c]] w fun e w' => e = .returned (.tuple #[.bool (tkx m nw la n br g (fault s t l q k) l st), errv (tkf la n g (fault s t l q k))]) ∧ LayerAt w' b m (tkN m nw la n br g (fault s t l q k) l st) (tkL la n g (fault s t l q k)) (tkB m nw la n br g (fault s t l q k) l st) ∧ Only [b] w w' := by
  by_cases hf : tkf la n g (fault s t l q k) = 0
  · cases g with
    | true =>
      obtain ⟨e0, e1, e2, e3⟩ := tk_gone (m := m) (nw := nw) (br := br) (l := l) (st := st) hf
      rw [e0, e1, e2, e3, hf, errv_zero]
      exact take_gone b m nw la n br s t l q st a k c w h hf
    | false =>
      obtain ⟨e0, e1, e2, e3⟩ := tk_pack (m := m) (nw := nw) (br := br) (l := l) (st := st) hf
      rw [e0, e1, e2, e3, hf, errv_zero]
      obtain ⟨_, _, z, _, _, _, hz, _⟩ := fault_zero ((tkf_zero hf).2.2.2 rfl)
      exact take_pack b m nw la n br s t l q st a k c w h hf (by omega)
  · obtain ⟨e0, e1, e2, e3⟩ := tk_bad (m := m) (nw := nw) (br := br) (l := l) (st := st) hf
    rw [e0, e1, e2, e3]
    refine (take_err b m nw la n br g s t l q st a k c w h hf).mono ?_
    rintro e w' ⟨rfl, hb⟩
    exact ⟨rfl, h.below hb, Only.of_below hb _⟩
end Go.Proofs.YtijfocggdjjnjaiGreatDoor.Layer

/-
  What Next of package out returns, and what it leaves in memory. Its condition: the Out is such as it may be.
-/
namespace Go.Proofs.YtijfocggdjjnjaiGreatDoor.Out
open Go.ChangeShapes Go.WideShapes Go.ChangeAt Go.RowKit Go.Proofs.YtijfocggdjjnjaiGreatDoor.PM Go.Proofs.YtijfocggdjjnjaiGreatDoor.Mem Go.Proofs.YtijfocggdjjnjaiGreatDoor.Pack Go.Proofs.YtijfocggdjjnjaiGreatDoor.UM
set_option linter.unusedVariables false

/-- a variable of a packet, written whole -/
theorem box6 {W : World} {g : Nat} {z0 z1 z2 z3 z4 z5 : Value} (hh : W.heap[g]? = some (.cells #[z0, z1, z2, z3, z4, z5] 31 (0, 0))) (s t l v : Int) (st : Bool) (bv : Value) :
    Box ((((((W.setCell ⟨g, 0, none⟩ (.int .i64 s)).setCell ⟨g, 1, none⟩ (.int .i64 t)).setCell ⟨g, 2, none⟩ (.int .i64 l)).setCell ⟨g, 3, none⟩ (.int .i64 v)).setCell ⟨g, 4, none⟩ (.bool st)).setCell ⟨g, 5, none⟩ bv) g s t l v st bv := by
  have h0 := heap_setCell_same _ _ 0 _ _ (.int .i64 s) hh
  have h1 := heap_setCell_same _ _ 1 _ _ (.int .i64 t) h0
  have h2 := heap_setCell_same _ _ 2 _ _ (.int .i64 l) h1
  have h3 := heap_setCell_same _ _ 3 _ _ (.int .i64 v) h2
  have h4 := heap_setCell_same _ _ 4 _ _ (.bool st) h3
  have h5 := heap_setCell_same _ _ 5 _ _ bv h4
  exact h5
theorem only6 {w W : World} {bs : List Nat} {g : Nat} (h : Only bs w W) (hg : g ∈ bs) (v0 v1 v2 v3 v4 v5 : Value) :
    Only bs w ((((((W.setCell ⟨g, 0, none⟩ v0).setCell ⟨g, 1, none⟩ v1).setCell ⟨g, 2, none⟩ v2).setCell ⟨g, 3, none⟩ v3).setCell ⟨g, 4, none⟩ v4).setCell ⟨g, 5, none⟩ v5) :=
  (((((h.setCell hg _).setCell hg _).setCell hg _).setCell hg _).setCell hg _).setCell hg _
theorem boxSet0 {w : World} {g : Nat} {s t l q : Int} {st : Bool} {bv : Value} (h : Box w g s t l q st bv) (x : Int) : Box (w.setCell ⟨g, 0, none⟩ (.int .i64 x)) g x t l q st bv := heap_setCell_same w g 0 _ _ _ h
theorem boxSet1 {w : World} {g : Nat} {s t l q : Int} {st : Bool} {bv : Value} (h : Box w g s t l q st bv) (x : Int) : Box (w.setCell ⟨g, 1, none⟩ (.int .i64 x)) g s x l q st bv := heap_setCell_same w g 1 _ _ _ h
theorem boxSet5 {w : World} {g : Nat} {s t l q : Int} {st : Bool} {bv : Value} (h : Box w g s t l q st bv) (x : Value) : Box (w.setCell ⟨g, 5, none⟩ x) g s t l q st x := heap_setCell_same w g 5 _ _ _ h
theorem boxOther {w : World} {g : Nat} {s t l q : Int} {st : Bool} {bv : Value} (h : Box w g s t l q st bv) {p : Addr} (hp : g ≠ p.block) (u : Value) : Box (w.setCell p u) g s t l q st bv := (Below.heap_setCell _ _ _ _ hp).trans h
theorem boxFree {w : World} {g : Nat} {s t l q : Int} {st : Bool} {bv : Value} (h : Box w g s t l q st bv) (j : Nat) : w.frozen? ⟨g, j, none⟩ = false := by
  simp only [Box] at h
  simp [World.frozen?, h]
theorem outOther {w : World} {b : Nat} {S : Int} {k : Nat} {T ly ow : Int} (h : OutAt w b S k T ly ow) {p : Addr} (hp : b ≠ p.block) (u : Value) : OutAt (w.setCell p u) b S k T ly ow := (Below.heap_setCell _ _ _ _ hp).trans h

/-- no byte lies in a packet's variable -/
theorem boxNob {w : World} {g : Nat} {s t l q : Int} {st : Bool} {a : Option Addr} {n c : Nat} (h : Box w g s t l q st (.slice a n c)) (j : Nat) (x : Int) : w.cell? ⟨g, j, none⟩ ≠ some (.int .u8 x) := by
  simp only [Box] at h
  rcases Nat.lt_or_ge j 6 with hj | hj
  · rcases j with _ | _ | _ | _ | _ | _ | j
    · simp [World.cell?, h]
    · simp [World.cell?, h]
    · simp [World.cell?, h]
    · simp [World.cell?, h]
    · simp [World.cell?, h]
    · simp [World.cell?, h]
    · omega
  · simp [World.cell?, h, show ¬ j < 6 by omega]
theorem argOnly {w w' : World} {g : Nat} (h : ∀ j c, w.cell? ⟨g, j, none⟩ ≠ some (.int .u8 c)) (ho : Only [g] w w') {a : Option Addr} {n : Nat} {L : List Nat} (hA : Arg w a n L) : Arg w' a n L := by
  refine ⟨⟨hA.1.1, fun j hj => ?_⟩, hA.2⟩
  obtain ⟨bb, o, e, hc⟩ := hA.1.2 j hj
  refine ⟨bb, o, e, ?_⟩
  have hne : bb ≠ g := fun e => by rw [e] at hc; exact h _ _ hc
  have hb := ho.2.2.2.2 bb (World.block_lt_of_cell? w ⟨bb, o + j, none⟩ hc) (by simp; exact hne)
  rw [← hc]
  simp [World.cell?, hb]
/-- under way within Next: the Out, the packet in its variable g, the result's variable r -/
structure NSt (w W : World) (b g r : Nat) (S : Int) (k : Nat) (T ly ow s t l q : Int) (st : Bool) (bv : Value) : Prop where
  out : OutAt W b S k T ly ow
  box : Box W g s t l q st bv
  res : Box W r 0 0 0 0 false (.slice none 0 0)
  only : Only [b] w W
  hb : b < w.heap.size
  hg : w.heap.size ≤ g
  hr : w.heap.size ≤ r
  ne : g ≠ r
theorem NSt.start {w : World} {b : Nat} {S : Int} {k : Nat} {T ly ow : Int} (h : OutAt w b S k T ly ow) (s t l q : Int) (st : Bool) (bv : Value) :
    NSt w ((w.alloc (.cells #[.int .i64 s, .int .i64 t, .int .i64 l, .int .i64 q, .bool st, bv] 31)).alloc (.cells #[.int .i64 0, .int .i64 0, .int .i64 0, .int .i64 0, .bool false, .slice none 0 0] 31)) b w.heap.size (w.heap.size + 1) S k T ly ow s t l q st bv := by
  refine ⟨(h.alloc _).alloc _, (Box.new w s t l q st bv).alloc _, ?_, ((Only.refl _ _).alloc _).alloc _, h.lt, Nat.le_refl _, Nat.le_succ _, by omega⟩
  have := Box.new (w.alloc (.cells #[.int .i64 s, .int .i64 t, .int .i64 l, .int .i64 q, .bool st, bv] 31)) 0 0 0 0 false (.slice none 0 0)
  simpa using this
theorem NSt.below {w W W' : World} {b g r : Nat} {S : Int} {k : Nat} {T ly ow s t l q : Int} {st : Bool} {bv : Value} (h : NSt w W b g r S k T ly ow s t l q st bv) (hb : Below W.heap.size W W') : NSt w W' b g r S k T ly ow s t l q st bv :=
  ⟨h.out.below hb, h.box.below hb h.box.lt, h.res.below hb h.res.lt, h.only.trans (Only.of_below hb _), h.hb, h.hg, h.hr, h.ne⟩
theorem NSt.ds {w W : World} {b g r : Nat} {S : Int} {k : Nat} {T ly ow s t l q : Int} {st : Bool} {bv : Value} (h : NSt w W b g r S k T ly ow s t l q st bv) : ¬ b = g ∧ ¬ g = b ∧ ¬ b = r ∧ ¬ r = b ∧ ¬ g = r ∧ ¬ r = g := by
  obtain ⟨_, _, _, _, h1, h2, h3, h4⟩ := h
  omega
theorem NSt.setT {w W : World} {b g r : Nat} {S : Int} {k : Nat} {T ly ow s t l q : Int} {st : Bool} {bv : Value} (h : NSt w W b g r S k T ly ow s t l q st bv) (x : Int) : NSt w (W.setCell ⟨b, 2, none⟩ (.int .i64 x)) b g r S k x ly ow s t l q st bv :=
  ⟨h.out.setT x, boxOther h.box h.ds.2.1 _, boxOther h.res h.ds.2.2.2.1 _, h.only.setCell (by simp) _, h.hb, h.hg, h.hr, h.ne⟩
theorem NSt.setL {w W : World} {b g r : Nat} {S : Int} {k : Nat} {T ly ow s t l q : Int} {st : Bool} {bv : Value} (h : NSt w W b g r S k T ly ow s t l q st bv) (x : Int) : NSt w (W.setCell ⟨b, 3, none⟩ (.int .i64 x)) b g r S k T x ow s t l q st bv :=
  ⟨h.out.setL x, boxOther h.box h.ds.2.1 _, boxOther h.res h.ds.2.2.2.1 _, h.only.setCell (by simp) _, h.hb, h.hg, h.hr, h.ne⟩
theorem NSt.setO {w W : World} {b g r : Nat} {S : Int} {k : Nat} {T ly ow s t l q : Int} {st : Bool} {bv : Value} (h : NSt w W b g r S k T ly ow s t l q st bv) (x : Int) : NSt w (W.setCell ⟨b, 4, none⟩ (.int .i64 x)) b g r S k T ly x s t l q st bv :=
  ⟨h.out.setO x, boxOther h.box h.ds.2.1 _, boxOther h.res h.ds.2.2.2.1 _, h.only.setCell (by simp) _, h.hb, h.hg, h.hr, h.ne⟩
theorem NSt.setK {w W : World} {b g r : Nat} {S : Int} {k : Nat} {T ly ow s t l q : Int} {st : Bool} {bv : Value} (h : NSt w W b g r S k T ly ow s t l q st bv) : NSt w (W.setCell ⟨b, 1, none⟩ (.int .i64 ((k : Int) + 1))) b g r S (k + 1) T ly ow s t l q st bv :=
  ⟨h.out.setK, boxOther h.box h.ds.2.1 _, boxOther h.res h.ds.2.2.2.1 _, h.only.setCell (by simp) _, h.hb, h.hg, h.hr, h.ne⟩
theorem only_new {bs : List Nat} {w W : World} {g : Nat} (h : Only bs w W) (hg : w.heap.size ≤ g) (j : Nat) (u : Value) : Only bs w (W.setCell ⟨g, j, none⟩ u) :=
  ⟨h.1, h.2.1, h.2.2.1, by simp [World.setCell]; exact h.2.2.2.1, fun k hk hn => (Below.heap_setCell _ _ _ _ (by show k ≠ g; omega)).trans (h.2.2.2.2 k hk hn)⟩
theorem NSt.set0 {w W : World} {b g r : Nat} {S : Int} {k : Nat} {T ly ow s t l q : Int} {st : Bool} {bv : Value} (h : NSt w W b g r S k T ly ow s t l q st bv) (x : Int) : NSt w (W.setCell ⟨g, 0, none⟩ (.int .i64 x)) b g r S k T ly ow x t l q st bv :=
  ⟨outOther h.out h.ds.1 _, boxSet0 h.box x, boxOther h.res h.ds.2.2.2.2.2 _, only_new h.only h.hg _ _, h.hb, h.hg, h.hr, h.ne⟩
theorem NSt.set1 {w W : World} {b g r : Nat} {S : Int} {k : Nat} {T ly ow s t l q : Int} {st : Bool} {bv : Value} (h : NSt w W b g r S k T ly ow s t l q st bv) (x : Int) : NSt w (W.setCell ⟨g, 1, none⟩ (.int .i64 x)) b g r S k T ly ow s x l q st bv :=
  ⟨outOther h.out h.ds.1 _, boxSet1 h.box x, boxOther h.res h.ds.2.2.2.2.2 _, only_new h.only h.hg _ _, h.hb, h.hg, h.hr, h.ne⟩
theorem NSt.set5 {w W : World} {b g r : Nat} {S : Int} {k : Nat} {T ly ow s t l q : Int} {st : Bool} {bv : Value} (h : NSt w W b g r S k T ly ow s t l q st bv) (x : Value) : NSt w (W.setCell ⟨g, 5, none⟩ x) b g r S k T ly ow s t l q st x :=
  ⟨outOther h.out h.ds.1 _, boxSet5 h.box x, boxOther h.res h.ds.2.2.2.2.2 _, only_new h.only h.hg _ _, h.hb, h.hg, h.hr, h.ne⟩
theorem NSt.grown {w W W' : World} {b g r : Nat} {S : Int} {k : Nat} {T ly ow s t l q : Int} {st : Bool} {bv : Value} (h : NSt w W b g r S k T ly ow s t l q st bv) (hg : W.grownBy W' none) : NSt w W' b g r S k T ly ow s t l q st bv :=
  h.below ((Below.refl _ _).grown hg (Nat.le_refl _) (by simp))

set_option maxHeartbeats 2000000 in
set_option maxRecDepth 100000 in
theorem next_err (b : Nat) (S : Int) (k : Nat) (T ly ow : Int) (s t l q : Int) (st : Bool) (a : Option Addr) (n cap : Nat) (w : World) (h : OutAt w b S k T ly ow) (hf : fault s t l q n ≠ 0) :
    Calls Tryz.prog 107 #[.pointer (some ⟨b, 0, none⟩), .agg #[.int .i64 s, .int .i64 t, .int .i64 l, .int .i64 q, .bool st, .slice a n cap]] w fun e w' => e = .returned (.tuple #[.agg #[.int .i64 0, .int .i64 0, .int .i64 0, .int .i64 0, .bool false, .slice none 0 0], errv (fault s t l q n)]) ∧ Below w.heap.size w w' := by
  have HC := hidden (fun W => Pack.check_calls s t l q st a n cap W)
  have HS := hidden (NSt.start h s t l q st (.slice a n cap))
  generalize fault s t l q n = f at *
  have HB := hidden (((Below.refl w.heap.size w).alloc (Nat.le_refl _) (.cells #[.int .i64 s, .int .i64 t, .int .i64 l, .int .i64 q, .bool st, .slice a n cap] 31)).alloc (by simp) (.cells #[.int .i64 0, .int .i64 0, .int .i64 0, .int .i64 0, .bool false, .slice none 0 0] 31))
  have hcmp := cmp_ne f
  have hgrd := grd_ne f
  rw [decide_eq_false hf] at hcmp
  clear h hf
  go_enter Tryz.func107, Tryz.ntmps107
  go_wp2_with fail
  refine (HC.out _).mono ?_
  rintro e w2 ⟨rfl, hb⟩
  have HS2 := hidden (HS.out.below hb)
  have HB2 : Hid (Below w.heap.size w w2) := HB.out.trans (hb.mono HB.out.size)
  clear hb HS HB HC
  obtain ⟨x0, x1, x2, x3, x4, x5⟩ := HS2.out.res.cells
  have f0 := boxFree HS2.out.res 0
  have f1 := boxFree HS2.out.res 1
  have f2 := boxFree HS2.out.res 2
  have f3 := boxFree HS2.out.res 3
  have f4 := boxFree HS2.out.res 4
  have f5 := boxFree HS2.out.res 5
  go_wp2_with fail
  refine bodyPost_ret (res_pk (g := w.heap.size + 1) rfl rfl (box6 HS2.out.res 0 0 0 0 false (.slice none 0 0))) rfl ?_
  exact ⟨rfl, HB2.out.trans ((only6 (bs := [w.heap.size + 1]) (Only.refl _ w2) (by simp) _ _ _ _ _ _).below HB2.out.size (by simp))⟩

end Go.Proofs.YtijfocggdjjnjaiGreatDoor.Out

/-
  What Next of package out returns of a packet that is right, and what it leaves in memory. Its condition: the Out is such as it may be.
-/
namespace Go.Proofs.YtijfocggdjjnjaiGreatDoor.Out
open Go.ChangeShapes Go.WideShapes Go.ChangeAt Go.RowKit Go.Proofs.YtijfocggdjjnjaiGreatDoor.PM Go.Proofs.YtijfocggdjjnjaiGreatDoor.Mem Go.Proofs.YtijfocggdjjnjaiGreatDoor.Pack Go.Proofs.YtijfocggdjjnjaiGreatDoor.UM
set_option linter.unusedVariables false

set_option maxHeartbeats 4000000 in
set_option maxRecDepth 100000 in
theorem next_ok (b : Nat) (S : Int) (k : Nat) (T ly ow : Int) (s t l q : Int) (st : Bool) (a : Option Addr) (n cap : Nat) (L : List Nat) (w : World) (h : OutAt w b S k T ly ow) (hI : UM.Inv S k T ow) (hk : k < 1000) (hf : fault s t l q n = 0) (hA : Arg w a n L) (hN : a = none → n = 0 ∧ cap = 0) :
    Calls Tryz.prog 107 #[.pointer (some ⟨b, 0, none⟩), .agg #[.int .i64 s, .int .i64 t, .int .i64 l, .int .i64 q, .bool st, .slice a n cap]] w fun e w' => ∃ a' c', e = .returned (.tuple #[.agg #[.int .i64 (sq S k), .int .i64 (nt k T ly ow l t), .int .i64 l, .int .i64 q, .bool st, .slice a' n c'], .nilIface]) ∧
      OutAt w' b S (k + 1) (nt k T ly ow l t) l t ∧ Arg w' a' n L ∧ (a' = none → n = 0 ∧ c' = 0) ∧ Only [b] w w' ∧ ∀ ad, a' = some ad → w.heap.size ≤ ad.block := by
  have HC : Hid (∀ W, Calls Tryz.prog 24 #[.agg #[.int .i64 s, .int .i64 t, .int .i64 l, .int .i64 q, .bool st, .slice a n cap]] W fun e w' => e = .returned .nilIface ∧ Below W.heap.size W w') := hidden (fun W => by have := Pack.check_calls s t l q st a n cap W; rw [hf, errv_zero] at this; exact this)
  have ht : 0 ≤ t ∧ t ≤ 4294967295 ∧ n ≤ 1000 := by obtain ⟨_, t', _, _, _, ht, _, _, _, ht1, _, _, hn⟩ := fault_zero hf; omega
  obtain ⟨ht0, ht1, hn⟩ := ht
  have HT : Hid (∀ W, OutAt W b S k T ly ow → Calls Tryz.prog 125 #[.pointer (some ⟨b, 0, none⟩), .agg #[.int .i64 s, .int .i64 t, .int .i64 l, .int .i64 q, .bool st, .slice a n cap]] W fun e w' => e = .returned (.int .i64 (nt k T ly ow l t)) ∧ Below W.heap.size W w') := hidden (fun W hW => timeOf_calls b S k T ly ow s t l q st _ W hW hI ht0 ht1)
  obtain ⟨i0, hii, hz0, hz1, hz2⟩ := info_parts info5
  have hl : ∀ x ∈ L, x < 256 := hA.1.1
  have HA := hidden hA
  have HO := hidden h
  have HN := hidden hN
  have HL := hidden hl
  have HS := hidden (NSt.start h s t l q st (.slice a n cap))
  obtain ⟨y1, y2, _, _, _, _, _⟩ := hI
  generalize nt k T ly ow l t = T' at *
  have HQ : Hid ((S + (k : Int)) % 65536 = sq S k) := hidden rfl
  generalize sq S k = Q at *
  clear h hf hA hN hl
  go_enter Tryz.func107, Tryz.ntmps107
  go_wp2_with fail
  refine (HC.out _).mono ?_
  rintro e w2 ⟨rfl, hb⟩
  have HS2 := hidden (HS.out.below hb)
  clear hb HS HC
  obtain ⟨x0, x1, x2, x3, x4, x5⟩ := HS2.out.box.cells
  obtain ⟨n1, n2, n3, n4, n5, n6⟩ := HS2.out.ds
  go_wp2_with fail
  refine (HT.out _ HS2.out.out).mono ?_
  rintro e w3 ⟨rfl, hb⟩
  have HS3 := hidden (HS2.out.below hb)
  clear hb HS2 HT x0 x1 x2 x3 x4 x5
  obtain ⟨c0, c1, c2, c3, c4⟩ := HS3.out.out.cells
  have f2 := HS3.out.out.free 2
  clear c0 c1 c3 c4
  go_upto_region 5 with fail
  obtain ⟨w4, hw4⟩ : ∃ w4, w3.setCell ⟨b, 2, none⟩ (.int .i64 T') = w4 := ⟨_, rfl⟩
  have HS4 : Hid (NSt w w4 b w.heap.size (w.heap.size + 1) S k T' ly ow s t l q st (.slice a n cap)) := by rw [← hw4]; exact HS3.out.setT T'
  rw [hw4]
  clear hw4 HS3 c2 f2
  obtain ⟨x0, x1, x2, x3, x4, x5⟩ := HS4.out.box.cells
  obtain ⟨c0, c1, c2, c3, c4⟩ := HS4.out.out.cells
  have f3 := HS4.out.out.free 3
  have f4 := HS4.out.out.free 4
  clear x0 x3 x4 x5 c0 c1 c2
  go_region
  obtain ⟨w5, hw5⟩ : ∃ w5, ((w4.setCell ⟨b, 3, none⟩ (.int .i64 l)).setCell ⟨b, 4, none⟩ (.int .i64 t)).drew = w5 := ⟨_, rfl⟩
  have HS5 : Hid (NSt w w5 b w.heap.size (w.heap.size + 1) S k T' l t s t l q st (.slice a n cap)) := by rw [← hw5]; exact ((HS4.out.setL l).setO t).below (below_drewN (Below.refl _ _) 1)
  rw [hw5]
  clear hw5 HS4 x1 x2 c3 c4 f3 f4
  obtain ⟨x0, x1, x2, x3, x4, x5⟩ := HS5.out.box.cells
  obtain ⟨c0, c1, c2, c3, c4⟩ := HS5.out.out.cells
  have f0 := boxFree HS5.out.box 0
  clear x1 x2 x3 x4 x5 c2 c3 c4
  go_wp2_with fail
  go_region
  obtain ⟨w6, hw6⟩ : ∃ w6, (w5.setCell ⟨w.heap.size, 0, none⟩ (.int .i64 (bits .and .i64 (S + (k : Int)) 65535))).drew = w6 := ⟨_, rfl⟩
  have HS6 : Hid (NSt w w6 b w.heap.size (w.heap.size + 1) S k T' l t Q t l q st (.slice a n cap)) := by
    rw [← hw6, and_round, HQ.out]
    exact (HS5.out.set0 Q).below (below_drewN (Below.refl _ _) 1)
  rw [hw6]
  clear hw6 HS5 x0 c0 c1 f0
  obtain ⟨x0, x1, x2, x3, x4, x5⟩ := HS6.out.box.cells
  obtain ⟨c0, c1, c2, c3, c4⟩ := HS6.out.out.cells
  have f1 := boxFree HS6.out.box 1
  clear x0 x2 x3 x4 x5 c0 c1 c3 c4
  go_upto_region 8 with fail
  obtain ⟨w7, hw7⟩ : ∃ w7, w6.setCell ⟨w.heap.size, 1, none⟩ (.int .i64 T') = w7 := ⟨_, rfl⟩
  have HS7 : Hid (NSt w w7 b w.heap.size (w.heap.size + 1) S k T' l t Q T' l q st (.slice a n cap)) := by rw [← hw7]; exact HS6.out.set1 T'
  rw [hw7]
  clear hw7 HS6 x1 c2 f1
  obtain ⟨x0, x1, x2, x3, x4, x5⟩ := HS7.out.box.cells
  clear x0 x1 x2 x3 x4
  go_wp2_with (at_builtin; refine append_any rfl _ _ 29 rfl w7.heap.size 5 i0 (.int .u8 0) 1 1 Tryz.underlying29 hii hz0 hz1 hz2 rfl (by decide) _ 0 [] rfl (World.ownsRow_nil _ _ _ _) a n cap (cellsOf L) rfl ?al HN.out ?ac (cells_one L) ?b1 ?b2 ?b3 ?next)
  case al => rw [cellsOf_len, HA.out.2.1]; omega
  case ac => exact bys_cells (HO.out.arg HS7.out.only HA.out).1
  case b1 => unfold maxLen; omega
  case b2 => omega
  case b3 => exact Nat.le_refl _
  case next =>
    intro v1 w8 hown hgrow
    have HS8 := hidden (HS7.out.grown hgrow)
    have HLe := hidden (show w.heap.size + 1 < w7.heap.size from HS7.out.res.lt)
    obtain ⟨a', c', rfl, _, hnn, _, hfar⟩ := own_slice (L := L) hown HL.out (by omega)
    have HW : Hid (w8.ownsRow w7.heap.size 5 1 (.slice a' n c') n (cellsOf L)) := hidden (by simpa using hown)
    have HF := hidden hfar
    have HNN := hidden hnn
    clear hown hgrow hfar hnn HS7 x5
    obtain ⟨x0, x1, x2, x3, x4, x5⟩ := HS8.out.box.cells
    have f5 := boxFree HS8.out.box 5
    clear x0 x1 x2 x3 x4
    go_upto_region 9 with fail
    obtain ⟨w9, hw9⟩ : ∃ w9, w8.setCell ⟨w.heap.size, 5, none⟩ (.slice a' n c') = w9 := ⟨_, rfl⟩
    have HS9 : Hid (NSt w w9 b w.heap.size (w.heap.size + 1) S k T' l t Q T' l q st (.slice a' n c')) := by rw [← hw9]; exact HS8.out.set5 _
    have HO9 : Hid (Only [b, w.heap.size, w.heap.size + 1] w8 w9) := by rw [← hw9]; exact (Only.refl _ _).setCell (by simp) _
    rw [hw9]
    clear hw9 HS8 x5 f5
    obtain ⟨c0, c1, c2, c3, c4⟩ := HS9.out.out.cells
    have f1 := HS9.out.out.free 1
    clear c0 c2 c3 c4
    go_upto_region 10 with fail
    obtain ⟨w10, hw10⟩ : ∃ w10, w9.setCell ⟨b, 1, none⟩ (.int .i64 ((k : Int) + 1)) = w10 := ⟨_, rfl⟩
    have HS10 : Hid (NSt w w10 b w.heap.size (w.heap.size + 1) S (k + 1) T' l t Q T' l q st (.slice a' n c')) := by rw [← hw10]; exact HS9.out.setK
    have HO10 : Hid (Only [b, w.heap.size, w.heap.size + 1] w8 w10) := by rw [← hw10]; exact HO9.out.setCell (by simp) _
    rw [hw10]
    clear hw10 HS9 HO9 c1 f1
    obtain ⟨x0, x1, x2, x3, x4, x5⟩ := HS10.out.box.cells
    obtain ⟨z0, z1, z2, z3, z4, z5⟩ := HS10.out.res.cells
    have f0 := boxFree HS10.out.res 0
    have f1 := boxFree HS10.out.res 1
    have f2 := boxFree HS10.out.res 2
    have f3 := boxFree HS10.out.res 3
    have f4 := boxFree HS10.out.res 4
    have f5 := boxFree HS10.out.res 5
    go_wp2_with fail
    have ho : Only [b, w.heap.size, w.heap.size + 1] w8 _ := only6 (g := w.heap.size + 1) HO10.out (by simp) (.int .i64 Q) (.int .i64 T') (.int .i64 l) (.int .i64 q) (.bool st) (.slice a' n c')
    have hoo : Only [b] w _ := only_new (g := w.heap.size + 1) (only_new (g := w.heap.size + 1) (only_new (g := w.heap.size + 1) (only_new (g := w.heap.size + 1) (only_new (g := w.heap.size + 1) (only_new (g := w.heap.size + 1) HS10.out.only (by omega) 0 (.int .i64 Q)) (by omega) 1 (.int .i64 T')) (by omega) 2 (.int .i64 l)) (by omega) 3 (.int .i64 q)) (by omega) 4 (.bool st)) (by omega) 5 (.slice a' n c')
    have hu : OutAt _ b S (k + 1) T' l t := outOther (outOther (outOther (outOther (outOther (outOther HS10.out.out (p := ⟨w.heap.size + 1, 0, none⟩) n3 (.int .i64 Q)) (p := ⟨w.heap.size + 1, 1, none⟩) n3 (.int .i64 T')) (p := ⟨w.heap.size + 1, 2, none⟩) n3 (.int .i64 l)) (p := ⟨w.heap.size + 1, 3, none⟩) n3 (.int .i64 q)) (p := ⟨w.heap.size + 1, 4, none⟩) n3 (.bool st)) (p := ⟨w.heap.size + 1, 5, none⟩) n3 (.slice a' n c')
    refine bodyPost_ret (res_pk (g := w.heap.size + 1) rfl rfl (box6 HS10.out.res Q T' l q st (.slice a' n c'))) rfl ?_
    have hW := ho.owns HW.out (by
      intro j hj hc
      cases a' with
      | none => simp [Value.ownBlock] at hj
      | some ad =>
        obtain ⟨g, rfl, hg⟩ := HF.out ad rfl
        simp [Value.ownBlock] at hj
        have := HLe.out
        have := HS10.out.hb
        simp at hc
        omega)
    obtain ⟨a2, c2, e2, hA2, _⟩ := own_slice hW HL.out (by omega)
    simp only [Value.slice.injEq] at e2
    obtain ⟨rfl, _, rfl⟩ := e2
    refine ⟨a', c', rfl, hu, hA2, HNN.out, hoo, fun ad e => ?_⟩
    obtain ⟨g, rfl, hg⟩ := HF.out ad e
    have := HLe.out
    simp only
    omega
end Go.Proofs.YtijfocggdjjnjaiGreatDoor.Out
