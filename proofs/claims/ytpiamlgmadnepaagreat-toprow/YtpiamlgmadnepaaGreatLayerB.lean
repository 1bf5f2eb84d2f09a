/-
  What check, pass and Take of package layer return, and what they leave in memory. Their condition: the Layer is such as it may be.
-/
import Derived.Test.YtpiamlgmadnepaaGreatLayerA
import Derived.Deep.RegionHeld3
namespace Go.Proofs.YtpiamlgmadnepaaGreat.Layer
open Go.ChangeShapes Go.WideShapes Go.ChangeAt Go.RowKit Go.Proofs.YtpiamlgmadnepaaGreat.PM Go.Proofs.YtpiamlgmadnepaaGreat.Mem Go.Proofs.YtpiamlgmadnepaaGreat.Pack Go.Proofs.YtpiamlgmadnepaaGreat.LM
set_option linter.unusedVariables false

/-- block h holds an item -/
def IBox (w : World) (h : Nat) (n : Int) (g : Bool) (s t l q : Int) (st : Bool) (bv : Value) : Prop := w.heap[h]? = some (.cells #[.int .i64 n, .bool g, .int .i64 s, .int .i64 t, .int .i64 l, .int .i64 q, .bool st, bv] 82 (0, 0))
theorem IBox.new (w : World) (n : Int) (g : Bool) (s t l q : Int) (st : Bool) (bv : Value) : IBox (w.alloc (.cells #[.int .i64 n, .bool g, .int .i64 s, .int .i64 t, .int .i64 l, .int .i64 q, .bool st, bv] 82)) w.heap.size n g s t l q st bv := heap_alloc_new w _
theorem IBox.lt {w : World} {h : Nat} {n : Int} {g : Bool} {s t l q : Int} {st : Bool} {bv : Value} (hx : IBox w h n g s t l q st bv) : h < w.heap.size := lt_of_block hx
theorem IBox.below {w w' : World} {h B : Nat} {n : Int} {g : Bool} {s t l q : Int} {st : Bool} {bv : Value} (hx : IBox w h n g s t l q st bv) (hb : Below B w w') (hB : h < B) : IBox w' h n g s t l q st bv := (hb.block h hB).trans hx
theorem IBox.cells {w : World} {h : Nat} {n : Int} {g : Bool} {s t l q : Int} {st : Bool} {bv : Value} (hx : IBox w h n g s t l q st bv) :
    w.cell? ⟨h, 0, none⟩ = some (.int .i64 n) ∧ w.cell? ⟨h, 1, none⟩ = some (.bool g) ∧ w.cell? ⟨h, 2, none⟩ = some (.int .i64 s) ∧ w.cell? ⟨h, 3, none⟩ = some (.int .i64 t) ∧ w.cell? ⟨h, 4, none⟩ = some (.int .i64 l) ∧ w.cell? ⟨h, 5, none⟩ = some (.int .i64 q) ∧ w.cell? ⟨h, 6, none⟩ = some (.bool st) ∧ w.cell? ⟨h, 7, none⟩ = some bv := by
  simp only [IBox] at hx
  simp [World.cell?, hx]

set_option maxHeartbeats 2000000 in
set_option maxRecDepth 100000 in
theorem check_calls (b : Nat) (m nw la n : Int) (br g : Bool) (s t l q : Int) (st : Bool) (a : Option Addr) (k c : Nat) (w : World) (h : LayerAt w b m nw la br) :
    Calls Tryz.prog 79 #[.pointer (some ⟨b, 0, none⟩), .agg #[.int .i64 n, .bool g, .int .i64 s, .int .i64 t, .int .i64 l, .int .i64 q, .bool st, .slice a k c]] w fun e w' => e = .returned (errv (tkf la n g (fault s t l q k))) ∧ Below w.heap.size w w' := by
  have HL := hidden (h.alloc (.cells #[.int .i64 n, .bool g, .int .i64 s, .int .i64 t, .int .i64 l, .int .i64 q, .bool st, .slice a k c] 82))
  have HX := hidden (IBox.new w n g s t l q st (.slice a k c))
  clear h
  by_cases p0 : n < 0
  · have d0 : decide (n < 0) = true := by simpa using p0
    rw [tkf_range (.inl p0)]
    go_enter Tryz.func79, Tryz.ntmps79
    go_wp2_with fail
    go_ret
    exact ⟨rfl, (Below.refl _ _).alloc (Nat.le_refl _) _⟩
  have d0 : decide (n < 0) = false := by simpa using p0
  by_cases p1 : 1099511627776 < n
  · have d1 : decide (1099511627776 < n) = true := by simpa using p1
    rw [tkf_range (.inr p1)]
    go_enter Tryz.func79, Tryz.ntmps79
    go_wp2_with fail
    go_ret
    exact ⟨rfl, (Below.refl _ _).alloc (Nat.le_refl _) _⟩
  have d1 : decide (1099511627776 < n) = false := by simpa using p1
  obtain ⟨c0, c1, c2, c3⟩ := HL.out.cells
  obtain ⟨x0, x1, x2, x3, x4, x5, x6, x7⟩ := HX.out.cells
  clear c0 c1 c3
  by_cases p2 : n ≤ la
  · have d2 : decide (n ≤ la) = true := by simpa using p2
    rw [tkf_state (by omega) (by omega) p2]
    go_enter Tryz.func79, Tryz.ntmps79
    go_wp2_with fail
    go_quiet (fail)
    go_wp2_with fail
    go_ret
    exact ⟨rfl, below_drewN ((Below.refl _ _).alloc (Nat.le_refl _) _) _⟩
  have d2 : decide (n ≤ la) = false := by simpa using p2
  cases g with
  | true =>
    rw [tkf_gone (by omega) (by omega) p2]
    clear p0 p1 p2
    go_enter Tryz.func79, Tryz.ntmps79
    go_wp2_with fail
    go_quiet (fail)
    go_wp2_with fail
    go_ret
    exact ⟨rfl, below_drewN ((Below.refl _ _).alloc (Nat.le_refl _) _) _⟩
  | false =>
    rw [tkf_pack (by omega) (by omega) p2]
    clear p0 p1 p2
    have HC := hidden (fun W => Pack.check_calls s t l q st a k c W)
    generalize fault s t l q k = ft at *
    go_enter Tryz.func79, Tryz.ntmps79
    go_wp2_with fail
    go_quiet (fail)
    go_wp2_with fail
    refine (HC.out _).mono ?_
    rintro e w2 ⟨rfl, hb⟩
    go_wp2_with fail
    go_ret
    have hb0 : Below w.heap.size w ((w.alloc (.cells #[.int .i64 n, .bool false, .int .i64 s, .int .i64 t, .int .i64 l, .int .i64 q, .bool st, .slice a k c] 82)).drewN nq) := below_drewN ((Below.refl _ _).alloc (Nat.le_refl _) _) _
    exact ⟨rfl, hb0.trans (hb.mono hb0.size)⟩
end Go.Proofs.YtpiamlgmadnepaaGreat.Layer

