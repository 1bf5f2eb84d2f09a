/-
  What the functions within and Check of package frame return, whatever they are given. They change nothing that was there.
-/
import Derived.Test.YtpiamlgmadnepaaGreatPackR
import Derived.Test.YtpiamlgmadnepaaGreatFM
namespace Go.Proofs.YtpiamlgmadnepaaGreat.Frame
open Go.ChangeShapes Go.WideShapes Go.ChangeAt Go.RowKit Go.Proofs.YtpiamlgmadnepaaGreat.PM Go.Proofs.YtpiamlgmadnepaaGreat.Mem Go.Proofs.YtpiamlgmadnepaaGreat.Pack Go.Proofs.YtpiamlgmadnepaaGreat.FM
set_option linter.unusedVariables false

/-- block g holds a frame -/
def FBox (w : World) (g : Nat) (tr og ep hp : Int) (bv : Value) : Prop := w.heap[g]? = some (.cells #[.int .i64 tr, .int .i64 og, .int .i64 ep, .int .i64 hp, bv] 238 (0, 0))
theorem FBox.new (w : World) (tr og ep hp : Int) (bv : Value) : FBox (w.alloc (.cells #[.int .i64 tr, .int .i64 og, .int .i64 ep, .int .i64 hp, bv] 238)) w.heap.size tr og ep hp bv := heap_alloc_new w _
theorem FBox.below {w w' : World} {g B : Nat} {tr og ep hp : Int} {bv : Value} (h : FBox w g tr og ep hp bv) (hb : Below B w w') (hg : g < B) : FBox w' g tr og ep hp bv := (hb.block g hg).trans h
theorem FBox.lt {w : World} {g : Nat} {tr og ep hp : Int} {bv : Value} (h : FBox w g tr og ep hp bv) : g < w.heap.size := lt_of_block h
theorem FBox.grown {w w' : World} {g : Nat} {tr og ep hp : Int} {bv : Value} {row : Option Nat} (h : FBox w g tr og ep hp bv) (hg : w.grownBy w' row) (hr : row ≠ some g) : FBox w' g tr og ep hp bv :=
  (hg.block g h.lt (fun e => hr e.symm)).trans h
theorem FBox.alloc {w : World} {g : Nat} {tr og ep hp : Int} {bv : Value} (h : FBox w g tr og ep hp bv) (o : Obj) : FBox (w.alloc o) g tr og ep hp bv := (Below.heap_alloc _ _ _ h.lt).trans h
theorem FBox.cells {w : World} {g : Nat} {tr og ep hp : Int} {bv : Value} (h : FBox w g tr og ep hp bv) :
    w.cell? ⟨g, 0, none⟩ = some (.int .i64 tr) ∧ w.cell? ⟨g, 1, none⟩ = some (.int .i64 og) ∧ w.cell? ⟨g, 2, none⟩ = some (.int .i64 ep) ∧ w.cell? ⟨g, 3, none⟩ = some (.int .i64 hp) ∧ w.cell? ⟨g, 4, none⟩ = some bv := by
  simp only [FBox] at h
  simp [World.cell?, h]

theorem fwithin_calls (x l m : Int) (w : World) : Calls Tryz.prog 199 #[.int .i64 x, .int .i64 l, .int .i64 m] w fun e w' => e = .returned (.bool (decide (l ≤ x ∧ x ≤ m))) ∧ w' = w := by
  by_cases h : l ≤ x
  · have d : decide (l ≤ x) = true := by simpa using h
    go_enter Tryz.func199, Tryz.ntmps199
    go_wp2_with fail
    go_ret
    exact ⟨by simp [h], rfl⟩
  · have d : decide (l ≤ x) = false := by simpa using h
    go_enter Tryz.func199, Tryz.ntmps199
    go_wp2_with fail
    go_ret
    exact ⟨by simp, rfl⟩

set_option maxHeartbeats 1000000 in
set_option maxRecDepth 100000 in
theorem fcheck_calls (tr og ep hp : Int) (a : Option Addr) (n cap : Nat) (B : List Nat) (w : World) (h : Arg w a n B) (hc : n ≤ cap) :
    Calls Tryz.prog 181 #[.agg #[.int .i64 tr, .int .i64 og, .int .i64 ep, .int .i64 hp, .slice a n cap]] w fun e w' => e = .returned (errv (ffault tr og ep hp B)) ∧ Below w.heap.size w w' := by
  have C1 := fun w => fwithin_calls tr 1 8 w
  have C2 := fun w => fwithin_calls og 0 15 w
  have C3 := fun w => fwithin_calls ep 0 65535 w
  have C4 := fun w => fwithin_calls hp 0 64 w
  have hf : ffault tr og ep hp B = if decide (1 ≤ tr ∧ tr ≤ 8) && decide (0 ≤ og ∧ og ≤ 15) && decide (0 ≤ ep ∧ ep ≤ 65535) && decide (0 ≤ hp ∧ hp ≤ 64) then rfault B else 1 := by
    unfold ffault nums
    simp only [Bool.and_eq_true, decide_eq_true_eq, and_assoc]
  have C5 : ∀ W, Below w.heap.size w W → Calls Tryz.prog 25 #[.slice a n cap] W _ := fun W hW => read_gen a n cap B W (h.below hW) hc
  generalize decide (1 ≤ tr ∧ tr ≤ 8) = b1 at *
  generalize decide (0 ≤ og ∧ og ≤ 15) = b2 at *
  generalize decide (0 ≤ ep ∧ ep ≤ 65535) = b3 at *
  generalize decide (0 ≤ hp ∧ hp ≤ 64) = b4 at *
  rw [hf]
  have H1 := hidden C1
  have H2 := hidden C2
  have H3 := hidden C3
  have H4 := hidden C4
  have H5 := hidden C5
  clear C1 C2 C3 C4 C5 hf h
  cases b1 with
  | false =>
    go_enter Tryz.func181, Tryz.ntmps181
    go_wp2_with fail
    refine (H1.out _).mono ?_
    rintro e w ⟨rfl, rfl⟩
    go_wp2_with fail
    go_ret
    exact ⟨rfl, (Below.refl _ _).alloc (Nat.le_refl _) _⟩
  | true =>
  cases b2 with
  | false =>
    go_enter Tryz.func181, Tryz.ntmps181
    go_wp2_with fail
    refine (H1.out _).mono ?_
    rintro e w ⟨rfl, rfl⟩
    go_wp2_with fail
    refine (H2.out _).mono ?_
    rintro e w ⟨rfl, rfl⟩
    go_wp2_with fail
    go_ret
    exact ⟨rfl, (Below.refl _ _).alloc (Nat.le_refl _) _⟩
  | true =>
  cases b3 with
  | false =>
    go_enter Tryz.func181, Tryz.ntmps181
    go_wp2_with fail
    refine (H1.out _).mono ?_
    rintro e w ⟨rfl, rfl⟩
    go_wp2_with fail
    refine (H2.out _).mono ?_
    rintro e w ⟨rfl, rfl⟩
    go_wp2_with fail
    refine (H3.out _).mono ?_
    rintro e w ⟨rfl, rfl⟩
    go_wp2_with fail
    go_ret
    exact ⟨rfl, (Below.refl _ _).alloc (Nat.le_refl _) _⟩
  | true =>
  cases b4 with
  | false =>
    go_enter Tryz.func181, Tryz.ntmps181
    go_wp2_with fail
    refine (H1.out _).mono ?_
    rintro e w ⟨rfl, rfl⟩
    go_wp2_with fail
    refine (H2.out _).mono ?_
    rintro e w ⟨rfl, rfl⟩
    go_wp2_with fail
    refine (H3.out _).mono ?_
    rintro e w ⟨rfl, rfl⟩
    go_wp2_with fail
    refine (H4.out _).mono ?_
    rintro e w ⟨rfl, rfl⟩
    go_wp2_with fail
    go_ret
    exact ⟨rfl, (Below.refl _ _).alloc (Nat.le_refl _) _⟩
  | true =>
    generalize rfault B = f at *
    go_enter Tryz.func181, Tryz.ntmps181
    go_wp2_with fail
    refine (H1.out _).mono ?_
    rintro e w ⟨rfl, rfl⟩
    go_wp2_with fail
    refine (H2.out _).mono ?_
    rintro e w ⟨rfl, rfl⟩
    go_wp2_with fail
    refine (H3.out _).mono ?_
    rintro e w ⟨rfl, rfl⟩
    go_wp2_with fail
    refine (H4.out _).mono ?_
    rintro e w ⟨rfl, rfl⟩
    go_wp2_with fail
    refine (H5.out _ ((Below.refl _ _).alloc (Nat.le_refl _) _)).mono ?_
    rintro e w2 ⟨_, _, _, _, _, _, _, _, rfl, hb, _⟩
    have HB := hidden (below_old hb)
    clear hb
    go_wp2_with fail
    go_ret
    exact ⟨by simp, HB.out.alloc HB.out.size _⟩
end Go.Proofs.YtpiamlgmadnepaaGreat.Frame

