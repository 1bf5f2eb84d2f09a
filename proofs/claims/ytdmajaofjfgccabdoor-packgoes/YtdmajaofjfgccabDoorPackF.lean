/-
  What the function Split of package pack returns, and what it makes. It changes nothing that was there.
-/
import Derived.Test.YtdmajaofjfgccabDoorPackE
namespace Go.Proofs.YtdmajaofjfgccabDoor.Pack
open Go.ChangeShapes Go.WideShapes Go.ChangeAt Go.RowKit Go.Proofs.YtdmajaofjfgccabDoor.PM Go.Proofs.YtdmajaofjfgccabDoor.Mem
set_option linter.unusedVariables false

theorem infoPK : (Tryd.prog.info? 35).map (fun i => (i.zero, i.size, i.bytes)) = some (some (.agg #[.int .i64 0, .int .i64 0, .int .i64 0, .int .i64 0, .bool false, .slice none 0 0]), 6, 64) := by kernel_rfl

set_option maxHeartbeats 1000000 in
set_option maxRecDepth 100000 in
theorem split_size (s t l v : Int) (st : Bool) (a : Option Addr) (n cap : Nat) (size : Int) (w : World) (h : size < 1 ∨ 1000 < size) :
    Calls Tryd.prog 20 #[.agg #[.int .i64 s, .int .i64 t, .int .i64 l, .int .i64 v, .bool st, .slice a n cap], .int .i64 size] w fun e w' => e = .returned (.tuple #[.slice none 0 0, .iface 56 (.int .i64 1)]) ∧ Below w.heap.size w w' := by
  by_cases p : size < 1
  · have d : decide (size < 1) = true := by simpa using p
    go_enter Tryd.func20, Tryd.ntmps20
    go_wp2_with fail
    go_ret2
    exact ⟨rfl, (Below.refl _ _).alloc (Nat.le_refl _) _⟩
  · have d : decide (size < 1) = false := by simpa using p
    have d2 : decide (1000 < size) = true := by simp; omega
    go_enter Tryd.func20, Tryd.ntmps20
    go_wp2_with fail
    go_ret2
    exact ⟨rfl, (Below.refl _ _).alloc (Nat.le_refl _) _⟩

set_option maxHeartbeats 1000000 in
set_option maxRecDepth 100000 in
theorem split_bad (s t l v : Int) (st : Bool) (a : Option Addr) (n cap : Nat) (size : Int) (w : World) (h1 : 1 ≤ size) (h2 : size ≤ 1000) (hf : fault s t l v n ≠ 0) :
    Calls Tryd.prog 20 #[.agg #[.int .i64 s, .int .i64 t, .int .i64 l, .int .i64 v, .bool st, .slice a n cap], .int .i64 size] w fun e w' => e = .returned (.tuple #[.slice none 0 0, errv (fault s t l v n)]) ∧ Below w.heap.size w w' := by
  have C := fun w => check_calls s t l v st a n cap w
  generalize fault s t l v n = f at *
  rw [errv_pos hf] at C ⊢
  have HC := hidden C
  clear C
  have d : decide (size < 1) = false := by simp; omega
  have d2 : decide (1000 < size) = false := by simp; omega
  go_enter Tryd.func20, Tryd.ntmps20
  go_wp2_with fail
  refine (HC.out _).mono ?_
  rintro e w1 ⟨rfl, hb⟩
  have HB := hidden (below_old hb)
  clear hb
  go_wp2_with fail
  go_ret2
  exact ⟨rfl, HB.out⟩

theorem quo_eq (n size : Nat) (h : 1 ≤ size) : ((n : Int) + (size : Int) - 1).tdiv (size : Int) = (((n + size - 1) / size : Nat) : Int) := by
  rw [show (n : Int) + (size : Int) - 1 = ((n + size - 1 : Nat) : Int) by omega, Int.ofNat_tdiv]

set_option maxHeartbeats 1000000 in
set_option maxRecDepth 100000 in
theorem split_full (s t l v : Nat) (st : Bool) (a : Option Addr) (n cap : Nat) (size : Nat) (w : World) (h1 : 1 ≤ size) (h2 : size ≤ 1000) (hf : fault s t l v n = 0) (hc : 200 < count n size) :
    Calls Tryd.prog 20 #[.agg #[.int .i64 (s : Int), .int .i64 (t : Int), .int .i64 (l : Int), .int .i64 (v : Int), .bool st, .slice a n cap], .int .i64 (size : Int)] w fun e w' => e = .returned (.tuple #[.slice none 0 0, .iface 56 (.int .i64 4)]) ∧ Below w.heap.size w w' := by
  have C := fun w => check_calls s t l v st a n cap w
  rw [hf, errv_zero] at C
  have HC := hidden C
  have d : decide ((size : Int) < 1) = false := by simp; omega
  have d2 : decide (1000 < (size : Int)) = false := by simp; omega
  have d3 : ¬ (size : Int) = 0 := by omega
  have hq := quo_eq n size h1
  have hn : n ≤ 1000 := by obtain ⟨_, _, _, _, _, _, _, _, _, _, _, _, h⟩ := fault_zero hf; exact h
  have hcc : count n size = max 1 ((n + size - 1) / size) := rfl
  have hle := count_le h1 hn
  generalize (n + size - 1) / size = q at *
  generalize count n size = N at *
  have hw : wrap64 (q : Int) = (q : Int) := by unfold wrap64; omega
  have HCC := hidden hcc
  clear C hf hcc
  go_enter Tryd.func20, Tryd.ntmps20
  go_wp2_with fail
  refine (HC.out _).mono ?_
  rintro e w1 ⟨rfl, hb1⟩
  have HX := hidden ((Box.new w s t l v st (.slice a n cap)).below hb1 (by simp))
  have HB := hidden (below_old hb1)
  clear hb1
  obtain ⟨c0, c1, c2, c3, c4, c5⟩ := HX.out.cells
  go_upto_region 6 with fail
  go_cut [7] from 22 (fun x wx => x = .int .i64 (N : Int) ∧ wx = w1)
  case first =>
    go_wp2_with fail
    all_goals go_meet
    all_goals exact ⟨congrArg (Value.int .i64) (by have := HCC.out; omega), rfl⟩
  case rest =>
  obtain ⟨rfl, rfl⟩ := hcut
  go_wp2_with fail
  go_ret2
  exact ⟨rfl, HB.out⟩

/-- a packet -/
structure Pk where
  seq : Int
  time : Int
  layer : Int
  level : Int
  start : Bool
  body : List Nat
/-- bytes of a packet: where they lie -/
def Body (w : World) (g : Nat) (a : Option Addr) (n cap : Nat) (L : List Nat) : Prop :=
  Arg w a n L ∧ (a = none → n = 0 ∧ cap = 0) ∧ n ≤ cap ∧ ∀ b o, a = some ⟨b, o, none⟩ → 0 < n → b ≠ g
/-- a packet lies in block g, from o on -/
def PkAt (w : World) (g o : Nat) (q : Pk) : Prop :=
  ∃ a n cap, (w.cell? ⟨g, o, none⟩ = some (.int .i64 q.seq) ∧ w.cell? ⟨g, o + 1, none⟩ = some (.int .i64 q.time) ∧ w.cell? ⟨g, o + 2, none⟩ = some (.int .i64 q.layer) ∧ w.cell? ⟨g, o + 3, none⟩ = some (.int .i64 q.level) ∧
    w.cell? ⟨g, o + 4, none⟩ = some (.bool q.start) ∧ w.cell? ⟨g, o + 5, none⟩ = some (.slice a n cap)) ∧ Body w g a n cap q.body
theorem Body.below {w w' : World} {g : Nat} {a : Option Addr} {n cap : Nat} {L : List Nat} (h : Body w g a n cap L) (hb : Below w.heap.size w w') : Body w' g a n cap L := ⟨h.1.below hb, h.2⟩
theorem PkAt.below {w w' : World} {g o : Nat} {q : Pk} (h : PkAt w g o q) (hb : Below w.heap.size w w') : PkAt w' g o q := by
  obtain ⟨a, n, cap, ⟨c0, c1, c2, c3, c4, c5⟩, hB⟩ := h
  have f : ∀ {p : Addr} {v : Value}, w.cell? p = some v → w'.cell? p = some v := fun {p v} hc => (hb.cell (World.block_lt_of_cell? w p hc)).trans hc
  exact ⟨a, n, cap, ⟨f c0, f c1, f c2, f c3, f c4, f c5⟩, hB.below hb⟩
theorem Body.set {w : World} {g : Nat} {a : Option Addr} {n cap : Nat} {L : List Nat} (h : Body w g a n cap L) (k : Nat) (v : Value) : Body (w.setCell ⟨g, k, none⟩ v) g a n cap L := by
  refine ⟨⟨⟨h.1.1.1, fun j hj => ?_⟩, h.1.2⟩, h.2⟩
  obtain ⟨b, o, e, hc⟩ := h.1.1.2 j hj
  have hne : b ≠ g := h.2.2.2 b o e (by have := h.1.2.1; omega)
  exact ⟨b, o, e, by rw [World.cell?_setCell_other (h := by intro e; simp_all)]; exact hc⟩
theorem PkAt.set {w : World} {g o : Nat} {q : Pk} (h : PkAt w g o q) {k : Nat} (v : Value) (hk : k < o ∨ o + 5 < k) : PkAt (w.setCell ⟨g, k, none⟩ v) g o q := by
  obtain ⟨a, n, cap, ⟨c0, c1, c2, c3, c4, c5⟩, hB⟩ := h
  have f : ∀ {j : Nat} {u : Value}, j ≠ k → w.cell? ⟨g, j, none⟩ = some u → (w.setCell ⟨g, k, none⟩ v).cell? ⟨g, j, none⟩ = some u := fun {j u} hj hc => by
    rw [World.cell?_setCell_other (h := by intro e; simp_all)]; exact hc
  exact ⟨a, n, cap, ⟨f (by omega) c0, f (by omega) c1, f (by omega) c2, f (by omega) c3, f (by omega) c4, f (by omega) c5⟩, hB.set k v⟩
/-- six cells written: a packet is there -/
theorem PkAt.put {w : World} {g o : Nat} {s t l v : Int} {st : Bool} {a : Option Addr} {n cap : Nat} {L : List Nat} {cs : Array Value} {T : TypeId} (hg : w.heap[g]? = some (.cells cs T (0, 0))) (ho : o + 5 < cs.size) (hB : Body w g a n cap L) :
    PkAt ((((((w.setCell ⟨g, o, none⟩ (.int .i64 s)).setCell ⟨g, o + 1, none⟩ (.int .i64 t)).setCell ⟨g, o + 2, none⟩ (.int .i64 l)).setCell ⟨g, o + 3, none⟩ (.int .i64 v)).setCell ⟨g, o + 4, none⟩ (.bool st)).setCell ⟨g, o + 5, none⟩ (.slice a n cap)) g o ⟨s, t, l, v, st, L⟩ ∧
    ∃ cs' : Array Value, cs'.size = cs.size ∧ ((((((w.setCell ⟨g, o, none⟩ (.int .i64 s)).setCell ⟨g, o + 1, none⟩ (.int .i64 t)).setCell ⟨g, o + 2, none⟩ (.int .i64 l)).setCell ⟨g, o + 3, none⟩ (.int .i64 v)).setCell ⟨g, o + 4, none⟩ (.bool st)).setCell ⟨g, o + 5, none⟩ (.slice a n cap)).heap[g]? = some (.cells cs' T (0, 0)) := by
  have h0 := heap_setCell_same _ _ o _ _ (.int .i64 s) hg
  have h1 := heap_setCell_same _ _ (o + 1) _ _ (.int .i64 t) h0
  have h2 := heap_setCell_same _ _ (o + 2) _ _ (.int .i64 l) h1
  have h3 := heap_setCell_same _ _ (o + 3) _ _ (.int .i64 v) h2
  have h4 := heap_setCell_same _ _ (o + 4) _ _ (.bool st) h3
  have h5 := heap_setCell_same _ _ (o + 5) _ _ (.slice a n cap) h4
  refine ⟨⟨a, n, cap, ?_, (((((hB.set _ _).set _ _).set _ _).set _ _).set _ _).set _ _⟩, _, by simp, h5⟩
  have f : ∀ {W : World} {cs : Array Value} {T : TypeId}, W.heap[g]? = some (.cells cs T (0, 0)) → ∀ j, W.cell? ⟨g, j, none⟩ = cs[j]? := fun {W cs T} h j => by simp [World.cell?, h]
  rw [f h5, f h5, f h5, f h5, f h5, f h5]
  simp [Array.getElem?_setIfInBounds]
  omega
end Go.Proofs.YtdmajaofjfgccabDoor.Pack
