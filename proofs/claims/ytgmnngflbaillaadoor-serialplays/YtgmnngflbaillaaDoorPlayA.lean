/-
  The walk of the Go function SerialPlays: it returns true. Its condition: package errors' variable errorType is as its text lays it.
-/
import Derived.Test.YtgmnngflbaillaaDoorPlay
namespace Go.Proofs.YtgmnngflbaillaaDoor.PlayW
open Go.ChangeShapes Go.WideShapes Go.ChangeAt Go.RowKit Go.Proofs.YtgmnngflbaillaaDoor.Win Go.Proofs.YtgmnngflbaillaaDoor.RWin Go.Proofs.YtgmnngflbaillaaDoor.Play
set_option linter.unusedVariables false

def St (W w : World) (n T : Int) (s : Nat) (L : List Int) (v : Value) (k : Nat) : Prop :=
  Below W.heap.size W w ∧ w.heap[W.heap.size]? = some (.cells #[.int .i64 n, .int .i64 T, .int .u64 s] 48 (0, 0)) ∧
  w.heap[W.heap.size + 1]? = some (.cells #[.int .i64 n, .int .i64 T, v] 37 (0, 0)) ∧
  w.ownsRow W.heap.size 3 1 v L.length (L.map (Value.int .i64)) ∧ Inv n T s L ∧ L.length ≤ k

theorem own_neW {w : World} {b base : Nat} {v : Value} {m : Nat} {xs : List Value} {cs : Array Value} (ho : w.ownsRow base 3 1 v m xs) (hB : w.heap[b]? = some (.cells cs 48 (0, 0))) : ∀ k, v.ownBlock = some k → k ≠ b := by
  intro k hk e
  rcases ho.2 with ⟨rfl, _⟩ | ⟨g, cap, cur, rfl, _, hcur, _⟩
  · simp [Value.ownBlock] at hk
  · simp [Value.ownBlock] at hk
    rw [hk, e, hB] at hcur
    simp at hcur

/-- the window's block is as it was behind the reference's step -/
theorem st_mid {W w w1 : World} {n T : Int} {s : Nat} {L : List Int} {v : Value} {k : Nat} (h : St W w n T s L v k) (ho : Only ((W.heap.size + 1) :: v.ownBlock.toList) w w1) :
    w1.heap[W.heap.size]? = some (.cells #[.int .i64 n, .int .i64 T, .int .u64 s] 48 (0, 0)) ∧ Below W.heap.size W w1 := by
  obtain ⟨hb, h1, h2, h3, h4, h5⟩ := h
  refine ⟨ho.block h1 ?_, hb.trans (ho.below hb.size ?_)⟩
  · intro hm
    rcases List.mem_cons.1 hm with hm | hm
    · omega
    · exact own_neW h3 h1 _ (by simpa using hm) rfl
  · intro j hm
    rcases List.mem_cons.1 hm with hm | hm
    · omega
    · exact (h3.lt j (by simpa using hm)).1

theorem st_step {W w w1 w2 w3 : World} {n T y : Int} {s : Nat} {L : List Int} {v v' : Value} {k : Nat} (h : St W w n T s L v k) (ho : Only ((W.heap.size + 1) :: v.ownBlock.toList) w w1)
    (hB : w1.heap[W.heap.size + 1]? = some (.cells #[.int .i64 n, .int .i64 (stT n T y), v'] 37 (0, 0))) (hO : w1.ownsRow W.heap.size 3 1 v' (stL n T L y).length ((stL n T L y).map (Value.int .i64)))
    (hA : w2.heap[W.heap.size]? = some (.cells #[.int .i64 n, .int .i64 (stT n T y), .int .u64 (stS n T s y)] 48 (0, 0))) (h12 : Only [W.heap.size] w1 w2) (h23 : Below w2.heap.size w2 w3) :
    St W w3 n (stT n T y) (stS n T s y) (stL n T L y) v' (k + 1) := by
  obtain ⟨hm, hb1⟩ := st_mid h ho
  obtain ⟨hb, h1, h2, h3, h4, h5⟩ := h
  have hne := own_neW hO hm
  have h13 : Only [W.heap.size] w1 w3 := h12.trans (Only.of_below h23 _)
  refine ⟨hb1.trans (h13.below hb1.size (by simp)), ((Only.of_below h23 []).block hA (by simp)), h13.block hB (by simp), h13.owns hO ?_, inv_step h4 y, ?_⟩
  · intro j hj hc
    exact hne j hj (by simpa using hc)
  · have := stL_len n T L y
    omega

set_option maxHeartbeats 4000000 in
theorem walk_err (n : Int) (vl vh : Value) (w : World) (hg : w.cell? ⟨0, 0, none⟩ = some (.iface 66 (.agg #[.pointer (some ⟨1, 25, none⟩)]))) (h : n < 1 ∨ 64 < n) :
    Calls Tryd.prog 4 #[.int .i64 n, vl, vh] w fun e w' => e = .returned (.bool true) ∧ Below w.heap.size w w' := by
  have H : Hid (n < 1 ∨ 64 < n) := h
  by_cases c : n < 1
  · clear h
    go_enter Tryd.func4, Tryd.ntmps4
    go_wp2_with fail
    refine (new_err n _ H.out).mono ?_
    rintro e w' ⟨rfl, rfl⟩
    go_wp2_with fail
    refine (Told.same_err 1 1 _ (by decide) (by decide) hg).mono ?_
    rintro e w1 ⟨rfl, hb⟩
    go_wp2_with fail
    go_ret
    exact ⟨rfl, hb⟩
  · have c' : 64 < n := by omega
    clear h
    go_enter Tryd.func4, Tryd.ntmps4
    go_wp2_with fail
    refine (new_err n _ H.out).mono ?_
    rintro e w' ⟨rfl, rfl⟩
    go_wp2_with fail
    refine (Told.same_err 1 1 _ (by decide) (by decide) hg).mono ?_
    rintro e w1 ⟨rfl, hb⟩
    go_wp2_with fail
    go_ret
    exact ⟨rfl, hb⟩

theorem st_start (W : World) (n : Int) (h1 : 1 ≤ n) (h2 : n ≤ 64) :
    St W ((W.alloc (.cells #[.int .i64 n, .int .i64 (-1), .int .u64 0] 48)).alloc (.cells #[.int .i64 n, .int .i64 (-1), .slice none 0 0] 37)) n (-1) 0 [] (.slice none 0 0) 0 := by
  refine ⟨((Below.refl _ _).alloc (Nat.le_refl _) _).alloc (by simp) _, ?_, ?_, World.ownsRow_nil _ _ _ _, inv_start n h1 h2, Nat.le_refl _⟩
  · rw [Below.heap_alloc _ _ _ (by simp)]
    exact heap_alloc_new W _
  · have := heap_alloc_new (W.alloc (.cells #[.int .i64 n, .int .i64 (-1), .int .u64 0] 48)) (.cells #[.int .i64 n, .int .i64 (-1), .slice none 0 0] 37)
    simpa using this

end Go.Proofs.YtgmnngflbaillaaDoor.PlayW
