/-
  What the reference's function Split returns, and what it makes; and the function Packets of package choirsame, of two lists that are the same. They change nothing that was there.
-/
import Derived.Test.YtdmajaofjfgccabDoorRPackB
import Derived.Deep.CutRange
namespace Go.Proofs.YtdmajaofjfgccabDoor.RPack
open Go.ChangeShapes Go.WideShapes Go.ChangeAt Go.RowKit Go.Proofs.YtdmajaofjfgccabDoor.PM Go.Proofs.YtdmajaofjfgccabDoor.Mem Go.Proofs.YtdmajaofjfgccabDoor.Pack
set_option linter.unusedVariables false

theorem below_drew {w w' : World} (h : Below w.drew.heap.size w.drew w') : Below w.heap.size w w' := (Below.refl _ _).drew.trans h
/-- the cells of k packets, whose bytes lie in w -/
def Cells (w : World) (xs : List Value) (k : Nat) (f : Nat → Pk) : Prop :=
  xs.length = k * 6 ∧ (∀ u ∈ xs, u.oneCell' = true) ∧ ∀ j, j < k → ∃ a n cap, (xs[j * 6]? = some (.int .i64 (f j).seq) ∧ xs[j * 6 + 1]? = some (.int .i64 (f j).time) ∧ xs[j * 6 + 2]? = some (.int .i64 (f j).layer) ∧ xs[j * 6 + 3]? = some (.int .i64 (f j).level) ∧
    xs[j * 6 + 4]? = some (.bool (f j).start) ∧ xs[j * 6 + 5]? = some (.slice a n cap)) ∧ Arg w a n (f j).body ∧ (a = none → n = 0 ∧ cap = 0) ∧ n ≤ cap
theorem Cells.nil (w : World) (f : Nat → Pk) : Cells w [] 0 f := ⟨rfl, by simp, fun j h => absurd h (Nat.not_lt_zero j)⟩
theorem Cells.next {w : World} {xs : List Value} {k : Nat} {f : Nat → Pk} (h : Cells w xs k f) {a : Option Addr} {n cap : Nat} (hA : Arg w a n (f k).body) (hn : a = none → n = 0 ∧ cap = 0) (hc : n ≤ cap) :
    Cells w (xs ++ [.int .i64 (f k).seq, .int .i64 (f k).time, .int .i64 (f k).layer, .int .i64 (f k).level, .bool (f k).start, .slice a n cap]) (k + 1) f := by
  refine ⟨by simp [h.1]; omega, fun u hu => ?_, fun j hj => ?_⟩
  · rcases List.mem_append.1 hu with hu | hu
    · exact h.2.1 u hu
    · simp only [List.mem_cons, List.not_mem_nil, or_false] at hu
      rcases hu with rfl | rfl | rfl | rfl | rfl | rfl <;> rfl
  · by_cases e : j = k
    · subst e
      refine ⟨a, n, cap, ?_, hA, hn, hc⟩
      have hl := h.1
      rw [List.getElem?_append_right (by omega), List.getElem?_append_right (by omega), List.getElem?_append_right (by omega), List.getElem?_append_right (by omega), List.getElem?_append_right (by omega), List.getElem?_append_right (by omega), h.1]
      simp
    · obtain ⟨a', n', c', ⟨e0, e1, e2, e3, e4, e5⟩, hB⟩ := h.2.2 j (by omega)
      have hl := h.1
      refine ⟨a', n', c', ?_, hB⟩
      rw [List.getElem?_append_left (by omega), List.getElem?_append_left (by omega), List.getElem?_append_left (by omega), List.getElem?_append_left (by omega), List.getElem?_append_left (by omega), List.getElem?_append_left (by omega)]
      exact ⟨e0, e1, e2, e3, e4, e5⟩
/-- what is owned is a list of these packets -/
theorem Cells.pks {w w' : World} {xs : List Value} {k : Nat} {f : Nat → Pk} (h : Cells w xs k f) (hb : Below w.heap.size w w') {v : Value} {base : Nat} (ho : w'.ownsRow base 35 6 v k xs) (hbase : w.heap.size ≤ base) :
    ∃ a cap, v = .slice a k cap ∧ Pks w' a k f := by
  rcases ho.2 with ⟨rfl, rfl⟩ | ⟨g, cap, cur, rfl, hg, hh, hc, hm, hs, ht⟩
  · exact ⟨none, 0, rfl, fun i hi => absurd hi (Nat.not_lt_zero i)⟩
  · refine ⟨_, cap, rfl, fun i hi => ⟨g, rfl, ?_⟩⟩
    obtain ⟨a, n, c, ⟨e0, e1, e2, e3, e4, e5⟩, hA, hn, hnc⟩ := h.2.2 i hi
    have f : ∀ j, j < k * 6 → w'.cell? ⟨g, j, none⟩ = xs[j]? := fun j hj => ho.cellAt j hj
    refine ⟨a, n, c, ⟨(f _ (by omega)).trans e0, (f _ (by omega)).trans e1, (f _ (by omega)).trans e2, (f _ (by omega)).trans e3, (f _ (by omega)).trans e4, (f _ (by omega)).trans e5⟩, hA.below hb, hn, hnc, fun b o e hp => ?_⟩
    obtain ⟨b', o', e', hcell⟩ := hA.1.2 0 (by have := hA.2.1; omega)
    rw [e] at e'
    simp only [Option.some.injEq, Addr.mk.injEq, and_true] at e'
    have hlt := World.block_lt_of_cell? w _ hcell
    simp at hlt
    omega

set_option maxHeartbeats 2000000 in
set_option maxRecDepth 100000 in
theorem same_pks (a b : Option Addr) (N ca cb' : Nat) (f : Nat → Pk) (w : World) (hA : Pks w a N f) (hB : Pks w b N f) (hN : N ≤ 1000) :
    Calls Tryd.prog 21 #[.slice a N ca, .slice b N cb'] w fun e w' => e = .returned (.bool true) ∧ Below w.heap.size w w' := by
  have HA := hidden hA
  have HB := hidden hB
  clear hA hB
  go_enter Tryd.func21, Tryd.ntmps21
  go_wp2_with fail
  go_loopw [5] (fun i wr => ∃ k : Nat, k ≤ N ∧ i = .int .i64 k ∧ Hid (Below w.heap.size w wr)) (fun i _ => N - (intOf i).toNat)
  case atStart => exact ⟨0, Nat.zero_le _, rfl, Below.refl _ _⟩
  case round =>
    obtain ⟨k, hk, rfl, HW⟩ := hrel
    by_cases hkN : k < N
    · obtain ⟨g, ea, a1, n1, c1, ⟨e0, e1, e2, e3, e4, e5⟩, hB1⟩ := (HA.out.below HW.out) k hkN
      obtain ⟨g', eb, a2, n2, c2, ⟨f0, f1, f2, f3, f4, f5⟩, hB2⟩ := (HB.out.below HW.out) k hkN
      subst ea eb
      have hki : (k : Int) < (N : Int) := by omega
      have hk0 : (0 : Int) ≤ (k : Int) := by omega
      have HC := hidden (fun W (h : Below wr.heap.size wr W) => same_pk (f k).seq (f k).time (f k).layer (f k).level (f k).start a1 a2 n1 n2 c1 c2 (f k).body W (hB1.1.below h) (hB2.1.below h))
      clear hB1 hB2
      generalize (f k).seq = q0 at *
      generalize (f k).time = q1 at *
      generalize (f k).layer = q2 at *
      generalize (f k).level = q3 at *
      generalize (f k).start = q4 at *
      go_upto_region 6 with fail
      go_cut [6] from 12 to 28 (fun x wx => x = .bool true ∧ Hid (Below w.heap.size w wx))
      case first =>
        go_region_with (go_at_call 18; refine (HC.out _ ?_).mono ?_; exact (Below.refl _ _).drew; rintro e w2 ⟨rfl, hb2⟩)
        all_goals go_wp2_with fail
        all_goals go_meet
        all_goals exact ⟨rfl, HW.out.trans ((below_drew hb2).mono HW.out.size)⟩
      case rest =>
      obtain ⟨rfl, HWc⟩ := hcut
      go_wp2_with fail
      go_roundw
      case rel => exact ⟨k + 1, by omega, by go_num, HWc⟩
      case measure => simp [intOf]; omega
    · have ek : k = N := by omega
      subst ek
      go_wp2_with fail
      go_ret
      exact ⟨rfl, HW.out⟩
end Go.Proofs.YtdmajaofjfgccabDoor.RPack
