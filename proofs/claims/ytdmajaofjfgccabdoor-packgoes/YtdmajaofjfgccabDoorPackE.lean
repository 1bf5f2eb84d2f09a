/-
  What the function part of package pack returns, and what it makes. It changes nothing that was there.
-/
import Derived.Test.YtdmajaofjfgccabDoorPackD
namespace Go.Proofs.YtdmajaofjfgccabDoor.Pack
open Go.ChangeShapes Go.WideShapes Go.ChangeAt Go.RowKit Go.Proofs.YtdmajaofjfgccabDoor.PM Go.Proofs.YtdmajaofjfgccabDoor.Mem
set_option linter.unusedVariables false

/-- a packet, handed back -/
theorem res_pk1 {fn : Func} {tmps : Array Value} {w : World} {g i : Nat} {s t l v : Int} {st : Bool} {a : Option Addr} {n cap : Nat} (hf : fn.results = #[.cell i 35]) (hi : tmps.getD i undef = .pointer (some ⟨g, 0, none⟩)) (hb : Box w g s t l v st (.slice a n cap)) :
    (results fn tmps).run Tryd.prog w = .ok (.agg #[.int .i64 s, .int .i64 t, .int .i64 l, .int .i64 v, .bool st, .slice a n cap]) w := by
  obtain ⟨c0, c1, c2, c3, c4, c5⟩ := hb.cells
  have hi' : tmps[i]?.getD undef = .pointer (some ⟨g, 0, none⟩) := by simpa using hi
  simp [results, hf, hi', go_sem, c0, c1, c2, c3, c4, c5]

theorem seq_eq (x : Nat) (h : x < 9223372036854775808) : bits .and .i64 (x : Int) 65535 = ((x % 65536 : Nat) : Int) := by
  have := i64_and_nat x 65535 h (by decide)
  rw [show (65535 : Nat) = 2 ^ 16 - 1 by decide, Nat.and_two_pow_sub_one_eq_mod] at this
  exact this

set_option maxHeartbeats 4000000 in
set_option maxRecDepth 100000 in
theorem part_calls (s : Nat) (t l v : Int) (st : Bool) (a : Option Addr) (n cap i size fr m : Nat) (L : List Nat) (w : World) (h : Arg w a n L) (hn : a = none → n = 0 ∧ cap = 0) (hc : n ≤ cap) (hb : n ≤ 1000) (hs : s ≤ 65535) (h1 : 1 ≤ size) (h2 : size ≤ 1000) (hi : i ≤ 1000)
    (hfr : fr = i * size) (hfn : fr ≤ n) (hm : m = min size (n - fr)) :
    Calls Tryd.prog 34 #[.agg #[.int .i64 (s : Int), .int .i64 t, .int .i64 l, .int .i64 v, .bool st, .slice a n cap], .int .i64 (i : Int), .int .i64 (size : Int)] w fun e w' => ∃ a' c', e = .returned (.agg #[.int .i64 (((s + i) % 65536 : Nat) : Int), .int .i64 t, .int .i64 l, .int .i64 v, .bool (st && decide (i = 0)), .slice a' m c']) ∧
      w'.ownsRow w.heap.size 5 1 (.slice a' m c') m (cellsOf (piece L size i)) ∧ Below w.heap.size w w' := by
  have e1 : wrap64 ((i : Int) * (size : Int)) = (fr : Int) := by
    rw [← Int.natCast_mul, ← hfr]; unfold wrap64; omega
  have e2 : bits .and .i64 ((s : Int) + (i : Int)) 65535 = (((s + i) % 65536 : Nat) : Int) := by
    rw [← Int.natCast_add]; exact seq_eq _ (by omega)
  have e2' : IntKind.i64.wrap ((s : Int) + (i : Int)) = (s : Int) + (i : Int) := i64_wrap (by omega) (by omega)
  have e3 := fun w => cut_lh a n cap fr (fr + m) (by omega) (by omega) w
  rw [show fr + m - fr = m by omega] at e3
  have hE0 : ((i : Int) == 0) = decide (i = 0) := by
    by_cases p : i = 0
    · subst p; rfl
    · simp [p]
  have hpl : ∀ c ∈ piece L size i, c < 256 := piece_lt h.1.1 size i
  have hpe : (L.drop fr).take m = piece L size i := by
    unfold piece
    rw [← hfr, hm]
    by_cases p : size ≤ n - fr
    · rw [Nat.min_eq_left p]
    · rw [Nat.min_eq_right (by omega), List.take_of_length_le (by have := h.2.1; simp; omega), List.take_of_length_le (by have := h.2.1; simp; omega)]
  have hlen : (w.alloc (.cells #[.int .i64 (s : Int), .int .i64 t, .int .i64 l, .int .i64 v, .bool st, .slice a n cap] 35)).heap.size = w.heap.size + 1 := by simp
  have hS : ∀ W, Keep (w.alloc (.cells #[.int .i64 (s : Int), .int .i64 t, .int .i64 l, .int .i64 v, .bool st, .slice a n cap] 35)) W → (W.cell? ⟨w.heap.size, 0, none⟩ = some (.int .i64 (s : Int)) ∧ W.cell? ⟨w.heap.size, 1, none⟩ = some (.int .i64 t) ∧ W.cell? ⟨w.heap.size, 2, none⟩ = some (.int .i64 l) ∧ W.cell? ⟨w.heap.size, 3, none⟩ = some (.int .i64 v) ∧ W.cell? ⟨w.heap.size, 4, none⟩ = some (.bool st) ∧ W.cell? ⟨w.heap.size, 5, none⟩ = some (.slice a n cap) ∧ Hid (Keep (w.alloc (.cells #[.int .i64 (s : Int), .int .i64 t, .int .i64 l, .int .i64 v, .bool st, .slice a n cap] 35)) W)) := fun W hk => by
    have hb := hk.1
    rw [hlen] at hb
    obtain ⟨c0, c1, c2, c3, c4, c5⟩ := ((Box.new w (s : Int) t l v st (.slice a n cap)).below hb (Nat.lt_succ_self _)).cells
    exact ⟨c0, c1, c2, c3, c4, c5, hk⟩
  have HF : Hid (∀ W, (W.cell? ⟨w.heap.size, 0, none⟩ = some (.int .i64 (s : Int)) ∧ W.cell? ⟨w.heap.size, 1, none⟩ = some (.int .i64 t) ∧ W.cell? ⟨w.heap.size, 2, none⟩ = some (.int .i64 l) ∧ W.cell? ⟨w.heap.size, 3, none⟩ = some (.int .i64 v) ∧ W.cell? ⟨w.heap.size, 4, none⟩ = some (.bool st) ∧ W.cell? ⟨w.heap.size, 5, none⟩ = some (.slice a n cap) ∧ Hid (Keep (w.alloc (.cells #[.int .i64 (s : Int), .int .i64 t, .int .i64 l, .int .i64 v, .bool st, .slice a n cap] 35)) W)) → Calls Tryd.prog 33 #[.slice (cutAt a cap fr) m (cap - fr)] W fun e w' => ∃ a' c' z0 z1 z2 z3 z4 z5, e = .returned (.slice a' m c') ∧ Open w' (w.heap.size + 1) z0 z1 z2 z3 z4 z5 ∧ Hid (w'.ownsRow (w.heap.size + 2) 5 1 (.slice a' m c') m (cellsOf (piece L size i))) ∧ (w'.cell? ⟨w.heap.size, 0, none⟩ = some (.int .i64 (s : Int)) ∧ w'.cell? ⟨w.heap.size, 1, none⟩ = some (.int .i64 t) ∧ w'.cell? ⟨w.heap.size, 2, none⟩ = some (.int .i64 l) ∧ w'.cell? ⟨w.heap.size, 3, none⟩ = some (.int .i64 v) ∧ w'.cell? ⟨w.heap.size, 4, none⟩ = some (.bool st) ∧ w'.cell? ⟨w.heap.size, 5, none⟩ = some (.slice a n cap) ∧ Hid (Keep (w.alloc (.cells #[.int .i64 (s : Int), .int .i64 t, .int .i64 l, .int .i64 v, .bool st, .slice a n cap] 35)) w'))) := fun W hw => by
    have hk := hw.2.2.2.2.2.2.out
    have hbw : Below w.heap.size w W := below_old hk.1
    have hA := cut_arg (l := fr) (h := fr + m) (h.below hbw) (by omega) (by omega) hc
    rw [show fr + m - fr = m by omega, hpe] at hA
    refine (fresh_calls (cutAt a cap fr) m (cap - fr) _ W hA (fun e => by have := hn (cutAt_none e); omega) (by omega)).mono ?_
    rintro e w' ⟨v', rfl, ho, hb'⟩
    have hsz := hk.size
    rw [hlen] at hsz
    have hk2 := hk.below hb' (by rw [hlen]; omega)
    obtain ⟨z0, z1, z2, z3, z4, z5, hop⟩ := hk2.opens
    rw [hlen] at hop
    obtain ⟨a', c', rfl, _⟩ := own_slice ho hpl (by omega)
    exact ⟨a', c', z0, z1, z2, z3, z4, z5, rfl, hop, ownsRow_le ho (by omega), hS _ hk2⟩
  have HS : Hid (∀ W v0 v1 v2 v3 v4 v5, (W.cell? ⟨w.heap.size, 0, none⟩ = some (.int .i64 (s : Int)) ∧ W.cell? ⟨w.heap.size, 1, none⟩ = some (.int .i64 t) ∧ W.cell? ⟨w.heap.size, 2, none⟩ = some (.int .i64 l) ∧ W.cell? ⟨w.heap.size, 3, none⟩ = some (.int .i64 v) ∧ W.cell? ⟨w.heap.size, 4, none⟩ = some (.bool st) ∧ W.cell? ⟨w.heap.size, 5, none⟩ = some (.slice a n cap) ∧ Hid (Keep (w.alloc (.cells #[.int .i64 (s : Int), .int .i64 t, .int .i64 l, .int .i64 v, .bool st, .slice a n cap] 35)) W)) → (((((((W.setCell ⟨w.heap.size + 1, 0, none⟩ v0).setCell ⟨w.heap.size + 1, 1, none⟩ v1).setCell ⟨w.heap.size + 1, 2, none⟩ v2).setCell ⟨w.heap.size + 1, 3, none⟩ v3).setCell ⟨w.heap.size + 1, 4, none⟩ v4).setCell ⟨w.heap.size + 1, 5, none⟩ v5).cell? ⟨w.heap.size, 0, none⟩ = some (.int .i64 (s : Int)) ∧ ((((((W.setCell ⟨w.heap.size + 1, 0, none⟩ v0).setCell ⟨w.heap.size + 1, 1, none⟩ v1).setCell ⟨w.heap.size + 1, 2, none⟩ v2).setCell ⟨w.heap.size + 1, 3, none⟩ v3).setCell ⟨w.heap.size + 1, 4, none⟩ v4).setCell ⟨w.heap.size + 1, 5, none⟩ v5).cell? ⟨w.heap.size, 1, none⟩ = some (.int .i64 t) ∧ ((((((W.setCell ⟨w.heap.size + 1, 0, none⟩ v0).setCell ⟨w.heap.size + 1, 1, none⟩ v1).setCell ⟨w.heap.size + 1, 2, none⟩ v2).setCell ⟨w.heap.size + 1, 3, none⟩ v3).setCell ⟨w.heap.size + 1, 4, none⟩ v4).setCell ⟨w.heap.size + 1, 5, none⟩ v5).cell? ⟨w.heap.size, 2, none⟩ = some (.int .i64 l) ∧ ((((((W.setCell ⟨w.heap.size + 1, 0, none⟩ v0).setCell ⟨w.heap.size + 1, 1, none⟩ v1).setCell ⟨w.heap.size + 1, 2, none⟩ v2).setCell ⟨w.heap.size + 1, 3, none⟩ v3).setCell ⟨w.heap.size + 1, 4, none⟩ v4).setCell ⟨w.heap.size + 1, 5, none⟩ v5).cell? ⟨w.heap.size, 3, none⟩ = some (.int .i64 v) ∧ ((((((W.setCell ⟨w.heap.size + 1, 0, none⟩ v0).setCell ⟨w.heap.size + 1, 1, none⟩ v1).setCell ⟨w.heap.size + 1, 2, none⟩ v2).setCell ⟨w.heap.size + 1, 3, none⟩ v3).setCell ⟨w.heap.size + 1, 4, none⟩ v4).setCell ⟨w.heap.size + 1, 5, none⟩ v5).cell? ⟨w.heap.size, 4, none⟩ = some (.bool st) ∧ ((((((W.setCell ⟨w.heap.size + 1, 0, none⟩ v0).setCell ⟨w.heap.size + 1, 1, none⟩ v1).setCell ⟨w.heap.size + 1, 2, none⟩ v2).setCell ⟨w.heap.size + 1, 3, none⟩ v3).setCell ⟨w.heap.size + 1, 4, none⟩ v4).setCell ⟨w.heap.size + 1, 5, none⟩ v5).cell? ⟨w.heap.size, 5, none⟩ = some (.slice a n cap) ∧ Hid (Keep (w.alloc (.cells #[.int .i64 (s : Int), .int .i64 t, .int .i64 l, .int .i64 v, .bool st, .slice a n cap] 35)) ((((((W.setCell ⟨w.heap.size + 1, 0, none⟩ v0).setCell ⟨w.heap.size + 1, 1, none⟩ v1).setCell ⟨w.heap.size + 1, 2, none⟩ v2).setCell ⟨w.heap.size + 1, 3, none⟩ v3).setCell ⟨w.heap.size + 1, 4, none⟩ v4).setCell ⟨w.heap.size + 1, 5, none⟩ v5)))) := fun W v0 v1 v2 v3 v4 v5 hw => by
    have hk := hw.2.2.2.2.2.2.out
    refine hS _ ?_
    have := (((((hk.set 0 v0).set 1 v1).set 2 v2).set 3 v3).set 4 v4).set 5 v5
    rw [hlen] at this
    exact this
  have HE : Hid (∀ (W : World) (q0 q1 q2 q3 : Int) (q4 : Bool) (q5 : Value), (W.cell? ⟨w.heap.size, 0, none⟩ = some (.int .i64 (s : Int)) ∧ W.cell? ⟨w.heap.size, 1, none⟩ = some (.int .i64 t) ∧ W.cell? ⟨w.heap.size, 2, none⟩ = some (.int .i64 l) ∧ W.cell? ⟨w.heap.size, 3, none⟩ = some (.int .i64 v) ∧ W.cell? ⟨w.heap.size, 4, none⟩ = some (.bool st) ∧ W.cell? ⟨w.heap.size, 5, none⟩ = some (.slice a n cap) ∧ Hid (Keep (w.alloc (.cells #[.int .i64 (s : Int), .int .i64 t, .int .i64 l, .int .i64 v, .bool st, .slice a n cap] 35)) W)) → Box ((((((W.setCell ⟨w.heap.size + 1, 0, none⟩ (.int .i64 q0)).setCell ⟨w.heap.size + 1, 1, none⟩ (.int .i64 q1)).setCell ⟨w.heap.size + 1, 2, none⟩ (.int .i64 q2)).setCell ⟨w.heap.size + 1, 3, none⟩ (.int .i64 q3)).setCell ⟨w.heap.size + 1, 4, none⟩ (.bool q4)).setCell ⟨w.heap.size + 1, 5, none⟩ q5) (w.heap.size + 1) q0 q1 q2 q3 q4 q5 ∧ Below w.heap.size w ((((((W.setCell ⟨w.heap.size + 1, 0, none⟩ (.int .i64 q0)).setCell ⟨w.heap.size + 1, 1, none⟩ (.int .i64 q1)).setCell ⟨w.heap.size + 1, 2, none⟩ (.int .i64 q2)).setCell ⟨w.heap.size + 1, 3, none⟩ (.int .i64 q3)).setCell ⟨w.heap.size + 1, 4, none⟩ (.bool q4)).setCell ⟨w.heap.size + 1, 5, none⟩ q5)) := fun W q0 q1 q2 q3 q4 q5 hw => by
    have hk := hw.2.2.2.2.2.2.out
    have h6 := hk.set6 q0 q1 q2 q3 q4 q5
    have h7 := (((((hk.set 0 (.int .i64 q0)).set 1 (.int .i64 q1)).set 2 (.int .i64 q2)).set 3 (.int .i64 q3)).set 4 (.bool q4)).set 5 q5
    rw [hlen] at h6 h7
    exact ⟨h6, below_old h7.1⟩
  have HSS := hidden hS
  have HM := hidden hm
  clear hS h hn hm hfr hpe hlen
  generalize (((s + i) % 65536 : Nat) : Int) = SE at *
  generalize hz : decide (i = 0) = IZ at *
  generalize hto : fr + m = to at *
  generalize hca : cutAt a cap fr = ca at *
  clear hca hz
  go_enter Tryd.func34, Tryd.ntmps34
  go_upto_region 2 with fail
  go_cut [7, 8] from 9 (fun x7 x8 wx => x7 = .int .i64 (fr : Int) ∧ x8 = .int .i64 (to : Int) ∧ wx = (w.alloc (.cells #[.int .i64 (s : Int), .int .i64 t, .int .i64 l, .int .i64 v, .bool st, .slice a n cap] 35)).alloc (.cells #[.int .i64 0, .int .i64 0, .int .i64 0, .int .i64 0, .bool false, .slice none 0 0] 35))
  case first =>
    go_wp2_with fail
    all_goals go_meet
    all_goals exact ⟨rfl, congrArg (Value.int .i64) (by have := HM.out; omega), rfl⟩
  case rest =>
  obtain ⟨rfl, rfl, hwc⟩ := hcut
  have hS0 : (wc.drew.cell? ⟨w.heap.size, 0, none⟩ = some (.int .i64 (s : Int)) ∧ wc.drew.cell? ⟨w.heap.size, 1, none⟩ = some (.int .i64 t) ∧ wc.drew.cell? ⟨w.heap.size, 2, none⟩ = some (.int .i64 l) ∧ wc.drew.cell? ⟨w.heap.size, 3, none⟩ = some (.int .i64 v) ∧ wc.drew.cell? ⟨w.heap.size, 4, none⟩ = some (.bool st) ∧ wc.drew.cell? ⟨w.heap.size, 5, none⟩ = some (.slice a n cap) ∧ Hid (Keep (w.alloc (.cells #[.int .i64 (s : Int), .int .i64 t, .int .i64 l, .int .i64 v, .bool st, .slice a n cap] 35)) wc.drew)) := by
    subst hwc
    exact HSS.out _ (Keep.new _ _ rfl).drew
  have hwd : wc.heap.size = w.heap.size + 2 := by rw [hwc]; simp
  clear hwc
  cases st with
  | true =>
    go_wp2_with fail
    go_region_held3 (fun w' => (w'.cell? ⟨w.heap.size, 0, none⟩ = some (.int .i64 (s : Int)) ∧ w'.cell? ⟨w.heap.size, 1, none⟩ = some (.int .i64 t) ∧ w'.cell? ⟨w.heap.size, 2, none⟩ = some (.int .i64 l) ∧ w'.cell? ⟨w.heap.size, 3, none⟩ = some (.int .i64 v) ∧ w'.cell? ⟨w.heap.size, 4, none⟩ = some (.bool true) ∧ w'.cell? ⟨w.heap.size, 5, none⟩ = some (.slice a n cap) ∧ Hid (Keep (w.alloc (.cells #[.int .i64 (s : Int), .int .i64 t, .int .i64 l, .int .i64 v, .bool true, .slice a n cap] 35)) w'))) (first | with_reducible assumption | exact HS.out _ _ _ _ _ _ _ (by with_reducible assumption))
      (first
        | (go_at_call 33; refine (HF.out _ ?_).mono ?_; assumption; rintro e w' ⟨a6, c6, z0, z1, z2, z3, z4, z5, rfl, ⟨⟨k0, k1, k2, k3, k4, k5⟩, f0, f1, f2, f3, f4, f5⟩, ho, hS⟩))
    all_goals go_wp2_with fail
    all_goals refine bodyPost_ret (res_pk1 (g := w.heap.size + 1) rfl rfl (HE.out w' SE t l v IZ (.slice a6 m c6) hS).1) rfl ?_
    all_goals refine ⟨a6, c6, rfl, ?_, (HE.out w' SE t l v IZ (.slice a6 m c6) hS).2⟩
    all_goals exact ownsRow_le (ownsRow_setCell_below (ownsRow_setCell_below (ownsRow_setCell_below (ownsRow_setCell_below (ownsRow_setCell_below (ownsRow_setCell_below ho.out (Nat.lt_succ_self _) _) (Nat.lt_succ_self _) _) (Nat.lt_succ_self _) _) (Nat.lt_succ_self _) _) (Nat.lt_succ_self _) _) (Nat.lt_succ_self _) _) (by omega)
  | false =>
    go_wp2_with fail
    first
    | go_region_held (fun w' => (w'.cell? ⟨w.heap.size, 0, none⟩ = some (.int .i64 (s : Int)) ∧ w'.cell? ⟨w.heap.size, 1, none⟩ = some (.int .i64 t) ∧ w'.cell? ⟨w.heap.size, 2, none⟩ = some (.int .i64 l) ∧ w'.cell? ⟨w.heap.size, 3, none⟩ = some (.int .i64 v) ∧ w'.cell? ⟨w.heap.size, 4, none⟩ = some (.bool false) ∧ w'.cell? ⟨w.heap.size, 5, none⟩ = some (.slice a n cap) ∧ Hid (Keep (w.alloc (.cells #[.int .i64 (s : Int), .int .i64 t, .int .i64 l, .int .i64 v, .bool false, .slice a n cap] 35)) w'))) (first | with_reducible assumption | exact HS.out _ _ _ _ _ _ _ (by with_reducible assumption))
        (first
          | (go_at_call 33; refine (HF.out _ ?_).mono ?_; assumption; rintro e w' ⟨a6, c6, z0, z1, z2, z3, z4, z5, rfl, ⟨⟨k0, k1, k2, k3, k4, k5⟩, f0, f1, f2, f3, f4, f5⟩, ho, hS⟩))
    | fail
    all_goals go_wp2_with fail
    all_goals refine bodyPost_ret (res_pk1 (g := w.heap.size + 1) rfl rfl (HE.out w' SE t l v false (.slice a6 m c6) hS).1) rfl ?_
    all_goals refine ⟨a6, c6, rfl, ?_, (HE.out w' SE t l v false (.slice a6 m c6) hS).2⟩
    all_goals exact ownsRow_le (ownsRow_setCell_below (ownsRow_setCell_below (ownsRow_setCell_below (ownsRow_setCell_below (ownsRow_setCell_below (ownsRow_setCell_below ho.out (Nat.lt_succ_self _) _) (Nat.lt_succ_self _) _) (Nat.lt_succ_self _) _) (Nat.lt_succ_self _) _) (Nat.lt_succ_self _) _) (Nat.lt_succ_self _) _) (by omega)
end Go.Proofs.YtdmajaofjfgccabDoor.Pack
