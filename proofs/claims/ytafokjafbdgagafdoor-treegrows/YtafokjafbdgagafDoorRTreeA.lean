/-
  What the reference's functions Edges and Tree return of anything; what Ints and Error of package choirsame return of what is the same. They change nothing that was there.
-/
import Derived.Test.YtafokjafbdgagafDoorTreeJ
import Derived.Test.YtafokjafbdgagafDoorTreeMath4
import Derived.Test.YtafokjafbdgagafDoorTold
namespace Go.Proofs.YtafokjafbdgagafDoor.RTree
open Go.ChangeShapes Go.WideShapes Go.ChangeAt Go.RowKit Go.Proofs.YtafokjafbdgagafDoor.Mem Go.Proofs.YtafokjafbdgagafDoor.TM Go.Proofs.YtafokjafbdgagafDoor.Tree
set_option linter.unusedVariables false

set_option maxHeartbeats 1000000 in
set_option maxRecDepth 100000 in
theorem ints_same (a b : Option Addr) (n cap cap' : Nat) (L : List Int) (w : World) (hA : IArg w a n L) (hB : IArg w b n L) :
    Calls Tryd.prog 22 #[.slice a n cap, .slice b n cap'] w fun e w' => e = .returned (.bool true) ∧ Below w.heap.size w w' := by
  have hn := hA.2.2
  have HA := hidden hA
  have HB := hidden hB
  clear hA hB
  go_enter Tryd.func22, Tryd.ntmps22
  go_wp2_with fail
  go_loopg [5] n (fun g y wr => ∃ (i : Nat), i + g = n ∧ y = .int .i64 (i : Int) ∧ Hid (Below w.heap.size w wr))
  case atStart => exact ⟨0, by omega, rfl, Below.refl _ _⟩
  case round =>
    obtain ⟨i, hig, rfl, HW⟩ := hrel
    by_cases hi : i < n
    · have hiz : (i : Int) < (n : Int) := by omega
      obtain ⟨b1, o1, rfl, h1⟩ := (HA.out.below HW.out).at (by omega)
      obtain ⟨b2, o2, rfl, h2⟩ := (HB.out.below HW.out).at (by omega)
      have c1 := h1 i hi
      have c2 := h2 i hi
      clear h1 h2
      generalize dg L i = x at *
      go_wp2_with fail
      go_quiet (fail)
      go_wp2_with fail
      go_roundg (n - (i + 1))
      case measure => omega
      case rel => exact ⟨i + 1, by omega, by go_num, hidden (below_drewN' HW.out _)⟩
    · have hiz : ¬ (i : Int) < (n : Int) := by omega
      go_wp2_with fail
      go_ret
      exact ⟨rfl, HW.out⟩
/-- an error of a number is the one told -/
theorem told_f (f : Nat) (W : World) (hf : f ≤ 100) (hg : W.cell? ⟨0, 0, none⟩ = some (.iface 128 (.agg #[.pointer (some ⟨1, 25, none⟩)]))) :
    Calls Tryd.prog 9 #[errv f, .int .i64 (f : Int)] W fun e w' => e = .returned (.bool true) ∧ Below W.heap.size W w' := by
  by_cases h0 : f = 0
  · subst h0
    refine (Told.same_nil 0 W).mono ?_
    rintro e w' ⟨rfl, rfl⟩
    exact ⟨rfl, Below.refl _ _⟩
  · rw [errv_pos h0]
    refine (Told.same_err f f W (by omega) (by omega) hg).mono ?_
    rintro e w' ⟨rfl, hb⟩
    exact ⟨by simp, hb⟩
set_option maxHeartbeats 8000000 in
set_option maxRecDepth 100000 in
theorem redges_calls (N : Int) (a : Option Addr) (n cap : Nat) (L : List Ed) (w : World) (h : EArg w a n L) :
    Calls Tryd.prog 24 #[.int .i64 N, .slice a n cap] w fun e w' => e = .returned (.int .i64 (ef N L : Int)) ∧ Below w.heap.size w w' := by
  have hl := h.2.1
  have hn := h.2.2
  have HA := hidden h
  clear h
  by_cases h0 : N < 1
  · have HE : Hid (ef N L = 1) := by unfold Hid ef; rw [if_pos (by omega)]
    generalize ef N L = f at *
    have d : decide (N < 1) = true := by simpa using h0
    go_enter Tryd.func24, Tryd.ntmps24
    go_wp2_with fail
    go_ret
    exact ⟨by rw [HE.out]; rfl, Below.refl _ _⟩
  have d0 : decide (N < 1) = false := by simpa using h0
  by_cases h00 : 16 < N
  · have HE : Hid (ef N L = 1) := by unfold Hid ef; rw [if_pos (by omega)]
    generalize ef N L = f at *
    have d : decide (16 < N) = true := by simpa using h00
    go_enter Tryd.func24, Tryd.ntmps24
    go_wp2_with fail
    go_ret
    exact ⟨by rw [HE.out]; rfl, Below.refl _ _⟩
  have d00 : decide (16 < N) = false := by simpa using h00
  by_cases h16 : 200 < n
  · have HE : Hid (ef N L = 4) := by unfold Hid ef; rw [if_neg (by omega), if_pos (by omega)]
    generalize ef N L = f at *
    have d : decide (200 < (n : Int)) = true := by simp; omega
    go_enter Tryd.func24, Tryd.ntmps24
    go_wp2_with fail
    go_ret
    exact ⟨by rw [HE.out]; rfl, Below.refl _ _⟩
  · have HE : Hid (ck N (L.take 0) (L.drop 0) = ef N L) := by unfold Hid ef; rw [if_neg (by omega), if_neg (by omega), List.drop_zero, List.take_zero]
    generalize ef N L = f at *
    have d : decide (200 < (n : Int)) = false := by simp; omega
    go_enter Tryd.func24, Tryd.ntmps24
    go_wp2_with fail
    go_loopg [5] n (fun g v wr => ∃ j : Nat, j + g = n ∧ v = .int .i64 (j : Int) ∧ Hid (ck N (L.take j) (L.drop j) = f) ∧ Hid (Below w.heap.size w wr))
    case atStart => exact ⟨0, by omega, rfl, HE, Below.refl _ _⟩
    case round =>
      obtain ⟨j, hjg, rfl, HK, HW⟩ := hrel
      by_cases hj : j < n
      · have hjz : (j : Int) < (n : Int) := by omega
        obtain ⟨b, o, rfl, hbl, hcs⟩ := (HA.out.below HW.out).at (by omega)
        obtain ⟨c0, c1, c2⟩ := hcs j hj
        have hk := HK.out
        have hts := take_succ (L := L) (j := j) (by omega)
        rw [drop_cons (by omega), ck] at hk
        obtain ⟨m, hm⟩ : ∃ m, L.getD j zz = m := ⟨_, rfl⟩
        rw [hm] at c0 c1 c2 hk hts
        have HTS := hidden hts
        clear hm hcs HK hts
        obtain ⟨x, y, u⟩ := m
        simp only at c0 c1 c2
        obtain ⟨w3, hw3⟩ : ∃ w3, wr.alloc (.cells #[.int .i64 x, .int .i64 y, .int .i64 u] 70) = w3 := ⟨_, rfl⟩
        have HB3 : Hid (Below w.heap.size w w3) := by rw [← hw3]; exact hidden (below_alloc HW.out _)
        have HX3 : Hid (EBox w3 wr.heap.size ⟨x, y, u⟩) := by rw [← hw3]; exact hidden (EBox.new wr ⟨x, y, u⟩)
        have HW3 := hidden hw3
        clear hw3
        go_upto_region 9 with fail
        rw [HW3.out]
        clear HW3 c0 c1 c2
        obtain ⟨x0, x1, x2⟩ := HX3.out.cells
        simp only at x0 x1 x2
        by_cases g1 : x < 0
        · have eg1 : (decide (x < 0)) = true := by simpa using g1
          rw [if_pos (show okE N ⟨x, y, u⟩ = false from decide_eq_false (by simp only; omega))] at hk
          have HK := hidden hk
          clear hk
          go_wp2_with fail
          go_ret
          exact ⟨by rw [← HK.out]; rfl, HB3.out⟩
        · have eg1 : (decide (x < 0)) = false := by simpa using g1
          by_cases g2 : N ≤ x
          · have eg2 : (decide (N ≤ x)) = true := by simpa using g2
            rw [if_pos (show okE N ⟨x, y, u⟩ = false from decide_eq_false (by simp only; omega))] at hk
            have HK := hidden hk
            clear hk
            go_wp2_with fail
            go_ret
            exact ⟨by rw [← HK.out]; rfl, HB3.out⟩
          · have eg2 : (decide (N ≤ x)) = false := by simpa using g2
            by_cases g3 : y < 0
            · have eg3 : (decide (y < 0)) = true := by simpa using g3
              rw [if_pos (show okE N ⟨x, y, u⟩ = false from decide_eq_false (by simp only; omega))] at hk
              have HK := hidden hk
              clear hk
              go_wp2_with fail
              go_ret
              exact ⟨by rw [← HK.out]; rfl, HB3.out⟩
            · have eg3 : (decide (y < 0)) = false := by simpa using g3
              by_cases g4 : N ≤ y
              · have eg4 : (decide (N ≤ y)) = true := by simpa using g4
                rw [if_pos (show okE N ⟨x, y, u⟩ = false from decide_eq_false (by simp only; omega))] at hk
                have HK := hidden hk
                clear hk
                go_wp2_with fail
                go_ret
                exact ⟨by rw [← HK.out]; rfl, HB3.out⟩
              · have eg4 : (decide (N ≤ y)) = false := by simpa using g4
                by_cases g5 : x = y
                · have eg5 : (x == y) = true := by simpa using g5
                  subst g5
                  rw [if_pos (show okE N ⟨x, x, u⟩ = false from decide_eq_false (by simp only; omega))] at hk
                  have HK := hidden hk
                  clear hk
                  go_wp2_with fail
                  go_ret
                  exact ⟨by rw [← HK.out]; rfl, HB3.out⟩
                · have eg5 : (x == y) = false := by simpa using g5
                  by_cases g6 : u < 1
                  · have eg6 : (decide (u < 1)) = true := by simpa using g6
                    rw [if_pos (show okE N ⟨x, y, u⟩ = false from decide_eq_false (by simp only; omega))] at hk
                    have HK := hidden hk
                    clear hk
                    go_wp2_with fail
                    go_ret
                    exact ⟨by rw [← HK.out]; rfl, HB3.out⟩
                  · have eg6 : (decide (u < 1)) = false := by simpa using g6
                    by_cases g7 : 1000000 < u
                    · have eg7 : (decide (1000000 < u)) = true := by simpa using g7
                      rw [if_pos (show okE N ⟨x, y, u⟩ = false from decide_eq_false (by simp only; omega))] at hk
                      have HK := hidden hk
                      clear hk
                      go_wp2_with fail
                      go_ret
                      exact ⟨by rw [← HK.out]; rfl, HB3.out⟩
                    · have eg7 : (decide (1000000 < u)) = false := by simpa using g7
                      rw [if_neg (by rw [show okE N ⟨x, y, u⟩ = true from decide_eq_true (by simp only; omega)]; simp)] at hk
                      have HK := hidden hk
                      have HT0 : Hid ((L.take 0).any (fun f => two f ⟨x, y, u⟩) = false) := hidden rfl
                      clear hk g1 g2 g3 g4 g5 g6 g7
                      obtain ⟨B, hBe⟩ : ∃ B, wr.heap.size = B := ⟨_, rfl⟩
                      rw [hBe] at HX3
                      have HBE := hidden hBe
                      rw [hBe]
                      rw [hBe] at x0 x1 x2
                      clear hBe
                      go_wp2_with fail
                      clear x0 x1 x2
                      go_loopg [7] j (fun g v wq => ∃ k : Nat, k + g = j ∧ v = .int .i64 (k : Int) ∧ Hid ((L.take k).any (fun f => two f ⟨x, y, u⟩) = false) ∧ Hid (Below w.heap.size w wq) ∧ Hid (EBox wq B ⟨x, y, u⟩))
                      case atStart => exact ⟨0, by omega, rfl, HT0, HB3, HX3⟩
                      case round =>
                        obtain ⟨k, hkg, rfl, HT, HB4, HX4⟩ := hrel
                        by_cases hk : k < j
                        · have hkz : (k : Int) < (j : Int) := by omega
                          have hkn : (k : Int) < (n : Int) := by omega
                          obtain ⟨b', o', eb, _, hcs⟩ := (HA.out.below HB4.out).at (by omega)
                          simp only [Option.some.injEq, Addr.mk.injEq] at eb
                          obtain ⟨rfl, rfl, _⟩ := eb
                          obtain ⟨c0, c1, c2⟩ := hcs k (by omega)
                          have htk : (L.take (k + 1)).any (fun f => two f ⟨x, y, u⟩) = two (L.getD k zz) ⟨x, y, u⟩ := by
                            rw [take_succ (by omega), List.any_append, HT.out]; simp
                          have HMK : Hid (two (L.getD k zz) ⟨x, y, u⟩ = true → (L.take j).any (fun f => two f ⟨x, y, u⟩) = true) := fun q => by
                            rw [List.any_eq_true]
                            refine ⟨L.getD k zz, ?_, q⟩
                            have hkl : k < (L.take j).length := by rw [List.length_take]; omega
                            have e : L.getD k zz = (L.take j)[k] := by
                              rw [List.getElem_take, List.getD_eq_getElem?_getD, List.getElem?_eq_getElem (by omega)]; rfl
                            rw [e]; exact List.getElem_mem _
                          obtain ⟨m, hm⟩ : ∃ m, L.getD k zz = m := ⟨_, rfl⟩
                          rw [hm] at c0 c1 c2 htk HMK
                          clear hcs hm
                          obtain ⟨xa, xb, xc⟩ := m
                          simp only at c0 c1 c2
                          obtain ⟨w5, hw5⟩ : ∃ w5, wr.alloc (.cells #[.int .i64 xa, .int .i64 xb, .int .i64 xc] 70) = w5 := ⟨_, rfl⟩
                          have HB5 : Hid (Below w.heap.size w w5) := by rw [← hw5]; exact hidden (below_alloc HB4.out _)
                          have HX5 : Hid (EBox w5 B ⟨x, y, u⟩) := by rw [← hw5]; exact hidden (HX4.out.alloc _)
                          have HY5 : Hid (EBox w5 wr.heap.size ⟨xa, xb, xc⟩) := by rw [← hw5]; exact hidden (EBox.new wr ⟨xa, xb, xc⟩)
                          have HW5 := hidden hw5
                          clear hw5
                          go_upto_region 15 with fail
                          rw [HW5.out]
                          clear HW5 c0 c1 c2
                          obtain ⟨x0, x1, x2⟩ := HX5.out.cells
                          obtain ⟨y0, y1, y2⟩ := HY5.out.cells
                          simp only at x0 x1 x2 y0 y1 y2
                          by_cases k1 : xa = x
                          · have ek1 : (xa == x) = true := by simpa using k1
                            by_cases k2 : xb = y
                            · have ek2 : (xb == y) = true := by simpa using k2
                              have ht : two ⟨xa, xb, xc⟩ ⟨x, y, u⟩ = true := by rw [two_iff]; exact .inl ⟨k1, k2⟩
                              have hk7 := HK.out
                              rw [HMK.out ht, if_pos rfl] at hk7
                              have HK7 := hidden hk7
                              clear hk7 ht htk k1 k2
                              go_wp2_with fail
                              go_ret
                              exact ⟨by rw [← HK7.out]; rfl, HB5.out⟩
                            · have ek2 : (xb == y) = false := by simpa using k2
                              by_cases k3 : xa = y
                              · have ek3 : (xa == y) = true := by simpa using k3
                                by_cases k4 : xb = x
                                · have ek4 : (xb == x) = true := by simpa using k4
                                  have ht : two ⟨xa, xb, xc⟩ ⟨x, y, u⟩ = true := by rw [two_iff]; exact .inr ⟨k3, k4⟩
                                  have hk7 := HK.out
                                  rw [HMK.out ht, if_pos rfl] at hk7
                                  have HK7 := hidden hk7
                                  clear hk7 ht htk k1 k2 k3 k4
                                  go_wp2_with fail
                                  go_ret
                                  exact ⟨by rw [← HK7.out]; rfl, HB5.out⟩
                                · have ek4 : (xb == x) = false := by simpa using k4
                                  have ht : two ⟨xa, xb, xc⟩ ⟨x, y, u⟩ = false := by rw [← Bool.not_eq_true, two_iff]; rintro (⟨q1, q2⟩ | ⟨q1, q2⟩); (· exact k2 q2); (· exact k4 q2)
                                  rw [ht] at htk
                                  have HT1 := hidden htk
                                  clear ht htk k1 k2 k3 k4
                                  go_wp2_with fail
                                  go_roundg (j - (k + 1))
                                  case measure => omega
                                  case rel => exact ⟨k + 1, by omega, by go_num, HT1, HB5, HX5⟩
                              · have ek3 : (xa == y) = false := by simpa using k3
                                have ht : two ⟨xa, xb, xc⟩ ⟨x, y, u⟩ = false := by rw [← Bool.not_eq_true, two_iff]; rintro (⟨q1, q2⟩ | ⟨q1, q2⟩); (· exact k2 q2); (· exact k3 q1)
                                rw [ht] at htk
                                have HT1 := hidden htk
                                clear ht htk k1 k2 k3
                                go_wp2_with fail
                                go_roundg (j - (k + 1))
                                case measure => omega
                                case rel => exact ⟨k + 1, by omega, by go_num, HT1, HB5, HX5⟩
                          · have ek1 : (xa == x) = false := by simpa using k1
                            by_cases k3 : xa = y
                            · have ek3 : (xa == y) = true := by simpa using k3
                              by_cases k4 : xb = x
                              · have ek4 : (xb == x) = true := by simpa using k4
                                have ht : two ⟨xa, xb, xc⟩ ⟨x, y, u⟩ = true := by rw [two_iff]; exact .inr ⟨k3, k4⟩
                                have hk7 := HK.out
                                rw [HMK.out ht, if_pos rfl] at hk7
                                have HK7 := hidden hk7
                                clear hk7 ht htk k1 k3 k4
                                go_wp2_with fail
                                go_ret
                                exact ⟨by rw [← HK7.out]; rfl, HB5.out⟩
                              · have ek4 : (xb == x) = false := by simpa using k4
                                have ht : two ⟨xa, xb, xc⟩ ⟨x, y, u⟩ = false := by rw [← Bool.not_eq_true, two_iff]; rintro (⟨q1, q2⟩ | ⟨q1, q2⟩); (· exact k1 q1); (· exact k4 q2)
                                rw [ht] at htk
                                have HT1 := hidden htk
                                clear ht htk k1 k3 k4
                                go_wp2_with fail
                                go_roundg (j - (k + 1))
                                case measure => omega
                                case rel => exact ⟨k + 1, by omega, by go_num, HT1, HB5, HX5⟩
                            · have ek3 : (xa == y) = false := by simpa using k3
                              have ht : two ⟨xa, xb, xc⟩ ⟨x, y, u⟩ = false := by rw [← Bool.not_eq_true, two_iff]; rintro (⟨q1, q2⟩ | ⟨q1, q2⟩); (· exact k1 q1); (· exact k3 q1)
                              rw [ht] at htk
                              have HT1 := hidden htk
                              clear ht htk k1 k3
                              go_wp2_with fail
                              go_roundg (j - (k + 1))
                              case measure => omega
                              case rel => exact ⟨k + 1, by omega, by go_num, HT1, HB5, HX5⟩
                        · have hkz : ¬ (k : Int) < (j : Int) := by omega
                          obtain rfl : j = k := by omega
                          have hk2 := HK.out
                          rw [HT.out, if_neg (by simp), ← HTS.out] at hk2
                          have HK1 := hidden hk2
                          clear hk2
                          go_wp2_with fail
                          go_roundg (n - (j + 1))
                          case measure => omega
                          case rel => exact ⟨j + 1, by omega, by go_num, HK1, HB4⟩
      · have hjz : ¬ (j : Int) < (n : Int) := by omega
        have hk := HK.out
        rw [List.drop_eq_nil_of_le (by omega), ck] at hk
        have HK := hidden hk
        clear hk
        go_wp2_with fail
        go_ret
        exact ⟨by rw [← HK.out]; rfl, HW.out⟩
set_option maxHeartbeats 8000000 in
set_option maxRecDepth 100000 in
theorem rtree_calls (a : Option Addr) (n cap : Nat) (P : List Int) (w : World) (h : IArg w a n P) :
    Calls Tryd.prog 29 #[.slice a n cap] w fun e w' => e = .returned (.int .i64 (pf P : Int)) ∧ w' = w := by
  have hl := h.2.1
  have hn := h.2.2
  have HA := hidden h
  clear h
  by_cases h16 : 16 < n
  · have HE : Hid (pf P = 4) := by unfold Hid pf; rw [if_pos (by omega)]
    generalize pf P = f at *
    have d : decide (16 < (n : Int)) = true := by simp; omega
    go_enter Tryd.func29, Tryd.ntmps29
    go_wp2_with fail
    go_ret
    exact ⟨by rw [HE.out]; rfl, rfl⟩
  have d : decide (16 < (n : Int)) = false := by simp; omega
  have HE : Hid (pf P = if (P.drop 0).any (bad P) = true then 1 else if ((List.range n).drop 0).any (fun x => !en P x) = true then 3 else 0) := by unfold Hid pf; rw [if_neg (by omega), List.drop_zero, List.drop_zero, hl]
  generalize pf P = f at *
  go_enter Tryd.func29, Tryd.ntmps29
  go_wp2_with fail
  go_loopg [4] n (fun g v wr => ∃ j : Nat, j + g = n ∧ v = .int .i64 (j : Int) ∧ Hid (f = if (P.drop j).any (bad P) = true then 1 else if ((List.range n).drop 0).any (fun x => !en P x) = true then 3 else 0) ∧ Hid ((P.take j).any (bad P) = false) ∧ w = wr)
  case atStart => exact ⟨0, by omega, rfl, HE, hidden rfl, rfl⟩
  case round =>
    obtain ⟨j, hjg, rfl, HK, HT, rfl⟩ := hrel
    by_cases hj : j < n
    · have hjz : (j : Int) < (n : Int) := by omega
      obtain ⟨b, o, rfl, hcs⟩ := HA.out.at (by omega)
      have c0 := hcs j hj
      have hk := HK.out
      rw [drop_int (by omega), List.any_cons] at hk
      have htk : (P.take (j + 1)).any (bad P) = bad P (dg P j) := by
        rw [← List.take_append_getElem (by omega), List.any_append, HT.out]
        simp [dg, List.getD_eq_getElem?_getD, List.getElem?_eq_getElem (show j < P.length by omega)]
      generalize dg P j = p at *
      have hbad : bad P p = (!decide (p = -1) && !isn n p) := by unfold bad; rw [hl]
      by_cases g1 : p < -1
      · have e1 : decide (p < -1) = true := by simpa using g1
        rw [show bad P p = true by rw [hbad]; simp [isn]; omega, Bool.true_or, if_pos rfl] at hk
        have HK1 := hidden hk
        clear hk htk hbad g1 hcs
        go_wp2_with fail
        go_ret
        exact ⟨by rw [HK1.out]; rfl, rfl⟩
      have e1 : decide (p < -1) = false := by simpa using g1
      by_cases g2 : (n : Int) ≤ p
      · have e2 : decide ((n : Int) ≤ p) = true := by simpa using g2
        rw [show bad P p = true by rw [hbad]; simp [isn]; omega, Bool.true_or, if_pos rfl] at hk
        have HK1 := hidden hk
        clear hk htk hbad g1 g2 hcs
        go_wp2_with fail
        go_ret
        exact ⟨by rw [HK1.out]; rfl, rfl⟩
      have e2 : decide ((n : Int) ≤ p) = false := by simpa using g2
      have hb0 : bad P p = false := by rw [hbad]; simp [isn]; omega
      rw [hb0, Bool.false_or] at hk
      rw [hb0] at htk
      have HK1 := hidden hk
      have HT1 := hidden htk
      clear hk htk hbad hb0 g1 g2 hcs
      go_wp2_with fail
      go_roundg (n - (j + 1))
      case measure => omega
      case rel => exact ⟨j + 1, by omega, by go_num, HK1, HT1, rfl⟩
    · have hjz : ¬ (j : Int) < (n : Int) := by omega
      have hk := HK.out
      rw [List.drop_eq_nil_of_le (by omega), List.any_nil, if_neg (by simp)] at hk
      have ht := HT.out
      rw [List.take_of_length_le (by omega)] at ht
      have HR := hidden (bad_rng.1 ht)
      have HK2 := hidden hk
      clear hk ht HK HT HE
      go_wp2_with fail
      go_loopg [5] n (fun g v wr => ∃ i : Nat, i + g = n ∧ v = .int .i64 (i : Int) ∧ Hid (f = if ((List.range n).drop i).any (fun x => !en P x) = true then 3 else 0) ∧ w = wr)
      case atStart => exact ⟨0, by omega, rfl, HK2, rfl⟩
      case round =>
        obtain ⟨i, hig, rfl, HK, rfl⟩ := hrel
        by_cases hi : i < n
        · have hiz : (i : Int) < (n : Int) := by omega
          have hk := HK.out
          rw [range_drop hi, List.any_cons] at hk
          have HKK := hidden hk
          clear hk HK
          go_wp2_with fail
          go_loopg [6, 7] (n + 1) (fun g u v wr => ∃ (k : Nat) (z : Int), k + g = n + 1 ∧ u = .int .i64 z ∧ v = .int .i64 (k : Int) ∧ (z = -1 ∨ ∃ q : Nat, z = (q : Int) ∧ q < n) ∧ Hid (anc P k (i : Int) = z) ∧ w = wr)
          case atStart => exact ⟨0, (i : Int), by omega, rfl, rfl, .inr ⟨i, rfl, hi⟩, hidden rfl, rfl⟩
          case round =>
            obtain ⟨k, z, hkg, rfl, rfl, hz, HZ, rfl⟩ := hrel
            rcases hz with rfl | ⟨q, rfl, hq⟩
            · have hen : en P i = true := by
                unfold en
                exact decide_eq_true (anc_all HR.out k i (by omega) HZ.out)
              have hk := HKK.out
              rw [hen, Bool.not_true, Bool.false_or] at hk
              have HK1 := hidden hk
              clear hk hen
              by_cases hkn : k ≤ n
              · have ek : decide ((k : Int) ≤ (n : Int)) = true := by simpa using hkn
                go_wp2_with fail
                go_roundg (n - (i + 1))
                case measure => omega
                case rel => exact ⟨i + 1, by omega, by go_num, HK1, rfl⟩
              · have ek : decide ((k : Int) ≤ (n : Int)) = false := by simpa using hkn
                go_wp2_with fail
                go_roundg (n - (i + 1))
                case measure => omega
                case rel => exact ⟨i + 1, by omega, by go_num, HK1, rfl⟩
            · by_cases hkn : k ≤ n
              · have ek : decide ((k : Int) ≤ (n : Int)) = true := by simpa using hkn
                obtain ⟨b, o, rfl, hcs⟩ := HA.out.at (by omega)
                have c0 := hcs q hq
                have hqz : (q : Int) < (n : Int) := by omega
                have hr := HR.out q (by omega)
                have hz : anc P (k + 1) (i : Int) = dg P q := by rw [anc_out, HZ.out, pa_nat]
                generalize dg P q = p at *
                have HZ1 := hidden hz
                clear hz hcs
                go_wp2_with fail
                go_roundg (n - k)
                case measure => omega
                case rel => exact ⟨k + 1, p, by omega, rfl, by go_num, by rcases Int.lt_or_le p 0 with h | h; (· exact .inl (by omega)); (· exact .inr ⟨p.toNat, by omega, by omega⟩), HZ1, rfl⟩
              · have ek : decide ((k : Int) ≤ (n : Int)) = false := by simpa using hkn
                have hen : en P i = false := by
                  unfold en
                  refine decide_eq_false fun q1 => ?_
                  have h1 := anc_mono P q1 (m := k) (by omega)
                  rw [HZ.out] at h1
                  omega
                have hk := HKK.out
                rw [hen, Bool.not_false, Bool.true_or, if_pos rfl] at hk
                have HK1 := hidden hk
                clear hk hen
                go_wp2_with fail
                go_ret
                exact ⟨by rw [HK1.out]; rfl, rfl⟩
        · have hiz : ¬ (i : Int) < (n : Int) := by omega
          have hk := HK.out
          rw [List.drop_eq_nil_of_le (by simp; omega), List.any_nil, if_neg (by simp)] at hk
          have HK := hidden hk
          clear hk
          go_wp2_with fail
          go_ret
          exact ⟨by rw [HK.out]; rfl, rfl⟩
end Go.Proofs.YtafokjafbdgagafDoor.RTree
