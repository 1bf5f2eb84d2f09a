/-
  What the reference's functions View, Member and Merge return of any rows of members. They change nothing that was there.
-/
import Derived.Test.YtlahlgoknolniafDoorViewF
namespace Go.Proofs.YtlahlgoknolniafDoor.View
open Go.ChangeShapes Go.WideShapes Go.ChangeAt Go.RowKit Go.Proofs.YtlahlgoknolniafDoor.Mem Go.Proofs.YtlahlgoknolniafDoor.VM
set_option linter.unusedVariables false

/-- the node ahead of a place -/
def prev (L : List Mb) (j : Nat) : Int := if j = 0 then -1 else (L.getD (j - 1) zz).n
theorem prev_zero (L : List Mb) : prev L 0 = -1 := rfl
theorem prev_succ (L : List Mb) (j : Nat) : prev L (j + 1) = (L.getD j zz).n := by unfold prev; rw [if_neg (by omega)]; rfl
theorem prev_pos (L : List Mb) {j : Nat} (h : 0 < j) : prev L j = (L.getD (j - 1) zz).n := by unfold prev; rw [if_neg (by omega)]

set_option maxHeartbeats 4000000 in
set_option maxRecDepth 100000 in
theorem rview_calls (a : Option Addr) (n cap : Nat) (L : List Mb) (w : World) (h : MArg w a n L) :
    Calls Tryd.prog 13 #[.slice a n cap] w fun e w' => e = .returned (.int .i64 (vf L : Nat)) ∧ Below w.heap.size w w' := by
  have hl := h.2.1
  have hn := h.2.2
  have HA := hidden h
  clear h
  by_cases h16 : 16 < n
  · have HE : Hid (vf L = 4) := by unfold Hid vf; rw [if_pos (by omega)]
    generalize vf L = f at *
    have d : decide (16 < (n : Int)) = true := by simp; omega
    go_enter Tryd.func13, Tryd.ntmps13
    go_wp2_with fail
    go_ret
    exact ⟨by rw [HE.out]; rfl, Below.refl _ _⟩
  · have HE : Hid (ck (prev L 0) (L.drop 0) = vf L) := by unfold Hid vf; rw [if_neg (by omega), List.drop_zero]; rfl
    generalize vf L = f at *
    have d : decide (16 < (n : Int)) = false := by simp; omega
    go_enter Tryd.func13, Tryd.ntmps13
    go_wp2_with fail
    go_loopg [3] n (fun g y wr => ∃ (j : Nat), j + g = n ∧ y = .int .i64 (j : Int) ∧ Hid (ck (prev L j) (L.drop j) = f) ∧ Hid (Below w.heap.size w wr))
    case atStart => exact ⟨0, by omega, rfl, HE, Below.refl _ _⟩
    case round =>
      obtain ⟨j, hjg, rfl, HK, HW⟩ := hrel
      by_cases hj : j < n
      · have hjz : (j : Int) < (n : Int) := by omega
        obtain ⟨b, o, rfl, hbl, hcs⟩ := (HA.out.below HW.out).at (by omega)
        obtain ⟨c0, c1, c2⟩ := hcs j hj
        have hk := HK.out
        rw [drop_cons (by omega), ck] at hk
        have hps := prev_succ L j
        obtain ⟨m, hm⟩ : ∃ m, L.getD j zz = m := ⟨_, rfl⟩
        rw [hm] at c0 c1 c2 hk hps
        clear hm HK
        obtain ⟨x, y, u⟩ := m
        simp only at c0 c1 c2 hps
        have HPS := hidden hps
        clear hps
        have HB : Hid (∀ O, Below w.heap.size w (wr.alloc O)) := fun O => below_alloc HW.out O
        by_cases h1 : x < 0
        · have d1 : decide (x < 0) = true := by simpa using h1
          rw [if_pos (by simp [okm]; omega)] at hk
          have HK := hidden hk
          clear hk hcs
          go_wp2_with fail
          go_ret
          exact ⟨by rw [← HK.out]; rfl, HB.out _⟩
        · have d1 : decide (x < 0) = false := by simpa using h1
          by_cases h2 : 15 < x
          · have d2 : decide (15 < x) = true := by simpa using h2
            rw [if_pos (by simp [okm]; omega)] at hk
            have HK := hidden hk
            clear hk hcs
            go_wp2_with fail
            go_ret
            exact ⟨by rw [← HK.out]; rfl, HB.out _⟩
          · have d2 : decide (15 < x) = false := by simpa using h2
            by_cases h3 : y < 1
            · have d3 : decide (y < 1) = true := by simpa using h3
              rw [if_pos (by simp [okm]; omega)] at hk
              have HK := hidden hk
              clear hk hcs
              go_wp2_with fail
              go_ret
              exact ⟨by rw [← HK.out]; rfl, HB.out _⟩
            · have d3 : decide (y < 1) = false := by simpa using h3
              by_cases h4 : 1000000 < y
              · have d4 : decide (1000000 < y) = true := by simpa using h4
                rw [if_pos (by simp [okm]; omega)] at hk
                have HK := hidden hk
                clear hk hcs
                go_wp2_with fail
                go_ret
                exact ⟨by rw [← HK.out]; rfl, HB.out _⟩
              · have d4 : decide (1000000 < y) = false := by simpa using h4
                rw [if_neg (by simp [okm]; omega)] at hk
                rcases Nat.eq_zero_or_pos j with hj0 | hj0
                · subst hj0
                  rw [prev_zero, if_neg (by simp only; omega)] at hk
                  have HK : Hid (ck (prev L (0 + 1)) (L.drop (0 + 1)) = f) := by rw [HPS.out]; exact hk
                  clear hk hcs
                  simp only [Nat.zero_mul, Nat.add_zero] at c0 c1 c2
                  go_wp2_with fail
                  go_quiet (fail)
                  go_wp2_with fail
                  go_roundg (n - (0 + 1))
                  case measure => omega
                  case rel => exact ⟨0 + 1, by omega, by go_num, HK, hidden (below_drewN' (HB.out _) _)⟩
                · have e0 := (hcs (j - 1) (by omega)).1
                  rw [prev_pos L hj0] at hk
                  obtain ⟨z, hz⟩ : ∃ z, (L.getD (j - 1) zz).n = z := ⟨_, rfl⟩
                  rw [hz] at e0 hk
                  clear hz hcs
                  have hj0z : (0 : Int) < (j : Int) := by omega
                  have dj : decide ((0 : Int) < (j : Int)) = true := decide_eq_true hj0z
                  have dj' : decide (0 < j) = true := decide_eq_true hj0
                  have hbw : IntKind.i64.wrap ((j : Int) - 1) = (j : Int) - 1 := by rw [IntKind.wrap_i64]; omega
                  have htn : ((j : Int) - 1).toNat = j - 1 := by omega
                  have hlo : (0 : Int) ≤ (j : Int) - 1 := by omega
                  have hhi : (j : Int) - 1 < (n : Int) := by omega
                  by_cases h5 : x ≤ z
                  · have d5 : decide (x ≤ z) = true := by simpa using h5
                    rw [if_pos h5] at hk
                    have HK := hidden hk
                    clear hk
                    go_wp2_with fail
                    go_quiet (fail)
                    go_wp2_with fail
                    go_ret
                    exact ⟨by rw [← HK.out]; rfl, below_drewN' (HB.out _) _⟩
                  · have d5 : decide (x ≤ z) = false := by simpa using h5
                    rw [if_neg h5] at hk
                    have HK : Hid (ck (prev L (j + 1)) (L.drop (j + 1)) = f) := by rw [HPS.out]; exact hk
                    clear hk
                    go_wp2_with fail
                    go_quiet (fail)
                    go_wp2_with fail
                    go_roundg (n - (j + 1))
                    case measure => omega
                    case rel => exact ⟨j + 1, by omega, by go_num, HK, hidden (below_drewN' (HB.out _) _)⟩
      · have hjz : ¬ (j : Int) < (n : Int) := by omega
        have hk := HK.out
        rw [List.drop_eq_nil_of_le (by omega), ck] at hk
        have HK := hidden hk
        clear hk
        go_wp2_with fail
        go_ret
        exact ⟨by rw [← HK.out]; rfl, HW.out⟩

theorem MBox.put3 {W : World} {g : Nat} {m0 : Mb} (h : MBox W g m0) (m : Mb) : MBox (((W.setCell ⟨g, 0, none⟩ (.int .i64 m.n)).setCell ⟨g, 1, none⟩ (.int .i64 m.v)).setCell ⟨g, 2, none⟩ (.bool m.u)) g m := by
  have h0 := heap_setCell_same _ _ 0 _ _ (.int .i64 m.n) h
  have h1 := heap_setCell_same _ _ 1 _ _ (.int .i64 m.v) h0
  have h2 := heap_setCell_same _ _ 2 _ _ (.bool m.u) h1
  exact h2
theorem below_set3 {w W : World} (h : Below w.heap.size w W) {g : Nat} (hg : w.heap.size ≤ g) (i j k : Nat) (x y z : Value) : Below w.heap.size w (((W.setCell ⟨g, i, none⟩ x).setCell ⟨g, j, none⟩ y).setCell ⟨g, k, none⟩ z) :=
  Only.below ((((Only.of_below h [g]).setCell (by simp) _).setCell (by simp) _).setCell (by simp) _) (Nat.le_refl _) (by simp; exact hg)
/-- a member and something else, handed back -/
theorem res_mb {fn : Func} {tmps : Array Value} {w : World} {g i j : Nat} {m : Mb} (hf : fn.results = #[.cell i 48, .tmp j]) (hi : tmps.getD i undef = .pointer (some ⟨g, 0, none⟩)) (hb : MBox w g m) :
    (results fn tmps).run Tryd.prog w = .ok (.tuple #[.agg #[.int .i64 m.n, .int .i64 m.v, .bool m.u], tmps.getD j undef]) w := by
  obtain ⟨c0, c1, c2⟩ := hb.cells
  have hi' : tmps[i]?.getD undef = .pointer (some ⟨g, 0, none⟩) := by simpa using hi
  simp [results, hf, hi', go_sem, c0, c1, c2]
/-- the one of a node, or none -/
def gt (L : List Mb) (k : Int) : Mb := (lk L k).getD zz
theorem gt_some {L : List Mb} {k : Int} {x : Mb} (h : lk L k = some x) : gt L k = x := by simp [gt, h]
theorem gt_none {L : List Mb} {k : Int} (h : lk L k = none) : gt L k = zz := by simp [gt, h]

set_option maxHeartbeats 4000000 in
set_option maxRecDepth 100000 in
theorem rmember_calls (a : Option Addr) (n cap : Nat) (L : List Mb) (k : Int) (w : World) (h : MArg w a n L) :
    Calls Tryd.prog 16 #[.slice a n cap, .int .i64 k] w fun e w' => e = .returned (.tuple #[.agg #[.int .i64 (gt L k).n, .int .i64 (gt L k).v, .bool (gt L k).u], .bool (lk L k).isSome]) ∧ Below w.heap.size w w' := by
  have hl := h.2.1
  have hn := h.2.2
  have HA := hidden h
  clear h
  have HE : Hid (lk (L.drop 0) k = lk L k) := by unfold Hid; rw [List.drop_zero]
  obtain ⟨o, ho⟩ : ∃ o, lk L k = o := ⟨_, rfl⟩
  have hgt : gt L k = o.getD zz := by unfold gt; rw [ho]
  rw [ho] at HE ⊢
  rw [hgt]
  clear ho hgt
  have HS0 : Hid (Below w.heap.size w (w.alloc (.cells #[.int .i64 0, .int .i64 0, .bool false] 48)) ∧ MBox (w.alloc (.cells #[.int .i64 0, .int .i64 0, .bool false] 48)) w.heap.size zz) := ⟨below_alloc (Below.refl _ _) _, MBox.new w zz⟩
  obtain ⟨r, hr⟩ : ∃ r, o.getD zz = r := ⟨_, rfl⟩
  obtain ⟨t, ht⟩ : ∃ t, o.isSome = t := ⟨_, rfl⟩
  rw [hr, ht]
  have HR := hidden hr
  have HT := hidden ht
  clear hr ht
  go_enter Tryd.func16, Tryd.ntmps16
  go_wp2_with fail
  go_loopg [6] n (fun g y wr => ∃ (j : Nat), j + g = n ∧ y = .int .i64 (j : Int) ∧ Hid (lk (L.drop j) k = o) ∧ Hid (Below w.heap.size w wr ∧ MBox wr w.heap.size zz))
  case atStart => exact ⟨0, by omega, rfl, HE, HS0⟩
  case round =>
    obtain ⟨j, hjg, rfl, HK, HW⟩ := hrel
    clear HS0 HE
    obtain ⟨c0, c1, c2⟩ := HW.out.2.cells
    have f0 := HW.out.2.free 0
    have f1 := HW.out.2.free 1
    have f2 := HW.out.2.free 2
    by_cases hj : j < n
    · have hjz : (j : Int) < (n : Int) := by omega
      obtain ⟨b, off, rfl, hbl, hcs⟩ := (HA.out.below HW.out.1).at (by omega)
      obtain ⟨d0, d1, d2⟩ := hcs j hj
      have hk := HK.out
      rw [drop_cons (by omega), lk] at hk
      obtain ⟨m, hm⟩ : ∃ m, L.getD j zz = m := ⟨_, rfl⟩
      rw [hm] at d0 d1 d2 hk
      clear hm HK hcs
      obtain ⟨x, y, u⟩ := m
      simp only at d0 d1 d2
      by_cases hx : x = k
      · rw [if_pos hx] at hk
        have er : r = ⟨x, y, u⟩ := by rw [← HR.out, ← hk]; rfl
        have et : t = true := by rw [← HT.out, ← hk]; rfl
        subst er et
        clear hk HR HT
        subst hx
        go_wp2_with fail
        refine bodyPost_ret (res_mb (g := w.heap.size) rfl rfl (HW.out.2.put3 ⟨x, y, u⟩)) rfl ?_
        exact ⟨rfl, below_set3 HW.out.1 (Nat.le_refl _) _ _ _ _ _ _⟩
      · rw [if_neg hx] at hk
        have HK : Hid (lk (L.drop (j + 1)) k = o) := hk
        have hkk : (x == k) = false := by simpa using hx
        clear hk
        go_wp2_with fail
        go_roundg (n - (j + 1))
        case measure => omega
        case rel => exact ⟨j + 1, by omega, by go_num, HK, HW⟩
    · have hjz : ¬ (j : Int) < (n : Int) := by omega
      have hk := HK.out
      rw [List.drop_eq_nil_of_le (by omega), lk] at hk
      have er : r = zz := by rw [← HR.out, ← hk]; rfl
      have et : t = false := by rw [← HT.out, ← hk]; rfl
      subst er et
      clear hk HR HT HK
      go_wp2_with fail
      refine bodyPost_ret (res_mb (g := w.heap.size) rfl rfl (HW.out.2.put3 zz)) rfl ?_
      exact ⟨rfl, below_set3 HW.out.1 (Nat.le_refl _) _ _ _ _ _ _⟩

/-- Merge under way: the row, and two members in their variables -/
structure RSt (w wr : World) (v : Value) (K : List Mb) (G H : Nat) (x y : Mb) : Prop where
  row : MSt w wr v K
  one : MBox wr G x
  two : MBox wr H y
  far : v.ownBlock ≠ some G
  new : w.heap.size ≤ G
  ne : G ≠ H
theorem RSt.put {w wr : World} {v : Value} {K : List Mb} {G H : Nat} {x y : Mb} (h : RSt w wr v K G H x y) (m : Mb) : RSt w (((wr.setCell ⟨G, 0, none⟩ (.int .i64 m.n)).setCell ⟨G, 1, none⟩ (.int .i64 m.v)).setCell ⟨G, 2, none⟩ (.bool m.u)) v K G H m y := by
  have ho : Only [G] wr (((wr.setCell ⟨G, 0, none⟩ (.int .i64 m.n)).setCell ⟨G, 1, none⟩ (.int .i64 m.v)).setCell ⟨G, 2, none⟩ (.bool m.u)) := (((Only.refl [G] wr).setCell (by simp) _).setCell (by simp) _).setCell (by simp) _
  refine ⟨⟨below_set3 h.row.1 h.new _ _ _ _ _ _, ho.owns h.row.2 (fun k hk hm => ?_)⟩, h.one.put3 m, ho.block h.two (by simp; exact fun e => h.ne e.symm), h.far, h.new, h.ne⟩
  simp at hm
  subst hm
  exact h.far hk

set_option maxHeartbeats 8000000 in
set_option maxRecDepth 100000 in
theorem rmerge_calls (a : Option Addr) (n cap : Nat) (A : List Mb) (p : Option Addr) (k cp : Nat) (B : List Mb) (w : World) (hA : MArg w a n A) (hB : MArg w p k B) :
    Calls Tryd.prog 15 #[.slice a n cap, .slice p k cp] w fun e w' => ∃ a' c', e = .returned (.slice a' (rmn A B 16).length c') ∧ MArg w' a' (rmn A B 16).length (rmn A B 16) ∧ (rmn A B 16).length ≤ c' ∧ (a' = none → (rmn A B 16).length = 0 ∧ c' = 0) ∧ Below w.heap.size w w' := by
  have HA : Hid (∀ W (j : Int), Below w.heap.size w W → Calls Tryd.prog 16 #[.slice a n cap, .int .i64 j] W fun e w' => e = .returned (.tuple #[.agg #[.int .i64 (gt A j).n, .int .i64 (gt A j).v, .bool (gt A j).u], .bool (lk A j).isSome]) ∧ Below W.heap.size W w') := fun W j hW => rmember_calls a n cap A j W (hA.below hW)
  have HB : Hid (∀ W (j : Int), Below w.heap.size w W → Calls Tryd.prog 16 #[.slice p k cp, .int .i64 j] W fun e w' => e = .returned (.tuple #[.agg #[.int .i64 (gt B j).n, .int .i64 (gt B j).v, .bool (gt B j).u], .bool (lk B j).isSome]) ∧ Below W.heap.size W w') := fun W j hW => rmember_calls p k cp B j W (hB.below hW)
  clear hA hB
  have HS0 : Hid (MSt w w (.slice none 0 0) (rmn A B 0)) := ⟨Below.refl _ _, World.ownsRow_nil _ _ _ _⟩
  have HRL := hidden (rmn_len A B 16)
  obtain ⟨R, hR⟩ : ∃ R, rmn A B 16 = R := ⟨_, rfl⟩
  rw [hR] at HRL ⊢
  have HR := hidden hR
  clear hR
  obtain ⟨i0, hii, hz0, hz1, hz2⟩ := info_parts infoMB
  go_enter Tryd.func15, Tryd.ntmps15
  go_wp2_with fail
  go_loopg [5, 6] 16 (fun g s y wr => ∃ (j : Nat) (v : Value), j + g = 16 ∧ v = s ∧ y = .int .i64 (j : Int) ∧ Hid (MSt w wr v (rmn A B j)))
  case atStart => exact ⟨0, _, by omega, rfl, rfl, HS0⟩
  case round =>
    obtain ⟨j, v, hjg, rfl, rfl, HS⟩ := hrel
    clear HS0
    by_cases hj : j < 16
    · have hjz : (j : Int) < 16 := by omega
      have hal : rmn A B (j + 1) = rmn A B j ++ (mg (lk A (j : Int)) (lk B (j : Int))).toList := rfl
      have hKl := rmn_len A B j
      have CA := fun W hW => HA.out W (j : Int) hW
      have CB := fun W hW => HB.out W (j : Int) hW
      have nA : ∀ z, lk A (j : Int) = some z → z.n = (j : Int) := fun z h => lk_node h
      have nB : ∀ z, lk B (j : Int) = some z → z.n = (j : Int) := fun z h => lk_node h
      have gA : gt A (j : Int) = (lk A (j : Int)).getD zz := rfl
      have gB : gt B (j : Int) = (lk B (j : Int)).getD zz := rfl
      rw [gA] at CA
      rw [gB] at CB
      clear gA gB
      generalize rmn A B j = K at *
      generalize lk A (j : Int) = oA at *
      generalize lk B (j : Int) = oB at *
      cases oA with
      | none =>
        cases oB with
        | none =>
          have HAL : Hid (rmn A B (j + 1) = K) := by rw [hal]; unfold Hid; simp [mg]
          clear hal nA nB
          have H1 := hidden CA
          have H2 := hidden CB
          clear CA CB
          simp only [Option.getD_none, Option.isSome_none, zz] at H1 H2
          go_wp2_with fail
          refine (H1.out _ HS.out.1).mono ?_
          rintro e w1 ⟨rfl, hb1⟩
          have HM1 : Hid (MSt w (w1.alloc (.cells #[.int .i64 0, .int .i64 0, .bool false] 48)) v K) := (HS.out.below hb1).alloc _
          have HX1 : Hid (MBox (w1.alloc (.cells #[.int .i64 0, .int .i64 0, .bool false] 48)) w1.heap.size ⟨0, 0, false⟩) := MBox.new w1 ⟨0, 0, false⟩
          have HF1 : Hid (v.ownBlock ≠ some w1.heap.size ∧ w.heap.size ≤ w1.heap.size) := ⟨fun e => by have := ((HS.out.below hb1).2.lt _ e).2; omega, (HS.out.below hb1).1.size⟩
          clear hb1 HS H1
          go_wp2_with fail
          refine (H2.out _ HM1.out.1).mono ?_
          rintro e w2 ⟨rfl, hb2⟩
          have HS2 : Hid (RSt w (w2.alloc (.cells #[.int .i64 0, .int .i64 0, .bool false] 48)) v K w1.heap.size w2.heap.size ⟨0, 0, false⟩ ⟨0, 0, false⟩) :=
            ⟨(HM1.out.below hb2).alloc _, (HX1.out.below hb2 HX1.out.lt).alloc _, MBox.new w2 ⟨0, 0, false⟩, HF1.out.1, HF1.out.2, by have := hb2.size; simp at this; omega⟩
          clear hb2 HM1 HX1 HF1 H2
          obtain ⟨w3, hw3⟩ : ∃ w3, w2.alloc (.cells #[.int .i64 0, .int .i64 0, .bool false] 48) = w3 := ⟨_, rfl⟩
          have HW3 := hidden hw3
          have HS3 : Hid (RSt w w3 v K w1.heap.size w2.heap.size ⟨0, 0, false⟩ ⟨0, 0, false⟩) := by rw [← hw3]; exact HS2
          clear hw3 HS2
          go_upto_region 7 with fail
          rw [HW3.out]
          clear HW3
          go_wp2_with fail
          go_roundg (16 - (j + 1))
          case measure => omega
          case rel => exact ⟨j + 1, v, by omega, rfl, by go_num, by rw [HAL.out]; exact hidden HS3.out.row⟩
        | some z =>
          obtain ⟨x', y', u'⟩ := z
          have HAL : Hid (rmn A B (j + 1) = K ++ [⟨x', y', u'⟩]) := hal
          clear hal nA nB
          have H1 := hidden CA
          have H2 := hidden CB
          clear CA CB
          simp only [Option.getD_some, Option.isSome_some, Option.getD_none, Option.isSome_none, zz] at H1 H2
          go_wp2_with fail
          refine (H1.out _ HS.out.1).mono ?_
          rintro e w1 ⟨rfl, hb1⟩
          have HM1 : Hid (MSt w (w1.alloc (.cells #[.int .i64 0, .int .i64 0, .bool false] 48)) v K) := (HS.out.below hb1).alloc _
          have HX1 : Hid (MBox (w1.alloc (.cells #[.int .i64 0, .int .i64 0, .bool false] 48)) w1.heap.size ⟨0, 0, false⟩) := MBox.new w1 ⟨0, 0, false⟩
          have HF1 : Hid (v.ownBlock ≠ some w1.heap.size ∧ w.heap.size ≤ w1.heap.size) := ⟨fun e => by have := ((HS.out.below hb1).2.lt _ e).2; omega, (HS.out.below hb1).1.size⟩
          clear hb1 HS H1
          go_wp2_with fail
          refine (H2.out _ HM1.out.1).mono ?_
          rintro e w2 ⟨rfl, hb2⟩
          have HS2 : Hid (RSt w (w2.alloc (.cells #[.int .i64 x', .int .i64 y', .bool u'] 48)) v K w1.heap.size w2.heap.size ⟨0, 0, false⟩ ⟨x', y', u'⟩) :=
            ⟨(HM1.out.below hb2).alloc _, (HX1.out.below hb2 HX1.out.lt).alloc _, MBox.new w2 ⟨x', y', u'⟩, HF1.out.1, HF1.out.2, by have := hb2.size; simp at this; omega⟩
          clear hb2 HM1 HX1 HF1 H2
          obtain ⟨w3, hw3⟩ : ∃ w3, w2.alloc (.cells #[.int .i64 x', .int .i64 y', .bool u'] 48) = w3 := ⟨_, rfl⟩
          have HW3 := hidden hw3
          have HS3 : Hid (RSt w w3 v K w1.heap.size w2.heap.size ⟨0, 0, false⟩ ⟨x', y', u'⟩) := by rw [← hw3]; exact HS2
          clear hw3 HS2
          go_upto_region 7 with fail
          rw [HW3.out]
          clear HW3
          obtain ⟨c0, c1, c2⟩ := HS3.out.one.cells
          obtain ⟨d0, d1, d2⟩ := HS3.out.two.cells
          simp only at c0 c1 c2 d0 d1 d2
          have f0 := HS3.out.one.free 0
          have f1 := HS3.out.one.free 1
          have f2 := HS3.out.one.free 2
          have HS4 : Hid (RSt w (((w3.setCell ⟨w1.heap.size, 0, none⟩ (.int .i64 x')).setCell ⟨w1.heap.size, 1, none⟩ (.int .i64 y')).setCell ⟨w1.heap.size, 2, none⟩ (.bool u')) v K w1.heap.size w2.heap.size ⟨x', y', u'⟩ ⟨x', y', u'⟩) := HS3.out.put ⟨x', y', u'⟩
          go_upto_region 10 with fail
          obtain ⟨w4, hw4⟩ : ∃ w4, ((w3.setCell ⟨w1.heap.size, 0, none⟩ (.int .i64 x')).setCell ⟨w1.heap.size, 1, none⟩ (.int .i64 y')).setCell ⟨w1.heap.size, 2, none⟩ (.bool u') = w4 := ⟨_, rfl⟩
          rw [hw4] at HS4 ⊢
          clear hw4 HS3 c0 c1 c2 d0 d1 d2 f0 f1 f2
          obtain ⟨c0, c1, c2⟩ := HS4.out.one.cells
          simp only at c0 c1 c2
          have HS5 : Hid (MSt w (w4.alloc (.cells #[.int .i64 x', .int .i64 y', .bool u'] 48)) v K) := HS4.out.row.alloc _
          have HN5 := hidden (MBox.new w4 ⟨x', y', u'⟩).news
          have hm1 : (mc [⟨x', y', u'⟩]).length = 1 * 3 := rfl
          go_wp2_with (at_builtin; refine wpList_append_own _ rfl _ _ 43 rfl w.heap.size 48 i0 _ 3 24 Tryd.underlying43 hii hz0 hz1 hz2 rfl (by decide) _ K.length (mc K) rfl HS5.out.2 ⟨w4.heap.size, 0, none⟩ 1 1 (mc [⟨x', y', u'⟩]) rfl hm1 HN5.out (mc_cell _) ?b1 ?b2 ?b3 ?next)
          case b1 => unfold maxLen; omega
          case b2 => omega
          case b3 => have := HS5.out.1.size; simpa using this
          case next =>
          intro v1 w' hown hgrow _
          have HS6 : Hid (MSt w w' v1 (K ++ [⟨x', y', u'⟩])) := HS5.out.more ⟨x', y', u'⟩ hown hgrow
          clear hown hgrow
          go_wp2_with fail
          go_roundg (16 - (j + 1))
          case measure => omega
          case rel => exact ⟨j + 1, v1, by omega, rfl, by go_num, by rw [HAL.out]; exact HS6⟩
      | some z =>
        obtain ⟨x, y, u⟩ := z
        cases oB with
        | none =>
          have HAL : Hid (rmn A B (j + 1) = K ++ [⟨x, y, u⟩]) := hal
          clear hal nA nB
          have H1 := hidden CA
          have H2 := hidden CB
          clear CA CB
          simp only [Option.getD_some, Option.isSome_some, Option.getD_none, Option.isSome_none, zz] at H1 H2
          go_wp2_with fail
          refine (H1.out _ HS.out.1).mono ?_
          rintro e w1 ⟨rfl, hb1⟩
          have HM1 : Hid (MSt w (w1.alloc (.cells #[.int .i64 x, .int .i64 y, .bool u] 48)) v K) := (HS.out.below hb1).alloc _
          have HX1 : Hid (MBox (w1.alloc (.cells #[.int .i64 x, .int .i64 y, .bool u] 48)) w1.heap.size ⟨x, y, u⟩) := MBox.new w1 ⟨x, y, u⟩
          have HF1 : Hid (v.ownBlock ≠ some w1.heap.size ∧ w.heap.size ≤ w1.heap.size) := ⟨fun e => by have := ((HS.out.below hb1).2.lt _ e).2; omega, (HS.out.below hb1).1.size⟩
          clear hb1 HS H1
          go_wp2_with fail
          refine (H2.out _ HM1.out.1).mono ?_
          rintro e w2 ⟨rfl, hb2⟩
          have HS2 : Hid (RSt w (w2.alloc (.cells #[.int .i64 0, .int .i64 0, .bool false] 48)) v K w1.heap.size w2.heap.size ⟨x, y, u⟩ ⟨0, 0, false⟩) :=
            ⟨(HM1.out.below hb2).alloc _, (HX1.out.below hb2 HX1.out.lt).alloc _, MBox.new w2 ⟨0, 0, false⟩, HF1.out.1, HF1.out.2, by have := hb2.size; simp at this; omega⟩
          clear hb2 HM1 HX1 HF1 H2
          obtain ⟨w3, hw3⟩ : ∃ w3, w2.alloc (.cells #[.int .i64 0, .int .i64 0, .bool false] 48) = w3 := ⟨_, rfl⟩
          have HW3 := hidden hw3
          have HS3 : Hid (RSt w w3 v K w1.heap.size w2.heap.size ⟨x, y, u⟩ ⟨0, 0, false⟩) := by rw [← hw3]; exact HS2
          clear hw3 HS2
          go_upto_region 7 with fail
          rw [HW3.out]
          clear HW3
          obtain ⟨c0, c1, c2⟩ := HS3.out.one.cells
          simp only at c0 c1 c2
          have HS5 : Hid (MSt w (w3.alloc (.cells #[.int .i64 x, .int .i64 y, .bool u] 48)) v K) := HS3.out.row.alloc _
          have HN5 := hidden (MBox.new w3 ⟨x, y, u⟩).news
          have hm1 : (mc [⟨x, y, u⟩]).length = 1 * 3 := rfl
          go_wp2_with (at_builtin; refine wpList_append_own _ rfl _ _ 43 rfl w.heap.size 48 i0 _ 3 24 Tryd.underlying43 hii hz0 hz1 hz2 rfl (by decide) _ K.length (mc K) rfl HS5.out.2 ⟨w3.heap.size, 0, none⟩ 1 1 (mc [⟨x, y, u⟩]) rfl hm1 HN5.out (mc_cell _) ?b1 ?b2 ?b3 ?next)
          case b1 => unfold maxLen; omega
          case b2 => omega
          case b3 => have := HS5.out.1.size; simpa using this
          case next =>
          intro v1 w' hown hgrow _
          have HS6 : Hid (MSt w w' v1 (K ++ [⟨x, y, u⟩])) := HS5.out.more ⟨x, y, u⟩ hown hgrow
          clear hown hgrow
          go_wp2_with fail
          go_roundg (16 - (j + 1))
          case measure => omega
          case rel => exact ⟨j + 1, v1, by omega, rfl, by go_num, by rw [HAL.out]; exact HS6⟩
        | some z2 =>
          obtain ⟨x', y', u'⟩ := z2
          have n1 : x = (j : Int) := nA _ rfl
          have n2 : x' = (j : Int) := nB _ rfl
          have n3 : x = x' := n1.trans n2.symm
          clear nA nB n1 n2
          by_cases h1 : y < y'
          · have d1 : decide (y < y') = true := by simpa using h1
            have HAL : Hid (rmn A B (j + 1) = K ++ [⟨x', y', u'⟩]) := by
              have e : ov ⟨x', y', u'⟩ ⟨x, y, u⟩ = true := by unfold ov; rw [if_neg (by simp only; omega)]; simpa using h1
              rw [hal]; unfold Hid; simp [mg, e]
            clear hal n3
            have H1 := hidden CA
            have H2 := hidden CB
            clear CA CB
            simp only [Option.getD_some, Option.isSome_some] at H1 H2
            go_wp2_with fail
            refine (H1.out _ HS.out.1).mono ?_
            rintro e w1 ⟨rfl, hb1⟩
            have HM1 : Hid (MSt w (w1.alloc (.cells #[.int .i64 x, .int .i64 y, .bool u] 48)) v K) := (HS.out.below hb1).alloc _
            have HX1 : Hid (MBox (w1.alloc (.cells #[.int .i64 x, .int .i64 y, .bool u] 48)) w1.heap.size ⟨x, y, u⟩) := MBox.new w1 ⟨x, y, u⟩
            have HF1 : Hid (v.ownBlock ≠ some w1.heap.size ∧ w.heap.size ≤ w1.heap.size) := ⟨fun e => by have := ((HS.out.below hb1).2.lt _ e).2; omega, (HS.out.below hb1).1.size⟩
            clear hb1 HS H1
            go_wp2_with fail
            refine (H2.out _ HM1.out.1).mono ?_
            rintro e w2 ⟨rfl, hb2⟩
            have HS2 : Hid (RSt w (w2.alloc (.cells #[.int .i64 x', .int .i64 y', .bool u'] 48)) v K w1.heap.size w2.heap.size ⟨x, y, u⟩ ⟨x', y', u'⟩) :=
              ⟨(HM1.out.below hb2).alloc _, (HX1.out.below hb2 HX1.out.lt).alloc _, MBox.new w2 ⟨x', y', u'⟩, HF1.out.1, HF1.out.2, by have := hb2.size; simp at this; omega⟩
            clear hb2 HM1 HX1 HF1 H2
            obtain ⟨w3, hw3⟩ : ∃ w3, w2.alloc (.cells #[.int .i64 x', .int .i64 y', .bool u'] 48) = w3 := ⟨_, rfl⟩
            have HW3 := hidden hw3
            have HS3 : Hid (RSt w w3 v K w1.heap.size w2.heap.size ⟨x, y, u⟩ ⟨x', y', u'⟩) := by rw [← hw3]; exact HS2
            clear hw3 HS2
            go_upto_region 7 with fail
            rw [HW3.out]
            clear HW3
            obtain ⟨c0, c1, c2⟩ := HS3.out.one.cells
            obtain ⟨d0, d1, d2⟩ := HS3.out.two.cells
            simp only at c0 c1 c2 d0 d1 d2
            have f0 := HS3.out.one.free 0
            have f1 := HS3.out.one.free 1
            have f2 := HS3.out.one.free 2
            have HS4 : Hid (RSt w (((w3.setCell ⟨w1.heap.size, 0, none⟩ (.int .i64 x')).setCell ⟨w1.heap.size, 1, none⟩ (.int .i64 y')).setCell ⟨w1.heap.size, 2, none⟩ (.bool u')) v K w1.heap.size w2.heap.size ⟨x', y', u'⟩ ⟨x', y', u'⟩) := HS3.out.put ⟨x', y', u'⟩
            go_upto_region 10 with fail
            obtain ⟨w4, hw4⟩ : ∃ w4, ((w3.setCell ⟨w1.heap.size, 0, none⟩ (.int .i64 x')).setCell ⟨w1.heap.size, 1, none⟩ (.int .i64 y')).setCell ⟨w1.heap.size, 2, none⟩ (.bool u') = w4 := ⟨_, rfl⟩
            rw [hw4] at HS4 ⊢
            clear hw4 HS3 c0 c1 c2 d0 d1 d2 f0 f1 f2
            obtain ⟨c0, c1, c2⟩ := HS4.out.one.cells
            simp only at c0 c1 c2
            have HS5 : Hid (MSt w (w4.alloc (.cells #[.int .i64 x', .int .i64 y', .bool u'] 48)) v K) := HS4.out.row.alloc _
            have HN5 := hidden (MBox.new w4 ⟨x', y', u'⟩).news
            have hm1 : (mc [⟨x', y', u'⟩]).length = 1 * 3 := rfl
            go_wp2_with (at_builtin; refine wpList_append_own _ rfl _ _ 43 rfl w.heap.size 48 i0 _ 3 24 Tryd.underlying43 hii hz0 hz1 hz2 rfl (by decide) _ K.length (mc K) rfl HS5.out.2 ⟨w4.heap.size, 0, none⟩ 1 1 (mc [⟨x', y', u'⟩]) rfl hm1 HN5.out (mc_cell _) ?b1 ?b2 ?b3 ?next)
            case b1 => unfold maxLen; omega
            case b2 => omega
            case b3 => have := HS5.out.1.size; simpa using this
            case next =>
            intro v1 w' hown hgrow _
            have HS6 : Hid (MSt w w' v1 (K ++ [⟨x', y', u'⟩])) := HS5.out.more ⟨x', y', u'⟩ hown hgrow
            clear hown hgrow
            go_wp2_with fail
            go_roundg (16 - (j + 1))
            case measure => omega
            case rel => exact ⟨j + 1, v1, by omega, rfl, by go_num, by rw [HAL.out]; exact HS6⟩
          · have d1 : decide (y < y') = false := by simpa using h1
            by_cases h2 : y' = y
            · subst h2
              cases u' with
              | false =>
                have HAL : Hid (rmn A B (j + 1) = K ++ [⟨x', y', false⟩]) := by
                  rw [hal]; unfold Hid
                  cases u <;> simp [mg, ov, n3]
                clear hal n3
                have H1 := hidden CA
                have H2 := hidden CB
                clear CA CB
                simp only [Option.getD_some, Option.isSome_some] at H1 H2
                go_wp2_with fail
                refine (H1.out _ HS.out.1).mono ?_
                rintro e w1 ⟨rfl, hb1⟩
                have HM1 : Hid (MSt w (w1.alloc (.cells #[.int .i64 x, .int .i64 y', .bool u] 48)) v K) := (HS.out.below hb1).alloc _
                have HX1 : Hid (MBox (w1.alloc (.cells #[.int .i64 x, .int .i64 y', .bool u] 48)) w1.heap.size ⟨x, y', u⟩) := MBox.new w1 ⟨x, y', u⟩
                have HF1 : Hid (v.ownBlock ≠ some w1.heap.size ∧ w.heap.size ≤ w1.heap.size) := ⟨fun e => by have := ((HS.out.below hb1).2.lt _ e).2; omega, (HS.out.below hb1).1.size⟩
                clear hb1 HS H1
                go_wp2_with fail
                refine (H2.out _ HM1.out.1).mono ?_
                rintro e w2 ⟨rfl, hb2⟩
                have HS2 : Hid (RSt w (w2.alloc (.cells #[.int .i64 x', .int .i64 y', .bool false] 48)) v K w1.heap.size w2.heap.size ⟨x, y', u⟩ ⟨x', y', false⟩) :=
                  ⟨(HM1.out.below hb2).alloc _, (HX1.out.below hb2 HX1.out.lt).alloc _, MBox.new w2 ⟨x', y', false⟩, HF1.out.1, HF1.out.2, by have := hb2.size; simp at this; omega⟩
                clear hb2 HM1 HX1 HF1 H2
                obtain ⟨w3, hw3⟩ : ∃ w3, w2.alloc (.cells #[.int .i64 x', .int .i64 y', .bool false] 48) = w3 := ⟨_, rfl⟩
                have HW3 := hidden hw3
                have HS3 : Hid (RSt w w3 v K w1.heap.size w2.heap.size ⟨x, y', u⟩ ⟨x', y', false⟩) := by rw [← hw3]; exact HS2
                clear hw3 HS2
                go_upto_region 7 with fail
                rw [HW3.out]
                clear HW3
                obtain ⟨c0, c1, c2⟩ := HS3.out.one.cells
                obtain ⟨d0, d1, d2⟩ := HS3.out.two.cells
                simp only at c0 c1 c2 d0 d1 d2
                have f0 := HS3.out.one.free 0
                have f1 := HS3.out.one.free 1
                have f2 := HS3.out.one.free 2
                have HS4 : Hid (RSt w (((w3.setCell ⟨w1.heap.size, 0, none⟩ (.int .i64 x')).setCell ⟨w1.heap.size, 1, none⟩ (.int .i64 y')).setCell ⟨w1.heap.size, 2, none⟩ (.bool false)) v K w1.heap.size w2.heap.size ⟨x', y', false⟩ ⟨x', y', false⟩) := HS3.out.put ⟨x', y', false⟩
                go_upto_region 10 with fail
                obtain ⟨w4, hw4⟩ : ∃ w4, ((w3.setCell ⟨w1.heap.size, 0, none⟩ (.int .i64 x')).setCell ⟨w1.heap.size, 1, none⟩ (.int .i64 y')).setCell ⟨w1.heap.size, 2, none⟩ (.bool false) = w4 := ⟨_, rfl⟩
                rw [hw4] at HS4 ⊢
                clear hw4 HS3 c0 c1 c2 d0 d1 d2 f0 f1 f2
                obtain ⟨c0, c1, c2⟩ := HS4.out.one.cells
                simp only at c0 c1 c2
                have HS5 : Hid (MSt w (w4.alloc (.cells #[.int .i64 x', .int .i64 y', .bool false] 48)) v K) := HS4.out.row.alloc _
                have HN5 := hidden (MBox.new w4 ⟨x', y', false⟩).news
                have hm1 : (mc [⟨x', y', false⟩]).length = 1 * 3 := rfl
                go_wp2_with (at_builtin; refine wpList_append_own _ rfl _ _ 43 rfl w.heap.size 48 i0 _ 3 24 Tryd.underlying43 hii hz0 hz1 hz2 rfl (by decide) _ K.length (mc K) rfl HS5.out.2 ⟨w4.heap.size, 0, none⟩ 1 1 (mc [⟨x', y', false⟩]) rfl hm1 HN5.out (mc_cell _) ?b1 ?b2 ?b3 ?next)
                case b1 => unfold maxLen; omega
                case b2 => omega
                case b3 => have := HS5.out.1.size; simpa using this
                case next =>
                intro v1 w' hown hgrow _
                have HS6 : Hid (MSt w w' v1 (K ++ [⟨x', y', false⟩])) := HS5.out.more ⟨x', y', false⟩ hown hgrow
                clear hown hgrow
                go_wp2_with fail
                go_roundg (16 - (j + 1))
                case measure => omega
                case rel => exact ⟨j + 1, v1, by omega, rfl, by go_num, by rw [HAL.out]; exact HS6⟩
              | true =>
                have HAL : Hid (rmn A B (j + 1) = K ++ [⟨x, y', u⟩]) := by
                  rw [hal]; unfold Hid
                  simp [mg, ov]
                clear hal n3
                have H1 := hidden CA
                have H2 := hidden CB
                clear CA CB
                simp only [Option.getD_some, Option.isSome_some] at H1 H2
                go_wp2_with fail
                refine (H1.out _ HS.out.1).mono ?_
                rintro e w1 ⟨rfl, hb1⟩
                have HM1 : Hid (MSt w (w1.alloc (.cells #[.int .i64 x, .int .i64 y', .bool u] 48)) v K) := (HS.out.below hb1).alloc _
                have HX1 : Hid (MBox (w1.alloc (.cells #[.int .i64 x, .int .i64 y', .bool u] 48)) w1.heap.size ⟨x, y', u⟩) := MBox.new w1 ⟨x, y', u⟩
                have HF1 : Hid (v.ownBlock ≠ some w1.heap.size ∧ w.heap.size ≤ w1.heap.size) := ⟨fun e => by have := ((HS.out.below hb1).2.lt _ e).2; omega, (HS.out.below hb1).1.size⟩
                clear hb1 HS H1
                go_wp2_with fail
                refine (H2.out _ HM1.out.1).mono ?_
                rintro e w2 ⟨rfl, hb2⟩
                have HS2 : Hid (RSt w (w2.alloc (.cells #[.int .i64 x', .int .i64 y', .bool true] 48)) v K w1.heap.size w2.heap.size ⟨x, y', u⟩ ⟨x', y', true⟩) :=
                  ⟨(HM1.out.below hb2).alloc _, (HX1.out.below hb2 HX1.out.lt).alloc _, MBox.new w2 ⟨x', y', true⟩, HF1.out.1, HF1.out.2, by have := hb2.size; simp at this; omega⟩
                clear hb2 HM1 HX1 HF1 H2
                obtain ⟨w3, hw3⟩ : ∃ w3, w2.alloc (.cells #[.int .i64 x', .int .i64 y', .bool true] 48) = w3 := ⟨_, rfl⟩
                have HW3 := hidden hw3
                have HS3 : Hid (RSt w w3 v K w1.heap.size w2.heap.size ⟨x, y', u⟩ ⟨x', y', true⟩) := by rw [← hw3]; exact HS2
                clear hw3 HS2
                go_upto_region 7 with fail
                rw [HW3.out]
                clear HW3
                obtain ⟨b0, b1, b2⟩ := HS3.out.one.cells
                obtain ⟨d0, d1', d2⟩ := HS3.out.two.cells
                simp only at b0 b1 b2 d0 d1' d2
                obtain ⟨c0, c1, c2⟩ := HS3.out.one.cells
                simp only at c0 c1 c2
                have HS5 : Hid (MSt w (w3.alloc (.cells #[.int .i64 x, .int .i64 y', .bool u] 48)) v K) := HS3.out.row.alloc _
                have HN5 := hidden (MBox.new w3 ⟨x, y', u⟩).news
                have hm1 : (mc [⟨x, y', u⟩]).length = 1 * 3 := rfl
                go_wp2_with (at_builtin; refine wpList_append_own _ rfl _ _ 43 rfl w.heap.size 48 i0 _ 3 24 Tryd.underlying43 hii hz0 hz1 hz2 rfl (by decide) _ K.length (mc K) rfl HS5.out.2 ⟨w3.heap.size, 0, none⟩ 1 1 (mc [⟨x, y', u⟩]) rfl hm1 HN5.out (mc_cell _) ?b1 ?b2 ?b3 ?next)
                case b1 => unfold maxLen; omega
                case b2 => omega
                case b3 => have := HS5.out.1.size; simpa using this
                case next =>
                intro v1 w' hown hgrow _
                have HS6 : Hid (MSt w w' v1 (K ++ [⟨x, y', u⟩])) := HS5.out.more ⟨x, y', u⟩ hown hgrow
                clear hown hgrow
                go_wp2_with fail
                go_roundg (16 - (j + 1))
                case measure => omega
                case rel => exact ⟨j + 1, v1, by omega, rfl, by go_num, by rw [HAL.out]; exact HS6⟩
            · have d2 : (y' == y) = false := by simpa using h2
              have HAL : Hid (rmn A B (j + 1) = K ++ [⟨x, y, u⟩]) := by
                have e : ov ⟨x', y', u'⟩ ⟨x, y, u⟩ = false := by unfold ov; rw [if_neg (by simpa using h2)]; simp; omega
                rw [hal]; unfold Hid; simp [mg, e]
              clear hal n3
              have H1 := hidden CA
              have H2 := hidden CB
              clear CA CB
              simp only [Option.getD_some, Option.isSome_some] at H1 H2
              go_wp2_with fail
              refine (H1.out _ HS.out.1).mono ?_
              rintro e w1 ⟨rfl, hb1⟩
              have HM1 : Hid (MSt w (w1.alloc (.cells #[.int .i64 x, .int .i64 y, .bool u] 48)) v K) := (HS.out.below hb1).alloc _
              have HX1 : Hid (MBox (w1.alloc (.cells #[.int .i64 x, .int .i64 y, .bool u] 48)) w1.heap.size ⟨x, y, u⟩) := MBox.new w1 ⟨x, y, u⟩
              have HF1 : Hid (v.ownBlock ≠ some w1.heap.size ∧ w.heap.size ≤ w1.heap.size) := ⟨fun e => by have := ((HS.out.below hb1).2.lt _ e).2; omega, (HS.out.below hb1).1.size⟩
              clear hb1 HS H1
              go_wp2_with fail
              refine (H2.out _ HM1.out.1).mono ?_
              rintro e w2 ⟨rfl, hb2⟩
              have HS2 : Hid (RSt w (w2.alloc (.cells #[.int .i64 x', .int .i64 y', .bool u'] 48)) v K w1.heap.size w2.heap.size ⟨x, y, u⟩ ⟨x', y', u'⟩) :=
                ⟨(HM1.out.below hb2).alloc _, (HX1.out.below hb2 HX1.out.lt).alloc _, MBox.new w2 ⟨x', y', u'⟩, HF1.out.1, HF1.out.2, by have := hb2.size; simp at this; omega⟩
              clear hb2 HM1 HX1 HF1 H2
              obtain ⟨w3, hw3⟩ : ∃ w3, w2.alloc (.cells #[.int .i64 x', .int .i64 y', .bool u'] 48) = w3 := ⟨_, rfl⟩
              have HW3 := hidden hw3
              have HS3 : Hid (RSt w w3 v K w1.heap.size w2.heap.size ⟨x, y, u⟩ ⟨x', y', u'⟩) := by rw [← hw3]; exact HS2
              clear hw3 HS2
              go_upto_region 7 with fail
              rw [HW3.out]
              clear HW3
              obtain ⟨b0, b1, b2⟩ := HS3.out.one.cells
              obtain ⟨e0, e1, e2⟩ := HS3.out.two.cells
              simp only at b0 b1 b2 e0 e1 e2
              obtain ⟨c0, c1, c2⟩ := HS3.out.one.cells
              simp only at c0 c1 c2
              have HS5 : Hid (MSt w (w3.alloc (.cells #[.int .i64 x, .int .i64 y, .bool u] 48)) v K) := HS3.out.row.alloc _
              have HN5 := hidden (MBox.new w3 ⟨x, y, u⟩).news
              have hm1 : (mc [⟨x, y, u⟩]).length = 1 * 3 := rfl
              go_wp2_with (at_builtin; refine wpList_append_own _ rfl _ _ 43 rfl w.heap.size 48 i0 _ 3 24 Tryd.underlying43 hii hz0 hz1 hz2 rfl (by decide) _ K.length (mc K) rfl HS5.out.2 ⟨w3.heap.size, 0, none⟩ 1 1 (mc [⟨x, y, u⟩]) rfl hm1 HN5.out (mc_cell _) ?b1 ?b2 ?b3 ?next)
              case b1 => unfold maxLen; omega
              case b2 => omega
              case b3 => have := HS5.out.1.size; simpa using this
              case next =>
              intro v1 w' hown hgrow _
              have HS6 : Hid (MSt w w' v1 (K ++ [⟨x, y, u⟩])) := HS5.out.more ⟨x, y, u⟩ hown hgrow
              clear hown hgrow
              go_wp2_with fail
              go_roundg (16 - (j + 1))
              case measure => omega
              case rel => exact ⟨j + 1, v1, by omega, rfl, by go_num, by rw [HAL.out]; exact HS6⟩
    · have hjz : ¬ (j : Int) < 16 := by omega
      have ej : j = 16 := by omega
      subst ej
      have hs := HS.out
      rw [HR.out] at hs
      obtain ⟨a', c', rfl, hI, hnn, hkc, _⟩ := own_mbs hs.2 (by have := HRL.out; omega)
      have HI := hidden (And.intro hI (And.intro hkc (And.intro hnn hs.1)))
      clear hI hs HS hkc hnn
      go_wp2_with fail
      go_ret
      exact ⟨a', c', rfl, HI.out.1, HI.out.2.1, fun e => ⟨List.eq_nil_of_length_eq_zero (HI.out.2.2.1 e).1, (HI.out.2.2.1 e).2⟩, HI.out.2.2.2⟩
end Go.Proofs.YtlahlgoknolniafDoor.View
