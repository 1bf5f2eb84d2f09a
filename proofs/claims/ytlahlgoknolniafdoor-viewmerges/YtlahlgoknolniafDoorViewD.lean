/-
  What the functions put and Alive of package view do: a row of members that is the caller's own, with one more in its place; the nodes that are up.
-/
import Derived.Test.YtlahlgoknolniafDoorViewC
import Derived.Deep.RegionHeld3
import Derived.Deep.CutRange
namespace Go.Proofs.YtlahlgoknolniafDoor.View
open Go.ChangeShapes Go.WideShapes Go.ChangeAt Go.RowKit Go.Proofs.YtlahlgoknolniafDoor.Mem Go.Proofs.YtlahlgoknolniafDoor.VM
set_option linter.unusedVariables false

theorem mc_set : ∀ (L : List Mb) (P : Nat) (m : Mb), P < L.length → (((mc L).set (P * 3) (.int .i64 m.n)).set (P * 3 + 1) (.int .i64 m.v)).set (P * 3 + 2) (.bool m.u) = mc (L.set P m)
  | [], P, m, h => absurd h (by simp)
  | x :: L, 0, m, _ => rfl
  | x :: L, P + 1, m, h => by
    have ih := mc_set L P m (by simpa using h)
    rw [List.set_cons_succ, mc_cons, mc_cons, ← ih, show (P + 1) * 3 = P * 3 + 1 + 1 + 1 by omega]
    rfl
theorem set3 {w : World} {base n cap g P : Nat} {L : List Mb} (m : Mb) (ho : w.ownsRow base 48 3 (.slice (some ⟨g, 0, none⟩) n cap) n (mc L)) (hP : P < n) :
    (((w.setCell ⟨g, P * 3, none⟩ (.int .i64 m.n)).setCell ⟨g, P * 3 + 1, none⟩ (.int .i64 m.v)).setCell ⟨g, P * 3 + 2, none⟩ (.bool m.u)).ownsRow base 48 3 (.slice (some ⟨g, 0, none⟩) n cap) n (mc (L.set P m)) := by
  have hl := own_len ho
  refine ⟨by rw [mc_len, List.length_set, hl], ?_⟩
  rcases ho.2 with ⟨h, _⟩ | ⟨g', cap', cur, e, hg, hb, hc, hm, hs, ht⟩
  · simp at h
  · simp only [Value.slice.injEq, Option.some.injEq, Addr.mk.injEq, and_true, true_and] at e
    obtain ⟨rfl, rfl⟩ := e
    have h1 := heap_setCell_same w g (P * 3) cur 48 (.int .i64 m.n) hb
    have h2 := heap_setCell_same _ g (P * 3 + 1) _ 48 (.int .i64 m.v) h1
    have h3 := heap_setCell_same _ g (P * 3 + 2) _ 48 (.bool m.u) h2
    refine .inr ⟨g, cap, _, rfl, hg, h3, hc, hm, by simpa using hs, ?_⟩
    simp only [Array.toList_setIfInBounds, List.take_set, ht]
    exact mc_set L P m (by omega)
theorem set3_grown {w : World} {g : Nat} (i j k : Nat) (x y z : Value) : w.grownBy (((w.setCell ⟨g, i, none⟩ x).setCell ⟨g, j, none⟩ y).setCell ⟨g, k, none⟩ z) (some g) := by
  refine ⟨rfl, rfl, rfl, by simp [World.setCell], fun q _ hq => ?_⟩
  have hne : q ≠ g := fun e => hq (by rw [e])
  rw [Below.heap_setCell _ _ _ _ hne, Below.heap_setCell _ _ _ _ hne, Below.heap_setCell _ _ _ _ hne]
theorem below_grown {w w' : World} (h : Below w.heap.size w w') (row : Option Nat) : w.grownBy w' row := ⟨h.os, h.tape, h.output, h.size, fun k hk _ => h.block k hk⟩
theorem own_free {w : World} {base n cap g : Nat} {xs : List Value} (ho : w.ownsRow base 48 3 (.slice (some ⟨g, 0, none⟩) n cap) n xs) (j : Nat) : w.frozen? ⟨g, j, none⟩ = false := by
  rcases ho.2 with ⟨h, _⟩ | ⟨g', cap', cur, e, hg, hb, _⟩
  · simp at h
  · simp only [Value.slice.injEq, Option.some.injEq, Addr.mk.injEq, and_true, true_and] at e
    obtain ⟨rfl, rfl⟩ := e
    simp [World.frozen?, hb]

set_option maxHeartbeats 4000000 in
set_option maxRecDepth 100000 in
theorem put_calls (v : Value) (base n : Nat) (L : List Mb) (m : Mb) (w : World) (ho : w.ownsRow base 48 3 v n (mc L)) (hB : base ≤ w.heap.size) (hf : Fit L) (hm : okm m = true) :
    Calls Tryd.prog 29 #[v, mv m] w fun e w' => ∃ v', e = .returned v' ∧ w'.ownsRow base 48 3 v' (VM.put L m).length (mc (VM.put L m)) ∧ w.grownBy w' v.ownBlock := by
  have hl := own_len ho
  have hn := hf.len
  have hmo := okm_iff.1 hm
  obtain ⟨a, cap, rfl, hA, hnone, hncap, hga⟩ := own_mbs ho (by omega)
  have hX := MBox.new w m
  have hb0 : Below w.heap.size w (w.alloc (.cells #[.int .i64 m.n, .int .i64 m.v, .bool m.u] 48)) := below_alloc (Below.refl _ _) _
  have HC := hidden (find_calls a n cap L m.n _ (hA.below hb0) hf hmo.1 hmo.2.1)
  have HS0 : Hid (MBox (w.alloc (.cells #[.int .i64 m.n, .int .i64 m.v, .bool m.u] 48)) w.heap.size m ∧ Below w.heap.size w (w.alloc (.cells #[.int .i64 m.n, .int .i64 m.v, .bool m.u] 48))) := ⟨hX, hb0⟩
  have HO := hidden ho
  clear ho hA hX hb0
  cases hfd : fd L m.n with
  | true =>
    have hP : pl L m.n < n := by
      unfold fd at hfd
      simp only [Bool.and_eq_true, decide_eq_true_eq] at hfd
      omega
    rw [put_in hfd, List.length_set, hl]
    rw [hfd] at HC
    generalize pl L m.n = P at *
    cases a with
    | none => have := hnone rfl; omega
    | some ad =>
      obtain ⟨g, rfl, hbg, hgl⟩ := hga ad rfl
      obtain ⟨x, y, u⟩ := m
      unfold mv
      clear hfd hmo hm hf hnone hga
      go_enter Tryd.func29, Tryd.ntmps29
      go_wp2_with fail
      refine HC.out.mono ?_
      rintro e w1 ⟨rfl, hb1⟩
      have HX1 : Hid (MBox w1 w.heap.size ⟨x, y, u⟩) := HS0.out.1.below hb1 HS0.out.1.lt
      have HB1 : Hid (Below w.heap.size w w1) := HS0.out.2.trans (hb1.mono HS0.out.2.size)
      have HO1 : Hid (w1.ownsRow base 48 3 (.slice (some ⟨g, 0, none⟩) n cap) n (mc L)) := own_below HO.out HB1.out
      clear hb1 HC HS0 HO
      obtain ⟨c0, c1, c2⟩ := HX1.out.cells
      obtain ⟨d0, d1, d2⟩ : w1.cell? ⟨g, P * 3, none⟩ = _ ∧ w1.cell? ⟨g, P * 3 + 1, none⟩ = _ ∧ w1.cell? ⟨g, P * 3 + 2, none⟩ = _ := by
        have h := mc_get L P (by omega)
        exact ⟨(HO1.out.cellAt _ (by omega)).trans h.1, (HO1.out.cellAt _ (by omega)).trans h.2.1, (HO1.out.cellAt _ (by omega)).trans h.2.2⟩
      have f0 := own_free HO1.out (P * 3)
      have f1 := own_free HO1.out (P * 3 + 1)
      have f2 := own_free HO1.out (P * 3 + 2)
      have hPz : (P : Int) < (n : Int) := by omega
      simp only at c0 c1 c2
      go_wp2_with fail
      go_ret
      exact ⟨_, rfl, set3 ⟨x, y, u⟩ HO1.out hP, (below_grown HB1.out _).trans (set3_grown _ _ _ _ _ _)⟩
  | false =>
    have hP : pl L m.n ≤ n := by have := pl_le L m.n; omega
    have hlen : (VM.put L m).length = n + 1 := by
      rw [put_new hfd]
      simp only [List.length_append, List.length_cons, List.length_take, List.length_drop]
      omega
    rw [hlen, put_new hfd]
    rw [hfd] at HC
    generalize pl L m.n = P at *
    have HI := hidden (fun W vb ho hB hx hne => ins_calls (.slice a n cap) base n vb P L m W ho hB hx hne hP (by omega))
    obtain ⟨x, y, u⟩ := m
    unfold mv
    clear hfd hmo hm hf
    generalize L.take P ++ ⟨x, y, u⟩ :: L.drop P = K at *
    go_enter Tryd.func29, Tryd.ntmps29
    go_wp2_with fail
    refine HC.out.mono ?_
    rintro e w1 ⟨rfl, hb1⟩
    have HX1 : Hid (MBox w1 w.heap.size ⟨x, y, u⟩) := HS0.out.1.below hb1 HS0.out.1.lt
    have HB1 : Hid (Below w.heap.size w w1) := HS0.out.2.trans (hb1.mono HS0.out.2.size)
    have HO1 : Hid ((w1.alloc (.cells #[.int .i64 x, .int .i64 y, .bool u] 48)).ownsRow base 48 3 (.slice a n cap) n (mc L)) := (own_below HO.out HB1.out).alloc _
    have HN1 : Hid (MBox (w1.alloc (.cells #[.int .i64 x, .int .i64 y, .bool u] 48)) w1.heap.size ⟨x, y, u⟩) := MBox.new w1 ⟨x, y, u⟩
    have HG1 : Hid (w.grownBy (w1.alloc (.cells #[.int .i64 x, .int .i64 y, .bool u] 48)) (Value.slice a n cap).ownBlock) := below_grown (below_alloc HB1.out _) _
    have hne : (Value.slice a n cap).ownBlock ≠ some w1.heap.size := fun e => by have := ((own_below HO.out HB1.out).lt _ e).2; omega
    have HNE := hidden hne
    have HBB : Hid (base ≤ (w1.alloc (.cells #[.int .i64 x, .int .i64 y, .bool u] 48)).heap.size) := Nat.le_trans hB HG1.out.size
    clear hb1 HC HS0 HO hne
    obtain ⟨c0, c1, c2⟩ := HX1.out.cells
    simp only at c0 c1 c2
    go_wp2_with fail
    refine (HI.out _ _ HO1.out HBB.out HN1.out HNE.out).mono ?_
    rintro e w2 ⟨v2, rfl, ho2, hg2⟩
    have HQ : Hid (w2.ownsRow base 48 3 v2 (n + 1) (mc K) ∧ w.grownBy w2 (Value.slice a n cap).ownBlock) := ⟨ho2, HG1.out.trans hg2⟩
    clear ho2 hg2
    go_wp2_with fail
    go_ret
    exact ⟨v2, rfl, HQ.out.1, HQ.out.2⟩

theorem take_snoc {L : List Mb} {j : Nat} (h : j < L.length) : L.take (j + 1) = L.take j ++ [L.getD j zz] := by
  rw [List.getD_eq_getElem?_getD, List.getElem?_eq_getElem h, Option.getD_some, List.take_append_getElem h]
theorem lit1 (w : World) (x : Value) (T : TypeId) : ∀ j u, [x][j]? = some u → (w.alloc (.cells #[x] T)).cell? ((⟨w.heap.size, 0, none⟩ : Addr).add j) = some u := fun j u hu =>
  World.news_of_block (heap_alloc_new w (.cells #[x] T)) j u (by simpa using hu)
/-- under way: nothing that was there has changed, and a row of numbers of the call's own -/
def ISt (w wr : World) (v : Value) (K : List Int) : Prop := Below w.heap.size w wr ∧ wr.ownsRow w.heap.size 3 1 v K.length (ic K)
theorem ISt.alloc {w wr : World} {v : Value} {K : List Int} (h : ISt w wr v K) (O : Obj) : ISt w (wr.alloc O) v K := ⟨below_alloc h.1 O, h.2.alloc O⟩
theorem ISt.more {w wr w' : World} {v v' : Value} {K : List Int} (x : Int) (h : ISt w wr v K) (ho : w'.ownsRow w.heap.size 3 1 v' (K.length + 1) (ic K ++ [.int .i64 x])) (hg : wr.grownBy w' v.ownBlock) : ISt w w' v' (K ++ [x]) := by
  refine ⟨h.1.grown hg h.1.size (fun j hj => (h.2.lt j hj).1), ?_⟩
  rw [List.length_append, List.length_singleton, ic_app]
  exact ho

set_option maxHeartbeats 4000000 in
set_option maxRecDepth 100000 in
theorem alive_calls (a : Option Addr) (n cap : Nat) (L : List Mb) (w : World) (h : MArg w a n L) :
    Calls Tryd.prog 20 #[.slice a n cap] w fun e w' => ∃ a' k c', e = .returned (.tuple #[.slice a' k c', errv (vf L)]) ∧ IArg w' a' k (ald L) ∧ k ≤ c' ∧ Below w.heap.size w w' := by
  have hl := h.2.1
  have HA := hidden h
  have HK := hidden (check_calls a n cap L w h)
  clear h
  obtain ⟨i0, hii, hz0, hz1, hz2⟩ := info_parts info3
  by_cases hz : vf L = 0
  · have hn16 : n ≤ 16 := by have := (fit_iff.1 hz).len; omega
    have HE : Hid (ald L = alv (L.take n)) := by unfold Hid ald; rw [if_pos hz, ← hl, List.take_length]
    rw [hz] at HK ⊢
    generalize ald L = R at *
    clear hz
    rw [errv_zero] at HK ⊢
    go_enter Tryd.func20, Tryd.ntmps20
    go_wp2_with fail
    refine HK.out.mono ?_
    rintro e w1 ⟨rfl, hb1⟩
    have HS0 : Hid (ISt w w1 (.slice none 0 0) (alv (L.take 0))) := ⟨hb1, World.ownsRow_nil _ _ _ _⟩
    clear hb1 HK
    go_wp2_with fail
    go_loopg [5, 15] n (fun g x y wr => ∃ (j : Nat) (v : Value), j + g = n ∧ v = x ∧ y = .int .i64 (j : Int) ∧ Hid (ISt w wr v (alv (L.take j))))
    case atStart => exact ⟨0, _, by omega, rfl, rfl, HS0⟩
    case round =>
      obtain ⟨j, v, hjg, rfl, rfl, HS⟩ := hrel
      by_cases hj : j < n
      · have hjz : (j : Int) < (n : Int) := by omega
        obtain ⟨b, o, rfl, hbl, hcs⟩ := (HA.out.below HS.out.1).at (by omega)
        obtain ⟨c0, c1, c2⟩ := hcs j hj
        have ht := take_snoc (L := L) (j := j) (by omega)
        obtain ⟨m, hm⟩ : ∃ m, L.getD j zz = m := ⟨_, rfl⟩
        rw [hm] at c0 c1 c2 ht
        clear hm hcs
        obtain ⟨x, y, u⟩ := m
        simp only at c0 c1 c2
        have hal : alv (L.take (j + 1)) = alv (L.take j) ++ (if u then [x] else []) := by
          rw [ht, alv, alv, List.filter_append, List.map_append]
          cases u <;> rfl
        have hKl : (alv (L.take j)).length ≤ j := by
          unfold alv
          rw [List.length_map]
          have h1 := List.length_filter_le (·.u) (L.take j)
          rw [List.length_take] at h1
          omega
        clear ht
        generalize alv (L.take j) = K at *
        cases u with
        | false =>
          have HAL : Hid (alv (L.take (j + 1)) = K) := by rw [hal]; unfold Hid; simp
          clear hal
          have HS1 : Hid (∀ O, ISt w (wr.alloc O) v K) := fun O => HS.out.alloc O
          go_wp2_with fail
          go_roundg (n - (j + 1))
          case measure => omega
          case rel => exact ⟨j + 1, v, by omega, rfl, by go_num, by rw [HAL.out]; exact HS1.out _⟩
        | true =>
          have HAL : Hid (alv (L.take (j + 1)) = K ++ [x]) := by rw [hal]; unfold Hid; simp
          clear hal
          have HS1 : Hid (ISt w ((wr.alloc (.cells #[.int .i64 x, .int .i64 y, .bool true] 48)).alloc (.cells #[.int .i64 x] 3)) v K) := (HS.out.alloc _).alloc _
          have HN1 := hidden (lit1 (wr.alloc (.cells #[.int .i64 x, .int .i64 y, .bool true] 48)) (.int .i64 x) 3)
          rw [show (wr.alloc (.cells #[.int .i64 x, .int .i64 y, .bool true] 48)).heap.size = wr.heap.size + 1 by simp] at HN1
          go_wp2_with (at_builtin; refine wpList_append_own _ rfl _ _ 54 rfl w.heap.size 3 i0 _ 1 8 Tryd.underlying54 hii hz0 hz1 hz2 rfl (by decide) _ K.length (ic K) rfl HS1.out.2 ⟨wr.heap.size + 1, 0, none⟩ 1 1 [.int .i64 x] rfl rfl HN1.out ?one ?b1 ?b2 ?b3 ?next)
          case one => simp [Value.oneCell']
          case b1 => unfold maxLen; omega
          case b2 => omega
          case b3 => exact HS1.out.1.size
          case next =>
          intro v1 w' hown hgrow _
          have HS2 : Hid (ISt w w' v1 (K ++ [x])) := HS1.out.more x hown hgrow
          clear hown hgrow
          go_wp2_with fail
          go_roundg (n - (j + 1))
          case measure => omega
          case rel => exact ⟨j + 1, v1, by omega, rfl, by go_num, by rw [HAL.out]; exact HS2⟩
      · have hjz : ¬ (j : Int) < (n : Int) := by omega
        have ej : j = n := by omega
        subst ej
        have hs := HS.out
        rw [← HE.out] at hs
        have hR : R.length ≤ 9223372036854775807 := by
          rw [HE.out]; unfold alv
          rw [List.length_map]
          have h1 := List.length_filter_le (·.u) (L.take j)
          rw [List.length_take] at h1
          omega
        obtain ⟨a', c', rfl, hI, _, hkc, _⟩ := own_ints hs.2 hR
        have HI := hidden (And.intro hI (And.intro hkc hs.1))
        clear hI hs hR HS hkc
        go_wp2_with fail
        go_ret2
        exact ⟨a', _, c', rfl, HI.out.1, HI.out.2.1, HI.out.2.2⟩
  · have hE : ald L = [] := by unfold ald; rw [if_neg hz]
    rw [hE]
    generalize vf L = f at *
    have hcmp := cmp_ne f
    have hgrd := grd_ne f
    have d : decide (f = 0) = false := by simpa using hz
    rw [d] at hcmp
    generalize errv f = ev at *
    go_enter Tryd.func20, Tryd.ntmps20
    go_wp2_with fail
    refine HK.out.mono ?_
    rintro e w1 ⟨rfl, hb1⟩
    have HB1 := hidden hb1
    clear hb1 HK
    go_wp2_with fail
    go_ret2
    exact ⟨none, 0, 0, rfl, IArg.nil _ _, Nat.le_refl _, HB1.out⟩
end Go.Proofs.YtlahlgoknolniafDoor.View
