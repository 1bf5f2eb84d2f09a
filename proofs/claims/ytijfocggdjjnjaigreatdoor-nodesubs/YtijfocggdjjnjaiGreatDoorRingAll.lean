/-
  RingB, RingC, RingD, RingE, RingF, RingLow in one text.
-/
import Derived.Test.YtijfocggdjjnjaiGreatDoorRingA
/-
  What rise and Get of package ring return, and what they leave in memory. Their condition: the ring keeps packets that a ring may keep.
-/
namespace Go.Proofs.YtijfocggdjjnjaiGreatDoor.Ring
open Go.ChangeShapes Go.WideShapes Go.ChangeAt Go.RowKit Go.Maps Go.Proofs.YtijfocggdjjnjaiGreatDoor.PM Go.Proofs.YtijfocggdjjnjaiGreatDoor.Mem Go.Proofs.YtijfocggdjjnjaiGreatDoor.Pack Go.Proofs.YtijfocggdjjnjaiGreatDoor.RM
set_option linter.unusedVariables false

theorem look_has {w : World} {b mb : Nat} {n T : Int} {M : Its} (h : RingAt w b mb n T M) {i : Int × Pk} (hi : i ∈ M) (hw : (Lit.int .i64 i.1).wf = true) :
    ∃ a m c, (Instr.lookup 160 (.map (some mb)) (.int .i64 i.1) true).run Tryz.prog w = .ok (.tuple #[.agg #[.int .i64 i.2.s, .int .i64 i.2.t, .int .i64 i.2.l, .int .i64 i.2.q, .bool i.2.st, .slice a m c], .bool true]) w ∧
      w.ownsRow 0 5 1 (.slice a m c) m (cellsOf i.2.L) ∧ (∀ x ∈ i.2.L, x < 256) ∧ m ≤ 1000 := by
  obtain ⟨_, D, hown, hK, hE⟩ := h
  obtain ⟨v, hv, a, m, c, rfl, h1, h2, h3⟩ := hE i hi
  obtain ⟨v', ps, hrun, hr⟩ := hown.look_ok law3 Tryz.underlying160 (zeroPK w) (pkR_mk 0 0 0 0 false none 0 0) (keyOf3 hw)
  rw [hv] at hr
  have e := (pkR_inv hr).2
  simp only [Prod.mk.injEq, DataW.held.injEq] at e
  rw [(hK (key i.1)).2 ⟨i, hi, rfl⟩, ← e.1] at hrun
  exact ⟨a, m, c, hrun, h1, h2, h3⟩
theorem look_none {w : World} {b mb : Nat} {n T y : Int} {M : Its} (h : RingAt w b mb n T M) (hn : has M y = false) (hw : (Lit.int .i64 y).wf = true) :
    (Instr.lookup 160 (.map (some mb)) (.int .i64 y) true).run Tryz.prog w = .ok (.tuple #[.agg #[.int .i64 0, .int .i64 0, .int .i64 0, .int .i64 0, .bool false, .slice none 0 0], .bool false]) w := by
  obtain ⟨_, D, hown, hK, hE⟩ := h
  obtain ⟨v', ps, hrun, hr⟩ := hown.look_ok law3 Tryz.underlying160 (zeroPK w) (pkR_mk 0 0 0 0 false none 0 0) (keyOf3 hw)
  have hh : Maps.has D (key y) = false := by rw [hK.at]; exact hn
  rw [atKey_of_not_has hh] at hr
  have e := (pkR_inv hr).2
  simp only [Prod.mk.injEq, DataW.held.injEq] at e
  rw [hh, ← e.1] at hrun
  exact hrun

/-- under way: what is gone goes -/
def RSt (w wr : World) (b mb it : Nat) (n y : Int) (M : Its) (D : DataW Value) (left : Lit → Bool) (cnt : Nat) : Prop :=
  wr.ranges Tryz.prog 3 pkR mb it M.length D left cnt ∧ Keys D (cur M (fun x => decide (y - n < x)) left) ∧ Elems wr D (cur M (fun x => decide (y - n < x)) left) ∧
    wr.heap[b]? = some (.cells #[.int .i64 n, .int .i64 y, .map (some mb)] 162 (0, 0)) ∧ Only [b, mb] w wr ∧ w.heap.size ≤ it ∧ b < w.heap.size ∧ mb < w.heap.size ∧ b ≠ mb

theorem cells3 {w : World} {b : Nat} {x y z : Value} {t : TypeId} (h : w.heap[b]? = some (.cells #[x, y, z] t (0, 0))) :
    w.cell? ⟨b, 0, none⟩ = some x ∧ w.cell? ⟨b, 1, none⟩ = some y ∧ w.cell? ⟨b, 2, none⟩ = some z := by
  refine ⟨?_, ?_, ?_⟩ <;> simp [World.cell?, h]
theorem set3 {w : World} {b : Nat} {cs : Array Value} {t : TypeId} (h : w.heap[b]? = some (.cells cs t (0, 0))) (j : Nat) (u : Value) :
    (w.setCell ⟨b, j, none⟩ u).heap[b]? = some (.cells (cs.setIfInBounds j u) t (0, 0)) := by
  exact heap_setCell_same w b j cs t u h

theorem iter_block {P : Program} {k : TypeId} {R : Value → Option (DataW Value × List MemPlace)} {w : World} {b r n cnt : Nat} {D : DataW Value} {left : Lit → Bool} (h : w.ranges P k R b r n D left cnt) : ∀ cs t fr, w.heap[r]? ≠ some (.cells cs t fr) := by
  obtain ⟨es, clock, since, seen, c0, _, _, _, _, hr, _⟩ := h
  intro cs t fr e
  rw [hr] at e
  simp at e
/-- what lies behind a is of no account -/
theorem past {bs cs : List Nat} {a b c : World} (h : Only bs a b) (k : Only cs b c) (hc : ∀ j ∈ cs, j ∈ bs ∨ a.heap.size ≤ j) : Only bs a c :=
  ⟨k.1.trans h.1, k.2.1.trans h.2.1, k.2.2.1.trans h.2.2.1, Nat.le_trans h.2.2.2.1 k.2.2.2.1, fun i hi hb => (k.2.2.2.2 i (Nat.lt_of_lt_of_le hi h.2.2.2.1) (fun hh => by
    rcases hc i hh with h1 | h1
    · exact hb h1
    · omega)).trans (h.2.2.2.2 i hi hb)⟩
theorem rst_stays {w wr w1 : World} {b mb it cnt cnt1 : Nat} {n y x : Int} {M : Its} {D : DataW Value} {left : Lit → Bool} (h : RSt w wr b mb it n y M D left cnt) (hx : ¬ n ≤ y - x) (hg : wr.grownBy w1 (some it))
    (hr : w1.ranges Tryz.prog 3 pkR mb it M.length D (fun z => left z && !z.sameKey (key x)) cnt1) : RSt w w1 b mb it n y M D (fun z => left z && !z.sameKey (key x)) cnt1 := by
  obtain ⟨g1, g2, g3, g4, g5, g6, g7, g8, g9⟩ := h
  have ho : Only [it] wr w1 := (Only.refl _ _).grown hg (by simp)
  have e := cur_stays (M := M) (kp := fun x => decide (y - n < x)) (left := left) (x := x) (by simp; omega)
  refine ⟨hr, by rw [e]; exact g2, by rw [e]; exact g3.only ho (fun k hk cs fr => by simp at hk; subst hk; exact iter_block g1 cs 5 fr), ho.block g4 (by simp; omega), past g5 ho (fun j hj => ?_), g6, g7, g8, g9⟩
  simp at hj
  subst hj
  exact .inr g6
theorem rst_gone {w wr w1 w2 : World} {b mb it cnt cnt1 : Nat} {n y x : Int} {M : Its} {D : DataW Value} {left : Lit → Bool} (h : RSt w wr b mb it n y M D left cnt) (hx : n ≤ y - x) (hg : wr.grownBy w1 (some it)) (ht : w1.mapTurned w2 mb)
    (hr : w2.ranges Tryz.prog 3 pkR mb it M.length (D.del (key x)) (fun z => left z && !z.sameKey (key x)) cnt1) : RSt w w2 b mb it n y M (D.del (key x)) (fun z => left z && !z.sameKey (key x)) cnt1 := by
  obtain ⟨g1, g2, g3, g4, g5, g6, g7, g8, g9⟩ := h
  have ho : Only [it, mb] wr w2 := ((Only.refl _ _).grown hg (by simp)).grown ht.grown (by simp)
  obtain ⟨es, c, hm⟩ := map_block g1.owns
  have hk : (fun x => decide (y - n < x)) x = false := by simp; omega
  refine ⟨hr, keys_struck hk g2, elems_struck hk (g3.only ho (fun k hk cs fr => ?_)), ho.block g4 (by simp; omega), past g5 ho (fun j hj => ?_), g6, g7, g8, g9⟩
  · simp at hk
    rcases hk with rfl | rfl
    · exact iter_block g1 cs 5 fr
    · rw [hm]; simp
  · simp at hj
    rcases hj with rfl | rfl
    · exact .inr g6
    · exact .inl (by simp)

set_option maxHeartbeats 1000000 in
set_option maxRecDepth 100000 in
theorem rise_calls (b mb : Nat) (n T y : Int) (M : Its) (w : World) (h : RingAt w b mb n T M) (hI : RM.Inv n T M) (hy : T < y) (hy1 : y ≤ 1099511627776) :
    Calls Tryz.prog 96 #[.pointer (some ⟨b, 0, none⟩), .int .i64 y] w fun e w' => e = .returned (.tuple #[]) ∧ RingAt w' b mb n y (keeps n y M) ∧ Only [b, mb] w w' := by
  obtain ⟨c0, c1, c2⟩ := h.cells
  have f1 := h.free 1
  have hne := h.ne
  have hlt := h.lt
  have hnob := h.nob
  obtain ⟨hB, D, hown, hK, hE⟩ := h
  have HO := hidden (hown.setCell (a := ⟨b, 1, none⟩) (fun e => hne e.symm) (.int .i64 y))
  have HB := hidden hB
  have HK := hidden hK
  have HE := hidden hE
  have HI := hidden hI
  have HNB := hidden hnob
  have hn64 := hI.n2
  have hn1 := hI.n1
  have ht1 := hI.t1
  clear hB hown hK hE hI hnob
  go_enter Tryz.func96, Tryz.ntmps96
  go_wp2_with (at_range; refine wpList_range_own _ rfl _ 160 rfl 3 31 law3 Tryz.underlying160 _ mb M.length D rfl HO.out ?_; intro w0 hrg0 hg0 hs0)
  go_frame
  have hs : (w.setCell ⟨b, 1, none⟩ (.int .i64 y)).heap.size = w.heap.size := by simp [World.setCell]
  have HS0 : Hid (RSt w w0 b mb (w.setCell ⟨b, 1, none⟩ (.int .i64 y)).heap.size n y M D (Maps.has D) (Maps.size D)) := by
    have ho : Only [b, mb] w w0 := ((Only.refl [b, mb] w).setCell (p := ⟨b, 1, none⟩) (by simp) (.int .i64 y)).grown hg0 (by simp)
    refine ⟨hrg0, ?_, ?_, ?_, ho, by rw [hs]; exact Nat.le_refl _, hlt.1, hlt.2, hne⟩
    · rw [cur_start HK.out]; exact HK.out
    · rw [cur_start HK.out]; exact HE.out.only ho HNB.out
    · exact (hg0.block b (by rw [hs]; exact hlt.1) (by simp)).trans (set3 HB.out 1 _)
  generalize (w.setCell ⟨b, 1, none⟩ (.int .i64 y)).heap.size = it at *
  clear hrg0 hg0 hs0 hs HO HE HB c0 c1 c2 f1
  go_loopw [4] (fun _ wr => ∃ (Dc : DataW Value) (left : Lit → Bool) (cnt : Nat), Hid (RSt w wr b mb it n y M Dc left cnt)) (fun _ wr => wr.rangeLeft mb it)
  case atStart => exact ⟨_, _, _, HS0⟩
  case round =>
    obtain ⟨Dc, left, cnt, HS⟩ := hrel
    clear HS0
    go_wp2_with (at_next; refine wpList_next_ranges _ rfl _ rfl 3 law3 pkR (Value.int .i64) (fun v : Value => v) (fun key kl hkey => by obtain ⟨x, rfl, _⟩ := Maps.keyOf_int_inv Tryz.underlying3 hkey; exact ⟨x, rfl⟩) (fun v y hv => ⟨v, rfl⟩) mb it M.length Dc left cnt rfl HS.out.1 ?_ ?_)
    · intro _ hl0
      go_wp2_with fail
      go_end0
      obtain ⟨g1, g2, g3, g4, g5, _⟩ := HS.out
      rw [cur_end hl0] at g2 g3
      have ht := RM.tight g1.owns
      rw [g2.size (g1.owns.entries law3) (HI.out.one.filter _)] at ht
      exact ⟨rfl, ⟨g4, Dc, ht, g2, g3⟩, g5⟩
    · intro x v kl yd yp w1 cnt1 hkey hlk hv hat hrg1 hlt1 hg1 hs1 hen
      obtain ⟨x', ex, rfl, hwx⟩ := Maps.keyOf_int_inv Tryz.underlying3 hkey
      cases ex
      obtain ⟨i, hi, ei⟩ := (HS.out.2.1 (key x)).1 (has_true_of_atKey hat)
      have hxi : i.1 = x := (key_inj ei).symm
      have hxb := HI.out.mem i (List.mem_filter.1 hi).1
      rw [hxi] at hxb
      have hbit : b ≠ it := by have := HS.out.2.2.2.2.2; omega
      have hB1 : w1.heap[b]? = some (.cells #[.int .i64 n, .int .i64 y, .map (some mb)] 162 (0, 0)) := (hg1.block b (by have := HS.out.2.2.2.2.1.2.2.2.1; omega) (by simp; exact hbit)).trans HS.out.2.2.2.1
      obtain ⟨c0, c1, c2⟩ := cells3 hB1
      have HB1 := hidden hB1
      have HR1 := hidden hrg1
      have HG1 := hidden hg1
      clear hB1 hrg1 hg1 hi ei
      by_cases hg : n ≤ y - x
      · have d : decide (n ≤ y - x) = true := by simpa using hg
        go_wp2_with fail
        refine (isGone_calls b n y x _ (by exact c0) (by exact c1) (by omega) hy1 (by omega) (by omega)).mono ?_
        rintro e w2 ⟨rfl, k, rfl⟩
        have HR2 : Hid ((w1.drewN k).ranges Tryz.prog 3 pkR mb it M.length Dc (fun z => left z && !z.sameKey (key x)) cnt1) := HR1.out
        have HG2 : Hid (wr.grownBy (w1.drewN k) (some it)) := hidden ⟨HG1.out.os, HG1.out.tape, HG1.out.output, HG1.out.size, HG1.out.block⟩
        go_wp2_with (at_delete; refine wpList_delete_ranges _ rfl _ _ 160 3 rfl 31 law3 Tryz.underlying160 _ mb it M.length Dc _ cnt1 rfl HR2.out _ _ rfl (keyOf3 hwx) ?_; intro w3 cnt2 hrg2 hle hturn; go_frame)
        rw [strike_twice] at hrg2
        go_roundw
        case rel => exact ⟨_, _, cnt2, rst_gone HS.out hg HG2.out hturn hrg2⟩
        case measure => rw [hrg2.left_eq, HS.out.1.left_eq]; omega
      · have d : decide (n ≤ y - x) = false := by simpa using hg
        go_wp2_with fail
        refine (isGone_calls b n y x _ (by exact c0) (by exact c1) (by omega) hy1 (by omega) (by omega)).mono ?_
        rintro e w2 ⟨rfl, k, rfl⟩
        have HR2 : Hid ((w1.drewN k).ranges Tryz.prog 3 pkR mb it M.length Dc (fun z => left z && !z.sameKey (key x)) cnt1) := HR1.out
        have HG2 : Hid (wr.grownBy (w1.drewN k) (some it)) := hidden ⟨HG1.out.os, HG1.out.tape, HG1.out.output, HG1.out.size, HG1.out.block⟩
        go_wp2_with fail
        go_roundw
        case rel => exact ⟨_, _, cnt1, rst_stays HS.out (by omega) HG2.out HR2.out⟩
        case measure => rw [HR2.out.left_eq, HS.out.1.left_eq]; omega
end Go.Proofs.YtijfocggdjjnjaiGreatDoor.Ring

/-
  What Get of package ring returns. It changes nothing that was there. Its condition: the ring keeps packets that a ring may keep.
-/
namespace Go.Proofs.YtijfocggdjjnjaiGreatDoor.Ring
open Go.ChangeShapes Go.WideShapes Go.ChangeAt Go.RowKit Go.Maps Go.Proofs.YtijfocggdjjnjaiGreatDoor.PM Go.Proofs.YtijfocggdjjnjaiGreatDoor.Mem Go.Proofs.YtijfocggdjjnjaiGreatDoor.Pack Go.Proofs.YtijfocggdjjnjaiGreatDoor.RM
set_option linter.unusedVariables false

set_option maxHeartbeats 1000000 in
set_option maxRecDepth 100000 in
theorem get_none (b mb : Nat) (n T y : Int) (M : Its) (w : World) (h : RingAt w b mb n T M) (hn : has M y = false) (hw : (Lit.int .i64 y).wf = true) :
    Calls Tryz.prog 92 #[.pointer (some ⟨b, 0, none⟩), .int .i64 y] w fun e w' => e = .returned (.tuple #[.agg #[.int .i64 0, .int .i64 0, .int .i64 0, .int .i64 0, .bool false, .slice none 0 0], errv 5]) ∧ Below w.heap.size w w' := by
  have hR : ∀ O, RingAt (w.alloc O) b mb n T M := fun O => h.below ((Below.refl _ _).alloc (Nat.le_refl _) O)
  have hl := fun O => look_none (hR O) hn hw
  have cc := fun O => (hR O).cells
  obtain ⟨c0, c1, c2⟩ := cc (.cells #[.int .i64 0, .int .i64 0, .int .i64 0, .int .i64 0, .bool false, .slice none 0 0] 31)
  clear cc hR h hn
  go_enter Tryz.func92, Tryz.ntmps92
  go_wp2_with fail
  refine bodyPost_ret (res_pk (g := w.heap.size) rfl rfl ((Box.new w 0 0 0 0 false (.slice none 0 0)).alloc _)) rfl ?_
  exact ⟨rfl, ((Below.refl _ _).alloc (Nat.le_refl _) _).alloc (by simp) _⟩

set_option maxHeartbeats 1000000 in
set_option maxRecDepth 100000 in
theorem get_has (b mb : Nat) (n T : Int) (M : Its) (w : World) (h : RingAt w b mb n T M) (i : Int × Pk) (hi : i ∈ M) (hw : (Lit.int .i64 i.1).wf = true) :
    Calls Tryz.prog 92 #[.pointer (some ⟨b, 0, none⟩), .int .i64 i.1] w fun e w' => ∃ a m c, e = .returned (.tuple #[.agg #[.int .i64 i.2.s, .int .i64 i.2.t, .int .i64 i.2.l, .int .i64 i.2.q, .bool i.2.st, .slice a m c], .nilIface]) ∧ Arg w' a m i.2.L ∧ Below w.heap.size w w' := by
  have hR : RingAt (w.alloc (.cells #[.int .i64 0, .int .i64 0, .int .i64 0, .int .i64 0, .bool false, .slice none 0 0] 31)) b mb n T M := h.below ((Below.refl _ _).alloc (Nat.le_refl _) _)
  obtain ⟨a, m, c, hl, ho, hb, hm⟩ := look_has hR hi hw
  obtain ⟨c0, c1, c2⟩ := hR.cells
  have HO := hidden ho
  have HL := hidden hb
  clear hR h hi ho hb
  generalize i.2.s = s at *
  generalize i.2.t = t at *
  generalize i.2.l = l at *
  generalize i.2.q = q at *
  generalize i.2.st = st at *
  generalize i.2.L = L at *
  generalize i.1 = y at *
  clear i
  go_enter Tryz.func92, Tryz.ntmps92
  go_wp2_with fail
  obtain ⟨a0, k0, e0, hA, hN, _, _⟩ := own_slice (L := L) (HO.out.alloc (.cells #[.int .i64 s, .int .i64 t, .int .i64 l, .int .i64 q, .bool st, .slice a m c] 31)) HL.out (by omega)
  cases e0
  refine (apart_calls s t l q st a m c L _ hA hN hm).mono ?_
  rintro e w1 ⟨a', c', rfl, hown, hb1⟩
  have hy : w1.heap[w.heap.size]? = some (.cells #[.int .i64 0, .int .i64 0, .int .i64 0, .int .i64 0, .bool false, .slice none 0 0] 31 (0, 0)) :=
    (hb1.block _ (by simp; omega)).trans (((Box.new w 0 0 0 0 false (.slice none 0 0)).alloc _))
  have HY := hidden hy
  have HO1 := hidden hown
  have HB1 : Hid (Below w.heap.size w w1) := (((Below.refl _ _).alloc (Nat.le_refl _) _).alloc (by simp) _).trans (hb1.mono (by simp; omega))
  clear hy hown hb1 hA hN HO hl c0 c1 c2
  obtain ⟨⟨d0, d1, d2, d3, d4, d5⟩, g0, g1, g2, g3, g4, g5⟩ := open6 HY.out
  go_wp2_with fail
  have ho : Only [w.heap.size] w1 _ := only6 (g := w.heap.size) (Only.refl _ w1) (by simp) (.int .i64 s) (.int .i64 t) (.int .i64 l) (.int .i64 q) (.bool st) (.slice a' m c')
  refine bodyPost_ret (res_pk (g := w.heap.size) rfl rfl (box6 HY.out s t l q st _)) rfl ?_
  refine ⟨a', m, c', rfl, ?_, HB1.out.trans (ho.below HB1.out.size (by simp))⟩
  obtain ⟨a2, k2, e2, hA2, _⟩ := own_slice (L := L) (ho.owns HO1.out (fun k hk hc => by
    simp at hc
    subst hc
    rcases HO1.out.2 with ⟨hn, _⟩ | ⟨g, cap, cur, e, _, hgg, _⟩
    · rw [hn] at hk; simp [Value.ownBlock] at hk
    · rw [e] at hk
      simp [Value.ownBlock] at hk
      subst hk
      rw [HY.out] at hgg
      simp at hgg)) HL.out (by omega)
  cases e2
  exact hA2
end Go.Proofs.YtijfocggdjjnjaiGreatDoor.Ring

/-
  What Put of package ring returns, and what it leaves in memory. Its condition: the ring keeps packets that a ring may keep.
-/
namespace Go.Proofs.YtijfocggdjjnjaiGreatDoor.Ring
open Go.ChangeShapes Go.WideShapes Go.ChangeAt Go.RowKit Go.Maps Go.Proofs.YtijfocggdjjnjaiGreatDoor.PM Go.Proofs.YtijfocggdjjnjaiGreatDoor.Mem Go.Proofs.YtijfocggdjjnjaiGreatDoor.Pack Go.Proofs.YtijfocggdjjnjaiGreatDoor.RM
set_option linter.unusedVariables false

theorem cell_ring {w : World} {b mb : Nat} {n T : Int} {M : Its} (h : RingAt w b mb n T M) {g o : Nat} {c : Int} (hc : w.cell? ⟨g, o, none⟩ = some (.int .u8 c)) : g ∉ [b, mb] := by
  obtain ⟨h1, D, h2, _⟩ := h
  obtain ⟨es, cl, h3⟩ := map_block h2
  intro hg
  simp only [List.mem_cons, List.not_mem_nil, or_false] at hg
  rcases hg with rfl | rfl
  · simp only [World.cell?, h1] at hc
    match o, hc with
    | 0, hc => simp at hc
    | 1, hc => simp at hc
    | 2, hc => simp at hc
    | o + 3, hc => simp at hc
  · simp [World.cell?, h3] at hc
/-- bytes that came in stay as they are -/
theorem arg_ring {w W : World} {b mb : Nat} {n T : Int} {M : Its} (h : RingAt w b mb n T M) {a : Option Addr} {m : Nat} {L : List Nat} (hA : Arg w a m L) (ho : Only [b, mb] w W) : Arg W a m L := by
  refine ⟨⟨hA.1.1, fun j hj => ?_⟩, hA.2⟩
  obtain ⟨g, o, e, hc⟩ := hA.1.2 j hj
  refine ⟨g, o, e, ?_⟩
  have hk := cell_ring h hc
  have hlt := World.block_lt_of_cell? w ⟨g, o + j, none⟩ hc
  have := ho.2.2.2.2 g hlt hk
  simp only [World.cell?] at hc ⊢
  rw [this]
  exact hc

theorem put_long (b : Nat) (y s t l q : Int) (st : Bool) (bv : Value) (w : World) (h : y < 0 ∨ 1099511627776 < y) :
    Calls Tryz.prog 68 #[.pointer (some ⟨b, 0, none⟩), .int .i64 y, .agg #[.int .i64 s, .int .i64 t, .int .i64 l, .int .i64 q, .bool st, bv]] w fun e w' => e = .returned (.tuple #[.bool false, errv 1]) ∧ Below w.heap.size w w' := by
  by_cases c : y < 0
  · clear h
    go_enter Tryz.func68, Tryz.ntmps68
    go_wp2_with fail
    go_ret2
    exact ⟨rfl, (Below.refl _ _).alloc (Nat.le_refl _) _⟩
  · have c' : 1099511627776 < y := by omega
    clear h
    go_enter Tryz.func68, Tryz.ntmps68
    go_wp2_with fail
    go_ret2
    exact ⟨rfl, (Below.refl _ _).alloc (Nat.le_refl _) _⟩

set_option maxHeartbeats 1000000 in
set_option maxRecDepth 100000 in
theorem put_bad (b : Nat) (y s t l q : Int) (st : Bool) (a : Option Addr) (m cap : Nat) (w : World) (h0 : 0 ≤ y) (h1 : y ≤ 1099511627776) (hf : fault s t l q m ≠ 0) :
    Calls Tryz.prog 68 #[.pointer (some ⟨b, 0, none⟩), .int .i64 y, .agg #[.int .i64 s, .int .i64 t, .int .i64 l, .int .i64 q, .bool st, .slice a m cap]] w fun e w' => e = .returned (.tuple #[.bool false, errv (fault s t l q m)]) ∧ Below w.heap.size w w' := by
  have HC := hidden (fun w => check_calls s t l q st a m cap w)
  generalize fault s t l q m = f at *
  have hc := cmp_ne f
  have hg := grd_ne f
  have d : decide (f = 0) = false := by simpa using hf
  clear hf
  go_enter Tryz.func68, Tryz.ntmps68
  go_wp2_with fail
  refine (HC.out _).mono ?_
  rintro e w1 ⟨rfl, hb1⟩
  have HB := hidden (below_old hb1)
  clear hb1
  go_wp2_with fail
  go_ret2
  exact ⟨rfl, HB.out⟩

set_option maxHeartbeats 1000000 in
set_option maxRecDepth 100000 in
theorem put_gone (b mb : Nat) (n T y s t l q : Int) (st : Bool) (a : Option Addr) (m cap : Nat) (M : Its) (w : World) (hR : RingAt w b mb n T M) (hI : RM.Inv n T M) (h0 : 0 ≤ y) (h1 : y ≤ 1099511627776) (hf : fault s t l q m = 0) (ho : y ≤ T - n) :
    Calls Tryz.prog 68 #[.pointer (some ⟨b, 0, none⟩), .int .i64 y, .agg #[.int .i64 s, .int .i64 t, .int .i64 l, .int .i64 q, .bool st, .slice a m cap]] w fun e w' => e = .returned (.tuple #[.bool false, errv 6]) ∧ Below w.heap.size w w' := by
  have C := fun w => check_calls s t l q st a m cap w
  rw [hf, errv_zero] at C
  have HC := hidden C
  have HR := hidden hR
  have ht1 := hI.t1
  have ht2 := hI.t2
  have d : decide (n ≤ T - y) = true := by simp; omega
  clear C hR hI hf ho
  go_enter Tryz.func68, Tryz.ntmps68
  go_wp2_with fail
  refine (HC.out _).mono ?_
  rintro e w1 ⟨rfl, hb1⟩
  have HB := hidden (below_old hb1)
  clear hb1
  obtain ⟨c0, c1, c2⟩ := (HR.out.below HB.out).cells
  go_wp2_with fail
  refine (isGone_calls b n T y _ (by exact c0) (by exact c1) ht1 ht2 h0 h1).mono ?_
  rintro e w2 ⟨rfl, k, rfl⟩
  rw [d]
  go_wp2_with fail
  go_ret2
  exact ⟨rfl, below_drewN HB.out k⟩

set_option maxHeartbeats 1000000 in
set_option maxRecDepth 100000 in
theorem put_has (b mb : Nat) (n T s t l q : Int) (st : Bool) (a : Option Addr) (m cap : Nat) (M : Its) (w : World) (hR : RingAt w b mb n T M) (hI : RM.Inv n T M) (i : Int × Pk) (hi : i ∈ M) (hf : fault s t l q m = 0) :
    Calls Tryz.prog 68 #[.pointer (some ⟨b, 0, none⟩), .int .i64 i.1, .agg #[.int .i64 s, .int .i64 t, .int .i64 l, .int .i64 q, .bool st, .slice a m cap]] w fun e w' => e = .returned (.tuple #[.bool false, .nilIface]) ∧ Below w.heap.size w w' := by
  have C := fun w => check_calls s t l q st a m cap w
  rw [hf, errv_zero] at C
  have HC := hidden C
  have HR := hidden hR
  have ht1 := hI.t1
  have ht2 := hI.t2
  have hm := hI.mem i hi
  have hL := fun W (h : RingAt W b mb n T M) => look_has h hi (wf_of (by omega) (by omega))
  have HL := hidden hL
  have d : decide (n ≤ T - i.1) = false := by simp; omega
  have h1 : i.1 ≤ 1099511627776 := by omega
  have h0 := hm.1
  clear C hR hI hf hL hi hm
  generalize i.2.s = s' at *
  generalize i.2.t = t' at *
  generalize i.2.l = l' at *
  generalize i.2.q = q' at *
  generalize i.2.st = st' at *
  generalize i.2.L = L' at *
  generalize i.1 = y at *
  clear i
  go_enter Tryz.func68, Tryz.ntmps68
  go_wp2_with fail
  refine (HC.out _).mono ?_
  rintro e w1 ⟨rfl, hb1⟩
  have HB := hidden (below_old hb1)
  clear hb1
  obtain ⟨c0, c1, c2⟩ := (HR.out.below HB.out).cells
  go_wp2_with fail
  refine (isGone_calls b n T y _ (by exact c0) (by exact c1) ht1 ht2 h0 h1).mono ?_
  rintro e w2 ⟨rfl, k, hk⟩
  rw [d]
  have HB2 : Hid (Below w.heap.size w w2) := by rw [hk]; exact below_drewN HB.out k
  clear hk HB c0 c1 c2
  obtain ⟨a2, m2, k2, hl, hrest⟩ := HL.out w2 (HR.out.below HB2.out)
  clear hrest
  obtain ⟨c0, c1, c2⟩ := (HR.out.below HB2.out).cells
  go_wp2_with fail
  go_ret2
  exact ⟨rfl, HB2.out.alloc HB2.out.size _⟩

/-- a packet is about to be kept -/
def PSt (w W : World) (b mb pb : Nat) (n T : Int) (M : Its) (a : Option Addr) (m : Nat) (L : List Nat) : Prop :=
  RingAt W b mb n T M ∧ Only [b, mb] w W ∧ Arg W a m L ∧ (∃ cs, W.heap[pb]? = some (.cells cs 31 (0, 0))) ∧ M.length ≤ 64

theorem pst_store {w W : World} {b mb pb : Nat} {n T y : Int} {M : Its} {a : Option Addr} {m : Nat} {L : List Nat} {p : Pk} {a' : Option Addr} {m' c' : Nat} (h : PSt w W b mb pb n T M a m L) (hn : has M y = false) (hy : (Lit.int .i64 y).wf = true) (hL : ∀ x ∈ p.L, x < 256) (hm : m' ≤ 1000)
    (ho : W.ownsRow 0 5 1 (.slice a' m' c') m' (cellsOf p.L)) :
    ∃ w2, (Instr.mapUpdate 160 (.map (some mb)) (.int .i64 y) (.agg #[.int .i64 p.s, .int .i64 p.t, .int .i64 p.l, .int .i64 p.q, .bool p.st, .slice a' m' c'])).run Tryz.prog W = .ok () w2 ∧ RingAt w2 b mb n T (M ++ [(y, p)]) ∧ Only [b, mb] w w2 ∧ Only [mb] W w2 := by
  obtain ⟨hR, ho1, _, _, hlen⟩ := h
  have hne := hR.ne
  have hnb := hR.nob
  obtain ⟨h1, D, hown, hK, hE⟩ := hR
  obtain ⟨w2, hrun, hown2, hturn⟩ := hown.store law3 Tryz.underlying160 (by unfold maxLen; omega) (keyOf3 hy) (pkR_mk p.s p.t p.l p.q p.st a' m' c')
  have hoo : Only [mb] W w2 := (Only.refl _ _).grown hturn.grown (by simp)
  refine ⟨w2, hrun, ⟨hoo.block h1 (by simp; exact hne), _, ?_, keys_put hown.isMap hK (.held (.agg #[.int .i64 p.s, .int .i64 p.t, .int .i64 p.l, .int .i64 p.q, .bool p.st, .slice a' m' c'])) _, ?_⟩, ho1.trans (hoo.mono (by simp)), hoo⟩
  · simpa using hown2
  · refine Elems.only (elems_put hown.isMap hE hn ⟨a', m', c', rfl, ho, hL, hm⟩) hoo (fun k hk => hnb k (by simp at hk; simp [hk]))
end Go.Proofs.YtijfocggdjjnjaiGreatDoor.Ring

/-
  What Put of package ring returns of a packet that is new, and what it leaves in memory. Its condition: the ring keeps packets that a ring may keep.
-/
namespace Go.Proofs.YtijfocggdjjnjaiGreatDoor.Ring
open Go.ChangeShapes Go.WideShapes Go.ChangeAt Go.RowKit Go.Maps Go.Proofs.YtijfocggdjjnjaiGreatDoor.PM Go.Proofs.YtijfocggdjjnjaiGreatDoor.Mem Go.Proofs.YtijfocggdjjnjaiGreatDoor.Pack Go.Proofs.YtijfocggdjjnjaiGreatDoor.RM
set_option linter.unusedVariables false


set_option maxHeartbeats 4000000 in
set_option maxRecDepth 100000 in
theorem put_new (b mb : Nat) (n T y s t l q : Int) (st : Bool) (a : Option Addr) (m cap : Nat) (L : List Nat) (M : Its) (w : World) (hR : RingAt w b mb n T M) (hI : RM.Inv n T M) (hA : Arg w a m L) (hN : a = none → m = 0 ∧ cap = 0)
    (h0 : 0 ≤ y) (h1 : y ≤ 1099511627776) (hf : fault s t l q m = 0) (ho : T - n < y) (hn : has M y = false) :
    Calls Tryz.prog 68 #[.pointer (some ⟨b, 0, none⟩), .int .i64 y, .agg #[.int .i64 s, .int .i64 t, .int .i64 l, .int .i64 q, .bool st, .slice a m cap]] w fun e w' => e = .returned (.tuple #[.bool true, .nilIface]) ∧
      RingAt w' b mb n (top T y) (keeps n (top T y) M ++ [(y, ⟨s, t, l, q, st, L, .slice a m cap⟩)]) ∧ Only [b, mb] w w' := by
  have C := fun w => check_calls s t l q st a m cap w
  rw [hf, errv_zero] at C
  have hm : m ≤ 1000 := by obtain ⟨_, _, _, _, _, _, _, _, _, _, _, _, hm⟩ := fault_zero hf; exact hm
  have HC := hidden C
  have HR := hidden hR
  have HI := hidden hI
  have HA := hidden hA
  have HN := hidden hN
  have hwf := wf_of (y := y) (by omega) (by omega)
  have ht1 := hI.t1
  have ht2 := hI.t2
  have hlen : M.length ≤ 64 := by have := hI.len; have := hI.n2; omega
  have hlt := hR.lt
  have hL := fun W (h : RingAt W b mb n T M) => look_none h hn hwf
  have HL := hidden hL
  have HH := hidden hn
  have d : decide (n ≤ T - y) = false := by simp; omega
  -- what apart does, and what the store behind it does
  have HF : Hid (∀ (T' : Int) (M' : Its) (W : World), has M' y = false → PSt w W b mb w.heap.size n T' M' a m L → Box W w.heap.size s t l q st (.slice a m cap) →
      Calls Tryz.prog 97 #[.agg #[.int .i64 s, .int .i64 t, .int .i64 l, .int .i64 q, .bool st, .slice a m cap]] W fun e w' => ∃ a' c' w2, e = .returned (.agg #[.int .i64 s, .int .i64 t, .int .i64 l, .int .i64 q, .bool st, .slice a' m c']) ∧
        (Instr.mapUpdate 160 (.map (some mb)) (.int .i64 y) (.agg #[.int .i64 s, .int .i64 t, .int .i64 l, .int .i64 q, .bool st, .slice a' m c'])).run Tryz.prog w' = .ok () w2 ∧
        Hid (RingAt w2 b mb n T' (M' ++ [(y, ⟨s, t, l, q, st, L, .slice a m cap⟩)]) ∧ Only [b, mb] w w2) ∧ (w'.cell? ⟨b, 2, none⟩ = some (.map (some mb)) ∧ w'.cell? ⟨w.heap.size, 0, none⟩ = some (.int .i64 s) ∧ w'.cell? ⟨w.heap.size, 1, none⟩ = some (.int .i64 t) ∧ w'.cell? ⟨w.heap.size, 2, none⟩ = some (.int .i64 l) ∧ w'.cell? ⟨w.heap.size, 3, none⟩ = some (.int .i64 q) ∧ w'.cell? ⟨w.heap.size, 4, none⟩ = some (.bool st) ∧ w'.cell? ⟨w.heap.size, 5, none⟩ = some (.slice a m cap)) ∧ (w2.cell? ⟨b, 2, none⟩ = some (.map (some mb)) ∧ w2.cell? ⟨w.heap.size, 0, none⟩ = some (.int .i64 s) ∧ w2.cell? ⟨w.heap.size, 1, none⟩ = some (.int .i64 t) ∧ w2.cell? ⟨w.heap.size, 2, none⟩ = some (.int .i64 l) ∧ w2.cell? ⟨w.heap.size, 3, none⟩ = some (.int .i64 q) ∧ w2.cell? ⟨w.heap.size, 4, none⟩ = some (.bool st) ∧ w2.cell? ⟨w.heap.size, 5, none⟩ = some (.slice a m cap))) := by
    refine hidden ?_
    intro T' M' W hn' hP hX
    refine (apart_calls s t l q st a m cap L W hP.2.2.1 hN hm).mono ?_
    rintro e w' ⟨a', c', rfl, hown, hb⟩
    have hP' : PSt w w' b mb w.heap.size n T' M' a m L := ⟨hP.1.below hb, hP.2.1.trans (Only.of_below hb _), hP.2.2.1.below hb, by obtain ⟨cs, h⟩ := hP.2.2.2.1; exact ⟨cs, (hb.block _ (lt_of_block h)).trans h⟩, hP.2.2.2.2⟩
    have hX' := hX.below hb hX.lt
    obtain ⟨w2, h1, h2, h3, h4⟩ := pst_store (p := ⟨s, t, l, q, st, L, .slice a m cap⟩) hP' hn' hwf hA.1.1 hm hown
    have hX2 : Box w2 w.heap.size s t l q st (.slice a m cap) := h4.block hX' (by simp; omega)
    exact ⟨a', c', w2, rfl, h1, ⟨h2, h3⟩, ⟨hP'.1.cells.2.2, hX'.cells⟩, ⟨h2.cells.2.2, hX2.cells⟩⟩
  clear C hR hI hA hN hf hL hn
  have hM' := has_keeps (n := n) (T := top T y) HH.out
  have hlen' : (keeps n (top T y) M).length ≤ 64 := Nat.le_trans (List.length_filter_le _ _) hlen
  generalize hT : top T y = T' at *
  generalize hM : keeps n T' M = M' at *
  have HT := hidden hT
  have HM := hidden hM
  have HM' := hidden hM'
  clear hT hM hM'
  go_enter Tryz.func68, Tryz.ntmps68
  go_wp2_with fail
  refine (HC.out _).mono ?_
  rintro e w1 ⟨rfl, hb1⟩
  have HX1 := hidden ((Box.new w s t l q st (.slice a m cap)).below hb1 (by simp))
  have HB := hidden (below_old hb1)
  clear hb1
  obtain ⟨c0, c1, c2⟩ := (HR.out.below HB.out).cells
  go_wp2_with fail
  refine (isGone_calls b n T y _ (by exact c0) (by exact c1) ht1 ht2 h0 h1).mono ?_
  rintro e w2 ⟨rfl, k, hk⟩
  rw [d]
  have HB2 : Hid (Below w.heap.size w w2) := by rw [hk]; exact below_drewN HB.out k
  have HX2 : Hid (Box w2 w.heap.size s t l q st (.slice a m cap)) := by rw [hk]; exact HX1.out
  clear hk HB HX1 c0 c1 c2
  have hl := HL.out w2 (HR.out.below HB2.out)
  obtain ⟨c0, c1, c2⟩ := (HR.out.below HB2.out).cells
  have d1 := fun O => cell_alloc c1 O
  by_cases hu : T < y
  · go_wp2_with fail
    refine (rise_calls b mb n T y M _ ((HR.out.below HB2.out).below ((Below.refl _ _).alloc (Nat.le_refl _) _)) HI.out hu h1).mono ?_
    rintro e w3 ⟨rfl, hR3, hO3⟩
    have HP : Hid (PSt w w3 b mb w.heap.size n T' M' a m L) := by
      have ht : T' = y := by rw [← HT.out]; simp [top, hu]
      have hO : Only [b, mb] w w3 := (Only.of_below (HB2.out.alloc HB2.out.size _) _).trans hO3
      refine ⟨by rw [← HM.out, ht]; exact hR3, hO, arg_ring HR.out HA.out hO, ⟨_, hO3.block (HX2.out.alloc _) (by simp; omega)⟩, hlen'⟩
    have HX3 : Hid (Box w3 w.heap.size s t l q st (.slice a m cap)) := hO3.block (HX2.out.alloc _) (by simp; omega)
    clear hR3 hO3 HX2 hl c0 c1 c2 d1
    go_wp2_with fail
    have HF3 := hidden (HF.out T' M' w3.drew HM'.out HP.out HX3.out)
    have hS0 : (w3.drew.cell? ⟨b, 2, none⟩ = some (.map (some mb)) ∧ w3.drew.cell? ⟨w.heap.size, 0, none⟩ = some (.int .i64 s) ∧ w3.drew.cell? ⟨w.heap.size, 1, none⟩ = some (.int .i64 t) ∧ w3.drew.cell? ⟨w.heap.size, 2, none⟩ = some (.int .i64 l) ∧ w3.drew.cell? ⟨w.heap.size, 3, none⟩ = some (.int .i64 q) ∧ w3.drew.cell? ⟨w.heap.size, 4, none⟩ = some (.bool st) ∧ w3.drew.cell? ⟨w.heap.size, 5, none⟩ = some (.slice a m cap)) := ⟨HP.out.1.cells.2.2, HX3.out.cells⟩
    clear HF HC HL
    go_region_held3 (fun w' => w'.cell? ⟨b, 2, none⟩ = some (.map (some mb)) ∧ w'.cell? ⟨w.heap.size, 0, none⟩ = some (.int .i64 s) ∧ w'.cell? ⟨w.heap.size, 1, none⟩ = some (.int .i64 t) ∧ w'.cell? ⟨w.heap.size, 2, none⟩ = some (.int .i64 l) ∧ w'.cell? ⟨w.heap.size, 3, none⟩ = some (.int .i64 q) ∧ w'.cell? ⟨w.heap.size, 4, none⟩ = some (.bool st) ∧ w'.cell? ⟨w.heap.size, 5, none⟩ = some (.slice a m cap)) (with_reducible assumption) (first | (go_at_call 97; refine HF3.out.mono ?_; rintro e w4 ⟨a', c', w5, rfl, hmu, HQ, hS4, hS5⟩))
    go_wp2_with fail
    go_ret2
    exact ⟨rfl, HQ.out⟩
  · go_wp2_with fail
    obtain ⟨w3, hw3⟩ : ∃ w3, w2.alloc (.cells #[.int .i64 0, .int .i64 0, .int .i64 0, .int .i64 0, .bool false, .slice none 0 0] 31) = w3 := ⟨_, rfl⟩
    rw [hw3]
    have HP : Hid (PSt w w3 b mb w.heap.size n T' M' a m L) := by
      have ht : T' = T := by rw [← HT.out]; simp [top]; omega
      have hB3 : Below w.heap.size w w3 := by rw [← hw3]; exact HB2.out.alloc HB2.out.size _
      refine ⟨by rw [← HM.out, ht, keeps_same HI.out]; exact HR.out.below hB3, Only.of_below hB3 _, HA.out.below hB3, ⟨_, by rw [← hw3]; exact HX2.out.alloc _⟩, hlen'⟩
    have HX3 : Hid (Box w3 w.heap.size s t l q st (.slice a m cap)) := by rw [← hw3]; exact HX2.out.alloc _
    clear hw3 HX2 hl c0 c1 c2 d1
    have HF3 := hidden (HF.out T' M' w3.drew HM'.out HP.out HX3.out)
    have hS0 : (w3.drew.cell? ⟨b, 2, none⟩ = some (.map (some mb)) ∧ w3.drew.cell? ⟨w.heap.size, 0, none⟩ = some (.int .i64 s) ∧ w3.drew.cell? ⟨w.heap.size, 1, none⟩ = some (.int .i64 t) ∧ w3.drew.cell? ⟨w.heap.size, 2, none⟩ = some (.int .i64 l) ∧ w3.drew.cell? ⟨w.heap.size, 3, none⟩ = some (.int .i64 q) ∧ w3.drew.cell? ⟨w.heap.size, 4, none⟩ = some (.bool st) ∧ w3.drew.cell? ⟨w.heap.size, 5, none⟩ = some (.slice a m cap)) := ⟨HP.out.1.cells.2.2, HX3.out.cells⟩
    clear HF HC HL
    go_region_held3 (fun w' => w'.cell? ⟨b, 2, none⟩ = some (.map (some mb)) ∧ w'.cell? ⟨w.heap.size, 0, none⟩ = some (.int .i64 s) ∧ w'.cell? ⟨w.heap.size, 1, none⟩ = some (.int .i64 t) ∧ w'.cell? ⟨w.heap.size, 2, none⟩ = some (.int .i64 l) ∧ w'.cell? ⟨w.heap.size, 3, none⟩ = some (.int .i64 q) ∧ w'.cell? ⟨w.heap.size, 4, none⟩ = some (.bool st) ∧ w'.cell? ⟨w.heap.size, 5, none⟩ = some (.slice a m cap)) (with_reducible assumption) (first | (go_at_call 97; refine HF3.out.mono ?_; rintro e w4 ⟨a', c', w5, rfl, hmu, HQ, hS4, hS5⟩))
    go_wp2_with fail
    go_ret2
    exact ⟨rfl, HQ.out⟩
end Go.Proofs.YtijfocggdjjnjaiGreatDoor.Ring

/-
  What Put and Get of package ring return, whatever they are given, and what they leave in memory: one row each. Their condition: the ring keeps packets that a ring may keep.
-/
namespace Go.Proofs.YtijfocggdjjnjaiGreatDoor.Ring
open Go.ChangeShapes Go.WideShapes Go.ChangeAt Go.RowKit Go.Maps Go.Proofs.YtijfocggdjjnjaiGreatDoor.PM Go.Proofs.YtijfocggdjjnjaiGreatDoor.Mem Go.Proofs.YtijfocggdjjnjaiGreatDoor.Pack Go.Proofs.YtijfocggdjjnjaiGreatDoor.RM
set_option linter.unusedVariables false

theorem put_calls (b mb : Nat) (n T y s t l q : Int) (st : Bool) (a : Option Addr) (m cap : Nat) (L : List Nat) (M : Its) (w : World) (hR : RingAt w b mb n T M) (hI : RM.Inv n T M) (hA : Arg w a m L) (hN : a = none → m = 0 ∧ cap = 0) :
    Calls Tryz.prog 68 #[.pointer (some ⟨b, 0, none⟩), .int .i64 y, .agg #[.int .i64 s, .int .i64 t, .int .i64 l, .int .i64 q, .bool st, .slice a m cap]] w fun e w' => e = .returned (.tuple #[.bool (px n T y M (fault s t l q m)), errv (pf n T y (fault s t l q m))]) ∧
      RingAt w' b mb n (pT n T y M (fault s t l q m)) (pM n T y M (fault s t l q m) ⟨s, t, l, q, st, L, .slice a m cap⟩) ∧ Only [b, mb] w w' := by
  have same : ∀ w', px n T y M (fault s t l q m) = false → Below w.heap.size w w' → RingAt w' b mb n (pT n T y M (fault s t l q m)) (pM n T y M (fault s t l q m) ⟨s, t, l, q, st, L, .slice a m cap⟩) ∧ Only [b, mb] w w' := by
    intro w' hx hb
    unfold pT pM
    rw [hx]
    exact ⟨hR.below hb, Only.of_below hb _⟩
  by_cases hf : y < 0 ∨ 1099511627776 < y
  · have e1 : pf n T y (fault s t l q m) = 1 := by unfold pf; rw [if_pos hf]
    have e2 : px n T y M (fault s t l q m) = false := by simp [px, e1]
    refine (put_long b y s t l q st (.slice a m cap) w hf).mono ?_
    rintro e w' ⟨rfl, hb⟩
    exact ⟨by rw [e1, e2], same w' e2 hb⟩
  by_cases hc : fault s t l q m = 0
  case neg =>
    have e1 : pf n T y (fault s t l q m) = fault s t l q m := by unfold pf; rw [if_neg hf, if_pos hc]
    have e2 : px n T y M (fault s t l q m) = false := by simp [px, e1, hc]
    refine (put_bad b y s t l q st a m cap w (by omega) (by omega) hc).mono ?_
    rintro e w' ⟨rfl, hb⟩
    exact ⟨by rw [e1, e2], same w' e2 hb⟩
  by_cases ho : y ≤ T - n
  · have e1 : pf n T y (fault s t l q m) = 6 := by unfold pf; rw [if_neg hf, if_neg (by omega), if_pos ho]
    have e2 : px n T y M (fault s t l q m) = false := by simp [px, e1]
    refine (put_gone b mb n T y s t l q st a m cap M w hR hI (by omega) (by omega) hc ho).mono ?_
    rintro e w' ⟨rfl, hb⟩
    exact ⟨by rw [e1, e2], same w' e2 hb⟩
  have e1 : pf n T y (fault s t l q m) = 0 := pf_mk (by omega) (by omega) hc (by omega)
  by_cases hh : has M y = true
  · have e2 : px n T y M (fault s t l q m) = false := by simp [px, hh]
    obtain ⟨i, hi, rfl⟩ := has_iff.1 hh
    refine (put_has b mb n T s t l q st a m cap M w hR hI i hi hc).mono ?_
    rintro e w' ⟨rfl, hb⟩
    exact ⟨by rw [e1, e2]; rfl, same w' e2 hb⟩
  · have hh' : has M y = false := by simpa using hh
    have e2 : px n T y M (fault s t l q m) = true := by simp [px, e1, hh']
    refine (put_new b mb n T y s t l q st a m cap L M w hR hI hA hN (by omega) (by omega) hc (by omega) hh').mono ?_
    rintro e w' ⟨rfl, h1, h2⟩
    refine ⟨by rw [e1, e2]; rfl, ?_, h2⟩
    unfold pT pM
    rw [e2]
    exact h1

/-- the packet of a number -/
def find (M : Its) (y : Int) : Option Pk := (M.find? fun i => i.1 == y).map Prod.snd
theorem find_none {M : Its} {y : Int} (h : has M y = false) : find M y = none := by
  unfold find
  rw [Option.map_eq_none_iff, List.find?_eq_none]
  intro i hi
  have := has_no h i hi
  simpa using this
theorem find_some {M : Its} {y : Int} (h : has M y = true) : ∃ i ∈ M, i.1 = y ∧ find M y = some i.2 := by
  obtain ⟨i, hi, e⟩ := has_iff.1 h
  cases hf : M.find? (fun i => i.1 == y) with
  | none => exact absurd (List.find?_eq_none.1 hf i hi) (by simp [e])
  | some j => exact ⟨j, List.mem_of_find?_eq_some hf, by simpa using List.find?_some hf, by simp [find, hf]⟩
/-- what comes of a number: its packet, or an empty one -/
def got (M : Its) (y : Int) : Pk := (find M y).getD ⟨0, 0, 0, 0, false, [], .slice none 0 0⟩
def gf (M : Its) (y : Int) : Nat := if has M y then 0 else 5
theorem get_calls (b mb : Nat) (n T y : Int) (M : Its) (w : World) (hR : RingAt w b mb n T M) (hw : (Lit.int .i64 y).wf = true) :
    Calls Tryz.prog 92 #[.pointer (some ⟨b, 0, none⟩), .int .i64 y] w fun e w' => ∃ a m c, e = .returned (.tuple #[.agg #[.int .i64 (got M y).s, .int .i64 (got M y).t, .int .i64 (got M y).l, .int .i64 (got M y).q, .bool (got M y).st, .slice a m c], errv (gf M y)]) ∧ Arg w' a m (got M y).L ∧ Below w.heap.size w w' := by
  by_cases hh : has M y = true
  · obtain ⟨i, hi, rfl, hf⟩ := find_some hh
    refine (get_has b mb n T M w hR i hi hw).mono ?_
    rintro e w' ⟨a, m, c, rfl, hA, hb⟩
    refine ⟨a, m, c, ?_, ?_, hb⟩
    · simp [got, hf, gf, hh, errv]
    · simpa [got, hf] using hA
  · have hh' : has M y = false := by simpa using hh
    refine (get_none b mb n T y M w hR hh' hw).mono ?_
    rintro e w' ⟨rfl, hb⟩
    refine ⟨none, 0, 0, ?_, ?_, hb⟩
    · simp [got, find_none hh', gf, hh']
    · have e : (got M y).L = [] := by simp [got, find_none hh']
      rw [e]
      exact ⟨Bys.nil _ _, rfl, by omega⟩
end Go.Proofs.YtijfocggdjjnjaiGreatDoor.Ring

/-
  What Top and Low of package ring return. They change nothing that was there. Their condition: the ring keeps packets that a ring may keep.
-/
namespace Go.Proofs.YtijfocggdjjnjaiGreatDoor.Ring
open Go.ChangeShapes Go.WideShapes Go.ChangeAt Go.RowKit Go.Maps Go.Proofs.YtijfocggdjjnjaiGreatDoor.PM Go.Proofs.YtijfocggdjjnjaiGreatDoor.Mem Go.Proofs.YtijfocggdjjnjaiGreatDoor.Pack Go.Proofs.YtijfocggdjjnjaiGreatDoor.RM
set_option linter.unusedVariables false

theorem top_calls (b : Nat) (T : Int) (w : World) (h1 : w.cell? ⟨b, 1, none⟩ = some (.int .i64 T)) :
    Calls Tryz.prog 64 #[.pointer (some ⟨b, 0, none⟩)] w fun e w' => e = .returned (.int .i64 T) ∧ w' = w := by
  go_enter Tryz.func64, Tryz.ntmps64
  go_wp2_with fail
  go_ret
  exact ⟨rfl, rfl⟩

/-- under way: the least so far -/
def LSt (w wr : World) (b mb it : Nat) (T m : Int) (M : Its) (D : DataW Value) (left : Lit → Bool) (cnt : Nat) : Prop :=
  wr.ranges Tryz.prog 3 pkR mb it M.length D left cnt ∧ Below w.heap.size w wr ∧ w.heap.size ≤ it ∧ Keys D M ∧ m ≤ T ∧ (∀ i ∈ M, left (key i.1) = false → m ≤ i.1) ∧ (m = T ∨ ∃ i ∈ M, m = i.1)
theorem lst_step {w wr w1 : World} {b mb it cnt cnt1 : Nat} {T m x : Int} {M : Its} {D : DataW Value} {left : Lit → Bool} (h : LSt w wr b mb it T m M D left cnt) (hg : wr.grownBy w1 (some it))
    (hr : w1.ranges Tryz.prog 3 pkR mb it M.length D (fun z => left z && !z.sameKey (key x)) cnt1) (hx : ∃ i ∈ M, i.1 = x) : LSt w w1 b mb it T (min m x) M D (fun z => left z && !z.sameKey (key x)) cnt1 := by
  obtain ⟨g1, g2, g3, g4, g5, g6, g7⟩ := h
  obtain ⟨j, hj, rfl⟩ := hx
  refine ⟨hr, g2.grown hg g2.size (by intro k hk; simp at hk; omega), g3, g4, by omega, ?_, ?_⟩
  · intro i hi hl
    by_cases e : i.1 = j.1
    · omega
    · have hs : (key i.1).sameKey (key j.1) = false := sameKey_ne (fun h => e (key_inj h))
      simp only [hs, Bool.not_false, Bool.and_true] at hl
      have := g6 i hi hl
      omega
  · rcases Int.le_total m j.1 with hle | hle
    · rw [Int.min_eq_left hle]; exact g7
    · rw [Int.min_eq_right hle]; exact .inr ⟨j, hj, rfl⟩

set_option maxHeartbeats 1000000 in
set_option maxRecDepth 100000 in
theorem low_calls (b mb : Nat) (n T : Int) (M : Its) (w : World) (h : RingAt w b mb n T M) (hI : RM.Inv n T M) :
    Calls Tryz.prog 69 #[.pointer (some ⟨b, 0, none⟩)] w fun e w' => e = .returned (.int .i64 (low T M)) ∧ Below w.heap.size w w' := by
  obtain ⟨c0, c1, c2⟩ := h.cells
  obtain ⟨hB, D, hown, hK, hE⟩ := h
  have HO := hidden hown
  have HK := hidden hK
  have HI := hidden hI
  have ht1 := hI.t1
  have ht2 := hI.t2
  clear hB hown hK hE hI
  go_enter Tryz.func69, Tryz.ntmps69
  go_wp2_with (at_range; refine wpList_range_own _ rfl _ 160 rfl 3 31 law3 Tryz.underlying160 _ mb M.length D rfl HO.out ?_; intro w0 hrg0 hg0 hs0)
  go_frame
  have HS0 : Hid (LSt w w0 b mb w.heap.size T T M D (Maps.has D) (Maps.size D)) :=
    ⟨hrg0, (Below.refl _ _).grown hg0 (Nat.le_refl _) (by simp), Nat.le_refl _, HK.out, Int.le_refl _, (fun i hi hl => by rw [(HK.out (key i.1)).2 ⟨i, hi, rfl⟩] at hl; cases hl), .inl rfl⟩
  clear hrg0 hg0 hs0 HO
  go_loopw [3] (fun lo wr => ∃ (m : Int) (left : Lit → Bool) (cnt : Nat), lo = .int .i64 m ∧ Hid (LSt w wr b mb w.heap.size T m M D left cnt)) (fun _ wr => wr.rangeLeft mb w.heap.size)
  case atStart => exact ⟨_, _, _, rfl, HS0⟩
  case round =>
    obtain ⟨m, left, cnt, rfl, HS⟩ := hrel
    clear HS0
    go_wp2_with (at_next; refine wpList_next_ranges _ rfl _ rfl 3 law3 pkR (Value.int .i64) (fun v : Value => v) (fun key kl hkey => by obtain ⟨x, rfl, _⟩ := Maps.keyOf_int_inv Tryz.underlying3 hkey; exact ⟨x, rfl⟩) (fun v y hv => ⟨v, rfl⟩) mb w.heap.size M.length D left cnt rfl HS.out.1 ?_ ?_)
    · intro _ hl0
      go_wp2_with fail
      go_ret
      obtain ⟨g1, g2, g3, g4, g5, g6, g7⟩ := HS.out
      have e := low_eq g5 (fun i hi => g6 i hi (hl0 _)) g7
      exact ⟨by rw [← e]; rfl, g2⟩
    · intro x v kl yd yp w1 cnt1 hkey hlk hv hat hrg1 hlt1 hg1 hs1 hen
      obtain ⟨x', ex, rfl, hwx⟩ := Maps.keyOf_int_inv Tryz.underlying3 hkey
      cases ex
      obtain ⟨i, hi, ei⟩ := (HK.out (key x)).1 (has_true_of_atKey hat)
      have HR := hidden (lst_step HS.out hg1 hrg1 ⟨i, hi, (key_inj ei).symm⟩)
      clear hrg1 hg1 hi ei
      go_wp2_with fail
      go_roundw
      case rel => exact ⟨min m x, _, cnt1, congrArg (Value.int .i64) (by split <;> omega), HR⟩
      case measure => rw [HR.out.1.left_eq, HS.out.1.left_eq]; omega
end Go.Proofs.YtijfocggdjjnjaiGreatDoor.Ring
