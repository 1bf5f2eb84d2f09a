/-
  What rise and Get of package ring return, and what they leave in memory. Their condition: the ring keeps packets that a ring may keep.
-/
import Derived.Test.YtpiamlgmadnepaaGreatRingA
namespace Go.Proofs.YtpiamlgmadnepaaGreat.Ring
open Go.ChangeShapes Go.WideShapes Go.ChangeAt Go.RowKit Go.Maps Go.Proofs.YtpiamlgmadnepaaGreat.PM Go.Proofs.YtpiamlgmadnepaaGreat.Mem Go.Proofs.YtpiamlgmadnepaaGreat.Pack Go.Proofs.YtpiamlgmadnepaaGreat.RM
set_option linter.unusedVariables false

theorem look_has {w : World} {b mb : Nat} {n T : Int} {M : Its} (h : RingAt w b mb n T M) {i : Int × Pk} (hi : i ∈ M) (hw : (Lit.int .i64 i.1).wf = true) :
    ∃ a m c, (Instr.lookup 268 (.map (some mb)) (.int .i64 i.1) true).run Tryz.prog w = .ok (.tuple #[.agg #[.int .i64 i.2.s, .int .i64 i.2.t, .int .i64 i.2.l, .int .i64 i.2.q, .bool i.2.st, .slice a m c], .bool true]) w ∧
      w.ownsRow 0 5 1 (.slice a m c) m (cellsOf i.2.L) ∧ (∀ x ∈ i.2.L, x < 256) ∧ m ≤ 1000 := by
  obtain ⟨_, D, hown, hK, hE⟩ := h
  obtain ⟨v, hv, a, m, c, rfl, h1, h2, h3⟩ := hE i hi
  obtain ⟨v', ps, hrun, hr⟩ := hown.look_ok law3 Tryz.underlying268 (zeroPK w) (pkR_mk 0 0 0 0 false none 0 0) (keyOf3 hw)
  rw [hv] at hr
  have e := (pkR_inv hr).2
  simp only [Prod.mk.injEq, DataW.held.injEq] at e
  rw [(hK (key i.1)).2 ⟨i, hi, rfl⟩, ← e.1] at hrun
  exact ⟨a, m, c, hrun, h1, h2, h3⟩
theorem look_none {w : World} {b mb : Nat} {n T y : Int} {M : Its} (h : RingAt w b mb n T M) (hn : has M y = false) (hw : (Lit.int .i64 y).wf = true) :
    (Instr.lookup 268 (.map (some mb)) (.int .i64 y) true).run Tryz.prog w = .ok (.tuple #[.agg #[.int .i64 0, .int .i64 0, .int .i64 0, .int .i64 0, .bool false, .slice none 0 0], .bool false]) w := by
  obtain ⟨_, D, hown, hK, hE⟩ := h
  obtain ⟨v', ps, hrun, hr⟩ := hown.look_ok law3 Tryz.underlying268 (zeroPK w) (pkR_mk 0 0 0 0 false none 0 0) (keyOf3 hw)
  have hh : Maps.has D (key y) = false := by rw [hK.at]; exact hn
  rw [atKey_of_not_has hh] at hr
  have e := (pkR_inv hr).2
  simp only [Prod.mk.injEq, DataW.held.injEq] at e
  rw [hh, ← e.1] at hrun
  exact hrun

/-- under way: what is gone goes -/
def RSt (w wr : World) (b mb it : Nat) (n y : Int) (M : Its) (D : DataW Value) (left : Lit → Bool) (cnt : Nat) : Prop :=
  wr.ranges Tryz.prog 3 pkR mb it M.length D left cnt ∧ Keys D (cur M (fun x => decide (y - n < x)) left) ∧ Elems wr D (cur M (fun x => decide (y - n < x)) left) ∧
    wr.heap[b]? = some (.cells #[.int .i64 n, .int .i64 y, .map (some mb)] 270 (0, 0)) ∧ Only [b, mb] w wr ∧ w.heap.size ≤ it ∧ b < w.heap.size ∧ mb < w.heap.size ∧ b ≠ mb

theorem cells3 {w : World} {b : Nat} {x y z : Value} {t : TypeId} (h : w.heap[b]? = some (.cells #[x, y, z] t (0, 0))) :
    w.cell? ⟨b, 0, none⟩ = some x ∧ w.cell? ⟨b, 1, none⟩ = some y ∧ w.cell? ⟨b, 2, none⟩ = some z := by
  refine ⟨?_, ?_, ?_⟩ <;> simp [World.cell?, h]
theorem set3 {w : World} {b : Nat} {cs : Array Value} {t : TypeId} (h : w.heap[b]? = some (.cells cs t (0, 0))) (j : Nat) (u : Value) :
    (w.setCell ⟨b, j, none⟩ u).heap[b]? = some (.cells (cs.setIfInBounds j u) t (0, 0)) := by
  exact heap_setCell_same w b j cs t u h

theorem iter_block {P : Program} {k : TypeId} {R : Value → Option (DataW Value × List MemPlace)} {w : World} {b r n cnt : Nat} {D : DataW Value} {left : Lit → Bool} (h : w.ranges P k R b r n D left cnt) : ∀ cs t fr, w.heap[r]? ≠ some (.cells cs t fr) := by
  obtain ⟨es, clock, since, seen, c0, _, _, _, _, hr, _⟩ := h
  intro cs t fr e
  rw [hr] at e
  simp at e
/-- what lies behind a is of no account -/
theorem past {bs cs : List Nat} {a b c : World} (h : Only bs a b) (k : Only cs b c) (hc : ∀ j ∈ cs, j ∈ bs ∨ a.heap.size ≤ j) : Only bs a c :=
  ⟨k.1.trans h.1, k.2.1.trans h.2.1, k.2.2.1.trans h.2.2.1, Nat.le_trans h.2.2.2.1 k.2.2.2.1, fun i hi hb => (k.2.2.2.2 i (Nat.lt_of_lt_of_le hi h.2.2.2.1) (fun hh => by
    rcases hc i hh with h1 | h1
    · exact hb h1
    · omega)).trans (h.2.2.2.2 i hi hb)⟩
theorem rst_stays {w wr w1 : World} {b mb it cnt cnt1 : Nat} {n y x : Int} {M : Its} {D : DataW Value} {left : Lit → Bool} (h : RSt w wr b mb it n y M D left cnt) (hx : ¬ n ≤ y - x) (hg : wr.grownBy w1 (some it))
    (hr : w1.ranges Tryz.prog 3 pkR mb it M.length D (fun z => left z && !z.sameKey (key x)) cnt1) : RSt w w1 b mb it n y M D (fun z => left z && !z.sameKey (key x)) cnt1 := by
  obtain ⟨g1, g2, g3, g4, g5, g6, g7, g8, g9⟩ := h
  have ho : Only [it] wr w1 := (Only.refl _ _).grown hg (by simp)
  have e := cur_stays (M := M) (kp := fun x => decide (y - n < x)) (left := left) (x := x) (by simp; omega)
  refine ⟨hr, by rw [e]; exact g2, by rw [e]; exact g3.only ho (fun k hk cs fr => by simp at hk; subst hk; exact iter_block g1 cs 5 fr), ho.block g4 (by simp; omega), past g5 ho (fun j hj => ?_), g6, g7, g8, g9⟩
  simp at hj
  subst hj
  exact .inr g6
theorem rst_gone {w wr w1 w2 : World} {b mb it cnt cnt1 : Nat} {n y x : Int} {M : Its} {D : DataW Value} {left : Lit → Bool} (h : RSt w wr b mb it n y M D left cnt) (hx : n ≤ y - x) (hg : wr.grownBy w1 (some it)) (ht : w1.mapTurned w2 mb)
    (hr : w2.ranges Tryz.prog 3 pkR mb it M.length (D.del (key x)) (fun z => left z && !z.sameKey (key x)) cnt1) : RSt w w2 b mb it n y M (D.del (key x)) (fun z => left z && !z.sameKey (key x)) cnt1 := by
  obtain ⟨g1, g2, g3, g4, g5, g6, g7, g8, g9⟩ := h
  have ho : Only [it, mb] wr w2 := ((Only.refl _ _).grown hg (by simp)).grown ht.grown (by simp)
  obtain ⟨es, c, hm⟩ := map_block g1.owns
  have hk : (fun x => decide (y - n < x)) x = false := by simp; omega
  refine ⟨hr, keys_struck hk g2, elems_struck hk (g3.only ho (fun k hk cs fr => ?_)), ho.block g4 (by simp; omega), past g5 ho (fun j hj => ?_), g6, g7, g8, g9⟩
  · simp at hk
    rcases hk with rfl | rfl
    · exact iter_block g1 cs 5 fr
    · rw [hm]; simp
  · simp at hj
    rcases hj with rfl | rfl
    · exact .inr g6
    · exact .inl (by simp)

set_option maxHeartbeats 1000000 in
set_option maxRecDepth 100000 in
theorem rise_calls (b mb : Nat) (n T y : Int) (M : Its) (w : World) (h : RingAt w b mb n T M) (hI : RM.Inv n T M) (hy : T < y) (hy1 : y ≤ 1099511627776) :
    Calls Tryz.prog 193 #[.pointer (some ⟨b, 0, none⟩), .int .i64 y] w fun e w' => e = .returned (.tuple #[]) ∧ RingAt w' b mb n y (keeps n y M) ∧ Only [b, mb] w w' := by
  obtain ⟨c0, c1, c2⟩ := h.cells
  have f1 := h.free 1
  have hne := h.ne
  have hlt := h.lt
  have hnob := h.nob
  obtain ⟨hB, D, hown, hK, hE⟩ := h
  have HO := hidden (hown.setCell (a := ⟨b, 1, none⟩) (fun e => hne e.symm) (.int .i64 y))
  have HB := hidden hB
  have HK := hidden hK
  have HE := hidden hE
  have HI := hidden hI
  have HNB := hidden hnob
  have hn64 := hI.n2
  have hn1 := hI.n1
  have ht1 := hI.t1
  clear hB hown hK hE hI hnob
  go_enter Tryz.func193, Tryz.ntmps193
  go_wp2_with (at_range; refine wpList_range_own _ rfl _ 268 rfl 3 38 law3 Tryz.underlying268 _ mb M.length D rfl HO.out ?_; intro w0 hrg0 hg0 hs0)
  go_frame
  have hs : (w.setCell ⟨b, 1, none⟩ (.int .i64 y)).heap.size = w.heap.size := by simp [World.setCell]
  have HS0 : Hid (RSt w w0 b mb (w.setCell ⟨b, 1, none⟩ (.int .i64 y)).heap.size n y M D (Maps.has D) (Maps.size D)) := by
    have ho : Only [b, mb] w w0 := ((Only.refl [b, mb] w).setCell (p := ⟨b, 1, none⟩) (by simp) (.int .i64 y)).grown hg0 (by simp)
    refine ⟨hrg0, ?_, ?_, ?_, ho, by rw [hs]; exact Nat.le_refl _, hlt.1, hlt.2, hne⟩
    · rw [cur_start HK.out]; exact HK.out
    · rw [cur_start HK.out]; exact HE.out.only ho HNB.out
    · exact (hg0.block b (by rw [hs]; exact hlt.1) (by simp)).trans (set3 HB.out 1 _)
  generalize (w.setCell ⟨b, 1, none⟩ (.int .i64 y)).heap.size = it at *
  clear hrg0 hg0 hs0 hs HO HE HB c0 c1 c2 f1
  go_loopw [4] (fun _ wr => ∃ (Dc : DataW Value) (left : Lit → Bool) (cnt : Nat), Hid (RSt w wr b mb it n y M Dc left cnt)) (fun _ wr => wr.rangeLeft mb it)
  case atStart => exact ⟨_, _, _, HS0⟩
  case round =>
    obtain ⟨Dc, left, cnt, HS⟩ := hrel
    clear HS0
    go_wp2_with (at_next; refine wpList_next_ranges _ rfl _ rfl 3 law3 pkR (Value.int .i64) (fun v : Value => v) (fun key kl hkey => by obtain ⟨x, rfl, _⟩ := Maps.keyOf_int_inv Tryz.underlying3 hkey; exact ⟨x, rfl⟩) (fun v y hv => ⟨v, rfl⟩) mb it M.length Dc left cnt rfl HS.out.1 ?_ ?_)
    · intro _ hl0
      go_wp2_with fail
      go_end0
      obtain ⟨g1, g2, g3, g4, g5, _⟩ := HS.out
      rw [cur_end hl0] at g2 g3
      have ht := RM.tight g1.owns
      rw [g2.size (g1.owns.entries law3) (HI.out.one.filter _)] at ht
      exact ⟨rfl, ⟨g4, Dc, ht, g2, g3⟩, g5⟩
    · intro x v kl yd yp w1 cnt1 hkey hlk hv hat hrg1 hlt1 hg1 hs1 hen
      obtain ⟨x', ex, rfl, hwx⟩ := Maps.keyOf_int_inv Tryz.underlying3 hkey
      cases ex
      obtain ⟨i, hi, ei⟩ := (HS.out.2.1 (key x)).1 (has_true_of_atKey hat)
      have hxi : i.1 = x := (key_inj ei).symm
      have hxb := HI.out.mem i (List.mem_filter.1 hi).1
      rw [hxi] at hxb
      have hbit : b ≠ it := by have := HS.out.2.2.2.2.2; omega
      have hB1 : w1.heap[b]? = some (.cells #[.int .i64 n, .int .i64 y, .map (some mb)] 270 (0, 0)) := (hg1.block b (by have := HS.out.2.2.2.2.1.2.2.2.1; omega) (by simp; exact hbit)).trans HS.out.2.2.2.1
      obtain ⟨c0, c1, c2⟩ := cells3 hB1
      have HB1 := hidden hB1
      have HR1 := hidden hrg1
      have HG1 := hidden hg1
      clear hB1 hrg1 hg1 hi ei
      by_cases hg : n ≤ y - x
      · have d : decide (n ≤ y - x) = true := by simpa using hg
        go_wp2_with fail
        refine (isGone_calls b n y x _ (by exact c0) (by exact c1) (by omega) hy1 (by omega) (by omega)).mono ?_
        rintro e w2 ⟨rfl, k, rfl⟩
        have HR2 : Hid ((w1.drewN k).ranges Tryz.prog 3 pkR mb it M.length Dc (fun z => left z && !z.sameKey (key x)) cnt1) := HR1.out
        have HG2 : Hid (wr.grownBy (w1.drewN k) (some it)) := hidden ⟨HG1.out.os, HG1.out.tape, HG1.out.output, HG1.out.size, HG1.out.block⟩
        go_wp2_with (at_delete; refine wpList_delete_ranges _ rfl _ _ 268 3 rfl 38 law3 Tryz.underlying268 _ mb it M.length Dc _ cnt1 rfl HR2.out _ _ rfl (keyOf3 hwx) ?_; intro w3 cnt2 hrg2 hle hturn; go_frame)
        rw [strike_twice] at hrg2
        go_roundw
        case rel => exact ⟨_, _, cnt2, rst_gone HS.out hg HG2.out hturn hrg2⟩
        case measure => rw [hrg2.left_eq, HS.out.1.left_eq]; omega
      · have d : decide (n ≤ y - x) = false := by simpa using hg
        go_wp2_with fail
        refine (isGone_calls b n y x _ (by exact c0) (by exact c1) (by omega) hy1 (by omega) (by omega)).mono ?_
        rintro e w2 ⟨rfl, k, rfl⟩
        have HR2 : Hid ((w1.drewN k).ranges Tryz.prog 3 pkR mb it M.length Dc (fun z => left z && !z.sameKey (key x)) cnt1) := HR1.out
        have HG2 : Hid (wr.grownBy (w1.drewN k) (some it)) := hidden ⟨HG1.out.os, HG1.out.tape, HG1.out.output, HG1.out.size, HG1.out.block⟩
        go_wp2_with fail
        go_roundw
        case rel => exact ⟨_, _, cnt1, rst_stays HS.out (by omega) HG2.out HR2.out⟩
        case measure => rw [HR2.out.left_eq, HS.out.1.left_eq]; omega
end Go.Proofs.YtpiamlgmadnepaaGreat.Ring

