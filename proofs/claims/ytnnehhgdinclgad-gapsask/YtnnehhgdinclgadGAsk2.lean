/-
  The walk of the Go function GapsAsk, of numbers that may be: it returns true.
-/
import Derived.Test.YtnnehhgdinclgadGAsk
import Derived.Deep.CutRange
import Derived.LoopTactic
namespace Go.Proofs.Ytnnehhgdinclgad.GAsk
open Go.ChangeShapes Go.WideShapes Go.ChangeAt Go.RowKit Go.Proofs.Ytnnehhgdinclgad.Mem Go.Proofs.Ytnnehhgdinclgad.GM Go.Proofs.Ytnnehhgdinclgad.Gaps
set_option linter.unusedVariables false

def zsI : Array Value := Array.replicate 300 (.int .i64 0)
def zsB : Array Value := Array.replicate 300 (.bool false)
set_option maxRecDepth 100000 in
theorem zeroI (w : World) : (zeroValue 34).run Try.prog w = .ok (.agg zsI) w := by kernel_rfl
set_option maxRecDepth 100000 in
theorem zeroB (w : World) : (zeroValue 35).run Try.prog w = .ok (.agg zsB) w := by kernel_rfl
theorem ArrI.new (w : World) : ArrI (w.alloc (.cells zsI 34)) w.heap.size (fun _ => 0) := by
  refine ⟨_, heap_alloc_new w _, by simp [zsI], fun j hj => ?_⟩
  simp [zsI, hj]
theorem ArrB.new (w : World) : ArrB (w.alloc (.cells zsB 35)) w.heap.size (fun _ => false) := by
  refine ⟨_, heap_alloc_new w _, by simp [zsB], fun j hj => ?_⟩
  simp [zsB, hj]

theorem len_le {ag tr nw T : Int} {M : Its} (h : GM.Inv ag tr nw T M) : (M.length : Int) ≤ T + 1 ∧ (0 ≤ T → (M.length : Int) ≤ T) := by
  have hn : (M.map fun i => i.n.toNat).Nodup := by
    rw [List.nodup_iff_pairwise_ne, List.pairwise_map]
    refine h.ris.imp_of_mem ?_
    intro a b ha hb hab e
    have := h.mem a ha
    have := h.mem b hb
    omega
  have := List.Nodup.length_le_of_subset (l₂ := List.range T.toNat) hn (by
    intro x hx
    obtain ⟨i, hi, rfl⟩ := List.mem_map.1 hx
    have := h.mem i hi
    simp only [List.mem_range]
    omega)
  simp at this
  have := h.t1
  omega
theorem hear_in {ag tr nw T now : Int} {M : Its} (h : GM.Inv ag tr nw T M) (hT : T < 150) (y : Nat) (hy : y < 150) (h0 : nw ≤ now) (h1 : 0 ≤ now) (h2 : now ≤ 1000000) : hf nw T M y now = 0 := by
  obtain ⟨l1, l2⟩ := len_le h
  have ht : tf nw now = 0 := by unfold tf; rw [if_neg (by omega), if_neg (by omega)]
  have hlo : (M.length : Int) + lo T y ≤ 200 := by
    have := h.t1
    unfold lo
    split <;> omega
  unfold hf
  rw [if_neg (by simp [ht]), if_neg (by omega), if_neg (by omega)]

/-- under way -/
structure ASt (w wr : World) (b mb g1 g2 g3 : Nat) (ag tr nw T : Int) (M : Its) (Wn Of : Nat → Int) (Cm : Nat → Bool) : Prop where
  bel : Below w.heap.size w wr
  lo : w.heap.size ≤ b ∧ w.heap.size ≤ mb ∧ w.heap.size ≤ g1 ∧ w.heap.size ≤ g2 ∧ w.heap.size ≤ g3
  gaps : GapsAt wr b mb ag tr nw T M (.slice none 0 0) []
  inv : GM.Inv ag tr nw T M
  a1 : ArrI wr g1 Wn
  a2 : ArrI wr g2 Of
  a3 : ArrB wr g3 Cm
  ne : g1 ≠ g2
  top : T < 150
  rel : Rel T M Wn Of Cm
theorem off2 {g b mb : Nat} (h : g ∉ blks b mb (.slice none 0 0)) : g ∉ [b, mb] := by simpa [blks, Value.ownBlock] using h
/-- a number that came is written down -/
theorem ASt.heard {w wr w1 : World} {b mb g1 g2 g3 y : Nat} {ag tr nw T now : Int} {M : Its} {Wn Of : Nat → Int} {Cm : Nat → Bool} (h : ASt w wr b mb g1 g2 g3 ag tr nw T M Wn Of Cm) (hy : y < 150) (h0 : hf nw T M y now = 0)
    (hg : GapsAt w1 b mb ag tr (hN nw T M y now) (hU nw T M y now) (hL nw T M y now) (.slice none 0 0) []) (ho : Only [b, mb] wr w1) :
    hN nw T M y now = now ∧ ArrB w1 g3 Cm ∧ ASt w (w1.setCell ⟨g3, y, none⟩ (.bool true)) b mb g1 g2 g3 ag tr now (GM.hT T y) (hM T M y) Wn Of (upd Cm y true) := by
  have eN : hN nw T M y now = now := by unfold hN; rw [if_pos h0]
  have eU : hU nw T M y now = GM.hT T y := by unfold hU; rw [if_pos h0]
  have eL : hL nw T M y now = hM T M y := by unfold hL; rw [if_pos h0]
  have hI := inv_hear h.inv h0
  rw [eN, eU, eL] at hg
  obtain ⟨l1, l2, l3, l4, l5⟩ := h.lo
  have b1 := h.a1.only ho (off2 (h.a1.off h.gaps))
  have b2 := h.a2.only ho (off2 (h.a2.off h.gaps))
  have b3 := h.a3.only ho (off2 (h.a3.off h.gaps))
  have hB1 : Below w.heap.size w w1 := h.bel.trans (ho.below h.bel.size (by intro k hk; simp at hk; omega))
  have oS : Only [g3] w1 (w1.setCell ⟨g3, y, none⟩ (.bool true)) := (Only.refl _ _).setCell (by simp) _
  refine ⟨eN, b3, ⟨hB1.setCell l5 _, h.lo, hg.only oS ?_, hI, b1.only oS ?_, b2.only oS ?_, b3.set (by omega) true, h.ne, ?_, (rel_hear h.rel h.inv y h0).2⟩⟩
  · intro k hk hc
    simp at hc
    subst hc
    exact b3.off hg hk
  · simp; exact arr_ne b1 b3
  · simp; exact arr_ne b2 b3
  · have := h.top
    unfold GM.hT
    split <;> omega

/-- so many of those that are asked for are written down -/
structure QSt (w wq : World) (b mb g1 g2 g3 : Nat) (ag tr now T : Int) (M : Its) (Wn Of : Nat → Int) (Cm : Nat → Bool) (da : Option Addr) (gv : Value) (G L : List Int) (q : Nat) : Prop where
  bel : Below w.heap.size w wq
  gaps : GapsAt wq b mb ag tr now T M gv G
  due : IArg wq da L.length L
  dn : ∀ gb o, da = some ⟨gb, o, none⟩ → gb ≠ g1 ∧ gb ≠ g2 ∧ gb ≠ g3
  a1 : ArrI wq g1 (wnK Wn now (L.take q))
  a2 : ArrI wq g2 (ofK Of (L.take q))
  a3 : ArrB wq g3 Cm
theorem iarg_off {w w' : World} {da : Option Addr} {n : Nat} {L : List Int} {bs : List Nat} (h : IArg w da n L) (ho : Only bs w w') (hb : ∀ gb o, da = some ⟨gb, o, none⟩ → gb ∉ bs) : IArg w' da n L := by
  refine ⟨fun j hj => ?_, h.2⟩
  obtain ⟨b, o, e, hc⟩ := h.1 j hj
  refine ⟨b, o, e, ?_⟩
  have hlt := World.block_lt_of_cell? w ⟨b, o + j, none⟩ hc
  have := ho.2.2.2.2 b hlt (hb b o e)
  simp only [World.cell?] at hc ⊢
  rw [this]
  exact hc
theorem QSt.step {w wq : World} {b mb g1 g2 g3 y q : Nat} {ag tr now T : Int} {M : Its} {Wn Of : Nat → Int} {Cm : Nat → Bool} {da : Option Addr} {gv : Value} {G L : List Int} (h : QSt w wq b mb g1 g2 g3 ag tr now T M Wn Of Cm da gv G L q) (hU : Up L) (hq : q < L.length) (hy : L.getD q 0 = (y : Int)) (h150 : y < 150) (l1 : w.heap.size ≤ g1) (l2 : w.heap.size ≤ g2) (hne : g1 ≠ g2) :
    QSt w ((wq.setCell ⟨g2, y, none⟩ (.int .i64 (ofK Of (L.take q) y + 1))).setCell ⟨g1, y, none⟩ (.int .i64 now)) b mb g1 g2 g3 ag tr now T M Wn Of Cm da gv G L (q + 1) := by
  obtain ⟨_, hn, ht, _⟩ := up_next hU hq
  rw [hy] at hn ht
  have o1 : Only [g2] wq (wq.setCell ⟨g2, y, none⟩ (.int .i64 (ofK Of (L.take q) y + 1))) := (Only.refl _ _).setCell (by simp) _
  have o2 : Only [g1] (wq.setCell ⟨g2, y, none⟩ (.int .i64 (ofK Of (L.take q) y + 1))) ((wq.setCell ⟨g2, y, none⟩ (.int .i64 (ofK Of (L.take q) y + 1))).setCell ⟨g1, y, none⟩ (.int .i64 now)) := (Only.refl _ _).setCell (by simp) _
  have oo : Only [g1, g2] wq ((wq.setCell ⟨g2, y, none⟩ (.int .i64 (ofK Of (L.take q) y + 1))).setCell ⟨g1, y, none⟩ (.int .i64 now)) := (o1.mono (by simp)).trans (o2.mono (by simp))
  refine ⟨(h.bel.setCell l2 _).setCell l1 _, h.gaps.only oo ?_, iarg_off h.due oo ?_, h.dn, ?_, ?_, h.a3.only oo ?_⟩
  · intro k hk hc
    simp at hc
    rcases hc with rfl | rfl
    · exact h.a1.off h.gaps hk
    · exact h.a2.off h.gaps hk
  · intro gb o e
    have := h.dn gb o e
    simp; omega
  · rw [ht, wnK_step]
    exact (h.a1.only o1 (by simp; exact hne)).set (by omega) now
  · rw [ht, ofK_step hn]
    exact (h.a2.set (by omega) _).only o2 (by simp; exact fun e => hne e.symm)
  · have n1 := arr_ne h.a1 h.a3
    have n2 := arr_ne h.a2 h.a3
    simp; omega
/-- so many of those that were given up are written down -/
structure GSt (w wq : World) (b mb g1 g2 g3 : Nat) (ag tr now T : Int) (M : Its) (Wn Of : Nat → Int) (Cm : Nat → Bool) (ga : Option Addr) (L : List Int) (q : Nat) : Prop where
  bel : Below w.heap.size w wq
  gaps : GapsAt wq b mb ag tr now T M (.slice none 0 0) []
  gave : IArg wq ga L.length L
  gn : ∀ gb o, ga = some ⟨gb, o, none⟩ → gb ≠ g3
  a1 : ArrI wq g1 Wn
  a2 : ArrI wq g2 Of
  a3 : ArrB wq g3 (cmK Cm (L.take q))
theorem GSt.step {w wq : World} {b mb g1 g2 g3 y q : Nat} {ag tr now T : Int} {M : Its} {Wn Of : Nat → Int} {Cm : Nat → Bool} {ga : Option Addr} {L : List Int} (h : GSt w wq b mb g1 g2 g3 ag tr now T M Wn Of Cm ga L q) (hU : Up L) (hq : q < L.length) (hy : L.getD q 0 = (y : Int)) (h150 : y < 150) (l3 : w.heap.size ≤ g3) :
    GSt w (wq.setCell ⟨g3, y, none⟩ (.bool true)) b mb g1 g2 g3 ag tr now T M Wn Of Cm ga L (q + 1) := by
  obtain ⟨_, hn, ht, _⟩ := up_next hU hq
  rw [hy] at hn ht
  have o1 : Only [g3] wq (wq.setCell ⟨g3, y, none⟩ (.bool true)) := (Only.refl _ _).setCell (by simp) _
  refine ⟨h.bel.setCell l3 _, h.gaps.only o1 ?_, iarg_off h.gave o1 ?_, h.gn, h.a1.only o1 ?_, h.a2.only o1 ?_, ?_⟩
  · intro k hk hc
    simp at hc
    subst hc
    exact h.a3.off h.gaps hk
  · intro gb o e
    have := h.gn gb o e
    simpa using this
  · simp; exact arr_ne h.a1 h.a3
  · simp; exact arr_ne h.a2 h.a3
  · rw [ht, cmK_step]
    exact h.a3.set (by omega) true

set_option maxHeartbeats 16000000 in
set_option maxRecDepth 100000 in
theorem walk_in (ag tr : Int) (al at_ : Option Addr) (ll cl lt ct : Nat) (Z Y : Nat → Int) (w : World) (h1 : 1 ≤ ag) (h2 : ag ≤ 1000) (h3 : 1 ≤ tr) (h4 : tr ≤ 20) (hll : ll ≤ 9223372036854775807) (hlt : lt ≤ 9223372036854775807)
    (hZ : Hid (∀ j, j < ll → ∃ b o, al = some ⟨b, o, none⟩ ∧ b < w.heap.size ∧ w.cell? ⟨b, o + j, none⟩ = some (.int .i64 (Z j))))
    (hY : Hid (∀ j, j < lt → ∃ b o, at_ = some ⟨b, o, none⟩ ∧ b < w.heap.size ∧ w.cell? ⟨b, o + j, none⟩ = some (.int .i64 (Y j)))) :
    Calls Try.prog 4 #[.int .i64 ag, .int .i64 tr, .slice al ll cl, .slice at_ lt ct] w fun e w' => e = .returned (.bool true) ∧ Below w.heap.size w w' := by
  have H1 := hidden new32
  have H2 := hidden first5
  have H3 := hidden first7
  have H4 := hidden firstDue
  have HN := hidden (fun w => new_ok ag tr w h1 (by omega) h3 h4)
  have zI := zeroI
  have zB := zeroB
  go_enter Try.func4, Try.ntmps4
  go_wp2_with fail
  refine (H1.out _).mono ?_
  rintro e w1 ⟨b1, mb1, rfl, hb1, hb2, hR, hbl⟩
  have HG := hidden hR
  have HB := hidden hbl
  clear hR hbl
  go_wp2_with fail
  refine (H2.out b1 mb1 w1 HG.out).mono ?_
  rintro e w2 ⟨rfl, hR, ho⟩
  have HG2 := hidden hR
  have HB2 := hidden (below_of HB.out ho hb1 hb2)
  clear hR ho HG HB
  go_wp2_with fail
  refine (H3.out b1 mb1 w2 HG2.out).mono ?_
  rintro e w3 ⟨rfl, hR, ho⟩
  have HG3 := hidden hR
  have HB3 := hidden (below_of HB2.out ho hb1 hb2)
  clear hR ho HG2 HB2
  go_wp2_with fail
  refine (H4.out b1 mb1 w3 HG3.out).mono ?_
  rintro e w4 ⟨g0, cap0, rfl, hc0, ho⟩
  have HB4 := hidden (below_of HB3.out ho hb1 hb2)
  clear ho HG3 HB3 hb1 hb2
  go_wp2_with fail
  refine (HN.out _).mono ?_
  rintro e w5 ⟨b, mb, rfl, hb1, hb2, hR, hb5⟩
  have HS0 : Hid (ASt w (((w5.alloc (.cells zsI 34)).alloc (.cells zsI 34)).alloc (.cells zsB 35)) b mb w5.heap.size (w5.heap.size + 1) (w5.heap.size + 1 + 1) ag tr 0 (-1) [] (fun _ => 0) (fun _ => 0) (fun _ => false)) := by
    have hB5 : Below w.heap.size w w5 := HB4.out.trans (hb5.mono HB4.out.size)
    have s4 := HB4.out.size
    have s5 := hB5.size
    have x1 := ArrI.new w5
    have x2 := ArrI.new (w5.alloc (.cells zsI 34))
    have x3 := ArrB.new ((w5.alloc (.cells zsI 34)).alloc (.cells zsI 34))
    simp only [World.size_alloc] at x2 x3
    have o2 : Only [] (w5.alloc (.cells zsI 34)) (((w5.alloc (.cells zsI 34)).alloc (.cells zsI 34)).alloc (.cells zsB 35)) := ((Only.refl _ _).alloc _).alloc _
    have o3 : Only [] ((w5.alloc (.cells zsI 34)).alloc (.cells zsI 34)) (((w5.alloc (.cells zsI 34)).alloc (.cells zsI 34)).alloc (.cells zsB 35)) := (Only.refl _ _).alloc _
    have o1 : Only [] w5 (((w5.alloc (.cells zsI 34)).alloc (.cells zsI 34)).alloc (.cells zsB 35)) := (((Only.refl _ _).alloc _).alloc _).alloc _
    exact ⟨hB5.trans (o1.below s5 (by simp)), ⟨by omega, by omega, by omega, by omega, by omega⟩, hR.only o1 (by simp), inv_start h1 (by omega) h3 h4, x1.only o2 (by simp), x2.only o3 (by simp), x3, by omega, by omega, rel_start⟩
  clear hb5 hR hc0 HB4 H1 H2 H3 H4 HN hb1 hb2
  go_wp2_with fail
  clear zI zB
  obtain ⟨g1, hg1⟩ : ∃ g1, w5.heap.size = g1 := ⟨_, rfl⟩
  obtain ⟨g2, hg2⟩ : ∃ g2, g1 + 1 = g2 := ⟨_, rfl⟩
  obtain ⟨g3, hg3⟩ : ∃ g3, g2 + 1 = g3 := ⟨_, rfl⟩
  rw [hg1] at HS0
  rw [hg2] at HS0
  rw [hg3] at HS0
  try rw [hg1]
  try rw [hg2]
  try rw [hg3]
  clear hg1 hg2 hg3
  go_loopg [19, 23, 24, 25, 26, 27, 28, 29, 30, 31, 32, 33] 60 (fun g now' i' _ _ _ _ _ _ _ _ _ _ wr => ∃ (k : Nat) (now nw T : Int) (M : Its) (Wn Of : Nat → Int) (Cm : Nat → Bool), k + g = 60 ∧ now' = .int .i64 now ∧ i' = .int .i64 (k : Int) ∧ Hid (nw ≤ now ∧ 0 ≤ now ∧ now ≤ 1000 * k) ∧ Hid (ASt w wr b mb g1 g2 g3 ag tr nw T M Wn Of Cm))
  case atStart => exact ⟨0, 0, 0, -1, [], _, _, _, by omega, rfl, rfl, hidden ⟨by omega, by omega, by simp⟩, HS0⟩
  case round =>
    obtain ⟨k, now, nw, T, M, Wn, Of, Cm, hkg, rfl, rfl, HNow, HS⟩ := hrel
    clear HS0
    by_cases hend : k < ll
    case neg =>
      have hkz : ¬ (k : Int) < (ll : Int) := by omega
      go_wp2_with fail
      go_ret
      exact ⟨rfl, HS.out.bel⟩
    have hkz : (k : Int) < (ll : Int) := by omega
    by_cases h60 : k < 60
    case neg =>
      have h60z : ¬ (k : Int) < 60 := by omega
      go_wp2_with fail
      go_ret
      exact ⟨rfl, HS.out.bel⟩
    have h60z : (k : Int) < 60 := by omega
    obtain ⟨lb, lofs, rfl, hlb, hcell⟩ := hZ.out k hend
    have cz : wr.cell? ⟨lb, lofs + k, none⟩ = some (.int .i64 (Z k)) := (HS.out.bel.cell (p := ⟨lb, lofs + k, none⟩) hlb).trans hcell
    obtain ⟨z, hz⟩ : ∃ z, Z k = z := ⟨_, rfl⟩
    rw [hz] at cz
    clear hcell hz
    obtain ⟨tb, htb⟩ : ∃ tb : Bool, (decide (k < lt) && decide (0 ≤ Y k) && decide (Y k < 1000)) = tb := ⟨_, rfl⟩
    have HTb := hidden htb
    clear htb
    go_upto_region 19 with fail
    go_cut [141] from 114 to 141 (fun c wx => c = .bool tb ∧ wx = wr)
    case first =>
      by_cases q1 : k < lt
      · have q1z : (k : Int) < (lt : Int) := by omega
        obtain ⟨tbk, tof, rfl, htbk, htc⟩ := hY.out k q1
        have ct2 : wr.cell? ⟨tbk, tof + k, none⟩ = some (.int .i64 (Y k)) := (HS.out.bel.cell (p := ⟨tbk, tof + k, none⟩) htbk).trans htc
        obtain ⟨yy, hyy⟩ : ∃ yy, Y k = yy := ⟨_, rfl⟩
        rw [hyy] at ct2 HTb
        clear hyy htc
        by_cases q2 : 0 ≤ yy
        · have q2b : decide (0 ≤ yy) = true := by simpa using q2
          have e := hidden (by rw [← HTb.out]; simp [q1, q2] : decide (yy < 1000) = tb)
          clear HTb
          go_wp2_with fail
          go_meet
          exact ⟨congrArg Value.bool e.out, rfl⟩
        · have q2b : decide (0 ≤ yy) = false := by simpa using q2
          have e := hidden (by rw [← HTb.out]; simp [q2] : false = tb)
          clear HTb
          go_wp2_with fail
          go_meet
          exact ⟨congrArg Value.bool e.out, rfl⟩
      · have q1z : ¬ (k : Int) < (lt : Int) := by omega
        have e := hidden (by rw [← HTb.out]; simp [q1] : false = tb)
        clear HTb
        go_wp2_with fail
        go_meet
        exact ⟨congrArg Value.bool e.out, rfl⟩
    case rest =>
      obtain ⟨rfl, rfl⟩ := hcut
      go_upto_if 141 with fail
      go_cut [19] from 142 to 147 (fun n' wx => ∃ now2 : Int, n' = .int .i64 now2 ∧ Hid (now ≤ now2 ∧ now2 ≤ now + 999) ∧ wx = wc)
      case first =>
        cases tb with
        | true =>
          have ht := HTb.out
          simp only [Bool.and_eq_true, decide_eq_true_eq] at ht
          obtain ⟨⟨q1, q2⟩, q3⟩ := ht
          obtain ⟨tbk, tof, rfl, htbk, htc⟩ := hY.out k q1
          have q1z : (k : Int) < (lt : Int) := by omega
          have ct2 : wc.cell? ⟨tbk, tof + k, none⟩ = some (.int .i64 (Y k)) := (HS.out.bel.cell (p := ⟨tbk, tof + k, none⟩) htbk).trans htc
          obtain ⟨yy, hyy⟩ : ∃ yy, Y k = yy := ⟨_, rfl⟩
          rw [hyy] at ct2 q2 q3
          have hn0 := HNow.out.2.1
          have hn1 : now ≤ 60000 := by have := HNow.out.2.2; omega
          clear hyy htc HTb
          go_wp2_with fail
          go_meet
          exact ⟨now + yy, rfl, ⟨by omega, by omega⟩, rfl⟩
        | false =>
          go_wp2_with fail
          go_meet
          exact ⟨now, rfl, ⟨by omega, by omega⟩, rfl⟩
      case rest =>
        obtain ⟨now2, rfl, HN2, rfl⟩ := hcut
        have hn0 : 0 ≤ now2 := by have := HNow.out.2.1; have := HN2.out.1; omega
        have hn1 : now2 ≤ 60000 := by have := HNow.out.2.2; have := HN2.out.2; omega
        have HNw : Hid (nw ≤ now2 ∧ now2 ≤ 1000 * ((k + 1 : Nat) : Int)) := by have q1 := HNow.out; have q2 := HN2.out; exact hidden ⟨by omega, by omega⟩
        clear HNow HN2 HTb
        obtain ⟨rb, hrb⟩ : ∃ rb : Bool, decide (0 ≤ z ∧ z < 150) = rb := ⟨_, rfl⟩
        have HRb := hidden hrb
        clear hrb
        go_upto_region 22 with fail
        go_cut [157] from 148 to 157 (fun c wx => c = .bool rb ∧ wx = wc)
        case first =>
          by_cases q1 : 0 ≤ z
          · have d1 : decide (0 ≤ z) = true := by simpa using q1
            have e := hidden (by rw [← HRb.out]; simp [q1] : decide (z < 150) = rb)
            go_wp2_with fail
            go_meet
            exact ⟨congrArg Value.bool e.out, rfl⟩
          · have d1 : decide (0 ≤ z) = false := by simpa using q1
            have e := hidden (by rw [← HRb.out]; simp [q1] : false = rb)
            go_wp2_with fail
            go_meet
            exact ⟨congrArg Value.bool e.out, rfl⟩
        case rest =>
          obtain ⟨rfl, rfl⟩ := hcut
          clear cz
          go_upto_if 157 with fail
          go_cut [25, 26] from 158 to 176 (fun _ _ wx => ∃ (nw2 T2 : Int) (M2 : Its) (Cm2 : Nat → Bool), Hid (nw2 ≤ now2) ∧ Hid (ASt w wx b mb g1 g2 g3 ag tr nw2 T2 M2 Wn Of Cm2))
          case first =>
            cases rb with
            | true =>
              have hr : 0 ≤ z ∧ z < 150 := by simpa using HRb.out
              clear HRb
              obtain ⟨y, rfl⟩ : ∃ y : Nat, z = (y : Int) := ⟨z.toNat, by omega⟩
              have hy : y < 150 := by omega
              have hyz : (y : Int) < 300 := by omega
              have hyn : (0 : Int) ≤ (y : Int) := by omega
              have h0 := hear_in HS.out.inv HS.out.top y hy HNw.out.1 hn0 (by omega)
              have hC := fun W h => hear_calls b mb ag tr nw T y now2 M (.slice none 0 0) [] W h HS.out.inv
              have eB : hB nw T M y now2 = hx T M y := by simp [hB, h0]
              rw [eB, h0, errv_zero] at hC
              have HStep := hidden (fun w1 hg ho => HS.out.heard (w1 := w1) hy h0 hg ho)
              have HCm := hidden (rel_hear HS.out.rel HS.out.inv y h0).1
              obtain ⟨xb, hxb⟩ : ∃ xb, hx T M y = xb := ⟨_, rfl⟩
              rw [hxb] at hC HCm
              have HC := hidden hC
              obtain ⟨cb, hcb⟩ : ∃ cb, Cm y = cb := ⟨_, rfl⟩
              rw [hcb] at HCm
              have HCb := hidden hcb
              clear hC hxb hcb eB h0 hr
              cases xb with
              | true =>
                obtain rfl := HCm.out rfl
                go_wp2_with fail
                refine (HC.out _ (by exact HS.out.gaps)).mono ?_
                rintro e w1 ⟨rfl, hg, ho⟩
                obtain ⟨_, hA3, hS1⟩ := HStep.out w1 hg ho
                have c3 := hA3.cell (j := y) (by omega)
                rw [HCb.out] at c3
                have f3 := hA3.free y
                have HS1 := hidden hS1
                clear hA3 hS1 hg ho
                go_wp2_with fail
                go_meet
                exact ⟨now2, _, _, _, hidden (Int.le_refl _), HS1⟩
              | false =>
                go_wp2_with fail
                refine (HC.out _ (by exact HS.out.gaps)).mono ?_
                rintro e w1 ⟨rfl, hg, ho⟩
                obtain ⟨_, hA3, hS1⟩ := HStep.out w1 hg ho
                have c3 := hA3.cell (j := y) (by omega)
                rw [HCb.out] at c3
                have f3 := hA3.free y
                have HS1 := hidden hS1
                clear hA3 hS1 hg ho
                go_wp2_with fail
                go_meet
                exact ⟨now2, _, _, _, hidden (Int.le_refl _), HS1⟩
            | false =>
              clear HRb
              go_wp2_with fail
              go_meet
              exact ⟨nw, T, M, Cm, hidden HNw.out.1, HS⟩
          case rest =>
            obtain ⟨nw2, T2, M2, Cm2, HL2, HS2⟩ := hcut
            clear HS
            have ht : tf nw2 now2 = 0 := by have := HL2.out; unfold tf; rw [if_neg (by omega), if_neg (by omega)]
            have HD := hidden (fun W h => due_ok b mb ag tr nw2 T2 now2 M2 (.slice none 0 0) [] W h HS2.out.inv ht (by have := HS2.out.inv.len; simp; omega))
            have HIn := hidden (inv_due HS2.out.inv ht)
            have HTake := hidden (rel_after (now := now2) HS2.out.rel HS2.out.inv)
            have HDu := hidden (fun d hd => due_at (now := now2) (d := d) HS2.out.rel HS2.out.inv HS2.out.top hd)
            have HGu := hidden (fun d hd => gave_at (now := now2) (d := d) HS2.out.rel HS2.out.inv HS2.out.top hd)
            have HUp1 := hidden (up_due (ag := ag) (tr := tr) (now := now2) HS2.out.inv.ris)
            have HUp2 := hidden (up_gave (ag := ag) (tr := tr) (now := now2) HS2.out.inv.ris)
            have hL200 : (dueL ag tr now2 M2).length ≤ 200 := by have h1 := due_len ag tr now2 M2; have h2 := HS2.out.inv.len; omega
            have hG200 : (gaveL ag tr now2 M2).length ≤ 200 := by have h1 := gave_len ag tr now2 M2; have h2 := HS2.out.inv.len; omega
            obtain ⟨L, hL⟩ : ∃ L, dueL ag tr now2 M2 = L := ⟨_, rfl⟩
            obtain ⟨G, hG⟩ : ∃ G, gaveL ag tr now2 M2 = G := ⟨_, rfl⟩
            obtain ⟨M3, hM3⟩ : ∃ M3, dM ag tr now2 M2 = M3 := ⟨_, rfl⟩
            rw [hL, hG, hM3] at HD
            rw [hM3] at HIn
            rw [hL, hG, hM3] at HTake
            rw [hL] at HDu HUp1 hL200 HGu
            rw [hG] at HGu HUp2 hG200
            rw [List.nil_append] at HD
            clear hL hG hM3 ht
            go_wp2_with fail
            refine (HD.out _ (by exact HS2.out.gaps)).mono ?_
            rintro e w6 ⟨dv, rfl, gv2, hg6, hrow6, hgb6, ho6⟩
            obtain ⟨da, dc, rfl, hda, _, _, hdg⟩ := own_ints hrow6 (by omega)
            obtain ⟨ga, gc, rfl, _, _, _, hgg⟩ := own_ints hg6.row (by omega)
            have ho6' : Only [b, mb] wc w6 := ho6.mono (by intro k hk; simpa [blks, Value.ownBlock] using hk)
            obtain ⟨lb1, lb2, l3, l4, l5⟩ := HS2.out.lo
            have htop := HS2.out.top
            have hne12 := HS2.out.ne
            have lt1 := HS2.out.a1.lt
            have lt2 := HS2.out.a2.lt
            have lt3 := HS2.out.a3.lt
            have HQ0 : Hid (QSt w w6 b mb g1 g2 g3 ag tr now2 T2 M3 Wn Of Cm2 da (.slice ga G.length gc) G L 0) := by
              refine ⟨HS2.out.bel.trans (ho6'.below HS2.out.bel.size (by intro k hk; simp at hk; omega)), hg6, hda, ?_, ?_, ?_, HS2.out.a3.only ho6' (off2 (HS2.out.a3.off HS2.out.gaps))⟩
              · intro gb o e
                obtain ⟨g', e', q1, q2⟩ := hdg ⟨gb, o, none⟩ e
                cases e'
                omega
              · rw [List.take_zero, wnK_nil]
                exact HS2.out.a1.only ho6' (off2 (HS2.out.a1.off HS2.out.gaps))
              · rw [List.take_zero, ofK_nil]
                exact HS2.out.a2.only ho6' (off2 (HS2.out.a2.off HS2.out.gaps))
            have HGb : Hid (∀ j, (Value.slice ga G.length gc).ownBlock = some j → w.heap.size ≤ j ∧ j ≠ g3) := by
              refine hidden (fun j hj => ?_)
              have q := (hgb6 j hj).1
              simp [Value.ownBlock] at q
              have := HS2.out.bel.size
              omega
            have HNx := hidden HNw.out.2
            clear hg6 hrow6 hgb6 ho6 ho6' hda hdg hgg HD HS2 HNw lt1 lt2 lt3
            go_wp2_with fail
            go_loopg [29, 30] L.length (fun g k' _ wq => ∃ (q : Nat), q + g = L.length ∧ k' = .int .i64 (q : Int) ∧ Hid (QSt w wq b mb g1 g2 g3 ag tr now2 T2 M3 Wn Of Cm2 da (.slice ga G.length gc) G L q))
            case atStart => exact ⟨0, by omega, rfl, HQ0⟩
            case round =>
              obtain ⟨q, hqg, rfl, HQ⟩ := hrel
              clear HQ0
              by_cases hq : q < L.length
              · have hqz : (q : Int) < (L.length : Int) := by omega
                obtain ⟨db, dofs, rfl, hcells⟩ := HQ.out.due.at (by omega)
                have cd := hcells q hq
                obtain ⟨u1, u2, u3, u4⟩ := up_next HUp1.out hq
                obtain ⟨y, hy, hy150, hcm, hof0, hof1, hno, hvb⟩ := HDu.out _ u1
                rw [hy] at cd u2 u4
                have c1 := HQ.out.a1.cell (j := y) (by omega)
                have c2 := HQ.out.a2.cell (j := y) (by omega)
                have c3 := HQ.out.a3.cell (j := y) (by omega)
                rw [wnK_out u2] at c1
                rw [ofK_out u2] at c2
                rw [hcm] at c3
                have f2 := HQ.out.a2.free y
                have HQn := HQ.out.step HUp1.out hq hy hy150 l3 l4 hne12
                rw [ofK_out u2] at HQn
                obtain ⟨o, ho⟩ : ∃ o, Of y = o := ⟨_, rfl⟩
                obtain ⟨v, hv⟩ : ∃ v, Wn y = v := ⟨_, rfl⟩
                rw [ho] at c2 HQn hof0 hof1 hno hvb
                rw [hv] at c1 hno hvb
                have oS : Only [g2] wr (wr.setCell ⟨g2, y, none⟩ (.int .i64 (o + 1))) := (Only.refl _ _).setCell (by simp) _
                have hA1 := HQ.out.a1.only oS (by simp; exact hne12)
                have c1s := hA1.cell (j := y) (by omega)
                rw [wnK_out u2, hv] at c1s
                have f1s := hA1.free y
                have HQ2 := hidden HQn
                have y0 : ¬ (y : Int) < 0 := by omega
                have y1 : ¬ (150 : Int) ≤ (y : Int) := by omega
                have y2 : (y : Int) < 300 := by omega
                have y3 : (0 : Int) ≤ (y : Int) := by omega
                have t1 : ¬ tr ≤ o := by omega
                have HU4 := hidden u4
                have HCe := hidden hcells
                clear hcells HQn hA1 oS u1 u2 u3 u4 hy hcm ho hv HQ hof1
                by_cases p : 0 < o
                · have pn : ¬ now2 - v < ag := fun h => hno ⟨p, h⟩
                  obtain ⟨v0, v1⟩ := hvb p
                  have v2 : v ≤ now2 := by have := HL2.out; omega
                  clear hno hvb
                  by_cases r : 0 < q
                  · have rz : (0 : Int) < (q : Int) := by omega
                    have cp := HCe.out (q - 1) (by omega)
                    obtain ⟨pv, hpv⟩ : ∃ pv, L.getD (q - 1) 0 = pv := ⟨_, rfl⟩
                    have u5 := HU4.out r
                    rw [hpv] at cp u5
                    have u6 : ¬ (y : Int) ≤ pv := by omega
                    have cp2 : wr.cell? ⟨db, dofs + ((q : Int) - 1).toNat, none⟩ = some (.int .i64 pv) := by rw [show ((q : Int) - 1).toNat = q - 1 by omega]; exact cp
                    clear hpv u5
                    go_wp2_with fail
                    go_roundg (L.length - (q + 1))
                    case measure => omega
                    case rel => exact ⟨q + 1, by omega, by go_num, HQ2⟩
                  · have rz : ¬ (0 : Int) < (q : Int) := by omega
                    go_wp2_with fail
                    go_roundg (L.length - (q + 1))
                    case measure => omega
                    case rel => exact ⟨q + 1, by omega, by go_num, HQ2⟩
                · clear hno hvb
                  by_cases r : 0 < q
                  · have rz : (0 : Int) < (q : Int) := by omega
                    have cp := HCe.out (q - 1) (by omega)
                    obtain ⟨pv, hpv⟩ : ∃ pv, L.getD (q - 1) 0 = pv := ⟨_, rfl⟩
                    have u5 := HU4.out r
                    rw [hpv] at cp u5
                    have u6 : ¬ (y : Int) ≤ pv := by omega
                    have cp2 : wr.cell? ⟨db, dofs + ((q : Int) - 1).toNat, none⟩ = some (.int .i64 pv) := by rw [show ((q : Int) - 1).toNat = q - 1 by omega]; exact cp
                    clear hpv u5
                    go_wp2_with fail
                    go_roundg (L.length - (q + 1))
                    case measure => omega
                    case rel => exact ⟨q + 1, by omega, by go_num, HQ2⟩
                  · have rz : ¬ (0 : Int) < (q : Int) := by omega
                    go_wp2_with fail
                    go_roundg (L.length - (q + 1))
                    case measure => omega
                    case rel => exact ⟨q + 1, by omega, by go_num, HQ2⟩
              · have hqz : ¬ (q : Int) < (L.length : Int) := by omega
                obtain rfl : q = L.length := by omega
                have HU := hidden (fun W h => gaveUp_calls b mb ag tr now2 T2 M3 (.slice ga G.length gc) G W h (by omega))
                rw [up_sorted HUp2.out] at HU
                go_wp2_with fail
                refine (HU.out _ (by exact HQ.out.gaps)).mono ?_
                rintro e w7 ⟨rfl, hg7, hrow7, ho7⟩
                obtain ⟨ga', gc', eg, hga, _, _, hgg⟩ := own_ints hrow7 (by omega)
                cases eg
                have HG0 : Hid (GSt w w7 b mb g1 g2 g3 ag tr now2 T2 M3 (wnK Wn now2 L) (ofK Of L) Cm2 ga G 0) := by
                  have hq := HQ.out
                  have b1 := hq.a1
                  have b2 := hq.a2
                  rw [List.take_length] at b1 b2
                  refine ⟨hq.bel.trans (ho7.below hq.bel.size ?_), hg7, hga, ?_, b1.only ho7 (b1.off hq.gaps), b2.only ho7 (b2.off hq.gaps), ?_⟩
                  · intro k hk
                    simp only [blks, List.mem_cons, Option.mem_toList] at hk
                    rcases hk with rfl | rfl | hk
                    · exact lb1
                    · exact lb2
                    · exact (HGb.out k hk).1
                  · intro gb o e
                    exact (HGb.out gb (by rw [e]; rfl)).2
                  · rw [List.take_zero, cmK_nil]
                    exact hq.a3.only ho7 (hq.a3.off hq.gaps)
                clear hg7 hrow7 ho7 hga hgg HQ HU
                go_wp2_with fail
                go_loopg [32, 33] G.length (fun g k' _ wq => ∃ (q : Nat), q + g = G.length ∧ k' = .int .i64 (q : Int) ∧ Hid (GSt w wq b mb g1 g2 g3 ag tr now2 T2 M3 (wnK Wn now2 L) (ofK Of L) Cm2 ga G q))
                case atStart => exact ⟨0, by omega, rfl, HG0⟩
                case round =>
                  obtain ⟨q, hqg, rfl, HQ⟩ := hrel
                  clear HG0
                  by_cases hq : q < G.length
                  · have hqz : (q : Int) < (G.length : Int) := by omega
                    obtain ⟨db, dofs, rfl, hcells⟩ := HQ.out.gave.at (by omega)
                    have cd := hcells q hq
                    obtain ⟨u1, u2, u3, u4⟩ := up_next HUp2.out hq
                    obtain ⟨y, hy, hy150, hcm, hof⟩ := HGu.out _ u1
                    rw [hy] at cd u2
                    have c2 := HQ.out.a2.cell (j := y) (by omega)
                    have c3 := HQ.out.a3.cell (j := y) (by omega)
                    rw [hof] at c2
                    rw [cmK_out u2, hcm] at c3
                    have f3 := HQ.out.a3.free y
                    have HQ2 := hidden (HQ.out.step HUp2.out hq hy hy150 l5)
                    have y0 : ¬ (y : Int) < 0 := by omega
                    have y1 : ¬ (150 : Int) ≤ (y : Int) := by omega
                    have y2 : (y : Int) < 300 := by omega
                    have y3 : (0 : Int) ≤ (y : Int) := by omega
                    clear hcells u1 u2 u3 u4 hy hcm hof HQ
                    go_wp2_with fail
                    go_roundg (G.length - (q + 1))
                    case measure => omega
                    case rel => exact ⟨q + 1, by omega, by go_num, HQ2⟩
                  · have hqz : ¬ (q : Int) < (G.length : Int) := by omega
                    obtain rfl : q = G.length := by omega
                    have HF : Hid (ASt w wr b mb g1 g2 g3 ag tr now2 T2 M3 (wnK Wn now2 L) (ofK Of L) (cmK Cm2 G)) := by
                      have hq := HQ.out
                      have b3 := hq.a3
                      rw [List.take_length] at b3
                      exact ⟨hq.bel, ⟨lb1, lb2, l3, l4, l5⟩, hq.gaps, HIn.out, hq.a1, hq.a2, b3, hne12, htop, HTake.out⟩
                    clear HQ
                    go_wp2_with fail
                    go_roundg (60 - (k + 1))
                    case measure => omega
                    case rel => exact ⟨k + 1, now2, now2, T2, M3, _, _, _, by omega, rfl, by go_num, hidden ⟨Int.le_refl _, hn0, HNx.out⟩, HF⟩

theorem walk (ag tr : Int) (al at_ : Option Addr) (ll cl lt ct : Nat) (Z Y : Nat → Int) (w : World) (hll : ll ≤ 9223372036854775807) (hlt : lt ≤ 9223372036854775807)
    (hZ : ∀ j, j < ll → ∃ b o, al = some ⟨b, o, none⟩ ∧ b < w.heap.size ∧ w.cell? ⟨b, o + j, none⟩ = some (.int .i64 (Z j)))
    (hY : ∀ j, j < lt → ∃ b o, at_ = some ⟨b, o, none⟩ ∧ b < w.heap.size ∧ w.cell? ⟨b, o + j, none⟩ = some (.int .i64 (Y j))) :
    Calls Try.prog 4 #[.int .i64 ag, .int .i64 tr, .slice al ll cl, .slice at_ lt ct] w fun e w' => e = .returned (.bool true) ∧ Below w.heap.size w w' := by
  by_cases h : ag < 1 ∨ 1000000 < ag ∨ tr < 1 ∨ 20 < tr
  · exact walk_bad ag tr _ _ w h
  · by_cases h2 : 1000 < ag
    · exact walk_far ag tr _ _ w h2 (by omega) (by omega) (by omega)
    · exact walk_in ag tr al at_ ll cl lt ct Z Y w (by omega) (by omega) (by omega) (by omega) hll hlt hZ hY
end Go.Proofs.Ytnnehhgdinclgad.GAsk
