/-
  The walk of the Go function OrderPlays: it returns true. Its condition: package errors' variable errorType is as its text lays it.
-/
import Derived.Test.YtenjemcehhocoaeDoorOSame
import Derived.LoopTactic
import Derived.Deep.CutRange
import Derived.Deep.LoopGhost
namespace Go.Proofs.YtenjemcehhocoaeDoor.OPlays
open Go.ChangeShapes Go.WideShapes Go.ChangeAt Go.RowKit Go.Proofs.YtenjemcehhocoaeDoor.PM Go.Proofs.YtenjemcehhocoaeDoor.Mem Go.Proofs.YtenjemcehhocoaeDoor.Pack Go.Proofs.YtenjemcehhocoaeDoor.OM Go.Proofs.YtenjemcehhocoaeDoor.Order Go.Proofs.YtenjemcehhocoaeDoor.ROrder
set_option linter.unusedVariables false

/-- three numbers in memory -/
def V3 (w : World) (vb : Nat) (v0 v1 v2 : Int) : Prop := w.heap[vb]? = some (.cells #[.int .i64 v0, .int .i64 v1, .int .i64 v2] 34 (0, 0))
theorem v3_cells {w : World} {vb : Nat} {v0 v1 v2 : Int} (h : V3 w vb v0 v1 v2) : w.cell? ⟨vb, 0, none⟩ = some (.int .i64 v0) ∧ w.cell? ⟨vb, 1, none⟩ = some (.int .i64 v1) ∧ w.cell? ⟨vb, 2, none⟩ = some (.int .i64 v2) := by
  unfold V3 at h
  refine ⟨?_, ?_, ?_⟩ <;> simp [World.cell?, h]
theorem v3_cell {w : World} {vb : Nat} {v0 v1 v2 : Int} (h : V3 w vb v0 v1 v2) (j : Nat) (hj : j < 3) : ∃ x, w.cell? ⟨vb, j, none⟩ = some (.int .i64 x) := by
  obtain ⟨c0, c1, c2⟩ := v3_cells h
  match j, hj with
  | 0, _ => exact ⟨_, c0⟩
  | 1, _ => exact ⟨_, c1⟩
  | 2, _ => exact ⟨_, c2⟩
theorem v3_set {w : World} {vb : Nat} {v0 v1 v2 : Int} (h : V3 w vb v0 v1 v2) (j : Nat) (hj : j < 3) (x : Int) : ∃ u0 u1 u2, V3 (w.setCell ⟨vb, j, none⟩ (.int .i64 x)) vb u0 u1 u2 := by
  match j, hj with
  | 0, _ => exact ⟨x, v1, v2, setb h 0 _⟩
  | 1, _ => exact ⟨v0, x, v2, setb h 1 _⟩
  | 2, _ => exact ⟨v0, v1, x, setb h 2 _⟩
theorem v3_free {w : World} {vb : Nat} {v0 v1 v2 : Int} (h : V3 w vb v0 v1 v2) (j : Nat) : w.frozen? ⟨vb, j, none⟩ = false := freeb h j
/-- all blocks of both lie below a number -/
def Low (vb b mb rb : Nat) (v : Value) : Prop := (∀ q ∈ [b, mb], q < vb) ∧ ∀ q ∈ rb :: v.ownBlock.toList, q < vb
theorem BSt.low {w W : World} {b mb rb : Nat} {wt nw nx : Int} {M : Its} {nw' nx' : Int} {N : Its} {v : Value} (h : BSt w W b mb rb wt nw nx M nw' nx' N v) : Low W.heap.size b mb rb v := by
  have := h.ord.lt
  refine ⟨by simp; omega, fun q hq => ?_⟩
  rcases List.mem_cons.1 hq with rfl | hq
  · exact lt_of_block h.ref.box
  · exact (h.ref.row.lt q (by simpa using hq)).2

set_option maxHeartbeats 1000000 in
set_option maxRecDepth 100000 in
theorem walk_err (wt : Int) (vs vp : Value) (w : World) (hg : w.cell? ⟨0, 0, none⟩ = some (.iface 95 (.agg #[.pointer (some ⟨1, 26, none⟩)]))) (h : wt < 0 ∨ 1000000 < wt) :
    Calls Tryd.prog 3 #[.int .i64 wt, vs, vp] w fun e w' => e = .returned (.bool true) ∧ Below w.heap.size w w' := by
  have HN := hidden (fun w => new_err wt w h)
  have HG := hidden hg
  rw [errv_pos (by decide)] at HN
  clear hg
  by_cases c0 : wt < 0
  · clear h
    go_enter Tryd.func3, Tryd.ntmps3
    go_wp2_with fail
    refine (HN.out _).mono ?_
    rintro e w' ⟨rfl, rfl⟩
    go_wp2_with fail
    refine (Told.same_err 1 1 _ (by decide) (by decide) HG.out).mono ?_
    rintro e w1 ⟨rfl, hb⟩
    go_wp2_with fail
    go_ret
    exact ⟨rfl, hb⟩
  · have c1 : 1000000 < wt := by omega
    clear h
    go_enter Tryd.func3, Tryd.ntmps3
    go_wp2_with fail
    refine (HN.out _).mono ?_
    rintro e w' ⟨rfl, rfl⟩
    go_wp2_with fail
    refine (Told.same_err 1 1 _ (by decide) (by decide) HG.out).mono ?_
    rintro e w1 ⟨rfl, hb⟩
    go_wp2_with fail
    go_ret
    exact ⟨rfl, hb⟩

set_option maxHeartbeats 16000000 in
set_option maxRecDepth 100000 in
theorem walk_ok (wt : Int) (sa pa : Option Addr) (ls cs lp cp : Nat) (Z : Nat → Int) (Fp : Nat → Pk) (w : World) (hg : w.cell? ⟨0, 0, none⟩ = some (.iface 95 (.agg #[.pointer (some ⟨1, 26, none⟩)]))) (hw0 : 0 ≤ wt) (hw1 : wt ≤ 1000000) (hR : Open.NRows w sa ls Z) (hF : Open.Pks w pa lp Fp) :
    Calls Tryd.prog 3 #[.int .i64 wt, .slice sa ls cs, .slice pa lp cp] w fun e w' => e = .returned (.bool true) ∧ Below w.heap.size w w' := by
  have hls := hR.1
  have hlp := hF.1
  have HRs := hidden hR.2
  have HFp := hidden hF.2
  have HG := hidden hg
  have HN := hidden (fun w => new_ok wt w hw0 hw1)
  have h0s : 0 < w.heap.size := World.block_lt_of_cell? w ⟨0, 0, none⟩ hg
  clear hR hg hF
  go_enter Tryd.func3, Tryd.ntmps3
  go_wp2_with fail
  refine (HN.out _).mono ?_
  rintro e w1 ⟨b, mb, rfl, hb1, hb2, hR, hbl⟩
  have HR1 := hidden hR
  have HB1 := hidden hbl
  clear hR hbl HN
  go_wp2_with fail
  refine (Told.same_nil 0 _).mono ?_
  rintro e w2 ⟨rfl, rfl⟩
  go_wp2_with fail
  have HS0 : Hid (BSt w (w2.alloc (.cells #[.int .i64 wt, .int .i64 0, .int .i64 (-1), .slice none 0 0] 33)) b mb w2.heap.size wt 0 (-1) [] 0 (-1) [] (.slice none 0 0)) :=
    ⟨HB1.out.alloc HB1.out.size _, hb1, hb2, HB1.out.size, HR1.out.alloc _, ⟨heap_alloc_new _ _, World.ownsRow_nil _ _ _ _⟩⟩
  clear HR1 HB1 hb1 hb2
  obtain ⟨rb, hrb⟩ : ∃ rb, w2.heap.size = rb := ⟨_, rfl⟩
  rw [hrb] at HS0
  try rw [hrb]
  clear hrb
  go_loopg [12] 60 (fun g i' wr => ∃ (k : Nat) (nw nx : Int) (M N : Its) (v : Value), k + g = 60 ∧ i' = .int .i64 (k : Int) ∧ Hid (BSt w wr b mb rb wt nw nx M nw nx N v) ∧ Hid (Rel w nw nx M N))
  case atStart => exact ⟨0, 0, -1, [], [], _, by omega, rfl, HS0, hidden (rel_start w)⟩
  case round =>
    obtain ⟨k, nw, nx, M, N, v, hkg, rfl, HS, HRel⟩ := hrel
    clear HS0
    by_cases hend : k < ls
    case neg =>
      have hkz : ¬ (k : Int) < (ls : Int) := by omega
      go_wp2_with fail
      go_ret
      exact ⟨rfl, HS.out.bel⟩
    have hkz : (k : Int) < (ls : Int) := by omega
    by_cases h60 : k < 60
    case neg =>
      have h60z : ¬ (k : Int) < 60 := by omega
      go_wp2_with fail
      go_ret
      exact ⟨rfl, HS.out.bel⟩
    have h60z : (k : Int) < 60 := by omega
    obtain ⟨sb, so, a', l', c', rfl, hsb, hsc, hl', hrow⟩ := HRs.out k hend
    have HSc := hidden hsc
    have HRow := hidden hrow
    clear hsc hrow
    obtain ⟨vb, hvb⟩ : ∃ vb, wr.heap.size = vb := ⟨_, rfl⟩
    have HV0 : Hid (V3 (wr.alloc (.cells #[.int .i64 0, .int .i64 0, .int .i64 0] 34)) vb 0 0 0) := by rw [← hvb]; exact heap_alloc_new wr _
    have HLt : Hid (Low vb b mb rb v ∧ w.heap.size ≤ vb) := by rw [← hvb]; exact hidden ⟨HS.out.low, HS.out.bel.size⟩
    have HB0 : Hid (Below vb wr (wr.alloc (.cells #[.int .i64 0, .int .i64 0, .int .i64 0] 34))) := by rw [← hvb]; exact hidden ((Below.refl _ _).alloc (Nat.le_refl _) _)
    have HPs : Hid (∀ W, Below vb wr W → BSt w W b mb rb wt nw nx M nw nx N v) := by rw [← hvb]; exact hidden (fun W hb => HS.out.below hb)
    have HVb := hidden hvb
    clear hvb HS
    go_wp2_with fail
    rw [HVb.out]
    go_loopg [14] 3 (fun g j' wq => ∃ (j : Nat) (v0 v1 v2 : Int), j + g = 3 ∧ j' = .int .i64 (j : Int) ∧ Hid (V3 wq vb v0 v1 v2 ∧ Below vb wr wq))
    case atStart => exact ⟨0, 0, 0, 0, by omega, rfl, HV0.out, HB0.out⟩
    case round =>
      obtain ⟨wo, ewo⟩ : ∃ x, x = wr := ⟨_, rfl⟩
      obtain ⟨j, v0, v1, v2, hjg, rfl, HJ⟩ := hrel
      clear HV0 HB0 ewo wo
      have HQ := hidden (HPs.out _ HJ.out.2)
      have cs1 := (HQ.out.bel.cell (p := ⟨sb, so + k, none⟩) hsb).trans HSc.out
      obtain ⟨jb, hjb⟩ : ∃ jb : Bool, decide (j < l' ∧ j < 3) = jb := ⟨_, rfl⟩
      have HJb := hidden hjb
      clear hjb
      go_upto_region 14 with fail
      go_cut [69] from 59 to 69 (fun c wx => c = .bool jb ∧ wx = wr)
      case first =>
        by_cases q1 : j < l'
        · have q1z : (j : Int) < (l' : Int) := by omega
          have e := hidden (by rw [← HJb.out]; simp [q1]; omega : decide ((j : Int) < 3) = jb)
          clear HJb
          go_wp2_with fail
          go_meet
          exact ⟨congrArg Value.bool e.out, rfl⟩
        · have q1z : ¬ (j : Int) < (l' : Int) := by omega
          have e := hidden (by rw [← HJb.out]; simp [q1] : false = jb)
          clear HJb
          go_wp2_with fail
          go_meet
          exact ⟨congrArg Value.bool e.out, rfl⟩
      case rest =>
        obtain ⟨rfl, rfl⟩ := hcut
        cases jb with
        | true =>
          obtain ⟨hj1, hj3⟩ : j < l' ∧ j < 3 := by simpa using HJb.out
          clear HJb
          have hjz : (j : Int) < (l' : Int) := by omega
          have hj3z : (j : Int) < 3 := by omega
          have hj0 : (0 : Int) ≤ (j : Int) := by omega
          obtain ⟨xb, xo, x, rfl, hxb, hxc⟩ := HRow.out j hj1
          have cx := (HQ.out.bel.cell (p := ⟨xb, xo + j, none⟩) hxb).trans hxc
          obtain ⟨y, cy⟩ := v3_cell HJ.out.1 j hj3
          have fy := v3_free HJ.out.1 j
          obtain ⟨u0, u1, u2, hv3⟩ := v3_set HJ.out.1 j hj3 x
          have HN3 := hidden hv3
          have HBn := hidden (HJ.out.2.setCell (p := ⟨vb, j, none⟩) (Nat.le_refl _) (.int .i64 x))
          clear hxc hv3 HJ HQ
          go_wp2_with fail
          go_roundg (3 - (j + 1))
          case measure => omega
          case rel => exact ⟨j + 1, u0, u1, u2, by omega, by go_num, HN3.out, HBn.out⟩
        | false =>
          clear HJb cs1
          obtain ⟨wp, rfl⟩ : ∃ x, x = wc := ⟨_, rfl⟩
          have HV := hidden HJ.out.1
          have HBq : Hid (vb ≤ wp.heap.size) := by rw [← HVb.out]; exact hidden HJ.out.2.size
          have hvx : vb < wp.heap.size := lt_of_block HJ.out.1
          clear HJ
          go_upto_if 83 with fail
          go_cut [] from 84 to 90 (fun wx => ∃ (s t l q : Int) (st : Bool) (a : Option Addr) (m c : Nat) (L : List Nat), wx = wp.alloc (.cells #[.int .i64 s, .int .i64 t, .int .i64 l, .int .i64 q, .bool st, .slice a m c] 38) ∧ Hid (Arg w a m L ∧ (a = none → m = 0 ∧ c = 0)))
          case first =>
            by_cases hp : 0 < lp
            · have hj : k % lp < lp := Nat.mod_lt _ hp
              obtain ⟨pb, po, rfl, hpb, hat, a5, m5, c5, hbv, hok⟩ := HFp.out (k % lp) hj
              have hold : ∀ O (p : Addr) u, p.block < w.heap.size → w.cell? p = some u → (wp.alloc O).cell? p = some u := fun O p u hp hc => cell_alloc ((HQ.out.bel.cell hp).trans hc) O
              obtain ⟨q0, q1, q2, q3, q4, q5⟩ := hat
              rw [hbv] at q5
              obtain ⟨jj, hjj⟩ : ∃ jj, k % lp = jj := ⟨_, rfl⟩
              rw [hjj] at q0 q1 q2 q3 q4 q5 hj
              obtain ⟨P, hP⟩ : ∃ P, Fp (k % lp) = P := ⟨_, rfl⟩
              rw [hjj] at hP
              rw [hjj, hP] at hok
              rw [hP] at q0 q1 q2 q3 q4
              have r0 := fun O => hold O _ _ hpb q0
              have r1 := fun O => hold O _ _ hpb q1
              have r2 := fun O => hold O _ _ hpb q2
              have r3 := fun O => hold O _ _ hpb q3
              have r4 := fun O => hold O _ _ hpb q4
              have r5 := fun O => hold O _ _ hpb q5
              have hrem : (k : Int) % (lp : Int) = (jj : Int) := by rw [← hjj]; simp
              have hj0 : (0 : Int) ≤ (jj : Int) := by omega
              have hj1 : (jj : Int) < (lp : Int) := by omega
              have HOK := hidden hok
              clear hold q0 q1 q2 q3 q4 q5 hbv hok hP hjj
              go_wp2_with fail
              go_meet
              exact ⟨P.s, P.t, P.l, P.q, P.st, a5, m5, c5, P.L, rfl, HOK.out⟩
            · go_wp2_with fail
              go_meet
              exact ⟨0, 0, 0, 0, false, none, 0, 0, [], rfl, ⟨Bys.nil _ _, rfl, by omega⟩, fun _ => ⟨rfl, rfl⟩⟩
          case rest =>
            obtain ⟨s, t, l, q, st, a, m, c, L, hwc, HA⟩ := hcut
            have HSc : Hid (BSt w wc b mb rb wt nw nx M nw nx N v) := by rw [hwc]; exact HQ.out.below ((Below.refl _ _).alloc (Nat.le_refl _) _)
            have HX : Hid (Box wc wp.heap.size s t l q st (.slice a m c)) := by rw [hwc]; exact Box.new wp s t l q st (.slice a m c)
            have HVc : Hid (V3 wc vb v0 v1 v2) := by rw [hwc]; exact (Below.heap_alloc _ _ _ hvx).trans HV.out
            clear hwc HV HQ
            obtain ⟨c0, c1, c2⟩ := v3_cells HVc.out
            obtain ⟨x0, x1, x2, x3, x4, x5⟩ := HX.out.cells
            by_cases e0 : v0 = 0
            · subst e0
              have hC1 := rpush_calls w.heap.size rb wt nw nx v1 v2 s t l q st a m c L N v wc HSc.out.ref HRel.out.i2 HRel.out.slices HSc.out.bel.size
              have hC2 := fun W h hA => push_calls b mb wt nw nx v1 v2 s t l q st a m c L M W h HRel.out.i1 hA HA.out.2
              have hRp := fun bv => HRel.out.push v1 v2 (fault s t l q m) s t l q st L bv (.slice a m c) ⟨a, m, c, rfl, HA.out⟩
              have hF100 : pf nw nx v1 v2 (fault s t l q m) ≤ 100 := pf_le (by have := fault_cases s t l q m; omega)
              rw [HRel.out.like.px nw nx v1 v2 (fault s t l q m)] at hC2
              obtain ⟨X, hX⟩ : ∃ X, px nw nx v1 v2 N (fault s t l q m) = X := ⟨_, rfl⟩
              obtain ⟨F, hF⟩ : ∃ F, pf nw nx v1 v2 (fault s t l q m) = F := ⟨_, rfl⟩
              obtain ⟨nw2, hnw2⟩ : ∃ y, pW nw nx v1 v2 (fault s t l q m) = y := ⟨_, rfl⟩
              obtain ⟨nx2, hnx2⟩ : ∃ y, pX nw nx v1 v2 (fault s t l q m) = y := ⟨_, rfl⟩
              obtain ⟨N2, hN2⟩ : ∃ y, pM nw nx v1 v2 N (fault s t l q m) (⟨s, t, l, q, st, L, .slice a m c⟩ : Pk) = y := ⟨_, rfl⟩
              rw [hX, hF, hnw2, hnx2, hN2] at hC1
              rw [hF] at hF100
              simp only [hX, hF, hnw2, hnx2] at hC2
              simp only [hnw2, hnx2, hN2] at hRp
              have HC1 := hidden hC1
              have HC2 := hidden hC2
              have HRp := hidden hRp
              clear hC1 hC2 hRp hX hF hnw2 hnx2 hN2
              go_wp2_with fail
              refine HC1.out.mono ?_
              rintro e w11 ⟨rfl, v', hr, ho⟩
              have HT1 := hidden (HSc.out.refs ho hr)
              have hV11 : V3 w11 vb _ v1 v2 := ho.block HVc.out (fun hc => by have := HLt.out.1.2 vb hc; omega)
              have hX11 : Box w11 wp.heap.size s t l q st (.slice a m c) := ho.block HX.out (fun hc => by have := HLt.out.1.2 _ hc; have := HBq.out; omega)
              obtain ⟨d0, d1, d2⟩ := v3_cells hV11
              obtain ⟨y0, y1, y2, y3, y4, y5⟩ := hX11.cells
              clear hr ho hV11 hX11 c0 c1 c2 x0 x1 x2 x3 x4 x5 HC1
              go_wp2_with fail
              refine (HC2.out _ (by exact HT1.out.ord) (by exact HA.out.1.below HT1.out.bel)).mono ?_
              rintro e w12 ⟨rfl, bv, hO, ho2⟩
              have HT2 := hidden (HT1.out.ords ho2 hO)
              have HRel2 := hidden (HRp.out bv)
              obtain ⟨M2, hM2⟩ : ∃ y, pM nw nx v1 v2 M (fault s t l q m) (⟨s, t, l, q, st, L, bv⟩ : Pk) = y := ⟨_, rfl⟩
              rw [hM2] at HT2 HRel2
              clear hO ho2 d0 d1 d2 y0 y1 y2 y3 y4 y5 HC2 HRp HT1 hM2
              go_wp2_with fail
              refine (told_f F _ hF100 ((HT2.out.bel.cell (p := ⟨0, 0, none⟩) h0s).trans HG.out)).mono ?_
              rintro e w13 ⟨rfl, hb13⟩
              have HT := hidden (HT2.out.below hb13)
              clear hb13 HT2
              go_wp2_with fail
              obtain ⟨la, lc, rfl⟩ := own_form HT.out.ref.row
              have hS : w13.drew.cell? ⟨rb, 3, none⟩ = some (.slice la N2.length lc) ∧ Hid (BSt w w13.drew b mb rb wt nw2 nx2 M2 nw2 nx2 N2 (.slice la N2.length lc)) := ⟨HT.out.ref.cells.2.2.2, hidden (HT.out.below ((Below.refl _ _).drew))⟩
              have HLen : Hid (∀ W, (W.cell? ⟨rb, 3, none⟩ = some (.slice la N2.length lc) ∧ Hid (BSt w W b mb rb wt nw2 nx2 M2 nw2 nx2 N2 (.slice la N2.length lc))) → Calls Tryd.prog 13 #[.pointer (some ⟨b, 0, none⟩)] W fun e w' => e = .returned (.int .i64 (N2.length : Int)) ∧ (w'.cell? ⟨rb, 3, none⟩ = some (.slice la N2.length lc) ∧ Hid (BSt w w' b mb rb wt nw2 nx2 M2 nw2 nx2 N2 (.slice la N2.length lc)))) := by
                refine hidden ?_
                rintro W ⟨k0, hO⟩
                refine (len_calls b mb wt nw2 nx2 M2 W hO.out.ord HRel2.out.i1.one).mono ?_
                rintro e w' ⟨rfl, rfl⟩
                exact ⟨by rw [HRel2.out.like.len], k0, hO⟩
              have hl2 : N2.length ≤ 200 := HRel2.out.i2.len
              clear HT
              go_wp2_with fail
              go_region_held3 (fun w' => w'.cell? ⟨rb, 3, none⟩ = some (.slice la N2.length lc) ∧ Hid (BSt w w' b mb rb wt nw2 nx2 M2 nw2 nx2 N2 (.slice la N2.length lc))) (with_reducible assumption) (first | (go_at_call 13; refine (HLen.out _ (by with_reducible assumption)).mono ?_; rintro e w20 ⟨rfl, hS20⟩))
              have HS20 := hS20.2
              clear hS hS20 HLen
              go_wp2_with fail
              go_roundg (60 - (k + 1))
              case measure => omega
              case rel => exact ⟨k + 1, nw2, nx2, M2, N2, _, by omega, by go_num, HS20, HRel2⟩
            by_cases e1 : v0 = 1
            · subst e1
              have hC1 := rpush_calls w.heap.size rb wt nw nx v1 v2 s t l q st a m c L N v wc HSc.out.ref HRel.out.i2 HRel.out.slices HSc.out.bel.size
              have hC2 := fun W h hA => push_calls b mb wt nw nx v1 v2 s t l q st a m c L M W h HRel.out.i1 hA HA.out.2
              have hRp := fun bv => HRel.out.push v1 v2 (fault s t l q m) s t l q st L bv (.slice a m c) ⟨a, m, c, rfl, HA.out⟩
              have hF100 : pf nw nx v1 v2 (fault s t l q m) ≤ 100 := pf_le (by have := fault_cases s t l q m; omega)
              rw [HRel.out.like.px nw nx v1 v2 (fault s t l q m)] at hC2
              obtain ⟨X, hX⟩ : ∃ X, px nw nx v1 v2 N (fault s t l q m) = X := ⟨_, rfl⟩
              obtain ⟨F, hF⟩ : ∃ F, pf nw nx v1 v2 (fault s t l q m) = F := ⟨_, rfl⟩
              obtain ⟨nw2, hnw2⟩ : ∃ y, pW nw nx v1 v2 (fault s t l q m) = y := ⟨_, rfl⟩
              obtain ⟨nx2, hnx2⟩ : ∃ y, pX nw nx v1 v2 (fault s t l q m) = y := ⟨_, rfl⟩
              obtain ⟨N2, hN2⟩ : ∃ y, pM nw nx v1 v2 N (fault s t l q m) (⟨s, t, l, q, st, L, .slice a m c⟩ : Pk) = y := ⟨_, rfl⟩
              rw [hX, hF, hnw2, hnx2, hN2] at hC1
              rw [hF] at hF100
              simp only [hX, hF, hnw2, hnx2] at hC2
              simp only [hnw2, hnx2, hN2] at hRp
              have HC1 := hidden hC1
              have HC2 := hidden hC2
              have HRp := hidden hRp
              clear hC1 hC2 hRp hX hF hnw2 hnx2 hN2
              go_wp2_with fail
              refine HC1.out.mono ?_
              rintro e w11 ⟨rfl, v', hr, ho⟩
              have HT1 := hidden (HSc.out.refs ho hr)
              have hV11 : V3 w11 vb _ v1 v2 := ho.block HVc.out (fun hc => by have := HLt.out.1.2 vb hc; omega)
              have hX11 : Box w11 wp.heap.size s t l q st (.slice a m c) := ho.block HX.out (fun hc => by have := HLt.out.1.2 _ hc; have := HBq.out; omega)
              obtain ⟨d0, d1, d2⟩ := v3_cells hV11
              obtain ⟨y0, y1, y2, y3, y4, y5⟩ := hX11.cells
              clear hr ho hV11 hX11 c0 c1 c2 x0 x1 x2 x3 x4 x5 HC1
              go_wp2_with fail
              refine (HC2.out _ (by exact HT1.out.ord) (by exact HA.out.1.below HT1.out.bel)).mono ?_
              rintro e w12 ⟨rfl, bv, hO, ho2⟩
              have HT2 := hidden (HT1.out.ords ho2 hO)
              have HRel2 := hidden (HRp.out bv)
              obtain ⟨M2, hM2⟩ : ∃ y, pM nw nx v1 v2 M (fault s t l q m) (⟨s, t, l, q, st, L, bv⟩ : Pk) = y := ⟨_, rfl⟩
              rw [hM2] at HT2 HRel2
              clear hO ho2 d0 d1 d2 y0 y1 y2 y3 y4 y5 HC2 HRp HT1 hM2
              go_wp2_with fail
              refine (told_f F _ hF100 ((HT2.out.bel.cell (p := ⟨0, 0, none⟩) h0s).trans HG.out)).mono ?_
              rintro e w13 ⟨rfl, hb13⟩
              have HT := hidden (HT2.out.below hb13)
              clear hb13 HT2
              go_wp2_with fail
              obtain ⟨la, lc, rfl⟩ := own_form HT.out.ref.row
              have hS : w13.drew.cell? ⟨rb, 3, none⟩ = some (.slice la N2.length lc) ∧ Hid (BSt w w13.drew b mb rb wt nw2 nx2 M2 nw2 nx2 N2 (.slice la N2.length lc)) := ⟨HT.out.ref.cells.2.2.2, hidden (HT.out.below ((Below.refl _ _).drew))⟩
              have HLen : Hid (∀ W, (W.cell? ⟨rb, 3, none⟩ = some (.slice la N2.length lc) ∧ Hid (BSt w W b mb rb wt nw2 nx2 M2 nw2 nx2 N2 (.slice la N2.length lc))) → Calls Tryd.prog 13 #[.pointer (some ⟨b, 0, none⟩)] W fun e w' => e = .returned (.int .i64 (N2.length : Int)) ∧ (w'.cell? ⟨rb, 3, none⟩ = some (.slice la N2.length lc) ∧ Hid (BSt w w' b mb rb wt nw2 nx2 M2 nw2 nx2 N2 (.slice la N2.length lc)))) := by
                refine hidden ?_
                rintro W ⟨k0, hO⟩
                refine (len_calls b mb wt nw2 nx2 M2 W hO.out.ord HRel2.out.i1.one).mono ?_
                rintro e w' ⟨rfl, rfl⟩
                exact ⟨by rw [HRel2.out.like.len], k0, hO⟩
              have hl2 : N2.length ≤ 200 := HRel2.out.i2.len
              clear HT
              go_wp2_with fail
              go_region_held3 (fun w' => w'.cell? ⟨rb, 3, none⟩ = some (.slice la N2.length lc) ∧ Hid (BSt w w' b mb rb wt nw2 nx2 M2 nw2 nx2 N2 (.slice la N2.length lc))) (with_reducible assumption) (first | (go_at_call 13; refine (HLen.out _ (by with_reducible assumption)).mono ?_; rintro e w20 ⟨rfl, hS20⟩))
              have HS20 := hS20.2
              clear hS hS20 HLen
              go_wp2_with fail
              go_roundg (60 - (k + 1))
              case measure => omega
              case rel => exact ⟨k + 1, nw2, nx2, M2, N2, _, by omega, by go_num, HS20, HRel2⟩
            by_cases e2 : v0 = 2
            · subst e2
              have hC1 := rpush_calls w.heap.size rb wt nw nx v1 v2 s t l q st a m c L N v wc HSc.out.ref HRel.out.i2 HRel.out.slices HSc.out.bel.size
              have hC2 := fun W h hA => push_calls b mb wt nw nx v1 v2 s t l q st a m c L M W h HRel.out.i1 hA HA.out.2
              have hRp := fun bv => HRel.out.push v1 v2 (fault s t l q m) s t l q st L bv (.slice a m c) ⟨a, m, c, rfl, HA.out⟩
              have hF100 : pf nw nx v1 v2 (fault s t l q m) ≤ 100 := pf_le (by have := fault_cases s t l q m; omega)
              rw [HRel.out.like.px nw nx v1 v2 (fault s t l q m)] at hC2
              obtain ⟨X, hX⟩ : ∃ X, px nw nx v1 v2 N (fault s t l q m) = X := ⟨_, rfl⟩
              obtain ⟨F, hF⟩ : ∃ F, pf nw nx v1 v2 (fault s t l q m) = F := ⟨_, rfl⟩
              obtain ⟨nw2, hnw2⟩ : ∃ y, pW nw nx v1 v2 (fault s t l q m) = y := ⟨_, rfl⟩
              obtain ⟨nx2, hnx2⟩ : ∃ y, pX nw nx v1 v2 (fault s t l q m) = y := ⟨_, rfl⟩
              obtain ⟨N2, hN2⟩ : ∃ y, pM nw nx v1 v2 N (fault s t l q m) (⟨s, t, l, q, st, L, .slice a m c⟩ : Pk) = y := ⟨_, rfl⟩
              rw [hX, hF, hnw2, hnx2, hN2] at hC1
              rw [hF] at hF100
              simp only [hX, hF, hnw2, hnx2] at hC2
              simp only [hnw2, hnx2, hN2] at hRp
              have HC1 := hidden hC1
              have HC2 := hidden hC2
              have HRp := hidden hRp
              clear hC1 hC2 hRp hX hF hnw2 hnx2 hN2
              go_wp2_with fail
              refine HC1.out.mono ?_
              rintro e w11 ⟨rfl, v', hr, ho⟩
              have HT1 := hidden (HSc.out.refs ho hr)
              have hV11 : V3 w11 vb _ v1 v2 := ho.block HVc.out (fun hc => by have := HLt.out.1.2 vb hc; omega)
              have hX11 : Box w11 wp.heap.size s t l q st (.slice a m c) := ho.block HX.out (fun hc => by have := HLt.out.1.2 _ hc; have := HBq.out; omega)
              obtain ⟨d0, d1, d2⟩ := v3_cells hV11
              obtain ⟨y0, y1, y2, y3, y4, y5⟩ := hX11.cells
              clear hr ho hV11 hX11 c0 c1 c2 x0 x1 x2 x3 x4 x5 HC1
              go_wp2_with fail
              refine (HC2.out _ (by exact HT1.out.ord) (by exact HA.out.1.below HT1.out.bel)).mono ?_
              rintro e w12 ⟨rfl, bv, hO, ho2⟩
              have HT2 := hidden (HT1.out.ords ho2 hO)
              have HRel2 := hidden (HRp.out bv)
              obtain ⟨M2, hM2⟩ : ∃ y, pM nw nx v1 v2 M (fault s t l q m) (⟨s, t, l, q, st, L, bv⟩ : Pk) = y := ⟨_, rfl⟩
              rw [hM2] at HT2 HRel2
              clear hO ho2 d0 d1 d2 y0 y1 y2 y3 y4 y5 HC2 HRp HT1 hM2
              go_wp2_with fail
              refine (told_f F _ hF100 ((HT2.out.bel.cell (p := ⟨0, 0, none⟩) h0s).trans HG.out)).mono ?_
              rintro e w13 ⟨rfl, hb13⟩
              have HT := hidden (HT2.out.below hb13)
              clear hb13 HT2
              go_wp2_with fail
              obtain ⟨la, lc, rfl⟩ := own_form HT.out.ref.row
              have hS : w13.drew.cell? ⟨rb, 3, none⟩ = some (.slice la N2.length lc) ∧ Hid (BSt w w13.drew b mb rb wt nw2 nx2 M2 nw2 nx2 N2 (.slice la N2.length lc)) := ⟨HT.out.ref.cells.2.2.2, hidden (HT.out.below ((Below.refl _ _).drew))⟩
              have HLen : Hid (∀ W, (W.cell? ⟨rb, 3, none⟩ = some (.slice la N2.length lc) ∧ Hid (BSt w W b mb rb wt nw2 nx2 M2 nw2 nx2 N2 (.slice la N2.length lc))) → Calls Tryd.prog 13 #[.pointer (some ⟨b, 0, none⟩)] W fun e w' => e = .returned (.int .i64 (N2.length : Int)) ∧ (w'.cell? ⟨rb, 3, none⟩ = some (.slice la N2.length lc) ∧ Hid (BSt w w' b mb rb wt nw2 nx2 M2 nw2 nx2 N2 (.slice la N2.length lc)))) := by
                refine hidden ?_
                rintro W ⟨k0, hO⟩
                refine (len_calls b mb wt nw2 nx2 M2 W hO.out.ord HRel2.out.i1.one).mono ?_
                rintro e w' ⟨rfl, rfl⟩
                exact ⟨by rw [HRel2.out.like.len], k0, hO⟩
              have hl2 : N2.length ≤ 200 := HRel2.out.i2.len
              clear HT
              go_wp2_with fail
              go_region_held3 (fun w' => w'.cell? ⟨rb, 3, none⟩ = some (.slice la N2.length lc) ∧ Hid (BSt w w' b mb rb wt nw2 nx2 M2 nw2 nx2 N2 (.slice la N2.length lc))) (with_reducible assumption) (first | (go_at_call 13; refine (HLen.out _ (by with_reducible assumption)).mono ?_; rintro e w20 ⟨rfl, hS20⟩))
              have HS20 := hS20.2
              clear hS hS20 HLen
              go_wp2_with fail
              go_roundg (60 - (k + 1))
              case measure => omega
              case rel => exact ⟨k + 1, nw2, nx2, M2, N2, _, by omega, by go_num, HS20, HRel2⟩
            by_cases e3 : v0 = 3
            · subst e3
              have hC1 := fun W h hb => rgone_calls w.heap.size rb wt nw nx v1 v2 N v W h HRel.out.i2 HRel.out.slices hb
              have hC2 := fun W h => goneM_calls b mb wt nw nx v1 v2 M W h HRel.out.i1
              have HRel2 := hidden (HRel.out.gone v1 v2)
              have hF100 : gf nw nx v1 v2 ≤ 100 := gf_le
              obtain ⟨F, hF⟩ : ∃ F, gf nw nx v1 v2 = F := ⟨_, rfl⟩
              obtain ⟨nw2, hnw2⟩ : ∃ y, gW nw nx v1 v2 = y := ⟨_, rfl⟩
              obtain ⟨N2, hN2⟩ : ∃ y, gM nw nx v1 v2 N = y := ⟨_, rfl⟩
              obtain ⟨M2, hM2⟩ : ∃ y, gM nw nx v1 v2 M = y := ⟨_, rfl⟩
              simp only [hF, hnw2, hN2] at hC1
              rw [hF] at hF100
              simp only [hF, hnw2, hM2] at hC2
              rw [hnw2, hM2, hN2] at HRel2
              have hVo : ∀ {W W1 : World}, V3 W vb 3 v1 v2 → Only [b, mb] W W1 → V3 W1 vb 3 v1 v2 := fun h ho => ho.block h (fun hc => by have := HLt.out.1.1 vb hc; omega)
              have hVr : ∀ {W W1 : World}, V3 W vb 3 v1 v2 → Only (rb :: v.ownBlock.toList) W W1 → V3 W1 vb 3 v1 v2 := fun h ho => ho.block h (fun hc => by have := HLt.out.1.2 vb hc; omega)
              have HG0 : Hid (∀ W, Hid (BSt w W b mb rb wt nw nx M nw nx N v ∧ V3 W vb 3 v1 v2) → Calls Tryd.prog 8 #[.pointer (some ⟨b, 0, none⟩), .int .i64 v1, .int .i64 v2] W fun e w' => e = .returned (errv F) ∧ (w'.cell? ⟨vb, 1, none⟩ = some (.int .i64 v1) ∧ w'.cell? ⟨vb, 2, none⟩ = some (.int .i64 v2)) ∧ Hid (BSt w w' b mb rb wt nw2 nx M2 nw nx N v ∧ V3 w' vb 3 v1 v2)) := by
                refine hidden (fun W hQ => (hC2 W hQ.out.1.ord).mono ?_)
                rintro e w' ⟨rfl, hO, ho⟩
                have hv := hVo hQ.out.2 ho
                exact ⟨rfl, (v3_cells hv).2, hidden ⟨hQ.out.1.ords ho hO, hv⟩⟩
              have HR1 : Hid (∀ W, Hid (BSt w W b mb rb wt nw2 nx M2 nw nx N v ∧ V3 W vb 3 v1 v2) → Calls Tryd.prog 9 #[.pointer (some ⟨rb, 0, none⟩), .int .i64 v1, .int .i64 v2] W fun e w' => e = .returned (.int .i64 (F : Int)) ∧ (w'.cell? ⟨vb, 1, none⟩ = some (.int .i64 v1) ∧ w'.cell? ⟨vb, 2, none⟩ = some (.int .i64 v2)) ∧ Hid (∃ v', BSt w w' b mb rb wt nw2 nx M2 nw2 nx N2 v' ∧ V3 w' vb 3 v1 v2)) := by
                refine hidden (fun W hQ => (hC1 W hQ.out.1.ref hQ.out.1.bel.size).mono ?_)
                rintro e w' ⟨rfl, v', hr, ho⟩
                have hv := hVr hQ.out.2 ho
                exact ⟨rfl, (v3_cells hv).2, hidden ⟨v', hQ.out.1.refs ho hr, hv⟩⟩
              have HE1 : Hid (∀ W, Hid (∃ v', BSt w W b mb rb wt nw2 nx M2 nw2 nx N2 v' ∧ V3 W vb 3 v1 v2) → Calls Tryd.prog 5 #[errv F, .int .i64 (F : Int)] W fun e w' => e = .returned (.bool true) ∧ (w'.cell? ⟨vb, 1, none⟩ = some (.int .i64 v1) ∧ w'.cell? ⟨vb, 2, none⟩ = some (.int .i64 v2)) ∧ Hid (∃ v', BSt w w' b mb rb wt nw2 nx M2 nw2 nx N2 v' ∧ V3 w' vb 3 v1 v2)) := by
                refine hidden (fun W hQ => ?_)
                obtain ⟨v', hB, hV⟩ := hQ.out
                refine (told_f F W hF100 ((hB.bel.cell (p := ⟨0, 0, none⟩) h0s).trans HG.out)).mono ?_
                rintro e w' ⟨rfl, hb⟩
                have hv : V3 w' vb 3 v1 v2 := (hb.block vb (lt_of_block hV)).trans hV
                exact ⟨rfl, (v3_cells hv).2, hidden ⟨v', hB.below hb, hv⟩⟩
              have hS0 : wc.drew.cell? ⟨vb, 1, none⟩ = some (.int .i64 v1) ∧ wc.drew.cell? ⟨vb, 2, none⟩ = some (.int .i64 v2) := ⟨c1, c2⟩
              have HQ0 : Hid (BSt w wc.drew b mb rb wt nw nx M nw nx N v ∧ V3 wc.drew vb 3 v1 v2) := hidden ⟨HSc.out.below ((Below.refl _ _).drew), HVc.out⟩
              clear hC1 hC2 hF hnw2 hN2 hM2 hVo hVr
              go_wp2_with fail
              go_region_held3 (fun w' => w'.cell? ⟨vb, 1, none⟩ = some (.int .i64 v1) ∧ w'.cell? ⟨vb, 2, none⟩ = some (.int .i64 v2)) (with_reducible assumption) (first | (go_at_call 8; refine (HG0.out _ (by with_reducible assumption)).mono ?_; rintro e w5 ⟨rfl, hS5, HQ5⟩) | (go_at_call 9; refine (HR1.out _ (by with_reducible assumption)).mono ?_; rintro e w8 ⟨rfl, hS8, HQ8⟩) | (go_at_call 5; refine (HE1.out _ (by with_reducible assumption)).mono ?_; rintro e w13 ⟨rfl, hS9, HQ9⟩))
              obtain ⟨v', hB, _⟩ := HQ9.out
              have HT := hidden hB
              clear hB HQ9 hS9 HG0 HR1 HE1 hS0 HQ0
              go_wp2_with fail
              obtain ⟨la, lc, rfl⟩ := own_form HT.out.ref.row
              have hS : w13.drew.cell? ⟨rb, 3, none⟩ = some (.slice la N2.length lc) ∧ Hid (BSt w w13.drew b mb rb wt nw2 nx M2 nw2 nx N2 (.slice la N2.length lc)) := ⟨HT.out.ref.cells.2.2.2, hidden (HT.out.below ((Below.refl _ _).drew))⟩
              have HLen : Hid (∀ W, (W.cell? ⟨rb, 3, none⟩ = some (.slice la N2.length lc) ∧ Hid (BSt w W b mb rb wt nw2 nx M2 nw2 nx N2 (.slice la N2.length lc))) → Calls Tryd.prog 13 #[.pointer (some ⟨b, 0, none⟩)] W fun e w' => e = .returned (.int .i64 (N2.length : Int)) ∧ (w'.cell? ⟨rb, 3, none⟩ = some (.slice la N2.length lc) ∧ Hid (BSt w w' b mb rb wt nw2 nx M2 nw2 nx N2 (.slice la N2.length lc)))) := by
                refine hidden ?_
                rintro W ⟨k0, hO⟩
                refine (len_calls b mb wt nw2 nx M2 W hO.out.ord HRel2.out.i1.one).mono ?_
                rintro e w' ⟨rfl, rfl⟩
                exact ⟨by rw [HRel2.out.like.len], k0, hO⟩
              have hl2 : N2.length ≤ 200 := HRel2.out.i2.len
              clear HT
              go_wp2_with fail
              go_region_held3 (fun w' => w'.cell? ⟨rb, 3, none⟩ = some (.slice la N2.length lc) ∧ Hid (BSt w w' b mb rb wt nw2 nx M2 nw2 nx N2 (.slice la N2.length lc))) (with_reducible assumption) (first | (go_at_call 13; refine (HLen.out _ (by with_reducible assumption)).mono ?_; rintro e w20 ⟨rfl, hS20⟩))
              have HS20 := hS20.2
              clear hS hS20 HLen
              go_wp2_with fail
              go_roundg (60 - (k + 1))
              case measure => omega
              case rel => exact ⟨k + 1, nw2, nx, M2, N2, _, by omega, by go_num, HS20, HRel2⟩
            have n0 : (v0 == 0) = false := by simpa using e0
            have n1 : (v0 == 1) = false := by simpa using e1
            have n2 : (v0 == 2) = false := by simpa using e2
            have n3 : (v0 == 3) = false := by simpa using e3
            clear e0 e1 e2 e3
            obtain ⟨K, hK⟩ := many_ex wt (now := v2) HRel.out.i1
            have hC1 := rpop_calls w.heap.size rb wt nw nx v2 N v K wc HSc.out.ref HRel.out.i2 HRel.out.slices HSc.out.bel.size (HRel.out.like.many hK) hw0 hw1
            have hC2 := fun W h => pop_calls b mb wt nw nx v2 M K W h HRel.out.i1 hK
            have HRel2 := hidden (HRel.out.pop hK)
            have hF100 : tf nw v2 ≤ 100 := by have := @tf_le nw v2; omega
            have hK200 : K ≤ 200 := hK.le
            obtain ⟨F, hF⟩ : ∃ F, tf nw v2 = F := ⟨_, rfl⟩
            obtain ⟨nw2, hnw2⟩ : ∃ y, qW nw v2 = y := ⟨_, rfl⟩
            obtain ⟨nx2, hnx2⟩ : ∃ y, nx + (K : Int) = y := ⟨_, rfl⟩
            obtain ⟨N2, hN2⟩ : ∃ y, rest N nx2 = y := ⟨_, rfl⟩
            obtain ⟨M2, hM2⟩ : ∃ y, rest M nx2 = y := ⟨_, rfl⟩
            rw [hF, hnw2, hnx2, hN2] at hC1
            rw [hF] at hF100
            simp only [hF, hnw2, hnx2, hM2] at hC2
            rw [hnw2, hnx2, hM2, hN2] at HRel2
            have HC1 := hidden hC1
            have HC2 := hidden hC2
            clear hC1 hC2 hF hnw2 hnx2 hN2 hM2 hK
            have hbw : b < wc.heap.size ∧ mb < wc.heap.size := HSc.out.ord.lt
            obtain ⟨hbw1, hbw2⟩ := hbw
            go_wp2_with fail
            refine HC1.out.mono ?_
            rintro e w11 ⟨av, cv, v', rfl, hrow1, hr, ho⟩
            have HT1 := hidden (HSc.out.refs (ho.mono (by simp)) hr)
            have hV11 : V3 w11 vb _ v1 v2 := ho.block HVc.out (fun hc => by have := HLt.out.1.2 vb (by simp at hc; simp [hc]); omega)
            obtain ⟨d0, d1, d2⟩ := v3_cells hV11
            have HRo := hidden hrow1
            clear hr ho hV11 c0 c1 c2 x0 x1 x2 x3 x4 x5 HC1 hrow1
            go_wp2_with fail
            refine (HC2.out _ (by exact HT1.out.ord)).mono ?_
            rintro e w12 ⟨av2, cv2, rfl, hrow2, hbod, hO, ho2⟩
            have HT2 := hidden (HT1.out.ords ho2 hO)
            have hrow1 := ho2.owns HRo.out (by intro j hj hc; have := (HRo.out.lt j hj).1; simp at hc; omega)
            obtain ⟨g1, g2, hg1, hg2, htw⟩ := twins HRel.out HT2.out.bel hbod hrow2 hrow1
            have HG1 := hidden hg1
            have HG2 := hidden hg2
            have HTw := hidden htw
            clear hO ho2 d0 d1 d2 HC2 HT1 hrow1 hrow2 hbod HRo hg1 hg2 htw
            go_wp2_with fail
            refine (told_f F _ hF100 ((HT2.out.bel.cell (p := ⟨0, 0, none⟩) h0s).trans HG.out)).mono ?_
            rintro e w14 ⟨rfl, hb14⟩
            have HT3 := hidden (HT2.out.below hb14)
            have HTw2 := hidden (fun j hj => (HTw.out j hj).below hb14)
            clear hb14 HT2 HTw
            go_wp2_with fail
            refine (items_same av2 av g1 g2 K cv2 cv _ (by omega) HG1.out HG2.out HTw2.out).mono ?_
            rintro e w13 ⟨rfl, hb13⟩
            have HT := hidden (HT3.out.below hb13)
            clear hb13 HT3 HTw2 HG1 HG2
            go_wp2_with fail
            obtain ⟨la, lc, rfl⟩ := own_form HT.out.ref.row
            have hS : w13.drew.cell? ⟨rb, 3, none⟩ = some (.slice la N2.length lc) ∧ Hid (BSt w w13.drew b mb rb wt nw2 nx2 M2 nw2 nx2 N2 (.slice la N2.length lc)) := ⟨HT.out.ref.cells.2.2.2, hidden (HT.out.below ((Below.refl _ _).drew))⟩
            have HLen : Hid (∀ W, (W.cell? ⟨rb, 3, none⟩ = some (.slice la N2.length lc) ∧ Hid (BSt w W b mb rb wt nw2 nx2 M2 nw2 nx2 N2 (.slice la N2.length lc))) → Calls Tryd.prog 13 #[.pointer (some ⟨b, 0, none⟩)] W fun e w' => e = .returned (.int .i64 (N2.length : Int)) ∧ (w'.cell? ⟨rb, 3, none⟩ = some (.slice la N2.length lc) ∧ Hid (BSt w w' b mb rb wt nw2 nx2 M2 nw2 nx2 N2 (.slice la N2.length lc)))) := by
              refine hidden ?_
              rintro W ⟨k0, hO⟩
              refine (len_calls b mb wt nw2 nx2 M2 W hO.out.ord HRel2.out.i1.one).mono ?_
              rintro e w' ⟨rfl, rfl⟩
              exact ⟨by rw [HRel2.out.like.len], k0, hO⟩
            have hl2 : N2.length ≤ 200 := HRel2.out.i2.len
            clear HT
            go_wp2_with fail
            go_region_held3 (fun w' => w'.cell? ⟨rb, 3, none⟩ = some (.slice la N2.length lc) ∧ Hid (BSt w w' b mb rb wt nw2 nx2 M2 nw2 nx2 N2 (.slice la N2.length lc))) (with_reducible assumption) (first | (go_at_call 13; refine (HLen.out _ (by with_reducible assumption)).mono ?_; rintro e w20 ⟨rfl, hS20⟩))
            have HS20 := hS20.2
            clear hS hS20 HLen
            go_wp2_with fail
            go_roundg (60 - (k + 1))
            case measure => omega
            case rel => exact ⟨k + 1, nw2, nx2, M2, N2, _, by omega, by go_num, HS20, HRel2⟩
theorem walk (wt : Int) (sa pa : Option Addr) (ls cs lp cp : Nat) (Z : Nat → Int) (Fp : Nat → Pk) (w : World) (hg : w.cell? ⟨0, 0, none⟩ = some (.iface 95 (.agg #[.pointer (some ⟨1, 26, none⟩)]))) (hR : Open.NRows w sa ls Z) (hF : Open.Pks w pa lp Fp) :
    Calls Tryd.prog 3 #[.int .i64 wt, .slice sa ls cs, .slice pa lp cp] w fun e w' => e = .returned (.bool true) ∧ Below w.heap.size w w' := by
  by_cases h : wt < 0 ∨ 1000000 < wt
  · exact walk_err wt _ _ w hg h
  · exact walk_ok wt sa pa ls cs lp cp Z Fp w hg (by omega) (by omega) hR hF
end Go.Proofs.YtenjemcehhocoaeDoor.OPlays
