/-
  The walk of the Go function GapsPlays: it returns true. Its condition: package errors' variable errorType is as its text lays it.
-/
import Derived.Test.YtnnehhgdinclgadDoorGSame
import Derived.Test.YtnnehhgdinclgadDoorOpenS
import Derived.LoopTactic
import Derived.Deep.CutRange
import Derived.Deep.CutBlock
namespace Go.Proofs.YtnnehhgdinclgadDoor.GPlays
open Go.ChangeShapes Go.WideShapes Go.ChangeAt Go.RowKit Go.Proofs.YtnnehhgdinclgadDoor.Mem Go.Proofs.YtnnehhgdinclgadDoor.GM Go.Proofs.YtnnehhgdinclgadDoor.Gaps Go.Proofs.YtnnehhgdinclgadDoor.RGaps
set_option linter.unusedVariables false

/-- three numbers in memory -/
def V3 (w : World) (vb : Nat) (v0 v1 v2 : Int) : Prop := w.heap[vb]? = some (.cells #[.int .i64 v0, .int .i64 v1, .int .i64 v2] 59 (0, 0))
theorem v3_cells {w : World} {vb : Nat} {v0 v1 v2 : Int} (h : V3 w vb v0 v1 v2) : w.cell? ⟨vb, 0, none⟩ = some (.int .i64 v0) ∧ w.cell? ⟨vb, 1, none⟩ = some (.int .i64 v1) ∧ w.cell? ⟨vb, 2, none⟩ = some (.int .i64 v2) := RGaps.cells3 h
theorem v3_cell {w : World} {vb : Nat} {v0 v1 v2 : Int} (h : V3 w vb v0 v1 v2) (j : Nat) (hj : j < 3) : ∃ x, w.cell? ⟨vb, j, none⟩ = some (.int .i64 x) := by
  obtain ⟨c0, c1, c2⟩ := v3_cells h
  match j, hj with
  | 0, _ => exact ⟨_, c0⟩
  | 1, _ => exact ⟨_, c1⟩
  | 2, _ => exact ⟨_, c2⟩
theorem v3_set {w : World} {vb : Nat} {v0 v1 v2 : Int} (h : V3 w vb v0 v1 v2) (j : Nat) (hj : j < 3) (x : Int) : ∃ u0 u1 u2, V3 (w.setCell ⟨vb, j, none⟩ (.int .i64 x)) vb u0 u1 u2 := by
  match j, hj with
  | 0, _ => exact ⟨x, v1, v2, RGaps.setb h 0 _⟩
  | 1, _ => exact ⟨v0, x, v2, RGaps.setb h 1 _⟩
  | 2, _ => exact ⟨v0, v1, x, RGaps.setb h 2 _⟩
theorem v3_free {w : World} {vb : Nat} {v0 v1 v2 : Int} (h : V3 w vb v0 v1 v2) (j : Nat) : w.frozen? ⟨vb, j, none⟩ = false := RGaps.free6 h j

set_option maxHeartbeats 1000000 in
set_option maxRecDepth 100000 in
theorem walk_err (ag tr : Int) (vs : Value) (w : World) (hg : w.cell? ⟨0, 0, none⟩ = some (.iface 130 (.agg #[.pointer (some ⟨1, 27, none⟩)]))) (h : ag < 1 ∨ 1000000 < ag ∨ tr < 1 ∨ 20 < tr) :
    Calls Tryd.prog 5 #[.int .i64 ag, .int .i64 tr, vs] w fun e w' => e = .returned (.bool true) ∧ Below w.heap.size w w' := by
  have HN := hidden (fun w => new_err ag tr w h)
  have HG := hidden hg
  rw [errv_pos (by decide)] at HN
  clear hg
  by_cases c6 : ag < 1
  · clear h
    go_enter Tryd.func5, Tryd.ntmps5
    go_wp2_with fail
    refine (HN.out _).mono ?_
    rintro e w' ⟨rfl, rfl⟩
    go_wp2_with fail
    refine (Told.same_err 1 1 _ (by decide) (by decide) HG.out).mono ?_
    rintro e w1 ⟨rfl, hb⟩
    go_wp2_with fail
    go_ret
    exact ⟨rfl, hb⟩
  by_cases c12 : 1000000 < ag
  · clear h
    go_enter Tryd.func5, Tryd.ntmps5
    go_wp2_with fail
    refine (HN.out _).mono ?_
    rintro e w' ⟨rfl, rfl⟩
    go_wp2_with fail
    refine (Told.same_err 1 1 _ (by decide) (by decide) HG.out).mono ?_
    rintro e w1 ⟨rfl, hb⟩
    go_wp2_with fail
    go_ret
    exact ⟨rfl, hb⟩
  by_cases c6 : tr < 1
  · clear h
    go_enter Tryd.func5, Tryd.ntmps5
    go_wp2_with fail
    refine (HN.out _).mono ?_
    rintro e w' ⟨rfl, rfl⟩
    go_wp2_with fail
    refine (Told.same_err 1 1 _ (by decide) (by decide) HG.out).mono ?_
    rintro e w1 ⟨rfl, hb⟩
    go_wp2_with fail
    go_ret
    exact ⟨rfl, hb⟩
  · have c0 : 20 < tr := by omega
    clear h
    go_enter Tryd.func5, Tryd.ntmps5
    go_wp2_with fail
    refine (HN.out _).mono ?_
    rintro e w' ⟨rfl, rfl⟩
    go_wp2_with fail
    refine (Told.same_err 1 1 _ (by decide) (by decide) HG.out).mono ?_
    rintro e w1 ⟨rfl, hb⟩
    go_wp2_with fail
    go_ret
    exact ⟨rfl, hb⟩

set_option maxHeartbeats 16000000 in
set_option maxRecDepth 100000 in
theorem walk_ok (ag tr : Int) (sa : Option Addr) (ls cs : Nat) (Z : Nat → Int) (w : World) (hg : w.cell? ⟨0, 0, none⟩ = some (.iface 130 (.agg #[.pointer (some ⟨1, 27, none⟩)]))) (h1 : 1 ≤ ag) (h2 : ag ≤ 1000000) (h3 : 1 ≤ tr) (h4 : tr ≤ 20) (hR : Open.NRows w sa ls Z) :
    Calls Tryd.prog 5 #[.int .i64 ag, .int .i64 tr, .slice sa ls cs] w fun e w' => e = .returned (.bool true) ∧ Below w.heap.size w w' := by
  have hls := hR.1
  have HRs := hidden hR.2
  have HG := hidden hg
  have HN := hidden (fun w => new_ok ag tr w h1 h2 h3 h4)
  have h0s : 0 < w.heap.size := World.block_lt_of_cell? w ⟨0, 0, none⟩ hg
  clear hR hg
  go_enter Tryd.func5, Tryd.ntmps5
  go_wp2_with fail
  refine (HN.out _).mono ?_
  rintro e w1 ⟨b, mb, rfl, hb1, hb2, hR, hbl⟩
  have HR1 := hidden hR
  have HB1 := hidden hbl
  clear hR hbl HN
  go_wp2_with fail
  refine (Told.same_nil 0 _).mono ?_
  rintro e w2 ⟨rfl, rfl⟩
  go_wp2_with fail
  have HS0 : Hid (PSt w (w2.alloc (.cells #[.int .i64 ag, .int .i64 tr, .int .i64 0, .int .i64 (-1), .slice none 0 0, .slice none 0 0] 58)) b mb w2.heap.size ag tr 0 (-1) [] (.slice none 0 0) [] (.slice none 0 0) (.slice none 0 0)) := by
    have hR := HR1.out.below ((Below.refl _ _).alloc (Nat.le_refl _) (.cells #[.int .i64 ag, .int .i64 tr, .int .i64 0, .int .i64 (-1), .slice none 0 0, .slice none 0 0] 58))
    refine ⟨HB1.out.alloc HB1.out.size _, ?_, HB1.out.size, hR, ⟨heap_alloc_new _ _, World.ownsRow_nil _ _ _ _, World.ownsRow_nil _ _ _ _⟩, by simp [Value.ownBlock], inv_start h1 h2 h3 h4, ⟨List.nodup_nil, by simp⟩⟩
    intro k hk
    simp [blks, Value.ownBlock] at hk
    rcases hk with rfl | rfl <;> assumption
  clear HR1 HB1 hb1 hb2
  obtain ⟨rb, hrb⟩ : ∃ rb, w2.heap.size = rb := ⟨_, rfl⟩
  rw [hrb] at HS0
  try rw [hrb]
  clear hrb
  go_loopg [10, 12, 13, 14, 15, 16, 17, 18, 19, 20, 21, 22, 23, 24, 25] 60 (fun g _ i' _ _ _ _ _ _ _ _ _ _ _ _ _ wr => ∃ (k : Nat) (nw T : Int) (M : Its) (gv : Value) (G : List Int) (lv gv2 : Value), k + g = 60 ∧ i' = .int .i64 (k : Int) ∧ Hid (G.length ≤ 200 * k ∧ PSt w wr b mb rb ag tr nw T M gv G lv gv2))
  case atStart => exact ⟨0, 0, -1, [], _, [], _, _, by omega, rfl, by simp, HS0.out⟩
  case round =>
    obtain ⟨k, nw, T, M, gv, G, lv, gv2, hkg, rfl, HP⟩ := hrel
    clear HS0
    have HS := hidden HP.out.2
    have hGk : G.length ≤ 12000 := by have := HP.out.1; omega
    have HGk := hidden HP.out.1
    clear HP
    by_cases hend : k < ls
    case neg =>
      have hkz : ¬ (k : Int) < (ls : Int) := by omega
      go_wp2_with fail
      go_ret
      exact ⟨rfl, HS.out.bel⟩
    have hkz : (k : Int) < (ls : Int) := by omega
    by_cases h60 : k < 60
    case neg =>
      have h60z : ¬ (k : Int) < 60 := by omega
      go_wp2_with fail
      go_ret
      exact ⟨rfl, HS.out.bel⟩
    have h60z : (k : Int) < 60 := by omega
    obtain ⟨sb, so, a', l', c', rfl, hsb, hsc, hl', hrow⟩ := HRs.out k hend
    have HSc := hidden hsc
    have HRow := hidden hrow
    clear hsc hrow
    obtain ⟨vb, hvb⟩ : ∃ vb, wr.heap.size = vb := ⟨_, rfl⟩
    have HV0 : Hid (V3 (wr.alloc (.cells #[.int .i64 0, .int .i64 0, .int .i64 0] 59)) vb 0 0 0) := by rw [← hvb]; exact heap_alloc_new wr _
    have HLt : Hid ((∀ q ∈ blks b mb gv, q < vb) ∧ (∀ q ∈ rblks rb lv gv2, q < vb) ∧ w.heap.size ≤ vb) := by rw [← hvb]; exact hidden ⟨HS.out.gaps.lt, HS.out.ref.lt, HS.out.bel.size⟩
    have HB0 : Hid (Below vb wr (wr.alloc (.cells #[.int .i64 0, .int .i64 0, .int .i64 0] 59))) := by rw [← hvb]; exact hidden ((Below.refl _ _).alloc (Nat.le_refl _) _)
    have HPs : Hid (∀ W, Below vb wr W → PSt w W b mb rb ag tr nw T M gv G lv gv2) := by rw [← hvb]; exact hidden (fun W hb => HS.out.below hb)
    have HVb := hidden hvb
    clear hvb HS
    go_wp2_with fail
    rw [HVb.out]
    go_loopg [14] 3 (fun g j' wq => ∃ (j : Nat) (v0 v1 v2 : Int), j + g = 3 ∧ j' = .int .i64 (j : Int) ∧ Hid (V3 wq vb v0 v1 v2 ∧ Below vb wr wq))
    case atStart => exact ⟨0, 0, 0, 0, by omega, rfl, HV0.out, HB0.out⟩
    case round =>
      obtain ⟨wo, ewo⟩ : ∃ x, x = wr := ⟨_, rfl⟩
      obtain ⟨j, v0, v1, v2, hjg, rfl, HJ⟩ := hrel
      clear HV0 HB0 ewo wo
      have HQ := hidden (HPs.out _ HJ.out.2)
      have cs1 := (HQ.out.bel.cell (p := ⟨sb, so + k, none⟩) hsb).trans HSc.out
      obtain ⟨jb, hjb⟩ : ∃ jb : Bool, decide (j < l' ∧ j < 3) = jb := ⟨_, rfl⟩
      have HJb := hidden hjb
      clear hjb
      go_upto_region 14 with fail
      go_cut [80] from 70 to 80 (fun c wx => c = .bool jb ∧ wx = wr)
      case first =>
        by_cases q1 : j < l'
        · have q1z : (j : Int) < (l' : Int) := by omega
          have e := hidden (by rw [← HJb.out]; simp [q1]; omega : decide ((j : Int) < 3) = jb)
          clear HJb
          go_wp2_with fail
          go_meet
          exact ⟨congrArg Value.bool e.out, rfl⟩
        · have q1z : ¬ (j : Int) < (l' : Int) := by omega
          have e := hidden (by rw [← HJb.out]; simp [q1] : false = jb)
          clear HJb
          go_wp2_with fail
          go_meet
          exact ⟨congrArg Value.bool e.out, rfl⟩
      case rest =>
        obtain ⟨rfl, rfl⟩ := hcut
        cases jb with
        | true =>
          obtain ⟨hj1, hj3⟩ : j < l' ∧ j < 3 := by simpa using HJb.out
          clear HJb
          have hjz : (j : Int) < (l' : Int) := by omega
          have hj3z : (j : Int) < 3 := by omega
          have hj0 : (0 : Int) ≤ (j : Int) := by omega
          obtain ⟨xb, xo, x, rfl, hxb, hxc⟩ := HRow.out j hj1
          have cx := (HQ.out.bel.cell (p := ⟨xb, xo + j, none⟩) hxb).trans hxc
          obtain ⟨y, cy⟩ := v3_cell HJ.out.1 j hj3
          have fy := v3_free HJ.out.1 j
          obtain ⟨u0, u1, u2, hv3⟩ := v3_set HJ.out.1 j hj3 x
          have HN3 := hidden hv3
          have HBn := hidden (HJ.out.2.setCell (p := ⟨vb, j, none⟩) (Nat.le_refl _) (.int .i64 x))
          clear hxc hv3 HJ HQ
          go_wp2_with fail
          go_roundg (3 - (j + 1))
          case measure => omega
          case rel => exact ⟨j + 1, u0, u1, u2, by omega, by go_num, HN3.out, HBn.out⟩
        | false =>
          clear HJb
          obtain ⟨c0, c1, c2⟩ := v3_cells HJ.out.1
          have HV := hidden HJ.out.1
          have HBq : Hid (vb ≤ wc.heap.size) := by rw [← HVb.out]; exact hidden HJ.out.2.size
          clear HJ
          by_cases e0 : v0 = 0
          · subst e0
            have hI := HQ.out.inv
            have hC1 := rhear_calls w.heap.size rb ag tr nw T v1 v2 M lv gv2 G wc HQ.out.ref hI HQ.out.bel.size
            have hC2 := fun W h => hear_calls b mb ag tr nw T v1 v2 M gv G W h hI
            have hSt := fun W1 W2 lv2 hr ho => HQ.out.hear (W1 := W1) (W2 := W2) (y := v1) (now := v2) (lv2 := lv2) hr ho
            have hF6 : hf nw T M v1 v2 ≤ 6 := hf_le
            obtain ⟨X, hX⟩ : ∃ X, hB nw T M v1 v2 = X := ⟨_, rfl⟩
            obtain ⟨F, hF⟩ : ∃ F, hf nw T M v1 v2 = F := ⟨_, rfl⟩
            obtain ⟨nw2, hnw2⟩ : ∃ y, hN nw T M v1 v2 = y := ⟨_, rfl⟩
            obtain ⟨T2, hT2⟩ : ∃ y, hU nw T M v1 v2 = y := ⟨_, rfl⟩
            obtain ⟨M2, hM2⟩ : ∃ y, hL nw T M v1 v2 = y := ⟨_, rfl⟩
            rw [hX, hF, hnw2, hT2, hM2] at hC1
            rw [hF] at hF6
            simp only [hX, hF, hnw2, hT2, hM2] at hC2 hSt
            have HC1 := hidden hC1
            have HC2 := hidden hC2
            have HSt := hidden hSt
            clear hC1 hC2 hSt hX hF hnw2 hT2 hM2 hI
            go_wp2_with fail
            refine HC1.out.mono ?_
            rintro e w11 ⟨rfl, lv2, hr, ho⟩
            have HR11 := hidden hr
            have HO11 := hidden ho
            have hV11 : V3 w11 vb _ v1 v2 := ho.block HV.out (by
              intro hc
              have := HLt.out.2.1 vb (by simp only [List.mem_cons, Option.mem_toList] at hc; rcases hc with hc | hc <;> simp [rblks, hc])
              omega)
            obtain ⟨d0, d1, d2⟩ := v3_cells hV11
            clear hr ho hV11 c0 c1 c2 HC1
            go_wp2_with fail
            refine (HC2.out _ (by exact (HSt.out w11 w11 lv2 HR11.out HO11.out).1)).mono ?_
            rintro e w12 ⟨rfl, hg, ho⟩
            have HT0 := hidden ((HSt.out w11 w12 lv2 HR11.out HO11.out).2.2 hg ho)
            clear hg ho d0 d1 d2 HC2 HSt HR11 HO11
            go_wp2_with fail
            refine (told_f F _ (by omega) ((HT0.out.bel.cell (p := ⟨0, 0, none⟩) h0s).trans HG.out)).mono ?_
            rintro e w13 ⟨rfl, hb13⟩
            have HT := hidden (HT0.out.below hb13)
            clear hb13 HT0
            go_wp2_with fail
            refine (lacks_calls b mb ag tr nw2 T2 M2 gv G _ (by exact HT.out.gaps) HT.out.inv.ris (by have := HT.out.inv.len; omega)).mono ?_
            rintro e w20 ⟨k1, rfl, hrow1, hb20⟩
            have HT2 := hidden (HT.out.below hb20)
            have HRo1 := hidden hrow1
            clear hrow1 hb20
            go_wp2_with fail
            refine (rlacks_calls w.heap.size rb ag tr nw2 T2 M2 _ _ G _ (by exact HT2.out.ref) (by have := HT2.out.inv.len; omega)).mono ?_
            rintro e w21 ⟨k2, rfl, hrow2, hb21⟩
            have hro1 := (Only.of_below hb21 []).owns HRo1.out (by simp)
            obtain ⟨a1, cap1, rfl, hA1, _, _, _⟩ := own_ints hro1 (by have := HT2.out.inv.len; omega)
            obtain ⟨a2, cap2, rfl, hA2, _, _, _⟩ := own_ints hrow2 (by have := HT2.out.inv.len; omega)
            have HT3 := hidden (HT2.out.below hb21)
            have HI1 := hidden hA1
            have HI2 := hidden hA2
            clear hro1 hrow2 hb21 hA1 hA2 HRo1 HT HT2
            go_wp2_with fail
            refine (ints_same a1 a2 _ cap1 cap2 (nums M2) _ HI1.out HI2.out).mono ?_
            rintro e w22 ⟨rfl, hb22⟩
            have HT4 := hidden (HT3.out.below hb22)
            clear hb22 HI1 HI2 HT3
            go_wp2_with fail
            go_roundg (60 - (k + 1))
            case measure => omega
            case rel => exact ⟨k + 1, nw2, T2, M2, gv, G, _, _, by omega, by go_num, (by have := HGk.out; omega), HT4.out⟩
          by_cases e1 : v0 = 1
          · subst e1
            have hI := HQ.out.inv
            have hC1 := rhear_calls w.heap.size rb ag tr nw T v1 v2 M lv gv2 G wc HQ.out.ref hI HQ.out.bel.size
            have hC2 := fun W h => hear_calls b mb ag tr nw T v1 v2 M gv G W h hI
            have hSt := fun W1 W2 lv2 hr ho => HQ.out.hear (W1 := W1) (W2 := W2) (y := v1) (now := v2) (lv2 := lv2) hr ho
            have hF6 : hf nw T M v1 v2 ≤ 6 := hf_le
            obtain ⟨X, hX⟩ : ∃ X, hB nw T M v1 v2 = X := ⟨_, rfl⟩
            obtain ⟨F, hF⟩ : ∃ F, hf nw T M v1 v2 = F := ⟨_, rfl⟩
            obtain ⟨nw2, hnw2⟩ : ∃ y, hN nw T M v1 v2 = y := ⟨_, rfl⟩
            obtain ⟨T2, hT2⟩ : ∃ y, hU nw T M v1 v2 = y := ⟨_, rfl⟩
            obtain ⟨M2, hM2⟩ : ∃ y, hL nw T M v1 v2 = y := ⟨_, rfl⟩
            rw [hX, hF, hnw2, hT2, hM2] at hC1
            rw [hF] at hF6
            simp only [hX, hF, hnw2, hT2, hM2] at hC2 hSt
            have HC1 := hidden hC1
            have HC2 := hidden hC2
            have HSt := hidden hSt
            clear hC1 hC2 hSt hX hF hnw2 hT2 hM2 hI
            go_wp2_with fail
            refine HC1.out.mono ?_
            rintro e w11 ⟨rfl, lv2, hr, ho⟩
            have HR11 := hidden hr
            have HO11 := hidden ho
            have hV11 : V3 w11 vb _ v1 v2 := ho.block HV.out (by
              intro hc
              have := HLt.out.2.1 vb (by simp only [List.mem_cons, Option.mem_toList] at hc; rcases hc with hc | hc <;> simp [rblks, hc])
              omega)
            obtain ⟨d0, d1, d2⟩ := v3_cells hV11
            clear hr ho hV11 c0 c1 c2 HC1
            go_wp2_with fail
            refine (HC2.out _ (by exact (HSt.out w11 w11 lv2 HR11.out HO11.out).1)).mono ?_
            rintro e w12 ⟨rfl, hg, ho⟩
            have HT0 := hidden ((HSt.out w11 w12 lv2 HR11.out HO11.out).2.2 hg ho)
            clear hg ho d0 d1 d2 HC2 HSt HR11 HO11
            go_wp2_with fail
            refine (told_f F _ (by omega) ((HT0.out.bel.cell (p := ⟨0, 0, none⟩) h0s).trans HG.out)).mono ?_
            rintro e w13 ⟨rfl, hb13⟩
            have HT := hidden (HT0.out.below hb13)
            clear hb13 HT0
            go_wp2_with fail
            refine (lacks_calls b mb ag tr nw2 T2 M2 gv G _ (by exact HT.out.gaps) HT.out.inv.ris (by have := HT.out.inv.len; omega)).mono ?_
            rintro e w20 ⟨k1, rfl, hrow1, hb20⟩
            have HT2 := hidden (HT.out.below hb20)
            have HRo1 := hidden hrow1
            clear hrow1 hb20
            go_wp2_with fail
            refine (rlacks_calls w.heap.size rb ag tr nw2 T2 M2 _ _ G _ (by exact HT2.out.ref) (by have := HT2.out.inv.len; omega)).mono ?_
            rintro e w21 ⟨k2, rfl, hrow2, hb21⟩
            have hro1 := (Only.of_below hb21 []).owns HRo1.out (by simp)
            obtain ⟨a1, cap1, rfl, hA1, _, _, _⟩ := own_ints hro1 (by have := HT2.out.inv.len; omega)
            obtain ⟨a2, cap2, rfl, hA2, _, _, _⟩ := own_ints hrow2 (by have := HT2.out.inv.len; omega)
            have HT3 := hidden (HT2.out.below hb21)
            have HI1 := hidden hA1
            have HI2 := hidden hA2
            clear hro1 hrow2 hb21 hA1 hA2 HRo1 HT HT2
            go_wp2_with fail
            refine (ints_same a1 a2 _ cap1 cap2 (nums M2) _ HI1.out HI2.out).mono ?_
            rintro e w22 ⟨rfl, hb22⟩
            have HT4 := hidden (HT3.out.below hb22)
            clear hb22 HI1 HI2 HT3
            go_wp2_with fail
            go_roundg (60 - (k + 1))
            case measure => omega
            case rel => exact ⟨k + 1, nw2, T2, M2, gv, G, _, _, by omega, by go_num, (by have := HGk.out; omega), HT4.out⟩
          by_cases e2 : v0 = 2
          · subst e2
            have hI := HQ.out.inv
            have hC1 := rhear_calls w.heap.size rb ag tr nw T v1 v2 M lv gv2 G wc HQ.out.ref hI HQ.out.bel.size
            have hC2 := fun W h => hear_calls b mb ag tr nw T v1 v2 M gv G W h hI
            have hSt := fun W1 W2 lv2 hr ho => HQ.out.hear (W1 := W1) (W2 := W2) (y := v1) (now := v2) (lv2 := lv2) hr ho
            have hF6 : hf nw T M v1 v2 ≤ 6 := hf_le
            obtain ⟨X, hX⟩ : ∃ X, hB nw T M v1 v2 = X := ⟨_, rfl⟩
            obtain ⟨F, hF⟩ : ∃ F, hf nw T M v1 v2 = F := ⟨_, rfl⟩
            obtain ⟨nw2, hnw2⟩ : ∃ y, hN nw T M v1 v2 = y := ⟨_, rfl⟩
            obtain ⟨T2, hT2⟩ : ∃ y, hU nw T M v1 v2 = y := ⟨_, rfl⟩
            obtain ⟨M2, hM2⟩ : ∃ y, hL nw T M v1 v2 = y := ⟨_, rfl⟩
            rw [hX, hF, hnw2, hT2, hM2] at hC1
            rw [hF] at hF6
            simp only [hX, hF, hnw2, hT2, hM2] at hC2 hSt
            have HC1 := hidden hC1
            have HC2 := hidden hC2
            have HSt := hidden hSt
            clear hC1 hC2 hSt hX hF hnw2 hT2 hM2 hI
            go_wp2_with fail
            refine HC1.out.mono ?_
            rintro e w11 ⟨rfl, lv2, hr, ho⟩
            have HR11 := hidden hr
            have HO11 := hidden ho
            have hV11 : V3 w11 vb _ v1 v2 := ho.block HV.out (by
              intro hc
              have := HLt.out.2.1 vb (by simp only [List.mem_cons, Option.mem_toList] at hc; rcases hc with hc | hc <;> simp [rblks, hc])
              omega)
            obtain ⟨d0, d1, d2⟩ := v3_cells hV11
            clear hr ho hV11 c0 c1 c2 HC1
            go_wp2_with fail
            refine (HC2.out _ (by exact (HSt.out w11 w11 lv2 HR11.out HO11.out).1)).mono ?_
            rintro e w12 ⟨rfl, hg, ho⟩
            have HT0 := hidden ((HSt.out w11 w12 lv2 HR11.out HO11.out).2.2 hg ho)
            clear hg ho d0 d1 d2 HC2 HSt HR11 HO11
            go_wp2_with fail
            refine (told_f F _ (by omega) ((HT0.out.bel.cell (p := ⟨0, 0, none⟩) h0s).trans HG.out)).mono ?_
            rintro e w13 ⟨rfl, hb13⟩
            have HT := hidden (HT0.out.below hb13)
            clear hb13 HT0
            go_wp2_with fail
            refine (lacks_calls b mb ag tr nw2 T2 M2 gv G _ (by exact HT.out.gaps) HT.out.inv.ris (by have := HT.out.inv.len; omega)).mono ?_
            rintro e w20 ⟨k1, rfl, hrow1, hb20⟩
            have HT2 := hidden (HT.out.below hb20)
            have HRo1 := hidden hrow1
            clear hrow1 hb20
            go_wp2_with fail
            refine (rlacks_calls w.heap.size rb ag tr nw2 T2 M2 _ _ G _ (by exact HT2.out.ref) (by have := HT2.out.inv.len; omega)).mono ?_
            rintro e w21 ⟨k2, rfl, hrow2, hb21⟩
            have hro1 := (Only.of_below hb21 []).owns HRo1.out (by simp)
            obtain ⟨a1, cap1, rfl, hA1, _, _, _⟩ := own_ints hro1 (by have := HT2.out.inv.len; omega)
            obtain ⟨a2, cap2, rfl, hA2, _, _, _⟩ := own_ints hrow2 (by have := HT2.out.inv.len; omega)
            have HT3 := hidden (HT2.out.below hb21)
            have HI1 := hidden hA1
            have HI2 := hidden hA2
            clear hro1 hrow2 hb21 hA1 hA2 HRo1 HT HT2
            go_wp2_with fail
            refine (ints_same a1 a2 _ cap1 cap2 (nums M2) _ HI1.out HI2.out).mono ?_
            rintro e w22 ⟨rfl, hb22⟩
            have HT4 := hidden (HT3.out.below hb22)
            clear hb22 HI1 HI2 HT3
            go_wp2_with fail
            go_roundg (60 - (k + 1))
            case measure => omega
            case rel => exact ⟨k + 1, nw2, T2, M2, gv, G, _, _, by omega, by go_num, (by have := HGk.out; omega), HT4.out⟩
          by_cases e3 : v0 = 3
          · subst e3
            have hI := HQ.out.inv
            have hC1 := rdue_calls w.heap.size rb ag tr nw T v2 M lv gv2 G wc HQ.out.ref hI HQ.out.bel.size (by omega)
            have hC2 := fun W h => due_calls b mb ag tr nw T v2 M gv G W h hI (by omega)
            have hSt := fun W1 W2 gv3 lv2 gv' hr hgb ho => HQ.out.due (W1 := W1) (W2 := W2) (now := v2) (gv' := gv') (lv2 := lv2) (gv3 := gv3) hr hgb ho
            have hF6 : tf nw v2 ≤ 6 := tf_le
            have hGl : (dG ag tr nw M v2).length ≤ 200 := by have h1 := dG_len ag tr nw M v2; have h2 := hI.len; omega
            have hDl : (dD ag tr nw M v2).length ≤ 200 := by have h1 := dD_len ag tr nw M v2; have h2 := hI.len; omega
            obtain ⟨F, hF⟩ : ∃ F, tf nw v2 = F := ⟨_, rfl⟩
            obtain ⟨nw2, hnw2⟩ : ∃ y, dN nw v2 = y := ⟨_, rfl⟩
            obtain ⟨M2, hM2⟩ : ∃ y, dL ag tr nw M v2 = y := ⟨_, rfl⟩
            obtain ⟨D2, hD2⟩ : ∃ y, dD ag tr nw M v2 = y := ⟨_, rfl⟩
            obtain ⟨G2, hG2⟩ : ∃ y, G ++ dG ag tr nw M v2 = y := ⟨_, rfl⟩
            have HG2 : Hid (G2.length ≤ 200 * (k + 1)) := by rw [← hG2, List.length_append]; have := HGk.out; exact hidden (by omega)
            rw [hF, hnw2, hM2, hD2, hG2] at hC1
            rw [hF] at hF6
            rw [hD2] at hDl
            simp only [hF, hnw2, hM2, hD2, hG2] at hC2 hSt
            have HC1 := hidden hC1
            have HC2 := hidden hC2
            have HSt := hidden hSt
            clear hC1 hC2 hSt hF hnw2 hM2 hD2 hG2 hGl hI
            go_wp2_with fail
            refine HC1.out.mono ?_
            rintro e w11 ⟨ov, rfl, lv2, gv3, hr, hov, hgb, ho⟩
            have HR11 := hidden hr
            have HO11 := hidden ho
            have HOv := hidden hov
            have HGb := hidden (fun j hj => (hgb j hj).1)
            have hV11 : V3 w11 vb _ v1 v2 := ho.block HV.out (by
              intro hc
              have := HLt.out.2.1 vb (by simp only [List.mem_cons, Option.mem_toList] at hc; rcases hc with hc | hc <;> simp [rblks, hc])
              omega)
            obtain ⟨d0, d1, d2⟩ := v3_cells hV11
            clear hr ho hV11 c0 c1 c2 HC1 hov hgb
            go_wp2_with fail
            refine (HC2.out _ (by exact (HSt.out w11 w11 gv3 lv2 gv HR11.out HGb.out HO11.out).1)).mono ?_
            rintro e w12 ⟨dv, rfl, gv4, hg, hdv, hgb4, ho⟩
            have HT0 := hidden ((HSt.out w11 w12 gv3 lv2 gv4 HR11.out HGb.out HO11.out).2.2 hg (fun j hj => (hgb4 j hj).1) ho)
            have hvw : vb ≤ wc.heap.size := HBq.out
            have hov2 : w12.ownsRow wc.heap.size 3 1 ov D2.length (ic D2) := ho.owns HOv.out (by
              intro j hj hc
              have h1 := (HOv.out.lt j hj).1
              have h2 := HLt.out.1 j hc
              omega)
            have HD12 := hidden hdv
            have HO12 := hidden hov2
            clear hg ho d0 d1 d2 HC2 HSt HR11 HO11 hdv hgb4 hov2 HOv HGb hvw
            go_wp2_with fail
            refine (told_f F _ (by omega) ((HT0.out.bel.cell (p := ⟨0, 0, none⟩) h0s).trans HG.out)).mono ?_
            rintro e w13 ⟨rfl, hb13⟩
            have HT1 := hidden (HT0.out.below hb13)
            obtain ⟨xa, xc, rfl, hXA, _, _, _⟩ := own_ints ((Only.of_below hb13 []).owns HD12.out (by simp)) (by omega)
            obtain ⟨ya, yc, rfl, hYA, _, _, _⟩ := own_ints ((Only.of_below hb13 []).owns HO12.out (by simp)) (by omega)
            have HXA := hidden hXA
            have HYA := hidden hYA
            clear hb13 HT0 hXA hYA HD12 HO12
            go_wp2_with fail
            refine (ints_same xa ya _ xc yc D2 _ HXA.out HYA.out).mono ?_
            rintro e w14 ⟨rfl, hb14⟩
            have HT := hidden (HT1.out.below hb14)
            clear hb14 HT1 HXA HYA
            go_wp2_with fail
            refine (lacks_calls b mb ag tr nw2 T M2 gv4 G2 _ (by exact HT.out.gaps) HT.out.inv.ris (by have := HT.out.inv.len; omega)).mono ?_
            rintro e w20 ⟨k1, rfl, hrow1, hb20⟩
            have HT2 := hidden (HT.out.below hb20)
            have HRo1 := hidden hrow1
            clear hrow1 hb20
            go_wp2_with fail
            refine (rlacks_calls w.heap.size rb ag tr nw2 T M2 _ _ G2 _ (by exact HT2.out.ref) (by have := HT2.out.inv.len; omega)).mono ?_
            rintro e w21 ⟨k2, rfl, hrow2, hb21⟩
            have hro1 := (Only.of_below hb21 []).owns HRo1.out (by simp)
            obtain ⟨a1, cap1, rfl, hA1, _, _, _⟩ := own_ints hro1 (by have := HT2.out.inv.len; omega)
            obtain ⟨a2, cap2, rfl, hA2, _, _, _⟩ := own_ints hrow2 (by have := HT2.out.inv.len; omega)
            have HT3 := hidden (HT2.out.below hb21)
            have HI1 := hidden hA1
            have HI2 := hidden hA2
            clear hro1 hrow2 hb21 hA1 hA2 HRo1 HT HT2
            go_wp2_with fail
            refine (ints_same a1 a2 _ cap1 cap2 (nums M2) _ HI1.out HI2.out).mono ?_
            rintro e w22 ⟨rfl, hb22⟩
            have HT4 := hidden (HT3.out.below hb22)
            clear hb22 HI1 HI2 HT3
            go_wp2_with fail
            go_roundg (60 - (k + 1))
            case measure => omega
            case rel => exact ⟨k + 1, nw2, T, M2, gv4, G2, _, _, by omega, by go_num, HG2.out, HT4.out⟩
          by_cases e4 : v0 = 4
          · subst e4
            have hI := HQ.out.inv
            have hC1 := rdue_calls w.heap.size rb ag tr nw T v2 M lv gv2 G wc HQ.out.ref hI HQ.out.bel.size (by omega)
            have hC2 := fun W h => due_calls b mb ag tr nw T v2 M gv G W h hI (by omega)
            have hSt := fun W1 W2 gv3 lv2 gv' hr hgb ho => HQ.out.due (W1 := W1) (W2 := W2) (now := v2) (gv' := gv') (lv2 := lv2) (gv3 := gv3) hr hgb ho
            have hF6 : tf nw v2 ≤ 6 := tf_le
            have hGl : (dG ag tr nw M v2).length ≤ 200 := by have h1 := dG_len ag tr nw M v2; have h2 := hI.len; omega
            have hDl : (dD ag tr nw M v2).length ≤ 200 := by have h1 := dD_len ag tr nw M v2; have h2 := hI.len; omega
            obtain ⟨F, hF⟩ : ∃ F, tf nw v2 = F := ⟨_, rfl⟩
            obtain ⟨nw2, hnw2⟩ : ∃ y, dN nw v2 = y := ⟨_, rfl⟩
            obtain ⟨M2, hM2⟩ : ∃ y, dL ag tr nw M v2 = y := ⟨_, rfl⟩
            obtain ⟨D2, hD2⟩ : ∃ y, dD ag tr nw M v2 = y := ⟨_, rfl⟩
            obtain ⟨G2, hG2⟩ : ∃ y, G ++ dG ag tr nw M v2 = y := ⟨_, rfl⟩
            have HG2 : Hid (G2.length ≤ 200 * (k + 1)) := by rw [← hG2, List.length_append]; have := HGk.out; exact hidden (by omega)
            rw [hF, hnw2, hM2, hD2, hG2] at hC1
            rw [hF] at hF6
            rw [hD2] at hDl
            simp only [hF, hnw2, hM2, hD2, hG2] at hC2 hSt
            have HC1 := hidden hC1
            have HC2 := hidden hC2
            have HSt := hidden hSt
            clear hC1 hC2 hSt hF hnw2 hM2 hD2 hG2 hGl hI
            go_wp2_with fail
            refine HC1.out.mono ?_
            rintro e w11 ⟨ov, rfl, lv2, gv3, hr, hov, hgb, ho⟩
            have HR11 := hidden hr
            have HO11 := hidden ho
            have HOv := hidden hov
            have HGb := hidden (fun j hj => (hgb j hj).1)
            have hV11 : V3 w11 vb _ v1 v2 := ho.block HV.out (by
              intro hc
              have := HLt.out.2.1 vb (by simp only [List.mem_cons, Option.mem_toList] at hc; rcases hc with hc | hc <;> simp [rblks, hc])
              omega)
            obtain ⟨d0, d1, d2⟩ := v3_cells hV11
            clear hr ho hV11 c0 c1 c2 HC1 hov hgb
            go_wp2_with fail
            refine (HC2.out _ (by exact (HSt.out w11 w11 gv3 lv2 gv HR11.out HGb.out HO11.out).1)).mono ?_
            rintro e w12 ⟨dv, rfl, gv4, hg, hdv, hgb4, ho⟩
            have HT0 := hidden ((HSt.out w11 w12 gv3 lv2 gv4 HR11.out HGb.out HO11.out).2.2 hg (fun j hj => (hgb4 j hj).1) ho)
            have hvw : vb ≤ wc.heap.size := HBq.out
            have hov2 : w12.ownsRow wc.heap.size 3 1 ov D2.length (ic D2) := ho.owns HOv.out (by
              intro j hj hc
              have h1 := (HOv.out.lt j hj).1
              have h2 := HLt.out.1 j hc
              omega)
            have HD12 := hidden hdv
            have HO12 := hidden hov2
            clear hg ho d0 d1 d2 HC2 HSt HR11 HO11 hdv hgb4 hov2 HOv HGb hvw
            go_wp2_with fail
            refine (told_f F _ (by omega) ((HT0.out.bel.cell (p := ⟨0, 0, none⟩) h0s).trans HG.out)).mono ?_
            rintro e w13 ⟨rfl, hb13⟩
            have HT1 := hidden (HT0.out.below hb13)
            obtain ⟨xa, xc, rfl, hXA, _, _, _⟩ := own_ints ((Only.of_below hb13 []).owns HD12.out (by simp)) (by omega)
            obtain ⟨ya, yc, rfl, hYA, _, _, _⟩ := own_ints ((Only.of_below hb13 []).owns HO12.out (by simp)) (by omega)
            have HXA := hidden hXA
            have HYA := hidden hYA
            clear hb13 HT0 hXA hYA HD12 HO12
            go_wp2_with fail
            refine (ints_same xa ya _ xc yc D2 _ HXA.out HYA.out).mono ?_
            rintro e w14 ⟨rfl, hb14⟩
            have HT := hidden (HT1.out.below hb14)
            clear hb14 HT1 HXA HYA
            go_wp2_with fail
            refine (lacks_calls b mb ag tr nw2 T M2 gv4 G2 _ (by exact HT.out.gaps) HT.out.inv.ris (by have := HT.out.inv.len; omega)).mono ?_
            rintro e w20 ⟨k1, rfl, hrow1, hb20⟩
            have HT2 := hidden (HT.out.below hb20)
            have HRo1 := hidden hrow1
            clear hrow1 hb20
            go_wp2_with fail
            refine (rlacks_calls w.heap.size rb ag tr nw2 T M2 _ _ G2 _ (by exact HT2.out.ref) (by have := HT2.out.inv.len; omega)).mono ?_
            rintro e w21 ⟨k2, rfl, hrow2, hb21⟩
            have hro1 := (Only.of_below hb21 []).owns HRo1.out (by simp)
            obtain ⟨a1, cap1, rfl, hA1, _, _, _⟩ := own_ints hro1 (by have := HT2.out.inv.len; omega)
            obtain ⟨a2, cap2, rfl, hA2, _, _, _⟩ := own_ints hrow2 (by have := HT2.out.inv.len; omega)
            have HT3 := hidden (HT2.out.below hb21)
            have HI1 := hidden hA1
            have HI2 := hidden hA2
            clear hro1 hrow2 hb21 hA1 hA2 HRo1 HT HT2
            go_wp2_with fail
            refine (ints_same a1 a2 _ cap1 cap2 (nums M2) _ HI1.out HI2.out).mono ?_
            rintro e w22 ⟨rfl, hb22⟩
            have HT4 := hidden (HT3.out.below hb22)
            clear hb22 HI1 HI2 HT3
            go_wp2_with fail
            go_roundg (60 - (k + 1))
            case measure => omega
            case rel => exact ⟨k + 1, nw2, T, M2, gv4, G2, _, _, by omega, by go_num, HG2.out, HT4.out⟩
          have n0 : (v0 == 0) = false := by simpa using e0
          have n1 : (v0 == 1) = false := by simpa using e1
          have n2 : (v0 == 2) = false := by simpa using e2
          have n3 : (v0 == 3) = false := by simpa using e3
          have n4 : (v0 == 4) = false := by simpa using e4
          clear e0 e1 e2 e3 e4
          obtain ⟨ga, gcap, eg, hIA, _, _, _⟩ := own_ints HQ.out.ref.gave (by omega)
          subst eg
          have HIA := hidden hIA
          have r5 := (RGaps.cells6 HQ.out.ref.box).2.2.2.2.2
          have HSr := hidden (sorted_calls ga G.length gcap G wc hIA (by omega))
          rw [BM.norm_nodup HQ.out.gok.1] at HSr
          have hml : (G.mergeSort fun x y => decide (x ≤ y)).length = G.length := by simp
          obtain ⟨S, hS⟩ : ∃ S, (G.mergeSort fun x y => decide (x ≤ y)) = S := ⟨_, rfl⟩
          rw [hS] at HSr hml
          have hCg := fun W h => gaveUp_calls b mb ag tr nw T M gv G W h (by omega)
          rw [hS] at hCg
          have HCg := hidden hCg
          obtain ⟨gva, gvc, egv, _⟩ := own_ints HQ.out.gaps.row (by omega)
          clear hIA hS hCg
          go_wp2_with fail
          refine HSr.out.mono ?_
          rintro e w11 ⟨sv, rfl, hsv, hb11⟩
          have HB11 := hidden hb11
          have HSv := hidden hsv
          have HQ1 := hidden (HQ.out.below hb11)
          clear hsv hb11 HSr
          go_wp2_with fail
          refine (HCg.out _ (by exact HQ1.out.gaps)).mono ?_
          rintro e w12 ⟨rfl, hg12, hgr, ho12⟩
          obtain ⟨hB12, hr12, hnext⟩ := HQ.out.gave HB11.out hg12 ho12
          have hsv2 : w12.ownsRow wc.heap.size 3 1 sv S.length (ic S) := ho12.owns HSv.out (by
            intro j hj hc
            have h1 := (HSv.out.lt j hj).1
            have h2 := HLt.out.1 j hc
            have h3 := HBq.out
            omega)
          obtain ⟨ya, yc, rfl, hYA, _, _, _⟩ := own_ints hsv2 (by omega)
          subst egv
          obtain ⟨xa, xc, exx, hXA, _, _, _⟩ := own_ints hgr (by omega)
          cases exx
          rw [hml] at hYA
          have HXA := hidden hXA
          have HYA := hidden hYA
          have HNext := hidden hnext
          have HR12 := hidden hr12
          have hyl : (S.length : Int) = (G.length : Int) := by rw [hml]
          clear hg12 hgr ho12 hB12 hr12 hnext hsv2 hXA hYA HSv HB11 HQ1 HCg
          go_wp2_with fail
          try rw [hml]
          refine (ints_same gva ya _ gvc yc S _ HXA.out HYA.out).mono ?_
          rintro e w13 ⟨rfl, hb13⟩
          have HT := hidden (HNext.out w13 hb13)
          have r5' := (RGaps.cells6 (HR12.out.below hb13).box).2.2.2.2.2
          have f5 := RGaps.free6 (HR12.out.below hb13).box 5
          clear hb13 HXA HYA HNext HR12 hyl
          go_wp2_with fail
          refine (lacks_calls b mb ag tr nw T M (.slice none 0 0) [] _ (by exact HT.out.gaps) HT.out.inv.ris (by have := HT.out.inv.len; omega)).mono ?_
          rintro e w20 ⟨k1, rfl, hrow1, hb20⟩
          have HT2 := hidden (HT.out.below hb20)
          have HRo1 := hidden hrow1
          clear hrow1 hb20
          go_wp2_with fail
          refine (rlacks_calls w.heap.size rb ag tr nw T M _ _ [] _ (by exact HT2.out.ref) (by have := HT2.out.inv.len; omega)).mono ?_
          rintro e w21 ⟨k2, rfl, hrow2, hb21⟩
          have hro1 := (Only.of_below hb21 []).owns HRo1.out (by simp)
          obtain ⟨a1, cap1, rfl, hA1, _, _, _⟩ := own_ints hro1 (by have := HT2.out.inv.len; omega)
          obtain ⟨a2, cap2, rfl, hA2, _, _, _⟩ := own_ints hrow2 (by have := HT2.out.inv.len; omega)
          have HT3 := hidden (HT2.out.below hb21)
          have HI1 := hidden hA1
          have HI2 := hidden hA2
          clear hro1 hrow2 hb21 hA1 hA2 HRo1 HT HT2
          go_wp2_with fail
          refine (ints_same a1 a2 _ cap1 cap2 (nums M) _ HI1.out HI2.out).mono ?_
          rintro e w22 ⟨rfl, hb22⟩
          have HT4 := hidden (HT3.out.below hb22)
          clear hb22 HI1 HI2 HT3
          go_wp2_with fail
          go_roundg (60 - (k + 1))
          case measure => omega
          case rel => exact ⟨k + 1, nw, T, M, (.slice none 0 0), [], _, _, by omega, by go_num, (by simp), HT4.out⟩

theorem walk (ag tr : Int) (sa : Option Addr) (ls cs : Nat) (Z : Nat → Int) (w : World) (hg : w.cell? ⟨0, 0, none⟩ = some (.iface 130 (.agg #[.pointer (some ⟨1, 27, none⟩)]))) (hR : Open.NRows w sa ls Z) :
    Calls Tryd.prog 5 #[.int .i64 ag, .int .i64 tr, .slice sa ls cs] w fun e w' => e = .returned (.bool true) ∧ Below w.heap.size w w' := by
  by_cases h : ag < 1 ∨ 1000000 < ag ∨ tr < 1 ∨ 20 < tr
  · exact walk_err ag tr _ w hg h
  · exact walk_ok ag tr sa ls cs Z w hg (by omega) (by omega) (by omega) (by omega) hR
end Go.Proofs.YtnnehhgdinclgadDoor.GPlays
