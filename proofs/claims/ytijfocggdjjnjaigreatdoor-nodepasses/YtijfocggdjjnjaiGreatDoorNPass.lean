/-
  What the law NodePasses returns: true. Its condition: package errors' variable errorType is as it was laid.
-/
import Derived.Test.YtijfocggdjjnjaiGreatDoorNPass0
import Derived.Test.YtijfocggdjjnjaiGreatDoorNodeY
import Derived.Deep.CutBlock
import Derived.Deep.CutRange
import Derived.Deep.RegionWith
namespace Go.Proofs.YtijfocggdjjnjaiGreatDoor.ND
open Go.ChangeShapes Go.WideShapes Go.ChangeAt Go.RowKit Go.Maps Go.Proofs.YtijfocggdjjnjaiGreatDoor.Mem Go.Proofs.YtijfocggdjjnjaiGreatDoor.NO
set_option linter.unusedVariables false

theorem ff1 : FM.ffault 1 0 1 1 (pby 9 0 0 0 false []) = 0 := by
  unfold FM.ffault
  rw [if_pos (by decide), pby_rfault (by decide)]
/-- the first letters -/
theorem one_lt : (({ (nd0 0).plan 1 (-1) [4] 1 with nw := 0 } : Nd).took 0 ((tr0 1 1).to (-1) [4]) ⟨9, 0, 0, 0, false, [], .slice none 0 0⟩ 0 1 0).lt = [(4, fby 1 0 1 1 (pby 9 0 0 0 false []))] := by
  rw [(new_took (by decide) (by decide) (by decide) (by decide)).1]
  unfold downs
  rw [if_pos ff1]
  rfl
theorem one_sinv : SInv ((nd0 0).plan 1 (-1) [4] 1).sb ((nd0 0).plan 1 (-1) [4] 1).ls := sinv_nil
theorem lit_iarg (w : World) : Gaps.IArg (w.alloc (.cells #[.int .i64 4] 3)) (some ⟨w.heap.size, 0, none⟩) 1 [4] := by
  refine ⟨fun j hj => ⟨w.heap.size, 0, rfl, ?_⟩, rfl, by omega⟩
  simp at hj
  subst hj
  simp
theorem next_hop {ep hp : Int} {B : List Nat} (h : FM.ffault 3 9 ep hp B = 0) : 0 ≤ hp ∧ hp ≤ 64 ∧ (hp < 64 → FM.ffault 3 9 ep (hp + 1) B = 0) ∧ (hp = 64 → FM.ffault 3 9 ep (hp + 1) B ≠ 0) := by
  obtain ⟨t', o', e', p', e1, e2, rfl, rfl, h1, h2, h3, h4, h5, h6⟩ := FM.ffault_zero h
  refine ⟨by omega, by omega, fun hl => ?_, fun hl => ?_⟩
  · have : ((p' : Int) + 1) = ((p' + 1 : Nat) : Int) := by omega
    unfold FM.ffault at h ⊢
    split at h
    · rename_i hn
      rw [if_pos ?_]
      · exact h
      · unfold FM.nums at hn ⊢
        omega
    · omega
  · unfold FM.ffault
    rw [if_neg ?_]
    · omega
    · unfold FM.nums
      omega
theorem undLS : Tryz.prog.underlying 36 = some (.slice (Tryz.prog.elem 36)) := by kernel_rfl
theorem elemLS : Tryz.prog.elem 36 = 49 := by kernel_rfl
theorem sizeLT (w : World) : (sizeOf 49).run Tryz.prog w = .ok 2 w := by kernel_rfl
def cutL (a : Option Addr) (cap l : Nat) : Option Addr := if cap = l then a else a.map (·.add (l * 2))
/-- l[i:] -/
theorem let_cut (lg n cap i : Nat) (hi : i < n) (hc : n ≤ cap) (w : World) :
    (Instr.slice 36 (.slice (some ⟨lg, 0, none⟩) n cap) (some (.int .i64 (i : Int))) none none).run Tryz.prog w = .ok (.slice (some ⟨lg, i * 2, none⟩) (n - i) (cap - i)) w := by
  have e : (Instr.slice 36 (.slice (some ⟨lg, 0, none⟩) n cap) (some (.int .i64 (i : Int))) none none).run Tryz.prog w = .ok (.slice (cutL (some ⟨lg, 0, none⟩) cap i) (n - i) (cap - i)) w := by
    rw [run_slice_l w 36 _ n cap undLS .i64 i (by omega) (by omega), elemLS, sizeLT]
    simp [Result.andThen, sliced, cutL]
  rw [e]
  unfold cutL
  rw [if_neg (by omega), Option.map_some, add_plain, Nat.zero_add]
set_option maxHeartbeats 8000000 in
set_option maxRecDepth 100000 in
theorem npass_walk (s t l q : Int) (st : Bool) (a : Option Addr) (m cap : Nat) (L : List Nat) (ka : Option Addr) (km kc : Nat) (K : List Int) (fr ep hp : Int) (w : World) (hg : w.cell? ⟨0, 0, none⟩ = some (.iface 208 (.agg #[.pointer (some ⟨1, 25, none⟩)]))) (hA : Arg w a m L) (hno : a = none → m = 0 ∧ cap = 0) (hK : Gaps.IArg w ka km K) (hkn : ka = none → km = 0 ∧ kc = 0) :
    Calls Tryz.prog 4 #[.agg #[.int .i64 s, .int .i64 t, .int .i64 l, .int .i64 q, .bool st, .slice a m cap], .slice ka km kc, .int .i64 fr, .int .i64 ep, .int .i64 hp] w fun e w' => e = .returned (.bool true) ∧ Below w.heap.size w w' := by
  obtain ⟨W0, hW0⟩ : ∃ W0, w.alloc (.cells #[.int .i64 s, .int .i64 t, .int .i64 l, .int .i64 q, .bool st, .slice a m cap] 31) = W0 := ⟨_, rfl⟩
  have hB0 : Below w.heap.size w W0 := by rw [← hW0]; exact (Below.refl _ _).alloc (Nat.le_refl _) _
  have hbx : W0.heap[w.heap.size]? = some (.cells #[.int .i64 s, .int .i64 t, .int .i64 l, .int .i64 q, .bool st, .slice a m cap] 31 (0, 0)) := by rw [← hW0]; exact heap_alloc_new w _
  have HG := hidden (ext_cell hB0 hg)
  have HA := hidden (hA.below hB0)
  have HNo := hidden hno
  have HK := hidden (hK.below hB0)
  have HKn := hidden hkn
  have HKl := hidden hK.2.1
  have HB0 := hidden hB0
  have HBX := hidden hbx
  have HW := hidden hW0
  have HAl := hidden hA.2.1
  have HL := hidden hA.1.1
  have hkm := hK.2.2
  clear hg hA hno hK hkn hB0 hbx hW0
  have C1 := hidden (new_ok 0 (fun _ => nobody) 1 W0 rfl)
  go_enter Tryz.func4, Tryz.ntmps4
  go_upto_region 1 with fail
  rw [HW.out]
  go_wp2_with fail
  refine C1.out.mono ?_
  intro e w1 hm
  obtain ⟨b1, rfl, h1⟩ := One.of_made (Below.refl W0.heap.size W0) hm
  have H1 := hidden h1
  clear hm h1 C1
  have C2 := hidden (H1.out.planNew ((Below.refl _ _).alloc (Nat.le_refl _) (.cells #[.int .i64 4] 3)) 1 (-1) 1 (some ⟨w1.heap.size, 0, none⟩) 1 1 [4] (lit_iarg w1) (fun e => by cases e) (fun ad e => by cases e; exact Nat.le_refl _) sinv_nil (by intro x hx; simp [nd0] at hx) (by decide))
  go_wp2_with fail
  refine C2.out.mono ?_
  rintro e w2 ⟨rfl, h2⟩
  have H2 := hidden h2
  clear h2 C2
  have C3 := H2.out.send (k := 0) (tr := (tr0 1 1).to (-1) [4]) 0 9 0 0 0 false none 0 0 [] (by omega) rfl rfl (by decide) (new_inv 1 1 (-1) [4]).1 (new_inv 1 1 (-1) [4]).2 ⟨Bys.nil _ _, rfl, by omega⟩ (fun _ => ⟨rfl, rfl⟩) (by decide) (fun h => absurd h (by omega)) rfl one_sinv (by decide)
  rw [show ((0 : Nat) : Int) + 1 = 1 from rfl] at C3
  have C3 := hidden C3
  go_wp2_with fail
  refine C3.out.mono ?_
  rintro e w3 ⟨rfl, h3⟩
  have C4 := h3.out
  rw [show ((({ (nd0 0).plan 1 (-1) [4] 1 with nw := 0 } : Nd).took 0 ((tr0 1 1).to (-1) [4]) ⟨9, 0, 0, 0, false, [], .slice none 0 0⟩ ((nd0 0).plan 1 (-1) [4] 1).id 1 0).lt) = [(4, fby 1 0 1 1 (pby 9 0 0 0 false []))] from one_lt] at C4
  have C4 := hidden C4
  clear h3 C3
  go_wp2_with fail
  refine C4.out.mono ?_
  rintro e w4 ⟨la, lc, rfl, hLs, h4⟩
  obtain ⟨lg, rfl, -, -, hat⟩ := hLs.at (by simp)
  obtain ⟨a4, m4, c4, x0, x1, hA4, hm4⟩ := hat 0 (by simp)
  have C5 := hidden (plain_first 4 1 0 1 1 9 0 0 0 false lg 0 1 lc a4 m4 c4 [] w4 (by omega) (by simpa using x0) (by simpa using x1) hA4 hm4 ff1 (by decide) (by decide))
  have H4 := hidden h4
  clear hLs hat x0 x1 hA4 hm4 h4 C4
  go_wp2_with fail
  refine C5.out.mono ?_
  rintro e w5 ⟨fa5, fm5, fc5, a5, c5, rfl, hb5, _⟩
  have H5 := hidden (H4.out.below hb5)
  clear hb5 C5
  go_wp2_with fail
  obtain ⟨w6, hw6⟩ : ∃ w6, (w5.alloc (.cells #[.int .i64 1, .int .i64 0, .int .i64 1, .int .i64 1, .slice fa5 fm5 fc5] 40)).alloc (.cells #[.int .i64 9, .int .i64 0, .int .i64 0, .int .i64 0, .bool false, .slice a5 0 c5] 31) = w6 := ⟨_, rfl⟩
  have HB6 : Hid (Below W0.heap.size W0 w6) := by
    rw [← hw6]
    exact hidden (H5.out.bel.trans ((below2 w5 _ _).mono H5.out.bel.size))
  rw [hw6]
  clear hw6 H1 H2 H4 H5
  have C6 := hidden (new_ok 0 (fun _ => nobody) 1 w6 rfl)
  refine C6.out.mono ?_
  intro e w7 hm
  obtain ⟨b, rfl, h7⟩ := One.of_made HB6.out hm
  have H7 := hidden h7
  clear hm h7 C6 HB6
  have C7 := H7.out.plan 3 7 5 ka km kc K HK.out HKn.out sinv_nil (by intro x hx; simp [nd0] at hx)
  obtain ⟨fp, hfp⟩ : ∃ fp, pF (nd0 0) 3 7 K 5 = fp := ⟨_, rfl⟩
  rw [hfp] at C7
  have HFP := hidden hfp
  have C7 := hidden C7
  clear hfp
  go_wp2_with fail
  refine C7.out.mono ?_
  rintro e w8 ⟨rfl, h8⟩
  have hb8 : Below W0.heap.size W0 w8 := by
    by_cases c : fp = 0
    · exact (h8.1 c).bel
    · exact (h8.2 c).bel
  have H8 := hidden h8
  have HB8 := hidden hb8
  have hbx8 := (hb8.block _ (lt_of_block HBX.out)).trans HBX.out
  have z0 : w8.cell? ⟨w.heap.size, 0, none⟩ = some (.int .i64 s) := by simp [World.cell?, hbx8]
  have z1 : w8.cell? ⟨w.heap.size, 1, none⟩ = some (.int .i64 t) := by simp [World.cell?, hbx8]
  have z2 : w8.cell? ⟨w.heap.size, 2, none⟩ = some (.int .i64 l) := by simp [World.cell?, hbx8]
  have z3 : w8.cell? ⟨w.heap.size, 3, none⟩ = some (.int .i64 q) := by simp [World.cell?, hbx8]
  have z4 : w8.cell? ⟨w.heap.size, 4, none⟩ = some (.bool st) := by simp [World.cell?, hbx8]
  have z5 : w8.cell? ⟨w.heap.size, 5, none⟩ = some (.slice a m cap) := by simp [World.cell?, hbx8]
  have p1 := cmp_ne fp
  have p2 := grd_ne fp
  clear h8 hb8 hbx8 C7 H7
  by_cases hfe : PM.fault s t l q m = 0
  · have CE := hidden (pencode_ok s t l q st a m cap L w8 (HA.out.below HB8.out) HNo.out hfe)
    have HFE := hidden hfe
    clear hfe
    by_cases h0 : fp = 0
    · have d0 : decide (fp = 0) = true := by simpa using h0
      have H9 := hidden (H8.out.1 h0)
      have HFP0 := hidden (HFP.out.trans h0)
      clear h0 H8
      go_wp2_with fail
      refine CE.out.mono ?_
      rintro e w9 ⟨xg, rfl, hxg, hA9, hb9⟩
      have H10 := hidden (H9.out.below hb9)
      have HA9 := hidden hA9
      clear hxg hA9 hb9 CE z0 z1 z2 z3 z4 z5 H9
      by_cases hk0 : km = 0
      · have hkz : ((km : Int) == 0) = true := by simp [hk0]
        clear hk0
        go_wp2_with fail
        go_ret
        exact ⟨rfl, HB0.out.trans (H10.out.bel.mono HB0.out.size)⟩
      have hkz : ((km : Int) == 0) = false := by simpa using hk0
      have HK0 := hidden hk0
      clear hk0
      have CFn := hidden (fencode_new 3 9 ep hp (some ⟨xg, 0, none⟩) (8 + m) (8 + m) _ w9 HA9.out (fun e => by cases e) (Nat.le_refl _))
      obtain ⟨B, hB⟩ : ∃ B, pby s t l q st L = B := ⟨_, rfl⟩
      rw [hB] at CFn
      have HB := hidden hB
      obtain ⟨ff, hff⟩ : ∃ ff, FM.ffault 3 9 ep hp B = ff := ⟨_, rfl⟩
      rw [hff] at CFn
      have HFF := hidden hff
      have r1 := cmp_ne ff
      have r2 := grd_ne ff
      obtain ⟨m8, hm8⟩ : ∃ m8, 8 + m = m8 := ⟨_, rfl⟩
      rw [hm8] at CFn
      rw [hm8]
      clear hB hff hm8
      go_wp2_with fail
      refine CFn.out.mono ?_
      rintro e w10 ⟨ba, bm, bc, rfl, hb10, hA10, hbc, _, hfr10⟩
      have H11 := hidden (OneA.make H10.out hb10 hA10 hfr10)
      have HA10 := hidden hA10
      have HBC := hidden hbc
      clear hb10 hA10 hbc hfr10 CFn H10 HA9
      by_cases hf0 : ff = 0
      · have dd : decide (ff = 0) = true := by simpa using hf0
        have HFF0 := hidden (HFF.out.trans hf0)
        clear hf0
        have hfl : PM.fault s t l q L.length = 0 := by rw [HAl.out]; exact HFE.out
        have hKl := (pF_zero HFP0.out).2.2.2.2.2.2.2
        have H11' : OneA W0 w10 b ((nd0 0).plan 3 7 K 5) ba bm (fby (((2 : Nat) : Int) + 1) 9 ep hp (pby s t l q st L)) := by
          have := H11.out
          rw [← HB.out] at this
          exact this
        have CHr := OneA.hear (k := 2) (tr := (tr0 3 5).to 7 K) bc H11' fr 1 (by omega) rfl (by show GM.tf 0 1 = 0; decide) (new_inv 3 5 7 K).1 (new_inv 3 5 7 K).2 HBC.out (by rw [show ((2 : Nat) : Int) + 1 = 3 from rfl, HB.out]; exact HFF0.out) hfl HL.out rfl sinv_nil (by show 0 + K.length ≤ 1000000; omega)
        obtain ⟨hr, hhr⟩ : ∃ hr, hrF ((tr0 3 5).to 7 K) fr ep = hr := ⟨_, rfl⟩
        rw [hhr] at CHr
        have HHR := hidden hhr
        have CHr := hidden CHr
        have s1 := cmp_ne hr
        have s2 := grd_ne hr
        clear hhr hfl H11'
        have HKL := hidden hKl
        clear hKl
        go_wp2_with fail
        refine CHr.out.mono ?_
        rintro e w11 ⟨rfl, h11⟩
        have H12 := hidden h11
        clear h11 CHr H11
        by_cases hfrep : fr ≠ 7 ∨ ep ≠ 5
        · have hh6 : hr = 6 := by
            rw [← HHR.out]
            unfold hrF
            rw [if_pos ?_]
            right
            rcases hfrep with h | h
            · exact .inl h
            · exact .inr h
          have H13 := hidden (H12.out.2 (by rw [hh6]; omega))
          have C13 := hidden H13.out.one.out
          rw [show ((nd0 0).plan 3 7 K 5).lt.length = 0 from rfl] at C13
          subst hh6
          clear H12
          go_wp2_with fail
          refine C13.out.mono ?_
          rintro e w12 ⟨la2, lc2, rfl, _, h13⟩
          have C14 := hidden (told_f 6 w12 (by omega) (ext_cell h13.bel HG.out))
          have H14 := hidden h13.bel
          clear h13 C13
          by_cases g1 : fr ≠ 7
          · have e1 : (fr != 7) = true := by simpa using g1
            clear g1 hfrep
            go_wp2_with fail
            refine C14.out.mono ?_
            rintro e w13 ⟨rfl, hb13⟩
            have H15 := hidden (H14.out.trans (hb13.mono H14.out.size))
            clear hb13
            go_wp2_with fail
            go_ret
            exact ⟨rfl, HB0.out.trans (H15.out.mono HB0.out.size)⟩
          · have g2 : ep ≠ 5 := by rcases hfrep with h | h; exact absurd h g1; exact h
            have e1 : (fr != 7) = false := by simpa using g1
            have e2 : (ep != 5) = true := by simpa using g2
            clear g1 g2 hfrep
            go_wp2_with fail
            refine C14.out.mono ?_
            rintro e w13 ⟨rfl, hb13⟩
            have H15 := hidden (H14.out.trans (hb13.mono H14.out.size))
            clear hb13
            go_wp2_with fail
            go_ret
            exact ⟨rfl, HB0.out.trans (H15.out.mono HB0.out.size)⟩
        · have hfe2 : fr = 7 ∧ ep = 5 := by omega
          have e1 : (fr != 7) = false := by simp [hfe2.1]
          have e2 : (ep != 5) = false := by simp [hfe2.2]
          have hh0 : hr = 0 := by
            rw [← HHR.out]
            unfold hrF
            rw [if_neg ?_]
            show ¬ ((7 : Int) = -1 ∨ fr ≠ 7 ∨ ep ≠ 5)
            omega
          obtain ⟨bv, h12⟩ := H12.out.1 hh0
          have HE5 := hidden hfe2.2
          obtain ⟨hp0, hp1, hp2, hp3⟩ := next_hop HFF0.out
          have hs0 : 0 ≤ s ∧ s ≤ 65535 := by obtain ⟨s', _, _, _, rfl, _, _, _, h1, _⟩ := PM.fault_zero HFE.out; omega
          have hnt := new_took (N := (nd0 0).plan 3 7 K 5) (k := 2) (tk := 3) (ep := 5) (pa := 7) (og := 9) (h := hp + 1) (now := 1) (K := K) (p := ⟨s, t, l, q, st, L, bv⟩) hs0.1 hs0.2 (by omega) (by omega)
          obtain ⟨N2, hN2⟩ : ∃ N2 : Nd, { ((nd0 0).plan 3 7 K 5).took 2 ((tr0 3 5).to 7 K) ⟨s, t, l, q, st, L, bv⟩ 9 (hp + 1) 1 with nw := 1 } = N2 := ⟨_, rfl⟩
          rw [hN2] at h12
          have hlt2 : N2.lt = downs K (FM.ffault 3 9 5 (hp + 1) B) (fby 3 9 5 (hp + 1) B) := by
            rw [← hN2]
            show (((nd0 0).plan 3 7 K 5).took 2 ((tr0 3 5).to 7 K) ⟨s, t, l, q, st, L, bv⟩ 9 (hp + 1) 1).lt = _
            rw [hnt.1]
            show [] ++ downs K (FM.ffault 3 9 5 (hp + 1) (pby s t l q st L)) (fby 3 9 5 (hp + 1) (pby s t l q st L)) = _
            rw [List.nil_append, HB.out]
          have HN2 := hidden (show N2.nw = 1 ∧ N2.tr 2 = some ((((tr0 3 5).to 7 K).heard (65536 + s) 1).keep (65536 + s) ⟨s, t, l, q, st, L, bv⟩ (9, hp + 1)) ∧ N2.sb = [] ∧ N2.ls = 0 from by rw [← hN2]; exact ⟨rfl, hnt.2.1, hnt.2.2.1, hnt.2.2.2⟩)
          have C13 := h12.out
          have dz : decide (hr = 0) = true := by simpa using hh0
          subst hh0
          have HPQ := hidden (And.intro hp2 hp3)
          have HSS := hidden hs0
          have HLT := hidden hlt2
          clear hN2 hnt hfrep hfe2 H12 hp2 hp3 hs0
          by_cases h64 : 64 ≤ hp
          · have hz : N2.lt = [] := by
              rw [HLT.out]
              unfold downs
              rw [if_neg]
              have := HPQ.out.2 (by omega)
              rw [HE5.out] at this
              exact this
            rw [hz] at C13
            have C13 := hidden C13
            have e3 : decide (64 ≤ hp) = true := by simpa using h64
            clear h64 hz h12 hlt2
            go_wp2_with fail
            refine C13.out.mono ?_
            rintro e w12 ⟨la2, lc2, rfl, _, h13⟩
            have H14 := hidden h13.bel
            clear h13
            go_wp2_with fail
            go_ret
            exact ⟨rfl, HB0.out.trans (H14.out.mono HB0.out.size)⟩
          · have hg0 : FM.ffault 3 9 5 (hp + 1) B = 0 := by
              have := HPQ.out.1 (by omega)
              rw [HE5.out] at this
              exact this
            obtain ⟨F, hF⟩ : ∃ F, fby 3 9 5 (hp + 1) B = F := ⟨_, rfl⟩
            have hz : N2.lt = K.map fun k => (k, F) := by
              rw [HLT.out]
              unfold downs
              rw [if_pos hg0, hF]
            obtain ⟨G, hGG⟩ : ∃ G : List (Int × List Nat), (K.map fun k => (k, F)) = G := ⟨_, rfl⟩
            have hgl : G.length = km := by rw [← hGG, List.length_map]; exact HKl.out
            rw [hz, hGG, hgl] at C13
            have C13 := hidden C13
            have e3 : decide (64 ≤ hp) = false := by simpa using h64
            have hkk : ((km : Int) != (km : Int)) = false := by simp
            have HG0 := hidden hg0
            have HFq := hidden hF
            have HGG := hidden hGG
            have HGL := hidden hgl
            have hp64 : hp < 64 := by omega
            have hpw : wrap64 (hp + 1) = hp + 1 := by unfold wrap64; omega
            clear h64 hz h12 hlt2 hg0 hF hGG hgl
            go_wp2_with fail
            refine C13.out.mono ?_
            rintro e w12 ⟨la2, lc2, rfl, hLs, h13⟩
            obtain ⟨lg, rfl, -, hlc, -⟩ := hLs.at (by rw [HGL.out]; have := HK0.out; omega)
            have HLs := hidden hLs
            have H13 := hidden h13
            obtain ⟨kb, ko, rfl, -⟩ := HK.out.at (by have := HK0.out; omega)
            clear hLs h13 C13
            go_wp2_with fail
            go_loopg [24] km (fun gh x wr => ∃ i : Nat, i + gh = km ∧ x = .int .i64 (i : Int) ∧ Hid (Below w12.heap.size w12 wr))
            case atStart => exact ⟨0, by omega, rfl, hidden (Below.refl _ _)⟩
            case round =>
              obtain ⟨i, hig, rfl, HBr⟩ := hrel
              by_cases hi : i < km
              · have hiz : (i : Int) < (km : Int) := by omega
                have hKc := (HK.out.below (H13.out.bel.trans (HBr.out.mono H13.out.bel.size))).at (by omega)
                obtain ⟨kb', ko', ek, hcs⟩ := hKc
                cases ek
                have ck := hcs i hi
                obtain ⟨lg', el, -, -, hat⟩ := (HLs.out.below HBr.out).at (by rw [HGL.out]; omega)
                cases el
                obtain ⟨a6, m6, c6, y0, y1, hA6, hm6⟩ := hat i (by rw [HGL.out]; exact hi)
                have hgi : G[i]'(by rw [HGL.out]; exact hi) = (K.getD i 0, F) := by
                  have hil : i < K.length := by rw [HKl.out]; exact hi
                  simp only [← HGG.out, List.getElem_map, List.getD_eq_getElem?_getD, List.getElem?_eq_getElem hil, Option.getD_some]
                rw [hgi] at y0 hA6
                simp only at y0 hA6
                obtain ⟨kx, hkx⟩ : ∃ kx, K.getD i 0 = kx := ⟨_, rfl⟩
                rw [hkx] at ck y0
                have hbxr := ((H13.out.bel.trans (HBr.out.mono H13.out.bel.size)).block _ (lt_of_block HBX.out)).trans HBX.out
                have hpL : ∀ c ∈ pby s t l q st L, c < 256 := by
                  obtain ⟨s', t', l', q', rfl, rfl, rfl, rfl, h1, h2, h3, h4, h5⟩ := PM.fault_zero HFE.out
                  intro c hcc
                  unfold pby at hcc
                  simp only [Int.toNat_natCast] at hcc
                  rcases List.mem_append.1 hcc with hcc | hcc
                  · exact PM.head_lt st h1 h2 h3 h4 c hcc
                  · exact HL.out c hcc
                have HCP : Hid (∀ W, Below wr.heap.size wr W → Calls Tryz.prog 12 #[.slice (some ⟨lg, i * 2, none⟩) (km - i) (lc2 - i), .int .i64 kx] W fun e w' => ∃ fa fm fc a' c', e = .returned (.tuple #[.agg #[.int .i64 3, .int .i64 9, .int .i64 5, .int .i64 (hp + 1), .slice fa fm fc], .agg #[.int .i64 s, .int .i64 t, .int .i64 l, .int .i64 q, .bool st, .slice a' L.length c'], .bool true]) ∧ Hid (Arg w' a' L.length L) ∧ Hid (Below W.heap.size W w' ∧ Below wr.heap.size wr W) ∧ (∀ g j, g < W.heap.size → w'.cell? ⟨g, j, none⟩ = W.cell? ⟨g, j, none⟩) ∧ (∀ g j, g < W.heap.size → w'.frozen? ⟨g, j, none⟩ = W.frozen? ⟨g, j, none⟩) ∧ wr.heap.size ≤ W.heap.size ∧ W.heap.size ≤ w'.heap.size) := by
                  refine hidden ?_
                  intro W hbd
                  refine (plain_first kx 3 9 5 (hp + 1) s t l q st lg (i * 2) (km - i) (lc2 - i) a6 m6 c6 L W (by omega) (ext_cell hbd y0) (ext_cell hbd y1) (by have := hA6.below hbd; rw [← HFq.out, ← HB.out] at this; exact this) hm6 (by rw [HB.out]; exact HG0.out) (by rw [HAl.out]; exact HFE.out) hpL).mono ?_
                  rintro e w' ⟨fa, fm, fc, a', c', rfl, q1, q2⟩
                  exact ⟨fa, fm, fc, a', c', rfl, q2, ⟨q1, hbd⟩, fun g j hgg => cell_same (q1.block g hgg) j, fun g j hgg => by simp only [World.frozen?, q1.block g hgg], hbd.size, q1.size⟩
                have HV0 : Hid (Calls Tryz.prog 12 #[.slice (some ⟨lg, i * 2, none⟩) (km - i) (lc2 - i), .int .i64 kx] (wr.drew) fun e w' => ∃ fa fm fc a' c', e = .returned (.tuple #[.agg #[.int .i64 3, .int .i64 9, .int .i64 5, .int .i64 (hp + 1), .slice fa fm fc], .agg #[.int .i64 s, .int .i64 t, .int .i64 l, .int .i64 q, .bool st, .slice a' L.length c'], .bool true]) ∧ Hid (Arg w' a' L.length L) ∧ Hid (Below wr.heap.size wr w') ∧ Hid (True) ∧ wr.heap.size ≤ w'.heap.size) := by
                  have hbW : Below wr.heap.size wr (wr.drew) := (Below.refl _ _).drew
                  refine hidden ((HCP.out _ hbW).mono ?_)
                  rintro e w' ⟨fa, fm, fc, a', c', rfl, q2, q1, _, _, _, hz4⟩
                  exact ⟨fa, fm, fc, a', c', rfl, q2, hidden (hbW.trans (q1.out.1.mono hbW.size)), trivial, (hbW.trans (q1.out.1.mono hbW.size)).size⟩
                have HV1 : Hid (Calls Tryz.prog 12 #[.slice (some ⟨lg, i * 2, none⟩) (km - i) (lc2 - i), .int .i64 kx] ((wr.alloc (.cells #[.int .i64 0, .int .i64 0, .int .i64 0, .int .i64 0, .slice none 0 0] 40)).drew) fun e w' => ∃ fa fm fc a' c', e = .returned (.tuple #[.agg #[.int .i64 3, .int .i64 9, .int .i64 5, .int .i64 (hp + 1), .slice fa fm fc], .agg #[.int .i64 s, .int .i64 t, .int .i64 l, .int .i64 q, .bool st, .slice a' L.length c'], .bool true]) ∧ Hid (Arg w' a' L.length L) ∧ Hid (Below wr.heap.size wr w') ∧ Hid (w'.heap[wr.heap.size]? = some (.cells #[.int .i64 0, .int .i64 0, .int .i64 0, .int .i64 0, .slice none 0 0] 40 (0, 0))) ∧ wr.heap.size < w'.heap.size ∧ w'.cell? ⟨wr.heap.size, 0, none⟩ = some (.int .i64 0) ∧ w'.cell? ⟨wr.heap.size, 1, none⟩ = some (.int .i64 0) ∧ w'.cell? ⟨wr.heap.size, 2, none⟩ = some (.int .i64 0) ∧ w'.cell? ⟨wr.heap.size, 3, none⟩ = some (.int .i64 0) ∧ w'.cell? ⟨wr.heap.size, 4, none⟩ = some (.slice none 0 0) ∧ w'.frozen? ⟨wr.heap.size, 0, none⟩ = false ∧ w'.frozen? ⟨wr.heap.size, 1, none⟩ = false ∧ w'.frozen? ⟨wr.heap.size, 2, none⟩ = false ∧ w'.frozen? ⟨wr.heap.size, 3, none⟩ = false ∧ w'.frozen? ⟨wr.heap.size, 4, none⟩ = false) := by
                  have hbW : Below wr.heap.size wr ((wr.alloc (.cells #[.int .i64 0, .int .i64 0, .int .i64 0, .int .i64 0, .slice none 0 0] 40)).drew) := ((Below.refl _ _).alloc (Nat.le_refl _) _).drew
                  refine hidden ((HCP.out _ hbW).mono ?_)
                  rintro e w' ⟨fa, fm, fc, a', c', rfl, q2, q1, _, _, _, hz4⟩
                  have b0 : ((wr.alloc (.cells #[.int .i64 0, .int .i64 0, .int .i64 0, .int .i64 0, .slice none 0 0] 40)).drew).heap[wr.heap.size]? = some (.cells #[.int .i64 0, .int .i64 0, .int .i64 0, .int .i64 0, .slice none 0 0] 40 (0, 0)) := heap_alloc_new wr _
                  have b0' := (q1.out.1.block _ (lt_of_block b0)).trans b0
                  exact ⟨fa, fm, fc, a', c', rfl, q2, hidden (hbW.trans (q1.out.1.mono hbW.size)), b0', lt_of_block b0', by simp [World.cell?, b0'], by simp [World.cell?, b0'], by simp [World.cell?, b0'], by simp [World.cell?, b0'], by simp [World.cell?, b0'], by simp [World.frozen?, b0'], by simp [World.frozen?, b0'], by simp [World.frozen?, b0'], by simp [World.frozen?, b0'], by simp [World.frozen?, b0']⟩
                have HV2 : Hid (Calls Tryz.prog 12 #[.slice (some ⟨lg, i * 2, none⟩) (km - i) (lc2 - i), .int .i64 kx] ((wr.alloc (.cells #[.int .i64 0, .int .i64 0, .int .i64 0, .int .i64 0, .bool false, .slice none 0 0] 31)).drew) fun e w' => ∃ fa fm fc a' c', e = .returned (.tuple #[.agg #[.int .i64 3, .int .i64 9, .int .i64 5, .int .i64 (hp + 1), .slice fa fm fc], .agg #[.int .i64 s, .int .i64 t, .int .i64 l, .int .i64 q, .bool st, .slice a' L.length c'], .bool true]) ∧ Hid (Arg w' a' L.length L) ∧ Hid (Below wr.heap.size wr w') ∧ Hid (w'.heap[wr.heap.size]? = some (.cells #[.int .i64 0, .int .i64 0, .int .i64 0, .int .i64 0, .bool false, .slice none 0 0] 31 (0, 0))) ∧ wr.heap.size < w'.heap.size ∧ w'.cell? ⟨wr.heap.size, 0, none⟩ = some (.int .i64 0) ∧ w'.cell? ⟨wr.heap.size, 1, none⟩ = some (.int .i64 0) ∧ w'.cell? ⟨wr.heap.size, 2, none⟩ = some (.int .i64 0) ∧ w'.cell? ⟨wr.heap.size, 3, none⟩ = some (.int .i64 0) ∧ w'.cell? ⟨wr.heap.size, 4, none⟩ = some (.bool false) ∧ w'.cell? ⟨wr.heap.size, 5, none⟩ = some (.slice none 0 0) ∧ w'.frozen? ⟨wr.heap.size, 0, none⟩ = false ∧ w'.frozen? ⟨wr.heap.size, 1, none⟩ = false ∧ w'.frozen? ⟨wr.heap.size, 2, none⟩ = false ∧ w'.frozen? ⟨wr.heap.size, 3, none⟩ = false ∧ w'.frozen? ⟨wr.heap.size, 4, none⟩ = false ∧ w'.frozen? ⟨wr.heap.size, 5, none⟩ = false) := by
                  have hbW : Below wr.heap.size wr ((wr.alloc (.cells #[.int .i64 0, .int .i64 0, .int .i64 0, .int .i64 0, .bool false, .slice none 0 0] 31)).drew) := ((Below.refl _ _).alloc (Nat.le_refl _) _).drew
                  refine hidden ((HCP.out _ hbW).mono ?_)
                  rintro e w' ⟨fa, fm, fc, a', c', rfl, q2, q1, _, _, _, hz4⟩
                  have b0 : ((wr.alloc (.cells #[.int .i64 0, .int .i64 0, .int .i64 0, .int .i64 0, .bool false, .slice none 0 0] 31)).drew).heap[wr.heap.size]? = some (.cells #[.int .i64 0, .int .i64 0, .int .i64 0, .int .i64 0, .bool false, .slice none 0 0] 31 (0, 0)) := heap_alloc_new wr _
                  have b0' := (q1.out.1.block _ (lt_of_block b0)).trans b0
                  exact ⟨fa, fm, fc, a', c', rfl, q2, hidden (hbW.trans (q1.out.1.mono hbW.size)), b0', lt_of_block b0', by simp [World.cell?, b0'], by simp [World.cell?, b0'], by simp [World.cell?, b0'], by simp [World.cell?, b0'], by simp [World.cell?, b0'], by simp [World.cell?, b0'], by simp [World.frozen?, b0'], by simp [World.frozen?, b0'], by simp [World.frozen?, b0'], by simp [World.frozen?, b0'], by simp [World.frozen?, b0'], by simp [World.frozen?, b0']⟩
                have HV3 : Hid (Calls Tryz.prog 12 #[.slice (some ⟨lg, i * 2, none⟩) (km - i) (lc2 - i), .int .i64 kx] (((wr.alloc (.cells #[.int .i64 0, .int .i64 0, .int .i64 0, .int .i64 0, .slice none 0 0] 40)).alloc (.cells #[.int .i64 0, .int .i64 0, .int .i64 0, .int .i64 0, .bool false, .slice none 0 0] 31)).drew) fun e w' => ∃ fa fm fc a' c', e = .returned (.tuple #[.agg #[.int .i64 3, .int .i64 9, .int .i64 5, .int .i64 (hp + 1), .slice fa fm fc], .agg #[.int .i64 s, .int .i64 t, .int .i64 l, .int .i64 q, .bool st, .slice a' L.length c'], .bool true]) ∧ Hid (Arg w' a' L.length L) ∧ Hid (Below wr.heap.size wr w') ∧ Hid (w'.heap[wr.heap.size]? = some (.cells #[.int .i64 0, .int .i64 0, .int .i64 0, .int .i64 0, .slice none 0 0] 40 (0, 0)) ∧ w'.heap[wr.heap.size + 1]? = some (.cells #[.int .i64 0, .int .i64 0, .int .i64 0, .int .i64 0, .bool false, .slice none 0 0] 31 (0, 0))) ∧ wr.heap.size + 1 < w'.heap.size ∧ w'.cell? ⟨wr.heap.size, 0, none⟩ = some (.int .i64 0) ∧ w'.cell? ⟨wr.heap.size, 1, none⟩ = some (.int .i64 0) ∧ w'.cell? ⟨wr.heap.size, 2, none⟩ = some (.int .i64 0) ∧ w'.cell? ⟨wr.heap.size, 3, none⟩ = some (.int .i64 0) ∧ w'.cell? ⟨wr.heap.size, 4, none⟩ = some (.slice none 0 0) ∧ w'.frozen? ⟨wr.heap.size, 0, none⟩ = false ∧ w'.frozen? ⟨wr.heap.size, 1, none⟩ = false ∧ w'.frozen? ⟨wr.heap.size, 2, none⟩ = false ∧ w'.frozen? ⟨wr.heap.size, 3, none⟩ = false ∧ w'.frozen? ⟨wr.heap.size, 4, none⟩ = false ∧ w'.cell? ⟨wr.heap.size + 1, 0, none⟩ = some (.int .i64 0) ∧ w'.cell? ⟨wr.heap.size + 1, 1, none⟩ = some (.int .i64 0) ∧ w'.cell? ⟨wr.heap.size + 1, 2, none⟩ = some (.int .i64 0) ∧ w'.cell? ⟨wr.heap.size + 1, 3, none⟩ = some (.int .i64 0) ∧ w'.cell? ⟨wr.heap.size + 1, 4, none⟩ = some (.bool false) ∧ w'.cell? ⟨wr.heap.size + 1, 5, none⟩ = some (.slice none 0 0) ∧ w'.frozen? ⟨wr.heap.size + 1, 0, none⟩ = false ∧ w'.frozen? ⟨wr.heap.size + 1, 1, none⟩ = false ∧ w'.frozen? ⟨wr.heap.size + 1, 2, none⟩ = false ∧ w'.frozen? ⟨wr.heap.size + 1, 3, none⟩ = false ∧ w'.frozen? ⟨wr.heap.size + 1, 4, none⟩ = false ∧ w'.frozen? ⟨wr.heap.size + 1, 5, none⟩ = false) := by
                  have hbW : Below wr.heap.size wr (((wr.alloc (.cells #[.int .i64 0, .int .i64 0, .int .i64 0, .int .i64 0, .slice none 0 0] 40)).alloc (.cells #[.int .i64 0, .int .i64 0, .int .i64 0, .int .i64 0, .bool false, .slice none 0 0] 31)).drew) := (below2 _ _ _).drew
                  refine hidden ((HCP.out _ hbW).mono ?_)
                  rintro e w' ⟨fa, fm, fc, a', c', rfl, q2, q1, _, _, _, hz4⟩
                  have b0 : (((wr.alloc (.cells #[.int .i64 0, .int .i64 0, .int .i64 0, .int .i64 0, .slice none 0 0] 40)).alloc (.cells #[.int .i64 0, .int .i64 0, .int .i64 0, .int .i64 0, .bool false, .slice none 0 0] 31)).drew).heap[wr.heap.size]? = some (.cells #[.int .i64 0, .int .i64 0, .int .i64 0, .int .i64 0, .slice none 0 0] 40 (0, 0)) := (Below.heap_alloc _ _ _ (by simp)).trans (heap_alloc_new wr _)
                  have b1 : (((wr.alloc (.cells #[.int .i64 0, .int .i64 0, .int .i64 0, .int .i64 0, .slice none 0 0] 40)).alloc (.cells #[.int .i64 0, .int .i64 0, .int .i64 0, .int .i64 0, .bool false, .slice none 0 0] 31)).drew).heap[wr.heap.size + 1]? = some (.cells #[.int .i64 0, .int .i64 0, .int .i64 0, .int .i64 0, .bool false, .slice none 0 0] 31 (0, 0)) := by
                    have := heap_alloc_new (wr.alloc (.cells #[.int .i64 0, .int .i64 0, .int .i64 0, .int .i64 0, .slice none 0 0] 40)) (.cells #[.int .i64 0, .int .i64 0, .int .i64 0, .int .i64 0, .bool false, .slice none 0 0] 31)
                    simp only [World.size_alloc] at this
                    exact this
                  have b0' := (q1.out.1.block _ (lt_of_block b0)).trans b0
                  have b1' := (q1.out.1.block _ (lt_of_block b1)).trans b1
                  exact ⟨fa, fm, fc, a', c', rfl, q2, hidden (hbW.trans (q1.out.1.mono hbW.size)), ⟨b0', b1'⟩, lt_of_block b1', by simp [World.cell?, b0'], by simp [World.cell?, b0'], by simp [World.cell?, b0'], by simp [World.cell?, b0'], by simp [World.cell?, b0'], by simp [World.frozen?, b0'], by simp [World.frozen?, b0'], by simp [World.frozen?, b0'], by simp [World.frozen?, b0'], by simp [World.frozen?, b0'], by simp [World.cell?, b1'], by simp [World.cell?, b1'], by simp [World.cell?, b1'], by simp [World.cell?, b1'], by simp [World.cell?, b1'], by simp [World.cell?, b1'], by simp [World.frozen?, b1'], by simp [World.frozen?, b1'], by simp [World.frozen?, b1'], by simp [World.frozen?, b1'], by simp [World.frozen?, b1'], by simp [World.frozen?, b1']⟩
                have HV4 : Hid (Calls Tryz.prog 12 #[.slice (some ⟨lg, i * 2, none⟩) (km - i) (lc2 - i), .int .i64 kx] (((wr.alloc (.cells #[.int .i64 0, .int .i64 0, .int .i64 0, .int .i64 0, .bool false, .slice none 0 0] 31)).alloc (.cells #[.int .i64 0, .int .i64 0, .int .i64 0, .int .i64 0, .slice none 0 0] 40)).drew) fun e w' => ∃ fa fm fc a' c', e = .returned (.tuple #[.agg #[.int .i64 3, .int .i64 9, .int .i64 5, .int .i64 (hp + 1), .slice fa fm fc], .agg #[.int .i64 s, .int .i64 t, .int .i64 l, .int .i64 q, .bool st, .slice a' L.length c'], .bool true]) ∧ Hid (Arg w' a' L.length L) ∧ Hid (Below wr.heap.size wr w') ∧ Hid (w'.heap[wr.heap.size + 1]? = some (.cells #[.int .i64 0, .int .i64 0, .int .i64 0, .int .i64 0, .slice none 0 0] 40 (0, 0)) ∧ w'.heap[wr.heap.size]? = some (.cells #[.int .i64 0, .int .i64 0, .int .i64 0, .int .i64 0, .bool false, .slice none 0 0] 31 (0, 0))) ∧ wr.heap.size + 1 < w'.heap.size ∧ w'.cell? ⟨wr.heap.size + 1, 0, none⟩ = some (.int .i64 0) ∧ w'.cell? ⟨wr.heap.size + 1, 1, none⟩ = some (.int .i64 0) ∧ w'.cell? ⟨wr.heap.size + 1, 2, none⟩ = some (.int .i64 0) ∧ w'.cell? ⟨wr.heap.size + 1, 3, none⟩ = some (.int .i64 0) ∧ w'.cell? ⟨wr.heap.size + 1, 4, none⟩ = some (.slice none 0 0) ∧ w'.frozen? ⟨wr.heap.size + 1, 0, none⟩ = false ∧ w'.frozen? ⟨wr.heap.size + 1, 1, none⟩ = false ∧ w'.frozen? ⟨wr.heap.size + 1, 2, none⟩ = false ∧ w'.frozen? ⟨wr.heap.size + 1, 3, none⟩ = false ∧ w'.frozen? ⟨wr.heap.size + 1, 4, none⟩ = false ∧ w'.cell? ⟨wr.heap.size, 0, none⟩ = some (.int .i64 0) ∧ w'.cell? ⟨wr.heap.size, 1, none⟩ = some (.int .i64 0) ∧ w'.cell? ⟨wr.heap.size, 2, none⟩ = some (.int .i64 0) ∧ w'.cell? ⟨wr.heap.size, 3, none⟩ = some (.int .i64 0) ∧ w'.cell? ⟨wr.heap.size, 4, none⟩ = some (.bool false) ∧ w'.cell? ⟨wr.heap.size, 5, none⟩ = some (.slice none 0 0) ∧ w'.frozen? ⟨wr.heap.size, 0, none⟩ = false ∧ w'.frozen? ⟨wr.heap.size, 1, none⟩ = false ∧ w'.frozen? ⟨wr.heap.size, 2, none⟩ = false ∧ w'.frozen? ⟨wr.heap.size, 3, none⟩ = false ∧ w'.frozen? ⟨wr.heap.size, 4, none⟩ = false ∧ w'.frozen? ⟨wr.heap.size, 5, none⟩ = false) := by
                  have hbW : Below wr.heap.size wr (((wr.alloc (.cells #[.int .i64 0, .int .i64 0, .int .i64 0, .int .i64 0, .bool false, .slice none 0 0] 31)).alloc (.cells #[.int .i64 0, .int .i64 0, .int .i64 0, .int .i64 0, .slice none 0 0] 40)).drew) := (below2 _ _ _).drew
                  refine hidden ((HCP.out _ hbW).mono ?_)
                  rintro e w' ⟨fa, fm, fc, a', c', rfl, q2, q1, _, _, _, hz4⟩
                  have b0 : (((wr.alloc (.cells #[.int .i64 0, .int .i64 0, .int .i64 0, .int .i64 0, .bool false, .slice none 0 0] 31)).alloc (.cells #[.int .i64 0, .int .i64 0, .int .i64 0, .int .i64 0, .slice none 0 0] 40)).drew).heap[wr.heap.size]? = some (.cells #[.int .i64 0, .int .i64 0, .int .i64 0, .int .i64 0, .bool false, .slice none 0 0] 31 (0, 0)) := (Below.heap_alloc _ _ _ (by simp)).trans (heap_alloc_new wr _)
                  have b1 : (((wr.alloc (.cells #[.int .i64 0, .int .i64 0, .int .i64 0, .int .i64 0, .bool false, .slice none 0 0] 31)).alloc (.cells #[.int .i64 0, .int .i64 0, .int .i64 0, .int .i64 0, .slice none 0 0] 40)).drew).heap[wr.heap.size + 1]? = some (.cells #[.int .i64 0, .int .i64 0, .int .i64 0, .int .i64 0, .slice none 0 0] 40 (0, 0)) := by
                    have := heap_alloc_new (wr.alloc (.cells #[.int .i64 0, .int .i64 0, .int .i64 0, .int .i64 0, .bool false, .slice none 0 0] 31)) (.cells #[.int .i64 0, .int .i64 0, .int .i64 0, .int .i64 0, .slice none 0 0] 40)
                    simp only [World.size_alloc] at this
                    exact this
                  have b0' := (q1.out.1.block _ (lt_of_block b0)).trans b0
                  have b1' := (q1.out.1.block _ (lt_of_block b1)).trans b1
                  exact ⟨fa, fm, fc, a', c', rfl, q2, hidden (hbW.trans (q1.out.1.mono hbW.size)), ⟨b1', b0'⟩, lt_of_block b1', by simp [World.cell?, b1'], by simp [World.cell?, b1'], by simp [World.cell?, b1'], by simp [World.cell?, b1'], by simp [World.cell?, b1'], by simp [World.frozen?, b1'], by simp [World.frozen?, b1'], by simp [World.frozen?, b1'], by simp [World.frozen?, b1'], by simp [World.frozen?, b1'], by simp [World.cell?, b0'], by simp [World.cell?, b0'], by simp [World.cell?, b0'], by simp [World.cell?, b0'], by simp [World.cell?, b0'], by simp [World.cell?, b0'], by simp [World.frozen?, b0'], by simp [World.frozen?, b0'], by simp [World.frozen?, b0'], by simp [World.frozen?, b0'], by simp [World.frozen?, b0'], by simp [World.frozen?, b0']⟩
                have hcut := let_cut lg km lc2 i hi hlc
                have HCK := hidden (And.intro ck (And.intro y0 hbxr))
                obtain ⟨lm, hlm⟩ : ∃ lm, km - i = lm := ⟨_, rfl⟩
                obtain ⟨lcc, hlcc⟩ : ∃ lcc, lc2 - i = lcc := ⟨_, rfl⟩
                obtain ⟨io, hio⟩ : ∃ io, i * 2 = io := ⟨_, rfl⟩
                obtain ⟨LL, hLL⟩ : ∃ LL, L.length = LL := ⟨_, rfl⟩
                clear HCP
                rw [hlm, hlcc, hio, hLL] at HV0 HV1 HV2 HV3 HV4
                rw [hlm, hlcc, hio] at hcut
                have HIO := hidden hio
                have HLL := hidden hLL
                clear hcs hat hA6 hm6 hgi hkx hbxr hpL hlm hlcc hio hLL y0 y1
                have hkbl : kb < wr.heap.size := World.block_lt_of_cell? wr ⟨kb, ko + i, none⟩ ck
                have ck0 : wr.drew.cell? ⟨kb, ko + i, none⟩ = some (.int .i64 kx) := ck
                have ck1 : (wr.alloc (.cells #[.int .i64 0, .int .i64 0, .int .i64 0, .int .i64 0, .slice none 0 0] 40)).drew.cell? ⟨kb, ko + i, none⟩ = some (.int .i64 kx) := Pack.cell_alloc ck _
                have ck2 : (wr.alloc (.cells #[.int .i64 0, .int .i64 0, .int .i64 0, .int .i64 0, .bool false, .slice none 0 0] 31)).drew.cell? ⟨kb, ko + i, none⟩ = some (.int .i64 kx) := Pack.cell_alloc ck _
                have ck3 : ((wr.alloc (.cells #[.int .i64 0, .int .i64 0, .int .i64 0, .int .i64 0, .slice none 0 0] 40)).alloc (.cells #[.int .i64 0, .int .i64 0, .int .i64 0, .int .i64 0, .bool false, .slice none 0 0] 31)).drew.cell? ⟨kb, ko + i, none⟩ = some (.int .i64 kx) := Pack.cell_alloc (Pack.cell_alloc ck _) _
                have ck4 : ((wr.alloc (.cells #[.int .i64 0, .int .i64 0, .int .i64 0, .int .i64 0, .bool false, .slice none 0 0] 31)).alloc (.cells #[.int .i64 0, .int .i64 0, .int .i64 0, .int .i64 0, .slice none 0 0] 40)).drew.cell? ⟨kb, ko + i, none⟩ = some (.int .i64 kx) := Pack.cell_alloc (Pack.cell_alloc ck _) _
                clear ck
                go_upto_region 32 with fail
                go_cut [25, 26, 27] from 140 to 151 (fun u25 u26 u27 wx => ∃ fb pb fa fm fc qa qc, u25 = .pointer (some ⟨fb, 0, none⟩) ∧ u26 = .pointer (some ⟨pb, 0, none⟩) ∧ u27 = .bool true ∧ Hid (Rel32 wr wx fb pb s t l q (hp + 1) st fa fm fc qa LL qc L))
                case first =>
                  go_region_with (go_at_call 12; first | (refine HV0.out.mono ?_; rintro e w3 ⟨fa, fm, fc, qa, qc, rfl, HA3, HB3, HZ3, hz3⟩) | (refine HV1.out.mono ?_; rintro e w3 ⟨fa, fm, fc, qa, qc, rfl, HA3, HB3, HZ3, hz3, k0, k1, k2, k3, k4, k5, k6, k7, k8, k9⟩) | (refine HV2.out.mono ?_; rintro e w3 ⟨fa, fm, fc, qa, qc, rfl, HA3, HB3, HZ3, hz3, k0, k1, k2, k3, k4, k5, k6, k7, k8, k9, k10, k11⟩) | (refine HV3.out.mono ?_; rintro e w3 ⟨fa, fm, fc, qa, qc, rfl, HA3, HB3, HZ3, hz3, k0, k1, k2, k3, k4, k5, k6, k7, k8, k9, k10, k11, k12, k13, k14, k15, k16, k17, k18, k19, k20, k21⟩) | (refine HV4.out.mono ?_; rintro e w3 ⟨fa, fm, fc, qa, qc, rfl, HA3, HB3, HZ3, hz3, k0, k1, k2, k3, k4, k5, k6, k7, k8, k9, k10, k11, k12, k13, k14, k15, k16, k17, k18, k19, k20, k21⟩))
                  all_goals (go_wp2_with fail)
                  all_goals go_meet
                  all_goals (first
                    | exact ⟨_, _, fa, fm, fc, qa, qc, rfl, rfl, rfl, hidden (by with_reducible exact rel_a HA3.out HB3.out)⟩
                    | exact ⟨_, _, fa, fm, fc, qa, qc, rfl, rfl, rfl, hidden (by with_reducible exact rel_b HA3.out HB3.out)⟩
                    | exact ⟨_, _, fa, fm, fc, qa, qc, rfl, rfl, rfl, hidden (by with_reducible exact rel_c' HA3.out HB3.out HZ3.out)⟩
                    | exact ⟨_, _, fa, fm, fc, qa, qc, rfl, rfl, rfl, hidden (by with_reducible exact rel_d' HA3.out HB3.out HZ3.out)⟩
                    | exact ⟨_, _, fa, fm, fc, qa, qc, rfl, rfl, rfl, hidden (by with_reducible exact rel_e' HA3.out HB3.out HZ3.out)⟩
                    | exact ⟨_, _, fa, fm, fc, qa, qc, rfl, rfl, rfl, hidden (by with_reducible exact rel_f' HA3.out HB3.out HZ3.out)⟩)
                case rest =>
                obtain ⟨fb, pb, fa, fm, fc, qa, qc, rfl, rfl, rfl, HR⟩ := hcut
                obtain ⟨wA, hwA⟩ : ∃ x, x = wc := ⟨_, rfl⟩
                subst hwA
                have hbA : Below w12.heap.size w12 wA := HBr.out.trans (HR.out.2.2.1.mono HBr.out.size)
                have hbW : Below W0.heap.size W0 wA := H13.out.bel.trans (hbA.mono H13.out.bel.size)
                have hpx := (HR.out.2.2.1.block _ (lt_of_block HCK.out.2.2)).trans HCK.out.2.2
                have CS := hidden (Pack.same_pk s t l q st qa a LL m qc cap L wA HR.out.2.2.2 (HA.out.below hbW))
                have hqx := HR.out.2.1
                have g0 : wA.cell? ⟨pb, 0, none⟩ = some (.int .i64 s) := by simp [World.cell?, hqx]
                have g1 : wA.cell? ⟨pb, 1, none⟩ = some (.int .i64 t) := by simp [World.cell?, hqx]
                have g2 : wA.cell? ⟨pb, 2, none⟩ = some (.int .i64 l) := by simp [World.cell?, hqx]
                have g3 : wA.cell? ⟨pb, 3, none⟩ = some (.int .i64 q) := by simp [World.cell?, hqx]
                have g4 : wA.cell? ⟨pb, 4, none⟩ = some (.bool st) := by simp [World.cell?, hqx]
                have g5 : wA.cell? ⟨pb, 5, none⟩ = some (.slice qa LL qc) := by simp [World.cell?, hqx]
                have z0 : wA.cell? ⟨w.heap.size, 0, none⟩ = some (.int .i64 s) := by simp [World.cell?, hpx]
                have z1 : wA.cell? ⟨w.heap.size, 1, none⟩ = some (.int .i64 t) := by simp [World.cell?, hpx]
                have z2 : wA.cell? ⟨w.heap.size, 2, none⟩ = some (.int .i64 l) := by simp [World.cell?, hpx]
                have z3 : wA.cell? ⟨w.heap.size, 3, none⟩ = some (.int .i64 q) := by simp [World.cell?, hpx]
                have z4 : wA.cell? ⟨w.heap.size, 4, none⟩ = some (.bool st) := by simp [World.cell?, hpx]
                have z5 : wA.cell? ⟨w.heap.size, 5, none⟩ = some (.slice a m cap) := by simp [World.cell?, hpx]
                have HBA := hidden hbA
                clear hbA hbW hpx hqx
                go_wp2_with fail
                refine CS.out.mono ?_
                rintro e wD ⟨rfl, hbD⟩
                have hbE := HR.out.2.2.1.trans (hbD.mono HR.out.2.2.1.size)
                have hfx := (hbD.block _ (lt_of_block HR.out.1)).trans HR.out.1
                have x0 := ext_cell hbE HCK.out.1
                have x1 := ext_cell hbE HCK.out.2.1
                have f0 : wD.cell? ⟨fb, 0, none⟩ = some (.int .i64 3) := by simp [World.cell?, hfx]
                have f1 : wD.cell? ⟨fb, 1, none⟩ = some (.int .i64 9) := by simp [World.cell?, hfx]
                have f2 : wD.cell? ⟨fb, 2, none⟩ = some (.int .i64 5) := by simp [World.cell?, hfx]
                have f3 : wD.cell? ⟨fb, 3, none⟩ = some (.int .i64 (hp + 1)) := by simp [World.cell?, hfx]
                have HBD := hidden (HBA.out.trans (hbD.mono HBA.out.size))
                clear hbD hbE hfx g0 g1 g2 g3 g4 g5 z0 z1 z2 z3 z4 z5 CS
                have hkk2 : (kx != kx) = false := by simp
                have hpp : ((hp + 1) != (hp + 1)) = false := by simp
                go_wp2_with fail
                go_quiet (fail)
                go_wp2_with fail
                go_roundg (km - (i + 1))
                case measure => omega
                case rel => exact ⟨i + 1, by omega, by go_num, hidden (below_drewN' HBD.out)⟩
              · have hiz : ¬ (i : Int) < (km : Int) := by omega
                obtain ⟨T2, hT2⟩ : ∃ T2, (((tr0 3 5).to 7 K).heard (65536 + s) 1).keep (65536 + s) ⟨s, t, l, q, st, L, bv⟩ (9, hp + 1) = T2 := ⟨_, rfl⟩
                have hag := again_hB (tk := 3) (ep := 5) (pa := 7) (K := K) (og := 9) (h := hp + 1) (now := 1) (now' := 2) (p := ⟨s, t, l, q, st, L, bv⟩) HSS.out.1 HSS.out.2 (by omega) (by omega) (by omega) T2 hT2.symm
                obtain ⟨n1, n2, n3, n4⟩ := HN2.out
                rw [hT2] at n2
                have hfl : PM.fault s t l q L.length = 0 := by rw [HAl.out]; exact HFE.out
                have hKl := HKL.out
                have C15 := OneA.hear (k := 2) (tr := T2) bc (H13.out.below HBr.out) 7 2 (by omega) n2 (by show GM.tf N2.nw 2 = 0; rw [n1]; decide) hag.1 hag.2.1 HBC.out (by rw [show ((2 : Nat) : Int) + 1 = 3 from rfl, HB.out]; exact HFF0.out) hfl HL.out n3 (by show SInv N2.sb N2.ls; rw [n3, n4]; exact sinv_nil) (by show 0 + T2.kids.length ≤ 1000000; rw [hag.2.2.2.2.2.1]; omega)
                have hz2 : hrF T2 7 ep = 0 := by
                  unfold hrF
                  rw [hag.2.2.2.1, hag.2.2.2.2.1, HE5.out]
                  rfl
                have HHB := hidden hag.2.2.1
                obtain ⟨h2, hh2⟩ : ∃ h2, hrF T2 7 ep = h2 := ⟨_, rfl⟩
                rw [hh2] at C15 hz2
                have C15 := hidden C15
                have u1 := cmp_eq h2
                have u2 := grd_eq h2
                have u3 : decide (h2 = 0) = true := by simpa using hz2
                have HZ2 := hidden hz2
                clear hz2 hh2 hag hT2 n1 n2 n3 n4 hfl hKl
                go_wp2_with fail
                refine C15.out.mono ?_
                rintro e w15 ⟨rfl, h15⟩
                obtain ⟨bv2, h16⟩ := h15.1 HZ2.out
                have C16 := h16.out
                rw [show ({ ({ N2 with lt := [] } : Nd).took 2 T2 ⟨s, t, l, q, st, L, bv2⟩ 9 (hp + 1) 2 with nw := 2 } : Nd).lt.length = 0 from by unfold Nd.took; rw [if_neg (by rw [HHB.out]; decide)]; rfl] at C16
                have C16 := hidden C16
                clear h15 h16 C15
                go_wp2_with fail
                refine C16.out.mono ?_
                rintro e w17 ⟨la7, lc7, rfl, -, h17⟩
                have H17 := hidden h17.bel
                clear h17 C16
                go_wp2_with fail
                go_ret
                exact ⟨rfl, HB0.out.trans (H17.out.mono HB0.out.size)⟩
      · have dd : decide (ff = 0) = false := by simpa using hf0
        clear hf0
        go_wp2_with fail
        go_ret
        exact ⟨rfl, HB0.out.trans (H11.out.bel.mono HB0.out.size)⟩
    · have d0 : decide (fp = 0) = false := by simpa using h0
      have H9 := hidden (H8.out.2 h0)
      clear h0 H8
      go_wp2_with fail
      refine CE.out.mono ?_
      rintro e w9 ⟨xg, rfl, hxg, hA9, hb9⟩
      have H10 := hidden (H9.out.below hb9)
      clear hxg hA9 hb9 CE z0 z1 z2 z3 z4 z5
      go_wp2_with fail
      go_ret
      exact ⟨rfl, HB0.out.trans (H10.out.bel.mono HB0.out.size)⟩
  · have CE := hidden (Pack.encode_bad s t l q st a m cap w8 hfe)
    obtain ⟨fe, hfee⟩ : ∃ fe, PM.fault s t l q m = fe := ⟨_, rfl⟩
    rw [hfee] at CE hfe
    have t1 := cmp_ne fe
    have t2 := grd_ne fe
    have d1 : decide (fe = 0) = false := by simpa using hfe
    clear hfee hfe
    go_wp2_with fail
    refine CE.out.mono ?_
    rintro e w9 ⟨rfl, hb9⟩
    rw [show Pack.errv fe = errv fe from rfl]
    have H10 := hidden (HB8.out.trans (hb9.mono HB8.out.size))
    clear hb9 CE z0 z1 z2 z3 z4 z5
    by_cases h0 : fp = 0
    · have d0 : decide (fp = 0) = true := by simpa using h0
      clear h0
      go_wp2_with fail
      go_ret
      exact ⟨rfl, HB0.out.trans (H10.out.mono HB0.out.size)⟩
    · have d0 : decide (fp = 0) = false := by simpa using h0
      clear h0
      go_wp2_with fail
      go_ret
      exact ⟨rfl, HB0.out.trans (H10.out.mono HB0.out.size)⟩
end Go.Proofs.YtijfocggdjjnjaiGreatDoor.ND

