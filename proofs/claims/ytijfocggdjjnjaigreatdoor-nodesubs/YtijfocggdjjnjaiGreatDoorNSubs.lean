/-
  What the law NodeSubs returns: true. Its condition: package errors' variable errorType is as it was laid.
-/
import Derived.Test.YtijfocggdjjnjaiGreatDoorSubW
import Derived.Test.YtijfocggdjjnjaiGreatDoorOpens
import Derived.Deep.CutBlock
import Derived.Deep.CutRange
import Derived.Deep.LoopGhost
namespace Go.Proofs.YtijfocggdjjnjaiGreatDoor.ND
open Go.ChangeShapes Go.WideShapes Go.ChangeAt Go.RowKit Go.Maps Go.Proofs.YtijfocggdjjnjaiGreatDoor.Mem Go.Proofs.YtijfocggdjjnjaiGreatDoor.NO
set_option linter.unusedVariables false

set_option maxHeartbeats 8000000 in
set_option maxRecDepth 100000 in
theorem nsubs_walk (many : Int) (va : Option Addr) (ln cn : Nat) (F : Nat → Open.Pk) (w : World) (hg : w.cell? ⟨0, 0, none⟩ = some (.iface 208 (.agg #[.pointer (some ⟨1, 25, none⟩)]))) (hF : Open.Pks w va ln F) :
    Calls Tryz.prog 5 #[.int .i64 many, .slice va ln cn] w fun e w' => e = .returned (.bool true) ∧ Below w.heap.size w w' := by
  have HG := hidden hg
  have hln := hF.1
  have HFs := hidden hF.2
  clear hg hF
  have C1 := hidden (new_ok 2 (fun _ => nobody) 1 w rfl)
  go_enter Tryz.func5, Tryz.ntmps5
  go_wp2_with fail
  refine C1.out.mono ?_
  intro e w1 hm
  obtain ⟨b, rfl, h1⟩ := One.of_made (Below.refl w.heap.size w) hm
  have H1 := hidden h1
  clear hm h1 C1
  have C2 := H1.out.plan 1 (-1) 0 none 0 0 [] (Gaps.IArg.nil _ _) (fun _ => ⟨rfl, rfl⟩) sinv_nil (by intro x hx; simp [nd0] at hx)
  rw [show pF (nd0 2) 1 (-1) [] 0 = 0 from by decide, errv_zero] at C2
  have C2 := hidden C2
  go_wp2_with fail
  refine C2.out.mono ?_
  rintro e w2 ⟨rfl, h2⟩
  have H2 := hidden (S1.start (h2.1 rfl))
  clear h2 C2 H1
  by_cases g0 : many < 1
  · have e0 : decide (many < 1) = true := by simpa using g0
    clear g0
    go_wp2_with fail
    go_ret
    exact ⟨rfl, H2.out.bel⟩
  have e0 : decide (many < 1) = false := by simpa using g0
  by_cases g1 : 20 < many
  · have e1 : decide (20 < many) = true := by simpa using g1
    clear g0 g1
    go_wp2_with fail
    go_ret
    exact ⟨rfl, H2.out.bel⟩
  have e1 : decide (20 < many) = false := by simpa using g1
  obtain ⟨M, hM⟩ : ∃ M : Nat, many = (M : Int) := ⟨many.toNat, by omega⟩
  subst hM
  have hM0 : 0 < M := by omega
  have hM1 : M ≤ 20 := by omega
  clear g0 g1
  go_wp2_with fail
  clear e0 e1
  go_loopg [7] M (fun g y wr => ∃ c : Nat, c + g = M ∧ y = .int .i64 (c : Int) ∧ Hid (S1 w wr b c))
  case atStart => exact ⟨0, by omega, rfl, H2⟩
  case round =>
    obtain ⟨c, hcg, rfl, HS⟩ := hrel
    clear H2
    by_cases hc : c < M
    · have hcz : (c : Int) < (M : Int) := by omega
      have hc0 : (0 : Int) ≤ (c : Int) := by omega
      have hc2 : (c : Int) < 20 := by omega
      have C3 := hidden (HS.out.sub (by omega))
      go_wp2_with fail
      refine C3.out.mono ?_
      rintro e w3 ⟨rfl, h3⟩
      have H3 := hidden h3
      clear h3 C3 HS
      go_wp2_with fail
      go_roundg (M - (c + 1))
      case measure => omega
      case rel => exact ⟨c + 1, by omega, by go_num, H3⟩
    · have hcz : ¬ (c : Int) < (M : Int) := by omega
      obtain rfl : c = M := by omega
      have H4 := hidden (HS.out.two hM1)
      clear HS hc hcg
      go_wp2_with fail
      go_loopg [10] 20 (fun g y wr => ∃ i : Nat, i + g = 20 ∧ y = .int .i64 (i : Int) ∧ Hid (S2 w wr b c i))
      case atStart => exact ⟨0, by omega, rfl, H4⟩
      case round =>
        obtain ⟨i, hig, rfl, HS⟩ := hrel
        clear H4
        by_cases hi : i < ln ∧ i < 20
        case pos =>
          obtain ⟨hi1, hi2⟩ := hi
          have hiz : (i : Int) < (ln : Int) := by omega
          have di : decide ((i : Int) < (ln : Int)) = true := by simpa using hiz
          have hiz2 : (i : Int) < 20 := by omega
          have hi0 : (0 : Int) ≤ (i : Int) := by omega
          obtain ⟨ib, io, rfl, hil, hat, hok⟩ := HFs.out i hi1
          obtain ⟨⟨s, t, l, q, st, ad, m, cp, L⟩, hFk⟩ : ∃ P, F i = P := ⟨_, rfl⟩
          rw [hFk] at hat hok
          clear hFk
          obtain ⟨i0, i1, i2, i3, i4, i5⟩ := hat
          simp only at i0 i1 i2 i3 i4 i5
          have HOK : Hid (Arg w ad m L ∧ (ad = none → m = 0 ∧ cp = 0)) := hidden hok
          have hold : ∀ (o : Nat) u, w.cell? ⟨ib, o, none⟩ = some u → wr.cell? ⟨ib, o, none⟩ = some u := fun o u hc => (HS.out.bel.cell (p := ⟨ib, o, none⟩) hil).trans hc
          have j0 := hold _ _ i0
          have j1 := hold _ _ i1
          have j2 := hold _ _ i2
          have j3 := hold _ _ i3
          have j4 := hold _ _ i4
          have j5 := hold _ _ i5
          clear hold i0 i1 i2 i3 i4 i5 hok
          have HC : Hid (∀ W, Below wr.heap.size wr W → Calls Tryz.prog 7 #[.pointer (some ⟨b, 0, none⟩), .int .i64 1, .agg #[.int .i64 (i : Int), .int .i64 t, .int .i64 l, .int .i64 q, .bool st, .slice ad m cp], .int .i64 0] W fun e w' => (∃ v, e = .returned v) ∧ S2 w w' b c (i + 1)) := hidden (fun W hW => (HS.out.below hW).send hi2 t l q st ad m cp L HOK.out.1 HOK.out.2)
          go_upto_region 17 with fail
          obtain ⟨W4, hW4⟩ : ∃ W4, wr.alloc (.cells #[.int .i64 (i : Int), .int .i64 t, .int .i64 l, .int .i64 q, .bool st, .slice ad m cp] 31) = W4 := ⟨_, rfl⟩
          have HB4 : Hid (Below wr.heap.size wr W4) := by rw [← hW4]; exact hidden ((Below.refl _ _).alloc (Nat.le_refl _) _)
          obtain ⟨xb, hxb⟩ : ∃ xb, wr.heap.size = xb := ⟨_, rfl⟩
          have hbx : W4.heap[xb]? = some (.cells #[.int .i64 (i : Int), .int .i64 t, .int .i64 l, .int .i64 q, .bool st, .slice ad m cp] 31 (0, 0)) := by
            rw [← hW4, ← hxb]
            exact heap_alloc_new wr _
          have x0 : W4.cell? ⟨xb, 0, none⟩ = some (.int .i64 (i : Int)) := by simp [World.cell?, hbx]
          have x1 : W4.cell? ⟨xb, 1, none⟩ = some (.int .i64 t) := by simp [World.cell?, hbx]
          have x2 : W4.cell? ⟨xb, 2, none⟩ = some (.int .i64 l) := by simp [World.cell?, hbx]
          have x3 : W4.cell? ⟨xb, 3, none⟩ = some (.int .i64 q) := by simp [World.cell?, hbx]
          have x4 : W4.cell? ⟨xb, 4, none⟩ = some (.bool st) := by simp [World.cell?, hbx]
          have x5 : W4.cell? ⟨xb, 5, none⟩ = some (.slice ad m cp) := by simp [World.cell?, hbx]
          rw [hW4, hxb]
          clear hW4 hxb hbx j0 j1 j2 j3 j4 j5
          go_wp2_with fail
          refine (HC.out _ HB4.out).mono ?_
          rintro e w5 ⟨⟨v, rfl⟩, h5⟩
          have H5 := hidden h5
          clear h5 HC HS HB4 x0 x1 x2 x3 x4 x5
          go_wp2_with fail
          go_roundg (20 - (i + 1))
          case measure => omega
          case rel => exact ⟨i + 1, by omega, by go_num, H5⟩
        case neg =>
          have HM : Hid (0 < c ∧ c ≤ 20 ∧ i ≤ 20) := hidden ⟨hM0, hM1, by omega⟩
          have C6 := hidden (HS.out.got HM.out.2.2 HM.out.1 HM.out.2.1)
          have hi3 : ¬ ((i : Int) < (ln : Int) ∧ (i : Int) < 20) := by omega
          have K6 : Hid (¬ ((i : Int) < (ln : Int) ∧ (i : Int) < 20)) := hidden hi3
          clear HS hi
          clear hi3
          go_upto_region 13 with fail
          go_cut [68] from 61 to 68 (fun s wx => s = .bool false ∧ wr = wx)
          case first =>
            by_cases z1 : (i : Int) < (ln : Int)
            · have d1 : decide ((i : Int) < (ln : Int)) = true := by simpa using z1
              have z2 : ¬ (i : Int) < 20 := fun h => K6.out ⟨z1, h⟩
              go_wp2_with fail
              go_meet
              exact ⟨rfl, rfl⟩
            · have d1 : decide ((i : Int) < (ln : Int)) = false := by simpa using z1
              go_wp2_with fail
              go_meet
              exact ⟨rfl, rfl⟩
          case rest =>
          obtain ⟨rfl, rfl⟩ := hcut
          go_wp2_with fail
          refine C6.out.mono ?_
          rintro e w6 ⟨fa, fn, fc, rfl, h6⟩
          have H6 := hidden h6
          clear h6 C6 K6
          go_wp2_with fail
          go_loopg [14] (c - 1) (fun g y wr => ∃ j : Nat, j + g = c + 1 ∧ 2 ≤ j ∧ y = .int .i64 (j : Int) ∧ Hid (S3 w wr b c (j - 1) fa fn fc))
          case atStart => exact ⟨2, by omega, by omega, rfl, H6⟩
          case round =>
            obtain ⟨j, hjg, hj2, rfl, HS⟩ := hrel
            clear H6
            by_cases hj : j ≤ c
            · have hjz : (j : Int) ≤ (c : Int) := by omega
              have hj0 : (0 : Int) ≤ (j : Int) := by omega
              have hj20 : (j : Int) ≤ 20 := by omega
              have C7 := HS.out.got (show j - 1 < c by omega) hM1
              rw [show ((j - 1 : Nat) : Int) + 1 = (j : Int) by omega] at C7
              have C7 := hidden C7
              go_wp2_with fail
              refine C7.out.mono ?_
              rintro e w7 ⟨ga, gc, rfl, h7⟩
              have C8 := hidden h7.same
              clear h7 C7 HS
              go_wp2_with fail
              refine C8.out.mono ?_
              rintro e w8 ⟨rfl, h8⟩
              rw [show j - 1 + 1 = j + 1 - 1 by omega] at h8
              have H8 := hidden h8
              clear h8 C8
              go_wp2_with fail
              go_roundg (c - 1 - (j + 1 - 2))
              case measure => omega
              case rel => exact ⟨j + 1, by omega, by omega, by go_num, H8⟩
            · have hjz : ¬ (j : Int) ≤ (c : Int) := by omega
              have H9 := hidden (HS.out.four hM0 hM1)
              clear HS hj hjg
              go_wp2_with fail
              go_loopg [18] (20 - c) (fun g y wr => ∃ k : Nat, k + g = 20 ∧ y = .int .i64 (k : Int) ∧ Hid (S4 w wr b k))
              case atStart => exact ⟨c, by omega, rfl, H9⟩
              case round =>
                obtain ⟨k, hkg, rfl, HS⟩ := hrel
                clear H9
                by_cases hk : k < 20
                · have hkz : (k : Int) < 20 := by omega
                  have hk0 : (0 : Int) ≤ (k : Int) := by omega
                  have C10 := hidden (HS.out.sub hk)
                  go_wp2_with fail
                  refine C10.out.mono ?_
                  rintro e w10 ⟨rfl, h10⟩
                  have H10 := hidden h10
                  clear h10 C10 HS
                  go_wp2_with fail
                  go_roundg (20 - (k + 1))
                  case measure => omega
                  case rel => exact ⟨k + 1, by omega, by go_num, H10⟩
                · have hkz : ¬ (k : Int) < 20 := by omega
                  obtain rfl : k = 20 := by omega
                  have C11 := hidden HS.out.full
                  clear HS hk hkg
                  go_wp2_with fail
                  refine C11.out.mono ?_
                  rintro e w11 ⟨rfl, h11⟩
                  have C12 := hidden h11.unsub
                  clear h11 C11
                  go_wp2_with fail
                  refine C12.out.mono ?_
                  rintro e w12 ⟨rfl, h12⟩
                  have C13 := hidden h12.sub
                  clear h12 C12
                  go_wp2_with fail
                  refine C13.out.mono ?_
                  rintro e w13 ⟨⟨v13, rfl⟩, h13⟩
                  have H13 := hidden h13
                  have C14 := hidden (told_f 4 w13 (by omega) (ext_cell h13 HG.out))
                  clear h13 C13
                  go_wp2_with fail
                  refine C14.out.mono ?_
                  rintro e w14 ⟨rfl, hb14⟩
                  have H14 := hidden (H13.out.trans (hb14.mono H13.out.size))
                  clear hb14 C14
                  go_wp2_with fail
                  go_ret
                  exact ⟨rfl, H14.out⟩
end Go.Proofs.YtijfocggdjjnjaiGreatDoor.ND

