/-
  The walk of the Go function RingKeeps, of a size and a number that may be: it returns true.
-/
import Derived.Test.YtfehmpdeenpahacKeeps2
import Derived.LoopTactic
namespace Go.Proofs.Ytfehmpdeenpahac.Keeps
open Go.ChangeShapes Go.WideShapes Go.ChangeAt Go.RowKit Go.Proofs.Ytfehmpdeenpahac.PM Go.Proofs.Ytfehmpdeenpahac.Mem Go.Proofs.Ytfehmpdeenpahac.Pack Go.Proofs.Ytfehmpdeenpahac.RM Go.Proofs.Ytfehmpdeenpahac.Ring
set_option linter.unusedVariables false

theorem put_next (b mb : Nat) (n T z x sq : Int) (k : Nat) (M : Its) (W : World) (hR : RingAt W b mb n T M) (hI : RM.Inv n T M) (hT : T ≤ z) (hz : 0 ≤ z) (hx : 1 ≤ x) (hx1 : x ≤ 1000) (hz1 : z ≤ 1100000) (hk : k < 60) (hs : sq = (z + x) % 65536) :
    Calls Try.prog 18 #[.pointer (some ⟨b, 0, none⟩), .int .i64 (z + x), .agg #[.int .i64 sq, .int .i64 0, .int .i64 0, .int .i64 (k : Int), .bool false, .slice none 0 0]] W fun e w' => e = .returned (.tuple #[.bool true, .nilIface]) ∧ RingAt w' b mb n (z + x) (keeps n (z + x) M ++ [(z + x, ⟨sq, 0, 0, k, false, [], .slice none 0 0⟩)]) ∧ Only [b, mb] W w' := by
  have hT' : top T (z + x) = z + x := by simp [top]; omega
  have hh : has M (z + x) = false := by
    rw [Bool.eq_false_iff]
    intro hc
    obtain ⟨i, hi, e⟩ := has_iff.1 hc
    have := hI.mem i hi
    omega
  have hf : fault sq 0 0 k 0 = 0 := by
    unfold fault
    rw [if_pos (by omega), if_pos (by omega)]
  have n1 := hI.n1
  have e1 : pf n T (z + x) (fault sq 0 0 k 0) = 0 := pf_mk (by omega) (by omega) hf (by omega)
  have e2 : px n T (z + x) M (fault sq 0 0 k 0) = true := by simp [px, e1, hh]
  refine (put_calls b mb n T (z + x) sq 0 0 k false none 0 0 [] M W hR hI (argN W) (fun _ => ⟨rfl, rfl⟩)).mono ?_
  rintro e w' ⟨rfl, hR', ho⟩
  unfold pT pM at hR'
  rw [e2, hT'] at hR'
  exact ⟨by rw [e1, e2]; rfl, hR', ho⟩

theorem get_in (b mb : Nat) (n T z a : Int) (A : List Int) (M : Its) (W : World) (hR : RingAt W b mb n T M) (hK : KIn n z A M) (hh : has M a = true) (h0 : 0 ≤ a) (h1 : a ≤ 9223372036854775807) :
    Calls Try.prog 19 #[.pointer (some ⟨b, 0, none⟩), .int .i64 a] W fun e w' => ∃ t l q st a' m c, e = .returned (.tuple #[.agg #[.int .i64 (a % 65536), .int .i64 t, .int .i64 l, .int .i64 q, .bool st, .slice a' m c], .nilIface]) ∧ Below W.heap.size W w' := by
  refine (get_calls b mb n T a M W hR (wf_of (by omega) h1)).mono ?_
  rintro e w' ⟨a', m, c, rfl, hA, hb⟩
  refine ⟨(got M a).t, (got M a).l, (got M a).q, (got M a).st, a', m, c, ?_, hb⟩
  rw [got_s hK hh]
  simp [gf, hh, errv]
theorem get_out (b mb : Nat) (n T z a : Int) (A : List Int) (M : Its) (W : World) (hR : RingAt W b mb n T M) (hh : has M a = false) (h0 : 0 ≤ a) (h1 : a ≤ 9223372036854775807) :
    Calls Try.prog 19 #[.pointer (some ⟨b, 0, none⟩), .int .i64 a] W fun e w' => e = .returned (.tuple #[.agg #[.int .i64 0, .int .i64 0, .int .i64 0, .int .i64 0, .bool false, .slice none 0 0], .iface 60 (.int .i64 5)]) ∧ Below W.heap.size W w' := by
  refine (get_none b mb n T a M W hR hh (wf_of (by omega) h1)).mono ?_
  rintro e w' ⟨rfl, hb⟩
  exact ⟨rfl, hb⟩

set_option maxHeartbeats 4000000 in
set_option maxRecDepth 100000 in
theorem walk_ok (n fr : Int) (al : Option Addr) (ll cl : Nat) (Z : Nat → Int) (w : World) (h1 : 1 ≤ n) (h2 : n ≤ 64) (h3 : 0 ≤ fr) (h4 : fr ≤ 1000000) (hll : ll ≤ 9223372036854775807)
    (hZ : Hid (∀ j, j < ll → ∃ b o, al = some ⟨b, o, none⟩ ∧ b < w.heap.size ∧ w.cell? ⟨b, o + j, none⟩ = some (.int .i64 (Z j)))) :
    Calls Try.prog 6 #[.int .i64 n, .int .i64 fr, .slice al ll cl] w fun e w' => e = .returned (.bool true) ∧ Below w.heap.size w w' := by
  obtain ⟨i0, hii, hz0, hz1, hz2⟩ := info_parts info3
  have H1 := hidden (fun w => new_ok 2 w (by omega) (by omega))
  have HP := hidden put_first
  have HG := hidden get_first
  have HO := hidden (fun w => new_ok n w h1 h2)
  go_enter Try.func6, Try.ntmps6
  go_wp2_with fail
  refine (H1.out _).mono ?_
  rintro e w1 ⟨b1, mb1, rfl, hb1, hb2, hR, hbl⟩
  have HR1 := hidden hR
  have HB1 := hidden hbl
  clear hR hbl
  go_wp2_with fail
  refine (HP.out b1 mb1 w1 HR1.out).mono ?_
  rintro e w2 ⟨rfl, hR, ho⟩
  have HR2 := hidden hR
  have HB2 : Hid (Below w.heap.size w w2) := HB1.out.trans (ho.below HB1.out.size (by simp; omega))
  clear hR ho HR1 HB1
  go_wp2_with fail
  refine (HG.out b1 mb1 w2 HR2.out).mono ?_
  rintro e w3 ⟨a, m, c, rfl, hb3⟩
  have HB3 : Hid (Below w.heap.size w w3) := HB2.out.trans (hb3.mono HB2.out.size)
  clear hb3 HR2 HB2 hb1 hb2
  go_wp2_with fail
  refine (HO.out _).mono ?_
  rintro e w4 ⟨b, mb, rfl, hb1, hb2, hR, hb4⟩
  have HS4 : Hid (KSt w w4 b mb n (-1) fr [] [] (.slice none 0 0) 0) := by
    have hB : Below w.heap.size w w4 := (HB3.out.alloc HB3.out.size _).trans (hb4.mono (HB3.out.alloc HB3.out.size _).size)
    have := HB3.out.size
    exact ⟨hB, by simp at hb1; omega, by simp at hb2; omega, hR, inv_start h1 h2, by omega, h3, by omega, ⟨by simp, by simp⟩, World.ownsRow_nil _ _ _ _, Nat.le_refl _⟩
  clear hb1 hb2 hR hb4 HB3 H1 HP HG HO
  go_wp2_with fail
  go_loopw [15, 16, 17] (fun z' v' i' wr => ∃ (k : Nat) (T z : Int) (A : List Int) (M : Its) (av : Option Addr) (cv : Nat), k ≤ 60 ∧ i' = .int .i64 k ∧ z' = .int .i64 z ∧ v' = .slice av A.length cv ∧ Hid (KSt w wr b mb n T z A M (.slice av A.length cv) k)) (fun _ _ i' _ => 60 - (intOf i').toNat)
  case atStart => exact ⟨0, -1, fr, [], [], none, 0, by omega, rfl, rfl, rfl, HS4⟩
  case round =>
    obtain ⟨k, T, z, A, M, av, cv, hk, rfl, rfl, rfl, HS⟩ := hrel
    clear HS4
    by_cases hend : k < ll ∧ k < 60
    · obtain ⟨hlt, h60⟩ := hend
      obtain ⟨b0, o0, rfl, hb0, hcell⟩ := hZ.out k hlt
      have c1 : wr.cell? ⟨b0, o0 + k, none⟩ = some (.int .i64 (Z k)) := (HS.out.bel.cell (p := ⟨b0, o0 + k, none⟩) hb0).trans hcell
      clear hcell
      obtain ⟨x, hx⟩ : ∃ x, Z k = x := ⟨_, rfl⟩
      rw [hx] at c1
      clear hx
      by_cases hx1 : x < 1
      · go_wp2_with fail
        go_roundw
        case rel => exact ⟨k + 1, T, z, A, M, av, cv, by omega, by go_num, rfl, rfl, HS.out.next⟩
        case measure => simp [intOf]; omega
      by_cases hx2 : 1000 < x
      · go_wp2_with fail
        go_roundw
        case rel => exact ⟨k + 1, T, z, A, M, av, cv, by omega, by go_num, rfl, rfl, HS.out.next⟩
        case measure => simp [intOf]; omega
      have zz0 := HS.out.z0
      have zz1 : z ≤ 1100000 := by have := HS.out.z1; omega
      go_wp2_with fail
      refine (put_next b mb n T z x _ k M wr HS.out.ring HS.out.inv HS.out.tz zz0 (by omega) (by omega) zz1 h60 rfl).mono ?_
      rintro e w5 ⟨rfl, hR5, hO5⟩
      have HR5 := hidden hR5
      have HO5 := hidden hO5
      have HW5 : Hid (w5.ownsRow w.heap.size 3 1 (.slice av A.length cv) A.length (A.map (Value.int .i64))) := hO5.owns HS.out.row (row_ne HS.out.ring HS.out.row)
      have hb5 : w.heap.size ≤ w5.heap.size := Nat.le_trans HS.out.bel.size hO5.2.2.2.1
      have hal : A.length ≤ 60 := by have := HS.out.len; omega
      clear hR5 hO5 c1
      go_wp2_with (at_builtin; refine wpList_append_own _ rfl (.tmp 125) (.tmp 127) 22 rfl w.heap.size 3 i0 (.int .i64 0) 1 8 Try.underlying22 hii hz0 hz1 hz2 rfl (by decide) _ A.length (A.map (Value.int .i64)) rfl ?own ⟨w5.heap.size, 0, none⟩ 1 1 [.int .i64 (z + x)] rfl rfl ?c1 ?c2 ?b1 ?b2 ?b3 ?next)
      case own => exact HW5.out.alloc _
      case c1 => intro j u hj; match j, hj with | 0, hj => simp at hj; subst hj; exact World.cell?_alloc_at _ _ _ _ rfl
      case c2 => intro u hu; simp at hu; subst hu; rfl
      case b1 => unfold maxLen; omega
      case b2 => omega
      case b3 => simp; omega
      case next =>
        intro v' w6 hown hgrow _
        obtain ⟨g', c', rfl⟩ : ∃ g' c', v' = .slice (some ⟨g', 0, none⟩) (A.length + 1) c' := by
          rcases hown.2 with ⟨_, h⟩ | ⟨g', c', _, h, _⟩
          · omega
          · exact ⟨g', c', h⟩
        have HS6 := hidden (HS.out.put (by omega) (by omega) h60 rfl HR5.out HO5.out ((Below.refl _ _).alloc (Nat.le_refl _) _) hgrow hown)
        clear hown hgrow HR5 HO5 HW5
        go_wp2_with fail
        obtain ⟨M', hM'⟩ : ∃ M' : Its, keeps n (z + x) M ++ [(z + x, (⟨(z + x) % 65536, 0, 0, k, false, [], .slice none 0 0⟩ : Pk))] = M' := ⟨_, rfl⟩
        rw [hM'] at HS6
        obtain ⟨A', hA'⟩ : ∃ A', A ++ [z + x] = A' := ⟨_, rfl⟩
        have hAl : A'.length = A.length + 1 := by rw [← hA']; simp
        rw [hA'] at HS6
        have HAl := hidden hAl
        clear hM' hA' hAl
        go_loopw [20] (fun j' wq => ∃ i : Nat, i ≤ A.length + 1 ∧ j' = .int .i64 i ∧ Hid (KSt w wq b mb n (z + x) (z + x) A' M' (.slice (some ⟨g', 0, none⟩) (A.length + 1) c') (k + 1))) (fun j' _ => A.length + 1 - (intOf j').toNat)
        case atStart => exact ⟨0, by omega, rfl, HS6⟩
        case round =>
          obtain ⟨i, hi, rfl, HSq⟩ := hrel
          clear HS6 HS
          by_cases hlt2 : i < A.length + 1
          · have hi' : i < A'.length := by rw [HAl.out]; exact hlt2
            obtain ⟨ai, hmem, hcell⟩ : ∃ ai ∈ A', wr.cell? ⟨g', i, none⟩ = some (.int .i64 ai) := by
              refine ⟨A'[i], List.getElem_mem _, ?_⟩
              have hrow := HSq.out.row
              rw [HAl.out] at hrow
              rw [hrow.cellAt i (by omega)]
              simp [hi']
            obtain ⟨k0, k1, k2⟩ := HSq.out.kin.1 ai hmem
            have i1 : (i : Int) < (A.length : Int) + 1 := by omega
            have HD := hidden hcell
            by_cases hin : z + x - n < ai
            · have hin' : decide (z + x - n < ai) = true := by simpa using hin
              have hh : has M' ai = true := by rw [k2]; exact hin'
              have HG2 := hidden (get_in b mb n (z + x) (z + x) ai A' M' wr HSq.out.ring HSq.out.kin hh (by omega) (by omega))
              clear hh k2 hmem
              go_wp2_with fail
              refine HG2.out.mono ?_
              rintro e w7 ⟨t7, l7, q7, s7, a7, m7, c7, rfl, hb7⟩
              have d0 := fun O => cell_alloc ((hb7.cell (p := ⟨g', i, none⟩) (World.block_lt_of_cell? wr _ HD.out)).trans HD.out) O
              have HS7 := hidden ((HSq.out.below hb7).below ((Below.refl _ _).alloc (Nat.le_refl _) (.cells #[.int .i64 (ai % 65536), .int .i64 t7, .int .i64 l7, .int .i64 q7, .bool s7, .slice a7 m7 c7] 55)))
              clear hb7 hcell HG2 HSq
              go_wp2_with fail
              go_quiet (fail)
              go_wp2_with fail
              go_roundw
              case rel => exact ⟨i + 1, by omega, by go_num, HS7.out.below (below_drewN (Below.refl _ _) _)⟩
              case measure => simp [intOf]; omega
            · have hin' : decide (z + x - n < ai) = false := by simpa using hin
              have hh : has M' ai = false := by rw [k2]; exact hin'
              have HG2 := hidden (get_out b mb n (z + x) (z + x) ai A' M' wr HSq.out.ring hh (by omega) (by omega))
              clear hh k2 hmem
              go_wp2_with fail
              refine HG2.out.mono ?_
              rintro e w7 ⟨rfl, hb7⟩
              have d0 := fun O => cell_alloc ((hb7.cell (p := ⟨g', i, none⟩) (World.block_lt_of_cell? wr _ HD.out)).trans HD.out) O
              have HS7 := hidden ((HSq.out.below hb7).below ((Below.refl _ _).alloc (Nat.le_refl _) (.cells #[.int .i64 0, .int .i64 0, .int .i64 0, .int .i64 0, .bool false, .slice none 0 0] 55)))
              clear hb7 hcell HG2 HSq
              go_wp2_with fail
              go_quiet (fail)
              go_wp2_with fail
              go_roundw
              case rel => exact ⟨i + 1, by omega, by go_num, HS7.out.below (below_drewN (Below.refl _ _) _)⟩
              case measure => simp [intOf]; omega
          · go_wp2_with fail
            go_roundw
            case rel => exact ⟨k + 1, z + x, z + x, A', M', some ⟨g', 0, none⟩, c', by omega, by go_num, rfl, by rw [HAl.out], by rw [HAl.out]; exact HSq⟩
            case measure => simp [intOf]; omega
    · have HI := hidden HS.out.inv.len
      have HL := hidden (len_calls b mb n T M wr HS.out.ring HS.out.inv)
      by_cases hlt : k < ll
      · have h60 : ¬ k < 60 := fun h => hend ⟨hlt, h⟩
        clear hend
        go_wp2_with fail
        refine HL.out.mono ?_
        rintro e w7 ⟨rfl, rfl⟩
        have hle := HI.out
        go_wp2_with fail
        go_ret
        exact ⟨by simp, HS.out.bel⟩
      · clear hend
        go_wp2_with fail
        refine HL.out.mono ?_
        rintro e w7 ⟨rfl, rfl⟩
        have hle := HI.out
        go_wp2_with fail
        go_ret
        exact ⟨by simp, HS.out.bel⟩

theorem walk (n fr : Int) (al : Option Addr) (ll cl : Nat) (Z : Nat → Int) (w : World) (hll : ll ≤ 9223372036854775807)
    (hZ : ∀ j, j < ll → ∃ b o, al = some ⟨b, o, none⟩ ∧ b < w.heap.size ∧ w.cell? ⟨b, o + j, none⟩ = some (.int .i64 (Z j))) :
    Calls Try.prog 6 #[.int .i64 n, .int .i64 fr, .slice al ll cl] w fun e w' => e = .returned (.bool true) ∧ Below w.heap.size w w' := by
  by_cases h : (n < 1 ∨ 64 < n) ∨ fr < 0 ∨ 1000000 < fr
  · exact walk_err n fr _ w h
  · exact walk_ok n fr al ll cl Z w (by omega) (by omega) (by omega) (by omega) hll (hidden hZ)
end Go.Proofs.Ytfehmpdeenpahac.Keeps
