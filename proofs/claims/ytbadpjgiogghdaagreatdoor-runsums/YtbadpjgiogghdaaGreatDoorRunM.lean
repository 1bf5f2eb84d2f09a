/-
  A row of pairs told as one text.
-/
import Derived.Test.YtbadpjgiogghdaaGreatDoorRunL
import Derived.Test.YtbadpjgiogghdaaGreatDoorBackA
namespace Go.Proofs.YtbadpjgiogghdaaGreatDoor.Run
open Go.ChangeShapes Go.WideShapes Go.ChangeAt Go.RowKit Go.Proofs.YtbadpjgiogghdaaGreatDoor.Mem Go.Proofs.YtbadpjgiogghdaaGreatDoor.RN Go.Proofs.YtbadpjgiogghdaaGreatDoor.RC
set_option linter.unusedVariables false

set_option maxRecDepth 100000 in
set_option maxHeartbeats 1000000 in
theorem joinedP_some (ea : Addr) (c : UInt8) (a : Option Addr) (n cap : Nat) (L : List (Int × Int)) (w : World) (g : GW ea w) (h : Back.PArg w a n L) (h0 : 0 < n) (hn : n ≤ 5000) (hL : ∀ x ∈ L, (-9223372036854775808 ≤ x.1 ∧ x.1 ≤ 9223372036854775807) ∧ (-9223372036854775808 ≤ x.2 ∧ x.2 ≤ 9223372036854775807)) :
    Calls Tryz.prog 95 #[.slice a n cap, .string ⟨#[c]⟩, .func (.func 96) #[] #[]] w fun e w' => e = .returned (.string (bs (joined (L.map pairText) c))) ∧ Below w.heap.size w w' := by
  have HA := hidden h
  have HL := hidden h.2.1
  have HG := hidden g
  have I : Hid (∀ x ∈ L, ∀ W, GW ea W → _) := hidden (fun x hx W gW => pairText_calls ea x.1 x.2 W gW (hL x hx).1.1 (hL x hx).1.2 (hL x hx).2.1 (hL x hx).2.2)
  have HLL := hidden hL
  have d0 : decide ((n : Int) = 0) = false := by simp; omega
  have d1 : ((n : Int) == 0) = false := by simp; omega
  clear h g hL
  obtain ⟨i0, hii, hz0, hz1, hz2⟩ := info_parts info9
  have H0 : Hid (JSt w w ((L.map pairText).take 0) (.slice none 0 0)) := ⟨Below.refl _ _, World.ownsRow_nil _ _ _ _⟩
  go_enter Tryz.func95, Tryz.ntmps95
  go_wp2_with fail
  go_loopg [7, 15] n (fun g u y wr => ∃ (i : Nat) (v : Value), i + g = n ∧ v = u ∧ y = .int .i64 (i : Int) ∧ Hid (JSt w wr ((L.map pairText).take i) v))
  case atStart => exact ⟨0, _, by omega, rfl, rfl, H0⟩
  case round =>
    obtain ⟨i, v, hig, rfl, rfl, HS⟩ := hrel
    by_cases hi : i < n
    · have hiz : (i : Int) < (n : Int) := by omega
      obtain ⟨bb, oo, rfl, c0, c1⟩ := (HA.out.below HS.out.bel).1 i (by have := HL.out; omega)
      have hmem : L.getD i (0, 0) ∈ L := by
        have := HL.out
        rw [List.getD_eq_getElem?_getD, List.getElem?_eq_getElem (by omega)]; simp
      have I1 := hidden (fun W (hb : Below w.heap.size w W) => I.out _ hmem W (HG.out.below hb))
      have hst := take_snoc0 (L.map pairText) (i := i) (by have := HL.out; simp; omega)
      have hge : (L.map pairText).getD i [] = pairText (L.getD i (0, 0)) := by
        have := HL.out
        rw [List.getD_eq_getElem?_getD, List.getD_eq_getElem?_getD, List.getElem?_map, List.getElem?_eq_getElem (by omega)]; rfl
      rw [hge] at hst
      have hlt : ((L.map pairText).take i).length = i := by have := HL.out; simp; omega
      obtain ⟨x, hx⟩ : ∃ x, L.getD i (0, 0) = x := ⟨_, rfl⟩
      rw [hx] at c0 c1 I1 hst
      obtain ⟨x1, x2⟩ := x
      simp only at c0 c1 I1
      obtain ⟨T, hT⟩ : ∃ T, (L.map pairText).take i = T := ⟨_, rfl⟩
      rw [hT] at hst HS hlt
      obtain ⟨t, ht⟩ : ∃ t, pairText (x1, x2) = t := ⟨_, rfl⟩
      rw [ht] at I1 hst
      have HT := hidden hst
      clear hst hge hmem hx hT ht
      have HB0 := hidden HS.out.bel
      go_wp2_with fail
      refine (I1.out _ ?_).mono ?_
      · exact HB0.out.alloc HB0.out.size _
      rintro e w3 ⟨rfl, hb3⟩
      have HS3 := hidden (HS.out.below (((Below.refl _ _).alloc (Nat.le_refl _) _).trans (hb3.mono (by simp))))
      have hbase := HS3.out.bel.size
      clear hb3
      go_wp2_with (at_builtin; refine wpList_append_own _ rfl _ _ 23 rfl w.heap.size 9 i0 _ 1 16 Tryz.underlying23 hii hz0 hz1 hz2 rfl (by decide) _ T.length (sc T) rfl (HS3.out.own.alloc _) ⟨w3.heap.size, 0, none⟩ 1 1 [.string (bs t)] rfl rfl ?cc ?one ?b1 ?b2 ?b3 ?next)
      case cc => exact Tree.lit1 _
      case one => simp [Value.oneCell']
      case b1 => unfold maxLen; omega
      case b2 => omega
      case b3 => simp; omega
      case next =>
      intro v3 w4 hown hgrow _
      have HSn : Hid (JSt w w4 ((L.map pairText).take (i + 1)) v3) := by
        rw [HT.out]
        exact HS3.out.app (by rw [hlt]; exact hown) hgrow
      clear hown hgrow hbase
      go_wp2_with fail
      go_roundg (n - (i + 1))
      case measure => omega
      case rel => exact ⟨i + 1, v3, by omega, rfl, by go_num, HSn⟩
    · have hiz : ¬ (i : Int) < (n : Int) := by omega
      obtain rfl : i = n := by omega
      have h9 := HS.out
      rw [List.take_of_length_le (by have := HL.out; simp; omega)] at h9
      have J := hidden (join_calls c (L.map pairText) v w wr h9 (by intro e; rw [List.map_eq_nil_iff] at e; have := HL.out; rw [e] at this; simp at this; omega) (by have := HL.out; simp; omega) (fun x hx => by
        obtain ⟨y, hy, rfl⟩ := List.mem_map.1 hx
        have h1 := Lib.itoa_length_le y.1 (HLL.out y hy).1.1 (HLL.out y hy).1.2
        have h2 := Lib.itoa_length_le y.2 (HLL.out y hy).2.1 (HLL.out y hy).2.2
        unfold pairText
        simp
        omega))
      have HB := hidden h9.bel
      clear h9
      go_wp2_with fail
      refine J.out.mono ?_
      rintro e w1 ⟨rfl, hb⟩
      have HB1 := hidden (HB.out.trans (hb.mono HB.out.size))
      clear hb
      go_wp2_with fail
      go_ret
      exact ⟨rfl, HB1.out⟩
theorem joinedP_none (c : UInt8) (a : Option Addr) (cap : Nat) (w : World) :
    Calls Tryz.prog 95 #[.slice a 0 cap, .string ⟨#[c]⟩, .func (.func 96) #[] #[]] w fun e w' => e = .returned (.string (bs (joined [] c))) ∧ Below w.heap.size w w' := by
  go_enter Tryz.func95, Tryz.ntmps95
  go_wp2_with fail
  go_ret
  exact ⟨rfl, Below.refl _ _⟩
/-- a row of numbers as a text -/
theorem joinedP_calls (ea : Addr) (c : UInt8) (a : Option Addr) (n cap : Nat) (L : List (Int × Int)) (w : World) (g : GW ea w) (h : Back.PArg w a n L) (hn : n ≤ 5000) (hL : ∀ x ∈ L, (-9223372036854775808 ≤ x.1 ∧ x.1 ≤ 9223372036854775807) ∧ (-9223372036854775808 ≤ x.2 ∧ x.2 ≤ 9223372036854775807)) :
    Calls Tryz.prog 95 #[.slice a n cap, .string ⟨#[c]⟩, .func (.func 96) #[] #[]] w fun e w' => e = .returned (.string (bs (joined (L.map pairText) c))) ∧ Below w.heap.size w w' := by
  rcases Nat.eq_zero_or_pos n with rfl | h0
  · obtain rfl := List.eq_nil_of_length_eq_zero h.2.1
    exact joinedP_none c a cap w
  · exact joinedP_some ea c a n cap L w g h h0 hn hL
end Go.Proofs.YtbadpjgiogghdaaGreatDoor.Run

