/-
  What the reference's Fair returns. It changes nothing that was there.
-/
import Derived.Test.YtdoljkiklnaioagDoorRRate
namespace Go.Proofs.YtdoljkiklnaioagDoor.Rate
open Go.ChangeShapes Go.WideShapes Go.ChangeAt Go.RowKit Go.Proofs.YtdoljkiklnaioagDoor.Mem Go.Proofs.YtdoljkiklnaioagDoor.RT
set_option linter.unusedVariables false

/-- the greatest number, but for the last k bits -/
structure Bits (A : Int) (L : List Int) (x by' : Int) (k : Nat) : Prop where
  eq : by' = ((2 ^ k / 2 : Nat) : Int)
  x0 : 0 ≤ x
  x1 : x ≤ 1000000
  ok : gv L x ≤ A
  up : 1000000 < x + ((2 ^ k : Nat) : Int) ∨ A < gv L (x + ((2 ^ k : Nat) : Int))
theorem gv_zero : ∀ L : List Int, Rts L → gv L 0 = 0
  | [], _ => rfl
  | x :: L, h => by
    have := h.head
    simp only [gv, gv_zero L h.tail]
    rw [if_neg (by omega)]
    rfl
theorem Bits.first {A : Int} {L : List Int} (hr : Rts L) (hA : 0 ≤ A) : Bits A L 0 1048576 21 :=
  ⟨by decide, by omega, by omega, by rw [gv_zero L hr]; exact hA, .inl (by decide)⟩
theorem Bits.pos {A x y : Int} {L : List Int} {k : Nat} (h : Bits A L x y (k + 1)) : y = ((2 ^ k : Nat) : Int) := by
  rw [h.eq]
  congr 1
  rw [Nat.pow_succ]
  omega
theorem half (k : Nat) : ((2 ^ (k + 1) : Nat) : Int) = ((2 ^ k : Nat) : Int) + ((2 ^ k : Nat) : Int) := by rw [Nat.pow_succ]; omega
theorem Bits.yes {A x y : Int} {L : List Int} {k : Nat} (h : Bits A L x y (k + 1)) (h1 : x + y ≤ 1000000) (h2 : gv L (x + y) ≤ A) : Bits A L (x + y) (y / 2) k := by
  have e := h.pos
  have u := h.up
  rw [half, ← e, ← Int.add_assoc] at u
  refine ⟨by rw [e]; omega, ?_, h1, h2, by rw [← e]; exact u⟩
  have := h.x0
  have : 0 ≤ y := by rw [e]; exact Int.natCast_nonneg _
  omega
theorem Bits.no {A x y : Int} {L : List Int} {k : Nat} (h : Bits A L x y (k + 1)) (h1 : 1000000 < x + y ∨ A < gv L (x + y)) : Bits A L x (y / 2) k := by
  have e := h.pos
  exact ⟨by rw [e]; omega, h.x0, h.x1, h.ok, by rw [← e]; exact h1⟩
theorem Bits.last {A x y : Int} {L : List Int} (hr : Rts L) (h : Bits A L x y 0) : y = 0 ∧ Lev A L x (A - gv L x) := by
  have u := h.up
  refine ⟨by rw [h.eq]; rfl, lev_greatest hr h.x0 h.x1 h.ok ?_⟩
  have hx := h.x1
  rcases u with u | u
  · left; simp at u; omega
  · right; simpa using u
theorem Bits.bound {A x y : Int} {L : List Int} {k : Nat} (h : Bits A L x y (k + 1)) (hk : k + 1 ≤ 21) : 0 < y ∧ y ≤ 1048576 := by
  have e := h.pos
  have h1 : 2 ^ k ≤ 2 ^ 20 := Nat.pow_le_pow_right (by omega) (by omega)
  have h2 : 0 < 2 ^ k := Nat.pow_pos (by omega)
  have h3 : (2 : Nat) ^ 20 = 1048576 := by decide
  rw [e]
  omega
/-- under way: so many have got theirs -/
structure OSt (w wr : World) (v : Value) (S : List Int) (j : Nat) : Prop where
  own : wr.ownsRow w.heap.size 3 1 v j (ic (S.take j))
  bel : Below w.heap.size w wr
theorem own_form {w : World} {base n : Nat} {v : Value} {xs : List Value} (h : w.ownsRow base 3 1 v n xs) : ∃ a cap, v = .slice a n cap := by
  rcases h.2 with ⟨rfl, rfl⟩ | ⟨g, cap, _, rfl, _⟩
  · exact ⟨none, 0, rfl⟩
  · exact ⟨_, cap, rfl⟩
set_option maxHeartbeats 4000000 in
set_option maxRecDepth 100000 in
theorem rfair_calls (A : Int) (a : Option Addr) (n cap : Nat) (L : List Int) (w : World) (h : IArg w a n L) (hr : Rts L) (hn : n ≤ 200) (hA : 0 ≤ A) (hA1 : A ≤ 1000000) :
    Calls Tryd.prog 23 #[.int .i64 A, .slice a n cap] w fun e w' => ∃ v, e = .returned v ∧ w'.ownsRow w.heap.size 3 1 v n (ic (shr A L)) ∧ Below w.heap.size w w' := by
  have hl := h.2.1
  obtain ⟨i0, hii, hz0, hz1, hz2⟩ := info_parts info3
  have HA := hidden h
  have HR := hidden hr
  have HX : Hid (∀ j, j < n → 0 ≤ L.getD j 0 ∧ L.getD j 0 ≤ 1000000) := fun j hj => by
    refine hr _ ?_
    rw [List.getD_eq_getElem?_getD, List.getElem?_eq_getElem (by omega)]
    exact List.getElem_mem _
  have HC := hidden (fun m h0 h1 W hW => given_calls a n cap L m W (h.below hW) hr hn h0 h1)
  have HB0 := hidden (Bits.first hr hA)
  have HL := hidden (shr_lev hr hA)
  have HSh : Hid (∀ {m lf : Int}, Lev A L m lf → sh m lf L = shr A L) := fun k => lev_same hr k (shr_lev hr hA)
  have HG := hidden (fun m (h0 : 0 ≤ m) => gv_bounds h0 L hr)
  clear h hr
  generalize shr A L = S at *
  go_enter Tryd.func23, Tryd.ntmps23
  go_wp2_with fail
  go_loopg [5, 6] 21 (fun g u v wr => ∃ (x y : Int), u = .int .i64 x ∧ v = .int .i64 y ∧ g ≤ 21 ∧ Hid (Bits A L x y g) ∧ w = wr)
  case atStart => exact ⟨0, 1048576, rfl, rfl, by omega, HB0, rfl⟩
  case round =>
    clear HB0
    obtain ⟨x, y, rfl, rfl, hg, HB, rfl⟩ := hrel
    have hx0 := HB.out.x0
    have hx1 := HB.out.x1
    cases gk with
    | succ k =>
      obtain ⟨y0, y1⟩ := HB.out.bound hg
      by_cases p : x + y ≤ 1000000
      · have d : decide (x + y ≤ 1000000) = true := by simpa using p
        have C := hidden (HC.out (x + y) (by omega) p w (Below.refl _ _))
        have HY := hidden (fun q => HB.out.yes p q)
        have HN := hidden (fun q => HB.out.no (.inr q))
        obtain ⟨z, hz⟩ : ∃ z, gv L (x + y) = z := ⟨_, rfl⟩
        rw [hz] at C HY HN
        clear hz
        by_cases q : z ≤ A
        · have d1 : decide (z ≤ A) = true := by simpa using q
          have HB1 := hidden (HY.out q)
          clear HY HN HB
          go_wp2_with fail
          refine C.out.mono ?_
          rintro e w' ⟨rfl, hw⟩
          obtain rfl := hw.symm
          go_wp2_with fail
          go_roundg k
          case measure => omega
          case rel => exact ⟨x + y, y / 2, by go_num, by go_num, by omega, HB1, rfl⟩
        · have d1 : decide (z ≤ A) = false := by simpa using q
          have HB1 := hidden (HN.out (by omega))
          clear HY HN HB
          go_wp2_with fail
          refine C.out.mono ?_
          rintro e w' ⟨rfl, hw⟩
          obtain rfl := hw.symm
          go_wp2_with fail
          go_roundg k
          case measure => omega
          case rel => exact ⟨x, y / 2, by go_num, by go_num, by omega, HB1, rfl⟩
      · have d : decide (x + y ≤ 1000000) = false := by simpa using p
        have HB1 := hidden (HB.out.no (.inl (by omega)))
        clear HB
        go_wp2_with fail
        go_roundg k
        case measure => omega
        case rel => exact ⟨x, y / 2, by go_num, by go_num, by omega, HB1, rfl⟩
    | zero =>
      obtain ⟨hy, hlev⟩ := HB.out.last HR.out
      subst hy
      have hgx := HG.out x hx0
      have hok := HB.out.ok
      have hS := HSh.out hlev
      have C := hidden (HC.out x hx0 hx1 w (Below.refl _ _))
      clear hlev HB
      obtain ⟨z, hz⟩ : ∃ z, gv L x = z := ⟨_, rfl⟩
      rw [hz] at C hgx hok hS
      clear hz
      have HK0 : Hid (sh x (A - z) (L.drop 0) = S.drop 0) := by unfold Hid; rw [List.drop_zero, List.drop_zero]; exact hS
      have hsl : S.length = n := by rw [← hS, sh_len, hl]
      clear hS
      go_wp2_with fail
      refine C.out.mono ?_
      rintro e w' ⟨rfl, hw⟩
      obtain rfl := hw.symm
      clear C
      have HO : Hid (OSt w w (.slice none 0 0) S 0) := ⟨World.ownsRow_nil _ _ _ _, Below.refl _ _⟩
      go_wp2_with fail
      go_loopg [7, 8, 9] n (fun g u o y wr => ∃ (j : Nat) (q : Int) (va : Option Addr) (vc : Nat), j + g = n ∧ u = .int .i64 q ∧ o = .slice va j vc ∧ y = .int .i64 (j : Int) ∧ 0 ≤ q ∧ q ≤ 1000000 ∧ Hid (sh x q (L.drop j) = S.drop j) ∧ Hid (OSt w wr (.slice va j vc) S j))
      case atStart => exact ⟨0, A - z, none, 0, by omega, by go_num, rfl, rfl, by omega, by omega, HK0, HO⟩
      case round =>
        clear HK0 HO
        obtain ⟨j, q, va, vc, hjg, rfl, rfl, rfl, q0, q1, HK, HO⟩ := hrel
        by_cases hj : j < n
        · have hjz : (j : Int) < (n : Int) := by omega
          obtain ⟨b, o, rfl, hcs⟩ := (HA.out.below HO.out.bel).at (by omega)
          have c0 := hcs j hj
          have hk := HK.out
          have hxx := HX.out j hj
          have hsz := HO.out.bel.size
          rw [drop_int (show j < L.length by omega), drop_int (show j < S.length by omega)] at hk
          have ht := take_next S (show j < S.length by omega)
          obtain ⟨t, htt⟩ : ∃ t, L.getD j 0 = t := ⟨_, rfl⟩
          obtain ⟨s, hss⟩ : ∃ s, S.getD j 0 = s := ⟨_, rfl⟩
          rw [htt] at c0 hk hxx
          rw [hss] at hk ht
          have HT := hidden ht
          clear htt hss ht hcs HK
          simp only [sh] at hk
          by_cases p : x < t
          · have d : decide (x < t) = true := by simpa using p
            rw [if_pos p] at hk
            by_cases p1 : 0 < q
            · have d1 : decide (0 < q) = true := by simpa using p1
              rw [if_pos p1] at hk
              rw [List.cons.injEq] at hk
              obtain ⟨he, hk⟩ := hk
              subst he
              have HK := hidden hk
              clear hk
              go_wp2_with (at_builtin; refine wpList_append_own _ rfl _ _ 31 rfl w.heap.size 3 i0 _ 1 8 Tryd.underlying31 hii hz0 hz1 hz2 rfl (by decide) _ j (ic (S.take j)) rfl (HO.out.own.alloc _) ⟨wr.heap.size, 0, none⟩ 1 1 [.int .i64 (x + 1)] rfl rfl (World.news_of_block (cs := #[.int .i64 (x + 1)]) (t := 3) (fr := (0, 0)) (heap_alloc_new wr _)) ?c2x ?b1x ?b2x ?b3x ?nextx)
              case c2x => first | (intro u hu'; simp at hu'; subst hu'; rfl) | rfl
              case b1x => unfold maxLen; omega
              case b2x => omega
              case b3x => first | (simp; omega) | omega
              case nextx =>
                intro v' w5 hown hgrow _
                obtain ⟨a5, c5, rfl⟩ := own_form hown
                have HO5 : Hid (OSt w w5 (.slice a5 (j + 1) c5) S (j + 1)) := by
                  refine ⟨?_, (below_alloc HO.out.bel _).grown hgrow (by simp; omega) (fun i hi => (HO.out.own.lt i hi).1)⟩
                  rw [HT.out, ic_app]
                  exact hown
                clear hown hgrow
                go_wp2_with fail
                go_roundg (n - (j + 1))
                case measure => omega
                case rel => exact ⟨j + 1, q - 1, a5, c5, by omega, by go_num, rfl, by go_num, by omega, by omega, HK, HO5⟩
            · have d1 : decide (0 < q) = false := by simpa using p1
              rw [if_neg p1] at hk
              rw [List.cons.injEq] at hk
              obtain ⟨he, hk⟩ := hk
              subst he
              have HK := hidden hk
              clear hk
              go_wp2_with (at_builtin; refine wpList_append_own _ rfl _ _ 31 rfl w.heap.size 3 i0 _ 1 8 Tryd.underlying31 hii hz0 hz1 hz2 rfl (by decide) _ j (ic (S.take j)) rfl (HO.out.own.alloc _) ⟨wr.heap.size, 0, none⟩ 1 1 [.int .i64 x] rfl rfl (World.news_of_block (cs := #[.int .i64 x]) (t := 3) (fr := (0, 0)) (heap_alloc_new wr _)) ?c2y ?b1y ?b2y ?b3y ?nexty)
              case c2y => first | (intro u hu'; simp at hu'; subst hu'; rfl) | rfl
              case b1y => unfold maxLen; omega
              case b2y => omega
              case b3y => first | (simp; omega) | omega
              case nexty =>
                intro v' w5 hown hgrow _
                obtain ⟨a5, c5, rfl⟩ := own_form hown
                have HO5 : Hid (OSt w w5 (.slice a5 (j + 1) c5) S (j + 1)) := by
                  refine ⟨?_, (below_alloc HO.out.bel _).grown hgrow (by simp; omega) (fun i hi => (HO.out.own.lt i hi).1)⟩
                  rw [HT.out, ic_app]
                  exact hown
                clear hown hgrow
                go_wp2_with fail
                go_roundg (n - (j + 1))
                case measure => omega
                case rel => exact ⟨j + 1, q, a5, c5, by omega, by go_num, rfl, by go_num, by omega, by omega, HK, HO5⟩
          · have d : decide (x < t) = false := by simpa using p
            rw [if_neg p] at hk
            rw [List.cons.injEq] at hk
            obtain ⟨he, hk⟩ := hk
            subst he
            have HK := hidden hk
            clear hk
            go_wp2_with (at_builtin; refine wpList_append_own _ rfl _ _ 31 rfl w.heap.size 3 i0 _ 1 8 Tryd.underlying31 hii hz0 hz1 hz2 rfl (by decide) _ j (ic (S.take j)) rfl (HO.out.own.alloc _) ⟨wr.heap.size, 0, none⟩ 1 1 [.int .i64 t] rfl rfl (World.news_of_block (cs := #[.int .i64 t]) (t := 3) (fr := (0, 0)) (heap_alloc_new wr _)) ?c2z ?b1z ?b2z ?b3z ?nextz)
            case c2z => first | (intro u hu'; simp at hu'; subst hu'; rfl) | rfl
            case b1z => unfold maxLen; omega
            case b2z => omega
            case b3z => first | (simp; omega) | omega
            case nextz =>
              intro v' w5 hown hgrow _
              obtain ⟨a5, c5, rfl⟩ := own_form hown
              have HO5 : Hid (OSt w w5 (.slice a5 (j + 1) c5) S (j + 1)) := by
                refine ⟨?_, (below_alloc HO.out.bel _).grown hgrow (by simp; omega) (fun i hi => (HO.out.own.lt i hi).1)⟩
                rw [HT.out, ic_app]
                exact hown
              clear hown hgrow
              go_wp2_with fail
              go_roundg (n - (j + 1))
              case measure => omega
              case rel => exact ⟨j + 1, q, a5, c5, by omega, by go_num, rfl, by go_num, by omega, by omega, HK, HO5⟩
        · have hjz : ¬ (j : Int) < (n : Int) := by omega
          obtain rfl : j = n := by omega
          have ho := HO.out.own
          rw [List.take_of_length_le (by omega)] at ho
          have H1 := hidden ho
          have H2 := hidden HO.out.bel
          clear ho HO HK
          go_wp2_with fail
          go_ret
          exact ⟨_, rfl, H1.out, H2.out⟩
end Go.Proofs.YtdoljkiklnaioagDoor.Rate
