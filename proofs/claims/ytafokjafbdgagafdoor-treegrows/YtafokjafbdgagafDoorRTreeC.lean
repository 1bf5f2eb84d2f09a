/-
  What the reference's function Parents returns: of each node the least one from which a least way comes. It changes nothing that was there.
-/
import Derived.Test.YtafokjafbdgagafDoorRTreeB
namespace Go.Proofs.YtafokjafbdgagafDoor.RTree
open Go.ChangeShapes Go.WideShapes Go.ChangeAt Go.RowKit Go.Proofs.YtafokjafbdgagafDoor.Mem Go.Proofs.YtafokjafbdgagafDoor.TM Go.Proofs.YtafokjafbdgagafDoor.Tree
set_option linter.unusedVariables false

theorem nst_drewN {w wr : World} {K : List Int} {v : Value} (h : NSt w wr K v) (q : Nat) : NSt w (wr.drewN q) K v := ⟨below_drewN' h.below q, h.own⟩
theorem nst_alloc {w wr : World} {K : List Int} {v : Value} (h : NSt w wr K v) (O : Obj) : NSt w (wr.alloc O) K v := ⟨below_alloc h.below O, h.own.alloc O⟩
theorem dg_snoc {K : List Int} {b : Int} {x : Nat} : dg (K ++ [b]) x = if x < K.length then dg K x else if x = K.length then b else -1 := by
  unfold dg
  rw [List.getD_eq_getElem?_getD, List.getD_eq_getElem?_getD]
  by_cases h : x < K.length
  · rw [if_pos h, List.getElem?_append_left h]
  · rw [if_neg h, List.getElem?_append_right (by omega)]
    by_cases e : x = K.length
    · rw [if_pos e, e]; simp
    · rw [if_neg e, List.getElem?_eq_none (by simp; omega)]; rfl
set_option maxHeartbeats 16000000 in
set_option maxRecDepth 100000 in
theorem rparents_calls (a : Option Addr) (n cap : Nat) (L : List Ed) (m root : Nat) (ad : Option Addr) (cd : Nat) (d : List Int) (w : World) (h : EArg w a n L) (hd : IArg w ad m d) (hF : Fit m L) (hr : root < m) (hD : IsDist L m root d) (hbd : ∀ x, dg d x ≤ 17000000000) :
    Calls Tryd.prog 27 #[.int .i64 (m : Int), .slice a n cap, .int .i64 (root : Int), .slice ad m cd] w fun e w' => ∃ v p, e = .returned v ∧ NSt w w' p v ∧ IsPars L d m p := by
  have hl := h.2.1
  have hn := h.2.2
  have HA := hidden h
  have HF := hidden hF
  have HD := hidden hD
  have HBD := hidden hbd
  have hm16 := hF.hi
  obtain ⟨bd, od, rfl, hcd⟩ := hd.at (by omega)
  have HCD : Hid (∀ w', Below w.heap.size w w' → ∀ j, j < m → w'.cell? ⟨bd, od + j, none⟩ = some (.int .i64 (dg d j))) := fun w' hb j hj => (hb.cell (p := ⟨bd, od + j, none⟩) (World.block_lt_of_cell? w ⟨bd, od + j, none⟩ (hcd j hj))).trans (hcd j hj)
  clear h hF hD hbd hd hcd
  obtain ⟨i0, hii, hz0, hz1, hz2⟩ := info_parts info3
  have HN0 : Hid (NSt w w [] (.slice none 0 0)) := ⟨Below.refl _ _, World.ownsRow_nil _ _ _ _⟩
  go_enter Tryd.func27, Tryd.ntmps27
  go_wp2_with fail
  go_loopg [9, 10] m (fun g u y wr => ∃ (i : Nat) (v : Value) (K : List Int), i + g = m ∧ v = u ∧ y = .int .i64 (i : Int) ∧ K.length = i ∧ Hid (NSt w wr K v) ∧ Hid (∀ x, x < i → IsPar L d m x (dg K x)))
  case atStart => exact ⟨0, _, [], by omega, rfl, rfl, rfl, HN0, hidden (fun x hx => absurd hx (by omega))⟩
  case round =>
    obtain ⟨i, v, K, hig, rfl, rfl, hK, HS, HP⟩ := hrel
    clear HN0
    by_cases hi : i < m
    · have hiz : (i : Int) < (m : Int) := by omega
      have HB0 : Hid (Best L d root i 0 (-1)) := best_start _ _ _ _
      go_wp2_with fail
      go_loopg [11, 12] n (fun g u y wr => ∃ (k : Nat) (b : Int), k + g = n ∧ u = .int .i64 b ∧ y = .int .i64 (k : Int) ∧ Hid (Best L d root i k b) ∧ Hid (NSt w wr K v))
      case atStart => exact ⟨0, -1, by omega, rfl, rfl, HB0, HS⟩
      case round =>
        obtain ⟨k, b, hkg, rfl, rfl, HBE, HS⟩ := hrel
        clear HB0
        by_cases hk : k < n
        · have hkz : (k : Int) < (n : Int) := by omega
          obtain ⟨bb, oo, rfl, hbl, hcs⟩ := (HA.out.below HS.out.below).at (by omega)
          obtain ⟨c0, c1, c2⟩ := hcs k hk
          have hok := okE_iff.1 (HF.out.ok _ (getD_mem (L := L) (j := k) (by omega)))
          obtain ⟨me, hme⟩ : ∃ me, L.getD k zz = me := ⟨_, rfl⟩
          rw [hme] at c0 c1 c2 hok
          obtain ⟨xa, xb, c⟩ := me
          simp only at c0 c1 c2 hok
          obtain ⟨p, rfl⟩ : ∃ p : Nat, xa = (p : Int) := ⟨xa.toNat, by omega⟩
          obtain ⟨q, rfl⟩ : ∃ q : Nat, xb = (q : Int) := ⟨xb.toNat, by omega⟩
          have HM := hidden hme
          have hp : p < m := by omega
          have hq : q < m := by omega
          have hpq : p ≠ q := by omega
          have hc1 : 1 ≤ c := by omega
          have hc2 : c ≤ 1000000 := by omega
          clear hme hok hcs
          obtain ⟨w3, hw3⟩ : ∃ w3, wr.alloc (.cells #[.int .i64 (p : Int), .int .i64 (q : Int), .int .i64 c] 70) = w3 := ⟨_, rfl⟩
          have HS3 : Hid (NSt w w3 K v) := by rw [← hw3]; exact hidden (nst_alloc HS.out _)
          have HX3 : Hid (EBox w3 wr.heap.size ⟨p, q, c⟩) := by rw [← hw3]; exact hidden (EBox.new wr ⟨p, q, c⟩)
          have HW3 := hidden hw3
          clear hw3
          go_upto_region 11 with fail
          rw [HW3.out]
          clear HW3 c0 c1 c2 HS
          obtain ⟨x0, x1, x2⟩ := HX3.out.cells
          simp only at x0 x1 x2
          by_cases hpi : p = i
          · subst hpi
            have eqi : ((q : Int) == (p : Int)) = false := beq_eq_false_iff_ne.2 (by omega)
            go_upto_region 15 with fail
            obtain ⟨i, ei⟩ : ∃ i, i = p := ⟨_, rfl⟩
            obtain ⟨o, eo⟩ : ∃ o, o = q := ⟨_, rfl⟩
            subst ei eo
            have ho : o < m := by omega
            have hoz : (o : Int) < (m : Int) := by omega
            have h0o : decide (0 ≤ (o : Int)) = true := by simp
            have d1 := HCD.out w3 HS3.out.below i hi
            have d2 := HCD.out w3 HS3.out.below o ho
            have bi := HBD.out o
            have li := HD.out.low o
            have hwr : IntKind.i64.wrap (dg d o + c) = dg d o + c := wrap_id (by omega) (by omega)
            have HG : Hid (∀ f, gd d root i (L.getD k zz) f ↔ f = (o : Int) ∧ i ≠ root ∧ 0 ≤ dg d i ∧ 0 ≤ dg d o ∧ dg d o + c = dg d i) := fun f => by
              rw [HM.out]
              unfold gd
              rw [jn_iff]
              simp only
              constructor
              · rintro ⟨q1, q2, q3, q4, q5⟩
                have e : f = (o : Int) := by omega
                subst e
                rw [Int.toNat_natCast] at q4 q5
                exact ⟨rfl, q2, q3, q4, q5⟩
              · rintro ⟨rfl, q2, q3, q4, q5⟩
                rw [Int.toNat_natCast]
                exact ⟨by first | omega | simp, q2, q3, q4, q5⟩
            clear bi li
            generalize dg d i = vi at *
            generalize dg d o = vo at *
            by_cases g1 : i ≠ root
            · have eg1 : ((i : Int) != (root : Int)) = true := bne_iff_ne.2 (by omega)
              by_cases g2 : 0 ≤ vi
              · have eg2 : (decide (0 ≤ vi)) = true := by simpa using g2
                by_cases g3 : 0 ≤ vo
                · have eg3 : (decide (0 ≤ vo)) = true := by simpa using g3
                  by_cases g4 : vo + c = vi
                  · have eg4 : (vo + c == vi) = true := by simpa using g4
                    by_cases g5 : b < 0
                    · have eg5 : (decide (b < 0)) = true := by simpa using g5
                      have HBn : Hid (Best L d root i (k + 1) (o : Int)) := best_take (by omega) HBE.out (by omega) ((HG.out _).2 ⟨rfl, g1, g2, g3, g4⟩) (fun f hg => ((HG.out f).1 hg).1) (.inl g5)
                      clear HG g1 g2 g3 g4 g5
                      go_wp2_with fail
                      go_quiet (fail)
                      go_wp2_with fail
                      go_roundg (n - (k + 1))
                      case measure => omega
                      case rel => exact ⟨k + 1, (o : Int), by omega, rfl, by go_num, HBn, hidden (nst_drewN HS3.out _)⟩
                    · have eg5 : (decide (b < 0)) = false := by simpa using g5
                      by_cases g6 : (o : Int) < b
                      · have eg6 : (decide ((o : Int) < b)) = true := by simpa using g6
                        have HBn : Hid (Best L d root i (k + 1) (o : Int)) := best_take (by omega) HBE.out (by omega) ((HG.out _).2 ⟨rfl, g1, g2, g3, g4⟩) (fun f hg => ((HG.out f).1 hg).1) (.inr g6)
                        clear HG g1 g2 g3 g4 g5 g6
                        go_wp2_with fail
                        go_quiet (fail)
                        go_wp2_with fail
                        go_roundg (n - (k + 1))
                        case measure => omega
                        case rel => exact ⟨k + 1, (o : Int), by omega, rfl, by go_num, HBn, hidden (nst_drewN HS3.out _)⟩
                      · have eg6 : (decide ((o : Int) < b)) = false := by simpa using g6
                        have HBn : Hid (Best L d root i (k + 1) b) := best_skip (by omega) HBE.out (fun f hg => by have hz := (HG.out f).1 hg; omega)
                        clear HG g1 g2 g3 g4 g5 g6
                        go_wp2_with fail
                        go_quiet (fail)
                        go_wp2_with fail
                        go_roundg (n - (k + 1))
                        case measure => omega
                        case rel => exact ⟨k + 1, b, by omega, rfl, by go_num, HBn, hidden (nst_drewN HS3.out _)⟩
                  · have eg4 : (vo + c == vi) = false := by simpa using g4
                    have HBn : Hid (Best L d root i (k + 1) b) := best_skip (by omega) HBE.out (fun f hg => by have hz := (HG.out f).1 hg; exact absurd hz.2.2.2.2 g4)
                    clear HG g1 g2 g3 g4
                    go_wp2_with fail
                    go_quiet (fail)
                    go_wp2_with fail
                    go_roundg (n - (k + 1))
                    case measure => omega
                    case rel => exact ⟨k + 1, b, by omega, rfl, by go_num, HBn, hidden (nst_drewN HS3.out _)⟩
                · have eg3 : (decide (0 ≤ vo)) = false := by simpa using g3
                  have HBn : Hid (Best L d root i (k + 1) b) := best_skip (by omega) HBE.out (fun f hg => by have hz := (HG.out f).1 hg; exact absurd hz.2.2.2.1 g3)
                  clear HG g1 g2 g3
                  go_wp2_with fail
                  go_quiet (fail)
                  go_wp2_with fail
                  go_roundg (n - (k + 1))
                  case measure => omega
                  case rel => exact ⟨k + 1, b, by omega, rfl, by go_num, HBn, hidden (nst_drewN HS3.out _)⟩
              · have eg2 : (decide (0 ≤ vi)) = false := by simpa using g2
                have HBn : Hid (Best L d root i (k + 1) b) := best_skip (by omega) HBE.out (fun f hg => by have hz := (HG.out f).1 hg; exact absurd hz.2.2.1 g2)
                clear HG g1 g2
                go_wp2_with fail
                go_quiet (fail)
                go_wp2_with fail
                go_roundg (n - (k + 1))
                case measure => omega
                case rel => exact ⟨k + 1, b, by omega, rfl, by go_num, HBn, hidden (nst_drewN HS3.out _)⟩
            · have eg1 : ((i : Int) != (root : Int)) = false := by
                have : i = root := by omega
                simp [this]
              have HBn : Hid (Best L d root i (k + 1) b) := best_skip (by omega) HBE.out (fun f hg => by have hz := (HG.out f).1 hg; exact absurd hz.2.1 g1)
              clear HG g1
              go_wp2_with fail
              go_quiet (fail)
              go_wp2_with fail
              go_roundg (n - (k + 1))
              case measure => omega
              case rel => exact ⟨k + 1, b, by omega, rfl, by go_num, HBn, hidden (nst_drewN HS3.out _)⟩
          · have epi : ((p : Int) == (i : Int)) = false := beq_eq_false_iff_ne.2 (by omega)
            by_cases hqi : q = i
            · subst hqi
              go_upto_region 15 with fail
              obtain ⟨i, ei⟩ : ∃ i, i = q := ⟨_, rfl⟩
              obtain ⟨o, eo⟩ : ∃ o, o = p := ⟨_, rfl⟩
              subst ei eo
              have ho : o < m := by omega
              have hoz : (o : Int) < (m : Int) := by omega
              have h0o : decide (0 ≤ (o : Int)) = true := by simp
              have d1 := HCD.out w3 HS3.out.below i hi
              have d2 := HCD.out w3 HS3.out.below o ho
              have bi := HBD.out o
              have li := HD.out.low o
              have hwr : IntKind.i64.wrap (dg d o + c) = dg d o + c := wrap_id (by omega) (by omega)
              have HG : Hid (∀ f, gd d root i (L.getD k zz) f ↔ f = (o : Int) ∧ i ≠ root ∧ 0 ≤ dg d i ∧ 0 ≤ dg d o ∧ dg d o + c = dg d i) := fun f => by
                rw [HM.out]
                unfold gd
                rw [jn_iff]
                simp only
                constructor
                · rintro ⟨q1, q2, q3, q4, q5⟩
                  have e : f = (o : Int) := by omega
                  subst e
                  rw [Int.toNat_natCast] at q4 q5
                  exact ⟨rfl, q2, q3, q4, q5⟩
                · rintro ⟨rfl, q2, q3, q4, q5⟩
                  rw [Int.toNat_natCast]
                  exact ⟨by first | omega | simp, q2, q3, q4, q5⟩
              clear bi li
              generalize dg d i = vi at *
              generalize dg d o = vo at *
              by_cases g1 : i ≠ root
              · have eg1 : ((i : Int) != (root : Int)) = true := bne_iff_ne.2 (by omega)
                by_cases g2 : 0 ≤ vi
                · have eg2 : (decide (0 ≤ vi)) = true := by simpa using g2
                  by_cases g3 : 0 ≤ vo
                  · have eg3 : (decide (0 ≤ vo)) = true := by simpa using g3
                    by_cases g4 : vo + c = vi
                    · have eg4 : (vo + c == vi) = true := by simpa using g4
                      by_cases g5 : b < 0
                      · have eg5 : (decide (b < 0)) = true := by simpa using g5
                        have HBn : Hid (Best L d root i (k + 1) (o : Int)) := best_take (by omega) HBE.out (by omega) ((HG.out _).2 ⟨rfl, g1, g2, g3, g4⟩) (fun f hg => ((HG.out f).1 hg).1) (.inl g5)
                        clear HG g1 g2 g3 g4 g5
                        go_wp2_with fail
                        go_quiet (fail)
                        go_wp2_with fail
                        go_roundg (n - (k + 1))
                        case measure => omega
                        case rel => exact ⟨k + 1, (o : Int), by omega, rfl, by go_num, HBn, hidden (nst_drewN HS3.out _)⟩
                      · have eg5 : (decide (b < 0)) = false := by simpa using g5
                        by_cases g6 : (o : Int) < b
                        · have eg6 : (decide ((o : Int) < b)) = true := by simpa using g6
                          have HBn : Hid (Best L d root i (k + 1) (o : Int)) := best_take (by omega) HBE.out (by omega) ((HG.out _).2 ⟨rfl, g1, g2, g3, g4⟩) (fun f hg => ((HG.out f).1 hg).1) (.inr g6)
                          clear HG g1 g2 g3 g4 g5 g6
                          go_wp2_with fail
                          go_quiet (fail)
                          go_wp2_with fail
                          go_roundg (n - (k + 1))
                          case measure => omega
                          case rel => exact ⟨k + 1, (o : Int), by omega, rfl, by go_num, HBn, hidden (nst_drewN HS3.out _)⟩
                        · have eg6 : (decide ((o : Int) < b)) = false := by simpa using g6
                          have HBn : Hid (Best L d root i (k + 1) b) := best_skip (by omega) HBE.out (fun f hg => by have hz := (HG.out f).1 hg; omega)
                          clear HG g1 g2 g3 g4 g5 g6
                          go_wp2_with fail
                          go_quiet (fail)
                          go_wp2_with fail
                          go_roundg (n - (k + 1))
                          case measure => omega
                          case rel => exact ⟨k + 1, b, by omega, rfl, by go_num, HBn, hidden (nst_drewN HS3.out _)⟩
                    · have eg4 : (vo + c == vi) = false := by simpa using g4
                      have HBn : Hid (Best L d root i (k + 1) b) := best_skip (by omega) HBE.out (fun f hg => by have hz := (HG.out f).1 hg; exact absurd hz.2.2.2.2 g4)
                      clear HG g1 g2 g3 g4
                      go_wp2_with fail
                      go_quiet (fail)
                      go_wp2_with fail
                      go_roundg (n - (k + 1))
                      case measure => omega
                      case rel => exact ⟨k + 1, b, by omega, rfl, by go_num, HBn, hidden (nst_drewN HS3.out _)⟩
                  · have eg3 : (decide (0 ≤ vo)) = false := by simpa using g3
                    have HBn : Hid (Best L d root i (k + 1) b) := best_skip (by omega) HBE.out (fun f hg => by have hz := (HG.out f).1 hg; exact absurd hz.2.2.2.1 g3)
                    clear HG g1 g2 g3
                    go_wp2_with fail
                    go_quiet (fail)
                    go_wp2_with fail
                    go_roundg (n - (k + 1))
                    case measure => omega
                    case rel => exact ⟨k + 1, b, by omega, rfl, by go_num, HBn, hidden (nst_drewN HS3.out _)⟩
                · have eg2 : (decide (0 ≤ vi)) = false := by simpa using g2
                  have HBn : Hid (Best L d root i (k + 1) b) := best_skip (by omega) HBE.out (fun f hg => by have hz := (HG.out f).1 hg; exact absurd hz.2.2.1 g2)
                  clear HG g1 g2
                  go_wp2_with fail
                  go_quiet (fail)
                  go_wp2_with fail
                  go_roundg (n - (k + 1))
                  case measure => omega
                  case rel => exact ⟨k + 1, b, by omega, rfl, by go_num, HBn, hidden (nst_drewN HS3.out _)⟩
              · have eg1 : ((i : Int) != (root : Int)) = false := by
                  have : i = root := by omega
                  simp [this]
                have HBn : Hid (Best L d root i (k + 1) b) := best_skip (by omega) HBE.out (fun f hg => by have hz := (HG.out f).1 hg; exact absurd hz.2.1 g1)
                clear HG g1
                go_wp2_with fail
                go_quiet (fail)
                go_wp2_with fail
                go_roundg (n - (k + 1))
                case measure => omega
                case rel => exact ⟨k + 1, b, by omega, rfl, by go_num, HBn, hidden (nst_drewN HS3.out _)⟩
            · have eqi : ((q : Int) == (i : Int)) = false := beq_eq_false_iff_ne.2 (by omega)
              have HBn : Hid (Best L d root i (k + 1) b) := best_skip (by omega) HBE.out (fun f hg => by
                rw [HM.out] at hg
                have := jn_iff.1 hg.1
                simp only at this
                omega)
              clear hpi hqi hpq
              go_wp2_with fail
              go_quiet (fail)
              go_wp2_with fail
              go_roundg (n - (k + 1))
              case measure => omega
              case rel => exact ⟨k + 1, b, by omega, rfl, by go_num, HBn, hidden (nst_drewN HS3.out _)⟩
        · have hkz : ¬ (k : Int) < (n : Int) := by omega
          obtain rfl : n = k := by omega
          have hbe := HBE.out
          rw [← hl] at hbe
          have hpar := best_par HF.out HD.out hr hi hbe
          have HP1 : Hid (∀ x, x < i + 1 → IsPar L d m x (dg (K ++ [b]) x)) := fun x hx => by
            rw [dg_snoc, hK]
            by_cases e : x < i
            · rw [if_pos e]; exact HP.out x e
            · rw [if_neg e, if_pos (by omega)]
              have : x = i := by omega
              rw [this]; exact hpar
          clear hbe hpar
          go_wp2_with (at_builtin; refine wpList_append_own _ rfl _ _ 54 rfl w.heap.size 3 i0 _ 1 8 Tryd.underlying54 hii hz0 hz1 hz2 rfl (by decide) _ i (ic K) rfl ?own ⟨wr.heap.size, 0, none⟩ 1 1 [.int .i64 b] rfl rfl ?cc ?one ?b1 ?b2 ?b3 ?next)
          case own => have := HS.out.own; rw [hK] at this; exact this.alloc _
          all_goals try exact lit1 _
          case one => simp [Value.oneCell']
          case b1 => unfold maxLen; omega
          case b2 => omega
          case b3 => have := HS.out.below.size; simp; omega
          case next =>
          intro v3 w' hown hgrow _
          have HSn : Hid (NSt w w' (K ++ [b]) v3) := by
            have hs := HS.out.below.size
            refine ⟨(HS.out.below.alloc hs _).grown hgrow (by simp; omega) (fun j hj => (HS.out.own.lt j hj).1), ?_⟩
            rw [List.length_append, hK, ic_app]
            exact hown
          clear hown hgrow
          go_wp2_with fail
          go_roundg (m - (i + 1))
          case measure => omega
          case rel => exact ⟨i + 1, v3, K ++ [b], by omega, rfl, by go_num, by simp [hK], HSn, HP1⟩
    · have hiz : ¬ (i : Int) < (m : Int) := by omega
      obtain rfl : m = i := by omega
      go_wp2_with fail
      go_ret
      exact ⟨_, rfl, K, HS.out, hK, HP.out⟩
end Go.Proofs.YtafokjafbdgagafDoor.RTree
