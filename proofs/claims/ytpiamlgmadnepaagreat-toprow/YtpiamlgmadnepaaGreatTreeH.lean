/-
  What leastWays of package tree returns: how far each node is from a root. It changes nothing that was there.
-/
import Derived.Test.YtpiamlgmadnepaaGreatTreeG
namespace Go.Proofs.YtpiamlgmadnepaaGreat.Tree
open Go.ChangeShapes Go.WideShapes Go.ChangeAt Go.RowKit Go.Proofs.YtpiamlgmadnepaaGreat.Mem Go.Proofs.YtpiamlgmadnepaaGreat.TM
set_option linter.unusedVariables false

set_option maxHeartbeats 8000000 in
set_option maxRecDepth 100000 in
theorem leastWays_calls (C : Array Value) (n root : Nat) (L : List Ed) (w : World) (hC : Mat C (fc L)) (hF : Fit n L) (hr : root < n) :
    Calls Tryz.prog 56 #[.agg C, .int .i64 (n : Int), .int .i64 (root : Int)] w fun e w' => ∃ gd d, e = .returned (.slice (some ⟨gd, 0, none⟩) n n) ∧ w'.ownsRow w.heap.size 3 1 (.slice (some ⟨gd, 0, none⟩) n n) n (ic d) ∧ IsDist L n root d ∧ (∀ x, dg d x ≤ 16000000) ∧ Below w.heap.size w w' := by
  have hn := hF.hi
  have hn1 := hF.lo
  have HF := hidden hF
  have HC := hidden hC
  clear hF hC
  have hrz : (root : Int) < (n : Int) := by omega
  obtain ⟨w1, hw1⟩ : ∃ w1, (w.alloc (.cells C 115)).alloc (.cells #[.int .i64 (-1)] 3) = w1 := ⟨_, rfl⟩
  have HB1 : Hid (Below w.heap.size w w1) := by rw [← hw1]; exact hidden (below_alloc (below_alloc (Below.refl _ _) _) _)
  have HM1 : Hid (MB w1 w.heap.size (fc L)) := by
    rw [← hw1]
    have h1 : MB (w.alloc (.cells C 115)) w.heap.size (fc L) := MB.new HC.out
    exact hidden (h1.below (below_alloc (Below.refl _ _) _) h1.lt)
  have HL1 : Hid (w1.heap[w.heap.size + 1]? = some (.cells #[.int .i64 (-1)] 3 (0, 0))) := by
    have := heap_alloc_new (w.alloc (.cells C 115)) (.cells #[.int .i64 (-1)] 3)
    rw [show (w.alloc (.cells C 115)).heap.size = w.heap.size + 1 by simp, hw1] at this
    exact hidden this
  have HR := hidden (rep_calls (w.heap.size + 1) n w1 HL1.out hn1 hn)
  have HW1 := hidden hw1
  have HS1 : Hid (w.heap.size < w1.heap.size) := HM1.out.lt
  clear hw1
  go_enter Tryz.func56, Tryz.ntmps56
  go_wp2_with fail
  rw [HW1.out]
  refine HR.out.mono ?_
  rintro e w2 ⟨gd, rfl, ho2, hb2⟩
  have HB2 : Hid (Below w.heap.size w w2) := HB1.out.trans (hb2.mono HB1.out.size)
  have HM2 : Hid (MB w2 w.heap.size (fc L)) := HM1.out.below hb2 HS1.out
  have HO2 : Hid (w2.ownsRow w.heap.size 3 1 (.slice (some ⟨gd, 0, none⟩) n n) n (ic (List.replicate n (-1)))) := own_base ho2 HB1.out.size
  have hc := own_dg HO2.out (j := root) (by omega)
  have hf := HO2.out.frozenAt root
  clear ho2 hb2
  go_upto_region 3 with fail
  obtain ⟨w3, hw3⟩ : ∃ w3, w2.setCell ⟨gd, root, none⟩ (.int .i64 0) = w3 := ⟨_, rfl⟩
  have HB3 : Hid (Below w.heap.size w w3) := by rw [← hw3]; exact hidden (HB2.out.setCell (own_block HO2.out).1 _)
  have HM3 : Hid (MB w3 w.heap.size (fc L)) := by
    rw [← hw3]
    have o : Only [gd] w2 (w2.setCell ⟨gd, root, none⟩ (.int .i64 0)) := (Only.refl _ _).setCell (by simp) _
    refine hidden (HM2.out.only o ?_)
    obtain ⟨C', h2, _⟩ := HM2.out
    obtain ⟨_, cur, h1⟩ := own_block HO2.out
    simp
    rintro rfl
    rw [h1] at h2; simp at h2
  have HO3 : Hid (w3.ownsRow w.heap.size 3 1 (.slice (some ⟨gd, 0, none⟩) n n) n (ic ((List.replicate n (-1)).set root 0))) := by rw [← hw3]; exact hidden (own_set HO2.out _ _)
  rw [hw3]
  clear hw3 hc hf HM2 HB2 HO2 HR HL1 HM1 HB1 HW1
  obtain ⟨w4, hw4⟩ : ∃ w4, w3.alloc (.cells zb 183) = w4 := ⟨_, rfl⟩
  have HS4 : Hid (LSt w w4 w.heap.size gd w3.heap.size n L ((List.replicate n (-1)).set root 0) (fun _ => false)) := by
    rw [← hw4]
    exact hidden ⟨below_alloc HB3.out _, HB3.out.size, HM3.out.below (below_alloc (Below.refl _ _) _) HM3.out.lt, HO3.out.alloc _, ArrB.new w3⟩
  have HW4 : Hid (w3.alloc (.cells #[.bool false, .bool false, .bool false, .bool false, .bool false, .bool false, .bool false, .bool false, .bool false, .bool false, .bool false, .bool false, .bool false, .bool false, .bool false, .bool false] 183) = w4) := hw4
  clear hw4 HM3 HB3 HO3
  have HD0 := hidden (dinv_start L hr)
  go_upto_region 4 with fail
  rw [HW4.out]
  clear HW4
  generalize w3.heap.size = gb at *
  go_loopg [9] n (fun g u wr => ∃ (d : List Int) (S : Nat → Bool), n - cn S n ≤ g ∧ Hid (LSt w wr w.heap.size gd gb n L d S) ∧ Hid (DInv L n root d S))
  case atStart => exact ⟨_, _, by omega, HS4, HD0⟩
  case round =>
    obtain ⟨d, S, hgm, HS, HD⟩ := hrel
    clear HS4 HD0
    have C1 := hidden (nearest_calls (some ⟨gd, 0, none⟩) n n gb d S wr (HS.out.arg hn) HS.out.don hn)
    go_wp2_with fail
    refine C1.out.mono ?_
    rintro e wr' ⟨f, rfl, hN, rfl⟩
    have HN := hidden hN
    clear C1
    rcases near_cases hN with rfl | ⟨k, rfl, hk⟩
    · clear hN
      have HE := hidden (dinv_end HD.out hr HN.out)
      go_wp2_with fail
      go_ret
      exact ⟨gd, d, rfl, HS.out.own, HE.out.1, fun x => by have := HE.out.2 x; omega, HS.out.bel⟩
    · have hSk : S k = false := by
        rcases hN with ⟨h3, _⟩ | ⟨k', h3, _, _, h6, _⟩
        · omega
        · obtain rfl : k' = k := by omega
          exact h6
      have hdk : 0 ≤ dg d k := by
        have h5 : dg d k ≠ -1 := by
          rcases hN with ⟨h3, _⟩ | ⟨k', h3, _, h5, _⟩
          · omega
          · obtain rfl : k' = k := by omega
            exact h5
        rcases HD.out.low hk with q | q <;> omega
      have hbd : dg d k ≤ 16000000 := by
        have := HD.out.bd k hk
        have := cn_le S n
        omega
      have hcn : cn S n < n := cn_lt hk hSk
      clear hN
      have hk1 : ((k : Int) == -1) = false := beq_eq_false_iff_ne.2 (by omega)
      have hk16 : (k : Int) < 16 := by omega
      have hkn : (k : Int) < (n : Int) := by omega
      have hc := HS.out.don.cell (j := k) (by omega)
      have hf := HS.out.don.free k
      go_upto_region 8 with fail
      obtain ⟨w5, hw5⟩ : ∃ w5, wr'.setCell ⟨gb, k, none⟩ (.bool true) = w5 := ⟨_, rfl⟩
      have HS5 : Hid (LSt w w5 w.heap.size gd gb n L d (upd S k true)) := by rw [← hw5]; exact hidden (HS.out.mark (by omega))
      rw [hw5]
      clear hw5 hc hf HS
      have hnk := nv_self HF.out.ok d k
      have HNK := hidden hnk
      clear hnk
      have HA0 : Hid (At L d d k n 0) := fun x _ => by rw [if_neg (by omega)]
      go_wp2_with fail
      go_loopg [29] n (fun g v wq => ∃ (j : Nat) (c : List Int), j + g = n ∧ v = .int .i64 (j : Int) ∧ Hid (LSt w wq w.heap.size gd gb n L c (upd S k true)) ∧ Hid (At L d c k n j))
      case atStart => exact ⟨0, d, by omega, rfl, HS5, HA0⟩
      case round =>
        obtain ⟨j, c, hjg, rfl, HQ, HA⟩ := hrel
        by_cases hj : j < n
        · have hjz : (j : Int) < (n : Int) := by omega
          have hj16 : (j : Int) < 16 := by omega
          have hcl := own_ln HQ.out.own
          have m0 := HQ.out.mat.cell (x := k) (y := j) (by omega) (by omega)
          have c1 := own_dg HQ.out.own (j := k) hk
          have c2 := own_dg HQ.out.own (j := j) hj
          have f2 := HQ.out.own.frozenAt j
          have e1 : dg c k = dg d k := by
            rw [HA.out k hk]; split
            · exact HNK.out
            · rfl
          have e2 : dg c j = dg d j := by rw [HA.out j hj, if_neg (by omega)]
          rw [e1] at c1
          rw [e2] at c2
          have hco := cst_range HF.out.ok (k : Int) (j : Int)
          have hnv : nv L d k j = if 0 < cst L k j ∧ (dg d j = -1 ∨ dg d k + cst L k j < dg d j) then dg d k + cst L k j else dg d j := rfl
          unfold fc at m0
          have HST := hidden (fun v => HQ.out.store j v)
          obtain ⟨h1, h2, _⟩ := hco
          clear e1 e2
          generalize dg d k = x at *
          generalize cst L (k : Int) (j : Int) = co at *
          by_cases hz : co = 0
          · subst hz
            have HA1 := hidden (at_stay HA.out (by rw [hnv, if_neg (by omega)]))
            clear hnv
            generalize dg d j = y at *
            have hwr : IntKind.i64.wrap (x + 0) = x + 0 := wrap_id (by omega) (by omega)
            go_wp2_with fail
            go_roundg (n - (j + 1))
            case measure => omega
            case rel => exact ⟨j + 1, c, by omega, by go_num, HQ, HA1⟩
          · have hp : 0 < co := by omega
            have dp : decide (0 < co) = true := by simpa using hp
            have hwr : IntKind.i64.wrap (x + co) = x + co := wrap_id (by omega) (by omega)
            by_cases hy : dg d j = -1
            · have HA1 := hidden (at_set (v := x + co) HA.out hcl hj (by rw [hnv, if_pos ⟨hp, .inl hy⟩]))
              rw [hy] at c2
              clear hnv hy hz
              go_wp2_with fail
              go_roundg (n - (j + 1))
              case measure => omega
              case rel => exact ⟨j + 1, c.set j (x + co), by omega, by go_num, hidden (HST.out _), HA1⟩
            · have dy : (dg d j == -1) = false := beq_eq_false_iff_ne.2 hy
              by_cases hl : x + co < dg d j
              · have dl : decide (x + co < dg d j) = true := by simpa using hl
                have HA1 := hidden (at_set (v := x + co) HA.out hcl hj (by rw [hnv, if_pos ⟨hp, .inr hl⟩]))
                clear hnv hy hz hl
                generalize dg d j = y at *
                go_wp2_with fail
                go_roundg (n - (j + 1))
                case measure => omega
                case rel => exact ⟨j + 1, c.set j (x + co), by omega, by go_num, hidden (HST.out _), HA1⟩
              · have dl : decide (x + co < dg d j) = false := by simpa using hl
                have HA1 := hidden (at_stay HA.out (by rw [hnv, if_neg (by omega)]))
                clear hnv hy hz hl
                generalize dg d j = y at *
                go_wp2_with fail
                go_roundg (n - (j + 1))
                case measure => omega
                case rel => exact ⟨j + 1, c, by omega, by go_num, HQ, HA1⟩
        · have hjz : ¬ (j : Int) < (n : Int) := by omega
          obtain rfl : j = n := by omega
          have hcl := own_ln HQ.out.own
          have hnx := dinv_next HF.out.ok HD.out hk hr HN.out hcl (fun x hx => by rw [HA.out x hx, if_pos hx])
          have HD1 := hidden hnx.1
          have hc2 := hnx.2
          have hc3 := cn_le (upd S k true) j
          clear hnx
          go_wp2_with fail
          go_roundg (j - cn (upd S k true) j)
          case measure => omega
          case rel => exact ⟨c, _, by omega, HQ, HD1⟩
end Go.Proofs.YtpiamlgmadnepaaGreat.Tree

