/-
  What the reference's function Dist returns: the least ways from a root, by making them shorter as long as they can be. It changes nothing that was there.
-/
import Derived.Test.YtafokjafbdgagafDoorRTreeA
import Derived.Deep.RegionLaw
namespace Go.Proofs.YtafokjafbdgagafDoor.RTree
open Go.ChangeShapes Go.WideShapes Go.ChangeAt Go.RowKit Go.Proofs.YtafokjafbdgagafDoor.Mem Go.Proofs.YtafokjafbdgagafDoor.TM Go.Proofs.YtafokjafbdgagafDoor.Tree
set_option linter.unusedVariables false

structure DSt (w wr : World) (gd cd m : Nat) (d : List Int) : Prop where
  bel : Below w.heap.size w wr
  own : wr.ownsRow w.heap.size 3 1 (.slice (some ⟨gd, 0, none⟩) m cd) m (ic d)
theorem DSt.drewN {w wr : World} {gd cd m : Nat} {d : List Int} (h : DSt w wr gd cd m d) (q : Nat) : DSt w (wr.drewN q) gd cd m d := ⟨below_drewN' h.bel q, h.own⟩
theorem DSt.store {w wr : World} {gd cd m : Nat} {d : List Int} (h : DSt w wr gd cd m d) (j : Nat) (v : Int) : DSt w (wr.setCell ⟨gd, j, none⟩ (.int .i64 v)).drew gd cd m (d.set j v) :=
  ⟨(h.bel.setCell (own_block h.own).1 _).drew, (own_set h.own j v).drew⟩
theorem DSt.box {w wr : World} {gd cd m : Nat} {d : List Int} (h : DSt w wr gd cd m d) {B : Nat} {e : Ed} (hb : EBox wr B e) (j : Nat) (v : Int) : EBox (wr.setCell ⟨gd, j, none⟩ (.int .i64 v)).drew B e := by
  have o : Only [gd] wr (wr.setCell ⟨gd, j, none⟩ (.int .i64 v)).drew := ((Only.refl _ _).setCell (by simp) _).drew
  refine o.block hb ?_
  obtain ⟨_, cur, h1⟩ := own_block h.own
  simp
  rintro rfl
  unfold EBox at hb
  rw [h1] at hb; simp at hb
theorem DSt.alloc {w wr : World} {gd cd m : Nat} {d : List Int} (h : DSt w wr gd cd m d) (O : Obj) : DSt w (wr.alloc O) gd cd m d := ⟨below_alloc h.bel O, h.own.alloc O⟩
set_option maxHeartbeats 16000000 in
set_option maxRecDepth 100000 in
theorem rdist_calls (a : Option Addr) (n cap : Nat) (L : List Ed) (m root : Nat) (w : World) (h : EArg w a n L) (hF : Fit m L) (hr : root < m) :
    Calls Tryd.prog 26 #[.int .i64 (m : Int), .slice a n cap, .int .i64 (root : Int)] w fun e w' => ∃ gd cd d, e = .returned (.slice (some ⟨gd, 0, none⟩) m cd) ∧ DSt w w' gd cd m d ∧ IsDist L m root d ∧ ∀ x, dg d x ≤ 17000000000 := by
  have hl := h.2.1
  have hn := h.2.2
  have HA := hidden h
  have HF := hidden hF
  have hm16 := hF.hi
  have hn200 : n ≤ 200 := by have := hF.len; omega
  clear h hF
  obtain ⟨D, hD⟩ := isDist_exists L m root
  have HD := hidden hD
  clear hD
  obtain ⟨i0, hii, hz0, hz1, hz2⟩ := info_parts info3
  have HN0 : Hid (NSt w w (List.replicate 0 (-1)) (.slice none 0 0)) := ⟨Below.refl _ _, World.ownsRow_nil _ _ _ _⟩
  go_enter Tryd.func26, Tryd.ntmps26
  go_wp2_with fail
  go_loopg [7, 8] m (fun g u y wr => ∃ (i : Nat) (v : Value), i + g = m ∧ v = u ∧ y = .int .i64 (i : Int) ∧ Hid (NSt w wr (List.replicate i (-1)) v))
  case atStart => exact ⟨0, _, by omega, rfl, rfl, HN0⟩
  case round =>
    obtain ⟨i, v, hig, rfl, rfl, HS⟩ := hrel
    by_cases hi : i < m
    · have hiz : (i : Int) < (m : Int) := by omega
      go_wp2_with (at_builtin; refine wpList_append_own _ rfl _ _ 54 rfl w.heap.size 3 i0 _ 1 8 Tryd.underlying54 hii hz0 hz1 hz2 rfl (by decide) _ i (ic (List.replicate i (-1))) rfl ?own ⟨wr.heap.size, 0, none⟩ 1 1 [.int .i64 (-1)] rfl rfl ?cc ?one ?b1 ?b2 ?b3 ?next)
      case own => have := HS.out.own; rw [List.length_replicate] at this; exact this.alloc _
      case cc => exact lit1 _
      case one => simp [Value.oneCell']
      case b1 => unfold maxLen; omega
      case b2 => omega
      case b3 => have := HS.out.below.size; simp; omega
      case next =>
      intro v3 w' hown hgrow _
      have HSn : Hid (NSt w w' (List.replicate (i + 1) (-1)) v3) := by
        have hs := HS.out.below.size
        refine ⟨(HS.out.below.alloc hs _).grown hgrow (by simp; omega) (fun j hj => (HS.out.own.lt j hj).1), ?_⟩
        rw [List.length_replicate, ← List.replicate_append_replicate (m := 1), ic_app]
        exact hown
      clear hown hgrow
      go_wp2_with fail
      go_roundg (m - (i + 1))
      case measure => omega
      case rel => exact ⟨i + 1, v3, by omega, rfl, by go_num, HSn⟩
    · have hiz : ¬ (i : Int) < (m : Int) := by omega
      obtain rfl : m = i := by omega
      have ho := HS.out.own
      rw [List.length_replicate] at ho
      obtain ⟨gd, cd, rfl⟩ : ∃ gd cd, v = .slice (some ⟨gd, 0, none⟩) m cd := by
        rcases ho.2 with ⟨_, h⟩ | ⟨g', c', _, h, _⟩
        · omega
        · exact ⟨g', c', h⟩
      have c0 := own_dg ho (j := root) hr
      have f0 := ho.frozenAt root
      have hrz : (root : Int) < (m : Int) := by omega
      obtain ⟨w1, hw1⟩ : ∃ w1, wr.setCell ⟨gd, root, none⟩ (.int .i64 0) = w1 := ⟨_, rfl⟩
      have HS1 : Hid (DSt w w1 gd cd m ((List.replicate m (-1)).set root 0)) := by
        rw [← hw1]
        exact hidden ⟨HS.out.below.setCell (own_block ho).1 _, own_set ho root 0⟩
      have HW1 := hidden hw1
      have HB1 : Hid (BInv L m root ((List.replicate m (-1)).set root 0) (1000000000 * ((0 : Nat) : Int))) := binv_start L hr
      clear hw1 ho HN0 HS
      go_upto_region 7 with fail
      rw [HW1.out]
      clear HW1 c0 f0
      go_wp2_with fail
      go_loopg [9] m (fun g v wr => ∃ (r : Nat) (d : List Int), r + g = m ∧ v = .int .i64 (r : Int) ∧ Hid (DSt w wr gd cd m d) ∧ Hid (BInv L m root d (1000000000 * (r : Int))) ∧ Hid (r ≤ cn (nr D d) m))
      case atStart => exact ⟨0, _, by omega, rfl, HS1, HB1, Nat.zero_le _⟩
      case round =>
        obtain ⟨r, d0, hrg, rfl, HS, HB0, HC0⟩ := hrel
        clear HS1 HB1
        by_cases hrm : r < m
        · have hrmz : (r : Int) < (m : Int) := by omega
          have HR0 : Hid (RInv L m root D d0 d0 0 (1000000000 * (r : Int) + 2000000 * ((0 : Nat) : Int))) := by
            have := rinv_start (D := D) HB0.out
            rw [show 1000000000 * (r : Int) + 2000000 * ((0 : Nat) : Int) = 1000000000 * (r : Int) by omega]
            exact this
          go_wp2_with fail
          go_loopg [10] n (fun g v wr => ∃ (j : Nat) (d : List Int), j + g = n ∧ v = .int .i64 (j : Int) ∧ Hid (DSt w wr gd cd m d) ∧ Hid (RInv L m root D d0 d j (1000000000 * (r : Int) + 2000000 * (j : Int))))
          case atStart => exact ⟨0, d0, by omega, rfl, HS, HR0⟩
          case round =>
            obtain ⟨j, d, hjg, rfl, HS, HR⟩ := hrel
            clear HR0
            by_cases hj : j < n
            · have hjz : (j : Int) < (n : Int) := by omega
              obtain ⟨b, o, rfl, hbl, hcs⟩ := (HA.out.below HS.out.bel).at (by omega)
              obtain ⟨c0, c1, c2⟩ := hcs j hj
              have hok := okE_iff.1 (HF.out.ok _ (getD_mem (L := L) (j := j) (by omega)))
              obtain ⟨me, hme⟩ : ∃ me, L.getD j zz = me := ⟨_, rfl⟩
              rw [hme] at c0 c1 c2 hok
              obtain ⟨xa, xb, c⟩ := me
              simp only at c0 c1 c2 hok
              obtain ⟨p, rfl⟩ : ∃ p : Nat, xa = (p : Int) := ⟨xa.toNat, by omega⟩
              obtain ⟨q, rfl⟩ : ∃ q : Nat, xb = (q : Int) := ⟨xb.toNat, by omega⟩
              have HM := hidden hme
              have hp : p < m := by omega
              have hq : q < m := by omega
              have hpz : (p : Int) < (m : Int) := by omega
              have hqz : (q : Int) < (m : Int) := by omega
              have hc1 : 1 ≤ c := by omega
              have hc2 : c ≤ 1000000 := by omega
              clear hme hok hcs
              obtain ⟨B, hB⟩ : ∃ B, wr.heap.size = B := ⟨_, rfl⟩
              obtain ⟨w3, hw3⟩ : ∃ w3, wr.alloc (.cells #[.int .i64 (p : Int), .int .i64 (q : Int), .int .i64 c] 70) = w3 := ⟨_, rfl⟩
              have HSw3 : Hid (DSt w w3 gd cd m d) := by rw [← hw3]; exact hidden (HS.out.alloc _)
              have HXw3 : Hid (EBox w3 B ⟨p, q, c⟩) := by rw [← hw3, ← hB]; exact hidden (EBox.new wr ⟨p, q, c⟩)
              have HW3 := hidden hw3
              have HBB := hidden hB
              have HId := hidden HR.out.inv
              clear hw3 hB HS
              go_upto_region 14 with fail
              rw [HW3.out, HBB.out]
              clear HW3 HBB c0 c1 c2
              obtain ⟨x0, x1, x2⟩ := HXw3.out.cells
              simp only at x0 x1 x2
              have yp := own_dg HSw3.out.own (j := p) hp
              have yq := own_dg HSw3.out.own (j := q) hq
              have bp := HId.out.bd p hp
              have lp : dg d p = -1 ∨ 0 ≤ dg d p := HId.out.low hp
              have hwr : IntKind.i64.wrap (dg d p + c) = dg d p + c := wrap_id (by omega) (by omega)
              have HRX : Hid (rx d p q c = if 0 ≤ dg d p ∧ (dg d q < 0 ∨ dg d p + c < dg d q) then d.set q (dg d p + c) else d) := hidden rfl
              obtain ⟨va, hva⟩ : ∃ z, dg d p = z := ⟨_, rfl⟩
              obtain ⟨vb, hvb⟩ : ∃ z, dg d q = z := ⟨_, rfl⟩
              rw [hva] at yp bp lp hwr HRX
              rw [hvb] at yq HRX
              have HVA := hidden hva
              clear hva hvb bp lp
              obtain ⟨tb, htb⟩ : ∃ z, decide (0 ≤ va ∧ (vb < 0 ∨ va + c < vb)) = z := ⟨_, rfl⟩
              have HTB := hidden htb
              clear htb
              go_cut [67] from 38 to 67 (fun s wx => s = .bool tb ∧ Hid (∃ q, wx = w3.drewN q))
              case first =>
                by_cases g1 : 0 ≤ va
                · have eg1 : (decide (0 ≤ va)) = true := by simpa using g1
                  by_cases g2 : vb < 0
                  · have eg2 : (decide (vb < 0)) = true := by simpa using g2
                    go_quiet (fail)
                    go_wp2_with fail
                    go_meet
                    exact ⟨congrArg Value.bool ((decide_eq_true ⟨g1, .inl g2⟩).symm.trans HTB.out), _, rfl⟩
                  · have eg2 : (decide (vb < 0)) = false := by simpa using g2
                    by_cases g3 : va + c < vb
                    · have eg3 : (decide (va + c < vb)) = true := by simpa using g3
                      go_quiet (fail)
                      go_wp2_with fail
                      go_meet
                      exact ⟨congrArg Value.bool ((decide_eq_true ⟨g1, .inr g3⟩).symm.trans HTB.out), _, rfl⟩
                    · have eg3 : (decide (va + c < vb)) = false := by simpa using g3
                      go_quiet (fail)
                      go_wp2_with fail
                      go_meet
                      exact ⟨congrArg Value.bool ((decide_eq_false (by omega)).symm.trans HTB.out), _, rfl⟩
                · have eg1 : (decide (0 ≤ va)) = false := by simpa using g1
                  go_quiet (fail)
                  go_wp2_with fail
                  go_meet
                  exact ⟨congrArg Value.bool ((decide_eq_false (by omega)).symm.trans HTB.out), _, rfl⟩
              case rest =>
              obtain ⟨rfl, hwc⟩ := hcut
              obtain ⟨wm, hwm⟩ : ∃ z, z = wc := ⟨_, rfl⟩
              subst hwm
              have HSm : Hid (DSt w wm gd cd m d) := by obtain ⟨q, rfl⟩ := hwc.out; exact hidden (HSw3.out.drewN _)
              have HXm : Hid (EBox wm B ⟨p, q, c⟩) := by obtain ⟨q, rfl⟩ := hwc.out; exact hidden HXw3.out
              clear hwc yp yq x0 x1 x2 HSw3 HXw3
              go_upto_if 67 with fail
              go_cut [] from 68 to 79 (fun wx => Hid (DSt w wx gd cd m (rx d p q c)) ∧ Hid (EBox wx B ⟨p, q, c⟩))
              case first =>
                cases tb with
                | true =>
                  have hrx := HRX.out
                  rw [if_pos (of_decide_eq_true HTB.out)] at hrx
                  have HRX2 := hidden hrx
                  obtain ⟨x0, x1, x2⟩ := HXm.out.cells
                  simp only at x0 x1 x2
                  have yp := own_dg HSm.out.own (j := p) hp
                  have yq := own_dg HSm.out.own (j := q) hq
                  have fq := HSm.out.own.frozenAt q
                  rw [HVA.out] at yp
                  clear hrx
                  go_wp2_with fail
                  go_region
                  go_wp2_with fail
                  go_meet
                  exact ⟨by rw [HRX2.out]; exact hidden (HSm.out.store q (va + c)), hidden (HSm.out.box HXm.out q (va + c))⟩
                | false =>
                  have hrx := HRX.out
                  rw [if_neg (of_decide_eq_false HTB.out)] at hrx
                  have HRX2 := hidden hrx
                  clear hrx
                  go_wp2_with fail
                  go_meet
                  exact ⟨by rw [HRX2.out]; exact HSm, HXm⟩
              case rest =>
              obtain ⟨HSw5, HXw5⟩ := hcut
              obtain ⟨w5, hwo⟩ : ∃ z, z = wc := ⟨_, rfl⟩
              subst hwo
              obtain ⟨d1, hdn⟩ : ∃ z, rx d p q c = z := ⟨_, rfl⟩
              rw [hdn] at HSw5
              have HRu := hidden hdn
              clear hdn hwr HRX HVA HTB HSm HXm
              have HId1 : Hid (BInv L m root d1 (1000000000 * (r : Int) + 2000000 * (j : Int) + 1000000)) := by
                have hme := getD_mem (L := L) (j := j) (by omega)
                rw [HM.out] at hme
                have := (rx_is (c := c) HF.out.ok HR.out.inv hp hq hr (by omega) (cst_mem HF.out hme (jn_iff.2 (.inl ⟨rfl, rfl⟩))) (by omega)).inv
                rw [HRu.out] at this
                exact this
              go_upto_region 16 with fail
              obtain ⟨x0, x1, x2⟩ := HXw5.out.cells
              simp only at x0 x1 x2
              have yp := own_dg HSw5.out.own (j := q) hq
              have yq := own_dg HSw5.out.own (j := p) hp
              have bp := HId1.out.bd q hq
              have lp : dg d1 q = -1 ∨ 0 ≤ dg d1 q := HId1.out.low hq
              have hwr : IntKind.i64.wrap (dg d1 q + c) = dg d1 q + c := wrap_id (by omega) (by omega)
              have HRX : Hid (rx d1 q p c = if 0 ≤ dg d1 q ∧ (dg d1 p < 0 ∨ dg d1 q + c < dg d1 p) then d1.set p (dg d1 q + c) else d1) := hidden rfl
              obtain ⟨va, hva⟩ : ∃ z, dg d1 q = z := ⟨_, rfl⟩
              obtain ⟨vb, hvb⟩ : ∃ z, dg d1 p = z := ⟨_, rfl⟩
              rw [hva] at yp bp lp hwr HRX
              rw [hvb] at yq HRX
              have HVA := hidden hva
              clear hva hvb bp lp
              obtain ⟨tb, htb⟩ : ∃ z, decide (0 ≤ va ∧ (vb < 0 ∨ va + c < vb)) = z := ⟨_, rfl⟩
              have HTB := hidden htb
              clear htb
              go_cut [109] from 80 to 109 (fun s wx => s = .bool tb ∧ Hid (∃ q, wx = w5.drewN q))
              case first =>
                by_cases g1 : 0 ≤ va
                · have eg1 : (decide (0 ≤ va)) = true := by simpa using g1
                  by_cases g2 : vb < 0
                  · have eg2 : (decide (vb < 0)) = true := by simpa using g2
                    go_quiet (fail)
                    go_wp2_with fail
                    go_meet
                    exact ⟨congrArg Value.bool ((decide_eq_true ⟨g1, .inl g2⟩).symm.trans HTB.out), _, rfl⟩
                  · have eg2 : (decide (vb < 0)) = false := by simpa using g2
                    by_cases g3 : va + c < vb
                    · have eg3 : (decide (va + c < vb)) = true := by simpa using g3
                      go_quiet (fail)
                      go_wp2_with fail
                      go_meet
                      exact ⟨congrArg Value.bool ((decide_eq_true ⟨g1, .inr g3⟩).symm.trans HTB.out), _, rfl⟩
                    · have eg3 : (decide (va + c < vb)) = false := by simpa using g3
                      go_quiet (fail)
                      go_wp2_with fail
                      go_meet
                      exact ⟨congrArg Value.bool ((decide_eq_false (by omega)).symm.trans HTB.out), _, rfl⟩
                · have eg1 : (decide (0 ≤ va)) = false := by simpa using g1
                  go_quiet (fail)
                  go_wp2_with fail
                  go_meet
                  exact ⟨congrArg Value.bool ((decide_eq_false (by omega)).symm.trans HTB.out), _, rfl⟩
              case rest =>
              obtain ⟨rfl, hwc⟩ := hcut
              obtain ⟨wm, hwm⟩ : ∃ z, z = wc := ⟨_, rfl⟩
              subst hwm
              have HSm : Hid (DSt w wm gd cd m d1) := by obtain ⟨q, rfl⟩ := hwc.out; exact hidden (HSw5.out.drewN _)
              have HXm : Hid (EBox wm B ⟨p, q, c⟩) := by obtain ⟨q, rfl⟩ := hwc.out; exact hidden HXw5.out
              clear hwc yp yq x0 x1 x2 HSw5 HXw5
              cases tb with
              | true =>
                have hrx := HRX.out
                rw [if_pos (of_decide_eq_true HTB.out)] at hrx
                have HRv := hidden hrx
                obtain ⟨x0, x1, x2⟩ := HXm.out.cells
                simp only at x0 x1 x2
                have yp := own_dg HSm.out.own (j := q) hq
                have yq := own_dg HSm.out.own (j := p) hp
                have fq := HSm.out.own.frozenAt p
                rw [HVA.out] at yp
                clear hrx
                go_wp2_with fail
                go_region
                have HSw7 := hidden (HSm.out.store p (va + c))
                obtain ⟨d2, hdn⟩ : ∃ z, d1.set p (va + c) = z := ⟨_, rfl⟩
                rw [hdn] at HSw7 HRv
                clear hdn
                have HJ : Hid (RInv L m root D d0 d2 (j + 1) (1000000000 * (r : Int) + 2000000 * ((j + 1 : Nat) : Int))) := by
                  have := rinv_step HF.out HD.out hr (by omega) HR.out (by omega) HM.out hp hq
                  rw [HRu.out, HRv.out] at this
                  rw [show (1000000000 * (r : Int) + 2000000 * ((j + 1 : Nat) : Int)) = 1000000000 * (r : Int) + 2000000 * (j : Int) + 2000000 by omega]
                  exact this
                go_wp2_with fail
                go_roundg (n - (j + 1))
                case measure => omega
                case rel => exact ⟨j + 1, d2, by omega, by go_num, HSw7, HJ⟩
              | false =>
                have hrx := HRX.out
                rw [if_neg (of_decide_eq_false HTB.out)] at hrx
                have HRv := hidden hrx
                clear hrx
                have HSw7 := HSm
                obtain ⟨d2, hdn⟩ : ∃ z, d1 = z := ⟨_, rfl⟩
                have HRv : Hid (rx d1 q p c = d2) := HRv.out.trans hdn
                rw [hdn] at HSw7
                clear hdn
                have HJ : Hid (RInv L m root D d0 d2 (j + 1) (1000000000 * (r : Int) + 2000000 * ((j + 1 : Nat) : Int))) := by
                  have := rinv_step HF.out HD.out hr (by omega) HR.out (by omega) HM.out hp hq
                  rw [HRu.out, HRv.out] at this
                  rw [show (1000000000 * (r : Int) + 2000000 * ((j + 1 : Nat) : Int)) = 1000000000 * (r : Int) + 2000000 * (j : Int) + 2000000 by omega]
                  exact this
                go_wp2_with fail
                go_roundg (n - (j + 1))
                case measure => omega
                case rel => exact ⟨j + 1, d2, by omega, by go_num, HSw7, HJ⟩
            · have hjz : ¬ (j : Int) < (n : Int) := by omega
              obtain rfl : n = j := by omega
              have hrr := HR.out
              rw [← hl] at hrr
              have HC1 := hidden (round_more HD.out hr HB0.out.rt hrr HC0.out hrm)
              have HB1 : Hid (BInv L m root d (1000000000 * ((r + 1 : Nat) : Int))) := ⟨HR.out.inv.len, HR.out.inv.rt, HR.out.inv.ach, fun x hx => by have := HR.out.inv.bd x hx; omega⟩
              clear hrr
              go_wp2_with fail
              go_roundg (m - (r + 1))
              case measure => omega
              case rel => exact ⟨r + 1, d, by omega, by go_num, HS, HB1, HC1⟩
        · have hrmz : ¬ (r : Int) < (m : Int) := by omega
          obtain rfl : m = r := by omega
          have HE := hidden (all_near HD.out HB0.out HC0.out)
          go_wp2_with fail
          go_ret
          exact ⟨gd, cd, rfl, d0, HS.out, HE.out, fun x => by
            by_cases q : x < m
            · have := HB0.out.bd x q; omega
            · rw [dg_out (by rw [HB0.out.len]; omega)]; omega⟩
end Go.Proofs.YtafokjafbdgagafDoor.RTree
