/-
  What the law NodePlans returns: true. Its condition: package errors' variable errorType is as it was laid.
-/
import Derived.Test.YtijfocggdjjnjaiGreatDoorNPlans0
import Derived.Deep.CutBlock
namespace Go.Proofs.YtijfocggdjjnjaiGreatDoor.ND
open Go.ChangeShapes Go.WideShapes Go.ChangeAt Go.RowKit Go.Maps Go.Proofs.YtijfocggdjjnjaiGreatDoor.Mem Go.Proofs.YtijfocggdjjnjaiGreatDoor.NO
set_option linter.unusedVariables false

/-- no bad kid among the first i -/
def Fine1 (id pa : Int) (K : List Int) (i : Nat) : Prop := ∀ j, j < i → badk id pa (K.getD j 0) = false
/-- no kid twice among the first i -/
def Fine2 (K : List Int) (i : Nat) : Prop := ∀ j, j < i → K.getD j 0 ∉ K.take j
def Fine3 (K : List Int) (i j : Nat) : Prop := ∀ k, k < j → K.getD k 0 ≠ K.getD i 0
theorem fine1_all {id pa : Int} {K : List Int} (h : Fine1 id pa K K.length) : K.any (badk id pa) = false := by
  rw [← any_list, List.any_eq_false]
  intro j hj
  simp only [List.mem_range] at hj
  intro hc
  rw [h j hj] at hc
  cases hc
theorem bad1 {id pa : Int} {K : List Int} {i : Nat} (hi : i < K.length) (h : badk id pa (K.getD i 0) = true) : K.any (badk id pa) = true := by
  rw [← any_list, List.any_eq_true]
  exact ⟨i, by simpa using hi, h⟩
theorem fine2_all {K : List Int} (h : Fine2 K K.length) : twc K = false := by
  rw [← any_twice, List.any_eq_false]
  intro j hj
  simp only [List.mem_range] at hj
  simpa using h j hj
theorem getD_take {K : List Int} {i j : Nat} (hj : j < i) (hi : i < K.length) : K.getD j 0 ∈ K.take i := by
  rw [List.getD_eq_getElem?_getD, List.getElem?_eq_getElem (by omega), Option.getD_some, ← List.getElem_take (i := j) (j := i) (h := by simp; omega)]
  exact List.getElem_mem _
theorem bad2 {K : List Int} {i j : Nat} (hj : j < i) (hi : i < K.length) (h : K.getD j 0 = K.getD i 0) : twc K = true := by
  rw [← any_twice, List.any_eq_true]
  refine ⟨i, by simpa using hi, ?_⟩
  rw [← h]
  simpa using getD_take hj hi
theorem fine3_2 {K : List Int} {i : Nat} (hi : i < K.length) (h : Fine2 K i) (h3 : Fine3 K i i) : Fine2 K (i + 1) := by
  intro j hj hm
  rcases Nat.lt_or_ge j i with hlt | hge
  · exact h j hlt hm
  · obtain rfl : j = i := by omega
    obtain ⟨k, hk, e⟩ := List.getElem_of_mem hm
    rw [List.getElem_take] at e
    simp only [List.length_take] at hk
    refine h3 k (by omega) ?_
    rw [← e, List.getD_eq_getElem?_getD, List.getElem?_eq_getElem (by omega)]
    rfl
/-- what is told in the end, of what is known in a loop -/
def Is2 (id tk pa ep : Int) (K : List Int) (i e : Nat) : Prop := e = f2 id tk pa ep K ∧ e ≠ 0 ∨ e = 0 ∧ f1 id tk pa ep = 0 ∧ Fine1 id pa K i
def Is3 (id tk pa ep : Int) (K : List Int) (i e : Nat) : Prop := e = f3 id tk pa ep K ∧ e ≠ 0 ∨ e = 0 ∧ f2 id tk pa ep K = 0 ∧ Fine2 K i
theorem is2_start (id tk pa ep : Int) (K : List Int) : Is2 id tk pa ep K 0 (f1 id tk pa ep) := by
  by_cases h : f1 id tk pa ep = 0
  · exact .inr ⟨h, h, fun j hj => absurd hj (by omega)⟩
  · have : f1 id tk pa ep = 1 := by unfold f1 at h ⊢; split at h <;> simp_all
    refine .inl ⟨?_, h⟩
    unfold f2
    rw [if_neg h, this]
theorem is2_end {id tk pa ep : Int} {K : List Int} {e : Nat} (h : Is2 id tk pa ep K K.length e) : e = f2 id tk pa ep K := by
  rcases h with h | ⟨rfl, h1, h2⟩
  · exact h.1
  · unfold f2
    rw [if_pos h1, fine1_all h2]
    rfl
theorem is2_stop {id tk pa ep : Int} {K : List Int} {i e : Nat} (h : Is2 id tk pa ep K i e) (he : e ≠ 0) : e = f2 id tk pa ep K := by
  rcases h with h | ⟨rfl, _, _⟩
  · exact h.1
  · exact absurd rfl he
theorem is3_start (id tk pa ep : Int) (K : List Int) : Is3 id tk pa ep K 0 (f2 id tk pa ep K) := by
  by_cases h : f2 id tk pa ep K = 0
  · exact .inr ⟨h, h, fun j hj => absurd hj (by omega)⟩
  · have : f2 id tk pa ep K = 1 := by
      have key : f2 id tk pa ep K = 0 ∨ f2 id tk pa ep K = 1 := by
        unfold f2
        split
        · split <;> simp
        · simp
      omega
    refine .inl ⟨?_, h⟩
    unfold f3
    rw [if_neg h, this]
theorem is3_end {id tk pa ep : Int} {K : List Int} {e : Nat} (h : Is3 id tk pa ep K K.length e) : e = f3 id tk pa ep K := by
  rcases h with h | ⟨rfl, h1, h2⟩
  · exact h.1
  · unfold f3
    rw [if_pos h1, fine2_all h2]
    rfl
theorem is3_stop {id tk pa ep : Int} {K : List Int} {i e : Nat} (h : Is3 id tk pa ep K i e) (he : e ≠ 0) : e = f3 id tk pa ep K := by
  rcases h with h | ⟨rfl, _, _⟩
  · exact h.1
  · exact absurd rfl he
theorem is3_bad {id tk pa ep : Int} {K : List Int} {i : Nat} (h : f2 id tk pa ep K = 0) (ht : twc K = true) : 7 = f3 id tk pa ep K := by
  unfold f3
  rw [if_pos h, if_pos ht]
theorem is2_bad {id tk pa ep : Int} {K : List Int} (h : f1 id tk pa ep = 0) (ht : K.any (badk id pa) = true) : 1 = f2 id tk pa ep K := by
  unfold f2
  rw [if_pos h, if_pos ht]
theorem f3_zero {id tk pa ep : Int} {K : List Int} (h : f3 id tk pa ep K = 0) : f2 id tk pa ep K = 0 ∧ twc K = false := by
  unfold f3 at h
  split at h
  · rename_i h2
    split at h
    · omega
    · rename_i ht; exact ⟨h2, by simpa using ht⟩
  · omega

theorem pF_next {N N' : Nd} {tk pa ep nx : Int} {K : List Int} (hid : N'.id = N.id) (h : pF N tk pa K ep = 0) (h0 : 0 ≤ nx) (h1 : nx ≤ 65535) : pF N' tk pa K nx = if old (N'.at tk) nx then 6 else 0 := by
  unfold pF at h ⊢
  rw [hid]
  split at h
  · omega
  rename_i c1
  rw [if_neg c1]
  split at h
  · omega
  rename_i c2
  rw [if_neg c2]
  split at h
  · omega
  rw [if_neg (by omega)]
  split at h
  · omega
  rename_i c4
  rw [if_neg c4]
  split at h
  · omega
  rename_i c5
  rw [if_neg c5]
theorem plan_lt (N : Nd) (tk pa ep : Int) (K : List Int) : (N.plan tk pa K ep).lt = N.lt := by
  unfold Nd.plan
  split
  · split <;> rfl
  · rfl
/-- a node that was planned once, with one subscriber -/
def nd1 (id tk pa : Int) (K : List Int) (ep : Int) : Nd := ((nd0 id).plan tk pa K ep).subs tk 1
theorem nd1_at (id tk pa : Int) (K : List Int) (ep : Int) : (nd1 id tk pa K ep).at tk = some ((tr0 tk ep).to pa K) := by
  show updR (fun _ => none) (tk - 1).toNat ((tr0 tk ep).to pa K) (tk - 1).toNat = _
  simp [updR]
theorem nd1_pF {id tk pa ep nx : Int} {K : List Int} (h : pF (nd0 id) tk pa K ep = 0) (h0 : 0 ≤ nx) (h1 : nx ≤ 65535) : pF (nd1 id tk pa K ep) tk pa K nx = if nx < ep then 6 else 0 := by
  rw [pF_next (N := nd0 id) (N' := nd1 id tk pa K ep) rfl h h0 h1, nd1_at]
  show (if decide (nx < ep) = true then 6 else 0) = _
  by_cases c : nx < ep <;> simp [c]
theorem nd1_sinv (id tk pa : Int) (K : List Int) (ep : Int) : SInv (nd1 id tk pa K ep).sb (nd1 id tk pa K ep).ls := by
  have e : (nd1 id tk pa K ep).sb = [(1, s0 tk 1)] := rfl
  have e2 : (nd1 id tk pa K ep).ls = 1 := rfl
  rw [e, e2]
  exact ⟨by simp [ids], by intro x hx; simp at hx; subst hx; simp [s0], by simp, by omega, by omega⟩
theorem nd1_sF {id tk pa ep : Int} {K : List Int} (h : pF (nd0 id) tk pa K ep = 0) : sF ((nd0 id).plan tk pa K ep) tk 1 = 0 := by
  obtain ⟨z1, z2, _⟩ := pF_zero h
  have hT : okT tk = true := by simp [okT]; omega
  have e : ((nd0 id).plan tk pa K ep).at tk = some ((tr0 tk ep).to pa K) := by
    show updR (fun _ => none) (tk - 1).toNat ((tr0 tk ep).to pa K) (tk - 1).toNat = _
    simp [updR]
  have e2 : ((nd0 id).plan tk pa K ep).sb = [] := rfl
  unfold sF
  rw [e, e2, if_neg (by simp [hT])]
  simp

set_option maxHeartbeats 8000000 in
set_option maxRecDepth 100000 in
theorem nplans_walk (id tk pa : Int) (a : Option Addr) (m cap : Nat) (K : List Int) (ep nx : Int) (w : World) (hg : w.cell? ⟨0, 0, none⟩ = some (.iface 208 (.agg #[.pointer (some ⟨1, 25, none⟩)]))) (hK : Gaps.IArg w a m K) (hno : a = none → m = 0 ∧ cap = 0) :
    Calls Tryz.prog 3 #[.int .i64 id, .int .i64 tk, .int .i64 pa, .slice a m cap, .int .i64 ep, .int .i64 nx] w fun e w' => e = .returned (.bool true) ∧ Below w.heap.size w w' := by
  have HG := hidden hg
  have HK := hidden hK
  have HNo := hidden hno
  have hl := hK.2.1
  have hmx := hK.2.2
  have HL := hidden hl
  clear hg hK hno hl
  have C1 := hidden (new_ok 3 (fun _ => nobody) 1 w rfl)
  go_enter Tryz.func3, Tryz.ntmps3
  go_wp2_with fail
  refine C1.out.mono ?_
  intro e w1 hm
  obtain ⟨b1, rfl, h1⟩ := One.of_made (Below.refl w.heap.size w) hm
  have H1 := hidden h1
  clear hm h1 C1
  have C2 := hidden (H1.out.sendNone 2 0 0 0 0 0 false (.slice none 0 0) (by decide) (by decide) rfl)
  go_wp2_with fail
  refine C2.out.mono ?_
  rintro e w2 ⟨rfl, h2⟩
  have H2 := hidden h2
  clear h2 C2
  have C3 := H2.out.plan 2 5 1 none 0 0 [] (Gaps.IArg.nil _ _) (fun _ => ⟨rfl, rfl⟩) sinv_nil (by intro x hx; simp [nd0] at hx)
  rw [show pF (nd0 3) 2 5 [] 1 = 0 from by decide, errv_zero] at C3
  have C3 := hidden C3
  go_wp2_with fail
  refine C3.out.mono ?_
  rintro e w3 ⟨rfl, h3⟩
  have H3 := hidden (h3.1 rfl)
  clear h3 C3
  have C4 := hidden (H3.out.sendState 2 0 0 0 0 0 false (.slice none 0 0) (by decide) (by decide) (t' := (tr0 2 1).to 5 []) rfl (by decide))
  go_wp2_with fail
  refine C4.out.mono ?_
  rintro e w4 ⟨rfl, h4⟩
  have H4 := hidden h4
  clear h4 C4
  have C5 := hidden (told_f 5 w4 (by omega) (ext_cell H4.out.bel HG.out))
  go_wp2_with fail
  refine C5.out.mono ?_
  rintro e w5 ⟨rfl, h5⟩
  have H5 := hidden (H4.out.bel.trans (h5.mono H4.out.bel.size))
  clear h5 C5
  have C6 := hidden (told_f 6 w5 (by omega) (ext_cell H5.out HG.out))
  go_wp2_with fail
  refine C6.out.mono ?_
  rintro e w6 ⟨rfl, h6⟩
  have H6 := hidden (H5.out.trans (h6.mono H5.out.size))
  clear h6 C6
  cases hid : okN id with
  | false =>
    have C7 := hidden (new_err id w6 hid)
    have HI := hidden hid
    clear hid
    go_wp2_with fail
    refine C7.out.mono ?_
    rintro e w7 ⟨rfl, rfl⟩
    have q1 := cmp_ne 1
    have q2 := grd_ne 1
    by_cases g0 : id < 0
    · have e0 : decide (id < 0) = true := by simpa using g0
      clear g0
      go_wp2_with fail
      go_ret
      exact ⟨rfl, H6.out⟩
    · have g1 : 15 < id := by have := HI.out; simp [okN] at this; omega
      have e0 : decide (id < 0) = false := by simpa using g0
      have e1 : decide (15 < id) = true := by simpa using g1
      clear g0 g1
      go_wp2_with fail
      go_ret
      exact ⟨rfl, H6.out⟩
  | true =>
    have C7 := hidden (new_ok id (fun _ => nobody) 1 w6 hid)
    have HPF := hidden (fun K => f3_pF (tk := tk) (pa := pa) (ep := ep) (K := K) hid)
    have hid' : 0 ≤ id ∧ id ≤ 15 := by simpa [okN] using hid
    obtain ⟨hi0, hi1⟩ := hid'
    clear hid
    go_wp2_with fail
    refine C7.out.mono ?_
    intro e w7 hm
    obtain ⟨b, rfl, h7⟩ := One.of_made H6.out hm
    have H7 := hidden h7
    clear hm h7 C7 H1 H2 H3 H4 H5 H6
    go_upto_region 15 with fail
    obtain ⟨qb, hqb⟩ : ∃ q, decide (tk < 1 ∨ 8 < tk ∨ pa < -1 ∨ 15 < pa ∨ pa = id ∨ ep < 0 ∨ 65535 < ep) = q := ⟨_, rfl⟩
    have HQ := hidden hqb
    clear hqb
    go_cut [98] from 72 to 98 (fun s wx => s = .bool qb ∧ w7 = wx)
    case first =>
      by_cases g0 : tk < 1
      · have e0 : decide (tk < 1) = true := by simpa using g0
        have hh : qb = true := by rw [← HQ.out]; simp only [decide_eq_true_eq]; omega
        clear g0
        subst hh
        go_wp2_with fail
        go_meet
        exact ⟨rfl, rfl⟩
      have e0 : decide (tk < 1) = false := by simpa using g0
      by_cases g1 : 8 < tk
      · have e1 : decide (8 < tk) = true := by simpa using g1
        have hh : qb = true := by rw [← HQ.out]; simp only [decide_eq_true_eq]; omega
        clear g0 g1
        subst hh
        go_wp2_with fail
        go_meet
        exact ⟨rfl, rfl⟩
      have e1 : decide (8 < tk) = false := by simpa using g1
      by_cases g2 : pa < -1
      · have e2 : decide (pa < -1) = true := by simpa using g2
        have hh : qb = true := by rw [← HQ.out]; simp only [decide_eq_true_eq]; omega
        clear g0 g1 g2
        subst hh
        go_wp2_with fail
        go_meet
        exact ⟨rfl, rfl⟩
      have e2 : decide (pa < -1) = false := by simpa using g2
      by_cases g3 : 15 < pa
      · have e3 : decide (15 < pa) = true := by simpa using g3
        have hh : qb = true := by rw [← HQ.out]; simp only [decide_eq_true_eq]; omega
        clear g0 g1 g2 g3
        subst hh
        go_wp2_with fail
        go_meet
        exact ⟨rfl, rfl⟩
      have e3 : decide (15 < pa) = false := by simpa using g3
      by_cases g4 : pa = id
      · have e4 : (pa == id) = true := by simpa using g4
        have hh : qb = true := by rw [← HQ.out]; simp only [decide_eq_true_eq]; omega
        clear g0 g1 g2 g3 g4
        subst hh
        go_wp2_with fail
        go_meet
        exact ⟨rfl, rfl⟩
      have e4 : (pa == id) = false := by simpa using g4
      by_cases g5 : ep < 0
      · have e5 : decide (ep < 0) = true := by simpa using g5
        have hh : qb = true := by rw [← HQ.out]; simp only [decide_eq_true_eq]; omega
        clear g0 g1 g2 g3 g4 g5
        subst hh
        go_wp2_with fail
        go_meet
        exact ⟨rfl, rfl⟩
      have e5 : decide (ep < 0) = false := by simpa using g5
      by_cases g6 : 65535 < ep
      · have e6 : decide (65535 < ep) = true := by simpa using g6
        have hh : qb = true := by rw [← HQ.out]; simp only [decide_eq_true_eq]; omega
        clear g0 g1 g2 g3 g4 g5 g6
        subst hh
        go_wp2_with fail
        go_meet
        exact ⟨rfl, rfl⟩
      have e6 : decide (65535 < ep) = false := by simpa using g6
      have hh : qb = false := by rw [← HQ.out]; simp only [decide_eq_false_iff_not]; omega
      clear g0 g1 g2 g3 g4 g5 g6
      subst hh
      go_wp2_with fail
      go_meet
      exact ⟨rfl, rfl⟩
    case rest =>
    obtain ⟨rfl, rfl⟩ := hcut
    go_upto_if 98 with fail
    go_cut [22] from 22 to 22 (fun s wx => s = .int .i64 (f1 id tk pa ep : Nat) ∧ w7 = wx)
    case first =>
      cases qb with
      | true =>
        have hh : f1 id tk pa ep = 1 := by unfold f1; rw [if_pos (of_decide_eq_true HQ.out)]
        have HH := hidden hh
        clear hh
        go_wp2_with fail
        go_meet
        exact ⟨by rw [HH.out]; rfl, rfl⟩
      | false =>
        have hh : f1 id tk pa ep = 0 := by unfold f1; rw [if_neg (of_decide_eq_false HQ.out)]
        have HH := hidden hh
        clear hh
        go_wp2_with fail
        go_meet
        exact ⟨by rw [HH.out]; rfl, rfl⟩
    case rest =>
    obtain ⟨rfl, rfl⟩ := hcut
    go_upto_block 0 with fail
    go_cut [22, 23, 24] from 99 to 128 (fun s _ _ wx => s = .int .i64 (f2 id tk pa ep K : Nat) ∧ w7 = wx)
    case first =>
      go_wp2_with fail
      go_loopg [22, 23] m (fun g s y wr => ∃ (i e : Nat), i + g = m ∧ s = .int .i64 (e : Nat) ∧ y = .int .i64 (i : Int) ∧ Hid (Is2 id tk pa ep K i e) ∧ w7 = wr)
      case atStart => exact ⟨0, _, by omega, rfl, rfl, hidden (is2_start _ _ _ _ _), rfl⟩
      case round =>
        obtain ⟨i, e, hig, rfl, rfl, HS, rfl⟩ := hrel
        by_cases hi : i < m
        · have hiz : (i : Int) < (m : Int) := by omega
          by_cases he : e = 0
          · subst he
            obtain ⟨ba, oa, rfl, hcs⟩ := (H7.out.arg HK.out).at (by omega)
            have c0 := hcs i hi
            obtain ⟨x, hx⟩ : ∃ x, K.getD i 0 = x := ⟨_, rfl⟩
            obtain ⟨kb, hkb⟩ : ∃ kb, badk id pa x = kb := ⟨_, rfl⟩
            rw [hx] at c0
            have HX := hidden hx
            have HKB := hidden hkb
            clear hcs hx hkb
            go_upto_region 21 with fail
            go_cut [128] from 113 to 128 (fun s wx => s = .bool kb ∧ w7 = wx)
            case first =>
              by_cases g0 : x < 0
              · have e0 : decide (x < 0) = true := by simpa using g0
                have hh : kb = true := by rw [← HKB.out]; unfold badk oth okN; simp; omega
                clear g0
                subst hh
                go_wp2_with fail
                go_meet
                exact ⟨rfl, rfl⟩
              have e0 : decide (x < 0) = false := by simpa using g0
              by_cases g1 : 15 < x
              · have e1 : decide (15 < x) = true := by simpa using g1
                have hh : kb = true := by rw [← HKB.out]; unfold badk oth okN; simp; omega
                clear g0 g1
                subst hh
                go_wp2_with fail
                go_meet
                exact ⟨rfl, rfl⟩
              have e1 : decide (15 < x) = false := by simpa using g1
              by_cases g2 : x = id
              · have e2 : (x == id) = true := by simpa using g2
                have hh : kb = true := by rw [← HKB.out]; unfold badk oth okN; simp; omega
                clear g0 g1 g2
                subst hh
                go_wp2_with fail
                go_meet
                exact ⟨rfl, rfl⟩
              have e2 : (x == id) = false := by simpa using g2
              by_cases g3 : x = pa
              · have e3 : (x == pa) = true := by simpa using g3
                have hh : kb = true := by rw [← HKB.out]; unfold badk oth okN; simp; omega
                clear g0 g1 g2 g3
                subst hh
                go_wp2_with fail
                go_meet
                exact ⟨rfl, rfl⟩
              have e3 : (x == pa) = false := by simpa using g3
              have hh : kb = false := by rw [← HKB.out]; unfold badk oth okN; simp; omega
              clear g0 g1 g2 g3
              subst hh
              go_wp2_with fail
              go_meet
              exact ⟨rfl, rfl⟩
            case rest =>
            obtain ⟨rfl, rfl⟩ := hcut
            have hS : f1 id tk pa ep = 0 ∧ Fine1 id pa K i := by
              rcases HS.out with h | ⟨_, h1, h2⟩
              · exact absurd rfl h.2
              · exact ⟨h1, h2⟩
            have HSS := hidden hS
            clear hS
            cases kb with
            | true =>
              go_wp2_with fail
              go_roundg (m - (i + 1))
              case measure => omega
              case rel =>
                refine ⟨i + 1, 1, by omega, rfl, by go_num, hidden (.inl ⟨is2_bad HSS.out.1 (bad1 (by rw [HL.out]; exact hi) (by rw [HX.out]; exact HKB.out)), by omega⟩), rfl⟩
            | false =>
              go_wp2_with fail
              go_roundg (m - (i + 1))
              case measure => omega
              case rel =>
                refine ⟨i + 1, 0, by omega, rfl, by go_num, hidden (.inr ⟨rfl, HSS.out.1, fun j hj => ?_⟩), rfl⟩
                rcases Nat.lt_or_ge j i with h | h
                · exact HSS.out.2 j h
                · obtain rfl : j = i := by omega
                  rw [HX.out]
                  exact HKB.out
          · have hez : ((e : Int) == 0) = false := by simpa using he
            have HE := hidden he
            clear he
            go_wp2_with fail
            go_meet
            exact ⟨by rw [is2_stop HS.out HE.out], rfl⟩
        · have hiz : ¬ (i : Int) < (m : Int) := by omega
          obtain rfl : m = i := by omega
          go_wp2_with fail
          go_meet
          refine ⟨?_, rfl⟩
          have := HS.out
          rw [← HL.out] at this
          rw [is2_end this]
    case rest =>
    obtain ⟨rfl, rfl⟩ := hcut
    go_upto_block 2 with fail
    go_cut [22, 25, 26] from 129 to 156 (fun s _ _ wx => s = .int .i64 (f3 id tk pa ep K : Nat) ∧ Hid (∃ q, wx = w7.drewN q))
    case first =>
      go_wp2_with fail
      go_loopg [22, 25] m (fun g s y wr => ∃ (i e : Nat), i + g = m ∧ s = .int .i64 (e : Nat) ∧ y = .int .i64 (i : Int) ∧ Hid (Is3 id tk pa ep K i e) ∧ Hid (∃ q, wr = w7.drewN q))
      case atStart => exact ⟨0, _, by omega, rfl, rfl, hidden (is3_start _ _ _ _ _), hidden ⟨0, rfl⟩⟩
      case round =>
        obtain ⟨i, e, hig, rfl, rfl, HS, HW⟩ := hrel
        by_cases hi : i < m
        · have hiz : (i : Int) < (m : Int) := by omega
          by_cases he : e = 0
          · subst he
            have hS : f2 id tk pa ep K = 0 ∧ Fine2 K i := by
              rcases HS.out with h | ⟨_, h1, h2⟩
              · exact absurd rfl h.2
              · exact ⟨h1, h2⟩
            have HSS := hidden hS
            clear hS
            go_upto_block 3 with fail
            go_cut [22, 26] from 139 to 156 (fun s _ wx => ∃ e : Nat, s = .int .i64 (e : Nat) ∧ Hid (Is3 id tk pa ep K (i + 1) e) ∧ Hid (∃ q, wx = w7.drewN q))
            case first =>
              obtain ⟨wo, hwo⟩ : ∃ x, x = wr := ⟨_, rfl⟩
              have HWO := hidden hwo
              clear hwo
              go_wp2_with fail
              go_loopg [22, 26] i (fun g s y wr => ∃ (j e : Nat), j + g = i ∧ s = .int .i64 (e : Nat) ∧ y = .int .i64 (j : Int) ∧ Hid (e = f3 id tk pa ep K ∧ e ≠ 0 ∨ e = 0 ∧ Fine3 K i j) ∧ Hid (∃ q, wr = w7.drewN q))
              case atStart => exact ⟨0, 0, by omega, rfl, rfl, hidden (.inr ⟨rfl, fun k hk => absurd hk (by omega)⟩), HW⟩
              case round =>
                obtain ⟨j, e, hjg, rfl, rfl, HJ, HW2⟩ := hrel
                by_cases hj : j < i
                · have hjz : (j : Int) < (i : Int) := by omega
                  by_cases he : e = 0
                  · subst he
                    have hF3 : Fine3 K i j := by
                      rcases HJ.out with h | ⟨_, h2⟩
                      · exact absurd rfl h.2
                      · exact h2
                    have HF3 := hidden hF3
                    clear hF3
                    obtain ⟨ba, oa, rfl, hcs⟩ := (H7.out.arg HK.out).at (by omega)
                    have c0 : wr.cell? ⟨ba, oa + i, none⟩ = some (.int .i64 (K.getD i 0)) := by obtain ⟨q, hq⟩ := HW2.out; rw [hq]; exact hcs i hi
                    have c1 : wr.cell? ⟨ba, oa + j, none⟩ = some (.int .i64 (K.getD j 0)) := by obtain ⟨q, hq⟩ := HW2.out; rw [hq]; exact hcs j (by omega)
                    obtain ⟨x, hx⟩ : ∃ x, K.getD i 0 = x := ⟨_, rfl⟩
                    obtain ⟨y, hy⟩ : ∃ y, K.getD j 0 = y := ⟨_, rfl⟩
                    rw [hx] at c0
                    rw [hy] at c1
                    have HX := hidden hx
                    have HY := hidden hy
                    have hjm : (j : Int) < (m : Int) := by omega
                    clear hcs hx hy
                    by_cases hxy : y = x
                    · have e1 : (y == x) = true := by simpa using hxy
                      have HXY := hidden hxy
                      clear hxy
                      go_wp2_with fail
                      go_quiet (fail)
                      go_wp2_with fail
                      go_roundg (i - (j + 1))
                      case measure => omega
                      case rel =>
                        refine ⟨j + 1, 7, by omega, rfl, by go_num, hidden (.inl ⟨is3_bad (i := i) HSS.out.1 (bad2 hj (by rw [HL.out]; exact hi) (by rw [HX.out, HY.out]; exact HXY.out)), by omega⟩), hidden ?_⟩
                        obtain ⟨q, hq⟩ := HW2.out
                        rw [hq]
                        simp only [World.drewN_drewN]
                        exact ⟨_, rfl⟩
                    · have e1 : (y == x) = false := by simpa using hxy
                      have HXY := hidden hxy
                      clear hxy
                      go_wp2_with fail
                      go_quiet (fail)
                      go_wp2_with fail
                      go_roundg (i - (j + 1))
                      case measure => omega
                      case rel =>
                        refine ⟨j + 1, 0, by omega, rfl, by go_num, hidden (.inr ⟨rfl, fun k hk => ?_⟩), hidden ?_⟩
                        · rcases Nat.lt_or_ge k j with h | h
                          · exact HF3.out k h
                          · obtain rfl : k = j := by omega
                            rw [HX.out, HY.out]
                            exact HXY.out
                        · obtain ⟨q, hq⟩ := HW2.out
                          rw [hq]
                          simp only [World.drewN_drewN]
                          exact ⟨_, rfl⟩
                  · have hez : ((e : Int) == 0) = false := by simpa using he
                    have HE := hidden he
                    clear he
                    go_wp2_with fail
                    go_meet
                    refine ⟨e, rfl, hidden ?_, HW2⟩
                    rcases HJ.out with h | h
                    · exact .inl h
                    · exact absurd h.1 HE.out
                · have hjz : ¬ (j : Int) < (i : Int) := by omega
                  obtain rfl : i = j := by omega
                  go_wp2_with fail
                  go_meet
                  refine ⟨e, rfl, hidden ?_, HW2⟩
                  rcases HJ.out with h | h
                  · exact .inl h
                  · exact .inr ⟨h.1, HSS.out.1, fine3_2 (by rw [HL.out]; exact hi) HSS.out.2 h.2⟩
            case rest =>
            obtain ⟨e, rfl, HE3, HW3⟩ := hcut
            go_wp2_with fail
            go_roundg (m - (i + 1))
            case measure => omega
            case rel => exact ⟨i + 1, e, by omega, rfl, by go_num, HE3, HW3⟩
          · have hez : ((e : Int) == 0) = false := by simpa using he
            have HE := hidden he
            clear he
            go_wp2_with fail
            go_meet
            exact ⟨by rw [is3_stop HS.out HE.out], HW⟩
        · have hiz : ¬ (i : Int) < (m : Int) := by omega
          obtain rfl : m = i := by omega
          go_wp2_with fail
          go_meet
          refine ⟨?_, HW⟩
          have := HS.out
          rw [← HL.out] at this
          rw [is3_end this]
    case rest =>
    obtain ⟨rfl, HWc⟩ := hcut
    have H8 : Hid (One w wc b (nd0 id)) := by
      obtain ⟨q, hq⟩ := HWc.out
      rw [hq]
      exact hidden (H7.out.below (below_drewN' (Below.refl _ _)))
    have C8 := H8.out.plan tk pa ep a m cap K HK.out HNo.out sinv_nil (by intro x hx; simp [nd0] at hx)
    obtain ⟨f, hf⟩ : ∃ f, f3 id tk pa ep K = f := ⟨_, rfl⟩
    have hpf := HPF.out K
    rw [hf] at hpf
    rw [hpf] at C8
    have hf7 : f ≤ 7 := by rw [← hf]; exact f3_le _ _ _ _ _
    have HP := hidden hpf
    have C8 := hidden C8
    rw [hf]
    clear hf hpf HWc H7 HPF
    go_wp2_with fail
    refine C8.out.mono ?_
    rintro e w8 ⟨rfl, h8⟩
    have hb8 : Below w.heap.size w w8 := by
      by_cases c : f = 0
      · exact (h8.1 c).bel
      · exact (h8.2 c).bel
    have H9 := hidden h8
    have C9 := hidden (told_f f w8 (by omega) (ext_cell hb8 HG.out))
    have HB8 := hidden hb8
    clear h8 hb8 C8 H8
    go_wp2_with fail
    refine C9.out.mono ?_
    rintro e w9 ⟨rfl, hb9⟩
    have HB9 := hidden hb9
    clear hb9 C9
    by_cases h0 : f = 0
    · have HP0 := hidden (HP.out.trans h0)
      have H10 := hidden ((H9.out.1 h0).below HB9.out)
      have z0 : ((f : Int) != 0) = false := by simp [h0]
      clear h0 H9 HB8 HB9 HP
      by_cases n0 : nx < 0
      · have e0 : decide (nx < 0) = true := by simpa using n0
        clear n0
        go_wp2_with fail
        go_ret
        exact ⟨rfl, H10.out.bel⟩
      have e0 : decide (nx < 0) = false := by simpa using n0
      by_cases n1 : 65535 < nx
      · have e1 : decide (65535 < nx) = true := by simpa using n1
        clear n1 n0
        go_wp2_with fail
        go_ret
        exact ⟨rfl, H10.out.bel⟩
      have e1 : decide (65535 < nx) = false := by simpa using n1
      have HPN := hidden (nd1_pF (nx := nx) HP0.out (by omega) (by omega))
      obtain ⟨g, hg⟩ : ∃ g : Nat, (if nx < ep then 6 else 0) = g := ⟨_, rfl⟩
      have hg7 : g ≤ 7 := by rw [← hg]; split <;> omega
      have HGG := hidden hg
      rw [hg] at HPN
      clear n0 n1 hg
      go_upto_region 37 with fail
      obtain ⟨lb, hlb⟩ : ∃ lb, decide (nx < ep) = lb := ⟨_, rfl⟩
      have HLB := hidden hlb
      go_upto_if 180 with fail
      clear hlb
      go_cut [28] from 28 to 28 (fun s wx => s = .int .i64 (g : Nat) ∧ w9 = wx)
      case first =>
        cases lb with
        | true =>
          have hh := HGG.out
          rw [if_pos (of_decide_eq_true HLB.out)] at hh
          have HH := hidden hh
          clear hh
          go_wp2_with fail
          go_meet
          exact ⟨by rw [← HH.out]; rfl, rfl⟩
        | false =>
          have hh := HGG.out
          rw [if_neg (of_decide_eq_false HLB.out)] at hh
          have HH := hidden hh
          clear hh
          go_wp2_with fail
          go_meet
          exact ⟨by rw [← HH.out]; rfl, rfl⟩
      case rest =>
      obtain ⟨rfl, rfl⟩ := hcut
      have C11 := hidden (H10.out.sub tk 1 sinv_nil (by show (0 : Int) < 1000000; omega) (nd1_sF HP0.out))
      go_wp2_with fail
      refine C11.out.mono ?_
      rintro e w11 ⟨rfl, h11⟩
      have H11 := hidden (show One w w11 b (nd1 id tk pa K ep) from h11)
      clear h11 C11
      have C12 := H11.out.plan tk pa nx a m cap K HK.out HNo.out (nd1_sinv _ _ _ _ _) (by intro x hx; rw [show (nd1 id tk pa K ep).sb = [(1, s0 tk 1)] from rfl] at hx; simp at hx; rw [hx]; rfl)
      rw [HPN.out] at C12
      have C12 := hidden C12
      go_wp2_with fail
      refine C12.out.mono ?_
      rintro e w12 ⟨rfl, h12⟩
      have h12' : ∃ N3, One w w12 b N3 ∧ N3.lt = [] := by
        by_cases c : g = 0
        · exact ⟨_, h12.1 c, by rw [plan_lt]; rfl⟩
        · exact ⟨_, h12.2 c, rfl⟩
      obtain ⟨N3, hN3, hlt⟩ := h12'
      have H12 := hidden hN3
      have HLT := hidden hlt
      have C13 := hidden (told_f g w12 (by omega) (ext_cell hN3.bel HG.out))
      clear h12 hN3 hlt C12
      go_wp2_with fail
      refine C13.out.mono ?_
      rintro e w13 ⟨rfl, hb13⟩
      have C14 := hidden ((H12.out.below hb13).noLetters HLT.out)
      clear hb13 C13
      go_wp2_with fail
      refine C14.out.mono ?_
      rintro e w14 ⟨la, lc, rfl, hb14⟩
      have HB14 := hidden hb14
      clear hb14
      go_wp2_with fail
      go_ret
      exact ⟨rfl, HB14.out⟩
    · have z0 : ((f : Int) != 0) = true := by simpa using h0
      have HF := hidden ((H9.out.2 h0).below HB9.out)
      clear h0
      go_wp2_with fail
      go_ret
      exact ⟨rfl, HF.out.bel⟩
end Go.Proofs.YtijfocggdjjnjaiGreatDoor.ND

