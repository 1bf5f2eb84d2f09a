/-
  What Publish of package mesh returns, and what it leaves in memory. Its condition: the lofts are such as they may be.
-/
import Derived.Test.YtpiamlgmadnepaaGreatMeshR
namespace Go.Proofs.YtpiamlgmadnepaaGreat.MS
open Go.ChangeShapes Go.WideShapes Go.ChangeAt Go.RowKit Go.Maps Go.Proofs.YtpiamlgmadnepaaGreat.Mem Go.Proofs.YtpiamlgmadnepaaGreat.NO Go.Proofs.YtpiamlgmadnepaaGreat.ND
set_option linter.unusedVariables false

def Ms.planned (M : Ms) (k : Nat) (p d : List Int) (j : Nat) : Ms := { M with nd := fun i => if i < j ∧ 0 ≤ TM.dg d i then { M.nd i with tr := updR (M.nd i).tr k (trk k p M.n i) } else M.nd i }
def Ms.publish (M : Ms) (k r : Nat) (p d : List Int) : Ms := { M.planned k p d M.n with rt := updN M.rt k (r : Int) }
theorem planned_nd (M : Ms) (k : Nat) (p d : List Int) (j : Nat) : (M.planned k p d j).nd j = M.nd j := if_neg (fun h => Nat.lt_irrefl j h.1)
theorem planned_zero (M : Ms) (k : Nat) (p d : List Int) : M.planned k p d 0 = M := by
  have e : (fun i => if i < 0 ∧ 0 ≤ TM.dg d i then ({ M.nd i with tr := updR (M.nd i).tr k (trk k p M.n i) } : Nd) else M.nd i) = M.nd := by
    funext i
    rw [if_neg (fun h => by omega)]
  unfold Ms.planned
  rw [e]
theorem planned_skip (M : Ms) (k : Nat) (p d : List Int) {j : Nat} (h : ¬ 0 ≤ TM.dg d j) : M.planned k p d (j + 1) = M.planned k p d j := by
  have e : (fun i => if i < j + 1 ∧ 0 ≤ TM.dg d i then ({ M.nd i with tr := updR (M.nd i).tr k (trk k p M.n i) } : Nd) else M.nd i) = (fun i => if i < j ∧ 0 ≤ TM.dg d i then ({ M.nd i with tr := updR (M.nd i).tr k (trk k p M.n i) } : Nd) else M.nd i) := by
    funext i
    by_cases q : i = j
    · subst q
      rw [if_neg (fun x => h x.2), if_neg (fun x => h x.2)]
    · by_cases q2 : i < j ∧ 0 ≤ TM.dg d i
      · rw [if_pos q2, if_pos ⟨by omega, q2.2⟩]
      · rw [if_neg q2, if_neg (fun x => q2 ⟨by omega, x.2⟩)]
  unfold Ms.planned
  rw [e]
theorem planned_step (M : Ms) (k : Nat) (p d : List Int) {j : Nat} (h : 0 ≤ TM.dg d j) : (M.planned k p d j).plan k j p = M.planned k p d (j + 1) := by
  have e : updN (M.planned k p d j).nd j { M.nd j with tr := updR (M.nd j).tr k (trk k p M.n j) } = (fun i => if i < j + 1 ∧ 0 ≤ TM.dg d i then ({ M.nd i with tr := updR (M.nd i).tr k (trk k p M.n i) } : Nd) else M.nd i) := by
    funext i
    by_cases q : i = j
    · subst q
      rw [updN_at, if_pos ⟨by omega, h⟩]
    · rw [updN_ne _ _ q]
      show (if i < j ∧ 0 ≤ TM.dg d i then ({ M.nd i with tr := updR (M.nd i).tr k (trk k p M.n i) } : Nd) else M.nd i) = _
      by_cases q2 : i < j ∧ 0 ≤ TM.dg d i
      · rw [if_pos q2, if_pos ⟨by omega, q2.2⟩]
      · rw [if_neg q2, if_neg (fun x => q2 ⟨by omega, x.2⟩)]
  unfold Ms.plan
  rw [planned_nd]
  show ({ M with nd := updN (M.planned k p d j).nd j { M.nd j with tr := updR (M.nd j).tr k (trk k p M.n j) } } : Ms) = { M with nd := _ }
  rw [e]
theorem MOk.planned {M : Ms} (h : MOk M) {k r : Nat} {p d : List Int} (hT : Trees M.n r M.E p d) (j : Nat) : MOk (M.planned k p d j) := by
  refine ⟨h.n1, h.n16, h.nw, ?_⟩
  intro i hi
  obtain ⟨k1, k2, k3, k4⟩ := h.nd i hi
  show NdOk M.n (if i < j ∧ 0 ≤ TM.dg d i then ({ M.nd i with tr := updR (M.nd i).tr k (trk k p M.n i) } : Nd) else M.nd i) ∧ (if i < j ∧ 0 ≤ TM.dg d i then ({ M.nd i with tr := updR (M.nd i).tr k (trk k p M.n i) } : Nd) else M.nd i).lt = [] ∧ (if i < j ∧ 0 ≤ TM.dg d i then ({ M.nd i with tr := updR (M.nd i).tr k (trk k p M.n i) } : Nd) else M.nd i).nw ≤ M.nw ∧ (if i < j ∧ 0 ≤ TM.dg d i then ({ M.nd i with tr := updR (M.nd i).tr k (trk k p M.n i) } : Nd) else M.nd i).id = _
  split
  · exact ⟨k1.setT (hT.trOk hi k1.nw.1), k2, k3, k4⟩
  · exact ⟨k1, k2, k3, k4⟩
theorem MOk.publish {M : Ms} (h : MOk M) {k r : Nat} {p d : List Int} (hT : Trees M.n r M.E p d) : MOk (M.publish k r p d) := by
  have := h.planned (k := k) hT M.n
  exact ⟨this.n1, this.n16, this.nw, this.nd⟩
theorem publish_range (b : Nat) (o : Nat → Tg) (P : MP) (M : Ms) (tk at' : Int) (w : World) (h : MAt w o b P M) (hr : okT tk = false ∨ ¬ (0 ≤ at' ∧ at' < (M.n : Int))) :
    Calls Tryz.prog 8 #[.pointer (some ⟨b, 0, none⟩), .int .i64 tk, .int .i64 at'] w fun e w' => e = .returned (errv 1) ∧ w' = w := by
  have CT := hidden (isTrack_calls tk)
  have CI := hidden (isNode_calls b o P M at' w h)
  clear h
  cases hT : okT tk with
  | false =>
    rw [hT] at CT
    clear hr CI
    go_enter Tryz.func8, Tryz.ntmps8
    go_wp2_with fail
    refine (CT.out _).mono ?_
    rintro e w1 ⟨rfl, rfl⟩
    go_wp2_with fail
    go_ret
    exact ⟨rfl, rfl⟩
  | true =>
    rw [hT] at CT hr
    rw [decide_eq_false (hr.resolve_left (by simp))] at CI
    clear hr
    go_enter Tryz.func8, Tryz.ntmps8
    go_wp2_with fail
    refine (CT.out _).mono ?_
    rintro e w1 ⟨rfl, hw1⟩
    obtain rfl : w = w1 := hw1.symm
    go_wp2_with fail
    refine CI.out.mono ?_
    rintro e w1 ⟨rfl, hw1⟩
    obtain rfl : w = w1 := hw1.symm
    go_wp2_with fail
    go_ret
    exact ⟨rfl, rfl⟩
theorem publish_clash (b k r : Nat) (o : Nat → Tg) (P : MP) (M : Ms) (w : World) (h : MAt w o b P M) (hk : k < 8) (hr : r < M.n) (hrt : M.rt k ≠ -1) :
    Calls Tryz.prog 8 #[.pointer (some ⟨b, 0, none⟩), .int .i64 ((k : Int) + 1), .int .i64 (r : Int)] w fun e w' => e = .returned (errv 7) ∧ w' = w := by
  have CT := hidden (isTrack_calls ((k : Int) + 1))
  rw [show okT ((k : Int) + 1) = true from by simp [okT]; omega] at CT
  have CI := hidden (isNode_calls b o P M (r : Int) w h)
  rw [decide_eq_true ⟨Int.natCast_nonneg r, Int.ofNat_lt.2 hr⟩] at CI
  have cr := h.root hk
  obtain ⟨x, hx⟩ : ∃ x, M.rt k = x := ⟨_, rfl⟩
  rw [hx] at cr hrt
  have e1 : (x == -1) = false := by simpa using hrt
  have e2 : (x != -1) = true := by simpa using hrt
  obtain ⟨hk3, hk5, hk4⟩ := k_facts hk
  clear h hr hrt hx hk
  go_enter Tryz.func8, Tryz.ntmps8
  go_wp2_with fail
  refine (CT.out _).mono ?_
  rintro e w1 ⟨rfl, hw1⟩
  obtain rfl : w = w1 := hw1.symm
  go_wp2_with fail
  refine CI.out.mono ?_
  rintro e w1 ⟨rfl, hw1⟩
  obtain rfl : w = w1 := hw1.symm
  go_wp2_with fail
  go_ret
  exact ⟨rfl, rfl⟩
set_option maxHeartbeats 2000000 in
set_option maxRecDepth 100000 in
theorem publish_calls (b k r : Nat) (o : Nat → Tg) (P : MP) (M : Ms) (w : World) (h : MAt w o b P M) (hK : MOk M) (hE : TM.ef (M.n : Int) M.E = 0) (hk : k < 8) (hr : r < M.n) (hrt : M.rt k = -1) (htr : ∀ i, i < M.n → (M.nd i).tr k = none) :
    Calls Tryz.prog 8 #[.pointer (some ⟨b, 0, none⟩), .int .i64 ((k : Int) + 1), .int .i64 (r : Int)] w fun e w' => e = .returned .nilIface ∧ ∃ p d, Trees M.n r M.E p d ∧ MDone w w' o b (M.publish k r p d) := by
  have h16 := h.n16
  have hn1 := hK.n1
  have CT := hidden (isTrack_calls ((k : Int) + 1))
  rw [show okT ((k : Int) + 1) = true from by simp [okT]; omega] at CT
  have CI := hidden (isNode_calls b o P M (r : Int) w h)
  rw [decide_eq_true ⟨Int.natCast_nonneg r, Int.ofNat_lt.2 hr⟩] at CI
  have cr := h.root hk
  rw [hrt] at cr
  obtain ⟨rb, rc, hnv, _⟩ := h.nptr hr
  have hb0 : Below w.heap.size w w.drew := (Below.refl _ _).drew
  have hcs : ∀ W, Below w.heap.size w W → W.cell? ⟨b, 1, none⟩ = some (.slice (some ⟨rb, 0, none⟩) M.n rc) ∧ W.cell? ⟨b, 2, none⟩ = some (.slice P.ea M.E.length P.ec) := by
    intro W hB
    obtain ⟨_, c1, c2, _⟩ := (h.below hB).cells
    rw [hnv] at c1
    exact ⟨c1, c2⟩
  have hlf : TM.lf (M.n : Int) M.E (r : Int) = 0 := by
    unfold TM.lf
    rw [if_neg (by simp [hE]), if_neg (by simp [TM.isn]; omega)]
  obtain ⟨D, hD⟩ : ∃ D : World → Option Addr → Option Addr → List Int → List Int → Nat → Prop, (fun W pa da p d j => Trees M.n r M.E p d ∧ ∃ o' P', MAt W o' b P' (M.planned k p d j) ∧ Keep w o o' ∧ Chg o meshy w W ∧ Tree.IArg W pa M.n p ∧ Tree.IArg W da M.n d ∧ (∀ ad, pa = some ad → 0 < M.n → (o' ad.block).n = 0) ∧ ∀ ad, da = some ad → 0 < M.n → (o' ad.block).n = 0) = D := ⟨_, rfl⟩
  have hDe : ∀ W pa da p d j, D W pa da p d j ↔ Trees M.n r M.E p d ∧ ∃ o' P', MAt W o' b P' (M.planned k p d j) ∧ Keep w o o' ∧ Chg o meshy w W ∧ Tree.IArg W pa M.n p ∧ Tree.IArg W da M.n d ∧ (∀ ad, pa = some ad → 0 < M.n → (o' ad.block).n = 0) ∧ ∀ ad, da = some ad → 0 < M.n → (o' ad.block).n = 0 := fun W pa da p d j => by rw [← hD]
  have HB : Hid (Calls Tryz.prog 16 #[.int .i64 (M.n : Int), .slice P.ea M.E.length P.ec, .int .i64 (r : Int)] w.drew fun e w' => ∃ pa pc da dc p d, e = .returned (.tuple #[.slice pa M.n pc, .slice da M.n dc, .nilIface]) ∧ (w'.cell? ⟨b, 1, none⟩ = some (.slice (some ⟨rb, 0, none⟩) M.n rc) ∧ w'.cell? ⟨b, 2, none⟩ = some (.slice P.ea M.E.length P.ec)) ∧ Hid (D w' pa da p d 0)) := by
    refine hidden ((Tree.build_calls (M.n : Int) (r : Int) P.ea M.E.length P.ec M.E w.drew (h.below hb0).edg h.edc).mono ?_)
    rintro e w' ⟨vp, vd, p, d, rfl, hq⟩
    obtain ⟨q1, q2, q3⟩ := hq.bp.2 hlf
    rw [Int.toNat_natCast, Int.toNat_natCast] at q1
    rw [Int.toNat_natCast] at q2
    have hfit : TM.Fit M.n M.E := by have := (TM.ef_zero.1 hE).2; rwa [Int.toNat_natCast] at this
    have hT : Trees M.n r M.E p d := ⟨hfit, hr, q1, q2⟩
    have hB : Below w.heap.size w w' := hb0.trans (hq.bel.mono hb0.size)
    have o1 := hq.own1
    have o2 := hq.own2
    rw [hT.lenp] at o1
    rw [hT.lend] at o2
    obtain ⟨pa, pc, rfl, x1, x2, x3, x4⟩ := Tree.own_ints o1 (by omega)
    obtain ⟨da, dc, rfl, y1, y2, y3, y4⟩ := Tree.own_ints o2 (by omega)
    rw [hlf]
    refine ⟨pa, pc, da, dc, p, d, rfl, hcs w' hB, hidden ((hDe _ _ _ _ _ _).2 ⟨hT, grow o w nobody, P, ?_, Keep.of_ext (grow_ext _ _ _), Chg.of_below hB _ _, x1, y1, ?_, ?_⟩)⟩
    · rw [planned_zero]
      exact h.grow hB nobody
    · intro ad e _
      obtain ⟨g, rfl, q, _⟩ := x4 ad e
      rw [grow_new (show w.heap.size ≤ g from q)]
    · intro ad e _
      obtain ⟨g, rfl, q, _⟩ := y4 ad e
      rw [grow_new (show w.heap.size ≤ g from q)]
  have HDist : Hid (∀ W pa da p d j, D W pa da p d j → j < M.n → ∃ db dO, da = some ⟨db, dO, none⟩ ∧ W.cell? ⟨db, dO + j, none⟩ = some (.int .i64 (TM.dg d j))) := by
    refine hidden ?_
    intro W pa da p d j hA hj
    obtain ⟨hT, o', P', g1, g2, g3, g4, g5, g6, g7⟩ := (hDe _ _ _ _ _ _).1 hA
    obtain ⟨db, dO, e, hc⟩ := g5.at (by omega)
    exact ⟨db, dO, e, hc j hj⟩
  have HSkip : Hid (∀ W pa da p d j, D W pa da p d j → TM.dg d j = -1 → D W pa da p d (j + 1)) := by
    refine hidden ?_
    intro W pa da p d j hA hj
    obtain ⟨hT, o', P', g1, g2, g3, g4, g5, g6, g7⟩ := (hDe _ _ _ _ _ _).1 hA
    refine (hDe _ _ _ _ _ _).2 ⟨hT, o', P', ?_, g2, g3, g4, g5, g6, g7⟩
    rw [planned_skip M k p d (by omega)]
    exact g1
  have HPlan : Hid (∀ W pa pc da p d j, D W pa da p d j → j < M.n → TM.dg d j ≠ -1 → Calls Tryz.prog 39 #[.pointer (some ⟨b, 0, none⟩), .int .i64 ((k : Int) + 1), .slice pa M.n pc, .int .i64 (j : Int)] W fun e w' => e = .returned .nilIface ∧ Hid (D w' pa da p d (j + 1))) := by
    refine hidden ?_
    intro W pa pc da p d j hA hj hd
    obtain ⟨hT, o', P', g1, g2, g3, g4, g5, g6, g7⟩ := (hDe _ _ _ _ _ _).1 hA
    have hlow := hT.dist.low j
    refine (plan_callsM b k j r o' P' (M.planned k p d j) p d pa pc W g1 (hK.planned hT j) hT hk hj (by rw [planned_nd]; exact htr j hj) g4 g6).mono ?_
    rintro e w' ⟨rfl, o2, P2, r1, r2, r3⟩
    rw [planned_step M k p d (by omega)] at r1
    have hz : ∀ (a : Option Addr) (L : List Int), Tree.IArg W a M.n L → (∀ ad, a = some ad → 0 < M.n → (o' ad.block).n = 0) → Tree.IArg w' a M.n L ∧ ∀ ad, a = some ad → 0 < M.n → (o2 ad.block).n = 0 := by
      intro a L q1 q2
      refine ⟨iarg_chg q1 r3 (fun ad e hm hs => hs.1 (q2 ad e hm)), fun ad e hm => ?_⟩
      rcases r2 ad.block (iarg_lt q1 e hm) with e' | ⟨_, e'⟩
      · rw [e']; exact q2 ad e hm
      · rw [e']
    exact ⟨rfl, hidden ((hDe _ _ _ _ _ _).2 ⟨hT, o2, P2, r1, g2.trans r2 g3.size, Chg.keep g3 r3 g2, (hz pa p g4 g6).1, (hz da d g5 g7).1, (hz pa p g4 g6).2, (hz da d g5 g7).2⟩)⟩
  have HRt : Hid (∀ W pa da p d, D W pa da p d M.n → W.cell? ⟨b, 3 + k, none⟩ = some (.int .i64 (-1)) ∧ W.frozen? ⟨b, 3 + k, none⟩ = false ∧ ∃ p d, Trees M.n r M.E p d ∧ MDone w (W.setCell ⟨b, 3 + k, none⟩ (.int .i64 (r : Int))) o b (M.publish k r p d)) := by
    refine hidden ?_
    intro W pa da p d hA
    obtain ⟨hT, o', P', g1, g2, g3, g4, g5, g6, g7⟩ := (hDe _ _ _ _ _ _).1 hA
    have c := g1.root hk
    rw [show (M.planned k p d M.n).rt k = -1 from hrt] at c
    obtain ⟨s1, s2⟩ := g1.setBox (3 + k) (.int .i64 (r : Int)) (M.publish k r p d) (by
      intro cs h2
      have hs := h2.sz
      refine ⟨by simpa using hs, ?_, ?_, ?_, ?_, ?_, ?_⟩
      · rw [Array.getElem?_setIfInBounds_ne (by omega)]; exact h2.c0
      · rw [Array.getElem?_setIfInBounds_ne (by omega)]; exact h2.c1
      · rw [Array.getElem?_setIfInBounds_ne (by omega)]; exact h2.c2
      · intro i hi
        show _ = some (Value.int .i64 (updN M.rt k (r : Int) i))
        by_cases q : i = k
        · subst q
          rw [Array.getElem?_setIfInBounds_self_of_lt (by omega), updN_at]
        · rw [Array.getElem?_setIfInBounds_ne (by omega), h2.cr i hi, updN_ne _ _ q]
          rfl
      · rw [Array.getElem?_setIfInBounds_ne (by omega)]; exact h2.c11
      · rw [Array.getElem?_setIfInBounds_ne (by omega)]; exact h2.c12) rfl rfl rfl rfl rfl
    exact ⟨c, g1.free _, p, d, hT, o', P', s1, g2, Chg.keep g3 s2 g2⟩
  obtain ⟨R, hR⟩ : ∃ R : World → Prop, (fun W => ∃ p d, Trees M.n r M.E p d ∧ MDone w W o b (M.publish k r p d)) = R := ⟨_, rfl⟩
  have hRe : ∀ W, (∃ p d, Trees M.n r M.E p d ∧ MDone w W o b (M.publish k r p d)) = R W := fun W => by rw [← hR]
  simp only [hRe] at HRt ⊢
  have S0 := hcs w.drew hb0
  obtain ⟨nn, hnn⟩ : ∃ nn, M.n = nn := ⟨_, rfl⟩
  obtain ⟨el, hel⟩ : ∃ el, M.E.length = el := ⟨_, rfl⟩
  rw [hnn] at S0 HB HDist HPlan HRt hr h16
  rw [hel] at S0 HB
  obtain ⟨hk3, hk5, hk4⟩ := k_facts hk
  obtain ⟨ea, hea⟩ : ∃ ea, P.ea = ea := ⟨_, rfl⟩
  obtain ⟨ec, hec⟩ : ∃ ec, P.ec = ec := ⟨_, rfl⟩
  rw [hea, hec] at S0 HB
  clear h hK hE hk hr hrt htr hn1 hnv hb0 hcs hlf hD hDe hR hRe hnn hel hea hec
  go_enter Tryz.func8, Tryz.ntmps8
  go_wp2_with fail
  refine (CT.out _).mono ?_
  rintro e w1 ⟨rfl, hw1⟩
  obtain rfl : w = w1 := hw1.symm
  go_wp2_with fail
  refine CI.out.mono ?_
  rintro e w1 ⟨rfl, hw1⟩
  obtain rfl : w = w1 := hw1.symm
  go_upto_region 5 with fail
  clear cr CT CI
  go_region_held3 (fun w' => w'.cell? ⟨b, 1, none⟩ = some (.slice (some ⟨rb, 0, none⟩) nn rc) ∧ w'.cell? ⟨b, 2, none⟩ = some (.slice ea el ec)) (with_reducible assumption) (first | (go_at_call 16; refine HB.out.mono ?_; rintro e w4 ⟨pa, pc, da, dc, p, d, rfl, hS4, HD0⟩))
  clear hS4 HB S0
  go_wp2_with fail
  go_loopg [52] nn (fun g x wx => ∃ j : Nat, j + g = nn ∧ x = .int .i64 (j : Int) ∧ Hid (D wx pa da p d j))
  case atStart => exact ⟨0, by omega, rfl, HD0⟩
  case round =>
    obtain ⟨j, hjg, rfl, HD⟩ := hrel
    by_cases hj : j < nn
    · have hjz : (j : Int) < (nn : Int) := by omega
      obtain ⟨db, dO, rfl, cd⟩ := HDist.out wr pa da p d j HD.out hj
      by_cases hd : TM.dg d j = -1
      · rw [hd] at cd
        have HE := hidden (HSkip.out wr pa _ p d j HD.out hd)
        clear HD hd
        go_wp2_with fail
        go_roundg (nn - (j + 1))
        case measure => omega
        case rel => exact ⟨j + 1, by omega, by go_num, HE⟩
      · have CP := hidden (HPlan.out wr pa pc _ p d j HD.out hj hd)
        obtain ⟨x, hx⟩ : ∃ x, TM.dg d j = x := ⟨_, rfl⟩
        rw [hx] at cd hd
        have e1 : (x == -1) = false := by simpa using hd
        clear HD hd hx
        go_wp2_with fail
        refine CP.out.mono ?_
        rintro e w5 ⟨rfl, HE⟩
        go_wp2_with fail
        go_roundg (nn - (j + 1))
        case measure => omega
        case rel => exact ⟨j + 1, by omega, by go_num, HE⟩
    · have hjz : ¬ (j : Int) < (nn : Int) := by omega
      obtain rfl : nn = j := by omega
      obtain ⟨c1, c2, hRR⟩ := HRt.out wr pa da p d HD.out
      have HR := hidden hRR
      clear HD HRt HDist HSkip HPlan hRR
      go_wp2_with fail
      go_ret
      exact ⟨rfl, HR.out⟩
end Go.Proofs.YtpiamlgmadnepaaGreat.MS

