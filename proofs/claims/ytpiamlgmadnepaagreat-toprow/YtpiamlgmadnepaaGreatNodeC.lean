/-
  What checkPlan of package node returns. Its condition: the node is such as it may be.
-/
import Derived.Test.YtpiamlgmadnepaaGreatNodeB
namespace Go.Proofs.YtpiamlgmadnepaaGreat.ND
open Go.ChangeShapes Go.WideShapes Go.ChangeAt Go.RowKit Go.Maps Go.Proofs.YtpiamlgmadnepaaGreat.Mem Go.Proofs.YtpiamlgmadnepaaGreat.NO
set_option linter.unusedVariables false

/-- ContainsFunc of checkPlan's closure -/
theorem cont1_calls (b b1 b2 : Nat) (id pa : Int) (a : Option Addr) (n cap : Nat) (L : List Int) (w : World) (h : Gaps.IArg w a n L) (h1 : w.cell? ⟨b1, 0, none⟩ = some (.pointer (some ⟨b, 0, none⟩))) (h2 : w.cell? ⟨b2, 0, none⟩ = some (.int .i64 pa)) (h3 : w.cell? ⟨b, 1, none⟩ = some (.int .i64 id)) :
    Calls Tryz.prog 144 #[.slice a n cap, .func (.func 145) #[] #[.pointer (some ⟨b1, 0, none⟩), .pointer (some ⟨b2, 0, none⟩)]] w fun e w' => e = .returned (.bool (L.any (badk id pa))) ∧ w' = w := by
  have hl := h.2.1
  have hn := h.2.2
  have hI := idx1_calls b1 b2 a n cap L (fun j W => W = w) (fun j => badk id pa (L.getD j 0)) w hl hn (fun j W hj => by rw [hj]; exact h) rfl (by
    rintro j W hj rfl
    refine (cl1_calls (L.getD j 0) id pa b b1 b2 W h1 h2 h3).mono ?_
    rintro e w1 ⟨rfl, rfl⟩
    exact ⟨rfl, rfl⟩)
  have HI := hidden hI
  clear hI h h1 h2 h3
  obtain ⟨q, hq⟩ : ∃ q, L.any (badk id pa) = q := ⟨_, rfl⟩
  rw [hq]
  have HQ := hidden hq
  clear hq
  go_enter Tryz.func144, Tryz.ntmps144
  go_wp2_with fail
  refine HI.out.mono ?_
  rintro e w1 ⟨i, rfl, hf⟩
  have hb : w1 = w := by
    rcases hf with ⟨j, _, _, _, _, h1⟩ | ⟨_, _, h1⟩
    · exact h1
    · exact h1
  have hd := found_any hf
  rw [← hl, any_list L (badk id pa), HQ.out] at hd
  clear hf
  subst hb
  go_wp2_with fail
  go_ret
  exact ⟨rfl, rfl⟩
theorem badk_ok {id pa : Int} {K : List Int} (h : K.any (badk id pa) = false) : ∀ x ∈ K, 0 ≤ x ∧ x ≤ 15 := by
  intro x hx
  rw [List.any_eq_false] at h
  have := h x hx
  by_cases c : 0 ≤ x ∧ x ≤ 15
  · exact c
  · have e : badk id pa x = true := by unfold badk oth okN; rw [decide_eq_false c]; rfl
    exact absurd e this
theorem box2 (w : World) (v u : Value) (t r : TypeId) : ((w.alloc (.cells #[v] t)).alloc (.cells #[u] r)).cell? ⟨w.heap.size, 0, none⟩ = some v ∧ ((w.alloc (.cells #[v] t)).alloc (.cells #[u] r)).cell? ⟨w.heap.size + 1, 0, none⟩ = some u := by
  have h1 := heap_alloc_new w (.cells #[v] t)
  have h2 := heap_alloc_new (w.alloc (.cells #[v] t)) (.cells #[u] r)
  have h3 := (Below.heap_alloc (w.alloc (.cells #[v] t)) (.cells #[u] r) w.heap.size (by simp)).trans h1
  simp only [World.size_alloc] at h2
  constructor
  · simp [World.cell?, h3]
  · unfold World.cell?
    simp only [h2]
    simp
theorem below2 (w : World) (O1 O2 : Obj) : Below w.heap.size w ((w.alloc O1).alloc O2) :=
  ((Below.refl _ _).alloc (Nat.le_refl _) _).alloc (by simp) _
theorem ext_cell {w w' : World} (hb : Below w.heap.size w w') {p : Addr} {v : Value} (h : w.cell? p = some v) : w'.cell? p = some v := (hb.cell (World.block_lt_of_cell? w p h)).trans h

set_option maxHeartbeats 4000000 in
set_option maxRecDepth 100000 in
theorem check_calls (n b : Nat) (o : Nat → Tg) (P : NP) (N : Nd) (tk pa ep : Int) (a : Option Addr) (m cap : Nat) (K : List Int) (w : World) (hN : NAt w o n b P N) (hK : Gaps.IArg w a m K) :
    Calls Tryz.prog 110 #[.pointer (some ⟨b, 0, none⟩), .int .i64 tk, .int .i64 pa, .slice a m cap, .int .i64 ep] w fun e w' => e = .returned (errv (pF N tk pa K ep)) ∧ Below w.heap.size w w' := by
  have cid := hN.cells.2.1
  have HN := hidden hN
  have HK := hidden hK
  clear hN hK
  obtain ⟨id, hid⟩ : ∃ id, N.id = id := ⟨_, rfl⟩
  rw [hid] at cid
  have CT := hidden (isTrack_calls tk)
  obtain ⟨f, hf⟩ : ∃ f, pF N tk pa K ep = f := ⟨_, rfl⟩
  rw [hf]
  unfold pF at hf
  rw [hid] at hf
  have c1 := box2 w (.pointer (some ⟨b, 0, none⟩)) (.int .i64 pa) 97 3
  have hB := below2 w (.cells #[.pointer (some ⟨b, 0, none⟩)] 97) (.cells #[.int .i64 pa] 3)
  have cid2 := ext_cell hB cid
  have CO := hidden (isOther_calls b id pa _ cid2)
  have CC := hidden (cont1_calls b w.heap.size (w.heap.size + 1) id pa a m cap K _ (HK.out.below hB) c1.1 c1.2 cid2)
  obtain ⟨c1a, c1b⟩ := c1
  obtain ⟨w2, hw2⟩ : ∃ w2, (w.alloc (.cells #[.pointer (some ⟨b, 0, none⟩)] 97)).alloc (.cells #[.int .i64 pa] 3) = w2 := ⟨_, rfl⟩
  rw [hw2] at c1a c1b CO CC hB cid2
  have HB := hidden hB
  have HW := hidden hw2
  clear hB hw2 hid cid
  cases hT : okT tk with
  | false =>
    rw [hT] at CT
    rw [if_pos hT] at hf
    subst hf
    clear hT
    go_enter Tryz.func110, Tryz.ntmps110
    go_wp2_with fail
    rw [HW.out]
    refine (CT.out _).mono ?_
    rintro e w1 ⟨rfl, rfl⟩
    go_wp2_with fail
    go_ret
    exact ⟨rfl, HB.out⟩
  | true =>
    rw [if_neg (by simp [hT])] at hf
    rw [hT] at CT
    by_cases hpa : pa ≠ -1 ∧ oth id pa = false
    · rw [if_pos hpa] at hf
      subst hf
      obtain ⟨p1, p2⟩ := hpa
      rw [p2] at CO
      have d1 : (pa != -1) = true := by simpa using p1
      clear p1 p2 hT
      go_enter Tryz.func110, Tryz.ntmps110
      go_wp2_with fail
      rw [HW.out]
      refine (CT.out _).mono ?_
      rintro e w1 ⟨rfl, rfl⟩
      go_wp2_with fail
      refine CO.out.mono ?_
      rintro e w1 ⟨rfl, rfl⟩
      go_wp2_with fail
      go_ret
      exact ⟨rfl, HB.out⟩
    · rw [if_neg hpa] at hf
      obtain ⟨k, hkk, hk1, hk2⟩ : ∃ k : Nat, k < 8 ∧ tk = (k : Int) + 1 ∧ (tk - 1).toNat = k := ⟨(tk - 1).toNat, by simp [okT] at hT; omega, by simp [okT] at hT; omega, rfl⟩
      clear hT
      have hk3 : wrap64 (tk - 1) = (k : Int) := by unfold wrap64; omega
      have hk4 : (k : Int) < 8 := by omega
      have HK1 := hidden hk1
      clear hk1
      by_cases p1 : pa = -1
      · have d1 : (pa != -1) = false := by simpa using p1
        clear p1 hpa
        by_cases e0 : ep < 0
        · rw [if_pos (.inl e0)] at hf
          subst hf
          have e0' : decide (ep < 0) = true := by simpa using e0
          clear e0
          go_enter Tryz.func110, Tryz.ntmps110
          go_wp2_with fail
          rw [HW.out]
          refine (CT.out _).mono ?_
          rintro e w1 ⟨rfl, rfl⟩
          go_wp2_with fail
          go_ret
          exact ⟨rfl, HB.out⟩
        have e0' : decide (ep < 0) = false := by simpa using e0
        by_cases e1 : 65535 < ep
        · rw [if_pos (.inr e1)] at hf
          subst hf
          have e1' : decide (65535 < ep) = true := by simpa using e1
          clear e0 e1
          go_enter Tryz.func110, Tryz.ntmps110
          go_wp2_with fail
          rw [HW.out]
          refine (CT.out _).mono ?_
          rintro e w1 ⟨rfl, rfl⟩
          go_wp2_with fail
          go_ret
          exact ⟨rfl, HB.out⟩
        have e1' : decide (65535 < ep) = false := by simpa using e1
        rw [if_neg (by omega)] at hf
        clear e0 e1
        cases hA : K.any (badk id pa) with
        | true =>
          rw [hA] at CC
          rw [if_pos hA] at hf
          subst hf
          clear hA
          go_enter Tryz.func110, Tryz.ntmps110
          go_wp2_with fail
          rw [HW.out]
          refine (CT.out _).mono ?_
          rintro e w1 ⟨rfl, rfl⟩
          go_wp2_with fail
          refine CC.out.mono ?_
          rintro e w1 ⟨rfl, rfl⟩
          go_wp2_with fail
          go_ret
          exact ⟨rfl, HB.out⟩
        | false =>
          rw [if_neg (by simp [hA])] at hf
          have CW := hidden (twice_calls a m cap K w2 (HK.out.below HB.out) (badk_ok hA))
          rw [hA] at CC
          clear hA
          cases hD : twc K with
          | true =>
            rw [hD] at CW
            rw [if_pos hD] at hf
            subst hf
            clear hD
            go_enter Tryz.func110, Tryz.ntmps110
            go_wp2_with fail
            rw [HW.out]
            refine (CT.out _).mono ?_
            rintro e w1 ⟨rfl, rfl⟩
            go_wp2_with fail
            refine CC.out.mono ?_
            rintro e w1 ⟨rfl, rfl⟩
            go_wp2_with fail
            refine CW.out.mono ?_
            rintro e w1 ⟨rfl, hb1⟩
            have HB1 := hidden hb1
            clear hb1
            go_wp2_with fail
            go_ret
            exact ⟨rfl, HB.out.trans (HB1.out.mono HB.out.size)⟩
          | false =>
            rw [hD] at CW
            rw [if_neg (by simp [hD])] at hf
            clear hD
            go_enter Tryz.func110, Tryz.ntmps110
            go_wp2_with fail
            rw [HW.out]
            refine (CT.out _).mono ?_
            rintro e w1 ⟨rfl, rfl⟩
            go_wp2_with fail
            refine CC.out.mono ?_
            rintro e w1 ⟨rfl, rfl⟩
            go_wp2_with fail
            refine CW.out.mono ?_
            rintro e w1 ⟨rfl, hb1⟩
            have c1 := ext_cell hb1 c1a
            have HB1 := hidden (HB.out.trans (hb1.mono HB.out.size))
            clear hb1
            have hN1 := HN.out.below HB1.out
            have ct := hN1.track hkk
            unfold Nd.at at hf
            rw [hk2] at hf
            cases hx : N.tr k with
            | none =>
              rw [hx] at ct hf
              simp only [tpv] at ct
              rw [if_neg (by simp [old])] at hf
              subst hf
              clear hN1 hx
              go_wp2_with fail
              go_ret
              exact ⟨rfl, HB1.out⟩
            | some t =>
              have bx := (hN1.trs k hkk t hx).1.box
              rw [hx] at ct hf
              simp only [tpv] at ct
              have ce : w1.cell? ⟨(P.tp k).p, 1, none⟩ = some (.int .i64 t.ep) := by simp [World.cell?, bx]
              obtain ⟨pp, hpp⟩ : ∃ pp, (P.tp k).p = pp := ⟨_, rfl⟩
              obtain ⟨te, hte⟩ : ∃ te, t.ep = te := ⟨_, rfl⟩
              rw [hpp] at ct ce
              have ho : old (some t) ep = decide (ep < te) := by rw [← hte]; rfl
              rw [hte] at ce
              rw [ho] at hf
              clear ho
              clear hN1 hx bx hpp hte
              by_cases hlt : ep < te
              · rw [if_pos (by simpa using hlt)] at hf
                subst hf
                have hlt' : decide (ep < te) = true := by simpa using hlt
                clear hlt
                go_wp2_with fail
                go_ret
                exact ⟨rfl, HB1.out⟩
              · rw [if_neg (by simpa using hlt)] at hf
                subst hf
                have hlt' : decide (ep < te) = false := by simpa using hlt
                clear hlt
                go_wp2_with fail
                go_ret
                exact ⟨rfl, HB1.out⟩
      · have p2 : oth id pa = true := by
          cases h : oth id pa with
          | true => rfl
          | false => exact absurd ⟨p1, h⟩ hpa
        rw [p2] at CO
        have d1 : (pa != -1) = true := by simpa using p1
        clear p1 p2 hpa
        by_cases e0 : ep < 0
        · rw [if_pos (.inl e0)] at hf
          subst hf
          have e0' : decide (ep < 0) = true := by simpa using e0
          clear e0
          go_enter Tryz.func110, Tryz.ntmps110
          go_wp2_with fail
          rw [HW.out]
          refine (CT.out _).mono ?_
          rintro e w1 ⟨rfl, rfl⟩
          go_wp2_with fail
          refine CO.out.mono ?_
          rintro e w1 ⟨rfl, rfl⟩
          go_wp2_with fail
          go_ret
          exact ⟨rfl, HB.out⟩
        have e0' : decide (ep < 0) = false := by simpa using e0
        by_cases e1 : 65535 < ep
        · rw [if_pos (.inr e1)] at hf
          subst hf
          have e1' : decide (65535 < ep) = true := by simpa using e1
          clear e0 e1
          go_enter Tryz.func110, Tryz.ntmps110
          go_wp2_with fail
          rw [HW.out]
          refine (CT.out _).mono ?_
          rintro e w1 ⟨rfl, rfl⟩
          go_wp2_with fail
          refine CO.out.mono ?_
          rintro e w1 ⟨rfl, rfl⟩
          go_wp2_with fail
          go_ret
          exact ⟨rfl, HB.out⟩
        have e1' : decide (65535 < ep) = false := by simpa using e1
        rw [if_neg (by omega)] at hf
        clear e0 e1
        cases hA : K.any (badk id pa) with
        | true =>
          rw [hA] at CC
          rw [if_pos hA] at hf
          subst hf
          clear hA
          go_enter Tryz.func110, Tryz.ntmps110
          go_wp2_with fail
          rw [HW.out]
          refine (CT.out _).mono ?_
          rintro e w1 ⟨rfl, rfl⟩
          go_wp2_with fail
          refine CO.out.mono ?_
          rintro e w1 ⟨rfl, rfl⟩
          go_wp2_with fail
          refine CC.out.mono ?_
          rintro e w1 ⟨rfl, rfl⟩
          go_wp2_with fail
          go_ret
          exact ⟨rfl, HB.out⟩
        | false =>
          rw [if_neg (by simp [hA])] at hf
          have CW := hidden (twice_calls a m cap K w2 (HK.out.below HB.out) (badk_ok hA))
          rw [hA] at CC
          clear hA
          cases hD : twc K with
          | true =>
            rw [hD] at CW
            rw [if_pos hD] at hf
            subst hf
            clear hD
            go_enter Tryz.func110, Tryz.ntmps110
            go_wp2_with fail
            rw [HW.out]
            refine (CT.out _).mono ?_
            rintro e w1 ⟨rfl, rfl⟩
            go_wp2_with fail
            refine CO.out.mono ?_
            rintro e w1 ⟨rfl, rfl⟩
            go_wp2_with fail
            refine CC.out.mono ?_
            rintro e w1 ⟨rfl, rfl⟩
            go_wp2_with fail
            refine CW.out.mono ?_
            rintro e w1 ⟨rfl, hb1⟩
            have HB1 := hidden hb1
            clear hb1
            go_wp2_with fail
            go_ret
            exact ⟨rfl, HB.out.trans (HB1.out.mono HB.out.size)⟩
          | false =>
            rw [hD] at CW
            rw [if_neg (by simp [hD])] at hf
            clear hD
            go_enter Tryz.func110, Tryz.ntmps110
            go_wp2_with fail
            rw [HW.out]
            refine (CT.out _).mono ?_
            rintro e w1 ⟨rfl, rfl⟩
            go_wp2_with fail
            refine CO.out.mono ?_
            rintro e w1 ⟨rfl, rfl⟩
            go_wp2_with fail
            refine CC.out.mono ?_
            rintro e w1 ⟨rfl, rfl⟩
            go_wp2_with fail
            refine CW.out.mono ?_
            rintro e w1 ⟨rfl, hb1⟩
            have c1 := ext_cell hb1 c1a
            have HB1 := hidden (HB.out.trans (hb1.mono HB.out.size))
            clear hb1
            have hN1 := HN.out.below HB1.out
            have ct := hN1.track hkk
            unfold Nd.at at hf
            rw [hk2] at hf
            cases hx : N.tr k with
            | none =>
              rw [hx] at ct hf
              simp only [tpv] at ct
              rw [if_neg (by simp [old])] at hf
              subst hf
              clear hN1 hx
              go_wp2_with fail
              go_ret
              exact ⟨rfl, HB1.out⟩
            | some t =>
              have bx := (hN1.trs k hkk t hx).1.box
              rw [hx] at ct hf
              simp only [tpv] at ct
              have ce : w1.cell? ⟨(P.tp k).p, 1, none⟩ = some (.int .i64 t.ep) := by simp [World.cell?, bx]
              obtain ⟨pp, hpp⟩ : ∃ pp, (P.tp k).p = pp := ⟨_, rfl⟩
              obtain ⟨te, hte⟩ : ∃ te, t.ep = te := ⟨_, rfl⟩
              rw [hpp] at ct ce
              have ho : old (some t) ep = decide (ep < te) := by rw [← hte]; rfl
              rw [hte] at ce
              rw [ho] at hf
              clear ho
              clear hN1 hx bx hpp hte
              by_cases hlt : ep < te
              · rw [if_pos (by simpa using hlt)] at hf
                subst hf
                have hlt' : decide (ep < te) = true := by simpa using hlt
                clear hlt
                go_wp2_with fail
                go_ret
                exact ⟨rfl, HB1.out⟩
              · rw [if_neg (by simpa using hlt)] at hf
                subst hf
                have hlt' : decide (ep < te) = false := by simpa using hlt
                clear hlt
                go_wp2_with fail
                go_ret
                exact ⟨rfl, HB1.out⟩
end Go.Proofs.YtpiamlgmadnepaaGreat.ND

