/-
  What Due of package gaps returns, whatever it is given, and what it leaves in memory. Its condition: what is lacking is such as it may be.
-/
import Derived.Test.YtpiamlgmadnepaaGreatGapsC
import Derived.Deep.AppendLies
import Derived.Deep.CutRange
namespace Go.Proofs.YtpiamlgmadnepaaGreat.Gaps
open Go.ChangeShapes Go.WideShapes Go.ChangeAt Go.RowKit Go.Maps Go.Sort Go.Shelf Go.Proofs.YtpiamlgmadnepaaGreat.Mem Go.Proofs.YtpiamlgmadnepaaGreat.GM
set_option linter.unusedVariables false

theorem look_at {w : World} {b mb : Nat} {ag tr nw T : Int} {M : Its} {gv : Value} {G : List Int} (h : GapsAt w b mb ag tr nw T M gv G) {x : Lk} (hx : x ∈ M) (hw : (Lit.int .i64 x.n).wf = true) :
    (Instr.lookup 121 (.map (some mb)) (.int .i64 x.n) false).run Tryz.prog w = .ok (.agg #[.int .i64 x.t, .int .i64 x.a]) w := by
  obtain ⟨D, hown, hK, hE⟩ := h.map
  obtain ⟨v', ps, hrun, hr⟩ := hown.lookup law3 Tryz.underlying121 (zeroAK w) (akR_mk 0 0) (keyOf3 hw)
  rw [hE x hx] at hr
  have e := (akR_inv hr).2
  simp only [Prod.mk.injEq, DataW.held.injEq] at e
  rw [hrun, ← e.1]
  rfl

theorem cells2 {w : World} {b : Nat} {v0 v1 : Value} {t : TypeId} (h : w.heap[b]? = some (.cells #[v0, v1] t (0, 0))) : w.cell? ⟨b, 0, none⟩ = some v0 ∧ w.cell? ⟨b, 1, none⟩ = some v1 := by
  refine ⟨?_, ?_⟩ <;> simp [World.cell?, h]

/-- under way: k of those that were lacking are done; kv their numbers, dv what is asked for, gv2 what was given up -/
structure DSt (w wr : World) (B b mb : Nat) (ag tr now T : Int) (M : Its) (gv : Value) (G : List Int) (k : Nat) (kv dv gv2 : Value) : Prop where
  gaps : GapsAt wr b mb ag tr now T (dM ag tr now (M.take k) ++ M.drop k) gv2 (G ++ gaveL ag tr now (M.take k))
  keys : wr.ownsRow w.heap.size 3 1 kv M.length (ic (nums M))
  due : wr.ownsRow B 3 1 dv (dueL ag tr now (M.take k)).length (ic (dueL ag tr now (M.take k)))
  kb : ∀ j, kv.ownBlock = some j → w.heap.size ≤ j ∧ j < B
  gb : ∀ j, gv2.ownBlock = some j → (gv.ownBlock = some j ∧ j < w.heap.size) ∨ (B ≤ j ∧ dv.ownBlock ≠ some j)
  s1 : w.heap.size ≤ B
  s2 : B ≤ wr.heap.size
  only : Only (blks b mb gv) w wr
  bb : b < w.heap.size
  mm : mb < w.heap.size
theorem DSt.below {w wr wy : World} {B b mb : Nat} {ag tr now T : Int} {M : Its} {gv : Value} {G : List Int} {k : Nat} {kv dv gv2 : Value} (h : DSt w wr B b mb ag tr now T M gv G k kv dv gv2) (hb : Below wr.heap.size wr wy) : DSt w wy B b mb ag tr now T M gv G k kv dv gv2 :=
  { h with gaps := h.gaps.below hb, keys := (Only.of_below hb []).owns h.keys (by simp), due := (Only.of_below hb []).owns h.due (by simp), s2 := Nat.le_trans h.s2 hb.size, only := h.only.trans (Only.of_below hb _) }
theorem take_one {M : Its} {k : Nat} {x : Lk} (hx : M[k]? = some x) : M.take (k + 1) = M.take k ++ [x] ∧ M.drop k = x :: M.drop (k + 1) := by
  have hk : k < M.length := (List.getElem?_eq_some_iff.1 hx).1
  have e : M[k] = x := (List.getElem?_eq_some_iff.1 hx).2
  refine ⟨?_, ?_⟩
  · rw [List.take_add_one, hx]; rfl
  · rw [List.drop_eq_getElem_cons hk, e]
/-- it may still come -/
theorem DSt.stay {w wr : World} {B b mb : Nat} {ag tr now T : Int} {M : Its} {gv : Value} {G : List Int} {k : Nat} {kv dv gv2 : Value} {x : Lk} (h : DSt w wr B b mb ag tr now T M gv G k kv dv gv2) (hx : M[k]? = some x) (hs : stays ag now x = true) : DSt w wr B b mb ag tr now T M gv G (k + 1) kv dv gv2 := by
  obtain ⟨e1, e2⟩ := take_one hx
  obtain ⟨o1, o2, o3⟩ := one_stays (tr := tr) hs
  refine { h with gaps := ?_, due := ?_ }
  · rw [e1, dM_app, gaveL_app, o1, o3, List.append_nil, List.append_assoc]
    have := h.gaps
    rw [e2] at this
    exact this
  · rw [e1, dueL_app, o2, List.append_nil]
    exact h.due
/-- the list rises all the while -/
theorem ris_mid {ag tr nw T now : Int} {M : Its} (hI : GM.Inv ag tr nw T M) {k : Nat} {x : Lk} (hx : M[k]? = some x) : Ris (dM ag tr now (M.take k) ++ x :: M.drop (k + 1)) := by
  obtain ⟨e1, e2⟩ := take_one hx
  have hr := hI.ris
  have hM : M = M.take k ++ M.drop k := (List.take_append_drop k M).symm
  rw [e2] at hM
  rw [hM] at hr
  unfold Ris at hr ⊢
  rw [List.pairwise_append] at hr ⊢
  refine ⟨?_, hr.2.1, ?_⟩
  · unfold dM
    rw [List.pairwise_map]
    exact (hr.1.filter _).imp fun q => by rw [next_n, next_n]; exact q
  · intro a ha c hc
    obtain ⟨y, hy, rfl⟩ := List.mem_map.1 ha
    rw [next_n]
    exact hr.2.2 y (List.mem_filter.1 hy).1 c hc
theorem ris_next {A B : Its} {x y : Lk} (h : Ris (A ++ x :: B)) (hy : y.n = x.n) : Ris (A ++ y :: B) := by
  unfold Ris at h ⊢
  rw [List.pairwise_append, List.pairwise_cons] at h ⊢
  refine ⟨h.1, ⟨fun a ha => ?_, h.2.1.2⟩, fun a ha c hc => ?_⟩
  · rw [hy]; exact h.2.1.1 a ha
  · rcases List.mem_cons.1 hc with rfl | hc
    · rw [hy]; exact h.2.2 a ha x (by simp)
    · exact h.2.2 a ha c (by simp [hc])
theorem mid_len {ag tr now : Int} {M : Its} {k : Nat} {x : Lk} (hx : M[k]? = some x) : (dM ag tr now (M.take k) ++ x :: M.drop (k + 1)).length ≤ M.length := by
  have hk : k < M.length := (List.getElem?_eq_some_iff.1 hx).1
  have := List.length_filter_le (fun x => !gives ag tr now x) (M.take k)
  simp [dM] at this ⊢
  omega
/-- it is given up: the map is without it, the row has it -/
theorem DSt.give {w wr w4 w6 : World} {B b mb g n cap : Nat} {ag tr now T : Int} {M : Its} {gv : Value} {G : List Int} {k : Nat} {kv dv gv2 : Value} {x : Lk} {O : Obj} (h : DSt w wr B b mb ag tr now T M gv G k kv dv gv2) (hx : M[k]? = some x) (hs : stays ag now x = false) (ht : x.t = tr)
    (h4 : GapsAt w4 b mb ag tr now T (dM ag tr now (M.take k) ++ M.drop (k + 1)) gv2 (G ++ gaveL ag tr now (M.take k))) (ho4 : Only [mb] wr w4)
    (hn : n = (G ++ gaveL ag tr now (M.take k)).length) (hown : w6.ownsRow 0 3 1 (.slice (some ⟨g, 0, none⟩) (n + 1) cap) (n + 1) (ic (G ++ gaveL ag tr now (M.take k)) ++ [.int .i64 x.n])) (hgrow : (w4.alloc O).grownBy w6 gv2.ownBlock) (hat : gv2.ownBlock = some g ∨ g = w4.heap.size + 1) :
    DSt w (w6.setCell ⟨b, 5, none⟩ (.slice (some ⟨g, 0, none⟩) (n + 1) cap)) B b mb ag tr now T M gv G (k + 1) kv dv (.slice (some ⟨g, 0, none⟩) (n + 1) cap) := by
  obtain ⟨e1, e2⟩ := take_one hx
  obtain ⟨o1, o2, o3⟩ := one_gives hs ht
  have hsz : w4.heap.size = w4.heap.size := rfl
  have h4s : wr.heap.size ≤ w4.heap.size := ho4.2.2.2.1
  have oA : Only gv2.ownBlock.toList w4 w6 := ((Only.refl _ w4).alloc O).trans ((Only.refl _ _).grown hgrow (by simp))
  have hne := h4.ne
  have hbx := h4.box
  have lt4 := h4.lt
  have s1 := h.s1
  have s2 := h.s2
  have gb := h.gb
  have kb := h.kb
  have bb := h.bb
  have mm := h.mm
  have hgb : g ≠ b := by
    rcases hat with hat | hat
    · exact (hne.2 g hat).1
    · have := lt4 b (by simp [blks]); omega
  have hgm : g ≠ mb := by
    rcases hat with hat | hat
    · exact (hne.2 g hat).2
    · have := lt4 mb (by simp [blks]); omega
  have oS : Only (b :: gv2.ownBlock.toList) w4 (w6.setCell ⟨b, 5, none⟩ (.slice (some ⟨g, 0, none⟩) (n + 1) cap)) := (oA.mono (by intro k hk; simp at hk; simp [hk])).setCell (by simp) _
  have oB : Only [b] w6 (w6.setCell ⟨b, 5, none⟩ (.slice (some ⟨g, 0, none⟩) (n + 1) cap)) := (Only.refl _ _).setCell (by simp) _
  have oAll : Only (mb :: b :: gv2.ownBlock.toList) wr (w6.setCell ⟨b, 5, none⟩ (.slice (some ⟨g, 0, none⟩) (n + 1) cap)) := (ho4.mono (by simp)).trans (oS.mono (by intro k hk; exact List.mem_cons_of_mem _ hk))
  have gsz : ∀ j, gv2.ownBlock = some j → j < wr.heap.size := fun j hj => h.gaps.lt j (by simp [blks, hj])
  refine { h with gaps := ⟨?_, ?_, ?_⟩, keys := ?_, due := ?_, gb := ?_, s2 := Nat.le_trans s2 oAll.2.2.2.1, only := ?_ }
  · have hb6 := oA.block hbx (by intro hc; simp at hc; exact (hne.2 b hc).1 rfl)
    exact setb hb6 5 _
  · rw [e1, dM_app, o1, List.append_nil]
    obtain ⟨D, ⟨es, clock, m4, m5⟩, m6⟩ := h4.map
    exact ⟨D, ⟨es, clock, oS.block m4 (by intro hc; simp at hc; rcases hc with hc | hc; exact hne.1 hc.symm; exact (hne.2 mb hc).2 rfl), m5⟩, m6⟩
  · rw [e1, gaveL_app, o3, ← List.append_assoc, List.length_append, List.length_singleton, ← hn, ic_app]
    exact oB.owns hown (by intro j hj hc; simp [Value.ownBlock] at hj hc; omega)
  · refine oAll.owns h.keys ?_
    intro j hj hc
    have := kb j hj
    simp at hc
    rcases hc with hc | hc | hc
    · omega
    · omega
    · rcases gb j hc with q | q <;> omega
  · rw [e1, dueL_app, o2, List.append_nil]
    refine oAll.owns h.due ?_
    intro j hj hc
    have := (h.due.lt j hj).1
    simp at hc
    rcases hc with hc | hc | hc
    · omega
    · omega
    · rcases gb j hc with q | q
      · omega
      · exact q.2 hj
  · intro j hj
    simp [Value.ownBlock] at hj
    subst hj
    rcases hat with hat | hat
    · exact gb _ hat
    · refine .inr ⟨by omega, fun hd => ?_⟩
      have := (h.due.lt _ hd).2
      omega
  · refine past h.only oAll ?_
    intro j hj
    simp at hj
    rcases hj with rfl | rfl | hj
    · exact .inl (by simp [blks])
    · exact .inl (by simp [blks])
    · rcases gb j hj with q | q
      · exact .inl (by simp [blks, q.1])
      · exact .inr (by omega)
/-- it is asked for: the map knows it, the row has it -/
theorem DSt.ask {w wr w4 w6 : World} {B b mb g n cap : Nat} {ag tr now T : Int} {M : Its} {gv : Value} {G : List Int} {k : Nat} {kv dv gv2 : Value} {x : Lk} {O : Obj} (h : DSt w wr B b mb ag tr now T M gv G k kv dv gv2) (hx : M[k]? = some x) (hs : stays ag now x = false) (ht : x.t ≠ tr)
    (h4 : GapsAt w4 b mb ag tr now T (dM ag tr now (M.take k) ++ ⟨x.n, x.t + 1, now⟩ :: M.drop (k + 1)) gv2 (G ++ gaveL ag tr now (M.take k))) (ho4 : Only [mb] wr w4)
    (hn : n = (dueL ag tr now (M.take k)).length) (hown : w6.ownsRow B 3 1 (.slice (some ⟨g, 0, none⟩) (n + 1) cap) (n + 1) (ic (dueL ag tr now (M.take k)) ++ [.int .i64 x.n])) (hgrow : (w4.alloc O).grownBy w6 dv.ownBlock) (hat : dv.ownBlock = some g ∨ g = w4.heap.size + 1) :
    DSt w w6 B b mb ag tr now T M gv G (k + 1) kv (.slice (some ⟨g, 0, none⟩) (n + 1) cap) gv2 := by
  obtain ⟨e1, e2⟩ := take_one hx
  obtain ⟨o1, o2, o3⟩ := one_asks hs ht
  have h4s : wr.heap.size ≤ w4.heap.size := ho4.2.2.2.1
  have oA : Only dv.ownBlock.toList w4 w6 := ((Only.refl _ w4).alloc O).trans ((Only.refl _ _).grown hgrow (by simp))
  have s1 := h.s1
  have s2 := h.s2
  have gb := h.gb
  have kb := h.kb
  have bb := h.bb
  have mm := h.mm
  have db : ∀ j, dv.ownBlock = some j → B ≤ j ∧ j < wr.heap.size := fun j hj => h.due.lt j hj
  have oAll : Only (mb :: dv.ownBlock.toList) wr w6 := (ho4.mono (by simp)).trans (oA.mono (by intro k hk; simp at hk; simp [hk]))
  refine { h with gaps := ?_, keys := ?_, due := ?_, gb := ?_, s2 := Nat.le_trans s2 oAll.2.2.2.1, only := ?_ }
  · rw [e1, dM_app, gaveL_app, o1, o3, List.append_nil, List.append_assoc]
    refine h4.only oA ?_
    intro j hj hc
    simp at hc
    have := db j hc
    simp only [blks, List.mem_cons, Option.mem_toList] at hj
    rcases hj with rfl | rfl | hj
    · omega
    · omega
    · rcases gb j hj with q | q
      · omega
      · exact q.2 hc
  · refine oAll.owns h.keys ?_
    intro j hj hc
    have := kb j hj
    simp at hc
    rcases hc with hc | hc
    · omega
    · have := db j hc; omega
  · rw [e1, dueL_app, o2, List.length_append, List.length_singleton, ← hn, ic_app]
    exact hown
  · intro j hj
    rcases gb j hj with q | q
    · exact .inl q
    · refine .inr ⟨q.1, ?_⟩
      intro hd
      simp [Value.ownBlock] at hd
      rcases hat with hat | hat
      · exact q.2 (by rw [hat, hd])
      · have := h.gaps.lt j (by simp [blks, hj]); omega
  · refine past h.only oAll ?_
    intro j hj
    simp at hj
    rcases hj with rfl | hj
    · exact .inl (by simp [blks])
    · have := db j hj
      exact .inr (by omega)

set_option maxHeartbeats 1000000 in
theorem due_time (b : Nat) (nw now : Int) (w : World) (h : w.cell? ⟨b, 0, none⟩ = some (.int .i64 nw)) (ht : tf nw now ≠ 0) :
    Calls Tryz.prog 29 #[.pointer (some ⟨b, 0, none⟩), .int .i64 now] w fun e w' => e = .returned (.tuple #[.slice none 0 0, errv (tf nw now)]) ∧ Below w.heap.size w w' := by
  have HC := hidden (fun w => at_bad nw now w ht)
  generalize tf nw now = f at *
  have hc := cmp_ne f
  have hg := grd_ne f
  have d : decide (f = 0) = false := by simpa using ht
  clear ht
  go_enter Tryz.func29, Tryz.ntmps29
  go_wp2_with fail
  refine (HC.out _).mono ?_
  rintro e w1 ⟨rfl, hb1⟩
  have HB := hidden hb1
  clear hb1
  go_wp2_with fail
  go_ret2
  exact ⟨rfl, HB.out.alloc HB.out.size _⟩

set_option maxHeartbeats 4000000 in
set_option maxRecDepth 100000 in
theorem due_ok (b mb : Nat) (ag tr nw T now : Int) (M : Its) (gv : Value) (G : List Int) (w : World) (h : GapsAt w b mb ag tr nw T M gv G) (hI : GM.Inv ag tr nw T M) (ht : tf nw now = 0) (hG : G.length + M.length ≤ 1000000) :
    Calls Tryz.prog 29 #[.pointer (some ⟨b, 0, none⟩), .int .i64 now] w fun e w' => ∃ dv, e = .returned (.tuple #[dv, .nilIface]) ∧ ∃ gv2, GapsAt w' b mb ag tr now T (dM ag tr now M) gv2 (G ++ gaveL ag tr now M) ∧
      w'.ownsRow w.heap.size 3 1 dv (dueL ag tr now M).length (ic (dueL ag tr now M)) ∧ (∀ j, gv2.ownBlock = some j → (gv.ownBlock = some j ∨ w.heap.size ≤ j) ∧ dv.ownBlock ≠ some j) ∧ Only (blks b mb gv) w w' := by
  obtain ⟨i0, hii, hz0, hz1, hz2⟩ := info_parts info3
  have HC := hidden (fun w => at_ok nw now w ht)
  obtain ⟨ht0, ht1, ht2⟩ := tf_zero ht
  have HG := hidden h
  have HI := hidden hI
  have c0 := h.cells.1
  have hlen := hI.len
  have hr1 := hI.r1
  have hr2 := hI.r2
  have ha1 := hI.a1
  have ha2 := hI.a2
  have HLt := hidden h.lt
  clear h hI ht
  go_enter Tryz.func29, Tryz.ntmps29
  go_wp2_with fail
  refine (HC.out _).mono ?_
  rintro e w1 ⟨rfl, hb1⟩
  have HB := hidden hb1
  clear hb1 c0
  have HG1 : Hid (GapsAt (w1.alloc (.cells #[.int .i64 now] 89)) b mb ag tr nw T M gv G) := (HG.out.below HB.out).below ((Below.refl _ _).alloc (Nat.le_refl _) _)
  have f0 := free6 HG1.out.box 0
  have c00 := HG1.out.cells.1
  have hbw : b < w1.heap.size := (HG.out.below HB.out).lt b (by simp [blks])
  have HG2 : Hid (GapsAt ((w1.setCell ⟨b, 0, none⟩ (.int .i64 now)).alloc (.cells #[.int .i64 now] 89)) b mb ag tr now T M gv G) := ((HG.out.below HB.out).set 0 _ rfl).below ((Below.refl _ _).alloc (Nat.le_refl _) _)
  have HO2 : Hid (Only (blks b mb gv) w ((w1.setCell ⟨b, 0, none⟩ (.int .i64 now)).alloc (.cells #[.int .i64 now] 89))) := ((Only.of_below HB.out _).setCell (by simp [blks]) _).alloc _
  go_wp2_with fail
  refine (lacks_calls b mb ag tr now T M gv G _ (by exact HG2.out) HI.out.ris (by omega)).mono ?_
  rintro e w3 ⟨kv, rfl, hrow, hb3⟩
  obtain ⟨ka, kcap, rfl, hka, _, _, hkg⟩ := own_ints hrow (by omega)
  have HS0 : Hid (DSt w w3 w3.heap.size b mb ag tr now T M gv G 0 (.slice ka M.length kcap) (.slice none 0 0) gv) := by
    have hsz : w.heap.size ≤ ((w1.setCell ⟨b, 0, none⟩ (.int .i64 now)).alloc (.cells #[.int .i64 now] 89)).heap.size := HO2.out.2.2.2.1
    refine ⟨?_, own_base hrow hsz, ?_, ?_, ?_, Nat.le_trans hsz hb3.size, Nat.le_refl _, HO2.out.trans (Only.of_below hb3 _), HLt.out b (by simp [blks]), HLt.out mb (by simp [blks])⟩
    · simpa [dM, gaveL, nums] using HG2.out.below hb3
    · simpa [dueL, nums, ic] using World.ownsRow_nil w3 w3.heap.size 3 1
    · intro j hj
      have := hrow.lt j hj
      omega
    · intro j hj
      exact .inl ⟨hj, HLt.out j (by simp [blks, hj])⟩
  clear hrow hb3 hka hkg HG2 HO2 HG1 HC c00 f0
  obtain ⟨B, hB⟩ : ∃ B, w3.heap.size = B := ⟨_, rfl⟩
  rw [hB] at HS0
  clear hB
  go_wp2_with fail
  go_loopg [8, 10, 11, 31] M.length (fun g dv' _ _ i' wr => ∃ (k m : Nat) (da : Option Addr) (dc : Nat) (gv2 : Value), k + g = M.length ∧ dv' = .slice da m dc ∧ i' = .int .i64 (k : Int) ∧ Hid (m = (dueL ag tr now (M.take k)).length ∧ DSt w wr B b mb ag tr now T M gv G k (.slice ka M.length kcap) (.slice da m dc) gv2))
  case atStart => exact ⟨0, 0, none, 0, gv, by omega, rfl, rfl, by simp [dueL, nums], HS0⟩
  case round =>
    obtain ⟨k, m, da, dc, gv2, hkg, rfl, rfl, HS⟩ := hrel
    clear HS0
    by_cases hk : k < M.length
    · have hkz : (k : Int) < (M.length : Int) := by omega
      have hm200 : m ≤ 200 := by have := HS.out.1; have := due_len ag tr now (M.take k); simp at this; omega
      obtain ⟨x, hx⟩ : ∃ x, M[k]? = some x := ⟨_, List.getElem?_eq_getElem hk⟩
      have hxm := HI.out.mem x (List.mem_of_getElem? hx)
      have ht2' := HI.out.t2
      have hwf := wf_of (y := x.n) (by omega) (by omega)
      obtain ⟨ka', kcap', ek, hka, _, _, _⟩ := own_ints HS.out.2.keys (by omega)
      cases ek
      obtain ⟨kg, ko, rfl, hcell⟩ := hka.at (by omega)
      have ck := hcell k hk
      have ex : (nums M).getD k 0 = x.n := by
        rw [List.getD_eq_getElem?_getD, nums, List.getElem?_map, hx]; rfl
      rw [ex] at ck
      have hmid : (dM ag tr now (M.take k) ++ M.drop k) = dM ag tr now (M.take k) ++ x :: M.drop (k + 1) := by rw [(take_one hx).2]
      have hlook := look_at HS.out.2.gaps (x := x) (by rw [hmid]; simp) hwf
      obtain ⟨c0, c1, c2, c3, c4, c5⟩ := HS.out.2.gaps.cells
      have HX := hidden hx
      have HMid := hidden hmid
      have hxt0 : 0 ≤ x.t := hxm.2.2.1
      have hxt1 : x.t ≤ tr := hxm.2.2.2.1
      have hxa0 : 0 ≤ x.a := hxm.2.2.2.2.1
      have hxa1 : x.a ≤ nw := hxm.2.2.2.2.2
      have hgl : G.length + (gaveL ag tr now (M.take k)).length ≤ 999999 := by have := gave_len ag tr now (M.take k); simp at this; omega
      clear hcell hka ex hmid hx hxm c0 c3 c5
      have HSA : Hid (DSt w (wr.alloc (.cells #[.int .i64 x.t, .int .i64 x.a] 139)) B b mb ag tr now T M gv G k (.slice (some ⟨kg, ko, none⟩) M.length kcap) (.slice da m dc) gv2) := HS.out.2.below ((Below.refl _ _).alloc (Nat.le_refl _) _)
      have e1 := cell_alloc c1 (.cells #[.int .i64 x.t, .int .i64 x.a] 139)
      have e2 := cell_alloc c2 (.cells #[.int .i64 x.t, .int .i64 x.a] 139)
      have HM := hidden HS.out.1
      clear HS
      obtain ⟨xn, hxn⟩ : ∃ xn, x.n = xn := ⟨_, rfl⟩
      obtain ⟨xt, hxt⟩ : ∃ xt, x.t = xt := ⟨_, rfl⟩
      obtain ⟨xa, hxa⟩ : ∃ xa, x.a = xa := ⟨_, rfl⟩
      rw [hxt, hxa] at HSA e1 e2 hlook
      rw [hxn] at hlook ck hwf
      rw [hxt] at hxt0 hxt1
      rw [hxa] at hxa0 hxa1
      have HXn := hidden hxn
      have HXt := hidden hxt
      have HXa := hidden hxa
      clear hxn hxt hxa
      by_cases hs : 0 < xt ∧ now - xa < ag
      · have d1 : decide (0 < xt) = true := by simpa using hs.1
        have d2 : decide (now - xa < ag) = true := by simpa using hs.2
        have HStay : Hid (stays ag now x = true) := by unfold stays; rw [HXt.out, HXa.out, d1, d2]; rfl
        clear hs
        go_wp2_with fail
        go_quiet (fail)
        go_wp2_with fail
        go_roundg (M.length - (k + 1))
        case measure => omega
        case rel => 
          have HF := hidden ((HSA.out.below (below_drewN (Below.refl _ _) nq)).stay HX.out HStay.out)
          exact ⟨k + 1, m, da, dc, gv2, by omega, rfl, by go_num, by have := HM.out; rw [(take_one HX.out).1, dueL_app, (one_stays (tr := tr) HStay.out).2.1, List.append_nil]; exact this, HF.out⟩
      · have HNo : Hid (stays ag now x = false) := by
          refine hidden ?_
          unfold stays
          rw [HXt.out, HXa.out]
          by_cases q : 0 < xt
          · have q2 : ¬ now - xa < ag := fun h => hs ⟨q, h⟩
            simp [q2]
          · simp [q]
        by_cases hp : 0 < xt
        · by_cases hxe : xt = tr
          · have d1 : decide (0 < xt) = true := by simpa using hp
            have d2 : decide (now - xa < ag) = false := by simp; omega
            clear hs hp
            have dq : (xt == tr) = true := by simpa using hxe
            have HXe := hidden hxe
            clear hxe
            go_wp2_with fail
            go_quiet (fail)
            obtain ⟨wq, hwq⟩ : ∃ wq, (wr.alloc (.cells #[.int .i64 xt, .int .i64 xa] 139)).drewN nq = wq := ⟨_, rfl⟩
            have hcx : wq.cell? ⟨wr.heap.size, 0, none⟩ = some (.int .i64 xt) := by rw [← hwq]; exact (cells2 (heap_alloc_new wr (.cells #[.int .i64 xt, .int .i64 xa] 139))).1
            have HSq : Hid (DSt w wq B b mb ag tr now T M gv G k (.slice (some ⟨kg, ko, none⟩) M.length kcap) (.slice da m dc) gv2) := by rw [← hwq]; exact HSA.out.below (below_drewN (Below.refl _ _) _)
            rw [hwq]
            clear hwq HSA e1 e2 hlook ck
            obtain ⟨c0, c1, c2, c3, c4, c5⟩ := HSq.out.gaps.cells
            go_wp2_with fail
            go_quiet (fail)
            obtain ⟨wp, hwp⟩ : ∃ wp, wq.drewN nq = wp := ⟨_, rfl⟩
            have HSp : Hid (DSt w wp B b mb ag tr now T M gv G k (.slice (some ⟨kg, ko, none⟩) M.length kcap) (.slice da m dc) gv2) := by rw [← hwp]; exact HSq.out.below (below_drewN (Below.refl _ _) _)
            rw [hwp]
            clear hwp HSq c0 c1 c2 c3 c4 c5 hcx
            obtain ⟨c0, c1, c2, c3, c4, c5⟩ := HSp.out.gaps.cells
            obtain ⟨n, hn⟩ : ∃ n, n = (G ++ gaveL ag tr now (M.take k)).length := ⟨_, rfl⟩
            have hn9 : n ≤ 999999 := by rw [hn, List.length_append]; exact hgl
            have HN := hidden hn
            have hrow2 : wp.ownsRow 0 3 1 gv2 n (ic (G ++ gaveL ag tr now (M.take k))) := by rw [hn]; exact HSp.out.gaps.row
            clear hn
            obtain ⟨g2a, g2c, eg2, _⟩ := own_ints hrow2 (by omega)
            subst eg2
            clear hrow2
            obtain ⟨D, hown, hK, hE⟩ := HSp.out.gaps.map
            have HO := hidden hown
            have HDel : Hid (∀ w4, w4.ownsMap Tryz.prog 3 akR mb (dM ag tr now (M.take k) ++ M.drop k).length (D.del (key xn)) → wp.mapTurned w4 mb → GapsAt w4 b mb ag tr now T (dM ag tr now (M.take k) ++ M.drop (k + 1)) (.slice g2a n g2c) (G ++ gaveL ag tr now (M.take k)) ∧ Only [mb] wp w4) := by
              refine hidden (fun w4 hown4 hturn4 => ?_)
              have ho4 : Only [mb] wp w4 := (Only.refl [mb] _).grown hturn4.grown (by simp)
              refine ⟨del_mid (x := x) (D := D) ?_ ?_ ?_ (ris_mid HI.out HX.out) (by rw [HXn.out]; exact hown4) ho4, ho4⟩
              · rw [← HMid.out]; exact HSp.out.gaps
              · rw [← HMid.out]; exact hK
              · rw [← HMid.out]; exact hE
            clear hown hK hE
            go_wp2_with (first
              | (at_delete; refine wpList_delete_own _ rfl _ _ 121 3 rfl 139 law3 Tryz.underlying121 _ mb _ D rfl HO.out _ _ rfl (keyOf3 hwf) ?_; intro w4 hown4 hturn4; have HG4 := hidden (HDel.out w4 hown4 hturn4).1; have HO4 := hidden (HDel.out w4 hown4 hturn4).2; have k5 := HG4.out.cells.2.2.2.2.2; have HRow : Hid (w4.ownsRow 0 3 1 (.slice g2a n g2c) n (ic (G ++ gaveL ag tr now (M.take k)))) := (by rw [HN.out]; rw [HN.out] at HG4; exact HG4.out.row); clear hown4 hturn4)
              | (at_builtin; refine wpList_append_lies _ rfl _ _ 35 rfl 0 3 i0 _ 1 8 Tryz.underlying35 hii hz0 hz1 hz2 rfl (by decide) _ n (ic (G ++ gaveL ag tr now (M.take k))) rfl (HRow.out.alloc _) ⟨w4.heap.size, 0, none⟩ 1 1 [.int .i64 xn] rfl rfl (World.news_of_block (cs := #[.int .i64 xn]) (t := 3) (fr := (0, 0)) (heap_alloc_new w4 _)) ?c2 (by omega) ?b1 ?b2 (Nat.zero_le _) (w4.heap.size + 1) (by simp) ?next))
            case c2 => intro u hu'; simp at hu'; subst hu'; rfl
            case b1 => unfold maxLen; omega
            case b2 => omega
            case next =>
              intro gg cap6 w6 hown6 hgrow6 hat6 hlt6
              have hbb : b < w4.heap.size := HG4.out.lt b (by simp [blks])
              have hb6 : w6.heap[b]? = _ := (hgrow6.block b (by simp; omega) (by intro e; have := (HG4.out.ne.2 b e.symm).1; omega)).trans ((Below.heap_alloc _ _ _ hbb).trans HG4.out.box)
              have k6 := (cells6 hb6).2.2.2.2.2
              have f6 := free6 hb6 5
              have HF : Hid (DSt w (w6.setCell ⟨b, 5, none⟩ (.slice (some ⟨gg, 0, none⟩) (n + 1) cap6)) B b mb ag tr now T M gv G (k + 1) (.slice (some ⟨kg, ko, none⟩) M.length kcap) (.slice da m dc) (.slice (some ⟨gg, 0, none⟩) (n + 1) cap6)) :=
                HSp.out.give HX.out HNo.out (by rw [HXt.out]; exact HXe.out) HG4.out HO4.out HN.out (by rw [HXn.out]; exact hown6) hgrow6 hat6
              clear hown6 hgrow6 hat6 hlt6 hb6
              go_wp2_with fail
              go_roundg (M.length - (k + 1))
              case measure => omega
              case rel => exact ⟨k + 1, m, da, dc, _, by omega, rfl, by go_num, by have := HM.out; rw [(take_one HX.out).1, dueL_app, (one_gives HNo.out (HXt.out.trans HXe.out)).2.1, List.append_nil]; exact this, HF.out⟩
          · have d1 : decide (0 < xt) = true := by simpa using hp
            have d2 : decide (now - xa < ag) = false := by simp; omega
            clear hs hp
            have dq : (xt == tr) = false := by simpa using hxe
            have HXe := hidden hxe
            clear hxe
            go_wp2_with fail
            go_quiet (fail)
            obtain ⟨wq, hwq⟩ : ∃ wq, (wr.alloc (.cells #[.int .i64 xt, .int .i64 xa] 139)).drewN nq = wq := ⟨_, rfl⟩
            have hcx : wq.cell? ⟨wr.heap.size, 0, none⟩ = some (.int .i64 xt) := by rw [← hwq]; exact (cells2 (heap_alloc_new wr (.cells #[.int .i64 xt, .int .i64 xa] 139))).1
            have HSq : Hid (DSt w wq B b mb ag tr now T M gv G k (.slice (some ⟨kg, ko, none⟩) M.length kcap) (.slice da m dc) gv2) := by rw [← hwq]; exact HSA.out.below (below_drewN (Below.refl _ _) _)
            rw [hwq]
            clear hwq HSA e1 e2 hlook ck
            obtain ⟨c0, c1, c2, c3, c4, c5⟩ := HSq.out.gaps.cells
            go_wp2_with fail
            go_quiet (fail)
            obtain ⟨wp, hwp⟩ : ∃ wp, wq.drewN nq = wp := ⟨_, rfl⟩
            have HSp : Hid (DSt w wp B b mb ag tr now T M gv G k (.slice (some ⟨kg, ko, none⟩) M.length kcap) (.slice da m dc) gv2) := by rw [← hwp]; exact HSq.out.below (below_drewN (Below.refl _ _) _)
            have hcy : wp.cell? ⟨wr.heap.size, 0, none⟩ = some (.int .i64 xt) := by rw [← hwp]; exact hcx
            rw [hwp]
            clear hwp HSq c0 c1 c2 c3 c4 c5 hcx
            obtain ⟨c0, c1, c2, c3, c4, c5⟩ := HSp.out.gaps.cells
            have HSd : Hid (DSt w wp.drew B b mb ag tr now T M gv G k (.slice (some ⟨kg, ko, none⟩) M.length kcap) (.slice da m dc) gv2) := HSp.out.below (Below.refl _ _).drew
            obtain ⟨w4, hrun4, hg4, ho4⟩ := store_set (A := dM ag tr now (M.take k)) (B := M.drop (k + 1)) (x := x) (by rw [← HMid.out]; exact HSd.out.gaps) ⟨x.n, x.t + 1, now⟩ rfl (ris_mid HI.out HX.out) (ris_next (ris_mid HI.out HX.out) rfl) (by rw [HXn.out]; exact hwf) (by have := mid_len (ag := ag) (tr := tr) (now := now) HX.out; omega)
            rw [HXn.out, HXt.out] at hrun4
            have HG4 := hidden hg4
            have HO4 := hidden ho4
            clear hg4 ho4
            go_wp2_with fail
            go_region
            all_goals go_wp2_with (at_builtin; refine wpList_append_lies _ rfl _ _ 35 rfl B 3 i0 _ 1 8 Tryz.underlying35 hii hz0 hz1 hz2 rfl (by decide) _ m (ic (dueL ag tr now (M.take k))) rfl ?own ⟨w4.heap.size, 0, none⟩ 1 1 [.int .i64 xn] rfl rfl (World.news_of_block (cs := #[.int .i64 xn]) (t := 3) (fr := (0, 0)) (heap_alloc_new w4 _)) ?c2 (by omega) ?b1 ?b2 ?b3 (w4.heap.size + 1) (by simp) ?next)
            case own => 
              have hd := HSd.out.due
              rw [← HM.out] at hd
              refine (HO4.out.owns hd ?_).alloc _
              intro j hj hc
              have h1 := (hd.lt j hj).1
              have h2 := HSd.out.mm
              have h3 := HSd.out.s1
              simp at hc
              omega
            case c2 => intro u hu'; simp at hu'; subst hu'; rfl
            case b1 => unfold maxLen; omega
            case b2 => omega
            case b3 => have h1 := HSd.out.s2; have h2 := HO4.out.2.2.2.1; simp; omega
            case next =>
              intro gg cap6 w6 hown6 hgrow6 hat6 hlt6
              have HF : Hid (DSt w w6 B b mb ag tr now T M gv G (k + 1) (.slice (some ⟨kg, ko, none⟩) M.length kcap) (.slice (some ⟨gg, 0, none⟩) (m + 1) cap6) gv2) :=
                HSd.out.ask HX.out HNo.out (by rw [HXt.out]; exact HXe.out) HG4.out HO4.out HM.out (by rw [HXn.out]; exact hown6) hgrow6 hat6
              clear hown6 hgrow6 hat6 hlt6
              go_wp2_with fail
              go_roundg (M.length - (k + 1))
              case measure => omega
              case rel => exact ⟨k + 1, m + 1, some ⟨gg, 0, none⟩, cap6, gv2, by omega, rfl, by go_num, by have := HM.out; rw [(take_one HX.out).1, dueL_app, (one_asks HNo.out (by rw [HXt.out]; exact HXe.out)).2.1, List.length_append, List.length_singleton, ← this], HF.out⟩
        · by_cases hxe : xt = tr
          · have d1 : decide (0 < xt) = false := by simpa using hp
            clear hs hp
            have dq : (xt == tr) = true := by simpa using hxe
            have HXe := hidden hxe
            clear hxe
            go_wp2_with fail
            go_quiet (fail)
            obtain ⟨wq, hwq⟩ : ∃ wq, (wr.alloc (.cells #[.int .i64 xt, .int .i64 xa] 139)).drewN nq = wq := ⟨_, rfl⟩
            have hcx : wq.cell? ⟨wr.heap.size, 0, none⟩ = some (.int .i64 xt) := by rw [← hwq]; exact (cells2 (heap_alloc_new wr (.cells #[.int .i64 xt, .int .i64 xa] 139))).1
            have HSq : Hid (DSt w wq B b mb ag tr now T M gv G k (.slice (some ⟨kg, ko, none⟩) M.length kcap) (.slice da m dc) gv2) := by rw [← hwq]; exact HSA.out.below (below_drewN (Below.refl _ _) _)
            rw [hwq]
            clear hwq HSA e1 e2 hlook ck
            obtain ⟨c0, c1, c2, c3, c4, c5⟩ := HSq.out.gaps.cells
            go_wp2_with fail
            go_quiet (fail)
            obtain ⟨wp, hwp⟩ : ∃ wp, wq.drewN nq = wp := ⟨_, rfl⟩
            have HSp : Hid (DSt w wp B b mb ag tr now T M gv G k (.slice (some ⟨kg, ko, none⟩) M.length kcap) (.slice da m dc) gv2) := by rw [← hwp]; exact HSq.out.below (below_drewN (Below.refl _ _) _)
            rw [hwp]
            clear hwp HSq c0 c1 c2 c3 c4 c5 hcx
            obtain ⟨c0, c1, c2, c3, c4, c5⟩ := HSp.out.gaps.cells
            obtain ⟨n, hn⟩ : ∃ n, n = (G ++ gaveL ag tr now (M.take k)).length := ⟨_, rfl⟩
            have hn9 : n ≤ 999999 := by rw [hn, List.length_append]; exact hgl
            have HN := hidden hn
            have hrow2 : wp.ownsRow 0 3 1 gv2 n (ic (G ++ gaveL ag tr now (M.take k))) := by rw [hn]; exact HSp.out.gaps.row
            clear hn
            obtain ⟨g2a, g2c, eg2, _⟩ := own_ints hrow2 (by omega)
            subst eg2
            clear hrow2
            obtain ⟨D, hown, hK, hE⟩ := HSp.out.gaps.map
            have HO := hidden hown
            have HDel : Hid (∀ w4, w4.ownsMap Tryz.prog 3 akR mb (dM ag tr now (M.take k) ++ M.drop k).length (D.del (key xn)) → wp.mapTurned w4 mb → GapsAt w4 b mb ag tr now T (dM ag tr now (M.take k) ++ M.drop (k + 1)) (.slice g2a n g2c) (G ++ gaveL ag tr now (M.take k)) ∧ Only [mb] wp w4) := by
              refine hidden (fun w4 hown4 hturn4 => ?_)
              have ho4 : Only [mb] wp w4 := (Only.refl [mb] _).grown hturn4.grown (by simp)
              refine ⟨del_mid (x := x) (D := D) ?_ ?_ ?_ (ris_mid HI.out HX.out) (by rw [HXn.out]; exact hown4) ho4, ho4⟩
              · rw [← HMid.out]; exact HSp.out.gaps
              · rw [← HMid.out]; exact hK
              · rw [← HMid.out]; exact hE
            clear hown hK hE
            go_wp2_with (first
              | (at_delete; refine wpList_delete_own _ rfl _ _ 121 3 rfl 139 law3 Tryz.underlying121 _ mb _ D rfl HO.out _ _ rfl (keyOf3 hwf) ?_; intro w4 hown4 hturn4; have HG4 := hidden (HDel.out w4 hown4 hturn4).1; have HO4 := hidden (HDel.out w4 hown4 hturn4).2; have k5 := HG4.out.cells.2.2.2.2.2; have HRow : Hid (w4.ownsRow 0 3 1 (.slice g2a n g2c) n (ic (G ++ gaveL ag tr now (M.take k)))) := (by rw [HN.out]; rw [HN.out] at HG4; exact HG4.out.row); clear hown4 hturn4)
              | (at_builtin; refine wpList_append_lies _ rfl _ _ 35 rfl 0 3 i0 _ 1 8 Tryz.underlying35 hii hz0 hz1 hz2 rfl (by decide) _ n (ic (G ++ gaveL ag tr now (M.take k))) rfl (HRow.out.alloc _) ⟨w4.heap.size, 0, none⟩ 1 1 [.int .i64 xn] rfl rfl (World.news_of_block (cs := #[.int .i64 xn]) (t := 3) (fr := (0, 0)) (heap_alloc_new w4 _)) ?c2 (by omega) ?b1 ?b2 (Nat.zero_le _) (w4.heap.size + 1) (by simp) ?next))
            case c2 => intro u hu'; simp at hu'; subst hu'; rfl
            case b1 => unfold maxLen; omega
            case b2 => omega
            case next =>
              intro gg cap6 w6 hown6 hgrow6 hat6 hlt6
              have hbb : b < w4.heap.size := HG4.out.lt b (by simp [blks])
              have hb6 : w6.heap[b]? = _ := (hgrow6.block b (by simp; omega) (by intro e; have := (HG4.out.ne.2 b e.symm).1; omega)).trans ((Below.heap_alloc _ _ _ hbb).trans HG4.out.box)
              have k6 := (cells6 hb6).2.2.2.2.2
              have f6 := free6 hb6 5
              have HF : Hid (DSt w (w6.setCell ⟨b, 5, none⟩ (.slice (some ⟨gg, 0, none⟩) (n + 1) cap6)) B b mb ag tr now T M gv G (k + 1) (.slice (some ⟨kg, ko, none⟩) M.length kcap) (.slice da m dc) (.slice (some ⟨gg, 0, none⟩) (n + 1) cap6)) :=
                HSp.out.give HX.out HNo.out (by rw [HXt.out]; exact HXe.out) HG4.out HO4.out HN.out (by rw [HXn.out]; exact hown6) hgrow6 hat6
              clear hown6 hgrow6 hat6 hlt6 hb6
              go_wp2_with fail
              go_roundg (M.length - (k + 1))
              case measure => omega
              case rel => exact ⟨k + 1, m, da, dc, _, by omega, rfl, by go_num, by have := HM.out; rw [(take_one HX.out).1, dueL_app, (one_gives HNo.out (HXt.out.trans HXe.out)).2.1, List.append_nil]; exact this, HF.out⟩
          · have d1 : decide (0 < xt) = false := by simpa using hp
            clear hs hp
            have dq : (xt == tr) = false := by simpa using hxe
            have HXe := hidden hxe
            clear hxe
            go_wp2_with fail
            go_quiet (fail)
            obtain ⟨wq, hwq⟩ : ∃ wq, (wr.alloc (.cells #[.int .i64 xt, .int .i64 xa] 139)).drewN nq = wq := ⟨_, rfl⟩
            have hcx : wq.cell? ⟨wr.heap.size, 0, none⟩ = some (.int .i64 xt) := by rw [← hwq]; exact (cells2 (heap_alloc_new wr (.cells #[.int .i64 xt, .int .i64 xa] 139))).1
            have HSq : Hid (DSt w wq B b mb ag tr now T M gv G k (.slice (some ⟨kg, ko, none⟩) M.length kcap) (.slice da m dc) gv2) := by rw [← hwq]; exact HSA.out.below (below_drewN (Below.refl _ _) _)
            rw [hwq]
            clear hwq HSA e1 e2 hlook ck
            obtain ⟨c0, c1, c2, c3, c4, c5⟩ := HSq.out.gaps.cells
            go_wp2_with fail
            go_quiet (fail)
            obtain ⟨wp, hwp⟩ : ∃ wp, wq.drewN nq = wp := ⟨_, rfl⟩
            have HSp : Hid (DSt w wp B b mb ag tr now T M gv G k (.slice (some ⟨kg, ko, none⟩) M.length kcap) (.slice da m dc) gv2) := by rw [← hwp]; exact HSq.out.below (below_drewN (Below.refl _ _) _)
            have hcy : wp.cell? ⟨wr.heap.size, 0, none⟩ = some (.int .i64 xt) := by rw [← hwp]; exact hcx
            rw [hwp]
            clear hwp HSq c0 c1 c2 c3 c4 c5 hcx
            obtain ⟨c0, c1, c2, c3, c4, c5⟩ := HSp.out.gaps.cells
            have HSd : Hid (DSt w wp.drew B b mb ag tr now T M gv G k (.slice (some ⟨kg, ko, none⟩) M.length kcap) (.slice da m dc) gv2) := HSp.out.below (Below.refl _ _).drew
            obtain ⟨w4, hrun4, hg4, ho4⟩ := store_set (A := dM ag tr now (M.take k)) (B := M.drop (k + 1)) (x := x) (by rw [← HMid.out]; exact HSd.out.gaps) ⟨x.n, x.t + 1, now⟩ rfl (ris_mid HI.out HX.out) (ris_next (ris_mid HI.out HX.out) rfl) (by rw [HXn.out]; exact hwf) (by have := mid_len (ag := ag) (tr := tr) (now := now) HX.out; omega)
            rw [HXn.out, HXt.out] at hrun4
            have HG4 := hidden hg4
            have HO4 := hidden ho4
            clear hg4 ho4
            go_wp2_with fail
            go_region
            all_goals go_wp2_with (at_builtin; refine wpList_append_lies _ rfl _ _ 35 rfl B 3 i0 _ 1 8 Tryz.underlying35 hii hz0 hz1 hz2 rfl (by decide) _ m (ic (dueL ag tr now (M.take k))) rfl ?own ⟨w4.heap.size, 0, none⟩ 1 1 [.int .i64 xn] rfl rfl (World.news_of_block (cs := #[.int .i64 xn]) (t := 3) (fr := (0, 0)) (heap_alloc_new w4 _)) ?c2 (by omega) ?b1 ?b2 ?b3 (w4.heap.size + 1) (by simp) ?next)
            case own => 
              have hd := HSd.out.due
              rw [← HM.out] at hd
              refine (HO4.out.owns hd ?_).alloc _
              intro j hj hc
              have h1 := (hd.lt j hj).1
              have h2 := HSd.out.mm
              have h3 := HSd.out.s1
              simp at hc
              omega
            case c2 => intro u hu'; simp at hu'; subst hu'; rfl
            case b1 => unfold maxLen; omega
            case b2 => omega
            case b3 => have h1 := HSd.out.s2; have h2 := HO4.out.2.2.2.1; simp; omega
            case next =>
              intro gg cap6 w6 hown6 hgrow6 hat6 hlt6
              have HF : Hid (DSt w w6 B b mb ag tr now T M gv G (k + 1) (.slice (some ⟨kg, ko, none⟩) M.length kcap) (.slice (some ⟨gg, 0, none⟩) (m + 1) cap6) gv2) :=
                HSd.out.ask HX.out HNo.out (by rw [HXt.out]; exact HXe.out) HG4.out HO4.out HM.out (by rw [HXn.out]; exact hown6) hgrow6 hat6
              clear hown6 hgrow6 hat6 hlt6
              go_wp2_with fail
              go_roundg (M.length - (k + 1))
              case measure => omega
              case rel => exact ⟨k + 1, m + 1, some ⟨gg, 0, none⟩, cap6, gv2, by omega, rfl, by go_num, by have := HM.out; rw [(take_one HX.out).1, dueL_app, (one_asks HNo.out (by rw [HXt.out]; exact HXe.out)).2.1, List.length_append, List.length_singleton, ← this], HF.out⟩
    · have hkz : ¬ (k : Int) < (M.length : Int) := by omega
      obtain rfl : k = M.length := by omega
      go_wp2_with fail
      go_ret2
      have hf := HS.out.2
      have hm := HS.out.1
      refine ⟨_, rfl, gv2, ?_, ?_, ?_, hf.only⟩
      · have := hf.gaps
        rw [List.take_length, List.drop_length, List.append_nil] at this
        exact this
      · have := hf.due
        rw [List.take_length] at this
        exact own_base this hf.s1
      · intro j hj
        rcases hf.gb j hj with q | q
        · refine ⟨.inl q.1, fun hd => ?_⟩
          have h1 := (hf.due.lt j hd).1
          have h2 := hf.s1
          omega
        · exact ⟨.inr (by have h2 := hf.s1; omega), q.2⟩
end Go.Proofs.YtpiamlgmadnepaaGreat.Gaps

