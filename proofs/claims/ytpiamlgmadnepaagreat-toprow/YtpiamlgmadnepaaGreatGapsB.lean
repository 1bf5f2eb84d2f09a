/-
  What rise and GaveUp of package gaps return, and what they leave in memory. Their condition: what is lacking is such as it may be.
-/
import Derived.Test.YtpiamlgmadnepaaGreatGapsA
import Derived.RegionTactic
namespace Go.Proofs.YtpiamlgmadnepaaGreat.Gaps
open Go.ChangeShapes Go.WideShapes Go.ChangeAt Go.RowKit Go.Maps Go.Sort Go.Shelf Go.Proofs.YtpiamlgmadnepaaGreat.Mem Go.Proofs.YtpiamlgmadnepaaGreat.GM
set_option linter.unusedVariables false

/-- the map alone has changed -/
theorem GapsAt.turned {w w' : World} {b mb : Nat} {ag tr nw T : Int} {M M' : Its} {gv : Value} {G : List Int} (h : GapsAt w b mb ag tr nw T M gv G) (ho : Only [mb] w w') (hm : ∃ D, w'.ownsMap Tryz.prog 3 akR mb M'.length D ∧ Keys D M' ∧ Elems D M') : GapsAt w' b mb ag tr nw T M' gv G := by
  have hne := h.ne
  exact ⟨ho.block h.box (by simp; exact hne.1), hm, ho.owns h.row (fun k hk => by simp; exact (hne.2 k hk).2)⟩
theorem store_new {w : World} {b mb : Nat} {ag tr nw T : Int} {M : Its} {gv : Value} {G : List Int} (h : GapsAt w b mb ag tr nw T M gv G) (x : Lk) (hx : ∀ i ∈ M, i.n ≠ x.n) (hw : (Lit.int .i64 x.n).wf = true) (hl : M.length ≤ 1000) :
    ∃ w2, (Instr.mapUpdate 121 (.map (some mb)) (.int .i64 x.n) (.agg #[.int .i64 x.t, .int .i64 x.a])).run Tryz.prog w = .ok () w2 ∧ GapsAt w2 b mb ag tr nw T (M ++ [x]) gv G ∧ Only [mb] w w2 := by
  obtain ⟨D, hown, hK, hE⟩ := h.map
  obtain ⟨w2, hrun, hown2, hturn⟩ := hown.store law3 Tryz.underlying121 (by unfold maxLen; omega) (keyOf3 hw) (akR_mk x.t x.a)
  have ho : Only [mb] w w2 := (Only.refl _ _).grown hturn.grown (by simp)
  refine ⟨w2, hrun, h.turned ho ⟨_, ?_, keys_put hown.isMap hK x _, elems_put hown.isMap hE hx⟩, ho⟩
  simpa [lv] using hown2
theorem store_set {w : World} {b mb : Nat} {ag tr nw T : Int} {A B : Its} {gv : Value} {G : List Int} {x : Lk} (h : GapsAt w b mb ag tr nw T (A ++ x :: B) gv G) (y : Lk) (hy : y.n = x.n) (hr : Ris (A ++ x :: B)) (hr2 : Ris (A ++ y :: B)) (hw : (Lit.int .i64 x.n).wf = true) (hl : (A ++ x :: B).length ≤ 1000) :
    ∃ w2, (Instr.mapUpdate 121 (.map (some mb)) (.int .i64 x.n) (.agg #[.int .i64 y.t, .int .i64 y.a])).run Tryz.prog w = .ok () w2 ∧ GapsAt w2 b mb ag tr nw T (A ++ y :: B) gv G ∧ Only [mb] w w2 := by
  obtain ⟨D, hown, hK, hE⟩ := h.map
  obtain ⟨w2, hrun, hown2, hturn⟩ := hown.store law3 Tryz.underlying121 (by unfold maxLen; omega) (keyOf3 hw) (akR_mk y.t y.a)
  have ho : Only [mb] w w2 := (Only.refl _ _).grown hturn.grown (by simp)
  have hK2 := keys_set hown.isMap hK hy (.held (.agg #[.int .i64 y.t, .int .i64 y.a]))
  refine ⟨w2, hrun, h.turned ho ⟨_, ?_, hK2, elems_set hown.isMap hE hy (apart_mid hr)⟩, ho⟩
  have ht := GM.tight hown2
  rw [hK2.size (hown2.entries law3) hr2.apart] at ht
  exact ht
theorem del_mid {w w2 : World} {b mb n : Nat} {ag tr nw T : Int} {A B : Its} {gv : Value} {G : List Int} {x : Lk} {D : DataW Value} (h : GapsAt w b mb ag tr nw T (A ++ x :: B) gv G) (hK : Keys D (A ++ x :: B)) (hE : Elems D (A ++ x :: B)) (hr : Ris (A ++ x :: B)) (hown : w2.ownsMap Tryz.prog 3 akR mb n (D.del (key x.n))) (ho : Only [mb] w w2) : GapsAt w2 b mb ag tr nw T (A ++ B) gv G := by
  have ha := apart_mid hr
  have hK2 := keys_del hK ha
  refine h.turned ho ⟨_, ?_, hK2, elems_del hE ha⟩
  have ht := GM.tight hown
  have hr2 : Ris (A ++ B) := by
    unfold Ris at hr ⊢
    rw [List.pairwise_append, List.pairwise_cons] at hr
    rw [List.pairwise_append]
    exact ⟨hr.1, hr.2.1.2, fun a h1 c h2 => hr.2.2 a h1 c (by simp [h2])⟩
  rw [hK2.size (hown.entries law3) hr2.apart] at ht
  exact ht
theorem del_any {w w2 : World} {b mb n : Nat} {ag tr nw T y : Int} {M : Its} {gv : Value} {G : List Int} {D : DataW Value} (h : GapsAt w b mb ag tr nw T M gv G) (hK : Keys D M) (hE : Elems D M) (hr : Ris M) (hown : w2.ownsMap Tryz.prog 3 akR mb n (D.del (key y))) (ho : Only [mb] w w2) : GapsAt w2 b mb ag tr nw T (M.filter fun i => decide (i.n ≠ y)) gv G := by
  have hK2 := keys_strike hK y
  refine h.turned ho ⟨_, ?_, hK2, elems_strike hE y⟩
  have ht := GM.tight hown
  have hr2 : Ris (M.filter fun i => decide (i.n ≠ y)) := hr.filter _
  rw [hK2.size (hown.entries law3) hr2.apart] at ht
  exact ht

/-- under way: so many are lacking by now -/
def RSt (w wr : World) (b mb : Nat) (ag tr nw T : Int) (M : Its) (gv : Value) (G : List Int) (k : Nat) : Prop := GapsAt wr b mb ag tr nw T (M ++ fresh T k) gv G ∧ Only [b, mb] w wr
theorem rst_step {w wr : World} {b mb k : Nat} {ag tr nw T : Int} {M : Its} {gv : Value} {G : List Int} (h : RSt w wr b mb ag tr nw T M gv G k) (hm : ∀ x ∈ M, x.n ≤ T) (h0 : -1 ≤ T) (h1 : T ≤ 1099511627776) (hl : M.length + k ≤ 1000) :
    ∃ w2, (Instr.mapUpdate 121 (.map (some mb)) (.int .i64 (T + 1 + (k : Int))) (.agg #[.int .i64 0, .int .i64 0])).run Tryz.prog wr = .ok () w2 ∧ RSt w w2 b mb ag tr nw T M gv G (k + 1) := by
  obtain ⟨g1, g2⟩ := h
  obtain ⟨w2, hrun, hg, ho⟩ := store_new g1 ⟨T + 1 + (k : Int), 0, 0⟩ (by
    intro i hi
    rcases List.mem_append.1 hi with hi | hi
    · have := hm i hi; simp only; omega
    · obtain ⟨j, hj, rfl⟩ := mem_fresh.1 hi
      simp only
      omega) (wf_of (by simp only; omega) (by simp only; omega)) (by rw [List.length_append, fresh_len]; omega)
  refine ⟨w2, hrun, ?_, g2.trans (ho.mono (by simp))⟩
  rw [fresh_succ, ← List.append_assoc]
  exact hg

set_option maxHeartbeats 1000000 in
set_option maxRecDepth 100000 in
theorem rise_calls (b mb : Nat) (ag tr nw T y : Int) (M : Its) (gv : Value) (G : List Int) (w : World) (h : GapsAt w b mb ag tr nw T M gv G) (hm : ∀ x ∈ M, x.n ≤ T) (h0 : -1 ≤ T) (h1 : T ≤ 1099511627776) (h2 : 0 ≤ y) (h3 : y ≤ 1099511627776) (hl : (M.length : Int) + lo T y ≤ 200) :
    Calls Tryz.prog 68 #[.pointer (some ⟨b, 0, none⟩), .int .i64 y] w fun e w' => e = .returned (.tuple #[]) ∧ GapsAt w' b mb ag tr nw y (M ++ fresh T (lo T y).toNat) gv G ∧ Only [b, mb] w w' := by
  have HC := hidden (fun w h => leftOut_calls b T y w h h0 h1 h2 h3)
  have hlo := @lo_nn T y
  obtain ⟨K, hK⟩ : ∃ K : Nat, lo T y = (K : Int) := ⟨(lo T y).toNat, by omega⟩
  rw [hK] at HC hl ⊢
  rw [Int.toNat_natCast]
  clear hK hlo
  have HS0 : Hid (RSt w w b mb ag tr nw T M gv G 0) := ⟨by simpa [fresh] using h, Only.refl _ _⟩
  have HM := hidden hm
  have c3 := h.cells.2.2.2.1
  clear h hm
  go_enter Tryz.func68, Tryz.ntmps68
  go_wp2_with fail
  refine (HC.out _ (by exact c3)).mono ?_
  rintro e w1 ⟨rfl, rfl⟩
  clear c3
  go_wp2_with fail
  go_loopg [4, 8] K (fun g _ i' wr => ∃ (k : Nat), k + g = K ∧ i' = .int .i64 (k : Int) ∧ Hid (RSt w1 wr b mb ag tr nw T M gv G k))
  case atStart => exact ⟨0, by omega, rfl, HS0⟩
  case round =>
    obtain ⟨k, hkg, rfl, HS⟩ := hrel
    clear HS0
    obtain ⟨c0, c1, c2, c3, c4, c5⟩ := HS.out.1.cells
    have f3 := free6 HS.out.1.box 3
    clear c0 c1 c2 c5
    by_cases hk : k < K
    · have hkz : (k : Int) < (K : Int) := by omega
      have HSd : Hid (RSt w1 wr.drew b mb ag tr nw T M gv G k) := ⟨HS.out.1.below (Below.refl _ _).drew, HS.out.2.drew⟩
      obtain ⟨w2, hrun, hst⟩ := rst_step HSd.out HM.out h0 h1 (by omega)
      have HS2 := hidden hst
      clear hst HSd HS
      go_wp2_with fail
      go_region
      all_goals go_wp2_with fail
      go_roundg (K - (k + 1))
      case measure => omega
      case rel => exact ⟨k + 1, by omega, by go_num, HS2⟩
    · have hkz : ¬ (k : Int) < (K : Int) := by omega
      obtain rfl : k = K := by omega
      go_wp2_with fail
      go_end0
      exact ⟨rfl, HS.out.1.set 3 _ rfl, HS.out.2.setCell (by simp) _⟩

set_option maxHeartbeats 1000000 in
theorem gaveUp_calls (b mb : Nat) (ag tr nw T : Int) (M : Its) (gv : Value) (G : List Int) (w : World) (h : GapsAt w b mb ag tr nw T M gv G) (hl : G.length ≤ 1000000) :
    Calls Tryz.prog 30 #[.pointer (some ⟨b, 0, none⟩)] w fun e w' => e = .returned gv ∧ GapsAt w' b mb ag tr nw T M (.slice none 0 0) [] ∧ w'.ownsRow 0 3 1 gv G.length (ic (G.mergeSort fun x y => decide (x ≤ y))) ∧ Only (blks b mb gv) w w' := by
  obtain ⟨c0, c1, c2, c3, c4, c5⟩ := h.cells
  have f5 := free6 h.box 5
  have hne := h.ne
  have HG : Hid (GapsAt (w.setCell ⟨b, 5, none⟩ (.slice none 0 0)) b mb ag tr nw T M (.slice none 0 0) []) := by
    have ho : Only [b] w (w.setCell ⟨b, 5, none⟩ (.slice none 0 0)) := (Only.refl _ _).setCell (by simp) _
    refine ⟨setb h.box 5 _, ?_, World.ownsRow_nil _ _ _ _⟩
    obtain ⟨D, ⟨es, clock, h4, h5⟩, h6⟩ := h.map
    exact ⟨D, ⟨es, clock, ho.block h4 (by simp; exact fun e => hne.1 e.symm), h5⟩, h6⟩
  have HO : Hid ((w.setCell ⟨b, 5, none⟩ (.slice none 0 0)).ownsRow 0 3 1 gv G.length (ic G)) :=
    ((Only.refl [b] w).setCell (p := ⟨b, 5, none⟩) (by simp) _).owns h.row (fun k hk => by simp; exact (hne.2 k hk).1)
  have HN := hidden hne
  obtain ⟨a, cap, rfl, _⟩ := own_ints h.row (by omega)
  clear h hne c0 c1 c2 c3 c4
  go_enter Tryz.func30, Tryz.ntmps30
  go_wp2_with fail
  refine (sort_calls _ 0 G.length G _ HO.out (by omega)).mono ?_
  rintro e w1 ⟨rfl, hrow, hgrow⟩
  have HR := hidden hrow
  have HGr := hidden hgrow
  clear hrow hgrow
  go_wp2_with fail
  go_ret
  refine ⟨rfl, HG.out.only ((Only.refl (Value.slice a G.length cap).ownBlock.toList _).grown HGr.out (by simp)) ?_, HR.out, (((Only.refl _ w).setCell (p := ⟨b, 5, none⟩) (by simp [blks]) _).grown HGr.out (by intro k hk; simp [blks, hk]))⟩
  intro k hk hc
  simp only [Option.mem_toList] at hc
  have := HN.out.2 k hc
  simp [blks, Value.ownBlock] at hk
  omega
end Go.Proofs.YtpiamlgmadnepaaGreat.Gaps

