/-
  What Sub and Got of package mesh return, and what they leave in memory. Their condition: the lofts are such as they may be.
-/
import Derived.Test.YtpiamlgmadnepaaGreatMeshL
import Derived.Deep.AppendLies
namespace Go.Proofs.YtpiamlgmadnepaaGreat.MS
open Go.ChangeShapes Go.WideShapes Go.ChangeAt Go.RowKit Go.Maps Go.Proofs.YtpiamlgmadnepaaGreat.Mem Go.Proofs.YtpiamlgmadnepaaGreat.NO Go.Proofs.YtpiamlgmadnepaaGreat.ND
set_option linter.unusedVariables false

def stag (g : Tg) : Prop := g = ⟨1000, 0, 0⟩ ∨ g = ⟨1000, 3, 0⟩
theorem stag_n {g : Tg} (h : stag g) : g.n = 1000 := by rcases h with rfl | rfl <;> rfl
theorem stag_meshy {o : Nat → Tg} {w w' : World} (h : Chg o stag w w') : Chg o meshy w w' := h.mono (fun t ht => by unfold meshy; rw [stag_n ht]; decide)
theorem sbc_app (l : List (Int × Int)) (x y : Int) : sbc (l ++ [(x, y)]) = sbc l ++ [.int .i64 x, .int .i64 y] := by simp [sbc]
theorem sbc_get (l : List (Int × Int)) : ∀ (j : Nat) (x : Int × Int), l[j]? = some x → (sbc l)[j * 2]? = some (.int .i64 x.1) ∧ (sbc l)[j * 2 + 1]? = some (.int .i64 x.2) := by
  induction l with
  | nil => intro j x h; simp at h
  | cons y l ih =>
    intro j x h
    have e : sbc (y :: l) = .int .i64 y.1 :: .int .i64 y.2 :: sbc l := rfl
    cases j with
    | zero =>
      rw [List.getElem?_cons_zero] at h
      cases h
      exact ⟨rfl, rfl⟩
    | succ j =>
      have := ih j x (by simpa using h)
      rw [e, show (j + 1) * 2 = j * 2 + 1 + 1 by omega]
      simpa using this
theorem MCells.setS {cs : Array Value} {P : MP} {M : Ms} (h : MCells cs P M) (v : Value) (F : List (Int × Int)) : MCells (cs.setIfInBounds 11 v) { P with sv := v } { M with sb := F } := by
  have hs := h.sz
  refine ⟨by simpa using h.sz, ?_, ?_, ?_, ?_, ?_, ?_⟩
  · rw [Array.getElem?_setIfInBounds_ne (by omega)]; exact h.c0
  · rw [Array.getElem?_setIfInBounds_ne (by omega)]; exact h.c1
  · rw [Array.getElem?_setIfInBounds_ne (by omega)]; exact h.c2
  · intro i hi
    rw [Array.getElem?_setIfInBounds_ne (by omega)]
    exact h.cr i hi
  · rw [Array.getElem?_setIfInBounds_self_of_lt (by omega)]
  · rw [Array.getElem?_setIfInBounds_ne (by omega)]; exact h.c12
theorem MAt.sne {w : World} {o : Nat → Tg} {b : Nat} {P : MP} {M : Ms} (h : MAt w o b P M) : ∀ k, P.sv.ownBlock = some k → k ≠ b := by
  intro k hk e
  have := h.srt k (by simp [hk])
  rw [e, h.tag] at this
  cases this
/-- one more subscriber: behind the append and the store -/
theorem sub_store {W w1 w2 : World} {o : Nat → Tg} {b : Nat} {P : MP} {M : Ms} {g cap : Nat} {x y : Int} (h : MAt W o b P M) (hb : Below W.heap.size W w1) (hown : w2.ownsRow 0 104 2 (.slice (some ⟨g, 0, none⟩) (M.sb.length + 1) cap) (M.sb.length + 1) (sbc M.sb ++ [.int .i64 x, .int .i64 y])) (hgrow : w1.grownBy w2 P.sv.ownBlock) (hat : P.sv.ownBlock = some g ∨ W.heap.size ≤ g) :
    w2.cell? ⟨b, 11, none⟩ = some P.sv ∧ w2.frozen? ⟨b, 11, none⟩ = false ∧ (w2.setCell ⟨b, 11, none⟩ (.slice (some ⟨g, 0, none⟩) (M.sb.length + 1) cap)).cell? ⟨b, 11, none⟩ = some (.slice (some ⟨g, 0, none⟩) (M.sb.length + 1) cap) ∧ MDone W (w2.setCell ⟨b, 11, none⟩ (.slice (some ⟨g, 0, none⟩) (M.sb.length + 1) cap)) o b { M with sb := M.sb ++ [(x, y)] } := by
  obtain ⟨cs, h1, h2⟩ := h.box
  obtain ⟨v', hv'⟩ : ∃ v', Value.slice (some ⟨g, 0, none⟩) (M.sb.length + 1) cap = v' := ⟨_, rfl⟩
  have hvo : v'.ownBlock = some g := by rw [← hv']; rfl
  rw [hv'] at hown ⊢
  have hne := h.sne
  have ho : Only P.sv.ownBlock.toList W w2 := (Only.of_below hb _).grown hgrow (by intro k hk; simp [hk])
  have hb2 : w2.heap[b]? = some (.cells cs 96 (0, 0)) := ho.block h1 (fun hm => hne b (by simpa using hm) rfl)
  have hO : Only (b :: P.sv.ownBlock.toList) W (w2.setCell ⟨b, 11, none⟩ v') := (ho.mono (fun k hk => List.mem_cons_of_mem _ hk)).setCell (by simp) _
  have hc : Chg o stag W (w2.setCell ⟨b, 11, none⟩ v') := by
    refine Chg.of_only hO ?_ ?_
    · intro k hk
      rcases List.mem_cons.1 hk with rfl | hk
      · exact .inl h.tag
      · exact .inr (h.srt k hk)
    · intro k hk
      rcases List.mem_cons.1 hk with rfl | hk
      · exact h.nobB
      · rcases h.srow.2 with ⟨e, _⟩ | ⟨g', cap', cur, e, _, hg, _⟩
        · rw [e] at hk; simp [Value.ownBlock] at hk
        · rw [e] at hk
          simp [Value.ownBlock] at hk
          subst hk
          exact nobAt_cells hg (by decide)
  obtain ⟨o', ho'⟩ : ∃ o', grow o W ⟨1000, 3, 0⟩ = o' := ⟨_, rfl⟩
  have he : Ext W o o' := by rw [← ho']; exact grow_ext _ _ _
  have h0 : ∀ g, stag g → g.n ≠ 0 := fun g hg => by rw [stag_n hg]; decide
  have hbs : (w2.setCell ⟨b, 11, none⟩ v').heap[b]? = some (.cells (cs.setIfInBounds 11 v') 96 (0, 0)) := heap_setCell_same w2 b 11 cs _ v' hb2
  have h11 := (h2.setS v' (M.sb ++ [(x, y)])).c11
  refine ⟨by simp [World.cell?, hb2, h2.c11], by simp [World.frozen?, hb2], by simp only [World.cell?, hbs]; exact h11, o', { P with sv := v' }, ⟨h.n16, ⟨_, hbs, h2.setS v' _⟩, (he _ h.lt).trans h.tag, row_chg h.nrow hc h.nrt (by simp [stag]), h.nrt.ext he (fun k hk => own_lt h.nrow (by simpa using hk)), ?_, earg_chg h.edg hc h.edt (by simp [stag]), h.edc, ?_, ?_, ?_, h.fly.chg hc h.flt (by simp [stag]) h0 he, h.flt.ext he h.fly.lt⟩, Keep.of_ext he, stag_meshy hc⟩
  · intro i hi
    have := h.n16
    have hi' : i < M.n := hi
    exact (h.nds i hi).chg hc (fun g hg => ⟨h0 g hg, by rw [stag_n hg]; omega⟩) he
  · intro ad e hm
    rw [he _ (earg_lt h.edg e hm)]
    exact h.edt ad e hm
  · show World.ownsRow _ 0 104 2 v' (M.sb ++ [(x, y)]).length (sbc (M.sb ++ [(x, y)]))
    rw [sbc_app, List.length_append]
    refine (Only.setCell (bs := [b]) (Only.refl _ w2) (by simp) _).owns hown ?_
    intro k hk
    rw [hvo] at hk
    cases hk
    simp only [List.mem_singleton]
    rcases hat with e | e
    · exact hne g e
    · have := lt_of_block h1; omega
  · intro k hk
    rw [hvo] at hk
    simp at hk
    subst hk
    rcases hat with e | e
    · exact (he _ (own_lt h.srow e)).trans (h.srt k (by simp [e]))
    · rw [← ho']; exact grow_new e
theorem sub_range (b : Nat) (o : Nat → Tg) (P : MP) (M : Ms) (tk at' mo : Int) (w : World) (h : MAt w o b P M) (hr : ¬ (0 ≤ at' ∧ at' < (M.n : Int))) :
    Calls Tryz.prog 9 #[.pointer (some ⟨b, 0, none⟩), .int .i64 tk, .int .i64 at', .int .i64 mo] w fun e w' => e = .returned (.tuple #[.int .i64 0, errv 1]) ∧ w' = w := by
  have CI := hidden (isNode_calls b o P M at' w h)
  rw [decide_eq_false hr] at CI
  clear h hr
  go_enter Tryz.func9, Tryz.ntmps9
  go_wp2_with fail
  refine CI.out.mono ?_
  rintro e w1 ⟨rfl, rfl⟩
  go_wp2_with fail
  go_ret2
  exact ⟨rfl, rfl⟩
theorem sub_badM (b r : Nat) (o : Nat → Tg) (P : MP) (M : Ms) (tk mo : Int) (w : World) (h : MAt w o b P M) (hr : r < M.n) (hf : sF (M.nd r) tk mo ≠ 0) (hI : SInv (M.nd r).sb (M.nd r).ls) :
    Calls Tryz.prog 9 #[.pointer (some ⟨b, 0, none⟩), .int .i64 tk, .int .i64 (r : Int), .int .i64 mo] w fun e w' => e = .returned (.tuple #[.int .i64 0, errv (sF (M.nd r) tk mo)]) ∧ Below w.heap.size w w' := by
  have CI := hidden (isNode_calls b o P M (r : Int) w h)
  rw [decide_eq_true ⟨Int.natCast_nonneg r, Int.ofNat_lt.2 hr⟩] at CI
  obtain ⟨rb, rc, hnv, hcell⟩ := h.nptr hr
  obtain ⟨c1, c2⟩ := send_cells h hr hnv
  have CS := hidden (sub_bad (r + 1) (P.nb r) o (P.np r) (M.nd r) tk mo w (h.nds r hr) hI hf)
  obtain ⟨nb, hnb⟩ : ∃ nb, P.nb r = nb := ⟨_, rfl⟩
  obtain ⟨nn, hnn⟩ : ∃ nn, M.n = nn := ⟨_, rfl⟩
  obtain ⟨f, hff⟩ : ∃ f, sF (M.nd r) tk mo = f := ⟨_, rfl⟩
  rw [hnb] at c2 CS
  rw [hnn] at c1 hr
  rw [hff] at CS hf ⊢
  have hrz : (r : Int) < (nn : Int) := Int.ofNat_lt.2 hr
  have q1 := cmp_ne f
  have q2 := grd_ne f
  have d0 : decide (f = 0) = false := by simpa using hf
  clear h hnv hcell hI hf hnb hnn hff hr
  go_enter Tryz.func9, Tryz.ntmps9
  go_wp2_with fail
  refine CI.out.mono ?_
  rintro e w1 ⟨rfl, hw1⟩
  obtain rfl : w = w1 := hw1.symm
  go_wp2_with fail
  refine CS.out.mono ?_
  rintro e w2 ⟨rfl, hb⟩
  have HB := hidden hb
  clear hb CS c1 c2
  go_wp2_with fail
  go_ret2
  exact ⟨rfl, HB.out⟩
def Ms.sub (M : Ms) (r : Nat) (tk mo : Int) : Ms := { M with nd := updN M.nd r ((M.nd r).subs tk mo), sb := M.sb ++ [((r : Int), (M.nd r).ls + 1)] }
set_option maxHeartbeats 2000000 in
set_option maxRecDepth 100000 in
theorem sub_calls (b r : Nat) (o : Nat → Tg) (P : MP) (M : Ms) (tk mo : Int) (w : World) (h : MAt w o b P M) (hr : r < M.n) (hf : sF (M.nd r) tk mo = 0) (hI : SInv (M.nd r).sb (M.nd r).ls) (hls : (M.nd r).ls < 1000000) (hl : M.sb.length ≤ 1000000) :
    Calls Tryz.prog 9 #[.pointer (some ⟨b, 0, none⟩), .int .i64 tk, .int .i64 (r : Int), .int .i64 mo] w fun e w' => e = .returned (.tuple #[.int .i64 ((M.sb.length : Int) + 1), .nilIface]) ∧ MDone w w' o b (M.sub r tk mo) := by
  have h16 := h.n16
  have CI := hidden (isNode_calls b o P M (r : Int) w h)
  rw [decide_eq_true ⟨Int.natCast_nonneg r, Int.ofNat_lt.2 hr⟩] at CI
  obtain ⟨rb, rc, hnv, hcell⟩ := h.nptr hr
  obtain ⟨c1, c2⟩ := send_cells h hr hnv
  obtain ⟨sa, sc, hsv⟩ : ∃ a c, P.sv = .slice a M.sb.length c := by
    rcases h.srow.2 with ⟨e, h0⟩ | ⟨g, cap, cur, e, _⟩
    · exact ⟨none, 0, by rw [e, h0]⟩
    · exact ⟨_, _, e⟩
  obtain ⟨sl, hsl⟩ : ∃ sl, M.sb.length = sl := ⟨_, rfl⟩
  obtain ⟨id, hid⟩ : ∃ id, (M.nd r).ls + 1 = id := ⟨_, rfl⟩
  have CS : Hid (Calls Tryz.prog 40 #[.pointer (some ⟨P.nb r, 0, none⟩), .int .i64 tk, .int .i64 mo] w fun e w' => e = .returned (.tuple #[.int .i64 id, .nilIface]) ∧ w'.cell? ⟨b, 11, none⟩ = some (.slice sa sl sc) ∧ Hid (w'.ownsRow 0 104 2 (.slice sa sl sc) sl (sbc M.sb)) ∧ Hid (∀ g cap w2, w2.ownsRow 0 104 2 (.slice (some ⟨g, 0, none⟩) (sl + 1) cap) (sl + 1) (sbc M.sb ++ [.int .i64 (r : Int), .int .i64 id]) → (w'.alloc (.cells #[.int .i64 (r : Int), .int .i64 id] 104)).grownBy w2 (Value.slice sa sl sc).ownBlock → ((Value.slice sa sl sc).ownBlock = some g ∨ g = w'.heap.size + 1) → w2.cell? ⟨b, 11, none⟩ = some (.slice sa sl sc) ∧ w2.frozen? ⟨b, 11, none⟩ = false ∧ (w2.setCell ⟨b, 11, none⟩ (.slice (some ⟨g, 0, none⟩) (sl + 1) cap)).cell? ⟨b, 11, none⟩ = some (.slice (some ⟨g, 0, none⟩) (sl + 1) cap) ∧ Hid (MDone w (w2.setCell ⟨b, 11, none⟩ (.slice (some ⟨g, 0, none⟩) (sl + 1) cap)) o b (M.sub r tk mo)))) := by
    refine hidden ((sub_ok (r + 1) (P.nb r) o (P.np r) (M.nd r) tk mo w (by omega) (h.nds r hr) hI hls hf).mono ?_)
    rintro e w' ⟨rfl, hd⟩
    obtain ⟨o2, P2, r1, r2, r3, r4, r5, r6, r7⟩ := h.node (i := r) hr hd
    have c11 := r1.cells.2.2.2.1
    have row := r1.srow
    rw [r5, hsv] at c11 row
    have row : w'.ownsRow 0 104 2 (.slice sa M.sb.length sc) M.sb.length (sbc M.sb) := row
    rw [hsl] at c11 row
    refine ⟨by rw [hid], c11, hidden row, hidden ?_⟩
    intro g cap w2 hown hgrow hat
    rw [← hsl] at hown hgrow hat ⊢
    obtain ⟨s1, s2, s3, s4⟩ := sub_store r1 (w1 := w'.alloc (.cells #[.int .i64 (r : Int), .int .i64 id] 104)) ((Below.refl _ _).alloc (Nat.le_refl _) _) hown (by rw [r5, hsv]; exact hgrow) (by
      rw [r5, hsv]
      rcases hat with e | e
      · exact .inl e
      · exact .inr (by omega))
    rw [r5, hsv] at s1
    refine ⟨s1, s2, s3, hidden ?_⟩
    obtain ⟨o3, P3, t1, t2, t3⟩ := s4
    refine ⟨o3, P3, ?_, (Keep.of_ext r6).trans t2 r7.size, Chg.keep (mine_meshy r7 (by omega) (by omega)) t3 (Keep.of_ext r6)⟩
    unfold Ms.sub
    rw [hid]
    exact t1
  obtain ⟨nb, hnb⟩ : ∃ nb, P.nb r = nb := ⟨_, rfl⟩
  obtain ⟨nn, hnn⟩ : ∃ nn, M.n = nn := ⟨_, rfl⟩
  rw [hnb] at c2 CS
  rw [hnn] at c1 hr
  rw [hsl] at hl ⊢
  have hrz : (r : Int) < (nn : Int) := Int.ofNat_lt.2 hr
  obtain ⟨R, hR⟩ : ∃ R, M.sub r tk mo = R := ⟨_, rfl⟩
  rw [hR] at CS ⊢
  obtain ⟨xs, hxs⟩ : ∃ xs, sbc M.sb = xs := ⟨_, rfl⟩
  rw [hxs] at CS
  obtain ⟨i0, hii, hz0, hz1, hz2⟩ : ∃ i0, Tryz.prog.info? 104 = some i0 ∧ i0.zero = some (.agg #[.int .i64 0, .int .i64 0]) ∧ i0.size = 2 ∧ i0.bytes = 16 := ⟨_, rfl, rfl, rfl, rfl⟩
  clear h hnv hcell hI hf hnb hnn hr hsv hsl hid hls h16 hR hxs
  go_enter Tryz.func9, Tryz.ntmps9
  go_wp2_with fail
  refine CI.out.mono ?_
  rintro e w1 ⟨rfl, hw1⟩
  obtain rfl : w = w1 := hw1.symm
  go_wp2_with fail
  refine CS.out.mono ?_
  rintro e w2 ⟨rfl, c11, HRow, HSt⟩
  clear CS c1 c2 CI
  go_wp2_with (at_builtin; refine wpList_append_lies _ rfl _ _ 92 rfl 0 104 i0 _ 2 16 Tryz.underlying92 hii hz0 hz1 hz2 rfl (by decide) _ sl xs rfl (HRow.out.alloc _) ⟨w2.heap.size, 0, none⟩ 1 1 [.int .i64 (r : Int), .int .i64 id] rfl rfl (World.news_of_block (cs := #[.int .i64 (r : Int), .int .i64 id]) (t := 104) (fr := (0, 0)) (heap_alloc_new w2 _)) ?c2 (by omega) ?b1 ?b2 (Nat.zero_le _) (w2.heap.size + 1) (by simp) ?next)
  case c2 => intro u hu; simp at hu; rcases hu with rfl | rfl <;> rfl
  case b1 => unfold maxLen; omega
  case b2 => omega
  case next =>
    intro g cap w3 hown hgrow hat _
    obtain ⟨k1, k2, k3, HD⟩ := HSt.out g cap w3 hown hgrow hat
    clear hown hgrow hat HSt HRow c11
    go_wp2_with fail
    go_ret2
    exact ⟨by go_num, HD.out⟩
end Go.Proofs.YtpiamlgmadnepaaGreat.MS

