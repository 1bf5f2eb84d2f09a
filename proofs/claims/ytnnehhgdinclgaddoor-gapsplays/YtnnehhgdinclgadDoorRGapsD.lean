/-
  What the reference's method Due returns, whatever it is given, and what it leaves in memory. Its condition: what is lacking is such as it may be.
-/
import Derived.Test.YtnnehhgdinclgadDoorRGapsC
import Derived.Deep.AppendLies
import Derived.Deep.CutRange
import Derived.Deep.RegionLaw
namespace Go.Proofs.YtnnehhgdinclgadDoor.RGaps
open Go.ChangeShapes Go.WideShapes Go.ChangeAt Go.RowKit Go.Proofs.YtnnehhgdinclgadDoor.Mem Go.Proofs.YtnnehhgdinclgadDoor.GM Go.Proofs.YtnnehhgdinclgadDoor.Gaps
set_option linter.unusedVariables false

/-- under way: ov what is asked for, nv what is lacking still, gv2 what was given up -/
structure RSt (w wr : World) (B base b : Nat) (ag tr now T : Int) (M : Its) (lv gv ov : Value) (Os : List Int) (nv : Value) (Ls : Its) (gv2 : Value) (Gs : List Int) : Prop where
  ref : RefAt wr base b ag tr now T M lv Gs gv2
  out : wr.ownsRow B 3 1 ov Os.length (ic Os)
  row : wr.ownsRow B 87 3 nv Ls.length (flat Ls)
  gb : ∀ j, gv2.ownBlock = some j → (gv.ownBlock = some j ∧ j < w.heap.size) ∨ (B ≤ j ∧ ov.ownBlock ≠ some j)
  lb : ∀ j, lv.ownBlock = some j → j < w.heap.size
  bb : b < w.heap.size
  s1 : w.heap.size ≤ B
  s2 : B ≤ wr.heap.size
  only : Only (b :: gv.ownBlock.toList) w wr
theorem RSt.below {w wr wy : World} {B base b : Nat} {ag tr now T : Int} {M : Its} {lv gv ov : Value} {Os : List Int} {nv : Value} {Ls : Its} {gv2 : Value} {Gs : List Int} (h : RSt w wr B base b ag tr now T M lv gv ov Os nv Ls gv2 Gs) (hb : Below wr.heap.size wr wy) : RSt w wy B base b ag tr now T M lv gv ov Os nv Ls gv2 Gs :=
  { h with ref := h.ref.below hb, out := (Only.of_below hb []).owns h.out (by simp), row := (Only.of_below hb []).owns h.row (by simp), s2 := Nat.le_trans h.s2 hb.size, only := h.only.trans (Only.of_below hb _) }
/-- no block is of two rows -/
theorem two_rows {w : World} {b1 b2 s1 s2 n1 n2 j : Nat} {v1 v2 : Value} {x1 x2 : List Value} (h1 : w.ownsRow b1 3 s1 v1 n1 x1) (h2 : w.ownsRow b2 87 s2 v2 n2 x2) (e1 : v1.ownBlock = some j) (e2 : v2.ownBlock = some j) : False := by
  obtain ⟨cs, hc⟩ := row_block h1 e1
  obtain ⟨ds, hd⟩ := row_block h2 e2
  rw [hc] at hd
  simp at hd
theorem RSt.addL {w wr wy : World} {B base b m : Nat} {ag tr now T : Int} {M : Its} {lv gv ov : Value} {Os : List Int} {nv nv2 : Value} {Ls : Its} {gv2 : Value} {Gs : List Int} {x : Lk} {O : Obj} (h : RSt w wr B base b ag tr now T M lv gv ov Os nv Ls gv2 Gs)
    (hg : (wr.alloc O).grownBy wy nv.ownBlock) (hm : m = Ls.length) (hown : wy.ownsRow B 87 3 nv2 (m + 1) (flat Ls ++ lkC x)) : RSt w wy B base b ag tr now T M lv gv ov Os nv2 (Ls ++ [x]) gv2 Gs := by
  have oA : Only nv.ownBlock.toList wr wy := ((Only.refl _ _).alloc O).trans ((Only.refl _ _).grown hg (by simp))
  have nb : ∀ j, nv.ownBlock = some j → B ≤ j := fun j hj => (h.row.lt j hj).1
  have s1 := h.s1
  have bb := h.bb
  refine { h with ref := h.ref.only oA ?_, out := oA.owns h.out ?_, row := ?_, s2 := Nat.le_trans h.s2 oA.2.2.2.1, only := past h.only oA ?_ }
  · intro j hj hc
    simp at hc
    have := nb j hc
    simp only [rblks, List.mem_cons, List.mem_append, Option.mem_toList] at hj
    rcases hj with rfl | hj | hj
    · omega
    · have := h.lb j hj; omega
    · exact two_rows h.ref.gave h.row hj hc
  · intro j hj hc
    simp at hc
    exact two_rows h.out h.row hj hc
  · rw [flat_app, flat_one, List.length_append, List.length_singleton, ← hm]
    exact hown
  · intro j hj
    have := nb j (by simpa using hj)
    exact .inr (by omega)
theorem RSt.addO {w wr wy : World} {B base b m g cap : Nat} {ag tr now T d : Int} {M : Its} {lv gv ov : Value} {Os : List Int} {nv : Value} {Ls : Its} {gv2 : Value} {Gs : List Int} {O : Obj} (h : RSt w wr B base b ag tr now T M lv gv ov Os nv Ls gv2 Gs)
    (hg : (wr.alloc O).grownBy wy ov.ownBlock) (hm : m = Os.length) (hown : wy.ownsRow B 3 1 (.slice (some ⟨g, 0, none⟩) (m + 1) cap) (m + 1) (ic Os ++ [.int .i64 d])) (hat : ov.ownBlock = some g ∨ g = wr.heap.size + 1) : RSt w wy B base b ag tr now T M lv gv (.slice (some ⟨g, 0, none⟩) (m + 1) cap) (Os ++ [d]) nv Ls gv2 Gs := by
  have oA : Only ov.ownBlock.toList wr wy := ((Only.refl _ _).alloc O).trans ((Only.refl _ _).grown hg (by simp))
  have nb : ∀ j, ov.ownBlock = some j → B ≤ j := fun j hj => (h.out.lt j hj).1
  have s1 := h.s1
  have s2 := h.s2
  have bb := h.bb
  refine { h with ref := h.ref.only oA ?_, out := ?_, row := oA.owns h.row ?_, gb := ?_, s2 := Nat.le_trans h.s2 oA.2.2.2.1, only := past h.only oA ?_ }
  · intro j hj hc
    simp at hc
    have := nb j hc
    simp only [rblks, List.mem_cons, List.mem_append, Option.mem_toList] at hj
    rcases hj with rfl | hj | hj
    · omega
    · have := h.lb j hj; omega
    · rcases h.gb j hj with q | q
      · omega
      · exact q.2 hc
  · rw [ic_app, List.length_append, List.length_singleton, ← hm]
    exact hown
  · intro j hj hc
    simp at hc
    exact two_rows h.out h.row hc hj
  · intro j hj
    rcases h.gb j hj with q | q
    · exact .inl q
    · refine .inr ⟨q.1, ?_⟩
      intro hd
      simp [Value.ownBlock] at hd
      rcases hat with hat | hat
      · exact q.2 (by rw [hat, hd])
      · have := h.ref.lt j (by simp [rblks, hj]); omega
  · intro j hj
    have := nb j (by simpa using hj)
    exact .inr (by omega)
theorem RSt.addG {w wr w6 : World} {B base b n g cap : Nat} {ag tr now T d : Int} {M : Its} {lv gv ov : Value} {Os : List Int} {nv : Value} {Ls : Its} {gv2 : Value} {Gs : List Int} {O : Obj} (h : RSt w wr B base b ag tr now T M lv gv ov Os nv Ls gv2 Gs)
    (hgrow : (wr.alloc O).grownBy w6 gv2.ownBlock) (hn : n = Gs.length) (hown : w6.ownsRow base 3 1 (.slice (some ⟨g, 0, none⟩) (n + 1) cap) (n + 1) (ic Gs ++ [.int .i64 d])) (hat : gv2.ownBlock = some g ∨ g = wr.heap.size + 1) :
    RSt w (w6.setCell ⟨b, 5, none⟩ (.slice (some ⟨g, 0, none⟩) (n + 1) cap)) B base b ag tr now T M lv gv ov Os nv Ls (.slice (some ⟨g, 0, none⟩) (n + 1) cap) (Gs ++ [d]) := by
  have oA : Only gv2.ownBlock.toList wr w6 := ((Only.refl _ _).alloc O).trans ((Only.refl _ _).grown hgrow (by simp))
  have oB : Only [b] w6 (w6.setCell ⟨b, 5, none⟩ (.slice (some ⟨g, 0, none⟩) (n + 1) cap)) := (Only.refl _ _).setCell (by simp) _
  have oAll : Only (b :: gv2.ownBlock.toList) wr (w6.setCell ⟨b, 5, none⟩ (.slice (some ⟨g, 0, none⟩) (n + 1) cap)) := (oA.mono (by intro k hk; exact List.mem_cons_of_mem _ hk)).trans (oB.mono (by simp))
  have hne := h.ref.ne
  have hlt := h.ref.lt
  have s1 := h.s1
  have s2 := h.s2
  have bb := h.bb
  have hgb : g ≠ b := by
    rcases hat with hat | hat
    · exact hne.2 g hat
    · have := hlt b (by simp [rblks]); omega
  have hb6 := oA.block h.ref.box (by intro hc; simp at hc; exact hne.2 b hc rfl)
  refine { h with ref := ⟨setb hb6 5 _, ?_, ?_⟩, out := oAll.owns h.out ?_, row := oAll.owns h.row ?_, gb := ?_, s2 := Nat.le_trans h.s2 oAll.2.2.2.1, only := past h.only oAll ?_ }
  · refine oAll.owns h.ref.row ?_
    intro j hj hc
    simp at hc
    rcases hc with hc | hc
    · exact (hne.1 j hj).1 hc
    · exact (hne.1 j hj).2 hc
  · rw [ic_app, List.length_append, List.length_singleton, ← hn]
    exact oB.owns hown (by intro k hk hc; simp [Value.ownBlock] at hk hc; omega)
  · intro j hj hc
    have := (h.out.lt j hj).1
    simp at hc
    rcases hc with hc | hc
    · omega
    · rcases h.gb j hc with q | q
      · omega
      · exact q.2 hj
  · intro j hj hc
    have := (h.row.lt j hj).1
    simp at hc
    rcases hc with hc | hc
    · omega
    · exact two_rows h.ref.gave h.row hc hj
  · intro j hj
    simp [Value.ownBlock] at hj
    subst hj
    rcases hat with hat | hat
    · exact h.gb _ hat
    · refine .inr ⟨by omega, fun hd => ?_⟩
      have := (h.out.lt _ hd).2
      omega
  · intro j hj
    simp at hj
    rcases hj with rfl | hj
    · exact .inl (by simp)
    · rcases h.gb j hj with q | q
      · exact .inl (by simp [q.1])
      · exact .inr (by omega)
theorem take_one {M : Its} {k : Nat} {x : Lk} (hx : M[k]? = some x) : M.take (k + 1) = M.take k ++ [x] := by
  rw [List.take_add_one, hx]; rfl
theorem dM_len (ag tr now : Int) (M : Its) : (dM ag tr now M).length ≤ M.length := by
  have := List.length_filter_le (fun x => !gives ag tr now x) M
  simp only [dM, List.length_map]
  omega
theorem cells3 {w : World} {b : Nat} {v0 v1 v2 : Value} {t : TypeId} (h : w.heap[b]? = some (.cells #[v0, v1, v2] t (0, 0))) :
    w.cell? ⟨b, 0, none⟩ = some v0 ∧ w.cell? ⟨b, 1, none⟩ = some v1 ∧ w.cell? ⟨b, 2, none⟩ = some v2 := by
  refine ⟨?_, ?_, ?_⟩ <;> simp [World.cell?, h]

set_option maxHeartbeats 1000000 in
theorem rdue_time (b : Nat) (nw now : Int) (w : World) (h : w.cell? ⟨b, 2, none⟩ = some (.int .i64 nw)) (ht : tf nw now ≠ 0) :
    Calls Tryd.prog 21 #[.pointer (some ⟨b, 0, none⟩), .int .i64 now] w fun e w' => e = .returned (.tuple #[.slice none 0 0, .int .i64 (tf nw now : Nat)]) ∧ Below w.heap.size w w' := by
  have HC := hidden (fun w h => time_calls b nw now w h)
  have hft := @tf_le nw now
  generalize tf nw now = f at *
  have d0 : ((f : Int) == 0) = false := by simp; omega
  have d1 : ((f : Int) != 0) = true := by simp; omega
  clear ht
  go_enter Tryd.func21, Tryd.ntmps21
  go_wp2_with fail
  refine (HC.out _ (by exact h)).mono ?_
  rintro e w1 ⟨rfl, rfl⟩
  go_wp2_with fail
  go_ret2
  exact ⟨rfl, Below.refl _ _⟩

set_option maxHeartbeats 8000000 in
set_option maxRecDepth 100000 in
theorem rdue_ok (base b : Nat) (ag tr nw T now : Int) (M : Its) (lv gv : Value) (G : List Int) (w : World) (h : RefAt w base b ag tr nw T M lv G gv) (hI : GM.Inv ag tr nw T M) (hbase : base ≤ w.heap.size) (ht : tf nw now = 0) (hG : G.length ≤ 999800) :
    Calls Tryd.prog 21 #[.pointer (some ⟨b, 0, none⟩), .int .i64 now] w fun e w' => ∃ ov, e = .returned (.tuple #[ov, .int .i64 0]) ∧ ∃ lv2 gv2, RefAt w' base b ag tr now T (dM ag tr now M) lv2 (G ++ gaveL ag tr now M) gv2 ∧
      w'.ownsRow w.heap.size 3 1 ov (dueL ag tr now M).length (ic (dueL ag tr now M)) ∧ (∀ j, gv2.ownBlock = some j → (gv.ownBlock = some j ∨ w.heap.size ≤ j) ∧ ov.ownBlock ≠ some j) ∧ Only (b :: gv.ownBlock.toList) w w' := by
  obtain ⟨i0, hii, hz0, hz1, hz2⟩ := info_parts infoLK
  obtain ⟨i3, hii3, hz30, hz31, hz32⟩ := info_parts info3
  have HC := hidden (fun w h => time_ok b nw now w h ht)
  obtain ⟨ht0, ht1, ht2⟩ := tf_zero ht
  have HR := hidden h
  have HI := hidden hI
  obtain ⟨la, lc, rfl, hfm⟩ := ref_form h.row
  have HF := hidden hfm
  have c2 := (cells6 h.box).2.2.1
  have f2 := free6 h.box 2
  have hlen := hI.len
  have hr1 := hI.r1
  have hr2 := hI.r2
  have ha1 := hI.a1
  have ha2 := hI.a2
  have HR3 := hidden (h.set (nw' := now) (T' := T) 2 (.int .i64 now) rfl)
  have HS0 : Hid (RSt w (w.setCell ⟨b, 2, none⟩ (.int .i64 now)) w.heap.size base b ag tr now T M (.slice la M.length lc) gv (.slice none 0 0) [] (.slice none 0 0) [] gv G) := by
    have hlt := h.lt
    refine ⟨HR3.out, World.ownsRow_nil _ _ _ _, World.ownsRow_nil _ _ _ _, fun j hj => .inl ⟨hj, hlt j (by simp [rblks, hj])⟩, fun j hj => hlt j (by simp [rblks, hj]), hlt b (by simp [rblks]), Nat.le_refl _, by simp [World.setCell], (Only.refl _ _).setCell (by simp) _⟩
  clear h hI ht hfm HR3 HR
  go_enter Tryd.func21, Tryd.ntmps21
  go_wp2_with fail
  refine (HC.out _ (by exact c2)).mono ?_
  rintro e w1 ⟨rfl, rfl⟩
  clear HC
  go_wp2_with fail
  clear c2 f2
  obtain ⟨B, hB⟩ : ∃ B, w1.heap.size = B := ⟨_, rfl⟩
  rw [hB] at HS0
  have HB := hidden hB
  clear hB
  go_loopg [7, 8, 9, 10] M.length (fun g ov' nv' i' _ wr => ∃ (k mo ml : Nat) (oa : Option Addr) (oc : Nat) (na : Option Addr) (nc : Nat) (gv2 : Value), k + g = M.length ∧ ov' = .slice oa mo oc ∧ nv' = .slice na ml nc ∧ i' = .int .i64 (k : Int) ∧
    Hid (mo = (dueL ag tr now (M.take k)).length ∧ ml = (dM ag tr now (M.take k)).length ∧ RSt w1 wr B base b ag tr now T M (.slice la M.length lc) gv (.slice oa mo oc) (dueL ag tr now (M.take k)) (.slice na ml nc) (dM ag tr now (M.take k)) gv2 (G ++ gaveL ag tr now (M.take k))))
  case atStart => exact ⟨0, 0, 0, none, 0, none, 0, gv, by omega, rfl, rfl, rfl, by simp [dueL, nums], by simp [dM], by have := HS0.out; simpa [dueL, dM, gaveL, nums] using this⟩
  case round =>
    obtain ⟨k, mo, ml, oa, oc, na, nc, gv2, hkg, rfl, rfl, rfl, HS⟩ := hrel
    clear HS0
    obtain ⟨c0, c1, c2, c3, c4, c5⟩ := cells6 HS.out.2.2.ref.box
    by_cases hk : k < M.length
    · have hkz : (k : Int) < (M.length : Int) := by omega
      obtain ⟨g, rfl, hgb⟩ := HF.out (by omega)
      have hmo : mo ≤ 200 := by have h1 := HS.out.1; have h2 := due_len ag tr now (M.take k); simp at h2; omega
      have hml : ml ≤ 200 := by have h1 := HS.out.2.1; have h2 := dM_len ag tr now (M.take k); simp at h2; omega
      obtain ⟨x, hx⟩ : ∃ x, M[k]? = some x := ⟨_, List.getElem?_eq_getElem hk⟩
      obtain ⟨r0, r1, r2⟩ := ref_cell HS.out.2.2.ref.row hx
      have hxm := HI.out.mem x (List.mem_of_getElem? hx)
      have hgl : G.length + (gaveL ag tr now (M.take k)).length ≤ 999999 := by have := gave_len ag tr now (M.take k); simp at this; omega
      have HX := hidden (take_one hx)
      have ht2' := HI.out.t2
      obtain ⟨xn, hxn⟩ : ∃ xn, x.n = xn := ⟨_, rfl⟩
      obtain ⟨xt, hxt⟩ : ∃ xt, x.t = xt := ⟨_, rfl⟩
      obtain ⟨xa, hxa⟩ : ∃ xa, x.a = xa := ⟨_, rfl⟩
      rw [hxn] at r0
      rw [hxt] at r1
      rw [hxa] at r2
      rw [hxn, hxt, hxa] at hxm
      obtain ⟨hn0, hn1, hxt0, hxt1, hxa0, hxa1⟩ := hxm
      have HXx : Hid (x = ⟨xn, xt, xa⟩) := by rw [← hxn, ← hxt, ← hxa]; rfl
      have HSr := hidden HS.out.2.2
      have HMo := hidden HS.out.1
      have HMl := hidden HS.out.2.1
      have e0 := cell_alloc c0 (.cells #[.int .i64 xn, .int .i64 xt, .int .i64 xa] 87)
      have e1 := cell_alloc c1 (.cells #[.int .i64 xn, .int .i64 xt, .int .i64 xa] 87)
      clear HS hx hxn hxt hxa
      by_cases hs : 0 < xt ∧ now - xa < ag
      · have d1 : decide (0 < xt) = true := by simpa using hs.1
        have d2 : decide (now - xa < ag) = true := by simpa using hs.2
        have HStay : Hid (stays ag now x = true) := by refine hidden ?_; unfold stays; rw [HXx.out]; simp only; rw [d1, d2]; rfl
        clear hs
        go_wp2_with fail
        go_quiet (fail)
        obtain ⟨wq, hwq⟩ : ∃ wq, (wr.alloc (.cells #[.int .i64 xn, .int .i64 xt, .int .i64 xa] 87)).drewN nq = wq := ⟨_, rfl⟩
        have HBq : Hid (Below wr.heap.size wr wq) := by rw [← hwq]; exact below_drewN ((Below.refl _ _).alloc (Nat.le_refl _) _) _
        have hbq : wq.heap[wr.heap.size]? = some (.cells #[.int .i64 xn, .int .i64 xt, .int .i64 xa] 87 (0, 0)) := by rw [← hwq]; exact heap_alloc_new wr _
        rw [hwq]
        clear hwq e0 e1 r0 r1 r2 c0 c1 c2 c3 c4 c5
        have HSq := hidden (HSr.out.below HBq.out)
        obtain ⟨q0, q1, q2⟩ := cells3 hbq
        have HBX := hidden hbq
        clear hbq
        obtain ⟨c0, c1, c2, c3, c4, c5⟩ := cells6 HSq.out.ref.box
        go_wp2_with (at_builtin; refine wpList_append_own _ rfl _ _ 56 rfl B 87 i0 _ 3 24 Tryd.underlying56 hii hz0 hz1 hz2 rfl (by decide) _ ml (flat (dM ag tr now (M.take k))) rfl ?own ⟨wq.heap.size, 0, none⟩ 1 1 [.int .i64 xn, .int .i64 xt, .int .i64 xa] rfl rfl (World.news_of_block (cs := #[.int .i64 xn, .int .i64 xt, .int .i64 xa]) (t := 87) (fr := (0, 0)) (heap_alloc_new wq _)) ?c2 ?b1 ?b2 ?b3 ?next)
        case own => have := HSq.out.row; rw [← HMl.out] at this; exact this.alloc _
        case c2 => intro u hu'; simp at hu'; rcases hu' with rfl | rfl | rfl <;> rfl
        case b1 => unfold maxLen; omega
        case b2 => omega
        case b3 => have := HSq.out.s2; simp; omega
        case next =>
          intro v' w5 hown hgrow _
          obtain ⟨g', c', rfl⟩ : ∃ g' c', v' = .slice (some ⟨g', 0, none⟩) (ml + 1) c' := by
            rcases hown.2 with ⟨_, h⟩ | ⟨g', c', _, h, _⟩
            · omega
            · exact ⟨g', c', h⟩
          have HF5 := hidden (HSq.out.addL (x := ⟨xn, xt, xa⟩) hgrow HMl.out hown)
          clear hown hgrow
          go_wp2_with fail
          go_roundg (M.length - (k + 1))
          case measure => omega
          case rel =>
            obtain ⟨o1, o2, o3⟩ := one_stays (tr := tr) HStay.out
            have hf := HF5.out
            rw [← HXx.out] at hf
            refine ⟨k + 1, mo, ml + 1, oa, oc, some ⟨g', 0, none⟩, c', gv2, by omega, rfl, rfl, by go_num, ?_⟩
            rw [HX.out, dueL_app, dM_app, gaveL_app, o1, o2, o3, List.append_nil, List.append_nil]
            exact ⟨HMo.out, by rw [List.length_append, List.length_singleton, ← HMl.out], hf⟩
      · have HNo : Hid (stays ag now x = false) := by
          refine hidden ?_
          unfold stays
          rw [HXx.out]
          simp only
          by_cases q : 0 < xt
          · have q2 : ¬ now - xa < ag := fun h => hs ⟨q, h⟩
            simp [q2]
          · simp [q]
        by_cases hp : 0 < xt
        · by_cases hxe : xt = tr
          · have d1 : decide (0 < xt) = true := by simpa using hp
            have d2 : decide (now - xa < ag) = false := by simp; omega
            clear hs hp
            have dq : (xt == tr) = true := by simpa using hxe
            have HTe : Hid (x.t = tr) := by rw [HXx.out]; exact hxe
            clear hxe
            go_wp2_with fail
            go_quiet (fail)
            obtain ⟨wq, hwq⟩ : ∃ wq, (wr.alloc (.cells #[.int .i64 xn, .int .i64 xt, .int .i64 xa] 87)).drewN nq = wq := ⟨_, rfl⟩
            have HBq : Hid (Below wr.heap.size wr wq) := by rw [← hwq]; exact below_drewN ((Below.refl _ _).alloc (Nat.le_refl _) _) _
            have hbq : wq.heap[wr.heap.size]? = some (.cells #[.int .i64 xn, .int .i64 xt, .int .i64 xa] 87 (0, 0)) := by rw [← hwq]; exact heap_alloc_new wr _
            rw [hwq]
            clear hwq e0 e1 r0 r1 r2 c0 c1 c2 c3 c4 c5
            have HSq := hidden (HSr.out.below HBq.out)
            obtain ⟨q0, q1, q2⟩ := cells3 hbq
            have HBX := hidden hbq
            clear hbq
            obtain ⟨c0, c1, c2, c3, c4, c5⟩ := cells6 HSq.out.ref.box
            go_wp2_with fail
            go_quiet (fail)
            obtain ⟨wp, hwp⟩ : ∃ wp, wq.drewN nq = wp := ⟨_, rfl⟩
            have HBp : Hid (Below wr.heap.size wr wp) := by rw [← hwp]; exact below_drewN HBq.out _
            have hbp : wp.heap[wr.heap.size]? = some (.cells #[.int .i64 xn, .int .i64 xt, .int .i64 xa] 87 (0, 0)) := by rw [← hwp]; exact HBX.out
            rw [hwp]
            clear hwp HSq HBq HBX q0 q1 q2 c0 c1 c2 c3 c4 c5
            have HSp := hidden (HSr.out.below HBp.out)
            obtain ⟨q0, q1, q2⟩ := cells3 hbp
            have HBX := hidden hbp
            clear hbp
            obtain ⟨c0, c1, c2, c3, c4, c5⟩ := cells6 HSp.out.ref.box
            obtain ⟨n, hn⟩ : ∃ n, n = (G ++ gaveL ag tr now (M.take k)).length := ⟨_, rfl⟩
            have hn9 : n ≤ 999999 := by rw [hn, List.length_append]; exact hgl
            have HN := hidden hn
            have HRow : Hid (wp.ownsRow base 3 1 gv2 n (ic (G ++ gaveL ag tr now (M.take k)))) := by rw [hn]; exact HSp.out.ref.gave
            clear hn
            obtain ⟨g2a, g2c, eg2, _⟩ := own_ints HRow.out (by omega)
            subst eg2
            have e5 := fun O => cell_alloc c5 O
            have r0' := fun O => cell_alloc q0 O
            have hlt := HSp.out.ref.lt b (by simp [rblks])
            have hbx := hidden HSp.out.ref.box
            have hne := hidden HSp.out.ref.ne
            have hsz : base ≤ wp.heap.size := by have h1 := HSp.out.s1; have h2 := HSp.out.s2; omega
            have HGr : Hid (∀ W, ((wp.alloc (.cells #[.int .i64 xn] 3)).drew).grownBy W (Value.slice g2a n g2c).ownBlock → W.heap[b]? = some (.cells #[.int .i64 ag, .int .i64 tr, .int .i64 now, .int .i64 T, .slice (some ⟨g, 0, none⟩) M.length lc, .slice g2a n g2c] 58 (0, 0))) := by
              refine hidden (fun W hg => ?_)
              refine (hg.block b (by simp; omega) ?_).trans ((Below.heap_alloc _ _ _ hlt).trans hbx.out)
              intro e
              exact hne.out.2 b e.symm rfl
            have HGc : Hid (∀ W, ((wp.alloc (.cells #[.int .i64 xn] 3)).drew).grownBy W (Value.slice g2a n g2c).ownBlock → W.cell? ⟨b, 5, none⟩ = some (.slice g2a n g2c)) := hidden (fun W hg => (cells6 (HGr.out W hg)).2.2.2.2.2)
            have HGf : Hid (∀ W, ((wp.alloc (.cells #[.int .i64 xn] 3)).drew).grownBy W (Value.slice g2a n g2c).ownBlock → W.frozen? ⟨b, 5, none⟩ = false) := hidden (fun W hg => free6 (HGr.out W hg) 5)
            have HA2 : Hid (∀ gg c W, ((wp.alloc (.cells #[.int .i64 xn] 3)).drew).grownBy W (Value.slice g2a n g2c).ownBlock → W.ownsRow base 3 1 (.slice (some ⟨gg, 0, none⟩) (n + 1) c) (n + 1) (ic (G ++ gaveL ag tr now (M.take k)) ++ [.int .i64 xn]) → ((Value.slice g2a n g2c).ownBlock = some gg ∨ gg = wp.heap.size + 1) →
                RSt w1 (W.setCell ⟨b, 5, none⟩ (.slice (some ⟨gg, 0, none⟩) (n + 1) c)) B base b ag tr now T M (.slice (some ⟨g, 0, none⟩) M.length lc) gv (.slice oa mo oc) (dueL ag tr now (M.take k)) (.slice na ml nc) (dM ag tr now (M.take k)) (.slice (some ⟨gg, 0, none⟩) (n + 1) c) (G ++ gaveL ag tr now (M.take k) ++ [xn])) :=
              hidden (fun gg c W hg hown hat => HSp.out.addG (O := .cells #[.int .i64 xn] 3) ⟨hg.os, hg.tape, hg.output, hg.size, hg.block⟩ HN.out hown hat)
            go_upto_region 14 with fail
            go_cut [] from 62 to 72 (fun wx => ∃ gg c, Hid (RSt w1 wx B base b ag tr now T M (.slice (some ⟨g, 0, none⟩) M.length lc) gv (.slice oa mo oc) (dueL ag tr now (M.take k)) (.slice na ml nc) (dM ag tr now (M.take k)) (.slice (some ⟨gg, 0, none⟩) (n + 1) c) (G ++ gaveL ag tr now (M.take k) ++ [xn])))
            case first =>
              go_region_law
                ((refine step_append_lies _ (by rfl) _ _ _ (by rfl) base 3 i3 _ 1 8 Tryd.underlying39 hii3 hz30 hz31 hz32 rfl (by omega) (.slice g2a n g2c) n (ic (G ++ gaveL ag tr now (M.take k))) (by rfl) ((HRow.out.alloc _).drew)
                    ⟨wp.heap.size, 0, none⟩ 1 1 [.int .i64 xn] (by rfl) (by rfl) (World.news_of_block (cs := #[.int .i64 xn]) (t := 3) (fr := (0, 0)) (heap_alloc_new wp _)) (by simp [Value.oneCell'])
                    (by omega) (by unfold maxLen; omega) (by omega) (by simp; omega) (wp.heap.size + 1) (by simp) ?_; intro gg c3 w4 hown hgrow hat hlt4; have kc := HGc.out _ hgrow; have kf := HGf.out _ hgrow))
              all_goals go_wp2_with fail
              all_goals go_meet
              all_goals exact ⟨gg, c3, HA2.out _ _ _ hgrow hown hat⟩
            case rest =>
              obtain ⟨gg, c6, HA⟩ := hcut
              clear HRow HGr HGc HGf HA2 e5 r0' hlt hbx hne hsz
              go_wp2_with fail
              go_roundg (M.length - (k + 1))
              case measure => omega
              case rel =>
                obtain ⟨o1, o2, o3⟩ := one_gives HNo.out HTe.out
                have hf := HA.out
                refine ⟨k + 1, mo, ml, oa, oc, na, nc, .slice (some ⟨gg, 0, none⟩) (n + 1) c6, by omega, rfl, rfl, by go_num, ?_⟩
                rw [HX.out, dueL_app, dM_app, gaveL_app, o1, o2, o3, List.append_nil, List.append_nil, ← List.append_assoc]
                rw [HXx.out]
                exact ⟨HMo.out, HMl.out, hf⟩
          · have d1 : decide (0 < xt) = true := by simpa using hp
            have d2 : decide (now - xa < ag) = false := by simp; omega
            clear hs hp
            have dq : (xt == tr) = false := by simpa using hxe
            have HTe : Hid (x.t ≠ tr) := by rw [HXx.out]; exact hxe
            clear hxe
            go_wp2_with fail
            go_quiet (fail)
            obtain ⟨wq, hwq⟩ : ∃ wq, (wr.alloc (.cells #[.int .i64 xn, .int .i64 xt, .int .i64 xa] 87)).drewN nq = wq := ⟨_, rfl⟩
            have HBq : Hid (Below wr.heap.size wr wq) := by rw [← hwq]; exact below_drewN ((Below.refl _ _).alloc (Nat.le_refl _) _) _
            have hbq : wq.heap[wr.heap.size]? = some (.cells #[.int .i64 xn, .int .i64 xt, .int .i64 xa] 87 (0, 0)) := by rw [← hwq]; exact heap_alloc_new wr _
            rw [hwq]
            clear hwq e0 e1 r0 r1 r2 c0 c1 c2 c3 c4 c5
            have HSq := hidden (HSr.out.below HBq.out)
            obtain ⟨q0, q1, q2⟩ := cells3 hbq
            have HBX := hidden hbq
            clear hbq
            obtain ⟨c0, c1, c2, c3, c4, c5⟩ := cells6 HSq.out.ref.box
            go_wp2_with fail
            go_quiet (fail)
            obtain ⟨wp, hwp⟩ : ∃ wp, wq.drewN nq = wp := ⟨_, rfl⟩
            have HBp : Hid (Below wr.heap.size wr wp) := by rw [← hwp]; exact below_drewN HBq.out _
            have hbp : wp.heap[wr.heap.size]? = some (.cells #[.int .i64 xn, .int .i64 xt, .int .i64 xa] 87 (0, 0)) := by rw [← hwp]; exact HBX.out
            rw [hwp]
            clear hwp HSq HBq HBX q0 q1 q2 c0 c1 c2 c3 c4 c5
            have HSp := hidden (HSr.out.below HBp.out)
            obtain ⟨q0, q1, q2⟩ := cells3 hbp
            have HBX := hidden hbp
            clear hbp
            obtain ⟨c0, c1, c2, c3, c4, c5⟩ := cells6 HSp.out.ref.box
            have q3 := free6 HBX.out 1
            have q4 := free6 (setb HBX.out 1 (.int .i64 (xt + 1))) 2
            have hbs := setb (setb HBX.out 1 (.int .i64 (xt + 1))) 2 (.int .i64 now)
            obtain ⟨w8, hw8⟩ : ∃ w8, (wp.setCell ⟨wr.heap.size, 1, none⟩ (.int .i64 (xt + 1))).setCell ⟨wr.heap.size, 2, none⟩ (.int .i64 now) = w8 := ⟨_, rfl⟩
            rw [hw8] at hbs
            have HB8 : Hid (Below wr.heap.size wr w8) := by rw [← hw8]; exact (HBp.out.setCell (Nat.le_refl _) _).setCell (Nat.le_refl _) _
            have HS8 := hidden (HSr.out.below HB8.out)
            obtain ⟨p0, p1, p2⟩ := cells3 (v0 := .int .i64 xn) (v1 := .int .i64 (xt + 1)) (v2 := .int .i64 now) hbs
            have q5 := (cells3 (v0 := .int .i64 xn) (v1 := .int .i64 (xt + 1)) (v2 := .int .i64 xa) (setb HBX.out 1 (.int .i64 (xt + 1)))).2.2
            have HW8 := hidden hw8
            clear hw8
            go_upto_region 17 with fail
            rw [HW8.out]
            clear HW8 hbs q0 q1 q2 q3 q4 q5 c0 c1 c2 c3 c4 c5 HSp HBp
            go_wp2_with (at_builtin; refine wpList_append_own _ rfl _ _ 56 rfl B 87 i0 _ 3 24 Tryd.underlying56 hii hz0 hz1 hz2 rfl (by decide) _ ml (flat (dM ag tr now (M.take k))) rfl ?own ⟨w8.heap.size, 0, none⟩ 1 1 [.int .i64 xn, .int .i64 (xt + 1), .int .i64 now] rfl rfl (World.news_of_block (cs := #[.int .i64 xn, .int .i64 (xt + 1), .int .i64 now]) (t := 87) (fr := (0, 0)) (heap_alloc_new w8 _)) ?c2 ?b1 ?b2 ?b3 ?next)
            case own => have := HS8.out.row; rw [← HMl.out] at this; exact this.alloc _
            case c2 => intro u hu'; simp at hu'; rcases hu' with rfl | rfl | rfl <;> rfl
            case b1 => unfold maxLen; omega
            case b2 => omega
            case b3 => have := HS8.out.s2; simp; omega
            case next =>
              intro v' w9 hown hgrow _
              obtain ⟨g', c', rfl⟩ : ∃ g' c', v' = .slice (some ⟨g', 0, none⟩) (ml + 1) c' := by
                rcases hown.2 with ⟨_, h⟩ | ⟨g', c', _, h, _⟩
                · omega
                · exact ⟨g', c', h⟩
              have HF9 := hidden (HS8.out.addL (x := ⟨xn, xt + 1, now⟩) hgrow HMl.out hown)
              have hxb : w9.cell? ⟨wr.heap.size, 0, none⟩ = some (.int .i64 xn) := by
                have hl8 := World.block_lt_of_cell? w8 ⟨wr.heap.size, 0, none⟩ p0
                have hb9 : w9.heap[wr.heap.size]? = w8.heap[wr.heap.size]? := by
                  refine (hgrow.block _ (by simp; simp at hl8; omega) ?_).trans (Below.heap_alloc _ _ _ hl8)
                  intro e
                  have h1 := (HSr.out.row.lt wr.heap.size e.symm).2
                  omega
                have := p0
                simp only [World.cell?] at this ⊢
                rw [hb9]
                exact this
              clear hown hgrow p0 p1 p2
              go_wp2_with (at_builtin; refine wpList_append_lies _ rfl _ _ 39 rfl B 3 i3 _ 1 8 Tryd.underlying39 hii3 hz30 hz31 hz32 rfl (by decide) _ mo (ic (dueL ag tr now (M.take k))) rfl ?own ⟨w9.heap.size, 0, none⟩ 1 1 [.int .i64 xn] rfl rfl (World.news_of_block (cs := #[.int .i64 xn]) (t := 3) (fr := (0, 0)) (heap_alloc_new w9 _)) ?c2 (by omega) ?b1 ?b2 ?b3 (w9.heap.size + 1) (by simp) ?next)
              case own => have := HF9.out.out; rw [← HMo.out] at this; exact this.alloc _
              case c2 => intro u hu'; simp at hu'; subst hu'; rfl
              case b1 => unfold maxLen; omega
              case b2 => omega
              case b3 => have := HF9.out.s2; simp; omega
              case next =>
                intro gg cap6 w6 hown6 hgrow6 hat6 hlt6
                have HF := hidden (HF9.out.addO hgrow6 HMo.out hown6 hat6)
                clear hown6 hgrow6 hat6 hlt6
                go_wp2_with fail
                go_roundg (M.length - (k + 1))
                case measure => omega
                case rel =>
                  obtain ⟨o1, o2, o3⟩ := one_asks (tr := tr) HNo.out HTe.out
                  have hf := HF.out
                  refine ⟨k + 1, mo + 1, ml + 1, some ⟨gg, 0, none⟩, cap6, some ⟨g', 0, none⟩, c', gv2, by omega, rfl, rfl, by go_num, ?_⟩
                  rw [HX.out, dueL_app, dM_app, gaveL_app, o1, o2, o3, List.append_nil]
                  rw [HXx.out]
                  exact ⟨by rw [List.length_append, List.length_singleton, ← HMo.out], by rw [List.length_append, List.length_singleton, ← HMl.out], hf⟩
        · by_cases hxe : xt = tr
          · have d1 : decide (0 < xt) = false := by simpa using hp
            clear hs hp
            have dq : (xt == tr) = true := by simpa using hxe
            have HTe : Hid (x.t = tr) := by rw [HXx.out]; exact hxe
            clear hxe
            go_wp2_with fail
            go_quiet (fail)
            obtain ⟨wq, hwq⟩ : ∃ wq, (wr.alloc (.cells #[.int .i64 xn, .int .i64 xt, .int .i64 xa] 87)).drewN nq = wq := ⟨_, rfl⟩
            have HBq : Hid (Below wr.heap.size wr wq) := by rw [← hwq]; exact below_drewN ((Below.refl _ _).alloc (Nat.le_refl _) _) _
            have hbq : wq.heap[wr.heap.size]? = some (.cells #[.int .i64 xn, .int .i64 xt, .int .i64 xa] 87 (0, 0)) := by rw [← hwq]; exact heap_alloc_new wr _
            rw [hwq]
            clear hwq e0 e1 r0 r1 r2 c0 c1 c2 c3 c4 c5
            have HSq := hidden (HSr.out.below HBq.out)
            obtain ⟨q0, q1, q2⟩ := cells3 hbq
            have HBX := hidden hbq
            clear hbq
            obtain ⟨c0, c1, c2, c3, c4, c5⟩ := cells6 HSq.out.ref.box
            go_wp2_with fail
            go_quiet (fail)
            obtain ⟨wp, hwp⟩ : ∃ wp, wq.drewN nq = wp := ⟨_, rfl⟩
            have HBp : Hid (Below wr.heap.size wr wp) := by rw [← hwp]; exact below_drewN HBq.out _
            have hbp : wp.heap[wr.heap.size]? = some (.cells #[.int .i64 xn, .int .i64 xt, .int .i64 xa] 87 (0, 0)) := by rw [← hwp]; exact HBX.out
            rw [hwp]
            clear hwp HSq HBq HBX q0 q1 q2 c0 c1 c2 c3 c4 c5
            have HSp := hidden (HSr.out.below HBp.out)
            obtain ⟨q0, q1, q2⟩ := cells3 hbp
            have HBX := hidden hbp
            clear hbp
            obtain ⟨c0, c1, c2, c3, c4, c5⟩ := cells6 HSp.out.ref.box
            obtain ⟨n, hn⟩ : ∃ n, n = (G ++ gaveL ag tr now (M.take k)).length := ⟨_, rfl⟩
            have hn9 : n ≤ 999999 := by rw [hn, List.length_append]; exact hgl
            have HN := hidden hn
            have HRow : Hid (wp.ownsRow base 3 1 gv2 n (ic (G ++ gaveL ag tr now (M.take k)))) := by rw [hn]; exact HSp.out.ref.gave
            clear hn
            obtain ⟨g2a, g2c, eg2, _⟩ := own_ints HRow.out (by omega)
            subst eg2
            have e5 := fun O => cell_alloc c5 O
            have r0' := fun O => cell_alloc q0 O
            have hlt := HSp.out.ref.lt b (by simp [rblks])
            have hbx := hidden HSp.out.ref.box
            have hne := hidden HSp.out.ref.ne
            have hsz : base ≤ wp.heap.size := by have h1 := HSp.out.s1; have h2 := HSp.out.s2; omega
            have HGr : Hid (∀ W, ((wp.alloc (.cells #[.int .i64 xn] 3)).drew).grownBy W (Value.slice g2a n g2c).ownBlock → W.heap[b]? = some (.cells #[.int .i64 ag, .int .i64 tr, .int .i64 now, .int .i64 T, .slice (some ⟨g, 0, none⟩) M.length lc, .slice g2a n g2c] 58 (0, 0))) := by
              refine hidden (fun W hg => ?_)
              refine (hg.block b (by simp; omega) ?_).trans ((Below.heap_alloc _ _ _ hlt).trans hbx.out)
              intro e
              exact hne.out.2 b e.symm rfl
            have HGc : Hid (∀ W, ((wp.alloc (.cells #[.int .i64 xn] 3)).drew).grownBy W (Value.slice g2a n g2c).ownBlock → W.cell? ⟨b, 5, none⟩ = some (.slice g2a n g2c)) := hidden (fun W hg => (cells6 (HGr.out W hg)).2.2.2.2.2)
            have HGf : Hid (∀ W, ((wp.alloc (.cells #[.int .i64 xn] 3)).drew).grownBy W (Value.slice g2a n g2c).ownBlock → W.frozen? ⟨b, 5, none⟩ = false) := hidden (fun W hg => free6 (HGr.out W hg) 5)
            have HA2 : Hid (∀ gg c W, ((wp.alloc (.cells #[.int .i64 xn] 3)).drew).grownBy W (Value.slice g2a n g2c).ownBlock → W.ownsRow base 3 1 (.slice (some ⟨gg, 0, none⟩) (n + 1) c) (n + 1) (ic (G ++ gaveL ag tr now (M.take k)) ++ [.int .i64 xn]) → ((Value.slice g2a n g2c).ownBlock = some gg ∨ gg = wp.heap.size + 1) →
                RSt w1 (W.setCell ⟨b, 5, none⟩ (.slice (some ⟨gg, 0, none⟩) (n + 1) c)) B base b ag tr now T M (.slice (some ⟨g, 0, none⟩) M.length lc) gv (.slice oa mo oc) (dueL ag tr now (M.take k)) (.slice na ml nc) (dM ag tr now (M.take k)) (.slice (some ⟨gg, 0, none⟩) (n + 1) c) (G ++ gaveL ag tr now (M.take k) ++ [xn])) :=
              hidden (fun gg c W hg hown hat => HSp.out.addG (O := .cells #[.int .i64 xn] 3) ⟨hg.os, hg.tape, hg.output, hg.size, hg.block⟩ HN.out hown hat)
            go_upto_region 14 with fail
            go_cut [] from 62 to 72 (fun wx => ∃ gg c, Hid (RSt w1 wx B base b ag tr now T M (.slice (some ⟨g, 0, none⟩) M.length lc) gv (.slice oa mo oc) (dueL ag tr now (M.take k)) (.slice na ml nc) (dM ag tr now (M.take k)) (.slice (some ⟨gg, 0, none⟩) (n + 1) c) (G ++ gaveL ag tr now (M.take k) ++ [xn])))
            case first =>
              go_region_law
                ((refine step_append_lies _ (by rfl) _ _ _ (by rfl) base 3 i3 _ 1 8 Tryd.underlying39 hii3 hz30 hz31 hz32 rfl (by omega) (.slice g2a n g2c) n (ic (G ++ gaveL ag tr now (M.take k))) (by rfl) ((HRow.out.alloc _).drew)
                    ⟨wp.heap.size, 0, none⟩ 1 1 [.int .i64 xn] (by rfl) (by rfl) (World.news_of_block (cs := #[.int .i64 xn]) (t := 3) (fr := (0, 0)) (heap_alloc_new wp _)) (by simp [Value.oneCell'])
                    (by omega) (by unfold maxLen; omega) (by omega) (by simp; omega) (wp.heap.size + 1) (by simp) ?_; intro gg c3 w4 hown hgrow hat hlt4; have kc := HGc.out _ hgrow; have kf := HGf.out _ hgrow))
              all_goals go_wp2_with fail
              all_goals go_meet
              all_goals exact ⟨gg, c3, HA2.out _ _ _ hgrow hown hat⟩
            case rest =>
              obtain ⟨gg, c6, HA⟩ := hcut
              clear HRow HGr HGc HGf HA2 e5 r0' hlt hbx hne hsz
              go_wp2_with fail
              go_roundg (M.length - (k + 1))
              case measure => omega
              case rel =>
                obtain ⟨o1, o2, o3⟩ := one_gives HNo.out HTe.out
                have hf := HA.out
                refine ⟨k + 1, mo, ml, oa, oc, na, nc, .slice (some ⟨gg, 0, none⟩) (n + 1) c6, by omega, rfl, rfl, by go_num, ?_⟩
                rw [HX.out, dueL_app, dM_app, gaveL_app, o1, o2, o3, List.append_nil, List.append_nil, ← List.append_assoc]
                rw [HXx.out]
                exact ⟨HMo.out, HMl.out, hf⟩
          · have d1 : decide (0 < xt) = false := by simpa using hp
            clear hs hp
            have dq : (xt == tr) = false := by simpa using hxe
            have HTe : Hid (x.t ≠ tr) := by rw [HXx.out]; exact hxe
            clear hxe
            go_wp2_with fail
            go_quiet (fail)
            obtain ⟨wq, hwq⟩ : ∃ wq, (wr.alloc (.cells #[.int .i64 xn, .int .i64 xt, .int .i64 xa] 87)).drewN nq = wq := ⟨_, rfl⟩
            have HBq : Hid (Below wr.heap.size wr wq) := by rw [← hwq]; exact below_drewN ((Below.refl _ _).alloc (Nat.le_refl _) _) _
            have hbq : wq.heap[wr.heap.size]? = some (.cells #[.int .i64 xn, .int .i64 xt, .int .i64 xa] 87 (0, 0)) := by rw [← hwq]; exact heap_alloc_new wr _
            rw [hwq]
            clear hwq e0 e1 r0 r1 r2 c0 c1 c2 c3 c4 c5
            have HSq := hidden (HSr.out.below HBq.out)
            obtain ⟨q0, q1, q2⟩ := cells3 hbq
            have HBX := hidden hbq
            clear hbq
            obtain ⟨c0, c1, c2, c3, c4, c5⟩ := cells6 HSq.out.ref.box
            go_wp2_with fail
            go_quiet (fail)
            obtain ⟨wp, hwp⟩ : ∃ wp, wq.drewN nq = wp := ⟨_, rfl⟩
            have HBp : Hid (Below wr.heap.size wr wp) := by rw [← hwp]; exact below_drewN HBq.out _
            have hbp : wp.heap[wr.heap.size]? = some (.cells #[.int .i64 xn, .int .i64 xt, .int .i64 xa] 87 (0, 0)) := by rw [← hwp]; exact HBX.out
            rw [hwp]
            clear hwp HSq HBq HBX q0 q1 q2 c0 c1 c2 c3 c4 c5
            have HSp := hidden (HSr.out.below HBp.out)
            obtain ⟨q0, q1, q2⟩ := cells3 hbp
            have HBX := hidden hbp
            clear hbp
            obtain ⟨c0, c1, c2, c3, c4, c5⟩ := cells6 HSp.out.ref.box
            have q3 := free6 HBX.out 1
            have q4 := free6 (setb HBX.out 1 (.int .i64 (xt + 1))) 2
            have hbs := setb (setb HBX.out 1 (.int .i64 (xt + 1))) 2 (.int .i64 now)
            obtain ⟨w8, hw8⟩ : ∃ w8, (wp.setCell ⟨wr.heap.size, 1, none⟩ (.int .i64 (xt + 1))).setCell ⟨wr.heap.size, 2, none⟩ (.int .i64 now) = w8 := ⟨_, rfl⟩
            rw [hw8] at hbs
            have HB8 : Hid (Below wr.heap.size wr w8) := by rw [← hw8]; exact (HBp.out.setCell (Nat.le_refl _) _).setCell (Nat.le_refl _) _
            have HS8 := hidden (HSr.out.below HB8.out)
            obtain ⟨p0, p1, p2⟩ := cells3 (v0 := .int .i64 xn) (v1 := .int .i64 (xt + 1)) (v2 := .int .i64 now) hbs
            have q5 := (cells3 (v0 := .int .i64 xn) (v1 := .int .i64 (xt + 1)) (v2 := .int .i64 xa) (setb HBX.out 1 (.int .i64 (xt + 1)))).2.2
            have HW8 := hidden hw8
            clear hw8
            go_upto_region 17 with fail
            rw [HW8.out]
            clear HW8 hbs q0 q1 q2 q3 q4 q5 c0 c1 c2 c3 c4 c5 HSp HBp
            go_wp2_with (at_builtin; refine wpList_append_own _ rfl _ _ 56 rfl B 87 i0 _ 3 24 Tryd.underlying56 hii hz0 hz1 hz2 rfl (by decide) _ ml (flat (dM ag tr now (M.take k))) rfl ?own ⟨w8.heap.size, 0, none⟩ 1 1 [.int .i64 xn, .int .i64 (xt + 1), .int .i64 now] rfl rfl (World.news_of_block (cs := #[.int .i64 xn, .int .i64 (xt + 1), .int .i64 now]) (t := 87) (fr := (0, 0)) (heap_alloc_new w8 _)) ?c2 ?b1 ?b2 ?b3 ?next)
            case own => have := HS8.out.row; rw [← HMl.out] at this; exact this.alloc _
            case c2 => intro u hu'; simp at hu'; rcases hu' with rfl | rfl | rfl <;> rfl
            case b1 => unfold maxLen; omega
            case b2 => omega
            case b3 => have := HS8.out.s2; simp; omega
            case next =>
              intro v' w9 hown hgrow _
              obtain ⟨g', c', rfl⟩ : ∃ g' c', v' = .slice (some ⟨g', 0, none⟩) (ml + 1) c' := by
                rcases hown.2 with ⟨_, h⟩ | ⟨g', c', _, h, _⟩
                · omega
                · exact ⟨g', c', h⟩
              have HF9 := hidden (HS8.out.addL (x := ⟨xn, xt + 1, now⟩) hgrow HMl.out hown)
              have hxb : w9.cell? ⟨wr.heap.size, 0, none⟩ = some (.int .i64 xn) := by
                have hl8 := World.block_lt_of_cell? w8 ⟨wr.heap.size, 0, none⟩ p0
                have hb9 : w9.heap[wr.heap.size]? = w8.heap[wr.heap.size]? := by
                  refine (hgrow.block _ (by simp; simp at hl8; omega) ?_).trans (Below.heap_alloc _ _ _ hl8)
                  intro e
                  have h1 := (HSr.out.row.lt wr.heap.size e.symm).2
                  omega
                have := p0
                simp only [World.cell?] at this ⊢
                rw [hb9]
                exact this
              clear hown hgrow p0 p1 p2
              go_wp2_with (at_builtin; refine wpList_append_lies _ rfl _ _ 39 rfl B 3 i3 _ 1 8 Tryd.underlying39 hii3 hz30 hz31 hz32 rfl (by decide) _ mo (ic (dueL ag tr now (M.take k))) rfl ?own ⟨w9.heap.size, 0, none⟩ 1 1 [.int .i64 xn] rfl rfl (World.news_of_block (cs := #[.int .i64 xn]) (t := 3) (fr := (0, 0)) (heap_alloc_new w9 _)) ?c2 (by omega) ?b1 ?b2 ?b3 (w9.heap.size + 1) (by simp) ?next)
              case own => have := HF9.out.out; rw [← HMo.out] at this; exact this.alloc _
              case c2 => intro u hu'; simp at hu'; subst hu'; rfl
              case b1 => unfold maxLen; omega
              case b2 => omega
              case b3 => have := HF9.out.s2; simp; omega
              case next =>
                intro gg cap6 w6 hown6 hgrow6 hat6 hlt6
                have HF := hidden (HF9.out.addO hgrow6 HMo.out hown6 hat6)
                clear hown6 hgrow6 hat6 hlt6
                go_wp2_with fail
                go_roundg (M.length - (k + 1))
                case measure => omega
                case rel =>
                  obtain ⟨o1, o2, o3⟩ := one_asks (tr := tr) HNo.out HTe.out
                  have hf := HF.out
                  refine ⟨k + 1, mo + 1, ml + 1, some ⟨gg, 0, none⟩, cap6, some ⟨g', 0, none⟩, c', gv2, by omega, rfl, rfl, by go_num, ?_⟩
                  rw [HX.out, dueL_app, dM_app, gaveL_app, o1, o2, o3, List.append_nil]
                  rw [HXx.out]
                  exact ⟨by rw [List.length_append, List.length_singleton, ← HMo.out], by rw [List.length_append, List.length_singleton, ← HMl.out], hf⟩
    · have hkz : ¬ (k : Int) < (M.length : Int) := by omega
      obtain rfl : k = M.length := by omega
      have f4 := free6 HS.out.2.2.ref.box 4
      have HFin : Hid (RefAt (wr.setCell ⟨b, 4, none⟩ (.slice na ml nc)) base b ag tr now T (dM ag tr now M) (.slice na ml nc) (G ++ gaveL ag tr now M) gv2 ∧ (wr.setCell ⟨b, 4, none⟩ (.slice na ml nc)).ownsRow w1.heap.size 3 1 (.slice oa mo oc) (dueL ag tr now M).length (ic (dueL ag tr now M)) ∧ Only (b :: gv.ownBlock.toList) w1 (wr.setCell ⟨b, 4, none⟩ (.slice na ml nc))) := by
        obtain ⟨m1, m2, hs⟩ := HS.out
        rw [List.take_length] at hs m1 m2
        have oB : Only [b] wr (wr.setCell ⟨b, 4, none⟩ (.slice na ml nc)) := (Only.refl _ _).setCell (by simp) _
        have s1 := hs.s1
        have bb := hs.bb
        refine hidden ⟨⟨setb hs.ref.box 4 _, ?_, oB.owns hs.ref.gave (fun j hj => by simp; exact hs.ref.ne.2 j hj)⟩, ?_, hs.only.setCell (by simp) _⟩
        · refine own_base (oB.owns hs.row ?_) (Nat.le_trans hbase s1)
          intro j hj hc
          have := (hs.row.lt j hj).1
          simp at hc
          omega
        · refine own_base (oB.owns hs.out ?_) s1
          intro j hj hc
          have := (hs.out.lt j hj).1
          simp at hc
          omega
      have HGb : Hid (∀ j, gv2.ownBlock = some j → (gv.ownBlock = some j ∨ w1.heap.size ≤ j) ∧ (Value.slice oa mo oc).ownBlock ≠ some j) := by
        obtain ⟨m1, m2, hs⟩ := HS.out
        have s1 := hs.s1
        refine hidden (fun j hj => ?_)
        rcases hs.gb j hj with q | q
        · refine ⟨.inl q.1, fun hd => ?_⟩
          have := (hs.out.lt j hd).1
          omega
        · exact ⟨.inr (by omega), q.2⟩
      clear HS
      go_wp2_with fail
      go_ret2
      obtain ⟨e1, e2, e3⟩ := HFin.out
      exact ⟨_, rfl, _, gv2, e1, e2, HGb.out, e3⟩

theorem rdue_calls (base b : Nat) (ag tr nw T now : Int) (M : Its) (lv gv : Value) (G : List Int) (w : World) (h : RefAt w base b ag tr nw T M lv G gv) (hI : GM.Inv ag tr nw T M) (hbase : base ≤ w.heap.size) (hG : G.length ≤ 999800) :
    Calls Tryd.prog 21 #[.pointer (some ⟨b, 0, none⟩), .int .i64 now] w fun e w' => ∃ ov, e = .returned (.tuple #[ov, .int .i64 (tf nw now : Nat)]) ∧ ∃ lv2 gv2, RefAt w' base b ag tr (dN nw now) T (dL ag tr nw M now) lv2 (G ++ dG ag tr nw M now) gv2 ∧
      w'.ownsRow w.heap.size 3 1 ov (dD ag tr nw M now).length (ic (dD ag tr nw M now)) ∧ (∀ j, gv2.ownBlock = some j → (gv.ownBlock = some j ∨ w.heap.size ≤ j) ∧ ov.ownBlock ≠ some j) ∧ Only (b :: gv.ownBlock.toList) w w' := by
  by_cases ht : tf nw now = 0
  · have eN : dN nw now = now := by unfold dN; rw [if_pos ht]
    have eL : dL ag tr nw M now = dM ag tr now M := by unfold dL; rw [if_pos ht]
    have eD : dD ag tr nw M now = dueL ag tr now M := by unfold dD; rw [if_pos ht]
    have eG : dG ag tr nw M now = gaveL ag tr now M := by unfold dG; rw [if_pos ht]
    rw [eN, eL, eD, eG, ht]
    exact rdue_ok base b ag tr nw T now M lv gv G w h hI hbase ht hG
  · have eN : dN nw now = nw := by unfold dN; rw [if_neg ht]
    have eL : dL ag tr nw M now = M := by unfold dL; rw [if_neg ht]
    have eD : dD ag tr nw M now = [] := by unfold dD; rw [if_neg ht]
    have eG : dG ag tr nw M now = [] := by unfold dG; rw [if_neg ht]
    rw [eN, eL, eD, eG, List.append_nil]
    refine (rdue_time b nw now w (cells6 h.box).2.2.1 ht).mono ?_
    rintro e w' ⟨rfl, hb⟩
    exact ⟨_, rfl, lv, gv, h.below hb, World.ownsRow_nil _ _ _ _, fun j hj => ⟨.inl hj, by simp [Value.ownBlock]⟩, Only.of_below hb _⟩
end Go.Proofs.YtnnehhgdinclgadDoor.RGaps
