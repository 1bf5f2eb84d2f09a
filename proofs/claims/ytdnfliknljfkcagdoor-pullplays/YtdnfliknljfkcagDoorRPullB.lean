/-
  What Want and Drop of the reference's Pull return, and what they leave in memory. Their condition: what is kept is such as it may be.
-/
import Derived.Test.YtdnfliknljfkcagDoorRPullA
namespace Go.Proofs.YtdnfliknljfkcagDoor.RPull
open Go.ChangeShapes Go.WideShapes Go.ChangeAt Go.RowKit Go.Proofs.YtdnfliknljfkcagDoor.Mem Go.Proofs.YtdnfliknljfkcagDoor.PU Go.Proofs.YtdnfliknljfkcagDoor.Pull
set_option linter.unusedVariables false

/-- what comes of a list -/
def Nx (w w' : World) (base rb : Nat) (th nw : Int) (td ak : Nat → Int) (L : Wts) (lv : Value) (Q : Wts → Prop) : Prop :=
  ∃ K lv', Q K ∧ PU.Inv K ∧ K.length ≤ L.length + 1 ∧ RefAt w' base rb th nw td ak K lv' ∧ Only (rblks rb lv) w w'
theorem mc_set : ∀ (L : Wts) (k : Nat) (c : Int), k < L.length → (mc L).set (k * 3 + 2) (.int .i64 c) = mc (L.set k ⟨(L.getD k zz).a, (L.getD k zz).b, c⟩)
  | [], k, c, h => absurd h (by simp)
  | p :: L, 0, c, _ => rfl
  | p :: L, k + 1, c, h => by
    have ih := mc_set L k c (by simpa using h)
    have e : mc (p :: L) = .int .i64 p.a :: .int .i64 p.b :: .int .i64 p.c :: mc L := rfl
    rw [e, show (k + 1) * 3 + 2 = (k * 3 + 2) + 1 + 1 + 1 by omega]
    simp only [List.set_cons_succ, List.getD_cons_succ]
    rw [ih, mc_cons]
    rfl
/-- the layer of one that is there is set -/
theorem RefAt.layer {w : World} {base rb g c k : Nat} {th nw a t x : Int} {td ak : Nat → Int} {L : Wts} (h : RefAt w base rb th nw td ak L (.slice (some ⟨g, 0, none⟩) L.length c)) (hI : PU.Inv L) (hk : k < L.length) (hh : hit a t (L.getD k zz) = true) (hok : Ok ⟨a, t, x⟩) :
    Nx w (w.setCell ⟨g, k * 3 + 2, none⟩ (.int .i64 x)) base rb th nw td ak L (.slice (some ⟨g, 0, none⟩) L.length c) (Puts L ⟨a, t, x⟩) := by
  have e := hit_iff.1 hh
  have hs := (h.row.stored (k * 3 + 2) (.int .i64 x)).1
  rw [mc_set L k x hk, e.1, e.2] at hs
  have ho : Only [g] w (w.setCell ⟨g, k * 3 + 2, none⟩ (.int .i64 x)) := (Only.refl _ _).setCell (by simp) _
  obtain ⟨cs, h1, h2⟩ := h.box
  refine ⟨L.set k ⟨a, t, x⟩, .slice (some ⟨g, 0, none⟩) L.length c, puts_set hI hk hh, inv_set hI hk hok hh, by simp, ⟨⟨cs, ho.block h1 ?_, h2⟩, ?_⟩, ho.mono ?_⟩
  · have := h.ne g (by simp [Value.ownBlock])
    simp
    exact fun q => this q.symm
  · rw [List.length_set]; exact hs
  · intro j hj
    simp at hj
    exact mem_rblks.2 (.inr (by simp [Value.ownBlock, hj]))
/-- another list is put in its place -/
theorem RefAt.newL {w w2 : World} {base rb : Nat} {th nw : Int} {td ak : Nat → Int} {L K : Wts} {lv lv' : Value} (h : RefAt w base rb th nw td ak L lv) (ho : Only lv.ownBlock.toList w w2) (hr : w2.ownsRow base 30 3 lv' K.length (mc K)) :
    RefAt (w2.setCell ⟨rb, 2, none⟩ lv') base rb th nw td ak K lv' ∧ Only (rblks rb lv) w (w2.setCell ⟨rb, 2, none⟩ lv') ∧ w2.cell? ⟨rb, 2, none⟩ = some lv ∧ w2.frozen? ⟨rb, 2, none⟩ = false := by
  obtain ⟨cs, h1, h2⟩ := h.box
  have hb : w2.heap[rb]? = some (.cells cs 44 (0, 0)) := ho.block h1 (by simp; exact fun q => h.ne rb q rfl)
  have oS : Only [rb] w2 (w2.setCell ⟨rb, 2, none⟩ lv') := (Only.refl _ _).setCell (by simp) _
  refine ⟨⟨⟨_, heap_setCell_same w2 rb 2 cs 44 lv' hb, ⟨by simpa using h2.sz, ?_, ?_, ?_, ?_, ?_⟩⟩, oS.owns hr (fun k hk => ?_)⟩, (ho.mono (by intro j hj; simp at hj; exact mem_rblks.2 (.inr hj))).setCell (mem_rblks.2 (.inl rfl)) _, (getr hb 2).trans h2.c2, by simp [World.frozen?, hb]⟩
  · rw [Array.getElem?_setIfInBounds, if_neg (by omega)]; exact h2.c0
  · rw [Array.getElem?_setIfInBounds, if_neg (by omega)]; exact h2.c1
  · rw [Array.getElem?_setIfInBounds, if_pos rfl, if_pos (by have := h2.sz; omega)]
  · intro i hi; rw [Array.getElem?_setIfInBounds, if_neg (by omega)]; exact h2.ct i hi
  · intro i hi; rw [Array.getElem?_setIfInBounds, if_neg (by omega)]; exact h2.ca i hi
  · simp
    intro e
    rcases hr.2 with ⟨rfl, _⟩ | ⟨g, cap, cur, rfl, _, hbb, _⟩
    · simp [Value.ownBlock] at hk
    · simp [Value.ownBlock] at hk
      subst hk
      rw [e, hb] at hbb
      simp at hbb

theorem own_form {w : World} {base e size n : Nat} {v : Value} {xs : List Value} (h : w.ownsRow base e size v n xs) : ∃ a c, v = .slice a n c := by
  rcases h.2 with ⟨h, h0⟩ | ⟨g, cap, cur, h, hg, _⟩
  · exact ⟨none, 0, by rw [h, h0]⟩
  · exact ⟨_, cap, h⟩
theorem rwant_err (p : Value) (a t c : Int) (w : World) (h : wf a t c ≠ 0) :
    Calls Tryd.prog 13 #[p, .int .i64 a, .int .i64 t, .int .i64 c] w fun e w' => e = .returned (.int .i64 1) ∧ w' = w := by
  have hne : ¬ (0 ≤ a ∧ a ≤ 200 ∧ 1 ≤ t ∧ t ≤ 8 ∧ 0 ≤ c ∧ c ≤ 3) := fun q => h (wf_zero.2 q)
  clear h
  have C2 := track_calls t w
  obtain ⟨q, hq⟩ : ∃ q, (decide (1 ≤ t) && decide (t ≤ 8)) = q := ⟨_, rfl⟩
  rw [hq] at C2
  have HC2 := hidden C2
  clear C2
  by_cases h1 : a < 0
  · have d1 : decide (a < 0) = true := decide_eq_true h1
    clear hne h1 hq
    go_enter Tryd.func13, Tryd.ntmps13
    go_wp2_with fail
    refine HC2.out.mono ?_
    rintro e w1 ⟨rfl, rfl⟩
    go_wp2_with fail
    go_ret
    exact ⟨rfl, rfl⟩
  have d1 : decide (a < 0) = false := decide_eq_false h1
  by_cases h2 : 200 < a
  · have d2 : decide (200 < a) = true := decide_eq_true h2
    clear hne h1 h2 hq
    go_enter Tryd.func13, Tryd.ntmps13
    go_wp2_with fail
    refine HC2.out.mono ?_
    rintro e w1 ⟨rfl, rfl⟩
    go_wp2_with fail
    go_ret
    exact ⟨rfl, rfl⟩
  have d2 : decide (200 < a) = false := decide_eq_false h2
  cases q with
  | false =>
    clear hne h1 h2 hq
    go_enter Tryd.func13, Tryd.ntmps13
    go_wp2_with fail
    refine HC2.out.mono ?_
    rintro e w1 ⟨rfl, rfl⟩
    go_wp2_with fail
    go_ret
    exact ⟨rfl, rfl⟩
  | true =>
    have ht : 1 ≤ t ∧ t ≤ 8 := by simpa using hq
    by_cases h3 : c < 0
    · have d3 : decide (c < 0) = true := decide_eq_true h3
      clear hne h1 h2 hq h3 ht
      go_enter Tryd.func13, Tryd.ntmps13
      go_wp2_with fail
      refine HC2.out.mono ?_
      rintro e w1 ⟨rfl, rfl⟩
      go_wp2_with fail
      go_ret
      exact ⟨rfl, rfl⟩
    have d3 : decide (c < 0) = false := decide_eq_false h3
    have d4 : decide (3 < c) = true := decide_eq_true (by omega)
    clear hne h1 h2 hq h3 ht
    go_enter Tryd.func13, Tryd.ntmps13
    go_wp2_with fail
    refine HC2.out.mono ?_
    rintro e w1 ⟨rfl, rfl⟩
    go_wp2_with fail
    go_ret
    exact ⟨rfl, rfl⟩
set_option maxHeartbeats 1000000 in
set_option maxRecDepth 100000 in
theorem rwant_ok (base rb : Nat) (th nw a t c : Int) (td ak : Nat → Int) (L : Wts) (lv : Value) (w : World) (h : RefAt w base rb th nw td ak L lv) (hI : PU.Inv L) (hl : L.length ≤ 999) (hbase : base ≤ w.heap.size) (h0 : wf a t c = 0) :
    Calls Tryd.prog 13 #[.pointer (some ⟨rb, 0, none⟩), .int .i64 a, .int .i64 t, .int .i64 c] w fun e w' => e = .returned (.int .i64 0) ∧ Nx w w' base rb th nw td ak L lv (Puts L ⟨a, t, c⟩) := by
  obtain ⟨i0, hii, hz0, hz1, hz2⟩ := info_parts infoWT
  have HOk := hidden (wf_zero.1 h0)
  obtain ⟨g1, g2, g3, g4, g5, g6⟩ := wf_zero.1 h0
  simp only at g1 g2 g3 g4 g5 g6
  have C2 := track_calls t w
  rw [decide_eq_true g3, decide_eq_true g4] at C2
  have HC2 := hidden C2
  have HC3 := hidden (at_calls base rb th nw a t td ak L lv w h (by omega))
  have d1 : decide (a < 0) = false := decide_eq_false (by omega)
  have d2 : decide (200 < a) = false := decide_eq_false (by omega)
  have d3 : decide (c < 0) = false := decide_eq_false (by omega)
  have d4 : decide (3 < c) = false := decide_eq_false (by omega)
  obtain ⟨la, lc, rfl, hA, hlc⟩ := h.list (by omega)
  have c2 := h.cells.2.2
  have HR := hidden h
  have HA := hidden hA
  have HI := hidden hI
  clear C2 h hA hI h0 g1 g2 g3 g4 g5 g6
  go_enter Tryd.func13, Tryd.ntmps13
  go_wp2_with fail
  refine HC2.out.mono ?_
  rintro e w1 ⟨rfl, rfl⟩
  go_wp2_with fail
  refine HC3.out.mono ?_
  rintro e w1 ⟨r, rfl, hW, rfl⟩
  rcases hW with ⟨rfl, hn⟩ | ⟨k, rfl, hk, hh⟩
  · have HN := hidden hn
    clear hn HC2 HC3
    have HO : Hid ((w1.alloc (.cells #[.int .i64 a, .int .i64 t, .int .i64 c] 30)).ownsRow base 30 3 (.slice la L.length lc) L.length (mc L)) := HR.out.row.alloc _
    have HNw := hidden (WBox.new w1 ⟨a, t, c⟩).news
    go_wp2_with (at_builtin; refine wpList_append_own _ rfl _ _ 22 rfl base 30 i0 _ 3 24 Tryd.underlying22 hii hz0 hz1 hz2 rfl (by decide) _ L.length (mc L) rfl HO.out ⟨w1.heap.size, 0, none⟩ 1 1 (mc [⟨a, t, c⟩]) rfl rfl HNw.out (mc_cell _) ?b1 ?b2 ?b3 ?next)
    case b1 => unfold maxLen; omega
    case b2 => omega
    case b3 => exact Nat.le_trans hbase (by simp)
    case next =>
      intro v1 w5 hown hgrow _
      obtain ⟨va, vc, rfl⟩ := own_form hown
      have ho5 : Only (Value.slice la L.length lc).ownBlock.toList w1 w5 := ((Only.refl _ _).alloc _).grown hgrow (by intro j hj; simp [hj])
      have hown' : w5.ownsRow base 30 3 (.slice va (L.length + 1) vc) (L ++ ([⟨a, t, c⟩] : Wts)).length (mc (L ++ ([⟨a, t, c⟩] : Wts))) := by rw [mc_app, List.length_append]; exact hown
      obtain ⟨q1, q2, q3, q4⟩ := HR.out.newL ho5 hown'
      have HF : Hid (Nx w1 (w5.setCell ⟨rb, 2, none⟩ (.slice va (L.length + 1) vc)) base rb th nw td ak L (.slice la L.length lc) (Puts L ⟨a, t, c⟩)) := ⟨_, _, puts_app HN.out, inv_app HI.out HOk.out HN.out, by simp, q1, q2⟩
      clear hown hgrow hown' ho5 q1 q2
      go_wp2_with fail
      go_ret
      exact ⟨rfl, HF.out⟩
  · obtain ⟨lb, lo, rfl, hlb, hls⟩ := HA.out.at (by omega)
    obtain ⟨ga, gc, eg, _, _, _, hg⟩ := own_wts HR.out.row (by omega)
    simp only [Value.slice.injEq] at eg
    obtain ⟨eg, -⟩ := eg
    obtain ⟨g, e2, _⟩ := hg _ eg.symm
    simp only [Addr.mk.injEq, and_true] at e2
    obtain ⟨rfl, rfl⟩ := e2
    have r2 := (hls k hk).2.2
    rw [Nat.zero_add] at r2
    have hkz : (k : Int) < (L.length : Int) := by omega
    have f2 : w1.frozen? ⟨lb, k * 3 + 2, none⟩ = false := by
      rcases HR.out.row.2 with ⟨q, _⟩ | ⟨g', cap', cur', q, _, hb', _⟩
      · simp at q
      · simp only [Value.slice.injEq, Option.some.injEq, Addr.mk.injEq, and_true] at q
        obtain ⟨rfl, _⟩ := q
        simp [World.frozen?, hb']
    have HF := hidden (HR.out.layer HI.out hk hh HOk.out)
    clear hls hg eg HC2 HC3 hh
    go_wp2_with fail
    go_ret
    exact ⟨rfl, HF.out⟩
theorem rwant_calls (base rb : Nat) (th nw a t c : Int) (td ak : Nat → Int) (L : Wts) (lv : Value) (w : World) (h : RefAt w base rb th nw td ak L lv) (hI : PU.Inv L) (hl : L.length ≤ 999) (hbase : base ≤ w.heap.size) :
    Calls Tryd.prog 13 #[.pointer (some ⟨rb, 0, none⟩), .int .i64 a, .int .i64 t, .int .i64 c] w fun e w' => e = .returned (.int .i64 (wf a t c : Int)) ∧ Nx w w' base rb th nw td ak L lv (Wanted L a t c) := by
  by_cases h0 : wf a t c = 0
  · refine (rwant_ok base rb th nw a t c td ak L lv w h hI hl hbase h0).mono ?_
    rintro e w' ⟨rfl, K, lv', q1, q2⟩
    exact ⟨by rw [h0]; rfl, K, lv', ⟨fun _ => q1, fun q => absurd h0 q⟩, q2⟩
  · refine (rwant_err _ a t c w h0).mono ?_
    rintro e w' ⟨rfl, rfl⟩
    have h1 : wf a t c = 1 := by have := wf_le a t c; omega
    exact ⟨by rw [h1]; rfl, L, lv, ⟨fun q => absurd q h0, fun _ y => Iff.rfl⟩, hI, by omega, h, Only.refl _ _⟩

theorem elemWS : Tryd.prog.elem 22 = 30 := by kernel_rfl
theorem sizeWT (w : World) : (sizeOf 30).run Tryd.prog w = .ok 3 w := by
  obtain ⟨i, hi, _, hs, _⟩ := info_parts infoWT
  simp [sizeOf, typeInfo, hi, hs]
theorem undWS : Tryd.prog.underlying 22 = some (.slice (Tryd.prog.elem 22)) := by rw [elemWS]; exact Tryd.underlying22
/-- l[:n] -/
theorem cut_high (a : Option Addr) (len cap n : Nat) (h : n ≤ cap) (w : World) :
    (Instr.slice 22 (.slice a len cap) none (some (.int .i64 (n : Int))) none).run Tryd.prog w = .ok (.slice a n cap) w := by
  rw [run_slice_h w 22 a len cap undWS .i64 n (by omega) (by omega), elemWS, sizeWT]
  simp [Result.andThen, sliced, Addr.add_zero']
/-- l[n:] -/
theorem cut_low (g len cap n : Nat) (h : n ≤ len) (hc : len ≤ cap) :
    ∃ o, (∀ w : World, (Instr.slice 22 (.slice (some ⟨g, 0, none⟩) len cap) (some (.int .i64 (n : Int))) none none).run Tryd.prog w = .ok (.slice (some ⟨g, o, none⟩) (len - n) (cap - n)) w) ∧ (n < len → o = n * 3) := by
  by_cases e : cap = n
  · refine ⟨0, fun w => ?_, fun h2 => by omega⟩
    rw [run_slice_l w 22 _ len cap undWS .i64 n (by omega) (by omega), elemWS, sizeWT]
    simp [Result.andThen, sliced, e]
  · refine ⟨n * 3, fun w => ?_, fun _ => rfl⟩
    rw [run_slice_l w 22 _ len cap undWS .i64 n (by omega) (by omega), elemWS, sizeWT]
    have e2 : (⟨g, 0, none⟩ : Addr).add (n * 3) = ⟨g, n * 3, none⟩ := by rw [add_plain]; simp
    simp [Result.andThen, sliced, e, e2]
theorem own_cell {w : World} {base g c : Nat} {L : Wts} (h : w.ownsRow base 30 3 (.slice (some ⟨g, 0, none⟩) L.length c) L.length (mc L)) {p : Nat} {u : Value} (hp : (mc L)[p]? = some u) : w.cell? ⟨g, p, none⟩ = some u := by
  have hlt := (List.getElem?_eq_some_iff.1 hp).1
  rw [mc_len] at hlt
  rw [h.cellAt p hlt, hp]
theorem mc_take_get {L : Wts} {j p : Nat} {u : Value} (h : (mc (L.take j))[p]? = some u) : (mc L)[p]? = some u := by
  have e : mc L = mc (L.take j) ++ mc (L.drop j) := by rw [← mc_app, List.take_append_drop]
  rw [e, List.getElem?_append_left (List.getElem?_eq_some_iff.1 h).1]
  exact h
theorem mc_drop_get {L : Wts} {j p : Nat} {u : Value} (hj : j ≤ L.length) (h : (mc (L.drop j))[p]? = some u) : (mc L)[j * 3 + p]? = some u := by
  have e : mc L = mc (L.take j) ++ mc (L.drop j) := by rw [← mc_app, List.take_append_drop]
  have hl : (mc (L.take j)).length = j * 3 := by rw [mc_len, List.length_take, Nat.min_eq_left hj]
  rw [e, List.getElem?_append_right (by omega), hl, Nat.add_sub_cancel_left]
  exact h
theorem rdrop_err (p : Value) (a t : Int) (w : World) (h : ¬ (0 ≤ a ∧ a ≤ 200 ∧ 1 ≤ t ∧ t ≤ 8)) :
    Calls Tryd.prog 14 #[p, .int .i64 a, .int .i64 t] w fun e w' => e = .returned (.int .i64 1) ∧ w' = w := by
  have C2 := track_calls t w
  obtain ⟨q, hq⟩ : ∃ q, (decide (1 ≤ t) && decide (t ≤ 8)) = q := ⟨_, rfl⟩
  rw [hq] at C2
  have HC2 := hidden C2
  clear C2
  by_cases h1 : a < 0
  · have d1 : decide (a < 0) = true := decide_eq_true h1
    clear h h1 hq
    go_enter Tryd.func14, Tryd.ntmps14
    go_wp2_with fail
    refine HC2.out.mono ?_
    rintro e w1 ⟨rfl, rfl⟩
    go_wp2_with fail
    go_ret
    exact ⟨rfl, rfl⟩
  have d1 : decide (a < 0) = false := decide_eq_false h1
  by_cases h2 : 200 < a
  · have d2 : decide (200 < a) = true := decide_eq_true h2
    clear h h1 h2 hq
    go_enter Tryd.func14, Tryd.ntmps14
    go_wp2_with fail
    refine HC2.out.mono ?_
    rintro e w1 ⟨rfl, rfl⟩
    go_wp2_with fail
    go_ret
    exact ⟨rfl, rfl⟩
  have d2 : decide (200 < a) = false := decide_eq_false h2
  have hqf : q = false := by
    cases q with
    | false => rfl
    | true => have ht : 1 ≤ t ∧ t ≤ 8 := by simpa using hq
              omega
  subst hqf
  clear h h1 h2 hq
  go_enter Tryd.func14, Tryd.ntmps14
  go_wp2_with fail
  refine HC2.out.mono ?_
  rintro e w1 ⟨rfl, rfl⟩
  go_wp2_with fail
  go_ret
  exact ⟨rfl, rfl⟩
set_option maxHeartbeats 2000000 in
set_option maxRecDepth 100000 in
theorem rdrop_in (base rb : Nat) (th nw a t : Int) (td ak : Nat → Int) (L : Wts) (lv : Value) (w : World) (h : RefAt w base rb th nw td ak L lv) (hI : PU.Inv L) (hl : L.length ≤ 999) (hbase : base ≤ w.heap.size) (h0 : 0 ≤ a ∧ a ≤ 200 ∧ 1 ≤ t ∧ t ≤ 8) :
    Calls Tryd.prog 14 #[.pointer (some ⟨rb, 0, none⟩), .int .i64 a, .int .i64 t] w fun e w' => ∃ r : Int, e = .returned (.int .i64 r) ∧ ((has L a t = false ∧ r = 5 ∧ w' = w) ∨ (has L a t = true ∧ r = 0 ∧ Nx w w' base rb th nw td ak L lv (Dels L a t))) := by
  obtain ⟨i0, hii, hz0, hz1, hz2⟩ := info_parts infoWT
  obtain ⟨g1, g2, g3, g4⟩ := h0
  have C2 := track_calls t w
  rw [decide_eq_true g3, decide_eq_true g4] at C2
  have HC2 := hidden C2
  have HC3 := hidden (at_calls base rb th nw a t td ak L lv w h (by omega))
  have d1 : decide (a < 0) = false := decide_eq_false (by omega)
  have d2 : decide (200 < a) = false := decide_eq_false (by omega)
  obtain ⟨la, lc, rfl, hA, hlc⟩ := h.list (by omega)
  have c2 := h.cells.2.2
  have HR := hidden h
  have HA := hidden hA
  have HI := hidden hI
  clear C2 h hA hI g1 g2 g3 g4
  go_enter Tryd.func14, Tryd.ntmps14
  go_wp2_with fail
  refine HC2.out.mono ?_
  rintro e w1 ⟨rfl, rfl⟩
  go_wp2_with fail
  refine HC3.out.mono ?_
  rintro e w1 ⟨r, rfl, hW, rfl⟩
  rcases hW with ⟨rfl, hn⟩ | ⟨k, rfl, hk, hh⟩
  · have HN := hidden hn
    clear hn HC2 HC3
    go_wp2_with fail
    go_ret
    exact ⟨_, rfl, .inl ⟨HN.out, rfl, rfl⟩⟩
  · obtain ⟨lb, lo, rfl, hlb, -⟩ := HA.out.at (by omega)
    obtain ⟨ga, gc, eg, _, _, _, hg⟩ := own_wts HR.out.row (by omega)
    simp only [Value.slice.injEq] at eg
    obtain ⟨eg, -⟩ := eg
    obtain ⟨g, e2, _⟩ := hg _ eg.symm
    simp only [Addr.mk.injEq, and_true] at e2
    obtain ⟨rfl, rfl⟩ := e2
    have HH := hidden hh
    have s0 := cut_high (some ⟨lb, 0, none⟩) L.length lc k (by omega)
    obtain ⟨ol, s1, hol⟩ := cut_low lb L.length lc (k + 1) (by omega) hlc
    have ej : ((k + 1 : Nat) : Int) = (k : Int) + 1 := by omega
    rw [ej] at s1
    have HOl := hidden hol
    clear ej hol hg eg HC2 HC3 hh
    go_wp2_with (at_builtin; refine append_any rfl _ _ 22 rfl w1.heap.size 30 i0 _ 3 24 Tryd.underlying22 hii hz0 hz1 hz2 rfl (by decide) _ 0 [] rfl (World.ownsRow_nil _ _ _ _) (some ⟨lb, 0, none⟩) k lc (mc (L.take k)) rfl ?al (fun e => by simp at e) ?ac (mc_cell _) ?b1 ?b2 ?b3 ?next)
    case al => rw [mc_len, List.length_take, Nat.min_eq_left (by omega)]
    case ac =>
      intro ad ha p u hp
      simp only [Option.some.injEq] at ha
      subst ha
      rw [add_plain, Nat.zero_add]
      exact own_cell HR.out.row (mc_take_get hp)
    case b1 => unfold maxLen; omega
    case b2 => omega
    case b3 => exact Nat.le_refl _
    case next =>
      intro l1 w4 hown4 hgrow4
      obtain ⟨a4, c4, rfl⟩ := own_form hown4
      have hb4 : Below w1.heap.size w1 w4 := (Below.refl _ _).grown hgrow4 (Nat.le_refl _) (by simp [Value.ownBlock])
      have HR4 := hidden (HR.out.below hb4)
      have HB4 := hidden hb4
      have HO4 := hidden hown4
      have HL4 : Hid (∀ q, (Value.slice a4 k c4).ownBlock = some q → w1.heap.size ≤ q) := hidden (fun q hq => (hown4.lt q hq).1)
      have d3 := HR4.out.cells.2.2
      have hs4 : w1.heap.size ≤ w4.heap.size := hgrow4.size
      clear hown4 hgrow4 hb4
      go_wp2_with (at_builtin; refine append_any rfl _ _ 22 rfl w1.heap.size 30 i0 _ 3 24 Tryd.underlying22 hii hz0 hz1 hz2 rfl (by decide) _ k (mc (L.take k)) rfl HO4.out (some ⟨lb, ol, none⟩) (L.length - (k + 1)) (lc - (k + 1)) (mc (L.drop (k + 1))) rfl ?al (fun e => by simp at e) ?ac (mc_cell _) ?b1 ?b2 ?b3 ?next)
      case al => rw [mc_len, List.length_drop]
      case ac =>
        intro ad ha p u hp
        simp only [Option.some.injEq] at ha
        subst ha
        have hlt := (List.getElem?_eq_some_iff.1 hp).1
        rw [mc_len, List.length_drop] at hlt
        rw [add_plain, HOl.out (by omega)]
        exact own_cell HR4.out.row (mc_drop_get (by omega) hp)
      case b1 => unfold maxLen; omega
      case b2 => omega
      case b3 => exact hs4
      case next =>
        intro l3 w5 hown5 hgrow5
        obtain ⟨a5, c5, rfl⟩ := own_form hown5
        have hb5 : Below w1.heap.size w1 w5 := HB4.out.grown hgrow5 hs4 (fun j hj => HL4.out j hj)
        have hK : (L.take k ++ L.drop (k + 1)).length = k + (L.length - (k + 1)) := by rw [List.length_append, List.length_take, List.length_drop, Nat.min_eq_left (by omega)]
        have hown' : w5.ownsRow base 30 3 (.slice a5 (k + (L.length - (k + 1))) c5) (L.take k ++ L.drop (k + 1)).length (mc (L.take k ++ L.drop (k + 1))) := by rw [mc_app, hK]; exact own_base (by simpa using hown5) hbase
        obtain ⟨q1, q2, q3, q4⟩ := HR.out.newL (Only.of_below hb5 _) hown'
        have HF : Hid (has L a t = true ∧ Nx w1 (w5.setCell ⟨rb, 2, none⟩ (.slice a5 (k + (L.length - (k + 1))) c5)) base rb th nw td ak L (.slice (some ⟨lb, 0, none⟩) L.length lc) (Dels L a t)) :=
          ⟨has_iff.2 ⟨_, getD_mem hk, hit_iff.1 HH.out⟩, _, _, dels_erase HI.out hk HH.out, inv_erase HI.out, by rw [hK]; omega, q1, q2⟩
        clear hown5 hgrow5 hown' hb5 q1 q2 hK
        go_wp2_with fail
        go_ret
        exact ⟨_, rfl, .inr ⟨HF.out.1, rfl, HF.out.2⟩⟩
theorem rdrop_calls (base rb : Nat) (th nw a t : Int) (td ak : Nat → Int) (L : Wts) (lv : Value) (w : World) (h : RefAt w base rb th nw td ak L lv) (hI : PU.Inv L) (hl : L.length ≤ 999) (hbase : base ≤ w.heap.size) :
    Calls Tryd.prog 14 #[.pointer (some ⟨rb, 0, none⟩), .int .i64 a, .int .i64 t] w fun e w' => e = .returned (.int .i64 (df L a t : Int)) ∧ Nx w w' base rb th nw td ak L lv (Dropped L a t) := by
  by_cases h0 : 0 ≤ a ∧ a ≤ 200 ∧ 1 ≤ t ∧ t ≤ 8
  · have e : df L a t = if has L a t = true then 0 else 5 := by unfold df; rw [if_pos h0]
    refine (rdrop_in base rb th nw a t td ak L lv w h hI hl hbase h0).mono ?_
    rintro e' w' ⟨r, rfl, ⟨q1, rfl, rfl⟩ | ⟨q1, rfl, K, lv', q2, q3⟩⟩
    · have e2 : df L a t = 5 := by rw [e, if_neg (by simp [q1])]
      exact ⟨by rw [e2]; rfl, L, lv, ⟨fun q => by omega, fun _ y => Iff.rfl⟩, hI, by omega, h, Only.refl _ _⟩
    · have e2 : df L a t = 0 := by rw [e, if_pos q1]
      exact ⟨by rw [e2]; rfl, K, lv', ⟨fun _ => q2, fun q => absurd e2 q⟩, q3⟩
  · have e2 : df L a t = 1 := by unfold df; rw [if_neg h0]
    refine (rdrop_err _ a t w h0).mono ?_
    rintro e' w' ⟨rfl, rfl⟩
    exact ⟨by rw [e2]; rfl, L, lv, ⟨fun q => by omega, fun _ y => Iff.rfl⟩, hI, by omega, h, Only.refl _ _⟩
end Go.Proofs.YtdnfliknljfkcagDoor.RPull
