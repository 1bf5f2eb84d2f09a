/-
  What the library's Insert, as package view calls it, does to a row of members that is the caller's own: the row with one more member at its place, in its own memory or in new one.
-/
import Derived.Test.YtlahlgoknolniafDoorViewB
import Derived.Deep.RegionLaw
import Derived.Lib.Overlaps
import Derived.Lib.AppendZerosOnto
import Derived.Laws.NewBlocks
namespace Go.Proofs.YtlahlgoknolniafDoor.View
open Go.ChangeShapes Go.WideShapes Go.ChangeAt Go.RowKit Go.Proofs.YtlahlgoknolniafDoor.Mem Go.Proofs.YtlahlgoknolniafDoor.VM
set_option linter.unusedVariables false

/-- copy, at elements of so many cells: what was read lies in the row -/
theorem copy_cells {P : Program} (w : World) (dT sT ty elem : TypeId) (g o dLen dCap : Nat) (a : Addr) (sLen sCap sz k : Nat) (cur : Array Value) (t : TypeId) (cs : List Value)
    (hu : P.underlying dT = some (.slice elem)) (hs : (P.info? elem).map (·.size) = some sz)
    (hg : w.heap[g]? = some (.cells cur t (0, 0))) (hk : Nat.min sLen dLen = k) (hn : cs.length = k * sz)
    (hsrc : ∀ j v, cs[j]? = some v → w.cell? (a.add j) = some v) (hfit : o + cs.length ≤ cur.size) (h1 : ∀ v ∈ cs, v.oneCell' = true) :
    (Builtin.copy_ #[dT, sT] ty #[.slice (some ⟨g, o, none⟩) dLen dCap, .slice (some a) sLen sCap]).run P w =
      .ok (goInt k) (w.setRow g (cur.toList.take o ++ cs ++ cur.toList.drop (o + cs.length)).toArray) := by
  have hl := run_loadCells_list (P := P) w a cs hsrc
  have hst := run_storeCells_at P g o t cs 0 cur w hg (by simpa using hfit) h1
  cases hq : P.info? elem with
  | none => simp [hq] at hs
  | some i =>
    have hi : i.size = sz := by simpa [hq] using hs
    simp [Builtin.copy_, run_underlying hu, Builtin.lenOf, Builtin.firstCells, sizeOf, typeInfo, hq, hi, hk, ← hn, hl, hst]
theorem mc_mid (L : List Mb) (i : Nat) (m : Mb) : mc (L.take i ++ m :: L.drop i) = mc (L.take i) ++ mc [m] ++ mc (L.drop i) := by
  rw [mc_app, show m :: L.drop i = [m] ++ L.drop i from rfl, mc_app, List.append_assoc]
/-- moved up by one place, and one laid into the gap -/
theorem shift_row {c : List Value} {n i : Nat} {L : List Mb} {m : Mb} (hl : L.length = n) (ht : c.take (n * 3) = mc L) (hs : (n + 1) * 3 ≤ c.length) (hi : i < n) :
    ∃ X1 X2 : List Value, c.take ((i + 1) * 3) ++ mc (L.drop i) ++ c.drop ((i + 1) * 3 + (mc (L.drop i)).length) = X1 ∧ X1.length = c.length ∧
      X1.take (i * 3) ++ mc [m] ++ X1.drop (i * 3 + (mc [m]).length) = X2 ∧ X2.length = c.length ∧ X2.take ((n + 1) * 3) = mc (L.take i ++ m :: L.drop i) := by
  refine ⟨_, _, rfl, ?_, rfl, ?_, ?_⟩
  · simp only [List.length_append, List.length_take, List.length_drop, mc_len]
    omega
  · simp only [List.length_append, List.length_take, List.length_drop, mc_len, List.length_singleton]
    omega
  · have hd : (mc (L.drop i)).length = (n - i) * 3 := by rw [mc_len, List.length_drop, hl]
    have h1 : (mc [m]).length = 3 := rfl
    have e1 : (c.take ((i + 1) * 3) ++ mc (L.drop i) ++ c.drop ((i + 1) * 3 + (mc (L.drop i)).length)).take (i * 3) = mc (L.take i) := by
      rw [List.append_assoc, List.take_append_of_le_length (by rw [List.length_take]; omega), List.take_take, Nat.min_eq_left (by omega), ← mc_take, ← ht, List.take_take, Nat.min_eq_left (by omega)]
    have e2 : (c.take ((i + 1) * 3) ++ mc (L.drop i) ++ c.drop ((i + 1) * 3 + (mc (L.drop i)).length)).drop (i * 3 + 3) = mc (L.drop i) ++ c.drop ((i + 1) * 3 + (mc (L.drop i)).length) := by
      rw [List.append_assoc, List.drop_left' (by rw [List.length_take]; omega)]
    rw [h1, e1, e2, mc_mid, ← List.append_assoc, List.take_left' (by simp only [List.length_append, List.length_take, hd, h1, mc_len]; omega)]
/-- laid behind what stood ahead of it, and the rest behind it -/
theorem grow_row {Z : List Value} {n i : Nat} {L : List Mb} {m : Mb} (hl : L.length = n) (hs : (n + 1) * 3 ≤ (mc (L.take i) ++ Z).length) (hi : i < n) :
    ∃ X1 X2 : List Value, (mc (L.take i) ++ Z).take (i * 3) ++ mc [m] ++ (mc (L.take i) ++ Z).drop (i * 3 + (mc [m]).length) = X1 ∧ X1.length = (mc (L.take i) ++ Z).length ∧
      X1.take ((i + 1) * 3) ++ mc (L.drop i) ++ X1.drop ((i + 1) * 3 + (mc (L.drop i)).length) = X2 ∧ X2.length = (mc (L.take i) ++ Z).length ∧ X2.take ((n + 1) * 3) = mc (L.take i ++ m :: L.drop i) := by
  have hd : (mc (L.drop i)).length = (n - i) * 3 := by rw [mc_len, List.length_drop, hl]
  have h1 : (mc [m]).length = 3 := rfl
  have h2 : (mc (L.take i)).length = i * 3 := by rw [mc_len, List.length_take]; congr 1; omega
  refine ⟨_, _, rfl, ?_, rfl, ?_, ?_⟩
  · simp only [List.length_append, List.length_take, List.length_drop, h1] at hs ⊢
    omega
  · simp only [List.length_append, List.length_take, List.length_drop, h1, hd] at hs ⊢
    omega
  · have e1 : ((mc (L.take i) ++ Z).take (i * 3) ++ mc [m] ++ (mc (L.take i) ++ Z).drop (i * 3 + (mc [m]).length)).take ((i + 1) * 3) = mc (L.take i) ++ mc [m] := by
      rw [List.take_left' (by simp only [List.length_append, List.length_take, h1, h2] at hs ⊢; omega), List.take_left' h2]
    rw [e1, mc_mid, List.take_left' (by simp only [List.length_append, h1, h2, hd]; omega)]
theorem sizeMB : (Tryd.prog.info? 48).map (·.size) = some 3 := by kernel_rfl
theorem MBox.news {w : World} {B : Nat} {m : Mb} (h : MBox w B m) : ∀ j u, (mc [m])[j]? = some u → w.cell? ((⟨B, 0, none⟩ : Addr).add j) = some u := fun j u hu => World.news_of_block h j u (by simpa [mc_one] using hu)

set_option maxHeartbeats 4000000 in
set_option maxRecDepth 100000 in
theorem ins_end (v : Value) (base n vb : Nat) (L : List Mb) (m : Mb) (w : World) (ho : w.ownsRow base 48 3 v n (mc L)) (hB : base ≤ w.heap.size) (hx : MBox w vb m) (hn : n ≤ 100) :
    Calls Tryd.prog 34 #[v, .int .i64 (n : Int), .slice (some ⟨vb, 0, none⟩) 1 1] w fun e w' => ∃ v', e = .returned v' ∧ w'.ownsRow base 48 3 v' (n + 1) (mc (L ++ [m])) ∧ w.grownBy w' v.ownBlock := by
  obtain ⟨i0, hii, hz0, hz1, hz2⟩ := info_parts infoMB
  have HO := hidden ho
  have HN := hidden hx.news
  have hm1 : (mc [m]).length = 1 * 3 := rfl
  clear hx
  rcases ho.2 with ⟨rfl, rfl⟩ | ⟨g, cap, cur, rfl, hg, hb, hc, hm, hs, ht⟩
  · clear ho
    go_enter Tryd.func34, Tryd.ntmps34
    go_wp2_with (at_builtin; refine wpList_append_own _ rfl _ _ 43 rfl base 48 i0 _ 3 24 Tryd.underlying43 hii hz0 hz1 hz2 rfl (by decide) _ 0 (mc L) rfl HO.out ⟨vb, 0, none⟩ 1 1 (mc [m]) rfl hm1 HN.out (mc_cell _) (by unfold maxLen; omega) (by omega) hB ?next)
    case next =>
    intro v1 w' hown hgrow _
    have HP : Hid (w'.ownsRow base 48 3 v1 (0 + 1) (mc (L ++ [m])) ∧ w.grownBy w' none) := by rw [mc_app]; exact ⟨hown, hgrow⟩
    clear hown hgrow
    go_wp2_with fail
    go_ret
    exact ⟨v1, rfl, HP.out.1, HP.out.2⟩
  · clear ho hs ht hb hm
    by_cases hcap : n = cap
    · subst hcap
      go_enter Tryd.func34, Tryd.ntmps34
      go_wp2_with (at_builtin; refine wpList_append_own _ rfl _ _ 43 rfl base 48 i0 _ 3 24 Tryd.underlying43 hii hz0 hz1 hz2 rfl (by decide) _ n (mc L) rfl HO.out ⟨vb, 0, none⟩ 1 1 (mc [m]) rfl hm1 HN.out (mc_cell _) (by unfold maxLen; omega) (by omega) hB ?next)
      case next =>
      intro v1 w' hown hgrow _
      have HP : Hid (w'.ownsRow base 48 3 v1 (n + 1) (mc (L ++ [m])) ∧ w.grownBy w' (some g)) := by rw [mc_app]; exact ⟨hown, hgrow⟩
      clear hown hgrow
      go_wp2_with fail
      go_ret
      exact ⟨v1, rfl, HP.out.1, HP.out.2⟩
    · go_enter Tryd.func34, Tryd.ntmps34
      go_wp2_with (at_builtin; refine wpList_append_own _ rfl _ _ 43 rfl base 48 i0 _ 3 24 Tryd.underlying43 hii hz0 hz1 hz2 rfl (by decide) _ n (mc L) rfl HO.out ⟨vb, 0, none⟩ 1 1 (mc [m]) rfl hm1 HN.out (mc_cell _) (by unfold maxLen; omega) (by omega) hB ?next)
      case next =>
      intro v1 w' hown hgrow _
      have HP : Hid (w'.ownsRow base 48 3 v1 (n + 1) (mc (L ++ [m])) ∧ w.grownBy w' (some g)) := by rw [mc_app]; exact ⟨hown, hgrow⟩
      clear hown hgrow
      go_wp2_with fail
      go_ret
      exact ⟨v1, rfl, HP.out.1, HP.out.2⟩

set_option maxHeartbeats 4000000 in
set_option maxRecDepth 100000 in
theorem ins_room (base n cap g vb i : Nat) (L : List Mb) (m : Mb) (w : World) (ho : w.ownsRow base 48 3 (.slice (some ⟨g, 0, none⟩) n cap) n (mc L)) (hx : MBox w vb m) (hne : vb ≠ g) (hi : i < n) (hn : n ≤ 100) (hc : n + 1 ≤ cap) :
    Calls Tryd.prog 34 #[.slice (some ⟨g, 0, none⟩) n cap, .int .i64 (i : Int), .slice (some ⟨vb, 0, none⟩) 1 1] w fun e w' => ∃ v', e = .returned v' ∧ w'.ownsRow base 48 3 v' (n + 1) (mc (L.take i ++ m :: L.drop i)) ∧ w.grownBy w' (some g) := by
  rcases ho.2 with ⟨h0, _⟩ | ⟨g', cap', cur, he, hg, hb, _, hm, hs, ht⟩
  · simp at h0
  simp only [Value.slice.injEq, Option.some.injEq, Addr.mk.injEq, and_true, true_and] at he
  obtain ⟨rfl, rfl⟩ := he
  have hl := own_len ho
  have hm' : cap ≤ 9223372036854775807 := by unfold maxLen at hm; omega
  have hci : ¬ (cap = i) := by omega
  have hci1 : ¬ (cap = i + 1) := by omega
  have hin : ¬ ((i : Int) = (n : Int)) := by omega
  have hsz : cur.toList.length = cap * 3 := by simpa using hs
  have hov : ∀ lb cb, (callFunc 41 #[.slice (some ⟨vb, 0, none⟩) 1 1, .slice (some ⟨g, (i + 1) * 3, none⟩) lb cb]).run Tryd.prog w = .ok (.value (.bool false)) w := fun lb cb => by
    rw [run_callFunc_extern Tryd.func41 (by kernel_rfl) (by kernel_rfl) (by kernel_rfl) (e := Extern.SlicesOverlaps.overlaps #[43, 43] #[4]) (by kernel_rfl),
      Lib.run_overlaps_apart w 43 4 48 Tryd.underlying43 3 Tryd.sizeOf48 ⟨vb, 0, none⟩ ⟨g, (i + 1) * 3, none⟩ 1 1 lb cb hne 48 48 3 cur.size (by unfold MBox at hx; simp [World.shape?, hx]) (by simp [World.shape?, hb]) (by omega) (hx.free _) (hx.free _)]
    rfl
  obtain ⟨X1, X2, hX1, lX1, hX2, lX2, tX2⟩ := shift_row (m := m) hl ht (by omega) hi
  have hd : (mc (L.drop i)).length = (n - i) * 3 := by rw [mc_len, List.length_drop, hl]
  have hsrc : ∀ j v, (mc (L.drop i))[j]? = some v → w.cell? ((⟨g, i * 3, none⟩ : Addr).add j) = some v := fun j v hj => by
    have hjl : j < (mc (L.drop i)).length := by
      rcases Nat.lt_or_ge j (mc (L.drop i)).length with h | h
      · exact h
      · rw [List.getElem?_eq_none h] at hj; simp at hj
    rw [add_plain, ho.cellAt (i * 3 + j) (by omega), ← hj, ← mc_drop, List.getElem?_drop]
  have hcp1 : ∀ ty dc sc, (Builtin.copy_ #[43, 43] ty #[.slice (some ⟨g, (i + 1) * 3, none⟩) (n - i) dc, .slice (some ⟨g, i * 3, none⟩) (n + 1 - i) sc]).run Tryd.prog w.drew = .ok (goInt ((n - i : Nat) : Int)) (w.drew.setRow g X1.toArray) := fun ty dc sc => by
    rw [← hX1]
    exact copy_cells w.drew _ _ ty 48 g ((i + 1) * 3) (n - i) dc ⟨g, i * 3, none⟩ (n + 1 - i) sc 3 (n - i) cur 48 (mc (L.drop i)) Tryd.underlying43 sizeMB hb (by simp only [Nat.min_def]; split <;> omega) hd hsrc (by omega) (mc_cell _)
  have hb1 : (w.drew.setRow g X1.toArray).heap[g]? = some (.cells X1.toArray 48 (0, 0)) := setRow_heap _ g cur _ 48 _ hb
  have hx1 : MBox (w.drew.setRow g X1.toArray) vb m := (setRow_other _ g vb _ hne).trans hx
  have hgw1 : w.grownBy (w.drew.setRow g X1.toArray) (some g) := ⟨rfl, rfl, rfl, by simp, fun k hk hne' => setRow_other _ g k _ (fun e => hne' (by rw [e]))⟩
  obtain ⟨W1, hW1⟩ : ∃ W1, w.drew.setRow g X1.toArray = W1 := ⟨_, rfl⟩
  rw [hW1] at hcp1 hb1 hx1 hgw1
  have hcp2 : ∀ ty dc, (Builtin.copy_ #[43, 43] ty #[.slice (some ⟨g, i * 3, none⟩) (n + 1 - i) dc, .slice (some ⟨vb, 0, none⟩) 1 1]).run Tryd.prog W1 = .ok (goInt ((1 : Nat) : Int)) (W1.setRow g X2.toArray) := fun ty dc => by
    rw [← hX2]
    exact copy_cells W1 _ _ ty 48 g (i * 3) (n + 1 - i) dc ⟨vb, 0, none⟩ 1 1 3 1 X1.toArray 48 (mc [m]) Tryd.underlying43 sizeMB hb1 (by simp only [Nat.min_def]; split <;> omega) rfl hx1.news (by simp only [List.size_toArray, lX1, hsz]; show i * 3 + 3 ≤ _; omega) (mc_cell _)
  have HW : Hid ((W1.setRow g X2.toArray).ownsRow base 48 3 (.slice (some ⟨g, 0, none⟩) (n + 1) cap) (n + 1) (mc (L.take i ++ m :: L.drop i)) ∧ w.grownBy (W1.setRow g X2.toArray) (some g)) := by
    refine ⟨⟨?_, .inr ⟨g, cap, X2.toArray, rfl, hg, setRow_heap _ g X1.toArray _ 48 _ hb1, hc, hm, by simp only [List.size_toArray, lX2, hsz], tX2⟩⟩, hgw1.trans ⟨rfl, rfl, rfl, by simp, fun k hk hne' => setRow_other _ g k _ (fun e => hne' (by rw [e]))⟩⟩
    rw [mc_len]
    simp only [List.length_append, List.length_cons, List.length_take, List.length_drop]
    omega
  clear ho hW1 hX1 hX2 lX1 lX2 tX2 hsrc hd hb1 hx1 hgw1 hb ht hs hsz hg hm hl
  go_enter Tryd.func34, Tryd.ntmps34
  go_wp2_with (simp only [hov])
  go_region
  go_wp2_with fail
  go_ret
  exact ⟨_, rfl, HW.out.1, HW.out.2⟩

set_option maxHeartbeats 4000000 in
set_option maxRecDepth 100000 in
theorem ins_grow (base n g vb i : Nat) (L : List Mb) (m : Mb) (w : World) (ho : w.ownsRow base 48 3 (.slice (some ⟨g, 0, none⟩) n n) n (mc L)) (hx : MBox w vb m) (hB : base ≤ w.heap.size) (hi : i < n) (hn : n ≤ 100) :
    Calls Tryd.prog 34 #[.slice (some ⟨g, 0, none⟩) n n, .int .i64 (i : Int), .slice (some ⟨vb, 0, none⟩) 1 1] w fun e w' => ∃ v', e = .returned v' ∧ w'.ownsRow base 48 3 v' (n + 1) (mc (L.take i ++ m :: L.drop i)) ∧ w.grownBy w' (some g) := by
  have hl := own_len ho
  have hgl : g < w.heap.size := (ho.lt g rfl).2
  have hni : ¬ (n = i) := by omega
  have hin : ¬ ((i : Int) = (n : Int)) := by omega
  obtain ⟨i0, hii, hz0, hz1, hz2⟩ := info_parts infoMB
  have hold : (Builtin.firstCells i0.size i (.slice (some ⟨g, 0, none⟩) i n)).run Tryd.prog w.drew = .ok (mc (L.take i)).toArray w.drew := by
    rw [hz1]
    refine run_firstCells_some w.drew 3 i ⟨g, 0, none⟩ i n (mc (L.take i)) (by rw [mc_len, List.length_take]; congr 1; omega) (fun j v hj => ?_)
    have hjl : j < (mc (L.take i)).length := by
      rcases Nat.lt_or_ge j (mc (L.take i)).length with h | h
      · exact h
      · rw [List.getElem?_eq_none h] at hj; simp at hj
    rw [mc_len, List.length_take] at hjl
    show w.cell? _ = _
    rw [add_plain, Nat.zero_add, ho.cellAt j (by omega), ← hj, ← mc_take, List.getElem?_take_of_lt (by omega)]
  have hrz := fun ty => Lib.run_append_grow_zeros (P := Tryd.prog) w 43 3 ty 48 i0 _ .i64 .i64 Tryd.underlying43 Tryd.underlying3 hii hz0 (some ⟨g, 0, none⟩) i n (mc (L.take i)) hold (n + 1 - i) (by omega) (by omega) (by omega) (by omega) (by rw [hz2]; omega) (by rw [hz2]; exact growslice_fits (by omega) (by omega))
  rw [show i + (n + 1 - i) = n + 1 by omega, show ((n + 1 - i : Nat) : Int) = (n : Int) + 1 - (i : Int) by omega] at hrz
  have hGn : n + 1 ≤ grownCap w (n + 1) n 48 := grownCap_ge w _ _ _
  have hGm : grownCap w (n + 1) n 48 ≤ maxLen := grownCap_le_maxLen w (n + 1) n 48 (by unfold maxLen; omega)
  generalize grownCap w (n + 1) n 48 = G at *
  have hG63 : G ≤ 9223372036854775807 := by unfold maxLen at hGm; omega
  have hGi : ¬ (G = i) := by omega
  have hGi1 : ¬ (G = i + 1) := by omega
  obtain ⟨Z, hZ⟩ : ∃ Z : List Value, (Builtin.zeroCells (Value.agg #[.int .i64 0, .int .i64 0, .bool false]).cells (n + 1 - i) ++ Builtin.zeroCells (Value.agg #[.int .i64 0, .int .i64 0, .bool false]).cells (G - (n + 1))).toList = Z := ⟨_, rfl⟩
  have hZl : Z.length = (G - i) * 3 := by
    rw [← hZ]
    simp only [Array.toList_append, List.length_append, Array.length_toList, size_zeroCells]
    show (n + 1 - i) * 3 + (G - (n + 1)) * 3 = _
    omega
  have hrow : (mc (L.take i)).toArray ++ Builtin.zeroCells (Value.agg #[.int .i64 0, .int .i64 0, .bool false]).cells (n + 1 - i) ++ Builtin.zeroCells (Value.agg #[.int .i64 0, .int .i64 0, .bool false]).cells (G - (n + 1)) = (mc (L.take i) ++ Z).toArray := by
    rw [← hZ]
    apply Array.toList_inj.1
    simp
  rw [hrow] at hrz
  clear hrow hZ hold
  have hlen : (mc (L.take i) ++ Z).length = G * 3 := by
    rw [List.length_append, mc_len, List.length_take, hZl]
    omega
  obtain ⟨X1, X2, hX1, lX1, hX2, lX2, tX2⟩ := grow_row (m := m) (Z := Z) hl (by omega) hi
  have hbn : (w.drew.alloc (.cells (mc (L.take i) ++ Z).toArray 48)).heap[w.heap.size]? = some (.cells (mc (L.take i) ++ Z).toArray 48 (0, 0)) := heap_alloc_new w.drew _
  have hg1 : w.grownBy (w.drew.alloc (.cells (mc (L.take i) ++ Z).toArray 48)) (some g) := ⟨rfl, rfl, rfl, by simp, fun k hk _ => Below.heap_alloc w.drew _ _ hk⟩
  have hx1 : MBox (w.drew.alloc (.cells (mc (L.take i) ++ Z).toArray 48)) vb m := MBox.alloc (w := w.drew) hx _
  have ho1 : (w.drew.alloc (.cells (mc (L.take i) ++ Z).toArray 48)).ownsRow base 48 3 (.slice (some ⟨g, 0, none⟩) n n) n (mc L) := (World.ownsRow.drew ho).alloc _
  have hxl := hx.lt
  generalize (mc (L.take i) ++ Z) = ROW at *
  obtain ⟨W1, hW1⟩ : ∃ W1, w.drew.alloc (.cells ROW.toArray 48) = W1 := ⟨_, rfl⟩
  rw [hW1] at hrz hbn hg1 hx1 ho1
  clear hW1
  have hcp1 : ∀ ty dc, (Builtin.copy_ #[43, 43] ty #[.slice (some ⟨w.heap.size, i * 3, none⟩) (n + 1 - i) dc, .slice (some ⟨vb, 0, none⟩) 1 1]).run Tryd.prog W1 = .ok (goInt ((1 : Nat) : Int)) (W1.setRow w.heap.size X1.toArray) := fun ty dc => by
    rw [← hX1]
    exact copy_cells W1 _ _ ty 48 w.heap.size (i * 3) (n + 1 - i) dc ⟨vb, 0, none⟩ 1 1 3 1 ROW.toArray 48 (mc [m]) Tryd.underlying43 sizeMB hbn (by simp only [Nat.min_def]; split <;> omega) rfl hx1.news (by simp only [List.size_toArray, hlen]; show i * 3 + 3 ≤ _; omega) (mc_cell _)
  have hb2 : (W1.setRow w.heap.size X1.toArray).heap[w.heap.size]? = some (.cells X1.toArray 48 (0, 0)) := setRow_heap _ _ ROW.toArray _ 48 _ hbn
  have hg2 : w.grownBy (W1.setRow w.heap.size X1.toArray) (some g) := hg1.andThen (row' := some w.heap.size) ⟨rfl, rfl, rfl, by simp, fun k hk hne' => setRow_other _ _ k _ (fun e => hne' (by rw [e]))⟩ (fun j hj => .inl (by simp at hj; omega))
  have ho2 : ∀ j, (W1.setRow w.heap.size X1.toArray).cell? ⟨g, j, none⟩ = W1.cell? ⟨g, j, none⟩ := fun j => cell_setRow_other _ _ _ _ (by show g ≠ _; omega)
  obtain ⟨W2, hW2⟩ : ∃ W2, W1.setRow w.heap.size X1.toArray = W2 := ⟨_, rfl⟩
  rw [hW2] at hcp1 hb2 hg2 ho2
  clear hW2
  have hd : (mc (L.drop i)).length = (n - i) * 3 := by rw [mc_len, List.length_drop, hl]
  have hsrc : ∀ j v, (mc (L.drop i))[j]? = some v → W2.cell? ((⟨g, i * 3, none⟩ : Addr).add j) = some v := fun j v hj => by
    have hjl : j < (mc (L.drop i)).length := by
      rcases Nat.lt_or_ge j (mc (L.drop i)).length with h | h
      · exact h
      · rw [List.getElem?_eq_none h] at hj; simp at hj
    rw [add_plain, ho2, ho1.cellAt (i * 3 + j) (by omega), ← hj, ← mc_drop, List.getElem?_drop]
  have hcp2 : ∀ ty dc sc, (Builtin.copy_ #[43, 43] ty #[.slice (some ⟨w.heap.size, (i + 1) * 3, none⟩) (n - i) dc, .slice (some ⟨g, i * 3, none⟩) (n - i) sc]).run Tryd.prog W2.drew = .ok (goInt ((n - i : Nat) : Int)) (W2.drew.setRow w.heap.size X2.toArray) := fun ty dc sc => by
    rw [← hX2]
    exact copy_cells W2.drew _ _ ty 48 w.heap.size ((i + 1) * 3) (n - i) dc ⟨g, i * 3, none⟩ (n - i) sc 3 (n - i) X1.toArray 48 (mc (L.drop i)) Tryd.underlying43 sizeMB hb2 (by simp only [Nat.min_def]; split <;> omega) hd hsrc (by simp only [List.size_toArray, lX1, hlen]; omega) (mc_cell _)
  have HW : Hid ((W2.drew.setRow w.heap.size X2.toArray).ownsRow base 48 3 (.slice (some ⟨w.heap.size, 0, none⟩) (n + 1) G) (n + 1) (mc (L.take i ++ m :: L.drop i)) ∧ w.grownBy (W2.drew.setRow w.heap.size X2.toArray) (some g)) := by
    refine ⟨⟨?_, .inr ⟨w.heap.size, G, X2.toArray, rfl, hB, setRow_heap _ _ X1.toArray _ 48 _ hb2, hGn, hGm, by simp only [List.size_toArray, lX2, hlen], tX2⟩⟩, hg2.andThen (row' := some w.heap.size) ⟨rfl, rfl, rfl, by simp, fun k hk hne' => setRow_other _ _ k _ (fun e => hne' (by rw [e]))⟩ (fun j hj => .inl (by simp at hj; omega))⟩
    rw [mc_len]
    simp only [List.length_append, List.length_cons, List.length_take, List.length_drop]
    omega
  obtain ⟨W3, hW3⟩ : ∃ W3, W2.drew.setRow w.heap.size X2.toArray = W3 := ⟨_, rfl⟩
  rw [hW3] at hcp2 HW
  clear hW3 ho hX1 hX2 lX1 lX2 tX2 hsrc hd hb2 hx1 hg1 hg2 ho1 ho2 hbn hZl hlen hGm hii hz0 hz1 hz2 hx hxl hgl hl
  generalize w.heap.size = H at *
  go_enter Tryd.func34, Tryd.ntmps34
  go_wp2_with (at_builtin; refine Lib.wpList_append_run _ rfl _ _ _ _ rfl _ _ rfl rfl _ _ (hrz _) ?_)
  go_region
  go_wp2_with fail
  go_ret
  exact ⟨_, rfl, HW.out.1, HW.out.2⟩

/-- Insert, at any place -/
theorem ins_calls (v : Value) (base n vb i : Nat) (L : List Mb) (m : Mb) (w : World) (ho : w.ownsRow base 48 3 v n (mc L)) (hB : base ≤ w.heap.size) (hx : MBox w vb m) (hne : v.ownBlock ≠ some vb) (hi : i ≤ n) (hn : n ≤ 100) :
    Calls Tryd.prog 34 #[v, .int .i64 (i : Int), .slice (some ⟨vb, 0, none⟩) 1 1] w fun e w' => ∃ v', e = .returned v' ∧ w'.ownsRow base 48 3 v' (n + 1) (mc (L.take i ++ m :: L.drop i)) ∧ w.grownBy w' v.ownBlock := by
  have hl := own_len ho
  rcases Nat.lt_or_ge i n with h | h
  · rcases ho.2 with ⟨rfl, rfl⟩ | ⟨g, cap, cur, rfl, hg, hb, hc, hm, hs, ht⟩
    · omega
    · have hvb : vb ≠ g := fun e => hne (by rw [e]; rfl)
      rcases Nat.lt_or_ge n cap with h' | h'
      · exact ins_room base n cap g vb i L m w ho hx hvb h hn h'
      · obtain rfl : n = cap := by omega
        exact ins_grow base n g vb i L m w ho hx hB h hn
  · obtain rfl : i = n := by omega
    rw [← hl, List.take_length, List.drop_length, hl]
    exact ins_end v base i vb L m w ho hB hx hn
end Go.Proofs.YtlahlgoknolniafDoor.View
