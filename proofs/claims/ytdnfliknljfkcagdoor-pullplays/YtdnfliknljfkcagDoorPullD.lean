/-
  What Drop and Who of package pull return, and what they leave in memory. Their condition: what is kept is such as it may be.
-/
import Derived.Test.YtdnfliknljfkcagDoorPullB
import Derived.Test.YtdnfliknljfkcagDoorShelf
import Derived.Sort.OwnSortedInts
import Derived.Shelf.AbstractIn
namespace Go.Proofs.YtdnfliknljfkcagDoor.Pull
open Go.ChangeShapes Go.WideShapes Go.ChangeAt Go.RowKit Go.Maps Go.Sort Go.Shelf Go.Proofs.YtdnfliknljfkcagDoor.Mem Go.Proofs.YtdnfliknljfkcagDoor.PU
set_option linter.unusedVariables false

theorem zero3 (w : World) : (zeroValue 3).run Tryd.prog w = .ok (.int .i64 0) w := by kernel_rfl
/-- K has what L has but for what a wants of t -/
def Dels (L : Wts) (a t : Int) (K : Wts) : Prop := ∀ y, y ∈ K ↔ y ∈ L ∧ ¬ (y.a = a ∧ y.b = t)
theorem dels_del (L : Wts) (a t : Int) : Dels L a t (del L a t) := fun y => mem_del
theorem drop_err (p : Value) (a t : Int) (w : World) (h : ¬ (0 ≤ a ∧ a ≤ 200 ∧ 1 ≤ t ∧ t ≤ 8)) :
    Calls Tryd.prog 9 #[p, .int .i64 a, .int .i64 t] w fun e w' => e = .returned (errv 1) ∧ w' = w := by
  have C1 := isWho_calls a w
  have C2 := isTrack_calls t w
  by_cases h1 : 0 ≤ a ∧ a ≤ 200
  case neg =>
    have d : (decide (0 ≤ a) && decide (a ≤ 200)) = false := by
      by_cases q : 0 ≤ a
      · rw [decide_eq_false (show ¬ a ≤ 200 by omega), Bool.and_false]
      · rw [decide_eq_false q, Bool.false_and]
    rw [d] at C1
    have HC1 := hidden C1
    clear C1 C2 d h1 h
    go_enter Tryd.func9, Tryd.ntmps9
    go_wp2_with fail
    refine HC1.out.mono ?_
    rintro e w1 ⟨rfl, rfl⟩
    go_wp2_with fail
    go_ret
    exact ⟨rfl, rfl⟩
  rw [decide_eq_true h1.1, decide_eq_true h1.2] at C1
  have d : (decide (1 ≤ t) && decide (t ≤ 8)) = false := by
    by_cases q : 1 ≤ t
    · rw [decide_eq_false (show ¬ t ≤ 8 by omega), Bool.and_false]
    · rw [decide_eq_false q, Bool.false_and]
  rw [d] at C2
  have HC1 := hidden C1
  have HC2 := hidden C2
  clear C1 C2 d h1 h
  go_enter Tryd.func9, Tryd.ntmps9
  go_wp2_with fail
  refine HC1.out.mono ?_
  rintro e w1 ⟨rfl, rfl⟩
  go_wp2_with fail
  refine HC2.out.mono ?_
  rintro e w1 ⟨rfl, rfl⟩
  go_wp2_with fail
  go_ret
  exact ⟨rfl, rfl⟩
set_option maxHeartbeats 1000000 in
theorem drop_in (b i : Nat) (mb : Nat → Nat) (th nw a : Int) (td ak : Nat → Int) (L K : Wts) (w : World) (h : PullAt w b mb th nw td ak L) (hI : PU.Inv L) (h0 : 0 ≤ a) (h1 : a ≤ 200) (hi : i < 8) (hK : has L a ((i : Int) + 1) = true → Dels L a ((i : Int) + 1) K) (hN : has L a ((i : Int) + 1) = false → ∀ y, y ∈ L ↔ y ∈ K) :
    Calls Tryd.prog 9 #[.pointer (some ⟨b, 0, none⟩), .int .i64 a, .int .i64 ((i : Int) + 1)] w fun e w' => e = .returned (errv (if has L a ((i : Int) + 1) = true then 0 else 5)) ∧ PullAt w' b mb th nw td ak K ∧ Only (pblks b mb) w w' := by
  have C1 := isWho_calls a w
  have C2 := isTrack_calls ((i : Int) + 1) w
  rw [decide_eq_true h0, decide_eq_true h1] at C1
  rw [decide_eq_true (show 1 ≤ (i : Int) + 1 by omega), decide_eq_true (show (i : Int) + 1 ≤ 8 by omega)] at C2
  have HC1 := hidden C1
  have HC2 := hidden C2
  have HC3 := hidden (of_calls b i w hi)
  have HP := hidden h
  have ct := (h.track hi).1
  obtain ⟨D, hown, hKM⟩ := h.map i hi
  have hwf := wf_of (y := a) (by omega) (by omega)
  obtain ⟨v', ps, hrun, hr⟩ := hown.look_ok law3 Tryd.underlying56 (zero3 _) (inR_mk 0) (keyOf3 hwf)
  obtain ⟨⟨x, rfl⟩, _⟩ := inR_inv hr
  rw [hKM.at] at hrun
  have HO := hidden hown
  have HKM := hidden hKM
  clear C1 C2 h hown hKM hr hI
  cases hh : has L a ((i : Int) + 1) with
  | false =>
    rw [hh] at hrun
    have HM := hidden (hN hh)
    rw [if_neg (by simp)]
    clear hK hN hh
    go_enter Tryd.func9, Tryd.ntmps9
    go_wp2_with fail
    refine HC1.out.mono ?_
    rintro e w1 ⟨rfl, rfl⟩
    go_wp2_with fail
    refine HC2.out.mono ?_
    rintro e w1 ⟨rfl, rfl⟩
    go_wp2_with fail
    refine HC3.out.mono ?_
    rintro e w1 ⟨rfl, rfl⟩
    go_wp2_with fail
    go_ret
    exact ⟨rfl, HP.out.mem HM.out, Only.refl _ _⟩
  | true =>
    rw [hh] at hrun
    have HM := hidden (hK hh)
    rw [if_pos rfl]
    clear hK hN hh
    go_enter Tryd.func9, Tryd.ntmps9
    go_wp2_with fail
    refine HC1.out.mono ?_
    rintro e w1 ⟨rfl, rfl⟩
    go_wp2_with fail
    refine HC2.out.mono ?_
    rintro e w1 ⟨rfl, rfl⟩
    go_wp2_with fail
    refine HC3.out.mono ?_
    rintro e w1 ⟨rfl, rfl⟩
    go_wp2_with (at_delete; refine wpList_delete_own _ rfl _ _ 56 3 rfl 3 law3 Tryd.underlying56 _ (mb i) _ D rfl HO.out _ _ rfl (keyOf3 hwf) ?_; intro w4 hown4 hturn4)
    go_wp2_with fail
    go_ret
    have ho : Only [mb i] w1 w4 := (Only.refl _ _).grown hturn4.grown (by simp)
    refine ⟨rfl, HP.out.turned hi ho ⟨_, _, hown4, ?_⟩ ?_, ho.mono (by intro j hj; simp at hj; exact mem_pblks.2 (.inr ⟨i, hi, hj⟩))⟩
    · refine HKM.out.del fun y hy => ?_
      rw [HM.out y]
      constructor
      · rintro ⟨g1, g2⟩; exact ⟨g1, fun e => g2 ⟨e, hy⟩⟩
      · rintro ⟨g1, g2⟩; exact ⟨g1, fun e => g2 e.1⟩
    · intro y hy
      rw [HM.out y]
      constructor
      · intro g1; exact ⟨g1, fun e => hy e.2⟩
      · rintro ⟨g1, _⟩; exact g1
/-- what is wanted behind a call of Drop -/
def Dropped (L : Wts) (a t : Int) (K : Wts) : Prop := (df L a t = 0 → Dels L a t K) ∧ (df L a t ≠ 0 → ∀ y, y ∈ L ↔ y ∈ K)
theorem drop_calls (b : Nat) (mb : Nat → Nat) (th nw a t : Int) (td ak : Nat → Int) (L K : Wts) (w : World) (h : PullAt w b mb th nw td ak L) (hI : PU.Inv L) (hP : Dropped L a t K) :
    Calls Tryd.prog 9 #[.pointer (some ⟨b, 0, none⟩), .int .i64 a, .int .i64 t] w fun e w' => e = .returned (errv (df L a t)) ∧ PullAt w' b mb th nw td ak K ∧ Only (pblks b mb) w w' := by
  by_cases h0 : 0 ≤ a ∧ a ≤ 200 ∧ 1 ≤ t ∧ t ≤ 8
  · obtain ⟨i, rfl⟩ : ∃ i : Nat, t = (i : Int) + 1 := ⟨(t - 1).toNat, by omega⟩
    have e : df L a ((i : Int) + 1) = if has L a ((i : Int) + 1) = true then 0 else 5 := by unfold df; rw [if_pos h0]
    rw [e]
    refine drop_in b i mb th nw a td ak L K w h hI (by omega) (by omega) (by omega) (fun q => hP.1 (by rw [e, if_pos q])) (fun q => hP.2 (by rw [e, if_neg (by simp [q])]; omega))
  · have e : df L a t = 1 := by unfold df; rw [if_neg h0]
    rw [e]
    refine (drop_err _ a t w h0).mono ?_
    rintro e' w' ⟨rfl, rfl⟩
    exact ⟨rfl, h.mem (hP.2 (by omega)), Only.refl _ _⟩

/-- slices.Sort's two contracts, at the fence that asks nothing -/
theorem sortsA (m : Nat) : AnyZI.SortsIn Tryd.prog Tryd.sortedA_ren Fence.wide m :=
  ⟨fun blk off cap ss W hH hblk hsz => callsIn_wide.2 (AnyM.slices_Sort_int Tryd.sortA blk off cap ss W hH hblk hsz),
   fun p cap W => callsIn_wide.2 (AnyM.slices_Sort_int_none Tryd.sortA p cap W)⟩
theorem sorted_whos {L : Wts} {t : Int} {ss : List Int} (hp : ss.Perm (whos L t)) : ss.mergeSort (fun x y => decide (x ≤ y)) = whoS L t := mergeSort_of_perm_i hp
theorem who_out (p : Value) (t : Int) (w : World) (h : t < 1 ∨ 8 < t) :
    Calls Tryd.prog 7 #[p, .int .i64 t] w fun e w' => e = .returned (.slice none 0 0) ∧ w' = w := by
  have C1 := isTrack_calls t w
  have d : (decide (1 ≤ t) && decide (t ≤ 8)) = false := by
    by_cases q : 1 ≤ t
    · rw [decide_eq_false (show ¬ t ≤ 8 by omega), Bool.and_false]
    · rw [decide_eq_false q, Bool.false_and]
  rw [d] at C1
  have HC1 := hidden C1
  clear C1 d h
  go_enter Tryd.func7, Tryd.ntmps7
  go_wp2_with fail
  refine HC1.out.mono ?_
  rintro e w1 ⟨rfl, rfl⟩
  go_wp2_with fail
  go_ret
  exact ⟨rfl, rfl⟩
set_option maxHeartbeats 1000000 in
theorem who_in (b i : Nat) (mb : Nat → Nat) (th nw : Int) (td ak : Nat → Int) (L : Wts) (w : World) (h : PullAt w b mb th nw td ak L) (hI : PU.Inv L) (hl : L.length ≤ 1000) (hi : i < 8) :
    Calls Tryd.prog 7 #[.pointer (some ⟨b, 0, none⟩), .int .i64 ((i : Int) + 1)] w fun e w' => ∃ v, e = .returned v ∧ w'.ownsRow w.heap.size 3 1 v (of L ((i : Int) + 1)).length (ic (whoS L ((i : Int) + 1))) ∧ Below w.heap.size w w' := by
  have C1 := isTrack_calls ((i : Int) + 1) w
  rw [decide_eq_true (show 1 ≤ (i : Int) + 1 by omega), decide_eq_true (show (i : Int) + 1 ≤ 8 by omega)] at C1
  have C2 := of_calls b i w hi
  have ct := (h.track hi).1
  obtain ⟨D, hown, hK, hS⟩ := h.size hI hi
  have hln := of_len L ((i : Int) + 1)
  have hperm := hK.perm hown law3 Tryd.underlying3 hI.uq
  clear hK
  refine (callsIn_wide (n := 6)).1 ?_
  have hbl := hown.lt
  have hseq : SeqGives Fence.wide 2 Tryd.prog 35 #[.pointer (some ⟨w.heap.size, 0, none⟩)] encZ (fun ss => ss.Perm (intKeys D)) (Maps.size D) (w.alloc (.cells #[.map (some (mb i))] 56)) :=
    AnyZI.keys_gives (ρ := Tryd.keysA_ren) { Tryd.keysA with } Fence.wide _ trivial rfl (by omega) w.heap.size (mb i) (Maps.size D) D _ (by simp) (by simp) (by
      obtain ⟨es, clock, hb, Ft, hs, hD⟩ := hown
      exact ⟨es, clock, (Below.heap_alloc _ _ (mb i) hbl).trans hb, Ft, hs, hD⟩)
  have cK : ∀ mb W, CallsIn Fence.wide 5 Tryd.prog 25 #[.map mb] W fun e w' => e = .returned (.func (.func 35) #[] #[.pointer (some ⟨W.heap.size, 0, none⟩)]) ∧ w' = W.alloc (.cells #[.map mb] 56) := fun mb W => AnyZI.keys_in Tryd.keysA Fence.wide 5 trivial rfl mb W
  have cS := AnyZI.sorted_in Tryd.sortedA Fence.wide 5 trivial trivial trivial trivial rfl (by omega) (sortsA _) (enters_of Tryd.func34 (by kernel_rfl) rfl) 35 #[.pointer (some ⟨w.heap.size, 0, none⟩)] trivial (enters_of Tryd.func35 (by kernel_rfl) rfl) _ _ (by unfold maxLen; omega) (by omega) _ hseq
  change CallsIn _ _ Tryd.prog 24 _ _ _ at cS
  have cT : CallsIn Fence.wide 5 Tryd.prog 22 #[.int .i64 ((i : Int) + 1)] w _ := callsIn_wide.2 C1
  have cO : CallsIn Fence.wide 5 Tryd.prog 23 #[.pointer (some ⟨b, 0, none⟩), .int .i64 ((i : Int) + 1)] w _ := callsIn_wide.2 C2
  have hfK : Fence.wide.fn 25 := trivial
  have hfS : Fence.wide.fn 24 := trivial
  have hfT : Fence.wide.fn 22 := trivial
  have hfO : Fence.wide.fn 23 := trivial
  clear hseq hown h C1 C2 hI
  refine callsIn_of_wp Tryd.func7 rfl trivial ?_ rfl
  simp only [Tryd.ntmps7, List.size_toArray, List.length_cons, List.length_nil, Nat.reduceAdd, Nat.reduceSub, Array.replicate_succ, Array.replicate_zero, List.push_toArray, List.append_toArray, List.nil_append, List.cons_append]
  gi_wp2_with (first
    | (gi_at_call 22; refine cT.mono ?_; rintro e w' ⟨rfl, rfl⟩)
    | (gi_at_call 23; refine cO.mono ?_; rintro e w' ⟨rfl, rfl⟩)
    | (gi_at_call 25; refine (cK _ _).mono ?_; rintro e w' ⟨rfl, rfl⟩)
    | (gi_at_call 24; refine cS.mono ?_; rintro e w' ⟨v, ss, rfl, hS2, hrow, hnil, hb⟩))
  go_ret
  have hss : ss.Perm (whos L ((i : Int) + 1)) := hS2.trans hperm.symm
  have hlen : ss.length = (of L ((i : Int) + 1)).length := by rw [hss.length_eq, whos_len]
  rw [sorted_whos hss, hlen] at hrow
  exact ⟨v, rfl, own_base hrow (by simp), (below_alloc (Below.refl _ _) _).trans (hb.mono (by simp))⟩
theorem who_calls (b : Nat) (mb : Nat → Nat) (th nw t : Int) (td ak : Nat → Int) (L : Wts) (w : World) (h : PullAt w b mb th nw td ak L) (hI : PU.Inv L) (hl : L.length ≤ 1000) :
    Calls Tryd.prog 7 #[.pointer (some ⟨b, 0, none⟩), .int .i64 t] w fun e w' => ∃ v, e = .returned v ∧ w'.ownsRow w.heap.size 3 1 v (of L t).length (ic (whoS L t)) ∧ Below w.heap.size w w' := by
  by_cases ht : t < 1 ∨ 8 < t
  · refine (who_out _ t w ht).mono ?_
    rintro e w' ⟨rfl, rfl⟩
    have e : of L t = [] := of_out hI ht
    have e2 : whoS L t = [] := List.eq_nil_of_length_eq_zero (by rw [whoS_len, e]; rfl)
    rw [e, e2]
    exact ⟨_, rfl, World.ownsRow_nil _ _ _ _, Below.refl _ _⟩
  · obtain ⟨i, rfl⟩ : ∃ i : Nat, t = (i : Int) + 1 := ⟨(t - 1).toNat, by omega⟩
    exact who_in b i mb th nw td ak L w h hI hl (by omega)
end Go.Proofs.YtdnfliknljfkcagDoor.Pull
