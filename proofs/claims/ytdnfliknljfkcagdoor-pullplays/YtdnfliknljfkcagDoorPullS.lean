/-
  What the function Error of package choirsame returns of an error that is told; where rows lie that are none of pull's; what changes of one track alone. Their condition: what is kept is such as it may be.
-/
import Derived.Test.YtdnfliknljfkcagDoorPullC
import Derived.Test.YtdnfliknljfkcagDoorPullD
import Derived.Test.YtdnfliknljfkcagDoorPullE
import Derived.Test.YtdnfliknljfkcagDoorTold
namespace Go.Proofs.YtdnfliknljfkcagDoor.Pull
open Go.ChangeShapes Go.WideShapes Go.ChangeAt Go.RowKit Go.Maps Go.Proofs.YtdnfliknljfkcagDoor.Mem Go.Proofs.YtdnfliknljfkcagDoor.PU
set_option linter.unusedVariables false

/-- an error of a number is the one told -/
theorem told_f (f : Nat) (W : World) (hf : f ≤ 100) (hg : W.cell? ⟨0, 0, none⟩ = some (.iface 108 (.agg #[.pointer (some ⟨1, 25, none⟩)]))) :
    Calls Tryd.prog 12 #[errv f, .int .i64 (f : Int)] W fun e w' => e = .returned (.bool true) ∧ Below W.heap.size W w' := by
  by_cases h0 : f = 0
  · subst h0
    refine (Told.same_nil 0 W).mono ?_
    rintro e w' ⟨rfl, rfl⟩
    exact ⟨rfl, Below.refl _ _⟩
  · rw [errv_pos h0]
    refine (Told.same_err f f W (by omega) (by omega) hg).mono ?_
    rintro e w' ⟨rfl, hb⟩
    exact ⟨by simp, hb⟩
/-- where a row of anything else lies is none of pull's -/
theorem row_apart {w : World} {b base n size : Nat} {el : TypeId} {mb : Nat → Nat} {th nw : Int} {td ak : Nat → Int} {L : Wts} {v : Value} {xs : List Value} (h : PullAt w b mb th nw td ak L) (hr : w.ownsRow base el size v n xs) (he : el ≠ 61) : ∀ k, v.ownBlock = some k → k ∉ pblks b mb := by
  intro k hk hc
  rcases hr.2 with ⟨rfl, _⟩ | ⟨g, cap, cur, rfl, _, hb, _⟩
  · simp [Value.ownBlock] at hk
  · simp [Value.ownBlock] at hk
    subst hk
    rcases mem_pblks.1 hc with rfl | ⟨i, hi, rfl⟩
    · obtain ⟨cs, h1, _⟩ := h.box
      rw [h1] at hb
      simp at hb
      exact he hb.2.symm
    · obtain ⟨D, h1, _⟩ := h.map i hi
      obtain ⟨es, c, h2⟩ := map_block h1
      rw [h2] at hb
      simp at hb
/-- what is wanted behind a call of Want, as a list -/
def wantL (K : Wts) (a t c : Int) : Wts := if wf a t c = 0 then put K ⟨a, t, c⟩ else K
theorem wanted_wantL (K : Wts) (a t c : Int) : Wanted K a t c (wantL K a t c) := by
  unfold Wanted wantL
  refine ⟨fun h => ?_, fun h => ?_⟩
  · rw [if_pos h]; exact puts_put _ _
  · rw [if_neg h]; exact fun y => Iff.rfl
theorem wanted_again {K : Wts} {a t c : Int} : Wanted (wantL K a t c) a t c (wantL K a t c) := by
  unfold Wanted wantL
  refine ⟨fun h => ?_, fun h => fun y => Iff.rfl⟩
  rw [if_pos h]
  intro y
  rw [mem_put]
  constructor
  · rintro (q | q)
    · exact .inl ⟨.inl q, q.2⟩
    · exact .inr q
  · rintro (⟨q, _⟩ | q)
    · exact q
    · exact .inr q
theorem inv_wantL {K : Wts} (h : PU.Inv K) (a t c : Int) : PU.Inv (wantL K a t c) := by
  unfold wantL
  by_cases q : wf a t c = 0
  · rw [if_pos q]; exact inv_put h (wf_zero.1 q)
  · rw [if_neg q]; exact h
theorem wantL_len (K : Wts) (a t c : Int) : (wantL K a t c).length ≤ K.length + 1 := by
  unfold wantL
  split
  · exact put_len _ _
  · omega
/-- all want one track: which tracks have changed -/
theorem one_of {j : Nat} (hj : j < 8) : (List.range 8).filter (fun i => decide (i = j)) = [j] := by
  have : ∀ j : Fin 8, (List.range 8).filter (fun i => decide (i = j.val)) = [j.val] := by decide
  exact this ⟨j, hj⟩
theorem need_other {K : Wts} {t s : Int} (h : ∀ x ∈ K, x.b = t) (hs : s ≠ t) : need K s = -1 := by
  rcases (need_spec K s).2.2 with q | ⟨x, hx, e, _⟩
  · exact q
  · exact absurd (e.symm.trans (h x hx)) hs
theorem need_some {K : Wts} {t : Int} (hI : PU.Inv K) (h : ∀ x ∈ K, x.b = t) (hK : K ≠ []) : 0 ≤ need K t := by
  obtain ⟨x, hx⟩ := List.exists_mem_of_ne_nil K hK
  have h1 := (need_spec K t).2.1 x hx (h x hx)
  have h2 := hI.mem x hx
  unfold Ok at h2
  omega
theorem chg_one {K : Wts} {i : Nat} (hI : PU.Inv K) (hi : i < 8) (h : ∀ x ∈ K, x.b = (i : Int) + 1) : (chg K (fun _ => -1) 8).length = if K = [] then 0 else 1 := by
  unfold chg
  rw [List.length_map]
  by_cases hK : K = []
  · rw [if_pos hK, hK]
    rfl
  · rw [if_neg hK]
    have : (List.range 8).filter (fun (j : Nat) => !decide (need K ((j : Int) + 1) = -1)) = (List.range 8).filter (fun j => decide (j = i)) := by
      refine List.filter_congr fun j _ => ?_
      by_cases e : j = i
      · subst e
        have := need_some hI h hK
        rw [decide_eq_true rfl, decide_eq_false (by omega)]; rfl
      · rw [need_other h (by omega), decide_eq_true rfl, decide_eq_false e]; rfl
    rw [this, one_of hi]
    rfl
theorem chg_gone (K : Wts) (k : Nat) : (chg [] (fun i => need K ((i : Int) + 1)) k).length = (chg K (fun _ => -1) k).length := by
  unfold chg
  rw [List.length_map, List.length_map]
  congr 2
  funext j
  rw [need_nil]
  congr 1
  rw [decide_eq_decide]
  exact eq_comm
theorem of_all {K : Wts} {t : Int} (h : ∀ x ∈ K, x.b = t) : of K t = K := by
  unfold of
  rw [List.filter_eq_self]
  intro x hx
  exact decide_eq_true (h x hx)
/-- those that some have dropped -/
def rms (K : Wts) (t : Int) (ws : List Int) : Wts := ws.foldl (fun R a => del R a t) K
theorem rms_snoc (K : Wts) (t a : Int) (ws : List Int) : rms K t (ws ++ [a]) = del (rms K t ws) a t := by simp [rms]
theorem mem_rms {K : Wts} {t : Int} {ws : List Int} {y : Wt} : y ∈ rms K t ws ↔ y ∈ K ∧ ¬ (y.b = t ∧ y.a ∈ ws) := by
  induction ws generalizing K with
  | nil => simp [rms]
  | cons a ws ih =>
    show y ∈ rms (del K a t) t ws ↔ _
    rw [ih, mem_del, List.mem_cons]
    constructor
    · rintro ⟨⟨h1, h2⟩, h3⟩
      refine ⟨h1, ?_⟩
      rintro ⟨h4, h5 | h5⟩
      · exact h2 ⟨h5, h4⟩
      · exact h3 ⟨h4, h5⟩
    · rintro ⟨h1, h2⟩
      exact ⟨⟨h1, fun e => h2 ⟨e.2, .inl e.1⟩⟩, fun e => h2 ⟨e.1, .inr e.2⟩⟩
theorem inv_rms {K : Wts} (h : PU.Inv K) (t : Int) (ws : List Int) : PU.Inv (rms K t ws) := by
  induction ws generalizing K with
  | nil => exact h
  | cons a ws ih => exact ih (inv_del h a t)
theorem rms_len (K : Wts) (t : Int) (ws : List Int) : (rms K t ws).length ≤ K.length := by
  induction ws generalizing K with
  | nil => exact Nat.le_refl _
  | cons a ws ih => exact Nat.le_trans (ih (K := del K a t)) (del_len K a t)
theorem rms_all {K : Wts} {t : Int} (h : ∀ x ∈ K, x.b = t) : rms K t (whoS K t) = [] := by
  rw [List.eq_nil_iff_forall_not_mem]
  intro y hy
  obtain ⟨h1, h2⟩ := mem_rms.1 hy
  exact h2 ⟨h y h1, mem_whoS.2 ⟨y, h1, h y h1, rfl⟩⟩
theorem whoS_nodup {K : Wts} (h : PU.Inv K) (t : Int) : (whoS K t).Nodup := by
  unfold whoS
  rw [(List.mergeSort_perm _ _).nodup_iff]
  exact whos_nodup h.uq t
/-- who is next has not dropped it yet -/
theorem next_has {K : Wts} {t a : Int} {i : Nat} (hI : PU.Inv K) (ha : (whoS K t)[i]? = some a) : has (rms K t ((whoS K t).take i)) a t = true := by
  obtain ⟨x, hx, hb, e⟩ := mem_whoS.1 (List.mem_of_getElem? ha)
  refine has_iff.2 ⟨x, mem_rms.2 ⟨hx, ?_⟩, e, hb⟩
  rintro ⟨_, h2⟩
  rw [e] at h2
  obtain ⟨j, hj, hj2⟩ := List.getElem_of_mem h2
  rw [List.length_take] at hj
  have hn := List.nodup_iff_pairwise_ne.1 (whoS_nodup hI t)
  obtain ⟨hi, hi2⟩ := List.getElem?_eq_some_iff.1 ha
  have := List.pairwise_iff_getElem.1 hn j i (by omega) hi (by omega)
  rw [List.getElem_take] at hj2
  exact this (hj2.trans hi2.symm)
theorem gone_has (R : Wts) (a t : Int) : has (del R a t) a t = false := by
  cases h : has (del R a t) a t with
  | false => rfl
  | true =>
    obtain ⟨y, hy, e⟩ := has_iff.1 h
    exact absurd e (mem_del.1 hy).2
theorem who_in_range {K : Wts} {t a : Int} {i : Nat} (hI : PU.Inv K) (ha : (whoS K t)[i]? = some a) : 0 ≤ a ∧ a ≤ 200 ∧ 1 ≤ t ∧ t ≤ 8 := by
  obtain ⟨x, hx, hb, e⟩ := mem_whoS.1 (List.mem_of_getElem? ha)
  have := hI.mem x hx
  unfold Ok at this
  omega
theorem next_df {K : Wts} {t a : Int} {i : Nat} (hI : PU.Inv K) (ha : (whoS K t)[i]? = some a) : df (rms K t ((whoS K t).take i)) a t = 0 := by
  unfold df
  rw [if_pos (who_in_range hI ha), if_pos (next_has hI ha)]
theorem gone_df {K : Wts} {t a : Int} {i : Nat} (hI : PU.Inv K) (ha : (whoS K t)[i]? = some a) (R : Wts) : df (del R a t) a t = 5 := by
  unfold df
  rw [if_pos (who_in_range hI ha), if_neg (by rw [gone_has]; simp)]
theorem take_num {ws : List Int} {i : Nat} {a : Int} (h : ws[i]? = some a) : ws.take (i + 1) = ws.take i ++ [a] := by rw [List.take_add_one, h]; rfl
end Go.Proofs.YtdnfliknljfkcagDoor.Pull
