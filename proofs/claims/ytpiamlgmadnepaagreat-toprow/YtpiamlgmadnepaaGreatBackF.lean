/-
  What the function Numbers of package back returns of any pairs, and what it makes. It changes nothing that was there.
-/
import Derived.Test.YtpiamlgmadnepaaGreatBackE
namespace Go.Proofs.YtpiamlgmadnepaaGreat.Back
open Go.ChangeShapes Go.WideShapes Go.ChangeAt Go.RowKit Go.Sort Go.Lib Go.Proofs.YtpiamlgmadnepaaGreat.BM Go.Proofs.YtpiamlgmadnepaaGreat.Mem
set_option linter.unusedVariables false

/-- the fault of pairs -/
def nfault (l : List (Int × Int)) : Nat := if 200 < l.length then 4 else if l.any (fun p => !isP p) then 1 else 0
def np (p : Int × Int) : Int × Nat := (p.1, p.2.toNat)
def numsOf (l : List (Int × Int)) : List Int := if nfault l = 0 then norm (told (l.map np)) else []
theorem nfault_zero {l : List (Int × Int)} (h : nfault l = 0) : l.length ≤ 200 ∧ l.any (fun p => !isP p) = false := by
  unfold nfault at h
  by_cases q : 200 < l.length
  · rw [if_pos q] at h; omega
  · rw [if_neg q] at h
    by_cases q2 : l.any (fun p => !isP p) = true
    · rw [if_pos q2] at h; omega
    · exact ⟨by omega, by simpa using q2⟩
theorem isP_of {l : List (Int × Int)} (h : l.any (fun p => !isP p) = false) : ∀ p ∈ l, 0 ≤ p.1 ∧ p.1 ≤ 65535 ∧ 0 ≤ p.2 ∧ p.2 ≤ 65535 := by
  intro p hp
  have := List.any_eq_false.1 h p hp
  simp only [isP, inR, Bool.not_eq_true', Bool.not_eq_false, Bool.and_eq_true, decide_eq_true_eq] at this
  omega

set_option maxHeartbeats 1000000 in
set_option maxRecDepth 100000 in
theorem numbers_bad (a : Option Addr) (n cap : Nat) (l : List (Int × Int)) (w : World) (h : PArg w a n l) (hf : nfault l ≠ 0) :
    Calls Tryz.prog 200 #[.slice a n cap] w fun e w' => e = .returned (.tuple #[.slice none 0 0, errv (nfault l)]) ∧ Below w.heap.size w w' := by
  have hl := h.2.1
  have hb := h.2.2
  by_cases p : 200 < n
  · have e : nfault l = 4 := by unfold nfault; rw [if_pos (by omega)]
    rw [e]
    clear h hf e
    have d : decide (200 < (n : Int)) = true := by simp; omega
    go_enter Tryz.func200, Tryz.ntmps200
    go_wp2_with fail
    go_ret2
    exact ⟨rfl, Below.refl _ _⟩
  · have C := contP_calls a n cap l w h
    have d : decide (200 < (n : Int)) = false := by simp; omega
    have e : l.any (fun p => !isP p) = true ∧ nfault l = 1 := by
      unfold nfault at hf ⊢
      rw [if_neg (by omega)] at hf ⊢
      by_cases q : l.any (fun p => !isP p) = true
      · exact ⟨q, if_pos q⟩
      · rw [if_neg q] at hf; exact absurd rfl hf
    rw [e.1] at C
    rw [e.2]
    have HC := hidden C
    clear C h hf e
    go_enter Tryz.func200, Tryz.ntmps200
    go_wp2_with fail
    refine HC.out.mono ?_
    rintro e w' ⟨rfl, hb'⟩
    go_wp2_with fail
    go_ret2
    exact ⟨rfl, hb'⟩

/-- where Numbers stands: so many pairs are read -/
structure NSt (w wr : World) (K : List Int) (v : Value) : Prop where
  below : Below w.heap.size w wr
  own : wr.ownsRow w.heap.size 3 1 v K.length (ic K)

set_option maxHeartbeats 2000000 in
set_option maxRecDepth 100000 in
theorem numbers_good (a : Option Addr) (n cap : Nat) (l : List (Int × Int)) (w : World) (h : PArg w a n l) (hf : nfault l = 0) :
    Calls Tryz.prog 200 #[.slice a n cap] w fun e w' => ∃ v', e = .returned (.tuple #[v', .nilIface]) ∧ w'.ownsRow w.heap.size 3 1 v' (norm (told (l.map np))).length (ic (norm (told (l.map np)))) ∧ Below w.heap.size w w' := by
  have hl := h.2.1
  have hb := h.2.2
  obtain ⟨p, hany⟩ := nfault_zero hf
  have hrng := isP_of hany
  have C := contP_calls a n cap l w h
  rw [hany] at C
  have HC := hidden C
  have HH := hidden h
  have HRNG := hidden hrng
  have d : decide (200 < (n : Int)) = false := by simp; omega
  have hT : ∀ j, (told ((l.take j).map np)).length ≤ 3400 := fun j => by
    have := (told_len ((l.take j).map np)).2
    simp only [List.length_map, List.length_take] at this
    omega
  have HT := hidden hT
  have HE : Hid (norm (told (l.map np)) = compact ((told ((l.take n).map np)).mergeSort fun x y => decide (x ≤ y))) := by
    rw [List.take_of_length_le (by omega)]; exact rfl
  generalize norm (told (l.map np)) = R at *
  clear C h hf hany hrng hT
  go_enter Tryz.func200, Tryz.ntmps200
  go_wp2_with fail
  refine HC.out.mono ?_
  rintro e w1 ⟨rfl, hb1⟩
  have HB1 := hidden hb1
  have HP := hidden (HH.out.below hb1)
  clear hb1 HH HC
  have HN0 : Hid (NSt w1 w1 (told ((l.take 0).map np)) (.slice none 0 0)) := ⟨Below.refl _ _, World.ownsRow_nil _ _ _ _⟩
  go_wp2_with fail
  go_loopg [4, 16] n (fun g x y wr => ∃ (j : Nat) (v : Value), j + g = n ∧ x = v ∧ y = .int .i64 (j : Int) ∧ Hid (NSt w1 wr (told ((l.take j).map np)) v))
  case atStart => exact ⟨0, _, by omega, rfl, rfl, HN0⟩
  case round =>
    obtain ⟨j, v, hjg, rfl, rfl, HS⟩ := hrel
    by_cases hj : j < n
    · have hjz : (j : Int) < (n : Int) := by omega
      obtain ⟨b, o, rfl, hbl, hcs⟩ := HP.out.at (by omega)
      obtain ⟨c0, c1⟩ := hcs j hj
      have hc0 := (HS.out.below.cell (p := ⟨b, o + j * 2, none⟩) hbl).trans c0
      have hc1 := (HS.out.below.cell (p := ⟨b, o + j * 2 + 1, none⟩) hbl).trans c1
      clear c0 c1 hcs
      obtain ⟨⟨bs, mi⟩, hp⟩ : ∃ p, l.getD j (0, 0) = p := ⟨_, rfl⟩
      rw [hp] at hc0 hc1
      have hmem : (bs, mi) ∈ l := by rw [← hp, List.getD_eq_getElem?_getD, List.getElem?_eq_getElem (by omega)]; exact List.getElem_mem _
      obtain ⟨hb0, hb1, hm0, hm1⟩ := HRNG.out _ hmem
      obtain ⟨mk, hmk⟩ : ∃ m : Nat, mi = (m : Int) := ⟨mi.toNat, by simp only at hm0; omega⟩
      have hm' : mk < 65536 := by simp only at hm1; omega
      subst hmk
      simp only at hc0 hc1 hb0 hb1
      have HNX : Hid (told ((l.take (j + 1)).map np) = told ((l.take j).map np) ++ tells (bs, mk)) := by
        have e : l.take (j + 1) = l.take j ++ [(bs, (mk : Int))] := by
          rw [← hp, List.getD_eq_getElem?_getD, List.getElem?_eq_getElem (by omega), Option.getD_some, List.take_append_getElem (by omega)]
        show _ = _
        rw [e, List.map_append, told_app]
        simp [told_one, np]
      have hk := HT.out j
      clear hp hmem hm0 hm1
      generalize told ((l.take j).map np) = T at *
      have HAP : Hid (∀ W v, W.ownsRow w1.heap.size 3 1 v T.length (ic T) → w1.heap.size ≤ W.heap.size → Calls Tryz.prog 211 #[v, .agg #[.int .i64 bs, .int .i64 (mk : Int)]] W _) := fun W v hW hs => app_calls v _ T.length T bs mk W hW hs (by omega) hb0 hb1 hm'
      go_wp2_with fail
      refine (HAP.out _ _ (HS.out.own.alloc _) (by have := HS.out.below.size; simp; omega)).mono ?_
      rintro e w2 ⟨v2, rfl, ho2, hb2⟩
      have HS2 : Hid (NSt w1 w2 (T ++ tells (bs, mk)) v2) := ⟨(HS.out.below.alloc HS.out.below.size _).trans hb2, by rw [List.length_append]; exact ho2⟩
      clear ho2 hb2
      go_wp2_with fail
      go_roundg (n - (j + 1))
      case measure => omega
      case rel => exact ⟨j + 1, v2, by omega, rfl, by go_num, by rw [HNX.out]; exact HS2⟩
    · have hjz : ¬ (j : Int) < (n : Int) := by omega
      have ej : j = n := by omega
      subst ej
      have hk := HT.out j
      go_wp2_with fail
      refine (sort_calls _ _ _ _ _ HS.out.own (by omega)).mono ?_
      rintro e w3 ⟨rfl, ho3, hg3⟩
      have HO3 := hidden ho3
      have HB3 := hidden (HS.out.below.grown hg3 HS.out.below.size (fun j hj => (HS.out.own.lt j hj).1))
      clear ho3 hg3
      go_wp2_with fail
      refine (compact_calls _ _ _ _ w3 HO3.out (by omega)).mono ?_
      rintro e w4 ⟨v4, rfl, hbl, ho4, hg4⟩
      have HO4 := hidden ho4
      have HB4 := hidden (HB3.out.grown hg4 HB3.out.size (fun j hj => (HO3.out.lt j hj).1))
      clear ho4 hg4 hbl
      go_wp2_with fail
      go_ret2
      refine ⟨v4, rfl, ?_, HB1.out.trans (HB4.out.mono HB1.out.size)⟩
      have ho := HO4.out
      rw [← HE.out] at ho
      refine ⟨ho.1, ?_⟩
      rcases ho.2 with h0 | ⟨g, cap, cur, e, hg, rest⟩
      · exact .inl h0
      · exact .inr ⟨g, cap, cur, e, by have := HB1.out.size; omega, rest⟩

/-- Numbers, of whatever pairs -/
theorem numbers_gen (a : Option Addr) (n cap : Nat) (l : List (Int × Int)) (w : World) (h : PArg w a n l) :
    Calls Tryz.prog 200 #[.slice a n cap] w fun e w' => ∃ a' m c', e = .returned (.tuple #[.slice a' m c', errv (nfault l)]) ∧ IArg w' a' m (numsOf l) ∧ (a' = none → m = 0 ∧ c' = 0) ∧ m ≤ c' ∧ Below w.heap.size w w' := by
  by_cases hf : nfault l = 0
  · refine (numbers_good a n cap l w h hf).mono ?_
    rintro e w' ⟨v', rfl, ho, hb⟩
    have hlen : (norm (told (l.map np))).length ≤ 9223372036854775807 := by
      have h1 := (told_len (l.map np)).2
      have h2 := norm_len (told (l.map np))
      have h3 := (nfault_zero hf).1
      rw [List.length_map] at h1
      omega
    obtain ⟨a', c', rfl, hP, h0, h1, _⟩ := own_ints ho hlen
    refine ⟨a', _, c', by rw [hf]; rfl, ?_, h0, h1, hb⟩
    rw [numsOf, if_pos hf]
    exact hP
  · refine (numbers_bad a n cap l w h hf).mono ?_
    rintro e w' ⟨rfl, hb⟩
    refine ⟨none, 0, 0, rfl, ?_, fun _ => ⟨rfl, rfl⟩, Nat.le_refl _, hb⟩
    rw [numsOf, if_neg hf]
    exact IArg.nil _ _
/-- what pairs of numbers tell -/
theorem pfault_zero {L : List Int} (h : pfault L = 0) : L.length ≤ 200 ∧ ∀ x ∈ L, 0 ≤ x ∧ x ≤ 65535 := by
  unfold pfault at h
  by_cases q : 200 < L.length
  · rw [if_pos q] at h; omega
  · rw [if_neg q] at h
    by_cases q2 : L.any (fun x => !inR x) = true
    · rw [if_pos q2] at h; omega
    · exact ⟨by omega, in_range (by simpa using q2)⟩
theorem np_pr (l : List (Int × Nat)) : (pr l).map np = l := by
  simp only [pr, List.map_map]
  conv => rhs; rw [← List.map_id l]
  apply List.map_congr_left
  intro p _
  simp [np]
theorem fit_isP {l : List (Int × Nat)} {S : List Int} (h : Fit l S) (hS : ∀ x ∈ S, 0 ≤ x ∧ x ≤ 65535) : (pr l).any (fun p => !isP p) = false := by
  rw [List.any_eq_false]
  intro q hq
  simp only [pr, List.mem_map] at hq
  obtain ⟨p, hp, rfl⟩ := hq
  have hm := h.mask p hp
  have hb := hS p.1 (h.base p hp)
  have hbits := (bitLen_bits hm p.1 hb.2).2 (fun i hi => by
    have : p.1 + (i : Int) + 1 ∈ S := by
      rw [← h.told]
      exact List.mem_flatMap.2 ⟨p, hp, (mem_tells hm).2 (.inr ⟨i, hi, rfl⟩)⟩
    exact (hS _ this).2)
  simp only [isP, inR, Bool.not_eq_true', Bool.not_eq_false, Bool.and_eq_true, decide_eq_true_eq, Int.toNat_natCast]
  omega
theorem back_again {L : List Int} (h : pfault L = 0) : nfault (pr (prsOf L)) = 0 ∧ numsOf (pr (prsOf L)) = norm L ∧ (prsOf L).length ≤ (norm L).length ∧ (norm L).length ≤ 17 * (prsOf L).length ∧ (prsOf L).length ≤ L.length ∧ Fit (prsOf L) (norm L) := by
  obtain ⟨h1, h2⟩ := pfault_zero h
  have hfit := fit_pairs _ (norm_of L).1
  have hS : ∀ x ∈ norm L, 0 ≤ x ∧ x ≤ 65535 := fun x hx => h2 x (((norm_of L).2 x).1 hx)
  have e : prsOf L = pairs (norm L) := by rw [prsOf, if_pos h]
  have hl := told_len (pairs (norm L))
  rw [hfit.told] at hl
  have hn := norm_len L
  have hz : nfault (pr (prsOf L)) = 0 := by
    unfold nfault
    rw [e, if_neg (by rw [pr_len]; omega), fit_isP hfit hS]
    rfl
  refine ⟨hz, ?_, by rw [e]; exact hl.1, by rw [e]; exact hl.2, by rw [e]; omega, by rw [e]; exact hfit⟩
  rw [numsOf, if_pos hz, np_pr, e, hfit.told, norm_self (norm_of L).1]
end Go.Proofs.YtpiamlgmadnepaaGreat.Back

