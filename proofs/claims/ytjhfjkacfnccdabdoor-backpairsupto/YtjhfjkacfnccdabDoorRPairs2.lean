/-
  The walk of the reference's function Pairs: what it returns of any numbers, and what it makes. It changes nothing that was there.
-/
import Derived.Test.YtjhfjkacfnccdabDoorRPairs
namespace Go.Proofs.YtjhfjkacfnccdabDoor.Back
open Go.ChangeShapes Go.WideShapes Go.ChangeAt Go.RowKit Go.Sort Go.Lib Go.Proofs.YtjhfjkacfnccdabDoor.BM Go.Proofs.YtjhfjkacfnccdabDoor.Mem
set_option linter.unusedVariables false

theorem PBox.set1 {w : World} {B : Nat} {b m m' : Int} (h : PBox w B b m) : PBox (w.setCell ⟨B, 1, none⟩ (.int .i64 m')) B b m' := heap_setCell_same _ _ 1 _ _ (.int .i64 m') h
theorem PBox.free {w : World} {B : Nat} {b m : Int} (h : PBox w B b m) (j : Nat) : w.frozen? ⟨B, j, none⟩ = false := by
  unfold PBox at h
  simp [World.frozen?, h]
/-- where the reference's Pairs stands, second loop -/
structure RSt (w wr : World) (S : List Int) (l : List (Int × Nat)) (v : Value) (j : Nat) : Prop where
  below : Below w.heap.size w wr
  has : HasB wr w.heap.size S
  own : wr.ownsRow w.heap.size 89 2 v l.length (pc (pr l))
  is : l = pairs (low S j)
  shut : Shut l j

set_option maxHeartbeats 8000000 in
set_option maxRecDepth 100000 in
theorem rpairs_good (a : Option Addr) (n cap : Nat) (L : List Int) (w : World) (h : IArg w a n L) (hn : n ≤ 200) :
    Calls Tryd.prog 23 #[.slice a n cap] w fun e w' => ∃ a' m c', e = .returned (.tuple #[.slice a' m c', .int .i64 (pfault L : Int)]) ∧ PArg w' a' m (pr (prsOf L)) ∧ (a' = none → m = 0 ∧ c' = 0) ∧ Below w.heap.size w w' := by
  obtain ⟨i0, hii, hz0, hz1, hz2⟩ := info_parts infoPR
  have hl := h.2.1
  have HA := hidden h
  have d : decide (200 < (n : Int)) = false := by simp; omega
  have HBAD : Hid ((∃ x, x ∈ L ∧ inR x = false) → pfault L = 1 ∧ prsOf L = []) := fun ⟨x, hx, hb⟩ => by
    have e : pfault L = 1 := by
      unfold pfault
      rw [if_neg (by omega), if_pos]
      rw [List.any_eq_true]
      exact ⟨x, hx, by rw [hb]; rfl⟩
    exact ⟨e, by rw [prsOf, if_neg (by rw [e]; decide)]⟩
  have HGOOD : Hid ((∀ x ∈ L, inR x = true) → pfault L = 0 ∧ prsOf L = pairs (norm L)) := fun hg => by
    have e : pfault L = 0 := by
      unfold pfault
      rw [if_neg (by omega), if_neg]
      rw [Bool.not_eq_true, List.any_eq_false]
      intro x hx
      rw [hg x hx]
      decide
    exact ⟨e, by rw [prsOf, if_pos e]⟩
  obtain ⟨hris, hmem⟩ := norm_of L
  have HRIS := hidden hris
  have HMEM := hidden hmem
  have HNLEN := hidden (norm_len L)
  clear h hris hmem
  generalize norm L = S at *
  generalize pfault L = F at *
  generalize prsOf L = PL at *
  have HH0 := hidden (HasB.new w)
  have HB0 : Hid (Below w.heap.size w (w.alloc (.cells Tryd.zeroCells87 87))) := (Below.refl _ _).alloc (Nat.le_refl _) _
  go_enter Tryd.func23, Tryd.ntmps23
  go_wp2_with fail
  go_loopg [5] n (fun g y wr => ∃ (i : Nat), i + g = n ∧ y = .int .i64 (i : Int) ∧ Hid (Below w.heap.size w wr ∧ HasB wr w.heap.size (L.take i) ∧ ∀ x ∈ L.take i, inR x = true))
  case atStart => exact ⟨0, by omega, rfl, HB0.out, HH0.out, fun x hx => by simp at hx⟩
  case round =>
    obtain ⟨i, hig, rfl, HS⟩ := hrel
    by_cases hi : i < n
    · have hiz : (i : Int) < (n : Int) := by omega
      obtain ⟨b, o, rfl, hcs⟩ := (HA.out.below HS.out.1).at (by omega)
      have hc := hcs i hi
      obtain ⟨x, hx⟩ : ∃ x, L.getD i 0 = x := ⟨_, rfl⟩
      rw [hx] at hc
      have HTK : Hid (L.take (i + 1) = L.take i ++ [x]) := by
        show _ = _
        rw [← hx, List.getD_eq_getElem?_getD, List.getElem?_eq_getElem (by omega), Option.getD_some, List.take_append_getElem (by omega)]
      have HXM : Hid (x ∈ L) := by rw [← hx]; exact getD_mem (by omega)
      have HSQ := hidden (fun W => rseq_calls x W)
      clear hcs hx
      obtain ⟨q, hq⟩ : ∃ q, inR x = q := ⟨_, rfl⟩
      rw [hq] at HSQ
      have HQ := hidden hq
      cases q with
      | false =>
        obtain ⟨e1, e2⟩ := HBAD.out ⟨x, HXM.out, HQ.out⟩
        subst e1 e2
        clear hq
        go_wp2_with fail
        refine (HSQ.out _).mono ?_
        rintro e w1 ⟨rfl, rfl⟩
        go_wp2_with fail
        go_ret2
        exact ⟨none, 0, 0, rfl, PArg.nil _ _, fun _ => ⟨rfl, rfl⟩, HS.out.1⟩
      | true =>
        have hxr : 0 ≤ x ∧ x ≤ 65535 := by simpa [inR] using hq
        obtain ⟨y, rfl⟩ : ∃ y : Nat, x = y := ⟨x.toNat, by omega⟩
        have hy0 : (0 : Int) ≤ (y : Int) := by omega
        have hy1 : (y : Int) < 65536 := by omega
        have hcy := HS.out.2.1.cell (j := y) (by omega)
        have hfy := HS.out.2.1.free y
        have HSn : Hid (Below w.heap.size w (wr.setCell ⟨w.heap.size, y, none⟩ (.bool true)) ∧ HasB (wr.setCell ⟨w.heap.size, y, none⟩ (.bool true)) w.heap.size (L.take (i + 1)) ∧ ∀ x ∈ L.take (i + 1), inR x = true) := by
          refine ⟨HS.out.1.setCell (Nat.le_refl _) _, by rw [HTK.out]; exact HS.out.2.1.set (by omega), fun x hx => ?_⟩
          rw [HTK.out] at hx
          rcases List.mem_append.1 hx with hx | hx
          · exact HS.out.2.2 x hx
          · obtain rfl := List.mem_singleton.1 hx; exact HQ.out
        obtain ⟨hh, hhe⟩ : ∃ z, decide ((y : Int) ∈ L.take i) = z := ⟨_, rfl⟩
        rw [hhe] at hcy
        clear hhe hq
        go_wp2_with fail
        refine (HSQ.out _).mono ?_
        rintro e w1 ⟨rfl, rfl⟩
        go_wp2_with fail
        go_roundg (n - (i + 1))
        case measure => omega
        case rel => exact ⟨i + 1, by omega, by go_num, HSn⟩
    · have hiz : ¬ (i : Int) < (n : Int) := by omega
      have hall : ∀ x ∈ L, inR x = true := by
        have := HS.out.2.2
        rw [List.take_of_length_le (by omega)] at this
        exact this
      obtain ⟨e1, e2⟩ := HGOOD.out hall
      have HL := HS.out.2.1
      rw [List.take_of_length_le (by omega)] at HL
      have HSR : Hid (∀ x ∈ S, 0 ≤ x ∧ x ≤ 65535) := fun x hx => by
        have := hall x ((HMEM.out x).1 hx)
        simpa [inR] using this
      have HR0 : Hid (RSt w wr S [] (.slice none 0 0) 0) := by
        refine ⟨HS.out.1, HL.same (fun x => (HMEM.out x).symm), World.ownsRow_nil _ _ _ _, ?_, fun K p e => by simp at e⟩
        have := low_zero (S := S) (fun x hx => (HSR.out x hx).1)
        rw [show ((0 : Nat) : Int) = 0 from rfl, this]
        rfl
      subst e1 e2
      clear hall HL HBAD HGOOD
      go_wp2_with fail
      go_loopg [7, 8] 65536 (fun g x y wz => ∃ (j : Nat) (v : Value) (l : List (Int × Nat)), 65536 - j ≤ g ∧ j ≤ 65552 ∧ x = v ∧ y = .int .i64 (j : Int) ∧ Hid (RSt w wz S l v j))
      case atStart => exact ⟨0, _, [], by omega, by omega, rfl, rfl, HR0⟩
      case round =>
        obtain ⟨j, v, l, hjg, hjm, rfl, rfl, HR⟩ := hrel
        by_cases hj : j < 65536
        · have hjz : (j : Int) < 65536 := by omega
          have hj0 : (0 : Int) ≤ (j : Int) := by omega
          have hcj := HR.out.has.cell hj
          obtain ⟨q, hq⟩ : ∃ q, decide ((j : Int) ∈ S) = q := ⟨_, rfl⟩
          rw [hq] at hcj
          have HQ := hidden hq
          clear hq
          cases q with
          | false =>
            have HRn : Hid (RSt w wr S l _ (j + 1)) := ⟨HR.out.below, HR.out.has, HR.out.own, by
              have := HR.out.is
              rw [show ((j + 1 : Nat) : Int) = (j : Int) + 1 by omega, low_no (of_decide_eq_false HQ.out)]
              exact this, by
              have := shut_next HR.out.shut
              rw [show ((j + 1 : Nat) : Int) = (j : Int) + 1 by omega]
              exact this⟩
            go_wp2_with fail
            go_roundg (65536 - (j + 1))
            case measure => omega
            case rel => exact ⟨j + 1, _, l, by omega, by omega, rfl, by go_num, HRn⟩
          | true =>
            have hjs : (j : Int) ∈ S := of_decide_eq_true HQ.out
            have HPL : Hid (pairs (low S (j + 17)) = l ++ [((j : Int), mr (fun i => decide ((j : Int) + 1 + (i : Int) ∈ S)) 16)] ∧ Shut (pairs (low S (j + 17))) (j + 17)) := by
              have h1 := HR.out.is
              have h2 := pairs_low HRIS.out hjs (by rw [← h1]; exact HR.out.shut)
              rw [← h1] at h2
              exact h2
            have HPR : Hid (∀ q : Nat, ¬ ((j : Int) + ((q : Int) + 1) < 65536) → (decide ((j : Int) + 1 + (q : Int) ∈ S)) = false) := fun q hq => by
              rw [decide_eq_false_iff_not]
              intro hm
              have := HSR.out _ hm
              omega
            have hll : l.length ≤ 200 := by
              have h1 := (told_len l).1
              have hf := fit_pairs (low S j) (List.Pairwise.filter _ HRIS.out)
              rw [← HR.out.is] at hf
              rw [hf.told] at h1
              have h2 := List.length_filter_le (fun x => decide (x < (j : Int))) S
              have h3 := HNLEN.out
              unfold low at h1
              omega
            obtain ⟨P, hP⟩ : ∃ P : Nat → Bool, P = fun (i : Nat) => decide ((j : Int) + 1 + (i : Int) ∈ S) := ⟨_, rfl⟩
            rw [← hP] at HPL
            have HPE : Hid (∀ q, P q = decide ((j : Int) + 1 + (q : Int) ∈ S)) := fun q => by rw [hP]
            clear hP hjs
            obtain ⟨wo, rfl⟩ : ∃ x, x = wr := ⟨_, rfl⟩
            have HX0 := hidden (PBox.new wo j 0)
            have HB1 : Hid (Below wo.heap.size wo (wo.alloc (.cells #[.int .i64 (j : Int), .int .i64 0] 89))) := (Below.refl _ _).alloc (Nat.le_refl _) _
            have hgo := HR.out.has.lt
            go_wp2_with fail
            go_loopg [10, 11] 16 (fun g x y wz => ∃ (q : Nat), q + g = 16 ∧ x = .int .i64 ((2 ^ q : Nat) : Int) ∧ y = .int .i64 ((q : Int) + 1) ∧ Hid (Below wo.heap.size wo wz ∧ PBox wz wo.heap.size j (mr P q)))
            case atStart => exact ⟨0, by omega, rfl, rfl, HB1.out, HX0.out⟩
            case round =>
              obtain ⟨q, hqg, rfl, rfl, HW⟩ := hrel
              have HXw := hidden HW.out.2
              obtain ⟨cb, cm⟩ := HXw.out.cells
              have fm := HXw.out.free 1
              by_cases hq : q < 16
              · have hqz : (q : Int) + 1 ≤ 16 := by omega
                obtain ⟨by', hby⟩ : ∃ x, 2 ^ q = x := ⟨_, rfl⟩
                have hbl : by' ≤ 32768 := by rw [← hby]; exact Nat.pow_le_pow_right (n := 2) (j := 15) (by decide) (by omega)
                have HBY : Hid (2 ^ (q + 1) = by' * 2) := hidden (by rw [← hby, Nat.pow_succ])
                obtain ⟨mq, hmq⟩ : ∃ x, mr P q = x := ⟨_, rfl⟩
                have hml : mq < 65536 := by
                  rw [← hmq]
                  exact Nat.lt_of_lt_of_le (mr_lt P q) (Nat.pow_le_pow_right (n := 2) (j := 16) (by decide) (by omega))
                have HMY : Hid (P q = true → mr P (q + 1) = mq + by') := fun hp => by rw [mr, if_pos hp, hmq, hby]
                have HMN : Hid (P q = false → mr P (q + 1) = mq) := fun hp => by rw [mr, if_neg (by rw [hp]; decide), hmq]
                rw [hmq] at cm
                rw [hby]
                have HMQ := hidden hmq
                clear hmq hby
                by_cases hg : (j : Int) + ((q : Int) + 1) < 65536
                · have hcq := (HR.out.has.below HW.out.1 hgo).cell (j := j + (q + 1)) (by omega)
                  have eP : decide (((j + (q + 1) : Nat) : Int) ∈ S) = P q := by
                    rw [HPE.out q]
                    congr 2
                    omega
                  rw [eP] at hcq
                  obtain ⟨pq, hpq⟩ : ∃ x, P q = x := ⟨_, rfl⟩
                  rw [hpq] at hcq
                  have HPQ := hidden hpq
                  clear hpq eP
                  have hg0 : (0 : Int) ≤ (j : Int) + ((q : Int) + 1) := by omega
                  cases pq with
                  | true =>
                    have HWn : Hid (Below wo.heap.size wo (wr.setCell ⟨wo.heap.size, 1, none⟩ (.int .i64 ((mq : Int) + (by' : Int)))) ∧ PBox (wr.setCell ⟨wo.heap.size, 1, none⟩ (.int .i64 ((mq : Int) + (by' : Int)))) wo.heap.size j (mr P (q + 1))) := by
                      refine ⟨HW.out.1.setCell (Nat.le_refl _) _, ?_⟩
                      rw [HMY.out HPQ.out, show ((mq + by' : Nat) : Int) = (mq : Int) + (by' : Int) by omega]
                      exact HXw.out.set1
                    go_wp2_with fail
                    go_roundg (16 - (q + 1))
                    case measure => omega
                    case rel => exact ⟨q + 1, by omega, by rw [HBY.out]; go_num, by go_num, HWn⟩
                  | false =>
                    have HWn : Hid (Below wo.heap.size wo wr ∧ PBox wr wo.heap.size j (mr P (q + 1))) := ⟨HW.out.1, by rw [HMN.out HPQ.out, ← HMQ.out]; exact HXw.out⟩
                    go_wp2_with fail
                    go_roundg (16 - (q + 1))
                    case measure => omega
                    case rel => exact ⟨q + 1, by omega, by rw [HBY.out]; go_num, by go_num, HWn⟩
                · have hpq : P q = false := by rw [HPE.out q]; exact HPR.out q (by omega)
                  have HWn : Hid (Below wo.heap.size wo wr ∧ PBox wr wo.heap.size j (mr P (q + 1))) := ⟨HW.out.1, by rw [HMN.out hpq, ← HMQ.out]; exact HXw.out⟩
                  clear hpq
                  go_wp2_with fail
                  go_roundg (16 - (q + 1))
                  case measure => omega
                  case rel => exact ⟨q + 1, by omega, by rw [HBY.out]; go_num, by go_num, HWn⟩
              · have hqz : ¬ ((q : Int) + 1 ≤ 16) := by omega
                have eq16 : q = 16 := by omega
                subst eq16
                have HOW := hidden (own_below HR.out.own HW.out.1)
                have HHW := hidden (HR.out.has.below HW.out.1 hgo)
                have HBW := hidden (HR.out.below.trans (HW.out.1.mono HR.out.below.size))
                obtain ⟨mm, hmm⟩ : ∃ x, mr P 16 = x := ⟨_, rfl⟩
                rw [hmm] at cm
                have HMM := hidden hmm
                clear hmm
                go_wp2_with (at_builtin; refine wpList_append_own _ rfl _ _ 54 rfl w.heap.size 89 i0 _ 2 16 Tryd.underlying54 hii hz0 hz1 hz2 rfl (by decide) _ l.length (pc (pr l)) rfl (HOW.out.alloc _) ⟨wr.heap.size, 0, none⟩ 1 1 [.int .i64 (j : Int), .int .i64 (mm : Int)] rfl rfl ?cc ?one ?b1 ?b2 ?b3 ?next)
                case one => simp [Value.oneCell']
                case b1 => unfold maxLen; omega
                case b2 => omega
                case b3 => have := HBW.out.size; simp; omega
                case next =>
                intro v3 w' hown hgrow _
                have HRn : Hid (RSt w w' S (l ++ [((j : Int), mr P 16)]) v3 (j + 17)) := by
                  refine ⟨(HBW.out.alloc HBW.out.size _).grown hgrow (by have := HBW.out.size; simp; omega) (fun x hx => (HOW.out.lt x hx).1), (HHW.out.alloc _).grown (HOW.out.alloc _) hgrow, ?_, ?_, ?_⟩
                  · rw [List.length_append, pr_app, pc_app, HMM.out]
                    exact hown
                  · rw [← HPL.out.1]; rfl
                  · rw [← HPL.out.1]; exact HPL.out.2
                clear hown hgrow
                go_wp2_with fail
                go_roundg (65536 - (j + 17))
                case measure => omega
                case rel => exact ⟨j + 17, _, _, by omega, by omega, rfl, by go_num, HRn⟩
        · have hjz : ¬ (j : Int) < 65536 := by omega
          have hll : l.length ≤ 9223372036854775807 := by
            have h1 := (told_len l).1
            have hf := fit_pairs (low S j) (List.Pairwise.filter _ HRIS.out)
            rw [← HR.out.is] at hf
            rw [hf.told] at h1
            have h2 := List.length_filter_le (fun x => decide (x < (j : Int))) S
            have h3 := HNLEN.out
            unfold low at h1
            omega
          obtain ⟨a', c', rfl, hP, hn0, _⟩ := own_prs HR.out.own hll
          have HN0 := hidden hn0
          have HPP := hidden hP
          clear hn0 hP
          have his := HR.out.is
          rw [low_all (fun x hx => by have := HSR.out x hx; omega)] at his
          have HIS := hidden his
          clear his
          go_wp2_with fail
          go_ret2
          exact ⟨a', l.length, c', rfl, by rw [← HIS.out]; exact HPP.out, HN0.out, HR.out.below⟩
end Go.Proofs.YtjhfjkacfnccdabDoor.Back
