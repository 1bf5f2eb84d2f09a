/-
  What the reference's function Sorted returns: the numbers sorted, each once, in memory of its own. It changes nothing that was there.
-/
import Derived.Test.YtjhfjkacfnccdabDoorBackG
namespace Go.Proofs.YtjhfjkacfnccdabDoor.Back
open Go.ChangeShapes Go.WideShapes Go.ChangeAt Go.RowKit Go.Sort Go.Lib Go.Proofs.YtjhfjkacfnccdabDoor.BM Go.Proofs.YtjhfjkacfnccdabDoor.Mem
set_option linter.unusedVariables false

/-- a number put where it belongs -/
def put (S : List Int) (k : Nat) (x : Int) : List Int := S.take k ++ [x] ++ S.drop k
theorem put_len (S : List Int) (k : Nat) (x : Int) (h : k ≤ S.length) : (put S k x).length = S.length + 1 := by simp [put]; omega
theorem put_set (S : List Int) (k : Nat) (x y : Int) (h : k ≤ S.length) : (put S k x).set k y = put S k y := by
  unfold put
  rw [List.append_assoc, List.append_assoc, List.set_append_right _ _ (by simp; omega)]
  simp [Nat.min_eq_left h]
theorem put_end (S : List Int) (x : Int) : S ++ [x] = put S S.length x := by simp [put]
theorem put_back (S : List Int) (j : Nat) (h : j < S.length) : put S (j + 1) (S.getD j 0) = put S j (S.getD j 0) := by
  unfold put
  have e1 : S.take (j + 1) = S.take j ++ [S.getD j 0] := by
    rw [List.getD_eq_getElem?_getD, List.getElem?_eq_getElem h, Option.getD_some, List.take_append_getElem h]
  have e2 : S.drop j = S.getD j 0 :: S.drop (j + 1) := by
    rw [List.drop_eq_getElem_cons h, List.getD_eq_getElem?_getD, List.getElem?_eq_getElem h, Option.getD_some]
  rw [e1, e2]
  simp
theorem put_low (S : List Int) (k j : Nat) (x : Int) (hj : j < k) (hk : k ≤ S.length) : (put S k x).getD j 0 = S.getD j 0 := by
  unfold put
  rw [List.getD_eq_getElem?_getD, List.getD_eq_getElem?_getD, List.append_assoc, List.getElem?_append_left (by simp; omega), List.getElem?_take_of_lt hj]
theorem getD_mem {S : List Int} {j : Nat} (h : j < S.length) : S.getD j 0 ∈ S := by
  rw [List.getD_eq_getElem?_getD, List.getElem?_eq_getElem h]; exact List.getElem_mem _
theorem mem_getD {S : List Int} {x : Int} (h : x ∈ S) : ∃ j, j < S.length ∧ S.getD j 0 = x := by
  obtain ⟨j, hj, rfl⟩ := List.getElem_of_mem h
  exact ⟨j, hj, by rw [List.getD_eq_getElem?_getD, List.getElem?_eq_getElem hj]; rfl⟩
theorem rises_get {S : List Int} (h : Rises S) {i j : Nat} (hij : i < j) (hj : j < S.length) : S.getD i 0 < S.getD j 0 := by
  have := List.pairwise_iff_getElem.1 h i j (by omega) hj hij
  rw [List.getD_eq_getElem?_getD, List.getD_eq_getElem?_getD, List.getElem?_eq_getElem hj, List.getElem?_eq_getElem (by omega)]
  exact this
/-- a number that was there -/
theorem norm_old {K : List Int} {x : Int} (h : x ∈ norm K) : norm (K ++ [x]) = norm K :=
  norm_eq (norm_of K).1 fun y => by
    rw [(norm_of K).2, List.mem_append, List.mem_singleton]
    constructor
    · exact .inl
    · rintro (h' | rfl)
      · exact h'
      · exact ((norm_of K).2 y).1 h
/-- a number that is new -/
theorem norm_new {K : List Int} {x : Int} {k : Nat} (hk : k ≤ (norm K).length) (hi : ∀ j, k ≤ j → j < (norm K).length → x < (norm K).getD j 0) (hlo : 0 < k → (norm K).getD (k - 1) 0 < x) : norm (K ++ [x]) = put (norm K) k x := by
  obtain ⟨hr, hm⟩ := norm_of K
  generalize norm K = S at *
  refine norm_eq ?_ fun y => ?_
  · have h1 : ∀ y ∈ S.take k, y < x := by
      intro y hy
      obtain ⟨j, hj, rfl⟩ := mem_getD hy
      have hj' : j < k := by simp at hj; omega
      have e : (S.take k).getD j 0 = S.getD j 0 := by rw [List.getD_eq_getElem?_getD, List.getD_eq_getElem?_getD, List.getElem?_take_of_lt hj']
      rw [e]
      have hl := hlo (by omega)
      by_cases ej : j = k - 1
      · rw [ej]; exact hl
      · have := rises_get hr (i := j) (j := k - 1) (by omega) (by omega); omega
    have h2 : ∀ y ∈ S.drop k, x < y := by
      intro y hy
      obtain ⟨j, hj, rfl⟩ := mem_getD hy
      have e : (S.drop k).getD j 0 = S.getD (k + j) 0 := by rw [List.getD_eq_getElem?_getD, List.getD_eq_getElem?_getD, List.getElem?_drop]
      rw [e]
      exact hi (k + j) (by omega) (by simp at hj; omega)
    have h3 := hr
    unfold Rises at h3
    rw [← List.take_append_drop k S] at h3
    obtain ⟨a1, a2, a3⟩ := List.pairwise_append.1 h3
    unfold put Rises
    refine List.pairwise_append.2 ⟨List.pairwise_append.2 ⟨a1, List.pairwise_singleton _ _, fun y hy z hz => ?_⟩, a2, fun y hy z hz => ?_⟩
    · obtain rfl := List.mem_singleton.1 hz; exact h1 y hy
    · rcases List.mem_append.1 hy with hy | hy
      · exact a3 y hy z hz
      · obtain rfl := List.mem_singleton.1 hy; exact h2 z hz
  · unfold put
    rw [List.mem_append, List.mem_append, List.mem_append, List.mem_singleton, ← hm]
    have : y ∈ S ↔ y ∈ S.take k ∨ y ∈ S.drop k := by rw [← List.mem_append, List.take_append_drop]
    rw [this]
    constructor
    · rintro ((h | h) | h)
      · exact .inl (.inl h)
      · exact .inr h
      · exact .inl (.inr h)
    · rintro ((h | h) | h)
      · exact .inl (.inl h)
      · exact .inr h
      · exact .inl (.inr h)
theorem NSt.drew {w wr : World} {K : List Int} {v : Value} (h : NSt w wr K v) (q : Nat) : NSt w (wr.drewN q) K v := ⟨below_drewN' h.below q, h.own⟩
theorem NSt.cell {w wr : World} {K : List Int} {g cap m : Nat} (h : NSt w wr K (.slice (some ⟨g, 0, none⟩) m cap)) (hm : m = K.length) {j : Nat} (hj : j < m) : wr.cell? ⟨g, j, none⟩ = some (.int .i64 (K.getD j 0)) := by
  subst hm
  rw [h.own.cellAt j (by omega), ic_get K j hj]
theorem NSt.free {w wr : World} {K : List Int} {g cap m : Nat} (h : NSt w wr K (.slice (some ⟨g, 0, none⟩) m cap)) (hm : m = K.length) (j : Nat) : wr.frozen? ⟨g, j, none⟩ = false := by
  subst hm
  exact h.own.frozenAt j
theorem NSt.set {w wr : World} {K : List Int} {g cap m : Nat} (h : NSt w wr K (.slice (some ⟨g, 0, none⟩) m cap)) (hm : m = K.length) (j : Nat) (y : Int) : NSt w (wr.setCell ⟨g, j, none⟩ (.int .i64 y)) (K.set j y) (.slice (some ⟨g, 0, none⟩) m cap) := by
  subst hm
  have hg := (h.own.lt g rfl).1
  obtain ⟨h1, _⟩ := h.own.stored j (.int .i64 y)
  refine ⟨h.below.setCell hg _, ?_⟩
  rw [List.length_set]
  have e : ic (K.set j y) = (ic K).set j (.int .i64 y) := by simp [ic, List.map_set]
  rw [e]
  exact h1
theorem NSt.shape {w wr : World} {K : List Int} {v : Value} (h : NSt w wr K v) (hK : 0 < K.length) : ∃ g cap, v = .slice (some ⟨g, 0, none⟩) K.length cap := by
  rcases h.own.2 with ⟨_, h0⟩ | ⟨g, cap, cur, rfl, _⟩
  · omega
  · exact ⟨g, cap, rfl⟩

set_option maxHeartbeats 8000000 in
set_option maxRecDepth 100000 in
theorem sorted_calls (a : Option Addr) (n cap : Nat) (L : List Int) (w : World) (h : IArg w a n L) (hn : n ≤ 10000) :
    Calls Tryd.prog 53 #[.slice a n cap] w fun e w' => ∃ v', e = .returned v' ∧ w'.ownsRow w.heap.size 3 1 v' (norm L).length (ic (norm L)) ∧ Below w.heap.size w w' := by
  obtain ⟨i0, hii, hz0, hz1, hz2⟩ := info_parts info3
  have hl := h.2.1
  have HA := hidden h
  have HN0 : Hid (NSt w w (norm (L.take 0)) (.slice none 0 0)) := by
    have : norm (L.take 0) = [] := norm_self (show Rises [] from List.Pairwise.nil)
    rw [this]
    exact ⟨Below.refl _ _, World.ownsRow_nil _ _ _ _⟩
  clear h
  go_enter Tryd.func53, Tryd.ntmps53
  go_wp2_with fail
  go_loopg [3, 4] n (fun g x y wr => ∃ (i : Nat) (v : Value), i + g = n ∧ x = v ∧ y = .int .i64 (i : Int) ∧ Hid (NSt w wr (norm (L.take i)) v))
  case atStart => exact ⟨0, _, by omega, rfl, rfl, HN0⟩
  case round =>
    obtain ⟨i, v, hig, rfl, rfl, HS⟩ := hrel
    by_cases hi : i < n
    · have hiz : (i : Int) < (n : Int) := by omega
      obtain ⟨b, o, rfl, hcs⟩ := HA.out.at (by omega)
      obtain ⟨x, hx⟩ : ∃ x, L.getD i 0 = x := ⟨_, rfl⟩
      have HCL : Hid (∀ W, Hid (Below w.heap.size w W) → W.cell? ⟨b, o + i, none⟩ = some (.int .i64 x)) := fun W hW => by
        rw [← hx, ← hcs i hi]
        exact hW.out.cell (p := ⟨b, o + i, none⟩) (World.block_lt_of_cell? w _ (hcs i hi))
      have HTK : Hid (norm (L.take (i + 1)) = norm (L.take i ++ [x])) := by
        have e : L.take (i + 1) = L.take i ++ [x] := by
          rw [← hx, List.getD_eq_getElem?_getD, List.getElem?_eq_getElem (by omega), Option.getD_some, List.take_append_getElem (by omega)]
        show _ = _
        rw [e]
      clear hcs hx
      have hSl : (norm (L.take i)).length ≤ 10000 := by have := norm_len (L.take i); simp at this; omega
      obtain ⟨S, hS⟩ : ∃ S, S = norm (L.take i) := ⟨_, rfl⟩
      rw [← hS] at HS hSl
      have HSN := hidden hS
      clear hS
      obtain ⟨a1, c1, rfl, hI1, _, _, _⟩ := own_ints HS.out.own (by omega)
      clear hI1
      go_wp2_with fail
      go_loopg [5] S.length (fun k y wz => y = .int .i64 (k : Int) ∧ Hid (NSt w wz S (.slice a1 S.length c1) ∧ k ≤ S.length ∧ ∀ j, k ≤ j → j < S.length → x < S.getD j 0))
      case atStart => exact ⟨rfl, HS.out, Nat.le_refl _, fun j h1 h2 => by omega⟩
      case round =>
        obtain ⟨rfl, HN2'⟩ := hrel
        obtain ⟨k, rfl⟩ : ∃ k, k = gk := ⟨_, rfl⟩
        obtain ⟨hkl, HK⟩ : k ≤ S.length ∧ Hid (∀ j, k ≤ j → j < S.length → x < S.getD j 0) := HN2'.out.2
        have HM := hidden HN2'.out.1
        clear HN2'
        have hcl := HCL.out _ (hidden HM.out.below)
        by_cases hk0 : 0 < k
        · have d0 : decide (0 < (k : Int)) = true := by simp; omega
          have ek : ((k : Int) - 1) = ((k - 1 : Nat) : Int) := by omega
          obtain ⟨g, c, e⟩ := HM.out.shape (by omega)
          simp only [Value.slice.injEq, true_and] at e
          obtain ⟨rfl, rfl⟩ := e
          have hc := HM.out.cell rfl (j := k - 1) (by omega)
          obtain ⟨s, hs⟩ : ∃ s, S.getD (k - 1) 0 = s := ⟨_, rfl⟩
          rw [hs] at hc
          have HGS := hidden hs
          clear hs
          have hk1 : ((k - 1 : Nat) : Int) < (S.length : Int) := by omega
          by_cases hsx : x < s
          · have HUP : Hid (∀ j, k - 1 ≤ j → j < S.length → x < S.getD j 0) := fun j h1 h2 => by
              by_cases e : j = k - 1
              · rw [e, HGS.out]; exact hsx
              · exact HK.out j (by omega) h2
            obtain ⟨k1, hk1e⟩ : ∃ k1, k - 1 = k1 := ⟨_, rfl⟩
            rw [hk1e] at ek hc hk1 HUP
            go_wp2_with fail
            go_quiet (fail)
            go_wp2_with fail
            go_roundg k1
            case measure => omega
            case rel => exact ⟨by go_num, HM.out.drew _, by omega, HUP.out⟩
          · go_wp2_with fail
            go_quiet (fail)
            go_upto_region 8 with fail
            obtain ⟨w2, hw⟩ : ∃ wq : World, wr.drewN nq = wq := ⟨_, rfl⟩
            rw [hw]
            have HN1 : Hid (NSt w w2 S (.slice (some ⟨g, 0, none⟩) S.length c1)) := hw ▸ HM.out.drew nq
            clear hw
            have hc' := HN1.out.cell rfl (j := k - 1) (by omega)
            rw [HGS.out] at hc'
            have hcl' := HCL.out _ (hidden HN1.out.below)
            by_cases hse : s = x
            · subst hse
              have HOLD := hidden (norm_old (K := L.take i) (x := s) (by rw [← HSN.out, ← HGS.out]; exact getD_mem (by omega)))
              clear hc hcl
              obtain ⟨k1, hk1e⟩ : ∃ k1, k - 1 = k1 := ⟨_, rfl⟩
              rw [hk1e] at ek hc' hk1
              go_quiet (fail)
              go_wp2_with fail
              go_roundg (n - (i + 1))
              case measure => omega
              case rel => exact ⟨i + 1, _, by omega, rfl, by go_num, by rw [HTK.out, HOLD.out, ← HSN.out]; exact HN1.out.drew _⟩
            · have HLO : Hid (0 < k → S.getD (k - 1) 0 < x) := fun _ => by rw [HGS.out]; omega
              have hsx' : s < x := by omega
              have hse' : (s == x) = false := by rw [beq_eq_false_iff_ne]; exact hse
              clear hc hcl
              obtain ⟨k1, hk1e⟩ : ∃ k1, k - 1 = k1 := ⟨_, rfl⟩
              rw [hk1e] at ek hc' hk1
              go_quiet (fail)
              go_upto_region 9 with fail
              obtain ⟨w5, hw⟩ : ∃ wq : World, w2.drewN nq = wq := ⟨_, rfl⟩
              rw [hw]
              have HN2 : Hid (NSt w w5 S (.slice (some ⟨g, 0, none⟩) S.length c1)) := hw ▸ HN1.out.drew nq
              clear hw
              clear hc' hcl'
              have HPUT : Hid (norm (L.take i ++ [x]) = put S k x) := by
                have hh := norm_new (K := L.take i) (x := x) (k := k)
                rw [← HSN.out] at hh
                exact hh hkl HK.out HLO.out
              go_wp2_with (at_builtin; refine wpList_append_own _ rfl _ _ 53 rfl w.heap.size 3 i0 _ 1 8 Tryd.underlying53 hii hz0 hz1 hz2 rfl (by decide) _ S.length (ic S) rfl (HN2.out.own.alloc _) ⟨w5.heap.size, 0, none⟩ 1 1 [.int .i64 0] rfl rfl ?cc ?one ?b1 ?b2 ?b3 ?next)
              case cc => exact lit1 _
              case one => simp [Value.oneCell']
              case b1 => unfold maxLen; omega
              case b2 => omega
              case b3 => have := HN2.out.below.size; simp at this ⊢; omega
              case next =>
              intro v3 w3 hown hgrow _
              have HN3 : Hid (NSt w w3 (put S S.length 0) v3) := by
                have hs := HN2.out.below.size
                refine ⟨(HN2.out.below.alloc hs _).grown hgrow (by simp at hs ⊢; omega) (fun j hj => (HN2.out.own.lt j hj).1), ?_⟩
                rw [put_len S S.length 0 (Nat.le_refl _), ← put_end]
                have e : ic (S ++ [0]) = ic S ++ [.int .i64 0] := by simp [ic]
                rw [e]
                exact hown
              clear hown hgrow
              obtain ⟨g3, c3, e3⟩ := HN3.out.shape (by rw [put_len S S.length 0 (Nat.le_refl _)]; omega)
              rw [put_len S S.length 0 (Nat.le_refl _)] at e3
              subst e3
              go_wp2_with fail
              go_loopg [6] (S.length - k) (fun gg y wz => ∃ (j : Nat) (z : Int), k + gg = j ∧ j ≤ S.length ∧ y = .int .i64 (j : Int) ∧ Hid (NSt w wz (put S j z) (.slice (some ⟨g3, 0, none⟩) (S.length + 1) c3)))
              case atStart => exact ⟨S.length, 0, by omega, Nat.le_refl _, rfl, HN3⟩
              case round =>
                obtain ⟨j, z, hjk, hjl, rfl, HZ⟩ := hrel
                by_cases hj : k < j
                · have hjz : (k : Int) < (j : Int) := by omega
                  have ej : ((j : Int) - 1) = ((j - 1 : Nat) : Int) := by omega
                  have hc1 := HZ.out.cell (by rw [put_len _ _ _ hjl]) (j := j - 1) (by omega)
                  rw [put_low S j (j - 1) z (by omega) hjl] at hc1
                  have hc2 := HZ.out.cell (by rw [put_len _ _ _ hjl]) (j := j) (by omega)
                  have hfr := HZ.out.free (by rw [put_len _ _ _ hjl]) j
                  have HZ2 := hidden (HZ.out.set (by rw [put_len _ _ _ hjl]) j (S.getD (j - 1) 0))
                  rw [put_set S j z _ hjl] at HZ2
                  have hpb := put_back S (j - 1) (by omega)
                  rw [show j - 1 + 1 = j by omega] at hpb
                  rw [hpb] at HZ2
                  clear hpb
                  obtain ⟨sj, hsj⟩ : ∃ s, S.getD (j - 1) 0 = s := ⟨_, rfl⟩
                  rw [hsj] at hc1 HZ2
                  obtain ⟨oj, hoj⟩ : ∃ s, (put S j z).getD j 0 = s := ⟨_, rfl⟩
                  rw [hoj] at hc2
                  clear hsj hoj
                  generalize j - 1 = j1 at *
                  go_wp2_with fail
                  go_roundg (gk - 1)
                  case measure => omega
                  case rel => exact ⟨j1, sj, by omega, by omega, by go_num, HZ2⟩
                · have hjz : ¬ (k : Int) < (j : Int) := by omega
                  have ej : j = k := by omega
                  subst ej
                  have hc2 := HZ.out.cell (by rw [put_len _ _ _ hjl]) (j := j) (by omega)
                  have hfr := HZ.out.free (by rw [put_len _ _ _ hjl]) j
                  have HZ2 := hidden (HZ.out.set (by rw [put_len _ _ _ hjl]) j x)
                  rw [put_set S j z _ hjl] at HZ2
                  have hcl := HCL.out _ (hidden HZ.out.below)
                  obtain ⟨oj, hoj⟩ : ∃ s, (put S j z).getD j 0 = s := ⟨_, rfl⟩
                  rw [hoj] at hc2
                  clear hoj
                  go_wp2_with fail
                  go_roundg (n - (i + 1))
                  case measure => omega
                  case rel => exact ⟨i + 1, _, by omega, rfl, by go_num, by rw [HTK.out, HPUT.out]; exact HZ2⟩
        · have d0 : decide (0 < (k : Int)) = false := by simp; omega
          go_wp2_with fail
          go_quiet (fail)
          go_upto_region 8 with fail
          obtain ⟨w2, hw⟩ : ∃ wq : World, wr.drewN nq = wq := ⟨_, rfl⟩
          rw [hw]
          have HN1 : Hid (NSt w w2 S (.slice a1 S.length c1)) := hw ▸ HM.out.drew nq
          clear hw
          go_quiet (fail)
          go_upto_region 9 with fail
          obtain ⟨w5, hw⟩ : ∃ wq : World, w2.drewN nq = wq := ⟨_, rfl⟩
          rw [hw]
          have HN2 : Hid (NSt w w5 S (.slice a1 S.length c1)) := hw ▸ HN1.out.drew nq
          clear hw
          clear hcl
          have HPUT : Hid (norm (L.take i ++ [x]) = put S k x) := by
            have hh := norm_new (K := L.take i) (x := x) (k := k)
            rw [← HSN.out] at hh
            exact hh hkl HK.out (fun h => absurd h hk0)
          go_wp2_with (at_builtin; refine wpList_append_own _ rfl _ _ 53 rfl w.heap.size 3 i0 _ 1 8 Tryd.underlying53 hii hz0 hz1 hz2 rfl (by decide) _ S.length (ic S) rfl (HN2.out.own.alloc _) ⟨w5.heap.size, 0, none⟩ 1 1 [.int .i64 0] rfl rfl ?cc ?one ?b1 ?b2 ?b3 ?next)
          case cc => exact lit1 _
          case one => simp [Value.oneCell']
          case b1 => unfold maxLen; omega
          case b2 => omega
          case b3 => have := HN2.out.below.size; simp at this ⊢; omega
          case next =>
          intro v3 w3 hown hgrow _
          have HN3 : Hid (NSt w w3 (put S S.length 0) v3) := by
            have hs := HN2.out.below.size
            refine ⟨(HN2.out.below.alloc hs _).grown hgrow (by simp at hs ⊢; omega) (fun j hj => (HN2.out.own.lt j hj).1), ?_⟩
            rw [put_len S S.length 0 (Nat.le_refl _), ← put_end]
            have e : ic (S ++ [0]) = ic S ++ [.int .i64 0] := by simp [ic]
            rw [e]
            exact hown
          clear hown hgrow
          obtain ⟨g3, c3, e3⟩ := HN3.out.shape (by rw [put_len S S.length 0 (Nat.le_refl _)]; omega)
          rw [put_len S S.length 0 (Nat.le_refl _)] at e3
          subst e3
          go_wp2_with fail
          go_loopg [6] (S.length - k) (fun gg y wz => ∃ (j : Nat) (z : Int), k + gg = j ∧ j ≤ S.length ∧ y = .int .i64 (j : Int) ∧ Hid (NSt w wz (put S j z) (.slice (some ⟨g3, 0, none⟩) (S.length + 1) c3)))
          case atStart => exact ⟨S.length, 0, by omega, Nat.le_refl _, rfl, HN3⟩
          case round =>
            obtain ⟨j, z, hjk, hjl, rfl, HZ⟩ := hrel
            by_cases hj : k < j
            · have hjz : (k : Int) < (j : Int) := by omega
              have ej : ((j : Int) - 1) = ((j - 1 : Nat) : Int) := by omega
              have hc1 := HZ.out.cell (by rw [put_len _ _ _ hjl]) (j := j - 1) (by omega)
              rw [put_low S j (j - 1) z (by omega) hjl] at hc1
              have hc2 := HZ.out.cell (by rw [put_len _ _ _ hjl]) (j := j) (by omega)
              have hfr := HZ.out.free (by rw [put_len _ _ _ hjl]) j
              have HZ2 := hidden (HZ.out.set (by rw [put_len _ _ _ hjl]) j (S.getD (j - 1) 0))
              rw [put_set S j z _ hjl] at HZ2
              have hpb := put_back S (j - 1) (by omega)
              rw [show j - 1 + 1 = j by omega] at hpb
              rw [hpb] at HZ2
              clear hpb
              obtain ⟨sj, hsj⟩ : ∃ s, S.getD (j - 1) 0 = s := ⟨_, rfl⟩
              rw [hsj] at hc1 HZ2
              obtain ⟨oj, hoj⟩ : ∃ s, (put S j z).getD j 0 = s := ⟨_, rfl⟩
              rw [hoj] at hc2
              clear hsj hoj
              generalize j - 1 = j1 at *
              go_wp2_with fail
              go_roundg (gk - 1)
              case measure => omega
              case rel => exact ⟨j1, sj, by omega, by omega, by go_num, HZ2⟩
            · have hjz : ¬ (k : Int) < (j : Int) := by omega
              have ej : j = k := by omega
              subst ej
              have hc2 := HZ.out.cell (by rw [put_len _ _ _ hjl]) (j := j) (by omega)
              have hfr := HZ.out.free (by rw [put_len _ _ _ hjl]) j
              have HZ2 := hidden (HZ.out.set (by rw [put_len _ _ _ hjl]) j x)
              rw [put_set S j z _ hjl] at HZ2
              have hcl := HCL.out _ (hidden HZ.out.below)
              obtain ⟨oj, hoj⟩ : ∃ s, (put S j z).getD j 0 = s := ⟨_, rfl⟩
              rw [hoj] at hc2
              clear hoj
              go_wp2_with fail
              go_roundg (n - (i + 1))
              case measure => omega
              case rel => exact ⟨i + 1, _, by omega, rfl, by go_num, by rw [HTK.out, HPUT.out]; exact HZ2⟩
    · have hiz : ¬ (i : Int) < (n : Int) := by omega
      go_wp2_with fail
      go_ret
      have h1 := HS.out
      rw [List.take_of_length_le (by omega)] at h1
      exact ⟨_, rfl, h1.own, h1.below⟩
end Go.Proofs.YtjhfjkacfnccdabDoor.Back
