/-
  The law TopRow as numbers: what is lacking, kept, taken and got, of packets that are told by their places.
-/
import Derived.Test.YtpiamlgmadnepaaGreatGapsMath
import Derived.Test.YtpiamlgmadnepaaGreatOrderMath
import Derived.Test.YtpiamlgmadnepaaGreatLayerMath
import Derived.Test.YtpiamlgmadnepaaGreatOutMath
import Derived.Test.YtpiamlgmadnepaaGreatAuditMath
namespace Go.Proofs.YtpiamlgmadnepaaGreat.TR
set_option linter.unusedVariables false

/-- the packet of a place, as what is kept bears it -/
def GoodP (L : Int) (j : Nat) (p : OM.Pk) : Prop := p.s = (L + (j : Int)) % 65536 ∧ p.t = 0 ∧ p.l = 0 ∧ p.q = 0 ∧ p.st = true ∧ p.L = [j]
def GoodI (L : Int) (i : OM.Kp) : Prop := L ≤ i.n ∧ i.n < L + 64 ∧ (i.g = false → GoodP L (i.n - L).toNat i.p)

/-- what is lacking: C tells which came -/
structure GI (L nw T : Int) (M : GM.Its) (C : Nat → Bool) : Prop where
  inv : GM.Inv 2 2 nw T M
  low : ∀ x ∈ M, L ≤ x.n
  top : T = -1 ∨ (L ≤ T ∧ T < L + 64)
  len : M = [] ∨ (M.length : Int) ≤ T - L
  non : T = -1 → M = []
  came : ∀ i : Nat, C i = true → i < 64 ∧ L + (i : Int) ≤ T ∧ GM.has M (L + (i : Int)) = false
theorem gi_start {L : Int} : GI L 0 (-1) [] (fun _ => false) :=
  ⟨GM.inv_start (by omega) (by omega) (by omega) (by omega), by simp, .inl rfl, .inl rfl, fun _ => rfl, fun i h => by cases h⟩
def setC (C : Nat → Bool) (i : Nat) : Nat → Bool := fun k => if k = i then true else C k
theorem gm_no {M : GM.Its} {y : Int} (h : ∀ i ∈ M, i.n ≠ y) : GM.has M y = false := by
  cases hh : GM.has M y with
  | false => rfl
  | true => obtain ⟨i, hi, he⟩ := GM.has_iff.1 hh; exact absurd he (h i hi)
theorem tf_ok {nw now : Int} (h0 : 0 ≤ now) (h1 : now ≤ 1000000) (h2 : nw ≤ now) : GM.tf nw now = 0 := by unfold GM.tf; rw [if_neg (by omega), if_neg (by omega)]
theorem GI.hear_ok {L nw T now : Int} {M : GM.Its} {C : Nat → Bool} (h : GI L nw T M C) {i : Nat} (hi : i < 64) (hL : 0 ≤ L) (hL2 : L ≤ 2000000000) (h0 : 0 ≤ now) (h1 : now ≤ 1000000) (h2 : nw ≤ now) : GM.hf nw T M (L + (i : Int)) now = 0 := by
  unfold GM.hf
  rw [if_neg (by rw [tf_ok h0 h1 h2]; simp), if_neg (by omega), if_neg ?_]
  have ht := h.top
  rcases h.len with e | e
  · rw [e]
    unfold GM.lo
    split <;> simp <;> omega
  · have := h.inv.len
    unfold GM.lo
    split <;> omega
theorem GI.old {L nw T : Int} {M : GM.Its} {C : Nat → Bool} (h : GI L nw T M C) {i : Nat} (hx : GM.hx T M (L + (i : Int)) = true) : C i = false := by
  cases hc : C i with
  | false => rfl
  | true =>
    obtain ⟨_, h1, h2⟩ := h.came i hc
    unfold GM.hx at hx
    rw [h2, Bool.or_false, decide_eq_true_eq] at hx
    omega
theorem hT_bd {L T : Int} {i : Nat} (hi : i < 64) (h : T = -1 ∨ (L ≤ T ∧ T < L + 64)) : L ≤ L + (i : Int) ∧ (GM.hT T (L + (i : Int)) = L + (i : Int) ∨ GM.hT T (L + (i : Int)) = T) ∧ T ≤ GM.hT T (L + (i : Int)) ∧ L + (i : Int) ≤ GM.hT T (L + (i : Int)) := by
  unfold GM.hT
  split <;> omega
theorem GI.hear {L nw T now : Int} {M : GM.Its} {C : Nat → Bool} (h : GI L nw T M C) {i : Nat} (hi : i < 64) (hL : 0 ≤ L) (hL2 : L ≤ 2000000000) (h0 : 0 ≤ now) (h1 : now ≤ 1000000) (h2 : nw ≤ now) :
    GI L now (GM.hT T (L + (i : Int))) (GM.hM T M (L + (i : Int))) (setC C i) ∧ GM.hT T (L + (i : Int)) ≠ -1 := by
  have hf := h.hear_ok hi hL hL2 h0 h1 h2
  have hb := hT_bd hi h.top
  have hmem : ∀ x ∈ GM.hM T M (L + (i : Int)), x.n ≠ L + (i : Int) ∧ L ≤ x.n ∧ (x ∈ M ∨ T < x.n) := by
    intro x hx
    unfold GM.hM at hx
    split at hx
    · rename_i hlt
      rcases List.mem_append.1 hx with hx | hx
      · have := h.inv.mem x hx
        exact ⟨by omega, h.low x hx, .inl hx⟩
      · obtain ⟨j, hj, rfl⟩ := GM.mem_fresh.1 hx
        unfold GM.lo at hj
        have ht := h.top
        refine ⟨?_, ?_, .inr (by show T < T + 1 + (j : Int); omega)⟩
        · show T + 1 + (j : Int) ≠ _
          split at hj <;> omega
        · show L ≤ T + 1 + (j : Int)
          split at hj <;> omega
    · rw [List.mem_filter] at hx
      exact ⟨by simpa using hx.2, h.low x hx.1, .inl hx.1⟩
  refine ⟨⟨GM.inv_hear h.inv hf, fun x hx => (hmem x hx).2.1, .inr ?_, ?_, ?_, ?_⟩, by omega⟩
  · have ht := h.top
    omega
  · by_cases hlt : T < L + (i : Int)
    · unfold GM.hM GM.hT
      rw [if_pos hlt, if_pos hlt, List.length_append, GM.fresh_len]
      by_cases ht : T = -1
      · rw [h.non ht]
        left
        unfold GM.lo
        rw [if_pos (.inl ht)]
        rfl
      · right
        have hl0 := @GM.lo_nn T (L + (i : Int))
        have ht2 := h.top
        have hl : GM.lo T (L + (i : Int)) = L + (i : Int) - T - 1 := by unfold GM.lo; rw [if_neg (by omega)]
        rw [hl]
        rcases h.len with e | e
        · rw [e, List.length_nil]; omega
        · omega
    · unfold GM.hM GM.hT
      rw [if_neg hlt, if_neg hlt]
      rcases h.len with e | e
      · left; rw [e]; rfl
      · right
        have := List.length_filter_le (fun x : GM.Lk => decide (x.n ≠ L + (i : Int))) M
        omega
  · intro e
    omega
  · intro k hk
    unfold setC at hk
    split at hk
    · rename_i e
      rw [e]
      exact ⟨hi, hb.2.2.2, gm_no fun x hx => (hmem x hx).1⟩
    · obtain ⟨hk0, hk1, hk2⟩ := h.came k hk
      refine ⟨hk0, by omega, gm_no fun x hx => ?_⟩
      rcases (hmem x hx).2.2 with hm | hm
      · exact GM.has_no hk2 x hm
      · omega
/-- one that is no news: C may stay -/
theorem GI.less {L nw T : Int} {M : GM.Its} {C : Nat → Bool} {i : Nat} (h : GI L nw T M (setC C i)) : GI L nw T M C :=
  ⟨h.inv, h.low, h.top, h.len, h.non, fun k hk => h.came k (by unfold setC; split <;> simp [hk])⟩
theorem dM_mem {ag tr now : Int} {M : GM.Its} {x : GM.Lk} (h : x ∈ GM.dM ag tr now M) : ∃ y ∈ M, y.n = x.n := by
  unfold GM.dM at h
  obtain ⟨y, hy, rfl⟩ := List.mem_map.1 h
  rw [List.mem_filter] at hy
  exact ⟨y, hy.1, (GM.next_n _ _ _ _).symm⟩
theorem GI.due {L nw T now : Int} {M : GM.Its} {C : Nat → Bool} (h : GI L nw T M C) (h0 : 0 ≤ now) (h1 : now ≤ 1000000) (h2 : nw ≤ now) :
    GI L now T (GM.dM 2 2 now M) C ∧ (∀ y ∈ GM.gaveL 2 2 now M, L ≤ y ∧ y < T) ∧ (M = [] → GM.gaveL 2 2 now M = []) ∧ (GM.gaveL 2 2 now M).length ≤ 64 ∧ (GM.dueL 2 2 now M).length ≤ 64 ∧ (T = -1 → GM.dueL 2 2 now M = []) := by
  have hl : M.length ≤ 64 := by
    have ht := h.top
    by_cases hT : T = -1
    · rw [h.non hT]; simp
    rcases h.len with e | e
    · rw [e]; simp
    · omega
  have hd : (GM.dM 2 2 now M).length ≤ M.length := by
    unfold GM.dM
    rw [List.length_map]
    exact List.length_filter_le _ _
  refine ⟨⟨GM.inv_due h.inv (tf_ok h0 h1 h2), ?_, h.top, ?_, ?_, ?_⟩, ?_, ?_, Nat.le_trans (GM.gave_len _ _ _ _) hl, Nat.le_trans (GM.due_len _ _ _ _) hl, ?_⟩
  · intro x hx
    obtain ⟨y, hy, e⟩ := dM_mem hx
    rw [← e]
    exact h.low y hy
  · rcases h.len with e | e
    · left; rw [e]; rfl
    · right; omega
  · intro e; rw [h.non e]; rfl
  · intro i hi
    obtain ⟨a, b, c⟩ := h.came i hi
    refine ⟨a, b, gm_no fun x hx => ?_⟩
    obtain ⟨y, hy, e⟩ := dM_mem hx
    rw [← e]
    exact GM.has_no c y hy
  · intro y hy
    unfold GM.gaveL GM.nums at hy
    obtain ⟨x, hx, rfl⟩ := List.mem_map.1 hy
    rw [List.mem_filter] at hx
    have := h.inv.mem x hx.1
    exact ⟨h.low x hx.1, this.2.1⟩
  · intro e; rw [e]; rfl
  · intro e; rw [h.non e]; rfl
theorem mem_sort {G : List Int} {y : Int} (h : y ∈ G.mergeSort fun x y => decide (x ≤ y)) : y ∈ G := (List.mergeSort_perm G _).mem_iff.1 h

/-- what is kept -/
structure OI (L nw nx : Int) (M : OM.Its) : Prop where
  inv : OM.Inv nw nx M
  it : ∀ i ∈ M, GoodI L i
  nxb : nx = -1 ∨ (L ≤ nx ∧ nx ≤ L + 64)
theorem oi_start {L : Int} : OI L 0 (-1) [] := ⟨OM.inv_start, by simp, .inl rfl⟩
/-- something is got, or what is next is there -/
def FI (nx : Int) (M : OM.Its) (k : Nat) : Prop := nx ≠ -1 → 0 < k ∨ ∃ i ∈ M, i.n = nx ∧ i.g = false
theorem OI.push_ok {L nw nx now : Int} {M : OM.Its} (h : OI L nw nx M) {i : Nat} (hi : i < 64) (hL : 0 ≤ L) (hL2 : L ≤ 2000000000) (h0 : 0 ≤ now) (h1 : now ≤ 1000000) (h2 : nw ≤ now) : OM.pf nw nx (L + (i : Int)) now 0 = 0 := by
  refine OM.pf_mk (OM.tf_mk h0 h1 h2) (by omega) (by omega) rfl ?_
  have := h.nxb
  unfold OM.far
  by_cases hx : nx = -1
  · rw [decide_eq_false (by omega)]; rfl
  · rw [decide_eq_false (p := 200 ≤ _) (by omega)]; simp
theorem OI.push {L nw nx now : Int} {M : OM.Its} (h : OI L nw nx M) {i k : Nat} (hi : i < 64) (hL : 0 ≤ L) (hL2 : L ≤ 2000000000) (h0 : 0 ≤ now) (h1 : now ≤ 1000000) (h2 : nw ≤ now) {p : OM.Pk} (hp : GoodP L i p) (hF : FI nx M k) :
    OI L now (OM.pX nw nx (L + (i : Int)) now 0) (OM.pM nw nx (L + (i : Int)) now M 0 p) ∧ FI (OM.pX nw nx (L + (i : Int)) now 0) (OM.pM nw nx (L + (i : Int)) now M 0 p) k ∧ OM.pX nw nx (L + (i : Int)) now 0 ≠ -1 ∧ (nx ≠ -1 → OM.pX nw nx (L + (i : Int)) now 0 = nx) ∧ OM.pW nw nx (L + (i : Int)) now 0 = now ∧ nx ≤ OM.pX nw nx (L + (i : Int)) now 0 := by
  have hf := h.push_ok hi hL hL2 h0 h1 h2
  have hI := OM.inv_push (now := now) (y := L + (i : Int)) h.inv 0 p
  have hw : OM.pW nw nx (L + (i : Int)) now 0 = now := by unfold OM.pW; rw [if_pos hf]
  have hX : OM.pX nw nx (L + (i : Int)) now 0 = OM.fx nx (L + (i : Int)) := by unfold OM.pX; rw [if_pos hf]
  rw [hw] at hI
  have hn := h.nxb
  refine ⟨⟨hI, ?_, ?_⟩, ?_, ?_, ?_, hw, ?_⟩
  · intro x hx
    unfold OM.pM at hx
    split at hx
    · rcases List.mem_append.1 hx with hx | hx
      · exact h.it x hx
      · rw [List.mem_singleton] at hx
        rw [hx]
        exact ⟨by show L ≤ L + (i : Int); omega, by show L + (i : Int) < _; omega, fun _ => by show GoodP L (L + (i : Int) - L).toNat p; rw [show (L + (i : Int) - L).toNat = i by omega]; exact hp⟩
    · exact h.it x hx
  · rw [hX]
    unfold OM.fx
    right
    split <;> omega
  · intro _
    by_cases hx : nx = -1
    · right
      have hM := h.inv.non hx
      have hpx : OM.px nw nx (L + (i : Int)) now M 0 = true := by
        unfold OM.px OM.kx OM.fx
        rw [decide_eq_true hf, if_pos hx, hM]
        simp [OM.has]
      refine ⟨⟨L + (i : Int), false, p, now⟩, ?_, ?_, rfl⟩
      · unfold OM.pM
        rw [if_pos hpx]
        simp
      · rw [hX]; unfold OM.fx; rw [if_pos hx]
    · rcases hF hx with h1 | ⟨x, hx1, hx2, hx3⟩
      · exact .inl h1
      · right
        refine ⟨x, ?_, ?_, hx3⟩
        · unfold OM.pM
          split
          · exact List.mem_append_left _ hx1
          · exact hx1
        · rw [hX, hx2]; unfold OM.fx; rw [if_neg hx]
  · rw [hX]; unfold OM.fx; split <;> omega
  · intro hx; rw [hX]; unfold OM.fx; rw [if_neg hx]
  · rw [hX]; unfold OM.fx; split <;> omega
theorem OI.gone_ok {L nw nx now y : Int} {M : OM.Its} (h : OI L nw nx M) (hL : 0 ≤ L) (hL2 : L ≤ 2000000000) (h0 : 0 ≤ now) (h1 : now ≤ 1000000) (h2 : nw ≤ now) (hy : L ≤ y) (hy2 : y < L + 64) (hn : nx ≠ -1) : OM.gf nw nx y now = 0 := by
  unfold OM.gf
  rw [if_neg (by rw [OM.tf_mk h0 h1 h2]; simp), if_neg (by omega), if_neg hn]
theorem OI.gone {L nw nx now y : Int} {M : OM.Its} (h : OI L nw nx M) (hL : 0 ≤ L) (hL2 : L ≤ 2000000000) (h0 : 0 ≤ now) (h1 : now ≤ 1000000) (h2 : nw ≤ now) (hy : L ≤ y) (hy2 : y < L + 64) (hn : nx ≠ -1) {k : Nat} (hF : FI nx M k) :
    OI L now nx (OM.gM nw nx y now M) ∧ FI nx (OM.gM nw nx y now M) k ∧ OM.gW nw nx y now = now := by
  have hf := h.gone_ok hL hL2 h0 h1 h2 hy hy2 hn
  have hI := OM.inv_gone (now := now) (y := y) h.inv
  have hw : OM.gW nw nx y now = now := by unfold OM.gW; rw [if_pos hf]
  rw [hw] at hI
  refine ⟨⟨hI, ?_, h.nxb⟩, ?_, hw⟩
  · intro x hx
    unfold OM.gM at hx
    split at hx
    · rcases List.mem_append.1 hx with hx | hx
      · exact h.it x hx
      · rw [List.mem_singleton] at hx
        rw [hx]
        exact ⟨hy, hy2, fun e => by cases e⟩
    · exact h.it x hx
  · intro hx
    rcases hF hx with h1 | ⟨x, hx1, hx2, hx3⟩
    · exact .inl h1
    · refine .inr ⟨x, ?_, hx2, hx3⟩
      unfold OM.gM
      split
      · exact List.mem_append_left _ hx1
      · exact hx1
/-- what is handed out -/
theorem OI.pop {L nw nx now : Int} {M : OM.Its} {K : Nat} (h : OI L nw nx M) (hL : 0 ≤ L) (h0 : 0 ≤ now) (h1 : now ≤ 1000000) (h2 : nw ≤ now) {od : Int} (hO : OM.Od 8 now M od) (hS : OM.Stop M od nx K) :
    OI L now (nx + (K : Int)) (OM.rest M (nx + (K : Int))) ∧ (nx = -1 → K = 0) ∧ (∀ j : Nat, j < K → GoodI L (OM.itm M (nx + (j : Int)))) ∧ ∀ k, FI nx M k → nx ≠ -1 → 0 < k ∨ (0 < K ∧ (OM.itm M nx).g = false) := by
  have hK0 : nx = -1 → K = 0 := by
    intro e
    have hi := h.inv
    rw [e] at hi
    refine OM.stop_none hi hO ?_
    rw [← e]
    exact hS
  have hgo : ∀ j : Nat, j < K → L ≤ nx + (j : Int) ∧ nx + (j : Int) < L + 64 := by
    intro j hj
    have hb := h.nxb
    have hn : nx ≠ -1 := fun e => by have := hK0 e; omega
    refine ⟨by omega, ?_⟩
    have := hS.all j hj
    unfold OM.goes at this
    rcases Bool.or_eq_true _ _ ▸ this with hh | hh
    · obtain ⟨i, hi, he⟩ := OM.has_iff.1 hh
      have := (h.it i hi).2.1
      omega
    · have hlt := of_decide_eq_true hh
      rcases hO.one with e | ⟨i, hi, _, he⟩
      · omega
      · have := (h.it i hi).2.1
        omega
  refine ⟨⟨OM.inv_pop h.inv (OM.tf_mk h0 h1 h2) hO hS.all, ?_, ?_⟩, hK0, ?_, ?_⟩
  · intro i hi
    unfold OM.rest at hi
    exact h.it i (List.mem_filter.1 hi).1
  · rcases h.nxb with e | e
    · left; rw [hK0 e]; omega
    · right
      refine ⟨by omega, ?_⟩
      rcases Nat.eq_zero_or_pos K with hz | hz
      · omega
      · have := (hgo (K - 1) (by omega)).2
        omega
  · intro j hj
    obtain ⟨a, b⟩ := hgo j hj
    cases hh : OM.has M (nx + (j : Int)) with
    | true =>
      exact h.it _ (OM.itm_has hh).1
    | false =>
      rw [OM.itm_no hh]
      exact ⟨a, b, fun e => by cases e⟩
  · intro k hF hn
    rcases hF hn with e | ⟨i, hi, e1, e2⟩
    · exact .inl e
    · right
      have hh : OM.has M nx = true := OM.has_iff.2 ⟨i, hi, e1⟩
      refine ⟨?_, ?_⟩
      · rcases Nat.eq_zero_or_pos K with hz | hz
        · have := hS.stop
          rw [hz] at this
          unfold OM.goes at this
          rw [show nx + ((0 : Nat) : Int) = nx by omega, hh] at this
          simp at this
        · exact hz
      · rw [← e1, OM.itm_eq h.inv.one hi]
        exact e2
/-- the layer that goes through -/
structure LI (nl la : Int) (br : Bool) : Prop where
  inv : LM.Inv 3 nl la br
  nl0 : nl = -1 ∨ nl = 0
theorem li_start : LI (-1) (-1) false := ⟨LM.inv_start (by omega) (by omega), .inl rfl⟩
theorem LI.pack {nl la n : Int} {br : Bool} {p : Nat} (h : LI nl la br) (hn : 0 ≤ n) (hn2 : n ≤ 1099511627776) (hla : la < n) (hp : p = 0) :
    LM.tkf la n false p = 0 ∧ LM.tkx 3 nl la n br false p 0 true = true ∧ LI (LM.tkN 3 nl la n br false p 0 true) (LM.tkL la n false p) (LM.tkB 3 nl la n br false p 0 true) ∧ LM.tkL la n false p = n := by
  have hf : LM.tkf la n false p = 0 := (LM.tkf_pack hn hn2 (by omega)).trans hp
  obtain ⟨e1, e2, e3, e4⟩ := LM.tk_pack (m := 3) (nw := nl) (br := br) (l := 0) (st := true) hf
  have hg : LM.goes 3 nl 0 br true = true := by
    unfold LM.goes
    rcases h.nl0 with e | e
    · rw [e]; simp
    · rw [e]; simp
  refine ⟨hf, e1.trans hg, ⟨LM.inv_take h.inv (fun _ => ⟨by omega, by omega⟩), ?_⟩, e2⟩
  right
  rw [e3, hg]
  rfl
theorem LI.gone {nl la n : Int} {br : Bool} {p : Nat} {l : Int} {st : Bool} (h : LI nl la br) (hn : 0 ≤ n) (hn2 : n ≤ 1099511627776) (hla : la < n) :
    LM.tkf la n true p = 0 ∧ LM.tkx 3 nl la n br true p l st = false ∧ LI (LM.tkN 3 nl la n br true p l st) (LM.tkL la n true p) (LM.tkB 3 nl la n br true p l st) ∧ LM.tkL la n true p = n := by
  have hf : LM.tkf la n true p = 0 := LM.tkf_gone hn hn2 (by omega)
  obtain ⟨e1, e2, e3, e4⟩ := LM.tk_gone (m := 3) (nw := nl) (br := br) (l := l) (st := st) hf
  refine ⟨hf, e1, ⟨?_, ?_⟩, e2⟩
  · rw [e3, e2, e4]
    have hi := h.inv
    refine ⟨by omega, by omega, hi.n0, hi.n1, by omega, by omega, fun e => by rw [e]; rfl⟩
  · rw [e3]; exact h.nl0
/-- what was sent -/
def Is (j : Nat) (p : AU.Pk) : Prop := p.l = 0 ∧ p.q = 0 ∧ p.st = true ∧ p.L = [j]
def hd (p : AU.Pk) : Nat := p.L.headD 0
structure GotI (L nx : Int) (X : List AU.Pk) : Prop where
  all : ∀ i, i < X.length → Is (hd (X.getD i AU.noPk)) (X.getD i AU.noPk) ∧ hd (X.getD i AU.noPk) < 64 ∧ AU.pf (X.getD i AU.noPk) = 0 ∧ (X.getD i AU.noPk).s = UM.sq 0 i ∧ L + (hd (X.getD i AU.noPk) : Int) < nx
  inc : ∀ i, i + 1 < X.length → hd (X.getD i AU.noPk) < hd (X.getD (i + 1) AU.noPk)
theorem got_start {L nx : Int} : GotI L nx [] := ⟨fun i h => absurd h (by simp), fun i h => absurd h (by simp)⟩
theorem GotI.up {L nx nx' : Int} {X : List AU.Pk} (h : GotI L nx X) (hx : nx ≤ nx') : GotI L nx' X :=
  ⟨fun i hi => by obtain ⟨a, b, c, d, e⟩ := h.all i hi; exact ⟨a, b, c, d, by omega⟩, h.inc⟩
theorem getD_l {X : List AU.Pk} {p : AU.Pk} {i : Nat} (h : i < X.length) : (X ++ [p]).getD i AU.noPk = X.getD i AU.noPk := by
  simp [List.getD_eq_getElem?_getD, List.getElem?_append_left h]
theorem getD_r {X : List AU.Pk} {p : AU.Pk} : (X ++ [p]).getD X.length AU.noPk = p := by
  simp [List.getD_eq_getElem?_getD]
theorem GotI.add {L nx : Int} {X : List AU.Pk} (h : GotI L nx X) {p : AU.Pk} {j : Nat} (hp : Is j p) (hj : j < 64) (hf : AU.pf p = 0) (hs : p.s = UM.sq 0 X.length) (hn : L + (j : Int) = nx) : GotI L (nx + 1) (X ++ [p]) := by
  have hh : hd p = j := by unfold hd; rw [hp.2.2.2]; rfl
  refine ⟨fun i hi => ?_, fun i hi => ?_⟩
  · rw [List.length_append, List.length_singleton] at hi
    by_cases hx : i < X.length
    · rw [getD_l hx]
      obtain ⟨a, b, c, d, e⟩ := h.all i hx
      exact ⟨a, b, c, d, by omega⟩
    · obtain rfl : i = X.length := by omega
      rw [getD_r, hh]
      exact ⟨hp, hj, hf, hs, by omega⟩
  · rw [List.length_append, List.length_singleton] at hi
    by_cases hx : i + 1 < X.length
    · rw [getD_l hx, getD_l (by omega)]
      exact h.inc i hx
    · obtain e : i + 1 = X.length := by omega
      rw [getD_l (by omega), e, getD_r, hh]
      have := (h.all i (by omega)).2.2.2.2
      omega
theorem GotI.far {L nx : Int} {X : List AU.Pk} (h : GotI L nx X) : ∀ i, i < X.length → i ≤ hd (X.getD i AU.noPk)
  | 0, _ => Nat.zero_le _
  | i + 1, hi => by have := h.far i (by omega); have := h.inc i hi; omega
theorem GotI.len {L nx : Int} {X : List AU.Pk} (h : GotI L nx X) : X.length ≤ 64 := by
  rcases Nat.eq_zero_or_pos X.length with hz | hz
  · omega
  · have := h.far (X.length - 1) (by omega)
    have := (h.all (X.length - 1) (by omega)).2.1
    omega
structure SentI (L : Int) (Y : List AU.Pk) : Prop where
  all : ∀ j, j < Y.length → Is j (Y.getD j AU.noPk) ∧ (Y.getD j AU.noPk).s = (L + (j : Int)) % 65536 ∧ (Y.getD j AU.noPk).t = 0 ∧ (Y.getD j AU.noPk).m = 1
theorem sent_start {L : Int} : SentI L [] := ⟨fun i h => absurd h (by simp)⟩
theorem SentI.add {L : Int} {Y : List AU.Pk} (h : SentI L Y) {p : AU.Pk} (hp : Is Y.length p) (hs : p.s = (L + (Y.length : Int)) % 65536) (ht : p.t = 0) (hm : p.m = 1) : SentI L (Y ++ [p]) := by
  refine ⟨fun i hi => ?_⟩
  rw [List.length_append, List.length_singleton] at hi
  by_cases hx : i < Y.length
  · rw [getD_l hx]; exact h.all i hx
  · obtain rfl : i = Y.length := by omega
    rw [getD_r]
    exact ⟨hp, hs, ht, hm⟩
theorem like_is {j : Nat} {p q : AU.Pk} (hp : Is j p) (hq : Is j q) : AU.like p q = true :=
  AU.like_iff.2 ⟨hp.1.trans hq.1.symm, hp.2.1.trans hq.2.1.symm, hp.2.2.1.trans hq.2.2.1.symm, hp.2.2.2.trans hq.2.2.2.symm⟩
theorem is_like {j : Nat} {p q : AU.Pk} (hq : Is j q) (h : AU.like p q = true) : Is j p := by
  obtain ⟨a, b, c, d⟩ := AU.like_iff.1 h
  exact ⟨a.trans hq.1, b.trans hq.2.1, c.trans hq.2.2.1, d.trans hq.2.2.2⟩
theorem GotI.stop {L nx : Int} {X Y : List AU.Pk} (h : GotI L nx X) (hY : SentI L Y) (hl : Y.length = 64) : AU.Stop Y X X.length := by
  refine AU.stop_of (c := fun i => hd (X.getD i AU.noPk)) (fun i hi => ?_) (fun i hi => h.inc i hi)
  obtain ⟨a, b, _⟩ := h.all i hi
  exact ⟨by rw [hl]; exact b, like_is a (hY.all _ (by rw [hl]; exact b)).1⟩
theorem GotI.row {L nx : Int} {X : List AU.Pk} (h : GotI L nx X) : AU.RStop X X.length := by
  refine AU.rstop_all fun i hi => ?_
  obtain ⟨_, _, h2, h3, _⟩ := h.all i hi
  unfold AU.rfa
  rw [if_neg (by omega)]
  refine if_neg ?_
  rintro ⟨h0, hne⟩
  obtain ⟨_, _, _, h4, _⟩ := h.all (i - 1) (by omega)
  apply hne
  rw [h3, h4]
  have := UM.sq_next 0 (i - 1)
  rw [show i - 1 + 1 = i by omega] at this
  exact this
end Go.Proofs.YtpiamlgmadnepaaGreat.TR

