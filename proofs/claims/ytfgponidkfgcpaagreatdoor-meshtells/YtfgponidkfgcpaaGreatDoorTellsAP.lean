/-
  How many kids a root has, counted by the edges. No walk.
-/
import Derived.Test.YtfgponidkfgcpaaGreatDoorMeshMath
namespace Go.Proofs.YtfgponidkfgcpaaGreatDoor.MS
open Go.ChangeShapes Go.WideShapes Go.ChangeAt Go.RowKit Go.Maps Go.Proofs.YtfgponidkfgcpaaGreatDoor.Mem Go.Proofs.YtfgponidkfgcpaaGreatDoor.NO Go.Proofs.YtfgponidkfgcpaaGreatDoor.ND
set_option linter.unusedVariables false
def oth (r : Int) (e : TM.Ed) : Int := e.a + e.b - r
def ofKid (P : List Int) (r : Int) (e : TM.Ed) : Bool := decide ((e.a = r ∨ e.b = r) ∧ TM.dg P (oth r e).toNat = r)
def nkid (P : List Int) (r : Int) (L : List TM.Ed) : Nat := (L.filter (ofKid P r)).length
theorem nkid_step (P : List Int) (r : Int) {L : List TM.Ed} {j : Nat} (h : j < L.length) : nkid P r (L.take (j + 1)) = nkid P r (L.take j) + (if ofKid P r (L.getD j TM.zz) = true then 1 else 0) := by
  rw [TM.take_succ h]
  unfold nkid
  rw [List.filter_append, List.length_append]
  by_cases c : ofKid P r (L.getD j TM.zz) = true
  · rw [if_pos c, List.filter_cons, if_pos c]; rfl
  · rw [if_neg c, List.filter_cons, if_neg c]; rfl
theorem nkid_le (P : List Int) (r : Int) (L : List TM.Ed) (j : Nat) : nkid P r (L.take j) ≤ j := by
  unfold nkid
  have := List.length_filter_le (ofKid P r) (L.take j)
  have := List.length_take_le j L
  omega
theorem nkid_kids {n r : Nat} {E : List TM.Ed} {p d : List Int} (hT : Trees n r E p d) : nkid p (r : Int) E = (TM.kd p (r : Int) n).length := by
  have hlen : nkid p (r : Int) E = ((E.filter (ofKid p (r : Int))).map (oth (r : Int))).length := by rw [List.length_map]; rfl
  rw [hlen]
  refine List.Perm.length_eq ((List.perm_ext_iff_of_nodup ?_ (kd_nodup p (r : Int) n)).2 ?_)
  · rw [List.nodup_iff_pairwise_ne, List.pairwise_map]
    have h1 : (E.filter (ofKid p (r : Int))).Pairwise fun e f => TM.two e f = false := List.Pairwise.filter _ hT.fit.uq
    refine List.Pairwise.imp_of_mem ?_ h1
    intro e f he hf h2 h3
    rw [List.mem_filter] at he hf
    have a1 := (of_decide_eq_true he.2).1
    have a2 := (of_decide_eq_true hf.2).1
    have : TM.two e f = true := by
      rw [TM.two_iff]
      unfold oth at h3
      omega
    rw [this] at h2
    cases h2
  · intro x
    rw [List.mem_map]
    constructor
    · rintro ⟨e, he, rfl⟩
      rw [List.mem_filter] at he
      obtain ⟨hm, hk⟩ := he
      obtain ⟨k1, k2⟩ := of_decide_eq_true hk
      have ho := TM.okE_iff.1 (hT.fit.ok e hm)
      have hx : 0 ≤ oth (r : Int) e ∧ oth (r : Int) e < n := by unfold oth; omega
      unfold TM.kd
      rw [List.mem_map]
      refine ⟨(oth (r : Int) e).toNat, ?_, ?_⟩
      · rw [List.mem_filter, List.mem_range]
        exact ⟨by omega, decide_eq_true k2⟩
      · show ((oth (r : Int) e).toNat : Int) = _
        omega
    · intro hx
      obtain ⟨i, rfl, hi, hp⟩ := kd_is hx
      obtain ⟨k, e1, hk, hc, _⟩ := hT.pars.par hi (by rw [hp]; omega)
      rw [hp] at e1
      have e2 : k = r := by omega
      subst e2
      rcases TM.cst_cases E (k : Int) (i : Int) with ⟨h0, _⟩ | ⟨e, he, hj, _⟩
      · omega
      · have hj' := TM.jn_iff.1 hj
        refine ⟨e, ?_, by unfold oth; omega⟩
        rw [List.mem_filter]
        refine ⟨he, decide_eq_true ⟨by omega, ?_⟩⟩
        have : (oth (k : Int) e).toNat = i := by unfold oth; omega
        rw [this]
        exact hp
end Go.Proofs.YtfgponidkfgcpaaGreatDoor.MS
