/-
  Who wants what of which track: as a list, and as what a map reads as. Of numbers and lists alone; no program.
-/
import Derived.Test.YtpiamlgmadnepaaGreatMem
import Derived.Maps.RangeWalk
import Derived.Lib.SlKeysI
import Derived.WalkKit
namespace Go.Proofs.YtpiamlgmadnepaaGreat.PU
open Go Go.RowKit Go.Maps Go.Proofs.YtpiamlgmadnepaaGreat.Mem
set_option linter.unusedVariables false

/-- who wants a track up to a layer: who, track, layer -/
structure Wt where
  a : Int
  b : Int
  c : Int
abbrev Wts := List Wt
def zz : Wt := ⟨0, 0, 0⟩
/-- no one wants a track twice -/
def Uq (L : Wts) : Prop := L.Pairwise fun x y => ¬ (x.a = y.a ∧ x.b = y.b)
def Ok (x : Wt) : Prop := 0 ≤ x.a ∧ x.a ≤ 200 ∧ 1 ≤ x.b ∧ x.b ≤ 8 ∧ 0 ≤ x.c ∧ x.c ≤ 3
structure Inv (L : Wts) : Prop where
  mem : ∀ x ∈ L, Ok x
  uq : Uq L
theorem inv_nil : Inv [] := ⟨by simp, List.Pairwise.nil⟩
theorem uq_eq {L : Wts} (h : Uq L) {x y : Wt} (hx : x ∈ L) (hy : y ∈ L) (e : x.a = y.a ∧ x.b = y.b) : x = y := by
  induction L with
  | nil => simp at hx
  | cons z L ih =>
    obtain ⟨p1, p2⟩ := List.pairwise_cons.1 h
    rcases List.mem_cons.1 hx with ex | hx1
    · rcases List.mem_cons.1 hy with ey | hy1
      · rw [ex, ey]
      · exact absurd (by rw [← ex]; exact e) (p1 y hy1)
    · rcases List.mem_cons.1 hy with ey | hy1
      · exact absurd (by rw [← ey]; exact ⟨e.1.symm, e.2.symm⟩) (p1 x hx1)
      · exact ih p2 hx1 hy1

/-- those of a track; who they are; what is needed of it -/
def of (L : Wts) (t : Int) : Wts := L.filter fun x => decide (x.b = t)
theorem mem_of {L : Wts} {t : Int} {x : Wt} : x ∈ of L t ↔ x ∈ L ∧ x.b = t := by simp [of]
def whos (L : Wts) (t : Int) : List Int := (of L t).map Wt.a
theorem whos_len (L : Wts) (t : Int) : (whos L t).length = (of L t).length := by simp [whos]
theorem of_len (L : Wts) (t : Int) : (of L t).length ≤ L.length := List.length_filter_le _ _
theorem mem_whos {L : Wts} {t z : Int} : z ∈ whos L t ↔ ∃ x ∈ L, x.b = t ∧ x.a = z := by
  simp only [whos, List.mem_map, mem_of]
  constructor
  · rintro ⟨x, ⟨h1, h2⟩, h3⟩; exact ⟨x, h1, h2, h3⟩
  · rintro ⟨x, h1, h2, h3⟩; exact ⟨x, ⟨h1, h2⟩, h3⟩
theorem whos_nodup {L : Wts} (h : Uq L) (t : Int) : (whos L t).Nodup := by
  rw [List.nodup_iff_pairwise_ne, whos, List.pairwise_map]
  have hf : (of L t).Pairwise fun x y => ¬ (x.a = y.a ∧ x.b = y.b) := h.filter _
  exact hf.imp_of_mem fun {x y} hx hy q e => q ⟨e, by rw [(mem_of.1 hx).2, (mem_of.1 hy).2]⟩
def need (L : Wts) (t : Int) : Int := (of L t).foldl (fun m x => max m x.c) (-1)
theorem fold_max (l : Wts) (m : Int) : m ≤ l.foldl (fun m x => max m x.c) m ∧ (∀ x ∈ l, x.c ≤ l.foldl (fun m x => max m x.c) m) ∧ (l.foldl (fun m x => max m x.c) m = m ∨ ∃ x ∈ l, x.c = l.foldl (fun m x => max m x.c) m) := by
  induction l generalizing m with
  | nil => exact ⟨Int.le_refl _, by simp, .inl rfl⟩
  | cons y l ih =>
    obtain ⟨h1, h2, h3⟩ := ih (max m y.c)
    simp only [List.foldl_cons]
    refine ⟨by omega, ?_, ?_⟩
    · intro x hx
      rcases List.mem_cons.1 hx with rfl | hx
      · omega
      · exact h2 x hx
    · rcases h3 with h3 | ⟨x, hx, h3⟩
      · rw [h3]
        rcases Int.le_total m y.c with q | q
        · exact .inr ⟨y, by simp, by omega⟩
        · exact .inl (by omega)
      · exact .inr ⟨x, by simp [hx], h3⟩
theorem need_spec (L : Wts) (t : Int) : -1 ≤ need L t ∧ (∀ x ∈ L, x.b = t → x.c ≤ need L t) ∧ (need L t = -1 ∨ ∃ x ∈ L, x.b = t ∧ x.c = need L t) := by
  obtain ⟨h1, h2, h3⟩ := fold_max (of L t) (-1)
  refine ⟨h1, fun x hx e => h2 x (mem_of.2 ⟨hx, e⟩), ?_⟩
  rcases h3 with h3 | ⟨x, hx, h3⟩
  · exact .inl h3
  · exact .inr ⟨x, (mem_of.1 hx).1, (mem_of.1 hx).2, h3⟩
theorem need_eq {L : Wts} {t m : Int} (h1 : -1 ≤ m) (h2 : ∀ x ∈ L, x.b = t → x.c ≤ m) (h3 : m = -1 ∨ ∃ x ∈ L, x.b = t ∧ x.c = m) : m = need L t := by
  obtain ⟨k1, k2, k3⟩ := need_spec L t
  have p : m ≤ need L t := by
    rcases h3 with h3 | ⟨x, hx, e, h3⟩
    · omega
    · have := k2 x hx e; omega
  have q : need L t ≤ m := by
    rcases k3 with k3 | ⟨x, hx, e, k3⟩
    · omega
    · have := h2 x hx e; omega
  omega
theorem need_mem {L K : Wts} {t : Int} (h : ∀ y, y.b = t → (y ∈ L ↔ y ∈ K)) : need L t = need K t := by
  obtain ⟨k1, k2, k3⟩ := need_spec L t
  refine need_eq k1 (fun x hx e => k2 x ((h x e).2 hx) e) ?_
  rcases k3 with k3 | ⟨x, hx, e, k3⟩
  · exact .inl k3
  · exact .inr ⟨x, (h x e).1 hx, e, k3⟩
theorem need_top {L : Wts} (h : Inv L) (t : Int) : need L t ≤ 3 := by
  obtain ⟨k1, k2, k3⟩ := need_spec L t
  rcases k3 with k3 | ⟨x, hx, e, k3⟩
  · omega
  · have := h.mem x hx; unfold Ok at this; omega
theorem need_none {L : Wts} (h : Inv L) {t : Int} : need L t < 0 ↔ of L t = [] := by
  obtain ⟨k1, k2, k3⟩ := need_spec L t
  constructor
  · intro hn
    rw [List.eq_nil_iff_forall_not_mem]
    intro x hx
    have h1 := mem_of.1 hx
    have h2 := k2 x h1.1 h1.2
    have h3 := h.mem x h1.1
    unfold Ok at h3
    omega
  · intro hn
    rcases k3 with k3 | ⟨x, hx, e, k3⟩
    · omega
    · have := mem_of.2 ⟨hx, e⟩
      rw [hn] at this
      simp at this
theorem need_nil (t : Int) : need [] t = -1 := rfl
theorem need_out {L : Wts} (h : Inv L) {t : Int} (ht : t < 1 ∨ 8 < t) : need L t = -1 := by
  obtain ⟨k1, k2, k3⟩ := need_spec L t
  rcases k3 with k3 | ⟨x, hx, e, k3⟩
  · exact k3
  · have := h.mem x hx; unfold Ok at this; omega
theorem of_out {L : Wts} (h : Inv L) {t : Int} (ht : t < 1 ∨ 8 < t) : of L t = [] := (need_none h).1 (by rw [need_out h ht]; omega)

/-- one that wants, or drops -/
def hit (a b : Int) (y : Wt) : Bool := decide (y.a = a) && decide (y.b = b)
theorem hit_iff {a b : Int} {y : Wt} : hit a b y = true ↔ y.a = a ∧ y.b = b := by simp [hit]
def has (L : Wts) (a b : Int) : Bool := L.any (hit a b)
theorem has_iff {L : Wts} {a b : Int} : has L a b = true ↔ ∃ y ∈ L, y.a = a ∧ y.b = b := by
  simp [has, hit]
def del (L : Wts) (a b : Int) : Wts := L.filter fun y => !hit a b y
def put (L : Wts) (x : Wt) : Wts := del L x.a x.b ++ [x]
theorem mem_del {L : Wts} {a b : Int} {y : Wt} : y ∈ del L a b ↔ y ∈ L ∧ ¬ (y.a = a ∧ y.b = b) := by
  unfold del
  rw [List.mem_filter, ← hit_iff]
  simp
theorem mem_put {L : Wts} {x y : Wt} : y ∈ put L x ↔ (y ∈ L ∧ ¬ (y.a = x.a ∧ y.b = x.b)) ∨ y = x := by
  simp [put, mem_del]
theorem inv_del {L : Wts} (h : Inv L) (a b : Int) : Inv (del L a b) := ⟨fun x hx => h.mem x (mem_del.1 hx).1, h.uq.filter _⟩
theorem inv_put {L : Wts} (h : Inv L) {x : Wt} (hx : Ok x) : Inv (put L x) := by
  refine ⟨fun y hy => ?_, ?_⟩
  · rcases mem_put.1 hy with h1 | rfl
    · exact h.mem y h1.1
    · exact hx
  · unfold Uq put
    rw [List.pairwise_append]
    refine ⟨h.uq.filter _, List.pairwise_singleton _ _, ?_⟩
    intro p hp q hq e
    simp at hq
    subst hq
    exact (mem_del.1 hp).2 e
theorem del_len (L : Wts) (a b : Int) : (del L a b).length ≤ L.length := List.length_filter_le _ _
theorem put_len (L : Wts) (x : Wt) : (put L x).length ≤ L.length + 1 := by
  have := del_len L x.a x.b
  simp [put]; omega
/-- faults -/
def wf (a b c : Int) : Nat := if 0 ≤ a ∧ a ≤ 200 ∧ 1 ≤ b ∧ b ≤ 8 ∧ 0 ≤ c ∧ c ≤ 3 then 0 else 1
theorem wf_zero {a b c : Int} : wf a b c = 0 ↔ Ok ⟨a, b, c⟩ := by
  unfold wf Ok
  split
  · exact ⟨fun _ => by assumption, fun _ => rfl⟩
  · exact ⟨fun h => by omega, fun h => absurd h (by assumption)⟩
theorem wf_le (a b c : Int) : wf a b c ≤ 1 := by unfold wf; split <;> omega
def df (L : Wts) (a b : Int) : Nat := if 0 ≤ a ∧ a ≤ 200 ∧ 1 ≤ b ∧ b ≤ 8 then (if has L a b = true then 0 else 5) else 1
theorem df_le (L : Wts) (a b : Int) : df L a b ≤ 5 := by unfold df; split; split <;> omega; omega
def tf (nw now : Int) : Nat := if now < 0 ∨ 1000000 < now then 1 else if now < nw then 6 else 0
theorem tf_zero {nw now : Int} (h : tf nw now = 0) : 0 ≤ now ∧ now ≤ 1000000 ∧ nw ≤ now := by
  unfold tf at h
  split at h
  · omega
  · split at h <;> omega
theorem tf_le {nw now : Int} : tf nw now ≤ 6 := by
  unfold tf
  split
  · omega
  · split <;> omega
def af (L : Wts) (nw t now : Int) : Nat := if t < 1 ∨ 8 < t then 1 else if tf nw now ≠ 0 then tf nw now else if need L t < 0 then 5 else 0
theorem af_le {L : Wts} {nw t now : Int} : af L nw t now ≤ 6 := by
  unfold af
  have := @tf_le nw now
  split
  · omega
  · split
    · exact this
    · split <;> omega
theorem af_zero {L : Wts} {nw t now : Int} (h : af L nw t now = 0) : 1 ≤ t ∧ t ≤ 8 ∧ tf nw now = 0 ∧ 0 ≤ need L t := by
  unfold af at h
  split at h
  · omega
  · split at h
    · omega
    · split at h
      · omega
      · omega
/-- since when, as it is kept; whether a start is let through -/
def lst (th a : Int) : Int := if a < 0 then -th else a
def thru (th a now : Int) : Bool := decide (a < 0) || decide (th ≤ now - a)
theorem thru_iff {th a now : Int} (h : 0 ≤ now) : (decide (now - lst th a < th)) = !thru th a now := by
  unfold lst thru
  by_cases c : a < 0
  · rw [if_pos c, decide_eq_true c]
    simp; omega
  · rw [if_neg c, decide_eq_false c]
    simp only [Bool.false_or]
    rw [← decide_not]
    congr 1
    rw [eq_iff_iff]; omega
/-- one of a row of eight set -/
def upd {α : Type} (f : Nat → α) (i : Nat) (x : α) : Nat → α := fun j => if j = i then x else f j
/-- what has changed of the first k tracks -/
def chg (L : Wts) (td : Nat → Int) (k : Nat) : Wts := ((List.range k).filter fun (i : Nat) => !decide (need L ((i : Int) + 1) = td i)).map fun (i : Nat) => ⟨0, (i : Int) + 1, need L ((i : Int) + 1)⟩
theorem chg_zero (L : Wts) (td : Nat → Int) : chg L td 0 = [] := rfl
theorem chg_same {L : Wts} {td : Nat → Int} {k : Nat} (h : need L ((k : Int) + 1) = td k) : chg L td (k + 1) = chg L td k := by
  simp [chg, List.range_succ, h]
theorem chg_more {L : Wts} {td : Nat → Int} {k : Nat} (h : need L ((k : Int) + 1) ≠ td k) : chg L td (k + 1) = chg L td k ++ [⟨0, (k : Int) + 1, need L ((k : Int) + 1)⟩] := by
  simp [chg, List.range_succ, h]
theorem chg_len (L : Wts) (td : Nat → Int) (k : Nat) : (chg L td k).length ≤ k := by
  have := List.length_filter_le (fun (i : Nat) => !decide (need L ((i : Int) + 1) = td i)) (List.range k)
  simp only [List.length_range] at this
  simp only [chg, List.length_map]
  exact this
def tdN (L : Wts) (td : Nat → Int) (k : Nat) : Nat → Int := fun i => if i < k then need L ((i : Int) + 1) else td i

/-! one call of Ask: what comes of what there was -/
def ix (t : Int) : Nat := (t - 1).toNat
def aB (L : Wts) (th nw : Int) (ak : Nat → Int) (t now : Int) : Bool := decide (af L nw t now = 0) && thru th (ak (ix t)) now
def aN (L : Wts) (nw t now : Int) : Int := if af L nw t now = 0 then now else nw
def aK (L : Wts) (th nw : Int) (ak : Nat → Int) (t now : Int) : Nat → Int := if aB L th nw ak t now = true then upd ak (ix t) now else ak
structure AInv (th nw : Int) (ak : Nat → Int) : Prop where
  t1 : 1 ≤ th
  t2 : th ≤ 1000000
  n1 : 0 ≤ nw
  n2 : nw ≤ 1000000
  a1 : ∀ i, -1 ≤ ak i ∧ ak i ≤ nw
theorem ainv_start {th : Int} (h1 : 1 ≤ th) (h2 : th ≤ 1000000) : AInv th 0 (fun _ => -1) := ⟨h1, h2, by omega, by omega, fun _ => by constructor <;> omega⟩
theorem ainv_ask {L : Wts} {th nw t now : Int} {ak : Nat → Int} (h : AInv th nw ak) : AInv th (aN L nw t now) (aK L th nw ak t now) := by
  unfold aN aK aB
  by_cases e : af L nw t now = 0
  · obtain ⟨k1, k2, k3, k4⟩ := af_zero e
    obtain ⟨j1, j2, j3⟩ := tf_zero k3
    rw [if_pos e]
    refine ⟨h.t1, h.t2, j1, j2, fun i => ?_⟩
    have := h.a1 i
    split
    · unfold upd
      split <;> omega
    · omega
  · rw [if_neg e, decide_eq_false e, Bool.false_and, if_neg (by simp)]
    exact h

/-! what a map reads as -/
def key (y : Int) : Lit := .int .i64 y
theorem key_inj {x y : Int} (h : key x = key y) : x = y := by
  unfold key at h
  injection h
theorem keyLit (y : Int) : WideAt.IsKeyLit (key y) := trivial
/-- how an element reads: as itself -/
def inR : Value → Option (DataW Value × List MemPlace)
  | .int .i64 x => some (.held (.int .i64 x), [])
  | _ => none
theorem inR_mk (x : Int) : inR (.int .i64 x) = some (.held (.int .i64 x), []) := rfl
theorem inR_inv {v : Value} {y : DataW Value × List MemPlace} (h : inR v = some y) : (∃ x, v = .int .i64 x) ∧ y = (.held v, []) := by
  unfold inR at h
  split at h
  · rename_i x
    exact ⟨⟨x, rfl⟩, (Option.some.inj h).symm⟩
  · cases h
/-- a map holds those of a track -/
structure KM (D : DataW Value) (L : Wts) (t : Int) : Prop where
  keys : ∀ k : Lit, Maps.has D k = true ↔ ∃ x ∈ L, x.b = t ∧ k = key x.a
  els : ∀ x ∈ L, x.b = t → ∀ zd, D.atKey (key x.a) zd = .held (.int .i64 x.c)
theorem KM.nil (t : Int) : KM (.map []) [] t := by
  refine ⟨fun k => ?_, by simp⟩
  constructor
  · intro h; simp [Maps.has] at h
  · rintro ⟨i, hi, _⟩; simp at hi
theorem KM.mem {D : DataW Value} {L K : Wts} {t : Int} (h : KM D L t) (e : ∀ y, y.b = t → (y ∈ L ↔ y ∈ K)) : KM D K t := by
  refine ⟨fun k => ?_, fun x hx hb => h.els x ((e x hb).2 hx) hb⟩
  rw [h.keys k]
  constructor
  · rintro ⟨x, h1, h2, h3⟩; exact ⟨x, (e x h2).1 h1, h2, h3⟩
  · rintro ⟨x, h1, h2, h3⟩; exact ⟨x, (e x h2).2 h1, h2, h3⟩
theorem KM.at {D : DataW Value} {L : Wts} {t : Int} (h : KM D L t) (y : Int) : Maps.has D (key y) = has L y t := by
  rw [Bool.eq_iff_iff, h.keys (key y), has_iff]
  constructor
  · rintro ⟨i, hi, e, q⟩; exact ⟨i, hi, (key_inj q).symm, e⟩
  · rintro ⟨i, hi, e, q⟩; exact ⟨i, hi, q, by rw [e]⟩
theorem KM.put {D : DataW Value} {L K : Wts} {x : Wt} (hD : IsMap D) (h : KM D L x.b) (e : ∀ y, y.b = x.b → (y ∈ K ↔ (y ∈ L ∧ y.a ≠ x.a) ∨ y = x)) : KM (D.put (key x.a) (.held (.int .i64 x.c))) K x.b := by
  refine ⟨fun k => ?_, fun y hy hb zd => ?_⟩
  · by_cases q : k = key x.a
    · subst q
      rw [has_put_same hD (keyLit _)]
      exact ⟨fun _ => ⟨x, (e x rfl).2 (.inr rfl), rfl, rfl⟩, fun _ => rfl⟩
    · rw [has_put_other q, h.keys k]
      constructor
      · rintro ⟨y, h1, h2, rfl⟩; exact ⟨y, (e y h2).2 (.inl ⟨h1, fun z => q (by rw [z])⟩), h2, rfl⟩
      · rintro ⟨y, h1, h2, rfl⟩
        rcases (e y h2).1 h1 with h3 | rfl
        · exact ⟨y, h3.1, h2, rfl⟩
        · exact absurd rfl q
  · rcases (e y hb).1 hy with h3 | rfl
    · rw [atKey_put_other (fun z => h3.2 (key_inj z))]
      exact h.els y h3.1 hb zd
    · exact atKey_put_same hD (keyLit _) _ _
theorem KM.del {D : DataW Value} {L K : Wts} {a t : Int} (h : KM D L t) (e : ∀ y, y.b = t → (y ∈ K ↔ y ∈ L ∧ y.a ≠ a)) : KM (D.del (key a)) K t := by
  refine ⟨fun k => ?_, fun y hy hb zd => ?_⟩
  · by_cases q : k = key a
    · subst q
      rw [has_del_same]
      constructor
      · intro h; cases h
      · rintro ⟨y, h1, h2, h3⟩
        exact absurd (key_inj h3).symm ((e y h2).1 h1).2
    · rw [has_del_other q, h.keys k]
      constructor
      · rintro ⟨y, h1, h2, rfl⟩; exact ⟨y, (e y h2).2 ⟨h1, fun z => q (by rw [z])⟩, h2, rfl⟩
      · rintro ⟨y, h1, h2, rfl⟩; exact ⟨y, ((e y h2).1 h1).1, h2, rfl⟩
  · obtain ⟨h1, h2⟩ := (e y hb).1 hy
    rw [atKey_del_other (fun z => h2 (key_inj z))]
    exact h.els y h1 hb zd
theorem KM.size {D : DataW Value} {L : Wts} {t : Int} (h : KM D L t) (ht : ∃ es, D = .map es ∧ es.Pairwise (fun p q => p.1 ≠ q.1) ∧ ∀ p ∈ es, WideAt.IsKeyLit p.1) (h1 : Uq L) : Maps.size D = (of L t).length := by
  obtain ⟨es, rfl, hp, hl⟩ := ht
  have n1 : (es.map Prod.fst).Nodup := by rw [List.nodup_iff_pairwise_ne, List.pairwise_map]; exact hp
  have n2 : ((whos L t).map key).Nodup := by
    rw [List.nodup_iff_pairwise_ne, List.pairwise_map]
    exact (List.nodup_iff_pairwise_ne.1 (whos_nodup h1 t)).imp fun hab e => hab (key_inj e)
  have s1 : ∀ x ∈ es.map Prod.fst, x ∈ (whos L t).map key := by
    intro x hx
    obtain ⟨e, he, rfl⟩ := List.mem_map.1 hx
    obtain ⟨i, hi, hb, h⟩ := (h.keys e.1).1 (List.any_eq_true.2 ⟨e, he, WideAt.sameKey_self (hl e he)⟩)
    exact List.mem_map.2 ⟨i.a, mem_whos.2 ⟨i, hi, hb, rfl⟩, h.symm⟩
  have s2 : ∀ x ∈ (whos L t).map key, x ∈ es.map Prod.fst := by
    intro x hx
    obtain ⟨z, hz, rfl⟩ := List.mem_map.1 hx
    obtain ⟨i, hi, hb, rfl⟩ := mem_whos.1 hz
    obtain ⟨e, he, hs⟩ := List.any_eq_true.1 ((h.keys (key i.a)).2 ⟨i, hi, hb, rfl⟩)
    exact List.mem_map.2 ⟨e, he, WideAt.sameKey_eq hs⟩
  have l1 := List.Nodup.length_le_of_subset n1 s1
  have l2 := List.Nodup.length_le_of_subset n2 s2
  simp [whos_len] at l1 l2
  simp [Maps.size]
  omega
/-- the keys, as numbers -/
theorem KM.perm {P : Program} {k : TypeId} {R : Value → Option (DataW Value × List MemPlace)} {w : World} {b n : Nat} {D : DataW Value} {L : Wts} {t : Int} (h : KM D L t) (hown : w.ownsMap P k R b n D) (K : Keyed P k) (hk : P.underlying k = some (.int .i64)) (h1 : Uq L) : (whos L t).Perm (intKeys D) := by
  obtain ⟨es, hD, hpw, _⟩ := hown.entries K
  obtain ⟨es', hD', hko⟩ := hown.keysOf
  obtain rfl : es = es' := by rw [hD] at hD'; simpa using hD'
  subst hD
  refine perm_intKeys hpw (fun p hp => by obtain ⟨v, hv⟩ := hko p hp; obtain ⟨x, _, hx, _⟩ := Maps.keyOf_i64 hk hv; exact ⟨x, hx⟩) (whos_nodup h1 t) (fun x => ?_)
  rw [show Lit.int .i64 x = key x from rfl, h.keys (key x), mem_whos]
  constructor
  · rintro ⟨i, hi, hb, rfl⟩; exact ⟨i, hi, hb, rfl⟩
  · rintro ⟨i, hi, hb, e⟩; exact ⟨i, hi, hb, (key_inj e).symm⟩
theorem tight {P : Program} {k : TypeId} {R : Value → Option (DataW Value × List MemPlace)} {w : World} {b n : Nat} {D : DataW Value} (h : w.ownsMap P k R b n D) : w.ownsMap P k R b (Maps.size D) D := by
  obtain ⟨es, clock, hb, F, hs, rfl⟩ := h
  refine ⟨es, clock, hb, F, ?_, rfl⟩
  simp [Maps.size, length_sorted]
theorem map_block {P : Program} {k : TypeId} {R : Value → Option (DataW Value × List MemPlace)} {w : World} {b n : Nat} {D : DataW Value} (h : w.ownsMap P k R b n D) : ∃ es c, w.heap[b]? = some (.map es c) := by
  obtain ⟨es, clock, hb, _⟩ := h
  exact ⟨es, clock, hb⟩
/-- who wants a track, rising -/
def whoS (L : Wts) (t : Int) : List Int := (whos L t).mergeSort fun x y => decide (x ≤ y)
theorem whoS_len (L : Wts) (t : Int) : (whoS L t).length = (of L t).length := by simp [whoS, whos_len]
theorem mem_whoS {L : Wts} {t z : Int} : z ∈ whoS L t ↔ ∃ x ∈ L, x.b = t ∧ x.a = z := by
  unfold whoS
  rw [(List.mergeSort_perm _ _).mem_iff, mem_whos]
end Go.Proofs.YtpiamlgmadnepaaGreat.PU

