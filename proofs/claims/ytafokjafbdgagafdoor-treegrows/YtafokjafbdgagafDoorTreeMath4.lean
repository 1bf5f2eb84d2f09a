/-
  Least ways by making them shorter as long as they can be; the least of parents, edge by edge. Numbers and lists alone; no program.
-/
import Derived.Test.YtafokjafbdgagafDoorTreeMath3
set_option linter.unusedVariables false
namespace Go.Proofs.YtafokjafbdgagafDoor.TM

/-- ways that there are, none of them beyond B -/
structure BInv (L : List Ed) (n root : Nat) (d : List Int) (B : Int) : Prop where
  len : d.length = n
  rt : dg d root = 0
  ach : ∀ x, x < n → dg d x = -1 ∨ Way L n root x (dg d x)
  bd : ∀ x, x < n → dg d x ≤ B
theorem BInv.low {L : List Ed} {n root : Nat} {d : List Int} {B : Int} (h : BInv L n root d B) {x : Nat} (hx : x < n) : dg d x = -1 ∨ 0 ≤ dg d x := by
  rcases h.ach x hx with q | q
  · exact .inl q
  · exact .inr q.nonneg
theorem binv_start (L : List Ed) {n root : Nat} (hr : root < n) : BInv L n root ((List.replicate n (-1)).set root 0) 0 := by
  have e : ∀ x, dg ((List.replicate n (-1)).set root 0) x = if x = root then 0 else -1 := fun x => by
    rw [dg_set (by simpa using hr), dg_rep]
  refine ⟨by simp, by rw [e, if_pos rfl], fun x hx => ?_, fun x _ => ?_⟩
  · rw [e]
    by_cases q : x = root
    · subst q; rw [if_pos rfl]; exact .inr (Way.here _ _ _)
    · rw [if_neg q]; exact .inl rfl
  · rw [e]; split <;> omega
/-- y by way of x -/
def rx (d : List Int) (x y : Nat) (c : Int) : List Int := if 0 ≤ dg d x ∧ (dg d y < 0 ∨ dg d x + c < dg d y) then d.set y (dg d x + c) else d
structure Rx (L : List Ed) (n root : Nat) (d e : List Int) (x y : Nat) (c B : Int) : Prop where
  inv : BInv L n root e (B + 1000000)
  le : ∀ z, z < n → 0 ≤ dg d z → 0 ≤ dg e z ∧ dg e z ≤ dg d z
  rel : 0 ≤ dg d x → 0 ≤ dg e y ∧ dg e y ≤ dg d x + c
theorem rx_is {L : List Ed} {n root x y : Nat} {d : List Int} {c B : Int} (hF : ∀ e ∈ L, okE n e = true) (h : BInv L n root d B) (hx : x < n) (hy : y < n) (hr : root < n) (hB : 0 ≤ B) (hc : cst L x y = c) (h0 : 0 < c) : Rx L n root d (rx d x y c) x y c B := by
  have hl := h.len
  have hcr := cst_range hF (x : Int) (y : Int)
  rw [hc] at hcr
  have bx := h.bd x hx
  unfold rx
  split
  · rename_i q
    obtain ⟨q1, q2⟩ := q
    have e : ∀ z, dg (d.set y (dg d x + c)) z = if z = y then dg d x + c else dg d z := fun z => dg_set (by omega) _ z
    refine ⟨⟨by simp [hl], ?_, fun z hz => ?_, fun z hz => ?_⟩, fun z hz h1 => ?_, fun _ => ?_⟩
    · rw [e]
      by_cases k : root = y
      · subst k; rw [h.rt] at q2; omega
      · rw [if_neg k]; exact h.rt
    · rw [e]
      by_cases k : z = y
      · subst k
        rw [if_pos rfl]
        right
        rcases h.ach x hx with w | w
        · omega
        · have := w.step hx (y := z) (by rw [hc]; exact h0)
          rwa [hc] at this
      · rw [if_neg k]; exact h.ach z hz
    · rw [e]
      have := h.bd z hz
      split <;> omega
    · rw [e]
      by_cases k : z = y
      · subst k; rw [if_pos rfl]; omega
      · rw [if_neg k]; omega
    · rw [e, if_pos rfl]; omega
  · rename_i q
    refine ⟨⟨hl, h.rt, h.ach, fun z hz => by have := h.bd z hz; omega⟩, fun z hz h1 => by omega, fun h1 => ?_⟩
    rcases h.low hy with k | k <;> omega
/-- is it as near as can be -/
def nr (D d : List Int) (z : Nat) : Bool := decide (dg d z = dg D z)
theorem nr_keep {L : List Ed} {n root x y z : Nat} {D d e : List Int} {c B : Int} (hD : IsDist L n root D) (h : Rx L n root d e x y c B) (hz : z < n) (hs : nr D d z = true) : nr D e z = true := by
  simp only [nr, decide_eq_true_eq] at hs ⊢
  rcases hD.is z hz with ⟨k1, k2⟩ | ⟨k1, k2⟩
  · rcases h.inv.ach z hz with q | q
    · rw [q, k1]
    · exact absurd q (k2 _)
  · have h0 := k1.nonneg
    obtain ⟨a1, a2⟩ := h.le z hz (by omega)
    rcases h.inv.ach z hz with q | q
    · omega
    · have := k2 _ q; omega
theorem nr_win {L : List Ed} {n root x y : Nat} {D d e : List Int} {c B : Int} (hD : IsDist L n root D) (h : Rx L n root d e x y c B) (hy : y < n) (hs : nr D d x = true) (h0 : 0 ≤ dg D x) (hc : dg D y = dg D x + c) : nr D e y = true := by
  simp only [nr, decide_eq_true_eq] at hs ⊢
  obtain ⟨a1, a2⟩ := h.rel (by omega)
  rcases h.inv.ach y hy with q | q
  · omega
  · have := (hD.le hy q).2; omega
/-- behind the first j edges of a round -/
structure RInv (L : List Ed) (n root : Nat) (D d0 d : List Int) (j : Nat) (B : Int) : Prop where
  inv : BInv L n root d B
  keep : ∀ z, z < n → nr D d0 z = true → nr D d z = true
  won : ∀ e ∈ L.take j, ∀ x y : Nat, x < n → y < n → jn e x y = true → nr D d0 x = true → 0 ≤ dg D x → dg D y = dg D x + e.c → nr D d y = true
theorem rinv_start {L : List Ed} {n root : Nat} {D d : List Int} {B : Int} (h : BInv L n root d B) : RInv L n root D d d 0 B := ⟨h, fun _ _ q => q, fun e he => by simp at he⟩
theorem rinv_step {L : List Ed} {n root j p q : Nat} {D d0 d : List Int} {c B : Int} (hF : Fit n L) (hD : IsDist L n root D) (hr : root < n) (hB : 0 ≤ B) (h : RInv L n root D d0 d j B) (hj : j < L.length) (he : L.getD j zz = ⟨p, q, c⟩) (hp : p < n) (hq : q < n) :
    RInv L n root D d0 (rx (rx d p q c) q p c) (j + 1) (B + 2000000) := by
  have hm := getD_mem hj
  rw [he] at hm
  have hok := okE_iff.1 (hF.ok _ hm)
  have c1 : cst L p q = c := cst_mem hF hm (jn_iff.2 (.inl ⟨rfl, rfl⟩))
  have c2 : cst L q p = c := by rw [cst_comm]; exact c1
  have h1 := rx_is hF.ok h.inv hp hq hr hB c1 (by have := hok.2.2.2.2.2.1; simp only at this; omega)
  have h2 := rx_is hF.ok h1.inv hq hp hr (by omega) c2 (by have := hok.2.2.2.2.2.1; simp only at this; omega)
  have k1 : ∀ z, z < n → nr D d z = true → nr D (rx (rx d p q c) q p c) z = true := fun z hz hs => nr_keep hD h2 hz (nr_keep hD h1 hz hs)
  refine ⟨⟨h2.inv.len, h2.inv.rt, h2.inv.ach, fun z hz => by have := h2.inv.bd z hz; omega⟩, fun z hz hs => k1 z hz (h.keep z hz hs), ?_⟩
  intro e hme x y hx hy hjn hs h0 hcd
  rw [take_succ hj, he] at hme
  rcases List.mem_append.1 hme with hme | hme
  · exact k1 y hy (h.won e hme x y hx hy hjn hs h0 hcd)
  · simp at hme
    subst hme
    have hs1 := h.keep x hx hs
    rcases jn_iff.1 hjn with ⟨a1, a2⟩ | ⟨a1, a2⟩
    · obtain rfl : p = x := by simp only at a1; omega
      obtain rfl : q = y := by simp only at a2; omega
      exact nr_keep hD h2 hy (nr_win hD h1 hy hs1 h0 hcd)
    · obtain rfl : q = x := by simp only at a1; omega
      obtain rfl : p = y := by simp only at a2; omega
      exact nr_win hD h2 hy (nr_keep hD h1 hx hs1) h0 hcd
theorem cn_all {S : Nat → Bool} {n : Nat} (h : ∀ x, x < n → S x = true) : cn S n = n := by
  induction n with
  | zero => rfl
  | succ n ih => rw [cn, ih fun x hx => h x (by omega), if_pos (h n (by omega))]
/-- a round brings one more, if one is lacking -/
theorem round_more {L : List Ed} {n root r : Nat} {D d0 d : List Int} {B : Int} (hD : IsDist L n root D) (hr : root < n) (h0 : dg d0 root = 0) (h : RInv L n root D d0 d L.length B) (hc : r ≤ cn (nr D d0) n) (hrn : r < n) : r + 1 ≤ cn (nr D d) n := by
  by_cases q : ∀ x, x < n → nr D d0 x = true
  · rw [cn_all fun x hx => h.keep x hx (q x hx)]; omega
  · obtain ⟨x0, hx0⟩ : ∃ x, ¬ (x < n → nr D d0 x = true) := by
      by_cases k : ∃ x, ¬ (x < n → nr D d0 x = true)
      · exact k
      · exact absurd (fun x => by
          by_cases m : (x < n → nr D d0 x = true)
          · exact m
          · exact absurd ⟨x, m⟩ k) q
    have hx1 : x0 < n := by
      by_cases k : x0 < n
      · exact k
      · exact absurd (fun m => absurd m k) hx0
    have hx2 : nr D d0 x0 = false := by
      cases k : nr D d0 x0 with
      | false => rfl
      | true => exact absurd (fun _ => k) hx0
    have far : ∀ y, y < n → nr D d0 y = false → dg D y ≠ -1 → 0 ≤ dg D y := fun y hy _ hne => by have := hD.low y; omega
    by_cases un : ∀ y, y < n → nr D d0 y = false → dg D y = -1
    · refine Nat.lt_of_le_of_lt hc (cn_more h.keep hx1 hx2 ?_)
      have e := un x0 hx1 hx2
      simp only [nr, decide_eq_true_eq]
      rcases hD.is x0 hx1 with ⟨k1, k2⟩ | ⟨k1, _⟩
      · rcases h.inv.ach x0 hx1 with w | w
        · rw [w, e]
        · exact absurd w (k2 _)
      · have := k1.nonneg; omega
    · obtain ⟨y0, hy0⟩ : ∃ y, ¬ (y < n → nr D d0 y = false → dg D y = -1) := by
        by_cases k : ∃ y, ¬ (y < n → nr D d0 y = false → dg D y = -1)
        · exact k
        · exact absurd (fun y => by
            by_cases m : (y < n → nr D d0 y = false → dg D y = -1)
            · exact m
            · exact absurd ⟨y, m⟩ k) un
      have hex : ∃ s, ∃ y, y < n ∧ nr D d0 y = false ∧ dg D y = s ∧ 0 ≤ s := by
        by_cases m1 : y0 < n
        · by_cases m2 : nr D d0 y0 = false
          · by_cases m3 : dg D y0 = -1
            · exact absurd (fun _ _ => m3) hy0
            · exact ⟨_, y0, m1, m2, rfl, far y0 m1 m2 m3⟩
          · exact absurd (fun _ m => absurd m m2) hy0
        · exact absurd (fun m => absurd m m1) hy0
      obtain ⟨s, ⟨y, hy, hs, hys, hs0⟩, hmin⟩ := least_nat _ (fun s hs => by obtain ⟨_, _, _, _, k⟩ := hs; exact k) hex
      have hyr : y ≠ root := by
        rintro rfl
        simp [nr, h0, hD.root hy] at hs
      obtain ⟨x, hx, hx0', hxc, hxe⟩ := hD.pred hy (by omega) hyr
      have hxs : nr D d0 x = true := by
        cases k : nr D d0 x with
        | true => rfl
        | false => have := hmin _ ⟨x, hx, k, rfl, hx0'⟩; omega
      rcases cst_cases L x y with ⟨k, _⟩ | ⟨e, hme, k1, k2⟩
      · omega
      · refine Nat.lt_of_le_of_lt hc (cn_more h.keep hy hs ?_)
        exact h.won e (by rw [List.take_length]; exact hme) x y hx hy k1 hxs hx0' (by omega)
theorem all_near {L : List Ed} {n root : Nat} {D d : List Int} {B : Int} (hD : IsDist L n root D) (h : BInv L n root d B) (hc : n ≤ cn (nr D d) n) : IsDist L n root d := by
  have e : d = D := dg_ext (by rw [h.len, hD.len]) fun x hx => by
    rw [h.len] at hx
    cases k : nr D d x with
    | true => simpa [nr] using k
    | false => have := cn_lt hx k; omega
  rw [e]; exact hD

/-- does edge e show f as a parent of i -/
def gd (d : List Int) (root i : Nat) (e : Ed) (f : Int) : Prop := jn e i f = true ∧ i ≠ root ∧ 0 ≤ dg d i ∧ 0 ≤ dg d f.toNat ∧ dg d f.toNat + e.c = dg d i
/-- the least one that the first j edges show -/
def Best (L : List Ed) (d : List Int) (root i j : Nat) (b : Int) : Prop := (b = -1 ∧ ∀ e ∈ L.take j, ∀ f, ¬ gd d root i e f) ∨ (0 ≤ b ∧ (∃ e ∈ L.take j, gd d root i e b) ∧ ∀ e ∈ L.take j, ∀ f, gd d root i e f → b ≤ f)
theorem best_start (L : List Ed) (d : List Int) (root i : Nat) : Best L d root i 0 (-1) := .inl ⟨rfl, fun e he => by simp at he⟩
theorem best_skip {L : List Ed} {d : List Int} {root i j : Nat} {b : Int} (hj : j < L.length) (h : Best L d root i j b) (hn : ∀ f, gd d root i (L.getD j zz) f → 0 ≤ b ∧ b ≤ f) : Best L d root i (j + 1) b := by
  have key : ∀ e ∈ L.take (j + 1), e ∈ L.take j ∨ e = L.getD j zz := fun e he => by
    rw [take_succ hj] at he
    rcases List.mem_append.1 he with q | q
    · exact .inl q
    · exact .inr (by simpa using q)
  rcases h with ⟨h1, h2⟩ | ⟨h1, ⟨e0, he0, h2⟩, h3⟩
  · refine .inl ⟨h1, fun e he f hg => ?_⟩
    rcases key e he with q | q
    · exact h2 e q f hg
    · subst q; have := hn f hg; omega
  · refine .inr ⟨h1, ⟨e0, ?_, h2⟩, fun e he f hg => ?_⟩
    · rw [take_succ hj]; exact List.mem_append_left _ he0
    · rcases key e he with q | q
      · exact h3 e q f hg
      · subst q; exact (hn f hg).2
theorem best_take {L : List Ed} {d : List Int} {root i j : Nat} {b o : Int} (hj : j < L.length) (h : Best L d root i j b) (ho : 0 ≤ o) (hg : gd d root i (L.getD j zz) o) (hu : ∀ f, gd d root i (L.getD j zz) f → f = o) (hb : b < 0 ∨ o < b) : Best L d root i (j + 1) o := by
  refine .inr ⟨ho, ⟨L.getD j zz, by rw [take_succ hj]; simp, hg⟩, fun e he f hgf => ?_⟩
  rw [take_succ hj] at he
  rcases List.mem_append.1 he with q | q
  · rcases h with ⟨h1, h2⟩ | ⟨h1, _, h3⟩
    · exact absurd hgf (h2 e q f)
    · have := h3 e q f hgf; omega
  · simp at q
    subst q
    rw [hu f hgf]; omega
theorem best_par {L : List Ed} {n root i : Nat} {d : List Int} {b : Int} (hF : Fit n L) (hD : IsDist L n root d) (hr : root < n) (hi : i < n) (h : Best L d root i L.length b) : IsPar L d n i b := by
  have ab : ∀ e ∈ L, ∀ f, gd d root i e f → ∃ k : Nat, f = (k : Int) ∧ k < n ∧ good L d i k := fun e he f hg => by
    obtain ⟨g1, g2, g3, g4, g5⟩ := hg
    have hok := okE_iff.1 (hF.ok e he)
    have hrange : 0 ≤ f ∧ f < n := by
      rcases jn_iff.1 g1 with ⟨a1, a2⟩ | ⟨a1, a2⟩ <;> omega
    refine ⟨f.toNat, by omega, by omega, ?_⟩
    have ef : ((f.toNat : Nat) : Int) = f := by omega
    have := cst_mem hF he (x := f) (y := i) (by rw [jn_comm]; exact g1)
    unfold good
    rw [ef, this]
    exact ⟨by omega, g5⟩
  have ba : ∀ k, k < n → good L d i k → ∃ e ∈ L, gd d root i e (k : Int) := fun k hk hg => by
    obtain ⟨f1, f2, f3⟩ := good_facts hD hr hi hk hg
    obtain ⟨g1, g2⟩ := hg
    rcases cst_cases L k i with ⟨q, _⟩ | ⟨e, he, q1, q2⟩
    · omega
    · exact ⟨e, he, by rw [jn_comm]; exact q1, f1, f2, by simpa using f3, by rw [Int.toNat_natCast, ← q2]; exact g2⟩
  unfold Best at h
  rw [List.take_length] at h
  rcases h with ⟨h1, h2⟩ | ⟨h1, ⟨e0, he0, h2⟩, h3⟩
  · refine .inl ⟨h1, fun f hf hg => ?_⟩
    obtain ⟨e, he, q⟩ := ba f hf hg
    exact h2 e he _ q
  · obtain ⟨k, e, hk, hg⟩ := ab e0 he0 b h2
    refine .inr ⟨k, e, hk, hg, fun f hf hgf => ?_⟩
    obtain ⟨e1, he1, q⟩ := ba f (by omega) hgf
    have := h3 e1 he1 _ q
    omega
end Go.Proofs.YtafokjafbdgagafDoor.TM
