/-
  Voices as numbers and lists: a round's faults, what becomes of the scores, who is ranked how, who speaks. No memory, no walk.
-/
import Derived.Sort.LotA
import Derived.Lib.Small
namespace Go.Proofs.YtbadpjgiogghdaaGreatDoor.VO
open Go.Sort
set_option linter.unusedVariables false

/-- voices: who, how loud -/
abbrev Vs := List (Int × Int)
/-- less an eighth, rounded up -/
def dec (s : Int) : Int := s - (s + 7) / 8
/-- how loud somebody is in a round -/
def lev : Vs → Int → Int
  | [], _ => 0
  | p :: l, x => (if p.1 = x then p.2 else 0) + lev l x
theorem lev_app : ∀ (l k : Vs) (x : Int), lev (l ++ k) x = lev l x + lev k x
  | [], k, x => by simp [lev]
  | p :: l, k, x => by
    show (if p.1 = x then p.2 else 0) + lev (l ++ k) x = ((if p.1 = x then p.2 else 0) + lev l x) + lev k x
    rw [lev_app l k x, Int.add_assoc]
theorem lev_one (p : Int × Int) (x : Int) : lev [p] x = if p.1 = x then p.2 else 0 := by simp [lev]
theorem lev_out : ∀ (l : Vs) (x : Int), (∀ p ∈ l, p.1 ≠ x) → lev l x = 0
  | [], x, _ => rfl
  | p :: l, x, h => by
    show (if p.1 = x then p.2 else 0) + lev l x = 0
    rw [if_neg (h p (by simp)), lev_out l x fun q hq => h q (by simp [hq])]
    rfl
/-- may it be heard -/
def okv (p : Int × Int) : Bool := decide (0 ≤ p.1 ∧ p.1 ≤ 200 ∧ 0 ≤ p.2 ∧ p.2 ≤ 127)
theorem okv_iff (p : Int × Int) : okv p = true ↔ 0 ≤ p.1 ∧ p.1 ≤ 200 ∧ 0 ≤ p.2 ∧ p.2 ≤ 127 := by unfold okv; simp
/-- voices that may be heard, nobody twice -/
def Oks (l : Vs) : Prop := (∀ p ∈ l, okv p) ∧ l.Pairwise fun p q => p.1 ≠ q.1
/-- what is wrong with voices, one behind the other, with those ahead of them -/
def sf : List Int → Vs → Nat
  | _, [] => 0
  | s, p :: l => if okv p then (if p.1 ∈ s then 7 else sf (s ++ [p.1]) l) else 1
theorem sf_le : ∀ (l : Vs) (s : List Int), sf s l ≤ 7
  | [], s => by simp [sf]
  | p :: l, s => by
    unfold sf
    split
    · split
      · omega
      · exact sf_le l _
    · omega
theorem sf_app : ∀ (l k : Vs) (s : List Int), sf s l = 0 → sf s (l ++ k) = sf (s ++ l.map Prod.fst) k
  | [], k, s, _ => by simp
  | p :: l, k, s, h => by
    unfold sf at h
    split at h
    · split at h
      · omega
      · rename_i h1 h2
        rw [List.cons_append]
        show (if okv p then (if p.1 ∈ s then 7 else sf (s ++ [p.1]) (l ++ k)) else 1) = _
        rw [if_pos h1, if_neg h2, sf_app l k _ h]
        simp
    · omega
theorem sf_ok : ∀ (l : Vs) (s : List Int), sf s l = 0 ↔ (∀ p ∈ l, okv p ∧ p.1 ∉ s) ∧ l.Pairwise fun p q => p.1 ≠ q.1
  | [], s => by simp [sf]
  | p :: l, s => by
    unfold sf
    have ih := sf_ok l (s ++ [p.1])
    by_cases h1 : okv p
    · rw [if_pos h1]
      by_cases h2 : p.1 ∈ s
      · rw [if_pos h2]
        constructor
        · intro h; omega
        · intro h; exact absurd h2 (h.1 p (by simp)).2
      · rw [if_neg h2, ih, List.pairwise_cons]
        constructor
        · rintro ⟨a, b⟩
          refine ⟨fun q hq => ?_, fun q hq => ?_, b⟩
          · rcases List.mem_cons.1 hq with rfl | hq
            · exact ⟨h1, h2⟩
            · exact ⟨(a q hq).1, fun c => (a q hq).2 (by simp [c])⟩
          · have := (a q hq).2
            simp at this
            exact fun e => this.2 e.symm
        · rintro ⟨a, b, c⟩
          refine ⟨fun q hq => ⟨(a q (by simp [hq])).1, ?_⟩, c⟩
          have h3 := (a q (by simp [hq])).2
          have h4 := b q hq
          simp
          exact ⟨h3, fun e => h4 e.symm⟩
    · rw [if_neg h1]
      constructor
      · intro h; omega
      · intro h; exact absurd (h.1 p (by simp)).1 h1
/-- what is wrong with a round's voices -/
def vf (l : Vs) : Nat := sf [] l
theorem vf_ok (l : Vs) : vf l = 0 ↔ Oks l := by
  unfold vf
  rw [sf_ok]
  unfold Oks
  simp
theorem oks_take {l : Vs} (h : Oks l) (n : Nat) : Oks (l.take n) := ⟨fun p hp => h.1 p (List.mem_of_mem_take hp), h.2.sublist (List.take_sublist _ _)⟩
theorem vf_at {l : Vs} {i : Nat} (hi : i < l.length) (h : Oks (l.take i)) : vf l = if okv (l.getD i (0, 0)) then (if (l.getD i (0, 0)).1 ∈ (l.take i).map Prod.fst then 7 else sf ((l.take i).map Prod.fst ++ [(l.getD i (0, 0)).1]) (l.drop (i + 1))) else 1 := by
  have e : l = l.take i ++ l.getD i (0, 0) :: l.drop (i + 1) := by
    rw [List.getD_eq_getElem?_getD, List.getElem?_eq_getElem hi, Option.getD_some, ← List.drop_eq_getElem_cons hi, List.take_append_drop]
  have h1 : sf [] (l.take i) = 0 := (vf_ok _).2 h
  have h2 := sf_app (l.take i) (l.getD i (0, 0) :: l.drop (i + 1)) [] h1
  rw [← e] at h2
  unfold vf
  rw [h2]
  simp only [List.nil_append]
  rfl
theorem vf_bad {l : Vs} {i : Nat} (hi : i < l.length) (h : Oks (l.take i)) (hb : ¬ okv (l.getD i (0, 0))) : vf l = 1 := by rw [vf_at hi h, if_neg hb]
theorem vf_clash {l : Vs} {i : Nat} (hi : i < l.length) (h : Oks (l.take i)) (hb : okv (l.getD i (0, 0))) (hc : ∃ p ∈ l.take i, p.1 = (l.getD i (0, 0)).1) : vf l = 7 := by
  rw [vf_at hi h, if_pos hb, if_pos]
  obtain ⟨p, hp, e⟩ := hc
  exact List.mem_map.2 ⟨p, hp, e⟩
theorem take_succ' {l : Vs} {i : Nat} (hi : i < l.length) : l.take (i + 1) = l.take i ++ [l.getD i (0, 0)] := by
  rw [List.getD_eq_getElem?_getD, List.getElem?_eq_getElem hi, Option.getD_some, List.take_append_getElem hi]
theorem oks_next {l : Vs} {i : Nat} (hi : i < l.length) (h : Oks (l.take i)) (hb : okv (l.getD i (0, 0))) (hc : ¬ ∃ p ∈ l.take i, p.1 = (l.getD i (0, 0)).1) : Oks (l.take (i + 1)) := by
  rw [take_succ' hi]
  refine ⟨fun p hp => ?_, ?_⟩
  · rcases List.mem_append.1 hp with h1 | h1
    · exact h.1 p h1
    · rw [List.mem_singleton.1 h1]; exact hb
  · rw [List.pairwise_append]
    refine ⟨h.2, by simp, fun p hp q hq => ?_⟩
    rw [List.mem_singleton.1 hq]
    exact fun e => hc ⟨p, hp, e⟩
theorem oks_nil : Oks [] := ⟨by simp, by simp⟩
theorem lev_at : ∀ {l : Vs}, (l.Pairwise fun p q => p.1 ≠ q.1) → ∀ p ∈ l, lev l p.1 = p.2
  | [], _, p, h => by simp at h
  | q :: l, h, p, hp => by
    rw [List.pairwise_cons] at h
    show (if q.1 = p.1 then q.2 else 0) + lev l p.1 = p.2
    rcases List.mem_cons.1 hp with rfl | hp
    · rw [if_pos rfl, lev_out l p.1 fun r hr e => h.1 r hr e.symm]; omega
    · rw [if_neg (h.1 p hp), lev_at h.2 p hp]; omega
theorem lev_pos {l : Vs} {x : Int} (h : lev l x ≠ 0) : ∃ p ∈ l, p.1 = x := by
  by_cases q : ∃ p ∈ l, p.1 = x
  · exact q
  · exact absurd (lev_out l x fun p hp e => q ⟨p, hp, e⟩) h
theorem lev_bound {l : Vs} (h : Oks l) (x : Int) : 0 ≤ lev l x ∧ lev l x ≤ 127 ∧ (lev l x ≠ 0 → 0 ≤ x ∧ x ≤ 200) := by
  by_cases q : ∃ p ∈ l, p.1 = x
  · obtain ⟨p, hp, rfl⟩ := q
    have h1 := (okv_iff p).1 (h.1 p hp)
    rw [lev_at h.2 p hp]
    exact ⟨by omega, by omega, fun _ => ⟨by omega, by omega⟩⟩
  · rw [lev_out l x fun p hp e => q ⟨p, hp, e⟩]
    exact ⟨by omega, by omega, fun h => absurd rfl h⟩

/-- scores: of who; 0: none -/
abbrev Sc := Int → Int
/-- the scores behind a round -/
def nx (f : Sc) (l : Vs) : Sc := fun x => dec (f x) + 16 * lev l x
/-- scores that may be -/
structure Ok (f : Sc) : Prop where
  lo : ∀ x, 0 ≤ f x
  hi : ∀ x, f x ≤ 16256
  who : ∀ x, f x ≠ 0 → 0 ≤ x ∧ x ≤ 200
theorem dec_zero : dec 0 = 0 := by decide
theorem dec_lo {s : Int} (h : 0 ≤ s) : 0 ≤ dec s := by unfold dec; omega
theorem dec_le {s : Int} (h : 0 ≤ s) : dec s ≤ s := by unfold dec; omega
theorem dec_mono {s t : Int} (h : s ≤ t) : dec s ≤ dec t := by unfold dec; omega
theorem dec_hi {s : Int} (h : s ≤ 16256) : dec s ≤ 14224 := by unfold dec; omega
theorem ok_nx {f : Sc} {l : Vs} (h : Ok f) (hl : Oks l) : Ok (nx f l) := by
  refine ⟨fun x => ?_, fun x => ?_, fun x hx => ?_⟩
  · have := dec_lo (h.lo x); have := (lev_bound hl x).1; unfold nx; omega
  · have := dec_hi (h.hi x); have := (lev_bound hl x).2.1; unfold nx; omega
  · by_cases q : f x = 0
    · by_cases r : lev l x = 0
      · exact absurd (by unfold nx; rw [q, r, dec_zero]; rfl) hx
      · exact (lev_bound hl x).2.2 r
    · exact h.who x q
theorem ok_zero : Ok (fun _ => 0) := ⟨fun _ => by decide, fun _ => by decide, fun _ h => absurd rfl h⟩
/-- all scores, rising by who -/
def lst (f : Sc) : Vs := ((List.range 201).filter fun i : Nat => decide (f (i : Int) ≠ 0)).map fun i : Nat => ((i : Int), f (i : Int))
theorem mem_lst {f : Sc} (h : Ok f) (p : Int × Int) : p ∈ lst f ↔ f p.1 = p.2 ∧ p.2 ≠ 0 := by
  unfold lst
  simp only [List.mem_map, List.mem_filter, List.mem_range, decide_eq_true_eq]
  constructor
  · rintro ⟨i, ⟨h1, h2⟩, rfl⟩
    exact ⟨rfl, h2⟩
  · rintro ⟨h1, h2⟩
    have h3 := h.who p.1 (by rw [h1]; exact h2)
    refine ⟨p.1.toNat, ⟨by omega, ?_⟩, ?_⟩
    · rw [show ((p.1.toNat : Nat) : Int) = p.1 by omega, h1]; exact h2
    · rw [show ((p.1.toNat : Nat) : Int) = p.1 by omega, h1]
theorem lst_rises (f : Sc) : (lst f).Pairwise fun p q => p.1 < q.1 := by
  unfold lst
  rw [List.pairwise_map]
  refine (List.Pairwise.filter _ List.pairwise_lt_range).imp ?_
  intro a b h
  show (a : Int) < (b : Int)
  omega
theorem rises_nodup {l : Vs} (h : l.Pairwise fun p q => p.1 < q.1) : l.Nodup := h.imp fun hp e => by rw [e] at hp; omega
theorem lst_zero : lst (fun _ => 0) = [] := by
  unfold lst
  simp
theorem lst_nil {f : Sc} (h : Ok f) : lst f = [] ↔ ∀ x, f x = 0 := by
  constructor
  · intro e x
    by_cases q : f x = 0
    · exact q
    · have := (mem_lst h (x, f x)).2 ⟨rfl, q⟩
      rw [e] at this
      simp at this
  · intro e
    exact List.eq_nil_iff_forall_not_mem.2 fun p hp => by
      have := (mem_lst h p).1 hp
      rw [e] at this
      exact this.2 this.1.symm
theorem lst_len (f : Sc) : (lst f).length ≤ 201 := by
  unfold lst
  rw [List.length_map]
  exact Nat.le_trans (List.length_filter_le _ _) (by simp)
theorem lst_less {f g : Sc} (h : ∀ x, g x ≠ 0 → f x ≠ 0) : (lst g).length ≤ (lst f).length := by
  unfold lst
  rw [List.length_map, List.length_map]
  have e : ((List.range 201).filter fun i : Nat => decide (g (i : Int) ≠ 0)) = ((List.range 201).filter fun i : Nat => decide (f (i : Int) ≠ 0)).filter fun i : Nat => decide (g (i : Int) ≠ 0) := by
    rw [List.filter_filter]
    refine List.filter_congr fun i _ => ?_
    by_cases q : g (i : Int) = 0
    · simp [q]
    · simp [q, h _ q]
  rw [e]
  exact List.length_filter_le _ _

/-- what the program compares two voices by -/
def cf (x y : Int × Int) : Int := if Lib.compareInt y.2 x.2 = 0 then Lib.compareInt x.1 y.1 else Lib.compareInt y.2 x.2
/-- is one ahead of another: louder, or as loud and less -/
def ltc (x y : Int × Int) : Bool := decide (cf x y < 0)
def lt (x y : Int × Int) : Bool := ltc x y
theorem lt_iff (x y : Int × Int) : lt x y = true ↔ y.2 < x.2 ∨ y.2 = x.2 ∧ x.1 < y.1 := by
  unfold lt ltc cf Lib.compareInt
  rcases Int.lt_trichotomy y.2 x.2 with h | h | h
  · simp [h]
  · rw [h]
    rcases Int.lt_trichotomy x.1 y.1 with k | k | k
    · simp [k]
    · simp [k]
    · have : ¬ x.1 < y.1 := by omega
      simp [k, this]
  · have h1 : ¬ y.2 < x.2 := by omega
    have h2 : y.2 ≠ x.2 := by omega
    simp [h, h1, h2]
theorem lt_false (x y : Int × Int) : lt x y = false ↔ ¬ (y.2 < x.2 ∨ y.2 = x.2 ∧ x.1 < y.1) := by
  rw [← lt_iff]; simp
theorem swo : SWO (ltc) where
  irrefl x := (lt_false x x).2 (by omega)
  trans x y z h1 h2 := by
    have h1 := (lt_iff x y).1 h1
    have h2 := (lt_iff y z).1 h2
    exact (lt_iff x z).2 (by omega)
  ntrans x y z h1 h2 := by
    have h1 := (lt_false _ _).1 h1
    have h2 := (lt_false _ _).1 h2
    exact (lt_false _ _).2 (by omega)
theorem parts (x y : Int × Int) (h1 : ltc x y = false) (h2 : ltc y x = false) : x = y := by
  have h1 := (lt_false _ _).1 h1
  have h2 := (lt_false _ _).1 h2
  exact Prod.ext (by omega) (by omega)
/-- all scores, the greatest first, of equal ones the least -/
def rk (f : Sc) : Vs := (lst f).mergeSort fun x y => !ltc y x
theorem rk_perm (f : Sc) : (rk f).Perm (lst f) := List.mergeSort_perm _ _
theorem rk_len (f : Sc) : (rk f).length = (lst f).length := (rk_perm f).length_eq
theorem ms_sorted (l : Vs) : (l.mergeSort fun x y => !ltc y x).Pairwise fun x y => lt y x = false := by
  have h := List.pairwise_mergeSort (le := fun x y => !ltc y x) (fun a b c h1 h2 => by
    simp only [Bool.not_eq_true'] at h1 h2 ⊢
    exact swo.ntrans c b a h2 h1) (fun a b => by
    have := (lt_iff a b)
    have h2 := (lt_iff b a)
    unfold lt at this h2
    by_cases q : ltc b a = true
    · have : ltc a b = false := (lt_false a b).2 (by have := h2.1 q; omega)
      simp [this]
    · simp at q
      simp [q]) l
  exact h.imp fun hh => by simpa [lt] using hh
theorem sorted_one {l k : Vs} (hp : l.Perm k) (h1 : l.Pairwise fun x y => lt y x = false) (h2 : k.Pairwise fun x y => lt y x = false) : l = k := by
  refine List.Perm.eq_of_pairwise (le := fun x y => lt y x = false) (fun a b _ _ ha hb => parts a b hb ha) h1 h2 hp
theorem rk_one {f : Sc} {l : Vs} (hp : l.Perm (lst f)) (h : l.Pairwise fun x y => lt y x = false) : l = rk f :=
  sorted_one (hp.trans (rk_perm f).symm) h (ms_sorted _)
theorem rk_of {f : Sc} {l : Vs} (hp : l.Perm (lst f)) : (l.mergeSort fun x y => !ltc y x) = rk f :=
  rk_one ((List.mergeSort_perm _ _).trans hp) (ms_sorted _)
theorem rk_mem {f : Sc} (h : Ok f) (p : Int × Int) : p ∈ rk f ↔ f p.1 = p.2 ∧ p.2 ≠ 0 := (rk_perm f).mem_iff.trans (mem_lst h p)
theorem rk_nodup (f : Sc) : (rk f).Nodup := (rk_perm f).nodup_iff.2 (rises_nodup (lst_rises f))
theorem rk_strict (f : Sc) : (rk f).Pairwise fun x y => lt x y = true := by
  have h1 : (rk f).Pairwise fun x y => lt y x = false := ms_sorted _
  have h2 : (rk f).Pairwise fun x y => x ≠ y := rk_nodup f
  refine (h1.and h2).imp ?_
  rintro a b ⟨h1, h2⟩
  cases q : lt a b with
  | true => rfl
  | false => exact absurd (parts a b q h1) h2
/-- the one with the greatest score, of equal ones the least -/
def Best (f : Sc) (p : Int × Int) : Prop := f p.1 = p.2 ∧ p.2 ≠ 0 ∧ ∀ x, f x < p.2 ∨ f x = p.2 ∧ p.1 ≤ x
theorem best_rk {f : Sc} (h : Ok f) {p : Int × Int} (hb : Best f p) : ∃ t, rk f = p :: t := by
  have hm := (rk_mem h p).2 ⟨hb.1, hb.2.1⟩
  cases e : rk f with
  | nil => rw [e] at hm; simp at hm
  | cons q t =>
    have hs := rk_strict f
    rw [e] at hm hs
    rcases List.mem_cons.1 hm with h1 | h1
    · exact ⟨t, by rw [h1]⟩
    · have h2 := (lt_iff _ _).1 ((List.pairwise_cons.1 hs).1 p h1)
      have h3 := (rk_mem h q).1 (by rw [e]; simp)
      have h4 := hb.2.2 q.1
      rw [h3.1] at h4
      omega
/-- who speaks behind a round: of the scores then, and who spoke -/
def spk (f : Sc) (sp : Int) : Int := match rk f with
  | [] => -1
  | p :: _ => if f sp = 0 ∨ p.2 > f sp + 200 then p.1 else sp
theorem spk_nil {f : Sc} {sp : Int} (h : rk f = []) : spk f sp = -1 := by unfold spk; rw [h]
theorem spk_cons {f : Sc} {sp : Int} {p : Int × Int} {t : Vs} (h : rk f = p :: t) : spk f sp = if f sp = 0 ∨ p.2 > f sp + 200 then p.1 else sp := by unfold spk; rw [h]
/-- what is wrong with a round -/
def hf (f : Sc) (l : Vs) : Nat := if 200 < l.length then 4 else if vf l ≠ 0 then vf l else if 200 < (lst (nx f l)).length then 4 else 0
theorem hf_le (f : Sc) (l : Vs) : hf f l ≤ 7 := by
  have := sf_le l []
  unfold hf vf
  split
  · omega
  · split
    · omega
    · split <;> omega
theorem hf_zero {f : Sc} {l : Vs} : hf f l = 0 ↔ l.length ≤ 200 ∧ Oks l ∧ (lst (nx f l)).length ≤ 200 := by
  rw [← vf_ok]
  unfold hf
  by_cases h1 : 200 < l.length
  · rw [if_pos h1]; omega
  · rw [if_neg h1]
    by_cases h2 : vf l = 0
    · rw [if_neg (by simp [h2])]
      by_cases h3 : 200 < (lst (nx f l)).length
      · rw [if_pos h3]; omega
      · rw [if_neg h3]; omega
    · rw [if_pos h2]; omega
/-- what is known of the scores and who speaks -/
structure Inv (f : Sc) (sp : Int) : Prop where
  ok : Ok f
  len : (lst f).length ≤ 200
  sp : (lst f = [] ∧ sp = -1) ∨ (0 ≤ sp ∧ sp ≤ 200 ∧ f sp ≠ 0)
theorem inv_zero : Inv (fun _ => 0) (-1) := ⟨ok_zero, by rw [lst_zero]; simp, .inl ⟨lst_zero, rfl⟩⟩
theorem rk_nil {f : Sc} : rk f = [] ↔ lst f = [] := by
  constructor
  · intro h; have := rk_len f; rw [h] at this; exact List.eq_nil_of_length_eq_zero this.symm
  · intro h; have := rk_len f; rw [h] at this; exact List.eq_nil_of_length_eq_zero this
theorem spk_inv {f : Sc} (h : Ok f) (hl : (lst f).length ≤ 200) (sp : Int) : Inv f (spk f sp) := by
  refine ⟨h, hl, ?_⟩
  cases e : rk f with
  | nil => exact .inl ⟨rk_nil.1 e, spk_nil e⟩
  | cons p t =>
    right
    rw [spk_cons e]
    have hp := (rk_mem h p).1 (by rw [e]; simp)
    split
    · have := h.who p.1 (by rw [hp.1]; exact hp.2)
      exact ⟨this.1, this.2, by rw [hp.1]; exact hp.2⟩
    · rename_i q
      have q1 : f sp ≠ 0 := fun c => q (.inl c)
      exact ⟨(h.who sp q1).1, (h.who sp q1).2, q1⟩
theorem inv_nx {f : Sc} {sp : Int} {l : Vs} (h : Inv f sp) (hl : hf f l = 0) : Inv (nx f l) (spk (nx f l) sp) := by
  obtain ⟨h1, h2, h3⟩ := hf_zero.1 hl
  exact spk_inv (ok_nx h.ok h2) h3 sp
/-- the scores, and who speaks, behind a round, whatever it is -/
def stF (f : Sc) (l : Vs) : Sc := if hf f l = 0 then nx f l else f
def stS (f : Sc) (sp : Int) (l : Vs) : Int := if hf f l = 0 then spk (nx f l) sp else sp
theorem inv_st {f : Sc} {sp : Int} (h : Inv f sp) (l : Vs) : Inv (stF f l) (stS f sp l) := by
  unfold stF stS
  by_cases q : hf f l = 0
  · rw [if_pos q, if_pos q]; exact inv_nx h q
  · rw [if_neg q, if_neg q]; exact h
end Go.Proofs.YtbadpjgiogghdaaGreatDoor.VO

