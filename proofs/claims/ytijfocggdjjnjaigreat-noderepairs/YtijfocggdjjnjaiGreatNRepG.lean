/-
  What the two nodes of the law NodeRepairs are at each of its calls. Their condition: each is such as it may be, and nobody subscribes.
-/
import Derived.Test.YtijfocggdjjnjaiGreatNTwo
import Derived.Test.YtijfocggdjjnjaiGreatNRepE
import Derived.Test.YtijfocggdjjnjaiGreatNRepF
namespace Go.Proofs.YtijfocggdjjnjaiGreat.ND
open Go.ChangeShapes Go.WideShapes Go.ChangeAt Go.RowKit Go.Maps Go.Lib Go.Proofs.YtijfocggdjjnjaiGreat.Mem Go.Proofs.YtijfocggdjjnjaiGreat.NO
set_option linter.unusedVariables false

/-- both, and what is known of each -/
def PP (w W : World) (ba bb : Nat) (φ ψ : Nd → Prop) : Prop := ∃ A B, Two w W 1 2 ba bb A B ∧ φ A ∧ ψ B
/-- one, with letters that wait -/
def Lt (φ : Nd → Prop) (G : List (Int × List Nat)) (N : Nd) : Prop := N.lt = G ∧ φ { N with lt := [] }
def fA (na : Int) (s : Nat) (N : Nd) : Prop := ∃ t, NI N 1 na t ∧ TI t (-1) [2] s [] 0 ∧ RH t s
def fA0 (N : Nd) : Prop := NI N 1 0 ((tr0 1 1).to (-1) [2])
def fB (nb gb : Int) (s : Nat) (M : GM.Its) (N : Nd) : Prop := ∃ t, NI N 2 nb t ∧ TI t 1 [3] s M gb
def fB0 (N : Nd) : Prop := NI N 2 0 ((tr0 1 1).to 1 [3])
def NoSub (φ : Nd → Prop) : Prop := ∀ N, φ N → N.sb = []
theorem noA (na : Int) (s : Nat) : NoSub (fA na s) := fun N h => by obtain ⟨t, h, _⟩ := h; exact h.sb
theorem noA0 : NoSub fA0 := fun N h => NI.sb h
theorem noB (nb gb : Int) (s : Nat) (M : GM.Its) : NoSub (fB nb gb s M) := fun N h => by obtain ⟨t, h, _⟩ := h; exact h.sb
theorem noB0 : NoSub fB0 := fun N h => NI.sb h
theorem noL {φ : Nd → Prop} (h : NoSub φ) (G : List (Int × List Nat)) : NoSub (Lt φ G) := fun N hN => show ({ N with lt := [] } : Nd).sb = [] from h _ hN.2
theorem PP.bel {w W : World} {ba bb : Nat} {φ ψ : Nd → Prop} (h : PP w W ba bb φ ψ) : Below w.heap.size w W := by
  obtain ⟨A, B, h, _⟩ := h
  exact h.bel
theorem PP.below {w W W' : World} {ba bb : Nat} {φ ψ : Nd → Prop} (h : PP w W ba bb φ ψ) (hb : Below W.heap.size W W') : PP w W' ba bb φ ψ := by
  obtain ⟨A, B, h, hA, hB⟩ := h
  exact ⟨A, B, h.below hb, hA, hB⟩
theorem PP.outA {w W : World} {ba bb : Nat} {φ ψ : Nd → Prop} {G : List (Int × List Nat)} (h : PP w W ba bb (Lt φ G) ψ) (hψ : NoSub ψ) :
    Calls Tryz.prog 8 #[.pointer (some ⟨ba, 0, none⟩)] W fun e w' => ∃ a c, e = .returned (.slice a G.length c) ∧ Lets w' (.slice a G.length c) G ∧ PP w w' ba bb φ ψ := by
  obtain ⟨A, B, h, ⟨rfl, hA⟩, hB⟩ := h
  refine (h.out (hψ B hB)).mono ?_
  rintro e w' ⟨a, c, rfl, hL, hT⟩
  exact ⟨a, c, rfl, hL, _, _, hT, hA, hB⟩
theorem PP.outB {w W : World} {ba bb : Nat} {φ ψ : Nd → Prop} {G : List (Int × List Nat)} (h : PP w W ba bb φ (Lt ψ G)) (hφ : NoSub φ) :
    Calls Tryz.prog 8 #[.pointer (some ⟨bb, 0, none⟩)] W fun e w' => ∃ a c, e = .returned (.slice a G.length c) ∧ Lets w' (.slice a G.length c) G ∧ PP w w' ba bb φ ψ := by
  obtain ⟨A, B, h, hA, ⟨rfl, hB⟩⟩ := h
  refine (h.swap.out (hφ A hA)).mono ?_
  rintro e w' ⟨a, c, rfl, hL, hT⟩
  exact ⟨a, c, rfl, hL, _, _, hT.swap, hA, hB⟩
theorem took_lt {N : Nd} {id nw : Int} {t : Tr} {G : List (Int × List Nat)} (h : Took N id nw t G) : N.lt = G ∧ NI { N with lt := [] } id nw t := ⟨h.lt, h.ni⟩
theorem tf_zz : GM.tf 0 0 = 0 := by decide
theorem PP.sendA {w W W1 : World} {ba bb s : Nat} {ψ : Nd → Prop} (h : PP w W ba bb (fA 0 s) ψ) (hs : s ≤ 500) (hb : Below W.heap.size W W1) (a : Option Addr) (cap : Nat) (hArg : Arg W1 a 2 (rL (s + 1))) (hfr : ∀ ad, a = some ad → W.heap.size ≤ ad.block) (hno : a = none → 2 = 0 ∧ cap = 0) :
    Calls Tryz.prog 6 #[.pointer (some ⟨ba, 0, none⟩), .int .i64 1, .agg #[.int .i64 ((s + 1 : Nat) : Int), .int .i64 ((s + 1 : Nat) : Int), .int .i64 0, .int .i64 0, .bool true, .slice a 2 cap], .int .i64 0] W1 fun e w' => e = .returned .nilIface ∧ PP w w' ba bb (Lt (fA 0 (s + 1)) [(2, rF 1 (s + 1))]) ψ := by
  obtain ⟨A, B, h, ⟨t, hN, hT, hR⟩, hB⟩ := h
  have hh := hT.hear (n := s + 1) (by omega) (by omega) (by omega) (by simp) tf_zz (rp (s + 1) (.slice a 2 cap)) (1, 1)
  refine (h.send (now := 0) hb hN hT.kids hT.pa hT.tk hT.ep tf_zz hT.gI hT.rI hh.1 (by omega) a cap hArg hfr hno).mono ?_
  rintro e w' ⟨rfl, A', h', hTk⟩
  have h2 := hh.2.1
  rw [show ([] ++ GM.fresh (65536 + (s : Int)) (s + 1 - s - 1) : GM.Its) = [] by rw [show s + 1 - s - 1 = 0 by omega]; rfl] at h2
  exact ⟨rfl, A', B, h', ⟨hTk.lt, _, hTk.ni, h2, hR.step hT (by omega) (by simp) tf_zz _⟩, hB⟩
theorem PP.sendA0 {w W W1 : World} {ba bb : Nat} {ψ : Nd → Prop} (h : PP w W ba bb fA0 ψ) (hb : Below W.heap.size W W1) (a : Option Addr) (cap : Nat) (hArg : Arg W1 a 2 (rL 5)) (hfr : ∀ ad, a = some ad → W.heap.size ≤ ad.block) (hno : a = none → 2 = 0 ∧ cap = 0) :
    Calls Tryz.prog 6 #[.pointer (some ⟨ba, 0, none⟩), .int .i64 1, .agg #[.int .i64 5, .int .i64 5, .int .i64 0, .int .i64 0, .bool true, .slice a 2 cap], .int .i64 0] W1 fun e w' => e = .returned .nilIface ∧ PP w w' ba bb (Lt (fA 0 5) [(2, rF 1 5)]) ψ := by
  obtain ⟨A, B, h, hN, hB⟩ := h
  have hh := TI.first (-1) [2] (rp 5 (.slice a 2 cap)) (1, 1)
  refine (h.send (n := 5) (now := 0) hb hN rfl rfl rfl rfl tf_zz (GM.inv_start (by omega) (by omega) (by omega) (by omega)) (RM.inv_start (by omega) (by omega)) hh.1 (by omega) a cap hArg hfr hno).mono ?_
  rintro e w' ⟨rfl, A', h', hTk⟩
  exact ⟨rfl, A', B, h', ⟨hTk.lt, _, hTk.ni, hh.2.1, RH.first _ _ _⟩, hB⟩
theorem PP.hearB {w W : World} {ba bb s n : Nat} {M : GM.Its} {φ : Nd → Prop} (h : PP w W ba bb φ (fB 0 0 s M)) (hs : s ≤ 500) (h1 : s < n) (h2 : n ≤ s + 2) (hM : M.length ≤ 1) (a : Option Addr) (m cap : Nat) (hArg : Arg W a m (rF 1 n)) (hc : m ≤ cap) :
    Calls Tryz.prog 9 #[.pointer (some ⟨bb, 0, none⟩), .int .i64 1, .slice a m cap, .int .i64 0] W fun e w' => e = .returned .nilIface ∧ PP w w' ba bb φ (Lt (fB 0 0 n (M ++ GM.fresh (65536 + (s : Int)) (n - s - 1))) [(3, rF 2 n)]) := by
  obtain ⟨A, B, h, hA, ⟨t, hN, hT⟩⟩ := h
  have hh := fun bv => hT.hear h1 h2 (by omega) hM tf_zz (rp n bv) (1, 2)
  refine (h.swap.hear (now := 0) (h := 1) hN hT.kids hT.pa hT.tk hT.ep tf_zz hT.gI hT.rI (hh (.slice none 0 0)).1 (by omega) (by omega) (by omega) a m cap hArg hc).mono ?_
  rintro e w' ⟨rfl, B', bv, h', hTk⟩
  exact ⟨rfl, A, B', h'.swap, hA, hTk.lt, _, hTk.ni, (hh bv).2.1⟩
theorem PP.hearB0 {w W : World} {ba bb : Nat} {φ : Nd → Prop} (h : PP w W ba bb φ fB0) (a : Option Addr) (m cap : Nat) (hArg : Arg W a m (rF 1 5)) (hc : m ≤ cap) :
    Calls Tryz.prog 9 #[.pointer (some ⟨bb, 0, none⟩), .int .i64 1, .slice a m cap, .int .i64 0] W fun e w' => e = .returned .nilIface ∧ PP w w' ba bb φ (Lt (fB 0 0 5 []) [(3, rF 2 5)]) := by
  obtain ⟨A, B, h, hA, hN⟩ := h
  have hh := fun bv => TI.first 1 [3] (rp 5 bv) (1, 2)
  refine (h.swap.hear (n := 5) (now := 0) (h := 1) hN rfl rfl rfl rfl tf_zz (GM.inv_start (by omega) (by omega) (by omega) (by omega)) (RM.inv_start (by omega) (by omega)) (hh (.slice none 0 0)).1 (by omega) (by omega) (by omega) a m cap hArg hc).mono ?_
  rintro e w' ⟨rfl, B', bv, h', hTk⟩
  exact ⟨rfl, A, B', h'.swap, hA, hTk.lt, _, hTk.ni, (hh bv).2.1⟩
/-- one that was lacking comes -/
theorem PP.hearL {w W : World} {ba bb s n : Nat} {φ : Nd → Prop} (h : PP w W ba bb φ (fB 1 1 s [⟨65536 + (n : Int), 1, 1⟩])) (hs : s ≤ 500) (h1 : n < s) (h2 : s ≤ n + 100) (a : Option Addr) (m cap : Nat) (hArg : Arg W a m (rF 1 n)) (hc : m ≤ cap) :
    Calls Tryz.prog 9 #[.pointer (some ⟨bb, 0, none⟩), .int .i64 1, .slice a m cap, .int .i64 1] W fun e w' => e = .returned .nilIface ∧ PP w w' ba bb φ (Lt (fB 1 1 s []) [(3, rF 2 n)]) := by
  obtain ⟨A, B, h, hA, ⟨t, hN, hT⟩⟩ := h
  have hh := fun bv => hT.late (n := n) rfl h1 h2 (by omega) (show GM.tf 1 1 = 0 by decide) (rp n bv) (1, 2)
  refine (h.swap.hear (now := 1) (h := 1) hN hT.kids hT.pa hT.tk hT.ep (by decide) hT.gI hT.rI (hh (.slice none 0 0)).1 (by omega) (by omega) (by omega) a m cap hArg hc).mono ?_
  rintro e w' ⟨rfl, B', bv, h', hTk⟩
  exact ⟨rfl, A, B', h'.swap, hA, hTk.lt, _, hTk.ni, (hh bv).2⟩
theorem lost_ok {q : Nat} (h : q ≤ 1000) : Back.efault 1 1 [(q : Int)] 0 = 0 ∧ (Back.ebytes 1 1 [(q : Int)] 0).length ≤ 2000 := by
  have hr : BM.Rises [(q : Int)] := List.pairwise_singleton _ _
  have hp : Back.pfault [(q : Int)] = 0 := by
    unfold Back.pfault
    rw [if_neg (by simp), if_neg (by simp [Back.inR]; omega)]
  have hc : Back.cfault 1 1 [(q : Int)] 0 = 0 := by
    unfold Back.cfault
    rw [if_neg (by simp [Back.most]), if_neg (by simp [hr])]
  refine ⟨by unfold Back.efault; rw [if_pos hc, hp], ?_⟩
  have hl : (Back.prsOf [(q : Int)]).length ≤ 1 := (Back.back_again hp).2.2.2.2.1
  have h2 := Back.pbytes_len (Back.prsOf [(q : Int)])
  unfold Back.ebytes Back.tail
  rw [if_neg (by decide), if_neg (by decide)]
  simp only [List.nil_append, List.length_cons]
  omega
theorem norm_one {q : Nat} (h : q ≤ 1000) : BM.norm (sq [65536 + (q : Int)]) = [(q : Int)] := by
  have e : sq [65536 + (q : Int)] = [(q : Int)] := by
    unfold sq
    simp only [List.map_cons, List.map_nil, List.cons.injEq, and_true]
    omega
  rw [e]
  exact BM.norm_self (List.pairwise_singleton _ _)
theorem asked_one {N : Nd} {id nw now : Int} {t : Tr} {pa gn : Int} {K : List Int} {s q : Nat} (hN : NI N id nw t) (hT : TI t pa K s [⟨65536 + (q : Int), 0, 0⟩] gn) (hq : q ≤ 1000) (htf : GM.tf gn now = 0) :
    GM.dueL 3 3 now t.gM = [65536 + (q : Int)] ∧ GM.gaveL 3 3 now t.gM = [] ∧ (({ N with nw := now } : Nd).asked 0 t now).lt = [(pa, Back.ebytes 1 1 [(q : Int)] 0)] ∧ NI { ({ N with nw := now } : Nd).asked 0 t now with lt := [] } id now { t with gn := now, gM := GM.dM 3 3 now t.gM, gG := [] } ∧ TI { t with gn := now, gM := GM.dM 3 3 now t.gM, gG := [] } pa K s [⟨65536 + (q : Int), 1, now⟩] now := by
  have hst : GM.stays 3 now ⟨65536 + (q : Int), 0, 0⟩ = false := by simp [GM.stays]
  obtain ⟨o1, o2, o3⟩ := GM.one_asks (tr := 3) hst (by simp)
  have hd : GM.dueL 3 3 now t.gM = [65536 + (q : Int)] := by rw [hT.gM]; exact o2
  have hdm : GM.dM 3 3 now t.gM = [⟨65536 + (q : Int), 1, now⟩] := by rw [hT.gM, o1]; rfl
  have hI := GM.inv_due (now := now) hT.gI (by rw [hT.gn]; exact htf)
  refine ⟨hd, by rw [hT.gM]; exact o3, ?_, ⟨hN.id, rfl, by show updR N.tr 0 _ 0 = _; exact updR_at _ _ _, ?_, hN.sb, hN.ls, rfl⟩, ⟨hT.tk, hT.ep, hT.pa, hT.kids, rfl, hT.gT, hdm, rfl, hT.rT, hI, hT.rI⟩⟩
  · show N.lt ++ (if GM.dueL 3 3 now t.gM = [] then [] else [(t.pa, Back.ebytes 1 t.tk (BM.norm (sq (GM.dueL 3 3 now t.gM))) 0)]) = _
    rw [hN.lt, hd, if_neg (by simp), norm_one hq, hT.tk, hT.pa]
    rfl
  · intro i hi
    show updR N.tr 0 _ i = none
    unfold updR
    rw [if_neg hi]
    exact hN.no i hi
theorem asked_none {N : Nd} {id nw now : Int} {t : Tr} {pa gn : Int} {K : List Int} {s : Nat} (hN : NI N id nw t) (hT : TI t pa K s [] gn) (htf : GM.tf gn now = 0) :
    GM.dueL 3 3 now t.gM = [] ∧ GM.gaveL 3 3 now t.gM = [] ∧ (({ N with nw := now } : Nd).asked 0 t now).lt = [] ∧ NI { ({ N with nw := now } : Nd).asked 0 t now with lt := [] } id now { t with gn := now, gM := GM.dM 3 3 now t.gM, gG := [] } ∧ TI { t with gn := now, gM := GM.dM 3 3 now t.gM, gG := [] } pa K s [] now := by
  have hd : GM.dueL 3 3 now t.gM = [] := by rw [hT.gM]; rfl
  have hdm : GM.dM 3 3 now t.gM = [] := by rw [hT.gM]; rfl
  have hI := GM.inv_due (now := now) hT.gI (by rw [hT.gn]; exact htf)
  refine ⟨hd, by rw [hT.gM]; rfl, ?_, ⟨hN.id, rfl, by show updR N.tr 0 _ 0 = _; exact updR_at _ _ _, ?_, hN.sb, hN.ls, rfl⟩, ⟨hT.tk, hT.ep, hT.pa, hT.kids, rfl, hT.gT, hdm, rfl, hT.rT, hI, hT.rI⟩⟩
  · show N.lt ++ (if GM.dueL 3 3 now t.gM = [] then [] else [(t.pa, Back.ebytes 1 t.tk (BM.norm (sq (GM.dueL 3 3 now t.gM))) 0)]) = _
    rw [hN.lt, hd, if_pos rfl]
    rfl
  · intro i hi
    show updR N.tr 0 _ i = none
    unfold updR
    rw [if_neg hi]
    exact hN.no i hi
/-- time goes on where one is lacking -/
theorem PP.tickB {w W : World} {ba bb s q : Nat} {φ : Nd → Prop} (h : PP w W ba bb φ (fB 0 0 s [⟨65536 + (q : Int), 0, 0⟩])) (hq : q ≤ 1000) :
    Calls Tryz.prog 10 #[.pointer (some ⟨bb, 0, none⟩), .int .i64 1] W fun e w' => e = .returned .nilIface ∧ PP w w' ba bb φ (Lt (fB 1 1 s [⟨65536 + (q : Int), 1, 1⟩]) [(1, Back.ebytes 1 1 [(q : Int)] 0)]) := by
  obtain ⟨A, B, h, hA, ⟨t, hN, hT⟩⟩ := h
  obtain ⟨o, P, Q, a1, a2, a3, a4⟩ := h.swap.at'
  obtain ⟨d1, d2, d3, d4, d5⟩ := asked_one (now := 1) hN hT hq (by decide)
  refine (tick_calls 2 bb o P B t 1 W (by omega) a1 hN.tr hN.no hN.sb (by rw [hN.sb, hN.ls]; exact sinv_nil) (by rw [hN.nw]; decide) hT.gI (by rw [hT.gn]; decide) (by rw [hT.pa]; decide) hT.gG d2 (fun _ => by rw [d1, norm_one hq, hT.tk]; exact lost_ok hq) (by rw [hN.lt]; simp)).mono ?_
  rintro e w' ⟨rfl, hd⟩
  exact ⟨rfl, A, _, (Two.of_done h.bel h.swap.ne a2 a3 hd).swap, hA, d3, _, d4, d5⟩
/-- time goes on where nothing is lacking -/
theorem PP.tickE {w W : World} {ba bb s : Nat} {φ : Nd → Prop} (h : PP w W ba bb φ (fB 1 1 s [])) :
    Calls Tryz.prog 10 #[.pointer (some ⟨bb, 0, none⟩), .int .i64 5] W fun e w' => e = .returned .nilIface ∧ PP w w' ba bb φ (Lt (fB 5 5 s []) []) := by
  obtain ⟨A, B, h, hA, ⟨t, hN, hT⟩⟩ := h
  obtain ⟨o, P, Q, a1, a2, a3, a4⟩ := h.swap.at'
  obtain ⟨d1, d2, d3, d4, d5⟩ := asked_none (now := 5) hN hT (by decide)
  refine (tick_calls 2 bb o P B t 5 W (by omega) a1 hN.tr hN.no hN.sb (by rw [hN.sb, hN.ls]; exact sinv_nil) (by rw [hN.nw]; decide) hT.gI (by rw [hT.gn]; decide) (by rw [hT.pa]; decide) hT.gG d2 (fun hx => absurd d1 hx) (by rw [hN.lt]; simp)).mono ?_
  rintro e w' ⟨rfl, hd⟩
  exact ⟨rfl, A, _, (Two.of_done h.bel h.swap.ne a2 a3 hd).swap, hA, d3, _, d4, d5⟩
theorem lost_first {q : Nat} (h : q ≤ 1000) : (Back.ebytes 1 1 [(q : Int)] 0).head? ≠ some 70 := by
  unfold Back.ebytes
  simp
/-- who lacks one asks, and it goes again -/
theorem PP.hearA {w W : World} {ba bb s q : Nat} {ψ : Nd → Prop} (h : PP w W ba bb (fA 0 s) ψ) (hs : s ≤ 500) (h1 : 5 ≤ q) (h2 : q ≤ s) (h3 : s < q + 64) (a : Option Addr) (m cap : Nat) (hArg : Arg W a m (Back.ebytes 1 1 [(q : Int)] 0)) (hc : m ≤ cap) :
    Calls Tryz.prog 9 #[.pointer (some ⟨ba, 0, none⟩), .int .i64 2, .slice a m cap, .int .i64 1] W fun e w' => e = .returned .nilIface ∧ PP w w' ba bb (Lt (fA 1 s) [(2, rF 1 q)]) ψ := by
  obtain ⟨A, B, h, ⟨t, hN, hT, hR⟩, hB⟩ := h
  obtain ⟨o, P, Q, a1, a2, a3, a4⟩ := h.at'
  have hnum : num t.rT (q : Int) = 65536 + (q : Int) := by rw [hT.rT]; exact num_near (by omega) (by omega)
  obtain ⟨i, hi, e1⟩ := RM.has_iff.1 (hR.has q h1 h2 h3)
  obtain ⟨n', e2, ⟨bv, e3⟩, e4⟩ := hR.mem i hi
  have hnq : n' = q := by omega
  subst hnq
  have hip : (65536 + (n' : Int), rp n' bv) ∈ t.rM := by rw [← e1, ← e3]; exact hi
  have hw : t.wy (65536 + (n' : Int)) = (1, 1) := by rw [← e1]; exact e4
  have hff : FM.ffault t.tk 1 t.ep 1 (pby (rp n' bv).s (rp n' bv).t (rp n' bv).l (rp n' bv).q (rp n' bv).st (rp n' bv).L) = 0 := by rw [hT.tk, hT.ep]; exact rF_fault (by omega) (by omega) (by omega)
  have C := hear_gen 1 ba o P A 2 1 a m cap _ W (fun f N' => f = 0 ∧ N' = { A with lt := A.lt ++ [(2, fby t.tk 1 t.ep 1 (pby (rp n' bv).s (rp n' bv).t (rp n' bv).l (rp n' bv).q (rp n' bv).st (rp n' bv).L))] }) (by omega) a1 (by rw [hN.nw]; decide) hArg (fun W' _ hx => absurd hx (lost_first (by omega))) (fun W' hBW _ => by
    have hNW : NAt W' (grow o W nobody) 1 ba P A := a1.chg (S := fun _ => False) (Chg.of_below hBW _ _) (fun g hg => hg.elim) (grow_ext o W nobody)
    refine (hearBack_lost 1 ba 0 (grow o W nobody) P A t 2 (n' : Int) (65536 + (n' : Int)) 1 1 (rp n' bv) a m cap W' (by omega) hNW (by omega) hN.tr hT.rI (hArg.below hBW) hc (lost_ok (by omega)).1 (by rw [hT.kids]; simp) (by omega) (by omega) hnum hip hw (rp_fault (by omega)) (by simp [rp, rL]) hff (by rw [hN.lt]; simp)).mono ?_
    rintro e w' ⟨rfl, hd⟩
    exact ⟨0, rfl, fun _ => ⟨_, ⟨rfl, rfl⟩, hd⟩, fun hx => absurd rfl hx⟩)
  refine C.mono ?_
  rintro e w' ⟨f, rfl, g1, g2⟩
  have hf0 : f = 0 := by
    by_cases hf : f = 0
    · exact hf
    · exact (g2 hf).1.1
  subst hf0
  obtain ⟨N', ⟨_, rfl⟩, hd⟩ := g1 rfl
  refine ⟨rfl, _, B, Two.of_done h.bel h.ne a2 a3 hd, ⟨?_, t, ⟨hN.id, rfl, hN.tr, hN.no, hN.sb, hN.ls, rfl⟩, hT, hR⟩, hB⟩
  show A.lt ++ _ = _
  rw [hN.lt, hT.tk, hT.ep]
  rfl
/-- whatever bytes -/
theorem PP.hearX {w W : World} {ba bb s : Nat} {φ : Nd → Prop} (h : PP w W ba bb φ (fB 1 1 s [])) (a : Option Addr) (m cap : Nat) (X : List Nat) (hArg : Arg W a m X) (hc : m ≤ cap) (hr : m ≤ 140737488355328) :
    Calls Tryz.prog 9 #[.pointer (some ⟨bb, 0, none⟩), .int .i64 1, .slice a m cap, .int .i64 1] W fun e w' => ∃ f, e = .returned (errv f) ∧ (FM.bfault X ≠ 0 → Back.rfault X ≠ 0 → f ≠ 0) ∧ Below w.heap.size w w' ∧ (f ≠ 0 → PP w w' ba bb φ (fB 1 1 s [])) := by
  obtain ⟨A, B, h, hA, ⟨t, hN, hT⟩⟩ := h
  obtain ⟨o, P, Q, a1, a2, a3, a4⟩ := h.swap.at'
  have hls : SInv B.sb B.ls := by rw [hN.sb, hN.ls]; exact sinv_nil
  have C := hear_gen 2 bb o P B 1 1 a m cap X W (fun f _ => FM.bfault X ≠ 0 → Back.rfault X ≠ 0 → f ≠ 0) (by omega) a1 (by rw [hN.nw]; decide) hArg (fun W' hBW _ => by
    have hNW : NAt W' (grow o W nobody) 2 bb P B := a1.chg (S := fun _ => False) (Chg.of_below hBW _ _) (fun g hg => hg.elim) (grow_ext o W nobody)
    refine (hearFrame_any 2 bb (grow o W nobody) P B t 1 1 a m cap X W' (by omega) hNW hN.tr hN.no hT.gI hT.rI (hArg.below hBW) hc hr hN.sb hls (by rw [hN.lt, hT.kids]; simp)).mono ?_
    rintro e w' ⟨f, rfl, g1, g2⟩
    exact ⟨f, rfl, fun h0 => by obtain ⟨N', k1, k2⟩ := g1 h0; exact ⟨N', fun x _ => k1 x, k2⟩, fun h0 => ⟨fun x _ => (g2 h0).1 x, (g2 h0).2⟩⟩) (fun W' hBW _ => by
    have hNW : NAt W' (grow o W nobody) 2 bb P B := a1.chg (S := fun _ => False) (Chg.of_below hBW _ _) (fun g hg => hg.elim) (grow_ext o W nobody)
    by_cases hx : Back.rfault X = 0
    · refine (hearBack_no 2 bb (grow o W nobody) P B 1 a m cap X W' hNW (hArg.below hBW) hc hx (fun i hi t' ht' => ?_)).mono ?_
      · by_cases h0 : i = 0
        · subst h0
          rw [hN.tr] at ht'
          cases ht'
          rw [hT.kids]
          simp
        · rw [hN.no i h0] at ht'
          cases ht'
      · rintro e w' ⟨f, hf, rfl, hb⟩
        exact ⟨f, rfl, fun h0 => absurd h0 hf, fun h0 => ⟨fun _ _ => h0, hb⟩⟩
    · refine (hearBack_bad bb 1 a m cap X W' (hArg.below hBW) hc hx).mono ?_
      rintro e w' ⟨rfl, hb⟩
      exact ⟨_, rfl, fun h0 => absurd h0 hx, fun h0 => ⟨fun _ _ => h0, hb⟩⟩)
  refine C.mono ?_
  rintro e w' ⟨f, rfl, g1, g2⟩
  by_cases hf : f = 0
  · obtain ⟨N', k1, hd⟩ := g1 hf
    exact ⟨f, rfl, k1, (Two.of_done h.bel h.swap.ne a2 a3 hd).bel, fun hx => absurd hf hx⟩
  · obtain ⟨k1, hb⟩ := g2 hf
    have hT2 := h.below hb
    exact ⟨f, rfl, k1, hT2.bel, fun _ => ⟨A, B, hT2, hA, t, hN, hT⟩⟩
/-- both are made and planned -/
theorem lit_one (w : World) (x : Int) : Gaps.IArg (w.alloc (.cells #[.int .i64 x] 3)) (some ⟨w.heap.size, 0, none⟩) 1 [x] := by
  refine ⟨fun j hj => ⟨w.heap.size, 0, rfl, ?_⟩, rfl, by omega⟩
  simp at hj
  subst hj
  simp
theorem Two.planA {w W : World} {ba bb : Nat} (h : Two w W 1 2 ba bb (nd0 1) (nd0 2)) :
    Calls Tryz.prog 5 #[.pointer (some ⟨ba, 0, none⟩), .int .i64 1, .int .i64 (-1), .slice (some ⟨W.heap.size, 0, none⟩) 1 1, .int .i64 1] (W.alloc (.cells #[.int .i64 2] 3)) fun e w' => e = .returned .nilIface ∧ PP w w' ba bb fA0 fun N => N = nd0 2 := by
  refine (h.plan ((Below.refl _ _).alloc (Nat.le_refl _) _) 1 (-1) 1 _ 1 1 [2] (lit_one W 2) (fun e => by cases e) (fun ad e => by cases e; exact Nat.le_refl _) sinv_nil (by simp [nd0]) (by decide)).mono ?_
  rintro e w' ⟨rfl, hT⟩
  exact ⟨rfl, _, _, hT, ⟨rfl, rfl, rfl, fun i hi => by show updR (nd0 1).tr 0 _ i = none; unfold updR; rw [if_neg hi]; rfl, rfl, rfl, rfl⟩, rfl⟩
theorem PP.planB {w W : World} {ba bb : Nat} (h : PP w W ba bb fA0 fun N => N = nd0 2) :
    Calls Tryz.prog 5 #[.pointer (some ⟨bb, 0, none⟩), .int .i64 1, .int .i64 1, .slice (some ⟨W.heap.size, 0, none⟩) 1 1, .int .i64 1] (W.alloc (.cells #[.int .i64 3] 3)) fun e w' => e = .returned .nilIface ∧ PP w w' ba bb fA0 fB0 := by
  obtain ⟨A, B, h, hA, rfl⟩ := h
  refine (h.swap.plan ((Below.refl _ _).alloc (Nat.le_refl _) _) 1 1 1 _ 1 1 [3] (lit_one W 3) (fun e => by cases e) (fun ad e => by cases e; exact Nat.le_refl _) sinv_nil (by simp [nd0]) (by decide)).mono ?_
  rintro e w' ⟨rfl, hT⟩
  exact ⟨rfl, _, _, hT.swap, hA, ⟨rfl, rfl, rfl, fun i hi => by show updR (nd0 2).tr 0 _ i = none; unfold updR; rw [if_neg hi]; rfl, rfl, rfl, rfl⟩⟩
set_option maxRecDepth 100000 in
/-- the law's packet of a number -/
theorem packet_calls (n : Nat) (hn : n ≤ 1000) (w : World) :
    Calls Tryz.prog 7 #[.int .i64 (n : Int), .int .i64 0] w fun e w' => ∃ g, e = .returned (.agg #[.int .i64 (n : Int), .int .i64 (n : Int), .int .i64 0, .int .i64 0, .bool true, .slice (some ⟨g, 0, none⟩) 2 2]) ∧ Arg w' (some ⟨g, 0, none⟩) 2 (rL n) ∧ w.heap.size ≤ g ∧ Below w.heap.size w w' := by
  have e1 : (n : Int).tmod 65536 = (n : Int) := by rw [Int.tmod_eq_emod_of_nonneg (by omega)]; omega
  go_enter Tryz.func7, Tryz.ntmps7
  go_wp2_with fail
  have hc := heap_alloc_new (w.alloc (.cells #[.int .i64 (n : Int), .int .i64 (n : Int), .int .i64 0, .int .i64 0, .bool true, .slice (some ⟨w.heap.size + 1, 0, none⟩) 2 2] 32)) (.cells #[.int .u8 ((n : Int) % 256), .int .u8 ((n : Int) / 256 % 256)] 5)
  simp only [World.size_alloc] at hc
  have hbx := (Pack.Box.new w (n : Int) (n : Int) 0 0 true (.slice (some ⟨w.heap.size + 1, 0, none⟩) 2 2)).alloc (.cells #[.int .u8 ((n : Int) % 256), .int .u8 ((n : Int) / 256 % 256)] 5)
  have hbl : Below w.heap.size w ((w.alloc (.cells #[.int .i64 (n : Int), .int .i64 (n : Int), .int .i64 0, .int .i64 0, .bool true, .slice (some ⟨w.heap.size + 1, 0, none⟩) 2 2] 32)).alloc (.cells #[.int .u8 ((n : Int) % 256), .int .u8 ((n : Int) / 256 % 256)] 5)) := ((Below.refl _ _).alloc (Nat.le_refl _) _).alloc (by simp) _
  obtain ⟨W2, hW2⟩ : ∃ W2, (w.alloc (.cells #[.int .i64 (n : Int), .int .i64 (n : Int), .int .i64 0, .int .i64 0, .bool true, .slice (some ⟨w.heap.size + 1, 0, none⟩) 2 2] 32)).alloc (.cells #[.int .u8 ((n : Int) % 256), .int .u8 ((n : Int) / 256 % 256)] 5) = W2 := ⟨_, rfl⟩
  rw [hW2] at hc hbl hbx
  rw [hW2]
  refine bodyPost_ret (Pack.res_pk1 (g := w.heap.size) rfl rfl hbx) rfl ?_
  refine ⟨w.heap.size + 1, rfl, ⟨⟨rL_lt n, fun j hj => ⟨w.heap.size + 1, 0, rfl, ?_⟩⟩, rfl, by omega⟩, by omega, hbl⟩
  have hj2 : j < 2 := hj
  rcases (by omega : j = 0 ∨ j = 1) with rfl | rfl
  · simp [World.cell?, hc, rL]
  · simp [World.cell?, hc, rL]
end Go.Proofs.YtijfocggdjjnjaiGreat.ND

