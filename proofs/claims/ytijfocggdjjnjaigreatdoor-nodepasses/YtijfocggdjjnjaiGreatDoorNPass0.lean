/-
  A node alone: what is sent, heard, and goes out. Its condition: the node is such as it may be, and nobody subscribes.
-/
import Derived.Test.YtijfocggdjjnjaiGreatDoorNPlans0
import Derived.Test.YtijfocggdjjnjaiGreatDoorNodeX
import Derived.Test.YtijfocggdjjnjaiGreatDoorSame
namespace Go.Proofs.YtijfocggdjjnjaiGreatDoor.ND
open Go.ChangeShapes Go.WideShapes Go.ChangeAt Go.RowKit Go.Maps Go.Proofs.YtijfocggdjjnjaiGreatDoor.Mem Go.Proofs.YtijfocggdjjnjaiGreatDoor.NO
set_option linter.unusedVariables false

theorem One.fresh {w W : World} {b : Nat} {N : Nd} (h : One w W b N) : ∃ o P, NAt W o 1 b P N ∧ (∀ k, k < w.heap.size → (o k).n = 0) ∧ ∀ k, W.heap.size ≤ k → (o k).n = 0 := by
  obtain ⟨o, P, h1, h2⟩ := h.at'
  refine ⟨grow o W nobody, P, h1.chg (S := fun _ => False) (Chg.refl _ _ _) (fun g hg => hg.elim) (grow_ext o W nobody), fun k hk => ?_, fun k hk => by rw [grow_new hk]⟩
  rw [grow_old (by have := h.bel.size; omega)]
  exact h2 k hk
theorem One.of_done {w W W' : World} {b : Nat} {N : Nd} {o : Nat → Tg} (hb : Below w.heap.size w W) (h2 : ∀ k, k < w.heap.size → (o k).n = 0) (hd : Done W W' o 1 b N) : One w W' b N := by
  obtain ⟨o', P', q1, q2, q3⟩ := hd
  have hs := hb.size
  exact ⟨below_chg hb hs q3 (fun k hk => by rw [h2 k hk]; omega), o', P', q1, fun k hk => by rw [q2 k (by omega)]; exact h2 k hk⟩
/-- Plan with kids of the caller's own making -/
theorem One.planNew {w W W1 : World} {b : Nat} {N : Nd} (h : One w W b N) (hb : Below W.heap.size W W1) (tk pa ep : Int) (a : Option Addr) (m cap : Nat) (K : List Int) (hK : Gaps.IArg W1 a m K) (hno : a = none → m = 0 ∧ cap = 0) (hfr : ∀ ad, a = some ad → W.heap.size ≤ ad.block) (hI : SInv N.sb N.ls) (hall : ∀ x ∈ N.sb, x.2.tk = tk) (hf : pF N tk pa K ep = 0) :
    Calls Tryz.prog 8 #[.pointer (some ⟨b, 0, none⟩), .int .i64 tk, .int .i64 pa, .slice a m cap, .int .i64 ep] W1 fun e w' => e = .returned .nilIface ∧ One w w' b (N.plan tk pa K ep) := by
  obtain ⟨o, P, h1, h2, h3⟩ := h.fresh
  refine (plan_ok 1 b o P N tk pa ep a m cap K W1 (by omega) (h1.below hb) hI hall hK hno (fun ad e _ => by rw [h3 _ (hfr ad e)]; omega) hf).mono ?_
  rintro e w' ⟨rfl, hd⟩
  exact ⟨rfl, One.of_done (h.bel.trans (hb.mono h.bel.size)) h2 hd⟩
theorem One.send {w W : World} {b k : Nat} {N : Nd} {tr : Tr} (h : One w W b N) (now s t l q : Int) (st : Bool) (a : Option Addr) (m cap : Nat) (L : List Nat) (hi : k < 8) (ht : N.tr k = some tr) (hpa : tr.pa = -1) (hnow : GM.tf N.nw now = 0) (hG : GM.Inv 3 3 tr.gn tr.gT tr.gM) (hR : RM.Inv 64 tr.rT tr.rM) (hA : Arg W a m L) (hno : a = none → m = 0 ∧ cap = 0) (hf : PM.fault s t l q m = 0) (hF : 0 < m → ∀ ad, a = some ad → ad.block < w.heap.size) (hsb : N.sb = []) (hls : SInv N.sb N.ls) (hl : N.lt.length + tr.kids.length ≤ 1000000) :
    Calls Tryz.prog 7 #[.pointer (some ⟨b, 0, none⟩), .int .i64 ((k : Int) + 1), .agg #[.int .i64 s, .int .i64 t, .int .i64 l, .int .i64 q, .bool st, .slice a m cap], .int .i64 now] W fun e w' => e = .returned .nilIface ∧ One w w' b (({ N with nw := now } : Nd).took k tr ⟨s, t, l, q, st, L, .slice a m cap⟩ N.id 1 now) := by
  obtain ⟨o, P, h1, h2⟩ := h.at'
  refine (send_ok 1 b k o P N tr now s t l q st a m cap L W (by omega) h1 hi ht hpa hnow hG hR hA hno hf (fun hm ad e => h2 _ (hF hm ad e)) hsb hls hl).mono ?_
  rintro e w' ⟨rfl, hd⟩
  exact ⟨rfl, One.of_done h.bel h2 hd⟩
/-- what is heard of one -/
def HeardO (w w' : World) (b : Nat) (N : Nd) (k : Nat) (tr : Tr) (s t l q : Int) (st : Bool) (L : List Nat) (og h now : Int) (f : Nat) : Prop :=
  (f = 0 → ∃ bv, One w w' b { N.took k tr ⟨s, t, l, q, st, L, bv⟩ og h now with nw := now }) ∧ (f ≠ 0 → One w w' b N)
theorem One.hear {w W : World} {b k : Nat} {N : Nd} {tr : Tr} (hO : One w W b N) (fr now og ep h s t l q : Int) (st : Bool) (a : Option Addr) (m cap : Nat) (L : List Nat) (hi : k < 8) (ht : N.tr k = some tr) (hnow : GM.tf N.nw now = 0) (hG : GM.Inv 3 3 tr.gn tr.gT tr.gM) (hR : RM.Inv 64 tr.rT tr.rM) (hA : Arg W a m (fby ((k : Int) + 1) og ep h (pby s t l q st L))) (hc : m ≤ cap) (hff : FM.ffault ((k : Int) + 1) og ep h (pby s t l q st L) = 0) (hf : PM.fault s t l q L.length = 0) (hL : ∀ c ∈ L, c < 256) (hsb : N.sb = []) (hls : SInv N.sb N.ls) (hl : N.lt.length + tr.kids.length ≤ 1000000) :
    Calls Tryz.prog 15 #[.pointer (some ⟨b, 0, none⟩), .int .i64 fr, .slice a m cap, .int .i64 now] W fun e w' => e = .returned (errv (hrF tr fr ep)) ∧ HeardO w w' b N k tr s t l q st L og (h + 1) now (hrF tr fr ep) := by
  obtain ⟨o, P, h1, h2⟩ := hO.at'
  refine (hear_frame 1 b k o P N tr fr now og ep h s t l q st a m cap L W (by omega) h1 hi ht hnow hG hR hA hc hff hf hL hsb hls hl).mono ?_
  rintro e w' ⟨rfl, hd⟩
  exact ⟨rfl, fun h0 => by obtain ⟨bv, hd⟩ := hd.1 h0; exact ⟨bv, One.of_done hO.bel h2 hd⟩, fun h0 => hO.below (hd.2 h0)⟩
/-- letters, in memory that nobody changes -/
def Lets (W : World) (lv : Value) (G : List (Int × List Nat)) : Prop :=
  ∃ X : List ((Int × List Nat) × Value), X.map Prod.fst = G ∧ W.ownsRow 0 49 2 lv X.length (X.flatMap fun x => [.int .i64 x.1.1, x.2]) ∧ ∀ x ∈ X, ∃ a m c, x.2 = .slice a m c ∧ Arg W a m x.1.2 ∧ m ≤ c
theorem One.out {w W : World} {b : Nat} {N : Nd} (h : One w W b N) :
    Calls Tryz.prog 11 #[.pointer (some ⟨b, 0, none⟩)] W fun e w' => ∃ a c, e = .returned (.slice a N.lt.length c) ∧ Lets w' (.slice a N.lt.length c) N.lt ∧ One w w' b { N with lt := [] } := by
  obtain ⟨o, P, h1, h2⟩ := h.at'
  refine (out_calls 1 b o P N W (by omega) h1).mono ?_
  rintro e w' ⟨lv, o', P', rfl, q1, q2, q3, q4, q5⟩
  obtain ⟨X, r1, r2, r3⟩ := q2
  have hlen : N.lt.length = X.length := by rw [← r1, List.length_map]
  have hL : Lets w' lv N.lt := ⟨X, r1, r2, fun x hx => by obtain ⟨⟨a, m, c, e, hA, _⟩, hc⟩ := r3 x hx; exact ⟨a, m, c, e, hA, (hc a m c e).1⟩⟩
  have hO : One w w' b { N with lt := [] } := ⟨below_chg h.bel h.bel.size q5 (fun k hk => by rw [h2 k hk]; omega), o', P', q1, fun k hk => by
    rcases q4 k (by have := h.bel.size; omega) with e | e
    · rw [e]; exact h2 k hk
    · rw [e.2]⟩
  rcases r2.2 with ⟨rfl, h0⟩ | ⟨g, cap, cur, rfl, _⟩
  · exact ⟨none, 0, by rw [hlen, h0], by rw [hlen, h0]; exact hL, hO⟩
  · exact ⟨some ⟨g, 0, none⟩, cap, by rw [hlen], by rw [hlen]; exact hL, hO⟩
/-- a row's j-th cell -/
theorem flat2 : ∀ (X : List ((Int × List Nat) × Value)) (i : Nat) (h : i < X.length), (X.flatMap fun x => [Value.int .i64 x.1.1, x.2])[i * 2]? = some (.int .i64 X[i].1.1) ∧ (X.flatMap fun x => [Value.int .i64 x.1.1, x.2])[i * 2 + 1]? = some X[i].2
  | [], i, h => absurd h (by simp)
  | x :: X, 0, h => by simp
  | x :: X, i + 1, h => by
    have := flat2 X i (by simpa using h)
    simp only [List.flatMap_cons, List.getElem_cons_succ]
    rw [show (i + 1) * 2 = i * 2 + 2 by omega]
    simpa using this
theorem Lets.at {W : World} {a : Option Addr} {n c : Nat} {G : List (Int × List Nat)} (h : Lets W (.slice a n c) G) (hn : 0 < G.length) : ∃ g, a = some ⟨g, 0, none⟩ ∧ n = G.length ∧ n ≤ c ∧ ∀ i (hi : i < G.length), ∃ a' m' c', W.cell? ⟨g, i * 2, none⟩ = some (.int .i64 G[i].1) ∧ W.cell? ⟨g, i * 2 + 1, none⟩ = some (.slice a' m' c') ∧ Arg W a' m' G[i].2 ∧ m' ≤ c' := by
  obtain ⟨X, r1, r2, r3⟩ := h
  have hlen : G.length = X.length := by rw [← r1, List.length_map]
  rcases r2.2 with ⟨e, h0⟩ | ⟨g, cap, cur, e, _, _, hcc, _⟩
  · omega
  · cases e
    refine ⟨g, rfl, by omega, hcc, fun i hi => ?_⟩
    have hix : i < X.length := by omega
    obtain ⟨f1, f2⟩ := flat2 X i hix
    obtain ⟨a', m', c', e', hA, hm⟩ := r3 X[i] (List.getElem_mem hix)
    have hG : G[i] = X[i].1 := by simp [← r1]
    rw [e'] at f2
    have hl : (X.flatMap fun x => [Value.int .i64 x.1.1, x.2]).length = X.length * 2 := r2.1
    refine ⟨a', m', c', ?_, ?_, by rw [hG]; exact hA, hm⟩
    · rw [r2.cellAt (i * 2) (by omega), f1, hG]
    · rw [r2.cellAt (i * 2 + 1) (by omega), f2]
theorem Lets.below {W W' : World} {lv : Value} {G : List (Int × List Nat)} (h : Lets W lv G) (hb : Below W.heap.size W W') : Lets W' lv G := by
  obtain ⟨X, r1, r2, r3⟩ := h
  refine ⟨X, r1, (Only.of_below hb []).owns r2 (by simp), fun x hx => ?_⟩
  obtain ⟨a, m, c, e, hA, hm⟩ := r3 x hx
  exact ⟨a, m, c, e, hA.below hb, hm⟩
/-- a node alone, and bytes that it does not touch -/
structure OneA (w W : World) (b : Nat) (N : Nd) (a : Option Addr) (m : Nat) (B : List Nat) : Prop where
  bel : Below w.heap.size w W
  at' : ∃ o P, NAt W o 1 b P N ∧ (∀ k, k < w.heap.size → (o k).n = 0) ∧ Arg W a m B ∧ (0 < m → ∀ ad, a = some ad → (o ad.block).n = 0)
theorem OneA.one {w W : World} {b : Nat} {N : Nd} {a : Option Addr} {m : Nat} {B : List Nat} (h : OneA w W b N a m B) : One w W b N := by
  obtain ⟨o, P, h1, h2, _⟩ := h.at'
  exact ⟨h.bel, o, P, h1, h2⟩
theorem OneA.arg {w W : World} {b : Nat} {N : Nd} {a : Option Addr} {m : Nat} {B : List Nat} (h : OneA w W b N a m B) : Arg W a m B := by
  obtain ⟨o, P, _, _, h3, _⟩ := h.at'
  exact h3
theorem OneA.make {w W W1 : World} {b : Nat} {N : Nd} {a : Option Addr} {m : Nat} {B : List Nat} (h : One w W b N) (hb : Below W.heap.size W W1) (hA : Arg W1 a m B) (hf : ∀ ad, a = some ad → W.heap.size ≤ ad.block) : OneA w W1 b N a m B := by
  obtain ⟨o, P, h1, h2, h3⟩ := h.fresh
  exact ⟨h.bel.trans (hb.mono h.bel.size), o, P, h1.below hb, h2, hA, fun _ ad e => h3 _ (hf ad e)⟩
theorem OneA.below {w W W' : World} {b : Nat} {N : Nd} {a : Option Addr} {m : Nat} {B : List Nat} (h : OneA w W b N a m B) (hb : Below W.heap.size W W') : OneA w W' b N a m B := by
  obtain ⟨o, P, h1, h2, h3, h4⟩ := h.at'
  exact ⟨h.bel.trans (hb.mono h.bel.size), o, P, h1.below hb, h2, h3.below hb, h4⟩
theorem arg_block {W : World} {a : Option Addr} {m : Nat} {B : List Nat} (h : Arg W a m B) (hm : 0 < m) : ∀ ad, a = some ad → ad.block < W.heap.size := by
  intro ad e
  obtain ⟨b', o', e', hc⟩ := h.1.2 0 (by have := h.2.1; omega)
  rw [e] at e'
  cases e'
  exact World.block_lt_of_cell? W ⟨b', o' + 0, none⟩ hc
def HeardA (w w' : World) (b : Nat) (N : Nd) (a : Option Addr) (m : Nat) (B : List Nat) (k : Nat) (tr : Tr) (s t l q : Int) (st : Bool) (L : List Nat) (og h now : Int) (f : Nat) : Prop :=
  (f = 0 → ∃ bv, OneA w w' b { N.took k tr ⟨s, t, l, q, st, L, bv⟩ og h now with nw := now } a m B) ∧ (f ≠ 0 → OneA w w' b N a m B)
theorem OneA.hear {w W : World} {b k : Nat} {N : Nd} {tr : Tr} {a : Option Addr} {m : Nat} (cap : Nat) {og ep h s t l q : Int} {st : Bool} {L : List Nat} (hO : OneA w W b N a m (fby ((k : Int) + 1) og ep h (pby s t l q st L))) (fr now : Int) (hi : k < 8) (ht : N.tr k = some tr) (hnow : GM.tf N.nw now = 0) (hG : GM.Inv 3 3 tr.gn tr.gT tr.gM) (hR : RM.Inv 64 tr.rT tr.rM) (hc : m ≤ cap) (hff : FM.ffault ((k : Int) + 1) og ep h (pby s t l q st L) = 0) (hf : PM.fault s t l q L.length = 0) (hL : ∀ c ∈ L, c < 256) (hsb : N.sb = []) (hls : SInv N.sb N.ls) (hl : N.lt.length + tr.kids.length ≤ 1000000) :
    Calls Tryz.prog 15 #[.pointer (some ⟨b, 0, none⟩), .int .i64 fr, .slice a m cap, .int .i64 now] W fun e w' => e = .returned (errv (hrF tr fr ep)) ∧ HeardA w w' b N a m (fby ((k : Int) + 1) og ep h (pby s t l q st L)) k tr s t l q st L og (h + 1) now (hrF tr fr ep) := by
  obtain ⟨o, P, h1, h2, h3, h4⟩ := hO.at'
  refine (hear_frame 1 b k o P N tr fr now og ep h s t l q st a m cap L W (by omega) h1 hi ht hnow hG hR h3 hc hff hf hL hsb hls hl).mono ?_
  rintro e w' ⟨rfl, hd⟩
  refine ⟨rfl, fun h0 => ?_, fun h0 => hO.below (hd.2 h0)⟩
  obtain ⟨bv, o', P', q1, q2, q3⟩ := hd.1 h0
  have hO' := One.of_done (o := o) hO.bel h2 ⟨o', P', q1, q2, q3⟩
  refine ⟨bv, hO'.bel, o', P', q1, fun k hk => by rw [q2 k (by have := hO.bel.size; omega)]; exact h2 k hk, q3.arg h3 (fun hm ad e hs => ?_), fun hm ad e => ?_⟩
  · have := h4 hm ad e
    unfold mine at hs
    omega
  · rw [q2 _ (arg_block h3 hm ad e)]
    exact h4 hm ad e
theorem OneA.out {w W : World} {b : Nat} {N : Nd} {a : Option Addr} {m : Nat} {B : List Nat} (h : OneA w W b N a m B) :
    Calls Tryz.prog 11 #[.pointer (some ⟨b, 0, none⟩)] W fun e w' => ∃ la c, e = .returned (.slice la N.lt.length c) ∧ Lets w' (.slice la N.lt.length c) N.lt ∧ OneA w w' b { N with lt := [] } a m B := by
  obtain ⟨o, P, h1, h2, h3, h4⟩ := h.at'
  refine (out_calls 1 b o P N W (by omega) h1).mono ?_
  rintro e w' ⟨lv, o', P', rfl, q1, q2, q3, q4, q5⟩
  obtain ⟨X, r1, r2, r3⟩ := q2
  have hlen : N.lt.length = X.length := by rw [← r1, List.length_map]
  have hL : Lets w' lv N.lt := ⟨X, r1, r2, fun x hx => by obtain ⟨⟨a, m, c, e, hA, _⟩, hc⟩ := r3 x hx; exact ⟨a, m, c, e, hA, (hc a m c e).1⟩⟩
  have hz : ∀ k, k < W.heap.size → (o k).n = 0 → (o' k).n = 0 := by
    intro k hk h0
    rcases q4 k hk with e | e
    · rw [e]; exact h0
    · rw [e.2]
  have hO : OneA w w' b { N with lt := [] } a m B := ⟨below_chg h.bel h.bel.size q5 (fun k hk => by rw [h2 k hk]; omega), o', P', q1, fun k hk => hz k (by have := h.bel.size; omega) (h2 k hk), q5.arg h3 (fun hm ad e hs => by have := h4 hm ad e; unfold mine at hs; omega), fun hm ad e => hz _ (arg_block h3 hm ad e) (h4 hm ad e)⟩
  rcases r2.2 with ⟨rfl, h0⟩ | ⟨g, cap, cur, rfl, _⟩
  · exact ⟨none, 0, by rw [hlen, h0], by rw [hlen, h0]; exact hL, hO⟩
  · exact ⟨some ⟨g, 0, none⟩, cap, by rw [hlen], by rw [hlen]; exact hL, hO⟩
/-! a track of which nothing came yet -/
theorem first_lo (y : Int) : GM.lo (-1) y = 0 := by unfold GM.lo; rw [if_pos (.inl rfl)]
theorem first_hf {y now : Int} (h0 : 0 ≤ y) (h1 : y ≤ 1099511627776) (hn : 0 ≤ now) (hn1 : now ≤ 1000000) : GM.hf 0 (-1) [] y now = 0 := by
  have ht : GM.tf 0 now = 0 := by unfold GM.tf; rw [if_neg (by omega), if_neg (by omega)]
  unfold GM.hf
  rw [ht, first_lo, if_neg (by omega), if_neg (by omega), if_neg (by simp)]
theorem new_inv (tk ep pa : Int) (K : List Int) : GM.Inv 3 3 ((tr0 tk ep).to pa K).gn ((tr0 tk ep).to pa K).gT ((tr0 tk ep).to pa K).gM ∧ RM.Inv 64 ((tr0 tk ep).to pa K).rT ((tr0 tk ep).to pa K).rM :=
  ⟨GM.inv_start (by omega) (by omega) (by omega) (by omega), RM.inv_start (by omega) (by omega)⟩
theorem new_hB {tk ep pa s now : Int} {K : List Int} (h0 : 0 ≤ s) (h1 : s ≤ 65535) (hn : 0 ≤ now) (hn1 : now ≤ 1000000) : GM.hB ((tr0 tk ep).to pa K).gn ((tr0 tk ep).to pa K).gT ((tr0 tk ep).to pa K).gM (num ((tr0 tk ep).to pa K).rT s) now = true := by
  show GM.hB 0 (-1) [] (num (-1) s) now = true
  have e : num (-1) s = 65536 + s := rfl
  have hf : GM.hf 0 (-1) [] (65536 + s) now = 0 := first_hf (by omega) (by omega) hn hn1
  rw [e]
  unfold GM.hB GM.hx
  rw [hf]
  simp
  omega
theorem new_took {N : Nd} {k : Nat} {tk ep pa og h now : Int} {K : List Int} {p : RM.Pk} (h0 : 0 ≤ p.s) (h1 : p.s ≤ 65535) (hn : 0 ≤ now) (hn1 : now ≤ 1000000) :
    (N.took k ((tr0 tk ep).to pa K) p og h now).lt = N.lt ++ downs K (FM.ffault tk og ep h (pby p.s p.t p.l p.q p.st p.L)) (fby tk og ep h (pby p.s p.t p.l p.q p.st p.L)) ∧ (N.took k ((tr0 tk ep).to pa K) p og h now).tr k = some ((((tr0 tk ep).to pa K).heard (65536 + p.s) now).keep (65536 + p.s) p (og, h)) ∧ (N.took k ((tr0 tk ep).to pa K) p og h now).sb = N.sb ∧ (N.took k ((tr0 tk ep).to pa K) p og h now).ls = N.ls := by
  have hB := new_hB (tk := tk) (ep := ep) (pa := pa) (K := K) h0 h1 hn hn1
  unfold Nd.took
  rw [if_pos hB]
  exact ⟨rfl, updR_at _ _ _, rfl, rfl⟩
/-- the same one again is not new -/
theorem again_hB {tk ep pa og h now now' : Int} {K : List Int} {p : RM.Pk} (h0 : 0 ≤ p.s) (h1 : p.s ≤ 65535) (hn : 0 ≤ now) (hn1 : now ≤ now') (hn2 : now' ≤ 1000000) (T2 : Tr) (hT : T2 = (((tr0 tk ep).to pa K).heard (65536 + p.s) now).keep (65536 + p.s) p (og, h)) :
    GM.Inv 3 3 T2.gn T2.gT T2.gM ∧ RM.Inv 64 T2.rT T2.rM ∧ GM.hB T2.gn T2.gT T2.gM (num T2.rT p.s) now' = false ∧ T2.pa = pa ∧ T2.ep = ep ∧ T2.kids = K ∧ T2.tk = tk := by
  have hf : GM.hf 0 (-1) [] (65536 + p.s) now = 0 := first_hf (by omega) (by omega) hn (by omega)
  have hI := GM.inv_start (ag := 3) (tr := 3) (by omega) (by omega) (by omega) (by omega)
  have hI2 := GM.inv_hear2 (y := 65536 + p.s) (now := now) hI
  have hRI := RM.inv_start (n := 64) (by omega) (by omega)
  have hx : RM.px 64 (-1) (65536 + p.s) [] 0 = true := by
    unfold RM.px
    rw [RM.pf_mk (by omega) (by omega) rfl (by omega)]
    rfl
  have hR2 := RM.inv_step (y := 65536 + p.s) hRI 0 p
  have eT : T2 = { (((tr0 tk ep).to pa K).heard (65536 + p.s) now) with rT := RM.top (-1) (65536 + p.s), rM := RM.keeps 64 (RM.top (-1) (65536 + p.s)) [] ++ [(65536 + p.s, p)], wy := fun x => if x = 65536 + p.s then (og, h) else (0, 0) } := by
    rw [hT]
    exact Tr.keep_yes (t := ((tr0 tk ep).to pa K).heard (65536 + p.s) now) hx
  have eg : T2.gn = GM.hN 0 (-1) [] (65536 + p.s) now ∧ T2.gT = GM.hU 0 (-1) [] (65536 + p.s) now ∧ T2.gM = GM.hL 0 (-1) [] (65536 + p.s) now := by rw [eT]; exact ⟨rfl, rfl, rfl⟩
  have er : T2.rT = RM.top (-1) (65536 + p.s) ∧ T2.rM = RM.keeps 64 (RM.top (-1) (65536 + p.s)) [] ++ [(65536 + p.s, p)] := by rw [eT]; exact ⟨rfl, rfl⟩
  have et : RM.top (-1) (65536 + p.s) = 65536 + p.s := by unfold RM.top; rw [if_pos (by omega)]
  refine ⟨by rw [eg.1, eg.2.1, eg.2.2]; exact hI2, ?_, ?_, by rw [eT]; rfl, by rw [eT]; rfl, by rw [eT]; rfl, by rw [eT]; rfl⟩
  · have := hR2
    unfold RM.pT RM.pM at this
    rw [if_pos hx, if_pos hx] at this
    rw [er.1, er.2]
    exact this
  · have e1 : num T2.rT p.s = 65536 + p.s := by
      rw [er.1, et]
      unfold num
      rw [if_neg (by omega)]
      have hb : Ser.bey p.s (65536 + p.s) = 0 := by unfold Ser.bey; omega
      unfold Ser.unw
      rw [hb, if_neg (by omega)]
      omega
    have e2 : T2.gM = [] := by
      rw [eg.2.2]
      unfold GM.hL GM.hM
      rw [if_pos hf, if_pos (by omega), first_lo]
      rfl
    have e3 : T2.gT = 65536 + p.s := by
      rw [eg.2.1]
      unfold GM.hU GM.hT
      rw [if_pos hf, if_pos (by omega)]
    rw [e1, e2, e3]
    unfold GM.hB GM.hx GM.has
    simp
end Go.Proofs.YtijfocggdjjnjaiGreatDoor.ND

