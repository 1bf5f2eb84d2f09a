/-
  The stages of the law NodeSubs, each with the call that leads on. Its condition: the node is such as it may be.
-/
import Derived.Test.YtijfocggdjjnjaiGreatDoorSubO
import Derived.Test.YtijfocggdjjnjaiGreatDoorSubX
import Derived.Test.YtijfocggdjjnjaiGreatDoorNPlans0
namespace Go.Proofs.YtijfocggdjjnjaiGreatDoor.ND
open Go.ChangeShapes Go.WideShapes Go.ChangeAt Go.RowKit Go.Maps Go.Proofs.YtijfocggdjjnjaiGreatDoor.Mem Go.Proofs.YtijfocggdjjnjaiGreatDoor.NO
set_option linter.unusedVariables false

def rng (c : Nat) : List Int := (List.range c).map fun k : Nat => ((k : Int) + 1)
theorem rng_succ (c : Nat) : rng (c + 1) = rng c ++ [(c : Int) + 1] := by
  unfold rng
  rw [List.range_succ, List.map_append]
  rfl
theorem rng_len (c : Nat) : (rng c).length = c := by simp [rng]
theorem rng_mem {c : Nat} {x : Int} (h : x ∈ rng c) : 1 ≤ x ∧ x ≤ (c : Int) := by
  unfold rng at h
  obtain ⟨k, hk, rfl⟩ := List.mem_map.1 h
  simp only [List.mem_range] at hk
  omega
theorem rng_ris (c : Nat) : (rng c).Pairwise fun a b => a < b := by
  unfold rng
  rw [List.pairwise_map]
  exact List.pairwise_lt_range.imp (fun h => by omega)
theorem rng_split {j c : Nat} (h : j < c) : ∃ B, rng c = rng j ++ ((j : Int) + 1) :: B ∧ ∀ x ∈ B, (j : Int) + 1 < x := by
  obtain ⟨d, rfl⟩ : ∃ d, c = j + 1 + d := ⟨c - (j + 1), by omega⟩
  refine ⟨(List.range d).map fun k : Nat => (((j + 1 + k : Nat) : Int) + 1), ?_, ?_⟩
  · have : rng (j + 1 + d) = rng (j + 1) ++ (List.range d).map fun k : Nat => (((j + 1 + k : Nat) : Int) + 1) := by
      unfold rng
      rw [List.range_add, List.map_append, List.map_map]
      rfl
    rw [this, rng_succ, List.append_assoc]
    rfl
  · intro x hx
    obtain ⟨k, hk, rfl⟩ := List.mem_map.1 hx
    omega
theorem ids_rng (X : List Int) (f : Int → Sb) : ids (X.map fun x => (x, f x)) = X := by
  unfold ids
  rw [List.map_map]
  exact List.map_id X
theorem sinv_rng {c : Nat} (hc : c ≤ 20) {f : Int → Sb} (hm : ∀ x, 0 ≤ (f x).mo ∧ (f x).mo ≤ 3) : SInv ((rng c).map fun x => (x, f x)) (c : Int) := by
  refine ⟨by rw [ids_rng]; exact rng_ris c, ?_, by rw [List.length_map, rng_len]; exact hc, by omega, by omega⟩
  intro y hy
  obtain ⟨x, hx, rfl⟩ := List.mem_map.1 hy
  have := rng_mem hx
  exact ⟨this.1, this.2, hm x⟩
theorem sinv_more {l : List (Int × Sb)} {ls : Int} (h : SInv l ls) (hl : l.length < 20) (hs : ls < 1000000) {s : Sb} (hm : 0 ≤ s.mo ∧ s.mo ≤ 3) : SInv (l ++ [(ls + 1, s)]) (ls + 1) := by
  have hids : ids (l ++ [(ls + 1, s)]) = ids l ++ [ls + 1] := by simp [ids]
  have h0 := h.ls0
  refine ⟨?_, ?_, by simp; omega, by omega, by omega⟩
  · rw [hids, List.pairwise_append]
    refine ⟨h.ris, List.pairwise_singleton _ _, fun a ha b hb => ?_⟩
    simp only [List.mem_singleton] at hb
    obtain ⟨z, hz, rfl⟩ := List.mem_map.1 ha
    have := (h.mem z hz).2.1
    omega
  · intro y hy
    rcases List.mem_append.1 hy with hy | hy
    · have := h.mem y hy
      exact ⟨this.1, by omega, this.2.2⟩
    · simp only [List.mem_singleton] at hy
      subst hy
      exact ⟨by show 1 ≤ ls + 1; omega, Int.le_refl _, hm⟩
theorem sinv_less {l : List (Int × Sb)} {ls : Int} (h : SInv l ls) (x : Int) : SInv (l.filter fun y => decide (y.1 ≠ x)) ls := by
  refine ⟨?_, fun y hy => h.mem y (List.mem_filter.1 hy).1, Nat.le_trans (List.length_filter_le _ _) h.len, h.ls0, h.ls1⟩
  rw [ids_filter]
  exact h.ris.filter _
theorem less_len {l : List (Int × Sb)} {x : Int} (h : x ∈ ids l) : (l.filter fun y => decide (y.1 ≠ x)).length < l.length := by
  obtain ⟨z, hz, rfl⟩ := List.mem_map.1 h
  rw [List.length_filter_lt_length_iff_exists]
  exact ⟨z, hz, by simp⟩
theorem sF_ok {N : Nd} {mo : Int} (h0 : 0 ≤ mo) (h1 : mo ≤ 3) (ha : (N.at 1).isSome) (hl : N.sb.length < 20) : sF N 1 mo = 0 := by
  unfold sF
  rw [if_neg (by decide), if_neg (by omega), if_neg (by simp [Option.isNone_iff_eq_none]; intro e; rw [e] at ha; cases ha), if_neg (by omega)]
theorem sF_full {N : Nd} {mo : Int} (h0 : 0 ≤ mo) (h1 : mo ≤ 3) (ha : (N.at 1).isSome) (hl : 20 ≤ N.sb.length) : sF N 1 mo = 4 := by
  unfold sF
  rw [if_neg (by decide), if_neg (by omega), if_neg (by simp [Option.isNone_iff_eq_none]; intro e; rw [e] at ha; cases ha), if_pos hl]
/-- c subscribe -/
def S1 (w W : World) (b c : Nat) : Prop := ∃ N, One w W b N ∧ N.nw = 0 ∧ N.tr 0 = some ((tr0 1 0).to (-1) []) ∧ N.sb = (rng c).map (fun x => (x, s0 1 3)) ∧ N.ls = (c : Int) ∧ N.lt = []
theorem S1.start {w W : World} {b : Nat} (h : One w W b ((nd0 2).plan 1 (-1) [] 0)) : S1 w W b 0 := ⟨_, h, rfl, rfl, rfl, rfl, rfl⟩
theorem S1.bel {w W : World} {b c : Nat} (h : S1 w W b c) : Below w.heap.size w W := by
  obtain ⟨N, h1, _⟩ := h
  exact h1.bel
theorem S1.sub {w W : World} {b c : Nat} (h : S1 w W b c) (hc : c < 20) :
    Calls Tryz.prog 10 #[.pointer (some ⟨b, 0, none⟩), .int .i64 1, .int .i64 3] W fun e w' => e = .returned (.tuple #[.int .i64 ((c : Int) + 1), .nilIface]) ∧ S1 w w' b (c + 1) := by
  obtain ⟨N, h1, h2, h3, h4, h5, h6⟩ := h
  have hI : SInv N.sb N.ls := by rw [h4, h5]; exact sinv_rng (by omega) (fun _ => ⟨by show (0 : Int) ≤ 3; omega, by show (3 : Int) ≤ 3; omega⟩)
  have ha : (N.at 1).isSome := by show (N.tr 0).isSome; rw [h3]; rfl
  refine (h1.sub 1 3 hI (by rw [h5]; omega) (sF_ok (by omega) (by omega) ha (by rw [h4, List.length_map, rng_len]; exact hc))).mono ?_
  rintro e w' ⟨rfl, q⟩
  rw [h5]
  refine ⟨rfl, _, q, h2, h3, ?_, ?_, h6⟩
  · show N.sb ++ [(N.ls + 1, s0 1 3)] = _
    rw [h4, h5, rng_succ, List.map_append]
    rfl
  · show N.ls + 1 = _
    rw [h5]
    omega
/-- i packets are sent -/
def S2 (w W : World) (b many i : Nat) : Prop := ∃ N s t, One w W b N ∧ NS N (rng many) s t i ∧ N.ls = (many : Int)
theorem S1.two {w W : World} {b c : Nat} (h : S1 w W b c) (hc : c ≤ 20) : S2 w W b c 0 := by
  obtain ⟨N, h1, h2, h3, h4, h5, h6⟩ := h
  refine ⟨N, s0 1 3, _, h1, ⟨h2, h3, ⟨rfl, rfl, rfl, GM.inv_start (by omega) (by omega) (by omega) (by omega), RM.inv_start (by omega) (by omega), .inl rfl⟩, h4, SV.start 3 (by omega) (by omega), ?_, h6⟩, h5⟩
  rw [h4, h5]
  exact sinv_rng hc (fun _ => ⟨by show (0 : Int) ≤ 3; omega, by show (3 : Int) ≤ 3; omega⟩)
theorem S2.bel {w W : World} {b c i : Nat} (h : S2 w W b c i) : Below w.heap.size w W := by
  obtain ⟨N, _, _, h1, _⟩ := h
  exact h1.bel
theorem S2.below {w W W' : World} {b c i : Nat} (h : S2 w W b c i) (hb : Below W.heap.size W W') : S2 w W' b c i := by
  obtain ⟨N, s, t, h1, h2⟩ := h
  exact ⟨N, s, t, h1.below hb, h2⟩
theorem NS.more {N : Nd} {X : List Int} {s : Sb} {t : Tr} {i : Nat} (h : NS N X s t i) : NS N X s t (i + 1) := ⟨h.nw, h.tr, h.tv.more, h.sb, h.sv.more, h.si, h.lt⟩
theorem took_ls (N : Nd) (i : Nat) (t : Tr) (X : List Int) (s : Sb) (p : RM.Pk) (og h now : Int) (K : Nat) : (N.tookS i t X s p og h now K).ls = N.ls := by
  unfold Nd.tookS
  split <;> rfl
theorem S2.send {w W : World} {b many i : Nat} (h : S2 w W b many i) (hi : i < 20) (t l q : Int) (st : Bool) (a : Option Addr) (m cap : Nat) (L : List Nat) (hA : Arg w a m L) (hno : a = none → m = 0 ∧ cap = 0) :
    Calls Tryz.prog 7 #[.pointer (some ⟨b, 0, none⟩), .int .i64 1, .agg #[.int .i64 (i : Int), .int .i64 t, .int .i64 l, .int .i64 q, .bool st, .slice a m cap], .int .i64 0] W fun e w' => (∃ v, e = .returned v) ∧ S2 w w' b many (i + 1) := by
  obtain ⟨N, s, tr, h1, h2, h3⟩ := h
  obtain ⟨o, P, k1, k2⟩ := h1.at'
  have hnow : GM.tf N.nw 0 = 0 := by rw [h2.nw]; decide
  by_cases hf : PM.fault (i : Int) t l q m = 0
  · obtain ⟨K, c1, c2, c3, c4⟩ := h2.sv.step hi ⟨(i : Int), t, l, q, st, L⟩ (by show PM.fault (i : Int) t l q L.length = 0; rw [hA.2.1]; exact hf)
    have hnum := h2.tv.num hi
    refine (send_subs 1 b 0 o P N tr 0 (i : Int) t l q st a m cap L W (by omega) k1 (by omega) h2.tr h2.tv.pa hnow h2.tv.gI h2.tv.rI (hA.below h1.bel) hno hf ?_ (rng many) s K h2.sb h2.si (by rw [h2.lt, h2.tv.kid]; decide) ⟨h2.tv.kid, h2.sv.tk.trans h2.tv.tk.symm, h2.sv.inv, by rw [h2.sv.on]; decide, by rw [hnum]; exact c1, c2, c3⟩).mono ?_
    · intro hm ad e
      obtain ⟨b', o1, e', hc⟩ := hA.1.2 0 (by have := hA.2.1; omega)
      rw [e] at e'
      cases e'
      exact k2 _ (World.block_lt_of_cell? w ⟨b', o1 + 0, none⟩ hc)
    · rintro e w' ⟨rfl, o', P', q1, q2, q3⟩
      have hs := h1.bel.size
      obtain ⟨s', t', hN⟩ := h2.took (K := K) (p := ⟨(i : Int), t, l, q, st, L, .slice a m cap⟩) hi rfl c4
      exact ⟨⟨_, rfl⟩, _, s', t', ⟨below_chg h1.bel hs q3 (fun k hk => by rw [k2 k hk]; omega), o', P', q1, fun k hk => by rw [q2 k (by omega)]; exact k2 k hk⟩, hN, by rw [took_ls]; exact h3⟩
  · refine (send_bad 1 b 0 o P N tr 0 (i : Int) t l q st a m cap W k1 (by omega) h2.tr h2.tv.pa hnow hf).mono ?_
    rintro e w' ⟨f, rfl, hb⟩
    exact ⟨⟨_, rfl⟩, N, s, tr, h1.below hb, h2.more, h3⟩
/-- the first j of them gave up what they had -/
def gone (s : Sb) (j : Nat) (x : Int) : Sb := if x ≤ (j : Int) then { s with got := [] } else s
theorem gone_split {s : Sb} {j c : Nat} (h : j < c) : ∃ A B, (rng c).map (fun x => (x, gone s j x)) = A ++ ((j : Int) + 1, s) :: B ∧ (rng c).map (fun x => (x, gone s (j + 1) x)) = A ++ ((j : Int) + 1, { s with got := [] }) :: B := by
  obtain ⟨B, e, hB⟩ := rng_split h
  refine ⟨(rng j).map (fun x => (x, gone s j x)), B.map (fun x => (x, gone s j x)), ?_, ?_⟩
  · rw [e, List.map_append, List.map_cons]
    congr 2
    unfold gone
    rw [if_neg (by omega)]
  · rw [e, List.map_append, List.map_cons]
    congr 1
    · refine List.map_congr_left fun x hx => ?_
      have := rng_mem hx
      unfold gone
      rw [if_pos (by omega), if_pos (by omega)]
    · congr 1
      · unfold gone
        rw [if_pos (by omega)]
      · refine List.map_congr_left fun x hx => ?_
        have := hB x hx
        unfold gone
        rw [if_neg (by omega), if_neg (by omega)]
theorem gone_zero (s : Sb) (c : Nat) : (rng c).map (fun x => (x, gone s 0 x)) = (rng c).map (fun x => (x, s)) := by
  refine List.map_congr_left fun x hx => ?_
  have := rng_mem hx
  unfold gone
  rw [if_neg (by omega)]
theorem gone_mo (s : Sb) (j : Nat) (hm : 0 ≤ s.mo ∧ s.mo ≤ 3) (x : Int) : 0 ≤ (gone s j x).mo ∧ (gone s j x).mo ≤ 3 := by
  unfold gone
  split
  · exact hm
  · exact hm
/-- what was given stays -/
theorem GotAt.gave {w w' : World} {o o' : Nat → Tg} {gv : Value} {G : List Pk} {n : Nat} (h : GotAt w o gv G) (hn : n ≠ 0) (ho : Own o nobody gv.ownBlock.toList) (hc : Chg o (mine n) w w') (h0 : ∀ k, (o k).n = 0 → (o' k).n = 0) : GotAt w' o' gv G := by
  obtain ⟨bs, c1, c2, c3⟩ := hc
  have h' : GotAt w' o gv G := h.own c1 (fun k hk hb => by
    have e1 := ho k (by simp [hk])
    have e2 : (o k).n = n := c2 k hb
    rw [e1] at e2
    exact hn e2.symm) (fun k hk => by rw [show (o k).n = n from c2 k hk]; exact hn) (Ext.refl _ _)
  obtain ⟨X, x1, x2, x3⟩ := h'
  refine ⟨X, x1, x2, fun x hx => ?_⟩
  obtain ⟨a, m, c, e, y1, y2⟩ := x3 x hx
  exact ⟨a, m, c, e, y1, fun hm ad e => h0 _ (y2 hm ad e)⟩
/-- the first row is out, and j of them gave up theirs -/
def S3 (w W : World) (b many j : Nat) (fa : Option Addr) (fn fc : Nat) : Prop := ∃ N o P s, Below w.heap.size w W ∧ NAt W o 1 b P N ∧ (∀ k, k < w.heap.size → (o k).n = 0) ∧ N.sb = (rng many).map (fun x => (x, gone s j x)) ∧ N.ls = (many : Int) ∧ (N.at 1).isSome ∧ (0 ≤ s.mo ∧ s.mo ≤ 3) ∧ s.got.length = fn ∧ fn ≤ 1000 ∧ GotAt W o (.slice fa fn fc) s.got ∧ Own o nobody (Value.slice fa fn fc).ownBlock.toList
/-- and another -/
def S3b (w W : World) (b many j : Nat) (fa : Option Addr) (fn fc : Nat) (a : Option Addr) (c : Nat) : Prop := ∃ N o P s, Below w.heap.size w W ∧ NAt W o 1 b P N ∧ (∀ k, k < w.heap.size → (o k).n = 0) ∧ N.sb = (rng many).map (fun x => (x, gone s j x)) ∧ N.ls = (many : Int) ∧ (N.at 1).isSome ∧ (0 ≤ s.mo ∧ s.mo ≤ 3) ∧ s.got.length = fn ∧ fn ≤ 1000 ∧ GotAt W o (.slice fa fn fc) s.got ∧ Own o nobody (Value.slice fa fn fc).ownBlock.toList ∧ GotAt W o (.slice a fn c) s.got
theorem S2.got {w W : World} {b many i : Nat} (h : S2 w W b many i) (hi : i ≤ 20) (hm : 0 < many) (hm2 : many ≤ 20) :
    Calls Tryz.prog 17 #[.pointer (some ⟨b, 0, none⟩), .int .i64 1] W fun e w' => ∃ a n c, e = .returned (.tuple #[.slice a n c, .nilIface]) ∧ S3 w w' b many 1 a n c := by
  obtain ⟨N, s, tr, h1, h2, h3⟩ := h
  obtain ⟨o, P, k1, k2⟩ := h1.at'
  obtain ⟨A, B, e1, e2⟩ := gone_split (s := s) hm
  rw [gone_zero, ← h2.sb] at e1
  refine (got_calls 1 b o P N 1 s A B W (by omega) k1 e1 h2.si).mono ?_
  rintro e w' ⟨a, c, rfl, o', P', q1, q2, q3, q4, q5, q6⟩
  have hs := h1.bel.size
  refine ⟨a, _, c, rfl, _, o', P', s, below_chg h1.bel hs q6 (fun k hk => by rw [k2 k hk]; omega), q1, fun k hk => q4 k (k2 k hk), ?_, h3, ?_, h2.sv.mo, rfl, ?_, q2, q3⟩
  · exact e2.symm
  · show (N.tr 0).isSome
    rw [h2.tr]
    rfl
  · rcases h2.sv.ox with ⟨_, _, _, e⟩ | e
    · rw [e]; decide
    · omega
theorem S3.got {w W : World} {b many j : Nat} {fa : Option Addr} {fn fc : Nat} (h : S3 w W b many j fa fn fc) (hj : j < many) (hm2 : many ≤ 20) :
    Calls Tryz.prog 17 #[.pointer (some ⟨b, 0, none⟩), .int .i64 ((j : Int) + 1)] W fun e w' => ∃ a c, e = .returned (.tuple #[.slice a fn c, .nilIface]) ∧ S3b w w' b many (j + 1) fa fn fc a c := by
  obtain ⟨N, o, P, s, h1, h2, h3, h4, h5, h6, h7, h8, h9, h10, h11⟩ := h
  obtain ⟨A, B, e1, e2⟩ := gone_split (s := s) hj
  have hI : SInv N.sb N.ls := by rw [h4, h5]; exact sinv_rng hm2 (gone_mo s j h7)
  rw [← h4] at e1
  refine (got_calls 1 b o P N ((j : Int) + 1) s A B W (by omega) h2 e1 hI).mono ?_
  rintro e w' ⟨a, c, rfl, o', P', q1, q2, q3, q4, q5, q6⟩
  rw [h8] at q2
  rw [h8]
  refine ⟨a, c, rfl, _, o', P', s, below_chg h1 h1.size q6 (fun k hk => by rw [h3 k hk]; omega), q1, fun k hk => q4 k (h3 k hk), e2.symm, h5, h6, h7, h8, h9, h10.gave (by omega) h11 q6 q4, fun k hk => q5 k (h11 k hk), q2⟩
theorem S3b.same {w W : World} {b many j : Nat} {fa : Option Addr} {fn fc : Nat} {a : Option Addr} {c : Nat} (h : S3b w W b many j fa fn fc a c) :
    Calls Tryz.prog 18 #[.slice a fn c, .slice fa fn fc] W fun e w' => e = .returned (.bool true) ∧ S3 w w' b many j fa fn fc := by
  obtain ⟨N, o, P, s, h1, h2, h3, h4, h5, h6, h7, h8, h9, h10, h11, h12⟩ := h
  refine (gots_same a fa fn c fc o s.got W h12 h10 h8 h9).mono ?_
  rintro e w' ⟨rfl, hb⟩
  exact ⟨rfl, N, o, P, s, h1.trans (hb.mono h1.size), h2.below hb, h3, h4, h5, h6, h7, h8, h9, h10.bel hb, h11⟩
/-- c subscribe, some of them anew -/
def S4 (w W : World) (b c : Nat) : Prop := ∃ N, One w W b N ∧ SInv N.sb N.ls ∧ N.sb.length = c ∧ N.ls = (c : Int) ∧ (N.at 1).isSome ∧ 1 ∈ ids N.sb
theorem S3.four {w W : World} {b many j : Nat} {fa : Option Addr} {fn fc : Nat} (h : S3 w W b many j fa fn fc) (h0 : 0 < many) (hm2 : many ≤ 20) : S4 w W b many := by
  obtain ⟨N, o, P, s, h1, h2, h3, h4, h5, h6, h7, h8, h9, h10, h11⟩ := h
  refine ⟨N, ⟨h1, o, P, h2, h3⟩, by rw [h4, h5]; exact sinv_rng hm2 (gone_mo s j h7), by rw [h4, List.length_map, rng_len], h5, h6, ?_⟩
  rw [h4, ids_rng]
  unfold rng
  exact List.mem_map.2 ⟨0, by simpa using h0, rfl⟩
theorem S4.bel {w W : World} {b c : Nat} (h : S4 w W b c) : Below w.heap.size w W := by
  obtain ⟨N, h1, _⟩ := h
  exact h1.bel
theorem S4.sub {w W : World} {b c : Nat} (h : S4 w W b c) (hc : c < 20) :
    Calls Tryz.prog 10 #[.pointer (some ⟨b, 0, none⟩), .int .i64 1, .int .i64 0] W fun e w' => e = .returned (.tuple #[.int .i64 ((c : Int) + 1), .nilIface]) ∧ S4 w w' b (c + 1) := by
  obtain ⟨N, h1, hI, h3, h4, ha, h6⟩ := h
  refine (h1.sub 1 0 hI (by omega) (sF_ok (by omega) (by omega) ha (by omega))).mono ?_
  rintro e w' ⟨rfl, q⟩
  rw [h4]
  refine ⟨rfl, _, q, sinv_more hI (by omega) (by omega) ⟨by show (0 : Int) ≤ 0; omega, by show (0 : Int) ≤ 3; omega⟩, ?_, ?_, ha, ?_⟩
  · show (N.sb ++ [(N.ls + 1, s0 1 0)]).length = _
    simp [h3]
  · show N.ls + 1 = _
    rw [h4]
    omega
  · show 1 ∈ ids (N.sb ++ [(N.ls + 1, s0 1 0)])
    unfold ids
    rw [List.map_append]
    exact List.mem_append.2 (.inl h6)
theorem S4.full {w W : World} {b : Nat} (h : S4 w W b 20) :
    Calls Tryz.prog 10 #[.pointer (some ⟨b, 0, none⟩), .int .i64 1, .int .i64 0] W fun e w' => e = .returned (.tuple #[.int .i64 0, errv 4]) ∧ S4 w w' b 20 := by
  obtain ⟨N, h1, hI, h3, h4, ha, h6⟩ := h
  obtain ⟨o, P, k1, k2⟩ := h1.at'
  have hf := sF_full (N := N) (mo := 0) (by omega) (by omega) ha (by omega)
  have := sub_bad 1 b o P N 1 0 W k1 hI (by omega)
  rw [hf] at this
  refine this.mono ?_
  rintro e w' ⟨rfl, hb⟩
  exact ⟨rfl, N, h1.below hb, hI, h3, h4, ha, h6⟩
/-- one went -/
def S5 (w W : World) (b : Nat) : Prop := ∃ N, One w W b N ∧ SInv N.sb N.ls ∧ N.sb.length < 20 ∧ N.ls = 20 ∧ (N.at 1).isSome
theorem S4.unsub {w W : World} {b : Nat} (h : S4 w W b 20) :
    Calls Tryz.prog 19 #[.pointer (some ⟨b, 0, none⟩), .int .i64 1] W fun e w' => e = .returned .nilIface ∧ S5 w w' b := by
  obtain ⟨N, h1, hI, h3, h4, ha, h6⟩ := h
  obtain ⟨o, P, k1, k2⟩ := h1.at'
  refine (unsub_calls 1 b o P N 1 W (by omega) k1 h6 hI).mono ?_
  rintro e w' ⟨rfl, o', P', q1, q2, q3⟩
  have hs := h1.bel.size
  have hl := less_len h6
  exact ⟨rfl, N.less 1, ⟨below_chg h1.bel hs q3 (fun k hk => by rw [k2 k hk]; omega), o', P', q1, fun k hk => by rw [q2 k (by omega)]; exact k2 k hk⟩, sinv_less hI 1, by show (N.sb.filter fun y => decide (y.1 ≠ 1)).length < 20; omega, h4, ha⟩
theorem S5.sub {w W : World} {b : Nat} (h : S5 w W b) :
    Calls Tryz.prog 10 #[.pointer (some ⟨b, 0, none⟩), .int .i64 1, .int .i64 0] W fun e w' => (∃ v, e = .returned (.tuple #[v, .nilIface])) ∧ Below w.heap.size w w' := by
  obtain ⟨N, h1, hI, h3, h4, ha⟩ := h
  refine (h1.sub 1 0 hI (by omega) (sF_ok (by omega) (by omega) ha h3)).mono ?_
  rintro e w' ⟨rfl, q⟩
  exact ⟨⟨_, rfl⟩, q.bel⟩
end Go.Proofs.YtijfocggdjjnjaiGreatDoor.ND

