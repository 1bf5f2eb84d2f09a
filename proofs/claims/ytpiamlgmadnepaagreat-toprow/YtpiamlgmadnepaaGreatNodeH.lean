/-
  What beginSubs and Plan of package node return, and what they leave in memory, where all subscribers are of that track. Their condition: the node is such as it may be.
-/
import Derived.Test.YtpiamlgmadnepaaGreatNodeG
import Derived.Test.YtpiamlgmadnepaaGreatShelfB
namespace Go.Proofs.YtpiamlgmadnepaaGreat.ND
open Go.ChangeShapes Go.WideShapes Go.ChangeAt Go.RowKit Go.Maps Go.Proofs.YtpiamlgmadnepaaGreat.Mem Go.Proofs.YtpiamlgmadnepaaGreat.NO
set_option linter.unusedVariables false

/-- what a call leaves: this node, changed, and all else as it was -/
def DoneS (S : Tg → Prop) (w w' : World) (o : Nat → Tg) (n b : Nat) (N : Nd) : Prop := ∃ o' P, NAt w' o' n b P N ∧ Ext w o o' ∧ Chg o S w w'
abbrev Done (w w' : World) (o : Nat → Tg) (n b : Nat) (N : Nd) : Prop := DoneS (mine n) w w' o n b N
/-- of one sort -/
def cls (n c : Nat) (g : Tg) : Prop := g.n = n ∧ g.c = c
theorem chg_cls {o : Nat → Tg} {n : Nat} {w w' : World} {c : Nat} {j : Int} (h : Chg o (fun g => g = ⟨n, c, j⟩) w w') : Chg o (cls n c) w w' := h.mono (by rintro t rfl; exact ⟨rfl, rfl⟩)
theorem cls_mine {o : Nat → Tg} {n : Nat} {w w' : World} {c : Nat} (h : Chg o (cls n c) w w') : Chg o (mine n) w w' := h.mono (fun t ht => ht.1)
/-- a subscriber that begins anew -/
def sbegin (s : Sb) : Sb := ⟨s.tk, s.mo, 0, -1, [], -1, -1, false, 0, 0, 0, 0, s.got⟩
theorem begun_sb {w w1 : World} {o : Nat → Tg} {n : Nat} {x : Int} {Q : SP} {s : Sb} {ob om lb ub : Nat} (hn : n ≠ 0) (h : SbAt w o Q s) (ho : Own o ⟨n, 4, x⟩ (sblks Q)) (hb : Begun w w1 Q.s s.tk s.mo Q.gv ob om lb ub) :
    SbAt w1 (grow o w ⟨n, 4, x⟩) ⟨Q.s, ob, om, lb, ub, Q.gv⟩ (sbegin s) ∧ Own (grow o w ⟨n, 4, x⟩) ⟨n, 4, x⟩ (sblks ⟨Q.s, ob, om, lb, ub, Q.gv⟩) ∧ Chg o (fun g => g = ⟨n, 4, x⟩) w w1 := by
  have hc : Chg o (fun g => g = ⟨n, 4, x⟩) w w1 := Chg.of_only hb.only (by intro k hk; simp at hk; rw [hk]; exact ho _ (by simp [sblks])) (by intro k hk; simp at hk; rw [hk]; exact nobAt_cells h.box (by decide))
  refine ⟨⟨hb.box, ⟨[], rfl, hb.ord⟩, hb.lay, hb.out, ?_⟩, ?_, hc⟩
  · obtain ⟨X, h1, h2, h3⟩ := h.got
    refine ⟨X, h1, hb.only.owns h2 ?_, fun y hy => (h3 y hy).chg hc (by rintro g rfl; exact hn) (grow_ext _ _ _)⟩
    intro k hk hm
    simp at hm
    subst hm
    rcases h2.2 with ⟨e, _⟩ | ⟨q, cap, cur, e, _, hh, _⟩
    · rw [e] at hk; simp [Value.ownBlock] at hk
    · rw [e] at hk
      simp [Value.ownBlock] at hk
      subst hk
      have := h.box
      rw [hh] at this
      simp at this
  · obtain ⟨n1, n2, n3, n4⟩ := hb.new
    intro k hk
    simp only [sblks, List.mem_cons] at hk
    rcases hk with rfl | rfl | rfl | rfl | rfl | hk
    · rw [grow_old (lt_of_block h.box)]; exact ho _ (by simp [sblks])
    · exact grow_new n1
    · exact grow_new n2
    · exact grow_new n3
    · exact grow_new n4
    · rw [grow_old (h.got.lt k hk)]; exact ho _ (by simp only [sblks, List.mem_cons]; simp [hk])
/-- under way: i of them have begun anew -/
def bsb (l : List (Int × Sb)) (i : Nat) : List (Int × Sb) := (l.take i).map (fun x => (x.1, sbegin x.2)) ++ l.drop i
theorem bsb_ids (l : List (Int × Sb)) (i : Nat) : ids (bsb l i) = ids l := by
  unfold ids bsb
  rw [List.map_append, List.map_map]
  have : (Prod.fst ∘ fun (x : Int × Sb) => (x.1, sbegin x.2)) = Prod.fst := rfl
  rw [this, ← List.map_append, List.take_append_drop]
theorem bsb_len (l : List (Int × Sb)) (i : Nat) : (bsb l i).length = l.length := by
  rw [← ids_len, bsb_ids, ids_len]
theorem bsb_all (l : List (Int × Sb)) : bsb l l.length = l.map fun x => (x.1, sbegin x.2) := by simp [bsb]
def BSt (w wr : World) (o : Nat → Tg) (n b : Nat) (P : NP) (N : Nd) (i : Nat) : Prop :=
  ∃ oi Pi, NAt wr oi n b Pi { N with sb := bsb N.sb i } ∧ (∀ x, (Pi.sp x).s = (P.sp x).s) ∧ Ext w o oi ∧ Chg o (cls n 4) w wr
theorem BSt.step {w wr w1 : World} {o : Nat → Tg} {n b : Nat} {P : NP} {N : Nd} {i : Nat} (hn : n ≠ 0) (hI : SInv N.sb N.ls) (hi : i < N.sb.length) (h : BSt w wr o n b P N i) {gv : Value} {ob om lb ub : Nat}
    (hg : ∀ oi Pi, NAt wr oi n b Pi { N with sb := bsb N.sb i } → (∀ x, (Pi.sp x).s = (P.sp x).s) → (Pi.sp N.sb[i].1).gv = gv) (hb : Begun wr w1 (P.sp N.sb[i].1).s N.sb[i].2.tk N.sb[i].2.mo gv ob om lb ub) : BSt w w1 o n b P N (i + 1) := by
  obtain ⟨oi, Pi, h1, h2, h3, h4⟩ := h
  obtain ⟨y, hy⟩ : ∃ y, N.sb[i] = y := ⟨_, rfl⟩
  have hgy := hg oi Pi h1 h2
  rw [hy] at hb hgy
  have hs : bsb N.sb i = (N.sb.take i).map (fun x => (x.1, sbegin x.2)) ++ (y.1, y.2) :: N.sb.drop (i + 1) := by
    unfold bsb
    rw [List.drop_eq_getElem_cons hi, hy]
  have hs' : bsb N.sb (i + 1) = (N.sb.take i).map (fun x => (x.1, sbegin x.2)) ++ (y.1, sbegin y.2) :: N.sb.drop (i + 1) := by
    unfold bsb
    rw [List.take_add_one, List.getElem?_eq_getElem hi, hy]
    simp
  have hin : (y.1, y.2) ∈ bsb N.sb i := by rw [hs]; simp
  obtain ⟨k1, k2⟩ := h1.sbs _ hin
  rw [← h2 y.1, ← hgy] at hb
  obtain ⟨q1, q2, q3⟩ := begun_sb hn k1 k2 hb
  have hr : (ids (bsb N.sb i)).Pairwise fun a b => a < b := by rw [bsb_ids]; exact hI.ris
  have := h1.sub hn hs hr q3 (grow_ext _ _ _) (Q := ⟨(Pi.sp y.1).s, ob, om, lb, ub, (Pi.sp y.1).gv⟩) rfl q1 q2
  refine ⟨_, _, by rw [hs']; exact this, ?_, h3.trans (grow_ext oi wr _) h4.size, h4.trans (chg_cls q3) h3⟩
  intro x
  show (updS Pi.sp y.1 _ x).s = _
  unfold updS
  split
  · rename_i e; rw [e]; exact h2 y.1
  · exact h2 x
set_option maxHeartbeats 1000000 in
set_option maxRecDepth 100000 in
theorem beginSubs_all (n b : Nat) (o : Nat → Tg) (P : NP) (N : Nd) (tk : Int) (w : World) (hn : n ≠ 0) (h : NAt w o n b P N) (hI : SInv N.sb N.ls) (hall : ∀ x ∈ N.sb, x.2.tk = tk) :
    Calls Tryz.prog 112 #[.pointer (some ⟨b, 0, none⟩), .int .i64 tk] w fun e w' => e = .returned .nilIface ∧ DoneS (cls n 4) w w' o n b { N with sb := N.sb.map fun x => (x.1, sbegin x.2) } := by
  have C := hidden (subsOf_all n b o P N tk w h hI hall)
  have HN := hidden h
  have HI := hidden hI
  obtain ⟨nn, hnn⟩ : ∃ nn, N.sb.length = nn := ⟨_, rfl⟩
  have hlen := hI.len
  rw [hnn] at hlen C
  have HL := hidden hnn
  clear h hI hall hnn
  go_enter Tryz.func112, Tryz.ntmps112
  go_wp2_with fail
  refine C.out.mono ?_
  rintro e w1 ⟨a, cap, rfl, hP, hf, hb⟩
  have HP := hidden hP
  have HF := hidden hf
  have HS0 : Hid (BSt w w1 o n b P N 0) := hidden ⟨o, P, HN.out.below hb, fun _ => rfl, Ext.refl _ _, Chg.of_below hb _ _⟩
  clear hP hf hb
  go_wp2_with fail
  go_loopg [12] nn (fun gh x wr => ∃ i : Nat, i + gh = nn ∧ x = .int .i64 (i : Int) ∧ Hid (BSt w wr o n b P N i) ∧ Hid (PArg wr a (fun x => (P.sp x).s) (ids N.sb)))
  case atStart => exact ⟨0, by omega, rfl, HS0, HP⟩
  case round =>
    obtain ⟨i, hig, rfl, HS, HA⟩ := hrel
    by_cases hi : i < nn
    · have hiz : (i : Int) < (nn : Int) := by omega
      have hil : i < N.sb.length := by rw [HL.out]; exact hi
      have hil' : i < (ids N.sb).length := by rw [ids_len]; exact hil
      obtain ⟨ba, rfl, hcs⟩ := HA.out.at (by omega)
      have c0 := hcs i hil'
      obtain ⟨oi, Pi, h1, h2, _, _⟩ := HS.out
      have hget : (ids N.sb).getD i 0 = N.sb[i].1 := by
        rw [List.getD_eq_getElem?_getD, List.getElem?_eq_getElem hil']
        simp [ids]
      have hin : (N.sb[i].1, N.sb[i].2) ∈ bsb N.sb i := by
        unfold bsb
        rw [List.drop_eq_getElem_cons hil]
        exact List.mem_append.2 (.inr (List.mem_cons.2 (.inl rfl)))
      have bx := (h1.sbs _ hin).1.box
      have hm := HI.out.mem _ (List.getElem_mem hil)
      have Cb := hidden (begin_calls _ _ _ _ _ _ _ wr bx hm.2.2.1 hm.2.2.2)
      rw [hget] at c0
      rw [h2] at Cb
      obtain ⟨sb, hsb⟩ : ∃ sb, (P.sp N.sb[i].1).s = sb := ⟨_, rfl⟩
      rw [hsb] at c0 Cb
      have HG : Hid (∀ w1 ob om lb ub, Begun wr w1 sb N.sb[i].2.tk N.sb[i].2.mo (Pi.sp N.sb[i].1).gv ob om lb ub → BSt w w1 o n b P N (i + 1) ∧ PArg w1 (some ⟨ba, 0, none⟩) (fun x => (P.sp x).s) (ids N.sb)) := by
        refine hidden ?_
        intro w1 ob om lb ub hB
        have hlt : sb < w.heap.size := by
          rw [← hsb]
          exact (HN.out.sbs _ (List.getElem_mem hil)).1.lt _ (by simp [sblks])
        refine ⟨?_, HA.out.only hB.only (fun ad e => by have := HF.out ad e; simp; omega)⟩
        have HT := HS.out
        refine BSt.step hn HI.out hil HT (gv := (Pi.sp N.sb[i].1).gv) ?_ (by rw [hsb]; exact hB)
        intro oj Pj g1 g2
        have b1 := (g1.sbs _ hin).1.box
        rw [g2] at b1
        rw [h2] at bx
        rw [b1] at bx
        simp only [Option.some.injEq, Obj.cells.injEq] at bx
        have := bx.1
        simp only [Array.mk.injEq, List.cons.injEq] at this
        exact this.2.2.2.2.2.1
      clear hcs bx hin hget hm hsb h1 h2
      go_wp2_with fail
      refine Cb.out.mono ?_
      rintro e w2 ⟨ob, om, lb, ub, rfl, hB⟩
      obtain ⟨r1, r2⟩ := HG.out w2 ob om lb ub hB
      have HR1 := hidden r1
      have HR2 := hidden r2
      clear hB r1 r2 HG Cb c0
      go_wp2_with fail
      go_roundg (nn - (i + 1))
      case measure => omega
      case rel => exact ⟨i + 1, by omega, by go_num, HR1, HR2⟩
    · have hiz : ¬ (i : Int) < (nn : Int) := by omega
      obtain rfl : nn = i := by omega
      go_wp2_with fail
      go_ret
      obtain ⟨oi, Pi, h1, h2, h3, h4⟩ := HS.out
      have e : bsb N.sb nn = N.sb.map fun x => (x.1, sbegin x.2) := by rw [← HL.out]; exact bsb_all _
      rw [e] at h1
      exact ⟨rfl, oi, Pi, h1, h3, h4⟩
end Go.Proofs.YtpiamlgmadnepaaGreat.ND

