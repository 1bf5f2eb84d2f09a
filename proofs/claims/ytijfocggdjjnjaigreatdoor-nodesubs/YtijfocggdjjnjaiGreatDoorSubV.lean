/-
  What Got and Unsub of package node, and choirsame.Packets, return, and what they leave in memory. Their condition: the node is such as it may be.
-/
import Derived.Test.YtijfocggdjjnjaiGreatDoorNodeK
import Derived.Test.YtijfocggdjjnjaiGreatDoorSubAll
import Derived.Test.YtijfocggdjjnjaiGreatDoorSame
import Derived.Deep.LoopGhost
namespace Go.Proofs.YtijfocggdjjnjaiGreatDoor.ND
open Go.ChangeShapes Go.WideShapes Go.ChangeAt Go.RowKit Go.Maps Go.Proofs.YtijfocggdjjnjaiGreatDoor.Mem Go.Proofs.YtijfocggdjjnjaiGreatDoor.NO
set_option linter.unusedVariables false

theorem look_sub2 {w : World} {sm m : Nat} {D : DataW Value} {X : List Int} {g : Int → Nat} (hown : w.ownsMap Tryz.prog 3 ptR sm m D) (hS : SM D X g) {x : Int} (hx : x ∈ X) (hw : (Lit.int .i64 x).wf = true) :
    (Instr.lookup 62 (.map (some sm)) (.int .i64 x) true).run Tryz.prog w = .ok (.tuple #[.pointer (some ⟨g x, 0, none⟩), .bool true]) w := by
  obtain ⟨v', ps, hrun, hr⟩ := hown.look_ok law3 Tryz.underlying62 (zeroSQ w) (ptR_mk none) (keyOf3 hw)
  have he : D.atKey (GM.key x) (.held (.pointer none)) = .held (.pointer (some ⟨g x, 0, none⟩)) := hS.elems x hx _
  have hh : Maps.has D (GM.key x) = true := (hS.keys (GM.key x)).2 ⟨lk x, List.mem_map.2 ⟨x, hx, rfl⟩, rfl⟩
  rw [he] at hr
  have e := ptR_inv hr
  simp only [Prod.mk.injEq, DataW.held.injEq] at e
  have hrun' : (Instr.lookup 62 (.map (some sm)) (.int .i64 x) true).run Tryz.prog w = .ok (.tuple #[v', .bool (Maps.has D (GM.key x))]) w := hrun
  rw [hrun', hh, ← e.1]
/-- one block becomes nobody's -/
def away (o : Nat → Tg) (gb : Option Nat) : Nat → Tg := fun k => if gb = some k then nobody else o k
theorem away_n {o : Nat → Tg} {gb : Option Nat} {k : Nat} (h : (o k).n = 0) : (away o gb k).n = 0 := by
  unfold away
  split
  · rfl
  · exact h
theorem away_nob {o : Nat → Tg} {gb : Option Nat} {k : Nat} (h : o k = nobody) : away o gb k = nobody := by
  unfold away
  split
  · rfl
  · exact h
theorem BodyAt.unown {w : World} {o : Nat → Tg} {v : Value} {L : List Nat} (h : BodyAt w o v L) (gb : Option Nat) : BodyAt w (away o gb) v L := by
  obtain ⟨a, m, c, e, hA, hF⟩ := h
  exact ⟨a, m, c, e, hA, fun h0 ad e' => away_n (hF h0 ad e')⟩
theorem NAt.unown {w : World} {o : Nat → Tg} {n b : Nat} {P : NP} {N : Nd} (h : NAt w o n b P N) (hn : n ≠ 0) {gb : Option Nat} {x : Int} (hgb : ∀ k, gb = some k → o k = ⟨n, 4, x⟩) (hx : ∀ s, (x, s) ∈ N.sb → ∀ k, gb = some k → k ∉ sblks (P.sp x)) : NAt w (away o gb) n b P N := by
  have keep : ∀ k, o k ≠ ⟨n, 4, x⟩ → away o gb k = o k := by
    intro k hk
    unfold away
    split
    · rename_i e; exact absurd (hgb k e) hk
    · rfl
  have own : ∀ c j bs, (⟨n, c, j⟩ : Tg) ≠ ⟨n, 4, x⟩ → Own o ⟨n, c, j⟩ bs → Own (away o gb) ⟨n, c, j⟩ bs := fun c j bs hne ho k hk => by rw [keep k (by rw [ho k hk]; exact hne)]; exact ho k hk
  refine ⟨h.box, by rw [keep b (by rw [h.tag]; simp)]; exact h.tag, ?_, h.sbm, by rw [keep P.sm (by rw [h.smt]; simp)]; exact h.smt, ?_, h.pul, own _ _ _ (by simp) h.put, ?_, own _ _ _ (by simp) h.ltt⟩
  · intro i hi t ht
    obtain ⟨q1, q2⟩ := h.trs i hi t ht
    exact ⟨q1, own _ _ _ (by simp) q2⟩
  · intro y hy
    obtain ⟨q1, q2⟩ := h.sbs y hy
    refine ⟨⟨q1.box, q1.ord, q1.lay, q1.out, ?_⟩, ?_⟩
    · obtain ⟨X, r1, r2, r3⟩ := q1.got
      exact ⟨X, r1, r2, fun z hz => (r3 z hz).unown gb⟩
    · by_cases e : y.1 = x
      · intro k hk
        rw [e] at hk q2 ⊢
        have hk' : gb ≠ some k := fun hg => hx y.2 (by rw [← e]; exact hy) k hg hk
        unfold away
        rw [if_neg hk']
        exact q2 k hk
      · exact own _ _ _ (by simp [e]) q2
  · obtain ⟨X, r1, r2, r3⟩ := h.ltr
    exact ⟨X, r1, r2, fun z hz => ⟨(r3 z hz).1.unown gb, (r3 z hz).2⟩⟩
/-- what Got leaves -/
def Gave (w w' : World) (o : Nat → Tg) (n b : Nat) (N : Nd) (lv : Value) (G : List Pk) : Prop := ∃ o' P, NAt w' o' n b P N ∧ GotAt w' o' lv G ∧ Own o' nobody lv.ownBlock.toList ∧ (∀ k, (o k).n = 0 → (o' k).n = 0) ∧ (∀ k, o k = nobody → o' k = nobody) ∧ Chg o (mine n) w w'
set_option maxRecDepth 100000 in
theorem got_calls (n b : Nat) (o : Nat → Tg) (P : NP) (N : Nd) (x : Int) (s : Sb) (A B : List (Int × Sb)) (w : World) (hn : n ≠ 0) (hN : NAt w o n b P N) (hs : N.sb = A ++ (x, s) :: B) (hI : SInv N.sb N.ls) :
    Calls Tryz.prog 17 #[.pointer (some ⟨b, 0, none⟩), .int .i64 x] w fun e w' => ∃ a c, e = .returned (.tuple #[.slice a s.got.length c, .nilIface]) ∧ Gave w w' o n b { N with sb := A ++ (x, { s with got := [] }) :: B } (.slice a s.got.length c) s.got := by
  have hmem : (x, s) ∈ N.sb := by rw [hs]; simp
  obtain ⟨k1, k2⟩ := hN.sbs (x, s) hmem
  have hwf := wf_of (y := x) (by have := hI.mem (x, s) hmem; simp only at this; omega) (by have := hI.mem (x, s) hmem; have := hI.ls1; simp only at *; omega)
  obtain ⟨D, hown, hS⟩ := hN.sbm
  have hl := look_sub2 hown hS (x := x) (List.mem_map.2 ⟨(x, s), hmem, rfl⟩) hwf
  have c10 := hN.cells.2.2.1
  have c5 : w.cell? ⟨(P.sp x).s, 5, none⟩ = some (P.sp x).gv := by simp [World.cell?, k1.box]
  have f5 : w.frozen? ⟨(P.sp x).s, 5, none⟩ = false := by simp [World.frozen?, k1.box]
  obtain ⟨Y, y1, y2, y3⟩ := k1.got
  have hlen : s.got.length = Y.length := by rw [← y1, List.length_map]
  obtain ⟨ga, gc, hgv⟩ : ∃ a c, (P.sp x).gv = .slice a s.got.length c := by
    rcases y2.2 with ⟨e, h0⟩ | ⟨g, cap, cur, e, _⟩
    · exact ⟨none, 0, by rw [e, hlen, h0]⟩
    · exact ⟨_, cap, by rw [e, hlen]⟩
  have HG : Hid (Gave w (w.setCell ⟨(P.sp x).s, 5, none⟩ (.slice none 0 0)) o n b { N with sb := A ++ (x, { s with got := [] }) :: B } (.slice ga s.got.length gc) s.got) := by
    refine hidden ?_
    have q := k1.sep
    have ho : Only [(P.sp x).s] w (w.setCell ⟨(P.sp x).s, 5, none⟩ (.slice none 0 0)) := (Only.refl _ _).setCell (by simp) _
    have hin : ∀ k ∈ [(P.sp x).s], k ∈ sblks (P.sp x) := by intro k hk; simp at hk; rw [hk]; simp [sblks]
    have hc : Chg o (fun g => g = ⟨n, 4, x⟩) w (w.setCell ⟨(P.sp x).s, 5, none⟩ (.slice none 0 0)) := only_chg1 ho k1 k2 hin
    have nb := (k1.nob.sub hin).old
    obtain ⟨M', eM, hM⟩ := k1.ord
    have ha : SbAt (w.setCell ⟨(P.sp x).s, 5, none⟩ (.slice none 0 0)) o { P.sp x with gv := .slice none 0 0 } { s with got := [] } := by
      refine ⟨heap_setCell_same w _ 5 _ _ _ k1.box, ⟨M', eM, hM.only ho (by simp; exact fun e => q.so e.symm) (by simp; exact fun e => q.sm e.symm) nb⟩, k1.lay.only ho (by simp; exact fun e => q.sl e.symm), k1.out.only ho (by simp; exact fun e => q.su e.symm), GotAt.nil _ _⟩
    have h1 := hN.sub hn hs hI.ris hc (Ext.refl _ _) (Q := { P.sp x with gv := .slice none 0 0 }) rfl ha (fun k hk => k2 k (by
      simp only [sblks, List.mem_cons, Value.ownBlock, Option.mem_toList] at hk ⊢
      rcases hk with e | e | e | e | e | e
      · exact .inl e
      · exact .inr (.inl e)
      · exact .inr (.inr (.inl e))
      · exact .inr (.inr (.inr (.inl e)))
      · exact .inr (.inr (.inr (.inr (.inl e))))
      · simp at e))
    have hgb : ∀ k, (P.sp x).gv.ownBlock = some k → o k = ⟨n, 4, x⟩ := fun k hk => k2 k (by simp only [sblks, List.mem_cons]; simp [hk])
    refine ⟨away o (P.sp x).gv.ownBlock, _, h1.unown hn hgb ?_, ?_, ?_, fun k hk => away_n hk, fun k hk => away_nob hk, chg_mine hc⟩
    · intro s' _ k hk hm
      have := q.gv k hk
      simp only [updS, if_pos, sblks, List.mem_cons, Value.ownBlock, Option.mem_toList] at hm
      rcases hm with e | e | e | e | e | e
      · exact this.1 e
      · exact this.2.1 e
      · exact this.2.2.1 e
      · exact this.2.2.2.1 e
      · exact this.2.2.2.2 e
      · simp at e
    · rw [← hgv]
      exact ⟨Y, y1, ho.owns y2 (fun k hk => by simp; exact (q.gv k hk).1), fun z hz => ((y3 z hz).own ho (own_ne0 k2 hn hin) (Ext.refl _ _)).unown _⟩
    · rw [← hgv]
      intro k hk
      unfold away
      rw [if_pos (by simpa using hk)]
  rw [hgv] at c5
  obtain ⟨sp, hsp⟩ : ∃ sp, (P.sp x).s = sp := ⟨_, rfl⟩
  rw [hsp] at hl c5 f5 HG
  obtain ⟨gl, hgl⟩ : ∃ gl, s.got.length = gl := ⟨_, rfl⟩
  rw [hgl] at c5 HG
  rw [hgl]
  clear hN hs hI hmem k1 k2 hwf hown hS y1 y2 y3 hlen hgv hsp hgl
  go_enter Tryz.func17, Tryz.ntmps17
  go_wp2_with fail
  go_ret2
  exact ⟨ga, gc, rfl, HG.out⟩
end Go.Proofs.YtijfocggdjjnjaiGreatDoor.ND

