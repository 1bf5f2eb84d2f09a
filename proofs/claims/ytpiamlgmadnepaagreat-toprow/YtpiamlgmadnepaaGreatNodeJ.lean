/-
  What Plan of package node returns, and what it leaves in memory, where all subscribers are of that track. Its condition: the node is such as it may be.
-/
import Derived.Test.YtpiamlgmadnepaaGreatNodeH
namespace Go.Proofs.YtpiamlgmadnepaaGreat.ND
open Go.ChangeShapes Go.WideShapes Go.ChangeAt Go.RowKit Go.Maps Go.Proofs.YtpiamlgmadnepaaGreat.Mem Go.Proofs.YtpiamlgmadnepaaGreat.NO
set_option linter.unusedVariables false

theorem clone_calls (a : Option Addr) (n cap : Nat) (L : List Int) (w : World) (h : Gaps.IArg w a n L) (hn : a = none → n = 0 ∧ cap = 0) (hb : n ≤ 1000000) :
    Calls Tryz.prog 113 #[.slice a n cap] w fun e w' => ∃ v', e = .returned v' ∧ w'.ownsRow w.heap.size 3 1 v' n (Gaps.ic L) ∧ Below w.heap.size w w' := by
  cases a with
  | none =>
    obtain ⟨rfl, rfl⟩ := hn rfl
    have : L = [] := List.eq_nil_of_length_eq_zero h.2.1
    subst this
    refine (Tryz.slices_Clone_int_nil 0 0 w).mono ?_
    rintro e w' ⟨rfl, rfl⟩
    exact ⟨_, rfl, World.ownsRow_nil _ _ _ _, Below.refl _ _⟩
  | some ad =>
    rcases Nat.eq_zero_or_pos n with rfl | h0
    · have : L = [] := List.eq_nil_of_length_eq_zero h.2.1
      subst this
      refine (Tryz.slices_Clone_int_zero ad cap w).mono ?_
      rintro e w' ⟨v', rfl, ho, _, hb⟩
      exact ⟨v', rfl, ho, hb⟩
    · obtain ⟨b, o, e, hc⟩ := h.at h0
      rw [Option.some.injEq] at e
      subst e
      have hl := h.2.1
      refine (Tryz.slices_Clone_int b o n cap L w (by omega) (by omega) (fun j hj => hc j (by omega))).mono ?_
      rintro e w' ⟨v', rfl, ho, _, hb⟩
      refine ⟨v', rfl, ?_, hb⟩
      rw [← hl, List.take_length, hl] at ho
      exact ho

/-- no other block of a track is that of the record itself -/
theorem TrAt.ne {w : World} {P : TP} {t : Tr} (h : TrAt w P t) : P.wm ≠ P.p ∧ P.r ≠ P.p ∧ P.rm ≠ P.p ∧ ∀ k ∈ Gaps.blks P.g P.gm P.gv, k ≠ P.p := by
  have bx := h.box
  obtain ⟨D, h1, _, _⟩ := h.way
  refine ⟨?_, ?_, ?_, ?_⟩
  · intro e
    obtain ⟨es, c, hm⟩ := RM.map_block h1
    rw [e, bx] at hm
    simp at hm
  · intro e
    have := h.rng.1
    rw [e, bx] at this
    simp at this
  · intro e
    obtain ⟨D', h2, _, _⟩ := h.rng.2
    obtain ⟨es, c, hm⟩ := RM.map_block h2
    rw [e, bx] at hm
    simp at hm
  · intro k hk e
    subst e
    simp only [Gaps.blks, List.mem_cons] at hk
    rcases hk with hk | hk | hk
    · have := h.gap.box
      rw [← hk, bx] at this
      simp at this
    · obtain ⟨D', h2, _, _⟩ := h.gap.map
      obtain ⟨es, c, hm⟩ := RM.map_block h2
      rw [← hk, bx] at hm
      simp at hm
    · obtain ⟨cs, hm⟩ := Gaps.own_block h.gap.row (by simpa using hk)
      rw [bx] at hm
      simp at hm
/-- the blocks of a track are apart -/
theorem TrAt.sepR {w : World} {P : TP} {t : Tr} (h : TrAt w P t) : ∀ k ∈ P.p :: P.wm :: (Gaps.blks P.g P.gm P.gv ++ kblk P.ka t.kids), k ≠ P.r ∧ k ≠ P.rm := by
  have br := h.rng.1
  obtain ⟨D, h1, _, _⟩ := h.rng.2
  obtain ⟨es, c, bm⟩ := RM.map_block h1
  obtain ⟨D2, h2, _, _⟩ := h.way
  obtain ⟨es2, c2, bw⟩ := RM.map_block h2
  obtain ⟨D3, h3, _, _⟩ := h.gap.map
  obtain ⟨es3, c3, bg⟩ := RM.map_block h3
  have n := h.ne
  intro k hk
  simp only [List.mem_cons, List.mem_append, Gaps.blks] at hk
  rcases hk with rfl | rfl | (rfl | rfl | hk) | hk
  · exact ⟨n.2.1.symm, n.2.2.1.symm⟩
  · exact ⟨fun e => by rw [e, br] at bw; simp at bw, h.ap.2.2.symm⟩
  · exact ⟨fun e => by have := h.gap.box; rw [e, br] at this; simp at this, fun e => by have := h.gap.box; rw [e, bm] at this; simp at this⟩
  · exact ⟨fun e => by rw [e, br] at bg; simp at bg, h.ap.1⟩
  · obtain ⟨cs, hm⟩ := Gaps.own_block h.gap.row (by simpa using hk)
    exact ⟨fun e => by rw [e, br] at hm; simp at hm, fun e => by rw [e, bm] at hm; simp at hm⟩
  · have := h.kap k hk
    exact ⟨this.2.2.1, this.2.2.2.1⟩
theorem TrAt.sepW {w : World} {P : TP} {t : Tr} (h : TrAt w P t) : ∀ k ∈ P.p :: P.r :: P.rm :: (Gaps.blks P.g P.gm P.gv ++ kblk P.ka t.kids), k ≠ P.wm := by
  have br := h.rng.1
  obtain ⟨D2, h2, _, _⟩ := h.way
  obtain ⟨es2, c2, bw⟩ := RM.map_block h2
  have n := h.ne
  intro k hk
  simp only [List.mem_cons, List.mem_append, Gaps.blks] at hk
  rcases hk with rfl | rfl | rfl | (rfl | rfl | hk) | hk
  · exact n.1.symm
  · exact fun e => by rw [e, bw] at br; simp at br
  · exact h.ap.2.2
  · exact fun e => by have := h.gap.box; rw [e, bw] at this; simp at this
  · exact h.ap.2.1
  · obtain ⟨cs, hm⟩ := Gaps.own_block h.gap.row (by simpa using hk)
    exact fun e => by rw [e, bw] at hm; simp at hm
  · exact (h.kap k hk).2.1
theorem TrAt.sepG {w : World} {P : TP} {t : Tr} (h : TrAt w P t) : ∀ k ∈ P.p :: P.wm :: P.r :: P.rm :: kblk P.ka t.kids, k ∉ Gaps.blks P.g P.gm P.gv := by
  have n := h.ne
  have sR := h.sepR
  have sW := h.sepW
  intro k hk hm
  simp only [List.mem_cons] at hk
  rcases hk with rfl | rfl | rfl | rfl | hk
  · exact n.2.2.2 _ hm rfl
  · exact sW _ (by simp only [List.mem_cons, List.mem_append]; exact .inr (.inr (.inr (.inl hm)))) rfl
  · exact (sR _ (by simp only [List.mem_cons, List.mem_append]; exact .inr (.inr (.inl hm)))).1 rfl
  · exact (sR _ (by simp only [List.mem_cons, List.mem_append]; exact .inr (.inr (.inl hm)))).2 rfl
  · exact (h.kap k hk).2.2.2.2 hm
/-- another parent and other kids -/
def Tr.to (t : Tr) (pa : Int) (K : List Int) : Tr := { t with pa := pa, kids := K }
theorem TrAt.to {w : World} {P : TP} {t : Tr} (h : TrAt w P t) (pa : Int) (K : List Int) {a : Option Addr} {cap : Nat} (hK : Gaps.IArg w a K.length K) (hno : a = none → K.length = 0 ∧ cap = 0) (hne : ∀ ad, a = some ad → ∀ k ∈ P.p :: P.wm :: P.r :: P.rm :: Gaps.blks P.g P.gm P.gv, ad.block ≠ k) :
    TrAt ((w.setCell ⟨P.p, 2, none⟩ (.int .i64 pa)).setCell ⟨P.p, 3, none⟩ (.slice a K.length cap)) { P with ka := a, kc := cap } (t.to pa K) := by
  have k1 := heap_setCell_same w P.p 2 _ _ (.int .i64 pa) h.box
  have k2 := heap_setCell_same _ P.p 3 _ _ (.slice a K.length cap) k1
  have on : Only [P.p] w ((w.setCell ⟨P.p, 2, none⟩ (.int .i64 pa)).setCell ⟨P.p, 3, none⟩ (.slice a K.length cap)) := by
    iterate 2 refine Only.setCell ?_ (by simp) _
    exact Only.refl _ _
  have nb : ∀ k ∈ [P.p], ∀ cs fr, w.heap[k]? ≠ some (.cells cs 5 fr) := by
    intro k hk cs fr
    simp only [List.mem_singleton] at hk
    subst hk
    rw [h.box]
    simp
  obtain ⟨n1, n2, n3, n4⟩ := h.ne
  refine ⟨by simpa [Tr.to] using k2, iarg_only hK on ?_, hno, h.gap.only on (fun k hk => by simpa using n4 k hk), h.rng.only on (by simpa using n2) (by simpa using n3) nb, ?_, h.ap, ?_⟩
  · intro k hk
    unfold kblk at hk
    split at hk
    · simp at hk
    · cases a with
      | none => simp at hk
      | some ad =>
        simp at hk
        subst hk
        simpa using hne ad rfl P.p (by simp)
  · obtain ⟨D, h1, h2, h3⟩ := h.way
    exact ⟨D, map_only h1 on (by simpa using n1), h2, h3⟩
  · intro k hk
    simp only [Tr.to] at hk
    unfold kblk at hk
    split at hk
    · simp at hk
    · cases a with
      | none => simp at hk
      | some ad =>
        simp at hk
        subst hk
        have q := hne ad rfl
        exact ⟨q _ (by simp), q _ (by simp), q _ (by simp), q _ (by simp), fun hm => q _ (by simp only [List.mem_cons]; exact .inr (.inr (.inr (.inr hm)))) rfl⟩
/-- what Plan's last rows leave -/
theorem plan_tail {w w2 : World} {o : Nat → Tg} {n b : Nat} {P : NP} {N : Nd} (hn : n ≠ 0) (h : NAt w o n b P N) {i : Nat} (hi : i < 8) {t : Tr} (ht : N.tr i = some t) (pa : Int) (K : List Int) {v : Value} (hrow : w2.ownsRow w.heap.size 3 1 v K.length (Gaps.ic K)) (hb : Below w.heap.size w w2) (hl : K.length ≤ 1000) :
    Done w ((w2.setCell ⟨(P.tp i).p, 2, none⟩ (.int .i64 pa)).setCell ⟨(P.tp i).p, 3, none⟩ v) o n b { N with tr := updR N.tr i (t.to pa K) } := by
  obtain ⟨a, cap, rfl, hK, hno, _, hf⟩ := Gaps.own_ints hrow (by omega)
  obtain ⟨k1, k2⟩ := h.trs i hi t ht
  have h2 := h.below hb
  obtain ⟨g1, g2⟩ := h2.trs i hi t ht
  have lp := k1.lt (P.tp i).p (by simp [tblks])
  have hT := g1.to pa K (cap := cap) hK hno (fun ad e k hk => by
    obtain ⟨g, rfl, hg, _⟩ := hf ad e
    have := k1.lt k (by simp only [tblks, List.mem_cons, List.mem_append]; simp only [List.mem_cons] at hk; rcases hk with hk | hk | hk | hk | hk <;> simp [hk])
    show g ≠ k
    omega)
  have hc2 : Chg o (fun g => g = ⟨n, 3, i⟩) w2 ((w2.setCell ⟨(P.tp i).p, 2, none⟩ (.int .i64 pa)).setCell ⟨(P.tp i).p, 3, none⟩ (.slice a K.length cap)) := by
    refine Chg.of_only (bs := [(P.tp i).p]) (by refine Only.setCell ?_ (by simp) _; refine Only.setCell ?_ (by simp) _; exact Only.refl _ _) ?_ ?_
    · intro k hk
      simp at hk
      rw [hk]
      exact k2 _ (by simp [tblks])
    · intro k hk
      simp at hk
      rw [hk]
      exact nobAt_cells g1.box (by decide)
  have hc : Chg o (fun g => g = ⟨n, 3, i⟩) w ((w2.setCell ⟨(P.tp i).p, 2, none⟩ (.int .i64 pa)).setCell ⟨(P.tp i).p, 3, none⟩ (.slice a K.length cap)) := (Chg.of_below hb _ _).trans' hc2
  have he := grow_ext o w ⟨n, 3, i⟩
  refine ⟨grow o w ⟨n, 3, i⟩, _, h.trk hn hi hc he ht (Q := { P.tp i with ka := a, kc := cap }) rfl hT ?_, he, chg_mine hc⟩
  intro k hk
  have hcase : k ∈ tblks (P.tp i) t ∨ k ∈ kblk a K := by
    simp only [tblks, Tr.to, List.mem_cons, List.mem_append] at hk ⊢
    rcases hk with hk | hk | hk | hk | hk | hk
    · exact .inl (.inl hk)
    · exact .inl (.inr (.inl hk))
    · exact .inl (.inr (.inr (.inl hk)))
    · exact .inl (.inr (.inr (.inr (.inl hk))))
    · exact .inl (.inr (.inr (.inr (.inr (.inl hk)))))
    · exact .inr hk
  rcases hcase with hk | hk
  · rw [grow_old (k1.lt k hk)]
    exact k2 k hk
  · unfold kblk at hk
    split at hk
    · simp at hk
    · cases a with
      | none => simp at hk
      | some ad =>
        obtain ⟨g, rfl, hg, _⟩ := hf ad rfl
        simp at hk
        subst hk
        exact grow_new hg
/-- a node behind a plan -/
def Nd.plan (N : Nd) (tk pa : Int) (K : List Int) (ep : Int) : Nd :=
  match N.at tk with
  | some t => if t.ep < ep then { N with sb := N.sb.map (fun x => (x.1, sbegin x.2)), tr := updR N.tr (tk - 1).toNat ((tr0 tk ep).to pa K) } else { N with tr := updR N.tr (tk - 1).toNat (t.to pa K) }
  | none => { N with sb := N.sb.map (fun x => (x.1, sbegin x.2)), tr := updR N.tr (tk - 1).toNat ((tr0 tk ep).to pa K) }
theorem plan_bad (n b : Nat) (o : Nat → Tg) (P : NP) (N : Nd) (tk pa ep : Int) (a : Option Addr) (m cap : Nat) (K : List Int) (w : World) (hN : NAt w o n b P N) (hK : Gaps.IArg w a m K) (hf : pF N tk pa K ep ≠ 0) :
    Calls Tryz.prog 85 #[.pointer (some ⟨b, 0, none⟩), .int .i64 tk, .int .i64 pa, .slice a m cap, .int .i64 ep] w fun e w' => e = .returned (errv (pF N tk pa K ep)) ∧ Below w.heap.size w w' := by
  have C := hidden (check_calls n b o P N tk pa ep a m cap K w hN hK)
  obtain ⟨f, hff⟩ : ∃ f, pF N tk pa K ep = f := ⟨_, rfl⟩
  rw [hff] at C hf
  rw [hff]
  clear hff hN hK
  have q1 := cmp_ne f
  have q2 := grd_ne f
  have d0 : decide (f = 0) = false := by simpa using hf
  clear hf
  go_enter Tryz.func85, Tryz.ntmps85
  go_wp2_with fail
  refine C.out.mono ?_
  rintro e w1 ⟨rfl, hb⟩
  have HB := hidden hb
  clear hb
  go_wp2_with fail
  go_ret
  exact ⟨rfl, HB.out⟩
theorem pF_zero {N : Nd} {tk pa ep : Int} {K : List Int} (h : pF N tk pa K ep = 0) : 1 ≤ tk ∧ tk ≤ 8 ∧ 0 ≤ ep ∧ ep ≤ 65535 ∧ K.any (badk N.id pa) = false ∧ twc K = false ∧ old (N.at tk) ep = false ∧ K.length ≤ 16 := by
  unfold pF at h
  split at h
  · omega
  rename_i h1
  split at h
  · omega
  split at h
  · omega
  rename_i h2
  split at h
  · omega
  rename_i h3
  split at h
  · omega
  rename_i h4
  split at h
  · omega
  rename_i h5
  have h1' : okT tk = true := by simpa using h1
  simp [okT] at h1'
  have h3' : K.any (badk N.id pa) = false := by simpa using h3
  have h4' : twc K = false := by simpa using h4
  refine ⟨h1'.1, h1'.2, by omega, by omega, h3', h4', by simpa using h5, ?_⟩
  have hb := badk_ok h3'
  have nd : K.Nodup := by simpa [twc] using h4'
  have nd' : (K.map Int.toNat).Nodup := by
    rw [List.nodup_iff_pairwise_ne, List.pairwise_map]
    rw [List.nodup_iff_pairwise_ne] at nd
    refine nd.imp_of_mem ?_
    intro x y hx hy hxy e
    have := hb x hx
    have := hb y hy
    omega
  have := List.Nodup.length_le_of_subset (l₂ := List.range 16) nd' (by
    intro x hx
    obtain ⟨y, hy, rfl⟩ := List.mem_map.1 hx
    have := hb y hy
    simp only [List.mem_range]
    omega)
  simpa using this
theorem done_trans {w w1 w2 : World} {o : Nat → Tg} {n b : Nat} {N1 N2 : Nd} (h1 : Done w w1 o n b N1) (h2 : ∀ o1 P1, NAt w1 o1 n b P1 N1 → Done w1 w2 o1 n b N2) : Done w w2 o n b N2 := by
  obtain ⟨o1, P1, a1, a2, a3⟩ := h1
  obtain ⟨o2, P2, b1, b2, b3⟩ := h2 o1 P1 a1
  exact ⟨o2, P2, b1, a2.trans b2 a3.size, a3.trans b3 a2⟩
set_option maxHeartbeats 2000000 in
set_option maxRecDepth 100000 in
theorem plan_ok (n b : Nat) (o : Nat → Tg) (P : NP) (N : Nd) (tk pa ep : Int) (a : Option Addr) (m cap : Nat) (K : List Int) (w : World) (hn : n ≠ 0) (hN : NAt w o n b P N) (hI : SInv N.sb N.ls) (hall : ∀ x ∈ N.sb, x.2.tk = tk) (hK : Gaps.IArg w a m K) (hno : a = none → m = 0 ∧ cap = 0) (hF : ∀ ad, a = some ad → 0 < m → (o ad.block).n ≠ n) (hf : pF N tk pa K ep = 0) :
    Calls Tryz.prog 85 #[.pointer (some ⟨b, 0, none⟩), .int .i64 tk, .int .i64 pa, .slice a m cap, .int .i64 ep] w fun e w' => e = .returned .nilIface ∧ Done w w' o n b (N.plan tk pa K ep) := by
  have C := hidden (check_calls n b o P N tk pa ep a m cap K w hN hK)
  obtain ⟨z1, z2, z3, z4, _, _, z5, z6⟩ := pF_zero hf
  rw [hf, errv_zero] at C
  have hl := hK.2.1
  obtain ⟨k, hkk, hk1, hk2⟩ : ∃ k : Nat, k < 8 ∧ tk = (k : Int) + 1 ∧ (tk - 1).toNat = k := ⟨(tk - 1).toNat, by omega, by omega, rfl⟩
  have hk3 : wrap64 (tk - 1) = (k : Int) := by unfold wrap64; omega
  have hk4 : (k : Int) < 8 := by omega
  obtain ⟨R, hR⟩ : ∃ R, N.plan tk pa K ep = R := ⟨_, rfl⟩
  rw [hR]
  unfold Nd.plan Nd.at at hR
  unfold Nd.at at z5
  rw [hk2] at hR z5
  have CP := hidden (newP_calls tk ep)
  have HN := hidden hN
  have HI := hidden hI
  have HAl := hidden hall
  have HK := hidden hK
  have HNo := hidden hno
  have HF := hidden hF
  have hm : m ≤ 16 := by omega
  have HL := hidden hl
  clear hf z1 z2 z3 z4 hN hI hall hK hno hF hl hk1 hk2
  -- what follows the making
  have TAIL : Hid (∀ W oW PW (NW : Nd) t, NAt W oW n b PW NW → NW.tr k = some t → Ext w o oW → Chg o (mine n) w W → Calls Tryz.prog 113 #[.slice a m cap] W fun e w' => ∃ v, e = .returned v ∧ w'.ownsRow W.heap.size 3 1 v K.length (Gaps.ic K) ∧ Below W.heap.size W w') := by
    refine hidden ?_
    intro W oW PW NW t h1 h2 h3 h4
    have hKW : Gaps.IArg W a m K := by
      obtain ⟨bs, q1, q2, q3⟩ := h4
      refine ⟨fun j hj => ?_, HK.out.2⟩
      obtain ⟨b', o', e, hc⟩ := HK.out.1 j hj
      have hnb : b' ∉ bs := fun hx => HF.out _ e (by have := HL.out; omega) (q2 _ hx)
      exact ⟨b', o', e, (cell_same (q1.2.2.2.2 b' (World.block_lt_of_cell? w ⟨b', o' + j, none⟩ hc) hnb) _).trans hc⟩
    refine (clone_calls a m cap K W hKW HNo.out (by omega)).mono ?_
    rintro e w' ⟨v, rfl, q1, q2⟩
    rw [← HL.out] at q1
    exact ⟨v, rfl, q1, q2⟩
  go_enter Tryz.func85, Tryz.ntmps85
  go_wp2_with fail
  refine C.out.mono ?_
  rintro e w1 ⟨rfl, hb1⟩
  have hN1 := HN.out.below hb1
  have HB1 := hidden hb1
  have ct := hN1.track hkk
  clear hb1 C
  cases hx : N.tr k with
  | none =>
    rw [hx] at ct hR
    simp only [tpv] at ct
    simp only [] at hR
    have HN1 := hidden hN1
    clear hN1
    go_wp2_with fail
    refine (CP.out _).mono ?_
    rintro e w2 ⟨Q, rfl, hT, hnew, hb2⟩
    have hN2 := HN1.out.below hb2
    have CB := hidden (beginSubs_all n b (grow o w1 ⟨n, 3, k⟩) P N tk w2 hn (HN1.out.chg (S := fun _ => False) (Chg.of_below hb2 _ _) (fun g hg => hg.elim) (grow_ext o w1 _)) HI.out HAl.out)
    have HT := hidden hT
    have HNew := hidden hnew
    have HB2 := hidden hb2
    clear hT hnew hb2 hN2
    go_wp2_with fail
    refine CB.out.mono ?_
    rintro e w3 ⟨rfl, hD⟩
    have HD := hidden hD
    clear hD
    obtain ⟨o3, P3, hN3, he3, hc3⟩ := HD.out
    have HO2 : Own (grow o w1 ⟨n, 3, k⟩) ⟨n, 3, k⟩ (tblks Q (tr0 tk ep)) := fun j hj => grow_new (HNew.out j hj)
    have hT3 := HT.out.chg hc3 HO2 (by simp [cls])
    have hO3 := HO2.ext he3 HT.out.lt
    have c5 := hN3.track hkk
    have f5 := hN3.free (2 + k)
    have hN4 := hN3.setT hn hkk hT3 hO3
    have he4' : Ext w1 o o3 := Ext.trans (grow_ext o w1 _) he3 HB2.out.size
    have he4 : Ext w o o3 := fun j hj => he4' j (by have := HB1.out.size; omega)
    have hc4 : Chg o (mine n) w (w3.setCell ⟨b, 2 + k, none⟩ (.pointer (some ⟨Q.p, 0, none⟩))) := by
      have q1 : Chg o (mine n) w w2 := (Chg.of_below HB1.out _ _).trans' (Chg.of_below HB2.out _ _)
      have q2 : Chg (grow o w1 ⟨n, 3, k⟩) (mine n) w2 w3 := cls_mine hc3
      have q3 := q1.trans q2 (fun j hj => by rw [grow_old (by have := HB1.out.size; omega)])
      exact q3.trans (chg_mine (hN3.chgB (2 + k) _)) he4
    have hin : ({ N with sb := N.sb.map (fun x => (x.1, sbegin x.2)), tr := updR N.tr k (tr0 tk ep) } : Nd).tr k = some (tr0 tk ep) := by simp [updR]
    have CK := hidden (TAIL.out _ o3 _ _ (tr0 tk ep) hN4 hin he4 hc4)
    have TT := hidden (fun w2 v h1 h2 => plan_tail (w2 := w2) (v := v) hn hN4 hkk hin pa K h1 h2 (by omega))
    have HG := hidden (hN4.trs k hkk _ hin).1
    have hqp : (updT P3.tp k Q k).p = Q.p := by simp [updT]
    obtain ⟨qp, hqq⟩ : ∃ qp, Q.p = qp := ⟨_, rfl⟩
    have HQ : Hid ((updT P3.tp k Q k).p = qp) := hqp.trans hqq
    have TT2 : Hid (∀ w2 v, w2.ownsRow (w3.setCell ⟨b, 2 + k, none⟩ (.pointer (some ⟨Q.p, 0, none⟩))).heap.size 3 1 v K.length (Gaps.ic K) → Below (w3.setCell ⟨b, 2 + k, none⟩ (.pointer (some ⟨Q.p, 0, none⟩))).heap.size (w3.setCell ⟨b, 2 + k, none⟩ (.pointer (some ⟨Q.p, 0, none⟩))) w2 → Done w ((w2.setCell ⟨qp, 2, none⟩ (.int .i64 pa)).setCell ⟨qp, 3, none⟩ v) o n b R) := by
      refine hidden ?_
      intro w2' v h1 h2
      have hd := TT.out w2' v h1 h2
      obtain ⟨o', P', q1, q2, q3⟩ := hd
      rw [show ({ P3 with tp := updT P3.tp k Q } : NP).tp k = updT P3.tp k Q k from rfl, HQ.out] at q1 q3
      refine ⟨o', P', ?_, he4.trans q2 hc4.size, hc4.trans q3 he4⟩
      rw [← hR]
      have e : updR (updR N.tr k (tr0 tk ep)) k ((tr0 tk ep).to pa K) = updR N.tr k ((tr0 tk ep).to pa K) := by
        funext j
        unfold updR
        split <;> rfl
      rw [← e]
      exact q1
    rw [hqq] at CK HG TT2 hN4 hc4
    obtain ⟨w4, hw4⟩ : ∃ w4, w3.setCell ⟨b, 2 + k, none⟩ (.pointer (some ⟨qp, 0, none⟩)) = w4 := ⟨_, rfl⟩
    rw [hw4] at CK HG TT2
    have HW4 := hidden hw4
    obtain ⟨cv, hcv⟩ : ∃ cv, tpv (N.tr k) (P3.tp k) = cv := ⟨_, rfl⟩
    have c5' : w3.cell? ⟨b, 2 + k, none⟩ = some cv := by rw [← hcv]; exact c5
    clear TT hN4 hc4 hin hqp hT3 hO3 hN3 he3 hc3 c5 hcv hw4
    rw [hqq]
    clear hqq
    go_upto_region 13 with fail
    rw [HW4.out]
    go_wp2_with fail
    refine CK.out.mono ?_
    rintro e w5 ⟨v, rfl, hr5, hb5⟩
    have bxq := HG.out.box
    rw [show (({ P3 with tp := updT P3.tp k Q } : NP).tp k).p = qp from HQ.out] at bxq
    have bx5 := (hb5.block qp (lt_of_block bxq)).trans bxq
    have c2 : w5.cell? ⟨qp, 2, none⟩ = some (.int .i64 0) := by simp [World.cell?, bx5, tr0]
    obtain ⟨v3, c3⟩ : ∃ v3, w5.cell? ⟨qp, 3, none⟩ = some v3 := by simp [World.cell?, bx5]
    have f2 : w5.frozen? ⟨qp, 2, none⟩ = false := by simp [World.frozen?, bx5]
    have f3 : w5.frozen? ⟨qp, 3, none⟩ = false := by simp [World.frozen?, bx5]
    obtain ⟨va, vc, rfl, _⟩ := Gaps.own_ints hr5 (by omega)
    have HD5 := hidden (TT2.out w5 _ hr5 hb5)
    clear bxq bx5 hr5 hb5 TT2 CK
    go_wp2_with fail
    go_ret
    exact ⟨rfl, HD5.out⟩
  | some t =>
    have g := (hN1.trs k hkk t hx).1
    have bx := g.box
    rw [hx] at ct hR z5
    simp only [tpv] at ct
    simp only [] at hR
    have ce : w1.cell? ⟨(P.tp k).p, 1, none⟩ = some (.int .i64 t.ep) := by simp [World.cell?, bx]
    by_cases hlt : t.ep < ep
    · rw [if_pos hlt] at hR
      obtain ⟨pp, hpp⟩ : ∃ pp, (P.tp k).p = pp := ⟨_, rfl⟩
      obtain ⟨te, hte⟩ : ∃ te, t.ep = te := ⟨_, rfl⟩
      rw [hpp] at ct ce
      rw [hte] at ce hlt
      have hlt' : decide (te < ep) = true := by simpa using hlt
      clear hlt bx g hpp hte z5
      have HN1 := hidden hN1
      clear hN1
      go_wp2_with fail
      refine (CP.out _).mono ?_
      rintro e w2 ⟨Q, rfl, hT, hnew, hb2⟩
      have hN2 := HN1.out.below hb2
      have CB := hidden (beginSubs_all n b (grow o w1 ⟨n, 3, k⟩) P N tk w2 hn (HN1.out.chg (S := fun _ => False) (Chg.of_below hb2 _ _) (fun g hg => hg.elim) (grow_ext o w1 _)) HI.out HAl.out)
      have HT := hidden hT
      have HNew := hidden hnew
      have HB2 := hidden hb2
      clear hT hnew hb2 hN2
      go_wp2_with fail
      refine CB.out.mono ?_
      rintro e w3 ⟨rfl, hD⟩
      have HD := hidden hD
      clear hD
      obtain ⟨o3, P3, hN3, he3, hc3⟩ := HD.out
      have HO2 : Own (grow o w1 ⟨n, 3, k⟩) ⟨n, 3, k⟩ (tblks Q (tr0 tk ep)) := fun j hj => grow_new (HNew.out j hj)
      have hT3 := HT.out.chg hc3 HO2 (by simp [cls])
      have hO3 := HO2.ext he3 HT.out.lt
      have c5 := hN3.track hkk
      have f5 := hN3.free (2 + k)
      have hN4 := hN3.setT hn hkk hT3 hO3
      have he4' : Ext w1 o o3 := Ext.trans (grow_ext o w1 _) he3 HB2.out.size
      have he4 : Ext w o o3 := fun j hj => he4' j (by have := HB1.out.size; omega)
      have hc4 : Chg o (mine n) w (w3.setCell ⟨b, 2 + k, none⟩ (.pointer (some ⟨Q.p, 0, none⟩))) := by
        have q1 : Chg o (mine n) w w2 := (Chg.of_below HB1.out _ _).trans' (Chg.of_below HB2.out _ _)
        have q2 : Chg (grow o w1 ⟨n, 3, k⟩) (mine n) w2 w3 := cls_mine hc3
        have q3 := q1.trans q2 (fun j hj => by rw [grow_old (by have := HB1.out.size; omega)])
        exact q3.trans (chg_mine (hN3.chgB (2 + k) _)) he4
      have hin : ({ N with sb := N.sb.map (fun x => (x.1, sbegin x.2)), tr := updR N.tr k (tr0 tk ep) } : Nd).tr k = some (tr0 tk ep) := by simp [updR]
      have CK := hidden (TAIL.out _ o3 _ _ (tr0 tk ep) hN4 hin he4 hc4)
      have TT := hidden (fun w2 v h1 h2 => plan_tail (w2 := w2) (v := v) hn hN4 hkk hin pa K h1 h2 (by omega))
      have HG := hidden (hN4.trs k hkk _ hin).1
      have hqp : (updT P3.tp k Q k).p = Q.p := by simp [updT]
      obtain ⟨qp, hqq⟩ : ∃ qp, Q.p = qp := ⟨_, rfl⟩
      have HQ : Hid ((updT P3.tp k Q k).p = qp) := hqp.trans hqq
      have TT2 : Hid (∀ w2 v, w2.ownsRow (w3.setCell ⟨b, 2 + k, none⟩ (.pointer (some ⟨Q.p, 0, none⟩))).heap.size 3 1 v K.length (Gaps.ic K) → Below (w3.setCell ⟨b, 2 + k, none⟩ (.pointer (some ⟨Q.p, 0, none⟩))).heap.size (w3.setCell ⟨b, 2 + k, none⟩ (.pointer (some ⟨Q.p, 0, none⟩))) w2 → Done w ((w2.setCell ⟨qp, 2, none⟩ (.int .i64 pa)).setCell ⟨qp, 3, none⟩ v) o n b R) := by
        refine hidden ?_
        intro w2' v h1 h2
        have hd := TT.out w2' v h1 h2
        obtain ⟨o', P', q1, q2, q3⟩ := hd
        rw [show ({ P3 with tp := updT P3.tp k Q } : NP).tp k = updT P3.tp k Q k from rfl, HQ.out] at q1 q3
        refine ⟨o', P', ?_, he4.trans q2 hc4.size, hc4.trans q3 he4⟩
        rw [← hR]
        have e : updR (updR N.tr k (tr0 tk ep)) k ((tr0 tk ep).to pa K) = updR N.tr k ((tr0 tk ep).to pa K) := by
          funext j
          unfold updR
          split <;> rfl
        rw [← e]
        exact q1
      rw [hqq] at CK HG TT2 hN4 hc4
      obtain ⟨w4, hw4⟩ : ∃ w4, w3.setCell ⟨b, 2 + k, none⟩ (.pointer (some ⟨qp, 0, none⟩)) = w4 := ⟨_, rfl⟩
      rw [hw4] at CK HG TT2
      have HW4 := hidden hw4
      obtain ⟨cv, hcv⟩ : ∃ cv, tpv (N.tr k) (P3.tp k) = cv := ⟨_, rfl⟩
      have c5' : w3.cell? ⟨b, 2 + k, none⟩ = some cv := by rw [← hcv]; exact c5
      clear TT hN4 hc4 hin hqp hT3 hO3 hN3 he3 hc3 c5 hcv hw4
      rw [hqq]
      clear hqq
      go_upto_region 13 with fail
      rw [HW4.out]
      go_wp2_with fail
      refine CK.out.mono ?_
      rintro e w5 ⟨v, rfl, hr5, hb5⟩
      have bxq := HG.out.box
      rw [show (({ P3 with tp := updT P3.tp k Q } : NP).tp k).p = qp from HQ.out] at bxq
      have bx5 := (hb5.block qp (lt_of_block bxq)).trans bxq
      have c2 : w5.cell? ⟨qp, 2, none⟩ = some (.int .i64 0) := by simp [World.cell?, bx5, tr0]
      obtain ⟨v3, c3⟩ : ∃ v3, w5.cell? ⟨qp, 3, none⟩ = some v3 := by simp [World.cell?, bx5]
      have f2 : w5.frozen? ⟨qp, 2, none⟩ = false := by simp [World.frozen?, bx5]
      have f3 : w5.frozen? ⟨qp, 3, none⟩ = false := by simp [World.frozen?, bx5]
      obtain ⟨va, vc, rfl, _⟩ := Gaps.own_ints hr5 (by omega)
      have HD5 := hidden (TT2.out w5 _ hr5 hb5)
      clear bxq bx5 hr5 hb5 TT2 CK
      go_wp2_with fail
      go_ret
      exact ⟨rfl, HD5.out⟩
    · rw [if_neg hlt] at hR
      have TT := hidden (fun w2 v h1 h2 => plan_tail (w2 := w2) (v := v) hn hN1 hkk hx pa K h1 h2 (by omega))
      have CK := hidden (TAIL.out w1 o P N t hN1 hx (Ext.refl _ _) (Chg.of_below HB1.out _ _))
      obtain ⟨te, hte⟩ : ∃ te, t.ep = te := ⟨_, rfl⟩
      rw [hte] at ce hlt
      have hlt' : decide (te < ep) = false := by simpa using hlt
      have HG := hidden g
      obtain ⟨pp, hpp⟩ : ∃ pp, (P.tp k).p = pp := ⟨_, rfl⟩
      rw [hpp] at ct ce TT
      have HPP := hidden hpp
      clear hlt bx g hte z5 hpp hN1
      go_wp2_with fail
      refine CK.out.mono ?_
      rintro e w2 ⟨v, rfl, hr2, hb2⟩
      have bxq := HG.out.box
      rw [HPP.out] at bxq
      have bx2 := (hb2.block pp (lt_of_block bxq)).trans bxq
      have c2 : w2.cell? ⟨pp, 2, none⟩ = some (.int .i64 t.pa) := by simp [World.cell?, bx2]
      have c3 : w2.cell? ⟨pp, 3, none⟩ = some (.slice (P.tp k).ka t.kids.length (P.tp k).kc) := by simp [World.cell?, bx2]
      have f2 : w2.frozen? ⟨pp, 2, none⟩ = false := by simp [World.frozen?, bx2]
      have f3 : w2.frozen? ⟨pp, 3, none⟩ = false := by simp [World.frozen?, bx2]
      obtain ⟨va, vc, rfl, _⟩ := Gaps.own_ints hr2 (by omega)
      have HD := hidden (TT.out w2 _ hr2 hb2)
      clear bxq bx2 hr2 hb2 TT CK
      go_wp2_with fail
      go_ret
      refine ⟨rfl, ?_⟩
      have hD := HD.out
      rw [hR] at hD
      obtain ⟨o', P', q1, q2, q3⟩ := hD
      exact ⟨o', P', q1, fun j hj => q2 j (by have := HB1.out.size; omega), (Chg.of_below HB1.out _ _).trans' q3⟩
end Go.Proofs.YtpiamlgmadnepaaGreat.ND

