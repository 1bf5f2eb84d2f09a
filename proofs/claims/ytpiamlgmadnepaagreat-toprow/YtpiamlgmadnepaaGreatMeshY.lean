/-
  Lofts that a statement made for itself: what is older than they are stays as it was. And how tracks and subscribers begin. Of worlds, numbers and lists alone; no walk.
-/
import Derived.Test.YtpiamlgmadnepaaGreatMeshX
namespace Go.Proofs.YtpiamlgmadnepaaGreat.MS
open Go.ChangeShapes Go.WideShapes Go.ChangeAt Go.RowKit Go.Maps Go.Proofs.YtpiamlgmadnepaaGreat.Mem Go.Proofs.YtpiamlgmadnepaaGreat.NO Go.Proofs.YtpiamlgmadnepaaGreat.ND
set_option linter.unusedVariables false

theorem chg_below {w W W' : World} {o : Nat → Tg} (hb : Below w.heap.size w W) (ho : ∀ k, k < w.heap.size → (o k).n = 0) (hc : Chg o meshy W W') : Below w.heap.size w W' := by
  obtain ⟨bs, q1, q2, q3⟩ := hc
  refine hb.trans ⟨q1.1, q1.2.1, q1.2.2.1, q1.2.2.2.1, fun k hk => q1.2.2.2.2 k (Nat.lt_of_lt_of_le hk hb.size) (fun hm => (q2 k hm).1 (ho k hk))⟩
theorem keep_zero {w W : World} {o o' : Nat → Tg} (hb : Below w.heap.size w W) (ho : ∀ k, k < w.heap.size → (o k).n = 0) (hk : Keep W o o') : ∀ k, k < w.heap.size → (o' k).n = 0 := by
  intro k hl
  rcases hk k (Nat.lt_of_lt_of_le hl hb.size) with e | ⟨_, e⟩
  · rw [e]; exact ho k hl
  · rw [e]
/-- lofts that are younger than w -/
def Zt (w W : World) (b : Nat) (M : Ms) : Prop := ∃ o P, MAt W o b P M ∧ (∀ k, k < w.heap.size → (o k).n = 0) ∧ Below w.heap.size w W
theorem Zt.made {w w1 W : World} {b : Nat} {M : Ms} (hb : Below w.heap.size w w1) (h : MMade w1 W (fun _ => nobody) b M) : Zt w W b M := by
  obtain ⟨o, P, h1, h2, h3, _⟩ := h
  refine ⟨o, P, h1, fun k hk => ?_, hb.trans (h3.mono hb.size)⟩
  rw [h2 k (Nat.lt_of_lt_of_le hk hb.size)]
theorem Zt.next {w W W' : World} {b : Nat} {M M' : Ms} {o : Nat → Tg} (hb : Below w.heap.size w W) (ho : ∀ k, k < w.heap.size → (o k).n = 0) (h : MDone W W' o b M') : Zt w W' b M' := by
  obtain ⟨o', P', h1, h2, h3⟩ := h
  exact ⟨o', P', h1, keep_zero hb ho h2, chg_below hb ho h3⟩
theorem Zt.below {w W W' : World} {b : Nat} {M : Ms} (h : Zt w W b M) (hb : Below W.heap.size W W') : Zt w W' b M := by
  obtain ⟨o, P, h1, h2, h3⟩ := h
  exact ⟨o, P, h1.below hb, h2, h3.trans (hb.mono h3.size)⟩
theorem Zt.bel {w W : World} {b : Nat} {M : Ms} (h : Zt w W b M) : Below w.heap.size w W := by
  obtain ⟨o, P, h1, h2, h3⟩ := h
  exact h3
/-! tracks and subscribers begin -/
def zeroH : Nat → Nat → Nat := fun _ _ => 0
theorem pipe_mesh0 {Q : Plan} {E : List TM.Ed} (h1 : 1 ≤ Q.n) (h16 : Q.n ≤ 16) (hn : Q.now = 0) (ho : ∀ k, Q.on k = false) (hB : ∀ v, Q.B v = []) : Pipe Q zeroH [] (mesh0 Q.n E) := by
  refine ⟨mesh0_ok h1 h16, rfl, hn.symm, ?_, ?_, ?_, ?_, rfl, by simp, ?_, fun k _ v => Nat.zero_le _, fun v _ => by rw [hB v]; rfl⟩
  · intro v hv k hk ha
    have := (Plan.at_iff.1 ha).1
    rw [ho k] at this
    cases this
  · intro v hv k hk ha
    rfl
  · intro v hv
    rw [hB v]
    rfl
  · intro v hv x hx
    rw [hB v] at hx
    cases hx
  · intro k hk hon
    rw [ho k] at hon
    cases hon
def Plan.publish (Q : Plan) (k : Nat) (p d : List Int) : Plan := { Q with on := fun j => if j = k then true else Q.on j, p := updN Q.p k p, d := updN Q.d k d }
theorem publish_on (Q : Plan) (k : Nat) (p d : List Int) {j : Nat} (h : j ≠ k) : (Q.publish k p d).on j = Q.on j ∧ (Q.publish k p d).p j = Q.p j ∧ (Q.publish k p d).d j = Q.d j ∧ ∀ v, (Q.publish k p d).at j v = Q.at j v := by
  have e1 : (Q.publish k p d).on j = Q.on j := if_neg h
  have e2 : (Q.publish k p d).p j = Q.p j := updN_ne _ _ h
  have e3 : (Q.publish k p d).d j = Q.d j := updN_ne _ _ h
  exact ⟨e1, e2, e3, fun v => by unfold Plan.at; rw [e1, e3]⟩
theorem publish_at (Q : Plan) (k : Nat) (p d : List Int) : (Q.publish k p d).on k = true ∧ (Q.publish k p d).p k = p ∧ (Q.publish k p d).d k = d := ⟨if_pos rfl, updN_at _ _ _, updN_at _ _ _⟩
theorem Plan.Ok.publish {Q : Plan} (hQ : Q.Ok) {k : Nat} {p d : List Int} (hT : Trees Q.n (Q.rt k) Q.E p d) : (Q.publish k p d).Ok := by
  refine ⟨?_, hQ.pk, hQ.mx⟩
  intro j hj ho
  by_cases c : j = k
  · subst c
    rw [(publish_at Q j p d).2.1, (publish_at Q j p d).2.2]
    exact hT
  · rw [(publish_on Q k p d c).2.1, (publish_on Q k p d c).2.2.1]
    exact hQ.tr j hj (by rw [← (publish_on Q k p d c).1]; exact ho)
theorem pipe_publish {Q : Plan} {M : Ms} (hP : Pipe Q zeroH [] M) {k : Nat} (hk : k < 8) (hoff : Q.on k = false) {p d : List Int} (hT : Trees Q.n (Q.rt k) Q.E p d) (hE : M.E = Q.E) : Pipe (Q.publish k p d) zeroH [] (M.publish k (Q.rt k) p d) := by
  have hT' : Trees M.n (Q.rt k) M.E p d := by rw [hP.n, hE]; exact hT
  have hnd : ∀ v, v < Q.n → (M.publish k (Q.rt k) p d).nd v = if 0 ≤ TM.dg d v then ({ M.nd v with tr := updR (M.nd v).tr k (trk k p M.n v) } : Nd) else M.nd v := by
    intro v hv
    show (if v < M.n ∧ 0 ≤ TM.dg d v then ({ M.nd v with tr := updR (M.nd v).tr k (trk k p M.n v) } : Nd) else M.nd v) = _
    by_cases c : 0 ≤ TM.dg d v
    · rw [if_pos ⟨by rw [hP.n]; exact hv, c⟩, if_pos c]
    · rw [if_neg (fun q => c q.2), if_neg c]
  have hk0 : ∀ v, v < Q.n → (M.nd v).tr k = none := fun v hv => hP.no v hv k hk (by unfold Plan.at; rw [hoff]; rfl)
  have hsb : ∀ v, v < Q.n → ((M.publish k (Q.rt k) p d).nd v).sb = (M.nd v).sb := by
    intro v hv
    rw [hnd v hv]
    split <;> rfl
  refine ⟨hP.ok.publish hT', hP.n, hP.nw, ?_, ?_, ?_, ?_, hP.fl, by simp, ?_, fun k _ v => Nat.zero_le _, fun v hv => by rw [hnd v hv]; split <;> exact hP.ls v hv⟩
  · intro v hv j hj ha
    rw [hnd v hv]
    by_cases c : j = k
    · subst c
      have hd : 0 ≤ TM.dg d v := by have := (Plan.at_iff.1 ha).2; rwa [(publish_at Q j p d).2.2] at this
      rw [if_pos hd, (publish_at Q j p d).2.1]
      refine ⟨trk j p M.n v, if_pos rfl, ?_⟩
      rw [hP.n]
      exact TrH.start j p Q.n v (Q.sq j)
    · rw [(publish_on Q k p d c).2.2.2 v] at ha
      rw [(publish_on Q k p d c).2.1]
      obtain ⟨t, t1, t2⟩ := hP.tr v hv j hj ha
      refine ⟨t, ?_, t2⟩
      split
      · show updR (M.nd v).tr k _ j = _
        rw [show updR (M.nd v).tr k (trk k p M.n v) j = (M.nd v).tr j from if_neg c]
        exact t1
      · exact t1
  · intro v hv j hj ha
    rw [hnd v hv]
    by_cases c : j = k
    · subst c
      have hd : ¬ 0 ≤ TM.dg d v := fun q => by
        have : (Q.publish j p d).at j v = true := Plan.at_iff.2 ⟨(publish_at Q j p d).1, by rw [(publish_at Q j p d).2.2]; exact q⟩
        rw [ha] at this
        cases this
      rw [if_neg hd]
      exact hk0 v hv
    · rw [(publish_on Q k p d c).2.2.2 v] at ha
      split
      · show updR (M.nd v).tr k _ j = _
        rw [show updR (M.nd v).tr k (trk k p M.n v) j = (M.nd v).tr j from if_neg c]
        exact hP.no v hv j hj ha
      · exact hP.no v hv j hj ha
  · intro v hv
    rw [hsb v hv, hP.sb v hv]
    rfl
  · intro v hv x hx
    exact hP.sr v hv x hx
  · intro j hj hon v hv u hu
    exact ⟨Nat.le_refl _, rfl⟩
def Plan.addS (Q : Plan) (v : Nat) (x : Int × Sb) : Plan := { Q with B := updN Q.B v (Q.B v ++ [x]) }
theorem Plan.Ok.addS {Q : Plan} (hQ : Q.Ok) (v : Nat) (x : Int × Sb) : (Q.addS v x).Ok := ⟨hQ.tr, hQ.pk, hQ.mx⟩
theorem NdOk.subs {n : Nat} {N : Nd} (h : NdOk n N) {k : Nat} {mo : Int} (hk : k < 8) (ht : (N.tr k).isSome = true) (h0 : 0 ≤ mo) (h3 : mo ≤ 3) (hl : N.sb.length < 20) (hls : N.ls < 1000000) : NdOk n (N.subs ((k : Int) + 1) mo) := by
  refine ⟨h.nw, h.id, h.tr, ?_, ?_, h.pn, h.pl, h.pw, h.ak⟩
  · have hs := h.si
    refine ⟨?_, ?_, ?_, by have := hs.ls0; show 0 ≤ N.ls + 1; omega, by show N.ls + 1 ≤ 1000000; omega⟩
    · show (ids (N.sb ++ [(N.ls + 1, s0 ((k : Int) + 1) mo)])).Pairwise _
      unfold ids
      rw [List.map_append, List.pairwise_append]
      refine ⟨hs.ris, by simp, ?_⟩
      intro a ha b hb
      simp at hb
      subst hb
      obtain ⟨y, hy, rfl⟩ := List.mem_map.1 ha
      have := hs.mem y hy
      omega
    · intro x hx
      rcases List.mem_append.1 hx with hx | hx
      · have := hs.mem x hx
        exact ⟨this.1, by show x.1 ≤ N.ls + 1; omega, this.2.2⟩
      · rw [List.mem_singleton] at hx
        subst hx
        have := hs.ls0
        exact ⟨by show 1 ≤ N.ls + 1; omega, Int.le_refl _, h0, h3⟩
    · show (N.sb ++ [_]).length ≤ 20
      rw [List.length_append]
      simp
      omega
  · intro x hx
    rcases List.mem_append.1 hx with hx | hx
    · exact h.sb x hx
    · rw [List.mem_singleton] at hx
      subst hx
      exact ⟨(SbOk.start _ _).mono h.nw.1, k, hk, rfl, ht⟩
theorem pipe_sub {Q : Plan} {M : Ms} (hP : Pipe Q zeroH [] M) {k v : Nat} (hk : k < 8) (hv : v < Q.n) (hat : Q.at k v = true) {mo : Int} (h0 : 0 ≤ mo) (h3 : mo ≤ 3) (hl : (Q.B v).length < 20) (hls : (M.nd v).ls < 1000000) : Pipe (Q.addS v ((M.nd v).ls + 1, s0 ((k : Int) + 1) mo)) zeroH [] (M.sub v ((k : Int) + 1) mo) := by
  have hsl : (M.nd v).sb.length = (Q.B v).length := by rw [hP.sb v hv, List.length_map]
  obtain ⟨t, t1, t2⟩ := hP.tr v hv k hk hat
  have hnd : ∀ j, j ≠ v → (M.sub v ((k : Int) + 1) mo).nd j = M.nd j := fun j hj => updN_ne _ _ hj
  have hnv : (M.sub v ((k : Int) + 1) mo).nd v = (M.nd v).subs ((k : Int) + 1) mo := updN_at _ _ _
  refine ⟨⟨hP.ok.n1, hP.ok.n16, hP.ok.nw, ?_⟩, hP.n, hP.nw, ?_, ?_, ?_, ?_, hP.fl, by simp, ?_, fun k _ v => Nat.zero_le _, ?_⟩
  · intro j hj
    obtain ⟨g1, g2, g3, g4⟩ := hP.ok.nd j hj
    by_cases c : j = v
    · subst c
      rw [hnv]
      exact ⟨NdOk.subs g1 hk (by rw [t1]; rfl) h0 h3 (by omega) hls, g2, g3, g4⟩
    · rw [hnd j c]
      exact ⟨g1, g2, g3, g4⟩
  · intro j hj k' hk' ha
    obtain ⟨t', q1, q2⟩ := hP.tr j hj k' hk' ha
    refine ⟨t', ?_, q2⟩
    by_cases c : j = v
    · subst c; rw [hnv]; exact q1
    · rw [hnd j c]; exact q1
  · intro j hj k' hk' ha
    have q1 := hP.no j hj k' hk' ha
    by_cases c : j = v
    · subst c; rw [hnv]; exact q1
    · rw [hnd j c]; exact q1
  · intro j hj
    by_cases c : j = v
    · subst c
      rw [hnv]
      show (M.nd j).sb ++ [_] = (updN Q.B j _ j).map _
      rw [updN_at, List.map_append, hP.sb j hj]
      rfl
    · rw [hnd j c, hP.sb j hj]
      show _ = (updN Q.B v _ j).map _
      rw [updN_ne _ _ c]
      rfl
  · intro j hj x hx
    have hx : x ∈ updN Q.B v (Q.B v ++ [((M.nd v).ls + 1, s0 ((k : Int) + 1) mo)]) j := hx
    by_cases c : j = v
    · subst c
      rw [updN_at] at hx
      rcases List.mem_append.1 hx with hx | hx
      · exact hP.sr j hj x hx
      · rw [List.mem_singleton] at hx
        subst hx
        exact SbR.start _ _ _
    · rw [updN_ne _ _ c] at hx
      exact hP.sr j hj x hx
  · intro j hj hon v hv u hu
    exact ⟨Nat.le_refl _, rfl⟩
  · intro j hj
    by_cases c : j = v
    · subst c
      rw [hnv]
      show (M.nd j).ls + 1 = ((updN Q.B j _ j).length : Int)
      rw [updN_at, List.length_append, hP.ls j hj]
      simp
    · rw [hnd j c, hP.ls j hj]
      show _ = ((updN Q.B v _ j).length : Int)
      rw [updN_ne _ _ c]
end Go.Proofs.YtpiamlgmadnepaaGreat.MS

