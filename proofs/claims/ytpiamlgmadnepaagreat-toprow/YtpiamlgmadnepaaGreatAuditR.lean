/-
  Rows of packets that a call has made, in memory; and where their Bodies lie. Of worlds alone; no walk.
-/
import Derived.Test.YtpiamlgmadnepaaGreatAuditC
namespace Go.Proofs.YtpiamlgmadnepaaGreat.Audit
open Go.ChangeShapes Go.WideShapes Go.ChangeAt Go.RowKit Go.Proofs.YtpiamlgmadnepaaGreat.PM Go.Proofs.YtpiamlgmadnepaaGreat.Mem Go.Proofs.YtpiamlgmadnepaaGreat.Pack Go.Proofs.YtpiamlgmadnepaaGreat.AU
set_option linter.unusedVariables false

/-- the cells of a packet -/
def pc (p : Pk) : List Value := [.int .i64 p.s, .int .i64 p.t, .int .i64 p.l, .int .i64 p.q, .bool p.st, .slice p.a p.m p.c]
def flat (X : List Pk) : List Value := X.flatMap pc
theorem pc_len (p : Pk) : (pc p).length = 6 := rfl
theorem flat_len (X : List Pk) : (flat X).length = X.length * 6 := by
  induction X with
  | nil => rfl
  | cons x r ih =>
    have e : flat (x :: r) = pc x ++ flat r := by simp [flat]
    rw [e, List.length_append, ih, pc_len, List.length_cons]
    omega
theorem flat_app (X Y : List Pk) : flat (X ++ Y) = flat X ++ flat Y := by simp [flat]
theorem flat_one (p : Pk) : flat [p] = pc p := by simp [flat]
theorem flat_get (X : List Pk) (j k : Nat) (hj : j < X.length) (hk : k < 6) : (flat X)[j * 6 + k]? = (pc (X.getD j noPk))[k]? := by
  induction X generalizing j with
  | nil => simp at hj
  | cons x r ih =>
    have e : flat (x :: r) = pc x ++ flat r := by simp [flat]
    rw [e]
    cases j with
    | zero => rw [List.getElem?_append_left (by rw [pc_len]; omega)]; simp
    | succ j =>
      rw [List.getElem?_append_right (by rw [pc_len]; omega), pc_len, show (j + 1) * 6 + k - 6 = j * 6 + k by omega, ih j (by simpa using hj)]
      simp
theorem pc_one (p : Pk) : ∀ u ∈ pc p, u.oneCell' = true := by simp [pc, Value.oneCell']
/-- a row that came in -/
def Came (W : World) (a : Option Addr) (n cap : Nat) (X : List Pk) : Prop := PArg W a n X ∧ n ≤ cap ∧ (a = none → cap = 0) ∧ ∀ p ∈ X, p.a = none → p.m = 0 ∧ p.c = 0
/-- the Body of a packet is there, and lies in none of the blocks F -/
def Bd (W : World) (F : List Nat) (p : Pk) : Prop := PkOk W p ∧ (p.a = none → p.m = 0 ∧ p.c = 0) ∧ ∀ ad, p.a = some ad → 0 < p.m → ad.block < W.heap.size ∧ ad.block ∉ F
theorem ok_lt {W : World} {p : Pk} (h : PkOk W p) {ad : Addr} (e : p.a = some ad) (hm : 0 < p.m) : ad.block < W.heap.size := by
  obtain ⟨b, o, e2, hc⟩ := h.1.2 0 (by have := h.2.1; omega)
  rw [e, Option.some.injEq] at e2
  subst e2
  exact World.block_lt_of_cell? W _ hc
theorem ok_only {W W' : World} {F : List Nat} {p : Pk} (h : PkOk W p) (ho : Only F W W') (hf : ∀ ad, p.a = some ad → 0 < p.m → ad.block ∉ F) : PkOk W' p := by
  refine ⟨⟨h.1.1, fun j hj => ?_⟩, h.2⟩
  obtain ⟨b, o, e, hc⟩ := h.1.2 j hj
  refine ⟨b, o, e, ?_⟩
  have hb := ho.2.2.2.2 b (World.block_lt_of_cell? W ⟨b, o + j, none⟩ hc) (hf _ e (by have := h.2.1; omega))
  rw [← hc]
  simp [World.cell?, hb]
theorem Bd.only {W W' : World} {F F' : List Nat} {p : Pk} (h : Bd W F p) (ho : Only F W W') (hF : ∀ x ∈ F', x ∈ F ∨ W.heap.size ≤ x) : Bd W' F' p := by
  refine ⟨ok_only h.1 ho fun ad e hm => (h.2.2 ad e hm).2, h.2.1, fun ad e hm => ?_⟩
  obtain ⟨h1, h2⟩ := h.2.2 ad e hm
  refine ⟨Nat.lt_of_lt_of_le h1 ho.2.2.2.1, fun hc => ?_⟩
  rcases hF _ hc with h3 | h3
  · exact h2 h3
  · omega
theorem Bd.old {w W : World} {F : List Nat} {p : Pk} (h : PkOk w p) (hn : p.a = none → p.m = 0 ∧ p.c = 0) (hb : Below w.heap.size w W) (hF : ∀ x ∈ F, w.heap.size ≤ x) : Bd W F p := by
  refine ⟨h.below hb, hn, fun ad e hm => ?_⟩
  have := ok_lt h e hm
  refine ⟨Nat.lt_of_lt_of_le this hb.size, fun hc => ?_⟩
  have := hF _ hc
  omega
/-- a row that was made is a row -/
theorem own_pks {W : World} {base n : Nat} {v : Value} {X : List Pk} (h : W.ownsRow base 38 6 v n (flat X)) (hX : X.length = n) (hn : n ≤ 9223372036854775807) (hb : ∀ p ∈ X, PkOk W p) :
    ∃ a cap, v = .slice a n cap ∧ PArg W a n X ∧ n ≤ cap ∧ (a = none → cap = 0) := by
  rcases h.2 with ⟨rfl, rfl⟩ | ⟨g, cap, cur, rfl, hg, hbl, hc, hm, hs, ht⟩
  · have : X = [] := List.eq_nil_of_length_eq_zero hX
    subst this
    exact ⟨none, 0, rfl, PArg.empty _ _, Nat.le_refl _, fun _ => rfl⟩
  · refine ⟨_, cap, rfl, ⟨hX, hn, fun j hj => ⟨g, 0, rfl, ?_, ?_⟩⟩, hc, fun e => by simp at e⟩
    · have k : ∀ i, i < 6 → W.cell? ⟨g, 0 + j * 6 + i, none⟩ = (pc (X.getD j noPk))[i]? := by
        intro i hi
        rw [Nat.zero_add, h.cellAt (j * 6 + i) (by omega), flat_get X j i (by omega) hi]
      have k0 := k 0 (by omega)
      have k1 := k 1 (by omega)
      have k2 := k 2 (by omega)
      have k3 := k 3 (by omega)
      have k4 := k 4 (by omega)
      have k5 := k 5 (by omega)
      exact ⟨k0, k1, k2, k3, k4, k5⟩
    · refine hb _ ?_
      rw [List.getD_eq_getElem?_getD, List.getElem?_eq_getElem (by omega)]
      exact List.getElem_mem _
/-- what may change: an object's block, and the two rows' -/
def fp (b : Nat) (gv sv : Value) : List Nat := b :: (gv.ownBlock.toList ++ sv.ownBlock.toList)
/-- two rows of packets that are made beside an object in block b -/
structure Rws (w W : World) (b : Nat) (gv sv : Value) (X Y : List Pk) : Prop where
  got : W.ownsRow w.heap.size 38 6 gv X.length (flat X)
  snt : W.ownsRow w.heap.size 38 6 sv Y.length (flat Y)
  bx : ∀ p ∈ X, Bd W (fp b gv sv) p
  byy : ∀ p ∈ Y, Bd W (fp b gv sv) p
  bel : Below w.heap.size w W
  hb : w.heap.size ≤ b
  hlt : b < W.heap.size
  n1 : gv.ownBlock ≠ some b
  n2 : sv.ownBlock ≠ some b
  n3 : ∀ g, gv.ownBlock = some g → sv.ownBlock ≠ some g
theorem mem_fp {b x : Nat} {gv sv : Value} : x ∈ fp b gv sv ↔ x = b ∨ gv.ownBlock = some x ∨ sv.ownBlock = some x := by
  simp [fp]
theorem Rws.fpb {w W : World} {b : Nat} {gv sv : Value} {X Y : List Pk} (h : Rws w W b gv sv X Y) : ∀ x ∈ fp b gv sv, w.heap.size ≤ x ∧ x < W.heap.size := by
  intro x hx
  rcases mem_fp.1 hx with rfl | e | e
  · exact ⟨h.hb, h.hlt⟩
  · exact h.got.lt x e
  · exact h.snt.lt x e
theorem Rws.only {w W W' : World} {b : Nat} {gv sv : Value} {X Y : List Pk} (h : Rws w W b gv sv X Y) (ho : Only [b] W W') : Rws w W' b gv sv X Y := by
  have hF : Only (fp b gv sv) W W' := ho.mono (by simp [fp])
  exact ⟨ho.owns h.got (fun k e hc => by simp at hc; subst hc; exact h.n1 e), ho.owns h.snt (fun k e hc => by simp at hc; subst hc; exact h.n2 e), fun p hp => (h.bx p hp).only hF (fun x hx => .inl hx), fun p hp => (h.byy p hp).only hF (fun x hx => .inl hx), h.bel.trans (ho.below h.bel.size (by simp; exact h.hb)), h.hb, Nat.lt_of_lt_of_le h.hlt ho.2.2.2.1, h.n1, h.n2, h.n3⟩
theorem Rws.below {w W W' : World} {b : Nat} {gv sv : Value} {X Y : List Pk} (h : Rws w W b gv sv X Y) (hb : Below W.heap.size W W') : Rws w W' b gv sv X Y := h.only (Only.of_below hb [b])
theorem Rws.start {w W : World} {b : Nat} (hb : Below w.heap.size w W) (h : w.heap.size ≤ b) (hl : b < W.heap.size) : Rws w W b (.slice none 0 0) (.slice none 0 0) [] [] :=
  ⟨World.ownsRow_nil _ _ _ _, World.ownsRow_nil _ _ _ _, by simp, by simp, hb, h, hl, by simp [Value.ownBlock], by simp [Value.ownBlock], by simp [Value.ownBlock]⟩
theorem Rws.swap {w W : World} {b : Nat} {gv sv : Value} {X Y : List Pk} (h : Rws w W b gv sv X Y) : Rws w W b sv gv Y X := by
  have e : ∀ p, Bd W (fp b gv sv) p → Bd W (fp b sv gv) p := fun p hp => ⟨hp.1, hp.2.1, fun ad ea hm => ⟨(hp.2.2 ad ea hm).1, fun hc => (hp.2.2 ad ea hm).2 (by
    rcases mem_fp.1 hc with h1 | h1 | h1
    · exact mem_fp.2 (.inl h1)
    · exact mem_fp.2 (.inr (.inr h1))
    · exact mem_fp.2 (.inr (.inl h1)))⟩⟩
  exact ⟨h.snt, h.got, fun p hp => e p (h.byy p hp), fun p hp => e p (h.bx p hp), h.bel, h.hb, h.hlt, h.n2, h.n1, fun g e1 e2 => h.n3 g e2 e1⟩
/-- one more of what was got -/
theorem Rws.addG {w W W1 : World} {b : Nat} {gv sv : Value} {X Y : List Pk} (h : Rws w W b gv sv X Y) {p : Pk} (hp : Bd W (fp b gv sv) p) {O : Obj} {g cap : Nat}
    (hown : W1.ownsRow w.heap.size 38 6 (.slice (some ⟨g, 0, none⟩) (X.length + 1) cap) (X.length + 1) (flat X ++ pc p)) (hg : (W.alloc O).grownBy W1 gv.ownBlock) (hl : gv.ownBlock = some g ∨ g = W.heap.size + 1) (hlt : g < W1.heap.size) :
    Rws w W1 b (.slice (some ⟨g, 0, none⟩) (X.length + 1) cap) sv (X ++ [p]) Y := by
  have hob : (Value.slice (some ⟨g, 0, none⟩) (X.length + 1) cap).ownBlock = some g := rfl
  have ho : Only (fp b gv sv) W W1 := (((Only.refl _ W).alloc O).grown hg (fun k e => mem_fp.2 (.inr (.inl e))))
  have hos : ∀ k, sv.ownBlock = some k → gv.ownBlock ≠ some k := fun k e1 e2 => h.n3 k e2 e1
  have hF : ∀ x ∈ fp b (.slice (some ⟨g, 0, none⟩) (X.length + 1) cap) sv, x ∈ fp b gv sv ∨ W.heap.size ≤ x := by
    intro x hx
    rcases mem_fp.1 hx with h1 | h1 | h1
    · exact .inl (mem_fp.2 (.inl h1))
    · rw [hob, Option.some.injEq] at h1
      subst h1
      rcases hl with h2 | h2
      · exact .inl (mem_fp.2 (.inr (.inl h2)))
      · exact .inr (by omega)
    · exact .inl (mem_fp.2 (.inr (.inr h1)))
  have hsn : W1.ownsRow w.heap.size 38 6 sv Y.length (flat Y) := by
    have h1 : Only gv.ownBlock.toList W W1 := (((Only.refl _ W).alloc O).grown hg (fun k e => by simp [e]))
    exact h1.owns h.snt (fun k e hc => hos k e (by simpa using hc))
  refine ⟨?_, hsn, ?_, fun q hq => (h.byy q hq).only ho hF, h.bel.trans (ho.below h.bel.size (fun k hk => (h.fpb k hk).1)), h.hb, Nat.lt_of_lt_of_le h.hlt ho.2.2.2.1, ?_, h.n2, ?_⟩
  · rw [List.length_append, List.length_singleton, flat_app, flat_one]
    exact hown
  · intro q hq
    rw [List.mem_append, List.mem_singleton] at hq
    rcases hq with hq | rfl
    · exact (h.bx q hq).only ho hF
    · exact hp.only ho hF
  · rw [hob]
    intro e
    simp only [Option.some.injEq] at e
    subst e
    rcases hl with h2 | h2
    · exact h.n1 h2
    · have := h.hlt; omega
  · intro g' e1 e2
    rw [hob, Option.some.injEq] at e1
    subst e1
    rcases hl with h2 | h2
    · exact h.n3 g h2 e2
    · have := (h.snt.lt g e2).2; omega
/-- one more of what was sent -/
theorem Rws.addS {w W W1 : World} {b : Nat} {gv sv : Value} {X Y : List Pk} (h : Rws w W b gv sv X Y) {p : Pk} (hp : Bd W (fp b gv sv) p) {O : Obj} {g cap : Nat}
    (hown : W1.ownsRow w.heap.size 38 6 (.slice (some ⟨g, 0, none⟩) (Y.length + 1) cap) (Y.length + 1) (flat Y ++ pc p)) (hg : (W.alloc O).grownBy W1 sv.ownBlock) (hl : sv.ownBlock = some g ∨ g = W.heap.size + 1) (hlt : g < W1.heap.size) :
    Rws w W1 b gv (.slice (some ⟨g, 0, none⟩) (Y.length + 1) cap) X (Y ++ [p]) := by
  refine (h.swap.addG (p := p) ?_ hown hg hl hlt).swap
  exact ⟨hp.1, hp.2.1, fun ad ea hm => ⟨(hp.2.2 ad ea hm).1, fun hc => (hp.2.2 ad ea hm).2 (by
    rcases mem_fp.1 hc with h1 | h1 | h1
    · exact mem_fp.2 (.inl h1)
    · exact mem_fp.2 (.inr (.inr h1))
    · exact mem_fp.2 (.inr (.inl h1)))⟩⟩
/-- a packet laid as a row of one -/
theorem lit6 {w : World} (p : Pk) : ∀ j u, (pc p)[j]? = some u → (w.alloc (.cells #[.int .i64 p.s, .int .i64 p.t, .int .i64 p.l, .int .i64 p.q, .bool p.st, .slice p.a p.m p.c] 38)).cell? ((⟨w.heap.size, 0, none⟩ : Addr).add j) = some u := by
  intro j u hu
  rw [Addr.add_lit, World.cell?_alloc_mark, Nat.zero_add, ← hu]
  exact List.getElem?_toArray
end Go.Proofs.YtpiamlgmadnepaaGreat.Audit

