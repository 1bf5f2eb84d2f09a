/-
  Two rows of packets that grow beside a fixed list of blocks. Of worlds alone; no walk.
-/
import Derived.Test.YtpiamlgmadnepaaGreatAuditR
namespace Go.Proofs.YtpiamlgmadnepaaGreat.Audit
open Go.ChangeShapes Go.WideShapes Go.ChangeAt Go.RowKit Go.Proofs.YtpiamlgmadnepaaGreat.PM Go.Proofs.YtpiamlgmadnepaaGreat.Mem Go.Proofs.YtpiamlgmadnepaaGreat.Pack Go.Proofs.YtpiamlgmadnepaaGreat.AU
set_option linter.unusedVariables false

def fpF (F : List Nat) (gv sv : Value) : List Nat := F ++ (gv.ownBlock.toList ++ sv.ownBlock.toList)
/-- two rows of packets that are made beside an object in blocks F -/
structure RwsF (w W : World) (F : List Nat) (gv sv : Value) (X Y : List Pk) : Prop where
  got : W.ownsRow w.heap.size 38 6 gv X.length (flat X)
  snt : W.ownsRow w.heap.size 38 6 sv Y.length (flat Y)
  bx : ∀ p ∈ X, Bd W (fpF F gv sv) p
  byy : ∀ p ∈ Y, Bd W (fpF F gv sv) p
  bel : Below w.heap.size w W
  hb : ∀ b ∈ F, w.heap.size ≤ b
  hlt : ∀ b ∈ F, b < W.heap.size
  n1 : ∀ b ∈ F, gv.ownBlock ≠ some b
  n2 : ∀ b ∈ F, sv.ownBlock ≠ some b
  n3 : ∀ g, gv.ownBlock = some g → sv.ownBlock ≠ some g
theorem mem_fpF {F : List Nat} {x : Nat} {gv sv : Value} : x ∈ fpF F gv sv ↔ x ∈ F ∨ gv.ownBlock = some x ∨ sv.ownBlock = some x := by
  simp [fpF]
theorem RwsF.fpb {w W : World} {F : List Nat} {gv sv : Value} {X Y : List Pk} (h : RwsF w W F gv sv X Y) : ∀ x ∈ fpF F gv sv, w.heap.size ≤ x ∧ x < W.heap.size := by
  intro x hx
  rcases mem_fpF.1 hx with e | e | e
  · exact ⟨h.hb _ e, h.hlt _ e⟩
  · exact h.got.lt x e
  · exact h.snt.lt x e
theorem RwsF.only {w W W' : World} {F : List Nat} {gv sv : Value} {X Y : List Pk} (h : RwsF w W F gv sv X Y) (ho : Only F W W') : RwsF w W' F gv sv X Y := by
  have hF : Only (fpF F gv sv) W W' := ho.mono (fun k hk => by simp [fpF, hk])
  exact ⟨ho.owns h.got (fun k e hc => h.n1 k hc e), ho.owns h.snt (fun k e hc => h.n2 k hc e), fun p hp => (h.bx p hp).only hF (fun x hx => .inl hx), fun p hp => (h.byy p hp).only hF (fun x hx => .inl hx), h.bel.trans (ho.below h.bel.size h.hb), h.hb, fun x hx => Nat.lt_of_lt_of_le (h.hlt x hx) ho.2.2.2.1, h.n1, h.n2, h.n3⟩
theorem RwsF.below {w W W' : World} {F : List Nat} {gv sv : Value} {X Y : List Pk} (h : RwsF w W F gv sv X Y) (hb : Below W.heap.size W W') : RwsF w W' F gv sv X Y := h.only (Only.of_below hb F)
theorem RwsF.start {w W : World} {F : List Nat} (hb : Below w.heap.size w W) (h : ∀ b ∈ F, w.heap.size ≤ b) (hl : ∀ b ∈ F, b < W.heap.size) : RwsF w W F (.slice none 0 0) (.slice none 0 0) [] [] :=
  ⟨World.ownsRow_nil _ _ _ _, World.ownsRow_nil _ _ _ _, by simp, by simp, hb, h, hl, by simp [Value.ownBlock], by simp [Value.ownBlock], by simp [Value.ownBlock]⟩
theorem RwsF.swap {w W : World} {F : List Nat} {gv sv : Value} {X Y : List Pk} (h : RwsF w W F gv sv X Y) : RwsF w W F sv gv Y X := by
  have e : ∀ p, Bd W (fpF F gv sv) p → Bd W (fpF F sv gv) p := fun p hp => ⟨hp.1, hp.2.1, fun ad ea hm => ⟨(hp.2.2 ad ea hm).1, fun hc => (hp.2.2 ad ea hm).2 (by
    rcases mem_fpF.1 hc with h1 | h1 | h1
    · exact mem_fpF.2 (.inl h1)
    · exact mem_fpF.2 (.inr (.inr h1))
    · exact mem_fpF.2 (.inr (.inl h1)))⟩⟩
  exact ⟨h.snt, h.got, fun p hp => e p (h.byy p hp), fun p hp => e p (h.bx p hp), h.bel, h.hb, h.hlt, h.n2, h.n1, fun g e1 e2 => h.n3 g e2 e1⟩
/-- one more of what was got -/
theorem RwsF.addG {w W W1 : World} {F : List Nat} {gv sv : Value} {X Y : List Pk} (h : RwsF w W F gv sv X Y) {p : Pk} (hp : Bd W (fpF F gv sv) p) {O : Obj} {g cap : Nat}
    (hown : W1.ownsRow w.heap.size 38 6 (.slice (some ⟨g, 0, none⟩) (X.length + 1) cap) (X.length + 1) (flat X ++ pc p)) (hg : (W.alloc O).grownBy W1 gv.ownBlock) (hl : gv.ownBlock = some g ∨ g = W.heap.size + 1) (hlt : g < W1.heap.size) :
    RwsF w W1 F (.slice (some ⟨g, 0, none⟩) (X.length + 1) cap) sv (X ++ [p]) Y := by
  have hob : (Value.slice (some ⟨g, 0, none⟩) (X.length + 1) cap).ownBlock = some g := rfl
  have ho : Only (fpF F gv sv) W W1 := (((Only.refl _ W).alloc O).grown hg (fun k e => mem_fpF.2 (.inr (.inl e))))
  have hos : ∀ k, sv.ownBlock = some k → gv.ownBlock ≠ some k := fun k e1 e2 => h.n3 k e2 e1
  have hF : ∀ x ∈ fpF F (.slice (some ⟨g, 0, none⟩) (X.length + 1) cap) sv, x ∈ fpF F gv sv ∨ W.heap.size ≤ x := by
    intro x hx
    rcases mem_fpF.1 hx with h1 | h1 | h1
    · exact .inl (mem_fpF.2 (.inl h1))
    · rw [hob, Option.some.injEq] at h1
      subst h1
      rcases hl with h2 | h2
      · exact .inl (mem_fpF.2 (.inr (.inl h2)))
      · exact .inr (by omega)
    · exact .inl (mem_fpF.2 (.inr (.inr h1)))
  have hsn : W1.ownsRow w.heap.size 38 6 sv Y.length (flat Y) := by
    have h1 : Only gv.ownBlock.toList W W1 := (((Only.refl _ W).alloc O).grown hg (fun k e => by simp [e]))
    exact h1.owns h.snt (fun k e hc => hos k e (by simpa using hc))
  refine ⟨?_, hsn, ?_, fun q hq => (h.byy q hq).only ho hF, h.bel.trans (ho.below h.bel.size (fun k hk => (h.fpb k hk).1)), h.hb, fun x hx => Nat.lt_of_lt_of_le (h.hlt x hx) ho.2.2.2.1, ?_, h.n2, ?_⟩
  · rw [List.length_append, List.length_singleton, flat_app, flat_one]
    exact hown
  · intro q hq
    rw [List.mem_append, List.mem_singleton] at hq
    rcases hq with hq | rfl
    · exact (h.bx q hq).only ho hF
    · exact hp.only ho hF
  · rw [hob]
    intro x hx e
    simp only [Option.some.injEq] at e
    subst e
    rcases hl with h2 | h2
    · exact h.n1 _ hx h2
    · have := h.hlt _ hx; omega
  · intro g' e1 e2
    rw [hob, Option.some.injEq] at e1
    subst e1
    rcases hl with h2 | h2
    · exact h.n3 g h2 e2
    · have := (h.snt.lt g e2).2; omega
/-- one more of what was sent -/
theorem RwsF.addS {w W W1 : World} {F : List Nat} {gv sv : Value} {X Y : List Pk} (h : RwsF w W F gv sv X Y) {p : Pk} (hp : Bd W (fpF F gv sv) p) {O : Obj} {g cap : Nat}
    (hown : W1.ownsRow w.heap.size 38 6 (.slice (some ⟨g, 0, none⟩) (Y.length + 1) cap) (Y.length + 1) (flat Y ++ pc p)) (hg : (W.alloc O).grownBy W1 sv.ownBlock) (hl : sv.ownBlock = some g ∨ g = W.heap.size + 1) (hlt : g < W1.heap.size) :
    RwsF w W1 F gv (.slice (some ⟨g, 0, none⟩) (Y.length + 1) cap) X (Y ++ [p]) := by
  refine (h.swap.addG (p := p) ?_ hown hg hl hlt).swap
  exact ⟨hp.1, hp.2.1, fun ad ea hm => ⟨(hp.2.2 ad ea hm).1, fun hc => (hp.2.2 ad ea hm).2 (by
    rcases mem_fpF.1 hc with h1 | h1 | h1
    · exact mem_fpF.2 (.inl h1)
    · exact mem_fpF.2 (.inr (.inr h1))
    · exact mem_fpF.2 (.inr (.inl h1)))⟩⟩
end Go.Proofs.YtpiamlgmadnepaaGreat.Audit

