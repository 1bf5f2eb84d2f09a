/-
  What package voice keeps, in memory; what New, Speaker and gains return. They change nothing that was there.
-/
import Derived.Test.YtbadpjgiogghdaaGreatDoorVoiceI
namespace Go.Proofs.YtbadpjgiogghdaaGreatDoor.Voice
open Go.ChangeShapes Go.WideShapes Go.ChangeAt Go.RowKit Go.Maps Go.Proofs.YtbadpjgiogghdaaGreatDoor.Mem Go.Proofs.YtbadpjgiogghdaaGreatDoor.VO
set_option linter.unusedVariables false

/-- scores in a map that may be nil -/
def SMap (w : World) (mo : Option Nat) (f : Sc) : Prop := (mo = none ∧ ∀ x, f x = 0) ∨ ∃ m D, mo = some m ∧ w.ownsMap Tryz.prog 3 inR m (Maps.size D) D ∧ KM D (fun x => f x ≠ 0) f
theorem SMap.only {w w' : World} {mo : Option Nat} {f : Sc} {bs : List Nat} (h : SMap w mo f) (ho : Only bs w w') (hm : ∀ m, mo = some m → m ∉ bs) : SMap w' mo f := by
  rcases h with h | ⟨m, D, rfl, h1, h2⟩
  · exact .inl h
  · exact .inr ⟨m, D, rfl, map_only h1 ho (hm m rfl), h2⟩
theorem SMap.lt {w : World} {m : Nat} {f : Sc} (h : SMap w (some m) f) : m < w.heap.size := by
  rcases h with ⟨h, _⟩ | ⟨m', D, h0, h1, h2⟩
  · cases h
  · cases h0; exact h1.lt
/-- what package voice keeps, in memory: b its block, mo its map -/
structure VAt (w : World) (b : Nat) (mo : Option Nat) (many sp : Int) (f : Sc) : Prop where
  box : w.heap[b]? = some (.cells #[.int .i64 many, .int .i64 sp, .map mo] 136 (0, 0))
  map : SMap w mo f
theorem VAt.cells {w : World} {b : Nat} {mo : Option Nat} {many sp : Int} {f : Sc} (h : VAt w b mo many sp f) : w.cell? ⟨b, 0, none⟩ = some (.int .i64 many) ∧ w.cell? ⟨b, 1, none⟩ = some (.int .i64 sp) ∧ w.cell? ⟨b, 2, none⟩ = some (.map mo) := by
  have := h.box
  refine ⟨?_, ?_, ?_⟩ <;> simp [World.cell?, this]
theorem VAt.free {w : World} {b : Nat} {mo : Option Nat} {many sp : Int} {f : Sc} (h : VAt w b mo many sp f) (j : Nat) : w.frozen? ⟨b, j, none⟩ = false := by
  have := h.box
  simp [World.frozen?, this]
theorem VAt.lt {w : World} {b : Nat} {mo : Option Nat} {many sp : Int} {f : Sc} (h : VAt w b mo many sp f) : b < w.heap.size := lt_of_block h.box
theorem VAt.ne {w : World} {b m : Nat} {many sp : Int} {f : Sc} (h : VAt w b (some m) many sp f) : b ≠ m := by
  rcases h.map with ⟨h0, _⟩ | ⟨m', D, h0, h1, h2⟩
  · cases h0
  · cases h0
    obtain ⟨es, c, h4⟩ := map_block h1
    intro e
    have := h.box
    rw [e, h4] at this
    simp at this
theorem VAt.only {w w' : World} {b : Nat} {mo : Option Nat} {many sp : Int} {f : Sc} {bs : List Nat} (h : VAt w b mo many sp f) (ho : Only bs w w') (hb : b ∉ bs) (hm : ∀ m, mo = some m → m ∉ bs) : VAt w' b mo many sp f :=
  ⟨ho.block h.box hb, h.map.only ho hm⟩
theorem VAt.below {w w' : World} {b : Nat} {mo : Option Nat} {many sp : Int} {f : Sc} (h : VAt w b mo many sp f) (hb : Below w.heap.size w w') : VAt w' b mo many sp f :=
  h.only (Only.of_below hb []) (by simp) (by simp)
/-- who speaks is written -/
theorem VAt.setS {w : World} {b : Nat} {mo : Option Nat} {many sp : Int} {f : Sc} (h : VAt w b mo many sp f) (x : Int) : VAt (w.setCell ⟨b, 1, none⟩ (.int .i64 x)) b mo many x f := by
  have ho : Only [b] w (w.setCell ⟨b, 1, none⟩ (.int .i64 x)) := (Only.refl _ _).setCell (by simp) _
  refine ⟨heap_setCell_same w b 1 _ _ _ h.box, h.map.only ho fun m hm => ?_⟩
  subst hm
  simp
  exact fun e => h.ne e.symm
/-- the map is written -/
theorem VAt.setM {w : World} {b m : Nat} {mo : Option Nat} {many sp : Int} {f g : Sc} {D : DataW Value} (h : VAt w b mo many sp f) (hw : w.ownsMap Tryz.prog 3 inR m (Maps.size D) D) (hk : KM D (fun x => g x ≠ 0) g) : VAt (w.setCell ⟨b, 2, none⟩ (.map (some m))) b (some m) many sp g := by
  have ho : Only [b] w (w.setCell ⟨b, 2, none⟩ (.map (some m))) := (Only.refl _ _).setCell (by simp) _
  have hne : m ≠ b := by
    obtain ⟨es, c, h4⟩ := map_block hw
    intro e
    have := h.box
    rw [← e, h4] at this
    simp at this
  exact ⟨heap_setCell_same w b 2 _ _ _ h.box, .inr ⟨m, D, rfl, map_only hw ho (by simpa using hne), hk⟩⟩

/-- what is wrong with New -/
def nf (many : Int) : Nat := if many < 1 ∨ 20 < many then 1 else 0
theorem new_err (many : Int) (w : World) (h : many < 1 ∨ 20 < many) :
    Calls Tryz.prog 46 #[.int .i64 many] w fun e w' => e = .returned (.tuple #[.pointer none, errv 1]) ∧ w' = w := by
  by_cases c : many < 1
  · clear h
    go_enter Tryz.func46, Tryz.ntmps46
    go_wp2_with fail
    go_ret2
    exact ⟨rfl, rfl⟩
  · have c1 : 20 < many := by omega
    clear h
    go_enter Tryz.func46, Tryz.ntmps46
    go_wp2_with fail
    go_ret2
    exact ⟨rfl, rfl⟩
theorem new_ok (many : Int) (w : World) (h0 : 1 ≤ many) (h1 : many ≤ 20) :
    Calls Tryz.prog 46 #[.int .i64 many] w fun e w' => e = .returned (.tuple #[.pointer (some ⟨w.heap.size, 0, none⟩), .nilIface]) ∧ VAt w' w.heap.size none many (-1) (fun _ => 0) ∧ Below w.heap.size w w' := by
  go_enter Tryz.func46, Tryz.ntmps46
  go_wp2_with fail
  go_ret2
  exact ⟨rfl, ⟨heap_alloc_new w _, .inl ⟨rfl, fun _ => rfl⟩⟩, (Below.refl _ _).alloc (Nat.le_refl _) _⟩
theorem speaker_calls (b : Nat) (sp : Int) (w : World) (c1 : w.cell? ⟨b, 1, none⟩ = some (.int .i64 sp)) :
    Calls Tryz.prog 100 #[.pointer (some ⟨b, 0, none⟩)] w fun e w' => e = .returned (.int .i64 sp) ∧ w' = w := by
  go_enter Tryz.func100, Tryz.ntmps100
  go_wp2_with fail
  go_ret
  exact ⟨rfl, rfl⟩
end Go.Proofs.YtbadpjgiogghdaaGreatDoor.Voice

