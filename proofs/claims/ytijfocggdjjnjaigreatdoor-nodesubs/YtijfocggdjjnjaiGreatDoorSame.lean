/-
  What the function Packet of package choirsame returns of two packets that are the same. It changes nothing that was there.
-/
import Derived.Test.YtijfocggdjjnjaiGreatDoorPackAll
namespace Go.Proofs.YtijfocggdjjnjaiGreatDoor.Pack
open Go.ChangeShapes Go.WideShapes Go.ChangeAt Go.RowKit Go.Proofs.YtijfocggdjjnjaiGreatDoor.PM Go.Proofs.YtijfocggdjjnjaiGreatDoor.Mem
set_option linter.unusedVariables false

set_option maxRecDepth 100000 in
theorem same_pk (s t l v : Int) (st : Bool) (a b : Option Addr) (n m cap cbp : Nat) (L : List Nat) (w : World) (hA : Arg w a n L) (hB : Arg w b m L) :
    Calls Tryz.prog 16 #[.agg #[.int .i64 s, .int .i64 t, .int .i64 l, .int .i64 v, .bool st, .slice a n cap], .agg #[.int .i64 s, .int .i64 t, .int .i64 l, .int .i64 v, .bool st, .slice b m cbp]] w fun e w' => e = .returned (.bool true) ∧ Below w.heap.size w w' := by
  have hb : ∀ O1 O2, Below w.heap.size w ((w.alloc O1).alloc O2) := fun O1 O2 => ((Below.refl _ _).alloc (Nat.le_refl _) _).alloc (by simp) _
  have k1 : ∀ O1 O2, (convert 29 9 (.slice a n cap)).run Tryz.prog ((w.alloc O1).alloc O2) = .ok (.string (str L)) ((w.alloc O1).alloc O2) := fun O1 O2 => str_conv (hA.below (hb O1 O2))
  have k2 : ∀ O1 O2, (convert 29 9 (.slice b m cbp)).run Tryz.prog ((w.alloc O1).alloc O2) = .ok (.string (str L)) ((w.alloc O1).alloc O2) := fun O1 O2 => str_conv (hB.below (hb O1 O2))
  have HB := hidden hb
  clear hA hB hb
  generalize str L = S at *
  go_enter Tryz.func16, Tryz.ntmps16
  go_wp2_with fail
  go_ret
  exact ⟨by simp, HB.out _ _⟩
end Go.Proofs.YtijfocggdjjnjaiGreatDoor.Pack

