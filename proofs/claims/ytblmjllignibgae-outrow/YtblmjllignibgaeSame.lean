/-
  What the function Packet of package choirsame returns of two packets that are the same. It changes nothing that was there.
-/
import Derived.Test.YtblmjllignibgaePackC
namespace Go.Proofs.Ytblmjllignibgae.Pack
open Go.ChangeShapes Go.WideShapes Go.ChangeAt Go.RowKit Go.Proofs.Ytblmjllignibgae.PM Go.Proofs.Ytblmjllignibgae.Mem
set_option linter.unusedVariables false

theorem str_conv {w : World} {a : Option Addr} {n cap : Nat} {L : List Nat} (h : Arg w a n L) : (convert 30 9 (.slice a n cap)).run Try.prog w = .ok (.string (str L)) w := by
  cases L with
  | cons c L =>
    obtain ⟨b, o, e, _⟩ := h.1.2 0 (by simp)
    exact conv_arg Try.underlying30 Try.underlying5 Try.underlying9 h (fun ad h => by rw [e] at h; exact ⟨b, o, (Option.some.inj h).symm⟩)
  | nil =>
    have hn : n = 0 := by have := h.2.1; simpa using this.symm
    subst hn
    cases a with
    | none => exact conv_arg Try.underlying30 Try.underlying5 Try.underlying9 h (fun ad h => by simp at h)
    | some ad =>
      rw [run_convert_bytes_string w 30 9 5 _ 0 cap Try.underlying30 Try.underlying5 Try.underlying9]
      have hl : (loadCells ad 0).run Try.prog w = .ok #[] w := run_loadCells_list (P := Try.prog) w ad [] (fun j v hj => by simp at hj)
      simp [Conv.bytesToString, str, strOfNums, hl]
      rfl

set_option maxHeartbeats 1000000 in
set_option maxRecDepth 100000 in
theorem same_pk (s t l v : Int) (st : Bool) (a b : Option Addr) (n m cap cbp : Nat) (L : List Nat) (w : World) (hA : Arg w a n L) (hB : Arg w b m L) :
    Calls Try.prog 19 #[.agg #[.int .i64 s, .int .i64 t, .int .i64 l, .int .i64 v, .bool st, .slice a n cap], .agg #[.int .i64 s, .int .i64 t, .int .i64 l, .int .i64 v, .bool st, .slice b m cbp]] w fun e w' => e = .returned (.bool true) ∧ Below w.heap.size w w' := by
  have hb : ∀ O1 O2, Below w.heap.size w ((w.alloc O1).alloc O2) := fun O1 O2 => ((Below.refl _ _).alloc (Nat.le_refl _) _).alloc (by simp) _
  have k1 : ∀ O1 O2, (convert 30 9 (.slice a n cap)).run Try.prog ((w.alloc O1).alloc O2) = .ok (.string (str L)) ((w.alloc O1).alloc O2) := fun O1 O2 => str_conv (hA.below (hb O1 O2))
  have k2 : ∀ O1 O2, (convert 30 9 (.slice b m cbp)).run Try.prog ((w.alloc O1).alloc O2) = .ok (.string (str L)) ((w.alloc O1).alloc O2) := fun O1 O2 => str_conv (hB.below (hb O1 O2))
  have HB := hidden hb
  clear hA hB hb
  generalize str L = S at *
  go_enter Try.func19, Try.ntmps19
  go_wp2_with fail
  go_ret
  exact ⟨by simp, HB.out _ _⟩
end Go.Proofs.Ytblmjllignibgae.Pack
