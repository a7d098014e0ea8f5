/-
  What calls with ratios answer, and where a law keeps three ratios.
-/
import Derived.Test.YtljhjjkbpckkjaaKeep
namespace Go.Proofs.Ytljhjjkbpckkjaa
open Go.RowKit
set_option linter.unusedVariables false

/-- What a call with two ratios answers; what Check answers. -/
def RC (f : FuncId) (n1 d1 n2 d2 x y e : Int) : Prop := ∀ w, Calls Try.prog f #[.agg #[.int .i64 n1, .int .i64 d1], .agg #[.int .i64 n2, .int .i64 d2]] w fun r w' => r = .returned (.tuple #[.agg #[.int .i64 x, .int .i64 y], .int .i64 e]) ∧ Below w.heap.size w w'
def CH (n d e : Int) : Prop := ∀ w, Calls Try.prog 22 #[.agg #[.int .i64 n, .int .i64 d]] w fun r w' => r = .returned (.int .i64 e) ∧ Below w.heap.size w w'

theorem Keeps.tail {w wx : World} {t : Nat × Int × Int} {L : List (Nat × Int × Int)} (h : Keeps w wx (t :: L)) : Keeps w wx L := ⟨h.bel, fun u hu => h.all u (List.mem_cons_of_mem _ hu)⟩
theorem Keeps.three (w : World) (na da nb db nc dc : Int) (e : TypeId) : Keeps w (((w.alloc (.cells #[.int .i64 na, .int .i64 da] e)).alloc (.cells #[.int .i64 nb, .int .i64 db] e)).alloc (.cells #[.int .i64 nc, .int .i64 dc] e)) [(w.heap.size + 1 + 1, nc, dc), (w.heap.size + 1, nb, db), (w.heap.size, na, da)] := by
  have h := (((Keeps.nil w).push na da e).push nb db e).push nc dc e
  have z1 : (w.alloc (.cells #[.int .i64 na, .int .i64 da] e)).heap.size = w.heap.size + 1 := by simp
  have z2 : ((w.alloc (.cells #[.int .i64 na, .int .i64 da] e)).alloc (.cells #[.int .i64 nb, .int .i64 db] e)).heap.size = w.heap.size + 1 + 1 := by simp
  rw [z1, z2] at h
  exact h

end Go.Proofs.Ytljhjjkbpckkjaa
