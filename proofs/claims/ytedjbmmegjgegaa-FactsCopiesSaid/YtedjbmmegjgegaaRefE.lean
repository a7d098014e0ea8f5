/-
  chattelref01's Add, signs that differ; Add.
-/
import Derived.Test.YtedjbmmegjgegaaRefD
namespace Go.Proofs.Ytedjbmmegjgegaa
open Go.RowKit
set_option linter.unusedVariables false

theorem drewN_below3 (w : World) (o1 o2 o3 : Obj) (q : Nat) : Below w.heap.size w ((((w.alloc o1).alloc o2).alloc o3).drewN q) :=
  (Below.alloc (Below.alloc (Below.alloc (Below.refl _ w) (Nat.le_refl _) _) (by simp) _) (by simp; omega) _).trans ((drewN_below' _ q).mono (by simp; omega))

theorem after3n {w w' : World} {s0 s1 t0 t1 u0 u1 : Value} {e1 e2 e3 : TypeId} {q : Nat} (hb : Below ((((w.alloc (.cells #[s0, s1] e1)).alloc (.cells #[t0, t1] e2)).alloc (.cells #[u0, u1] e3)).drewN q).heap.size ((((w.alloc (.cells #[s0, s1] e1)).alloc (.cells #[t0, t1] e2)).alloc (.cells #[u0, u1] e3)).drewN q) w') :
    w'.cell? ⟨w.heap.size, 0, none⟩ = some s0 ∧ w'.cell? ⟨w.heap.size, 1, none⟩ = some s1 ∧ w'.cell? ⟨w.heap.size + 1, 0, none⟩ = some t0 ∧ w'.cell? ⟨w.heap.size + 1, 1, none⟩ = some t1 ∧
    w'.cell? ⟨w.heap.size + 1 + 1, 0, none⟩ = some u0 ∧ w'.cell? ⟨w.heap.size + 1 + 1, 1, none⟩ = some u1 ∧ w'.frozen? ⟨w.heap.size + 1 + 1, 0, none⟩ = false ∧ w'.frozen? ⟨w.heap.size + 1 + 1, 1, none⟩ = false ∧ w.heap.size + 3 ≤ w'.heap.size :=
  after3 (w' := w') ⟨hb.os, hb.tape, hb.output, hb.size, hb.block⟩

end Go.Proofs.Ytedjbmmegjgegaa
