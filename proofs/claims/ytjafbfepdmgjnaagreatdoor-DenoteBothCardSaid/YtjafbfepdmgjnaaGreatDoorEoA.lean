/-
  chattellaw09.DenoteUpTo: its walk.
-/
import Derived.Test.YtjafbfepdmgjnaaGreatDoorEW
namespace Go.Proofs.YtjafbfepdmgjnaaGreatDoor
open Go.RowKit Go.Lib Go.Shelf Go.Maps
set_option linter.unusedVariables false
set_option linter.unusedSimpArgs false

theorem ct0_of {t : List Nd} (h : chkK t = 0) : (ofK t).2 = 0 ∧ CtA t 0 := by
  have hk := chk_mk h
  exact ⟨hk.1, ⟨by have := (ofK_zero hk.1).2.1; have := whole_len this; omega, hk.2⟩⟩
end Go.Proofs.YtjafbfepdmgjnaaGreatDoor
