/-
  Package value: some facts alone, those of a number's keys at a day; and what stays as a map grows.
-/
import Derived.Test.YtjafbfepdmgjnaaGreatDoorVlO
import Derived.Test.YtjafbfepdmgjnaaGreatDoorVlI
namespace Go.Proofs.YtjafbfepdmgjnaaGreatDoor
open Go.RowKit Go.Lib Go.Shelf Go.Maps
set_option linter.unusedVariables false
set_option linter.unusedSimpArgs false

/-- A number's keys. -/
noncomputable def kyU (t : List Nd) (n : Nat) : List Int := kyN (subT t n (szA t n)) (pT 2 2) 64
theorem kyU_in {t : List Nd} {n : Nat} (h0 : (ofK t).2 = 0) (hN : NmA t n) {q : Nat} (h1 : n ≤ q) (h2 : q < n + szA t n) (ho : opA t q = 2) : (t.getD q default).a ∈ kyU t n := by
  obtain ⟨r, rfl⟩ : ∃ r, q = n + r := ⟨q - n, by omega⟩
  have hb := hN.tm.bd
  have hr : r < szA t n := by omega
  have e1 := subT_op (n := szA t n) hb.2 hr
  have e2 := subT_get (n := szA t n) hb.2 hr
  have hf := fld_key (ofK_zero h0).2.2.1 (show n + r < t.length by omega) (.inl ho)
  unfold aA at hf
  obtain ⟨m, hm⟩ : ∃ m : Nat, (t.getD (n + r) default).a = (m : Int) := ⟨((t.getD (n + r) default).a).toNat, by omega⟩
  unfold kyU
  rw [kyN_mem]
  refine ⟨m, by omega, hm, ?_⟩
  rw [isN_iff]
  refine ⟨r, by rw [subT_len hb.2]; exact hr, ?_, ?_⟩
  · rw [e1, ho]; rfl
  · show ((subT t n (szA t n)).getD r default).a = (m : Int)
    rw [e2, hm]
end Go.Proofs.YtjafbfepdmgjnaaGreatDoor
