/-
  chattellaw08: awake; facts that are told, as lists whose ratios may be.
-/
import Derived.Test.YtjafbfepdmgjnaaGreatDoorVlG
import Derived.Test.YtjafbfepdmgjnaaGreatDoorJnA
namespace Go.Proofs.YtjafbfepdmgjnaaGreatDoor
open Go.RowKit Go.Lib Go.Shelf Go.Maps
set_option linter.unusedVariables false
set_option linter.unusedSimpArgs false

/-- The example's contract. -/
def tEx : List Nd := [⟨4, 0, 0, 0, 0⟩, ⟨2, 3, 0, 0, 0⟩, ⟨1, 0, 0, 1, 2⟩]
def lEx : List Fct := [⟨3, 10, 2, 1, 0⟩]
theorem tEx_of : ofK tEx = (1, 0) := by
  rw [ofK_yes (by decide) (by decide) ?_ ?_ (by decide)]
  · rfl
  · intro p hp
    have hp' : p < 3 := hp
    rcases (show p = 0 ∨ p = 1 ∨ p = 2 by omega) with rfl | rfl | rfl <;> decide
  · intro p hp
    have hp' : p < 3 := hp
    unfold SrtA
    rcases (show p = 0 ∨ p = 1 ∨ p = 2 by omega) with rfl | rfl | rfl <;> decide
theorem tEx_wr : wrN tEx 0 = 0 := by
  unfold wrN
  rw [tEx_of, if_neg (by decide), if_neg (by decide), if_neg (by decide)]
theorem tEx_nm : NmA tEx 0 := (num_at (t := tEx) (n := 0) (by rw [tEx_of]) (by decide) (by decide)).1
theorem tEx_nm1 : NmA tEx 1 := (NmA.in (szA tEx 0) 0 (Nat.le_refl _) tEx_nm 1 (by decide) (by decide)).1
theorem tEx_nm2 : NmA tEx 2 := (NmA.in (szA tEx 0) 0 (Nat.le_refl _) tEx_nm 2 (by decide) (by decide)).1
theorem tEx_vl (fx : Int → Option Rat) : vlA tEx fx 0 = twoV 4 (some (fx 3)) (some (some (rat 1 2))) := by
  rw [vl_two tEx_nm (by decide)]
  have e0 : plA tEx (0 + 1) 0 = 1 := by decide
  have e1 : plA tEx (0 + 1) 1 = 2 := by decide
  rw [e0, e1, vl_fix tEx_nm1 (by decide), vl_num tEx_nm2 (by decide)]
  rfl
theorem lEx_10 : fxL lEx 10 3 = some (rat 2 1) := by
  have e : gtL lEx 3 10 = (2, 1, true) := by decide
  unfold fxL
  rw [e]; rfl
theorem lEx_11 : fxL lEx 11 3 = none := by
  have e : gtL lEx 3 11 = (0, 0, false) := by decide
  unfold fxL
  rw [e]; rfl
theorem five_half : fitsR (rat 2 1 + rat 1 2) = true ∧ (rat 2 1 + rat 1 2).num = 5 ∧ (rat 2 1 + rat 1 2).den = 2 := by decide +kernel
theorem ex_10 : vB (atV tEx lEx 0 10) = true ∧ vN (atV tEx lEx 0 10) = 5 ∧ vD (atV tEx lEx 0 10) = 2 ∧ atE tEx lEx 0 10 = 0 := by
  have e : vlA tEx (fxL lEx 10) (0 : Int).toNat = some (some (rat 2 1 + rat 1 2)) := by
    show vlA tEx (fxL lEx 10) 0 = _
    rw [tEx_vl, lEx_10]
    show fitQ (rat 2 1 + rat 1 2) = _
    unfold fitQ
    rw [if_pos five_half.1]
  unfold atV atE
  rw [tEx_wr, if_neg (by decide), if_neg (by decide), if_neg (by decide), if_neg (by decide), e]
  refine ⟨rfl, five_half.2.1, ?_, rfl⟩
  show (((rat 2 1 + rat 1 2).den : Nat) : Int) = 2
  rw [five_half.2.2]; rfl
theorem ex_11 : vB (atV tEx lEx 0 11) = false ∧ vN (atV tEx lEx 0 11) = 0 ∧ vD (atV tEx lEx 0 11) = 0 ∧ atE tEx lEx 0 11 = 0 := by
  have e : vlA tEx (fxL lEx 11) (0 : Int).toNat = some none := by
    show vlA tEx (fxL lEx 11) 0 = _
    rw [tEx_vl, lEx_11]; rfl
  unfold atV atE
  rw [tEx_wr, if_neg (by decide), if_neg (by decide), if_neg (by decide), if_neg (by decide), e]
  exact ⟨rfl, rfl, rfl, rfl⟩
theorem ndA_lit {w : World} {b : Nat} {t : List Nd} (h : w.ownsRow 0 57 5 (.slice (some ⟨b, 0, none⟩) t.length t.length) t.length (ndR t)) : SlT w (.slice (some ⟨b, 0, none⟩) t.length t.length) t := OwnN.sl h

/-- The lists of what is told hold ratios that may be. -/
theorem plF_ok (L : List Tol) (hok : ∀ t ∈ L, t.Ok) : OkL (plF L) := by
  have key : ∀ (L : List Tol), (∀ t ∈ L, t.Ok) → ∀ a, OkL a → OkL (L.foldl (fun a t => if t.c = true then a else if tolE t = 0 then putL a ⟨t.k, t.d, t.x, t.y, 0⟩ else a) a) := by
    intro L
    induction L with
    | nil => exact fun _ a h => h
    | cons x L ih =>
      intro hL a h
      rw [List.foldl_cons]
      refine ih (fun t ht => hL t (by simp [ht])) _ ?_
      by_cases hc : x.c = true
      · rw [if_pos hc]; exact h
      · rw [if_neg hc]
        by_cases he : tolE x = 0
        · rw [if_pos he]
          intro t ht
          rcases mem_put.1 ht with rfl | ⟨ht, _⟩
          · obtain ⟨_, _, hx, hy, _⟩ := hL x (by simp)
            unfold tolE at he
            rw [if_neg hc] at he
            unfold fixE at he
            by_cases hp : plcE x.k x.d = 0
            · rw [if_pos hp] at he
              exact chkE_zero he hx.1 hx.2 hy.2
            · rw [if_neg hp] at he; exact absurd he hp
          · exact h t ht
        · rw [if_neg he]; exact h
  exact key L hok [] (fun t h => by cases h)
theorem ok_mem {L : List Tol} (h : ∀ j, j < L.length → (L.getD j default).Ok) : ∀ t ∈ L, t.Ok := fun t ht => by
  obtain ⟨i, hi, rfl⟩ := List.mem_iff_getElem.1 ht
  have := h i hi
  rw [List.getD_eq_getElem?_getD, List.getElem?_eq_getElem hi] at this
  exact this
end Go.Proofs.YtjafbfepdmgjnaaGreatDoor
