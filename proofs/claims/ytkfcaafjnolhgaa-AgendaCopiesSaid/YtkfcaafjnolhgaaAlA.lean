/-
  slices.Clone over items: what it answers.
-/
import Derived.Test.YtkfcaafjnolhgaaAhO
import Derived.OwnWalk
namespace Go.Proofs.Ytkfcaafjnolhgaa
open Go.RowKit Go.Lib Go.Maps Go.Sort Go.Shelf
set_option linter.unusedVariables false
set_option linter.unusedSimpArgs false

set_option maxRecDepth 100000 in
theorem eq_nil47 (w : World) (a : Option Addr) (n c : Nat) : (binOp BinOp.eql 47 (.slice a n c) (.slice none 0 0)).run Try.prog w = .ok (.bool a.isNone) w := by
  cases a with
  | none => kernel_rfl
  | some ad => kernel_rfl
set_option maxRecDepth 100000 in
set_option maxHeartbeats 2000000 in
theorem sclone_any (w : World) {base : Nat} {lv : Value} {l : List It} (h : OwnX itL 3 31 w base lv l) (hl : l.length ≤ 10000) : Calls Try.prog 47 #[lv] w fun e w' => ∃ lv', e = .returned lv' ∧ OwnX itL 3 31 w' w.heap.size lv' l ∧ Below w.heap.size w w' := by
  have hr := h.row (E := itL) (k := 3) itL_len
  have hq := eq_nil47
  obtain ⟨a, cap, rfl⟩ := h.slice
  cases a with
  | none =>
    have hnil : l = [] := by
      rcases hr with ⟨e, _⟩ | ⟨_, b, o, c, e, _⟩
      · exact e
      · cases e
    subst hnil
    simp only [List.length_nil] at *
    go_enter Try.func47, Try.ntmps47
    go_wp2_with fail
    go_ret
    have h0 : cap = 0 := by
      rcases h.2 with ⟨e, _⟩ | ⟨g, c, cur, e, _⟩
      · injection e
      · cases e
    subst h0
    exact ⟨_, rfl, OwnX.nil _ _ _ _ _, Below.refl _ _⟩
  | some ad =>
    have hb := newF w (.cells #[] 31)
    have ho0 : OwnX itL 3 31 (w.alloc (.cells #[] 31)) w.heap.size (.slice (some ⟨w.heap.size, 0, none⟩) 0 0) [] := ⟨rfl, .inr ⟨w.heap.size, 0, #[], rfl, Nat.le_refl _, heap_alloc_new w _, Nat.le_refl _, Nat.zero_le _, rfl, rfl⟩⟩
    have HO := Lib.hid ho0
    have HB := Lib.hid hb
    have HR := Lib.hid (hr.keep hb)
    have HLe := Lib.hid hl
    clear h hr hb ho0
    go_enter Try.func47, Try.ntmps47
    go_wp2_with (at_builtin; (refine wpList_append_x (E := itL) (k := 3) (fun _ => rfl) (by decide) itL_one Try.underlying47 infoIt rfl (by decide) rfl _ _ rfl w.heap.size _ [] rfl HO.out _ l rfl HR.out (by have := HLe.out; simp <;> omega) HB.out.size ?_); intro v5 w5 ho5 hg5 hat5; rw [List.nil_append] at ho5; have HO5 := Lib.hid ho5; have HB5 : Hid (Below w.heap.size w w5) := Lib.hid (Below.grown HB.out hg5 HB.out.size (fun k hk => by cases hk; exact Nat.le_refl _)); clear ho5 hg5 hat5)
    go_ret
    exact ⟨_, rfl, HO5.out, HB5.out⟩

end Go.Proofs.Ytkfcaafjnolhgaa
