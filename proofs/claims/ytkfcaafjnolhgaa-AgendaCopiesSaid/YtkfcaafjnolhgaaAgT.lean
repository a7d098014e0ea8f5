/-
  Package agenda: the sort of items; slices.Values over items: what they answer.
-/
import Derived.Test.YtkfcaafjnolhgaaAgS
import Derived.Test.YtkfcaafjnolhgaaAgI
import Derived.Test.YtkfcaafjnolhgaaSrt
import Derived.Shelf.Abstract
namespace Go.Proofs.Ytkfcaafjnolhgaa
open Go.RowKit Go.Lib Go.Maps Go.Sort Go.Shelf
set_option linter.unusedVariables false
set_option linter.unusedSimpArgs false
attribute [local go_sem] Oper.semAt_some

theorem lt_cfI (x y : It) : ltOf cmpIt x y = true ↔ bfI x y := by
  unfold ltOf
  rw [decide_eq_true_iff]
  exact cmpIt_lt x y
theorem lt_cfI' (x y : It) : ltOf cmpIt x y = false ↔ ¬ bfI x y := by rw [← lt_cfI]; simp
theorem swo_cfI : SWO (ltOf cmpIt) where
  irrefl x := by rw [lt_cfI']; exact bfI_irr x
  trans x y z h1 h2 := by rw [lt_cfI] at *; exact bfI_trans h1 h2
  ntrans x y z h1 h2 := by rw [lt_cfI'] at *; unfold bfI at *; omega
set_option maxRecDepth 100000 in
theorem sortit {w : World} {base : Nat} {v : Value} {ps : List It} (ho : OwnX itL 3 31 w base v ps) (hl : ps.length ≤ 100000) :
    Calls Try.prog 44 #[v, .func (.func 35) #[] #[]] w fun e w' => e = .returned (.tuple #[]) ∧ ∃ m, m.Pairwise (fun a b => ¬ bfI b a) ∧ m.Perm ps ∧ OwnX itL 3 31 w' base v m ∧ w.grownBy w' v.ownBlock := by
  have eg : ∀ args w, (callFunc 35 args).run Try.prog w = .ok (.enter 35 args) w := enters_of Try.func35 (by kernel_rfl) rfl
  refine (sort_x (cf := cmpIt) (E := itL) (k := 3) itL_len (by decide) (fun p cap => ?_) (fun blk cap d hH hb hs => ?_) ho hl).mono ?_
  · have h := AnyF.slices_SortFunc_none (P := Try.prog) (ρ := Try.sortIt_ren) Try.sortIt p cap (.func (.func 35) #[] #[]) w
    exact h
  · have h := AnyQ.slices_SortFunc Try.sortIt 3 Try.isAgg31 Try.sizeOf31 itL itL_len itL_one cmpIt swo_cfI 35 #[] blk 0 cap d w eg (fun _ _ _ _ x y => itcmp_any _ x y) hH hb hs
    exact h
  · rintro e w' ⟨he, m, h1, h2⟩
    exact ⟨he, m, h1.imp fun {a b} h => (lt_cfI' b a).1 h, h2⟩
/-- In order, of different numbers: each once. -/
theorem srt_of {m : List It} (h : m.Pairwise (fun a b => ¬ bfI b a)) (hd : m.Pairwise (fun a b => a.no ≠ b.no)) : SrI m := by
  refine (h.and hd).imp (fun {a b} hab => ?_)
  obtain ⟨h1, h2⟩ := hab
  unfold bfI at *
  omega
theorem vals_make (v : Value) (hv : ∃ a n c, v = .slice a n c) (w : World) : Calls Try.prog 32 #[v] w fun e w' => e = .returned (.func (.func 42) #[] #[.pointer (some ⟨w.heap.size, 0, none⟩)]) ∧ w' = w.alloc (.cells #[v] 47) := by
  obtain ⟨a, n, c, rfl⟩ := hv
  go_enter Try.func32, Try.ntmps32
  go_wp2_with fail
  go_ret
  exact ⟨rfl, rfl⟩

end Go.Proofs.Ytkfcaafjnolhgaa
