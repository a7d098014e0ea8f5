/-
  chattellaw13.PeriodsNil: what the methods of nil periods answer, and its walk.
-/
import Derived.Test.YtjddmgmblohpaaaPdB
import Derived.RangeFuncMany
import Derived.RangeFuncLeaves
import Derived.RangeFuncBox
import Derived.RangeFuncNested
import Derived.RangeFuncBound
import Derived.RangeFuncCalls
import Derived.OwnWalkIn
import Derived.TacticsInMore
import Derived.RegionIn
import Derived.LoopNIn
import Derived.LoopIn
import Derived.Shelf.Abstract
namespace Go.Proofs.Ytjddmgmblohpaaa
open Go.RowKit Go.Lib Go.Maps Go.Sort Go.Shelf
set_option linter.unusedVariables false
set_option linter.unusedSimpArgs false
attribute [local go_sem] Oper.semAt_some

set_option maxRecDepth 100000 in
theorem nof_any (w : World) (d : Int) : Calls Try.prog 16 #[.pointer none, .int .i64 d] w fun e w' => e = .returned (.tuple #[.int .i64 0, .int .i64 2]) ∧ w' = w := by
  go_enter Try.func16, Try.ntmps16
  go_wp2_with fail
  go_ret2
  exact ⟨rfl, rfl⟩
set_option maxRecDepth 100000 in
theorem nspan_any (w : World) (d : Int) : Calls Try.prog 13 #[.pointer none, .int .i64 d] w fun e w' => e = .returned (.tuple #[.int .i64 0, .int .i64 0, .int .i64 2]) ∧ w' = w := by
  go_enter Try.func13, Try.ntmps13
  go_wp2_with fail
  go_ret3
  exact ⟨rfl, rfl⟩
set_option maxRecDepth 100000 in
theorem nlast_any (w : World) : Calls Try.prog 17 #[.pointer none] w fun e w' => e = .returned (.int .i64 0) ∧ w' = w := by
  go_enter Try.func17, Try.ntmps17
  go_wp2_with fail
  go_ret
  exact ⟨rfl, rfl⟩
set_option maxRecDepth 100000 in
theorem nlocked_any (w : World) (d : Int) : Calls Try.prog 14 #[.pointer none, .int .i64 d] w fun e w' => e = .returned (.bool false) ∧ w' = w := by
  go_enter Try.func14, Try.ntmps14
  go_wp2_with fail
  go_ret
  exact ⟨rfl, rfl⟩
set_option maxRecDepth 100000 in
theorem nearl_any (w : World) : Calls Try.prog 11 #[.pointer none] w fun e w' => e = .returned (.tuple #[.int .i64 0, .int .i64 2]) ∧ w' = w := by
  go_enter Try.func11, Try.ntmps11
  go_wp2_with fail
  go_ret2
  exact ⟨rfl, rfl⟩
set_option maxRecDepth 100000 in
theorem ncopy_any (w : World) : Calls Try.prog 19 #[.pointer none] w fun e w' => e = .returned (.pointer none) ∧ w' = w := by
  go_enter Try.func19, Try.ntmps19
  go_wp2_with fail
  go_ret
  exact ⟨rfl, rfl⟩
set_option maxRecDepth 100000 in
theorem nall_any (w : World) : Calls Try.prog 18 #[.pointer none] w fun e w' => e = .returned (.func (.func 23) #[] #[]) ∧ w' = w := by
  go_enter Try.func18, Try.ntmps18
  go_wp2_with fail
  go_ret
  exact ⟨rfl, rfl⟩
set_option maxRecDepth 100000 in
theorem nbook_any (w : World) (d : Int) : Calls Try.prog 15 #[.pointer none, .int .i64 d] w fun e w' => e = .returned (.tuple #[.int .i64 0, .int .i64 2]) ∧ w' = w := by
  have HO := Lib.hid (fun w' => nof_any w' d)
  go_enter Try.func15, Try.ntmps15
  go_wp2_with fail
  refine (HO.out _).mono ?_
  rintro e w1 ⟨rfl, rfl⟩
  go_wp2_with fail
  go_ret2
  exact ⟨rfl, rfl⟩
set_option maxRecDepth 100000 in
theorem nlock_any (w : World) (d c : Int) : Calls Try.prog 12 #[.pointer none, .int .i64 d, .int .i64 c] w fun e w' => e = .returned (.int .i64 2) ∧ w' = w := by
  have HO := Lib.hid (fun w' => nspan_any w' d)
  go_enter Try.func12, Try.ntmps12
  go_wp2_with fail
  refine (HO.out _).mono ?_
  rintro e w1 ⟨rfl, rfl⟩
  go_wp2_with fail
  go_ret
  exact ⟨rfl, rfl⟩

theorem wideA {m : Nat} {P : Program} {f : FuncId} {args : Array Value} {w : World} {R R' : Ending → World → Prop} (h : Calls P f args w R) (hm : ∀ e w', R e w' → R' e w') : Fence.wide.fn f ∧ CallsIn Fence.wide m P f args w R' :=
  ⟨trivial, (callsIn_wide.2 h).mono hm⟩
set_option maxRecDepth 100000 in
theorem fnil_eqP (g : FuncId) (cs : Array Value) (W : World) : (binOp BinOp.eql 41 (Value.func (Fn.func g) #[] cs) Value.nilFunc).run Try.prog W = .ok (.bool false) W := by
  kernel_rfl
set_option maxRecDepth 100000 in
set_option maxHeartbeats 1000000 in
theorem nall13_it {α : Type} (n : Nat) (encs : α → Array Value) (w : World) :
    SeqStopsA Fence.wide n Try.prog 23 #[] encs (fun xs => xs = []) (fun _ => False) 0 w := fun l J Jx W hW hJ _ hY h0 => by
  clear hY
  refine callsIn_of_wp Try.func23 rfl trivial ?_ rfl
  simp only [Try.ntmps23, List.size_toArray, List.length_cons, List.length_nil, Nat.reduceAdd, Nat.reduceSub, Array.replicate_succ, Array.replicate_zero, List.push_toArray, List.append_toArray, List.nil_append, List.cons_append]
  gi_wp2
  go_end0
  exact ⟨⟨_, rfl⟩, .inl ⟨[], rfl, h0⟩⟩
set_option maxRecDepth 100000 in
set_option maxHeartbeats 4000000 in
theorem nil13_walk (w : World) (d c : Int) : Calls Try.prog 6 #[.int .i64 d, .int .i64 c] w fun e w' => e = .returned (.bool true) ∧ Below w.heap.size w w' := by
  have H1 := Lib.hid (fun w' => nof_any w' d)
  have H2 := Lib.hid (fun w' => nspan_any w' d)
  have H3 := Lib.hid (fun w' => nearl_any w')
  have H4 := Lib.hid (fun w' => nbook_any w' d)
  have H5 := Lib.hid (fun w' => nall_any w')
  have H6 := Lib.hid (fun w' => nlock_any w' d c)
  have H7 := Lib.hid (fun w' => nlocked_any w' d)
  have H8 := Lib.hid (fun w' => nlast_any w')
  have H9 := Lib.hid (fun w' => ncopy_any w')
  have HA := Lib.hid (fun w' => awake13_any w')
  obtain ⟨n, hn⟩ : ∃ n : Nat, 4 ≤ n := ⟨4, by omega⟩
  have h1 : 1 ≤ n := by omega
  refine callsIn_wide.1 (callsIn_of_wp_marks (n := n) Try.func6 rfl trivial ?_ rfl)
  simp only [Try.ntmps6, List.size_toArray, List.length_cons, List.length_nil, Nat.reduceAdd, Nat.reduceSub, Array.replicate_succ, Array.replicate_zero, List.push_toArray, List.append_toArray, List.nil_append, List.cons_append]
  gi_wp2
  refine wideA (H1.out _) ?_
  rintro e w1 ⟨rfl, rfl⟩
  gi_wp2
  refine wideA (H2.out _) ?_
  rintro e w2 ⟨rfl, rfl⟩
  gi_wp2
  refine wideA (H3.out _) ?_
  rintro e w3 ⟨rfl, rfl⟩
  gi_wp2
  refine wideA (H4.out _) ?_
  rintro e w4 ⟨rfl, rfl⟩
  gi_wp2
  refine wideA (H5.out _) ?_
  rintro e w5 ⟨rfl, rfl⟩
  have hq := fnil_eqP
  gi_wp2
  have bx := Boxed.new w5 3 (.int .i64 0)
  have hb := newF w5 (.cells #[.int .i64 0] 3)
  have hst := nall13_it (n - 1) (fun (x : Empty) => #[undef, undef]) (w5.alloc (.cells #[.int .i64 0] 3))
  have hz : (w5.alloc (.cells #[.int .i64 0] 3)).heap.size = w5.heap.size + 1 := by simp
  generalize w5.alloc (.cells #[.int .i64 0] 3) = W1 at *
  refine wpIn_rangeFunc_ownH rfl h1 (gf := 23) (lb := #[]) rfl trivial (enters_of Try.func23 (by kernel_rfl) rfl)
    hst walksK_t (fun W l o o' h1 h2 h3 h4 => walksK_b (w := W1) W l o o' h1 h2 h3 h4) (Below.refl _ _) (fun x => x.elim)
    (fun _ W => Boxed W w5.heap.size 3 (.int .i64 0) ∧ Below w5.heap.size w5 W)
    (fun _ _ _ => False)
    (OwnFrom.and (Go.Own.from (boxed_own w5.heap.size 3 (fun _ : List Empty => .int .i64 0)) _) (ownFrom_below (Nat.le_refl _) (by omega)))
    (fun _ _ _ _ _ hs _ _ => hs)
    ⟨bx, hb⟩
    (fun _ _ _ => False)
    (fun _ _ _ _ _ _ hs _ _ => hs)
    ?assign ?body ?done ?stop
  case assign =>
    intro l pre x
    exact x.elim
  case body =>
    intro l pre x a' W _ _ _ hs _
    exact hs.elim
  case done =>
    rintro D ys W hD rfl ⟨hv, hB⟩ hK
    have hc := hv.cell
    have HB := Lib.hid hB
    have HK := Lib.hid hK
    clear hB hK
    gi_wp2
    refine wideA (H6.out _) ?_
    rintro e w6 ⟨rfl, rfl⟩
    gi_wp2
    refine wideA (H7.out _) ?_
    rintro e w7 ⟨rfl, rfl⟩
    gi_wp2
    refine wideA (H8.out _) ?_
    rintro e w8 ⟨rfl, rfl⟩
    gi_wp2
    refine wideA (H9.out _) ?_
    rintro e w9 ⟨rfl, rfl⟩
    gi_wp2
    refine wideA (HA.out _) ?_
    rintro e w10 ⟨rfl, hb10⟩
    gi_wp2
    have hK10 := (hb10.block D (Array.getElem?_eq_some_iff.1 HK.out).1).trans HK.out
    have hB10 : RowKit.Below w5.heap.size w5 w10 := onF HB.out hb10
    refine ⟨by simp, .inl ⟨_, _, rfl, run_takeDeferred hK10, ?_⟩⟩
    exact ⟨_, results_tmp rfl _ _ _, rfl, hB10.trans (belowK_b (w := w5) (Nat.le_refl _) w10 D _ _ (by omega) hK10 rfl rfl)⟩
  case stop =>
    rintro D c pre W _ _ h _
    exact h.elim

end Go.Proofs.Ytjddmgmblohpaaa
