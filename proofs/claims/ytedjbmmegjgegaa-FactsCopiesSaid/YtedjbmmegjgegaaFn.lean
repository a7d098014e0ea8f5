/-
  Package facts: nil facts: what their iterators answer.
-/
import Derived.Test.YtedjbmmegjgegaaFe
import Derived.Laws.IdiomRangeMap
namespace Go.Proofs.Ytedjbmmegjgegaa
open Go.RowKit Go.Lib Go.Maps Go.Sort Go.Shelf
set_option linter.unusedVariables false
set_option linter.unusedSimpArgs false
attribute [local go_sem] Oper.semAt_some

theorem wideN {m : Nat} {P : Program} {f : FuncId} {args : Array Value} {w : World} {R R' : Ending → World → Prop} (h : Calls P f args w R) (hm : ∀ e w', R e w' → R' e w') : Fence.wide.fn f ∧ CallsIn Fence.wide m P f args w R' :=
  ⟨trivial, (callsIn_wide.2 h).mono hm⟩
set_option maxRecDepth 100000 in
theorem ornone_nil (w : World) : Calls Try.prog 30 #[.pointer none] w fun e w' => ∃ B, e = .returned (.pointer (some ⟨B, 0, none⟩)) ∧ w'.cell? ⟨B, 0, none⟩ = some (.map none) ∧ w'.cell? ⟨B, 1, none⟩ = some (.map none) ∧ Below w.heap.size w w' := by
  go_enter Try.func30, Try.ntmps30
  go_wp2_with fail
  go_ret
  refine ⟨w.heap.size, rfl, ?_, ?_, newF _ _⟩
  · rw [World.cell?_alloc_at _ _ _ _ rfl]; rfl
  · rw [World.cell?_alloc_at _ _ _ _ rfl]; rfl
set_option maxRecDepth 100000 in
set_option maxHeartbeats 1000000 in
theorem bitlen32_0 (w : World) : Calls Try.prog 87 #[.int .u32 0] w fun e w' => (∃ z, e = .returned z) ∧ Below w.heap.size w w' := by
  go_enter Try.func87, Try.ntmps87
  go_wp2_with fail
  go_ret
  exact ⟨⟨_, rfl⟩, Below.refl _ _⟩
set_option maxRecDepth 100000 in
set_option maxHeartbeats 1000000 in
theorem bitlen64_0 (w : World) : Calls Try.prog 88 #[.int .u64 0] w fun e w' => (∃ z, e = .returned z) ∧ Below w.heap.size w w' := by
  go_enter Try.func88, Try.ntmps88
  go_wp2_with fail
  go_ret
  exact ⟨⟨_, rfl⟩, Below.refl _ _⟩
set_option maxRecDepth 100000 in
set_option maxHeartbeats 1000000 in
theorem bitlen_0 (w : World) : Calls Try.prog 76 #[.int .u64 0] w fun e w' => (∃ z, e = .returned z) ∧ Below w.heap.size w w' := by
  have H32 := Lib.hid (fun w' => bitlen32_0 w')
  have H64 := Lib.hid (fun w' => bitlen64_0 w')
  go_enter Try.func76, Try.ntmps76
  go_wp2_with fail
  refine (H64.out _).mono ?_
  rintro e w1 ⟨⟨z, rfl⟩, hb⟩
  have HB := Lib.hid hb
  clear hb H32 H64
  go_wp2_with fail
  go_ret
  exact ⟨⟨_, rfl⟩, HB.out⟩

/-! Fixing -/
set_option maxRecDepth 100000 in
theorem all_make_r (b : Option Nat) (w : World) : Calls Try.prog 56 #[.map b] w fun e w' => e = .returned (.func (.func 69) #[] #[.pointer (some ⟨w.heap.size, 0, none⟩)]) ∧ w' = w.alloc (.cells #[.map b] 72) := by
  go_enter Try.func56, Try.ntmps56
  go_wp2_with fail
  go_ret
  exact ⟨rfl, rfl⟩
set_option maxRecDepth 100000 in
set_option maxHeartbeats 1000000 in
theorem all_nil_r {α : Type} (n : Nat) (encs : α → Array Value) (Bm : Nat) (w : World) (hm : w.cell? ⟨Bm, 0, none⟩ = some (.map none)) :
    SeqStopsA Fence.wide n Try.prog 69 #[.pointer (some ⟨Bm, 0, none⟩)] encs (fun xs => xs = []) (fun _ => False) 0 w := fun l J Jx W hW hJ _ hY h0 => by
  have hm' := keepF hW hm
  clear hY hm
  refine callsIn_of_wp Try.func69 rfl trivial ?_ rfl
  simp only [Try.ntmps69, List.size_toArray, List.length_cons, List.length_nil, Nat.reduceAdd, Nat.reduceSub, Array.replicate_succ, Array.replicate_zero, List.push_toArray, List.append_toArray, List.nil_append, List.cons_append]
  have hrg := run_range_nilMap (P := Try.prog) W 72 85 29 Try.underlying72
  have hnx : ∀ ty, (Instr.next (.pointer (some ⟨W.heap.size, 0, none⟩)) false ty).run Try.prog (W.alloc (.mapIter none 0 #[] 0)) = _ := fun ty => run_next_nilMap _ ty 0 0 #[]
  gi_wp2
  refine wpIn_loop_rounds 1 ?_
  rw [roundsIn_succ]
  gi_wp2
  go_end0
  exact ⟨⟨_, rfl⟩, .inl ⟨[], rfl, hJ [] W _ none h0 (World.grownBy_alloc W _ none) (fun r e => by cases e)⟩⟩
set_option maxRecDepth 100000 in
set_option maxHeartbeats 1000000 in
/-- Nothing is appended, where nothing comes. -/
theorem appseq_r (Bm : Nat) (w : World) (hm : w.cell? ⟨Bm, 0, none⟩ = some (.map none)) :
    Calls Try.prog 74 #[.slice none 0 0, .func (.func 69) #[] #[.pointer (some ⟨Bm, 0, none⟩)]] w fun e w' => e = .returned (.slice none 0 0) ∧ Below w.heap.size w w' := by
  obtain ⟨n, hn⟩ : ∃ n : Nat, 4 ≤ n := ⟨4, by omega⟩
  have h1 : 1 ≤ n := by omega
  refine callsIn_wide.1 (callsIn_of_wp_marks (n := n) Try.func74 rfl trivial ?_ rfl)
  simp only [Try.ntmps74, List.size_toArray, List.length_cons, List.length_nil, Nat.reduceAdd, Nat.reduceSub, Array.replicate_succ, Array.replicate_zero, List.push_toArray, List.append_toArray, List.nil_append, List.cons_append]
  gi_wp2
  have bx := Boxed.new w 107 (.slice none 0 0)
  have hb := newF w (.cells #[.slice none 0 0] 107)
  have hst := all_nil_r (n - 1) (fun (x : Empty) => #[undef]) Bm _ (keepF hb hm)
  have hz : (w.alloc (.cells #[.slice none 0 0] 107)).heap.size = w.heap.size + 1 := by simp
  generalize w.alloc (.cells #[.slice none 0 0] 107) = W1 at *
  refine wpIn_rangeFunc_ownH rfl h1 (gf := 69) (lb := #[.pointer (some ⟨Bm, 0, none⟩)]) rfl trivial (enters_of Try.func69 (by kernel_rfl) rfl)
    hst walksK_t (fun W l o o' h1 h2 h3 h4 => walksK_b (w := W1) W l o o' h1 h2 h3 h4) (Below.refl _ _) (fun x => x.elim)
    (fun _ W => Boxed W w.heap.size 107 (.slice none 0 0) ∧ Below w.heap.size w W)
    (fun _ _ _ => False)
    (OwnFrom.and (Go.Own.from (boxed_own w.heap.size 107 (fun _ : List Empty => .slice none 0 0)) _) (ownFrom_below (Nat.le_refl _) (by omega)))
    (fun _ _ _ _ _ hs _ _ => hs)
    ⟨bx, hb⟩
    (fun _ _ _ => False)
    (fun _ _ _ _ _ _ hs _ _ => hs)
    ?assign ?body ?done ?stop
  case assign => 
    intro l pre x
    exact x.elim
  case body =>
    intro l pre x a' W _ _ _ hs _
    exact hs.elim
  case done =>
    rintro D ys W hD rfl ⟨hv, hB⟩ hK
    have hc := hv.cell
    gi_wp2
    refine ⟨by simp, .inl ⟨_, _, rfl, run_takeDeferred hK, ?_⟩⟩
    exact ⟨_, results_tmp rfl _ _ _, rfl, hB.trans (belowK_b (w := w) (Nat.le_refl _) W D _ _ (by omega) hK rfl rfl)⟩
  case stop =>
    rintro D c pre W _ _ h _
    exact h.elim
set_option maxRecDepth 100000 in
theorem collect_r (Bm : Nat) (w : World) (hm : w.cell? ⟨Bm, 0, none⟩ = some (.map none)) :
    Calls Try.prog 67 #[.func (.func 69) #[] #[.pointer (some ⟨Bm, 0, none⟩)]] w fun e w' => e = .returned (.slice none 0 0) ∧ Below w.heap.size w w' := by
  have HA := Lib.hid (appseq_r Bm w hm)
  clear hm
  go_enter Try.func67, Try.ntmps67
  go_wp2_with fail
  refine HA.out.mono ?_
  rintro e w1 ⟨rfl, hb⟩
  have HB := Lib.hid hb
  clear hb HA
  go_wp2_with fail
  go_ret
  exact ⟨rfl, HB.out⟩
set_option maxRecDepth 100000 in
set_option maxHeartbeats 1000000 in
theorem insort_r (g : Value) (w : World) : Calls Try.prog 79 #[.slice none 0 0, .int .i64 0, .int .i64 0, g] w fun e w' => e = .returned (.tuple #[]) ∧ Below w.heap.size w w' := by
  go_enter Try.func79, Try.ntmps79
  go_wp2_with fail
  refine wp_loop_rounds 1 ?_
  rw [rounds_succ]
  go_wp2_with fail
  go_end0
  exact ⟨rfl, Below.refl _ _⟩
set_option maxRecDepth 100000 in
set_option maxHeartbeats 1000000 in
theorem pdq_r (g z : Value) (w : World) : Calls Try.prog 75 #[.slice none 0 0, .int .i64 0, .int .i64 0, z, g] w fun e w' => e = .returned (.tuple #[]) ∧ Below w.heap.size w w' := by
  have HI := Lib.hid (fun w' => insort_r g w')
  go_enter Try.func75, Try.ntmps75
  go_wp2_with fail
  refine wp_loop_rounds 1 ?_
  rw [rounds_succ]
  go_wp2_with fail
  refine (HI.out _).mono ?_
  rintro e w1 ⟨rfl, hb⟩
  have HB := Lib.hid hb
  clear hb HI
  go_wp2_with fail
  (try simp only [Exit.inBlock, Exit.then]); refine bodyPost_ret (results_none rfl _ _ _) rfl ?_
  exact ⟨rfl, HB.out⟩
set_option maxRecDepth 100000 in
theorem sortf_r (g : Value) (w : World) : Calls Try.prog 68 #[.slice none 0 0, g] w fun e w' => e = .returned (.tuple #[]) ∧ Below w.heap.size w w' := by
  have HL := Lib.hid (fun w' => bitlen_0 w')
  have HP := Lib.hid (fun z w' => pdq_r g z w')
  go_enter Try.func68, Try.ntmps68
  go_wp2_with fail
  refine (HL.out _).mono ?_
  rintro e w1 ⟨⟨z, rfl⟩, hb⟩
  have HB := Lib.hid hb
  clear hb HL
  go_wp2_with fail
  refine (HP.out _ _).mono ?_
  rintro e w2 ⟨rfl, hb⟩
  have HB2 := Lib.hid (onF HB.out hb)
  clear hb HP
  go_wp2_with fail
  go_end0
  exact ⟨rfl, HB2.out⟩
set_option maxRecDepth 100000 in
theorem sorted_r (g : Value) (Bm : Nat) (w : World) (hm : w.cell? ⟨Bm, 0, none⟩ = some (.map none)) : Calls Try.prog 55 #[.func (.func 69) #[] #[.pointer (some ⟨Bm, 0, none⟩)], g] w fun e w' => e = .returned (.slice none 0 0) ∧ Below w.heap.size w w' := by
  have HC := Lib.hid (collect_r Bm w hm)
  have HS := Lib.hid (fun w' => sortf_r g w')
  clear hm
  go_enter Try.func55, Try.ntmps55
  go_wp2_with fail
  refine HC.out.mono ?_
  rintro e w1 ⟨rfl, hb⟩
  have HB := Lib.hid hb
  clear hb HC
  go_wp2_with fail
  refine (HS.out _).mono ?_
  rintro e w2 ⟨rfl, hb⟩
  have HB2 := Lib.hid (onF HB.out hb)
  clear hb HS
  go_wp2_with fail
  go_ret
  exact ⟨rfl, HB2.out⟩
set_option maxRecDepth 100000 in
theorem inorder_r (w : World) : Calls Try.prog 46 #[.map none] w fun e w' => e = .returned (.slice none 0 0) ∧ Below w.heap.size w w' := by
  have hb0 := newF w (.cells #[.map none] 72)
  have hm : (w.alloc (.cells #[.map none] 72)).cell? ⟨w.heap.size, 0, none⟩ = some (.map none) := by rw [World.cell?_alloc_at _ _ _ _ rfl]; rfl
  have HM := Lib.hid (fun w' => all_make_r none w')
  have HS := Lib.hid (fun g => sorted_r g w.heap.size _ hm)
  have HB := Lib.hid hb0
  clear hb0 hm
  go_enter Try.func46, Try.ntmps46
  go_wp2_with fail
  refine (HM.out _).mono ?_
  rintro e w1 ⟨rfl, rfl⟩
  clear HM
  go_wp2_with fail
  refine (HS.out _).mono ?_
  rintro e w2 ⟨rfl, hb⟩
  have HB2 := Lib.hid (onF HB.out hb)
  clear hb HS
  go_wp2_with fail
  go_ret
  exact ⟨rfl, HB2.out⟩
set_option maxRecDepth 100000 in
set_option maxHeartbeats 1000000 in
/-- told: the facts' slice, and how they are told, boxed. -/
theorem told_r (g : FuncId) (w : World) : Calls Try.prog 36 #[.map none, .func (.func g) #[] #[]] w fun e w' => ∃ Bs Bg, e = .returned (.func (.func 47) #[] #[.pointer (some ⟨Bs, 0, none⟩), .pointer (some ⟨Bg, 0, none⟩)]) ∧ w'.cell? ⟨Bs, 0, none⟩ = some (.slice none 0 0) ∧ Below w.heap.size w w' := by
  have HI := Lib.hid (fun w' => inorder_r w')
  go_enter Try.func36, Try.ntmps36
  go_wp2_with fail
  refine (HI.out _).mono ?_
  rintro e w1 ⟨rfl, hb⟩
  have HB := Lib.hid (onF (newF w _) hb)
  clear hb HI
  go_wp2_with fail
  go_ret
  refine ⟨w1.heap.size, w.heap.size, rfl, ?_, onF HB.out (newF _ _)⟩
  rw [World.cell?_alloc_at _ _ _ _ rfl]; rfl
set_option maxRecDepth 100000 in
set_option maxHeartbeats 1000000 in
theorem tit_nil_r {α : Type} (n : Nat) (encs : α → Array Value) (Bs Bg : Nat) (w : World) (hm : w.cell? ⟨Bs, 0, none⟩ = some (.slice none 0 0)) :
    SeqStopsA Fence.wide n Try.prog 47 #[.pointer (some ⟨Bs, 0, none⟩), .pointer (some ⟨Bg, 0, none⟩)] encs (fun xs => xs = []) (fun _ => False) 0 w := fun l J Jx W hW hJ _ hY h0 => by
  have hm' := keepF hW hm
  clear hY hm
  refine callsIn_of_wp Try.func47 rfl trivial ?_ rfl
  simp only [Try.ntmps47, List.size_toArray, List.length_cons, List.length_nil, Nat.reduceAdd, Nat.reduceSub, Array.replicate_succ, Array.replicate_zero, List.push_toArray, List.append_toArray, List.nil_append, List.cons_append]
  gi_wp2
  refine wpIn_loop_rounds 1 ?_
  rw [roundsIn_succ]
  gi_wp2
  go_end0
  exact ⟨⟨_, rfl⟩, .inl ⟨[], rfl, h0⟩⟩
set_option maxRecDepth 100000 in
set_option maxHeartbeats 1000000 in
/-- What an iterator of nil facts is. -/
theorem meth_r (w : World) : Calls Try.prog 24 #[.pointer none] w fun e w' => ∃ Bs Bg, e = .returned (.func (.func 47) #[] #[.pointer (some ⟨Bs, 0, none⟩), .pointer (some ⟨Bg, 0, none⟩)]) ∧ w'.cell? ⟨Bs, 0, none⟩ = some (.slice none 0 0) ∧ Below w.heap.size w w' := by
  have HO := Lib.hid (fun w' => ornone_nil w')
  have HT := Lib.hid (fun w' => told_r 37 w')
  go_enter Try.func24, Try.ntmps24
  go_wp2_with fail
  refine (HO.out _).mono ?_
  rintro e w1 ⟨B, rfl, m0, m1, hb⟩
  have HB := Lib.hid hb
  clear hb HO
  go_wp2_with fail
  refine (HT.out _).mono ?_
  rintro e w2 ⟨Bs, Bg, rfl, hc, hb⟩
  have HB2 := Lib.hid (onF HB.out hb)
  have HC := Lib.hid hc
  clear hb hc HT
  go_wp2_with fail
  go_ret
  exact ⟨Bs, Bg, rfl, HC.out, HB2.out⟩
set_option maxRecDepth 100000 in
theorem fnil_eq_r (g : FuncId) (cs : Array Value) (W : World) : (binOp BinOp.eql 62 (Value.func (Fn.func g) #[] cs) Value.nilFunc).run Try.prog W = .ok (.bool false) W := by
  kernel_rfl
set_option maxRecDepth 100000 in
theorem fnil_ne_r (g : FuncId) (cs : Array Value) (W : World) : (binOp BinOp.neq 62 (Value.func (Fn.func g) #[] cs) Value.nilFunc).run Try.prog W = .ok (.bool true) W := by
  kernel_rfl
set_option maxRecDepth 100000 in
set_option maxHeartbeats 1000000 in
/-- All of nil facts. -/
theorem listed_r (w : World) : Calls Try.prog 14 #[.pointer none] w fun e w' => e = .returned (.slice none 0 0) ∧ Below w.heap.size w w' := by
  have HT := Lib.hid (fun w' => meth_r w')
  obtain ⟨n, hn⟩ : ∃ n : Nat, 4 ≤ n := ⟨4, by omega⟩
  have h1 : 1 ≤ n := by omega
  refine callsIn_wide.1 (callsIn_of_wp_marks (n := n) Try.func14 rfl trivial ?_ rfl)
  simp only [Try.ntmps14, List.size_toArray, List.length_cons, List.length_nil, Nat.reduceAdd, Nat.reduceSub, Array.replicate_succ, Array.replicate_zero, List.push_toArray, List.append_toArray, List.nil_append, List.cons_append]
  gi_wp2
  refine wideN (HT.out _) ?_
  rintro e w1 ⟨Bs, Bg, rfl, hc, hb0⟩
  have hq := fnil_eq_r
  gi_wp2
  have bx := Boxed.new w1 36 (.slice none 0 0)
  have hb := newF w1 (.cells #[.slice none 0 0] 36)
  have hst := tit_nil_r (n - 1) (fun (x : Empty) => #[undef]) Bs Bg _ (keepF hb hc)
  have hz : (w1.alloc (.cells #[.slice none 0 0] 36)).heap.size = w1.heap.size + 1 := by simp
  have hz0 := hb0.size
  have hbb := onF hb0 hb
  generalize w1.alloc (.cells #[.slice none 0 0] 36) = W1 at *
  refine wpIn_rangeFunc_ownH rfl h1 (gf := 47) (lb := #[.pointer (some ⟨Bs, 0, none⟩), .pointer (some ⟨Bg, 0, none⟩)]) rfl trivial (enters_of Try.func47 (by kernel_rfl) rfl)
    hst walksK_t (fun W l o o' h1 h2 h3 h4 => walksK_b (w := W1) W l o o' h1 h2 h3 h4) (Below.refl _ _) (fun x => x.elim)
    (fun _ W => Boxed W w1.heap.size 36 (.slice none 0 0) ∧ Below w.heap.size w W)
    (fun _ _ _ => False)
    (OwnFrom.and (Go.Own.from (boxed_own w1.heap.size 36 (fun _ : List Empty => .slice none 0 0)) _) (ownFrom_below (Nat.le_refl _) (by omega)))
    (fun _ _ _ _ _ hs _ _ => hs)
    ⟨bx, hbb⟩
    (fun _ _ _ => False)
    (fun _ _ _ _ _ _ hs _ _ => hs)
    ?assign ?body ?done ?stop
  case assign => 
    intro l pre x
    exact x.elim
  case body =>
    intro l pre x a' W _ _ _ hs _
    exact hs.elim
  case done =>
    rintro D ys W hD rfl ⟨hv, hB⟩ hK
    have hc := hv.cell
    gi_wp2
    refine ⟨by simp, .inl ⟨_, _, rfl, run_takeDeferred hK, ?_⟩⟩
    exact ⟨_, results_tmp rfl _ _ _, rfl, hB.trans (belowK_b (w := w) (Nat.le_refl _) W D _ _ (by omega) hK rfl rfl)⟩
  case stop =>
    rintro D c pre W _ _ h _
    exact h.elim

end Go.Proofs.Ytedjbmmegjgegaa

namespace Go.Proofs.Ytedjbmmegjgegaa
open Go.RowKit Go.Lib Go.Maps Go.Sort Go.Shelf
set_option linter.unusedVariables false
set_option linter.unusedSimpArgs false
attribute [local go_sem] Oper.semAt_some


/-! Choice -/
set_option maxRecDepth 100000 in
theorem all_make_i (b : Option Nat) (w : World) : Calls Try.prog 33 #[.map b] w fun e w' => e = .returned (.func (.func 44) #[] #[.pointer (some ⟨w.heap.size, 0, none⟩)]) ∧ w' = w.alloc (.cells #[.map b] 74) := by
  go_enter Try.func33, Try.ntmps33
  go_wp2_with fail
  go_ret
  exact ⟨rfl, rfl⟩
set_option maxRecDepth 100000 in
set_option maxHeartbeats 1000000 in
theorem all_nil_i {α : Type} (n : Nat) (encs : α → Array Value) (Bm : Nat) (w : World) (hm : w.cell? ⟨Bm, 0, none⟩ = some (.map none)) :
    SeqStopsA Fence.wide n Try.prog 44 #[.pointer (some ⟨Bm, 0, none⟩)] encs (fun xs => xs = []) (fun _ => False) 0 w := fun l J Jx W hW hJ _ hY h0 => by
  have hm' := keepF hW hm
  clear hY hm
  refine callsIn_of_wp Try.func44 rfl trivial ?_ rfl
  simp only [Try.ntmps44, List.size_toArray, List.length_cons, List.length_nil, Nat.reduceAdd, Nat.reduceSub, Array.replicate_succ, Array.replicate_zero, List.push_toArray, List.append_toArray, List.nil_append, List.cons_append]
  have hrg := run_range_nilMap (P := Try.prog) W 74 85 3 Try.underlying74
  have hnx : ∀ ty, (Instr.next (.pointer (some ⟨W.heap.size, 0, none⟩)) false ty).run Try.prog (W.alloc (.mapIter none 0 #[] 0)) = _ := fun ty => run_next_nilMap _ ty 0 0 #[]
  gi_wp2
  refine wpIn_loop_rounds 1 ?_
  rw [roundsIn_succ]
  gi_wp2
  go_end0
  exact ⟨⟨_, rfl⟩, .inl ⟨[], rfl, hJ [] W _ none h0 (World.grownBy_alloc W _ none) (fun r e => by cases e)⟩⟩
set_option maxRecDepth 100000 in
set_option maxHeartbeats 1000000 in
/-- Nothing is appended, where nothing comes. -/
theorem appseq_i (Bm : Nat) (w : World) (hm : w.cell? ⟨Bm, 0, none⟩ = some (.map none)) :
    Calls Try.prog 77 #[.slice none 0 0, .func (.func 44) #[] #[.pointer (some ⟨Bm, 0, none⟩)]] w fun e w' => e = .returned (.slice none 0 0) ∧ Below w.heap.size w w' := by
  obtain ⟨n, hn⟩ : ∃ n : Nat, 4 ≤ n := ⟨4, by omega⟩
  have h1 : 1 ≤ n := by omega
  refine callsIn_wide.1 (callsIn_of_wp_marks (n := n) Try.func77 rfl trivial ?_ rfl)
  simp only [Try.ntmps77, List.size_toArray, List.length_cons, List.length_nil, Nat.reduceAdd, Nat.reduceSub, Array.replicate_succ, Array.replicate_zero, List.push_toArray, List.append_toArray, List.nil_append, List.cons_append]
  gi_wp2
  have bx := Boxed.new w 110 (.slice none 0 0)
  have hb := newF w (.cells #[.slice none 0 0] 110)
  have hst := all_nil_i (n - 1) (fun (x : Empty) => #[undef]) Bm _ (keepF hb hm)
  have hz : (w.alloc (.cells #[.slice none 0 0] 110)).heap.size = w.heap.size + 1 := by simp
  generalize w.alloc (.cells #[.slice none 0 0] 110) = W1 at *
  refine wpIn_rangeFunc_ownH rfl h1 (gf := 44) (lb := #[.pointer (some ⟨Bm, 0, none⟩)]) rfl trivial (enters_of Try.func44 (by kernel_rfl) rfl)
    hst walksK_t (fun W l o o' h1 h2 h3 h4 => walksK_b (w := W1) W l o o' h1 h2 h3 h4) (Below.refl _ _) (fun x => x.elim)
    (fun _ W => Boxed W w.heap.size 110 (.slice none 0 0) ∧ Below w.heap.size w W)
    (fun _ _ _ => False)
    (OwnFrom.and (Go.Own.from (boxed_own w.heap.size 110 (fun _ : List Empty => .slice none 0 0)) _) (ownFrom_below (Nat.le_refl _) (by omega)))
    (fun _ _ _ _ _ hs _ _ => hs)
    ⟨bx, hb⟩
    (fun _ _ _ => False)
    (fun _ _ _ _ _ _ hs _ _ => hs)
    ?assign ?body ?done ?stop
  case assign => 
    intro l pre x
    exact x.elim
  case body =>
    intro l pre x a' W _ _ _ hs _
    exact hs.elim
  case done =>
    rintro D ys W hD rfl ⟨hv, hB⟩ hK
    have hc := hv.cell
    gi_wp2
    refine ⟨by simp, .inl ⟨_, _, rfl, run_takeDeferred hK, ?_⟩⟩
    exact ⟨_, results_tmp rfl _ _ _, rfl, hB.trans (belowK_b (w := w) (Nat.le_refl _) W D _ _ (by omega) hK rfl rfl)⟩
  case stop =>
    rintro D c pre W _ _ h _
    exact h.elim
set_option maxRecDepth 100000 in
theorem collect_i (Bm : Nat) (w : World) (hm : w.cell? ⟨Bm, 0, none⟩ = some (.map none)) :
    Calls Try.prog 71 #[.func (.func 44) #[] #[.pointer (some ⟨Bm, 0, none⟩)]] w fun e w' => e = .returned (.slice none 0 0) ∧ Below w.heap.size w w' := by
  have HA := Lib.hid (appseq_i Bm w hm)
  clear hm
  go_enter Try.func71, Try.ntmps71
  go_wp2_with fail
  refine HA.out.mono ?_
  rintro e w1 ⟨rfl, hb⟩
  have HB := Lib.hid hb
  clear hb HA
  go_wp2_with fail
  go_ret
  exact ⟨rfl, HB.out⟩
set_option maxRecDepth 100000 in
set_option maxHeartbeats 1000000 in
theorem insort_i (g : Value) (w : World) : Calls Try.prog 89 #[.slice none 0 0, .int .i64 0, .int .i64 0, g] w fun e w' => e = .returned (.tuple #[]) ∧ Below w.heap.size w w' := by
  go_enter Try.func89, Try.ntmps89
  go_wp2_with fail
  refine wp_loop_rounds 1 ?_
  rw [rounds_succ]
  go_wp2_with fail
  go_end0
  exact ⟨rfl, Below.refl _ _⟩
set_option maxRecDepth 100000 in
set_option maxHeartbeats 1000000 in
theorem pdq_i (g z : Value) (w : World) : Calls Try.prog 78 #[.slice none 0 0, .int .i64 0, .int .i64 0, z, g] w fun e w' => e = .returned (.tuple #[]) ∧ Below w.heap.size w w' := by
  have HI := Lib.hid (fun w' => insort_i g w')
  go_enter Try.func78, Try.ntmps78
  go_wp2_with fail
  refine wp_loop_rounds 1 ?_
  rw [rounds_succ]
  go_wp2_with fail
  refine (HI.out _).mono ?_
  rintro e w1 ⟨rfl, hb⟩
  have HB := Lib.hid hb
  clear hb HI
  go_wp2_with fail
  (try simp only [Exit.inBlock, Exit.then]); refine bodyPost_ret (results_none rfl _ _ _) rfl ?_
  exact ⟨rfl, HB.out⟩
set_option maxRecDepth 100000 in
theorem sortf_i (g : Value) (w : World) : Calls Try.prog 72 #[.slice none 0 0, g] w fun e w' => e = .returned (.tuple #[]) ∧ Below w.heap.size w w' := by
  have HL := Lib.hid (fun w' => bitlen_0 w')
  have HP := Lib.hid (fun z w' => pdq_i g z w')
  go_enter Try.func72, Try.ntmps72
  go_wp2_with fail
  refine (HL.out _).mono ?_
  rintro e w1 ⟨⟨z, rfl⟩, hb⟩
  have HB := Lib.hid hb
  clear hb HL
  go_wp2_with fail
  refine (HP.out _ _).mono ?_
  rintro e w2 ⟨rfl, hb⟩
  have HB2 := Lib.hid (onF HB.out hb)
  clear hb HP
  go_wp2_with fail
  go_end0
  exact ⟨rfl, HB2.out⟩
set_option maxRecDepth 100000 in
theorem sorted_i (g : Value) (Bm : Nat) (w : World) (hm : w.cell? ⟨Bm, 0, none⟩ = some (.map none)) : Calls Try.prog 60 #[.func (.func 44) #[] #[.pointer (some ⟨Bm, 0, none⟩)], g] w fun e w' => e = .returned (.slice none 0 0) ∧ Below w.heap.size w w' := by
  have HC := Lib.hid (collect_i Bm w hm)
  have HS := Lib.hid (fun w' => sortf_i g w')
  clear hm
  go_enter Try.func60, Try.ntmps60
  go_wp2_with fail
  refine HC.out.mono ?_
  rintro e w1 ⟨rfl, hb⟩
  have HB := Lib.hid hb
  clear hb HC
  go_wp2_with fail
  refine (HS.out _).mono ?_
  rintro e w2 ⟨rfl, hb⟩
  have HB2 := Lib.hid (onF HB.out hb)
  clear hb HS
  go_wp2_with fail
  go_ret
  exact ⟨rfl, HB2.out⟩
set_option maxRecDepth 100000 in
theorem inorder_i (w : World) : Calls Try.prog 48 #[.map none] w fun e w' => e = .returned (.slice none 0 0) ∧ Below w.heap.size w w' := by
  have hb0 := newF w (.cells #[.map none] 74)
  have hm : (w.alloc (.cells #[.map none] 74)).cell? ⟨w.heap.size, 0, none⟩ = some (.map none) := by rw [World.cell?_alloc_at _ _ _ _ rfl]; rfl
  have HM := Lib.hid (fun w' => all_make_i none w')
  have HS := Lib.hid (fun g => sorted_i g w.heap.size _ hm)
  have HB := Lib.hid hb0
  clear hb0 hm
  go_enter Try.func48, Try.ntmps48
  go_wp2_with fail
  refine (HM.out _).mono ?_
  rintro e w1 ⟨rfl, rfl⟩
  clear HM
  go_wp2_with fail
  refine (HS.out _).mono ?_
  rintro e w2 ⟨rfl, hb⟩
  have HB2 := Lib.hid (onF HB.out hb)
  clear hb HS
  go_wp2_with fail
  go_ret
  exact ⟨rfl, HB2.out⟩
set_option maxRecDepth 100000 in
set_option maxHeartbeats 1000000 in
/-- told: the facts' slice, and how they are told, boxed. -/
theorem told_i (g : FuncId) (w : World) : Calls Try.prog 38 #[.map none, .func (.func g) #[] #[]] w fun e w' => ∃ Bs Bg, e = .returned (.func (.func 49) #[] #[.pointer (some ⟨Bs, 0, none⟩), .pointer (some ⟨Bg, 0, none⟩)]) ∧ w'.cell? ⟨Bs, 0, none⟩ = some (.slice none 0 0) ∧ Below w.heap.size w w' := by
  have HI := Lib.hid (fun w' => inorder_i w')
  go_enter Try.func38, Try.ntmps38
  go_wp2_with fail
  refine (HI.out _).mono ?_
  rintro e w1 ⟨rfl, hb⟩
  have HB := Lib.hid (onF (newF w _) hb)
  clear hb HI
  go_wp2_with fail
  go_ret
  refine ⟨w1.heap.size, w.heap.size, rfl, ?_, onF HB.out (newF _ _)⟩
  rw [World.cell?_alloc_at _ _ _ _ rfl]; rfl
set_option maxRecDepth 100000 in
set_option maxHeartbeats 1000000 in
theorem tit_nil_i {α : Type} (n : Nat) (encs : α → Array Value) (Bs Bg : Nat) (w : World) (hm : w.cell? ⟨Bs, 0, none⟩ = some (.slice none 0 0)) :
    SeqStopsA Fence.wide n Try.prog 49 #[.pointer (some ⟨Bs, 0, none⟩), .pointer (some ⟨Bg, 0, none⟩)] encs (fun xs => xs = []) (fun _ => False) 0 w := fun l J Jx W hW hJ _ hY h0 => by
  have hm' := keepF hW hm
  clear hY hm
  refine callsIn_of_wp Try.func49 rfl trivial ?_ rfl
  simp only [Try.ntmps49, List.size_toArray, List.length_cons, List.length_nil, Nat.reduceAdd, Nat.reduceSub, Array.replicate_succ, Array.replicate_zero, List.push_toArray, List.append_toArray, List.nil_append, List.cons_append]
  gi_wp2
  refine wpIn_loop_rounds 1 ?_
  rw [roundsIn_succ]
  gi_wp2
  go_end0
  exact ⟨⟨_, rfl⟩, .inl ⟨[], rfl, h0⟩⟩
set_option maxRecDepth 100000 in
set_option maxHeartbeats 1000000 in
/-- What an iterator of nil facts is. -/
theorem meth_i (w : World) : Calls Try.prog 25 #[.pointer none] w fun e w' => ∃ Bs Bg, e = .returned (.func (.func 49) #[] #[.pointer (some ⟨Bs, 0, none⟩), .pointer (some ⟨Bg, 0, none⟩)]) ∧ w'.cell? ⟨Bs, 0, none⟩ = some (.slice none 0 0) ∧ Below w.heap.size w w' := by
  have HO := Lib.hid (fun w' => ornone_nil w')
  have HT := Lib.hid (fun w' => told_i 39 w')
  go_enter Try.func25, Try.ntmps25
  go_wp2_with fail
  refine (HO.out _).mono ?_
  rintro e w1 ⟨B, rfl, m0, m1, hb⟩
  have HB := Lib.hid hb
  clear hb HO
  go_wp2_with fail
  refine (HT.out _).mono ?_
  rintro e w2 ⟨Bs, Bg, rfl, hc, hb⟩
  have HB2 := Lib.hid (onF HB.out hb)
  have HC := Lib.hid hc
  clear hb hc HT
  go_wp2_with fail
  go_ret
  exact ⟨Bs, Bg, rfl, HC.out, HB2.out⟩
set_option maxRecDepth 100000 in
theorem fnil_eq_i (g : FuncId) (cs : Array Value) (W : World) : (binOp BinOp.eql 66 (Value.func (Fn.func g) #[] cs) Value.nilFunc).run Try.prog W = .ok (.bool false) W := by
  kernel_rfl
set_option maxRecDepth 100000 in
theorem fnil_ne_i (g : FuncId) (cs : Array Value) (W : World) : (binOp BinOp.neq 66 (Value.func (Fn.func g) #[] cs) Value.nilFunc).run Try.prog W = .ok (.bool true) W := by
  kernel_rfl
set_option maxRecDepth 100000 in
set_option maxHeartbeats 1000000 in
/-- All of nil facts. -/
theorem listed_i (w : World) : Calls Try.prog 15 #[.pointer none] w fun e w' => e = .returned (.slice none 0 0) ∧ Below w.heap.size w w' := by
  have HT := Lib.hid (fun w' => meth_i w')
  obtain ⟨n, hn⟩ : ∃ n : Nat, 4 ≤ n := ⟨4, by omega⟩
  have h1 : 1 ≤ n := by omega
  refine callsIn_wide.1 (callsIn_of_wp_marks (n := n) Try.func15 rfl trivial ?_ rfl)
  simp only [Try.ntmps15, List.size_toArray, List.length_cons, List.length_nil, Nat.reduceAdd, Nat.reduceSub, Array.replicate_succ, Array.replicate_zero, List.push_toArray, List.append_toArray, List.nil_append, List.cons_append]
  gi_wp2
  refine wideN (HT.out _) ?_
  rintro e w1 ⟨Bs, Bg, rfl, hc, hb0⟩
  have hq := fnil_eq_i
  gi_wp2
  have bx := Boxed.new w1 38 (.slice none 0 0)
  have hb := newF w1 (.cells #[.slice none 0 0] 38)
  have hst := tit_nil_i (n - 1) (fun (x : Empty) => #[undef]) Bs Bg _ (keepF hb hc)
  have hz : (w1.alloc (.cells #[.slice none 0 0] 38)).heap.size = w1.heap.size + 1 := by simp
  have hz0 := hb0.size
  have hbb := onF hb0 hb
  generalize w1.alloc (.cells #[.slice none 0 0] 38) = W1 at *
  refine wpIn_rangeFunc_ownH rfl h1 (gf := 49) (lb := #[.pointer (some ⟨Bs, 0, none⟩), .pointer (some ⟨Bg, 0, none⟩)]) rfl trivial (enters_of Try.func49 (by kernel_rfl) rfl)
    hst walksK_t (fun W l o o' h1 h2 h3 h4 => walksK_b (w := W1) W l o o' h1 h2 h3 h4) (Below.refl _ _) (fun x => x.elim)
    (fun _ W => Boxed W w1.heap.size 38 (.slice none 0 0) ∧ Below w.heap.size w W)
    (fun _ _ _ => False)
    (OwnFrom.and (Go.Own.from (boxed_own w1.heap.size 38 (fun _ : List Empty => .slice none 0 0)) _) (ownFrom_below (Nat.le_refl _) (by omega)))
    (fun _ _ _ _ _ hs _ _ => hs)
    ⟨bx, hbb⟩
    (fun _ _ _ => False)
    (fun _ _ _ _ _ _ hs _ _ => hs)
    ?assign ?body ?done ?stop
  case assign => 
    intro l pre x
    exact x.elim
  case body =>
    intro l pre x a' W _ _ _ hs _
    exact hs.elim
  case done =>
    rintro D ys W hD rfl ⟨hv, hB⟩ hK
    have hc := hv.cell
    gi_wp2
    refine ⟨by simp, .inl ⟨_, _, rfl, run_takeDeferred hK, ?_⟩⟩
    exact ⟨_, results_tmp rfl _ _ _, rfl, hB.trans (belowK_b (w := w) (Nat.le_refl _) W D _ _ (by omega) hK rfl rfl)⟩
  case stop =>
    rintro D c pre W _ _ h _
    exact h.elim

end Go.Proofs.Ytedjbmmegjgegaa
