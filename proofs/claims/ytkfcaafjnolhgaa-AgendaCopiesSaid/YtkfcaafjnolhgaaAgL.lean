/-
  chattellaw11: items, does of a nil agenda; the chapter's example.
-/
import Derived.Test.YtkfcaafjnolhgaaAgK
import Derived.Shelf.Abstract
namespace Go.Proofs.Ytkfcaafjnolhgaa
open Go.RowKit Go.Lib Go.Maps Go.Sort Go.Shelf
set_option linter.unusedVariables false
set_option linter.unusedSimpArgs false
attribute [local go_sem] Oper.semAt_some

theorem wideA {m : Nat} {P : Program} {f : FuncId} {args : Array Value} {w : World} {R R' : Ending → World → Prop} (h : Calls P f args w R) (hm : ∀ e w', R e w' → R' e w') : Fence.wide.fn f ∧ CallsIn Fence.wide m P f args w R' :=
  ⟨trivial, (callsIn_wide.2 h).mono hm⟩
set_option maxRecDepth 100000 in
theorem fnil_eqA (g : FuncId) (cs : Array Value) (W : World) : (binOp BinOp.eql 56 (Value.func (Fn.func g) #[] cs) Value.nilFunc).run Try.prog W = .ok (.bool false) W := by
  kernel_rfl
set_option maxRecDepth 100000 in
theorem fnil_neA (g : FuncId) (cs : Array Value) (W : World) : (binOp BinOp.neq 56 (Value.func (Fn.func g) #[] cs) Value.nilFunc).run Try.prog W = .ok (.bool true) W := by
  kernel_rfl
set_option maxRecDepth 100000 in
set_option maxHeartbeats 1000000 in
theorem nall_it {α : Type} (n : Nat) (encs : α → Array Value) (w : World) :
    SeqStopsA Fence.wide n Try.prog 31 #[] encs (fun xs => xs = []) (fun _ => False) 0 w := fun l J Jx W hW hJ _ hY h0 => by
  clear hY
  refine callsIn_of_wp Try.func31 rfl trivial ?_ rfl
  simp only [Try.ntmps31, List.size_toArray, List.length_cons, List.length_nil, Nat.reduceAdd, Nat.reduceSub, Array.replicate_succ, Array.replicate_zero, List.push_toArray, List.append_toArray, List.nil_append, List.cons_append]
  gi_wp2
  go_end0
  exact ⟨⟨_, rfl⟩, .inl ⟨[], rfl, h0⟩⟩
set_option maxRecDepth 100000 in
set_option maxHeartbeats 2000000 in
theorem nitems_any (w : World) : Calls Try.prog 18 #[.pointer none] w fun e w' => e = .returned (.slice none 0 0) ∧ Below w.heap.size w w' := by
  have HT := Lib.hid (fun w' => nall_any w')
  obtain ⟨n, hn⟩ : ∃ n : Nat, 4 ≤ n := ⟨4, by omega⟩
  have h1 : 1 ≤ n := by omega
  refine callsIn_wide.1 (callsIn_of_wp_marks (n := n) Try.func18 rfl trivial ?_ rfl)
  simp only [Try.ntmps18, List.size_toArray, List.length_cons, List.length_nil, Nat.reduceAdd, Nat.reduceSub, Array.replicate_succ, Array.replicate_zero, List.push_toArray, List.append_toArray, List.nil_append, List.cons_append]
  gi_wp2
  refine wideA (HT.out _) ?_
  rintro e w1 ⟨rfl, rfl⟩
  have hq := fnil_eqA
  gi_wp2
  have bx := Boxed.new w1 47 (.slice none 0 0)
  have hb := newF w1 (.cells #[.slice none 0 0] 47)
  have hst := nall_it (n - 1) (fun (x : Empty) => #[undef]) (w1.alloc (.cells #[.slice none 0 0] 47))
  have hz : (w1.alloc (.cells #[.slice none 0 0] 47)).heap.size = w1.heap.size + 1 := by simp
  generalize w1.alloc (.cells #[.slice none 0 0] 47) = W1 at *
  refine wpIn_rangeFunc_ownH rfl h1 (gf := 31) (lb := #[]) rfl trivial (enters_of Try.func31 (by kernel_rfl) rfl)
    hst walksK_t (fun W l o o' h1 h2 h3 h4 => walksK_b (w := W1) W l o o' h1 h2 h3 h4) (Below.refl _ _) (fun x => x.elim)
    (fun _ W => Boxed W w1.heap.size 47 (.slice none 0 0) ∧ Below w1.heap.size w1 W)
    (fun _ _ _ => False)
    (OwnFrom.and (Go.Own.from (boxed_own w1.heap.size 47 (fun _ : List Empty => .slice none 0 0)) _) (ownFrom_below (Nat.le_refl _) (by omega)))
    (fun _ _ _ _ _ hs _ _ => hs)
    ⟨bx, hb⟩
    (fun _ _ _ => False)
    (fun _ _ _ _ _ _ hs _ _ => hs)
    ?assign ?body ?done ?stop
  case assign =>
    intro l pre x
    exact x.elim
  case body =>
    intro l pre x a' W _ _ _ hs _
    exact hs.elim
  case done =>
    rintro D ys W hD rfl ⟨hv, hB⟩ hK
    have hc := hv.cell
    gi_wp2
    refine ⟨by simp, .inl ⟨_, _, rfl, run_takeDeferred hK, ?_⟩⟩
    exact ⟨_, results_tmp rfl _ _ _, rfl, hB.trans (belowK_b (w := w1) (Nat.le_refl _) W D _ _ (by omega) hK rfl rfl)⟩
  case stop =>
    rintro D c pre W _ _ h _
    exact h.elim
/-- What a nil agenda's calls err. -/
def nilE (k : Int) : Int := if k = 1 then 16 else 2
set_option maxRecDepth 100000 in
set_option maxHeartbeats 2000000 in
theorem ndoes_any (w : World) (k d n : Int) : Calls Try.prog 11 #[.pointer none, .agg #[.int .i64 k, .int .i64 d, .int .i64 n]] w fun e w' => e = .returned (.tuple #[zIt, .int .i64 (nilE k)]) ∧ Below w.heap.size w w' := by
  have HP := Lib.hid (fun w' d t => nput_any w' d t)
  have HT := Lib.hid (fun w' b => ntake_any w' b)
  have HD := Lib.hid (fun w' no => ndrop_any w' no)
  have HM := Lib.hid (fun w' no d => nmove_any w' no d)
  have hb := onF (newF w (.cells #[.int .i64 k, .int .i64 d, .int .i64 n] 36)) (newF (w.alloc (.cells #[.int .i64 k, .int .i64 d, .int .i64 n] 36)) (.cells #[.int .i64 0, .int .i64 0, .int .i64 0] 31))
  have hk : ∀ i v, (#[.int .i64 k, .int .i64 d, .int .i64 n] : Array Value)[i]? = some v → ((w.alloc (.cells #[.int .i64 k, .int .i64 d, .int .i64 n] 36)).alloc (.cells #[.int .i64 0, .int .i64 0, .int .i64 0] 31)).cell? ⟨w.heap.size, i, none⟩ = some v := fun i v hv => (World.cell?_alloc_past _ _ _ (by simp)).trans ((World.cell?_alloc_at _ _ _ _ rfl).trans hv)
  have k0 := hk 0 (.int .i64 k) rfl
  have k1 := hk 1 (.int .i64 d) rfl
  have k2 := hk 2 (.int .i64 n) rfl
  have hr0 : ∀ j, j < 3 → ((w.alloc (.cells #[.int .i64 k, .int .i64 d, .int .i64 n] 36)).alloc (.cells #[.int .i64 0, .int .i64 0, .int .i64 0] 31)).cell? ⟨w.heap.size + 1, j, none⟩ = some (.int .i64 0) := fun j hj => by
    rw [World.cell?_alloc_at _ _ _ _ (by simp)]
    rcases (show j = 0 ∨ j = 1 ∨ j = 2 by omega) with rfl | rfl | rfl <;> rfl
  have hf0 : ∀ j, ((w.alloc (.cells #[.int .i64 k, .int .i64 d, .int .i64 n] 36)).alloc (.cells #[.int .i64 0, .int .i64 0, .int .i64 0] 31)).frozen? ⟨w.heap.size + 1, j, none⟩ = false := fun j => World.frozen?_alloc_at _ _ _ _ (by simp)
  have hsz : ((w.alloc (.cells #[.int .i64 k, .int .i64 d, .int .i64 n] 36)).alloc (.cells #[.int .i64 0, .int .i64 0, .int .i64 0] 31)).heap.size = w.heap.size + 1 + 1 := by simp
  have HB := Lib.hid hb
  have HZ := Lib.hid (And.intro hr0 (And.intro hf0 hsz))
  unfold zIt nilE at *
  clear hb hk hr0 hf0 hsz
  go_enter Try.func11, Try.ntmps11
  by_cases c0 : k = 0
  · subst c0
    rw [if_neg (by decide)]
    go_wp2_with fail
    generalize (w.alloc (.cells #[.int .i64 0, .int .i64 d, .int .i64 n] 36)).alloc (.cells #[.int .i64 0, .int .i64 0, .int .i64 0] 31) = W at *
    refine (HP.out _ _ _).mono ?_
    rintro e w1 ⟨rfl, rfl⟩
    have z0 := id (HZ.out.1 0 (by decide))
    have z1 := id (HZ.out.1 1 (by decide))
    have z2 := id (HZ.out.1 2 (by decide))
    have y0 := id (HZ.out.2.1 0)
    have y1 := id (HZ.out.2.1 1)
    have y2 := id (HZ.out.2.1 2)
    go_wp2_with fail
    exact bodyPost_ret (v := .tuple #[.agg #[.int .i64 0, .int .i64 0, .int .i64 0], .int .i64 2]) (by simp [results, Try.results11, go_sem, z0, z1, z2]) rfl ⟨rfl, Below.setCell (Below.setCell (Below.setCell HB.out (Nat.le_succ _) _) (Nat.le_succ _) _) (Nat.le_succ _) _⟩
  by_cases c1 : k = 1
  · subst c1
    rw [if_pos rfl]
    go_wp2_with fail
    generalize (w.alloc (.cells #[.int .i64 1, .int .i64 d, .int .i64 n] 36)).alloc (.cells #[.int .i64 0, .int .i64 0, .int .i64 0] 31) = W at *
    refine (HT.out _ _).mono ?_
    rintro e w1 ⟨rfl, hb1⟩
    have hb2 := onF hb1 (newF w1 (.cells #[.int .i64 0, .int .i64 0, .int .i64 0] 31))
    have HB2 := Lib.hid (onF HB.out hb2)
    have hy : ∀ j, (w1.alloc (.cells #[.int .i64 0, .int .i64 0, .int .i64 0] 31)).frozen? ⟨w.heap.size + 1, j, none⟩ = false := fun j => (hb2.frozen (p := ⟨w.heap.size + 1, j, none⟩) (by show w.heap.size + 1 < W.heap.size; rw [HZ.out.2.2]; omega)).trans (HZ.out.2.1 j)
    have z0 := keepF hb2 (HZ.out.1 0 (by decide))
    have z1 := keepF hb2 (HZ.out.1 1 (by decide))
    have z2 := keepF hb2 (HZ.out.1 2 (by decide))
    have y0 := hy 0
    have y1 := hy 1
    have y2 := hy 2
    clear hb1 hb2 hy
    go_wp2_with fail
    exact bodyPost_ret (v := .tuple #[.agg #[.int .i64 0, .int .i64 0, .int .i64 0], .int .i64 16]) (by simp [results, Try.results11, go_sem, z0, z1, z2]) rfl ⟨rfl, Below.setCell (Below.setCell (Below.setCell HB2.out (Nat.le_succ _) _) (Nat.le_succ _) _) (Nat.le_succ _) _⟩
  rw [if_neg c1]
  by_cases c2 : k = 2
  · subst c2
    go_wp2_with fail
    generalize (w.alloc (.cells #[.int .i64 2, .int .i64 d, .int .i64 n] 36)).alloc (.cells #[.int .i64 0, .int .i64 0, .int .i64 0] 31) = W at *
    refine (HD.out _ _).mono ?_
    rintro e w1 ⟨rfl, hb2⟩
    have HB2 := Lib.hid (onF HB.out hb2)
    have hy : ∀ j, w1.frozen? ⟨w.heap.size + 1, j, none⟩ = false := fun j => (hb2.frozen (p := ⟨w.heap.size + 1, j, none⟩) (by show w.heap.size + 1 < W.heap.size; rw [HZ.out.2.2]; omega)).trans (HZ.out.2.1 j)
    have z0 := keepF hb2 (HZ.out.1 0 (by decide))
    have z1 := keepF hb2 (HZ.out.1 1 (by decide))
    have z2 := keepF hb2 (HZ.out.1 2 (by decide))
    have y0 := hy 0
    have y1 := hy 1
    have y2 := hy 2
    clear hb2 hy
    go_wp2_with fail
    exact bodyPost_ret (v := .tuple #[.agg #[.int .i64 0, .int .i64 0, .int .i64 0], .int .i64 2]) (by simp [results, Try.results11, go_sem, z0, z1, z2]) rfl ⟨rfl, Below.setCell (Below.setCell (Below.setCell HB2.out (Nat.le_succ _) _) (Nat.le_succ _) _) (Nat.le_succ _) _⟩
  · go_wp2_with fail
    generalize (w.alloc (.cells #[.int .i64 k, .int .i64 d, .int .i64 n] 36)).alloc (.cells #[.int .i64 0, .int .i64 0, .int .i64 0] 31) = W at *
    refine (HM.out _ _ _).mono ?_
    rintro e w1 ⟨rfl, rfl⟩
    have z0 := id (HZ.out.1 0 (by decide))
    have z1 := id (HZ.out.1 1 (by decide))
    have z2 := id (HZ.out.1 2 (by decide))
    have y0 := id (HZ.out.2.1 0)
    have y1 := id (HZ.out.2.1 1)
    have y2 := id (HZ.out.2.1 2)
    go_wp2_with fail
    exact bodyPost_ret (v := .tuple #[.agg #[.int .i64 0, .int .i64 0, .int .i64 0], .int .i64 2]) (by simp [results, Try.results11, go_sem, z0, z1, z2]) rfl ⟨rfl, Below.setCell (Below.setCell (Below.setCell HB.out (Nat.le_succ _) _) (Nat.le_succ _) _) (Nat.le_succ _) _⟩

/-- The chapter's example. -/
theorem ex_put1 : inI ⟨5, 0, 1⟩ [] = [(⟨5, 0, 1⟩ : It)] := rfl
theorem ex_put2 : inI ⟨3, 1, 2⟩ [(⟨5, 0, 1⟩ : It)] = [⟨3, 1, 2⟩, ⟨5, 0, 1⟩] := by decide
theorem ex_put3 : inI ⟨5, 2, 3⟩ [(⟨3, 1, 2⟩ : It), ⟨5, 0, 1⟩] = [⟨3, 1, 2⟩, ⟨5, 0, 1⟩, ⟨5, 2, 3⟩] := by decide
theorem AgV.sb {w w' : World} {B base a q bm n : Nat} {lv : Value} {L : List It} (h : AgV w base a q bm lv L n) (hB : B ≤ base) (ho : Off (FpA a q bm lv) w w') (hw : B ≤ w.heap.size) : Below B w w' := ho.below (fun k hk => Nat.le_trans hB (h.lo k hk)) hw
theorem aput_at (w : World) {base a q bm n : Nat} {lv : Value} {L L' : List It} (h : AgV w base a q bm lv L n) (hn : n < 1000) (hl : L.length < 1000) (d t : Int) (hd : 0 ≤ d ∧ d ≤ 73048) (k : Int) (hk : ((n : Nat) : Int) = k) (hL : inI ⟨d, k, t⟩ L = L') :
    Calls Try.prog 25 #[.pointer (some ⟨a, 0, none⟩), .int .i64 d, .int .i64 t] w fun e w' => e = .returned (.tuple #[.int .i64 k, .int .i64 0]) ∧ ∃ lv', AgV w' base a q bm lv' L' (n + 1) ∧ Off (FpA a q bm lv) w w' ∧ (∀ k, FpA a q bm lv' k → FpA a q bm lv k ∨ w.heap.size ≤ k) := by
  subst hk hL
  exact aput_ok w h hn hl d t hd
attribute [local go_sem] eq_it
set_option maxRecDepth 100000 in
set_option maxHeartbeats 4000000 in
theorem awake11_any (w : World) : Calls Try.prog 10 #[] w fun e w' => e = .returned (.bool true) ∧ Below w.heap.size w w' := by
  have HN := Lib.hid (anew_any w)
  go_enter Try.func10, Try.ntmps10
  go_wp2_with fail
  refine HN.out.mono ?_
  rintro e w1 ⟨a, q, bm, rfl, hA, hb⟩
  have HB1 := Lib.hid hb
  have HA1 := Lib.hid hA
  have HP1 := Lib.hid (aput_at w1 hA (by omega) (by simp) 5 1 (by decide) 0 rfl ex_put1)
  clear hA hb HN
  go_wp2_with fail
  refine HP1.out.mono ?_
  rintro e w2 ⟨rfl, lv2, hA, ho, hf⟩
  have HB2 := Lib.hid (HB1.out.trans (HA1.out.sb (Nat.le_refl _) ho HB1.out.size))
  have HA2 := Lib.hid hA
  have HP2 := Lib.hid (aput_at w2 hA (by omega) (by simp) 3 2 (by decide) 1 rfl ex_put2)
  clear hA ho hf HP1
  go_wp2_with fail
  refine HP2.out.mono ?_
  rintro e w3 ⟨rfl, lv3, hA, ho, hf⟩
  have HB3 := Lib.hid (HB2.out.trans (HA2.out.sb (Nat.le_refl _) ho HB2.out.size))
  have HA3 := Lib.hid hA
  have HP3 := Lib.hid (aput_at w3 hA (by omega) (by simp) 5 3 (by decide) 2 rfl ex_put3)
  clear hA ho hf HP2
  go_wp2_with fail
  refine HP3.out.mono ?_
  rintro e w4 ⟨rfl, lv4, hA, ho, hf⟩
  have HB4 := Lib.hid (HB3.out.trans (HA3.out.sb (Nat.le_refl _) ho HB3.out.size))
  have HA4 := Lib.hid hA
  have HT1 := Lib.hid (atake_yes w4 hA (by simp) 4 (by decide))
  unfold itV at HT1
  dsimp only at HT1
  clear hA ho hf HP3
  go_wp2_with fail
  refine HT1.out.mono ?_
  rintro e w5 ⟨rfl, lv5, hA, ho, hf⟩
  have hb5 := newF w5 (.cells #[.int .i64 3, .int .i64 1, .int .i64 2] 31)
  have HB5 := Lib.hid (HB4.out.trans ((HA4.out.sb (Nat.le_refl _) ho HB4.out.size).trans (hb5.mono (Nat.le_trans HB4.out.size ho.size))))
  have HF5 := Lib.hid (fun k hk => hA.hi k hk)
  have x0 : (w5.alloc (.cells #[.int .i64 3, .int .i64 1, .int .i64 2] 31)).cell? ⟨w5.heap.size, 0, none⟩ = some (.int .i64 3) := by rw [World.cell?_alloc_at _ _ _ _ rfl]; rfl
  have x1 : (w5.alloc (.cells #[.int .i64 3, .int .i64 1, .int .i64 2] 31)).cell? ⟨w5.heap.size, 1, none⟩ = some (.int .i64 1) := by rw [World.cell?_alloc_at _ _ _ _ rfl]; rfl
  have x2 : (w5.alloc (.cells #[.int .i64 3, .int .i64 1, .int .i64 2] 31)).cell? ⟨w5.heap.size, 2, none⟩ = some (.int .i64 2) := by rw [World.cell?_alloc_at _ _ _ _ rfl]; rfl
  have HX := Lib.hid (And.intro x0 (And.intro x1 x2))
  have HA5 := Lib.hid (hA.keep hb5)
  have HT2 := Lib.hid (atake_no _ (hA.keep hb5) 4 (fun x M e => by injection e with e _; subst e; decide))
  unfold zIt at HT2
  clear hA ho hf HT1 x0 x1 x2 hb5
  go_wp2_with fail
  generalize w5.alloc (.cells #[.int .i64 3, .int .i64 1, .int .i64 2] 31) = W5 at *
  refine HT2.out.mono ?_
  rintro e w6 ⟨rfl, hb6⟩
  have hb7 := onF hb6 (newF w6 (.cells #[.int .i64 0, .int .i64 0, .int .i64 0] 31))
  have HB7 := Lib.hid (onF HB5.out (hb7.mono (Nat.le_refl _)))
  have HX7 := Lib.hid (And.intro (keepF hb7 HX.out.1) (And.intro (keepF hb7 HX.out.2.1) (keepF hb7 HX.out.2.2)))
  have HA7 := Lib.hid (HA5.out.keep hb7)
  have HT3 := Lib.hid (atake_yes _ (HA5.out.keep hb7) (by simp) 9 (by decide))
  unfold itV at HT3
  dsimp only at HT3
  clear hb6 hb7 HT2
  go_wp2_with fail
  generalize w6.alloc (.cells #[.int .i64 0, .int .i64 0, .int .i64 0] 31) = W7 at *
  refine HT3.out.mono ?_
  rintro e w8 ⟨rfl, lv8, hA, ho, hf⟩
  have hb8 := newF w8 (.cells #[.int .i64 5, .int .i64 0, .int .i64 1] 31)
  have hnf : ¬ FpA a q bm lv5 w5.heap.size := fun c => by have := HF5.out _ c; omega
  have x0 := keepF hb8 (ho.cell HX7.out.1 hnf)
  have x1 := keepF hb8 (ho.cell HX7.out.2.1 hnf)
  have x2 := keepF hb8 (ho.cell HX7.out.2.2 hnf)
  have HBz := Lib.hid (HB7.out.trans ((HA7.out.sb (Nat.le_refl _) ho HB7.out.size).trans (hb8.mono (Nat.le_trans HB7.out.size ho.size))))
  clear hA ho hf HT3 hb8 hnf
  go_wp2_with fail
  go_ret
  exact ⟨rfl, HBz.out⟩

end Go.Proofs.Ytkfcaafjnolhgaa
