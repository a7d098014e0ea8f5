/-
  Package facts: nil facts: what their methods answer; chattellaw07.FactsNil: its walk.
-/
import Derived.Test.YtgenkigeglleiaaFcM
import Derived.Test.YtgenkigeglleiaaFcF
namespace Go.Proofs.Ytgenkigeglleiaa
open Go.RowKit Go.Lib Go.Maps Go.Sort Go.Shelf
set_option linter.unusedVariables false
set_option linter.unusedSimpArgs false
attribute [local go_sem] Oper.semAt_some

theorem lookr_nil (k d : Int) (hk : I64 k) (hd : I64 d) (W : World) : (Instr.lookup 72 (.map none) (.agg #[.int .i64 k, .int .i64 d]) true).run Try.prog W = .ok (.tuple #[.agg #[.int .i64 0, .int .i64 0], .bool false]) W := by
  have := Maps.look_nil (w := W) true plc_law Try.underlying72 (rat_zero W) (plc_key hk hd)
  unfold plv at this
  simpa using this
theorem looki_nil (k d : Int) (hk : I64 k) (hd : I64 d) (W : World) : (Instr.lookup 74 (.map none) (.agg #[.int .i64 k, .int .i64 d]) true).run Try.prog W = .ok (.tuple #[.int .i64 0, .bool false]) W := by
  have := Maps.look_nil (w := W) true plc_law Try.underlying74 (int_zero W) (plc_key hk hd)
  unfold plv at this
  simpa using this
set_option maxHeartbeats 1000000 in
set_option maxRecDepth 100000 in
theorem findr_nil (w : World) (k d : Int) (hk : I64 k) (hd : I64 d) :
    Calls Try.prog 31 #[.map none, .int .i64 k, .int .i64 d] w fun e w' => e = .returned (.tuple #[.agg #[.int .i64 0, .int .i64 0], .bool false]) ∧ Below w.heap.size w w' := by
  have hl := lookr_nil k d hk hd
  clear hk hd
  go_enter Try.func31, Try.ntmps31
  go_wp2_with fail
  exact bodyPost_ret (v := .tuple #[.agg #[.int .i64 0, .int .i64 0], .bool false]) (by simp [results, Try.results31, go_sem]) rfl ⟨rfl, onF (newF _ _) (newF _ _)⟩
set_option maxHeartbeats 1000000 in
set_option maxRecDepth 100000 in
theorem findi_nil (w : World) (k d : Int) (hk : I64 k) (hd : I64 d) :
    Calls Try.prog 32 #[.map none, .int .i64 k, .int .i64 d] w fun e w' => e = .returned (.tuple #[.int .i64 0, .bool false]) ∧ Below w.heap.size w w' := by
  have hl := looki_nil k d hk hd
  clear hk hd
  go_enter Try.func32, Try.ntmps32
  go_wp2_with fail
  exact bodyPost_ret (v := .tuple #[.int .i64 0, .bool false]) (by simp [results, Try.results32, go_sem]) rfl ⟨rfl, Below.refl _ _⟩
set_option maxHeartbeats 1000000 in
set_option maxRecDepth 100000 in
theorem fixing_nil (w : World) (k d : Int) (hk : I64 k) (hd : I64 d) :
    Calls Try.prog 17 #[.pointer none, .int .i64 k, .int .i64 d] w fun e w' => e = .returned (.tuple #[.agg #[.int .i64 0, .int .i64 0], .bool false]) ∧ Below w.heap.size w w' := by
  have hb0 := newF w (.cells #[.int .i64 0, .int .i64 0] 29)
  have HO := Lib.hid (fun w' => ornone_nil w')
  have HFd := Lib.hid (fun w' => findr_nil w' k d hk hd)
  have HB := Lib.hid hb0
  have v0 : (w.alloc (.cells #[.int .i64 0, .int .i64 0] 29)).cell? ⟨w.heap.size, 0, none⟩ = some (.int .i64 0) := by rw [World.cell?_alloc_at _ _ _ _ rfl]; rfl
  have v1 : (w.alloc (.cells #[.int .i64 0, .int .i64 0] 29)).cell? ⟨w.heap.size, 1, none⟩ = some (.int .i64 0) := by rw [World.cell?_alloc_at _ _ _ _ rfl]; rfl
  have vz : ∀ i, (w.alloc (.cells #[.int .i64 0, .int .i64 0] 29)).frozen? ⟨w.heap.size, i, none⟩ = false := fun i => World.frozen?_alloc_at _ _ _ _ rfl
  have HV := Lib.hid (And.intro v0 (And.intro v1 vz))
  have hsz : w.heap.size < (w.alloc (.cells #[.int .i64 0, .int .i64 0] 29)).heap.size := by simp
  have HSz := Lib.hid hsz
  clear v0 v1 vz hsz hb0 hk hd
  go_enter Try.func17, Try.ntmps17
  go_wp2_with fail
  generalize w.alloc (.cells #[.int .i64 0, .int .i64 0] 29) = W1 at *
  refine (HO.out _).mono ?_
  rintro e w1 ⟨B, rfl, m0, m1, hb1⟩
  have HB1 := Lib.hid hb1
  clear hb1 HO
  go_wp2_with fail
  refine (HFd.out _).mono ?_
  rintro e w2 ⟨rfl, hb2⟩
  have hb := onF HB1.out hb2
  have HB2 := Lib.hid (onF HB.out hb)
  have v0 : w2.cell? ⟨w.heap.size, 0, none⟩ = some (.int .i64 0) := (World.cell?_of_block (hb.block _ HSz.out)).trans HV.out.1
  have v1 : w2.cell? ⟨w.heap.size, 1, none⟩ = some (.int .i64 0) := (World.cell?_of_block (hb.block _ HSz.out)).trans HV.out.2.1
  have z0 : w2.frozen? ⟨w.heap.size, 0, none⟩ = false := (World.frozen?_of_block (hb.block _ HSz.out)).trans (HV.out.2.2 0)
  have z1 : w2.frozen? ⟨w.heap.size, 1, none⟩ = false := (World.frozen?_of_block (hb.block _ HSz.out)).trans (HV.out.2.2 1)
  clear hb hb2 HFd m0 m1
  go_wp2_with fail
  exact bodyPost_ret (v := .tuple #[.agg #[.int .i64 0, .int .i64 0], .bool false]) (by simp [results, Try.results17, go_sem, v0, v1]) rfl ⟨rfl, Below.setCell (Below.setCell HB2.out (Nat.le_refl _) _) (Nat.le_refl _) _⟩
set_option maxHeartbeats 1000000 in
set_option maxRecDepth 100000 in
theorem choice_nil (w : World) (k d : Int) (hk : I64 k) (hd : I64 d) :
    Calls Try.prog 18 #[.pointer none, .int .i64 k, .int .i64 d] w fun e w' => e = .returned (.tuple #[.int .i64 0, .bool false]) ∧ Below w.heap.size w w' := by
  have HO := Lib.hid (fun w' => ornone_nil w')
  have HFd := Lib.hid (fun w' => findi_nil w' k d hk hd)
  clear hk hd
  go_enter Try.func18, Try.ntmps18
  go_wp2_with fail
  refine (HO.out _).mono ?_
  rintro e w1 ⟨B, rfl, m0, m1, hb1⟩
  have HB1 := Lib.hid hb1
  clear hb1 HO
  go_wp2_with fail
  refine (HFd.out _).mono ?_
  rintro e w2 ⟨rfl, hb2⟩
  have HB2 := Lib.hid (onF HB1.out hb2)
  clear hb2 HFd m0 m1
  go_wp2_with fail
  exact bodyPost_ret (v := .tuple #[.int .i64 0, .bool false]) (by simp [results, Try.results18, go_sem]) rfl ⟨rfl, HB2.out⟩
set_option maxRecDepth 100000 in
theorem fix_nil (k d x y : Int) (w : World) : Calls Try.prog 26 #[.pointer none, .agg #[.int .i64 k, .int .i64 d, .int .i64 x, .int .i64 y]] w fun e w' => e = .returned (.int .i64 2) ∧ Below w.heap.size w w' := by
  go_enter Try.func26, Try.ntmps26
  go_wp2_with fail
  go_ret
  exact ⟨rfl, newF _ _⟩
set_option maxRecDepth 100000 in
theorem choose_nil (k d p : Int) (w : World) : Calls Try.prog 27 #[.pointer none, .agg #[.int .i64 k, .int .i64 d, .int .i64 p]] w fun e w' => e = .returned (.int .i64 2) ∧ Below w.heap.size w w' := by
  go_enter Try.func27, Try.ntmps27
  go_wp2_with fail
  go_ret
  exact ⟨rfl, newF _ _⟩
set_option maxRecDepth 100000 in
theorem copy_nil (w : World) : Calls Try.prog 23 #[.pointer none] w fun e w' => e = .returned (.pointer none) ∧ w = w' := by
  go_enter Try.func23, Try.ntmps23
  go_wp2_with fail
  go_ret
  exact ⟨rfl, rfl⟩
set_option maxHeartbeats 1000000 in
set_option maxRecDepth 100000 in
theorem tell_nil (t : Tol) (w : World) : Calls Try.prog 11 #[.pointer none, tolV t] w fun e w' => e = .returned (.int .i64 2) ∧ Below w.heap.size w w' := by
  obtain ⟨c, k, d, x, y, p⟩ := t
  unfold tolV
  dsimp only
  have HB := Lib.hid (newF w (.cells #[.bool c, .int .i64 k, .int .i64 d, .int .i64 x, .int .i64 y, .int .i64 p] 31))
  have HC := Lib.hid (fun w' => choose_nil k d p w')
  have HF := Lib.hid (fun w' => fix_nil k d x y w')
  cases c with
  | true =>
    go_enter Try.func11, Try.ntmps11
    go_wp2_with fail
    refine (HC.out _).mono ?_
    rintro e w2 ⟨rfl, hb⟩
    have HB2 := Lib.hid (onF HB.out hb)
    clear hb
    go_wp2_with fail
    go_ret
    exact ⟨rfl, HB2.out⟩
  | false =>
    go_enter Try.func11, Try.ntmps11
    go_wp2_with fail
    refine (HF.out _).mono ?_
    rintro e w2 ⟨rfl, hb⟩
    have HB2 := Lib.hid (onF HB.out hb)
    clear hb
    go_wp2_with fail
    go_ret
    exact ⟨rfl, HB2.out⟩

set_option maxRecDepth 100000 in
set_option maxHeartbeats 4000000 in
theorem first_nil (w : World) (k f u p : Int) :
    Calls Try.prog 19 #[.pointer none, .int .i64 k, .int .i64 f, .int .i64 u, .int .i64 p] w fun e w' => e = .returned (.tuple #[.int .i64 0, .bool false]) ∧ Below w.heap.size w w' := by
  have HO := Lib.hid (fun w' => ornone_nil w')
  have HMk := Lib.hid (fun w' => all_make_i none w')
  obtain ⟨n, hn⟩ : ∃ n : Nat, 4 ≤ n := ⟨4, by omega⟩
  have h1 : 1 ≤ n := by omega
  refine callsIn_wide.1 (callsIn_of_wp_marks (n := n) Try.func19 rfl trivial ?_ rfl)
  simp only [Try.ntmps19, List.size_toArray, List.length_cons, List.length_nil, Nat.reduceAdd, Nat.reduceSub, Array.replicate_succ, Array.replicate_zero, List.push_toArray, List.append_toArray, List.nil_append, List.cons_append]
  gi_wp2
  obtain ⟨hbx, hb6, hz6⟩ := boxF_new w k f u p
  obtain ⟨W6, hW6⟩ : ∃ W6, W6 = boxW w k f u p := ⟨_, rfl⟩
  have e6 := hW6
  unfold boxW at e6
  rw [← e6]
  rw [← hW6] at hbx hb6 hz6
  clear e6 hW6
  refine wideF (HO.out _) ?_
  rintro e w1 ⟨B, rfl, m0, m1, hb1⟩
  have hx1 : BoxF w1 w.heap.size k f u p 0 false := ⟨keepF hb1 hbx.c0, keepF hb1 hbx.c1, keepF hb1 hbx.c2, keepF hb1 hbx.c3, keepF hb1 hbx.c4, keepF hb1 hbx.c5, (hb1.frozen (p := ⟨w.heap.size + 1 + 1 + 1 + 1, 0, none⟩) (by show w.heap.size + 1 + 1 + 1 + 1 < W6.heap.size; omega)).trans hbx.f4, (hb1.frozen (p := ⟨w.heap.size + 1 + 1 + 1 + 1 + 1, 0, none⟩) (by show w.heap.size + 1 + 1 + 1 + 1 + 1 < W6.heap.size; omega)).trans hbx.f5⟩
  have hb7 := onF hb6 hb1
  have hz7 : w.heap.size + 1 + 1 + 1 + 1 + 1 + 1 ≤ w1.heap.size := by have := hb1.size; omega
  clear hbx hb6 hz6 hb1 HO
  gi_wp2
  refine wideF (HMk.out _) ?_
  rintro e w2 ⟨rfl, rfl⟩
  gi_wp2
  have hmb : (w1.alloc (.cells #[.map none] 74)).cell? ⟨w1.heap.size, 0, none⟩ = some (.map none) := by rw [World.cell?_alloc_at _ _ _ _ rfl]; rfl
  have hst := all_nil_i (n - 1) (fun (x : Empty) => #[undef]) w1.heap.size _ hmb
  have hb8 := onF hb7 (newF w1 (.cells #[.map none] 74))
  have hx7 : BoxF (w1.alloc (.cells #[.map none] 74)) w.heap.size k f u p 0 false := hx1.kept (World.grownBy_alloc _ _ none) (fun r e => by cases e)
  have hz8 : w.heap.size ≤ (w1.alloc (.cells #[.map none] 74)).heap.size := hb8.size
  clear HMk hx1 m0 m1 hmb
  generalize w1.alloc (.cells #[.map none] 74) = W7 at *
  refine wpIn_rangeFunc_ownH rfl h1 (gf := 44) (lb := #[.pointer (some ⟨w1.heap.size, 0, none⟩)]) rfl trivial (enters_of Try.func44 (by kernel_rfl) rfl)
    hst walksK_t (fun W l o o' h1 h2 h3 h4 => walksK_b (w := W7) W l o o' h1 h2 h3 h4) (Below.refl _ _) (fun x => x.elim)
    (fun _ W => BoxF W w.heap.size k f u p 0 false ∧ Below w.heap.size w W)
    (fun _ _ _ => False)
    (fun s A C row hs hg hr => ⟨hs.1.kept hg (fun r e => (hr r e).2), hs.2.grown hg hs.2.size (fun j hj => by have := (hr j hj).1; omega)⟩)
    (fun _ _ _ _ _ hs _ _ => hs)
    ⟨hx7, hb8⟩
    (fun _ _ _ => False)
    (fun _ _ _ _ _ _ hs _ _ => hs)
    ?assign ?body ?done ?stop
  case assign =>
    intro l pre x
    exact x.elim
  case body =>
    intro l pre x a' W _ _ _ hs _
    exact hs.elim
  case done =>
    rintro D ys W hD rfl ⟨h2, h4⟩ hK
    have c4 := h2.c4
    have c5 := h2.c5
    gi_wp2
    gi_region
    gi_wp2
    refine ⟨by simp, .inl ⟨_, _, rfl, run_takeDeferred hK, ?_⟩⟩
    exact ⟨_, results_tmp2 rfl _ _ _, rfl, (Below.drew h4).trans (belowK_b (w := w) (Nat.le_refl _) W.drew D _ _ (by omega) hK rfl rfl)⟩
  case stop =>
    rintro D c pre W _ _ h _
    exact h.elim

set_option maxRecDepth 100000 in
set_option maxHeartbeats 4000000 in
theorem fnil_walk (w : World) (t : Tol) (ht : t.Ok) : Calls Try.prog 7 #[tolV t] w fun e w' => e = .returned (.bool true) ∧ Below w.heap.size w w' := by
  have HTl := Lib.hid (fun w' => tell_nil t w')
  obtain ⟨c, k, d, x, y, p⟩ := t
  obtain ⟨hk, hd, hx, hy, hp⟩ := ht
  unfold tolV at *
  dsimp only at *
  have hb0 := newF w (.cells #[.bool c, .int .i64 k, .int .i64 d, .int .i64 x, .int .i64 y, .int .i64 p] 31)
  have hc : TolC (w.alloc (.cells #[.bool c, .int .i64 k, .int .i64 d, .int .i64 x, .int .i64 y, .int .i64 p] 31)) w.heap.size 0 ⟨c, k, d, x, y, p⟩ := by
    refine ⟨?_, ?_, ?_, ?_, ?_, ?_⟩
    all_goals rw [World.cell?_alloc_at _ _ _ _ rfl]; rfl
  have HB0 := Lib.hid hb0
  have HC0 := Lib.hid hc
  have HFx := Lib.hid (fun w' => fixing_nil w' k d hk hd)
  have HCh := Lib.hid (fun w' => choice_nil w' k d hk hd)
  have HFi := Lib.hid (fun w' => first_nil w' k d d p)
  have HMr := Lib.hid (fun w' => meth_r w')
  have HMi := Lib.hid (fun w' => meth_i w')
  have HLr := Lib.hid (fun w' => listed_r w')
  have HLi := Lib.hid (fun w' => listed_i w')
  have HCp := Lib.hid (fun w' => copy_nil w')
  have HAw := Lib.hid (fun w' : World => awake7_any w')
  clear hb0 hc hk hd hx hy hp
  go_enter Try.func7, Try.ntmps7
  go_wp2_with fail
  generalize w.alloc (.cells #[.bool c, .int .i64 k, .int .i64 d, .int .i64 x, .int .i64 y, .int .i64 p] 31) = W0 at *
  refine (HFx.out _).mono ?_
  rintro e w1 ⟨rfl, hb⟩
  have HB1 := Lib.hid (onF HB0.out hb)
  have HC1 := Lib.hid (HC0.out.keep hb)
  clear hb HFx HB0 HC0
  have v0 : (w1.alloc (.cells #[.int .i64 0, .int .i64 0] 29)).cell? ⟨w1.heap.size, 0, none⟩ = some (.int .i64 0) := by rw [World.cell?_alloc_at _ _ _ _ rfl]; rfl
  have v1 : (w1.alloc (.cells #[.int .i64 0, .int .i64 0] 29)).cell? ⟨w1.heap.size, 1, none⟩ = some (.int .i64 0) := by rw [World.cell?_alloc_at _ _ _ _ rfl]; rfl
  have HV := Lib.hid (And.intro v0 v1)
  have HC2 := Lib.hid (HC1.out.keep (newF w1 (.cells #[.int .i64 0, .int .i64 0] 29)))
  have HB2 := Lib.hid (onF HB1.out (newF w1 (.cells #[.int .i64 0, .int .i64 0] 29)))
  clear v0 v1
  go_upto_region 3 with fail
  generalize w1.alloc (.cells #[.int .i64 0, .int .i64 0] 29) = W2 at *
  obtain ⟨c0, c1, c2, c3, c4, c5⟩ := HC2.out
  go_wp2_with fail
  refine (HCh.out _).mono ?_
  rintro e w3 ⟨rfl, hb⟩
  have HB3 := Lib.hid (onF HB2.out hb)
  have HC3 := Lib.hid (HC2.out.keep hb)
  have HV3 := Lib.hid (And.intro (keepF hb HV.out.1) (keepF hb HV.out.2))
  clear hb HCh HB2 HC2 HV HB1 HC1 c0 c1 c2 c3 c4 c5
  obtain ⟨c0, c1, c2, c3, c4, c5⟩ := HC3.out
  go_wp2_with fail
  refine (HFi.out _).mono ?_
  rintro e w4 ⟨rfl, hb⟩
  have HB4 := Lib.hid (onF HB3.out hb)
  have HC4 := Lib.hid (HC3.out.keep hb)
  have HV4 := Lib.hid (And.intro (keepF hb HV3.out.1) (keepF hb HV3.out.2))
  clear hb HFi HB3 HC3 HV3 c0 c1 c2 c3 c4 c5
  obtain ⟨c0, c1, c2, c3, c4, c5⟩ := HC4.out
  go_wp2_with fail
  refine (HTl.out _).mono ?_
  rintro e w5 ⟨rfl, hb⟩
  have HB5 := Lib.hid (onF HB4.out hb)
  obtain ⟨z0, z1⟩ := And.intro (keepF hb HV4.out.1) (keepF hb HV4.out.2)
  clear hb HTl HB4 HC4 HV4 c0 c1 c2 c3 c4 c5
  have hn1 := fnil_ne_r
  have hn2 := fnil_ne_i
  go_wp2_with fail
  refine (HMr.out _).mono ?_
  rintro e w6 ⟨Bs, Bg, rfl, hcs, hb⟩
  have HB6 := Lib.hid (onF HB5.out hb)
  clear hb hcs HMr HB5 z0 z1
  go_wp2_with fail
  refine (HMi.out _).mono ?_
  rintro e w7 ⟨Bs', Bg', rfl, hcs, hb⟩
  have HB7 := Lib.hid (onF HB6.out hb)
  clear hb hcs HMi HB6
  go_wp2_with fail
  refine (HLr.out _).mono ?_
  rintro e w8 ⟨rfl, hb⟩
  have HB8 := Lib.hid (onF HB7.out hb)
  clear hb HLr HB7
  go_wp2_with fail
  refine (HLi.out _).mono ?_
  rintro e w9 ⟨rfl, hb⟩
  have HB9 := Lib.hid (onF HB8.out hb)
  clear hb HLi HB8
  go_wp2_with fail
  refine (HCp.out _).mono ?_
  rintro e w10 ⟨rfl, rfl⟩
  clear HCp
  go_wp2_with fail
  refine (HAw.out _).mono ?_
  rintro e w11 ⟨rfl, hb⟩
  have HB11 := Lib.hid (onF HB9.out hb)
  clear hb
  go_wp2_with fail
  go_ret
  exact ⟨rfl, HB11.out⟩

end Go.Proofs.Ytgenkigeglleiaa
