/-
  Package facts: First: what it answers.
-/
import Derived.Test.YtgeneoamngfomaaGreatDoorFcE
namespace Go.Proofs.YtgeneoamngfomaaGreatDoor
open Go.RowKit Go.Lib Go.Maps Go.Sort Go.Shelf
set_option linter.unusedVariables false
set_option linter.unusedSimpArgs false
attribute [local go_sem] Oper.semAt_some

theorem wideF {m : Nat} {P : Program} {f : FuncId} {args : Array Value} {w : World} {R R' : Ending → World → Prop} (h : Calls P f args w R) (hm : ∀ e w', R e w' → R' e w') : Fence.wide.fn f ∧ CallsIn Fence.wide m P f args w R' :=
  ⟨trivial, (callsIn_wide.2 h).mono hm⟩
/-- The variables of First, boxed. -/
structure BoxF (W : World) (z : Nat) (k f u p d : Int) (is : Bool) : Prop where
  c0 : W.cell? ⟨z, 0, none⟩ = some (.int .i64 k)
  c1 : W.cell? ⟨z + 1, 0, none⟩ = some (.int .i64 f)
  c2 : W.cell? ⟨z + 1 + 1, 0, none⟩ = some (.int .i64 u)
  c3 : W.cell? ⟨z + 1 + 1 + 1, 0, none⟩ = some (.int .i64 p)
  c4 : W.cell? ⟨z + 1 + 1 + 1 + 1, 0, none⟩ = some (.int .i64 d)
  c5 : W.cell? ⟨z + 1 + 1 + 1 + 1 + 1, 0, none⟩ = some (.bool is)
  f4 : W.frozen? ⟨z + 1 + 1 + 1 + 1, 0, none⟩ = false
  f5 : W.frozen? ⟨z + 1 + 1 + 1 + 1 + 1, 0, none⟩ = false
noncomputable def boxW (w : World) (k f u p : Int) : World := (((((w.alloc (.cells #[.int .i64 k] 3)).alloc (.cells #[.int .i64 f] 3)).alloc (.cells #[.int .i64 u] 3)).alloc (.cells #[.int .i64 p] 3)).alloc (.cells #[.int .i64 0] 3)).alloc (.cells #[.bool false] 4)
theorem boxF_new (w : World) (k f u p : Int) : BoxF (boxW w k f u p) w.heap.size k f u p 0 false ∧ Below w.heap.size w (boxW w k f u p) ∧ (boxW w k f u p).heap.size = w.heap.size + 1 + 1 + 1 + 1 + 1 + 1 := by
  have b0 := (((((Boxed.new w 3 (.int .i64 k)).alloc (.cells #[.int .i64 f] 3)).alloc (.cells #[.int .i64 u] 3)).alloc (.cells #[.int .i64 p] 3)).alloc (.cells #[.int .i64 0] 3)).alloc (.cells #[.bool false] 4)
  have b1 := ((((Boxed.new (w.alloc (.cells #[.int .i64 k] 3)) 3 (.int .i64 f)).alloc (.cells #[.int .i64 u] 3)).alloc (.cells #[.int .i64 p] 3)).alloc (.cells #[.int .i64 0] 3)).alloc (.cells #[.bool false] 4)
  have b2 := (((Boxed.new ((w.alloc (.cells #[.int .i64 k] 3)).alloc (.cells #[.int .i64 f] 3)) 3 (.int .i64 u)).alloc (.cells #[.int .i64 p] 3)).alloc (.cells #[.int .i64 0] 3)).alloc (.cells #[.bool false] 4)
  have b3 := ((Boxed.new (((w.alloc (.cells #[.int .i64 k] 3)).alloc (.cells #[.int .i64 f] 3)).alloc (.cells #[.int .i64 u] 3)) 3 (.int .i64 p)).alloc (.cells #[.int .i64 0] 3)).alloc (.cells #[.bool false] 4)
  have b4 := (Boxed.new ((((w.alloc (.cells #[.int .i64 k] 3)).alloc (.cells #[.int .i64 f] 3)).alloc (.cells #[.int .i64 u] 3)).alloc (.cells #[.int .i64 p] 3)) 3 (.int .i64 0)).alloc (.cells #[.bool false] 4)
  have b5 := Boxed.new (((((w.alloc (.cells #[.int .i64 k] 3)).alloc (.cells #[.int .i64 f] 3)).alloc (.cells #[.int .i64 u] 3)).alloc (.cells #[.int .i64 p] 3)).alloc (.cells #[.int .i64 0] 3)) 4 (.bool false)
  simp only [World.size_alloc] at b1 b2 b3 b4 b5
  refine ⟨⟨b0.cell, b1.cell, b2.cell, b3.cell, b4.cell, b5.cell, b4.frozen, b5.frozen⟩, ?_, ?_⟩
  · exact onF (onF (onF (onF (onF (newF _ _) (newF _ _)) (newF _ _)) (newF _ _)) (newF _ _)) (newF _ _)
  · unfold boxW
    simp only [World.size_alloc]
theorem BoxF.kept {W W' : World} {z : Nat} {k f u p d : Int} {is : Bool} (h : BoxF W z k f u p d is) {row : Option Nat} (hg : W.grownBy W' row) (hr : ∀ r, row = some r → ∃ o : Obj, W.heap[r]? = some o ∧ o.isCells = false) : BoxF W' z k f u p d is :=
  ⟨cell_kept h.c0 hg hr, cell_kept h.c1 hg hr, cell_kept h.c2 hg hr, cell_kept h.c3 hg hr, cell_kept h.c4 hg hr, cell_kept h.c5 hg hr, (frozen_kept h.c4 hg hr).trans h.f4, (frozen_kept h.c5 hg hr).trans h.f5⟩
theorem cfarF {w : World} {b b' o o' : Nat} {v : Value} (h : b ≠ b' ∨ o ≠ o') : (w.setCell ⟨b, o, none⟩ v).cell? ⟨b', o', none⟩ = w.cell? ⟨b', o', none⟩ := by
  apply World.cell?_setCell_other
  intro e
  injection e with e1 e2
  rcases h with h | h
  · exact h e1
  · exact h e2
theorem chereF {w : World} {b o : Nat} {v u : Value} (h : w.cell? ⟨b, o, none⟩ = some u) : (w.setCell ⟨b, o, none⟩ v).cell? ⟨b, o, none⟩ = some v := by
  apply World.cell?_setCell_same
  exact h
/-- First's loop: what holds when some have come. -/
def FstI (w : World) (k f u p : Int) (pre : List Ent) (W : World) : Prop := ∃ d is, BoxF W w.heap.size k f u p d is ∧ FstA pre k f u p d is ∧ Below w.heap.size w W
theorem BoxF.put {W : World} {z : Nat} {k f u p d : Int} {is : Bool} (h : BoxF W z k f u p d is) (d' : Int) : BoxF ((W.setCell ⟨z + 1 + 1 + 1 + 1, 0, none⟩ (.int .i64 d')).setCell ⟨z + 1 + 1 + 1 + 1 + 1, 0, none⟩ (.bool true)) z k f u p d' true := by
  have e5 := (cfarF (w := W) (b := z + 1 + 1 + 1 + 1) (b' := z + 1 + 1 + 1 + 1 + 1) (o := 0) (o' := 0) (v := .int .i64 d') (.inl (by omega))).trans h.c5
  refine ⟨?_, ?_, ?_, ?_, ?_, chereF e5, ?_, ?_⟩
  · rw [cfarF (.inl (by omega)), cfarF (.inl (by omega))]; exact h.c0
  · rw [cfarF (.inl (by omega)), cfarF (.inl (by omega))]; exact h.c1
  · rw [cfarF (.inl (by omega)), cfarF (.inl (by omega))]; exact h.c2
  · rw [cfarF (.inl (by omega)), cfarF (.inl (by omega))]; exact h.c3
  · rw [cfarF (.inl (by omega))]; exact chereF h.c4
  · rw [World.frozen?_setCell, World.frozen?_setCell]; exact h.f4
  · rw [World.frozen?_setCell, World.frozen?_setCell]; exact h.f5
set_option maxRecDepth 100000 in
set_option maxHeartbeats 4000000 in
theorem ffirst_any (w : World) {B bf bc nn : Nat} {Df Dc : DataW Unit} (h : FacM w B bf bc nn Df Dc) (k f u p : Int) :
    Calls Tryz.prog 86 #[.pointer (some ⟨B, 0, none⟩), .int .i64 k, .int .i64 f, .int .i64 u, .int .i64 p] w fun e w' => ∃ ps d is, e = .returned (.tuple #[.int .i64 d, .bool is]) ∧ AllOf Dc ps ∧ FstA ps k f u p d is ∧ Below w.heap.size w w' := by
  have HO := Lib.hid (fun a w' => ornone_any a w')
  have HMk := Lib.hid (fun (b : Option Nat) w' => all_make (.map b) w' ⟨b, rfl⟩)
  obtain ⟨n, hn⟩ : ∃ n : Nat, 4 ≤ n := ⟨4, by omega⟩
  have h1 : 1 ≤ n := by omega
  refine callsIn_wide.1 (callsIn_of_wp_marks (n := n) Tryz.func86 rfl trivial ?_ rfl)
  simp only [Tryz.ntmps86, List.size_toArray, List.length_cons, List.length_nil, Nat.reduceAdd, Nat.reduceSub, Array.replicate_succ, Array.replicate_zero, List.push_toArray, List.append_toArray, List.nil_append, List.cons_append]
  gi_wp2
  refine wideF (HO.out _ _) ?_
  rintro e w1 ⟨rfl, rfl⟩
  obtain ⟨hbx, hb6, hz6⟩ := boxF_new w k f u p
  obtain ⟨W6, hW6⟩ : ∃ W6, W6 = boxW w k f u p := ⟨_, rfl⟩
  have e6 := hW6
  unfold boxW at e6
  rw [← e6]
  rw [← hW6] at hbx hb6 hz6
  clear e6 hW6
  have c1 := (h.keep hb6).c1
  have hown := (h.keep hb6).hc
  have HX6 := Lib.hid hbx
  have HB6 := Lib.hid hb6
  have HZ6 := Lib.hid hz6
  clear hbx hb6 h
  gi_wp2
  refine wideF (HMk.out _ _) ?_
  rintro e w2 ⟨rfl, rfl⟩
  gi_wp2
  have hmb : (W6.alloc (.cells #[.map (some bc)] 117)).cell? ⟨w.heap.size + 1 + 1 + 1 + 1 + 1 + 1, 0, none⟩ = some (.map (some bc)) := by rw [World.cell?_alloc_at _ _ _ _ hz6.symm]; rfl
  have hst := all_stops (n - 1) (by omega) (w.heap.size + 1 + 1 + 1 + 1 + 1 + 1) bc nn Dc (W6.alloc (.cells #[.map (some bc)] 117)) hmb (hown.alloc _)
  have hzb : (W6.alloc (.cells #[.map (some bc)] 117)).heap.size = w.heap.size + 7 := by simp [hz6]
  have hb7 := onF HB6.out (newF W6 (.cells #[.map (some bc)] 117))
  have hx7 : BoxF (W6.alloc (.cells #[.map (some bc)] 117)) w.heap.size k f u p 0 false := HX6.out.kept (World.grownBy_alloc _ _ none) (fun r e => by cases e)
  clear c1 hown HO HMk HX6 HB6 hz6
  generalize W6.alloc (.cells #[.map (some bc)] 117) = W7 at *
  refine wpIn_rangeFunc_ownH rfl h1 (gf := 153) (lb := #[.pointer (some ⟨w.heap.size + 1 + 1 + 1 + 1 + 1 + 1, 0, none⟩)]) rfl trivial (enters_of Tryz.func153 (by kernel_rfl) rfl)
    hst walksK_t (fun W l o o' h1 h2 h3 h4 => walksK_b (w := W7) W l o o' h1 h2 h3 h4) (Below.refl _ _) (fun _ => rfl)
    (FstI w k f u p)
    (fun _ _ _ => False)
    (fun s A C row hs hg hr => by
      obtain ⟨d, is, h2, h3, h4⟩ := hs
      exact ⟨d, is, h2.kept hg (fun r e => (hr r e).2), h3, h4.grown hg h4.size (fun j hj => by have := (hr j hj).1; omega)⟩)
    (fun _ _ _ _ _ hs _ _ => hs)
    ⟨0, false, hx7, FstA.start k f u p, hb7⟩
    (fun x a' W => ∃ X, a' = { tmps := #[.pointer (some ⟨B, 0, none⟩), .int .i64 k, .int .i64 f, .int .i64 u, .int .i64 p, undef, .pointer (some ⟨w.heap.size, 0, none⟩), .pointer (some ⟨w.heap.size + 1, 0, none⟩), .pointer (some ⟨w.heap.size + 1 + 1, 0, none⟩), .pointer (some ⟨w.heap.size + 1 + 1 + 1, 0, none⟩), .int .i64 0, .bool false, .pointer (some ⟨w.heap.size + 1 + 1 + 1 + 1, 0, none⟩), .pointer (some ⟨w.heap.size + 1 + 1 + 1 + 1 + 1, 0, none⟩), .pointer (some ⟨X, 0, none⟩), undef, .pointer (some ⟨B, 0, none⟩), .pointer (some ⟨B, 0, none⟩), .pointer (some ⟨B, 0, none⟩), .pointer (some ⟨B, 1, none⟩), .map (some bc), .func (.func 153) #[] #[.pointer (some ⟨w.heap.size + 1 + 1 + 1 + 1 + 1 + 1, 0, none⟩)], entV x, undef, undef, undef, undef, undef, undef, undef, undef, undef, undef, undef, undef, undef, undef, undef, undef, undef, undef, undef, undef, undef, undef, undef, undef, undef, undef, undef, undef, undef, undef, undef, undef, undef, undef, undef, undef, undef, undef, undef, undef, undef, undef], defers := [] } ∧ W.cell? ⟨X, 0, none⟩ = some (.int .i64 x.1) ∧ W.cell? ⟨X, 1, none⟩ = some (.int .i64 x.2.1) ∧ W.cell? ⟨X, 2, none⟩ = some (.int .i64 x.2.2))
    (fun x a' s A C row hs hg hr => by
      obtain ⟨X, e, h2, h3, h4⟩ := hs
      exact ⟨X, e, cell_kept h2 hg (fun r e => (hr r e).2), cell_kept h3 hg (fun r e => (hr r e).2), cell_kept h4 hg (fun r e => (hr r e).2)⟩)
    ?assign ?body ?done ?stop
  case assign =>
    rintro l pre x W K ⟨d, is, h2, h3, h4⟩ hK
    dsimp only [entV]
    gi_wp2
    refine hK _ _ (KeepsFrom.of_grownBy (World.grownBy_alloc W _ none) (fun j e => by cases e)) (KeepsWalks.alloc _ _) ⟨d, is, h2.kept (World.grownBy_alloc W _ none) (fun r e => by cases e), h3, onF h4 (newF _ _)⟩ ⟨W.heap.size, rfl, ?_, ?_, ?_⟩
    · rw [World.cell?_alloc_at _ _ _ _ rfl]; rfl
    · rw [World.cell?_alloc_at _ _ _ _ rfl]; rfl
    · rw [World.cell?_alloc_at _ _ _ _ rfl]; rfl
  case body =>
    rintro l pre x a' W hl hr ⟨d, is, h2, h3, h4⟩ ⟨X, rfl, x0, x1, x2⟩ hlt
    have H2 := Lib.hid h2
    have H3 := Lib.hid h3
    have H4 := Lib.hid h4
    obtain ⟨c0, c1, c2, c3, c4, c5, f4, f5⟩ := h2
    obtain ⟨xk, xd, xc⟩ := x
    dsimp only [entV] at x0 x1 x2 ⊢
    clear h3 h4 hlt hr hst hmb hx7 hb7 hzb HZ6 hl
    by_cases q1 : xk = k
    · subst q1
      by_cases q2 : xc = p
      · subst q2
        by_cases q3 : f ≤ xd
        · by_cases q4 : xd ≤ u
          · cases is with
            | false =>
              gi_wp2
              exact ⟨((KeepsOthers.setCell _ _ _).trans (KeepsOthers.setCell _ _ _)).from _, (KeepsWalks.setCell _ _ _).trans (KeepsWalks.setCell _ _ _), ⟨xd, true, H2.out.put xd, H3.out.turn (xk, xd, xc) ⟨rfl, rfl, q3, q4⟩ (.inl rfl), Below.setCell (Below.setCell H4.out (by dsimp only; omega) _) (by dsimp only; omega) _⟩⟩
            | true =>
              by_cases q5 : xd < d
              · gi_wp2
                exact ⟨((KeepsOthers.setCell _ _ _).trans (KeepsOthers.setCell _ _ _)).from _, (KeepsWalks.setCell _ _ _).trans (KeepsWalks.setCell _ _ _), ⟨xd, true, H2.out.put xd, H3.out.turn (xk, xd, xc) ⟨rfl, rfl, q3, q4⟩ (.inr q5), Below.setCell (Below.setCell H4.out (by dsimp only; omega) _) (by dsimp only; omega) _⟩⟩
              · gi_wp2
                exact ⟨KeepsFrom.refl _ _, KeepsWalks.refl _, ⟨d, true, H2.out, H3.out.same _ (.inr ⟨rfl, by show d ≤ xd; omega⟩), H4.out⟩⟩
          · gi_wp2
            exact ⟨KeepsFrom.refl _ _, KeepsWalks.refl _, ⟨d, is, H2.out, H3.out.same _ (.inl (fun h => by have := h.2.2.2; dsimp only at this; omega)), H4.out⟩⟩
        · gi_wp2
          exact ⟨KeepsFrom.refl _ _, KeepsWalks.refl _, ⟨d, is, H2.out, H3.out.same _ (.inl (fun h => by have := h.2.2.1; dsimp only at this; omega)), H4.out⟩⟩
      · have q2' : (xc == p) = false := beq_false_of_ne q2
        gi_wp2
        exact ⟨KeepsFrom.refl _ _, KeepsWalks.refl _, ⟨d, is, H2.out, H3.out.same _ (.inl (fun h => q2 h.2.1)), H4.out⟩⟩
    · have q1' : (xk == k) = false := beq_false_of_ne q1
      gi_wp2
      exact ⟨KeepsFrom.refl _ _, KeepsWalks.refl _, ⟨d, is, H2.out, H3.out.same _ (.inl (fun h => q1 h.1)), H4.out⟩⟩
  case done =>
    rintro D ys W hD hall ⟨d, is, h2, h3, h4⟩ hK
    have c4 := h2.c4
    have c5 := h2.c5
    gi_wp2
    gi_region
    gi_wp2
    refine ⟨by simp, .inl ⟨_, _, rfl, run_takeDeferred hK, ?_⟩⟩
    exact ⟨_, results_tmp2 rfl _ _ _, ys, d, is, rfl, hall, h3, (Below.drew h4).trans (belowK_b (w := w) (Nat.le_refl _) W.drew D _ _ (by omega) hK rfl rfl)⟩
  case stop =>
    rintro D c pre W _ _ h _
    exact h.elim

end Go.Proofs.YtgeneoamngfomaaGreatDoor
