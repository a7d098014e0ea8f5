/-
  Package cash: Totals: what it answers.
-/
import Derived.Test.YtadjhofomabbmaaDoorTotA
import Derived.Deep.RegionLaw
import Derived.Deep.AppendLies
namespace Go.Proofs.YtadjhofomabbmaaDoor
open Go.RowKit Go.Lib
set_option linter.unusedVariables false
set_option linter.unusedSimpArgs false

/-- Two slices lie apart. -/
def ApF (v u : Value) : Prop := ∀ k, v.ownBlock = some k → u.ownBlock ≠ some k
theorem Own.keptF {w w' : World} {base : Nat} {v : Value} {l : List Int} (h : YtadjhofomabbmaaDoor.Own w base v l) {row : Option Nat} (hg : w.grownBy w' row) (hne : v.ownBlock = none ∨ v.ownBlock ≠ row) : YtadjhofomabbmaaDoor.Own w' base v l := World.ownsRow.kept h hg hne
theorem Own.setF {w : World} {base : Nat} {v : Value} {l : List Int} (h : YtadjhofomabbmaaDoor.Own w base v l) {G c : Nat} (hG : G < base) (u : Value) : YtadjhofomabbmaaDoor.Own (w.setCell ⟨G, c, none⟩ u) base v l := by
  obtain ⟨h1, h2⟩ := h
  refine ⟨h1, ?_⟩
  rcases h2 with h2 | ⟨g, cap, cur, rfl, hb, hc, h3⟩
  · exact Or.inl h2
  · refine Or.inr ⟨g, cap, cur, rfl, hb, ?_, h3⟩
    rw [Below.heap_setCell _ _ _ _ (by show g ≠ G; omega)]
    exact hc
theorem Own.ltF {w : World} {base : Nat} {v : Value} {l : List Int} (h : YtadjhofomabbmaaDoor.Own w base v l) : ∀ k, v.ownBlock = some k → base ≤ k ∧ k < w.heap.size := fun k hk => World.ownsRow.lt h k hk
/-- The amounts that were gathered: a slice of the call's own for each currency. -/
structure AmI (W : World) (G : Nat) (wx : World) (t : List Fl) (k : Nat) (vs : Nat → Value) : Prop where
  bel : Below G W wx
  gt : G < wx.heap.size
  cel : ∀ c, c < 8 → wx.cell? ⟨G, c, none⟩ = some (vs c) ∧ wx.frozen? ⟨G, c, none⟩ = false
  own : ∀ c, c < 8 → YtadjhofomabbmaaDoor.Own wx (G + 1) (vs c) (amC t c k)
  apt : ∀ c c', c < 8 → c' < 8 → c ≠ c' → ApF (vs c) (vs c')
theorem AmI.keep {W wx wy : World} {G : Nat} {t : List Fl} {k : Nat} {vs : Nat → Value} (h : AmI W G wx t k vs) (hb : Below wx.heap.size wx wy) : AmI W G wy t k vs :=
  ⟨h.bel.trans (hb.mono (Nat.le_of_lt h.gt)), Nat.lt_of_lt_of_le h.gt hb.size,
   fun c hc => ⟨(hb.cell (p := ⟨G, c, none⟩) h.gt).trans (h.cel c hc).1, (hb.frozen (p := ⟨G, c, none⟩) h.gt).trans (h.cel c hc).2⟩,
   fun c hc => (h.own c hc).grown hb, h.apt⟩
theorem AmI.push {W wx w' : World} {G : Nat} {t : List Fl} {k : Nat} {vs : Nat → Value} (h : AmI W G wx t k vs) {c : Nat} (hc : c < 8) {x : Int} (hcur : (t.getD k default).cur = (c : Int)) (hamt : (t.getD k default).amt = x)
    {v' : Value} (hown : YtadjhofomabbmaaDoor.Own w' (G + 1) v' (amC t c k ++ [x])) (hg : wx.grownBy w' (vs c).ownBlock) (hat : ∀ g, v'.ownBlock = some g → (vs c).ownBlock = some g ∨ wx.heap.size ≤ g) :
    AmI W G (w'.setCell ⟨G, c, none⟩ v') t (k + 1) (fun j => if j = c then v' else vs j) := by
  have hGne : some G ≠ (vs c).ownBlock := by
    intro e
    have := (Own.ltF (h.own c hc) G e.symm).1
    omega
  have hsz := hg.size
  have hgt := h.gt
  have hcG : ∀ j, w'.cell? ⟨G, j, none⟩ = wx.cell? ⟨G, j, none⟩ := fun j => hg.cell_far ⟨G, j, none⟩ h.gt hGne
  have hfG : ∀ j, w'.frozen? ⟨G, j, none⟩ = wx.frozen? ⟨G, j, none⟩ := fun j => hg.frozen_far ⟨G, j, none⟩ h.gt hGne
  refine ⟨?_, by simp [World.setCell]; omega, fun j hj => ?_, fun j hj => ?_, fun j j' hj hj' hne => ?_⟩
  · refine (h.bel.grown hg (Nat.le_of_lt h.gt) (fun g e => ?_)).setCell (Nat.le_refl _) _
    have := (Own.ltF (h.own c hc) g e).1
    omega
  · rw [World.frozen?_setCell, hfG]
    refine ⟨?_, (h.cel j hj).2⟩
    by_cases e : j = c
    · subst e
      rw [if_pos rfl, cell_same ((hcG j).trans (h.cel j hj).1)]
    · rw [if_neg e, cell_other (addr_ne_off (Ne.symm e)), hcG]
      exact (h.cel j hj).1
  · rw [amC, hcur, hamt]
    by_cases e : j = c
    · subst e
      rw [if_pos rfl, if_pos rfl]
      exact hown.setF (by omega) _
    · rw [if_neg e, if_neg (by omega), List.append_nil]
      refine ((h.own j hj).keptF hg ?_).setF (by omega) _
      cases e2 : (vs j).ownBlock with
      | none => exact .inl rfl
      | some g => exact .inr (fun e3 => h.apt j c hj hc e g e2 e3.symm)
  · by_cases e : j = c
    · subst e
      rw [if_pos rfl, if_neg (Ne.symm hne)]
      intro g e1 e2
      rcases hat g e1 with e3 | e3
      · exact h.apt j j' hj hj' hne g e3 e2
      · have := (Own.ltF (h.own j' hj') g e2).2
        omega
    · rw [if_neg e]
      by_cases e' : j' = c
      · subst e'
        rw [if_pos rfl]
        intro g e1 e2
        rcases hat g e2 with e3 | e3
        · exact h.apt j j' hj hj' hne g e1 e3
        · have := (Own.ltF (h.own j hj) g e1).2
          omega
      · rw [if_neg e']
        exact h.apt j j' hj hj' hne

def totV (f : Nat → Int) : Value := .agg #[.int .i64 (f 0), .int .i64 (f 1), .int .i64 (f 2), .int .i64 (f 3), .int .i64 (f 4), .int .i64 (f 5), .int .i64 (f 6), .int .i64 (f 7)]

theorem there_yesF (c : Int) (w : World) (h0 : 0 ≤ c) (h1 : c < 8) : Calls Tryd.prog 38 #[.int .i64 c] w fun e w' => e = .returned (.bool true) ∧ w = w' := by
  go_enter Tryd.func38, Tryd.ntmps38
  go_wp2_with fail
  go_ret
  exact ⟨rfl, rfl⟩
theorem there_noF (c : Int) (w : World) (h : c < 0 ∨ 8 ≤ c) : Calls Tryd.prog 38 #[.int .i64 c] w fun e w' => e = .returned (.bool false) ∧ w = w' := by
  rcases h with h | h
  · go_enter Tryd.func38, Tryd.ntmps38
    go_wp2_with fail
    go_ret
    exact ⟨rfl, rfl⟩
  · have h0 : 0 ≤ c := by omega
    have h1 : ¬ c < 8 := by omega
    go_enter Tryd.func38, Tryd.ntmps38
    go_wp2_with fail
    go_ret
    exact ⟨rfl, rfl⟩

/-- Eight numbers stored. -/
def st8 (w : World) (B : Nat) (f : Nat → Int) : World := (((((((w.setCell ⟨B, 0, none⟩ (.int .i64 (f 0))).setCell ⟨B, 1, none⟩ (.int .i64 (f 1))).setCell ⟨B, 2, none⟩ (.int .i64 (f 2))).setCell ⟨B, 3, none⟩ (.int .i64 (f 3))).setCell ⟨B, 4, none⟩ (.int .i64 (f 4))).setCell ⟨B, 5, none⟩ (.int .i64 (f 5))).setCell ⟨B, 6, none⟩ (.int .i64 (f 6))).setCell ⟨B, 7, none⟩ (.int .i64 (f 7))
theorem set_is {w : World} {p : Addr} {u : Value} {a : Addr} {x : Value} (h : w.cell? p = some u) : ∃ u', (w.setCell a x).cell? p = some u' := by
  by_cases e : a = p
  · subst e; exact ⟨_, cell_same h⟩
  · exact ⟨u, by rw [cell_other e]; exact h⟩
theorem st8_cell {w : World} {B : Nat} {f : Nat → Int} (h : ∀ j, j < 8 → ∃ u, w.cell? ⟨B, j, none⟩ = some u) (j : Nat) (hj : j < 8) : (st8 w B f).cell? ⟨B, j, none⟩ = some (.int .i64 (f j)) := by
  obtain ⟨u, hu⟩ := h j hj
  have ne : ∀ i, i ≠ j → (⟨B, i, none⟩ : Addr) ≠ ⟨B, j, none⟩ := fun i h => addr_ne_off h
  have up : ∀ (w : World) (u : Value) (i : Nat) (x : Value), w.cell? ⟨B, j, none⟩ = some u → ∃ u', (w.setCell ⟨B, i, none⟩ x).cell? ⟨B, j, none⟩ = some u' := fun w u i x h => set_is h
  unfold st8
  match j, hj with
  | 0, _ => 
    rw [cell_other (ne 7 (by decide)), cell_other (ne 6 (by decide)), cell_other (ne 5 (by decide)), cell_other (ne 4 (by decide)), cell_other (ne 3 (by decide)), cell_other (ne 2 (by decide)), cell_other (ne 1 (by decide)), cell_same hu]
  | 1, _ =>
    obtain ⟨v0, h0⟩ := up _ _ 0 (.int .i64 (f 0)) hu
    rw [cell_other (ne 7 (by decide)), cell_other (ne 6 (by decide)), cell_other (ne 5 (by decide)), cell_other (ne 4 (by decide)), cell_other (ne 3 (by decide)), cell_other (ne 2 (by decide)), cell_same h0]
  | 2, _ =>
    obtain ⟨v0, h0⟩ := up _ _ 0 (.int .i64 (f 0)) hu
    obtain ⟨v1, h1⟩ := up _ _ 1 (.int .i64 (f 1)) h0
    rw [cell_other (ne 7 (by decide)), cell_other (ne 6 (by decide)), cell_other (ne 5 (by decide)), cell_other (ne 4 (by decide)), cell_other (ne 3 (by decide)), cell_same h1]
  | 3, _ =>
    obtain ⟨v0, h0⟩ := up _ _ 0 (.int .i64 (f 0)) hu
    obtain ⟨v1, h1⟩ := up _ _ 1 (.int .i64 (f 1)) h0
    obtain ⟨v2, h2⟩ := up _ _ 2 (.int .i64 (f 2)) h1
    rw [cell_other (ne 7 (by decide)), cell_other (ne 6 (by decide)), cell_other (ne 5 (by decide)), cell_other (ne 4 (by decide)), cell_same h2]
  | 4, _ =>
    obtain ⟨v0, h0⟩ := up _ _ 0 (.int .i64 (f 0)) hu
    obtain ⟨v1, h1⟩ := up _ _ 1 (.int .i64 (f 1)) h0
    obtain ⟨v2, h2⟩ := up _ _ 2 (.int .i64 (f 2)) h1
    obtain ⟨v3, h3⟩ := up _ _ 3 (.int .i64 (f 3)) h2
    rw [cell_other (ne 7 (by decide)), cell_other (ne 6 (by decide)), cell_other (ne 5 (by decide)), cell_same h3]
  | 5, _ =>
    obtain ⟨v0, h0⟩ := up _ _ 0 (.int .i64 (f 0)) hu
    obtain ⟨v1, h1⟩ := up _ _ 1 (.int .i64 (f 1)) h0
    obtain ⟨v2, h2⟩ := up _ _ 2 (.int .i64 (f 2)) h1
    obtain ⟨v3, h3⟩ := up _ _ 3 (.int .i64 (f 3)) h2
    obtain ⟨v4, h4⟩ := up _ _ 4 (.int .i64 (f 4)) h3
    rw [cell_other (ne 7 (by decide)), cell_other (ne 6 (by decide)), cell_same h4]
  | 6, _ =>
    obtain ⟨v0, h0⟩ := up _ _ 0 (.int .i64 (f 0)) hu
    obtain ⟨v1, h1⟩ := up _ _ 1 (.int .i64 (f 1)) h0
    obtain ⟨v2, h2⟩ := up _ _ 2 (.int .i64 (f 2)) h1
    obtain ⟨v3, h3⟩ := up _ _ 3 (.int .i64 (f 3)) h2
    obtain ⟨v4, h4⟩ := up _ _ 4 (.int .i64 (f 4)) h3
    obtain ⟨v5, h5⟩ := up _ _ 5 (.int .i64 (f 5)) h4
    rw [cell_other (ne 7 (by decide)), cell_same h5]
  | 7, _ =>
    obtain ⟨v0, h0⟩ := up _ _ 0 (.int .i64 (f 0)) hu
    obtain ⟨v1, h1⟩ := up _ _ 1 (.int .i64 (f 1)) h0
    obtain ⟨v2, h2⟩ := up _ _ 2 (.int .i64 (f 2)) h1
    obtain ⟨v3, h3⟩ := up _ _ 3 (.int .i64 (f 3)) h2
    obtain ⟨v4, h4⟩ := up _ _ 4 (.int .i64 (f 4)) h3
    obtain ⟨v5, h5⟩ := up _ _ 5 (.int .i64 (f 5)) h4
    obtain ⟨v6, h6⟩ := up _ _ 6 (.int .i64 (f 6)) h5
    rw [cell_same h6]
theorem st8_below {W w : World} {B n : Nat} (h : Below n W w) (hB : n ≤ B) (f : Nat → Int) : Below n W (st8 w B f) :=
  (((((((h.setCell hB _).setCell hB _).setCell hB _).setCell hB _).setCell hB _).setCell hB _).setCell hB _).setCell hB _
def totL (f : Nat → Int) : List Value := [.int .i64 (f 0), .int .i64 (f 1), .int .i64 (f 2), .int .i64 (f 3), .int .i64 (f 4), .int .i64 (f 5), .int .i64 (f 6), .int .i64 (f 7)]
theorem run_load8 {w : World} {B : Nat} {f : Nat → Int} (hc : ∀ j, j < 8 → w.cell? ⟨B, j, none⟩ = some (.int .i64 (f j))) : (loadVar 26 ⟨B, 0, none⟩).run Tryd.prog w = .ok (totV f) w := by
  have hl : (loadCells ⟨B, 0, none⟩ (totL f).length).run Tryd.prog w = .ok (totL f).toArray w :=
    run_loadCells_list (P := Tryd.prog) w ⟨B, 0, none⟩ (totL f) (fun j v hv => by
      have hj : j < 8 := (List.getElem?_eq_some_iff.1 hv).1
      rw [Go.WideShapes.add_plain, Nat.zero_add, hc j hj]
      match j, hj with
      | 0, _ => exact hv
      | 1, _ => exact hv
      | 2, _ => exact hv
      | 3, _ => exact hv
      | 4, _ => exact hv
      | 5, _ => exact hv
      | 6, _ => exact hv
      | 7, _ => exact hv)
  have hi : (Tryd.prog.info? 26).map (·.size) = some 8 := by kernel_rfl
  cases hq : Tryd.prog.info? 26 with
  | none => simp [hq] at hi
  | some i =>
    have hs : i.size = 8 := by simpa [hq] using hi
    have hagg : (isAgg 26).run Tryd.prog w = .ok true w := by
      unfold isAgg
      rw [Sem.run_bind, run_underlying Tryd.underlying26 w]
      rfl
    have hlen : (totL f).length = 8 := rfl
    rw [hlen] at hl
    simp [loadVar, Sem.run_bind, hagg, sizeOf, typeInfo, hq, hs, hl]
    rfl
theorem results_tot {fn : Func} {t u : Tmp} (h : fn.results = #[.cell t 26, .tmp u]) (tmps : Array Value) {w : World} {B : Nat} {f : Nat → Int} (ht : tmps.getD t undef = .pointer (some ⟨B, 0, none⟩)) (hc : ∀ j, j < 8 → w.cell? ⟨B, j, none⟩ = some (.int .i64 (f j))) :
    (results fn tmps).run Tryd.prog w = .ok (.tuple #[totV f, tmps.getD u undef]) w := by
  have h8 := run_load8 hc
  rw [Array.getD_eq_getD_getElem?] at ht
  simp [results, h, ht, asAddr, h8, Sem.run_bind]
theorem sum_own {w : World} {base : Nat} {v : Value} {l : List Int} (h : YtadjhofomabbmaaDoor.Own w base v l) (hi : InI l) (hn : l.length ≤ 1000) (h0 : -9223372036854775808 ≤ sumL l) (h1 : sumL l ≤ 9223372036854775807) :
    Calls Tryd.prog 39 #[v] w fun e w' => e = .returned (.tuple #[.int .i64 (sumL l), .int .i64 0]) ∧ w = w' := by
  rcases h.reads with ⟨rfl, rfl⟩ | ⟨g, cap, rfl, _, _, hr⟩
  · exact sum_nil none 0 w
  · have h := sum_row l g 0 cap w hr hi (by omega)
    have hr2 : inR (sumL l) = true := by unfold inR; simp; omega
    rw [fitN_in hr2, fitE_in hr2] at h
    exact h
def zr8 : Array Value := #[.int .i64 0, .int .i64 0, .int .i64 0, .int .i64 0, .int .i64 0, .int .i64 0, .int .i64 0, .int .i64 0]
def sl8 : Array Value := #[.slice none 0 0, .slice none 0 0, .slice none 0 0, .slice none 0 0, .slice none 0 0, .slice none 0 0, .slice none 0 0, .slice none 0 0]
theorem AmI.start (W : World) (t : List Fl) (ty : TypeId) : AmI W W.heap.size (W.alloc (.cells sl8 ty)) t 0 (fun _ => .slice none 0 0) := by
  refine ⟨newF _ _, by simp, fun c hc => ⟨?_, World.frozen?_alloc_at _ _ _ _ rfl⟩, fun c hc => YtadjhofomabbmaaDoor.Own.nil _ _, fun c c' _ _ _ k h => by cases h⟩
  rw [World.cell?_alloc_at _ _ _ _ rfl]
  match c, hc with
  | 0, _ => rfl
  | 1, _ => rfl
  | 2, _ => rfl
  | 3, _ => rfl
  | 4, _ => rfl
  | 5, _ => rfl
  | 6, _ => rfl
  | 7, _ => rfl

set_option maxHeartbeats 2000000 in
set_option maxRecDepth 100000 in
theorem totals_any (t : List Fl) (hl : t.length ≤ 100) (hb : AmB t) (a : Option Addr) (cap : Nat) (w : World) (hs : SlF w (.slice a t.length cap) t) :
    Calls Tryd.prog 12 #[.slice a t.length cap] w fun e w' => ((GdC t → e = .returned (.tuple #[totV (fun c => smC t c t.length), .int .i64 0])) ∧ (¬ GdC t → e = .returned (.tuple #[totV (fun _ => 0), .int .i64 10]))) ∧ Below w.heap.size w w' := by
  have HS := Lib.hid hs
  have HB := Lib.hid hb
  have HN2 : Hid (Below w.heap.size w ((w.alloc (.cells zr8 26)).alloc (.cells zr8 26))) := Lib.hid (onF (newF _ _) (newF _ _))
  have hsz2 : ((w.alloc (.cells zr8 26)).alloc (.cells zr8 26)).heap.size = w.heap.size + 1 + 1 := by simp
  have HSt := Lib.hid (AmI.start ((w.alloc (.cells zr8 26)).alloc (.cells zr8 26)) t 65)
  rw [hsz2] at HSt
  clear hs hb
  go_enter Tryd.func12, Tryd.ntmps12
  go_wp2_with fail
  change Code.wp _ _ _ _ (((w.alloc (.cells zr8 26)).alloc (.cells zr8 26)).alloc (.cells sl8 65))
  have HZ : Hid (∀ j, j < 8 → (((w.alloc (.cells zr8 26)).alloc (.cells zr8 26)).cell? ⟨w.heap.size, j, none⟩ = some (.int .i64 0) ∧ ((w.alloc (.cells zr8 26)).alloc (.cells zr8 26)).frozen? ⟨w.heap.size, j, none⟩ = false) ∧ ((w.alloc (.cells zr8 26)).alloc (.cells zr8 26)).cell? ⟨w.heap.size + 1, j, none⟩ = some (.int .i64 0)) := Lib.hid (fun j hj => by
    have k : ∀ (W : World), (W.alloc (.cells zr8 26)).cell? ⟨W.heap.size, j, none⟩ = some (.int .i64 0) := fun W => by
      rw [World.cell?_alloc_at _ _ _ _ rfl]
      match j, hj with
      | 0, _ => rfl
      | 1, _ => rfl
      | 2, _ => rfl
      | 3, _ => rfl
      | 4, _ => rfl
      | 5, _ => rfl
      | 6, _ => rfl
      | 7, _ => rfl
    have h1 := k w
    have hb := newF (w.alloc (.cells zr8 26)) (.cells zr8 26)
    refine ⟨⟨keepF hb h1, (hb.frozen (p := ⟨w.heap.size, j, none⟩) (ltF h1)).trans (World.frozen?_alloc_at _ _ _ _ rfl)⟩, ?_⟩
    have h2 := k (w.alloc (.cells zr8 26))
    rw [World.size_alloc] at h2
    exact h2)
  generalize (w.alloc (.cells zr8 26)).alloc (.cells zr8 26) = W2 at *
  go_loopw [15] (fun vk wx => ∃ (k : Nat) (vs : Nat → Value), k ≤ t.length ∧ vk = .int .i64 k ∧ AmI W2 (w.heap.size + 1 + 1) wx t k vs ∧ (∀ i, i < k → 0 ≤ (t.getD i default).cur ∧ (t.getD i default).cur < 8)) (fun vk _ => t.length - (RowKit.intOf vk).toNat)
  case atStart => exact ⟨0, _, Nat.zero_le _, rfl, HSt.out, fun i hi => absurd hi (Nat.not_lt_zero _)⟩
  case round =>
    obtain ⟨k, vs, hk, rfl, hA, hg⟩ := hrel
    have HA := Lib.hid hA
    have HG := Lib.hid hg
    have HBl := Lib.hid ((show Below W2.heap.size W2 wr by rw [hsz2]; exact hA.bel))
    have HBw := Lib.hid (onF HN2.out HBl.out)
    by_cases hlt : k < t.length
    · rcases HS.out with ⟨h, _⟩ | ⟨_, b, o, cap', e, hc1, hc2, hN⟩
      · rw [h] at hlt; exact absurd hlt (Nat.not_lt_zero _)
      · injection e with e1 _ e3
        subst e1 e3
        have hnc := (hN.keep HBw.out) k hlt
        have hba := HB.out k hlt
        obtain ⟨f, hf⟩ : ∃ f, f = t.getD k default := ⟨_, rfl⟩
        have HF := Lib.hid hf
        rw [← hf] at hnc hba
        obtain ⟨x0, x1, x2⟩ := f
        obtain ⟨c0, c1, c2⟩ := hnc
        have j0 : (0 : Int) ≤ (k : Int) := by omega
        have j1 : (k : Int) < (t.length : Int) := by omega
        dsimp only at c0 c1 c2 hba
        clear hf hA hg hN HSt
        by_cases hcur : 0 ≤ x1 ∧ x1 < 8
        · obtain ⟨hx0, hx1⟩ := hcur
          have HTh := Lib.hid (fun w => there_yesF x1 w hx0 hx1)
          go_wp2_with fail
          refine (HTh.out _).mono ?_
          rintro e w1 ⟨rfl, rfl⟩
          go_wp2_with fail
          obtain ⟨c, hce⟩ : ∃ c : Nat, x1 = (c : Int) := ⟨x1.toNat, by omega⟩
          subst hce
          have hc8 : c < 8 := by omega
          have hfl : wr.heap.size < (wr.alloc (.cells #[.int .i64 x0, .int .i64 (c : Int), .int .i64 x2] 25)).heap.size := by simp
          have f1 : (wr.alloc (.cells #[.int .i64 x0, .int .i64 (c : Int), .int .i64 x2] 25)).cell? ⟨wr.heap.size, 1, none⟩ = some (.int .i64 (c : Int)) := by rw [World.cell?_alloc_at _ _ _ _ rfl]; rfl
          have f2 : (wr.alloc (.cells #[.int .i64 x0, .int .i64 (c : Int), .int .i64 x2] 25)).cell? ⟨wr.heap.size, 2, none⟩ = some (.int .i64 x2) := by rw [World.cell?_alloc_at _ _ _ _ rfl]; rfl
          have HA0 := Lib.hid (HA.out.keep (newF wr (.cells #[.int .i64 x0, .int .i64 (c : Int), .int .i64 x2] 25)))
          have hFG : w.heap.size + 1 + 1 < wr.heap.size := HA.out.gt
          clear c0 c1 c2
          generalize wr.alloc (.cells #[.int .i64 x0, .int .i64 (c : Int), .int .i64 x2] 25) = W0 at *
          obtain ⟨v, hv⟩ : ∃ v, v = vs c := ⟨_, rfl⟩
          have hown := HA0.out.own c hc8
          obtain ⟨g1, g2⟩ := HA0.out.cel c hc8
          rw [← hv] at hown g1
          have hll := amC_len t c k
          have nF : some wr.heap.size ≠ v.ownBlock := by
            intro e
            rw [hv] at e
            have := (Own.ltF (HA.out.own c hc8) _ e.symm).2
            omega
          have HV := Lib.hid hv
          clear hv
          obtain ⟨l, hle⟩ : ∃ l, l = amC t c k := ⟨_, rfl⟩
          have HLe := Lib.hid hle
          rw [← hle] at hown hll
          clear hle
          have hbo := Own.ltF hown
          have hG0 : w.heap.size + 1 + 1 < W0.heap.size := HA0.out.gt
          have nG : some (w.heap.size + 1 + 1) ≠ v.ownBlock := by
            intro e
            have := (hbo _ e.symm).1
            omega
          have h63 : l.length + 1 ≤ maxLen := by unfold maxLen; omega
          have hby : (l.length + 1) * 8 ≤ 140737488355328 := by omega
          have hc0' : (0 : Int) ≤ (c : Int) := by omega
          have hc1' : (c : Int) < 8 := by omega
          have hbs : w.heap.size + 1 + 1 + 1 ≤ (W0.drew.alloc (.cells #[.int .i64 x2] 3)).heap.size := by simp; omega
          obtain ⟨i0, hi0, hz0, hz1, hz2⟩ := info_parts Tryd.infoI
          have hn1 : Below W0.heap.size W0 (W0.alloc (.cells #[.int .i64 x2] 3)).drew := (newF W0 _).drew
          have HA1 : Hid (AmI W2 (w.heap.size + 1 + 1) (W0.alloc (.cells #[.int .i64 x2] 3)).drew t k vs) := Lib.hid ((HA0.out.keep (newF W0 (.cells #[.int .i64 x2] 3))).keep (Below.drew (Below.refl _ _)))
          have f1a := keepF (newF W0 (.cells #[.int .i64 x2] 3)) f1
          have f2a := keepF (newF W0 (.cells #[.int .i64 x2] 3)) f2
          have g1a := keepF (newF W0 (.cells #[.int .i64 x2] 3)) g1
          go_region_law
            ((refine step_append_lies _ (by rfl) _ _ _ (by rfl) (w.heap.size + 1 + 1 + 1) 3 i0 _ 1 8 Tryd.underlying31 hi0 hz0 hz1 hz2 rfl (by omega) v l.length (l.map (Value.int .i64)) (by rfl) (World.ownsRow.alloc (World.ownsRow.drew hown) _) ⟨W0.heap.size, 0, none⟩ 1 1 [.int .i64 x2] (by rfl) (by rfl) (World.news_of_block (cs := #[.int .i64 x2]) (t := 3) (fr := (0, 0)) (heap_alloc_new W0.drew _)) (by simp [Value.oneCell']) (by omega) h63 hby hbs (W0.heap.size + 1) (by simp) ?_
              intro g cap2 w1 hown1 hgrow hat hlt2
              have s1 : w1.cell? ⟨wr.heap.size, 1, none⟩ = some (.int .i64 (c : Int)) := by rw [hgrow.cell_far ⟨wr.heap.size, 1, none⟩ (by simp; omega) nF]; exact keepF hn1 f1
              have e1 : w1.cell? ⟨w.heap.size + 1 + 1, c, none⟩ = some v := by rw [hgrow.cell_far ⟨w.heap.size + 1 + 1, c, none⟩ (by simp; omega) nG]; exact keepF hn1 g1
              have e2 : w1.frozen? ⟨w.heap.size + 1 + 1, c, none⟩ = false := by rw [hgrow.frozen_far ⟨w.heap.size + 1 + 1, c, none⟩ (by simp; omega) nG]; exact (hn1.frozen (p := ⟨w.heap.size + 1 + 1, c, none⟩) hG0).trans g2))
          all_goals go_wp2
          all_goals
            refine ⟨⟨k + 1, _, by omega, by go_num, HA1.out.push hc8 (by rw [← HF.out]) (by rw [← HF.out]) (by rw [← HLe.out]; exact own_snoc hown1) (by rw [← HV.out]; exact hgrow) (fun g' hg' => ?_), fun i hi => ?_⟩, by simp [RowKit.intOf]; omega⟩
            · rw [← HV.out]
              have e3 : g = g' := by simpa [Value.ownBlock] using hg'
              subst e3
              rcases hat with h | h
              · exact .inl h
              · refine .inr ?_
                rw [h]
                show (W0.alloc (.cells #[.int .i64 x2] 3)).heap.size ≤ _
                simp
            · by_cases e : i = k
              · subst e
                rw [← HF.out]
                exact ⟨hc0', hc1'⟩
              · exact HG.out i (by omega)
        · have HTh := Lib.hid (fun w => there_noF x1 w (by omega))
          have HNo : Hid (¬ GdC t) := Lib.hid (fun hgd => hcur (by have := hgd k hlt; rw [← HF.out] at this; exact this))
          have hb0 := HBl.out.trans ((newF wr (.cells #[.int .i64 x0, .int .i64 x1, .int .i64 x2] 25)).mono HBl.out.size)
          have HZ0 : Hid (∀ j, j < 8 → ((wr.alloc (.cells #[.int .i64 x0, .int .i64 x1, .int .i64 x2] 25)).cell? ⟨w.heap.size, j, none⟩ = some (.int .i64 0) ∧ (wr.alloc (.cells #[.int .i64 x0, .int .i64 x1, .int .i64 x2] 25)).frozen? ⟨w.heap.size, j, none⟩ = false) ∧ (wr.alloc (.cells #[.int .i64 x0, .int .i64 x1, .int .i64 x2] 25)).cell? ⟨w.heap.size + 1, j, none⟩ = some (.int .i64 0)) := Lib.hid (fun j hj => by
            obtain ⟨⟨h1, h2⟩, h3⟩ := HZ.out j hj
            exact ⟨⟨keepF hb0 h1, (hb0.frozen (p := ⟨w.heap.size, j, none⟩) (ltF h1)).trans h2⟩, keepF hb0 h3⟩)
          have HB0 := Lib.hid (onF HBw.out (newF wr (.cells #[.int .i64 x0, .int .i64 x1, .int .i64 x2] 25)))
          obtain ⟨⟨p0, q0⟩, r0⟩ := HZ0.out 0 (by omega)
          obtain ⟨⟨p1, q1⟩, r1⟩ := HZ0.out 1 (by omega)
          obtain ⟨⟨p2, q2⟩, r2⟩ := HZ0.out 2 (by omega)
          obtain ⟨⟨p3, q3⟩, r3⟩ := HZ0.out 3 (by omega)
          obtain ⟨⟨p4, q4⟩, r4⟩ := HZ0.out 4 (by omega)
          obtain ⟨⟨p5, q5⟩, r5⟩ := HZ0.out 5 (by omega)
          obtain ⟨⟨p6, q6⟩, r6⟩ := HZ0.out 6 (by omega)
          obtain ⟨⟨p7, q7⟩, r7⟩ := HZ0.out 7 (by omega)
          have HZU : Hid (∀ j, j < 8 → ∃ u, (wr.alloc (.cells #[.int .i64 x0, .int .i64 x1, .int .i64 x2] 25)).cell? ⟨w.heap.size, j, none⟩ = some u) := Lib.hid (fun j hj => ⟨_, (HZ0.out j hj).1.1⟩)
          clear hcur hb0 HZ0
          go_wp2_with fail
          refine (HTh.out _).mono ?_
          rintro e w1 ⟨rfl, rfl⟩
          go_wp2_with fail
          change bodyPost _ _ _ _ _ (st8 (wr.alloc (.cells #[.int .i64 x0, .int .i64 x1, .int .i64 x2] 25)) w.heap.size (fun _ => 0))
          have HB9 := Lib.hid (st8_below HB0.out (Nat.le_refl _) (fun _ => 0))
          have hz9 := st8_cell (w := wr.alloc (.cells #[.int .i64 x0, .int .i64 x1, .int .i64 x2] 25)) (B := w.heap.size) (f := fun _ => 0) HZU.out
          generalize st8 (wr.alloc (.cells #[.int .i64 x0, .int .i64 x1, .int .i64 x2] 25)) w.heap.size (fun _ => 0) = w9 at *
          (try simp only [Exit.inBlock, Exit.then])
          refine bodyPost_ret (results_tot rfl _ rfl hz9) rfl ⟨⟨fun h => absurd h HNo.out, fun _ => rfl⟩, HB9.out⟩
    · obtain rfl : k = t.length := by omega
      have HGd : Hid (GdC t) := Lib.hid hg
      have HZ3 : Hid (∀ j, j < 8 → wr.cell? ⟨w.heap.size, j, none⟩ = some (.int .i64 0) ∧ wr.frozen? ⟨w.heap.size, j, none⟩ = false) := Lib.hid (fun j hj => by
        obtain ⟨⟨h1, h2⟩, h3⟩ := HZ.out j hj
        exact ⟨keepF HBl.out h1, (HBl.out.frozen (p := ⟨w.heap.size, j, none⟩) (ltF h1)).trans h2⟩)
      have HSm := Lib.hid (fun c (hc : c < 8) => smC_bd HB.out c t.length (Nat.le_refl _))
      have HIn := Lib.hid (fun c => amC_in HB.out c t.length (Nat.le_refl _))
      clear hA hg HSt HZ HS
      go_wp2_with fail
      have hn8 := newF wr (.cells zr8 26)
      have h8 : ∀ j, j < 8 → (wr.alloc (.cells zr8 26)).cell? ⟨wr.heap.size, j, none⟩ = some (.int .i64 (if j < 0 then smC t j t.length else 0)) ∧ (wr.alloc (.cells zr8 26)).frozen? ⟨wr.heap.size, j, none⟩ = false := fun j hj => ⟨by
        rw [World.cell?_alloc_at _ _ _ _ rfl, if_neg (by omega)]
        match j, hj with
        | 0, _ => rfl
        | 1, _ => rfl
        | 2, _ => rfl
        | 3, _ => rfl
        | 4, _ => rfl
        | 5, _ => rfl
        | 6, _ => rfl
        | 7, _ => rfl, World.frozen?_alloc_at _ _ _ _ rfl⟩
      have H8 := Lib.hid h8
      have HN8 := Lib.hid hn8
      clear h8 hn8
      have HFin : Hid (∀ wx, Below wr.heap.size wr wx → Below w.heap.size w wx ∧ ∀ j, j < 8 → wx.cell? ⟨w.heap.size, j, none⟩ = some (.int .i64 0) ∧ wx.frozen? ⟨w.heap.size, j, none⟩ = false) := Lib.hid (fun wx hb => ⟨onF HBw.out hb, fun j hj => by
        obtain ⟨h1, h2⟩ := HZ3.out j hj
        exact ⟨keepF hb h1, (hb.frozen (p := ⟨w.heap.size, j, none⟩) (ltF h1)).trans h2⟩⟩)
      go_loopw [36] (fun vi wx => ∃ i : Nat, i ≤ 8 ∧ vi = .int .i64 i ∧ Below wr.heap.size wr wx ∧ (∀ j, j < 8 → wx.cell? ⟨wr.heap.size, j, none⟩ = some (.int .i64 (if j < i then smC t j t.length else 0)) ∧ wx.frozen? ⟨wr.heap.size, j, none⟩ = false)) (fun vi _ => 8 - (RowKit.intOf vi).toNat)
      case atStart => exact ⟨0, Nat.zero_le _, rfl, HN8.out, H8.out⟩
      case round =>
        obtain ⟨i, hi, rfl, hbx, hz⟩ := hrel
        have HBx := Lib.hid hbx
        by_cases hlt8 : i < 8
        · have HAx := Lib.hid (HA.out.keep hbx)
          obtain ⟨g1, _⟩ := HAx.out.cel i hlt8
          have hbd := HSm.out i hlt8
          have HSu := Lib.hid (sum_own (HAx.out.own i hlt8) (HIn.out i) (by have := amC_len t i t.length; omega) (by rw [smC_eq]; omega) (by rw [smC_eq]; omega))
          rw [smC_eq] at HSu
          have HZx := Lib.hid hz
          obtain ⟨y1, y2⟩ := hz i hlt8
          generalize vs i = v at *
          obtain ⟨x, hx⟩ : ∃ x, x = smC t i t.length := ⟨_, rfl⟩
          have HX := Lib.hid hx
          rw [← hx] at HSu
          have j0 : (0 : Int) ≤ (i : Int) := by omega
          have j1 : (i : Int) < 8 := by omega
          rw [if_neg (by omega)] at y1
          clear hz hx hbx
          go_wp2_with fail
          refine HSu.out.mono ?_
          rintro e w5 ⟨rfl, rfl⟩
          go_wp2_with fail
          go_roundw
          case rel =>
            refine ⟨i + 1, by omega, by go_num, HBx.out.setCell (Nat.le_refl _) _, fun j hj => ?_⟩
            rw [World.frozen?_setCell]
            refine ⟨?_, (HZx.out j hj).2⟩
            by_cases e : j = i
            · subst e
              rw [cell_same y1, if_pos (by omega), HX.out]
            · rw [cell_other (addr_ne_off (Ne.symm e)), (HZx.out j hj).1]
              by_cases e2 : j < i
              · rw [if_pos e2, if_pos (by omega)]
              · rw [if_neg e2, if_neg (by omega)]
          case measure => simp [RowKit.intOf]; omega
        · obtain rfl : i = 8 := by omega
          have n0 := (hz 0 (by omega)).1
          have n1 := (hz 1 (by omega)).1
          have n2 := (hz 2 (by omega)).1
          have n3 := (hz 3 (by omega)).1
          have n4 := (hz 4 (by omega)).1
          have n5 := (hz 5 (by omega)).1
          have n6 := (hz 6 (by omega)).1
          have n7 := (hz 7 (by omega)).1
          rw [if_pos (by omega)] at n0
          rw [if_pos (by omega)] at n1
          rw [if_pos (by omega)] at n2
          rw [if_pos (by omega)] at n3
          rw [if_pos (by omega)] at n4
          rw [if_pos (by omega)] at n5
          rw [if_pos (by omega)] at n6
          rw [if_pos (by omega)] at n7
          obtain ⟨hbw9, ht2⟩ := HFin.out _ hbx
          have HT9 := Lib.hid ht2
          have HB9w := Lib.hid hbw9
          obtain ⟨p0, q0⟩ := ht2 0 (by omega)
          obtain ⟨p1, q1⟩ := ht2 1 (by omega)
          obtain ⟨p2, q2⟩ := ht2 2 (by omega)
          obtain ⟨p3, q3⟩ := ht2 3 (by omega)
          obtain ⟨p4, q4⟩ := ht2 4 (by omega)
          obtain ⟨p5, q5⟩ := ht2 5 (by omega)
          obtain ⟨p6, q6⟩ := ht2 6 (by omega)
          obtain ⟨p7, q7⟩ := ht2 7 (by omega)
          clear hz hbx hbw9 ht2
          go_wp2_with fail
          change bodyPost _ _ _ _ _ (st8 wr w.heap.size (fun c => smC t c t.length))
          have HB10 := Lib.hid (st8_below HB9w.out (Nat.le_refl _) (fun c => smC t c t.length))
          have hz9 := st8_cell (w := wr) (B := w.heap.size) (f := fun c => smC t c t.length) (fun j hj => ⟨_, (HT9.out j hj).1⟩)
          generalize st8 wr w.heap.size (fun c => smC t c t.length) = w9 at *
          (try simp only [Exit.inBlock, Exit.then])
          refine bodyPost_ret (results_tot rfl _ rfl hz9) rfl ⟨⟨fun _ => rfl, fun h => absurd HGd.out h⟩, HB10.out⟩

end Go.Proofs.YtadjhofomabbmaaDoor
