/-
  chattellaw05: Nodes; what TermJoins finds of the places.
-/
import Derived.Test.YtadjhofomabbmaaDoorJnB
namespace Go.Proofs.YtadjhofomabbmaaDoor
open Go.RowKit Go.Lib
set_option linter.unusedVariables false
set_option linter.unusedSimpArgs false

set_option maxHeartbeats 2000000 in
set_option maxRecDepth 100000 in
theorem nodes_any (t : List Nd) (hl : t.length ≤ 1000) (v1 v2 : Value) (w : World) (h1 : SlT w v1 t) (h2 : SlT w v2 t) :
    Calls Tryd.prog 35 #[v1, v2] w fun e w' => e = .returned (.bool true) ∧ Below w.heap.size w w' := by
  obtain ⟨a1, c1, rfl⟩ := h1.slice
  obtain ⟨a2, c2, rfl⟩ := h2.slice
  have H1 := Lib.hid h1
  have H2 := Lib.hid h2
  clear h1 h2
  go_enter Tryd.func35, Tryd.ntmps35
  go_wp2_with fail
  go_loopw [5] (fun vk wx => ∃ k q : Nat, k ≤ t.length ∧ vk = .int .i64 k ∧ wx = w.drewN q) (fun vk _ => t.length - (RowKit.intOf vk).toNat)
  case atStart => exact ⟨0, 0, Nat.zero_le _, rfl, rfl⟩
  case round =>
    obtain ⟨k, q, hk, rfl, hw⟩ := hrel
    have HW := Lib.hid hw
    by_cases hlt : k < t.length
    · rcases H1.out with ⟨h, _⟩ | ⟨_, b1, o1, c1', e, h3, h4, hN1⟩
      · rw [h] at hlt; exact absurd hlt (Nat.not_lt_zero _)
      · rcases H2.out with ⟨h, _⟩ | ⟨_, b2, o2, c2', e', h3', h4', hN2⟩
        · rw [h] at hlt; exact absurd hlt (Nat.not_lt_zero _)
        · injection e with e1 e2 e3
          injection e' with e1' e2' e3'
          subst e1 e3 e1' e3'
          have g1 := hN1.keep (below_drewT w q) k hlt
          have g2 := hN2.keep (below_drewT w q) k hlt
          rw [← hw] at g1 g2
          have j0 : (0 : Int) ≤ (k : Int) := by omega
          have j1 : (k : Int) < (t.length : Int) := by omega
          generalize t.getD k default = nd at *
          obtain ⟨x0, x1, x2, x3, x4⟩ := nd
          obtain ⟨p0, p1, p2, p3, p4⟩ := g1
          obtain ⟨q0, q1, q2, q3, q4⟩ := g2
          clear H1 H2 hN1 hN2 hw
          go_wp2_with fail
          go_quiet (fail)
          go_wp2
          go_roundw
          case rel => exact ⟨k + 1, q + nq, by omega, by go_num, by rw [HW.out, World.drewN_drewN]⟩
          case measure => simp [RowKit.intOf]; omega
    · obtain rfl : k = t.length := by omega
      go_wp2_with fail
      go_ret
      exact ⟨rfl, below_drewT w q⟩

/-- Do the first places stand where the parts do? -/
def fitJ (L : List (List Nd)) (pl : List Int) : Nat → Bool
  | 0 => decide (pl.length = L.length)
  | i + 1 => fitJ L pl i && decide (i < pl.length) && decide (pl.getD i 0 = ((1 + (L.take i).flatten.length : Nat) : Int))
theorem fitJ_pc (L : List (List Nd)) : ∀ k j, j < k → (pcN L k).getD j 0 = ((1 + (L.take j).flatten.length : Nat) : Int)
  | 0, j, h => absurd h (Nat.not_lt_zero _)
  | k + 1, j, h => by
    rw [pcN, List.getD_eq_getElem?_getD]
    by_cases e : j = k
    · subst e
      rw [List.getElem?_append_right (by rw [pcN_len]; exact Nat.le_refl _), pcN_len, Nat.sub_self]; rfl
    · rw [List.getElem?_append_left (by rw [pcN_len]; omega), ← List.getD_eq_getElem?_getD]
      exact fitJ_pc L k j (by omega)
theorem fitJ_iff (L : List (List Nd)) (pl : List Int) : ∀ k, fitJ L pl k = true ↔ pl.length = L.length ∧ ∀ j, j < k → j < pl.length ∧ pl.getD j 0 = ((1 + (L.take j).flatten.length : Nat) : Int)
  | 0 => by simp [fitJ]
  | k + 1 => by
    rw [fitJ, Bool.and_eq_true, Bool.and_eq_true, fitJ_iff L pl k, decide_eq_true_eq, decide_eq_true_eq]
    constructor
    · rintro ⟨⟨⟨h1, h2⟩, h3⟩, h4⟩
      refine ⟨h1, fun j hj => ?_⟩
      by_cases e : j = k
      · subst e; exact ⟨h3, h4⟩
      · exact h2 j (by omega)
    · rintro ⟨h1, h2⟩
      exact ⟨⟨⟨h1, fun j hj => h2 j (by omega)⟩, (h2 k (by omega)).1⟩, (h2 k (by omega)).2⟩
theorem fitJ_all (L : List (List Nd)) (pl : List Int) : fitJ L pl L.length = decide (pcN L L.length = pl) := by
  by_cases h : pcN L L.length = pl
  · rw [decide_eq_true h, fitJ_iff]
    subst h
    refine ⟨pcN_len _ _, fun j hj => ⟨by rw [pcN_len]; exact hj, fitJ_pc L _ j hj⟩⟩
  · rw [decide_eq_false h]
    refine Bool.eq_false_iff.2 fun h2 => h ?_
    rw [fitJ_iff] at h2
    obtain ⟨h3, h4⟩ := h2
    refine List.ext_getElem? fun j => ?_
    by_cases hj : j < L.length
    · have e1 := fitJ_pc L L.length j hj
      have e2 := (h4 j hj).2
      have e3 := e1.trans e2.symm
      rw [List.getD_eq_getElem?_getD, List.getD_eq_getElem?_getD, List.getElem?_eq_getElem (by rw [pcN_len]; exact hj), List.getElem?_eq_getElem (by omega)] at e3
      rw [List.getElem?_eq_getElem (by rw [pcN_len]; exact hj), List.getElem?_eq_getElem (by omega)]
      simpa using e3
    · rw [List.getElem?_eq_none (by rw [pcN_len]; omega), List.getElem?_eq_none (by omega)]

/-- Where the places are those of the parts, the terms below are the parts. -/
theorem join_parts {n : Nd} {L : List (List Nd)} (hw : WholeT (n :: L.flatten)) (h : pcN L L.length = plL (n :: L.flatten) 0 (cnO n.op)) :
    cnO n.op = L.length ∧ ∀ i, i < L.length → TmA (n :: L.flatten) (plA (n :: L.flatten) 1 i) ∧ szA (n :: L.flatten) (plA (n :: L.flatten) 1 i) = (L.getD i []).length := by
  have hlen : cnO n.op = L.length := by
    have := congrArg List.length h
    rw [pcN_len, plL_len] at this
    exact this.symm
  obtain ⟨ht, hsz⟩ := hw.tm
  obtain ⟨_, hk, hend⟩ := ht.parts
  rw [show opA (n :: L.flatten) 0 = n.op from rfl] at hk hend
  simp only [Nat.zero_add] at hk hend
  have key : ∀ i, i ≤ L.length → plA (n :: L.flatten) 1 i = (jnN n L i).length := by
    intro i hi
    by_cases e : i = L.length
    · subst e
      rw [← hlen, hend, hsz, hlen, jnN_all]
    · have e1 := fitJ_pc L L.length i (by omega)
      rw [h, plL] at e1
      have e2 : (uptoT (fun i => ((plA (n :: L.flatten) (0 + 1) i : Nat) : Int)) (cnO n.op)).getD i 0 = ((plA (n :: L.flatten) (0 + 1) i : Nat) : Int) := by
        unfold uptoT
        rw [List.getD_eq_getElem?_getD, List.getElem?_map, List.getElem?_range (by omega)]; rfl
      rw [e2, Nat.zero_add] at e1
      rw [jnN_len]
      exact Int.ofNat.inj e1
  refine ⟨hlen, fun i hi => ⟨hk i (by omega), ?_⟩⟩
  have h1 := key i (by omega)
  have h2 := key (i + 1) (by omega)
  rw [plA, h1, jnN_succ n L i hi, List.length_append] at h2
  rw [h1]
  omega

end Go.Proofs.YtadjhofomabbmaaDoor
