/-
  Package text: the parser as it lies in memory; next, last, only, nothing, opening, comma, closing: what they answer.
-/
import Derived.Test.YtmaiecbhloagoaaGreatDoorPsB
import Derived.Test.YtmaiecbhloagoaaGreatDoorPsC
import Derived.Test.YtmaiecbhloagoaaGreatDoorJnA
import Derived.Test.YtmaiecbhloagoaaGreatDoorLo
import Derived.Maps.AppendAt
namespace Go.Proofs.YtmaiecbhloagoaaGreatDoor
open Go.RowKit Go.Lib
set_option linter.unusedVariables false
set_option linter.unusedSimpArgs false

/-- What a call keeps: some blocks. -/
structure KpP (P : Nat → Prop) (w w' : World) : Prop where
  os : w'.os = w.os
  tape : w'.tape = w.tape
  output : w'.output = w.output
  size : w.heap.size ≤ w'.heap.size
  block : ∀ k, P k → w'.heap[k]? = w.heap[k]?
theorem KpP.refl (P : Nat → Prop) (w : World) : KpP P w w := ⟨rfl, rfl, rfl, Nat.le_refl _, fun _ _ => rfl⟩
theorem KpP.trans {P : Nat → Prop} {w w1 w2 : World} (h : KpP P w w1) (k : KpP P w1 w2) : KpP P w w2 := ⟨k.os.trans h.os, k.tape.trans h.tape, k.output.trans h.output, Nat.le_trans h.size k.size, fun i hi => (k.block i hi).trans (h.block i hi)⟩
theorem KpP.of {P : Nat → Prop} {w w' : World} (h : Below w.heap.size w w') (hP : ∀ k, P k → k < w.heap.size) : KpP P w w' := ⟨h.os, h.tape, h.output, h.size, fun k hk => h.block k (hP k hk)⟩
theorem KpP.grown {P : Nat → Prop} {w w' : World} {row : Option Nat} (h : w.grownBy w' row) (hP : ∀ k, P k → k < w.heap.size) (hne : ∀ k, row = some k → ¬ P k) : KpP P w w' :=
  ⟨h.os, h.tape, h.output, h.size, fun k hk => h.block k (hP k hk) (fun e => hne k e.symm hk)⟩
theorem set_grown (w : World) (a : Addr) (v : Value) : w.grownBy (w.setCell a v) (some a.block) := ⟨rfl, rfl, rfl, by simp, fun k _ hk => heap_setCell_other w a k v (fun e => hk (by simp [e]))⟩
theorem KpP.set {P : Nat → Prop} (w : World) (a : Addr) (v : Value) (hP : ∀ k, P k → k < w.heap.size) (h : ¬ P a.block) : KpP P w (w.setCell a v) := KpP.grown (set_grown w a v) hP (fun k e => by cases e; exact h)
theorem KpP.cell {P : Nat → Prop} {w w' : World} (h : KpP P w w') {a : Addr} (ha : P a.block) : w'.cell? a = w.cell? a := World.cell?_of_block (h.block _ ha)
theorem KpP.less {P Q : Nat → Prop} {w w' : World} (h : KpP P w w') (hPQ : ∀ k, Q k → P k) : KpP Q w w' := ⟨h.os, h.tape, h.output, h.size, fun k hk => h.block k (hPQ k hk)⟩
theorem KpP.below {P : Nat → Prop} {w w' : World} {n : Nat} (h : KpP P w w') (hn : ∀ k, k < n → P k) : Below n w w' := ⟨h.os, h.tape, h.output, h.size, fun k hk => h.block k (hn k hk)⟩

/-- Parts that have to come, as they lie: the next one last. -/
def dueL (D : List Nat) : List Int := D.reverse.map fun (p : Nat) => (p : Int)
theorem dueL_cons (p : Nat) (D : List Nat) : dueL (p :: D) = dueL D ++ [(p : Int)] := by simp [dueL]
theorem dueL_app (E D : List Nat) : dueL (E ++ D) = dueL D ++ dueL E := by simp [dueL]
theorem dueL_len (D : List Nat) : (dueL D).length = D.length := by simp [dueL]
/-- Two slices lie apart. -/
def Ap2 (v u : Value) : Prop := ∀ k, v.ownBlock = some k → u.ownBlock ≠ some k
theorem Ap2.ne {v u : Value} (h : Ap2 v u) : v.ownBlock = none ∨ v.ownBlock ≠ u.ownBlock := by
  cases e : v.ownBlock with
  | none => exact .inl rfl
  | some k => exact .inr (fun e2 => h k e e2.symm)
theorem Ap2.symm {v u : Value} (h : Ap2 v u) : Ap2 u v := fun k h1 h2 => h k h2 h1
/-- The parser in memory: its block, its slices. -/
structure PsR (w : World) (P : Nat → Prop) (B : Nat) (s : ByteArray) (vn vd : Value) (m : Mc) : Prop where
  c0 : w.cell? ⟨B, 0, none⟩ = some (.string s)
  c1 : w.cell? ⟨B, 1, none⟩ = some vn
  c2 : w.cell? ⟨B, 2, none⟩ = some (.int .i64 m.o)
  c3 : w.cell? ⟨B, 3, none⟩ = some vd
  fr : ∀ i, w.frozen? ⟨B, i, none⟩ = false
  hn : OwnN w 0 vn m.N
  hd : YtmaiecbhloagoaaGreatDoor.Own w 0 vd (dueL m.D)
  ap : Ap2 vn vd
  bn : ∀ k, vn.ownBlock = some k → k ≠ B ∧ ¬ P k
  bd : ∀ k, vd.ownBlock = some k → k ≠ B ∧ ¬ P k
  nb : ¬ P B
  lt : ∀ k, P k → k < w.heap.size
def PsM (w : World) (P : Nat → Prop) (B : Nat) (s : ByteArray) (m : Mc) : Prop := ∃ vn vd, PsR w P B s vn vd m
theorem PsR.blt {w : World} {P : Nat → Prop} {B : Nat} {s : ByteArray} {vn vd : Value} {m : Mc} (h : PsR w P B s vn vd m) : B < w.heap.size := ltT h.c0
theorem ne_row {k : Nat} {v : Value} (h : ∀ j, v.ownBlock = some j → j ≠ k) : v.ownBlock = none ∨ v.ownBlock ≠ some k := by
  cases e : v.ownBlock with
  | none => exact .inl rfl
  | some j => exact .inr (fun e2 => h j e (by injection e2))
/-- What turns none of the parser's blocks keeps it. -/
theorem PsR.grown {w w' : World} {P : Nat → Prop} {B : Nat} {s : ByteArray} {vn vd : Value} {m : Mc} (h : PsR w P B s vn vd m) {row : Option Nat} (hg : w.grownBy w' row) (hB : row ≠ some B) (h1 : vn.ownBlock = none ∨ vn.ownBlock ≠ row) (h2 : vd.ownBlock = none ∨ vd.ownBlock ≠ row) : PsR w' P B s vn vd m := by
  have hb := hg.block B h.blt (fun e => hB e.symm)
  have hc : ∀ i, w'.cell? ⟨B, i, none⟩ = w.cell? ⟨B, i, none⟩ := fun i => World.cell?_of_block hb
  exact ⟨(hc 0).trans h.c0, (hc 1).trans h.c1, (hc 2).trans h.c2, (hc 3).trans h.c3, fun i => (World.frozen?_of_block (a := ⟨B, i, none⟩) hb).trans (h.fr i), h.hn.kept hg h1, World.ownsRow.kept h.hd hg h2, h.ap, h.bn, h.bd, h.nb, fun k hk => Nat.lt_of_lt_of_le (h.lt k hk) hg.size⟩
theorem grown_none {w w' : World} (h : Below w.heap.size w w') : w.grownBy w' none := ⟨h.os, h.tape, h.output, h.size, fun k hk _ => h.block k hk⟩
theorem own_ne_none {v : Value} : v.ownBlock = none ∨ v.ownBlock ≠ none := by
  cases v.ownBlock with
  | none => exact .inl rfl
  | some k => exact .inr (by simp)
theorem PsR.keep {w w' : World} {P : Nat → Prop} {B : Nat} {s : ByteArray} {vn vd : Value} {m : Mc} (h : PsR w P B s vn vd m) (hb : Below w.heap.size w w') : PsR w' P B s vn vd m := h.grown (grown_none hb) (by simp) own_ne_none own_ne_none
theorem PsM.keep {w w' : World} {P : Nat → Prop} {B : Nat} {s : ByteArray} {m : Mc} (h : PsM w P B s m) (hb : Below w.heap.size w w') : PsM w' P B s m := by
  obtain ⟨vn, vd, h⟩ := h
  exact ⟨vn, vd, h.keep hb⟩
/-- A field of the parser is stored. -/
theorem PsR.cells_set {w : World} {P : Nat → Prop} {B : Nat} {s : ByteArray} {vn vd : Value} {m : Mc} (h : PsR w P B s vn vd m) (i : Nat) (v : Value) :
    OwnN (w.setCell ⟨B, i, none⟩ v) 0 vn m.N ∧ YtmaiecbhloagoaaGreatDoor.Own (w.setCell ⟨B, i, none⟩ v) 0 vd (dueL m.D) ∧ (∀ j, (w.setCell ⟨B, i, none⟩ v).frozen? ⟨B, j, none⟩ = false) ∧ (∀ j, j ≠ i → (w.setCell ⟨B, i, none⟩ v).cell? ⟨B, j, none⟩ = w.cell? ⟨B, j, none⟩) ∧ (∀ k, P k → k < (w.setCell ⟨B, i, none⟩ v).heap.size) := by
  have hg := set_grown w ⟨B, i, none⟩ v
  refine ⟨h.hn.kept hg (ne_row (fun j hj => (h.bn j hj).1)), World.ownsRow.kept h.hd hg (ne_row (fun j hj => (h.bd j hj).1)), fun j => ?_, fun j hj => cell_far (.inr (fun e => hj e.symm)), fun k hk => Nat.lt_of_lt_of_le (h.lt k hk) hg.size⟩
  rw [World.frozen?_setCell]; exact h.fr j
/-- The open brackets. -/
theorem PsR.setO {w : World} {P : Nat → Prop} {B : Nat} {s : ByteArray} {vn vd : Value} {m : Mc} (h : PsR w P B s vn vd m) (o : Int) : PsR (w.setCell ⟨B, 2, none⟩ (.int .i64 o)) P B s vn vd ⟨m.N, o, m.D⟩ := by
  obtain ⟨h1, h2, h3, h4, h5⟩ := h.cells_set 2 (.int .i64 o)
  exact ⟨(h4 0 (by omega)).trans h.c0, (h4 1 (by omega)).trans h.c1, cell_here h.c2, (h4 3 (by omega)).trans h.c3, h3, h1, h2, h.ap, h.bn, h.bd, h.nb, h5⟩
/-- Another slice of what has to come. -/
theorem PsR.setD {w : World} {P : Nat → Prop} {B : Nat} {s : ByteArray} {vn vd : Value} {m : Mc} (h : PsR w P B s vn vd m) {vd' : Value} {D : List Nat} (hd : YtmaiecbhloagoaaGreatDoor.Own w 0 vd' (dueL D)) (ap : Ap2 vn vd') (bd : ∀ k, vd'.ownBlock = some k → k ≠ B ∧ ¬ P k) : PsR (w.setCell ⟨B, 3, none⟩ vd') P B s vn vd' ⟨m.N, m.o, D⟩ := by
  obtain ⟨h1, h2, h3, h4, h5⟩ := h.cells_set 3 vd'
  exact ⟨(h4 0 (by omega)).trans h.c0, (h4 1 (by omega)).trans h.c1, (h4 2 (by omega)).trans h.c2, cell_here h.c3, h3, h1, World.ownsRow.kept hd (set_grown w ⟨B, 3, none⟩ vd') (ne_row (fun j hj => (bd j hj).1)), ap, h.bn, bd, h.nb, h5⟩
/-- Another slice of nodes. -/
theorem PsR.setN {w : World} {P : Nat → Prop} {B : Nat} {s : ByteArray} {vn vd : Value} {m : Mc} (h : PsR w P B s vn vd m) {vn' : Value} {N : List Nd} (hn : OwnN w 0 vn' N) (ap : Ap2 vn' vd) (bn : ∀ k, vn'.ownBlock = some k → k ≠ B ∧ ¬ P k) : PsR (w.setCell ⟨B, 1, none⟩ vn') P B s vn' vd ⟨N, m.o, m.D⟩ := by
  obtain ⟨h1, h2, h3, h4, h5⟩ := h.cells_set 1 vn'
  exact ⟨(h4 0 (by omega)).trans h.c0, cell_here h.c1, (h4 2 (by omega)).trans h.c2, (h4 3 (by omega)).trans h.c3, h3, hn.kept (set_grown w ⟨B, 1, none⟩ vn') (ne_row (fun j hj => (bn j hj).1)), h2, ap, bn, h.bd, h.nb, h5⟩

/-- What a method answers that takes a token. -/
def TakeE (P : Nat → Prop) (B : Nat) (s : ByteArray) (r : Nat × Mc) (w : World) (e : Ending) (w' : World) : Prop :=
  e = .returned (.int .i64 r.1) ∧ (r.1 = 0 → PsM w' P B s r.2) ∧ KpP P w w'
theorem ret_intP {a b : Int} (h : a = b) : Ending.returned (.int .i64 a) = .returned (.int .i64 b) := by rw [h]

/-- What has to come next; 0: nothing. -/
def hdD (m : Mc) : Nat := match m.D with
  | [] => 0
  | p :: _ => p
def tlD (m : Mc) : Mc := ⟨m.N, m.o, m.D.tail⟩
set_option maxHeartbeats 1000000 in
set_option maxRecDepth 100000 in
theorem next_any (P : Nat → Prop) (B : Nat) (s : ByteArray) (m : Mc) (hD : m.D.length ≤ 100000) (w : World) (h : PsM w P B s m) :
    Calls Tryz.prog 45 #[.pointer (some ⟨B, 0, none⟩)] w fun e w' => e = .returned (.int .i64 (hdD m : Nat)) ∧ PsM w' P B s (tlD m) ∧ KpP P w w' := by
  obtain ⟨vn, vd, h⟩ := h
  obtain ⟨N, o, D⟩ := m
  have H := Lib.hid h
  obtain ⟨c0, c1, c2, c3, fr, hn, hd, ap, bn, bd, nb, lt⟩ := h
  dsimp only at *
  have f3 := fr 3
  clear c0 c1 c2 fr hn ap bn nb lt
  cases D with
  | nil =>
    obtain ⟨a, cap, rfl⟩ : ∃ a cap, vd = .slice a 0 cap := by
      rcases hd.reads with ⟨rfl, _⟩ | ⟨g, cap, rfl, _⟩
      · exact ⟨_, _, rfl⟩
      · exact ⟨_, _, rfl⟩
    clear hd
    go_enter Tryz.func45, Tryz.ntmps45
    go_wp2_with fail
    go_ret
    exact ⟨rfl, ⟨_, _, H.out⟩, KpP.refl _ _⟩
  | cons p D =>
    rw [dueL_cons] at hd
    rcases hd.reads with ⟨_, e⟩ | ⟨g, cap, rfl, _, hg, hr⟩
    · exact absurd (congrArg List.length e) (by simp)
    have hl := dueL_len D
    have hlen : (dueL D ++ [(p : Int)]).length = D.length + 1 := by simp [hl]
    have hp := hr D.length (by rw [hlen]; omega)
    rw [show (dueL D ++ [(p : Int)]).getD D.length 0 = (p : Int) by rw [List.getD_eq_getElem?_getD, List.getElem?_append_right (by omega), hl]; simp, Nat.zero_add] at hp
    have hcap : D.length + 1 ≤ cap ∧ cap ≤ 9223372036854775807 := by
      rcases hd.2 with ⟨e, _⟩ | ⟨g', cap', cur, e, _, _, h1, h2, _⟩
      · cases e
      · injection e with e1 e2 e3
        subst e3
        rw [hlen] at h1
        exact ⟨h1, by unfold maxLen at h2; exact h2⟩
    rw [hlen] at c3 H
    have hpop : YtmaiecbhloagoaaGreatDoor.Own w 0 (.slice (some ⟨g, 0, none⟩) D.length cap) (dueL D) := by
      have hd' := hd
      unfold YtmaiecbhloagoaaGreatDoor.Own at hd' ⊢
      rw [hlen, List.map_append] at hd'
      rw [hl]
      exact ownsRow_pop (by simp [hl]) hd'
    have HR : Hid (PsR (w.setCell ⟨B, 3, none⟩ (.slice (some ⟨g, 0, none⟩) D.length cap)) P B s vn (.slice (some ⟨g, 0, none⟩) D.length cap) ⟨N, o, D⟩) := Lib.hid (H.out.setD hpop (fun k h1 h2 => H.out.ap k h1 h2) (fun k hk => H.out.bd k hk))
    have hL1 : ((D.length : Int) + 1 - 1) = (D.length : Int) := by omega
    have i0 : (0 : Int) ≤ (D.length : Int) := by omega
    have i1 : (D.length : Int) < (D.length : Int) + 1 := by omega
    have i2 : (D.length : Int) ≤ (cap : Int) := by omega
    have i3 : ¬ (D.length : Int) < 0 := by omega
    clear hd hpop hr bd hlen hl
    go_enter Tryz.func45, Tryz.ntmps45
    go_wp2_with fail
    go_ret
    exact ⟨rfl, ⟨_, _, HR.out⟩, KpP.set _ _ _ H.out.lt H.out.nb⟩

end Go.Proofs.YtmaiecbhloagoaaGreatDoor
