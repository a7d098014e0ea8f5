/-
  Agendas side by side, and calls one behind the other from any list on: no program.
-/
import Derived.Test.YtkfcaafjnolhgaaAlB
import Derived.Test.YtkfcaafjnolhgaaAjB
namespace Go.Proofs.Ytkfcaafjnolhgaa
open Go.RowKit Go.Lib Go.Maps Go.Sort Go.Shelf
set_option linter.unusedVariables false
set_option linter.unusedSimpArgs false

/-- The calls, one after another, from a list on. -/
def runF (s : List It × Nat) (l : List Cl) : List It × Nat := l.foldl (fun s c => ((doZ c.k c.d c.t s.1 s.2).L, (doZ c.k c.d c.t s.1 s.2).n)) s
theorem runF_zero (s : List It × Nat) : runF s [] = s := rfl
theorem runF_next {s : List It × Nat} {l : List Cl} {i : Nat} (hi : i < l.length) : runF s (l.take (i + 1)) = ((doZ (l.getD i default).k (l.getD i default).d (l.getD i default).t (runF s (l.take i)).1 (runF s (l.take i)).2).L, (doZ (l.getD i default).k (l.getD i default).d (l.getD i default).t (runF s (l.take i)).1 (runF s (l.take i)).2).n) := by
  rw [take_cl hi]
  unfold runF
  rw [List.foldl_append]
  rfl
theorem runF_le (s : List It × Nat) (l : List Cl) : (runF s l).1.length ≤ s.1.length + l.length ∧ (runF s l).2 ≤ s.2 + l.length := runZ_from l s
/-- An agenda that stands beside one that does something. -/
theorem AgV.beside {w w' : World} {a q bm base2 c qc bc n2 : Nat} {lv lv2 lc : Value} {M : List It} (hY : AgV w base2 c qc bc lc M n2) (ho : Off (FpA a q bm lv) w w') (hap : ∀ k, FpA a q bm lv k → ¬ FpA c qc bc lc k) (hf : ∀ k, FpA a q bm lv2 k → FpA a q bm lv k ∨ w.heap.size ≤ k) : AgV w' base2 c qc bc lc M n2 ∧ ∀ k, FpA a q bm lv2 k → ¬ FpA c qc bc lc k :=
  ⟨hY.off ho (fun k hk e => hap k e hk), fun k h h2 => (hf k h).elim (fun e => hap k e h2) (fun e => by have := hY.hi k h2; omega)⟩
/-- A row that stands beside one. -/
theorem OwnX.beside {w w' : World} {B a q bm : Nat} {lv lv2 v : Value} {L : List It} {ty : TypeId} (hO : OwnX itL 3 ty w B v L) (ho : Off (FpA a q bm lv) w w') (hap : ∀ j, v.ownBlock = some j → ¬ FpA a q bm lv j) (hf : ∀ k, FpA a q bm lv2 k → FpA a q bm lv k ∨ w.heap.size ≤ k) : OwnX itL 3 ty w' B v L ∧ ∀ j, v.ownBlock = some j → ¬ FpA a q bm lv2 j :=
  ⟨ho.row hO hap, fun j hj h => (hf j h).elim (hap j hj) (fun e => by have := (hO.lt j hj).2; omega)⟩
/-- Three agendas, each apart from the others. -/
structure Tri (w wr : World) (a q bm : Nat) (lv : Value) (L : List It) (n : Nat) (B c qc bc : Nat) (lc : Value) (M : List It) (m : Nat) (D d qd bd : Nat) (ld : Value) (K : List It) (k : Nat) : Prop where
  fa : AgV wr w.heap.size a q bm lv L n
  fc : AgV wr B c qc bc lc M m
  fd : AgV wr D d qd bd ld K k
  ac : ∀ j, FpA a q bm lv j → ¬ FpA c qc bc lc j
  ad : ∀ j, FpA a q bm lv j → ¬ FpA d qd bd ld j
  cd : ∀ j, FpA c qc bc lc j → ¬ FpA d qd bd ld j
  hb : w.heap.size ≤ B ∧ w.heap.size ≤ D
  bel : Below w.heap.size w wr
theorem Tri.keep {w wr wy : World} {a q bm n B c qc bc m D d qd bd k : Nat} {lv lc ld : Value} {L M K : List It} (h : Tri w wr a q bm lv L n B c qc bc lc M m D d qd bd ld K k) (hb : Below wr.heap.size wr wy) : Tri w wy a q bm lv L n B c qc bc lc M m D d qd bd ld K k :=
  ⟨h.fa.keep hb, h.fc.keep hb, h.fd.keep hb, h.ac, h.ad, h.cd, h.hb, onF h.bel hb⟩
/-- The first one, a copy, the other copy does something. -/
theorem Tri.doA {w wr w2 : World} {a q bm n n' B c qc bc m D d qd bd k : Nat} {lv lc ld : Value} {L L' M K : List It} (h : Tri w wr a q bm lv L n B c qc bc lc M m D d qd bd ld K k) (ha : Aft wr w.heap.size a q bm lv L' n' w2) : ∃ lv2, Tri w w2 a q bm lv2 L' n' B c qc bc lc M m D d qd bd ld K k ∧ Off (FpA a q bm lv) wr w2 ∧ (∀ j, FpA a q bm lv2 j → FpA a q bm lv j ∨ wr.heap.size ≤ j) := by
  obtain ⟨lv2, h1, h2, h3⟩ := ha
  obtain ⟨c1, c2⟩ := h.fc.beside h2 h.ac h3
  obtain ⟨d1, d2⟩ := h.fd.beside h2 h.ad h3
  exact ⟨lv2, ⟨h1, c1, d1, c2, d2, h.cd, h.hb, h.bel.trans (h.fa.sb (Nat.le_refl _) h2 h.bel.size)⟩, h2, h3⟩
theorem Tri.doC {w wr w2 : World} {a q bm n B c qc bc m m' D d qd bd k : Nat} {lv lc ld : Value} {L M M' K : List It} (h : Tri w wr a q bm lv L n B c qc bc lc M m D d qd bd ld K k) (ha : Aft wr B c qc bc lc M' m' w2) : ∃ lc2, Tri w w2 a q bm lv L n B c qc bc lc2 M' m' D d qd bd ld K k ∧ Off (FpA c qc bc lc) wr w2 ∧ (∀ j, FpA c qc bc lc2 j → FpA c qc bc lc j ∨ wr.heap.size ≤ j) := by
  obtain ⟨lc2, h1, h2, h3⟩ := ha
  obtain ⟨a1, a2⟩ := h.fa.beside h2 (fun j hj e => h.ac j e hj) h3
  obtain ⟨d1, d2⟩ := h.fd.beside h2 h.cd h3
  exact ⟨lc2, ⟨a1, h1, d1, fun j hj e => a2 j e hj, h.ad, d2, h.hb, h.bel.trans (h.fc.sb h.hb.1 h2 h.bel.size)⟩, h2, h3⟩
theorem Tri.doD {w wr w2 : World} {a q bm n B c qc bc m D d qd bd k k' : Nat} {lv lc ld : Value} {L M K K' : List It} (h : Tri w wr a q bm lv L n B c qc bc lc M m D d qd bd ld K k) (ha : Aft wr D d qd bd ld K' k' w2) : ∃ ld2, Tri w w2 a q bm lv L n B c qc bc lc M m D d qd bd ld2 K' k' ∧ Off (FpA d qd bd ld) wr w2 ∧ (∀ j, FpA d qd bd ld2 j → FpA d qd bd ld j ∨ wr.heap.size ≤ j) := by
  obtain ⟨ld2, h1, h2, h3⟩ := ha
  obtain ⟨a1, a2⟩ := h.fa.beside h2 (fun j hj e => h.ad j e hj) h3
  obtain ⟨c1, c2⟩ := h.fc.beside h2 (fun j hj e => h.cd j e hj) h3
  exact ⟨ld2, ⟨a1, c1, h1, h.ac, fun j hj e => a2 j e hj, fun j hj e => c2 j e hj, h.hb, h.bel.trans (h.fd.sb h.hb.2 h2 h.bel.size)⟩, h2, h3⟩
/-- Two copies of an agenda. -/
theorem Tri.new {w wr w1 w2 : World} {a q bm n c qc bc d qd bd : Nat} {lv lc ld : Value} {L : List It} (ha : AgV wr w.heap.size a q bm lv L n) (hb : Below w.heap.size w wr) (hc : AgV w1 wr.heap.size c qc bc lc L n) (h1 : Below wr.heap.size wr w1) (hd : AgV w2 w1.heap.size d qd bd ld L n) (h2 : Below w1.heap.size w1 w2) : Tri w w2 a q bm lv L n wr.heap.size c qc bc lc L n w1.heap.size d qd bd ld L n :=
  ⟨ha.keep (onF h1 h2), hc.keep h2, hd, fun j h h' => by have := ha.hi j h; have := hc.lo j h'; omega, fun j h h' => by have := ha.hi j h; have := hd.lo j h'; have := h1.size; omega, fun j h h' => by have := hc.hi j h; have := hd.lo j h'; omega, ⟨hb.size, Nat.le_trans hb.size h1.size⟩, onF hb (onF h1 h2)⟩

end Go.Proofs.Ytkfcaafjnolhgaa
