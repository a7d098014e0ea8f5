/-
  chattellaw13: locks that came in, each a period and a clock.
-/
import Derived.Test.YtjddmgmblohpaaaPdL
namespace Go.Proofs.Ytjddmgmblohpaaa
open Go.RowKit Go.Lib
set_option linter.unusedVariables false
set_option linter.unusedSimpArgs false

structure Tw where
  p : Int
  c : Int
instance : Inhabited Tw := ⟨⟨0, 0⟩⟩
def twL (c : Tw) : List Value := [.int .i64 c.p, .int .i64 c.c]
theorem twL_len (c : Tw) : (twL c).length = 2 := rfl
/-- A slice of them that came in. -/
def SlTw (w : World) (v : Value) (l : List Tw) : Prop := RowX twL 2 w v l ∧ ∀ j, j < l.length → I64 (l.getD j default).p ∧ I64 (l.getD j default).c
theorem SlTw.keep {w w' : World} {v : Value} {l : List Tw} (h : SlTw w v l) (hb : Below w.heap.size w w') : SlTw w' v l := ⟨h.1.keep hb, h.2⟩
theorem SlTw.slice {w : World} {v : Value} {l : List Tw} (h : SlTw w v l) : ∃ a cap, v = .slice a l.length cap := h.1.slice
theorem SlTw.len {w : World} {v : Value} {l : List Tw} (h : SlTw w v l) : l.length ≤ 9223372036854775807 := by
  rcases h.1 with ⟨rfl, _⟩ | ⟨_, b, o, c, e, h1, h2, h3⟩
  · exact Nat.zero_le _
  · omega
theorem SlTw.at {w : World} {a : Option Addr} {n cap : Nat} {l : List Tw} (h : SlTw w (.slice a n cap) l) {i : Nat} (hi : i < l.length) : ∃ b o, a = some ⟨b, o, none⟩ ∧ n = l.length ∧ l.length ≤ cap ∧ cap ≤ 9223372036854775807 ∧ w.cell? ⟨b, o + i * 2, none⟩ = some (.int .i64 (l.getD i default).p) ∧ w.cell? ⟨b, o + i * 2 + 1, none⟩ = some (.int .i64 (l.getD i default).c) := by
  rcases h.1 with ⟨rfl, _⟩ | ⟨_, b, o, c, e, h1, h2, h3⟩
  · exact absurd hi (Nat.not_lt_zero _)
  · injection e with e1 e2 e3
    subst e1 e2 e3
    exact ⟨b, o, rfl, rfl, h1, h2, h3 i hi 0 _ (by decide) rfl, h3 i hi 1 _ (by decide) rfl⟩
theorem lkE_yes {s l : Nat} {p c : Int} (h : lkE s l p c = 0) : p = (l : Int) ∧ ¬ c ≤ spT s p := by
  unfold lkE at h
  by_cases c1 : p < 0 ∨ lastP s < p
  · rw [if_pos c1] at h; omega
  by_cases c2 : p < (l : Int)
  · rw [if_neg c1, if_pos c2] at h; omega
  by_cases c3 : (l : Int) < p
  · rw [if_neg c1, if_neg c2, if_pos c3] at h; omega
  by_cases c4 : c ≤ spT s p
  · rw [if_neg c1, if_neg c2, if_neg c3, if_pos c4] at h; omega
  · exact ⟨by omega, c4⟩
theorem bk_any {s l : Nat} {d : Int} (h1 : 1 ≤ s) (h4 : s ≤ 400) (hl : l ≤ 60) : bkE s l d = 18 ∨ (bkE s l d = 0 ∧ (l : Int) ≤ bkV s l d) := by
  by_cases h : d < 0 ∨ 73048 < d
  · exact .inl (bk_no h)
  · have A := bk_in (s := s) (l := l) (d := d) h1 h4 hl (by omega) (by omega)
    exact .inr ⟨A.e, by rw [A.bv]; exact A.lv⟩

end Go.Proofs.Ytjddmgmblohpaaa
