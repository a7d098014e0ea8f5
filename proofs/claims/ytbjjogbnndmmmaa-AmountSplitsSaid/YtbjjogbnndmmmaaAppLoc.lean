/-
  An append to a slice of the call's own, and where the slice lies behind it; numbers of bits that lie apart from some blocks.
-/
import Derived.Test.YtbjjogbnndmmmaaRefL
import Derived.Test.YtbjjogbnndmmmaaHeldV
namespace Go.Proofs.Ytbjjogbnndmmmaa
open Go.RowKit
set_option linter.unusedVariables false

theorem run_append_loc {P : Program} (w : World) (base : Nat) (t ty e : TypeId) (i : TypeInfo) (z : Value) (size bytes : Nat) (ht : P.underlying t = some (.slice e)) (hi : P.info? e = some i) (hz : i.zero = some z)
    (hsize : i.size = size) (hby : i.bytes = bytes) (hzs : z.cells.size = size) (hsz : 0 < size)
    (v : Value) (n : Nat) (xs : List Value) (hown : w.ownsRow base e size v n xs)
    (a : Addr) (m c : Nat) (news : List Value) (hl : news.length = m * size) (hnews : ∀ j u, news[j]? = some u → w.cell? (a.add j) = some u) (h1 : ∀ u ∈ news, u.oneCell' = true)
    (h63 : n + m ≤ maxLen) (hbytes : (n + m) * bytes ≤ 140737488355328) (hbase : base ≤ w.heap.size) :
    ∃ v' w', (Builtin.append_ #[t, t] ty #[v, .slice (some a) m c]).run P w = .ok v' w' ∧ w'.ownsRow base e size v' (n + m) (xs ++ news) ∧ w.grownBy w' v.ownBlock ∧
      (v'.ownBlock = v.ownBlock ∨ v'.ownBlock = some w.heap.size) := by
  obtain ⟨v', w', hr, h2, h3, h4⟩ := run_append_own (P := P) w base t ty e i z size bytes ht hi hz hsize hby hzs hsz v n xs hown a m c news hl hnews h1 h63 hbytes hbase
  refine ⟨v', w', hr, h2, h3, ?_⟩
  have hmax : n + m ≤ 9223372036854775807 := by unfold maxLen at h63; omega
  subst hsize
  subst hby
  rcases hown.2 with ⟨rfl, rfl⟩ | ⟨g, cap, cur, rfl, hbg, hg, hnc, hcm, hcs, htake⟩
  · by_cases hm : m = 0
    · rw [h4.2 ⟨rfl, hm⟩]; exact Or.inl rfl
    · have hr' := run_append_nil (P := P) w t ty e i z ht hi hz a m c news hl hnews (by omega) (by omega) (by have hb := hbytes; rw [Nat.zero_add] at hb; omega)
      rw [hr] at hr'
      injection hr' with e1 e2
      rw [e1]; exact Or.inr rfl
  · by_cases hroom : n + m ≤ cap
    · have hfit : n * i.size + news.length ≤ cur.size := by rw [hl, hcs, ← Nat.add_mul]; exact Nat.mul_le_mul_right _ hroom
      have hr' := run_append_room (P := P) w t ty e i ht hi g n cap cur hg a m c news hl hnews h1 hroom hfit
      rw [hr] at hr'
      injection hr' with e1 e2
      rw [e1]; exact Or.inl rfl
    · have hr' := run_append_grow (P := P) w t ty e i z ht hi hz ⟨g, 0, none⟩ n cap xs hown.1 (hown.cells (g := g) rfl) a m c news hl hnews (by omega) (by omega) (growslice_fits (by omega) hbytes)
      rw [hr] at hr'
      injection hr' with e1 e2
      rw [e1]; exact Or.inr rfl

theorem wpList_append_loc {P : Program} {w : World} {ops : Array Oper} {rest : List Oper} {o : Oper} {a : Act} {Q : Exit → Act → World → Prop} (hgd : o.guard = none) (s x : Operand) (t : TypeId)
    (ho : o.op = .call { callee := .builtin .append, args := #[s, x], argTypes := #[t, t] })
    (base : Nat) (e : TypeId) (i : TypeInfo) (z : Value) (size bytes : Nat) (ht : P.underlying t = some (.slice e)) (hi : P.info? e = some i) (hz : i.zero = some z)
    (hsize : i.size = size) (hby : i.bytes = bytes) (hzs : z.cells.size = size) (hsz : 0 < size)
    (v : Value) (n : Nat) (xs : List Value) (hs : a.eval s = v) (hown : w.ownsRow base e size v n xs)
    (ad : Addr) (m c : Nat) (news : List Value) (hx : a.eval x = .slice (some ad) m c) (hl : news.length = m * size) (hnews : ∀ j u, news[j]? = some u → w.cell? (ad.add j) = some u) (h1 : ∀ u ∈ news, u.oneCell' = true)
    (h63 : n + m ≤ maxLen) (hbytes : (n + m) * bytes ≤ 140737488355328) (hbase : base ≤ w.heap.size)
    (h : ∀ v' w', w'.ownsRow base e size v' (n + m) (xs ++ news) → w.grownBy w' v.ownBlock → (v'.ownBlock = v.ownBlock ∨ v'.ownBlock = some w.heap.size) → wpList P ops Q rest (a.put o.dst v') w') : wpList P ops Q (o :: rest) a w := by
  refine wpList_plain hgd fun K hK => ?_
  obtain ⟨v', w', hr, h2, h3, h4⟩ := run_append_loc (P := P) w base t o.type e i z size bytes ht hi hz hsize hby hzs hsz v n xs hown ad m c news hl hnews h1 h63 hbytes hbase
  unfold Oper.wp execOp
  simp only [ho, resolve, invoke, builtin, Sem.run_bind, Sem.run_pure, Result.andThen_ok, List.map_toArray, List.map_cons, List.map_nil, hs, hx, hr]
  exact hK _ _ (h v' w' h2 h3 h4)

/-- A number whose bits lie in no block of some. -/
def BigFar (w : World) (v : Value) (z : Int) (Bad : Nat → Prop) : Prop :=
  ∃ s a n c, v = .agg #[.bool s, .slice a n c] ∧ BigV w v z ∧ (bitsN z.natAbs = [] ∨ ∃ ad, a = some ad ∧ ad.block < w.heap.size ∧ ¬ Bad ad.block)
theorem BigFar.big {w : World} {v : Value} {z : Int} {Bad : Nat → Prop} (h : BigFar w v z Bad) : BigV w v z := by
  obtain ⟨_, _, _, _, _, h, _⟩ := h; exact h
theorem BigFar.of {w : World} {s : Bool} {a : Option Addr} {n c : Nat} {z : Int} {B : Nat} (h : BigV w (.agg #[.bool s, .slice a n c]) z) (hl : LocR B a) : BigFar w (.agg #[.bool s, .slice a n c]) z (fun b => b < B) := by
  refine ⟨s, a, n, c, rfl, h, ?_⟩
  obtain ⟨_, e, hs⟩ := id h
  obtain ⟨h1, h2⟩ := (bigv_sign h).2.len
  rcases h2 with h2 | ⟨b, o, rfl, h3, _⟩
  · exact Or.inl h2
  · exact Or.inr ⟨_, rfl, h3, Nat.not_lt.2 (hl _ rfl)⟩
/-- What else changes does not count. -/
theorem BigFar.turn {w w' : World} {v : Value} {z : Int} {Bad Bad' : Nat → Prop} (h : BigFar w v z Bad) (hs : w.heap.size ≤ w'.heap.size) (hb : ∀ b, b < w.heap.size → ¬ Bad b → ∀ o, w'.cell? ⟨b, o, none⟩ = w.cell? ⟨b, o, none⟩) (hB : ∀ b, b < w.heap.size → ¬ Bad b → ¬ Bad' b) : BigFar w' v z Bad' := by
  obtain ⟨s, a, n, c, rfl, h1, h2⟩ := h
  obtain ⟨e1, e2⟩ := bigv_sign h1
  obtain ⟨a', c', e3, h3, h4, h5⟩ := e2
  injection e3 with e3 e4 e5
  subst e3; subst e4; subst e5
  refine ⟨s, a, _, c, rfl, ⟨.slice a _ c, by rw [e1], a, c, rfl, h3, h4, ?_⟩, ?_⟩
  · rcases h5 with h5 | ⟨b, o, rfl, h6, h7⟩
    · exact Or.inl h5
    · rcases h2 with h2 | ⟨ad, e6, h8, h9⟩
      · exact Or.inl h2
      · injection e6 with e6
        subst e6
        exact Or.inr ⟨b, o, rfl, Nat.lt_of_lt_of_le h6 hs, fun t ht => by rw [hb b h8 h9]; exact h7 t ht⟩
  · rcases h2 with h2 | ⟨ad, e6, h8, h9⟩
    · exact Or.inl h2
    · exact Or.inr ⟨ad, e6, Nat.lt_of_lt_of_le h8 hs, hB _ h8 h9⟩
theorem BigFar.keep {w w' : World} {v : Value} {z : Int} {Bad : Nat → Prop} (h : BigFar w v z Bad) (hb : Below w.heap.size w w') : BigFar w' v z Bad :=
  h.turn hb.size (fun b hlt _ o => hb.cell (p := ⟨b, o, none⟩) hlt) (fun _ _ h => h)
theorem BigFar.grown {w w' : World} {v : Value} {z : Int} {Bad Bad' : Nat → Prop} {row : Option Nat} (h : BigFar w v z Bad) (hg : w.grownBy w' row) (hr : ∀ b, row = some b → b < w.heap.size → Bad b) (hB : ∀ b, b < w.heap.size → Bad' b → Bad b) : BigFar w' v z Bad' :=
  h.turn hg.size (fun b hlt hn o => World.cell?_of_block (a := ⟨b, o, none⟩) (hg.block b hlt (fun e => hn (hr b e.symm hlt)))) (fun b hlt hn hb => hn (hB b hlt hb))
theorem BigFar.set {w : World} {v : Value} {z : Int} {Bad : Nat → Prop} (h : BigFar w v z Bad) {p : Addr} (hp : Bad p.block) (u : Value) : BigFar (w.setCell p u) v z Bad :=
  h.turn (by simp) (fun b _ hn o => cell_other (fun e => hn (by rw [e] at hp; exact hp))) (fun _ _ h => h)

end Go.Proofs.Ytbjjogbnndmmmaa
