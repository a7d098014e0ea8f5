/-
  chattelref01's Mul.
-/
import Derived.Test.YtedjbmmegjgegaaRefE
import Derived.Test.YtedjbmmegjgegaaCells
import Derived.OwnWalk
import Derived.Laws.OwnMore
namespace Go.Proofs.Ytedjbmmegjgegaa
open Go.RowKit
set_option linter.unusedVariables false

theorem run_append_none_any {P : Program} {w : World} (base : Nat) (t ty e : TypeId) (i : TypeInfo) (size : Nat) (ht : P.underlying t = some (.slice e)) (hi : P.info? e = some i)
    (v : Value) (n c : Nat) (xs : List Value) (hown : w.ownsRow base e size v n xs) :
    (Builtin.append_ #[t, t] ty #[v, .slice none 0 c]).run P w = .ok v w := by
  rcases hown.2 with ⟨rfl, rfl⟩ | ⟨g, cap, cur, rfl, _, _, hnc, _⟩
  · simp [Builtin.append_, run_underlying ht, sizeOf, typeInfo, hi, Builtin.lenOf, Builtin.firstCells]
  · simp [Builtin.append_, run_underlying ht, sizeOf, typeInfo, hi, Builtin.lenOf, Builtin.firstCells, hnc, storeCells]

theorem wpList_append_none_any {P : Program} {w : World} {ops : Array Oper} {rest : List Oper} {o : Oper} {a : Act} {Q : Exit → Act → World → Prop} (hgd : o.guard = none) (s x : Operand) (t : TypeId)
    (ho : o.op = .call { callee := .builtin .append, args := #[s, x], argTypes := #[t, t] })
    (base : Nat) (e : TypeId) (i : TypeInfo) (size : Nat) (ht : P.underlying t = some (.slice e)) (hi : P.info? e = some i)
    (v : Value) (n c : Nat) (xs : List Value) (hs : a.eval s = v) (hown : w.ownsRow base e size v n xs) (hx : a.eval x = .slice none 0 c)
    (h : wpList P ops Q rest (a.put o.dst v) w) : wpList P ops Q (o :: rest) a w := by
  refine wpList_plain hgd fun K hK => ?_
  have hrun := run_append_none_any (P := P) (w := w) base t o.type e i size ht hi v n c xs hown
  unfold Oper.wp
  simp [execOp, ho, resolve, invoke, builtin, hs, hx, hrun, Result.andThen]
  exact hK _ _ h

/-- A row of noughts, made. -/
theorem own_made (w : World) (base n : Nat) (hb : base ≤ w.heap.size) (hn : n ≤ 1000000) : Own (w.alloc (.cells (madeCells #[.int .i64 0] n) 3)) base (.slice (some ⟨w.heap.size, 0, none⟩) n n) (List.replicate n 0) := by
  have h := World.ownsRow_lit (base := base) (e := 3) (size := 1) w (madeCells #[.int .i64 0] n) n hb (by unfold maxLen; omega) (by rw [size_madeCells, Nat.mul_one])
  unfold Own
  rw [toList_madeCells_one] at h
  rw [List.length_replicate, List.map_replicate]
  exact h

theorem val_zeros (i : Nat) (l : List Int) : val (List.replicate i 0 ++ l) = 2 ^ i * val l := by
  induction i with
  | zero => simp
  | succ i ih =>
    rw [List.replicate_succ, List.cons_append]
    show (0 : Int).toNat + 2 * val (List.replicate i 0 ++ l) = _
    rw [ih, Nat.pow_succ, Nat.mul_comm (2 ^ i) 2, Nat.mul_assoc]; simp
theorem bits_zeros (i : Nat) {l : List Int} (h : IsBits l) : IsBits (List.replicate i 0 ++ l) := by
  induction i with
  | zero => simpa using h
  | succ i ih => rw [List.replicate_succ, List.cons_append]; exact IsBits.cons (Or.inl rfl) ih
theorem val_take_succ (b : List Int) (i : Nat) (hi : i < b.length) : val (b.take (i + 1)) = val (b.take i) + 2 ^ i * (b.getD i 0).toNat := by
  rw [List.take_succ_eq_append_getElem hi, val_snoc, List.length_take, Nat.min_eq_left (Nat.le_of_lt hi), List.getD_eq_getElem?_getD, List.getElem?_eq_getElem hi]
  rfl

/-- Where Mul's loop stands. -/
structure MulInv (x : Nat) (b : List Int) (n i : Nat) (out : List Int) : Prop where
  lim : i ≤ b.length
  bits : IsBits out
  eq : val out = x * val (b.take i)
  len : out.length ≤ n + i + 1

theorem MulInv.start (x : Nat) (b : List Int) (n : Nat) : MulInv x b n 0 [] := ⟨Nat.zero_le _, IsBits.nil, by simp [val], by simp⟩
theorem MulInv.skip {x : Nat} {b : List Int} {n i : Nat} {out : List Int} (h : MulInv x b n i out) (hi : i < b.length) (hy : b.getD i 0 = 0) : MulInv x b n (i + 1) out :=
  ⟨hi, h.bits, by rw [val_take_succ b i hi, hy, h.eq]; simp, by have := h.len; omega⟩
theorem MulInv.step {x : Nat} {b : List Int} {n i : Nat} {out out' : List Int} (h : MulInv x b n i out) (hi : i < b.length) (hy : b.getD i 0 = 1) (hn : (bitsN x).length = n)
    (hv : val out' = val out + val (List.replicate i 0 ++ bitsN x)) (hb : IsBits out') (hl : out'.length ≤ out.length + 1 ∨ out'.length ≤ (List.replicate i (0 : Int) ++ bitsN x).length + 1) : MulInv x b n (i + 1) out' := by
  refine ⟨hi, hb, ?_, ?_⟩
  · rw [hv, val_zeros, val_bitsN, val_take_succ b i hi, hy, h.eq, Nat.mul_add, Nat.mul_comm (2 ^ i) x]; simp
  · have := h.len
    rw [List.length_append, List.length_replicate, hn] at hl
    omega

theorem below_app {w w2 : World} {o : Obj} (hg : (w.alloc o).grownBy w2 (some w.heap.size)) : Below w.heap.size w w2 :=
  Below.grown (Below.alloc (Below.refl _ w) (Nat.le_refl _) o) hg (by simp) (by intro k hk; cases hk; exact Nat.le_refl _)

theorem after3p {w w' : World} {s0 s1 t0 t1 u0 u1 : Value} {e1 e2 e3 : TypeId} (hb : Below (((w.alloc (.cells #[s0, s1] e1)).alloc (.cells #[t0, t1] e2)).alloc (.cells #[u0, u1] e3)).heap.size (((w.alloc (.cells #[s0, s1] e1)).alloc (.cells #[t0, t1] e2)).alloc (.cells #[u0, u1] e3)) w') :
    w'.cell? ⟨w.heap.size, 0, none⟩ = some s0 ∧ w'.cell? ⟨w.heap.size, 1, none⟩ = some s1 ∧ w'.cell? ⟨w.heap.size + 1, 0, none⟩ = some t0 ∧ w'.cell? ⟨w.heap.size + 1, 1, none⟩ = some t1 ∧
    w'.cell? ⟨w.heap.size + 1 + 1, 0, none⟩ = some u0 ∧ w'.cell? ⟨w.heap.size + 1 + 1, 1, none⟩ = some u1 ∧ w'.frozen? ⟨w.heap.size + 1 + 1, 0, none⟩ = false ∧ w'.frozen? ⟨w.heap.size + 1 + 1, 1, none⟩ = false ∧ w.heap.size + 3 ≤ w'.heap.size :=
  after3 (w' := w') ⟨hb.os, hb.tape, hb.output, hb.size, hb.block⟩

theorem own_join {w' : World} {base : Nat} {v' : Value} {l : List Int} {i n : Nat} (h : w'.ownsRow base 3 1 v' ((List.replicate i (0 : Int)).length + n) ((List.replicate i 0).map (Value.int .i64) ++ l.map (Value.int .i64))) (hn : n = l.length) : Own w' base v' (List.replicate i 0 ++ l) := by
  unfold Own
  subst hn
  rw [List.length_append, List.map_append]; exact h

theorem row_news {w : World} {b o : Nat} {l : List Int} (h : Row w b o l) : ∀ j u, (l.map (Value.int .i64))[j]? = some u → w.cell? ((⟨b, o, none⟩ : Addr).add j) = some u := by
  intro j u hj
  rw [List.getElem?_map] at hj
  by_cases g : j < l.length
  · have := h j g
    rw [List.getElem?_eq_getElem g] at hj
    rw [List.getD_eq_getElem?_getD, List.getElem?_eq_getElem g] at this
    simp at hj this
    subst hj
    rw [show ((⟨b, o, none⟩ : Addr).add j) = ⟨b, o + j, none⟩ from by simp [Addr.add]]
    exact this
  · rw [List.getElem?_eq_none (by omega)] at hj; cases hj
theorem news_one (l : List Int) : ∀ u ∈ l.map (Value.int .i64), u.oneCell' = true := by
  intro u hu; obtain ⟨x, _, rfl⟩ := List.mem_map.1 hu; rfl

theorem slf_news {w : World} {ad : Addr} {l : List Int} (h : SLF w (some ad) l) : ∀ j u, (l.map (Value.int .i64))[j]? = some u → w.cell? (ad.add j) = some u := by
  rcases h with rfl | ⟨b, o, e, _, hr⟩
  · intro j u hj; simp at hj
  · cases e; exact row_news hr
theorem Own.base {w : World} {b b' : Nat} {v : Value} {l : List Int} (h : Own w b v l) (hb : b' ≤ b) : Own w b' v l := by
  obtain ⟨h1, h2⟩ := h
  refine ⟨h1, ?_⟩
  rcases h2 with h2 | ⟨g, cap, cur, e, hg, h3⟩
  · exact Or.inl h2
  · exact Or.inr ⟨g, cap, cur, e, Nat.le_trans hb hg, h3⟩

theorem join_len (i : Nat) {n : Nat} {l : List Int} (h : n = l.length) : (List.replicate i (0 : Int) ++ l).length = i + n := by rw [List.length_append, List.length_replicate, h]

end Go.Proofs.Ytedjbmmegjgegaa
