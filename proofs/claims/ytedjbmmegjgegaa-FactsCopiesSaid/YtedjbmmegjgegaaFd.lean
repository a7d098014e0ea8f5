/-
  Package facts: in which order facts are told does not count, nor that one is told twice (no program).
-/
import Derived.Test.YtedjbmmegjgegaaFs
import Derived.Test.YtedjbmmegjgegaaFa
import Derived.Laws.AppendOwnNone
import Derived.Maps.AppendAt
import Derived.WideShapes
import Derived.Test.YtedjbmmegjgegaaFu
import Derived.Deep.RegionHeld3
import Derived.Deep.QuietTactic
import Derived.Test.YtedjbmmegjgegaaFq
namespace Go.Proofs.Ytedjbmmegjgegaa
open Go.RowKit Go.Lib Go.Maps Go.Sort Go.Shelf
set_option linter.unusedVariables false
set_option linter.unusedSimpArgs false

theorem srt_one {l : List Fct} (h : Srt l) {t u : Fct} (ht : t ∈ l) (hu : u ∈ l) (e1 : t.k = u.k) (e2 : t.d = u.d) : t = u := by
  have := srt_nd h
  obtain ⟨i, hi, rfl⟩ := List.mem_iff_getElem.1 ht
  obtain ⟨j, hj, rfl⟩ := List.mem_iff_getElem.1 hu
  rw [List.nodup_iff_pairwise_ne, List.pairwise_map, List.pairwise_iff_getElem] at this
  by_cases e : i = j
  · subst e; rfl
  · rcases Nat.lt_or_gt_of_ne e with h | h
    · exact absurd (by unfold plT; rw [e1, e2]) (this i j hi hj h)
    · exact absurd (by unfold plT; rw [e1, e2]) (this j i hj hi h)
/-- What is there already is put in vain. -/
theorem put_there {l : List Fct} (h : Srt l) {x : Fct} (hx : x ∈ l) : putL l x = l := by
  refine srt_ext (srt_put x h) h fun t => ?_
  rw [mem_put, neB_iff]
  constructor
  · rintro (rfl | ⟨h1, _⟩)
    · exact hx
    · exact h1
  · intro ht
    by_cases e : t.k = x.k ∧ t.d = x.d
    · exact .inl (srt_one h ht hx e.1 e.2)
    · exact .inr ⟨ht, e⟩
/-- What stands at two places is put either way round. -/
theorem put_turn {l : List Fct} (h : Srt l) {x y : Fct} (hn : ¬ (y.k = x.k ∧ y.d = x.d)) : putL (putL l x) y = putL (putL l y) x := by
  refine srt_ext (srt_put y (srt_put x h)) (srt_put x (srt_put y h)) fun t => ?_
  rw [mem_put, mem_put, mem_put, mem_put, neB_iff, neB_iff]
  constructor
  · rintro (rfl | ⟨rfl | ⟨h1, h2⟩, h3⟩)
    · exact .inr ⟨.inl rfl, hn⟩
    · exact .inl rfl
    · exact .inr ⟨.inr ⟨h1, h3⟩, h2⟩
  · rintro (rfl | ⟨rfl | ⟨h1, h2⟩, h3⟩)
    · exact .inr ⟨.inl rfl, fun e => hn ⟨e.1.symm, e.2.symm⟩⟩
    · exact .inl rfl
    · exact .inr ⟨.inr ⟨h1, h3⟩, h2⟩
def stF (a : List Fct) (t : Tol) : List Fct := if t.c = true then a else if tolE t = 0 then putL a ⟨t.k, t.d, t.x, t.y, 0⟩ else a
def stC (a : List Fct) (t : Tol) : List Fct := if t.c = true then (if tolE t = 0 then putL a ⟨t.k, t.d, 0, 0, t.p⟩ else a) else a
theorem plF_fold (L : List Tol) : plF L = L.foldl stF [] := rfl
theorem plC_fold (L : List Tol) : plC L = L.foldl stC [] := rfl
theorem stF_srt {a : List Fct} (h : Srt a) (t : Tol) : Srt (stF a t) := by
  unfold stF; split
  · exact h
  · split
    · exact srt_put _ h
    · exact h
theorem stC_srt {a : List Fct} (h : Srt a) (t : Tol) : Srt (stC a t) := by
  unfold stC; split
  · split
    · exact srt_put _ h
    · exact h
  · exact h
theorem foldF_srt (L : List Tol) : ∀ a, Srt a → Srt (L.foldl stF a) := by
  induction L with
  | nil => exact fun a h => h
  | cons x L ih => exact fun a h => ih _ (stF_srt h x)
theorem foldC_srt (L : List Tol) : ∀ a, Srt a → Srt (L.foldl stC a) := by
  induction L with
  | nil => exact fun a h => h
  | cons x L ih => exact fun a h => ih _ (stC_srt h x)
theorem stF_turn {a : List Fct} (h : Srt a) {s t : Tol} (hn : ¬ (s.c = t.c ∧ s.k = t.k ∧ s.d = t.d)) : stF (stF a s) t = stF (stF a t) s := by
  unfold stF
  by_cases c1 : s.c = true
  · simp only [if_pos c1]
  · by_cases c2 : t.c = true
    · simp only [if_pos c2]
    · simp only [if_neg c1, if_neg c2]
      by_cases e1 : tolE s = 0
      · by_cases e2 : tolE t = 0
        · simp only [if_pos e1, if_pos e2]
          refine put_turn h fun e => hn ⟨?_, e.1.symm, e.2.symm⟩
          rw [show s.c = false by simpa using c1, show t.c = false by simpa using c2]
        · simp only [if_pos e1, if_neg e2]
      · by_cases e2 : tolE t = 0
        · simp only [if_neg e1, if_pos e2]
        · simp only [if_neg e1, if_neg e2]
theorem stC_turn {a : List Fct} (h : Srt a) {s t : Tol} (hn : ¬ (s.c = t.c ∧ s.k = t.k ∧ s.d = t.d)) : stC (stC a s) t = stC (stC a t) s := by
  unfold stC
  by_cases c1 : s.c = true
  · by_cases c2 : t.c = true
    · simp only [if_pos c1, if_pos c2]
      by_cases e1 : tolE s = 0
      · by_cases e2 : tolE t = 0
        · simp only [if_pos e1, if_pos e2]
          refine put_turn h fun e => hn ⟨?_, e.1.symm, e.2.symm⟩
          rw [c1, c2]
        · simp only [if_pos e1, if_neg e2]
      · by_cases e2 : tolE t = 0
        · simp only [if_neg e1, if_pos e2]
        · simp only [if_neg e1, if_neg e2]
    · simp only [if_pos c1, if_neg c2]
  · by_cases c2 : t.c = true
    · simp only [if_neg c1, if_pos c2]
    · simp only [if_neg c1, if_neg c2]
/-- Two neighbours of other kinds or places change their places. -/
theorem turn_pl (P Q : List Tol) {s t : Tol} (hn : ¬ (s.c = t.c ∧ s.k = t.k ∧ s.d = t.d)) : plF (P ++ [t, s] ++ Q) = plF (P ++ [s, t] ++ Q) ∧ plC (P ++ [t, s] ++ Q) = plC (P ++ [s, t] ++ Q) := by
  simp only [plF_fold, plC_fold, List.foldl_append, List.foldl_cons, List.foldl_nil]
  rw [stF_turn (foldF_srt P [] List.Pairwise.nil) hn, stC_turn (foldC_srt P [] List.Pairwise.nil) hn]
  exact ⟨rfl, rfl⟩
theorem drop_cons2 {L : List Tol} {i : Nat} (h : i + 1 < L.length) : L = L.take i ++ [L.getD i default, L.getD (i + 1) default] ++ L.drop (i + 2) := by
  have e1 : L.take (i + 2) = L.take i ++ [L.getD i default, L.getD (i + 1) default] := by
    rw [show i + 2 = (i + 1) + 1 from rfl, take_getD h, take_getD (show i < L.length by omega), List.append_assoc]; rfl
  rw [← e1]; exact (List.take_append_drop _ _).symm
/-- A fixing that is known is told again. -/
theorem told_again {D : DataW Unit} {l : List Fct} (h : RelV vR D l) (hN : ∀ t ∈ l, nR t) {t : Tol} (hc : t.c = false) (hk : I64 t.k) (hd : I64 t.d) (hh : Maps.has D (plk t.k t.d) = true) (hv : D.atKey (plk t.k t.d) (ratD 0 0) = ratD t.x t.y) {D' : DataW Unit} (h' : RelV vR D' l) : RelV vR (tolF t D') l := by
  unfold tolF
  rw [if_neg (by rw [hc]; decide)]
  split
  · obtain ⟨u, hu, e1, e2⟩ := h.all _ _ hk hd hh
    have hw := (h.val u hu).2 (ratD 0 0)
    rw [e1, e2, hv] at hw
    obtain ⟨e3, e4⟩ := ratD_inj hw
    have hp := hN u hu
    have hx : (⟨t.k, t.d, t.x, t.y, 0⟩ : Fct) ∈ l := by
      have : u = ⟨t.k, t.d, t.x, t.y, 0⟩ := by
        obtain ⟨a, b, c, d, p⟩ := u
        unfold nR at hp
        dsimp only at *
        rw [e1, e2, e3, e4, hp]
      rw [← this]; exact hu
    have := h'.put ⟨t.k, t.d, t.x, t.y, 0⟩ hk hd
    rw [put_there h'.srt hx] at this
    exact this
  · exact h'

end Go.Proofs.Ytedjbmmegjgegaa

namespace Go.Proofs.Ytedjbmmegjgegaa
open Go.RowKit Go.Lib
set_option linter.unusedVariables false

def TolA (w : World) (b o : Nat) (t : List Tol) : Prop := ∀ j, j < t.length → TolC w b (o + j * 6) (t.getD j default)
theorem TolA.keep {w w' : World} {b o : Nat} {t : List Tol} (h : TolA w b o t) (hb : Below w.heap.size w w') : TolA w' b o t := fun j hj => (h j hj).keep hb
theorem SlTol.slice {w : World} {v : Value} {t : List Tol} (h : SlTol w v t) : ∃ a cap, v = .slice a t.length cap := by
  rcases h with ⟨rfl, a, cap, rfl⟩ | ⟨_, b, o, cap, rfl, _⟩
  · exact ⟨_, _, rfl⟩
  · exact ⟨_, _, rfl⟩

/-- A fact's cells, in a row. -/
def toL (n : Tol) : List Value := [.bool n.c, .int .i64 n.k, .int .i64 n.d, .int .i64 n.x, .int .i64 n.y, .int .i64 n.p]
def toR (t : List Tol) : List Value := t.flatMap toL
theorem toR_len : ∀ t : List Tol, (toR t).length = t.length * 6
  | [] => rfl
  | n :: t => by
    have := toR_len t
    unfold toR at this ⊢
    rw [List.flatMap_cons, List.length_append, this, List.length_cons]
    show 6 + _ = _
    omega
theorem toR_app (t u : List Tol) : toR (t ++ u) = toR t ++ toR u := by unfold toR; rw [List.flatMap_append]
theorem toR_get : ∀ (t : List Tol) (j i : Nat), j < t.length → i < 6 → (toR t)[j * 6 + i]? = (toL (t.getD j default))[i]?
  | [], j, i, hj, _ => absurd hj (Nat.not_lt_zero _)
  | n :: t, 0, i, _, hi => by
    unfold toR
    rw [List.flatMap_cons, Nat.zero_mul, Nat.zero_add, List.getElem?_append_left (by show i < 6; exact hi)]
    rfl
  | n :: t, j + 1, i, hj, hi => by
    have ih := toR_get t j i (by simpa using hj) hi
    unfold toR at ih ⊢
    rw [List.flatMap_cons, List.getElem?_append_right (by show 6 ≤ _; omega), show (j + 1) * 6 + i - (toL n).length = j * 6 + i by show (j + 1) * 6 + i - 6 = _; omega, ih]
    simp [List.getD_eq_getElem?_getD]
theorem toR_one {t : List Tol} : ∀ u ∈ toR t, u.oneCell' = true := by
  intro u hu
  obtain ⟨n, _, h⟩ := List.mem_flatMap.1 hu
  unfold toL at h
  simp at h
  rcases h with rfl | rfl | rfl | rfl | rfl | rfl <;> rfl
theorem tol_news {w : World} {b o : Nat} {t : List Tol} (hN : TolA w b o t) : ∀ j u, (toR t)[j]? = some u → w.cell? ((⟨b, o, none⟩ : Addr).add j) = some u := by
  intro j u hu
  have hlt : j < t.length * 6 := by rw [← toR_len]; exact (List.getElem?_eq_some_iff.1 hu).1
  obtain ⟨q, r, hr, rfl⟩ : ∃ q r, r < 6 ∧ j = q * 6 + r := ⟨j / 6, j % 6, by omega, by omega⟩
  have hq : q < t.length := by omega
  obtain ⟨c0, c1, c2, c3, c4, c5⟩ := hN q hq
  rw [toR_get t q r hq hr] at hu
  rw [Go.WideShapes.add_plain]
  match r, hr with
  | 0, _ => rw [Nat.add_zero, c0]; exact hu
  | 1, _ => rw [← Nat.add_assoc, c1]; exact hu
  | 2, _ => rw [← Nat.add_assoc, c2]; exact hu
  | 3, _ => rw [← Nat.add_assoc, c3]; exact hu
  | 4, _ => rw [← Nat.add_assoc, c4]; exact hu
  | 5, _ => rw [← Nat.add_assoc, c5]; exact hu

/-- A slice of the call's own, in a block from base on, holds facts. -/
def OwnL (w : World) (base : Nat) (v : Value) (t : List Tol) : Prop := w.ownsRow base 31 6 v t.length (toR t)
theorem OwnL.nil (w : World) (base : Nat) : OwnL w base (.slice none 0 0) [] := World.ownsRow_nil _ _ _ _
theorem OwnL.one (w : World) (base : Nat) (n : Tol) (hb : base ≤ w.heap.size) : OwnL (w.alloc (.cells #[.bool n.c, .int .i64 n.k, .int .i64 n.d, .int .i64 n.x, .int .i64 n.y, .int .i64 n.p] 31)) base (.slice (some ⟨w.heap.size, 0, none⟩) 1 1) [n] :=
  World.ownsRow_lit w #[.bool n.c, .int .i64 n.k, .int .i64 n.d, .int .i64 n.x, .int .i64 n.y, .int .i64 n.p] 1 hb (by unfold maxLen; omega) rfl
theorem OwnL.grown {w w' : World} {base : Nat} {v : Value} {t : List Tol} (h : OwnL w base v t) (hg : Below w.heap.size w w') : OwnL w' base v t := by
  obtain ⟨h1, h2⟩ := h
  refine ⟨h1, ?_⟩
  rcases h2 with h2 | ⟨g, cap, cur, rfl, hb, hc, h3⟩
  · exact Or.inl h2
  · refine Or.inr ⟨g, cap, cur, rfl, hb, ?_, h3⟩
    rw [hg.block g (Array.getElem?_eq_some_iff.1 hc).1]
    exact hc
theorem OwnL.base {w : World} {a b : Nat} {v : Value} {t : List Tol} (h : OwnL w b v t) (hab : a ≤ b) : OwnL w a v t := by
  obtain ⟨h1, h2⟩ := h
  refine ⟨h1, ?_⟩
  rcases h2 with h2 | ⟨g, cap, cur, rfl, hb, h3⟩
  · exact .inl h2
  · exact .inr ⟨g, cap, cur, rfl, Nat.le_trans hab hb, h3⟩
theorem OwnL.slice {w : World} {base : Nat} {v : Value} {t : List Tol} (h : OwnL w base v t) : ∃ a cap, v = .slice a t.length cap := by
  rcases h.2 with ⟨rfl, h2⟩ | ⟨g, cap, cur, rfl, _⟩
  · exact ⟨none, 0, by rw [h2]⟩
  · exact ⟨_, _, rfl⟩
theorem OwnL.sl {w : World} {base : Nat} {v : Value} {t : List Tol} (h : OwnL w base v t) : SlTol w v t := by
  obtain ⟨h1, h2⟩ := id h
  rcases h2 with ⟨rfl, h2⟩ | ⟨g, cap, cur, rfl, hb, hc, hn, hm, h3, h4⟩
  · exact .inl ⟨List.length_eq_zero_iff.1 h2, _, _, rfl⟩
  · by_cases h0 : t.length = 0
    · exact .inl ⟨List.length_eq_zero_iff.1 h0, some ⟨g, 0, none⟩, cap, by rw [h0]⟩
    · refine .inr ⟨by omega, g, 0, cap, rfl, hn, by unfold maxLen at hm; omega, fun j hj => ?_⟩
      have hcl := h.cells (g := g) rfl
      have k : ∀ i u, i < 6 → (toL (t.getD j default))[i]? = some u → w.cell? ⟨g, 0 + j * 6 + i, none⟩ = some u := by
        intro i u hi hu
        have := hcl (j * 6 + i) u (by rw [toR_get t j i hj hi]; exact hu)
        rw [Go.WideShapes.add_plain, ← Nat.add_assoc] at this
        exact this
      exact ⟨k 0 _ (by omega) rfl, k 1 _ (by omega) rfl, k 2 _ (by omega) rfl, k 3 _ (by omega) rfl, k 4 _ (by omega) rfl, k 5 _ (by omega) rfl⟩
theorem OwnL.kept {w w' : World} {base : Nat} {v : Value} {t : List Tol} (h : OwnL w base v t) {row : Option Nat} (hg : w.grownBy w' row) (hne : v.ownBlock = none ∨ v.ownBlock ≠ row) : OwnL w' base v t := World.ownsRow.kept h hg hne

theorem infoTol : (Try.prog.info? 31).map (fun i => (i.zero, i.size, i.bytes)) = some (some (.agg #[.bool false, .int .i64 0, .int .i64 0, .int .i64 0, .int .i64 0, .int .i64 0]), 6, 48) := by kernel_rfl

/-- Nothing is appended. -/
theorem run_append_noL {P : Program} {w : World} (base : Nat) (t ty e : TypeId) (i : TypeInfo) (size : Nat) (ht : P.underlying t = some (.slice e)) (hi : P.info? e = some i)
    (v : Value) (n : Nat) (xs : List Value) (hown : w.ownsRow base e size v n xs) (c : Nat) :
    (Builtin.append_ #[t, t] ty #[v, .slice none 0 c]).run P w = .ok v w := by
  rcases hown.2 with ⟨rfl, rfl⟩ | ⟨g, cap, cur, rfl, _, _, hnc, _⟩
  · simp [Builtin.append_, run_underlying ht, sizeOf, typeInfo, hi, Builtin.lenOf, Builtin.firstCells]
  · simp [Builtin.append_, run_underlying ht, sizeOf, typeInfo, hi, Builtin.lenOf, Builtin.firstCells, hnc, storeCells]

/-- Facts appended to facts of the call's own. -/
theorem wpList_append_tol {w : World} {ops : Array Oper} {rest : List Oper} {o : Oper} {a : Act} {Q : Exit → Act → World → Prop} (hgd : o.guard = none) (s x : Operand)
    (ho : o.op = .call { callee := .builtin .append, args := #[s, x], argTypes := #[22, 22] })
    (base : Nat) (v : Value) (t : List Tol) (hs : a.eval s = v) (hown : OwnL w base v t) (xv : Value) (u : List Tol) (hx : a.eval x = xv) (hsl : SlTol w xv u)
    (hlen : t.length + u.length ≤ 100000) (hbase : base ≤ w.heap.size)
    (h : ∀ v' w', OwnL w' base v' (t ++ u) → w.grownBy w' v.ownBlock → (v'.ownBlock = v.ownBlock ∨ v'.ownBlock = some w.heap.size) → wpList Try.prog ops Q rest (a.put o.dst v') w') : wpList Try.prog ops Q (o :: rest) a w := by
  obtain ⟨i0, hi0, hz0, hz1, hz2⟩ := info_parts infoTol
  have key : ∀ (ad : Addr) (c : Nat) , xv = .slice (some ad) u.length c → (∀ j z, (toR u)[j]? = some z → w.cell? (ad.add j) = some z) → wpList Try.prog ops Q (o :: rest) a w := by
    intro ad c hxv hnews
    refine wpList_append_own_at _ hgd s x 22 ho base 31 i0 _ 6 48 Try.underlying22 hi0 hz0 hz1 hz2 rfl (by decide) v t.length (toR t) hs hown ad u.length c (toR u) (hx.trans hxv) (toR_len u) hnews toR_one (by unfold maxLen; omega) (by omega) hbase ?_
    intro v' w' h1 h2 _ h3
    refine h v' w' ?_ h2 h3
    unfold OwnL
    rw [List.length_append, toR_app]; exact h1
  rcases hsl with ⟨rfl, ao, c, hv⟩ | ⟨_, b, off, c, hv, _, _, hN⟩
  · cases ao with
    | some ad => exact key ad c hv (fun j z hz => by cases hz)
    | none =>
      subst hv
      refine wpList_plain hgd fun K hK => ?_
      have hrun := run_append_noL (P := Try.prog) (w := w) base 22 o.type 31 i0 6 Try.underlying22 hi0 v _ _ hown c
      unfold Oper.wp
      simp only [execOp, ho, resolve, invoke, builtin, Sem.run_bind, Sem.run_pure, Result.andThen_ok, List.map_toArray, List.map_cons, List.map_nil, hs, hx, hrun]
      exact hK _ _ (h v w (by rw [List.append_nil]; exact hown) ⟨rfl, rfl, rfl, Nat.le_refl _, fun _ _ _ => rfl⟩ (.inl rfl))
  · exact key ⟨b, off, none⟩ c hv (tol_news hN)

/-- Below, behind an append to facts of the call's own. -/
theorem below_tol {B base : Nat} {w0 w w' : World} {v : Value} {t : List Tol} (hb : Below B w0 w) (ho : OwnL w base v t) (hB : B ≤ base) (hw : B ≤ w.heap.size) (hg : w.grownBy w' v.ownBlock) : Below B w0 w' := by
  refine hb.grown hg (by omega) (fun k hk => ?_)
  have := World.ownsRow.lt ho k hk
  omega


end Go.Proofs.Ytedjbmmegjgegaa

namespace Go.Proofs.Ytedjbmmegjgegaa
open Go.RowKit Go.Lib Go.Maps Go.Sort Go.Shelf
set_option linter.unusedVariables false
set_option linter.unusedSimpArgs false

theorem below_drewM (w : World) (q : Nat) : Below w.heap.size w (w.drewN q) := ⟨rfl, rfl, rfl, Nat.le_refl _, fun _ _ => rfl⟩
set_option maxRecDepth 100000 in
set_option maxHeartbeats 8000000 in
theorem same_any (w : World) {B1 f1 c1 n1 B2 f2 c2 n2 : Nat} {Df1 Dc1 Df2 Dc2 : DataW Unit} (h1 : FacM w B1 f1 c1 n1 Df1 Dc1) (h2 : FacM w B2 f2 c2 n2 Df2 Dc2) (hn1 : n1 ≤ 400) (hn2 : n2 ≤ 400)
    {F C : List Fct} (rF1 : RelV vR Df1 F) (rF2 : RelV vR Df2 F) (rC1 : RelV vI Dc1 C) (rC2 : RelV vI Dc2 C) (nF : ∀ t ∈ F, nR t) (nC : ∀ t ∈ C, nI t) :
    Calls Try.prog 22 #[.pointer (some ⟨B1, 0, none⟩), .pointer (some ⟨B2, 0, none⟩)] w fun e w' => e = .returned (.bool true) ∧ Below w.heap.size w w' := by
  have HM1 := Lib.hid h1
  have HM2 := Lib.hid h2
  have HA := Lib.hid (listedv_r h1 (by have := h1.hf.size_le; omega))
  have HN := Lib.hid (And.intro hn1 hn2)
  have HZ : Hid (Maps.size Df1 ≤ 400 ∧ Maps.size Dc1 ≤ 400) := Lib.hid ⟨by have := h1.hf.size_le; omega, by have := h1.hc.size_le; omega⟩
  have HR := Lib.hid (And.intro (And.intro rF1 rF2) (And.intro (And.intro rC1 rC2) (And.intro nF nC)))
  clear h1 h2 hn1 hn2 rF1 rF2 rC1 rC2 nF nC
  go_enter Try.func22, Try.ntmps22
  go_wp2_with fail
  refine HA.out.mono ?_
  rintro e w1 ⟨va, ma, psa, rfl, hs, hp, hall, ho, hb1⟩
  have hma := all_is one_R hall HR.out.1.1 HR.out.2.2.1 hs hp
  have hlF : ma.length ≤ 400 := by rw [hp.length_eq]; exact Nat.le_trans hall.2 HZ.out.1
  subst hma
  have HOa := Lib.hid ho
  have HB1 := Lib.hid hb1
  have HM2a := Lib.hid (HM2.out.keep hb1)
  have HM1a := Lib.hid (HM1.out.keep hb1)
  have HBf := Lib.hid (listedv_r HM2a.out (by have := HM2a.out.hf.size_le; have := HN.out; omega))
  obtain ⟨aa, an, ac, han, rfl⟩ := ho.slice'
  have HAn := Lib.hid han
  clear hs hp hall ho hb1 HA HM1 HM2 han
  go_wp2_with fail
  refine HBf.out.mono ?_
  rintro e w2 ⟨vb, mb, psb, rfl, hs, hp, hall, ho, hb2⟩
  have hmb := all_is one_R hall HR.out.1.2 HR.out.2.2.1 hs hp
  subst hmb
  have HOb := Lib.hid ho
  have HB2 := Lib.hid (onF HB1.out hb2)
  have HOa2 := Lib.hid (HOa.out.grown hb2)
  have HM2b := Lib.hid (HM2a.out.keep hb2)
  have HM1b := Lib.hid (HM1a.out.keep hb2)
  have HCf := Lib.hid (listedv_i HM1b.out (by have := HM1b.out.hc.size_le; have := HN.out; omega))
  obtain ⟨ba, bn, bc, hbn, rfl⟩ := ho.slice'
  have HBn := Lib.hid hbn
  clear hs hp hall ho hb2 HBf HM1a HM2a hbn HOa HB1
  go_wp2_with fail
  refine HCf.out.mono ?_
  rintro e w3 ⟨vc, mc, psc, rfl, hs, hp, hall, ho, hb3⟩
  have hmc := all_is one_I hall HR.out.2.1.1 HR.out.2.2.2 hs hp
  have hlC : mc.length ≤ 400 := by rw [hp.length_eq]; exact Nat.le_trans hall.2 HZ.out.2
  subst hmc
  have HOc := Lib.hid ho
  have HB3 := Lib.hid (onF HB2.out hb3)
  have HOa3 := Lib.hid (HOa2.out.grown hb3)
  have HOb3 := Lib.hid (HOb.out.grown hb3)
  have HM2c := Lib.hid (HM2b.out.keep hb3)
  have HDf := Lib.hid (listedv_i HM2c.out (by have := HM2c.out.hc.size_le; have := HN.out; omega))
  obtain ⟨ca, cn, cc, hcn, rfl⟩ := ho.slice'
  have HCn := Lib.hid hcn
  clear hs hp hall ho hb3 HCf HM1b HM2b hcn HOa2 HOb HB2
  go_wp2_with fail
  refine HDf.out.mono ?_
  rintro e w4 ⟨vd, md, psd, rfl, hs, hp, hall, ho, hb4⟩
  have hmd := all_is one_I hall HR.out.2.1.2 HR.out.2.2.2 hs hp
  subst hmd
  have HB4 := Lib.hid (onF HB3.out hb4)
  have hRa := Lib.hid (OwnV.row (E := rtL) (k := 4) (fun _ => rfl) (HOa3.out.grown hb4))
  have hRb := Lib.hid (OwnV.row (E := rtL) (k := 4) (fun _ => rfl) (HOb3.out.grown hb4))
  have hRc := Lib.hid (OwnV.row (E := chL) (k := 3) (fun _ => rfl) (HOc.out.grown hb4))
  have hRd := Lib.hid (OwnV.row (E := chL) (k := 3) (fun _ => rfl) ho)
  obtain ⟨da, dn, dc, hdn, rfl⟩ := ho.slice'
  obtain rfl := HAn.out
  obtain rfl := HBn.out
  obtain rfl := HCn.out
  subst hdn
  clear hs hp hall ho hb4 HDf HM2c HOa3 HOb3 HOc HAn HBn HCn HR HN HB3
  go_wp2_with fail
  go_loopw [9] (fun vi wx => ∃ j : Nat, j ≤ mb.length ∧ vi = .int .i64 (j : Nat) ∧ ∃ q, wx = w4.drewN q) (fun vi _ => mb.length - (RowKit.intOf vi).toNat)
  case atStart => exact ⟨0, Nat.zero_le _, rfl, 0, rfl⟩
  case round =>
    obtain ⟨j, hj, rfl, q, hwx⟩ := hrel
    have HRa : Hid (RowV rtL 4 wr (.slice aa mb.length ac) mb) := Lib.hid (by rw [hwx]; exact hRa.out.keep (below_drewM _ _))
    have HRb : Hid (RowV rtL 4 wr (.slice ba mb.length bc) mb) := Lib.hid (by rw [hwx]; exact hRb.out.keep (below_drewM _ _))
    have HQ := Lib.hid hwx
    clear hwx
    by_cases hlt : j < mb.length
    · have q0 : (0 : Int) ≤ (j : Int) := by omega
      have q1 : (j : Int) < (mb.length : Int) := by omega
      obtain ⟨ga, ca1, hv, hf1, hf2, hTa⟩ : ∃ g cap, Value.slice aa mb.length ac = .slice (some ⟨g, 0, none⟩) mb.length cap ∧ mb.length ≤ cap ∧ cap ≤ 9223372036854775807 ∧ ∀ j, j < mb.length → ∀ i c, i < 4 → (rtL (mb.getD j default))[i]? = some c → wr.cell? ⟨g, j * 4 + i, none⟩ = some c := by
        rcases HRa.out with ⟨e, _⟩ | ⟨_, g, cap, h1, h2, h3, h4⟩
        · rw [e] at hlt; exact absurd hlt (Nat.not_lt_zero _)
        · exact ⟨g, cap, h1, h2, h3, h4⟩
      injection hv with hv1 _ hv3
      subst hv1 hv3
      obtain ⟨gb, cb1, hv, hg1, hg2, hTb⟩ : ∃ g cap, Value.slice ba mb.length bc = .slice (some ⟨g, 0, none⟩) mb.length cap ∧ mb.length ≤ cap ∧ cap ≤ 9223372036854775807 ∧ ∀ j, j < mb.length → ∀ i c, i < 4 → (rtL (mb.getD j default))[i]? = some c → wr.cell? ⟨g, j * 4 + i, none⟩ = some c := by
        rcases HRb.out with ⟨e, _⟩ | ⟨_, g, cap, h1, h2, h3, h4⟩
        · rw [e] at hlt; exact absurd hlt (Nat.not_lt_zero _)
        · exact ⟨g, cap, h1, h2, h3, h4⟩
      injection hv with hv1 _ hv3
      subst hv1 hv3
      have k0 : wr.cell? ⟨ga, j * 4, none⟩ = some (.int .i64 (mb.getD j default).k) := hTa j hlt 0 _ (by omega) rfl
      have k1 : wr.cell? ⟨ga, j * 4 + 1, none⟩ = some (.int .i64 (mb.getD j default).d) := hTa j hlt 1 _ (by omega) rfl
      have k2 : wr.cell? ⟨ga, j * 4 + 2, none⟩ = some (.int .i64 (mb.getD j default).x) := hTa j hlt 2 _ (by omega) rfl
      have k3 : wr.cell? ⟨ga, j * 4 + 3, none⟩ = some (.int .i64 (mb.getD j default).y) := hTa j hlt 3 _ (by omega) rfl
      have m0 : wr.cell? ⟨gb, j * 4, none⟩ = some (.int .i64 (mb.getD j default).k) := hTb j hlt 0 _ (by omega) rfl
      have m1 : wr.cell? ⟨gb, j * 4 + 1, none⟩ = some (.int .i64 (mb.getD j default).d) := hTb j hlt 1 _ (by omega) rfl
      have m2 : wr.cell? ⟨gb, j * 4 + 2, none⟩ = some (.int .i64 (mb.getD j default).x) := hTb j hlt 2 _ (by omega) rfl
      have m3 : wr.cell? ⟨gb, j * 4 + 3, none⟩ = some (.int .i64 (mb.getD j default).y) := hTb j hlt 3 _ (by omega) rfl
      have HLt := Lib.hid hlt
      generalize mb.getD j default = y at *
      obtain ⟨yk, yd, yx, yy, yp⟩ := y
      dsimp only at k0 k1 k2 k3 m0 m1 m2 m3
      clear hTa hTb hlt hRa hRb hRc hRd HRa HRb
      go_wp2_with fail
      go_quiet (fail)
      go_wp2_with fail
      go_roundw
      case rel => exact ⟨j + 1, HLt.out, by go_num, q + nq, by rw [HQ.out, World.drewN_drewN]⟩
      case measure => have := HLt.out; simp [RowKit.intOf]; omega
    · have hje : j = mb.length := by omega
      subst hje
      have q1 : ¬ (mb.length : Int) < (mb.length : Int) := by omega
      have HRc : Hid (RowV chL 3 wr (.slice ca md.length cc) md) := Lib.hid (by rw [HQ.out]; exact hRc.out.keep (below_drewM _ _))
      have HRd : Hid (RowV chL 3 wr (.slice da md.length dc) md) := Lib.hid (by rw [HQ.out]; exact hRd.out.keep (below_drewM _ _))
      have HBq : Hid (Below w.heap.size w wr) := Lib.hid (by rw [HQ.out]; exact onF HB4.out (below_drewM _ _))
      clear hRa hRb hRc hRd HRa HRb HQ HB4 hlt hj
      go_wp2_with fail
      generalize wr = w5 at *
      go_loopw [10] (fun vi wx => ∃ j : Nat, j ≤ md.length ∧ vi = .int .i64 (j : Nat) ∧ ∃ q, wx = w5.drewN q) (fun vi _ => md.length - (RowKit.intOf vi).toNat)
      case atStart => exact ⟨0, Nat.zero_le _, rfl, 0, rfl⟩
      case round =>
        obtain ⟨j, hj, rfl, q', hwx⟩ := hrel
        have HRc' : Hid (RowV chL 3 wr (.slice ca md.length cc) md) := Lib.hid (by rw [hwx]; exact HRc.out.keep (below_drewM _ _))
        have HRd' : Hid (RowV chL 3 wr (.slice da md.length dc) md) := Lib.hid (by rw [hwx]; exact HRd.out.keep (below_drewM _ _))
        have HQ := Lib.hid hwx
        clear hwx
        by_cases hlt : j < md.length
        · have q0 : (0 : Int) ≤ (j : Int) := by omega
          have q2 : (j : Int) < (md.length : Int) := by omega
          obtain ⟨ga, ca1, hv, hf1, hf2, hTa⟩ : ∃ g cap, Value.slice ca md.length cc = .slice (some ⟨g, 0, none⟩) md.length cap ∧ md.length ≤ cap ∧ cap ≤ 9223372036854775807 ∧ ∀ j, j < md.length → ∀ i c, i < 3 → (chL (md.getD j default))[i]? = some c → wr.cell? ⟨g, j * 3 + i, none⟩ = some c := by
            rcases HRc'.out with ⟨e, _⟩ | ⟨_, g, cap, h1, h2, h3, h4⟩
            · rw [e] at hlt; exact absurd hlt (Nat.not_lt_zero _)
            · exact ⟨g, cap, h1, h2, h3, h4⟩
          injection hv with hv1 _ hv3
          subst hv1 hv3
          obtain ⟨gb, cb1, hv, hg1, hg2, hTb⟩ : ∃ g cap, Value.slice da md.length dc = .slice (some ⟨g, 0, none⟩) md.length cap ∧ md.length ≤ cap ∧ cap ≤ 9223372036854775807 ∧ ∀ j, j < md.length → ∀ i c, i < 3 → (chL (md.getD j default))[i]? = some c → wr.cell? ⟨g, j * 3 + i, none⟩ = some c := by
            rcases HRd'.out with ⟨e, _⟩ | ⟨_, g, cap, h1, h2, h3, h4⟩
            · rw [e] at hlt; exact absurd hlt (Nat.not_lt_zero _)
            · exact ⟨g, cap, h1, h2, h3, h4⟩
          injection hv with hv1 _ hv3
          subst hv1 hv3
          have k0 : wr.cell? ⟨ga, j * 3, none⟩ = some (.int .i64 (md.getD j default).k) := hTa j hlt 0 _ (by omega) rfl
          have k1 : wr.cell? ⟨ga, j * 3 + 1, none⟩ = some (.int .i64 (md.getD j default).d) := hTa j hlt 1 _ (by omega) rfl
          have k2 : wr.cell? ⟨ga, j * 3 + 2, none⟩ = some (.int .i64 (md.getD j default).p) := hTa j hlt 2 _ (by omega) rfl
          have m0 : wr.cell? ⟨gb, j * 3, none⟩ = some (.int .i64 (md.getD j default).k) := hTb j hlt 0 _ (by omega) rfl
          have m1 : wr.cell? ⟨gb, j * 3 + 1, none⟩ = some (.int .i64 (md.getD j default).d) := hTb j hlt 1 _ (by omega) rfl
          have m2 : wr.cell? ⟨gb, j * 3 + 2, none⟩ = some (.int .i64 (md.getD j default).p) := hTb j hlt 2 _ (by omega) rfl
          have HLt := Lib.hid hlt
          generalize md.getD j default = y at *
          obtain ⟨yk, yd, yx, yy, yp⟩ := y
          dsimp only at k0 k1 k2 m0 m1 m2
          clear hTa hTb hlt HRc HRd HRc' HRd'
          go_wp2_with fail
          go_quiet (fail)
          go_wp2_with fail
          go_roundw
          case rel => exact ⟨j + 1, HLt.out, by go_num, q' + nq, by rw [HQ.out, World.drewN_drewN]⟩
          case measure => have := HLt.out; simp [RowKit.intOf]; omega
        · have hje : j = md.length := by omega
          subst hje
          have q2 : ¬ (md.length : Int) < (md.length : Int) := by omega
          have HBz : Hid (Below w.heap.size w wr) := Lib.hid (by rw [HQ.out]; exact onF HBq.out (below_drewM _ _))
          clear HRc HRd HRc' HRd' HQ HBq hlt hj
          go_wp2_with fail
          go_ret
          exact ⟨rfl, HBz.out⟩

end Go.Proofs.Ytedjbmmegjgegaa

namespace Go.Proofs.Ytedjbmmegjgegaa
open Go.RowKit Go.Lib Go.Maps
set_option linter.unusedVariables false
set_option linter.unusedSimpArgs false

theorem isG_iffE {k d : Int} {t : Fct} : isG k d t = true ↔ t.k = k ∧ t.d = d := by unfold isG; simp
theorem know_getE {V : Fct → DataW Unit} {D : DataW Unit} {l : List Fct} (h : RelV V D l) {k d : Int} (hk : I64 k) (hd : I64 d) (z : DataW Unit) :
    (∀ t, l.find? (isG k d) = some t → Maps.has D (plk k d) = true ∧ D.atKey (plk k d) z = V t) ∧ (l.find? (isG k d) = none → Maps.has D (plk k d) = false ∧ D.atKey (plk k d) z = z) := by
  refine ⟨fun t ht => ?_, fun hn => ?_⟩
  · have hm := List.mem_of_find?_eq_some ht
    have hg := isG_iffE.1 (List.find?_some ht)
    obtain ⟨h1, h2⟩ := h.val t hm
    rw [hg.1, hg.2] at h1 h2
    exact ⟨h1, h2 z⟩
  · have hh : Maps.has D (plk k d) = false := by
      cases e : Maps.has D (plk k d) with
      | false => rfl
      | true =>
        obtain ⟨t, ht, e1, e2⟩ := h.all k d hk hd e
        have := List.find?_eq_none.1 hn t ht
        exact absurd (isG_iffE.2 ⟨e1, e2⟩) this
    exact ⟨hh, atKey_of_not_has hh z⟩
/-- What a list tells of a key and a day. -/
def gtL (l : List Fct) (k d : Int) : Int × Int × Bool := match l.find? (isG k d) with
  | some t => (t.x, t.y, true)
  | none => (0, 0, false)
theorem gtL_cases (l : List Fct) (k d : Int) : (∃ t, t ∈ l ∧ t.k = k ∧ t.d = d ∧ gtL l k d = (t.x, t.y, true)) ∨ (l.find? (isG k d) = none ∧ gtL l k d = (0, 0, false)) := by
  unfold gtL
  cases hf : l.find? (isG k d) with
  | none => exact .inr ⟨rfl, rfl⟩
  | some t =>
    have hg := isG_iffE.1 (List.find?_some hf)
    exact .inl ⟨t, List.mem_of_find?_eq_some hf, hg.1, hg.2, rfl⟩
theorem fixing_l (w : World) {B bf bc n : Nat} {Df Dc : DataW Unit} (h : FacM w B bf bc n Df Dc) {l : List Fct} (hr : RelV vR Df l) (k d : Int) (hk : I64 k) (hd : I64 d) :
    Calls Try.prog 17 #[.pointer (some ⟨B, 0, none⟩), .int .i64 k, .int .i64 d] w fun e w' => e = .returned (.tuple #[.agg #[.int .i64 (gtL l k d).1, .int .i64 (gtL l k d).2.1], .bool (gtL l k d).2.2]) ∧ Below w.heap.size w w' := by
  refine (fixing_any w h k d hk hd).mono ?_
  rintro e w' ⟨x, y, rfl, hx, hb⟩
  obtain ⟨g1, g2⟩ := know_getE hr hk hd (ratD 0 0)
  unfold gtL
  cases hf : l.find? (isG k d) with
  | none =>
    obtain ⟨a1, a2⟩ := g2 hf
    rw [a2] at hx
    obtain ⟨rfl, rfl⟩ := ratD_inj hx
    rw [a1]
    exact ⟨rfl, hb⟩
  | some t =>
    obtain ⟨a1, a2⟩ := g1 t hf
    rw [a2] at hx
    obtain ⟨e1, e2⟩ := ratD_inj hx
    rw [a1, ← e1, ← e2]
    exact ⟨rfl, hb⟩

end Go.Proofs.Ytedjbmmegjgegaa
