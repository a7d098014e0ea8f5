/-
  Package text: takers, read: what they answer.
-/
import Derived.Test.YtdmdgoeacafpiaaGreatDoorPq
import Derived.Test.YtdmdgoeacafpiaaGreatDoorPsD
import Derived.Test.YtdmdgoeacafpiaaGreatDoorTrm
import Derived.RangeFuncBox
import Derived.RangeFuncNested
import Derived.RangeFuncBound
import Derived.RangeFuncCalls
import Derived.RangeFuncLeaves
import Derived.Shelf.RegionOpen
import Derived.Deep.WholeRow
namespace Go.Proofs.YtdmdgoeacafpiaaGreatDoor
open Go.RowKit Go.Lib Go.Shelf
set_option linter.unusedVariables false
set_option linter.unusedSimpArgs false
attribute [local go_sem] Oper.semAt_some

/-- The takers, as an array. -/
def tkA : Array Value := #[.func (.func 33) #[] #[], .func (.func 34) #[] #[], .func (.func 35) #[] #[], .func (.func 36) #[] #[], .func (.func 37) #[] #[], .func (.func 38) #[] #[], .func (.func 39) #[] #[], .func (.func 40) #[] #[], .func (.func 41) #[] #[], .func (.func 42) #[] #[]]
theorem tkA_one : tkA.all (·.oneCell') = true := by simp [tkA, Value.oneCell']
set_option maxHeartbeats 1000000 in
set_option maxRecDepth 100000 in
theorem takers_any (w : World) : Calls Tryz.prog 17 #[] w fun e w' => e = .returned (.agg tkA) ∧ Below w.heap.size w w' := by
  go_enter Tryz.func17, Tryz.ntmps17
  go_wp2_with ((refine wpList_store_row rfl 57 _ _ rfl w.heap.size tkA rfl rfl _ _ (heap_alloc_new w _) (by kernel_rfl) rfl tkA_one ?_); rw [World.setRow_alloc_new])
  exact bodyPost_ret (v := .agg tkA) (results_cell_row rfl _ _ w.heap.size 57 tkA (0, 0) _ rfl (heap_alloc_new w _) Tryz.underlying57 rfl (by kernel_rfl)) rfl ⟨rfl, newB _ _⟩


/-- What the machine keeps as it goes on. -/
def GoodM (k : Nat) (m : Mc) : Prop := m.N.length ≤ 64 ∧ -(k : Int) ≤ m.o ∧ m.o ≤ k ∧ m.D.length ≤ 9 * m.N.length + 1 ∧ (m.N ≠ [] ∨ m.D = [2]) ∧ ∀ p ∈ m.D, p < 10
theorem good_start : GoodM 0 m0 := ⟨by decide, by decide, by decide, by decide, .inr rfl, by decide⟩
theorem findW_lt {w : List UInt8} {s : Nat} : ∀ {n k : Nat}, findW w s n = some k → k < n
  | 0, k, h => by cases h
  | n + 1, k, h => by
    rw [findW] at h
    cases e : findW w s n with
    | some j => rw [e] at h; injection h with h; subst h; have := findW_lt e; omega
    | none =>
      rw [e] at h
      dsimp only at h
      split at h
      · injection h with h; omega
      · cases h
theorem bh_small : ∀ k : Fin 18, ∀ p ∈ bhN k.val, p < 10 := by decide
theorem updL_ne (f : Nd → Nd) {l : List Nd} (h : l ≠ []) : updL f l ≠ [] := fun e => h (List.length_eq_zero_iff.1 (by rw [← updL_len f l, e]; rfl))
theorem good_begin {k : Nat} {N : List Nd} {o : Int} {D : List Nat} {n : Nd} {i : Nat} (hi : i < 18) (h1 : N.length ≤ 64) (h2 : -(k : Int) ≤ o) (h3 : o ≤ k) (h4 : D.length ≤ 9 * N.length) (h5 : ∀ p ∈ D, p < 10) (e : (begM n i ⟨N, o, D⟩).1 = 0) : GoodM (k + 1) (begM n i ⟨N, o, D⟩).2 := by
  unfold begM at e ⊢
  by_cases c : 64 ≤ N.length ∨ 12 ≤ o
  · rw [if_pos c] at e; cases e
  · rw [if_neg c]
    have hb := bh_len ⟨i, hi⟩
    dsimp only at hb
    refine ⟨by simp; omega, by dsimp only; omega, by dsimp only; omega, by simp; omega, .inl (by simp), fun p hp => ?_⟩
    rcases List.mem_append.1 hp with hp | hp
    · exact bh_small ⟨i, hi⟩ p hp
    · exact h5 p hp
theorem good_word {k : Nat} {N : List Nd} {o : Int} {D : List Nat} {s : Nat} {w : List UInt8} (h1 : N.length ≤ 64) (h2 : -(k : Int) ≤ o) (h3 : o ≤ k) (h4 : D.length ≤ 9 * N.length) (h5 : ∀ p ∈ D, p < 10) (e : (wordM s w ⟨N, o, D⟩).1 = 0) : GoodM (k + 1) (wordM s w ⟨N, o, D⟩).2 := by
  unfold wordM at e ⊢
  cases hf : findW w s 18 with
  | none => rw [hf] at e; cases e
  | some i => rw [hf] at e; exact good_begin (findW_lt hf) h1 h2 h3 h4 h5 e
theorem good_take {k : Nat} {m : Mc} {w : List UInt8} (h : GoodM k m) (e : (takeM m w).1 = 0) : GoodM (k + 1) (takeM m w).2 := by
  obtain ⟨N, o, D⟩ := m
  obtain ⟨h1, h2, h3, h4, h5, h6⟩ := h
  dsimp only at *
  cases D with
  | nil => cases e
  | cons p D =>
    have hp := h6 p (by simp)
    have hD : ∀ q ∈ D, q < 10 := fun q hq => h6 q (by simp [hq])
    have hl : D.length ≤ 9 * N.length := by simp at h4; omega
    have hne : p ≠ 2 → N ≠ [] := fun hp2 => by
      rcases h5 with h5 | h5
      · exact h5
      · injection h5 with h5; exact absurd h5 hp2
    have keep : ∀ (N' : List Nd) (o' : Int), N'.length = N.length → N' ≠ [] → -((k : Int) + 1) ≤ o' → o' ≤ (k : Int) + 1 → GoodM (k + 1) ⟨N', o', D⟩ := fun N' o' a1 a2 a3 a4 => ⟨by dsimp only; omega, by dsimp only; omega, by dsimp only; omega, by dsimp only; omega, .inl a2, hD⟩
    change (partM p w ⟨N, o, D⟩).1 = 0 at e
    show GoodM (k + 1) (partM p w ⟨N, o, D⟩).2
    match p, hp, hne, e with
    | 0, _, _, e => cases e
    | 1, _, hne, e =>
      change (obsM w ⟨N, o, D⟩).1 = 0 at e
      show GoodM (k + 1) (obsM w ⟨N, o, D⟩).2
      unfold obsM at e ⊢
      cases hr : ratW w with
      | none => rw [hr] at e; exact good_word h1 h2 h3 hl hD e
      | some q => obtain ⟨x, y⟩ := q; rw [hr] at e; exact good_begin (by omega) h1 h2 h3 hl hD e
    | 2, _, _, e => exact good_word h1 h2 h3 hl hD e
    | 3, _, hne, e => exact keep N (o + 1) rfl (hne (by omega)) (by omega) (by omega)
    | 4, _, hne, e => exact keep N o rfl (hne (by omega)) (by omega) (by omega)
    | 5, _, hne, e => exact keep N (o - 1) rfl (hne (by omega)) (by omega) (by omega)
    | 6, _, hne, e =>
      change (nameM w ⟨N, o, D⟩).1 = 0 at e
      show GoodM (k + 1) (nameM w ⟨N, o, D⟩).2
      unfold nameM at e ⊢
      cases hf : findK w 8 with
      | none => rw [hf] at e; cases e
      | some i => exact keep _ o (updL_len _ _) (updL_ne _ (hne (by omega))) (by omega) (by omega)
    | 7, _, hne, e =>
      change (keyM w ⟨N, o, D⟩).1 = 0 at e
      show GoodM (k + 1) (keyM w ⟨N, o, D⟩).2
      unfold keyM at e ⊢
      by_cases c : (keyW w).1 = 0
      · rw [if_pos c]; exact keep _ o (updL_len _ _) (updL_ne _ (hne (by omega))) (by omega) (by omega)
      · rw [if_neg c] at e; exact absurd e c
    | 8, _, hne, e => exact keep _ o (updL_len _ _) (updL_ne _ (hne (by omega))) (by omega) (by omega)
    | 9, _, hne, e => exact keep _ o (updL_len _ _) (updL_ne _ (hne (by omega))) (by omega) (by omega)
    | p + 10, h, _, _ => exact absurd h (by omega)
theorem takeM_eq (m : Mc) (w : List UInt8) : takeM m w = partM (hdD m) w (tlD m) := by
  obtain ⟨N, o, D⟩ := m
  cases D <;> rfl
theorem good_tl {k : Nat} {m : Mc} (h : GoodM k m) : (tlD m).N.length ≤ 64 ∧ (tlD m).D.length ≤ 10000 ∧ hdD m < 10 ∧ (6 ≤ hdD m → (tlD m).N ≠ []) := by
  obtain ⟨N, o, D⟩ := m
  obtain ⟨h1, h2, h3, h4, h5, h6⟩ := h
  dsimp only at *
  cases D with
  | nil => exact ⟨h1, by simp [tlD], by simp [hdD], fun h => by simp [hdD] at h⟩
  | cons p D =>
    refine ⟨h1, by simp [tlD] at h4 ⊢; omega, h6 p (by simp), fun h => ?_⟩
    rcases h5 with h5 | h5
    · exact h5
    · injection h5 with h5; simp [hdD] at h; omega

/-- A parser with more to be kept. -/
theorem PsR.more {w w' : World} {P Q : Nat → Prop} {B : Nat} {s : ByteArray} {vn vd : Value} {m : Mc} (h : PsR w P B s vn vd m) (hb : Below w.heap.size w w') (hQ : ∀ k, Q k → P k ∨ w.heap.size ≤ k) (hl : ∀ k, Q k → k < w'.heap.size) : PsR w' Q B s vn vd m := by
  have h' := h.keep hb
  have nq : ∀ k, k < w.heap.size → ¬ P k → ¬ Q k := fun k h1 h2 h3 => by
    rcases hQ k h3 with h4 | h4
    · exact h2 h4
    · omega
  exact ⟨h'.c0, h'.c1, h'.c2, h'.c3, h'.fr, h'.hn, h'.hd, h'.ap, fun k hk => ⟨(h.bn k hk).1, nq k (World.ownsRow.lt h.hn k hk).2 (h.bn k hk).2⟩, fun k hk => ⟨(h.bd k hk).1, nq k (World.ownsRow.lt h.hd k hk).2 (h.bd k hk).2⟩, nq B h.blt h.nb, hl⟩
theorem PsR.less {w : World} {P Q : Nat → Prop} {B : Nat} {s : ByteArray} {vn vd : Value} {m : Mc} (h : PsR w P B s vn vd m) (hQ : ∀ k, Q k → P k) : PsR w Q B s vn vd m :=
  ⟨h.c0, h.c1, h.c2, h.c3, h.fr, h.hn, h.hd, h.ap, fun k hk => ⟨(h.bn k hk).1, fun h2 => (h.bn k hk).2 (hQ k h2)⟩, fun k hk => ⟨(h.bd k hk).1, fun h2 => (h.bd k hk).2 (hQ k h2)⟩, fun h2 => h.nb (hQ B h2), fun k h2 => h.lt k (hQ k h2)⟩
/-- Turns of what holds no cells leave the parser as it is. -/
theorem row_cells {w : World} {base : Nat} {e : TypeId} {size : Nat} {v : Value} {n : Nat} {xs : List Value} (h : w.ownsRow base e size v n xs) {row : Option Nat} (hr : ∀ r, row = some r → ∃ o : Obj, w.heap[r]? = some o ∧ o.isCells = false) : v.ownBlock = none ∨ v.ownBlock ≠ row := by
  rcases h.2 with ⟨rfl, _⟩ | ⟨g, cap, cur, rfl, _, hg, _⟩
  · exact .inl rfl
  · right
    intro e
    obtain ⟨o, ho, hc⟩ := hr g e.symm
    rw [hg] at ho
    cases ho
    cases hc
theorem PsM.turn {w w' : World} {P : Nat → Prop} {B : Nat} {s : ByteArray} {m : Mc} (h : PsM w P B s m) {row : Option Nat} (hg : w.grownBy w' row) (hr : ∀ r, row = some r → ∃ o : Obj, w.heap[r]? = some o ∧ o.isCells = false) : PsM w' P B s m := by
  obtain ⟨vn, vd, h⟩ := h
  refine ⟨vn, vd, h.grown hg (fun e => ?_) (row_cells h.hn hr) (row_cells h.hd hr)⟩
  obtain ⟨o, ho, hc⟩ := hr B e
  have := h.c0
  unfold World.cell? at this
  rw [ho] at this
  cases o <;> simp_all [Obj.isCells]

end Go.Proofs.YtdmdgoeacafpiaaGreatDoor
