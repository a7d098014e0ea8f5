/-
  Terms as rows of nodes: how many nodes, which places, which depth. No program.
-/
import Derived.Lib.Hide
namespace Go.Proofs.YtadjhofomabbmaaDoor
set_option linter.unusedVariables false

/-- A node. -/
structure Nd where
  op : Int
  a : Int
  b : Int
  num : Int
  den : Int
deriving DecidableEq, Inhabited
/-- An op's row in the table; 0: it is none. -/
def ixO (op : Int) : Nat := if 0 ≤ op ∧ op < 18 then op.toNat else 0
/-- What an op makes: 1 what can be observed, 2 a contract. -/
def mkT : List Nat := [0, 1, 1, 1, 1, 1, 1, 1, 1, 2, 2, 2, 2, 2, 2, 2, 2, 2]
def kdT : List (List Nat) := [[], [], [], [1], [1, 1], [1, 1], [1, 1], [1, 1], [1, 1], [], [], [2], [2, 2], [1, 2], [2], [1, 1, 2, 2], [2, 2], [2]]
def maT : List Nat := [0, 0, 63, 0, 0, 0, 0, 0, 0, 0, 7, 0, 0, 0, 73048, 0, 63, 63]
def mbT : List Nat := [0, 0, 0, 0, 0, 0, 0, 0, 0, 0, 0, 0, 0, 0, 0, 0, 0, 73048]
def mkO (op : Int) : Nat := mkT.getD (ixO op) 0
def kdO (op : Int) : List Nat := kdT.getD (ixO op) []
def cnO (op : Int) : Nat := (kdO op).length
theorem ixO_lt (op : Int) : ixO op < 18 := by unfold ixO; split <;> omega
theorem cn_all : ∀ k < 18, (kdT.getD k []).length ≤ 4 := by decide
theorem cn_le (op : Int) : cnO op ≤ 4 := cn_all _ (ixO_lt op)
theorem mk_all : ∀ k < 18, mkT.getD k 0 ≤ 2 ∧ (mkT.getD k 0 = 0 → (kdT.getD k []).length = 0) := by decide
theorem mk_le (op : Int) : mkO op ≤ 2 := (mk_all _ (ixO_lt op)).1
theorem cn_none {op : Int} (h : mkO op = 0) : cnO op = 0 := (mk_all _ (ixO_lt op)).2 h

/-- How many nodes so many terms have, that stand one behind the other at a row's beginning. -/
def scan : Nat → List Nd → Option Nat
  | 0, _ => some 0
  | _ + 1, [] => none
  | o + 1, n :: xs => if mkO n.op = 0 then none else (scan (o + cnO n.op) xs).map (· + 1)
theorem scan_zero (xs : List Nd) : scan 0 xs = some 0 := by cases xs <;> rfl
theorem scan_cons {o : Nat} {n : Nd} {xs : List Nd} (h : mkO n.op ≠ 0) : scan (o + 1) (n :: xs) = (scan (o + cnO n.op) xs).map (· + 1) := by rw [scan, if_neg h]
theorem scan_bad {o : Nat} {n : Nd} {xs : List Nd} (h : mkO n.op = 0) : scan (o + 1) (n :: xs) = none := by rw [scan, if_pos h]

theorem scan_add (b : Nat) : ∀ (xs : List Nd) (a : Nat), scan (a + b) xs = (scan a xs).bind fun k => (scan b (xs.drop k)).map (k + ·)
  | xs, 0 => by simp [scan_zero]
  | [], a + 1 => by rw [show a + 1 + b = (a + b) + 1 by omega]; rfl
  | n :: xs, a + 1 => by
    rw [show a + 1 + b = (a + b) + 1 by omega]
    by_cases h : mkO n.op = 0
    · rw [scan_bad h, scan_bad h]; rfl
    · rw [scan_cons h, scan_cons h, show a + b + cnO n.op = (a + cnO n.op) + b by omega, scan_add b xs (a + cnO n.op)]
      cases scan (a + cnO n.op) xs with
      | none => rfl
      | some k =>
        simp only [Option.bind_some, Option.map_some, List.drop_succ_cons]
        cases scan b (xs.drop k) with
        | none => rfl
        | some m => simp; omega

theorem scan_bd : ∀ (xs : List Nd) (o k : Nat), scan o xs = some k → o ≤ k ∧ k ≤ xs.length
  | xs, 0, k, h => by rw [scan_zero] at h; cases h; simp
  | [], o + 1, k, h => by cases h
  | n :: xs, o + 1, k, h => by
    by_cases c : mkO n.op = 0
    · rw [scan_bad c] at h; cases h
    · rw [scan_cons c] at h
      obtain ⟨m, hm, rfl⟩ := Option.map_eq_some_iff.1 h
      have := scan_bd xs _ _ hm
      simp; omega

/-- Only what is within counts. -/
theorem scan_app : ∀ (xs : List Nd) (o k : Nat) (ys : List Nd), scan o xs = some k → scan o (xs.take k ++ ys) = some k
  | xs, 0, k, ys, h => by rw [scan_zero] at h; cases h; simp [scan_zero]
  | [], o + 1, k, _, h => by cases h
  | n :: xs, o + 1, k, ys, h => by
    by_cases c : mkO n.op = 0
    · rw [scan_bad c] at h; cases h
    · rw [scan_cons c] at h
      obtain ⟨m, hm, rfl⟩ := Option.map_eq_some_iff.1 h
      rw [List.take_succ_cons, List.cons_append, scan_cons c, scan_app xs _ m ys hm]; rfl
theorem scan_take {xs : List Nd} {o k : Nat} (h : scan o xs = some k) {m : Nat} (hm : k ≤ m) : scan o (xs.take m) = some k := by
  have := scan_app xs o k ((xs.take m).drop k) h
  rwa [show xs.take k = (xs.take m).take k by rw [List.take_take, Nat.min_eq_left hm], List.take_append_drop] at this
/-- What all of the row is, is so with more behind it. -/
theorem scan_more {xs : List Nd} {o k : Nat} (h : scan o xs = some k) (ys : List Nd) : scan o (xs ++ ys) = some k := by
  have hb := (scan_bd xs o k h).2
  have := scan_app xs o k (xs.drop k ++ ys) h
  rwa [← List.append_assoc, List.take_append_drop] at this

/-- How many nodes the term from a place on has. -/
def szA (t : List Nd) (p : Nat) : Nat := (scan 1 (t.drop p)).getD 0
/-- Does a term begin there? -/
def TmA (t : List Nd) (p : Nat) : Prop := ∃ n, scan 1 (t.drop p) = some n
theorem TmA.eq {t : List Nd} {p : Nat} (h : TmA t p) : scan 1 (t.drop p) = some (szA t p) := by
  obtain ⟨n, hn⟩ := h; unfold szA; rw [hn]; rfl
theorem TmA.of {t : List Nd} {p n : Nat} (h : scan 1 (t.drop p) = some n) : TmA t p ∧ szA t p = n := ⟨⟨n, h⟩, by unfold szA; rw [h]; rfl⟩
theorem TmA.bd {t : List Nd} {p : Nat} (h : TmA t p) : 1 ≤ szA t p ∧ p + szA t p ≤ t.length := by
  have := scan_bd _ _ _ h.eq
  rw [List.length_drop] at this; omega
theorem TmA.lt {t : List Nd} {p : Nat} (h : TmA t p) : p < t.length := by have := h.bd; omega

def opA (t : List Nd) (p : Nat) : Int := (t.getD p default).op
theorem drop_cons {t : List Nd} {p : Nat} (h : p < t.length) : t.drop p = t.getD p default :: t.drop (p + 1) := by
  rw [List.drop_eq_getElem_cons h, List.getD_eq_getElem?_getD, List.getElem?_eq_getElem h]; rfl
/-- The terms below a node: so many of them, from a place on. -/
def plA (t : List Nd) (p : Nat) : Nat → Nat
  | 0 => p
  | i + 1 => plA t p i + szA t (plA t p i)

/-- So many terms stand there: each of them begins where the one ahead of it ends. -/
theorem scan_parts {t : List Nd} : ∀ (c p k : Nat), scan c (t.drop p) = some k → (∀ i, i < c → TmA t (plA t p i)) ∧ plA t p c = p + k
  | 0, p, k, h => by rw [scan_zero] at h; cases h; exact ⟨fun i hi => absurd hi (Nat.not_lt_zero i), rfl⟩
  | c + 1, p, k, h => by
    rw [show c + 1 = c + 1 from rfl, scan_add 1 _ c] at h
    obtain ⟨m, hm, h2⟩ := Option.bind_eq_some_iff.1 h
    obtain ⟨q, hq, rfl⟩ := Option.map_eq_some_iff.1 h2
    obtain ⟨h3, h4⟩ := scan_parts c p m hm
    rw [List.drop_drop, ← h4] at hq
    obtain ⟨h5, h6⟩ := TmA.of hq
    refine ⟨fun i hi => ?_, ?_⟩
    · by_cases e : i = c
      · subst e; exact h5
      · exact h3 i (by omega)
    · rw [plA, h4] at *
      rw [h6]; omega
theorem scan_of_parts {t : List Nd} : ∀ (c p : Nat), (∀ i, i < c → TmA t (plA t p i)) → ∃ k, scan c (t.drop p) = some k ∧ plA t p c = p + k
  | 0, p, _ => ⟨0, scan_zero _, rfl⟩
  | c + 1, p, h => by
    obtain ⟨k, hk, e⟩ := scan_of_parts c p (fun i hi => h i (by omega))
    have h2 := (h c (by omega)).eq
    rw [e] at h2
    refine ⟨k + szA t (p + k), ?_, by rw [plA, e]; omega⟩
    rw [scan_add 1 _ c, hk, Option.bind_some, List.drop_drop, h2]; rfl

/-- What a term is made of. -/
theorem TmA.parts {t : List Nd} {p : Nat} (h : TmA t p) : mkO (opA t p) ≠ 0 ∧ (∀ i, i < cnO (opA t p) → TmA t (plA t (p + 1) i)) ∧ plA t (p + 1) (cnO (opA t p)) = p + szA t p := by
  have e := h.eq
  rw [drop_cons h.lt] at e
  have hm : mkO (opA t p) ≠ 0 := fun c => by rw [scan_bad c] at e; cases e
  rw [scan_cons hm] at e
  obtain ⟨m, hm2, h2⟩ := Option.map_eq_some_iff.1 e
  rw [Nat.zero_add] at hm2
  obtain ⟨h3, h4⟩ := scan_parts _ _ _ hm2
  exact ⟨hm, h3, h4.trans (by omega)⟩
theorem TmA.mk {t : List Nd} {p : Nat} (hp : p < t.length) (hm : mkO (opA t p) ≠ 0) (h : ∀ i, i < cnO (opA t p) → TmA t (plA t (p + 1) i)) : TmA t p := by
  obtain ⟨k, hk, _⟩ := scan_of_parts _ _ h
  exact ⟨k + 1, by rw [drop_cons hp, scan_cons hm, Nat.zero_add]; exact (by rw [show (t.getD p default).op = opA t p from rfl, hk]; rfl)⟩
theorem plA_mono {t : List Nd} {p : Nat} {i j : Nat} (h : i ≤ j) : plA t p i ≤ plA t p j := by
  induction j with
  | zero => rw [show i = 0 by omega]; exact Nat.le_refl _
  | succ j ih =>
    by_cases e : i = j + 1
    · rw [e]; exact Nat.le_refl _
    · exact Nat.le_trans (ih (by omega)) (Nat.le_add_right _ _)
/-- A term below stands within, and is smaller. -/
theorem TmA.kid {t : List Nd} {p : Nat} (h : TmA t p) {i : Nat} (hi : i < cnO (opA t p)) : TmA t (plA t (p + 1) i) ∧ p < plA t (p + 1) i ∧ plA t (p + 1) i + szA t (plA t (p + 1) i) ≤ p + szA t p := by
  obtain ⟨_, h2, h3⟩ := h.parts
  refine ⟨h2 i hi, ?_, ?_⟩
  · have := plA_mono (t := t) (p := p + 1) (Nat.zero_le i)
    exact this
  · have := plA_mono (t := t) (p := p + 1) (show i + 1 ≤ cnO (opA t p) from hi)
    rw [h3] at this
    exact this

/-- The greatest of some numbers; 0 of none. -/
def mxN (g : Nat → Nat) : Nat → Nat
  | 0 => 0
  | i + 1 => max (mxN g i) (g i)
theorem mxN_congr {g g' : Nat → Nat} : ∀ c, (∀ i, i < c → g i = g' i) → mxN g c = mxN g' c
  | 0, _ => rfl
  | c + 1, h => by rw [mxN, mxN, mxN_congr c (fun i hi => h i (by omega)), h c (by omega)]
theorem le_mxN {g : Nat → Nat} : ∀ {c i : Nat}, i < c → g i ≤ mxN g c
  | c + 1, i, h => by
    by_cases e : i = c
    · subst e; exact Nat.le_max_right _ _
    · exact Nat.le_trans (le_mxN (show i < c by omega)) (Nat.le_max_left _ _)
theorem mxN_le {g : Nat → Nat} {b : Nat} : ∀ c, (∀ i, i < c → g i ≤ b) → mxN g c ≤ b
  | 0, _ => Nat.zero_le _
  | c + 1, h => Nat.max_le.2 ⟨mxN_le c (fun i hi => h i (by omega)), h c (by omega)⟩

/-- How many nodes stand above one another. -/
def dpF (t : List Nd) : Nat → Nat → Nat
  | 0, _ => 0
  | f + 1, p => mxN (fun i => dpF t f (plA t (p + 1) i)) (cnO (opA t p)) + 1
def dpA (t : List Nd) (p : Nat) : Nat := dpF t (szA t p) p
theorem dpF_eq {t : List Nd} : ∀ (f p : Nat), TmA t p → szA t p ≤ f → dpF t f p = dpA t p
  | 0, p, h, hf => by have := h.bd; omega
  | f + 1, p, h, hf => by
    have hb := h.bd
    obtain ⟨g, hg⟩ : ∃ g, szA t p = g + 1 := ⟨szA t p - 1, by omega⟩
    unfold dpA
    rw [hg, dpF, dpF]
    congr 1
    refine mxN_congr _ (fun i hi => ?_)
    obtain ⟨k1, k2, k3⟩ := h.kid hi
    rw [dpF_eq f _ k1 (by omega)]
    exact (dpF_eq g _ k1 (by omega)).symm
termination_by f _ => f
decreasing_by all_goals omega
theorem dpA_eq {t : List Nd} {p : Nat} (h : TmA t p) : dpA t p = mxN (fun i => dpA t (plA t (p + 1) i)) (cnO (opA t p)) + 1 := by
  have hb := h.bd
  obtain ⟨g, hg⟩ : ∃ g, szA t p = g + 1 := ⟨szA t p - 1, by omega⟩
  rw [← dpF_eq (g + 1) p h (by omega), dpF]
  congr 1
  refine mxN_congr _ (fun i hi => ?_)
  obtain ⟨k1, k2, k3⟩ := h.kid hi
  exact dpF_eq g _ k1 (by omega)
theorem dpA_le {t : List Nd} : ∀ (n p : Nat), szA t p ≤ n → TmA t p → dpA t p ≤ szA t p
  | 0, p, hn, h => by have := h.bd; omega
  | n + 1, p, hn, h => by
    have hb := h.bd
    rw [dpA_eq h]
    have : mxN (fun i => dpA t (plA t (p + 1) i)) (cnO (opA t p)) ≤ szA t p - 1 := mxN_le _ (fun i hi => by
      obtain ⟨k1, k2, k3⟩ := h.kid hi
      have := dpA_le n _ (by omega) k1
      show dpA t _ ≤ _
      omega)
    omega

end Go.Proofs.YtadjhofomabbmaaDoor
