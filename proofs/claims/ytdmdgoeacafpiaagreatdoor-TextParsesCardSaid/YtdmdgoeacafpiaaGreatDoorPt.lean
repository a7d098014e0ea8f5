/-
  A contract's text as tokens: no program.
-/
import Derived.Test.YtdmdgoeacafpiaaGreatDoorPsR
namespace Go.Proofs.YtdmdgoeacafpiaaGreatDoor
open Go.Lib
set_option linter.unusedVariables false
set_option linter.unusedSimpArgs false

/-- A text's tokens, wherever they stand. -/
def tx (l : List UInt8) : List (List UInt8) := (toks 0 l).map Prod.snd
theorem tx_at (a : Nat) (l : List UInt8) : (toks a l).map Prod.snd = tx l := (toks_at l a 0).1
theorem tx_nil : tx [] = [] := rfl
theorem tx_gap {c : UInt8} {r : List UInt8} (h : gapB c = true) : tx (c :: r) = tx r := by
  unfold tx
  rw [toks_gap h]; exact tx_at _ _
theorem tx_mark {c : UInt8} {r : List UInt8} (h : gapB c = false) (h2 : mkB c = true) : tx (c :: r) = [c] :: tx r := by
  unfold tx
  rw [toks_mark h h2, List.map_cons, tx_at]; rfl
theorem take_word : ∀ (w r : List UInt8), (∀ c ∈ w, wdB c = true) → startsW r = false → (w ++ r).takeWhile wdB = w
  | [], [], _, _ => rfl
  | [], d :: r, _, h => by
    have h' : wdB d = false := h
    rw [List.nil_append, List.takeWhile_cons, if_neg (by rw [h']; decide)]
  | c :: w, r, h1, h2 => by
    rw [List.cons_append, List.takeWhile_cons, if_pos (h1 c (by simp)), take_word w r (fun x hx => h1 x (by simp [hx])) h2]
theorem tx_word {w r : List UInt8} (h0 : w ≠ []) (h : ∀ c ∈ w, wdB c = true) (h2 : startsW r = false) : tx (w ++ r) = w :: tx r := by
  cases w with
  | nil => exact absurd rfl h0
  | cons c w =>
    have e := take_word (c :: w) r h h2
    have el : wl (c :: w ++ r) = (c :: w).length := by unfold wl; rw [e]
    unfold tx
    rw [List.cons_append, toks_word _ _ _ (h c (by simp))]
    rw [List.cons_append] at e el
    rw [e, el, List.map_cons, tx_at]
    rw [← List.cons_append, List.drop_left]; rfl
/-- What stands behind a term: nothing, or a mark, or a gap. -/
theorem starts_mark {c : UInt8} {r : List UInt8} (h : wdB c = false) : startsW (c :: r) = false := h

theorem word_all : ∀ k : Fin 18, ∀ c ∈ wdN k.val, wdB c = true := by decide
theorem cur_all : ∀ k : Fin 8, (∀ c ∈ curN k.val, wdB c = true) ∧ curN k.val ≠ [] := by decide
theorem dg_word {c : UInt8} (h : isDg c = true) : wdB c = true := by
  have h1 := isDg_iff.1 h
  unfold wdB gapB mkB
  have n : ∀ k : UInt8, c.toNat ≠ k.toNat → (c == k) = false := fun k hk => by
    simp only [beq_eq_false_iff_ne]
    intro e; exact hk (by rw [e])
  rw [n 32 (by show c.toNat ≠ 32; omega), n 10 (by show c.toNat ≠ 10; omega), n 40 (by show c.toNat ≠ 40; omega), n 41 (by show c.toNat ≠ 41; omega), n 44 (by show c.toNat ≠ 44; omega)]
  rfl
theorem itoa_word (n : Int) : ∀ c ∈ itoa n, wdB c = true := fun c hc => by
  rcases itoa_bytes n c hc with h | h
  · have : c = 45 := by
      apply UInt8.toNat_inj.1
      exact h
    rw [this]; decide
  · exact dg_word h
theorem txt_word (n d : Int) : (∀ c ∈ txt n d, wdB c = true) ∧ txt n d ≠ [] := by
  unfold txt
  split
  · exact ⟨itoa_word n, itoa_ne n⟩
  · refine ⟨fun c hc => ?_, by simp⟩
    rcases List.mem_append.1 hc with hc | hc
    · exact itoa_word n c hc
    · rcases List.mem_cons.1 hc with rfl | hc
      · decide
      · exact itoa_word d c hc
theorem day_word (y m d : Nat) : (∀ c ∈ dayL y m d, wdB c = true) ∧ dayL y m d ≠ [] := by
  refine ⟨fun c hc => ?_, fun e => by have := dayL_len y m d; rw [e] at this; cases this⟩
  unfold dayL at hc
  obtain ⟨k, hk, rfl⟩ := List.mem_map.1 hc
  have h1 := dayB_le y m d k
  have h0 : 45 ≤ dayB y m d k := by
    unfold dayB addD baseB
    split <;> omega
  have hb : (UInt8.ofNat (dayB y m d k)).toNat = dayB y m d k := by rw [UInt8.toNat_ofNat']; omega
  generalize UInt8.ofNat (dayB y m d k) = c at *
  unfold wdB gapB mkB
  have n : ∀ k : UInt8, c.toNat ≠ k.toNat → (c == k) = false := fun k hk => by
    simp only [beq_eq_false_iff_ne]
    intro e; exact hk (by rw [e])
  rw [n 32 (by show c.toNat ≠ 32; omega), n 10 (by show c.toNat ≠ 10; omega), n 40 (by show c.toNat ≠ 40; omega), n 41 (by show c.toNat ≠ 41; omega), n 44 (by show c.toNat ≠ 44; omega)]
  rfl
theorem field_word (n : Nd) (f : Nat) (h : okF n f) : (∀ c ∈ fieldX n f, wdB c = true) ∧ fieldX n f ≠ [] := by
  match f, h with
  | 6, h => exact cur_all ⟨n.a.toNat, by have h1 : 0 ≤ n.a := h.1; have h2 : n.a < 8 := h.2; omega⟩
  | 7, h => exact ⟨itoa_word n.a, itoa_ne n.a⟩
  | 8, _ => exact day_word _ _ _
  | 0, _ | 1, _ | 2, _ | 3, _ | 4, _ | 5, _ | 9, _ | _ + 10, _ => exact day_word _ _ _

/-- The tokens with which a node's text begins. -/
def tkH (n : Nd) : List (List UInt8) := if n.op = 1 then [txt n.num n.den] else wdN (ixO n.op) :: (fdN (ixO n.op)).map (fieldX n)
theorem tx_fields (n : Nd) (r : List UInt8) (hr : startsW r = false) : ∀ l : List Nat, (∀ f ∈ l, okF n f) → tx (l.flatMap (fun f => 32 :: fieldX n f) ++ r) = l.map (fieldX n) ++ tx r ∧ startsW (l.flatMap (fun f => 32 :: fieldX n f) ++ r) = false
  | [], _ => ⟨rfl, hr⟩
  | f :: l, h => by
    obtain ⟨i1, i2⟩ := tx_fields n r hr l (fun g hg => h g (by simp [hg]))
    obtain ⟨w1, w2⟩ := field_word n f (h f (by simp))
    rw [List.flatMap_cons, List.cons_append, List.cons_append, List.append_assoc]
    refine ⟨?_, rfl⟩
    rw [tx_gap (by decide), tx_word w2 w1 i2, i1]; rfl
theorem tx_head {n : Nd} (h : okN n) {r : List UInt8} (hr : startsW r = false) : tx (hdX n ++ r) = tkH n ++ tx r := by
  unfold hdX tkH
  by_cases ho : n.op = 1
  · rw [if_pos ho, if_pos ho]
    obtain ⟨w1, w2⟩ := txt_word n.num n.den
    rw [tx_word w2 w1 hr]; rfl
  · rw [if_neg ho, if_neg ho, List.append_assoc]
    obtain ⟨h1, h2, h3, h4⟩ := h
    obtain ⟨i1, i2⟩ := tx_fields n r hr _ h4
    have hne : wdN (ixO n.op) ≠ [] := by
      have : ∀ k : Fin 18, 2 ≤ k.val → wdN k.val ≠ [] := by decide
      refine this ⟨ixO n.op, ixO_lt _⟩ ?_
      show 2 ≤ ixO n.op
      unfold ixO
      rw [if_pos ⟨by omega, h2⟩]; omega
    rw [tx_word hne (word_all ⟨ixO n.op, ixO_lt _⟩) i2, i1]; rfl
/-- The text, and the tokens, of the terms below, from one of them on. -/
def txK (g : Nat → List UInt8) : Nat → Nat → List UInt8
  | 0, _ => [41]
  | n + 1, i => (if i = 0 then [40] else [44, 32]) ++ (g i ++ txK g n (i + 1))
def tkK (g : Nat → List (List UInt8)) : Nat → Nat → List (List UInt8)
  | 0, _ => [[41]]
  | n + 1, i => (if i = 0 then [40] else [44]) :: (g i ++ tkK g n (i + 1))
theorem txK_starts (g : Nat → List UInt8) : ∀ n i r, startsW (txK g n i ++ r) = false
  | 0, _, _ => rfl
  | n + 1, i, r => by
    rw [txK]
    by_cases h : i = 0
    · rw [if_pos h]; rfl
    · rw [if_neg h]; rfl
theorem tx_kids (g : Nat → List UInt8) (k : Nat → List (List UInt8)) (r : List UInt8) : ∀ n i, (∀ j, i ≤ j → j < i + n → ∀ q, startsW q = false → tx (g j ++ q) = k j ++ tx q) → tx (txK g n i ++ r) = tkK k n i ++ tx r
  | 0, i, _ => by rw [txK, tkK]; exact tx_mark (by decide) (by decide)
  | n + 1, i, h => by
    rw [txK, tkK, List.append_assoc, List.append_assoc]
    have ih := tx_kids g k r n (i + 1) (fun j h1 h2 => h j (by omega) (by omega))
    have hg := h i (Nat.le_refl _) (by omega) (txK g n (i + 1) ++ r) (txK_starts g n (i + 1) r)
    by_cases h0 : i = 0
    · rw [if_pos h0, if_pos h0]
      show tx (40 :: (g i ++ (txK g n (i + 1) ++ r))) = _
      rw [tx_mark (by decide) (by decide), hg, ih]
      simp
    · rw [if_neg h0, if_neg h0]
      show tx (44 :: 32 :: (g i ++ (txK g n (i + 1) ++ r))) = _
      rw [tx_mark (by decide) (by decide), tx_gap (by decide), hg, ih]
      simp
theorem joinY_snoc (L : List (List UInt8)) (x : List UInt8) (h : L ≠ []) : Lib.join (L ++ [x]) [44, 32] = Lib.join L [44, 32] ++ ([44, 32] ++ x) := by
  cases L with
  | nil => exact absurd rfl h
  | cons y r => rw [List.cons_append, Lib.join_cons, Lib.join_cons]; unfold Lib.joinTail; simp
def grY (X : List UInt8) (g : Nat → List UInt8) (i : Nat) : List UInt8 := X ++ (if i = 0 then [] else 40 :: Lib.join (uptoT g i) [44, 32])
theorem grY_zero (X : List UInt8) (g : Nat → List UInt8) : grY X g 0 = X := by unfold grY; simp
theorem grY_one (X : List UInt8) (g : Nat → List UInt8) : grY X g 1 = X ++ (40 :: g 0) := by unfold grY; simp [uptoT, Lib.join]
theorem grY_more (X : List UInt8) (g : Nat → List UInt8) (i : Nat) (h : 0 < i) : grY X g (i + 1) = grY X g i ++ ([44, 32] ++ g i) := by
  unfold grY
  rw [if_neg (by omega), if_neg (by omega), uptoT_succ, joinY_snoc _ _ (fun e => by have := congrArg List.length e; rw [uptoT_length] at this; simp at this; omega)]
  simp
theorem grY_txK (X : List UInt8) (g : Nat → List UInt8) (c : Nat) (hc : 0 < c) : ∀ n i, i + n = c → grY X g i ++ txK g n i = X ++ (40 :: Lib.join (uptoT g c) [44, 32] ++ [41])
  | 0, i, h => by
    obtain rfl : i = c := by omega
    unfold grY txK
    rw [if_neg (by omega)]; simp
  | n + 1, i, h => by
    have ih := grY_txK X g c hc n (i + 1) (by omega)
    rw [← ih, txK]
    by_cases h0 : i = 0
    · subst h0
      rw [if_pos rfl, grY_zero, grY_one]; simp
    · rw [if_neg h0, grY_more X g i (by omega)]; simp
/-- The tokens of the term at a place. -/
def tkF (t : List Nd) : Nat → Nat → List (List UInt8)
  | 0, _ => []
  | f + 1, p => tkH (t.getD p default) ++ (if cnO (opA t p) = 0 then [] else tkK (fun i => tkF t f (plA t (p + 1) i)) (cnO (opA t p)) 0)
theorem tx_print {t : List Nd} (hok : ∀ p, p < t.length → okN (t.getD p default)) : ∀ f p, TmA t p → szA t p ≤ f → ∀ r, startsW r = false → tx (prF t f p ++ r) = tkF t f p ++ tx r
  | 0, p, hT, hf, _, _ => absurd hT.bd.1 (by omega)
  | f + 1, p, hT, hf, r, hr => by
    have hn := hok p hT.lt
    rw [prF, tkF]
    by_cases hc : cnO (opA t p) = 0
    · rw [if_pos hc, if_pos hc, List.append_nil, List.append_nil]; exact tx_head hn hr
    · rw [if_neg hc, if_neg hc]
      have e := grY_txK (hdX (t.getD p default)) (fun i => prF t f (plA t (p + 1) i)) (cnO (opA t p)) (by omega) (cnO (opA t p)) 0 (by omega)
      rw [grY_zero] at e
      rw [← e, List.append_assoc, tx_head hn (txK_starts _ _ _ _), tx_kids _ (fun i => tkF t f (plA t (p + 1) i)) r _ _ (fun j h1 h2 q hq => by
        obtain ⟨k1, k2, k3⟩ := hT.kid (i := j) (by omega)
        exact tx_print hok f _ k1 (by omega) q hq)]
      simp

end Go.Proofs.YtdmdgoeacafpiaaGreatDoor

namespace Go.Proofs.YtdmdgoeacafpiaaGreatDoor
open Go.Lib
set_option linter.unusedVariables false
set_option linter.unusedSimpArgs false

theorem parX_day {d : Nat} (h : d < 73049) : parN (dayL (yrN d) (moN d) (daN d)) = ((d : Int), 0) := by
  have hdt := date_is h
  have hml := mon_lt d
  have hs := (fst_step _ hml).2
  have hb := mon_long h
  obtain ⟨f1, f2, f3, f4⟩ := form_day (y := yrN d) (m := moN d) (d := daN d) (by unfold yrN; omega) (by unfold moN; omega) (by unfold daN; omega)
  unfold parN
  rw [f1, if_pos rfl, f2, f3, f4, if_pos hdt.1, hdt.2]
theorem dayW_day {d : Nat} (h : d < 73049) : dayW (dayT d) = ((d : Int), 0) := by
  unfold dayW dayT
  rw [parX_day h, if_neg (show ¬ (0 : Int) = 18 by decide)]
theorem itoa_63 {n : Nat} (h : n ≤ 63) : itoa (n : Int) = if n < 10 then [UInt8.ofNat (48 + n)] else [UInt8.ofNat (48 + n / 10), UInt8.ofNat (48 + n % 10)] := by
  by_cases h10 : n < 10
  · rw [if_pos h10, itoa_small (by omega) (by omega)]; simp
  · rw [if_neg h10, itoa_more (by omega), itoa_small (by omega) (by omega)]
    simp
    constructor
    · congr 2
    · congr 2
theorem key_all : ∀ n : Fin 64, keyW (if n.val < 10 then [UInt8.ofNat (48 + n.val)] else [UInt8.ofNat (48 + n.val / 10), UInt8.ofNat (48 + n.val % 10)]) = (0, (n.val : Int)) := by decide
theorem keyW_itoa {a : Int} (h0 : 0 ≤ a) (h : a ≤ 63) : keyW (itoa a) = (0, a) := by
  obtain ⟨n, rfl⟩ : ∃ n : Nat, a = n := ⟨a.toNat, by omega⟩
  rw [itoa_63 (by omega)]
  exact key_all ⟨n, by omega⟩
theorem cur_find : ∀ k : Fin 8, findK (curN k.val) 8 = some k.val := by decide
theorem word_find : ∀ k : Fin 18, 2 ≤ k.val → readR (wdN k.val) = none ∧ findW (wdN k.val) (mkT.getD k.val 0) 18 = some k.val ∧ (mkT.getD k.val 0 = 1 ∨ mkT.getD k.val 0 = 2) := by decide
theorem first_word (k : Nat) (h2 : 2 ≤ k) (hk : k < 18) (N : List Nd) (o : Int) (D : List Nat) : takeM ⟨N, o, mkT.getD k 0 :: D⟩ (wdN k) = begM ⟨k, 0, 0, 0, 0⟩ k ⟨N, o, D⟩ := by
  obtain ⟨h1, h3, h4⟩ := word_find ⟨k, hk⟩ h2
  dsimp only at h1 h3 h4
  have hr : ratW (wdN k) = none := by unfold ratW; rw [h1]
  rcases h4 with e | e
  · rw [e] at h3 ⊢
    show obsM (wdN k) ⟨N, o, D⟩ = _
    unfold obsM
    rw [hr]
    show wordM 1 (wdN k) ⟨N, o, D⟩ = _
    unfold wordM
    rw [h3]
  · rw [e] at h3 ⊢
    show wordM 2 (wdN k) ⟨N, o, D⟩ = _
    unfold wordM
    rw [h3]
/-- A node with one field more. -/
def setX (n : Nd) (f : Nat) (m : Nd) : Nd := if f = 9 then setB n.b m else setA n.a m
theorem take_field (n : Nd) (f : Nat) (hf : 6 ≤ f ∧ f < 10) (h : okF n f) (N : List Nd) (m : Nd) (o : Int) (D : List Nat) : takeM ⟨N ++ [m], o, f :: D⟩ (fieldX n f) = (0, ⟨N ++ [setX n f m], o, D⟩) := by
  match f, hf, h with
  | 6, _, h =>
    have h1 : 0 ≤ n.a := h.1
    have h2 : n.a < 8 := h.2
    show nameM (curN n.a.toNat) ⟨N ++ [m], o, D⟩ = _
    unfold nameM
    rw [cur_find ⟨n.a.toNat, by omega⟩]
    dsimp only
    rw [updL_app, Int.toNat_of_nonneg h1]; rfl
  | 7, _, h =>
    have h1 : 0 ≤ n.a := h.1
    have h2 : n.a ≤ 63 := h.2
    show keyM (itoa n.a) ⟨N ++ [m], o, D⟩ = _
    unfold keyM
    rw [keyW_itoa h1 h2, if_pos rfl, updL_app]; rfl
  | 8, _, h =>
    have h1 : 0 ≤ n.a := h.1
    have h2 : n.a ≤ 73048 := h.2
    show dayM (dayT n.a.toNat) ⟨N ++ [m], o, D⟩ = _
    unfold dayM
    rw [dayW_day (by omega), updL_app, Int.toNat_of_nonneg h1]; rfl
  | 9, _, h =>
    have h1 : 0 ≤ n.b := h.1
    have h2 : n.b ≤ 73048 := h.2
    show untM (dayT n.b.toNat) ⟨N ++ [m], o, D⟩ = _
    unfold untM
    rw [dayW_day (by omega), updL_app, Int.toNat_of_nonneg h1]; rfl
  | 0, h, _ | 1, h, _ | 2, h, _ | 3, h, _ | 4, h, _ | 5, h, _ | _ + 10, h, _ => exact absurd h (by omega)
theorem run_fields (n : Nd) (N : List Nd) (o : Int) (D : List Nat) : ∀ (l : List Nat) (m : Nd), (∀ f ∈ l, (6 ≤ f ∧ f < 10) ∧ okF n f) → runM ⟨N ++ [m], o, l ++ D⟩ (l.map (fieldX n)) = (l.length, 0, ⟨N ++ [l.foldl (fun m f => setX n f m) m], o, D⟩)
  | [], m, _ => rfl
  | f :: l, m, h => by
    obtain ⟨h1, h2⟩ := h f (by simp)
    have e := take_field n f h1 h2 N m o (l ++ D)
    rw [List.map_cons, List.cons_append, runM_ok (by rw [e]), e, run_fields n N o D l _ (fun g hg => h g (by simp [hg]))]
    rfl
/-- What a field that is not told has to be. -/
theorem fd_none : ∀ k : Fin 18, (maN k.val = 0 ∨ 6 ∈ fdN k.val ∨ 7 ∈ fdN k.val ∨ 8 ∈ fdN k.val) ∧ (mbN k.val = 0 ∨ 9 ∈ fdN k.val) ∧ (fdN k.val = [] ∨ fdN k.val = [7] ∨ fdN k.val = [6] ∨ fdN k.val = [8] ∨ fdN k.val = [7, 9]) := by decide
theorem fold_node {n : Nd} (hf : fldO n = true) (ho : n.op ≠ 1) (hk : 2 ≤ n.op ∧ n.op < 18) : (fdN (ixO n.op)).foldl (fun m f => setX n f m) ⟨n.op, 0, 0, 0, 0⟩ = n := by
  have hix := ixO_lt n.op
  unfold fldO at hf
  rw [Bool.and_eq_true, Bool.and_eq_true] at hf
  obtain ⟨⟨h1, h2⟩, h3⟩ := hf
  have ha := of_decide_eq_true (show decide (0 ≤ n.a ∧ n.a ≤ (maN (ixO n.op) : Int)) = true from h1)
  have hb := of_decide_eq_true (show decide (0 ≤ n.b ∧ n.b ≤ (mbN (ixO n.op) : Int)) = true from h2)
  have hne : ixO n.op ≠ 1 := by
    unfold ixO
    rw [if_pos ⟨by omega, hk.2⟩]; omega
  have hv : n.num = 0 ∧ n.den = 0 := by
    unfold fldV at h3
    rw [if_neg hne] at h3
    exact of_decide_eq_true h3
  obtain ⟨f1, f2, f3⟩ := fd_none ⟨ixO n.op, hix⟩
  dsimp only at f1 f2 f3
  generalize ixO n.op = k at *
  obtain ⟨op, a, b, num, den⟩ := n
  dsimp only at *
  obtain ⟨rfl, rfl⟩ := hv
  rcases f3 with e | e | e | e | e <;> rw [e] at f1 f2 ⊢ <;> simp at f1 f2 <;> simp [setX, setA, setB]
  · rw [f1] at ha; rw [f2] at hb; omega
  · rw [f2] at hb; omega
  · rw [f2] at hb; omega
  · rw [f2] at hb; omega
/-- A node's own tokens. -/
theorem run_head {n : Nd} (hf : fldO n = true) (hok : okN n) (N : List Nd) (o : Int) (D : List Nat) (hN : N.length < 64) (ho : o < 12) : runM ⟨N, o, mkO n.op :: D⟩ (tkH n) = ((tkH n).length, 0, ⟨N ++ [n], o, bhK (kdO n.op) 3 ++ D⟩) := by
  obtain ⟨h1, h2, h3, h4⟩ := id hok
  unfold tkH
  by_cases h : n.op = 1
  · rw [if_pos h]
    obtain ⟨hk, a1, b1⟩ := h3 h
    have e : takeM ⟨N, o, mkO n.op :: D⟩ (txt n.num n.den) = (0, ⟨N ++ [n], o, D⟩) := by
      rw [h]
      show obsM (txt n.num n.den) ⟨N, o, D⟩ = _
      unfold obsM
      rw [ratW_txt a1 b1 hk]
      dsimp only
      unfold begM
      rw [if_neg (by dsimp only; omega)]
      have hn : (⟨1, 0, 0, n.num, n.den⟩ : Nd) = n := by
        unfold fldO at hf
        rw [Bool.and_eq_true, Bool.and_eq_true] at hf
        obtain ⟨⟨g1, g2⟩, _⟩ := hf
        have ha := of_decide_eq_true (show decide (0 ≤ n.a ∧ n.a ≤ (maN (ixO n.op) : Int)) = true from g1)
        have hb := of_decide_eq_true (show decide (0 ≤ n.b ∧ n.b ≤ (mbN (ixO n.op) : Int)) = true from g2)
        rw [h] at ha hb
        have m1 : (maN (ixO 1) : Int) = 0 := by decide
        have m2 : (mbN (ixO 1) : Int) = 0 := by decide
        rw [m1] at ha
        rw [m2] at hb
        obtain ⟨op, a, b, num, den⟩ := n
        dsimp only at *
        congr 1 <;> omega
      rw [hn]; rfl
    rw [runM_ok (by rw [e]), e, h]
    rfl
  · rw [if_neg h]
    obtain ⟨k, hk1, hk2, hk3⟩ : ∃ k : Nat, n.op = (k : Int) ∧ 2 ≤ k ∧ k < 18 := ⟨n.op.toNat, by omega, by omega, by omega⟩
    have hix : ixO n.op = k := by unfold ixO; rw [if_pos ⟨by omega, h2⟩, hk1]; rfl
    have hfold := fold_node hf h ⟨by omega, h2⟩
    have e : takeM ⟨N, o, mkO n.op :: D⟩ (wdN (ixO n.op)) = (0, ⟨N ++ [⟨n.op, 0, 0, 0, 0⟩], o, fdN (ixO n.op) ++ (bhK (kdO n.op) 3 ++ D)⟩) := by
      unfold mkO kdO
      rw [hix, first_word k hk2 hk3]
      unfold begM bhN
      rw [if_neg (by dsimp only; omega), hk1, List.append_assoc]
    have hall : ∀ f ∈ fdN (ixO n.op), (6 ≤ f ∧ f < 10) ∧ okF n f := fun f hf => ⟨by
      have := fd_all ⟨ixO n.op, ixO_lt _⟩ f hf
      dsimp only at this
      omega, h4 f hf⟩
    rw [runM_ok (by rw [e]), e, run_fields n N o _ _ _ hall, hfold]
    simp

end Go.Proofs.YtdmdgoeacafpiaaGreatDoor

namespace Go.Proofs.YtdmdgoeacafpiaaGreatDoor
open Go.Lib
set_option linter.unusedVariables false
set_option linter.unusedSimpArgs false

theorem subT_add (t : List Nd) (a n m : Nat) : subT t a (n + m) = subT t a n ++ subT t (a + n) m := by
  unfold subT
  rw [List.take_add, List.drop_drop]
theorem subT_one {t : List Nd} {p : Nat} (h : p < t.length) : subT t p 1 = [t.getD p default] := by
  unfold subT
  rw [drop_cons h]; rfl
theorem tkK_len (g : Nat → List (List UInt8)) : ∀ n i, 0 < (tkK g n i).length
  | 0, _ => by rw [tkK]; decide
  | n + 1, i => by rw [tkK]; simp
/-- Runs put together. -/
theorem run_on {m m' : Mc} {u v : List (List UInt8)} {R : Nat × Nat × Mc} (h1 : runM m u = (u.length, 0, m')) (h2 : runM m' v = (v.length, 0, R.2.2)) : runM m (u ++ v) = ((u ++ v).length, 0, R.2.2) := by
  have := (runM_app u v m (by rw [h1])).1
  rw [this, h1]
  dsimp only
  rw [h2, List.length_append]
theorem run_one {m m' : Mc} {w : List UInt8} (h : takeM m w = (0, m')) : runM m [w] = ([w].length, 0, m') := by
  rw [runM_ok (by rw [h]), h]; rfl
theorem kd_drop (op : Int) (i : Nat) (h : i < cnO op) : (kdO op).drop i = kdC (ixO op) i :: (kdO op).drop (i + 1) := by
  have hl : i < (kdO op).length := h
  rw [List.drop_eq_getElem_cons hl]
  congr 1
  unfold kdC kdO at *
  rw [List.getD_eq_getElem?_getD (l := kdT.getD (ixO op) []), List.getElem?_eq_getElem hl]; rfl
theorem run_kids {t : List Nd} {p : Nat} (hT : TmA t p) (g : Nat → List (List UInt8)) (hs : SrtA t p) (o : Int) (D : List Nat)
    (hk : ∀ i, i < cnO (opA t p) → ∀ N D', N.length + szA t (plA t (p + 1) i) ≤ 64 → runM ⟨N, o + 1, mkO (opA t (plA t (p + 1) i)) :: D'⟩ (g i) = ((g i).length, 0, ⟨N ++ subT t (plA t (p + 1) i) (szA t (plA t (p + 1) i)), o + 1, D'⟩)) :
    ∀ n i, i + n = cnO (opA t p) → 0 < cnO (opA t p) → ∀ N, N.length + (p + szA t p - plA t (p + 1) i) ≤ 64 →
      runM ⟨N, if i = 0 then o else o + 1, bhK ((kdO (opA t p)).drop i) (if i = 0 then 3 else 4) ++ D⟩ (tkK g n i) = ((tkK g n i).length, 0, ⟨N ++ subT t (plA t (p + 1) i) (p + szA t p - plA t (p + 1) i), o, D⟩)
  | 0, i, h, h0, N, hN => by
    obtain rfl : i = cnO (opA t p) := by omega
    obtain ⟨_, _, hend⟩ := hT.parts
    rw [if_neg (by omega), if_neg (by omega), hend, Nat.sub_self, List.drop_of_length_le (show (kdO (opA t p)).length ≤ cnO (opA t p) from Nat.le_refl _)]
    have e : takeM ⟨N, o + 1, bhK [] 4 ++ D⟩ [41] = (0, ⟨N, o, D⟩) := by
      show (onlyM 41 [41], (⟨N, o + 1 - 1, D⟩ : Mc)) = _
      rw [Int.add_sub_cancel]; rfl
    rw [tkK, run_one e]
    unfold subT
    rw [List.take_zero, List.append_nil]
  | n + 1, i, h, h0, N, hN => by
    have hi : i < cnO (opA t p) := by omega
    obtain ⟨_, _, hend⟩ := hT.parts
    obtain ⟨k1, k2, k3⟩ := hT.kid hi
    have hmono := plA_mono (t := t) (p := p + 1) (show i + 1 ≤ cnO (opA t p) from hi)
    rw [hend] at hmono
    have hstep : plA t (p + 1) (i + 1) = plA t (p + 1) i + szA t (plA t (p + 1) i) := rfl
    have e1 : takeM ⟨N, if i = 0 then o else o + 1, bhK ((kdO (opA t p)).drop i) (if i = 0 then 3 else 4) ++ D⟩ (if i = 0 then [40] else [44]) = (0, ⟨N, o + 1, kdC (ixO (opA t p)) i :: (bhK ((kdO (opA t p)).drop (i + 1)) 4 ++ D)⟩) := by
      rw [kd_drop _ i hi]
      by_cases c : i = 0
      · rw [if_pos c, if_pos c, if_pos c]; rfl
      · rw [if_neg c, if_neg c, if_neg c]; rfl
    have e2 := hk i hi N (bhK ((kdO (opA t p)).drop (i + 1)) 4 ++ D) (by omega)
    rw [hs i hi] at e2
    have ih := run_kids hT g hs o D hk n (i + 1) (by omega) h0 (N ++ subT t (plA t (p + 1) i) (szA t (plA t (p + 1) i))) (by
      rw [List.length_append, subT_len (by have := k1.bd; omega), hstep]; omega)
    rw [if_neg (by omega), if_neg (by omega)] at ih
    rw [tkK]
    have a1 := run_on (R := (0, 0, ⟨N ++ subT t (plA t (p + 1) i) (szA t (plA t (p + 1) i)) ++ subT t (plA t (p + 1) (i + 1)) (p + szA t p - plA t (p + 1) (i + 1)), o, D⟩)) e2 ih
    have a2 := run_on (R := (0, 0, ⟨N ++ subT t (plA t (p + 1) i) (szA t (plA t (p + 1) i)) ++ subT t (plA t (p + 1) (i + 1)) (p + szA t p - plA t (p + 1) (i + 1)), o, D⟩)) (run_one e1) a1
    have e3 : N ++ subT t (plA t (p + 1) i) (szA t (plA t (p + 1) i)) ++ subT t (plA t (p + 1) (i + 1)) (p + szA t p - plA t (p + 1) (i + 1)) = N ++ subT t (plA t (p + 1) i) (p + szA t p - plA t (p + 1) i) := by
      rw [List.append_assoc, hstep, ← subT_add]
      congr 2
      omega
    rw [e3] at a2
    exact a2
/-- The machine over a term's own tokens. -/
theorem run_term {t : List Nd} (hf : ∀ p, p < t.length → fldO (t.getD p default) = true) (hok : ∀ p, p < t.length → okN (t.getD p default)) (hs : ∀ p, p < t.length → SrtA t p) :
    ∀ f p, TmA t p → szA t p ≤ f → ∀ (N : List Nd) (o : Int) (D : List Nat), N.length + szA t p ≤ 64 → o + (dpA t p : Int) ≤ 12 → runM ⟨N, o, mkO (opA t p) :: D⟩ (tkF t f p) = ((tkF t f p).length, 0, ⟨N ++ subT t p (szA t p), o, D⟩)
  | 0, p, hT, hfu, _, _, _, _, _ => absurd hT.bd.1 (by omega)
  | f + 1, p, hT, hfu, N, o, D, hN, ho => by
    have hp := hT.lt
    have hb := hT.bd
    have hd := dpA_eq hT
    obtain ⟨_, _, hend⟩ := hT.parts
    have eh := run_head (hf p hp) (hok p hp) N o D (by omega) (by omega)
    have hop : (t.getD p default).op = opA t p := rfl
    rw [hop] at eh
    rw [tkF]
    by_cases hc : cnO (opA t p) = 0
    · rw [if_pos hc, List.append_nil, eh]
      have h1 : szA t p = 1 := by rw [hc] at hend; unfold plA at hend; omega
      have hk : kdO (opA t p) = [] := List.length_eq_zero_iff.1 hc
      rw [h1, subT_one hp, hk]; rfl
    · rw [if_neg hc]
      have ek := run_kids hT (fun i => tkF t f (plA t (p + 1) i)) (hs p hp) o D (fun i hi N' D' hN' => by
        obtain ⟨k1, k2, k3⟩ := hT.kid hi
        have hle := le_mxN (g := fun i => dpA t (plA t (p + 1) i)) hi
        have hle2 : dpA t (plA t (p + 1) i) ≤ mxN (fun i => dpA t (plA t (p + 1) i)) (cnO (opA t p)) := hle
        exact run_term hf hok hs f _ k1 (by omega) N' (o + 1) D' hN' (by omega)) (cnO (opA t p)) 0 (by omega) (by omega) (N ++ [t.getD p default]) (by
          rw [List.length_append]
          show N.length + 1 + (p + szA t p - (p + 1)) ≤ 64
          omega)
      rw [if_pos rfl, if_pos rfl, List.drop_zero] at ek
      have a := run_on (R := (0, 0, ⟨N ++ [t.getD p default] ++ subT t (plA t (p + 1) 0) (p + szA t p - plA t (p + 1) 0), o, D⟩)) eh ek
      have e3 : N ++ [t.getD p default] ++ subT t (plA t (p + 1) 0) (p + szA t p - plA t (p + 1) 0) = N ++ subT t p (szA t p) := by
        rw [List.append_assoc, ← subT_one hp]
        show N ++ (subT t p 1 ++ subT t (p + 1) (p + szA t p - (p + 1))) = _
        rw [← subT_add]
        congr 2
        omega
      rw [e3] at a
      exact a
/-- The tokens of a contract's text lead to it. -/
theorem run_chk {t : List Nd} (h : chkK t = 0) (hbd : BdT t) : runM m0 (tkF t (szA t 0) 0) = ((tkF t (szA t 0) 0).length, 0, ⟨t, 0, []⟩) := by
  obtain ⟨h64, hW, hok⟩ := chk_ok h hbd
  obtain ⟨_, _, h3, h4, h5⟩ := ofK_zero (by rw [chkX_of h])
  obtain ⟨w1, w2⟩ := hW.tm
  have hm : mkO (opA t 0) = 2 := (chk_mk h).2
  have := run_term h3 hok h4 (szA t 0) 0 w1 (Nat.le_refl _) [] 0 [] (by rw [w2]; simpa using h64) (by omega)
  rw [hm, w2, List.nil_append] at this
  rw [show subT t 0 t.length = t by unfold subT; simp, ← w2] at this
  exact this
/-- A text with a contract's tokens is parsed as the contract. -/
theorem par_tokens {t : List Nd} (h : chkK t = 0) (hbd : BdT t) {l : List UInt8} (hl : tx l = tkF t (szA t 0) 0) : parT l = (t, 0, 0) := by
  have e := run_chk h hbd
  rw [← hl] at e
  unfold parT
  dsimp only
  show (if (runM m0 (tx l)).2.1 ≠ 0 then _ else _) = _
  rw [show (toks 0 l).map Prod.snd = tx l from rfl, e]
  rfl
theorem tx_prX {t : List Nd} (h : chkK t = 0) (hbd : BdT t) : tx (prX t) = tkF t (szA t 0) 0 := by
  obtain ⟨h64, hW, hok⟩ := chk_ok h hbd
  have := tx_print hok (szA t 0) 0 hW.tm.1 (Nat.le_refl _) [] rfl
  rw [List.append_nil, tx_nil, List.append_nil] at this
  unfold prX prT
  rw [if_pos h]; exact this
/-- P6.3: Parse of Print is the contract. -/
theorem par_print {t : List Nd} (h : chkK t = 0) (hbd : BdT t) : parT (prX t) = (t, 0, 0) := par_tokens h hbd (tx_prX h hbd)

end Go.Proofs.YtdmdgoeacafpiaaGreatDoor

namespace Go.Proofs.YtdmdgoeacafpiaaGreatDoor
open Go.Lib
set_option linter.unusedVariables false
set_option linter.unusedSimpArgs false

/-- A row that is a term of a sort, but for how deep it is. -/
structure GT (T : List Nd) (s : Nat) : Prop where
  whole : WholeT T
  sort : mkO (opA T 0) = s
  fld : ∀ p, p < T.length → fldO (T.getD p default) = true
  srt : ∀ p, p < T.length → SrtA T p
  bd : BdT T
theorem scan_flat : ∀ (L : List (List Nd)), (∀ x ∈ L, WholeT x) → scan L.length L.flatten = some L.flatten.length
  | [], _ => rfl
  | x :: L, h => by
    have hx : scan 1 x = some x.length := h x (by simp)
    have ih := scan_flat L (fun y hy => h y (by simp [hy]))
    rw [List.length_cons, show L.length + 1 = 1 + L.length by omega, List.flatten_cons, Nat.add_comm 1, ← Nat.add_comm 1, scan_add L.length, scan_more hx, Option.bind_some, List.drop_left, ih]
    simp
/-- Where a row's parts begin. -/
def atL (L : List (List Nd)) (i : Nat) : Nat := 1 + (L.take i).flatten.length
theorem atL_succ : ∀ {L : List (List Nd)} {i : Nat}, i < L.length → atL L (i + 1) = atL L i + (L.getD i []).length
  | [], i, h => absurd h (Nat.not_lt_zero _)
  | x :: L, 0, _ => by unfold atL; simp
  | x :: L, i + 1, h => by
    have ih := atL_succ (L := L) (i := i) (by simpa using h)
    unfold atL at ih ⊢
    rw [List.take_succ_cons, List.take_succ_cons, List.flatten_cons, List.flatten_cons, List.length_append, List.length_append, List.getD_cons_succ]
    omega
theorem drop_part (n : Nd) : ∀ (L : List (List Nd)) (i : Nat), i < L.length → (n :: L.flatten).drop (atL L i) = L.getD i [] ++ (L.drop (i + 1)).flatten
  | [], i, h => absurd h (Nat.not_lt_zero _)
  | x :: L, 0, _ => by unfold atL; simp
  | x :: L, i + 1, h => by
    have ih := drop_part n L i (by simpa using h)
    unfold atL at ih ⊢
    rw [Nat.add_comm 1, List.drop_succ_cons] at ih ⊢
    rw [List.take_succ_cons, List.flatten_cons, List.flatten_cons, List.length_append, ← List.drop_drop, List.drop_left, ih]
    simp [List.getD_eq_getElem?_getD]
theorem part_tm {n : Nd} {L : List (List Nd)} (h : ∀ x ∈ L, WholeT x) {i : Nat} (hi : i < L.length) : TmA (n :: L.flatten) (atL L i) ∧ szA (n :: L.flatten) (atL L i) = (L.getD i []).length ∧ subT (n :: L.flatten) (atL L i) (szA (n :: L.flatten) (atL L i)) = L.getD i [] := by
  have hm : L.getD i [] ∈ L := by rw [List.getD_eq_getElem?_getD, List.getElem?_eq_getElem hi]; exact List.getElem_mem hi
  have hw : scan 1 (L.getD i []) = some (L.getD i []).length := h _ hm
  have e := drop_part n L i hi
  have ht := TmA.of (t := n :: L.flatten) (p := atL L i) (n := (L.getD i []).length) (by rw [e]; exact scan_more hw _)
  refine ⟨ht.1, ht.2, ?_⟩
  unfold subT
  rw [e, ht.2, List.take_left]
theorem parts_at {n : Nd} {L : List (List Nd)} (h : ∀ x ∈ L, WholeT x) : ∀ i, i ≤ L.length → plA (n :: L.flatten) 1 i = atL L i
  | 0, _ => by unfold plA atL; simp
  | i + 1, hi => by
    have ih := parts_at (n := n) h i (by omega)
    rw [plA, ih, (part_tm (n := n) h (by omega)).2.1, atL_succ (by omega)]
theorem join_whole {n : Nd} {L : List (List Nd)} (h : ∀ x ∈ L, WholeT x) (hm : mkO n.op ≠ 0) (hc : L.length = cnO n.op) : WholeT (n :: L.flatten) := by
  unfold WholeT
  rw [show (1 : Nat) = 0 + 1 from rfl, scan_cons hm, Nat.zero_add, ← hc, scan_flat L h]; rfl
/-- A place within a part. -/
theorem place_part : ∀ (L : List (List Nd)) (q : Nat), q < L.flatten.length → ∃ i r, i < L.length ∧ r < (L.getD i []).length ∧ 1 + q = atL L i + r
  | [], q, h => absurd h (Nat.not_lt_zero _)
  | x :: L, q, h => by
    by_cases c : q < x.length
    · exact ⟨0, q, by simp, by simpa using c, by unfold atL; simp⟩
    · rw [List.flatten_cons, List.length_append] at h
      obtain ⟨i, r, h1, h2, h3⟩ := place_part L (q - x.length) (by omega)
      refine ⟨i + 1, r, by simpa using h1, by simpa [List.getD_eq_getElem?_getD] using h2, ?_⟩
      unfold atL at h3 ⊢
      rw [List.take_succ_cons, List.flatten_cons, List.length_append]
      omega
theorem node_part {n : Nd} {L : List (List Nd)} (h : ∀ x ∈ L, WholeT x) {i r : Nat} (hi : i < L.length) (hr : r < (L.getD i []).length) : (n :: L.flatten).getD (atL L i + r) default = (L.getD i []).getD r default := by
  obtain ⟨h1, h2, h3⟩ := part_tm (n := n) h hi
  have := subT_get (t := n :: L.flatten) (p := atL L i) (n := szA (n :: L.flatten) (atL L i)) (i := r) h1.bd.2 (by rw [h2]; exact hr)
  rw [h3] at this
  exact this.symm
/-- THE PARTS MAKE A TERM. -/
theorem GT_join {n : Nd} {L : List (List Nd)} (hm : mkO n.op ≠ 0) (hc : L.length = cnO n.op) (hf : fldO n = true) (hI : I64T n.num ∧ I64T n.den) (h : ∀ i, i < L.length → GT (L.getD i []) (kdC (ixO n.op) i)) :
    GT (n :: L.flatten) (mkO n.op) ∧ dpA (n :: L.flatten) 0 = mxN (fun i => dpA (L.getD i []) 0) L.length + 1 := by
  have hw : ∀ x ∈ L, WholeT x := fun x hx => by
    obtain ⟨i, hi, rfl⟩ := List.mem_iff_getElem.1 hx
    have := (h i hi).whole
    rw [List.getD_eq_getElem?_getD, List.getElem?_eq_getElem hi] at this
    exact this
  have hW := join_whole hw hm hc
  have w := hW.tm
  have ho : opA (n :: L.flatten) 0 = n.op := rfl
  have sub : ∀ i, i < L.length → ∀ r, r < (L.getD i []).length → TmA (n :: L.flatten) (atL L i + r) ∧ szA (n :: L.flatten) (atL L i + r) = szA (L.getD i []) r ∧ dpA (n :: L.flatten) (atL L i + r) = dpA (L.getD i []) r ∧ opA (n :: L.flatten) (atL L i + r) = opA (L.getD i []) r := fun i hi r hr => by
    obtain ⟨h1, h2, h3⟩ := part_tm (n := n) hw hi
    obtain ⟨n1, n2, n3, n4⟩ := tm_nest h1 (q := r) (by rw [h2]; exact hr)
    have d := sub_dp h1 _ r (by rw [h2]; exact hr) (Nat.le_refl _)
    rw [h3] at n1 n3 d
    refine ⟨n2, n3, d.symm, ?_⟩
    unfold opA
    rw [node_part hw hi hr]
  have hdp : dpA (n :: L.flatten) 0 = mxN (fun i => dpA (L.getD i []) 0) L.length + 1 := by
    rw [dpA_eq w.1, ho, ← hc]
    congr 1
    refine mxN_congr _ (fun i hi => ?_)
    have hpos : 0 < (L.getD i []).length := (h i hi).whole.tm.1.lt
    have := (sub i hi 0 hpos).2.2.1
    rw [Nat.add_zero] at this
    rw [Nat.zero_add, parts_at hw i (by omega)]
    exact this
  refine ⟨⟨hW, by rw [ho], fun p hp => ?_, fun p hp => ?_, fun p hp => ?_⟩, hdp⟩
  · cases p with
    | zero => exact hf
    | succ q =>
      obtain ⟨i, r, h1, h2, h3⟩ := place_part L q (by simpa using hp)
      rw [show q + 1 = 1 + q by omega, h3, node_part hw h1 h2]
      exact (h i h1).fld r h2
  · cases p with
    | zero =>
      intro i hi
      rw [ho] at hi ⊢
      rw [← hc] at hi
      have hpos : 0 < (L.getD i []).length := (h i hi).whole.tm.1.lt
      have := (sub i hi 0 hpos).2.2.2
      rw [Nat.add_zero] at this
      rw [Nat.zero_add, parts_at hw i (by omega), this]
      exact (h i hi).sort
    | succ q =>
      obtain ⟨i, r, h1, h2, h3⟩ := place_part L q (by simpa using hp)
      rw [show q + 1 = 1 + q by omega, h3]
      obtain ⟨p1, p2, p3⟩ := part_tm (n := n) hw h1
      have hs := (h i h1).srt r h2
      intro j hj
      rw [(sub i h1 r h2).2.2.2] at hj ⊢
      have hpl := sub_pl p1 (q := r) (by rw [p2]; exact h2) j (by rw [(sub i h1 r h2).2.2.2]; omega)
      rw [p3] at hpl
      rw [← hpl, ← hs j hj]
      obtain ⟨k1, k2, k3⟩ := ((h i h1).whole.all r h2).kid hj
      have hb := k1.bd
      have hbr := ((h i h1).whole.all r h2).bd
      exact congrArg mkO (sub i h1 _ (by omega)).2.2.2
  · cases p with
    | zero => exact hI
    | succ q =>
      obtain ⟨i, r, h1, h2, h3⟩ := place_part L q (by simpa using hp)
      rw [show q + 1 = 1 + q by omega, h3, node_part hw h1 h2]
      exact (h i h1).bd r h2

end Go.Proofs.YtdmdgoeacafpiaaGreatDoor

namespace Go.Proofs.YtdmdgoeacafpiaaGreatDoor
open Go.Lib
set_option linter.unusedVariables false
set_option linter.unusedSimpArgs false

/-- Tokens without a wrong one: what has to come ahead of `D` has not all come yet, or it has, and `Q` holds then. -/
def Sp (W : List (List UInt8)) (m : Mc) (D : List Nat) (Q : Mc → Prop) : Prop :=
  (∃ E, E ≠ [] ∧ (runM m W).2.2.D = E ++ D) ∨ ∃ u v m', W = u ++ v ∧ runM m u = (u.length, 0, m') ∧ m'.D = D ∧ Q m'
theorem Sp.done {W : List (List UInt8)} {m : Mc} {D : List Nat} {Q : Mc → Prop} (h : m.D = D) (q : Q m) : Sp W m D Q :=
  Or.inr ⟨[], W, m, rfl, rfl, h, q⟩
theorem Sp.nil {m : Mc} {E D : List Nat} {Q : Mc → Prop} (h : m.D = E ++ D) (hE : E ≠ []) : Sp [] m D Q := Or.inl ⟨E, hE, h⟩
theorem Sp.step {w : List UInt8} {W : List (List UInt8)} {m m1 : Mc} {D : List Nat} {Q : Mc → Prop} (h : takeM m w = (0, m1)) (k : Sp W m1 D Q) : Sp (w :: W) m D Q := by
  rcases k with ⟨E, hE, he⟩ | ⟨u, v, m', h1, h2, h3, h4⟩
  · refine Or.inl ⟨E, hE, ?_⟩
    rw [runM_ok (by rw [h]), h]; exact he
  · refine Or.inr ⟨w :: u, v, m', by rw [h1]; rfl, ?_, h3, h4⟩
    rw [runM_ok (by rw [h]), h, h2]; rfl
theorem Sp.bind {W : List (List UInt8)} {m : Mc} {X D : List Nat} {Q R : Mc → Prop} (h0 : (runM m W).2.1 = 0) (h : Sp W m (X ++ D) Q)
    (k : ∀ v m', v.length ≤ W.length → m'.D = X ++ D → Q m' → (runM m' v).2.1 = 0 → Sp v m' D R) : Sp W m D R := by
  rcases h with ⟨E, hE, he⟩ | ⟨u, v, m', h1, h2, h3, h4⟩
  · exact Or.inl ⟨E ++ X, by simp [hE], by rw [he, List.append_assoc]⟩
  · have ha := runM_app u v m (by rw [h2])
    rw [← h1, h2] at ha
    dsimp only at ha
    have hv : (runM m' v).2.1 = 0 := by rw [ha.1] at h0; exact h0
    rcases k v m' (by rw [h1]; simp) h3 h4 hv with ⟨E, hE, he⟩ | ⟨u', v', m'', g1, g2, g3, g4⟩
    · exact Or.inl ⟨E, hE, by rw [ha.1]; exact he⟩
    · refine Or.inr ⟨u ++ u', v', m'', by rw [h1, g1, List.append_assoc], ?_, g3, g4⟩
      rw [(runM_app u u' m (by rw [h2])).1, h2]
      dsimp only
      rw [g2, List.length_append]
/-- The first token is not wrong. -/
theorem first_ok {m : Mc} {w : List UInt8} {W : List (List UInt8)} (h : (runM m (w :: W)).2.1 = 0) : (takeM m w).1 = 0 ∧ (runM (takeM m w).2 W).2.1 = 0 := by
  by_cases c : (takeM m w).1 = 0
  · rw [runM_ok c] at h; exact ⟨c, h⟩
  · rw [runM_no c] at h; exact absurd h c
theorem take_eq {m : Mc} {w : List UInt8} (h : (takeM m w).1 = 0) : takeM m w = (0, (takeM m w).2) := by rw [← h]
theorem only_eq {c : UInt8} {w : List UInt8} (h : onlyM c w = 0) : w = [c] := by
  unfold onlyM at h
  split at h
  · assumption
  · cases h
/-- Fields that are told. -/
def fitF (f : Nat) (x : Int) : Prop := 0 ≤ x ∧ x ≤ (if f = 6 then 7 else if f = 7 then 63 else 73048)
def putF (f : Nat) (x : Int) (n : Nd) : Nd := if f = 9 then setB x n else setA x n
theorem digs_pos : ∀ {w : List UInt8} {v : Int}, w.all isDg = true → atoiAll w = .ok v → 0 ≤ v
  | [], v, _, h => by cases h
  | c :: r, v, hd, h => by
    have h1 : isDg c = true := by
      rw [List.all_cons, Bool.and_eq_true] at hd; exact hd.1
    have h2 := isDg_iff.1 h1
    have hn : ¬ c.toNat = 45 := by omega
    unfold atoiAll at h
    dsimp only at h
    split at h
    · cases h
    · cases h
    · split at h
      · cases h
      · split at h
        · cases h
        · injection h with h
          have h' : (_ : Int) = v := h
          omega
theorem keyW_back {w : List UInt8} (h : (keyW w).1 = 0) : 0 ≤ (keyW w).2 ∧ (keyW w).2 ≤ 63 := by
  unfold keyW at h ⊢
  by_cases c : cntK w = true
  · rw [if_pos c] at h ⊢
    have hd : w.all isDg = true := by
      unfold cntK at c
      rw [Bool.or_eq_true, Bool.and_eq_true] at c
      rcases c with c | c
      · rw [eq_of_beq c]; decide
      · exact c.2
    cases hr : atoiAll w with
    | ok v =>
      rw [hr] at h
      dsimp only at h ⊢
      by_cases hv : 63 < v
      · rw [if_pos hv] at h; cases h
      · rw [if_neg hv]
        refine ⟨?_, by dsimp only; omega⟩
        exact digs_pos hd hr
    | _ => rw [hr] at h; cases h
  · rw [if_neg c] at h; cases h
theorem dayW_back {w : List UInt8} (h : (dayW w).2.toNat = 0) : 0 ≤ (dayW w).1 ∧ (dayW w).1 ≤ 73048 := by
  unfold dayW at h ⊢
  by_cases c : (parN w).2 = 18
  · rw [if_pos c] at h; cases h
  · rw [if_neg c] at h ⊢
    unfold parN at h c ⊢
    by_cases hf : formB w = true
    · rw [if_pos hf] at h c ⊢
      by_cases hi : IsDate (yOf w) (mOf w) (dOf w)
      · rw [if_pos hi]
        have := (day_date hi).1
        dsimp only
        omega
      · rw [if_neg hi] at c; exact absurd rfl c
    · rw [if_neg hf] at h; cases h
theorem inv_field (f : Nat) (hf : 6 ≤ f ∧ f < 10) (W : List (List UInt8)) (N : List Nd) (n : Nd) (o : Int) (D : List Nat) (h : (runM ⟨N ++ [n], o, f :: D⟩ W).2.1 = 0) :
    Sp W ⟨N ++ [n], o, f :: D⟩ D (fun m => ∃ x, fitF f x ∧ m.N = N ++ [putF f x n] ∧ m.o = o) := by
  cases W with
  | nil => exact Sp.nil (E := [f]) rfl (by simp)
  | cons w W =>
    obtain ⟨h1, h2⟩ := first_ok h
    have he := take_eq h1
    refine Sp.step he ?_
    match f, hf, h1 with
    | 6, _, h1 =>
      have h1' : (nameM w ⟨N ++ [n], o, D⟩).1 = 0 := h1
      show Sp W (nameM w ⟨N ++ [n], o, D⟩).2 D _
      unfold nameM at h1' ⊢
      cases hk : findK w 8 with
      | none => rw [hk] at h1'; cases h1'
      | some k =>
        have := findK_lt hk
        refine Sp.done rfl ⟨(k : Int), ⟨by omega, by rw [if_pos rfl]; omega⟩, ?_, rfl⟩
        show updL _ (N ++ [n]) = _
        rw [updL_app]; rfl
    | 7, _, h1 =>
      have h1' : (keyM w ⟨N ++ [n], o, D⟩).1 = 0 := h1
      show Sp W (keyM w ⟨N ++ [n], o, D⟩).2 D _
      unfold keyM at h1' ⊢
      by_cases c : (keyW w).1 = 0
      · rw [if_pos c]
        obtain ⟨k1, k2⟩ := keyW_back c
        refine Sp.done rfl ⟨(keyW w).2, ⟨k1, by rw [if_neg (by decide), if_pos rfl]; exact k2⟩, ?_, rfl⟩
        show updL _ (N ++ [n]) = _
        rw [updL_app]; rfl
      · rw [if_neg c] at h1'; exact absurd h1' c
    | 8, _, h1 =>
      have h1' : (dayW w).2.toNat = 0 := h1
      obtain ⟨k1, k2⟩ := dayW_back h1'
      refine Sp.done rfl ⟨(dayW w).1, ⟨k1, by rw [if_neg (by decide), if_neg (by decide)]; exact k2⟩, ?_, rfl⟩
      show updL _ (N ++ [n]) = _
      rw [updL_app]; rfl
    | 9, _, h1 =>
      have h1' : (dayW w).2.toNat = 0 := h1
      obtain ⟨k1, k2⟩ := dayW_back h1'
      refine Sp.done rfl ⟨(dayW w).1, ⟨k1, by rw [if_neg (by decide), if_neg (by decide)]; exact k2⟩, ?_, rfl⟩
      show updL _ (N ++ [n]) = _
      rw [updL_app]; rfl
    | 0, h, _ | 1, h, _ | 2, h, _ | 3, h, _ | 4, h, _ | 5, h, _ | _ + 10, h, _ => exact absurd h (by omega)
theorem findW_back {w : List UInt8} {s : Nat} : ∀ {m k}, findW w s m = some k → k < m ∧ wdN k = w ∧ mkT.getD k 0 = s
  | 0, k, h => by cases h
  | m + 1, k, h => by
    rw [findW] at h
    cases hr : findW w s m with
    | some j =>
      rw [hr] at h
      obtain ⟨h1, h2, h3⟩ := findW_back hr
      cases h
      exact ⟨by omega, h2, h3⟩
    | none =>
      rw [hr] at h
      dsimp only at h
      split at h
      · rename_i hc
        cases h
        exact ⟨by omega, hc⟩
      · cases h
/-- The token with which a term begins. -/
theorem inv_first {s : Nat} (hs : s = 1 ∨ s = 2) {N : List Nd} {o : Int} {D : List Nat} {w : List UInt8} (h1 : w ≠ []) (h : (takeM ⟨N, o, s :: D⟩ w).1 = 0) :
    N.length < 64 ∧ o < 12 ∧ ∃ n k, (takeM ⟨N, o, s :: D⟩ w).2 = ⟨N ++ [n], o, bhN k ++ D⟩ ∧ n.op = (k : Int) ∧ k < 18 ∧ mkT.getD k 0 = s ∧ n.a = 0 ∧ n.b = 0 ∧ fldV k n = true ∧ I64T n.num ∧ I64T n.den := by
  have beg : ∀ (n : Nd) (k : Nat), (begM n k ⟨N, o, D⟩).1 = 0 → N.length < 64 ∧ o < 12 ∧ (begM n k ⟨N, o, D⟩).2 = ⟨N ++ [n], o, bhN k ++ D⟩ := fun n k hb => by
    unfold begM at hb ⊢
    by_cases c : 64 ≤ (⟨N, o, D⟩ : Mc).N.length ∨ 12 ≤ (⟨N, o, D⟩ : Mc).o
    · rw [if_pos c] at hb; cases hb
    · rw [if_neg c]
      dsimp only at c
      exact ⟨by omega, by omega, rfl⟩
  have wrd : (wordM s w ⟨N, o, D⟩).1 = 0 → N.length < 64 ∧ o < 12 ∧ ∃ n k, (wordM s w ⟨N, o, D⟩).2 = ⟨N ++ [n], o, bhN k ++ D⟩ ∧ n.op = (k : Int) ∧ k < 18 ∧ mkT.getD k 0 = s ∧ n.a = 0 ∧ n.b = 0 ∧ fldV k n = true ∧ I64T n.num ∧ I64T n.den := fun hw => by
    unfold wordM at hw ⊢
    cases hk : findW w s 18 with
    | none => rw [hk] at hw; cases hw
    | some k =>
      rw [hk] at hw
      obtain ⟨b1, b2, b3⟩ := beg _ _ hw
      obtain ⟨f1, f2, f3⟩ := findW_back hk
      refine ⟨b1, b2, _, k, b3, rfl, f1, f3, rfl, rfl, ?_, by unfold I64T; dsimp only; omega, by unfold I64T; dsimp only; omega⟩
      unfold fldV
      rw [if_neg (fun e => h1 (by rw [← f2, e]; rfl))]; rfl
  rcases hs with rfl | rfl
  · have h' : (obsM w ⟨N, o, D⟩).1 = 0 := h
    show _ ∧ _ ∧ ∃ n k, (obsM w ⟨N, o, D⟩).2 = _ ∧ _
    unfold obsM at h' ⊢
    cases hr : ratW w with
    | none => rw [hr] at h'; exact wrd h'
    | some p =>
      obtain ⟨x, y⟩ := p
      rw [hr] at h'
      obtain ⟨b1, b2, b3⟩ := beg _ _ h'
      obtain ⟨r1, r2, r3, r4⟩ := ratW_some hr
      exact ⟨b1, b2, _, 1, b3, rfl, by decide, rfl, rfl, rfl, by unfold fldV; rw [if_pos rfl]; exact decide_eq_true r3, r1, r2⟩
  · exact wrd h

end Go.Proofs.YtdmdgoeacafpiaaGreatDoor

namespace Go.Proofs.YtdmdgoeacafpiaaGreatDoor
open Go.Lib
set_option linter.unusedVariables false
set_option linter.unusedSimpArgs false

def neW (W : List (List UInt8)) : Prop := ∀ w ∈ W, w ≠ []
/-- As 'Sp.bind', with tokens that are none nothing. -/
theorem Sp.bindN {W : List (List UInt8)} {m : Mc} {X D : List Nat} {Q R : Mc → Prop} (hn : neW W) (h0 : (runM m W).2.1 = 0) (h : Sp W m (X ++ D) Q)
    (k : ∀ v m', neW v → v.length ≤ W.length → m'.D = X ++ D → Q m' → (runM m' v).2.1 = 0 → Sp v m' D R) : Sp W m D R := by
  rcases h with ⟨E, hE, he⟩ | ⟨u, v, m', h1, h2, h3, h4⟩
  · exact Or.inl ⟨E ++ X, by simp [hE], by rw [he, List.append_assoc]⟩
  · have ha := runM_app u v m (by rw [h2])
    rw [← h1, h2] at ha
    dsimp only at ha
    have hv : (runM m' v).2.1 = 0 := by rw [ha.1] at h0; exact h0
    rcases k v m' (fun w hw => hn w (by rw [h1]; simp [hw])) (by rw [h1]; simp) h3 h4 hv with ⟨E, hE, he⟩ | ⟨u', v', m'', g1, g2, g3, g4⟩
    · exact Or.inl ⟨E, hE, by rw [ha.1]; exact he⟩
    · refine Or.inr ⟨u ++ u', v', m'', by rw [h1, g1, List.append_assoc], ?_, g3, g4⟩
      rw [(runM_app u u' m (by rw [h2])).1, h2]
      dsimp only
      rw [g2, List.length_append]
/-- What a term adds. -/
def QT (N : List Nd) (o : Int) (s : Nat) (m : Mc) : Prop := ∃ T, GT T s ∧ m.N = N ++ T ∧ m.o = o ∧ N.length + T.length ≤ 64 ∧ o + (dpA T 0 : Int) ≤ 12
/-- What terms one behind the other add. -/
def QL (N : List Nd) (o : Int) (ks : List Nat) (m : Mc) : Prop := ∃ L : List (List Nd), L.length = ks.length ∧ (∀ i, i < L.length → GT (L.getD i []) (ks.getD i 0) ∧ o + 1 + (dpA (L.getD i []) 0 : Int) ≤ 12) ∧ m.N = N ++ L.flatten ∧ m.o = o ∧ N.length + L.flatten.length ≤ 64
def InvT (f : Nat) : Prop := ∀ W N o s D, W.length ≤ f → neW W → s = 1 ∨ s = 2 → (runM ⟨N, o, s :: D⟩ W).2.1 = 0 → Sp W ⟨N, o, s :: D⟩ D (QT N o s)
theorem inv_rest {f : Nat} (ih : InvT f) (o : Int) (D : List Nat) : ∀ (ks : List Nat) (W : List (List UInt8)) (N : List Nd), W.length ≤ f → neW W → (∀ s ∈ ks, s = 1 ∨ s = 2) → N.length ≤ 64 → (runM ⟨N, o + 1, bhK ks 4 ++ D⟩ W).2.1 = 0 → Sp W ⟨N, o + 1, bhK ks 4 ++ D⟩ D (QL N o ks)
  | [], [], N, _, _, _, _, _ => Sp.nil (E := [5]) rfl (by simp)
  | [], w :: W, N, hf, hn, hk, hN, h => by
    obtain ⟨h1, h2⟩ := first_ok h
    have he := take_eq h1
    refine Sp.step he (Sp.done rfl ⟨[], rfl, fun i hi => absurd hi (Nat.not_lt_zero _), by simp; rfl, ?_, by simpa using hN⟩)
    show o + 1 - 1 = o
    omega
  | s :: ks, [], N, _, _, _, _, _ => Sp.nil (E := 4 :: s :: bhK ks 4) rfl (by simp)
  | s :: ks, w :: W, N, hf, hn, hk, hN, h => by
    obtain ⟨h1, h2⟩ := first_ok h
    have he := take_eq h1
    refine Sp.step he ?_
    have hn' : neW W := fun x hx => hn x (by simp [hx])
    have e : (takeM ⟨N, o + 1, bhK (s :: ks) 4 ++ D⟩ w).2 = ⟨N, o + 1, s :: (bhK ks 4 ++ D)⟩ := rfl
    rw [e] at h2 ⊢
    have hW : W.length ≤ f := by rw [List.length_cons] at hf; omega
    refine Sp.bindN (X := bhK ks 4) (D := D) hn' h2 (ih W N (o + 1) s (bhK ks 4 ++ D) hW hn' (hk s (by simp)) h2) (fun v m' g1 g2 g3 g4 g5 => ?_)
    obtain ⟨T, t1, t2, t3, t4, t5⟩ := g4
    obtain ⟨N', o', D'⟩ := m'
    dsimp only at t2 t3 g3
    subst t2 t3 g3
    have ir := inv_rest ih o D ks v (N ++ T) (by omega) g1 (fun x hx => hk x (by simp [hx])) (by rw [List.length_append]; exact t4) g5
    rcases ir with ir | ⟨u, v', m', q1, q2, q3, L, l1, l2, l3, l4, l5⟩
    · exact Or.inl ir
    · refine Or.inr ⟨u, v', m', q1, q2, q3, T :: L, by simp [l1], fun i hi => ?_, ?_, l4, ?_⟩
      · cases i with
        | zero => exact ⟨t1, t5⟩
        | succ i => exact l2 i (by simpa using hi)
      · rw [l3, List.append_assoc]; rfl
      · rw [List.flatten_cons, List.length_append]
        rw [List.length_append] at l5
        omega
theorem inv_kids {f : Nat} (ih : InvT f) (o : Int) (D : List Nat) (ks : List Nat) (W : List (List UInt8)) (N : List Nd) (hf : W.length ≤ f) (hn : neW W) (hk : ∀ s ∈ ks, s = 1 ∨ s = 2) (hN : N.length ≤ 64) (h : (runM ⟨N, o, bhK ks 3 ++ D⟩ W).2.1 = 0) : Sp W ⟨N, o, bhK ks 3 ++ D⟩ D (QL N o ks) := by
  cases ks with
  | nil => exact Sp.done rfl ⟨[], rfl, fun i hi => absurd hi (Nat.not_lt_zero _), by simp, rfl, by simpa using hN⟩
  | cons s ks =>
    cases W with
    | nil => exact Sp.nil (E := 3 :: s :: bhK ks 4) rfl (by simp)
    | cons w W =>
      obtain ⟨h1, h2⟩ := first_ok h
      have he := take_eq h1
      refine Sp.step he ?_
      have hn' : neW W := fun x hx => hn x (by simp [hx])
      have e : (takeM ⟨N, o, bhK (s :: ks) 3 ++ D⟩ w).2 = ⟨N, o + 1, s :: (bhK ks 4 ++ D)⟩ := rfl
      rw [e] at h2 ⊢
      have hW : W.length ≤ f := by rw [List.length_cons] at hf; omega
      refine Sp.bindN (X := bhK ks 4) (D := D) hn' h2 (ih W N (o + 1) s (bhK ks 4 ++ D) hW hn' (hk s (by simp)) h2) (fun v m' g1 g2 g3 g4 g5 => ?_)
      obtain ⟨T, t1, t2, t3, t4, t5⟩ := g4
      obtain ⟨N', o', D'⟩ := m'
      dsimp only at t2 t3 g3
      subst t2 t3 g3
      have ir := inv_rest ih o D ks v (N ++ T) (by omega) g1 (fun x hx => hk x (by simp [hx])) (by rw [List.length_append]; exact t4) g5
      rcases ir with ir | ⟨u, v', m', q1, q2, q3, L, l1, l2, l3, l4, l5⟩
      · exact Or.inl ir
      · refine Or.inr ⟨u, v', m', q1, q2, q3, T :: L, by simp [l1], fun i hi => ?_, ?_, l4, ?_⟩
        · cases i with
          | zero => exact ⟨t1, t5⟩
          | succ i => exact l2 i (by simpa using hi)
        · rw [l3, List.append_assoc]; rfl
        · rw [List.flatten_cons, List.length_append]
          rw [List.length_append] at l5
          omega
theorem kd_sorts : ∀ k : Fin 18, ∀ s ∈ kdT.getD k.val [], s = 1 ∨ s = 2 := by decide
/-- The fields behind a word, all of them. -/
theorem inv_fields (k : Nat) (hk : k < 18) (W : List (List UInt8)) (N : List Nd) (n : Nd) (o : Int) (D : List Nat) (hn : neW W) (ho : n.op = (k : Int)) (ha : n.a = 0) (hb : n.b = 0) (hv : fldV k n = true)
    (h : (runM ⟨N ++ [n], o, fdN k ++ D⟩ W).2.1 = 0) :
    Sp W ⟨N ++ [n], o, fdN k ++ D⟩ D (fun m => ∃ n', m.N = N ++ [n'] ∧ m.o = o ∧ n'.op = n.op ∧ n'.num = n.num ∧ n'.den = n.den ∧ fldO n' = true) := by
  have hix : ∀ x : Nd, x.op = (k : Int) → ixO x.op = k := fun x hx => by
    unfold ixO
    rw [hx, if_pos ⟨by omega, by omega⟩]; rfl
  have fin : ∀ x : Nd, x.op = n.op → x.num = n.num → x.den = n.den → (0 ≤ x.a ∧ x.a ≤ (maN k : Int)) → (0 ≤ x.b ∧ x.b ≤ (mbN k : Int)) → fldO x = true := fun x h1 h2 h3 h4 h5 => by
    unfold fldO
    rw [hix x (by rw [h1, ho])]
    have e1 : fldA k x = true := decide_eq_true h4
    have e2 : fldB k x = true := decide_eq_true h5
    have e3 : fldV k x = fldV k n := by unfold fldV; rw [h2, h3]
    rw [e1, e2, e3, hv]; rfl
  obtain ⟨f1, f2, f3⟩ := fd_none ⟨k, hk⟩
  have hA : (fdN k = [] → maN k = 0) ∧ (fdN k = [7] ∨ fdN k = [7, 9] → maN k = 63) ∧ (fdN k = [6] → maN k = 7) ∧ (fdN k = [8] → maN k = 73048) ∧ (fdN k = [7, 9] → mbN k = 73048) := by
    have : ∀ k : Fin 18, (fdN k.val = [] → maN k.val = 0) ∧ (fdN k.val = [7] ∨ fdN k.val = [7, 9] → maN k.val = 63) ∧ (fdN k.val = [6] → maN k.val = 7) ∧ (fdN k.val = [8] → maN k.val = 73048) ∧ (fdN k.val = [7, 9] → mbN k.val = 73048) := by decide
    exact this ⟨k, hk⟩
  dsimp only at f1 f2 f3
  obtain ⟨a1, a2, a3, a4, a5⟩ := hA
  rcases f3 with e | e | e | e | e
  · rw [e] at h ⊢
    exact Sp.done rfl ⟨n, rfl, rfl, rfl, rfl, rfl, fin n rfl rfl rfl ⟨by omega, by omega⟩ ⟨by omega, by omega⟩⟩
  all_goals rw [e] at h ⊢
  · refine Sp.bindN (X := []) (D := D) hn h (inv_field 7 (by decide) W N n o D h) (fun v m' g1 g2 g3 g4 g5 => ?_)
    obtain ⟨x, x1, x2, x3⟩ := g4
    have m1 := a2 (.inl e)
    have x4 : 0 ≤ x ∧ x ≤ 63 := x1
    exact Sp.done g3 ⟨_, x2, x3, rfl, rfl, rfl, fin _ rfl rfl rfl ⟨x4.1, by rw [m1]; exact x4.2⟩ ⟨by show (0 : Int) ≤ n.b; omega, by show n.b ≤ _; omega⟩⟩
  · refine Sp.bindN (X := []) (D := D) hn h (inv_field 6 (by decide) W N n o D h) (fun v m' g1 g2 g3 g4 g5 => ?_)
    obtain ⟨x, x1, x2, x3⟩ := g4
    have m1 := a3 e
    have x4 : 0 ≤ x ∧ x ≤ 7 := x1
    exact Sp.done g3 ⟨_, x2, x3, rfl, rfl, rfl, fin _ rfl rfl rfl ⟨x4.1, by rw [m1]; exact x4.2⟩ ⟨by show (0 : Int) ≤ n.b; omega, by show n.b ≤ _; omega⟩⟩
  · refine Sp.bindN (X := []) (D := D) hn h (inv_field 8 (by decide) W N n o D h) (fun v m' g1 g2 g3 g4 g5 => ?_)
    obtain ⟨x, x1, x2, x3⟩ := g4
    have m1 := a4 e
    have x4 : 0 ≤ x ∧ x ≤ 73048 := x1
    exact Sp.done g3 ⟨_, x2, x3, rfl, rfl, rfl, fin _ rfl rfl rfl ⟨x4.1, by rw [m1]; exact x4.2⟩ ⟨by show (0 : Int) ≤ n.b; omega, by show n.b ≤ _; omega⟩⟩
  · refine Sp.bindN (X := [9]) (D := D) hn h (inv_field 7 (by decide) W N n o (9 :: D) h) (fun v m' g1 g2 g3 g4 g5 => ?_)
    obtain ⟨x, x1, x2, x3⟩ := g4
    obtain ⟨N', o', D'⟩ := m'
    dsimp only at x2 x3 g3
    subst x2 x3 g3
    refine Sp.bindN (X := []) (D := D) g1 g5 (inv_field 9 (by decide) v N (putF 7 x n) o' D g5) (fun v' m'' q1 q2 q3 q4 q5 => ?_)
    obtain ⟨y, y1, y2, y3⟩ := q4
    have m1 := a2 (.inr e)
    have m2 := a5 e
    have x4 : 0 ≤ x ∧ x ≤ 63 := x1
    have y4 : 0 ≤ y ∧ y ≤ 73048 := y1
    exact Sp.done q3 ⟨_, y2, y3, rfl, rfl, rfl, fin _ rfl rfl rfl ⟨x4.1, by rw [m1]; exact x4.2⟩ ⟨y4.1, by rw [m2]; exact y4.2⟩⟩

end Go.Proofs.YtdmdgoeacafpiaaGreatDoor

namespace Go.Proofs.YtdmdgoeacafpiaaGreatDoor
open Go.Lib
set_option linter.unusedVariables false
set_option linter.unusedSimpArgs false

theorem inv_term : ∀ f, InvT f
  | 0, [], N, o, s, D, _, _, _, _ => Sp.nil (E := [s]) rfl (by simp)
  | 0, w :: W, N, o, s, D, hf, _, _, _ => absurd hf (by simp)
  | f + 1, [], N, o, s, D, _, _, _, _ => Sp.nil (E := [s]) rfl (by simp)
  | f + 1, w :: W, N, o, s, D, hf, hn, hs, h => by
    obtain ⟨h1, h2⟩ := first_ok h
    have he := take_eq h1
    refine Sp.step he ?_
    have hn' : neW W := fun x hx => hn x (by simp [hx])
    have hW : W.length ≤ f := by rw [List.length_cons] at hf; omega
    obtain ⟨hN, ho, n, k, e, n1, n2, n3, n4, n5, n6, n7, n8⟩ := inv_first hs (hn w (by simp)) h1
    rw [e] at h2 ⊢
    have eb : bhN k ++ D = fdN k ++ (bhK (kdT.getD k []) 3 ++ D) := by unfold bhN; rw [List.append_assoc]
    rw [eb] at h2 ⊢
    refine Sp.bindN (X := bhK (kdT.getD k []) 3) (D := D) hn' h2 (inv_fields k n2 W N n o _ hn' n1 n4 n5 n6 h2) (fun v m' g1 g2 g3 g4 g5 => ?_)
    obtain ⟨n', t1, t2, t3, t4, t5, t6⟩ := g4
    obtain ⟨N', o', D'⟩ := m'
    dsimp only at t1 t2 g3
    subst t1 t2 g3
    have ik := inv_kids (inv_term f) o' D (kdT.getD k []) v (N ++ [n']) (by omega) g1 (kd_sorts ⟨k, n2⟩) (by simp; omega) g5
    rcases ik with ik | ⟨u, v', m', q1, q2, q3, L, l1, l2, l3, l4, l5⟩
    · exact Or.inl ik
    · have hop : n'.op = (k : Int) := by rw [t3, n1]
      have hix : ixO n'.op = k := by
        unfold ixO
        rw [hop, if_pos ⟨by omega, by omega⟩]; rfl
      have hm : mkO n'.op = s := by unfold mkO; rw [hix]; exact n3
      obtain ⟨j1, j2⟩ := GT_join (n := n') (L := L) (by rw [hm]; omega) (by unfold cnO kdO; rw [hix]; exact l1) t6 (by rw [t4, t5]; exact ⟨n7, n8⟩) (fun i hi => by rw [hix]; exact (l2 i hi).1)
      rw [hm] at j1
      refine Or.inr ⟨u, v', m', q1, q2, q3, n' :: L.flatten, j1, by rw [l3, List.append_assoc]; rfl, l4, ?_, ?_⟩
      · rw [List.length_append] at l5
        simp only [List.length_cons, List.length_nil] at l5 ⊢
        omega
      · rw [j2]
        have hle : mxN (fun i => dpA (L.getD i []) 0) L.length ≤ (11 - o').toNat := mxN_le _ (fun i hi => by
          have := (l2 i hi).2
          omega)
        omega
/-- What is taken to its end is a contract. -/
theorem run_chk_back {W : List (List UInt8)} (hn : neW W) (h : (runM m0 W).2.1 = 0) (hD : (runM m0 W).2.2.D = []) : chkK (runM m0 W).2.2.N = 0 ∧ BdT (runM m0 W).2.2.N := by
  rcases inv_term W.length W [] 0 2 [] (Nat.le_refl _) hn (.inr rfl) h with ⟨E, hE, he⟩ | ⟨u, v, m', h1, h2, h3, T, t1, t2, t3, t4, t5⟩
  · have he' : (runM m0 W).2.2.D = E ++ [] := he
    rw [hD, List.append_nil] at he'
    exact absurd he'.symm hE
  · have hu : runM m0 u = (u.length, 0, m') := h2
    have ha := (runM_app u v m0 (by rw [hu])).1
    rw [← h1, hu] at ha
    dsimp only at ha
    have hv : v = [] := by
      cases v with
      | nil => rfl
      | cons x v =>
        obtain ⟨N', o', D'⟩ := m'
        dsimp only at h3
        subst h3
        have : (takeM ⟨N', o', []⟩ x).1 = 13 := rfl
        rw [ha, runM_no (by rw [this]; decide)] at h
        rw [this] at h
        cases h
    subst hv
    have e : (runM m0 W).2.2 = m' := by rw [ha]; rfl
    rw [e, t2, List.nil_append]
    have hk := ofK_yes (by simpa using t4) t1.whole t1.fld t1.srt (by omega)
    refine ⟨?_, t1.bd⟩
    unfold chkK
    rw [hk, show mkO (opA T 0) = 2 from t1.sort]
    rfl
theorem toks_ne (l : List UInt8) : neW ((toks 0 l).map Prod.snd) := fun w hw => by
  obtain ⟨x, h1, rfl⟩ := List.mem_map.1 hw
  exact (tok_ne l 0 x h1).1
/-- P6.3: what is parsed is a contract. -/
theorem par_chk {l : List UInt8} {t : List Nd} {a : Nat} (h : parT l = (t, a, 0)) : chkK t = 0 ∧ BdT t ∧ a = 0 := by
  unfold parT at h
  dsimp only at h
  split at h
  · rename_i c
    exact absurd (Prod.mk.inj (Prod.mk.inj h).2).2 c
  · rename_i c
    split at h
    · have := (Prod.mk.inj (Prod.mk.inj h).2).2
      cases this
    · rename_i d
      have := run_chk_back (toks_ne l) (by simpa using c) (by simpa using d)
      rw [(Prod.mk.inj h).1] at this
      exact ⟨this.1, this.2, (Prod.mk.inj (Prod.mk.inj h).2).1.symm⟩
/-- A token's error. -/
def erOk (e : Nat) : Prop := e = 0 ∨ e = 13 ∨ e = 10 ∨ e = 15
theorem dayW_er (w : List UInt8) : erOk (dayW w).2.toNat := by
  unfold erOk
  rcases dayW_err w with h | h | h <;> rw [h]
  · exact .inl rfl
  · exact .inr (.inr (.inl rfl))
  · exact .inr (.inl rfl)
theorem keyW_err (w : List UInt8) : erOk (keyW w).1 := by
  unfold erOk keyW
  split
  · split
    · split
      · exact .inr (.inr (.inl rfl))
      · exact .inl rfl
    · exact .inr (.inr (.inl rfl))
  · exact .inr (.inl rfl)
theorem beg_err (n : Nd) (k : Nat) (m : Mc) : erOk (begM n k m).1 := by
  unfold erOk begM
  split
  · exact .inr (.inr (.inr rfl))
  · exact .inl rfl
theorem word_err (s : Nat) (w : List UInt8) (m : Mc) : erOk (wordM s w m).1 := by
  unfold wordM
  split
  · exact beg_err _ _ _
  · exact .inr (.inl rfl)
theorem only_err (c : UInt8) (w : List UInt8) : erOk (onlyM c w) := by
  unfold erOk onlyM
  split
  · exact .inl rfl
  · exact .inr (.inl rfl)
theorem take_err (m : Mc) (w : List UInt8) : erOk (takeM m w).1 := by
  unfold takeM
  split
  · exact .inr (.inl rfl)
  · unfold partM
    split
    · unfold obsM
      split
      · exact beg_err _ _ _
      · exact word_err _ _ _
    · exact word_err _ _ _
    · exact only_err _ _
    · exact only_err _ _
    · exact only_err _ _
    · unfold nameM
      split
      · exact .inl rfl
      · exact .inr (.inl rfl)
    · unfold keyM
      split
      · exact .inl rfl
      · exact keyW_err _
    · exact dayW_er _
    · exact dayW_er _
    · exact .inr (.inl rfl)
theorem run_err : ∀ (W : List (List UInt8)) (m : Mc), erOk (runM m W).2.1
  | [], m => .inl rfl
  | w :: W, m => by
    by_cases c : (takeM m w).1 = 0
    · rw [runM_ok c]; exact run_err W _
    · rw [runM_no c]; exact take_err m w
/-- Where a text is wrong, and how. -/
theorem par_bad {l : List UInt8} (h : (parT l).2.2 ≠ 0) : (parT l).1 = [] ∧ (parT l).2.1 ≤ l.length ∧ ((parT l).2.2 = 13 ∨ (parT l).2.2 = 10 ∨ (parT l).2.2 = 15) := by
  have he := run_err ((toks 0 l).map Prod.snd) m0
  unfold parT at h ⊢
  dsimp only at h ⊢
  by_cases c : (runM m0 ((toks 0 l).map Prod.snd)).2.1 ≠ 0
  · rw [if_pos c] at h ⊢
    refine ⟨rfl, ?_, ?_⟩
    · have hl := (runM_fail _ [] m0 c).2
      rw [List.length_map] at hl
      have hm : (toks 0 l).getD (runM m0 ((toks 0 l).map Prod.snd)).1 default ∈ toks 0 l := by
        rw [List.getD_eq_getElem?_getD, List.getElem?_eq_getElem hl]; exact List.getElem_mem hl
      have := (tok_ne l 0 _ hm).2.2.2
      dsimp only
      omega
    · rcases he with he | he
      · exact absurd he c
      · exact he
  · rw [if_neg c] at h ⊢
    by_cases d : (runM m0 ((toks 0 l).map Prod.snd)).2.2.D ≠ []
    · rw [if_pos d]
      exact ⟨rfl, Nat.le_refl _, .inl rfl⟩
    · rw [if_neg d] at h
      exact absurd rfl h

end Go.Proofs.YtdmdgoeacafpiaaGreatDoor
