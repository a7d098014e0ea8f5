/-
  Gaps do not count: what a text is parsed as hangs on its tokens alone. No program.
-/
import Derived.Test.YtdmdgoeacafpiaaGreatDoorPt
import Derived.Test.YtdmdgoeacafpiaaGreatDoorPsS
import Derived.Deep.Cut
namespace Go.Proofs.YtdmdgoeacafpiaaGreatDoor
open Go.Lib
set_option linter.unusedVariables false
set_option linter.unusedSimpArgs false

/-- The contract, and the error, hang on the tokens alone. -/
theorem par_tx {l l' : List UInt8} (h : tx l = tx l') : (parT l).1 = (parT l').1 ∧ (parT l).2.2 = (parT l').2.2 := by
  unfold parT
  dsimp only
  rw [show (toks 0 l).map Prod.snd = tx l from rfl, show (toks 0 l').map Prod.snd = tx l' from rfl, ← h]
  by_cases c : (runM m0 (tx l)).2.1 ≠ 0
  · rw [if_pos c, if_pos c]; exact ⟨rfl, rfl⟩
  · rw [if_neg c, if_neg c]
    by_cases d : (runM m0 (tx l)).2.2.D ≠ []
    · rw [if_pos d, if_pos d]; exact ⟨rfl, rfl⟩
    · rw [if_neg d, if_neg d]; exact ⟨rfl, rfl⟩
/-- A token: a mark, or a word. -/
def tokB (w : List UInt8) : Prop := (∃ c, w = [c] ∧ gapB c = false ∧ mkB c = true) ∨ (w ≠ [] ∧ ∀ c ∈ w, wdB c = true)
theorem glue_tok {a : Nat} {c : UInt8} {r : List UInt8} (h : wdB c = true) : ∀ (x : List Tk), (∀ t ∈ x, tokB t.2) → (startsW r = true → ∃ t y, x = t :: y ∧ ∀ d ∈ t.2, wdB d = true) → ∀ t ∈ glueT a c (startsW r) x, tokB t.2
  | [], _, _, t, ht => by
    rw [glueT, List.mem_singleton] at ht
    subst ht
    exact .inr ⟨by simp, fun d hd => by rw [List.mem_singleton] at hd; subst hd; exact h⟩
  | (p, w) :: x, hx, hs, t, ht => by
    rw [glueT] at ht
    split at ht
    · rename_i hg
      obtain ⟨t', y, e, hw⟩ := hs hg
      injection e with e1 e2
      subst e1 e2
      rcases List.mem_cons.1 ht with rfl | ht
      · refine .inr ⟨by simp, fun d hd => ?_⟩
        rcases List.mem_cons.1 hd with rfl | hd
        · exact h
        · exact hw d hd
      · exact hx t (by simp [ht])
    · rcases List.mem_cons.1 ht with rfl | ht
      · exact .inr ⟨by simp, fun d hd => by rw [List.mem_singleton] at hd; subst hd; exact h⟩
      · exact hx t ht
theorem takeW_all : ∀ (l : List UInt8), ∀ d ∈ l.takeWhile wdB, wdB d = true
  | [], d, h => by cases h
  | c :: r, d, h => by
    rw [List.takeWhile_cons] at h
    split at h
    · rename_i hc
      rcases List.mem_cons.1 h with rfl | h
      · exact hc
      · exact takeW_all r d h
    · cases h
theorem toks_first {a : Nat} : ∀ {r : List UInt8}, startsW r = true → ∃ t y, toks a r = t :: y ∧ ∀ d ∈ t.2, wdB d = true
  | [], h => by cases h
  | c :: r, h => by
    have h' : wdB c = true := h
    rw [toks_word r a c h']
    refine ⟨_, _, rfl, fun d hd => ?_⟩
    exact takeW_all _ d hd
theorem toks_tok : ∀ (l : List UInt8) (a : Nat), ∀ t ∈ toks a l, tokB t.2
  | [], a, t, h => by cases h
  | c :: r, a, t, h => by
    have ih := toks_tok r (a + 1)
    by_cases hg : gapB c = true
    · rw [toks_gap hg] at h; exact ih t h
    · have h' : gapB c = false := by simpa using hg
      by_cases h2 : mkB c = true
      · rw [toks_mark h' h2] at h
        rcases List.mem_cons.1 h with rfl | h
        · exact .inl ⟨c, rfl, h', h2⟩
        · exact ih t h
      · rw [toks, if_neg hg, if_neg h2] at h
        exact glue_tok (wdB_iff.2 ⟨h', by simpa using h2⟩) _ ih (fun hs => toks_first hs) t h
/-- A token ahead of what does not go on with it. -/
theorem tx_tok {w r : List UInt8} (h : tokB w) (hr : (∃ c, w = [c] ∧ mkB c = true) ∨ startsW r = false) : tx (w ++ r) = w :: tx r := by
  rcases h with ⟨c, rfl, h1, h2⟩ | ⟨h1, h2⟩
  · exact tx_mark h1 h2
  · rcases hr with ⟨c, rfl, hc⟩ | hr
    · have := h2 c (by simp)
      have := (wdB_iff.1 this).2
      rw [hc] at this; cases this
    · exact tx_word h1 h2 hr

def isMk (w : List UInt8) : Prop := ∃ c, w = [c] ∧ gapB c = false ∧ mkB c = true
/-- Tokens, each with the gap behind it: where there is none, a mark stands at one side. -/
def okP : List (List UInt8 × List UInt8) → Prop
  | [] => True
  | p :: r => tokB p.1 ∧ (∀ c ∈ p.2, gapB c = true) ∧ (p.2 ≠ [] ∨ isMk p.1 ∨ ∃ q y, r = q :: y ∧ isMk q.1) ∧ okP r
def putP (P : List (List UInt8 × List UInt8)) : List UInt8 := P.flatMap fun p => p.1 ++ p.2
theorem tx_gaps : ∀ (g r : List UInt8), (∀ c ∈ g, gapB c = true) → tx (g ++ r) = tx r
  | [], r, _ => rfl
  | c :: g, r, h => by
    rw [List.cons_append, tx_gap (h c (by simp))]
    exact tx_gaps g r (fun d hd => h d (by simp [hd]))
theorem tx_put : ∀ P, okP P → tx (putP P) = P.map Prod.fst
  | [], _ => rfl
  | p :: P, h => by
    obtain ⟨h1, h2, h3, h4⟩ := h
    have ih := tx_put P h4
    have e : putP (p :: P) = p.1 ++ (p.2 ++ putP P) := by unfold putP; rw [List.flatMap_cons, List.append_assoc]
    rw [e, tx_tok h1 ?_, tx_gaps _ _ h2, ih]
    · rfl
    · rcases h3 with h3 | h3 | h3
      · right
        cases hg : p.2 with
        | nil => exact absurd hg h3
        | cons c g =>
          have hc := h2 c (by rw [hg]; simp)
          show wdB c = false
          unfold wdB
          rw [hc]; rfl
      · obtain ⟨c, hc, _, hm⟩ := h3
        exact .inl ⟨c, hc, hm⟩
      · right
        cases hg : p.2 with
        | nil =>
          obtain ⟨q, y, rfl, c, hc, _, hm⟩ := h3
          unfold putP
          rw [List.nil_append, List.flatMap_cons, hc]
          show wdB c = false
          unfold wdB
          rw [hm]; simp
        | cons c g =>
          have hc := h2 c (by rw [hg]; simp)
          show wdB c = false
          unfold wdB
          rw [hc]; rfl

end Go.Proofs.YtdmdgoeacafpiaaGreatDoor

namespace Go.Proofs.YtdmdgoeacafpiaaGreatDoor
open Go.Lib
set_option linter.unusedVariables false
set_option linter.unusedSimpArgs false

def updT (f : Tk → Tk) : List Tk → List Tk
  | [] => []
  | [n] => [f n]
  | n :: m :: r => n :: updT f (m :: r)
theorem updT_app (f : Tk → Tk) : ∀ (l : List Tk) (n : Tk), updT f (l ++ [n]) = l ++ [f n]
  | [], n => rfl
  | [a], n => rfl
  | a :: b :: r, n => by
    have := updT_app f (b :: r) n
    show a :: updT f ((b :: r) ++ [n]) = _
    rw [this]; rfl
def growT (c : UInt8) (t : Tk) : Tk := (t.1, t.2 ++ [c])
/-- A text ends in a word. -/
def endsW : List UInt8 → Bool
  | [] => false
  | [c] => wdB c
  | _ :: d :: r => endsW (d :: r)
theorem endsW_snoc : ∀ (l : List UInt8) (c : UInt8), endsW (l ++ [c]) = wdB c
  | [], c => rfl
  | [a], c => rfl
  | a :: b :: r, c => by
    show endsW (b :: r ++ [c]) = _
    exact endsW_snoc (b :: r) c
/-- One byte more, at a place, behind an open word or not. -/
def addT (b : Nat) (c : UInt8) (op : Bool) (T : List Tk) : List Tk :=
  if gapB c then T else if mkB c then T ++ [(b, [c])] else if op then updT (growT c) T else T ++ [(b, [c])]
theorem glue_app (a : Nat) (c : UInt8) (g : Bool) {T : List Tk} (h : T ≠ [] ∨ g = false) (t : Tk) : glueT a c g (T ++ [t]) = glueT a c g T ++ [t] := by
  cases T with
  | nil =>
    have hg : g = false := by rcases h with h | h; exact absurd rfl h; exact h
    subst hg
    obtain ⟨x, w⟩ := t
    rfl
  | cons p T =>
    obtain ⟨x, w⟩ := p
    cases g <;> rfl
theorem glue_upd (a : Nat) (c d : UInt8) (g : Bool) {T : List Tk} (h : T ≠ []) : glueT a c g (updT (growT d) T) = updT (growT d) (glueT a c g T) := by
  cases T with
  | nil => exact absurd rfl h
  | cons p T =>
    obtain ⟨x, w⟩ := p
    cases T with
    | nil => cases g <;> rfl
    | cons q T => cases g <;> rfl
theorem ends_ne : ∀ (l : List UInt8) (a : Nat), endsW l = true → toks a l ≠ []
  | [], a, h => by cases h
  | [c], a, h => by
    have h' : wdB c = true := h
    rw [toks_word [] a c h']; simp
  | c :: d :: r, a, h => by
    have ih := ends_ne (d :: r) (a + 1) h
    by_cases hg : gapB c = true
    · rw [toks_gap hg]; exact ih
    · have h' : gapB c = false := by simpa using hg
      by_cases h2 : mkB c = true
      · rw [toks_mark h' h2]; simp
      · rw [toks_word (d :: r) a c (wdB_iff.2 ⟨h', by simpa using h2⟩)]; simp
theorem starts_ne {r : List UInt8} {a : Nat} (h : startsW r = true) : toks a r ≠ [] := by
  obtain ⟨t, y, e, _⟩ := toks_first (a := a) h
  rw [e]; simp
theorem toks_glue {a : Nat} {c : UInt8} {r : List UInt8} (h1 : gapB c = false) (h2 : ¬ mkB c = true) : toks a (c :: r) = glueT a c (startsW r) (toks (a + 1) r) := by rw [toks, if_neg (by simp [h1]), if_neg h2]
theorem toks_snoc : ∀ (l : List UInt8) (a : Nat) (c : UInt8), toks a (l ++ [c]) = addT (a + l.length) c (endsW l) (toks a l)
  | [], a, c => by
    rw [List.nil_append]
    unfold addT
    by_cases hg : gapB c = true
    · rw [toks_gap hg, if_pos hg]; rfl
    · have h' : gapB c = false := by simpa using hg
      rw [if_neg hg]
      by_cases h2 : mkB c = true
      · rw [toks_mark h' h2, if_pos h2]; rfl
      · rw [if_neg h2, toks_glue h' h2]; rfl
  | [x], a, c => by
    have base := toks_snoc [] (a + 1) c
    rw [List.nil_append, List.length_nil, Nat.add_zero] at base
    show toks a (x :: [c]) = addT (a + 1) c (wdB x) (toks a [x])
    by_cases hg : gapB x = true
    · have hw : wdB x = false := by unfold wdB; rw [hg]; rfl
      rw [toks_gap hg, toks_gap hg, base, hw]; rfl
    · have h' : gapB x = false := by simpa using hg
      by_cases h2 : mkB x = true
      · have hw : wdB x = false := by unfold wdB; rw [h2]; simp
        rw [toks_mark h' h2, toks_mark h' h2, base, hw]
        unfold addT
        cases gapB c <;> cases mkB c <;> rfl
      · have hw : wdB x = true := wdB_iff.2 ⟨h', by simpa using h2⟩
        rw [toks_glue h' h2, toks_glue h' h2, hw, base]
        show glueT a x (wdB c) _ = addT (a + 1) c true [(a, [x])]
        unfold addT wdB
        cases gapB c <;> cases mkB c <;> rfl
  | x :: d :: r, a, c => by
    have ih := toks_snoc (d :: r) (a + 1) c
    have e1 : a + (x :: d :: r).length = a + 1 + (d :: r).length := by simp; omega
    rw [e1]
    show toks a (x :: (d :: r ++ [c])) = addT _ c (endsW (d :: r)) _
    by_cases hg : gapB x = true
    · rw [toks_gap hg, toks_gap hg, ih]
    · have h' : gapB x = false := by simpa using hg
      by_cases h2 : mkB x = true
      · rw [toks_mark h' h2, toks_mark h' h2, ih]
        have hne := ends_ne (d :: r) (a + 1)
        generalize toks (a + 1) (d :: r) = T at *
        unfold addT
        cases gapB c
        · cases mkB c
          · cases he : endsW (d :: r)
            · rfl
            · have := hne he
              cases T with
              | nil => exact absurd rfl this
              | cons p T => rfl
          · rfl
        · rfl
      · rw [toks_glue h' h2, toks_glue h' h2, ih]
        show glueT a x (wdB d) _ = addT _ c _ (glueT a x (wdB d) _)
        have hne := ends_ne (d :: r) (a + 1)
        have hsn : toks (a + 1) (d :: r) ≠ [] ∨ wdB d = false := by
          by_cases hd : wdB d = true
          · exact .inl (starts_ne hd)
          · exact .inr (by simpa using hd)
        generalize toks (a + 1) (d :: r) = T at *
        unfold addT
        cases gapB c
        · cases mkB c
          · cases he : endsW (d :: r)
            · exact glue_app a x _ hsn _
            · exact glue_upd a x c _ (hne he)
          · exact glue_app a x _ hsn _
        · rfl

end Go.Proofs.YtdmdgoeacafpiaaGreatDoor

namespace Go.Proofs.YtdmdgoeacafpiaaGreatDoor
open Go.Lib
set_option linter.unusedVariables false
set_option linter.unusedSimpArgs false

def isM (w : List UInt8) : Bool := w == [40] || w == [41] || w == [44]
theorem isM_mk {w : List UInt8} (h : isM w = true) : isMk w := by
  unfold isM at h
  simp only [Bool.or_eq_true, beq_iff_eq] at h
  rcases h with (h | h) | h
  · exact ⟨40, h, by decide, by decide⟩
  · exact ⟨41, h, by decide, by decide⟩
  · exact ⟨44, h, by decide, by decide⟩
def kG (l : List Int) (i : Nat) : Int := l.getD i 0
def tkG (T : List Tk) (i : Nat) : List UInt8 := (T.getD i default).2
def mkG (T : List Tk) (i : Nat) : Bool := isM (tkG T i) || (decide (i + 1 < T.length) && isM (tkG T (i + 1)))
def gapG (l : List Int) (T : List Tk) (i : Nat) : List UInt8 :=
  (if (kG l i).tmod 3 ≠ 0 ∨ mkG T i = false then [32] else []) ++ (if (kG l i).tmod 3 = 1 then [10, 32] else [])
def pairG (l : List Int) (T : List Tk) (i : Nat) : List UInt8 × List UInt8 := (tkG T i, gapG l T i)
def uG (l : List Int) (T : List Tk) (n : Nat) : List UInt8 := putP ((List.range n).map (pairG l T))
theorem uG_zero (l : List Int) (T : List Tk) : uG l T 0 = [] := rfl
theorem uG_succ (l : List Int) (T : List Tk) (n : Nat) : uG l T (n + 1) = uG l T n ++ tkG T n ++ gapG l T n := by
  unfold uG putP
  rw [List.range_succ, List.map_append, List.flatMap_append]
  simp [pairG]
theorem gapG_len (l : List Int) (T : List Tk) (n : Nat) : (gapG l T n).length ≤ 3 := by
  unfold gapG
  rw [List.length_append]
  split <;> split <;> simp
theorem uG_len (l : List Int) (T : List Tk) : ∀ n, (uG l T n).length ≤ ((List.range n).map fun i => (tkG T i).length).sum + 3 * n
  | 0 => Nat.le_refl _
  | n + 1 => by
    have ih := uG_len l T n
    have hg := gapG_len l T n
    rw [uG_succ, List.range_succ, List.map_append, List.sum_append, List.length_append, List.length_append]
    simp only [List.map_cons, List.map_nil, List.sum_cons, List.sum_nil]
    omega
theorem gapG_gap (l : List Int) (T : List Tk) (n : Nat) : ∀ c ∈ gapG l T n, gapB c = true := by
  intro c hc
  unfold gapG at hc
  have : c = 32 ∨ c = 10 := by
    rcases List.mem_append.1 hc with h | h
    · split at h
      · simp at h; exact .inl h
      · cases h
    · split at h
      · simp at h; exact h.symm
      · cases h
  rcases this with rfl | rfl <;> decide
theorem okP_uG (l : List Int) (T : List Tk) (hT : ∀ t ∈ T, tokB t.2) : ∀ n i, i + n = T.length → okP ((List.range' i n).map (pairG l T))
  | 0, i, _ => trivial
  | n + 1, i, h => by
    have ih := okP_uG l T hT n (i + 1) (by omega)
    rw [List.range'_succ, List.map_cons]
    refine ⟨?_, gapG_gap l T i, ?_, ih⟩
    · apply hT
      rw [List.getD_eq_getElem?_getD, List.getElem?_eq_getElem (by omega)]
      exact List.getElem_mem _
    · show gapG l T i ≠ [] ∨ _
      by_cases hg : gapG l T i = []
      · right
        have hm : mkG T i = true := by
          unfold gapG at hg
          cases hm : mkG T i with
          | true => rfl
          | false => rw [hm, if_pos (.inr rfl)] at hg; cases (List.append_eq_nil_iff.1 hg).1
        unfold mkG at hm
        rw [Bool.or_eq_true, Bool.and_eq_true, decide_eq_true_eq] at hm
        rcases hm with hm | ⟨h1, h2⟩
        · exact .inl (isM_mk hm)
        · right
          obtain ⟨n', rfl⟩ : ∃ n', n = n' + 1 := ⟨n - 1, by omega⟩
          rw [List.range'_succ, List.map_cons]
          exact ⟨_, _, rfl, isM_mk h2⟩
      · exact .inl hg
theorem map_tk (T : List Tk) : (List.range T.length).map (tkG T) = T.map Prod.snd := by
  apply List.ext_getElem (by simp)
  intro i h1 h2
  simp only [List.length_map, List.length_range] at h1
  rw [List.getElem_map, List.getElem_map, List.getElem_range]
  unfold tkG
  rw [List.getD_eq_getElem?_getD, List.getElem?_eq_getElem h1]; rfl
/-- The text of all tokens, with gaps, has these tokens. -/
theorem tx_uG (l : List Int) (s : List UInt8) : tx (uG l (toks 0 s) (toks 0 s).length) = tx s := by
  have h := okP_uG l (toks 0 s) (toks_tok s 0) (toks 0 s).length 0 (by omega)
  rw [← List.range_eq_range'] at h
  unfold uG
  rw [tx_put _ h, List.map_map, show Prod.fst ∘ pairG l (toks 0 s) = tkG (toks 0 s) from rfl, map_tk]
  rfl
/-- The tokens together are no longer than the text. -/
theorem toks_sum : ∀ (l : List UInt8) (a : Nat), ((toks a l).map fun t => t.2.length).sum ≤ l.length
  | [], a => Nat.le_refl _
  | c :: r, a => by
    have ih := toks_sum r (a + 1)
    by_cases hg : gapB c = true
    · rw [toks_gap hg, List.length_cons]; omega
    · have h' : gapB c = false := by simpa using hg
      by_cases h2 : mkB c = true
      · rw [toks_mark h' h2]; simp; omega
      · rw [toks_glue h' h2]
        generalize startsW r = g
        generalize toks (a + 1) r = x at ih ⊢
        cases x with
        | nil => simp [glueT]
        | cons p x =>
          obtain ⟨p1, p2⟩ := p
          simp only [List.map_cons, List.sum_cons] at ih
          cases g <;> simp [glueT] <;> omega
theorem uG_bd (l : List Int) (s : List UInt8) : ∀ n, n ≤ (toks 0 s).length → (uG l (toks 0 s) n).length ≤ s.length * 4 := by
  intro n hn
  have h1 := uG_len l (toks 0 s) n
  have h2 := toks_sum s 0
  have h3 := toks_len s 0
  have h4 : ((List.range n).map fun i => (tkG (toks 0 s) i).length).sum ≤ ((toks 0 s).map fun t => t.2.length).sum := by
    have e := map_tk (toks 0 s)
    have e2 : (toks 0 s).map (fun t => t.2.length) = ((List.range (toks 0 s).length).map (tkG (toks 0 s))).map List.length := by rw [e, List.map_map]; rfl
    rw [e2, List.map_map]
    obtain ⟨k, hk⟩ : ∃ k, (toks 0 s).length = n + k := ⟨_, (Nat.add_sub_cancel' hn).symm⟩
    have e3 : List.range (toks 0 s).length = List.range n ++ (List.range k).map (n + ·) := by rw [hk, List.range_add]
    rw [e3, List.map_append, List.sum_append]
    exact Nat.le_add_right _ _
  omega

/-- Behind one of its tokens, and a gap, other bytes: the tokens up to that one, then those of the other bytes. -/
theorem toks_cut (M : List UInt8) : ∀ (n : Nat) (l : List UInt8), l.length ≤ n → ∀ (a k : Nat) (t : Tk), (toks a l)[k]? = some t → toks a (l.take (t.1 + t.2.length - a) ++ 32 :: M) = (toks a l).take (k + 1) ++ toks (t.1 + t.2.length + 1) M
  | _, [], _, a, k, t, h => by cases h
  | 0, c :: r, hl, _, _, _, _ => by simp at hl
  | n + 1, c :: r, hl, a, k, t, h => by
    have hl' : r.length ≤ n := by simpa using hl
    have hmem : t ∈ toks a (c :: r) := List.mem_of_getElem? h
    by_cases hg : gapB c = true
    · rw [toks_gap hg] at h hmem ⊢
      have hb := tok_ne r (a + 1) t hmem
      have ih := toks_cut M n r hl' (a + 1) k t h
      rw [show t.1 + t.2.length - a = (t.1 + t.2.length - (a + 1)) + 1 by omega, List.take_succ_cons, List.cons_append, toks_gap hg, ih]
    · have h' : gapB c = false := by simpa using hg
      by_cases h2 : mkB c = true
      · rw [toks_mark h' h2] at h ⊢
        cases k with
        | zero =>
          injection h with h
          subst h
          show toks a ((c :: r).take (a + 1 - a) ++ 32 :: M) = [(a, [c])] ++ toks (a + 1 + 1) M
          rw [show a + 1 - a = 0 + 1 by omega, List.take_succ_cons, List.take_zero, List.cons_append, toks_mark h' h2, List.nil_append, toks_gap (by decide)]
          rfl
        | succ k =>
          rw [List.getElem?_cons_succ] at h
          have hb := tok_ne r (a + 1) t (List.mem_of_getElem? h)
          have ih := toks_cut M n r hl' (a + 1) k t h
          rw [show t.1 + t.2.length - a = (t.1 + t.2.length - (a + 1)) + 1 by omega, List.take_succ_cons, List.cons_append, toks_mark h' h2, ih, List.take_succ_cons]
          rfl
      · have hw : wdB c = true := wdB_iff.2 ⟨h', by simpa using h2⟩
        have hW : (c :: r).take (wl (c :: r)) = (c :: r).takeWhile wdB := by
          unfold wl
          exact (List.prefix_iff_eq_take.1 (List.takeWhile_prefix _)).symm
        have hWl : ((c :: r).takeWhile wdB).length = wl (c :: r) := rfl
        have hW0 : 1 ≤ wl (c :: r) := by unfold wl; rw [List.takeWhile_cons, if_pos hw]; simp
        have hall : ∀ d ∈ (c :: r).takeWhile wdB, wdB d = true := takeW_all _
        have hap : ∀ X, startsW X = false → toks a ((c :: r).takeWhile wdB ++ X) = (a, (c :: r).takeWhile wdB) :: toks (a + wl (c :: r)) X := by
          intro X hX
          have e := take_word _ X hall hX
          have el : wl ((c :: r).takeWhile wdB ++ X) = wl (c :: r) := by
            show (List.takeWhile wdB ((c :: r).takeWhile wdB ++ X)).length = _
            rw [e]; rfl
          have ec : (c :: r).takeWhile wdB = c :: r.takeWhile wdB := by rw [List.takeWhile_cons, if_pos hw]
          have hd : ((c :: r).takeWhile wdB ++ X).drop (wl (c :: r)) = X := by rw [← hWl, List.drop_left]
          rw [ec, List.cons_append] at e el hd ⊢
          rw [toks_word _ a c hw, e, el, hd]
        have hdl : ((c :: r).drop (wl (c :: r))).length ≤ n := by rw [List.length_drop]; simp; omega
        rw [toks_word r a c hw] at h ⊢
        cases k with
        | zero =>
          injection h with h
          subst h
          show toks a ((c :: r).take (a + ((c :: r).takeWhile wdB).length - a) ++ 32 :: M) = [_] ++ toks (a + ((c :: r).takeWhile wdB).length + 1) M
          rw [hWl, show a + wl (c :: r) - a = wl (c :: r) by omega, hW, hap _ rfl, toks_gap (by decide)]
          rfl
        | succ k =>
          rw [List.getElem?_cons_succ] at h
          have hb := tok_ne _ _ t (List.mem_of_getElem? h)
          have ih := toks_cut M n _ hdl (a + wl (c :: r)) k t h
          have e0 : (c :: r).take (t.1 + t.2.length - a) = (c :: r).takeWhile wdB ++ ((c :: r).drop (wl (c :: r))).take (t.1 + t.2.length - (a + wl (c :: r))) := by
            rw [show t.1 + t.2.length - a = wl (c :: r) + (t.1 + t.2.length - (a + wl (c :: r))) by omega, List.take_add, hW]
          rw [e0, List.append_assoc, hap _ ?_, ih, List.take_succ_cons]
          · rfl
          · cases hq : ((c :: r).drop (wl (c :: r))).take (t.1 + t.2.length - (a + wl (c :: r))) with
            | nil => rfl
            | cons d y =>
              have hh : ∃ y', (c :: r).drop (wl (c :: r)) = d :: y' := by
                cases hz : (c :: r).drop (wl (c :: r)) with
                | nil => rw [hz, List.take_nil] at hq; cases hq
                | cons d' y' =>
                  rw [hz] at hq
                  cases hm : t.1 + t.2.length - (a + wl (c :: r)) with
                  | zero => rw [hm, List.take_zero] at hq; cases hq
                  | succ m =>
                    rw [hm, List.take_succ_cons] at hq
                    injection hq with h1 h2
                    subst h1
                    exact ⟨_, rfl⟩
              obtain ⟨y', hy⟩ := hh
              show wdB d = false
              have hsp := List.takeWhile_append_dropWhile (p := wdB) (l := c :: r)
              have hdd : (c :: r).drop (wl (c :: r)) = (c :: r).dropWhile wdB := by
                have := congrArg (List.drop (wl (c :: r))) hsp
                rw [← hWl, List.drop_left] at this
                exact this.symm
              rw [hdd] at hy
              have := List.head?_dropWhile_not wdB (c :: r)
              rw [hy] at this
              simpa using this
/-- Tokens stand one behind the other. -/
theorem toks_up : ∀ (l : List UInt8) (a : Nat), (toks a l).Pairwise (fun x y => x.1 < y.1)
  | [], a => List.Pairwise.nil
  | c :: r, a => by
    have ih := toks_up r (a + 1)
    have hb := tok_ne r (a + 1)
    by_cases hg : gapB c = true
    · rw [toks_gap hg]; exact ih
    · have h' : gapB c = false := by simpa using hg
      by_cases h2 : mkB c = true
      · rw [toks_mark h' h2]
        exact List.pairwise_cons.2 ⟨fun (t : Tk) ht => by have := (hb t ht).2.2.1; show a < t.1; omega, ih⟩
      · rw [toks_glue h' h2]
        generalize startsW r = g
        generalize toks (a + 1) r = x at ih hb ⊢
        cases x with
        | nil => simp [glueT]
        | cons p x =>
          obtain ⟨p1, p2⟩ := p
          cases g with
          | true =>
            rw [glueT, if_pos rfl]
            exact List.pairwise_cons.2 ⟨fun (t : Tk) ht => by have := (hb t (by simp [ht])).2.2.1; show a < t.1; omega, (List.pairwise_cons.1 ih).2⟩
          | false =>
            rw [glueT, if_neg (by decide)]
            exact List.pairwise_cons.2 ⟨fun (t : Tk) ht => by have := (hb t ht).2.2.1; show a < t.1; omega, ih⟩
theorem up_one {T : List Tk} (h : T.Pairwise (fun x y => x.1 < y.1)) {i j : Nat} (hi : i < T.length) (hj : j < T.length) (e : (T.getD i default).1 = (T.getD j default).1) : i = j := by
  rw [List.getD_eq_getElem?_getD, List.getD_eq_getElem?_getD, List.getElem?_eq_getElem hi, List.getElem?_eq_getElem hj] at e
  have hp := List.pairwise_iff_getElem.1 h
  have e' : T[i].1 = T[j].1 := e
  rcases Nat.lt_trichotomy i j with h1 | h1 | h1
  · have := hp i j hi hj h1; omega
  · exact h1
  · have := hp j i hj hi h1; omega
/-- The machine, stopped by a token, has not seen what is behind it. -/
theorem runM_cut : ∀ (u : List (List UInt8)) (m : Mc), (runM m u).2.1 ≠ 0 → runM m (u.take ((runM m u).1 + 1)) = runM m u
  | [], m, h => absurd rfl h
  | w :: u, m, h => by
    by_cases c : (takeM m w).1 = 0
    · rw [runM_ok c] at h ⊢
      have ih := runM_cut u _ h
      rw [List.take_succ_cons, runM_ok c, ih]
    · rw [runM_no c]
      show runM m [w] = _
      rw [runM_no c]
/-- What is behind the wrong token does not count. -/
theorem par_ahead {l M : List UInt8} {at_ e : Nat} (h : parT l = ([], at_, e)) (he : e ≠ 0) (ha : at_ < l.length) :
    ∃ (k : Nat) (t : Tk), (toks 0 l)[k]? = some t ∧ t.1 = at_ ∧ (parT (l.take (at_ + t.2.length) ++ 32 :: M)).2 = (at_, e) := by
  unfold parT at h
  dsimp only at h
  by_cases c : (runM m0 ((toks 0 l).map Prod.snd)).2.1 ≠ 0
  · rw [if_pos c] at h
    injection h with _ h
    injection h with h1 h2
    have hlt : (runM m0 ((toks 0 l).map Prod.snd)).1 < (toks 0 l).length := by
      have := (runM_fail _ [] _ c).2
      simpa using this
    have hcut := runM_cut _ _ c
    generalize (runM m0 ((toks 0 l).map Prod.snd)) = R at *
    have hk : (toks 0 l)[R.1]? = some (toks 0 l)[R.1] := List.getElem?_eq_getElem hlt
    have hd : (toks 0 l).getD R.1 default = (toks 0 l)[R.1] := by rw [List.getD_eq_getElem?_getD, hk]; rfl
    rw [hd] at h1
    refine ⟨R.1, (toks 0 l)[R.1], hk, h1, ?_⟩
    have hT := toks_cut M l.length l (Nat.le_refl _) 0 R.1 _ hk
    rw [Nat.sub_zero, h1] at hT
    have hr : runM m0 (((toks 0 l).take (R.1 + 1) ++ toks (at_ + (toks 0 l)[R.1].2.length + 1) M).map Prod.snd) = R := by
      rw [List.map_append, List.map_take, (runM_fail _ _ m0 (by rw [hcut]; exact c)).1, hcut]
    unfold parT
    dsimp only
    rw [hT, hr, if_pos c, List.getD_eq_getElem?_getD, List.getElem?_append_left (by rw [List.length_take]; omega), List.getElem?_take, if_pos (by omega), hk]
    show (_, _) = _
    rw [h2]
    show ((toks 0 l)[R.1].1, e) = _
    rw [h1]
  · rw [if_neg c] at h
    split at h
    · injection h with _ h
      injection h with h1 h2
      omega
    · injection h with _ h
      injection h with h1 h2
      exact absurd h2.symm he

end Go.Proofs.YtdmdgoeacafpiaaGreatDoor

namespace Go.Proofs.YtdmdgoeacafpiaaGreatDoor
open Go.RowKit Go.Lib
set_option linter.unusedVariables false
set_option linter.unusedSimpArgs false

/-- A token's cells, in a row. -/
def tkL (t : Tk) : List Value := [.string ⟨t.2.toArray⟩, .int .i64 (t.1 : Nat)]
def tkR (T : List Tk) : List Value := T.flatMap tkL
theorem tkR_len : ∀ T : List Tk, (tkR T).length = T.length * 2
  | [] => rfl
  | n :: t => by
    have := tkR_len t
    unfold tkR at this ⊢
    rw [List.flatMap_cons, List.length_append, this, List.length_cons]
    show 2 + _ = _
    omega
theorem tkR_app (t u : List Tk) : tkR (t ++ u) = tkR t ++ tkR u := by unfold tkR; rw [List.flatMap_append]
theorem tkR_get : ∀ (t : List Tk) (j i : Nat), j < t.length → i < 2 → (tkR t)[j * 2 + i]? = (tkL (t.getD j default))[i]?
  | [], j, i, hj, _ => absurd hj (Nat.not_lt_zero _)
  | n :: t, 0, i, _, hi => by
    unfold tkR
    rw [List.flatMap_cons, Nat.zero_mul, Nat.zero_add, List.getElem?_append_left (by show i < 2; exact hi)]
    rfl
  | n :: t, j + 1, i, hj, hi => by
    have ih := tkR_get t j i (by simpa using hj) hi
    unfold tkR at ih ⊢
    rw [List.flatMap_cons, List.getElem?_append_right (by show 2 ≤ _; omega), show (j + 1) * 2 + i - (tkL n).length = j * 2 + i by show (j + 1) * 2 + i - 2 = _; omega, ih]
    simp [List.getD_eq_getElem?_getD]
theorem tkR_one {t : List Tk} : ∀ u ∈ tkR t, u.oneCell' = true := by
  intro u hu
  obtain ⟨n, _, h⟩ := List.mem_flatMap.1 hu
  unfold tkL at h
  simp at h
  rcases h with rfl | rfl <;> rfl
/-- A slice of the call's own, in a block from base on, holds tokens. -/
def OwnK (w : World) (base : Nat) (v : Value) (t : List Tk) : Prop := w.ownsRow base 33 2 v t.length (tkR t)
theorem OwnK.nil (w : World) (base : Nat) : OwnK w base (.slice none 0 0) [] := World.ownsRow_nil _ _ _ _
theorem OwnK.one (w : World) (base : Nat) (t : Tk) (hb : base ≤ w.heap.size) : OwnK (w.alloc (.cells #[.string ⟨t.2.toArray⟩, .int .i64 (t.1 : Nat)] 33)) base (.slice (some ⟨w.heap.size, 0, none⟩) 1 1) [t] :=
  World.ownsRow_lit w #[.string ⟨t.2.toArray⟩, .int .i64 (t.1 : Nat)] 1 hb (by unfold maxLen; omega) rfl
theorem OwnK.grown {w w' : World} {base : Nat} {v : Value} {t : List Tk} (h : OwnK w base v t) (hg : Below w.heap.size w w') : OwnK w' base v t := by
  obtain ⟨h1, h2⟩ := h
  refine ⟨h1, ?_⟩
  rcases h2 with h2 | ⟨g, cap, cur, rfl, hb, hc, h3⟩
  · exact Or.inl h2
  · refine Or.inr ⟨g, cap, cur, rfl, hb, ?_, h3⟩
    rw [hg.block g (Array.getElem?_eq_some_iff.1 hc).1]
    exact hc
theorem OwnK.slice {w : World} {base : Nat} {v : Value} {t : List Tk} (h : OwnK w base v t) : ∃ a cap, v = .slice a t.length cap := by
  rcases h.2 with ⟨rfl, h2⟩ | ⟨g, cap, cur, rfl, _⟩
  · exact ⟨none, 0, by rw [h2]⟩
  · exact ⟨_, _, rfl⟩
/-- A token of such a slice, read. -/
theorem OwnK.get {w : World} {base : Nat} {v : Value} {t : List Tk} (h : OwnK w base v t) {j : Nat} (hj : j < t.length) : ∃ g cap, v = .slice (some ⟨g, 0, none⟩) t.length cap ∧ t.length ≤ cap ∧ cap ≤ 9223372036854775807 ∧ base ≤ g ∧
    w.cell? ⟨g, j * 2, none⟩ = some (.string ⟨(t.getD j default).2.toArray⟩) ∧ w.cell? ⟨g, j * 2 + 1, none⟩ = some (.int .i64 ((t.getD j default).1 : Nat)) := by
  obtain ⟨h1, h2⟩ := id h
  rcases h2 with ⟨rfl, h2⟩ | ⟨g, cap, cur, rfl, hb, hc, hn, hm, h3, h4⟩
  · omega
  · have hcl := h.cells (g := g) rfl
    have k : ∀ i u, i < 2 → (tkL (t.getD j default))[i]? = some u → w.cell? ⟨g, 0 + j * 2 + i, none⟩ = some u := by
      intro i u hi hu
      have := hcl (j * 2 + i) u (by rw [tkR_get t j i hj hi]; exact hu)
      rw [Go.WideShapes.add_plain, ← Nat.add_assoc] at this
      exact this
    refine ⟨g, cap, rfl, hn, by unfold maxLen at hm; omega, hb, ?_, ?_⟩
    · have := k 0 _ (by omega) rfl
      rw [Nat.zero_add] at this; exact this
    · have := k 1 _ (by omega) rfl
      rw [Nat.zero_add] at this; exact this
theorem infoTk : (Tryz.prog.info? 33).map (fun i => (i.zero, i.size, i.bytes)) = some (some (.agg #[.string ⟨#[]⟩, .int .i64 0]), 2, 24) := by kernel_rfl
/-- A token appended to tokens of the call's own. -/
theorem wpList_append_tok {w : World} {ops : Array Oper} {rest : List Oper} {o : Oper} {a : Act} {Q : Exit → Act → World → Prop} (hgd : o.guard = none) (s x : Operand)
    (ho : o.op = .call { callee := .builtin .append, args := #[s, x], argTypes := #[30, 30] })
    (base : Nat) (v : Value) (T : List Tk) (hs : a.eval s = v) (hown : OwnK w base v T) (ad : Addr) (c : Nat) (t : Tk) (hx : a.eval x = .slice (some ad) 1 c) (hnews : ∀ j z, (tkR [t])[j]? = some z → w.cell? (ad.add j) = some z)
    (hlen : T.length + 1 ≤ 100000) (hbase : base ≤ w.heap.size)
    (h : ∀ v' w', OwnK w' base v' (T ++ [t]) → w.grownBy w' v.ownBlock → (v'.ownBlock = v.ownBlock ∨ v'.ownBlock = some w.heap.size) → wpList Tryz.prog ops Q rest (a.put o.dst v') w') : wpList Tryz.prog ops Q (o :: rest) a w := by
  obtain ⟨i0, hi0, hz0, hz1, hz2⟩ := info_parts infoTk
  refine wpList_append_own_at _ hgd s x 30 ho base 33 i0 _ 2 24 Tryz.underlying30 hi0 hz0 hz1 hz2 rfl (by decide) v T.length (tkR T) hs hown ad 1 c (tkR [t]) hx (tkR_len [t]) hnews tkR_one (by unfold maxLen; omega) (by omega) hbase ?_
  intro v' w' h1 h2 _ h3
  refine h v' w' ?_ h2 h3
  unfold OwnK
  rw [List.length_append, tkR_app]; exact h1

theorem tkR_set (T : List Tk) (t : Tk) (x : List UInt8) : (tkR (T ++ [t])).set (T.length * 2) (.string ⟨x.toArray⟩) = tkR (T ++ [(t.1, x)]) := by
  have h1 : ∀ k : Tk, tkR [k] = tkL k := fun k => by simp [tkR]
  have hl := tkR_len T
  rw [tkR_app, tkR_app, h1, h1, ← hl, List.set_append_right _ _ (by omega), Nat.sub_self]; rfl
/-- The last token's text is stored. -/
theorem OwnK.setLast {w : World} {base g cap : Nat} {T : List Tk} {t : Tk} (h : OwnK w base (.slice (some ⟨g, 0, none⟩) (T.length + 1) cap) (T ++ [t])) (x : List UInt8) :
    OwnK (w.setCell ⟨g, T.length * 2, none⟩ (.string ⟨x.toArray⟩)) base (.slice (some ⟨g, 0, none⟩) (T.length + 1) cap) (T ++ [(t.1, x)]) ∧ w.cell? ⟨g, T.length * 2, none⟩ = some (.string ⟨t.2.toArray⟩) ∧ (∀ i, w.frozen? ⟨g, i, none⟩ = false) := by
  have hn := h
  unfold OwnK at hn
  rw [show (T ++ [t]).length = T.length + 1 by simp] at hn
  have h1 : tkR [t] = tkL t := by simp [tkR]
  have hl := tkR_len T
  refine ⟨?_, ?_, fun i => hn.frozenAt i⟩
  · unfold OwnK
    rw [← tkR_set T t x, show (T ++ [(t.1, x)]).length = T.length + 1 by simp]
    exact (World.ownsRow.stored hn (T.length * 2) (.string ⟨x.toArray⟩)).1
  · rw [hn.cellAt _ (by omega), tkR_app, List.getElem?_append_right (by omega), hl, Nat.sub_self, h1]; rfl
/-- Below, behind an append to tokens of the call's own. -/
theorem below_toks {B base : Nat} {w0 w w' : World} {v : Value} {t : List Tk} (hb : Below B w0 w) (ho : OwnK w base v t) (hB : B ≤ base) (hw : B ≤ w.heap.size) (hg : w.grownBy w' v.ownBlock) : Below B w0 w' := by
  refine hb.grown hg (by omega) (fun k hk => ?_)
  have := World.ownsRow.lt ho k hk
  omega

end Go.Proofs.YtdmdgoeacafpiaaGreatDoor

namespace Go.Proofs.YtdmdgoeacafpiaaGreatDoor
open Go.RowKit Go.Lib
set_option linter.unusedVariables false
set_option linter.unusedSimpArgs false

theorem take_byte (s : ByteArray) (p : Nat) (h : p < s.size) : s.data.toList.take (p + 1) = s.data.toList.take p ++ [s[p]] := by
  have h' : p < s.data.toList.length := by simpa using h
  rw [List.take_add_one, List.getElem?_eq_getElem h']; rfl
theorem ext_one (s : ByteArray) (p : Nat) (h : p < s.size) : s.extract p (p + 1) = ⟨[s[p]].toArray⟩ := by
  apply ByteArray.ext
  rw [ByteArray.data_extract]
  apply Array.toList_inj.1
  rw [Array.toList_extract]
  have h' : p < s.data.toList.length := by simpa using h
  rw [List.extract_eq_take_drop, List.drop_eq_getElem_cons h', Nat.add_sub_cancel_left]
  rfl
theorem one_news (w : World) (t : Tk) : ∀ j z, (tkR [t])[j]? = some z → (w.alloc (.cells #[.string ⟨t.2.toArray⟩, .int .i64 (t.1 : Nat)] 33)).cell? ((⟨w.heap.size, 0, none⟩ : Addr).add j) = some z := fun j z h =>
  (OwnK.one w w.heap.size t (Nat.le_refl _)).cells rfl j z h
set_option maxHeartbeats 4000000 in
set_option maxRecDepth 100000 in
theorem rtoks_any (s : ByteArray) (hs : s.size ≤ 3000) (w : World) :
    Calls Tryz.prog 10 #[.string s] w fun e w' => ∃ v, e = .returned v ∧ OwnK w' w.heap.size v (toks 0 s.data.toList) ∧ Below w.heap.size w w' := by
  go_enter Tryz.func10, Tryz.ntmps10
  go_wp2_with fail
  go_loopw [3, 4, 5] (fun vo vb vi wx => ∃ p : Nat, p ≤ s.size ∧ vi = .int .i64 p ∧ vb = .bool (endsW (s.data.toList.take p)) ∧ OwnK wx w.heap.size vo (toks 0 (s.data.toList.take p)) ∧ Below w.heap.size w wx) (fun _ _ vi _ => s.size - (RowKit.intOf vi).toNat)
  case atStart => exact ⟨0, Nat.zero_le _, rfl, rfl, OwnK.nil _ _, Below.refl _ _⟩
  case round =>
    obtain ⟨p, hp, rfl, rfl, ho, hb⟩ := hrel
    have HO := Lib.hid ho
    have HB := Lib.hid hb
    by_cases hlt : p < s.size
    · have HT := Lib.hid (toks_snoc (s.data.toList.take p) 0 s[p])
      have HE := Lib.hid (endsW_snoc (s.data.toList.take p) s[p])
      rw [← take_byte s p hlt, Nat.zero_add, List.length_take, Nat.min_eq_left (by simp; omega)] at HT
      rw [← take_byte s p hlt] at HE
      have HL := Lib.hid (toks_len (s.data.toList.take p) 0)
      have hne := ends_ne (s.data.toList.take p) 0
      have HLt := Lib.hid (fun t ht => (tok_ne (s.data.toList.take p) 0 t ht).2.1)
      have p0 : (0 : Int) ≤ (p : Int) := by omega
      have p1 : (p : Int) < (s.size : Int) := by omega
      clear ho hb
      obtain ⟨T', hT'⟩ : ∃ T', T' = toks 0 (s.data.toList.take (p + 1)) := ⟨_, rfl⟩
      obtain ⟨E', hE'⟩ : ∃ E', E' = endsW (s.data.toList.take (p + 1)) := ⟨_, rfl⟩
      rw [← hT'] at HT
      rw [← hE'] at HE
      have HTe := Lib.hid hT'
      have HEe := Lib.hid hE'
      clear hT' hE'
      generalize toks 0 (s.data.toList.take p) = T at *
      generalize endsW (s.data.toList.take p) = E at *
      by_cases hg : gapB s[p] = true
      · have hT : T' = T := by have := HT.out; unfold addT at this; rw [if_pos hg] at this; exact this
        have hE : E' = false := by rw [HE.out]; unfold wdB; rw [hg]; rfl
        have hcase : s[p] = 32 ∨ s[p] = 10 := by unfold gapB at hg; simpa using hg
        subst hT hE
        clear HT HE hne hg
        have HC := Lib.hid hcase
        clear hcase
        rcases HC.out with h | h
        · have q : s[p].toNat = 32 := by rw [h]; rfl
          clear h
          go_wp2_with fail
          go_roundw
          case rel => exact ⟨p + 1, by omega, by go_num, by rw [← HEe.out], by rw [← HTe.out]; exact HO.out, HB.out⟩
          case measure => simp [RowKit.intOf]; omega
        · have q : s[p].toNat = 10 := by rw [h]; rfl
          clear h
          go_wp2_with fail
          go_roundw
          case rel => exact ⟨p + 1, by omega, by go_num, by rw [← HEe.out], by rw [← HTe.out]; exact HO.out, HB.out⟩
          case measure => simp [RowKit.intOf]; omega
      · have hg1 : ¬ s[p].toNat = 32 ∧ ¬ s[p].toNat = 10 := by
          unfold gapB at hg
          simp at hg
          exact ⟨fun e => hg.1 (UInt8.toNat_inj.1 e), fun e => hg.2 (UInt8.toNat_inj.1 e)⟩
        obtain ⟨g1, g2⟩ := hg1
        have g1' : ¬ ((s[p].toNat : Nat) : Int) = 32 := by omega
        have g2' : ¬ ((s[p].toNat : Nat) : Int) = 10 := by omega
        by_cases hm : mkB s[p] = true
        · have hT : T' = T ++ [(p, [s[p]])] := by have := HT.out; unfold addT at this; rw [if_neg hg, if_pos hm] at this; exact this
          have hE : E' = false := by rw [HE.out]; unfold wdB; rw [hm]; simp
          have hX := ext_one s p hlt
          have p2 : (0 : Int) ≤ (p : Int) + 1 := by omega
          have p3 : (p : Int) + 1 ≤ (s.size : Int) := by omega
          have hcase : s[p] = 40 ∨ s[p] = 41 ∨ s[p] = 44 := by unfold mkB at hm; simpa [or_assoc] using hm
          subst hT hE
          clear HT HE hne hg hm
          have HC := Lib.hid hcase
          clear hcase
          rcases HC.out with h | h | h
          · have q : s[p].toNat = 40 := by rw [h]; rfl
            clear h g1 g2 g1' g2'
            go_wp2_with (at_builtin; refine wpList_append_tok rfl (.tmp 32) (.tmp 40) rfl w.heap.size _ T rfl (HO.out.grown (newB _ _)) ⟨wr.heap.size, 0, none⟩ 1 (p, [s[p]]) rfl (one_news wr (p, [s[p]])) (by have := HL.out; rw [List.length_take] at this; simp at this; omega) (by have := HB.out.size; rw [World.size_alloc]; omega) ?_; intro va w2 ho2 hg2 hat2)
            have HB2 := Lib.hid (below_toks (onB HB.out (newB _ _)) (HO.out.grown (newB _ _)) (Nat.le_refl _) (by have := HB.out.size; rw [World.size_alloc]; omega) hg2)
            have HO2 := Lib.hid ho2
            clear ho2 hg2 hat2
            go_roundw
            case rel => exact ⟨p + 1, by omega, by go_num, by rw [← HEe.out], by rw [← HTe.out]; exact HO2.out, HB2.out⟩
            case measure => simp [RowKit.intOf]; omega
          · have q : s[p].toNat = 41 := by rw [h]; rfl
            clear h g1 g2 g1' g2'
            go_wp2_with (at_builtin; refine wpList_append_tok rfl (.tmp 32) (.tmp 40) rfl w.heap.size _ T rfl (HO.out.grown (newB _ _)) ⟨wr.heap.size, 0, none⟩ 1 (p, [s[p]]) rfl (one_news wr (p, [s[p]])) (by have := HL.out; rw [List.length_take] at this; simp at this; omega) (by have := HB.out.size; rw [World.size_alloc]; omega) ?_; intro va w2 ho2 hg2 hat2)
            have HB2 := Lib.hid (below_toks (onB HB.out (newB _ _)) (HO.out.grown (newB _ _)) (Nat.le_refl _) (by have := HB.out.size; rw [World.size_alloc]; omega) hg2)
            have HO2 := Lib.hid ho2
            clear ho2 hg2 hat2
            go_roundw
            case rel => exact ⟨p + 1, by omega, by go_num, by rw [← HEe.out], by rw [← HTe.out]; exact HO2.out, HB2.out⟩
            case measure => simp [RowKit.intOf]; omega
          · have q : s[p].toNat = 44 := by rw [h]; rfl
            clear h g1 g2 g1' g2'
            go_wp2_with (at_builtin; refine wpList_append_tok rfl (.tmp 32) (.tmp 40) rfl w.heap.size _ T rfl (HO.out.grown (newB _ _)) ⟨wr.heap.size, 0, none⟩ 1 (p, [s[p]]) rfl (one_news wr (p, [s[p]])) (by have := HL.out; rw [List.length_take] at this; simp at this; omega) (by have := HB.out.size; rw [World.size_alloc]; omega) ?_; intro va w2 ho2 hg2 hat2)
            have HB2 := Lib.hid (below_toks (onB HB.out (newB _ _)) (HO.out.grown (newB _ _)) (Nat.le_refl _) (by have := HB.out.size; rw [World.size_alloc]; omega) hg2)
            have HO2 := Lib.hid ho2
            clear ho2 hg2 hat2
            go_roundw
            case rel => exact ⟨p + 1, by omega, by go_num, by rw [← HEe.out], by rw [← HTe.out]; exact HO2.out, HB2.out⟩
            case measure => simp [RowKit.intOf]; omega
        · have hm1 : ¬ s[p].toNat = 40 ∧ ¬ s[p].toNat = 41 ∧ ¬ s[p].toNat = 44 := by
            unfold mkB at hm
            simp at hm
            exact ⟨fun e => hm.1.1 (UInt8.toNat_inj.1 e), fun e => hm.1.2 (UInt8.toNat_inj.1 e), fun e => hm.2 (UInt8.toNat_inj.1 e)⟩
          obtain ⟨m1, m2, m3⟩ := hm1
          have m1' : ¬ ((s[p].toNat : Nat) : Int) = 40 := by omega
          have m2' : ¬ ((s[p].toNat : Nat) : Int) = 41 := by omega
          have m3' : ¬ ((s[p].toNat : Nat) : Int) = 44 := by omega
          have b0 : (((s[p].toNat : Nat) : Int) == 32) = false := beq_false_of_ne g1'
          have b1 : (((s[p].toNat : Nat) : Int) == 10) = false := beq_false_of_ne g2'
          have b2 : (((s[p].toNat : Nat) : Int) == 40) = false := beq_false_of_ne m1'
          have b3 : (((s[p].toNat : Nat) : Int) == 41) = false := beq_false_of_ne m2'
          have b4 : (((s[p].toNat : Nat) : Int) == 44) = false := beq_false_of_ne m3'
          clear g1 g2 m1 m2 m3 g1' g2' m1' m2' m3'
          have hE : E' = true := by rw [HE.out]; exact wdB_iff.2 ⟨by simpa using hg, by simpa using hm⟩
          have hX := ext_one s p hlt
          have p2 : (0 : Int) ≤ (p : Int) + 1 := by omega
          have p3 : (p : Int) + 1 ≤ (s.size : Int) := by omega
          have hT : T' = if E then updT (growT s[p]) T else T ++ [(p, [s[p]])] := by have := HT.out; unfold addT at this; rw [if_neg hg, if_neg hm] at this; exact this
          clear HT HE hg hm
          cases hEE : E with
          | true =>
            obtain ⟨T0, t, hTT⟩ : ∃ T0 t, T = T0 ++ [t] := ⟨_, _, (List.dropLast_concat_getLast (hne hEE)).symm⟩
            rw [hEE, if_pos rfl, hTT, updT_app] at hT
            subst hTT hE
            have HTw := Lib.hid hT
            have htl : t.2.length ≤ 3000 := by have := HLt.out t (by simp); rw [List.length_take] at this; simp at this; omega
            obtain ⟨g, cap, hv, hcp, hcm, hgb, _, _⟩ := HO.out.get (j := 0) (by simp)
            rw [show (T0 ++ [t]).length = T0.length + 1 by simp] at hv hcp
            subst hv
            have HS := Lib.hid (HO.out.setLast (t.2 ++ [s[p]]))
            obtain ⟨_, k1, k2⟩ := HO.out.setLast (t.2 ++ [s[p]])
            have HBs : Hid (Below w.heap.size w (wr.setCell ⟨g, T0.length * 2, none⟩ (.string ⟨(t.2 ++ [s[p]]).toArray⟩))) := Lib.hid (HB.out.grown (set_grown wr ⟨g, T0.length * 2, none⟩ _) HB.out.size (fun k hk => by injection hk with hk; subst hk; exact hgb))
            have j0 : (0 : Int) ≤ (T0.length : Int) := by omega
            have j1 : (T0.length : Int) < (T0.length : Int) + 1 := by omega
            have j2 : (T0.length : Int) + 1 - 1 = (T0.length : Int) := by omega
            have j3 : (T0.length : Int) + 1 ≤ (cap : Int) := by omega
            have k3 := k2 (T0.length * 2)
            have l1 : ¬ 9223372036854775807 < t.2.length + 1 := by omega
            clear hT hEE hne k2
            go_wp2_with fail
            go_region
            rw [show (⟨t.2.toArray⟩ ++ ⟨#[s[p]]⟩ : ByteArray) = ⟨(t.2 ++ [s[p]]).toArray⟩ by simp [ByteArray.mk_append_mk]]
            go_wp2_with fail
            go_roundw
            case rel => exact ⟨p + 1, by omega, by go_num, by rw [← HEe.out], by rw [← HTe.out, HTw.out]; exact HS.out.1.grown (below_drewT _ _), onB HBs.out (below_drewT _ _)⟩
            case measure => simp [RowKit.intOf]; omega
          | false =>
            rw [hEE, if_neg (by decide)] at hT
            subst hE
            have HTw := Lib.hid hT
            have j0 : (0 : Int) ≤ (T.length : Int) := by omega
            have j1 : (T.length : Int) < (T.length : Int) + 1 := by omega
            have j2 : (T.length : Int) + 1 - 1 = (T.length : Int) := by omega
            clear hT hEE hne HLt
            go_upto_region 15 with (at_builtin; refine wpList_append_tok rfl (.tmp 44) (.tmp 47) rfl w.heap.size _ T rfl (HO.out.grown (newB _ _)) ⟨wr.heap.size, 0, none⟩ 1 (p, []) rfl (one_news wr (p, [])) (by have := HL.out; rw [List.length_take] at this; simp at this; omega) (by have := HB.out.size; rw [World.size_alloc]; omega) ?_; intro va w2 ho2 hg2 hat2)
            have HB2 := Lib.hid (below_toks (onB HB.out (newB _ _)) (HO.out.grown (newB _ _)) (Nat.le_refl _) (by have := HB.out.size; rw [World.size_alloc]; omega) hg2)
            obtain ⟨g, cap, hv, hcp, hcm, hgb, _, _⟩ := ho2.get (j := 0) (by simp)
            rw [List.length_append, List.length_singleton] at hv hcp
            subst hv
            have HS := Lib.hid (ho2.setLast [s[p]])
            obtain ⟨_, k1, k2⟩ := ho2.setLast [s[p]]
            have HBs : Hid (Below w.heap.size w (w2.setCell ⟨g, T.length * 2, none⟩ (.string ⟨[s[p]].toArray⟩))) := Lib.hid (HB2.out.grown (set_grown w2 ⟨g, T.length * 2, none⟩ _) HB2.out.size (fun k hk => by injection hk with hk; subst hk; exact hgb))
            have j3 : (T.length : Int) + 1 ≤ (cap : Int) := by omega
            have k3 := k2 (T.length * 2)
            clear ho2 hg2 hat2 k2
            go_wp2_with fail
            go_region
            go_wp2_with fail
            go_roundw
            case rel => exact ⟨p + 1, by omega, by go_num, by rw [← HEe.out], by rw [← HTe.out, HTw.out]; exact HS.out.1.grown (below_drewT _ _), onB HBs.out (below_drewT _ _)⟩
            case measure => simp [RowKit.intOf]; omega
    · have hpe : p = s.size := by omega
      have p1 : ¬ (p : Int) < (s.size : Int) := by omega
      have HF : Hid (toks 0 (s.data.toList.take p) = toks 0 s.data.toList) := Lib.hid (by rw [hpe, List.take_of_length_le (by simp)])
      rw [HF.out] at HO
      clear ho hb hpe
      go_wp2_with fail
      go_ret
      exact ⟨_, rfl, HO.out, HB.out⟩

end Go.Proofs.YtdmdgoeacafpiaaGreatDoor
