/-
  The document's reader of tokens, as the machine goes: no program.
-/
import Derived.Test.YtdmdgoeacafpiaaGreatDoorPt
import Derived.Test.YtdmdgoeacafpiaaGreatDoorPr
import Derived.Lib.AtoiAllCases
import Derived.Test.YtdmdgoeacafpiaaGreatDoorPq
import Derived.Test.YtdmdgoeacafpiaaGreatDoorTxt
import Derived.Test.YtdmdgoeacafpiaaGreatDoorDayQ
import Derived.Test.YtdmdgoeacafpiaaGreatDoorDayL
namespace Go.Proofs.YtdmdgoeacafpiaaGreatDoor
open Go.Lib
set_option linter.unusedVariables false
set_option linter.unusedSimpArgs false

/-- So many tokens were right, and so stands the machine. -/
def Gd (W : List (List UInt8)) (n : Nat) (m : Mc) : Prop := n ≤ W.length ∧ runM m0 (W.take n) = (n, 0, m)
/-- Which token is the wrong one, and how. -/
def Wr (W : List (List UInt8)) (j e : Nat) : Prop := e ≠ 0 ∧ ((j < W.length ∧ (runM m0 W).1 = j ∧ (runM m0 W).2.1 = e) ∨ (j = W.length ∧ e = 13 ∧ (runM m0 W).2.1 = 0 ∧ (runM m0 W).2.2.D ≠ []))
theorem Gd.start (W : List (List UInt8)) : Gd W 0 m0 := ⟨Nat.zero_le _, rfl⟩
theorem Gd.next {W : List (List UInt8)} {n : Nat} {m : Mc} (h : Gd W n m) (hn : n < W.length) (ht : (takeM m W[n]).1 = 0) : Gd W (n + 1) (takeM m W[n]).2 := by
  obtain ⟨h1, h2⟩ := h
  refine ⟨hn, ?_⟩
  rw [List.take_add_one, List.getElem?_eq_getElem hn]
  show runM m0 (W.take n ++ [W[n]]) = _
  rw [runM_snoc (by rw [h2]), h2, if_pos ht, List.length_take, Nat.min_eq_left h1]
  exact Prod.ext rfl (Prod.ext ht rfl)
theorem Gd.bad {W : List (List UInt8)} {n : Nat} {m : Mc} (h : Gd W n m) (hn : n < W.length) (ht : (takeM m W[n]).1 ≠ 0) : Wr W n (takeM m W[n]).1 := by
  obtain ⟨h1, h2⟩ := h
  have e : W = W.take n ++ (W[n] :: W.drop (n + 1)) := by rw [← List.drop_eq_getElem_cons hn, List.take_append_drop]
  have ha := (runM_app (W.take n) (W[n] :: W.drop (n + 1)) m0 (by rw [h2])).1
  rw [← e, h2] at ha
  dsimp only at ha
  rw [runM_no ht] at ha
  refine ⟨ht, .inl ⟨hn, ?_, ?_⟩⟩
  · rw [ha]; rfl
  · rw [ha]
theorem Gd.stop {W : List (List UInt8)} {n : Nat} {m : Mc} (h : Gd W n m) (hn : ¬ n < W.length) (hD : m.D ≠ []) : n = W.length ∧ Wr W n 13 := by
  obtain ⟨h1, h2⟩ := h
  have e : n = W.length := by omega
  rw [List.take_of_length_le (by omega)] at h2
  exact ⟨e, by decide, .inr ⟨e, rfl, by rw [h2], by rw [h2]; exact hD⟩⟩
/-- What the document's answer is, where a token is wrong. -/
theorem wr_par {l : List UInt8} {j e : Nat} (h : Wr ((toks 0 l).map Prod.snd) j e) : parT l = ([], (if j < (toks 0 l).length then ((toks 0 l).getD j default).1 else l.length), e) := by
  obtain ⟨he, h⟩ := h
  rw [List.length_map] at h
  unfold parT
  dsimp only
  rcases h with ⟨h1, h2, h3⟩ | ⟨h1, h2, h3, h4⟩
  · rw [if_pos (by rw [h3]; exact he), if_pos h1, h2, h3]
  · rw [if_neg (by rw [h3]; decide), if_pos h4, if_neg (by omega), h2]
theorem gd_par {l : List UInt8} {n : Nat} {m : Mc} (h : Gd ((toks 0 l).map Prod.snd) n m) (hD : m.D = []) (hn : ¬ n < (toks 0 l).length) : parT l = (m.N, 0, 0) := by
  obtain ⟨h1, h2⟩ := h
  rw [List.length_map] at h1
  rw [List.take_of_length_le (by rw [List.length_map]; omega)] at h2
  unfold parT
  dsimp only
  rw [h2]
  dsimp only
  rw [if_neg (by decide), if_neg (by rw [hD]; decide)]
theorem gd_more {W : List (List UInt8)} {n : Nat} {m : Mc} (h : Gd W n m) (hD : m.D = []) (hn : n < W.length) : Wr W n 13 := by
  have e : (takeM m W[n]).1 = 13 := by unfold takeM; rw [hD]
  have := h.bad hn (by rw [e]; decide)
  rw [e] at this
  exact this

/-- The op that a word is: the last one. -/
def lastW (w : List UInt8) : Nat → Nat
  | 0 => 0
  | k + 1 => if 2 ≤ k ∧ wdN k = w then k else lastW w k
theorem wd_inj : ∀ a b : Fin 18, 2 ≤ a.val → wdN a.val = wdN b.val → a = b := by decide
theorem lastW_lt {w : List UInt8} : ∀ n, lastW w n < n + 1
  | 0 => Nat.zero_lt_one
  | n + 1 => by
    rw [lastW]
    split
    · omega
    · have := lastW_lt (w := w) n; omega
theorem lastW_some {w : List UInt8} {k : Nat} (h2 : 2 ≤ k) (hw : wdN k = w) (hk : k < 18) : ∀ n, k < n → n ≤ 18 → lastW w n = k
  | 0, h, _ => absurd h (Nat.not_lt_zero _)
  | n + 1, h, hn => by
    rw [lastW]
    by_cases c : 2 ≤ n ∧ wdN n = w
    · rw [if_pos c]
      have := wd_inj ⟨n, by omega⟩ ⟨k, hk⟩ c.1 (by rw [c.2, hw])
      exact congrArg Fin.val this
    · rw [if_neg c]
      refine lastW_some h2 hw hk n ?_ (by omega)
      rcases Nat.lt_or_ge k n with h' | h'
      · exact h'
      · have e : k = n := by omega
        subst e
        exact absurd ⟨h2, hw⟩ c
theorem lastW_none {w : List UInt8} : ∀ n, lastW w n = 0 → ∀ k, 2 ≤ k → k < n → wdN k ≠ w
  | 0, _, k, _, h => absurd h (Nat.not_lt_zero _)
  | n + 1, h, k, h2, hk => by
    rw [lastW] at h
    by_cases c : 2 ≤ n ∧ wdN n = w
    · rw [if_pos c] at h; omega
    · rw [if_neg c] at h
      rcases Nat.lt_or_ge k n with h' | h'
      · exact lastW_none n h k h2 h'
      · have e : k = n := by omega
        subst e
        exact fun e => c ⟨h2, e⟩
theorem lastW_back {w : List UInt8} : ∀ n, lastW w n ≠ 0 → 2 ≤ lastW w n ∧ lastW w n < n ∧ wdN (lastW w n) = w
  | 0, h => absurd rfl h
  | n + 1, h => by
    rw [lastW] at h ⊢
    by_cases c : 2 ≤ n ∧ wdN n = w
    · rw [if_pos c]; exact ⟨c.1, by omega, c.2⟩
    · rw [if_neg c] at h ⊢
      obtain ⟨h1, h2, h3⟩ := lastW_back n h
      exact ⟨h1, by omega, h3⟩
theorem findW_none {w : List UInt8} {s : Nat} : ∀ {n}, findW w s n = none → ∀ k, k < n → ¬ (wdN k = w ∧ mkT.getD k 0 = s)
  | 0, _, k, h => absurd h (Nat.not_lt_zero _)
  | n + 1, h, k, hk => by
    rw [findW] at h
    cases hr : findW w s n with
    | some j => rw [hr] at h; cases h
    | none =>
      rw [hr] at h
      dsimp only at h
      split at h
      · cases h
      · rename_i c
        rcases Nat.lt_or_ge k n with h' | h'
        · exact findW_none hr k h'
        · have e : k = n := by omega
          subst e; exact c
theorem wd_small : wdN 0 = [] ∧ wdN 1 = [] := by decide
/-- Which op of a sort a word is. -/
theorem find_last {w : List UInt8} (hw : w ≠ []) (s : Nat) (hs : s ≠ 0) : findW w s 18 = if mkT.getD (lastW w 18) 0 = s then some (lastW w 18) else none := by
  by_cases h0 : lastW w 18 = 0
  · rw [h0, if_neg (by show ¬ (0 : Nat) = s; omega)]
    cases hf : findW w s 18 with
    | none => rfl
    | some k =>
      obtain ⟨h1, h2, h3⟩ := findW_back hf
      have : 2 ≤ k := by
        rcases Nat.lt_or_ge k 2 with h | h
        · have : k = 0 ∨ k = 1 := by omega
          rcases this with rfl | rfl
          · exact absurd (wd_small.1.symm.trans h2) (fun e => hw e.symm)
          · exact absurd (wd_small.2.symm.trans h2) (fun e => hw e.symm)
        · exact h
      exact absurd h2 (lastW_none 18 h0 k this h1)
  · obtain ⟨h1, h2, h3⟩ := lastW_back 18 h0
    cases hf : findW w s 18 with
    | none =>
      rw [if_neg (fun e => findW_none hf _ h2 ⟨h3, e⟩)]
    | some k =>
      obtain ⟨k1, k2, k3⟩ := findW_back hf
      have e : lastW w 18 = k := by
        have := wd_inj ⟨lastW w 18, h2⟩ ⟨k, k1⟩ h1 (by dsimp only; rw [h3, k2])
        exact congrArg Fin.val this
      rw [e, if_pos k3]
/-- The op that the document's answer takes a token for. -/
def opW (w : List UInt8) : Nat := if lastW w 18 = 0 then (match ratW w with | some _ => 1 | none => 0) else lastW w 18
/-- A ratio's text is no word. -/
theorem rat_word {w : List UInt8} {x y : Int} (h : ratW w = some (x, y)) : lastW w 18 = 0 := by
  rcases Nat.eq_zero_or_pos (lastW w 18) with h0 | h0
  · exact h0
  · obtain ⟨h1, h2, h3⟩ := lastW_back (w := w) 18 (by omega)
    obtain ⟨_, _, _, e⟩ := ratW_some h
    have : ∀ k : Fin 18, 2 ≤ k.val → ratW (wdN k.val) = none := by decide +kernel
    rw [← h3, this ⟨lastW w 18, h2⟩ h1] at h
    cases h
/-- The node with which a term begins. -/
def nodW (w : List UInt8) : Nd := match ratW w with
  | some (x, y) => ⟨1, 0, 0, x, y⟩
  | none => ⟨opW w, 0, 0, 0, 0⟩
theorem opW_lt (w : List UInt8) : opW w < 18 := by
  unfold opW
  split
  · split <;> omega
  · exact (lastW_back 18 (by assumption)).2.1
/-- What the machine answers of a term's first token. -/
theorem take_first {s : Nat} (hs : s = 1 ∨ s = 2) {w : List UInt8} (hw : w ≠ []) (N : List Nd) (o : Int) (D : List Nat) :
    takeM ⟨N, o, s :: D⟩ w = if opW w = 0 ∨ mkT.getD (opW w) 0 ≠ s then (13, ⟨N, o, D⟩) else begM (nodW w) (opW w) ⟨N, o, D⟩ := by
  have word : ratW w = none → wordM s w ⟨N, o, D⟩ = if opW w = 0 ∨ mkT.getD (opW w) 0 ≠ s then (13, ⟨N, o, D⟩) else begM (nodW w) (opW w) ⟨N, o, D⟩ := fun hr => by
    have eo : opW w = lastW w 18 := by
      unfold opW
      rw [hr]
      split
      · rename_i h; rw [h]
      · rfl
    unfold wordM nodW
    rw [find_last hw s (by omega), eo, hr]
    by_cases c : mkT.getD (lastW w 18) 0 = s
    · rw [if_pos c, if_neg]
      intro h
      rcases h with h | h
      · rw [h] at c
        have : (0 : Nat) = s := c
        omega
      · exact h c
    · rw [if_neg c, if_pos (.inr c)]
  rcases hs with rfl | rfl
  · show obsM w ⟨N, o, D⟩ = _
    unfold obsM
    cases hr : ratW w with
    | none => exact word hr
    | some p =>
      obtain ⟨x, y⟩ := p
      have h0 := rat_word hr
      have eo : opW w = 1 := by unfold opW; rw [if_pos h0, hr]
      rw [eo, if_neg (by decide)]
      unfold nodW; rw [hr]
  · show wordM 2 w ⟨N, o, D⟩ = _
    cases hr : ratW w with
    | none => exact word hr
    | some p =>
      obtain ⟨x, y⟩ := p
      have h0 := rat_word hr
      have eo : opW w = 1 := by unfold opW; rw [if_pos h0, hr]
      rw [eo, if_pos (.inr (by decide))]
      unfold wordM
      rw [find_last hw 2 (by decide), h0]
      rfl

end Go.Proofs.YtdmdgoeacafpiaaGreatDoor

namespace Go.Proofs.YtdmdgoeacafpiaaGreatDoor
open Go.Lib
set_option linter.unusedVariables false
set_option linter.unusedSimpArgs false

theorem uint_val : ∀ (l : List UInt8) (a u : Nat), parseUint10 a l = .ok u → u = digV a l
  | [], a, u, h => by unfold parseUint10 at h; injection h with h; exact h.symm
  | c :: r, a, u, h => by
    unfold parseUint10 at h
    split at h
    · split at h
      · cases h
      · split at h
        · cases h
        · exact uint_val r _ u h
    · cases h
theorem atoi_val {c : UInt8} {r : List UInt8} {v : Int} (hd : isDg c = true) (h : atoiAll (c :: r) = .ok v) : v = (digV 0 (c :: r) : Int) := by
  have hs := isDg_iff.1 hd
  rw [atoiAll_plain c r (by omega) (by omega)] at h
  cases e : parseMag (c :: r)
  · rename_i u
    rw [e] at h
    unfold signless at h
    simp only [] at h
    split at h
    · cases h
    · injection h with h
      unfold parseMag at e
      rw [if_neg (by simp)] at e
      rw [← h, uint_val _ _ _ e]
  · rw [e] at h; cases h
  · rw [e] at h; cases h
/-- Three digits, no 0 ahead: no key. -/
theorem key_far {w : List UInt8} (hc : cntK w = true) (hl : 3 ≤ w.length) : keyW w = (10, 0) := by
  match w, hl with
  | c :: d :: e :: r, _ =>
    have h1 : (c :: d :: e :: r : List UInt8) ≠ [48] := by simp
    unfold cntK at hc
    rw [show ((c :: d :: e :: r : List UInt8) == [48]) = false from beq_false_of_ne h1, Bool.false_or, Bool.and_eq_true] at hc
    obtain ⟨hp, hd⟩ := hc
    have hc0 : c ≠ 48 := by
      intro h
      subst h
      revert hp
      simp [hasPrefix]
    rw [List.all_cons, Bool.and_eq_true] at hd
    have hcd := isDg_iff.1 hd.1
    have hc1 : c.toNat ≠ 48 := fun h => hc0 (UInt8.toNat_inj.1 h)
    have hk : cntK (c :: d :: e :: r) = true := by
      unfold cntK
      rw [Bool.or_eq_true, Bool.and_eq_true]
      exact .inr ⟨hp, by rw [List.all_cons, Bool.and_eq_true]; exact hd⟩
    unfold keyW
    rw [if_pos hk]
    cases ha : atoiAll (c :: d :: e :: r) with
    | ok v =>
      have hv := atoi_val hd.1 ha
      have hg : 100 ≤ digV 0 (c :: d :: e :: r) := by
        show 100 ≤ digV _ r
        refine Nat.le_trans ?_ (digV_ge r _)
        omega
      dsimp only
      rw [if_pos (by omega)]
    | _ => rfl
theorem two_all : ∀ n : Fin 100, 64 ≤ n.val → keyW (if n.val < 10 then [UInt8.ofNat (48 + n.val)] else [UInt8.ofNat (48 + n.val / 10), UInt8.ofNat (48 + n.val % 10)]) = (10, 0) := by decide
theorem itoa_99 {n : Nat} (h : n ≤ 99) : itoa (n : Int) = if n < 10 then [UInt8.ofNat (48 + n)] else [UInt8.ofNat (48 + n / 10), UInt8.ofNat (48 + n % 10)] := by
  by_cases h10 : n < 10
  · rw [if_pos h10, itoa_small (by omega) (by omega)]; simp
  · rw [if_neg h10, itoa_more (by omega), itoa_small (by omega) (by omega)]
    simp
    constructor
    · congr 2
    · congr 2
theorem keyW_two {n : Nat} (h : n ≤ 99) : keyW (itoa (n : Int)) = if 63 < n then (10, 0) else (0, (n : Int)) := by
  by_cases c : 63 < n
  · rw [if_pos c, itoa_99 h]; exact two_all ⟨n, by omega⟩ c
  · rw [if_neg c]; exact keyW_itoa (by omega) (by omega)
theorem dg_of {c : UInt8} (h : isDg c = true) : ∃ n, n < 10 ∧ c = UInt8.ofNat (48 + n) := by
  have := isDg_iff.1 h
  refine ⟨c.toNat - 48, by omega, ?_⟩
  rw [show 48 + (c.toNat - 48) = c.toNat by omega, UInt8.ofNat_toNat]
/-- One digit, or two, no 0 ahead: a numeral. -/
theorem key_near {w : List UInt8} (hn : w ≠ []) (hc : cntK w = true) (hl : w.length < 3) : ∃ n : Nat, n ≤ 99 ∧ w = itoa (n : Int) := by
  match w, hn, hl with
  | [c], _, _ =>
    have hd : isDg c = true := by
      unfold cntK at hc
      rw [Bool.or_eq_true, Bool.and_eq_true] at hc
      rcases hc with h | h
      · have := eq_of_beq h
        injection this with this _
        subst this; decide
      · simpa using h.2
    obtain ⟨n, h1, rfl⟩ := dg_of hd
    exact ⟨n, by omega, by rw [itoa_99 (by omega), if_pos h1]⟩
  | [c, d], _, _ =>
    unfold cntK at hc
    rw [show (([c, d] : List UInt8) == [48]) = false by simp, Bool.false_or, Bool.and_eq_true] at hc
    obtain ⟨hp, hd⟩ := hc
    rw [List.all_cons, Bool.and_eq_true] at hd
    obtain ⟨n, h1, rfl⟩ := dg_of hd.1
    obtain ⟨k, h2, rfl⟩ := dg_of (c := d) (by simpa using hd.2)
    have hn0 : n ≠ 0 := by
      intro h
      subst h
      revert hp
      simp [hasPrefix]
    refine ⟨n * 10 + k, by omega, ?_⟩
    rw [itoa_99 (by omega), if_neg (by omega), show (n * 10 + k) / 10 = n by omega, show (n * 10 + k) % 10 = k by omega]
  | _ :: _ :: _ :: _, _, h => exact absurd h (by simp)
/-- What bytes are of a key. -/
theorem cnt_iff {w : List UInt8} (hn : w ≠ []) : cntK w = true ↔ w.all isDg = true ∧ ¬ (1 < w.length ∧ w.head? = some 48) := by
  match w, hn with
  | [c], _ =>
    unfold cntK
    constructor
    · intro h
      refine ⟨?_, by simp⟩
      rw [Bool.or_eq_true, Bool.and_eq_true] at h
      rcases h with h | h
      · rw [eq_of_beq h]; decide
      · exact h.2
    · intro h
      rw [Bool.or_eq_true, Bool.and_eq_true]
      by_cases c0 : c = 48
      · exact .inl (by rw [c0]; decide)
      · exact .inr ⟨by simp [hasPrefix, List.isPrefixOf, Ne.symm c0], h.1⟩
  | c :: d :: r, _ =>
    unfold cntK
    rw [show ((c :: d :: r : List UInt8) == [48]) = false by simp, Bool.false_or, Bool.and_eq_true]
    by_cases c0 : c = 48
    · subst c0; simp [hasPrefix]
    · simp [hasPrefix, List.isPrefixOf, c0, Ne.symm c0]

end Go.Proofs.YtdmdgoeacafpiaaGreatDoor

namespace Go.Proofs.YtdmdgoeacafpiaaGreatDoor
open Go.RowKit Go.Lib
set_option linter.unusedVariables false
set_option linter.unusedSimpArgs false

/-- The reader in memory: its block, its slices. -/
structure RdK (w : World) (P : Nat → Prop) (B : Nat) (K : List Tk) (z n e : Nat) (vk vt : Value) (T : List Nd) : Prop where
  c0 : w.cell? ⟨B, 0, none⟩ = some vk
  c1 : w.cell? ⟨B, 1, none⟩ = some (.int .i64 (n : Nat))
  c2 : w.cell? ⟨B, 2, none⟩ = some (.int .i64 (e : Nat))
  c3 : w.cell? ⟨B, 3, none⟩ = some vt
  c4 : w.cell? ⟨B, 4, none⟩ = some (.int .i64 (z : Nat))
  fr : ∀ i, w.frozen? ⟨B, i, none⟩ = false
  hk : OwnK w 0 vk K
  ht : OwnN w 0 vt T
  bk : ∀ k, vk.ownBlock = some k → P k ∧ k < B
  bt : ∀ k, vt.ownBlock = some k → k ≠ B ∧ ¬ P k
  nb : ¬ P B
  lt : ∀ k, P k → k < w.heap.size
def RdM (w : World) (P : Nat → Prop) (B : Nat) (K : List Tk) (z n e : Nat) (T : List Nd) : Prop := ∃ vk vt, RdK w P B K z n e vk vt T
theorem RdK.blt {w : World} {P : Nat → Prop} {B : Nat} {K : List Tk} {z n e : Nat} {vk vt : Value} {T : List Nd} (h : RdK w P B K z n e vk vt T) : B < w.heap.size := ltT h.c0
theorem RdM.blt {w : World} {P : Nat → Prop} {B : Nat} {K : List Tk} {z n e : Nat} {T : List Nd} (h : RdM w P B K z n e T) : B < w.heap.size := by
  obtain ⟨_, _, h⟩ := h
  exact h.blt
theorem RdM.lt {w : World} {P : Nat → Prop} {B : Nat} {K : List Tk} {z n e : Nat} {T : List Nd} (h : RdM w P B K z n e T) : ∀ k, P k → k < w.heap.size := by
  obtain ⟨_, _, h⟩ := h
  exact h.lt
theorem RdK.grown {w w' : World} {P : Nat → Prop} {B : Nat} {K : List Tk} {z n e : Nat} {vk vt : Value} {T : List Nd} (h : RdK w P B K z n e vk vt T) {row : Option Nat} (hg : w.grownBy w' row) (hB : row ≠ some B) (h1 : vk.ownBlock = none ∨ vk.ownBlock ≠ row) (h2 : vt.ownBlock = none ∨ vt.ownBlock ≠ row) : RdK w' P B K z n e vk vt T := by
  have hb := hg.block B h.blt (fun e => hB e.symm)
  have hc : ∀ i, w'.cell? ⟨B, i, none⟩ = w.cell? ⟨B, i, none⟩ := fun i => World.cell?_of_block hb
  exact ⟨(hc 0).trans h.c0, (hc 1).trans h.c1, (hc 2).trans h.c2, (hc 3).trans h.c3, (hc 4).trans h.c4, fun i => (World.frozen?_of_block (a := ⟨B, i, none⟩) hb).trans (h.fr i), World.ownsRow.kept h.hk hg h1, h.ht.kept hg h2, h.bk, h.bt, h.nb, fun k hk => Nat.lt_of_lt_of_le (h.lt k hk) hg.size⟩
theorem RdK.keep {w w' : World} {P : Nat → Prop} {B : Nat} {K : List Tk} {z n e : Nat} {vk vt : Value} {T : List Nd} (h : RdK w P B K z n e vk vt T) (hb : Below w.heap.size w w') : RdK w' P B K z n e vk vt T := h.grown (grown_none hb) (by simp) own_ne_none own_ne_none
theorem RdM.keep {w w' : World} {P : Nat → Prop} {B : Nat} {K : List Tk} {z n e : Nat} {T : List Nd} (h : RdM w P B K z n e T) (hb : Below w.heap.size w w') : RdM w' P B K z n e T := by
  obtain ⟨vk, vt, h⟩ := h
  exact ⟨vk, vt, h.keep hb⟩
theorem RdK.cells_set {w : World} {P : Nat → Prop} {B : Nat} {K : List Tk} {z n e : Nat} {vk vt : Value} {T : List Nd} (h : RdK w P B K z n e vk vt T) (i : Nat) (v : Value) :
    OwnK (w.setCell ⟨B, i, none⟩ v) 0 vk K ∧ OwnN (w.setCell ⟨B, i, none⟩ v) 0 vt T ∧ (∀ j, (w.setCell ⟨B, i, none⟩ v).frozen? ⟨B, j, none⟩ = false) ∧ (∀ j, j ≠ i → (w.setCell ⟨B, i, none⟩ v).cell? ⟨B, j, none⟩ = w.cell? ⟨B, j, none⟩) ∧ (∀ k, P k → k < (w.setCell ⟨B, i, none⟩ v).heap.size) := by
  have hg := set_grown w ⟨B, i, none⟩ v
  refine ⟨World.ownsRow.kept h.hk hg (ne_row (fun j hj e => h.nb (by have := (h.bk j hj).1; rw [e] at this; exact this))), h.ht.kept hg (ne_row (fun j hj => (h.bt j hj).1)), fun j => ?_, fun j hj => cell_far (.inr (fun e => hj e.symm)), fun k hk => Nat.lt_of_lt_of_le (h.lt k hk) hg.size⟩
  rw [World.frozen?_setCell]; exact h.fr j
theorem RdK.setN {w : World} {P : Nat → Prop} {B : Nat} {K : List Tk} {z n e : Nat} {vk vt : Value} {T : List Nd} (h : RdK w P B K z n e vk vt T) (x : Int) (n' : Nat) (hx : x = (n' : Int)) : RdK (w.setCell ⟨B, 1, none⟩ (.int .i64 x)) P B K z n' e vk vt T := by
  subst hx
  obtain ⟨h1, h2, h3, h4, h5⟩ := h.cells_set 1 (.int .i64 (n' : Int))
  exact ⟨(h4 0 (by omega)).trans h.c0, cell_here h.c1, (h4 2 (by omega)).trans h.c2, (h4 3 (by omega)).trans h.c3, (h4 4 (by omega)).trans h.c4, h3, h1, h2, h.bk, h.bt, h.nb, h5⟩
theorem RdK.setE {w : World} {P : Nat → Prop} {B : Nat} {K : List Tk} {z n e : Nat} {vk vt : Value} {T : List Nd} (h : RdK w P B K z n e vk vt T) (x : Int) (e' : Nat) (hx : x = (e' : Int)) : RdK (w.setCell ⟨B, 2, none⟩ (.int .i64 x)) P B K z n e' vk vt T := by
  subst hx
  obtain ⟨h1, h2, h3, h4, h5⟩ := h.cells_set 2 (.int .i64 (e' : Int))
  exact ⟨(h4 0 (by omega)).trans h.c0, (h4 1 (by omega)).trans h.c1, cell_here h.c2, (h4 3 (by omega)).trans h.c3, (h4 4 (by omega)).trans h.c4, h3, h1, h2, h.bk, h.bt, h.nb, h5⟩
theorem RdK.setT {w : World} {P : Nat → Prop} {B : Nat} {K : List Tk} {z n e : Nat} {vk vt : Value} {T : List Nd} (h : RdK w P B K z n e vk vt T) {vt' : Value} {T' : List Nd} (ht : OwnN w 0 vt' T') (bt : ∀ k, vt'.ownBlock = some k → k ≠ B ∧ ¬ P k) : RdK (w.setCell ⟨B, 3, none⟩ vt') P B K z n e vk vt' T' := by
  obtain ⟨h1, h2, h3, h4, h5⟩ := h.cells_set 3 vt'
  exact ⟨(h4 0 (by omega)).trans h.c0, (h4 1 (by omega)).trans h.c1, (h4 2 (by omega)).trans h.c2, cell_here h.c3, (h4 4 (by omega)).trans h.c4, h3, h1, ht.kept (set_grown w ⟨B, 3, none⟩ vt') (ne_row (fun j hj => (bt j hj).1)), h.bk, bt, h.nb, h5⟩
theorem RdM.setE {w : World} {P : Nat → Prop} {B : Nat} {K : List Tk} {z n e : Nat} {T : List Nd} (h : RdM w P B K z n e T) (x : Int) (e' : Nat) (hx : x = (e' : Int)) : RdM (w.setCell ⟨B, 2, none⟩ (.int .i64 x)) P B K z n e' T := by
  obtain ⟨vk, vt, h⟩ := h
  exact ⟨vk, vt, h.setE x e' hx⟩
theorem RdM.setN {w : World} {P : Nat → Prop} {B : Nat} {K : List Tk} {z n e : Nat} {T : List Nd} (h : RdM w P B K z n e T) (x : Int) (n' : Nat) (hx : x = (n' : Int)) : RdM (w.setCell ⟨B, 1, none⟩ (.int .i64 x)) P B K z n' e T := by
  obtain ⟨vk, vt, h⟩ := h
  exact ⟨vk, vt, h.setN x n' hx⟩
theorem RdM.cells {w : World} {P : Nat → Prop} {B : Nat} {K : List Tk} {z n e : Nat} {T : List Nd} (h : RdM w P B K z n e T) : w.cell? ⟨B, 1, none⟩ = some (.int .i64 (n : Nat)) ∧ w.cell? ⟨B, 2, none⟩ = some (.int .i64 (e : Nat)) ∧ (∀ i, w.frozen? ⟨B, i, none⟩ = false) ∧ ¬ P B := by
  obtain ⟨vk, vt, h⟩ := h
  exact ⟨h.c1, h.c2, h.fr, h.nb⟩
/-- A store into the reader keeps what a call has to keep. -/
theorem RdM.kp {w0 w : World} {P : Nat → Prop} {B : Nat} {K : List Tk} {z n e : Nat} {T : List Nd} (h : RdM w P B K z n e T) (k : KpP P w0 w) (i : Nat) (v : Value) : KpP P w0 (w.setCell ⟨B, i, none⟩ v) :=
  k.trans (KpP.set w ⟨B, i, none⟩ v h.lt h.cells.2.2.2)

theorem RdM.drews {w : World} {P : Nat → Prop} {B : Nat} {K : List Tk} {z n e : Nat} {T : List Nd} (h : RdM w P B K z n e T) : RdM w.drew P B K z n e T := h.keep (Below.drew (Below.refl _ _))
theorem KpP.drews {P : Nat → Prop} {w0 w : World} (h : KpP P w0 w) {B : Nat} {K : List Tk} {z n e : Nat} {T : List Nd} (H : RdM w0 P B K z n e T) : KpP P w0 w.drew := h.trans (KpP.of (Below.drew (Below.refl _ _)) (fun j hj => Nat.lt_of_lt_of_le (H.lt j hj) h.size))

/-- The text of a token; none: nothing. -/
def tkW (K : List Tk) (n : Nat) : List UInt8 := (K.getD n default).2
theorem tkW_none {K : List Tk} {n : Nat} (h : ¬ n < K.length) : tkW K n = [] := by
  unfold tkW
  rw [List.getD_eq_getElem?_getD, List.getElem?_eq_none (by omega)]; rfl

set_option maxHeartbeats 1000000 in
set_option maxRecDepth 100000 in
theorem rnext_any (P : Nat → Prop) (B : Nat) (K : List Tk) (z n e : Nat) (T : List Nd) (hn : n ≤ 100000) (w : World) (h : RdM w P B K z n e T) :
    Calls Tryz.prog 20 #[.pointer (some ⟨B, 0, none⟩)] w fun en w' => en = .returned (.string ⟨(tkW K n).toArray⟩) ∧ RdM w' P B K z (n + 1) (if n < K.length then e else 13) T ∧ KpP P w w' := by
  have HM := Lib.hid h
  obtain ⟨vk, vt, h⟩ := h
  have H := Lib.hid h
  have hlt := h.blt
  have hfr := h.fr
  obtain ⟨a, cap, rfl⟩ := h.hk.slice
  have c0 := h.c0
  have c1 := h.c1
  have f1 := hfr 1
  have f2 := hfr 2
  have n1 : (n : Int) + 1 ≤ 9223372036854775807 := by omega
  have n0 : (0 : Int) ≤ (n : Int) + 1 := by omega
  have n2 : (n : Int) + 1 - 1 = (n : Int) := by omega
  have h1 := h.setN ((n : Int) + 1) (n + 1) (by omega)
  have d0 := h1.c0
  have d1 := h1.c1
  have d2 := h1.c2
  have g2 := h1.fr 2
  have HN := Lib.hid (HM.out.setN ((n : Int) + 1) (n + 1) (by omega))
  have HKp := Lib.hid (HM.out.kp (KpP.refl P w) 1 (.int .i64 ((n : Int) + 1)))
  rw [show ((n + 1 : Nat) : Int) = (n : Int) + 1 by omega] at d1
  clear h1
  by_cases c : n < K.length
  · have p1 : ¬ (K.length : Int) < (n : Int) + 1 := by omega
    have p2 : (0 : Int) ≤ (n : Int) := by omega
    have p3 : (n : Int) < (K.length : Int) := by omega
    obtain ⟨g, cap', hv, hcp, hcm, _, k0, _⟩ := h.hk.get c
    injection hv with hv1 hv2 hv3
    subst hv1 hv3
    have hgB : g ≠ B := fun e => h.nb (e ▸ (h.bk g rfl).1)
    have k0' : (w.setCell ⟨B, 1, none⟩ (.int .i64 ((n : Int) + 1))).cell? ⟨g, n * 2, none⟩ = some (.string ⟨(tkW K n).toArray⟩) := (cell_far (.inl (fun e => hgB e.symm))).trans k0
    rw [if_pos c]
    clear h hfr k0
    go_enter Tryz.func20, Tryz.ntmps20
    go_wp2_with fail
    generalize w.setCell ⟨B, 1, none⟩ (.int .i64 ((n : Int) + 1)) = W1 at *
    clear c0 c1 n0 n1
    go_region
    go_wp2_with fail
    go_region
    go_wp2_with fail
    go_ret
    exact ⟨rfl, HN.out.drews.drews, (HKp.out.drews HM.out).drews HM.out⟩
  · have p1 : (K.length : Int) < (n : Int) + 1 := by omega
    rw [if_neg c, tkW_none c]
    clear h hfr
    go_enter Tryz.func20, Tryz.ntmps20
    go_wp2_with fail
    generalize w.setCell ⟨B, 1, none⟩ (.int .i64 ((n : Int) + 1)) = W1 at *
    clear c0 c1 n0 n1
    go_region
    go_wp2_with fail
    go_ret
    exact ⟨rfl, HN.out.drews.setE _ 13 rfl, HN.out.drews.kp (HKp.out.drews HM.out) _ _⟩

set_option maxHeartbeats 1000000 in
set_option maxRecDepth 100000 in
theorem rmark_bad (P : Nat → Prop) (B : Nat) (K : List Tk) (z n e : Nat) (T : List Nd) (c : UInt8) (he : e ≠ 0) (w : World) (h : RdM w P B K z n e T) :
    Calls Tryz.prog 28 #[.pointer (some ⟨B, 0, none⟩), .string ⟨#[c]⟩] w fun en w' => en = .returned (.tuple #[]) ∧ w = w' := by
  have c2 := h.cells.2.1
  have e0 : ¬ (e : Int) = 0 := by omega
  clear h he
  go_enter Tryz.func28, Tryz.ntmps28
  go_wp2_with fail
  go_end0
  exact ⟨rfl, rfl⟩
set_option maxHeartbeats 1000000 in
set_option maxRecDepth 100000 in
theorem rmark_any (P : Nat → Prop) (B : Nat) (K : List Tk) (z n : Nat) (T : List Nd) (c : UInt8) (hn : n ≤ 100000) (w : World) (h : RdM w P B K z n 0 T) :
    Calls Tryz.prog 28 #[.pointer (some ⟨B, 0, none⟩), .string ⟨#[c]⟩] w fun en w' => en = .returned (.tuple #[]) ∧ RdM w' P B K z (n + 1) (if tkW K n = [c] then 0 else 13) T ∧ KpP P w w' := by
  have c2 := h.cells.2.1
  have HX := Lib.hid (rnext_any P B K z n 0 T hn w h)
  by_cases q : tkW K n = [c]
  · have hl : n < K.length := by
      rcases Nat.lt_or_ge n K.length with h | h
      · exact h
      · rw [tkW_none (by omega)] at q; cases q
    rw [if_pos hl, q] at HX
    rw [if_pos q]
    clear h hl q
    go_enter Tryz.func28, Tryz.ntmps28
    go_wp2_with fail
    refine (HX.out).mono ?_
    rintro en w1 ⟨rfl, hm, hk⟩
    have HM := Lib.hid hm
    have HK := Lib.hid hk
    clear hm hk HX c2
    go_wp2_with fail
    go_end0
    exact ⟨rfl, HM.out, HK.out⟩
  · rw [if_neg q]
    have q' : ¬ (⟨(tkW K n).toArray⟩ : ByteArray) = ⟨#[c]⟩ := fun e => q (by
      have := congrArg (fun b : ByteArray => b.data.toList) e
      simpa using this)
    have q2 : (tkW K n == [c]) = false := beq_false_of_ne q
    clear h
    generalize tkW K n = tk at *
    go_enter Tryz.func28, Tryz.ntmps28
    go_wp2_with fail
    refine (HX.out).mono ?_
    rintro en w1 ⟨rfl, hm, hk⟩
    have HM := Lib.hid hm
    have HK := Lib.hid hk
    obtain ⟨_, c2', fr, _⟩ := hm.cells
    have f2 := fr 2
    clear hm hk HX fr c2
    go_wp2_with fail
    go_end0
    exact ⟨rfl, HM.out.setE _ 13 rfl, HM.out.kp HK.out _ _⟩

set_option maxHeartbeats 1000000 in
set_option maxRecDepth 100000 in
/-- Where the token begins that was read last. -/
theorem rplace_any (P : Nat → Prop) (B : Nat) (K : List Tk) (z n e : Nat) (T : List Nd) (hn : n ≤ 100000) (w : World) (h : RdM w P B K z (n + 1) e T) :
    Calls Tryz.prog 14 #[.pointer (some ⟨B, 0, none⟩)] w fun en w' => en = .returned (.int .i64 ((if n < K.length then (K.getD n default).1 else z : Nat) : Int)) ∧ Below w.heap.size w w' := by
  obtain ⟨vk, vt, h⟩ := h
  obtain ⟨a, cap, rfl⟩ := h.hk.slice
  have c0 := h.c0
  have c1 := h.c1
  have c4 := h.c4
  have e1 : ((n + 1 : Nat) : Int) = (n : Int) + 1 := by omega
  rw [e1] at c1
  have n2 : (n : Int) + 1 - 1 = (n : Int) := by omega
  by_cases c : n < K.length
  · have p1 : ¬ (K.length : Int) < (n : Int) + 1 := by omega
    have p2 : (0 : Int) ≤ (n : Int) := by omega
    have p3 : (n : Int) < (K.length : Int) := by omega
    obtain ⟨g, cap', hv, hcp, hcm, _, _, k1⟩ := h.hk.get c
    injection hv with hv1 hv2 hv3
    subst hv1 hv3
    rw [if_pos c]
    clear h e1
    generalize (K.getD n default).1 = pl at *
    go_enter Tryz.func14, Tryz.ntmps14
    go_wp2_with fail
    go_region
    go_wp2_with fail
    go_region
    go_wp2_with fail
    go_ret
    exact ⟨rfl, Below.drew (Below.drew (Below.refl _ _))⟩
  · have p1 : (K.length : Int) < (n : Int) + 1 := by omega
    rw [if_neg c]
    clear h e1
    go_enter Tryz.func14, Tryz.ntmps14
    go_wp2_with fail
    go_region
    go_wp2_with fail
    go_ret
    exact ⟨rfl, Below.drew (Below.refl _ _)⟩

end Go.Proofs.YtdmdgoeacafpiaaGreatDoor

namespace Go.Proofs.YtdmdgoeacafpiaaGreatDoor
open Go.Lib
set_option linter.unusedVariables false
set_option linter.unusedSimpArgs false

/-- In which step a field is read. -/
def stF (f : Nat) : Nat := if f = 7 then 1 else if f = 6 then 2 else f - 5
/-- What of a term's fields is left. -/
def remF (j k : Nat) : List Nat := (fdN k).filter fun f => decide (j < stF f)
theorem remF_start : ∀ k : Fin 18, remF 0 k.val = fdN k.val := by decide
theorem remF_end : ∀ k : Fin 18, remF 4 k.val = [] := by decide
theorem remF_key : ∀ k : Fin 18, remF 0 k.val = if k.val = 2 ∨ k.val = 16 ∨ k.val = 17 then 7 :: remF 1 k.val else remF 1 k.val := by decide
theorem remF_name : ∀ k : Fin 18, remF 1 k.val = if k.val = 10 then 6 :: remF 2 k.val else remF 2 k.val := by decide
theorem remF_day : ∀ k : Fin 18, remF 2 k.val = if k.val = 14 then 8 :: remF 3 k.val else remF 3 k.val := by decide
theorem remF_unt : ∀ k : Fin 18, remF 3 k.val = if k.val = 17 then 9 :: remF 4 k.val else remF 4 k.val := by decide

/-- Something is wrong. -/
def BadS (W : List (List UInt8)) (n e : Nat) : Prop := e ≠ 0 ∧ ∃ j, n = j + 1 ∧ Wr W j e
/-- Between a term's fields. -/
def FldS (W : List (List UInt8)) (k : Nat) (D : List Nat) (o : Int) (N : List Nd) (j n e : Nat) (nd : Nd) : Prop :=
  (e = 0 ∧ ∃ m, Gd W n m ∧ m.N = N ++ [nd] ∧ m.o = o ∧ m.D = remF j k ++ (bhK (kdT.getD k []) 3 ++ D)) ∨ BadS W n e
theorem FldS.same {W : List (List UInt8)} {k : Nat} {D : List Nat} {o : Int} {N : List Nd} {i j n e : Nat} {nd : Nd} (h : FldS W k D o N i n e nd) (hr : remF i k = remF j k) : FldS W k D o N j n e nd := by
  unfold FldS at h ⊢
  rw [← hr]; exact h
theorem FldS.bad {W : List (List UInt8)} {k : Nat} {D : List Nat} {o : Int} {N : List Nd} {i n e : Nat} {nd : Nd} (h : FldS W k D o N i n e nd) (he : e ≠ 0) (j : Nat) (nd' : Nd) : FldS W k D o N j n e nd' := by
  rcases h with ⟨h, _⟩ | h
  · exact absurd h he
  · exact .inr h
/-- No token is left. -/
theorem FldS.noMore {W : List (List UInt8)} {k : Nat} {D : List Nat} {o : Int} {N : List Nd} {i n f : Nat} {nd : Nd} {R : List Nat} (h : FldS W k D o N i n 0 nd) (hr : remF i k = f :: R) (hn : ¬ n < W.length) (j : Nat) (nd' : Nd) : FldS W k D o N j (n + 1) 13 nd' := by
  rcases h with ⟨_, m, h1, h2, h3, h4⟩ | h
  · exact .inr ⟨by decide, n, rfl, (h1.stop hn (by rw [h4, hr]; simp)).2⟩
  · exact absurd rfl h.1
theorem FldS.step {W : List (List UInt8)} {k : Nat} {D : List Nat} {o : Int} {N : List Nd} {i j n f e' : Nat} {nd nd' : Nd} (h : FldS W k D o N i n 0 nd) (hr : remF i k = f :: remF j k) (hn : n < W.length)
    (ht : ∀ D' : List Nat, (takeM ⟨N ++ [nd], o, f :: D'⟩ W[n]).1 = e' ∧ (e' = 0 → (takeM ⟨N ++ [nd], o, f :: D'⟩ W[n]).2 = ⟨N ++ [nd'], o, D'⟩)) : FldS W k D o N j (n + 1) e' nd' := by
  rcases h with ⟨_, m, h1, h2, h3, h4⟩ | h
  · obtain ⟨mN, mo, mD⟩ := m
    dsimp only at h2 h3 h4
    subst h2 h3
    rw [hr, List.cons_append] at h4
    subst h4
    obtain ⟨t1, t2⟩ := ht (remF j k ++ (bhK (kdT.getD k []) 3 ++ D))
    by_cases c : e' = 0
    · subst c
      have := h1.next hn t1
      rw [t2 rfl] at this
      exact .inl ⟨rfl, _, this, rfl, rfl, rfl⟩
    · have := h1.bad hn (by rw [t1]; exact c)
      rw [t1] at this
      exact .inr ⟨c, n, rfl, this⟩
  · exact absurd rfl h.1
theorem FldS.key {W : List (List UInt8)} {k : Nat} {D : List Nat} {o : Int} {N : List Nd} {n : Nat} {nd : Nd} {v : Int} (h : FldS W k D o N 0 n 0 nd) (hr : remF 0 k = 7 :: remF 1 k) (hn : n < W.length) (hv : (keyW W[n]).1 = 0 → v = (keyW W[n]).2) : FldS W k D o N 1 (n + 1) (keyW W[n]).1 (setA v nd) := by
  refine h.step hr hn fun D' => ?_
  show (keyM _ _).1 = _ ∧ (_ → (keyM _ _).2 = _)
  unfold keyM
  by_cases c : (keyW W[n]).1 = 0
  · rw [if_pos c, c, hv c]
    exact ⟨rfl, fun _ => by rw [updL_app]⟩
  · rw [if_neg c]
    exact ⟨rfl, fun e => absurd e c⟩
theorem FldS.name {W : List (List UInt8)} {k : Nat} {D : List Nat} {o : Int} {N : List Nd} {n : Nat} {nd : Nd} (h : FldS W k D o N 1 n 0 nd) (hr : remF 1 k = 6 :: remF 2 k) (hn : n < W.length) (v : Int) (e' : Nat) (hv : match findK W[n] 8 with | some i => e' = 0 ∧ v = (i : Int) | none => e' = 13) : FldS W k D o N 2 (n + 1) e' (setA v nd) := by
  refine h.step hr hn fun D' => ?_
  show (nameM _ _).1 = _ ∧ (_ → (nameM _ _).2 = _)
  unfold nameM
  cases hf : findK W[n] 8 with
  | some i =>
    rw [hf] at hv
    obtain ⟨h1, h2⟩ := hv
    subst h1 h2
    exact ⟨rfl, fun _ => by dsimp only; rw [updL_app]⟩
  | none =>
    rw [hf] at hv
    dsimp only at hv ⊢
    subst hv
    exact ⟨rfl, fun e => absurd e (by decide)⟩
theorem FldS.day {W : List (List UInt8)} {k : Nat} {D : List Nat} {o : Int} {N : List Nd} {n : Nat} {nd : Nd} {v : Int} (h : FldS W k D o N 2 n 0 nd) (hr : remF 2 k = 8 :: remF 3 k) (hn : n < W.length) (hv : (dayW W[n]).2.toNat = 0 → v = (dayW W[n]).1) : FldS W k D o N 3 (n + 1) (dayW W[n]).2.toNat (setA v nd) := by
  refine h.step hr hn fun D' => ⟨rfl, fun e => ?_⟩
  show (⟨updL _ _, _, _⟩ : Mc) = _
  rw [updL_app, hv e]
theorem FldS.unt {W : List (List UInt8)} {k : Nat} {D : List Nat} {o : Int} {N : List Nd} {n : Nat} {nd : Nd} {v : Int} (h : FldS W k D o N 3 n 0 nd) (hr : remF 3 k = 9 :: remF 4 k) (hn : n < W.length) (hv : (dayW W[n]).2.toNat = 0 → v = (dayW W[n]).1) : FldS W k D o N 4 (n + 1) (dayW W[n]).2.toNat (setB v nd) := by
  refine h.step hr hn fun D' => ⟨rfl, fun e => ?_⟩
  show (⟨updL _ _, _, _⟩ : Mc) = _
  rw [updL_app, hv e]

/-- Behind a term; between the terms below one. -/
def TermS (W : List (List UInt8)) (D : List Nat) (o : Int) (n e : Nat) (T : List Nd) : Prop :=
  (e = 0 ∧ ∃ m, Gd W n m ∧ m.N = T ∧ m.o = o ∧ m.D = D) ∨ BadS W n e
def KidS (W : List (List UInt8)) (ks D : List Nat) (o : Int) (i n e : Nat) (T : List Nd) : Prop :=
  TermS W (bhK (ks.drop i) (if i = 0 then 3 else 4) ++ D) (if i = 0 then o else o + 1) n e T
theorem TermS.len {W : List (List UInt8)} {D : List Nat} {o : Int} {n e : Nat} {T : List Nd} (h : TermS W D o n e T) : n ≤ W.length + 1 := by
  rcases h with ⟨_, m, h, _⟩ | ⟨_, j, rfl, _, ⟨h, _⟩ | ⟨h, _⟩⟩
  · exact Nat.le_succ_of_le h.1
  · omega
  · omega
theorem FldS.len {W : List (List UInt8)} {k : Nat} {D : List Nat} {o : Int} {N : List Nd} {i n e : Nat} {nd : Nd} (h : FldS W k D o N i n e nd) : n ≤ W.length + 1 := by
  rcases h with ⟨_, m, h, _⟩ | ⟨_, j, rfl, _, ⟨h, _⟩ | ⟨h, _⟩⟩
  · exact Nat.le_succ_of_le h.1
  · omega
  · omega
/-- The fields are read: the node is put behind the others. -/
theorem FldS.kids {W : List (List UInt8)} {k : Nat} (hk : k < 18) {D : List Nat} {o : Int} {N : List Nd} {n e : Nat} {nd : Nd} (h : FldS W k D o N 4 n e nd) : KidS W (kdT.getD k []) D o 0 n e (N ++ [nd]) := by
  rcases h with ⟨he, m, h1, h2, h3, h4⟩ | h
  · refine .inl ⟨he, m, h1, h2, h3, ?_⟩
    rw [h4, remF_end ⟨k, hk⟩]; rfl
  · exact .inr h
theorem TermS.bad {W : List (List UInt8)} {D D' : List Nat} {o o' : Int} {n e : Nat} {T : List Nd} (h : TermS W D o n e T) (he : e ≠ 0) : TermS W D' o' n e T := by
  rcases h with ⟨h, _⟩ | h
  · exact absurd h he
  · exact .inr h
/-- A mark. -/
theorem TermS.mark {W : List (List UInt8)} {p : Nat} {D : List Nat} {o o' : Int} {n : Nat} {T : List Nd} (c : UInt8) (h : TermS W (p :: D) o n 0 T) (hp : ∀ m w, partM p w m = (onlyM c w, ⟨m.N, m.o + (o' - o), m.D⟩)) : TermS W D o' (n + 1) (if W.getD n [] = [c] then 0 else 13) T := by
  rcases h with ⟨_, m, h1, h2, h3, h4⟩ | h
  · obtain ⟨mN, mo, mD⟩ := m
    dsimp only at h2 h3 h4
    subst h2 h3 h4
    by_cases hn : n < W.length
    · have hg : W.getD n [] = W[n] := by rw [List.getD_eq_getElem?_getD, List.getElem?_eq_getElem hn]; rfl
      have ht : takeM ⟨mN, mo, p :: D⟩ W[n] = (onlyM c W[n], ⟨mN, mo + (o' - mo), D⟩) := hp ⟨mN, mo, D⟩ W[n]
      rw [hg]
      by_cases q : W[n] = [c]
      · rw [if_pos q]
        have hz : (takeM ⟨mN, mo, p :: D⟩ W[n]).1 = 0 := by rw [ht]; unfold onlyM; rw [if_pos q]
        have := h1.next hn hz
        rw [ht] at this
        exact .inl ⟨rfl, _, this, rfl, by show mo + (o' - mo) = o'; omega, rfl⟩
      · rw [if_neg q]
        have hz : (takeM ⟨mN, mo, p :: D⟩ W[n]).1 = 13 := by rw [ht]; unfold onlyM; rw [if_neg q]
        have := h1.bad hn (by rw [hz]; decide)
        rw [hz] at this
        exact .inr ⟨by decide, n, rfl, this⟩
    · rw [List.getD_eq_getElem?_getD, List.getElem?_eq_none (by omega), if_neg (by simp)]
      exact .inr ⟨by decide, n, rfl, (h1.stop hn (by simp)).2⟩
  · exact absurd rfl h.1
/-- The first mark, and a comma. -/
theorem KidS.open_ {W : List (List UInt8)} {ks D : List Nat} {o : Int} {n : Nat} {T : List Nd} {i : Nat} (hi : i < ks.length) (h : KidS W ks D o i n 0 T) : TermS W (ks[i] :: (bhK (ks.drop (i + 1)) 4 ++ D)) (o + 1) (n + 1) (if W.getD n [] = [if i = 0 then 40 else 44] then 0 else 13) T := by
  unfold KidS at h
  rw [List.drop_eq_getElem_cons hi, bhK, List.cons_append, List.cons_append] at h
  by_cases c : i = 0
  · rw [if_pos c, if_pos c] at h
    rw [if_pos c]
    exact h.mark 40 (fun m w => by show (onlyM 40 w, (⟨m.N, m.o + 1, m.D⟩ : Mc)) = _; rw [show o + 1 - o = 1 by omega])
  · rw [if_neg c, if_neg c] at h
    rw [if_neg c]
    exact h.mark 44 (fun m w => by show (onlyM 44 w, m) = _; rw [show o + 1 - (o + 1) = 0 by omega, Int.add_zero])
theorem KidS.next {W : List (List UInt8)} {ks D : List Nat} {o : Int} {n e : Nat} {T : List Nd} {i : Nat} (h : TermS W (bhK (ks.drop (i + 1)) 4 ++ D) (o + 1) n e T) : KidS W ks D o (i + 1) n e T := by
  unfold KidS
  rw [if_neg (Nat.succ_ne_zero i), if_neg (Nat.succ_ne_zero i)]
  exact h
theorem KidS.noKids {W : List (List UInt8)} {D : List Nat} {o : Int} {n e : Nat} {T : List Nd} {i : Nat} (h : KidS W [] D o i n e T) (hi : i = 0) : TermS W D o n e T := by
  subst hi; exact h
theorem KidS.close {W : List (List UInt8)} {ks D : List Nat} {o : Int} {n : Nat} {T : List Nd} (h : KidS W ks D o ks.length n 0 T) (h0 : ks.length ≠ 0) : TermS W D o (n + 1) (if W.getD n [] = [41] then 0 else 13) T := by
  unfold KidS at h
  rw [if_neg h0, if_neg h0, List.drop_length] at h
  exact TermS.mark (p := 5) 41 h (fun m w => by show (onlyM 41 w, (⟨m.N, m.o - 1, m.D⟩ : Mc)) = _; rw [show m.o + (o - (o + 1)) = m.o - 1 by omega])
theorem KidS.bad {W : List (List UInt8)} {ks D D' : List Nat} {o o' : Int} {i n e : Nat} {T : List Nd} (h : KidS W ks D o i n e T) (he : e ≠ 0) : TermS W D' o' n e T := TermS.bad h he

end Go.Proofs.YtdmdgoeacafpiaaGreatDoor

namespace Go.Proofs.YtdmdgoeacafpiaaGreatDoor
open Go.RowKit Go.Lib
set_option linter.unusedVariables false
set_option linter.unusedSimpArgs false

/-- What key answers, and day: which error; the number, where there is none. -/
def FldAns (P : Nat → Prop) (B : Nat) (K : List Tk) (z n : Nat) (T : List Nd) (E : Nat) (V : Int) (w : World) (e : Ending) (w' : World) : Prop :=
  ∃ v, e = .returned (.int .i64 v) ∧ RdM w' P B K z (n + 1) E T ∧ KpP P w w' ∧ (E = 0 → v = V)
theorem all_snoc {l : List UInt8} {i : Nat} {c : UInt8} (h : l[i]? = some c) : (l.take (i + 1)).all isDg = ((l.take i).all isDg && isDg c) := by
  rw [List.take_add_one, h, List.all_append]; simp
theorem keyW_no {l : List UInt8} (h : cntK l = false) : keyW l = (13, 0) := by unfold keyW; rw [h]; rfl
set_option maxHeartbeats 1000000 in
set_option maxRecDepth 100000 in
theorem rkey_bad (P : Nat → Prop) (B : Nat) (K : List Tk) (z n e : Nat) (T : List Nd) (he : e ≠ 0) (w : World) (h : RdM w P B K z n e T) :
    Calls Tryz.prog 24 #[.pointer (some ⟨B, 0, none⟩)] w fun en w' => en = .returned (.int .i64 0) ∧ w = w' := by
  have c2 := h.cells.2.1
  have e0 : ¬ (e : Int) = 0 := by omega
  clear h he
  go_enter Tryz.func24, Tryz.ntmps24
  go_wp2_with fail
  go_ret
  exact ⟨rfl, rfl⟩
set_option maxHeartbeats 1000000 in
set_option maxRecDepth 100000 in
theorem rday_bad (P : Nat → Prop) (B : Nat) (K : List Tk) (z n e : Nat) (T : List Nd) (he : e ≠ 0) (w : World) (h : RdM w P B K z n e T) :
    Calls Tryz.prog 26 #[.pointer (some ⟨B, 0, none⟩)] w fun en w' => en = .returned (.int .i64 0) ∧ w = w' := by
  have c2 := h.cells.2.1
  have e0 : ¬ (e : Int) = 0 := by omega
  clear h he
  go_enter Tryz.func26, Tryz.ntmps26
  go_wp2_with fail
  go_ret
  exact ⟨rfl, rfl⟩
set_option maxHeartbeats 4000000 in
set_option maxRecDepth 100000 in
/-- No token is left. -/
theorem rkey_none (P : Nat → Prop) (B : Nat) (K : List Tk) (z n : Nat) (T : List Nd) (hn : n ≤ 100000) (hq : ¬ n < K.length) (w : World) (h : RdM w P B K z n 0 T) :
    Calls Tryz.prog 24 #[.pointer (some ⟨B, 0, none⟩)] w (FldAns P B K z n T 13 0 w) := by
  have c2 := h.cells.2.1
  have HX := Lib.hid (rnext_any P B K z n 0 T hn w h)
  rw [tkW_none hq, if_neg hq] at HX
  clear h hq
  go_enter Tryz.func24, Tryz.ntmps24
  go_wp2_with fail
  refine (HX.out).mono ?_
  rintro en w1 ⟨rfl, hm, hk⟩
  have HM := Lib.hid hm
  have HK := Lib.hid hk
  obtain ⟨_, c2', fr, _⟩ := hm.cells
  have f2 := fr 2
  clear hm hk HX fr c2
  go_wp2_with fail
  go_loopw [4] (fun vi wx => vi = .int .i64 0 ∧ w1 = wx) (fun _ _ => 0)
  case atStart => exact ⟨rfl, rfl⟩
  case round =>
    obtain ⟨rfl, rfl⟩ := hrel
    go_wp2_with fail
    go_ret
    exact ⟨_, rfl, HM.out.setE _ 13 rfl, HM.out.kp HK.out _ _, fun h => by cases h⟩
set_option maxHeartbeats 4000000 in
set_option maxRecDepth 100000 in
theorem rday_any (P : Nat → Prop) (B : Nat) (K : List Tk) (z n : Nat) (T : List Nd) (hn : n ≤ 100000) (hl : (tkW K n).length ≤ 3000) (w : World) (h : RdM w P B K z n 0 T) :
    Calls Tryz.prog 26 #[.pointer (some ⟨B, 0, none⟩)] w (FldAns P B K z n T (dayW (tkW K n)).2.toNat (dayW (tkW K n)).1 w) := by
  have c2 := h.cells.2.1
  have HX := Lib.hid (rnext_any P B K z n 0 T hn w h)
  have HN : Hid (formB (tkW K n) = true → n < K.length) := Lib.hid (fun hf => by
    rcases Nat.lt_or_ge n K.length with q | q
    · exact q
    · rw [tkW_none (by omega)] at hf; cases hf)
  have HR := Lib.hid (fun w' : World => readr_any ⟨(tkW K n).toArray⟩ (by rw [size_len]; show (tkW K n).length ≤ _; omega) w')
  rw [show (⟨(tkW K n).toArray⟩ : ByteArray).data.toList = tkW K n from rfl] at HR
  generalize tkW K n = l at *
  clear h hl
  go_enter Tryz.func26, Tryz.ntmps26
  go_wp2_with fail
  refine (HX.out).mono ?_
  rintro en w1 ⟨rfl, hm, hk⟩
  have HM := Lib.hid hm
  have HK := Lib.hid hk
  clear hm hk HX c2
  go_wp2_with fail
  refine (HR.out _).mono ?_
  rintro en w2 ⟨⟨x, y, q, b, rfl, hb, hv⟩, hb2⟩
  have HM2 := Lib.hid (HM.out.keep hb2)
  have HK2 := Lib.hid (HK.out.trans (KpP.of hb2 HM.out.lt))
  have HM3 := Lib.hid (HM2.out.keep (newB w2 (.cells #[.int .i64 x, .int .i64 y, .int .i64 q] 82)))
  have HK3 := Lib.hid (HK2.out.trans (KpP.of (newB w2 (.cells #[.int .i64 x, .int .i64 y, .int .i64 q] 82)) HM2.out.lt))
  obtain ⟨_, c2', fr, _⟩ := HM3.out.cells
  have f2 := fr 2
  have HV := Lib.hid hv
  have Hb := Lib.hid hb
  clear hb2 hv hb HR HM HK HM2 HK2 fr
  cases b with
  | false =>
    have hD : dayW l = (0, 13) := by unfold dayW parN; rw [← Hb.out]; rfl
    have hE : (dayW l).2.toNat = 13 := by rw [hD]; rfl
    have HE := Lib.hid hE
    clear hE
    clear hD HN HV Hb
    go_wp2_with fail
    go_ret
    unfold FldAns
    rw [HE.out]
    exact ⟨_, rfl, HM3.out.setE _ 13 rfl, HM3.out.kp HK3.out _ _, fun h => by cases h⟩
  | true =>
    obtain ⟨rfl, rfl, rfl⟩ := HV.out rfl
    have hnl := HN.out Hb.out.symm
    have HM4 : Hid _ := HM3
    rw [if_pos hnl] at HM4
    by_cases hd : IsDate (yOf l) (mOf l) (dOf l)
    · have hD : dayW l = (((dayN (yOf l) (mOf l) (dOf l) : Nat) : Int), 0) := by
        unfold dayW parN
        rw [← Hb.out, if_pos rfl, if_pos hd]; rfl
      have HDd := Lib.hid (fun w' : World => dayr_some _ _ _ hd w')
      have HE : Hid ((dayW l).2.toNat = 0 ∧ (dayW l).1 = ((dayN (yOf l) (mOf l) (dOf l) : Nat) : Int)) := Lib.hid (by rw [hD]; exact ⟨rfl, rfl⟩)
      have d0 : ¬ ((dayN (yOf l) (mOf l) (dOf l) : Nat) : Int) < 0 := by omega
      clear hD HN HV Hb hd hnl c2' HM3
      generalize dayN (yOf l) (mOf l) (dOf l) = dd at *
      go_wp2_with fail
      refine (HDd.out _).mono ?_
      rintro en w4 ⟨rfl, hb4⟩
      have HM5 := Lib.hid (HM4.out.keep hb4)
      have HK5 := Lib.hid (HK3.out.trans (KpP.of hb4 HM4.out.lt))
      clear hb4
      go_wp2_with fail
      go_ret
      unfold FldAns
      rw [HE.out.1, HE.out.2]
      exact ⟨_, rfl, HM5.out, HK5.out, fun _ => rfl⟩
    · have hD : dayW l = (0, 10) := by
        unfold dayW parN
        rw [← Hb.out, if_pos rfl, if_neg hd]; rfl
      have HDd := Lib.hid (fun w' : World => dayr_none _ _ _ hd w')
      have HE : Hid ((dayW l).2.toNat = 10) := Lib.hid (by rw [hD]; rfl)
      clear hD HN HV Hb hd hnl c2' HM3
      go_wp2_with fail
      refine (HDd.out _).mono ?_
      rintro en w4 ⟨rfl, hb4⟩
      have HM5 := Lib.hid (HM4.out.keep hb4)
      have HK5 := Lib.hid (HK3.out.trans (KpP.of hb4 HM4.out.lt))
      obtain ⟨_, c5, fr5, _⟩ := HM5.out.cells
      have f5 := fr5 2
      clear hb4 fr5
      go_wp2_with fail
      go_ret
      unfold FldAns
      rw [HE.out]
      exact ⟨_, rfl, HM5.out.setE _ 10 rfl, HM5.out.kp HK5.out _ _, fun h => by cases h⟩
set_option maxHeartbeats 4000000 in
set_option maxRecDepth 100000 in
theorem rkey_any (P : Nat → Prop) (B : Nat) (K : List Tk) (z n : Nat) (T : List Nd) (hn : n ≤ 100000) (hq : n < K.length) (hl : (tkW K n).length ≤ 3000) (hne : tkW K n ≠ []) (w : World) (h : RdM w P B K z n 0 T) :
    Calls Tryz.prog 24 #[.pointer (some ⟨B, 0, none⟩)] w (FldAns P B K z n T (keyW (tkW K n)).1 (keyW (tkW K n)).2 w) := by
  have c2 := h.cells.2.1
  have HX := Lib.hid (rnext_any P B K z n 0 T hn w h)
  rw [if_pos hq] at HX
  have HNu : Hid (∀ w', Calls Tryz.prog 46 #[.string ⟨(tkW K n).toArray⟩] w' (NumAns (tkW K n) w')) := Lib.hid (fun w' => number_any ⟨(tkW K n).toArray⟩ (by rw [size_len]; show (tkW K n).length ≤ _; omega) w')
  generalize tkW K n = l at *
  clear h hq
  obtain ⟨s, hs⟩ : ∃ s : ByteArray, s = ⟨l.toArray⟩ := ⟨_, rfl⟩
  have hsl : s.size = l.length := by rw [hs, size_len]
  have hsb : ∀ i (hi : i < s.size), l[i]? = some s[i] := fun i hi => by
    subst hs
    rw [List.getElem?_eq_getElem (by omega)]; rfl
  rw [← hs] at HX HNu
  have HSb := Lib.hid hsb
  have HSl := Lib.hid hsl
  have hs1 : ¬ s.size = 0 := fun e => hne (List.length_eq_zero_iff.1 (by omega))
  have hse : ¬ s = ⟨#[]⟩ := fun e => hs1 (by rw [e]; rfl)
  have hss : s.size ≤ 3000 := by omega
  have hsse : s.toList.isEmpty = false := by
    rw [Lib.toList_data]
    cases e : s.data.toList.isEmpty with
    | false => rfl
    | true =>
      rw [List.isEmpty_iff] at e
      exact absurd (by rw [Lib.size_eq, e]; rfl) hs1
  have HNe := Lib.hid hne
  clear hl hne hsb hsl hs
  go_enter Tryz.func24, Tryz.ntmps24
  go_wp2_with fail
  refine (HX.out).mono ?_
  rintro en w1 ⟨rfl, hm, hk⟩
  have HM := Lib.hid hm
  have HK := Lib.hid hk
  clear hm hk HX c2
  go_wp2_with fail
  go_loopw [4] (fun vi wx => ∃ i : Nat, i ≤ s.size ∧ vi = .int .i64 i ∧ RdM wx P B K z (n + 1) (if (l.take i).all isDg = true then 0 else 13) T ∧ KpP P w wx) (fun vi _ => s.size - (RowKit.intOf vi).toNat)
  case atStart => exact ⟨0, Nat.zero_le _, rfl, HM.out, HK.out⟩
  case round =>
    obtain ⟨i, hi, rfl, hm, hk⟩ := hrel
    have HMr := Lib.hid hm
    have HKr := Lib.hid hk
    have f2 := hm.cells.2.2.1 2
    have C2 := Lib.hid hm.cells.2.1
    clear hm hk HM HK
    by_cases hlt : i < s.size
    · obtain ⟨cv, c2'⟩ : ∃ cv, wr.cell? ⟨B, 2, none⟩ = some cv := ⟨_, C2.out⟩
      clear C2
      have p0 : (0 : Int) ≤ (i : Int) := by omega
      have p1 : (i : Int) < (s.size : Int) := by omega
      have HA := Lib.hid (all_snoc (HSb.out i hlt))
      have HD := Lib.hid (isDg_iff (c := s[i]))
      by_cases g1 : s[i].toNat < 48
      · have hA : (l.take (i + 1)).all isDg = false := by
          rw [HA.out]
          cases hd : isDg s[i] with
          | true => have := (HD.out.1 hd).1; omega
          | false => simp
        have g1' : ((s[i].toNat : Nat) : Int) < 48 := by omega
        have hAh := Lib.hid hA
        clear HA HD hA g1
        go_wp2_with fail
        go_roundw
        case rel => exact ⟨i + 1, by omega, by go_num, by rw [hAh.out, if_neg (by decide)]; exact HMr.out.setE _ 13 rfl, HMr.out.kp HKr.out _ _⟩
        case measure => simp [RowKit.intOf]; omega
      · have g1' : ¬ ((s[i].toNat : Nat) : Int) < 48 := by omega
        by_cases g2 : 57 < s[i].toNat
        · have hA : (l.take (i + 1)).all isDg = false := by
            rw [HA.out]
            cases hd : isDg s[i] with
            | true => have := (HD.out.1 hd).2; omega
            | false => simp
          have g2' : 57 < ((s[i].toNat : Nat) : Int) := by omega
          have hAh := Lib.hid hA
          clear HA HD hA g1 g2
          go_wp2_with fail
          go_roundw
          case rel => exact ⟨i + 1, by omega, by go_num, by rw [hAh.out, if_neg (by decide)]; exact HMr.out.setE _ 13 rfl, HMr.out.kp HKr.out _ _⟩
          case measure => simp [RowKit.intOf]; omega
        · have g2' : ¬ 57 < ((s[i].toNat : Nat) : Int) := by omega
          have hA : (l.take (i + 1)).all isDg = (l.take i).all isDg := by
            rw [HA.out, HD.out.2 ⟨by omega, by omega⟩, Bool.and_true]
          have hAh := Lib.hid hA
          clear HA HD hA g1 g2
          go_wp2_with fail
          go_roundw
          case rel => exact ⟨i + 1, by omega, by go_num, by rw [hAh.out]; exact HMr.out, HKr.out⟩
          case measure => simp [RowKit.intOf]; omega
    · have hz : 0 < s.size := Nat.pos_of_ne_zero hs1
      have hie : i = l.length := by have := HSl.out; omega
      have p1 : ¬ (i : Int) < (s.size : Int) := by omega
      have c2' := C2.out
      clear C2
      rw [hie, List.take_length] at HMr c2'
      have z0 : (0 : Int) ≤ 0 := by omega
      have z1 : (0 : Int) < (s.size : Int) := by omega
      have HC := Lib.hid (cnt_iff HNe.out)
      have HHd : Hid (l.head? = some (s[0]'hz)) := Lib.hid (by
        rw [List.head?_eq_getElem?]; exact HSb.out 0 hz)
      cases hall : l.all isDg with
      | false =>
        have HE := Lib.hid (keyW_no (l := l) (by
          cases hc : cntK l with
          | true => rw [(HC.out.1 hc).1] at hall; cases hall
          | false => rfl))
        rw [hall, if_neg (by decide)] at HMr c2'
        clear hall hie HC HHd
        by_cases g1 : 1 < s.size
        · have g1' : 1 < (s.size : Int) := by omega
          by_cases g2 : (s[0]'hz).toNat = 48
          · have g2' : ((((s[0]'hz).toNat : Nat) : Int) == 48) = true := by rw [g2]; rfl
            go_wp2_with fail
            go_ret
            unfold FldAns
            rw [HE.out]
            exact ⟨_, rfl, HMr.out.setE _ 13 rfl, HMr.out.kp HKr.out _ _, fun h => by cases h⟩
          · have g2' : ((((s[0]'hz).toNat : Nat) : Int) == 48) = false := beq_false_of_ne (by omega)
            go_wp2_with fail
            go_ret
            unfold FldAns
            rw [HE.out]
            exact ⟨_, rfl, HMr.out, HKr.out, fun h => by cases h⟩
        · have g1' : ¬ 1 < (s.size : Int) := by omega
          go_wp2_with fail
          go_ret
          unfold FldAns
          rw [HE.out]
          exact ⟨_, rfl, HMr.out, HKr.out, fun h => by cases h⟩
      | true =>
        rw [hall, if_pos rfl] at HMr c2'
        by_cases g : 1 < s.size ∧ (s[0]'hz).toNat = 48
        · obtain ⟨g1, g2⟩ := g
          have HE := Lib.hid (keyW_no (l := l) (by
            cases hc : cntK l with
            | true =>
              refine absurd ⟨by have := HSl.out; omega, ?_⟩ (HC.out.1 hc).2
              rw [HHd.out, show s[0]'hz = 48 from UInt8.toNat_inj.1 g2]
            | false => rfl))
          have g1' : 1 < (s.size : Int) := by omega
          have g2' : ((((s[0]'hz).toNat : Nat) : Int) == 48) = true := by rw [g2]; rfl
          clear hall hie HC HHd
          go_wp2_with fail
          go_ret
          unfold FldAns
          rw [HE.out]
          exact ⟨_, rfl, HMr.out.setE _ 13 rfl, HMr.out.kp HKr.out _ _, fun h => by cases h⟩
        · have hc : cntK l = true := HC.out.2 ⟨hall, fun ⟨h1, h2⟩ => g ⟨by have := HSl.out; omega, by
            rw [HHd.out] at h2
            injection h2 with h2
            rw [h2]; rfl⟩⟩
          have HGo : ∀ Q : Prop, (1 < s.size → (((s[0]'hz).toNat : Int) == 48) = false → Q) → (¬ 1 < s.size → Q) → Q := fun Q h1 h2 => by
            by_cases q : 1 < s.size
            · exact h1 q (beq_false_of_ne (fun e => g ⟨q, by omega⟩))
            · exact h2 q
          have HG := Lib.hid HGo
          clear hall hie HC HHd HGo g
          by_cases g3 : l.length < 3
          · obtain ⟨v, hv, hlv⟩ := key_near HNe.out hc g3
            have HE : Hid (keyW l = if 63 < v then (10, 0) else (0, (v : Int))) := Lib.hid (by rw [hlv]; exact keyW_two hv)
            have HV := Lib.hid hlv
            have g3' : (s.size : Int) < 3 := by have := HSl.out; omega
            clear hlv hc g3 HNe
            have HFin : ∀ (x : Int) (b : Bool) (w2 : World), Below wr.heap.size wr w2 → (I64 x ∧ ∀ m, I64 m → l = itoa m → x = m ∧ b = true) → x = (v : Int) := fun x b w2 _ h => (h.2 v (by unfold I64; omega) HV.out).1
            have HF := Lib.hid HFin
            clear HFin
            refine HG.out _ (fun q qb => ?_) (fun q => ?_)
            · have q' : 1 < (s.size : Int) := by omega
              go_wp2_with fail
              refine (HNu.out _).mono ?_
              rintro en w2 ⟨⟨x, b, rfl, hx, hxv⟩, hb2⟩
              obtain rfl := HF.out x b w2 hb2 ⟨hx, hxv⟩
              have HM2 := Lib.hid (HMr.out.keep hb2)
              have HK2 := Lib.hid (HKr.out.trans (KpP.of hb2 HMr.out.lt))
              have c3 := HM2.out.cells.2.1
              have f3 := HM2.out.cells.2.2.1 2
              clear hxv hx hb2
              by_cases g4 : 63 < v
              · have g4' : (63 : Int) < (v : Int) := by omega
                go_wp2_with fail
                go_ret
                unfold FldAns
                rw [HE.out, if_pos g4]
                exact ⟨_, rfl, HM2.out.setE _ 10 rfl, HM2.out.kp HK2.out _ _, fun h => by cases h⟩
              · have g4' : ¬ (63 : Int) < (v : Int) := by omega
                go_wp2_with fail
                go_ret
                unfold FldAns
                rw [HE.out, if_neg g4]
                exact ⟨_, rfl, HM2.out, HK2.out, fun _ => rfl⟩
            · have q' : ¬ 1 < (s.size : Int) := by omega
              go_wp2_with fail
              refine (HNu.out _).mono ?_
              rintro en w2 ⟨⟨x, b, rfl, hx, hxv⟩, hb2⟩
              obtain rfl := HF.out x b w2 hb2 ⟨hx, hxv⟩
              have HM2 := Lib.hid (HMr.out.keep hb2)
              have HK2 := Lib.hid (HKr.out.trans (KpP.of hb2 HMr.out.lt))
              have c3 := HM2.out.cells.2.1
              have f3 := HM2.out.cells.2.2.1 2
              clear hxv hx hb2
              by_cases g4 : 63 < v
              · have g4' : (63 : Int) < (v : Int) := by omega
                go_wp2_with fail
                go_ret
                unfold FldAns
                rw [HE.out, if_pos g4]
                exact ⟨_, rfl, HM2.out.setE _ 10 rfl, HM2.out.kp HK2.out _ _, fun h => by cases h⟩
              · have g4' : ¬ (63 : Int) < (v : Int) := by omega
                go_wp2_with fail
                go_ret
                unfold FldAns
                rw [HE.out, if_neg g4]
                exact ⟨_, rfl, HM2.out, HK2.out, fun _ => rfl⟩
          · have HE := Lib.hid (key_far hc (by omega))
            have g3' : ¬ (s.size : Int) < 3 := by have := HSl.out; omega
            have q' : 1 < (s.size : Int) := by have := HSl.out; omega
            have q1 : 1 < s.size := by omega
            refine HG.out _ (fun q qb => ?_) (fun q => absurd q1 q)
            clear hc g3 HNe
            go_wp2_with fail
            go_ret
            unfold FldAns
            rw [HE.out]
            exact ⟨_, rfl, HMr.out.setE _ 10 rfl, HMr.out.kp HKr.out _ _, fun h => by cases h⟩

end Go.Proofs.YtdmdgoeacafpiaaGreatDoor

namespace Go.Proofs.YtdmdgoeacafpiaaGreatDoor
open Go.RowKit Go.Lib
set_option linter.unusedVariables false
set_option linter.unusedSimpArgs false

/-- A node in a block of its own. -/
structure NdB (w : World) (b : Nat) (n : Nd) : Prop where
  c0 : w.cell? ⟨b, 0, none⟩ = some (.int .i64 n.op)
  c1 : w.cell? ⟨b, 1, none⟩ = some (.int .i64 n.a)
  c2 : w.cell? ⟨b, 2, none⟩ = some (.int .i64 n.b)
  c3 : w.cell? ⟨b, 3, none⟩ = some (.int .i64 n.num)
  c4 : w.cell? ⟨b, 4, none⟩ = some (.int .i64 n.den)
  fr : ∀ i, w.frozen? ⟨b, i, none⟩ = false
theorem NdB.new (w : World) (n : Nd) (e : TypeId) : NdB (w.alloc (.cells (ndV n) e)) w.heap.size n := by
  refine ⟨?_, ?_, ?_, ?_, ?_, fun i => ?_⟩
  · rw [World.cell?_alloc_at _ _ _ _ rfl]; rfl
  · rw [World.cell?_alloc_at _ _ _ _ rfl]; rfl
  · rw [World.cell?_alloc_at _ _ _ _ rfl]; rfl
  · rw [World.cell?_alloc_at _ _ _ _ rfl]; rfl
  · rw [World.cell?_alloc_at _ _ _ _ rfl]; rfl
  · exact World.frozen?_alloc_at _ _ _ _ rfl
theorem NdB.block {w w' : World} {b : Nat} {n : Nd} (h : NdB w b n) (hb : w'.heap[b]? = w.heap[b]?) : NdB w' b n :=
  ⟨(World.cell?_of_block (a := ⟨b, 0, none⟩) hb).trans h.c0, (World.cell?_of_block (a := ⟨b, 1, none⟩) hb).trans h.c1, (World.cell?_of_block (a := ⟨b, 2, none⟩) hb).trans h.c2, (World.cell?_of_block (a := ⟨b, 3, none⟩) hb).trans h.c3, (World.cell?_of_block (a := ⟨b, 4, none⟩) hb).trans h.c4, fun i => (World.frozen?_of_block (a := ⟨b, i, none⟩) hb).trans (h.fr i)⟩
theorem NdB.set {w : World} {b : Nat} {n : Nd} (h : NdB w b n) (i : Nat) (v : Value) {n' : Nd}
    (h0 : if i = 0 then v = .int .i64 n'.op else n'.op = n.op) (h1 : if i = 1 then v = .int .i64 n'.a else n'.a = n.a) (h2 : if i = 2 then v = .int .i64 n'.b else n'.b = n.b) (h3 : if i = 3 then v = .int .i64 n'.num else n'.num = n.num) (h4 : if i = 4 then v = .int .i64 n'.den else n'.den = n.den) : NdB (w.setCell ⟨b, i, none⟩ v) b n' := by
  have key : ∀ j (x y : Int), w.cell? ⟨b, j, none⟩ = some (.int .i64 x) → (if i = j then v = .int .i64 y else y = x) → (w.setCell ⟨b, i, none⟩ v).cell? ⟨b, j, none⟩ = some (.int .i64 y) := by
    intro j x y hc hv
    by_cases e : i = j
    · subst e
      rw [if_pos rfl] at hv
      rw [cell_here hc, hv]
    · rw [if_neg e] at hv
      rw [cell_far (.inr e), hc, hv]
  refine ⟨key 0 _ _ h.c0 h0, key 1 _ _ h.c1 h1, key 2 _ _ h.c2 h2, key 3 _ _ h.c3 h3, key 4 _ _ h.c4 h4, fun j => ?_⟩
  rw [World.frozen?_setCell]; exact h.fr j

/-- A store that meets none of the reader's blocks. -/
theorem RdM.setOut {w : World} {P : Nat → Prop} {B : Nat} {K : List Tk} {z n e : Nat} {T : List Nd} (h : RdM w P B K z n e T) (a : Addr) (v : Value) (hP : P a.block) (hB : B < a.block) : RdM (w.setCell a v) P B K z n e T := by
  obtain ⟨vk, vt, h⟩ := h
  refine ⟨vk, vt, h.grown (set_grown w a v) (fun e => ?_) (ne_row (fun j hj e => ?_)) (ne_row (fun j hj e => ?_))⟩
  · injection e with e
    omega
  · have := (h.bk j hj).2
    omega
  · exact (h.bt j hj).2 (e ▸ hP)
/-- One block more to keep. -/
theorem RdM.more {w : World} {P : Nat → Prop} {B b : Nat} {K : List Tk} {z n e : Nat} {T : List Nd} (h : RdM w P B K z n e T) (o : Obj) (hb : b = w.heap.size) : RdM (w.alloc o) (fun k => P k ∨ k = b) B K z n e T := by
  obtain ⟨vk, vt, h⟩ := h
  have h2 := h.keep (newB w o)
  subst hb
  have hB := h.blt
  refine ⟨vk, vt, h2.c0, h2.c1, h2.c2, h2.c3, h2.c4, h2.fr, h2.hk, h2.ht, fun k hk => ⟨.inl (h.bk k hk).1, (h.bk k hk).2⟩, fun k hk => ⟨(h.bt k hk).1, fun hp => ?_⟩, fun hp => ?_, fun k hk => ?_⟩
  · rcases hp with hp | hp
    · exact (h.bt k hk).2 hp
    · have := (World.ownsRow.lt h.ht k hk).2
      omega
  · rcases hp with hp | hp
    · exact h.nb hp
    · omega
  · rw [World.size_alloc]
    rcases hk with hk | hk
    · have := h.lt k hk; omega
    · omega
/-- One block less to keep. -/
theorem RdM.less {w : World} {P Q : Nat → Prop} {B : Nat} {K : List Tk} {z n e : Nat} {T : List Nd} (h : RdM w Q B K z n e T) (hPQ : ∀ k, P k → Q k) (hQ : ∀ k, Q k → k < B → P k) : RdM w P B K z n e T := by
  obtain ⟨vk, vt, h⟩ := h
  exact ⟨vk, vt, h.c0, h.c1, h.c2, h.c3, h.c4, h.fr, h.hk, h.ht, fun k hk => ⟨hQ k (h.bk k hk).1 (h.bk k hk).2, (h.bk k hk).2⟩, fun k hk => ⟨(h.bt k hk).1, fun hp => (h.bt k hk).2 (hPQ k hp)⟩, fun hp => h.nb (hPQ B hp), fun k hk => h.lt k (hPQ k hk)⟩

/-- The reader and, in block b, the node; what is kept since w0. -/
structure StR (w0 w : World) (P : Nat → Prop) (B b : Nat) (K : List Tk) (z n e : Nat) (T : List Nd) (nd : Nd) : Prop where
  m : RdM w (fun k => P k ∨ k = b) B K z n e T
  nd : NdB w b nd
  kp : KpP P w0 w
  pb : ∀ k, P k → k < w0.heap.size
  lb : w0.heap.size ≤ b
  bb : B < b
theorem StR.start {w0 w : World} {P : Nat → Prop} {B : Nat} {K : List Tk} {z n e : Nat} {T : List Nd} (h : RdM w P B K z n e T) (hk : KpP P w0 w) (hP : ∀ k, P k → k < w0.heap.size) (nd : Nd) (ty : TypeId) : StR w0 (w.alloc (.cells (ndV nd) ty)) P B w.heap.size K z n e T nd :=
  ⟨h.more _ rfl, NdB.new w nd ty, hk.trans (KpP.of (newB w _) h.lt), hP, hk.size, h.blt⟩
theorem StR.npb {w0 w : World} {P : Nat → Prop} {B b : Nat} {K : List Tk} {z n e : Nat} {T : List Nd} {nd : Nd} (h : StR w0 w P B b K z n e T nd) : ¬ P b := fun hp => by
  have := h.pb b hp
  have := h.lb
  omega
/-- A call that keeps the node. -/
theorem StR.call {w0 w w' : World} {P : Nat → Prop} {B b : Nat} {K : List Tk} {z n e : Nat} {T : List Nd} {nd : Nd} (h : StR w0 w P B b K z n e T nd) {n' e' : Nat} {T' : List Nd} (hm : RdM w' (fun k => P k ∨ k = b) B K z n' e' T') (hk : KpP (fun k => P k ∨ k = b) w w') : StR w0 w' P B b K z n' e' T' nd :=
  ⟨hm, h.nd.block (hk.block b (.inr rfl)), h.kp.trans (hk.less (fun k hk => .inl hk)), h.pb, h.lb, h.bb⟩
theorem StR.below {w0 w w' : World} {P : Nat → Prop} {B b : Nat} {K : List Tk} {z n e : Nat} {T : List Nd} {nd : Nd} (h : StR w0 w P B b K z n e T nd) (hb : Below w.heap.size w w') : StR w0 w' P B b K z n e T nd :=
  h.call (h.m.keep hb) (KpP.of hb h.m.lt)
/-- A field of the node. -/
theorem StR.setNd {w0 w : World} {P : Nat → Prop} {B b : Nat} {K : List Tk} {z n e : Nat} {T : List Nd} {nd : Nd} (h : StR w0 w P B b K z n e T nd) (i : Nat) (v : Value) {n' : Nd} (hn : NdB (w.setCell ⟨b, i, none⟩ v) b n') : StR w0 (w.setCell ⟨b, i, none⟩ v) P B b K z n e T n' :=
  ⟨h.m.setOut _ _ (.inr rfl) h.bb, hn, h.kp.trans (KpP.set _ _ _ (fun k hk => Nat.lt_of_lt_of_le (h.pb k hk) h.kp.size) h.npb), h.pb, h.lb, h.bb⟩
theorem StR.setOp {w0 w : World} {P : Nat → Prop} {B b : Nat} {K : List Tk} {z n e : Nat} {T : List Nd} {op a c x y : Int} (h : StR w0 w P B b K z n e T ⟨op, a, c, x, y⟩) (v : Int) : StR w0 (w.setCell ⟨b, 0, none⟩ (.int .i64 v)) P B b K z n e T ⟨v, a, c, x, y⟩ := h.setNd 0 _ (h.nd.set 0 _ rfl rfl rfl rfl rfl)
theorem StR.setA {w0 w : World} {P : Nat → Prop} {B b : Nat} {K : List Tk} {z n e : Nat} {T : List Nd} {op a c x y : Int} (h : StR w0 w P B b K z n e T ⟨op, a, c, x, y⟩) (v : Int) : StR w0 (w.setCell ⟨b, 1, none⟩ (.int .i64 v)) P B b K z n e T ⟨op, v, c, x, y⟩ := h.setNd 1 _ (h.nd.set 1 _ rfl rfl rfl rfl rfl)
theorem StR.setB {w0 w : World} {P : Nat → Prop} {B b : Nat} {K : List Tk} {z n e : Nat} {T : List Nd} {op a c x y : Int} (h : StR w0 w P B b K z n e T ⟨op, a, c, x, y⟩) (v : Int) : StR w0 (w.setCell ⟨b, 2, none⟩ (.int .i64 v)) P B b K z n e T ⟨op, a, v, x, y⟩ := h.setNd 2 _ (h.nd.set 2 _ rfl rfl rfl rfl rfl)
theorem StR.setX {w0 w : World} {P : Nat → Prop} {B b : Nat} {K : List Tk} {z n e : Nat} {T : List Nd} {op a c x y : Int} (h : StR w0 w P B b K z n e T ⟨op, a, c, x, y⟩) (v : Int) : StR w0 (w.setCell ⟨b, 3, none⟩ (.int .i64 v)) P B b K z n e T ⟨op, a, c, v, y⟩ := h.setNd 3 _ (h.nd.set 3 _ rfl rfl rfl rfl rfl)
theorem StR.setY {w0 w : World} {P : Nat → Prop} {B b : Nat} {K : List Tk} {z n e : Nat} {T : List Nd} {op a c x y : Int} (h : StR w0 w P B b K z n e T ⟨op, a, c, x, y⟩) (v : Int) : StR w0 (w.setCell ⟨b, 4, none⟩ (.int .i64 v)) P B b K z n e T ⟨op, a, c, x, v⟩ := h.setNd 4 _ (h.nd.set 4 _ rfl rfl rfl rfl rfl)
/-- What is wrong. -/
theorem StR.setE {w0 w : World} {P : Nat → Prop} {B b : Nat} {K : List Tk} {z n e : Nat} {T : List Nd} {nd : Nd} (h : StR w0 w P B b K z n e T nd) (x : Int) (e' : Nat) (hx : x = (e' : Int)) : StR w0 (w.setCell ⟨B, 2, none⟩ (.int .i64 x)) P B b K z n e' T nd :=
  h.call (h.m.setE x e' hx) (h.m.kp (KpP.refl _ _) _ _)
/-- At the end the node's block is no one's. -/
theorem StR.out {w0 w : World} {P : Nat → Prop} {B b : Nat} {K : List Tk} {z n e : Nat} {T : List Nd} {nd : Nd} (h : StR w0 w P B b K z n e T nd) : RdM w P B K z n e T := h.m.less (fun k hk => .inl hk) (fun k hk hB => by
  rcases hk with hk | hk
  · exact hk
  · have := h.bb
    omega)

end Go.Proofs.YtdmdgoeacafpiaaGreatDoor
