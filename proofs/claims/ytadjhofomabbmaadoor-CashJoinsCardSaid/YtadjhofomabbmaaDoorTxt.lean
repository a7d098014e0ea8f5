/-
  Plain lists of bytes: decimal numerals, what strconv's Itoa and Atoi tell of them, and texts that are cut at one byte. No program.
-/
import Derived.Lib.AtoiAll
import Derived.Lib.ItoaNum
import Derived.Lib.ItoaMem
import Derived.Lib.IndexMore
import Derived.Lib.IndexBytes
import Derived.Test.YtadjhofomabbmaaDoorRefOR
import Derived.Test.YtadjhofomabbmaaDoorShelf
import Derived.Lib.LaidTab
import Derived.WalkSmall
import Derived.Lib.SlBytesConst
import Derived.Outline
import Derived.Test.YtadjhofomabbmaaDoorRatB
import Derived.Lib.SmallJoins
import Derived.WalkSpells
import Derived.Lib.AppendIntMem
import Derived.Lib.AtoiErrMem
import Derived.Test.YtadjhofomabbmaaDoorKeep
namespace Go.Proofs.YtadjhofomabbmaaDoor
open Go.Lib
set_option linter.unusedVariables false

/-- What digits spell, behind a number. -/
def digV (a : Nat) : List UInt8 → Nat
  | [] => a
  | c :: r => digV (a * 10 + (c.toNat - 48)) r
def isDg (c : UInt8) : Bool := decide (48 ≤ c.toNat) && decide (c.toNat ≤ 57)
theorem isDg_iff {c : UInt8} : isDg c = true ↔ 48 ≤ c.toNat ∧ c.toNat ≤ 57 := by unfold isDg; simp
theorem digV_append (a : Nat) : ∀ (l m : List UInt8), digV a (l ++ m) = digV (digV a l) m
  | [], _ => rfl
  | c :: r, m => digV_append _ r m
theorem digV_ge : ∀ (l : List UInt8) (a : Nat), a ≤ digV a l
  | [], a => Nat.le_refl _
  | c :: r, a => Nat.le_trans (by omega) (digV_ge r (a * 10 + (c.toNat - 48)))
theorem dg_byte {u : Nat} (h : u < 10) : (UInt8.ofNat (48 + u)).toNat = 48 + u := by
  rw [UInt8.toNat_ofNat']; omega
theorem dec_digs (u : Nat) : ∀ c ∈ decDigits u, isDg c = true := by
  induction u using Nat.strongRecOn with
  | _ u ih =>
    intro c hc
    by_cases h : u < 10
    · rw [decDigits, dif_pos h, List.mem_singleton] at hc
      subst hc
      rw [isDg_iff, dg_byte h]; omega
    · rw [decDigits, dif_neg h, List.mem_append, List.mem_singleton] at hc
      rcases hc with hc | rfl
      · exact ih (u / 10) (by omega) c hc
      · rw [isDg_iff, dg_byte (by omega)]; omega
theorem digV_dec (u : Nat) : digV 0 (decDigits u) = u := by
  induction u using Nat.strongRecOn with
  | _ u ih =>
    by_cases h : u < 10
    · rw [decDigits, dif_pos h]; show 0 * 10 + ((UInt8.ofNat (48 + u)).toNat - 48) = u; rw [dg_byte h]; omega
    · rw [decDigits, dif_neg h, digV_append, ih (u / 10) (by omega)]
      show u / 10 * 10 + ((UInt8.ofNat (48 + u % 10)).toNat - 48) = u
      rw [dg_byte (by omega)]; omega
theorem dec_ne (u : Nat) : decDigits u ≠ [] := by
  rw [decDigits]; split <;> simp
theorem parse_dec : ∀ (l : List UInt8) (a : Nat), (∀ c ∈ l, isDg c = true) → digV a l < 18446744073709551616 → parseUint10 a l = .ok (digV a l)
  | [], a, _, _ => rfl
  | c :: r, a, hd, hl => by
    have hc := isDg_iff.1 (hd c (by simp))
    have hl' : digV (a * 10 + (c.toNat - 48)) r < 18446744073709551616 := hl
    have hg := digV_ge r (a * 10 + (c.toNat - 48))
    unfold parseUint10
    rw [if_pos hc, if_neg (by omega), if_neg (by omega), parse_dec r _ (fun x hx => hd x (by simp [hx])) hl']
    rfl
theorem dec_head (u : Nat) : ∃ c r, decDigits u = c :: r ∧ isDg c = true := by
  cases h : decDigits u with
  | nil => exact absurd h (dec_ne u)
  | cons c r => exact ⟨c, r, rfl, dec_digs u c (by rw [h]; simp)⟩
theorem atoi_itoa {n : Int} (h0 : -9223372036854775808 ≤ n) (h1 : n ≤ 9223372036854775807) : atoiAll (itoa n) = .ok n := by
  unfold itoa
  by_cases hn : n < 0
  · rw [if_pos hn]
    have hp : parseMag (decDigits n.natAbs) = .ok n.natAbs := by
      unfold parseMag
      rw [if_neg (dec_ne _), parse_dec _ 0 (dec_digs _) (by rw [digV_dec]; omega), digV_dec]
    unfold atoiAll
    simp only [show (45 : UInt8).toNat = 45 from rfl, or_true, if_true, hp]
    rw [if_neg (by simp), if_neg (by omega)]
    congr 1; omega
  · rw [if_neg hn]
    obtain ⟨c, r, e, hc⟩ := dec_head n.toNat
    have hc' := isDg_iff.1 hc
    have hp : parseMag (decDigits n.toNat) = .ok n.toNat := by
      unfold parseMag
      rw [if_neg (dec_ne _), parse_dec _ 0 (dec_digs _) (by rw [digV_dec]; omega), digV_dec]
    rw [e] at hp ⊢
    have h43 : ¬ c.toNat = 43 := by omega
    have h45 : ¬ c.toNat = 45 := by omega
    unfold atoiAll
    simp only [h43, h45, or_self, if_false]
    rw [hp]
    show (if ¬ False ∧ 9223372036854775808 ≤ n.toNat then NumEnd.range else if False ∧ 9223372036854775808 < n.toNat then NumEnd.range else NumEnd.ok (n.toNat : Int)) = NumEnd.ok n
    rw [if_neg (by omega), if_neg (by simp)]
    congr 1; omega
theorem itoa_ne (n : Int) : itoa n ≠ [] := by unfold itoa; split; simp; exact dec_ne _
theorem itoa_bytes (n : Int) : ∀ c ∈ itoa n, c.toNat = 45 ∨ isDg c = true := by
  intro c hc
  unfold itoa at hc
  split at hc
  · rcases List.mem_cons.1 hc with rfl | hc
    · exact Or.inl rfl
    · exact Or.inr (dec_digs _ c hc)
  · exact Or.inr (dec_digs _ c hc)
theorem itoa_slash (n : Int) : (47 : UInt8) ∉ itoa n := by
  intro h
  rcases itoa_bytes n 47 h with h | h
  · exact absurd h (by decide)
  · exact absurd h (by decide)
theorem nDigits_le {u k : Nat} (hk : 0 < k) (h : u < 10 ^ k) : nDigits u ≤ k := by
  induction k generalizing u with
  | zero => omega
  | succ k ih =>
    by_cases h10 : u < 10
    · rw [nDigits_small h10]; omega
    · rw [nDigits_big h10]
      have hk : 0 < k := by
        rcases Nat.eq_zero_or_pos k with rfl | g
        · simp at h; omega
        · exact g
      have := ih (u := u / 10) hk (by rw [Nat.pow_succ] at h; omega)
      omega
theorem itoa_len20 {n : Int} (h0 : -9223372036854775808 ≤ n) (h1 : n ≤ 9223372036854775807) : (itoa n).length ≤ 20 := by
  unfold itoa
  split
  · rw [List.length_cons, decDigits_length]
    have := nDigits_le (u := n.natAbs) (k := 19) (by decide) (by have : (10 : Nat) ^ 19 = 10000000000000000000 := by decide
                                                                 omega)
    omega
  · rw [decDigits_length]
    have := nDigits_le (u := n.toNat) (k := 19) (by decide) (by have : (10 : Nat) ^ 19 = 10000000000000000000 := by decide
                                                                omega)
    omega
theorem itoa_inj {n m : Int} (hn : -9223372036854775808 ≤ n) (hn1 : n ≤ 9223372036854775807) (hm : -9223372036854775808 ≤ m) (hm1 : m ≤ 9223372036854775807) (h : itoa n = itoa m) : n = m := by
  have e1 := atoi_itoa hn hn1
  rw [h, atoi_itoa hm hm1] at e1
  injection e1 with e1; exact e1.symm

/-- The digits of a text, and their number less than nought. -/
def negV (l : List UInt8) : Int := -((digV 0 (l.filter isDg) : Nat) : Int)
theorem negV_nil : negV [] = 0 := rfl
theorem filter_digs {l : List UInt8} (h : ∀ c ∈ l, isDg c = true) : l.filter isDg = l := List.filter_eq_self.2 h
theorem negV_itoa (n : Int) : negV (itoa n) = if n < 0 then n else -n := by
  unfold negV itoa
  by_cases hn : n < 0
  · rw [if_pos hn, if_pos hn, List.filter_cons, if_neg (by decide), filter_digs (dec_digs _), digV_dec]; omega
  · rw [if_neg hn, if_neg hn, filter_digs (dec_digs _), digV_dec]; omega
theorem negV_snoc_dg {l : List UInt8} {c : UInt8} (h : isDg c = true) : negV (l ++ [c]) = 10 * negV l - ((c.toNat : Int) - 48) := by
  have := isDg_iff.1 h
  unfold negV
  rw [List.filter_append, show [c].filter isDg = [c] by simp [List.filter, h], digV_append]
  show -((digV 0 (l.filter isDg) * 10 + (c.toNat - 48) : Nat) : Int) = _
  omega
theorem negV_snoc_no {l : List UInt8} {c : UInt8} (h : isDg c = false) : negV (l ++ [c]) = negV l := by
  unfold negV
  rw [List.filter_append, show [c].filter isDg = [] by simp [List.filter, h], List.append_nil]
theorem negV_take_le (l : List UInt8) (k : Nat) : negV l ≤ negV (l.take k) ∧ negV (l.take k) ≤ 0 := by
  unfold negV
  have e : l.filter isDg = (l.take k).filter isDg ++ (l.drop k).filter isDg := by rw [← List.filter_append, List.take_append_drop]
  rw [e, digV_append]
  have := digV_ge ((l.drop k).filter isDg) (digV 0 ((l.take k).filter isDg))
  omega

/-- A text cut at one byte. -/
theorem cut_at {a b : List UInt8} {c : UInt8} (h : c ∉ a) : cut (a ++ c :: b) [c] = (a, b, true) := by
  have hi : index (a ++ c :: b) [c] = (a.length : Int) := by
    refine index_first (by simp) ?_ ?_
    · simp [occAt]
    · intro j hj
      have : (a ++ c :: b).drop j = a.drop j ++ c :: b := List.drop_append_of_le_length (by omega)
      unfold occAt
      rw [this]
      cases g : a.drop j with
      | nil => have := congrArg List.length g; simp at this; omega
      | cons x r =>
        have hx : x ∈ a := List.mem_of_mem_drop (i := j) (by rw [g]; simp)
        have hne : c ≠ x := fun e => h (e ▸ hx)
        show ((c == x) && List.isPrefixOf [] (r ++ c :: b)) = false
        rw [beq_false_of_ne hne]; rfl
  unfold cut
  rw [hi, if_pos (by omega)]
  simp
theorem cut_none {a : List UInt8} {c : UInt8} (h : c ∉ a) : cut a [c] = (a, [], false) := by
  have hi : index a [c] = -1 := by
    refine index_none (fun j hj => ?_)
    unfold occAt
    cases g : a.drop j with
    | nil => rfl
    | cons x r =>
      have hx : x ∈ a := List.mem_of_mem_drop (i := j) (by rw [g]; simp)
      have hne : c ≠ x := fun e => h (e ▸ hx)
      show ((c == x) && List.isPrefixOf [] r) = false
      rw [beq_false_of_ne hne]; rfl
  unfold cut
  rw [hi]; rfl
theorem cut_le (s sep : List UInt8) : (cut s sep).1.length ≤ s.length ∧ (cut s sep).2.1.length ≤ s.length := by
  unfold cut
  split
  · simp; omega
  · simp

end Go.Proofs.YtadjhofomabbmaaDoor

namespace Go.Proofs.YtadjhofomabbmaaDoor
open Go.RowKit Go.Lib
set_option linter.unusedVariables false

/-- What the library's contracts ask of its own variables. -/
structure LibW (w : World) : Prop where
  tab : Lib.TabIs Tryd.prog w "internal/strconv.uint64pow10" .u64 Lib.pow10Tab
  max : ∃ m, w.cell? ⟨2, 0, none⟩ = some (.int .i64 m)
  syn : ∃ tp p, w.var? Tryd.prog "strconv.ErrSyntax" = some #[.iface tp p]
  rng : ∃ tp p, w.var? Tryd.prog "strconv.ErrRange" = some #[.iface tp p]
theorem gPow : Tryd.prog.globalNamed "internal/strconv.uint64pow10" = some 5 := by kernel_rfl
theorem gSyn : Tryd.prog.globalNamed "strconv.ErrSyntax" = some 3 := by kernel_rfl
theorem gRng : Tryd.prog.globalNamed "strconv.ErrRange" = some 4 := by kernel_rfl
theorem lt_cell' {w : World} {b i : Nat} {v : Value} (h : w.cell? ⟨b, i, none⟩ = some v) : b < w.heap.size := by
  rcases Nat.lt_or_ge b w.heap.size with k | k
  · exact k
  · unfold World.cell? at h; rw [Array.getElem?_eq_none k] at h; cases h
theorem LibW.keep {w w' : World} (h : LibW w) (hb : Below w.heap.size w w') : LibW w' := by
  obtain ⟨h1, ⟨m, h2⟩, ⟨tp, p, h3⟩, ⟨tq, q, h4⟩⟩ := h
  refine ⟨var?_below hb gPow ?_ h1, ⟨m, (hb.cell (p := ⟨_, 0, none⟩) (lt_cell' h2)).trans h2⟩, ⟨tp, p, var?_below hb gSyn ?_ h3⟩, ⟨tq, q, var?_below hb gRng ?_ h4⟩⟩
  · exact lt_cell' (World.var?_cell gPow h1 0)
  · exact lt_cell' (World.var?_cell gSyn h3 0)
  · exact lt_cell' (World.var?_cell gRng h4 0)

theorem ret_str {a b : ByteArray} (h : a = b) : Ending.returned (.string a) = .returned (.string b) := by rw [h]
theorem str_app (x y : List UInt8) : (⟨x.toArray⟩ : ByteArray) ++ ⟨y.toArray⟩ = ⟨(x ++ y).toArray⟩ := ByteArray.mk_append_mk x y
theorem itoa_less {n : Int} (h : n < 0) : itoa n = 45 :: itoa (-n) := by
  unfold itoa
  rw [if_pos h, if_neg (by omega), show n.natAbs = (-n).toNat by omega]
theorem itoa_tens {n : Int} (h : n ≤ -10) : itoa n = itoa (n.tdiv 10) ++ itoa (-(n.tmod 10)) := by
  obtain ⟨u, rfl⟩ : ∃ u : Nat, n = -(u : Int) := ⟨n.natAbs, by omega⟩
  have h1 : (-(u : Int)).tdiv 10 = -((u / 10 : Nat) : Int) := by rw [Int.neg_tdiv, Int.tdiv_eq_ediv_of_nonneg (by omega)]; omega
  have h2 : (-(u : Int)).tmod 10 = -((u % 10 : Nat) : Int) := by rw [Int.neg_tmod, Int.tmod_eq_emod_of_nonneg (by omega)]; omega
  rw [h1, h2, Int.neg_neg, itoa_nonneg, itoa_neg _ (by omega), itoa_neg _ (by omega), decDigits, dif_neg (by omega), decDigits_one (i := u % 10) (by omega)]
  rfl
theorem tens_bd {n : Int} (h : n ≤ -10) (h0 : -9223372036854775808 ≤ n) : ∃ q r, n.tdiv 10 = q ∧ n.tmod 10 = r ∧ -922337203685477580 ≤ q ∧ q < 0 ∧ -9 ≤ r ∧ r ≤ 0 ∧ q.natAbs * 10 ≤ n.natAbs ∧ itoa n = itoa q ++ itoa (-r) := by
  have e := itoa_tens h
  obtain ⟨u, rfl⟩ : ∃ u : Nat, n = -(u : Int) := ⟨n.natAbs, by omega⟩
  have h1 : (-(u : Int)).tdiv 10 = -((u / 10 : Nat) : Int) := by rw [Int.neg_tdiv, Int.tdiv_eq_ediv_of_nonneg (by omega)]; omega
  have h2 : (-(u : Int)).tmod 10 = -((u % 10 : Nat) : Int) := by rw [Int.neg_tmod, Int.tmod_eq_emod_of_nonneg (by omega)]; omega
  rw [h1, h2] at e ⊢
  exact ⟨_, _, rfl, rfl, by omega, by omega, by omega, by omega, by omega, e⟩
theorem itoa_more {n : Int} (h : 9 < n) : itoa n = itoa (n / 10) ++ [UInt8.ofNat (48 + (n % 10).toNat)] := by
  obtain ⟨u, rfl⟩ := Int.eq_ofNat_of_zero_le (show 0 ≤ n by omega)
  rw [show (u : Int) / 10 = ((u / 10 : Nat) : Int) by omega, show ((u : Int) % 10).toNat = u % 10 by omega, itoa_nonneg, itoa_nonneg, decDigits, dif_neg (by omega)]
theorem itoa_small {n : Int} (h0 : 0 ≤ n) (h : n ≤ 9) : itoa n = [UInt8.ofNat (48 + n.toNat)] := by
  obtain ⟨u, rfl⟩ := Int.eq_ofNat_of_zero_le h0
  rw [itoa_nonneg, decDigits_one (by omega)]; rfl

theorem below_one (w : World) (o : Obj) : Below w.heap.size w (w.alloc o) := Below.alloc (Below.refl _ _) (Nat.le_refl _) _
theorem conv_one (w : World) (r : Int) (c : UInt8) (hc : (c.toNat : Int) = 48 + r) : (convert 122 9 (.slice (some ⟨w.heap.size, 0, none⟩) 1 1)).run Tryd.prog (w.alloc (.cells #[.int .u8 (48 + r)] 5)) = .ok (.string ⟨#[c]⟩) (w.alloc (.cells #[.int .u8 (48 + r)] 5)) := by
  refine run_convert_bytes_back (P := Tryd.prog) (w.alloc (.cells #[.int .u8 (48 + r)] 5)) 122 9 5 ⟨w.heap.size, 0, none⟩ 1 [c] Tryd.underlying122 Tryd.underlying5 Tryd.underlying9 (fun j hj => ?_)
  obtain rfl : j = 0 := by simp at hj; omega
  show _ = some (Value.int .u8 (c.toNat : Int))
  rw [hc]
  have e : ((⟨w.heap.size, 0, none⟩ : Addr).add 0) = ⟨w.heap.size, 0, none⟩ := by simp [Addr.add]
  rw [e]
  exact new_at rfl
theorem dg_int {r : Int} (r0 : 0 ≤ r) (r1 : r ≤ 9) : ((UInt8.ofNat (48 + r.toNat)).toNat : Int) = 48 + r := by
  rw [dg_byte (by omega)]; omega

end Go.Proofs.YtadjhofomabbmaaDoor

namespace Go.Proofs.YtadjhofomabbmaaDoor
open Go.RowKit Go.Lib
set_option linter.unusedVariables false

theorem itoa_any (n : Int) (w : World) (L : LibW w) (h0 : -9223372036854775808 ≤ n) (h1 : n ≤ 9223372036854775807) :
    Calls Tryd.prog 65 #[.int .i64 n] w fun e w' => e = .returned (.string ⟨(itoa n).toArray⟩) ∧ Below w.heap.size w w' :=
  (Tryd.strconv_Itoa n h0 h1 w L.tab).mono fun e w' ⟨h, k, os, hw⟩ => ⟨h, by rw [hw]; exact below_grow _ w (Nat.le_refl _) k os⟩

/-- A ratio's text. -/
def txt (n d : Int) : List UInt8 := if d = 1 then itoa n else itoa n ++ 47 :: itoa d

/-- A block of two numbers. -/
structure NB (wx : World) (Q : Nat) (x y : Int) : Prop where
  c0 : wx.cell? ⟨Q, 0, none⟩ = some (.int .i64 x)
  c1 : wx.cell? ⟨Q, 1, none⟩ = some (.int .i64 y)
  f0 : wx.frozen? ⟨Q, 0, none⟩ = false
  f1 : wx.frozen? ⟨Q, 1, none⟩ = false
  lt : Q < wx.heap.size
theorem NB.keep {wx w1 : World} {Q : Nat} {x y : Int} (h : NB wx Q x y) (hb : Below wx.heap.size wx w1) : NB w1 Q x y := by
  have hc : ∀ i, w1.cell? ⟨Q, i, none⟩ = wx.cell? ⟨Q, i, none⟩ := fun i => hb.cell (p := ⟨Q, i, none⟩) h.lt
  have hf : ∀ i, w1.frozen? ⟨Q, i, none⟩ = wx.frozen? ⟨Q, i, none⟩ := fun i => hb.frozen (p := ⟨Q, i, none⟩) h.lt
  exact ⟨(hc _).trans h.c0, (hc _).trans h.c1, (hf _).trans h.f0, (hf _).trans h.f1, Nat.lt_of_lt_of_le h.lt hb.size⟩
theorem NB.new (w : World) (x y : Int) (e : TypeId) : NB (w.alloc (.cells #[.int .i64 x, .int .i64 y] e)) w.heap.size x y :=
  ⟨new_at rfl, new_at rfl, World.frozen?_alloc_at _ _ _ _ rfl, World.frozen?_alloc_at _ _ _ _ rfl, by simp⟩
theorem bel_set2 {w wx : World} {Q : Nat} (h : Below w.heap.size w wx) (hQ : w.heap.size ≤ Q) (x y : Value) : Below w.heap.size w ((wx.setCell ⟨Q, 0, none⟩ x).setCell ⟨Q, 1, none⟩ y) := (h.setCell hQ _).setCell hQ _
theorem bel_up {w w1 w2 : World} (h : Below w.heap.size w w1) (h' : Below w1.heap.size w1 w2) : Below w.heap.size w w2 := h.trans (h'.mono h.size)

theorem ret2_str {a b : ByteArray} {x : Value} (h : a = b) : Ending.returned (.tuple #[.string a, x]) = .returned (.tuple #[.string b, x]) := by rw [h]

end Go.Proofs.YtadjhofomabbmaaDoor

namespace Go.Proofs.YtadjhofomabbmaaDoor
open Go.RowKit Go.Lib
set_option linter.unusedVariables false

theorem below_any (w : World) (n : Nat) : Below w.heap.size w (w.drewN n) := ⟨rfl, rfl, rfl, Nat.le_refl _, fun _ _ => rfl⟩
theorem cut_any (l : List UInt8) (c : UInt8) (hl : l.length ≤ 1000) (w : World) (L : LibW w) :
    Calls Tryd.prog 50 #[.string ⟨l.toArray⟩, .string ⟨#[c]⟩] w fun e w' => e = .returned (.tuple #[.string ⟨(cut l [c]).1.toArray⟩, .string ⟨(cut l [c]).2.1.toArray⟩, .bool (cut l [c]).2.2]) ∧ Below w.heap.size w w' := by
  obtain ⟨m, hm⟩ := L.max
  refine (Tryd.strings_Cut ⟨l.toArray⟩ ⟨#[c]⟩ m w (by show l.toArray.size < _; simp; omega) hm).mono ?_
  rintro e w' ⟨rfl, n, rfl⟩
  exact ⟨rfl, below_any w n⟩
theorem atoi_yes (l : List UInt8) (hl : l.length ≤ 1000) (v : Int) (h : atoiAll l = .ok v) (w : World) :
    Calls Tryd.prog 73 #[.string ⟨l.toArray⟩] w fun e w' => e = .returned (.tuple #[.int .i64 v, .nilIface]) ∧ Below w.heap.size w w' := by
  refine (Tryd.strconv_Atoi_ok ⟨l.toArray⟩ (by show l.toArray.size ≤ _; simp; omega) v h w).mono ?_
  rintro e w' ⟨rfl, h⟩
  refine ⟨rfl, ?_⟩
  rcases h with rfl | ⟨t, rfl⟩
  · exact Below.refl _ _
  · exact Lib.bytesWorld_below w _ t
theorem atoi_no (l : List UInt8) (hl : l.length ≤ 1000) (h : ∀ v, atoiAll l ≠ .ok v) (w : World) (L : LibW w) :
    Calls Tryd.prog 73 #[.string ⟨l.toArray⟩] w fun e w' => (∃ (x : Int) (N : Nat), e = .returned (.tuple #[.int .i64 x, .iface 166 (.pointer (some ⟨N, 0, none⟩))])) ∧ Below w.heap.size w w' := by
  have hs : (⟨l.toArray⟩ : ByteArray).size ≤ 281474976710656 := by show l.toArray.size ≤ _; simp; omega
  cases e : atoiAll l
  · exact absurd e (h _)
  · obtain ⟨tp, p, hv⟩ := L.syn
    refine (Any.strconv_Atoi_syntax_var Tryd.laysC172 ⟨l.toArray⟩ hs e tp p w hv).mono ?_
    rintro e w' ⟨N, rfl, _, _, hb⟩
    exact ⟨⟨_, N, rfl⟩, hb⟩
  · obtain ⟨tp, p, hv⟩ := L.rng
    refine (Any.strconv_Atoi_range_var Tryd.laysC172 ⟨l.toArray⟩ hs e tp p w hv).mono ?_
    rintro e w' ⟨N, rfl, _, _, hb⟩
    exact ⟨⟨_, N, rfl⟩, hb⟩

/-- What read makes of a text. -/
def readR (l : List UInt8) : Option (Int × Int) :=
  match atoiAll (cut l [47]).1 with
  | .ok n => if (cut l [47]).2.2 = true then (match atoiAll (cut l [47]).2.1 with | .ok d => some (n, d) | _ => none) else some (n, 1)
  | _ => none
def ReadAns (r : Option (Int × Int)) (w : World) (e : Ending) (w' : World) : Prop :=
  e = .returned (.tuple #[.agg #[.int .i64 (r.elim 0 (·.1)), .int .i64 (r.elim 0 (·.2))], .bool r.isSome]) ∧ Below w.heap.size w w'

end Go.Proofs.YtadjhofomabbmaaDoor

namespace Go.Proofs.YtadjhofomabbmaaDoor
open Go.RowKit Go.Lib
set_option linter.unusedVariables false

def I64 (n : Int) : Prop := -9223372036854775808 ≤ n ∧ n ≤ 9223372036854775807
theorem atoi_bd {l : List UInt8} {v : Int} (h : atoiAll l = .ok v) : I64 v := by
  unfold atoiAll at h
  split at h
  · cases h
  · rename_i c r
    simp only at h
    split at h
    · cases h
    · cases h
    · rename_i u _
      split at h
      · cases h
      · split at h
        · cases h
        · injection h with h
          subst h
          unfold I64
          split <;> omega
theorem readR_bd {l : List UInt8} {n d : Int} (h : readR l = some (n, d)) : I64 n ∧ I64 d := by
  unfold readR at h
  split at h
  · rename_i m hm
    split at h
    · split at h
      · rename_i k hk
        injection h with h
        injection h with h1 h2
        subst h1; subst h2
        exact ⟨atoi_bd hm, atoi_bd hk⟩
      · cases h
    · injection h with h
      injection h with h1 h2
      subst h1; subst h2
      exact ⟨atoi_bd hm, by unfold I64; omega⟩
  · cases h
theorem readR_txt {n d : Int} (hn : I64 n) (hd : I64 d) : readR (txt n d) = some (n, d) := by
  unfold txt
  by_cases h : d = 1
  · subst h
    rw [if_pos rfl]
    unfold readR
    rw [cut_none (itoa_slash n)]
    simp only [atoi_itoa hn.1 hn.2]
    rfl
  · rw [if_neg h]
    unfold readR
    rw [cut_at (itoa_slash n)]
    simp only [atoi_itoa hn.1 hn.2, atoi_itoa hd.1 hd.2, if_true]
theorem txt_inj {n d m e : Int} (hn : I64 n) (hd : I64 d) (hm : I64 m) (he : I64 e) (h : txt n d = txt m e) : n = m ∧ d = e := by
  have h1 := readR_txt hn hd
  rw [h, readR_txt hm he] at h1
  injection h1 with h1
  injection h1 with h1 h2
  exact ⟨h1.symm, h2.symm⟩

end Go.Proofs.YtadjhofomabbmaaDoor

namespace Go.Proofs.YtadjhofomabbmaaDoor
open Go.RowKit Go.Lib
set_option linter.unusedVariables false

theorem itoa_tail (m : Int) (k : Nat) (hk : 0 < k) {c : UInt8} (h : (itoa m)[k]? = some c) : isDg c = true := by
  unfold itoa at h
  split at h
  · obtain ⟨j, rfl⟩ : ∃ j, k = j + 1 := ⟨k - 1, by omega⟩
    exact dec_digs _ c (List.mem_of_getElem? (by simpa using h))
  · exact dec_digs _ c (List.mem_of_getElem? h)
theorem itoa_first (m : Int) {c : UInt8} (h : (itoa m)[0]? = some c) : (c.toNat = 45 ∧ m < 0) ∨ (isDg c = true ∧ ¬ m < 0) := by
  unfold itoa at h
  split at h
  · rename_i hm
    simp at h; subst h; exact Or.inl ⟨rfl, hm⟩
  · rename_i hm
    exact Or.inr ⟨dec_digs _ c (List.mem_of_getElem? h), hm⟩
theorem wrap64_I64 (n : Int) : I64 (wrap64 n) := by unfold wrap64 I64; omega

/-- What Number's loop has by now. -/
def NumI (l : List UInt8) (k : Nat) (n : Int) : Prop := I64 n ∧ ∀ m, I64 m → l = itoa m → n = negV (l.take k)
theorem take_snoc' {l : List UInt8} {k : Nat} {c : UInt8} (h : l[k]? = some c) : l.take (k + 1) = l.take k ++ [c] := by
  rw [List.take_add_one, h]; rfl
theorem NumI.start (l : List UInt8) : NumI l 0 0 := ⟨by unfold I64; omega, fun _ _ _ => rfl⟩
theorem NumI.sign {l : List UInt8} {n : Int} {c : UInt8} (h : NumI l 0 n) (hc : l[0]? = some c) (h45 : c.toNat = 45) : NumI l 1 n := by
  refine ⟨h.1, fun m hm e => ?_⟩
  rw [h.2 m hm e, take_snoc' hc, negV_snoc_no]
  unfold isDg; rw [h45]; rfl
theorem NumI.digit {l : List UInt8} {k : Nat} {n : Int} {c : UInt8} (h : NumI l k n) (hc : l[k]? = some c) (hd : isDg c = true) : NumI l (k + 1) (wrap64 (wrap64 (10 * n) - ((c.toNat : Int) - 48))) := by
  refine ⟨wrap64_I64 _, fun m hm e => ?_⟩
  have e1 := h.2 m hm e
  have e2 := negV_snoc_dg (l := l.take k) hd
  have b1 := negV_take_le l k
  have b2 := negV_take_le l (k + 1)
  have b3 := negV_itoa m
  have hdd := isDg_iff.1 hd
  rw [take_snoc' hc] at b2 ⊢
  rw [← e] at b3
  rw [e2] at b2 ⊢
  rw [← e1] at b1 b2 ⊢
  have hb : -9223372036854775808 ≤ negV l := by rw [b3]; unfold I64 at hm; split <;> omega
  rw [IntWalk.wrap64_in (10 * n) ⟨by omega, by omega⟩, IntWalk.wrap64_in _ ⟨by omega, by omega⟩]
theorem numI_no {l : List UInt8} {k : Nat} {c : UInt8} (hc : l[k]? = some c) (hd : isDg c = false) (h0 : ¬ (k = 0 ∧ c.toNat = 45)) : ∀ m, I64 m → l ≠ itoa m := by
  intro m _ e
  rw [e] at hc
  rcases Nat.eq_zero_or_pos k with rfl | g
  · rcases itoa_first m hc with ⟨h1, _⟩ | ⟨h1, _⟩
    · exact h0 ⟨rfl, h1⟩
    · rw [hd] at h1; cases h1
  · have := itoa_tail m k g hc
    rw [hd] at this; cases this

/-- What Number answers. -/
def NumAns (l : List UInt8) (w : World) (e : Ending) (w' : World) : Prop :=
  (∃ (x : Int) (b : Bool), e = .returned (.tuple #[.int .i64 x, .bool b]) ∧ I64 x ∧ ∀ m, I64 m → l = itoa m → x = m ∧ b = true) ∧ Below w.heap.size w w'
theorem NumAns.no {l : List UInt8} {w : World} (h : ∀ m, I64 m → l ≠ itoa m) : NumAns l w (.returned (.tuple #[.int .i64 0, .bool false])) w :=
  ⟨⟨0, false, rfl, by unfold I64; omega, fun m hm e => absurd e (h m hm)⟩, Below.refl _ _⟩
theorem get_some (s : ByteArray) (k : Nat) (h : k < s.size) : s.data.toList[k]? = some s[k] := by
  rw [List.getElem?_eq_getElem (by simpa using h)]; rfl

end Go.Proofs.YtadjhofomabbmaaDoor

namespace Go.Proofs.YtadjhofomabbmaaDoor
open Go.RowKit Go.Lib
set_option linter.unusedVariables false

theorem idx_here {l : List UInt8} {k : Nat} (h : (47 : UInt8) ∉ l.take k) (hc : l[k]? = some 47) : l.idxOf 47 = k := by
  have hk : k < l.length := (List.getElem?_eq_some_iff.1 hc).1
  have e : l = l.take k ++ 47 :: l.drop (k + 1) := by
    have h1 : l.drop k = l[k] :: l.drop (k + 1) := List.drop_eq_getElem_cons hk
    have h2 : l[k] = 47 := (List.getElem?_eq_some_iff.1 hc).2
    rw [h2] at h1
    rw [← h1, List.take_append_drop]
  rw [e, List.idxOf_append, if_neg h]
  simp; omega
theorem idx_mem {l : List UInt8} {k : Nat} (h : (47 : UInt8) ∈ l.take k) : l.idxOf 47 < k := by
  have e : l = l.take k ++ l.drop k := (List.take_append_drop k l).symm
  rw [e, List.idxOf_append, if_pos h]
  have := List.idxOf_lt_length_of_mem h
  have := List.length_take_le k l
  omega

/-- Where the first stroke is, by now. -/
def AtI (l : List UInt8) (k a : Nat) : Prop := ((47 : UInt8) ∈ l.take k ∧ a = l.idxOf 47) ∨ ((47 : UInt8) ∉ l.take k ∧ a = l.length)
theorem AtI.start (l : List UInt8) : AtI l 0 l.length := Or.inr ⟨by simp, rfl⟩
theorem AtI.done {l : List UInt8} {a : Nat} (h : AtI l l.length a) : a = l.idxOf 47 := by
  rcases h with ⟨_, h⟩ | ⟨h1, h2⟩
  · exact h
  · rw [List.take_of_length_le (Nat.le_refl _)] at h1
    rw [h2, List.idxOf_eq_length h1]
theorem AtI.le {l : List UInt8} {k a : Nat} (h : AtI l k a) : a ≤ l.length := by
  rcases h with ⟨_, h⟩ | ⟨h1, h2⟩
  · rw [h]; exact List.idxOf_le_length
  · omega
theorem AtI.hit {l : List UInt8} {k : Nat} {a : Nat} (h : AtI l k a) (hc : l[k]? = some 47) (ha : a = l.length) (hk : k < l.length) : AtI l (k + 1) k := by
  rcases h with ⟨h1, h2⟩ | ⟨h1, h2⟩
  · have := idx_mem h1; omega
  · exact Or.inl ⟨by rw [take_snoc' hc]; simp, (idx_here h1 hc).symm⟩
theorem AtI.again {l : List UInt8} {k : Nat} {a : Nat} (h : AtI l k a) (hc : l[k]? = some 47) (ha : a ≠ l.length) : AtI l (k + 1) a := by
  rcases h with ⟨h1, h2⟩ | ⟨h1, h2⟩
  · exact Or.inl ⟨by rw [take_snoc' hc]; simp, h2⟩
  · exact absurd h2 ha
theorem AtI.miss {l : List UInt8} {k : Nat} {a : Nat} {c : UInt8} (h : AtI l k a) (hc : l[k]? = some c) (hne : c ≠ 47) : AtI l (k + 1) a := by
  rcases h with ⟨h1, h2⟩ | ⟨h1, h2⟩
  · exact Or.inl ⟨by rw [take_snoc' hc]; simp [h1], h2⟩
  · exact Or.inr ⟨by rw [take_snoc' hc]; simp [h1]; exact fun e => hne e.symm, h2⟩

/-- A ratio's text, parted at its stroke. -/
theorem txt_parts {l : List UInt8} {n d : Int} (h : l = txt n d) : (l.idxOf 47 = l.length → d = 1 ∧ l.take (l.idxOf 47) = itoa n) ∧ (l.idxOf 47 < l.length → l.take (l.idxOf 47) = itoa n ∧ l.drop (l.idxOf 47 + 1) = itoa d) := by
  unfold txt at h
  by_cases hd : d = 1
  · rw [if_pos hd] at h
    have hn : (47 : UInt8) ∉ l := by rw [h]; exact itoa_slash n
    have hi : l.idxOf 47 = l.length := List.idxOf_eq_length hn
    exact ⟨fun _ => ⟨hd, by rw [hi, List.take_of_length_le (Nat.le_refl _), h]⟩, fun hl => by omega⟩
  · rw [if_neg hd] at h
    have hi : l.idxOf 47 = (itoa n).length := by rw [h, List.idxOf_append, if_neg (itoa_slash n)]; simp
    have hl : l.length = (itoa n).length + 1 + (itoa d).length := by rw [h]; simp; omega
    refine ⟨fun e => by omega, fun _ => ⟨?_, ?_⟩⟩
    · rw [hi, h]; simp
    · rw [hi, h, List.drop_append]; simp

/-- What Parse answers. -/
def ParseAns (l : List UInt8) (w : World) (e : Ending) (w' : World) : Prop :=
  (∀ n d, I64 n → I64 d → chkE n d = 0 → l = txt n d → e = .returned (.tuple #[.agg #[.int .i64 n, .int .i64 d], .int .i64 0])) ∧
  ((∀ n d, I64 n → I64 d → chkE n d = 0 → l ≠ txt n d) → e = .returned (.tuple #[.agg #[.int .i64 0, .int .i64 0], .int .i64 13])) ∧ Below w.heap.size w w'
theorem ans_ok {l : List UInt8} {w w' : World} {x y : Int} (hx : I64 x) (hy : I64 y) (hk : chkE x y = 0) (he : txt x y = l) (hb : Below w.heap.size w w') : ParseAns l w (.returned (.tuple #[.agg #[.int .i64 x, .int .i64 y], .int .i64 0])) w' :=
  ⟨fun n d hn hd _ e => by
    obtain ⟨h1, h2⟩ := txt_inj hx hy hn hd (he.trans e)
    rw [h1, h2], fun h => absurd he.symm (h x y hx hy hk), hb⟩
/-- What both calls of Number tell. -/
def Key (l : List UInt8) (x y : Int) (b c : Bool) : Prop := ∀ n d, I64 n → I64 d → l = txt n d → x = n ∧ y = d ∧ b = true ∧ c = true
theorem ans_form {l : List UInt8} {w w' : World} {x y : Int} {b c : Bool} (hk : Key l x y b c) (h : b = false ∨ c = false ∨ chkE x y ≠ 0 ∨ txt x y ≠ l) (hb : Below w.heap.size w w') : ParseAns l w (.returned (.tuple #[.agg #[.int .i64 0, .int .i64 0], .int .i64 13])) w' := by
  refine ⟨fun n d hn hd hc e => ?_, fun _ => rfl, hb⟩
  obtain ⟨h1, h2, h3, h4⟩ := hk n d hn hd e
  subst h1; subst h2
  rcases h with h | h | h | h
  · rw [h] at h3; cases h3
  · rw [h] at h4; cases h4
  · exact absurd hc h
  · exact absurd e.symm h

theorem NB.set0 {wx : World} {Q : Nat} {x y : Int} (h : NB wx Q x y) (z : Int) : NB (wx.setCell ⟨Q, 0, none⟩ (.int .i64 z)) Q z y :=
  ⟨cell_same h.c0, by rw [cell_other (by intro e; simp at e)]; exact h.c1, by simpa using h.f0, by simpa using h.f1, by simpa using h.lt⟩
theorem NB.set1 {wx : World} {Q : Nat} {x y : Int} (h : NB wx Q x y) (z : Int) : NB (wx.setCell ⟨Q, 1, none⟩ (.int .i64 z)) Q x z :=
  ⟨by rw [cell_other (by intro e; simp at e)]; exact h.c0, cell_same h.c1, by simpa using h.f0, by simpa using h.f1, by simpa using h.lt⟩
theorem NB.far {wx : World} {Q Q' i : Nat} {x y : Int} (h : NB wx Q x y) (hQ : Q' ≠ Q) (v : Value) : NB (wx.setCell ⟨Q', i, none⟩ v) Q x y := by
  have co : ∀ j, (wx.setCell ⟨Q', i, none⟩ v).cell? ⟨Q, j, none⟩ = wx.cell? ⟨Q, j, none⟩ := fun j => cell_other (by intro e; injection e with e1 e2; exact hQ e1)
  exact ⟨(co 0).trans h.c0, (co 1).trans h.c1, by simpa using h.f0, by simpa using h.f1, by simpa using h.lt⟩

end Go.Proofs.YtadjhofomabbmaaDoor

namespace Go.Proofs.YtadjhofomabbmaaDoor
open Go.RowKit Go.Lib
set_option linter.unusedVariables false

theorem txt_len {n d : Int} (hn : I64 n) (hd : I64 d) : (txt n d).length ≤ 41 := by
  have h1 := itoa_len20 hn.1 hn.2
  have h2 := itoa_len20 hd.1 hd.2
  unfold txt
  split
  · omega
  · simp; omega
end Go.Proofs.YtadjhofomabbmaaDoor
