/-
  Plain lists of bytes: decimal numerals, what strconv's Itoa and Atoi tell of them, and texts that are cut at one byte. No program.
-/
import Derived.Lib.AtoiAll
import Derived.Lib.ItoaNum
import Derived.Lib.ItoaMem
import Derived.Lib.IndexMore
import Derived.Lib.IndexBytes
import Derived.Test.YtdmdgoeacafpiaaGreatDoorRefOR
import Derived.Test.YtdmdgoeacafpiaaGreatDoorShelf
import Derived.Lib.LaidTab
import Derived.WalkSmall
import Derived.Lib.SlBytesConst
import Derived.Outline
import Derived.Test.YtdmdgoeacafpiaaGreatDoorRtA
import Derived.Lib.SmallJoins
import Derived.WalkSpells
import Derived.Lib.AppendIntMem
import Derived.Lib.AtoiErrMem
import Derived.Test.YtdmdgoeacafpiaaGreatDoorKeep
namespace Go.Proofs.YtdmdgoeacafpiaaGreatDoor
open Go.Lib
set_option linter.unusedVariables false

/-- What digits spell, behind a number. -/
def digV (a : Nat) : List UInt8 → Nat
  | [] => a
  | c :: r => digV (a * 10 + (c.toNat - 48)) r
def isDg (c : UInt8) : Bool := decide (48 ≤ c.toNat) && decide (c.toNat ≤ 57)
theorem isDg_iff {c : UInt8} : isDg c = true ↔ 48 ≤ c.toNat ∧ c.toNat ≤ 57 := by unfold isDg; simp
theorem digV_append (a : Nat) : ∀ (l m : List UInt8), digV a (l ++ m) = digV (digV a l) m
  | [], _ => rfl
  | c :: r, m => digV_append _ r m
theorem digV_ge : ∀ (l : List UInt8) (a : Nat), a ≤ digV a l
  | [], a => Nat.le_refl _
  | c :: r, a => Nat.le_trans (by omega) (digV_ge r (a * 10 + (c.toNat - 48)))
theorem dg_byte {u : Nat} (h : u < 10) : (UInt8.ofNat (48 + u)).toNat = 48 + u := by
  rw [UInt8.toNat_ofNat']; omega
theorem dec_digs (u : Nat) : ∀ c ∈ decDigits u, isDg c = true := by
  induction u using Nat.strongRecOn with
  | _ u ih =>
    intro c hc
    by_cases h : u < 10
    · rw [decDigits, dif_pos h, List.mem_singleton] at hc
      subst hc
      rw [isDg_iff, dg_byte h]; omega
    · rw [decDigits, dif_neg h, List.mem_append, List.mem_singleton] at hc
      rcases hc with hc | rfl
      · exact ih (u / 10) (by omega) c hc
      · rw [isDg_iff, dg_byte (by omega)]; omega
theorem digV_dec (u : Nat) : digV 0 (decDigits u) = u := by
  induction u using Nat.strongRecOn with
  | _ u ih =>
    by_cases h : u < 10
    · rw [decDigits, dif_pos h]; show 0 * 10 + ((UInt8.ofNat (48 + u)).toNat - 48) = u; rw [dg_byte h]; omega
    · rw [decDigits, dif_neg h, digV_append, ih (u / 10) (by omega)]
      show u / 10 * 10 + ((UInt8.ofNat (48 + u % 10)).toNat - 48) = u
      rw [dg_byte (by omega)]; omega
theorem dec_ne (u : Nat) : decDigits u ≠ [] := by
  rw [decDigits]; split <;> simp
theorem parse_dec : ∀ (l : List UInt8) (a : Nat), (∀ c ∈ l, isDg c = true) → digV a l < 18446744073709551616 → parseUint10 a l = .ok (digV a l)
  | [], a, _, _ => rfl
  | c :: r, a, hd, hl => by
    have hc := isDg_iff.1 (hd c (by simp))
    have hl' : digV (a * 10 + (c.toNat - 48)) r < 18446744073709551616 := hl
    have hg := digV_ge r (a * 10 + (c.toNat - 48))
    unfold parseUint10
    rw [if_pos hc, if_neg (by omega), if_neg (by omega), parse_dec r _ (fun x hx => hd x (by simp [hx])) hl']
    rfl
theorem dec_head (u : Nat) : ∃ c r, decDigits u = c :: r ∧ isDg c = true := by
  cases h : decDigits u with
  | nil => exact absurd h (dec_ne u)
  | cons c r => exact ⟨c, r, rfl, dec_digs u c (by rw [h]; simp)⟩
theorem atoi_itoa {n : Int} (h0 : -9223372036854775808 ≤ n) (h1 : n ≤ 9223372036854775807) : atoiAll (itoa n) = .ok n := by
  unfold itoa
  by_cases hn : n < 0
  · rw [if_pos hn]
    have hp : parseMag (decDigits n.natAbs) = .ok n.natAbs := by
      unfold parseMag
      rw [if_neg (dec_ne _), parse_dec _ 0 (dec_digs _) (by rw [digV_dec]; omega), digV_dec]
    unfold atoiAll
    simp only [show (45 : UInt8).toNat = 45 from rfl, or_true, if_true, hp]
    rw [if_neg (by simp), if_neg (by omega)]
    congr 1; omega
  · rw [if_neg hn]
    obtain ⟨c, r, e, hc⟩ := dec_head n.toNat
    have hc' := isDg_iff.1 hc
    have hp : parseMag (decDigits n.toNat) = .ok n.toNat := by
      unfold parseMag
      rw [if_neg (dec_ne _), parse_dec _ 0 (dec_digs _) (by rw [digV_dec]; omega), digV_dec]
    rw [e] at hp ⊢
    have h43 : ¬ c.toNat = 43 := by omega
    have h45 : ¬ c.toNat = 45 := by omega
    unfold atoiAll
    simp only [h43, h45, or_self, if_false]
    rw [hp]
    show (if ¬ False ∧ 9223372036854775808 ≤ n.toNat then NumEnd.range else if False ∧ 9223372036854775808 < n.toNat then NumEnd.range else NumEnd.ok (n.toNat : Int)) = NumEnd.ok n
    rw [if_neg (by omega), if_neg (by simp)]
    congr 1; omega
theorem itoa_ne (n : Int) : itoa n ≠ [] := by unfold itoa; split; simp; exact dec_ne _
theorem itoa_bytes (n : Int) : ∀ c ∈ itoa n, c.toNat = 45 ∨ isDg c = true := by
  intro c hc
  unfold itoa at hc
  split at hc
  · rcases List.mem_cons.1 hc with rfl | hc
    · exact Or.inl rfl
    · exact Or.inr (dec_digs _ c hc)
  · exact Or.inr (dec_digs _ c hc)
theorem itoa_slash (n : Int) : (47 : UInt8) ∉ itoa n := by
  intro h
  rcases itoa_bytes n 47 h with h | h
  · exact absurd h (by decide)
  · exact absurd h (by decide)
theorem nDigits_le {u k : Nat} (hk : 0 < k) (h : u < 10 ^ k) : nDigits u ≤ k := by
  induction k generalizing u with
  | zero => omega
  | succ k ih =>
    by_cases h10 : u < 10
    · rw [nDigits_small h10]; omega
    · rw [nDigits_big h10]
      have hk : 0 < k := by
        rcases Nat.eq_zero_or_pos k with rfl | g
        · simp at h; omega
        · exact g
      have := ih (u := u / 10) hk (by rw [Nat.pow_succ] at h; omega)
      omega
theorem itoa_len20 {n : Int} (h0 : -9223372036854775808 ≤ n) (h1 : n ≤ 9223372036854775807) : (itoa n).length ≤ 20 := by
  unfold itoa
  split
  · rw [List.length_cons, decDigits_length]
    have := nDigits_le (u := n.natAbs) (k := 19) (by decide) (by have : (10 : Nat) ^ 19 = 10000000000000000000 := by decide
                                                                 omega)
    omega
  · rw [decDigits_length]
    have := nDigits_le (u := n.toNat) (k := 19) (by decide) (by have : (10 : Nat) ^ 19 = 10000000000000000000 := by decide
                                                                omega)
    omega
theorem itoa_inj {n m : Int} (hn : -9223372036854775808 ≤ n) (hn1 : n ≤ 9223372036854775807) (hm : -9223372036854775808 ≤ m) (hm1 : m ≤ 9223372036854775807) (h : itoa n = itoa m) : n = m := by
  have e1 := atoi_itoa hn hn1
  rw [h, atoi_itoa hm hm1] at e1
  injection e1 with e1; exact e1.symm

/-- The digits of a text, and their number less than nought. -/
def negV (l : List UInt8) : Int := -((digV 0 (l.filter isDg) : Nat) : Int)
theorem negV_nil : negV [] = 0 := rfl
theorem filter_digs {l : List UInt8} (h : ∀ c ∈ l, isDg c = true) : l.filter isDg = l := List.filter_eq_self.2 h
theorem negV_itoa (n : Int) : negV (itoa n) = if n < 0 then n else -n := by
  unfold negV itoa
  by_cases hn : n < 0
  · rw [if_pos hn, if_pos hn, List.filter_cons, if_neg (by decide), filter_digs (dec_digs _), digV_dec]; omega
  · rw [if_neg hn, if_neg hn, filter_digs (dec_digs _), digV_dec]; omega
theorem negV_snoc_dg {l : List UInt8} {c : UInt8} (h : isDg c = true) : negV (l ++ [c]) = 10 * negV l - ((c.toNat : Int) - 48) := by
  have := isDg_iff.1 h
  unfold negV
  rw [List.filter_append, show [c].filter isDg = [c] by simp [List.filter, h], digV_append]
  show -((digV 0 (l.filter isDg) * 10 + (c.toNat - 48) : Nat) : Int) = _
  omega
theorem negV_snoc_no {l : List UInt8} {c : UInt8} (h : isDg c = false) : negV (l ++ [c]) = negV l := by
  unfold negV
  rw [List.filter_append, show [c].filter isDg = [] by simp [List.filter, h], List.append_nil]
theorem negV_take_le (l : List UInt8) (k : Nat) : negV l ≤ negV (l.take k) ∧ negV (l.take k) ≤ 0 := by
  unfold negV
  have e : l.filter isDg = (l.take k).filter isDg ++ (l.drop k).filter isDg := by rw [← List.filter_append, List.take_append_drop]
  rw [e, digV_append]
  have := digV_ge ((l.drop k).filter isDg) (digV 0 ((l.take k).filter isDg))
  omega

/-- A text cut at one byte. -/
theorem cut_at {a b : List UInt8} {c : UInt8} (h : c ∉ a) : cut (a ++ c :: b) [c] = (a, b, true) := by
  have hi : index (a ++ c :: b) [c] = (a.length : Int) := by
    refine index_first (by simp) ?_ ?_
    · simp [occAt]
    · intro j hj
      have : (a ++ c :: b).drop j = a.drop j ++ c :: b := List.drop_append_of_le_length (by omega)
      unfold occAt
      rw [this]
      cases g : a.drop j with
      | nil => have := congrArg List.length g; simp at this; omega
      | cons x r =>
        have hx : x ∈ a := List.mem_of_mem_drop (i := j) (by rw [g]; simp)
        have hne : c ≠ x := fun e => h (e ▸ hx)
        show ((c == x) && List.isPrefixOf [] (r ++ c :: b)) = false
        rw [beq_false_of_ne hne]; rfl
  unfold cut
  rw [hi, if_pos (by omega)]
  simp
theorem cut_none {a : List UInt8} {c : UInt8} (h : c ∉ a) : cut a [c] = (a, [], false) := by
  have hi : index a [c] = -1 := by
    refine index_none (fun j hj => ?_)
    unfold occAt
    cases g : a.drop j with
    | nil => rfl
    | cons x r =>
      have hx : x ∈ a := List.mem_of_mem_drop (i := j) (by rw [g]; simp)
      have hne : c ≠ x := fun e => h (e ▸ hx)
      show ((c == x) && List.isPrefixOf [] r) = false
      rw [beq_false_of_ne hne]; rfl
  unfold cut
  rw [hi]; rfl
theorem cut_le (s sep : List UInt8) : (cut s sep).1.length ≤ s.length ∧ (cut s sep).2.1.length ≤ s.length := by
  unfold cut
  split
  · simp; omega
  · simp

end Go.Proofs.YtdmdgoeacafpiaaGreatDoor

namespace Go.Proofs.YtdmdgoeacafpiaaGreatDoor
open Go.RowKit Go.Lib
set_option linter.unusedVariables false

/-- What the library's contracts ask of its own variables. -/
structure LibW (w : World) : Prop where
  tab : Lib.TabIs Tryz.prog w "internal/strconv.uint64pow10" .u64 Lib.pow10Tab
  max : ∃ m, w.cell? ⟨3, 0, none⟩ = some (.int .i64 m)
  syn : ∃ tp p, w.var? Tryz.prog "strconv.ErrSyntax" = some #[.iface tp p]
  rng : ∃ tp p, w.var? Tryz.prog "strconv.ErrRange" = some #[.iface tp p]
theorem gPow : Tryz.prog.globalNamed "internal/strconv.uint64pow10" = some 7 := by kernel_rfl
theorem gSyn : Tryz.prog.globalNamed "strconv.ErrSyntax" = some 4 := by kernel_rfl
theorem gRng : Tryz.prog.globalNamed "strconv.ErrRange" = some 5 := by kernel_rfl
theorem lt_cell' {w : World} {b i : Nat} {v : Value} (h : w.cell? ⟨b, i, none⟩ = some v) : b < w.heap.size := by
  rcases Nat.lt_or_ge b w.heap.size with k | k
  · exact k
  · unfold World.cell? at h; rw [Array.getElem?_eq_none k] at h; cases h
theorem LibW.keep {w w' : World} (h : LibW w) (hb : Below w.heap.size w w') : LibW w' := by
  obtain ⟨h1, ⟨m, h2⟩, ⟨tp, p, h3⟩, ⟨tq, q, h4⟩⟩ := h
  refine ⟨var?_below hb gPow ?_ h1, ⟨m, (hb.cell (p := ⟨_, 0, none⟩) (lt_cell' h2)).trans h2⟩, ⟨tp, p, var?_below hb gSyn ?_ h3⟩, ⟨tq, q, var?_below hb gRng ?_ h4⟩⟩
  · exact lt_cell' (World.var?_cell gPow h1 0)
  · exact lt_cell' (World.var?_cell gSyn h3 0)
  · exact lt_cell' (World.var?_cell gRng h4 0)

theorem ret_str {a b : ByteArray} (h : a = b) : Ending.returned (.string a) = .returned (.string b) := by rw [h]
theorem str_app (x y : List UInt8) : (⟨x.toArray⟩ : ByteArray) ++ ⟨y.toArray⟩ = ⟨(x ++ y).toArray⟩ := ByteArray.mk_append_mk x y
theorem itoa_less {n : Int} (h : n < 0) : itoa n = 45 :: itoa (-n) := by
  unfold itoa
  rw [if_pos h, if_neg (by omega), show n.natAbs = (-n).toNat by omega]
theorem itoa_tens {n : Int} (h : n ≤ -10) : itoa n = itoa (n.tdiv 10) ++ itoa (-(n.tmod 10)) := by
  obtain ⟨u, rfl⟩ : ∃ u : Nat, n = -(u : Int) := ⟨n.natAbs, by omega⟩
  have h1 : (-(u : Int)).tdiv 10 = -((u / 10 : Nat) : Int) := by rw [Int.neg_tdiv, Int.tdiv_eq_ediv_of_nonneg (by omega)]; omega
  have h2 : (-(u : Int)).tmod 10 = -((u % 10 : Nat) : Int) := by rw [Int.neg_tmod, Int.tmod_eq_emod_of_nonneg (by omega)]; omega
  rw [h1, h2, Int.neg_neg, itoa_nonneg, itoa_neg _ (by omega), itoa_neg _ (by omega), decDigits, dif_neg (by omega), decDigits_one (i := u % 10) (by omega)]
  rfl
theorem tens_bd {n : Int} (h : n ≤ -10) (h0 : -9223372036854775808 ≤ n) : ∃ q r, n.tdiv 10 = q ∧ n.tmod 10 = r ∧ -922337203685477580 ≤ q ∧ q < 0 ∧ -9 ≤ r ∧ r ≤ 0 ∧ q.natAbs * 10 ≤ n.natAbs ∧ itoa n = itoa q ++ itoa (-r) := by
  have e := itoa_tens h
  obtain ⟨u, rfl⟩ : ∃ u : Nat, n = -(u : Int) := ⟨n.natAbs, by omega⟩
  have h1 : (-(u : Int)).tdiv 10 = -((u / 10 : Nat) : Int) := by rw [Int.neg_tdiv, Int.tdiv_eq_ediv_of_nonneg (by omega)]; omega
  have h2 : (-(u : Int)).tmod 10 = -((u % 10 : Nat) : Int) := by rw [Int.neg_tmod, Int.tmod_eq_emod_of_nonneg (by omega)]; omega
  rw [h1, h2] at e ⊢
  exact ⟨_, _, rfl, rfl, by omega, by omega, by omega, by omega, by omega, e⟩
theorem itoa_more {n : Int} (h : 9 < n) : itoa n = itoa (n / 10) ++ [UInt8.ofNat (48 + (n % 10).toNat)] := by
  obtain ⟨u, rfl⟩ := Int.eq_ofNat_of_zero_le (show 0 ≤ n by omega)
  rw [show (u : Int) / 10 = ((u / 10 : Nat) : Int) by omega, show ((u : Int) % 10).toNat = u % 10 by omega, itoa_nonneg, itoa_nonneg, decDigits, dif_neg (by omega)]
theorem itoa_small {n : Int} (h0 : 0 ≤ n) (h : n ≤ 9) : itoa n = [UInt8.ofNat (48 + n.toNat)] := by
  obtain ⟨u, rfl⟩ := Int.eq_ofNat_of_zero_le h0
  rw [itoa_nonneg, decDigits_one (by omega)]; rfl

theorem below_one (w : World) (o : Obj) : Below w.heap.size w (w.alloc o) := Below.alloc (Below.refl _ _) (Nat.le_refl _) _
theorem conv_one (w : World) (r : Int) (c : UInt8) (hc : (c.toNat : Int) = 48 + r) : (convert 99 9 (.slice (some ⟨w.heap.size, 0, none⟩) 1 1)).run Tryz.prog (w.alloc (.cells #[.int .u8 (48 + r)] 5)) = .ok (.string ⟨#[c]⟩) (w.alloc (.cells #[.int .u8 (48 + r)] 5)) := by
  refine run_convert_bytes_back (P := Tryz.prog) (w.alloc (.cells #[.int .u8 (48 + r)] 5)) 99 9 5 ⟨w.heap.size, 0, none⟩ 1 [c] Tryz.underlying99 Tryz.underlying5 Tryz.underlying9 (fun j hj => ?_)
  obtain rfl : j = 0 := by simp at hj; omega
  show _ = some (Value.int .u8 (c.toNat : Int))
  rw [hc]
  have e : ((⟨w.heap.size, 0, none⟩ : Addr).add 0) = ⟨w.heap.size, 0, none⟩ := by simp [Addr.add]
  rw [e]
  exact new_at rfl
theorem dg_int {r : Int} (r0 : 0 ≤ r) (r1 : r ≤ 9) : ((UInt8.ofNat (48 + r.toNat)).toNat : Int) = 48 + r := by
  rw [dg_byte (by omega)]; omega

set_option maxHeartbeats 1000000 in
set_option maxRecDepth 100000 in
theorem dec_fuel : ∀ (m : Nat) (n : Int) (w : World), -9223372036854775808 ≤ n → n ≤ 9223372036854775807 → 2 * n.natAbs + (if n < 0 then 1 else 0) < m →
    Calls Tryz.prog 72 #[.int .i64 n] w fun e w' => e = .returned (.string ⟨(itoa n).toArray⟩) ∧ Below w.heap.size w w'
  | 0, n, w, _, _, h => absurd h (Nat.not_lt_zero _)
  | m + 1, n, w, h0, h1, h => by
    have IH := Lib.hid (dec_fuel m)
    by_cases hn : n < 0
    · rw [if_pos hn] at h
      by_cases h10 : -10 < n
      · obtain ⟨L, hL⟩ : ∃ L, L = itoa (-n) := ⟨_, rfl⟩
        have hl : L.length ≤ 20 := by rw [hL]; exact itoa_len20 (by omega) (by omega)
        have HC := Lib.hid (fun w => IH.out (-n) w (by omega) (by omega) (by rw [if_neg (by omega)]; omega))
        rw [← hL] at HC
        have HE : Hid (itoa n = 45 :: L) := Lib.hid (by rw [hL]; exact itoa_less hn)
        clear h hL
        go_enter Tryz.func72, Tryz.ntmps72
        go_wp2_with fail
        refine (HC.out _).mono ?_
        rintro e w' ⟨rfl, hb⟩
        go_wp2
        go_ret
        exact ⟨ret_str (by rw [HE.out]; exact str_app [45] L), hb⟩
      · obtain ⟨q, r, hq, hr, q0, q1, r0, r1, hqn, he⟩ := tens_bd (n := n) (by omega) h0
        obtain ⟨L, hL⟩ : ∃ L, L = itoa q := ⟨_, rfl⟩
        obtain ⟨M, hM⟩ : ∃ M, M = itoa (-r) := ⟨_, rfl⟩
        have hl : L.length ≤ 20 := by rw [hL]; exact itoa_len20 (by omega) (by omega)
        have hm : M.length ≤ 20 := by rw [hM]; exact itoa_len20 (by omega) (by omega)
        have HC := Lib.hid (fun w => IH.out q w (by omega) (by omega) (by rw [if_pos q1]; omega))
        have HD := Lib.hid (fun w => IH.out (-r) w (by omega) (by omega) (by rw [if_neg (by omega)]; omega))
        rw [← hL] at HC he
        rw [← hM] at HD he
        have HE := Lib.hid he
        have hwq : wrap64 q = q := IntWalk.wrap64_in _ ⟨by omega, by omega⟩
        clear h hL hM he hqn
        go_enter Tryz.func72, Tryz.ntmps72
        go_wp2_with fail
        refine (HC.out _).mono ?_
        rintro e w' ⟨rfl, hb⟩
        have HB := Lib.hid hb
        clear hb
        go_wp2_with fail
        refine (HD.out _).mono ?_
        rintro e w2 ⟨rfl, hb⟩
        have HB2 := Lib.hid (HB.out.trans (hb.mono HB.out.size))
        clear hb
        go_wp2
        go_ret
        exact ⟨ret_str (by rw [HE.out]; exact str_app L M), HB2.out⟩
    · rw [if_neg hn] at h
      by_cases h9 : 9 < n
      · obtain ⟨q, hq⟩ : ∃ q, n / 10 = q := ⟨_, rfl⟩
        obtain ⟨r, hr⟩ : ∃ r, n % 10 = r := ⟨_, rfl⟩
        have r0 : 0 ≤ r := by omega
        have r1 : r ≤ 9 := by omega
        have he := itoa_more h9
        rw [hq, hr] at he
        obtain ⟨L, hL⟩ : ∃ L, L = itoa q := ⟨_, rfl⟩
        have hl : L.length ≤ 20 := by rw [hL]; exact itoa_len20 (by omega) (by omega)
        have HC := Lib.hid (fun w => IH.out q w (by omega) (by omega) (by rw [if_neg (by omega)]; omega))
        rw [← hL] at HC he
        obtain ⟨c, hc⟩ : ∃ c, c = UInt8.ofNat (48 + r.toNat) := ⟨_, rfl⟩
        rw [← hc] at he
        have kc := conv_one w r c (by rw [hc]; exact dg_int r0 r1)
        have HE := Lib.hid he
        clear h hL he hc
        go_enter Tryz.func72, Tryz.ntmps72
        go_wp2_with fail
        clear kc
        refine (HC.out _).mono ?_
        rintro e w' ⟨rfl, hb⟩
        have HB := Lib.hid ((below_one w _).trans (hb.mono (by simp)))
        clear hb
        go_wp2
        go_ret
        exact ⟨ret_str (by rw [HE.out]; exact str_app L [c]), HB.out⟩
      · have he := itoa_small (n := n) (by omega) (by omega)
        have r0 : 0 ≤ n % 10 := by omega
        obtain ⟨c, hc⟩ : ∃ c, c = UInt8.ofNat (48 + n.toNat) := ⟨_, rfl⟩
        rw [← hc] at he
        have hmod : n % 10 = n := by omega
        have kc := conv_one w n c (by rw [hc]; exact dg_int (by omega) (by omega))
        have HE := Lib.hid he
        clear h he hc r0
        go_enter Tryz.func72, Tryz.ntmps72
        go_wp2_with fail
        go_ret
        exact ⟨ret_str (by rw [HE.out]), below_one w _⟩

theorem dec_any (n : Int) (w : World) (h0 : -9223372036854775808 ≤ n) (h1 : n ≤ 9223372036854775807) :
    Calls Tryz.prog 72 #[.int .i64 n] w fun e w' => e = .returned (.string ⟨(itoa n).toArray⟩) ∧ Below w.heap.size w w' :=
  dec_fuel (2 * n.natAbs + (if n < 0 then 1 else 0) + 1) n w h0 h1 (Nat.lt_succ_self _)

end Go.Proofs.YtdmdgoeacafpiaaGreatDoor

namespace Go.Proofs.YtdmdgoeacafpiaaGreatDoor
open Go.RowKit Go.Lib
set_option linter.unusedVariables false

theorem itoa_any (n : Int) (w : World) (L : LibW w) (h0 : -9223372036854775808 ≤ n) (h1 : n ≤ 9223372036854775807) :
    Calls Tryz.prog 84 #[.int .i64 n] w fun e w' => e = .returned (.string ⟨(itoa n).toArray⟩) ∧ Below w.heap.size w w' :=
  (Tryz.strconv_Itoa n h0 h1 w L.tab).mono fun e w' ⟨h, k, os, hw⟩ => ⟨h, by rw [hw]; exact below_grow _ w (Nat.le_refl _) k os⟩

/-- A ratio's text. -/
def txt (n d : Int) : List UInt8 := if d = 1 then itoa n else itoa n ++ 47 :: itoa d

/-- A block of two numbers. -/
structure NB (wx : World) (Q : Nat) (x y : Int) : Prop where
  c0 : wx.cell? ⟨Q, 0, none⟩ = some (.int .i64 x)
  c1 : wx.cell? ⟨Q, 1, none⟩ = some (.int .i64 y)
  f0 : wx.frozen? ⟨Q, 0, none⟩ = false
  f1 : wx.frozen? ⟨Q, 1, none⟩ = false
  lt : Q < wx.heap.size
theorem NB.keep {wx w1 : World} {Q : Nat} {x y : Int} (h : NB wx Q x y) (hb : Below wx.heap.size wx w1) : NB w1 Q x y := by
  have hc : ∀ i, w1.cell? ⟨Q, i, none⟩ = wx.cell? ⟨Q, i, none⟩ := fun i => hb.cell (p := ⟨Q, i, none⟩) h.lt
  have hf : ∀ i, w1.frozen? ⟨Q, i, none⟩ = wx.frozen? ⟨Q, i, none⟩ := fun i => hb.frozen (p := ⟨Q, i, none⟩) h.lt
  exact ⟨(hc _).trans h.c0, (hc _).trans h.c1, (hf _).trans h.f0, (hf _).trans h.f1, Nat.lt_of_lt_of_le h.lt hb.size⟩
theorem NB.new (w : World) (x y : Int) (e : TypeId) : NB (w.alloc (.cells #[.int .i64 x, .int .i64 y] e)) w.heap.size x y :=
  ⟨new_at rfl, new_at rfl, World.frozen?_alloc_at _ _ _ _ rfl, World.frozen?_alloc_at _ _ _ _ rfl, by simp⟩
theorem bel_set2 {w wx : World} {Q : Nat} (h : Below w.heap.size w wx) (hQ : w.heap.size ≤ Q) (x y : Value) : Below w.heap.size w ((wx.setCell ⟨Q, 0, none⟩ x).setCell ⟨Q, 1, none⟩ y) := (h.setCell hQ _).setCell hQ _
theorem bel_up {w w1 w2 : World} (h : Below w.heap.size w w1) (h' : Below w1.heap.size w1 w2) : Below w.heap.size w w2 := h.trans (h'.mono h.size)

theorem ret2_str {a b : ByteArray} {x : Value} (h : a = b) : Ending.returned (.tuple #[.string a, x]) = .returned (.tuple #[.string b, x]) := by rw [h]

set_option maxHeartbeats 1000000 in
set_option maxRecDepth 100000 in
theorem print_ok (n d : Int) (w : World) (L : LibW w) (n0 : -9223372036854775808 ≤ n) (n1 : n ≤ 9223372036854775807) (d0 : -9223372036854775808 ≤ d) (d1 : d ≤ 9223372036854775807) (hk : chkE n d = 0) :
    Calls Tryz.prog 56 #[.agg #[.int .i64 n, .int .i64 d]] w fun e w' => e = .returned (.tuple #[.string ⟨(txt n d).toArray⟩, .int .i64 0]) ∧ Below w.heap.size w w' := by
  have HC := Lib.hid (check_any n d · n0 n1 d0 d1)
  rw [hk] at HC
  have HL := Lib.hid (L.keep (below_one w (.cells #[.int .i64 n, .int .i64 d] 50)))
  obtain ⟨A, hA⟩ : ∃ A, A = itoa n := ⟨_, rfl⟩
  obtain ⟨B, hB⟩ : ∃ B, B = itoa d := ⟨_, rfl⟩
  have hl : A.length ≤ 20 := by rw [hA]; exact itoa_len20 n0 n1
  have hm : B.length ≤ 20 := by rw [hB]; exact itoa_len20 d0 d1
  have HI := Lib.hid (fun w L => itoa_any n w L n0 n1)
  have HJ := Lib.hid (fun w L => itoa_any d w L d0 d1)
  rw [← hA] at HI
  rw [← hB] at HJ
  have HA := Lib.hid hA
  have HB := Lib.hid hB
  have HN := Lib.hid (NB.new w n d 50)
  have HW0 := Lib.hid (below_one w (.cells #[.int .i64 n, .int .i64 d] 50))
  clear L hk hA hB n0 n1 d0 d1
  by_cases hd : d = 1
  · have hdb : (d == 1) = true := by simpa using hd
    have HT : Hid (txt n d = A) := Lib.hid (by unfold txt; rw [if_pos hd, HA.out])
    clear hd
    go_enter Tryz.func56, Tryz.ntmps56
    go_wp2_with fail
    refine (HC.out _).mono ?_
    rintro e w1 ⟨rfl, hb1⟩
    have HN1 := Lib.hid (HN.out.keep hb1)
    have HB1 := Lib.hid hb1
    obtain ⟨c0, c1, _, _, _⟩ := HN1.out
    clear hb1
    go_wp2_with fail
    refine (HI.out _ (HL.out.keep HB1.out)).mono ?_
    rintro e w2 ⟨rfl, hb2⟩
    have HN2 := Lib.hid (HN1.out.keep hb2)
    have HB2 := Lib.hid hb2
    clear c0 c1 hb2
    obtain ⟨c0, c1, _, _, _⟩ := HN2.out
    go_wp2_with fail
    go_ret2
    exact ⟨by rw [HT.out]; rfl, bel_up (bel_up HW0.out HB1.out) HB2.out⟩
  · have hdb : (d == 1) = false := by simpa using hd
    have HT : Hid (txt n d = A ++ 47 :: B) := Lib.hid (by unfold txt; rw [if_neg hd, HA.out, HB.out])
    clear hd
    go_enter Tryz.func56, Tryz.ntmps56
    go_wp2_with fail
    refine (HC.out _).mono ?_
    rintro e w1 ⟨rfl, hb1⟩
    have HN1 := Lib.hid (HN.out.keep hb1)
    have HB1 := Lib.hid hb1
    obtain ⟨c0, c1, _, _, _⟩ := HN1.out
    clear hb1
    go_wp2_with fail
    refine (HI.out _ (HL.out.keep HB1.out)).mono ?_
    rintro e w2 ⟨rfl, hb2⟩
    have HN2 := Lib.hid (HN1.out.keep hb2)
    have HB2 := Lib.hid hb2
    clear c0 c1 hb2
    obtain ⟨c0, c1, _, _, _⟩ := HN2.out
    go_wp2_with fail
    refine (HJ.out _ ((HL.out.keep HB1.out).keep HB2.out)).mono ?_
    rintro e w3 ⟨rfl, hb3⟩
    have HB3 := Lib.hid hb3
    clear c0 c1 hb3
    go_wp2
    go_ret2
    exact ⟨by rw [HT.out]; exact ret2_str (by rw [show (47 :: B) = [47] ++ B from rfl, ← List.append_assoc, ← str_app, ← str_app]), bel_up (bel_up (bel_up HW0.out HB1.out) HB2.out) HB3.out⟩

set_option maxHeartbeats 1000000 in
set_option maxRecDepth 100000 in
theorem print_bad (n d k : Int) (w : World) (n0 : -9223372036854775808 ≤ n) (n1 : n ≤ 9223372036854775807) (d0 : -9223372036854775808 ≤ d) (d1 : d ≤ 9223372036854775807) (hk : chkE n d = k) (hk0 : k ≠ 0) :
    Calls Tryz.prog 56 #[.agg #[.int .i64 n, .int .i64 d]] w fun e w' => e = .returned (.tuple #[.string ⟨#[]⟩, .int .i64 k]) ∧ Below w.heap.size w w' := by
  have HC := Lib.hid (check_any n d · n0 n1 d0 d1)
  rw [hk] at HC
  have hb : (k != 0) = true := by simpa using hk0
  have HW0 := Lib.hid (below_one w (.cells #[.int .i64 n, .int .i64 d] 50))
  clear hk hk0 n0 n1 d0 d1
  go_enter Tryz.func56, Tryz.ntmps56
  go_wp2_with fail
  refine (HC.out _).mono ?_
  rintro e w1 ⟨rfl, hb1⟩
  have HB1 := Lib.hid hb1
  clear hb1
  go_wp2_with fail
  go_ret2
  exact ⟨rfl, bel_up HW0.out HB1.out⟩

set_option maxHeartbeats 1000000 in
set_option maxRecDepth 100000 in
theorem rprint_any (n d : Int) (w : World) (n0 : -9223372036854775808 ≤ n) (n1 : n ≤ 9223372036854775807) (d0 : -9223372036854775808 ≤ d) (d1 : d ≤ 9223372036854775807) :
    Calls Tryz.prog 48 #[.agg #[.int .i64 n, .int .i64 d]] w fun e w' => e = .returned (.string ⟨(txt n d).toArray⟩) ∧ Below w.heap.size w w' := by
  obtain ⟨A, hA⟩ : ∃ A, A = itoa n := ⟨_, rfl⟩
  obtain ⟨B, hB⟩ : ∃ B, B = itoa d := ⟨_, rfl⟩
  have hl : A.length ≤ 20 := by rw [hA]; exact itoa_len20 n0 n1
  have hm : B.length ≤ 20 := by rw [hB]; exact itoa_len20 d0 d1
  have HI := Lib.hid (fun w => dec_any n w n0 n1)
  have HJ := Lib.hid (fun w => dec_any d w d0 d1)
  rw [← hA] at HI
  rw [← hB] at HJ
  have HA := Lib.hid hA
  have HB := Lib.hid hB
  have HN := Lib.hid (NB.new w n d 50)
  have HW0 := Lib.hid (below_one w (.cells #[.int .i64 n, .int .i64 d] 50))
  clear hA hB n0 n1 d0 d1
  by_cases hd : d = 1
  · have hdb : (d != 1) = false := by simpa using hd
    have HT : Hid (txt n d = A) := Lib.hid (by unfold txt; rw [if_pos hd, HA.out])
    clear hd
    go_enter Tryz.func48, Tryz.ntmps48
    go_wp2_with fail
    refine (HI.out _).mono ?_
    rintro e w2 ⟨rfl, hb2⟩
    have HN2 := Lib.hid (HN.out.keep hb2)
    have HB2 := Lib.hid hb2
    clear hb2
    obtain ⟨c0, c1, _, _, _⟩ := HN2.out
    go_wp2_with fail
    go_ret
    exact ⟨by rw [HT.out]; rfl, bel_up HW0.out HB2.out⟩
  · have hdb : (d != 1) = true := by simpa using hd
    have HT : Hid (txt n d = A ++ 47 :: B) := Lib.hid (by unfold txt; rw [if_neg hd, HA.out, HB.out])
    clear hd
    go_enter Tryz.func48, Tryz.ntmps48
    go_wp2_with fail
    refine (HI.out _).mono ?_
    rintro e w2 ⟨rfl, hb2⟩
    have HN2 := Lib.hid (HN.out.keep hb2)
    have HB2 := Lib.hid hb2
    clear hb2
    obtain ⟨c0, c1, _, _, _⟩ := HN2.out
    go_wp2_with fail
    refine (HJ.out _).mono ?_
    rintro e w3 ⟨rfl, hb3⟩
    have HB3 := Lib.hid hb3
    clear c0 c1 hb3
    go_wp2
    go_ret
    exact ⟨by rw [HT.out]; exact ret_str (by rw [show (47 :: B) = [47] ++ B from rfl, ← List.append_assoc, ← str_app, ← str_app]), bel_up (bel_up HW0.out HB2.out) HB3.out⟩

end Go.Proofs.YtdmdgoeacafpiaaGreatDoor

namespace Go.Proofs.YtdmdgoeacafpiaaGreatDoor
open Go.RowKit Go.Lib
set_option linter.unusedVariables false

theorem below_any (w : World) (n : Nat) : Below w.heap.size w (w.drewN n) := ⟨rfl, rfl, rfl, Nat.le_refl _, fun _ _ => rfl⟩
theorem cut_any (l : List UInt8) (c : UInt8) (hl : l.length ≤ 3000) (w : World) (L : LibW w) :
    Calls Tryz.prog 112 #[.string ⟨l.toArray⟩, .string ⟨#[c]⟩] w fun e w' => e = .returned (.tuple #[.string ⟨(cut l [c]).1.toArray⟩, .string ⟨(cut l [c]).2.1.toArray⟩, .bool (cut l [c]).2.2]) ∧ Below w.heap.size w w' := by
  obtain ⟨m, hm⟩ := L.max
  refine (Tryz.strings_Cut ⟨l.toArray⟩ ⟨#[c]⟩ m w (by show l.toArray.size < _; simp; omega) hm).mono ?_
  rintro e w' ⟨rfl, n, rfl⟩
  exact ⟨rfl, below_any w n⟩
theorem atoi_yes (l : List UInt8) (hl : l.length ≤ 3000) (v : Int) (h : atoiAll l = .ok v) (w : World) :
    Calls Tryz.prog 69 #[.string ⟨l.toArray⟩] w fun e w' => e = .returned (.tuple #[.int .i64 v, .nilIface]) ∧ Below w.heap.size w w' := by
  refine (Tryz.strconv_Atoi_ok ⟨l.toArray⟩ (by show l.toArray.size ≤ _; simp; omega) v h w).mono ?_
  rintro e w' ⟨rfl, h⟩
  refine ⟨rfl, ?_⟩
  rcases h with rfl | ⟨t, rfl⟩
  · exact Below.refl _ _
  · exact Lib.bytesWorld_below w _ t
theorem atoi_no (l : List UInt8) (hl : l.length ≤ 3000) (h : ∀ v, atoiAll l ≠ .ok v) (w : World) (L : LibW w) :
    Calls Tryz.prog 69 #[.string ⟨l.toArray⟩] w fun e w' => (∃ (x : Int) (N : Nat), e = .returned (.tuple #[.int .i64 x, .iface 170 (.pointer (some ⟨N, 0, none⟩))])) ∧ Below w.heap.size w w' := by
  have hs : (⟨l.toArray⟩ : ByteArray).size ≤ 281474976710656 := by show l.toArray.size ≤ _; simp; omega
  cases e : atoiAll l
  · exact absurd e (h _)
  · obtain ⟨tp, p, hv⟩ := L.syn
    refine (Any.strconv_Atoi_syntax_var Tryz.laysC172 ⟨l.toArray⟩ hs e tp p w hv).mono ?_
    rintro e w' ⟨N, rfl, _, _, hb⟩
    exact ⟨⟨_, N, rfl⟩, hb⟩
  · obtain ⟨tp, p, hv⟩ := L.rng
    refine (Any.strconv_Atoi_range_var Tryz.laysC172 ⟨l.toArray⟩ hs e tp p w hv).mono ?_
    rintro e w' ⟨N, rfl, _, _, hb⟩
    exact ⟨⟨_, N, rfl⟩, hb⟩

/-- What read makes of a text. -/
def readR (l : List UInt8) : Option (Int × Int) :=
  match atoiAll (cut l [47]).1 with
  | .ok n => if (cut l [47]).2.2 = true then (match atoiAll (cut l [47]).2.1 with | .ok d => some (n, d) | _ => none) else some (n, 1)
  | _ => none
def ReadAns (r : Option (Int × Int)) (w : World) (e : Ending) (w' : World) : Prop :=
  e = .returned (.tuple #[.agg #[.int .i64 (r.elim 0 (·.1)), .int .i64 (r.elim 0 (·.2))], .bool r.isSome]) ∧ Below w.heap.size w w'

set_option maxHeartbeats 1000000 in
set_option maxRecDepth 100000 in
theorem read_any (l : List UInt8) (hl : l.length ≤ 3000) (w : World) (L : LibW w) :
    Calls Tryz.prog 90 #[.string ⟨l.toArray⟩] w (ReadAns (readR l) w) := by
  have HL := Lib.hid (L.keep (below_one w (.cells #[.int .i64 0, .int .i64 0] 50)))
  have HC := Lib.hid (fun w L => cut_any l 47 hl w L)
  have hle := cut_le l [47]
  obtain ⟨A, hA⟩ : ∃ A, A = (cut l [47]).1 := ⟨_, rfl⟩
  obtain ⟨B, hB⟩ : ∃ B, B = (cut l [47]).2.1 := ⟨_, rfl⟩
  obtain ⟨f, hf⟩ : ∃ f, f = (cut l [47]).2.2 := ⟨_, rfl⟩
  rw [← hA, ← hB, ← hf] at HC
  rw [← hA, ← hB] at hle
  have HE : Hid (readR l = match atoiAll A with | .ok n => if f = true then (match atoiAll B with | .ok d => some (n, d) | _ => none) else some (n, 1) | _ => none) := Lib.hid (by rw [hA, hB, hf]; rfl)
  have HN := Lib.hid (NB.new w 0 0 50)
  have HW0 := Lib.hid (below_one w (.cells #[.int .i64 0, .int .i64 0] 50))
  clear hA hB hf L
  by_cases hok : ∃ n, atoiAll A = .ok n
  · obtain ⟨n, hn⟩ := hok
    have HAt := Lib.hid (fun w => atoi_yes A (by omega) n hn w)
    cases f with
    | false =>
      have HR : Hid (readR l = some (n, 1)) := Lib.hid (by rw [HE.out, hn]; rfl)
      clear hn hle
      go_enter Tryz.func90, Tryz.ntmps90
      go_wp2_with fail
      refine (HC.out _ HL.out).mono ?_
      rintro e w1 ⟨rfl, hb1⟩
      have HB1 := Lib.hid hb1
      have HN1 := Lib.hid (HN.out.keep hb1)
      clear hb1
      go_wp2_with fail
      refine (HAt.out _).mono ?_
      rintro e w2 ⟨rfl, hb2⟩
      have HB2 := Lib.hid (bel_up (bel_up HW0.out HB1.out) hb2)
      have HN2 := Lib.hid (HN1.out.keep hb2)
      clear hb2
      obtain ⟨c0, c1, f0, f1, lt⟩ := HN2.out
      go_wp2_with fail
      exact bodyPost_ret (v := .tuple #[.agg #[.int .i64 n, .int .i64 1], .bool true]) (by simp [results, Tryz.results90, go_sem, c0, c1]) rfl ⟨by rw [HR.out]; rfl, bel_set2 HB2.out (Nat.le_refl _) _ _⟩
    | true =>
      by_cases hok2 : ∃ d, atoiAll B = .ok d
      · obtain ⟨d, hd⟩ := hok2
        have HAt2 := Lib.hid (fun w => atoi_yes B (by omega) d hd w)
        have HR : Hid (readR l = some (n, d)) := Lib.hid (by rw [HE.out, hn, hd]; rfl)
        clear hn hd hle
        go_enter Tryz.func90, Tryz.ntmps90
        go_wp2_with fail
        refine (HC.out _ HL.out).mono ?_
        rintro e w1 ⟨rfl, hb1⟩
        have HB1 := Lib.hid hb1
        have HN1 := Lib.hid (HN.out.keep hb1)
        clear hb1
        go_wp2_with fail
        refine (HAt.out _).mono ?_
        rintro e w2 ⟨rfl, hb2⟩
        have HB2 := Lib.hid (bel_up (bel_up HW0.out HB1.out) hb2)
        have HL2 := Lib.hid ((HL.out.keep HB1.out).keep hb2)
        have HN2 := Lib.hid (HN1.out.keep hb2)
        clear hb2
        go_wp2_with fail
        refine (HAt2.out _).mono ?_
        rintro e w3 ⟨rfl, hb3⟩
        have HB3 := Lib.hid (bel_up HB2.out hb3)
        have HN3 := Lib.hid (HN2.out.keep hb3)
        clear hb3
        obtain ⟨c0, c1, f0, f1, lt⟩ := HN3.out
        go_wp2_with fail
        exact bodyPost_ret (v := .tuple #[.agg #[.int .i64 n, .int .i64 d], .bool true]) (by simp [results, Tryz.results90, go_sem, c0, c1]) rfl ⟨by rw [HR.out]; rfl, bel_set2 HB3.out (Nat.le_refl _) _ _⟩
      · have hno : ∀ v, atoiAll B ≠ .ok v := fun v e => hok2 ⟨v, e⟩
        have HAt2 := Lib.hid (fun w L => atoi_no B (by omega) hno w L)
        have HR : Hid (readR l = none) := Lib.hid (by
          rw [HE.out, hn]
          cases e : atoiAll B
          · exact absurd e (hno _)
          · rfl
          · rfl)
        clear hn hno hok2 hle
        go_enter Tryz.func90, Tryz.ntmps90
        go_wp2_with fail
        refine (HC.out _ HL.out).mono ?_
        rintro e w1 ⟨rfl, hb1⟩
        have HB1 := Lib.hid hb1
        have HN1 := Lib.hid (HN.out.keep hb1)
        clear hb1
        go_wp2_with fail
        refine (HAt.out _).mono ?_
        rintro e w2 ⟨rfl, hb2⟩
        have HB2 := Lib.hid (bel_up (bel_up HW0.out HB1.out) hb2)
        have HL2 := Lib.hid ((HL.out.keep HB1.out).keep hb2)
        have HN2 := Lib.hid (HN1.out.keep hb2)
        clear hb2
        go_wp2_with fail
        refine (HAt2.out _ HL2.out).mono ?_
        rintro e w3 ⟨⟨x, N, rfl⟩, hb3⟩
        have HB3 := Lib.hid (bel_up HB2.out hb3)
        have HN3 := Lib.hid (HN2.out.keep hb3)
        clear hb3
        obtain ⟨c0, c1, f0, f1, lt⟩ := HN3.out
        go_wp2_with fail
        exact bodyPost_ret (v := .tuple #[.agg #[.int .i64 0, .int .i64 0], .bool false]) (by simp [results, Tryz.results90, go_sem, c0, c1]) rfl ⟨by rw [HR.out]; rfl, bel_set2 HB3.out (Nat.le_refl _) _ _⟩
  · have hno : ∀ v, atoiAll A ≠ .ok v := fun v e => hok ⟨v, e⟩
    have HAt := Lib.hid (fun w L => atoi_no A (by omega) hno w L)
    have HR : Hid (readR l = none) := Lib.hid (by
      rw [HE.out]
      cases e : atoiAll A
      · exact absurd e (hno _)
      · rfl
      · rfl)
    clear hno hok hle
    go_enter Tryz.func90, Tryz.ntmps90
    go_wp2_with fail
    refine (HC.out _ HL.out).mono ?_
    rintro e w1 ⟨rfl, hb1⟩
    have HB1 := Lib.hid hb1
    have HN1 := Lib.hid (HN.out.keep hb1)
    clear hb1
    go_wp2_with fail
    refine (HAt.out _ (HL.out.keep HB1.out)).mono ?_
    rintro e w2 ⟨⟨x, N, rfl⟩, hb2⟩
    have HB2 := Lib.hid (bel_up (bel_up HW0.out HB1.out) hb2)
    have HN2 := Lib.hid (HN1.out.keep hb2)
    clear hb2
    obtain ⟨c0, c1, f0, f1, lt⟩ := HN2.out
    go_wp2_with fail
    exact bodyPost_ret (v := .tuple #[.agg #[.int .i64 0, .int .i64 0], .bool false]) (by simp [results, Tryz.results90, go_sem, c0, c1]) rfl ⟨by rw [HR.out]; rfl, bel_set2 HB2.out (Nat.le_refl _) _ _⟩

end Go.Proofs.YtdmdgoeacafpiaaGreatDoor

namespace Go.Proofs.YtdmdgoeacafpiaaGreatDoor
open Go.RowKit Go.Lib
set_option linter.unusedVariables false

def I64 (n : Int) : Prop := -9223372036854775808 ≤ n ∧ n ≤ 9223372036854775807
theorem atoi_bd {l : List UInt8} {v : Int} (h : atoiAll l = .ok v) : I64 v := by
  unfold atoiAll at h
  split at h
  · cases h
  · rename_i c r
    simp only at h
    split at h
    · cases h
    · cases h
    · rename_i u _
      split at h
      · cases h
      · split at h
        · cases h
        · injection h with h
          subst h
          unfold I64
          split <;> omega
theorem readR_bd {l : List UInt8} {n d : Int} (h : readR l = some (n, d)) : I64 n ∧ I64 d := by
  unfold readR at h
  split at h
  · rename_i m hm
    split at h
    · split at h
      · rename_i k hk
        injection h with h
        injection h with h1 h2
        subst h1; subst h2
        exact ⟨atoi_bd hm, atoi_bd hk⟩
      · cases h
    · injection h with h
      injection h with h1 h2
      subst h1; subst h2
      exact ⟨atoi_bd hm, by unfold I64; omega⟩
  · cases h
theorem readR_txt {n d : Int} (hn : I64 n) (hd : I64 d) : readR (txt n d) = some (n, d) := by
  unfold txt
  by_cases h : d = 1
  · subst h
    rw [if_pos rfl]
    unfold readR
    rw [cut_none (itoa_slash n)]
    simp only [atoi_itoa hn.1 hn.2]
    rfl
  · rw [if_neg h]
    unfold readR
    rw [cut_at (itoa_slash n)]
    simp only [atoi_itoa hn.1 hn.2, atoi_itoa hd.1 hd.2, if_true]
theorem txt_inj {n d m e : Int} (hn : I64 n) (hd : I64 d) (hm : I64 m) (he : I64 e) (h : txt n d = txt m e) : n = m ∧ d = e := by
  have h1 := readR_txt hn hd
  rw [h, readR_txt hm he] at h1
  injection h1 with h1
  injection h1 with h1 h2
  exact ⟨h1.symm, h2.symm⟩

set_option maxHeartbeats 1000000 in
set_option maxRecDepth 100000 in
theorem parse_yes (l : List UInt8) (hl : l.length ≤ 3000) (n d : Int) (hn : I64 n) (hd : I64 d) (hk : chkE n d = 0) (he : l = txt n d) (w : World) (L : LibW w) :
    Calls Tryz.prog 62 #[.string ⟨l.toArray⟩] w fun e w' => e = .returned (.tuple #[.agg #[.int .i64 n, .int .i64 d], .int .i64 0]) ∧ Below w.heap.size w w' := by
  have hrd : readR l = some (n, d) := by rw [he]; exact readR_txt hn hd
  have HR := Lib.hid (fun w L => read_any l hl w L)
  rw [hrd] at HR
  have HP := Lib.hid (fun w L => print_ok n d w L hn.1 hn.2 hd.1 hd.2 hk)
  rw [← he] at HP
  have HL := Lib.hid (L.keep (below_one w (.cells #[.int .i64 0, .int .i64 0] 50)))
  have HN := Lib.hid (NB.new w 0 0 50)
  have HW0 := Lib.hid (below_one w (.cells #[.int .i64 0, .int .i64 0] 50))
  clear he hk hrd L hn hd
  go_enter Tryz.func62, Tryz.ntmps62
  go_wp2_with fail
  refine (HR.out _ HL.out).mono ?_
  rintro e w1 ⟨rfl, hb1⟩
  have HB1 := Lib.hid (bel_up HW0.out hb1)
  have HN1 := Lib.hid (HN.out.keep hb1)
  have HL1 := Lib.hid (HL.out.keep hb1)
  clear hb1
  have HM := Lib.hid (NB.new w1 n d 50)
  have HB2 := Lib.hid (bel_up HB1.out (below_one w1 (.cells #[.int .i64 n, .int .i64 d] 50)))
  have HN2 := Lib.hid (HN1.out.keep (below_one w1 (.cells #[.int .i64 n, .int .i64 d] 50)))
  have HL2 := Lib.hid (HL1.out.keep (below_one w1 (.cells #[.int .i64 n, .int .i64 d] 50)))
  go_wp2_with fail
  refine (HP.out _ HL2.out).mono ?_
  rintro e w3 ⟨rfl, hb3⟩
  have HB3 := Lib.hid (bel_up HB2.out hb3)
  have HN3 := Lib.hid (HN2.out.keep hb3)
  have HM3 := Lib.hid (HM.out.keep hb3)
  clear hb3
  obtain ⟨c0, c1, f0, f1, lt⟩ := HN3.out
  obtain ⟨m0, m1, _, _, _⟩ := HM3.out
  go_wp2_with fail
  exact bodyPost_ret (v := .tuple #[.agg #[.int .i64 n, .int .i64 d], .int .i64 0]) (by simp [results, Tryz.results62, go_sem, c0, c1]) rfl ⟨rfl, bel_set2 HB3.out (Nat.le_refl _) _ _⟩

set_option maxHeartbeats 1000000 in
set_option maxRecDepth 100000 in
theorem parse_none (l : List UInt8) (hl : l.length ≤ 3000) (hrd : readR l = none) (w : World) (L : LibW w) :
    Calls Tryz.prog 62 #[.string ⟨l.toArray⟩] w fun e w' => e = .returned (.tuple #[.agg #[.int .i64 0, .int .i64 0], .int .i64 13]) ∧ Below w.heap.size w w' := by
  have HR := Lib.hid (fun w L => read_any l hl w L)
  rw [hrd] at HR
  have HL := Lib.hid (L.keep (below_one w (.cells #[.int .i64 0, .int .i64 0] 50)))
  have HN := Lib.hid (NB.new w 0 0 50)
  have HW0 := Lib.hid (below_one w (.cells #[.int .i64 0, .int .i64 0] 50))
  clear hrd L
  go_enter Tryz.func62, Tryz.ntmps62
  go_wp2_with fail
  refine (HR.out _ HL.out).mono ?_
  rintro e w1 ⟨rfl, hb1⟩
  have HB1 := Lib.hid (bel_up HW0.out hb1)
  have HN1 := Lib.hid (HN.out.keep hb1)
  have HL1 := Lib.hid (HL.out.keep hb1)
  clear hb1
  have HM := Lib.hid (NB.new w1 0 0 50)
  have HB2 := Lib.hid (bel_up HB1.out (below_one w1 (.cells #[.int .i64 0, .int .i64 0] 50)))
  have HN2 := Lib.hid (HN1.out.keep (below_one w1 (.cells #[.int .i64 0, .int .i64 0] 50)))
  have HL2 := Lib.hid (HL1.out.keep (below_one w1 (.cells #[.int .i64 0, .int .i64 0] 50)))
  obtain ⟨c0, c1, f0, f1, lt⟩ := HN2.out
  go_wp2_with fail
  exact bodyPost_ret (v := .tuple #[.agg #[.int .i64 0, .int .i64 0], .int .i64 13]) (by simp [results, Tryz.results62, go_sem, c0, c1]) rfl ⟨rfl, bel_set2 HB2.out (Nat.le_refl _) _ _⟩

set_option maxHeartbeats 1000000 in
set_option maxRecDepth 100000 in
theorem parse_chk (l : List UInt8) (hl : l.length ≤ 3000) (n d : Int) (hrd : readR l = some (n, d)) (k : Int) (hk : chkE n d = k) (hk0 : k ≠ 0) (w : World) (L : LibW w) :
    Calls Tryz.prog 62 #[.string ⟨l.toArray⟩] w fun e w' => e = .returned (.tuple #[.agg #[.int .i64 0, .int .i64 0], .int .i64 13]) ∧ Below w.heap.size w w' := by
  obtain ⟨hn, hd⟩ := readR_bd hrd
  have HR := Lib.hid (fun w L => read_any l hl w L)
  rw [hrd] at HR
  have HP := Lib.hid (fun w => print_bad n d k w hn.1 hn.2 hd.1 hd.2 hk hk0)
  have hkb : (k != 0) = true := by simpa using hk0
  have HL := Lib.hid (L.keep (below_one w (.cells #[.int .i64 0, .int .i64 0] 50)))
  have HN := Lib.hid (NB.new w 0 0 50)
  have HW0 := Lib.hid (below_one w (.cells #[.int .i64 0, .int .i64 0] 50))
  clear hrd hk hk0 L hn hd
  go_enter Tryz.func62, Tryz.ntmps62
  go_wp2_with fail
  refine (HR.out _ HL.out).mono ?_
  rintro e w1 ⟨rfl, hb1⟩
  have HB1 := Lib.hid (bel_up HW0.out hb1)
  have HN1 := Lib.hid (HN.out.keep hb1)
  have HL1 := Lib.hid (HL.out.keep hb1)
  clear hb1
  have HM := Lib.hid (NB.new w1 n d 50)
  have HB2 := Lib.hid (bel_up HB1.out (below_one w1 (.cells #[.int .i64 n, .int .i64 d] 50)))
  have HN2 := Lib.hid (HN1.out.keep (below_one w1 (.cells #[.int .i64 n, .int .i64 d] 50)))
  have HL2 := Lib.hid (HL1.out.keep (below_one w1 (.cells #[.int .i64 n, .int .i64 d] 50)))
  go_wp2_with fail
  refine (HP.out _).mono ?_
  rintro e w3 ⟨rfl, hb3⟩
  have HB3 := Lib.hid (bel_up HB2.out hb3)
  have HN3 := Lib.hid (HN2.out.keep hb3)
  have HM3 := Lib.hid (HM.out.keep hb3)
  clear hb3
  obtain ⟨c0, c1, f0, f1, lt⟩ := HN3.out
  obtain ⟨m0, m1, _, _, _⟩ := HM3.out
  go_wp2_with fail
  exact bodyPost_ret (v := .tuple #[.agg #[.int .i64 0, .int .i64 0], .int .i64 13]) (by simp [results, Tryz.results62, go_sem, c0, c1]) rfl ⟨rfl, bel_set2 HB3.out (Nat.le_refl _) _ _⟩

set_option maxHeartbeats 1000000 in
set_option maxRecDepth 100000 in
theorem parse_other (l : List UInt8) (hl : l.length ≤ 3000) (n d : Int) (hrd : readR l = some (n, d)) (hk : chkE n d = 0) (hne : txt n d ≠ l) (w : World) (L : LibW w) :
    Calls Tryz.prog 62 #[.string ⟨l.toArray⟩] w fun e w' => e = .returned (.tuple #[.agg #[.int .i64 0, .int .i64 0], .int .i64 13]) ∧ Below w.heap.size w w' := by
  obtain ⟨hn, hd⟩ := readR_bd hrd
  have HR := Lib.hid (fun w L => read_any l hl w L)
  rw [hrd] at HR
  have HP := Lib.hid (fun w L => print_ok n d w L hn.1 hn.2 hd.1 hd.2 hk)
  obtain ⟨X, hX⟩ : ∃ X, X = txt n d := ⟨_, rfl⟩
  rw [← hX] at HP hne
  have hb1 : ((⟨X.toArray⟩ : ByteArray).toList == (⟨l.toArray⟩ : ByteArray).toList) = false := by
    rw [Lib.toList_data, Lib.toList_data]; simpa using hne
  have hb2 : (X == l) = false := by simpa using hne
  have HL := Lib.hid (L.keep (below_one w (.cells #[.int .i64 0, .int .i64 0] 50)))
  have HN := Lib.hid (NB.new w 0 0 50)
  have HW0 := Lib.hid (below_one w (.cells #[.int .i64 0, .int .i64 0] 50))
  clear hrd hk L hn hd hX
  go_enter Tryz.func62, Tryz.ntmps62
  go_wp2_with fail
  refine (HR.out _ HL.out).mono ?_
  rintro e w1 ⟨rfl, hb1⟩
  have HB1 := Lib.hid (bel_up HW0.out hb1)
  have HN1 := Lib.hid (HN.out.keep hb1)
  have HL1 := Lib.hid (HL.out.keep hb1)
  clear hb1
  have HM := Lib.hid (NB.new w1 n d 50)
  have HB2 := Lib.hid (bel_up HB1.out (below_one w1 (.cells #[.int .i64 n, .int .i64 d] 50)))
  have HN2 := Lib.hid (HN1.out.keep (below_one w1 (.cells #[.int .i64 n, .int .i64 d] 50)))
  have HL2 := Lib.hid (HL1.out.keep (below_one w1 (.cells #[.int .i64 n, .int .i64 d] 50)))
  go_wp2_with fail
  refine (HP.out _ HL2.out).mono ?_
  rintro e w3 ⟨rfl, hb3⟩
  have HB3 := Lib.hid (bel_up HB2.out hb3)
  have HN3 := Lib.hid (HN2.out.keep hb3)
  have HM3 := Lib.hid (HM.out.keep hb3)
  clear hb3
  obtain ⟨c0, c1, f0, f1, lt⟩ := HN3.out
  obtain ⟨m0, m1, _, _, _⟩ := HM3.out
  go_wp2_with fail
  exact bodyPost_ret (v := .tuple #[.agg #[.int .i64 0, .int .i64 0], .int .i64 13]) (by simp [results, Tryz.results62, go_sem, c0, c1]) rfl ⟨rfl, bel_set2 HB3.out (Nat.le_refl _) _ _⟩

theorem parse_no (l : List UInt8) (hl : l.length ≤ 3000) (h : ∀ n d, I64 n → I64 d → chkE n d = 0 → l ≠ txt n d) (w : World) (L : LibW w) :
    Calls Tryz.prog 62 #[.string ⟨l.toArray⟩] w fun e w' => e = .returned (.tuple #[.agg #[.int .i64 0, .int .i64 0], .int .i64 13]) ∧ Below w.heap.size w w' := by
  cases hr : readR l with
  | none => exact parse_none l hl hr w L
  | some p =>
    obtain ⟨n, d⟩ := p
    obtain ⟨hn, hd⟩ := readR_bd hr
    by_cases hk : chkE n d = 0
    · exact parse_other l hl n d hr hk (fun e => h n d hn hd hk e.symm) w L
    · exact parse_chk l hl n d hr _ rfl hk w L

end Go.Proofs.YtdmdgoeacafpiaaGreatDoor

namespace Go.Proofs.YtdmdgoeacafpiaaGreatDoor
open Go.RowKit Go.Lib
set_option linter.unusedVariables false

theorem itoa_tail (m : Int) (k : Nat) (hk : 0 < k) {c : UInt8} (h : (itoa m)[k]? = some c) : isDg c = true := by
  unfold itoa at h
  split at h
  · obtain ⟨j, rfl⟩ : ∃ j, k = j + 1 := ⟨k - 1, by omega⟩
    exact dec_digs _ c (List.mem_of_getElem? (by simpa using h))
  · exact dec_digs _ c (List.mem_of_getElem? h)
theorem itoa_first (m : Int) {c : UInt8} (h : (itoa m)[0]? = some c) : (c.toNat = 45 ∧ m < 0) ∨ (isDg c = true ∧ ¬ m < 0) := by
  unfold itoa at h
  split at h
  · rename_i hm
    simp at h; subst h; exact Or.inl ⟨rfl, hm⟩
  · rename_i hm
    exact Or.inr ⟨dec_digs _ c (List.mem_of_getElem? h), hm⟩
theorem wrap64_I64 (n : Int) : I64 (wrap64 n) := by unfold wrap64 I64; omega

/-- What Number's loop has by now. -/
def NumI (l : List UInt8) (k : Nat) (n : Int) : Prop := I64 n ∧ ∀ m, I64 m → l = itoa m → n = negV (l.take k)
theorem take_snoc' {l : List UInt8} {k : Nat} {c : UInt8} (h : l[k]? = some c) : l.take (k + 1) = l.take k ++ [c] := by
  rw [List.take_add_one, h]; rfl
theorem NumI.start (l : List UInt8) : NumI l 0 0 := ⟨by unfold I64; omega, fun _ _ _ => rfl⟩
theorem NumI.sign {l : List UInt8} {n : Int} {c : UInt8} (h : NumI l 0 n) (hc : l[0]? = some c) (h45 : c.toNat = 45) : NumI l 1 n := by
  refine ⟨h.1, fun m hm e => ?_⟩
  rw [h.2 m hm e, take_snoc' hc, negV_snoc_no]
  unfold isDg; rw [h45]; rfl
theorem NumI.digit {l : List UInt8} {k : Nat} {n : Int} {c : UInt8} (h : NumI l k n) (hc : l[k]? = some c) (hd : isDg c = true) : NumI l (k + 1) (wrap64 (wrap64 (10 * n) - ((c.toNat : Int) - 48))) := by
  refine ⟨wrap64_I64 _, fun m hm e => ?_⟩
  have e1 := h.2 m hm e
  have e2 := negV_snoc_dg (l := l.take k) hd
  have b1 := negV_take_le l k
  have b2 := negV_take_le l (k + 1)
  have b3 := negV_itoa m
  have hdd := isDg_iff.1 hd
  rw [take_snoc' hc] at b2 ⊢
  rw [← e] at b3
  rw [e2] at b2 ⊢
  rw [← e1] at b1 b2 ⊢
  have hb : -9223372036854775808 ≤ negV l := by rw [b3]; unfold I64 at hm; split <;> omega
  rw [IntWalk.wrap64_in (10 * n) ⟨by omega, by omega⟩, IntWalk.wrap64_in _ ⟨by omega, by omega⟩]
theorem numI_no {l : List UInt8} {k : Nat} {c : UInt8} (hc : l[k]? = some c) (hd : isDg c = false) (h0 : ¬ (k = 0 ∧ c.toNat = 45)) : ∀ m, I64 m → l ≠ itoa m := by
  intro m _ e
  rw [e] at hc
  rcases Nat.eq_zero_or_pos k with rfl | g
  · rcases itoa_first m hc with ⟨h1, _⟩ | ⟨h1, _⟩
    · exact h0 ⟨rfl, h1⟩
    · rw [hd] at h1; cases h1
  · have := itoa_tail m k g hc
    rw [hd] at this; cases this

/-- What Number answers. -/
def NumAns (l : List UInt8) (w : World) (e : Ending) (w' : World) : Prop :=
  (∃ (x : Int) (b : Bool), e = .returned (.tuple #[.int .i64 x, .bool b]) ∧ I64 x ∧ ∀ m, I64 m → l = itoa m → x = m ∧ b = true) ∧ Below w.heap.size w w'
theorem NumAns.no {l : List UInt8} {w : World} (h : ∀ m, I64 m → l ≠ itoa m) : NumAns l w (.returned (.tuple #[.int .i64 0, .bool false])) w :=
  ⟨⟨0, false, rfl, by unfold I64; omega, fun m hm e => absurd e (h m hm)⟩, Below.refl _ _⟩
theorem get_some (s : ByteArray) (k : Nat) (h : k < s.size) : s.data.toList[k]? = some s[k] := by
  rw [List.getElem?_eq_getElem (by simpa using h)]; rfl

set_option maxHeartbeats 2000000 in
set_option maxRecDepth 100000 in
theorem number_any (s : ByteArray) (hs : s.size ≤ 3000) (w : World) :
    Calls Tryz.prog 46 #[.string s] w (NumAns s.data.toList w) := by
  obtain ⟨l, hl⟩ : ∃ l, l = s.data.toList := ⟨_, rfl⟩
  have hsz : s.size = l.length := by rw [hl, Lib.size_eq]
  rw [← hl]
  by_cases h20 : 20 < s.size
  · have HNo := Lib.hid (NumAns.no (l := l) (w := w) (fun m hm e => by have := itoa_len20 hm.1 hm.2; rw [← e] at this; omega))
    clear hl hsz
    go_enter Tryz.func46, Tryz.ntmps46
    go_wp2_with fail
    go_ret2
    exact HNo.out
  · by_cases h0 : s.size = 0
    · have HNo := Lib.hid (NumAns.no (l := l) (w := w) (fun m hm e => by have := itoa_ne m; rw [← e] at this; exact this (List.eq_nil_of_length_eq_zero (by omega))))
      have he : s.toList = [] := by rw [Lib.toList_data, ← hl]; exact List.eq_nil_of_length_eq_zero (by omega)
      clear hl hsz
      go_enter Tryz.func46, Tryz.ntmps46
      go_wp2_with fail
      go_ret2
      exact HNo.out
    · have hp : 0 < s.size := by omega
      have he : s.toList.isEmpty = false := by
        rw [Lib.toList_data, ← hl]
        cases h : l with
        | nil => have e := hsz; rw [h] at e; simp only [List.length_nil] at e; omega
        | cons _ _ => rfl
      have HG := Lib.hid (fun k (h : k < s.size) => (show l[k]? = some s[k] by rw [hl]; exact get_some s k h))
      have HS := Lib.hid hsz
      have HD := Lib.hid hl
      clear hl hsz
      go_enter Tryz.func46, Tryz.ntmps46
      go_wp2_with fail
      go_loop [4, 5] (fun vn vi => ∃ (k : Nat) (n : Int), k ≤ s.size ∧ vi = .int .i64 k ∧ vn = .int .i64 n ∧ NumI l k n) (fun _ vi => s.size - (RowKit.intOf vi).toNat)
      case atStart => exact ⟨0, 0, Nat.zero_le _, rfl, rfl, NumI.start l⟩
      case round =>
        obtain ⟨k, n, hk, rfl, rfl, hni⟩ := hrel
        by_cases hlt : k < s.size
        · have hg := HG.out k hlt
          by_cases hk0 : k = 0
          · subst hk0
            by_cases h45 : s[0].toNat = 45
            · have hb : ((s[0].toNat : Int) == 45) = true := by simp; omega
              have HStep := Lib.hid (hni.sign hg h45)
              clear hni hg h45
              go_wp2_with fail
              go_round
              case rel => exact ⟨1, n, by omega, by go_num, rfl, HStep.out⟩
              case measure => simp [RowKit.intOf]; omega
            · have hb : ((s[0].toNat : Int) == 45) = false := by simp; omega
              have H0 : ¬ (0 = 0 ∧ s[0].toNat = 45) := fun h => h45 h.2
              by_cases hd : isDg s[0] = true
              · have hdd := isDg_iff.1 hd
                have HStep := Lib.hid (hni.digit hg hd)
                have hd1 : ¬ (s[0].toNat : Int) < 48 := by omega
                have hd2 : ¬ 57 < (s[0].toNat : Int) := by omega
                clear H0 h45 hni hg hdd hd
                go_wp2_with fail
                go_round
                case rel => exact ⟨0 + 1, _, by omega, by go_num, rfl, HStep.out⟩
                case measure => simp [RowKit.intOf]; omega
              · have hdf : isDg s[0] = false := by simpa using hd
                have HNo := Lib.hid (NumAns.no (l := l) (w := w) (numI_no hg hdf H0))
                have hcase : (s[0].toNat : Int) < 48 ∨ 57 < (s[0].toNat : Int) := by
                  unfold isDg at hdf
                  simp at hdf
                  omega
                clear H0 h45 hni hg hd hdf
                rcases hcase with hlow | hhigh
                · go_wp2_with fail
                  go_ret2
                  exact HNo.out
                · have hd1 : ¬ (s[0].toNat : Int) < 48 := by omega
                  go_wp2_with fail
                  go_ret2
                  exact HNo.out
          · have hkb : ((k : Int) == 0) = false := by simp; omega
            have H0 : ¬ (k = 0 ∧ s[k].toNat = 45) := fun h => hk0 h.1
            by_cases hd : isDg s[k] = true
            · have hdd := isDg_iff.1 hd
              have HStep := Lib.hid (hni.digit hg hd)
              have hd1 : ¬ (s[k].toNat : Int) < 48 := by omega
              have hd2 : ¬ 57 < (s[k].toNat : Int) := by omega
              clear H0 hk0 hni hg hdd hd
              go_wp2_with fail
              go_round
              case rel => exact ⟨k + 1, _, by omega, by go_num, rfl, HStep.out⟩
              case measure => simp [RowKit.intOf]; omega
            · have hdf : isDg s[k] = false := by simpa using hd
              have HNo := Lib.hid (NumAns.no (l := l) (w := w) (numI_no hg hdf H0))
              have hcase : (s[k].toNat : Int) < 48 ∨ 57 < (s[k].toNat : Int) := by
                unfold isDg at hdf
                simp at hdf
                omega
              clear H0 hk0 hni hg hd hdf
              rcases hcase with hlow | hhigh
              · go_wp2_with fail
                go_ret2
                exact HNo.out
              · have hd1 : ¬ (s[k].toNat : Int) < 48 := by omega
                go_wp2_with fail
                go_ret2
                exact HNo.out
        · obtain rfl : k = s.size := by omega
          have HNI := Lib.hid hni
          obtain ⟨ni, nn⟩ := hni
          have hn0 : -9223372036854775808 ≤ n := ni.1
          have hn1 : n ≤ 9223372036854775807 := ni.2
          clear ni nn
          by_cases h45 : s[0].toNat = 45
          · have hb : ((s[0].toNat : Int) != 45) = false := by simp; omega
            obtain ⟨x, hx⟩ : ∃ x, x = n := ⟨_, rfl⟩
            have HSpec : Hid (I64 x ∧ ∀ m, I64 m → l = itoa m → x = m) := Lib.hid ⟨by rw [hx]; exact HNI.out.1, fun m hm e => by
              have e1 := HNI.out.2 m hm e
              rw [List.take_of_length_le (by have := HS.out; omega), e, negV_itoa] at e1
              have hg := HG.out 0 hp
              rw [e] at hg
              rcases itoa_first m hg with ⟨_, h2⟩ | ⟨h1, _⟩
              · rw [if_pos h2] at e1; omega
              · have := isDg_iff.1 h1; omega⟩
            subst hx
            have hx0 : -9223372036854775808 ≤ x := HSpec.out.1.1
            have hx1 : x ≤ 9223372036854775807 := HSpec.out.1.2
            have HDec := Lib.hid (fun w => dec_any x w hx0 hx1)
            obtain ⟨X, hX⟩ : ∃ X, X = itoa x := ⟨_, rfl⟩
            rw [← hX] at HDec
            have HX := Lib.hid hX
            clear hX h45
            by_cases hE : X = l
            · have hc : (X == s.toList) = true := by rw [Lib.toList_data, ← HD.out, hE]; simp
              have HE := Lib.hid hE
              clear hE
              go_wp2_with fail
              refine (HDec.out _).mono ?_
              rintro e w1 ⟨rfl, hb1⟩
              go_wp2_with fail
              go_ret2
              exact ⟨⟨x, true, rfl, HSpec.out.1, fun m hm e => ⟨HSpec.out.2 m hm e, rfl⟩⟩, hb1⟩
            · have hc : (X == s.toList) = false := by rw [Lib.toList_data, ← HD.out]; simpa using hE
              have HE := Lib.hid hE
              clear hE
              go_wp2_with fail
              refine (HDec.out _).mono ?_
              rintro e w1 ⟨rfl, hb1⟩
              go_wp2_with fail
              go_ret2
              exact ⟨⟨x, false, rfl, HSpec.out.1, fun m hm e => absurd (HX.out.trans (by rw [HSpec.out.2 m hm e]; exact e.symm)) HE.out⟩, hb1⟩
          · have hb : ((s[0].toNat : Int) != 45) = true := by simp; omega
            obtain ⟨x, hx⟩ : ∃ x, wrap64 (-n) = x := ⟨_, rfl⟩
            have HSpec : Hid (I64 x ∧ ∀ m, I64 m → l = itoa m → x = m) := Lib.hid ⟨by rw [← hx]; exact wrap64_I64 _, fun m hm e => by
              have e1 := HNI.out.2 m hm e
              rw [List.take_of_length_le (by have := HS.out; omega), e, negV_itoa] at e1
              have hg := HG.out 0 hp
              rw [e] at hg
              rcases itoa_first m hg with ⟨h2, _⟩ | ⟨_, h2⟩
              · exact absurd h2 h45
              · rw [if_neg h2] at e1; rw [← hx, e1, IntWalk.wrap64_in _ ⟨by unfold I64 at hm; omega, by unfold I64 at hm; omega⟩]; omega⟩
            have hx0 : -9223372036854775808 ≤ x := HSpec.out.1.1
            have hx1 : x ≤ 9223372036854775807 := HSpec.out.1.2
            have HDec := Lib.hid (fun w => dec_any x w hx0 hx1)
            obtain ⟨X, hX⟩ : ∃ X, X = itoa x := ⟨_, rfl⟩
            rw [← hX] at HDec
            have HX := Lib.hid hX
            clear hX h45
            by_cases hE : X = l
            · have hc : (X == s.toList) = true := by rw [Lib.toList_data, ← HD.out, hE]; simp
              have HE := Lib.hid hE
              clear hE
              go_wp2_with fail
              refine (HDec.out _).mono ?_
              rintro e w1 ⟨rfl, hb1⟩
              go_wp2_with fail
              go_ret2
              exact ⟨⟨x, true, rfl, HSpec.out.1, fun m hm e => ⟨HSpec.out.2 m hm e, rfl⟩⟩, hb1⟩
            · have hc : (X == s.toList) = false := by rw [Lib.toList_data, ← HD.out]; simpa using hE
              have HE := Lib.hid hE
              clear hE
              go_wp2_with fail
              refine (HDec.out _).mono ?_
              rintro e w1 ⟨rfl, hb1⟩
              go_wp2_with fail
              go_ret2
              exact ⟨⟨x, false, rfl, HSpec.out.1, fun m hm e => absurd (HX.out.trans (by rw [HSpec.out.2 m hm e]; exact e.symm)) HE.out⟩, hb1⟩

end Go.Proofs.YtdmdgoeacafpiaaGreatDoor

namespace Go.Proofs.YtdmdgoeacafpiaaGreatDoor
open Go.RowKit Go.Lib
set_option linter.unusedVariables false

theorem idx_here {l : List UInt8} {k : Nat} (h : (47 : UInt8) ∉ l.take k) (hc : l[k]? = some 47) : l.idxOf 47 = k := by
  have hk : k < l.length := (List.getElem?_eq_some_iff.1 hc).1
  have e : l = l.take k ++ 47 :: l.drop (k + 1) := by
    have h1 : l.drop k = l[k] :: l.drop (k + 1) := List.drop_eq_getElem_cons hk
    have h2 : l[k] = 47 := (List.getElem?_eq_some_iff.1 hc).2
    rw [h2] at h1
    rw [← h1, List.take_append_drop]
  rw [e, List.idxOf_append, if_neg h]
  simp; omega
theorem idx_mem {l : List UInt8} {k : Nat} (h : (47 : UInt8) ∈ l.take k) : l.idxOf 47 < k := by
  have e : l = l.take k ++ l.drop k := (List.take_append_drop k l).symm
  rw [e, List.idxOf_append, if_pos h]
  have := List.idxOf_lt_length_of_mem h
  have := List.length_take_le k l
  omega

/-- Where the first stroke is, by now. -/
def AtI (l : List UInt8) (k a : Nat) : Prop := ((47 : UInt8) ∈ l.take k ∧ a = l.idxOf 47) ∨ ((47 : UInt8) ∉ l.take k ∧ a = l.length)
theorem AtI.start (l : List UInt8) : AtI l 0 l.length := Or.inr ⟨by simp, rfl⟩
theorem AtI.done {l : List UInt8} {a : Nat} (h : AtI l l.length a) : a = l.idxOf 47 := by
  rcases h with ⟨_, h⟩ | ⟨h1, h2⟩
  · exact h
  · rw [List.take_of_length_le (Nat.le_refl _)] at h1
    rw [h2, List.idxOf_eq_length h1]
theorem AtI.le {l : List UInt8} {k a : Nat} (h : AtI l k a) : a ≤ l.length := by
  rcases h with ⟨_, h⟩ | ⟨h1, h2⟩
  · rw [h]; exact List.idxOf_le_length
  · omega
theorem AtI.hit {l : List UInt8} {k : Nat} {a : Nat} (h : AtI l k a) (hc : l[k]? = some 47) (ha : a = l.length) (hk : k < l.length) : AtI l (k + 1) k := by
  rcases h with ⟨h1, h2⟩ | ⟨h1, h2⟩
  · have := idx_mem h1; omega
  · exact Or.inl ⟨by rw [take_snoc' hc]; simp, (idx_here h1 hc).symm⟩
theorem AtI.again {l : List UInt8} {k : Nat} {a : Nat} (h : AtI l k a) (hc : l[k]? = some 47) (ha : a ≠ l.length) : AtI l (k + 1) a := by
  rcases h with ⟨h1, h2⟩ | ⟨h1, h2⟩
  · exact Or.inl ⟨by rw [take_snoc' hc]; simp, h2⟩
  · exact absurd h2 ha
theorem AtI.miss {l : List UInt8} {k : Nat} {a : Nat} {c : UInt8} (h : AtI l k a) (hc : l[k]? = some c) (hne : c ≠ 47) : AtI l (k + 1) a := by
  rcases h with ⟨h1, h2⟩ | ⟨h1, h2⟩
  · exact Or.inl ⟨by rw [take_snoc' hc]; simp [h1], h2⟩
  · exact Or.inr ⟨by rw [take_snoc' hc]; simp [h1]; exact fun e => hne e.symm, h2⟩

/-- A ratio's text, parted at its stroke. -/
theorem txt_parts {l : List UInt8} {n d : Int} (h : l = txt n d) : (l.idxOf 47 = l.length → d = 1 ∧ l.take (l.idxOf 47) = itoa n) ∧ (l.idxOf 47 < l.length → l.take (l.idxOf 47) = itoa n ∧ l.drop (l.idxOf 47 + 1) = itoa d) := by
  unfold txt at h
  by_cases hd : d = 1
  · rw [if_pos hd] at h
    have hn : (47 : UInt8) ∉ l := by rw [h]; exact itoa_slash n
    have hi : l.idxOf 47 = l.length := List.idxOf_eq_length hn
    exact ⟨fun _ => ⟨hd, by rw [hi, List.take_of_length_le (Nat.le_refl _), h]⟩, fun hl => by omega⟩
  · rw [if_neg hd] at h
    have hi : l.idxOf 47 = (itoa n).length := by rw [h, List.idxOf_append, if_neg (itoa_slash n)]; simp
    have hl : l.length = (itoa n).length + 1 + (itoa d).length := by rw [h]; simp; omega
    refine ⟨fun e => by omega, fun _ => ⟨?_, ?_⟩⟩
    · rw [hi, h]; simp
    · rw [hi, h, List.drop_append]; simp

/-- What Parse answers. -/
def ParseAns (l : List UInt8) (w : World) (e : Ending) (w' : World) : Prop :=
  (∀ n d, I64 n → I64 d → chkE n d = 0 → l = txt n d → e = .returned (.tuple #[.agg #[.int .i64 n, .int .i64 d], .int .i64 0])) ∧
  ((∀ n d, I64 n → I64 d → chkE n d = 0 → l ≠ txt n d) → e = .returned (.tuple #[.agg #[.int .i64 0, .int .i64 0], .int .i64 13])) ∧ Below w.heap.size w w'
theorem ans_ok {l : List UInt8} {w w' : World} {x y : Int} (hx : I64 x) (hy : I64 y) (hk : chkE x y = 0) (he : txt x y = l) (hb : Below w.heap.size w w') : ParseAns l w (.returned (.tuple #[.agg #[.int .i64 x, .int .i64 y], .int .i64 0])) w' :=
  ⟨fun n d hn hd _ e => by
    obtain ⟨h1, h2⟩ := txt_inj hx hy hn hd (he.trans e)
    rw [h1, h2], fun h => absurd he.symm (h x y hx hy hk), hb⟩
/-- What both calls of Number tell. -/
def Key (l : List UInt8) (x y : Int) (b c : Bool) : Prop := ∀ n d, I64 n → I64 d → l = txt n d → x = n ∧ y = d ∧ b = true ∧ c = true
theorem ans_form {l : List UInt8} {w w' : World} {x y : Int} {b c : Bool} (hk : Key l x y b c) (h : b = false ∨ c = false ∨ chkE x y ≠ 0 ∨ txt x y ≠ l) (hb : Below w.heap.size w w') : ParseAns l w (.returned (.tuple #[.agg #[.int .i64 0, .int .i64 0], .int .i64 13])) w' := by
  refine ⟨fun n d hn hd hc e => ?_, fun _ => rfl, hb⟩
  obtain ⟨h1, h2, h3, h4⟩ := hk n d hn hd e
  subst h1; subst h2
  rcases h with h | h | h | h
  · rw [h] at h3; cases h3
  · rw [h] at h4; cases h4
  · exact absurd hc h
  · exact absurd e.symm h

theorem NB.set0 {wx : World} {Q : Nat} {x y : Int} (h : NB wx Q x y) (z : Int) : NB (wx.setCell ⟨Q, 0, none⟩ (.int .i64 z)) Q z y :=
  ⟨cell_same h.c0, by rw [cell_other (by intro e; simp at e)]; exact h.c1, by simpa using h.f0, by simpa using h.f1, by simpa using h.lt⟩
theorem NB.set1 {wx : World} {Q : Nat} {x y : Int} (h : NB wx Q x y) (z : Int) : NB (wx.setCell ⟨Q, 1, none⟩ (.int .i64 z)) Q x z :=
  ⟨by rw [cell_other (by intro e; simp at e)]; exact h.c0, cell_same h.c1, by simpa using h.f0, by simpa using h.f1, by simpa using h.lt⟩
theorem NB.far {wx : World} {Q Q' i : Nat} {x y : Int} (h : NB wx Q x y) (hQ : Q' ≠ Q) (v : Value) : NB (wx.setCell ⟨Q', i, none⟩ v) Q x y := by
  have co : ∀ j, (wx.setCell ⟨Q', i, none⟩ v).cell? ⟨Q, j, none⟩ = wx.cell? ⟨Q, j, none⟩ := fun j => cell_other (by intro e; injection e with e1 e2; exact hQ e1)
  exact ⟨(co 0).trans h.c0, (co 1).trans h.c1, by simpa using h.f0, by simpa using h.f1, by simpa using h.lt⟩

set_option maxHeartbeats 2000000 in
set_option maxRecDepth 100000 in
theorem rparse_any (s : ByteArray) (hs : s.size ≤ 3000) (w : World) :
    Calls Tryz.prog 21 #[.string s] w (ParseAns s.data.toList w) := by
  obtain ⟨l, hl⟩ : ∃ l, l = s.data.toList := ⟨_, rfl⟩
  have hsz : s.size = l.length := by rw [hl, Lib.size_eq]
  rw [← hl]
  have HG := Lib.hid (fun k (h : k < s.size) => (show l[k]? = some s[k] by rw [hl]; exact get_some s k h))
  have HS := Lib.hid hsz
  have HD := Lib.hid hl
  have HW0 := Lib.hid (below_one w (.cells #[.int .i64 0, .int .i64 0] 50))
  have HN0 := Lib.hid (NB.new w 0 0 50)
  clear hl hsz
  go_enter Tryz.func21, Tryz.ntmps21
  go_wp2_with fail
  go_loop [4, 5] (fun va vi => ∃ k a : Nat, k ≤ s.size ∧ vi = .int .i64 k ∧ va = .int .i64 a ∧ AtI l k a) (fun _ vi => s.size - (RowKit.intOf vi).toNat)
  case atStart => exact ⟨0, s.size, Nat.zero_le _, rfl, rfl, by rw [HS.out]; exact AtI.start l⟩
  case round =>
    obtain ⟨k, a, hk, rfl, rfl, hat⟩ := hrel
    by_cases hlt : k < s.size
    · have hg := HG.out k hlt
      by_cases h47 : s[k].toNat = 47
      · have e47 : s[k] = 47 := by apply UInt8.toNat_inj.1; rw [h47]; rfl
        have hb : ((s[k].toNat : Int) == 47) = true := by simp; omega
        by_cases ha : a = s.size
        · have hab : ((a : Int) == (s.size : Int)) = true := by simp; omega
          have HStep := Lib.hid (hat.hit (by rw [← e47]; exact hg) (by have := HS.out; omega) (by have := HS.out; omega))
          clear hat hg h47 e47 ha
          go_wp2_with fail
          go_round
          case rel => exact ⟨k + 1, k, by omega, by go_num, rfl, HStep.out⟩
          case measure => simp [RowKit.intOf]; omega
        · have hab : ((a : Int) == (s.size : Int)) = false := by simp; omega
          have HStep := Lib.hid (hat.again (by rw [← e47]; exact hg) (by have := HS.out; omega))
          clear hat hg h47 e47 ha
          go_wp2_with fail
          go_round
          case rel => exact ⟨k + 1, a, by omega, by go_num, rfl, HStep.out⟩
          case measure => simp [RowKit.intOf]; omega
      · have hb : ((s[k].toNat : Int) == 47) = false := by simp; omega
        have HStep := Lib.hid (hat.miss hg (fun e => h47 (by rw [e]; rfl)))
        clear hat hg h47
        go_wp2_with fail
        go_round
        case rel => exact ⟨k + 1, a, by omega, by go_num, rfl, HStep.out⟩
        case measure => simp [RowKit.intOf]; omega
    · obtain rfl : k = s.size := by omega
      have hae := AtI.done (by rw [← HS.out]; exact hat)
      have hal : a ≤ s.size := by have := hat.le; have := HS.out; omega
      have HA := Lib.hid hae
      clear hat hae hlt hk
      have hx1 : (s.extract 0 a).size ≤ 3000 := by rw [Lib.size_eq, Lib.extract_data]; simp; omega
      have HNum := Lib.hid (fun w => number_any (s.extract 0 a) hx1 w)
      have HEA : Hid ((s.extract 0 a).data.toList = l.take a) := Lib.hid (by rw [Lib.extract_data, ← HD.out]; simp)
      rw [HEA.out] at HNum
      clear hx1
      have HN1 : Hid (NB ((w.alloc (.cells #[.int .i64 0, .int .i64 0] 50)).alloc (.cells #[.int .i64 0, .int .i64 1] 50)) (w.heap.size + 1) 0 1) := Lib.hid (by
        have h := NB.new (w.alloc (.cells #[.int .i64 0, .int .i64 0] 50)) 0 1 50
        rw [show (w.alloc (.cells #[.int .i64 0, .int .i64 0] 50)).heap.size = w.heap.size + 1 by simp] at h
        exact h)
      have HN0b := Lib.hid (HN0.out.keep (below_one (w.alloc (.cells #[.int .i64 0, .int .i64 0] 50)) (.cells #[.int .i64 0, .int .i64 1] 50)))
      have HW1 := Lib.hid (bel_up HW0.out (below_one (w.alloc (.cells #[.int .i64 0, .int .i64 0] 50)) (.cells #[.int .i64 0, .int .i64 1] 50)))
      go_wp2_with fail
      refine (HNum.out _).mono ?_
      rintro e w2 ⟨⟨x, b, rfl, hx, hxs⟩, hb2⟩
      have M0 := Lib.hid ((HN0b.out.keep hb2).far (i := 0) (Q' := w.heap.size + 1) (by omega) (.int .i64 x))
      have M1 := Lib.hid ((HN1.out.keep hb2).set0 x)
      have HB2 := Lib.hid ((bel_up HW1.out hb2).setCell (p := ⟨w.heap.size + 1, 0, none⟩) (show w.heap.size ≤ w.heap.size + 1 by omega) (.int .i64 x))
      have M1a := Lib.hid (HN1.out.keep hb2)
      have HXS := Lib.hid hxs
      obtain ⟨p0, p1, q0, q1, plt⟩ := M1a.out
      clear hb2 hxs
      by_cases hlt : a < s.size
      · have hx2 : (s.extract (a + 1) s.size).size ≤ 3000 := by rw [ByteArray.size_extract]; omega
        have HNum2 := Lib.hid (fun w => number_any (s.extract (a + 1) s.size) hx2 w)
        have HEB : Hid ((s.extract (a + 1) s.size).data.toList = l.drop (a + 1)) := Lib.hid (by rw [Lib.extract_to_end, ← HD.out])
        rw [HEB.out] at HNum2
        have HLt := Lib.hid hlt
        clear hx2
        go_wp2_with fail
        refine (HNum2.out _).mono ?_
        rintro e w3 ⟨⟨y, c, rfl, hy, hys⟩, hb3⟩
        have K1 := Lib.hid (M1.out.keep hb3)
        have N0 := Lib.hid ((M0.out.keep hb3).far (i := 1) (Q' := w.heap.size + 1) (by omega) (.int .i64 y))
        have N1 := Lib.hid (K1.out.set1 y)
        have HB3 := Lib.hid ((bel_up HB2.out hb3).setCell (p := ⟨w.heap.size + 1, 1, none⟩) (show w.heap.size ≤ w.heap.size + 1 by omega) (.int .i64 y))
        have HKey : Hid (Key l x y b c) := Lib.hid (fun n d hn hd e => by
          obtain ⟨h1, h2⟩ := (txt_parts e).2 (by rw [← HA.out, ← HS.out]; exact HLt.out)
          rw [← HA.out] at h1 h2
          obtain ⟨e1, e2⟩ := HXS.out n hn h1
          obtain ⟨e3, e4⟩ := hys d hd h2
          exact ⟨e1, e3, e2, e4⟩)
        clear hb3 hys p0 p1 q0 q1 plt
        obtain ⟨p0, p1, q0, q1, plt⟩ := K1.out
        go_upto_region 13 with (fail)
        clear p0 p1 q0 q1 plt
        obtain ⟨c0, c1, f0, f1, lt0⟩ := N0.out
        obtain ⟨d0, d1, g0, g1, lt1⟩ := N1.out
        cases b with
        | false =>
          go_wp2_with fail
          exact bodyPost_ret (v := .tuple #[.agg #[.int .i64 0, .int .i64 0], .int .i64 13]) (by simp [results, Tryz.results21, go_sem, c0, c1]) rfl (ans_form HKey.out (Or.inl rfl) (bel_set2 HB3.out (Nat.le_refl _) _ _))
        | true =>
          cases c with
          | false =>
            go_wp2_with fail
            exact bodyPost_ret (v := .tuple #[.agg #[.int .i64 0, .int .i64 0], .int .i64 13]) (by simp [results, Tryz.results21, go_sem, c0, c1]) rfl (ans_form HKey.out (Or.inr (Or.inl rfl)) (bel_set2 HB3.out (Nat.le_refl _) _ _))
          | true =>
            have HChk := Lib.hid (fun w => rcheck_any x y w hx.1 hx.2 hy.1 hy.2)
            by_cases hk : chkE x y = 0
            · rw [hk] at HChk
              have HPr := Lib.hid (fun w => rprint_any x y w hx.1 hx.2 hy.1 hy.2)
              obtain ⟨X, hX⟩ : ∃ X, X = txt x y := ⟨_, rfl⟩
              rw [← hX] at HPr
              have HX := Lib.hid hX
              have HK := Lib.hid hk
              have HIx := Lib.hid hx
              have HIy := Lib.hid hy
              clear hX hk hx hy
              by_cases hE : X = l
              · have hc : (X == s.toList) = true := by rw [Lib.toList_data, ← HD.out, hE]; simp
                have HE := Lib.hid hE
                clear hE
                go_wp2_with fail
                refine (HChk.out _).mono ?_
                rintro e w4 ⟨rfl, hb4⟩
                have N0b := Lib.hid (N0.out.keep hb4)
                have N1b := Lib.hid (N1.out.keep hb4)
                have HB4 := Lib.hid (bel_up HB3.out hb4)
                clear hb4 c0 c1 f0 f1 lt0 d0 d1 g0 g1 lt1
                obtain ⟨c0, c1, f0, f1, lt0⟩ := N0b.out
                obtain ⟨d0, d1, g0, g1, lt1⟩ := N1b.out
                go_wp2_with fail
                refine (HPr.out _).mono ?_
                rintro e w5 ⟨rfl, hb5⟩
                have N0c := Lib.hid (N0b.out.keep hb5)
                have N1c := Lib.hid (N1b.out.keep hb5)
                have HB5 := Lib.hid (bel_up HB4.out hb5)
                clear hb5 c0 c1 f0 f1 lt0 d0 d1 g0 g1 lt1
                obtain ⟨c0, c1, f0, f1, lt0⟩ := N0c.out
                obtain ⟨d0, d1, g0, g1, lt1⟩ := N1c.out
                go_wp2_with fail
                exact bodyPost_ret (v := .tuple #[.agg #[.int .i64 x, .int .i64 y], .int .i64 0]) (by simp [results, Tryz.results21, go_sem, c0, c1]) rfl (ans_ok HIx.out HIy.out HK.out (HX.out.symm.trans HE.out) (bel_set2 HB5.out (Nat.le_refl _) _ _))
              · have hc : (X == s.toList) = false := by rw [Lib.toList_data, ← HD.out]; simpa using hE
                have HE := Lib.hid hE
                clear hE
                go_wp2_with fail
                refine (HChk.out _).mono ?_
                rintro e w4 ⟨rfl, hb4⟩
                have N0b := Lib.hid (N0.out.keep hb4)
                have N1b := Lib.hid (N1.out.keep hb4)
                have HB4 := Lib.hid (bel_up HB3.out hb4)
                clear hb4 c0 c1 f0 f1 lt0 d0 d1 g0 g1 lt1
                obtain ⟨c0, c1, f0, f1, lt0⟩ := N0b.out
                obtain ⟨d0, d1, g0, g1, lt1⟩ := N1b.out
                go_wp2_with fail
                refine (HPr.out _).mono ?_
                rintro e w5 ⟨rfl, hb5⟩
                have N0c := Lib.hid (N0b.out.keep hb5)
                have N1c := Lib.hid (N1b.out.keep hb5)
                have HB5 := Lib.hid (bel_up HB4.out hb5)
                clear hb5 c0 c1 f0 f1 lt0 d0 d1 g0 g1 lt1
                obtain ⟨c0, c1, f0, f1, lt0⟩ := N0c.out
                obtain ⟨d0, d1, g0, g1, lt1⟩ := N1c.out
                go_wp2_with fail
                exact bodyPost_ret (v := .tuple #[.agg #[.int .i64 0, .int .i64 0], .int .i64 13]) (by simp [results, Tryz.results21, go_sem, c0, c1]) rfl (ans_form HKey.out (Or.inr (Or.inr (Or.inr (fun e => HE.out (HX.out.trans e))))) (bel_set2 HB5.out (Nat.le_refl _) _ _))
            · have hkb : (chkE x y != 0) = true := by simpa using hk
              obtain ⟨kk, hkk⟩ : ∃ kk, chkE x y = kk := ⟨_, rfl⟩
              rw [hkk] at HChk hkb
              have HK := Lib.hid hk
              clear hk hkk hx hy
              go_wp2_with fail
              refine (HChk.out _).mono ?_
              rintro e w4 ⟨rfl, hb4⟩
              have N0b := Lib.hid (N0.out.keep hb4)
              have HB4 := Lib.hid (bel_up HB3.out hb4)
              clear hb4 c0 c1 f0 f1 lt0 d0 d1 g0 g1 lt1
              obtain ⟨c0, c1, f0, f1, lt0⟩ := N0b.out
              go_wp2_with fail
              exact bodyPost_ret (v := .tuple #[.agg #[.int .i64 0, .int .i64 0], .int .i64 13]) (by simp [results, Tryz.results21, go_sem, c0, c1]) rfl (ans_form HKey.out (Or.inr (Or.inr (Or.inl HK.out))) (bel_set2 HB4.out (Nat.le_refl _) _ _))
      · have HKey : Hid (Key l x 1 b true) := Lib.hid (fun n d hn hd e => by
          obtain ⟨h1, h2⟩ := (txt_parts e).1 (by rw [← HA.out, ← HS.out]; omega)
          rw [← HA.out] at h2
          obtain ⟨e1, e2⟩ := HXS.out n hn h2
          exact ⟨e1, h1.symm, e2, rfl⟩)
        have hy : I64 1 := by unfold I64; omega
        have N0 := M0
        have N1 := M1
        go_upto_region 13 with (fail)
        clear p0 p1 q0 q1 plt
        obtain ⟨c0, c1, f0, f1, lt0⟩ := N0.out
        obtain ⟨d0, d1, g0, g1, lt1⟩ := N1.out
        cases b with
        | false =>
          go_wp2_with fail
          exact bodyPost_ret (v := .tuple #[.agg #[.int .i64 0, .int .i64 0], .int .i64 13]) (by simp [results, Tryz.results21, go_sem, c0, c1]) rfl (ans_form HKey.out (Or.inl rfl) (bel_set2 HB2.out (Nat.le_refl _) _ _))
        | true =>
          have HChk := Lib.hid (fun w => rcheck_any x 1 w hx.1 hx.2 hy.1 hy.2)
          by_cases hk : chkE x 1 = 0
          · rw [hk] at HChk
            have HPr := Lib.hid (fun w => rprint_any x 1 w hx.1 hx.2 hy.1 hy.2)
            obtain ⟨X, hX⟩ : ∃ X, X = txt x 1 := ⟨_, rfl⟩
            rw [← hX] at HPr
            have HX := Lib.hid hX
            have HK := Lib.hid hk
            have HIx := Lib.hid hx
            have HIy := Lib.hid hy
            clear hX hk hx hy
            by_cases hE : X = l
            · have hc : (X == s.toList) = true := by rw [Lib.toList_data, ← HD.out, hE]; simp
              have HE := Lib.hid hE
              clear hE
              go_wp2_with fail
              refine (HChk.out _).mono ?_
              rintro e w4 ⟨rfl, hb4⟩
              have N0b := Lib.hid (N0.out.keep hb4)
              have N1b := Lib.hid (N1.out.keep hb4)
              have HB4 := Lib.hid (bel_up HB2.out hb4)
              clear hb4 c0 c1 f0 f1 lt0 d0 d1 g0 g1 lt1
              obtain ⟨c0, c1, f0, f1, lt0⟩ := N0b.out
              obtain ⟨d0, d1, g0, g1, lt1⟩ := N1b.out
              go_wp2_with fail
              refine (HPr.out _).mono ?_
              rintro e w5 ⟨rfl, hb5⟩
              have N0c := Lib.hid (N0b.out.keep hb5)
              have N1c := Lib.hid (N1b.out.keep hb5)
              have HB5 := Lib.hid (bel_up HB4.out hb5)
              clear hb5 c0 c1 f0 f1 lt0 d0 d1 g0 g1 lt1
              obtain ⟨c0, c1, f0, f1, lt0⟩ := N0c.out
              obtain ⟨d0, d1, g0, g1, lt1⟩ := N1c.out
              go_wp2_with fail
              exact bodyPost_ret (v := .tuple #[.agg #[.int .i64 x, .int .i64 1], .int .i64 0]) (by simp [results, Tryz.results21, go_sem, c0, c1]) rfl (ans_ok HIx.out HIy.out HK.out (HX.out.symm.trans HE.out) (bel_set2 HB5.out (Nat.le_refl _) _ _))
            · have hc : (X == s.toList) = false := by rw [Lib.toList_data, ← HD.out]; simpa using hE
              have HE := Lib.hid hE
              clear hE
              go_wp2_with fail
              refine (HChk.out _).mono ?_
              rintro e w4 ⟨rfl, hb4⟩
              have N0b := Lib.hid (N0.out.keep hb4)
              have N1b := Lib.hid (N1.out.keep hb4)
              have HB4 := Lib.hid (bel_up HB2.out hb4)
              clear hb4 c0 c1 f0 f1 lt0 d0 d1 g0 g1 lt1
              obtain ⟨c0, c1, f0, f1, lt0⟩ := N0b.out
              obtain ⟨d0, d1, g0, g1, lt1⟩ := N1b.out
              go_wp2_with fail
              refine (HPr.out _).mono ?_
              rintro e w5 ⟨rfl, hb5⟩
              have N0c := Lib.hid (N0b.out.keep hb5)
              have N1c := Lib.hid (N1b.out.keep hb5)
              have HB5 := Lib.hid (bel_up HB4.out hb5)
              clear hb5 c0 c1 f0 f1 lt0 d0 d1 g0 g1 lt1
              obtain ⟨c0, c1, f0, f1, lt0⟩ := N0c.out
              obtain ⟨d0, d1, g0, g1, lt1⟩ := N1c.out
              go_wp2_with fail
              exact bodyPost_ret (v := .tuple #[.agg #[.int .i64 0, .int .i64 0], .int .i64 13]) (by simp [results, Tryz.results21, go_sem, c0, c1]) rfl (ans_form HKey.out (Or.inr (Or.inr (Or.inr (fun e => HE.out (HX.out.trans e))))) (bel_set2 HB5.out (Nat.le_refl _) _ _))
          · have hkb : (chkE x 1 != 0) = true := by simpa using hk
            obtain ⟨kk, hkk⟩ : ∃ kk, chkE x 1 = kk := ⟨_, rfl⟩
            rw [hkk] at HChk hkb
            have HK := Lib.hid hk
            clear hk hkk hx hy
            go_wp2_with fail
            refine (HChk.out _).mono ?_
            rintro e w4 ⟨rfl, hb4⟩
            have N0b := Lib.hid (N0.out.keep hb4)
            have HB4 := Lib.hid (bel_up HB2.out hb4)
            clear hb4 c0 c1 f0 f1 lt0 d0 d1 g0 g1 lt1
            obtain ⟨c0, c1, f0, f1, lt0⟩ := N0b.out
            go_wp2_with fail
            exact bodyPost_ret (v := .tuple #[.agg #[.int .i64 0, .int .i64 0], .int .i64 13]) (by simp [results, Tryz.results21, go_sem, c0, c1]) rfl (ans_form HKey.out (Or.inr (Or.inr (Or.inl HK.out))) (bel_set2 HB4.out (Nat.le_refl _) _ _))

end Go.Proofs.YtdmdgoeacafpiaaGreatDoor

namespace Go.Proofs.YtdmdgoeacafpiaaGreatDoor
open Go.RowKit Go.Lib
set_option linter.unusedVariables false

/-- A text of a ratio is read as it. -/
theorem parse_str (s : ByteArray) (hs : s.size ≤ 3000) (n d : Int) (hn : I64 n) (hd : I64 d) (hk : chkE n d = 0) (he : s.data.toList = txt n d) (w : World) (L : LibW w) :
    Calls Tryz.prog 62 #[.string s] w fun e w' => e = .returned (.tuple #[.agg #[.int .i64 n, .int .i64 d], .int .i64 0]) ∧ Below w.heap.size w w' := by
  have h := parse_yes s.data.toList (by rw [← Lib.size_eq]; exact hs) n d hn hd hk he w L
  rw [Lib.mk_data] at h
  exact h
theorem parse_str_no (s : ByteArray) (hs : s.size ≤ 3000) (h : ∀ n d, I64 n → I64 d → chkE n d = 0 → s.data.toList ≠ txt n d) (w : World) (L : LibW w) :
    Calls Tryz.prog 62 #[.string s] w fun e w' => e = .returned (.tuple #[.agg #[.int .i64 0, .int .i64 0], .int .i64 13]) ∧ Below w.heap.size w w' := by
  have h := parse_no s.data.toList (by rw [← Lib.size_eq]; exact hs) h w L
  rw [Lib.mk_data] at h
  exact h
theorem txt_len {n d : Int} (hn : I64 n) (hd : I64 d) : (txt n d).length ≤ 41 := by
  have h1 := itoa_len20 hn.1 hn.2
  have h2 := itoa_len20 hd.1 hd.2
  unfold txt
  split
  · omega
  · simp; omega
theorem print_str (s : ByteArray) (n d : Int) (w : World) (L : LibW w) (hn : I64 n) (hd : I64 d) (hk : chkE n d = 0) (he : s.data.toList = txt n d) :
    Calls Tryz.prog 56 #[.agg #[.int .i64 n, .int .i64 d]] w fun e w' => e = .returned (.tuple #[.string s, .int .i64 0]) ∧ Below w.heap.size w w' := by
  have h := print_ok n d w L hn.1 hn.2 hd.1 hd.2 hk
  rw [← he, Lib.mk_data] at h
  exact h

end Go.Proofs.YtdmdgoeacafpiaaGreatDoor
