/-
  chattelref03: Name, Digits: what they answer.
-/
import Derived.Test.YtfeaopaglhlojaaDoorCsh
import Derived.Deep.QuietTactic
import Derived.BigQuiet
namespace Go.Proofs.YtfeaopaglhlojaaDoor
open Go.RowKit Go.Lib
set_option linter.unusedVariables false

set_option maxHeartbeats 1000000 in
set_option maxRecDepth 100000 in
theorem rname_no (c : Int) (h : c < 0 ∨ 7 < c) (w : World) : Calls Tryd.prog 38 #[.int .i64 c] w fun e w' => e = .returned (.string ⟨#[]⟩) ∧ Below w.heap.size w w' := by
  rcases h with h | h
  · go_enter Tryd.func38, Tryd.ntmps38
    go_wp2_with fail
    go_ret
    exact ⟨rfl, below_one w _⟩
  · have h0 : ¬ c < 0 := by omega
    go_enter Tryd.func38, Tryd.ntmps38
    go_wp2_with fail
    go_ret
    exact ⟨rfl, below_one w _⟩

set_option maxRecDepth 100000 in
theorem rname_0 (w : World) : Calls Tryd.prog 38 #[.int .i64 0] w fun e w' => e = .returned (.string ⟨(curN 0).toArray⟩) ∧ Below w.heap.size w w' := by
  go_enter Tryd.func38, Tryd.ntmps38
  go_wp2_with fail
  go_ret
  exact ⟨rfl, below_one w _⟩
set_option maxRecDepth 100000 in
theorem rdigs_0 (w : World) : Calls Tryd.prog 37 #[.int .i64 0] w fun e w' => e = .returned (.int .i64 (curD 0)) ∧ Below w.heap.size w w' := by
  go_enter Tryd.func37, Tryd.ntmps37
  go_wp2_with fail
  go_ret
  exact ⟨rfl, below_one w _⟩
set_option maxRecDepth 100000 in
theorem rname_1 (w : World) : Calls Tryd.prog 38 #[.int .i64 1] w fun e w' => e = .returned (.string ⟨(curN 1).toArray⟩) ∧ Below w.heap.size w w' := by
  go_enter Tryd.func38, Tryd.ntmps38
  go_wp2_with fail
  go_ret
  exact ⟨rfl, below_one w _⟩
set_option maxRecDepth 100000 in
theorem rdigs_1 (w : World) : Calls Tryd.prog 37 #[.int .i64 1] w fun e w' => e = .returned (.int .i64 (curD 1)) ∧ Below w.heap.size w w' := by
  go_enter Tryd.func37, Tryd.ntmps37
  go_wp2_with fail
  go_ret
  exact ⟨rfl, below_one w _⟩
set_option maxRecDepth 100000 in
theorem rname_2 (w : World) : Calls Tryd.prog 38 #[.int .i64 2] w fun e w' => e = .returned (.string ⟨(curN 2).toArray⟩) ∧ Below w.heap.size w w' := by
  go_enter Tryd.func38, Tryd.ntmps38
  go_wp2_with fail
  go_ret
  exact ⟨rfl, below_one w _⟩
set_option maxRecDepth 100000 in
theorem rdigs_2 (w : World) : Calls Tryd.prog 37 #[.int .i64 2] w fun e w' => e = .returned (.int .i64 (curD 2)) ∧ Below w.heap.size w w' := by
  go_enter Tryd.func37, Tryd.ntmps37
  go_wp2_with fail
  go_ret
  exact ⟨rfl, below_one w _⟩
set_option maxRecDepth 100000 in
theorem rname_3 (w : World) : Calls Tryd.prog 38 #[.int .i64 3] w fun e w' => e = .returned (.string ⟨(curN 3).toArray⟩) ∧ Below w.heap.size w w' := by
  go_enter Tryd.func38, Tryd.ntmps38
  go_wp2_with fail
  go_ret
  exact ⟨rfl, below_one w _⟩
set_option maxRecDepth 100000 in
theorem rdigs_3 (w : World) : Calls Tryd.prog 37 #[.int .i64 3] w fun e w' => e = .returned (.int .i64 (curD 3)) ∧ Below w.heap.size w w' := by
  go_enter Tryd.func37, Tryd.ntmps37
  go_wp2_with fail
  go_ret
  exact ⟨rfl, below_one w _⟩
set_option maxRecDepth 100000 in
theorem rname_4 (w : World) : Calls Tryd.prog 38 #[.int .i64 4] w fun e w' => e = .returned (.string ⟨(curN 4).toArray⟩) ∧ Below w.heap.size w w' := by
  go_enter Tryd.func38, Tryd.ntmps38
  go_wp2_with fail
  go_ret
  exact ⟨rfl, below_one w _⟩
set_option maxRecDepth 100000 in
theorem rdigs_4 (w : World) : Calls Tryd.prog 37 #[.int .i64 4] w fun e w' => e = .returned (.int .i64 (curD 4)) ∧ Below w.heap.size w w' := by
  go_enter Tryd.func37, Tryd.ntmps37
  go_wp2_with fail
  go_ret
  exact ⟨rfl, below_one w _⟩
set_option maxRecDepth 100000 in
theorem rname_5 (w : World) : Calls Tryd.prog 38 #[.int .i64 5] w fun e w' => e = .returned (.string ⟨(curN 5).toArray⟩) ∧ Below w.heap.size w w' := by
  go_enter Tryd.func38, Tryd.ntmps38
  go_wp2_with fail
  go_ret
  exact ⟨rfl, below_one w _⟩
set_option maxRecDepth 100000 in
theorem rdigs_5 (w : World) : Calls Tryd.prog 37 #[.int .i64 5] w fun e w' => e = .returned (.int .i64 (curD 5)) ∧ Below w.heap.size w w' := by
  go_enter Tryd.func37, Tryd.ntmps37
  go_wp2_with fail
  go_ret
  exact ⟨rfl, below_one w _⟩
set_option maxRecDepth 100000 in
theorem rname_6 (w : World) : Calls Tryd.prog 38 #[.int .i64 6] w fun e w' => e = .returned (.string ⟨(curN 6).toArray⟩) ∧ Below w.heap.size w w' := by
  go_enter Tryd.func38, Tryd.ntmps38
  go_wp2_with fail
  go_ret
  exact ⟨rfl, below_one w _⟩
set_option maxRecDepth 100000 in
theorem rdigs_6 (w : World) : Calls Tryd.prog 37 #[.int .i64 6] w fun e w' => e = .returned (.int .i64 (curD 6)) ∧ Below w.heap.size w w' := by
  go_enter Tryd.func37, Tryd.ntmps37
  go_wp2_with fail
  go_ret
  exact ⟨rfl, below_one w _⟩
set_option maxRecDepth 100000 in
theorem rname_7 (w : World) : Calls Tryd.prog 38 #[.int .i64 7] w fun e w' => e = .returned (.string ⟨(curN 7).toArray⟩) ∧ Below w.heap.size w w' := by
  go_enter Tryd.func38, Tryd.ntmps38
  go_wp2_with fail
  go_ret
  exact ⟨rfl, below_one w _⟩
set_option maxRecDepth 100000 in
theorem rdigs_7 (w : World) : Calls Tryd.prog 37 #[.int .i64 7] w fun e w' => e = .returned (.int .i64 (curD 7)) ∧ Below w.heap.size w w' := by
  go_enter Tryd.func37, Tryd.ntmps37
  go_wp2_with fail
  go_ret
  exact ⟨rfl, below_one w _⟩
theorem rname_any (k : Nat) (hk : k < 8) (w : World) : Calls Tryd.prog 38 #[.int .i64 k] w fun e w' => e = .returned (.string ⟨(curN k).toArray⟩) ∧ Below w.heap.size w w' := by
  match k, hk with
  | 0, _ => exact rname_0 w
  | 1, _ => exact rname_1 w
  | 2, _ => exact rname_2 w
  | 3, _ => exact rname_3 w
  | 4, _ => exact rname_4 w
  | 5, _ => exact rname_5 w
  | 6, _ => exact rname_6 w
  | 7, _ => exact rname_7 w
theorem rdigs_any (k : Nat) (hk : k < 8) (w : World) : Calls Tryd.prog 37 #[.int .i64 k] w fun e w' => e = .returned (.int .i64 (curD k)) ∧ Below w.heap.size w w' := by
  match k, hk with
  | 0, _ => exact rdigs_0 w
  | 1, _ => exact rdigs_1 w
  | 2, _ => exact rdigs_2 w
  | 3, _ => exact rdigs_3 w
  | 4, _ => exact rdigs_4 w
  | 5, _ => exact rdigs_5 w
  | 6, _ => exact rdigs_6 w
  | 7, _ => exact rdigs_7 w

/-- Of two currencies' names none is the other's. -/
theorem names_apart : ∀ i j : Fin 8, i ≠ j → curN i.val ≠ curN j.val := by decide
theorem findK_only {l : List UInt8} {i j : Nat} (hi : i < 8) (h : findK l i = some j) : (curN i == l) = false := by
  have hj := findK_lt h
  have hs := findK_sound h
  rw [← hs]
  exact beq_false_of_ne (names_apart ⟨i, hi⟩ ⟨j, by omega⟩ (fun e => by have := congrArg Fin.val e; simp at this; omega))
/-- The currency of a name so far; -1: there is none. -/
def wantK (l : List UInt8) (i : Nat) : Int := match findK l i with
  | none => -1
  | some j => j
theorem wantK_hit {l : List UInt8} {i : Nat} (hi : i < 8) (h : (curN i == l) = true) : wantK l (i + 1) = i := by
  have hn : findK l i = none := by
    cases e : findK l i with
    | none => rfl
    | some j => rw [findK_only hi e] at h; cases h
  unfold wantK
  rw [findK_hit hn h]
theorem wantK_miss {l : List UInt8} {i : Nat} (h : (curN i == l) = false) : wantK l (i + 1) = wantK l i := by
  unfold wantK
  cases e : findK l i with
  | none => rw [findK_miss e h]
  | some j => rw [findK_stay e (i + 1) (by omega)]

end Go.Proofs.YtfeaopaglhlojaaDoor

namespace Go.Proofs.YtfeaopaglhlojaaDoor
open Go.RowKit Go.Lib
set_option linter.unusedVariables false

def strLen (v : Value) : Nat := match v with
  | .string b => b.size
  | _ => 0
theorem mon_join2 (P : List UInt8) (j : Nat) : (⟨P.toArray⟩ : ByteArray).extract 0 j ++ (⟨#[46]⟩ : ByteArray) ++ (⟨P.toArray⟩ : ByteArray).extract j P.length = ⟨(P.take j ++ ([46] ++ P.drop j)).toArray⟩ := by
  rw [ByteArray.append_assoc]; exact mon_join P j
theorem cut_one (I D : List UInt8) (h : I = 45 :: D) : (⟨I.toArray⟩ : ByteArray).extract 1 I.length = ⟨D.toArray⟩ := by
  rw [str_ext]
  subst h
  simp
theorem str_x4 (X A P : List UInt8) : ((⟨X.toArray⟩ : ByteArray) ++ (⟨#[32]⟩ : ByteArray)) ++ (⟨A.toArray⟩ : ByteArray) ++ (⟨P.toArray⟩ : ByteArray) = ⟨(X ++ ([32] ++ (A ++ P))).toArray⟩ := by
  rw [show (⟨#[32]⟩ : ByteArray) = ⟨[32].toArray⟩ from rfl, str_app, str_app, str_app]; simp [List.append_assoc]
theorem str_x3 (X P : List UInt8) : ((⟨X.toArray⟩ : ByteArray) ++ (⟨#[32]⟩ : ByteArray)) ++ (⟨P.toArray⟩ : ByteArray) = ⟨(X ++ ([32] ++ ([] ++ P))).toArray⟩ := by
  rw [show (⟨#[32]⟩ : ByteArray) = ⟨[32].toArray⟩ from rfl, str_app, str_app]; simp [List.append_assoc]
theorem pad_end {n : Int} {d j : Nat} (h : j = 0 ∨ j + (decDigits n.natAbs).length ≤ d + 1) (hl : d < j + (decDigits n.natAbs).length) : List.replicate j 48 ++ decDigits n.natAbs = padD n d := by
  unfold padD
  rcases h with h | h
  · subst h
    rw [show d + 1 - (decDigits n.natAbs).length = 0 by omega]
  · rw [show d + 1 - (decDigits n.natAbs).length = j by omega]

set_option maxHeartbeats 4000000 in
set_option maxRecDepth 100000 in
theorem rcprint_any (k : Nat) (hk : k < 8) (n : Int) (hn : I64 n) (w : World) : Calls Tryd.prog 14 #[.int .i64 k, .int .i64 n] w fun e w' => e = .returned (.string ⟨(cashL k n).toArray⟩) ∧ Below w.heap.size w w' := by
  have HI := Lib.hid (dec_any n w hn.1 hn.2)
  have hlen : (itoa n).length ≤ 20 := itoa_len20 hn.1 hn.2
  have HDg := Lib.hid (fun w => rdigs_any k hk w)
  have HNm := Lib.hid (fun w => rname_any k hk w)
  have hd6 := curD_le k hk
  have hX3 : (curN k).length ≤ 3 := by
    match k, hk with
    | 0, _ => decide
    | 1, _ => decide
    | 2, _ => decide
    | 3, _ => decide
    | 4, _ => decide
    | 5, _ => decide
    | 6, _ => decide
    | 7, _ => decide
  obtain ⟨X, hX⟩ : ∃ X, X = curN k := ⟨_, rfl⟩
  obtain ⟨d, hd⟩ : ∃ d, d = curD k := ⟨_, rfl⟩
  obtain ⟨D, hD⟩ : ∃ D, D = decDigits n.natAbs := ⟨_, rfl⟩
  obtain ⟨I, hI⟩ : ∃ I, I = itoa n := ⟨_, rfl⟩
  obtain ⟨R, hR⟩ : ∃ R, R = cashL k n := ⟨_, rfl⟩
  have hDI : (n < 0 → I = 45 :: D) ∧ (¬ n < 0 → I = D) := by
    have h1 := (cutp n).1
    constructor
    · intro h
      rw [hI, hD, itoa, if_pos h]
    · intro h
      rw [hI, hD, itoa, if_neg h, show n.natAbs = n.toNat by omega]
  have HPad : Hid (∀ j, (j = 0 ∨ j + D.length ≤ d + 1) → d < j + D.length → List.replicate j 48 ++ D = padD n d) := Lib.hid (fun j h1 h2 => by rw [hD] at *; exact pad_end h1 h2)
  have HE : Hid (R = X ++ ([32] ++ monL n d)) := Lib.hid (by rw [hR, hX, hd]; rfl)
  rw [← hR]
  rw [← hX] at HNm hX3
  rw [← hd] at HDg hd6
  rw [← hI] at HI hlen
  have hDl : D.length ≤ 20 := by
    by_cases h : n < 0
    · have := hDI.1 h; rw [this] at hlen; simp at hlen; omega
    · rw [← hDI.2 h]; exact hlen
  clear hX hd hI hR hD
  by_cases hneg : n < 0
  · have hID := hDI.1 hneg
    have hI1 : (1 : Int) ≤ (I.length : Int) := by rw [hID, List.length_cons]; omega
    have hcut := cut_one I D hID
    have HMon : Hid (∀ P j, P = padD n d → j = P.length - d → R = X ++ ([32] ++ ([45] ++ (P.take j ++ (if d = 0 then [] else 46 :: P.drop j))))) := Lib.hid (fun P j h1 h2 => by
      rw [HE.out, h2, h1, monL, if_pos hneg])
    clear hDI hID
    go_enter Tryd.func14, Tryd.ntmps14
    go_wp2_with fail
    refine HI.out.mono ?_
    rintro e w1 ⟨rfl, hb⟩
    have HB := Lib.hid hb
    clear hb
    go_wp2_with fail
    refine (HDg.out _).mono ?_
    rintro e w2 ⟨rfl, hb⟩
    have HB2 := Lib.hid (bel_up HB.out hb)
    clear hb
    go_wp2_with fail
    go_loop [5] (fun vs => ∃ j : Nat, (j = 0 ∨ j + D.length ≤ d + 1) ∧ vs = .string ⟨(List.replicate j 48 ++ D).toArray⟩) (fun vs => 8 - strLen vs)
    case atStart => exact ⟨0, Or.inl rfl, rfl⟩
    case round =>
      obtain ⟨j, hj, rfl⟩ := hrel
      obtain ⟨P, hP⟩ : ∃ P, P = List.replicate j 48 ++ D := ⟨_, rfl⟩
      rw [← hP]
      have hPl : P.length = j + D.length := by rw [hP]; simp
      have hP30 : P.length ≤ 30 := by omega
      have HJ := Lib.hid hj
      by_cases hlt : P.length ≤ d
      · have hle : (P.length : Int) ≤ (d : Int) := by omega
        have hs1 : ¬ 9223372036854775807 < 1 + P.length := by omega
        have hs2 : 1 + P.length ≤ 9223372036854775807 := by omega
        have HN : Hid ([48] ++ P = List.replicate (j + 1) 48 ++ D) := Lib.hid (by rw [hP, List.replicate_succ]; rfl)
        have HJ2 : Hid (j + 1 + D.length ≤ d + 1) := Lib.hid (by omega)
        clear hP hPl hj
        go_wp2_with fail
        go_round
        case rel => exact ⟨j + 1, Or.inr HJ2.out, by rw [← HN.out, ← str_app]⟩
        case measure =>
          show 8 - ((⟨#[48]⟩ : ByteArray) ++ (⟨P.toArray⟩ : ByteArray)).size < 8 - (⟨P.toArray⟩ : ByteArray).size
          rw [ByteArray.size_append]
          show 8 - (1 + P.length) < 8 - P.length
          omega
      · have hle : ¬ (P.length : Int) ≤ (d : Int) := by omega
        have HP : Hid (P = padD n d) := Lib.hid (by rw [hP]; exact HPad.out j hj (by omega))
        obtain ⟨q, hq⟩ : ∃ q : Nat, (P.length : Int) - (d : Int) = (q : Int) := ⟨P.length - d, by omega⟩
        have hqP : q ≤ P.length := by omega
        have HQ : Hid (R = X ++ ([32] ++ ([45] ++ (P.take q ++ (if d = 0 then [] else 46 :: P.drop q))))) := Lib.hid (HMon.out P q HP.out (by omega))
        have hq0 : (0 : Int) ≤ (q : Int) := by omega
        have hs1 : ¬ 9223372036854775807 < X.length + 1 := by omega
        have hs2 : X.length + 1 ≤ 9223372036854775807 := by omega
        by_cases hd0 : d = 0
        · have HT : Hid (R = X ++ ([32] ++ ([45] ++ P))) := Lib.hid (by
            rw [HQ.out, if_pos hd0, List.append_nil, List.take_of_length_le (by omega)])
          have hkn : ¬ 0 < (d : Int) := by omega
          clear hP hPl hj HMon HPad hq hlt hd0
          go_wp2_with fail
          refine (HNm.out _).mono ?_
          rintro e w3 ⟨rfl, hb⟩
          have HB3 := Lib.hid (bel_up HB2.out hb)
          clear hb
          go_wp2_with fail
          go_ret
          exact ⟨ret_str (by rw [HT.out]; first | exact str_x4 X [45] P | exact str_x3 X P), HB3.out⟩
        · have HT : Hid (R = X ++ ([32] ++ ([45] ++ (P.take q ++ ([46] ++ P.drop q))))) := Lib.hid (by
            rw [HQ.out, if_neg hd0]; rfl)
          have hkn : 0 < (d : Int) := by omega
          clear hP hPl hj HMon HPad hlt hd0
          go_upto_region 10 with (fail)
          go_quiet (fail)
          go_wp2_with fail
          refine (HNm.out _).mono ?_
          rintro e w3 ⟨rfl, hb⟩
          have HB3 := Lib.hid (bel_up (bel_up HB2.out (below_any _ nq)) hb)
          clear hb
          go_wp2_with fail
          go_ret
          exact ⟨ret_str (by rw [HT.out, mon_join2]; first | exact str_x4 X [45] _ | exact str_x3 X _), HB3.out⟩
  · rw [hDI.2 hneg] at HI hlen
    have HMon : Hid (∀ P j, P = padD n d → j = P.length - d → R = X ++ ([32] ++ ([] ++ (P.take j ++ (if d = 0 then [] else 46 :: P.drop j))))) := Lib.hid (fun P j h1 h2 => by
      rw [HE.out, h2, h1, monL, if_neg hneg])
    clear hDI
    go_enter Tryd.func14, Tryd.ntmps14
    go_wp2_with fail
    refine HI.out.mono ?_
    rintro e w1 ⟨rfl, hb⟩
    have HB := Lib.hid hb
    clear hb
    go_wp2_with fail
    refine (HDg.out _).mono ?_
    rintro e w2 ⟨rfl, hb⟩
    have HB2 := Lib.hid (bel_up HB.out hb)
    clear hb
    go_wp2_with fail
    go_loop [5] (fun vs => ∃ j : Nat, (j = 0 ∨ j + D.length ≤ d + 1) ∧ vs = .string ⟨(List.replicate j 48 ++ D).toArray⟩) (fun vs => 8 - strLen vs)
    case atStart => exact ⟨0, Or.inl rfl, rfl⟩
    case round =>
      obtain ⟨j, hj, rfl⟩ := hrel
      obtain ⟨P, hP⟩ : ∃ P, P = List.replicate j 48 ++ D := ⟨_, rfl⟩
      rw [← hP]
      have hPl : P.length = j + D.length := by rw [hP]; simp
      have hP30 : P.length ≤ 30 := by omega
      have HJ := Lib.hid hj
      by_cases hlt : P.length ≤ d
      · have hle : (P.length : Int) ≤ (d : Int) := by omega
        have hs1 : ¬ 9223372036854775807 < 1 + P.length := by omega
        have hs2 : 1 + P.length ≤ 9223372036854775807 := by omega
        have HN : Hid ([48] ++ P = List.replicate (j + 1) 48 ++ D) := Lib.hid (by rw [hP, List.replicate_succ]; rfl)
        have HJ2 : Hid (j + 1 + D.length ≤ d + 1) := Lib.hid (by omega)
        clear hP hPl hj
        go_wp2_with fail
        go_round
        case rel => exact ⟨j + 1, Or.inr HJ2.out, by rw [← HN.out, ← str_app]⟩
        case measure =>
          show 8 - ((⟨#[48]⟩ : ByteArray) ++ (⟨P.toArray⟩ : ByteArray)).size < 8 - (⟨P.toArray⟩ : ByteArray).size
          rw [ByteArray.size_append]
          show 8 - (1 + P.length) < 8 - P.length
          omega
      · have hle : ¬ (P.length : Int) ≤ (d : Int) := by omega
        have HP : Hid (P = padD n d) := Lib.hid (by rw [hP]; exact HPad.out j hj (by omega))
        obtain ⟨q, hq⟩ : ∃ q : Nat, (P.length : Int) - (d : Int) = (q : Int) := ⟨P.length - d, by omega⟩
        have hqP : q ≤ P.length := by omega
        have HQ : Hid (R = X ++ ([32] ++ ([] ++ (P.take q ++ (if d = 0 then [] else 46 :: P.drop q))))) := Lib.hid (HMon.out P q HP.out (by omega))
        have hq0 : (0 : Int) ≤ (q : Int) := by omega
        have hs1 : ¬ 9223372036854775807 < X.length + 1 := by omega
        have hs2 : X.length + 1 ≤ 9223372036854775807 := by omega
        by_cases hd0 : d = 0
        · have HT : Hid (R = X ++ ([32] ++ ([] ++ P))) := Lib.hid (by
            rw [HQ.out, if_pos hd0, List.append_nil, List.take_of_length_le (by omega)])
          have hkn : ¬ 0 < (d : Int) := by omega
          clear hP hPl hj HMon HPad hq hlt hd0
          go_wp2_with fail
          refine (HNm.out _).mono ?_
          rintro e w3 ⟨rfl, hb⟩
          have HB3 := Lib.hid (bel_up HB2.out hb)
          clear hb
          go_wp2_with fail
          go_ret
          exact ⟨ret_str (by rw [HT.out]; first | exact str_x4 X [] P | exact str_x3 X P), HB3.out⟩
        · have HT : Hid (R = X ++ ([32] ++ ([] ++ (P.take q ++ ([46] ++ P.drop q))))) := Lib.hid (by
            rw [HQ.out, if_neg hd0]; rfl)
          have hkn : 0 < (d : Int) := by omega
          clear hP hPl hj HMon HPad hlt hd0
          go_upto_region 10 with (fail)
          go_quiet (fail)
          go_wp2_with fail
          refine (HNm.out _).mono ?_
          rintro e w3 ⟨rfl, hb⟩
          have HB3 := Lib.hid (bel_up (bel_up HB2.out (below_any _ nq)) hb)
          clear hb
          go_wp2_with fail
          go_ret
          exact ⟨ret_str (by rw [HT.out, mon_join2]; first | exact str_x4 X [] _ | exact str_x3 X _), HB3.out⟩

set_option maxHeartbeats 1000000 in
set_option maxRecDepth 100000 in
theorem prints_no (c n : Int) (h : c < 0 ∨ 8 ≤ c) (w : World) (L : LibW w) (C : CurW w) : Calls Tryd.prog 3 #[.int .i64 c, .int .i64 n] w fun e w' => e = .returned (.bool true) ∧ Below w.heap.size w w' := by
  have HP := Lib.hid (cprint_no c n h w)
  have HA := Lib.hid (awakeC_any w L C)
  clear L C
  rcases h with h | h
  all_goals first | (have k0 : ¬ c < 0 := by omega) | skip
  all_goals first | (have k1 : 7 < c := by omega) | skip
  all_goals
    go_enter Tryd.func3, Tryd.ntmps3
    go_wp2_with fail
    refine HP.out.mono ?_
    rintro e w1 ⟨rfl, rfl⟩
    go_wp2_with fail
    refine HA.out.mono ?_
    rintro e w2 ⟨rfl, hb⟩
    have HB := Lib.hid hb
    clear hb
    go_wp2_with fail
    go_ret
    exact ⟨rfl, HB.out⟩
set_option maxHeartbeats 1000000 in
set_option maxRecDepth 100000 in
theorem prints_ok (k : Nat) (hk : k < 8) (n : Int) (hn : I64 n) (w : World) (L : LibW w) (C : CurW w) : Calls Tryd.prog 3 #[.int .i64 k, .int .i64 n] w fun e w' => e = .returned (.bool true) ∧ Below w.heap.size w w' := by
  have HP := Lib.hid (cprint_ok k hk n hn w L C)
  have HR := Lib.hid (fun w => rcprint_any k hk n hn w)
  have HL := Lib.hid L
  have HC := Lib.hid C
  have HA := Lib.hid (fun w L C => awakeC_any w L C)
  have k0 : ¬ (k : Int) < 0 := by omega
  have k1 : ¬ 7 < (k : Int) := by omega
  generalize cashL k n = X at *
  clear L C
  go_enter Tryd.func3, Tryd.ntmps3
  go_wp2_with fail
  refine HP.out.mono ?_
  rintro e w1 ⟨rfl, hb⟩
  have HB := Lib.hid hb
  have HL1 := Lib.hid (HL.out.keep hb)
  have HC1 := Lib.hid (HC.out.keep hb)
  clear hb
  go_wp2_with fail
  refine (HR.out _).mono ?_
  rintro e w2 ⟨rfl, hb⟩
  have HB2 := Lib.hid (bel_up HB.out hb)
  have HL2 := Lib.hid (HL1.out.keep hb)
  have HC2 := Lib.hid (HC1.out.keep hb)
  clear hb
  go_wp2_with fail
  refine (HA.out _ HL2.out HC2.out).mono ?_
  rintro e w3 ⟨rfl, hb⟩
  have HB3 := Lib.hid (bel_up HB2.out hb)
  clear hb
  go_wp2_with fail
  go_ret
  exact ⟨rfl, HB3.out⟩
theorem prints_walk (c n : Int) (hn : I64 n) (w : World) (L : LibW w) (C : CurW w) : Calls Tryd.prog 3 #[.int .i64 c, .int .i64 n] w fun e w' => e = .returned (.bool true) ∧ Below w.heap.size w w' := by
  by_cases hc : c < 0 ∨ 8 ≤ c
  · exact prints_no c n hc w L C
  · obtain ⟨k, rfl⟩ : ∃ k : Nat, c = k := ⟨c.toNat, by omega⟩
    exact prints_ok k (by omega) n hn w L C
theorem prints_walk2 (c : Int) (_ : I64 c) (n : Int) (hn : I64 n) (w : World) (L : LibW w) (C : CurW w) : Calls Tryd.prog 3 #[.int .i64 c, .int .i64 n] w fun e w' => e = .returned (.bool true) ∧ Below w.heap.size w w' := prints_walk c n hn w L C

end Go.Proofs.YtfeaopaglhlojaaDoor
