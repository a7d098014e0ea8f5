/-
  Package cash: there, Name, Digits, Of: what they answer.
-/
import Derived.Test.YtadjhofomabbmaaDoorTxt
import Derived.BigQuiet
import Derived.Deep.QuietTactic
import Derived.Deep.RegionHeld3
import Derived.Shelf.Strings.SlTrimAscii
import Derived.OwnWalk
import Derived.Lib.AtoiAllCases
namespace Go.Proofs.YtadjhofomabbmaaDoor
open Go.RowKit Go.Lib
set_option linter.unusedVariables false

/-- Names, and digits behind the point. -/
def curNs : List (List UInt8) := [[69, 85, 82], [85, 83, 68], [71, 66, 80], [74, 80, 89], [67, 72, 70], [83, 69, 75], [75, 87, 68], [88, 65, 85]]
def curDs : List Nat := [2, 2, 2, 0, 2, 2, 3, 6]
def curN (k : Nat) : List UInt8 := curNs.getD k []
def curD (k : Nat) : Nat := curDs.getD k 0
/-- The table of currencies. -/
structure CurW (w : World) : Prop where
  nm : ∀ k, k < 8 → w.cell? ⟨0, k * 2, none⟩ = some (.string ⟨(curN k).toArray⟩)
  dg : ∀ k, k < 8 → w.cell? ⟨0, k * 2 + 1, none⟩ = some (.int .i64 (curD k))
theorem CurW.keep {w w' : World} (h : CurW w) (hb : Below w.heap.size w w') : CurW w' :=
  ⟨fun k hk => (hb.cell (p := ⟨_, k * 2, none⟩) (lt_cell' (h.nm k hk))).trans (h.nm k hk), fun k hk => (hb.cell (p := ⟨_, k * 2 + 1, none⟩) (lt_cell' (h.dg k hk))).trans (h.dg k hk)⟩

theorem there_yes (c : Int) (w : World) (h0 : 0 ≤ c) (h1 : c < 8) : Calls Tryd.prog 38 #[.int .i64 c] w fun e w' => e = .returned (.bool true) ∧ w = w' := by
  go_enter Tryd.func38, Tryd.ntmps38
  go_wp2_with fail
  go_ret
  exact ⟨rfl, rfl⟩
theorem there_no (c : Int) (w : World) (h : c < 0 ∨ 8 ≤ c) : Calls Tryd.prog 38 #[.int .i64 c] w fun e w' => e = .returned (.bool false) ∧ w = w' := by
  rcases h with h | h
  · go_enter Tryd.func38, Tryd.ntmps38
    go_wp2_with fail
    go_ret
    exact ⟨rfl, rfl⟩
  · have h0 : 0 ≤ c := by omega
    have h1 : ¬ c < 8 := by omega
    go_enter Tryd.func38, Tryd.ntmps38
    go_wp2_with fail
    go_ret
    exact ⟨rfl, rfl⟩

end Go.Proofs.YtadjhofomabbmaaDoor

namespace Go.Proofs.YtadjhofomabbmaaDoor
open Go.RowKit Go.Lib
set_option linter.unusedVariables false

theorem of1_any (k : Nat) (hk : k < 8) (l : List UInt8) (b : Nat) (w : World) (C : CurW w) (hb : w.cell? ⟨b, 0, none⟩ = some (.string ⟨l.toArray⟩)) :
    Calls Tryd.prog 69 #[.int .i64 k, .pointer (some ⟨b, 0, none⟩)] w fun e w' => e = .returned (.bool (curN k == l)) ∧ ∃ n, w' = w.drewN n := by
  have hc := C.nm k hk
  have i0 : (0 : Int) ≤ (k : Int) := by omega
  have i1 : (k : Int) < 8 := by omega
  clear C
  generalize curN k = X at *
  go_enter Tryd.func69, Tryd.ntmps69
  go_wp2_with fail
  go_quiet (fail)
  go_wp2_with fail
  go_ret
  exact ⟨rfl, nq, rfl⟩

/-- The first currency of a name. -/
def findK (l : List UInt8) : Nat → Option Nat
  | 0 => none
  | k + 1 => match findK l k with
    | some j => some j
    | none => if curN k == l then some k else none

theorem findK_stay {l : List UInt8} {j k : Nat} (h : findK l j = some k) : ∀ m, j ≤ m → findK l m = some k
  | 0, hm => by obtain rfl : j = 0 := by omega
                exact h
  | m + 1, hm => by
    by_cases e : j = m + 1
    · rw [← e]; exact h
    · have := findK_stay h m (by omega)
      unfold findK
      rw [this]
theorem findK_hit {l : List UInt8} {k : Nat} (h : findK l k = none) (he : (curN k == l) = true) : findK l (k + 1) = some k := by
  unfold findK; rw [h]; simp only [he, if_true]
theorem findK_miss {l : List UInt8} {k : Nat} (h : findK l k = none) (he : (curN k == l) = false) : findK l (k + 1) = none := by
  unfold findK; rw [h]; simp [he]
def FindAns (r : Option Nat) : Value := match r with
  | some k => .tuple #[.int .i64 k, .int .i64 0]
  | none => .tuple #[.int .i64 0, .int .i64 16]

set_option maxHeartbeats 1000000 in
set_option maxRecDepth 100000 in
theorem find_any (l : List UInt8) (f : FuncId) (b : Nat) (w : World) (C : CurW w) (hb : w.cell? ⟨b, 0, none⟩ = some (.string ⟨l.toArray⟩))
    (hf : ∀ (k : Nat) W, k < 8 → CurW W → W.cell? ⟨b, 0, none⟩ = some (.string ⟨l.toArray⟩) → Calls Tryd.prog f #[.int .i64 k, .pointer (some ⟨b, 0, none⟩)] W fun e w' => e = .returned (.bool (curN k == l)) ∧ ∃ n, w' = W.drewN n)
    (hent : ∀ (k : Nat) W, (callFunc f #[.int .i64 k, .pointer (some ⟨b, 0, none⟩)]).run Tryd.prog W = .ok (.enter f #[.int .i64 k, .pointer (some ⟨b, 0, none⟩)]) W) :
    Calls Tryd.prog 68 #[.func (.func f) #[] #[.pointer (some ⟨b, 0, none⟩)]] w fun e w' => e = .returned (FindAns (findK l 8)) ∧ ∃ n, w' = w.drewN n := by
  have HC := Lib.hid C
  have HB := Lib.hid hb
  have HF := Lib.hid hf
  clear C hb hf
  go_enter Tryd.func68, Tryd.ntmps68
  go_wp2_with fail
  go_loopw [5] (fun vi wx => ∃ k n : Nat, k ≤ 8 ∧ vi = .int .i64 k ∧ wx = w.drewN n ∧ findK l k = none) (fun vi _ => 8 - (RowKit.intOf vi).toNat)
  case atStart => exact ⟨0, 0, by omega, rfl, rfl, rfl⟩
  case round =>
    obtain ⟨k, n, hk, rfl, hwr, hno⟩ := hrel
    have HW := Lib.hid hwr
    have HNo := Lib.hid hno
    clear hwr hno
    by_cases hlt : k < 8
    · have HF1 := Lib.hid (fun W (e : W = w.drewN n) => HF.out k W hlt (by rw [e]; exact HC.out.keep (below_any w n)) (by rw [e]; exact HB.out))
      have i1 : (k : Int) < 8 := by omega
      by_cases hE : (curN k == l) = true
      · rw [hE] at HF1
        have HR : Hid (findK l 8 = some k) := Lib.hid (findK_stay (findK_hit HNo.out hE) 8 (by omega))
        clear hE
        go_wp2_with fail
        refine (HF1.out _ HW.out).mono ?_
        rintro e w1 ⟨rfl, m, rfl⟩
        go_wp2_with fail
        go_ret2
        exact ⟨by rw [HR.out]; rfl, n + m, by rw [HW.out, World.drewN_drewN]⟩
      · have hE' : (curN k == l) = false := by simpa using hE
        rw [hE'] at HF1
        have HR := Lib.hid (findK_miss HNo.out hE')
        clear hE hE'
        go_wp2_with fail
        refine (HF1.out _ HW.out).mono ?_
        rintro e w1 ⟨rfl, m, rfl⟩
        go_wp2_with fail
        go_roundw
        case rel => exact ⟨k + 1, n + m, by omega, by go_num, by rw [HW.out, World.drewN_drewN], HR.out⟩
        case measure => simp [RowKit.intOf]; omega
    · obtain rfl : k = 8 := by omega
      clear hlt hk
      go_wp2_with fail
      go_ret2
      exact ⟨by rw [HNo.out]; rfl, n, HW.out⟩

set_option maxRecDepth 100000 in
theorem cof_any (l : List UInt8) (w : World) (C : CurW w) : Calls Tryd.prog 51 #[.string ⟨l.toArray⟩] w fun e w' => e = .returned (FindAns (findK l 8)) ∧ Below w.heap.size w w' := by
  have HF := Lib.hid (find_any l 69 w.heap.size (w.alloc (.cells #[.string ⟨l.toArray⟩] 9)) (C.keep (below_one w _)) (new_at rfl) (fun k W hk C' h => of1_any k hk l w.heap.size W C' h) (fun k W => rfl))
  clear C
  go_enter Tryd.func51, Tryd.ntmps51
  go_wp2_with fail
  refine HF.out.mono ?_
  rintro e w1 ⟨rfl, n, rfl⟩
  cases hr : findK l 8 with
  | none =>
    unfold FindAns
    go_wp2_with fail
    go_ret2
    exact ⟨by rw [hr]; rfl, bel_up (below_one w _) (below_any _ n)⟩
  | some k =>
    unfold FindAns
    go_wp2_with fail
    go_ret2
    exact ⟨by rw [hr]; rfl, bel_up (below_one w _) (below_any _ n)⟩

end Go.Proofs.YtadjhofomabbmaaDoor

namespace Go.Proofs.YtadjhofomabbmaaDoor
open Go.RowKit Go.Lib
set_option linter.unusedVariables false

theorem repeat_one (c : UInt8) : ∀ k, repeatL [c] k = List.replicate k c
  | 0 => rfl
  | k + 1 => by unfold repeatL; rw [repeat_one c k]; rfl
theorem str_ext (l : List UInt8) (a b : Nat) : (⟨l.toArray⟩ : ByteArray).extract a b = ⟨((l.drop a).take (b - a)).toArray⟩ := by
  have h := Lib.extract_data ⟨l.toArray⟩ a b
  rw [← Lib.mk_data ((⟨l.toArray⟩ : ByteArray).extract a b), h]

theorem mon_join (P : List UInt8) (j : Nat) : (⟨P.toArray⟩ : ByteArray).extract 0 j ++ ((⟨#[46]⟩ : ByteArray) ++ (⟨P.toArray⟩ : ByteArray).extract j P.length) = ⟨(P.take j ++ ([46] ++ P.drop j)).toArray⟩ := by
  rw [str_ext, str_ext, show (⟨#[46]⟩ : ByteArray) = ⟨[46].toArray⟩ from rfl, str_app, str_app]
  rw [List.drop_zero, Nat.sub_zero, List.take_of_length_le (l := P.drop j) (by rw [List.length_drop]; omega)]
theorem mon_less (x : ByteArray) (l : List UInt8) (h : x = ⟨l.toArray⟩) : (⟨#[45]⟩ : ByteArray) ++ x = ⟨([45] ++ l).toArray⟩ := by
  rw [h]; exact str_app [45] l

/-- The digits of an amount, with a digit ahead of the point at least. -/
def padD (n : Int) (k : Nat) : List UInt8 := List.replicate (k + 1 - (decDigits n.natAbs).length) 48 ++ decDigits n.natAbs
/-- An amount as a text. -/
def monL (n : Int) (k : Nat) : List UInt8 :=
  (if n < 0 then [45] else []) ++ ((padD n k).take ((padD n k).length - k) ++ (if k = 0 then [] else 46 :: (padD n k).drop ((padD n k).length - k)))
theorem padD_len (n : Int) (k : Nat) : k < (padD n k).length := by unfold padD; simp; omega

theorem cutp (n : Int) : trimPrefix (itoa n) [45] = decDigits n.natAbs ∧ hasPrefix (itoa n) [45] = decide (n < 0) := by
  unfold trimPrefix hasPrefix itoa
  by_cases h : n < 0
  · rw [if_pos h]; simp [h, List.isPrefixOf]
  · rw [if_neg h]
    obtain ⟨c, r, e, hc⟩ := dec_head n.toNat
    have hne : (45 : UInt8) ≠ c := by intro e2; subst e2; exact absurd hc (by decide)
    have hp : [45].isPrefixOf (decDigits n.toNat) = false := by rw [e]; show ((45 == c) && _) = false; rw [beq_false_of_ne hne]; rfl
    rw [hp, show n.natAbs = n.toNat by omega]
    simp [h]
theorem cutprefix_any (l p : List UInt8) (w : World) :
    Calls Tryd.prog 64 #[.string ⟨l.toArray⟩, .string ⟨p.toArray⟩] w fun e w' => e = .returned (.tuple #[.string ⟨(trimPrefix l p).toArray⟩, .bool (hasPrefix l p)]) ∧ w = w' :=
  (Tryd.strings_CutPrefix ⟨l.toArray⟩ ⟨p.toArray⟩ w).mono fun e w' ⟨h1, h2⟩ => ⟨h1, h2.symm⟩
theorem repeat_any (c : Nat) (hc : c ≤ 1000) (w : World) :
    Calls Tryd.prog 66 #[.string ⟨#[48]⟩, .int .i64 c] w fun e w' => e = .returned (.string ⟨(List.replicate c 48).toArray⟩) ∧ Below w.heap.size w w' := by
  have h := Tryd.strings_Repeat ⟨#[48]⟩ c w (by omega) (by show 1 * c ≤ _; omega)
  rw [show (⟨#[48]⟩ : ByteArray).data.toList = [48] from rfl, repeat_one] at h
  exact h

set_option maxHeartbeats 2000000 in
set_option maxRecDepth 100000 in
theorem write_any (n : Int) (k : Nat) (hn : I64 n) (hk : k ≤ 6) (w : World) (L : LibW w) :
    Calls Tryd.prog 49 #[.int .i64 n, .int .i64 k] w fun e w' => e = .returned (.string ⟨(monL n k).toArray⟩) ∧ Below w.heap.size w w' := by
  have HI := Lib.hid (itoa_any n w L hn.1 hn.2)
  obtain ⟨hc1, hc2⟩ := cutp n
  have HC := Lib.hid (fun w => cutprefix_any (itoa n) [45] w)
  rw [hc1, hc2] at HC
  have hlen : (itoa n).length ≤ 20 := itoa_len20 hn.1 hn.2
  have hdl : (decDigits n.natAbs).length ≤ 20 := by rw [← hc1]; unfold trimPrefix; split; simp; omega; exact hlen
  obtain ⟨D, hD⟩ : ∃ D, D = decDigits n.natAbs := ⟨_, rfl⟩
  obtain ⟨I, hI⟩ : ∃ I, I = itoa n := ⟨_, rfl⟩
  rw [← hD] at HC hdl
  rw [← hI] at HC HI hlen
  obtain ⟨m, hm⟩ : ∃ m, m = k + 1 - D.length := ⟨_, rfl⟩
  have HR := Lib.hid (fun w => repeat_any m (by omega) w)
  obtain ⟨Z, hZ⟩ : ∃ Z, Z = List.replicate m (48 : UInt8) := ⟨_, rfl⟩
  have hZl : Z.length = m := by rw [hZ]; simp
  rw [← hZ] at HR
  obtain ⟨P, hP⟩ : ∃ P, Z ++ D = P := ⟨_, rfl⟩
  have hPl : P.length = m + D.length := by rw [← hP]; simp [hZl]
  have HP : Hid (padD n k = P) := Lib.hid (by unfold padD; rw [← hD, ← hm, ← hZ, hP])
  have hmax : max (0 : Int) ((k : Int) + 1 - D.length) = (m : Int) := by omega
  have hPk : k < P.length := by omega
  have hP30 : P.length ≤ 30 := by omega
  have hm30 : m ≤ 10 := by omega
  have hz30 : Z.length ≤ 10 := by omega
  have HPE := Lib.hid hP
  clear hc1 hc2 hD hI L hm hPl hP hZ hZl
  go_enter Tryd.func49, Tryd.ntmps49
  go_wp2_with fail
  refine HI.out.mono ?_
  rintro e w1 ⟨rfl, hb1⟩
  have HB1 := Lib.hid hb1
  clear hb1
  go_wp2_with fail
  refine (HC.out _).mono ?_
  rintro e w2 ⟨rfl, rfl⟩
  go_wp2_with fail
  refine (HR.out _).mono ?_
  rintro e w3 ⟨rfl, hb3⟩
  have HB3 := Lib.hid (bel_up HB1.out hb3)
  clear hb3 hmax
  go_upto_region 3 with (fail)
  rw [str_app, HPE.out]
  obtain ⟨j, hj⟩ : ∃ j : Nat, (P.length : Int) - (k : Int) = (j : Int) := ⟨P.length - k, by omega⟩
  have hjP : j ≤ P.length := by omega
  have HJ : Hid (j = P.length - k) := Lib.hid (by omega)
  have hj0 : (0 : Int) ≤ (j : Int) := by omega
  have HPk := Lib.hid hPk
  by_cases hk0 : k = 0
  · have HK0 := Lib.hid hk0
    have hkn : ¬ 0 < (k : Int) := by omega
    clear hk0
    by_cases hneg : n < 0
    · have HT : Hid (monL n k = [45] ++ P.take j) := Lib.hid (by unfold monL; rw [if_pos hneg, if_pos HK0.out, HP.out, ← HJ.out, List.append_nil])
      go_wp2_with fail
      go_ret
      exact ⟨ret_str (by rw [HT.out]; exact (congrArg (fun x => (⟨#[45]⟩ : ByteArray) ++ x) (str_ext P 0 j)).trans (str_app [45] _)), HB3.out⟩
    · have HT : Hid (monL n k = P.take j) := Lib.hid (by unfold monL; rw [if_neg hneg, if_pos HK0.out, HP.out, ← HJ.out, List.append_nil, List.nil_append])
      go_wp2_with fail
      go_ret
      exact ⟨ret_str (by rw [HT.out]; exact str_ext P 0 j), HB3.out⟩
  · have HK0 := Lib.hid hk0
    have hkn : 0 < (k : Int) := by omega
    clear hk0
    by_cases hneg : n < 0
    · have HT : Hid (monL n k = [45] ++ (P.take j ++ ([46] ++ P.drop j))) := Lib.hid (by unfold monL; rw [if_pos hneg, if_neg HK0.out, HP.out, ← HJ.out]; rfl)
      go_wp2_with fail
      go_ret
      exact ⟨ret_str (by rw [HT.out]; exact mon_less _ _ (mon_join P j)), HB3.out⟩
    · have HT : Hid (monL n k = P.take j ++ ([46] ++ P.drop j)) := Lib.hid (by unfold monL; rw [if_neg hneg, if_neg HK0.out, HP.out, ← HJ.out, List.nil_append]; rfl)
      go_wp2_with fail
      go_ret
      exact ⟨ret_str (by rw [HT.out]; exact mon_join P j), HB3.out⟩

/-- Money's text. -/
def cashL (k : Nat) (n : Int) : List UInt8 := curN k ++ 32 :: monL n (curD k)
theorem monL_len {n : Int} {k : Nat} (hn : I64 n) (hk : k ≤ 6) : (monL n k).length ≤ 60 := by
  have h1 : (decDigits n.natAbs).length ≤ 20 := by
    have h := itoa_len20 hn.1 hn.2
    have e := (cutp n).1
    rw [← e]
    unfold trimPrefix
    split
    · rw [List.length_drop]; omega
    · exact h
  have h2 : (padD n k).length ≤ 27 := by unfold padD; simp; omega
  have h3 : (padD n k).length - ((padD n k).length - k) ≤ 27 := by omega
  unfold monL
  rw [List.length_append, List.length_append, List.length_take]
  have h4 : (if n < 0 then [(45 : UInt8)] else []).length ≤ 1 := by split <;> simp
  have h5 : (if k = 0 then [] else 46 :: (padD n k).drop ((padD n k).length - k)).length ≤ 28 := by
    split
    · simp
    · rw [List.length_cons, List.length_drop]; omega
  omega
theorem curD_le (k : Nat) (hk : k < 8) : curD k ≤ 6 := by
  match k, hk with
  | 0, _ => decide
  | 1, _ => decide
  | 2, _ => decide
  | 3, _ => decide
  | 4, _ => decide
  | 5, _ => decide
  | 6, _ => decide
  | 7, _ => decide
theorem cprint_no (c n : Int) (h : c < 0 ∨ 8 ≤ c) (w : World) : Calls Tryd.prog 36 #[.int .i64 c, .int .i64 n] w fun e w' => e = .returned (.tuple #[.string ⟨#[]⟩, .int .i64 10]) ∧ w = w' := by
  have HT := Lib.hid (fun w => there_no c w h)
  clear h
  go_enter Tryd.func36, Tryd.ntmps36
  go_wp2_with fail
  refine (HT.out _).mono ?_
  rintro e w1 ⟨rfl, rfl⟩
  go_wp2_with fail
  go_ret2
  exact ⟨rfl, rfl⟩

set_option maxHeartbeats 2000000 in
set_option maxRecDepth 100000 in
theorem cprint_ok (k : Nat) (hk : k < 8) (n : Int) (hn : I64 n) (w : World) (L : LibW w) (C : CurW w) : Calls Tryd.prog 36 #[.int .i64 k, .int .i64 n] w fun e w' => e = .returned (.tuple #[.string ⟨(cashL k n).toArray⟩, .int .i64 0]) ∧ Below w.heap.size w w' := by
  have HT := Lib.hid (fun w => there_yes k w (by omega) (by omega))
  have hc := C.nm k hk
  have hd := C.dg k hk
  have hg := lt_cell' hc
  have HW := Lib.hid (write_any n (curD k) hn (curD_le k hk) w.drew (L.keep (Below.drew (Below.refl _ _))))
  have i0 : (0 : Int) ≤ (k : Int) := by omega
  have i1 : (k : Int) < 8 := by omega
  have hX3 : (curN k).length ≤ 3 := by
    match k, hk with
    | 0, _ => decide
    | 1, _ => decide
    | 2, _ => decide
    | 3, _ => decide
    | 4, _ => decide
    | 5, _ => decide
    | 6, _ => decide
    | 7, _ => decide
  obtain ⟨X, hX⟩ : ∃ X, X = curN k := ⟨_, rfl⟩
  obtain ⟨d, hd'⟩ : ∃ d, d = curD k := ⟨_, rfl⟩
  obtain ⟨M, hM⟩ : ∃ M, M = monL n (curD k) := ⟨_, rfl⟩
  have HE : Hid (cashL k n = X ++ ([32] ++ M)) := Lib.hid (by unfold cashL; rw [← hX, ← hM]; rfl)
  have hM40 : M.length ≤ 60 := by rw [hM]; exact monL_len hn (curD_le k hk)
  rw [← hM] at HW
  rw [← hX] at hc hX3
  rw [← hd'] at hd HW
  have hs1 : ¬ 9223372036854775807 < X.length + 1 := by omega
  have hs2 : ¬ 9223372036854775807 < X.length + 1 + M.length := by omega
  have hs3 : X.length + 1 ≤ 9223372036854775807 := by omega
  have hs4 : X.length + 1 + M.length ≤ 9223372036854775807 := by omega
  clear hX hM hd' C L
  go_enter Tryd.func36, Tryd.ntmps36
  go_wp2_with fail
  refine (HT.out _).mono ?_
  rintro e w1 ⟨rfl, rfl⟩
  go_wp2_with fail
  go_region_held3 (fun w' => w'.cell? ⟨0, k * 2, none⟩ = some (.string ⟨X.toArray⟩) ∧ w'.cell? ⟨0, k * 2 + 1, none⟩ = some (.int .i64 d))
    (first | (with_reducible exact ⟨hc', hd'⟩) | (with_reducible exact ⟨hc, hd⟩) | go_keep)
    (first | (go_at_call 49; (with_reducible refine HW.out.mono ?_); rintro e w3 ⟨rfl, hb3⟩; have HB3 := Lib.hid (undrewB hb3); have hc' := ((undrewB hb3).cell (p := ⟨0, k * 2, none⟩) hg).trans hc; have hd' := ((undrewB hb3).cell (p := ⟨0, k * 2 + 1, none⟩) hg).trans hd; clear hb3))
  all_goals go_wp2_with fail
  all_goals go_ret2
  all_goals exact ⟨ret2_str (by rw [HE.out, ← List.append_assoc, ← str_app, ← str_app]), HB3.out⟩

end Go.Proofs.YtadjhofomabbmaaDoor

namespace Go.Proofs.YtadjhofomabbmaaDoor
open Go.RowKit Go.Lib
set_option linter.unusedVariables false

/-- The bytes of decimal digits. -/
def digs10 : List UInt8 := [48, 49, 50, 51, 52, 53, 54, 55, 56, 57]
theorem boolTab : (Tryd.prog.info? 130).map (fun i => (i.zero, i.size)) = some (some (.agg (Array.replicate 256 (.bool false))), 256) := by kernel_rfl
theorem trimC (l cs : List UInt8) (w : World) (hl : l.length ≤ 1000) (hc : cs.length ≤ 100) (ha : cs.all (fun b => decide (b.toNat < 128)) = true) :
    Calls Tryd.prog 72 #[.string ⟨l.toArray⟩, .string ⟨cs.toArray⟩] w fun e w' => e = .returned (.string ⟨(Lib.trimS l cs).toArray⟩) ∧ Below w.heap.size w w' :=
  Any.strings_Trim_laid Tryd.lays160 boolTab ⟨l.toArray⟩ ⟨cs.toArray⟩ w (by show l.toArray.size ≤ _; simp; omega) (by show cs.toArray.size < _; simp; omega) (ascii_of_all ha)

theorem dw_head {p : UInt8 → Bool} : ∀ {l r : List UInt8} {y : UInt8}, l.dropWhile p = y :: r → p y = false
  | [], _, _, h => by cases h
  | x :: l, r, y, h => by
    rw [List.dropWhile_cons] at h
    split at h
    · exact dw_head h
    · rename_i hx
      injection h with h1 h2
      subst h1; simpa using hx
theorem dw_nil {p : UInt8 → Bool} : ∀ {l : List UInt8}, l.dropWhile p = [] ↔ ∀ x ∈ l, p x = true
  | [] => by simp
  | x :: l => by
    rw [List.dropWhile_cons]
    split
    · rename_i hx
      rw [dw_nil]; simp [hx]
    · rename_i hx
      simp [hx]
theorem trimS_nil {l cs : List UInt8} : Lib.trimS l cs = [] ↔ ∀ x ∈ l, cs.contains x = true := by
  unfold Lib.trimS Lib.trimLeftS Lib.trimRightS
  rw [dw_nil]
  constructor
  · intro h
    cases e : l.reverse.dropWhile (cs.contains ·) with
    | nil => 
      have := (dw_nil (p := (cs.contains ·))).1 e
      intro x hx
      exact this x (by simpa using hx)
    | cons y r =>
      have h1 := dw_head e
      have h2 := h y (by rw [e]; simp)
      rw [h1] at h2; cases h2
  · intro h
    rw [(dw_nil (p := (cs.contains ·))).2 (fun x hx => h x (by simpa using hx))]
    intro x hx
    simp at hx
set_option maxRecDepth 100000 in
theorem digs_iff (c : UInt8) : digs10.contains c = isDg c := by
  have h : ∀ n : Fin 256, digs10.contains (UInt8.ofNat n.val) = isDg (UInt8.ofNat n.val) := by decide
  have := h ⟨c.toNat, c.toNat_lt⟩
  simpa using this
theorem one_iff (c d : UInt8) : [d].contains c = (c == d) := Lib.contains_one d c
theorem all_digs {l : List UInt8} : Lib.trimS l digs10 = [] ↔ l.all isDg = true := by
  rw [trimS_nil, List.all_eq_true]
  exact ⟨fun h x hx => by rw [← digs_iff]; exact h x hx, fun h x hx => by rw [digs_iff]; exact h x hx⟩

set_option maxRecDepth 100000 in
theorem decimal_any (l : List UInt8) (hl : l.length ≤ 1000) (w : World) :
    Calls Tryd.prog 71 #[.string ⟨l.toArray⟩] w fun e w' => e = .returned (.bool (l.all isDg)) ∧ Below w.heap.size w w' := by
  have HT := Lib.hid (fun w => trimC l digs10 w hl (by decide) (by decide))
  by_cases h : Lib.trimS l digs10 = []
  · rw [h] at HT
    rw [all_digs.1 h]
    clear h
    go_enter Tryd.func71, Tryd.ntmps71
    go_wp2_with fail
    refine (HT.out _).mono ?_
    rintro e w1 ⟨rfl, hb⟩
    go_wp2_with fail
    go_ret
    exact ⟨rfl, hb⟩
  · have hf : l.all isDg = false := by
      cases e : l.all isDg with
      | false => rfl
      | true => exact absurd (all_digs.2 e) h
    rw [hf]
    obtain ⟨T, hT⟩ : ∃ T, T = Lib.trimS l digs10 := ⟨_, rfl⟩
    rw [← hT] at HT h
    have h1 : T.isEmpty = false := by simpa using h
    have h2 : (T == []) = false := by simpa using h
    clear hT hf
    go_enter Tryd.func71, Tryd.ntmps71
    go_wp2_with fail
    refine (HT.out _).mono ?_
    rintro e w1 ⟨rfl, hb⟩
    go_wp2_with fail
    go_ret
    exact ⟨rfl, hb⟩

/-- A whole number's digits, with no nought ahead of others. -/
def cntB (l : List UInt8) : Bool := match l with
  | [] => false
  | c :: r => (c == 48 && r.isEmpty) || (c != 48 && (c :: r).all isDg)

theorem at0 {s r : List UInt8} {c : UInt8} (hs : s = c :: r) (h : 0 < (⟨s.toArray⟩ : ByteArray).size) : (((⟨s.toArray⟩ : ByteArray)[0]'h).toNat : Int) = (c.toNat : Int) := by
  subst hs; rfl

set_option maxHeartbeats 1000000 in
set_option maxRecDepth 100000 in
theorem counts_any (l : List UInt8) (hl : l.length ≤ 1000) (w : World) :
    Calls Tryd.prog 70 #[.string ⟨l.toArray⟩] w fun e w' => e = .returned (.bool (cntB l)) ∧ Below w.heap.size w w' := by
  have HD := Lib.hid (fun w => decimal_any l hl w)
  match l, hl, HD with
  | [], _, _ =>
    unfold cntB
    go_enter Tryd.func70, Tryd.ntmps70
    go_wp2_with fail
    go_ret
    exact ⟨rfl, Below.refl _ _⟩
  | c :: r, hl, HD =>
    obtain ⟨s, hs⟩ : ∃ s, s = c :: r := ⟨_, rfl⟩
    rw [← hs] at HD hl ⊢
    by_cases h48 : c = 48
    · by_cases hr : r = []
      · have hc : cntB s = true := by rw [hs, h48, hr]; rfl
        rw [hc]
        have h1 : s = [48] := by rw [hs, h48, hr]
        subst h1
        clear hs hc h48 hr
        go_enter Tryd.func70, Tryd.ntmps70
        go_wp2_with fail
        go_ret
        exact ⟨rfl, Below.refl _ _⟩
      · have hc : cntB s = false := by
          rw [hs, h48]
          unfold cntB
          cases r with
          | nil => exact absurd rfl hr
          | cons x y => rfl
        rw [hc]
        have h1 : (s == [48]) = false := by
          rw [hs, h48]
          cases r with
          | nil => exact absurd rfl hr
          | cons x y => rfl
        have h2 : (s == []) = false := by rw [hs]; rfl
        have h3 : s.length ≠ 0 := by rw [hs]; simp
        have h4 : s.toArray[0]? = some 48 := by rw [hs, h48]; rfl
        have h5 : 0 < s.length := by omega
        have H0 := Lib.hid (fun h => at0 hs h)
        subst h48
        clear hs hc hr HD h4
        go_enter Tryd.func70, Tryd.ntmps70
        go_wp2_with fail
        · go_ret
          exact ⟨rfl, Below.refl _ _⟩
        · rename_i hx _ _
          exact absurd (H0.out _) hx
    · have hc : cntB s = s.all isDg := by
        rw [hs]
        show ((c == 48 && r.isEmpty) || (c != 48 && (c :: r).all isDg)) = _
        have h6 : (c == 48) = false := beq_eq_false_iff_ne.2 h48
        show ((c == 48 && r.isEmpty) || (!(c == 48) && (c :: r).all isDg)) = _
        rw [h6]
        rfl
      rw [hc]
      have h1 : (s == [48]) = false := by
        rw [hs]
        show (c == 48 && r == []) = false
        rw [beq_eq_false_iff_ne.2 h48]
        rfl
      have h2 : (s == []) = false := by rw [hs]; rfl
      have h4 : s.toArray[0]? = some c := by rw [hs]; rfl
      have h3 : s.length ≠ 0 := by rw [hs]; simp
      have h5 : 0 < s.length := by omega
      have H0 := Lib.hid (fun h => at0 hs h)
      generalize s.all isDg = d at HD ⊢
      have H48 := Lib.hid h48
      clear hs hc h4 h48
      go_enter Tryd.func70, Tryd.ntmps70
      go_wp2_with fail
      · rename_i hx
        exact absurd (UInt8.toNat_inj.1 (by have := (H0.out _).symm.trans hx; exact Int.ofNat.inj this)) H48.out
      rename_i hx _ _
      refine (HD.out _).mono ?_
      rintro e w1 ⟨rfl, hb⟩
      go_wp2_with fail
      go_ret
      exact ⟨by show Ending.returned (.bool (_ && d)) = _; rw [bne_iff_ne.2 hx]; rfl, hb⟩

end Go.Proofs.YtadjhofomabbmaaDoor

namespace Go.Proofs.YtadjhofomabbmaaDoor
open Go.RowKit Go.Lib
set_option linter.unusedVariables false

/-- What read makes of a text: the number and the error. -/
def readF (b : Bool) (F : List UInt8) : Int × Int :=
  if b = true then
    if Lib.trimS F [48] = [] then (0, 13) else
      match atoiAll (45 :: F) with | .ok v => (v, 0) | _ => (0, 11)
  else match atoiAll F with | .ok v => (v, 0) | _ => (0, 11)
def readP (d : Nat) (W H : List UInt8) (p : Bool) : Bool := p == decide (0 < d) && (H.length == d && (cntB W && H.all isDg))
def readK (l : List UInt8) (d : Nat) : Int × Int :=
  if readP d (cut (trimPrefix l [45]) [46]).1 (cut (trimPrefix l [45]) [46]).2.1 (cut (trimPrefix l [45]) [46]).2.2 = true then
    readF (hasPrefix l [45]) ((cut (trimPrefix l [45]) [46]).1 ++ (cut (trimPrefix l [45]) [46]).2.1)
  else (0, 13)
def ReadKAns (r : Int × Int) (w : World) (e : Ending) (w' : World) : Prop :=
  e = .returned (.tuple #[.int .i64 r.1, .int .i64 r.2]) ∧ Below w.heap.size w w'
theorem trimPrefix_le (l : List UInt8) : (trimPrefix l [45]).length ≤ l.length := by
  unfold trimPrefix; split
  · rw [List.length_drop]; omega
  · exact Nat.le_refl _

set_option maxHeartbeats 1000000 in
set_option maxRecDepth 100000 in
theorem readK_any (l : List UInt8) (hl : l.length ≤ 400) (d : Nat) (hd : d ≤ 6) (w : World) (L : LibW w) :
    Calls Tryd.prog 52 #[.string ⟨l.toArray⟩, .int .i64 d] w (ReadKAns (readK l d) w) := by
  have HL := Lib.hid L
  have HP := Lib.hid (fun w => cutprefix_any l [45] w)
  have h0 := trimPrefix_le l
  obtain ⟨T, hT⟩ : ∃ T, T = trimPrefix l [45] := ⟨_, rfl⟩
  obtain ⟨b, hb⟩ : ∃ b, b = hasPrefix l [45] := ⟨_, rfl⟩
  have HE : Hid (readK l d = if readP d (cut T [46]).1 (cut T [46]).2.1 (cut T [46]).2.2 = true then readF b ((cut T [46]).1 ++ (cut T [46]).2.1) else (0, 13)) := Lib.hid (by rw [hT, hb]; rfl)
  rw [← hT] at h0
  rw [← hT, ← hb] at HP
  generalize readK l d = R at HE ⊢
  have HC := Lib.hid (fun w L => cut_any T 46 (by omega) w L)
  have hle := cut_le T [46]
  obtain ⟨W, hW⟩ : ∃ W, W = (cut T [46]).1 := ⟨_, rfl⟩
  obtain ⟨H, hH⟩ : ∃ H, H = (cut T [46]).2.1 := ⟨_, rfl⟩
  obtain ⟨p, hp⟩ : ∃ p, p = (cut T [46]).2.2 := ⟨_, rfl⟩
  rw [← hW, ← hH, ← hp] at HC HE
  rw [← hW, ← hH] at hle
  have h1 : W.length ≤ 400 := by omega
  have h2 : H.length ≤ 400 := by omega
  clear hT hb hW hH hp hle h0 L
  have HN := Lib.hid (fun w => counts_any W (by omega) w)
  have HD := Lib.hid (fun w => decimal_any H (by omega) w)
  by_cases c1 : p = decide (0 < d)
  · have hS : Hid (p = decide (0 < d)) := Lib.hid c1
    have hpd : (p = true) = (0 < d) := by rw [c1]; simp
    by_cases c2 : H.length = d
    · generalize hg : cntB W = g at HN
      cases g with
      | true =>
        generalize hz : H.all isDg = z at HD
        cases z with
        | true =>
          have HR0 : Hid (R = readF b (W ++ H)) := Lib.hid (by
            rw [HE.out, if_pos]
            unfold readP; rw [c2, hg, hz, hS.out]; simp)
          clear HE hg hz hS hpd
          subst c1 c2
          have hs1 : ¬ 9223372036854775807 < W.length + H.length := by omega
          have hs2 : W.length + H.length ≤ 9223372036854775807 := by omega
          cases b with
          | false =>
            by_cases hok : ∃ v, atoiAll (W ++ H) = .ok v
            · obtain ⟨v, hv⟩ := hok
              have HAt := Lib.hid (fun w => atoi_yes (W ++ H) (by rw [List.length_append]; omega) v hv w)
              have HR : Hid (R = (v, 0)) := Lib.hid (by rw [HR0.out]; unfold readF; rw [if_neg (by decide), hv])
              clear hv HR0
              rw [← str_app] at HAt
              go_enter Tryd.func52, Tryd.ntmps52
              go_wp2_with fail
              refine (HP.out _).mono ?_
              rintro e w1 ⟨rfl, rfl⟩
              go_wp2_with fail
              refine (HC.out _ HL.out).mono ?_
              rintro e w1 ⟨rfl, hb1⟩
              go_wp2_with fail
              refine (HN.out _).mono ?_
              rintro e w2 ⟨rfl, hb2⟩
              go_wp2_with fail
              refine (HD.out _).mono ?_
              rintro e w3 ⟨rfl, hb3⟩
              go_wp2_with fail
              refine (HAt.out _).mono ?_
              rintro e w5 ⟨rfl, hb5⟩
              go_wp2_with fail
              go_ret2
              exact ⟨by rw [HR.out]; rfl, bel_up (bel_up (bel_up (hb1) hb2) hb3) hb5⟩
            · have hno : ∀ v, atoiAll (W ++ H) ≠ .ok v := fun v e => hok ⟨v, e⟩
              have HAt := Lib.hid (fun w L => atoi_no (W ++ H) (by rw [List.length_append]; omega) hno w L)
              have HR : Hid (R = (0, 11)) := Lib.hid (by
                rw [HR0.out]; unfold readF; rw [if_neg (by decide)]
                cases e : atoiAll (W ++ H)
                · exact absurd e (hno _)
                · rfl
                · rfl)
              clear hno hok HR0
              rw [← str_app] at HAt
              go_enter Tryd.func52, Tryd.ntmps52
              go_wp2_with fail
              refine (HP.out _).mono ?_
              rintro e w1 ⟨rfl, rfl⟩
              go_wp2_with fail
              refine (HC.out _ HL.out).mono ?_
              rintro e w1 ⟨rfl, hb1⟩
              go_wp2_with fail
              refine (HN.out _).mono ?_
              rintro e w2 ⟨rfl, hb2⟩
              go_wp2_with fail
              refine (HD.out _).mono ?_
              rintro e w3 ⟨rfl, hb3⟩
              go_wp2_with fail
              refine (HAt.out _ (((HL.out.keep hb1).keep hb2).keep hb3)).mono ?_
              rintro e w5 ⟨⟨x, N, rfl⟩, hb5⟩
              go_wp2_with fail
              go_ret2
              exact ⟨by rw [HR.out]; rfl, bel_up (bel_up (bel_up (hb1) hb2) hb3) hb5⟩
          | true =>
            have hs3 : ¬ 9223372036854775807 < 1 + (W.length + H.length) := by omega
            have hs4 : 1 + (W.length + H.length) ≤ 9223372036854775807 := by omega
            have hs5 : ¬ 9223372036854775807 < W.length + H.length + 1 := by omega
            have HT := Lib.hid (fun w => trimC (W ++ H) [48] w (by rw [List.length_append]; omega) (by decide) (by decide))
            rw [← str_app] at HT
            by_cases ht : Lib.trimS (W ++ H) [48] = []
            · rw [ht] at HT
              have HR : Hid (R = (0, 13)) := Lib.hid (by rw [HR0.out]; unfold readF; rw [if_pos rfl, if_pos ht])
              clear ht HR0
              go_enter Tryd.func52, Tryd.ntmps52
              go_wp2_with fail
              refine (HP.out _).mono ?_
              rintro e w1 ⟨rfl, rfl⟩
              go_wp2_with fail
              refine (HC.out _ HL.out).mono ?_
              rintro e w1 ⟨rfl, hb1⟩
              go_wp2_with fail
              refine (HN.out _).mono ?_
              rintro e w2 ⟨rfl, hb2⟩
              go_wp2_with fail
              refine (HD.out _).mono ?_
              rintro e w3 ⟨rfl, hb3⟩
              go_wp2_with fail
              refine (HT.out _).mono ?_
              rintro e w4 ⟨rfl, hb4⟩
              go_wp2_with fail
              go_ret2
              exact ⟨by rw [HR.out]; rfl, bel_up (bel_up (bel_up (hb1) hb2) hb3) hb4⟩
            · obtain ⟨T2, hT2⟩ : ∃ T2, T2 = Lib.trimS (W ++ H) [48] := ⟨_, rfl⟩
              rw [← hT2] at HT
              have ht1 : T2.isEmpty = false := by rw [hT2]; simpa using ht
              have ht2 : (T2 == []) = false := by rw [hT2]; simpa using ht
              have hc : (45 :: (W ++ H)) = [45] ++ (W ++ H) := rfl
              by_cases hok : ∃ v, atoiAll (45 :: (W ++ H)) = .ok v
              · obtain ⟨v, hv⟩ := hok
                have HAt := Lib.hid (fun w => atoi_yes (45 :: (W ++ H)) (by simp; omega) v hv w)
                have HR : Hid (R = (v, 0)) := Lib.hid (by rw [HR0.out]; unfold readF; rw [if_pos rfl, if_neg ht, hv])
                rw [hc, ← str_app, ← str_app] at HAt
                clear hv HR0 ht hT2 hc
                go_enter Tryd.func52, Tryd.ntmps52
                go_wp2_with fail
                refine (HP.out _).mono ?_
                rintro e w1 ⟨rfl, rfl⟩
                go_wp2_with fail
                refine (HC.out _ HL.out).mono ?_
                rintro e w1 ⟨rfl, hb1⟩
                go_wp2_with fail
                refine (HN.out _).mono ?_
                rintro e w2 ⟨rfl, hb2⟩
                go_wp2_with fail
                refine (HD.out _).mono ?_
                rintro e w3 ⟨rfl, hb3⟩
                go_wp2_with fail
                refine (HT.out _).mono ?_
                rintro e w4 ⟨rfl, hb4⟩
                go_wp2_with fail
                refine (HAt.out _).mono ?_
                rintro e w5 ⟨rfl, hb5⟩
                go_wp2_with fail
                go_ret2
                exact ⟨by rw [HR.out]; rfl, bel_up (bel_up (bel_up (bel_up (hb1) hb2) hb3) hb4) hb5⟩
              · have hno : ∀ v, atoiAll (45 :: (W ++ H)) ≠ .ok v := fun v e => hok ⟨v, e⟩
                have HAt := Lib.hid (fun w L => atoi_no (45 :: (W ++ H)) (by simp; omega) hno w L)
                have HR : Hid (R = (0, 11)) := Lib.hid (by
                  rw [HR0.out]; unfold readF; rw [if_pos rfl, if_neg ht]
                  cases e : atoiAll (45 :: (W ++ H))
                  · exact absurd e (hno _)
                  · rfl
                  · rfl)
                rw [hc, ← str_app, ← str_app] at HAt
                clear hno hok HR0 ht hT2 hc
                go_enter Tryd.func52, Tryd.ntmps52
                go_wp2_with fail
                refine (HP.out _).mono ?_
                rintro e w1 ⟨rfl, rfl⟩
                go_wp2_with fail
                refine (HC.out _ HL.out).mono ?_
                rintro e w1 ⟨rfl, hb1⟩
                go_wp2_with fail
                refine (HN.out _).mono ?_
                rintro e w2 ⟨rfl, hb2⟩
                go_wp2_with fail
                refine (HD.out _).mono ?_
                rintro e w3 ⟨rfl, hb3⟩
                go_wp2_with fail
                refine (HT.out _).mono ?_
                rintro e w4 ⟨rfl, hb4⟩
                go_wp2_with fail
                refine (HAt.out _ ((((HL.out.keep hb1).keep hb2).keep hb3).keep hb4)).mono ?_
                rintro e w5 ⟨⟨x, N, rfl⟩, hb5⟩
                go_wp2_with fail
                go_ret2
                exact ⟨by rw [HR.out]; rfl, bel_up (bel_up (bel_up (bel_up (hb1) hb2) hb3) hb4) hb5⟩
        | false =>
          have HR : Hid (R = (0, 13)) := Lib.hid (by
            rw [HE.out, if_neg]
            unfold readP
            rw [hz]; simp)
          clear HE hg hz hS hpd
          subst c1 c2
          go_enter Tryd.func52, Tryd.ntmps52
          go_wp2_with fail
          refine (HP.out _).mono ?_
          rintro e w1 ⟨rfl, rfl⟩
          go_wp2_with fail
          refine (HC.out _ HL.out).mono ?_
          rintro e w1 ⟨rfl, hb1⟩
          go_wp2_with fail
          refine (HN.out _).mono ?_
          rintro e w2 ⟨rfl, hb2⟩
          go_wp2_with fail
          refine (HD.out _).mono ?_
          rintro e w3 ⟨rfl, hb3⟩
          go_wp2_with fail
          go_ret2
          exact ⟨by rw [HR.out]; rfl, bel_up (bel_up (hb1) hb2) hb3⟩
      | false =>
        have HR : Hid (R = (0, 13)) := Lib.hid (by
          rw [HE.out, if_neg]
          unfold readP
          rw [hg]; simp)
        clear HE hg hS hpd
        subst c1 c2
        go_enter Tryd.func52, Tryd.ntmps52
        go_wp2_with fail
        refine (HP.out _).mono ?_
        rintro e w1 ⟨rfl, rfl⟩
        go_wp2_with fail
        refine (HC.out _ HL.out).mono ?_
        rintro e w1 ⟨rfl, hb1⟩
        go_wp2_with fail
        refine (HN.out _).mono ?_
        rintro e w2 ⟨rfl, hb2⟩
        go_wp2_with fail
        go_ret2
        exact ⟨by rw [HR.out]; rfl, bel_up (hb1) hb2⟩
    · have hx : ¬ (H.length : Int) = (d : Int) := by omega
      have HR : Hid (R = (0, 13)) := Lib.hid (by
        rw [HE.out, if_neg]
        unfold readP
        rw [beq_eq_false_iff_ne.2 c2]; simp)
      clear HE hS hpd
      subst c1
      go_enter Tryd.func52, Tryd.ntmps52
      go_wp2_with fail
      refine (HP.out _).mono ?_
      rintro e w1 ⟨rfl, rfl⟩
      go_wp2_with fail
      refine (HC.out _ HL.out).mono ?_
      rintro e w1 ⟨rfl, hb1⟩
      go_wp2_with fail
      go_ret2
      exact ⟨by rw [HR.out]; rfl, hb1⟩
  · 
    have HR : Hid (R = (0, 13)) := Lib.hid (by
      rw [HE.out, if_neg]
      unfold readP
      rw [beq_eq_false_iff_ne.2 c1]; simp)
    clear HE
    by_cases hd0 : 0 < d
    · have i0 : (0 : Int) < (d : Int) := by omega
      have hp : p = false := by
        cases p with
        | false => rfl
        | true => exact absurd (by simp [hd0]) c1
      subst hp
      clear c1
      go_enter Tryd.func52, Tryd.ntmps52
      go_wp2_with fail
      refine (HP.out _).mono ?_
      rintro e w1 ⟨rfl, rfl⟩
      go_wp2_with fail
      refine (HC.out _ HL.out).mono ?_
      rintro e w1 ⟨rfl, hb1⟩
      go_wp2_with fail
      go_ret2
      exact ⟨by rw [HR.out]; rfl, hb1⟩
    · have i0 : ¬ (0 : Int) < (d : Int) := by omega
      have hp : p = true := by
        cases p with
        | true => rfl
        | false => exact absurd (by simp [hd0]) c1
      subst hp
      clear c1
      go_enter Tryd.func52, Tryd.ntmps52
      go_wp2_with fail
      refine (HP.out _).mono ?_
      rintro e w1 ⟨rfl, rfl⟩
      go_wp2_with fail
      refine (HC.out _ HL.out).mono ?_
      rintro e w1 ⟨rfl, hb1⟩
      go_wp2_with fail
      go_ret2
      exact ⟨by rw [HR.out]; rfl, hb1⟩

end Go.Proofs.YtadjhofomabbmaaDoor

namespace Go.Proofs.YtadjhofomabbmaaDoor
open Go.RowKit Go.Lib
set_option linter.unusedVariables false

theorem findK_lt {l : List UInt8} {k : Nat} : ∀ {m}, findK l m = some k → k < m
  | 0, h => by cases h
  | m + 1, h => by
    unfold findK at h
    split at h
    · rename_i j hj
      injection h with h
      subst h
      exact Nat.lt_succ_of_lt (findK_lt hj)
    · split at h
      · injection h with h; omega
      · cases h

/-- What Parse answers. -/
def parseK (l : List UInt8) : Int × Int × Int :=
  match findK (cut l [32]).1 8 with
  | none => (0, 0, 13)
  | some k => if (readK (cut l [32]).2.1 (curD k)).2 = 0 then ((k : Int), (readK (cut l [32]).2.1 (curD k)).1, 0) else (0, 0, (readK (cut l [32]).2.1 (curD k)).2)
def ParseKAns (r : Int × Int × Int) (w : World) (e : Ending) (w' : World) : Prop :=
  e = .returned (.tuple #[.int .i64 r.1, .int .i64 r.2.1, .int .i64 r.2.2]) ∧ Below w.heap.size w w'

set_option maxHeartbeats 1000000 in
set_option maxRecDepth 100000 in
theorem cparse_any (l : List UInt8) (hl : l.length ≤ 400) (w : World) (L : LibW w) (C : CurW w) :
    Calls Tryd.prog 37 #[.string ⟨l.toArray⟩] w (ParseKAns (parseK l) w) := by
  have HL := Lib.hid L
  have HCW := Lib.hid C
  have HC := Lib.hid (cut_any l 32 (by omega) w L)
  have hle := cut_le l [32]
  have HE : Hid (parseK l = match findK (cut l [32]).1 8 with
    | none => (0, 0, 13)
    | some k => if (readK (cut l [32]).2.1 (curD k)).2 = 0 then ((k : Int), (readK (cut l [32]).2.1 (curD k)).1, 0) else (0, 0, (readK (cut l [32]).2.1 (curD k)).2)) := Lib.hid rfl
  generalize parseK l = R at HE ⊢
  obtain ⟨A, hA⟩ : ∃ A, A = (cut l [32]).1 := ⟨_, rfl⟩
  obtain ⟨B, hB⟩ : ∃ B, B = (cut l [32]).2.1 := ⟨_, rfl⟩
  generalize (cut l [32]).2.2 = p at HC
  rw [← hA, ← hB] at HC HE hle
  clear hA hB L C
  have HO := Lib.hid (fun w C => cof_any A w C)
  cases hk : findK A 8 with
  | none =>
    have HR : Hid (R = (0, 0, 13)) := Lib.hid (by rw [HE.out, hk])
    rw [hk] at HO
    clear HE hk
    unfold FindAns at HO
    go_enter Tryd.func37, Tryd.ntmps37
    go_wp2_with fail
    refine HC.out.mono ?_
    rintro e w1 ⟨rfl, hb1⟩
    go_wp2_with fail
    refine (HO.out _ (HCW.out.keep hb1)).mono ?_
    rintro e w2 ⟨rfl, hb2⟩
    go_wp2_with fail
    go_ret3
    exact ⟨by rw [HR.out]; rfl, bel_up hb1 hb2⟩
  | some k =>
    have hk8 := findK_lt hk
    have HRd := Lib.hid (fun w L => readK_any B (by omega) (curD k) (curD_le k hk8) w L)
    have HE2 : Hid (R = if (readK B (curD k)).2 = 0 then ((k : Int), (readK B (curD k)).1, 0) else (0, 0, (readK B (curD k)).2)) := Lib.hid (by rw [HE.out, hk])
    have HDg := Lib.hid (fun w (C : CurW w) => C.dg k hk8)
    rw [hk] at HO
    unfold FindAns at HO
    generalize readK B (curD k) = r at HRd HE2
    generalize curD k = d at HRd HDg
    have i0 : (0 : Int) ≤ (k : Int) := by omega
    have i1 : (k : Int) < 8 := by omega
    clear HE hk hle
    obtain ⟨v, x⟩ := r
    unfold ReadKAns at HRd
    by_cases hx : x = 0
    · have HR : Hid (R = ((k : Int), v, 0)) := Lib.hid (by rw [HE2.out, if_pos hx])
      subst hx
      clear HE2
      go_enter Tryd.func37, Tryd.ntmps37
      go_wp2_with fail
      refine HC.out.mono ?_
      rintro e w1 ⟨rfl, hb1⟩
      go_wp2_with fail
      refine (HO.out _ (HCW.out.keep hb1)).mono ?_
      rintro e w2 ⟨rfl, hb2⟩
      have hc := HDg.out _ ((HCW.out.keep hb1).keep hb2)
      go_wp2_with fail
      refine (HRd.out _ ((HL.out.keep hb1).keep hb2)).mono ?_
      rintro e w3 ⟨rfl, hb3⟩
      go_wp2_with fail
      go_ret3
      exact ⟨by rw [HR.out]; rfl, bel_up (bel_up hb1 hb2) hb3⟩
    · have HR : Hid (R = (0, 0, x)) := Lib.hid (by rw [HE2.out, if_neg hx])
      clear HE2
      go_enter Tryd.func37, Tryd.ntmps37
      go_wp2_with fail
      refine HC.out.mono ?_
      rintro e w1 ⟨rfl, hb1⟩
      go_wp2_with fail
      refine (HO.out _ (HCW.out.keep hb1)).mono ?_
      rintro e w2 ⟨rfl, hb2⟩
      have hc := HDg.out _ ((HCW.out.keep hb1).keep hb2)
      go_wp2_with fail
      refine (HRd.out _ ((HL.out.keep hb1).keep hb2)).mono ?_
      rintro e w3 ⟨rfl, hb3⟩
      go_wp2_with fail
      go_ret3
      exact ⟨by rw [HR.out]; rfl, bel_up (bel_up hb1 hb2) hb3⟩

end Go.Proofs.YtadjhofomabbmaaDoor

namespace Go.Proofs.YtadjhofomabbmaaDoor
open Go.RowKit Go.Lib
set_option linter.unusedVariables false

theorem parse_val : ∀ (l : List UInt8) (a u : Nat), parseUint10 a l = .ok u → u = digV a l
  | [], a, u, h => by unfold parseUint10 at h; injection h with h; exact h.symm
  | c :: r, a, u, h => by
    unfold parseUint10 at h
    split at h
    · split at h
      · cases h
      · split at h
        · cases h
        · exact parse_val r _ u h
    · cases h
theorem dg_signs {c : UInt8} (h : isDg c = true) : c.toNat ≠ 43 ∧ c.toNat ≠ 45 := by
  have := isDg_iff.1 h; omega
theorem atoi_digs {F : List UInt8} (hne : F ≠ []) (hd : ∀ c ∈ F, isDg c = true) : atoiAll F = signless (parseMag F) := by
  cases F with
  | nil => exact absurd rfl hne
  | cons c r =>
    have := dg_signs (hd c (by simp))
    exact atoiAll_plain c r this.1 this.2
theorem mag_digs {F : List UInt8} (hne : F ≠ []) (hd : ∀ c ∈ F, isDg c = true) (h : digV 0 F < 18446744073709551616) : parseMag F = .ok (digV 0 F) := by
  unfold parseMag
  rw [if_neg hne]
  exact parse_dec F 0 hd h
theorem mag_val {F : List UInt8} {u : Nat} (h : parseMag F = .ok u) : u = digV 0 F := by
  unfold parseMag at h
  split at h
  · cases h
  · exact parse_val _ _ _ h
theorem atoi_pos {F : List UInt8} (hne : F ≠ []) (hd : ∀ c ∈ F, isDg c = true) (h : digV 0 F < 9223372036854775808) : atoiAll F = .ok (digV 0 F : Int) := by
  rw [atoi_digs hne hd, mag_digs hne hd (by omega)]
  exact if_neg (by omega)
theorem atoi_neg {F : List UInt8} (hne : F ≠ []) (hd : ∀ c ∈ F, isDg c = true) (h : digV 0 F ≤ 9223372036854775808) : atoiAll (45 :: F) = .ok (-(digV 0 F : Int)) := by
  rw [atoiAll_minus, mag_digs hne hd (by omega)]
  exact if_neg (by omega)
theorem atoi_pos_val {F : List UInt8} {v : Int} (hne : F ≠ []) (hd : ∀ c ∈ F, isDg c = true) (h : atoiAll F = .ok v) : v = (digV 0 F : Int) := by
  rw [atoi_digs hne hd] at h
  cases e : parseMag F
  · rename_i u
    rw [e] at h
    unfold signless at h
    simp only [] at h
    split at h
    · cases h
    · injection h with h; rw [← h, mag_val e]
  · rw [e] at h; cases h
  · rw [e] at h; cases h
theorem atoi_neg_val {F : List UInt8} {v : Int} (h : atoiAll (45 :: F) = .ok v) : v = -(digV 0 F : Int) := by
  rw [atoiAll_minus] at h
  cases e : parseMag F
  · rename_i u
    rw [e] at h
    unfold signed at h
    simp only [] at h
    split at h
    · cases h
    · injection h with h; rw [← h, mag_val e]
  · rw [e] at h; cases h
  · rw [e] at h; cases h

theorem dg_back {c : UInt8} (h : isDg c = true) : UInt8.ofNat (48 + (c.toNat - 48)) = c := by
  have := isDg_iff.1 h
  rw [show 48 + (c.toNat - 48) = c.toNat by omega]
  exact UInt8.ofNat_toNat
theorem digV_zero (l : List UInt8) : digV 0 (48 :: l) = digV 0 l := rfl
theorem digV_pos {c : UInt8} {r : List UInt8} (hd : isDg c = true) (h : c ≠ 48) : 0 < digV 0 (c :: r) := by
  have h1 := isDg_iff.1 hd
  have h2 : c.toNat ≠ 48 := fun e => h (UInt8.toNat_inj.1 e)
  have h3 := digV_ge r (0 * 10 + (c.toNat - 48))
  show 0 < digV (0 * 10 + (c.toNat - 48)) r
  omega
/-- Digits with no nought ahead are those of their number. -/
theorem dec_canon : ∀ (n : Nat) (l : List UInt8), l.length = n → (∀ c ∈ l, isDg c = true) → (∃ c r, l = c :: r ∧ (c ≠ 48 ∨ r = [])) → decDigits (digV 0 l) = l
  | 0, l, hn, hd, ⟨c, r, e, _⟩ => by rw [e] at hn; cases hn
  | n + 1, l, hn, hd, ⟨c, r, e, hc⟩ => by
    rcases List.eq_nil_or_concat l with h0 | ⟨m, x, h0⟩
    · rw [e] at h0; cases h0
    have h0 : l = m ++ [x] := by simpa using h0
    have hx := hd x (by rw [h0]; simp)
    have hx' := isDg_iff.1 hx
    have hv : digV 0 l = digV 0 m * 10 + (x.toNat - 48) := by rw [h0, digV_append]; rfl
    cases m with
    | nil =>
      rw [hv, h0]
      show decDigits (0 * 10 + (x.toNat - 48)) = [x]
      rw [Nat.zero_mul, Nat.zero_add, decDigits, dif_pos (by omega), dg_back hx]
    | cons y m =>
      have hy : y = c := by rw [e] at h0; injection h0 with h0 _; exact h0.symm
      have hr : r ≠ [] := by rw [e] at h0; injection h0 with _ h0; rw [h0]; simp
      have hc' : c ≠ 48 := hc.resolve_right hr
      have hmd : ∀ z ∈ y :: m, isDg z = true := fun z hz => hd z (by rw [h0]; exact List.mem_append_left _ hz)
      have hp := digV_pos (r := m) (hmd y (by simp)) (by rw [hy]; exact hc')
      have ih := dec_canon n (y :: m) (by rw [h0] at hn; simp at hn ⊢; omega) hmd ⟨y, m, rfl, .inl (by rw [hy]; exact hc')⟩
      rw [hv, decDigits, dif_neg (by omega), show (digV 0 (y :: m) * 10 + (x.toNat - 48)) / 10 = digV 0 (y :: m) by omega, show (digV 0 (y :: m) * 10 + (x.toNat - 48)) % 10 = x.toNat - 48 by omega, ih, dg_back hx, h0]
/-- With noughts ahead. -/
theorem dec_pad : ∀ (k : Nat) (l : List UInt8), l.length = k + 1 → (∀ c ∈ l, isDg c = true) → List.replicate (k + 1 - (decDigits (digV 0 l)).length) 48 ++ decDigits (digV 0 l) = l
  | 0, l, hl, hd => by
    match l, hl with
    | [c], _ =>
      rw [dec_canon 1 [c] rfl hd ⟨c, [], rfl, .inr rfl⟩]; rfl
  | k + 1, l, hl, hd => by
    match l, hl with
    | c :: r, hl =>
      by_cases hc : c = 48
      · subst hc
        have hr : r.length = k + 1 := by simpa using hl
        have ih := dec_pad k r hr (fun x hx => hd x (by simp [hx]))
        have hlen := congrArg List.length ih
        rw [List.length_append, List.length_replicate, hr] at hlen
        rw [digV_zero]
        have e : k + 1 + 1 - (decDigits (digV 0 r)).length = (k + 1 - (decDigits (digV 0 r)).length) + 1 := by omega
        rw [e, List.replicate_succ, List.cons_append, ih]
      · rw [dec_canon _ (c :: r) rfl hd ⟨c, r, rfl, .inl hc⟩, hl]
        simp
theorem dec_lead (u : Nat) : ∃ c r, decDigits u = c :: r ∧ (c ≠ 48 ∨ (r = [] ∧ u = 0)) := by
  induction u using Nat.strongRecOn with
  | _ u ih =>
    rw [decDigits]
    split
    · rename_i h
      refine ⟨_, _, rfl, ?_⟩
      by_cases h0 : u = 0
      · exact .inr ⟨rfl, h0⟩
      · refine .inl (fun e => ?_)
        have := congrArg UInt8.toNat e
        rw [dg_byte h] at this
        have h48 : (48 : UInt8).toNat = 48 := rfl
        omega
    · rename_i h
      obtain ⟨c, r, e, hc⟩ := ih (u / 10) (by omega)
      rw [e]
      refine ⟨c, r ++ _, rfl, .inl ?_⟩
      rcases hc with hc | ⟨_, hc⟩
      · exact hc
      · omega

end Go.Proofs.YtadjhofomabbmaaDoor

namespace Go.Proofs.YtadjhofomabbmaaDoor
open Go.RowKit Go.Lib
set_option linter.unusedVariables false

theorem digV_zeros (l : List UInt8) : ∀ k, digV 0 (List.replicate k 48 ++ l) = digV 0 l
  | 0 => rfl
  | k + 1 => digV_zeros l k
theorem padD_digs (n : Int) (k : Nat) : ∀ c ∈ padD n k, isDg c = true := by
  intro c hc
  unfold padD at hc
  rcases List.mem_append.1 hc with h | h
  · rw [List.eq_of_mem_replicate h]; decide
  · exact dec_digs _ c h
theorem padD_val (n : Int) (k : Nat) : digV 0 (padD n k) = n.natAbs := by
  unfold padD; rw [digV_zeros, digV_dec]
theorem padD_ne (n : Int) (k : Nat) : padD n k ≠ [] := by
  intro h
  have := padD_len n k
  rw [h] at this
  simp at this
/-- What stands ahead of the point. -/
def headW (n : Int) (k : Nat) : List UInt8 := (padD n k).take ((padD n k).length - k)
def tailH (n : Int) (k : Nat) : List UInt8 := (padD n k).drop ((padD n k).length - k)
theorem head_tail (n : Int) (k : Nat) : headW n k ++ tailH n k = padD n k := List.take_append_drop _ _
theorem tailH_len (n : Int) (k : Nat) : (tailH n k).length = k := by
  have := padD_len n k
  unfold tailH; rw [List.length_drop]; omega
theorem headW_cnt (n : Int) (k : Nat) : cntB (headW n k) = true := by
  have hd := padD_digs n k
  have hl := padD_len n k
  have hall : (headW n k).all isDg = true := List.all_eq_true.2 (fun x hx => hd x (List.mem_of_mem_take hx))
  obtain ⟨c, r, e, hc⟩ := dec_lead n.natAbs
  by_cases hs : k < (decDigits n.natAbs).length
  · have hP : padD n k = c :: r := by
      unfold padD
      rw [show k + 1 - (decDigits n.natAbs).length = 0 by omega, e]; rfl
    have hW : headW n k = c :: r.take ((c :: r).length - k - 1) := by
      unfold headW
      rw [hP]
      have : (c :: r).length - k = ((c :: r).length - k - 1) + 1 := by rw [← e]; omega
      rw [this]; rfl
    rw [hW] at hall ⊢
    rcases hc with hc | ⟨hr, h0⟩
    · show ((c == 48 && _) || (c != 48 && _)) = true
      rw [show (c != 48) = true from bne_iff_ne.2 hc, hall]; simp
    · subst hr
      rw [h0] at e
      have e0 : decDigits 0 = [48] := by rw [decDigits, dif_pos (by decide)]; rfl
      rw [e0] at e
      injection e with e _
      subst e
      simp [cntB]
  · have hW : headW n k = [48] := by
      unfold headW
      have hj : ∃ j, k + 1 - (decDigits n.natAbs).length = j + 1 := ⟨k - (decDigits n.natAbs).length, by omega⟩
      obtain ⟨j, hj⟩ := hj
      have hlen : (padD n k).length - k = 1 := by unfold padD; rw [List.length_append, List.length_replicate]; omega
      rw [hlen]
      unfold padD
      rw [hj, List.replicate_succ]
      rfl
    rw [hW]; decide
theorem monL_eq (n : Int) (k : Nat) : monL n k = (if n < 0 then [45] else []) ++ (headW n k ++ (if k = 0 then [] else 46 :: tailH n k)) := rfl
theorem dg_not {l : List UInt8} {c : UInt8} (hd : ∀ x ∈ l, isDg x = true) (hc : isDg c = false) : c ∉ l := fun h => by
  rw [hd c h] at hc; cases hc
theorem head_ne (n : Int) (k : Nat) : ∃ c r, headW n k = c :: r ∧ isDg c = true := by
  have h := headW_cnt n k
  cases e : headW n k with
  | nil => rw [e] at h; cases h
  | cons c r => exact ⟨c, r, rfl, padD_digs n k c (List.mem_of_mem_take (by unfold headW at e; rw [e]; simp))⟩
theorem sign_cut (n : Int) (k : Nat) : trimPrefix (monL n k) [45] = headW n k ++ (if k = 0 then [] else 46 :: tailH n k) ∧ hasPrefix (monL n k) [45] = decide (n < 0) := by
  rw [monL_eq]
  unfold trimPrefix hasPrefix
  by_cases h : n < 0
  · rw [if_pos h]
    simp [h, List.isPrefixOf]
  · rw [if_neg h]
    obtain ⟨c, r, e, hc⟩ := head_ne n k
    have hne : (45 : UInt8) ≠ c := by intro e2; subst e2; exact absurd hc (by decide)
    have hp : [45].isPrefixOf ([] ++ (headW n k ++ (if k = 0 then [] else 46 :: tailH n k))) = false := by rw [e]; show ((45 == c) && _) = false; rw [beq_false_of_ne hne]; rfl
    rw [hp]
    simp [h]
theorem point_cut (n : Int) (k : Nat) : cut (headW n k ++ (if k = 0 then [] else 46 :: tailH n k)) [46] = (headW n k, tailH n k, decide (0 < k)) := by
  have hd : (46 : UInt8) ∉ headW n k := dg_not (fun x hx => padD_digs n k x (List.mem_of_mem_take hx)) (by decide)
  by_cases h : k = 0
  · subst h
    have h0 : tailH n 0 = [] := List.eq_nil_of_length_eq_zero (tailH_len n 0)
    rw [if_pos rfl, List.append_nil, cut_none hd, h0]; rfl
  · rw [if_neg h, cut_at hd]
    simp; omega
theorem trim_zero {F : List UInt8} (h : Lib.trimS F [48] = []) : digV 0 F = 0 := by
  have h' := trimS_nil.1 h
  have : F = List.replicate F.length 48 ++ [] := by
    rw [List.append_nil]
    refine List.eq_replicate_iff.2 ⟨rfl, fun x hx => ?_⟩
    have := h' x hx
    rw [one_iff] at this
    exact beq_iff_eq.1 this
  rw [this, digV_zeros]; rfl
theorem read_print {n : Int} (hn : I64 n) (k : Nat) : readK (monL n k) k = (n, 0) := by
  obtain ⟨h0, h1⟩ := hn
  unfold readK
  rw [(sign_cut n k).1, (sign_cut n k).2, point_cut n k]
  have hr : readP k (headW n k) (tailH n k) (decide (0 < k)) = true := by
    unfold readP
    rw [tailH_len, headW_cnt]
    have : (tailH n k).all isDg = true := List.all_eq_true.2 (fun x hx => padD_digs n k x (List.mem_of_mem_drop hx))
    rw [this]; simp
  show (if readP k (headW n k) (tailH n k) (decide (0 < k)) = true then readF (decide (n < 0)) (headW n k ++ tailH n k) else (0, 13)) = (n, 0)
  rw [if_pos hr, head_tail]
  have hv := padD_val n k
  unfold readF
  by_cases h : n < 0
  · rw [if_pos (by simpa using h), if_neg (fun ht => by have := trim_zero ht; omega), atoi_neg (padD_ne n k) (padD_digs n k) (by omega)]
    show (-((digV 0 (padD n k) : Nat) : Int), (0 : Int)) = (n, 0)
    rw [hv, show -((n.natAbs : Nat) : Int) = n by omega]
  · rw [if_neg (by simpa using h), atoi_pos (padD_ne n k) (padD_digs n k) (by omega)]
    show (((digV 0 (padD n k) : Nat) : Int), (0 : Int)) = (n, 0)
    rw [hv, show ((n.natAbs : Nat) : Int) = n by omega]

end Go.Proofs.YtadjhofomabbmaaDoor

namespace Go.Proofs.YtadjhofomabbmaaDoor
open Go.RowKit Go.Lib
set_option linter.unusedVariables false

theorem cut_back (s : List UInt8) (c : UInt8) : (c ∉ s ∧ cut s [c] = (s, [], false)) ∨ (∃ a b, c ∉ a ∧ s = a ++ c :: b ∧ cut s [c] = (a, b, true)) := by
  by_cases h : c ∈ s
  · obtain ⟨a, b, e, hn⟩ := List.eq_append_cons_of_mem h
    exact .inr ⟨a, b, hn, e, by rw [e]; exact cut_at hn⟩
  · exact .inl ⟨h, cut_none h⟩
theorem all_zero : ∀ {l : List UInt8}, (∀ c ∈ l, isDg c = true) → digV 0 l = 0 → ∀ x ∈ l, x = 48
  | [], _, _, x, hx => by cases hx
  | c :: r, hd, h, x, hx => by
    have hc : c = 48 := by
      by_cases h48 : c = 48
      · exact h48
      · have := digV_pos (r := r) (hd c (by simp)) h48
        omega
    rcases List.mem_cons.1 hx with e | hx
    · rw [e, hc]
    · rw [hc, digV_zero] at h
      exact all_zero (fun y hy => hd y (by simp [hy])) h x hx
theorem trim_pos {F : List UInt8} (hd : ∀ c ∈ F, isDg c = true) (h : Lib.trimS F [48] ≠ []) : digV 0 F ≠ 0 := fun h0 =>
  h (trimS_nil.2 (fun x hx => by rw [one_iff, all_zero hd h0 x hx]; rfl))
theorem cnt_cases {W : List UInt8} (h : cntB W = true) : W = [48] ∨ ∃ c r, W = c :: r ∧ c ≠ 48 ∧ ∀ x ∈ W, isDg x = true := by
  cases W with
  | nil => cases h
  | cons c r =>
    have h' : ((c == 48 && r.isEmpty) || (c != 48 && (c :: r).all isDg)) = true := h
    rcases Bool.or_eq_true _ _ ▸ h' with h1 | h1
    · rw [Bool.and_eq_true] at h1
      exact .inl (by rw [beq_iff_eq.1 h1.1, List.isEmpty_iff.1 h1.2])
    · rw [Bool.and_eq_true] at h1
      exact .inr ⟨c, r, rfl, bne_iff_ne.1 h1.1, List.all_eq_true.1 h1.2⟩
theorem cnt_digs {W : List UInt8} (h : cntB W = true) : W ≠ [] ∧ ∀ x ∈ W, isDg x = true := by
  rcases cnt_cases h with e | ⟨c, r, e, _, hd⟩
  · subst e
    exact ⟨by simp, fun x hx => by rw [List.mem_singleton.1 hx]; decide⟩
  · exact ⟨by rw [e]; simp, hd⟩
theorem padD_back {W H : List UInt8} {k : Nat} {v : Int} (hW : cntB W = true) (hH : ∀ x ∈ H, isDg x = true) (hk : H.length = k) (hv : v.natAbs = digV 0 (W ++ H)) : padD v k = W ++ H := by
  have hd : ∀ x ∈ W ++ H, isDg x = true := fun x hx => (List.mem_append.1 hx).elim ((cnt_digs hW).2 x) (hH x)
  unfold padD
  rw [hv]
  rcases cnt_cases hW with e | ⟨c, r, e, hc, _⟩
  · exact dec_pad k (W ++ H) (by rw [e]; simp; omega) hd
  · rw [dec_canon _ (W ++ H) rfl hd ⟨c, r ++ H, by rw [e]; rfl, .inl hc⟩]
    have : k + 1 - (W ++ H).length = 0 := by rw [e]; simp; omega
    rw [this]; rfl
theorem mon_back {W H : List UInt8} {k : Nat} {v : Int} (hW : cntB W = true) (hH : ∀ x ∈ H, isDg x = true) (hk : H.length = k) (hv : v.natAbs = digV 0 (W ++ H)) :
    monL v k = (if v < 0 then [45] else []) ++ (W ++ (if k = 0 then [] else 46 :: H)) := by
  have hp := padD_back hW hH hk hv
  have hl : (padD v k).length - k = W.length := by rw [hp, List.length_append]; omega
  rw [monL_eq]
  unfold headW tailH
  rw [hl, hp, List.take_left, List.drop_left]
theorem minus_back {B : List UInt8} : (hasPrefix B [45] = true → B = 45 :: trimPrefix B [45]) ∧ (hasPrefix B [45] = false → B = trimPrefix B [45]) := by
  refine ⟨fun h => ?_, fun h => ?_⟩
  · have h' := h
    unfold hasPrefix at h
    cases B with
    | nil => cases h
    | cons c r =>
      have hc : ((45 : UInt8) == c && _) = true := h
      rw [Bool.and_eq_true] at hc
      have := beq_iff_eq.1 hc.1
      subst this
      unfold trimPrefix
      rw [if_pos h']; rfl
  · unfold trimPrefix
    rw [if_neg (by rw [h]; decide)]
theorem read_back {B : List UInt8} {k : Nat} {v : Int} (h : readK B k = (v, 0)) : B = monL v k ∧ I64 v := by
  unfold readK at h
  obtain ⟨T, hT⟩ : ∃ T, T = trimPrefix B [45] := ⟨_, rfl⟩
  have hB := @minus_back B
  rw [← hT] at h hB
  split at h
  case isFalse => injection h with _ h; exact absurd h (by decide)
  case isTrue hp =>
    obtain ⟨W, H, hc, hTw⟩ : ∃ W H, cut T [46] = (W, H, decide (0 < k)) ∧ T = W ++ (if k = 0 then [] else 46 :: H) ∧ (k = 0 → H = []) := by
      have hp1 : ((cut T [46]).2.2 == decide (0 < k)) = true := by
        unfold readP at hp; rw [Bool.and_eq_true] at hp; exact hp.1
      rcases cut_back T 46 with ⟨_, e⟩ | ⟨a, b, _, e1, e⟩
      · rw [e] at hp1
        have hk : k = 0 := by
          have := (beq_iff_eq.1 hp1).symm
          simpa using this
        exact ⟨T, [], by rw [e, hk]; rfl, by rw [if_pos hk, List.append_nil], fun _ => rfl⟩
      · rw [e] at hp1
        have hk : 0 < k := by
          have := (beq_iff_eq.1 hp1).symm
          simpa using this
        exact ⟨a, b, by rw [e]; simp [hk], by rw [if_neg (by omega)]; exact e1, fun h0 => by omega⟩
    rw [hc] at hp h
    have hp' : (decide (0 < k) == decide (0 < k) && (H.length == k && (cntB W && H.all isDg))) = true := hp
    simp only [Bool.and_eq_true] at hp'
    obtain ⟨_, hk, hW, hH⟩ := hp'
    have hk := beq_iff_eq.1 hk
    have hH := List.all_eq_true.1 hH
    have hd : ∀ x ∈ W ++ H, isDg x = true := fun x hx => (List.mem_append.1 hx).elim ((cnt_digs hW).2 x) (hH x)
    have hne : W ++ H ≠ [] := fun e => (cnt_digs hW).1 (List.append_eq_nil_iff.1 e).1
    have h' : readF (hasPrefix B [45]) (W ++ H) = (v, 0) := h
    unfold readF at h'
    split at h'
    · rename_i hb
      split at h'
      · injection h' with _ h'; exact absurd h' (by decide)
      · rename_i ht
        cases e : atoiAll (45 :: (W ++ H))
        · rename_i u
          rw [e] at h'
          injection h' with h' _
          subst h'
          have hv := atoi_neg_val e
          have hpos := trim_pos hd ht
          refine ⟨?_, atoiAll_bounds e⟩
          rw [mon_back hW hH hk (by omega), if_pos (by omega), ← hTw.1]
          exact hB.1 hb
        · rw [e] at h'; injection h' with _ h'; exact absurd h' (by decide)
        · rw [e] at h'; injection h' with _ h'; exact absurd h' (by decide)
    · rename_i hb
      cases e : atoiAll (W ++ H)
      · rename_i u
        rw [e] at h'
        injection h' with h' _
        subst h'
        have hv := atoi_pos_val hne hd e
        refine ⟨?_, atoiAll_bounds e⟩
        rw [mon_back hW hH hk (by omega), if_neg (by omega), ← hTw.1]
        exact hB.2 (by simpa using hb)
      · rw [e] at h'; injection h' with _ h'; exact absurd h' (by decide)
      · rw [e] at h'; injection h' with _ h'; exact absurd h' (by decide)

theorem findK_name (k : Nat) (hk : k < 8) : findK (curN k) 8 = some k ∧ (32 : UInt8) ∉ curN k := by
  match k, hk with
  | 0, _ => decide
  | 1, _ => decide
  | 2, _ => decide
  | 3, _ => decide
  | 4, _ => decide
  | 5, _ => decide
  | 6, _ => decide
  | 7, _ => decide
theorem findK_sound {l : List UInt8} {k : Nat} : ∀ {m}, findK l m = some k → curN k = l
  | 0, h => by cases h
  | m + 1, h => by
    unfold findK at h
    split at h
    · rename_i j hj
      injection h with h
      subst h
      exact findK_sound hj
    · split at h
      · rename_i he
        injection h with h
        subst h
        exact beq_iff_eq.1 he
      · cases h
theorem parse_print {k : Nat} (hk : k < 8) {n : Int} (hn : I64 n) : parseK (cashL k n) = ((k : Int), n, 0) := by
  obtain ⟨h1, h2⟩ := findK_name k hk
  unfold parseK cashL
  rw [cut_at h2]
  simp only [h1, read_print hn]
  rfl
theorem print_parse {s : List UInt8} {a m : Int} (h : parseK s = (a, m, 0)) : ∃ k : Nat, k < 8 ∧ a = k ∧ I64 m ∧ cashL k m = s := by
  unfold parseK at h
  split at h
  · injection h with _ h; injection h with _ h; exact absurd h (by decide)
  · rename_i k hk
    split at h
    · rename_i h0
      injection h with h1 h2
      injection h2 with h2 _
      have hr := read_back (B := (cut s [32]).2.1) (k := curD k) (v := m) (Prod.ext h2 h0)
      refine ⟨k, findK_lt hk, h1.symm, hr.2, ?_⟩
      unfold cashL
      rw [findK_sound hk, ← hr.1]
      rcases cut_back s 32 with ⟨_, e⟩ | ⟨x, y, _, e1, e⟩
      · exfalso
        have h3 := hr.1
        rw [e] at h3
        obtain ⟨c, r, e3, _⟩ := head_ne m (curD k)
        rw [monL_eq, e3] at h3
        have := congrArg List.length h3
        simp at this
      · rw [e]; exact e1.symm
    · rename_i h0
      injection h with _ h; injection h with _ h
      exact absurd h h0
theorem parse_fails {s : List UInt8} (h : (parseK s).2.2 ≠ 0) : (parseK s).1 = 0 ∧ (parseK s).2.1 = 0 := by
  unfold parseK at h ⊢
  split
  · exact ⟨rfl, rfl⟩
  · rename_i k hk
    rw [hk] at h
    simp only [] at h
    split
    · rename_i h0
      rw [if_pos h0] at h
      exact absurd rfl h
    · exact ⟨rfl, rfl⟩

end Go.Proofs.YtadjhofomabbmaaDoor

namespace Go.Proofs.YtadjhofomabbmaaDoor
open Go.RowKit Go.Lib
set_option linter.unusedVariables false

theorem dec_of (l : List UInt8) (hd : ∀ c ∈ l, isDg c = true) (hc : ∃ c r, l = c :: r ∧ (c ≠ 48 ∨ r = [])) {u : Nat} (hu : digV 0 l = u) : decDigits u = l := by
  rw [← hu]; exact dec_canon _ l rfl hd hc
theorem cash_a : cashL 0 (-1205) = [69, 85, 82, 32, 45, 49, 50, 46, 48, 53] := by
  have h := dec_of [49, 50, 48, 53] (by decide) ⟨_, _, rfl, .inl (by decide)⟩ (u := 1205) rfl
  unfold cashL monL padD
  rw [show (-1205 : Int).natAbs = 1205 from rfl, h]; rfl
theorem cash_b : cashL 3 7 = [74, 80, 89, 32, 55] := by
  have h := dec_of [55] (by decide) ⟨_, _, rfl, .inl (by decide)⟩ (u := 7) rfl
  unfold cashL monL padD
  rw [show (7 : Int).natAbs = 7 from rfl, h]; rfl
theorem cash_c : cashL 6 1 = [75, 87, 68, 32, 48, 46, 48, 48, 49] := by
  have h := dec_of [49] (by decide) ⟨_, _, rfl, .inl (by decide)⟩ (u := 1) rfl
  unfold cashL monL padD
  rw [show (1 : Int).natAbs = 1 from rfl, h]; rfl

set_option maxHeartbeats 1000000 in
set_option maxRecDepth 100000 in
theorem awakeC_any (w : World) (L : LibW w) (C : CurW w) :
    Calls Tryd.prog 11 #[] w fun e w' => e = .returned (.bool true) ∧ Below w.heap.size w w' := by
  have HL := Lib.hid L
  have HC := Lib.hid C
  have HA : Hid (Calls Tryd.prog 36 #[.int .i64 0, .int .i64 (-1205)] w fun e w' => e = .returned (.tuple #[.string ⟨#[69, 85, 82, 32, 45, 49, 50, 46, 48, 53]⟩, .int .i64 0]) ∧ Below w.heap.size w w') := Lib.hid (by
    have h := cprint_ok 0 (by omega) (-1205) ⟨by decide, by decide⟩ w L C
    rw [cash_a] at h; exact h)
  have HB : Hid (∀ w, LibW w → CurW w → Calls Tryd.prog 36 #[.int .i64 3, .int .i64 7] w fun e w' => e = .returned (.tuple #[.string ⟨#[74, 80, 89, 32, 55]⟩, .int .i64 0]) ∧ Below w.heap.size w w') := Lib.hid (fun w L C => by
    have h := cprint_ok 3 (by omega) 7 ⟨by decide, by decide⟩ w L C
    rw [cash_b] at h; exact h)
  have HP : Hid (∀ w, LibW w → CurW w → Calls Tryd.prog 37 #[.string ⟨#[75, 87, 68, 32, 48, 46, 48, 48, 49]⟩] w fun e w' => e = .returned (.tuple #[.int .i64 6, .int .i64 1, .int .i64 0]) ∧ Below w.heap.size w w') := Lib.hid (fun w L C => by
    have h := cparse_any [75, 87, 68, 32, 48, 46, 48, 48, 49] (by decide) w L C
    rw [← cash_c, parse_print (k := 6) (by omega) ⟨by decide, by decide⟩, cash_c] at h
    exact h)
  clear L C
  go_enter Tryd.func11, Tryd.ntmps11
  go_wp2_with fail
  refine HA.out.mono ?_
  rintro e w1 ⟨rfl, hb1⟩
  go_wp2_with fail
  refine (HB.out _ (HL.out.keep hb1) (HC.out.keep hb1)).mono ?_
  rintro e w2 ⟨rfl, hb2⟩
  go_wp2_with fail
  refine (HP.out _ ((HL.out.keep hb1).keep hb2) ((HC.out.keep hb1).keep hb2)).mono ?_
  rintro e w3 ⟨rfl, hb3⟩
  go_wp2_with fail
  go_ret
  exact ⟨rfl, bel_up (bel_up hb1 hb2) hb3⟩

end Go.Proofs.YtadjhofomabbmaaDoor
