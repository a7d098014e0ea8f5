/-
  Package text: Print; chattellaw06: awake: what they answer.
-/
import Derived.Test.YtdmdgoeacafpiaaGreatDoorPsQ
import Derived.Test.YtdmdgoeacafpiaaGreatDoorTrm
namespace Go.Proofs.YtdmdgoeacafpiaaGreatDoor
open Go.RowKit Go.Lib
set_option linter.unusedVariables false
set_option linter.unusedSimpArgs false

theorem fd_all : ∀ k : Fin 18, ∀ f ∈ fdN k.val, (f = 6 ∧ maN k.val = 7) ∨ (f = 7 ∧ maN k.val = 63) ∨ (f = 8 ∧ maN k.val = 73048) ∨ (f = 9 ∧ mbN k.val = 73048) := by decide
theorem okN_of {n : Nd} (h : fldO n = true) (hm : mkO n.op ≠ 0) (hI : I64T n.num ∧ I64T n.den) : okN n := by
  have hk := ixO_lt n.op
  unfold fldO at h
  rw [Bool.and_eq_true, Bool.and_eq_true] at h
  obtain ⟨⟨h1, h2⟩, h3⟩ := h
  have ho : 1 ≤ n.op ∧ n.op < 18 := by
    by_cases c : 0 ≤ n.op ∧ n.op < 18
    · refine ⟨?_, c.2⟩
      by_cases g : n.op < 1
      · have : n.op = 0 := by omega
        rw [this] at hm; exact absurd rfl hm
      · omega
    · have : ixO n.op = 0 := by unfold ixO; rw [if_neg c]
      unfold mkO at hm
      rw [this] at hm; exact absurd rfl hm
  refine ⟨ho.1, ho.2, fun e => ?_, fun f hf => ?_⟩
  · unfold fldV at h3
    rw [e] at h3
    have h4 : decide (chkE n.num n.den = 0) = true := h3
    exact ⟨of_decide_eq_true h4, hI.1, hI.2⟩
  · have ha := of_decide_eq_true (show decide (0 ≤ n.a ∧ n.a ≤ (maN (ixO n.op) : Int)) = true from h1)
    have hb := of_decide_eq_true (show decide (0 ≤ n.b ∧ n.b ≤ (mbN (ixO n.op) : Int)) = true from h2)
    have := fd_all ⟨ixO n.op, hk⟩ f hf
    dsimp only at this
    rcases this with ⟨rfl, e⟩ | ⟨rfl, e⟩ | ⟨rfl, e⟩ | ⟨rfl, e⟩
    · rw [e] at ha; show 0 ≤ n.a ∧ n.a < 8; omega
    · rw [e] at ha; show 0 ≤ n.a ∧ n.a ≤ 63; omega
    · rw [e] at ha; show 0 ≤ n.a ∧ n.a ≤ 73048; omega
    · rw [e] at hb; show 0 ≤ n.b ∧ n.b ≤ 73048; omega
/-- A contract's text; nothing where it is none. -/
noncomputable def prX (t : List Nd) : List UInt8 := if chkK t = 0 then prT t 0 else []
theorem chkX_of {t : List Nd} (h : chkK t = 0) : ofK t = (2, 0) := by
  unfold chkK at h
  by_cases c : (ofK t).2 ≠ 0
  · rw [if_pos c] at h; exact absurd h c
  · rw [if_neg c] at h
    by_cases d : (ofK t).1 = 2
    · exact Prod.ext d (by simpa using c)
    · rw [if_neg d] at h; cases h
theorem chk_ok {t : List Nd} (h : chkK t = 0) (hbd : BdT t) : t.length ≤ 64 ∧ WholeT t ∧ ∀ p, p < t.length → okN (t.getD p default) := by
  obtain ⟨h1, h2, h3, h4, h5⟩ := ofK_zero (by rw [chkX_of h])
  exact ⟨h1, h2, fun p hp => okN_of (h3 p hp) (h2.all p hp).parts.1 (hbd p hp)⟩
theorem TabW.p {w : World} (h : TabW w) : TbP w := ⟨h.lib, h.cur, h.len, h.hd⟩

set_option maxRecDepth 100000 in
set_option maxHeartbeats 1000000 in
theorem tprint_any (t : List Nd) (hl : t.length ≤ 100000) (hbd : BdT t) (v : Value) (w : World) (hv : SlT w v t) (T : TabW w) :
    Calls Tryz.prog 11 #[v] w fun e w' => e = .returned (.tuple #[.string ⟨(prX t).toArray⟩, .int .i64 (chkK t)]) ∧ Below w.heap.size w w' := by
  have HC := Lib.hid (tcheck_any t (by omega) hbd v w hv T.knd)
  by_cases h : chkK t = 0
  · obtain ⟨h64, hW, hok⟩ := chk_ok h hbd
    have e : prX t = prT t 0 := by unfold prX; rw [if_pos h]
    rw [e, h]
    rw [h] at HC
    have hpos : 0 < t.length := hW.tm.1.lt
    rcases hv with ⟨rfl, _⟩ | ⟨_, b, o, cap, rfl, hcap, hcm, hN⟩
    · exact absurd hpos (by simp)
    have HWr := Lib.hid (fun (w' : World) (hb : Below w.heap.size w w') => written_any t h64 hok b o cap hcap hcm (szA t 0) 0 hW.tm.1 (Nat.le_refl _) w' (hN.keep hb) (T.knd.keep hb) (T.p.keep hb))
    rw [show prF t (szA t 0) 0 = prT t 0 from rfl] at HWr
    generalize prT t 0 = X at *
    clear h hok hW hN T e hbd hpos
    go_enter Tryz.func11, Tryz.ntmps11
    go_wp2_with fail
    refine HC.out.mono ?_
    rintro e w1 ⟨rfl, hb1⟩
    have HB1 := Lib.hid hb1
    clear hb1
    go_wp2_with fail
    refine (HWr.out _ HB1.out).mono ?_
    rintro e w2 ⟨rfl, hb2⟩
    have HB2 := Lib.hid (onB HB1.out hb2)
    clear hb2
    go_wp2_with fail
    go_ret2
    exact ⟨rfl, HB2.out⟩
  · have e : prX t = [] := by unfold prX; rw [if_neg h]
    rw [e]
    obtain ⟨a, c, rfl⟩ := hv.slice
    have h1 : ((chkK t : Int) == 0) = false := by simp; omega
    generalize chkK t = r at *
    clear hv T hbd h e
    go_enter Tryz.func11, Tryz.ntmps11
    go_wp2_with fail
    refine HC.out.mono ?_
    rintro e w1 ⟨rfl, hb1⟩
    have HB1 := Lib.hid hb1
    clear hb1
    go_wp2_with fail
    go_ret2
    exact ⟨rfl, HB1.out⟩

/-! The chapter's examples. -/
def ex1 : List UInt8 := [115, 99, 97, 108, 101, 40, 51, 47, 50, 44, 32, 119, 104, 101, 110, 32, 50, 48, 48, 48, 45, 48, 49, 45, 51, 49, 40, 111, 110, 101, 32, 69, 85, 82, 41, 41]
def ex2 : List UInt8 := [97, 110, 100, 40, 122, 101, 114, 111, 44]
def ex3 : List UInt8 := [111, 114, 32, 54, 52, 40, 122, 101, 114, 111, 44, 32, 122, 101, 114, 111, 41]
def exN : List Nd := [⟨13, 0, 0, 0, 0⟩, ⟨1, 0, 0, 3, 2⟩, ⟨14, 30, 0, 0, 0⟩, ⟨10, 0, 0, 0, 0⟩]
theorem txt32 : txt 3 2 = [51, 47, 50] := by
  unfold txt
  rw [if_neg (by decide), itoa_small (by decide) (by decide), itoa_small (by decide) (by decide)]
  rfl
theorem rat32 : ratW [51, 47, 50] = some (3, 2) := by
  rw [← txt32]
  exact ratW_txt (by unfold I64; omega) (by unfold I64; omega) (by decide)
theorem ex1_toks : (toks 0 ex1).map Prod.snd = [[115, 99, 97, 108, 101], [40], [51, 47, 50], [44], [119, 104, 101, 110], [50, 48, 48, 48, 45, 48, 49, 45, 51, 49], [40], [111, 110, 101], [69, 85, 82], [41], [41]] := by decide
theorem ex1_par : parT ex1 = (exN, 0, 0) := by
  have e : runM m0 ((toks 0 ex1).map Prod.snd) = (11, 0, ⟨exN, 0, []⟩) := by
    rw [ex1_toks]
    have s1 : takeM m0 [115, 99, 97, 108, 101] = (0, ⟨[⟨13, 0, 0, 0, 0⟩], 0, [3, 1, 4, 2, 5]⟩) := by rfl
    have s2 : takeM ⟨[⟨13, 0, 0, 0, 0⟩], 0, [3, 1, 4, 2, 5]⟩ [40] = (0, ⟨[⟨13, 0, 0, 0, 0⟩], 1, [1, 4, 2, 5]⟩) := by rfl
    have s3 : takeM ⟨[⟨13, 0, 0, 0, 0⟩], 1, [1, 4, 2, 5]⟩ [51, 47, 50] = (0, ⟨[⟨13, 0, 0, 0, 0⟩, ⟨1, 0, 0, 3, 2⟩], 1, [4, 2, 5]⟩) := by
      show obsM [51, 47, 50] ⟨[⟨13, 0, 0, 0, 0⟩], 1, [4, 2, 5]⟩ = _
      unfold obsM
      rw [rat32]; rfl
    have s4 : takeM ⟨[⟨13, 0, 0, 0, 0⟩, ⟨1, 0, 0, 3, 2⟩], 1, [4, 2, 5]⟩ [44] = (0, ⟨[⟨13, 0, 0, 0, 0⟩, ⟨1, 0, 0, 3, 2⟩], 1, [2, 5]⟩) := by rfl
    have s5 : takeM ⟨[⟨13, 0, 0, 0, 0⟩, ⟨1, 0, 0, 3, 2⟩], 1, [2, 5]⟩ [119, 104, 101, 110] = (0, ⟨[⟨13, 0, 0, 0, 0⟩, ⟨1, 0, 0, 3, 2⟩, ⟨14, 0, 0, 0, 0⟩], 1, [8, 3, 2, 5, 5]⟩) := by rfl
    have d1 : dayW [50, 48, 48, 48, 45, 48, 49, 45, 51, 49] = (30, 0) := by decide +kernel
    have s6 : takeM ⟨[⟨13, 0, 0, 0, 0⟩, ⟨1, 0, 0, 3, 2⟩, ⟨14, 0, 0, 0, 0⟩], 1, [8, 3, 2, 5, 5]⟩ [50, 48, 48, 48, 45, 48, 49, 45, 51, 49] = (0, ⟨[⟨13, 0, 0, 0, 0⟩, ⟨1, 0, 0, 3, 2⟩, ⟨14, 30, 0, 0, 0⟩], 1, [3, 2, 5, 5]⟩) := by
      show dayM [50, 48, 48, 48, 45, 48, 49, 45, 51, 49] ⟨[⟨13, 0, 0, 0, 0⟩, ⟨1, 0, 0, 3, 2⟩, ⟨14, 0, 0, 0, 0⟩], 1, [3, 2, 5, 5]⟩ = _
      unfold dayM
      rw [d1]; rfl
    have s7 : takeM ⟨[⟨13, 0, 0, 0, 0⟩, ⟨1, 0, 0, 3, 2⟩, ⟨14, 30, 0, 0, 0⟩], 1, [3, 2, 5, 5]⟩ [40] = (0, ⟨[⟨13, 0, 0, 0, 0⟩, ⟨1, 0, 0, 3, 2⟩, ⟨14, 30, 0, 0, 0⟩], 2, [2, 5, 5]⟩) := by rfl
    have s8 : takeM ⟨[⟨13, 0, 0, 0, 0⟩, ⟨1, 0, 0, 3, 2⟩, ⟨14, 30, 0, 0, 0⟩], 2, [2, 5, 5]⟩ [111, 110, 101] = (0, ⟨[⟨13, 0, 0, 0, 0⟩, ⟨1, 0, 0, 3, 2⟩, ⟨14, 30, 0, 0, 0⟩, ⟨10, 0, 0, 0, 0⟩], 2, [6, 5, 5]⟩) := by rfl
    have s9 : takeM ⟨[⟨13, 0, 0, 0, 0⟩, ⟨1, 0, 0, 3, 2⟩, ⟨14, 30, 0, 0, 0⟩, ⟨10, 0, 0, 0, 0⟩], 2, [6, 5, 5]⟩ [69, 85, 82] = (0, ⟨exN, 2, [5, 5]⟩) := by rfl
    have s10 : takeM ⟨exN, 2, [5, 5]⟩ [41] = (0, ⟨exN, 1, [5]⟩) := by rfl
    have s11 : takeM ⟨exN, 1, [5]⟩ [41] = (0, ⟨exN, 0, []⟩) := by rfl
    rw [runM_ok (by rw [s1]), s1, runM_ok (by rw [s2]), s2, runM_ok (by rw [s3]), s3, runM_ok (by rw [s4]), s4, runM_ok (by rw [s5]), s5, runM_ok (by rw [s6]), s6, runM_ok (by rw [s7]), s7, runM_ok (by rw [s8]), s8, runM_ok (by rw [s9]), s9, runM_ok (by rw [s10]), s10, runM_ok (by rw [s11]), s11]
    rfl
  unfold parT
  dsimp only
  rw [e]
  rfl
theorem ex2_par : parT ex2 = ([], 9, 13) := by rfl
theorem ex3_par : parT ex3 = ([], 3, 10) := by rfl
theorem exN_bd : BdT exN := by
  intro p hp
  have hj' : p < 4 := hp
  match p, hj' with
  | 0, _ => exact ⟨⟨by decide, by decide⟩, ⟨by decide, by decide⟩⟩
  | 1, _ => exact ⟨⟨by decide, by decide⟩, ⟨by decide, by decide⟩⟩
  | 2, _ => exact ⟨⟨by decide, by decide⟩, ⟨by decide, by decide⟩⟩
  | 3, _ => exact ⟨⟨by decide, by decide⟩, ⟨by decide, by decide⟩⟩
theorem exN_chk : chkK exN = 0 := by
  have hW : WholeT exN := by decide
  have h1 : ¬ 64 < exN.length := by decide
  have h2 : ∀ p, p < exN.length → fldO (exN.getD p default) = true := by decide
  have h3 : ∀ p, p < exN.length → SrtA exN p := by unfold SrtA; decide
  have h4 : ¬ 12 < dpA exN 0 := by decide
  have e : ofK exN = (2, 0) := by
    unfold ofK
    rw [if_neg h1, if_neg (fun h => h hW), if_neg (fun h => h h2), if_neg (fun h => h h3), if_neg h4]; rfl
  unfold chkK
  rw [e]; rfl
theorem exN_pr : prX exN = ex1 := by
  unfold prX
  rw [if_pos exN_chk]
  have e1 : hdX ⟨1, 0, 0, 3, 2⟩ = [51, 47, 50] := txt32
  have e2 : hdX ⟨14, 30, 0, 0, 0⟩ = [119, 104, 101, 110, 32, 50, 48, 48, 48, 45, 48, 49, 45, 51, 49] := by decide +kernel
  have e3 : hdX ⟨10, 0, 0, 0, 0⟩ = [111, 110, 101, 32, 69, 85, 82] := by decide +kernel
  have e4 : hdX ⟨13, 0, 0, 0, 0⟩ = [115, 99, 97, 108, 101] := by decide +kernel
  have p3 : prF exN 1 3 = [111, 110, 101, 32, 69, 85, 82] := by
    show hdX ⟨10, 0, 0, 0, 0⟩ ++ [] = _
    rw [e3]; rfl
  have p3' : prF exN 2 3 = [111, 110, 101, 32, 69, 85, 82] := by
    show hdX ⟨10, 0, 0, 0, 0⟩ ++ [] = _
    rw [e3]; rfl
  have p2 : prF exN 3 2 = [119, 104, 101, 110, 32, 50, 48, 48, 48, 45, 48, 49, 45, 51, 49] ++ (40 :: [111, 110, 101, 32, 69, 85, 82] ++ [41]) := by
    show hdX ⟨14, 30, 0, 0, 0⟩ ++ (40 :: Lib.join [prF exN 2 3] [44, 32] ++ [41]) = _
    rw [e2, p3']; rfl
  have p1 : prF exN 3 1 = [51, 47, 50] := by
    show hdX ⟨1, 0, 0, 3, 2⟩ ++ [] = _
    rw [e1]; rfl
  show prF exN 4 0 = ex1
  show hdX ⟨13, 0, 0, 0, 0⟩ ++ (40 :: Lib.join [prF exN 3 1, prF exN 3 2] [44, 32] ++ [41]) = ex1
  rw [e4, p1, p2]; rfl

set_option maxRecDepth 100000 in
set_option maxHeartbeats 2000000 in
theorem awake6_any (w : World) (T : TabW w) : Calls Tryz.prog 6 #[] w fun e w' => e = .returned (.bool true) ∧ Below w.heap.size w w' := by
  have HP1 : Hid (Calls Tryz.prog 7 #[.string ⟨ex1.toArray⟩] w fun e w' => ∃ v, e = .returned (.tuple #[v, .int .i64 0, .int .i64 0]) ∧ OwnN w' w.heap.size v exN ∧ Below w.heap.size w w') := Lib.hid (by
    have := tparse_any ⟨ex1.toArray⟩ (by decide) w T
    rw [show (⟨ex1.toArray⟩ : ByteArray).data.toList = ex1 from rfl, ex1_par] at this; exact this)
  have HP2 : Hid (∀ w', Below w.heap.size w w' → Calls Tryz.prog 7 #[.string ⟨ex2.toArray⟩] w' fun e w'' => ∃ v, e = .returned (.tuple #[v, .int .i64 9, .int .i64 13]) ∧ Below w'.heap.size w' w'') := Lib.hid (fun w' hb => by
    have := tparse_any ⟨ex2.toArray⟩ (by decide) w' (T.keep hb)
    rw [show (⟨ex2.toArray⟩ : ByteArray).data.toList = ex2 from rfl, ex2_par] at this
    exact this.mono fun e w'' ⟨v, h1, _, h2⟩ => ⟨v, h1, h2⟩)
  have HP3 : Hid (∀ w', Below w.heap.size w w' → Calls Tryz.prog 7 #[.string ⟨ex3.toArray⟩] w' fun e w'' => ∃ v, e = .returned (.tuple #[v, .int .i64 3, .int .i64 10]) ∧ Below w'.heap.size w' w'') := Lib.hid (fun w' hb => by
    have := tparse_any ⟨ex3.toArray⟩ (by decide) w' (T.keep hb)
    rw [show (⟨ex3.toArray⟩ : ByteArray).data.toList = ex3 from rfl, ex3_par] at this
    exact this.mono fun e w'' ⟨v, h1, _, h2⟩ => ⟨v, h1, h2⟩)
  have HPr : Hid (∀ w', Below w.heap.size w w' → ∀ v, SlT w' v exN → Calls Tryz.prog 11 #[v] w' fun e w'' => e = .returned (.tuple #[.string ⟨ex1.toArray⟩, .int .i64 0]) ∧ Below w'.heap.size w' w'') := Lib.hid (fun w' hb v hv => by
    have := tprint_any exN (by decide) exN_bd v w' hv (T.keep hb)
    rw [exN_chk, exN_pr] at this; exact this)
  unfold ex1 ex2 ex3 at *
  clear T
  go_enter Tryz.func6, Tryz.ntmps6
  go_wp2_with fail
  refine HP1.out.mono ?_
  rintro e w1 ⟨v, rfl, hv, hb1⟩
  have HB1 := Lib.hid hb1
  have HV := Lib.hid hv.sl
  obtain ⟨va, vc, rfl⟩ := hv.slice
  rw [show exN.length = 4 from rfl] at HV ⊢
  clear hb1 hv
  go_wp2_with fail
  refine (HPr.out _ HB1.out _ HV.out).mono ?_
  rintro e w2 ⟨rfl, hb2⟩
  have HB2 := Lib.hid (onB HB1.out hb2)
  clear hb2
  go_wp2_with fail
  refine (HP2.out _ HB2.out).mono ?_
  rintro e w3 ⟨v2, rfl, hb3⟩
  have HB3 := Lib.hid (onB HB2.out hb3)
  clear hb3
  go_wp2_with fail
  refine (HP3.out _ HB3.out).mono ?_
  rintro e w4 ⟨v3, rfl, hb4⟩
  have HB4 := Lib.hid (onB HB3.out hb4)
  clear hb4
  go_wp2_with fail
  go_ret
  exact ⟨rfl, HB4.out⟩

end Go.Proofs.YtdmdgoeacafpiaaGreatDoor
