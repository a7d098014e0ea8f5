/-
  Package term: Of, Check, Depth: what they answer.
-/
import Derived.Test.YtadjhofomabbmaaDoorTrmH
namespace Go.Proofs.YtadjhofomabbmaaDoor
open Go.RowKit Go.Lib
set_option linter.unusedVariables false

/-- Is all of a row one term? -/
def WholeT (t : List Nd) : Prop := scan 1 t = some t.length
instance (t : List Nd) : Decidable (WholeT t) := by unfold WholeT; infer_instance
theorem WholeT.tm {t : List Nd} (h : WholeT t) : TmA t 0 ∧ szA t 0 = t.length := TmA.of (t := t) (p := 0) h
theorem WholeT.of {t : List Nd} (h : TmA t 0) (h2 : szA t 0 = t.length) : WholeT t := by
  have := h.eq
  rw [h2] at this; exact this
/-- From any place of a row that is so many terms, some terms stand there up to the end. -/
theorem scan_tail {t : List Nd} : ∀ (p o : Nat), p < t.length → scan o t = some t.length → ∃ q, 1 ≤ q ∧ scan q (t.drop p) = some (t.length - p) := by
  induction t with
  | nil => intro p o hp; exact absurd hp (Nat.not_lt_zero _)
  | cons n xs ih =>
    intro p o hp h
    have ho : 1 ≤ o := by
      rcases Nat.eq_zero_or_pos o with e | e
      · subst e; rw [scan_zero] at h; cases h
      · exact e
    cases p with
    | zero => exact ⟨o, ho, h⟩
    | succ p =>
      obtain ⟨o', rfl⟩ : ∃ o', o = o' + 1 := ⟨o - 1, by omega⟩
      by_cases c : mkO n.op = 0
      · rw [scan_bad c] at h; cases h
      · rw [scan_cons c] at h
        obtain ⟨m, hm, e⟩ := Option.map_eq_some_iff.1 h
        have e' : m = xs.length := by simpa using e
        subst e'
        obtain ⟨q, h1, h2⟩ := ih p _ (by simpa using hp) hm
        exact ⟨q, h1, by simpa using h2⟩
/-- A term begins at each node of a term. -/
theorem WholeT.all {t : List Nd} (h : WholeT t) (p : Nat) (hp : p < t.length) : TmA t p := by
  obtain ⟨q, h1, h2⟩ := scan_tail p 1 hp h
  obtain ⟨q', rfl⟩ : ∃ q', q = 1 + q' := ⟨q - 1, by omega⟩
  rw [scan_add] at h2
  obtain ⟨m, hm, _⟩ := Option.bind_eq_some_iff.1 h2
  exact ⟨m, hm⟩

/-- A slice's nodes. -/
def SlT (w : World) (v : Value) (t : List Nd) : Prop := (t = [] ∧ ∃ a cap, v = .slice a 0 cap) ∨ (0 < t.length ∧ ∃ b o cap, v = .slice (some ⟨b, o, none⟩) t.length cap ∧ t.length ≤ cap ∧ cap ≤ 9223372036854775807 ∧ NdA w b o t)
theorem SlT.keep {w w' : World} {v : Value} {t : List Nd} (h : SlT w v t) (hb : Below w.heap.size w w') : SlT w' v t := by
  rcases h with h | ⟨h0, b, o, cap, h1, h2, h3, h4⟩
  · exact .inl h
  · exact .inr ⟨h0, b, o, cap, h1, h2, h3, h4.keep hb⟩
/-- Numbers that fit. -/
def BdT (t : List Nd) : Prop := ∀ p, p < t.length → I64T (t.getD p default).num ∧ I64T (t.getD p default).den

open Classical in
/-- What Of answers. -/
noncomputable def ofK (t : List Nd) : Nat × Nat :=
  if 64 < t.length then (0, 15) else if ¬ WholeT t then (0, 13) else if ¬ ∀ p, p < t.length → fldO (t.getD p default) = true then (0, 10)
  else if ¬ ∀ p, p < t.length → SrtA t p then (0, 14) else if 12 < dpA t 0 then (0, 15) else (mkO (opA t 0), 0)

set_option maxHeartbeats 2000000 in
set_option maxRecDepth 100000 in
theorem of_empty (a : Option Addr) (cap : Nat) (w : World) : Calls Tryd.prog 24 #[.slice a 0 cap] w fun e w' => e = .returned (.tuple #[.int .i64 0, .int .i64 13]) ∧ w = w' := by
  have HS := Lib.hid (fun w => size_out a 0 cap (by omega) 0 (.inr (by omega)) w)
  go_enter Tryd.func24, Tryd.ntmps24
  go_wp2_with fail
  refine (HS.out _).mono ?_
  rintro e w1 ⟨rfl, rfl⟩
  go_wp2_with fail
  go_ret2
  exact ⟨rfl, rfl⟩
theorem of_great (a : Option Addr) (len cap : Nat) (h : 64 < len) (hl : len ≤ 9223372036854775807) (w : World) : Calls Tryd.prog 24 #[.slice a len cap] w fun e w' => e = .returned (.tuple #[.int .i64 0, .int .i64 15]) ∧ w = w' := by
  have h1 : (64 : Int) < (len : Int) := by omega
  go_enter Tryd.func24, Tryd.ntmps24
  go_wp2_with fail
  go_ret2
  exact ⟨rfl, rfl⟩

set_option maxHeartbeats 4000000 in
set_option maxRecDepth 100000 in
theorem of_main (t : List Nd) (h0 : 0 < t.length) (h64 : t.length ≤ 64) (b o cap : Nat) (hcap : t.length ≤ cap) (hcm : cap ≤ 9223372036854775807) (hbd : BdT t) (w : World) (hN : NdA w b o t) (C : KndW w) :
    Calls Tryd.prog 24 #[.slice (some ⟨b, o, none⟩) t.length cap] w fun e w' => e = .returned (.tuple #[.int .i64 (ofK t).1, .int .i64 (ofK t).2]) ∧ Below w.heap.size w w' := by
  obtain ⟨r1, hr1⟩ : ∃ r, r = (ofK t).1 := ⟨_, rfl⟩
  obtain ⟨r2, hr2⟩ : ∃ r, r = (ofK t).2 := ⟨_, rfl⟩
  rw [← hr1, ← hr2]
  have HR : Hid (r1 = (ofK t).1 ∧ r2 = (ofK t).2) := Lib.hid ⟨hr1, hr2⟩
  have HS := Lib.hid (size_in t (by omega) b o cap hcap hcm 0 h0 w hN C)
  have HN := Lib.hid hN
  have HC := Lib.hid C
  have l0 : ¬ (64 : Int) < (t.length : Int) := by omega
  have l1 : (0 : Int) < (t.length : Int) := by omega
  have hb0 : b < w.heap.size := ltT (hN 0 h0).c0
  have h1000 : t.length ≤ 1000 := by omega
  have H64 : Hid (¬ 64 < t.length) := Lib.hid (by omega)
  clear hN C hr1 hr2 h64
  by_cases hW : WholeT t
  · obtain ⟨w1, w2⟩ := hW.tm
    have HAll := Lib.hid hW.all
    have HW := Lib.hid hW
    have HW1 := Lib.hid w1
    have hS2 := HS.out
    rw [szE_ok w1, w2] at hS2
    have HS2 := Lib.hid hS2
    clear hS2 HS w1 w2 hW
    go_enter Tryd.func24, Tryd.ntmps24
    go_wp2_with fail
    refine HS2.out.mono ?_
    rintro e w1 ⟨rfl, hb1⟩
    have HB1 := Lib.hid hb1
    clear hb1
    go_wp2_with fail
    refine (filled_main t h1000 b o cap hcap hcm hbd w1 (HN.out.keep HB1.out) (HC.out.keep HB1.out)).mono ?_
    rintro e w2 ⟨⟨rf, rfl, hrf⟩, hb2⟩
    have HB2 := Lib.hid (onB HB1.out hb2)
    have HF := Lib.hid hrf
    clear hb2 hrf
    cases rf with
    | false =>
      have HA : Hid (ofK t = (0, 10)) := Lib.hid (by
        unfold ofK
        rw [if_neg H64.out, if_neg (fun h => h HW.out), if_pos (fun h => by have := HF.out.2 h; cases this)])
      go_wp2_with fail
      go_ret2
      exact ⟨ret_twoT (by rw [HR.out.1, HA.out]; rfl) (by rw [HR.out.2, HA.out]; rfl), HB2.out⟩
    | true =>
      go_wp2_with fail
      refine (sorted_main t h1000 b o cap hcap hcm HAll.out w2 (Nat.lt_of_lt_of_le hb0 HB2.out.size) (HN.out.keep HB2.out) (HC.out.keep HB2.out)).mono ?_
      rintro e w3 ⟨⟨rs, rfl, hrs⟩, hb3⟩
      have HB3 := Lib.hid (onB HB2.out hb3)
      have HSr := Lib.hid hrs
      clear hb3 hrs
      cases rs with
      | false =>
        have HA : Hid (ofK t = (0, 14)) := Lib.hid (by
          unfold ofK
          rw [if_neg H64.out, if_neg (fun h => h HW.out), if_neg (fun h => h (HF.out.1 (by first | rfl | trivial))), if_pos (fun h => by have := HSr.out.2 h; cases this)])
        go_wp2_with fail
        go_ret2
        exact ⟨ret_twoT (by rw [HR.out.1, HA.out]; rfl) (by rw [HR.out.2, HA.out]; rfl), HB3.out⟩
      | true =>
        have HD := Lib.hid (depth_ok t h1000 b o cap hcap hcm 0 HW1.out w3 (HN.out.keep HB3.out) (HC.out.keep HB3.out))
        have HO : Hid (ofK t = if 12 < dpA t 0 then (0, 15) else (mkO (opA t 0), 0)) := Lib.hid (by
          unfold ofK
          rw [if_neg H64.out, if_neg (fun h => h HW.out), if_neg (fun h => h (HF.out.1 (by first | rfl | trivial))), if_neg (fun h => h (HSr.out.1 (by first | rfl | trivial)))])
        generalize dpA t 0 = d at *
        by_cases hd : 12 < d
        · have hd' : (12 : Int) < (d : Int) := by omega
          have HA : Hid (ofK t = (0, 15)) := Lib.hid (by rw [HO.out, if_pos hd])
          clear hd
          go_wp2_with fail
          refine HD.out.mono ?_
          rintro e w4 ⟨rfl, hb4⟩
          go_wp2_with fail
          go_ret2
          exact ⟨ret_twoT (by rw [HR.out.1, HA.out]; rfl) (by rw [HR.out.2, HA.out]; rfl), onB HB3.out hb4⟩
        · have hd' : ¬ (12 : Int) < (d : Int) := by omega
          have HA : Hid (ofK t = (mkO (opA t 0), 0)) := Lib.hid (by rw [HO.out, if_neg hd])
          clear hd
          go_wp2_with fail
          refine HD.out.mono ?_
          rintro e w4 ⟨rfl, hb4⟩
          have HB4 := Lib.hid (onB HB3.out hb4)
          have hc := (HN.out.keep HB4.out 0 h0).c0
          have HSo := Lib.hid (tsort_any (opA t 0) w4 (HC.out.keep HB4.out))
          have hop : (t.getD 0 default).op = opA t 0 := rfl
          rw [hop, show o + 0 * 5 = o by omega] at hc
          generalize opA t 0 = op0 at *
          clear hb4 hop
          go_wp2_with fail
          refine HSo.out.mono ?_
          rintro e w5 ⟨rfl, hb5⟩
          go_wp2_with fail
          go_ret2
          exact ⟨ret_twoT (by rw [HR.out.1, HA.out]) (by rw [HR.out.2, HA.out]; rfl), onB HB4.out hb5⟩
  · have HA : Hid (ofK t = (0, 13)) := Lib.hid (by unfold ofK; rw [if_neg H64.out, if_pos hW])
    by_cases hT : TmA t 0
    · have hne : szA t 0 ≠ t.length := fun e => hW (WholeT.of hT e)
      have hS2 := HS.out
      rw [szE_ok hT] at hS2
      have HS2 := Lib.hid hS2
      have hneb : (((szA t 0 : Nat) : Int) == (t.length : Int)) = false := by simp; omega
      clear hS2 HS hW hT hne
      generalize szA t 0 = sz at *
      go_enter Tryd.func24, Tryd.ntmps24
      go_wp2_with fail
      refine HS2.out.mono ?_
      rintro e w1 ⟨rfl, hb1⟩
      go_wp2_with fail
      go_ret2
      exact ⟨ret_twoT (by rw [HR.out.1, HA.out]; rfl) (by rw [HR.out.2, HA.out]; rfl), hb1⟩
    · have hS2 := HS.out
      rw [szE_no hT] at hS2
      have HS2 := Lib.hid hS2
      clear hS2 HS hW hT
      go_enter Tryd.func24, Tryd.ntmps24
      go_wp2_with fail
      refine HS2.out.mono ?_
      rintro e w1 ⟨rfl, hb1⟩
      go_wp2_with fail
      go_ret2
      exact ⟨ret_twoT (by rw [HR.out.1, HA.out]; rfl) (by rw [HR.out.2, HA.out]; rfl), hb1⟩

theorem whole_len {t : List Nd} (h : WholeT t) : 0 < t.length := by
  obtain ⟨h1, _⟩ := h.tm
  exact h1.lt
theorem tof_any (t : List Nd) (hl : t.length ≤ 9223372036854775807) (hbd : BdT t) (v : Value) (w : World) (hv : SlT w v t) (C : KndW w) :
    Calls Tryd.prog 24 #[v] w fun e w' => e = .returned (.tuple #[.int .i64 (ofK t).1, .int .i64 (ofK t).2]) ∧ Below w.heap.size w w' := by
  rcases hv with ⟨rfl, a, cap, rfl⟩ | ⟨h0, b, o, cap, rfl, h2, h3, h4⟩
  · have e : ofK [] = (0, 13) := by
      unfold ofK
      rw [if_neg (by simp), if_pos (fun h => absurd (whole_len h) (by simp))]
    rw [e]
    exact (of_empty a cap w).mono fun e w' ⟨he, hw⟩ => ⟨he, by subst hw; exact Below.refl _ _⟩
  · by_cases h64 : 64 < t.length
    · have e : ofK t = (0, 15) := by unfold ofK; rw [if_pos h64]
      rw [e]
      exact (of_great _ t.length cap h64 hl w).mono fun e w' ⟨he, hw⟩ => ⟨he, by subst hw; exact Below.refl _ _⟩
    · exact of_main t h0 (by omega) b o cap h2 h3 hbd w h4 C

/-- What Check answers. -/
noncomputable def chkK (t : List Nd) : Nat := if (ofK t).2 ≠ 0 then (ofK t).2 else if (ofK t).1 = 2 then 0 else 14
set_option maxHeartbeats 1000000 in
set_option maxRecDepth 100000 in
theorem tcheck_any (t : List Nd) (hl : t.length ≤ 9223372036854775807) (hbd : BdT t) (v : Value) (w : World) (hv : SlT w v t) (C : KndW w) :
    Calls Tryd.prog 26 #[v] w fun e w' => e = .returned (.int .i64 (chkK t)) ∧ Below w.heap.size w w' := by
  have HO := Lib.hid (tof_any t hl hbd v w hv C)
  obtain ⟨r, hr⟩ : ∃ r, r = chkK t := ⟨_, rfl⟩
  rw [← hr]
  have HR : Hid (r = if (ofK t).2 ≠ 0 then (ofK t).2 else if (ofK t).1 = 2 then 0 else 14) := Lib.hid (by rw [hr]; rfl)
  clear hr hv C hbd
  generalize (ofK t).1 = s at *
  generalize (ofK t).2 = e0 at *
  by_cases he : e0 = 0
  · subst he
    by_cases hs : s = 2
    · subst hs
      go_enter Tryd.func26, Tryd.ntmps26
      go_wp2_with fail
      refine HO.out.mono ?_
      rintro e w1 ⟨rfl, hb⟩
      go_wp2_with fail
      go_ret
      exact ⟨by rw [HR.out]; rfl, hb⟩
    · have hb2 : ((s : Int) == 2) = false := by simp; omega
      have HR2 : Hid (r = 14) := Lib.hid (by rw [HR.out, if_neg (by simp), if_neg hs])
      clear hs
      go_enter Tryd.func26, Tryd.ntmps26
      go_wp2_with fail
      refine HO.out.mono ?_
      rintro e w1 ⟨rfl, hb⟩
      go_wp2_with fail
      go_ret
      exact ⟨by rw [HR2.out]; rfl, hb⟩
  · have hb2 : ((e0 : Int) == 0) = false := by simp; omega
    have HR2 : Hid (r = e0) := Lib.hid (by rw [HR.out, if_pos he])
    clear he
    go_enter Tryd.func26, Tryd.ntmps26
    go_wp2_with fail
    refine HO.out.mono ?_
    rintro e w1 ⟨rfl, hb⟩
    go_wp2_with fail
    go_ret
    exact ⟨by rw [HR2.out]; rfl, hb⟩

end Go.Proofs.YtadjhofomabbmaaDoor
