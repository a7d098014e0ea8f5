/-
  chattellaw08: wrong: what it answers.
-/
import Derived.Test.YtfkaliammmpcfaaGreatDoorVlL
import Derived.Test.YtfkaliammmpcfaaGreatDoorTrm
namespace Go.Proofs.YtfkaliammmpcfaaGreatDoor
open Go.RowKit Go.Lib Go.Shelf Go.Maps
set_option linter.unusedVariables false
set_option linter.unusedSimpArgs false

theorem sortS_o (op : Int) (h : mkO op = 1) : sortS op = ⟨#[111]⟩ := by unfold sortS; rw [if_neg (by omega), h]; rfl
theorem sortS_no (op : Int) (h : mkO op ≠ 1) : sortS op = ⟨#[]⟩ ∨ sortS op = ⟨#[99]⟩ := by
  have := mk_le op
  unfold sortS
  rcases (show mkO op = 0 ∨ mkO op = 2 by omega) with e | e <;> rw [e]
  · exact .inl rfl
  · exact .inr rfl
set_option maxRecDepth 100000 in
set_option maxHeartbeats 2000000 in
theorem lwrong_any (t : List Nd) (hl : t.length ≤ 1000) (hbd : BdT t) (v : Value) (w : World) (hv : SlT w v t) (p : Int) :
    Calls Tryz.prog 7 #[v, .int .i64 p] w fun e w' => e = .returned (.int .i64 (wrN t p)) ∧ Below w.heap.size w w' := by
  have HOf := Lib.hid (rofT_any t (by omega) hbd v w hv)
  have HS := Lib.hid hv
  obtain ⟨av, cv, rfl⟩ := hv.slice
  obtain ⟨E, hE⟩ : ∃ E, E = wrN t p := ⟨_, rfl⟩
  rw [← hE]
  by_cases h1 : (ofK t).2 = 0
  · have e1 : wrN t p = if p < 0 ∨ (t.length : Int) ≤ p then 10 else if mkO (opA t p.toNat) ≠ 1 then 14 else 0 := by unfold wrN; rw [if_neg (by omega)]
    rw [h1] at HOf
    by_cases h2 : p < 0
    · rw [if_pos (.inl h2)] at e1
      rw [hE, e1]
      clear hE e1 h1 hv
      go_enter Tryz.func7, Tryz.ntmps7
      go_wp2_with fail
      refine (HOf.out).mono ?_
      rintro e w1 ⟨rfl, hb1⟩
      have HB1 := Lib.hid hb1
      clear hb1
      go_wp2_with fail
      go_ret
      exact ⟨rfl, HB1.out⟩
    by_cases h3 : (t.length : Int) ≤ p
    · rw [if_pos (.inr h3)] at e1
      rw [hE, e1]
      clear hE e1 h1 hv
      go_enter Tryz.func7, Tryz.ntmps7
      go_wp2_with fail
      refine (HOf.out).mono ?_
      rintro e w1 ⟨rfl, hb1⟩
      have HB1 := Lib.hid hb1
      clear hb1
      go_wp2_with fail
      go_ret
      exact ⟨rfl, HB1.out⟩
    rw [if_neg (fun h => h.elim h2 h3)] at e1
    obtain ⟨n, rfl⟩ : ∃ n : Nat, p = (n : Int) := ⟨p.toNat, by omega⟩
    rw [Int.toNat_natCast] at e1
    have hn : n < t.length := by omega
    rcases hv with ⟨h, _⟩ | ⟨_, b, o, cap, hv, hc1, hc2, hN⟩
    · rw [h] at hn; exact absurd hn (Nat.not_lt_zero _)
    injection hv with hv1 _ hv3
    subst hv1 hv3
    have HN := Lib.hid hN
    have p0 : (0 : Int) ≤ (n : Int) := by omega
    have p1 : (n : Int) < (t.length : Int) := by omega
    have HSo := Lib.hid (fun w' => rsort_any (opA t n) w')
    have hop : (t.getD n default).op = opA t n := rfl
    have HL := Lib.hid hn
    by_cases h4 : mkO (opA t n) = 1
    · rw [if_neg (fun h => h h4)] at e1
      rw [hE, e1]
      rw [sortS_o _ h4] at HSo
      clear hE e1 h1 hN h4
      go_enter Tryz.func7, Tryz.ntmps7
      go_wp2_with fail
      refine (HOf.out).mono ?_
      rintro e w1 ⟨rfl, hb1⟩
      have HB1 := Lib.hid hb1
      obtain ⟨k0, _, _, _, _⟩ := (HN.out.keep hb1) n HL.out
      rw [hop] at k0
      clear hb1 hop
      go_wp2_with fail
      refine (HSo.out _).mono ?_
      rintro e w2 ⟨rfl, rfl⟩
      go_wp2_with fail
      go_ret
      exact ⟨rfl, HB1.out⟩
    · rw [if_pos h4] at e1
      rw [hE, e1]
      have hne := sortS_no _ h4
      clear hE e1 h1 hN h4
      rcases hne with hS | hS
      all_goals rw [hS] at HSo
      all_goals clear hS
      · go_enter Tryz.func7, Tryz.ntmps7
        go_wp2_with fail
        refine (HOf.out).mono ?_
        rintro e w1 ⟨rfl, hb1⟩
        have HB1 := Lib.hid hb1
        obtain ⟨k0, _, _, _, _⟩ := (HN.out.keep hb1) n HL.out
        rw [hop] at k0
        clear hb1 hop
        go_wp2_with fail
        refine (HSo.out _).mono ?_
        rintro e w2 ⟨rfl, rfl⟩
        go_wp2_with fail
        go_ret
        exact ⟨rfl, HB1.out⟩
      · go_enter Tryz.func7, Tryz.ntmps7
        go_wp2_with fail
        refine (HOf.out).mono ?_
        rintro e w1 ⟨rfl, hb1⟩
        have HB1 := Lib.hid hb1
        obtain ⟨k0, _, _, _, _⟩ := (HN.out.keep hb1) n HL.out
        rw [hop] at k0
        clear hb1 hop
        go_wp2_with fail
        refine (HSo.out _).mono ?_
        rintro e w2 ⟨rfl, rfl⟩
        go_wp2_with fail
        go_ret
        exact ⟨rfl, HB1.out⟩
  · have e1 : wrN t p = ((ofK t).2 : Nat) := by unfold wrN; rw [if_pos h1]
    rw [hE, e1]
    have h1' : ¬ (((ofK t).2 : Nat) : Int) = 0 := by omega
    have h1'' : ((((ofK t).2 : Nat) : Int) != 0) = true := bne_iff_ne.2 h1'
    clear hE e1 h1 hv
    generalize (ofK t).2 = k at *
    go_enter Tryz.func7, Tryz.ntmps7
    go_wp2_with fail
    refine (HOf.out).mono ?_
    rintro e w1 ⟨rfl, hb1⟩
    have HB1 := Lib.hid hb1
    clear hb1
    go_wp2_with fail
    go_ret
    exact ⟨rfl, HB1.out⟩

end Go.Proofs.YtfkaliammmpcfaaGreatDoor
