/-
  slices.stableCmpFunc at []int, from 20 to 64 numbers (see Stable).
-/
import Derived.Test.YtbjjogbnndmmmaaStable
namespace Go.Proofs.Ytbjjogbnndmmmaa
open Go.RowKit Go.Sort
set_option linter.unusedVariables false

/-- A row on its way: how long it is, what its numbers are. -/
def Way (V : Int → Prop) (N : Nat) (d : Array Int) : Prop := d.size = N ∧ ∀ t, t < N → V d[t]!
/-- All from here on stand at their own places. -/
def Idt (N c : Nat) (d : Array Int) : Prop := ∀ t, c ≤ t → t < N → d[t]! = (t : Int)
def Same (a b : Nat) (d d' : Array Int) : Prop := ∀ t, t < a ∨ b ≤ t → d'[t]! = d[t]!
theorem Idt.keep {N a b c : Nat} {d d' : Array Int} (h : Idt N c d) (hs : Same a b d d') (hb : b ≤ c) : Idt N c d' := fun t h1 h2 => by rw [hs t (Or.inr (by omega))]; exact h t h1 h2
theorem Idt.on {N c c' : Nat} {d : Array Int} (h : Idt N c d) (hc : c ≤ c') : Idt N c' d := fun t h1 h2 => h t (by omega) h2
theorem Seg.keep {κ : Int → Int} {a b p q : Nat} {d d' : Array Int} (h : Seg κ p q d) (hs : Same a b d d') (hb : q ≤ a ∨ b ≤ p) : Seg κ p q d' := h.of_eq (fun t h1 h2 => hs t (by omega))

/-- What a step leaves, by names. -/
def StepP (κ : Int → Int) (V : Int → Prop) (w : World) (blk off N a b : Nat) (d : Array Int) (e : Ending) (w' : World) : Prop :=
  e = .returned (.tuple #[]) ∧ ∃ q d', w' = rowW w blk off q d' ∧ Way V N d' ∧ Seg κ a b d' ∧ Same a b d d'
theorem stepP {κ : Int → Int} {V : Int → Prop} {w : World} {blk off N a b : Nat} {d : Array Int} {e : Ending} {w' : World} (h : StepPost κ V w blk off N a b d e w') : StepP κ V w blk off N a b d e w' := by
  obtain ⟨rfl, q, d', rfl, h1, h2, h3, h4⟩ := h
  exact ⟨rfl, q, d', rfl, ⟨h1, h2⟩, h3, h4⟩

/-- The two calls, as the sort makes them. -/
def InsC (bx : Array Value) (κ : Int → Int) (V : Int → Prop) (blk off cap N : Nat) (w : World) : Prop :=
  ∀ (a b n : Nat) (d : Array Int), Way V N d → a ≤ b → b ≤ N → Idt N a d →
    Calls Try.prog 41 #[.slice (some ⟨blk, off, none⟩) N cap, .int .i64 a, .int .i64 b, .func (.func 35) #[] bx] (rowW w blk off n d) (StepP κ V w blk off N a b d)
def SymC (bx : Array Value) (κ : Int → Int) (V : Int → Prop) (blk off cap N : Nat) (w : World) : Prop :=
  ∀ (a m b n : Nat) (d : Array Int), Way V N d → a < m → m < b → b ≤ N → Seg κ a m d → Seg κ m b d →
    Calls Try.prog 42 #[.slice (some ⟨blk, off, none⟩) N cap, .int .i64 a, .int .i64 m, .int .i64 b, .func (.func 35) #[] bx] (rowW w blk off n d) (StepP κ V w blk off N a b d)

set_option maxHeartbeats 8000000 in
set_option maxRecDepth 100000 in
theorem stable_a (bx : Array Value) (κ : Int → Int) (V : Int → Prop) (blk off cap N : Nat) (d0 : Array Int) (w : World) (hI : InsC bx κ V blk off cap N w) (hS : SymC bx κ V blk off cap N w)
    (hW0 : Way V N d0) (hid0 : Idt N 0 d0) (h1 : N < 20) :
    Calls Try.prog 39 #[.slice (some ⟨blk, off, none⟩) N cap, .int .i64 N, .func (.func 35) #[] bx] (rowW w blk off 0 d0) fun e w' => e = .returned (.tuple #[]) ∧ ∃ q d', w' = rowW w blk off q d' ∧ Way V N d' ∧ Seg κ 0 N d' := by
  have HI : Hid _ := hI
  have HS : Hid _ := hS
  clear hI hS
  go_enter Try.func39, Try.ntmps39
  go_wp2_with fail
  refine wp_loop_rounds 1 ?_
  rw [rounds_succ]
  go_wp2_with fail
  have HC1 := Lib.hid (HI.out 0 N 0 d0 hW0 (by omega) (by omega) hid0)
  refine HC1.out.mono ?_
  rintro e w' ⟨rfl, q1, d1, rfl, hW1, s1, e1⟩
  clear hW0 hid0  HC1 e1
  go_wp2_with fail
  refine wp_loop_rounds 1 ?_
  rw [rounds_succ]
  go_wp2_with fail
  go_end0
  exact ⟨rfl, q1, d1, rfl, hW1, s1⟩

set_option maxHeartbeats 8000000 in
set_option maxRecDepth 100000 in
theorem stable_b (bx : Array Value) (κ : Int → Int) (V : Int → Prop) (blk off cap N : Nat) (d0 : Array Int) (w : World) (hI : InsC bx κ V blk off cap N w) (hS : SymC bx κ V blk off cap N w)
    (hW0 : Way V N d0) (hid0 : Idt N 0 d0) (h1 : 20 ≤ N) (h2 : N ≤ 20) :
    Calls Try.prog 39 #[.slice (some ⟨blk, off, none⟩) N cap, .int .i64 N, .func (.func 35) #[] bx] (rowW w blk off 0 d0) fun e w' => e = .returned (.tuple #[]) ∧ ∃ q d', w' = rowW w blk off q d' ∧ Way V N d' ∧ Seg κ 0 N d' := by
  have HI : Hid _ := hI
  have HS : Hid _ := hS
  clear hI hS
  go_enter Try.func39, Try.ntmps39
  go_wp2_with fail
  refine wp_loop_rounds 2 ?_
  rw [rounds_succ]
  go_wp2_with fail
  have HC1 := Lib.hid (HI.out 0 20 0 d0 hW0 (by omega) (by omega) hid0)
  refine HC1.out.mono ?_
  rintro e w' ⟨rfl, q1, d1, rfl, hW1, s1, e1⟩
  have hid1 := (hid0.on (show 0 ≤ 20 by omega)).keep e1 (Nat.le_refl _)
  clear hW0 hid0  HC1 e1
  go_wp2_with fail
  rw [rounds_succ]
  go_wp2_with fail
  have HC2 := Lib.hid (HI.out 20 N q1 d1 hW1 (by omega) (by omega) hid1)
  refine HC2.out.mono ?_
  rintro e w' ⟨rfl, q2, d2, rfl, hW2, s2, e2⟩
  have s1' := s1.keep e2 (by omega)
  clear hW1 hid1 s1 HC2 e2
  go_wp2_with fail
  refine wp_loop_rounds 1 ?_
  rw [rounds_succ]
  go_wp2_with fail
  go_end0
  obtain rfl : N = 20 := by omega
  exact ⟨rfl, q2, d2, rfl, hW2, s1'⟩

set_option maxHeartbeats 8000000 in
set_option maxRecDepth 100000 in
theorem stable_c (bx : Array Value) (κ : Int → Int) (V : Int → Prop) (blk off cap N : Nat) (d0 : Array Int) (w : World) (hI : InsC bx κ V blk off cap N w) (hS : SymC bx κ V blk off cap N w)
    (hW0 : Way V N d0) (hid0 : Idt N 0 d0) (h1 : 20 < N) (h2 : N < 40) :
    Calls Try.prog 39 #[.slice (some ⟨blk, off, none⟩) N cap, .int .i64 N, .func (.func 35) #[] bx] (rowW w blk off 0 d0) fun e w' => e = .returned (.tuple #[]) ∧ ∃ q d', w' = rowW w blk off q d' ∧ Way V N d' ∧ Seg κ 0 N d' := by
  have HI : Hid _ := hI
  have HS : Hid _ := hS
  clear hI hS
  go_enter Try.func39, Try.ntmps39
  go_wp2_with fail
  refine wp_loop_rounds 2 ?_
  rw [rounds_succ]
  go_wp2_with fail
  have HC1 := Lib.hid (HI.out 0 20 0 d0 hW0 (by omega) (by omega) hid0)
  refine HC1.out.mono ?_
  rintro e w' ⟨rfl, q1, d1, rfl, hW1, s1, e1⟩
  have hid1 := (hid0.on (show 0 ≤ 20 by omega)).keep e1 (Nat.le_refl _)
  clear hW0 hid0  HC1 e1
  go_wp2_with fail
  rw [rounds_succ]
  go_wp2_with fail
  have HC2 := Lib.hid (HI.out 20 N q1 d1 hW1 (by omega) (by omega) hid1)
  refine HC2.out.mono ?_
  rintro e w' ⟨rfl, q2, d2, rfl, hW2, s2, e2⟩
  have s1' := s1.keep e2 (by omega)
  clear hW1 hid1 s1 HC2 e2
  go_wp2_with fail
  refine wp_loop_rounds 2 ?_
  rw [rounds_succ]
  go_wp2_with fail
  refine wp_loop_rounds 1 ?_
  rw [rounds_succ]
  go_wp2_with fail
  have HC3 := Lib.hid (HS.out 0 20 N q2 d2 hW2 (by omega) (by omega) (by omega) s1' s2)
  refine HC3.out.mono ?_
  rintro e w' ⟨rfl, q3, d3, rfl, hW3, s3, e3⟩
  clear hW2 s1' s2 HC3 e3
  go_wp2_with fail
  rw [rounds_succ]
  go_wp2_with fail
  go_end0
  exact ⟨rfl, q3, d3, rfl, hW3, s3⟩

set_option maxHeartbeats 8000000 in
set_option maxRecDepth 100000 in
theorem stable_d (bx : Array Value) (κ : Int → Int) (V : Int → Prop) (blk off cap N : Nat) (d0 : Array Int) (w : World) (hI : InsC bx κ V blk off cap N w) (hS : SymC bx κ V blk off cap N w)
    (hW0 : Way V N d0) (hid0 : Idt N 0 d0) (h1 : 40 ≤ N) (h2 : N ≤ 40) :
    Calls Try.prog 39 #[.slice (some ⟨blk, off, none⟩) N cap, .int .i64 N, .func (.func 35) #[] bx] (rowW w blk off 0 d0) fun e w' => e = .returned (.tuple #[]) ∧ ∃ q d', w' = rowW w blk off q d' ∧ Way V N d' ∧ Seg κ 0 N d' := by
  have HI : Hid _ := hI
  have HS : Hid _ := hS
  clear hI hS
  go_enter Try.func39, Try.ntmps39
  go_wp2_with fail
  refine wp_loop_rounds 3 ?_
  rw [rounds_succ]
  go_wp2_with fail
  have HC1 := Lib.hid (HI.out 0 20 0 d0 hW0 (by omega) (by omega) hid0)
  refine HC1.out.mono ?_
  rintro e w' ⟨rfl, q1, d1, rfl, hW1, s1, e1⟩
  have hid1 := (hid0.on (show 0 ≤ 20 by omega)).keep e1 (Nat.le_refl _)
  clear hW0 hid0  HC1 e1
  go_wp2_with fail
  rw [rounds_succ]
  go_wp2_with fail
  have HC2 := Lib.hid (HI.out 20 40 q1 d1 hW1 (by omega) (by omega) hid1)
  refine HC2.out.mono ?_
  rintro e w' ⟨rfl, q2, d2, rfl, hW2, s2, e2⟩
  have s1' := s1.keep e2 (by omega)
  have hid2 := (hid1.on (show 20 ≤ 40 by omega)).keep e2 (Nat.le_refl _)
  clear hW1 hid1 s1 HC2 e2
  go_wp2_with fail
  rw [rounds_succ]
  go_wp2_with fail
  have HC3 := Lib.hid (HI.out 40 N q2 d2 hW2 (by omega) (by omega) hid2)
  refine HC3.out.mono ?_
  rintro e w' ⟨rfl, q3, d3, rfl, hW3, s3, e3⟩
  have s1'' := s1'.keep e3 (by omega)
  have s2' := s2.keep e3 (by omega)
  clear hW2 hid2 s1' s2 HC3 e3
  go_wp2_with fail
  refine wp_loop_rounds 2 ?_
  rw [rounds_succ]
  go_wp2_with fail
  refine wp_loop_rounds 2 ?_
  rw [rounds_succ]
  go_wp2_with fail
  have HC4 := Lib.hid (HS.out 0 20 40 q3 d3 hW3 (by omega) (by omega) (by omega) s1'' s2')
  refine HC4.out.mono ?_
  rintro e w' ⟨rfl, q4, d4, rfl, hW4, s4, e4⟩
  have s3' := s3.keep e4 (by omega)
  clear hW3 s1'' s2' s3 HC4 e4
  go_wp2_with fail
  rw [rounds_succ]
  go_wp2_with fail
  rw [rounds_succ]
  go_wp2_with fail
  go_end0
  obtain rfl : N = 40 := by omega
  exact ⟨rfl, q4, d4, rfl, hW4, s4⟩

set_option maxHeartbeats 8000000 in
set_option maxRecDepth 100000 in
theorem stable_e (bx : Array Value) (κ : Int → Int) (V : Int → Prop) (blk off cap N : Nat) (d0 : Array Int) (w : World) (hI : InsC bx κ V blk off cap N w) (hS : SymC bx κ V blk off cap N w)
    (hW0 : Way V N d0) (hid0 : Idt N 0 d0) (h1 : 40 < N) (h2 : N < 60) :
    Calls Try.prog 39 #[.slice (some ⟨blk, off, none⟩) N cap, .int .i64 N, .func (.func 35) #[] bx] (rowW w blk off 0 d0) fun e w' => e = .returned (.tuple #[]) ∧ ∃ q d', w' = rowW w blk off q d' ∧ Way V N d' ∧ Seg κ 0 N d' := by
  have HI : Hid _ := hI
  have HS : Hid _ := hS
  clear hI hS
  go_enter Try.func39, Try.ntmps39
  go_wp2_with fail
  refine wp_loop_rounds 3 ?_
  rw [rounds_succ]
  go_wp2_with fail
  have HC1 := Lib.hid (HI.out 0 20 0 d0 hW0 (by omega) (by omega) hid0)
  refine HC1.out.mono ?_
  rintro e w' ⟨rfl, q1, d1, rfl, hW1, s1, e1⟩
  have hid1 := (hid0.on (show 0 ≤ 20 by omega)).keep e1 (Nat.le_refl _)
  clear hW0 hid0  HC1 e1
  go_wp2_with fail
  rw [rounds_succ]
  go_wp2_with fail
  have HC2 := Lib.hid (HI.out 20 40 q1 d1 hW1 (by omega) (by omega) hid1)
  refine HC2.out.mono ?_
  rintro e w' ⟨rfl, q2, d2, rfl, hW2, s2, e2⟩
  have s1' := s1.keep e2 (by omega)
  have hid2 := (hid1.on (show 20 ≤ 40 by omega)).keep e2 (Nat.le_refl _)
  clear hW1 hid1 s1 HC2 e2
  go_wp2_with fail
  rw [rounds_succ]
  go_wp2_with fail
  have HC3 := Lib.hid (HI.out 40 N q2 d2 hW2 (by omega) (by omega) hid2)
  refine HC3.out.mono ?_
  rintro e w' ⟨rfl, q3, d3, rfl, hW3, s3, e3⟩
  have s1'' := s1'.keep e3 (by omega)
  have s2' := s2.keep e3 (by omega)
  clear hW2 hid2 s1' s2 HC3 e3
  go_wp2_with fail
  refine wp_loop_rounds 3 ?_
  rw [rounds_succ]
  go_wp2_with fail
  refine wp_loop_rounds 2 ?_
  rw [rounds_succ]
  go_wp2_with fail
  have HC4 := Lib.hid (HS.out 0 20 40 q3 d3 hW3 (by omega) (by omega) (by omega) s1'' s2')
  refine HC4.out.mono ?_
  rintro e w' ⟨rfl, q4, d4, rfl, hW4, s4, e4⟩
  have s3' := s3.keep e4 (by omega)
  clear hW3 s1'' s2' s3 HC4 e4
  go_wp2_with fail
  rw [rounds_succ]
  go_wp2_with fail
  rw [rounds_succ]
  go_wp2_with fail
  refine wp_loop_rounds 1 ?_
  rw [rounds_succ]
  go_wp2_with fail
  have HC5 := Lib.hid (HS.out 0 40 N q4 d4 hW4 (by omega) (by omega) (by omega) s4 s3')
  refine HC5.out.mono ?_
  rintro e w' ⟨rfl, q5, d5, rfl, hW5, s5, e5⟩
  clear hW4 s3' s4 HC5 e5
  go_wp2_with fail
  rw [rounds_succ]
  go_wp2_with fail
  go_end0
  exact ⟨rfl, q5, d5, rfl, hW5, s5⟩

set_option maxHeartbeats 8000000 in
set_option maxRecDepth 100000 in
theorem stable_f (bx : Array Value) (κ : Int → Int) (V : Int → Prop) (blk off cap N : Nat) (d0 : Array Int) (w : World) (hI : InsC bx κ V blk off cap N w) (hS : SymC bx κ V blk off cap N w)
    (hW0 : Way V N d0) (hid0 : Idt N 0 d0) (h1 : 60 ≤ N) (h2 : N ≤ 60) :
    Calls Try.prog 39 #[.slice (some ⟨blk, off, none⟩) N cap, .int .i64 N, .func (.func 35) #[] bx] (rowW w blk off 0 d0) fun e w' => e = .returned (.tuple #[]) ∧ ∃ q d', w' = rowW w blk off q d' ∧ Way V N d' ∧ Seg κ 0 N d' := by
  have HI : Hid _ := hI
  have HS : Hid _ := hS
  clear hI hS
  go_enter Try.func39, Try.ntmps39
  go_wp2_with fail
  refine wp_loop_rounds 4 ?_
  rw [rounds_succ]
  go_wp2_with fail
  have HC1 := Lib.hid (HI.out 0 20 0 d0 hW0 (by omega) (by omega) hid0)
  refine HC1.out.mono ?_
  rintro e w' ⟨rfl, q1, d1, rfl, hW1, s1, e1⟩
  have hid1 := (hid0.on (show 0 ≤ 20 by omega)).keep e1 (Nat.le_refl _)
  clear hW0 hid0  HC1 e1
  go_wp2_with fail
  rw [rounds_succ]
  go_wp2_with fail
  have HC2 := Lib.hid (HI.out 20 40 q1 d1 hW1 (by omega) (by omega) hid1)
  refine HC2.out.mono ?_
  rintro e w' ⟨rfl, q2, d2, rfl, hW2, s2, e2⟩
  have s1' := s1.keep e2 (by omega)
  have hid2 := (hid1.on (show 20 ≤ 40 by omega)).keep e2 (Nat.le_refl _)
  clear hW1 hid1 s1 HC2 e2
  go_wp2_with fail
  rw [rounds_succ]
  go_wp2_with fail
  have HC3 := Lib.hid (HI.out 40 60 q2 d2 hW2 (by omega) (by omega) hid2)
  refine HC3.out.mono ?_
  rintro e w' ⟨rfl, q3, d3, rfl, hW3, s3, e3⟩
  have s1'' := s1'.keep e3 (by omega)
  have s2' := s2.keep e3 (by omega)
  have hid3 := (hid2.on (show 40 ≤ 60 by omega)).keep e3 (Nat.le_refl _)
  clear hW2 hid2 s1' s2 HC3 e3
  go_wp2_with fail
  rw [rounds_succ]
  go_wp2_with fail
  have HC4 := Lib.hid (HI.out 60 N q3 d3 hW3 (by omega) (by omega) hid3)
  refine HC4.out.mono ?_
  rintro e w' ⟨rfl, q4, d4, rfl, hW4, s4, e4⟩
  have s1''' := s1''.keep e4 (by omega)
  have s2'' := s2'.keep e4 (by omega)
  have s3' := s3.keep e4 (by omega)
  clear hW3 hid3 s1'' s2' s3 HC4 e4
  go_wp2_with fail
  refine wp_loop_rounds 3 ?_
  rw [rounds_succ]
  go_wp2_with fail
  refine wp_loop_rounds 2 ?_
  rw [rounds_succ]
  go_wp2_with fail
  have HC5 := Lib.hid (HS.out 0 20 40 q4 d4 hW4 (by omega) (by omega) (by omega) s1''' s2'')
  refine HC5.out.mono ?_
  rintro e w' ⟨rfl, q5, d5, rfl, hW5, s5, e5⟩
  have s3'' := s3'.keep e5 (by omega)
  have s4' := s4.keep e5 (by omega)
  clear hW4 s1''' s2'' s3' s4 HC5 e5
  go_wp2_with fail
  rw [rounds_succ]
  go_wp2_with fail
  rw [rounds_succ]
  go_wp2_with fail
  refine wp_loop_rounds 1 ?_
  rw [rounds_succ]
  go_wp2_with fail
  have HC6 := Lib.hid (HS.out 0 40 N q5 d5 hW5 (by omega) (by omega) (by omega) s5 (by rw [show N = 60 from by omega]; exact s3''))
  refine HC6.out.mono ?_
  rintro e w' ⟨rfl, q6, d6, rfl, hW6, s6, e6⟩
  have s4'' := s4'.keep e6 (by omega)
  clear hW5 s3'' s4' s5 HC6 e6
  go_wp2_with fail
  rw [rounds_succ]
  go_wp2_with fail
  go_end0
  exact ⟨rfl, q6, d6, rfl, hW6, s6⟩

set_option maxHeartbeats 8000000 in
set_option maxRecDepth 100000 in
theorem stable_g (bx : Array Value) (κ : Int → Int) (V : Int → Prop) (blk off cap N : Nat) (d0 : Array Int) (w : World) (hI : InsC bx κ V blk off cap N w) (hS : SymC bx κ V blk off cap N w)
    (hW0 : Way V N d0) (hid0 : Idt N 0 d0) (h1 : 60 < N) (h2 : N < 80) :
    Calls Try.prog 39 #[.slice (some ⟨blk, off, none⟩) N cap, .int .i64 N, .func (.func 35) #[] bx] (rowW w blk off 0 d0) fun e w' => e = .returned (.tuple #[]) ∧ ∃ q d', w' = rowW w blk off q d' ∧ Way V N d' ∧ Seg κ 0 N d' := by
  have HI : Hid _ := hI
  have HS : Hid _ := hS
  clear hI hS
  go_enter Try.func39, Try.ntmps39
  go_wp2_with fail
  refine wp_loop_rounds 4 ?_
  rw [rounds_succ]
  go_wp2_with fail
  have HC1 := Lib.hid (HI.out 0 20 0 d0 hW0 (by omega) (by omega) hid0)
  refine HC1.out.mono ?_
  rintro e w' ⟨rfl, q1, d1, rfl, hW1, s1, e1⟩
  have hid1 := (hid0.on (show 0 ≤ 20 by omega)).keep e1 (Nat.le_refl _)
  clear hW0 hid0  HC1 e1
  go_wp2_with fail
  rw [rounds_succ]
  go_wp2_with fail
  have HC2 := Lib.hid (HI.out 20 40 q1 d1 hW1 (by omega) (by omega) hid1)
  refine HC2.out.mono ?_
  rintro e w' ⟨rfl, q2, d2, rfl, hW2, s2, e2⟩
  have s1' := s1.keep e2 (by omega)
  have hid2 := (hid1.on (show 20 ≤ 40 by omega)).keep e2 (Nat.le_refl _)
  clear hW1 hid1 s1 HC2 e2
  go_wp2_with fail
  rw [rounds_succ]
  go_wp2_with fail
  have HC3 := Lib.hid (HI.out 40 60 q2 d2 hW2 (by omega) (by omega) hid2)
  refine HC3.out.mono ?_
  rintro e w' ⟨rfl, q3, d3, rfl, hW3, s3, e3⟩
  have s1'' := s1'.keep e3 (by omega)
  have s2' := s2.keep e3 (by omega)
  have hid3 := (hid2.on (show 40 ≤ 60 by omega)).keep e3 (Nat.le_refl _)
  clear hW2 hid2 s1' s2 HC3 e3
  go_wp2_with fail
  rw [rounds_succ]
  go_wp2_with fail
  have HC4 := Lib.hid (HI.out 60 N q3 d3 hW3 (by omega) (by omega) hid3)
  refine HC4.out.mono ?_
  rintro e w' ⟨rfl, q4, d4, rfl, hW4, s4, e4⟩
  have s1''' := s1''.keep e4 (by omega)
  have s2'' := s2'.keep e4 (by omega)
  have s3' := s3.keep e4 (by omega)
  clear hW3 hid3 s1'' s2' s3 HC4 e4
  go_wp2_with fail
  refine wp_loop_rounds 3 ?_
  rw [rounds_succ]
  go_wp2_with fail
  refine wp_loop_rounds 2 ?_
  rw [rounds_succ]
  go_wp2_with fail
  have HC5 := Lib.hid (HS.out 0 20 40 q4 d4 hW4 (by omega) (by omega) (by omega) s1''' s2'')
  refine HC5.out.mono ?_
  rintro e w' ⟨rfl, q5, d5, rfl, hW5, s5, e5⟩
  have s3'' := s3'.keep e5 (by omega)
  have s4' := s4.keep e5 (by omega)
  clear hW4 s1''' s2'' s3' s4 HC5 e5
  go_wp2_with fail
  rw [rounds_succ]
  go_wp2_with fail
  have HC6 := Lib.hid (HS.out 40 60 N q5 d5 hW5 (by omega) (by omega) (by omega) s3'' s4')
  refine HC6.out.mono ?_
  rintro e w' ⟨rfl, q6, d6, rfl, hW6, s6, e6⟩
  have s5' := s5.keep e6 (by omega)
  clear hW5 s3'' s4' s5 HC6 e6
  go_wp2_with fail
  rw [rounds_succ]
  go_wp2_with fail
  refine wp_loop_rounds 1 ?_
  rw [rounds_succ]
  go_wp2_with fail
  have HC7 := Lib.hid (HS.out 0 40 N q6 d6 hW6 (by omega) (by omega) (by omega) s5' s6)
  refine HC7.out.mono ?_
  rintro e w' ⟨rfl, q7, d7, rfl, hW7, s7, e7⟩
  clear hW6 s5' s6 HC7 e7
  go_wp2_with fail
  rw [rounds_succ]
  go_wp2_with fail
  go_end0
  exact ⟨rfl, q7, d7, rfl, hW7, s7⟩

/-- The stable sort of up to 64 numbers that stand at their own places. -/
theorem stable_any (bx : Array Value) (cf : Int → Int → Int) (κ : Int → Int) (V : Int → Prop) (blk off cap N : Nat) (d : Array Int) (w : World) (hH : Holds (Value.int .i64) w blk off d)
    (hκ : ∀ x y, cf x y < 0 ↔ κ y < κ x) (hN : d.size = N) (hC : CmpR bx cf V blk off N w) (hV : ∀ t, t < N → V d[t]!) (hid : ∀ t, t < N → d[t]! = (t : Int)) (h : N ≤ 64) :
    Calls Try.prog 39 #[.slice (some ⟨blk, off, none⟩) N cap, .int .i64 N, .func (.func 35) #[] bx] w fun e w' => e = .returned (.tuple #[]) ∧ ∃ q d', w' = rowW w blk off q d' ∧ Way V N d' ∧ Seg κ 0 N d' := by
  have hI : InsC bx κ V blk off cap N w := fun a b n d' hW h1 h2 h3 => (ins_row bx cf κ V blk off cap N a b n d d' w hH hκ hN hC (by omega) hW.1 hW.2 h1 h2 (fun t t1 t2 => h3 t t1 (by omega))).mono (fun _ _ h => stepP h)
  have hS : SymC bx κ V blk off cap N w := fun a m b n d' hW h1 h2 h3 h4 h5 => (sym_row bx cf κ V blk off cap N a m b n d d' w hH hκ hN hC (by omega) hW.1 hW.2 h1 h2 h3 h4 h5).mono (fun _ _ h => stepP h)
  have hW : Way V N d := ⟨hN, hV⟩
  have hi : Idt N 0 d := fun t _ h2 => hid t h2
  have e0 : w = rowW w blk off 0 d := rowW_start hH
  rw [show Calls Try.prog 39 #[.slice (some ⟨blk, off, none⟩) N cap, .int .i64 N, .func (.func 35) #[] bx] w = Calls Try.prog 39 #[.slice (some ⟨blk, off, none⟩) N cap, .int .i64 N, .func (.func 35) #[] bx] (rowW w blk off 0 d) from by rw [← e0]]
  by_cases c1 : N < 20
  · exact stable_a bx κ V blk off cap N d w hI hS hW hi c1
  · by_cases c2 : N ≤ 20
    · exact stable_b bx κ V blk off cap N d w hI hS hW hi (by omega) c2
    · by_cases c3 : N < 40
      · exact stable_c bx κ V blk off cap N d w hI hS hW hi (by omega) c3
      · by_cases c4 : N ≤ 40
        · exact stable_d bx κ V blk off cap N d w hI hS hW hi (by omega) c4
        · by_cases c5 : N < 60
          · exact stable_e bx κ V blk off cap N d w hI hS hW hi (by omega) c5
          · by_cases c6 : N ≤ 60
            · exact stable_f bx κ V blk off cap N d w hI hS hW hi (by omega) c6
            · exact stable_g bx κ V blk off cap N d w hI hS hW hi (by omega) (by omega)

theorem sort_any (bx : Array Value) (cf : Int → Int → Int) (κ : Int → Int) (V : Int → Prop) (blk off cap N : Nat) (d : Array Int) (w : World) (hH : Holds (Value.int .i64) w blk off d)
    (hκ : ∀ x y, cf x y < 0 ↔ κ y < κ x) (hN : d.size = N) (hC : CmpR bx cf V blk off N w) (hV : ∀ t, t < N → V d[t]!) (hid : ∀ t, t < N → d[t]! = (t : Int)) (h : N ≤ 64) :
    Calls Try.prog 34 #[.slice (some ⟨blk, off, none⟩) N cap, .func (.func 35) #[] bx] w fun e w' => e = .returned (.tuple #[]) ∧ ∃ q d', w' = rowW w blk off q d' ∧ Way V N d' ∧ Seg κ 0 N d' := by
  have HS := Lib.hid (stable_any bx cf κ V blk off cap N d w hH hκ hN hC hV hid h)
  clear hH hκ hC hV hid
  go_enter Try.func34, Try.ntmps34
  go_wp2_with fail
  refine HS.out.mono ?_
  rintro e w' ⟨rfl, q, d', rfl, h1, h2⟩
  go_wp2_with fail
  go_end0
  exact ⟨rfl, q, d', rfl, h1, h2⟩

end Go.Proofs.Ytbjjogbnndmmmaa
