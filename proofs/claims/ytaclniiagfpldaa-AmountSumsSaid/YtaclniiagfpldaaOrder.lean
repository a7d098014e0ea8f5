/-
  chattellaw01.AmountOrder's walk: sums and products do not hang on the order, and what is added and taken away again leaves what was there.
-/
import Derived.Test.YtaclniiagfpldaaAddMul
import Derived.Test.YtaclniiagfpldaaOwn
import Derived.Test.YtaclniiagfpldaaPartsA
namespace Go.Proofs.Ytaclniiagfpldaa
open Go.RowKit
set_option linter.unusedVariables false

/-- The numbers from one on, going round. -/
def turnK (l : List Int) (B k : Nat) : List Int := (List.range k).map fun t => l.getD ((B + t) % l.length) 0
theorem turnK_len (l : List Int) (B k : Nat) : (turnK l B k).length = k := by simp [turnK]
theorem turnK_succ (l : List Int) (B k : Nat) : turnK l B (k + 1) = turnK l B k ++ [l.getD ((B + k) % l.length) 0] := by simp [turnK, List.range_succ]
theorem turnK_at (l : List Int) (B : Nat) {k t : Nat} (ht : t < k) : (turnK l B k).getD t 0 = l.getD ((B + t) % l.length) 0 := by
  rw [List.getD_eq_getElem?_getD]; simp [turnK, ht]

theorem sumK_sumF (l : List Int) (f : Nat → Int) : ∀ k, (∀ t, t < k → l.getD t 0 = f t) → sumK l k = sumF f k
  | 0, _ => rfl
  | k + 1, h => by simp only [sumK, sumF]; rw [sumK_sumF l f k (fun t ht => h t (by omega)), h k (by omega)]
theorem sumF_shift (f : Nat → Int) (b : Nat) : ∀ k, sumF f (b + k) = sumF f b + sumF (fun t => f (b + t)) k
  | 0 => by simp [sumF]
  | k + 1 => by
    show sumF f (b + k) + f (b + k) = _
    simp only [sumF]; rw [sumF_shift f b k]; omega
theorem turn_sum (l : List Int) (B : Nat) (hB : B < l.length) : sumL (turnK l B l.length) = sumL l := by
  unfold sumL
  rw [turnK_len, sumK_sumF (turnK l B l.length) (fun t => l.getD ((B + t) % l.length) 0) l.length (fun t ht => turnK_at l B ht), sumK_sumF l (fun t => l.getD t 0) l.length (fun _ _ => rfl)]
  have e1 := sumF_shift (fun t => l.getD ((B + t) % l.length) 0) (l.length - B) B
  have e2 := sumF_shift (fun t => l.getD t 0) B (l.length - B)
  rw [show l.length - B + B = l.length from by omega] at e1
  rw [show B + (l.length - B) = l.length from by omega] at e2
  rw [e1, e2]
  have c1 : sumF (fun t => l.getD ((B + t) % l.length) 0) (l.length - B) = sumF (fun t => l.getD (B + t) 0) (l.length - B) :=
    sumF_congr _ (fun t ht => by rw [Nat.mod_eq_of_lt (by omega)])
  have c2 : sumF (fun t => l.getD ((B + (l.length - B + t)) % l.length) 0) B = sumF (fun t => l.getD t 0) B :=
    sumF_congr _ (fun t ht => by rw [show B + (l.length - B + t) = t + l.length from by omega, Nat.add_mod_right, Nat.mod_eq_of_lt (by omega)])
  rw [c1, c2]; omega

/-- The sum's contract, of a slice of the call's own. -/
theorem sum_own {w : World} {base : Nat} {v : Value} {l : List Int} (h : Own w base v l) (hi : InI l) (hn : l.length ≤ 1000) :
    Calls Try.prog 14 #[v] w fun e w' => e = .returned (.tuple #[.int .i64 (fitN (sumL l)), .int .i64 (fitE (sumL l))]) ∧ w = w' := by
  rcases h.reads with ⟨rfl, rfl⟩ | ⟨g, cap, rfl, _, _, hr⟩
  · exact sum_nil none 0 w
  · exact sum_row l g 0 cap w hr hi (by omega)

theorem order_long (x y fr : Int) (a : Option Addr) (len cap : Nat) (w : World) (hl : 40 < len) (hm : len ≤ 9223372036854775807) :
    Calls Try.prog 6 #[.agg #[.int .i64 x, .int .i64 y], .slice a len cap, .int .i64 fr] w fun e w' => e = .returned (.bool true) ∧ Below w.heap.size w w' := by
  go_enter Try.func6, Try.ntmps6
  go_wp2_with (go_at_call 9; refine (awake_any _).mono ?_; rintro e w' ⟨rfl, hb⟩)
  go_ret
  have hb' := ‹Below _ _ _›
  exact ⟨rfl, (Below.alloc (Below.refl w.heap.size w) (Nat.le_refl _) _).trans (hb'.mono (by simp))⟩

/-- What the two numbers do. -/
structure TwoC (x y A E M G : Int) : Prop where
  add1 : ∀ w, Calls Try.prog 11 #[.int .i64 x, .int .i64 y] w fun e w' => e = .returned (.tuple #[.int .i64 A, .int .i64 E]) ∧ w = w'
  add2 : ∀ w, Calls Try.prog 11 #[.int .i64 y, .int .i64 x] w fun e w' => e = .returned (.tuple #[.int .i64 A, .int .i64 E]) ∧ w = w'
  mul1 : ∀ w, Calls Try.prog 13 #[.int .i64 x, .int .i64 y] w fun e w' => e = .returned (.tuple #[.int .i64 M, .int .i64 G]) ∧ w = w'
  mul2 : ∀ w, Calls Try.prog 13 #[.int .i64 y, .int .i64 x] w fun e w' => e = .returned (.tuple #[.int .i64 M, .int .i64 G]) ∧ w = w'

theorem two_c (x y : Int) (x0 : -9223372036854775808 ≤ x) (x1 : x ≤ 9223372036854775807) (y0 : -9223372036854775808 ≤ y) (y1 : y ≤ 9223372036854775807) :
    TwoC x y (fitN (x + y)) (fitE (x + y)) (fitN (x * y)) (fitE (x * y)) := by
  refine ⟨fun w => add_any x y w x0 x1 y0 y1, fun w => ?_, fun w => mul_any x y w x0 x1 y0 y1, fun w => ?_⟩
  · rw [Int.add_comm x y]; exact add_any y x w y0 y1 x0 x1
  · rw [Int.mul_comm x y]; exact mul_any y x w y0 y1 x0 x1

set_option maxHeartbeats 4000000 in
set_option maxRecDepth 100000 in
theorem order_core (x y fr A E M G S F : Int) (l : List Int) (a : Option Addr) (B cap : Nat) (w : World) (h40 : l.length ≤ 40) (HT : TwoC x y A E M G)
    (hrow : 0 < l.length → ∃ b o, a = some ⟨b, o, none⟩ ∧ b < w.heap.size ∧ Row w b o l) (hB : 0 < l.length → B < l.length ∧ ((fr.tmod l.length + l.length).tmod l.length) = B) (hi : InI l)
    (hs : ∀ w', Below w.heap.size w w' → Calls Try.prog 14 #[.slice a l.length cap] w' fun e w'' => e = .returned (.tuple #[.int .i64 S, .int .i64 F]) ∧ w' = w'')
    (ht : ∀ w' base v, Own w' base v (turnK l B l.length) → Calls Try.prog 14 #[v] w' fun e w'' => e = .returned (.tuple #[.int .i64 S, .int .i64 F]) ∧ w' = w'')
    (hneg : E = 0 → y ≠ -9223372036854775808 → (∀ w', Calls Try.prog 12 #[.int .i64 y] w' fun e w'' => e = .returned (.tuple #[.int .i64 (-y), .int .i64 0]) ∧ w' = w'') ∧
      ∀ w' : World, Calls Try.prog 14 #[.slice (some ⟨w'.heap.size, 0, none⟩) 2 2] (w'.alloc (.cells #[.int .i64 A, .int .i64 (-y)] 3)) fun e w'' => e = .returned (.tuple #[.int .i64 x, .int .i64 0]) ∧ (w'.alloc (.cells #[.int .i64 A, .int .i64 (-y)] 3)) = w'') :
    Calls Try.prog 6 #[.agg #[.int .i64 x, .int .i64 y], .slice a l.length cap, .int .i64 fr] w fun e w' => e = .returned (.bool true) ∧ Below w.heap.size w w' := by
  have HRow : Hid _ := hrow
  have HB : Hid _ := hB
  have HI : Hid _ := hi
  have HS : Hid _ := hs
  have HTn : Hid _ := ht
  have HNg : Hid _ := hneg
  obtain ⟨n, hn⟩ : ∃ n, n = l.length := ⟨_, rfl⟩
  have HN := Lib.hid hn
  rw [← hn] at h40 ⊢
  clear hrow hB hi hs ht hneg hn
  go_enter Try.func6, Try.ntmps6
  go_wp2_with fail
  refine (HT.add1 _).mono ?_
  rintro e w' ⟨rfl, rfl⟩
  go_wp2_with fail
  refine (HT.add2 _).mono ?_
  rintro e w' ⟨rfl, rfl⟩
  go_wp2_with fail
  refine (HT.mul1 _).mono ?_
  rintro e w' ⟨rfl, rfl⟩
  go_wp2_with fail
  refine (HT.mul2 _).mono ?_
  rintro e w' ⟨rfl, rfl⟩
  have q1 : (A != A) = false := by simp
  have q2 : (E != E) = false := by simp
  have q3 : (M != M) = false := by simp
  have q4 : (G != G) = false := by simp
  go_wp2_with fail
  obtain ⟨i0, hi0, hz0, hz1, hz2⟩ := info_parts Try.infoI
  go_loopw [16, 17] (fun v vi wx => ∃ k : Nat, k ≤ n ∧ vi = .int .i64 k ∧ Own wx (w.heap.size + 1) v (turnK l B k) ∧ Below (w.heap.size + 1) (w.alloc (.cells #[.int .i64 x, .int .i64 y] 46)) wx) (fun _ vi _ => n - (intOf vi).toNat)
  case atStart => exact ⟨0, Nat.zero_le _, rfl, Own.nil _ _, Below.refl _ _⟩
  case round =>
    obtain ⟨k, hk, rfl, hown, hbel⟩ := hrel
    have hsz : w.heap.size + 1 ≤ wr.heap.size := by have := hbel.size; simpa using this
    have bx0 : wr.cell? ⟨w.heap.size, 0, none⟩ = some (.int .i64 x) := by rw [hbel.cell (p := ⟨w.heap.size, 0, none⟩) (by show w.heap.size < w.heap.size + 1; omega)]; simp
    have bx1 : wr.cell? ⟨w.heap.size, 1, none⟩ = some (.int .i64 y) := by rw [hbel.cell (p := ⟨w.heap.size, 1, none⟩) (by show w.heap.size < w.heap.size + 1; omega)]; simp
    by_cases hlt : k < n
    · obtain ⟨b, o, ha, hb, hr⟩ := HRow.out (by have := HN.out; omega)
      subst ha
      obtain ⟨hBn, hBe⟩ := HB.out (by have := HN.out; omega)
      rw [← HN.out] at hBn hBe
      obtain ⟨P, hP⟩ : ∃ P, fr.tmod (n : Int) = P := ⟨_, rfl⟩
      have hP0 : -(n : Int) < P := by rw [← hP]; have := Int.lt_tmod_of_pos fr (show (0 : Int) < (n : Int) by omega); omega
      have hP1 : P < (n : Int) := by rw [← hP]; exact Int.tmod_lt_of_pos fr (by omega)
      rw [hP] at hBe
      have hQ : (P + (n : Int)) % (n : Int) = (B : Int) := by rw [← hBe, Int.tmod_eq_emod_of_nonneg (by omega)]
      obtain ⟨C, hC⟩ : ∃ C, C = (B + k) % n := ⟨_, rfl⟩
      have hCn : C < n := by rw [hC]; exact Nat.mod_lt _ (by omega)
      have hR : ((B : Int) + (k : Int)) % (n : Int) = (C : Int) := by rw [hC]; rfl
      obtain ⟨X, hX⟩ : ∃ X, X = l.getD C 0 := ⟨_, rfl⟩
      have hcx : wr.cell? ⟨b, o + C, none⟩ = some (.int .i64 X) := by
        rw [hbel.cell (p := ⟨b, o + C, none⟩) (by show b < w.heap.size + 1; omega), World.cell?_alloc_past _ _ _ hb, hX]
        exact hr C (by have := HN.out; omega)
      have hnz : ((n : Int) == 0) = false := by simp; omega
      have hlen := turnK_len l B k
      have HX := Lib.hid hX
      have HCe := Lib.hid hC
      have HLen := Lib.hid hlen
      have h63 : (turnK l B k).length + 1 ≤ maxLen := by unfold maxLen; omega
      have hby : ((turnK l B k).length + 1) * 8 ≤ 140737488355328 := by omega
      have HBel := Lib.hid hbel
      clear hX hC hlen hBe hr hbel bx0 bx1
      go_wp2_with (at_builtin; refine wpList_append_own _ rfl _ _ 22 rfl (w.heap.size + 1) 3 i0 (.int .i64 0) 1 8 Try.underlying22 hi0 hz0 hz1 hz2 rfl (by decide) _ _ _ rfl (hown.alloc _) ⟨wr.heap.size, 0, none⟩ 1 1 [.int .i64 X] rfl rfl (one_cell wr X _) (one_one X) h63 hby (by simp; omega) ?_; intro v' w1 hown' hgrow _)
      have HO := Lib.hid (own_snoc hown')
      have HB2 := Lib.hid (below_append HBel.out hown (Nat.le_refl _) hsz hgrow)
      clear hown' hgrow hown
      go_wp2
      go_roundw
      case rel => exact ⟨k + 1, by omega, by go_num, by rw [turnK_succ, ← HN.out, ← HCe.out, ← HX.out]; exact HO.out, HB2.out⟩
      case measure => simp [intOf]; omega
    · obtain rfl : n = k := by omega
      have hbw : Below w.heap.size w wr := (Below.alloc (Below.refl w.heap.size w) (Nat.le_refl _) _).trans (hbel.mono (by omega))
      have HSl := Lib.hid (HS.out wr hbw)
      have HTl := Lib.hid (HTn.out wr _ _ (by rw [← HN.out]; exact hown))
      rw [← HN.out] at HSl
      have HBw := Lib.hid hbw
      have q5 : (S != S) = false := by simp
      have q6 : (F != F) = false := by simp
      clear hown hbel hbw
      go_wp2_with fail
      refine HSl.out.mono ?_
      rintro e w' ⟨rfl, rfl⟩
      go_wp2_with fail
      refine HTl.out.mono ?_
      rintro e w' ⟨rfl, rfl⟩
      by_cases hE : E = 0
      · by_cases hy : y = -9223372036854775808
        · have b1 : (E != 0) = false := by rw [hE]; rfl
          have b2 : (y == -9223372036854775808) = true := by simpa using hy
          have HE := Lib.hid hE
          have HY := Lib.hid hy
          clear hE hy
          go_wp2_with (go_at_call 9; refine (awake_any _).mono ?_; rintro e w' ⟨rfl, hb⟩)
          go_ret
          have hb' := ‹Below _ _ _›
          exact ⟨rfl, HBw.out.trans (hb'.mono HBw.out.size)⟩
        · have b1 : (E != 0) = false := by rw [hE]; rfl
          have b2 : (y == -9223372036854775808) = false := by simpa using hy
          obtain ⟨g1, g2⟩ := HNg.out hE hy
          have HG1 := Lib.hid g1
          have HG2 := Lib.hid g2
          clear g1 g2 hE hy
          go_wp2_with fail
          refine (HG1.out _).mono ?_
          rintro e w' ⟨rfl, rfl⟩
          go_wp2_with fail
          refine (HG2.out _).mono ?_
          rintro e w' ⟨rfl, rfl⟩
          have hxx : (x == x) = true := by simp
          have hlt2 : w.heap.size < wr.heap.size := by omega
          have bx2 : ∀ ob, (wr.alloc ob).cell? ⟨w.heap.size, 0, none⟩ = some (.int .i64 x) := fun ob => by rw [World.cell?_alloc_past _ _ _ hlt2]; exact bx0
          go_wp2_with (go_at_call 9; refine (awake_any _).mono ?_; rintro e w' ⟨rfl, hb⟩)
          go_ret
          have hb' := ‹Below _ _ _›
          exact ⟨rfl, HBw.out.trans ((Below.alloc (Below.refl wr.heap.size wr) (Nat.le_refl _) _ |>.mono HBw.out.size).trans (hb'.mono (by have := HBw.out.size; simp; omega)))⟩
      · have b1 : (E != 0) = true := by simpa using hE
        clear hE
        go_wp2_with (go_at_call 9; refine (awake_any _).mono ?_; rintro e w' ⟨rfl, hb⟩)
        go_ret
        have hb' := ‹Below _ _ _›
        exact ⟨rfl, HBw.out.trans (hb'.mono HBw.out.size)⟩

end Go.Proofs.Ytaclniiagfpldaa
