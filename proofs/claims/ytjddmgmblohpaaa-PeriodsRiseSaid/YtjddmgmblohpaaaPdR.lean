/-
  chattellaw13.PeriodsRise: its walk.
-/
import Derived.Test.YtjddmgmblohpaaaPdL
import Derived.Deep.Cut
namespace Go.Proofs.Ytjddmgmblohpaaa
open Go.RowKit Go.Lib
set_option linter.unusedVariables false
set_option linter.unusedSimpArgs false

set_option maxRecDepth 100000 in
set_option maxHeartbeats 4000000 in
theorem rise_no (w : World) (s n a b : Int) (h : s < 1 ∨ 400 < s) : Calls Try.prog 7 #[.int .i64 s, .int .i64 n, .agg #[.int .i64 a, .int .i64 b]] w fun e w' => e = .returned (.bool true) ∧ Below w.heap.size w w' := by
  have HBX := Lib.hid (newF w (.cells #[.int .i64 a, .int .i64 b] 45))
  have k0 : (w.alloc (.cells #[.int .i64 a, .int .i64 b] 45)).cell? ⟨w.heap.size, 0, none⟩ = some (.int .i64 a) := (World.cell?_alloc_at _ _ _ _ rfl).trans rfl
  have k1 : (w.alloc (.cells #[.int .i64 a, .int .i64 b] 45)).cell? ⟨w.heap.size, 1, none⟩ = some (.int .i64 b) := (World.cell?_alloc_at _ _ _ _ rfl).trans rfl
  have HK := Lib.hid (And.intro k0 k1)
  have hlt : w.heap.size < (w.alloc (.cells #[.int .i64 a, .int .i64 b] 45)).heap.size := by simp
  have HLt := Lib.hid hlt
  clear k0 k1 hlt
  have HA := Lib.hid (fun w' => awake13_any w')
  have HN := Lib.hid (new_no (w.alloc (.cells #[.int .i64 a, .int .i64 b] 45)) s h)
  by_cases c : s < 20
  · clear h
    go_enter Try.func7, Try.ntmps7
    go_wp2_with fail
    generalize w.alloc (.cells #[.int .i64 a, .int .i64 b] 45) = W at *
    refine HN.out.mono ?_
    rintro e w1 ⟨rfl, rfl⟩
    go_wp2_with fail
    refine (HA.out _).mono ?_
    rintro e wz ⟨rfl, hbz⟩
    have HBZ := Lib.hid (onF HBX.out hbz)
    clear hbz
    go_wp2_with fail
    go_ret
    exact ⟨rfl, HBZ.out⟩
  · have c2 : 400 < s := by omega
    clear h
    go_enter Try.func7, Try.ntmps7
    go_wp2_with fail
    generalize w.alloc (.cells #[.int .i64 a, .int .i64 b] 45) = W at *
    refine HN.out.mono ?_
    rintro e w1 ⟨rfl, rfl⟩
    go_wp2_with fail
    refine (HA.out _).mono ?_
    rintro e wz ⟨rfl, hbz⟩
    have HBZ := Lib.hid (onF HBX.out hbz)
    clear hbz
    go_wp2_with fail
    go_ret
    exact ⟨rfl, HBZ.out⟩
set_option maxRecDepth 100000 in
set_option maxHeartbeats 4000000 in
theorem rise_small (w : World) (s : Nat) (n a b : Int) (h1 : 1 ≤ s) (h : s < 20) : Calls Try.prog 7 #[.int .i64 (s : Nat), .int .i64 n, .agg #[.int .i64 a, .int .i64 b]] w fun e w' => e = .returned (.bool true) ∧ Below w.heap.size w w' := by
  have HBX := Lib.hid (newF w (.cells #[.int .i64 a, .int .i64 b] 45))
  have k0 : (w.alloc (.cells #[.int .i64 a, .int .i64 b] 45)).cell? ⟨w.heap.size, 0, none⟩ = some (.int .i64 a) := (World.cell?_alloc_at _ _ _ _ rfl).trans rfl
  have k1 : (w.alloc (.cells #[.int .i64 a, .int .i64 b] 45)).cell? ⟨w.heap.size, 1, none⟩ = some (.int .i64 b) := (World.cell?_alloc_at _ _ _ _ rfl).trans rfl
  have HK := Lib.hid (And.intro k0 k1)
  have hlt : w.heap.size < (w.alloc (.cells #[.int .i64 a, .int .i64 b] 45)).heap.size := by simp
  have HLt := Lib.hid hlt
  clear k0 k1 hlt
  have HA := Lib.hid (fun w' => awake13_any w')
  have HN := Lib.hid (new_yes (w.alloc (.cells #[.int .i64 a, .int .i64 b] 45)) s h1 (by omega))
  go_enter Try.func7, Try.ntmps7
  go_wp2_with fail
  generalize w.alloc (.cells #[.int .i64 a, .int .i64 b] 45) = W at *
  refine HN.out.mono ?_
  rintro e w1 ⟨rfl, hp, hb⟩
  have HB1 := Lib.hid (onF HBX.out hb)
  have HP1 := Lib.hid hp
  have HK1 := Lib.hid (And.intro (keepF hb HK.out.1) (keepF hb HK.out.2))
  clear hp hb HN HK
  go_wp2_with fail
  refine (HA.out _).mono ?_
  rintro e wz ⟨rfl, hbz⟩
  have HBZ := Lib.hid (onF HB1.out hbz)
  clear hbz
  go_wp2_with fail
  go_ret
  exact ⟨rfl, HBZ.out⟩
set_option maxRecDepth 100000 in
set_option maxHeartbeats 4000000 in
theorem rise_n (w : World) (s : Nat) (n a b : Int) (h20 : 20 ≤ s) (h4 : s ≤ 400) (h : n < 0 ∨ 30 < n) : Calls Try.prog 7 #[.int .i64 (s : Nat), .int .i64 n, .agg #[.int .i64 a, .int .i64 b]] w fun e w' => e = .returned (.bool true) ∧ Below w.heap.size w w' := by
  have HBX := Lib.hid (newF w (.cells #[.int .i64 a, .int .i64 b] 45))
  have k0 : (w.alloc (.cells #[.int .i64 a, .int .i64 b] 45)).cell? ⟨w.heap.size, 0, none⟩ = some (.int .i64 a) := (World.cell?_alloc_at _ _ _ _ rfl).trans rfl
  have k1 : (w.alloc (.cells #[.int .i64 a, .int .i64 b] 45)).cell? ⟨w.heap.size, 1, none⟩ = some (.int .i64 b) := (World.cell?_alloc_at _ _ _ _ rfl).trans rfl
  have HK := Lib.hid (And.intro k0 k1)
  have hlt : w.heap.size < (w.alloc (.cells #[.int .i64 a, .int .i64 b] 45)).heap.size := by simp
  have HLt := Lib.hid hlt
  clear k0 k1 hlt
  have HA := Lib.hid (fun w' => awake13_any w')
  have HN := Lib.hid (new_yes (w.alloc (.cells #[.int .i64 a, .int .i64 b] 45)) s (by omega) h4)
  by_cases c : n < 0
  · clear h
    go_enter Try.func7, Try.ntmps7
    go_wp2_with fail
    generalize w.alloc (.cells #[.int .i64 a, .int .i64 b] 45) = W at *
    refine HN.out.mono ?_
    rintro e w1 ⟨rfl, hp, hb⟩
    have HB1 := Lib.hid (onF HBX.out hb)
    have HP1 := Lib.hid hp
    have HK1 := Lib.hid (And.intro (keepF hb HK.out.1) (keepF hb HK.out.2))
    clear hp hb HN HK
    go_wp2_with fail
    refine (HA.out _).mono ?_
    rintro e wz ⟨rfl, hbz⟩
    have HBZ := Lib.hid (onF HB1.out hbz)
    clear hbz
    go_wp2_with fail
    go_ret
    exact ⟨rfl, HBZ.out⟩
  · have c2 : 30 < n := by omega
    clear h
    go_enter Try.func7, Try.ntmps7
    go_wp2_with fail
    generalize w.alloc (.cells #[.int .i64 a, .int .i64 b] 45) = W at *
    refine HN.out.mono ?_
    rintro e w1 ⟨rfl, hp, hb⟩
    have HB1 := Lib.hid (onF HBX.out hb)
    have HP1 := Lib.hid hp
    have HK1 := Lib.hid (And.intro (keepF hb HK.out.1) (keepF hb HK.out.2))
    clear hp hb HN HK
    go_wp2_with fail
    refine (HA.out _).mono ?_
    rintro e wz ⟨rfl, hbz⟩
    have HBZ := Lib.hid (onF HB1.out hbz)
    clear hbz
    go_wp2_with fail
    go_ret
    exact ⟨rfl, HBZ.out⟩
set_option maxRecDepth 100000 in
set_option maxHeartbeats 8000000 in
theorem rise_a (w : World) (s n : Nat) (a b : Int) (h20 : 20 ≤ s) (h4 : s ≤ 400) (hn : n ≤ 30) (c : a < 0 ∨ 73048 < a) : Calls Try.prog 7 #[.int .i64 (s : Nat), .int .i64 (n : Nat), .agg #[.int .i64 a, .int .i64 b]] w fun e w' => e = .returned (.bool true) ∧ Below w.heap.size w w' := by
  have HBX := Lib.hid (newF w (.cells #[.int .i64 a, .int .i64 b] 45))
  have k0 : (w.alloc (.cells #[.int .i64 a, .int .i64 b] 45)).cell? ⟨w.heap.size, 0, none⟩ = some (.int .i64 a) := (World.cell?_alloc_at _ _ _ _ rfl).trans rfl
  have k1 : (w.alloc (.cells #[.int .i64 a, .int .i64 b] 45)).cell? ⟨w.heap.size, 1, none⟩ = some (.int .i64 b) := (World.cell?_alloc_at _ _ _ _ rfl).trans rfl
  have HK := Lib.hid (And.intro k0 k1)
  have hlt : w.heap.size < (w.alloc (.cells #[.int .i64 a, .int .i64 b] 45)).heap.size := by simp
  have HLt := Lib.hid hlt
  clear k0 k1 hlt
  have HN := Lib.hid (new_yes (w.alloc (.cells #[.int .i64 a, .int .i64 b] 45)) s (by omega) h4)
  have HA := Lib.hid (fun w' => awake13_any w')
  have HLk := Lib.hid (fun w' j hk => lock_any w' (b := (w.alloc (.cells #[.int .i64 a, .int .i64 b] 45)).heap.size) (s := s) (l := j) hk (by omega) h4 j 73048)
  have HUp := Lib.hid (fun l hl => lkE_up (s := s) (l := l) (by omega) h4 hl)
  have HBa := Lib.hid (fun w' hk => book_any w' (b := (w.alloc (.cells #[.int .i64 a, .int .i64 b] 45)).heap.size) (s := s) (l := n) hk (by omega) h4 a)
  have HBb := Lib.hid (fun w' hk => book_any w' (b := (w.alloc (.cells #[.int .i64 a, .int .i64 b] 45)).heap.size) (s := s) (l := n) hk (by omega) h4 b)
  have HOa := Lib.hid (fun w' hk => of_any w' (b := (w.alloc (.cells #[.int .i64 a, .int .i64 b] 45)).heap.size) (s := s) (l := n) hk (by omega) h4 a)
  have HOb := Lib.hid (fun w' hk => of_any w' (b := (w.alloc (.cells #[.int .i64 a, .int .i64 b] 45)).heap.size) (s := s) (l := n) hk (by omega) h4 b)
  have ea := bk_no (s := s) (l := n) c
  rw [ea] at HBa
  generalize bkE s n b = u at *
  generalize bkV s n a = x at *
  generalize bkV s n b = y at *
  clear ea HOa HOb c
  go_enter Try.func7, Try.ntmps7
  go_wp2_with fail
  generalize w.alloc (.cells #[.int .i64 a, .int .i64 b] 45) = W at *
  refine HN.out.mono ?_
  rintro e w1 ⟨rfl, hp, hb⟩
  have HB1 := Lib.hid (onF HBX.out hb)
  have HP1 := Lib.hid hp
  have HK1 := Lib.hid (And.intro (keepF hb HK.out.1) (keepF hb HK.out.2))
  clear hp hb HN HK
  go_wp2_with fail
  go_loopw [9] (fun vi wx => ∃ j : Nat, j ≤ n ∧ vi = .int .i64 (j : Nat) ∧ PdV wx W.heap.size s j ∧ wx.cell? ⟨w.heap.size, 0, none⟩ = some (.int .i64 a) ∧ wx.cell? ⟨w.heap.size, 1, none⟩ = some (.int .i64 b) ∧ Below w.heap.size w wx) (fun vi _ => n - (RowKit.intOf vi).toNat)
  case atStart => exact ⟨0, by omega, rfl, HP1.out, HK1.out.1, HK1.out.2, HB1.out⟩
  case round =>
    obtain ⟨j, hj, rfl, hpj, k0, k1, hbj⟩ := hrel
    have HP1 := Lib.hid hpj
    have HB1 := Lib.hid hbj
    have HJ := Lib.hid hj
    by_cases c1 : j < n
    · have j1 : (j : Int) < (n : Int) := by omega
      have HC := Lib.hid c1
      have HL := HLk.out wr j hpj
      rw [HUp.out j (by omega), if_pos rfl] at HL
      have HL := Lib.hid HL
      have HK := Lib.hid (And.intro k0 k1)
      clear hpj hbj k0 k1 c1 hj
      go_wp2_with fail
      refine HL.out.mono ?_
      rintro e w2 ⟨rfl, hp, ho⟩
      have HP2 := Lib.hid hp
      have HB2 := Lib.hid (HB1.out.trans (ho.below (n := w.heap.size) (fun k e => by have := HLt.out; omega) HB1.out.size))
      have HK2 := Lib.hid (And.intro (ho.cell HK.out.1 (fun e => by have := HLt.out; omega)) (ho.cell HK.out.2 (fun e => by have := HLt.out; omega)))
      clear hp ho
      go_wp2_with fail
      go_roundw
      case rel => exact ⟨j + 1, HC.out, by go_num, HP2.out, HK2.out.1, HK2.out.2, HB2.out⟩
      case measure => have := HC.out; simp [RowKit.intOf]; omega
    · obtain rfl : j = n := by omega
      have j1 : ¬ (j : Int) < (j : Int) := by omega
      clear hpj hbj c1 hj HLk HUp
      go_wp2_with fail
      refine (HBa.out _ HP1.out).mono ?_
      rintro e w2 ⟨rfl, hb⟩
      have HB2 := Lib.hid (onF HB1.out hb)
      have HP2 := Lib.hid (HP1.out.keep hb)
      have k0 := keepF hb k0
      have k1 := keepF hb k1
      clear hb
      go_wp2_with fail
      refine (HBb.out _ HP2.out).mono ?_
      rintro e w3 ⟨rfl, hb⟩
      have HB3 := Lib.hid (onF HB2.out hb)
      have HP3 := Lib.hid (HP2.out.keep hb)
      have k0 := keepF hb k0
      have k1 := keepF hb k1
      clear hb
      go_wp2_with fail
      refine (HA.out _).mono ?_
      rintro e wz ⟨rfl, hbz⟩
      have HBZ := Lib.hid (onF HB3.out hbz)
      clear hbz
      go_wp2_with fail
      go_ret
      exact ⟨rfl, HBZ.out⟩
set_option maxRecDepth 100000 in
set_option maxHeartbeats 8000000 in
theorem rise_b (w : World) (s n : Nat) (a b : Int) (h20 : 20 ≤ s) (h4 : s ≤ 400) (hn : n ≤ 30) (a0 : 0 ≤ a) (a1 : a ≤ 73048) (c : b < 0 ∨ 73048 < b) : Calls Try.prog 7 #[.int .i64 (s : Nat), .int .i64 (n : Nat), .agg #[.int .i64 a, .int .i64 b]] w fun e w' => e = .returned (.bool true) ∧ Below w.heap.size w w' := by
  have HBX := Lib.hid (newF w (.cells #[.int .i64 a, .int .i64 b] 45))
  have k0 : (w.alloc (.cells #[.int .i64 a, .int .i64 b] 45)).cell? ⟨w.heap.size, 0, none⟩ = some (.int .i64 a) := (World.cell?_alloc_at _ _ _ _ rfl).trans rfl
  have k1 : (w.alloc (.cells #[.int .i64 a, .int .i64 b] 45)).cell? ⟨w.heap.size, 1, none⟩ = some (.int .i64 b) := (World.cell?_alloc_at _ _ _ _ rfl).trans rfl
  have HK := Lib.hid (And.intro k0 k1)
  have hlt : w.heap.size < (w.alloc (.cells #[.int .i64 a, .int .i64 b] 45)).heap.size := by simp
  have HLt := Lib.hid hlt
  clear k0 k1 hlt
  have HN := Lib.hid (new_yes (w.alloc (.cells #[.int .i64 a, .int .i64 b] 45)) s (by omega) h4)
  have HA := Lib.hid (fun w' => awake13_any w')
  have HLk := Lib.hid (fun w' j hk => lock_any w' (b := (w.alloc (.cells #[.int .i64 a, .int .i64 b] 45)).heap.size) (s := s) (l := j) hk (by omega) h4 j 73048)
  have HUp := Lib.hid (fun l hl => lkE_up (s := s) (l := l) (by omega) h4 hl)
  have HBa := Lib.hid (fun w' hk => book_any w' (b := (w.alloc (.cells #[.int .i64 a, .int .i64 b] 45)).heap.size) (s := s) (l := n) hk (by omega) h4 a)
  have HBb := Lib.hid (fun w' hk => book_any w' (b := (w.alloc (.cells #[.int .i64 a, .int .i64 b] 45)).heap.size) (s := s) (l := n) hk (by omega) h4 b)
  have HOa := Lib.hid (fun w' hk => of_any w' (b := (w.alloc (.cells #[.int .i64 a, .int .i64 b] 45)).heap.size) (s := s) (l := n) hk (by omega) h4 a)
  have HOb := Lib.hid (fun w' hk => of_any w' (b := (w.alloc (.cells #[.int .i64 a, .int .i64 b] 45)).heap.size) (s := s) (l := n) hk (by omega) h4 b)
  have ea := bk_no (s := s) (l := n) c
  rw [ea] at HBb
  have eb := (bk_in (s := s) (l := n) (by omega) h4 (by omega) a0 a1).e
  rw [eb] at HBa
  clear eb
  generalize bkV s n a = x at *
  generalize bkV s n b = y at *
  clear ea HOa HOb c
  go_enter Try.func7, Try.ntmps7
  go_wp2_with fail
  generalize w.alloc (.cells #[.int .i64 a, .int .i64 b] 45) = W at *
  refine HN.out.mono ?_
  rintro e w1 ⟨rfl, hp, hb⟩
  have HB1 := Lib.hid (onF HBX.out hb)
  have HP1 := Lib.hid hp
  have HK1 := Lib.hid (And.intro (keepF hb HK.out.1) (keepF hb HK.out.2))
  clear hp hb HN HK
  go_wp2_with fail
  go_loopw [9] (fun vi wx => ∃ j : Nat, j ≤ n ∧ vi = .int .i64 (j : Nat) ∧ PdV wx W.heap.size s j ∧ wx.cell? ⟨w.heap.size, 0, none⟩ = some (.int .i64 a) ∧ wx.cell? ⟨w.heap.size, 1, none⟩ = some (.int .i64 b) ∧ Below w.heap.size w wx) (fun vi _ => n - (RowKit.intOf vi).toNat)
  case atStart => exact ⟨0, by omega, rfl, HP1.out, HK1.out.1, HK1.out.2, HB1.out⟩
  case round =>
    obtain ⟨j, hj, rfl, hpj, k0, k1, hbj⟩ := hrel
    have HP1 := Lib.hid hpj
    have HB1 := Lib.hid hbj
    have HJ := Lib.hid hj
    by_cases c1 : j < n
    · have j1 : (j : Int) < (n : Int) := by omega
      have HC := Lib.hid c1
      have HL := HLk.out wr j hpj
      rw [HUp.out j (by omega), if_pos rfl] at HL
      have HL := Lib.hid HL
      have HK := Lib.hid (And.intro k0 k1)
      clear hpj hbj k0 k1 c1 hj
      go_wp2_with fail
      refine HL.out.mono ?_
      rintro e w2 ⟨rfl, hp, ho⟩
      have HP2 := Lib.hid hp
      have HB2 := Lib.hid (HB1.out.trans (ho.below (n := w.heap.size) (fun k e => by have := HLt.out; omega) HB1.out.size))
      have HK2 := Lib.hid (And.intro (ho.cell HK.out.1 (fun e => by have := HLt.out; omega)) (ho.cell HK.out.2 (fun e => by have := HLt.out; omega)))
      clear hp ho
      go_wp2_with fail
      go_roundw
      case rel => exact ⟨j + 1, HC.out, by go_num, HP2.out, HK2.out.1, HK2.out.2, HB2.out⟩
      case measure => have := HC.out; simp [RowKit.intOf]; omega
    · obtain rfl : j = n := by omega
      have j1 : ¬ (j : Int) < (j : Int) := by omega
      clear hpj hbj c1 hj HLk HUp
      go_wp2_with fail
      refine (HBa.out _ HP1.out).mono ?_
      rintro e w2 ⟨rfl, hb⟩
      have HB2 := Lib.hid (onF HB1.out hb)
      have HP2 := Lib.hid (HP1.out.keep hb)
      have k0 := keepF hb k0
      have k1 := keepF hb k1
      clear hb
      go_wp2_with fail
      refine (HBb.out _ HP2.out).mono ?_
      rintro e w3 ⟨rfl, hb⟩
      have HB3 := Lib.hid (onF HB2.out hb)
      have HP3 := Lib.hid (HP2.out.keep hb)
      have k0 := keepF hb k0
      have k1 := keepF hb k1
      clear hb
      go_wp2_with fail
      refine (HA.out _).mono ?_
      rintro e wz ⟨rfl, hbz⟩
      have HBZ := Lib.hid (onF HB3.out hbz)
      clear hbz
      go_wp2_with fail
      go_ret
      exact ⟨rfl, HBZ.out⟩
set_option maxRecDepth 100000 in
set_option maxHeartbeats 8000000 in
theorem rise_in (w : World) (s n : Nat) (a b : Int) (h20 : 20 ≤ s) (h4 : s ≤ 400) (hn : n ≤ 30) (a0 : 0 ≤ a) (a1 : a ≤ 73048) (b0 : 0 ≤ b) (b1 : b ≤ 73048) : Calls Try.prog 7 #[.int .i64 (s : Nat), .int .i64 (n : Nat), .agg #[.int .i64 a, .int .i64 b]] w fun e w' => e = .returned (.bool true) ∧ Below w.heap.size w w' := by
  have A := bk_in (s := s) (l := n) (d := a) (by omega) h4 (by omega) a0 a1
  have B := bk_in (s := s) (l := n) (d := b) (by omega) h4 (by omega) b0 b1
  have hxy : a ≤ b → a / (s : Int) ≤ b / (s : Int) := fun h => Int.ediv_le_ediv (by omega) h
  generalize a / (s : Int) = x at *
  generalize b / (s : Int) = y at *
  generalize (if x < (n : Int) then (n : Int) else x) = u at *
  generalize (if y < (n : Int) then (n : Int) else y) = v at *
  have HBX := Lib.hid (newF w (.cells #[.int .i64 a, .int .i64 b] 45))
  have k0 : (w.alloc (.cells #[.int .i64 a, .int .i64 b] 45)).cell? ⟨w.heap.size, 0, none⟩ = some (.int .i64 a) := (World.cell?_alloc_at _ _ _ _ rfl).trans rfl
  have k1 : (w.alloc (.cells #[.int .i64 a, .int .i64 b] 45)).cell? ⟨w.heap.size, 1, none⟩ = some (.int .i64 b) := (World.cell?_alloc_at _ _ _ _ rfl).trans rfl
  have HK := Lib.hid (And.intro k0 k1)
  have hlt : w.heap.size < (w.alloc (.cells #[.int .i64 a, .int .i64 b] 45)).heap.size := by simp
  have HLt := Lib.hid hlt
  clear k0 k1 hlt
  have HN := Lib.hid (new_yes (w.alloc (.cells #[.int .i64 a, .int .i64 b] 45)) s (by omega) h4)
  have HA := Lib.hid (fun w' => awake13_any w')
  have HLk := Lib.hid (fun w' j hk => lock_any w' (b := (w.alloc (.cells #[.int .i64 a, .int .i64 b] 45)).heap.size) (s := s) (l := j) hk (by omega) h4 j 73048)
  have HUp := Lib.hid (fun l hl => lkE_up (s := s) (l := l) (by omega) h4 hl)
  have HBa := Lib.hid (fun w' hk => book_any w' (b := (w.alloc (.cells #[.int .i64 a, .int .i64 b] 45)).heap.size) (s := s) (l := n) hk (by omega) h4 a)
  have HBb := Lib.hid (fun w' hk => book_any w' (b := (w.alloc (.cells #[.int .i64 a, .int .i64 b] 45)).heap.size) (s := s) (l := n) hk (by omega) h4 b)
  have HOa := Lib.hid (fun w' hk => of_any w' (b := (w.alloc (.cells #[.int .i64 a, .int .i64 b] 45)).heap.size) (s := s) (l := n) hk (by omega) h4 a)
  have HOb := Lib.hid (fun w' hk => of_any w' (b := (w.alloc (.cells #[.int .i64 a, .int .i64 b] 45)).heap.size) (s := s) (l := n) hk (by omega) h4 b)
  rw [A.bv, A.e] at HBa
  rw [B.bv, B.e] at HBb
  rw [A.o, A.oe] at HOa
  rw [B.o, B.oe] at HOb
  have u1 := A.xv
  have u2 := A.lv
  have v1 := B.xv
  by_cases c1 : b < a
  · by_cases c2 : x < (n : Int)
    · have e := A.lt c2
      have q : ((n : Int) == x) = false := beq_false_of_ne (by omega)
      subst e
      clear A B hxy
      go_enter Try.func7, Try.ntmps7
      go_wp2_with fail
      generalize w.alloc (.cells #[.int .i64 a, .int .i64 b] 45) = W at *
      refine HN.out.mono ?_
      rintro e w1 ⟨rfl, hp, hb⟩
      have HB1 := Lib.hid (onF HBX.out hb)
      have HP1 := Lib.hid hp
      have HK1 := Lib.hid (And.intro (keepF hb HK.out.1) (keepF hb HK.out.2))
      clear hp hb HN HK
      go_wp2_with fail
      go_loopw [9] (fun vi wx => ∃ j : Nat, j ≤ n ∧ vi = .int .i64 (j : Nat) ∧ PdV wx W.heap.size s j ∧ wx.cell? ⟨w.heap.size, 0, none⟩ = some (.int .i64 a) ∧ wx.cell? ⟨w.heap.size, 1, none⟩ = some (.int .i64 b) ∧ Below w.heap.size w wx) (fun vi _ => n - (RowKit.intOf vi).toNat)
      case atStart => exact ⟨0, by omega, rfl, HP1.out, HK1.out.1, HK1.out.2, HB1.out⟩
      case round =>
        obtain ⟨j, hj, rfl, hpj, k0, k1, hbj⟩ := hrel
        have HP1 := Lib.hid hpj
        have HB1 := Lib.hid hbj
        have HJ := Lib.hid hj
        by_cases c1 : j < n
        · have j1 : (j : Int) < (n : Int) := by omega
          have HC := Lib.hid c1
          have HL := HLk.out wr j hpj
          rw [HUp.out j (by omega), if_pos rfl] at HL
          have HL := Lib.hid HL
          have HK := Lib.hid (And.intro k0 k1)
          clear hpj hbj k0 k1 c1 hj
          go_wp2_with fail
          refine HL.out.mono ?_
          rintro e w2 ⟨rfl, hp, ho⟩
          have HP2 := Lib.hid hp
          have HB2 := Lib.hid (HB1.out.trans (ho.below (n := w.heap.size) (fun k e => by have := HLt.out; omega) HB1.out.size))
          have HK2 := Lib.hid (And.intro (ho.cell HK.out.1 (fun e => by have := HLt.out; omega)) (ho.cell HK.out.2 (fun e => by have := HLt.out; omega)))
          clear hp ho
          go_wp2_with fail
          go_roundw
          case rel => exact ⟨j + 1, HC.out, by go_num, HP2.out, HK2.out.1, HK2.out.2, HB2.out⟩
          case measure => have := HC.out; simp [RowKit.intOf]; omega
        · obtain rfl : j = n := by omega
          have j1 : ¬ (j : Int) < (j : Int) := by omega
          clear hpj hbj c1 hj HLk HUp
          go_wp2_with fail
          refine (HBa.out _ HP1.out).mono ?_
          rintro e w2 ⟨rfl, hb⟩
          have HB2 := Lib.hid (onF HB1.out hb)
          have HP2 := Lib.hid (HP1.out.keep hb)
          have k0 := keepF hb k0
          have k1 := keepF hb k1
          clear hb
          go_wp2_with fail
          refine (HBb.out _ HP2.out).mono ?_
          rintro e w3 ⟨rfl, hb⟩
          have HB3 := Lib.hid (onF HB2.out hb)
          have HP3 := Lib.hid (HP2.out.keep hb)
          have k0 := keepF hb k0
          have k1 := keepF hb k1
          clear hb
          go_wp2_with fail
          refine (HOa.out _ HP3.out).mono ?_
          rintro e w4 ⟨rfl, hb⟩
          have HB4 := Lib.hid (onF HB3.out hb)
          have HP4 := Lib.hid (HP3.out.keep hb)
          have k0 := keepF hb k0
          have k1 := keepF hb k1
          clear hb
          go_wp2_with fail
          refine (HOb.out _ HP4.out).mono ?_
          rintro e w5 ⟨rfl, hb⟩
          have HB5 := Lib.hid (onF HB4.out hb)
          have HP5 := Lib.hid (HP4.out.keep hb)
          have k0 := keepF hb k0
          have k1 := keepF hb k1
          clear hb
          go_wp2_with fail
          refine (HA.out _).mono ?_
          rintro e wz ⟨rfl, hbz⟩
          have HBZ := Lib.hid (onF HB5.out hbz)
          clear hbz
          go_wp2_with fail
          go_ret
          exact ⟨rfl, HBZ.out⟩
    · have e := A.ge c2
      subst e
      clear A B hxy c2
      go_enter Try.func7, Try.ntmps7
      go_wp2_with fail
      generalize w.alloc (.cells #[.int .i64 a, .int .i64 b] 45) = W at *
      refine HN.out.mono ?_
      rintro e w1 ⟨rfl, hp, hb⟩
      have HB1 := Lib.hid (onF HBX.out hb)
      have HP1 := Lib.hid hp
      have HK1 := Lib.hid (And.intro (keepF hb HK.out.1) (keepF hb HK.out.2))
      clear hp hb HN HK
      go_wp2_with fail
      go_loopw [9] (fun vi wx => ∃ j : Nat, j ≤ n ∧ vi = .int .i64 (j : Nat) ∧ PdV wx W.heap.size s j ∧ wx.cell? ⟨w.heap.size, 0, none⟩ = some (.int .i64 a) ∧ wx.cell? ⟨w.heap.size, 1, none⟩ = some (.int .i64 b) ∧ Below w.heap.size w wx) (fun vi _ => n - (RowKit.intOf vi).toNat)
      case atStart => exact ⟨0, by omega, rfl, HP1.out, HK1.out.1, HK1.out.2, HB1.out⟩
      case round =>
        obtain ⟨j, hj, rfl, hpj, k0, k1, hbj⟩ := hrel
        have HP1 := Lib.hid hpj
        have HB1 := Lib.hid hbj
        have HJ := Lib.hid hj
        by_cases c1 : j < n
        · have j1 : (j : Int) < (n : Int) := by omega
          have HC := Lib.hid c1
          have HL := HLk.out wr j hpj
          rw [HUp.out j (by omega), if_pos rfl] at HL
          have HL := Lib.hid HL
          have HK := Lib.hid (And.intro k0 k1)
          clear hpj hbj k0 k1 c1 hj
          go_wp2_with fail
          refine HL.out.mono ?_
          rintro e w2 ⟨rfl, hp, ho⟩
          have HP2 := Lib.hid hp
          have HB2 := Lib.hid (HB1.out.trans (ho.below (n := w.heap.size) (fun k e => by have := HLt.out; omega) HB1.out.size))
          have HK2 := Lib.hid (And.intro (ho.cell HK.out.1 (fun e => by have := HLt.out; omega)) (ho.cell HK.out.2 (fun e => by have := HLt.out; omega)))
          clear hp ho
          go_wp2_with fail
          go_roundw
          case rel => exact ⟨j + 1, HC.out, by go_num, HP2.out, HK2.out.1, HK2.out.2, HB2.out⟩
          case measure => have := HC.out; simp [RowKit.intOf]; omega
        · obtain rfl : j = n := by omega
          have j1 : ¬ (j : Int) < (j : Int) := by omega
          clear hpj hbj c1 hj HLk HUp
          go_wp2_with fail
          refine (HBa.out _ HP1.out).mono ?_
          rintro e w2 ⟨rfl, hb⟩
          have HB2 := Lib.hid (onF HB1.out hb)
          have HP2 := Lib.hid (HP1.out.keep hb)
          have k0 := keepF hb k0
          have k1 := keepF hb k1
          clear hb
          go_wp2_with fail
          refine (HBb.out _ HP2.out).mono ?_
          rintro e w3 ⟨rfl, hb⟩
          have HB3 := Lib.hid (onF HB2.out hb)
          have HP3 := Lib.hid (HP2.out.keep hb)
          have k0 := keepF hb k0
          have k1 := keepF hb k1
          clear hb
          go_wp2_with fail
          refine (HOa.out _ HP3.out).mono ?_
          rintro e w4 ⟨rfl, hb⟩
          have HB4 := Lib.hid (onF HB3.out hb)
          have HP4 := Lib.hid (HP3.out.keep hb)
          have k0 := keepF hb k0
          have k1 := keepF hb k1
          clear hb
          go_wp2_with fail
          refine (HOb.out _ HP4.out).mono ?_
          rintro e w5 ⟨rfl, hb⟩
          have HB5 := Lib.hid (onF HB4.out hb)
          have HP5 := Lib.hid (HP4.out.keep hb)
          have k0 := keepF hb k0
          have k1 := keepF hb k1
          clear hb
          go_wp2_with fail
          refine (HA.out _).mono ?_
          rintro e wz ⟨rfl, hbz⟩
          have HBZ := Lib.hid (onF HB5.out hbz)
          clear hbz
          go_wp2_with fail
          go_ret
          exact ⟨rfl, HBZ.out⟩
  · have c3 : u ≤ v := bk_rise (by omega) A B (hxy (by omega))
    by_cases c2 : x < (n : Int)
    · have e := A.lt c2
      have q : ((n : Int) == x) = false := beq_false_of_ne (by omega)
      subst e
      clear A B hxy
      go_enter Try.func7, Try.ntmps7
      go_wp2_with fail
      generalize w.alloc (.cells #[.int .i64 a, .int .i64 b] 45) = W at *
      refine HN.out.mono ?_
      rintro e w1 ⟨rfl, hp, hb⟩
      have HB1 := Lib.hid (onF HBX.out hb)
      have HP1 := Lib.hid hp
      have HK1 := Lib.hid (And.intro (keepF hb HK.out.1) (keepF hb HK.out.2))
      clear hp hb HN HK
      go_wp2_with fail
      go_loopw [9] (fun vi wx => ∃ j : Nat, j ≤ n ∧ vi = .int .i64 (j : Nat) ∧ PdV wx W.heap.size s j ∧ wx.cell? ⟨w.heap.size, 0, none⟩ = some (.int .i64 a) ∧ wx.cell? ⟨w.heap.size, 1, none⟩ = some (.int .i64 b) ∧ Below w.heap.size w wx) (fun vi _ => n - (RowKit.intOf vi).toNat)
      case atStart => exact ⟨0, by omega, rfl, HP1.out, HK1.out.1, HK1.out.2, HB1.out⟩
      case round =>
        obtain ⟨j, hj, rfl, hpj, k0, k1, hbj⟩ := hrel
        have HP1 := Lib.hid hpj
        have HB1 := Lib.hid hbj
        have HJ := Lib.hid hj
        by_cases c1 : j < n
        · have j1 : (j : Int) < (n : Int) := by omega
          have HC := Lib.hid c1
          have HL := HLk.out wr j hpj
          rw [HUp.out j (by omega), if_pos rfl] at HL
          have HL := Lib.hid HL
          have HK := Lib.hid (And.intro k0 k1)
          clear hpj hbj k0 k1 c1 hj
          go_wp2_with fail
          refine HL.out.mono ?_
          rintro e w2 ⟨rfl, hp, ho⟩
          have HP2 := Lib.hid hp
          have HB2 := Lib.hid (HB1.out.trans (ho.below (n := w.heap.size) (fun k e => by have := HLt.out; omega) HB1.out.size))
          have HK2 := Lib.hid (And.intro (ho.cell HK.out.1 (fun e => by have := HLt.out; omega)) (ho.cell HK.out.2 (fun e => by have := HLt.out; omega)))
          clear hp ho
          go_wp2_with fail
          go_roundw
          case rel => exact ⟨j + 1, HC.out, by go_num, HP2.out, HK2.out.1, HK2.out.2, HB2.out⟩
          case measure => have := HC.out; simp [RowKit.intOf]; omega
        · obtain rfl : j = n := by omega
          have j1 : ¬ (j : Int) < (j : Int) := by omega
          clear hpj hbj c1 hj HLk HUp
          go_wp2_with fail
          refine (HBa.out _ HP1.out).mono ?_
          rintro e w2 ⟨rfl, hb⟩
          have HB2 := Lib.hid (onF HB1.out hb)
          have HP2 := Lib.hid (HP1.out.keep hb)
          have k0 := keepF hb k0
          have k1 := keepF hb k1
          clear hb
          go_wp2_with fail
          refine (HBb.out _ HP2.out).mono ?_
          rintro e w3 ⟨rfl, hb⟩
          have HB3 := Lib.hid (onF HB2.out hb)
          have HP3 := Lib.hid (HP2.out.keep hb)
          have k0 := keepF hb k0
          have k1 := keepF hb k1
          clear hb
          go_wp2_with fail
          refine (HOa.out _ HP3.out).mono ?_
          rintro e w4 ⟨rfl, hb⟩
          have HB4 := Lib.hid (onF HB3.out hb)
          have HP4 := Lib.hid (HP3.out.keep hb)
          have k0 := keepF hb k0
          have k1 := keepF hb k1
          clear hb
          go_wp2_with fail
          refine (HOb.out _ HP4.out).mono ?_
          rintro e w5 ⟨rfl, hb⟩
          have HB5 := Lib.hid (onF HB4.out hb)
          have HP5 := Lib.hid (HP4.out.keep hb)
          have k0 := keepF hb k0
          have k1 := keepF hb k1
          clear hb
          go_wp2_with fail
          refine (HA.out _).mono ?_
          rintro e wz ⟨rfl, hbz⟩
          have HBZ := Lib.hid (onF HB5.out hbz)
          clear hbz
          go_wp2_with fail
          go_ret
          exact ⟨rfl, HBZ.out⟩
    · have e := A.ge c2
      subst e
      clear A B hxy c2
      go_enter Try.func7, Try.ntmps7
      go_wp2_with fail
      generalize w.alloc (.cells #[.int .i64 a, .int .i64 b] 45) = W at *
      refine HN.out.mono ?_
      rintro e w1 ⟨rfl, hp, hb⟩
      have HB1 := Lib.hid (onF HBX.out hb)
      have HP1 := Lib.hid hp
      have HK1 := Lib.hid (And.intro (keepF hb HK.out.1) (keepF hb HK.out.2))
      clear hp hb HN HK
      go_wp2_with fail
      go_loopw [9] (fun vi wx => ∃ j : Nat, j ≤ n ∧ vi = .int .i64 (j : Nat) ∧ PdV wx W.heap.size s j ∧ wx.cell? ⟨w.heap.size, 0, none⟩ = some (.int .i64 a) ∧ wx.cell? ⟨w.heap.size, 1, none⟩ = some (.int .i64 b) ∧ Below w.heap.size w wx) (fun vi _ => n - (RowKit.intOf vi).toNat)
      case atStart => exact ⟨0, by omega, rfl, HP1.out, HK1.out.1, HK1.out.2, HB1.out⟩
      case round =>
        obtain ⟨j, hj, rfl, hpj, k0, k1, hbj⟩ := hrel
        have HP1 := Lib.hid hpj
        have HB1 := Lib.hid hbj
        have HJ := Lib.hid hj
        by_cases c1 : j < n
        · have j1 : (j : Int) < (n : Int) := by omega
          have HC := Lib.hid c1
          have HL := HLk.out wr j hpj
          rw [HUp.out j (by omega), if_pos rfl] at HL
          have HL := Lib.hid HL
          have HK := Lib.hid (And.intro k0 k1)
          clear hpj hbj k0 k1 c1 hj
          go_wp2_with fail
          refine HL.out.mono ?_
          rintro e w2 ⟨rfl, hp, ho⟩
          have HP2 := Lib.hid hp
          have HB2 := Lib.hid (HB1.out.trans (ho.below (n := w.heap.size) (fun k e => by have := HLt.out; omega) HB1.out.size))
          have HK2 := Lib.hid (And.intro (ho.cell HK.out.1 (fun e => by have := HLt.out; omega)) (ho.cell HK.out.2 (fun e => by have := HLt.out; omega)))
          clear hp ho
          go_wp2_with fail
          go_roundw
          case rel => exact ⟨j + 1, HC.out, by go_num, HP2.out, HK2.out.1, HK2.out.2, HB2.out⟩
          case measure => have := HC.out; simp [RowKit.intOf]; omega
        · obtain rfl : j = n := by omega
          have j1 : ¬ (j : Int) < (j : Int) := by omega
          clear hpj hbj c1 hj HLk HUp
          go_wp2_with fail
          refine (HBa.out _ HP1.out).mono ?_
          rintro e w2 ⟨rfl, hb⟩
          have HB2 := Lib.hid (onF HB1.out hb)
          have HP2 := Lib.hid (HP1.out.keep hb)
          have k0 := keepF hb k0
          have k1 := keepF hb k1
          clear hb
          go_wp2_with fail
          refine (HBb.out _ HP2.out).mono ?_
          rintro e w3 ⟨rfl, hb⟩
          have HB3 := Lib.hid (onF HB2.out hb)
          have HP3 := Lib.hid (HP2.out.keep hb)
          have k0 := keepF hb k0
          have k1 := keepF hb k1
          clear hb
          go_wp2_with fail
          refine (HOa.out _ HP3.out).mono ?_
          rintro e w4 ⟨rfl, hb⟩
          have HB4 := Lib.hid (onF HB3.out hb)
          have HP4 := Lib.hid (HP3.out.keep hb)
          have k0 := keepF hb k0
          have k1 := keepF hb k1
          clear hb
          go_wp2_with fail
          refine (HOb.out _ HP4.out).mono ?_
          rintro e w5 ⟨rfl, hb⟩
          have HB5 := Lib.hid (onF HB4.out hb)
          have HP5 := Lib.hid (HP4.out.keep hb)
          have k0 := keepF hb k0
          have k1 := keepF hb k1
          clear hb
          go_wp2_with fail
          refine (HA.out _).mono ?_
          rintro e wz ⟨rfl, hbz⟩
          have HBZ := Lib.hid (onF HB5.out hbz)
          clear hbz
          go_wp2_with fail
          go_ret
          exact ⟨rfl, HBZ.out⟩
theorem rise13_walk (w : World) (s n a b : Int) : Calls Try.prog 7 #[.int .i64 s, .int .i64 n, .agg #[.int .i64 a, .int .i64 b]] w fun e w' => e = .returned (.bool true) ∧ Below w.heap.size w w' := by
  by_cases c : s < 1 ∨ 400 < s
  · exact rise_no w s n a b c
  obtain ⟨s, rfl⟩ : ∃ k : Nat, s = k := ⟨s.toNat, by omega⟩
  by_cases c1 : s < 20
  · exact rise_small w s n a b (by omega) c1
  by_cases c2 : n < 0 ∨ 30 < n
  · exact rise_n w s n a b (by omega) (by omega) c2
  obtain ⟨n, rfl⟩ : ∃ k : Nat, n = k := ⟨n.toNat, by omega⟩
  by_cases c3 : a < 0 ∨ 73048 < a
  · exact rise_a w s n a b (by omega) (by omega) (by omega) c3
  by_cases c4 : b < 0 ∨ 73048 < b
  · exact rise_b w s n a b (by omega) (by omega) (by omega) (by omega) (by omega) c4
  exact rise_in w s n a b (by omega) (by omega) (by omega) (by omega) (by omega) (by omega) (by omega)

end Go.Proofs.Ytjddmgmblohpaaa
