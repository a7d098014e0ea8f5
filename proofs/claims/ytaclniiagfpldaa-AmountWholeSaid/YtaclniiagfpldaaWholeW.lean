/-
  chattellaw01.AmountWhole's walk: parts come to the total, no part has another sign, a weight of nought has no part, a greater weight no less.
-/
import Derived.Test.YtaclniiagfpldaaPartsA
import Derived.Test.YtaclniiagfpldaaAwake
namespace Go.Proofs.Ytaclniiagfpldaa
open Go.RowKit Go.Sort
set_option linter.unusedVariables false

/-- The law, where Split tells an error. -/
theorem whole_bad (T : Int) (a : Option Addr) (len cap : Nat) (er : Int) (w : World) (hl : len ≤ 64) (her : er ≠ 0)
    (h : Calls Try.prog 22 #[.int .i64 T, .slice a len cap] w fun e w' => e = .returned (.tuple #[.slice none 0 0, .int .i64 er]) ∧ w = w') :
    Calls Try.prog 7 #[.int .i64 T, .slice a len cap] w fun e w' => e = .returned (.bool true) ∧ Below w.heap.size w w' := by
  have H := Lib.hid h
  have hb : (er != 0) = true := by simpa using her
  clear h her
  go_enter Try.func7, Try.ntmps7
  go_wp2_with (first | (go_at_call 22; refine H.out.mono ?_; rintro e w' ⟨rfl, rfl⟩) | (go_at_call 9; refine (awake_any _).mono ?_; rintro e w' ⟨rfl, hb⟩))
  go_ret
  exact ⟨rfl, ‹Below _ _ _›⟩

theorem whole_long (T : Int) (a : Option Addr) (len cap : Nat) (w : World) (hl : 64 < len) (hm : len ≤ 9223372036854775807) :
    Calls Try.prog 7 #[.int .i64 T, .slice a len cap] w fun e w' => e = .returned (.bool true) ∧ Below w.heap.size w w' := by
  go_enter Try.func7, Try.ntmps7
  go_wp2_with (go_at_call 9; refine (awake_any _).mono ?_; rintro e w' ⟨rfl, hb⟩)
  go_ret
  exact ⟨rfl, ‹Below _ _ _›⟩

/-- What the law asks of parts. -/
structure Fair (T : Int) (W p : Nat → Int) (n : Nat) : Prop where
  pos : 0 ≤ T → ∀ t, t < n → 0 ≤ p t
  neg : T ≤ 0 → ∀ t, t < n → p t ≤ 0
  zero : ∀ t, t < n → W t = 0 → p t = 0
  up : 0 < T → ∀ i k, i < n → k < n → W k < W i → p k ≤ p i
  down : T < 0 → ∀ i k, i < n → k < n → W k < W i → p i ≤ p k

set_option maxHeartbeats 8000000 in
set_option maxRecDepth 100000 in
theorem whole_pos (T : Int) (W : Nat → Int) (n b o cap pb : Nat) (w : World) (h64 : n ≤ 64) (hT : 0 < T)
    (hS : Calls Try.prog 22 #[.int .i64 T, .slice (some ⟨b, o, none⟩) n cap] w fun e w' => e = .returned (.tuple #[.slice (some ⟨pb, 0, none⟩) n n, .int .i64 0]) ∧ ∃ p : Nat → Int, Fair T W p n ∧ Below w.heap.size w w' ∧
      (∀ t, t < n → w'.cell? ⟨b, o + t, none⟩ = some (.int .i64 (W t))) ∧ (∀ t, t < n → w'.cell? ⟨pb, 0 + t, none⟩ = some (.int .i64 (p t))) ∧
      Calls Try.prog 14 #[.slice (some ⟨pb, 0, none⟩) n n] w' fun e w'' => e = .returned (.tuple #[.int .i64 T, .int .i64 0]) ∧ w' = w'') :
    Calls Try.prog 7 #[.int .i64 T, .slice (some ⟨b, o, none⟩) n cap] w fun e w' => e = .returned (.bool true) ∧ Below w.heap.size w w' := by
  have H := Lib.hid hS
  clear hS
  go_enter Try.func7, Try.ntmps7
  go_wp2_with fail
  refine H.out.mono ?_
  rintro e w1 ⟨rfl, p, hF, hbel, hW, hp, hsum⟩
  have HW := Lib.hid hW
  have HP := Lib.hid hp
  have HB := Lib.hid hbel
  have HSm := Lib.hid hsum
  clear hbel hW hp hsum
  go_wp2_with (go_at_call 14; refine HSm.out.mono ?_; rintro e w' ⟨rfl, rfl⟩)
  go_loopw [9, 10] (fun vi vk wx => ∃ i q : Nat, i ≤ n ∧ vi = .int .i64 i ∧ wx = w1.drewN q) (fun vi _ _ => n - (intOf vi).toNat)
  case atStart => exact ⟨0, 0, Nat.zero_le _, rfl, rfl⟩
  case round =>
    obtain ⟨i, q, hi, rfl, hwr⟩ := hrel
    by_cases hlt : i < n
    · obtain ⟨x, hx⟩ : ∃ x, x = p i := ⟨_, rfl⟩
      obtain ⟨y, hy⟩ : ∃ y, y = W i := ⟨_, rfl⟩
      have hc1 : wr.cell? ⟨pb, i, none⟩ = some (.int .i64 x) := by rw [hwr, hx]; have := HP.out i hlt; rw [Nat.zero_add] at this; exact this
      have hc2 : wr.cell? ⟨b, o + i, none⟩ = some (.int .i64 y) := by rw [hwr, hy]; exact HW.out i hlt
      have hs1 : 0 ≤ x := by rw [hx]; exact hF.pos (by omega) i hlt
      have hz : y = 0 → x = 0 := by rw [hx, hy]; exact hF.zero i hlt
      have HX := Lib.hid hx
      have HY := Lib.hid hy
      have HR := Lib.hid hwr
      clear hx hy hwr
      by_cases hy0 : y = 0
      · have hx0 : x = 0 := hz hy0
        have b1 : (y == 0) = true := by simpa using hy0
        have b2 : (x != 0) = false := by rw [hx0]; rfl
        have HY0 := Lib.hid hy0
        have HX0 := Lib.hid hx0
        clear hy0 hx0 hz
        go_wp2
        go_loopw [10] (fun vk wx => ∃ k q : Nat, k ≤ n ∧ vk = .int .i64 k ∧ wx = w1.drewN q) (fun vk _ => n - (intOf vk).toNat)
        case atStart => exact ⟨0, q, Nat.zero_le _, rfl, HR.out⟩
        case round =>
          clear hc1 hc2 b1
          obtain ⟨k, q2, hk, rfl, hwr⟩ := hrel
          by_cases hlk : k < n
          · obtain ⟨x2, hx2⟩ : ∃ x2, x2 = p k := ⟨_, rfl⟩
            obtain ⟨y2, hy2⟩ : ∃ y2, y2 = W k := ⟨_, rfl⟩
            have hd1 : wr.cell? ⟨pb, i, none⟩ = some (.int .i64 x) := by rw [hwr, HX.out]; have := HP.out i hlt; rw [Nat.zero_add] at this; exact this
            have hd2 : wr.cell? ⟨b, o + i, none⟩ = some (.int .i64 y) := by rw [hwr, HY.out]; exact HW.out i hlt
            have hd3 : wr.cell? ⟨pb, k, none⟩ = some (.int .i64 x2) := by rw [hwr, hx2]; have := HP.out k hlk; rw [Nat.zero_add] at this; exact this
            have hd4 : wr.cell? ⟨b, o + k, none⟩ = some (.int .i64 y2) := by rw [hwr, hy2]; exact HW.out k hlk
            have i1 : (i : Int) < (n : Int) := by omega
            have i2 : (k : Int) < (n : Int) := by omega
            have hmono : y2 < y → x2 ≤ x := by rw [hy2, HY.out, hx2, HX.out]; exact hF.up hT i k hlt hlk
            have HR2 := Lib.hid hwr
            clear hx2 hy2 hwr
            by_cases hgt : y2 < y
            · have hm := hmono hgt
              have g1 : decide (y2 < y) = true := decide_eq_true hgt
              have g2 : decide (0 < T) = true := decide_eq_true hT
              have g3 : decide (x < x2) = false := decide_eq_false (by omega)
              have g4 : decide (T < 0) = false := decide_eq_false (by omega)
              clear hmono hm hgt
              go_wp2
              go_quiet (fail)
              go_wp2
              go_roundw
              case rel => exact ⟨k + 1, q2 + nq, by omega, by go_num, by rw [HR2.out, World.drewN_drewN]⟩
              case measure => simp [intOf]; omega
            · have g1 : decide (y2 < y) = false := decide_eq_false hgt
              clear hmono hgt
              go_wp2
              go_quiet (fail)
              go_wp2
              go_roundw
              case rel => exact ⟨k + 1, q2 + nq, by omega, by go_num, by rw [HR2.out, World.drewN_drewN]⟩
              case measure => simp [intOf]; omega
          · obtain rfl : n = k := by omega
            have HR2 := Lib.hid hwr
            clear hwr
            go_wp2
            go_roundw
            case rel => exact ⟨i + 1, q2, by omega, by go_num, HR2.out⟩
            case measure => simp [intOf]; omega
      · have b1 : (y == 0) = false := by simpa using hy0
        have HY0 := Lib.hid hy0
        clear hy0 hz
        go_wp2
        go_loopw [10] (fun vk wx => ∃ k q : Nat, k ≤ n ∧ vk = .int .i64 k ∧ wx = w1.drewN q) (fun vk _ => n - (intOf vk).toNat)
        case atStart => exact ⟨0, q, Nat.zero_le _, rfl, HR.out⟩
        case round =>
          clear hc1 hc2 b1
          obtain ⟨k, q2, hk, rfl, hwr⟩ := hrel
          by_cases hlk : k < n
          · obtain ⟨x2, hx2⟩ : ∃ x2, x2 = p k := ⟨_, rfl⟩
            obtain ⟨y2, hy2⟩ : ∃ y2, y2 = W k := ⟨_, rfl⟩
            have hd1 : wr.cell? ⟨pb, i, none⟩ = some (.int .i64 x) := by rw [hwr, HX.out]; have := HP.out i hlt; rw [Nat.zero_add] at this; exact this
            have hd2 : wr.cell? ⟨b, o + i, none⟩ = some (.int .i64 y) := by rw [hwr, HY.out]; exact HW.out i hlt
            have hd3 : wr.cell? ⟨pb, k, none⟩ = some (.int .i64 x2) := by rw [hwr, hx2]; have := HP.out k hlk; rw [Nat.zero_add] at this; exact this
            have hd4 : wr.cell? ⟨b, o + k, none⟩ = some (.int .i64 y2) := by rw [hwr, hy2]; exact HW.out k hlk
            have i1 : (i : Int) < (n : Int) := by omega
            have i2 : (k : Int) < (n : Int) := by omega
            have hmono : y2 < y → x2 ≤ x := by rw [hy2, HY.out, hx2, HX.out]; exact hF.up hT i k hlt hlk
            have HR2 := Lib.hid hwr
            clear hx2 hy2 hwr
            by_cases hgt : y2 < y
            · have hm := hmono hgt
              have g1 : decide (y2 < y) = true := decide_eq_true hgt
              have g2 : decide (0 < T) = true := decide_eq_true hT
              have g3 : decide (x < x2) = false := decide_eq_false (by omega)
              have g4 : decide (T < 0) = false := decide_eq_false (by omega)
              clear hmono hm hgt
              go_wp2
              go_quiet (fail)
              go_wp2
              go_roundw
              case rel => exact ⟨k + 1, q2 + nq, by omega, by go_num, by rw [HR2.out, World.drewN_drewN]⟩
              case measure => simp [intOf]; omega
            · have g1 : decide (y2 < y) = false := decide_eq_false hgt
              clear hmono hgt
              go_wp2
              go_quiet (fail)
              go_wp2
              go_roundw
              case rel => exact ⟨k + 1, q2 + nq, by omega, by go_num, by rw [HR2.out, World.drewN_drewN]⟩
              case measure => simp [intOf]; omega
          · obtain rfl : n = k := by omega
            have HR2 := Lib.hid hwr
            clear hwr
            go_wp2
            go_roundw
            case rel => exact ⟨i + 1, q2, by omega, by go_num, HR2.out⟩
            case measure => simp [intOf]; omega
    · obtain rfl : n = i := by omega
      have HR := Lib.hid hwr
      clear hwr
      go_wp2_with (go_at_call 9; refine (awake_any _).mono ?_; rintro e w' ⟨rfl, hb⟩)
      go_ret
      have hb' := ‹Below _ _ _›
      rw [HR.out] at hb'
      exact ⟨rfl, HB.out.trans ((below_drewN (Below.refl _ w1) q).mono (Nat.le_refl _) |>.trans (hb'.mono (by have := HB.out.size; exact this)))⟩

set_option maxHeartbeats 8000000 in
set_option maxRecDepth 100000 in
theorem whole_neg (T : Int) (W : Nat → Int) (n b o cap pb : Nat) (w : World) (h64 : n ≤ 64) (hT : T < 0)
    (hS : Calls Try.prog 22 #[.int .i64 T, .slice (some ⟨b, o, none⟩) n cap] w fun e w' => e = .returned (.tuple #[.slice (some ⟨pb, 0, none⟩) n n, .int .i64 0]) ∧ ∃ p : Nat → Int, Fair T W p n ∧ Below w.heap.size w w' ∧
      (∀ t, t < n → w'.cell? ⟨b, o + t, none⟩ = some (.int .i64 (W t))) ∧ (∀ t, t < n → w'.cell? ⟨pb, 0 + t, none⟩ = some (.int .i64 (p t))) ∧
      Calls Try.prog 14 #[.slice (some ⟨pb, 0, none⟩) n n] w' fun e w'' => e = .returned (.tuple #[.int .i64 T, .int .i64 0]) ∧ w' = w'') :
    Calls Try.prog 7 #[.int .i64 T, .slice (some ⟨b, o, none⟩) n cap] w fun e w' => e = .returned (.bool true) ∧ Below w.heap.size w w' := by
  have H := Lib.hid hS
  clear hS
  go_enter Try.func7, Try.ntmps7
  go_wp2_with fail
  refine H.out.mono ?_
  rintro e w1 ⟨rfl, p, hF, hbel, hW, hp, hsum⟩
  have HW := Lib.hid hW
  have HP := Lib.hid hp
  have HB := Lib.hid hbel
  have HSm := Lib.hid hsum
  clear hbel hW hp hsum
  go_wp2_with (go_at_call 14; refine HSm.out.mono ?_; rintro e w' ⟨rfl, rfl⟩)
  go_loopw [9, 10] (fun vi vk wx => ∃ i q : Nat, i ≤ n ∧ vi = .int .i64 i ∧ wx = w1.drewN q) (fun vi _ _ => n - (intOf vi).toNat)
  case atStart => exact ⟨0, 0, Nat.zero_le _, rfl, rfl⟩
  case round =>
    obtain ⟨i, q, hi, rfl, hwr⟩ := hrel
    by_cases hlt : i < n
    · obtain ⟨x, hx⟩ : ∃ x, x = p i := ⟨_, rfl⟩
      obtain ⟨y, hy⟩ : ∃ y, y = W i := ⟨_, rfl⟩
      have hc1 : wr.cell? ⟨pb, i, none⟩ = some (.int .i64 x) := by rw [hwr, hx]; have := HP.out i hlt; rw [Nat.zero_add] at this; exact this
      have hc2 : wr.cell? ⟨b, o + i, none⟩ = some (.int .i64 y) := by rw [hwr, hy]; exact HW.out i hlt
      have hs1 : x ≤ 0 := by rw [hx]; exact hF.neg (by omega) i hlt
      have hz : y = 0 → x = 0 := by rw [hx, hy]; exact hF.zero i hlt
      have HX := Lib.hid hx
      have HY := Lib.hid hy
      have HR := Lib.hid hwr
      clear hx hy hwr
      by_cases hy0 : y = 0
      · have hx0 : x = 0 := hz hy0
        have b1 : (y == 0) = true := by simpa using hy0
        have b2 : (x != 0) = false := by rw [hx0]; rfl
        have HY0 := Lib.hid hy0
        have HX0 := Lib.hid hx0
        clear hy0 hx0 hz
        go_wp2
        go_loopw [10] (fun vk wx => ∃ k q : Nat, k ≤ n ∧ vk = .int .i64 k ∧ wx = w1.drewN q) (fun vk _ => n - (intOf vk).toNat)
        case atStart => exact ⟨0, q, Nat.zero_le _, rfl, HR.out⟩
        case round =>
          clear hc1 hc2 b1
          obtain ⟨k, q2, hk, rfl, hwr⟩ := hrel
          by_cases hlk : k < n
          · obtain ⟨x2, hx2⟩ : ∃ x2, x2 = p k := ⟨_, rfl⟩
            obtain ⟨y2, hy2⟩ : ∃ y2, y2 = W k := ⟨_, rfl⟩
            have hd1 : wr.cell? ⟨pb, i, none⟩ = some (.int .i64 x) := by rw [hwr, HX.out]; have := HP.out i hlt; rw [Nat.zero_add] at this; exact this
            have hd2 : wr.cell? ⟨b, o + i, none⟩ = some (.int .i64 y) := by rw [hwr, HY.out]; exact HW.out i hlt
            have hd3 : wr.cell? ⟨pb, k, none⟩ = some (.int .i64 x2) := by rw [hwr, hx2]; have := HP.out k hlk; rw [Nat.zero_add] at this; exact this
            have hd4 : wr.cell? ⟨b, o + k, none⟩ = some (.int .i64 y2) := by rw [hwr, hy2]; exact HW.out k hlk
            have i1 : (i : Int) < (n : Int) := by omega
            have i2 : (k : Int) < (n : Int) := by omega
            have hmono : y2 < y → x ≤ x2 := by rw [hy2, HY.out, hx2, HX.out]; exact hF.down hT i k hlt hlk
            have HR2 := Lib.hid hwr
            clear hx2 hy2 hwr
            by_cases hgt : y2 < y
            · have hm := hmono hgt
              have g1 : decide (y2 < y) = true := decide_eq_true hgt
              have g2 : decide (0 < T) = false := decide_eq_false (by omega)
              have g3 : decide (x2 < x) = false := decide_eq_false (by omega)
              have g4 : decide (T < 0) = true := decide_eq_true hT
              clear hmono hm hgt
              go_wp2
              go_quiet (fail)
              go_wp2
              go_roundw
              case rel => exact ⟨k + 1, q2 + nq, by omega, by go_num, by rw [HR2.out, World.drewN_drewN]⟩
              case measure => simp [intOf]; omega
            · have g1 : decide (y2 < y) = false := decide_eq_false hgt
              clear hmono hgt
              go_wp2
              go_quiet (fail)
              go_wp2
              go_roundw
              case rel => exact ⟨k + 1, q2 + nq, by omega, by go_num, by rw [HR2.out, World.drewN_drewN]⟩
              case measure => simp [intOf]; omega
          · obtain rfl : n = k := by omega
            have HR2 := Lib.hid hwr
            clear hwr
            go_wp2
            go_roundw
            case rel => exact ⟨i + 1, q2, by omega, by go_num, HR2.out⟩
            case measure => simp [intOf]; omega
      · have b1 : (y == 0) = false := by simpa using hy0
        have HY0 := Lib.hid hy0
        clear hy0 hz
        go_wp2
        go_loopw [10] (fun vk wx => ∃ k q : Nat, k ≤ n ∧ vk = .int .i64 k ∧ wx = w1.drewN q) (fun vk _ => n - (intOf vk).toNat)
        case atStart => exact ⟨0, q, Nat.zero_le _, rfl, HR.out⟩
        case round =>
          clear hc1 hc2 b1
          obtain ⟨k, q2, hk, rfl, hwr⟩ := hrel
          by_cases hlk : k < n
          · obtain ⟨x2, hx2⟩ : ∃ x2, x2 = p k := ⟨_, rfl⟩
            obtain ⟨y2, hy2⟩ : ∃ y2, y2 = W k := ⟨_, rfl⟩
            have hd1 : wr.cell? ⟨pb, i, none⟩ = some (.int .i64 x) := by rw [hwr, HX.out]; have := HP.out i hlt; rw [Nat.zero_add] at this; exact this
            have hd2 : wr.cell? ⟨b, o + i, none⟩ = some (.int .i64 y) := by rw [hwr, HY.out]; exact HW.out i hlt
            have hd3 : wr.cell? ⟨pb, k, none⟩ = some (.int .i64 x2) := by rw [hwr, hx2]; have := HP.out k hlk; rw [Nat.zero_add] at this; exact this
            have hd4 : wr.cell? ⟨b, o + k, none⟩ = some (.int .i64 y2) := by rw [hwr, hy2]; exact HW.out k hlk
            have i1 : (i : Int) < (n : Int) := by omega
            have i2 : (k : Int) < (n : Int) := by omega
            have hmono : y2 < y → x ≤ x2 := by rw [hy2, HY.out, hx2, HX.out]; exact hF.down hT i k hlt hlk
            have HR2 := Lib.hid hwr
            clear hx2 hy2 hwr
            by_cases hgt : y2 < y
            · have hm := hmono hgt
              have g1 : decide (y2 < y) = true := decide_eq_true hgt
              have g2 : decide (0 < T) = false := decide_eq_false (by omega)
              have g3 : decide (x2 < x) = false := decide_eq_false (by omega)
              have g4 : decide (T < 0) = true := decide_eq_true hT
              clear hmono hm hgt
              go_wp2
              go_quiet (fail)
              go_wp2
              go_roundw
              case rel => exact ⟨k + 1, q2 + nq, by omega, by go_num, by rw [HR2.out, World.drewN_drewN]⟩
              case measure => simp [intOf]; omega
            · have g1 : decide (y2 < y) = false := decide_eq_false hgt
              clear hmono hgt
              go_wp2
              go_quiet (fail)
              go_wp2
              go_roundw
              case rel => exact ⟨k + 1, q2 + nq, by omega, by go_num, by rw [HR2.out, World.drewN_drewN]⟩
              case measure => simp [intOf]; omega
          · obtain rfl : n = k := by omega
            have HR2 := Lib.hid hwr
            clear hwr
            go_wp2
            go_roundw
            case rel => exact ⟨i + 1, q2, by omega, by go_num, HR2.out⟩
            case measure => simp [intOf]; omega
    · obtain rfl : n = i := by omega
      have HR := Lib.hid hwr
      clear hwr
      go_wp2_with (go_at_call 9; refine (awake_any _).mono ?_; rintro e w' ⟨rfl, hb⟩)
      go_ret
      have hb' := ‹Below _ _ _›
      rw [HR.out] at hb'
      exact ⟨rfl, HB.out.trans ((below_drewN (Below.refl _ w1) q).mono (Nat.le_refl _) |>.trans (hb'.mono (by have := HB.out.size; exact this)))⟩

set_option maxHeartbeats 8000000 in
set_option maxRecDepth 100000 in
theorem whole_nil (T : Int) (W : Nat → Int) (n b o cap pb : Nat) (w : World) (h64 : n ≤ 64) (hT0 : 0 ≤ T) (hT1 : T ≤ 0)
    (hS : Calls Try.prog 22 #[.int .i64 T, .slice (some ⟨b, o, none⟩) n cap] w fun e w' => e = .returned (.tuple #[.slice (some ⟨pb, 0, none⟩) n n, .int .i64 0]) ∧ ∃ p : Nat → Int, Fair T W p n ∧ Below w.heap.size w w' ∧
      (∀ t, t < n → w'.cell? ⟨b, o + t, none⟩ = some (.int .i64 (W t))) ∧ (∀ t, t < n → w'.cell? ⟨pb, 0 + t, none⟩ = some (.int .i64 (p t))) ∧
      Calls Try.prog 14 #[.slice (some ⟨pb, 0, none⟩) n n] w' fun e w'' => e = .returned (.tuple #[.int .i64 T, .int .i64 0]) ∧ w' = w'') :
    Calls Try.prog 7 #[.int .i64 T, .slice (some ⟨b, o, none⟩) n cap] w fun e w' => e = .returned (.bool true) ∧ Below w.heap.size w w' := by
  have H := Lib.hid hS
  clear hS
  go_enter Try.func7, Try.ntmps7
  go_wp2_with fail
  refine H.out.mono ?_
  rintro e w1 ⟨rfl, p, hF, hbel, hW, hp, hsum⟩
  have HW := Lib.hid hW
  have HP := Lib.hid hp
  have HB := Lib.hid hbel
  have HSm := Lib.hid hsum
  clear hbel hW hp hsum
  go_wp2_with (go_at_call 14; refine HSm.out.mono ?_; rintro e w' ⟨rfl, rfl⟩)
  go_loopw [9, 10] (fun vi vk wx => ∃ i q : Nat, i ≤ n ∧ vi = .int .i64 i ∧ wx = w1.drewN q) (fun vi _ _ => n - (intOf vi).toNat)
  case atStart => exact ⟨0, 0, Nat.zero_le _, rfl, rfl⟩
  case round =>
    obtain ⟨i, q, hi, rfl, hwr⟩ := hrel
    by_cases hlt : i < n
    · obtain ⟨x, hx⟩ : ∃ x, x = p i := ⟨_, rfl⟩
      obtain ⟨y, hy⟩ : ∃ y, y = W i := ⟨_, rfl⟩
      have hc1 : wr.cell? ⟨pb, i, none⟩ = some (.int .i64 x) := by rw [hwr, hx]; have := HP.out i hlt; rw [Nat.zero_add] at this; exact this
      have hc2 : wr.cell? ⟨b, o + i, none⟩ = some (.int .i64 y) := by rw [hwr, hy]; exact HW.out i hlt
      have hs1 : 0 ≤ x := by rw [hx]; exact hF.pos (by omega) i hlt
      have hs2 : x ≤ 0 := by rw [hx]; exact hF.neg (by omega) i hlt
      have hz : y = 0 → x = 0 := by rw [hx, hy]; exact hF.zero i hlt
      have HX := Lib.hid hx
      have HY := Lib.hid hy
      have HR := Lib.hid hwr
      clear hx hy hwr
      by_cases hy0 : y = 0
      · have hx0 : x = 0 := hz hy0
        have b1 : (y == 0) = true := by simpa using hy0
        have b2 : (x != 0) = false := by rw [hx0]; rfl
        have HY0 := Lib.hid hy0
        have HX0 := Lib.hid hx0
        clear hy0 hx0 hz
        go_wp2
        go_loopw [10] (fun vk wx => ∃ k q : Nat, k ≤ n ∧ vk = .int .i64 k ∧ wx = w1.drewN q) (fun vk _ => n - (intOf vk).toNat)
        case atStart => exact ⟨0, q, Nat.zero_le _, rfl, HR.out⟩
        case round =>
          clear hc1 hc2 b1
          obtain ⟨k, q2, hk, rfl, hwr⟩ := hrel
          by_cases hlk : k < n
          · obtain ⟨x2, hx2⟩ : ∃ x2, x2 = p k := ⟨_, rfl⟩
            obtain ⟨y2, hy2⟩ : ∃ y2, y2 = W k := ⟨_, rfl⟩
            have hd1 : wr.cell? ⟨pb, i, none⟩ = some (.int .i64 x) := by rw [hwr, HX.out]; have := HP.out i hlt; rw [Nat.zero_add] at this; exact this
            have hd2 : wr.cell? ⟨b, o + i, none⟩ = some (.int .i64 y) := by rw [hwr, HY.out]; exact HW.out i hlt
            have hd3 : wr.cell? ⟨pb, k, none⟩ = some (.int .i64 x2) := by rw [hwr, hx2]; have := HP.out k hlk; rw [Nat.zero_add] at this; exact this
            have hd4 : wr.cell? ⟨b, o + k, none⟩ = some (.int .i64 y2) := by rw [hwr, hy2]; exact HW.out k hlk
            have i1 : (i : Int) < (n : Int) := by omega
            have i2 : (k : Int) < (n : Int) := by omega
            have hmono : y2 < y → True := fun _ => trivial
            have HR2 := Lib.hid hwr
            clear hx2 hy2 hwr
            by_cases hgt : y2 < y
            · have hm := hmono hgt
              have g1 : decide (y2 < y) = true := decide_eq_true hgt
              have g2 : decide (0 < T) = false := decide_eq_false (by omega)
              have g4 : decide (T < 0) = false := decide_eq_false (by omega)
              clear hmono hm hgt
              go_wp2
              go_quiet (fail)
              go_wp2
              go_roundw
              case rel => exact ⟨k + 1, q2 + nq, by omega, by go_num, by rw [HR2.out, World.drewN_drewN]⟩
              case measure => simp [intOf]; omega
            · have g1 : decide (y2 < y) = false := decide_eq_false hgt
              clear hmono hgt
              go_wp2
              go_quiet (fail)
              go_wp2
              go_roundw
              case rel => exact ⟨k + 1, q2 + nq, by omega, by go_num, by rw [HR2.out, World.drewN_drewN]⟩
              case measure => simp [intOf]; omega
          · obtain rfl : n = k := by omega
            have HR2 := Lib.hid hwr
            clear hwr
            go_wp2
            go_roundw
            case rel => exact ⟨i + 1, q2, by omega, by go_num, HR2.out⟩
            case measure => simp [intOf]; omega
      · have b1 : (y == 0) = false := by simpa using hy0
        have HY0 := Lib.hid hy0
        clear hy0 hz
        go_wp2
        go_loopw [10] (fun vk wx => ∃ k q : Nat, k ≤ n ∧ vk = .int .i64 k ∧ wx = w1.drewN q) (fun vk _ => n - (intOf vk).toNat)
        case atStart => exact ⟨0, q, Nat.zero_le _, rfl, HR.out⟩
        case round =>
          clear hc1 hc2 b1
          obtain ⟨k, q2, hk, rfl, hwr⟩ := hrel
          by_cases hlk : k < n
          · obtain ⟨x2, hx2⟩ : ∃ x2, x2 = p k := ⟨_, rfl⟩
            obtain ⟨y2, hy2⟩ : ∃ y2, y2 = W k := ⟨_, rfl⟩
            have hd1 : wr.cell? ⟨pb, i, none⟩ = some (.int .i64 x) := by rw [hwr, HX.out]; have := HP.out i hlt; rw [Nat.zero_add] at this; exact this
            have hd2 : wr.cell? ⟨b, o + i, none⟩ = some (.int .i64 y) := by rw [hwr, HY.out]; exact HW.out i hlt
            have hd3 : wr.cell? ⟨pb, k, none⟩ = some (.int .i64 x2) := by rw [hwr, hx2]; have := HP.out k hlk; rw [Nat.zero_add] at this; exact this
            have hd4 : wr.cell? ⟨b, o + k, none⟩ = some (.int .i64 y2) := by rw [hwr, hy2]; exact HW.out k hlk
            have i1 : (i : Int) < (n : Int) := by omega
            have i2 : (k : Int) < (n : Int) := by omega
            have hmono : y2 < y → True := fun _ => trivial
            have HR2 := Lib.hid hwr
            clear hx2 hy2 hwr
            by_cases hgt : y2 < y
            · have hm := hmono hgt
              have g1 : decide (y2 < y) = true := decide_eq_true hgt
              have g2 : decide (0 < T) = false := decide_eq_false (by omega)
              have g4 : decide (T < 0) = false := decide_eq_false (by omega)
              clear hmono hm hgt
              go_wp2
              go_quiet (fail)
              go_wp2
              go_roundw
              case rel => exact ⟨k + 1, q2 + nq, by omega, by go_num, by rw [HR2.out, World.drewN_drewN]⟩
              case measure => simp [intOf]; omega
            · have g1 : decide (y2 < y) = false := decide_eq_false hgt
              clear hmono hgt
              go_wp2
              go_quiet (fail)
              go_wp2
              go_roundw
              case rel => exact ⟨k + 1, q2 + nq, by omega, by go_num, by rw [HR2.out, World.drewN_drewN]⟩
              case measure => simp [intOf]; omega
          · obtain rfl : n = k := by omega
            have HR2 := Lib.hid hwr
            clear hwr
            go_wp2
            go_roundw
            case rel => exact ⟨i + 1, q2, by omega, by go_num, HR2.out⟩
            case measure => simp [intOf]; omega
    · obtain rfl : n = i := by omega
      have HR := Lib.hid hwr
      clear hwr
      go_wp2_with (go_at_call 9; refine (awake_any _).mono ?_; rintro e w' ⟨rfl, hb⟩)
      go_ret
      have hb' := ‹Below _ _ _›
      rw [HR.out] at hb'
      exact ⟨rfl, HB.out.trans ((below_drewN (Below.refl _ w1) q).mono (Nat.le_refl _) |>.trans (hb'.mono (by have := HB.out.size; exact this)))⟩

end Go.Proofs.Ytaclniiagfpldaa
