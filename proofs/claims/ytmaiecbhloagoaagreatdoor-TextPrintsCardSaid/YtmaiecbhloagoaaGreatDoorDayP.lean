/-
  chattelref04: digits, Print, number, Read: what they answer.
-/
import Derived.Test.YtmaiecbhloagoaaGreatDoorDayJ
import Derived.Test.YtmaiecbhloagoaaGreatDoorDyM
import Derived.Deep.RegionHeld3
import Derived.Deep.RegionWith
import Derived.Deep.DeepCutAuto
import Derived.Lib.Strings
namespace Go.Proofs.YtmaiecbhloagoaaGreatDoor
open Go.RowKit Go.Lib
set_option linter.unusedVariables false

/-- So many digits of a number. -/
def dgL (n : Nat) : Nat → List UInt8
  | 0 => []
  | i + 1 => UInt8.ofNat (48 + n / 10 ^ i % 10) :: dgL n i
theorem dgL_len (n : Nat) : ∀ i, (dgL n i).length = i
  | 0 => rfl
  | i + 1 => by rw [dgL, List.length_cons, dgL_len n i]
theorem str_cat (x y : List UInt8) : (⟨x.toArray⟩ : ByteArray) ++ ⟨y.toArray⟩ = ⟨(x ++ y).toArray⟩ := ByteArray.mk_append_mk x y
theorem ret_strD {a b : ByteArray} (h : a = b) : Ending.returned (.string a) = .returned (.string b) := by rw [h]
theorem conv1 (w : World) (r : Nat) (hr : r < 10) : (convert 78 9 (.slice (some ⟨w.heap.size, 0, none⟩) 1 1)).run Tryz.prog (w.alloc (.cells #[.int .u8 (48 + (r : Int))] 5)) = .ok (.string ⟨#[UInt8.ofNat (48 + r)]⟩) (w.alloc (.cells #[.int .u8 (48 + (r : Int))] 5)) := by
  refine run_convert_bytes_back (P := Tryz.prog) (w.alloc (.cells #[.int .u8 (48 + (r : Int))] 5)) 78 9 5 ⟨w.heap.size, 0, none⟩ 1 [UInt8.ofNat (48 + r)] Tryz.underlying78 Tryz.underlying5 Tryz.underlying9 (fun j hj => ?_)
  obtain rfl : j = 0 := by simp at hj; omega
  have e : ((⟨w.heap.size, 0, none⟩ : Addr).add 0) = ⟨w.heap.size, 0, none⟩ := rfl
  rw [e, World.cell?_alloc_at _ _ _ _ rfl]
  have e2 : (UInt8.ofNat (48 + r)).toNat = 48 + r := by rw [UInt8.toNat_ofNat']; exact Nat.mod_eq_of_lt (by omega)
  show some (Value.int .u8 (48 + (r : Int))) = some (Value.int .u8 ((UInt8.ofNat (48 + r)).toNat : Int))
  rw [e2]; rfl

set_option maxHeartbeats 1000000 in
set_option maxRecDepth 100000 in
theorem digits_any4 (n many : Nat) (hn : n ≤ 100000) (hm : many ≤ 4) (w : World) : Calls Tryz.prog 41 #[.int .i64 n, .int .i64 many] w fun e w' => e = .returned (.string ⟨(dgL n many).toArray⟩) ∧ Below w.heap.size w w' := by
  obtain ⟨X, hX⟩ : ∃ X, X = dgL n many := ⟨_, rfl⟩
  rw [← hX]
  have HX := Lib.hid hX
  clear hX
  go_enter Tryz.func41, Tryz.ntmps41
  go_wp2_with fail
  go_loopw [0, 5, 6] (fun vn vs vi wx => ∃ (i v : Nat) (l : List UInt8), i ≤ many ∧ vi = .int .i64 i ∧ vn = .int .i64 v ∧ v ≤ 100000 ∧ v = n / 10 ^ i ∧ vs = .string ⟨l.toArray⟩ ∧ l.length = i ∧ l = dgL n i ∧ Below w.heap.size w wx) (fun _ _ vi _ => 4 - (RowKit.intOf vi).toNat)
  case atStart => exact ⟨0, n, [], by omega, rfl, rfl, hn, by simp, rfl, rfl, rfl, Below.refl _ _⟩
  case round =>
    obtain ⟨i, v, l, hi, rfl, rfl, hv, hvd, rfl, hl, hld, hb⟩ := hrel
    have HB := Lib.hid hb
    by_cases hlt : i < many
    · have hlt' : (i : Int) < (many : Int) := by omega
      obtain ⟨q, hq⟩ : ∃ q, q = v / 10 := ⟨_, rfl⟩
      obtain ⟨r, hr⟩ : ∃ r, r = v % 10 := ⟨_, rfl⟩
      have hq1 : (v : Int) / 10 = (q : Int) := by omega
      have hr1 : (v : Int) % 10 = (r : Int) := by omega
      have hr2 : r < 10 := by omega
      have kc := conv1 wr r hr2
      have HQ : Hid (q = n / 10 ^ (i + 1)) := Lib.hid (by rw [hq, hvd, Nat.pow_succ, Nat.div_div_eq_div_mul])
      have HL : Hid ([UInt8.ofNat (48 + r)] ++ l = dgL n (i + 1)) := Lib.hid (by rw [dgL, ← hvd, ← hr, hld]; rfl)
      have HLen := Lib.hid hl
      have hs1 : ¬ 9223372036854775807 < 1 + l.length := by omega
      have hs2 : 1 + l.length ≤ 9223372036854775807 := by omega
      have hq4 : q ≤ 100000 := by omega
      generalize UInt8.ofNat (48 + r) = c at *
      clear hq hr hvd hld hb hl
      go_wp2_with fail
      go_roundw
      case rel => exact ⟨i + 1, q, [c] ++ l, by omega, by go_num, by go_num, hq4, HQ.out, by rw [← str_cat], by have := HLen.out; simp; omega, HL.out, HB.out.trans ((below_new wr _).mono HB.out.size)⟩
      case measure => simp [RowKit.intOf]; omega
    · obtain rfl : i = many := by omega
      have HL := Lib.hid hld
      clear hvd hld hb hlt
      go_wp2_with fail
      go_ret
      exact ⟨ret_strD (by rw [HL.out, HX.out]), HB.out⟩

theorem undrewD {w w' : World} (h : Below w.drew.heap.size w.drew w') : Below w.heap.size w w' := ⟨h.os, h.tape, h.output, h.size, h.block⟩
theorem dgL_day {y m d : Nat} (hy : y < 10000) (hm : m < 100) (hd : d < 100) : dgL y 4 ++ [45] ++ dgL m 2 ++ [45] ++ dgL d 2 = dayL y m d := by
  obtain ⟨e0, e1, e2, e3, e4, e5, e6, e7, e8, e9⟩ := dayB_all hy hm hd
  have h : dayL y m d = [UInt8.ofNat (dayB y m d 0), UInt8.ofNat (dayB y m d 1), UInt8.ofNat (dayB y m d 2), UInt8.ofNat (dayB y m d 3), UInt8.ofNat (dayB y m d 4), UInt8.ofNat (dayB y m d 5), UInt8.ofNat (dayB y m d 6), UInt8.ofNat (dayB y m d 7), UInt8.ofNat (dayB y m d 8), UInt8.ofNat (dayB y m d 9)] := rfl
  rw [h, e0, e1, e2, e3, e4, e5, e6, e7, e8, e9]
  simp [dgL]
  refine ⟨?_, ?_, ?_⟩
  all_goals congr 1; congr 1; omega

set_option maxHeartbeats 4000000 in
set_option maxRecDepth 100000 in
theorem printr_any (y m d : Nat) (hy : y < 10000) (hm : m < 100) (hd : d < 100) (w : World) : Calls Tryz.prog 25 #[.agg #[.int .i64 y, .int .i64 m, .int .i64 d]] w fun e w' => e = .returned (.string ⟨(dayL y m d).toArray⟩) ∧ Below w.heap.size w w' := by
  have HA : Hid (∀ w, Calls Tryz.prog 41 #[.int .i64 y, .int .i64 4] w fun e w' => e = .returned (.string ⟨(dgL y 4).toArray⟩) ∧ Below w.heap.size w w') := Lib.hid (fun w => digits_any4 y 4 (by omega) (by omega) w)
  have HB : Hid (∀ w, Calls Tryz.prog 41 #[.int .i64 m, .int .i64 2] w fun e w' => e = .returned (.string ⟨(dgL m 2).toArray⟩) ∧ Below w.heap.size w w') := Lib.hid (fun w => digits_any4 m 2 (by omega) (by omega) w)
  have HC : Hid (∀ w, Calls Tryz.prog 41 #[.int .i64 d, .int .i64 2] w fun e w' => e = .returned (.string ⟨(dgL d 2).toArray⟩) ∧ Below w.heap.size w w') := Lib.hid (fun w => digits_any4 d 2 (by omega) (by omega) w)
  have HE := Lib.hid (dgL_day hy hm hd)
  have l1 := dgL_len y 4
  have l2 := dgL_len m 2
  have l3 := dgL_len d 2
  generalize dayL y m d = X at *
  generalize dgL y 4 = P at *
  generalize dgL m 2 = Q at *
  generalize dgL d 2 = R at *
  obtain ⟨c0, c1, c2⟩ := box3 (w := w) (w2 := w.alloc (.cells #[.int .i64 y, .int .i64 m, .int .i64 d] 54)) (x := .int .i64 y) (y := .int .i64 m) (z := .int .i64 d) (t := 54) (Below.refl _ _)
  have HW0 := Lib.hid (below_new w (.cells #[.int .i64 y, .int .i64 m, .int .i64 d] 54))
  clear hy hm hd
  go_enter Tryz.func25, Tryz.ntmps25
  go_wp2_with fail
  go_region_held3 (fun w' => w'.cell? ⟨w.heap.size, 0, none⟩ = some (.int .i64 y) ∧ w'.cell? ⟨w.heap.size, 1, none⟩ = some (.int .i64 m) ∧ w'.cell? ⟨w.heap.size, 2, none⟩ = some (.int .i64 d))
    (first | (with_reducible exact ⟨c0', c1', c2'⟩) | (with_reducible exact ⟨c0, c1, c2⟩) | go_keep)
    (first | (go_at_call 41; (with_reducible refine (HA.out _).mono ?_); rintro e w1 ⟨rfl, hb1⟩; have H1 := Lib.hid (undrewD hb1); have c0' := (H1.out.cell (p := ⟨w.heap.size, 0, none⟩) (cell_lt c0)).trans c0; have c1' := (H1.out.cell (p := ⟨w.heap.size, 1, none⟩) (cell_lt c1)).trans c1; have c2' := (H1.out.cell (p := ⟨w.heap.size, 2, none⟩) (cell_lt c2)).trans c2; clear hb1 c0 c1 c2) | (go_at_call 41; (with_reducible refine (HB.out _).mono ?_); rintro e w2 ⟨rfl, hb2⟩; have H2 := Lib.hid (bel_on H1.out hb2); have c0 := (hb2.cell (p := ⟨w.heap.size, 0, none⟩) (cell_lt c0')).trans c0'; have c1 := (hb2.cell (p := ⟨w.heap.size, 1, none⟩) (cell_lt c1')).trans c1'; have c2 := (hb2.cell (p := ⟨w.heap.size, 2, none⟩) (cell_lt c2')).trans c2'; clear hb2 c0' c1' c2') | (go_at_call 41; (with_reducible refine (HC.out _).mono ?_); rintro e w3 ⟨rfl, hb3⟩; have H3 := Lib.hid (bel_on H2.out hb3); have c0' := (hb3.cell (p := ⟨w.heap.size, 0, none⟩) (cell_lt c0)).trans c0; have c1' := (hb3.cell (p := ⟨w.heap.size, 1, none⟩) (cell_lt c1)).trans c1; have c2' := (hb3.cell (p := ⟨w.heap.size, 2, none⟩) (cell_lt c2)).trans c2; clear hb3 c0 c1 c2))
  all_goals go_wp2_with fail
  all_goals go_ret
  all_goals exact ⟨ret_strD (by rw [← HE.out]; simp only [str_cat, List.append_assoc]), bel_on HW0.out H3.out⟩

/-- Digits' value. -/
def valB (B : Nat → Nat) : Nat → Nat
  | 0 => 0
  | j + 1 => 10 * valB B j + (B j - 48)
def DgB (B : Nat → Nat) (j : Nat) : Prop := 48 ≤ B j ∧ B j ≤ 57
theorem valB_lt {B : Nat → Nat} : ∀ j, (∀ i, i < j → DgB B i) → valB B j < 10 ^ j
  | 0, _ => by simp [valB]
  | j + 1, h => by
    have ih := valB_lt j (fun i hi => h i (by omega)) (B := B)
    obtain ⟨h1, h2⟩ := h j (by omega)
    rw [Nat.pow_succ, valB]; omega
theorem valB_bd {B : Nat → Nat} {j : Nat} (hj : j ≤ 4) (h : ∀ i, i < j → DgB B i) : valB B j < 10000 :=
  Nat.lt_of_lt_of_le (valB_lt j h) (Nat.pow_le_pow_right (by decide) hj)
/-- What number answers. -/
def numV (B : Nat → Nat) (k : Nat) (v : Int) : Prop := ((∀ i, i < k → DgB B i) ∧ v = valB B k) ∨ ((¬ ∀ i, i < k → DgB B i) ∧ v = -1)

set_option maxHeartbeats 1000000 in
set_option maxRecDepth 100000 in
theorem numberD_any (s : ByteArray) (hs : s.size ≤ 4) (B : Nat → Nat) (hB : ∀ k (h : k < s.size), s[k].toNat = B k) (w : World) : Calls Tryz.prog 104 #[.string s] w fun e w' => (∃ v, e = .returned (.int .i64 v) ∧ numV B s.size v) ∧ w' = w := by
  have HB := Lib.hid hB
  clear hB
  go_enter Tryz.func104, Tryz.ntmps104
  go_wp2_with fail
  go_loop [3, 4] (fun vn vi => ∃ j : Nat, j ≤ s.size ∧ vi = .int .i64 j ∧ vn = .int .i64 (valB B j) ∧ ∀ i, i < j → DgB B i) (fun _ vi => 4 - (RowKit.intOf vi).toNat)
  case atStart => exact ⟨0, Nat.zero_le _, rfl, rfl, fun i hi => absurd hi (Nat.not_lt_zero i)⟩
  case round =>
    obtain ⟨j, hj, rfl, rfl, hok⟩ := hrel
    have HOk := Lib.hid hok
    by_cases hlt : j < s.size
    · have hc := HB.out j hlt
      obtain ⟨c, hcB⟩ : ∃ c, c = B j := ⟨_, rfl⟩
      rw [← hcB] at hc
      have HCB := Lib.hid hcB
      have hc255 : c ≤ 255 := by rw [← hc]; have := s[j].toNat_lt; omega
      have i0 : (0 : Int) ≤ (j : Int) := by omega
      have i2 : (j : Int) < (s.size : Int) := by omega
      have hbd := valB_bd (by omega) hok
      by_cases hdg : 48 ≤ c ∧ c ≤ 57
      · have b1 : ¬ (c : Int) < 48 := by omega
        have b2 : ¬ (57 : Int) < (c : Int) := by omega
        have b3 : (48 : Int) ≤ (c : Int) := by omega
        have HO2 : Hid (∀ i, i < j + 1 → DgB B i) := Lib.hid (fun i hi => by
          by_cases e : i = j
          · subst e; unfold DgB; rw [← HCB.out]; exact hdg
          · exact HOk.out i (by omega))
        have HV : Hid (((valB B (j + 1) : Nat) : Int) = 10 * (valB B j : Int) + ((c : Int) - 48)) := Lib.hid (by rw [valB, ← HCB.out]; omega)
        generalize valB B j = x at *
        clear hok hcB
        go_wp2_with fail
        go_round
        case rel => exact ⟨j + 1, by omega, by go_num, by rw [HV.out], HO2.out⟩
        case measure => simp [RowKit.intOf]; omega
      · have HNo : Hid (¬ ∀ i, i < s.size → DgB B i) := Lib.hid (fun h => by
          have := h j hlt
          unfold DgB at this
          rw [← HCB.out] at this
          exact hdg this)
        clear hok hcB hbd
        by_cases h48 : c < 48
        · have b1 : (c : Int) < 48 := by omega
          clear hdg
          go_wp2_with fail
          go_ret
          exact ⟨⟨-1, rfl, Or.inr ⟨HNo.out, rfl⟩⟩, rfl⟩
        · have b1 : ¬ (c : Int) < 48 := by omega
          have b2 : (57 : Int) < (c : Int) := by omega
          clear hdg
          go_wp2_with fail
          go_ret
          exact ⟨⟨-1, rfl, Or.inr ⟨HNo.out, rfl⟩⟩, rfl⟩
    · obtain rfl : j = s.size := by omega
      clear hok hlt
      go_wp2_with fail
      go_ret
      exact ⟨⟨_, rfl, Or.inl ⟨HOk.out, rfl⟩⟩, rfl⟩

end Go.Proofs.YtmaiecbhloagoaaGreatDoor
