/-
  chattelref04: digits, Print, number, Read: what they answer.
-/
import Derived.Test.YtdmdgoeacafpiaaGreatDoorDayJ
import Derived.Test.YtdmdgoeacafpiaaGreatDoorDyM
import Derived.Deep.RegionHeld3
import Derived.Deep.RegionWith
import Derived.Deep.DeepCutAuto
import Derived.Lib.Strings
namespace Go.Proofs.YtdmdgoeacafpiaaGreatDoor
open Go.RowKit Go.Lib
set_option linter.unusedVariables false

/-- So many digits of a number. -/
def dgL (n : Nat) : Nat → List UInt8
  | 0 => []
  | i + 1 => UInt8.ofNat (48 + n / 10 ^ i % 10) :: dgL n i
theorem dgL_len (n : Nat) : ∀ i, (dgL n i).length = i
  | 0 => rfl
  | i + 1 => by rw [dgL, List.length_cons, dgL_len n i]
theorem str_cat (x y : List UInt8) : (⟨x.toArray⟩ : ByteArray) ++ ⟨y.toArray⟩ = ⟨(x ++ y).toArray⟩ := ByteArray.mk_append_mk x y
theorem ret_strD {a b : ByteArray} (h : a = b) : Ending.returned (.string a) = .returned (.string b) := by rw [h]
theorem conv1 (w : World) (r : Nat) (hr : r < 10) : (convert 99 9 (.slice (some ⟨w.heap.size, 0, none⟩) 1 1)).run Tryz.prog (w.alloc (.cells #[.int .u8 (48 + (r : Int))] 5)) = .ok (.string ⟨#[UInt8.ofNat (48 + r)]⟩) (w.alloc (.cells #[.int .u8 (48 + (r : Int))] 5)) := by
  refine run_convert_bytes_back (P := Tryz.prog) (w.alloc (.cells #[.int .u8 (48 + (r : Int))] 5)) 99 9 5 ⟨w.heap.size, 0, none⟩ 1 [UInt8.ofNat (48 + r)] Tryz.underlying99 Tryz.underlying5 Tryz.underlying9 (fun j hj => ?_)
  obtain rfl : j = 0 := by simp at hj; omega
  have e : ((⟨w.heap.size, 0, none⟩ : Addr).add 0) = ⟨w.heap.size, 0, none⟩ := rfl
  rw [e, World.cell?_alloc_at _ _ _ _ rfl]
  have e2 : (UInt8.ofNat (48 + r)).toNat = 48 + r := by rw [UInt8.toNat_ofNat']; exact Nat.mod_eq_of_lt (by omega)
  show some (Value.int .u8 (48 + (r : Int))) = some (Value.int .u8 ((UInt8.ofNat (48 + r)).toNat : Int))
  rw [e2]; rfl

theorem undrewD {w w' : World} (h : Below w.drew.heap.size w.drew w') : Below w.heap.size w w' := ⟨h.os, h.tape, h.output, h.size, h.block⟩
theorem dgL_day {y m d : Nat} (hy : y < 10000) (hm : m < 100) (hd : d < 100) : dgL y 4 ++ [45] ++ dgL m 2 ++ [45] ++ dgL d 2 = dayL y m d := by
  obtain ⟨e0, e1, e2, e3, e4, e5, e6, e7, e8, e9⟩ := dayB_all hy hm hd
  have h : dayL y m d = [UInt8.ofNat (dayB y m d 0), UInt8.ofNat (dayB y m d 1), UInt8.ofNat (dayB y m d 2), UInt8.ofNat (dayB y m d 3), UInt8.ofNat (dayB y m d 4), UInt8.ofNat (dayB y m d 5), UInt8.ofNat (dayB y m d 6), UInt8.ofNat (dayB y m d 7), UInt8.ofNat (dayB y m d 8), UInt8.ofNat (dayB y m d 9)] := rfl
  rw [h, e0, e1, e2, e3, e4, e5, e6, e7, e8, e9]
  simp [dgL]
  refine ⟨?_, ?_, ?_⟩
  all_goals congr 1; congr 1; omega

/-- Digits' value. -/
def valB (B : Nat → Nat) : Nat → Nat
  | 0 => 0
  | j + 1 => 10 * valB B j + (B j - 48)
def DgB (B : Nat → Nat) (j : Nat) : Prop := 48 ≤ B j ∧ B j ≤ 57
theorem valB_lt {B : Nat → Nat} : ∀ j, (∀ i, i < j → DgB B i) → valB B j < 10 ^ j
  | 0, _ => by simp [valB]
  | j + 1, h => by
    have ih := valB_lt j (fun i hi => h i (by omega)) (B := B)
    obtain ⟨h1, h2⟩ := h j (by omega)
    rw [Nat.pow_succ, valB]; omega
theorem valB_bd {B : Nat → Nat} {j : Nat} (hj : j ≤ 4) (h : ∀ i, i < j → DgB B i) : valB B j < 10000 :=
  Nat.lt_of_lt_of_le (valB_lt j h) (Nat.pow_le_pow_right (by decide) hj)
/-- What number answers. -/
def numV (B : Nat → Nat) (k : Nat) (v : Int) : Prop := ((∀ i, i < k → DgB B i) ∧ v = valB B k) ∨ ((¬ ∀ i, i < k → DgB B i) ∧ v = -1)

set_option maxHeartbeats 1000000 in
set_option maxRecDepth 100000 in
theorem numberD_any (s : ByteArray) (hs : s.size ≤ 4) (B : Nat → Nat) (hB : ∀ k (h : k < s.size), s[k].toNat = B k) (w : World) : Calls Tryz.prog 75 #[.string s] w fun e w' => (∃ v, e = .returned (.int .i64 v) ∧ numV B s.size v) ∧ w' = w := by
  have HB := Lib.hid hB
  clear hB
  go_enter Tryz.func75, Tryz.ntmps75
  go_wp2_with fail
  go_loop [3, 4] (fun vn vi => ∃ j : Nat, j ≤ s.size ∧ vi = .int .i64 j ∧ vn = .int .i64 (valB B j) ∧ ∀ i, i < j → DgB B i) (fun _ vi => 4 - (RowKit.intOf vi).toNat)
  case atStart => exact ⟨0, Nat.zero_le _, rfl, rfl, fun i hi => absurd hi (Nat.not_lt_zero i)⟩
  case round =>
    obtain ⟨j, hj, rfl, rfl, hok⟩ := hrel
    have HOk := Lib.hid hok
    by_cases hlt : j < s.size
    · have hc := HB.out j hlt
      obtain ⟨c, hcB⟩ : ∃ c, c = B j := ⟨_, rfl⟩
      rw [← hcB] at hc
      have HCB := Lib.hid hcB
      have hc255 : c ≤ 255 := by rw [← hc]; have := s[j].toNat_lt; omega
      have i0 : (0 : Int) ≤ (j : Int) := by omega
      have i2 : (j : Int) < (s.size : Int) := by omega
      have hbd := valB_bd (by omega) hok
      by_cases hdg : 48 ≤ c ∧ c ≤ 57
      · have b1 : ¬ (c : Int) < 48 := by omega
        have b2 : ¬ (57 : Int) < (c : Int) := by omega
        have b3 : (48 : Int) ≤ (c : Int) := by omega
        have HO2 : Hid (∀ i, i < j + 1 → DgB B i) := Lib.hid (fun i hi => by
          by_cases e : i = j
          · subst e; unfold DgB; rw [← HCB.out]; exact hdg
          · exact HOk.out i (by omega))
        have HV : Hid (((valB B (j + 1) : Nat) : Int) = 10 * (valB B j : Int) + ((c : Int) - 48)) := Lib.hid (by rw [valB, ← HCB.out]; omega)
        generalize valB B j = x at *
        clear hok hcB
        go_wp2_with fail
        go_round
        case rel => exact ⟨j + 1, by omega, by go_num, by rw [HV.out], HO2.out⟩
        case measure => simp [RowKit.intOf]; omega
      · have HNo : Hid (¬ ∀ i, i < s.size → DgB B i) := Lib.hid (fun h => by
          have := h j hlt
          unfold DgB at this
          rw [← HCB.out] at this
          exact hdg this)
        clear hok hcB hbd
        by_cases h48 : c < 48
        · have b1 : (c : Int) < 48 := by omega
          clear hdg
          go_wp2_with fail
          go_ret
          exact ⟨⟨-1, rfl, Or.inr ⟨HNo.out, rfl⟩⟩, rfl⟩
        · have b1 : ¬ (c : Int) < 48 := by omega
          have b2 : (57 : Int) < (c : Int) := by omega
          clear hdg
          go_wp2_with fail
          go_ret
          exact ⟨⟨-1, rfl, Or.inr ⟨HNo.out, rfl⟩⟩, rfl⟩
    · obtain rfl : j = s.size := by omega
      clear hok hlt
      go_wp2_with fail
      go_ret
      exact ⟨⟨_, rfl, Or.inl ⟨HOk.out, rfl⟩⟩, rfl⟩

end Go.Proofs.YtdmdgoeacafpiaaGreatDoor
