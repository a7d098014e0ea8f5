/-
  chattelref01's Int.
-/
import Derived.Test.YtedjbmmegjgegaaRefF
namespace Go.Proofs.Ytedjbmmegjgegaa
open Go.RowKit
set_option linter.unusedVariables false

def FitsZ (z : Int) : Prop := -9223372036854775808 ≤ z ∧ z ≤ 9223372036854775807
def DropV (z i s : Int) : Prop := s = -(val ((bitsN z.natAbs).drop (i + 1).toNat) : Int)
def LowZ (z : Int) (i : Nat) : Prop := ∀ t, t < i → (bitsN z.natAbs).getD t 0 = 0

theorem val_drop_le (l : List Int) (i : Nat) : val (l.drop i) ≤ val l := by
  by_cases h : i ≤ l.length
  · rw [val_split l i h]
    have : 1 ≤ 2 ^ i := Nat.one_le_two_pow
    have : 1 * val (l.drop i) ≤ 2 ^ i * val (l.drop i) := Nat.mul_le_mul_right _ this
    omega
  · rw [List.drop_eq_nil_of_le (by omega)]; exact Nat.zero_le _
theorem DropV.start {z i : Int} {m : Nat} (hm : m = (bitsN z.natAbs).length) (hi : i = (m : Int) - 1) : DropV z i 0 := by
  unfold DropV
  rw [List.drop_eq_nil_of_le (by omega)]; rfl
theorem DropV.step {z s u : Int} {k : Nat} (h : DropV z k s) (hu : u = (bitsN z.natAbs).getD k 0) : DropV z ((k : Int) - 1) (2 * s - u) ∧ -(z.natAbs : Int) ≤ 2 * s ∧ -(z.natAbs : Int) ≤ 2 * s - u ∧ s ≤ 0 ∧ 0 ≤ u := by
  unfold DropV at *
  have h1 := val_drop (bitsN z.natAbs) k
  have h2 := val_drop_le (bitsN z.natAbs) k
  rw [val_bitsN] at h2
  have h3 : u = 0 ∨ u = 1 := by rw [hu]; exact bits_of_bitsN _ k
  rw [← hu] at h1
  have e1 : ((k : Int) + 1).toNat = k + 1 := by omega
  have e2 : ((k : Int) - 1 + 1).toNat = k := by omega
  rw [e1] at h
  rw [e2]
  omega
theorem DropV.done {z s : Int} (h : DropV z (-1) s) : s = -(z.natAbs : Int) := by
  unfold DropV at h
  rw [show ((-1 : Int) + 1).toNat = 0 from rfl, List.drop_zero, val_bitsN] at h; exact h

theorem bits_zero : ∀ l : List Int, IsBits l → val l = 0 → ∀ t, l.getD t 0 = 0
  | [], _, _, t => by simp
  | x :: l, hb, hv, t => by
    have h1 : x.toNat + 2 * val l = 0 := hv
    have h2 := hb.head
    match t with
    | 0 => show x = 0; omega
    | t + 1 => have := bits_zero l hb.tail (by omega) t; simpa using this
theorem low_take {l : List Int} {i : Nat} (h : ∀ t, t < i → l.getD t 0 = 0) : val (l.take i) = 0 := by
  apply val_zero
  intro t
  by_cases g : t < i
  · have := h t g
    rw [List.getD_eq_getElem?_getD] at this ⊢
    rw [List.getElem?_take, if_pos g]; exact this
  · rw [List.getD_eq_getElem?_getD, List.getElem?_take, if_neg g]; rfl
theorem top_half {z : Int} (hm : 64 = (bitsN z.natAbs).length) : val ((bitsN z.natAbs).drop 63) = 1 ∧ z.natAbs = val ((bitsN z.natAbs).take 63) + 2 ^ 63 := by
  have h1 := val_split (bitsN z.natAbs) 63 (by omega)
  have h2 : z.natAbs < 2 ^ 64 := bitsN_lt (by omega)
  have h3 : 2 ^ 63 ≤ z.natAbs := by
    have := bitsN_ge (n := z.natAbs) (by intro e; rw [e] at hm; simp at hm)
    rw [← hm] at this; exact this
  have h4 := val_lt (IsBits.take (bits_of_bitsN z.natAbs) 63)
  rw [List.length_take, ← hm, show min 63 64 = 63 from rfl] at h4
  rw [val_bitsN] at h1
  have h5 : val ((bitsN z.natAbs).drop 63) = 1 := by omega
  rw [h5] at h1
  exact ⟨h5, by omega⟩
theorem low_half {z : Int} (hm : 64 = (bitsN z.natAbs).length) (h : LowZ z 63) : z.natAbs = 9223372036854775808 := by
  have := (top_half hm).2
  rw [low_take h] at this; omega
theorem half_low {z : Int} (hm : 64 = (bitsN z.natAbs).length) (h : z.natAbs = 9223372036854775808) : LowZ z 63 := by
  intro t ht
  have h1 := (top_half hm).2
  have h2 := bits_zero _ (IsBits.take (bits_of_bitsN z.natAbs) 63) (by omega) t
  rw [List.getD_eq_getElem?_getD, List.getElem?_take, if_pos ht] at h2
  rw [List.getD_eq_getElem?_getD]; exact h2
theorem len_63 {z : Int} {m : Nat} (hm : m = (bitsN z.natAbs).length) (h : m ≤ 63) : z.natAbs < 9223372036854775808 := by
  have := bitsN_lt (n := z.natAbs) (k := 63) (by omega)
  exact this
theorem len_65 {z : Int} {m : Nat} (hm : m = (bitsN z.natAbs).length) (h : 64 < m) : ¬ FitsZ z := by
  have h1 := bitsN_ge (n := z.natAbs) (by intro e; rw [e] at hm; simp at hm; omega)
  have h2 : 2 ^ 64 ≤ z.natAbs := Nat.le_trans (Nat.pow_le_pow_right (by omega) (by omega)) h1
  unfold FitsZ; omega
theorem len_64 {z : Int} (hm : 64 = (bitsN z.natAbs).length) : FitsZ z ↔ LowZ z 63 ∧ z < 0 := by
  constructor
  · intro h
    have h1 := (top_half hm).2
    unfold FitsZ at h
    exact ⟨half_low hm (by omega), by omega⟩
  · rintro ⟨h, g⟩
    have := low_half hm h
    unfold FitsZ; omega

/-- What Int leaves. -/
def IntPost (z : Int) (w : World) (e : Ending) (w' : World) : Prop :=
  (FitsZ z → e = .returned (.tuple #[.int .i64 z, .bool true])) ∧ (¬ FitsZ z → e = .returned (.tuple #[.int .i64 0, .bool false])) ∧ Below w.heap.size w w'

theorem int_bad {z : Int} {w w' : World} (h : ¬ FitsZ z) (hb : Below w.heap.size w w') : IntPost z w (.returned (.tuple #[.int .i64 0, .bool false])) w' := ⟨fun g => absurd g h, fun _ => rfl, hb⟩
theorem int_good {z n : Int} {w w' : World} (h : FitsZ z) (hn : n = z) (hb : Below w.heap.size w w') : IntPost z w (.returned (.tuple #[.int .i64 n, .bool true])) w' := ⟨fun _ => by rw [hn], fun g => absurd h g, hb⟩

theorem int_ends {z s : Int} {sg : Bool} (hs : decide (z < 0) = sg) (h : DropV z (-1) s) (hf : FitsZ z) : (sg = true → s = z) ∧ (sg = false → -s = z ∧ IntKind.i64.wrap (-s) = -s) := by
  have := h.done
  unfold FitsZ at hf
  constructor
  · intro e; subst e; have := of_decide_eq_true hs; omega
  · intro e; subst e; have := of_decide_eq_false hs
    exact ⟨by omega, IntWalk.i64_in _ (by omega)⟩

set_option maxHeartbeats 4000000 in
set_option maxRecDepth 100000 in
theorem rint_main (z : Int) (a : Option Addr) (c m : Nat) (w : World) (h : BigA w z a c) (hm : m = (bitsN z.natAbs).length) (hlim : m ≤ 1000000) (sg : Bool) (hs : decide (z < 0) = sg) :
    Calls Try.prog 53 #[.agg #[.bool sg, .slice a m c]] w (IntPost z w) := by
  have hB : Below w.heap.size w (w.alloc (.cells #[.bool sg, .slice a m c] 101)) := Below.alloc (Below.refl _ w) (Nat.le_refl _) _
  have HBl := Lib.hid hB
  have HK : Hid (SLF (w.alloc (.cells #[.bool sg, .slice a m c] 101)) a (bitsN z.natAbs)) := Lib.hid (h.1.keep hB)
  have HM := Lib.hid hm
  have HS := Lib.hid hs
  clear hs h
  by_cases c1 : 64 < m
  · have HN := Lib.hid (len_65 hm c1)
    clear hm hB
    go_enter Try.func53, Try.ntmps53
    go_wp2
    go_ret2
    exact int_bad HN.out HBl.out
  · by_cases c2 : m = 64
    · subst c2
      have HL := Lib.hid (len_64 hm)
      clear hm hB
      go_enter Try.func53, Try.ntmps53
      go_wp2
      go_loopw [4] (fun vi wx => ∃ (i : Nat), vi = .int .i64 i ∧ i ≤ 63 ∧ LowZ z i ∧ wx = (w.alloc (.cells #[.bool sg, .slice a 64 c] 101))) (fun vi _ => 63 - (intOf vi).toNat)
      case atStart => exact ⟨0, rfl, by omega, fun t ht => absurd ht (by omega), rfl⟩
      case round =>
        obtain ⟨i, rfl, hi, hlow, rfl⟩ := hrel
        by_cases c3 : i < 63
        · obtain ⟨bb, oo, hpa, hpb, hpr⟩ := HK.out.cell (t := i) (by have := HM.out; omega)
          obtain ⟨u, hu⟩ : ∃ u, u = (bitsN z.natAbs).getD i 0 := ⟨_, rfl⟩
          have hcx : (w.alloc (.cells #[.bool sg, .slice a 64 c] 101)).cell? ⟨bb, oo + i, none⟩ = some (.int .i64 u) := by rw [hu]; exact hpr i (by have := HM.out; omega)
          subst hpa
          by_cases c4 : u = 0
          · have HI : Hid (LowZ z (i + 1)) := Lib.hid (fun t ht => by
              by_cases e : t = i
              · subst e; rw [← hu]; exact c4
              · exact hlow t (by omega))
            subst c4
            clear hlow hu hpr hpb
            go_wp2
            go_roundw
            case rel => exact ⟨i + 1, by go_num, by omega, HI.out, trivial⟩
            case measure => simp [intOf]; omega
          · have HN : Hid (¬ FitsZ z) := Lib.hid (fun g => c4 (by rw [hu]; exact (HL.out.1 g).1 i c3))
            have hb2 : (u != 0) = true := by simpa using c4
            clear hlow hu hpr hpb c4
            go_wp2
            go_ret2
            exact int_bad HN.out HBl.out
        · have e : i = 63 := by omega
          subst e
          cases sg
          · have HN : Hid (¬ FitsZ z) := Lib.hid (fun g => absurd (HL.out.1 g).2 (of_decide_eq_false HS.out))
            clear hlow
            go_wp2
            go_ret2
            exact int_bad HN.out HBl.out
          · have HF : Hid (FitsZ z) := Lib.hid (HL.out.2 ⟨hlow, of_decide_eq_true HS.out⟩)
            clear hlow
            go_wp2
            go_loopw [5, 6] (fun vn vi wx => ∃ (i s : Int), -1 ≤ i ∧ i < 64 ∧ vi = .int .i64 i ∧ vn = .int .i64 s ∧ DropV z i s ∧ wx = (w.alloc (.cells #[.bool true, .slice a 64 c] 101))) (fun _ vi _ => (intOf vi + 1).toNat)
            case atStart => exact ⟨63, 0, by omega, by omega, by go_num, rfl, DropV.start HM.out rfl, rfl⟩
            case round =>
              obtain ⟨i, s, hi0, hi1, rfl, rfl, hdv, rfl⟩ := hrel
              by_cases c1 : 0 ≤ i
              · obtain ⟨k, rfl⟩ := Int.eq_ofNat_of_zero_le c1
                obtain ⟨bb, oo, hpa, hpb, hpr⟩ := HK.out.cell (t := k) (by have := HM.out; omega)
                obtain ⟨u, hu⟩ : ∃ u, u = (bitsN z.natAbs).getD k 0 := ⟨_, rfl⟩
                have hcx : (w.alloc (.cells #[.bool true, .slice a 64 c] 101)).cell? ⟨bb, oo + k, none⟩ = some (.int .i64 u) := by rw [hu]; exact hpr k (by have := HM.out; omega)
                subst hpa
                obtain ⟨d1, d2, d3, d4, d5⟩ := hdv.step hu
                have hfz := HF.out
                unfold FitsZ at hfz
                have hab : (z.natAbs : Int) ≤ 9223372036854775808 := by omega
                have w1 : IntKind.i64.wrap (2 * s) = 2 * s := IntWalk.i64_in _ (by omega)
                have w2 : IntKind.i64.wrap (2 * s - u) = 2 * s - u := IntWalk.i64_in _ (by omega)
                have HD := Lib.hid d1
                clear d1 d2 d3 d4 d5 hfz hab hdv hu hpr hpb
                go_wp2
                go_roundw
                case rel => exact ⟨(k : Int) - 1, 2 * s - u, by omega, by omega, rfl, rfl, HD.out, trivial⟩
                case measure => simp [intOf]
              · have e : i = -1 := by omega
                subst e
                obtain ⟨d1, d2⟩ := int_ends HS.out hdv HF.out
                have HE := Lib.hid (d1 rfl)
                clear d1 d2 hdv
                go_wp2
                go_ret2
                exact int_good HF.out HE.out HBl.out
    · have HF : Hid (FitsZ z) := Lib.hid (by have := len_63 hm (by omega); unfold FitsZ; omega)
      clear hm hB
      go_enter Try.func53, Try.ntmps53
      go_wp2
      go_loopw [5, 6] (fun vn vi wx => ∃ (i s : Int), -1 ≤ i ∧ i < m ∧ vi = .int .i64 i ∧ vn = .int .i64 s ∧ DropV z i s ∧ wx = (w.alloc (.cells #[.bool sg, .slice a m c] 101))) (fun _ vi _ => (intOf vi + 1).toNat)
      case atStart => exact ⟨(m : Int) - 1, 0, by omega, by omega, by go_num, rfl, DropV.start HM.out rfl, rfl⟩
      case round =>
        obtain ⟨i, s, hi0, hi1, rfl, rfl, hdv, rfl⟩ := hrel
        by_cases c1 : 0 ≤ i
        · obtain ⟨k, rfl⟩ := Int.eq_ofNat_of_zero_le c1
          obtain ⟨bb, oo, hpa, hpb, hpr⟩ := HK.out.cell (t := k) (by have := HM.out; omega)
          obtain ⟨u, hu⟩ : ∃ u, u = (bitsN z.natAbs).getD k 0 := ⟨_, rfl⟩
          have hcx : (w.alloc (.cells #[.bool sg, .slice a m c] 101)).cell? ⟨bb, oo + k, none⟩ = some (.int .i64 u) := by rw [hu]; exact hpr k (by have := HM.out; omega)
          subst hpa
          obtain ⟨d1, d2, d3, d4, d5⟩ := hdv.step hu
          have hfz := HF.out
          unfold FitsZ at hfz
          have hab : (z.natAbs : Int) ≤ 9223372036854775808 := by omega
          have w1 : IntKind.i64.wrap (2 * s) = 2 * s := IntWalk.i64_in _ (by omega)
          have w2 : IntKind.i64.wrap (2 * s - u) = 2 * s - u := IntWalk.i64_in _ (by omega)
          have HD := Lib.hid d1
          clear d1 d2 d3 d4 d5 hfz hab hdv hu hpr hpb
          go_wp2
          go_roundw
          case rel => exact ⟨(k : Int) - 1, 2 * s - u, by omega, by omega, rfl, rfl, HD.out, trivial⟩
          case measure => simp [intOf]
        · have e : i = -1 := by omega
          subst e
          obtain ⟨d1, d2⟩ := int_ends HS.out hdv HF.out
          cases sg
          · have w1 := (d2 rfl).2
            have HE := Lib.hid (d2 rfl).1
            clear d1 d2 hdv
            go_wp2
            go_ret2
            exact int_good HF.out HE.out HBl.out
          · have HE := Lib.hid (d1 rfl)
            clear d1 d2 hdv
            go_wp2
            go_ret2
            exact int_good HF.out HE.out HBl.out

theorem rint_any (z : Int) (v : Value) (w : World) (h : BigV w v z) (hz : z.natAbs < 2 ^ 1000) :
    Calls Try.prog 53 #[v] w (IntPost z w) := by
  obtain ⟨a, c, rfl, g⟩ := h.open
  exact rint_main z a c _ w g rfl (Nat.le_trans (bitsN_len 1000 _ hz) (by omega)) _ rfl

end Go.Proofs.Ytedjbmmegjgegaa
