/-
  chattelref06: Word, Print: what they answer.
-/
import Derived.Test.YtmaiecbhloagoaaGreatDoorPsR
import Derived.Test.YtmaiecbhloagoaaGreatDoorTrm
import Derived.Test.YtmaiecbhloagoaaGreatDoorCshU
import Derived.Test.YtmaiecbhloagoaaGreatDoorDayP
namespace Go.Proofs.YtmaiecbhloagoaaGreatDoor
open Go.RowKit Go.Lib
set_option linter.unusedVariables false
set_option linter.unusedSimpArgs false

set_option maxRecDepth 100000 in
set_option maxHeartbeats 2000000 in
theorem rword_any (k : Nat) (hk : k < 18) (w : World) : Calls Tryz.prog 22 #[.int .i64 k] w fun e w' => e = .returned (.string ⟨(wdN k).toArray⟩) ∧ Below w.heap.size w w' :=
  match k, hk with
  | 0, _ => by
    go_enter Tryz.func22, Tryz.ntmps22
    go_wp2_with fail
    go_ret
    exact ⟨rfl, newB _ _⟩
  | 1, _ => by
    go_enter Tryz.func22, Tryz.ntmps22
    go_wp2_with fail
    go_ret
    exact ⟨rfl, newB _ _⟩
  | 2, _ => by
    go_enter Tryz.func22, Tryz.ntmps22
    go_wp2_with fail
    go_ret
    exact ⟨rfl, newB _ _⟩
  | 3, _ => by
    go_enter Tryz.func22, Tryz.ntmps22
    go_wp2_with fail
    go_ret
    exact ⟨rfl, newB _ _⟩
  | 4, _ => by
    go_enter Tryz.func22, Tryz.ntmps22
    go_wp2_with fail
    go_ret
    exact ⟨rfl, newB _ _⟩
  | 5, _ => by
    go_enter Tryz.func22, Tryz.ntmps22
    go_wp2_with fail
    go_ret
    exact ⟨rfl, newB _ _⟩
  | 6, _ => by
    go_enter Tryz.func22, Tryz.ntmps22
    go_wp2_with fail
    go_ret
    exact ⟨rfl, newB _ _⟩
  | 7, _ => by
    go_enter Tryz.func22, Tryz.ntmps22
    go_wp2_with fail
    go_ret
    exact ⟨rfl, newB _ _⟩
  | 8, _ => by
    go_enter Tryz.func22, Tryz.ntmps22
    go_wp2_with fail
    go_ret
    exact ⟨rfl, newB _ _⟩
  | 9, _ => by
    go_enter Tryz.func22, Tryz.ntmps22
    go_wp2_with fail
    go_ret
    exact ⟨rfl, newB _ _⟩
  | 10, _ => by
    go_enter Tryz.func22, Tryz.ntmps22
    go_wp2_with fail
    go_ret
    exact ⟨rfl, newB _ _⟩
  | 11, _ => by
    go_enter Tryz.func22, Tryz.ntmps22
    go_wp2_with fail
    go_ret
    exact ⟨rfl, newB _ _⟩
  | 12, _ => by
    go_enter Tryz.func22, Tryz.ntmps22
    go_wp2_with fail
    go_ret
    exact ⟨rfl, newB _ _⟩
  | 13, _ => by
    go_enter Tryz.func22, Tryz.ntmps22
    go_wp2_with fail
    go_ret
    exact ⟨rfl, newB _ _⟩
  | 14, _ => by
    go_enter Tryz.func22, Tryz.ntmps22
    go_wp2_with fail
    go_ret
    exact ⟨rfl, newB _ _⟩
  | 15, _ => by
    go_enter Tryz.func22, Tryz.ntmps22
    go_wp2_with fail
    go_ret
    exact ⟨rfl, newB _ _⟩
  | 16, _ => by
    go_enter Tryz.func22, Tryz.ntmps22
    go_wp2_with fail
    go_ret
    exact ⟨rfl, newB _ _⟩
  | 17, _ => by
    go_enter Tryz.func22, Tryz.ntmps22
    go_wp2_with fail
    go_ret
    exact ⟨rfl, newB _ _⟩
  | k + 18, h => absurd h (by omega)
theorem ret_si {a b : ByteArray} {x y : Int} (h : a = b) (h' : x = y) : Ending.returned (.tuple #[.string a, .int .i64 x]) = .returned (.tuple #[.string b, .int .i64 y]) := by rw [h, h']
theorem join_snoc (L : List (List UInt8)) (x : List UInt8) (h : L ≠ []) : Lib.join (L ++ [x]) [44, 32] = Lib.join L [44, 32] ++ ([44, 32] ++ x) := by
  cases L with
  | nil => exact absurd rfl h
  | cons y r => rw [List.cons_append, Lib.join_cons, Lib.join_cons]; unfold Lib.joinTail; simp
/-- A text as it grows by the terms below. -/
def grX (X : List UInt8) (g : Nat → List UInt8) (i : Nat) : List UInt8 := X ++ (if i = 0 then [] else 40 :: Lib.join (uptoT g i) [44, 32])
theorem grX_zero (X : List UInt8) (g : Nat → List UInt8) : grX X g 0 = X := by unfold grX; simp
theorem grX_one (X : List UInt8) (g : Nat → List UInt8) : grX X g 1 = X ++ (40 :: g 0) := by unfold grX; simp [uptoT, Lib.join]
theorem grX_more (X : List UInt8) (g : Nat → List UInt8) (i : Nat) (h : 0 < i) : grX X g (i + 1) = grX X g i ++ ([44, 32] ++ g i) := by
  unfold grX
  rw [if_neg (by omega), if_neg (by omega), uptoT_succ, join_snoc _ _ (fun e => by have := congrArg List.length e; rw [uptoT_length] at this; simp at this; omega)]
  simp
theorem rdayT_any (d : Nat) (h : d < 73049) (w : World) : Calls Tryz.prog 25 #[.agg #[.int .i64 (yrN d), .int .i64 (moN d), .int .i64 (daN d)]] w fun e w' => e = .returned (.string ⟨(dayL (yrN d) (moN d) (daN d)).toArray⟩) ∧ Below w.heap.size w w' := by
  have hml := mon_lt d
  have hs := (fst_step _ hml).2
  have hb := mon_long h
  exact printr_any _ _ _ (by unfold yrN; omega) (by unfold moN; omega) (by unfold daN; omega) w

set_option maxRecDepth 100000 in
set_option maxHeartbeats 2000000 in
theorem rpr_num (t : List Nd) (b o cap : Nat) (hcap : t.length ≤ cap) (hcm : cap ≤ 9223372036854775807) (p : Nat) (hp : p < t.length) (h1000 : t.length ≤ 1000) (ho : opA t p = 1) (hI : I64T (t.getD p default).num ∧ I64T (t.getD p default).den) (w : World) (hN : NdA w b o t) :
    Calls Tryz.prog 12 #[.slice (some ⟨b, o, none⟩) t.length cap, .int .i64 p] w fun e w' => e = .returned (.tuple #[.string ⟨(hdX (t.getD p default)).toArray⟩, .int .i64 ((p + 1 : Nat) : Int)]) ∧ Below w.heap.size w w' := by
  have hX : hdX (t.getD p default) = txt (t.getD p default).num (t.getD p default).den := by unfold hdX; rw [if_pos (show (t.getD p default).op = 1 from ho)]
  have HP := Lib.hid (fun w' : World => rprint_any (t.getD p default).num (t.getD p default).den w' hI.1.1 hI.1.2 hI.2.1 hI.2.2)
  obtain ⟨n0, n1, n2, n3, n4⟩ := hN p hp
  have HB0 := Lib.hid (newB w)
  rw [hX]
  rw [show (t.getD p default).op = 1 from ho] at n0
  generalize txt (t.getD p default).num (t.getD p default).den = X at *
  generalize t.getD p default = nd at *
  obtain ⟨op, na, nb, num, den⟩ := nd
  dsimp only at *
  have i0 : (0 : Int) ≤ (p : Int) := by omega
  have i1 : (p : Int) < (t.length : Int) := by omega
  have i2 : (p : Int) ≤ 1000 := by omega
  clear hN hI hX ho
  go_enter Tryz.func12, Tryz.ntmps12
  go_wp2_with fail
  refine (HP.out _).mono ?_
  rintro e w1 ⟨rfl, hb1⟩
  have HB1 := Lib.hid (onB (HB0.out _) hb1)
  clear hb1
  go_wp2_with fail
  go_ret2
  exact ⟨by first | rfl | (congr 3; go_num), HB1.out⟩

set_option maxRecDepth 100000 in
set_option maxHeartbeats 4000000 in
theorem rpr_k2 (k : Nat) (hk : k < 18) (hkc : k = 2) (t : List Nd) (hL : t.length ≤ 64) (b o cap : Nat) (hcap : t.length ≤ cap) (hcm : cap ≤ 9223372036854775807) (p : Nat) (hp : p < t.length) (na nb num den : Int) (hnd : t.getD p default = ⟨(k : Int), na, nb, num, den⟩) (hok : okN ⟨(k : Int), na, nb, num, den⟩)
    (c : Nat) (hcn : cnO (k : Int) = c) (hc4 : c ≤ 4) (q : Nat → Nat) (hq0 : q 0 = p + 1) (hqe : q c = p + szA t p) (g : Nat → List UInt8) (R : List UInt8) (X : List UInt8) (hX : X = hdX ⟨(k : Int), na, nb, num, den⟩) (hPr : R = X ++ (if c = 0 then [] else 40 :: Lib.join (uptoT g c) [44, 32] ++ [41])) (hlen : ∀ i, i ≤ c → (grX X g i).length ≤ 5000) (hqs : ∀ i, i < c → q (i + 1) ≤ 64)
    (w : World) (hN : NdA w b o t) (hkid : ∀ i, i < c → ∀ w', Below w.heap.size w w' → Calls Tryz.prog 12 #[.slice (some ⟨b, o, none⟩) t.length cap, .int .i64 ((q i : Nat) : Int)] w' fun e w'' => e = .returned (.tuple #[.string ⟨(g i).toArray⟩, .int .i64 ((q (i + 1) : Nat) : Int)]) ∧ Below w'.heap.size w' w'') :
    Calls Tryz.prog 12 #[.slice (some ⟨b, o, none⟩) t.length cap, .int .i64 p] w fun e w' => e = .returned (.tuple #[.string ⟨R.toArray⟩, .int .i64 ((p + szA t p : Nat) : Int)]) ∧ Below w.heap.size w w' := by
  have HPr := Lib.hid hPr
  have HKid := Lib.hid hkid
  have HLen := Lib.hid hlen
  have HQ0 := Lib.hid hq0
  have HQe' := Lib.hid hqe
  have HQs := Lib.hid hqs
  have HW := Lib.hid (fun w' : World => rword_any k hk w')
  have HKs := Lib.hid (fun w' : World => rkids_any (k : Int) w')
  have hks : (kidsS (k : Int)).size = c := (kidsS_size _).trans hcn
  generalize hKS : kidsS (k : Int) = KS at *
  clear hKS
  obtain ⟨n0, n1, n2, n3, n4⟩ := hN p hp
  rw [hnd] at n0 n1 n2 n3 n4
  dsimp only at n0 n1 n2 n3 n4
  have HB0 : Hid (Below w.heap.size w (w.alloc (.cells #[.int .i64 (k : Int), .int .i64 na, .int .i64 nb, .int .i64 num, .int .i64 den] 48))) := Lib.hid (newB w _)
  have HBx : Hid (∀ w', Below (w.alloc (.cells #[.int .i64 (k : Int), .int .i64 na, .int .i64 nb, .int .i64 num, .int .i64 den] 48)).heap.size (w.alloc (.cells #[.int .i64 (k : Int), .int .i64 na, .int .i64 nb, .int .i64 num, .int .i64 den] 48)) w' → w'.cell? ⟨w.heap.size, 0, none⟩ = some (.int .i64 (k : Int)) ∧ w'.cell? ⟨w.heap.size, 1, none⟩ = some (.int .i64 na) ∧ w'.cell? ⟨w.heap.size, 2, none⟩ = some (.int .i64 nb)) := Lib.hid (fun w' hb => by
    obtain ⟨m0, m1, m2, _, _⟩ := nd_cells w ⟨(k : Int), na, nb, num, den⟩ 48
    exact ⟨keepT hb m0, keepT hb m1, keepT hb m2⟩)
  have i0 : (0 : Int) ≤ (p : Int) := by omega
  have i1 : (p : Int) < (t.length : Int) := by omega
  have i2 : (p : Int) ≤ 1000 := by omega
  have i3 : (0 : Int) ≤ (k : Int) := by omega
  obtain ⟨o1, _, _, o4⟩ := hok
  have hix : ixO (k : Int) = k := by unfold ixO; rw [if_pos ⟨by omega, by omega⟩]; rfl
  dsimp only at o4
  rw [hix] at o4
  subst hkc
  obtain ⟨a0, a1⟩ : 0 ≤ na ∧ na ≤ 63 := o4 7 (by decide)
  have HF := Lib.hid (fun w' : World => dec_any na w' (by omega) (by omega))
  have hfl : (itoa na).length ≤ 20 := itoa_len20 (by omega) (by omega)
  have HXe : Hid (X = wdN 2 ++ ([32] ++ itoa na)) := Lib.hid (by rw [hX]; show wdN 2 ++ ([7].flatMap fun f => 32 :: fieldX _ f) = _; simp [fieldX])
  have hw5 := wd_len ⟨2, by decide⟩
  dsimp only at hw5
  generalize itoa na = F at *
  generalize wdN 2 = Wd at *
  have l3 : ¬ 9223372036854775807 < Wd.length + 1 := by omega
  have l4 : ¬ 9223372036854775807 < Wd.length + 1 + F.length := by omega
  clear hPr hkid hlen hq0 hqe hqs hnd hN hcn hix o4 hX
  go_enter Tryz.func12, Tryz.ntmps12
  go_wp2_with fail
  clear n0 n1 n2 n3 n4
  refine (HW.out _).mono ?_
  rintro e w1 ⟨rfl, hb1⟩
  have HB1 := Lib.hid hb1
  obtain ⟨m0, m1, m2⟩ := HBx.out _ hb1
  clear hb1
  go_wp2_with fail
  refine (HF.out _).mono ?_
  rintro e w2 ⟨rfl, hb2⟩
  have HB2 := Lib.hid (HB1.out.trans (hb2.mono HB1.out.size))
  clear m0 m1 m2
  obtain ⟨m0, m1, m2⟩ := HBx.out _ HB2.out
  clear hb2
  go_wp2_with fail

  refine (HKs.out _).mono ?_
  rintro e w5 ⟨rfl, hb5⟩
  have HBs := Lib.hid (onB HB0.out (HB2.out.trans (hb5.mono HB2.out.size)))
  clear hb5 m0 m1 m2
  go_wp2_with fail
  go_loopw [7, 8, 10] (fun vs vn vi wx => ∃ i : Nat, i ≤ c ∧ vi = .int .i64 i ∧ vn = .int .i64 ((q i : Nat) : Int) ∧ vs = .string ⟨(grX X g i).toArray⟩ ∧ Below w.heap.size w wx) (fun _ _ vi _ => c - (RowKit.intOf vi).toNat)
  case atStart => exact ⟨0, Nat.zero_le _, rfl, by rw [HQ0.out]; first | rfl | (congr 1; go_num), by first | (rw [grX_zero, HXe.out]; done) | (rw [grX_zero, HXe.out]; simp [ByteArray.mk_append_mk]), HBs.out⟩
  case round =>
    obtain ⟨i, hi, rfl, rfl, rfl, hb⟩ := hrel
    have HB := Lib.hid hb
    by_cases hlt : i < c
    · have HKd := Lib.hid (HKid.out i hlt wr hb)
      have hgl := HLen.out (i + 1) (by omega)
      have hgl0 := HLen.out i (by omega)
      have hq1 := HQs.out i hlt
      have j0 : (0 : Int) ≤ (i : Int) := by omega
      have j1 : (i : Int) < (c : Int) := by omega
      by_cases h0 : i = 0
      · subst h0
        have HG : Hid (grX X g 1 = grX X g 0 ++ [40] ++ g 0) := Lib.hid (by rw [grX_one, grX_zero]; simp)
        rw [HG.out] at hgl
        simp only [List.length_append, List.length_cons, List.length_nil] at hgl
        generalize hY : grX X g 0 = Y at *
        generalize g 0 = gi at *
        generalize hq2 : q (0 + 1) = q1 at *
        have HQ2 := Lib.hid hq2
        clear hq2
        generalize q 0 = qi at *
        have l1 : ¬ 9223372036854775807 < Y.length + 1 := by omega
        have l2 : ¬ 9223372036854775807 < Y.length + 1 + gi.length := by omega
        clear hb hY
        go_wp2_with fail
        refine HKd.out.mono ?_
        rintro e w3 ⟨rfl, hb3⟩
        have HB3 := Lib.hid (onB HB.out hb3)
        clear hb3
        go_wp2_with fail
        go_roundw
        case rel => exact ⟨1, by omega, by go_num, by rw [← HQ2.out], by rw [HG.out]; simp [ByteArray.mk_append_mk], HB3.out⟩
        case measure => simp [RowKit.intOf]; omega
      · have hi1 : ((i : Int) == 0) = false := by simp; omega
        have HG : Hid (grX X g (i + 1) = grX X g i ++ [44, 32] ++ g i) := Lib.hid (by rw [grX_more X g i (by omega)]; simp)
        rw [HG.out] at hgl
        simp only [List.length_append, List.length_cons, List.length_nil] at hgl
        generalize grX X g i = Y at *
        generalize g i = gi at *
        generalize hq2 : q (i + 1) = q1 at *
        have HQ2 := Lib.hid hq2
        clear hq2
        generalize q i = qi at *
        have l1 : ¬ 9223372036854775807 < Y.length + 2 := by omega
        have l2 : ¬ 9223372036854775807 < Y.length + 2 + gi.length := by omega
        clear hb h0
        go_wp2_with fail
        refine HKd.out.mono ?_
        rintro e w3 ⟨rfl, hb3⟩
        have HB3 := Lib.hid (onB HB.out hb3)
        clear hb3
        go_wp2_with fail
        go_roundw
        case rel => exact ⟨i + 1, by omega, by go_num, by rw [← HQ2.out], by rw [HG.out]; simp [ByteArray.mk_append_mk], HB3.out⟩
        case measure => simp [RowKit.intOf]; omega
    · obtain rfl : i = c := by omega
      have hgl := HLen.out i (Nat.le_refl _)
      by_cases hc : i = 0
      · subst hc
        have HR : Hid (R = grX X g 0) := Lib.hid (by rw [HPr.out, grX_zero]; simp)
        have HQe := Lib.hid HQe'.out
        generalize grX X g 0 = Y at *
        clear hb
        go_wp2_with fail
        go_ret2
        exact ⟨ret_si (by rw [HR.out]) (by have := HQe.out; omega), HB.out⟩
      · have hc1 : (0 : Int) < (i : Int) := by omega
        have HR : Hid (R = grX X g i ++ [41]) := Lib.hid (by rw [HPr.out, if_neg hc]; unfold grX; rw [if_neg hc]; simp)
        have HQe := Lib.hid HQe'.out
        generalize grX X g i = Y at *
        have l1 : ¬ 9223372036854775807 < Y.length + 1 := by omega
        clear hb hc
        go_wp2_with fail
        go_ret2
        exact ⟨ret_si (by rw [HR.out]; simp [ByteArray.mk_append_mk]) (by have := HQe.out; omega), HB.out⟩

set_option maxRecDepth 100000 in
set_option maxHeartbeats 4000000 in
theorem rpr_k16 (k : Nat) (hk : k < 18) (hkc : k = 16) (t : List Nd) (hL : t.length ≤ 64) (b o cap : Nat) (hcap : t.length ≤ cap) (hcm : cap ≤ 9223372036854775807) (p : Nat) (hp : p < t.length) (na nb num den : Int) (hnd : t.getD p default = ⟨(k : Int), na, nb, num, den⟩) (hok : okN ⟨(k : Int), na, nb, num, den⟩)
    (c : Nat) (hcn : cnO (k : Int) = c) (hc4 : c ≤ 4) (q : Nat → Nat) (hq0 : q 0 = p + 1) (hqe : q c = p + szA t p) (g : Nat → List UInt8) (R : List UInt8) (X : List UInt8) (hX : X = hdX ⟨(k : Int), na, nb, num, den⟩) (hPr : R = X ++ (if c = 0 then [] else 40 :: Lib.join (uptoT g c) [44, 32] ++ [41])) (hlen : ∀ i, i ≤ c → (grX X g i).length ≤ 5000) (hqs : ∀ i, i < c → q (i + 1) ≤ 64)
    (w : World) (hN : NdA w b o t) (hkid : ∀ i, i < c → ∀ w', Below w.heap.size w w' → Calls Tryz.prog 12 #[.slice (some ⟨b, o, none⟩) t.length cap, .int .i64 ((q i : Nat) : Int)] w' fun e w'' => e = .returned (.tuple #[.string ⟨(g i).toArray⟩, .int .i64 ((q (i + 1) : Nat) : Int)]) ∧ Below w'.heap.size w' w'') :
    Calls Tryz.prog 12 #[.slice (some ⟨b, o, none⟩) t.length cap, .int .i64 p] w fun e w' => e = .returned (.tuple #[.string ⟨R.toArray⟩, .int .i64 ((p + szA t p : Nat) : Int)]) ∧ Below w.heap.size w w' := by
  have HPr := Lib.hid hPr
  have HKid := Lib.hid hkid
  have HLen := Lib.hid hlen
  have HQ0 := Lib.hid hq0
  have HQe' := Lib.hid hqe
  have HQs := Lib.hid hqs
  have HW := Lib.hid (fun w' : World => rword_any k hk w')
  have HKs := Lib.hid (fun w' : World => rkids_any (k : Int) w')
  have hks : (kidsS (k : Int)).size = c := (kidsS_size _).trans hcn
  generalize hKS : kidsS (k : Int) = KS at *
  clear hKS
  obtain ⟨n0, n1, n2, n3, n4⟩ := hN p hp
  rw [hnd] at n0 n1 n2 n3 n4
  dsimp only at n0 n1 n2 n3 n4
  have HB0 : Hid (Below w.heap.size w (w.alloc (.cells #[.int .i64 (k : Int), .int .i64 na, .int .i64 nb, .int .i64 num, .int .i64 den] 48))) := Lib.hid (newB w _)
  have HBx : Hid (∀ w', Below (w.alloc (.cells #[.int .i64 (k : Int), .int .i64 na, .int .i64 nb, .int .i64 num, .int .i64 den] 48)).heap.size (w.alloc (.cells #[.int .i64 (k : Int), .int .i64 na, .int .i64 nb, .int .i64 num, .int .i64 den] 48)) w' → w'.cell? ⟨w.heap.size, 0, none⟩ = some (.int .i64 (k : Int)) ∧ w'.cell? ⟨w.heap.size, 1, none⟩ = some (.int .i64 na) ∧ w'.cell? ⟨w.heap.size, 2, none⟩ = some (.int .i64 nb)) := Lib.hid (fun w' hb => by
    obtain ⟨m0, m1, m2, _, _⟩ := nd_cells w ⟨(k : Int), na, nb, num, den⟩ 48
    exact ⟨keepT hb m0, keepT hb m1, keepT hb m2⟩)
  have i0 : (0 : Int) ≤ (p : Int) := by omega
  have i1 : (p : Int) < (t.length : Int) := by omega
  have i2 : (p : Int) ≤ 1000 := by omega
  have i3 : (0 : Int) ≤ (k : Int) := by omega
  obtain ⟨o1, _, _, o4⟩ := hok
  have hix : ixO (k : Int) = k := by unfold ixO; rw [if_pos ⟨by omega, by omega⟩]; rfl
  dsimp only at o4
  rw [hix] at o4
  subst hkc
  obtain ⟨a0, a1⟩ : 0 ≤ na ∧ na ≤ 63 := o4 7 (by decide)
  have HF := Lib.hid (fun w' : World => dec_any na w' (by omega) (by omega))
  have hfl : (itoa na).length ≤ 20 := itoa_len20 (by omega) (by omega)
  have HXe : Hid (X = wdN 16 ++ ([32] ++ itoa na)) := Lib.hid (by rw [hX]; show wdN 16 ++ ([7].flatMap fun f => 32 :: fieldX _ f) = _; simp [fieldX])
  have hw5 := wd_len ⟨16, by decide⟩
  dsimp only at hw5
  generalize itoa na = F at *
  generalize wdN 16 = Wd at *
  have l3 : ¬ 9223372036854775807 < Wd.length + 1 := by omega
  have l4 : ¬ 9223372036854775807 < Wd.length + 1 + F.length := by omega
  clear hPr hkid hlen hq0 hqe hqs hnd hN hcn hix o4 hX
  go_enter Tryz.func12, Tryz.ntmps12
  go_wp2_with fail
  clear n0 n1 n2 n3 n4
  refine (HW.out _).mono ?_
  rintro e w1 ⟨rfl, hb1⟩
  have HB1 := Lib.hid hb1
  obtain ⟨m0, m1, m2⟩ := HBx.out _ hb1
  clear hb1
  go_wp2_with fail
  refine (HF.out _).mono ?_
  rintro e w2 ⟨rfl, hb2⟩
  have HB2 := Lib.hid (HB1.out.trans (hb2.mono HB1.out.size))
  clear m0 m1 m2
  obtain ⟨m0, m1, m2⟩ := HBx.out _ HB2.out
  clear hb2
  go_wp2_with fail

  refine (HKs.out _).mono ?_
  rintro e w5 ⟨rfl, hb5⟩
  have HBs := Lib.hid (onB HB0.out (HB2.out.trans (hb5.mono HB2.out.size)))
  clear hb5 m0 m1 m2
  go_wp2_with fail
  go_loopw [7, 8, 10] (fun vs vn vi wx => ∃ i : Nat, i ≤ c ∧ vi = .int .i64 i ∧ vn = .int .i64 ((q i : Nat) : Int) ∧ vs = .string ⟨(grX X g i).toArray⟩ ∧ Below w.heap.size w wx) (fun _ _ vi _ => c - (RowKit.intOf vi).toNat)
  case atStart => exact ⟨0, Nat.zero_le _, rfl, by rw [HQ0.out]; first | rfl | (congr 1; go_num), by first | (rw [grX_zero, HXe.out]; done) | (rw [grX_zero, HXe.out]; simp [ByteArray.mk_append_mk]), HBs.out⟩
  case round =>
    obtain ⟨i, hi, rfl, rfl, rfl, hb⟩ := hrel
    have HB := Lib.hid hb
    by_cases hlt : i < c
    · have HKd := Lib.hid (HKid.out i hlt wr hb)
      have hgl := HLen.out (i + 1) (by omega)
      have hgl0 := HLen.out i (by omega)
      have hq1 := HQs.out i hlt
      have j0 : (0 : Int) ≤ (i : Int) := by omega
      have j1 : (i : Int) < (c : Int) := by omega
      by_cases h0 : i = 0
      · subst h0
        have HG : Hid (grX X g 1 = grX X g 0 ++ [40] ++ g 0) := Lib.hid (by rw [grX_one, grX_zero]; simp)
        rw [HG.out] at hgl
        simp only [List.length_append, List.length_cons, List.length_nil] at hgl
        generalize hY : grX X g 0 = Y at *
        generalize g 0 = gi at *
        generalize hq2 : q (0 + 1) = q1 at *
        have HQ2 := Lib.hid hq2
        clear hq2
        generalize q 0 = qi at *
        have l1 : ¬ 9223372036854775807 < Y.length + 1 := by omega
        have l2 : ¬ 9223372036854775807 < Y.length + 1 + gi.length := by omega
        clear hb hY
        go_wp2_with fail
        refine HKd.out.mono ?_
        rintro e w3 ⟨rfl, hb3⟩
        have HB3 := Lib.hid (onB HB.out hb3)
        clear hb3
        go_wp2_with fail
        go_roundw
        case rel => exact ⟨1, by omega, by go_num, by rw [← HQ2.out], by rw [HG.out]; simp [ByteArray.mk_append_mk], HB3.out⟩
        case measure => simp [RowKit.intOf]; omega
      · have hi1 : ((i : Int) == 0) = false := by simp; omega
        have HG : Hid (grX X g (i + 1) = grX X g i ++ [44, 32] ++ g i) := Lib.hid (by rw [grX_more X g i (by omega)]; simp)
        rw [HG.out] at hgl
        simp only [List.length_append, List.length_cons, List.length_nil] at hgl
        generalize grX X g i = Y at *
        generalize g i = gi at *
        generalize hq2 : q (i + 1) = q1 at *
        have HQ2 := Lib.hid hq2
        clear hq2
        generalize q i = qi at *
        have l1 : ¬ 9223372036854775807 < Y.length + 2 := by omega
        have l2 : ¬ 9223372036854775807 < Y.length + 2 + gi.length := by omega
        clear hb h0
        go_wp2_with fail
        refine HKd.out.mono ?_
        rintro e w3 ⟨rfl, hb3⟩
        have HB3 := Lib.hid (onB HB.out hb3)
        clear hb3
        go_wp2_with fail
        go_roundw
        case rel => exact ⟨i + 1, by omega, by go_num, by rw [← HQ2.out], by rw [HG.out]; simp [ByteArray.mk_append_mk], HB3.out⟩
        case measure => simp [RowKit.intOf]; omega
    · obtain rfl : i = c := by omega
      have hgl := HLen.out i (Nat.le_refl _)
      by_cases hc : i = 0
      · subst hc
        have HR : Hid (R = grX X g 0) := Lib.hid (by rw [HPr.out, grX_zero]; simp)
        have HQe := Lib.hid HQe'.out
        generalize grX X g 0 = Y at *
        clear hb
        go_wp2_with fail
        go_ret2
        exact ⟨ret_si (by rw [HR.out]) (by have := HQe.out; omega), HB.out⟩
      · have hc1 : (0 : Int) < (i : Int) := by omega
        have HR : Hid (R = grX X g i ++ [41]) := Lib.hid (by rw [HPr.out, if_neg hc]; unfold grX; rw [if_neg hc]; simp)
        have HQe := Lib.hid HQe'.out
        generalize grX X g i = Y at *
        have l1 : ¬ 9223372036854775807 < Y.length + 1 := by omega
        clear hb hc
        go_wp2_with fail
        go_ret2
        exact ⟨ret_si (by rw [HR.out]; simp [ByteArray.mk_append_mk]) (by have := HQe.out; omega), HB.out⟩

set_option maxRecDepth 100000 in
set_option maxHeartbeats 4000000 in
theorem rpr_one (k : Nat) (hk : k < 18) (hkc : k = 10) (t : List Nd) (hL : t.length ≤ 64) (b o cap : Nat) (hcap : t.length ≤ cap) (hcm : cap ≤ 9223372036854775807) (p : Nat) (hp : p < t.length) (na nb num den : Int) (hnd : t.getD p default = ⟨(k : Int), na, nb, num, den⟩) (hok : okN ⟨(k : Int), na, nb, num, den⟩)
    (c : Nat) (hcn : cnO (k : Int) = c) (hc4 : c ≤ 4) (q : Nat → Nat) (hq0 : q 0 = p + 1) (hqe : q c = p + szA t p) (g : Nat → List UInt8) (R : List UInt8) (X : List UInt8) (hX : X = hdX ⟨(k : Int), na, nb, num, den⟩) (hPr : R = X ++ (if c = 0 then [] else 40 :: Lib.join (uptoT g c) [44, 32] ++ [41])) (hlen : ∀ i, i ≤ c → (grX X g i).length ≤ 5000) (hqs : ∀ i, i < c → q (i + 1) ≤ 64)
    (w : World) (hN : NdA w b o t) (hkid : ∀ i, i < c → ∀ w', Below w.heap.size w w' → Calls Tryz.prog 12 #[.slice (some ⟨b, o, none⟩) t.length cap, .int .i64 ((q i : Nat) : Int)] w' fun e w'' => e = .returned (.tuple #[.string ⟨(g i).toArray⟩, .int .i64 ((q (i + 1) : Nat) : Int)]) ∧ Below w'.heap.size w' w'') :
    Calls Tryz.prog 12 #[.slice (some ⟨b, o, none⟩) t.length cap, .int .i64 p] w fun e w' => e = .returned (.tuple #[.string ⟨R.toArray⟩, .int .i64 ((p + szA t p : Nat) : Int)]) ∧ Below w.heap.size w w' := by
  have HPr := Lib.hid hPr
  have HKid := Lib.hid hkid
  have HLen := Lib.hid hlen
  have HQ0 := Lib.hid hq0
  have HQe' := Lib.hid hqe
  have HQs := Lib.hid hqs
  have HW := Lib.hid (fun w' : World => rword_any k hk w')
  have HKs := Lib.hid (fun w' : World => rkids_any (k : Int) w')
  have hks : (kidsS (k : Int)).size = c := (kidsS_size _).trans hcn
  generalize hKS : kidsS (k : Int) = KS at *
  clear hKS
  obtain ⟨n0, n1, n2, n3, n4⟩ := hN p hp
  rw [hnd] at n0 n1 n2 n3 n4
  dsimp only at n0 n1 n2 n3 n4
  have HB0 : Hid (Below w.heap.size w (w.alloc (.cells #[.int .i64 (k : Int), .int .i64 na, .int .i64 nb, .int .i64 num, .int .i64 den] 48))) := Lib.hid (newB w _)
  have HBx : Hid (∀ w', Below (w.alloc (.cells #[.int .i64 (k : Int), .int .i64 na, .int .i64 nb, .int .i64 num, .int .i64 den] 48)).heap.size (w.alloc (.cells #[.int .i64 (k : Int), .int .i64 na, .int .i64 nb, .int .i64 num, .int .i64 den] 48)) w' → w'.cell? ⟨w.heap.size, 0, none⟩ = some (.int .i64 (k : Int)) ∧ w'.cell? ⟨w.heap.size, 1, none⟩ = some (.int .i64 na) ∧ w'.cell? ⟨w.heap.size, 2, none⟩ = some (.int .i64 nb)) := Lib.hid (fun w' hb => by
    obtain ⟨m0, m1, m2, _, _⟩ := nd_cells w ⟨(k : Int), na, nb, num, den⟩ 48
    exact ⟨keepT hb m0, keepT hb m1, keepT hb m2⟩)
  have i0 : (0 : Int) ≤ (p : Int) := by omega
  have i1 : (p : Int) < (t.length : Int) := by omega
  have i2 : (p : Int) ≤ 1000 := by omega
  have i3 : (0 : Int) ≤ (k : Int) := by omega
  obtain ⟨o1, _, _, o4⟩ := hok
  have hix : ixO (k : Int) = k := by unfold ixO; rw [if_pos ⟨by omega, by omega⟩]; rfl
  dsimp only at o4
  rw [hix] at o4
  subst hkc
  obtain ⟨a0, a1⟩ : 0 ≤ na ∧ na < 8 := o4 6 (by decide)
  have HF := Lib.hid (fun w' : World => rname_any na.toNat (by omega) w')
  rw [Int.toNat_of_nonneg a0] at HF
  have hfl : (curN na.toNat).length ≤ 20 := fieldX_len ⟨10, na, nb, num, den⟩ 6 ⟨a0, a1⟩
  have HXe : Hid (X = wdN 10 ++ ([32] ++ curN na.toNat)) := Lib.hid (by rw [hX]; show wdN 10 ++ ([6].flatMap fun f => 32 :: fieldX _ f) = _; simp [fieldX])
  have hw5 := wd_len ⟨10, by decide⟩
  dsimp only at hw5
  generalize curN na.toNat = F at *
  generalize wdN 10 = Wd at *
  have l3 : ¬ 9223372036854775807 < Wd.length + 1 := by omega
  have l4 : ¬ 9223372036854775807 < Wd.length + 1 + F.length := by omega
  clear hPr hkid hlen hq0 hqe hqs hnd hN hcn hix o4 hX
  go_enter Tryz.func12, Tryz.ntmps12
  go_wp2_with fail
  clear n0 n1 n2 n3 n4
  refine (HW.out _).mono ?_
  rintro e w1 ⟨rfl, hb1⟩
  have HB1 := Lib.hid hb1
  obtain ⟨m0, m1, m2⟩ := HBx.out _ hb1
  clear hb1
  go_wp2_with fail
  refine (HF.out _).mono ?_
  rintro e w2 ⟨rfl, hb2⟩
  have HB2 := Lib.hid (HB1.out.trans (hb2.mono HB1.out.size))
  clear m0 m1 m2
  obtain ⟨m0, m1, m2⟩ := HBx.out _ HB2.out
  clear hb2
  go_wp2_with fail

  refine (HKs.out _).mono ?_
  rintro e w5 ⟨rfl, hb5⟩
  have HBs := Lib.hid (onB HB0.out (HB2.out.trans (hb5.mono HB2.out.size)))
  clear hb5 m0 m1 m2
  go_wp2_with fail
  go_loopw [7, 8, 10] (fun vs vn vi wx => ∃ i : Nat, i ≤ c ∧ vi = .int .i64 i ∧ vn = .int .i64 ((q i : Nat) : Int) ∧ vs = .string ⟨(grX X g i).toArray⟩ ∧ Below w.heap.size w wx) (fun _ _ vi _ => c - (RowKit.intOf vi).toNat)
  case atStart => exact ⟨0, Nat.zero_le _, rfl, by rw [HQ0.out]; first | rfl | (congr 1; go_num), by first | (rw [grX_zero, HXe.out]; done) | (rw [grX_zero, HXe.out]; simp [ByteArray.mk_append_mk]), HBs.out⟩
  case round =>
    obtain ⟨i, hi, rfl, rfl, rfl, hb⟩ := hrel
    have HB := Lib.hid hb
    by_cases hlt : i < c
    · have HKd := Lib.hid (HKid.out i hlt wr hb)
      have hgl := HLen.out (i + 1) (by omega)
      have hgl0 := HLen.out i (by omega)
      have hq1 := HQs.out i hlt
      have j0 : (0 : Int) ≤ (i : Int) := by omega
      have j1 : (i : Int) < (c : Int) := by omega
      by_cases h0 : i = 0
      · subst h0
        have HG : Hid (grX X g 1 = grX X g 0 ++ [40] ++ g 0) := Lib.hid (by rw [grX_one, grX_zero]; simp)
        rw [HG.out] at hgl
        simp only [List.length_append, List.length_cons, List.length_nil] at hgl
        generalize hY : grX X g 0 = Y at *
        generalize g 0 = gi at *
        generalize hq2 : q (0 + 1) = q1 at *
        have HQ2 := Lib.hid hq2
        clear hq2
        generalize q 0 = qi at *
        have l1 : ¬ 9223372036854775807 < Y.length + 1 := by omega
        have l2 : ¬ 9223372036854775807 < Y.length + 1 + gi.length := by omega
        clear hb hY
        go_wp2_with fail
        refine HKd.out.mono ?_
        rintro e w3 ⟨rfl, hb3⟩
        have HB3 := Lib.hid (onB HB.out hb3)
        clear hb3
        go_wp2_with fail
        go_roundw
        case rel => exact ⟨1, by omega, by go_num, by rw [← HQ2.out], by rw [HG.out]; simp [ByteArray.mk_append_mk], HB3.out⟩
        case measure => simp [RowKit.intOf]; omega
      · have hi1 : ((i : Int) == 0) = false := by simp; omega
        have HG : Hid (grX X g (i + 1) = grX X g i ++ [44, 32] ++ g i) := Lib.hid (by rw [grX_more X g i (by omega)]; simp)
        rw [HG.out] at hgl
        simp only [List.length_append, List.length_cons, List.length_nil] at hgl
        generalize grX X g i = Y at *
        generalize g i = gi at *
        generalize hq2 : q (i + 1) = q1 at *
        have HQ2 := Lib.hid hq2
        clear hq2
        generalize q i = qi at *
        have l1 : ¬ 9223372036854775807 < Y.length + 2 := by omega
        have l2 : ¬ 9223372036854775807 < Y.length + 2 + gi.length := by omega
        clear hb h0
        go_wp2_with fail
        refine HKd.out.mono ?_
        rintro e w3 ⟨rfl, hb3⟩
        have HB3 := Lib.hid (onB HB.out hb3)
        clear hb3
        go_wp2_with fail
        go_roundw
        case rel => exact ⟨i + 1, by omega, by go_num, by rw [← HQ2.out], by rw [HG.out]; simp [ByteArray.mk_append_mk], HB3.out⟩
        case measure => simp [RowKit.intOf]; omega
    · obtain rfl : i = c := by omega
      have hgl := HLen.out i (Nat.le_refl _)
      by_cases hc : i = 0
      · subst hc
        have HR : Hid (R = grX X g 0) := Lib.hid (by rw [HPr.out, grX_zero]; simp)
        have HQe := Lib.hid HQe'.out
        generalize grX X g 0 = Y at *
        clear hb
        go_wp2_with fail
        go_ret2
        exact ⟨ret_si (by rw [HR.out]) (by have := HQe.out; omega), HB.out⟩
      · have hc1 : (0 : Int) < (i : Int) := by omega
        have HR : Hid (R = grX X g i ++ [41]) := Lib.hid (by rw [HPr.out, if_neg hc]; unfold grX; rw [if_neg hc]; simp)
        have HQe := Lib.hid HQe'.out
        generalize grX X g i = Y at *
        have l1 : ¬ 9223372036854775807 < Y.length + 1 := by omega
        clear hb hc
        go_wp2_with fail
        go_ret2
        exact ⟨ret_si (by rw [HR.out]; simp [ByteArray.mk_append_mk]) (by have := HQe.out; omega), HB.out⟩

set_option maxRecDepth 100000 in
set_option maxHeartbeats 4000000 in
theorem rpr_when (k : Nat) (hk : k < 18) (hkc : k = 14) (t : List Nd) (hL : t.length ≤ 64) (b o cap : Nat) (hcap : t.length ≤ cap) (hcm : cap ≤ 9223372036854775807) (p : Nat) (hp : p < t.length) (na nb num den : Int) (hnd : t.getD p default = ⟨(k : Int), na, nb, num, den⟩) (hok : okN ⟨(k : Int), na, nb, num, den⟩)
    (c : Nat) (hcn : cnO (k : Int) = c) (hc4 : c ≤ 4) (q : Nat → Nat) (hq0 : q 0 = p + 1) (hqe : q c = p + szA t p) (g : Nat → List UInt8) (R : List UInt8) (X : List UInt8) (hX : X = hdX ⟨(k : Int), na, nb, num, den⟩) (hPr : R = X ++ (if c = 0 then [] else 40 :: Lib.join (uptoT g c) [44, 32] ++ [41])) (hlen : ∀ i, i ≤ c → (grX X g i).length ≤ 5000) (hqs : ∀ i, i < c → q (i + 1) ≤ 64)
    (w : World) (hN : NdA w b o t) (hkid : ∀ i, i < c → ∀ w', Below w.heap.size w w' → Calls Tryz.prog 12 #[.slice (some ⟨b, o, none⟩) t.length cap, .int .i64 ((q i : Nat) : Int)] w' fun e w'' => e = .returned (.tuple #[.string ⟨(g i).toArray⟩, .int .i64 ((q (i + 1) : Nat) : Int)]) ∧ Below w'.heap.size w' w'') :
    Calls Tryz.prog 12 #[.slice (some ⟨b, o, none⟩) t.length cap, .int .i64 p] w fun e w' => e = .returned (.tuple #[.string ⟨R.toArray⟩, .int .i64 ((p + szA t p : Nat) : Int)]) ∧ Below w.heap.size w w' := by
  have HPr := Lib.hid hPr
  have HKid := Lib.hid hkid
  have HLen := Lib.hid hlen
  have HQ0 := Lib.hid hq0
  have HQe' := Lib.hid hqe
  have HQs := Lib.hid hqs
  have HW := Lib.hid (fun w' : World => rword_any k hk w')
  have HKs := Lib.hid (fun w' : World => rkids_any (k : Int) w')
  have hks : (kidsS (k : Int)).size = c := (kidsS_size _).trans hcn
  generalize hKS : kidsS (k : Int) = KS at *
  clear hKS
  obtain ⟨n0, n1, n2, n3, n4⟩ := hN p hp
  rw [hnd] at n0 n1 n2 n3 n4
  dsimp only at n0 n1 n2 n3 n4
  have HB0 : Hid (Below w.heap.size w (w.alloc (.cells #[.int .i64 (k : Int), .int .i64 na, .int .i64 nb, .int .i64 num, .int .i64 den] 48))) := Lib.hid (newB w _)
  have HBx : Hid (∀ w', Below (w.alloc (.cells #[.int .i64 (k : Int), .int .i64 na, .int .i64 nb, .int .i64 num, .int .i64 den] 48)).heap.size (w.alloc (.cells #[.int .i64 (k : Int), .int .i64 na, .int .i64 nb, .int .i64 num, .int .i64 den] 48)) w' → w'.cell? ⟨w.heap.size, 0, none⟩ = some (.int .i64 (k : Int)) ∧ w'.cell? ⟨w.heap.size, 1, none⟩ = some (.int .i64 na) ∧ w'.cell? ⟨w.heap.size, 2, none⟩ = some (.int .i64 nb)) := Lib.hid (fun w' hb => by
    obtain ⟨m0, m1, m2, _, _⟩ := nd_cells w ⟨(k : Int), na, nb, num, den⟩ 48
    exact ⟨keepT hb m0, keepT hb m1, keepT hb m2⟩)
  have i0 : (0 : Int) ≤ (p : Int) := by omega
  have i1 : (p : Int) < (t.length : Int) := by omega
  have i2 : (p : Int) ≤ 1000 := by omega
  have i3 : (0 : Int) ≤ (k : Int) := by omega
  obtain ⟨o1, _, _, o4⟩ := hok
  have hix : ixO (k : Int) = k := by unfold ixO; rw [if_pos ⟨by omega, by omega⟩]; rfl
  dsimp only at o4
  rw [hix] at o4
  subst hkc
  obtain ⟨a0, a1⟩ : 0 ≤ na ∧ na ≤ 73048 := o4 8 (by decide)
  have HOna := Lib.hid (fun w' : World => dofr_any na.toNat (by omega) w')
  rw [Int.toNat_of_nonneg a0] at HOna
  have HDna := Lib.hid (fun w' : World => rdayT_any na.toNat (by omega) w')
  have hfl : (dayT na.toNat).length ≤ 20 := fieldX_len ⟨14, na, nb, num, den⟩ 8 ⟨a0, a1⟩
  have HXe : Hid (X = wdN 14 ++ ([32] ++ dayT na.toNat)) := Lib.hid (by rw [hX]; show wdN 14 ++ ([8].flatMap fun f => 32 :: fieldX _ f) = _; simp [fieldX])
  unfold dayT at HXe hfl
  have hw5 := wd_len ⟨14, by decide⟩
  dsimp only at hw5
  generalize dayL (yrN na.toNat) (moN na.toNat) (daN na.toNat) = F at *
  generalize wdN 14 = Wd at *
  have l3 : ¬ 9223372036854775807 < Wd.length + 1 := by omega
  have l4 : ¬ 9223372036854775807 < Wd.length + 1 + F.length := by omega
  clear hPr hkid hlen hq0 hqe hqs hnd hN hcn hix o4 hX
  go_enter Tryz.func12, Tryz.ntmps12
  go_wp2_with fail
  clear n0 n1 n2 n3 n4
  refine (HW.out _).mono ?_
  rintro e w1 ⟨rfl, hb1⟩
  have HB1 := Lib.hid hb1
  obtain ⟨m0, m1, m2⟩ := HBx.out _ hb1
  clear hb1
  go_wp2_with fail
  refine (HOna.out _).mono ?_
  rintro e w2 ⟨rfl, hb2⟩
  have HB3 := Lib.hid (HB1.out.trans (hb2.mono HB1.out.size))
  clear m0 m1 m2
  obtain ⟨m0, m1, m2⟩ := HBx.out _ HB3.out
  clear hb2
  go_wp2_with fail
  refine (HDna.out _).mono ?_
  rintro e w4 ⟨rfl, hb2⟩
  have HB2 := Lib.hid (HB3.out.trans (hb2.mono HB3.out.size))
  clear m0 m1 m2
  obtain ⟨m0, m1, m2⟩ := HBx.out _ HB2.out
  clear hb2
  go_wp2_with fail

  refine (HKs.out _).mono ?_
  rintro e w5 ⟨rfl, hb5⟩
  have HBs := Lib.hid (onB HB0.out (HB2.out.trans (hb5.mono HB2.out.size)))
  clear hb5 m0 m1 m2
  go_wp2_with fail
  go_loopw [7, 8, 10] (fun vs vn vi wx => ∃ i : Nat, i ≤ c ∧ vi = .int .i64 i ∧ vn = .int .i64 ((q i : Nat) : Int) ∧ vs = .string ⟨(grX X g i).toArray⟩ ∧ Below w.heap.size w wx) (fun _ _ vi _ => c - (RowKit.intOf vi).toNat)
  case atStart => exact ⟨0, Nat.zero_le _, rfl, by rw [HQ0.out]; first | rfl | (congr 1; go_num), by first | (rw [grX_zero, HXe.out]; done) | (rw [grX_zero, HXe.out]; simp [ByteArray.mk_append_mk]), HBs.out⟩
  case round =>
    obtain ⟨i, hi, rfl, rfl, rfl, hb⟩ := hrel
    have HB := Lib.hid hb
    by_cases hlt : i < c
    · have HKd := Lib.hid (HKid.out i hlt wr hb)
      have hgl := HLen.out (i + 1) (by omega)
      have hgl0 := HLen.out i (by omega)
      have hq1 := HQs.out i hlt
      have j0 : (0 : Int) ≤ (i : Int) := by omega
      have j1 : (i : Int) < (c : Int) := by omega
      by_cases h0 : i = 0
      · subst h0
        have HG : Hid (grX X g 1 = grX X g 0 ++ [40] ++ g 0) := Lib.hid (by rw [grX_one, grX_zero]; simp)
        rw [HG.out] at hgl
        simp only [List.length_append, List.length_cons, List.length_nil] at hgl
        generalize hY : grX X g 0 = Y at *
        generalize g 0 = gi at *
        generalize hq2 : q (0 + 1) = q1 at *
        have HQ2 := Lib.hid hq2
        clear hq2
        generalize q 0 = qi at *
        have l1 : ¬ 9223372036854775807 < Y.length + 1 := by omega
        have l2 : ¬ 9223372036854775807 < Y.length + 1 + gi.length := by omega
        clear hb hY
        go_wp2_with fail
        refine HKd.out.mono ?_
        rintro e w3 ⟨rfl, hb3⟩
        have HB3 := Lib.hid (onB HB.out hb3)
        clear hb3
        go_wp2_with fail
        go_roundw
        case rel => exact ⟨1, by omega, by go_num, by rw [← HQ2.out], by rw [HG.out]; simp [ByteArray.mk_append_mk], HB3.out⟩
        case measure => simp [RowKit.intOf]; omega
      · have hi1 : ((i : Int) == 0) = false := by simp; omega
        have HG : Hid (grX X g (i + 1) = grX X g i ++ [44, 32] ++ g i) := Lib.hid (by rw [grX_more X g i (by omega)]; simp)
        rw [HG.out] at hgl
        simp only [List.length_append, List.length_cons, List.length_nil] at hgl
        generalize grX X g i = Y at *
        generalize g i = gi at *
        generalize hq2 : q (i + 1) = q1 at *
        have HQ2 := Lib.hid hq2
        clear hq2
        generalize q i = qi at *
        have l1 : ¬ 9223372036854775807 < Y.length + 2 := by omega
        have l2 : ¬ 9223372036854775807 < Y.length + 2 + gi.length := by omega
        clear hb h0
        go_wp2_with fail
        refine HKd.out.mono ?_
        rintro e w3 ⟨rfl, hb3⟩
        have HB3 := Lib.hid (onB HB.out hb3)
        clear hb3
        go_wp2_with fail
        go_roundw
        case rel => exact ⟨i + 1, by omega, by go_num, by rw [← HQ2.out], by rw [HG.out]; simp [ByteArray.mk_append_mk], HB3.out⟩
        case measure => simp [RowKit.intOf]; omega
    · obtain rfl : i = c := by omega
      have hgl := HLen.out i (Nat.le_refl _)
      by_cases hc : i = 0
      · subst hc
        have HR : Hid (R = grX X g 0) := Lib.hid (by rw [HPr.out, grX_zero]; simp)
        have HQe := Lib.hid HQe'.out
        generalize grX X g 0 = Y at *
        clear hb
        go_wp2_with fail
        go_ret2
        exact ⟨ret_si (by rw [HR.out]) (by have := HQe.out; omega), HB.out⟩
      · have hc1 : (0 : Int) < (i : Int) := by omega
        have HR : Hid (R = grX X g i ++ [41]) := Lib.hid (by rw [HPr.out, if_neg hc]; unfold grX; rw [if_neg hc]; simp)
        have HQe := Lib.hid HQe'.out
        generalize grX X g i = Y at *
        have l1 : ¬ 9223372036854775807 < Y.length + 1 := by omega
        clear hb hc
        go_wp2_with fail
        go_ret2
        exact ⟨ret_si (by rw [HR.out]; simp [ByteArray.mk_append_mk]) (by have := HQe.out; omega), HB.out⟩

set_option maxRecDepth 100000 in
set_option maxHeartbeats 4000000 in
theorem rpr_last (k : Nat) (hk : k < 18) (hkc : k = 17) (t : List Nd) (hL : t.length ≤ 64) (b o cap : Nat) (hcap : t.length ≤ cap) (hcm : cap ≤ 9223372036854775807) (p : Nat) (hp : p < t.length) (na nb num den : Int) (hnd : t.getD p default = ⟨(k : Int), na, nb, num, den⟩) (hok : okN ⟨(k : Int), na, nb, num, den⟩)
    (c : Nat) (hcn : cnO (k : Int) = c) (hc4 : c ≤ 4) (q : Nat → Nat) (hq0 : q 0 = p + 1) (hqe : q c = p + szA t p) (g : Nat → List UInt8) (R : List UInt8) (X : List UInt8) (hX : X = hdX ⟨(k : Int), na, nb, num, den⟩) (hPr : R = X ++ (if c = 0 then [] else 40 :: Lib.join (uptoT g c) [44, 32] ++ [41])) (hlen : ∀ i, i ≤ c → (grX X g i).length ≤ 5000) (hqs : ∀ i, i < c → q (i + 1) ≤ 64)
    (w : World) (hN : NdA w b o t) (hkid : ∀ i, i < c → ∀ w', Below w.heap.size w w' → Calls Tryz.prog 12 #[.slice (some ⟨b, o, none⟩) t.length cap, .int .i64 ((q i : Nat) : Int)] w' fun e w'' => e = .returned (.tuple #[.string ⟨(g i).toArray⟩, .int .i64 ((q (i + 1) : Nat) : Int)]) ∧ Below w'.heap.size w' w'') :
    Calls Tryz.prog 12 #[.slice (some ⟨b, o, none⟩) t.length cap, .int .i64 p] w fun e w' => e = .returned (.tuple #[.string ⟨R.toArray⟩, .int .i64 ((p + szA t p : Nat) : Int)]) ∧ Below w.heap.size w w' := by
  have HPr := Lib.hid hPr
  have HKid := Lib.hid hkid
  have HLen := Lib.hid hlen
  have HQ0 := Lib.hid hq0
  have HQe' := Lib.hid hqe
  have HQs := Lib.hid hqs
  have HW := Lib.hid (fun w' : World => rword_any k hk w')
  have HKs := Lib.hid (fun w' : World => rkids_any (k : Int) w')
  have hks : (kidsS (k : Int)).size = c := (kidsS_size _).trans hcn
  generalize hKS : kidsS (k : Int) = KS at *
  clear hKS
  obtain ⟨n0, n1, n2, n3, n4⟩ := hN p hp
  rw [hnd] at n0 n1 n2 n3 n4
  dsimp only at n0 n1 n2 n3 n4
  have HB0 : Hid (Below w.heap.size w (w.alloc (.cells #[.int .i64 (k : Int), .int .i64 na, .int .i64 nb, .int .i64 num, .int .i64 den] 48))) := Lib.hid (newB w _)
  have HBx : Hid (∀ w', Below (w.alloc (.cells #[.int .i64 (k : Int), .int .i64 na, .int .i64 nb, .int .i64 num, .int .i64 den] 48)).heap.size (w.alloc (.cells #[.int .i64 (k : Int), .int .i64 na, .int .i64 nb, .int .i64 num, .int .i64 den] 48)) w' → w'.cell? ⟨w.heap.size, 0, none⟩ = some (.int .i64 (k : Int)) ∧ w'.cell? ⟨w.heap.size, 1, none⟩ = some (.int .i64 na) ∧ w'.cell? ⟨w.heap.size, 2, none⟩ = some (.int .i64 nb)) := Lib.hid (fun w' hb => by
    obtain ⟨m0, m1, m2, _, _⟩ := nd_cells w ⟨(k : Int), na, nb, num, den⟩ 48
    exact ⟨keepT hb m0, keepT hb m1, keepT hb m2⟩)
  have i0 : (0 : Int) ≤ (p : Int) := by omega
  have i1 : (p : Int) < (t.length : Int) := by omega
  have i2 : (p : Int) ≤ 1000 := by omega
  have i3 : (0 : Int) ≤ (k : Int) := by omega
  obtain ⟨o1, _, _, o4⟩ := hok
  have hix : ixO (k : Int) = k := by unfold ixO; rw [if_pos ⟨by omega, by omega⟩]; rfl
  dsimp only at o4
  rw [hix] at o4
  subst hkc
  obtain ⟨a0, a1⟩ : 0 ≤ na ∧ na ≤ 63 := o4 7 (by decide)
  obtain ⟨b0, b1⟩ : 0 ≤ nb ∧ nb ≤ 73048 := o4 9 (by decide)
  have HF := Lib.hid (fun w' : World => dec_any na w' (by omega) (by omega))
  have HOnb := Lib.hid (fun w' : World => dofr_any nb.toNat (by omega) w')
  rw [Int.toNat_of_nonneg b0] at HOnb
  have HDnb := Lib.hid (fun w' : World => rdayT_any nb.toNat (by omega) w')
  have hfl : (itoa na).length ≤ 20 := itoa_len20 (by omega) (by omega)
  have hfl2 : (dayT nb.toNat).length ≤ 20 := fieldX_len ⟨17, na, nb, num, den⟩ 9 ⟨b0, b1⟩
  have HXe : Hid (X = wdN 17 ++ ([32] ++ itoa na ++ ([32] ++ dayT nb.toNat))) := Lib.hid (by
    rw [hX]
    show wdN 17 ++ ([7, 9].flatMap fun f => 32 :: fieldX ⟨17, na, nb, num, den⟩ f) = _
    simp [fieldX])
  unfold dayT at HXe hfl2
  have hw5 := wd_len ⟨17, by decide⟩
  dsimp only at hw5
  generalize dayL (yrN nb.toNat) (moN nb.toNat) (daN nb.toNat) = G at *
  generalize itoa na = F at *
  generalize wdN 17 = Wd at *
  have l3 : ¬ 9223372036854775807 < Wd.length + 1 := by omega
  have l4 : ¬ 9223372036854775807 < Wd.length + 1 + F.length := by omega
  have l5 : ¬ 9223372036854775807 < Wd.length + 1 + F.length + 1 := by omega
  have l6 : ¬ 9223372036854775807 < Wd.length + 1 + F.length + 1 + G.length := by omega
  clear hPr hkid hlen hq0 hqe hqs hnd hN hcn hix o4 hX
  go_enter Tryz.func12, Tryz.ntmps12
  go_wp2_with fail
  clear n0 n1 n2 n3 n4
  refine (HW.out _).mono ?_
  rintro e w1 ⟨rfl, hb1⟩
  have HB1 := Lib.hid hb1
  obtain ⟨m0, m1, m2⟩ := HBx.out _ hb1
  clear hb1
  go_wp2_with fail
  refine (HF.out _).mono ?_
  rintro e w2 ⟨rfl, hb2⟩
  have HB6 := Lib.hid (HB1.out.trans (hb2.mono HB1.out.size))
  clear m0 m1 m2
  obtain ⟨m0, m1, m2⟩ := HBx.out _ HB6.out
  clear hb2
  go_wp2_with fail
  refine (HOnb.out _).mono ?_
  rintro e w3 ⟨rfl, hb2⟩
  have HB3 := Lib.hid (HB6.out.trans (hb2.mono HB6.out.size))
  clear m0 m1 m2
  obtain ⟨m0, m1, m2⟩ := HBx.out _ HB3.out
  clear hb2
  go_wp2_with fail
  refine (HDnb.out _).mono ?_
  rintro e w4 ⟨rfl, hb2⟩
  have HB2 := Lib.hid (HB3.out.trans (hb2.mono HB3.out.size))
  clear m0 m1 m2
  obtain ⟨m0, m1, m2⟩ := HBx.out _ HB2.out
  clear hb2
  go_wp2_with fail

  refine (HKs.out _).mono ?_
  rintro e w5 ⟨rfl, hb5⟩
  have HBs := Lib.hid (onB HB0.out (HB2.out.trans (hb5.mono HB2.out.size)))
  clear hb5 m0 m1 m2
  go_wp2_with fail
  go_loopw [7, 8, 10] (fun vs vn vi wx => ∃ i : Nat, i ≤ c ∧ vi = .int .i64 i ∧ vn = .int .i64 ((q i : Nat) : Int) ∧ vs = .string ⟨(grX X g i).toArray⟩ ∧ Below w.heap.size w wx) (fun _ _ vi _ => c - (RowKit.intOf vi).toNat)
  case atStart => exact ⟨0, Nat.zero_le _, rfl, by rw [HQ0.out]; first | rfl | (congr 1; go_num), by first | (rw [grX_zero, HXe.out]; done) | (rw [grX_zero, HXe.out]; simp [ByteArray.mk_append_mk]), HBs.out⟩
  case round =>
    obtain ⟨i, hi, rfl, rfl, rfl, hb⟩ := hrel
    have HB := Lib.hid hb
    by_cases hlt : i < c
    · have HKd := Lib.hid (HKid.out i hlt wr hb)
      have hgl := HLen.out (i + 1) (by omega)
      have hgl0 := HLen.out i (by omega)
      have hq1 := HQs.out i hlt
      have j0 : (0 : Int) ≤ (i : Int) := by omega
      have j1 : (i : Int) < (c : Int) := by omega
      by_cases h0 : i = 0
      · subst h0
        have HG : Hid (grX X g 1 = grX X g 0 ++ [40] ++ g 0) := Lib.hid (by rw [grX_one, grX_zero]; simp)
        rw [HG.out] at hgl
        simp only [List.length_append, List.length_cons, List.length_nil] at hgl
        generalize hY : grX X g 0 = Y at *
        generalize g 0 = gi at *
        generalize hq2 : q (0 + 1) = q1 at *
        have HQ2 := Lib.hid hq2
        clear hq2
        generalize q 0 = qi at *
        have l1 : ¬ 9223372036854775807 < Y.length + 1 := by omega
        have l2 : ¬ 9223372036854775807 < Y.length + 1 + gi.length := by omega
        clear hb hY
        go_wp2_with fail
        refine HKd.out.mono ?_
        rintro e w3 ⟨rfl, hb3⟩
        have HB3 := Lib.hid (onB HB.out hb3)
        clear hb3
        go_wp2_with fail
        go_roundw
        case rel => exact ⟨1, by omega, by go_num, by rw [← HQ2.out], by rw [HG.out]; simp [ByteArray.mk_append_mk], HB3.out⟩
        case measure => simp [RowKit.intOf]; omega
      · have hi1 : ((i : Int) == 0) = false := by simp; omega
        have HG : Hid (grX X g (i + 1) = grX X g i ++ [44, 32] ++ g i) := Lib.hid (by rw [grX_more X g i (by omega)]; simp)
        rw [HG.out] at hgl
        simp only [List.length_append, List.length_cons, List.length_nil] at hgl
        generalize grX X g i = Y at *
        generalize g i = gi at *
        generalize hq2 : q (i + 1) = q1 at *
        have HQ2 := Lib.hid hq2
        clear hq2
        generalize q i = qi at *
        have l1 : ¬ 9223372036854775807 < Y.length + 2 := by omega
        have l2 : ¬ 9223372036854775807 < Y.length + 2 + gi.length := by omega
        clear hb h0
        go_wp2_with fail
        refine HKd.out.mono ?_
        rintro e w3 ⟨rfl, hb3⟩
        have HB3 := Lib.hid (onB HB.out hb3)
        clear hb3
        go_wp2_with fail
        go_roundw
        case rel => exact ⟨i + 1, by omega, by go_num, by rw [← HQ2.out], by rw [HG.out]; simp [ByteArray.mk_append_mk], HB3.out⟩
        case measure => simp [RowKit.intOf]; omega
    · obtain rfl : i = c := by omega
      have hgl := HLen.out i (Nat.le_refl _)
      by_cases hc : i = 0
      · subst hc
        have HR : Hid (R = grX X g 0) := Lib.hid (by rw [HPr.out, grX_zero]; simp)
        have HQe := Lib.hid HQe'.out
        generalize grX X g 0 = Y at *
        clear hb
        go_wp2_with fail
        go_ret2
        exact ⟨ret_si (by rw [HR.out]) (by have := HQe.out; omega), HB.out⟩
      · have hc1 : (0 : Int) < (i : Int) := by omega
        have HR : Hid (R = grX X g i ++ [41]) := Lib.hid (by rw [HPr.out, if_neg hc]; unfold grX; rw [if_neg hc]; simp)
        have HQe := Lib.hid HQe'.out
        generalize grX X g i = Y at *
        have l1 : ¬ 9223372036854775807 < Y.length + 1 := by omega
        clear hb hc
        go_wp2_with fail
        go_ret2
        exact ⟨ret_si (by rw [HR.out]; simp [ByteArray.mk_append_mk]) (by have := HQe.out; omega), HB.out⟩

set_option maxRecDepth 100000 in
set_option maxHeartbeats 4000000 in
theorem rpr_rest (k : Nat) (hk : k < 18) (hkc : k ≠ 1 ∧ k ≠ 2 ∧ k ≠ 16 ∧ k ≠ 17 ∧ k ≠ 10 ∧ k ≠ 14) (t : List Nd) (hL : t.length ≤ 64) (b o cap : Nat) (hcap : t.length ≤ cap) (hcm : cap ≤ 9223372036854775807) (p : Nat) (hp : p < t.length) (na nb num den : Int) (hnd : t.getD p default = ⟨(k : Int), na, nb, num, den⟩) (hok : okN ⟨(k : Int), na, nb, num, den⟩)
    (c : Nat) (hcn : cnO (k : Int) = c) (hc4 : c ≤ 4) (q : Nat → Nat) (hq0 : q 0 = p + 1) (hqe : q c = p + szA t p) (g : Nat → List UInt8) (R : List UInt8) (X : List UInt8) (hX : X = hdX ⟨(k : Int), na, nb, num, den⟩) (hPr : R = X ++ (if c = 0 then [] else 40 :: Lib.join (uptoT g c) [44, 32] ++ [41])) (hlen : ∀ i, i ≤ c → (grX X g i).length ≤ 5000) (hqs : ∀ i, i < c → q (i + 1) ≤ 64)
    (w : World) (hN : NdA w b o t) (hkid : ∀ i, i < c → ∀ w', Below w.heap.size w w' → Calls Tryz.prog 12 #[.slice (some ⟨b, o, none⟩) t.length cap, .int .i64 ((q i : Nat) : Int)] w' fun e w'' => e = .returned (.tuple #[.string ⟨(g i).toArray⟩, .int .i64 ((q (i + 1) : Nat) : Int)]) ∧ Below w'.heap.size w' w'') :
    Calls Tryz.prog 12 #[.slice (some ⟨b, o, none⟩) t.length cap, .int .i64 p] w fun e w' => e = .returned (.tuple #[.string ⟨R.toArray⟩, .int .i64 ((p + szA t p : Nat) : Int)]) ∧ Below w.heap.size w w' := by
  have HPr := Lib.hid hPr
  have HKid := Lib.hid hkid
  have HLen := Lib.hid hlen
  have HQ0 := Lib.hid hq0
  have HQe' := Lib.hid hqe
  have HQs := Lib.hid hqs
  have HW := Lib.hid (fun w' : World => rword_any k hk w')
  have HKs := Lib.hid (fun w' : World => rkids_any (k : Int) w')
  have hks : (kidsS (k : Int)).size = c := (kidsS_size _).trans hcn
  generalize hKS : kidsS (k : Int) = KS at *
  clear hKS
  obtain ⟨n0, n1, n2, n3, n4⟩ := hN p hp
  rw [hnd] at n0 n1 n2 n3 n4
  dsimp only at n0 n1 n2 n3 n4
  have HB0 : Hid (Below w.heap.size w (w.alloc (.cells #[.int .i64 (k : Int), .int .i64 na, .int .i64 nb, .int .i64 num, .int .i64 den] 48))) := Lib.hid (newB w _)
  have HBx : Hid (∀ w', Below (w.alloc (.cells #[.int .i64 (k : Int), .int .i64 na, .int .i64 nb, .int .i64 num, .int .i64 den] 48)).heap.size (w.alloc (.cells #[.int .i64 (k : Int), .int .i64 na, .int .i64 nb, .int .i64 num, .int .i64 den] 48)) w' → w'.cell? ⟨w.heap.size, 0, none⟩ = some (.int .i64 (k : Int)) ∧ w'.cell? ⟨w.heap.size, 1, none⟩ = some (.int .i64 na) ∧ w'.cell? ⟨w.heap.size, 2, none⟩ = some (.int .i64 nb)) := Lib.hid (fun w' hb => by
    obtain ⟨m0, m1, m2, _, _⟩ := nd_cells w ⟨(k : Int), na, nb, num, den⟩ 48
    exact ⟨keepT hb m0, keepT hb m1, keepT hb m2⟩)
  have i0 : (0 : Int) ≤ (p : Int) := by omega
  have i1 : (p : Int) < (t.length : Int) := by omega
  have i2 : (p : Int) ≤ 1000 := by omega
  have i3 : (0 : Int) ≤ (k : Int) := by omega
  obtain ⟨o1, _, _, o4⟩ := hok
  have hix : ixO (k : Int) = k := by unfold ixO; rw [if_pos ⟨by omega, by omega⟩]; rfl
  dsimp only at o4
  rw [hix] at o4
  have HXe : Hid (X = wdN k ++ []) := Lib.hid (by
    rw [hX]
    unfold hdX
    dsimp only
    rw [if_neg (by omega), hix]
    have : ∀ j : Fin 18, j.val ≠ 1 ∧ j.val ≠ 2 ∧ j.val ≠ 16 ∧ j.val ≠ 17 ∧ j.val ≠ 10 ∧ j.val ≠ 14 → fdN j.val = [] := by decide
    rw [this ⟨k, hk⟩ hkc]; rfl)
  rw [List.append_nil] at HXe
  have t1 : ((k : Int) == 1) = false := by simp; omega
  have t2 : ((k : Int) == 2) = false := by simp; omega
  have t3 : ((k : Int) == 16) = false := by simp; omega
  have t4 : ((k : Int) == 17) = false := by simp; omega
  have t5 : ((k : Int) == 10) = false := by simp; omega
  have t6 : ((k : Int) == 14) = false := by simp; omega
  generalize wdN k = Wd at *
  clear hkc
  clear hPr hkid hlen hq0 hqe hqs hnd hN hcn hix o4 hX
  go_enter Tryz.func12, Tryz.ntmps12
  go_wp2_with fail
  clear n0 n1 n2 n3 n4
  refine (HW.out _).mono ?_
  rintro e w1 ⟨rfl, hb1⟩
  have HB2 := Lib.hid hb1
  obtain ⟨m0, m1, m2⟩ := HBx.out _ hb1
  clear hb1
  go_wp2_with fail
  refine (HKs.out _).mono ?_
  rintro e w5 ⟨rfl, hb5⟩
  have HBs := Lib.hid (onB HB0.out (HB2.out.trans (hb5.mono HB2.out.size)))
  clear hb5 m0 m1 m2
  go_wp2_with fail
  go_loopw [7, 8, 10] (fun vs vn vi wx => ∃ i : Nat, i ≤ c ∧ vi = .int .i64 i ∧ vn = .int .i64 ((q i : Nat) : Int) ∧ vs = .string ⟨(grX X g i).toArray⟩ ∧ Below w.heap.size w wx) (fun _ _ vi _ => c - (RowKit.intOf vi).toNat)
  case atStart => exact ⟨0, Nat.zero_le _, rfl, by rw [HQ0.out]; first | rfl | (congr 1; go_num), by first | (rw [grX_zero, HXe.out]; done) | (rw [grX_zero, HXe.out]; simp [ByteArray.mk_append_mk]), HBs.out⟩
  case round =>
    obtain ⟨i, hi, rfl, rfl, rfl, hb⟩ := hrel
    have HB := Lib.hid hb
    by_cases hlt : i < c
    · have HKd := Lib.hid (HKid.out i hlt wr hb)
      have hgl := HLen.out (i + 1) (by omega)
      have hgl0 := HLen.out i (by omega)
      have hq1 := HQs.out i hlt
      have j0 : (0 : Int) ≤ (i : Int) := by omega
      have j1 : (i : Int) < (c : Int) := by omega
      by_cases h0 : i = 0
      · subst h0
        have HG : Hid (grX X g 1 = grX X g 0 ++ [40] ++ g 0) := Lib.hid (by rw [grX_one, grX_zero]; simp)
        rw [HG.out] at hgl
        simp only [List.length_append, List.length_cons, List.length_nil] at hgl
        generalize hY : grX X g 0 = Y at *
        generalize g 0 = gi at *
        generalize hq2 : q (0 + 1) = q1 at *
        have HQ2 := Lib.hid hq2
        clear hq2
        generalize q 0 = qi at *
        have l1 : ¬ 9223372036854775807 < Y.length + 1 := by omega
        have l2 : ¬ 9223372036854775807 < Y.length + 1 + gi.length := by omega
        clear hb hY
        go_wp2_with fail
        refine HKd.out.mono ?_
        rintro e w3 ⟨rfl, hb3⟩
        have HB3 := Lib.hid (onB HB.out hb3)
        clear hb3
        go_wp2_with fail
        go_roundw
        case rel => exact ⟨1, by omega, by go_num, by rw [← HQ2.out], by rw [HG.out]; simp [ByteArray.mk_append_mk], HB3.out⟩
        case measure => simp [RowKit.intOf]; omega
      · have hi1 : ((i : Int) == 0) = false := by simp; omega
        have HG : Hid (grX X g (i + 1) = grX X g i ++ [44, 32] ++ g i) := Lib.hid (by rw [grX_more X g i (by omega)]; simp)
        rw [HG.out] at hgl
        simp only [List.length_append, List.length_cons, List.length_nil] at hgl
        generalize grX X g i = Y at *
        generalize g i = gi at *
        generalize hq2 : q (i + 1) = q1 at *
        have HQ2 := Lib.hid hq2
        clear hq2
        generalize q i = qi at *
        have l1 : ¬ 9223372036854775807 < Y.length + 2 := by omega
        have l2 : ¬ 9223372036854775807 < Y.length + 2 + gi.length := by omega
        clear hb h0
        go_wp2_with fail
        refine HKd.out.mono ?_
        rintro e w3 ⟨rfl, hb3⟩
        have HB3 := Lib.hid (onB HB.out hb3)
        clear hb3
        go_wp2_with fail
        go_roundw
        case rel => exact ⟨i + 1, by omega, by go_num, by rw [← HQ2.out], by rw [HG.out]; simp [ByteArray.mk_append_mk], HB3.out⟩
        case measure => simp [RowKit.intOf]; omega
    · obtain rfl : i = c := by omega
      have hgl := HLen.out i (Nat.le_refl _)
      by_cases hc : i = 0
      · subst hc
        have HR : Hid (R = grX X g 0) := Lib.hid (by rw [HPr.out, grX_zero]; simp)
        have HQe := Lib.hid HQe'.out
        generalize grX X g 0 = Y at *
        clear hb
        go_wp2_with fail
        go_ret2
        exact ⟨ret_si (by rw [HR.out]) (by have := HQe.out; omega), HB.out⟩
      · have hc1 : (0 : Int) < (i : Int) := by omega
        have HR : Hid (R = grX X g i ++ [41]) := Lib.hid (by rw [HPr.out, if_neg hc]; unfold grX; rw [if_neg hc]; simp)
        have HQe := Lib.hid HQe'.out
        generalize grX X g i = Y at *
        have l1 : ¬ 9223372036854775807 < Y.length + 1 := by omega
        clear hb hc
        go_wp2_with fail
        go_ret2
        exact ⟨ret_si (by rw [HR.out]; simp [ByteArray.mk_append_mk]) (by have := HQe.out; omega), HB.out⟩

theorem rpr_any (t : List Nd) (hL : t.length ≤ 64) (hok : ∀ p, p < t.length → okN (t.getD p default)) (b o cap : Nat) (hcap : t.length ≤ cap) (hcm : cap ≤ 9223372036854775807) : ∀ f p, TmA t p → szA t p ≤ f → ∀ w, NdA w b o t →
    Calls Tryz.prog 12 #[.slice (some ⟨b, o, none⟩) t.length cap, .int .i64 p] w fun e w' => e = .returned (.tuple #[.string ⟨(prF t f p).toArray⟩, .int .i64 ((p + szA t p : Nat) : Int)]) ∧ Below w.heap.size w w'
  | 0, p, hT, hf, _, _ => absurd hT.bd.1 (by omega)
  | f + 1, p, hT, hf, w, hN => by
    have hp := hT.lt
    have hbd := hT.bd
    have hokp := hok p hp
    obtain ⟨_, hk, hend⟩ := hT.parts
    by_cases h1 : opA t p = 1
    · have hc : cnO (opA t p) = 0 := by rw [h1]; rfl
      rw [hc] at hend
      have e : szA t p = 1 := by unfold plA at hend; omega
      have hI : I64T (t.getD p default).num ∧ I64T (t.getD p default).den := (hokp.2.2.1 h1).2
      have := rpr_num t b o cap hcap hcm p hp (by omega) h1 hI w hN
      rw [prF, if_pos hc, List.append_nil, e]; exact this
    · obtain ⟨k, hk1, hk18⟩ : ∃ k : Nat, opA t p = (k : Int) ∧ k < 18 := ⟨(opA t p).toNat, by have := hokp.1; show (t.getD p default).op = _; unfold opA; omega, by have := hokp.1; have := hokp.2.1; show ((t.getD p default).op).toNat < 18; omega⟩
      obtain ⟨nd, hnd⟩ : ∃ nd, nd = t.getD p default := ⟨_, rfl⟩
      have hkn : nd.op = (k : Int) := by rw [hnd]; exact hk1
      rw [← hnd] at hokp
      obtain ⟨op, na, nb, num, den⟩ := nd
      dsimp only at hkn
      subst hkn
      have hcn : cnO ((k : Nat) : Int) = cnO (opA t p) := by rw [hk1]
      have hX : hdX ⟨(k : Int), na, nb, num, den⟩ = hdX (t.getD p default) := by rw [← hnd]
      have hlen : ∀ i, i ≤ cnO (opA t p) → (grX (hdX ⟨(k : Int), na, nb, num, den⟩) (fun i => prF t f (plA t (p + 1) i)) i).length ≤ 5000 := fun i hi => by
        have h50 := hdX_len hokp
        have key : ∀ j, j ≤ cnO (opA t p) → Lib.lens (uptoT (fun i => prF t f (plA t (p + 1) i)) j) + 70 * (p + 1) ≤ 70 * plA t (p + 1) j := by
          intro j
          induction j with
          | zero => intro _; simp [uptoT, Lib.lens, plA]
          | succ j ih =>
            intro hj
            have i1 := ih (by omega)
            obtain ⟨k1, k2, k3⟩ := hT.kid (i := j) (by omega)
            have i2 := prF_len hok f _ k1 (by omega)
            rw [lens_upto, plA]
            omega
        have k1 := key i hi
        have k2 := joinX_len (uptoT (fun i => prF t f (plA t (p + 1) i)) i)
        rw [uptoT_length] at k2
        have k3 := cn_le (opA t p)
        have k4 := plA_mono (t := t) (p := p + 1) hi
        rw [hend] at k4
        unfold grX
        split
        · simp; omega
        · simp; omega
      have hkid : ∀ i, i < cnO (opA t p) → ∀ w', Below w.heap.size w w' → Calls Tryz.prog 12 #[.slice (some ⟨b, o, none⟩) t.length cap, .int .i64 ((plA t (p + 1) i : Nat) : Int)] w' fun e w'' => e = .returned (.tuple #[.string ⟨(prF t f (plA t (p + 1) i)).toArray⟩, .int .i64 ((plA t (p + 1) (i + 1) : Nat) : Int)]) ∧ Below w'.heap.size w' w'' := fun i hi w' hb => by
        obtain ⟨k1, k2, k3⟩ := hT.kid hi
        exact rpr_any t hL hok b o cap hcap hcm f _ k1 (by omega) w' (hN.keep hb)
      have hqs : ∀ i, i < cnO (opA t p) → plA t (p + 1) (i + 1) ≤ 64 := fun i hi => by
        have := plA_mono (t := t) (p := p + 1) (show i + 1 ≤ cnO (opA t p) from hi)
        rw [hend] at this; omega
      have hPr : prF t (f + 1) p = hdX ⟨(k : Int), na, nb, num, den⟩ ++ (if cnO (opA t p) = 0 then [] else 40 :: Lib.join (uptoT (fun i => prF t f (plA t (p + 1) i)) (cnO (opA t p))) [44, 32] ++ [41]) := by rw [prF, hX]
      by_cases c2 : k = 2
      · exact rpr_k2 k hk18 c2 t hL b o cap hcap hcm p hp na nb num den hnd.symm hokp _ hcn (cn_le _) _ rfl hend _ _ _ rfl hPr hlen hqs w hN hkid
      · by_cases c3 : k = 16
        · exact rpr_k16 k hk18 c3 t hL b o cap hcap hcm p hp na nb num den hnd.symm hokp _ hcn (cn_le _) _ rfl hend _ _ _ rfl hPr hlen hqs w hN hkid
        · by_cases c4 : k = 17
          · exact rpr_last k hk18 c4 t hL b o cap hcap hcm p hp na nb num den hnd.symm hokp _ hcn (cn_le _) _ rfl hend _ _ _ rfl hPr hlen hqs w hN hkid
          · by_cases c5 : k = 10
            · exact rpr_one k hk18 c5 t hL b o cap hcap hcm p hp na nb num den hnd.symm hokp _ hcn (cn_le _) _ rfl hend _ _ _ rfl hPr hlen hqs w hN hkid
            · by_cases c6 : k = 14
              · exact rpr_when k hk18 c6 t hL b o cap hcap hcm p hp na nb num den hnd.symm hokp _ hcn (cn_le _) _ rfl hend _ _ _ rfl hPr hlen hqs w hN hkid
              · exact rpr_rest k hk18 ⟨fun e => h1 (by rw [hk1, e]; rfl), c2, c3, c4, c5, c6⟩ t hL b o cap hcap hcm p hp na nb num den hnd.symm hokp _ hcn (cn_le _) _ rfl hend _ _ _ rfl hPr hlen hqs w hN hkid

end Go.Proofs.YtmaiecbhloagoaaGreatDoor
