/-
  chattellaw06.TextBack: its walk.
-/
import Derived.Test.YtmaiecbhloagoaaGreatDoorPt
import Derived.Test.YtmaiecbhloagoaaGreatDoorJnN
namespace Go.Proofs.YtmaiecbhloagoaaGreatDoor
open Go.RowKit Go.Lib
set_option linter.unusedVariables false
set_option linter.unusedSimpArgs false

theorem field_len10 (n : Nd) (f : Nat) (h : okF n f) : (fieldX n f).length ≤ 10 := by
  match f, h with
  | 6, h =>
    show (curN n.a.toNat).length ≤ 10
    have : ∀ k : Fin 8, (curN k.val).length ≤ 10 := by decide
    have h1 : 0 ≤ n.a := h.1
    have h2 : n.a < 8 := h.2
    exact this ⟨n.a.toNat, by omega⟩
  | 7, h =>
    show (itoa n.a).length ≤ 10
    have h1 : 0 ≤ n.a := h.1
    have h2 : n.a ≤ 63 := h.2
    obtain ⟨m, e⟩ : ∃ m : Nat, n.a = m := ⟨n.a.toNat, by omega⟩
    rw [e, itoa_63 (by omega)]
    split <;> simp
  | 8, _ => show (dayL _ _ _).length ≤ 10; rw [dayL_len]; omega
  | 0, _ | 1, _ | 2, _ | 3, _ | 4, _ | 5, _ | 9, _ | _ + 10, _ => show (dayL _ _ _).length ≤ 10; rw [dayL_len]; omega
theorem joinX_len1 (L : List (List UInt8)) (h : 0 < L.length) : (Lib.join L [44, 32]).length + 2 ≤ 2 * L.length + Lib.lens L := by
  cases L with
  | nil => exact absurd h (by simp)
  | cons x r => rw [Lib.join_length]; simp; omega
theorem hdX_len41 {n : Nd} (h : okN n) : (hdX n).length ≤ 41 := by
  obtain ⟨h1, h2, h3, h4⟩ := h
  unfold hdX
  by_cases ho : n.op = 1
  · rw [if_pos ho]
    obtain ⟨_, ⟨a1, a2⟩, b1, b2⟩ := h3 ho
    unfold txt
    have l1 := itoa_len20 a1 a2
    have l2 := itoa_len20 b1 b2
    split
    · omega
    · simp; omega
  · rw [if_neg ho]
    have hk := ixO_lt n.op
    obtain ⟨s1, s2, s3⟩ := fd_some ⟨ixO n.op, hk⟩
    have hw := wd_len ⟨ixO n.op, hk⟩
    dsimp only at s1 hw
    have l : ∀ f ∈ fdN (ixO n.op), (fieldX n f).length ≤ 10 := fun f hf => field_len10 n f (h4 f hf)
    rw [s1] at l ⊢
    by_cases a : fdC (ixO n.op) 0 = 0 <;> by_cases b : fdC (ixO n.op) 1 = 0 <;> simp [a, b] at l ⊢ <;> omega
theorem prF_len43 {t : List Nd} (hok : ∀ p, p < t.length → okN (t.getD p default)) : ∀ f p, TmA t p → szA t p ≤ f → (prF t f p).length + 2 ≤ 43 * szA t p
  | 0, p, hT, hf => by have := hT.bd; omega
  | f + 1, p, hT, hf => by
    have hb := hT.bd
    have h1 := hdX_len41 (hok p hT.lt)
    rw [prF]
    generalize hdX (t.getD p default) = X at *
    by_cases hc : cnO (opA t p) = 0
    · rw [if_pos hc]; simp; omega
    · rw [if_neg hc]
      obtain ⟨_, hk, hend⟩ := hT.parts
      have key : ∀ k, k ≤ cnO (opA t p) → Lib.lens (uptoT (fun i => prF t f (plA t (p + 1) i)) k) + 2 * k + 43 * (p + 1) ≤ 43 * plA t (p + 1) k := by
        intro k
        induction k with
        | zero => intro _; simp [uptoT, Lib.lens, plA]
        | succ k ih =>
          intro hk2
          have i1 := ih (by omega)
          obtain ⟨k1, k2, k3⟩ := hT.kid (i := k) (by omega)
          have i2 := prF_len43 hok f _ k1 (by omega)
          have e : plA t (p + 1) (k + 1) = plA t (p + 1) k + szA t (plA t (p + 1) k) := rfl
          rw [lens_upto, e]
          omega
      have := key _ (Nat.le_refl _)
      have k2 := joinX_len1 (uptoT (fun i => prF t f (plA t (p + 1) i)) (cnO (opA t p))) (by rw [uptoT_length]; omega)
      rw [uptoT_length] at k2
      rw [hend] at this
      simp
      omega

theorem prX_len {t : List Nd} (hbd : BdT t) : (prX t).length ≤ 2752 := by
  unfold prX
  by_cases h : chkK t = 0
  · rw [if_pos h]
    obtain ⟨h64, hW, hok⟩ := chk_ok h hbd
    have := prF_len43 hok (szA t 0) 0 hW.tm.1 (Nat.le_refl _)
    rw [show prT t 0 = prF t (szA t 0) 0 from rfl]
    have := hW.tm.2
    omega
  · rw [if_neg h]; exact Nat.zero_le _
set_option maxRecDepth 100000 in
set_option maxHeartbeats 4000000 in
theorem back_long (t : List Nd) (a : Option Addr) (cap : Nat) (hl : t.length ≤ 9223372036854775807) (hbd : BdT t) (s : ByteArray) (w : World) (hs : SlT w (.slice a t.length cap) t) (T : TabW w) (h : 100 < t.length ∨ t.length ≤ 100 ∧ 2000 < s.size) :
    Calls Tryz.prog 5 #[.slice a t.length cap, .string s] w fun e w' => e = .returned (.bool true) ∧ Below w.heap.size w w' := by
  have HAw := Lib.hid (fun (w' : World) (hb : Below w.heap.size w w') => awake6_any w' (T.keep hb))
  rcases h with h | ⟨h, h2⟩
  · have i1 : (100 : Int) < (t.length : Int) := by omega
    clear hbd hs T h hl
    go_enter Tryz.func5, Tryz.ntmps5
    go_wp2_with fail
    refine (HAw.out _ (Below.refl _ _)).mono ?_
    rintro e w1 ⟨rfl, hb1⟩
    go_wp2_with fail
    go_ret
    exact ⟨rfl, hb1⟩
  · have i1 : ¬ (100 : Int) < (t.length : Int) := by omega
    have i2 : (2000 : Int) < (s.size : Int) := by omega
    clear hbd hs T h h2 hl
    go_enter Tryz.func5, Tryz.ntmps5
    go_wp2_with fail
    refine (HAw.out _ (Below.refl _ _)).mono ?_
    rintro e w1 ⟨rfl, hb1⟩
    go_wp2_with fail
    go_ret
    exact ⟨rfl, hb1⟩
set_option maxRecDepth 100000 in
set_option maxHeartbeats 4000000 in
theorem back_yy (t : List Nd) (a : Option Addr) (cap : Nat) (hl : t.length ≤ 9223372036854775807) (hbd : BdT t) (s : ByteArray) (w : World) (hs : SlT w (.slice a t.length cap) t) (T : TabW w) (h1' : t.length ≤ 100) (h2' : s.size ≤ 2000) (hc : chkK t = 0) (he : (parT s.data.toList).2.2 = 0) :
    Calls Tryz.prog 5 #[.slice a t.length cap, .string s] w fun e w' => e = .returned (.bool true) ∧ Below w.heap.size w w' := by
  have i1 : ¬ (100 : Int) < (t.length : Int) := by omega
  have i2 : ¬ (2000 : Int) < (s.size : Int) := by omega
  have HAw := Lib.hid (fun (w' : World) (hb : Below w.heap.size w w') => awake6_any w' (T.keep hb))
  have HPr := Lib.hid (tprint_any t (by omega) hbd _ w hs T)
  have HS := Lib.hid hs
  have HNd := Lib.hid (fun (w' : World) (hb : Below w.heap.size w w') (v1 v2 : Value) => nodes_any t (by omega) v1 v2 w')
  obtain ⟨c1, c2, c3⟩ := par_chk (l := s.data.toList) (t := (parT s.data.toList).1) (a := (parT s.data.toList).2.1) (by rw [← he])
  have HPs := Lib.hid (fun (w' : World) (hb : Below w.heap.size w w') => tparse_any s (by omega) w' (T.keep hb))
  have hx64 := (chk_ok c1 c2).1
  rw [he, c3] at HPs
  generalize (parT s.data.toList).1 = X at *
  have HP2 := Lib.hid (fun (w' : World) (hb : Below w.heap.size w w') (v : Value) (hv : SlT w' v X) => tprint_any X (by omega) c2 v w' hv (T.keep hb))
  have HC2 := Lib.hid (fun (w' : World) (hb : Below w.heap.size w w') (v : Value) (hv : SlT w' v X) => tcheck_any X (by omega) c2 v w' hv (T.keep hb).knd)
  have HQ2 := Lib.hid (fun (w' : World) (hb : Below w.heap.size w w') => tparse_any ⟨(prX X).toArray⟩ (by have := prX_len c2; rw [size_len]; show (prX X).length ≤ _; omega) w' (T.keep hb))
  rw [show (⟨(prX X).toArray⟩ : ByteArray).data.toList = prX X from rfl, par_print c1 c2] at HQ2
  rw [c1] at HP2 HC2
  have HN2 := Lib.hid (fun (w' : World) (hb : Below w.heap.size w w') (v1 v2 : Value) => nodes_any X (by omega) v1 v2 w')
  generalize prX X = PX at *
  have HPa := Lib.hid (fun (w' : World) (hb : Below w.heap.size w w') => tparse_any ⟨(prX t).toArray⟩ (by have := prX_len hbd; rw [size_len]; show (prX t).length ≤ _; omega) w' (T.keep hb))
  rw [show (⟨(prX t).toArray⟩ : ByteArray).data.toList = prX t from rfl, par_print hc hbd] at HPa
  rw [hc] at HPr
  generalize prX t = PT at *
  clear hs T hbd hc he c1 c2 c3 hx64 h1' h2' hl
  go_enter Tryz.func5, Tryz.ntmps5
  go_wp2_with fail
  refine HPr.out.mono ?_
  rintro e w1 ⟨rfl, hb1⟩
  have HB1 := Lib.hid hb1
  clear hb1
  go_wp2_with fail
  refine (HPa.out _ HB1.out).mono ?_
  rintro e w2 ⟨v, rfl, hv, hb2⟩
  have HV := Lib.hid hv.sl
  obtain ⟨va, vc, rfl⟩ := hv.slice
  have HB2 := Lib.hid (onB HB1.out hb2)
  clear hb2 hv
  go_wp2_with fail
  refine (HNd.out _ HB2.out _ _ HV.out (HS.out.keep HB2.out)).mono ?_
  rintro e w3 ⟨rfl, hb3⟩
  have HB3 := Lib.hid (onB HB2.out hb3)
  clear hb3
  go_wp2_with fail
  refine (HPs.out _ HB3.out).mono ?_
  rintro e w4 ⟨v, rfl, hv, hb4⟩
  have HV4 := Lib.hid hv.sl
  obtain ⟨va4, vc4, rfl⟩ := hv.slice
  have HB4 := Lib.hid (onB HB3.out hb4)
  clear hb4 hv
  go_wp2_with fail
  refine (HP2.out _ HB4.out _ HV4.out).mono ?_
  rintro e w5 ⟨rfl, hb5⟩
  have HV5 := Lib.hid (HV4.out.keep hb5)
  have HB5 := Lib.hid (onB HB4.out hb5)
  clear hb5
  go_wp2_with fail
  refine (HQ2.out _ HB5.out).mono ?_
  rintro e w6 ⟨x, rfl, hx, hb6⟩
  have HX6 := Lib.hid hx.sl
  obtain ⟨xa, xc, rfl⟩ := hx.slice
  have HV6 := Lib.hid (HV5.out.keep hb6)
  have HB6 := Lib.hid (onB HB5.out hb6)
  clear hb6 hx
  go_wp2_with fail
  refine (HC2.out _ HB6.out _ HV6.out).mono ?_
  rintro e w7 ⟨rfl, hb7⟩
  have HV7 := Lib.hid (HV6.out.keep hb7)
  have HX7 := Lib.hid (HX6.out.keep hb7)
  have HB7 := Lib.hid (onB HB6.out hb7)
  clear hb7
  go_wp2_with fail
  refine (HN2.out _ HB7.out _ _ HX7.out HV7.out).mono ?_
  rintro e w8 ⟨rfl, hb8⟩
  have HB8 := Lib.hid (onB HB7.out hb8)
  clear hb8
  go_wp2_with fail
  refine (HAw.out _ HB8.out).mono ?_
  rintro e w9 ⟨rfl, hb9⟩
  have HB9 := Lib.hid (onB HB8.out hb9)
  clear hb9
  go_wp2_with fail
  go_ret
  exact ⟨rfl, HB9.out⟩
set_option maxRecDepth 100000 in
set_option maxHeartbeats 4000000 in
theorem back_yn (t : List Nd) (a : Option Addr) (cap : Nat) (hl : t.length ≤ 9223372036854775807) (hbd : BdT t) (s : ByteArray) (w : World) (hs : SlT w (.slice a t.length cap) t) (T : TabW w) (h1' : t.length ≤ 100) (h2' : s.size ≤ 2000) (hc : chkK t = 0) (he : (parT s.data.toList).2.2 ≠ 0) :
    Calls Tryz.prog 5 #[.slice a t.length cap, .string s] w fun e w' => e = .returned (.bool true) ∧ Below w.heap.size w w' := by
  have i1 : ¬ (100 : Int) < (t.length : Int) := by omega
  have i2 : ¬ (2000 : Int) < (s.size : Int) := by omega
  have HAw := Lib.hid (fun (w' : World) (hb : Below w.heap.size w w') => awake6_any w' (T.keep hb))
  have HPr := Lib.hid (tprint_any t (by omega) hbd _ w hs T)
  have HS := Lib.hid hs
  have HNd := Lib.hid (fun (w' : World) (hb : Below w.heap.size w w') (v1 v2 : Value) => nodes_any t (by omega) v1 v2 w')
  obtain ⟨r, p, hr, hp, hr2, hp2⟩ : ∃ r p : Nat, r = (parT s.data.toList).2.2 ∧ p = (parT s.data.toList).2.1 ∧ (r = 13 ∨ r = 10 ∨ r = 15) ∧ p ≤ s.size := ⟨_, _, rfl, rfl, (par_bad he).2.2, by rw [size_len]; exact (par_bad he).2.1⟩
  have HPs := Lib.hid (fun (w' : World) (hb : Below w.heap.size w w') => tparse_any s (by omega) w' (T.keep hb))
  rw [(par_bad he).1, ← hr, ← hp] at HPs
  have i3 : (p : Int) ≤ (s.size : Int) := by omega
  have i4 : (0 : Int) ≤ (p : Int) := by omega
  have HPa := Lib.hid (fun (w' : World) (hb : Below w.heap.size w w') => tparse_any ⟨(prX t).toArray⟩ (by have := prX_len hbd; rw [size_len]; show (prX t).length ≤ _; omega) w' (T.keep hb))
  rw [show (⟨(prX t).toArray⟩ : ByteArray).data.toList = prX t from rfl, par_print hc hbd] at HPa
  rw [hc] at HPr
  generalize prX t = PT at *
  clear hs T hbd hc he h1' h2' hl hr hp hp2
  rcases hr2 with rfl | rfl | rfl
  · go_enter Tryz.func5, Tryz.ntmps5
    go_wp2_with fail
    refine HPr.out.mono ?_
    rintro e w1 ⟨rfl, hb1⟩
    have HB1 := Lib.hid hb1
    clear hb1
    go_wp2_with fail
    refine (HPa.out _ HB1.out).mono ?_
    rintro e w2 ⟨v, rfl, hv, hb2⟩
    have HV := Lib.hid hv.sl
    obtain ⟨va, vc, rfl⟩ := hv.slice
    have HB2 := Lib.hid (onB HB1.out hb2)
    clear hb2 hv
    go_wp2_with fail
    refine (HNd.out _ HB2.out _ _ HV.out (HS.out.keep HB2.out)).mono ?_
    rintro e w3 ⟨rfl, hb3⟩
    have HB3 := Lib.hid (onB HB2.out hb3)
    clear hb3
    go_wp2_with fail
    refine (HPs.out _ HB3.out).mono ?_
    rintro e w4 ⟨v, rfl, hv, hb4⟩
    obtain ⟨va, vc, rfl⟩ := hv.slice
    have HB4 := Lib.hid (onB HB3.out hb4)
    clear hb4 hv
    go_wp2_with fail
    refine (HAw.out _ HB4.out).mono ?_
    rintro e w5 ⟨rfl, hb5⟩
    have HB5 := Lib.hid (onB HB4.out hb5)
    clear hb5
    go_wp2_with fail
    go_ret
    exact ⟨rfl, HB5.out⟩
  · go_enter Tryz.func5, Tryz.ntmps5
    go_wp2_with fail
    refine HPr.out.mono ?_
    rintro e w1 ⟨rfl, hb1⟩
    have HB1 := Lib.hid hb1
    clear hb1
    go_wp2_with fail
    refine (HPa.out _ HB1.out).mono ?_
    rintro e w2 ⟨v, rfl, hv, hb2⟩
    have HV := Lib.hid hv.sl
    obtain ⟨va, vc, rfl⟩ := hv.slice
    have HB2 := Lib.hid (onB HB1.out hb2)
    clear hb2 hv
    go_wp2_with fail
    refine (HNd.out _ HB2.out _ _ HV.out (HS.out.keep HB2.out)).mono ?_
    rintro e w3 ⟨rfl, hb3⟩
    have HB3 := Lib.hid (onB HB2.out hb3)
    clear hb3
    go_wp2_with fail
    refine (HPs.out _ HB3.out).mono ?_
    rintro e w4 ⟨v, rfl, hv, hb4⟩
    obtain ⟨va, vc, rfl⟩ := hv.slice
    have HB4 := Lib.hid (onB HB3.out hb4)
    clear hb4 hv
    go_wp2_with fail
    refine (HAw.out _ HB4.out).mono ?_
    rintro e w5 ⟨rfl, hb5⟩
    have HB5 := Lib.hid (onB HB4.out hb5)
    clear hb5
    go_wp2_with fail
    go_ret
    exact ⟨rfl, HB5.out⟩
  · go_enter Tryz.func5, Tryz.ntmps5
    go_wp2_with fail
    refine HPr.out.mono ?_
    rintro e w1 ⟨rfl, hb1⟩
    have HB1 := Lib.hid hb1
    clear hb1
    go_wp2_with fail
    refine (HPa.out _ HB1.out).mono ?_
    rintro e w2 ⟨v, rfl, hv, hb2⟩
    have HV := Lib.hid hv.sl
    obtain ⟨va, vc, rfl⟩ := hv.slice
    have HB2 := Lib.hid (onB HB1.out hb2)
    clear hb2 hv
    go_wp2_with fail
    refine (HNd.out _ HB2.out _ _ HV.out (HS.out.keep HB2.out)).mono ?_
    rintro e w3 ⟨rfl, hb3⟩
    have HB3 := Lib.hid (onB HB2.out hb3)
    clear hb3
    go_wp2_with fail
    refine (HPs.out _ HB3.out).mono ?_
    rintro e w4 ⟨v, rfl, hv, hb4⟩
    obtain ⟨va, vc, rfl⟩ := hv.slice
    have HB4 := Lib.hid (onB HB3.out hb4)
    clear hb4 hv
    go_wp2_with fail
    refine (HAw.out _ HB4.out).mono ?_
    rintro e w5 ⟨rfl, hb5⟩
    have HB5 := Lib.hid (onB HB4.out hb5)
    clear hb5
    go_wp2_with fail
    go_ret
    exact ⟨rfl, HB5.out⟩
set_option maxRecDepth 100000 in
set_option maxHeartbeats 4000000 in
theorem back_ny (t : List Nd) (a : Option Addr) (cap : Nat) (hl : t.length ≤ 9223372036854775807) (hbd : BdT t) (s : ByteArray) (w : World) (hs : SlT w (.slice a t.length cap) t) (T : TabW w) (h1' : t.length ≤ 100) (h2' : s.size ≤ 2000) (hc : chkK t ≠ 0) (he : (parT s.data.toList).2.2 = 0) :
    Calls Tryz.prog 5 #[.slice a t.length cap, .string s] w fun e w' => e = .returned (.bool true) ∧ Below w.heap.size w w' := by
  have i1 : ¬ (100 : Int) < (t.length : Int) := by omega
  have i2 : ¬ (2000 : Int) < (s.size : Int) := by omega
  have HAw := Lib.hid (fun (w' : World) (hb : Below w.heap.size w w') => awake6_any w' (T.keep hb))
  have HPr := Lib.hid (tprint_any t (by omega) hbd _ w hs T)
  have HS := Lib.hid hs
  have HNd := Lib.hid (fun (w' : World) (hb : Below w.heap.size w w') (v1 v2 : Value) => nodes_any t (by omega) v1 v2 w')
  obtain ⟨c1, c2, c3⟩ := par_chk (l := s.data.toList) (t := (parT s.data.toList).1) (a := (parT s.data.toList).2.1) (by rw [← he])
  have HPs := Lib.hid (fun (w' : World) (hb : Below w.heap.size w w') => tparse_any s (by omega) w' (T.keep hb))
  have hx64 := (chk_ok c1 c2).1
  rw [he, c3] at HPs
  generalize (parT s.data.toList).1 = X at *
  have HP2 := Lib.hid (fun (w' : World) (hb : Below w.heap.size w w') (v : Value) (hv : SlT w' v X) => tprint_any X (by omega) c2 v w' hv (T.keep hb))
  have HC2 := Lib.hid (fun (w' : World) (hb : Below w.heap.size w w') (v : Value) (hv : SlT w' v X) => tcheck_any X (by omega) c2 v w' hv (T.keep hb).knd)
  have HQ2 := Lib.hid (fun (w' : World) (hb : Below w.heap.size w w') => tparse_any ⟨(prX X).toArray⟩ (by have := prX_len c2; rw [size_len]; show (prX X).length ≤ _; omega) w' (T.keep hb))
  rw [show (⟨(prX X).toArray⟩ : ByteArray).data.toList = prX X from rfl, par_print c1 c2] at HQ2
  rw [c1] at HP2 HC2
  have HN2 := Lib.hid (fun (w' : World) (hb : Below w.heap.size w w') (v1 v2 : Value) => nodes_any X (by omega) v1 v2 w')
  generalize prX X = PX at *
  have h1 : ((chkK t : Int) == 0) = false := by simp; omega
  generalize chkK t = rc at *
  generalize prX t = PT at *
  clear hs T hbd hc he c1 c2 c3 hx64 h1' h2' hl
  go_enter Tryz.func5, Tryz.ntmps5
  go_wp2_with fail
  refine HPr.out.mono ?_
  rintro e w1 ⟨rfl, hb1⟩
  have HB1 := Lib.hid hb1
  clear hb1
  go_wp2_with fail
  refine (HPs.out _ HB1.out).mono ?_
  rintro e w4 ⟨v, rfl, hv, hb4⟩
  have HV4 := Lib.hid hv.sl
  obtain ⟨va4, vc4, rfl⟩ := hv.slice
  have HB4 := Lib.hid (onB HB1.out hb4)
  clear hb4 hv
  go_wp2_with fail
  refine (HP2.out _ HB4.out _ HV4.out).mono ?_
  rintro e w5 ⟨rfl, hb5⟩
  have HV5 := Lib.hid (HV4.out.keep hb5)
  have HB5 := Lib.hid (onB HB4.out hb5)
  clear hb5
  go_wp2_with fail
  refine (HQ2.out _ HB5.out).mono ?_
  rintro e w6 ⟨x, rfl, hx, hb6⟩
  have HX6 := Lib.hid hx.sl
  obtain ⟨xa, xc, rfl⟩ := hx.slice
  have HV6 := Lib.hid (HV5.out.keep hb6)
  have HB6 := Lib.hid (onB HB5.out hb6)
  clear hb6 hx
  go_wp2_with fail
  refine (HC2.out _ HB6.out _ HV6.out).mono ?_
  rintro e w7 ⟨rfl, hb7⟩
  have HV7 := Lib.hid (HV6.out.keep hb7)
  have HX7 := Lib.hid (HX6.out.keep hb7)
  have HB7 := Lib.hid (onB HB6.out hb7)
  clear hb7
  go_wp2_with fail
  refine (HN2.out _ HB7.out _ _ HX7.out HV7.out).mono ?_
  rintro e w8 ⟨rfl, hb8⟩
  have HB8 := Lib.hid (onB HB7.out hb8)
  clear hb8
  go_wp2_with fail
  refine (HAw.out _ HB8.out).mono ?_
  rintro e w9 ⟨rfl, hb9⟩
  have HB9 := Lib.hid (onB HB8.out hb9)
  clear hb9
  go_wp2_with fail
  go_ret
  exact ⟨rfl, HB9.out⟩
set_option maxRecDepth 100000 in
set_option maxHeartbeats 4000000 in
theorem back_nn (t : List Nd) (a : Option Addr) (cap : Nat) (hl : t.length ≤ 9223372036854775807) (hbd : BdT t) (s : ByteArray) (w : World) (hs : SlT w (.slice a t.length cap) t) (T : TabW w) (h1' : t.length ≤ 100) (h2' : s.size ≤ 2000) (hc : chkK t ≠ 0) (he : (parT s.data.toList).2.2 ≠ 0) :
    Calls Tryz.prog 5 #[.slice a t.length cap, .string s] w fun e w' => e = .returned (.bool true) ∧ Below w.heap.size w w' := by
  have i1 : ¬ (100 : Int) < (t.length : Int) := by omega
  have i2 : ¬ (2000 : Int) < (s.size : Int) := by omega
  have HAw := Lib.hid (fun (w' : World) (hb : Below w.heap.size w w') => awake6_any w' (T.keep hb))
  have HPr := Lib.hid (tprint_any t (by omega) hbd _ w hs T)
  have HS := Lib.hid hs
  have HNd := Lib.hid (fun (w' : World) (hb : Below w.heap.size w w') (v1 v2 : Value) => nodes_any t (by omega) v1 v2 w')
  obtain ⟨r, p, hr, hp, hr2, hp2⟩ : ∃ r p : Nat, r = (parT s.data.toList).2.2 ∧ p = (parT s.data.toList).2.1 ∧ (r = 13 ∨ r = 10 ∨ r = 15) ∧ p ≤ s.size := ⟨_, _, rfl, rfl, (par_bad he).2.2, by rw [size_len]; exact (par_bad he).2.1⟩
  have HPs := Lib.hid (fun (w' : World) (hb : Below w.heap.size w w') => tparse_any s (by omega) w' (T.keep hb))
  rw [(par_bad he).1, ← hr, ← hp] at HPs
  have i3 : (p : Int) ≤ (s.size : Int) := by omega
  have i4 : (0 : Int) ≤ (p : Int) := by omega
  have h1 : ((chkK t : Int) == 0) = false := by simp; omega
  generalize chkK t = rc at *
  generalize prX t = PT at *
  clear hs T hbd hc he h1' h2' hl hr hp hp2
  rcases hr2 with rfl | rfl | rfl
  · go_enter Tryz.func5, Tryz.ntmps5
    go_wp2_with fail
    refine HPr.out.mono ?_
    rintro e w1 ⟨rfl, hb1⟩
    have HB1 := Lib.hid hb1
    clear hb1
    go_wp2_with fail
    refine (HPs.out _ HB1.out).mono ?_
    rintro e w4 ⟨v, rfl, hv, hb4⟩
    obtain ⟨va, vc, rfl⟩ := hv.slice
    have HB4 := Lib.hid (onB HB1.out hb4)
    clear hb4 hv
    go_wp2_with fail
    refine (HAw.out _ HB4.out).mono ?_
    rintro e w5 ⟨rfl, hb5⟩
    have HB5 := Lib.hid (onB HB4.out hb5)
    clear hb5
    go_wp2_with fail
    go_ret
    exact ⟨rfl, HB5.out⟩
  · go_enter Tryz.func5, Tryz.ntmps5
    go_wp2_with fail
    refine HPr.out.mono ?_
    rintro e w1 ⟨rfl, hb1⟩
    have HB1 := Lib.hid hb1
    clear hb1
    go_wp2_with fail
    refine (HPs.out _ HB1.out).mono ?_
    rintro e w4 ⟨v, rfl, hv, hb4⟩
    obtain ⟨va, vc, rfl⟩ := hv.slice
    have HB4 := Lib.hid (onB HB1.out hb4)
    clear hb4 hv
    go_wp2_with fail
    refine (HAw.out _ HB4.out).mono ?_
    rintro e w5 ⟨rfl, hb5⟩
    have HB5 := Lib.hid (onB HB4.out hb5)
    clear hb5
    go_wp2_with fail
    go_ret
    exact ⟨rfl, HB5.out⟩
  · go_enter Tryz.func5, Tryz.ntmps5
    go_wp2_with fail
    refine HPr.out.mono ?_
    rintro e w1 ⟨rfl, hb1⟩
    have HB1 := Lib.hid hb1
    clear hb1
    go_wp2_with fail
    refine (HPs.out _ HB1.out).mono ?_
    rintro e w4 ⟨v, rfl, hv, hb4⟩
    obtain ⟨va, vc, rfl⟩ := hv.slice
    have HB4 := Lib.hid (onB HB1.out hb4)
    clear hb4 hv
    go_wp2_with fail
    refine (HAw.out _ HB4.out).mono ?_
    rintro e w5 ⟨rfl, hb5⟩
    have HB5 := Lib.hid (onB HB4.out hb5)
    clear hb5
    go_wp2_with fail
    go_ret
    exact ⟨rfl, HB5.out⟩
theorem back_walk (t : List Nd) (a : Option Addr) (cap : Nat) (hl : t.length ≤ 9223372036854775807) (hbd : BdT t) (s : ByteArray) (w : World) (hs : SlT w (.slice a t.length cap) t) (T : TabW w) :
    Calls Tryz.prog 5 #[.slice a t.length cap, .string s] w fun e w' => e = .returned (.bool true) ∧ Below w.heap.size w w' := by
  by_cases h1 : 100 < t.length
  · exact back_long t a cap hl hbd s w hs T (.inl h1)
  · by_cases h2 : 2000 < s.size
    · exact back_long t a cap hl hbd s w hs T (.inr ⟨by omega, h2⟩)
    · by_cases hc : chkK t = 0 <;> by_cases he : (parT s.data.toList).2.2 = 0
      · exact back_yy t a cap hl hbd s w hs T (by omega) (by omega) hc he
      · exact back_yn t a cap hl hbd s w hs T (by omega) (by omega) hc he
      · exact back_ny t a cap hl hbd s w hs T (by omega) (by omega) hc he
      · exact back_nn t a cap hl hbd s w hs T (by omega) (by omega) hc he

end Go.Proofs.YtmaiecbhloagoaaGreatDoor
