/-
  chattellaw05: TermDeeper's walk.
-/
import Derived.Test.YtadjhofomabbmaaDoorJnB
namespace Go.Proofs.YtadjhofomabbmaaDoor
open Go.RowKit Go.Lib
set_option linter.unusedVariables false
set_option linter.unusedSimpArgs false

theorem jnK_one {n : Nd} {t : List Nd} (hc : cnO n.op = 1) : jnK n [t] = (ofK (n :: t)).2 := by
  have h1 : [t].flatten = t := by simp
  have h2 : pcN [t] [t].length = [1] := by simp [pcN]
  have h3 : plL (n :: t) 0 (cnO n.op) = [1] := by rw [hc]; simp [plL, uptoT, plA]
  unfold jnK
  rw [h1, h2, h3, if_pos rfl]
  by_cases h : (ofK (n :: t)).2 = 0
  · rw [if_neg (by simp [h]), h]
  · rw [if_pos h]
/-- A node that is joined on top. -/
def upW (day : Int) : Nd := ⟨14, day, 0, 0, 0⟩
def upG : Nd := ⟨11, 0, 0, 0, 0⟩
theorem upW_fld {day : Int} (h0 : 0 ≤ day) (h1 : day ≤ 73048) : fldO (upW day) = true := by
  unfold fldO fldA fldB fldV upW
  have e : ixO 14 = 14 := by decide
  have e2 : maN 14 = 73048 := by decide
  have e3 : mbN 14 = 0 := by decide
  simp only [e, e2, e3]
  simp
  omega
theorem upG_fld : fldO upG = true := by decide
theorem upBd {n : Nd} {t : List Nd} (hn : n.num = 0 ∧ n.den = 0) (h : BdT t) : BdT (n :: t) := by
  intro p hp
  cases p with
  | zero => 
    show I64T n.num ∧ I64T n.den
    rw [hn.1, hn.2]; exact ⟨⟨by decide, by decide⟩, ⟨by decide, by decide⟩⟩
  | succ p => exact h p (by simpa using hp)
theorem join_up (n : Nd) (t : List Nd) (hk : chkK t = 0) (hop : n.op = 11 ∨ n.op = 14) (hf : fldO n = true) (hn : n.num = 0 ∧ n.den = 0) (hl : t.length ≤ 63) (hbd : BdT t) (v : Value) (w : World) (hs : SlT w v t) (C : KndW w) :
    Calls Tryd.prog 34 #[.agg #[.int .i64 n.op, .int .i64 n.a, .int .i64 n.b, .int .i64 n.num, .int .i64 n.den], .slice (some ⟨w.heap.size, 0, none⟩) 1 1] (w.alloc (.cells #[v] 37)) fun e w' =>
      ((dpA t 0 = 12 → e = .returned (.tuple #[.slice none 0 0, .int .i64 15])) ∧ (dpA t 0 ≠ 12 → ∃ v', e = .returned (.tuple #[v', .int .i64 0]) ∧ OwnN w' w.heap.size v' (n :: t))) ∧ Below w.heap.size w w' := by
  have hb := newB w (.cells #[v] 37)
  have hS : SlS (w.alloc (.cells #[v] 37)) (some ⟨w.heap.size, 0, none⟩) 1 [t] := by
    intro _
    refine ⟨w.heap.size, 0, rfl, Nat.le_refl _, by omega, fun j hj => ?_⟩
    have hj' : j < 1 := hj
    obtain rfl : j = 0 := by omega
    exact ⟨v, by rw [World.cell?_alloc_at _ _ _ _ rfl]; rfl, hs.keep hb⟩
  have hfl : [t].flatten = t := by simp
  obtain ⟨u1, u2, _, _⟩ := up_of hk hop hf hl
  have hj := jnK_one (t := t) (up_ops hop).2.1
  refine (join_any n [t] (by simp) (fun j hj => ?_) (by rw [hfl]; exact upBd hn hbd) _ 1 _ hS (C.keep hb)).mono ?_
  · have hj' : j < 1 := hj
    obtain rfl : j = 0 := by omega
    show t.length ≤ 1000
    omega
  · rintro e w' ⟨⟨h1, h2⟩, hb'⟩
    refine ⟨⟨fun h => ?_, fun h => ?_⟩, onB hb hb'⟩
    · have hz : jnK n [t] = 15 := by rw [hj, u1 h]
      rw [hz] at h1
      exact h1 (by decide)
    · obtain ⟨v', he, ho⟩ := h2 (by rw [hj, u2 h])
      rw [hfl] at ho
      exact ⟨v', he, ho.base (by simp)⟩
theorem depth_up {n : Nd} {t : List Nd} (hc : chkK (n :: t) = 0) (hd : dpA (n :: t) 0 = dpA t 0 + 1) (hl : t.length ≤ 63) (hbd : BdT (n :: t)) (v : Value) (w : World) (hs : SlT w v (n :: t)) (C : KndW w) :
    Calls Tryd.prog 28 #[v] w fun e w' => e = .returned (.tuple #[.int .i64 (((dpA t 0 : Nat) : Int) + 1), .int .i64 0]) ∧ Below w.heap.size w w' := by
  have h := tdepth_any (n :: t) (by simp; omega) hbd v w hs C
  have e : dpK (n :: t) = dpA t 0 + 1 := by unfold dpK; rw [if_pos hc, hd]
  rw [e, hc] at h
  exact h
theorem hz_up {n : Nd} {t : List Nd} (hc : chkK (n :: t) = 0) (hl : t.length ≤ 63) (hbd : BdT (n :: t)) (r : Int) (hr : hzN (n :: t) (t.length + 1) = r) (v : Value) (w : World) (hs : SlT w v (n :: t)) (C : KndW w) :
    Calls Tryd.prog 29 #[v] w fun e w' => e = .returned (.tuple #[.int .i64 r, .int .i64 0]) ∧ Below w.heap.size w w' := by
  have h := horizon_any (n :: t) (by simp; omega) hbd v w hs C
  have e : hzK (n :: t) = r := by unfold hzK; rw [if_pos hc]; exact hr
  rw [e, hc] at h
  exact h
theorem keys_up {n : Nd} {t : List Nd} (hc : chkK (n :: t) = 0) (hop : n.op = 11 ∨ n.op = 14) (hl : t.length ≤ 63) (hbd : BdT (n :: t)) (v : Value) (w : World) (hs : SlT w v (n :: t)) (C : KndW w) :
    Calls Tryd.prog 30 #[v] w fun e w' => (∃ v', e = .returned (.tuple #[v', .int .i64 0]) ∧ YtadjhofomabbmaaDoor.Own w' w.heap.size v' (kyN t (pT 2 2) 64)) ∧ Below w.heap.size w w' := by
  have hp : pT 2 2 n.op = false := by
    rcases hop with h | h <;> (rw [h]; decide)
  refine (keys_any (n :: t) (by simp; omega) hbd v w hs C).mono ?_
  rintro e w' ⟨⟨_, h2⟩, hb⟩
  rw [up_ky hp] at h2
  exact ⟨h2 hc, hb⟩

set_option maxHeartbeats 2000000 in
set_option maxRecDepth 100000 in
theorem deeper_far (a : Option Addr) (len cap : Nat) (hl : len ≤ 9223372036854775807) (day : Int) (hd : I64T day) (h : 63 < len ∨ day < 0 ∨ 73048 < day) (w : World) (C : KndW w) :
    Calls Tryd.prog 9 #[.slice a len cap, .int .i64 day] w fun e w' => e = .returned (.bool true) ∧ Below w.heap.size w w' := by
  have HAw := Lib.hid (awake5_any w C)
  clear C
  by_cases h1 : 63 < len
  · have h2 : (63 : Int) < (len : Int) := by omega
    clear h h1
    go_enter Tryd.func9, Tryd.ntmps9
    go_wp2_with fail
    refine HAw.out.mono ?_
    rintro e w1 ⟨rfl, hb⟩
    go_wp2_with fail
    go_ret
    exact ⟨rfl, hb⟩
  · have h2 : ¬ (63 : Int) < (len : Int) := by omega
    by_cases h3 : day < 0
    · clear h h1
      go_enter Tryd.func9, Tryd.ntmps9
      go_wp2_with fail
      refine HAw.out.mono ?_
      rintro e w1 ⟨rfl, hb⟩
      go_wp2_with fail
      go_ret
      exact ⟨rfl, hb⟩
    · have h4 : 0 ≤ day := by omega
      have h5 : 73048 < day := by omega
      clear h h1
      go_enter Tryd.func9, Tryd.ntmps9
      go_wp2_with fail
      refine HAw.out.mono ?_
      rintro e w1 ⟨rfl, hb⟩
      go_wp2_with fail
      go_ret
      exact ⟨rfl, hb⟩

set_option maxHeartbeats 2000000 in
set_option maxRecDepth 100000 in
theorem deeper_bad (t : List Nd) (hl : t.length ≤ 63) (hbd : BdT t) (a : Option Addr) (cap : Nat) (day : Int) (hd0 : 0 ≤ day) (hd1 : day ≤ 73048) (w : World) (hs : SlT w (.slice a t.length cap) t) (C : KndW w) (hk : chkK t ≠ 0) :
    Calls Tryd.prog 9 #[.slice a t.length cap, .int .i64 day] w fun e w' => e = .returned (.bool true) ∧ Below w.heap.size w w' := by
  have HAw := Lib.hid (fun w C => awake5_any w C)
  have HC := Lib.hid C
  have hd : dpK t = 0 := by unfold dpK; rw [if_neg hk]
  have hD := tdepth_any t (by omega) hbd (.slice a t.length cap) w hs C
  rw [hd] at hD
  have HD := Lib.hid hD
  have h1 : ¬ (63 : Int) < (t.length : Int) := by omega
  have h2 : ¬ day < 0 := by omega
  have h3 : ¬ 73048 < day := by omega
  have hb : ((chkK t : Int) == 0) = false := beq_false_of_ne (by omega)
  clear hs C hk hbd hD hd
  generalize chkK t = ck at *
  go_enter Tryd.func9, Tryd.ntmps9
  go_wp2_with fail
  refine HD.out.mono ?_
  rintro e w1 ⟨rfl, hb1⟩
  have HB1 := Lib.hid hb1
  clear hb1
  go_wp2_with fail
  refine (HAw.out _ (HC.out.keep HB1.out)).mono ?_
  rintro e w2 ⟨rfl, hb2⟩
  go_wp2_with fail
  go_ret
  exact ⟨rfl, onB HB1.out hb2⟩

set_option maxHeartbeats 4000000 in
set_option maxRecDepth 100000 in
theorem deeper_deep (t : List Nd) (hl : t.length ≤ 63) (hbd : BdT t) (a : Option Addr) (cap : Nat) (day : Int) (hd0 : 0 ≤ day) (hd1 : day ≤ 73048) (w : World) (hs : SlT w (.slice a t.length cap) t) (C : KndW w) (hk : chkK t = 0) (hdp : dpA t 0 = 12) :
    Calls Tryd.prog 9 #[.slice a t.length cap, .int .i64 day] w fun e w' => e = .returned (.bool true) ∧ Below w.heap.size w w' := by
  have HAw := Lib.hid (fun w C => awake5_any w C)
  have HC := Lib.hid C
  have HS := Lib.hid hs
  have hd : dpK t = 12 := by unfold dpK; rw [if_pos hk, hdp]
  have hD := tdepth_any t (by omega) hbd (.slice a t.length cap) w hs C
  rw [hd, hk] at hD
  have HD := Lib.hid hD
  have HJ1 := Lib.hid (fun w hs C => (join_up (upW day) t hk (.inr rfl) (upW_fld hd0 hd1) ⟨rfl, rfl⟩ hl hbd (.slice a t.length cap) w hs C).mono (fun e w' h => (⟨h.1.1 hdp, h.2⟩ : e = .returned (.tuple #[.slice none 0 0, .int .i64 15]) ∧ Below w.heap.size w w')))
  have HJ2 := Lib.hid (fun w hs C => (join_up upG t hk (.inl rfl) upG_fld ⟨rfl, rfl⟩ hl hbd (.slice a t.length cap) w hs C).mono (fun e w' h => (⟨h.1.1 hdp, h.2⟩ : e = .returned (.tuple #[.slice none 0 0, .int .i64 15]) ∧ Below w.heap.size w w')))
  have h1 : ¬ (63 : Int) < (t.length : Int) := by omega
  have h2 : ¬ day < 0 := by omega
  have h3 : ¬ 73048 < day := by omega
  clear hs C hk hbd hD hd hdp
  go_enter Tryd.func9, Tryd.ntmps9
  go_wp2_with fail
  refine HD.out.mono ?_
  rintro e w1 ⟨rfl, hb1⟩
  have HB1 := Lib.hid hb1
  clear hb1
  go_wp2_with fail
  refine (HJ1.out w1 (HS.out.keep HB1.out) (HC.out.keep HB1.out)).mono ?_
  rintro e w2 ⟨rfl, hb2⟩
  have HB2 := Lib.hid (onB HB1.out hb2)
  clear hb2
  go_wp2_with fail
  refine (HJ2.out w2 (HS.out.keep HB2.out) (HC.out.keep HB2.out)).mono ?_
  rintro e w3 ⟨rfl, hb3⟩
  have HB3 := Lib.hid (onB HB2.out hb3)
  clear hb3
  go_wp2_with fail
  refine (HAw.out _ (HC.out.keep HB3.out)).mono ?_
  rintro e w4 ⟨rfl, hb4⟩
  go_wp2_with fail
  go_ret
  exact ⟨rfl, onB HB3.out hb4⟩

set_option maxHeartbeats 8000000 in
set_option maxRecDepth 100000 in
theorem deeper_ok (t : List Nd) (hl : t.length ≤ 63) (hbd : BdT t) (a : Option Addr) (cap : Nat) (day : Int) (hd0 : 0 ≤ day) (hd1 : day ≤ 73048) (w : World) (hs : SlT w (.slice a t.length cap) t) (C : KndW w) (hk : chkK t = 0) (hdp : dpA t 0 ≠ 12) :
    Calls Tryd.prog 9 #[.slice a t.length cap, .int .i64 day] w fun e w' => e = .returned (.bool true) ∧ Below w.heap.size w w' := by
  have HAw := Lib.hid (fun w C => awake5_any w C)
  have HC := Lib.hid C
  have HS := Lib.hid hs
  obtain ⟨_, g1, g2, g3⟩ := up_of hk (n := upW day) (.inr rfl) (upW_fld hd0 hd1) hl
  obtain ⟨_, k1, _, k3⟩ := up_of hk (n := upG) (.inl rfl) upG_fld hl
  have c1 := up_chk (g1 hdp)
  have c2 := up_chk (k1 hdp)
  have b1 := upBd (n := upW day) ⟨rfl, rfl⟩ hbd
  have b2 := upBd (n := upG) ⟨rfl, rfl⟩ hbd
  have hd : dpK t = dpA t 0 := by unfold dpK; rw [if_pos hk]
  have hh : hzK t = hzN t t.length := by unfold hzK; rw [if_pos hk]
  have hD := tdepth_any t (by omega) hbd (.slice a t.length cap) w hs C
  have hH := fun w hs C => horizon_any t (by omega) hbd (.slice a t.length cap) w hs C
  rw [hd, hk] at hD
  rw [hh, hk] at hH
  have HD := Lib.hid hD
  have HH := Lib.hid hH
  have HJ1 := Lib.hid (fun w hs C => (join_up (upW day) t hk (.inr rfl) (upW_fld hd0 hd1) ⟨rfl, rfl⟩ hl hbd (.slice a t.length cap) w hs C).mono (fun e w' h => (⟨h.1.2 hdp, h.2⟩ : (∃ v', e = .returned (.tuple #[v', .int .i64 0]) ∧ OwnN w' w.heap.size v' (upW day :: t)) ∧ Below w.heap.size w w')))
  have HJ2 := Lib.hid (fun w hs C => (join_up upG t hk (.inl rfl) upG_fld ⟨rfl, rfl⟩ hl hbd (.slice a t.length cap) w hs C).mono (fun e w' h => (⟨h.1.2 hdp, h.2⟩ : (∃ v', e = .returned (.tuple #[v', .int .i64 0]) ∧ OwnN w' w.heap.size v' (upG :: t)) ∧ Below w.heap.size w w')))
  have HD1 := Lib.hid (fun v w hs C => depth_up c1 g3 hl b1 v w hs C)
  have HD2 := Lib.hid (fun v w hs C => depth_up c2 k3 hl b2 v w hs C)
  have HH1 := Lib.hid (fun v w hs C => hz_up c1 hl b1 (max (hzN t t.length) day) (up_when rfl hd0 _) v w hs C)
  have HH2 := Lib.hid (fun v w hs C => hz_up c2 hl b2 (hzN t t.length) (up_give rfl _) v w hs C)
  have HK := Lib.hid (fun w hs C => (keys_any t (by omega) hbd (.slice a t.length cap) w hs C).mono (fun e w' h => (⟨h.1.2 hk, h.2⟩ : (∃ v', e = .returned (.tuple #[v', .int .i64 0]) ∧ YtadjhofomabbmaaDoor.Own w' w.heap.size v' (kyN t (pT 2 2) 64)) ∧ Below w.heap.size w w')))
  have HK1 := Lib.hid (fun v w hs C => keys_up c1 (.inr rfl) hl b1 v w hs C)
  have HI := Lib.hid (fun v v' base base' w h h' => ints_own (kyN t (pT 2 2) 64) (by have := kyN_len t (pT 2 2) 64; omega) v v' base base' w h h')
  have h1 : ¬ (63 : Int) < (t.length : Int) := by omega
  have h2 : ¬ day < 0 := by omega
  have h3 : ¬ 73048 < day := by omega
  have h4 : (((dpA t 0 : Nat) : Int) == 12) = false := beq_false_of_ne (by omega)
  have h5 : ((dpA t 0 : Nat) : Int) ≤ 12 := by omega
  have h6 : 0 ≤ ((dpA t 0 : Nat) : Int) := by omega
  clear hs C hk hbd hD hH hd hh hdp g1 g2 g3 k1 k3 c1 c2 b1 b2
  generalize ((dpA t 0 : Nat) : Int) = d at *
  generalize hzN t t.length = z at *
  generalize kyN t (pT 2 2) 64 = ks at *
  go_enter Tryd.func9, Tryd.ntmps9
  go_wp2_with fail
  refine HD.out.mono ?_
  rintro e w1 ⟨rfl, hb1⟩
  have HB1 := Lib.hid hb1
  clear hb1
  go_wp2_with fail
  refine (HJ1.out w1 (HS.out.keep HB1.out) (HC.out.keep HB1.out)).mono ?_
  rintro e w2 ⟨⟨v1, rfl, ho1⟩, hb2⟩
  have HB2 := Lib.hid (onB HB1.out hb2)
  have HO2 := Lib.hid ho1
  clear hb2 ho1
  go_wp2_with fail
  refine (HJ2.out w2 (HS.out.keep HB2.out) (HC.out.keep HB2.out)).mono ?_
  rintro e w3 ⟨⟨v2, rfl, ho2⟩, hb3⟩
  have HB3 := Lib.hid (onB HB2.out hb3)
  have HO3 := Lib.hid (HO2.out.grown hb3)
  have HG3 := Lib.hid ho2
  clear hb3 ho2
  go_wp2_with fail
  refine (HD1.out _ w3 HO3.out.sl (HC.out.keep HB3.out)).mono ?_
  rintro e w4 ⟨rfl, hb⟩
  have HB4 := Lib.hid (onB HB3.out hb)
  have HO4 := Lib.hid (HO3.out.grown hb)
  have HG4 := Lib.hid (HG3.out.grown hb)
  clear hb
  go_wp2_with fail
  refine (HD2.out _ w4 HG4.out.sl (HC.out.keep HB4.out)).mono ?_
  rintro e w5 ⟨rfl, hb⟩
  have HB5 := Lib.hid (onB HB4.out hb)
  have HO5 := Lib.hid (HO4.out.grown hb)
  have HG5 := Lib.hid (HG4.out.grown hb)
  clear hb
  go_wp2_with fail
  refine (HH.out w5 (HS.out.keep HB5.out) (HC.out.keep HB5.out)).mono ?_
  rintro e w6 ⟨rfl, hb⟩
  have HB6 := Lib.hid (onB HB5.out hb)
  have HO6 := Lib.hid (HO5.out.grown hb)
  have HG6 := Lib.hid (HG5.out.grown hb)
  clear hb
  go_wp2_with fail
  refine (HH1.out _ w6 HO6.out.sl (HC.out.keep HB6.out)).mono ?_
  rintro e w7 ⟨rfl, hb⟩
  have HB7 := Lib.hid (onB HB6.out hb)
  have HO7 := Lib.hid (HO6.out.grown hb)
  have HG7 := Lib.hid (HG6.out.grown hb)
  clear hb
  go_wp2_with fail
  refine (HH2.out _ w7 HG7.out.sl (HC.out.keep HB7.out)).mono ?_
  rintro e w8 ⟨rfl, hb⟩
  have HB8 := Lib.hid (onB HB7.out hb)
  have HO8 := Lib.hid (HO7.out.grown hb)
  clear hb
  go_wp2_with fail
  refine (HK.out w8 (HS.out.keep HB8.out) (HC.out.keep HB8.out)).mono ?_
  rintro e w9 ⟨⟨vm, rfl, hm⟩, hb⟩
  have HB9 := Lib.hid (onB HB8.out hb)
  have HO9 := Lib.hid (HO8.out.grown hb)
  have HM9 := Lib.hid hm
  clear hb hm
  go_wp2_with fail
  refine (HK1.out _ w9 HO9.out.sl (HC.out.keep HB9.out)).mono ?_
  rintro e w10 ⟨⟨vo, rfl, hm⟩, hb⟩
  have HB10 := Lib.hid (onB HB9.out hb)
  have HM10 := Lib.hid (HM9.out.grown hb)
  have HK10 := Lib.hid hm
  clear hb hm
  go_wp2_with fail
  refine (HI.out _ _ _ _ _ HM10.out HK10.out).mono ?_
  rintro e w11 ⟨rfl, hb⟩
  have HB11 := Lib.hid (onB HB10.out hb)
  clear hb
  go_wp2_with fail
  refine (HAw.out _ (HC.out.keep HB11.out)).mono ?_
  rintro e w12 ⟨rfl, hb⟩
  go_wp2_with fail
  go_ret
  exact ⟨rfl, onB HB11.out hb⟩

theorem deeper_walk (t : List Nd) (a : Option Addr) (cap : Nat) (hl : t.length ≤ 9223372036854775807) (hbd : BdT t) (day : Int) (hd : I64T day) (w : World) (hs : SlT w (.slice a t.length cap) t) (C : KndW w) :
    Calls Tryd.prog 9 #[.slice a t.length cap, .int .i64 day] w fun e w' => e = .returned (.bool true) ∧ Below w.heap.size w w' := by
  by_cases h : 63 < t.length ∨ day < 0 ∨ 73048 < day
  · exact deeper_far a _ cap hl day hd h w C
  · by_cases hk : chkK t = 0
    · by_cases hdp : dpA t 0 = 12
      · exact deeper_deep t (by omega) hbd a cap day (by omega) (by omega) w hs C hk hdp
      · exact deeper_ok t (by omega) hbd a cap day (by omega) (by omega) w hs C hk hdp
    · exact deeper_bad t (by omega) hbd a cap day (by omega) (by omega) w hs C hk

end Go.Proofs.YtadjhofomabbmaaDoor
