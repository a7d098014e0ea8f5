/-
  amount.share and amount.Split: which parts there are, and where they lie.
-/
import Derived.Test.YtbjjogbnndmmmaaShareA
import Derived.Test.YtbjjogbnndmmmaaGive
namespace Go.Proofs.Ytbjjogbnndmmmaa
open Go.RowKit Go.Sort
set_option linter.unusedVariables false

/-- Where the cutting stands: the parts lie at pb, what was cut off at pb + 1. -/
structure ShareInv (q r : Nat → Int) (w : World) (n k : Nat) (wx : World) : Prop where
  below : Below w.heap.size w wx
  size : wx.heap.size = w.heap.size + 2
  par : ∀ t, t < n → wx.cell? ⟨w.heap.size, 0 + t, none⟩ = some (.int .i64 (if t < k then q t else 0))
  parf : ∀ t, t < n → wx.frozen? ⟨w.heap.size, 0 + t, none⟩ = false
  cut : ∀ t, t < n → wx.cell? ⟨w.heap.size + 1, 0 + t, none⟩ = some (.int .u64 (if t < k then r t else 0))
  cutf : ∀ t, t < n → wx.frozen? ⟨w.heap.size + 1, 0 + t, none⟩ = false

theorem ShareInv.step {q r : Nat → Int} {w wx : World} {n k : Nat} (h : ShareInv q r w n k wx) (hk : k < n) :
    ShareInv q r w n (k + 1) ((wx.setCell ⟨w.heap.size, k, none⟩ (.int .i64 (q k))).setCell ⟨w.heap.size + 1, k, none⟩ (.int .u64 (r k))) := by
  refine ⟨(h.below.setCell (Nat.le_refl _) _).setCell (Nat.le_succ _) _, by simp [h.size], fun t ht => ?_, fun t ht => ?_, fun t ht => ?_, fun t ht => ?_⟩
  · rw [cell_other (addr_ne_block (by omega)), Nat.zero_add]
    by_cases e : t = k
    · subst e
      have := h.par t ht
      rw [Nat.zero_add] at this
      rw [cell_same this, if_pos (by omega)]
    · have := h.par t ht
      rw [Nat.zero_add] at this
      rw [cell_other (addr_ne_off (by omega)), this]
      by_cases c : t < k
      · rw [if_pos c, if_pos (by omega)]
      · rw [if_neg c, if_neg (by omega)]
  · rw [World.frozen?_setCell, World.frozen?_setCell]; exact h.parf t ht
  · rw [Nat.zero_add]
    have := h.cut t ht
    rw [Nat.zero_add] at this
    by_cases e : t = k
    · subst e
      rw [cell_same (u := .int .u64 (if t < t then r t else 0)) (by rw [cell_other (addr_ne_block (by omega))]; exact this), if_pos (by omega)]
    · rw [cell_other (addr_ne_off (by omega)), cell_other (addr_ne_block (by omega)), this]
      by_cases c : t < k
      · rw [if_pos c, if_pos (by omega)]
      · rw [if_neg c, if_neg (by omega)]
  · rw [World.frozen?_setCell, World.frozen?_setCell]; exact h.cutf t ht

theorem ShareInv.drewN {q r : Nat → Int} {w wx : World} {n k : Nat} (h : ShareInv q r w n k wx) (m : Nat) : ShareInv q r w n k (wx.drewN m) :=
  ⟨⟨h.below.os, h.below.tape, h.below.output, h.below.size, h.below.block⟩, h.size, h.par, h.parf, h.cut, h.cutf⟩

theorem ShareInv.start (q r : Nat → Int) (w : World) (n : Nat) (e e' : TypeId) :
    ShareInv q r w n 0 ((w.alloc (.cells (madeCells #[.int .i64 0] n) e)).alloc (.cells (madeCells #[.int .u64 0] n) e')) := by
  have hs : (w.alloc (.cells (madeCells #[.int .i64 0] n) e)).heap.size = w.heap.size + 1 := by simp
  refine ⟨Below.alloc (Below.alloc (Below.refl _ w) (Nat.le_refl _) _) (by simp) _, by simp, fun t ht => ?_, fun t ht => ?_, fun t ht => ?_, fun t ht => ?_⟩
  · rw [World.cell?_alloc_past _ _ _ (by rw [hs]; omega), made_at _ _ _ _ _ ht, if_neg (by omega)]
  · rw [World.frozen?_alloc_past _ _ _ (by rw [hs]; omega)]; exact World.frozen?_alloc_at _ _ _ _ rfl
  · have := made_at (w.alloc (.cells (madeCells #[.int .i64 0] n) e)) n (.int .u64 0) e' t ht
    rw [hs] at this
    rw [this, if_neg (by omega)]
  · exact World.frozen?_alloc_at _ _ _ _ hs.symm

theorem Try.infoU : (Try.prog.info? 39).map (fun i => (i.zero, i.size, i.bytes)) = some (some (.int .u64 0), 1, 8) := by kernel_rfl

theorem divQ_mul (x y s : Int) : divQ (mulHi x y) (mulLo x y) s = x * y / s := by unfold divQ mulHi mulLo; rw [hl_back]
theorem divR_mul (x y s : Int) : divR (mulHi x y) (mulLo x y) s = x * y % s := by unfold divR mulHi mulLo; rw [hl_back]
theorem mulHi_lt (x y s : Int) (hx0 : 0 ≤ x) (hx : x ≤ 9223372036854775807) (hy : 0 ≤ y) (hys : y ≤ s) (hs : 0 < s) : 0 ≤ mulHi x y ∧ mulHi x y < s := by
  have h0 : 0 ≤ x * y := Int.mul_nonneg hx0 hy
  have h1 : x * y ≤ 9223372036854775807 * s := Int.mul_le_mul hx hys hy (by omega)
  unfold mulHi; omega

/-- What the parts are, behind the giving. -/
def SharePost (T : Int) (l : List Int) (w : World) (e : Ending) (w' : World) : Prop :=
  e = .returned (.slice (some ⟨w.heap.size, 0, none⟩) l.length l.length) ∧ ∃ d : Array Int, d.size = l.length ∧ Seg (fun x => rF T (sumL l) l x.toNat) 0 l.length d ∧ Below w.heap.size w w' ∧ w.heap.size < w'.heap.size ∧
    (∀ t, t < l.length → w'.cell? ⟨w.heap.size, 0 + t, none⟩ = some (.int .i64 (addK (qF T (sumL l) l) d (T - sumF (qF T (sumL l) l) l.length).toNat t))) ∧ ∀ t, t < l.length → w'.frozen? ⟨w.heap.size, 0 + t, none⟩ = false

set_option maxHeartbeats 4000000 in
set_option maxRecDepth 100000 in
theorem share_walk (T : Int) (l : List Int) (b o cap : Nat) (w : World) (hb : b < w.heap.size) (hr : Row w b o l) (hnn : NonNeg l) (h0 : 0 < l.length) (h64 : l.length ≤ 64) (hS : 0 < sumL l) (hS1 : sumL l ≤ 9223372036854775807)
    (hT : 0 ≤ T) (hT1 : T ≤ 9223372036854775807) :
    Calls Try.prog 12 #[.int .u64 T, .int .u64 (sumL l), .slice (some ⟨b, o, none⟩) l.length cap] w (SharePost T l w) := by
  have HR : Hid _ := hr
  have HNN : Hid _ := hnn
  have hmk := fun (n : Nat) (hn : n ≤ 64) (w : World) => run_make_row' (P := Try.prog) 22 3 (.int .i64 0) 8 Try.underlying22 Try.infoI rfl .i64 .i64 n (by omega) (by omega) w
  have hmk2 := fun (n : Nat) (hn : n ≤ 64) (w : World) => run_make_row' (P := Try.prog) 54 39 (.int .u64 0) 8 Try.underlying54 Try.infoU rfl .i64 .i64 n (by omega) (by omega) w
  have hm1 := hmk l.length h64
  have hm2 := hmk2 l.length h64
  obtain ⟨n, hn⟩ : ∃ n, n = l.length := ⟨_, rfl⟩
  obtain ⟨S, hSe⟩ : ∃ S, S = sumL l := ⟨_, rfl⟩
  have HN := Lib.hid hn
  have HSe := Lib.hid hSe
  rw [← hn] at hm1 hm2 h0 h64 ⊢
  rw [← hSe] at hS hS1 ⊢
  clear hr hnn hmk hmk2 hn hSe
  go_enter Try.func12, Try.ntmps12
  go_wp2
  go_loopw [9, 10, 11, 12, 13, 14, 15, 25] (fun vl v1 v2 v3 v4 v5 v6 vi wx => ∃ k : Nat, k ≤ n ∧ vi = .int .i64 k ∧ vl = .int .u64 (T - sumF (qF T S l) k) ∧ ShareInv (qF T S l) (rF T S l) w n k wx) (fun _ _ _ _ _ _ _ vi _ => n - (intOf vi).toNat)
  case atStart => exact ⟨0, Nat.zero_le _, rfl, num_eqI (by simp [sumF]), ShareInv.start _ _ _ _ _ _⟩
  case round =>
    obtain ⟨k, hk, rfl, rfl, hinv⟩ := hrel
    obtain ⟨L, hL⟩ : ∃ L, L = T - sumF (qF T S l) k := ⟨_, rfl⟩
    rw [← hL]
    by_cases hlt : k < n
    · obtain ⟨x, hx⟩ : ∃ x, x = l.getD k 0 := ⟨_, rfl⟩
      have hx0 : 0 ≤ x := by rw [hx]; exact HNN.out k
      have hxS : x ≤ S := by rw [hx, HSe.out]; exact getD_le_sum HNN.out (by rw [← HN.out]; exact hlt)
      have hcx : wr.cell? ⟨b, o + k, none⟩ = some (.int .i64 x) := by
        rw [hinv.below.cell (p := ⟨b, o + k, none⟩) hb, hx]; exact HR.out k (by rw [← HN.out]; exact hlt)
      obtain ⟨Q, hQ⟩ : ∃ Q, Q = qF T S l k := ⟨_, rfl⟩
      obtain ⟨R, hRr⟩ : ∃ R, R = rF T S l k := ⟨_, rfl⟩
      have rQ : divQ (mulHi T x) (mulLo T x) S = Q := by rw [divQ_mul, hQ, hx]; rfl
      have rR : divR (mulHi T x) (mulLo T x) S = R := by rw [divR_mul, hRr, hx]; rfl
      have hlk := sumq_le (T := T) hT (by rw [← HSe.out]; exact hS) HNN.out (k := k) (by rw [← HN.out]; exact hk)
      have hlk1 := sumq_le (T := T) hT (by rw [← HSe.out]; exact hS) HNN.out (k := k + 1) (by rw [← HN.out]; exact hlt)
      rw [← HSe.out] at hlk hlk1
      simp only [sumF] at hlk1
      have hQ0 : 0 ≤ Q := by rw [hQ]; exact qF_nonneg hT hS HNN.out k
      have hQL : Q ≤ L := by rw [hL, hQ]; omega
      have hLT : L ≤ T := by omega
      have hR0 : 0 ≤ R := by rw [hRr]; exact (rF_bd hS k).1
      have hR1 : R ≤ 9223372036854775807 := by rw [hRr]; have := (rF_bd (T := T) (l := l) hS k).2; omega
      obtain ⟨mh0, mh1⟩ := mulHi_lt T x S hT hT1 hx0 hxS hS
      have ml0 : 0 ≤ mulLo T x := by unfold mulLo; omega
      have ml1 : mulLo T x ≤ 18446744073709551615 := by unfold mulLo; omega
      have hp1 : wr.cell? ⟨w.heap.size, k, none⟩ = some (.int .i64 0) := by have := hinv.par k hlt; rw [Nat.zero_add, if_neg (by omega)] at this; exact this
      have hp2 : wr.frozen? ⟨w.heap.size, k, none⟩ = false := by have := hinv.parf k hlt; rw [Nat.zero_add] at this; exact this
      have hq1 : wr.cell? ⟨w.heap.size + 1, k, none⟩ = some (.int .u64 0) := by have := hinv.cut k hlt; rw [Nat.zero_add, if_neg (by omega)] at this; exact this
      have hq2 : wr.frozen? ⟨w.heap.size + 1, k, none⟩ = false := by have := hinv.cutf k hlt; rw [Nat.zero_add] at this; exact this
      have HMul := Lib.hid (fun w => mul64_int T x w hT (by omega) hx0 (by omega))
      have HDiv := Lib.hid (fun w => div64_int (mulHi T x) (mulLo T x) S w mh0 mh1 ml0 ml1 (by omega))
      have HInv := Lib.hid hinv
      have HQ := Lib.hid hQ
      have HRr := Lib.hid hRr
      have HL := Lib.hid hL
      clear hm1 hm2 hx hQ hRr hL hinv hlk hlk1
      go_wp2_with (first | (go_at_call 19; refine (HMul.out _).mono ?_; rintro e w' ⟨rfl, rfl⟩) | (go_at_call 20; refine (HDiv.out _).mono ?_; rintro e w' ⟨rfl, m, rfl⟩))
      go_roundw
      case rel =>
        refine ⟨k + 1, by omega, by go_num, num_eqI (by rw [sumF, ← HQ.out, HL.out]; omega), ?_⟩
        have := (HInv.out.drewN m).step hlt
        rw [← HQ.out, ← HRr.out] at this
        exact this
      case measure => simp [intOf]; omega
    · obtain rfl : n = k := by omega
      have hleft := left_lt (T := T) hT (by rw [← HSe.out]; exact hS) HNN.out (by rw [← HN.out]; exact h0)
      rw [← HN.out, ← HSe.out, ← hL] at hleft
      have HG := Lib.hid (give_walk (qF T S l) (rF T S l) L n w.heap.size (w.heap.size + 1) wr (by rw [hinv.size]; omega) (by rw [hinv.size]; omega) (by omega) h64
        (fun t ht => by rw [hinv.par t ht, if_pos ht]) hinv.parf (fun t ht => by rw [hinv.cut t ht, if_pos ht]) hleft.1 (by omega)
        (fun hp t ht => by
          have h1 := qF_nonneg (S := S) hT hS HNN.out t
          have h2 := sumq_mono (S := S) (k := n) (j := t + 1) hT hS HNN.out ht
          have h3 := sumq_mono (S := S) (k := t) (j := 0) hT hS HNN.out (Nat.zero_le _)
          simp only [sumF] at h2 h3
          omega))
      have HInv := Lib.hid hinv
      have HL := Lib.hid hL
      clear hm1 hm2 hL hinv hleft
      go_wp2_with (go_at_call 26; refine HG.out.mono ?_; rintro e w' ⟨rfl, d, h1, h2, h3, h4, h5⟩)
      go_ret
      have e1 := HN.out
      have e2 := HSe.out
      have e3 := HL.out
      subst e3
      subst e1
      subst e2
      have hs := HInv.out.size
      exact ⟨rfl, d, h1, h2, HInv.out.below.trans h3, by have := h3.size; omega, h4, h5⟩

/-- What Split answers: the parts of a total that is not below nought. -/
def partF (T : Int) (l : List Int) (d : Array Int) (t : Nat) : Int := addK (qF T (sumL l) l) d (T - sumF (qF T (sumL l) l) l.length).toNat t
/-- The order in which what is left is given away. -/
def Ordered (T : Int) (l : List Int) (d : Array Int) : Prop := d.size = l.length ∧ Seg (fun x => rF T (sumL l) l x.toNat) 0 l.length d

/-- Parts that lie in new memory. -/
def SplitPost (T : Int) (l : List Int) (w : World) (e : Ending) (w' : World) : Prop :=
  e = .returned (.tuple #[.slice (some ⟨w.heap.size, 0, none⟩) l.length l.length, .int .i64 0]) ∧ ∃ d : Array Int, Ordered (absI T) l d ∧ Below w.heap.size w w' ∧ w.heap.size < w'.heap.size ∧
    ∀ t, t < l.length → w'.cell? ⟨w.heap.size, 0 + t, none⟩ = some (.int .i64 (sgn (decide (T < 0)) (partF (absI T) l d t)))

theorem addK_bd (P : Nat → Int) (d : Array Int) (t : Nat) : ∀ k, P t ≤ addK P d k t ∧ addK P d k t ≤ P t + k
  | 0 => by simp [addK]
  | k + 1 => by
    have := addK_bd P d t k
    show P t ≤ addK P d k t + (if (t : Int) = d[k]! then 1 else 0) ∧ addK P d k t + (if (t : Int) = d[k]! then 1 else 0) ≤ P t + ((k + 1 : Nat) : Int)
    split <;> omega

theorem partF_bd {T : Int} {l : List Int} {d : Array Int} (hT : 0 ≤ T) (hS : 0 < sumL l) (h : NonNeg l) {t : Nat} (ht : t < l.length) : 0 ≤ partF T l d t ∧ partF T l d t ≤ T := by
  have h1 := qF_nonneg (S := sumL l) hT hS h t
  have h2 := sumq_mono (S := sumL l) (k := l.length) (j := t + 1) hT hS h ht
  have h3 := sumq_mono (S := sumL l) (k := t) (j := 0) hT hS h (Nat.zero_le _)
  have h4 := addK_bd (qF T (sumL l) l) d t (T - sumF (qF T (sumL l) l) l.length).toNat
  have h5 := (sumq_le (T := T) hT hS h (Nat.le_refl l.length)).2
  simp only [sumF] at h2 h3
  unfold partF
  omega


end Go.Proofs.Ytbjjogbnndmmmaa
