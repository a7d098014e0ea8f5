/-
  Package days: Print: what it answers.
-/
import Derived.Test.YtfeaopaglhlojaaDoorDayE
import Derived.Laws.IdiomStrings
import Derived.Lib.SlBytesConst
namespace Go.Proofs.YtfeaopaglhlojaaDoor
open Go.RowKit Go.Lib
set_option linter.unusedVariables false

theorem cell_far {w : World} {b b' o o' : Nat} {v : Value} (h : b ≠ b' ∨ o ≠ o') : (w.setCell ⟨b, o, none⟩ v).cell? ⟨b', o', none⟩ = w.cell? ⟨b', o', none⟩ := by
  apply World.cell?_setCell_other
  intro e
  injection e with e1 e2
  rcases h with h | h
  · exact h e1
  · exact h e2
theorem cell_here {w : World} {b o : Nat} {v u : Value} (h : w.cell? ⟨b, o, none⟩ = some u) : (w.setCell ⟨b, o, none⟩ v).cell? ⟨b, o, none⟩ = some v := by
  apply World.cell?_setCell_same
  exact h
/-- A text of ten bytes, and the variable that holds it. -/
structure TxI (B : Nat) (w0 w : World) (p b : Nat) (bs : Nat → Nat) : Prop where
  bel : Below B w0 w
  sl : w.cell? ⟨p, 0, none⟩ = some (.slice (some ⟨b, 0, none⟩) 10 10)
  tx : ∀ i, i < 10 → w.cell? ⟨b, i, none⟩ = some (.int .u8 (bs i))
  fr : ∀ i, i < 10 → w.frozen? ⟨b, i, none⟩ = false
  ne : b ≠ p
  lo : B ≤ b
theorem TxI.set {B : Nat} {w0 w : World} {p b : Nat} {bs : Nat → Nat} (h : TxI B w0 w p b bs) {i : Nat} (hi : i < 10) (v : Nat) :
    TxI B w0 (w.setCell ⟨b, i, none⟩ (.int .u8 v)) p b (fun k => if k = i then v else bs k) := by
  refine ⟨h.bel.setCell (p := ⟨b, i, none⟩) h.lo _, ?_, fun k hk => ?_, fun k hk => by simpa using h.fr k hk, h.ne, h.lo⟩
  · rw [cell_far (Or.inl h.ne)]; exact h.sl
  · by_cases c : k = i
    · subst c
      simp only [if_true]
      exact cell_here (h.tx k hk)
    · simp only [if_neg c]
      rw [cell_far (Or.inr (fun e => c e.symm))]; exact h.tx k hk

/-- A number's digits, added ahead of a place. -/
def addD (n e : Nat) (bs : Nat → Nat) (k : Nat) : Nat := bs k + (if k < e then n / 10 ^ (e - 1 - k) % 10 else 0)
theorem addD_step {v s : Nat} {cs : Nat → Nat} (k : Nat) : addD (v / 10) s (fun j => if j = s then cs s + v % 10 else cs j) k = addD v (s + 1) cs k := by
  unfold addD
  dsimp only
  by_cases h1 : k < s
  · rw [if_neg (show ¬ k = s by omega), if_pos h1, if_pos (show k < s + 1 by omega), Nat.div_div_eq_div_mul, show s + 1 - 1 - k = (s - 1 - k) + 1 by omega, Nat.pow_succ, Nat.mul_comm 10]
  · by_cases h2 : k = s
    · subst h2
      rw [if_pos rfl, if_neg h1, if_pos (show k < k + 1 by omega), show k + 1 - 1 - k = 0 by omega]; simp
    · rw [if_neg h2, if_neg h1, if_neg (show ¬ k < s + 1 by omega)]
theorem addD_zero (e : Nat) (cs : Nat → Nat) (k : Nat) : addD 0 e cs k = cs k := by unfold addD; split <;> simp

set_option maxHeartbeats 1000000 in
set_option maxRecDepth 100000 in
theorem write1_any (n e : Nat) (he : e ≤ 10) (hn : n < 10 ^ e) (bs : Nat → Nat) (hs : ∀ k, k < e → bs k ≤ 100) (B : Nat) (w0 w : World) (p b : Nat) (h : TxI B w0 w p b bs) :
    Calls Tryd.prog 48 #[.int .i64 n, .int .i64 e, .pointer (some ⟨p, 0, none⟩)] w fun r w' => r = .returned (.tuple #[]) ∧ ∃ cs, TxI B w0 w' p b cs ∧ ∀ k, cs k = addD n e bs k := by
  have HI := Lib.hid h
  have HN := Lib.hid hn
  have HS := Lib.hid hs
  have hn2 : n < 10000000000 := Nat.lt_of_lt_of_le hn (Nat.pow_le_pow_right (by decide) he)
  clear h hn hs
  go_enter Tryd.func48, Tryd.ntmps48
  go_wp2_with fail
  go_loopw [0, 5] (fun vn vi wx => ∃ (v s : Nat) (cs : Nat → Nat), s ≤ e ∧ vn = .int .i64 v ∧ vi = .int .i64 ((s : Int) - 1) ∧ v ≤ 10000000000 ∧ v < 10 ^ s ∧ TxI B w0 wx p b cs ∧ (∀ k, k < s → cs k ≤ 100) ∧ ∀ k, addD v s cs k = addD n e bs k) (fun vn _ _ => (RowKit.intOf vn).toNat)
  case atStart => exact ⟨n, e, bs, Nat.le_refl _, rfl, by go_num, by omega, HN.out, HI.out, HS.out, fun _ => rfl⟩
  case round =>
    clear HI HN HS
    obtain ⟨v, s, cs, hs, rfl, hvi, hv9, hv, hT, h100, hA⟩ := hrel
    have HT := Lib.hid hT
    have HA := Lib.hid hA
    have H100 := Lib.hid h100
    by_cases hz : v = 0
    · subst hz
      subst hvi
      clear hT hA h100 hv
      go_wp2_with fail
      exact bodyPost_end (results_none rfl _ _ _) rfl ⟨rfl, cs, HT.out, fun k => by rw [← HA.out, addD_zero]⟩
    · cases s with
      | zero => simp at hv; omega
      | succ s =>
        obtain ⟨q, hq⟩ : ∃ q, q = v / 10 := ⟨_, rfl⟩
        obtain ⟨r, hr⟩ : ∃ r, r = v % 10 := ⟨_, rfl⟩
        have hq1 : (v : Int) / 10 = (q : Int) := by omega
        have hr1 : (v : Int) % 10 = (r : Int) := by omega
        have hr2 : r < 10 := by omega
        have hq2 : q < v := by omega
        have HQ : Hid (q < 10 ^ s) := Lib.hid (by rw [Nat.pow_succ] at hv; omega)
        have hs10 : s < 10 := by omega
        have hsl := hT.sl
        have htx := hT.tx s hs10
        have hfr := hT.fr s hs10
        have hc100 := h100 s (by omega)
        have HT2 := Lib.hid (hT.set hs10 (cs s + r))
        have HA2 : Hid (∀ k, addD q s (fun j => if j = s then cs s + r else cs j) k = addD n e bs k) := Lib.hid (fun k => by rw [hq, hr, addD_step]; exact hA k)
        have H100b : Hid (∀ k, k < s → (fun j => if j = s then cs s + r else cs j) k ≤ 100) := Lib.hid (fun k hk => by simp only [if_neg (show ¬ k = s by omega)]; exact h100 k (by omega))
        rw [show (((s + 1 : Nat) : Int) - 1) = (s : Int) by omega] at hvi
        subst hvi
        have i0 : (0 : Int) ≤ (s : Int) := by omega
        have i1 : (s : Int) < 10 := by omega
        have hpos : (0 : Int) < (v : Int) := by omega
        clear hT hA h100 hv hq hr HT HA H100 hz
        generalize cs s = c at *
        go_wp2_with fail
        go_roundw
        case rel => exact ⟨q, s, _, by omega, by go_num, by go_num, by omega, HQ.out, HT2.out, H100b.out, HA2.out⟩
        case measure => simp [RowKit.intOf]; omega

def baseB (k : Nat) : Nat := if k = 4 ∨ k = 7 then 45 else 48
/-- A date's bytes. -/
def dayB (y m d : Nat) (k : Nat) : Nat := addD d 10 (addD m 7 (addD y 4 baseB)) k
/-- A date's text. -/
def dayL (y m d : Nat) : List UInt8 := (List.range 10).map fun k => UInt8.ofNat (dayB y m d k)
theorem dayL_len (y m d : Nat) : (dayL y m d).length = 10 := by unfold dayL; simp
theorem digit_le (n e k : Nat) (bs : Nat → Nat) : addD n e bs k ≤ bs k + 9 := by
  unfold addD; split <;> omega
theorem base_le (k : Nat) : baseB k ≤ 48 := by unfold baseB; split <;> omega
theorem dayB_le (y m d k : Nat) : dayB y m d k ≤ 75 := by
  unfold dayB
  have h1 := digit_le d 10 k (addD m 7 (addD y 4 baseB))
  have h2 := digit_le m 7 k (addD y 4 baseB)
  have h3 := digit_le y 4 k baseB
  have h4 := base_le k
  omega
theorem dayL_get (y m d k : Nat) (hk : k < 10) : (dayL y m d)[k]? = some (UInt8.ofNat (dayB y m d k)) := by
  unfold dayL
  rw [List.getElem?_map, List.getElem?_range hk]; rfl
theorem dayL_byte (y m d k : Nat) (hk : k < 10) (h : k < (dayL y m d).length) : (((dayL y m d)[k]).toNat : Int) = (dayB y m d k : Nat) := by
  have h1 := dayL_get y m d k hk
  rw [List.getElem?_eq_getElem h] at h1
  rw [Option.some.inj h1]
  have := dayB_le y m d k
  have e : (UInt8.ofNat (dayB y m d k)).toNat = dayB y m d k := by
    rw [UInt8.toNat_ofNat']; exact Nat.mod_eq_of_lt (by omega)
  rw [e]

theorem txi_new (w : World) (e e2 : TypeId) :
    TxI w.heap.size w ((w.alloc (.cells #[.int .u8 48, .int .u8 48, .int .u8 48, .int .u8 48, .int .u8 45, .int .u8 48, .int .u8 48, .int .u8 45, .int .u8 48, .int .u8 48] e (10, 11))).alloc (.cells #[.slice (some ⟨w.heap.size, 0, none⟩) 10 10] e2)) (w.heap.size + 1) w.heap.size baseB := by
  have z1 : (w.alloc (.cells #[.int .u8 48, .int .u8 48, .int .u8 48, .int .u8 48, .int .u8 45, .int .u8 48, .int .u8 48, .int .u8 45, .int .u8 48, .int .u8 48] e (10, 11))).heap.size = w.heap.size + 1 := by simp
  refine ⟨Below.alloc (Below.alloc (Below.refl _ _) (Nat.le_refl _) _) (by rw [z1]; omega) _, ?_, fun i hi => ?_, fun i hi => ?_, by omega, Nat.le_refl _⟩
  · rw [← z1, World.cell?_alloc_at _ _ _ _ rfl]; rfl
  · rw [World.cell?_alloc_past _ _ _ (by rw [z1]; exact Nat.lt_succ_self _), World.cell?_alloc_mark]
    match i, hi with
    | 0, _ => rfl
    | 1, _ => rfl
    | 2, _ => rfl
    | 3, _ => rfl
    | 4, _ => rfl
    | 5, _ => rfl
    | 6, _ => rfl
    | 7, _ => rfl
    | 8, _ => rfl
    | 9, _ => rfl
  · rw [World.frozen?_alloc_past _ _ _ (by rw [z1]; exact Nat.lt_succ_self _), World.frozen?_alloc_mark]
    simp; omega

set_option maxHeartbeats 2000000 in
set_option maxRecDepth 100000 in
theorem print_any (d : Nat) (hd : d < 73049) (w : World) (L : LenW w) :
    Calls Tryd.prog 24 #[.int .i64 d] w fun e w' => e = .returned (.tuple #[.string ⟨(dayL (yrN d) (moN d) (daN d)).toArray⟩, .int .i64 0]) ∧ Below w.heap.size w w' := by
  have HM := Lib.hid (dateOf_any d hd w L)
  have hdt := (date_is hd).1
  have b1 : yrN d < 10 ^ 4 := by have := hdt.2.1; omega
  have b2 : moN d < 10 ^ 7 := by have := hdt.2.2.2.1; omega
  have b3 : daN d < 10 ^ 10 := by unfold daN; omega
  generalize yrN d = Y at *
  generalize moN d = Mo at *
  generalize daN d = Da at *
  have HW1 : Hid (∀ B w0 w p b, TxI B w0 w p b baseB → Calls Tryd.prog 48 #[.int .i64 Y, .int .i64 4, .pointer (some ⟨p, 0, none⟩)] w fun r w' => r = .returned (.tuple #[]) ∧ TxI B w0 w' p b (addD Y 4 baseB)) := Lib.hid (fun B w0 w p b h =>
    (write1_any Y 4 (by omega) b1 baseB (fun k _ => by have := base_le k; omega) B w0 w p b h).mono fun r w' ⟨e1, cs, h1, h2⟩ => ⟨e1, by rw [← funext h2]; exact h1⟩)
  have HW2 : Hid (∀ B w0 w p b, TxI B w0 w p b (addD Y 4 baseB) → Calls Tryd.prog 48 #[.int .i64 Mo, .int .i64 7, .pointer (some ⟨p, 0, none⟩)] w fun r w' => r = .returned (.tuple #[]) ∧ TxI B w0 w' p b (addD Mo 7 (addD Y 4 baseB))) := Lib.hid (fun B w0 w p b h =>
    (write1_any Mo 7 (by omega) b2 (addD Y 4 baseB) (fun k _ => by have := base_le k; have := digit_le Y 4 k baseB; omega) B w0 w p b h).mono fun r w' ⟨e1, cs, h1, h2⟩ => ⟨e1, by rw [← funext h2]; exact h1⟩)
  have HW3 : Hid (∀ B w0 w p b, TxI B w0 w p b (addD Mo 7 (addD Y 4 baseB)) → Calls Tryd.prog 48 #[.int .i64 Da, .int .i64 10, .pointer (some ⟨p, 0, none⟩)] w fun r w' => r = .returned (.tuple #[]) ∧ TxI B w0 w' p b (dayB Y Mo Da)) := Lib.hid (fun B w0 w p b h =>
    (write1_any Da 10 (by omega) b3 (addD Mo 7 (addD Y 4 baseB)) (fun k _ => by have := base_le k; have := digit_le Y 4 k baseB; have := digit_le Mo 7 k (addD Y 4 baseB); omega) B w0 w p b h).mono fun r w' ⟨e1, cs, h1, h2⟩ => ⟨e1, by rw [show dayB Y Mo Da = cs from (funext h2).symm]; exact h1⟩)
  obtain ⟨X, hX⟩ : ∃ X, X = dayL Y Mo Da := ⟨_, rfl⟩
  rw [← hX]
  have HX := Lib.hid hX
  clear hdt b1 b2 b3 L hX
  go_enter Tryd.func24, Tryd.ntmps24
  go_wp2_with fail
  refine HM.out.mono ?_
  rintro e w1 ⟨rfl, hb⟩
  have HB := Lib.hid (bel_on hb (below_new w1 (.cells #[.int .i64 Y, .int .i64 Mo, .int .i64 Da] 79)))
  have hT := txi_new (w1.alloc (.cells #[.int .i64 Y, .int .i64 Mo, .int .i64 Da] 79)) 5 84
  have kc := Lib.run_convert_bytes_const (P := Tryd.prog) (w1.alloc (.cells #[.int .i64 Y, .int .i64 Mo, .int .i64 Da] 79)) 84 5 #[.int .u8 48, .int .u8 48, .int .u8 48, .int .u8 48, .int .u8 45, .int .u8 48, .int .u8 48, .int .u8 45, .int .u8 48, .int .u8 48] 10 10 Tryd.underlying84 Tryd.underlying5
  rw [show (w1.alloc (.cells #[.int .i64 Y, .int .i64 Mo, .int .i64 Da] 79)).heap.size = w1.heap.size + 1 by simp] at hT kc
  have hD : ∀ w', Below (w1.heap.size + 1) (w1.alloc (.cells #[.int .i64 Y, .int .i64 Mo, .int .i64 Da] 79)) w' → w'.cell? ⟨w1.heap.size, 0, none⟩ = some (.int .i64 Y) ∧ w'.cell? ⟨w1.heap.size, 1, none⟩ = some (.int .i64 Mo) ∧ w'.cell? ⟨w1.heap.size, 2, none⟩ = some (.int .i64 Da) := fun w' h => box3 (by simpa using h)
  have HD := Lib.hid hD
  have HT := Lib.hid hT
  clear hb hT hD
  go_wp2_with fail
  refine (HW1.out _ _ _ _ _ HT.out).mono ?_
  rintro e w2 ⟨rfl, hT2⟩
  have HT2 := Lib.hid hT2
  obtain ⟨c0, c1, c2⟩ := HD.out _ hT2.bel
  clear kc hT2 HT HW1
  go_wp2_with fail
  refine (HW2.out _ _ _ _ _ HT2.out).mono ?_
  rintro e w3 ⟨rfl, hT3⟩
  have HT3 := Lib.hid hT3
  clear c0 c1 c2
  obtain ⟨c0, c1, c2⟩ := HD.out _ hT3.bel
  clear hT3 HT2 HW2
  go_wp2_with fail
  refine (HW3.out _ _ _ _ _ HT3.out).mono ?_
  rintro e w4 ⟨rfl, hT4⟩
  have HT4 := Lib.hid hT4
  have hsl := hT4.sl
  clear c0 c1 c2
  have kb := run_convert_bytes_back (P := Tryd.prog) w4 84 9 5 ⟨w1.heap.size + 1, 0, none⟩ 10 (dayL Y Mo Da) Tryd.underlying84 Tryd.underlying5 Tryd.underlying9 (fun j hj => by
    have hj2 : j < 10 := by rw [dayL_len] at hj; exact hj
    rw [dayL_byte Y Mo Da j hj2 hj]
    have h := HT4.out.tx j hj2
    have e : (Addr.add ⟨w1.heap.size + 1, 0, none⟩ j) = ⟨w1.heap.size + 1, j, none⟩ := by
      cases j with
      | zero => rfl
      | succ j => simp [Addr.add]
    rw [e]; exact h)
  rw [dayL_len, ← HX.out] at kb
  clear hT4 HT3 HW3
  go_wp2_with fail
  go_ret2
  exact ⟨rfl, HB.out.trans (HT4.out.bel.mono (by have := HB.out.size; simpa using this))⟩
theorem print_no (d : Int) (h : d < 0 ∨ 73048 < d) (w : World) :
    Calls Tryd.prog 24 #[.int .i64 d] w fun e w' => e = .returned (.tuple #[.string ⟨#[]⟩, .int .i64 18]) ∧ Below w.heap.size w w' := by
  have HM := Lib.hid (dateOf_no d h w)
  clear h
  go_enter Tryd.func24, Tryd.ntmps24
  go_wp2_with fail
  refine HM.out.mono ?_
  rintro e w1 ⟨rfl, hb⟩
  have HB := Lib.hid hb
  clear hb
  go_wp2_with fail
  go_ret2
  exact ⟨rfl, bel_on HB.out (below_new w1 _)⟩

end Go.Proofs.YtfeaopaglhlojaaDoor
