/-
  Texts of ten bytes that may be a day's: what read makes of them. No program.
-/
import Derived.Test.YtdmdgoeacafpiaaGreatDoorDyA
import Derived.BigRegion
namespace Go.Proofs.YtdmdgoeacafpiaaGreatDoor
open Go.RowKit Go.Lib
set_option linter.unusedVariables false

/-- Is this byte as a day's text has it there? -/
def OkB (B : Nat → Nat) (j : Nat) : Prop := if j = 4 ∨ j = 7 then B j = 45 else 48 ≤ B j ∧ B j ≤ 57
instance (B : Nat → Nat) (j : Nat) : Decidable (OkB B j) := by unfold OkB; infer_instance
def partAt (j : Nat) : Nat := (if 4 < j then 1 else 0) + (if 7 < j then 1 else 0)
/-- A part's number, behind so many bytes. -/
def numP (B : Nat → Nat) (p : Nat) : Nat → Nat
  | 0 => 0
  | j + 1 => if j = 4 ∨ j = 7 then numP B p j else if partAt j = p then 10 * numP B p j + (B j - 48) else numP B p j
theorem numP_dash {B : Nat → Nat} {p j : Nat} (h : j = 4 ∨ j = 7) : numP B p (j + 1) = numP B p j := by rw [numP, if_pos h]
theorem numP_here {B : Nat → Nat} {p j : Nat} (h : ¬ (j = 4 ∨ j = 7)) (hp : partAt j = p) : numP B p (j + 1) = 10 * numP B p j + (B j - 48) := by rw [numP, if_neg h, if_pos hp]
theorem numP_else {B : Nat → Nat} {p j : Nat} (h : ¬ (j = 4 ∨ j = 7)) (hp : partAt j ≠ p) : numP B p (j + 1) = numP B p j := by rw [numP, if_neg h, if_neg hp]
theorem numP_lt {B : Nat → Nat} {p : Nat} : ∀ j, (∀ i, i < j → OkB B i) → numP B p j < 10 ^ j
  | 0, _ => by simp [numP]
  | j + 1, h => by
    have ih := numP_lt j (fun i hi => h i (by omega)) (B := B) (p := p)
    have hj := h j (by omega)
    rw [Nat.pow_succ]
    by_cases c : j = 4 ∨ j = 7
    · rw [numP_dash c]; omega
    · unfold OkB at hj
      rw [if_neg c] at hj
      by_cases c2 : partAt j = p
      · rw [numP_here c c2]; omega
      · rw [numP_else c c2]; omega
theorem numP_bd {B : Nat → Nat} {p j : Nat} (hj : j ≤ 10) (h : ∀ i, i < j → OkB B i) : numP B p j < 10000000000 :=
  Nat.lt_of_lt_of_le (numP_lt j h) (Nat.pow_le_pow_right (by decide) hj)
theorem part_lt (j : Nat) : partAt j < 3 := by unfold partAt; split <;> split <;> omega
theorem part_dash {j : Nat} (h : j = 4 ∨ j = 7) : partAt (j + 1) = partAt j + 1 := by
  rcases h with h | h <;> subst h <;> rfl
theorem part_digit {j : Nat} (h : ¬ (j = 4 ∨ j = 7)) : partAt (j + 1) = partAt j := by
  unfold partAt
  have e1 : (4 < j + 1) = (4 < j) := by simp; omega
  have e2 : (7 < j + 1) = (7 < j) := by simp; omega
  simp only [e1, e2]
theorem numP_0 (B : Nat → Nat) : numP B 0 10 = 10 * (10 * (10 * (B 0 - 48) + (B 1 - 48)) + (B 2 - 48)) + (B 3 - 48) := by simp [numP, partAt]
theorem numP_1 (B : Nat → Nat) : numP B 1 10 = 10 * (B 5 - 48) + (B 6 - 48) := by simp [numP, partAt]
theorem numP_2 (B : Nat → Nat) : numP B 2 10 = 10 * (B 8 - 48) + (B 9 - 48) := by simp [numP, partAt]

/-- A date's bytes, one by one. -/
theorem dayB_all {y m d : Nat} (hy : y < 10000) (hm : m < 100) (hd : d < 100) :
    dayB y m d 0 = 48 + y / 1000 ∧ dayB y m d 1 = 48 + y / 100 % 10 ∧ dayB y m d 2 = 48 + y / 10 % 10 ∧ dayB y m d 3 = 48 + y % 10 ∧ dayB y m d 4 = 45 ∧
    dayB y m d 5 = 48 + m / 10 ∧ dayB y m d 6 = 48 + m % 10 ∧ dayB y m d 7 = 45 ∧ dayB y m d 8 = 48 + d / 10 ∧ dayB y m d 9 = 48 + d % 10 := by
  unfold dayB addD baseB
  simp
  omega
theorem dayB_back {B : Nat → Nat} (h : ∀ i, i < 10 → OkB B i) : ∀ k, k < 10 → dayB (numP B 0 10) (numP B 1 10) (numP B 2 10) k = B k := by
  have g : ∀ i, i < 10 → ¬ (i = 4 ∨ i = 7) → 48 ≤ B i ∧ B i ≤ 57 := fun i hi hn => by have := h i hi; unfold OkB at this; rw [if_neg hn] at this; exact this
  have g4 : B 4 = 45 := by have := h 4 (by omega); unfold OkB at this; rw [if_pos (by omega)] at this; exact this
  have g7 : B 7 = 45 := by have := h 7 (by omega); unfold OkB at this; rw [if_pos (by omega)] at this; exact this
  have g0 := g 0 (by omega) (by omega)
  have g1 := g 1 (by omega) (by omega)
  have g2 := g 2 (by omega) (by omega)
  have g3 := g 3 (by omega) (by omega)
  have g5 := g 5 (by omega) (by omega)
  have g6 := g 6 (by omega) (by omega)
  have g8 := g 8 (by omega) (by omega)
  have g9 := g 9 (by omega) (by omega)
  rw [numP_0, numP_1, numP_2]
  obtain ⟨e0, e1, e2, e3, e4, e5, e6, e7, e8, e9⟩ := dayB_all (y := 10 * (10 * (10 * (B 0 - 48) + (B 1 - 48)) + (B 2 - 48)) + (B 3 - 48)) (m := 10 * (B 5 - 48) + (B 6 - 48)) (d := 10 * (B 8 - 48) + (B 9 - 48)) (by omega) (by omega) (by omega)
  intro k hk
  match k, hk with
  | 0, _ => rw [e0]; omega
  | 1, _ => rw [e1]; omega
  | 2, _ => rw [e2]; omega
  | 3, _ => rw [e3]; omega
  | 4, _ => rw [e4]; omega
  | 5, _ => rw [e5]; omega
  | 6, _ => rw [e6]; omega
  | 7, _ => rw [e7]; omega
  | 8, _ => rw [e8]; omega
  | 9, _ => rw [e9]; omega
theorem dayB_ok {y m d : Nat} (hy : y < 10000) (hm : m < 100) (hd : d < 100) : (∀ i, i < 10 → OkB (dayB y m d) i) ∧ numP (dayB y m d) 0 10 = y ∧ numP (dayB y m d) 1 10 = m ∧ numP (dayB y m d) 2 10 = d := by
  obtain ⟨e0, e1, e2, e3, e4, e5, e6, e7, e8, e9⟩ := dayB_all hy hm hd
  refine ⟨?_, ?_, ?_, ?_⟩
  · intro i hi
    unfold OkB
    match i, hi with
    | 0, _ => rw [if_neg (by omega), e0]; omega
    | 1, _ => rw [if_neg (by omega), e1]; omega
    | 2, _ => rw [if_neg (by omega), e2]; omega
    | 3, _ => rw [if_neg (by omega), e3]; omega
    | 4, _ => rw [if_pos (by omega), e4]
    | 5, _ => rw [if_neg (by omega), e5]; omega
    | 6, _ => rw [if_neg (by omega), e6]; omega
    | 7, _ => rw [if_pos (by omega), e7]
    | 8, _ => rw [if_neg (by omega), e8]; omega
    | 9, _ => rw [if_neg (by omega), e9]; omega
  · rw [numP_0, e0, e1, e2, e3]; omega
  · rw [numP_1, e5, e6]; omega
  · rw [numP_2, e8, e9]; omega

/-- The bytes of a text. -/
def bytN (l : List UInt8) (k : Nat) : Nat := (l.getD k 0).toNat
/-- Is a text written as a day's is? -/
def formB (l : List UInt8) : Bool := l.length == 10 && (List.range 10).all fun i => decide (OkB (bytN l) i)
def yOf (l : List UInt8) : Nat := numP (bytN l) 0 10
def mOf (l : List UInt8) : Nat := numP (bytN l) 1 10
def dOf (l : List UInt8) : Nat := numP (bytN l) 2 10
theorem formB_iff {l : List UInt8} : formB l = true ↔ l.length = 10 ∧ ∀ i, i < 10 → OkB (bytN l) i := by unfold formB; simp
theorem bytN_day (y m d k : Nat) (hk : k < 10) : bytN (dayL y m d) k = dayB y m d k := by
  unfold bytN
  rw [List.getD_eq_getElem?_getD, dayL_get y m d k hk]
  have := dayB_le y m d k
  show (UInt8.ofNat (dayB y m d k)).toNat = _
  rw [UInt8.toNat_ofNat']; exact Nat.mod_eq_of_lt (by omega)
theorem numP_congr {B C : Nat → Nat} {p : Nat} : ∀ j, (∀ i, i < j → B i = C i) → numP B p j = numP C p j
  | 0, _ => rfl
  | j + 1, h => by
    have ih := numP_congr j (fun i hi => h i (by omega)) (p := p)
    by_cases c : j = 4 ∨ j = 7
    · rw [numP_dash c, numP_dash c, ih]
    · by_cases c2 : partAt j = p
      · rw [numP_here c c2, numP_here c c2, ih, h j (by omega)]
      · rw [numP_else c c2, numP_else c c2, ih]
/-- A date's text is written so, and its numbers are the date's. -/
theorem form_day {y m d : Nat} (hy : y < 10000) (hm : m < 100) (hd : d < 100) : formB (dayL y m d) = true ∧ yOf (dayL y m d) = y ∧ mOf (dayL y m d) = m ∧ dOf (dayL y m d) = d := by
  obtain ⟨h1, h2, h3, h4⟩ := dayB_ok hy hm hd
  have hc : ∀ i, i < 10 → bytN (dayL y m d) i = dayB y m d i := fun i hi => bytN_day y m d i hi
  refine ⟨formB_iff.2 ⟨dayL_len y m d, fun i hi => ?_⟩, ?_, ?_, ?_⟩
  · have := h1 i hi
    unfold OkB at this ⊢
    rw [hc i hi]; exact this
  · unfold yOf; rw [numP_congr 10 hc]; exact h2
  · unfold mOf; rw [numP_congr 10 hc]; exact h3
  · unfold dOf; rw [numP_congr 10 hc]; exact h4
/-- What is written so is its numbers' text. -/
theorem day_form {l : List UInt8} (h : formB l = true) : dayL (yOf l) (mOf l) (dOf l) = l := by
  obtain ⟨h1, h2⟩ := formB_iff.1 h
  apply List.ext_getElem?
  intro k
  by_cases hk : k < 10
  · rw [dayL_get _ _ _ k hk]
    unfold yOf mOf dOf
    rw [dayB_back h2 k hk, List.getElem?_eq_getElem (by omega)]
    unfold bytN
    rw [List.getD_eq_getElem?_getD, List.getElem?_eq_getElem (by omega)]
    simp
  · rw [List.getElem?_eq_none (by rw [dayL_len]; omega), List.getElem?_eq_none (by omega)]

end Go.Proofs.YtdmdgoeacafpiaaGreatDoor

namespace Go.Proofs.YtdmdgoeacafpiaaGreatDoor
open Go.RowKit Go.Lib
set_option linter.unusedVariables false

/-- The cells that read keeps: its result, and three parts. -/
structure RdI (w wx : World) (a : Nat → Nat) : Prop where
  bel : Below w.heap.size w wx
  pr : ∀ p, p < 3 → wx.cell? ⟨w.heap.size + 1, p, none⟩ = some (.int .i64 (a p))
  fr : ∀ p, p < 3 → wx.frozen? ⟨w.heap.size + 1, p, none⟩ = false
  rs : ∀ p, p < 3 → wx.cell? ⟨w.heap.size, p, none⟩ = some (.int .i64 0)
  rf : ∀ p, p < 3 → wx.frozen? ⟨w.heap.size, p, none⟩ = false
theorem RdI.drew {w wx : World} {a : Nat → Nat} (h : RdI w wx a) (n : Nat) : RdI w (wx.drewN n) a := ⟨h.bel.trans ((below_drew wx n).mono h.bel.size), h.pr, h.fr, h.rs, h.rf⟩
theorem RdI.drew1 {w wx : World} {a : Nat → Nat} (h : RdI w wx a) : RdI w wx.drew a := ⟨Below.drew h.bel, h.pr, h.fr, h.rs, h.rf⟩
theorem RdI.set {w wx : World} {a a' : Nat → Nat} (h : RdI w wx a) {p : Nat} (hp : p < 3) {v : Int} (hv : v = a' p) (ho : ∀ q, q ≠ p → a' q = a q) : RdI w (wx.setCell ⟨w.heap.size + 1, p, none⟩ (.int .i64 v)) a' := by
  refine ⟨h.bel.setCell (p := ⟨w.heap.size + 1, p, none⟩) (Nat.le_succ _) _, fun q hq => ?_, fun q hq => by simpa using h.fr q hq, fun q hq => ?_, fun q hq => by simpa using h.rf q hq⟩
  · by_cases c : q = p
    · subst c
      rw [← hv]; exact cell_here (h.pr q hq)
    · rw [cell_far (Or.inr (fun e => c e.symm)), ho q c]; exact h.pr q hq
  · rw [cell_far (Or.inl (by omega))]; exact h.rs q hq
theorem RdI.new (w : World) (t t' : TypeId) : RdI w ((w.alloc (.cells #[.int .i64 0, .int .i64 0, .int .i64 0] t)).alloc (.cells #[.int .i64 0, .int .i64 0, .int .i64 0] t')) (fun _ => 0) := by
  have z : (w.alloc (.cells #[.int .i64 0, .int .i64 0, .int .i64 0] t)).heap.size = w.heap.size + 1 := by simp
  refine ⟨bel_on (below_new w _) (below_new _ _), fun p hp => ?_, fun p hp => ?_, fun p hp => ?_, fun p hp => ?_⟩
  · rw [← z, World.cell?_alloc_at _ _ _ _ rfl]
    match p, hp with
    | 0, _ => rfl
    | 1, _ => rfl
    | 2, _ => rfl
  · exact World.frozen?_alloc_at _ _ _ _ z.symm
  · rw [World.cell?_alloc_past _ _ _ (by rw [z]; exact Nat.lt_succ_self _), World.cell?_alloc_at _ _ _ _ rfl]
    match p, hp with
    | 0, _ => rfl
    | 1, _ => rfl
    | 2, _ => rfl
  · rw [World.frozen?_alloc_past _ _ _ (by rw [z]; exact Nat.lt_succ_self _)]
    exact World.frozen?_alloc_at _ _ _ _ rfl

/-- What read answers. -/
def dReadAns (B : Nat → Nat) (w : World) (e : Ending) (w' : World) : Prop :=
  (∃ (x y z : Nat) (b : Bool), e = .returned (.tuple #[.agg #[.int .i64 x, .int .i64 y, .int .i64 z], .bool b]) ∧ (b = true → (∀ i, i < 10 → OkB B i) ∧ x = numP B 0 10 ∧ y = numP B 1 10 ∧ z = numP B 2 10) ∧ (b = false → ¬ ∀ i, i < 10 → OkB B i)) ∧ Below w.heap.size w w'
theorem bel_set3 {w wx : World} {a : Nat → Nat} (h : RdI w wx a) (x y z : Value) : Below w.heap.size w (((wx.setCell ⟨w.heap.size, 0, none⟩ x).setCell ⟨w.heap.size, 1, none⟩ y).setCell ⟨w.heap.size, 2, none⟩ z) :=
  Below.setCell (Below.setCell (Below.setCell h.bel (Nat.le_refl _) _) (Nat.le_refl _) _) (Nat.le_refl _) _

theorem form_all : ∀ j : Fin 10, ((⟨#[48, 48, 48, 48, 45, 48, 48, 45, 48, 48]⟩ : ByteArray)[j.val]'(show j.val < 10 from j.isLt)).toNat = if j.val = 4 ∨ j.val = 7 then 45 else 48 := by decide
theorem form_at {j : Nat} (hj : j < 10) (h : j < (⟨#[48, 48, 48, 48, 45, 48, 48, 45, 48, 48]⟩ : ByteArray).size) : ((⟨#[48, 48, 48, 48, 45, 48, 48, 45, 48, 48]⟩ : ByteArray)[j]'h).toNat = if j = 4 ∨ j = 7 then 45 else 48 := form_all ⟨j, hj⟩
set_option maxHeartbeats 4000000 in
set_option maxRecDepth 100000 in
theorem read_main (s : ByteArray) (hs : s.size = 10) (B : Nat → Nat) (hB : ∀ k (h : k < s.size), s[k].toNat = B k) (w : World) : Calls Tryz.prog 127 #[.string s] w (dReadAns B w) := by
  have HI0 := Lib.hid (RdI.new w 151 195)
  have HB := Lib.hid hB
  clear hB
  go_enter Tryz.func127, Tryz.ntmps127
  go_wp2_with fail
  go_step3
  go_wp2_with fail
  go_step3
  go_wp2_with fail
  go_loopw [5, 6, 7, 12, 15, 43] (fun vp vl _ vc _ _ wx => ∃ j : Nat, j ≤ 10 ∧ vc = .int .i64 j ∧ vl = .int .i64 (10 - (j : Int)) ∧ vp = .int .i64 (partAt j) ∧ (∀ i, i < j → OkB B i) ∧ RdI w wx (fun p => numP B p j)) (fun _ _ _ vc _ _ _ => 10 - (RowKit.intOf vc).toNat)
  case atStart => exact ⟨0, by omega, rfl, rfl, rfl, fun i hi => absurd hi (Nat.not_lt_zero i), HI0.out⟩
  case round =>
    clear HI0
    obtain ⟨j, hj, rfl, rfl, rfl, hok, hR⟩ := hrel
    have HR := Lib.hid hR
    have HOk := Lib.hid hok
    by_cases hlt : j < 10
    · have hp3 := part_lt j
      have hcell := hR.pr (partAt j) hp3
      have hfr := hR.fr (partAt j) hp3
      have hbd := numP_bd (p := partAt j) (by omega) hok
      have hsz : j < s.size := by omega
      have hc := HB.out j hsz
      obtain ⟨c, hcB⟩ : ∃ c, c = B j := ⟨_, rfl⟩
      rw [← hcB] at hc
      have HCB := Lib.hid hcB
      have hc255 : c ≤ 255 := by rw [← hc]; have := s[j].toNat_lt; omega
      have i0 : (0 : Int) ≤ (j : Int) := by omega
      have i1 : (j : Int) < 10 := by omega
      have i2 : (j : Int) < (s.size : Int) := by omega
      by_cases hd : j = 4 ∨ j = 7
      · have hf : ∀ h, ((⟨#[48, 48, 48, 48, 45, 48, 48, 45, 48, 48]⟩ : ByteArray)[j]'h).toNat = 45 := fun h => by rw [form_at hlt h, if_pos hd]
        have HD := Lib.hid hd
        clear hR hok hd hcell hfr hbd hcB
        by_cases h45 : c = 45
        · have HO2 : Hid (∀ i, i < j + 1 → OkB B i) := Lib.hid (fun i hi => by
            by_cases e : i = j
            · subst e; unfold OkB; rw [if_pos HD.out, ← HCB.out]; exact h45
            · exact HOk.out i (by omega))
          subst h45
          go_wp2_with fail
          go_roundw
          case rel => exact ⟨j + 1, by omega, by go_num, by go_num, by rw [part_dash HD.out]; go_num, HO2.out, by rw [show (fun p => numP B p (j + 1)) = fun p => numP B p j from funext fun p => numP_dash HD.out]; exact HR.out⟩
          case measure => simp [RowKit.intOf]; omega
        · have h45b : ((c : Int) == 45) = false := by simp; omega
          have HNo : Hid (¬ ∀ i, i < 10 → OkB B i) := Lib.hid (fun h => by
            have := h j hlt
            unfold OkB at this
            rw [if_pos HD.out, ← HCB.out] at this
            exact h45 this)
          have p0 := HR.out.pr 0 (by omega)
          have p1 := HR.out.pr 1 (by omega)
          have p2 := HR.out.pr 2 (by omega)
          have r0 := HR.out.rs 0 (by omega)
          have r1 := HR.out.rs 1 (by omega)
          have r2 := HR.out.rs 2 (by omega)
          have f0 := HR.out.rf 0 (by omega)
          have f1 := HR.out.rf 1 (by omega)
          have f2 := HR.out.rf 2 (by omega)
          have l0 : (10 - (j : Int) == 0) = false := by simp; omega
          generalize numP B 0 j = n0 at *
          generalize numP B 1 j = n1 at *
          generalize numP B 2 j = n2 at *
          clear h45
          go_wp2_with fail
          try rw [Exit.noGoto_ret]
          exact bodyPost_ret (v := .tuple #[.agg #[.int .i64 n0, .int .i64 n1, .int .i64 n2], .bool false]) (by simp [results, Tryz.results127, go_sem, r0, r1, r2]) rfl ⟨⟨n0, n1, n2, false, rfl, (fun h => by cases h), fun _ => HNo.out⟩, bel_set3 HR.out _ _ _⟩
      · have hf : ∀ h, ((⟨#[48, 48, 48, 48, 45, 48, 48, 45, 48, 48]⟩ : ByteArray)[j]'h).toNat = 48 := fun h => by rw [form_at hlt h, if_neg hd]
        have HD := Lib.hid hd
        clear hok hd
        by_cases hdg : 48 ≤ c ∧ c ≤ 57
        · have HO2 : Hid (∀ i, i < j + 1 → OkB B i) := Lib.hid (fun i hi => by
            by_cases e : i = j
            · subst e; unfold OkB; rw [if_neg HD.out, ← HCB.out]; exact hdg
            · exact HOk.out i (by omega))
          have b1 : (48 : Int) ≤ (c : Int) := by omega
          have b2 : (c : Int) ≤ 57 := by omega
          have HSet : Hid (∀ wx', RdI w wx' (fun p => numP B p j) → RdI w (wx'.setCell ⟨w.heap.size + 1, partAt j, none⟩ (.int .i64 (10 * (numP B (partAt j) j : Int) + ((c : Int) - 48)))) (fun p => numP B p (j + 1))) := Lib.hid (fun wx' h => by
            refine RdI.set (a := fun p => numP B p j) (a' := fun p => numP B p (j + 1)) h hp3 ?_ (fun q hq => numP_else HD.out (fun e => hq e.symm))
            show _ = ((numP B (partAt j) (j + 1) : Nat) : Int)
            rw [numP_here HD.out rfl, ← HCB.out]; omega)
          have HPd := Lib.hid (part_digit HD.out)
          generalize numP B (partAt j) j = x at *
          generalize partAt j = p at *
          clear hR hcB
          have q0 : (0 : Int) ≤ (p : Int) := by omega
          have q1 : (p : Int) < 3 := by omega
          go_wp2_with fail
          go_region
          all_goals go_wp2_with fail
          all_goals go_roundw
          case rel => exact ⟨j + 1, by omega, by go_num, by go_num, by rw [HPd.out], HO2.out, (HSet.out _ HR.out).drew1⟩
          case measure => simp [RowKit.intOf]; omega
        · by_cases h48 : c < 48
          · have b1 : ¬ (48 : Int) ≤ (c : Int) := by omega
            have HNo : Hid (¬ ∀ i, i < 10 → OkB B i) := Lib.hid (fun h => by
              have := h j hlt
              unfold OkB at this
              rw [if_neg HD.out, ← HCB.out] at this
              omega)
            have p0 := HR.out.pr 0 (by omega)
            have p1 := HR.out.pr 1 (by omega)
            have p2 := HR.out.pr 2 (by omega)
            have r0 := HR.out.rs 0 (by omega)
            have r1 := HR.out.rs 1 (by omega)
            have r2 := HR.out.rs 2 (by omega)
            have f0 := HR.out.rf 0 (by omega)
            have f1 := HR.out.rf 1 (by omega)
            have f2 := HR.out.rf 2 (by omega)
            have l0 : (10 - (j : Int) == 0) = false := by simp; omega
            generalize numP B 0 j = n0 at *
            generalize numP B 1 j = n1 at *
            generalize numP B 2 j = n2 at *
            clear hdg hR hcell hfr hbd hcB
            go_wp2_with fail
            try rw [Exit.noGoto_ret]
            exact bodyPost_ret (v := .tuple #[.agg #[.int .i64 n0, .int .i64 n1, .int .i64 n2], .bool false]) (by simp [results, Tryz.results127, go_sem, r0, r1, r2]) rfl ⟨⟨n0, n1, n2, false, rfl, (fun h => by cases h), fun _ => HNo.out⟩, bel_set3 HR.out _ _ _⟩
          · have b1 : (48 : Int) ≤ (c : Int) := by omega
            have b2 : ¬ (c : Int) ≤ 57 := by omega
            have HNo : Hid (¬ ∀ i, i < 10 → OkB B i) := Lib.hid (fun h => by
              have := h j hlt
              unfold OkB at this
              rw [if_neg HD.out, ← HCB.out] at this
              omega)
            have p0 := HR.out.pr 0 (by omega)
            have p1 := HR.out.pr 1 (by omega)
            have p2 := HR.out.pr 2 (by omega)
            have r0 := HR.out.rs 0 (by omega)
            have r1 := HR.out.rs 1 (by omega)
            have r2 := HR.out.rs 2 (by omega)
            have f0 := HR.out.rf 0 (by omega)
            have f1 := HR.out.rf 1 (by omega)
            have f2 := HR.out.rf 2 (by omega)
            have l0 : (10 - (j : Int) == 0) = false := by simp; omega
            generalize numP B 0 j = n0 at *
            generalize numP B 1 j = n1 at *
            generalize numP B 2 j = n2 at *
            clear hdg hR hcell hfr hbd hcB
            go_wp2_with fail
            try rw [Exit.noGoto_ret]
            exact bodyPost_ret (v := .tuple #[.agg #[.int .i64 n0, .int .i64 n1, .int .i64 n2], .bool false]) (by simp [results, Tryz.results127, go_sem, r0, r1, r2]) rfl ⟨⟨n0, n1, n2, false, rfl, (fun h => by cases h), fun _ => HNo.out⟩, bel_set3 HR.out _ _ _⟩
    · obtain rfl : j = 10 := by omega
      have p0 := HR.out.pr 0 (by omega)
      have p1 := HR.out.pr 1 (by omega)
      have p2 := HR.out.pr 2 (by omega)
      have r0 := HR.out.rs 0 (by omega)
      have r1 := HR.out.rs 1 (by omega)
      have r2 := HR.out.rs 2 (by omega)
      have f0 := HR.out.rf 0 (by omega)
      have f1 := HR.out.rf 1 (by omega)
      have f2 := HR.out.rf 2 (by omega)
      obtain ⟨n0, hn0⟩ : ∃ n, n = numP B 0 10 := ⟨_, rfl⟩
      obtain ⟨n1, hn1⟩ : ∃ n, n = numP B 1 10 := ⟨_, rfl⟩
      obtain ⟨n2, hn2⟩ : ∃ n, n = numP B 2 10 := ⟨_, rfl⟩
      rw [← hn0] at p0
      rw [← hn1] at p1
      rw [← hn2] at p2
      have HN := Lib.hid (And.intro hn0 (And.intro hn1 hn2))
      clear hR hok hlt hn0 hn1 hn2
      go_wp2_with fail
      try rw [Exit.noGoto_ret]
      exact bodyPost_ret (v := .tuple #[.agg #[.int .i64 n0, .int .i64 n1, .int .i64 n2], .bool true]) (by simp [results, Tryz.results127, go_sem, r0, r1, r2]) rfl ⟨⟨n0, n1, n2, true, rfl, (fun _ => ⟨HOk.out, HN.out⟩), fun h => by cases h⟩, bel_set3 HR.out _ _ _⟩

set_option maxRecDepth 100000 in
theorem read_len (s : ByteArray) (hs : s.size ≠ 10) (hm : s.size ≤ 9223372036854775807) (w : World) : Calls Tryz.prog 127 #[.string s] w fun e w' => e = .returned (.tuple #[.agg #[.int .i64 0, .int .i64 0, .int .i64 0], .bool false]) ∧ Below w.heap.size w w' := by
  have h1 : ((s.size : Int) == 10) = false := by simp; omega
  go_enter Tryz.func127, Tryz.ntmps127
  go_wp2_with fail
  go_step3
  go_wp2_with fail
  try rw [Exit.noGoto_ret]
  exact bodyPost_ret (v := .tuple #[.agg #[.int .i64 0, .int .i64 0, .int .i64 0], .bool false]) (by simp [results, Tryz.results127, go_sem]) rfl ⟨rfl, below_new w _⟩
theorem byt_at (s : ByteArray) (k : Nat) (h : k < s.size) : s[k].toNat = bytN s.data.toList k := by
  have e : s.data.toList[k]? = some s[k] := by
    rw [Array.getElem?_toList, Array.getElem?_eq_getElem h]; rfl
  unfold bytN
  rw [List.getD_eq_getElem?_getD, e]; rfl
theorem size_len (s : ByteArray) : s.size = s.data.toList.length := by rw [Array.length_toList]; rfl

set_option maxRecDepth 100000 in
theorem parse_not (s : ByteArray) (w : World)
    (hr : Calls Tryz.prog 127 #[.string s] w fun e w' => (∃ x y z : Nat, e = .returned (.tuple #[.agg #[.int .i64 x, .int .i64 y, .int .i64 z], .bool false])) ∧ Below w.heap.size w w') :
    Calls Tryz.prog 99 #[.string s] w fun e w' => e = .returned (.tuple #[.int .i64 0, .int .i64 13]) ∧ Below w.heap.size w w' := by
  have HR := Lib.hid hr
  clear hr
  go_enter Tryz.func99, Tryz.ntmps99
  go_wp2_with fail
  refine HR.out.mono ?_
  rintro e w1 ⟨⟨x, y, z, rfl⟩, hb⟩
  have HB := Lib.hid hb
  clear hb
  go_wp2_with fail
  go_ret2
  exact ⟨rfl, bel_on HB.out (below_new w1 _)⟩
set_option maxRecDepth 100000 in
theorem parse_then (s : ByteArray) (w : World) (x y z : Nat) (v c : Int) (L : LenW w)
    (hr : Calls Tryz.prog 127 #[.string s] w fun e w' => e = .returned (.tuple #[.agg #[.int .i64 x, .int .i64 y, .int .i64 z], .bool true]) ∧ Below w.heap.size w w')
    (hd : ∀ w, LenW w → Calls Tryz.prog 128 #[.agg #[.int .i64 x, .int .i64 y, .int .i64 z]] w fun e w' => e = .returned (.tuple #[.int .i64 v, .int .i64 c]) ∧ Below w.heap.size w w') :
    Calls Tryz.prog 99 #[.string s] w fun e w' => e = .returned (.tuple #[.int .i64 v, .int .i64 c]) ∧ Below w.heap.size w w' := by
  have HR := Lib.hid hr
  have HD := Lib.hid hd
  have HL := Lib.hid L
  clear hr hd L
  go_enter Tryz.func99, Tryz.ntmps99
  go_wp2_with fail
  refine HR.out.mono ?_
  rintro e w1 ⟨rfl, hb⟩
  have HB := Lib.hid (bel_on hb (below_new w1 (.cells #[.int .i64 x, .int .i64 y, .int .i64 z] 151)))
  have HL1 := Lib.hid (HL.out.keep HB.out)
  clear hb
  go_wp2_with fail
  refine (HD.out _ HL1.out).mono ?_
  rintro e w2 ⟨rfl, hb⟩
  have HB2 := Lib.hid (bel_on HB.out hb)
  clear hb
  go_wp2_with fail
  go_ret2
  exact ⟨rfl, HB2.out⟩

/-- What Parse answers. -/
def parN (l : List UInt8) : Int × Int := if formB l = true then (if IsDate (yOf l) (mOf l) (dOf l) then ((dayN (yOf l) (mOf l) (dOf l) : Nat), 0) else (0, 18)) else (0, 13)
theorem parse_any (s : ByteArray) (hm : s.size ≤ 9223372036854775807) (w : World) (L : LenW w) :
    Calls Tryz.prog 99 #[.string s] w fun e w' => e = .returned (.tuple #[.int .i64 (parN s.data.toList).1, .int .i64 (parN s.data.toList).2]) ∧ Below w.heap.size w w' := by
  have hsz := size_len s
  by_cases h10 : s.size = 10
  · have h := read_main s h10 (bytN s.data.toList) (byt_at s) w
    by_cases hf : formB s.data.toList = true
    · obtain ⟨h1, h2⟩ := formB_iff.1 hf
      have hr : Calls Tryz.prog 127 #[.string s] w fun e w' => e = .returned (.tuple #[.agg #[.int .i64 (yOf s.data.toList : Nat), .int .i64 (mOf s.data.toList : Nat), .int .i64 (dOf s.data.toList : Nat)], .bool true]) ∧ Below w.heap.size w w' := by
        refine h.mono ?_
        rintro e w' ⟨⟨x, y, z, b, rfl, ht, hn⟩, hb⟩
        cases b with
        | false => exact absurd h2 (hn rfl)
        | true =>
          obtain ⟨_, rfl, rfl, rfl⟩ := ht rfl
          exact ⟨rfl, hb⟩
      have by_ : I64d (yOf s.data.toList : Nat) := by have := numP_bd (p := 0) (Nat.le_refl 10) h2; unfold I64d yOf; omega
      have bm_ : I64d (mOf s.data.toList : Nat) := by have := numP_bd (p := 1) (Nat.le_refl 10) h2; unfold I64d mOf; omega
      have bd_ : I64d (dOf s.data.toList : Nat) := by have := numP_bd (p := 2) (Nat.le_refl 10) h2; unfold I64d dOf; omega
      unfold parN
      rw [if_pos hf]
      by_cases hi : IsDate (yOf s.data.toList) (mOf s.data.toList) (dOf s.data.toList)
      · rw [if_pos hi]
        exact parse_then s w _ _ _ _ _ L hr (fun w L => dayOf_yes _ _ _ hi w L)
      · rw [if_neg hi]
        exact parse_then s w _ _ _ _ _ L hr (fun w L => dayOf_no _ _ _ by_ bm_ bd_ hi w L)
    · unfold parN
      rw [if_neg hf]
      have hno : ¬ ∀ i, i < 10 → OkB (bytN s.data.toList) i := fun c => hf (formB_iff.2 ⟨by omega, c⟩)
      have hr : Calls Tryz.prog 127 #[.string s] w fun e w' => (∃ x y z : Nat, e = .returned (.tuple #[.agg #[.int .i64 x, .int .i64 y, .int .i64 z], .bool false])) ∧ Below w.heap.size w w' := by
        refine h.mono ?_
        rintro e w' ⟨⟨x, y, z, b, rfl, ht, hn⟩, hb⟩
        cases b with
        | false => exact ⟨⟨x, y, z, rfl⟩, hb⟩
        | true => exact absurd (ht rfl).1 hno
      exact parse_not s w hr
  · have hf : formB s.data.toList = false := by
      cases e : formB s.data.toList with
      | false => rfl
      | true => exact absurd (formB_iff.1 e).1 (by omega)
    unfold parN
    rw [hf, if_neg (by decide)]
    exact parse_not s w ((read_len s h10 hm w).mono fun e w' ⟨h1, h2⟩ => ⟨⟨0, 0, 0, h1⟩, h2⟩)

end Go.Proofs.YtdmdgoeacafpiaaGreatDoor
