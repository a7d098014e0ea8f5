/-
  container/heap's up and down over a queue: what they leave.
-/
import Derived.Test.YtkfcaafjnolhgaaAgD
namespace Go.Proofs.Ytkfcaafjnolhgaa
open Go.RowKit Go.Lib Go.Maps Go.Sort
set_option linter.unusedVariables false
set_option linter.unusedSimpArgs false

def ifq (q : Nat) : Value := .iface 61 (.pointer (some ⟨q, 0, none⟩))
/-- A queue whose items are a heap up to n, but for a place. -/
structure QuU (w : World) (base q bm : Nat) (lv : Value) (l0 : List It) (n : Nat) (l : List It) (D : DataW Unit) : Prop where
  m : QuM w base q bm lv l D
  p : PlD D l
  pe : l.Perm l0
  tl : ∀ k, n ≤ k → itm l k = itm l0 k
theorem QuU.len {w : World} {base q bm n : Nat} {lv : Value} {l0 l : List It} {D : DataW Unit} (h : QuU w base q bm lv l0 n l D) : l.length = l0.length := h.pe.length_eq
theorem QuU.swap {w w' : World} {base q bm n : Nat} {lv : Value} {l0 l : List It} {D : DataW Unit} (h : QuU w base q bm lv l0 n l D) {i j : Nat} (hi : i < n) (hj : j < n) (hn : n ≤ l0.length) (hm : QuM w' base q bm lv (swI l i j) ((D.put (kI (itm l j).no) (intD (i : Nat))).put (kI (itm l i).no) (intD (j : Nat)))) : QuU w' base q bm lv l0 n (swI l i j) ((D.put (kI (itm l j).no) (intD (i : Nat))).put (kI (itm l i).no) (intD (j : Nat))) := by
  have hl := h.len
  refine ⟨hm, h.p.swap (by omega) (by omega), (swI_perm (by omega) (by omega)).trans h.pe, fun k hk => ?_⟩
  rw [itm_sw (by omega) (by omega), if_neg (by omega), if_neg (by omega)]
  exact h.tl k hk
theorem QuU.keep {w w' : World} {base q bm n : Nat} {lv : Value} {l0 l : List It} {D : DataW Unit} (h : QuU w base q bm lv l0 n l D) (hb : Below w.heap.size w w') : QuU w' base q bm lv l0 n l D := ⟨h.m.keep hb, h.p, h.pe, h.tl⟩
theorem QuU.i64 {w : World} {base q bm n : Nat} {lv : Value} {l0 l : List It} {D : DataW Unit} (h : QuU w base q bm lv l0 n l D) (hk : ∀ x ∈ l0, I64 x.no) : ∀ x ∈ l, I64 x.no := fun x hx => hk x (h.pe.mem_iff.1 hx)

set_option maxRecDepth 100000 in
set_option maxHeartbeats 4000000 in
theorem up_any (w : World) {base q bm n : Nat} {lv : Value} {l0 l1 : List It} {D1 : DataW Unit} (h : QuU w base q bm lv l0 n l1 D1) (hk : ∀ x ∈ l0, I64 x.no) (hn : n ≤ l0.length) (hlen : l0.length ≤ 1000) {j1 : Nat} (hj1 : j1 < n) (hU : HpU l1 n j1) :
    Calls Try.prog 52 #[ifq q, .int .i64 (j1 : Nat)] w fun e w' => e = .returned (.tuple #[]) ∧ (∃ l D, QuU w' base q bm lv l0 n l D ∧ Hp l n) ∧ Off (FpQ q bm lv) w w' := by
  have HK := Lib.hid hk
  have HN := Lib.hid (And.intro hn hlen)
  have HU := Lib.hid hU
  have HH := Lib.hid h
  have HJ := Lib.hid hj1
  clear hk hn hlen hU h hj1
  unfold ifq
  go_enter Try.func52, Try.ntmps52
  go_wp2_with fail
  go_loopw [1] (fun vj wx => ∃ (j : Nat) (l : List It) (D : DataW Unit), vj = .int .i64 (j : Nat) ∧ j < n ∧ HpU l n j ∧ QuU wx base q bm lv l0 n l D ∧ Off (FpQ q bm lv) w wx) (fun vj _ => (RowKit.intOf vj).toNat)
  case atStart => exact ⟨j1, l1, D1, rfl, HJ.out, HU.out, HH.out, Off.refl _ _⟩
  case round =>
    obtain ⟨j, l, D, rfl, hj, hU, hq, ho⟩ := hrel
    have hl := hq.len
    have hlt := HN.out
    obtain ⟨p, hp⟩ : ∃ p, p = (j - 1) / 2 := ⟨_, rfl⟩
    have e0 : wrap64 ((wrap64 ((j : Int) - 1)).tdiv 2) = (p : Int) := by
      rw [IntWalk.wrap64_in ((j : Int) - 1) ⟨by omega, by omega⟩]
      by_cases c : j = 0
      · subst c; subst hp; rw [show (((0 : Nat) : Int) - 1).tdiv 2 = 0 by decide, IntWalk.wrap64_in 0 ⟨by decide, by decide⟩]; simp
      · rw [Int.tdiv_eq_ediv_of_nonneg (by omega), IntWalk.wrap64_in _ ⟨by omega, by omega⟩]; omega
    by_cases hz : j = 0
    · have e1 : (p : Int) = (j : Int) := by omega
      have HE := Lib.hid (show (∃ l D, QuU wr base q bm lv l0 n l D ∧ Hp l n) ∧ Off (FpQ q bm lv) w wr from ⟨⟨l, D, hq, hU.done (fun h _ => by omega)⟩, ho⟩)
      clear hU hq ho hl hlt hp
      go_wp2_with fail
      go_end0
      exact ⟨rfl, HE.out⟩
    · have e1 : ¬ (p : Int) = (j : Int) := by omega
      have HL := Lib.hid (qless_any wr hq.m (i := j) (j := p) (by omega) (by omega))
      have HQ := Lib.hid hq
      have HO := Lib.hid ho
      have HV := Lib.hid hU
      have HP := Lib.hid (show p = (j - 1) / 2 ∧ 0 < j ∧ j < n from ⟨hp, by omega, hj⟩)
      clear hU hq ho hl hlt hp hz hj
      go_wp2_with fail
      refine HL.out.mono ?_
      rintro e w1 ⟨rfl, hb⟩
      have HQ1 := Lib.hid (HQ.out.keep hb)
      have HO1 := Lib.hid (HO.out.both (Off.of hb))
      clear hb HL
      by_cases hc : bfI (itm l j) (itm l p)
      · rw [decide_eq_true hc]
        have HSt := Lib.hid (show HpU (swI l p j) n p from by obtain ⟨h1, h2, h3⟩ := HP.out; subst h1; exact HV.out.step (by have := HQ1.out.len; have := HN.out.1; omega) h2 h3 hc)
        have HSw := Lib.hid (qswap_any w1 HQ1.out.m (i := p) (j := j) (by have := HQ1.out.len; have := HN.out; have := HP.out; omega) (by have := HQ1.out.len; have := HN.out; have := HP.out; omega) (by have := HP.out; omega) (HQ1.out.i64 HK.out) (by have := HQ1.out.len; have := HN.out; omega) (by rw [HQ1.out.p.sz]; have := HQ1.out.len; have := HN.out; omega))
        go_wp2_with fail
        refine HSw.out.mono ?_
        rintro e w2 ⟨rfl, hm, hf⟩
        have HQ2 := Lib.hid (HQ1.out.swap (i := p) (j := j) (by have := HP.out; omega) (by have := HP.out; omega) HN.out.1 hm)
        have HO2 := Lib.hid (HO1.out.both hf)
        clear hm hf
        go_wp2_with fail
        go_roundw
        case rel => exact ⟨p, _, _, rfl, by have := HP.out; omega, HSt.out, HQ2.out, HO2.out⟩
        case measure => have := HP.out; simp [RowKit.intOf]; omega
      · rw [decide_eq_false hc]
        have HE := Lib.hid (show (∃ l D, QuU w1 base q bm lv l0 n l D ∧ Hp l n) ∧ Off (FpQ q bm lv) w w1 from ⟨⟨l, D, HQ1.out, HV.out.done (fun _ _ => by rw [← HP.out.1]; exact hc)⟩, HO1.out⟩)
        go_wp2_with fail
        go_end0
        exact ⟨rfl, HE.out⟩

/-- On the way down: where it began all may be but for what stands there; later that is not ahead of the one above. -/
def HpD (l : List It) (n i0 i : Nat) : Prop := HpE l n i ∧ (i ≠ i0 → 0 < i ∧ ¬ bfI (itm l i) (itm l ((i - 1) / 2)))
set_option maxRecDepth 100000 in
set_option maxHeartbeats 8000000 in
theorem down_any (w : World) {base q bm n : Nat} {lv : Value} {l0 l1 : List It} {D1 : DataW Unit} (h : QuU w base q bm lv l0 n l1 D1) (hk : ∀ x ∈ l0, I64 x.no) (hn : n ≤ l0.length) (hlen : l0.length ≤ 1000) {i0 : Nat} (hi0 : i0 < n) (hU : HpE l1 n i0) :
    Calls Try.prog 51 #[.iface 61 (.pointer (some ⟨q, 0, none⟩)), .int .i64 (i0 : Nat), .int .i64 (n : Nat)] w fun e w' => (∃ b l D, e = .returned (.bool b) ∧ QuU w' base q bm lv l0 n l D ∧ (b = true → Hp l n) ∧ (b = false → HpU l n i0)) ∧ Off (FpQ q bm lv) w w' := by
  have HK := Lib.hid hk
  have HN := Lib.hid (And.intro hn (And.intro hlen hi0))
  have HU := Lib.hid hU
  have HH := Lib.hid h
  clear hk hn hlen hU h hi0
  go_enter Try.func51, Try.ntmps51
  go_wp2_with fail
  go_loopw [7] (fun vi wx => ∃ (i : Nat) (l : List It) (D : DataW Unit), vi = .int .i64 (i : Nat) ∧ i0 ≤ i ∧ i < n ∧ HpD l n i0 i ∧ QuU wx base q bm lv l0 n l D ∧ Off (FpQ q bm lv) w wx) (fun vi _ => n - (RowKit.intOf vi).toNat)
  case atStart => exact ⟨i0, l1, D1, rfl, Nat.le_refl _, HN.out.2.2, ⟨HU.out, fun c => absurd rfl c⟩, HH.out, Off.refl _ _⟩
  case round =>
    obtain ⟨i, l, D, rfl, hge, hi, hU, hq, ho⟩ := hrel
    have hl := hq.len
    have hlt := HN.out
    have e0 : wrap64 (wrap64 (2 * (i : Int)) + 1) = ((2 * i + 1 : Nat) : Int) := by
      rw [IntWalk.wrap64_in (2 * (i : Int)) ⟨by omega, by omega⟩, IntWalk.wrap64_in _ ⟨by omega, by omega⟩]; omega
    obtain ⟨j1, hj1⟩ : ∃ j1, j1 = 2 * i + 1 := ⟨_, rfl⟩
    rw [← hj1] at e0
    have e2 : wrap64 ((j1 : Int) + 1) = ((j1 + 1 : Nat) : Int) := by rw [IntWalk.wrap64_in _ ⟨by omega, by omega⟩]; omega
    have HQ := Lib.hid hq
    have HO := Lib.hid ho
    have HD := Lib.hid hU
    have HI := Lib.hid (show i0 ≤ i ∧ i < n ∧ j1 = 2 * i + 1 ∧ l.length = l0.length from ⟨hge, hi, hj1, hl⟩)
    -- the end of the loop, nothing below being ahead
    have HX : Hid (∀ wx, QuU wx base q bm lv l0 n l D → (∀ k, 0 < k → k < n → (k - 1) / 2 = i → ¬ bfI (itm l k) (itm l i)) → (decide (i0 < i) = true → Hp l n) ∧ (decide (i0 < i) = false → HpU l n i0)) := Lib.hid (fun wx _ hs => by
      refine ⟨fun c => ?_, fun c => ?_⟩
      · have := of_decide_eq_true c
        exact HD.out.1.done hs (fun _ _ => (HD.out.2 (by omega)).2)
      · have := of_decide_eq_false c
        have e : i = i0 := by have := HI.out.1; omega
        subst e
        exact HD.out.1.up hs)
    by_cases h1 : n ≤ j1
    · have i1 : (n : Int) ≤ (j1 : Int) := by omega
      have HE := Lib.hid (HX.out wr HQ.out (fun k k0 kn kp => by have := HI.out; omega))
      clear hU hq ho hl hlt hge hi hj1 h1
      go_wp2_with fail
      go_ret
      exact ⟨⟨_, l, D, rfl, HQ.out, HE.out.1, HE.out.2⟩, HO.out⟩
    · have i1 : ¬ (n : Int) ≤ (j1 : Int) := by omega
      have i2 : ¬ (j1 : Int) < 0 := by omega
      have HJ := Lib.hid (show j1 < n from by omega)
      -- which of the two below
      have HF : Hid (∀ (jj : Nat) (w1 : World), jj < n → (jj - 1) / 2 = i → 0 < jj → (∀ k, 0 < k → k < n → (k - 1) / 2 = i → ¬ bfI (itm l k) (itm l jj)) → ¬ bfI (itm l jj) (itm l i) → ∀ k, 0 < k → k < n → (k - 1) / 2 = i → ¬ bfI (itm l k) (itm l i)) := Lib.hid (fun jj w1 _ _ _ hs hb k k0 kn kp => nbI_trans hb (hs k k0 kn kp))
      have HLb : Hid (∀ (jj : Nat) (w1 : World), jj < n → QuU w1 base q bm lv l0 n l D → Calls Try.prog 91 #[.pointer (some ⟨q, 0, none⟩), .int .i64 (jj : Nat), .int .i64 (i : Nat)] w1 fun e w' => e = .returned (.bool (decide (bfI (itm l jj) (itm l i)))) ∧ Below w1.heap.size w1 w') := Lib.hid (fun jj w1 hjj hq1 => qless_any w1 hq1.m (by have := hq1.len; have := HN.out; omega) (by have := hq1.len; have := HN.out; have := HI.out; omega))
      have HSw : Hid (∀ (jj : Nat) (w1 : World), jj < n → (jj - 1) / 2 = i → 0 < jj → QuU w1 base q bm lv l0 n l D → Calls Try.prog 94 #[.pointer (some ⟨q, 0, none⟩), .int .i64 (i : Nat), .int .i64 (jj : Nat)] w1 fun e w' => e = .returned (.tuple #[]) ∧ QuU w' base q bm lv l0 n (swI l i jj) ((D.put (kI (itm l jj).no) (intD (i : Nat))).put (kI (itm l i).no) (intD (jj : Nat))) ∧ Off (FpQ q bm lv) w1 w') := Lib.hid (fun jj w1 hjj hp h0 hq1 => (qswap_any w1 hq1.m (i := i) (j := jj) (by have := hq1.len; have := HN.out; have := HI.out; omega) (by have := hq1.len; have := HN.out; omega) (by omega) (hq1.i64 HK.out) (by have := hq1.len; have := HN.out; omega) (by rw [hq1.p.sz]; have := hq1.len; have := HN.out; omega)).mono fun e w' he => by
        obtain ⟨a1, a2, a3⟩ := he
        exact ⟨a1, hq1.swap (by have := HI.out; omega) hjj HN.out.1 a2, a3⟩)
      have HSt : Hid (∀ (jj : Nat), jj < n → (jj - 1) / 2 = i → 0 < jj → (∀ k, 0 < k → k < n → (k - 1) / 2 = i → ¬ bfI (itm l k) (itm l jj)) → bfI (itm l jj) (itm l i) → HpD (swI l i jj) n i0 jj) := Lib.hid (fun jj hjj hp h0 hs hb => by
        have := HD.out.1.step (by have := HQ.out.len; have := HN.out.1; omega) h0 hjj hp hb hs
        exact ⟨this.1, fun _ => ⟨h0, this.2⟩⟩)
      by_cases h2 : j1 + 1 < n
      · have i3 : ((j1 + 1 : Nat) : Int) < (n : Int) := by omega
        have HLs := Lib.hid (qless_any wr hq.m (i := j1 + 1) (j := j1) (by omega) (by omega))
        clear hU hq ho hl hlt hge hi hj1 h1
        by_cases hc : bfI (itm l (j1 + 1)) (itm l j1)
        · rw [decide_eq_true hc] at HLs
          have HCh : Hid (∀ k, 0 < k → k < n → (k - 1) / 2 = i → ¬ bfI (itm l k) (itm l (j1 + 1))) := Lib.hid (fun k k0 kn kp => by
            have := HI.out
            rcases (show k = j1 ∨ k = j1 + 1 by omega) with rfl | rfl
            · exact bfI_asym hc
            · exact bfI_irr _)
          have HJJ := Lib.hid (show (j1 + 1 - 1) / 2 = i ∧ j1 + 1 < n from by have := HI.out; omega)
          obtain ⟨jj, hjj⟩ : ∃ jj, jj = j1 + 1 := ⟨_, rfl⟩
          rw [← hjj] at e2 i3 HLs HCh HJJ
          have HJe := Lib.hid hjj
          clear h2 hc hjj
          go_wp2_with fail
          refine HLs.out.mono ?_
          rintro e w1 ⟨rfl, hb⟩
          have HQ1 := Lib.hid (HQ.out.keep hb)
          have HO1 := Lib.hid (HO.out.both (Off.of hb))
          have HL2 := Lib.hid (HLb.out jj w1 (by have := HJJ.out; omega) HQ1.out)
          clear hb HLs
          by_cases hd : bfI (itm l jj) (itm l i)
          · rw [decide_eq_true hd] at HL2
            have HG := Lib.hid (HSt.out jj (by have := HJJ.out; omega) (by have := HJJ.out; have := HJe.out; omega) (by have := HJe.out; omega) HCh.out hd)
            clear hd
            go_wp2_with fail
            refine HL2.out.mono ?_
            rintro e w2 ⟨rfl, hb⟩
            have HQ2 := Lib.hid (HQ1.out.keep hb)
            have HO2 := Lib.hid (HO1.out.both (Off.of hb))
            have HS2 := Lib.hid (HSw.out jj w2 (by have := HJJ.out; omega) (by have := HJJ.out; have := HJe.out; omega) (by have := HJe.out; omega) HQ2.out)
            clear hb HL2
            go_wp2_with fail
            refine HS2.out.mono ?_
            rintro e w3 ⟨rfl, hm, hf⟩
            have HQ3 := Lib.hid hm
            have HO3 := Lib.hid (HO2.out.both hf)
            clear hm hf HS2
            go_wp2_with fail
            go_roundw
            case rel => exact ⟨jj, _, _, rfl, by have := HI.out; have := HJe.out; omega, by have := HJJ.out; omega, HG.out, HQ3.out, HO3.out⟩
            case measure => have := HI.out; have := HJe.out; have := HJJ.out; simp [RowKit.intOf]; omega
          · rw [decide_eq_false hd] at HL2
            have HG := Lib.hid (HF.out jj w1 (by have := HJJ.out; omega) (by have := HJJ.out; have := HJe.out; omega) (by have := HJe.out; omega) HCh.out hd)
            clear hd
            go_wp2_with fail
            refine HL2.out.mono ?_
            rintro e w2 ⟨rfl, hb⟩
            have HQ2 := Lib.hid (HQ1.out.keep hb)
            have HO2 := Lib.hid (HO1.out.both (Off.of hb))
            have HE := Lib.hid (HX.out w2 HQ2.out HG.out)
            clear hb HL2
            go_wp2_with fail
            go_ret
            exact ⟨⟨_, l, D, rfl, HQ2.out, HE.out.1, HE.out.2⟩, HO2.out⟩
        · rw [decide_eq_false hc] at HLs
          have HCh : Hid (∀ k, 0 < k → k < n → (k - 1) / 2 = i → ¬ bfI (itm l k) (itm l j1)) := Lib.hid (fun k k0 kn kp => by
            have := HI.out
            rcases (show k = j1 ∨ k = j1 + 1 by omega) with rfl | rfl
            · exact bfI_irr _
            · exact hc)
          have HJJ := Lib.hid (show (j1 - 1) / 2 = i ∧ j1 < n from by have := HI.out; omega)
          have HJe : Hid (j1 = 2 * i + 1) := Lib.hid (by have := HI.out; omega)
          obtain ⟨jk, hjk⟩ : ∃ jk, jk = j1 + 1 := ⟨_, rfl⟩
          rw [← hjk] at e2 i3 HLs
          clear h2 hc hjk
          go_wp2_with fail
          refine HLs.out.mono ?_
          rintro e w1 ⟨rfl, hb⟩
          have HQ1 := Lib.hid (HQ.out.keep hb)
          have HO1 := Lib.hid (HO.out.both (Off.of hb))
          have HL2 := Lib.hid (HLb.out j1 w1 (by have := HJJ.out; omega) HQ1.out)
          clear hb HLs
          by_cases hd : bfI (itm l j1) (itm l i)
          · rw [decide_eq_true hd] at HL2
            have HG := Lib.hid (HSt.out j1 (by have := HJJ.out; omega) (by have := HJJ.out; have := HJe.out; omega) (by have := HJe.out; omega) HCh.out hd)
            clear hd
            go_wp2_with fail
            refine HL2.out.mono ?_
            rintro e w2 ⟨rfl, hb⟩
            have HQ2 := Lib.hid (HQ1.out.keep hb)
            have HO2 := Lib.hid (HO1.out.both (Off.of hb))
            have HS2 := Lib.hid (HSw.out j1 w2 (by have := HJJ.out; omega) (by have := HJJ.out; have := HJe.out; omega) (by have := HJe.out; omega) HQ2.out)
            clear hb HL2
            go_wp2_with fail
            refine HS2.out.mono ?_
            rintro e w3 ⟨rfl, hm, hf⟩
            have HQ3 := Lib.hid hm
            have HO3 := Lib.hid (HO2.out.both hf)
            clear hm hf HS2
            go_wp2_with fail
            go_roundw
            case rel => exact ⟨j1, _, _, rfl, by have := HI.out; have := HJe.out; omega, by have := HJJ.out; omega, HG.out, HQ3.out, HO3.out⟩
            case measure => have := HI.out; have := HJe.out; have := HJJ.out; simp [RowKit.intOf]; omega
          · rw [decide_eq_false hd] at HL2
            have HG := Lib.hid (HF.out j1 w1 (by have := HJJ.out; omega) (by have := HJJ.out; have := HJe.out; omega) (by have := HJe.out; omega) HCh.out hd)
            clear hd
            go_wp2_with fail
            refine HL2.out.mono ?_
            rintro e w2 ⟨rfl, hb⟩
            have HQ2 := Lib.hid (HQ1.out.keep hb)
            have HO2 := Lib.hid (HO1.out.both (Off.of hb))
            have HE := Lib.hid (HX.out w2 HQ2.out HG.out)
            clear hb HL2
            go_wp2_with fail
            go_ret
            exact ⟨⟨_, l, D, rfl, HQ2.out, HE.out.1, HE.out.2⟩, HO2.out⟩
      · have i3 : ¬ ((j1 + 1 : Nat) : Int) < (n : Int) := by omega
        clear hU hq ho hl hlt hge hi hj1 h1
        have HCh : Hid (∀ k, 0 < k → k < n → (k - 1) / 2 = i → ¬ bfI (itm l k) (itm l j1)) := Lib.hid (fun k k0 kn kp => by
          have := HI.out
          obtain rfl : k = j1 := by omega
          exact bfI_irr _)
        have HJJ := Lib.hid (show (j1 - 1) / 2 = i ∧ j1 < n from by have := HI.out; have := HJ.out; omega)
        have HJe : Hid (j1 = 2 * i + 1) := Lib.hid (by have := HI.out; omega)
        obtain ⟨jk, hjk⟩ : ∃ jk, jk = j1 + 1 := ⟨_, rfl⟩
        rw [← hjk] at e2 i3
        clear h2 hjk
        have HL2 := Lib.hid (HLb.out j1 wr (by have := HJJ.out; omega) HQ.out)
        by_cases hd : bfI (itm l j1) (itm l i)
        · rw [decide_eq_true hd] at HL2
          have HG := Lib.hid (HSt.out j1 (by have := HJJ.out; omega) (by have := HJJ.out; have := HJe.out; omega) (by have := HJe.out; omega) HCh.out hd)
          clear hd
          go_wp2_with fail
          refine HL2.out.mono ?_
          rintro e w2 ⟨rfl, hb⟩
          have HQ2 := Lib.hid (HQ.out.keep hb)
          have HO2 := Lib.hid (HO.out.both (Off.of hb))
          have HS2 := Lib.hid (HSw.out j1 w2 (by have := HJJ.out; omega) (by have := HJJ.out; have := HJe.out; omega) (by have := HJe.out; omega) HQ2.out)
          clear hb HL2
          go_wp2_with fail
          refine HS2.out.mono ?_
          rintro e w3 ⟨rfl, hm, hf⟩
          have HQ3 := Lib.hid hm
          have HO3 := Lib.hid (HO2.out.both hf)
          clear hm hf HS2
          go_wp2_with fail
          go_roundw
          case rel => exact ⟨j1, _, _, rfl, by have := HI.out; have := HJe.out; omega, by have := HJJ.out; omega, HG.out, HQ3.out, HO3.out⟩
          case measure => have := HI.out; have := HJe.out; have := HJJ.out; simp [RowKit.intOf]; omega
        · rw [decide_eq_false hd] at HL2
          have HG := Lib.hid (HF.out j1 wr (by have := HJJ.out; omega) (by have := HJJ.out; have := HJe.out; omega) (by have := HJe.out; omega) HCh.out hd)
          clear hd
          go_wp2_with fail
          refine HL2.out.mono ?_
          rintro e w2 ⟨rfl, hb⟩
          have HQ2 := Lib.hid (HQ.out.keep hb)
          have HO2 := Lib.hid (HO.out.both (Off.of hb))
          have HE := Lib.hid (HX.out w2 HQ2.out HG.out)
          clear hb HL2
          go_wp2_with fail
          go_ret
          exact ⟨⟨_, l, D, rfl, HQ2.out, HE.out.1, HE.out.2⟩, HO2.out⟩
end Go.Proofs.Ytkfcaafjnolhgaa
