/-
  slices.symMergeCmpFunc at []int: both parts have more than one number.
-/
import Derived.Test.YtbjjogbnndmmmaaSymL
namespace Go.Proofs.Ytbjjogbnndmmmaa
open Go.RowKit Go.Sort
set_option linter.unusedVariables false

theorem num_eqI {k : IntKind} {a b : Int} (h : a = b) : Value.int k a = Value.int k b := by rw [h]

/-- Where the search on both sides stands. -/
def FoundC (κ : Int → Int) (d : Array Int) (p s0 r0 s r : Nat) : Prop := (s = s0 ∨ (s0 < s ∧ ¬ κ d[s - 1]! < κ d[p - (s - 1)]!)) ∧ (r = r0 ∨ κ d[r]! < κ d[p - r]!)

/-- What the recursive call is asked for. -/
def SymRec (bx : Array Value) (κ : Int → Int) (V : Int → Prop) (blk off cap N k : Nat) (w : World) : Prop :=
  ∀ (a m b n : Nat) (d : Array Int), b - a < k → a < m → m < b → b ≤ N → d.size = N → (∀ t, t < N → V d[t]!) → Srt κ a m d → Srt κ m b d → Apt a m b d →
    Calls Try.prog 42 #[.slice (some ⟨blk, off, none⟩) N cap, .int .i64 a, .int .i64 m, .int .i64 b, .func (.func 35) #[] bx] (rowW w blk off n d) (SymPost κ w blk off a b d)

theorem rot_row (fv : Value) (blk off cap a m b N q : Nat) (d0 d : Array Int) (w : World) (hH : Holds (Value.int .i64) w blk off d0) (hN : d0.size = N) (hs : d.size = N)
    (ham : a < m) (hmb : m < b) (hb : b ≤ N) (hsz : N < 4611686018427387904) :
    Calls Try.prog 43 #[.slice (some ⟨blk, off, none⟩) N cap, .int .i64 a, .int .i64 m, .int .i64 b, fv] (rowW w blk off q d) fun e w' =>
      e = .returned (.tuple #[]) ∧ ∃ q' d', w' = rowW w blk off q' d' ∧ RotOf a m b d d' ∧ PermIn a b d d' := by
  have := rot_walk fv blk off cap a m b d (rowW w blk off q d) (rowW_holds hH (by omega)) ham hmb (by omega) (by omega)
  rw [hs] at this
  refine this.mono ?_
  rintro e w' ⟨rfl, q', d', rfl, hr, hp⟩
  exact ⟨rfl, q + q', d', rowW_again _ _ _ _ _ _ _ hr.1, hr, hp⟩

set_option maxHeartbeats 16000000 in
set_option maxRecDepth 100000 in
theorem sym_gen (bx : Array Value) (cf : Int → Int → Int) (κ : Int → Int) (V : Int → Prop) (blk off cap a m b n N mid nn p s0 r0 : Nat) (d0 d : Array Int) (w : World) (hH : Holds (Value.int .i64) w blk off d0)
    (hκ : ∀ x y, cf x y < 0 ↔ κ y < κ x) (hN : d0.size = N) (hC : CmpR bx cf V blk off N w) (hs : d.size = N) (hV : ∀ t, t < N → V d[t]!) (ham : a + 1 < m) (hmb : m + 1 < b) (hb : b ≤ N) (hsz : N < 4611686018427387904)
    (h1 : Srt κ a m d) (h2 : Srt κ m b d) (hA : Apt a m b d) (hrec : SymRec bx κ V blk off cap N (b - a) w)
    (hmid : (a + b) / 2 = mid) (hs0 : s0 = if mid < m then mid + m - b else a) (hr0 : r0 = if mid < m then mid else m) (hnn : nn = mid + m) (hp : p = mid + m - 1) :
    Calls Try.prog 42 #[.slice (some ⟨blk, off, none⟩) N cap, .int .i64 a, .int .i64 m, .int .i64 b, .func (.func 35) #[] bx] (rowW w blk off n d) (SymPost κ w blk off a b d) := by
  have HC : Hid _ := hC
  have HV : Hid _ := hV
  have Hκ : Hid _ := hκ
  have H1 : Hid _ := h1
  have H2 : Hid _ := h2
  have HA : Hid _ := hA
  have HS := Lib.hid hs
  have HN := Lib.hid hN
  have HRec : Hid _ := hrec
  have HMid := Lib.hid hmid
  have HS0 := Lib.hid hs0
  have HR0 := Lib.hid hr0
  have HNN := Lib.hid hnn
  have HPP := Lib.hid hp
  have hn1 : ((m : Int) - (a : Int) == 1) = false := by simp; omega
  have hn2 : ((b : Int) - (m : Int) == 1) = false := by simp; omega
  have rmid : ((a : Int) + (b : Int)) / 2 = (mid : Int) := by omega
  have rnn : (mid : Int) + (m : Int) = (nn : Int) := by omega
  have rp : (nn : Int) - 1 = (p : Int) := by omega
  have bm1 : a < mid := by omega
  have bm2 : mid < b := by omega
  have bnn : nn < 9223372036854775807 := by omega
  have bs0 : s0 ≤ r0 := by rw [hs0, hr0]; split <;> omega
  have bs1 : a ≤ s0 := by rw [hs0]; split <;> omega
  have bs2 : r0 ≤ m := by rw [hr0]; split <;> omega
  have bs3 : r0 ≤ mid := by rw [hr0]; split <;> omega
  have bs4 : nn ≤ s0 + b := by rw [hs0]; split <;> omega
  clear hC hV hκ h1 h2 hA hs hN hrec hmid hs0 hr0 hnn hp
  go_enter Try.func42, Try.ntmps42
  go_upto_if 140 with fail
  go_cut [20, 21] (fun vs vr wx => vs = .int .i64 (s0 : Nat) ∧ vr = .int .i64 (r0 : Nat) ∧ rowW w blk off n d = wx)
  case first =>
    as_aux_lemma =>
      by_cases hc : mid < m
      · go_wp2_with fail
        go_meet
        case rel => exact ⟨num_eqI (by rw [HS0.out, if_pos hc]; omega), num_eqI (by rw [HR0.out, if_pos hc]), rfl⟩
      · go_wp2_with fail
        go_meet
        case rel => exact ⟨num_eqI (by rw [HS0.out, if_neg hc]), num_eqI (by rw [HR0.out, if_neg hc]), rfl⟩
  case rest =>
    obtain ⟨rfl, rfl, rfl⟩ := hcut
    go_wp2_with fail
    go_loopw [20, 21, 23] (fun vs vr vc wr => ∃ (s r q : Nat), vs = .int .i64 s ∧ vr = .int .i64 r ∧ s0 ≤ s ∧ s ≤ r ∧ r ≤ r0 ∧ wr = rowW w blk off q d ∧ FoundC κ d p s0 r0 s r) (fun vs vr _ _ => (intOf vr).toNat - (intOf vs).toNat)
    case atStart => exact ⟨s0, r0, n, rfl, rfl, Nat.le_refl _, bs0, Nat.le_refl _, rfl, ⟨Or.inl rfl, Or.inl rfl⟩⟩
    case round =>
      obtain ⟨s, r, q, rfl, rfl, hss, hsr, hrr, hwr, HI⟩ := hrel
      by_cases hlt : s < r
      · obtain ⟨c, hh⟩ : ∃ c : Nat, ((s : Int) + (r : Int)) / 2 = (c : Int) := ⟨(s + r) / 2, by omega⟩
        have hh1 : s ≤ c := by omega
        have hh2 : c < r := by omega
        obtain ⟨e, he⟩ : ∃ e : Nat, e = p - c := ⟨_, rfl⟩
        have he1 : IntKind.i64.wrap ((p : Int) - (c : Int)) = (e : Int) := by
          rw [IntKind.wrap_i64]; omega
        have he2 : e < N := by omega
        obtain ⟨x, hx⟩ : ∃ x, x = d[e]! := ⟨_, rfl⟩
        obtain ⟨y, hy⟩ : ∃ y, y = d[c]! := ⟨_, rfl⟩
        have hc1 : wr.cell? ⟨blk, off + e, none⟩ = some (.int .i64 x) := by rw [hwr, hx]; exact rowW_cell hH (HS.out.trans HN.out.symm) e (by have := HN.out; omega)
        have hc2 : wr.cell? ⟨blk, off + c, none⟩ = some (.int .i64 y) := by rw [hwr, hy]; exact rowW_cell hH (HS.out.trans HN.out.symm) c (by have := HN.out; omega)
        have hcall : ∀ nq, Calls Try.prog 35 (#[.int .i64 x, .int .i64 y] ++ bx) (wr.drewN nq) fun e w' => e = .returned (.int .i64 (cf x y)) ∧ ∃ q, w' = (wr.drewN nq).drewN q := by
          intro nq
          rw [hwr, rowW_drewN, hx, hy]
          exact HC.out (q + nq) d HS.out _ _ (HV.out e he2) (HV.out c (by omega))
        have HCc : Hid _ := hcall
        have HW := Lib.hid hwr
        have HX := Lib.hid hx
        have HY := Lib.hid hy
        have HE := Lib.hid he
        clear hcall hwr hx hy he
        by_cases hl : cf x y < 0
        · as_aux_lemma =>
            have HL := Lib.hid ((Hκ.out x y).1 hl)
            have hld : decide (cf x y < 0) = true := decide_eq_true hl
            go_wp2_with fail
            go_quiet (first | (go_at_call 35; refine Calls.quiet_of (HCc.out _)))
            go_wp2_with fail
            go_roundw
            case rel => exact ⟨s, c, q + nq, rfl, rfl, by omega, by omega, by omega, by rw [HW.out]; exact rowW_drewN _ _ _ _ _ _, ⟨HI.1, Or.inr (by rw [← HE.out, ← HX.out, ← HY.out]; exact HL.out)⟩⟩
            case measure => simp [intOf]; omega
        · as_aux_lemma =>
            have HL := Lib.hid (fun g => hl ((Hκ.out x y).2 g))
            have hld : decide (cf x y < 0) = false := decide_eq_false hl
            go_wp2_with fail
            go_quiet (first | (go_at_call 35; refine Calls.quiet_of (HCc.out _)))
            go_wp2_with fail
            go_roundw
            case rel => exact ⟨c + 1, r, q + nq, by go_num, rfl, by omega, by omega, hrr, by rw [HW.out]; exact rowW_drewN _ _ _ _ _ _, ⟨Or.inr ⟨by omega, by rw [Nat.add_sub_cancel, ← HE.out, ← HX.out, ← HY.out]; exact HL.out⟩, HI.2⟩⟩
            case measure => simp [intOf]; omega
      · as_aux_lemma =>
          obtain rfl : s = r := by omega
          subst hwr
          obtain ⟨en, hen⟩ : ∃ en : Nat, en = nn - s := ⟨_, rfl⟩
          have ren : (nn : Int) - (s : Int) = (en : Int) := by omega
          have ben1 : m ≤ en := by omega
          have ben2 : en ≤ b := by omega
          have HEn := Lib.hid hen
          clear hen
          obtain ⟨B1, hB1⟩ : ∃ B, B = decide (s < m ∧ m < en) := ⟨_, rfl⟩
          obtain ⟨B2, hB2⟩ : ∃ B, B = decide (a < s ∧ s < mid) := ⟨_, rfl⟩
          obtain ⟨B3, hB3⟩ : ∃ B, B = decide (mid < en ∧ en < b) := ⟨_, rfl⟩
          have HB1 := Lib.hid hB1
          have HB2 := Lib.hid hB2
          have HB3 := Lib.hid hB3
          clear hB1 hB2 hB3
          go_upto_region 39 with fail
          go_cut [185] (fun t wx => t = .bool B1 ∧ rowW w blk off q d = wx)
          case first =>
            as_aux_lemma =>
              by_cases e1 : s < m
              · by_cases e2 : m < en
                · go_wp2_with fail
                  go_meet
                  case rel => exact ⟨by rw [HB1.out, decide_eq_true ⟨e1, e2⟩], rfl⟩
                · go_wp2_with fail
                  go_meet
                  case rel => exact ⟨by rw [HB1.out, decide_eq_false (fun h => e2 h.2)], rfl⟩
              · go_wp2_with fail
                go_meet
                case rel => exact ⟨by rw [HB1.out, decide_eq_false (fun h => e1 h.1)], rfl⟩
          case rest =>
          obtain ⟨rfl, rfl⟩ := hcut
          go_upto_if 185 with fail
          go_cut [] (fun wx => ∃ q1 d1, wx = rowW w blk off q1 d1 ∧ RotOf s m en d d1 ∧ PermIn a b d d1)
          case first =>
            as_aux_lemma =>
              cases hB : B1 with
              | true =>
                have hc := of_decide_eq_true (HB1.out.symm.trans hB)
                have HRo := Lib.hid (rot_row (.func (.func 35) #[] bx) blk off cap s m en N q d0 d w hH HN.out HS.out hc.1 hc.2 (by omega) hsz)
                clear hc
                go_wp2_with fail
                refine HRo.out.mono ?_
                rintro e w' ⟨rfl, q1, d1, rfl, hr, hp⟩
                have HRr := Lib.hid hr
                have HPp := Lib.hid hp
                clear hr hp
                go_wp2_with fail
                go_meet
                case rel => exact ⟨q1, d1, rfl, HRr.out, permIn_mono _ _ _ _ _ _ (by omega) (by omega) (by have := HS.out; omega) HPp.out⟩
              | false =>
                have hc := of_decide_eq_false (HB1.out.symm.trans hB)
                have HT := Lib.hid (RotOf.triv s m en d (by omega))
                clear hc
                go_wp2_with fail
                go_meet
                case rel => exact ⟨q, d, rfl, HT.out, permIn_refl _ _ _⟩
          case rest =>
          obtain ⟨q1, d1, rfl, hRot, hPerm⟩ := hcut
          have hsym : Sym κ a m b s d d1 := by
            have e0 := HS0.out; have e1 := HR0.out; have e2 := HEn.out; have e3 := HNN.out; have e4 := HMid.out; have e5 := HPP.out
            subst e4
            have e6 : en = (a + b) / 2 + m - s := by omega
            subst e6
            refine ⟨by omega, by omega, H1.out, H2.out, HA.out, ?_, ?_, ?_, ?_, hRot⟩
            · intro hc; rw [if_pos hc] at e0 e1; omega
            · intro hc; rw [if_neg (by omega)] at e0 e1; omega
            · rcases HI.1 with hi | ⟨hi0, hi⟩
              · by_cases hc : (a + b) / 2 < m
                · rw [if_pos hc] at e0; exact Or.inr (Or.inl ⟨hc, by omega⟩)
                · rw [if_neg hc] at e0; exact Or.inl ⟨by omega, by omega⟩
              · refine Or.inr (Or.inr ⟨by omega, by omega, ?_⟩)
                rw [show p - (s - 1) = (a + b) / 2 + m - s from by omega] at hi
                exact hi
            · rcases HI.2 with hi | hi
              · by_cases hc : (a + b) / 2 < m
                · rw [if_pos hc] at e1; exact Or.inr (Or.inl ⟨hc, by omega⟩)
                · rw [if_neg hc] at e1; exact Or.inl ⟨by omega, by omega⟩
              · refine Or.inr (Or.inr ?_)
                rw [show p - s = (a + b) / 2 + m - 1 - s from by omega] at hi
                exact hi
          have hen : (a + b) / 2 + m - s = en := by rw [HEn.out, HNN.out, HMid.out]
          have hsz1 : d1.size = N := hRot.1.trans HS.out
          have HV1 := Lib.hid (permV hPerm HS.out hb HV.out)
          have HSym := Lib.hid hsym
          have HPerm := Lib.hid hPerm
          have HEN := Lib.hid hen
          clear hRot hPerm hsym hen HI
          go_upto_region 41 with fail
          go_cut [199] (fun t wx => t = .bool B2 ∧ rowW w blk off q1 d1 = wx)
          case first =>
            as_aux_lemma =>
              by_cases e1 : a < s
              · by_cases e2 : s < mid
                · go_wp2_with fail
                  go_meet
                  case rel => exact ⟨by rw [HB2.out, decide_eq_true ⟨e1, e2⟩], rfl⟩
                · go_wp2_with fail
                  go_meet
                  case rel => exact ⟨by rw [HB2.out, decide_eq_false (fun h => e2 h.2)], rfl⟩
              · go_wp2_with fail
                go_meet
                case rel => exact ⟨by rw [HB2.out, decide_eq_false (fun h => e1 h.1)], rfl⟩
          case rest =>
          obtain ⟨rfl, rfl⟩ := hcut
          go_upto_if 199 with fail
          go_cut [] (fun wx => ∃ q2 d2, wx = rowW w blk off q2 d2 ∧ PermIn a mid d1 d2 ∧ Srt κ a mid d2)
          case first =>
            as_aux_lemma =>
              cases hB : B2 with
              | true =>
                have hc := of_decide_eq_true (HB2.out.symm.trans hB)
                have hy := HSym.out
                have HRc := Lib.hid (HRec.out a s mid q1 d1 (by omega) hc.1 hc.2 (by omega) hsz1 HV1.out hy.f1 (by have := hy.f2; rw [HMid.out] at this; exact this) (by have := hy.f3; rw [HMid.out] at this; exact this))
                clear hc hy
                go_wp2_with fail
                refine HRc.out.mono ?_
                rintro e w' ⟨rfl, q2, d2, rfl, hp, hs2⟩
                have HSs := Lib.hid hs2
                have HPp := Lib.hid hp
                clear hs2 hp
                go_wp2_with fail
                go_meet
                case rel => exact ⟨q2, d2, rfl, HPp.out, HSs.out⟩
              | false =>
                have hc := of_decide_eq_false (HB2.out.symm.trans hB)
                have HT := Lib.hid (HSym.out.half1 (by rw [HMid.out]; exact hc))
                clear hc
                go_wp2_with fail
                go_meet
                case rel => exact ⟨q1, d1, rfl, permIn_refl _ _ _, by have := HT.out; rw [HMid.out] at this; exact this⟩
          case rest =>
          obtain ⟨q2, d2, rfl, hP2, hS2⟩ := hcut
          have hsz2 : d2.size = N := hP2.1.trans hsz1
          have HV2 := Lib.hid (permV hP2 hsz1 (by omega) HV1.out)
          have hsame : ∀ t, mid ≤ t → t < b → d2[t]! = d1[t]! := fun t ht _ => hP2.2.1 t (Or.inr ht)
          have HSame := Lib.hid hsame
          have HP2 := Lib.hid hP2
          have HS2 := Lib.hid hS2
          clear hP2 hS2 hsame
          go_upto_region 43 with fail
          go_cut [213] (fun t wx => t = .bool B3 ∧ rowW w blk off q2 d2 = wx)
          case first =>
            as_aux_lemma =>
              by_cases e1 : mid < en
              · by_cases e2 : en < b
                · go_wp2_with fail
                  go_meet
                  case rel => exact ⟨by rw [HB3.out, decide_eq_true ⟨e1, e2⟩], rfl⟩
                · go_wp2_with fail
                  go_meet
                  case rel => exact ⟨by rw [HB3.out, decide_eq_false (fun h => e2 h.2)], rfl⟩
              · go_wp2_with fail
                go_meet
                case rel => exact ⟨by rw [HB3.out, decide_eq_false (fun h => e1 h.1)], rfl⟩
          case rest =>
          obtain ⟨rfl, rfl⟩ := hcut
          cases hB : B3 with
          | true =>
            have hc := of_decide_eq_true (HB3.out.symm.trans hB)
            have hy := HSym.out
            have HRc := Lib.hid (HRec.out mid en b q2 d2 (by omega) hc.1 hc.2 hb hsz2 HV2.out
              (Srt.of_eq (by have := hy.g1; rw [HEN.out, HMid.out] at this; exact this) (fun t h1 h2 => HSame.out t h1 (by omega)))
              (Srt.of_eq (by have := hy.g2; rw [HEN.out] at this; exact this) (fun t h1 h2 => HSame.out t (by omega) h2))
              (Apt.of_eq (by have := hy.g3; rw [HEN.out, HMid.out] at this; exact this) (fun t h1 h2 => HSame.out t h1 h2) (by omega) (by omega)))
            clear hc hy
            go_wp2_with fail
            refine HRc.out.mono ?_
            rintro e w' ⟨rfl, q3, d3, rfl, hp, hs3⟩
            have HSs := Lib.hid hs3
            have HPp := Lib.hid hp
            clear hs3 hp
            go_wp2_with fail
            go_end0
            have hh := halves (by omega) (by omega) (by omega) (by have := HSym.out.cross; rw [HMid.out] at this; exact this) HP2.out HS2.out HPp.out HSs.out
            exact ⟨rfl, q3, d3, rfl, permIn_trans _ _ _ _ _ HPerm.out hh.1, hh.2⟩
          | false =>
            have hc := of_decide_eq_false (HB3.out.symm.trans hB)
            have HT := Lib.hid (HSym.out.half2 (by rw [HEN.out, HMid.out]; exact hc))
            clear hc
            go_wp2_with fail
            go_end0
            have ht := HT.out
            rw [HMid.out] at ht
            have hh := halves (by omega) (by omega) (by omega) (by have := HSym.out.cross; rw [HMid.out] at this; exact this) HP2.out HS2.out (permIn_refl _ _ _) (Srt.of_eq ht HSame.out)
            exact ⟨rfl, q2, d2, rfl, permIn_trans _ _ _ _ _ HPerm.out hh.1, hh.2⟩

end Go.Proofs.Ytbjjogbnndmmmaa
