/-
  Package text: observed, contract, name, key, day, until: what they answer; all parts.
-/
import Derived.Test.YtmaiecbhloagoaaGreatDoorPsI
import Derived.Test.YtmaiecbhloagoaaGreatDoorPsF
import Derived.Test.YtmaiecbhloagoaaGreatDoorTxt
namespace Go.Proofs.YtmaiecbhloagoaaGreatDoor
open Go.RowKit Go.Lib
set_option linter.unusedVariables false
set_option linter.unusedSimpArgs false

/-- All tables. -/
structure TabW (w : World) : Prop where
  lib : LibW w
  cur : CurW w
  len : LenW w
  knd : KndW w
  hd : HdW w
theorem TabW.keep {w w' : World} (h : TabW w) (hb : Below w.heap.size w w') : TabW w' := ⟨h.lib.keep hb, h.cur.keep hb, h.len.keep hb, h.knd.keep hb, h.hd.keep hb⟩
/-- The tables, that lie below a place. -/
def Tb (n : Nat) (w : World) : Prop := ∃ w0 : World, w0.heap.size = n ∧ TabW w0 ∧ Below n w0 w
theorem Tb.start {w : World} (h : TabW w) : Tb w.heap.size w := ⟨w, rfl, h, Below.refl _ _⟩
theorem Tb.tab {n : Nat} {w : World} (h : Tb n w) : TabW w := by
  obtain ⟨w0, rfl, h1, h2⟩ := h
  exact h1.keep h2
theorem Tb.le {n : Nat} {w : World} (h : Tb n w) : n ≤ w.heap.size := by
  obtain ⟨w0, rfl, _, h2⟩ := h
  exact h2.size
theorem Tb.on {n : Nat} {w w' : World} (h : Tb n w) (hb : Below n w w') : Tb n w' := by
  obtain ⟨w0, e, h1, h2⟩ := h
  exact ⟨w0, e, h1, h2.trans hb⟩
theorem Tb.keep {n : Nat} {w w' : World} (h : Tb n w) (hb : Below w.heap.size w w') : Tb n w' := h.on (hb.mono h.le)
theorem Tb.kp {n : Nat} {P : Nat → Prop} {w w' : World} (h : Tb n w) (hk : KpP P w w') (hP : ∀ k, k < n → P k) : Tb n w' := h.on (hk.below hP)
theorem Tb.blk {n : Nat} {w : World} (h : Tb n w) : 0 < n ∧ 1 < n := by
  obtain ⟨w0, rfl, h1, h2⟩ := h
  exact ⟨ltT (h1.hd.c0 0 (by omega)), ltT (h1.knd.c0 0 (by omega))⟩

set_option maxHeartbeats 2000000 in
set_option maxRecDepth 100000 in
theorem observed_any (n0 : Nat) (P : Nat → Prop) (hP : ∀ k, k < n0 → P k) (B : Nat) (s : ByteArray) (m : Mc) (hN : m.N.length ≤ 64) (hD : m.D.length ≤ 10000) (l : List UInt8) (hl : l.length ≤ 3000) (w : World) (H : PsM w P B s m) (T : Tb n0 w) :
    Calls Tryz.prog 65 #[.pointer (some ⟨B, 0, none⟩), .string ⟨l.toArray⟩] w (TakeE P B s (partM 1 l m) w) := by
  show Calls _ _ _ _ (TakeE P B s (obsM l m) w)
  have hlt : ∀ k, P k → k < w.heap.size := by obtain ⟨_, _, h⟩ := H; exact h.lt
  have hPk : P 0 ∧ P 1 := ⟨hP _ T.blk.1, hP _ T.blk.2⟩
  have HL := Lib.hid hlt
  cases hr : ratW l with
  | none =>
    have HP := Lib.hid (parse_no l hl (ratW_none hr) w T.tab.lib)
    have HW := Lib.hid (fun (w' : World) (hb : Below w.heap.size w w') => word_any P B s m hN hD 1 (by omega) l w' (H.keep hb) (T.tab.hd.keep hb) (T.tab.knd.keep hb) hPk)
    have e : obsM l m = wordM 1 l m := by unfold obsM; rw [hr]
    rw [e]
    generalize wordM 1 l m = R at *
    clear H T hr e hlt hPk
    go_enter Tryz.func65, Tryz.ntmps65
    go_wp2_with fail
    refine HP.out.mono ?_
    rintro e w1 ⟨rfl, hb1⟩
    have HB1 := Lib.hid (onB hb1 (newB w1 (.cells #[.int .i64 0, .int .i64 0] 46)))
    clear hb1
    go_wp2_with fail
    refine (HW.out _ HB1.out).mono ?_
    rintro e w2 ⟨rfl, hq, hkp⟩
    have HQ := Lib.hid hq
    have HKp := Lib.hid hkp
    clear hq hkp
    go_wp2_with fail
    go_ret
    exact ⟨rfl, HQ.out, (KpP.of HB1.out HL.out).trans HKp.out⟩
  | some p =>
    obtain ⟨x, y⟩ := p
    obtain ⟨r1, r2, r3, r4⟩ := ratW_some hr
    have HP := Lib.hid (parse_yes l hl x y r1 r2 r3 r4 w T.tab.lib)
    have HW := Lib.hid (fun (w' : World) (hb : Below w.heap.size w w') => begin_any P B s m ⟨1, 0, 0, x, y⟩ 1 (by omega) rfl hN hD w' (H.keep hb) (T.tab.hd.keep hb) (T.tab.knd.keep hb) hPk)
    rw [show ndV ⟨1, 0, 0, x, y⟩ = #[.int .i64 1, .int .i64 0, .int .i64 0, .int .i64 x, .int .i64 y] from rfl] at HW
    have e : obsM l m = begM ⟨1, 0, 0, x, y⟩ 1 m := by unfold obsM; rw [hr]
    rw [e]
    generalize begM ⟨1, 0, 0, x, y⟩ 1 m = R at *
    clear H T hr e hlt hPk r1 r2 r3 r4
    go_enter Tryz.func65, Tryz.ntmps65
    go_wp2_with fail
    refine HP.out.mono ?_
    rintro e w1 ⟨rfl, hb1⟩
    have HB1 := Lib.hid (onB hb1 (newB w1 (.cells #[.int .i64 x, .int .i64 y] 46)))
    clear hb1
    go_wp2_with fail
    refine (HW.out _ HB1.out).mono ?_
    rintro e w2 ⟨rfl, hq, hkp⟩
    have HQ := Lib.hid hq
    have HKp := Lib.hid hkp
    clear hq hkp
    go_wp2_with fail
    go_ret
    exact ⟨rfl, HQ.out, (KpP.of HB1.out HL.out).trans HKp.out⟩
set_option maxHeartbeats 1000000 in
theorem contract_any (n0 : Nat) (P : Nat → Prop) (hP : ∀ k, k < n0 → P k) (B : Nat) (s : ByteArray) (m : Mc) (hN : m.N.length ≤ 64) (hD : m.D.length ≤ 10000) (l : List UInt8) (w : World) (H : PsM w P B s m) (T : Tb n0 w) :
    Calls Tryz.prog 66 #[.pointer (some ⟨B, 0, none⟩), .string ⟨l.toArray⟩] w (TakeE P B s (partM 2 l m) w) := by
  show Calls _ _ _ _ (TakeE P B s (wordM 2 l m) w)
  have HW := Lib.hid (word_any P B s m hN hD 2 (by omega) l w H T.tab.hd T.tab.knd ⟨hP _ T.blk.1, hP _ T.blk.2⟩)
  generalize wordM 2 l m = R at *
  clear H T
  go_enter Tryz.func66, Tryz.ntmps66
  go_wp2_with fail
  refine HW.out.mono ?_
  rintro e w2 ⟨rfl, hq, hkp⟩
  have HQ := Lib.hid hq
  have HKp := Lib.hid hkp
  clear hq hkp
  go_wp2_with fail
  go_ret
  exact ⟨rfl, HQ.out, HKp.out⟩

/-- What the last node's field asks and leaves. -/
theorem last_set (n0 : Nat) (P : Nat → Prop) (B : Nat) (s : ByteArray) (N : List Nd) (n : Nd) (hN : N.length ≤ 100000) (o : Int) (D : List Nat) (w : World) (H : PsM w P B s ⟨N ++ [n], o, D⟩) :
    ∃ g vd cap, PsR w P B s (.slice (some ⟨g, 0, none⟩) (N.length + 1) cap) vd ⟨N ++ [n], o, D⟩ ∧ Calls Tryz.prog 99 #[.pointer (some ⟨B, 0, none⟩)] w fun e w' => e = .returned (.pointer (some ⟨g, N.length * 5, none⟩)) ∧ Below w.heap.size w w' := by
  obtain ⟨vn, vd, H⟩ := H
  obtain ⟨g, cap, rfl, h⟩ := last_any P B s N n hN o D vn vd w H
  exact ⟨g, vd, cap, H, h⟩

set_option maxHeartbeats 2000000 in
set_option maxRecDepth 100000 in
theorem name_any (n0 : Nat) (P : Nat → Prop) (B : Nat) (s : ByteArray) (m : Mc) (hN : m.N.length ≤ 64) (hne : m.N ≠ []) (l : List UInt8) (w : World) (H : PsM w P B s m) (T : Tb n0 w) :
    Calls Tryz.prog 70 #[.pointer (some ⟨B, 0, none⟩), .string ⟨l.toArray⟩] w (TakeE P B s (partM 6 l m) w) := by
  show Calls _ _ _ _ (TakeE P B s (nameM l m) w)
  obtain ⟨N', o, D⟩ := m
  dsimp only at hne hN
  obtain ⟨N, n, rfl⟩ : ∃ N n, N' = N ++ [n] := ⟨N'.dropLast, N'.getLast hne, (List.dropLast_concat_getLast hne).symm⟩
  have hN' : N.length ≤ 64 := by simp at hN; omega
  have hlt : ∀ k, P k → k < w.heap.size := by obtain ⟨_, _, h⟩ := H; exact h.lt
  have HL := Lib.hid hlt
  have HO := Lib.hid (cof_any l w T.tab.cur)
  have HH := Lib.hid H
  have hR : nameM l ⟨N ++ [n], o, D⟩ = match findK l 8 with | some k => (0, ⟨updL (setA k) (N ++ [n]), o, D⟩) | none => (13, ⟨N ++ [n], o, D⟩) := rfl
  rw [hR]
  clear H T hne hlt hR
  cases hf : findK l 8 with
  | none =>
    rw [hf] at HO
    rw [show FindAns none = .tuple #[.int .i64 0, .int .i64 16] from rfl] at HO
    clear hf
    go_enter Tryz.func70, Tryz.ntmps70
    go_wp2_with fail
    refine HO.out.mono ?_
    rintro e w1 ⟨rfl, hb1⟩
    have HB1 := Lib.hid hb1
    clear hb1
    go_wp2_with fail
    go_ret
    exact ⟨rfl, fun h => (by cases h), KpP.of HB1.out HL.out⟩
  | some k =>
    rw [hf] at HO
    rw [show FindAns (some k) = .tuple #[.int .i64 (k : Int), .int .i64 0] from rfl] at HO
    clear hf
    dsimp only
    go_enter Tryz.func70, Tryz.ntmps70
    go_wp2_with fail
    refine HO.out.mono ?_
    rintro e w1 ⟨rfl, hb1⟩
    have HB1 := Lib.hid hb1
    obtain ⟨g, vd, cap, HR, HLa⟩ := last_set n0 P B s N n (by omega) o D w1 (HH.out.keep hb1)
    have HR1 := Lib.hid HR
    have HLa1 := Lib.hid HLa
    clear hb1 HR HLa
    go_wp2_with fail
    refine HLa1.out.mono ?_
    rintro e w2 ⟨rfl, hb2⟩
    have HR2 := Lib.hid (HR1.out.keep hb2)
    have HB2 := Lib.hid (onB HB1.out hb2)
    obtain ⟨la, lb, lf⟩ := HR2.out.lastC
    have lf1 := lf (N.length * 5 + 1)
    have HF := Lib.hid (HR2.out.setF (k : Int) 1 setA (ndR_set N n k).1)
    clear hb2 lb lf
    go_wp2_with fail
    go_ret
    exact ⟨rfl, fun _ => ⟨_, _, HF.out.1⟩, (KpP.of HB2.out HL.out).trans HF.out.2⟩

set_option maxHeartbeats 2000000 in
set_option maxRecDepth 100000 in
theorem key_any (n0 : Nat) (P : Nat → Prop) (B : Nat) (s : ByteArray) (m : Mc) (hN : m.N.length ≤ 64) (hne : m.N ≠ []) (l : List UInt8) (hl : l.length ≤ 3000) (w : World) (H : PsM w P B s m) (T : Tb n0 w) :
    Calls Tryz.prog 71 #[.pointer (some ⟨B, 0, none⟩), .string ⟨l.toArray⟩] w (TakeE P B s (partM 7 l m) w) := by
  show Calls _ _ _ _ (TakeE P B s (keyM l m) w)
  obtain ⟨N', o, D⟩ := m
  dsimp only at hne hN
  obtain ⟨N, n, rfl⟩ : ∃ N n, N' = N ++ [n] := ⟨N'.dropLast, N'.getLast hne, (List.dropLast_concat_getLast hne).symm⟩
  have hN' : N.length ≤ 64 := by simp at hN; omega
  have hlt : ∀ k, P k → k < w.heap.size := by obtain ⟨_, _, h⟩ := H; exact h.lt
  have HL := Lib.hid hlt
  have HC := Lib.hid (tcounts_any l hl w)
  have HH := Lib.hid H
  have HLib := Lib.hid T.tab.lib
  have hR : keyM l ⟨N ++ [n], o, D⟩ = if (keyW l).1 = 0 then (0, ⟨updL (setA (keyW l).2) (N ++ [n]), o, D⟩) else ((keyW l).1, ⟨N ++ [n], o, D⟩) := rfl
  have hK : keyW l = if cntK l = true then (match atoiAll l with | .ok v => if 63 < v then (10, 0) else (0, v) | _ => (10, 0)) else (13, 0) := rfl
  rw [hR]
  clear H T hne hlt hR
  cases hc : cntK l with
  | false =>
    rw [hc, if_neg (by decide)] at hK
    rw [hc] at HC
    rw [hK]
    clear hK hc
    rw [if_neg (by decide)]
    go_enter Tryz.func71, Tryz.ntmps71
    go_wp2_with fail
    refine HC.out.mono ?_
    rintro e w1 ⟨rfl, hb1⟩
    have HB1 := Lib.hid hb1
    clear hb1
    go_wp2_with fail
    go_ret
    exact ⟨rfl, fun h => (by cases h), KpP.of HB1.out HL.out⟩
  | true =>
    rw [hc, if_pos rfl] at hK
    rw [hc] at HC
    clear hc
    by_cases hok : ∃ v, atoiAll l = .ok v
    · obtain ⟨v, hv⟩ := hok
      rw [hv] at hK
      dsimp only at hK
      have HAt := Lib.hid (fun w => atoi_yes l hl v hv w)
      clear hv
      by_cases h63 : 63 < v
      · rw [if_pos h63] at hK
        rw [hK, if_neg (by decide)]
        clear hK
        go_enter Tryz.func71, Tryz.ntmps71
        go_wp2_with fail
        refine HC.out.mono ?_
        rintro e w1 ⟨rfl, hb1⟩
        have HB1 := Lib.hid hb1
        clear hb1
        go_wp2_with fail
        refine (HAt.out _).mono ?_
        rintro e w2 ⟨rfl, hb2⟩
        have HB2 := Lib.hid (onB HB1.out hb2)
        clear hb2
        go_wp2_with fail
        go_ret
        exact ⟨rfl, fun h => (by cases h), KpP.of HB2.out HL.out⟩
      · rw [if_neg h63] at hK
        rw [hK, if_pos rfl]
        clear hK
        go_enter Tryz.func71, Tryz.ntmps71
        go_wp2_with fail
        refine HC.out.mono ?_
        rintro e w1 ⟨rfl, hb1⟩
        have HB1 := Lib.hid hb1
        clear hb1
        go_wp2_with fail
        refine (HAt.out _).mono ?_
        rintro e w2 ⟨rfl, hb2⟩
        have HB2 := Lib.hid (onB HB1.out hb2)
        clear hb2
        obtain ⟨g, vd, cap, HR, HLa⟩ := last_set n0 P B s N n (by omega) o D w2 (HH.out.keep HB2.out)
        have HR1 := Lib.hid HR
        have HLa1 := Lib.hid HLa
        clear HR HLa
        go_wp2_with fail
        refine HLa1.out.mono ?_
        rintro e w3 ⟨rfl, hb3⟩
        have HR2 := Lib.hid (HR1.out.keep hb3)
        have HB3 := Lib.hid (onB HB2.out hb3)
        obtain ⟨la, lb, lf⟩ := HR2.out.lastC
        have lf1 := lf (N.length * 5 + 1)
        have HF := Lib.hid (HR2.out.setF v 1 setA (ndR_set N n v).1)
        clear hb3 lb lf
        go_wp2_with fail
        go_ret
        exact ⟨rfl, fun _ => ⟨_, _, HF.out.1⟩, (KpP.of HB3.out HL.out).trans HF.out.2⟩
    · have hno : ∀ v, atoiAll l ≠ .ok v := fun v e => hok ⟨v, e⟩
      have HAt := Lib.hid (fun w L => atoi_no l hl hno w L)
      have hK2 : keyW l = (10, 0) := by
        rw [hK]
        cases e : atoiAll l
        · exact absurd e (hno _)
        · rfl
        · rfl
      rw [hK2, if_neg (by decide)]
      clear hK hno hok hK2
      go_enter Tryz.func71, Tryz.ntmps71
      go_wp2_with fail
      refine HC.out.mono ?_
      rintro e w1 ⟨rfl, hb1⟩
      have HB1 := Lib.hid hb1
      have HLib1 := Lib.hid (HLib.out.keep hb1)
      clear hb1
      go_wp2_with fail
      refine (HAt.out _ HLib1.out).mono ?_
      rintro e w2 ⟨⟨x, Nn, rfl⟩, hb2⟩
      have HB2 := Lib.hid (onB HB1.out hb2)
      clear hb2
      go_wp2_with fail
      go_ret
      exact ⟨rfl, fun h => (by cases h), KpP.of HB2.out HL.out⟩

theorem dayW_err (l : List UInt8) : (dayW l).2 = 0 ∨ (dayW l).2 = 10 ∨ (dayW l).2 = 13 := by
  have h : (parN l).2 = 0 ∨ (parN l).2 = 18 ∨ (parN l).2 = 13 := by
    unfold parN
    split
    · split
      · exact .inl rfl
      · exact .inr (.inl rfl)
    · exact .inr (.inr rfl)
  unfold dayW
  rcases h with e | e | e
  · rw [if_neg (by rw [e]; decide)]; exact .inl e
  · rw [if_pos e]; exact .inr (.inl rfl)
  · rw [if_neg (by rw [e]; decide)]; exact .inr (.inr e)
set_option maxHeartbeats 2000000 in
set_option maxRecDepth 100000 in
theorem day_any (n0 : Nat) (P : Nat → Prop) (B : Nat) (s : ByteArray) (m : Mc) (hN : m.N.length ≤ 64) (hne : m.N ≠ []) (l : List UInt8) (hl : l.length ≤ 3000) (w : World) (H : PsM w P B s m) (T : Tb n0 w) :
    Calls Tryz.prog 72 #[.pointer (some ⟨B, 0, none⟩), .string ⟨l.toArray⟩] w (TakeE P B s (partM 8 l m) w) := by
  show Calls _ _ _ _ (TakeE P B s (dayM l m) w)
  obtain ⟨N', o, D⟩ := m
  dsimp only at hne hN
  obtain ⟨N, n, rfl⟩ : ∃ N n, N' = N ++ [n] := ⟨N'.dropLast, N'.getLast hne, (List.dropLast_concat_getLast hne).symm⟩
  have hN' : N.length ≤ 64 := by simp at hN; omega
  have hlt : ∀ k, P k → k < w.heap.size := by obtain ⟨_, _, h⟩ := H; exact h.lt
  have HL := Lib.hid hlt
  have HC := Lib.hid (tdayof_any l hl w T.tab.len)
  have HH := Lib.hid H
  have hR : dayM l ⟨N ++ [n], o, D⟩ = ((dayW l).2.toNat, ⟨updL (setA (dayW l).1) (N ++ [n]), o, D⟩) := rfl
  have HE := Lib.hid (dayW_err l)
  rw [hR]
  clear H T hne hlt hR
  generalize dayW l = r at *
  obtain ⟨v, y⟩ := r
  dsimp only at *
  go_enter Tryz.func72, Tryz.ntmps72
  go_wp2_with fail
  refine HC.out.mono ?_
  rintro e w1 ⟨rfl, hb1⟩
  have HB1 := Lib.hid hb1
  obtain ⟨g, vd, cap, HR, HLa⟩ := last_set n0 P B s N n (by omega) o D w1 (HH.out.keep hb1)
  have HR1 := Lib.hid HR
  have HLa1 := Lib.hid HLa
  clear hb1 HR HLa
  go_wp2_with fail
  refine HLa1.out.mono ?_
  rintro e w2 ⟨rfl, hb2⟩
  have HR2 := Lib.hid (HR1.out.keep hb2)
  have HB2 := Lib.hid (onB HB1.out hb2)
  obtain ⟨la, lb, lf⟩ := HR2.out.lastC
  have lf1 := lf (N.length * 5 + 1)
  have HF := Lib.hid (HR2.out.setF v 1 setA (ndR_set N n v).1)
  clear hb2 lb lf
  go_wp2_with fail
  go_ret
  exact ⟨ret_intP (by rcases HE.out with e | e | e <;> rw [e] <;> rfl), fun _ => ⟨_, _, HF.out.1⟩, (KpP.of HB2.out HL.out).trans HF.out.2⟩
set_option maxHeartbeats 2000000 in
set_option maxRecDepth 100000 in
theorem until_any (n0 : Nat) (P : Nat → Prop) (B : Nat) (s : ByteArray) (m : Mc) (hN : m.N.length ≤ 64) (hne : m.N ≠ []) (l : List UInt8) (hl : l.length ≤ 3000) (w : World) (H : PsM w P B s m) (T : Tb n0 w) :
    Calls Tryz.prog 73 #[.pointer (some ⟨B, 0, none⟩), .string ⟨l.toArray⟩] w (TakeE P B s (partM 9 l m) w) := by
  show Calls _ _ _ _ (TakeE P B s (untM l m) w)
  obtain ⟨N', o, D⟩ := m
  dsimp only at hne hN
  obtain ⟨N, n, rfl⟩ : ∃ N n, N' = N ++ [n] := ⟨N'.dropLast, N'.getLast hne, (List.dropLast_concat_getLast hne).symm⟩
  have hN' : N.length ≤ 64 := by simp at hN; omega
  have hlt : ∀ k, P k → k < w.heap.size := by obtain ⟨_, _, h⟩ := H; exact h.lt
  have HL := Lib.hid hlt
  have HC := Lib.hid (tdayof_any l hl w T.tab.len)
  have HH := Lib.hid H
  have hR : untM l ⟨N ++ [n], o, D⟩ = ((dayW l).2.toNat, ⟨updL (setB (dayW l).1) (N ++ [n]), o, D⟩) := rfl
  have HE := Lib.hid (dayW_err l)
  rw [hR]
  clear H T hne hlt hR
  generalize dayW l = r at *
  obtain ⟨v, y⟩ := r
  dsimp only at *
  go_enter Tryz.func73, Tryz.ntmps73
  go_wp2_with fail
  refine HC.out.mono ?_
  rintro e w1 ⟨rfl, hb1⟩
  have HB1 := Lib.hid hb1
  obtain ⟨g, vd, cap, HR, HLa⟩ := last_set n0 P B s N n (by omega) o D w1 (HH.out.keep hb1)
  have HR1 := Lib.hid HR
  have HLa1 := Lib.hid HLa
  clear hb1 HR HLa
  go_wp2_with fail
  refine HLa1.out.mono ?_
  rintro e w2 ⟨rfl, hb2⟩
  have HR2 := Lib.hid (HR1.out.keep hb2)
  have HB2 := Lib.hid (onB HB1.out hb2)
  obtain ⟨la, lb, lf⟩ := HR2.out.lastC
  have lf2 := lf (N.length * 5 + 2)
  have HF := Lib.hid (HR2.out.setF v 2 setB (ndR_set N n v).2)
  clear hb2 la lf
  go_wp2_with fail
  go_ret
  exact ⟨ret_intP (by rcases HE.out with e | e | e <;> rw [e] <;> rfl), fun _ => ⟨_, _, HF.out.1⟩, (KpP.of HB2.out HL.out).trans HF.out.2⟩

/-- Which function takes a token of a part. -/
def pfn (p : Nat) : Nat := [64, 65, 66, 67, 68, 69, 70, 71, 72, 73].getD p 0
theorem part_any (n0 : Nat) (P : Nat → Prop) (hP : ∀ k, k < n0 → P k) (B : Nat) (s : ByteArray) (m : Mc) (hN : m.N.length ≤ 64) (hD : m.D.length ≤ 10000) (ho : -1000000 ≤ m.o ∧ m.o ≤ 1000000) (p : Nat) (hp : p < 10) (hne : 6 ≤ p → m.N ≠ []) (l : List UInt8) (hl : l.length ≤ 3000) (w : World) (H : PsM w P B s m) (T : Tb n0 w) :
    Calls Tryz.prog (pfn p) #[.pointer (some ⟨B, 0, none⟩), .string ⟨l.toArray⟩] w (TakeE P B s (partM p l m) w) :=
  match p, hp, hne with
  | 0, _, _ => nothing_any P B s m l w
  | 1, _, _ => observed_any n0 P hP B s m hN hD l hl w H T
  | 2, _, _ => contract_any n0 P hP B s m hN hD l w H T
  | 3, _, _ => opening_any P B s m ho l w H
  | 4, _, _ => comma_any P B s m l w H
  | 5, _, _ => closing_any P B s m ho l w H
  | 6, _, h => name_any n0 P B s m hN (h (by omega)) l w H T
  | 7, _, h => key_any n0 P B s m hN (h (by omega)) l hl w H T
  | 8, _, h => day_any n0 P B s m hN (h (by omega)) l hl w H T
  | 9, _, h => until_any n0 P B s m hN (h (by omega)) l hl w H T
  | p + 10, h, _ => absurd h (by omega)

end Go.Proofs.YtmaiecbhloagoaaGreatDoor
