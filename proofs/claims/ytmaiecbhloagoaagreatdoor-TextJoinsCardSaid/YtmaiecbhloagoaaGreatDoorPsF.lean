/-
  Package text: last, only, nothing, opening, comma, closing, counts, dayOf, name, key, day, until: what they answer.
-/
import Derived.Test.YtmaiecbhloagoaaGreatDoorPsE
import Derived.Test.YtmaiecbhloagoaaGreatDoorCshT
namespace Go.Proofs.YtmaiecbhloagoaaGreatDoor
open Go.RowKit Go.Lib
set_option linter.unusedVariables false
set_option linter.unusedSimpArgs false

set_option maxHeartbeats 1000000 in
set_option maxRecDepth 100000 in
theorem last_any (P : Nat → Prop) (B : Nat) (s : ByteArray) (N : List Nd) (n : Nd) (hN : N.length ≤ 100000) (o : Int) (D : List Nat) (vn vd : Value) (w : World) (h : PsR w P B s vn vd ⟨N ++ [n], o, D⟩) :
    ∃ g cap, vn = .slice (some ⟨g, 0, none⟩) (N.length + 1) cap ∧ Calls Tryz.prog 99 #[.pointer (some ⟨B, 0, none⟩)] w fun e w' => e = .returned (.pointer (some ⟨g, N.length * 5, none⟩)) ∧ Below w.heap.size w w' := by
  have hn := h.hn
  have c1 := h.c1
  rcases hn.2 with ⟨_, e⟩ | ⟨g, cap, cur, hv, _, hc, h1, h2, h3, h4⟩
  · exact absurd e (by simp)
  have hl : (N ++ [n]).length = N.length + 1 := by simp
  dsimp only at hv h1
  rw [hl] at hv h1
  refine ⟨g, cap, hv, ?_⟩
  subst hv
  unfold maxLen at h2
  have i0 : (0 : Int) ≤ (N.length : Int) := by omega
  have i1 : (N.length : Int) < (N.length : Int) + 1 := by omega
  have i2 : ((N.length : Int) + 1 - 1) = (N.length : Int) := by omega
  have i3 : (N.length : Int) + 1 ≤ (cap : Int) := by omega
  clear h hn hc h3 h4 h1
  go_enter Tryz.func99, Tryz.ntmps99
  go_wp2_with fail
  go_region
  all_goals go_wp2_with fail
  all_goals go_ret
  all_goals exact ⟨by simp [Addr.add], by first | exact Below.refl _ _ | exact below_drewT _ _⟩

theorem only_any (c : UInt8) (l : List UInt8) (w : World) : Calls Tryz.prog 97 #[.string ⟨#[c]⟩, .string ⟨l.toArray⟩] w fun e w' => e = .returned (.int .i64 (onlyM c l)) ∧ w = w' := by
  by_cases h : l = [c]
  · have e : onlyM c l = 0 := by unfold onlyM; rw [if_pos h]
    rw [e]
    subst h
    go_enter Tryz.func97, Tryz.ntmps97
    go_wp2_with fail
    go_ret
    exact ⟨rfl, rfl⟩
  · have e : onlyM c l = 13 := by unfold onlyM; rw [if_neg h]
    rw [e]
    have h1 : (l == [c]) = false := by simpa using h
    have h2 : ¬ l = [c] := h
    clear h
    go_enter Tryz.func97, Tryz.ntmps97
    go_wp2_with fail
    go_ret
    exact ⟨rfl, rfl⟩

theorem nothing_any (P : Nat → Prop) (B : Nat) (s : ByteArray) (m : Mc) (l : List UInt8) (w : World) : Calls Tryz.prog 64 #[.pointer (some ⟨B, 0, none⟩), .string ⟨l.toArray⟩] w (TakeE P B s (13, m) w) := by
  go_enter Tryz.func64, Tryz.ntmps64
  go_wp2_with fail
  go_ret
  exact ⟨rfl, fun h => (by cases h), KpP.refl _ _⟩
theorem comma_any (P : Nat → Prop) (B : Nat) (s : ByteArray) (m : Mc) (l : List UInt8) (w : World) (h : PsM w P B s m) : Calls Tryz.prog 68 #[.pointer (some ⟨B, 0, none⟩), .string ⟨l.toArray⟩] w (TakeE P B s (partM 4 l m) w) := by
  show Calls _ _ _ _ (TakeE P B s (onlyM 44 l, m) w)
  have HO := Lib.hid (only_any 44 l w)
  have H := Lib.hid h
  clear h
  generalize onlyM 44 l = r at *
  go_enter Tryz.func68, Tryz.ntmps68
  go_wp2_with fail
  refine HO.out.mono ?_
  rintro e w1 ⟨rfl, rfl⟩
  go_wp2_with fail
  go_ret
  exact ⟨rfl, fun _ => H.out, KpP.refl _ _⟩
set_option maxHeartbeats 1000000 in
theorem opening_any (P : Nat → Prop) (B : Nat) (s : ByteArray) (m : Mc) (ho : -1000000 ≤ m.o ∧ m.o ≤ 1000000) (l : List UInt8) (w : World) (h : PsM w P B s m) : Calls Tryz.prog 67 #[.pointer (some ⟨B, 0, none⟩), .string ⟨l.toArray⟩] w (TakeE P B s (partM 3 l m) w) := by
  show Calls _ _ _ _ (TakeE P B s (onlyM 40 l, ⟨m.N, m.o + 1, m.D⟩) w)
  obtain ⟨vn, vd, h⟩ := h
  have HO := Lib.hid (fun w => only_any 40 l w)
  have HS := Lib.hid (h.setO (m.o + 1))
  have HK := Lib.hid (KpP.set w ⟨B, 2, none⟩ (.int .i64 (m.o + 1)) h.lt h.nb)
  have c2 := h.c2
  have f2 := h.fr 2
  clear h
  generalize onlyM 40 l = r at *
  obtain ⟨N, o, D⟩ := m
  dsimp only at *
  obtain ⟨o1, o2⟩ := ho
  go_enter Tryz.func67, Tryz.ntmps67
  go_wp2_with fail
  refine (HO.out _).mono ?_
  rintro e w1 ⟨rfl, rfl⟩
  go_wp2_with fail
  go_ret
  exact ⟨rfl, fun _ => ⟨_, _, HS.out⟩, HK.out⟩
set_option maxHeartbeats 1000000 in
theorem closing_any (P : Nat → Prop) (B : Nat) (s : ByteArray) (m : Mc) (ho : -1000000 ≤ m.o ∧ m.o ≤ 1000000) (l : List UInt8) (w : World) (h : PsM w P B s m) : Calls Tryz.prog 69 #[.pointer (some ⟨B, 0, none⟩), .string ⟨l.toArray⟩] w (TakeE P B s (partM 5 l m) w) := by
  show Calls _ _ _ _ (TakeE P B s (onlyM 41 l, ⟨m.N, m.o - 1, m.D⟩) w)
  obtain ⟨vn, vd, h⟩ := h
  have HO := Lib.hid (fun w => only_any 41 l w)
  have HS := Lib.hid (h.setO (m.o - 1))
  have HK := Lib.hid (KpP.set w ⟨B, 2, none⟩ (.int .i64 (m.o - 1)) h.lt h.nb)
  have c2 := h.c2
  have f2 := h.fr 2
  clear h
  generalize onlyM 41 l = r at *
  obtain ⟨N, o, D⟩ := m
  dsimp only at *
  obtain ⟨o1, o2⟩ := ho
  go_enter Tryz.func69, Tryz.ntmps69
  go_wp2_with fail
  refine (HO.out _).mono ?_
  rintro e w1 ⟨rfl, rfl⟩
  go_wp2_with fail
  go_ret
  exact ⟨rfl, fun _ => ⟨_, _, HS.out⟩, HK.out⟩

/-- The text's counts: decimal digits, no 0 ahead of others. -/
theorem tcounts_any (l : List UInt8) (hl : l.length ≤ 3000) (w : World) : Calls Tryz.prog 100 #[.string ⟨l.toArray⟩] w fun e w' => e = .returned (.bool (cntK l)) ∧ Below w.heap.size w w' := by
  have HT := Lib.hid (fun w => trimC l digs10 w hl (by decide) (by decide))
  have HP := Lib.hid (Tryz.strings_HasPrefix ⟨l.toArray⟩ ⟨#[48]⟩ w)
  rw [show (⟨l.toArray⟩ : ByteArray).data.toList = l by simp, show (⟨#[48]⟩ : ByteArray).data.toList = [48] from rfl] at HP
  have hk : cntK l = (l == [48] || (!(hasPrefix l [48]) && l.all isDg)) := rfl
  by_cases h0 : l = [48]
  · rw [show cntK l = true by rw [hk, h0]; rfl]
    subst h0
    clear hk HP
    go_enter Tryz.func100, Tryz.ntmps100
    go_wp2_with fail
    go_ret
    exact ⟨rfl, Below.refl _ _⟩
  · have h1 : (l == [48]) = false := by simpa using h0
    rw [h1] at hk
    generalize hasPrefix l [48] = p at *
    cases p with
    | true =>
      rw [show cntK l = false by rw [hk]; rfl]
      clear hk
      go_enter Tryz.func100, Tryz.ntmps100
      go_wp2_with fail
      refine HP.out.mono ?_
      rintro e w1 ⟨rfl, rfl⟩
      go_wp2_with fail
      go_ret
      exact ⟨rfl, Below.refl _ _⟩
    | false =>
      by_cases h : Lib.trimS l digs10 = []
      · rw [show cntK l = true by rw [hk, all_digs.1 h]; rfl]
        rw [h] at HT
        clear hk h
        go_enter Tryz.func100, Tryz.ntmps100
        go_wp2_with fail
        refine HP.out.mono ?_
        rintro e w1 ⟨rfl, rfl⟩
        go_wp2_with fail
        refine (HT.out _).mono ?_
        rintro e w1 ⟨rfl, hb⟩
        go_wp2_with fail
        go_ret
        exact ⟨rfl, hb⟩
      · have hf : l.all isDg = false := by
          cases e : l.all isDg with
          | false => rfl
          | true => exact absurd (all_digs.2 e) h
        rw [show cntK l = false by rw [hk, hf]; rfl]
        obtain ⟨T, hT⟩ : ∃ T, T = Lib.trimS l digs10 := ⟨_, rfl⟩
        rw [← hT] at HT h
        have h2 : T.isEmpty = false := by simpa using h
        have h3 : (T == []) = false := by simpa using h
        clear hT hf hk
        go_enter Tryz.func100, Tryz.ntmps100
        go_wp2_with fail
        refine HP.out.mono ?_
        rintro e w1 ⟨rfl, rfl⟩
        go_wp2_with fail
        refine (HT.out _).mono ?_
        rintro e w1 ⟨rfl, hb⟩
        go_wp2_with fail
        go_ret
        exact ⟨rfl, hb⟩

theorem tdayof_any (l : List UInt8) (hl : l.length ≤ 3000) (w : World) (L : LenW w) : Calls Tryz.prog 102 #[.string ⟨l.toArray⟩] w fun e w' => e = .returned (.tuple #[.int .i64 (dayW l).1, .int .i64 (dayW l).2]) ∧ Below w.heap.size w w' := by
  have HP := Lib.hid (parse_any ⟨l.toArray⟩ (by show l.toArray.size ≤ _; simp; omega) w L)
  rw [show (⟨l.toArray⟩ : ByteArray).data.toList = l by simp] at HP
  have hd : dayW l = if (parN l).2 = 18 then (0, 10) else parN l := rfl
  generalize parN l = r at *
  obtain ⟨x, y⟩ := r
  dsimp only at *
  by_cases h : y = 18
  · rw [if_pos h] at hd
    rw [hd]
    subst h
    clear L hd
    go_enter Tryz.func102, Tryz.ntmps102
    go_wp2_with fail
    refine HP.out.mono ?_
    rintro e w1 ⟨rfl, hb⟩
    go_wp2_with fail
    go_ret2
    exact ⟨rfl, hb⟩
  · rw [if_neg h] at hd
    rw [hd]
    have h1 : (y == 18) = false := by simpa using h
    clear L hd
    go_enter Tryz.func102, Tryz.ntmps102
    go_wp2_with fail
    refine HP.out.mono ?_
    rintro e w1 ⟨rfl, hb⟩
    go_wp2_with fail
    go_ret2
    exact ⟨rfl, hb⟩

/-- The last node's field is stored. -/
theorem ndR_set (N : List Nd) (n : Nd) (v : Int) : (ndR (N ++ [n])).set (N.length * 5 + 1) (.int .i64 v) = ndR (N ++ [setA v n]) ∧ (ndR (N ++ [n])).set (N.length * 5 + 2) (.int .i64 v) = ndR (N ++ [setB v n]) := by
  have h1 : ∀ k : Nd, ndR [k] = ndL k := fun k => by simp [ndR]
  have hl := ndR_len N
  constructor
  · rw [ndR_app, ndR_app, h1, h1, ← hl, List.set_append_right _ _ (by omega), Nat.add_sub_cancel_left]; rfl
  · rw [ndR_app, ndR_app, h1, h1, ← hl, List.set_append_right _ _ (by omega), Nat.add_sub_cancel_left]; rfl
theorem PsR.setF {w : World} {P : Nat → Prop} {B : Nat} {s : ByteArray} {N : List Nd} {n : Nd} {o : Int} {D : List Nat} {g cap : Nat} {vd : Value} (h : PsR w P B s (.slice (some ⟨g, 0, none⟩) (N.length + 1) cap) vd ⟨N ++ [n], o, D⟩) (v : Int) (i : Nat) (f : Int → Nd → Nd) (hf : (ndR (N ++ [n])).set (N.length * 5 + i) (.int .i64 v) = ndR (N ++ [f v n])) :
    PsR (w.setCell ⟨g, N.length * 5 + i, none⟩ (.int .i64 v)) P B s (.slice (some ⟨g, 0, none⟩) (N.length + 1) cap) vd ⟨updL (f v) (N ++ [n]), o, D⟩ ∧ KpP P w (w.setCell ⟨g, N.length * 5 + i, none⟩ (.int .i64 v)) := by
  have hb := h.bn g rfl
  have hg := set_grown w ⟨g, N.length * 5 + i, none⟩ (.int .i64 v)
  have hst := World.ownsRow.stored (by have := h.hn; unfold OwnN at this; rw [show (N ++ [n]).length = N.length + 1 by simp] at this; exact this) (N.length * 5 + i) (.int .i64 v)
  have hB := hg.block B h.blt (fun e => by injection e with e; exact hb.1 e.symm)
  have hc : ∀ i, (w.setCell ⟨g, N.length * 5 + i, none⟩ (.int .i64 v)).cell? ⟨B, i, none⟩ = w.cell? ⟨B, i, none⟩ := fun j => cell_far (.inl hb.1)
  have hcc : ∀ j, (w.setCell ⟨g, N.length * 5 + i, none⟩ (.int .i64 v)).cell? ⟨B, j, none⟩ = w.cell? ⟨B, j, none⟩ := fun j => cell_far (.inl hb.1)
  refine ⟨⟨(hcc 0).trans h.c0, (hcc 1).trans h.c1, (hcc 2).trans h.c2, (hcc 3).trans h.c3, fun j => by rw [World.frozen?_setCell]; exact h.fr j, ?_, World.ownsRow.kept h.hd hg (h.ap.symm.ne), h.ap, h.bn, h.bd, h.nb, fun k hk => Nat.lt_of_lt_of_le (h.lt k hk) hg.size⟩, KpP.set _ _ _ h.lt hb.2⟩
  dsimp only
  rw [updL_app]
  unfold OwnN
  rw [← hf, show (N ++ [f v n]).length = N.length + 1 by simp]
  exact hst.1
theorem PsR.lastC {w : World} {P : Nat → Prop} {B : Nat} {s : ByteArray} {N : List Nd} {n : Nd} {o : Int} {D : List Nat} {g cap : Nat} {vd : Value} (h : PsR w P B s (.slice (some ⟨g, 0, none⟩) (N.length + 1) cap) vd ⟨N ++ [n], o, D⟩) :
    w.cell? ⟨g, N.length * 5 + 1, none⟩ = some (.int .i64 n.a) ∧ w.cell? ⟨g, N.length * 5 + 2, none⟩ = some (.int .i64 n.b) ∧ (∀ i, w.frozen? ⟨g, i, none⟩ = false) := by
  have hn := h.hn
  unfold OwnN at hn
  have h1 : ndR [n] = ndL n := by simp [ndR]
  have hl := ndR_len N
  dsimp only at hn
  rw [show (N ++ [n]).length = N.length + 1 by simp, ndR_app, h1] at hn
  refine ⟨?_, ?_, fun i => hn.frozenAt i⟩
  · rw [hn.cellAt _ (by omega), List.getElem?_append_right (by omega), hl, Nat.add_sub_cancel_left]; rfl
  · rw [hn.cellAt _ (by omega), List.getElem?_append_right (by omega), hl, Nat.add_sub_cancel_left]; rfl

end Go.Proofs.YtmaiecbhloagoaaGreatDoor
