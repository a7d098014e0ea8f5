/-
  chattellaw06.TextAhead: its walk.
-/
import Derived.Test.YtdmdgoeacafpiaaGreatDoorPr
import Derived.Test.YtdmdgoeacafpiaaGreatDoorPq
import Derived.Test.YtdmdgoeacafpiaaGreatDoorPsR
import Derived.Test.YtdmdgoeacafpiaaGreatDoorFrame
namespace Go.Proofs.YtdmdgoeacafpiaaGreatDoor
open Go.RowKit Go.Lib
set_option linter.unusedVariables false
set_option linter.unusedSimpArgs false

set_option maxRecDepth 100000 in
set_option maxHeartbeats 4000000 in
theorem ahead_long (s more : ByteArray) (w : World) (T : TabW w) (h : 600 < s.size ∨ ¬ 600 < s.size ∧ 600 < more.size) :
    Calls Tryz.prog 5 #[.string s, .string more] w fun e w' => e = .returned (.bool true) ∧ Below w.heap.size w w' := by
  have HAw := Lib.hid (fun (w' : World) (hb : Below w.heap.size w w') => awake6_any w' (T.keep hb))
  rcases h with h | ⟨h1, h2⟩
  · have i6 : (600 : Int) < (s.size : Int) := by omega
    clear h T
    go_enter Tryz.func5, Tryz.ntmps5
    go_wp2_with fail
    refine (HAw.out _ (Below.refl _ _)).mono ?_
    rintro e w1 ⟨rfl, hb1⟩
    go_wp2_with fail
    go_ret
    exact ⟨rfl, hb1⟩
  · have i6 : ¬ (600 : Int) < (s.size : Int) := by omega
    have i7 : (600 : Int) < (more.size : Int) := by omega
    clear h1 h2 T
    go_enter Tryz.func5, Tryz.ntmps5
    go_wp2_with fail
    refine (HAw.out _ (Below.refl _ _)).mono ?_
    rintro e w1 ⟨rfl, hb1⟩
    go_wp2_with fail
    go_ret
    exact ⟨rfl, hb1⟩
set_option maxRecDepth 100000 in
set_option maxHeartbeats 4000000 in
/-- No token is wrong, or there is none any more. -/
theorem ahead_right (s more : ByteArray) (w : World) (T : TabW w) (h1 : s.size ≤ 600) (h2 : more.size ≤ 600) (h : (parT s.data.toList).2.2 = 0 ∨ (parT s.data.toList).2.2 ≠ 0 ∧ ¬ (parT s.data.toList).2.1 < s.size) :
    Calls Tryz.prog 5 #[.string s, .string more] w fun e w' => e = .returned (.bool true) ∧ Below w.heap.size w w' := by
  have HAw := Lib.hid (fun (w' : World) (hb : Below w.heap.size w w') => awake6_any w' (T.keep hb))
  have HPs := Lib.hid (tparse_any s (by omega) w T)
  have i6 : ¬ (600 : Int) < (s.size : Int) := by omega
  have i7 : ¬ (600 : Int) < (more.size : Int) := by omega
  have hsz : s.size = s.data.toList.length := size_len s
  rcases h with h | ⟨he, ha⟩
  · obtain ⟨_, _, c3⟩ := par_chk (l := s.data.toList) (t := (parT s.data.toList).1) (a := (parT s.data.toList).2.1) (by rw [← h])
    rw [h, c3] at HPs
    have i8 : (0 : Int) ≤ (s.size : Int) := by omega
    clear h c3 T h1 h2 hsz
    go_enter Tryz.func5, Tryz.ntmps5
    go_wp2_with fail
    refine HPs.out.mono ?_
    rintro e w1 ⟨v, rfl, hv, hb1⟩
    obtain ⟨va, vc, rfl⟩ := hv.slice
    have HB1 := Lib.hid hb1
    clear hb1 hv
    go_wp2_with fail
    refine (HAw.out _ HB1.out).mono ?_
    rintro e w2 ⟨rfl, hb2⟩
    have HB2 := Lib.hid (onB HB1.out hb2)
    clear hb2
    go_wp2_with fail
    go_ret
    exact ⟨rfl, HB2.out⟩
  · obtain ⟨c1, c2, c3⟩ := par_bad he
    have hat : (parT s.data.toList).2.1 = s.size := by omega
    have e0 : ¬ (((parT s.data.toList).2.2 : Nat) : Int) = 0 := by omega
    have e1 : ((((parT s.data.toList).2.2 : Nat) : Int) == 0) = false := beq_false_of_ne e0
    rw [c1, hat] at HPs
    generalize (parT s.data.toList).2.2 = E at *
    have i8 : (0 : Int) ≤ (s.size : Int) := by omega
    have i9 : (s.size : Int) ≤ (s.size : Int) := Int.le_refl _
    clear c1 c2 c3 hat he ha T h1 h2 hsz
    go_enter Tryz.func5, Tryz.ntmps5
    go_wp2_with fail
    refine HPs.out.mono ?_
    rintro e w1 ⟨v, rfl, hv, hb1⟩
    obtain ⟨va, vc, rfl⟩ := hv.slice
    have HB1 := Lib.hid hb1
    clear hb1 hv
    go_wp2_with fail
    refine (HAw.out _ HB1.out).mono ?_
    rintro e w2 ⟨rfl, hb2⟩
    have HB2 := Lib.hid (onB HB1.out hb2)
    clear hb2
    go_wp2_with fail
    go_ret
    exact ⟨rfl, HB2.out⟩
theorem cut_more (s more : ByteArray) (n : Nat) (hn : n ≤ s.size) : (s.extract 0 n ++ ⟨#[32]⟩ ++ more).data.toList = s.data.toList.take n ++ 32 :: more.data.toList := by
  simp [ByteArray.data_extract, ByteArray.data_append, Array.toList_extract, List.extract_eq_take_drop]
set_option maxRecDepth 100000 in
set_option maxHeartbeats 4000000 in
/-- A token is wrong. -/
theorem ahead_wrong (s more : ByteArray) (w : World) (T : TabW w) (h1 : s.size ≤ 600) (h2 : more.size ≤ 600) (he : (parT s.data.toList).2.2 ≠ 0) (ha : (parT s.data.toList).2.1 < s.size) :
    Calls Tryz.prog 5 #[.string s, .string more] w fun e w' => e = .returned (.bool true) ∧ Below w.heap.size w w' := by
  have HAw := Lib.hid (fun (w' : World) (hb : Below w.heap.size w w') => awake6_any w' (T.keep hb))
  have HPs := Lib.hid (tparse_any s (by omega) w T)
  have i6 : ¬ (600 : Int) < (s.size : Int) := by omega
  have i7 : ¬ (600 : Int) < (more.size : Int) := by omega
  have hsz : s.size = s.data.toList.length := size_len s
  obtain ⟨c1, c2, c3⟩ := par_bad he
  obtain ⟨k, t, hk, ht, hp⟩ := par_ahead (M := more.data.toList) (l := s.data.toList) (at_ := (parT s.data.toList).2.1) (e := (parT s.data.toList).2.2) (by rw [← c1]) he (by omega)
  have HTk := Lib.hid (fun w' : World => rtoks_any s (by omega) w')
  have hmem : t ∈ toks 0 s.data.toList := List.mem_of_getElem? hk
  have hbd := (tok_ne s.data.toList 0 t hmem).2.2.2
  have hkl : k < (toks 0 s.data.toList).length := (List.getElem?_eq_some_iff.1 hk).1
  have hkt : (toks 0 s.data.toList).getD k default = t := by rw [List.getD_eq_getElem?_getD, hk]; rfl
  rw [← ht] at hp
  have HPm : Hid (∀ w', Below w.heap.size w w' → Calls Tryz.prog 7 #[.string (s.extract 0 (t.1 + t.2.length) ++ ⟨#[32]⟩ ++ more)] w' fun e w'' => ∃ v, e = .returned (.tuple #[v, .int .i64 (t.1 : Nat), .int .i64 ((parT s.data.toList).2.2 : Nat)]) ∧ OwnN w'' w'.heap.size v (parT (s.data.toList.take (t.1 + t.2.length) ++ 32 :: more.data.toList)).1 ∧ Below w'.heap.size w' w'') := Lib.hid (fun w' hb => by
    have e0 := cut_more s more (t.1 + t.2.length) (by omega)
    have := tparse_any (s.extract 0 (t.1 + t.2.length) ++ ⟨#[32]⟩ ++ more) (by
      rw [size_len, e0, List.length_append, List.length_cons, List.length_take]
      have := size_len more
      omega) w' (T.keep hb)
    rw [e0, hp] at this
    exact this)
  rw [c1, ← ht] at HPs
  have e0 : ¬ (((parT s.data.toList).2.2 : Nat) : Int) = 0 := by omega
  have e1 : ((((parT s.data.toList).2.2 : Nat) : Int) == 0) = false := beq_false_of_ne e0
  generalize (parT s.data.toList).2.2 = E at *
  generalize (parT (s.data.toList.take (t.1 + t.2.length) ++ 32 :: more.data.toList)).1 = MN at *
  have HUp := Lib.hid (fun i j hi hj => up_one (toks_up s.data.toList 0) (i := i) (j := j) hi hj)
  obtain ⟨K, hK⟩ : ∃ K, K = toks 0 s.data.toList := ⟨_, rfl⟩
  rw [← hK] at HTk HUp hkl hkt
  rw [← ht] at ha
  have HKl : Hid (K.length ≤ 600) := Lib.hid (by rw [hK]; have := toks_len s.data.toList 0; omega)
  have i8 : ¬ (s.size : Int) ≤ (t.1 : Int) := by omega
  have i9 : (0 : Int) ≤ (t.1 : Int) := by omega
  have hend : t.1 + t.2.length ≤ 600 := by omega
  have j1 : (0 : Int) ≤ (t.1 : Int) + (t.2.length : Int) := by omega
  have j2 : (t.1 : Int) + (t.2.length : Int) ≤ (s.size : Int) := by omega
  have j3 : ¬ (t.1 : Int) + (t.2.length : Int) < 0 := by omega
  have HKt := Lib.hid hkt
  have HKk := Lib.hid hkl
  have hk6 : k < 600 := by have := HKl.out; omega
  clear hK hk hmem hbd hp c1 c2 c3 ht he ha hsz hkl hkt h1 T
  obtain ⟨p, x⟩ := t
  dsimp only at *
  go_enter Tryz.func5, Tryz.ntmps5
  go_wp2_with fail
  refine HPs.out.mono ?_
  rintro e w1 ⟨v, rfl, hv, hb1⟩
  obtain ⟨va, vc, rfl⟩ := hv.slice
  have HB1 := Lib.hid hb1
  clear hb1 hv HPs
  go_wp2_with fail
  refine (HTk.out _).mono ?_
  rintro e w2 ⟨v, rfl, ho, hb2⟩
  obtain ⟨a1, q1, rfl⟩ := ho.slice
  have HO := Lib.hid ho
  have HB2 := Lib.hid (onB HB1.out hb2)
  clear hb2 ho HTk
  go_wp2_with fail
  go_loopw [9, 10] (fun ve vi wx => ∃ i : Nat, i ≤ K.length ∧ vi = .int .i64 i ∧ ve = .int .i64 (if k < i then (p : Int) + (x.length : Int) else -1) ∧ w2 = wx) (fun _ vi _ => K.length - (RowKit.intOf vi).toNat)
  case atStart => exact ⟨0, Nat.zero_le _, rfl, by rw [if_neg (Nat.not_lt_zero _)], rfl⟩
  case round =>
    obtain ⟨i, hi, rfl, rfl, hw⟩ := hrel
    subst hw
    by_cases hlt : i < K.length
    · have p0 : (0 : Int) ≤ (i : Int) := by omega
      have p1 : (i : Int) < (K.length : Int) := by omega
      have hi6 : i ≤ 600 := by have := HKl.out; omega
      obtain ⟨g, cap', hv, hcp, hcm, hgb, k0, k1⟩ := HO.out.get hlt
      injection hv with hv1 hv2 hv3
      subst hv1 hv3
      have hcp' : (K.length : Int) ≤ (q1 : Int) := by omega
      have HI := Lib.hid hi6
      have HLt := Lib.hid hlt
      by_cases hik : i = k
      · have e3 : (if k < i + 1 then (p : Int) + (x.length : Int) else -1) = (p : Int) + (x.length : Int) := if_pos (by omega)
        have E3 := Lib.hid e3
        clear e3
        subst hik
        rw [HKt.out] at k0 k1
        dsimp only at k0 k1
        generalize (if i < i then (p : Int) + (x.length : Int) else -1) = en at *
        clear hlt
        go_wp2_with fail
        go_roundw
        case rel => exact ⟨i + 1, HLt.out, by go_num, by rw [E3.out], trivial⟩
        case measure => have := HLt.out; simp [RowKit.intOf]; omega
      · have e3 : (if k < i + 1 then (p : Int) + (x.length : Int) else -1) = (if k < i then (p : Int) + (x.length : Int) else -1) := by
          by_cases c : k < i
          · rw [if_pos c, if_pos (by omega)]
          · rw [if_neg c, if_neg (by omega)]
        have E3 := Lib.hid e3
        have hne : ¬ (K.getD i default).1 = p := fun e => hik (HUp.out i k hlt HKk.out (by rw [HKt.out]; exact e))
        have hne1 : ¬ (((K.getD i default).1 : Nat) : Int) = (p : Int) := by omega
        clear e3 hne
        generalize (K.getD i default).1 = y at *
        generalize (if k < i then (p : Int) + (x.length : Int) else -1) = en at *
        clear hlt
        go_wp2_with fail
        go_roundw
        case rel => exact ⟨i + 1, HLt.out, by go_num, by rw [E3.out], trivial⟩
        case measure => have := HLt.out; simp [RowKit.intOf]; omega
    · have hie : i = K.length := by omega
      subst hie
      rw [if_pos HKk.out]
      have p1 : ¬ (K.length : Int) < (K.length : Int) := by omega
      have t1 : ((p : Int) + (x.length : Int)).toNat = p + x.length := by omega
      clear hlt hi
      go_wp2_with fail
      refine (HPm.out _ HB2.out).mono ?_
      rintro e w3 ⟨v, rfl, hv, hb3⟩
      obtain ⟨va, vc, rfl⟩ := hv.slice
      have HB3 := Lib.hid (onB HB2.out hb3)
      clear hb3 hv
      go_wp2_with fail
      refine (HAw.out _ HB3.out).mono ?_
      rintro e w4 ⟨rfl, hb4⟩
      have HB4 := Lib.hid (onB HB3.out hb4)
      clear hb4
      go_wp2_with fail
      go_ret
      exact ⟨rfl, HB4.out⟩
theorem ahead_walk (s more : ByteArray) (w : World) (T : TabW w) :
    Calls Tryz.prog 5 #[.string s, .string more] w fun e w' => e = .returned (.bool true) ∧ Below w.heap.size w w' := by
  by_cases h1 : 600 < s.size
  · exact ahead_long s more w T (.inl h1)
  · by_cases h2 : 600 < more.size
    · exact ahead_long s more w T (.inr ⟨h1, h2⟩)
    · by_cases he : (parT s.data.toList).2.2 = 0
      · exact ahead_right s more w T (by omega) (by omega) (.inl he)
      · by_cases ha : (parT s.data.toList).2.1 < s.size
        · exact ahead_wrong s more w T (by omega) (by omega) he ha
        · exact ahead_right s more w T (by omega) (by omega) (.inr ⟨he, ha⟩)

end Go.Proofs.YtdmdgoeacafpiaaGreatDoor
