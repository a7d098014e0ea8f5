/-
  Package text: the reader: among, skip, end: what they answer.
-/
import Derived.Test.YtmaiecbhloagoaaGreatDoorPsA
import Derived.Test.YtmaiecbhloagoaaGreatDoorTrm
import Derived.Test.YtmaiecbhloagoaaGreatDoorShelf
namespace Go.Proofs.YtmaiecbhloagoaaGreatDoor
open Go.RowKit Go.Lib
set_option linter.unusedVariables false
set_option linter.unusedSimpArgs false

theorem idx_ge (l : List UInt8) (c : UInt8) : decide (0 ≤ indexByte l c) = l.contains c := by
  induction l with
  | nil => rfl
  | cons b l ih =>
    unfold indexByte
    by_cases h : (b == c) = true
    · rw [if_pos h]
      have : b = c := by simpa using h
      subst this
      simp
    · have h' : (b == c) = false := by simpa using h
      rw [if_neg h]
      have hne : ¬ b = c := by simpa using h'
      by_cases h2 : (indexByte l c == -1) = true
      · rw [if_pos h2]
        have e : indexByte l c = -1 := by simpa using h2
        rw [e] at ih
        have : l.contains c = false := by rw [← ih]; decide
        rw [List.contains_cons, this]
        simp; exact fun e => hne e.symm
      · rw [if_neg h2]
        have hge : 0 ≤ indexByte l c := by
          clear ih h h' hne
          have key : ∀ l : List UInt8, indexByte l c = -1 ∨ 0 ≤ indexByte l c := by
            intro l
            induction l with
            | nil => exact .inl rfl
            | cons b l ih =>
              unfold indexByte
              split
              · exact .inr (by omega)
              · split
                · exact .inl rfl
                · rename_i h3
                  rcases ih with e | e
                  · exact absurd (by simpa using e) h3
                  · exact .inr (by omega)
          rcases key l with e | e
          · exact absurd (by simpa using e) h2
          · exact e
        have e1 : l.contains c = true := by rw [← ih]; simpa using hge
        rw [List.contains_cons, e1]
        simp; omega
theorem byte_back (c : UInt8) : ((c.toNat : Int)).toNat.toUInt8 = c := by
  rw [Int.toNat_natCast]
  exact UInt8.ofNat_toNat
theorem ret_boolP {a b : Bool} (h : a = b) : Ending.returned (.bool a) = .returned (.bool b) := by rw [h]
/-- among: is a byte one of a set? -/
theorem among_any (set : List UInt8) (c : UInt8) (w : World) : Calls Tryz.prog 103 #[.string ⟨set.toArray⟩, .int .u8 c.toNat] w fun e w' => e = .returned (.bool (set.contains c)) ∧ w = w' := by
  have HI := Lib.hid (Tryz.strings_IndexByte ⟨set.toArray⟩ c.toNat w)
  rw [byte_back] at HI
  have HG : Hid (decide (0 ≤ indexByte set c) = set.contains c) := Lib.hid (idx_ge set c)
  rw [show (⟨set.toArray⟩ : ByteArray).data.toList = set by simp] at HI
  generalize set.contains c = r at *
  generalize indexByte set c = i at *
  by_cases h : 0 ≤ i
  · have HR : Hid (true = r) := Lib.hid (by rw [← HG.out]; simp [h])
    go_enter Tryz.func103, Tryz.ntmps103
    go_wp2_with fail
    refine HI.out.mono ?_
    rintro e w1 ⟨rfl, rfl⟩
    go_wp2_with fail
    go_ret
    exact ⟨ret_boolP HR.out, rfl⟩
  · have HR : Hid (false = r) := Lib.hid (by rw [← HG.out]; simp [h])
    go_enter Tryz.func103, Tryz.ntmps103
    go_wp2_with fail
    refine HI.out.mono ?_
    rintro e w1 ⟨rfl, rfl⟩
    go_wp2_with fail
    go_ret
    exact ⟨ret_boolP (by rw [← HR.out]; simp; omega), rfl⟩
theorem among_gaps (c : UInt8) (w : World) : Calls Tryz.prog 103 #[.string ⟨#[32, 10]⟩, .int .u8 c.toNat] w fun e w' => e = .returned (.bool (gapB c)) ∧ w = w' := by
  have h := among_any [32, 10] c w
  rwa [show ([32, 10] : List UInt8).contains c = gapB c by unfold gapB; simp [List.contains, List.elem, Bool.or_comm]; grind] at h
theorem among_marks (c : UInt8) (w : World) : Calls Tryz.prog 103 #[.string ⟨#[40, 41, 44]⟩, .int .u8 c.toNat] w fun e w' => e = .returned (.bool (mkB c)) ∧ w = w' := by
  have h := among_any [40, 41, 44] c w
  rwa [show ([40, 41, 44] : List UInt8).contains c = mkB c by unfold mkB; simp [List.contains, List.elem]; grind] at h
theorem among_both (c : UInt8) (w : World) : Calls Tryz.prog 103 #[.string ⟨#[40, 41, 44, 32, 10]⟩, .int .u8 c.toNat] w fun e w' => e = .returned (.bool (!wdB c)) ∧ w = w' := by
  have h := among_any [40, 41, 44, 32, 10] c w
  rwa [show ([40, 41, 44, 32, 10] : List UInt8).contains c = !wdB c by unfold wdB gapB mkB; simp [List.contains, List.elem]; grind] at h

theorem drop_byte (s : ByteArray) (p : Nat) (h : p < s.size) : s.data.toList.drop p = s[p] :: s.data.toList.drop (p + 1) := by
  have h' : p < s.data.toList.length := by simpa using h
  rw [List.drop_eq_getElem_cons h']; rfl
theorem gl_cons (c : UInt8) (r : List UInt8) : gl (c :: r) = if gapB c = true then gl r + 1 else 0 := by
  unfold gl
  rw [List.takeWhile_cons]
  split <;> rfl
theorem wl_cons (c : UInt8) (r : List UInt8) : wl (c :: r) = if wdB c = true then wl r + 1 else 0 := by
  unfold wl
  rw [List.takeWhile_cons]
  split <;> rfl

set_option maxHeartbeats 1000000 in
set_option maxRecDepth 100000 in
theorem skip_any (s : ByteArray) (hs : s.size ≤ 3000) (b a : Nat) (ha : a ≤ s.size) (w : World) (hc : w.cell? ⟨b, 0, none⟩ = some (.string s)) :
    Calls Tryz.prog 75 #[.pointer (some ⟨b, 0, none⟩), .int .i64 a] w fun e w' => e = .returned (.int .i64 (a + gl (s.data.toList.drop a) : Nat)) ∧ w = w' := by
  obtain ⟨E, hE⟩ : ∃ E, E = a + gl (s.data.toList.drop a) := ⟨_, rfl⟩
  rw [← hE]
  have HE := Lib.hid hE
  clear hE
  go_enter Tryz.func75, Tryz.ntmps75
  go_wp2_with fail
  go_loop [1] (fun va => ∃ p : Nat, p ≤ s.size ∧ va = .int .i64 p ∧ p + gl (s.data.toList.drop p) = E) (fun va => s.size - (RowKit.intOf va).toNat)
  case atStart => exact ⟨a, ha, rfl, HE.out.symm⟩
  case round =>
    obtain ⟨p, hp, rfl, hg⟩ := hrel
    by_cases hlt : p < s.size
    · rw [drop_byte s p hlt, gl_cons] at hg
      have HG := Lib.hid hg
      have HA := Lib.hid (among_gaps s[p] w)
      generalize hgb : gapB s[p] = g at HA HG
      clear hg
      have p0 : (0 : Int) ≤ (p : Int) := by omega
      have p1 : (p : Int) < (s.size : Int) := by omega
      cases g with
      | true =>
        go_wp2_with fail
        refine HA.out.mono ?_
        rintro e w1 ⟨rfl, rfl⟩
        go_wp2_with fail
        go_round
        case rel => exact ⟨p + 1, by omega, by go_num, by have := HG.out; rw [if_pos (by first | rfl | trivial)] at this; omega⟩
        case measure => simp [RowKit.intOf]; omega
      | false =>
        go_wp2_with fail
        refine HA.out.mono ?_
        rintro e w1 ⟨rfl, rfl⟩
        go_wp2_with fail
        go_ret
        have := HG.out
        rw [if_neg (by decide)] at this
        exact ⟨by rw [← this]; rfl, rfl⟩
    · have hpe : p = s.size := by omega
      rw [hpe, List.drop_of_length_le (by simp)] at hg
      have HG := Lib.hid hg
      clear hg
      have p1 : ¬ (p : Int) < (s.size : Int) := by omega
      clear hpe
      go_wp2_with fail
      go_ret
      exact ⟨by rw [← HG.out]; congr 3; simp [gl]; omega, rfl⟩

set_option maxHeartbeats 1000000 in
set_option maxRecDepth 100000 in
theorem end_mark (s : ByteArray) (hs : s.size ≤ 3000) (b a : Nat) (ha : a < s.size) (hm : mkB s[a] = true) (w : World) (hc : w.cell? ⟨b, 0, none⟩ = some (.string s)) :
    Calls Tryz.prog 76 #[.pointer (some ⟨b, 0, none⟩), .int .i64 a] w fun e w' => e = .returned (.int .i64 (a + 1 : Nat)) ∧ w = w' := by
  have HA := Lib.hid (among_marks s[a] w)
  rw [hm] at HA
  clear hm
  have p0 : (0 : Int) ≤ (a : Int) := by omega
  have p1 : (a : Int) < (s.size : Int) := by omega
  go_enter Tryz.func76, Tryz.ntmps76
  go_wp2_with fail
  refine HA.out.mono ?_
  rintro e w1 ⟨rfl, rfl⟩
  go_wp2_with fail
  go_ret
  exact ⟨by first | rfl | (congr 1; go_num), rfl⟩
set_option maxHeartbeats 1000000 in
set_option maxRecDepth 100000 in
theorem end_word (s : ByteArray) (hs : s.size ≤ 3000) (b a : Nat) (ha : a < s.size) (hm : mkB s[a] = false) (w : World) (hc : w.cell? ⟨b, 0, none⟩ = some (.string s)) :
    Calls Tryz.prog 76 #[.pointer (some ⟨b, 0, none⟩), .int .i64 a] w fun e w' => e = .returned (.int .i64 (a + wl (s.data.toList.drop a) : Nat)) ∧ w = w' := by
  obtain ⟨E, hE⟩ : ∃ E, E = a + wl (s.data.toList.drop a) := ⟨_, rfl⟩
  rw [← hE]
  have HE := Lib.hid hE
  have HA := Lib.hid (among_marks s[a] w)
  rw [hm] at HA
  have p0 : (0 : Int) ≤ (a : Int) := by omega
  have p1 : (a : Int) < (s.size : Int) := by omega
  clear hE hm
  go_enter Tryz.func76, Tryz.ntmps76
  go_wp2_with fail
  refine HA.out.mono ?_
  rintro e w1 ⟨rfl, rfl⟩
  go_wp2_with fail
  go_loop [1] (fun va => ∃ p : Nat, p ≤ s.size ∧ va = .int .i64 p ∧ p + wl (s.data.toList.drop p) = E) (fun va => s.size - (RowKit.intOf va).toNat)
  case atStart => exact ⟨a, by omega, rfl, HE.out.symm⟩
  case round =>
    obtain ⟨p, hp, rfl, hg⟩ := hrel
    by_cases hlt : p < s.size
    · rw [drop_byte s p hlt, wl_cons] at hg
      have HG := Lib.hid hg
      have HB := Lib.hid (among_both s[p] w)
      generalize hgb : wdB s[p] = g at HB HG
      clear hg
      have p0 : (0 : Int) ≤ (p : Int) := by omega
      have p1 : (p : Int) < (s.size : Int) := by omega
      cases g with
      | true =>
        rw [show (!true) = false from rfl] at HB
        go_wp2_with fail
        refine HB.out.mono ?_
        rintro e w1 ⟨rfl, rfl⟩
        go_wp2_with fail
        go_round
        case rel => exact ⟨p + 1, by omega, by go_num, by have := HG.out; rw [if_pos (by first | rfl | trivial)] at this; omega⟩
        case measure => simp [RowKit.intOf]; omega
      | false =>
        rw [show (!false) = true from rfl] at HB
        go_wp2_with fail
        refine HB.out.mono ?_
        rintro e w1 ⟨rfl, rfl⟩
        go_wp2_with fail
        go_ret
        have := HG.out
        rw [if_neg (by decide)] at this
        exact ⟨by rw [← this]; rfl, rfl⟩
    · have hpe : p = s.size := by omega
      rw [hpe, List.drop_of_length_le (by simp)] at hg
      have HG := Lib.hid hg
      clear hg
      have p1 : ¬ (p : Int) < (s.size : Int) := by omega
      clear hpe
      go_wp2_with fail
      go_ret
      exact ⟨by rw [← HG.out]; congr 3; simp [wl]; omega, rfl⟩
/-- Where the token ends that begins at a place. -/
theorem end_any (s : ByteArray) (hs : s.size ≤ 3000) (b a : Nat) (ha : a < s.size) (w : World) (hc : w.cell? ⟨b, 0, none⟩ = some (.string s)) :
    Calls Tryz.prog 76 #[.pointer (some ⟨b, 0, none⟩), .int .i64 a] w fun e w' => e = .returned (.int .i64 (a + (if mkB s[a] = true then 1 else wl (s.data.toList.drop a)) : Nat)) ∧ w = w' := by
  by_cases h : mkB s[a] = true
  · rw [if_pos h]; exact end_mark s hs b a ha h w hc
  · rw [if_neg h]; exact end_word s hs b a ha (by simpa using h) w hc
/-- The token that begins there, and what is behind it. -/
theorem toks_here (s : ByteArray) (a : Nat) (ha : a < s.size) (hg : gapB s[a] = false) :
    toks a (s.data.toList.drop a) = (a, (s.data.toList.drop a).take (if mkB s[a] = true then 1 else wl (s.data.toList.drop a))) :: toks (a + (if mkB s[a] = true then 1 else wl (s.data.toList.drop a))) (s.data.toList.drop (a + (if mkB s[a] = true then 1 else wl (s.data.toList.drop a)))) ∧
    0 < (if mkB s[a] = true then 1 else wl (s.data.toList.drop a)) ∧ a + (if mkB s[a] = true then 1 else wl (s.data.toList.drop a)) ≤ s.size := by
  have hd := drop_byte s a ha
  by_cases h : mkB s[a] = true
  · simp only [if_pos h]
    refine ⟨?_, by omega, by omega⟩
    rw [hd, toks_mark hg h]; rfl
  · simp only [if_neg h]
    have hw : wdB s[a] = true := wdB_iff.2 ⟨hg, by simpa using h⟩
    have hl : wl (s.data.toList.drop a) ≤ (s.data.toList.drop a).length := by unfold wl; exact (List.takeWhile_prefix _).length_le
    rw [List.length_drop, show s.data.toList.length = s.size by simp] at hl
    refine ⟨?_, ?_, by omega⟩
    · rw [← List.drop_drop, hd, toks_word _ _ _ hw]
      congr 2
      unfold wl
      exact (List.prefix_iff_eq_take.1 (List.takeWhile_prefix wdB))
    · rw [hd, wl_cons, if_pos hw]; omega

end Go.Proofs.YtmaiecbhloagoaaGreatDoor
