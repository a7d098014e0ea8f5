/-
  Package text: the reader: among, skip, end: what they answer.
-/
import Derived.Test.YtdmdgoeacafpiaaGreatDoorPsA
import Derived.Test.YtdmdgoeacafpiaaGreatDoorTrm
import Derived.Test.YtdmdgoeacafpiaaGreatDoorShelf
import Derived.Laws.AppendOwnNone
import Derived.Maps.AppendAt
import Derived.Test.YtdmdgoeacafpiaaGreatDoorPsB
import Derived.Test.YtdmdgoeacafpiaaGreatDoorLo
import Derived.Test.YtdmdgoeacafpiaaGreatDoorCshT
import Derived.OwnWalk
import Derived.Deep.RegionLaw
import Derived.Deep.AppendLies
import Derived.Lib.OwnBridge
import Derived.Test.YtdmdgoeacafpiaaGreatDoorTxt
namespace Go.Proofs.YtdmdgoeacafpiaaGreatDoor
open Go.RowKit Go.Lib
set_option linter.unusedVariables false
set_option linter.unusedSimpArgs false

theorem idx_ge (l : List UInt8) (c : UInt8) : decide (0 ≤ indexByte l c) = l.contains c := by
  induction l with
  | nil => rfl
  | cons b l ih =>
    unfold indexByte
    by_cases h : (b == c) = true
    · rw [if_pos h]
      have : b = c := by simpa using h
      subst this
      simp
    · have h' : (b == c) = false := by simpa using h
      rw [if_neg h]
      have hne : ¬ b = c := by simpa using h'
      by_cases h2 : (indexByte l c == -1) = true
      · rw [if_pos h2]
        have e : indexByte l c = -1 := by simpa using h2
        rw [e] at ih
        have : l.contains c = false := by rw [← ih]; decide
        rw [List.contains_cons, this]
        simp; exact fun e => hne e.symm
      · rw [if_neg h2]
        have hge : 0 ≤ indexByte l c := by
          clear ih h h' hne
          have key : ∀ l : List UInt8, indexByte l c = -1 ∨ 0 ≤ indexByte l c := by
            intro l
            induction l with
            | nil => exact .inl rfl
            | cons b l ih =>
              unfold indexByte
              split
              · exact .inr (by omega)
              · split
                · exact .inl rfl
                · rename_i h3
                  rcases ih with e | e
                  · exact absurd (by simpa using e) h3
                  · exact .inr (by omega)
          rcases key l with e | e
          · exact absurd (by simpa using e) h2
          · exact e
        have e1 : l.contains c = true := by rw [← ih]; simpa using hge
        rw [List.contains_cons, e1]
        simp; omega
theorem byte_back (c : UInt8) : ((c.toNat : Int)).toNat.toUInt8 = c := by
  rw [Int.toNat_natCast]
  exact UInt8.ofNat_toNat
theorem ret_boolP {a b : Bool} (h : a = b) : Ending.returned (.bool a) = .returned (.bool b) := by rw [h]
/-- among: is a byte one of a set? -/
theorem among_any (set : List UInt8) (c : UInt8) (w : World) : Calls Tryz.prog 71 #[.string ⟨set.toArray⟩, .int .u8 c.toNat] w fun e w' => e = .returned (.bool (set.contains c)) ∧ w = w' := by
  have HI := Lib.hid (Tryz.strings_IndexByte ⟨set.toArray⟩ c.toNat w)
  rw [byte_back] at HI
  have HG : Hid (decide (0 ≤ indexByte set c) = set.contains c) := Lib.hid (idx_ge set c)
  rw [show (⟨set.toArray⟩ : ByteArray).data.toList = set by simp] at HI
  generalize set.contains c = r at *
  generalize indexByte set c = i at *
  by_cases h : 0 ≤ i
  · have HR : Hid (true = r) := Lib.hid (by rw [← HG.out]; simp [h])
    go_enter Tryz.func71, Tryz.ntmps71
    go_wp2_with fail
    refine HI.out.mono ?_
    rintro e w1 ⟨rfl, rfl⟩
    go_wp2_with fail
    go_ret
    exact ⟨ret_boolP HR.out, rfl⟩
  · have HR : Hid (false = r) := Lib.hid (by rw [← HG.out]; simp [h])
    go_enter Tryz.func71, Tryz.ntmps71
    go_wp2_with fail
    refine HI.out.mono ?_
    rintro e w1 ⟨rfl, rfl⟩
    go_wp2_with fail
    go_ret
    exact ⟨ret_boolP (by rw [← HR.out]; simp; omega), rfl⟩
theorem among_gaps (c : UInt8) (w : World) : Calls Tryz.prog 71 #[.string ⟨#[32, 10]⟩, .int .u8 c.toNat] w fun e w' => e = .returned (.bool (gapB c)) ∧ w = w' := by
  have h := among_any [32, 10] c w
  rwa [show ([32, 10] : List UInt8).contains c = gapB c by unfold gapB; simp [List.contains, List.elem, Bool.or_comm]; grind] at h
theorem among_marks (c : UInt8) (w : World) : Calls Tryz.prog 71 #[.string ⟨#[40, 41, 44]⟩, .int .u8 c.toNat] w fun e w' => e = .returned (.bool (mkB c)) ∧ w = w' := by
  have h := among_any [40, 41, 44] c w
  rwa [show ([40, 41, 44] : List UInt8).contains c = mkB c by unfold mkB; simp [List.contains, List.elem]; grind] at h
theorem among_both (c : UInt8) (w : World) : Calls Tryz.prog 71 #[.string ⟨#[40, 41, 44, 32, 10]⟩, .int .u8 c.toNat] w fun e w' => e = .returned (.bool (!wdB c)) ∧ w = w' := by
  have h := among_any [40, 41, 44, 32, 10] c w
  rwa [show ([40, 41, 44, 32, 10] : List UInt8).contains c = !wdB c by unfold wdB gapB mkB; simp [List.contains, List.elem]; grind] at h

theorem drop_byte (s : ByteArray) (p : Nat) (h : p < s.size) : s.data.toList.drop p = s[p] :: s.data.toList.drop (p + 1) := by
  have h' : p < s.data.toList.length := by simpa using h
  rw [List.drop_eq_getElem_cons h']; rfl
theorem gl_cons (c : UInt8) (r : List UInt8) : gl (c :: r) = if gapB c = true then gl r + 1 else 0 := by
  unfold gl
  rw [List.takeWhile_cons]
  split <;> rfl
theorem wl_cons (c : UInt8) (r : List UInt8) : wl (c :: r) = if wdB c = true then wl r + 1 else 0 := by
  unfold wl
  rw [List.takeWhile_cons]
  split <;> rfl

set_option maxHeartbeats 1000000 in
set_option maxRecDepth 100000 in
theorem skip_any (s : ByteArray) (hs : s.size ≤ 3000) (b a : Nat) (ha : a ≤ s.size) (w : World) (hc : w.cell? ⟨b, 0, none⟩ = some (.string s)) :
    Calls Tryz.prog 44 #[.pointer (some ⟨b, 0, none⟩), .int .i64 a] w fun e w' => e = .returned (.int .i64 (a + gl (s.data.toList.drop a) : Nat)) ∧ w = w' := by
  obtain ⟨E, hE⟩ : ∃ E, E = a + gl (s.data.toList.drop a) := ⟨_, rfl⟩
  rw [← hE]
  have HE := Lib.hid hE
  clear hE
  go_enter Tryz.func44, Tryz.ntmps44
  go_wp2_with fail
  go_loop [1] (fun va => ∃ p : Nat, p ≤ s.size ∧ va = .int .i64 p ∧ p + gl (s.data.toList.drop p) = E) (fun va => s.size - (RowKit.intOf va).toNat)
  case atStart => exact ⟨a, ha, rfl, HE.out.symm⟩
  case round =>
    obtain ⟨p, hp, rfl, hg⟩ := hrel
    by_cases hlt : p < s.size
    · rw [drop_byte s p hlt, gl_cons] at hg
      have HG := Lib.hid hg
      have HA := Lib.hid (among_gaps s[p] w)
      generalize hgb : gapB s[p] = g at HA HG
      clear hg
      have p0 : (0 : Int) ≤ (p : Int) := by omega
      have p1 : (p : Int) < (s.size : Int) := by omega
      cases g with
      | true =>
        go_wp2_with fail
        refine HA.out.mono ?_
        rintro e w1 ⟨rfl, rfl⟩
        go_wp2_with fail
        go_round
        case rel => exact ⟨p + 1, by omega, by go_num, by have := HG.out; rw [if_pos (by first | rfl | trivial)] at this; omega⟩
        case measure => simp [RowKit.intOf]; omega
      | false =>
        go_wp2_with fail
        refine HA.out.mono ?_
        rintro e w1 ⟨rfl, rfl⟩
        go_wp2_with fail
        go_ret
        have := HG.out
        rw [if_neg (by decide)] at this
        exact ⟨by rw [← this]; rfl, rfl⟩
    · have hpe : p = s.size := by omega
      rw [hpe, List.drop_of_length_le (by simp)] at hg
      have HG := Lib.hid hg
      clear hg
      have p1 : ¬ (p : Int) < (s.size : Int) := by omega
      clear hpe
      go_wp2_with fail
      go_ret
      exact ⟨by rw [← HG.out]; congr 3; simp [gl]; omega, rfl⟩

set_option maxHeartbeats 1000000 in
set_option maxRecDepth 100000 in
theorem end_mark (s : ByteArray) (hs : s.size ≤ 3000) (b a : Nat) (ha : a < s.size) (hm : mkB s[a] = true) (w : World) (hc : w.cell? ⟨b, 0, none⟩ = some (.string s)) :
    Calls Tryz.prog 45 #[.pointer (some ⟨b, 0, none⟩), .int .i64 a] w fun e w' => e = .returned (.int .i64 (a + 1 : Nat)) ∧ w = w' := by
  have HA := Lib.hid (among_marks s[a] w)
  rw [hm] at HA
  clear hm
  have p0 : (0 : Int) ≤ (a : Int) := by omega
  have p1 : (a : Int) < (s.size : Int) := by omega
  go_enter Tryz.func45, Tryz.ntmps45
  go_wp2_with fail
  refine HA.out.mono ?_
  rintro e w1 ⟨rfl, rfl⟩
  go_wp2_with fail
  go_ret
  exact ⟨by first | rfl | (congr 1; go_num), rfl⟩
set_option maxHeartbeats 1000000 in
set_option maxRecDepth 100000 in
theorem end_word (s : ByteArray) (hs : s.size ≤ 3000) (b a : Nat) (ha : a < s.size) (hm : mkB s[a] = false) (w : World) (hc : w.cell? ⟨b, 0, none⟩ = some (.string s)) :
    Calls Tryz.prog 45 #[.pointer (some ⟨b, 0, none⟩), .int .i64 a] w fun e w' => e = .returned (.int .i64 (a + wl (s.data.toList.drop a) : Nat)) ∧ w = w' := by
  obtain ⟨E, hE⟩ : ∃ E, E = a + wl (s.data.toList.drop a) := ⟨_, rfl⟩
  rw [← hE]
  have HE := Lib.hid hE
  have HA := Lib.hid (among_marks s[a] w)
  rw [hm] at HA
  have p0 : (0 : Int) ≤ (a : Int) := by omega
  have p1 : (a : Int) < (s.size : Int) := by omega
  clear hE hm
  go_enter Tryz.func45, Tryz.ntmps45
  go_wp2_with fail
  refine HA.out.mono ?_
  rintro e w1 ⟨rfl, rfl⟩
  go_wp2_with fail
  go_loop [1] (fun va => ∃ p : Nat, p ≤ s.size ∧ va = .int .i64 p ∧ p + wl (s.data.toList.drop p) = E) (fun va => s.size - (RowKit.intOf va).toNat)
  case atStart => exact ⟨a, by omega, rfl, HE.out.symm⟩
  case round =>
    obtain ⟨p, hp, rfl, hg⟩ := hrel
    by_cases hlt : p < s.size
    · rw [drop_byte s p hlt, wl_cons] at hg
      have HG := Lib.hid hg
      have HB := Lib.hid (among_both s[p] w)
      generalize hgb : wdB s[p] = g at HB HG
      clear hg
      have p0 : (0 : Int) ≤ (p : Int) := by omega
      have p1 : (p : Int) < (s.size : Int) := by omega
      cases g with
      | true =>
        rw [show (!true) = false from rfl] at HB
        go_wp2_with fail
        refine HB.out.mono ?_
        rintro e w1 ⟨rfl, rfl⟩
        go_wp2_with fail
        go_round
        case rel => exact ⟨p + 1, by omega, by go_num, by have := HG.out; rw [if_pos (by first | rfl | trivial)] at this; omega⟩
        case measure => simp [RowKit.intOf]; omega
      | false =>
        rw [show (!false) = true from rfl] at HB
        go_wp2_with fail
        refine HB.out.mono ?_
        rintro e w1 ⟨rfl, rfl⟩
        go_wp2_with fail
        go_ret
        have := HG.out
        rw [if_neg (by decide)] at this
        exact ⟨by rw [← this]; rfl, rfl⟩
    · have hpe : p = s.size := by omega
      rw [hpe, List.drop_of_length_le (by simp)] at hg
      have HG := Lib.hid hg
      clear hg
      have p1 : ¬ (p : Int) < (s.size : Int) := by omega
      clear hpe
      go_wp2_with fail
      go_ret
      exact ⟨by rw [← HG.out]; congr 3; simp [wl]; omega, rfl⟩
/-- Where the token ends that begins at a place. -/
theorem end_any (s : ByteArray) (hs : s.size ≤ 3000) (b a : Nat) (ha : a < s.size) (w : World) (hc : w.cell? ⟨b, 0, none⟩ = some (.string s)) :
    Calls Tryz.prog 45 #[.pointer (some ⟨b, 0, none⟩), .int .i64 a] w fun e w' => e = .returned (.int .i64 (a + (if mkB s[a] = true then 1 else wl (s.data.toList.drop a)) : Nat)) ∧ w = w' := by
  by_cases h : mkB s[a] = true
  · rw [if_pos h]; exact end_mark s hs b a ha h w hc
  · rw [if_neg h]; exact end_word s hs b a ha (by simpa using h) w hc
/-- The token that begins there, and what is behind it. -/
theorem toks_here (s : ByteArray) (a : Nat) (ha : a < s.size) (hg : gapB s[a] = false) :
    toks a (s.data.toList.drop a) = (a, (s.data.toList.drop a).take (if mkB s[a] = true then 1 else wl (s.data.toList.drop a))) :: toks (a + (if mkB s[a] = true then 1 else wl (s.data.toList.drop a))) (s.data.toList.drop (a + (if mkB s[a] = true then 1 else wl (s.data.toList.drop a)))) ∧
    0 < (if mkB s[a] = true then 1 else wl (s.data.toList.drop a)) ∧ a + (if mkB s[a] = true then 1 else wl (s.data.toList.drop a)) ≤ s.size := by
  have hd := drop_byte s a ha
  by_cases h : mkB s[a] = true
  · simp only [if_pos h]
    refine ⟨?_, by omega, by omega⟩
    rw [hd, toks_mark hg h]; rfl
  · simp only [if_neg h]
    have hw : wdB s[a] = true := wdB_iff.2 ⟨hg, by simpa using h⟩
    have hl : wl (s.data.toList.drop a) ≤ (s.data.toList.drop a).length := by unfold wl; exact (List.takeWhile_prefix _).length_le
    rw [List.length_drop, show s.data.toList.length = s.size by simp] at hl
    refine ⟨?_, ?_, by omega⟩
    · rw [← List.drop_drop, hd, toks_word _ _ _ hw]
      congr 2
      unfold wl
      exact (List.prefix_iff_eq_take.1 (List.takeWhile_prefix wdB))
    · rw [hd, wl_cons, if_pos hw]; omega

end Go.Proofs.YtdmdgoeacafpiaaGreatDoor

namespace Go.Proofs.YtdmdgoeacafpiaaGreatDoor
open Go.RowKit Go.Lib
set_option linter.unusedVariables false

/-- A node's cells, in a row. -/
def ndL (n : Nd) : List Value := [.int .i64 n.op, .int .i64 n.a, .int .i64 n.b, .int .i64 n.num, .int .i64 n.den]
def ndR (t : List Nd) : List Value := t.flatMap ndL
theorem ndR_len : ∀ t : List Nd, (ndR t).length = t.length * 5
  | [] => rfl
  | n :: t => by
    have := ndR_len t
    unfold ndR at this ⊢
    rw [List.flatMap_cons, List.length_append, this, List.length_cons]
    show 5 + _ = _
    omega
theorem ndR_app (t u : List Nd) : ndR (t ++ u) = ndR t ++ ndR u := by unfold ndR; rw [List.flatMap_append]
theorem ndR_get : ∀ (t : List Nd) (j i : Nat), j < t.length → i < 5 → (ndR t)[j * 5 + i]? = (ndL (t.getD j default))[i]?
  | [], j, i, hj, _ => absurd hj (Nat.not_lt_zero _)
  | n :: t, 0, i, _, hi => by
    unfold ndR
    rw [List.flatMap_cons, Nat.zero_mul, Nat.zero_add, List.getElem?_append_left (by show i < 5; exact hi)]
    rfl
  | n :: t, j + 1, i, hj, hi => by
    have ih := ndR_get t j i (by simpa using hj) hi
    unfold ndR at ih ⊢
    rw [List.flatMap_cons, List.getElem?_append_right (by show 5 ≤ _; omega), show (j + 1) * 5 + i - (ndL n).length = j * 5 + i by show (j + 1) * 5 + i - 5 = _; omega, ih]
    simp [List.getD_eq_getElem?_getD]
theorem ndR_one {t : List Nd} : ∀ u ∈ ndR t, u.oneCell' = true := by
  intro u hu
  obtain ⟨n, _, h⟩ := List.mem_flatMap.1 hu
  unfold ndL at h
  simp at h
  rcases h with rfl | rfl | rfl | rfl | rfl <;> rfl
theorem nd_news {w : World} {b o : Nat} {t : List Nd} (hN : NdA w b o t) : ∀ j u, (ndR t)[j]? = some u → w.cell? ((⟨b, o, none⟩ : Addr).add j) = some u := by
  intro j u hu
  have hlt : j < t.length * 5 := by rw [← ndR_len]; exact (List.getElem?_eq_some_iff.1 hu).1
  obtain ⟨q, r, hr, rfl⟩ : ∃ q r, r < 5 ∧ j = q * 5 + r := ⟨j / 5, j % 5, by omega, by omega⟩
  have hq : q < t.length := by omega
  obtain ⟨c0, c1, c2, c3, c4⟩ := hN q hq
  rw [ndR_get t q r hq hr] at hu
  rw [Go.WideShapes.add_plain]
  match r, hr with
  | 0, _ => rw [Nat.add_zero, c0]; exact hu
  | 1, _ => rw [← Nat.add_assoc, c1]; exact hu
  | 2, _ => rw [← Nat.add_assoc, c2]; exact hu
  | 3, _ => rw [← Nat.add_assoc, c3]; exact hu
  | 4, _ => rw [← Nat.add_assoc, c4]; exact hu

/-- A slice of the call's own, in a block from base on, holds nodes. -/
def OwnN (w : World) (base : Nat) (v : Value) (t : List Nd) : Prop := w.ownsRow base 52 5 v t.length (ndR t)
theorem OwnN.nil (w : World) (base : Nat) : OwnN w base (.slice none 0 0) [] := World.ownsRow_nil _ _ _ _
theorem OwnN.one (w : World) (base : Nat) (n : Nd) (hb : base ≤ w.heap.size) : OwnN (w.alloc (.cells #[.int .i64 n.op, .int .i64 n.a, .int .i64 n.b, .int .i64 n.num, .int .i64 n.den] 52)) base (.slice (some ⟨w.heap.size, 0, none⟩) 1 1) [n] :=
  World.ownsRow_lit w #[.int .i64 n.op, .int .i64 n.a, .int .i64 n.b, .int .i64 n.num, .int .i64 n.den] 1 hb (by unfold maxLen; omega) rfl
theorem OwnN.grown {w w' : World} {base : Nat} {v : Value} {t : List Nd} (h : OwnN w base v t) (hg : Below w.heap.size w w') : OwnN w' base v t := by
  obtain ⟨h1, h2⟩ := h
  refine ⟨h1, ?_⟩
  rcases h2 with h2 | ⟨g, cap, cur, rfl, hb, hc, h3⟩
  · exact Or.inl h2
  · refine Or.inr ⟨g, cap, cur, rfl, hb, ?_, h3⟩
    rw [hg.block g (Array.getElem?_eq_some_iff.1 hc).1]
    exact hc
theorem OwnN.base {w : World} {a b : Nat} {v : Value} {t : List Nd} (h : OwnN w b v t) (hab : a ≤ b) : OwnN w a v t := by
  obtain ⟨h1, h2⟩ := h
  refine ⟨h1, ?_⟩
  rcases h2 with h2 | ⟨g, cap, cur, rfl, hb, h3⟩
  · exact .inl h2
  · exact .inr ⟨g, cap, cur, rfl, Nat.le_trans hab hb, h3⟩
theorem OwnN.slice {w : World} {base : Nat} {v : Value} {t : List Nd} (h : OwnN w base v t) : ∃ a cap, v = .slice a t.length cap := by
  rcases h.2 with ⟨rfl, h2⟩ | ⟨g, cap, cur, rfl, _⟩
  · exact ⟨none, 0, by rw [h2]⟩
  · exact ⟨_, _, rfl⟩
theorem OwnN.sl {w : World} {base : Nat} {v : Value} {t : List Nd} (h : OwnN w base v t) : SlT w v t := by
  obtain ⟨h1, h2⟩ := id h
  rcases h2 with ⟨rfl, h2⟩ | ⟨g, cap, cur, rfl, hb, hc, hn, hm, h3, h4⟩
  · exact .inl ⟨List.length_eq_zero_iff.1 h2, _, _, rfl⟩
  · by_cases h0 : t.length = 0
    · exact .inl ⟨List.length_eq_zero_iff.1 h0, some ⟨g, 0, none⟩, cap, by rw [h0]⟩
    · refine .inr ⟨by omega, g, 0, cap, rfl, hn, by unfold maxLen at hm; omega, fun j hj => ?_⟩
      have hcl := h.cells (g := g) rfl
      have k : ∀ i u, i < 5 → (ndL (t.getD j default))[i]? = some u → w.cell? ⟨g, 0 + j * 5 + i, none⟩ = some u := by
        intro i u hi hu
        have := hcl (j * 5 + i) u (by rw [ndR_get t j i hj hi]; exact hu)
        rw [Go.WideShapes.add_plain, ← Nat.add_assoc] at this
        exact this
      exact ⟨k 0 _ (by omega) rfl, k 1 _ (by omega) rfl, k 2 _ (by omega) rfl, k 3 _ (by omega) rfl, k 4 _ (by omega) rfl⟩
theorem OwnN.kept {w w' : World} {base : Nat} {v : Value} {t : List Nd} (h : OwnN w base v t) {row : Option Nat} (hg : w.grownBy w' row) (hne : v.ownBlock = none ∨ v.ownBlock ≠ row) : OwnN w' base v t := World.ownsRow.kept h hg hne
theorem Own.kept {w w' : World} {base : Nat} {v : Value} {l : List Int} (h : YtdmdgoeacafpiaaGreatDoor.Own w base v l) {row : Option Nat} (hg : w.grownBy w' row) (hne : v.ownBlock = none ∨ v.ownBlock ≠ row) : YtdmdgoeacafpiaaGreatDoor.Own w' base v l := World.ownsRow.kept h hg hne

theorem infoND : (Tryz.prog.info? 52).map (fun i => (i.zero, i.size, i.bytes)) = some (some (.agg #[.int .i64 0, .int .i64 0, .int .i64 0, .int .i64 0, .int .i64 0]), 5, 40) := by kernel_rfl

/-- Nothing is appended. -/
theorem run_append_no {P : Program} {w : World} (base : Nat) (t ty e : TypeId) (i : TypeInfo) (size : Nat) (ht : P.underlying t = some (.slice e)) (hi : P.info? e = some i)
    (v : Value) (n : Nat) (xs : List Value) (hown : w.ownsRow base e size v n xs) (c : Nat) :
    (Builtin.append_ #[t, t] ty #[v, .slice none 0 c]).run P w = .ok v w := by
  rcases hown.2 with ⟨rfl, rfl⟩ | ⟨g, cap, cur, rfl, _, _, hnc, _⟩
  · simp [Builtin.append_, run_underlying ht, sizeOf, typeInfo, hi, Builtin.lenOf, Builtin.firstCells]
  · simp [Builtin.append_, run_underlying ht, sizeOf, typeInfo, hi, Builtin.lenOf, Builtin.firstCells, hnc, storeCells]

/-- Nodes appended to nodes of the call's own. -/
theorem wpList_append_nodes {w : World} {ops : Array Oper} {rest : List Oper} {o : Oper} {a : Act} {Q : Exit → Act → World → Prop} (hgd : o.guard = none) (s x : Operand)
    (ho : o.op = .call { callee := .builtin .append, args := #[s, x], argTypes := #[23, 23] })
    (base : Nat) (v : Value) (t : List Nd) (hs : a.eval s = v) (hown : OwnN w base v t) (xv : Value) (u : List Nd) (hx : a.eval x = xv) (hsl : SlT w xv u)
    (hlen : t.length + u.length ≤ 100000) (hbase : base ≤ w.heap.size)
    (h : ∀ v' w', OwnN w' base v' (t ++ u) → w.grownBy w' v.ownBlock → (v'.ownBlock = v.ownBlock ∨ v'.ownBlock = some w.heap.size) → wpList Tryz.prog ops Q rest (a.put o.dst v') w') : wpList Tryz.prog ops Q (o :: rest) a w := by
  obtain ⟨i0, hi0, hz0, hz1, hz2⟩ := info_parts infoND
  have key : ∀ (ad : Addr) (c : Nat) , xv = .slice (some ad) u.length c → (∀ j z, (ndR u)[j]? = some z → w.cell? (ad.add j) = some z) → wpList Tryz.prog ops Q (o :: rest) a w := by
    intro ad c hxv hnews
    refine wpList_append_own_at _ hgd s x 23 ho base 52 i0 _ 5 40 Tryz.underlying23 hi0 hz0 hz1 hz2 rfl (by decide) v t.length (ndR t) hs hown ad u.length c (ndR u) (hx.trans hxv) (ndR_len u) hnews ndR_one (by unfold maxLen; omega) (by omega) hbase ?_
    intro v' w' h1 h2 _ h3
    refine h v' w' ?_ h2 h3
    unfold OwnN
    rw [List.length_append, ndR_app]; exact h1
  rcases hsl with ⟨rfl, ao, c, hv⟩ | ⟨_, b, off, c, hv, _, _, hN⟩
  · cases ao with
    | some ad => exact key ad c hv (fun j z hz => by cases hz)
    | none =>
      subst hv
      refine wpList_plain hgd fun K hK => ?_
      have hrun := run_append_no (P := Tryz.prog) (w := w) base 23 o.type 52 i0 5 Tryz.underlying23 hi0 v _ _ hown c
      unfold Oper.wp
      simp only [execOp, ho, resolve, invoke, builtin, Sem.run_bind, Sem.run_pure, Result.andThen_ok, List.map_toArray, List.map_cons, List.map_nil, hs, hx, hrun]
      exact hK _ _ (h v w (by rw [List.append_nil]; exact hown) ⟨rfl, rfl, rfl, Nat.le_refl _, fun _ _ _ => rfl⟩ (.inl rfl))
  · exact key ⟨b, off, none⟩ c hv (nd_news hN)

/-- Below, behind an append to nodes of the call's own. -/
theorem below_nodes {B base : Nat} {w0 w w' : World} {v : Value} {t : List Nd} (hb : Below B w0 w) (ho : OwnN w base v t) (hB : B ≤ base) (hw : B ≤ w.heap.size) (hg : w.grownBy w' v.ownBlock) : Below B w0 w' := by
  refine hb.grown hg (by omega) (fun k hk => ?_)
  have := World.ownsRow.lt ho k hk
  omega

/-- A slice of rows of nodes. -/
def SlS (w : World) (a : Option Addr) (cap : Nat) (L : List (List Nd)) : Prop :=
  0 < L.length → ∃ b o, a = some ⟨b, o, none⟩ ∧ L.length ≤ cap ∧ cap ≤ 9223372036854775807 ∧ ∀ j, j < L.length → ∃ v, w.cell? ⟨b, o + j, none⟩ = some v ∧ SlT w v (L.getD j [])
theorem SlT.slice {w : World} {v : Value} {t : List Nd} (h : SlT w v t) : ∃ a cap, v = .slice a t.length cap := by
  rcases h with ⟨rfl, a, cap, rfl⟩ | ⟨_, b, o, cap, rfl, _⟩
  · exact ⟨_, _, rfl⟩
  · exact ⟨_, _, rfl⟩
theorem SlS.keep {w w' : World} {a : Option Addr} {cap : Nat} {L : List (List Nd)} (h : SlS w a cap L) (hb : Below w.heap.size w w') : SlS w' a cap L := by
  intro h0
  obtain ⟨b, o, h1, h2, h3, h4⟩ := h h0
  refine ⟨b, o, h1, h2, h3, fun j hj => ?_⟩
  obtain ⟨v, h5, h6⟩ := h4 j hj
  exact ⟨v, keepT hb h5, h6.keep hb⟩

end Go.Proofs.YtdmdgoeacafpiaaGreatDoor

namespace Go.Proofs.YtdmdgoeacafpiaaGreatDoor
open Go.RowKit Go.Lib
set_option linter.unusedVariables false
set_option linter.unusedSimpArgs false

/-- What a call keeps: some blocks. -/
structure KpP (P : Nat → Prop) (w w' : World) : Prop where
  os : w'.os = w.os
  tape : w'.tape = w.tape
  output : w'.output = w.output
  size : w.heap.size ≤ w'.heap.size
  block : ∀ k, P k → w'.heap[k]? = w.heap[k]?
theorem KpP.refl (P : Nat → Prop) (w : World) : KpP P w w := ⟨rfl, rfl, rfl, Nat.le_refl _, fun _ _ => rfl⟩
theorem KpP.trans {P : Nat → Prop} {w w1 w2 : World} (h : KpP P w w1) (k : KpP P w1 w2) : KpP P w w2 := ⟨k.os.trans h.os, k.tape.trans h.tape, k.output.trans h.output, Nat.le_trans h.size k.size, fun i hi => (k.block i hi).trans (h.block i hi)⟩
theorem KpP.of {P : Nat → Prop} {w w' : World} (h : Below w.heap.size w w') (hP : ∀ k, P k → k < w.heap.size) : KpP P w w' := ⟨h.os, h.tape, h.output, h.size, fun k hk => h.block k (hP k hk)⟩
theorem KpP.grown {P : Nat → Prop} {w w' : World} {row : Option Nat} (h : w.grownBy w' row) (hP : ∀ k, P k → k < w.heap.size) (hne : ∀ k, row = some k → ¬ P k) : KpP P w w' :=
  ⟨h.os, h.tape, h.output, h.size, fun k hk => h.block k (hP k hk) (fun e => hne k e.symm hk)⟩
theorem set_grown (w : World) (a : Addr) (v : Value) : w.grownBy (w.setCell a v) (some a.block) := ⟨rfl, rfl, rfl, by simp, fun k _ hk => heap_setCell_other w a k v (fun e => hk (by simp [e]))⟩
theorem KpP.set {P : Nat → Prop} (w : World) (a : Addr) (v : Value) (hP : ∀ k, P k → k < w.heap.size) (h : ¬ P a.block) : KpP P w (w.setCell a v) := KpP.grown (set_grown w a v) hP (fun k e => by cases e; exact h)
theorem KpP.cell {P : Nat → Prop} {w w' : World} (h : KpP P w w') {a : Addr} (ha : P a.block) : w'.cell? a = w.cell? a := World.cell?_of_block (h.block _ ha)
theorem KpP.less {P Q : Nat → Prop} {w w' : World} (h : KpP P w w') (hPQ : ∀ k, Q k → P k) : KpP Q w w' := ⟨h.os, h.tape, h.output, h.size, fun k hk => h.block k (hPQ k hk)⟩
theorem KpP.below {P : Nat → Prop} {w w' : World} {n : Nat} (h : KpP P w w') (hn : ∀ k, k < n → P k) : Below n w w' := ⟨h.os, h.tape, h.output, h.size, fun k hk => h.block k (hn k hk)⟩

/-- Parts that have to come, as they lie: the next one last. -/
def dueL (D : List Nat) : List Int := D.reverse.map fun (p : Nat) => (p : Int)
theorem dueL_cons (p : Nat) (D : List Nat) : dueL (p :: D) = dueL D ++ [(p : Int)] := by simp [dueL]
theorem dueL_app (E D : List Nat) : dueL (E ++ D) = dueL D ++ dueL E := by simp [dueL]
theorem dueL_len (D : List Nat) : (dueL D).length = D.length := by simp [dueL]
/-- Two slices lie apart. -/
def Ap2 (v u : Value) : Prop := ∀ k, v.ownBlock = some k → u.ownBlock ≠ some k
theorem Ap2.ne {v u : Value} (h : Ap2 v u) : v.ownBlock = none ∨ v.ownBlock ≠ u.ownBlock := by
  cases e : v.ownBlock with
  | none => exact .inl rfl
  | some k => exact .inr (fun e2 => h k e e2.symm)
theorem Ap2.symm {v u : Value} (h : Ap2 v u) : Ap2 u v := fun k h1 h2 => h k h2 h1
/-- The parser in memory: its block, its slices. -/
structure PsR (w : World) (P : Nat → Prop) (B : Nat) (s : ByteArray) (vn vd : Value) (m : Mc) : Prop where
  c0 : w.cell? ⟨B, 0, none⟩ = some (.string s)
  c1 : w.cell? ⟨B, 1, none⟩ = some vn
  c2 : w.cell? ⟨B, 2, none⟩ = some (.int .i64 m.o)
  c3 : w.cell? ⟨B, 3, none⟩ = some vd
  fr : ∀ i, w.frozen? ⟨B, i, none⟩ = false
  hn : OwnN w 0 vn m.N
  hd : YtdmdgoeacafpiaaGreatDoor.Own w 0 vd (dueL m.D)
  ap : Ap2 vn vd
  bn : ∀ k, vn.ownBlock = some k → k ≠ B ∧ ¬ P k
  bd : ∀ k, vd.ownBlock = some k → k ≠ B ∧ ¬ P k
  nb : ¬ P B
  lt : ∀ k, P k → k < w.heap.size
def PsM (w : World) (P : Nat → Prop) (B : Nat) (s : ByteArray) (m : Mc) : Prop := ∃ vn vd, PsR w P B s vn vd m
theorem PsR.blt {w : World} {P : Nat → Prop} {B : Nat} {s : ByteArray} {vn vd : Value} {m : Mc} (h : PsR w P B s vn vd m) : B < w.heap.size := ltT h.c0
theorem ne_row {k : Nat} {v : Value} (h : ∀ j, v.ownBlock = some j → j ≠ k) : v.ownBlock = none ∨ v.ownBlock ≠ some k := by
  cases e : v.ownBlock with
  | none => exact .inl rfl
  | some j => exact .inr (fun e2 => h j e (by injection e2))
/-- What turns none of the parser's blocks keeps it. -/
theorem PsR.grown {w w' : World} {P : Nat → Prop} {B : Nat} {s : ByteArray} {vn vd : Value} {m : Mc} (h : PsR w P B s vn vd m) {row : Option Nat} (hg : w.grownBy w' row) (hB : row ≠ some B) (h1 : vn.ownBlock = none ∨ vn.ownBlock ≠ row) (h2 : vd.ownBlock = none ∨ vd.ownBlock ≠ row) : PsR w' P B s vn vd m := by
  have hb := hg.block B h.blt (fun e => hB e.symm)
  have hc : ∀ i, w'.cell? ⟨B, i, none⟩ = w.cell? ⟨B, i, none⟩ := fun i => World.cell?_of_block hb
  exact ⟨(hc 0).trans h.c0, (hc 1).trans h.c1, (hc 2).trans h.c2, (hc 3).trans h.c3, fun i => (World.frozen?_of_block (a := ⟨B, i, none⟩) hb).trans (h.fr i), h.hn.kept hg h1, World.ownsRow.kept h.hd hg h2, h.ap, h.bn, h.bd, h.nb, fun k hk => Nat.lt_of_lt_of_le (h.lt k hk) hg.size⟩
theorem grown_none {w w' : World} (h : Below w.heap.size w w') : w.grownBy w' none := ⟨h.os, h.tape, h.output, h.size, fun k hk _ => h.block k hk⟩
theorem own_ne_none {v : Value} : v.ownBlock = none ∨ v.ownBlock ≠ none := by
  cases v.ownBlock with
  | none => exact .inl rfl
  | some k => exact .inr (by simp)
theorem PsR.keep {w w' : World} {P : Nat → Prop} {B : Nat} {s : ByteArray} {vn vd : Value} {m : Mc} (h : PsR w P B s vn vd m) (hb : Below w.heap.size w w') : PsR w' P B s vn vd m := h.grown (grown_none hb) (by simp) own_ne_none own_ne_none
theorem PsM.keep {w w' : World} {P : Nat → Prop} {B : Nat} {s : ByteArray} {m : Mc} (h : PsM w P B s m) (hb : Below w.heap.size w w') : PsM w' P B s m := by
  obtain ⟨vn, vd, h⟩ := h
  exact ⟨vn, vd, h.keep hb⟩
/-- A field of the parser is stored. -/
theorem PsR.cells_set {w : World} {P : Nat → Prop} {B : Nat} {s : ByteArray} {vn vd : Value} {m : Mc} (h : PsR w P B s vn vd m) (i : Nat) (v : Value) :
    OwnN (w.setCell ⟨B, i, none⟩ v) 0 vn m.N ∧ YtdmdgoeacafpiaaGreatDoor.Own (w.setCell ⟨B, i, none⟩ v) 0 vd (dueL m.D) ∧ (∀ j, (w.setCell ⟨B, i, none⟩ v).frozen? ⟨B, j, none⟩ = false) ∧ (∀ j, j ≠ i → (w.setCell ⟨B, i, none⟩ v).cell? ⟨B, j, none⟩ = w.cell? ⟨B, j, none⟩) ∧ (∀ k, P k → k < (w.setCell ⟨B, i, none⟩ v).heap.size) := by
  have hg := set_grown w ⟨B, i, none⟩ v
  refine ⟨h.hn.kept hg (ne_row (fun j hj => (h.bn j hj).1)), World.ownsRow.kept h.hd hg (ne_row (fun j hj => (h.bd j hj).1)), fun j => ?_, fun j hj => cell_far (.inr (fun e => hj e.symm)), fun k hk => Nat.lt_of_lt_of_le (h.lt k hk) hg.size⟩
  rw [World.frozen?_setCell]; exact h.fr j
/-- The open brackets. -/
theorem PsR.setO {w : World} {P : Nat → Prop} {B : Nat} {s : ByteArray} {vn vd : Value} {m : Mc} (h : PsR w P B s vn vd m) (o : Int) : PsR (w.setCell ⟨B, 2, none⟩ (.int .i64 o)) P B s vn vd ⟨m.N, o, m.D⟩ := by
  obtain ⟨h1, h2, h3, h4, h5⟩ := h.cells_set 2 (.int .i64 o)
  exact ⟨(h4 0 (by omega)).trans h.c0, (h4 1 (by omega)).trans h.c1, cell_here h.c2, (h4 3 (by omega)).trans h.c3, h3, h1, h2, h.ap, h.bn, h.bd, h.nb, h5⟩
/-- Another slice of what has to come. -/
theorem PsR.setD {w : World} {P : Nat → Prop} {B : Nat} {s : ByteArray} {vn vd : Value} {m : Mc} (h : PsR w P B s vn vd m) {vd' : Value} {D : List Nat} (hd : YtdmdgoeacafpiaaGreatDoor.Own w 0 vd' (dueL D)) (ap : Ap2 vn vd') (bd : ∀ k, vd'.ownBlock = some k → k ≠ B ∧ ¬ P k) : PsR (w.setCell ⟨B, 3, none⟩ vd') P B s vn vd' ⟨m.N, m.o, D⟩ := by
  obtain ⟨h1, h2, h3, h4, h5⟩ := h.cells_set 3 vd'
  exact ⟨(h4 0 (by omega)).trans h.c0, (h4 1 (by omega)).trans h.c1, (h4 2 (by omega)).trans h.c2, cell_here h.c3, h3, h1, World.ownsRow.kept hd (set_grown w ⟨B, 3, none⟩ vd') (ne_row (fun j hj => (bd j hj).1)), ap, h.bn, bd, h.nb, h5⟩
/-- Another slice of nodes. -/
theorem PsR.setN {w : World} {P : Nat → Prop} {B : Nat} {s : ByteArray} {vn vd : Value} {m : Mc} (h : PsR w P B s vn vd m) {vn' : Value} {N : List Nd} (hn : OwnN w 0 vn' N) (ap : Ap2 vn' vd) (bn : ∀ k, vn'.ownBlock = some k → k ≠ B ∧ ¬ P k) : PsR (w.setCell ⟨B, 1, none⟩ vn') P B s vn' vd ⟨N, m.o, m.D⟩ := by
  obtain ⟨h1, h2, h3, h4, h5⟩ := h.cells_set 1 vn'
  exact ⟨(h4 0 (by omega)).trans h.c0, cell_here h.c1, (h4 2 (by omega)).trans h.c2, (h4 3 (by omega)).trans h.c3, h3, hn.kept (set_grown w ⟨B, 1, none⟩ vn') (ne_row (fun j hj => (bn j hj).1)), h2, ap, bn, h.bd, h.nb, h5⟩

/-- What a method answers that takes a token. -/
def TakeE (P : Nat → Prop) (B : Nat) (s : ByteArray) (r : Nat × Mc) (w : World) (e : Ending) (w' : World) : Prop :=
  e = .returned (.int .i64 r.1) ∧ (r.1 = 0 → PsM w' P B s r.2) ∧ KpP P w w'
theorem ret_intP {a b : Int} (h : a = b) : Ending.returned (.int .i64 a) = .returned (.int .i64 b) := by rw [h]

/-- What has to come next; 0: nothing. -/
def hdD (m : Mc) : Nat := match m.D with
  | [] => 0
  | p :: _ => p
def tlD (m : Mc) : Mc := ⟨m.N, m.o, m.D.tail⟩
set_option maxHeartbeats 1000000 in
set_option maxRecDepth 100000 in
theorem next_any (P : Nat → Prop) (B : Nat) (s : ByteArray) (m : Mc) (hD : m.D.length ≤ 100000) (w : World) (h : PsM w P B s m) :
    Calls Tryz.prog 19 #[.pointer (some ⟨B, 0, none⟩)] w fun e w' => e = .returned (.int .i64 (hdD m : Nat)) ∧ PsM w' P B s (tlD m) ∧ KpP P w w' := by
  obtain ⟨vn, vd, h⟩ := h
  obtain ⟨N, o, D⟩ := m
  have H := Lib.hid h
  obtain ⟨c0, c1, c2, c3, fr, hn, hd, ap, bn, bd, nb, lt⟩ := h
  dsimp only at *
  have f3 := fr 3
  clear c0 c1 c2 fr hn ap bn nb lt
  cases D with
  | nil =>
    obtain ⟨a, cap, rfl⟩ : ∃ a cap, vd = .slice a 0 cap := by
      rcases hd.reads with ⟨rfl, _⟩ | ⟨g, cap, rfl, _⟩
      · exact ⟨_, _, rfl⟩
      · exact ⟨_, _, rfl⟩
    clear hd
    go_enter Tryz.func19, Tryz.ntmps19
    go_wp2_with fail
    go_ret
    exact ⟨rfl, ⟨_, _, H.out⟩, KpP.refl _ _⟩
  | cons p D =>
    rw [dueL_cons] at hd
    rcases hd.reads with ⟨_, e⟩ | ⟨g, cap, rfl, _, hg, hr⟩
    · exact absurd (congrArg List.length e) (by simp)
    have hl := dueL_len D
    have hlen : (dueL D ++ [(p : Int)]).length = D.length + 1 := by simp [hl]
    have hp := hr D.length (by rw [hlen]; omega)
    rw [show (dueL D ++ [(p : Int)]).getD D.length 0 = (p : Int) by rw [List.getD_eq_getElem?_getD, List.getElem?_append_right (by omega), hl]; simp, Nat.zero_add] at hp
    have hcap : D.length + 1 ≤ cap ∧ cap ≤ 9223372036854775807 := by
      rcases hd.2 with ⟨e, _⟩ | ⟨g', cap', cur, e, _, _, h1, h2, _⟩
      · cases e
      · injection e with e1 e2 e3
        subst e3
        rw [hlen] at h1
        exact ⟨h1, by unfold maxLen at h2; exact h2⟩
    rw [hlen] at c3 H
    have hpop : YtdmdgoeacafpiaaGreatDoor.Own w 0 (.slice (some ⟨g, 0, none⟩) D.length cap) (dueL D) := by
      have hd' := hd
      unfold YtdmdgoeacafpiaaGreatDoor.Own at hd' ⊢
      rw [hlen, List.map_append] at hd'
      rw [hl]
      exact ownsRow_pop (by simp [hl]) hd'
    have HR : Hid (PsR (w.setCell ⟨B, 3, none⟩ (.slice (some ⟨g, 0, none⟩) D.length cap)) P B s vn (.slice (some ⟨g, 0, none⟩) D.length cap) ⟨N, o, D⟩) := Lib.hid (H.out.setD hpop (fun k h1 h2 => H.out.ap k h1 h2) (fun k hk => H.out.bd k hk))
    have hL1 : ((D.length : Int) + 1 - 1) = (D.length : Int) := by omega
    have i0 : (0 : Int) ≤ (D.length : Int) := by omega
    have i1 : (D.length : Int) < (D.length : Int) + 1 := by omega
    have i2 : (D.length : Int) ≤ (cap : Int) := by omega
    have i3 : ¬ (D.length : Int) < 0 := by omega
    clear hd hpop hr bd hlen hl
    go_enter Tryz.func19, Tryz.ntmps19
    go_wp2_with fail
    go_ret
    exact ⟨rfl, ⟨_, _, HR.out⟩, KpP.set _ _ _ H.out.lt H.out.nb⟩

end Go.Proofs.YtdmdgoeacafpiaaGreatDoor

namespace Go.Proofs.YtdmdgoeacafpiaaGreatDoor
open Go.RowKit Go.Lib
set_option linter.unusedVariables false
set_option linter.unusedSimpArgs false

set_option maxHeartbeats 1000000 in
set_option maxRecDepth 100000 in
theorem last_any (P : Nat → Prop) (B : Nat) (s : ByteArray) (N : List Nd) (n : Nd) (hN : N.length ≤ 100000) (o : Int) (D : List Nat) (vn vd : Value) (w : World) (h : PsR w P B s vn vd ⟨N ++ [n], o, D⟩) :
    ∃ g cap, vn = .slice (some ⟨g, 0, none⟩) (N.length + 1) cap ∧ Calls Tryz.prog 67 #[.pointer (some ⟨B, 0, none⟩)] w fun e w' => e = .returned (.pointer (some ⟨g, N.length * 5, none⟩)) ∧ Below w.heap.size w w' := by
  have hn := h.hn
  have c1 := h.c1
  rcases hn.2 with ⟨_, e⟩ | ⟨g, cap, cur, hv, _, hc, h1, h2, h3, h4⟩
  · exact absurd e (by simp)
  have hl : (N ++ [n]).length = N.length + 1 := by simp
  dsimp only at hv h1
  rw [hl] at hv h1
  refine ⟨g, cap, hv, ?_⟩
  subst hv
  unfold maxLen at h2
  have i0 : (0 : Int) ≤ (N.length : Int) := by omega
  have i1 : (N.length : Int) < (N.length : Int) + 1 := by omega
  have i2 : ((N.length : Int) + 1 - 1) = (N.length : Int) := by omega
  have i3 : (N.length : Int) + 1 ≤ (cap : Int) := by omega
  clear h hn hc h3 h4 h1
  go_enter Tryz.func67, Tryz.ntmps67
  go_wp2_with fail
  go_region
  all_goals go_wp2_with fail
  all_goals go_ret
  all_goals exact ⟨by simp [Addr.add], by first | exact Below.refl _ _ | exact below_drewT _ _⟩

theorem only_any (c : UInt8) (l : List UInt8) (w : World) : Calls Tryz.prog 65 #[.string ⟨#[c]⟩, .string ⟨l.toArray⟩] w fun e w' => e = .returned (.int .i64 (onlyM c l)) ∧ w = w' := by
  by_cases h : l = [c]
  · have e : onlyM c l = 0 := by unfold onlyM; rw [if_pos h]
    rw [e]
    subst h
    go_enter Tryz.func65, Tryz.ntmps65
    go_wp2_with fail
    go_ret
    exact ⟨rfl, rfl⟩
  · have e : onlyM c l = 13 := by unfold onlyM; rw [if_neg h]
    rw [e]
    have h1 : (l == [c]) = false := by simpa using h
    have h2 : ¬ l = [c] := h
    clear h
    go_enter Tryz.func65, Tryz.ntmps65
    go_wp2_with fail
    go_ret
    exact ⟨rfl, rfl⟩

theorem nothing_any (P : Nat → Prop) (B : Nat) (s : ByteArray) (m : Mc) (l : List UInt8) (w : World) : Calls Tryz.prog 33 #[.pointer (some ⟨B, 0, none⟩), .string ⟨l.toArray⟩] w (TakeE P B s (13, m) w) := by
  go_enter Tryz.func33, Tryz.ntmps33
  go_wp2_with fail
  go_ret
  exact ⟨rfl, fun h => (by cases h), KpP.refl _ _⟩
theorem comma_any (P : Nat → Prop) (B : Nat) (s : ByteArray) (m : Mc) (l : List UInt8) (w : World) (h : PsM w P B s m) : Calls Tryz.prog 37 #[.pointer (some ⟨B, 0, none⟩), .string ⟨l.toArray⟩] w (TakeE P B s (partM 4 l m) w) := by
  show Calls _ _ _ _ (TakeE P B s (onlyM 44 l, m) w)
  have HO := Lib.hid (only_any 44 l w)
  have H := Lib.hid h
  clear h
  generalize onlyM 44 l = r at *
  go_enter Tryz.func37, Tryz.ntmps37
  go_wp2_with fail
  refine HO.out.mono ?_
  rintro e w1 ⟨rfl, rfl⟩
  go_wp2_with fail
  go_ret
  exact ⟨rfl, fun _ => H.out, KpP.refl _ _⟩
set_option maxHeartbeats 1000000 in
theorem opening_any (P : Nat → Prop) (B : Nat) (s : ByteArray) (m : Mc) (ho : -1000000 ≤ m.o ∧ m.o ≤ 1000000) (l : List UInt8) (w : World) (h : PsM w P B s m) : Calls Tryz.prog 36 #[.pointer (some ⟨B, 0, none⟩), .string ⟨l.toArray⟩] w (TakeE P B s (partM 3 l m) w) := by
  show Calls _ _ _ _ (TakeE P B s (onlyM 40 l, ⟨m.N, m.o + 1, m.D⟩) w)
  obtain ⟨vn, vd, h⟩ := h
  have HO := Lib.hid (fun w => only_any 40 l w)
  have HS := Lib.hid (h.setO (m.o + 1))
  have HK := Lib.hid (KpP.set w ⟨B, 2, none⟩ (.int .i64 (m.o + 1)) h.lt h.nb)
  have c2 := h.c2
  have f2 := h.fr 2
  clear h
  generalize onlyM 40 l = r at *
  obtain ⟨N, o, D⟩ := m
  dsimp only at *
  obtain ⟨o1, o2⟩ := ho
  go_enter Tryz.func36, Tryz.ntmps36
  go_wp2_with fail
  refine (HO.out _).mono ?_
  rintro e w1 ⟨rfl, rfl⟩
  go_wp2_with fail
  go_ret
  exact ⟨rfl, fun _ => ⟨_, _, HS.out⟩, HK.out⟩
set_option maxHeartbeats 1000000 in
theorem closing_any (P : Nat → Prop) (B : Nat) (s : ByteArray) (m : Mc) (ho : -1000000 ≤ m.o ∧ m.o ≤ 1000000) (l : List UInt8) (w : World) (h : PsM w P B s m) : Calls Tryz.prog 38 #[.pointer (some ⟨B, 0, none⟩), .string ⟨l.toArray⟩] w (TakeE P B s (partM 5 l m) w) := by
  show Calls _ _ _ _ (TakeE P B s (onlyM 41 l, ⟨m.N, m.o - 1, m.D⟩) w)
  obtain ⟨vn, vd, h⟩ := h
  have HO := Lib.hid (fun w => only_any 41 l w)
  have HS := Lib.hid (h.setO (m.o - 1))
  have HK := Lib.hid (KpP.set w ⟨B, 2, none⟩ (.int .i64 (m.o - 1)) h.lt h.nb)
  have c2 := h.c2
  have f2 := h.fr 2
  clear h
  generalize onlyM 41 l = r at *
  obtain ⟨N, o, D⟩ := m
  dsimp only at *
  obtain ⟨o1, o2⟩ := ho
  go_enter Tryz.func38, Tryz.ntmps38
  go_wp2_with fail
  refine (HO.out _).mono ?_
  rintro e w1 ⟨rfl, rfl⟩
  go_wp2_with fail
  go_ret
  exact ⟨rfl, fun _ => ⟨_, _, HS.out⟩, HK.out⟩

/-- The text's counts: decimal digits, no 0 ahead of others. -/
theorem tcounts_any (l : List UInt8) (hl : l.length ≤ 3000) (w : World) : Calls Tryz.prog 68 #[.string ⟨l.toArray⟩] w fun e w' => e = .returned (.bool (cntK l)) ∧ Below w.heap.size w w' := by
  have HT := Lib.hid (fun w => trimC l digs10 w hl (by decide) (by decide))
  have HP := Lib.hid (Tryz.strings_HasPrefix ⟨l.toArray⟩ ⟨#[48]⟩ w)
  rw [show (⟨l.toArray⟩ : ByteArray).data.toList = l by simp, show (⟨#[48]⟩ : ByteArray).data.toList = [48] from rfl] at HP
  have hk : cntK l = (l == [48] || (!(hasPrefix l [48]) && l.all isDg)) := rfl
  by_cases h0 : l = [48]
  · rw [show cntK l = true by rw [hk, h0]; rfl]
    subst h0
    clear hk HP
    go_enter Tryz.func68, Tryz.ntmps68
    go_wp2_with fail
    go_ret
    exact ⟨rfl, Below.refl _ _⟩
  · have h1 : (l == [48]) = false := by simpa using h0
    rw [h1] at hk
    generalize hasPrefix l [48] = p at *
    cases p with
    | true =>
      rw [show cntK l = false by rw [hk]; rfl]
      clear hk
      go_enter Tryz.func68, Tryz.ntmps68
      go_wp2_with fail
      refine HP.out.mono ?_
      rintro e w1 ⟨rfl, rfl⟩
      go_wp2_with fail
      go_ret
      exact ⟨rfl, Below.refl _ _⟩
    | false =>
      by_cases h : Lib.trimS l digs10 = []
      · rw [show cntK l = true by rw [hk, all_digs.1 h]; rfl]
        rw [h] at HT
        clear hk h
        go_enter Tryz.func68, Tryz.ntmps68
        go_wp2_with fail
        refine HP.out.mono ?_
        rintro e w1 ⟨rfl, rfl⟩
        go_wp2_with fail
        refine (HT.out _).mono ?_
        rintro e w1 ⟨rfl, hb⟩
        go_wp2_with fail
        go_ret
        exact ⟨rfl, hb⟩
      · have hf : l.all isDg = false := by
          cases e : l.all isDg with
          | false => rfl
          | true => exact absurd (all_digs.2 e) h
        rw [show cntK l = false by rw [hk, hf]; rfl]
        obtain ⟨T, hT⟩ : ∃ T, T = Lib.trimS l digs10 := ⟨_, rfl⟩
        rw [← hT] at HT h
        have h2 : T.isEmpty = false := by simpa using h
        have h3 : (T == []) = false := by simpa using h
        clear hT hf hk
        go_enter Tryz.func68, Tryz.ntmps68
        go_wp2_with fail
        refine HP.out.mono ?_
        rintro e w1 ⟨rfl, rfl⟩
        go_wp2_with fail
        refine (HT.out _).mono ?_
        rintro e w1 ⟨rfl, hb⟩
        go_wp2_with fail
        go_ret
        exact ⟨rfl, hb⟩

theorem tdayof_any (l : List UInt8) (hl : l.length ≤ 3000) (w : World) (L : LenW w) : Calls Tryz.prog 70 #[.string ⟨l.toArray⟩] w fun e w' => e = .returned (.tuple #[.int .i64 (dayW l).1, .int .i64 (dayW l).2]) ∧ Below w.heap.size w w' := by
  have HP := Lib.hid (parse_any ⟨l.toArray⟩ (by show l.toArray.size ≤ _; simp; omega) w L)
  rw [show (⟨l.toArray⟩ : ByteArray).data.toList = l by simp] at HP
  have hd : dayW l = if (parN l).2 = 18 then (0, 10) else parN l := rfl
  generalize parN l = r at *
  obtain ⟨x, y⟩ := r
  dsimp only at *
  by_cases h : y = 18
  · rw [if_pos h] at hd
    rw [hd]
    subst h
    clear L hd
    go_enter Tryz.func70, Tryz.ntmps70
    go_wp2_with fail
    refine HP.out.mono ?_
    rintro e w1 ⟨rfl, hb⟩
    go_wp2_with fail
    go_ret2
    exact ⟨rfl, hb⟩
  · rw [if_neg h] at hd
    rw [hd]
    have h1 : (y == 18) = false := by simpa using h
    clear L hd
    go_enter Tryz.func70, Tryz.ntmps70
    go_wp2_with fail
    refine HP.out.mono ?_
    rintro e w1 ⟨rfl, hb⟩
    go_wp2_with fail
    go_ret2
    exact ⟨rfl, hb⟩

/-- The last node's field is stored. -/
theorem ndR_set (N : List Nd) (n : Nd) (v : Int) : (ndR (N ++ [n])).set (N.length * 5 + 1) (.int .i64 v) = ndR (N ++ [setA v n]) ∧ (ndR (N ++ [n])).set (N.length * 5 + 2) (.int .i64 v) = ndR (N ++ [setB v n]) := by
  have h1 : ∀ k : Nd, ndR [k] = ndL k := fun k => by simp [ndR]
  have hl := ndR_len N
  constructor
  · rw [ndR_app, ndR_app, h1, h1, ← hl, List.set_append_right _ _ (by omega), Nat.add_sub_cancel_left]; rfl
  · rw [ndR_app, ndR_app, h1, h1, ← hl, List.set_append_right _ _ (by omega), Nat.add_sub_cancel_left]; rfl
theorem PsR.setF {w : World} {P : Nat → Prop} {B : Nat} {s : ByteArray} {N : List Nd} {n : Nd} {o : Int} {D : List Nat} {g cap : Nat} {vd : Value} (h : PsR w P B s (.slice (some ⟨g, 0, none⟩) (N.length + 1) cap) vd ⟨N ++ [n], o, D⟩) (v : Int) (i : Nat) (f : Int → Nd → Nd) (hf : (ndR (N ++ [n])).set (N.length * 5 + i) (.int .i64 v) = ndR (N ++ [f v n])) :
    PsR (w.setCell ⟨g, N.length * 5 + i, none⟩ (.int .i64 v)) P B s (.slice (some ⟨g, 0, none⟩) (N.length + 1) cap) vd ⟨updL (f v) (N ++ [n]), o, D⟩ ∧ KpP P w (w.setCell ⟨g, N.length * 5 + i, none⟩ (.int .i64 v)) := by
  have hb := h.bn g rfl
  have hg := set_grown w ⟨g, N.length * 5 + i, none⟩ (.int .i64 v)
  have hst := World.ownsRow.stored (by have := h.hn; unfold OwnN at this; rw [show (N ++ [n]).length = N.length + 1 by simp] at this; exact this) (N.length * 5 + i) (.int .i64 v)
  have hB := hg.block B h.blt (fun e => by injection e with e; exact hb.1 e.symm)
  have hc : ∀ i, (w.setCell ⟨g, N.length * 5 + i, none⟩ (.int .i64 v)).cell? ⟨B, i, none⟩ = w.cell? ⟨B, i, none⟩ := fun j => cell_far (.inl hb.1)
  have hcc : ∀ j, (w.setCell ⟨g, N.length * 5 + i, none⟩ (.int .i64 v)).cell? ⟨B, j, none⟩ = w.cell? ⟨B, j, none⟩ := fun j => cell_far (.inl hb.1)
  refine ⟨⟨(hcc 0).trans h.c0, (hcc 1).trans h.c1, (hcc 2).trans h.c2, (hcc 3).trans h.c3, fun j => by rw [World.frozen?_setCell]; exact h.fr j, ?_, World.ownsRow.kept h.hd hg (h.ap.symm.ne), h.ap, h.bn, h.bd, h.nb, fun k hk => Nat.lt_of_lt_of_le (h.lt k hk) hg.size⟩, KpP.set _ _ _ h.lt hb.2⟩
  dsimp only
  rw [updL_app]
  unfold OwnN
  rw [← hf, show (N ++ [f v n]).length = N.length + 1 by simp]
  exact hst.1
theorem PsR.lastC {w : World} {P : Nat → Prop} {B : Nat} {s : ByteArray} {N : List Nd} {n : Nd} {o : Int} {D : List Nat} {g cap : Nat} {vd : Value} (h : PsR w P B s (.slice (some ⟨g, 0, none⟩) (N.length + 1) cap) vd ⟨N ++ [n], o, D⟩) :
    w.cell? ⟨g, N.length * 5 + 1, none⟩ = some (.int .i64 n.a) ∧ w.cell? ⟨g, N.length * 5 + 2, none⟩ = some (.int .i64 n.b) ∧ (∀ i, w.frozen? ⟨g, i, none⟩ = false) := by
  have hn := h.hn
  unfold OwnN at hn
  have h1 : ndR [n] = ndL n := by simp [ndR]
  have hl := ndR_len N
  dsimp only at hn
  rw [show (N ++ [n]).length = N.length + 1 by simp, ndR_app, h1] at hn
  refine ⟨?_, ?_, fun i => hn.frozenAt i⟩
  · rw [hn.cellAt _ (by omega), List.getElem?_append_right (by omega), hl, Nat.add_sub_cancel_left]; rfl
  · rw [hn.cellAt _ (by omega), List.getElem?_append_right (by omega), hl, Nat.add_sub_cancel_left]; rfl

end Go.Proofs.YtdmdgoeacafpiaaGreatDoor

namespace Go.Proofs.YtdmdgoeacafpiaaGreatDoor
open Go.RowKit Go.Lib
set_option linter.unusedVariables false
set_option linter.unusedSimpArgs false

/-- A slice that holds numbers, to be appended. -/
def SlN (w : World) (v : Value) (u : List Int) : Prop := (∃ ad c, v = .slice (some ad) u.length c ∧ ∀ j z, (u.map (Value.int .i64))[j]? = some z → w.cell? (ad.add j) = some z) ∨ (u = [] ∧ ∃ c, v = .slice none 0 c)
theorem ints_one {u : List Int} : ∀ z ∈ u.map (Value.int .i64), z.oneCell' = true := by
  intro z hz
  obtain ⟨x, _, rfl⟩ := List.mem_map.1 hz
  rfl
/-- Numbers appended to numbers of the call's own. -/
theorem wpList_append_ints {w : World} {ops : Array Oper} {rest : List Oper} {o : Oper} {a : Act} {Q : Exit → Act → World → Prop} (hgd : o.guard = none) (s x : Operand)
    (ho : o.op = .call { callee := .builtin .append, args := #[s, x], argTypes := #[29, 29] })
    (base : Nat) (v : Value) (t : List Int) (hs : a.eval s = v) (hown : YtdmdgoeacafpiaaGreatDoor.Own w base v t) (xv : Value) (u : List Int) (hx : a.eval x = xv) (hsl : SlN w xv u)
    (hlen : t.length + u.length ≤ 100000) (hbase : base ≤ w.heap.size)
    (h : ∀ v' w', YtdmdgoeacafpiaaGreatDoor.Own w' base v' (t ++ u) → w.grownBy w' v.ownBlock → (v'.ownBlock = v.ownBlock ∨ v'.ownBlock = some w.heap.size) → wpList Tryz.prog ops Q rest (a.put o.dst v') w') : wpList Tryz.prog ops Q (o :: rest) a w := by
  obtain ⟨i0, hi0, hz0, hz1, hz2⟩ := info_parts infoIT
  rcases hsl with ⟨ad, c, hv, hc⟩ | ⟨rfl, c, hv⟩
  · refine wpList_append_own_at _ hgd s x 29 ho base 3 i0 _ 1 8 Tryz.underlying29 hi0 hz0 hz1 hz2 rfl (by decide) v t.length (t.map (Value.int .i64)) hs hown ad u.length c (u.map (Value.int .i64)) (hx.trans hv) (by simp) hc ints_one (by unfold maxLen; omega) (by omega) hbase ?_
    intro v' w' h1 h2 _ h3
    refine h v' w' ?_ h2 h3
    unfold YtdmdgoeacafpiaaGreatDoor.Own
    rw [List.length_append, List.map_append]; exact h1
  · subst hv
    refine wpList_plain hgd fun K hK => ?_
    have hrun := run_append_no (P := Tryz.prog) (w := w) base 29 o.type 3 i0 1 Tryz.underlying29 hi0 v _ _ hown c
    unfold Oper.wp
    simp only [execOp, ho, resolve, invoke, builtin, Sem.run_bind, Sem.run_pure, Result.andThen_ok, List.map_toArray, List.map_cons, List.map_nil, hs, hx, hrun]
    exact hK _ _ (h v w (by rw [List.append_nil]; exact hown) ⟨rfl, rfl, rfl, Nat.le_refl _, fun _ _ _ => rfl⟩ (.inl rfl))
theorem slN_one (w : World) (x : Int) (e : TypeId) : SlN (w.alloc (.cells #[.int .i64 x] e)) (.slice (some ⟨w.heap.size, 0, none⟩) 1 1) [x] := .inl ⟨_, 1, rfl, one_cell w x e⟩
theorem slN_two (w : World) (x y : Int) (e : TypeId) : SlN (w.alloc (.cells #[.int .i64 x, .int .i64 y] e)) (.slice (some ⟨w.heap.size, 0, none⟩) 2 2) [x, y] := by
  refine .inl ⟨_, 2, rfl, fun j z hz => ?_⟩
  match j, hz with
  | 0, hz =>
    rw [Go.WideShapes.add_plain, World.cell?_alloc_at _ _ _ _ rfl]; exact hz
  | 1, hz =>
    rw [Go.WideShapes.add_plain, World.cell?_alloc_at _ _ _ _ rfl]; exact hz
theorem below_ints {B base : Nat} {w0 w w' : World} {v : Value} {t : List Int} (hb : Below B w0 w) (ho : YtdmdgoeacafpiaaGreatDoor.Own w base v t) (hB : B ≤ base) (hw : B ≤ w.heap.size) (hg : w.grownBy w' v.ownBlock) : Below B w0 w' := by
  refine hb.grown hg (by omega) (fun k hk => ?_)
  have := World.ownsRow.lt ho k hk
  omega
theorem Own.sliceI {w : World} {base : Nat} {v : Value} {l : List Int} (h : YtdmdgoeacafpiaaGreatDoor.Own w base v l) : ∃ a cap, v = .slice a l.length cap := by
  rcases h.reads with ⟨rfl, rfl⟩ | ⟨g, cap, rfl, _⟩
  · exact ⟨_, _, rfl⟩
  · exact ⟨_, _, rfl⟩

theorem cell_kept_ne {w w' : World} {row : Option Nat} {b i : Nat} {v : Value} (hg : w.grownBy w' row) (h : w.cell? ⟨b, i, none⟩ = some v) (hne : row ≠ some b) : w'.cell? ⟨b, i, none⟩ = some v :=
  (World.cell?_of_block (a := ⟨b, i, none⟩) (hg.block b (ltT h) (fun e => hne e.symm))).trans h
/-- The table of heads: a word and two fields for each op. -/
def fdC (k j : Nat) : Nat := (fdN k).getD j 0
structure HdW (w : World) : Prop where
  c0 : ∀ k, k < 18 → w.cell? ⟨0, k * 3, none⟩ = some (.string ⟨(wdN k).toArray⟩)
  c1 : ∀ k, k < 18 → w.cell? ⟨0, k * 3 + 1, none⟩ = some (.int .i64 (fdC k 0))
  c2 : ∀ k, k < 18 → w.cell? ⟨0, k * 3 + 2, none⟩ = some (.int .i64 (fdC k 1))
theorem HdW.keep {w w' : World} (h : HdW w) (hb : Below w.heap.size w w') : HdW w' :=
  ⟨fun k hk => keepT hb (h.c0 k hk), fun k hk => keepT hb (h.c1 k hk), fun k hk => keepT hb (h.c2 k hk)⟩
/-- The fields, as far as they have come. -/
def fdP (f0 f1 j : Nat) : List Int := (if 0 < j ∧ f0 ≠ 0 then [(f0 : Int)] else []) ++ (if 1 < j ∧ f1 ≠ 0 then [(f1 : Int)] else [])
/-- What stands behind the fields, as far as it has come. -/
def kdP (g : Nat → Nat) : Nat → List Int
  | 0 => []
  | i + 1 => kdP g i ++ [if i = 0 then 3 else 4, (g i : Int)]
theorem kdP_len (g : Nat → Nat) : ∀ i, (kdP g i).length = 2 * i
  | 0 => rfl
  | i + 1 => by rw [kdP, List.length_append, kdP_len g i]; simp; omega
theorem fdP_len (f0 f1 j : Nat) : (fdP f0 f1 j).length ≤ 2 := by unfold fdP; split <;> split <;> simp
theorem bh_all : ∀ k : Fin 18, (bhN k.val).map (fun (p : Nat) => (p : Int)) = fdP (fdC k.val 0) (fdC k.val 1) 2 ++ kdP (fun j => kdC k.val j) (kdT.getD k.val []).length ++ (if (kdT.getD k.val []).length = 0 then [] else [5]) := by decide
theorem bh_eq {k : Nat} (hk : k < 18) : (bhN k).map (fun (p : Nat) => (p : Int)) = fdP (fdC k 0) (fdC k 1) 2 ++ kdP (fun j => kdC k j) (kdT.getD k []).length ++ (if (kdT.getD k []).length = 0 then [] else [5]) := bh_all ⟨k, hk⟩
theorem fdP_step (f0 f1 : Nat) : fdP f0 f1 1 = fdP f0 f1 0 ++ (if f0 ≠ 0 then [(f0 : Int)] else []) ∧ fdP f0 f1 2 = fdP f0 f1 1 ++ (if f1 ≠ 0 then [(f1 : Int)] else []) := by
  unfold fdP
  by_cases h : f0 = 0 <;> by_cases h' : f1 = 0 <;> simp [h, h']

set_option maxHeartbeats 4000000 in
set_option maxRecDepth 100000 in
theorem behind_any (k : Nat) (hk : k < 18) (w : World) (H : HdW w) (C : KndW w) : Calls Tryz.prog 91 #[.int .i64 k] w fun e w' => ∃ v, e = .returned v ∧ YtdmdgoeacafpiaaGreatDoor.Own w' w.heap.size v ((bhN k).map fun (p : Nat) => (p : Int)) ∧ Below w.heap.size w w' := by
  rw [bh_eq hk]
  have i0 : (0 : Int) ≤ (k : Int) := by omega
  have i1 : (k : Int) < 18 := by omega
  have h1 := H.c1 k hk
  have h2 := H.c2 k hk
  have HK := Lib.hid (fun (w' : World) (hb : Below w.heap.size w w') => kids_any (k : Int) w' (C.keep hb))
  have hix : ixO (k : Int) = k := by unfold ixO; rw [if_pos ⟨i0, i1⟩]; rfl
  have hcn : cnO (k : Int) = (kdT.getD k []).length := by unfold cnO kdO; rw [hix]
  have hc4 := cn_all k hk
  rw [hix, hcn] at HK
  generalize hg : (fun j => kdC k j) = g
  have hg' : ∀ j, kdC k j = g j := fun j => by rw [← hg]
  simp only [hg'] at HK
  generalize (kdT.getD k []).length = c at *
  generalize fdC k 0 = f0 at *
  generalize fdC k 1 = f1 at *
  clear H C hk hix hcn hg hg'
  have HF := Lib.hid (fdP_step f0 f1)
  have ki0 : ∀ W, (Instr.index 90 (.agg #[.int .i64 f0, .int .i64 f1]) (.int .i64 0)).run Tryz.prog W = .ok (.int .i64 f0) W := fun W => by kernel_rfl
  have ki1 : ∀ W, (Instr.index 90 (.agg #[.int .i64 f0, .int .i64 f1]) (.int .i64 1)).run Tryz.prog W = .ok (.int .i64 f1) W := fun W => by kernel_rfl
  go_enter Tryz.func91, Tryz.ntmps91
  go_wp2_with fail
  go_loopw [3, 13] (fun va vj wx => ∃ j : Nat, j ≤ 2 ∧ vj = .int .i64 j ∧ YtdmdgoeacafpiaaGreatDoor.Own wx w.heap.size va (fdP f0 f1 j) ∧ Below w.heap.size w wx) (fun _ vj _ => 2 - (RowKit.intOf vj).toNat)
  case atStart => exact ⟨0, by omega, rfl, by simpa [fdP] using YtdmdgoeacafpiaaGreatDoor.Own.nil _ _, Below.refl _ _⟩
  case round =>
    obtain ⟨j, hj, rfl, hown, hb⟩ := hrel
    have HB := Lib.hid hb
    have HO := Lib.hid hown
    have hlen := fdP_len f0 f1 j
    obtain ⟨va, ca, rfl⟩ := Own.sliceI hown
    match j, hj with
    | 0, _ =>
      by_cases hz : f0 = 0
      · have hz' : ((f0 : Int) == 0) = true := by simp [hz]
        have HZ := Lib.hid hz
        clear hown hb hz
        go_wp2_with fail
        go_roundw
        case rel => exact ⟨1, by omega, by go_num, by rw [HF.out.1, if_neg (by simp [HZ.out]), List.append_nil]; exact HO.out, HB.out⟩
        case measure => simp [RowKit.intOf]
      · have hz' : ((f0 : Int) == 0) = false := by simp; omega
        have HZ := Lib.hid hz
        clear hz
        have hsz := HB.out.size
        clear hown hb
        go_wp2_with (at_builtin; refine wpList_append_ints rfl _ _ rfl w.heap.size _ (fdP f0 f1 0) rfl (HO.out.grown (newB _ _)) _ [(f0 : Int)] rfl (slN_one _ _ _) (by simp; omega) (by simp; omega) ?_; intro v' w1 ho hgr hat; have HO1 := Lib.hid ho; have HB1 := Lib.hid (below_ints (onB HB.out (newB _ _)) (HO.out.grown (newB _ _)) (Nat.le_refl _) (by simp; omega) hgr); clear ho hgr hat)
        go_roundw
        case rel => exact ⟨1, by omega, by go_num, by rw [HF.out.1, if_pos HZ.out]; exact HO1.out, HB1.out⟩
        case measure => simp [RowKit.intOf]
    | 1, _ =>
      by_cases hz : f1 = 0
      · have hz' : ((f1 : Int) == 0) = true := by simp [hz]
        have HZ := Lib.hid hz
        clear hown hb hz
        go_wp2_with fail
        go_roundw
        case rel => exact ⟨2, by omega, by go_num, by rw [HF.out.2, if_neg (by simp [HZ.out]), List.append_nil]; exact HO.out, HB.out⟩
        case measure => simp [RowKit.intOf]
      · have hz' : ((f1 : Int) == 0) = false := by simp; omega
        have HZ := Lib.hid hz
        clear hz
        have hsz := HB.out.size
        clear hown hb
        go_wp2_with (at_builtin; refine wpList_append_ints rfl _ _ rfl w.heap.size _ (fdP f0 f1 1) rfl (HO.out.grown (newB _ _)) _ [(f1 : Int)] rfl (slN_one _ _ _) (by simp; omega) (by simp; omega) ?_; intro v' w1 ho hgr hat; have HO1 := Lib.hid ho; have HB1 := Lib.hid (below_ints (onB HB.out (newB _ _)) (HO.out.grown (newB _ _)) (Nat.le_refl _) (by simp; omega) hgr); clear ho hgr hat)
        go_roundw
        case rel => exact ⟨2, by omega, by go_num, by rw [HF.out.2, if_pos HZ.out]; exact HO1.out, HB1.out⟩
        case measure => simp [RowKit.intOf]
    | 2, _ =>
      clear hown hb
      have HKr := Lib.hid (HK.out _ HB.out)
      go_wp2_with fail
      refine HKr.out.mono ?_
      rintro e w1 ⟨kb, kc, rfl, hk1, hk2, hk3, hbk⟩
      have HB1 := Lib.hid (onB HB.out hbk)
      have HO1 := Lib.hid (HO.out.grown hbk)
      have HC1 := Lib.hid hk3
      have hkb : kb < w1.heap.size := hk2
      have HNe : Hid (∀ k', (Value.slice va (fdP f0 f1 2).length ca).ownBlock = some k' → k' ≠ kb) := Lib.hid (fun k' hk' => by
        have := (World.ownsRow.lt HO.out k' hk').2
        omega)
      clear hk1 hk2 hk3 hbk
      have c0 : (0 : Int) ≤ (c : Int) := by omega
      have c1 : (c : Int) ≤ 4 := by omega
      go_wp2_with fail
      go_loopw [3, 6, 26] (fun va vm vi wx => ∃ i : Nat, i ≤ c ∧ vi = .int .i64 i ∧ vm = .int .i64 (if i = 0 then 3 else 4) ∧ YtdmdgoeacafpiaaGreatDoor.Own wx w.heap.size va (fdP f0 f1 2 ++ kdP g i) ∧ Below w.heap.size w wx ∧ (∀ j, j < c → wx.cell? ⟨kb, 1 + j, none⟩ = some (.int .i64 (g j))) ∧ (∀ k', va.ownBlock = some k' → k' ≠ kb)) (fun _ _ vi _ => c - (RowKit.intOf vi).toNat)
      case atStart => exact ⟨0, by omega, rfl, rfl, by simpa [kdP] using HO1.out, HB1.out, HC1.out, HNe.out⟩
      case round =>
        obtain ⟨i, hi, rfl, rfl, hown2, hb2, hcs, hne⟩ := hrel
        have HB2 := Lib.hid hb2
        have HO2 := Lib.hid hown2
        have HC2 := Lib.hid hcs
        have HN2 := Lib.hid hne
        have hlen2 := kdP_len g i
        obtain ⟨F, hF⟩ : ∃ F, F = fdP f0 f1 2 := ⟨_, rfl⟩
        have hFl : F.length ≤ 2 := by rw [hF]; exact fdP_len _ _ _
        obtain ⟨va2, ca2, rfl⟩ := Own.sliceI hown2
        rw [← hF] at HO2 HN2 ⊢
        have HF2 := Lib.hid hF
        have hbase := HB2.out.size
        by_cases hlt : i < c
        · have hcl := hcs i hlt
          have HE : Hid (kdP g (i + 1) = kdP g i ++ [if i = 0 then 3 else 4, (g i : Int)]) := Lib.hid rfl
          have HM : Hid ((4 : Int) = (if i + 1 = 0 then (3 : Int) else 4)) := Lib.hid (by rw [if_neg (by omega)])
          generalize (if i = 0 then (3 : Int) else 4) = mk at *
          have i2 : (0 : Int) ≤ (i : Int) := by omega
          have i3 : (i : Int) < (c : Int) := by omega
          have i4 : i < c := hlt
          clear hown2 hb2 hlt hcs hne hF
          generalize hL : kdP g i = L at *
          have HL := Lib.hid hL
          clear hL
          have HKl : Hid (∀ j, j < c → kb < wr.heap.size) := Lib.hid (fun j hj => ltT (HC2.out j hj))
          go_wp2_with (at_builtin; refine wpList_append_ints rfl _ _ rfl w.heap.size _ (F ++ L) rfl (HO2.out.grown (newB _ _)) _ [mk, (g i : Int)] rfl (slN_two _ _ _ _) (by simp; omega) (by simp; omega) ?_; intro v' w3 ho hgr hat; have HO3 := Lib.hid ho; have HB3 := Lib.hid (below_ints (onB HB2.out (newB _ _)) (HO2.out.grown (newB _ _)) (Nat.le_refl _) (by simp; omega) hgr); have HG3 := Lib.hid hgr; have HA3 := Lib.hid hat; clear ho hgr hat)
          go_roundw
          case rel =>
            refine ⟨i + 1, by omega, by go_num, by rw [← HM.out], by rw [HE.out]; first | exact HO3.out | (rw [← List.append_assoc]; exact HO3.out), HB3.out, fun j hj => ?_, fun k' hk' => ?_⟩
            · exact cell_kept_ne HG3.out (newT (HC2.out j hj) _) (fun e => HN2.out _ e rfl)
            · rcases HA3.out with e | e
              · exact HN2.out k' (e.symm.trans hk')
              · have := HKl.out i i4
                rw [e] at hk'
                injection hk' with hk'
                rw [World.size_alloc] at hk'
                omega
          case measure => simp [RowKit.intOf]; omega
        · have hic : i = c := by omega
          clear hcs hne hlt hb2
          subst hic
          have HO2' := HO2.out
          rw [HF2.out] at HO2'
          have HO4 := Lib.hid HO2'
          clear HO2' hown2
          by_cases hz : i = 0
          · subst hz
            have HZ : Hid (kdP g 0 = []) := Lib.hid rfl
            clear hF
            go_wp2_with fail
            go_ret
            refine ⟨_, rfl, ?_, HB2.out⟩
            have := HO4.out
            simpa [kdP, HF2.out] using this
          · have hm : (if i = 0 then (3 : Int) else 4) = 4 := if_neg hz
            rw [hm]
            have HZ : Hid (¬ i = 0) := Lib.hid hz
            clear hz hm hF
            go_wp2_with (at_builtin; refine wpList_append_ints rfl _ _ rfl w.heap.size _ (F ++ kdP g i) rfl (HO2.out.grown (newB _ _)) _ [(5 : Int)] rfl (slN_one _ _ _) (by simp; omega) (by simp; omega) ?_; intro v' w3 ho hgr hat; have HO3 := Lib.hid ho; have HB3 := Lib.hid (below_ints (onB HB2.out (newB _ _)) (HO2.out.grown (newB _ _)) (Nat.le_refl _) (by simp; omega) hgr); clear ho hgr hat)
            go_ret
            refine ⟨_, rfl, ?_, HB3.out⟩
            have := HO3.out
            rw [HF2.out, List.append_assoc] at this
            first
              | exact this
              | (rw [if_neg HZ.out, List.append_assoc]; exact this)

end Go.Proofs.YtdmdgoeacafpiaaGreatDoor

namespace Go.Proofs.YtdmdgoeacafpiaaGreatDoor
open Go.RowKit Go.Lib
set_option linter.unusedVariables false
set_option linter.unusedSimpArgs false

/-- Behind an append to the nodes, and the store of the slice. -/
theorem PsR.pushN {w w1 : World} {P : Nat → Prop} {B : Nat} {s : ByteArray} {vn vd : Value} {m : Mc} (h : PsR w P B s vn vd m) {g n cap : Nat} {N : List Nd} (hg : w.grownBy w1 vn.ownBlock) (hn : OwnN w1 0 (.slice (some ⟨g, 0, none⟩) n cap) N) (hat : vn.ownBlock = some g ∨ w.heap.size ≤ g) :
    PsR (w1.setCell ⟨B, 1, none⟩ (.slice (some ⟨g, 0, none⟩) n cap)) P B s (.slice (some ⟨g, 0, none⟩) n cap) vd ⟨N, m.o, m.D⟩ ∧ KpP P w (w1.setCell ⟨B, 1, none⟩ (.slice (some ⟨g, 0, none⟩) n cap)) := by
  have hB := hg.block B h.blt (fun e => (h.bn B e.symm).1 rfl)
  have hc : ∀ i, w1.cell? ⟨B, i, none⟩ = w.cell? ⟨B, i, none⟩ := fun i => World.cell?_of_block (a := ⟨B, i, none⟩) hB
  have hd := World.ownsRow.kept h.hd hg h.ap.symm.ne
  have hgB : g ≠ B ∧ ¬ P g := by
    rcases hat with e | e
    · exact h.bn g e
    · have := h.blt
      exact ⟨by omega, fun hP => by have := h.lt g hP; omega⟩
  have hbn : ∀ k, (Value.slice (some ⟨g, 0, none⟩) n cap).ownBlock = some k → k ≠ B ∧ ¬ P k := fun k hk => by
    cases hk; exact hgB
  have hap : Ap2 (.slice (some ⟨g, 0, none⟩) n cap) vd := fun k hk => by
    cases hk
    rcases hat with e | e
    · exact h.ap g e
    · intro e2
      have := (World.ownsRow.lt h.hd g e2).2
      omega
  have hs := set_grown w1 ⟨B, 1, none⟩ (.slice (some ⟨g, 0, none⟩) n cap)
  have hlt : ∀ k, P k → k < w1.heap.size := fun k hk => Nat.lt_of_lt_of_le (h.lt k hk) hg.size
  refine ⟨⟨(cell_far (.inr (by omega))).trans ((hc 0).trans h.c0), cell_here ((hc 1).trans h.c1), (cell_far (.inr (by omega))).trans ((hc 2).trans h.c2), (cell_far (.inr (by omega))).trans ((hc 3).trans h.c3), fun j => by rw [World.frozen?_setCell]; exact (World.frozen?_of_block (a := ⟨B, j, none⟩) hB).trans (h.fr j), hn.kept hs (ne_row (fun j hj => (hbn j hj).1)), World.ownsRow.kept hd hs (ne_row (fun j hj => (h.bd j hj).1)), hap, hbn, h.bd, h.nb, fun k hk => Nat.lt_of_lt_of_le (hlt k hk) hs.size⟩, ?_⟩
  exact (KpP.grown hg h.lt (fun k e => (h.bn k e).2)).trans (KpP.set _ _ _ hlt h.nb)
/-- Behind an append to what has to come, and the store of the slice. -/
theorem PsR.pushD {w w1 : World} {P : Nat → Prop} {B : Nat} {s : ByteArray} {vn vd : Value} {m : Mc} (h : PsR w P B s vn vd m) {vd' : Value} {D : List Nat} (hg : w.grownBy w1 vd.ownBlock) (hd : YtdmdgoeacafpiaaGreatDoor.Own w1 0 vd' (dueL D)) (hat : vd'.ownBlock = vd.ownBlock ∨ vd'.ownBlock = some w.heap.size) :
    PsR (w1.setCell ⟨B, 3, none⟩ vd') P B s vn vd' ⟨m.N, m.o, D⟩ ∧ KpP P w (w1.setCell ⟨B, 3, none⟩ vd') ∧ w1.cell? ⟨B, 3, none⟩ = some vd ∧ w1.frozen? ⟨B, 3, none⟩ = false := by
  have hB := hg.block B h.blt (fun e => (h.bd B e.symm).1 rfl)
  have hc : ∀ i, w1.cell? ⟨B, i, none⟩ = w.cell? ⟨B, i, none⟩ := fun i => World.cell?_of_block (a := ⟨B, i, none⟩) hB
  have hn := World.ownsRow.kept h.hn hg h.ap.ne
  have hlt : ∀ k, P k → k < w1.heap.size := fun k hk => Nat.lt_of_lt_of_le (h.lt k hk) hg.size
  have hbd : ∀ k, vd'.ownBlock = some k → k ≠ B ∧ ¬ P k := fun k hk => by
    rcases hat with e | e
    · exact h.bd k (e.symm.trans hk)
    · rw [e] at hk
      injection hk with hk
      have := h.blt
      exact ⟨by omega, fun hP => by have := h.lt k hP; omega⟩
  have hap : Ap2 vn vd' := fun k hk hk2 => by
    rcases hat with e | e
    · exact h.ap k hk (e.symm.trans hk2)
    · rw [e] at hk2
      injection hk2 with hk2
      have := (World.ownsRow.lt h.hn k hk).2
      omega
  have hs := set_grown w1 ⟨B, 3, none⟩ vd'
  refine ⟨⟨(cell_far (.inr (by omega))).trans ((hc 0).trans h.c0), (cell_far (.inr (by omega))).trans ((hc 1).trans h.c1), (cell_far (.inr (by omega))).trans ((hc 2).trans h.c2), cell_here ((hc 3).trans h.c3), fun j => by rw [World.frozen?_setCell]; exact (World.frozen?_of_block (a := ⟨B, j, none⟩) hB).trans (h.fr j), World.ownsRow.kept hn hs (ne_row (fun j hj => (h.bn j hj).1)), World.ownsRow.kept hd hs (ne_row (fun j hj => (hbd j hj).1)), hap, h.bn, hbd, h.nb, fun k hk => Nat.lt_of_lt_of_le (hlt k hk) hs.size⟩, ?_, (hc 3).trans h.c3, (World.frozen?_of_block (a := ⟨B, 3, none⟩) hB).trans (h.fr 3)⟩
  exact (KpP.grown hg h.lt (fun k e => (h.bd k e).2)).trans (KpP.set _ _ _ hlt h.nb)
theorem HdW.kp {P : Nat → Prop} {w w' : World} (h : HdW w) (hk : KpP P w w') (hP : P 0) : HdW w' :=
  ⟨fun k hk' => (hk.cell (a := ⟨_, _, none⟩) hP).trans (h.c0 k hk'), fun k hk' => (hk.cell (a := ⟨_, _, none⟩) hP).trans (h.c1 k hk'), fun k hk' => (hk.cell (a := ⟨_, _, none⟩) hP).trans (h.c2 k hk')⟩
theorem KndW.kp {P : Nat → Prop} {w w' : World} (h : KndW w) (hk : KpP P w w') (hP : P 2) : KndW w' :=
  ⟨fun k hk' => (hk.cell (a := ⟨_, _, none⟩) hP).trans (h.c0 k hk'), fun k hk' => (hk.cell (a := ⟨_, _, none⟩) hP).trans (h.c1 k hk'), fun k hk' => (hk.cell (a := ⟨_, _, none⟩) hP).trans (h.c2 k hk'), fun k hk' => (hk.cell (a := ⟨_, _, none⟩) hP).trans (h.c3 k hk'), fun k hk' => (hk.cell (a := ⟨_, _, none⟩) hP).trans (h.c4 k hk'), fun k hk' => (hk.cell (a := ⟨_, _, none⟩) hP).trans (h.c5 k hk'), fun k hk' => (hk.cell (a := ⟨_, _, none⟩) hP).trans (h.c6 k hk'), fun k hk' => (hk.cell (a := ⟨_, _, none⟩) hP).trans (h.c7 k hk')⟩
/-- Numbers of the call's own, the other way round. -/
theorem reverse_own {w : World} {base : Nat} {v : Value} {l : List Int} (h : YtdmdgoeacafpiaaGreatDoor.Own w base v l) (hl : l.length ≤ 100000) : Calls Tryz.prog 92 #[v] w fun e w' => e = .returned (.tuple #[]) ∧ YtdmdgoeacafpiaaGreatDoor.Own w' base v l.reverse ∧ Below base w w' := by
  by_cases h0 : l = []
  · subst h0
    obtain ⟨a, cap, rfl⟩ := Own.sliceI h
    refine (Tryz.slices_Reverse_int_empty a cap w).mono ?_
    rintro e w' ⟨rfl, rfl⟩
    exact ⟨rfl, h, Below.refl _ _⟩
  · have hv : v ≠ .slice none 0 0 := by
      intro e
      rcases h.2 with ⟨_, hn⟩ | ⟨g, cap, cur, e2, _⟩
      · exact h0 (List.length_eq_zero_iff.1 hn)
      · rw [e] at e2; cases e2
    obtain ⟨g, cap, rfl, hb, hgs, hn, hm, _, hH⟩ := Lib.holds_of_ownsRow (enc := Value.int .i64) h hv
    refine (Tryz.slices_Reverse_int g 0 cap l w hH (by omega)).mono ?_
    rintro e w' ⟨rfl, n, rfl⟩
    refine ⟨rfl, ?_, below_putRow (Below.refl _ _) hb⟩
    have h2 := ownsRow_putRow (q := n) (k := l.length) (ys := l.reverse) h (by simp) (Nat.le_refl _)
    unfold YtdmdgoeacafpiaaGreatDoor.Own
    rw [List.length_reverse]
    rw [show l.reverse.take l.length = l.reverse from List.take_of_length_le (by simp)] at h2
    exact h2
theorem dueL_beh (k : Nat) (D : List Nat) : dueL (bhN k ++ D) = dueL D ++ ((bhN k).map fun (p : Nat) => (p : Int)).reverse := by
  rw [dueL_app]
  unfold dueL
  rw [← List.map_reverse]
theorem bh_len : ∀ k : Fin 18, (bhN k.val).length ≤ 9 := by decide
theorem slN_own {w : World} {base : Nat} {v : Value} {l : List Int} (h : YtdmdgoeacafpiaaGreatDoor.Own w base v l) : SlN w v l := by
  rcases h.2 with ⟨rfl, hn⟩ | ⟨g, cap, cur, rfl, _⟩
  · exact .inr ⟨List.length_eq_zero_iff.1 hn, 0, rfl⟩
  · exact .inl ⟨_, cap, rfl, fun j z hz => World.ownsRow.cells h (g := g) rfl j z hz⟩
def ndV (n : Nd) : Array Value := #[.int .i64 n.op, .int .i64 n.a, .int .i64 n.b, .int .i64 n.num, .int .i64 n.den]
theorem nd_cells (w : World) (n : Nd) (e : TypeId) : NdC (w.alloc (.cells (ndV n) e)) w.heap.size 0 n := by
  refine ⟨?_, ?_, ?_, ?_, ?_⟩
  all_goals rw [World.cell?_alloc_at _ _ _ _ rfl]
  all_goals rfl
set_option maxHeartbeats 1000000 in
set_option maxRecDepth 100000 in
theorem begin_no (P : Nat → Prop) (B : Nat) (s : ByteArray) (m : Mc) (n : Nd) (h : 64 ≤ m.N.length ∨ 12 ≤ m.o) (hN : m.N.length ≤ 100000) (w : World) (H : PsM w P B s m) : Calls Tryz.prog 63 #[.pointer (some ⟨B, 0, none⟩), .agg (ndV n)] w (TakeE P B s (15, m) w) := by
  obtain ⟨vn, vd, H⟩ := H
  obtain ⟨av, cv, rfl⟩ := H.hn.slice
  obtain ⟨N, o, D⟩ := m
  have H1 := H.keep (newB w (.cells (ndV n) 52))
  have c1 := H1.c1
  have c2 := H1.c2
  have HK := Lib.hid (KpP.of (newB w (.cells (ndV n) 52)) H.lt)
  clear H H1
  dsimp only at *
  unfold ndV at *
  by_cases h64 : 64 ≤ N.length
  · have i1 : (64 : Int) ≤ (N.length : Int) := by omega
    clear h c2
    go_enter Tryz.func63, Tryz.ntmps63
    go_wp2_with fail
    go_ret
    exact ⟨rfl, fun h => (by cases h), HK.out⟩
  · have i1 : ¬ (64 : Int) ≤ (N.length : Int) := by omega
    have i2 : (12 : Int) ≤ o := by omega
    clear h h64
    go_enter Tryz.func63, Tryz.ntmps63
    go_wp2_with fail
    go_ret
    exact ⟨rfl, fun h => (by cases h), HK.out⟩

set_option maxHeartbeats 4000000 in
set_option maxRecDepth 100000 in
theorem begin_yes (P : Nat → Prop) (B : Nat) (s : ByteArray) (m : Mc) (n : Nd) (k : Nat) (hk : k < 18) (hop : n.op = (k : Int)) (h1 : m.N.length < 64) (h2 : m.o < 12) (hD : m.D.length ≤ 10000) (w : World) (H : PsM w P B s m) (Hd : HdW w) (C : KndW w) (hPk : P 0 ∧ P 2) :
    Calls Tryz.prog 63 #[.pointer (some ⟨B, 0, none⟩), .agg (ndV n)] w (TakeE P B s (0, ⟨m.N ++ [n], m.o, bhN k ++ m.D⟩) w) := by
  obtain ⟨vn, vd, H⟩ := H
  obtain ⟨N, o, D⟩ := m
  obtain ⟨op, na, nb, num, den⟩ := n
  dsimp only at hop
  subst hop
  have HB0 := Lib.hid (newB w (.cells (ndV ⟨(k : Int), na, nb, num, den⟩) 52))
  have HP0 := Lib.hid (H.keep (newB w (.cells (ndV ⟨(k : Int), na, nb, num, den⟩) 52)))
  have HNd := Lib.hid (nd_cells w ⟨(k : Int), na, nb, num, den⟩ 52)
  have HHd := Lib.hid (Hd.keep HB0.out)
  have HC := Lib.hid (C.keep HB0.out)
  have HL0 := Lib.hid H.lt
  have hsz0 : (w.alloc (.cells (ndV ⟨(k : Int), na, nb, num, den⟩) 52)).heap.size = w.heap.size + 1 := by simp
  have HBw := Lib.hid H.blt
  have HHd0 := Lib.hid Hd
  have HC0 := Lib.hid C
  have HVl : Hid (∀ j, vn.ownBlock = some j → j < w.heap.size) := Lib.hid (fun j hj => (World.ownsRow.lt H.hn j hj).2)
  clear H Hd C
  dsimp only at *
  unfold ndV at *
  go_enter Tryz.func63, Tryz.ntmps63
  have c1 := HP0.out.c1
  have c2 := HP0.out.c2
  have f1 := HP0.out.fr 1
  obtain ⟨av, cv, rfl⟩ := HP0.out.hn.slice
  have i1 : ¬ (64 : Int) ≤ (N.length : Int) := by omega
  have i2 : ¬ (12 : Int) ≤ o := by omega
  dsimp only at c1
  go_upto_region 3 with fail
  clear c2
  obtain ⟨n0, n1, n2, n3, n4⟩ := HNd.out
  generalize hW0 : w.alloc (.cells #[.int .i64 (k : Int), .int .i64 na, .int .i64 nb, .int .i64 num, .int .i64 den] 52) = W0 at *
  have hown := HP0.out.hn
  have hap := HP0.out.ap
  have hbn := HP0.out.bn
  have hBlt := HP0.out.blt
  dsimp only at hown
  unfold OwnN at hown
  have HZ0 := Lib.hid hsz0
  clear hsz0
  have nB : some B ≠ (Value.slice av N.length cv).ownBlock := fun e => (hbn B e.symm).1 rfl
  have h63 : N.length + 1 ≤ maxLen := by unfold maxLen; omega
  have hby : (N.length + 1) * 40 ≤ 140737488355328 := by omega
  have hbs : 0 ≤ (W0.drew.alloc (.cells #[.int .i64 (k : Int), .int .i64 na, .int .i64 nb, .int .i64 num, .int .i64 den] 52)).heap.size := Nat.zero_le _
  obtain ⟨i0, hi0, hz0, hz1, hz2⟩ := info_parts infoND
  have hn1 : Below W0.heap.size W0 (W0.alloc (.cells #[.int .i64 (k : Int), .int .i64 na, .int .i64 nb, .int .i64 num, .int .i64 den] 52)).drew := (newB W0 _).drew
  have f1a := keepT (newB W0 (.cells #[.int .i64 (k : Int), .int .i64 na, .int .i64 nb, .int .i64 num, .int .i64 den] 52)) c1
  have hf1 : (W0.alloc (.cells #[.int .i64 (k : Int), .int .i64 na, .int .i64 nb, .int .i64 num, .int .i64 den] 52)).drew.frozen? ⟨B, 1, none⟩ = false := (hn1.frozen (p := ⟨B, 1, none⟩) hBlt).trans f1
  go_region_law
    ((refine step_append_lies _ (by rfl) _ _ _ (by rfl) 0 52 i0 _ 5 40 Tryz.underlying23 hi0 hz0 hz1 hz2 rfl (by omega) (.slice av N.length cv) N.length (ndR N) (by rfl) (World.ownsRow.alloc (World.ownsRow.drew hown) _) ⟨W0.heap.size, 0, none⟩ 1 1 [.int .i64 (k : Int), .int .i64 na, .int .i64 nb, .int .i64 num, .int .i64 den] (by rfl) (by rfl) (World.news_of_block (cs := #[.int .i64 (k : Int), .int .i64 na, .int .i64 nb, .int .i64 num, .int .i64 den]) (t := 52) (fr := (0, 0)) (heap_alloc_new W0.drew _)) (by simp [Value.oneCell']) (by omega) h63 hby hbs (W0.heap.size + 1) (by simp) ?_
      intro g cap2 w1 hown1 hgrow hat hlt2
      have s1 : w1.cell? ⟨B, 1, none⟩ = some (.slice av N.length cv) := by rw [hgrow.cell_far ⟨B, 1, none⟩ (by simp; omega) nB]; exact keepT hn1 c1
      have e2 : w1.frozen? ⟨B, 1, none⟩ = false := by rw [hgrow.frozen_far ⟨B, 1, none⟩ (by simp; omega) nB]; exact hf1))
  all_goals
    have hnw : OwnN w1 0 (.slice (some ⟨g, 0, none⟩) (N.length + 1) cap2) (N ++ [⟨(k : Int), na, nb, num, den⟩]) := by
      unfold OwnN
      rw [show (N ++ [(⟨(k : Int), na, nb, num, den⟩ : Nd)]).length = N.length + 1 by simp, ndR_app, show ndR [(⟨(k : Int), na, nb, num, den⟩ : Nd)] = ndL ⟨(k : Int), na, nb, num, den⟩ by simp [ndR]]
      exact hown1
    have hpn := PsR.pushN (HP0.out.keep hn1) hgrow hnw (by
      rcases hat with e | e
      · exact .inl e
      · right
        rw [e]
        show (W0.alloc _).heap.size ≤ _
        simp)
    have HP1 := Lib.hid hpn.1
    have HK1 := Lib.hid ((KpP.of (HB0.out) HL0.out).trans ((KpP.of hn1 HP0.out.lt).trans hpn.2))
    have n0' : (w1.setCell ⟨B, 1, none⟩ (.slice (some ⟨g, 0, none⟩) (N.length + 1) cap2)).cell? ⟨w.heap.size, 0, none⟩ = some (.int .i64 (k : Int)) := by
      have hbw := HBw.out
      rw [cell_far (.inl (by omega)), hgrow.cell_far ⟨w.heap.size, 0, none⟩ (by have := HZ0.out; simp; omega) (fun e => Nat.lt_irrefl _ (HVl.out w.heap.size e.symm))]
      exact keepT hn1 n0
    clear hnw hpn hown1 hgrow hat hlt2 s1 e2 f1a hf1
    generalize w1.setCell ⟨B, 1, none⟩ (.slice (some ⟨g, 0, none⟩) (N.length + 1) cap2) = W1 at *
    have HBh := Lib.hid (behind_any k hk W1 (HHd0.out.kp HK1.out hPk.1) (HC0.out.kp HK1.out hPk.2))
    have h9 := bh_len ⟨k, hk⟩
    dsimp only at h9
    clear c1 n0 n1 n2 n3 n4 hap hbn nB hown hn1 hbs h63 hby f1
    go_wp2_with fail
    refine HBh.out.mono ?_
    rintro e w2 ⟨v, rfl, hv, hb2⟩
    have HP2 := Lib.hid (HP1.out.keep hb2)
    have HK2 := Lib.hid (HK1.out.trans (KpP.of hb2 HP1.out.lt))
    have HRv := Lib.hid (reverse_own hv (by simp; omega))
    clear hv n0'
    go_wp2_with fail
    refine HRv.out.mono ?_
    rintro e w3 ⟨rfl, hv3, hb3⟩
    have hb13 := hb2.trans hb3
    have HP3 : Hid (PsR w3 P B s (.slice (some ⟨g, 0, none⟩) (N.length + 1) cap2) vd ⟨N ++ [⟨(k : Int), na, nb, num, den⟩], o, D⟩) := Lib.hid (HP1.out.keep hb13)
    have HK3 := Lib.hid (HK1.out.trans (KpP.of hb13 HP1.out.lt))
    have HV3 := Lib.hid hv3
    have c3 := HP3.out.c3
    have hlen : (dueL D).length ≤ 10000 := by rw [dueL_len]; exact hD
    have HDu := Lib.hid (dueL_beh k D)
    clear hb2 hb3 hb13 hv3
    generalize hbl : ((bhN k).map fun (p : Nat) => (p : Int)).reverse = bl at *
    have hbl2 : bl.length ≤ 9 := by rw [← hbl]; simp; exact h9
    clear hbl h9
    go_wp2_with (at_builtin; refine wpList_append_ints rfl _ _ rfl 0 vd (dueL D) rfl HP3.out.hd _ bl rfl (slN_own HV3.out) (by omega) (Nat.zero_le _) ?_; intro vd' w4 ho hgr hat; obtain ⟨va', vn', vc', rfl⟩ : ∃ a' n' c', vd' = .slice a' n' c' := (Own.sliceI ho).elim fun a' h => h.elim fun c' h => ⟨a', _, c', h⟩; have hpd := PsR.pushD (D := bhN k ++ D) HP3.out hgr (by rw [HDu.out]; exact ho) hat; have HP4 := Lib.hid hpd.1; have HK4 := Lib.hid (HK3.out.trans hpd.2.1); have c4 := hpd.2.2.1; have f4 := hpd.2.2.2; clear hpd ho hgr hat c3)
    go_ret
    exact ⟨rfl, fun _ => ⟨_, _, HP4.out⟩, HK4.out⟩

end Go.Proofs.YtdmdgoeacafpiaaGreatDoor

namespace Go.Proofs.YtdmdgoeacafpiaaGreatDoor
open Go.RowKit Go.Lib
set_option linter.unusedVariables false
set_option linter.unusedSimpArgs false

theorem begin_any (P : Nat → Prop) (B : Nat) (s : ByteArray) (m : Mc) (n : Nd) (k : Nat) (hk : k < 18) (hop : n.op = (k : Int)) (hN : m.N.length ≤ 64) (hD : m.D.length ≤ 10000) (w : World) (H : PsM w P B s m) (Hd : HdW w) (C : KndW w) (hPk : P 0 ∧ P 2) :
    Calls Tryz.prog 63 #[.pointer (some ⟨B, 0, none⟩), .agg (ndV n)] w (TakeE P B s (begM n k m) w) := by
  unfold begM
  by_cases h : 64 ≤ m.N.length ∨ 12 ≤ m.o
  · rw [if_pos h]; exact begin_no P B s m n h (by omega) w H
  · rw [if_neg h]; exact begin_yes P B s m n k hk hop (by omega) (by omega) hD w H Hd C hPk
/-- The whole table as a value. -/
def hdA : List Value := (List.range 18).flatMap fun k => [.string ⟨(wdN k).toArray⟩, .int .i64 (fdC k 0), .int .i64 (fdC k 1)]
theorem hdA_len : ∀ n : Nat, ((List.range n).flatMap fun k => [Value.string ⟨(wdN k).toArray⟩, .int .i64 (fdC k 0), .int .i64 (fdC k 1)]).length = n * 3
  | 0 => rfl
  | n + 1 => by
    rw [List.range_succ, List.flatMap_append, List.length_append, hdA_len n]
    simp; omega
theorem hdA_get : ∀ (n j : Nat), ((List.range n).flatMap fun k => [Value.string ⟨(wdN k).toArray⟩, .int .i64 (fdC k 0), .int .i64 (fdC k 1)])[j]? = if j < n * 3 then [Value.string ⟨(wdN (j / 3)).toArray⟩, .int .i64 (fdC (j / 3) 0), .int .i64 (fdC (j / 3) 1)][j % 3]? else none
  | 0, j => by simp
  | n + 1, j => by
    have hl := hdA_len n
    rw [List.range_succ, List.flatMap_append]
    by_cases h : j < n * 3
    · rw [List.getElem?_append_left (by omega), hdA_get n j, if_pos h, if_pos (by omega)]
    · rw [List.getElem?_append_right (by omega), hl]
      by_cases h2 : j < (n + 1) * 3
      · rw [if_pos h2, show j / 3 = n by omega, show j - n * 3 = j % 3 by omega]
        simp
      · rw [if_neg h2, List.getElem?_eq_none (by simp; omega)]
theorem hd_load (w : World) (H : HdW w) : (loadVar 93 ⟨0, 0, none⟩).run Tryz.prog w = .ok (.agg hdA.toArray) w := by
  have hl : (loadCells ⟨0, 0, none⟩ hdA.length).run Tryz.prog w = .ok hdA.toArray w :=
    run_loadCells_list (P := Tryz.prog) w ⟨0, 0, none⟩ hdA (fun j v hv => by
      unfold hdA at hv
      rw [hdA_get] at hv
      by_cases h : j < 18 * 3
      · rw [if_pos h] at hv
        obtain ⟨q, r, hr, rfl⟩ : ∃ q r, r < 3 ∧ j = q * 3 + r := ⟨j / 3, j % 3, by omega, by omega⟩
        rw [show (q * 3 + r) / 3 = q by omega, show (q * 3 + r) % 3 = r by omega] at hv
        rw [Go.WideShapes.add_plain, Nat.zero_add]
        match r, hr, hv with
        | 0, _, hv => rw [Nat.add_zero, H.c0 q (by omega)]; exact hv
        | 1, _, hv => rw [H.c1 q (by omega)]; exact hv
        | 2, _, hv => rw [H.c2 q (by omega)]; exact hv
      · rw [if_neg h] at hv; cases hv)
  rw [show hdA.length = 54 by rfl] at hl
  have hu : Tryz.prog.underlying 93 = some (.array 18 92) := Tryz.underlying93
  have hi : (Tryz.prog.info? 93).map (·.size) = some 54 := by kernel_rfl
  cases hq : Tryz.prog.info? 93 with
  | none => simp [hq] at hi
  | some i =>
    have hs : i.size = 54 := by simpa [hq] using hi
    have hagg : (isAgg 93).run Tryz.prog w = .ok true w := by
      unfold isAgg
      rw [Sem.run_bind, run_underlying hu w]
      rfl
    simp [loadVar, Sem.run_bind, hagg, sizeOf, typeInfo, hq, hs, hl]
theorem wpList_load_heads {w : World} {ops : Array Oper} {rest : List Oper} {o : Oper} {a : Act} {Q : Exit → Act → World → Prop} (A : Array Value) (hgd : o.guard = none) (ho : o.op = .load 93 (.global 0))
    (hl : (loadVar 93 ⟨0, 0, none⟩).run Tryz.prog w = .ok (.agg A) w) (h : wpList Tryz.prog ops Q rest (a.put o.dst (.agg A)) w) : wpList Tryz.prog ops Q (o :: rest) a w := by
  refine wpList_plain hgd fun K hK => ?_
  unfold Oper.wp execOp
  have hx : a.eval (.global 0) = .pointer (some ⟨0, 0, none⟩) := rfl
  simp only [ho, hx, Instr.loadAt, Instr.sureAddr, Sem.run_bind, Sem.run_pure, Result.andThen_ok, hl]
  exact hK _ _ h
theorem hd_index (k : Nat) (hk : k < 18) (w : World) : (Instr.index 93 (.agg hdA.toArray) (.int .i64 (k : Int))).run Tryz.prog w = .ok (.agg #[.string ⟨(wdN k).toArray⟩, .int .i64 (fdC k 0), .int .i64 (fdC k 1)]) w :=
  match k, hk with
  | 0, _ => by kernel_rfl
  | 1, _ => by kernel_rfl
  | 2, _ => by kernel_rfl
  | 3, _ => by kernel_rfl
  | 4, _ => by kernel_rfl
  | 5, _ => by kernel_rfl
  | 6, _ => by kernel_rfl
  | 7, _ => by kernel_rfl
  | 8, _ => by kernel_rfl
  | 9, _ => by kernel_rfl
  | 10, _ => by kernel_rfl
  | 11, _ => by kernel_rfl
  | 12, _ => by kernel_rfl
  | 13, _ => by kernel_rfl
  | 14, _ => by kernel_rfl
  | 15, _ => by kernel_rfl
  | 16, _ => by kernel_rfl
  | 17, _ => by kernel_rfl
  | k + 18, h => absurd h (by omega)
theorem takeE_mono {P : Nat → Prop} {B : Nat} {s : ByteArray} {r : Nat × Mc} {w w1 : World} (hk : KpP P w w1) {e : Ending} {w' : World} (h : TakeE P B s r w1 e w') : TakeE P B s r w e w' := ⟨h.1, h.2.1, hk.trans h.2.2⟩
theorem findW_hit {w : List UInt8} {s k : Nat} (h : findW w s k = none) (h1 : wdN k = w) (h2 : mkT.getD k 0 = s) : findW w s (k + 1) = some k := by
  rw [findW, h]; simp only; rw [if_pos ⟨h1, h2⟩]
theorem findW_miss {w : List UInt8} {s k : Nat} (h : findW w s k = none) (h1 : ¬ (wdN k = w ∧ mkT.getD k 0 = s)) : findW w s (k + 1) = none := by
  rw [findW, h]; simp only; rw [if_neg h1]
theorem findW_stay {w : List UInt8} {s j k : Nat} (h : findW w s j = some k) : ∀ m, j ≤ m → findW w s m = some k
  | 0, hm => by obtain rfl : j = 0 := by omega
                exact h
  | m + 1, hm => by
    by_cases e : j = m + 1
    · rw [← e]; exact h
    · have := findW_stay h m (by omega)
      rw [findW, this]

set_option maxHeartbeats 4000000 in
set_option maxRecDepth 100000 in
theorem word_any (P : Nat → Prop) (B : Nat) (s : ByteArray) (m : Mc) (hN : m.N.length ≤ 64) (hD : m.D.length ≤ 10000) (sort : Nat) (hs : sort ≤ 10) (l : List UInt8) (w : World) (H : PsM w P B s m) (Hd : HdW w) (C : KndW w) (hPk : P 0 ∧ P 2) :
    Calls Tryz.prog 64 #[.pointer (some ⟨B, 0, none⟩), .int .i64 (sort : Int), .string ⟨l.toArray⟩] w (TakeE P B s (wordM sort l m) w) := by
  have hlt : ∀ k, P k → k < w.heap.size := by obtain ⟨_, _, h⟩ := H; exact h.lt
  have HL := Lib.hid hlt
  have HH := Lib.hid H
  have HD := Lib.hid Hd
  have HC := Lib.hid C
  have kl := hd_load w Hd
  have HI := Lib.hid (fun k hk w => hd_index k hk w)
  have HW : Hid (wordM sort l m = match findW l sort 18 with | some k => begM ⟨k, 0, 0, 0, 0⟩ k m | none => (13, m)) := Lib.hid rfl
  generalize wordM sort l m = R at *
  obtain ⟨A, hA⟩ : ∃ A, A = hdA.toArray := ⟨_, rfl⟩
  rw [← hA] at kl HI
  clear hA H Hd C hlt
  go_enter Tryz.func64, Tryz.ntmps64
  go_wp2_with (refine wpList_load_heads A rfl rfl kl ?_)
  clear kl
  go_loopw [10] (fun vk wx => ∃ k : Nat, k ≤ 18 ∧ vk = .int .i64 k ∧ findW l sort k = none ∧ Below w.heap.size w wx) (fun vk _ => 18 - (RowKit.intOf vk).toNat)
  case atStart => exact ⟨0, by omega, rfl, rfl, Below.refl _ _⟩
  case round =>
    obtain ⟨k, hk, rfl, hf, hb⟩ := hrel
    have HF := Lib.hid hf
    have HB := Lib.hid hb
    by_cases hlt : k < 18
    · have ki := HI.out k hlt
      have HSt := Lib.hid (fun (w' : World) (hb' : Below wr.heap.size wr w') => tsort_any (k : Int) w' ((HC.out.keep HB.out).keep hb'))
      have hix : ixO (k : Int) = k := by unfold ixO; rw [if_pos ⟨by omega, by omega⟩]; rfl
      rw [show mkO (k : Int) = mkT.getD k 0 by unfold mkO; rw [hix]] at HSt
      have HHit := Lib.hid (findW_hit (k := k) hf)
      have HMiss := Lib.hid (findW_miss (k := k) hf)
      have HBg := Lib.hid (fun (w' : World) (hb' : Below w.heap.size w w') => begin_any P B s m ⟨(k : Int), 0, 0, 0, 0⟩ k hlt rfl hN hD w' (HH.out.keep hb') (HD.out.keep hb') (HC.out.keep hb') hPk)
      rw [show ndV ⟨(k : Int), 0, 0, 0, 0⟩ = #[.int .i64 (k : Int), .int .i64 0, .int .i64 0, .int .i64 0, .int .i64 0] from rfl] at HBg
      have k0 : (0 : Int) ≤ (k : Int) := by omega
      have k1 : (k : Int) < 18 := by omega
      have HK := Lib.hid hlt
      have HNew := Lib.hid (newB wr)
      generalize hwd : wdN k = wd at *
      generalize hmt : mkT.getD k 0 = mt at *
      generalize fdC k 0 = f0 at *
      generalize fdC k 1 = f1 at *
      clear hix hf hb hwd hmt
      by_cases h1 : wd = l
      · subst h1
        by_cases h2 : mt = sort
        · subst h2
          have HR : Hid (R = begM ⟨k, 0, 0, 0, 0⟩ k m) := Lib.hid (by rw [HW.out, findW_stay (HHit.out rfl rfl) 18 (by have := HK.out; omega)])
          go_wp2_with fail
          refine (HSt.out _ (HNew.out _)).mono ?_
          rintro e w1 ⟨rfl, hb1⟩
          have HB1 := Lib.hid (onB HB.out (onB (HNew.out _) hb1))
          clear hb1
          go_wp2_with fail
          refine (HBg.out _ HB1.out).mono ?_
          rintro e w2 ⟨rfl, hq, hkp⟩
          have HQ := Lib.hid hq
          have HKp := Lib.hid hkp
          clear hq hkp
          go_wp2_with fail
          go_ret
          rw [HR.out]
          exact ⟨rfl, HQ.out, (KpP.of HB1.out HL.out).trans HKp.out⟩
        · have h2' : ((mt : Int) == (sort : Int)) = false := by simp; omega
          have HM := Lib.hid (HMiss.out (fun h => h2 h.2))
          clear h2
          go_wp2_with fail
          refine (HSt.out _ (HNew.out _)).mono ?_
          rintro e w1 ⟨rfl, hb1⟩
          have HB1 := Lib.hid (onB HB.out (onB (HNew.out _) hb1))
          clear hb1
          go_wp2_with fail
          go_roundw
          case rel => exact ⟨k + 1, by omega, by go_num, HM.out, HB1.out⟩
          case measure => simp [RowKit.intOf]; omega
      · have h1' : (wd == l) = false := by simpa using h1
        have HM := Lib.hid (HMiss.out (fun h => h1 h.1))
        go_wp2_with fail
        go_roundw
        case rel => exact ⟨k + 1, by omega, by go_num, HM.out, onB HB.out (HNew.out _)⟩
        case measure => simp [RowKit.intOf]; omega
    · obtain rfl : k = 18 := by omega
      have HR : Hid (R = (13, m)) := Lib.hid (by rw [HW.out, HF.out])
      clear hf hb
      go_wp2_with fail
      go_ret
      rw [HR.out]
      exact ⟨rfl, fun h => (by cases h), KpP.of HB.out HL.out⟩

end Go.Proofs.YtdmdgoeacafpiaaGreatDoor

namespace Go.Proofs.YtdmdgoeacafpiaaGreatDoor
open Go.RowKit Go.Lib
set_option linter.unusedVariables false
set_option linter.unusedSimpArgs false

/-- All tables. -/
structure TabW (w : World) : Prop where
  lib : LibW w
  cur : CurW w
  len : LenW w
  knd : KndW w
  hd : HdW w
theorem TabW.keep {w w' : World} (h : TabW w) (hb : Below w.heap.size w w') : TabW w' := ⟨h.lib.keep hb, h.cur.keep hb, h.len.keep hb, h.knd.keep hb, h.hd.keep hb⟩
/-- The tables, that lie below a place. -/
def Tb (n : Nat) (w : World) : Prop := ∃ w0 : World, w0.heap.size = n ∧ TabW w0 ∧ Below n w0 w
theorem Tb.start {w : World} (h : TabW w) : Tb w.heap.size w := ⟨w, rfl, h, Below.refl _ _⟩
theorem Tb.tab {n : Nat} {w : World} (h : Tb n w) : TabW w := by
  obtain ⟨w0, rfl, h1, h2⟩ := h
  exact h1.keep h2
theorem Tb.le {n : Nat} {w : World} (h : Tb n w) : n ≤ w.heap.size := by
  obtain ⟨w0, rfl, _, h2⟩ := h
  exact h2.size
theorem Tb.on {n : Nat} {w w' : World} (h : Tb n w) (hb : Below n w w') : Tb n w' := by
  obtain ⟨w0, e, h1, h2⟩ := h
  exact ⟨w0, e, h1, h2.trans hb⟩
theorem Tb.keep {n : Nat} {w w' : World} (h : Tb n w) (hb : Below w.heap.size w w') : Tb n w' := h.on (hb.mono h.le)
theorem Tb.kp {n : Nat} {P : Nat → Prop} {w w' : World} (h : Tb n w) (hk : KpP P w w') (hP : ∀ k, k < n → P k) : Tb n w' := h.on (hk.below hP)
theorem Tb.blk {n : Nat} {w : World} (h : Tb n w) : 0 < n ∧ 2 < n := by
  obtain ⟨w0, rfl, h1, h2⟩ := h
  exact ⟨ltT (h1.hd.c0 0 (by omega)), ltT (h1.knd.c0 0 (by omega))⟩

set_option maxHeartbeats 2000000 in
set_option maxRecDepth 100000 in
theorem observed_any (n0 : Nat) (P : Nat → Prop) (hP : ∀ k, k < n0 → P k) (B : Nat) (s : ByteArray) (m : Mc) (hN : m.N.length ≤ 64) (hD : m.D.length ≤ 10000) (l : List UInt8) (hl : l.length ≤ 3000) (w : World) (H : PsM w P B s m) (T : Tb n0 w) :
    Calls Tryz.prog 34 #[.pointer (some ⟨B, 0, none⟩), .string ⟨l.toArray⟩] w (TakeE P B s (partM 1 l m) w) := by
  show Calls _ _ _ _ (TakeE P B s (obsM l m) w)
  have hlt : ∀ k, P k → k < w.heap.size := by obtain ⟨_, _, h⟩ := H; exact h.lt
  have hPk : P 0 ∧ P 2 := ⟨hP _ T.blk.1, hP _ T.blk.2⟩
  have HL := Lib.hid hlt
  cases hr : ratW l with
  | none =>
    have HP := Lib.hid (parse_no l hl (ratW_none hr) w T.tab.lib)
    have HW := Lib.hid (fun (w' : World) (hb : Below w.heap.size w w') => word_any P B s m hN hD 1 (by omega) l w' (H.keep hb) (T.tab.hd.keep hb) (T.tab.knd.keep hb) hPk)
    have e : obsM l m = wordM 1 l m := by unfold obsM; rw [hr]
    rw [e]
    generalize wordM 1 l m = R at *
    clear H T hr e hlt hPk
    go_enter Tryz.func34, Tryz.ntmps34
    go_wp2_with fail
    refine HP.out.mono ?_
    rintro e w1 ⟨rfl, hb1⟩
    have HB1 := Lib.hid (onB hb1 (newB w1 (.cells #[.int .i64 0, .int .i64 0] 50)))
    clear hb1
    go_wp2_with fail
    refine (HW.out _ HB1.out).mono ?_
    rintro e w2 ⟨rfl, hq, hkp⟩
    have HQ := Lib.hid hq
    have HKp := Lib.hid hkp
    clear hq hkp
    go_wp2_with fail
    go_ret
    exact ⟨rfl, HQ.out, (KpP.of HB1.out HL.out).trans HKp.out⟩
  | some p =>
    obtain ⟨x, y⟩ := p
    obtain ⟨r1, r2, r3, r4⟩ := ratW_some hr
    have HP := Lib.hid (parse_yes l hl x y r1 r2 r3 r4 w T.tab.lib)
    have HW := Lib.hid (fun (w' : World) (hb : Below w.heap.size w w') => begin_any P B s m ⟨1, 0, 0, x, y⟩ 1 (by omega) rfl hN hD w' (H.keep hb) (T.tab.hd.keep hb) (T.tab.knd.keep hb) hPk)
    rw [show ndV ⟨1, 0, 0, x, y⟩ = #[.int .i64 1, .int .i64 0, .int .i64 0, .int .i64 x, .int .i64 y] from rfl] at HW
    have e : obsM l m = begM ⟨1, 0, 0, x, y⟩ 1 m := by unfold obsM; rw [hr]
    rw [e]
    generalize begM ⟨1, 0, 0, x, y⟩ 1 m = R at *
    clear H T hr e hlt hPk r1 r2 r3 r4
    go_enter Tryz.func34, Tryz.ntmps34
    go_wp2_with fail
    refine HP.out.mono ?_
    rintro e w1 ⟨rfl, hb1⟩
    have HB1 := Lib.hid (onB hb1 (newB w1 (.cells #[.int .i64 x, .int .i64 y] 50)))
    clear hb1
    go_wp2_with fail
    refine (HW.out _ HB1.out).mono ?_
    rintro e w2 ⟨rfl, hq, hkp⟩
    have HQ := Lib.hid hq
    have HKp := Lib.hid hkp
    clear hq hkp
    go_wp2_with fail
    go_ret
    exact ⟨rfl, HQ.out, (KpP.of HB1.out HL.out).trans HKp.out⟩
set_option maxHeartbeats 1000000 in
theorem contract_any (n0 : Nat) (P : Nat → Prop) (hP : ∀ k, k < n0 → P k) (B : Nat) (s : ByteArray) (m : Mc) (hN : m.N.length ≤ 64) (hD : m.D.length ≤ 10000) (l : List UInt8) (w : World) (H : PsM w P B s m) (T : Tb n0 w) :
    Calls Tryz.prog 35 #[.pointer (some ⟨B, 0, none⟩), .string ⟨l.toArray⟩] w (TakeE P B s (partM 2 l m) w) := by
  show Calls _ _ _ _ (TakeE P B s (wordM 2 l m) w)
  have HW := Lib.hid (word_any P B s m hN hD 2 (by omega) l w H T.tab.hd T.tab.knd ⟨hP _ T.blk.1, hP _ T.blk.2⟩)
  generalize wordM 2 l m = R at *
  clear H T
  go_enter Tryz.func35, Tryz.ntmps35
  go_wp2_with fail
  refine HW.out.mono ?_
  rintro e w2 ⟨rfl, hq, hkp⟩
  have HQ := Lib.hid hq
  have HKp := Lib.hid hkp
  clear hq hkp
  go_wp2_with fail
  go_ret
  exact ⟨rfl, HQ.out, HKp.out⟩

/-- What the last node's field asks and leaves. -/
theorem last_set (n0 : Nat) (P : Nat → Prop) (B : Nat) (s : ByteArray) (N : List Nd) (n : Nd) (hN : N.length ≤ 100000) (o : Int) (D : List Nat) (w : World) (H : PsM w P B s ⟨N ++ [n], o, D⟩) :
    ∃ g vd cap, PsR w P B s (.slice (some ⟨g, 0, none⟩) (N.length + 1) cap) vd ⟨N ++ [n], o, D⟩ ∧ Calls Tryz.prog 67 #[.pointer (some ⟨B, 0, none⟩)] w fun e w' => e = .returned (.pointer (some ⟨g, N.length * 5, none⟩)) ∧ Below w.heap.size w w' := by
  obtain ⟨vn, vd, H⟩ := H
  obtain ⟨g, cap, rfl, h⟩ := last_any P B s N n hN o D vn vd w H
  exact ⟨g, vd, cap, H, h⟩

set_option maxHeartbeats 2000000 in
set_option maxRecDepth 100000 in
theorem name_any (n0 : Nat) (P : Nat → Prop) (B : Nat) (s : ByteArray) (m : Mc) (hN : m.N.length ≤ 64) (hne : m.N ≠ []) (l : List UInt8) (w : World) (H : PsM w P B s m) (T : Tb n0 w) :
    Calls Tryz.prog 39 #[.pointer (some ⟨B, 0, none⟩), .string ⟨l.toArray⟩] w (TakeE P B s (partM 6 l m) w) := by
  show Calls _ _ _ _ (TakeE P B s (nameM l m) w)
  obtain ⟨N', o, D⟩ := m
  dsimp only at hne hN
  obtain ⟨N, n, rfl⟩ : ∃ N n, N' = N ++ [n] := ⟨N'.dropLast, N'.getLast hne, (List.dropLast_concat_getLast hne).symm⟩
  have hN' : N.length ≤ 64 := by simp at hN; omega
  have hlt : ∀ k, P k → k < w.heap.size := by obtain ⟨_, _, h⟩ := H; exact h.lt
  have HL := Lib.hid hlt
  have HO := Lib.hid (cof_any l w T.tab.cur)
  have HH := Lib.hid H
  have hR : nameM l ⟨N ++ [n], o, D⟩ = match findK l 8 with | some k => (0, ⟨updL (setA k) (N ++ [n]), o, D⟩) | none => (13, ⟨N ++ [n], o, D⟩) := rfl
  rw [hR]
  clear H T hne hlt hR
  cases hf : findK l 8 with
  | none =>
    rw [hf] at HO
    rw [show FindAns none = .tuple #[.int .i64 0, .int .i64 16] from rfl] at HO
    clear hf
    go_enter Tryz.func39, Tryz.ntmps39
    go_wp2_with fail
    refine HO.out.mono ?_
    rintro e w1 ⟨rfl, hb1⟩
    have HB1 := Lib.hid hb1
    clear hb1
    go_wp2_with fail
    go_ret
    exact ⟨rfl, fun h => (by cases h), KpP.of HB1.out HL.out⟩
  | some k =>
    rw [hf] at HO
    rw [show FindAns (some k) = .tuple #[.int .i64 (k : Int), .int .i64 0] from rfl] at HO
    clear hf
    dsimp only
    go_enter Tryz.func39, Tryz.ntmps39
    go_wp2_with fail
    refine HO.out.mono ?_
    rintro e w1 ⟨rfl, hb1⟩
    have HB1 := Lib.hid hb1
    obtain ⟨g, vd, cap, HR, HLa⟩ := last_set n0 P B s N n (by omega) o D w1 (HH.out.keep hb1)
    have HR1 := Lib.hid HR
    have HLa1 := Lib.hid HLa
    clear hb1 HR HLa
    go_wp2_with fail
    refine HLa1.out.mono ?_
    rintro e w2 ⟨rfl, hb2⟩
    have HR2 := Lib.hid (HR1.out.keep hb2)
    have HB2 := Lib.hid (onB HB1.out hb2)
    obtain ⟨la, lb, lf⟩ := HR2.out.lastC
    have lf1 := lf (N.length * 5 + 1)
    have HF := Lib.hid (HR2.out.setF (k : Int) 1 setA (ndR_set N n k).1)
    clear hb2 lb lf
    go_wp2_with fail
    go_ret
    exact ⟨rfl, fun _ => ⟨_, _, HF.out.1⟩, (KpP.of HB2.out HL.out).trans HF.out.2⟩

set_option maxHeartbeats 2000000 in
set_option maxRecDepth 100000 in
theorem key_any (n0 : Nat) (P : Nat → Prop) (B : Nat) (s : ByteArray) (m : Mc) (hN : m.N.length ≤ 64) (hne : m.N ≠ []) (l : List UInt8) (hl : l.length ≤ 3000) (w : World) (H : PsM w P B s m) (T : Tb n0 w) :
    Calls Tryz.prog 40 #[.pointer (some ⟨B, 0, none⟩), .string ⟨l.toArray⟩] w (TakeE P B s (partM 7 l m) w) := by
  show Calls _ _ _ _ (TakeE P B s (keyM l m) w)
  obtain ⟨N', o, D⟩ := m
  dsimp only at hne hN
  obtain ⟨N, n, rfl⟩ : ∃ N n, N' = N ++ [n] := ⟨N'.dropLast, N'.getLast hne, (List.dropLast_concat_getLast hne).symm⟩
  have hN' : N.length ≤ 64 := by simp at hN; omega
  have hlt : ∀ k, P k → k < w.heap.size := by obtain ⟨_, _, h⟩ := H; exact h.lt
  have HL := Lib.hid hlt
  have HC := Lib.hid (tcounts_any l hl w)
  have HH := Lib.hid H
  have HLib := Lib.hid T.tab.lib
  have hR : keyM l ⟨N ++ [n], o, D⟩ = if (keyW l).1 = 0 then (0, ⟨updL (setA (keyW l).2) (N ++ [n]), o, D⟩) else ((keyW l).1, ⟨N ++ [n], o, D⟩) := rfl
  have hK : keyW l = if cntK l = true then (match atoiAll l with | .ok v => if 63 < v then (10, 0) else (0, v) | _ => (10, 0)) else (13, 0) := rfl
  rw [hR]
  clear H T hne hlt hR
  cases hc : cntK l with
  | false =>
    rw [hc, if_neg (by decide)] at hK
    rw [hc] at HC
    rw [hK]
    clear hK hc
    rw [if_neg (by decide)]
    go_enter Tryz.func40, Tryz.ntmps40
    go_wp2_with fail
    refine HC.out.mono ?_
    rintro e w1 ⟨rfl, hb1⟩
    have HB1 := Lib.hid hb1
    clear hb1
    go_wp2_with fail
    go_ret
    exact ⟨rfl, fun h => (by cases h), KpP.of HB1.out HL.out⟩
  | true =>
    rw [hc, if_pos rfl] at hK
    rw [hc] at HC
    clear hc
    by_cases hok : ∃ v, atoiAll l = .ok v
    · obtain ⟨v, hv⟩ := hok
      rw [hv] at hK
      dsimp only at hK
      have HAt := Lib.hid (fun w => atoi_yes l hl v hv w)
      clear hv
      by_cases h63 : 63 < v
      · rw [if_pos h63] at hK
        rw [hK, if_neg (by decide)]
        clear hK
        go_enter Tryz.func40, Tryz.ntmps40
        go_wp2_with fail
        refine HC.out.mono ?_
        rintro e w1 ⟨rfl, hb1⟩
        have HB1 := Lib.hid hb1
        clear hb1
        go_wp2_with fail
        refine (HAt.out _).mono ?_
        rintro e w2 ⟨rfl, hb2⟩
        have HB2 := Lib.hid (onB HB1.out hb2)
        clear hb2
        go_wp2_with fail
        go_ret
        exact ⟨rfl, fun h => (by cases h), KpP.of HB2.out HL.out⟩
      · rw [if_neg h63] at hK
        rw [hK, if_pos rfl]
        clear hK
        go_enter Tryz.func40, Tryz.ntmps40
        go_wp2_with fail
        refine HC.out.mono ?_
        rintro e w1 ⟨rfl, hb1⟩
        have HB1 := Lib.hid hb1
        clear hb1
        go_wp2_with fail
        refine (HAt.out _).mono ?_
        rintro e w2 ⟨rfl, hb2⟩
        have HB2 := Lib.hid (onB HB1.out hb2)
        clear hb2
        obtain ⟨g, vd, cap, HR, HLa⟩ := last_set n0 P B s N n (by omega) o D w2 (HH.out.keep HB2.out)
        have HR1 := Lib.hid HR
        have HLa1 := Lib.hid HLa
        clear HR HLa
        go_wp2_with fail
        refine HLa1.out.mono ?_
        rintro e w3 ⟨rfl, hb3⟩
        have HR2 := Lib.hid (HR1.out.keep hb3)
        have HB3 := Lib.hid (onB HB2.out hb3)
        obtain ⟨la, lb, lf⟩ := HR2.out.lastC
        have lf1 := lf (N.length * 5 + 1)
        have HF := Lib.hid (HR2.out.setF v 1 setA (ndR_set N n v).1)
        clear hb3 lb lf
        go_wp2_with fail
        go_ret
        exact ⟨rfl, fun _ => ⟨_, _, HF.out.1⟩, (KpP.of HB3.out HL.out).trans HF.out.2⟩
    · have hno : ∀ v, atoiAll l ≠ .ok v := fun v e => hok ⟨v, e⟩
      have HAt := Lib.hid (fun w L => atoi_no l hl hno w L)
      have hK2 : keyW l = (10, 0) := by
        rw [hK]
        cases e : atoiAll l
        · exact absurd e (hno _)
        · rfl
        · rfl
      rw [hK2, if_neg (by decide)]
      clear hK hno hok hK2
      go_enter Tryz.func40, Tryz.ntmps40
      go_wp2_with fail
      refine HC.out.mono ?_
      rintro e w1 ⟨rfl, hb1⟩
      have HB1 := Lib.hid hb1
      have HLib1 := Lib.hid (HLib.out.keep hb1)
      clear hb1
      go_wp2_with fail
      refine (HAt.out _ HLib1.out).mono ?_
      rintro e w2 ⟨⟨x, Nn, rfl⟩, hb2⟩
      have HB2 := Lib.hid (onB HB1.out hb2)
      clear hb2
      go_wp2_with fail
      go_ret
      exact ⟨rfl, fun h => (by cases h), KpP.of HB2.out HL.out⟩

theorem dayW_err (l : List UInt8) : (dayW l).2 = 0 ∨ (dayW l).2 = 10 ∨ (dayW l).2 = 13 := by
  have h : (parN l).2 = 0 ∨ (parN l).2 = 18 ∨ (parN l).2 = 13 := by
    unfold parN
    split
    · split
      · exact .inl rfl
      · exact .inr (.inl rfl)
    · exact .inr (.inr rfl)
  unfold dayW
  rcases h with e | e | e
  · rw [if_neg (by rw [e]; decide)]; exact .inl e
  · rw [if_pos e]; exact .inr (.inl rfl)
  · rw [if_neg (by rw [e]; decide)]; exact .inr (.inr e)
set_option maxHeartbeats 2000000 in
set_option maxRecDepth 100000 in
theorem day_any (n0 : Nat) (P : Nat → Prop) (B : Nat) (s : ByteArray) (m : Mc) (hN : m.N.length ≤ 64) (hne : m.N ≠ []) (l : List UInt8) (hl : l.length ≤ 3000) (w : World) (H : PsM w P B s m) (T : Tb n0 w) :
    Calls Tryz.prog 41 #[.pointer (some ⟨B, 0, none⟩), .string ⟨l.toArray⟩] w (TakeE P B s (partM 8 l m) w) := by
  show Calls _ _ _ _ (TakeE P B s (dayM l m) w)
  obtain ⟨N', o, D⟩ := m
  dsimp only at hne hN
  obtain ⟨N, n, rfl⟩ : ∃ N n, N' = N ++ [n] := ⟨N'.dropLast, N'.getLast hne, (List.dropLast_concat_getLast hne).symm⟩
  have hN' : N.length ≤ 64 := by simp at hN; omega
  have hlt : ∀ k, P k → k < w.heap.size := by obtain ⟨_, _, h⟩ := H; exact h.lt
  have HL := Lib.hid hlt
  have HC := Lib.hid (tdayof_any l hl w T.tab.len)
  have HH := Lib.hid H
  have hR : dayM l ⟨N ++ [n], o, D⟩ = ((dayW l).2.toNat, ⟨updL (setA (dayW l).1) (N ++ [n]), o, D⟩) := rfl
  have HE := Lib.hid (dayW_err l)
  rw [hR]
  clear H T hne hlt hR
  generalize dayW l = r at *
  obtain ⟨v, y⟩ := r
  dsimp only at *
  go_enter Tryz.func41, Tryz.ntmps41
  go_wp2_with fail
  refine HC.out.mono ?_
  rintro e w1 ⟨rfl, hb1⟩
  have HB1 := Lib.hid hb1
  obtain ⟨g, vd, cap, HR, HLa⟩ := last_set n0 P B s N n (by omega) o D w1 (HH.out.keep hb1)
  have HR1 := Lib.hid HR
  have HLa1 := Lib.hid HLa
  clear hb1 HR HLa
  go_wp2_with fail
  refine HLa1.out.mono ?_
  rintro e w2 ⟨rfl, hb2⟩
  have HR2 := Lib.hid (HR1.out.keep hb2)
  have HB2 := Lib.hid (onB HB1.out hb2)
  obtain ⟨la, lb, lf⟩ := HR2.out.lastC
  have lf1 := lf (N.length * 5 + 1)
  have HF := Lib.hid (HR2.out.setF v 1 setA (ndR_set N n v).1)
  clear hb2 lb lf
  go_wp2_with fail
  go_ret
  exact ⟨ret_intP (by rcases HE.out with e | e | e <;> rw [e] <;> rfl), fun _ => ⟨_, _, HF.out.1⟩, (KpP.of HB2.out HL.out).trans HF.out.2⟩
set_option maxHeartbeats 2000000 in
set_option maxRecDepth 100000 in
theorem until_any (n0 : Nat) (P : Nat → Prop) (B : Nat) (s : ByteArray) (m : Mc) (hN : m.N.length ≤ 64) (hne : m.N ≠ []) (l : List UInt8) (hl : l.length ≤ 3000) (w : World) (H : PsM w P B s m) (T : Tb n0 w) :
    Calls Tryz.prog 42 #[.pointer (some ⟨B, 0, none⟩), .string ⟨l.toArray⟩] w (TakeE P B s (partM 9 l m) w) := by
  show Calls _ _ _ _ (TakeE P B s (untM l m) w)
  obtain ⟨N', o, D⟩ := m
  dsimp only at hne hN
  obtain ⟨N, n, rfl⟩ : ∃ N n, N' = N ++ [n] := ⟨N'.dropLast, N'.getLast hne, (List.dropLast_concat_getLast hne).symm⟩
  have hN' : N.length ≤ 64 := by simp at hN; omega
  have hlt : ∀ k, P k → k < w.heap.size := by obtain ⟨_, _, h⟩ := H; exact h.lt
  have HL := Lib.hid hlt
  have HC := Lib.hid (tdayof_any l hl w T.tab.len)
  have HH := Lib.hid H
  have hR : untM l ⟨N ++ [n], o, D⟩ = ((dayW l).2.toNat, ⟨updL (setB (dayW l).1) (N ++ [n]), o, D⟩) := rfl
  have HE := Lib.hid (dayW_err l)
  rw [hR]
  clear H T hne hlt hR
  generalize dayW l = r at *
  obtain ⟨v, y⟩ := r
  dsimp only at *
  go_enter Tryz.func42, Tryz.ntmps42
  go_wp2_with fail
  refine HC.out.mono ?_
  rintro e w1 ⟨rfl, hb1⟩
  have HB1 := Lib.hid hb1
  obtain ⟨g, vd, cap, HR, HLa⟩ := last_set n0 P B s N n (by omega) o D w1 (HH.out.keep hb1)
  have HR1 := Lib.hid HR
  have HLa1 := Lib.hid HLa
  clear hb1 HR HLa
  go_wp2_with fail
  refine HLa1.out.mono ?_
  rintro e w2 ⟨rfl, hb2⟩
  have HR2 := Lib.hid (HR1.out.keep hb2)
  have HB2 := Lib.hid (onB HB1.out hb2)
  obtain ⟨la, lb, lf⟩ := HR2.out.lastC
  have lf2 := lf (N.length * 5 + 2)
  have HF := Lib.hid (HR2.out.setF v 2 setB (ndR_set N n v).2)
  clear hb2 la lf
  go_wp2_with fail
  go_ret
  exact ⟨ret_intP (by rcases HE.out with e | e | e <;> rw [e] <;> rfl), fun _ => ⟨_, _, HF.out.1⟩, (KpP.of HB2.out HL.out).trans HF.out.2⟩

/-- Which function takes a token of a part. -/
def pfn (p : Nat) : Nat := [33, 34, 35, 36, 37, 38, 39, 40, 41, 42].getD p 0
theorem part_any (n0 : Nat) (P : Nat → Prop) (hP : ∀ k, k < n0 → P k) (B : Nat) (s : ByteArray) (m : Mc) (hN : m.N.length ≤ 64) (hD : m.D.length ≤ 10000) (ho : -1000000 ≤ m.o ∧ m.o ≤ 1000000) (p : Nat) (hp : p < 10) (hne : 6 ≤ p → m.N ≠ []) (l : List UInt8) (hl : l.length ≤ 3000) (w : World) (H : PsM w P B s m) (T : Tb n0 w) :
    Calls Tryz.prog (pfn p) #[.pointer (some ⟨B, 0, none⟩), .string ⟨l.toArray⟩] w (TakeE P B s (partM p l m) w) :=
  match p, hp, hne with
  | 0, _, _ => nothing_any P B s m l w
  | 1, _, _ => observed_any n0 P hP B s m hN hD l hl w H T
  | 2, _, _ => contract_any n0 P hP B s m hN hD l w H T
  | 3, _, _ => opening_any P B s m ho l w H
  | 4, _, _ => comma_any P B s m l w H
  | 5, _, _ => closing_any P B s m ho l w H
  | 6, _, h => name_any n0 P B s m hN (h (by omega)) l w H T
  | 7, _, h => key_any n0 P B s m hN (h (by omega)) l hl w H T
  | 8, _, h => day_any n0 P B s m hN (h (by omega)) l hl w H T
  | 9, _, h => until_any n0 P B s m hN (h (by omega)) l hl w H T
  | p + 10, h, _ => absurd h (by omega)

end Go.Proofs.YtdmdgoeacafpiaaGreatDoor

namespace Go.Proofs.YtdmdgoeacafpiaaGreatDoor
open Go.RowKit Go.Lib
set_option linter.unusedVariables false
set_option linter.unusedSimpArgs false

set_option maxHeartbeats 2000000 in
set_option maxRecDepth 100000 in
theorem nodes_any (t : List Nd) (hl : t.length ≤ 1000) (v1 v2 : Value) (w : World) (h1 : SlT w v1 t) (h2 : SlT w v2 t) :
    Calls Tryz.prog 9 #[v1, v2] w fun e w' => e = .returned (.bool true) ∧ Below w.heap.size w w' := by
  obtain ⟨a1, c1, rfl⟩ := h1.slice
  obtain ⟨a2, c2, rfl⟩ := h2.slice
  have H1 := Lib.hid h1
  have H2 := Lib.hid h2
  clear h1 h2
  go_enter Tryz.func9, Tryz.ntmps9
  go_wp2_with fail
  go_loopw [5] (fun vk wx => ∃ k q : Nat, k ≤ t.length ∧ vk = .int .i64 k ∧ wx = w.drewN q) (fun vk _ => t.length - (RowKit.intOf vk).toNat)
  case atStart => exact ⟨0, 0, Nat.zero_le _, rfl, rfl⟩
  case round =>
    obtain ⟨k, q, hk, rfl, hw⟩ := hrel
    have HW := Lib.hid hw
    by_cases hlt : k < t.length
    · rcases H1.out with ⟨h, _⟩ | ⟨_, b1, o1, c1', e, h3, h4, hN1⟩
      · rw [h] at hlt; exact absurd hlt (Nat.not_lt_zero _)
      · rcases H2.out with ⟨h, _⟩ | ⟨_, b2, o2, c2', e', h3', h4', hN2⟩
        · rw [h] at hlt; exact absurd hlt (Nat.not_lt_zero _)
        · injection e with e1 e2 e3
          injection e' with e1' e2' e3'
          subst e1 e3 e1' e3'
          have g1 := hN1.keep (below_drewT w q) k hlt
          have g2 := hN2.keep (below_drewT w q) k hlt
          rw [← hw] at g1 g2
          have j0 : (0 : Int) ≤ (k : Int) := by omega
          have j1 : (k : Int) < (t.length : Int) := by omega
          generalize t.getD k default = nd at *
          obtain ⟨x0, x1, x2, x3, x4⟩ := nd
          obtain ⟨p0, p1, p2, p3, p4⟩ := g1
          obtain ⟨q0, q1, q2, q3, q4⟩ := g2
          clear H1 H2 hN1 hN2 hw
          go_wp2_with fail
          go_quiet (fail)
          go_wp2
          go_roundw
          case rel => exact ⟨k + 1, q + nq, by omega, by go_num, by rw [HW.out, World.drewN_drewN]⟩
          case measure => simp [RowKit.intOf]; omega
    · obtain rfl : k = t.length := by omega
      go_wp2_with fail
      go_ret
      exact ⟨rfl, below_drewT w q⟩

end Go.Proofs.YtdmdgoeacafpiaaGreatDoor
