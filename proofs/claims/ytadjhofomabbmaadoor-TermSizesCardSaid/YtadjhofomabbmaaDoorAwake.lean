/-
  chattellaw01.Ints and awake: the chapter's examples.
-/
import Derived.Test.YtadjhofomabbmaaDoorSplit
namespace Go.Proofs.YtadjhofomabbmaaDoor
open Go.RowKit Go.Sort
set_option linter.unusedVariables false

/-- Lists that are the same so far. -/
def sameK (l m : List Int) (k : Nat) : Prop := ∀ t, t < k → l.getD t 0 = m.getD t 0
theorem same_of {l m : List Int} (hn : l.length = m.length) (h : sameK l m l.length) : l = m := by
  apply List.ext_getElem hn
  intro i h1 h2
  have := h i h1
  rw [List.getD_eq_getElem?_getD, List.getD_eq_getElem?_getD, List.getElem?_eq_getElem h1, List.getElem?_eq_getElem h2] at this
  exact this

set_option maxHeartbeats 1000000 in
theorem ints_row (l m : List Int) (b o c b' o' c' : Nat) (w : World) (hr : Row w b o l) (hr' : Row w b' o' m) (hn : l.length ≤ 1152921504606846976) (hm : m.length ≤ 1152921504606846976) :
    Calls Tryd.prog 22 #[.slice (some ⟨b, o, none⟩) l.length c, .slice (some ⟨b', o', none⟩) m.length c'] w fun e w' => e = .returned (.bool (decide (l = m))) ∧ ∃ q, w' = w.drewN q := by
  have HR : Hid _ := hr
  have HR' : Hid _ := hr'
  clear hr hr'
  by_cases hlen : l.length = m.length
  · have hneq : ((l.length : Int) != (m.length : Int)) = false := by rw [hlen]; simp
    have HLen := Lib.hid hlen
    have hle1 : l.length ≤ m.length := by omega
    clear hlen
    go_enter Tryd.func22, Tryd.ntmps22
    go_wp2
    go_loopw [5] (fun vi wx => ∃ k q : Nat, k ≤ l.length ∧ vi = .int .i64 k ∧ wx = w.drewN q ∧ sameK l m k) (fun vi _ => l.length - (intOf vi).toNat)
    case atStart => exact ⟨0, 0, Nat.zero_le _, rfl, rfl, fun t ht => by omega⟩
    case round =>
      obtain ⟨k, q, hk, rfl, hwr, hsm⟩ := hrel
      have HSm : Hid _ := hsm
      by_cases hlt : k < l.length
      · obtain ⟨x, hx⟩ : ∃ x, x = l.getD k 0 := ⟨_, rfl⟩
        obtain ⟨y, hy⟩ : ∃ y, y = m.getD k 0 := ⟨_, rfl⟩
        have hc1 : wr.cell? ⟨b, o + k, none⟩ = some (.int .i64 x) := by rw [hwr, hx]; exact HR.out k hlt
        have hc2 : wr.cell? ⟨b', o' + k, none⟩ = some (.int .i64 y) := by rw [hwr, hy]; exact HR'.out k (by omega)
        have HX := Lib.hid hx
        have HY := Lib.hid hy
        have HW := Lib.hid hwr
        have i1 : (k : Int) < (l.length : Int) := by omega
        have i2 : (k : Int) < (m.length : Int) := by omega
        clear hx hy hwr hsm
        by_cases hxy : x = y
        · have hb : (x != y) = false := by rw [hxy]; simp
          have HXY := Lib.hid hxy
          clear hxy
          go_wp2
          go_quiet (fail)
          go_wp2
          go_roundw
          case rel =>
            refine ⟨k + 1, q + nq, by omega, by go_num, by rw [HW.out, World.drewN_drewN], fun t ht => ?_⟩
            by_cases e : t = k
            · subst e; rw [← HX.out, ← HY.out]; exact HXY.out
            · exact HSm.out t (by omega)
          case measure => simp [intOf]; omega
        · have hb : (x != y) = true := by simpa using hxy
          have HXY := Lib.hid hxy
          clear hxy
          go_wp2
          go_quiet (fail)
          go_wp2
          go_ret
          refine ⟨?_, q + nq, by rw [HW.out, World.drewN_drewN]⟩
          rw [decide_eq_false (fun e => HXY.out (by rw [HX.out, HY.out, e]))]
          rfl
      · obtain rfl : l.length = k := by omega
        have HW := Lib.hid hwr
        clear hwr hsm
        go_wp2
        go_ret
        refine ⟨?_, q, HW.out⟩
        rw [decide_eq_true (same_of HLen.out HSm.out)]
        rfl
  · have hneq : ((l.length : Int) != (m.length : Int)) = true := by simp; omega
    have HLen := Lib.hid hlen
    clear hlen
    go_enter Tryd.func22, Tryd.ntmps22
    go_wp2
    go_ret
    refine ⟨?_, 0, rfl⟩
    rw [decide_eq_false (fun e => HLen.out (by rw [e]))]
    rfl

theorem md_5 : fitN (md 5 1 2) = 2 ∧ fitE (md 5 1 2) = 0 := by decide
theorem md_7 : fitN (md 7 1 2) = 4 ∧ fitE (md 7 1 2) = 0 := by decide

theorem thirds_key (t : Nat) (ht : t < 3) : rF 10 (sumL [1, 1, 1]) [1, 1, 1] t = 1 := by
  have : t = 0 ∨ t = 1 ∨ t = 2 := by omega
  rcases this with rfl | rfl | rfl <;> decide
theorem thirds (d : Array Int) (h : Ordered 10 [1, 1, 1] d) : partF 10 [1, 1, 1] d 0 = 4 ∧ partF 10 [1, 1, 1] d 1 = 3 ∧ partF 10 [1, 1, 1] d 2 = 3 := by
  have hb := fun t ht => h.2.2 t (Nat.zero_le _) ht
  have b0 := hb 0 (by decide)
  have b1 := hb 1 (by decide)
  have b2 := hb 2 (by decide)
  have p01 := h.2.1 0 1 (by decide) (by decide) (by decide)
  have p12 := h.2.1 1 2 (by decide) (by decide) (by decide)
  simp only [List.length_cons, List.length_nil] at b0 b1 b2
  have k0 := thirds_key d[0]!.toNat (by omega)
  have k1 := thirds_key d[1]!.toNat (by omega)
  have k2 := thirds_key d[2]!.toNat (by omega)
  simp only [pr, k0, k1, k2] at p01 p12
  have e0 : d[0]! = 0 := by omega
  have el : (10 - sumF (qF 10 (sumL [1, 1, 1]) [1, 1, 1]) [(1 : Int), 1, 1].length).toNat = 1 := by decide
  have q0 : qF 10 (sumL [1, 1, 1]) [1, 1, 1] 0 = 3 := by decide
  have q1 : qF 10 (sumL [1, 1, 1]) [1, 1, 1] 1 = 3 := by decide
  have q2 : qF 10 (sumL [1, 1, 1]) [1, 1, 1] 2 = 3 := by decide
  unfold partF
  rw [el]
  simp [addK, e0, q0, q1, q2]

theorem row_lit3 (w : World) (x y z : Int) (e : TypeId) : Row (w.alloc (.cells #[.int .i64 x, .int .i64 y, .int .i64 z] e)) w.heap.size 0 [x, y, z] := by
  intro t ht
  rw [World.cell?_alloc_at _ _ _ _ rfl]
  have : t = 0 ∨ t = 1 ∨ t = 2 := by simp at ht; omega
  rcases this with rfl | rfl | rfl <;> rfl

theorem row_alloc {w : World} {b o : Nat} {l : List Int} (h : Row w b o l) (hb : b < w.heap.size) (ob : Obj) : Row (w.alloc ob) b o l := fun t ht => by
  rw [World.cell?_alloc_past _ _ _ hb]; exact h t ht

end Go.Proofs.YtadjhofomabbmaaDoor
