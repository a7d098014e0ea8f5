/-
  Package cash: Of: what it answers.
-/
import Derived.Test.YtdmdgoeacafpiaaGreatDoorCshA
import Derived.BigQuiet
import Derived.Deep.QuietTactic
namespace Go.Proofs.YtdmdgoeacafpiaaGreatDoor
open Go.RowKit Go.Lib
set_option linter.unusedVariables false

theorem of1_any (k : Nat) (hk : k < 8) (l : List UInt8) (b : Nat) (w : World) (C : CurW w) (hb : w.cell? ⟨b, 0, none⟩ = some (.string ⟨l.toArray⟩)) :
    Calls Tryz.prog 94 #[.int .i64 k, .pointer (some ⟨b, 0, none⟩)] w fun e w' => e = .returned (.bool (curN k == l)) ∧ ∃ n, w' = w.drewN n := by
  have hc := C.nm k hk
  have i0 : (0 : Int) ≤ (k : Int) := by omega
  have i1 : (k : Int) < 8 := by omega
  clear C
  generalize curN k = X at *
  go_enter Tryz.func94, Tryz.ntmps94
  go_wp2_with fail
  go_quiet (fail)
  go_wp2_with fail
  go_ret
  exact ⟨rfl, nq, rfl⟩

/-- The first currency of a name. -/
def findK (l : List UInt8) : Nat → Option Nat
  | 0 => none
  | k + 1 => match findK l k with
    | some j => some j
    | none => if curN k == l then some k else none

theorem findK_stay {l : List UInt8} {j k : Nat} (h : findK l j = some k) : ∀ m, j ≤ m → findK l m = some k
  | 0, hm => by obtain rfl : j = 0 := by omega
                exact h
  | m + 1, hm => by
    by_cases e : j = m + 1
    · rw [← e]; exact h
    · have := findK_stay h m (by omega)
      unfold findK
      rw [this]
theorem findK_hit {l : List UInt8} {k : Nat} (h : findK l k = none) (he : (curN k == l) = true) : findK l (k + 1) = some k := by
  unfold findK; rw [h]; simp only [he, if_true]
theorem findK_miss {l : List UInt8} {k : Nat} (h : findK l k = none) (he : (curN k == l) = false) : findK l (k + 1) = none := by
  unfold findK; rw [h]; simp [he]
def FindAns (r : Option Nat) : Value := match r with
  | some k => .tuple #[.int .i64 k, .int .i64 0]
  | none => .tuple #[.int .i64 0, .int .i64 16]

set_option maxHeartbeats 1000000 in
set_option maxRecDepth 100000 in
theorem find_any (l : List UInt8) (f : FuncId) (b : Nat) (w : World) (C : CurW w) (hb : w.cell? ⟨b, 0, none⟩ = some (.string ⟨l.toArray⟩))
    (hf : ∀ (k : Nat) W, k < 8 → CurW W → W.cell? ⟨b, 0, none⟩ = some (.string ⟨l.toArray⟩) → Calls Tryz.prog f #[.int .i64 k, .pointer (some ⟨b, 0, none⟩)] W fun e w' => e = .returned (.bool (curN k == l)) ∧ ∃ n, w' = W.drewN n)
    (hent : ∀ (k : Nat) W, (callFunc f #[.int .i64 k, .pointer (some ⟨b, 0, none⟩)]).run Tryz.prog W = .ok (.enter f #[.int .i64 k, .pointer (some ⟨b, 0, none⟩)]) W) :
    Calls Tryz.prog 93 #[.func (.func f) #[] #[.pointer (some ⟨b, 0, none⟩)]] w fun e w' => e = .returned (FindAns (findK l 8)) ∧ ∃ n, w' = w.drewN n := by
  have HC := Lib.hid C
  have HB := Lib.hid hb
  have HF := Lib.hid hf
  clear C hb hf
  go_enter Tryz.func93, Tryz.ntmps93
  go_wp2_with fail
  go_loopw [5] (fun vi wx => ∃ k n : Nat, k ≤ 8 ∧ vi = .int .i64 k ∧ wx = w.drewN n ∧ findK l k = none) (fun vi _ => 8 - (RowKit.intOf vi).toNat)
  case atStart => exact ⟨0, 0, by omega, rfl, rfl, rfl⟩
  case round =>
    obtain ⟨k, n, hk, rfl, hwr, hno⟩ := hrel
    have HW := Lib.hid hwr
    have HNo := Lib.hid hno
    clear hwr hno
    by_cases hlt : k < 8
    · have HF1 := Lib.hid (fun W (e : W = w.drewN n) => HF.out k W hlt (by rw [e]; exact HC.out.keep (below_any w n)) (by rw [e]; exact HB.out))
      have i1 : (k : Int) < 8 := by omega
      by_cases hE : (curN k == l) = true
      · rw [hE] at HF1
        have HR : Hid (findK l 8 = some k) := Lib.hid (findK_stay (findK_hit HNo.out hE) 8 (by omega))
        clear hE
        go_wp2_with fail
        refine (HF1.out _ HW.out).mono ?_
        rintro e w1 ⟨rfl, m, rfl⟩
        go_wp2_with fail
        go_ret2
        exact ⟨by rw [HR.out]; rfl, n + m, by rw [HW.out, World.drewN_drewN]⟩
      · have hE' : (curN k == l) = false := by simpa using hE
        rw [hE'] at HF1
        have HR := Lib.hid (findK_miss HNo.out hE')
        clear hE hE'
        go_wp2_with fail
        refine (HF1.out _ HW.out).mono ?_
        rintro e w1 ⟨rfl, m, rfl⟩
        go_wp2_with fail
        go_roundw
        case rel => exact ⟨k + 1, n + m, by omega, by go_num, by rw [HW.out, World.drewN_drewN], HR.out⟩
        case measure => simp [RowKit.intOf]; omega
    · obtain rfl : k = 8 := by omega
      clear hlt hk
      go_wp2_with fail
      go_ret2
      exact ⟨by rw [HNo.out]; rfl, n, HW.out⟩

set_option maxRecDepth 100000 in
theorem cof_any (l : List UInt8) (w : World) (C : CurW w) : Calls Tryz.prog 66 #[.string ⟨l.toArray⟩] w fun e w' => e = .returned (FindAns (findK l 8)) ∧ Below w.heap.size w w' := by
  have HF := Lib.hid (find_any l 94 w.heap.size (w.alloc (.cells #[.string ⟨l.toArray⟩] 9)) (C.keep (below_one w _)) (new_at rfl) (fun k W hk C' h => of1_any k hk l w.heap.size W C' h) (fun k W => rfl))
  clear C
  go_enter Tryz.func66, Tryz.ntmps66
  go_wp2_with fail
  refine HF.out.mono ?_
  rintro e w1 ⟨rfl, n, rfl⟩
  cases hr : findK l 8 with
  | none =>
    unfold FindAns
    go_wp2_with fail
    go_ret2
    exact ⟨by rw [hr]; rfl, bel_up (below_one w _) (below_any _ n)⟩
  | some k =>
    unfold FindAns
    go_wp2_with fail
    go_ret2
    exact ⟨by rw [hr]; rfl, bel_up (below_one w _) (below_any _ n)⟩

end Go.Proofs.YtdmdgoeacafpiaaGreatDoor
