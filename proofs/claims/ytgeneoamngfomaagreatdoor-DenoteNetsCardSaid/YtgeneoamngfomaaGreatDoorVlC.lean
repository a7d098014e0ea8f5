/-
  slices.Backward over nodes: its iterator's contract.
-/
import Derived.Test.YtgeneoamngfomaaGreatDoorTrm
namespace Go.Proofs.YtgeneoamngfomaaGreatDoor
open Go.RowKit Go.Lib Go.Shelf
set_option linter.unusedVariables false
set_option linter.unusedSimpArgs false
attribute [local go_sem] Oper.semAt_some

/-- The last k places of c, the last one first. -/
def dnF (c : Nat) : (k : Nat) → k ≤ c → List (Fin c)
  | 0, _ => []
  | k + 1, h => dnF c k (Nat.le_of_succ_le h) ++ [⟨c - 1 - k, by omega⟩]
theorem dnF_len (c : Nat) : ∀ k h, (dnF c k h).length = k
  | 0, _ => rfl
  | k + 1, h => by rw [dnF, List.length_append, dnF_len c k]; rfl
/-- What the body is called with. -/
def encB (t : List Nd) (c : Nat) (x : Fin c) : Array Value := #[.int .i64 (x.1 : Int), .agg #[.int .i64 (t.getD x.1 default).op, .int .i64 (t.getD x.1 default).a, .int .i64 (t.getD x.1 default).b, .int .i64 (t.getD x.1 default).num, .int .i64 (t.getD x.1 default).den]]
theorem back_make (a : Option Addr) (len cap : Nat) (w : World) : Calls Tryz.prog 170 #[.slice a len cap] w fun e w' => e = .returned (.func (.func 174) #[] #[.pointer (some ⟨w.heap.size, 0, none⟩)]) ∧ w' = w.alloc (.cells #[.slice a len cap] 22) := by
  go_enter Tryz.func170, Tryz.ntmps170
  go_wp2_with fail
  go_ret
  exact ⟨rfl, rfl⟩
set_option maxRecDepth 100000 in
set_option maxHeartbeats 4000000 in
theorem back_in (F : Fence) (n : Nat) (hF : F = Fence.wide) (l Bs n₀ : Nat) (t : List Nd) (hL : t.length ≤ 1000) (b o cap : Nat) (hcap : t.length ≤ cap) (hcm : cap ≤ 9223372036854775807) (hb : b < n₀) (c : Nat) (hc : c = t.length) (J Jx : List (Fin c) → World → Prop)
    (hY : ∀ pre x W, J pre W → pre.length < c → YieldAt F (n - 1) Tryz.prog l (encB t c x) W fun e W' =>
      (e = .returned (.bool true) ∧ J (pre ++ [x]) W' ∧ KpT n₀ Bs W W') ∨ (e = .returned (.bool false) ∧ Jx (pre ++ [x]) W'))
    (W : World) (hBs : W.cell? ⟨Bs, 0, none⟩ = some (.slice (some ⟨b, o, none⟩) t.length cap)) (hN : NdA W b o t) (h0 : J [] W) :
    CallsIn F n Tryz.prog 174 #[.func (.yield l) #[] #[], .pointer (some ⟨Bs, 0, none⟩)] W fun e W' => (∃ v, e = .returned v) ∧
      ((∃ ys, ys = dnF c c (Nat.le_refl _) ∧ J ys W') ∨ (∃ pre, (∃ k h, pre = dnF c k h) ∧ Jx pre W')) := by
  subst hF
  have HN := Lib.hid hN
  have HY := Lib.hid hY
  have HC := Lib.hid hc
  have hc4 : (c : Int) ≤ 1000 := by omega
  have hc0 : (0 : Int) ≤ (c : Int) := by omega
  rw [← hc] at hBs hcap hL
  clear hN hY hc
  refine callsIn_of_wp Tryz.func174 rfl trivial ?_ rfl
  simp only [Tryz.ntmps174, List.size_toArray, List.length_cons, List.length_nil, Nat.reduceAdd, Nat.reduceSub, Array.replicate_succ, Array.replicate_zero, List.push_toArray, List.append_toArray, List.nil_append, List.cons_append]
  gi_wp2
  gi_loopw [3] (fun vi wx => ∃ (k : Nat) (hk : k ≤ c), vi = .int .i64 ((c : Int) - 1 - k) ∧ J (dnF c k hk) wx ∧ KpT n₀ Bs W wx) (fun vi _ => (RowKit.intOf vi + 1).toNat)
  case atStart => exact ⟨0, Nat.zero_le _, by go_num, h0, KpT.refl _ _ _⟩
  case round =>
    obtain ⟨k, hk, rfl, hJs, hbx⟩ := hrel
    have HBx := Lib.hid hbx
    have HJs := Lib.hid hJs
    by_cases hlt : k < c
    · obtain ⟨p, hp⟩ : ∃ p : Nat, p = c - 1 - k := ⟨_, rfl⟩
      have hpi : (c : Int) - 1 - k = (p : Int) := by omega
      rw [hpi]
      have HPk : Hid (p = c - 1 - k) := Lib.hid hp
      have p0 : (0 : Int) ≤ (p : Int) := by omega
      have p1 : (p : Int) < (c : Int) := by omega
      have q1 : (c : Int) ≤ (cap : Int) := by omega
      have hcs := hbx.2 _ hBs
      obtain ⟨e0, e1, e2, e3, e4⟩ := (HN.out.keepN hbx.1 hb) p (by rw [← HC.out]; omega)
      have hpc : p < c := by omega
      obtain ⟨fn, tmps, assign, body, hy, hR⟩ := HY.out _ ⟨p, hpc⟩ wr hJs (by rw [dnF_len]; exact hlt)
      dsimp only [encB] at hy
      generalize t.getD p default = nd at *
      have HK := Lib.hid (And.intro hk hlt)
      clear hJs hbx hp hpi hlt
      gi_wp2
      refine ⟨fun h => (by cases h), hR.mono ?_⟩
      rintro e W3 (⟨rfl, hJ3, hk3⟩ | ⟨rfl, hJx3⟩)
      · have HJ3 := Lib.hid hJ3
        have HB3 := Lib.hid (HBx.out.trans hk3)
        clear hR hJ3 hk3
        gi_wp2
        go_roundw
        case rel => exact ⟨k + 1, HK.out.2, by have := HPk.out; have := HK.out.2; go_num, by rw [dnF]; simp only [← HPk.out]; exact HJ3.out, HB3.out⟩
        case measure => simp [RowKit.intOf]
      · have HX := Lib.hid hJx3
        clear hR hJx3
        gi_wp2
        refine bodyPost_ret (results_none rfl _ _ _) rfl ?_
        exact ⟨⟨_, rfl⟩, .inr ⟨_, ⟨k + 1, HK.out.2, by rw [dnF]; simp only [← HPk.out]⟩, HX.out⟩⟩
    · obtain rfl : k = c := by omega
      clear hJs hbx
      have q3 : ¬ (0 : Int) ≤ (k : Int) - 1 - k := by omega
      gi_wp2
      go_end0
      exact ⟨⟨_, rfl⟩, .inl HJs.out⟩
theorem back_stops (n : Nat) (Bs n₀ : Nat) (t : List Nd) (hL : t.length ≤ 1000) (b o cap : Nat) (hcap : t.length ≤ cap) (hcm : cap ≤ 9223372036854775807) (hb : b < n₀) (c : Nat) (hc : c = t.length) (w : World)
    (hBs : w.cell? ⟨Bs, 0, none⟩ = some (.slice (some ⟨b, o, none⟩) t.length cap)) (hn : n₀ ≤ w.heap.size) (hN : NdA w b o t) :
    SeqStopsK Fence.wide n Tryz.prog 174 #[.pointer (some ⟨Bs, 0, none⟩)] (encB t c) (KpT n₀ Bs) (fun ys => ys = dnF c c (Nat.le_refl _)) (fun pre => ∃ k h, pre = dnF c k h) c w := fun l J Jx W hW hJ' hJx hY h0 =>
  back_in _ n rfl l Bs n₀ t hL b o cap hcap hcm hb c hc J Jx hY W (keepT hW hBs) (hN.keepN (hW.mono hn) hb) h0

end Go.Proofs.YtgeneoamngfomaaGreatDoor
