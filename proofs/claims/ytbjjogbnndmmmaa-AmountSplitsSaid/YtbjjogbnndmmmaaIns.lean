/-
  slices.insertionSortCmpFunc at []int, by giveAway's own order: it is the plain insertion sort of the row; nothing else turns but draws.
-/
import Derived.Test.YtbjjogbnndmmmaaSmall
import Derived.Sort.Row
import Derived.Sort.LotA
import Derived.CellFam
import Derived.BigGuard
import Derived.BigCall
import Derived.RegionTactic
import Derived.BigRegion
import Derived.Deep.Draws
import Derived.Deep.QuietTactic
import Derived.BigQuiet
namespace Go.Proofs.Ytbjjogbnndmmmaa
open Go.RowKit Go.Sort
set_option linter.unusedVariables false

/-- The world with the row laid, so many draws on. -/
def rowW (w : World) (blk off n : Nat) (d : Array Int) : World := putRow (Value.int .i64) (Sort.ahead w n) blk off d

theorem rowW_start {w : World} {blk off : Nat} {d : Array Int} (h : Holds (Value.int .i64) w blk off d) : w = rowW w blk off 0 d := (putRow_self _ _ _ _ _ h).symm
theorem rowW_cell {w : World} {blk off n : Nat} {d d' : Array Int} (h : Holds (Value.int .i64) w blk off d) (hs : d'.size = d.size) (t : Nat) (ht : t < d.size) :
    (rowW w blk off n d').cell? ⟨blk, off + t, none⟩ = some (.int .i64 d'[t]!) := cell?_putRow _ _ _ _ d d' (holds_ahead _ _ _ _ _ _ h) hs t (by omega)
theorem rowW_frozen {w : World} {blk off n : Nat} {d d' : Array Int} (h : Holds (Value.int .i64) w blk off d) (t : Nat) (ht : t < d.size) :
    (rowW w blk off n d').frozen? ⟨blk, off + t, none⟩ = false := by unfold rowW; rw [frozen?_putRow]; exact ((holds_ahead _ _ n _ _ _ h) t ht).2
theorem rowW_drewN (w : World) (blk off n q : Nat) (d : Array Int) : (rowW w blk off n d).drewN q = rowW w blk off (n + q) d := by
  show Sort.ahead (putRow _ (Sort.ahead w n) blk off d) q = _
  unfold rowW
  rw [putRow_ahead _ w n, ahead_ahead, ← putRow_ahead]
theorem rowW_swap (w : World) (blk off n q : Nat) (d : Array Int) (j k : Nat) (hj : j < d.size) (hk : k < d.size) :
    (((rowW w blk off n d).drewN q).setCell ⟨blk, off + j, none⟩ (.int .i64 d[k]!)).setCell ⟨blk, off + k, none⟩ (.int .i64 d[j]!) = rowW w blk off (n + q) (swp d j k) := by
  rw [rowW_drewN]
  exact putRow_swp (Value.int .i64) _ blk off d j k hj hk

/-- What is asked of the order: in each world that the sort passes through it answers cf of two values of the row, reads, and may draw. -/
def CmpR (bx : Array Value) (cf : Int → Int → Int) (V : Int → Prop) (blk off N : Nat) (w : World) : Prop :=
  ∀ (m : Nat) (dk : Array Int), dk.size = N → ∀ x y : Int, V x → V y →
    Calls Try.prog 35 (#[.int .i64 x, .int .i64 y] ++ bx) (rowW w blk off m dk) fun e w' => e = .returned (.int .i64 (cf x y)) ∧ ∃ q, w' = (rowW w blk off m dk).drewN q

def ltC (cf : Int → Int → Int) (x y : Int) : Bool := decide (cf x y < 0)

theorem insInner_goI (lt : Int → Int → Bool) (a j : Nat) (d : Array Int) (hj : a < j) (hl : lt d[j]! d[j - 1]! = true) : insInner lt a j d = insInner lt a (j - 1) (swp d j (j - 1)) := by
  obtain ⟨k, rfl⟩ : ∃ k, j = k + 1 := ⟨j - 1, by omega⟩
  rw [insInner]
  simp only [Nat.add_sub_cancel] at hl ⊢
  simp [hj, hl]
theorem insInner_stopI (lt : Int → Int → Bool) (a j : Nat) (d : Array Int) (h : j ≤ a ∨ lt d[j]! d[j - 1]! = false) : insInner lt a j d = d := by
  cases j with
  | zero => rw [insInner]
  | succ k =>
    rw [insInner]
    simp only [Nat.add_sub_cancel] at h
    rcases h with h | h
    · simp [show ¬ k + 1 > a by omega]
    · simp [h]

theorem insOuter_goI (lt : Int → Int → Bool) (a b i : Nat) (d : Array Int) (h : i < b) : insOuter lt a b i d = insOuter lt a b (i + 1) (insInner lt a i d) := by rw [insOuter, if_pos h]
theorem swp_all {V : Int → Prop} {d : Array Int} {N i j : Nat} (hN : d.size = N) (h : ∀ t, t < N → V d[t]!) (hi : i < N) (hj : j < N) : ∀ t, t < N → V (swp d i j)[t]! := by
  intro t ht
  by_cases h1 : t = j
  · subst h1; rw [swp_right d i t (by omega)]; exact h i hi
  · by_cases h2 : t = i
    · subst h2; rw [swp_left d t j (by omega) h1]; exact h j hj
    · rw [swp_other d i j t h2 h1]; exact h t ht

set_option maxHeartbeats 4000000 in
set_option maxRecDepth 100000 in
theorem ins_walk (bx : Array Value) (cf : Int → Int → Int) (V : Int → Prop) (blk off cap a b : Nat) (d : Array Int) (w : World) (hH : Holds (Value.int .i64) w blk off d)
    (hC : CmpR bx cf V blk off d.size w) (hV : ∀ t, t < d.size → V d[t]!) (hab : a ≤ b) (hb : b ≤ d.size) (hsz : d.size < 4611686018427387904) :
    Calls Try.prog 41 #[.slice (some ⟨blk, off, none⟩) d.size cap, .int .i64 a, .int .i64 b, .func (.func 35) #[] bx] w fun e w' =>
      e = .returned (.tuple #[]) ∧ ∃ n, w' = rowW w blk off n (Sort.insertionSort (ltC cf) d a b) := by
  have HC : Hid _ := hC
  have HV : Hid _ := hV
  clear hC hV
  go_enter Try.func41, Try.ntmps41
  go_wp2
  go_loopw [8] (fun vi wr => ∃ (i n : Nat) (dk : Array Int), vi = .int .i64 i ∧ a < i ∧ i ≤ b + 1 ∧ dk.size = d.size ∧ wr = rowW w blk off n dk ∧ (∀ t, t < d.size → V dk[t]!) ∧
      insOuter (ltC cf) a b i dk = insOuter (ltC cf) a b (a + 1) d) (fun vi _ => b + 1 - (intOf vi).toNat)
  case atStart => exact ⟨a + 1, 0, d, by go_num, by omega, by omega, rfl, rowW_start hH, HV.out, rfl⟩
  case round =>
    obtain ⟨i, n, dk, rfl, hai, hib, hsk, hwr, hVk, hO⟩ := hrel
    have HO : Hid (insOuter (ltC cf) a b i dk = insOuter (ltC cf) a b (a + 1) d) := hO
    have HVk : Hid _ := hVk
    clear hO hVk
    by_cases hlt : i < b
    · go_wp2
      go_loopw [9] (fun vj wr2 => ∃ (j m : Nat) (dj : Array Int), vj = .int .i64 j ∧ a ≤ j ∧ j ≤ i ∧ dj.size = d.size ∧ wr2 = rowW w blk off m dj ∧ (∀ t, t < d.size → V dj[t]!) ∧
          insInner (ltC cf) a j dj = insInner (ltC cf) a i dk) (fun vj _ => (intOf vj).toNat)
      case atStart => exact ⟨i, n, dk, rfl, by omega, Nat.le_refl _, hsk, rfl, HVk.out, rfl⟩
      case round =>
        clear hwr
        obtain ⟨j, m, dj, rfl, haj, hji, hsj, hw2, hVj, hI⟩ := hrel
        obtain ⟨G, hG⟩ : ∃ G : Nat → Int, ∀ t, G t = dj[t]! := ⟨fun t => dj[t]!, fun _ => rfl⟩
        have hcw : ∀ t, t < d.size → wr.cell? ⟨blk, off + t, none⟩ = some (.int .i64 (G t)) := fun t ht => by
          rw [hw2, hG]; exact rowW_cell hH hsj t ht
        have hfw : ∀ t, t < d.size → wr.frozen? ⟨blk, off + t, none⟩ = false := fun t ht => by
          rw [hw2]; exact rowW_frozen hH t ht
        have HW : Hid (wr = rowW w blk off m dj) := hw2
        have HG : Hid (∀ t, G t = dj[t]!) := hG
        have HI : Hid (insInner (ltC cf) a j dj = insInner (ltC cf) a i dk) := hI
        have HVj : Hid _ := hVj
        clear hw2 hG hI hVj
        have out : (j ≤ a ∨ ltC cf dj[j]! dj[j - 1]! = false) → ∀ q, ∃ i' n' dk', Value.int .i64 ((i : Int) + 1) = .int .i64 (i' : Nat) ∧ a < i' ∧ i' ≤ b + 1 ∧ dk'.size = d.size ∧
            wr.drewN q = rowW w blk off n' dk' ∧ (∀ t, t < d.size → V dk'[t]!) ∧ insOuter (ltC cf) a b i' dk' = insOuter (ltC cf) a b (a + 1) d := fun hs q =>
          ⟨i + 1, m + q, dj, by go_num, by omega, by omega, hsj, by rw [HW.out]; exact rowW_drewN _ _ _ _ _ _, HVj.out,
            by rw [← HO.out, insOuter_goI _ _ _ _ _ hlt, ← HI.out, insInner_stopI _ _ _ _ hs]⟩
        have OUT : Hid _ := out
        clear out
        by_cases hja : a < j
        · have hjd : decide ((a : Int) < (j : Int)) = true := by simpa using hja
          have hc : ∀ nq, Calls Try.prog 35 (#[.int .i64 (G j), .int .i64 (G (j - 1))] ++ bx) (wr.drewN nq) fun e w' => e = .returned (.int .i64 (cf (G j) (G (j - 1)))) ∧ ∃ q, w' = (wr.drewN nq).drewN q := by
            intro nq
            rw [HW.out, rowW_drewN, HG.out, HG.out]
            exact HC.out (m + nq) dj hsj _ _ (HVj.out j (by omega)) (HVj.out (j - 1) (by omega))
          have HCc : Hid _ := hc
          clear hc
          by_cases hl : cf (G j) (G (j - 1)) < 0
          · have HL : Hid (ltC cf (G j) (G (j - 1)) = true) := Lib.hid (decide_eq_true hl)
            go_wp2
            go_quiet (first | (go_at_call 35; refine Calls.quiet_of (HCc.out _)))
            go_wp2
            go_region
            all_goals go_wp2
            go_roundw
            case rel =>
              refine ⟨j - 1, m + (nq + 1), swp dj j (j - 1), by congr 1; omega, by omega, by omega, by rw [size_swp]; exact hsj, ?_, swp_all hsj HVj.out (by omega) (by omega), ?_⟩
              · rw [HW.out, HG.out, HG.out]
                exact rowW_swap w blk off m (nq + 1) dj j (j - 1) (by omega) (by omega)
              · rw [← HI.out, insInner_goI (ltC cf) a j dj hja (by rw [← HG.out, ← HG.out]; exact HL.out)]
            case measure => simp [intOf]; omega
          · have HL : Hid (ltC cf (G j) (G (j - 1)) = false) := Lib.hid (decide_eq_false hl)
            go_wp2
            go_quiet (first | (go_at_call 35; refine Calls.quiet_of (HCc.out _)))
            go_wp2
            go_roundw
            case rel => exact OUT.out (Or.inr (by rw [← HG.out, ← HG.out]; exact HL.out)) nq
            case measure => simp [intOf]; omega
        · have hjd : decide ((a : Int) < (j : Int)) = false := by simpa using hja
          go_wp2
          go_quiet (fail)
          go_wp2
          go_roundw
          case rel => exact OUT.out (Or.inl (by omega)) nq
          case measure => simp [intOf]; omega
    · go_wp2
      go_end0
      exact ⟨rfl, n, by unfold Sort.insertionSort; rw [← HO.out, insOuter, if_neg hlt]⟩

end Go.Proofs.Ytbjjogbnndmmmaa
