/-
  slices.stableCmpFunc and SortStableFunc at []int, up to 64 numbers, by giveAway's own order, from the row of its own places: sorted by the key, then by place.
-/
import Derived.Test.YtbjjogbnndmmmaaSymG
import Derived.Test.YtbjjogbnndmmmaaInsA
namespace Go.Proofs.Ytbjjogbnndmmmaa
open Go.RowKit Go.Sort
set_option linter.unusedVariables false

theorem sym_all (bx : Array Value) (cf : Int → Int → Int) (κ : Int → Int) (V : Int → Prop) (blk off cap N : Nat) (d0 : Array Int) (w : World) (hH : Holds (Value.int .i64) w blk off d0)
    (hκ : ∀ x y, cf x y < 0 ↔ κ y < κ x) (hN : d0.size = N) (hC : CmpR bx cf V blk off N w) (hsz : N < 4611686018427387904) : ∀ k, SymRec bx κ V blk off cap N k w := by
  intro k
  induction k with
  | zero => intro a m b n d h; omega
  | succ k ih =>
    intro a m b n d hk ham hmb hb hs hV h1 h2 hA
    by_cases e1 : m = a + 1
    · subst hN
      have := sym_first bx cf κ V blk off cap a m b n d0 d w hH hκ hC hs (by rw [hs]; exact hV) e1 hmb (by omega) (by omega) h2 hA
      rw [hs] at this; exact this
    · by_cases e2 : b = m + 1
      · subst hN
        have := sym_last bx cf κ V blk off cap a m b n d0 d w hH hκ hC hs (by rw [hs]; exact hV) e2 (by omega) (by omega) (by omega) h1 hA
        rw [hs] at this; exact this
      · refine sym_gen bx cf κ V blk off cap a m b n N ((a + b) / 2) _ _ _ _ d0 d w hH hκ hN hC hs hV (by omega) (by omega) hb hsz h1 h2 hA ?_ rfl rfl rfl rfl rfl
        intro a' m' b' n' d' hk'
        exact ih a' m' b' n' d' (by omega)

/-- What a step of the sort leaves: a part is sorted, the rest as it was. -/
def StepPost (κ : Int → Int) (V : Int → Prop) (w : World) (blk off N a b : Nat) (d : Array Int) (e : Ending) (w' : World) : Prop :=
  e = .returned (.tuple #[]) ∧ ∃ q d', w' = rowW w blk off q d' ∧ d'.size = N ∧ (∀ t, t < N → V d'[t]!) ∧ Seg κ a b d' ∧ ∀ t, t < a ∨ b ≤ t → d'[t]! = d[t]!

theorem ins_row (bx : Array Value) (cf : Int → Int → Int) (κ : Int → Int) (V : Int → Prop) (blk off cap N a b n : Nat) (d0 d : Array Int) (w : World) (hH : Holds (Value.int .i64) w blk off d0)
    (hκ : ∀ x y, cf x y < 0 ↔ κ y < κ x) (hN : d0.size = N) (hC : CmpR bx cf V blk off N w) (hsz : N < 4611686018427387904) (hs : d.size = N) (hV : ∀ t, t < N → V d[t]!) (hab : a ≤ b) (hb : b ≤ N)
    (hid : ∀ t, a ≤ t → t < b → d[t]! = (t : Int)) :
    Calls Try.prog 41 #[.slice (some ⟨blk, off, none⟩) N cap, .int .i64 a, .int .i64 b, .func (.func 35) #[] bx] (rowW w blk off n d) (StepPost κ V w blk off N a b d) := by
  have hC2 : CmpR bx cf V blk off d.size (rowW w blk off n d) := by
    intro m dk hk x y hx hy
    rw [rowW_again _ _ _ _ _ _ _ hk]
    exact hC (n + m) dk (by omega) x y hx hy
  have := ins_walk bx cf V blk off cap a b d (rowW w blk off n d) (rowW_holds hH (by omega)) hC2 (by rw [hs]; exact hV) hab (by omega) (by omega)
  rw [hs] at this
  refine this.mono ?_
  rintro e w' ⟨rfl, q, rfl⟩
  obtain ⟨hp, hg⟩ := ins_seg κ (ltC cf) (fun x y => by unfold ltC; rw [decide_eq_true_iff]; exact hκ x y) a b d hab (by omega) hid
  exact ⟨rfl, n + q, _, rowW_again _ _ _ _ _ _ _ hp.1, hp.1.trans hs, permV hp hs hb hV, hg, hp.2.1⟩

theorem sym_row (bx : Array Value) (cf : Int → Int → Int) (κ : Int → Int) (V : Int → Prop) (blk off cap N a m b n : Nat) (d0 d : Array Int) (w : World) (hH : Holds (Value.int .i64) w blk off d0)
    (hκ : ∀ x y, cf x y < 0 ↔ κ y < κ x) (hN : d0.size = N) (hC : CmpR bx cf V blk off N w) (hsz : N < 4611686018427387904) (hs : d.size = N) (hV : ∀ t, t < N → V d[t]!) (ham : a < m) (hmb : m < b) (hb : b ≤ N)
    (h1 : Seg κ a m d) (h2 : Seg κ m b d) :
    Calls Try.prog 42 #[.slice (some ⟨blk, off, none⟩) N cap, .int .i64 a, .int .i64 m, .int .i64 b, .func (.func 35) #[] bx] (rowW w blk off n d) (StepPost κ V w blk off N a b d) := by
  refine (sym_all bx cf κ V blk off cap N d0 w hH hκ hN hC hsz (b - a + 1) a m b n d (by omega) ham hmb hb hs hV h1.1 h2.1 (h1.apt h2)).mono ?_
  rintro e w' ⟨rfl, q, d', rfl, hp, hg⟩
  exact ⟨rfl, q, d', rfl, hp.1.trans hs, permV hp hs hb hV, h1.merged h2 (by omega) (by omega) (by omega) hp hg, hp.2.1⟩

set_option maxHeartbeats 4000000 in
set_option maxRecDepth 100000 in
theorem stable_19 (bx : Array Value) (cf : Int → Int → Int) (κ : Int → Int) (V : Int → Prop) (blk off cap N : Nat) (d : Array Int) (w : World) (hH : Holds (Value.int .i64) w blk off d)
    (hκ : ∀ x y, cf x y < 0 ↔ κ y < κ x) (hN : d.size = N) (hC : CmpR bx cf V blk off N w) (hV : ∀ t, t < N → V d[t]!) (hid : ∀ t, t < N → d[t]! = (t : Int)) (h : N < 20) :
    Calls Try.prog 39 #[.slice (some ⟨blk, off, none⟩) N cap, .int .i64 N, .func (.func 35) #[] bx] (rowW w blk off 0 d) (StepPost κ V w blk off N 0 N d) := by
  have HI := Lib.hid (ins_row bx cf κ V blk off cap N 0 N 0 d d w hH hκ hN hC (by omega) hN hV (by omega) (by omega) (fun t _ h2 => hid t h2))
  clear hκ hC hV hid
  go_enter Try.func39, Try.ntmps39
  go_wp2_with fail
  refine wp_loop_rounds 1 ?_
  rw [rounds_succ]
  go_wp2_with fail
  refine HI.out.mono ?_
  rintro e w' ⟨rfl, q, d', rfl, h1, h2, h3, h4⟩
  have H := Lib.hid (And.intro h1 (And.intro h2 (And.intro h3 h4)))
  clear h1 h2 h3 h4
  go_wp2_with fail
  refine wp_loop_rounds 1 ?_
  rw [rounds_succ]
  go_wp2_with fail
  go_end0
  exact ⟨rfl, q, d', rfl, H.out⟩

end Go.Proofs.Ytbjjogbnndmmmaa
