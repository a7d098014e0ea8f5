/-
  chattelref01's Order.
-/
import Derived.Test.YtbjjogbnndmmmaaHeldV
import Derived.Test.YtbjjogbnndmmmaaRefL
import Derived.Deep.RegionWith
import Derived.Deep.DeepCutAuto
namespace Go.Proofs.Ytbjjogbnndmmmaa
open Go.RowKit
set_option linter.unusedVariables false

theorem allocB {w w1 : World} {o : Obj} (h : Below (w.alloc o).heap.size (w.alloc o) w1) : Below w.heap.size w w1 := (Below.alloc (Below.refl _ _) (Nat.le_refl _) _).trans (h.mono (by simp))
theorem allocdB {w w1 : World} {o : Obj} (h : Below (w.alloc o).drew.heap.size (w.alloc o).drew w1) : Below w.heap.size w w1 := allocB (undrewB h)

/-- A block of two cells that hold no number yet. -/
structure QB (wx : World) (Q : Nat) : Prop where
  c0 : wx.cell? ⟨Q, 0, none⟩ = some (.bool false)
  c1 : wx.cell? ⟨Q, 1, none⟩ = some (.slice none 0 0)
  f0 : wx.frozen? ⟨Q, 0, none⟩ = false
  f1 : wx.frozen? ⟨Q, 1, none⟩ = false
  lt : Q < wx.heap.size
theorem QB.keep {wx w1 : World} {Q : Nat} (h : QB wx Q) (hb : Below wx.heap.size wx w1) : QB w1 Q := by
  have hc : ∀ i, w1.cell? ⟨Q, i, none⟩ = wx.cell? ⟨Q, i, none⟩ := fun i => hb.cell (p := ⟨Q, i, none⟩) h.lt
  have hf : ∀ i, w1.frozen? ⟨Q, i, none⟩ = wx.frozen? ⟨Q, i, none⟩ := fun i => hb.frozen (p := ⟨Q, i, none⟩) h.lt
  exact ⟨(hc _).trans h.c0, (hc _).trans h.c1, (hf _).trans h.f0, (hf _).trans h.f1, Nat.lt_of_lt_of_le h.lt hb.size⟩
theorem QB.new (w : World) (e : TypeId) : QB (w.alloc (.cells #[.bool false, .slice none 0 0] e)) w.heap.size :=
  ⟨new_at rfl, new_at rfl, World.frozen?_alloc_at _ _ _ _ rfl, World.frozen?_alloc_at _ _ _ _ rfl, by simp⟩
theorem QB.of_drew {w w1 : World} {e : TypeId} (h : Below (w.alloc (.cells #[.bool false, .slice none 0 0] e)).drew.heap.size (w.alloc (.cells #[.bool false, .slice none 0 0] e)).drew w1) : QB w1 w.heap.size := (QB.new w e).keep (undrewB h)
theorem QB.of_alloc {w w1 : World} {e : TypeId} (h : Below (w.alloc (.cells #[.bool false, .slice none 0 0] e)).heap.size (w.alloc (.cells #[.bool false, .slice none 0 0] e)) w1) : QB w1 w.heap.size := (QB.new w e).keep h

/-- The difference, in a block of its own. -/
def OrdCut (w wx : World) (t : Value) (z : Int) : Prop := ∃ (Q : Nat) (s : Bool) (a : Option Addr) (n c : Nat), t = .pointer (some ⟨Q, 0, none⟩) ∧ wx.cell? ⟨Q, 0, none⟩ = some (.bool s) ∧ wx.cell? ⟨Q, 1, none⟩ = some (.slice a n c) ∧ BigV wx (.agg #[.bool s, .slice a n c]) z ∧ Below w.heap.size w wx
theorem OrdCut.of_new {w w2 : World} {s : Bool} {a : Option Addr} {n c : Nat} {z : Int} {e : TypeId} (hb : Below w.heap.size w w2) (h : BigV w2 (.agg #[.bool s, .slice a n c]) z) : OrdCut w (w2.alloc (.cells #[.bool s, .slice a n c] e)) (.pointer (some ⟨w2.heap.size, 0, none⟩)) z :=
  ⟨_, s, a, n, c, rfl, new_at rfl, new_at rfl, h.keep (Below.alloc (Below.refl _ _) (Nat.le_refl _) _), Below.alloc hb hb.size _⟩
theorem OrdCut.of_set {w w2 : World} {Q : Nat} {s : Bool} {a : Option Addr} {n c : Nat} {z : Int} (hb : Below w.heap.size w w2) (h : BigV w2 (.agg #[.bool s, .slice a n c]) z) (q : QB w2 Q) (hQ : w.heap.size ≤ Q) : OrdCut w ((w2.setCell ⟨Q, 0, none⟩ (.bool s)).setCell ⟨Q, 1, none⟩ (.slice a n c)) (.pointer (some ⟨Q, 0, none⟩)) z := by
  have e1 : (w2.setCell ⟨Q, 0, none⟩ (.bool s)).cell? ⟨Q, 1, none⟩ = some (.slice none 0 0) := by rw [cell_other (by intro e; simp at e)]; exact q.c1
  refine ⟨Q, s, a, n, c, rfl, ?_, cell_same e1, (h.set q.c0 (by intro n; simp) _).set e1 (by intro n; simp) _, Below.setCell (Below.setCell hb hQ _) hQ _⟩
  rw [cell_other (by intro e; simp at e)]; exact cell_same q.c0

set_option maxHeartbeats 8000000 in
set_option maxRecDepth 100000 in
theorem rord1_any (x y : Int) (v v' : Value) (w : World) (h : BigV w v x) (h' : BigV w v' y) (lx : x.natAbs < 2 ^ 1000) (ly : y.natAbs < 2 ^ 1000) :
    Calls Try.prog 18 #[v, v'] w fun e w' => e = .returned (.int .i64 (x - y).sign) ∧ Below w.heap.size w w' := by
  obtain ⟨sx, ax, kx, cx, rfl, hx⟩ := h.shape
  obtain ⟨sy, ay, ky, cy, rfl, hy⟩ := h'.shape
  have HX := Lib.hid hx
  have HY := Lib.hid hy
  have HN := Lib.hid (fun v w (h : BigV w v y) => rnegv y v w h)
  have HA := Lib.hid (fun v v' w (h : BigV w v x) (h' : BigV w v' (-y)) => radd_any x (-y) v v' w h h' lx (by rw [Int.natAbs_neg]; exact ly))
  rw [show x + -y = x - y by omega] at HA
  generalize x - y = z at *
  clear h h' hx hy lx ly
  go_enter Try.func18, Try.ntmps18
  go_wp2_with fail
  have HK := Lib.hid (HeldV.two w [.bool sx, .slice ax kx cx] [.bool sy, .slice ay ky cy] 30 30)
  generalize ((w.alloc (.cells #[.bool sx, .slice ax kx cx] 30)).alloc (.cells #[.bool sy, .slice ay ky cy] 30)) = W at HK ⊢
  obtain ⟨x0, _⟩ := HK.out.get 1 rfl 0 rfl
  obtain ⟨x1, _⟩ := HK.out.get 1 rfl 1 rfl
  obtain ⟨y0, _⟩ := HK.out.get 0 rfl 0 rfl
  obtain ⟨y1, _⟩ := HK.out.get 0 rfl 1 rfl
  have lx := HK.out.lt 1 rfl
  have ly := HK.out.lt 0 rfl
  have hWs := HK.out.bel.size
  have HN1 := Lib.hid (HN.out _ W.drew (HY.out.keep HK.out.bel.drew))
  have HN2 := Lib.hid (fun o => HN.out _ (W.alloc o).drew (HY.out.keep (Below.drew (Below.alloc HK.out.bel HK.out.bel.size o))))
  go_cut [5] (fun t wx => OrdCut w wx t z)
  case first =>
    go_region_with (first | (go_at_call 31; (first | (with_reducible refine HN1.out.mono ?_) | refine (HN2.out _).mono ?_); rintro e w1 ⟨⟨v1, rfl, hv1⟩, hb1⟩; obtain ⟨s1, a1, k1, c1, hve, hv1'⟩ := hv1.shape; (first | (have HK1 := Lib.hid (HK.out.keep (undrewB hb1))) | (have HK1 := Lib.hid (HK.out.keep (allocdB hb1)); have HQ1 := Lib.hid (QB.of_drew hb1))); have V1 := Lib.hid hv1'; obtain ⟨x0', _⟩ := HK1.out.get 1 rfl 0 rfl; obtain ⟨x1', _⟩ := HK1.out.get 1 rfl 1 rfl; have lx1 := HK1.out.lt 1 rfl; have HA1 := Lib.hid (HA.out _ _ w1 (HX.out.keep HK1.out.bel) hv1'); have HA2 := Lib.hid (fun o => HA.out _ _ (w1.alloc o) ((HX.out.keep HK1.out.bel).keep (Below.alloc (Below.refl _ _) (Nat.le_refl _) o)) (hv1'.keep (Below.alloc (Below.refl _ _) (Nat.le_refl _) o))); subst hve; clear hv1 hv1' hb1) | (go_at_call 14; (first | (with_reducible refine HA1.out.mono ?_) | refine (HA2.out _).mono ?_); rintro e w2 ⟨⟨v2, rfl, hv2⟩, hb2⟩; obtain ⟨s2, a2, k2, c2, hve2, hv2'⟩ := hv2.shape; have V2 := Lib.hid hv2'; (first | (have HQ2 := Lib.hid (HQ1.out.keep hb2); have HK2 := Lib.hid (HK1.out.keep hb2); obtain ⟨q0, q1, g0, g1, _⟩ := id HQ2.out) | (have HK2 := Lib.hid (HK1.out.keep hb2)) | (have HQ2 := Lib.hid (QB.of_alloc hb2); have HK2 := Lib.hid (HK1.out.keep (allocB hb2)); obtain ⟨q0, q1, g0, g1, _⟩ := id HQ2.out)); subst hve2; clear hv2 hv2' hb2))
    all_goals go_wp2
    all_goals go_meet
    all_goals (first | exact OrdCut.of_new HK2.out.bel V2.out | exact OrdCut.of_set HK2.out.bel V2.out HQ2.out hWs | exact OrdCut.of_set HK2.out.bel V2.out HQ2.out HK1.out.bel.size)
  case rest =>
    obtain ⟨Q, s, a, n, c, rfl, q0, q1, hV, hbel⟩ := hcut
    have HBel := Lib.hid hbel
    obtain ⟨e1, e2⟩ := bigv_sign hV
    have hn := e2.len.1
    have hz := bitsN_len_pos (z := z)
    rw [← hn] at hz
    clear hbel hV e2 hn x0 x1 y0 y1 lx ly
    rcases Int.lt_trichotomy z 0 with g | g | g
    · have hs : s = true := by rw [e1]; exact decide_eq_true g
      have hp : 0 < n := hz.2 (by omega)
      have HS := Lib.hid (Int.sign_eq_neg_one_of_neg g)
      subst hs
      clear e1 hz g
      go_wp2_with fail
      go_ret
      exact ⟨ret_int HS.out.symm, HBel.out⟩
    · have hp : n = 0 := by
        by_cases k : n = 0
        · exact k
        · exact absurd g (hz.1 (by omega))
      subst g; subst hp
      clear e1 hz
      go_wp2_with fail
      go_ret
      exact ⟨rfl, HBel.out⟩
    · have hs : s = false := by rw [e1]; exact decide_eq_false (by omega)
      have hp : 0 < n := hz.2 (by omega)
      have HS := Lib.hid (Int.sign_eq_one_of_pos g)
      subst hs
      clear e1 hz g
      go_wp2_with fail
      go_ret
      exact ⟨ret_int HS.out.symm, HBel.out⟩

end Go.Proofs.Ytbjjogbnndmmmaa
